/- What the proof of FnExactKeep leans on: contracts of the program's and the specification's functions, and plain facts (part 10 of 12). -/
import Derived.Test.YtejoifianjgefaaGreatDoorFnExactKeepI
set_option maxHeartbeats 16000000
set_option maxRecDepth 100000
namespace Go.Proofs.YtejoifianjgefaaGreatDoor
open Go.Proofs.Tryz
open Go.RowKit
open Go.Lib hiding intOf
def capV : Value → Nat → Value
 | .slice o n _, c => .slice o n c
 | v, _ => v
theorem bJ9 (v1 v2 V VB : Value) (kv : Ks) (s : ShD) (B : Nat) (w : World) (h : aD8 w B v1 v2 V VB kv s) (hz : aG1 s) (cX : Nat) :
  Calls prog 81 #[.agg #[v1, v2, V, capV VB cX, .int .i64 s.nx, .int .i64 s.sq]] w fun e w' => bH7 s w e w' := by
 obtain ⟨o1, c1, e1⟩ := aA0 h.disk.cells;obtain ⟨o2, c2, e2⟩ := aA0 h.disk.pend;obtain ⟨o3, c3, e3⟩ := aA0 h.kept.row;obtain ⟨o4, c4, e4⟩ := aA0 h.bans;subst e1 e2 e3 e4;obtain ⟨n1, f0⟩ := exq (s.cs.length);obtain ⟨n2, f1⟩ := exq (s.ws.length);obtain ⟨n3, d4⟩ := exq kv.length;obtain ⟨n4, f2⟩ := exq (s.bl.length);rw [← f0, ← f1, ← d4, ← f2] at h ⊢;have c7 : Hid (s.cs.length = n1 ∧ s.ws.length = n2 ∧ kv.length = n3 ∧ s.bl.length = n4) := ⟨f0.symm, f1.symm, d4.symm, f2.symm⟩;have g5 : Hid (kv.map (·.1) = s.ks) := h.2;have HZ := hid hz;have i2 : n1 ≤ 1048576 := by rw [f0]; exact hz.c
 have i3 : n2 ≤ 1048576 := by rw [f1]; exact hz.w
 have i4 : n3 ≤ 1048576 := by rw [d4, ← List.length_map (f := (·.1)), h.2]; exact hz.k
 have i5 : n4 ≤ 1048576 := by rw [f2]; exact hz.b
 have f4 : Hid (∀ W, Bw w W → aD8 W B (.slice o1 n1 c1) (.slice o2 n2 c2) (.slice o3 n3 c3) (.slice o4 n4 c4) kv s) := fun W hb => h.below hb
 have h5 : Hid (∀ W, Bw w W → aB9 W B (.slice o3 n3 c3) kv) := fun W hb => (h.below hb).kept
 have g6 : Hid (kv.length = n3) := d4.symm;clear f0 f1 d4 f2 h hz
 have g7 : Hid (∀ W, Bw w W → aB8 W o1 n1 s.cs) := fun W hb => by
  have h := (f4.out W hb).disk.cells
  rw [c7.out.1] at h
  exact aC3 h
 have f5 : Hid (∀ W, Bw w W → aP7 W o2 n2 s.ws) := fun W hb => by
  have h := (f4.out W hb).disk.pend
  rw [c7.out.2.1] at h
  exact aG3 h
 have h6 : Hid (∀ W, Bw w W → BanA W o4 n4 s.bl) := fun W hb => by
  have h := (f4.out W hb).bans
  rw [c7.out.2.2.2] at h
  exact aO4 h
 dsimp only [capV];have K0 := jnil w;go_enter func81, ntmps81;go_upto_region 1 with fail
 obtain ⟨q1, f6⟩ := exq (w.heap.size);obtain ⟨w1, d5⟩ := exq (w.alloc (.cells #[.slice o1 n1 c1, .slice o2 n2 c2, .slice o3 n3 c3, .slice o4 n4 cX, .int .i64 s.nx, .int .i64 s.sq] 43));have f7 := f6.symm;rw [← d5]; try rw [← f6];have g8 := hsa d5 f7;have bw := bal d5;have K1 := ja K0 d5 f7;clear bw d5 f7 K0;obtain ⟨q2, f8⟩ := exq (q1 + 1);obtain ⟨w2, d6⟩ := exq (w1.alloc (.cells #[.slice none 0 0, .slice none 0 0, .slice none 0 0, .slice none 0 0, .int .i64 0, .int .i64 0] 43));have f9 : w1.heap.size = q2 := by rw [f8]; exact g8
 rw [← d6]; try rw [← f8];have h7 := hsa d6 f9;have bw := bal d6;have K2 := ja K1 d6 f9;clear bw d6 f9 K1;clear h7 f8 g8 f6;go_upto_region 1 with fail
 have b1 : Hid (∀ W, Below w2.heap.size w2 W → W.heap[q1]? = some (.cells #[.slice o1 n1 c1, .slice o2 n2 c2, .slice o3 n3 c3, .slice o4 n4 cX, .int .i64 s.nx, .int .i64 s.sq] 43)) := fun W h => aA6 (jb K2 1 rfl) h
 go_cut [3] (fun sx wx => ∃ (q : Nat) (oC : Oa) (pC : Nat) (oP : Oa) (pP : Nat), sx = .pointer (some ⟨q, 0, none⟩) ∧ Hid (Below w2.heap.size w2 wx ∧ wx.heap[q]? = some (.cells #[.slice oC n1 pC, .slice oP n2 pP] 39) ∧ w2.heap.size ≤ q ∧ (wx).ownsRow w2.heap.size 9 1 (.slice oC n1 pC) n1 (s.cs.map Value.string) ∧ (wx).ownsRow w2.heap.size 155 2 (.slice oP n2 pP) n2 (aA1 s.ws)))
 case first =>
  refine wp_region_held_drew (S := fun W => W.heap[q1]? = some (.cells #[.slice o1 n1 c1, .slice o2 n2 c2, .slice o3 n3 c3, .slice o4 n4 cX, .int .i64 s.nx, .int .i64 s.sq] 43)) (by kernel_rfl) (b1.out _ (Below.refl _ _).drew) (fun _ => ?_)
  obtain ⟨w3, hX⟩ := exq w2.drew;have bw := bdr hX;rw [← hX];have K3 := jw K2 bw;have a2 := hid bw;clear bw hX;refine tkP 0 (.pointer (some ⟨q1, 0, none⟩)) 4 rfl rfl (b1.out _ a2.out) ?_;go_frame;refine tkP 1 (.pointer (some ⟨q1, 0, none⟩)) 5 rfl rfl (b1.out _ a2.out) ?_;go_frame;refine tkL 2 (.slice o1 n1 c1) 6 rfl rfl (Or.inl ⟨by rfl, by intro W hW; have a5 := hW; have y0 := c6c a5; go_simp⟩) (b1.out _ a2.out) ?_;go_frame;refine tkP 4 (.pointer (some ⟨q1, 0, none⟩)) 8 rfl rfl (b1.out _ a2.out) ?_;go_frame;refine tkP 5 (.pointer (some ⟨q1, 1, none⟩)) 9 rfl rfl (b1.out _ a2.out) ?_;go_frame;refine tkL 6 (.slice o2 n2 c2) 10 rfl rfl (Or.inl ⟨by rfl, by intro W hW; have a5 := hW; have y1 := c6c a5; go_simp⟩) (b1.out _ a2.out) ?_;go_frame;refine wpAnyH_ready (rs := [3, 9]) (by kernel_rfl) (by simp) ?_;refine AllReadyH.cons rfl (fun K hK => ?_) (AllReadyH.cons rfl (fun K hK => ?_) AllReadyH.nil)
  ·go_simp;refine (aD9 _ n1 _ s.cs _ (g7.out _ K3.hb) (by omega) (fun i hi => HZ.out.ct i (by rw [c7.out.1]; exact hi))).mono ?_
   rintro e w4 ⟨va, rfl, a3, bw⟩;obtain ⟨oC, pC, rfl⟩ := aA0 a3;have K4 := jj K3 (jcR (jN bw) a3 jhn);have f3 : Hid (∀ g, (Value.ownBlock (.slice oC n1 pC)) = some g → w3.heap.size ≤ g) := fun g hg => aB7 a3 hg
   clear a3;clear K3;have a4 := hxt a2 bw;have b6 : Hid (w4.ownsRow w2.heap.size 9 1 (.slice oC n1 pC) n1 (s.cs.map Value.string)) := aJ8 (jo K4 0 rfl) (fun g hg => Nat.le_trans a2.out.size (f3.out g hg))
   refine hK.out _ _ (b1.out _ a4.out) (fun _ => ?_)
   clear hK K bw a2;refine wpAnyH_ready (rs := [7, 9]) (by kernel_rfl) (by simp) ?_;refine AllReadyH.cons rfl (fun K hK => ?_) (AllReadyH.cons rfl (fun K hK => ?_) AllReadyH.nil)
   ·go_simp;refine (aE0 _ n2 _ s.ws _ (f5.out _ K4.hb) (by omega) HZ.out.wt).mono ?_;rintro e w5 ⟨va, rfl, a3, bw⟩;obtain ⟨oP, pP, rfl⟩ := aA0 a3;have K5 := jj K4 (jcR (jN bw) a3 jhn);have d3 : Hid (∀ g, (Value.ownBlock (.slice oP n2 pP)) = some g → w4.heap.size ≤ g) := fun g hg => aB7 a3 hg
    clear a3;clear K4;have a1 := hxt a4 bw;have a6 := hown b6 bw;have d0 : Hid (w5.ownsRow w2.heap.size 155 2 (.slice oP n2 pP) n2 (aA1 s.ws)) := aJ8 (jo K5 0 rfl) (fun g hg => Nat.le_trans a4.out.size (d3.out g hg))
    refine hK.out _ _ (b1.out _ a1.out) (fun _ => ?_)
    clear hK K bw a4;refine tkP 8 (.agg #[.slice oC n1 pC, .slice oP n2 pP]) 12 rfl rfl (b1.out _ a1.out) ?_;go_frame;refine rd1 9 rfl (fun K hK => ?_)
    go_simp;have c8 : Hid (Below w2.heap.size w2 (w5.alloc (.cells #[.slice none 0 0, .slice none 0 0] 39))) := a1.out.alloc a1.out.size _;refine hK.out _ _ (b1.out _ c8.out) (fun _ => ?_)
    clear hK K c8;obtain ⟨pa, ho⟩ := exq (w5.heap.size);obtain ⟨w6, b5⟩ := exq (w5.alloc (.cells #[.slice none 0 0, .slice none 0 0] 39));rw [← ho, ← b5];have b7 : Hid (w2.heap.size ≤ pa) := by show _ ≤ _; rw [ho]; exact a1.out.size
    have bw := bal b5;have K6 := jw K5 bw;have b2 := hxt a1 bw;have a7 := hown a6 bw;have a8 := hown d0 bw;have a0 : Hid (w6.heap[pa]? = some (.cells #[.slice none 0 0, .slice none 0 0] 39)) := by show _ = _; rw [b5, ho]; exact heap_alloc_new _ _
    clear bw ho b5 a1 K5;refine rd1 10 rfl (fun K hK => ?_)
    have d1 := c2f a0.out;obtain ⟨w7, hY⟩ := exq (((w6.setCell ⟨pa, 0, none⟩ (.slice oC n1 pC)).setCell ⟨pa, 1, none⟩ (.slice oP n2 pP)));have HY := hsy hY;have b3 : Hid (Below w2.heap.size w2 w7) := by show Below _ _ _; rw [hY]; exact ((b2.out.setCell (p := ⟨pa, 0, none⟩) b7.out _).setCell (p := ⟨pa, 1, none⟩) b7.out _)
    have b4 := hid (jbs [(0, _), (1, _)] a0.out hY);have a9 := hid (jrr [(0, _), (1, _)] a7.out hY a0.out);have b0 := hid (jrr [(0, _), (1, _)] a8.out hY a0.out);clear hY;go_simp;rw [HY.out];refine hK.out _ _ (b1.out _ b3.out) (fun _ => ?_)
    clear hK K HY d1;refine wdn ?_;go_wp2_with fail
    go_meet
    exact ⟨pa, oC, pC, oP, pP, rfl, ⟨b3.out, b4.out, b7.out, a9.out, b0.out⟩⟩
   go_simp;have c8 : Hid (Below w2.heap.size w2 (w4.alloc (.cells #[.slice none 0 0, .slice none 0 0] 39))) := a4.out.alloc a4.out.size _;refine hK.out _ _ (b1.out _ c8.out) (fun _ => ?_)
   clear hK K c8;obtain ⟨pa, ho⟩ := exq (w4.heap.size);obtain ⟨w5, b5⟩ := exq (w4.alloc (.cells #[.slice none 0 0, .slice none 0 0] 39));rw [← ho, ← b5];have b7 : Hid (w2.heap.size ≤ pa) := by show _ ≤ _; rw [ho]; exact a4.out.size
   have bw := bal b5;have K5 := jw K4 bw;have a1 := hxt a4 bw;have a6 := hown b6 bw;have b8 : Hid (w5.heap[pa]? = some (.cells #[.slice none 0 0, .slice none 0 0] 39)) := by show _ = _; rw [b5, ho]; exact heap_alloc_new _ _
   clear bw ho b5 a4 K4;refine rd1 7 rfl (fun K hK => ?_)
   go_simp;refine (aE0 _ n2 _ s.ws _ (f5.out _ K5.hb) (by omega) HZ.out.wt).mono ?_;rintro e w6 ⟨va, rfl, a3, bw⟩;obtain ⟨oP, pP, rfl⟩ := aA0 a3;have K6 := jj K5 (jcR (jN bw) a3 jhn);have d3 : Hid (∀ g, (Value.ownBlock (.slice oP n2 pP)) = some g → w5.heap.size ≤ g) := fun g hg => aB7 a3 hg
   clear a3;clear K5;have b2 := hxt a1 bw;have a0 := hblk b8 bw;have a7 := hown a6 bw;have a8 : Hid (w6.ownsRow w2.heap.size 155 2 (.slice oP n2 pP) n2 (aA1 s.ws)) := aJ8 (jo K6 0 rfl) (fun g hg => Nat.le_trans a1.out.size (d3.out g hg))
   refine hK.out _ _ (b1.out _ b2.out) (fun _ => ?_)
   clear hK K bw a1;refine tkP 8 (.agg #[.slice oC n1 pC, .slice oP n2 pP]) 12 rfl rfl (b1.out _ b2.out) ?_;go_frame;refine rd1 10 rfl (fun K hK => ?_)
   have d1 := c2f a0.out;obtain ⟨w7, hY⟩ := exq (((w6.setCell ⟨pa, 0, none⟩ (.slice oC n1 pC)).setCell ⟨pa, 1, none⟩ (.slice oP n2 pP)));have HY := hsy hY;have b3 : Hid (Below w2.heap.size w2 w7) := by show Below _ _ _; rw [hY]; exact ((b2.out.setCell (p := ⟨pa, 0, none⟩) b7.out _).setCell (p := ⟨pa, 1, none⟩) b7.out _)
   have b4 := hid (jbs [(0, _), (1, _)] a0.out hY);have a9 := hid (jrr [(0, _), (1, _)] a7.out hY a0.out);have b0 := hid (jrr [(0, _), (1, _)] a8.out hY a0.out);clear hY;go_simp;rw [HY.out];refine hK.out _ _ (b1.out _ b3.out) (fun _ => ?_)
   clear hK K HY d1;refine wdn ?_;go_wp2_with fail
   go_meet
   exact ⟨pa, oC, pC, oP, pP, rfl, ⟨b3.out, b4.out, b7.out, a9.out, b0.out⟩⟩
  go_simp;have c8 : Hid (Below w2.heap.size w2 (w3.alloc (.cells #[.slice none 0 0, .slice none 0 0] 39))) := a2.out.alloc a2.out.size _;refine hK.out _ _ (b1.out _ c8.out) (fun _ => ?_)
  clear hK K c8;obtain ⟨pa, ho⟩ := exq (w3.heap.size);obtain ⟨w4, b5⟩ := exq (w3.alloc (.cells #[.slice none 0 0, .slice none 0 0] 39));rw [← ho, ← b5];have b7 : Hid (w2.heap.size ≤ pa) := by show _ ≤ _; rw [ho]; exact a2.out.size
  have bw := bal b5;have K4 := jw K3 bw;have a4 := hxt a2 bw;have d7 : Hid (w4.heap[pa]? = some (.cells #[.slice none 0 0, .slice none 0 0] 39)) := by show _ = _; rw [b5, ho]; exact heap_alloc_new _ _
  clear bw ho b5 a2 K3;refine rd1 3 rfl (fun K hK => ?_)
  go_simp;refine (aD9 _ n1 _ s.cs _ (g7.out _ K4.hb) (by omega) (fun i hi => HZ.out.ct i (by rw [c7.out.1]; exact hi))).mono ?_
  rintro e w5 ⟨va, rfl, a3, bw⟩;obtain ⟨oC, pC, rfl⟩ := aA0 a3;have K5 := jj K4 (jcR (jN bw) a3 jhn);have f3 : Hid (∀ g, (Value.ownBlock (.slice oC n1 pC)) = some g → w4.heap.size ≤ g) := fun g hg => aB7 a3 hg
  clear a3;clear K4;have a1 := hxt a4 bw;have b8 := hblk d7 bw;have a6 : Hid (w5.ownsRow w2.heap.size 9 1 (.slice oC n1 pC) n1 (s.cs.map Value.string)) := aJ8 (jo K5 0 rfl) (fun g hg => Nat.le_trans a4.out.size (f3.out g hg))
  refine hK.out _ _ (b1.out _ a1.out) (fun _ => ?_)
  clear hK K bw a4;refine rd1 7 rfl (fun K hK => ?_)
  go_simp;refine (aE0 _ n2 _ s.ws _ (f5.out _ K5.hb) (by omega) HZ.out.wt).mono ?_;rintro e w6 ⟨va, rfl, a3, bw⟩;obtain ⟨oP, pP, rfl⟩ := aA0 a3;have K6 := jj K5 (jcR (jN bw) a3 jhn);have d3 : Hid (∀ g, (Value.ownBlock (.slice oP n2 pP)) = some g → w5.heap.size ≤ g) := fun g hg => aB7 a3 hg
  clear a3;clear K5;have b2 := hxt a1 bw;have a0 := hblk b8 bw;have a7 := hown a6 bw;have a8 : Hid (w6.ownsRow w2.heap.size 155 2 (.slice oP n2 pP) n2 (aA1 s.ws)) := aJ8 (jo K6 0 rfl) (fun g hg => Nat.le_trans a1.out.size (d3.out g hg))
  refine hK.out _ _ (b1.out _ b2.out) (fun _ => ?_)
  clear hK K bw a1;refine tkP 8 (.agg #[.slice oC n1 pC, .slice oP n2 pP]) 12 rfl rfl (b1.out _ b2.out) ?_;go_frame;refine rd1 10 rfl (fun K hK => ?_)
  have d1 := c2f a0.out;obtain ⟨w7, hY⟩ := exq (((w6.setCell ⟨pa, 0, none⟩ (.slice oC n1 pC)).setCell ⟨pa, 1, none⟩ (.slice oP n2 pP)));have HY := hsy hY;have b3 : Hid (Below w2.heap.size w2 w7) := by show Below _ _ _; rw [hY]; exact ((b2.out.setCell (p := ⟨pa, 0, none⟩) b7.out _).setCell (p := ⟨pa, 1, none⟩) b7.out _)
  have b4 := hid (jbs [(0, _), (1, _)] a0.out hY);have a9 := hid (jrr [(0, _), (1, _)] a7.out hY a0.out);have b0 := hid (jrr [(0, _), (1, _)] a8.out hY a0.out);clear hY;go_simp;rw [HY.out];refine hK.out _ _ (b1.out _ b3.out) (fun _ => ?_)
  clear hK K HY d1;refine wdn ?_;go_wp2_with fail
  go_meet
  exact ⟨pa, oC, pC, oP, pP, rfl, ⟨b3.out, b4.out, b7.out, a9.out, b0.out⟩⟩
 case rest =>
 obtain ⟨q3, oC, pC, oP, pP, g9, HF⟩ := hcut;rw [g9];obtain ⟨w3, h0⟩ := exq wc;rw [← h0] at HF ⊢;clear g9 h0 b1;obtain ⟨bw, c9, h8, c5, c6⟩ := HF.out;have d8 : Hid (q2 ≠ q3) := fun e => by have h1 := (Array.getElem?_eq_some_iff.1 (jb K2 0 rfl)).1; omega
 have K3 := jj K2 (jcR (jcR (jN bw) c5 jhn) c6 (jhc (jty c6 c5) jhn));have f3 := hlo c5;have d3 := hlo c6;have d9 := hid c9;clear bw c9 h8 HF c5 c6 K2;go_upto_region 2 with fail
 refine wp_region_held_drew (S := fun W => W.heap[q3]? = some (.cells #[.slice oC n1 pC, .slice oP n2 pP] 39) ∧ W.heap[q1]? = some (.cells #[.slice o1 n1 c1, .slice o2 n2 c2, .slice o3 n3 c3, .slice o4 n4 cX, .int .i64 s.nx, .int .i64 s.sq] 43)) (by kernel_rfl) ⟨d9.out, (jb K3 3 rfl)⟩ (fun _ => ?_)
 obtain ⟨w4, hX⟩ := exq w3.drew;have bw := bdr hX;rw [← hX];have K4 := jw K3 bw;have e0 := hblk d9 bw;have c0 := And.intro e0.out (jb K4 3 rfl);clear bw hX K3;refine tkL 0 (.agg #[.slice oC n1 pC, .slice oP n2 pP]) 13 rfl rfl (Or.inl ⟨by rfl, by intro W hW; obtain ⟨b9, a5⟩ := hW; have y0 := c2c b9; go_simp⟩) c0 ?_;go_frame;refine tkP 1 (.pointer (some ⟨q1, 2, none⟩)) 14 rfl rfl c0 ?_;go_frame;refine tkL 2 (.slice o3 n3 c3) 15 rfl rfl (Or.inl ⟨by rfl, by intro W hW; obtain ⟨b9, a5⟩ := hW; have y2 := c6c a5; go_simp⟩) c0 ?_;go_frame;refine tkP 4 (.pointer (some ⟨q1, 3, none⟩)) 17 rfl rfl c0 ?_;go_frame;refine tkL 5 (.slice o4 n4 cX) 18 rfl rfl (Or.inl ⟨by rfl, by intro W hW; obtain ⟨b9, a5⟩ := hW; have y3 := c6c a5; go_simp⟩) c0 ?_;go_frame;refine tkP 7 (.pointer (some ⟨q1, 4, none⟩)) 20 rfl rfl c0 ?_;go_frame;refine tkL 8 (.int .i64 s.nx) 21 rfl rfl (Or.inl ⟨by rfl, by intro W hW; obtain ⟨b9, a5⟩ := hW; have y4 := c6c a5; go_simp⟩) c0 ?_;go_frame;refine tkP 9 (.pointer (some ⟨q1, 5, none⟩)) 22 rfl rfl c0 ?_;go_frame;refine tkL 10 (.int .i64 s.sq) 23 rfl rfl (Or.inl ⟨by rfl, by intro W hW; obtain ⟨b9, a5⟩ := hW; have y5 := c6c a5; go_simp⟩) c0 ?_;go_frame;refine rd1 3 rfl (fun K hK => ?_)
 go_simp;refine (aY0 _ kv B _ (h5.out _ K4.hb) (by rw [g6.out]; omega) (fun x hx => HZ.out.kv g5.out hx)).mono ?_
 rintro e w5 ⟨VK, kw, rfl, g0, g1, bw⟩;have h9 : Hid (kw.map (·.1) = s.ks) := g0.trans g5.out;obtain ⟨oK, pK, h2⟩ := g1.len;rw [show kw.length = n3 from by rw [← g6.out, ← List.length_map (f := (·.1)), g0, List.length_map]] at h2;subst h2;have e5 : Hid (aA2 w5 w.heap.size ([(⟨9, 1, (.slice oC n1 pC), n1, s.cs.map Value.string⟩ : Rw), (⟨155, 2, (.slice oP n2 pP), n2, aA1 s.ws⟩ : Rw)] ++ aC9 (.slice oK n3 pK) kw)) := (aS6 ⟨(jo K4 1 rfl), (jo K4 0 rfl)⟩).more bw g1 (Nat.le_refl _) K4.hb.size
 have i0 : Hid (∀ r ∈ ([(⟨9, 1, (.slice oC n1 pC), n1, s.cs.map Value.string⟩ : Rw), (⟨155, 2, (.slice oP n2 pP), n2, aA1 s.ws⟩ : Rw)] ++ aC9 (.slice oK n3 pK) kw), 43 ≠ r.T) := by
  intro r hr
  rcases List.mem_append.1 hr with hr | hr
  ·simp only [List.mem_cons, List.not_mem_nil, or_false] at hr
   rcases hr with rfl | rfl
   ·exact (by decide : (43 : TypeId) ≠ 9)
   ·exact (by decide : (43 : TypeId) ≠ 155)
  ·rcases bB9 hr with e | e | e <;> rw [e] <;> decide
 clear g0 g1;have K5 := jw K4 bw;have e6 := hblk e0 bw;clear bw K4;have e7 := e5;clear e5;have h3 := And.intro e6.out (jb K5 3 rfl);refine hK.out _ _ h3 (fun _ => ?_)
 clear hK K c0;refine rd1 6 rfl (fun K hK => ?_)
 go_simp;refine (aY1 _ n4 _ s.bl _ (h6.out _ K5.hb) (by omega) HZ.out.bt).mono ?_;rintro e w6 ⟨va, rfl, a3, bw⟩;obtain ⟨oB, pB, rfl⟩ := aA0 a3;have e5 : Hid (aA2 w6 w.heap.size (([(⟨9, 1, (.slice oC n1 pC), n1, s.cs.map Value.string⟩ : Rw), (⟨155, 2, (.slice oP n2 pP), n2, aA1 s.ws⟩ : Rw)] ++ aC9 (.slice oK n3 pK) kw) ++ [(⟨62, 4, (.slice oB n4 pB), n4, aB1 s.bl⟩ : Rw)])) := e7.out.more bw (aA2.one (r := (⟨62, 4, (.slice oB n4 pB), n4, aB1 s.bl⟩ : Rw)) a3) (Nat.le_refl _) K5.hb.size
 have i1 : Hid (∀ r ∈ (([(⟨9, 1, (.slice oC n1 pC), n1, s.cs.map Value.string⟩ : Rw), (⟨155, 2, (.slice oP n2 pP), n2, aA1 s.ws⟩ : Rw)] ++ aC9 (.slice oK n3 pK) kw) ++ [(⟨62, 4, (.slice oB n4 pB), n4, aB1 s.bl⟩ : Rw)]), 43 ≠ r.T) := by
  intro r hr
  rcases List.mem_append.1 hr with hr | hr
  ·exact i0.out r hr
  ·rw [List.mem_singleton.1 hr]
   exact (by decide : (43 : TypeId) ≠ 62)
 clear a3;have K6 := jw K5 bw;have e8 := hblk e6 bw;have d2 := hid (e7.out.below bw);clear bw K5;clear d2;have d2 := e5;clear e5;have g2 := And.intro e8.out (jb K6 3 rfl);refine hK.out _ _ g2 (fun _ => ?_)
 clear hK K h3;refine tkP 11 (.agg #[.slice oC n1 pC, .slice oP n2 pP, .slice oK n3 pK, .slice oB n4 pB, .int .i64 s.nx, .int .i64 s.sq]) 24 rfl rfl g2 ?_;go_frame;refine rd1 12 rfl (fun K hK => ?_)
 have d1 := c6f (jb K6 2 rfl);obtain ⟨w7, hY⟩ := exq (((((((w6.setCell ⟨q2, 0, none⟩ (.slice oC n1 pC)).setCell ⟨q2, 1, none⟩ (.slice oP n2 pP)).setCell ⟨q2, 2, none⟩ (.slice oK n3 pK)).setCell ⟨q2, 3, none⟩ (.slice oB n4 pB)).setCell ⟨q2, 4, none⟩ (.int .i64 s.nx)).setCell ⟨q2, 5, none⟩ (.int .i64 s.sq)));have HY := hsy hY;have K7 := jss K6 2 [(0, _), (1, _), (2, _), (3, _), (4, _), (5, _)] hY;have g3 := hid (jbo [(0, _), (1, _), (2, _), (3, _), (4, _), (5, _)] e8.out hY d8.out.symm);have g4 := hid (jrs [(0, _), (1, _), (2, _), (3, _), (4, _), (5, _)] d2.out hY (jb K6 2 rfl) (i1.out));clear hY K6;go_simp;rw [HY.out];have h4 := And.intro g3.out (jb K7 3 rfl);refine hK.out _ _ h4 (fun _ => ?_)
 clear hK K HY g2 d1;clear h4;refine wdn ?_;go_wp2_with fail
 have e9 := c6c (jb K7 2 rfl);refine bodyPost_ret (v := .agg #[.slice oC n1 pC, .slice oP n2 pP, .slice oK n3 pK, .slice oB n4 pB, .int .i64 s.nx, .int .i64 s.sq]) (by simp [results, results81, go_sem, e9]) rfl ?_;refine ⟨.slice oC n1 pC, .slice oP n2 pP, .slice oK n3 pK, .slice oB n4 pB, kw, rfl, ⟨?_, h9.out⟩, K7.hb⟩;have h := g4.out;unfold aB4;rw [c7.out.1, c7.out.2.1, c7.out.2.2.2];exact h
theorem cI6 (c b n : Nat) (D : DataW Value) (v1 v2 V VB : Value) (kv : Ks) (cs : Ts) (ws : List (Int × ByteArray)) (bl : Bs) (nx sq : Int) (B : Nat) (w : World) (cX : Nat) (hq : w.heap[c]? = some (.cells #[v1, v2, V, capV VB cX, .int .i64 nx, .int .i64 sq, .map (some b)] 143)) (hko : aC0 w b n D) (hmi : aM5 D kv) (hap : aG2 kv) (hsl : aO2 kv) (hn : n ≤ 1048576) (hr : aA2 w B (aJ5 v1 v2 VB cs ws bl ++ kv.flatMap kpR)) (hB : B ≤ w.heap.size) (hz : aG1 ⟨cs, ws, kv.map (·.1), bl, nx, sq⟩) :
  Calls prog 106 #[.pointer (some ⟨c, 0, none⟩)] w fun e w' => cQ1 c kv cs ws bl nx sq w e w' := by
 have a8 := hid hq;have c8 : Hid (aC0 w b n D) := hko;have h0 : Hid (aA2 w B (aJ5 v1 v2 VB cs ws bl ++ kv.flatMap kpR)) := hr;have j6 := hid hmi;have j7 := hid hap;have j8 := hid hsl;have HZ := hid hz;have j9 : kv.length ≤ 1048576 := by have h1 := hz.k; dsimp only at h1; rw [List.length_map] at h1; exact h1
 have k0 := hid hB;have l7 : Hid (NoTy (aJ5 v1 v2 VB cs ws bl ++ kv.flatMap kpR)) := cE1;have k1 : Hid (∀ (gL pL : Nat) (a6 : Ks), NoTy (aB4 v1 v2 (.slice (some ⟨gL, 0, none⟩) a6.length pL) VB a6 cs ws bl)) := fun gL pL a6 => aG6
 clear hq hko hr hmi hap hsl hz hB;have h2 : w.grownBy w (some c) := World.grownBy.refl _ _;go_enter func106, ntmps106;go_upto_region 1 with fail
 obtain ⟨q1, h3⟩ := exq (w.heap.size);obtain ⟨w1, f0⟩ := exq (w.alloc (.cells #[.slice none 0 0, .slice none 0 0, .slice none 0 0, .slice none 0 0, .int .i64 0, .int .i64 0] 43));have f1 := h3.symm;rw [← f0]; try rw [← h3];have k2 := hsa f0 f1;have bw := bal f0;have h4 : w.grownBy w1 (some c) := aI1 h2 (aF9 bw _);have a9 := hblk a8 bw;have b0 : Hid (aC0 w1 b n (D)) := aF0 c8.out bw;have f2 := hid (h0.out.below bw);have a0 := hnq a8 f1;have h5 := hnew f0 f1;have e9 := hgg f1 h2.size;clear h2 bw f0 f1;clear k2 h3;have f3 := (k7c a9).2.2.2.2.2.2;go_wp2_with fail
 refine (cQ0 b n D kv _ b0.out j6.out j7.out j8.out hn j9).mono ?_;rintro e w2 ⟨a6, gL, pL, rfl, hp, f4, hown, bw⟩;have HP : Hid (a6.Perm kv ∧ a6.Pairwise (fun x y => x.1.q ≤ y.1.q)) := ⟨hp, f4⟩
 have i8 : Hid (aA2 w2 B (aB4 v1 v2 (.slice (some ⟨gL, 0, none⟩) a6.length pL) VB a6 cs ws bl)) := cM8 f2.out bw hp hown (Nat.le_trans k0.out h4.size);clear hp f4 hown;have i9 : w.grownBy w2 (some c) := aI1 h4 (aF9 bw _);have a3 := hblk a9 bw;have h6 := hblk h5 bw;have b1 : Hid (aC0 w2 b n (D)) := aF0 b0.out bw;have c9 := hid (f2.out.below bw);clear h4 bw;clear c9;have c9 := i8;clear i8;clear f3;have b2 := (k7c a3).2.2.1;have d0 := hfz a3 2;go_upto_region 2 with fail
 obtain ⟨w3, d1⟩ := exq (w2.setCell ⟨c, 2, none⟩ (.slice (some ⟨gL, 0, none⟩) a6.length pL));rw [← d1];have h7 : w.grownBy w3 (some c) := by rw [d1]; exact (aF3 i9 2 _)
 have h8 := hset d1 a0.out.symm h6;have d2 : Hid (aC0 w3 b n (D)) := by show aC0 _ _ _ _; rw [d1]; exact World.ownsMap.setCell b1.out (aV9 b1.out a3.out) _
 have f5 : Hid (aA2 (w3) B (aB4 v1 v2 (.slice (some ⟨gL, 0, none⟩) a6.length pL) VB a6 cs ws bl)) := by show aA2 _ _ _; rw [d1]; exact aA2.other c9.out a3.out (k1.out gL pL a6 143 (by decide) (by decide) (by decide) (by decide) (by decide))
 have a1 := hput d1 a3;clear i9 d1;clear b2 d0;have f6 := (k7c a1).1;have f7 := (k7c a1).2.1;have b2 := (k7c a1).2.2.1;have f8 := (k7c a1).2.2.2.1;have f9 := (k7c a1).2.2.2.2.1;have g0 := (k7c a1).2.2.2.2.2.1;have k3 : Hid (w.heap.size ≤ w3.heap.size) := h7.size;go_wp2_with fail
 refine (bJ9 v1 v2 (.slice (some ⟨gL, 0, none⟩) a6.length pL) VB a6 (⟨cs, ws, a6.map (·.1), bl, nx, sq⟩ : ShD) B _ ⟨f5.out, rfl⟩ (cI2 HZ.out HP.out.1) cX).mono ?_;rintro e w4 ⟨va, vb, vc, vd, a5, rfl, c7, bw⟩;obtain ⟨b9, c0, rfl⟩ := aA0 c7.disk.cells;obtain ⟨c1, c2, rfl⟩ := aA0 c7.disk.pend;obtain ⟨c3, c4, rfl⟩ := c7.kept.len;obtain ⟨c5, c6, rfl⟩ := aA0 c7.bans;dsimp only at c7 ⊢;have j0 : w.grownBy w4 (some c) := aI1 h7 (aF9 bw _);have d3 := hblk a1 bw;have a2 := hblk h8 bw;have b3 : Hid (aC0 w4 b n (D)) := aF0 d2.out bw;have h9 := hid (f5.out.below bw);clear h7 bw;clear h9;have i0 : Hid (aA2 w4 w.heap.size (aB4 (.slice b9 cs.length c0) (.slice c1 ws.length c2) (.slice c3 a5.length c4) (.slice c5 bl.length c6) a5 cs ws bl)) := aA2.wide c7.1 k3.out;have k4 : Hid (a5.map (·.1) = a6.map (·.1)) := c7.2;clear c7;clear f6 f7 b2 f8 f9 g0;have k5 := (k6c a2).1;have k6 := hfz a2 0;have k7 := (k6c a2).2.1;have k8 := hfz a2 1;have k9 := (k6c a2).2.2.1;have l0 := hfz a2 2;have l1 := (k6c a2).2.2.2.1;have l2 := hfz a2 3;have l3 := (k6c a2).2.2.2.2.1;have l4 := hfz a2 4;have l5 := (k6c a2).2.2.2.2.2;have l6 := hfz a2 5;go_wp2_with fail
 obtain ⟨w5, d4⟩ := exq (w4.setCell ⟨q1, 0, none⟩ (.slice b9 cs.length c0));rw [← d4];have j1 : w.grownBy w5 (some c) := by rw [d4]; exact (aS9 j0 e9.out 0 _)
 have d5 := hset d4 a0.out d3;have b4 : Hid (aC0 w5 b n (D)) := by show aC0 _ _ _ _; rw [d4]; exact World.ownsMap.setCell b3.out (aV9 b3.out a2.out) _
 have i1 : Hid (aA2 (w5) w.heap.size (aB4 (.slice b9 cs.length c0) (.slice c1 ws.length c2) (.slice c3 a5.length c4) (.slice c5 bl.length c6) a5 cs ws bl)) := by show aA2 _ _ _; rw [d4]; exact aA2.other i0.out a2.out (aG6 43 (by decide) (by decide) (by decide) (by decide) (by decide))
 have d6 := hput d4 a2;clear j0 d4;obtain ⟨w6, d7⟩ := exq (w5.setCell ⟨q1, 1, none⟩ (.slice c1 ws.length c2));rw [← d7];have j2 : w.grownBy w6 (some c) := by rw [d7]; exact (aS9 j1 e9.out 1 _)
 have d8 := hset d7 a0.out d5;have b5 : Hid (aC0 w6 b n (D)) := by show aC0 _ _ _ _; rw [d7]; exact World.ownsMap.setCell b4.out (aV9 b4.out d6.out) _
 have i2 : Hid (aA2 (w6) w.heap.size (aB4 (.slice b9 cs.length c0) (.slice c1 ws.length c2) (.slice c3 a5.length c4) (.slice c5 bl.length c6) a5 cs ws bl)) := by show aA2 _ _ _; rw [d7]; exact aA2.other i1.out d6.out (aG6 43 (by decide) (by decide) (by decide) (by decide) (by decide))
 have d9 := hput d7 d6;clear j1 d7;obtain ⟨w7, e0⟩ := exq (w6.setCell ⟨q1, 2, none⟩ (.slice c3 a5.length c4));rw [← e0];have j3 : w.grownBy w7 (some c) := by rw [e0]; exact (aS9 j2 e9.out 2 _)
 have e1 := hset e0 a0.out d8;have b6 : Hid (aC0 w7 b n (D)) := by show aC0 _ _ _ _; rw [e0]; exact World.ownsMap.setCell b5.out (aV9 b5.out d9.out) _
 have i3 : Hid (aA2 (w7) w.heap.size (aB4 (.slice b9 cs.length c0) (.slice c1 ws.length c2) (.slice c3 a5.length c4) (.slice c5 bl.length c6) a5 cs ws bl)) := by show aA2 _ _ _; rw [e0]; exact aA2.other i2.out d9.out (aG6 43 (by decide) (by decide) (by decide) (by decide) (by decide))
 have e2 := hput e0 d9;clear j2 e0;obtain ⟨w8, e3⟩ := exq (w7.setCell ⟨q1, 3, none⟩ (.slice c5 bl.length c6));rw [← e3];have j4 : w.grownBy w8 (some c) := by rw [e3]; exact (aS9 j3 e9.out 3 _)
 have e4 := hset e3 a0.out e1;have b7 : Hid (aC0 w8 b n (D)) := by show aC0 _ _ _ _; rw [e3]; exact World.ownsMap.setCell b6.out (aV9 b6.out e2.out) _
 have i4 : Hid (aA2 (w8) w.heap.size (aB4 (.slice b9 cs.length c0) (.slice c1 ws.length c2) (.slice c3 a5.length c4) (.slice c5 bl.length c6) a5 cs ws bl)) := by show aA2 _ _ _; rw [e3]; exact aA2.other i3.out e2.out (aG6 43 (by decide) (by decide) (by decide) (by decide) (by decide))
 have e5 := hput e3 e2;clear j3 e3;obtain ⟨w9, e6⟩ := exq (w8.setCell ⟨q1, 4, none⟩ (.int .i64 nx));rw [← e6];have j5 : w.grownBy w9 (some c) := by rw [e6]; exact (aS9 j4 e9.out 4 _)
 have e7 := hset e6 a0.out e4;have b8 : Hid (aC0 w9 b n (D)) := by show aC0 _ _ _ _; rw [e6]; exact World.ownsMap.setCell b7.out (aV9 b7.out e5.out) _
 have i5 : Hid (aA2 (w9) w.heap.size (aB4 (.slice b9 cs.length c0) (.slice c1 ws.length c2) (.slice c3 a5.length c4) (.slice c5 bl.length c6) a5 cs ws bl)) := by show aA2 _ _ _; rw [e6]; exact aA2.other i4.out e5.out (aG6 43 (by decide) (by decide) (by decide) (by decide) (by decide))
 have e8 := hput e6 e5;clear j4 e6;obtain ⟨i6, a7⟩ := exq (w9.setCell ⟨q1, 5, none⟩ (.int .i64 sq));rw [← a7];have i7 : w.grownBy i6 (some c) := by rw [a7]; exact (aS9 j5 e9.out 5 _)
 have g8 := hset a7 a0.out e7;have g9 : Hid (aC0 i6 b n (D)) := by show aC0 _ _ _ _; rw [a7]; exact World.ownsMap.setCell b8.out (aV9 b8.out e8.out) _
 have g1 : Hid (aA2 (i6) w.heap.size (aB4 (.slice b9 cs.length c0) (.slice c1 ws.length c2) (.slice c3 a5.length c4) (.slice c5 bl.length c6) a5 cs ws bl)) := by show aA2 _ _ _; rw [a7]; exact aA2.other i5.out e8.out (aG6 43 (by decide) (by decide) (by decide) (by decide) (by decide))
 have a4 := hput a7 e8;clear j5 a7;have g2 := (k6c a4).1;have g3 := (k6c a4).2.1;have g4 := (k6c a4).2.2.1;have g5 := (k6c a4).2.2.2.1;have g6 := (k6c a4).2.2.2.2.1;have g7 := (k6c a4).2.2.2.2.2;refine bodyPost_ret (v := .agg #[.slice b9 cs.length c0, .slice c1 ws.length c2, .slice c3 a5.length c4, .slice c5 bl.length c6, .int .i64 nx, .int .i64 sq]) (by simp [results, results106, go_sem, g2, g3, g4, g5, g6, g7]) rfl ?_;exact ⟨a6, _, _, _, _, a5, HP.out.1, HP.out.2, rfl, ⟨g1.out, k4.out⟩, i7⟩
theorem aD5.belowB {w W W' : World} {c b B : Nat} (hb : Below B w W) (h : aD5 W W' c b) (hB : B ≤ W.heap.size) (hc : B ≤ c) (hbb : B ≤ b) : Below B w W' := hb.trans ⟨h.os, h.tape, h.output, h.size, fun j hj => h.block j (by omega) (by omega) (by omega)⟩
theorem aD5.blk {w w' : World} {c b q : Nat} {cs : Array Value} {T : TypeId} (h : aD5 w w' c b) (hq : w.heap[q]? = some (.cells cs T)) (hc : q ≠ c) (hb : q ≠ b) : w'.heap[q]? = some (.cells cs T) := (h.block q (blt hq) hc hb).trans hq
theorem aJ0 {w : World} {q o : Nat} {cs : Array Value} {T : TypeId} {v : Value} (h : w.heap[q]? = some (.cells cs T)) (hv : cs[o]? = some v) : w.setCell ⟨q, o, none⟩ v = w := by
  have hh : (w.setCell ⟨q, o, none⟩ v).heap = w.heap := by
    apply Array.ext_getElem?
    intro j
    by_cases e : j = q
    · subst e
      rw [aC2 w j o cs T _ v h, h]
      congr 2
      apply Array.ext_getElem?
      intro i
      rw [Array.getElem?_setIfInBounds]
      by_cases e2 : o = i
      · subst e2
        rw [if_pos rfl, if_pos (Array.getElem?_eq_some_iff.1 hv).1, hv]
      · rw [if_neg e2]
    · exact heap_setCell_other _ _ _ _ e
  cases w
  simp only [World.setCell] at hh ⊢
  congr 1
theorem aW4 {P : Program} {f : Func} {t t' : Array Value} {R : Ending → World → Prop} (h : results f t = results f t') : ∀ (ds : List Deferred) (u : FrameMode) (w : World), Leaves P f t R ds u w → Leaves P f t' R ds u w
 | [], .returning, w, hl => by
  obtain ⟨v, h1, h2⟩ := hl
  exact ⟨v, by rw [← h]; exact h1, h2⟩
 | [], .panicking chain, w, hl => hl
 | [], .run, w, hl => hl
 | d :: ds, u, w, hl => by
  obtain ⟨hu, fv, cap, g, args, h1, h2, h3⟩ := hl
  refine ⟨hu, fv, cap, g, args, h1, h2, h3.mono ?_⟩
  intro e u' w' h4
  cases e with
  | returned v => exact aW4 h ds _ w' h4
  | panicked chain => exact aW4 h ds _ w' h4
  | outgrown => exact h4
theorem cB9 (t : Array Value) (i : Nat) (v : Value) (h4 : i ≠ 4) (h5 : i ≠ 5) : results Tryz.f45 (t.setIfInBounds i v) = results Tryz.f45 t := by
 have g : ∀ j, i ≠ j → (t.setIfInBounds i v).getD j undef = t.getD j undef := fun j hj => by
  rw [Array.getD_eq_getD_getElem?, Array.getD_eq_getD_getElem?, Array.getElem?_setIfInBounds_ne hj]
 unfold results;rw [show (Tryz.f45).results = #[.cell 4 43, .cell 5 4] from rfl];simp only [List.mapM_toArray, List.mapM_cons, List.mapM_nil, g 4 h4, g 5 h5]
theorem bN2 {R : Ending → World → Prop} {c : List PanicEntry} {a : Act} {w : World} {i : Nat} {v : Value} (h4 : i ≠ 4) (h5 : i ≠ 5) (h : bodyPostD prog Tryz.f45 R (.panic c) (a.put (some i) v) w) : bodyPostD prog Tryz.f45 R (.panic c) a w :=
 aW4 (cB9 _ i v h4 h5) _ _ _ h
def cN3 (c b : Nat) (V : Value) (B : Nat) (Pl : Ts → List (Int × ByteArray) → Ks → Bs → Int → Int → Prop) (Fl : Prop) (w : World) (e : Ending) (w' : World) : Prop :=
 ∃ (ok : Bool) (u1 u2 VB' : Value) (cs' : Ts) (ws' : List (Int × ByteArray)) (kv' : Ks) (bl' : Bs) (nx' sq' : Int) (n' : Nat) (D' : DataW Value) (cX : Nat), e = .returned (.bool ok) ∧ w'.heap[c]? = some (.cells #[u1, u2, V, capV VB' cX, .int .i64 nx', .int .i64 sq', .map (some b)] 143) ∧ aC0 w' b n' D' ∧ aM5 D' kv' ∧ n' ≤ 1048576 ∧ aG2 kv' ∧ aO2 kv' ∧ aA2 w' B (aJ5 u1 u2 VB' cs' ws' bl' ++ kv'.flatMap kpR) ∧ aG1 ⟨cs', ws', kv'.map (·.1), bl', nx', sq'⟩ ∧ aD5 w w' c b ∧ (ok = true → Pl cs' ws' kv' bl' nx' sq') ∧ (ok = false → Fl)
def bW7 (s : ShD) (Pl : Ts → List (Int × ByteArray) → Ks → Bs → Int → Int → Prop) (Fl : Prop) (w : World) (e : Ending) (w' : World) : Prop :=
 (¬ aJ4 s ∧ e = .returned (.tuple #[.agg #[.slice none 0 0, .slice none 0 0, .slice none 0 0, .slice none 0 0, .int .i64 0, .int .i64 0], .bool false]) ∧ Below w.heap.size w w') ∨
 (aJ4 s ∧ Fl ∧ ∃ va vb vc vd kvc, e = .returned (.tuple #[.agg #[va, vb, vc, vd, .int .i64 s.nx, .int .i64 s.sq], .bool false]) ∧ aD8 w' w.heap.size va vb vc vd kvc s ∧ Below w.heap.size w w') ∨
 (aJ4 s ∧ ∃ (cs' : Ts) (ws' : List (Int × ByteArray)) (kv' kvt : Ks) (bl' : Bs) (nx' sq' : Int) (va vb vc vd : Value) (kvc : Ks), Pl cs' ws' kv' bl' nx' sq' ∧ kvt.Perm kv' ∧ kvt.Pairwise (fun x y => x.1.q ≤ y.1.q) ∧ e = .returned (.tuple #[.agg #[va, vb, vc, vd, .int .i64 nx', .int .i64 sq'], .bool true]) ∧ aD8 w' w.heap.size va vb vc vd kvc ⟨cs', ws', kvt.map (·.1), bl', nx', sq'⟩ ∧ Below w.heap.size w w')
theorem cI7 {s : ShD} (h : aJ4 s) : s.ks.length ≤ 100000 := by
 have hq : ∀ i, i < s.ks.length → (i : Int) + 1 ≤ (kpAt s.ks i).q := by
  intro i
  induction i with
  | zero => intro hi; have := (h.2.2.2.2.2 0 hi).2.2.1.1; omega
  | succ i ih =>
   intro hi
   have h1 := ih (by omega)
   have h2 := (h.2.2.2.2.2 (i + 1) hi).2.2.2.1 (by omega)
   rw [Nat.add_sub_cancel] at h2
   omega
 rcases Nat.lt_or_ge 100000 s.ks.length with hl | hl
 ·have h1 := hq (s.ks.length - 1) (by omega);have h2 := (h.2.2.2.2.2 (s.ks.length - 1) (by omega)).2.2.1.2;have h3 := h.2.2.2.1.2;omega
 exact hl
theorem bD5 {s : ShD} {kv : Ks} (h : aJ4 s) (hk : kv.map (·.1) = s.ks) : aG2 kv := by
 have hl : kv.length = s.ks.length := by rw [← hk, List.length_map]
 unfold aG2;rw [List.pairwise_iff_getElem];intro i j hi hj a0;have h1 := (h.2.2.2.2.2 j (by omega)).2.2.2.2 i a0;rw [← hk, ← aL6 kv i hi, ← aL6 kv j hj, ← aU5 kv i hi, ← aU5 kv j hj] at h1;exact h1
theorem cC0 {s : ShD} {kv : Ks} (h : aJ4 s) (hk : kv.map (·.1) = s.ks) : ∀ x ∈ kv, 0 ≤ x.1.a ∧ x.1.a ≤ 1000 := fun x hx => by
 obtain ⟨i, hi, e⟩ := List.getElem_of_mem (show x.1 ∈ s.ks by rw [← hk]; exact List.mem_map.2 ⟨x, hx, rfl⟩)
 rw [aQ7] at e
 have := (h.2.2.2.2.2 i hi).2.1
 rw [e] at this
 omega
theorem cN4 (qd qs qa : Nat) (u : FrameMode) (w : World) (h : w.heap[qd]? = some (.cells #[.bool true] 4)) :
  CallsD prog 104 #[.pointer (some ⟨qd, 0, none⟩), .pointer (some ⟨qs, 0, none⟩), .pointer (some ⟨qa, 0, none⟩)] u w fun e u' w' => u' = u ∧ (e = .returned (.tuple #[]) ∧ w' = w) := by
 have c0 : w.cell? ⟨qd, 0, none⟩ = some (.bool true) := (aA9 h 0).trans rfl;clear h;go_enter_d func104, ntmps104
 go_wp2_with fail
 go_end0
 exact ⟨rfl, rfl⟩
theorem cN5 (qd qs c : Nat) (x0 x1 x2 x3 x4 x5 : Value) (u : FrameMode) (v1 v2 V VB : Value) (kv : List (KpD × Value × Value × Value)) (s : ShD) (B : Nat) (w : World) (h : aD8 w B v1 v2 V VB kv s) (hz : aG1 s) (hd : w.heap[qd]? = some (.cells #[.bool false] 4)) (hs : w.heap[qs]? = some (.cells #[v1, v2, V, VB, .int .i64 s.nx, .int .i64 s.sq] 43)) (ha : w.heap[c]? = some (.cells #[x0, x1, x2, x3, x4, x5] 43)) (h1 : qd ≠ qs) (h2 : qd ≠ c) (h3 : qs ≠ c) :
    CallsD prog 104 #[.pointer (some ⟨qd, 0, none⟩), .pointer (some ⟨qs, 0, none⟩), .pointer (some ⟨c, 0, none⟩)] u w fun e u' w' => u' = u ∧ ∃ va vb vc vd kvc, e = .returned (.tuple #[]) ∧ w'.heap[c]? = some (.cells #[va, vb, vc, vd, .int .i64 s.nx, .int .i64 s.sq] 43) ∧ aD8 w' w.heap.size va vb vc vd kvc s ∧ w.grownBy w' (some c) := by
  have HBd_0 : Hid (w.heap[qd]? = some (.cells #[.bool false] 4)) := hd
  have HBs_0 : Hid (w.heap[qs]? = some (.cells #[v1, v2, V, VB, .int .i64 s.nx, .int .i64 s.sq] 43)) := hs
  have HBa_0 : Hid (w.heap[c]? = some (.cells #[x0, x1, x2, x3, x4, x5] 43)) := ha
  have HSO : Hid (aD8 w B v1 v2 V VB kv s) := h
  have HZ : Hid (aG1 s) := hz
  have HNds : Hid (qd ≠ qs) := h1
  have HNda : Hid (qd ≠ c) := h2
  have HNsa : Hid (qs ≠ c) := h3
  clear hd hs ha h hz h1 h2 h3
  have hb0 : w.grownBy w (some c) := World.grownBy.refl _ _
  go_enter_d func104, ntmps104
  have cd_0 : (w).cell? ⟨qd, 0, none⟩ = some (.bool false) := (aA9 HBd_0.out 0).trans rfl
  have cs_0 : (w).cell? ⟨qs, 0, none⟩ = some (v1) := (aA9 HBs_0.out 0).trans rfl
  have cs_1 : (w).cell? ⟨qs, 1, none⟩ = some (v2) := (aA9 HBs_0.out 1).trans rfl
  have cs_2 : (w).cell? ⟨qs, 2, none⟩ = some (V) := (aA9 HBs_0.out 2).trans rfl
  have cs_3 : (w).cell? ⟨qs, 3, none⟩ = some (VB) := (aA9 HBs_0.out 3).trans rfl
  have cs_4 : (w).cell? ⟨qs, 4, none⟩ = some (.int .i64 s.nx) := (aA9 HBs_0.out 4).trans rfl
  have cs_5 : (w).cell? ⟨qs, 5, none⟩ = some (.int .i64 s.sq) := (aA9 HBs_0.out 5).trans rfl
  go_wp2_with fail
  refine (bJ1 v1 v2 V VB kv s B _ HSO.out HZ.out).mono ?_
  rintro e w1 ⟨va, vb, vc, vd, kvc, rfl, hso, bw⟩
  obtain ⟨oCc, pCc, rfl⟩ := aA0 hso.disk.cells
  obtain ⟨oPc, pPc, rfl⟩ := aA0 hso.disk.pend
  obtain ⟨oKc, pKc, rfl⟩ := hso.kept.len
  obtain ⟨oBc, pBc, rfl⟩ := aA0 hso.bans
  dsimp only at hso ⊢
  have hb1 : w.grownBy w1 (some c) := aI1 hb0 (aF9 bw _)
  have HM1 : Hid ((w).heap.size ≤ (w1).heap.size) := bw.size
  have HBd_1 : Hid ((w1).heap[qd]? = some (.cells #[.bool false] 4)) := aA6 HBd_0.out bw
  have HBs_1 : Hid ((w1).heap[qs]? = some (.cells #[v1, v2, V, VB, .int .i64 s.nx, .int .i64 s.sq] 43)) := aA6 HBs_0.out bw
  have HBa_1 : Hid ((w1).heap[c]? = some (.cells #[x0, x1, x2, x3, x4, x5] 43)) := aA6 HBa_0.out bw
  clear hb0 HBd_0 HBs_0 HBa_0 bw
  have EN_1 : Hid (aA2 (w1) w.heap.size (aB4 (.slice oCc s.cs.length pCc) (.slice oPc s.ws.length pPc) (.slice oKc kvc.length pKc) (.slice oBc s.bl.length pBc) kvc s.cs s.ws s.bl)) := hso.1
  have HKC : Hid (kvc.map (·.1) = s.ks) := hso.2
  clear hso
  clear cd_0 cs_0 cs_1 cs_2 cs_3 cs_4 cs_5
  have ca_0 : (w1).cell? ⟨c, 0, none⟩ = some (x0) := (aA9 HBa_1.out 0).trans rfl
  have fca_0 : (w1).frozen? ⟨c, 0, none⟩ = false := aD3 HBa_1.out 0
  have ca_1 : (w1).cell? ⟨c, 1, none⟩ = some (x1) := (aA9 HBa_1.out 1).trans rfl
  have fca_1 : (w1).frozen? ⟨c, 1, none⟩ = false := aD3 HBa_1.out 1
  have ca_2 : (w1).cell? ⟨c, 2, none⟩ = some (x2) := (aA9 HBa_1.out 2).trans rfl
  have fca_2 : (w1).frozen? ⟨c, 2, none⟩ = false := aD3 HBa_1.out 2
  have ca_3 : (w1).cell? ⟨c, 3, none⟩ = some (x3) := (aA9 HBa_1.out 3).trans rfl
  have fca_3 : (w1).frozen? ⟨c, 3, none⟩ = false := aD3 HBa_1.out 3
  have ca_4 : (w1).cell? ⟨c, 4, none⟩ = some (x4) := (aA9 HBa_1.out 4).trans rfl
  have fca_4 : (w1).frozen? ⟨c, 4, none⟩ = false := aD3 HBa_1.out 4
  have ca_5 : (w1).cell? ⟨c, 5, none⟩ = some (x5) := (aA9 HBa_1.out 5).trans rfl
  have fca_5 : (w1).frozen? ⟨c, 5, none⟩ = false := aD3 HBa_1.out 5
  go_wp2_with fail
  obtain ⟨w2, hW2⟩ : ∃ W, W = (w1).setCell ⟨c, 0, none⟩ (.slice oCc s.cs.length pCc) := ⟨_, rfl⟩
  rw [← hW2]
  have hb2 : w.grownBy w2 (some c) := by rw [hW2]; exact (aF3 hb1 0 _)
  have HM2 : Hid ((w1).heap.size ≤ w2.heap.size) := by show _ ≤ _; rw [hW2]; simp
  have HBd_2 : Hid ((w2).heap[qd]? = some (.cells #[.bool false] 4)) := by show _ = _; rw [hW2, heap_setCell_other _ _ _ _ HNda.out]; exact HBd_1.out
  have HBs_2 : Hid ((w2).heap[qs]? = some (.cells #[v1, v2, V, VB, .int .i64 s.nx, .int .i64 s.sq] 43)) := by show _ = _; rw [hW2, heap_setCell_other _ _ _ _ HNsa.out]; exact HBs_1.out
  have EN_2 : Hid (aA2 (w2) w.heap.size (aB4 (.slice oCc s.cs.length pCc) (.slice oPc s.ws.length pPc) (.slice oKc kvc.length pKc) (.slice oBc s.bl.length pBc) kvc s.cs s.ws s.bl)) := by show aA2 _ _ _; rw [hW2]; exact aA2.other EN_1.out HBa_1.out (aG6 43 (by decide) (by decide) (by decide) (by decide) (by decide))
  have HBa_2 : Hid ((w2).heap[c]? = some (.cells #[.slice oCc s.cs.length pCc, x1, x2, x3, x4, x5] 43)) := by show _ = _; rw [hW2]; have h := aC2 _ _ 0 _ _ _ (.slice oCc s.cs.length pCc) HBa_1.out; simpa using h
  clear hb1 HBd_1 HBs_1 HBa_1 EN_1 hW2
  obtain ⟨w3, hW3⟩ : ∃ W, W = (w2).setCell ⟨c, 1, none⟩ (.slice oPc s.ws.length pPc) := ⟨_, rfl⟩
  rw [← hW3]
  have hb3 : w.grownBy w3 (some c) := by rw [hW3]; exact (aF3 hb2 1 _)
  have HM3 : Hid ((w2).heap.size ≤ w3.heap.size) := by show _ ≤ _; rw [hW3]; simp
  have HBd_3 : Hid ((w3).heap[qd]? = some (.cells #[.bool false] 4)) := by show _ = _; rw [hW3, heap_setCell_other _ _ _ _ HNda.out]; exact HBd_2.out
  have HBs_3 : Hid ((w3).heap[qs]? = some (.cells #[v1, v2, V, VB, .int .i64 s.nx, .int .i64 s.sq] 43)) := by show _ = _; rw [hW3, heap_setCell_other _ _ _ _ HNsa.out]; exact HBs_2.out
  have EN_3 : Hid (aA2 (w3) w.heap.size (aB4 (.slice oCc s.cs.length pCc) (.slice oPc s.ws.length pPc) (.slice oKc kvc.length pKc) (.slice oBc s.bl.length pBc) kvc s.cs s.ws s.bl)) := by show aA2 _ _ _; rw [hW3]; exact aA2.other EN_2.out HBa_2.out (aG6 43 (by decide) (by decide) (by decide) (by decide) (by decide))
  have HBa_3 : Hid ((w3).heap[c]? = some (.cells #[.slice oCc s.cs.length pCc, .slice oPc s.ws.length pPc, x2, x3, x4, x5] 43)) := by show _ = _; rw [hW3]; have h := aC2 _ _ 1 _ _ _ (.slice oPc s.ws.length pPc) HBa_2.out; simpa using h
  clear hb2 HBd_2 HBs_2 HBa_2 EN_2 hW3
  obtain ⟨w4, hW4⟩ : ∃ W, W = (w3).setCell ⟨c, 2, none⟩ (.slice oKc kvc.length pKc) := ⟨_, rfl⟩
  rw [← hW4]
  have hb4 : w.grownBy w4 (some c) := by rw [hW4]; exact (aF3 hb3 2 _)
  have HM4 : Hid ((w3).heap.size ≤ w4.heap.size) := by show _ ≤ _; rw [hW4]; simp
  have HBd_4 : Hid ((w4).heap[qd]? = some (.cells #[.bool false] 4)) := by show _ = _; rw [hW4, heap_setCell_other _ _ _ _ HNda.out]; exact HBd_3.out
  have HBs_4 : Hid ((w4).heap[qs]? = some (.cells #[v1, v2, V, VB, .int .i64 s.nx, .int .i64 s.sq] 43)) := by show _ = _; rw [hW4, heap_setCell_other _ _ _ _ HNsa.out]; exact HBs_3.out
  have EN_4 : Hid (aA2 (w4) w.heap.size (aB4 (.slice oCc s.cs.length pCc) (.slice oPc s.ws.length pPc) (.slice oKc kvc.length pKc) (.slice oBc s.bl.length pBc) kvc s.cs s.ws s.bl)) := by show aA2 _ _ _; rw [hW4]; exact aA2.other EN_3.out HBa_3.out (aG6 43 (by decide) (by decide) (by decide) (by decide) (by decide))
  have HBa_4 : Hid ((w4).heap[c]? = some (.cells #[.slice oCc s.cs.length pCc, .slice oPc s.ws.length pPc, .slice oKc kvc.length pKc, x3, x4, x5] 43)) := by show _ = _; rw [hW4]; have h := aC2 _ _ 2 _ _ _ (.slice oKc kvc.length pKc) HBa_3.out; simpa using h
  clear hb3 HBd_3 HBs_3 HBa_3 EN_3 hW4
  obtain ⟨w5, hW5⟩ : ∃ W, W = (w4).setCell ⟨c, 3, none⟩ (.slice oBc s.bl.length pBc) := ⟨_, rfl⟩
  rw [← hW5]
  have hb5 : w.grownBy w5 (some c) := by rw [hW5]; exact (aF3 hb4 3 _)
  have HM5 : Hid ((w4).heap.size ≤ w5.heap.size) := by show _ ≤ _; rw [hW5]; simp
  have HBd_5 : Hid ((w5).heap[qd]? = some (.cells #[.bool false] 4)) := by show _ = _; rw [hW5, heap_setCell_other _ _ _ _ HNda.out]; exact HBd_4.out
  have HBs_5 : Hid ((w5).heap[qs]? = some (.cells #[v1, v2, V, VB, .int .i64 s.nx, .int .i64 s.sq] 43)) := by show _ = _; rw [hW5, heap_setCell_other _ _ _ _ HNsa.out]; exact HBs_4.out
  have EN_5 : Hid (aA2 (w5) w.heap.size (aB4 (.slice oCc s.cs.length pCc) (.slice oPc s.ws.length pPc) (.slice oKc kvc.length pKc) (.slice oBc s.bl.length pBc) kvc s.cs s.ws s.bl)) := by show aA2 _ _ _; rw [hW5]; exact aA2.other EN_4.out HBa_4.out (aG6 43 (by decide) (by decide) (by decide) (by decide) (by decide))
  have HBa_5 : Hid ((w5).heap[c]? = some (.cells #[.slice oCc s.cs.length pCc, .slice oPc s.ws.length pPc, .slice oKc kvc.length pKc, .slice oBc s.bl.length pBc, x4, x5] 43)) := by show _ = _; rw [hW5]; have h := aC2 _ _ 3 _ _ _ (.slice oBc s.bl.length pBc) HBa_4.out; simpa using h
  clear hb4 HBd_4 HBs_4 HBa_4 EN_4 hW5
  obtain ⟨w6, hW6⟩ : ∃ W, W = (w5).setCell ⟨c, 4, none⟩ (.int .i64 s.nx) := ⟨_, rfl⟩
  rw [← hW6]
  have hb6 : w.grownBy w6 (some c) := by rw [hW6]; exact (aF3 hb5 4 _)
  have HM6 : Hid ((w5).heap.size ≤ w6.heap.size) := by show _ ≤ _; rw [hW6]; simp
  have HBd_6 : Hid ((w6).heap[qd]? = some (.cells #[.bool false] 4)) := by show _ = _; rw [hW6, heap_setCell_other _ _ _ _ HNda.out]; exact HBd_5.out
  have HBs_6 : Hid ((w6).heap[qs]? = some (.cells #[v1, v2, V, VB, .int .i64 s.nx, .int .i64 s.sq] 43)) := by show _ = _; rw [hW6, heap_setCell_other _ _ _ _ HNsa.out]; exact HBs_5.out
  have EN_6 : Hid (aA2 (w6) w.heap.size (aB4 (.slice oCc s.cs.length pCc) (.slice oPc s.ws.length pPc) (.slice oKc kvc.length pKc) (.slice oBc s.bl.length pBc) kvc s.cs s.ws s.bl)) := by show aA2 _ _ _; rw [hW6]; exact aA2.other EN_5.out HBa_5.out (aG6 43 (by decide) (by decide) (by decide) (by decide) (by decide))
  have HBa_6 : Hid ((w6).heap[c]? = some (.cells #[.slice oCc s.cs.length pCc, .slice oPc s.ws.length pPc, .slice oKc kvc.length pKc, .slice oBc s.bl.length pBc, .int .i64 s.nx, x5] 43)) := by show _ = _; rw [hW6]; have h := aC2 _ _ 4 _ _ _ (.int .i64 s.nx) HBa_5.out; simpa using h
  clear hb5 HBd_5 HBs_5 HBa_5 EN_5 hW6
  obtain ⟨w7, hW7⟩ : ∃ W, W = (w6).setCell ⟨c, 5, none⟩ (.int .i64 s.sq) := ⟨_, rfl⟩
  rw [← hW7]
  have hb7 : w.grownBy w7 (some c) := by rw [hW7]; exact (aF3 hb6 5 _)
  have HM7 : Hid ((w6).heap.size ≤ w7.heap.size) := by show _ ≤ _; rw [hW7]; simp
  have HBd_7 : Hid ((w7).heap[qd]? = some (.cells #[.bool false] 4)) := by show _ = _; rw [hW7, heap_setCell_other _ _ _ _ HNda.out]; exact HBd_6.out
  have HBs_7 : Hid ((w7).heap[qs]? = some (.cells #[v1, v2, V, VB, .int .i64 s.nx, .int .i64 s.sq] 43)) := by show _ = _; rw [hW7, heap_setCell_other _ _ _ _ HNsa.out]; exact HBs_6.out
  have EN_7 : Hid (aA2 (w7) w.heap.size (aB4 (.slice oCc s.cs.length pCc) (.slice oPc s.ws.length pPc) (.slice oKc kvc.length pKc) (.slice oBc s.bl.length pBc) kvc s.cs s.ws s.bl)) := by show aA2 _ _ _; rw [hW7]; exact aA2.other EN_6.out HBa_6.out (aG6 43 (by decide) (by decide) (by decide) (by decide) (by decide))
  have HBa_7 : Hid ((w7).heap[c]? = some (.cells #[.slice oCc s.cs.length pCc, .slice oPc s.ws.length pPc, .slice oKc kvc.length pKc, .slice oBc s.bl.length pBc, .int .i64 s.nx, .int .i64 s.sq] 43)) := by show _ = _; rw [hW7]; have h := aC2 _ _ 5 _ _ _ (.int .i64 s.sq) HBa_6.out; simpa using h
  clear hb6 HBd_6 HBs_6 HBa_6 EN_6 hW7
  go_end0
  exact ⟨_, _, _, _, kvc, rfl, HBa_7.out, ⟨EN_7.out, HKC.out⟩, hb7⟩
theorem cC1 (f : FuncId) (q : Nat) (v1 v2 V VB : Value) (kv : Ks) (s : ShD) (B : Nat) (w : World) (h : aD8 w B v1 v2 V VB kv s) (hz : aG1 s) (hB : B ≤ w.heap.size) (Pl : Ts → List (Int × ByteArray) → Ks → Bs → Int → Int → Prop) (Fl : Prop) (hcf : ∀ (args : Array Value) (W : World), (callFunc f args).run prog W = .ok (.enter f args) W)
  (hst : aJ4 s → ∀ (c b n : Nat) (D : DataW Value) (W : World), Below w.heap.size w W → w.heap.size ≤ c → w.heap.size ≤ b → W.heap[c]? = some (.cells #[v1, v2, V, cU1 VB, .int .i64 s.nx, .int .i64 s.sq, .map (some b)] 143) → aC0 W b n D → aM5 D kv → n ≤ kv.length → Calls prog f #[.pointer (some ⟨c, 0, none⟩), .pointer (some ⟨q, 0, none⟩)] W fun e w' => cN3 c b V B Pl Fl W e w') :
  Calls prog 45 #[.agg #[v1, v2, V, VB, .int .i64 s.nx, .int .i64 s.sq], .func (.func f) #[] #[.pointer (some ⟨q, 0, none⟩)]] w fun e w' => bW7 s Pl Fl w e w' := by
 have g0 : Hid (∀ W, Bw w W → aD8 W B v1 v2 V VB kv s) := fun W hb => h.below hb
 have HZ := hid hz;have i7 : Hid (kv.map (·.1) = s.ks) := h.2;have l7 := hid hB;have l8 := hid hst;clear h hz hB hst;have K0 := jnil w;go_enter_defers func45, ntmps45
 go_upto_region 1 with fail
 obtain ⟨q1, g1⟩ := exq (w.heap.size);obtain ⟨w1, d1⟩ := exq (w.alloc (.cells #[v1, v2, V, VB, .int .i64 s.nx, .int .i64 s.sq] 43));have g2 := g1.symm;rw [← d1]; try rw [← g1];have i8 := hsa d1 g2;have bw := bal d1;have K1 := ja K0 d1 g2;clear bw d1 g2 K0;obtain ⟨q2, g3⟩ := exq (q1 + 1);obtain ⟨w2, d2⟩ := exq (w1.alloc (.cells #[.slice none 0 0, .slice none 0 0, .slice none 0 0, .slice none 0 0, .int .i64 0, .int .i64 0] 43));have b5 : w1.heap.size = q2 := by rw [g3]; exact i8
 rw [← d2]; try rw [← g3];have d3 := hsa d2 b5;have bw := bal d2;have K2 := ja K1 d2 b5;have d4 : Hid (q1 ≠ q2) := fun e => by have h1 := (Array.getElem?_eq_some_iff.1 (jb K1 0 rfl)).1; omega
 have l9 : Hid (w.heap.size ≤ q2) := by show _ ≤ _; rw [← b5]; exact K1.hb.size
 clear bw d2 b5 K1;obtain ⟨q3, g4⟩ := exq (q2 + 1);obtain ⟨w3, d5⟩ := exq (w2.alloc (.cells #[.bool false] 4));have g5 : w2.heap.size = q3 := by rw [g4]; exact d3
 rw [← d5]; try rw [← g4];have m0 := hsa d5 g5;have bw := bal d5;have K3 := ja K2 d5 g5;have d6 : Hid (q1 ≠ q3) := fun e => by have h1 := (Array.getElem?_eq_some_iff.1 (jb K2 1 rfl)).1; omega
 have b1 : Hid (q2 ≠ q3) := fun e => by have h1 := (Array.getElem?_eq_some_iff.1 (jb K2 0 rfl)).1; omega
 clear bw d5 g5 K2;clear m0 g4 d3 g3 i8 g1;have b6 := c6c (jb K3 2 rfl);go_wp2_with fail
 refine (bJ0 v1 v2 V VB kv s B _ (g0.out _ K3.hb) HZ.out).mono ?_;rintro e w4 ⟨us, rfl, f8, bw⟩;have K4 := jw K3 bw;clear bw K3;clear b6;cases us
 ·have g6 : Hid (¬ (aJ4 s)) := fun h => nomatch f8.2 h
  clear f8;have g7 := c6f (jb K4 1 rfl);have b7 := c1f (jb K4 0 rfl);have m7 : w4.setCell ⟨q2, 0, none⟩ (.slice none 0 0) = w4 := aJ0 (jb K4 1 rfl) rfl;have m8 : w4.setCell ⟨q2, 1, none⟩ (.slice none 0 0) = w4 := aJ0 (jb K4 1 rfl) rfl;have m9 : w4.setCell ⟨q2, 2, none⟩ (.slice none 0 0) = w4 := aJ0 (jb K4 1 rfl) rfl;have n0 : w4.setCell ⟨q2, 3, none⟩ (.slice none 0 0) = w4 := aJ0 (jb K4 1 rfl) rfl;have n1 : w4.setCell ⟨q2, 4, none⟩ (.int .i64 0) = w4 := aJ0 (jb K4 1 rfl) rfl;have n3 : w4.setCell ⟨q2, 5, none⟩ (.int .i64 0) = w4 := aJ0 (jb K4 1 rfl) rfl;have n4 : w4.setCell ⟨q3, 0, none⟩ (.bool false) = w4 := aJ0 (jb K4 0 rfl) rfl;go_wp2_with fail
  clear g7 b7;have d7 := (aA9 (jb K4 1 rfl) 0).trans rfl;have d8 := (aA9 (jb K4 1 rfl) 1).trans rfl;have d9 := (aA9 (jb K4 1 rfl) 2).trans rfl;have e0 := (aA9 (jb K4 1 rfl) 3).trans rfl;have e1 := (aA9 (jb K4 1 rfl) 4).trans rfl;have e2 := (aA9 (jb K4 1 rfl) 5).trans rfl;have e3 := (aA9 (jb K4 0 rfl) 0).trans rfl;refine ⟨.tuple #[.agg #[.slice none 0 0, .slice none 0 0, .slice none 0 0, .slice none 0 0, .int .i64 0, .int .i64 0], .bool false], ?_, .inl ⟨g6.out, rfl, K4.hb⟩⟩;simp [results, results45, go_sem, d7, d8, d9, e0, e1, e2, e3]
 have a4 : Hid (aJ4 s) := f8.1 rfl;clear f8;have b6 := c6c (jb K4 2 rfl);go_wp2_with fail
 refine (cI1 v1 v2 V VB kv s B _ (g0.out _ K4.hb) HZ.out (cC0 a4.out i7.out)).mono ?_;rintro e w5 ⟨c, b, n, D, rfl, a0, i9, j0, j1, b2, j2, bw⟩;have a5 : Hid (q1 ≠ c) := fun e => by have h1 := (Array.getElem?_eq_some_iff.1 (jb K4 2 rfl)).1; omega
 have e4 : Hid (q1 ≠ b) := fun e => by have h1 := (Array.getElem?_eq_some_iff.1 (jb K4 2 rfl)).1; omega
 have a6 : Hid (q2 ≠ c) := fun e => by have h1 := (Array.getElem?_eq_some_iff.1 (jb K4 1 rfl)).1; omega
 have e5 : Hid (q2 ≠ b) := fun e => by have h1 := (Array.getElem?_eq_some_iff.1 (jb K4 1 rfl)).1; omega
 have a2 : Hid (q3 ≠ c) := fun e => by have h1 := (Array.getElem?_eq_some_iff.1 (jb K4 0 rfl)).1; omega
 have e6 : Hid (q3 ≠ b) := fun e => by have h1 := (Array.getElem?_eq_some_iff.1 (jb K4 0 rfl)).1; omega
 have b8 := K4.hb.size;have K5 := jw K4 bw;have b9 := hid a0;have c0 : Hid (w.heap.size ≤ c) := Nat.le_trans b8 b2;have j3 : Hid (w.heap.size ≤ b) := Nat.le_trans b8 j2;have c1 : Hid (aC0 w5 b n (D)) := i9;have j4 : Hid (aM5 D kv) := j0.is (bD5 a4.out i7.out);have j5 := hid j1;clear a0 i9 j0 j1 b2 j2 b8 bw K4;clear b6;go_wp2_with fail
 refine (l8.out a4.out c b n D _ K5.hb c0.out j3.out b9.out c1.out j4.out j5.out).mono ?_;rintro e w6 ⟨ok, u1, u2, g8, c2, c3, e7, c4, g9, h0, n2, D2, cX, rfl, a0, j6, j7, j8, j9, d3, k0, b5, c5, e8, k1⟩;have k2 : Bw w (w6) := aD5.belowB K5.hb c5 K5.hb.size c0.out j3.out;have h2 : Hid (w6.heap[q1]? = some (.cells #[v1, v2, V, VB, .int .i64 s.nx, .int .i64 s.sq] 43)) := c5.blk (jb K5 2 rfl) a5.out e4.out;have h3 : Hid (w6.heap[q2]? = some (.cells #[.slice none 0 0, .slice none 0 0, .slice none 0 0, .slice none 0 0, .int .i64 0, .int .i64 0] 43)) := c5.blk (jb K5 1 rfl) a6.out e5.out;have a8 : Hid (w6.heap[q3]? = some (.cells #[.bool false] 4)) := c5.blk (jb K5 0 rfl) a2.out e6.out;have c6 := hid a0;have a3 : Hid (aC0 w6 b n2 (D2)) := j6;have h4 := hid j7;have m1 := hid j8;have h5 := hid j9;have h6 := hid d3;have m2 := hid b5;have h7 := hid e8;have m3 := hid k1;have m4 : Hid (NoTy (aJ5 u1 u2 g8 c2 c3 c4 ++ e7.flatMap kpR)) := cE1;have h8 : Hid (aA2 (w6) B (aJ5 u1 u2 g8 c2 c3 c4 ++ e7.flatMap kpR)) := k0;have K6 := jz K5 k2 (jzb a8.out (jzb h3.out (jzb h2.out (jzn _))));clear a0 j6 j7 j8 j9 d3 k0 b5 c5 e8 k1 j4 j5 K5;have b7 := c1f a8.out;go_upto_region 6 with fail
 obtain ⟨w7, d0⟩ := exq (w6.setCell ⟨q3, 0, none⟩ (.bool ok));rw [← d0];have K7 := js K6 0 d0;have c7 := hset d0 a2.out.symm c6;have a9 : Hid (aC0 w7 b n2 (D2)) := by show aC0 _ _ _ _; rw [d0]; exact World.ownsMap.setCell a3.out (aV9 a3.out a8.out) _
 have h9 := erS d0 h8 a8 (m4.out 4 (by decide) (by decide) (by decide) (by decide) (by decide));clear k2 d0 K6;clear b7;go_upto_region 6 with fail
 refine wp_region_held_drew (S := fun W => W.heap[q3]? = some (.cells #[.bool ok] 4)) (by kernel_rfl) (jb K7 0 rfl) (fun _ => ?_)
 obtain ⟨w8, hX⟩ := exq w7.drew;have bw := bdr hX;rw [← hX];have K8 := jw K7 bw;have c8 := hblk c7 bw;have b0 : Hid (aC0 w8 b n2 (D2)) := aF0 a9.out bw;have i0 := hid (h9.out.below bw);have i1 := (jb K8 0 rfl);clear bw hX K7;refine bD1 (i := 0) (v := .pointer (some ⟨c, 0, none⟩)) (some 17) rfl rfl (by kernel_rfl) (by kernel_rfl) (by kernel_rfl) (fun _ _ _ h => bN2 (by decide) (by decide) h) (Or.inl ⟨by rfl, by intro W _; go_simp⟩) i1 ?_
 go_frame;refine bD1 (i := 2) (v := .bool ok) (some 19) rfl rfl (by kernel_rfl) (by kernel_rfl) (by kernel_rfl) (fun _ _ _ h => bN2 (by decide) (by decide) h) (Or.inl ⟨by rfl, by intro W hW; have i2 := hW; have y0 := c1c i2; go_simp⟩) i1 ?_
 go_frame;refine rd1 1 rfl (fun K hK => ?_)
 go_simp;refine (cI6 c b n2 D2 u1 u2 V g8 e7 c2 c3 c4 g9 h0 B _ cX c8.out b0.out h4.out h5.out h6.out m1.out i0.out (Nat.le_trans l7.out K8.hb.size) m2.out).mono ?_;rintro e w9 ⟨f9, va, vb, vc, vd, e9, b3, b4, rfl, a7, b2⟩;obtain ⟨k3, k4, rfl⟩ := aA0 a7.disk.cells;obtain ⟨k5, k6, rfl⟩ := aA0 a7.disk.pend;obtain ⟨k7, k8, rfl⟩ := a7.kept.len;obtain ⟨k9, l0, rfl⟩ := aA0 a7.bans;dsimp only at a7 ⊢;have f0 : Bw w (w9) := K8.hb.grown b2 K8.hb.size (by intro g hg; cases hg; exact c0.out);have i3 : Hid (w9.heap[q1]? = some (.cells #[v1, v2, V, VB, .int .i64 s.nx, .int .i64 s.sq] 43)) := (b2.block _ (Array.getElem?_eq_some_iff.1 (jb K8 2 rfl)).1 (fun e => a5.out (Option.some.inj e))).trans (jb K8 2 rfl)
 have c9 : Hid (w9.heap[q2]? = some (.cells #[.slice none 0 0, .slice none 0 0, .slice none 0 0, .slice none 0 0, .int .i64 0, .int .i64 0] 43)) := (b2.block _ (Array.getElem?_eq_some_iff.1 (jb K8 1 rfl)).1 (fun e => a6.out (Option.some.inj e))).trans (jb K8 1 rfl)
 have f1 : Hid (w9.heap[q3]? = some (.cells #[.bool ok] 4)) := (b2.block _ (Array.getElem?_eq_some_iff.1 (jb K8 0 rfl)).1 (fun e => a2.out (Option.some.inj e))).trans (jb K8 0 rfl)
 have i4 : Hid (aA2 (w9) w.heap.size (aB4 (.slice k3 c2.length k4) (.slice k5 c3.length k6) (.slice k7 e9.length k8) (.slice k9 c4.length l0) e9 c2 c3 c4)) := aA2.wide a7.1 K8.hb.size;have m5 : Hid (e9.map (·.1) = f9.map (·.1)) := a7.2;have l1 : Hid (f9.Perm e7 ∧ f9.Pairwise (fun x y => x.1.q ≤ y.1.q)) := ⟨b3, b4⟩
 have K9 := jz K8 f0 (jzb f1.out (jzb c9.out (jzb i3.out (jzn _))));clear a7 b2 b3 b4 K8;have l2 := f1.out;refine hK.out _ _ l2 (fun _ => ?_)
 clear hK K i1;refine rd1 3 rfl (fun K hK => ?_)
 have i5 := c6f c9.out;obtain ⟨m6, hY⟩ := exq (((((((w9.setCell ⟨q2, 0, none⟩ (.slice k3 c2.length k4)).setCell ⟨q2, 1, none⟩ (.slice k5 c3.length k6)).setCell ⟨q2, 2, none⟩ (.slice k7 e9.length k8)).setCell ⟨q2, 3, none⟩ (.slice k9 c4.length l0)).setCell ⟨q2, 4, none⟩ (.int .i64 g9)).setCell ⟨q2, 5, none⟩ (.int .i64 h0)));have HY := hsy hY;have f2 := jss K9 1 [(0, _), (1, _), (2, _), (3, _), (4, _), (5, _)] hY;have f3 := hid (jrs [(0, _), (1, _), (2, _), (3, _), (4, _), (5, _)] i4.out hY c9.out (aG6 43 (by decide) (by decide) (by decide) (by decide) (by decide)));clear hY f0 K9;go_simp;rw [HY.out];have f4 := (jb f2 0 rfl);refine hK.out _ _ f4 (fun _ => ?_)
 clear hK K HY l2 i5;refine rd1 4 rfl (fun K hK => ?_)
 have i5 := c1f (jb f2 0 rfl);obtain ⟨n5, hY⟩ := exq ((m6.setCell ⟨q3, 0, none⟩ (.bool ok)));have HY := hsy hY;have a1 := jss f2 0 [(0, _)] hY;have f5 := hid (jrs [(0, _)] f3.out hY (jb f2 0 rfl) (aG6 4 (by decide) (by decide) (by decide) (by decide) (by decide)));clear hY f2;go_simp;rw [HY.out];have f6 := (jb a1 0 rfl);refine hK.out _ _ f6 (fun _ => ?_)
 clear hK K HY f4 i5;clear f6;refine wdn ?_;go_wp2_with fail
 refine leaves_cons (f := 104) (args := #[.pointer (some ⟨q3, 0, none⟩), .pointer (some ⟨q1, 0, none⟩), .pointer (some ⟨q2, 0, none⟩)]) (by simp) (by simp [go_sem]) ?_;cases ok with
 | true =>
  refine (cN4 q3 q1 q2 _ _ (jb a1 0 rfl)).mono ?_;rintro e u' w9 ⟨rfl, rfl, rfl⟩;have d7 := (aA9 (jb a1 1 rfl) 0).trans rfl;have d8 := (aA9 (jb a1 1 rfl) 1).trans rfl;have d9 := (aA9 (jb a1 1 rfl) 2).trans rfl;have e0 := (aA9 (jb a1 1 rfl) 3).trans rfl;have e1 := (aA9 (jb a1 1 rfl) 4).trans rfl;have e2 := (aA9 (jb a1 1 rfl) 5).trans rfl;have e3 := (aA9 (jb a1 0 rfl) 0).trans rfl;simp [Leaves, settle, results, results45, go_sem, d7, d8, d9, e0, e1, e2, e3]
  exact .inr (.inr ⟨a4.out, c2, c3, e7, f9, c4, g9, h0, _, _, _, _, e9, h7.out (by first | rfl | trivial), l1.out.1, l1.out.2, rfl, ⟨f5.out, m5.out⟩, a1.hb⟩)
 | false =>
  refine (cN5 q3 q1 q2 _ _ _ _ _ _ _ v1 v2 V VB kv s B _ (g0.out _ a1.hb) HZ.out (jb a1 0 rfl) (jb a1 2 rfl) (jb a1 1 rfl) d6.out.symm b1.out.symm d4.out).mono ?_;rintro e u' w9 ⟨rfl, l3, l4, l5, l6, f7, rfl, a0, a7, hg⟩;have d7 := (aA9 a0 0).trans rfl;have d8 := (aA9 a0 1).trans rfl;have d9 := (aA9 a0 2).trans rfl;have e0 := (aA9 a0 3).trans rfl;have e1 := (aA9 a0 4).trans rfl;have e2 := (aA9 a0 5).trans rfl;have e3 : w9.cell? ⟨q3, 0, none⟩ = some (.bool false) := (aA9 ((hg.block _ (Array.getElem?_eq_some_iff.1 (jb a1 0 rfl)).1 (fun e => b1.out.symm (Option.some.inj e))).trans (jb a1 0 rfl)) 0).trans rfl
  have f0 : Bw w w9 := a1.hb.grown hg a1.hb.size (by intro g c5; cases c5; exact l9.out);have i6 : aD8 w9 w.heap.size l3 l4 l5 l6 f7 s := ⟨aA2.wide a7.1 a1.hb.size, a7.2⟩;have K9 := jz a1 f0 (jzx (jzx (jzx (jzn _))));simp [Leaves, settle, results, results45, go_sem, d7, d8, d9, e0, e1, e2, e3]
  exact .inr (.inl ⟨a4.out, m3.out (by first | rfl | trivial), l3, l4, l5, l6, f7, rfl, i6, f0⟩)
theorem bF1 {α β : Type} (f : α → List β) : ∀ {l l' : List α}, List.Sublist l l' → List.Sublist (l.flatMap f) (l'.flatMap f)
 | _, _, .slnil => List.Sublist.refl _
 | _, _, .cons a h => by rw [List.flatMap_cons]; exact (bF1 f h).trans (List.sublist_append_right _ _)
 | _, _, .cons_cons a h => by rw [List.flatMap_cons, List.flatMap_cons]; exact (List.Sublist.refl _).append (bF1 f h)
theorem cN6 {w : World} {B : Nat} {v1 v2 V VB : Value} {kv : Ks} {cs : Ts} {ws : List (Int × ByteArray)} {bl : Bs} (h : aA2 w B (aB4 v1 v2 V VB kv cs ws bl)) : aA2 w B (aJ5 v1 v2 VB cs ws bl ++ kv.flatMap kpR) := (h.perm bF0.symm).sub (List.sublist_append_left _ _)
theorem bW8 {cs : Ts} {ws : List (Int × ByteArray)} : (aV7 cs ws).length ≤ cs.length := by
 unfold aV7;split
 ·exact bH0 _ _ _
 exact Nat.le_refl _
theorem cC2 {cs : Ts} {ws : List (Int × ByteArray)} (hp : aH0 cs ws) (h1 : ∀ i, i < cs.length → (aA7 cs i).size ≤ 1048576) (h2 : ∀ x ∈ ws, x.2.size ≤ 1048576) : ∀ i, i < (aV7 cs ws).length → (aA7 (aV7 cs ws) i).size ≤ 1048576 := fun i hi => by
 have hl := bW8 (cs := cs) (ws := ws)
 unfold aV7
 split
 ·rw [aS2 hp]
  exact aR0 _ h1 h2 _ _ (Nat.le_refl _) i (by omega)
 · exact h1 i (by omega)
theorem cN7 {ws : List (Int × ByteArray)} {x : Int} {t : ByteArray} (h : ws.length ≤ 16) : (aX2 ws x t).length ≤ 17 := by
 unfold aX2;split
 ·simp
 rw [List.length_append, List.length_singleton]; omega
theorem cC3 {ws : List (Int × ByteArray)} {x : Int} {t : ByteArray} (h2 : ∀ y ∈ ws, y.2.size ≤ 1048576) (ht : t.size ≤ 1048576) : ∀ y ∈ aX2 ws x t, y.2.size ≤ 1048576 := fun y hy => by
 unfold aX2 at hy
 split at hy
 · rw [List.mem_singleton.1 hy]; exact ht
 ·rcases List.mem_append.1 hy with hy | hy
  · exact h2 y hy
  · rw [List.mem_singleton.1 hy]; exact ht
theorem cU7 {cs : Ts} {ws : List (Int × ByteArray)} (hp : aH0 cs ws) {x : Int} (hx : 0 ≤ x ∧ x ≤ 19) (t : Tx) : aR9 cs ws x t (aV7 cs ws) (aX2 ws x t) := by
 unfold aR9 aV7 aX2;by_cases h : ws.length = 16
 rotate_left
 ·rw [if_neg h, if_neg h, if_neg h];obtain ⟨e1, e2, _⟩ := bG9 hp (by have := hp.2.1; omega) hx t;exact ⟨e1.symm, e2.symm⟩
 rw [if_pos h, if_pos h, if_pos h];have hq : aH0 (aV6 cs ws (fun _ => true)) [] := by rw [aS2 hp]; exact bD0 hp _ _
 obtain ⟨e1, e2, _⟩ := bG9 hq (by decide) hx t;exact ⟨e1.symm, e2.symm⟩
open Classical in
def cE4 (s : ShD) (kv : Ks) (o : KpD) (oo1 oo2 oo3 : Oa) (oc1 oc2 oc3 : Nat) (cs' : Ts) (ws' : List (Int × ByteArray)) (kv' : Ks) (bl' : Bs) (nx' sq' : Int) : Prop :=
 aR1 s o ∧ cs' = aV7 s.cs s.ws ∧ ws' = aX2 s.ws s.nx (recI s.sq (objT o.p o.ys o.st o.fs o.b o.t)) ∧ kv' = (kv.filter (fun y => !decide (bA1 y.1 o))).filter (fun x => !decide (x.1.a = s.nx)) ++ [((⟨o.p, o.xs, o.ys, o.st, o.fs, o.b, o.t, s.nx, s.sq⟩ : KpD), Value.slice oo1 o.xs.length oc1, Value.slice oo2 o.ys.length oc2, Value.slice oo3 o.fs.length oc3)] ∧ bl' = s.bl ∧ nx' = aN5 s.nx ∧ sq' = s.sq + 1
open Classical in
theorem cN8 (q : Nat) (o : KpD) (oo1 oo2 oo3 : Oa) (oc1 oc2 oc3 : Nat) (v1 v2 V VB : Value) (kv : Ks) (s : ShD) (B : Nat) (w : World) (hall : aA2 w B (aB4 v1 v2 V VB kv s.cs s.ws s.bl ++ kpR (o, Value.slice oo1 o.xs.length oc1, Value.slice oo2 o.ys.length oc2, Value.slice oo3 o.fs.length oc3))) (hk : kv.map (·.1) = s.ks) (hz : aG1 s) (hB : B ≤ w.heap.size) (hso : aD6 o) (hob : w.heap[q]? = some (.cells #[.string o.p, .slice oo1 o.xs.length oc1, .slice oo2 o.ys.length oc2, .int .i64 o.st, .slice oo3 o.fs.length oc3, .string o.b, .int .i64 o.t] 51)) (hT : aI5 w) (hP : aJ4 s) (c b n : Nat) (D : DataW Value) (W : World) (hb : Below w.heap.size w W) (hc : w.heap.size ≤ c) (hbb : w.heap.size ≤ b) (hq : W.heap[c]? = some (.cells #[v1, v2, V, cU1 VB, .int .i64 s.nx, .int .i64 s.sq, .map (some b)] 143)) (hko : aC0 W b n D) (hmi : aM5 D kv) (hn : n ≤ kv.length) :
  Calls prog 46 #[.pointer (some ⟨c, 0, none⟩), .pointer (some ⟨q, 0, none⟩)] W fun e w' => cN3 c b V B (cE4 s kv o oo1 oo2 oo3 oc1 oc2 oc3) (¬ aR1 s o) W e w' := by
 have b2 : aA2 w B (aB4 v1 v2 V VB kv s.cs s.ws s.bl) := hall.sub (List.sublist_append_left _ _);have b5 : aA2 w B (kpR (o, Value.slice oo1 o.xs.length oc1, Value.slice oo2 o.ys.length oc2, Value.slice oo3 o.fs.length oc3)) := hall.sub (List.sublist_append_right _ _);have a2 : aD8 w B v1 v2 V VB kv s := ⟨b2, hk⟩;obtain ⟨ob, cb, c3⟩ := aA0 a2.bans;subst c3;have c4 : kv.length = s.ks.length := by rw [← hk, List.length_map]
 have d2 := cI7 hP;have a1 : ∀ W', aD5 W W' c b → Below w.heap.size w W' := fun W' hg => aD5.belowB hb hg hb.size hc hbb
 have a8 : aG2 kv := bD5 hP hk;have a9 : aO2 kv := a2.kept.slices;have b0 : ∀ x ∈ kv, aD6 x.1 := fun x hx => hz.kv hk hx
 have a3 : W.heap[q]? = some (.cells #[.string o.p, .slice oo1 o.xs.length oc1, .slice oo2 o.ys.length oc2, .int .i64 o.st, .slice oo3 o.fs.length oc3, .string o.b, .int .i64 o.t] 51) := (hb.block _ (blt hob)).trans hob;have b6 := cQ5 c b n D v1 v2 V ob s.bl.length s.bl.length kv s.cs s.ws s.bl s.nx s.sq o oo1 oo2 oo3 oc1 oc2 oc3 B W hq hko hmi a8 a9 (by omega) (fun W' hg x hx => (a2.below (a1 W' hg)).kept.read hx) b0 (fun W' hg => ⟨B, b5.below (a1 W' hg)⟩) hso (fun W' hg => aO4 (a2.below (a1 W' hg)).bans) hz.b hz.bm (fun W' hg => (a2.below (a1 W' hg)).disk) hP.1 hz.ct hz.wt hP.2.2.1 hP.2.2.2.1.1 hP.2.2.2.1.2 (fun W' hg => hT.below (a1 W' hg))
 have q0 : W.cell? ⟨q, 0, none⟩ = some (.string o.p) := (aA9 a3 0).trans rfl;have q1 : W.cell? ⟨q, 1, none⟩ = some (.slice oo1 o.xs.length oc1) := (aA9 a3 1).trans rfl;have q2 : W.cell? ⟨q, 2, none⟩ = some (.slice oo2 o.ys.length oc2) := (aA9 a3 2).trans rfl;have q3 : W.cell? ⟨q, 3, none⟩ = some (.int .i64 o.st) := (aA9 a3 3).trans rfl;have q4 : W.cell? ⟨q, 4, none⟩ = some (.slice oo3 o.fs.length oc3) := (aA9 a3 4).trans rfl;have q5 : W.cell? ⟨q, 5, none⟩ = some (.string o.b) := (aA9 a3 5).trans rfl;have q6 : W.cell? ⟨q, 6, none⟩ = some (.int .i64 o.t) := (aA9 a3 6).trans rfl
 have HK : Hid (Calls prog 47 #[.pointer (some ⟨c, 0, none⟩), .agg #[.string o.p, .slice oo1 o.xs.length oc1, .slice oo2 o.ys.length oc2, .int .i64 o.st, .slice oo3 o.fs.length oc3, .string o.b, .int .i64 o.t]] W fun e w' => cN3 c b V B (cE4 s kv o oo1 oo2 oo3 oc1 oc2 oc3) (¬ aR1 s o) W e w') := b6.mono (by
  rintro e w' ⟨ok, u1, u2, b7, b8, b9, c0, n', D', c1, B', rfl, a4, a6, d3, a5, c5, hg, b3, c6⟩
  have c2 := a1 w' hg
  cases ok with
  | false =>
   obtain ⟨c7, e1, e2, e3, e4, e5, e6, e7, f, e8⟩ := c6 rfl
   subst e1 e2 e3 e4 e5 e6 e7 e8
   refine ⟨false, _, _, .slice ob s.bl.length cb, s.cs, s.ws, kv.filter f, s.bl, s.nx, s.sq, n', D', s.bl.length, rfl, a4, a6, a5, by omega, a8.sub List.filter_sublist, a9.sub (fun x hx => (List.mem_filter.1 hx).1), ?_, ?_, hg, (fun h => nomatch h), fun _ => c7⟩
   ·exact (cN6 (b2.below c2)).sub ((List.Sublist.refl _).append (bF1 kpR List.filter_sublist))
   ·refine ⟨hz.c, hz.w, ?_, hz.b, hz.ct, hz.wt, ?_, hz.bt⟩
    ·rw [List.length_map]
     have := List.length_filter_le f kv
     show _ ≤ _
     omega
    ·intro k b4
     obtain ⟨x, hx, rfl⟩ := List.mem_map.1 b4
     exact b0 x (List.mem_filter.1 hx).1
  | true =>
   obtain ⟨c8, e1, e2, e3, e4, e5, e6⟩ := b3 rfl
   subst e1 e2 e3 e4 e6
   obtain ⟨kf, b1⟩ := exq ((kv.filter (fun y => !decide (bA1 y.1 o))).filter (fun x => !decide (x.1.a = s.nx)))
   have a0 : List.Sublist kf kv := by rw [b1]; exact List.filter_sublist.trans List.filter_sublist
   have c9 : ∀ x ∈ kf, x.1.a ≠ s.nx := fun x hx => by
    rw [b1] at hx
    have := (List.mem_filter.1 hx).2
    simpa using this
   rw [← b1] at a5
   refine ⟨true, u1, u2, .slice ob s.bl.length cb, _, _, kf ++ [((⟨o.p, o.xs, o.ys, o.st, o.fs, o.b, o.t, s.nx, s.sq⟩ : KpD), Value.slice oo1 o.xs.length oc1, Value.slice oo2 o.ys.length oc2, Value.slice oo3 o.fs.length oc3)], s.bl, _, _, n', D', s.bl.length, rfl, a4, a6, a5, by omega, aX1.2 ⟨a8.sub a0, c9⟩, ?_, ?_, ?_, hg, fun _ => ⟨c8, rfl, rfl, by rw [b1], rfl, rfl, rfl⟩, (fun h => nomatch h)⟩
   ·intro x hx
    rcases List.mem_append.1 hx with hx | hx
    ·exact a9 x (a0.subset hx)
    ·rw [List.mem_singleton.1 hx]
     exact ⟨oo1, oc1, oo2, oc2, oo3, oc3, rfl, rfl, rfl⟩
   ·have h0 : aA2 w B ([(⟨62, 4, .slice ob s.bl.length cb, s.bl.length, aB1 s.bl⟩ : Rw)] ++ kf.flatMap kpR ++ kpR (o, Value.slice oo1 o.xs.length oc1, Value.slice oo2 o.ys.length oc2, Value.slice oo3 o.fs.length oc3)) := by
     have h1 : aA2 w B (((aJ5 v1 v2 (.slice ob s.bl.length cb) s.cs s.ws s.bl ++ kv.flatMap kpR) ++ [aH2 V kv]) ++ kpR (o, Value.slice oo1 o.xs.length oc1, Value.slice oo2 o.ys.length oc2, Value.slice oo3 o.fs.length oc3)) := hall.perm (bF0.symm.append_right _)
     refine h1.sub (List.Sublist.append (List.Sublist.trans ?_ (List.sublist_append_left _ _)) (List.Sublist.refl _))
     exact List.Sublist.append (by unfold aJ5; exact List.sublist_append_right [(⟨9, 1, v1, s.cs.length, s.cs.map Value.string⟩ : Rw), ⟨155, 2, v2, s.ws.length, aA1 s.ws⟩] _) (bF1 kpR a0)
    have h2 := h0.more c2 (aS6 c5) (Nat.le_trans hb.size e5) (Nat.le_trans hB (Nat.le_trans hb.size e5))
    refine h2.perm (List.perm_append_comm.trans (List.Perm.of_eq ?_))
    rw [List.flatMap_append, List.flatMap_cons, List.flatMap_nil, List.append_nil]
    unfold aJ5
    simp only [List.cons_append, List.nil_append]
    rfl
   ·refine ⟨Nat.le_trans bW8 hz.c, Nat.le_trans (cN7 hP.1.2.1) (by decide), ?_, hz.b, cC2 hP.1 hz.ct hz.wt, cC3 hz.wt (Nat.le_trans (bN1 _ _) (by decide)), ?_, hz.bt⟩
    ·rw [List.length_map, List.length_append, List.length_singleton]
     have := a0.length_le
     show _ ≤ _
     omega
    ·intro k b4
     obtain ⟨x, hx, rfl⟩ := List.mem_map.1 b4
     rcases List.mem_append.1 hx with hx | hx
     ·exact b0 x (a0.subset hx)
     ·rw [List.mem_singleton.1 hx]
      exact hso)
 clear b6 a3 hob hall b2 b5 a2 hz hso hT hq hko hmi hP hk a8 a9 b0 a1 hb;go_enter func46, ntmps46;go_wp2_with fail
 refine HK.out.mono ?_;rintro e w1 ⟨ok, u1, u2, d0, b7, b8, c1, d1, b9, c0, n', D', cX, rfl, a7⟩;go_wp2_with fail
 go_ret;exact ⟨ok, u1, u2, d0, b7, b8, c1, d1, b9, c0, n', D', cX, rfl, a7⟩
open Classical in
theorem cN9 {s : ShD} (hP : aJ4 s) {kv kvt : Ks} (hk : kv.map (·.1) = s.ks) (o : KpD) (oo1 oo2 oo3 : Oa) (oc1 oc2 oc3 : Nat) (hp : kvt.Perm ((kv.filter (fun y => !decide (bA1 y.1 o))).filter (fun x => !decide (x.1.a = s.nx)) ++ [((⟨o.p, o.xs, o.ys, o.st, o.fs, o.b, o.t, s.nx, s.sq⟩ : KpD), Value.slice oo1 o.xs.length oc1, Value.slice oo2 o.ys.length oc2, Value.slice oo3 o.fs.length oc3)])) (hs : kvt.Pairwise (fun x y => x.1.q ≤ y.1.q)) : kvt.map (·.1) = s.ks.filter (fun k => decide (aT0 s o k)) ++ [⟨o.p, o.xs, o.ys, o.st, o.fs, o.b, o.t, s.nx, s.sq⟩] := by
 have a2 : s.ks.Pairwise (fun x y => x.q < y.q) := by
  have a3 : ∀ i j, i < j → j < s.ks.length → (kpAt s.ks i).q < (kpAt s.ks j).q := by
   intro i j a4
   induction j with
   | zero => omega
   | succ j ih =>
    intro hj
    have h1 := (hP.2.2.2.2.2 (j + 1) hj).2.2.2.1 (by omega)
    rw [Nat.add_sub_cancel] at h1
    rcases Nat.lt_or_ge i j with h | h
    ·have := ih h (by omega); omega
    ·have : i = j := by omega
     subst this
     exact h1
  rw [List.pairwise_iff_getElem]
  intro i j hi hj a4
  rw [aQ7, aQ7]
  exact a3 i j a4 hj
 have a1 : ∀ k ∈ s.ks, k.q < s.sq := fun k a6 => by
  obtain ⟨i, hi, e⟩ := List.getElem_of_mem a6
  rw [aQ7] at e
  have := (hP.2.2.2.2.2 i hi).2.2.1.2
  rw [e] at this
  omega
 have hf : ((kv.filter (fun y => !decide (bA1 y.1 o))).filter (fun x => !decide (x.1.a = s.nx))).map (·.1) = s.ks.filter (fun k => decide (aT0 s o k)) := by
  rw [← hk, List.filter_map, List.filter_filter]
  congr 1
  apply List.filter_congr
  intro x _
  unfold aT0
  by_cases h1 : x.1.a = s.nx <;> by_cases h2 : bA1 x.1 o <;> simp [h1, h2]
 have a5 : (kvt.map (·.1)).Perm (s.ks.filter (fun k => decide (aT0 s o k)) ++ [⟨o.p, o.xs, o.ys, o.st, o.fs, o.b, o.t, s.nx, s.sq⟩]) := by
  have h := hp.map (·.1)
  rw [List.map_append, hf] at h
  exact h
 have a7 : (kvt.map (·.1)).Pairwise (fun x y => x.q ≤ y.q) := List.pairwise_map.2 hs
 have a0 : (s.ks.filter (fun k => decide (aT0 s o k)) ++ [(⟨o.p, o.xs, o.ys, o.st, o.fs, o.b, o.t, s.nx, s.sq⟩ : KpD)]).Pairwise (fun x y => x.q < y.q) := by
  rw [List.pairwise_append]
  refine ⟨a2.sublist List.filter_sublist, List.pairwise_singleton _ _, fun a ha b hb => ?_⟩
  rw [List.mem_singleton.1 hb]
  exact a1 a (List.mem_filter.1 ha).1
 have a8 : ∀ a b : KpD, a ∈ (s.ks.filter (fun k => decide (aT0 s o k)) ++ [(⟨o.p, o.xs, o.ys, o.st, o.fs, o.b, o.t, s.nx, s.sq⟩ : KpD)]) → b ∈ (s.ks.filter (fun k => decide (aT0 s o k)) ++ [(⟨o.p, o.xs, o.ys, o.st, o.fs, o.b, o.t, s.nx, s.sq⟩ : KpD)]) → a.q = b.q → a = b := by
  intro a b ha hb e
  obtain ⟨i, hi, rfl⟩ := List.getElem_of_mem ha
  obtain ⟨j, hj, rfl⟩ := List.getElem_of_mem hb
  rw [List.pairwise_iff_getElem] at a0
  rcases Nat.lt_trichotomy i j with h | h | h
  ·have := a0 i j hi hj h; omega
  ·subst h; rfl
  ·have := a0 j i hj hi h; omega
 refine List.Perm.eq_of_pairwise (fun a b ha hb h1 h2 => a8 a b (a5.mem_iff.1 ha) hb (by omega)) a7 (a0.imp (fun h => by omega)) a5
def bR6 (s : ShD) (o : KpD) (w : World) (e : Ending) (w' : World) : Prop :=
 ∃ (ok : Bool) (r : ShD) (va vb vc vd : Value) (kvc : Ks), e = .returned (.tuple #[.agg #[va, vb, vc, vd, .int .i64 r.nx, .int .i64 r.sq], .bool ok]) ∧ ((ok = false ∧ ¬ aJ4 s ∧ r = bE2) ∨ (aJ4 s ∧ ((ok = false ∧ ¬ aR1 s o ∧ r = s) ∨ (ok = true ∧ aR1 s o ∧ bN0 s o r)))) ∧ aD8 w' w.heap.size va vb vc vd kvc r ∧ Below w.heap.size w w'
theorem bW9 (W : World) (B : Nat) : aD8 W B (.slice none 0 0) (.slice none 0 0) (.slice none 0 0) (.slice none 0 0) [] bE2 := by
 refine ⟨⟨fun r hr => ?_, ?_⟩, rfl⟩
 ·simp only [aB4, aC9, aH2, bE2, List.cons_append, List.nil_append, List.flatMap_nil, List.mem_cons, List.not_mem_nil, or_false] at hr
  rcases hr with rfl | rfl | rfl | rfl <;> exact World.ownsRow_nil _ _ _ _
 have hn : ∀ r ∈ aB4 (.slice none 0 0) (.slice none 0 0) (.slice none 0 0) (.slice none 0 0) [] bE2.cs bE2.ws bE2.bl, r.v.ownBlock = none := fun r hr => by
  simp only [aB4, aC9, aH2, bE2, List.cons_append, List.nil_append, List.flatMap_nil, List.mem_cons, List.not_mem_nil, or_false] at hr
  rcases hr with rfl | rfl | rfl | rfl <;> rfl
 rw [List.pairwise_iff_getElem];intro i j hi hj _ g h1 _;rw [hn _ (List.getElem_mem hi)] at h1;cases h1
theorem cI8 {s : ShD} {kv : Ks} (hk : kv.map (·.1) = s.ks) {o : KpD} {oo1 oo2 oo3 : Oa} {oc1 oc2 oc3 : Nat} {w : World} {e : Ending} {w' : World} (h : bW7 s (cE4 s kv o oo1 oo2 oo3 oc1 oc2 oc3) (¬ aR1 s o) w e w') : bR6 s o w e w' := by
 rcases h with ⟨h1, h2, h3⟩ | ⟨h1, h2, va, vb, vc, vd, a0, h3, h4, h5⟩ | ⟨h1, a4, a5, a6, a1, a7, a8, a9, va, vb, vc, vd, a0, a2, hp, hs, h3, h4, h5⟩
 ·exact ⟨false, bE2, _, _, _, _, [], h2, .inl ⟨rfl, h1, rfl⟩, bW9 _ _, h3⟩
 ·exact ⟨false, s, va, vb, vc, vd, a0, h3, .inr ⟨h1, .inl ⟨rfl, h2, rfl⟩⟩, h4, h5⟩
 obtain ⟨a3, e1, e2, e3, e4, e5, e6⟩ := a2;subst e1 e2 e3 e4 e5 e6;refine ⟨true, ⟨aV7 s.cs s.ws, aX2 s.ws s.nx (recI s.sq (objT o.p o.ys o.st o.fs o.b o.t)), a1.map (·.1), s.bl, aN5 s.nx, s.sq + 1⟩, va, vb, vc, vd, a0, h3, .inr ⟨h1, .inr ⟨rfl, a3, ?_⟩⟩, h4, h5⟩;exact ⟨cU7 h1.1 (by have := h1.2.2.1; omega) _, cN9 h1 hk o oo1 oo2 oo3 oc1 oc2 oc3 hp hs, rfl, rfl, rfl⟩
theorem bX0 (o : KpD) (oo1 oo2 oo3 : Oa) (oc1 oc2 oc3 : Nat) (v1 v2 V VB : Value) (kv : Ks) (s : ShD) (B : Nat) (w : World) (hall : aA2 w B (aB4 v1 v2 V VB kv s.cs s.ws s.bl ++ kpR (o, Value.slice oo1 o.xs.length oc1, Value.slice oo2 o.ys.length oc2, Value.slice oo3 o.fs.length oc3))) (hk : kv.map (·.1) = s.ks) (hz : aG1 s) (hB : B ≤ w.heap.size) (hso : aD6 o) (hT : aI5 w) :
  Calls prog 11 #[.agg #[v1, v2, V, VB, .int .i64 s.nx, .int .i64 s.sq], .agg #[.string o.p, .slice oo1 o.xs.length oc1, .slice oo2 o.ys.length oc2, .int .i64 o.st, .slice oo3 o.fs.length oc3, .string o.b, .int .i64 o.t]] w fun e w' => bR6 s o w e w' := by
 have d1 := hid hall;have d2 : Hid (∀ W, Bw w W → aD8 W B v1 v2 V VB kv s) := fun W hb => ⟨(hall.sub (List.sublist_append_left _ _)).below hb, hk⟩
 have c6 := hid hk;have HZ := hid hz;have c7 := hid hB;have d3 := hid hso;have d4 : Hid (aI5 w) := hT;clear hall hk hz hB hso hT;have K0 := jnil w;go_enter func11, ntmps11;go_upto_region 1 with fail
 obtain ⟨q1, b0⟩ := exq (w.heap.size);obtain ⟨w1, a3⟩ := exq (w.alloc (.cells #[v1, v2, V, VB, .int .i64 s.nx, .int .i64 s.sq] 43));have b1 := b0.symm;rw [← a3]; try rw [← b0];have c8 := hsa a3 b1;have bw := bal a3;have K1 := ja K0 a3 b1;clear bw a3 b1 K0;obtain ⟨q2, b2⟩ := exq (q1 + 1);obtain ⟨w2, a4⟩ := exq (w1.alloc (.cells #[.string o.p, .slice oo1 o.xs.length oc1, .slice oo2 o.ys.length oc2, .int .i64 o.st, .slice oo3 o.fs.length oc3, .string o.b, .int .i64 o.t] 51));have b3 : w1.heap.size = q2 := by rw [b2]; exact c8
 rw [← a4]; try rw [← b2];have c9 := hsa a4 b3;have bw := bal a4;have K2 := ja K1 a4 b3;clear bw a4 b3 K1;obtain ⟨q3, b4⟩ := exq (q2 + 1);obtain ⟨w3, a5⟩ := exq (w2.alloc (.cells #[.slice none 0 0, .slice none 0 0, .slice none 0 0, .slice none 0 0, .int .i64 0, .int .i64 0] 43));have b5 : w2.heap.size = q3 := by rw [b4]; exact c9
 rw [← a5]; try rw [← b4];have d5 := hsa a5 b5;have bw := bal a5;have K3 := ja K2 a5 b5;clear bw a5 b5 K2;clear d5 b4 c9 b2 c8 b0;have b6 := c6c (jb K3 2 rfl);have a6 := K3.hb.size;go_wp2_with fail
 refine ((cC1 46 q2 v1 v2 V VB kv s B _ (d2.out _ K3.hb) HZ.out (Nat.le_trans c7.out K3.hb.size) (cE4 s kv o oo1 oo2 oo3 oc1 oc2 oc3) (¬ aR1 s o) (enters_of func46 (by kernel_rfl) rfl) (cN8 q2 o oo1 oo2 oo3 oc1 oc2 oc3 v1 v2 V VB kv s B _ (d1.out.below K3.hb) c6.out HZ.out (Nat.le_trans c7.out K3.hb.size) d3.out (jb K3 1 rfl) (d4.out.below K3.hb))).mono (fun e w' h => cI8 c6.out h)).mono ?_
 rintro e w4 ⟨ok, r, va, vb, vc, vd, a2, rfl, a1, hso, bw⟩;obtain ⟨b7, b8, d6⟩ := aA0 hso.disk.cells;obtain ⟨b9, c0, d7⟩ := aA0 hso.disk.pend;obtain ⟨c1, c2, d8⟩ := hso.kept.len;obtain ⟨c3, c4, d9⟩ := aA0 hso.bans;subst d6 d7 d8 d9;have K4 := jw K3 bw;clear bw K3;have c5 : Hid (aA2 (w4) w.heap.size (aB4 (.slice b7 r.cs.length b8) (.slice b9 r.ws.length c0) (.slice c1 a2.length c2) (.slice c3 r.bl.length c4) a2 r.cs r.ws r.bl)) := aA2.wide hso.1 a6;have e0 : Hid (a2.map (·.1) = r.ks) := hso.2;have a7 := hid a1;clear hso a1 a6;clear b6;have e1 := c6f (jb K4 0 rfl);go_wp2_with fail
 obtain ⟨e2, a0⟩ := exq ((((((w4.setCell ⟨q3, 0, none⟩ (.slice b7 r.cs.length b8)).setCell ⟨q3, 1, none⟩ (.slice b9 r.ws.length c0)).setCell ⟨q3, 2, none⟩ (.slice c1 a2.length c2)).setCell ⟨q3, 3, none⟩ (.slice c3 r.bl.length c4)).setCell ⟨q3, 4, none⟩ (.int .i64 r.nx)).setCell ⟨q3, 5, none⟩ (.int .i64 r.sq));rw [← a0];have d0 := jss K4 0 [(0, _), (1, _), (2, _), (3, _), (4, _), (5, _)] a0;have a8 := hid (jrs [(0, _), (1, _), (2, _), (3, _), (4, _), (5, _)] c5.out a0 (jb K4 0 rfl) (aG6 43 (by decide) (by decide) (by decide) (by decide) (by decide)));clear a0 K4;have a9 := c6c (jb d0 0 rfl);refine bodyPost_ret (v := .tuple #[.agg #[.slice b7 r.cs.length b8, .slice b9 r.ws.length c0, .slice c1 a2.length c2, .slice c3 r.bl.length c4, .int .i64 r.nx, .int .i64 r.sq], .bool ok]) (by simp [results, results11, go_sem, a9]) rfl ?_;exact ⟨ok, r, _, _, _, _, a2, rfl, a7.out, ⟨a8.out, e0.out⟩, d0.hb⟩
end Go.Proofs.YtejoifianjgefaaGreatDoor
