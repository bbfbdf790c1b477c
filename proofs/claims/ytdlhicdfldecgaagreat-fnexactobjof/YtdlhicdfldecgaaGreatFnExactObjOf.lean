/- ObjOf: at every argument the program answers as the specification (the law answers true), it writes into no argument, and its answer owns its memory: no condition. -/
import Derived.Test.YtdlhicdfldecgaaGreatFnExactObjOfW
import Derived.Test.YtdlhicdfldecgaaGreatRows
import Derived.WalkKit
import Derived.ProofKit
import Derived.OpenShut
import Derived.ShutString
import Derived.ChangeOld
import Derived.Below
import Derived.Deep.RegionHeld3
import Derived.Deep.DrawnRows
import Derived.Deep.CutRange
import Derived.Deep.DeepCutAuto
namespace Go.Proofs.YtdlhicdfldecgaaGreat
namespace fnExactObjOf
open Go.ChangeShapes Go.WideShapes Go.ChangeAt Go.RowKit
open Go.ChangeMaps (open_string shut_string)
attribute [local go_sem ↓] Go.wp_at_zero Go.wp_at_succ

open Go.Lib hiding intOf
set_option maxHeartbeats 16000000 in
set_option maxRecDepth 100000 in
theorem walkF (w : World) (m : Int) (p : ByteArray) (a : Option Addr) (n cap : Nat) (b : ByteArray) (fs : List (ByteArray × ByteArray)) (h1 : ArgF w w.heap.size a n fs) (hn1 : n ≤ maxLen) (hs1 : WalkF n fs) (hp : p.size ≤ maxLen) (hb : b.size ≤ maxLen) (st : Int) (a2 : Option Addr) (k cap2 : Nat) (d : ByteArray) (gs : List (ByteArray × ByteArray)) (h2 : ArgF w w.heap.size a2 k gs) (hn2 : k ≤ maxLen) (hs2 : WalkF k gs) (hd : d.size ≤ maxLen) (t : Int) (vl yl : List ByteArray) (hvl : vl = varyP gs) (hyl : yl = valsP vl fs) (hK : ¬ (MayP m p fs b st gs d ∧ ObjP p vl yl st gs d t)) :
    Calls Tryz.prog 3 #[.agg #[.int .i64 m, .string p, .slice a n cap, .string b], .agg #[.int .i64 st, .slice a2 k cap2, .string d], .int .i64 t] w fun e w' => e = .returned (.bool true) ∧ Below w.heap.size w w' := by
  have HA1 : Hid (∀ W, Below w.heap.size w W → ArgF W w.heap.size a n fs) := fun W h => h1.below h
  have HA2 : Hid (∀ W, Below w.heap.size w W → ArgF W w.heap.size a2 k gs) := fun W h => h2.below h
  have HL1 : Hid (fs.length = n) := h1.len
  have HL2 : Hid (gs.length = k) := h2.len
  have HN1 : Hid (n ≤ maxLen) := hn1
  have HN2 : Hid (k ≤ maxLen) := hn2
  have HS1 : Hid (WalkF n fs) := hs1
  have HS2 : Hid (WalkF k gs) := hs2
  have HPM : Hid (p.size ≤ maxLen) := hp
  have HBM : Hid (b.size ≤ maxLen) := hb
  have HDM : Hid (d.size ≤ maxLen) := hd
  have HVL : Hid (vl = varyP gs) := hvl
  have HYL : Hid (yl = valsP vl fs) := hyl
  have HKK : Hid (¬ (MayP m p fs b st gs d ∧ ObjP p vl yl st gs d t)) := hK
  clear h1 h2 hn1 hn2 hs1 hs2 hp hb hd hvl hyl hK
  have hb0 : Below w.heap.size w w := Below.refl _ _
  go_enter Tryz.func3, Tryz.ntmps3
  go_upto_region 1 with fail
  obtain ⟨qv1, hqv1⟩ : ∃ q, q = (w).heap.size := ⟨_, rfl⟩
  obtain ⟨w1, hW1⟩ : ∃ W, W = (w).alloc (.cells #[.int .i64 m, .string p, .slice a n cap, .string b] 24) := ⟨_, rfl⟩
  have hz1 : (w).heap.size = qv1 := hqv1.symm
  first | rw [← hW1, ← hqv1] | rw [← hW1]
  have hs1 : w1.heap.size = qv1 + 1 := by rw [hW1, ← hz1]; simp
  have bw : Below (w).heap.size (w) w1 := by rw [hW1]; exact (Below.refl _ _).alloc (Nat.le_refl _) _
  have hb1 : Below w.heap.size w (w1) := hb0.trans (bw.mono hb0.size)
  have HM1 : Hid ((w).heap.size ≤ (w1).heap.size) := bw.size
  have HBv1_1 : Hid ((w1).heap[qv1]? = some (.cells #[.int .i64 m, .string p, .slice a n cap, .string b] 24)) := by show _ = _; rw [hW1, ← hz1]; exact heap_alloc_new _ _
  have HGv1 : Hid (w.heap.size ≤ qv1) := by show _ ≤ _; rw [← hz1]; exact hb0.size
  clear hb0 bw hW1 hz1
  obtain ⟨qv2, hqv2⟩ : ∃ q, q = qv1 + 1 := ⟨_, rfl⟩
  obtain ⟨w2, hW2⟩ : ∃ W, W = (w1).alloc (.cells #[.int .i64 st, .slice a2 k cap2, .string d] 26) := ⟨_, rfl⟩
  have hz2 : (w1).heap.size = qv2 := by rw [hqv2]; exact hs1
  first | rw [← hW2, ← hqv2] | rw [← hW2]
  have hs2 : w2.heap.size = qv2 + 1 := by rw [hW2, ← hz2]; simp
  have bw : Below (w1).heap.size (w1) w2 := by rw [hW2]; exact (Below.refl _ _).alloc (Nat.le_refl _) _
  have hb2 : Below w.heap.size w (w2) := hb1.trans (bw.mono hb1.size)
  have HM2 : Hid ((w1).heap.size ≤ (w2).heap.size) := bw.size
  have HBv1_2 : Hid ((w2).heap[qv1]? = some (.cells #[.int .i64 m, .string p, .slice a n cap, .string b] 24)) := blk_below HBv1_1.out bw
  have HNv1v2 : Hid (qv1 ≠ qv2) := fun e => by have h1 := (Array.getElem?_eq_some_iff.1 HBv1_1.out).1; omega
  have HBv2_2 : Hid ((w2).heap[qv2]? = some (.cells #[.int .i64 st, .slice a2 k cap2, .string d] 26)) := by show _ = _; rw [hW2, ← hz2]; exact heap_alloc_new _ _
  have HGv2 : Hid (w.heap.size ≤ qv2) := by show _ ≤ _; rw [← hz2]; exact hb1.size
  clear hb1 HBv1_1 bw hW2 hz2
  clear hs2 hqv2 hs1 hqv1
  have cv1_0 : (w2).cell? ⟨qv1, 0, none⟩ = some (.int .i64 m) := (cell_of HBv1_2.out 0).trans rfl
  have cv1_1 : (w2).cell? ⟨qv1, 1, none⟩ = some (.string p) := (cell_of HBv1_2.out 1).trans rfl
  have cv1_2 : (w2).cell? ⟨qv1, 2, none⟩ = some (.slice a n cap) := (cell_of HBv1_2.out 2).trans rfl
  have cv1_3 : (w2).cell? ⟨qv1, 3, none⟩ = some (.string b) := (cell_of HBv1_2.out 3).trans rfl
  go_wp2_with fail
  refine (szReq_room 1048576 (by omega) (by omega) m p a n cap b fs _ (argUp (HA1.out _ hb2) hb2.size) HN1.out HS1.out HPM.out HBM.out).mono ?_
  rintro e w3 ⟨r1, rfl, hl1, hr1, bw⟩
  have hb3 : Below w.heap.size w (w3) := hb2.trans (bw.mono hb2.size)
  have HM3 : Hid ((w2).heap.size ≤ (w3).heap.size) := bw.size
  have HBv1_3 : Hid ((w3).heap[qv1]? = some (.cells #[.int .i64 m, .string p, .slice a n cap, .string b] 24)) := blk_below HBv1_2.out bw
  have HBv2_3 : Hid ((w3).heap[qv2]? = some (.cells #[.int .i64 st, .slice a2 k cap2, .string d] 26)) := blk_below HBv2_2.out bw
  clear hb2 HBv1_2 HBv2_2 bw
  clear cv1_0 cv1_1 cv1_2 cv1_3
  by_cases hc1 : r1 < 0
  · clear hr1
    go_wp2_with fail
    go_ret
    exact ⟨rfl, hb3⟩
  · obtain ⟨hrm1, _, hm1, hz1⟩ := hr1 (by omega)
    clear hr1
    have cv2_0 : (w3).cell? ⟨qv2, 0, none⟩ = some (.int .i64 st) := (cell_of HBv2_3.out 0).trans rfl
    have cv2_1 : (w3).cell? ⟨qv2, 1, none⟩ = some (.slice a2 k cap2) := (cell_of HBv2_3.out 1).trans rfl
    have cv2_2 : (w3).cell? ⟨qv2, 2, none⟩ = some (.string d) := (cell_of HBv2_3.out 2).trans rfl
    go_wp2_with fail
    refine (szResp_room r1 (by omega) (by omega) st a2 k cap2 d gs _ (argUp (HA2.out _ hb3) hb3.size) HN2.out HS2.out HDM.out).mono ?_
    rintro e w4 ⟨r2, rfl, hl2, hr2, bw⟩
    have hb4 : Below w.heap.size w (w4) := hb3.trans (bw.mono hb3.size)
    have HM4 : Hid ((w3).heap.size ≤ (w4).heap.size) := bw.size
    have HBv1_4 : Hid ((w4).heap[qv1]? = some (.cells #[.int .i64 m, .string p, .slice a n cap, .string b] 24)) := blk_below HBv1_3.out bw
    have HBv2_4 : Hid ((w4).heap[qv2]? = some (.cells #[.int .i64 st, .slice a2 k cap2, .string d] 26)) := blk_below HBv2_3.out bw
    clear hb3 HBv1_3 HBv2_3 bw
    clear cv2_0 cv2_1 cv2_2
    by_cases hc2 : r2 < 0
    · clear hr2
      go_wp2_with fail
      go_ret
      exact ⟨rfl, hb4⟩
    · obtain ⟨hrm2, _, hm2, hz2⟩ := hr2 (by omega)
      clear hr2
      have HG1 : Hid (∀ x, (getV fs x).size ≤ 1048576) := fun x => by
        unfold getV
        split
        · rename_i h
          have := szTo_get fs n (atF fs x) (by rw [← HL1.out]; exact h)
          omega
        · decide
      have HG2 : Hid (∀ x, (getV gs x).size ≤ 1048576) := fun x => by
        unfold getV
        split
        · rename_i h
          have := szTo_get gs k (atF gs x) (by rw [← HL2.out]; exact h)
          omega
        · decide
      have HCF1 : Hid (CopyF fs) := fun i hi => by
        have := szTo_get fs n i (by rw [← HL1.out]; exact hi)
        omega
      have HCF2 : Hid (CopyF gs) := fun i hi => by
        have := szTo_get gs k i (by rw [← HL2.out]; exact hi)
        omega
      have HSP : Hid (∀ (u1 u2 : Value) (B1 B2 : Nat) (W : World), W.ownsRow B1 75 2 u1 n (flatF fs) → W.ownsRow B2 75 2 u2 k (flatF gs) → Calls Tryz.prog 6 #[.agg #[.int .i64 m, .string p, u1, .string b], .agg #[.int .i64 st, u2, .string d], .int .i64 t] W fun e w' => e = .returned (.tuple #[.agg #[.string ⟨#[]⟩, .slice none 0 0, .slice none 0 0, .int .i64 0, .slice none 0 0, .string ⟨#[]⟩, .int .i64 0], .bool false]) ∧ Below W.heap.size W w') := fun u1 u2 B1 B2 W h1 h2 => ofF HKK.out (specObjOf_any m p u1 b n B1 fs st u2 d k B2 gs t vl yl W (FieldsV.of_owns h1) (by omega) HS1.out HL1.out HPM.out HBM.out (FieldsV.of_owns h2) (by omega) HS2.out HDM.out (HG1.out _) (HG2.out _) (HG2.out _) HVL.out HYL.out)
      have HIM : Hid (∀ (u1 u2 : Value) (B1 B2 : Nat) (W : World), W.ownsRow B1 75 2 u1 n (flatF fs) → W.ownsRow B2 75 2 u2 k (flatF gs) → Calls Tryz.prog 9 #[.agg #[.int .i64 m, .string p, u1, .string b], .agg #[.int .i64 st, u2, .string d], .int .i64 t] W fun e w' => e = .returned (.tuple #[.agg #[.string ⟨#[]⟩, .slice none 0 0, .slice none 0 0, .int .i64 0, .slice none 0 0, .string ⟨#[]⟩, .int .i64 0], .bool false]) ∧ Below W.heap.size W w') := fun u1 u2 B1 B2 W h1 h2 => ofF HKK.out (implObjOf_any m p u1 b n B1 fs st u2 d k B2 gs t vl yl W (FieldsV.of_owns h1) (by omega) HS1.out HL1.out HPM.out HBM.out (FieldsV.of_owns h2) (by omega) HS2.out HDM.out (HG1.out _) (HG2.out _) (HG2.out _) HVL.out HYL.out HCF1.out HCF2.out)
      clear hz1 hz2 HG1 HG2
      go_upto_region 8 with fail
      have HSS : Hid (∀ W, Below w4.heap.size w4 W → W.heap[qv1]? = some (.cells #[.int .i64 m, .string p, .slice a n cap, .string b] 24) ∧ W.heap[qv2]? = some (.cells #[.int .i64 st, .slice a2 k cap2, .string d] 26)) := fun W h => ⟨blk_below HBv1_4.out h, blk_below HBv2_4.out h⟩
      go_cut [8, 9] (fun sx sx9 wx => ∃ (q : Nat), sx = .pointer (some ⟨q, 0, none⟩) ∧ sx9 = .bool false ∧ Hid (Below w4.heap.size w4 wx ∧ wx.heap[q]? = some (.cells #[.string ⟨#[]⟩, .slice none 0 0, .slice none 0 0, .int .i64 0, .slice none 0 0, .string ⟨#[]⟩, .int .i64 0] 34) ∧ w4.heap.size ≤ q))
      case first =>
        refine wp_region_held_drew (S := fun W => W.heap[qv1]? = some (.cells #[.int .i64 m, .string p, .slice a n cap, .string b] 24) ∧ W.heap[qv2]? = some (.cells #[.int .i64 st, .slice a2 k cap2, .string d] 26)) (by kernel_rfl) (HSS.out _ (Below.refl _ _).drew) (fun _ => ?_)
        obtain ⟨w5, hX⟩ : ∃ X, X = w4.drew := ⟨_, rfl⟩
        have bw : Below w4.heap.size w4 w5 := by rw [hX]; exact (Below.refl _ _).drew
        rw [← hX]
        have hb5 : Below w.heap.size w (w5) := hb4.trans (bw.mono hb4.size)
        have HM5 : Hid ((w4).heap.size ≤ (w5).heap.size) := bw.size
        have HBv1_5 : Hid ((w5).heap[qv1]? = some (.cells #[.int .i64 m, .string p, .slice a n cap, .string b] 24)) := blk_below HBv1_4.out bw
        have HBv2_5 : Hid ((w5).heap[qv2]? = some (.cells #[.int .i64 st, .slice a2 k cap2, .string d] 26)) := blk_below HBv2_4.out bw
        have HX_5 : Hid (Below w4.heap.size w4 w5) := bw
        clear bw hX
        refine wpAnyH_takeD (i := 0) (v := .agg #[.int .i64 m, .string p, .slice a n cap, .string b]) (some 30) rfl rfl (by kernel_rfl) (by kernel_rfl) (by kernel_rfl) (fun _ _ _ h => h) (Or.inl ⟨by rfl, by intro W hW; obtain ⟨hhv1, hhv2⟩ := hW; have y0 := (cell_of hhv1 0).trans rfl; have y1 := (cell_of hhv1 1).trans rfl; have y2 := (cell_of hhv1 2).trans rfl; have y3 := (cell_of hhv1 3).trans rfl; go_simp⟩) (HSS.out _ HX_5.out) ?_
        simp only [Act.put, List.setIfInBounds_toArray, List.set_cons_zero, List.set_cons_succ]
        refine wpAnyH_takeD (i := 2) (v := .agg #[.int .i64 st, .slice a2 k cap2, .string d]) (some 32) rfl rfl (by kernel_rfl) (by kernel_rfl) (by kernel_rfl) (fun _ _ _ h => h) (Or.inl ⟨by rfl, by intro W hW; obtain ⟨hhv1, hhv2⟩ := hW; have y0 := (cell_of hhv2 0).trans rfl; have y1 := (cell_of hhv2 1).trans rfl; have y2 := (cell_of hhv2 2).trans rfl; go_simp⟩) (HSS.out _ HX_5.out) ?_
        simp only [Act.put, List.setIfInBounds_toArray, List.set_cons_zero, List.set_cons_succ]
        refine wpAnyH_takeD (i := 4) (v := .int .i64 t) (some 34) rfl rfl (by kernel_rfl) (by kernel_rfl) (by kernel_rfl) (fun _ _ _ h => h) (Or.inl ⟨by rfl, by intro W _; go_simp⟩) (HSS.out _ HX_5.out) ?_
        simp only [Act.put, List.setIfInBounds_toArray, List.set_cons_zero, List.set_cons_succ]
        refine wpAnyH_ready (rs := [1, 9]) (by kernel_rfl) (by simp) ?_
        refine AllReadyH.cons rfl (fun K hK => ?_) (AllReadyH.cons rfl (fun K hK => ?_) AllReadyH.nil)
        · go_simp
          refine (toReq_any m p a n cap b fs w.heap.size _ (HA1.out _ hb5) hb5.size hm1).mono ?_
          rintro e w6 ⟨vv, rfl, ownQ1, bw⟩
          obtain ⟨oQ1, pQ1, rfl⟩ := slice_of_owns ownQ1
          have hb6 : Below w.heap.size w (w6) := hb5.trans (bw.mono hb5.size)
          have HM6 : Hid ((w5).heap.size ≤ (w6).heap.size) := bw.size
          have HBv1_6 : Hid ((w6).heap[qv1]? = some (.cells #[.int .i64 m, .string p, .slice a n cap, .string b] 24)) := blk_below HBv1_5.out bw
          have HBv2_6 : Hid ((w6).heap[qv2]? = some (.cells #[.int .i64 st, .slice a2 k cap2, .string d] 26)) := blk_below HBv2_5.out bw
          have HOQ1_6 : Hid ((w6).ownsRow w.heap.size 75 2 (.slice oQ1 n pQ1) n (flatF fs)) := owns_wide ownQ1 hb5.size
          have LOQ1 : Hid (∀ g, (Value.ownBlock (.slice oQ1 n pQ1)) = some g → (w5).heap.size ≤ g) := fun g hg => owns_ge ownQ1 hg
          have HIQ1 : Hid (∀ g, (Value.ownBlock (.slice oQ1 n pQ1)) = some g → g < (w6).heap.size) := fun g hg => owns_lt ownQ1 hg
          clear ownQ1
          clear hb5 HBv1_5 HBv2_5
          have HX_6 : Hid (Below w4.heap.size w4 w6) := HX_5.out.trans (bw.mono HX_5.out.size)
          refine hK.out _ _ (HSS.out _ HX_6.out) (fun _ => ?_)
          clear hK K bw HX_5
          refine wpAnyH_ready (rs := [3, 9]) (by kernel_rfl) (by simp) ?_
          refine AllReadyH.cons rfl (fun K hK => ?_) (AllReadyH.cons rfl (fun K hK => ?_) AllReadyH.nil)
          · go_simp
            refine (toResp_any st a2 k cap2 d gs w.heap.size _ (HA2.out _ hb6) hb6.size hm2).mono ?_
            rintro e w7 ⟨vv, rfl, ownR2, bw⟩
            obtain ⟨oR2, pR2, rfl⟩ := slice_of_owns ownR2
            have hb7 : Below w.heap.size w (w7) := hb6.trans (bw.mono hb6.size)
            have HM7 : Hid ((w6).heap.size ≤ (w7).heap.size) := bw.size
            have HOQ1_7 : Hid ((w7).ownsRow w.heap.size 75 2 (.slice oQ1 n pQ1) n (flatF fs)) := owns_below HOQ1_6.out bw (fun g hg => owns_lt HOQ1_6.out hg)
            have HBv1_7 : Hid ((w7).heap[qv1]? = some (.cells #[.int .i64 m, .string p, .slice a n cap, .string b] 24)) := blk_below HBv1_6.out bw
            have HBv2_7 : Hid ((w7).heap[qv2]? = some (.cells #[.int .i64 st, .slice a2 k cap2, .string d] 26)) := blk_below HBv2_6.out bw
            have HOR2_7 : Hid ((w7).ownsRow w.heap.size 75 2 (.slice oR2 k pR2) k (flatF gs)) := owns_wide ownR2 hb6.size
            have LOR2 : Hid (∀ g, (Value.ownBlock (.slice oR2 k pR2)) = some g → (w6).heap.size ≤ g) := fun g hg => owns_ge ownR2 hg
            have HIR2 : Hid (∀ g, (Value.ownBlock (.slice oR2 k pR2)) = some g → g < (w7).heap.size) := fun g hg => owns_lt ownR2 hg
            clear ownR2
            clear hb6 HOQ1_6 HBv1_6 HBv2_6
            have HX_7 : Hid (Below w4.heap.size w4 w7) := HX_6.out.trans (bw.mono HX_6.out.size)
            refine hK.out _ _ (HSS.out _ HX_7.out) (fun _ => ?_)
            clear hK K bw HX_6
            refine wpAnyH_ready (rs := [5, 9]) (by kernel_rfl) (by simp) ?_
            refine AllReadyH.cons rfl (fun K hK => ?_) (AllReadyH.cons rfl (fun K hK => ?_) AllReadyH.nil)
            · go_simp
              refine (HSP.out _ _ _ _ _ HOQ1_7.out HOR2_7.out).mono ?_
              rintro e w8 ⟨rfl, bw⟩
              have hb8 : Below w.heap.size w (w8) := hb7.trans (bw.mono hb7.size)
              have HM8 : Hid ((w7).heap.size ≤ (w8).heap.size) := bw.size
              have HOQ1_8 : Hid ((w8).ownsRow w.heap.size 75 2 (.slice oQ1 n pQ1) n (flatF fs)) := owns_below HOQ1_7.out bw (fun g hg => owns_lt HOQ1_7.out hg)
              have HOR2_8 : Hid ((w8).ownsRow w.heap.size 75 2 (.slice oR2 k pR2) k (flatF gs)) := owns_below HOR2_7.out bw (fun g hg => owns_lt HOR2_7.out hg)
              have HBv1_8 : Hid ((w8).heap[qv1]? = some (.cells #[.int .i64 m, .string p, .slice a n cap, .string b] 24)) := blk_below HBv1_7.out bw
              have HBv2_8 : Hid ((w8).heap[qv2]? = some (.cells #[.int .i64 st, .slice a2 k cap2, .string d] 26)) := blk_below HBv2_7.out bw
              clear hb7 HOQ1_7 HOR2_7 HBv1_7 HBv2_7
              have HX_8 : Hid (Below w4.heap.size w4 w8) := HX_7.out.trans (bw.mono HX_7.out.size)
              refine hK.out _ _ (HSS.out _ HX_8.out) (fun _ => ?_)
              clear hK K bw HX_7
              refine wpAnyH_takeD (i := 6) (v := .tuple #[.agg #[.string ⟨#[]⟩, .slice none 0 0, .slice none 0 0, .int .i64 0, .slice none 0 0, .string ⟨#[]⟩, .int .i64 0], .bool false]) (some 29) rfl rfl (by kernel_rfl) (by kernel_rfl) (by kernel_rfl) (fun _ _ _ h => h) (Or.inl ⟨by rfl, by intro W _; go_simp⟩) (HSS.out _ HX_8.out) ?_
              simp only [Act.put, List.setIfInBounds_toArray, List.set_cons_zero, List.set_cons_succ]
              refine wpAnyH_takeD (i := 7) (v := .agg #[.string ⟨#[]⟩, .slice none 0 0, .slice none 0 0, .int .i64 0, .slice none 0 0, .string ⟨#[]⟩, .int .i64 0]) (some 36) rfl rfl (by kernel_rfl) (by kernel_rfl) (by kernel_rfl) (fun _ _ _ h => h) (Or.inl ⟨by rfl, by intro W _; go_simp⟩) (HSS.out _ HX_8.out) ?_
              simp only [Act.put, List.setIfInBounds_toArray, List.set_cons_zero, List.set_cons_succ]
              refine wpAnyH_takeD (i := 8) (v := .bool false) (some 37) rfl rfl (by kernel_rfl) (by kernel_rfl) (by kernel_rfl) (fun _ _ _ h => h) (Or.inl ⟨by rfl, by intro W _; go_simp⟩) (HSS.out _ HX_8.out) ?_
              simp only [Act.put, List.setIfInBounds_toArray, List.set_cons_zero, List.set_cons_succ]
              refine wpAnyH_ready (rs := [9]) (by kernel_rfl) (by simp) ?_
              refine AllReadyH.cons rfl (fun K hK => ?_) AllReadyH.nil
              go_simp
              have HXA : Hid (Below w4.heap.size w4 (w8.alloc (.cells #[.string ⟨#[]⟩, .slice none 0 0, .slice none 0 0, .int .i64 0, .slice none 0 0, .string ⟨#[]⟩, .int .i64 0] 34))) := HX_8.out.alloc HX_8.out.size _
              refine hK.out _ _ (HSS.out _ HXA.out) (fun _ => ?_)
              clear hK K HXA
              obtain ⟨pa, ho⟩ : ∃ o, o = w8.heap.size := ⟨_, rfl⟩
              obtain ⟨w9, hXj⟩ : ∃ X, X = w8.alloc (.cells #[.string ⟨#[]⟩, .slice none 0 0, .slice none 0 0, .int .i64 0, .slice none 0 0, .string ⟨#[]⟩, .int .i64 0] 34) := ⟨_, rfl⟩
              rw [← ho, ← hXj]
              have HGA : Hid (w4.heap.size ≤ pa) := by show _ ≤ _; rw [ho]; exact HX_8.out.size
              have bw : Below w8.heap.size w8 w9 := by rw [hXj]; exact (Below.refl _ _).alloc (Nat.le_refl _) _
              have hb9 : Below w.heap.size w (w9) := hb8.trans (bw.mono hb8.size)
              have HM9 : Hid ((w8).heap.size ≤ (w9).heap.size) := bw.size
              have HOQ1_9 : Hid ((w9).ownsRow w.heap.size 75 2 (.slice oQ1 n pQ1) n (flatF fs)) := owns_below HOQ1_8.out bw (fun g hg => owns_lt HOQ1_8.out hg)
              have HOR2_9 : Hid ((w9).ownsRow w.heap.size 75 2 (.slice oR2 k pR2) k (flatF gs)) := owns_below HOR2_8.out bw (fun g hg => owns_lt HOR2_8.out hg)
              have HBv1_9 : Hid ((w9).heap[qv1]? = some (.cells #[.int .i64 m, .string p, .slice a n cap, .string b] 24)) := blk_below HBv1_8.out bw
              have HBv2_9 : Hid ((w9).heap[qv2]? = some (.cells #[.int .i64 st, .slice a2 k cap2, .string d] 26)) := blk_below HBv2_8.out bw
              have HX_9 : Hid (Below w4.heap.size w4 w9) := HX_8.out.trans (bw.mono HX_8.out.size)
              have HPA_9 : Hid (w9.heap[pa]? = some (.cells #[.string ⟨#[]⟩, .slice none 0 0, .slice none 0 0, .int .i64 0, .slice none 0 0, .string ⟨#[]⟩, .int .i64 0] 34)) := by show _ = _; rw [hXj, ho]; exact heap_alloc_new _ _
              clear hb8 HOQ1_8 HOR2_8 HBv1_8 HBv2_8 bw ho hXj HX_8
              refine wpAnyH_ready (rs := [10]) (by kernel_rfl) (by simp) ?_
              refine AllReadyH.cons rfl (fun K hK => ?_) AllReadyH.nil
              have ce0 : w9.cell? ⟨pa, 0, none⟩ = some (.string ⟨#[]⟩) := (cell_of HPA_9.out 0).trans rfl
              have fe0 : w9.frozen? ⟨pa, 0, none⟩ = false := frozen_of HPA_9.out 0
              have ce1 : w9.cell? ⟨pa, 1, none⟩ = some (.slice none 0 0) := (cell_of HPA_9.out 1).trans rfl
              have fe1 : w9.frozen? ⟨pa, 1, none⟩ = false := frozen_of HPA_9.out 1
              have ce2 : w9.cell? ⟨pa, 2, none⟩ = some (.slice none 0 0) := (cell_of HPA_9.out 2).trans rfl
              have fe2 : w9.frozen? ⟨pa, 2, none⟩ = false := frozen_of HPA_9.out 2
              have ce3 : w9.cell? ⟨pa, 3, none⟩ = some (.int .i64 0) := (cell_of HPA_9.out 3).trans rfl
              have fe3 : w9.frozen? ⟨pa, 3, none⟩ = false := frozen_of HPA_9.out 3
              have ce4 : w9.cell? ⟨pa, 4, none⟩ = some (.slice none 0 0) := (cell_of HPA_9.out 4).trans rfl
              have fe4 : w9.frozen? ⟨pa, 4, none⟩ = false := frozen_of HPA_9.out 4
              have ce5 : w9.cell? ⟨pa, 5, none⟩ = some (.string ⟨#[]⟩) := (cell_of HPA_9.out 5).trans rfl
              have fe5 : w9.frozen? ⟨pa, 5, none⟩ = false := frozen_of HPA_9.out 5
              have ce6 : w9.cell? ⟨pa, 6, none⟩ = some (.int .i64 0) := (cell_of HPA_9.out 6).trans rfl
              have fe6 : w9.frozen? ⟨pa, 6, none⟩ = false := frozen_of HPA_9.out 6
              obtain ⟨w10, hY⟩ : ∃ Y, Y = (((((((w9.setCell ⟨pa, 0, none⟩ (.string ⟨#[]⟩)).setCell ⟨pa, 1, none⟩ (.slice none 0 0)).setCell ⟨pa, 2, none⟩ (.slice none 0 0)).setCell ⟨pa, 3, none⟩ (.int .i64 0)).setCell ⟨pa, 4, none⟩ (.slice none 0 0)).setCell ⟨pa, 5, none⟩ (.string ⟨#[]⟩)).setCell ⟨pa, 6, none⟩ (.int .i64 0)) := ⟨_, rfl⟩
              have HY : Hid ((((((((w9.setCell ⟨pa, 0, none⟩ (.string ⟨#[]⟩)).setCell ⟨pa, 1, none⟩ (.slice none 0 0)).setCell ⟨pa, 2, none⟩ (.slice none 0 0)).setCell ⟨pa, 3, none⟩ (.int .i64 0)).setCell ⟨pa, 4, none⟩ (.slice none 0 0)).setCell ⟨pa, 5, none⟩ (.string ⟨#[]⟩)).setCell ⟨pa, 6, none⟩ (.int .i64 0)) = w10) := hY.symm
              have HX_10 : Hid (Below w4.heap.size w4 w10) := by show Below _ _ _; rw [hY]; exact (((((((HX_9.out.setCell (p := ⟨pa, 0, none⟩) HGA.out _).setCell (p := ⟨pa, 1, none⟩) HGA.out _).setCell (p := ⟨pa, 2, none⟩) HGA.out _).setCell (p := ⟨pa, 3, none⟩) HGA.out _).setCell (p := ⟨pa, 4, none⟩) HGA.out _).setCell (p := ⟨pa, 5, none⟩) HGA.out _).setCell (p := ⟨pa, 6, none⟩) HGA.out _)
              have HPA_10 : Hid (w10.heap[pa]? = some (.cells #[.string ⟨#[]⟩, .slice none 0 0, .slice none 0 0, .int .i64 0, .slice none 0 0, .string ⟨#[]⟩, .int .i64 0] 34)) := by show _ = _; rw [hY]; have h := (heap_set _ pa 6 _ _ _ (.int .i64 0) (heap_set _ pa 5 _ _ _ (.string ⟨#[]⟩) (heap_set _ pa 4 _ _ _ (.slice none 0 0) (heap_set _ pa 3 _ _ _ (.int .i64 0) (heap_set _ pa 2 _ _ _ (.slice none 0 0) (heap_set _ pa 1 _ _ _ (.slice none 0 0) (heap_set _ pa 0 _ _ _ (.string ⟨#[]⟩) HPA_9.out))))))); simpa using h
              clear hY hb9 HOQ1_9 HOR2_9 HBv1_9 HBv2_9
              go_simp
              rw [HY.out]
              refine hK.out _ _ (HSS.out _ HX_10.out) (fun _ => ?_)
              clear hK K HY ce0 fe0 ce1 fe1 ce2 fe2 ce3 fe3 ce4 fe4 ce5 fe5 ce6 fe6
              refine wpAnyH_takeD (i := 11) (v := .bool false) (some 9) rfl rfl (by kernel_rfl) (by kernel_rfl) (by kernel_rfl) (fun _ _ _ h => h) (Or.inl ⟨by rfl, by intro W _; go_simp⟩) (HSS.out _ HX_10.out) ?_
              simp only [Act.put, List.setIfInBounds_toArray, List.set_cons_zero, List.set_cons_succ]
              refine wpAnyH_done (by kernel_rfl) ?_ _
              go_wp2_with fail
              go_meet
              exact ⟨pa, rfl, rfl, ⟨HX_10.out, HPA_10.out, HGA.out⟩⟩
            · go_simp
              have HXA : Hid (Below w4.heap.size w4 (w7.alloc (.cells #[.string ⟨#[]⟩, .slice none 0 0, .slice none 0 0, .int .i64 0, .slice none 0 0, .string ⟨#[]⟩, .int .i64 0] 34))) := HX_7.out.alloc HX_7.out.size _
              refine hK.out _ _ (HSS.out _ HXA.out) (fun _ => ?_)
              clear hK K HXA
              obtain ⟨pa, ho⟩ : ∃ o, o = w7.heap.size := ⟨_, rfl⟩
              obtain ⟨w8, hXj⟩ : ∃ X, X = w7.alloc (.cells #[.string ⟨#[]⟩, .slice none 0 0, .slice none 0 0, .int .i64 0, .slice none 0 0, .string ⟨#[]⟩, .int .i64 0] 34) := ⟨_, rfl⟩
              rw [← ho, ← hXj]
              have HGA : Hid (w4.heap.size ≤ pa) := by show _ ≤ _; rw [ho]; exact HX_7.out.size
              have bw : Below w7.heap.size w7 w8 := by rw [hXj]; exact (Below.refl _ _).alloc (Nat.le_refl _) _
              have hb8 : Below w.heap.size w (w8) := hb7.trans (bw.mono hb7.size)
              have HM8 : Hid ((w7).heap.size ≤ (w8).heap.size) := bw.size
              have HOQ1_8 : Hid ((w8).ownsRow w.heap.size 75 2 (.slice oQ1 n pQ1) n (flatF fs)) := owns_below HOQ1_7.out bw (fun g hg => owns_lt HOQ1_7.out hg)
              have HOR2_8 : Hid ((w8).ownsRow w.heap.size 75 2 (.slice oR2 k pR2) k (flatF gs)) := owns_below HOR2_7.out bw (fun g hg => owns_lt HOR2_7.out hg)
              have HBv1_8 : Hid ((w8).heap[qv1]? = some (.cells #[.int .i64 m, .string p, .slice a n cap, .string b] 24)) := blk_below HBv1_7.out bw
              have HBv2_8 : Hid ((w8).heap[qv2]? = some (.cells #[.int .i64 st, .slice a2 k cap2, .string d] 26)) := blk_below HBv2_7.out bw
              have HX_8 : Hid (Below w4.heap.size w4 w8) := HX_7.out.trans (bw.mono HX_7.out.size)
              have HPA_8 : Hid (w8.heap[pa]? = some (.cells #[.string ⟨#[]⟩, .slice none 0 0, .slice none 0 0, .int .i64 0, .slice none 0 0, .string ⟨#[]⟩, .int .i64 0] 34)) := by show _ = _; rw [hXj, ho]; exact heap_alloc_new _ _
              clear hb7 HOQ1_7 HOR2_7 HBv1_7 HBv2_7 bw ho hXj HX_7
              refine wpAnyH_ready (rs := [5]) (by kernel_rfl) (by simp) ?_
              refine AllReadyH.cons rfl (fun K hK => ?_) AllReadyH.nil
              go_simp
              refine (HSP.out _ _ _ _ _ HOQ1_8.out HOR2_8.out).mono ?_
              rintro e w9 ⟨rfl, bw⟩
              have hb9 : Below w.heap.size w (w9) := hb8.trans (bw.mono hb8.size)
              have HM9 : Hid ((w8).heap.size ≤ (w9).heap.size) := bw.size
              have HOQ1_9 : Hid ((w9).ownsRow w.heap.size 75 2 (.slice oQ1 n pQ1) n (flatF fs)) := owns_below HOQ1_8.out bw (fun g hg => owns_lt HOQ1_8.out hg)
              have HOR2_9 : Hid ((w9).ownsRow w.heap.size 75 2 (.slice oR2 k pR2) k (flatF gs)) := owns_below HOR2_8.out bw (fun g hg => owns_lt HOR2_8.out hg)
              have HBv1_9 : Hid ((w9).heap[qv1]? = some (.cells #[.int .i64 m, .string p, .slice a n cap, .string b] 24)) := blk_below HBv1_8.out bw
              have HBv2_9 : Hid ((w9).heap[qv2]? = some (.cells #[.int .i64 st, .slice a2 k cap2, .string d] 26)) := blk_below HBv2_8.out bw
              clear hb8 HOQ1_8 HOR2_8 HBv1_8 HBv2_8
              have HX_9 : Hid (Below w4.heap.size w4 w9) := HX_8.out.trans (bw.mono HX_8.out.size)
              have HPA_9 : Hid (w9.heap[pa]? = some (.cells #[.string ⟨#[]⟩, .slice none 0 0, .slice none 0 0, .int .i64 0, .slice none 0 0, .string ⟨#[]⟩, .int .i64 0] 34)) := blk_below HPA_8.out bw
              refine hK.out _ _ (HSS.out _ HX_9.out) (fun _ => ?_)
              clear hK K bw HX_8
              refine wpAnyH_takeD (i := 6) (v := .tuple #[.agg #[.string ⟨#[]⟩, .slice none 0 0, .slice none 0 0, .int .i64 0, .slice none 0 0, .string ⟨#[]⟩, .int .i64 0], .bool false]) (some 29) rfl rfl (by kernel_rfl) (by kernel_rfl) (by kernel_rfl) (fun _ _ _ h => h) (Or.inl ⟨by rfl, by intro W _; go_simp⟩) (HSS.out _ HX_9.out) ?_
              simp only [Act.put, List.setIfInBounds_toArray, List.set_cons_zero, List.set_cons_succ]
              refine wpAnyH_takeD (i := 7) (v := .agg #[.string ⟨#[]⟩, .slice none 0 0, .slice none 0 0, .int .i64 0, .slice none 0 0, .string ⟨#[]⟩, .int .i64 0]) (some 36) rfl rfl (by kernel_rfl) (by kernel_rfl) (by kernel_rfl) (fun _ _ _ h => h) (Or.inl ⟨by rfl, by intro W _; go_simp⟩) (HSS.out _ HX_9.out) ?_
              simp only [Act.put, List.setIfInBounds_toArray, List.set_cons_zero, List.set_cons_succ]
              refine wpAnyH_takeD (i := 8) (v := .bool false) (some 37) rfl rfl (by kernel_rfl) (by kernel_rfl) (by kernel_rfl) (fun _ _ _ h => h) (Or.inl ⟨by rfl, by intro W _; go_simp⟩) (HSS.out _ HX_9.out) ?_
              simp only [Act.put, List.setIfInBounds_toArray, List.set_cons_zero, List.set_cons_succ]
              refine wpAnyH_ready (rs := [10]) (by kernel_rfl) (by simp) ?_
              refine AllReadyH.cons rfl (fun K hK => ?_) AllReadyH.nil
              have ce0 : w9.cell? ⟨pa, 0, none⟩ = some (.string ⟨#[]⟩) := (cell_of HPA_9.out 0).trans rfl
              have fe0 : w9.frozen? ⟨pa, 0, none⟩ = false := frozen_of HPA_9.out 0
              have ce1 : w9.cell? ⟨pa, 1, none⟩ = some (.slice none 0 0) := (cell_of HPA_9.out 1).trans rfl
              have fe1 : w9.frozen? ⟨pa, 1, none⟩ = false := frozen_of HPA_9.out 1
              have ce2 : w9.cell? ⟨pa, 2, none⟩ = some (.slice none 0 0) := (cell_of HPA_9.out 2).trans rfl
              have fe2 : w9.frozen? ⟨pa, 2, none⟩ = false := frozen_of HPA_9.out 2
              have ce3 : w9.cell? ⟨pa, 3, none⟩ = some (.int .i64 0) := (cell_of HPA_9.out 3).trans rfl
              have fe3 : w9.frozen? ⟨pa, 3, none⟩ = false := frozen_of HPA_9.out 3
              have ce4 : w9.cell? ⟨pa, 4, none⟩ = some (.slice none 0 0) := (cell_of HPA_9.out 4).trans rfl
              have fe4 : w9.frozen? ⟨pa, 4, none⟩ = false := frozen_of HPA_9.out 4
              have ce5 : w9.cell? ⟨pa, 5, none⟩ = some (.string ⟨#[]⟩) := (cell_of HPA_9.out 5).trans rfl
              have fe5 : w9.frozen? ⟨pa, 5, none⟩ = false := frozen_of HPA_9.out 5
              have ce6 : w9.cell? ⟨pa, 6, none⟩ = some (.int .i64 0) := (cell_of HPA_9.out 6).trans rfl
              have fe6 : w9.frozen? ⟨pa, 6, none⟩ = false := frozen_of HPA_9.out 6
              obtain ⟨w10, hY⟩ : ∃ Y, Y = (((((((w9.setCell ⟨pa, 0, none⟩ (.string ⟨#[]⟩)).setCell ⟨pa, 1, none⟩ (.slice none 0 0)).setCell ⟨pa, 2, none⟩ (.slice none 0 0)).setCell ⟨pa, 3, none⟩ (.int .i64 0)).setCell ⟨pa, 4, none⟩ (.slice none 0 0)).setCell ⟨pa, 5, none⟩ (.string ⟨#[]⟩)).setCell ⟨pa, 6, none⟩ (.int .i64 0)) := ⟨_, rfl⟩
              have HY : Hid ((((((((w9.setCell ⟨pa, 0, none⟩ (.string ⟨#[]⟩)).setCell ⟨pa, 1, none⟩ (.slice none 0 0)).setCell ⟨pa, 2, none⟩ (.slice none 0 0)).setCell ⟨pa, 3, none⟩ (.int .i64 0)).setCell ⟨pa, 4, none⟩ (.slice none 0 0)).setCell ⟨pa, 5, none⟩ (.string ⟨#[]⟩)).setCell ⟨pa, 6, none⟩ (.int .i64 0)) = w10) := hY.symm
              have HX_10 : Hid (Below w4.heap.size w4 w10) := by show Below _ _ _; rw [hY]; exact (((((((HX_9.out.setCell (p := ⟨pa, 0, none⟩) HGA.out _).setCell (p := ⟨pa, 1, none⟩) HGA.out _).setCell (p := ⟨pa, 2, none⟩) HGA.out _).setCell (p := ⟨pa, 3, none⟩) HGA.out _).setCell (p := ⟨pa, 4, none⟩) HGA.out _).setCell (p := ⟨pa, 5, none⟩) HGA.out _).setCell (p := ⟨pa, 6, none⟩) HGA.out _)
              have HPA_10 : Hid (w10.heap[pa]? = some (.cells #[.string ⟨#[]⟩, .slice none 0 0, .slice none 0 0, .int .i64 0, .slice none 0 0, .string ⟨#[]⟩, .int .i64 0] 34)) := by show _ = _; rw [hY]; have h := (heap_set _ pa 6 _ _ _ (.int .i64 0) (heap_set _ pa 5 _ _ _ (.string ⟨#[]⟩) (heap_set _ pa 4 _ _ _ (.slice none 0 0) (heap_set _ pa 3 _ _ _ (.int .i64 0) (heap_set _ pa 2 _ _ _ (.slice none 0 0) (heap_set _ pa 1 _ _ _ (.slice none 0 0) (heap_set _ pa 0 _ _ _ (.string ⟨#[]⟩) HPA_9.out))))))); simpa using h
              clear hY hb9 HOQ1_9 HOR2_9 HBv1_9 HBv2_9
              go_simp
              rw [HY.out]
              refine hK.out _ _ (HSS.out _ HX_10.out) (fun _ => ?_)
              clear hK K HY ce0 fe0 ce1 fe1 ce2 fe2 ce3 fe3 ce4 fe4 ce5 fe5 ce6 fe6
              refine wpAnyH_takeD (i := 11) (v := .bool false) (some 9) rfl rfl (by kernel_rfl) (by kernel_rfl) (by kernel_rfl) (fun _ _ _ h => h) (Or.inl ⟨by rfl, by intro W _; go_simp⟩) (HSS.out _ HX_10.out) ?_
              simp only [Act.put, List.setIfInBounds_toArray, List.set_cons_zero, List.set_cons_succ]
              refine wpAnyH_done (by kernel_rfl) ?_ _
              go_wp2_with fail
              go_meet
              exact ⟨pa, rfl, rfl, ⟨HX_10.out, HPA_10.out, HGA.out⟩⟩
          · go_simp
            have HXA : Hid (Below w4.heap.size w4 (w6.alloc (.cells #[.string ⟨#[]⟩, .slice none 0 0, .slice none 0 0, .int .i64 0, .slice none 0 0, .string ⟨#[]⟩, .int .i64 0] 34))) := HX_6.out.alloc HX_6.out.size _
            refine hK.out _ _ (HSS.out _ HXA.out) (fun _ => ?_)
            clear hK K HXA
            obtain ⟨pa, ho⟩ : ∃ o, o = w6.heap.size := ⟨_, rfl⟩
            obtain ⟨w7, hXj⟩ : ∃ X, X = w6.alloc (.cells #[.string ⟨#[]⟩, .slice none 0 0, .slice none 0 0, .int .i64 0, .slice none 0 0, .string ⟨#[]⟩, .int .i64 0] 34) := ⟨_, rfl⟩
            rw [← ho, ← hXj]
            have HGA : Hid (w4.heap.size ≤ pa) := by show _ ≤ _; rw [ho]; exact HX_6.out.size
            have bw : Below w6.heap.size w6 w7 := by rw [hXj]; exact (Below.refl _ _).alloc (Nat.le_refl _) _
            have hb7 : Below w.heap.size w (w7) := hb6.trans (bw.mono hb6.size)
            have HM7 : Hid ((w6).heap.size ≤ (w7).heap.size) := bw.size
            have HOQ1_7 : Hid ((w7).ownsRow w.heap.size 75 2 (.slice oQ1 n pQ1) n (flatF fs)) := owns_below HOQ1_6.out bw (fun g hg => owns_lt HOQ1_6.out hg)
            have HBv1_7 : Hid ((w7).heap[qv1]? = some (.cells #[.int .i64 m, .string p, .slice a n cap, .string b] 24)) := blk_below HBv1_6.out bw
            have HBv2_7 : Hid ((w7).heap[qv2]? = some (.cells #[.int .i64 st, .slice a2 k cap2, .string d] 26)) := blk_below HBv2_6.out bw
            have HX_7 : Hid (Below w4.heap.size w4 w7) := HX_6.out.trans (bw.mono HX_6.out.size)
            have HPA_7 : Hid (w7.heap[pa]? = some (.cells #[.string ⟨#[]⟩, .slice none 0 0, .slice none 0 0, .int .i64 0, .slice none 0 0, .string ⟨#[]⟩, .int .i64 0] 34)) := by show _ = _; rw [hXj, ho]; exact heap_alloc_new _ _
            clear hb6 HOQ1_6 HBv1_6 HBv2_6 bw ho hXj HX_6
            refine wpAnyH_ready (rs := [3]) (by kernel_rfl) (by simp) ?_
            refine AllReadyH.cons rfl (fun K hK => ?_) AllReadyH.nil
            go_simp
            refine (toResp_any st a2 k cap2 d gs w.heap.size _ (HA2.out _ hb7) hb7.size hm2).mono ?_
            rintro e w8 ⟨vv, rfl, ownR2, bw⟩
            obtain ⟨oR2, pR2, rfl⟩ := slice_of_owns ownR2
            have hb8 : Below w.heap.size w (w8) := hb7.trans (bw.mono hb7.size)
            have HM8 : Hid ((w7).heap.size ≤ (w8).heap.size) := bw.size
            have HOQ1_8 : Hid ((w8).ownsRow w.heap.size 75 2 (.slice oQ1 n pQ1) n (flatF fs)) := owns_below HOQ1_7.out bw (fun g hg => owns_lt HOQ1_7.out hg)
            have HBv1_8 : Hid ((w8).heap[qv1]? = some (.cells #[.int .i64 m, .string p, .slice a n cap, .string b] 24)) := blk_below HBv1_7.out bw
            have HBv2_8 : Hid ((w8).heap[qv2]? = some (.cells #[.int .i64 st, .slice a2 k cap2, .string d] 26)) := blk_below HBv2_7.out bw
            have HOR2_8 : Hid ((w8).ownsRow w.heap.size 75 2 (.slice oR2 k pR2) k (flatF gs)) := owns_wide ownR2 hb7.size
            have LOR2 : Hid (∀ g, (Value.ownBlock (.slice oR2 k pR2)) = some g → (w7).heap.size ≤ g) := fun g hg => owns_ge ownR2 hg
            have HIR2 : Hid (∀ g, (Value.ownBlock (.slice oR2 k pR2)) = some g → g < (w8).heap.size) := fun g hg => owns_lt ownR2 hg
            clear ownR2
            clear hb7 HOQ1_7 HBv1_7 HBv2_7
            have HX_8 : Hid (Below w4.heap.size w4 w8) := HX_7.out.trans (bw.mono HX_7.out.size)
            have HPA_8 : Hid (w8.heap[pa]? = some (.cells #[.string ⟨#[]⟩, .slice none 0 0, .slice none 0 0, .int .i64 0, .slice none 0 0, .string ⟨#[]⟩, .int .i64 0] 34)) := blk_below HPA_7.out bw
            refine hK.out _ _ (HSS.out _ HX_8.out) (fun _ => ?_)
            clear hK K bw HX_7
            refine wpAnyH_ready (rs := [5]) (by kernel_rfl) (by simp) ?_
            refine AllReadyH.cons rfl (fun K hK => ?_) AllReadyH.nil
            go_simp
            refine (HSP.out _ _ _ _ _ HOQ1_8.out HOR2_8.out).mono ?_
            rintro e w9 ⟨rfl, bw⟩
            have hb9 : Below w.heap.size w (w9) := hb8.trans (bw.mono hb8.size)
            have HM9 : Hid ((w8).heap.size ≤ (w9).heap.size) := bw.size
            have HOQ1_9 : Hid ((w9).ownsRow w.heap.size 75 2 (.slice oQ1 n pQ1) n (flatF fs)) := owns_below HOQ1_8.out bw (fun g hg => owns_lt HOQ1_8.out hg)
            have HOR2_9 : Hid ((w9).ownsRow w.heap.size 75 2 (.slice oR2 k pR2) k (flatF gs)) := owns_below HOR2_8.out bw (fun g hg => owns_lt HOR2_8.out hg)
            have HBv1_9 : Hid ((w9).heap[qv1]? = some (.cells #[.int .i64 m, .string p, .slice a n cap, .string b] 24)) := blk_below HBv1_8.out bw
            have HBv2_9 : Hid ((w9).heap[qv2]? = some (.cells #[.int .i64 st, .slice a2 k cap2, .string d] 26)) := blk_below HBv2_8.out bw
            clear hb8 HOQ1_8 HOR2_8 HBv1_8 HBv2_8
            have HX_9 : Hid (Below w4.heap.size w4 w9) := HX_8.out.trans (bw.mono HX_8.out.size)
            have HPA_9 : Hid (w9.heap[pa]? = some (.cells #[.string ⟨#[]⟩, .slice none 0 0, .slice none 0 0, .int .i64 0, .slice none 0 0, .string ⟨#[]⟩, .int .i64 0] 34)) := blk_below HPA_8.out bw
            refine hK.out _ _ (HSS.out _ HX_9.out) (fun _ => ?_)
            clear hK K bw HX_8
            refine wpAnyH_takeD (i := 6) (v := .tuple #[.agg #[.string ⟨#[]⟩, .slice none 0 0, .slice none 0 0, .int .i64 0, .slice none 0 0, .string ⟨#[]⟩, .int .i64 0], .bool false]) (some 29) rfl rfl (by kernel_rfl) (by kernel_rfl) (by kernel_rfl) (fun _ _ _ h => h) (Or.inl ⟨by rfl, by intro W _; go_simp⟩) (HSS.out _ HX_9.out) ?_
            simp only [Act.put, List.setIfInBounds_toArray, List.set_cons_zero, List.set_cons_succ]
            refine wpAnyH_takeD (i := 7) (v := .agg #[.string ⟨#[]⟩, .slice none 0 0, .slice none 0 0, .int .i64 0, .slice none 0 0, .string ⟨#[]⟩, .int .i64 0]) (some 36) rfl rfl (by kernel_rfl) (by kernel_rfl) (by kernel_rfl) (fun _ _ _ h => h) (Or.inl ⟨by rfl, by intro W _; go_simp⟩) (HSS.out _ HX_9.out) ?_
            simp only [Act.put, List.setIfInBounds_toArray, List.set_cons_zero, List.set_cons_succ]
            refine wpAnyH_takeD (i := 8) (v := .bool false) (some 37) rfl rfl (by kernel_rfl) (by kernel_rfl) (by kernel_rfl) (fun _ _ _ h => h) (Or.inl ⟨by rfl, by intro W _; go_simp⟩) (HSS.out _ HX_9.out) ?_
            simp only [Act.put, List.setIfInBounds_toArray, List.set_cons_zero, List.set_cons_succ]
            refine wpAnyH_ready (rs := [10]) (by kernel_rfl) (by simp) ?_
            refine AllReadyH.cons rfl (fun K hK => ?_) AllReadyH.nil
            have ce0 : w9.cell? ⟨pa, 0, none⟩ = some (.string ⟨#[]⟩) := (cell_of HPA_9.out 0).trans rfl
            have fe0 : w9.frozen? ⟨pa, 0, none⟩ = false := frozen_of HPA_9.out 0
            have ce1 : w9.cell? ⟨pa, 1, none⟩ = some (.slice none 0 0) := (cell_of HPA_9.out 1).trans rfl
            have fe1 : w9.frozen? ⟨pa, 1, none⟩ = false := frozen_of HPA_9.out 1
            have ce2 : w9.cell? ⟨pa, 2, none⟩ = some (.slice none 0 0) := (cell_of HPA_9.out 2).trans rfl
            have fe2 : w9.frozen? ⟨pa, 2, none⟩ = false := frozen_of HPA_9.out 2
            have ce3 : w9.cell? ⟨pa, 3, none⟩ = some (.int .i64 0) := (cell_of HPA_9.out 3).trans rfl
            have fe3 : w9.frozen? ⟨pa, 3, none⟩ = false := frozen_of HPA_9.out 3
            have ce4 : w9.cell? ⟨pa, 4, none⟩ = some (.slice none 0 0) := (cell_of HPA_9.out 4).trans rfl
            have fe4 : w9.frozen? ⟨pa, 4, none⟩ = false := frozen_of HPA_9.out 4
            have ce5 : w9.cell? ⟨pa, 5, none⟩ = some (.string ⟨#[]⟩) := (cell_of HPA_9.out 5).trans rfl
            have fe5 : w9.frozen? ⟨pa, 5, none⟩ = false := frozen_of HPA_9.out 5
            have ce6 : w9.cell? ⟨pa, 6, none⟩ = some (.int .i64 0) := (cell_of HPA_9.out 6).trans rfl
            have fe6 : w9.frozen? ⟨pa, 6, none⟩ = false := frozen_of HPA_9.out 6
            obtain ⟨w10, hY⟩ : ∃ Y, Y = (((((((w9.setCell ⟨pa, 0, none⟩ (.string ⟨#[]⟩)).setCell ⟨pa, 1, none⟩ (.slice none 0 0)).setCell ⟨pa, 2, none⟩ (.slice none 0 0)).setCell ⟨pa, 3, none⟩ (.int .i64 0)).setCell ⟨pa, 4, none⟩ (.slice none 0 0)).setCell ⟨pa, 5, none⟩ (.string ⟨#[]⟩)).setCell ⟨pa, 6, none⟩ (.int .i64 0)) := ⟨_, rfl⟩
            have HY : Hid ((((((((w9.setCell ⟨pa, 0, none⟩ (.string ⟨#[]⟩)).setCell ⟨pa, 1, none⟩ (.slice none 0 0)).setCell ⟨pa, 2, none⟩ (.slice none 0 0)).setCell ⟨pa, 3, none⟩ (.int .i64 0)).setCell ⟨pa, 4, none⟩ (.slice none 0 0)).setCell ⟨pa, 5, none⟩ (.string ⟨#[]⟩)).setCell ⟨pa, 6, none⟩ (.int .i64 0)) = w10) := hY.symm
            have HX_10 : Hid (Below w4.heap.size w4 w10) := by show Below _ _ _; rw [hY]; exact (((((((HX_9.out.setCell (p := ⟨pa, 0, none⟩) HGA.out _).setCell (p := ⟨pa, 1, none⟩) HGA.out _).setCell (p := ⟨pa, 2, none⟩) HGA.out _).setCell (p := ⟨pa, 3, none⟩) HGA.out _).setCell (p := ⟨pa, 4, none⟩) HGA.out _).setCell (p := ⟨pa, 5, none⟩) HGA.out _).setCell (p := ⟨pa, 6, none⟩) HGA.out _)
            have HPA_10 : Hid (w10.heap[pa]? = some (.cells #[.string ⟨#[]⟩, .slice none 0 0, .slice none 0 0, .int .i64 0, .slice none 0 0, .string ⟨#[]⟩, .int .i64 0] 34)) := by show _ = _; rw [hY]; have h := (heap_set _ pa 6 _ _ _ (.int .i64 0) (heap_set _ pa 5 _ _ _ (.string ⟨#[]⟩) (heap_set _ pa 4 _ _ _ (.slice none 0 0) (heap_set _ pa 3 _ _ _ (.int .i64 0) (heap_set _ pa 2 _ _ _ (.slice none 0 0) (heap_set _ pa 1 _ _ _ (.slice none 0 0) (heap_set _ pa 0 _ _ _ (.string ⟨#[]⟩) HPA_9.out))))))); simpa using h
            clear hY hb9 HOQ1_9 HOR2_9 HBv1_9 HBv2_9
            go_simp
            rw [HY.out]
            refine hK.out _ _ (HSS.out _ HX_10.out) (fun _ => ?_)
            clear hK K HY ce0 fe0 ce1 fe1 ce2 fe2 ce3 fe3 ce4 fe4 ce5 fe5 ce6 fe6
            refine wpAnyH_takeD (i := 11) (v := .bool false) (some 9) rfl rfl (by kernel_rfl) (by kernel_rfl) (by kernel_rfl) (fun _ _ _ h => h) (Or.inl ⟨by rfl, by intro W _; go_simp⟩) (HSS.out _ HX_10.out) ?_
            simp only [Act.put, List.setIfInBounds_toArray, List.set_cons_zero, List.set_cons_succ]
            refine wpAnyH_done (by kernel_rfl) ?_ _
            go_wp2_with fail
            go_meet
            exact ⟨pa, rfl, rfl, ⟨HX_10.out, HPA_10.out, HGA.out⟩⟩
        · go_simp
          have HXA : Hid (Below w4.heap.size w4 (w5.alloc (.cells #[.string ⟨#[]⟩, .slice none 0 0, .slice none 0 0, .int .i64 0, .slice none 0 0, .string ⟨#[]⟩, .int .i64 0] 34))) := HX_5.out.alloc HX_5.out.size _
          refine hK.out _ _ (HSS.out _ HXA.out) (fun _ => ?_)
          clear hK K HXA
          obtain ⟨pa, ho⟩ : ∃ o, o = w5.heap.size := ⟨_, rfl⟩
          obtain ⟨w6, hXj⟩ : ∃ X, X = w5.alloc (.cells #[.string ⟨#[]⟩, .slice none 0 0, .slice none 0 0, .int .i64 0, .slice none 0 0, .string ⟨#[]⟩, .int .i64 0] 34) := ⟨_, rfl⟩
          rw [← ho, ← hXj]
          have HGA : Hid (w4.heap.size ≤ pa) := by show _ ≤ _; rw [ho]; exact HX_5.out.size
          have bw : Below w5.heap.size w5 w6 := by rw [hXj]; exact (Below.refl _ _).alloc (Nat.le_refl _) _
          have hb6 : Below w.heap.size w (w6) := hb5.trans (bw.mono hb5.size)
          have HM6 : Hid ((w5).heap.size ≤ (w6).heap.size) := bw.size
          have HBv1_6 : Hid ((w6).heap[qv1]? = some (.cells #[.int .i64 m, .string p, .slice a n cap, .string b] 24)) := blk_below HBv1_5.out bw
          have HBv2_6 : Hid ((w6).heap[qv2]? = some (.cells #[.int .i64 st, .slice a2 k cap2, .string d] 26)) := blk_below HBv2_5.out bw
          have HX_6 : Hid (Below w4.heap.size w4 w6) := HX_5.out.trans (bw.mono HX_5.out.size)
          have HPA_6 : Hid (w6.heap[pa]? = some (.cells #[.string ⟨#[]⟩, .slice none 0 0, .slice none 0 0, .int .i64 0, .slice none 0 0, .string ⟨#[]⟩, .int .i64 0] 34)) := by show _ = _; rw [hXj, ho]; exact heap_alloc_new _ _
          clear hb5 HBv1_5 HBv2_5 bw ho hXj HX_5
          refine wpAnyH_ready (rs := [1]) (by kernel_rfl) (by simp) ?_
          refine AllReadyH.cons rfl (fun K hK => ?_) AllReadyH.nil
          go_simp
          refine (toReq_any m p a n cap b fs w.heap.size _ (HA1.out _ hb6) hb6.size hm1).mono ?_
          rintro e w7 ⟨vv, rfl, ownQ1, bw⟩
          obtain ⟨oQ1, pQ1, rfl⟩ := slice_of_owns ownQ1
          have hb7 : Below w.heap.size w (w7) := hb6.trans (bw.mono hb6.size)
          have HM7 : Hid ((w6).heap.size ≤ (w7).heap.size) := bw.size
          have HBv1_7 : Hid ((w7).heap[qv1]? = some (.cells #[.int .i64 m, .string p, .slice a n cap, .string b] 24)) := blk_below HBv1_6.out bw
          have HBv2_7 : Hid ((w7).heap[qv2]? = some (.cells #[.int .i64 st, .slice a2 k cap2, .string d] 26)) := blk_below HBv2_6.out bw
          have HOQ1_7 : Hid ((w7).ownsRow w.heap.size 75 2 (.slice oQ1 n pQ1) n (flatF fs)) := owns_wide ownQ1 hb6.size
          have LOQ1 : Hid (∀ g, (Value.ownBlock (.slice oQ1 n pQ1)) = some g → (w6).heap.size ≤ g) := fun g hg => owns_ge ownQ1 hg
          have HIQ1 : Hid (∀ g, (Value.ownBlock (.slice oQ1 n pQ1)) = some g → g < (w7).heap.size) := fun g hg => owns_lt ownQ1 hg
          clear ownQ1
          clear hb6 HBv1_6 HBv2_6
          have HX_7 : Hid (Below w4.heap.size w4 w7) := HX_6.out.trans (bw.mono HX_6.out.size)
          have HPA_7 : Hid (w7.heap[pa]? = some (.cells #[.string ⟨#[]⟩, .slice none 0 0, .slice none 0 0, .int .i64 0, .slice none 0 0, .string ⟨#[]⟩, .int .i64 0] 34)) := blk_below HPA_6.out bw
          refine hK.out _ _ (HSS.out _ HX_7.out) (fun _ => ?_)
          clear hK K bw HX_6
          refine wpAnyH_ready (rs := [3]) (by kernel_rfl) (by simp) ?_
          refine AllReadyH.cons rfl (fun K hK => ?_) AllReadyH.nil
          go_simp
          refine (toResp_any st a2 k cap2 d gs w.heap.size _ (HA2.out _ hb7) hb7.size hm2).mono ?_
          rintro e w8 ⟨vv, rfl, ownR2, bw⟩
          obtain ⟨oR2, pR2, rfl⟩ := slice_of_owns ownR2
          have hb8 : Below w.heap.size w (w8) := hb7.trans (bw.mono hb7.size)
          have HM8 : Hid ((w7).heap.size ≤ (w8).heap.size) := bw.size
          have HOQ1_8 : Hid ((w8).ownsRow w.heap.size 75 2 (.slice oQ1 n pQ1) n (flatF fs)) := owns_below HOQ1_7.out bw (fun g hg => owns_lt HOQ1_7.out hg)
          have HBv1_8 : Hid ((w8).heap[qv1]? = some (.cells #[.int .i64 m, .string p, .slice a n cap, .string b] 24)) := blk_below HBv1_7.out bw
          have HBv2_8 : Hid ((w8).heap[qv2]? = some (.cells #[.int .i64 st, .slice a2 k cap2, .string d] 26)) := blk_below HBv2_7.out bw
          have HOR2_8 : Hid ((w8).ownsRow w.heap.size 75 2 (.slice oR2 k pR2) k (flatF gs)) := owns_wide ownR2 hb7.size
          have LOR2 : Hid (∀ g, (Value.ownBlock (.slice oR2 k pR2)) = some g → (w7).heap.size ≤ g) := fun g hg => owns_ge ownR2 hg
          have HIR2 : Hid (∀ g, (Value.ownBlock (.slice oR2 k pR2)) = some g → g < (w8).heap.size) := fun g hg => owns_lt ownR2 hg
          clear ownR2
          clear hb7 HOQ1_7 HBv1_7 HBv2_7
          have HX_8 : Hid (Below w4.heap.size w4 w8) := HX_7.out.trans (bw.mono HX_7.out.size)
          have HPA_8 : Hid (w8.heap[pa]? = some (.cells #[.string ⟨#[]⟩, .slice none 0 0, .slice none 0 0, .int .i64 0, .slice none 0 0, .string ⟨#[]⟩, .int .i64 0] 34)) := blk_below HPA_7.out bw
          refine hK.out _ _ (HSS.out _ HX_8.out) (fun _ => ?_)
          clear hK K bw HX_7
          refine wpAnyH_ready (rs := [5]) (by kernel_rfl) (by simp) ?_
          refine AllReadyH.cons rfl (fun K hK => ?_) AllReadyH.nil
          go_simp
          refine (HSP.out _ _ _ _ _ HOQ1_8.out HOR2_8.out).mono ?_
          rintro e w9 ⟨rfl, bw⟩
          have hb9 : Below w.heap.size w (w9) := hb8.trans (bw.mono hb8.size)
          have HM9 : Hid ((w8).heap.size ≤ (w9).heap.size) := bw.size
          have HOQ1_9 : Hid ((w9).ownsRow w.heap.size 75 2 (.slice oQ1 n pQ1) n (flatF fs)) := owns_below HOQ1_8.out bw (fun g hg => owns_lt HOQ1_8.out hg)
          have HOR2_9 : Hid ((w9).ownsRow w.heap.size 75 2 (.slice oR2 k pR2) k (flatF gs)) := owns_below HOR2_8.out bw (fun g hg => owns_lt HOR2_8.out hg)
          have HBv1_9 : Hid ((w9).heap[qv1]? = some (.cells #[.int .i64 m, .string p, .slice a n cap, .string b] 24)) := blk_below HBv1_8.out bw
          have HBv2_9 : Hid ((w9).heap[qv2]? = some (.cells #[.int .i64 st, .slice a2 k cap2, .string d] 26)) := blk_below HBv2_8.out bw
          clear hb8 HOQ1_8 HOR2_8 HBv1_8 HBv2_8
          have HX_9 : Hid (Below w4.heap.size w4 w9) := HX_8.out.trans (bw.mono HX_8.out.size)
          have HPA_9 : Hid (w9.heap[pa]? = some (.cells #[.string ⟨#[]⟩, .slice none 0 0, .slice none 0 0, .int .i64 0, .slice none 0 0, .string ⟨#[]⟩, .int .i64 0] 34)) := blk_below HPA_8.out bw
          refine hK.out _ _ (HSS.out _ HX_9.out) (fun _ => ?_)
          clear hK K bw HX_8
          refine wpAnyH_takeD (i := 6) (v := .tuple #[.agg #[.string ⟨#[]⟩, .slice none 0 0, .slice none 0 0, .int .i64 0, .slice none 0 0, .string ⟨#[]⟩, .int .i64 0], .bool false]) (some 29) rfl rfl (by kernel_rfl) (by kernel_rfl) (by kernel_rfl) (fun _ _ _ h => h) (Or.inl ⟨by rfl, by intro W _; go_simp⟩) (HSS.out _ HX_9.out) ?_
          simp only [Act.put, List.setIfInBounds_toArray, List.set_cons_zero, List.set_cons_succ]
          refine wpAnyH_takeD (i := 7) (v := .agg #[.string ⟨#[]⟩, .slice none 0 0, .slice none 0 0, .int .i64 0, .slice none 0 0, .string ⟨#[]⟩, .int .i64 0]) (some 36) rfl rfl (by kernel_rfl) (by kernel_rfl) (by kernel_rfl) (fun _ _ _ h => h) (Or.inl ⟨by rfl, by intro W _; go_simp⟩) (HSS.out _ HX_9.out) ?_
          simp only [Act.put, List.setIfInBounds_toArray, List.set_cons_zero, List.set_cons_succ]
          refine wpAnyH_takeD (i := 8) (v := .bool false) (some 37) rfl rfl (by kernel_rfl) (by kernel_rfl) (by kernel_rfl) (fun _ _ _ h => h) (Or.inl ⟨by rfl, by intro W _; go_simp⟩) (HSS.out _ HX_9.out) ?_
          simp only [Act.put, List.setIfInBounds_toArray, List.set_cons_zero, List.set_cons_succ]
          refine wpAnyH_ready (rs := [10]) (by kernel_rfl) (by simp) ?_
          refine AllReadyH.cons rfl (fun K hK => ?_) AllReadyH.nil
          have ce0 : w9.cell? ⟨pa, 0, none⟩ = some (.string ⟨#[]⟩) := (cell_of HPA_9.out 0).trans rfl
          have fe0 : w9.frozen? ⟨pa, 0, none⟩ = false := frozen_of HPA_9.out 0
          have ce1 : w9.cell? ⟨pa, 1, none⟩ = some (.slice none 0 0) := (cell_of HPA_9.out 1).trans rfl
          have fe1 : w9.frozen? ⟨pa, 1, none⟩ = false := frozen_of HPA_9.out 1
          have ce2 : w9.cell? ⟨pa, 2, none⟩ = some (.slice none 0 0) := (cell_of HPA_9.out 2).trans rfl
          have fe2 : w9.frozen? ⟨pa, 2, none⟩ = false := frozen_of HPA_9.out 2
          have ce3 : w9.cell? ⟨pa, 3, none⟩ = some (.int .i64 0) := (cell_of HPA_9.out 3).trans rfl
          have fe3 : w9.frozen? ⟨pa, 3, none⟩ = false := frozen_of HPA_9.out 3
          have ce4 : w9.cell? ⟨pa, 4, none⟩ = some (.slice none 0 0) := (cell_of HPA_9.out 4).trans rfl
          have fe4 : w9.frozen? ⟨pa, 4, none⟩ = false := frozen_of HPA_9.out 4
          have ce5 : w9.cell? ⟨pa, 5, none⟩ = some (.string ⟨#[]⟩) := (cell_of HPA_9.out 5).trans rfl
          have fe5 : w9.frozen? ⟨pa, 5, none⟩ = false := frozen_of HPA_9.out 5
          have ce6 : w9.cell? ⟨pa, 6, none⟩ = some (.int .i64 0) := (cell_of HPA_9.out 6).trans rfl
          have fe6 : w9.frozen? ⟨pa, 6, none⟩ = false := frozen_of HPA_9.out 6
          obtain ⟨w10, hY⟩ : ∃ Y, Y = (((((((w9.setCell ⟨pa, 0, none⟩ (.string ⟨#[]⟩)).setCell ⟨pa, 1, none⟩ (.slice none 0 0)).setCell ⟨pa, 2, none⟩ (.slice none 0 0)).setCell ⟨pa, 3, none⟩ (.int .i64 0)).setCell ⟨pa, 4, none⟩ (.slice none 0 0)).setCell ⟨pa, 5, none⟩ (.string ⟨#[]⟩)).setCell ⟨pa, 6, none⟩ (.int .i64 0)) := ⟨_, rfl⟩
          have HY : Hid ((((((((w9.setCell ⟨pa, 0, none⟩ (.string ⟨#[]⟩)).setCell ⟨pa, 1, none⟩ (.slice none 0 0)).setCell ⟨pa, 2, none⟩ (.slice none 0 0)).setCell ⟨pa, 3, none⟩ (.int .i64 0)).setCell ⟨pa, 4, none⟩ (.slice none 0 0)).setCell ⟨pa, 5, none⟩ (.string ⟨#[]⟩)).setCell ⟨pa, 6, none⟩ (.int .i64 0)) = w10) := hY.symm
          have HX_10 : Hid (Below w4.heap.size w4 w10) := by show Below _ _ _; rw [hY]; exact (((((((HX_9.out.setCell (p := ⟨pa, 0, none⟩) HGA.out _).setCell (p := ⟨pa, 1, none⟩) HGA.out _).setCell (p := ⟨pa, 2, none⟩) HGA.out _).setCell (p := ⟨pa, 3, none⟩) HGA.out _).setCell (p := ⟨pa, 4, none⟩) HGA.out _).setCell (p := ⟨pa, 5, none⟩) HGA.out _).setCell (p := ⟨pa, 6, none⟩) HGA.out _)
          have HPA_10 : Hid (w10.heap[pa]? = some (.cells #[.string ⟨#[]⟩, .slice none 0 0, .slice none 0 0, .int .i64 0, .slice none 0 0, .string ⟨#[]⟩, .int .i64 0] 34)) := by show _ = _; rw [hY]; have h := (heap_set _ pa 6 _ _ _ (.int .i64 0) (heap_set _ pa 5 _ _ _ (.string ⟨#[]⟩) (heap_set _ pa 4 _ _ _ (.slice none 0 0) (heap_set _ pa 3 _ _ _ (.int .i64 0) (heap_set _ pa 2 _ _ _ (.slice none 0 0) (heap_set _ pa 1 _ _ _ (.slice none 0 0) (heap_set _ pa 0 _ _ _ (.string ⟨#[]⟩) HPA_9.out))))))); simpa using h
          clear hY hb9 HOQ1_9 HOR2_9 HBv1_9 HBv2_9
          go_simp
          rw [HY.out]
          refine hK.out _ _ (HSS.out _ HX_10.out) (fun _ => ?_)
          clear hK K HY ce0 fe0 ce1 fe1 ce2 fe2 ce3 fe3 ce4 fe4 ce5 fe5 ce6 fe6
          refine wpAnyH_takeD (i := 11) (v := .bool false) (some 9) rfl rfl (by kernel_rfl) (by kernel_rfl) (by kernel_rfl) (fun _ _ _ h => h) (Or.inl ⟨by rfl, by intro W _; go_simp⟩) (HSS.out _ HX_10.out) ?_
          simp only [Act.put, List.setIfInBounds_toArray, List.set_cons_zero, List.set_cons_succ]
          refine wpAnyH_done (by kernel_rfl) ?_ _
          go_wp2_with fail
          go_meet
          exact ⟨pa, rfl, rfl, ⟨HX_10.out, HPA_10.out, HGA.out⟩⟩
      case rest =>
      obtain ⟨qv3, hsx, hsx9, HF⟩ := hcut
      rw [hsx, hsx9]
      obtain ⟨w5, hwj⟩ : ∃ W, W = wc := ⟨_, rfl⟩
      rw [← hwj] at HF ⊢
      clear hsx hsx9 hwj HSS
      obtain ⟨bw, hcell, hga⟩ := HF.out
      have HNv1v3 : Hid (qv1 ≠ qv3) := fun e => by have h1 := (Array.getElem?_eq_some_iff.1 HBv1_4.out).1; omega
      have HNv2v3 : Hid (qv2 ≠ qv3) := fun e => by have h1 := (Array.getElem?_eq_some_iff.1 HBv2_4.out).1; omega
      have hb5 : Below w.heap.size w (w5) := hb4.trans (bw.mono hb4.size)
      have HM5 : Hid ((w4).heap.size ≤ (w5).heap.size) := bw.size
      have HBv1_5 : Hid ((w5).heap[qv1]? = some (.cells #[.int .i64 m, .string p, .slice a n cap, .string b] 24)) := blk_below HBv1_4.out bw
      have HBv2_5 : Hid ((w5).heap[qv2]? = some (.cells #[.int .i64 st, .slice a2 k cap2, .string d] 26)) := blk_below HBv2_4.out bw
      have HBv3_5 : Hid ((w5).heap[qv3]? = some (.cells #[.string ⟨#[]⟩, .slice none 0 0, .slice none 0 0, .int .i64 0, .slice none 0 0, .string ⟨#[]⟩, .int .i64 0] 34)) := hcell
      have HGv3 : Hid (w.heap.size ≤ qv3) := Nat.le_trans hb4.size hga
      clear hb4 HBv1_4 HBv2_4 bw hcell hga HF
      have cv1_0 : (w5).cell? ⟨qv1, 0, none⟩ = some (.int .i64 m) := (cell_of HBv1_5.out 0).trans rfl
      have cv1_1 : (w5).cell? ⟨qv1, 1, none⟩ = some (.string p) := (cell_of HBv1_5.out 1).trans rfl
      have cv1_2 : (w5).cell? ⟨qv1, 2, none⟩ = some (.slice a n cap) := (cell_of HBv1_5.out 2).trans rfl
      have cv1_3 : (w5).cell? ⟨qv1, 3, none⟩ = some (.string b) := (cell_of HBv1_5.out 3).trans rfl
      go_wp2_with fail
      refine (toReq_any m p a n cap b fs w.heap.size _ (HA1.out _ hb5) hb5.size hm1).mono ?_
      rintro e w6 ⟨vv, rfl, ownQ3, bw⟩
      obtain ⟨oQ3, pQ3, rfl⟩ := slice_of_owns ownQ3
      have hb6 : Below w.heap.size w (w6) := hb5.trans (bw.mono hb5.size)
      have HM6 : Hid ((w5).heap.size ≤ (w6).heap.size) := bw.size
      have HBv1_6 : Hid ((w6).heap[qv1]? = some (.cells #[.int .i64 m, .string p, .slice a n cap, .string b] 24)) := blk_below HBv1_5.out bw
      have HBv2_6 : Hid ((w6).heap[qv2]? = some (.cells #[.int .i64 st, .slice a2 k cap2, .string d] 26)) := blk_below HBv2_5.out bw
      have HBv3_6 : Hid ((w6).heap[qv3]? = some (.cells #[.string ⟨#[]⟩, .slice none 0 0, .slice none 0 0, .int .i64 0, .slice none 0 0, .string ⟨#[]⟩, .int .i64 0] 34)) := blk_below HBv3_5.out bw
      have HOQ3_6 : Hid ((w6).ownsRow w.heap.size 75 2 (.slice oQ3 n pQ3) n (flatF fs)) := owns_wide ownQ3 hb5.size
      have LOQ3 : Hid (∀ g, (Value.ownBlock (.slice oQ3 n pQ3)) = some g → (w5).heap.size ≤ g) := fun g hg => owns_ge ownQ3 hg
      have HIQ3 : Hid (∀ g, (Value.ownBlock (.slice oQ3 n pQ3)) = some g → g < (w6).heap.size) := fun g hg => owns_lt ownQ3 hg
      clear ownQ3
      clear hb5 HBv1_5 HBv2_5 HBv3_5 bw
      clear cv1_0 cv1_1 cv1_2 cv1_3
      go_upto_region 10 with fail
      obtain ⟨qv4, hqv4⟩ : ∃ q, q = (w6).heap.size := ⟨_, rfl⟩
      obtain ⟨w7, hW7⟩ : ∃ W, W = (w6).alloc (.cells #[.int .i64 m, .string p, .slice oQ3 n pQ3, .string b] 38) := ⟨_, rfl⟩
      have hz7 : (w6).heap.size = qv4 := hqv4.symm
      first | rw [← hW7, ← hqv4] | rw [← hW7]
      have hs7 : w7.heap.size = qv4 + 1 := by rw [hW7, ← hz7]; simp
      have bw : Below (w6).heap.size (w6) w7 := by rw [hW7]; exact (Below.refl _ _).alloc (Nat.le_refl _) _
      have hb7 : Below w.heap.size w (w7) := hb6.trans (bw.mono hb6.size)
      have HM7 : Hid ((w6).heap.size ≤ (w7).heap.size) := bw.size
      have HOQ3_7 : Hid ((w7).ownsRow w.heap.size 75 2 (.slice oQ3 n pQ3) n (flatF fs)) := owns_below HOQ3_6.out bw (fun g hg => owns_lt HOQ3_6.out hg)
      have HBv1_7 : Hid ((w7).heap[qv1]? = some (.cells #[.int .i64 m, .string p, .slice a n cap, .string b] 24)) := blk_below HBv1_6.out bw
      have HBv2_7 : Hid ((w7).heap[qv2]? = some (.cells #[.int .i64 st, .slice a2 k cap2, .string d] 26)) := blk_below HBv2_6.out bw
      have HBv3_7 : Hid ((w7).heap[qv3]? = some (.cells #[.string ⟨#[]⟩, .slice none 0 0, .slice none 0 0, .int .i64 0, .slice none 0 0, .string ⟨#[]⟩, .int .i64 0] 34)) := blk_below HBv3_6.out bw
      have HNv1v4 : Hid (qv1 ≠ qv4) := fun e => by have h1 := (Array.getElem?_eq_some_iff.1 HBv1_6.out).1; omega
      have HNv2v4 : Hid (qv2 ≠ qv4) := fun e => by have h1 := (Array.getElem?_eq_some_iff.1 HBv2_6.out).1; omega
      have HNv3v4 : Hid (qv3 ≠ qv4) := fun e => by have h1 := (Array.getElem?_eq_some_iff.1 HBv3_6.out).1; omega
      have HBv4_7 : Hid ((w7).heap[qv4]? = some (.cells #[.int .i64 m, .string p, .slice oQ3 n pQ3, .string b] 38)) := by show _ = _; rw [hW7, ← hz7]; exact heap_alloc_new _ _
      have HGv4 : Hid (w.heap.size ≤ qv4) := by show _ ≤ _; rw [← hz7]; exact hb6.size
      clear hb6 HOQ3_6 HBv1_6 HBv2_6 HBv3_6 bw hW7 hz7
      clear hs7 hqv4
      have cv2_0 : (w7).cell? ⟨qv2, 0, none⟩ = some (.int .i64 st) := (cell_of HBv2_7.out 0).trans rfl
      have cv2_1 : (w7).cell? ⟨qv2, 1, none⟩ = some (.slice a2 k cap2) := (cell_of HBv2_7.out 1).trans rfl
      have cv2_2 : (w7).cell? ⟨qv2, 2, none⟩ = some (.string d) := (cell_of HBv2_7.out 2).trans rfl
      go_wp2_with fail
      refine (toResp_any st a2 k cap2 d gs w.heap.size _ (HA2.out _ hb7) hb7.size hm2).mono ?_
      rintro e w8 ⟨vv, rfl, ownR4, bw⟩
      obtain ⟨oR4, pR4, rfl⟩ := slice_of_owns ownR4
      have hb8 : Below w.heap.size w (w8) := hb7.trans (bw.mono hb7.size)
      have HM8 : Hid ((w7).heap.size ≤ (w8).heap.size) := bw.size
      have HOQ3_8 : Hid ((w8).ownsRow w.heap.size 75 2 (.slice oQ3 n pQ3) n (flatF fs)) := owns_below HOQ3_7.out bw (fun g hg => owns_lt HOQ3_7.out hg)
      have HBv1_8 : Hid ((w8).heap[qv1]? = some (.cells #[.int .i64 m, .string p, .slice a n cap, .string b] 24)) := blk_below HBv1_7.out bw
      have HBv2_8 : Hid ((w8).heap[qv2]? = some (.cells #[.int .i64 st, .slice a2 k cap2, .string d] 26)) := blk_below HBv2_7.out bw
      have HBv3_8 : Hid ((w8).heap[qv3]? = some (.cells #[.string ⟨#[]⟩, .slice none 0 0, .slice none 0 0, .int .i64 0, .slice none 0 0, .string ⟨#[]⟩, .int .i64 0] 34)) := blk_below HBv3_7.out bw
      have HBv4_8 : Hid ((w8).heap[qv4]? = some (.cells #[.int .i64 m, .string p, .slice oQ3 n pQ3, .string b] 38)) := blk_below HBv4_7.out bw
      have HOR4_8 : Hid ((w8).ownsRow w.heap.size 75 2 (.slice oR4 k pR4) k (flatF gs)) := owns_wide ownR4 hb7.size
      have LOR4 : Hid (∀ g, (Value.ownBlock (.slice oR4 k pR4)) = some g → (w7).heap.size ≤ g) := fun g hg => owns_ge ownR4 hg
      have HIR4 : Hid (∀ g, (Value.ownBlock (.slice oR4 k pR4)) = some g → g < (w8).heap.size) := fun g hg => owns_lt ownR4 hg
      clear ownR4
      clear hb7 HOQ3_7 HBv1_7 HBv2_7 HBv3_7 HBv4_7 bw
      clear cv2_0 cv2_1 cv2_2
      go_upto_region 11 with fail
      obtain ⟨qv5, hqv5⟩ : ∃ q, q = (w8).heap.size := ⟨_, rfl⟩
      obtain ⟨w9, hW9⟩ : ∃ W, W = (w8).alloc (.cells #[.int .i64 st, .slice oR4 k pR4, .string d] 32) := ⟨_, rfl⟩
      have hz9 : (w8).heap.size = qv5 := hqv5.symm
      first | rw [← hW9, ← hqv5] | rw [← hW9]
      have hs9 : w9.heap.size = qv5 + 1 := by rw [hW9, ← hz9]; simp
      have bw : Below (w8).heap.size (w8) w9 := by rw [hW9]; exact (Below.refl _ _).alloc (Nat.le_refl _) _
      have hb9 : Below w.heap.size w (w9) := hb8.trans (bw.mono hb8.size)
      have HM9 : Hid ((w8).heap.size ≤ (w9).heap.size) := bw.size
      have HOQ3_9 : Hid ((w9).ownsRow w.heap.size 75 2 (.slice oQ3 n pQ3) n (flatF fs)) := owns_below HOQ3_8.out bw (fun g hg => owns_lt HOQ3_8.out hg)
      have HOR4_9 : Hid ((w9).ownsRow w.heap.size 75 2 (.slice oR4 k pR4) k (flatF gs)) := owns_below HOR4_8.out bw (fun g hg => owns_lt HOR4_8.out hg)
      have HBv1_9 : Hid ((w9).heap[qv1]? = some (.cells #[.int .i64 m, .string p, .slice a n cap, .string b] 24)) := blk_below HBv1_8.out bw
      have HBv2_9 : Hid ((w9).heap[qv2]? = some (.cells #[.int .i64 st, .slice a2 k cap2, .string d] 26)) := blk_below HBv2_8.out bw
      have HBv3_9 : Hid ((w9).heap[qv3]? = some (.cells #[.string ⟨#[]⟩, .slice none 0 0, .slice none 0 0, .int .i64 0, .slice none 0 0, .string ⟨#[]⟩, .int .i64 0] 34)) := blk_below HBv3_8.out bw
      have HBv4_9 : Hid ((w9).heap[qv4]? = some (.cells #[.int .i64 m, .string p, .slice oQ3 n pQ3, .string b] 38)) := blk_below HBv4_8.out bw
      have HNv1v5 : Hid (qv1 ≠ qv5) := fun e => by have h1 := (Array.getElem?_eq_some_iff.1 HBv1_8.out).1; omega
      have HNv2v5 : Hid (qv2 ≠ qv5) := fun e => by have h1 := (Array.getElem?_eq_some_iff.1 HBv2_8.out).1; omega
      have HNv3v5 : Hid (qv3 ≠ qv5) := fun e => by have h1 := (Array.getElem?_eq_some_iff.1 HBv3_8.out).1; omega
      have HNv4v5 : Hid (qv4 ≠ qv5) := fun e => by have h1 := (Array.getElem?_eq_some_iff.1 HBv4_8.out).1; omega
      have HBv5_9 : Hid ((w9).heap[qv5]? = some (.cells #[.int .i64 st, .slice oR4 k pR4, .string d] 32)) := by show _ = _; rw [hW9, ← hz9]; exact heap_alloc_new _ _
      have HGv5 : Hid (w.heap.size ≤ qv5) := by show _ ≤ _; rw [← hz9]; exact hb8.size
      clear hb8 HOQ3_8 HOR4_8 HBv1_8 HBv2_8 HBv3_8 HBv4_8 bw hW9 hz9
      clear hs9 hqv5
      have cv4_0 : (w9).cell? ⟨qv4, 0, none⟩ = some (.int .i64 m) := (cell_of HBv4_9.out 0).trans rfl
      have cv4_1 : (w9).cell? ⟨qv4, 1, none⟩ = some (.string p) := (cell_of HBv4_9.out 1).trans rfl
      have cv4_2 : (w9).cell? ⟨qv4, 2, none⟩ = some (.slice oQ3 n pQ3) := (cell_of HBv4_9.out 2).trans rfl
      have cv4_3 : (w9).cell? ⟨qv4, 3, none⟩ = some (.string b) := (cell_of HBv4_9.out 3).trans rfl
      have cv5_0 : (w9).cell? ⟨qv5, 0, none⟩ = some (.int .i64 st) := (cell_of HBv5_9.out 0).trans rfl
      have cv5_1 : (w9).cell? ⟨qv5, 1, none⟩ = some (.slice oR4 k pR4) := (cell_of HBv5_9.out 1).trans rfl
      have cv5_2 : (w9).cell? ⟨qv5, 2, none⟩ = some (.string d) := (cell_of HBv5_9.out 2).trans rfl
      go_wp2_with fail
      refine (HIM.out _ _ _ _ _ HOQ3_9.out HOR4_9.out).mono ?_
      rintro e w10 ⟨rfl, bw⟩
      have hb10 : Below w.heap.size w (w10) := hb9.trans (bw.mono hb9.size)
      have HM10 : Hid ((w9).heap.size ≤ (w10).heap.size) := bw.size
      have HOQ3_10 : Hid ((w10).ownsRow w.heap.size 75 2 (.slice oQ3 n pQ3) n (flatF fs)) := owns_below HOQ3_9.out bw (fun g hg => owns_lt HOQ3_9.out hg)
      have HOR4_10 : Hid ((w10).ownsRow w.heap.size 75 2 (.slice oR4 k pR4) k (flatF gs)) := owns_below HOR4_9.out bw (fun g hg => owns_lt HOR4_9.out hg)
      have HBv1_10 : Hid ((w10).heap[qv1]? = some (.cells #[.int .i64 m, .string p, .slice a n cap, .string b] 24)) := blk_below HBv1_9.out bw
      have HBv2_10 : Hid ((w10).heap[qv2]? = some (.cells #[.int .i64 st, .slice a2 k cap2, .string d] 26)) := blk_below HBv2_9.out bw
      have HBv3_10 : Hid ((w10).heap[qv3]? = some (.cells #[.string ⟨#[]⟩, .slice none 0 0, .slice none 0 0, .int .i64 0, .slice none 0 0, .string ⟨#[]⟩, .int .i64 0] 34)) := blk_below HBv3_9.out bw
      have HBv4_10 : Hid ((w10).heap[qv4]? = some (.cells #[.int .i64 m, .string p, .slice oQ3 n pQ3, .string b] 38)) := blk_below HBv4_9.out bw
      have HBv5_10 : Hid ((w10).heap[qv5]? = some (.cells #[.int .i64 st, .slice oR4 k pR4, .string d] 32)) := blk_below HBv5_9.out bw
      clear hb9 HOQ3_9 HOR4_9 HBv1_9 HBv2_9 HBv3_9 HBv4_9 HBv5_9 bw
      clear cv4_0 cv4_1 cv4_2 cv4_3 cv5_0 cv5_1 cv5_2
      go_upto_region 12 with fail
      obtain ⟨qv6, hqv6⟩ : ∃ q, q = (w10).heap.size := ⟨_, rfl⟩
      obtain ⟨w11, hW11⟩ : ∃ W, W = (w10).alloc (.cells #[.string ⟨#[]⟩, .slice none 0 0, .slice none 0 0, .int .i64 0, .slice none 0 0, .string ⟨#[]⟩, .int .i64 0] 34) := ⟨_, rfl⟩
      have hz11 : (w10).heap.size = qv6 := hqv6.symm
      first | rw [← hW11, ← hqv6] | rw [← hW11]
      have hs11 : w11.heap.size = qv6 + 1 := by rw [hW11, ← hz11]; simp
      have bw : Below (w10).heap.size (w10) w11 := by rw [hW11]; exact (Below.refl _ _).alloc (Nat.le_refl _) _
      have hb11 : Below w.heap.size w (w11) := hb10.trans (bw.mono hb10.size)
      have HM11 : Hid ((w10).heap.size ≤ (w11).heap.size) := bw.size
      have HOQ3_11 : Hid ((w11).ownsRow w.heap.size 75 2 (.slice oQ3 n pQ3) n (flatF fs)) := owns_below HOQ3_10.out bw (fun g hg => owns_lt HOQ3_10.out hg)
      have HOR4_11 : Hid ((w11).ownsRow w.heap.size 75 2 (.slice oR4 k pR4) k (flatF gs)) := owns_below HOR4_10.out bw (fun g hg => owns_lt HOR4_10.out hg)
      have HBv1_11 : Hid ((w11).heap[qv1]? = some (.cells #[.int .i64 m, .string p, .slice a n cap, .string b] 24)) := blk_below HBv1_10.out bw
      have HBv2_11 : Hid ((w11).heap[qv2]? = some (.cells #[.int .i64 st, .slice a2 k cap2, .string d] 26)) := blk_below HBv2_10.out bw
      have HBv3_11 : Hid ((w11).heap[qv3]? = some (.cells #[.string ⟨#[]⟩, .slice none 0 0, .slice none 0 0, .int .i64 0, .slice none 0 0, .string ⟨#[]⟩, .int .i64 0] 34)) := blk_below HBv3_10.out bw
      have HBv4_11 : Hid ((w11).heap[qv4]? = some (.cells #[.int .i64 m, .string p, .slice oQ3 n pQ3, .string b] 38)) := blk_below HBv4_10.out bw
      have HBv5_11 : Hid ((w11).heap[qv5]? = some (.cells #[.int .i64 st, .slice oR4 k pR4, .string d] 32)) := blk_below HBv5_10.out bw
      have HNv1v6 : Hid (qv1 ≠ qv6) := fun e => by have h1 := (Array.getElem?_eq_some_iff.1 HBv1_10.out).1; omega
      have HNv2v6 : Hid (qv2 ≠ qv6) := fun e => by have h1 := (Array.getElem?_eq_some_iff.1 HBv2_10.out).1; omega
      have HNv3v6 : Hid (qv3 ≠ qv6) := fun e => by have h1 := (Array.getElem?_eq_some_iff.1 HBv3_10.out).1; omega
      have HNv4v6 : Hid (qv4 ≠ qv6) := fun e => by have h1 := (Array.getElem?_eq_some_iff.1 HBv4_10.out).1; omega
      have HNv5v6 : Hid (qv5 ≠ qv6) := fun e => by have h1 := (Array.getElem?_eq_some_iff.1 HBv5_10.out).1; omega
      have HBv6_11 : Hid ((w11).heap[qv6]? = some (.cells #[.string ⟨#[]⟩, .slice none 0 0, .slice none 0 0, .int .i64 0, .slice none 0 0, .string ⟨#[]⟩, .int .i64 0] 34)) := by show _ = _; rw [hW11, ← hz11]; exact heap_alloc_new _ _
      have HGv6 : Hid (w.heap.size ≤ qv6) := by show _ ≤ _; rw [← hz11]; exact hb10.size
      clear hb10 HOQ3_10 HOR4_10 HBv1_10 HBv2_10 HBv3_10 HBv4_10 HBv5_10 bw hW11 hz11
      clear hs11 hqv6
      have cv3_0 : (w11).cell? ⟨qv3, 0, none⟩ = some (.string ⟨#[]⟩) := (cell_of HBv3_11.out 0).trans rfl
      have cv3_1 : (w11).cell? ⟨qv3, 1, none⟩ = some (.slice none 0 0) := (cell_of HBv3_11.out 1).trans rfl
      have cv3_2 : (w11).cell? ⟨qv3, 2, none⟩ = some (.slice none 0 0) := (cell_of HBv3_11.out 2).trans rfl
      have cv3_3 : (w11).cell? ⟨qv3, 3, none⟩ = some (.int .i64 0) := (cell_of HBv3_11.out 3).trans rfl
      have cv3_4 : (w11).cell? ⟨qv3, 4, none⟩ = some (.slice none 0 0) := (cell_of HBv3_11.out 4).trans rfl
      have cv3_5 : (w11).cell? ⟨qv3, 5, none⟩ = some (.string ⟨#[]⟩) := (cell_of HBv3_11.out 5).trans rfl
      have cv3_6 : (w11).cell? ⟨qv3, 6, none⟩ = some (.int .i64 0) := (cell_of HBv3_11.out 6).trans rfl
      have cv6_0 : (w11).cell? ⟨qv6, 0, none⟩ = some (.string ⟨#[]⟩) := (cell_of HBv6_11.out 0).trans rfl
      have cv6_1 : (w11).cell? ⟨qv6, 1, none⟩ = some (.slice none 0 0) := (cell_of HBv6_11.out 1).trans rfl
      have cv6_2 : (w11).cell? ⟨qv6, 2, none⟩ = some (.slice none 0 0) := (cell_of HBv6_11.out 2).trans rfl
      have cv6_3 : (w11).cell? ⟨qv6, 3, none⟩ = some (.int .i64 0) := (cell_of HBv6_11.out 3).trans rfl
      have cv6_4 : (w11).cell? ⟨qv6, 4, none⟩ = some (.slice none 0 0) := (cell_of HBv6_11.out 4).trans rfl
      have cv6_5 : (w11).cell? ⟨qv6, 5, none⟩ = some (.string ⟨#[]⟩) := (cell_of HBv6_11.out 5).trans rfl
      have cv6_6 : (w11).cell? ⟨qv6, 6, none⟩ = some (.int .i64 0) := (cell_of HBv6_11.out 6).trans rfl
      go_wp2_with fail
      refine (eqObj_any ⟨#[]⟩ 0 [] 0 [] 0 0 [] ⟨#[]⟩ 0 _ _ _ _ _ _ 0 0 _ (nilO _ _) (nilO _ _) (by omega) (by omega) (by omega)).mono ?_
      rintro e w12 ⟨rfl, bw⟩
      have hb12 : Below w.heap.size w (w12) := hb11.trans (bw.mono hb11.size)
      have HM12 : Hid ((w11).heap.size ≤ (w12).heap.size) := bw.size
      have HOQ3_12 : Hid ((w12).ownsRow w.heap.size 75 2 (.slice oQ3 n pQ3) n (flatF fs)) := owns_below HOQ3_11.out bw (fun g hg => owns_lt HOQ3_11.out hg)
      have HOR4_12 : Hid ((w12).ownsRow w.heap.size 75 2 (.slice oR4 k pR4) k (flatF gs)) := owns_below HOR4_11.out bw (fun g hg => owns_lt HOR4_11.out hg)
      have HBv1_12 : Hid ((w12).heap[qv1]? = some (.cells #[.int .i64 m, .string p, .slice a n cap, .string b] 24)) := blk_below HBv1_11.out bw
      have HBv2_12 : Hid ((w12).heap[qv2]? = some (.cells #[.int .i64 st, .slice a2 k cap2, .string d] 26)) := blk_below HBv2_11.out bw
      have HBv3_12 : Hid ((w12).heap[qv3]? = some (.cells #[.string ⟨#[]⟩, .slice none 0 0, .slice none 0 0, .int .i64 0, .slice none 0 0, .string ⟨#[]⟩, .int .i64 0] 34)) := blk_below HBv3_11.out bw
      have HBv4_12 : Hid ((w12).heap[qv4]? = some (.cells #[.int .i64 m, .string p, .slice oQ3 n pQ3, .string b] 38)) := blk_below HBv4_11.out bw
      have HBv5_12 : Hid ((w12).heap[qv5]? = some (.cells #[.int .i64 st, .slice oR4 k pR4, .string d] 32)) := blk_below HBv5_11.out bw
      have HBv6_12 : Hid ((w12).heap[qv6]? = some (.cells #[.string ⟨#[]⟩, .slice none 0 0, .slice none 0 0, .int .i64 0, .slice none 0 0, .string ⟨#[]⟩, .int .i64 0] 34)) := blk_below HBv6_11.out bw
      clear hb11 HOQ3_11 HOR4_11 HBv1_11 HBv2_11 HBv3_11 HBv4_11 HBv5_11 HBv6_11 bw
      clear cv3_0 cv3_1 cv3_2 cv3_3 cv3_4 cv3_5 cv3_6 cv6_0 cv6_1 cv6_2 cv6_3 cv6_4 cv6_5 cv6_6
      go_upto_region 14 with fail
      refine wp_region_held_drew (S := fun W => W.heap[qv4]? = some (.cells #[.int .i64 m, .string p, .slice oQ3 n pQ3, .string b] 38) ∧ W.heap[qv1]? = some (.cells #[.int .i64 m, .string p, .slice a n cap, .string b] 24)) (by kernel_rfl) ⟨HBv4_12.out, HBv1_12.out⟩ (fun _ => ?_)
      obtain ⟨w13, hX⟩ : ∃ X, X = w12.drew := ⟨_, rfl⟩
      have bw : Below w12.heap.size w12 w13 := by rw [hX]; exact (Below.refl _ _).drew
      rw [← hX]
      have hb13 : Below w.heap.size w (w13) := hb12.trans (bw.mono hb12.size)
      have HM13 : Hid ((w12).heap.size ≤ (w13).heap.size) := bw.size
      have HOQ3_13 : Hid ((w13).ownsRow w.heap.size 75 2 (.slice oQ3 n pQ3) n (flatF fs)) := owns_below HOQ3_12.out bw (fun g hg => owns_lt HOQ3_12.out hg)
      have HOR4_13 : Hid ((w13).ownsRow w.heap.size 75 2 (.slice oR4 k pR4) k (flatF gs)) := owns_below HOR4_12.out bw (fun g hg => owns_lt HOR4_12.out hg)
      have HBv1_13 : Hid ((w13).heap[qv1]? = some (.cells #[.int .i64 m, .string p, .slice a n cap, .string b] 24)) := blk_below HBv1_12.out bw
      have HBv2_13 : Hid ((w13).heap[qv2]? = some (.cells #[.int .i64 st, .slice a2 k cap2, .string d] 26)) := blk_below HBv2_12.out bw
      have HBv3_13 : Hid ((w13).heap[qv3]? = some (.cells #[.string ⟨#[]⟩, .slice none 0 0, .slice none 0 0, .int .i64 0, .slice none 0 0, .string ⟨#[]⟩, .int .i64 0] 34)) := blk_below HBv3_12.out bw
      have HBv4_13 : Hid ((w13).heap[qv4]? = some (.cells #[.int .i64 m, .string p, .slice oQ3 n pQ3, .string b] 38)) := blk_below HBv4_12.out bw
      have HBv5_13 : Hid ((w13).heap[qv5]? = some (.cells #[.int .i64 st, .slice oR4 k pR4, .string d] 32)) := blk_below HBv5_12.out bw
      have HBv6_13 : Hid ((w13).heap[qv6]? = some (.cells #[.string ⟨#[]⟩, .slice none 0 0, .slice none 0 0, .int .i64 0, .slice none 0 0, .string ⟨#[]⟩, .int .i64 0] 34)) := blk_below HBv6_12.out bw
      have hS13 : w13.heap[qv4]? = some (.cells #[.int .i64 m, .string p, .slice oQ3 n pQ3, .string b] 38) ∧ w13.heap[qv1]? = some (.cells #[.int .i64 m, .string p, .slice a n cap, .string b] 24) := ⟨HBv4_13.out, HBv1_13.out⟩
      clear hb12 HOQ3_12 HOR4_12 HBv1_12 HBv2_12 HBv3_12 HBv4_12 HBv5_12 HBv6_12 bw hX
      refine wpAnyH_takeD (i := 0) (v := .agg #[.int .i64 m, .string p, .slice oQ3 n pQ3, .string b]) (some 58) rfl rfl (by kernel_rfl) (by kernel_rfl) (by kernel_rfl) (fun _ _ _ h => h) (Or.inl ⟨by rfl, by intro W hW; obtain ⟨hhv4, hhv1⟩ := hW; have y0 := (cell_of hhv4 0).trans rfl; have y1 := (cell_of hhv4 1).trans rfl; have y2 := (cell_of hhv4 2).trans rfl; have y3 := (cell_of hhv4 3).trans rfl; go_simp⟩) hS13 ?_
      simp only [Act.put, List.setIfInBounds_toArray, List.set_cons_zero, List.set_cons_succ]
      refine wpAnyH_takeD (i := 1) (v := .agg #[.int .i64 m, .string p, .slice a n cap, .string b]) (some 59) rfl rfl (by kernel_rfl) (by kernel_rfl) (by kernel_rfl) (fun _ _ _ h => h) (Or.inl ⟨by rfl, by intro W hW; obtain ⟨hhv4, hhv1⟩ := hW; have y0 := (cell_of hhv1 0).trans rfl; have y1 := (cell_of hhv1 1).trans rfl; have y2 := (cell_of hhv1 2).trans rfl; have y3 := (cell_of hhv1 3).trans rfl; go_simp⟩) hS13 ?_
      simp only [Act.put, List.setIfInBounds_toArray, List.set_cons_zero, List.set_cons_succ]
      refine wpAnyH_ready (rs := [2]) (by kernel_rfl) (by simp) ?_
      refine AllReadyH.cons rfl (fun K hK => ?_) AllReadyH.nil
      go_simp
      refine (toReq_any m p a n cap b fs w.heap.size _ (HA1.out _ hb13) hb13.size hm1).mono ?_
      rintro e w14 ⟨vv, rfl, ownQ5, bw⟩
      obtain ⟨oQ5, pQ5, rfl⟩ := slice_of_owns ownQ5
      have hb14 : Below w.heap.size w (w14) := hb13.trans (bw.mono hb13.size)
      have HM14 : Hid ((w13).heap.size ≤ (w14).heap.size) := bw.size
      have HOQ3_14 : Hid ((w14).ownsRow w.heap.size 75 2 (.slice oQ3 n pQ3) n (flatF fs)) := owns_below HOQ3_13.out bw (fun g hg => owns_lt HOQ3_13.out hg)
      have HOR4_14 : Hid ((w14).ownsRow w.heap.size 75 2 (.slice oR4 k pR4) k (flatF gs)) := owns_below HOR4_13.out bw (fun g hg => owns_lt HOR4_13.out hg)
      have HBv1_14 : Hid ((w14).heap[qv1]? = some (.cells #[.int .i64 m, .string p, .slice a n cap, .string b] 24)) := blk_below HBv1_13.out bw
      have HBv2_14 : Hid ((w14).heap[qv2]? = some (.cells #[.int .i64 st, .slice a2 k cap2, .string d] 26)) := blk_below HBv2_13.out bw
      have HBv3_14 : Hid ((w14).heap[qv3]? = some (.cells #[.string ⟨#[]⟩, .slice none 0 0, .slice none 0 0, .int .i64 0, .slice none 0 0, .string ⟨#[]⟩, .int .i64 0] 34)) := blk_below HBv3_13.out bw
      have HBv4_14 : Hid ((w14).heap[qv4]? = some (.cells #[.int .i64 m, .string p, .slice oQ3 n pQ3, .string b] 38)) := blk_below HBv4_13.out bw
      have HBv5_14 : Hid ((w14).heap[qv5]? = some (.cells #[.int .i64 st, .slice oR4 k pR4, .string d] 32)) := blk_below HBv5_13.out bw
      have HBv6_14 : Hid ((w14).heap[qv6]? = some (.cells #[.string ⟨#[]⟩, .slice none 0 0, .slice none 0 0, .int .i64 0, .slice none 0 0, .string ⟨#[]⟩, .int .i64 0] 34)) := blk_below HBv6_13.out bw
      have HOQ5_14 : Hid ((w14).ownsRow w.heap.size 75 2 (.slice oQ5 n pQ5) n (flatF fs)) := owns_wide ownQ5 hb13.size
      have LOQ5 : Hid (∀ g, (Value.ownBlock (.slice oQ5 n pQ5)) = some g → (w13).heap.size ≤ g) := fun g hg => owns_ge ownQ5 hg
      have HIQ5 : Hid (∀ g, (Value.ownBlock (.slice oQ5 n pQ5)) = some g → g < (w14).heap.size) := fun g hg => owns_lt ownQ5 hg
      clear ownQ5
      clear hb13 HOQ3_13 HOR4_13 HBv1_13 HBv2_13 HBv3_13 HBv4_13 HBv5_13 HBv6_13 bw
      have hS14 : w14.heap[qv4]? = some (.cells #[.int .i64 m, .string p, .slice oQ3 n pQ3, .string b] 38) ∧ w14.heap[qv1]? = some (.cells #[.int .i64 m, .string p, .slice a n cap, .string b] 24) := ⟨HBv4_14.out, HBv1_14.out⟩
      refine hK.out _ _ hS14 (fun _ => ?_)
      clear hK K hS13
      refine wpAnyH_ready (rs := [3]) (by kernel_rfl) (by simp) ?_
      refine AllReadyH.cons rfl (fun K hK => ?_) AllReadyH.nil
      go_simp
      refine (eqReq_any m p _ _ b n _ _ fs _ (FieldsV.of_owns HOQ3_14.out) (FieldsV.of_owns HOQ5_14.out) (by omega)).mono ?_
      rintro e w15 ⟨rfl, bw⟩
      have hb15 : Below w.heap.size w (w15) := hb14.trans (bw.mono hb14.size)
      have HM15 : Hid ((w14).heap.size ≤ (w15).heap.size) := bw.size
      have HOQ3_15 : Hid ((w15).ownsRow w.heap.size 75 2 (.slice oQ3 n pQ3) n (flatF fs)) := owns_below HOQ3_14.out bw (fun g hg => owns_lt HOQ3_14.out hg)
      have HOR4_15 : Hid ((w15).ownsRow w.heap.size 75 2 (.slice oR4 k pR4) k (flatF gs)) := owns_below HOR4_14.out bw (fun g hg => owns_lt HOR4_14.out hg)
      have HOQ5_15 : Hid ((w15).ownsRow w.heap.size 75 2 (.slice oQ5 n pQ5) n (flatF fs)) := owns_below HOQ5_14.out bw (fun g hg => owns_lt HOQ5_14.out hg)
      have HBv1_15 : Hid ((w15).heap[qv1]? = some (.cells #[.int .i64 m, .string p, .slice a n cap, .string b] 24)) := blk_below HBv1_14.out bw
      have HBv2_15 : Hid ((w15).heap[qv2]? = some (.cells #[.int .i64 st, .slice a2 k cap2, .string d] 26)) := blk_below HBv2_14.out bw
      have HBv3_15 : Hid ((w15).heap[qv3]? = some (.cells #[.string ⟨#[]⟩, .slice none 0 0, .slice none 0 0, .int .i64 0, .slice none 0 0, .string ⟨#[]⟩, .int .i64 0] 34)) := blk_below HBv3_14.out bw
      have HBv4_15 : Hid ((w15).heap[qv4]? = some (.cells #[.int .i64 m, .string p, .slice oQ3 n pQ3, .string b] 38)) := blk_below HBv4_14.out bw
      have HBv5_15 : Hid ((w15).heap[qv5]? = some (.cells #[.int .i64 st, .slice oR4 k pR4, .string d] 32)) := blk_below HBv5_14.out bw
      have HBv6_15 : Hid ((w15).heap[qv6]? = some (.cells #[.string ⟨#[]⟩, .slice none 0 0, .slice none 0 0, .int .i64 0, .slice none 0 0, .string ⟨#[]⟩, .int .i64 0] 34)) := blk_below HBv6_14.out bw
      clear hb14 HOQ3_14 HOR4_14 HOQ5_14 HBv1_14 HBv2_14 HBv3_14 HBv4_14 HBv5_14 HBv6_14 bw
      have hS15 : w15.heap[qv4]? = some (.cells #[.int .i64 m, .string p, .slice oQ3 n pQ3, .string b] 38) ∧ w15.heap[qv1]? = some (.cells #[.int .i64 m, .string p, .slice a n cap, .string b] 24) := ⟨HBv4_15.out, HBv1_15.out⟩
      refine hK.out _ _ hS15 (fun _ => ?_)
      clear hK K hS14
      refine wpAnyH_takeD (i := 4) (v := .bool false) (some 62) rfl rfl (by kernel_rfl) (by kernel_rfl) (by kernel_rfl) (fun _ _ _ h => h) (Or.inl ⟨by rfl, by intro W _; go_simp⟩) hS15 ?_
      simp only [Act.put, List.setIfInBounds_toArray, List.set_cons_zero, List.set_cons_succ]
      clear hS15
      refine wpAnyH_done (by kernel_rfl) ?_ _
      go_upto_region 16 with fail
      refine wp_region_held_drew (S := fun W => W.heap[qv5]? = some (.cells #[.int .i64 st, .slice oR4 k pR4, .string d] 32) ∧ W.heap[qv2]? = some (.cells #[.int .i64 st, .slice a2 k cap2, .string d] 26)) (by kernel_rfl) ⟨HBv5_15.out, HBv2_15.out⟩ (fun _ => ?_)
      obtain ⟨w16, hX⟩ : ∃ X, X = w15.drew := ⟨_, rfl⟩
      have bw : Below w15.heap.size w15 w16 := by rw [hX]; exact (Below.refl _ _).drew
      rw [← hX]
      have hb16 : Below w.heap.size w (w16) := hb15.trans (bw.mono hb15.size)
      have HM16 : Hid ((w15).heap.size ≤ (w16).heap.size) := bw.size
      have HOQ3_16 : Hid ((w16).ownsRow w.heap.size 75 2 (.slice oQ3 n pQ3) n (flatF fs)) := owns_below HOQ3_15.out bw (fun g hg => owns_lt HOQ3_15.out hg)
      have HOR4_16 : Hid ((w16).ownsRow w.heap.size 75 2 (.slice oR4 k pR4) k (flatF gs)) := owns_below HOR4_15.out bw (fun g hg => owns_lt HOR4_15.out hg)
      have HOQ5_16 : Hid ((w16).ownsRow w.heap.size 75 2 (.slice oQ5 n pQ5) n (flatF fs)) := owns_below HOQ5_15.out bw (fun g hg => owns_lt HOQ5_15.out hg)
      have HBv1_16 : Hid ((w16).heap[qv1]? = some (.cells #[.int .i64 m, .string p, .slice a n cap, .string b] 24)) := blk_below HBv1_15.out bw
      have HBv2_16 : Hid ((w16).heap[qv2]? = some (.cells #[.int .i64 st, .slice a2 k cap2, .string d] 26)) := blk_below HBv2_15.out bw
      have HBv3_16 : Hid ((w16).heap[qv3]? = some (.cells #[.string ⟨#[]⟩, .slice none 0 0, .slice none 0 0, .int .i64 0, .slice none 0 0, .string ⟨#[]⟩, .int .i64 0] 34)) := blk_below HBv3_15.out bw
      have HBv4_16 : Hid ((w16).heap[qv4]? = some (.cells #[.int .i64 m, .string p, .slice oQ3 n pQ3, .string b] 38)) := blk_below HBv4_15.out bw
      have HBv5_16 : Hid ((w16).heap[qv5]? = some (.cells #[.int .i64 st, .slice oR4 k pR4, .string d] 32)) := blk_below HBv5_15.out bw
      have HBv6_16 : Hid ((w16).heap[qv6]? = some (.cells #[.string ⟨#[]⟩, .slice none 0 0, .slice none 0 0, .int .i64 0, .slice none 0 0, .string ⟨#[]⟩, .int .i64 0] 34)) := blk_below HBv6_15.out bw
      have hS16 : w16.heap[qv5]? = some (.cells #[.int .i64 st, .slice oR4 k pR4, .string d] 32) ∧ w16.heap[qv2]? = some (.cells #[.int .i64 st, .slice a2 k cap2, .string d] 26) := ⟨HBv5_16.out, HBv2_16.out⟩
      clear hb15 HOQ3_15 HOR4_15 HOQ5_15 HBv1_15 HBv2_15 HBv3_15 HBv4_15 HBv5_15 HBv6_15 bw hX
      refine wpAnyH_takeD (i := 0) (v := .agg #[.int .i64 st, .slice oR4 k pR4, .string d]) (some 63) rfl rfl (by kernel_rfl) (by kernel_rfl) (by kernel_rfl) (fun _ _ _ h => h) (Or.inl ⟨by rfl, by intro W hW; obtain ⟨hhv5, hhv2⟩ := hW; have y0 := (cell_of hhv5 0).trans rfl; have y1 := (cell_of hhv5 1).trans rfl; have y2 := (cell_of hhv5 2).trans rfl; go_simp⟩) hS16 ?_
      simp only [Act.put, List.setIfInBounds_toArray, List.set_cons_zero, List.set_cons_succ]
      refine wpAnyH_takeD (i := 1) (v := .agg #[.int .i64 st, .slice a2 k cap2, .string d]) (some 64) rfl rfl (by kernel_rfl) (by kernel_rfl) (by kernel_rfl) (fun _ _ _ h => h) (Or.inl ⟨by rfl, by intro W hW; obtain ⟨hhv5, hhv2⟩ := hW; have y0 := (cell_of hhv2 0).trans rfl; have y1 := (cell_of hhv2 1).trans rfl; have y2 := (cell_of hhv2 2).trans rfl; go_simp⟩) hS16 ?_
      simp only [Act.put, List.setIfInBounds_toArray, List.set_cons_zero, List.set_cons_succ]
      refine wpAnyH_ready (rs := [2]) (by kernel_rfl) (by simp) ?_
      refine AllReadyH.cons rfl (fun K hK => ?_) AllReadyH.nil
      go_simp
      refine (toResp_any st a2 k cap2 d gs w.heap.size _ (HA2.out _ hb16) hb16.size hm2).mono ?_
      rintro e w17 ⟨vv, rfl, ownR6, bw⟩
      obtain ⟨oR6, pR6, rfl⟩ := slice_of_owns ownR6
      have hb17 : Below w.heap.size w (w17) := hb16.trans (bw.mono hb16.size)
      have HM17 : Hid ((w16).heap.size ≤ (w17).heap.size) := bw.size
      have HOQ3_17 : Hid ((w17).ownsRow w.heap.size 75 2 (.slice oQ3 n pQ3) n (flatF fs)) := owns_below HOQ3_16.out bw (fun g hg => owns_lt HOQ3_16.out hg)
      have HOR4_17 : Hid ((w17).ownsRow w.heap.size 75 2 (.slice oR4 k pR4) k (flatF gs)) := owns_below HOR4_16.out bw (fun g hg => owns_lt HOR4_16.out hg)
      have HOQ5_17 : Hid ((w17).ownsRow w.heap.size 75 2 (.slice oQ5 n pQ5) n (flatF fs)) := owns_below HOQ5_16.out bw (fun g hg => owns_lt HOQ5_16.out hg)
      have HBv1_17 : Hid ((w17).heap[qv1]? = some (.cells #[.int .i64 m, .string p, .slice a n cap, .string b] 24)) := blk_below HBv1_16.out bw
      have HBv2_17 : Hid ((w17).heap[qv2]? = some (.cells #[.int .i64 st, .slice a2 k cap2, .string d] 26)) := blk_below HBv2_16.out bw
      have HBv3_17 : Hid ((w17).heap[qv3]? = some (.cells #[.string ⟨#[]⟩, .slice none 0 0, .slice none 0 0, .int .i64 0, .slice none 0 0, .string ⟨#[]⟩, .int .i64 0] 34)) := blk_below HBv3_16.out bw
      have HBv4_17 : Hid ((w17).heap[qv4]? = some (.cells #[.int .i64 m, .string p, .slice oQ3 n pQ3, .string b] 38)) := blk_below HBv4_16.out bw
      have HBv5_17 : Hid ((w17).heap[qv5]? = some (.cells #[.int .i64 st, .slice oR4 k pR4, .string d] 32)) := blk_below HBv5_16.out bw
      have HBv6_17 : Hid ((w17).heap[qv6]? = some (.cells #[.string ⟨#[]⟩, .slice none 0 0, .slice none 0 0, .int .i64 0, .slice none 0 0, .string ⟨#[]⟩, .int .i64 0] 34)) := blk_below HBv6_16.out bw
      have HOR6_17 : Hid ((w17).ownsRow w.heap.size 75 2 (.slice oR6 k pR6) k (flatF gs)) := owns_wide ownR6 hb16.size
      have LOR6 : Hid (∀ g, (Value.ownBlock (.slice oR6 k pR6)) = some g → (w16).heap.size ≤ g) := fun g hg => owns_ge ownR6 hg
      have HIR6 : Hid (∀ g, (Value.ownBlock (.slice oR6 k pR6)) = some g → g < (w17).heap.size) := fun g hg => owns_lt ownR6 hg
      clear ownR6
      clear hb16 HOQ3_16 HOR4_16 HOQ5_16 HBv1_16 HBv2_16 HBv3_16 HBv4_16 HBv5_16 HBv6_16 bw
      have hS17 : w17.heap[qv5]? = some (.cells #[.int .i64 st, .slice oR4 k pR4, .string d] 32) ∧ w17.heap[qv2]? = some (.cells #[.int .i64 st, .slice a2 k cap2, .string d] 26) := ⟨HBv5_17.out, HBv2_17.out⟩
      refine hK.out _ _ hS17 (fun _ => ?_)
      clear hK K hS16
      refine wpAnyH_ready (rs := [3]) (by kernel_rfl) (by simp) ?_
      refine AllReadyH.cons rfl (fun K hK => ?_) AllReadyH.nil
      go_simp
      refine (eqResp_any st _ _ d k _ _ gs _ (FieldsV.of_owns HOR4_17.out) (FieldsV.of_owns HOR6_17.out) (by omega)).mono ?_
      rintro e w18 ⟨rfl, bw⟩
      have hb18 : Below w.heap.size w (w18) := hb17.trans (bw.mono hb17.size)
      have HM18 : Hid ((w17).heap.size ≤ (w18).heap.size) := bw.size
      have HOQ3_18 : Hid ((w18).ownsRow w.heap.size 75 2 (.slice oQ3 n pQ3) n (flatF fs)) := owns_below HOQ3_17.out bw (fun g hg => owns_lt HOQ3_17.out hg)
      have HOR4_18 : Hid ((w18).ownsRow w.heap.size 75 2 (.slice oR4 k pR4) k (flatF gs)) := owns_below HOR4_17.out bw (fun g hg => owns_lt HOR4_17.out hg)
      have HOQ5_18 : Hid ((w18).ownsRow w.heap.size 75 2 (.slice oQ5 n pQ5) n (flatF fs)) := owns_below HOQ5_17.out bw (fun g hg => owns_lt HOQ5_17.out hg)
      have HOR6_18 : Hid ((w18).ownsRow w.heap.size 75 2 (.slice oR6 k pR6) k (flatF gs)) := owns_below HOR6_17.out bw (fun g hg => owns_lt HOR6_17.out hg)
      have HBv1_18 : Hid ((w18).heap[qv1]? = some (.cells #[.int .i64 m, .string p, .slice a n cap, .string b] 24)) := blk_below HBv1_17.out bw
      have HBv2_18 : Hid ((w18).heap[qv2]? = some (.cells #[.int .i64 st, .slice a2 k cap2, .string d] 26)) := blk_below HBv2_17.out bw
      have HBv3_18 : Hid ((w18).heap[qv3]? = some (.cells #[.string ⟨#[]⟩, .slice none 0 0, .slice none 0 0, .int .i64 0, .slice none 0 0, .string ⟨#[]⟩, .int .i64 0] 34)) := blk_below HBv3_17.out bw
      have HBv4_18 : Hid ((w18).heap[qv4]? = some (.cells #[.int .i64 m, .string p, .slice oQ3 n pQ3, .string b] 38)) := blk_below HBv4_17.out bw
      have HBv5_18 : Hid ((w18).heap[qv5]? = some (.cells #[.int .i64 st, .slice oR4 k pR4, .string d] 32)) := blk_below HBv5_17.out bw
      have HBv6_18 : Hid ((w18).heap[qv6]? = some (.cells #[.string ⟨#[]⟩, .slice none 0 0, .slice none 0 0, .int .i64 0, .slice none 0 0, .string ⟨#[]⟩, .int .i64 0] 34)) := blk_below HBv6_17.out bw
      clear hb17 HOQ3_17 HOR4_17 HOQ5_17 HOR6_17 HBv1_17 HBv2_17 HBv3_17 HBv4_17 HBv5_17 HBv6_17 bw
      have hS18 : w18.heap[qv5]? = some (.cells #[.int .i64 st, .slice oR4 k pR4, .string d] 32) ∧ w18.heap[qv2]? = some (.cells #[.int .i64 st, .slice a2 k cap2, .string d] 26) := ⟨HBv5_18.out, HBv2_18.out⟩
      refine hK.out _ _ hS18 (fun _ => ?_)
      clear hK K hS17
      refine wpAnyH_takeD (i := 4) (v := .bool false) (some 67) rfl rfl (by kernel_rfl) (by kernel_rfl) (by kernel_rfl) (fun _ _ _ h => h) (Or.inl ⟨by rfl, by intro W _; go_simp⟩) hS18 ?_
      simp only [Act.put, List.setIfInBounds_toArray, List.set_cons_zero, List.set_cons_succ]
      clear hS18
      refine wpAnyH_done (by kernel_rfl) ?_ _
      have cv4_0 : (w18).cell? ⟨qv4, 0, none⟩ = some (.int .i64 m) := (cell_of HBv4_18.out 0).trans rfl
      have cv4_1 : (w18).cell? ⟨qv4, 1, none⟩ = some (.string p) := (cell_of HBv4_18.out 1).trans rfl
      have cv4_2 : (w18).cell? ⟨qv4, 2, none⟩ = some (.slice oQ3 n pQ3) := (cell_of HBv4_18.out 2).trans rfl
      have cv4_3 : (w18).cell? ⟨qv4, 3, none⟩ = some (.string b) := (cell_of HBv4_18.out 3).trans rfl
      go_wp2_with fail
      refine (markReqFrom_any m p _ b n _ fs _ HOQ3_18.out hb18.size 1 (by omega) (by omega)).mono ?_
      rintro e w19 ⟨rfl, mk, bm, far⟩
      have hb19 : Below w.heap.size w w19 := hb18.trans bm
      have HM19 : Hid ((w18).heap.size ≤ w19.heap.size) := bm.size
      have HOR4_19 : Hid ((w19).ownsRow w.heap.size 75 2 (.slice oR4 k pR4) k (flatF gs)) := owns_same HOR4_18.out (fun g hg => far g (owns_lt HOR4_18.out hg) (fun e => by have h1 := LOR4.out g hg; have h2 := HIQ3.out g e; have := HM7.out; have := HM8.out; omega))
      have HOQ5_19 : Hid ((w19).ownsRow w.heap.size 75 2 (.slice oQ5 n pQ5) n (flatF fs)) := owns_same HOQ5_18.out (fun g hg => far g (owns_lt HOQ5_18.out hg) (fun e => by have h1 := LOQ5.out g hg; have h2 := HIQ3.out g e; have := HM7.out; have := HM8.out; have := HM9.out; have := HM10.out; have := HM11.out; have := HM12.out; have := HM13.out; have := HM14.out; omega))
      have HOR6_19 : Hid ((w19).ownsRow w.heap.size 75 2 (.slice oR6 k pR6) k (flatF gs)) := owns_same HOR6_18.out (fun g hg => far g (owns_lt HOR6_18.out hg) (fun e => by have h1 := LOR6.out g hg; have h2 := HIQ3.out g e; have := HM7.out; have := HM8.out; have := HM9.out; have := HM10.out; have := HM11.out; have := HM12.out; have := HM13.out; have := HM14.out; have := HM15.out; have := HM16.out; have := HM17.out; omega))
      have HBv1_19 : Hid ((w19).heap[qv1]? = some (.cells #[.int .i64 m, .string p, .slice a n cap, .string b] 24)) := blk_far HBv1_18.out far HOQ3_18.out (by decide)
      have HBv2_19 : Hid ((w19).heap[qv2]? = some (.cells #[.int .i64 st, .slice a2 k cap2, .string d] 26)) := blk_far HBv2_18.out far HOQ3_18.out (by decide)
      have HBv3_19 : Hid ((w19).heap[qv3]? = some (.cells #[.string ⟨#[]⟩, .slice none 0 0, .slice none 0 0, .int .i64 0, .slice none 0 0, .string ⟨#[]⟩, .int .i64 0] 34)) := blk_far HBv3_18.out far HOQ3_18.out (by decide)
      have HBv4_19 : Hid ((w19).heap[qv4]? = some (.cells #[.int .i64 m, .string p, .slice oQ3 n pQ3, .string b] 38)) := blk_far HBv4_18.out far HOQ3_18.out (by decide)
      have HBv5_19 : Hid ((w19).heap[qv5]? = some (.cells #[.int .i64 st, .slice oR4 k pR4, .string d] 32)) := blk_far HBv5_18.out far HOQ3_18.out (by decide)
      have HBv6_19 : Hid ((w19).heap[qv6]? = some (.cells #[.string ⟨#[]⟩, .slice none 0 0, .slice none 0 0, .int .i64 0, .slice none 0 0, .string ⟨#[]⟩, .int .i64 0] 34)) := blk_far HBv6_18.out far HOQ3_18.out (by decide)
      have HOQ3_19 : Hid ((w19).ownsRow w.heap.size 75 2 (.slice oQ3 n pQ3) n (flatF (mkG 1 fs n))) := mk
      clear hb18 HOQ3_18 HOR4_18 HOQ5_18 HOR6_18 HBv1_18 HBv2_18 HBv3_18 HBv4_18 HBv5_18 HBv6_18 mk bm far
      clear cv4_0 cv4_1 cv4_2 cv4_3
      have cv5_0 : (w19).cell? ⟨qv5, 0, none⟩ = some (.int .i64 st) := (cell_of HBv5_19.out 0).trans rfl
      have cv5_1 : (w19).cell? ⟨qv5, 1, none⟩ = some (.slice oR4 k pR4) := (cell_of HBv5_19.out 1).trans rfl
      have cv5_2 : (w19).cell? ⟨qv5, 2, none⟩ = some (.string d) := (cell_of HBv5_19.out 2).trans rfl
      rw [show (((1 : Nat) : Int) + 2 * (n : Int)) = ((1 + 2 * n : Nat) : Int) by omega]
      go_wp2_with fail
      refine (markRespFrom_any st _ d k _ gs _ HOR4_19.out hb19.size (1 + 2 * n) (by omega) (by omega)).mono ?_
      rintro e w20 ⟨rfl, mk, bm, far⟩
      have hb20 : Below w.heap.size w w20 := hb19.trans bm
      have HM20 : Hid ((w19).heap.size ≤ w20.heap.size) := bm.size
      have HOQ3_20 : Hid ((w20).ownsRow w.heap.size 75 2 (.slice oQ3 n pQ3) n (flatF (mkG 1 fs n))) := owns_same HOQ3_19.out (fun g hg => far g (owns_lt HOQ3_19.out hg) (fun e => by have h1 := LOR4.out g e; have h2 := HIQ3.out g hg; have := HM7.out; have := HM8.out; omega))
      have HOQ5_20 : Hid ((w20).ownsRow w.heap.size 75 2 (.slice oQ5 n pQ5) n (flatF fs)) := owns_same HOQ5_19.out (fun g hg => far g (owns_lt HOQ5_19.out hg) (fun e => by have h1 := LOQ5.out g hg; have h2 := HIR4.out g e; have := HM9.out; have := HM10.out; have := HM11.out; have := HM12.out; have := HM13.out; have := HM14.out; omega))
      have HOR6_20 : Hid ((w20).ownsRow w.heap.size 75 2 (.slice oR6 k pR6) k (flatF gs)) := owns_same HOR6_19.out (fun g hg => far g (owns_lt HOR6_19.out hg) (fun e => by have h1 := LOR6.out g hg; have h2 := HIR4.out g e; have := HM9.out; have := HM10.out; have := HM11.out; have := HM12.out; have := HM13.out; have := HM14.out; have := HM15.out; have := HM16.out; have := HM17.out; omega))
      have HBv1_20 : Hid ((w20).heap[qv1]? = some (.cells #[.int .i64 m, .string p, .slice a n cap, .string b] 24)) := blk_far HBv1_19.out far HOR4_19.out (by decide)
      have HBv2_20 : Hid ((w20).heap[qv2]? = some (.cells #[.int .i64 st, .slice a2 k cap2, .string d] 26)) := blk_far HBv2_19.out far HOR4_19.out (by decide)
      have HBv3_20 : Hid ((w20).heap[qv3]? = some (.cells #[.string ⟨#[]⟩, .slice none 0 0, .slice none 0 0, .int .i64 0, .slice none 0 0, .string ⟨#[]⟩, .int .i64 0] 34)) := blk_far HBv3_19.out far HOR4_19.out (by decide)
      have HBv4_20 : Hid ((w20).heap[qv4]? = some (.cells #[.int .i64 m, .string p, .slice oQ3 n pQ3, .string b] 38)) := blk_far HBv4_19.out far HOR4_19.out (by decide)
      have HBv5_20 : Hid ((w20).heap[qv5]? = some (.cells #[.int .i64 st, .slice oR4 k pR4, .string d] 32)) := blk_far HBv5_19.out far HOR4_19.out (by decide)
      have HBv6_20 : Hid ((w20).heap[qv6]? = some (.cells #[.string ⟨#[]⟩, .slice none 0 0, .slice none 0 0, .int .i64 0, .slice none 0 0, .string ⟨#[]⟩, .int .i64 0] 34)) := blk_far HBv6_19.out far HOR4_19.out (by decide)
      have HOR4_20 : Hid ((w20).ownsRow w.heap.size 75 2 (.slice oR4 k pR4) k (flatF (mkG (1 + 2 * n) gs k))) := mk
      clear hb19 HOQ3_19 HOR4_19 HOQ5_19 HOR6_19 HBv1_19 HBv2_19 HBv3_19 HBv4_19 HBv5_19 HBv6_19 mk bm far
      have hkk : ¬ ((((1 + 2 * n : Nat) : Int) + 2 * (k : Int)) < 0) := by omega
      clear cv5_0 cv5_1 cv5_2
      have cv3_0 : (w20).cell? ⟨qv3, 0, none⟩ = some (.string ⟨#[]⟩) := (cell_of HBv3_20.out 0).trans rfl
      have cv3_1 : (w20).cell? ⟨qv3, 1, none⟩ = some (.slice none 0 0) := (cell_of HBv3_20.out 1).trans rfl
      have cv3_2 : (w20).cell? ⟨qv3, 2, none⟩ = some (.slice none 0 0) := (cell_of HBv3_20.out 2).trans rfl
      have cv3_3 : (w20).cell? ⟨qv3, 3, none⟩ = some (.int .i64 0) := (cell_of HBv3_20.out 3).trans rfl
      have cv3_4 : (w20).cell? ⟨qv3, 4, none⟩ = some (.slice none 0 0) := (cell_of HBv3_20.out 4).trans rfl
      have cv3_5 : (w20).cell? ⟨qv3, 5, none⟩ = some (.string ⟨#[]⟩) := (cell_of HBv3_20.out 5).trans rfl
      have cv3_6 : (w20).cell? ⟨qv3, 6, none⟩ = some (.int .i64 0) := (cell_of HBv3_20.out 6).trans rfl
      have cv6_0 : (w20).cell? ⟨qv6, 0, none⟩ = some (.string ⟨#[]⟩) := (cell_of HBv6_20.out 0).trans rfl
      have cv6_1 : (w20).cell? ⟨qv6, 1, none⟩ = some (.slice none 0 0) := (cell_of HBv6_20.out 1).trans rfl
      have cv6_2 : (w20).cell? ⟨qv6, 2, none⟩ = some (.slice none 0 0) := (cell_of HBv6_20.out 2).trans rfl
      have cv6_3 : (w20).cell? ⟨qv6, 3, none⟩ = some (.int .i64 0) := (cell_of HBv6_20.out 3).trans rfl
      have cv6_4 : (w20).cell? ⟨qv6, 4, none⟩ = some (.slice none 0 0) := (cell_of HBv6_20.out 4).trans rfl
      have cv6_5 : (w20).cell? ⟨qv6, 5, none⟩ = some (.string ⟨#[]⟩) := (cell_of HBv6_20.out 5).trans rfl
      have cv6_6 : (w20).cell? ⟨qv6, 6, none⟩ = some (.int .i64 0) := (cell_of HBv6_20.out 6).trans rfl
      go_wp2_with fail
      refine (eqObj_any ⟨#[]⟩ 0 [] 0 [] 0 0 [] ⟨#[]⟩ 0 _ _ _ _ _ _ 0 0 _ (nilO _ _) (nilO _ _) (by omega) (by omega) (by omega)).mono ?_
      rintro e w21 ⟨rfl, bw⟩
      have hb21 : Below w.heap.size w (w21) := hb20.trans (bw.mono hb20.size)
      have HM21 : Hid ((w20).heap.size ≤ (w21).heap.size) := bw.size
      have HOQ3_21 : Hid ((w21).ownsRow w.heap.size 75 2 (.slice oQ3 n pQ3) n (flatF (mkG 1 fs n))) := owns_below HOQ3_20.out bw (fun g hg => owns_lt HOQ3_20.out hg)
      have HOR4_21 : Hid ((w21).ownsRow w.heap.size 75 2 (.slice oR4 k pR4) k (flatF (mkG (1 + 2 * n) gs k))) := owns_below HOR4_20.out bw (fun g hg => owns_lt HOR4_20.out hg)
      have HOQ5_21 : Hid ((w21).ownsRow w.heap.size 75 2 (.slice oQ5 n pQ5) n (flatF fs)) := owns_below HOQ5_20.out bw (fun g hg => owns_lt HOQ5_20.out hg)
      have HOR6_21 : Hid ((w21).ownsRow w.heap.size 75 2 (.slice oR6 k pR6) k (flatF gs)) := owns_below HOR6_20.out bw (fun g hg => owns_lt HOR6_20.out hg)
      have HBv1_21 : Hid ((w21).heap[qv1]? = some (.cells #[.int .i64 m, .string p, .slice a n cap, .string b] 24)) := blk_below HBv1_20.out bw
      have HBv2_21 : Hid ((w21).heap[qv2]? = some (.cells #[.int .i64 st, .slice a2 k cap2, .string d] 26)) := blk_below HBv2_20.out bw
      have HBv3_21 : Hid ((w21).heap[qv3]? = some (.cells #[.string ⟨#[]⟩, .slice none 0 0, .slice none 0 0, .int .i64 0, .slice none 0 0, .string ⟨#[]⟩, .int .i64 0] 34)) := blk_below HBv3_20.out bw
      have HBv4_21 : Hid ((w21).heap[qv4]? = some (.cells #[.int .i64 m, .string p, .slice oQ3 n pQ3, .string b] 38)) := blk_below HBv4_20.out bw
      have HBv5_21 : Hid ((w21).heap[qv5]? = some (.cells #[.int .i64 st, .slice oR4 k pR4, .string d] 32)) := blk_below HBv5_20.out bw
      have HBv6_21 : Hid ((w21).heap[qv6]? = some (.cells #[.string ⟨#[]⟩, .slice none 0 0, .slice none 0 0, .int .i64 0, .slice none 0 0, .string ⟨#[]⟩, .int .i64 0] 34)) := blk_below HBv6_20.out bw
      clear hb20 HOQ3_20 HOR4_20 HOQ5_20 HOR6_20 HBv1_20 HBv2_20 HBv3_20 HBv4_20 HBv5_20 HBv6_20 bw
      clear cv3_0 cv3_1 cv3_2 cv3_3 cv3_4 cv3_5 cv3_6 cv6_0 cv6_1 cv6_2 cv6_3 cv6_4 cv6_5 cv6_6
      have cv6_0 : (w21).cell? ⟨qv6, 0, none⟩ = some (.string ⟨#[]⟩) := (cell_of HBv6_21.out 0).trans rfl
      have cv6_1 : (w21).cell? ⟨qv6, 1, none⟩ = some (.slice none 0 0) := (cell_of HBv6_21.out 1).trans rfl
      have cv6_2 : (w21).cell? ⟨qv6, 2, none⟩ = some (.slice none 0 0) := (cell_of HBv6_21.out 2).trans rfl
      have cv6_3 : (w21).cell? ⟨qv6, 3, none⟩ = some (.int .i64 0) := (cell_of HBv6_21.out 3).trans rfl
      have cv6_4 : (w21).cell? ⟨qv6, 4, none⟩ = some (.slice none 0 0) := (cell_of HBv6_21.out 4).trans rfl
      have cv6_5 : (w21).cell? ⟨qv6, 5, none⟩ = some (.string ⟨#[]⟩) := (cell_of HBv6_21.out 5).trans rfl
      have cv6_6 : (w21).cell? ⟨qv6, 6, none⟩ = some (.int .i64 0) := (cell_of HBv6_21.out 6).trans rfl
      go_wp2_with fail
      refine (markObj_any ⟨#[]⟩ 0 [] 0 [] 0 0 [] ⟨#[]⟩ 0 _ _ _ _ _ (nilO _ _) (Nat.le_refl _) 1 (by omega) (by omega)).mono ?_
      rintro e w22 ⟨rfl, _, bw, _⟩
      have hb22 : Below w.heap.size w (w22) := hb21.trans (bw.mono hb21.size)
      have HM22 : Hid ((w21).heap.size ≤ (w22).heap.size) := bw.size
      have HOQ3_22 : Hid ((w22).ownsRow w.heap.size 75 2 (.slice oQ3 n pQ3) n (flatF (mkG 1 fs n))) := owns_below HOQ3_21.out bw (fun g hg => owns_lt HOQ3_21.out hg)
      have HOR4_22 : Hid ((w22).ownsRow w.heap.size 75 2 (.slice oR4 k pR4) k (flatF (mkG (1 + 2 * n) gs k))) := owns_below HOR4_21.out bw (fun g hg => owns_lt HOR4_21.out hg)
      have HOQ5_22 : Hid ((w22).ownsRow w.heap.size 75 2 (.slice oQ5 n pQ5) n (flatF fs)) := owns_below HOQ5_21.out bw (fun g hg => owns_lt HOQ5_21.out hg)
      have HOR6_22 : Hid ((w22).ownsRow w.heap.size 75 2 (.slice oR6 k pR6) k (flatF gs)) := owns_below HOR6_21.out bw (fun g hg => owns_lt HOR6_21.out hg)
      have HBv1_22 : Hid ((w22).heap[qv1]? = some (.cells #[.int .i64 m, .string p, .slice a n cap, .string b] 24)) := blk_below HBv1_21.out bw
      have HBv2_22 : Hid ((w22).heap[qv2]? = some (.cells #[.int .i64 st, .slice a2 k cap2, .string d] 26)) := blk_below HBv2_21.out bw
      have HBv3_22 : Hid ((w22).heap[qv3]? = some (.cells #[.string ⟨#[]⟩, .slice none 0 0, .slice none 0 0, .int .i64 0, .slice none 0 0, .string ⟨#[]⟩, .int .i64 0] 34)) := blk_below HBv3_21.out bw
      have HBv4_22 : Hid ((w22).heap[qv4]? = some (.cells #[.int .i64 m, .string p, .slice oQ3 n pQ3, .string b] 38)) := blk_below HBv4_21.out bw
      have HBv5_22 : Hid ((w22).heap[qv5]? = some (.cells #[.int .i64 st, .slice oR4 k pR4, .string d] 32)) := blk_below HBv5_21.out bw
      have HBv6_22 : Hid ((w22).heap[qv6]? = some (.cells #[.string ⟨#[]⟩, .slice none 0 0, .slice none 0 0, .int .i64 0, .slice none 0 0, .string ⟨#[]⟩, .int .i64 0] 34)) := blk_below HBv6_21.out bw
      clear hb21 HOQ3_21 HOR4_21 HOQ5_21 HOR6_21 HBv1_21 HBv2_21 HBv3_21 HBv4_21 HBv5_21 HBv6_21 bw
      clear cv6_0 cv6_1 cv6_2 cv6_3 cv6_4 cv6_5 cv6_6
      have cv6_0 : (w22).cell? ⟨qv6, 0, none⟩ = some (.string ⟨#[]⟩) := (cell_of HBv6_22.out 0).trans rfl
      have cv6_1 : (w22).cell? ⟨qv6, 1, none⟩ = some (.slice none 0 0) := (cell_of HBv6_22.out 1).trans rfl
      have cv6_2 : (w22).cell? ⟨qv6, 2, none⟩ = some (.slice none 0 0) := (cell_of HBv6_22.out 2).trans rfl
      have cv6_3 : (w22).cell? ⟨qv6, 3, none⟩ = some (.int .i64 0) := (cell_of HBv6_22.out 3).trans rfl
      have cv6_4 : (w22).cell? ⟨qv6, 4, none⟩ = some (.slice none 0 0) := (cell_of HBv6_22.out 4).trans rfl
      have cv6_5 : (w22).cell? ⟨qv6, 5, none⟩ = some (.string ⟨#[]⟩) := (cell_of HBv6_22.out 5).trans rfl
      have cv6_6 : (w22).cell? ⟨qv6, 6, none⟩ = some (.int .i64 0) := (cell_of HBv6_22.out 6).trans rfl
      go_wp2_with fail
      refine (heldObj_any ⟨#[]⟩ 0 [] 0 [] 0 0 [] ⟨#[]⟩ 0 _ _ _ 0 _ (nilO _ _) 1 (by omega) (by omega) (fun j hj => absurd hj (by omega)) (fun j hj => absurd hj (by omega)) (fun j hj => absurd hj (by omega))).mono ?_
      rintro e w23 ⟨rfl, bw⟩
      have hb23 : Below w.heap.size w (w23) := hb22.trans (bw.mono hb22.size)
      have HM23 : Hid ((w22).heap.size ≤ (w23).heap.size) := bw.size
      have HOQ3_23 : Hid ((w23).ownsRow w.heap.size 75 2 (.slice oQ3 n pQ3) n (flatF (mkG 1 fs n))) := owns_below HOQ3_22.out bw (fun g hg => owns_lt HOQ3_22.out hg)
      have HOR4_23 : Hid ((w23).ownsRow w.heap.size 75 2 (.slice oR4 k pR4) k (flatF (mkG (1 + 2 * n) gs k))) := owns_below HOR4_22.out bw (fun g hg => owns_lt HOR4_22.out hg)
      have HOQ5_23 : Hid ((w23).ownsRow w.heap.size 75 2 (.slice oQ5 n pQ5) n (flatF fs)) := owns_below HOQ5_22.out bw (fun g hg => owns_lt HOQ5_22.out hg)
      have HOR6_23 : Hid ((w23).ownsRow w.heap.size 75 2 (.slice oR6 k pR6) k (flatF gs)) := owns_below HOR6_22.out bw (fun g hg => owns_lt HOR6_22.out hg)
      have HBv1_23 : Hid ((w23).heap[qv1]? = some (.cells #[.int .i64 m, .string p, .slice a n cap, .string b] 24)) := blk_below HBv1_22.out bw
      have HBv2_23 : Hid ((w23).heap[qv2]? = some (.cells #[.int .i64 st, .slice a2 k cap2, .string d] 26)) := blk_below HBv2_22.out bw
      have HBv3_23 : Hid ((w23).heap[qv3]? = some (.cells #[.string ⟨#[]⟩, .slice none 0 0, .slice none 0 0, .int .i64 0, .slice none 0 0, .string ⟨#[]⟩, .int .i64 0] 34)) := blk_below HBv3_22.out bw
      have HBv4_23 : Hid ((w23).heap[qv4]? = some (.cells #[.int .i64 m, .string p, .slice oQ3 n pQ3, .string b] 38)) := blk_below HBv4_22.out bw
      have HBv5_23 : Hid ((w23).heap[qv5]? = some (.cells #[.int .i64 st, .slice oR4 k pR4, .string d] 32)) := blk_below HBv5_22.out bw
      have HBv6_23 : Hid ((w23).heap[qv6]? = some (.cells #[.string ⟨#[]⟩, .slice none 0 0, .slice none 0 0, .int .i64 0, .slice none 0 0, .string ⟨#[]⟩, .int .i64 0] 34)) := blk_below HBv6_22.out bw
      clear hb22 HOQ3_22 HOR4_22 HOQ5_22 HOR6_22 HBv1_22 HBv2_22 HBv3_22 HBv4_22 HBv5_22 HBv6_22 bw
      have hkh7 : ¬ (((1 + 0 + 0 + 2 * 0 : Nat) : Int) < 0) := by omega
      clear cv6_0 cv6_1 cv6_2 cv6_3 cv6_4 cv6_5 cv6_6
      go_upto_region 31 with fail
      have HSS : Hid (∀ W, Below w23.heap.size w23 W → W.heap[qv1]? = some (.cells #[.int .i64 m, .string p, .slice a n cap, .string b] 24) ∧ W.heap[qv2]? = some (.cells #[.int .i64 st, .slice a2 k cap2, .string d] 26)) := fun W h => ⟨blk_below HBv1_23.out h, blk_below HBv2_23.out h⟩
      go_cut [17, 18] (fun sx sx18 wx => ∃ (q : Nat), sx = .pointer (some ⟨q, 0, none⟩) ∧ sx18 = .bool false ∧ Hid (Below w23.heap.size w23 wx ∧ wx.heap[q]? = some (.cells #[.string ⟨#[]⟩, .slice none 0 0, .slice none 0 0, .int .i64 0, .slice none 0 0, .string ⟨#[]⟩, .int .i64 0] 34) ∧ w23.heap.size ≤ q))
      case first =>
        refine wp_region_held_drew (S := fun W => W.heap[qv1]? = some (.cells #[.int .i64 m, .string p, .slice a n cap, .string b] 24) ∧ W.heap[qv2]? = some (.cells #[.int .i64 st, .slice a2 k cap2, .string d] 26)) (by kernel_rfl) (HSS.out _ (Below.refl _ _).drew) (fun _ => ?_)
        obtain ⟨w24, hX⟩ : ∃ X, X = w23.drew := ⟨_, rfl⟩
        have bw : Below w23.heap.size w23 w24 := by rw [hX]; exact (Below.refl _ _).drew
        rw [← hX]
        have hb24 : Below w.heap.size w (w24) := hb23.trans (bw.mono hb23.size)
        have HM24 : Hid ((w23).heap.size ≤ (w24).heap.size) := bw.size
        have HOQ3_24 : Hid ((w24).ownsRow w.heap.size 75 2 (.slice oQ3 n pQ3) n (flatF (mkG 1 fs n))) := owns_below HOQ3_23.out bw (fun g hg => owns_lt HOQ3_23.out hg)
        have HOR4_24 : Hid ((w24).ownsRow w.heap.size 75 2 (.slice oR4 k pR4) k (flatF (mkG (1 + 2 * n) gs k))) := owns_below HOR4_23.out bw (fun g hg => owns_lt HOR4_23.out hg)
        have HOQ5_24 : Hid ((w24).ownsRow w.heap.size 75 2 (.slice oQ5 n pQ5) n (flatF fs)) := owns_below HOQ5_23.out bw (fun g hg => owns_lt HOQ5_23.out hg)
        have HOR6_24 : Hid ((w24).ownsRow w.heap.size 75 2 (.slice oR6 k pR6) k (flatF gs)) := owns_below HOR6_23.out bw (fun g hg => owns_lt HOR6_23.out hg)
        have HBv1_24 : Hid ((w24).heap[qv1]? = some (.cells #[.int .i64 m, .string p, .slice a n cap, .string b] 24)) := blk_below HBv1_23.out bw
        have HBv2_24 : Hid ((w24).heap[qv2]? = some (.cells #[.int .i64 st, .slice a2 k cap2, .string d] 26)) := blk_below HBv2_23.out bw
        have HBv3_24 : Hid ((w24).heap[qv3]? = some (.cells #[.string ⟨#[]⟩, .slice none 0 0, .slice none 0 0, .int .i64 0, .slice none 0 0, .string ⟨#[]⟩, .int .i64 0] 34)) := blk_below HBv3_23.out bw
        have HBv4_24 : Hid ((w24).heap[qv4]? = some (.cells #[.int .i64 m, .string p, .slice oQ3 n pQ3, .string b] 38)) := blk_below HBv4_23.out bw
        have HBv5_24 : Hid ((w24).heap[qv5]? = some (.cells #[.int .i64 st, .slice oR4 k pR4, .string d] 32)) := blk_below HBv5_23.out bw
        have HBv6_24 : Hid ((w24).heap[qv6]? = some (.cells #[.string ⟨#[]⟩, .slice none 0 0, .slice none 0 0, .int .i64 0, .slice none 0 0, .string ⟨#[]⟩, .int .i64 0] 34)) := blk_below HBv6_23.out bw
        have HX_24 : Hid (Below w23.heap.size w23 w24) := bw
        clear bw hX
        refine wpAnyH_takeD (i := 0) (v := .agg #[.int .i64 m, .string p, .slice a n cap, .string b]) (some 99) rfl rfl (by kernel_rfl) (by kernel_rfl) (by kernel_rfl) (fun _ _ _ h => h) (Or.inl ⟨by rfl, by intro W hW; obtain ⟨hhv1, hhv2⟩ := hW; have y0 := (cell_of hhv1 0).trans rfl; have y1 := (cell_of hhv1 1).trans rfl; have y2 := (cell_of hhv1 2).trans rfl; have y3 := (cell_of hhv1 3).trans rfl; go_simp⟩) (HSS.out _ HX_24.out) ?_
        simp only [Act.put, List.setIfInBounds_toArray, List.set_cons_zero, List.set_cons_succ]
        refine wpAnyH_takeD (i := 2) (v := .agg #[.int .i64 st, .slice a2 k cap2, .string d]) (some 101) rfl rfl (by kernel_rfl) (by kernel_rfl) (by kernel_rfl) (fun _ _ _ h => h) (Or.inl ⟨by rfl, by intro W hW; obtain ⟨hhv1, hhv2⟩ := hW; have y0 := (cell_of hhv2 0).trans rfl; have y1 := (cell_of hhv2 1).trans rfl; have y2 := (cell_of hhv2 2).trans rfl; go_simp⟩) (HSS.out _ HX_24.out) ?_
        simp only [Act.put, List.setIfInBounds_toArray, List.set_cons_zero, List.set_cons_succ]
        refine wpAnyH_takeD (i := 4) (v := .int .i64 t) (some 103) rfl rfl (by kernel_rfl) (by kernel_rfl) (by kernel_rfl) (fun _ _ _ h => h) (Or.inl ⟨by rfl, by intro W _; go_simp⟩) (HSS.out _ HX_24.out) ?_
        simp only [Act.put, List.setIfInBounds_toArray, List.set_cons_zero, List.set_cons_succ]
        refine wpAnyH_ready (rs := [1, 9]) (by kernel_rfl) (by simp) ?_
        refine AllReadyH.cons rfl (fun K hK => ?_) (AllReadyH.cons rfl (fun K hK => ?_) AllReadyH.nil)
        · go_simp
          refine (toReq_any m p a n cap b fs w.heap.size _ (HA1.out _ hb24) hb24.size hm1).mono ?_
          rintro e w25 ⟨vv, rfl, ownQ8, bw⟩
          obtain ⟨oQ8, pQ8, rfl⟩ := slice_of_owns ownQ8
          have hb25 : Below w.heap.size w (w25) := hb24.trans (bw.mono hb24.size)
          have HM25 : Hid ((w24).heap.size ≤ (w25).heap.size) := bw.size
          have HOQ3_25 : Hid ((w25).ownsRow w.heap.size 75 2 (.slice oQ3 n pQ3) n (flatF (mkG 1 fs n))) := owns_below HOQ3_24.out bw (fun g hg => owns_lt HOQ3_24.out hg)
          have HOR4_25 : Hid ((w25).ownsRow w.heap.size 75 2 (.slice oR4 k pR4) k (flatF (mkG (1 + 2 * n) gs k))) := owns_below HOR4_24.out bw (fun g hg => owns_lt HOR4_24.out hg)
          have HOQ5_25 : Hid ((w25).ownsRow w.heap.size 75 2 (.slice oQ5 n pQ5) n (flatF fs)) := owns_below HOQ5_24.out bw (fun g hg => owns_lt HOQ5_24.out hg)
          have HOR6_25 : Hid ((w25).ownsRow w.heap.size 75 2 (.slice oR6 k pR6) k (flatF gs)) := owns_below HOR6_24.out bw (fun g hg => owns_lt HOR6_24.out hg)
          have HBv1_25 : Hid ((w25).heap[qv1]? = some (.cells #[.int .i64 m, .string p, .slice a n cap, .string b] 24)) := blk_below HBv1_24.out bw
          have HBv2_25 : Hid ((w25).heap[qv2]? = some (.cells #[.int .i64 st, .slice a2 k cap2, .string d] 26)) := blk_below HBv2_24.out bw
          have HBv3_25 : Hid ((w25).heap[qv3]? = some (.cells #[.string ⟨#[]⟩, .slice none 0 0, .slice none 0 0, .int .i64 0, .slice none 0 0, .string ⟨#[]⟩, .int .i64 0] 34)) := blk_below HBv3_24.out bw
          have HBv4_25 : Hid ((w25).heap[qv4]? = some (.cells #[.int .i64 m, .string p, .slice oQ3 n pQ3, .string b] 38)) := blk_below HBv4_24.out bw
          have HBv5_25 : Hid ((w25).heap[qv5]? = some (.cells #[.int .i64 st, .slice oR4 k pR4, .string d] 32)) := blk_below HBv5_24.out bw
          have HBv6_25 : Hid ((w25).heap[qv6]? = some (.cells #[.string ⟨#[]⟩, .slice none 0 0, .slice none 0 0, .int .i64 0, .slice none 0 0, .string ⟨#[]⟩, .int .i64 0] 34)) := blk_below HBv6_24.out bw
          have HOQ8_25 : Hid ((w25).ownsRow w.heap.size 75 2 (.slice oQ8 n pQ8) n (flatF fs)) := owns_wide ownQ8 hb24.size
          have LOQ8 : Hid (∀ g, (Value.ownBlock (.slice oQ8 n pQ8)) = some g → (w24).heap.size ≤ g) := fun g hg => owns_ge ownQ8 hg
          have HIQ8 : Hid (∀ g, (Value.ownBlock (.slice oQ8 n pQ8)) = some g → g < (w25).heap.size) := fun g hg => owns_lt ownQ8 hg
          clear ownQ8
          clear hb24 HOQ3_24 HOR4_24 HOQ5_24 HOR6_24 HBv1_24 HBv2_24 HBv3_24 HBv4_24 HBv5_24 HBv6_24
          have HX_25 : Hid (Below w23.heap.size w23 w25) := HX_24.out.trans (bw.mono HX_24.out.size)
          refine hK.out _ _ (HSS.out _ HX_25.out) (fun _ => ?_)
          clear hK K bw HX_24
          refine wpAnyH_ready (rs := [3, 9]) (by kernel_rfl) (by simp) ?_
          refine AllReadyH.cons rfl (fun K hK => ?_) (AllReadyH.cons rfl (fun K hK => ?_) AllReadyH.nil)
          · go_simp
            refine (toResp_any st a2 k cap2 d gs w.heap.size _ (HA2.out _ hb25) hb25.size hm2).mono ?_
            rintro e w26 ⟨vv, rfl, ownR9, bw⟩
            obtain ⟨oR9, pR9, rfl⟩ := slice_of_owns ownR9
            have hb26 : Below w.heap.size w (w26) := hb25.trans (bw.mono hb25.size)
            have HM26 : Hid ((w25).heap.size ≤ (w26).heap.size) := bw.size
            have HOQ3_26 : Hid ((w26).ownsRow w.heap.size 75 2 (.slice oQ3 n pQ3) n (flatF (mkG 1 fs n))) := owns_below HOQ3_25.out bw (fun g hg => owns_lt HOQ3_25.out hg)
            have HOR4_26 : Hid ((w26).ownsRow w.heap.size 75 2 (.slice oR4 k pR4) k (flatF (mkG (1 + 2 * n) gs k))) := owns_below HOR4_25.out bw (fun g hg => owns_lt HOR4_25.out hg)
            have HOQ5_26 : Hid ((w26).ownsRow w.heap.size 75 2 (.slice oQ5 n pQ5) n (flatF fs)) := owns_below HOQ5_25.out bw (fun g hg => owns_lt HOQ5_25.out hg)
            have HOR6_26 : Hid ((w26).ownsRow w.heap.size 75 2 (.slice oR6 k pR6) k (flatF gs)) := owns_below HOR6_25.out bw (fun g hg => owns_lt HOR6_25.out hg)
            have HOQ8_26 : Hid ((w26).ownsRow w.heap.size 75 2 (.slice oQ8 n pQ8) n (flatF fs)) := owns_below HOQ8_25.out bw (fun g hg => owns_lt HOQ8_25.out hg)
            have HBv1_26 : Hid ((w26).heap[qv1]? = some (.cells #[.int .i64 m, .string p, .slice a n cap, .string b] 24)) := blk_below HBv1_25.out bw
            have HBv2_26 : Hid ((w26).heap[qv2]? = some (.cells #[.int .i64 st, .slice a2 k cap2, .string d] 26)) := blk_below HBv2_25.out bw
            have HBv3_26 : Hid ((w26).heap[qv3]? = some (.cells #[.string ⟨#[]⟩, .slice none 0 0, .slice none 0 0, .int .i64 0, .slice none 0 0, .string ⟨#[]⟩, .int .i64 0] 34)) := blk_below HBv3_25.out bw
            have HBv4_26 : Hid ((w26).heap[qv4]? = some (.cells #[.int .i64 m, .string p, .slice oQ3 n pQ3, .string b] 38)) := blk_below HBv4_25.out bw
            have HBv5_26 : Hid ((w26).heap[qv5]? = some (.cells #[.int .i64 st, .slice oR4 k pR4, .string d] 32)) := blk_below HBv5_25.out bw
            have HBv6_26 : Hid ((w26).heap[qv6]? = some (.cells #[.string ⟨#[]⟩, .slice none 0 0, .slice none 0 0, .int .i64 0, .slice none 0 0, .string ⟨#[]⟩, .int .i64 0] 34)) := blk_below HBv6_25.out bw
            have HOR9_26 : Hid ((w26).ownsRow w.heap.size 75 2 (.slice oR9 k pR9) k (flatF gs)) := owns_wide ownR9 hb25.size
            have LOR9 : Hid (∀ g, (Value.ownBlock (.slice oR9 k pR9)) = some g → (w25).heap.size ≤ g) := fun g hg => owns_ge ownR9 hg
            have HIR9 : Hid (∀ g, (Value.ownBlock (.slice oR9 k pR9)) = some g → g < (w26).heap.size) := fun g hg => owns_lt ownR9 hg
            clear ownR9
            clear hb25 HOQ3_25 HOR4_25 HOQ5_25 HOR6_25 HOQ8_25 HBv1_25 HBv2_25 HBv3_25 HBv4_25 HBv5_25 HBv6_25
            have HX_26 : Hid (Below w23.heap.size w23 w26) := HX_25.out.trans (bw.mono HX_25.out.size)
            refine hK.out _ _ (HSS.out _ HX_26.out) (fun _ => ?_)
            clear hK K bw HX_25
            refine wpAnyH_ready (rs := [5, 9]) (by kernel_rfl) (by simp) ?_
            refine AllReadyH.cons rfl (fun K hK => ?_) (AllReadyH.cons rfl (fun K hK => ?_) AllReadyH.nil)
            · go_simp
              refine (HIM.out _ _ _ _ _ HOQ8_26.out HOR9_26.out).mono ?_
              rintro e w27 ⟨rfl, bw⟩
              have hb27 : Below w.heap.size w (w27) := hb26.trans (bw.mono hb26.size)
              have HM27 : Hid ((w26).heap.size ≤ (w27).heap.size) := bw.size
              have HOQ3_27 : Hid ((w27).ownsRow w.heap.size 75 2 (.slice oQ3 n pQ3) n (flatF (mkG 1 fs n))) := owns_below HOQ3_26.out bw (fun g hg => owns_lt HOQ3_26.out hg)
              have HOR4_27 : Hid ((w27).ownsRow w.heap.size 75 2 (.slice oR4 k pR4) k (flatF (mkG (1 + 2 * n) gs k))) := owns_below HOR4_26.out bw (fun g hg => owns_lt HOR4_26.out hg)
              have HOQ5_27 : Hid ((w27).ownsRow w.heap.size 75 2 (.slice oQ5 n pQ5) n (flatF fs)) := owns_below HOQ5_26.out bw (fun g hg => owns_lt HOQ5_26.out hg)
              have HOR6_27 : Hid ((w27).ownsRow w.heap.size 75 2 (.slice oR6 k pR6) k (flatF gs)) := owns_below HOR6_26.out bw (fun g hg => owns_lt HOR6_26.out hg)
              have HOQ8_27 : Hid ((w27).ownsRow w.heap.size 75 2 (.slice oQ8 n pQ8) n (flatF fs)) := owns_below HOQ8_26.out bw (fun g hg => owns_lt HOQ8_26.out hg)
              have HOR9_27 : Hid ((w27).ownsRow w.heap.size 75 2 (.slice oR9 k pR9) k (flatF gs)) := owns_below HOR9_26.out bw (fun g hg => owns_lt HOR9_26.out hg)
              have HBv1_27 : Hid ((w27).heap[qv1]? = some (.cells #[.int .i64 m, .string p, .slice a n cap, .string b] 24)) := blk_below HBv1_26.out bw
              have HBv2_27 : Hid ((w27).heap[qv2]? = some (.cells #[.int .i64 st, .slice a2 k cap2, .string d] 26)) := blk_below HBv2_26.out bw
              have HBv3_27 : Hid ((w27).heap[qv3]? = some (.cells #[.string ⟨#[]⟩, .slice none 0 0, .slice none 0 0, .int .i64 0, .slice none 0 0, .string ⟨#[]⟩, .int .i64 0] 34)) := blk_below HBv3_26.out bw
              have HBv4_27 : Hid ((w27).heap[qv4]? = some (.cells #[.int .i64 m, .string p, .slice oQ3 n pQ3, .string b] 38)) := blk_below HBv4_26.out bw
              have HBv5_27 : Hid ((w27).heap[qv5]? = some (.cells #[.int .i64 st, .slice oR4 k pR4, .string d] 32)) := blk_below HBv5_26.out bw
              have HBv6_27 : Hid ((w27).heap[qv6]? = some (.cells #[.string ⟨#[]⟩, .slice none 0 0, .slice none 0 0, .int .i64 0, .slice none 0 0, .string ⟨#[]⟩, .int .i64 0] 34)) := blk_below HBv6_26.out bw
              clear hb26 HOQ3_26 HOR4_26 HOQ5_26 HOR6_26 HOQ8_26 HOR9_26 HBv1_26 HBv2_26 HBv3_26 HBv4_26 HBv5_26 HBv6_26
              have HX_27 : Hid (Below w23.heap.size w23 w27) := HX_26.out.trans (bw.mono HX_26.out.size)
              refine hK.out _ _ (HSS.out _ HX_27.out) (fun _ => ?_)
              clear hK K bw HX_26
              refine wpAnyH_takeD (i := 6) (v := .tuple #[.agg #[.string ⟨#[]⟩, .slice none 0 0, .slice none 0 0, .int .i64 0, .slice none 0 0, .string ⟨#[]⟩, .int .i64 0], .bool false]) (some 98) rfl rfl (by kernel_rfl) (by kernel_rfl) (by kernel_rfl) (fun _ _ _ h => h) (Or.inl ⟨by rfl, by intro W _; go_simp⟩) (HSS.out _ HX_27.out) ?_
              simp only [Act.put, List.setIfInBounds_toArray, List.set_cons_zero, List.set_cons_succ]
              refine wpAnyH_takeD (i := 7) (v := .agg #[.string ⟨#[]⟩, .slice none 0 0, .slice none 0 0, .int .i64 0, .slice none 0 0, .string ⟨#[]⟩, .int .i64 0]) (some 105) rfl rfl (by kernel_rfl) (by kernel_rfl) (by kernel_rfl) (fun _ _ _ h => h) (Or.inl ⟨by rfl, by intro W _; go_simp⟩) (HSS.out _ HX_27.out) ?_
              simp only [Act.put, List.setIfInBounds_toArray, List.set_cons_zero, List.set_cons_succ]
              refine wpAnyH_takeD (i := 8) (v := .bool false) (some 106) rfl rfl (by kernel_rfl) (by kernel_rfl) (by kernel_rfl) (fun _ _ _ h => h) (Or.inl ⟨by rfl, by intro W _; go_simp⟩) (HSS.out _ HX_27.out) ?_
              simp only [Act.put, List.setIfInBounds_toArray, List.set_cons_zero, List.set_cons_succ]
              refine wpAnyH_ready (rs := [9]) (by kernel_rfl) (by simp) ?_
              refine AllReadyH.cons rfl (fun K hK => ?_) AllReadyH.nil
              go_simp
              have HXA : Hid (Below w23.heap.size w23 (w27.alloc (.cells #[.string ⟨#[]⟩, .slice none 0 0, .slice none 0 0, .int .i64 0, .slice none 0 0, .string ⟨#[]⟩, .int .i64 0] 34))) := HX_27.out.alloc HX_27.out.size _
              refine hK.out _ _ (HSS.out _ HXA.out) (fun _ => ?_)
              clear hK K HXA
              obtain ⟨pa, ho⟩ : ∃ o, o = w27.heap.size := ⟨_, rfl⟩
              obtain ⟨w28, hXj⟩ : ∃ X, X = w27.alloc (.cells #[.string ⟨#[]⟩, .slice none 0 0, .slice none 0 0, .int .i64 0, .slice none 0 0, .string ⟨#[]⟩, .int .i64 0] 34) := ⟨_, rfl⟩
              rw [← ho, ← hXj]
              have HGA : Hid (w23.heap.size ≤ pa) := by show _ ≤ _; rw [ho]; exact HX_27.out.size
              have bw : Below w27.heap.size w27 w28 := by rw [hXj]; exact (Below.refl _ _).alloc (Nat.le_refl _) _
              have hb28 : Below w.heap.size w (w28) := hb27.trans (bw.mono hb27.size)
              have HM28 : Hid ((w27).heap.size ≤ (w28).heap.size) := bw.size
              have HOQ3_28 : Hid ((w28).ownsRow w.heap.size 75 2 (.slice oQ3 n pQ3) n (flatF (mkG 1 fs n))) := owns_below HOQ3_27.out bw (fun g hg => owns_lt HOQ3_27.out hg)
              have HOR4_28 : Hid ((w28).ownsRow w.heap.size 75 2 (.slice oR4 k pR4) k (flatF (mkG (1 + 2 * n) gs k))) := owns_below HOR4_27.out bw (fun g hg => owns_lt HOR4_27.out hg)
              have HOQ5_28 : Hid ((w28).ownsRow w.heap.size 75 2 (.slice oQ5 n pQ5) n (flatF fs)) := owns_below HOQ5_27.out bw (fun g hg => owns_lt HOQ5_27.out hg)
              have HOR6_28 : Hid ((w28).ownsRow w.heap.size 75 2 (.slice oR6 k pR6) k (flatF gs)) := owns_below HOR6_27.out bw (fun g hg => owns_lt HOR6_27.out hg)
              have HOQ8_28 : Hid ((w28).ownsRow w.heap.size 75 2 (.slice oQ8 n pQ8) n (flatF fs)) := owns_below HOQ8_27.out bw (fun g hg => owns_lt HOQ8_27.out hg)
              have HOR9_28 : Hid ((w28).ownsRow w.heap.size 75 2 (.slice oR9 k pR9) k (flatF gs)) := owns_below HOR9_27.out bw (fun g hg => owns_lt HOR9_27.out hg)
              have HBv1_28 : Hid ((w28).heap[qv1]? = some (.cells #[.int .i64 m, .string p, .slice a n cap, .string b] 24)) := blk_below HBv1_27.out bw
              have HBv2_28 : Hid ((w28).heap[qv2]? = some (.cells #[.int .i64 st, .slice a2 k cap2, .string d] 26)) := blk_below HBv2_27.out bw
              have HBv3_28 : Hid ((w28).heap[qv3]? = some (.cells #[.string ⟨#[]⟩, .slice none 0 0, .slice none 0 0, .int .i64 0, .slice none 0 0, .string ⟨#[]⟩, .int .i64 0] 34)) := blk_below HBv3_27.out bw
              have HBv4_28 : Hid ((w28).heap[qv4]? = some (.cells #[.int .i64 m, .string p, .slice oQ3 n pQ3, .string b] 38)) := blk_below HBv4_27.out bw
              have HBv5_28 : Hid ((w28).heap[qv5]? = some (.cells #[.int .i64 st, .slice oR4 k pR4, .string d] 32)) := blk_below HBv5_27.out bw
              have HBv6_28 : Hid ((w28).heap[qv6]? = some (.cells #[.string ⟨#[]⟩, .slice none 0 0, .slice none 0 0, .int .i64 0, .slice none 0 0, .string ⟨#[]⟩, .int .i64 0] 34)) := blk_below HBv6_27.out bw
              have HX_28 : Hid (Below w23.heap.size w23 w28) := HX_27.out.trans (bw.mono HX_27.out.size)
              have HPA_28 : Hid (w28.heap[pa]? = some (.cells #[.string ⟨#[]⟩, .slice none 0 0, .slice none 0 0, .int .i64 0, .slice none 0 0, .string ⟨#[]⟩, .int .i64 0] 34)) := by show _ = _; rw [hXj, ho]; exact heap_alloc_new _ _
              clear hb27 HOQ3_27 HOR4_27 HOQ5_27 HOR6_27 HOQ8_27 HOR9_27 HBv1_27 HBv2_27 HBv3_27 HBv4_27 HBv5_27 HBv6_27 bw ho hXj HX_27
              refine wpAnyH_ready (rs := [10]) (by kernel_rfl) (by simp) ?_
              refine AllReadyH.cons rfl (fun K hK => ?_) AllReadyH.nil
              have ce0 : w28.cell? ⟨pa, 0, none⟩ = some (.string ⟨#[]⟩) := (cell_of HPA_28.out 0).trans rfl
              have fe0 : w28.frozen? ⟨pa, 0, none⟩ = false := frozen_of HPA_28.out 0
              have ce1 : w28.cell? ⟨pa, 1, none⟩ = some (.slice none 0 0) := (cell_of HPA_28.out 1).trans rfl
              have fe1 : w28.frozen? ⟨pa, 1, none⟩ = false := frozen_of HPA_28.out 1
              have ce2 : w28.cell? ⟨pa, 2, none⟩ = some (.slice none 0 0) := (cell_of HPA_28.out 2).trans rfl
              have fe2 : w28.frozen? ⟨pa, 2, none⟩ = false := frozen_of HPA_28.out 2
              have ce3 : w28.cell? ⟨pa, 3, none⟩ = some (.int .i64 0) := (cell_of HPA_28.out 3).trans rfl
              have fe3 : w28.frozen? ⟨pa, 3, none⟩ = false := frozen_of HPA_28.out 3
              have ce4 : w28.cell? ⟨pa, 4, none⟩ = some (.slice none 0 0) := (cell_of HPA_28.out 4).trans rfl
              have fe4 : w28.frozen? ⟨pa, 4, none⟩ = false := frozen_of HPA_28.out 4
              have ce5 : w28.cell? ⟨pa, 5, none⟩ = some (.string ⟨#[]⟩) := (cell_of HPA_28.out 5).trans rfl
              have fe5 : w28.frozen? ⟨pa, 5, none⟩ = false := frozen_of HPA_28.out 5
              have ce6 : w28.cell? ⟨pa, 6, none⟩ = some (.int .i64 0) := (cell_of HPA_28.out 6).trans rfl
              have fe6 : w28.frozen? ⟨pa, 6, none⟩ = false := frozen_of HPA_28.out 6
              obtain ⟨w29, hY⟩ : ∃ Y, Y = (((((((w28.setCell ⟨pa, 0, none⟩ (.string ⟨#[]⟩)).setCell ⟨pa, 1, none⟩ (.slice none 0 0)).setCell ⟨pa, 2, none⟩ (.slice none 0 0)).setCell ⟨pa, 3, none⟩ (.int .i64 0)).setCell ⟨pa, 4, none⟩ (.slice none 0 0)).setCell ⟨pa, 5, none⟩ (.string ⟨#[]⟩)).setCell ⟨pa, 6, none⟩ (.int .i64 0)) := ⟨_, rfl⟩
              have HY : Hid ((((((((w28.setCell ⟨pa, 0, none⟩ (.string ⟨#[]⟩)).setCell ⟨pa, 1, none⟩ (.slice none 0 0)).setCell ⟨pa, 2, none⟩ (.slice none 0 0)).setCell ⟨pa, 3, none⟩ (.int .i64 0)).setCell ⟨pa, 4, none⟩ (.slice none 0 0)).setCell ⟨pa, 5, none⟩ (.string ⟨#[]⟩)).setCell ⟨pa, 6, none⟩ (.int .i64 0)) = w29) := hY.symm
              have HX_29 : Hid (Below w23.heap.size w23 w29) := by show Below _ _ _; rw [hY]; exact (((((((HX_28.out.setCell (p := ⟨pa, 0, none⟩) HGA.out _).setCell (p := ⟨pa, 1, none⟩) HGA.out _).setCell (p := ⟨pa, 2, none⟩) HGA.out _).setCell (p := ⟨pa, 3, none⟩) HGA.out _).setCell (p := ⟨pa, 4, none⟩) HGA.out _).setCell (p := ⟨pa, 5, none⟩) HGA.out _).setCell (p := ⟨pa, 6, none⟩) HGA.out _)
              have HPA_29 : Hid (w29.heap[pa]? = some (.cells #[.string ⟨#[]⟩, .slice none 0 0, .slice none 0 0, .int .i64 0, .slice none 0 0, .string ⟨#[]⟩, .int .i64 0] 34)) := by show _ = _; rw [hY]; have h := (heap_set _ pa 6 _ _ _ (.int .i64 0) (heap_set _ pa 5 _ _ _ (.string ⟨#[]⟩) (heap_set _ pa 4 _ _ _ (.slice none 0 0) (heap_set _ pa 3 _ _ _ (.int .i64 0) (heap_set _ pa 2 _ _ _ (.slice none 0 0) (heap_set _ pa 1 _ _ _ (.slice none 0 0) (heap_set _ pa 0 _ _ _ (.string ⟨#[]⟩) HPA_28.out))))))); simpa using h
              clear hY hb28 HOQ3_28 HOR4_28 HOQ5_28 HOR6_28 HOQ8_28 HOR9_28 HBv1_28 HBv2_28 HBv3_28 HBv4_28 HBv5_28 HBv6_28
              go_simp
              rw [HY.out]
              refine hK.out _ _ (HSS.out _ HX_29.out) (fun _ => ?_)
              clear hK K HY ce0 fe0 ce1 fe1 ce2 fe2 ce3 fe3 ce4 fe4 ce5 fe5 ce6 fe6
              refine wpAnyH_takeD (i := 11) (v := .bool false) (some 18) rfl rfl (by kernel_rfl) (by kernel_rfl) (by kernel_rfl) (fun _ _ _ h => h) (Or.inl ⟨by rfl, by intro W _; go_simp⟩) (HSS.out _ HX_29.out) ?_
              simp only [Act.put, List.setIfInBounds_toArray, List.set_cons_zero, List.set_cons_succ]
              refine wpAnyH_done (by kernel_rfl) ?_ _
              go_wp2_with fail
              go_meet
              exact ⟨pa, rfl, rfl, ⟨HX_29.out, HPA_29.out, HGA.out⟩⟩
            · go_simp
              have HXA : Hid (Below w23.heap.size w23 (w26.alloc (.cells #[.string ⟨#[]⟩, .slice none 0 0, .slice none 0 0, .int .i64 0, .slice none 0 0, .string ⟨#[]⟩, .int .i64 0] 34))) := HX_26.out.alloc HX_26.out.size _
              refine hK.out _ _ (HSS.out _ HXA.out) (fun _ => ?_)
              clear hK K HXA
              obtain ⟨pa, ho⟩ : ∃ o, o = w26.heap.size := ⟨_, rfl⟩
              obtain ⟨w27, hXj⟩ : ∃ X, X = w26.alloc (.cells #[.string ⟨#[]⟩, .slice none 0 0, .slice none 0 0, .int .i64 0, .slice none 0 0, .string ⟨#[]⟩, .int .i64 0] 34) := ⟨_, rfl⟩
              rw [← ho, ← hXj]
              have HGA : Hid (w23.heap.size ≤ pa) := by show _ ≤ _; rw [ho]; exact HX_26.out.size
              have bw : Below w26.heap.size w26 w27 := by rw [hXj]; exact (Below.refl _ _).alloc (Nat.le_refl _) _
              have hb27 : Below w.heap.size w (w27) := hb26.trans (bw.mono hb26.size)
              have HM27 : Hid ((w26).heap.size ≤ (w27).heap.size) := bw.size
              have HOQ3_27 : Hid ((w27).ownsRow w.heap.size 75 2 (.slice oQ3 n pQ3) n (flatF (mkG 1 fs n))) := owns_below HOQ3_26.out bw (fun g hg => owns_lt HOQ3_26.out hg)
              have HOR4_27 : Hid ((w27).ownsRow w.heap.size 75 2 (.slice oR4 k pR4) k (flatF (mkG (1 + 2 * n) gs k))) := owns_below HOR4_26.out bw (fun g hg => owns_lt HOR4_26.out hg)
              have HOQ5_27 : Hid ((w27).ownsRow w.heap.size 75 2 (.slice oQ5 n pQ5) n (flatF fs)) := owns_below HOQ5_26.out bw (fun g hg => owns_lt HOQ5_26.out hg)
              have HOR6_27 : Hid ((w27).ownsRow w.heap.size 75 2 (.slice oR6 k pR6) k (flatF gs)) := owns_below HOR6_26.out bw (fun g hg => owns_lt HOR6_26.out hg)
              have HOQ8_27 : Hid ((w27).ownsRow w.heap.size 75 2 (.slice oQ8 n pQ8) n (flatF fs)) := owns_below HOQ8_26.out bw (fun g hg => owns_lt HOQ8_26.out hg)
              have HOR9_27 : Hid ((w27).ownsRow w.heap.size 75 2 (.slice oR9 k pR9) k (flatF gs)) := owns_below HOR9_26.out bw (fun g hg => owns_lt HOR9_26.out hg)
              have HBv1_27 : Hid ((w27).heap[qv1]? = some (.cells #[.int .i64 m, .string p, .slice a n cap, .string b] 24)) := blk_below HBv1_26.out bw
              have HBv2_27 : Hid ((w27).heap[qv2]? = some (.cells #[.int .i64 st, .slice a2 k cap2, .string d] 26)) := blk_below HBv2_26.out bw
              have HBv3_27 : Hid ((w27).heap[qv3]? = some (.cells #[.string ⟨#[]⟩, .slice none 0 0, .slice none 0 0, .int .i64 0, .slice none 0 0, .string ⟨#[]⟩, .int .i64 0] 34)) := blk_below HBv3_26.out bw
              have HBv4_27 : Hid ((w27).heap[qv4]? = some (.cells #[.int .i64 m, .string p, .slice oQ3 n pQ3, .string b] 38)) := blk_below HBv4_26.out bw
              have HBv5_27 : Hid ((w27).heap[qv5]? = some (.cells #[.int .i64 st, .slice oR4 k pR4, .string d] 32)) := blk_below HBv5_26.out bw
              have HBv6_27 : Hid ((w27).heap[qv6]? = some (.cells #[.string ⟨#[]⟩, .slice none 0 0, .slice none 0 0, .int .i64 0, .slice none 0 0, .string ⟨#[]⟩, .int .i64 0] 34)) := blk_below HBv6_26.out bw
              have HX_27 : Hid (Below w23.heap.size w23 w27) := HX_26.out.trans (bw.mono HX_26.out.size)
              have HPA_27 : Hid (w27.heap[pa]? = some (.cells #[.string ⟨#[]⟩, .slice none 0 0, .slice none 0 0, .int .i64 0, .slice none 0 0, .string ⟨#[]⟩, .int .i64 0] 34)) := by show _ = _; rw [hXj, ho]; exact heap_alloc_new _ _
              clear hb26 HOQ3_26 HOR4_26 HOQ5_26 HOR6_26 HOQ8_26 HOR9_26 HBv1_26 HBv2_26 HBv3_26 HBv4_26 HBv5_26 HBv6_26 bw ho hXj HX_26
              refine wpAnyH_ready (rs := [5]) (by kernel_rfl) (by simp) ?_
              refine AllReadyH.cons rfl (fun K hK => ?_) AllReadyH.nil
              go_simp
              refine (HIM.out _ _ _ _ _ HOQ8_27.out HOR9_27.out).mono ?_
              rintro e w28 ⟨rfl, bw⟩
              have hb28 : Below w.heap.size w (w28) := hb27.trans (bw.mono hb27.size)
              have HM28 : Hid ((w27).heap.size ≤ (w28).heap.size) := bw.size
              have HOQ3_28 : Hid ((w28).ownsRow w.heap.size 75 2 (.slice oQ3 n pQ3) n (flatF (mkG 1 fs n))) := owns_below HOQ3_27.out bw (fun g hg => owns_lt HOQ3_27.out hg)
              have HOR4_28 : Hid ((w28).ownsRow w.heap.size 75 2 (.slice oR4 k pR4) k (flatF (mkG (1 + 2 * n) gs k))) := owns_below HOR4_27.out bw (fun g hg => owns_lt HOR4_27.out hg)
              have HOQ5_28 : Hid ((w28).ownsRow w.heap.size 75 2 (.slice oQ5 n pQ5) n (flatF fs)) := owns_below HOQ5_27.out bw (fun g hg => owns_lt HOQ5_27.out hg)
              have HOR6_28 : Hid ((w28).ownsRow w.heap.size 75 2 (.slice oR6 k pR6) k (flatF gs)) := owns_below HOR6_27.out bw (fun g hg => owns_lt HOR6_27.out hg)
              have HOQ8_28 : Hid ((w28).ownsRow w.heap.size 75 2 (.slice oQ8 n pQ8) n (flatF fs)) := owns_below HOQ8_27.out bw (fun g hg => owns_lt HOQ8_27.out hg)
              have HOR9_28 : Hid ((w28).ownsRow w.heap.size 75 2 (.slice oR9 k pR9) k (flatF gs)) := owns_below HOR9_27.out bw (fun g hg => owns_lt HOR9_27.out hg)
              have HBv1_28 : Hid ((w28).heap[qv1]? = some (.cells #[.int .i64 m, .string p, .slice a n cap, .string b] 24)) := blk_below HBv1_27.out bw
              have HBv2_28 : Hid ((w28).heap[qv2]? = some (.cells #[.int .i64 st, .slice a2 k cap2, .string d] 26)) := blk_below HBv2_27.out bw
              have HBv3_28 : Hid ((w28).heap[qv3]? = some (.cells #[.string ⟨#[]⟩, .slice none 0 0, .slice none 0 0, .int .i64 0, .slice none 0 0, .string ⟨#[]⟩, .int .i64 0] 34)) := blk_below HBv3_27.out bw
              have HBv4_28 : Hid ((w28).heap[qv4]? = some (.cells #[.int .i64 m, .string p, .slice oQ3 n pQ3, .string b] 38)) := blk_below HBv4_27.out bw
              have HBv5_28 : Hid ((w28).heap[qv5]? = some (.cells #[.int .i64 st, .slice oR4 k pR4, .string d] 32)) := blk_below HBv5_27.out bw
              have HBv6_28 : Hid ((w28).heap[qv6]? = some (.cells #[.string ⟨#[]⟩, .slice none 0 0, .slice none 0 0, .int .i64 0, .slice none 0 0, .string ⟨#[]⟩, .int .i64 0] 34)) := blk_below HBv6_27.out bw
              clear hb27 HOQ3_27 HOR4_27 HOQ5_27 HOR6_27 HOQ8_27 HOR9_27 HBv1_27 HBv2_27 HBv3_27 HBv4_27 HBv5_27 HBv6_27
              have HX_28 : Hid (Below w23.heap.size w23 w28) := HX_27.out.trans (bw.mono HX_27.out.size)
              have HPA_28 : Hid (w28.heap[pa]? = some (.cells #[.string ⟨#[]⟩, .slice none 0 0, .slice none 0 0, .int .i64 0, .slice none 0 0, .string ⟨#[]⟩, .int .i64 0] 34)) := blk_below HPA_27.out bw
              refine hK.out _ _ (HSS.out _ HX_28.out) (fun _ => ?_)
              clear hK K bw HX_27
              refine wpAnyH_takeD (i := 6) (v := .tuple #[.agg #[.string ⟨#[]⟩, .slice none 0 0, .slice none 0 0, .int .i64 0, .slice none 0 0, .string ⟨#[]⟩, .int .i64 0], .bool false]) (some 98) rfl rfl (by kernel_rfl) (by kernel_rfl) (by kernel_rfl) (fun _ _ _ h => h) (Or.inl ⟨by rfl, by intro W _; go_simp⟩) (HSS.out _ HX_28.out) ?_
              simp only [Act.put, List.setIfInBounds_toArray, List.set_cons_zero, List.set_cons_succ]
              refine wpAnyH_takeD (i := 7) (v := .agg #[.string ⟨#[]⟩, .slice none 0 0, .slice none 0 0, .int .i64 0, .slice none 0 0, .string ⟨#[]⟩, .int .i64 0]) (some 105) rfl rfl (by kernel_rfl) (by kernel_rfl) (by kernel_rfl) (fun _ _ _ h => h) (Or.inl ⟨by rfl, by intro W _; go_simp⟩) (HSS.out _ HX_28.out) ?_
              simp only [Act.put, List.setIfInBounds_toArray, List.set_cons_zero, List.set_cons_succ]
              refine wpAnyH_takeD (i := 8) (v := .bool false) (some 106) rfl rfl (by kernel_rfl) (by kernel_rfl) (by kernel_rfl) (fun _ _ _ h => h) (Or.inl ⟨by rfl, by intro W _; go_simp⟩) (HSS.out _ HX_28.out) ?_
              simp only [Act.put, List.setIfInBounds_toArray, List.set_cons_zero, List.set_cons_succ]
              refine wpAnyH_ready (rs := [10]) (by kernel_rfl) (by simp) ?_
              refine AllReadyH.cons rfl (fun K hK => ?_) AllReadyH.nil
              have ce0 : w28.cell? ⟨pa, 0, none⟩ = some (.string ⟨#[]⟩) := (cell_of HPA_28.out 0).trans rfl
              have fe0 : w28.frozen? ⟨pa, 0, none⟩ = false := frozen_of HPA_28.out 0
              have ce1 : w28.cell? ⟨pa, 1, none⟩ = some (.slice none 0 0) := (cell_of HPA_28.out 1).trans rfl
              have fe1 : w28.frozen? ⟨pa, 1, none⟩ = false := frozen_of HPA_28.out 1
              have ce2 : w28.cell? ⟨pa, 2, none⟩ = some (.slice none 0 0) := (cell_of HPA_28.out 2).trans rfl
              have fe2 : w28.frozen? ⟨pa, 2, none⟩ = false := frozen_of HPA_28.out 2
              have ce3 : w28.cell? ⟨pa, 3, none⟩ = some (.int .i64 0) := (cell_of HPA_28.out 3).trans rfl
              have fe3 : w28.frozen? ⟨pa, 3, none⟩ = false := frozen_of HPA_28.out 3
              have ce4 : w28.cell? ⟨pa, 4, none⟩ = some (.slice none 0 0) := (cell_of HPA_28.out 4).trans rfl
              have fe4 : w28.frozen? ⟨pa, 4, none⟩ = false := frozen_of HPA_28.out 4
              have ce5 : w28.cell? ⟨pa, 5, none⟩ = some (.string ⟨#[]⟩) := (cell_of HPA_28.out 5).trans rfl
              have fe5 : w28.frozen? ⟨pa, 5, none⟩ = false := frozen_of HPA_28.out 5
              have ce6 : w28.cell? ⟨pa, 6, none⟩ = some (.int .i64 0) := (cell_of HPA_28.out 6).trans rfl
              have fe6 : w28.frozen? ⟨pa, 6, none⟩ = false := frozen_of HPA_28.out 6
              obtain ⟨w29, hY⟩ : ∃ Y, Y = (((((((w28.setCell ⟨pa, 0, none⟩ (.string ⟨#[]⟩)).setCell ⟨pa, 1, none⟩ (.slice none 0 0)).setCell ⟨pa, 2, none⟩ (.slice none 0 0)).setCell ⟨pa, 3, none⟩ (.int .i64 0)).setCell ⟨pa, 4, none⟩ (.slice none 0 0)).setCell ⟨pa, 5, none⟩ (.string ⟨#[]⟩)).setCell ⟨pa, 6, none⟩ (.int .i64 0)) := ⟨_, rfl⟩
              have HY : Hid ((((((((w28.setCell ⟨pa, 0, none⟩ (.string ⟨#[]⟩)).setCell ⟨pa, 1, none⟩ (.slice none 0 0)).setCell ⟨pa, 2, none⟩ (.slice none 0 0)).setCell ⟨pa, 3, none⟩ (.int .i64 0)).setCell ⟨pa, 4, none⟩ (.slice none 0 0)).setCell ⟨pa, 5, none⟩ (.string ⟨#[]⟩)).setCell ⟨pa, 6, none⟩ (.int .i64 0)) = w29) := hY.symm
              have HX_29 : Hid (Below w23.heap.size w23 w29) := by show Below _ _ _; rw [hY]; exact (((((((HX_28.out.setCell (p := ⟨pa, 0, none⟩) HGA.out _).setCell (p := ⟨pa, 1, none⟩) HGA.out _).setCell (p := ⟨pa, 2, none⟩) HGA.out _).setCell (p := ⟨pa, 3, none⟩) HGA.out _).setCell (p := ⟨pa, 4, none⟩) HGA.out _).setCell (p := ⟨pa, 5, none⟩) HGA.out _).setCell (p := ⟨pa, 6, none⟩) HGA.out _)
              have HPA_29 : Hid (w29.heap[pa]? = some (.cells #[.string ⟨#[]⟩, .slice none 0 0, .slice none 0 0, .int .i64 0, .slice none 0 0, .string ⟨#[]⟩, .int .i64 0] 34)) := by show _ = _; rw [hY]; have h := (heap_set _ pa 6 _ _ _ (.int .i64 0) (heap_set _ pa 5 _ _ _ (.string ⟨#[]⟩) (heap_set _ pa 4 _ _ _ (.slice none 0 0) (heap_set _ pa 3 _ _ _ (.int .i64 0) (heap_set _ pa 2 _ _ _ (.slice none 0 0) (heap_set _ pa 1 _ _ _ (.slice none 0 0) (heap_set _ pa 0 _ _ _ (.string ⟨#[]⟩) HPA_28.out))))))); simpa using h
              clear hY hb28 HOQ3_28 HOR4_28 HOQ5_28 HOR6_28 HOQ8_28 HOR9_28 HBv1_28 HBv2_28 HBv3_28 HBv4_28 HBv5_28 HBv6_28
              go_simp
              rw [HY.out]
              refine hK.out _ _ (HSS.out _ HX_29.out) (fun _ => ?_)
              clear hK K HY ce0 fe0 ce1 fe1 ce2 fe2 ce3 fe3 ce4 fe4 ce5 fe5 ce6 fe6
              refine wpAnyH_takeD (i := 11) (v := .bool false) (some 18) rfl rfl (by kernel_rfl) (by kernel_rfl) (by kernel_rfl) (fun _ _ _ h => h) (Or.inl ⟨by rfl, by intro W _; go_simp⟩) (HSS.out _ HX_29.out) ?_
              simp only [Act.put, List.setIfInBounds_toArray, List.set_cons_zero, List.set_cons_succ]
              refine wpAnyH_done (by kernel_rfl) ?_ _
              go_wp2_with fail
              go_meet
              exact ⟨pa, rfl, rfl, ⟨HX_29.out, HPA_29.out, HGA.out⟩⟩
          · go_simp
            have HXA : Hid (Below w23.heap.size w23 (w25.alloc (.cells #[.string ⟨#[]⟩, .slice none 0 0, .slice none 0 0, .int .i64 0, .slice none 0 0, .string ⟨#[]⟩, .int .i64 0] 34))) := HX_25.out.alloc HX_25.out.size _
            refine hK.out _ _ (HSS.out _ HXA.out) (fun _ => ?_)
            clear hK K HXA
            obtain ⟨pa, ho⟩ : ∃ o, o = w25.heap.size := ⟨_, rfl⟩
            obtain ⟨w26, hXj⟩ : ∃ X, X = w25.alloc (.cells #[.string ⟨#[]⟩, .slice none 0 0, .slice none 0 0, .int .i64 0, .slice none 0 0, .string ⟨#[]⟩, .int .i64 0] 34) := ⟨_, rfl⟩
            rw [← ho, ← hXj]
            have HGA : Hid (w23.heap.size ≤ pa) := by show _ ≤ _; rw [ho]; exact HX_25.out.size
            have bw : Below w25.heap.size w25 w26 := by rw [hXj]; exact (Below.refl _ _).alloc (Nat.le_refl _) _
            have hb26 : Below w.heap.size w (w26) := hb25.trans (bw.mono hb25.size)
            have HM26 : Hid ((w25).heap.size ≤ (w26).heap.size) := bw.size
            have HOQ3_26 : Hid ((w26).ownsRow w.heap.size 75 2 (.slice oQ3 n pQ3) n (flatF (mkG 1 fs n))) := owns_below HOQ3_25.out bw (fun g hg => owns_lt HOQ3_25.out hg)
            have HOR4_26 : Hid ((w26).ownsRow w.heap.size 75 2 (.slice oR4 k pR4) k (flatF (mkG (1 + 2 * n) gs k))) := owns_below HOR4_25.out bw (fun g hg => owns_lt HOR4_25.out hg)
            have HOQ5_26 : Hid ((w26).ownsRow w.heap.size 75 2 (.slice oQ5 n pQ5) n (flatF fs)) := owns_below HOQ5_25.out bw (fun g hg => owns_lt HOQ5_25.out hg)
            have HOR6_26 : Hid ((w26).ownsRow w.heap.size 75 2 (.slice oR6 k pR6) k (flatF gs)) := owns_below HOR6_25.out bw (fun g hg => owns_lt HOR6_25.out hg)
            have HOQ8_26 : Hid ((w26).ownsRow w.heap.size 75 2 (.slice oQ8 n pQ8) n (flatF fs)) := owns_below HOQ8_25.out bw (fun g hg => owns_lt HOQ8_25.out hg)
            have HBv1_26 : Hid ((w26).heap[qv1]? = some (.cells #[.int .i64 m, .string p, .slice a n cap, .string b] 24)) := blk_below HBv1_25.out bw
            have HBv2_26 : Hid ((w26).heap[qv2]? = some (.cells #[.int .i64 st, .slice a2 k cap2, .string d] 26)) := blk_below HBv2_25.out bw
            have HBv3_26 : Hid ((w26).heap[qv3]? = some (.cells #[.string ⟨#[]⟩, .slice none 0 0, .slice none 0 0, .int .i64 0, .slice none 0 0, .string ⟨#[]⟩, .int .i64 0] 34)) := blk_below HBv3_25.out bw
            have HBv4_26 : Hid ((w26).heap[qv4]? = some (.cells #[.int .i64 m, .string p, .slice oQ3 n pQ3, .string b] 38)) := blk_below HBv4_25.out bw
            have HBv5_26 : Hid ((w26).heap[qv5]? = some (.cells #[.int .i64 st, .slice oR4 k pR4, .string d] 32)) := blk_below HBv5_25.out bw
            have HBv6_26 : Hid ((w26).heap[qv6]? = some (.cells #[.string ⟨#[]⟩, .slice none 0 0, .slice none 0 0, .int .i64 0, .slice none 0 0, .string ⟨#[]⟩, .int .i64 0] 34)) := blk_below HBv6_25.out bw
            have HX_26 : Hid (Below w23.heap.size w23 w26) := HX_25.out.trans (bw.mono HX_25.out.size)
            have HPA_26 : Hid (w26.heap[pa]? = some (.cells #[.string ⟨#[]⟩, .slice none 0 0, .slice none 0 0, .int .i64 0, .slice none 0 0, .string ⟨#[]⟩, .int .i64 0] 34)) := by show _ = _; rw [hXj, ho]; exact heap_alloc_new _ _
            clear hb25 HOQ3_25 HOR4_25 HOQ5_25 HOR6_25 HOQ8_25 HBv1_25 HBv2_25 HBv3_25 HBv4_25 HBv5_25 HBv6_25 bw ho hXj HX_25
            refine wpAnyH_ready (rs := [3]) (by kernel_rfl) (by simp) ?_
            refine AllReadyH.cons rfl (fun K hK => ?_) AllReadyH.nil
            go_simp
            refine (toResp_any st a2 k cap2 d gs w.heap.size _ (HA2.out _ hb26) hb26.size hm2).mono ?_
            rintro e w27 ⟨vv, rfl, ownR9, bw⟩
            obtain ⟨oR9, pR9, rfl⟩ := slice_of_owns ownR9
            have hb27 : Below w.heap.size w (w27) := hb26.trans (bw.mono hb26.size)
            have HM27 : Hid ((w26).heap.size ≤ (w27).heap.size) := bw.size
            have HOQ3_27 : Hid ((w27).ownsRow w.heap.size 75 2 (.slice oQ3 n pQ3) n (flatF (mkG 1 fs n))) := owns_below HOQ3_26.out bw (fun g hg => owns_lt HOQ3_26.out hg)
            have HOR4_27 : Hid ((w27).ownsRow w.heap.size 75 2 (.slice oR4 k pR4) k (flatF (mkG (1 + 2 * n) gs k))) := owns_below HOR4_26.out bw (fun g hg => owns_lt HOR4_26.out hg)
            have HOQ5_27 : Hid ((w27).ownsRow w.heap.size 75 2 (.slice oQ5 n pQ5) n (flatF fs)) := owns_below HOQ5_26.out bw (fun g hg => owns_lt HOQ5_26.out hg)
            have HOR6_27 : Hid ((w27).ownsRow w.heap.size 75 2 (.slice oR6 k pR6) k (flatF gs)) := owns_below HOR6_26.out bw (fun g hg => owns_lt HOR6_26.out hg)
            have HOQ8_27 : Hid ((w27).ownsRow w.heap.size 75 2 (.slice oQ8 n pQ8) n (flatF fs)) := owns_below HOQ8_26.out bw (fun g hg => owns_lt HOQ8_26.out hg)
            have HBv1_27 : Hid ((w27).heap[qv1]? = some (.cells #[.int .i64 m, .string p, .slice a n cap, .string b] 24)) := blk_below HBv1_26.out bw
            have HBv2_27 : Hid ((w27).heap[qv2]? = some (.cells #[.int .i64 st, .slice a2 k cap2, .string d] 26)) := blk_below HBv2_26.out bw
            have HBv3_27 : Hid ((w27).heap[qv3]? = some (.cells #[.string ⟨#[]⟩, .slice none 0 0, .slice none 0 0, .int .i64 0, .slice none 0 0, .string ⟨#[]⟩, .int .i64 0] 34)) := blk_below HBv3_26.out bw
            have HBv4_27 : Hid ((w27).heap[qv4]? = some (.cells #[.int .i64 m, .string p, .slice oQ3 n pQ3, .string b] 38)) := blk_below HBv4_26.out bw
            have HBv5_27 : Hid ((w27).heap[qv5]? = some (.cells #[.int .i64 st, .slice oR4 k pR4, .string d] 32)) := blk_below HBv5_26.out bw
            have HBv6_27 : Hid ((w27).heap[qv6]? = some (.cells #[.string ⟨#[]⟩, .slice none 0 0, .slice none 0 0, .int .i64 0, .slice none 0 0, .string ⟨#[]⟩, .int .i64 0] 34)) := blk_below HBv6_26.out bw
            have HOR9_27 : Hid ((w27).ownsRow w.heap.size 75 2 (.slice oR9 k pR9) k (flatF gs)) := owns_wide ownR9 hb26.size
            have LOR9 : Hid (∀ g, (Value.ownBlock (.slice oR9 k pR9)) = some g → (w26).heap.size ≤ g) := fun g hg => owns_ge ownR9 hg
            have HIR9 : Hid (∀ g, (Value.ownBlock (.slice oR9 k pR9)) = some g → g < (w27).heap.size) := fun g hg => owns_lt ownR9 hg
            clear ownR9
            clear hb26 HOQ3_26 HOR4_26 HOQ5_26 HOR6_26 HOQ8_26 HBv1_26 HBv2_26 HBv3_26 HBv4_26 HBv5_26 HBv6_26
            have HX_27 : Hid (Below w23.heap.size w23 w27) := HX_26.out.trans (bw.mono HX_26.out.size)
            have HPA_27 : Hid (w27.heap[pa]? = some (.cells #[.string ⟨#[]⟩, .slice none 0 0, .slice none 0 0, .int .i64 0, .slice none 0 0, .string ⟨#[]⟩, .int .i64 0] 34)) := blk_below HPA_26.out bw
            refine hK.out _ _ (HSS.out _ HX_27.out) (fun _ => ?_)
            clear hK K bw HX_26
            refine wpAnyH_ready (rs := [5]) (by kernel_rfl) (by simp) ?_
            refine AllReadyH.cons rfl (fun K hK => ?_) AllReadyH.nil
            go_simp
            refine (HIM.out _ _ _ _ _ HOQ8_27.out HOR9_27.out).mono ?_
            rintro e w28 ⟨rfl, bw⟩
            have hb28 : Below w.heap.size w (w28) := hb27.trans (bw.mono hb27.size)
            have HM28 : Hid ((w27).heap.size ≤ (w28).heap.size) := bw.size
            have HOQ3_28 : Hid ((w28).ownsRow w.heap.size 75 2 (.slice oQ3 n pQ3) n (flatF (mkG 1 fs n))) := owns_below HOQ3_27.out bw (fun g hg => owns_lt HOQ3_27.out hg)
            have HOR4_28 : Hid ((w28).ownsRow w.heap.size 75 2 (.slice oR4 k pR4) k (flatF (mkG (1 + 2 * n) gs k))) := owns_below HOR4_27.out bw (fun g hg => owns_lt HOR4_27.out hg)
            have HOQ5_28 : Hid ((w28).ownsRow w.heap.size 75 2 (.slice oQ5 n pQ5) n (flatF fs)) := owns_below HOQ5_27.out bw (fun g hg => owns_lt HOQ5_27.out hg)
            have HOR6_28 : Hid ((w28).ownsRow w.heap.size 75 2 (.slice oR6 k pR6) k (flatF gs)) := owns_below HOR6_27.out bw (fun g hg => owns_lt HOR6_27.out hg)
            have HOQ8_28 : Hid ((w28).ownsRow w.heap.size 75 2 (.slice oQ8 n pQ8) n (flatF fs)) := owns_below HOQ8_27.out bw (fun g hg => owns_lt HOQ8_27.out hg)
            have HOR9_28 : Hid ((w28).ownsRow w.heap.size 75 2 (.slice oR9 k pR9) k (flatF gs)) := owns_below HOR9_27.out bw (fun g hg => owns_lt HOR9_27.out hg)
            have HBv1_28 : Hid ((w28).heap[qv1]? = some (.cells #[.int .i64 m, .string p, .slice a n cap, .string b] 24)) := blk_below HBv1_27.out bw
            have HBv2_28 : Hid ((w28).heap[qv2]? = some (.cells #[.int .i64 st, .slice a2 k cap2, .string d] 26)) := blk_below HBv2_27.out bw
            have HBv3_28 : Hid ((w28).heap[qv3]? = some (.cells #[.string ⟨#[]⟩, .slice none 0 0, .slice none 0 0, .int .i64 0, .slice none 0 0, .string ⟨#[]⟩, .int .i64 0] 34)) := blk_below HBv3_27.out bw
            have HBv4_28 : Hid ((w28).heap[qv4]? = some (.cells #[.int .i64 m, .string p, .slice oQ3 n pQ3, .string b] 38)) := blk_below HBv4_27.out bw
            have HBv5_28 : Hid ((w28).heap[qv5]? = some (.cells #[.int .i64 st, .slice oR4 k pR4, .string d] 32)) := blk_below HBv5_27.out bw
            have HBv6_28 : Hid ((w28).heap[qv6]? = some (.cells #[.string ⟨#[]⟩, .slice none 0 0, .slice none 0 0, .int .i64 0, .slice none 0 0, .string ⟨#[]⟩, .int .i64 0] 34)) := blk_below HBv6_27.out bw
            clear hb27 HOQ3_27 HOR4_27 HOQ5_27 HOR6_27 HOQ8_27 HOR9_27 HBv1_27 HBv2_27 HBv3_27 HBv4_27 HBv5_27 HBv6_27
            have HX_28 : Hid (Below w23.heap.size w23 w28) := HX_27.out.trans (bw.mono HX_27.out.size)
            have HPA_28 : Hid (w28.heap[pa]? = some (.cells #[.string ⟨#[]⟩, .slice none 0 0, .slice none 0 0, .int .i64 0, .slice none 0 0, .string ⟨#[]⟩, .int .i64 0] 34)) := blk_below HPA_27.out bw
            refine hK.out _ _ (HSS.out _ HX_28.out) (fun _ => ?_)
            clear hK K bw HX_27
            refine wpAnyH_takeD (i := 6) (v := .tuple #[.agg #[.string ⟨#[]⟩, .slice none 0 0, .slice none 0 0, .int .i64 0, .slice none 0 0, .string ⟨#[]⟩, .int .i64 0], .bool false]) (some 98) rfl rfl (by kernel_rfl) (by kernel_rfl) (by kernel_rfl) (fun _ _ _ h => h) (Or.inl ⟨by rfl, by intro W _; go_simp⟩) (HSS.out _ HX_28.out) ?_
            simp only [Act.put, List.setIfInBounds_toArray, List.set_cons_zero, List.set_cons_succ]
            refine wpAnyH_takeD (i := 7) (v := .agg #[.string ⟨#[]⟩, .slice none 0 0, .slice none 0 0, .int .i64 0, .slice none 0 0, .string ⟨#[]⟩, .int .i64 0]) (some 105) rfl rfl (by kernel_rfl) (by kernel_rfl) (by kernel_rfl) (fun _ _ _ h => h) (Or.inl ⟨by rfl, by intro W _; go_simp⟩) (HSS.out _ HX_28.out) ?_
            simp only [Act.put, List.setIfInBounds_toArray, List.set_cons_zero, List.set_cons_succ]
            refine wpAnyH_takeD (i := 8) (v := .bool false) (some 106) rfl rfl (by kernel_rfl) (by kernel_rfl) (by kernel_rfl) (fun _ _ _ h => h) (Or.inl ⟨by rfl, by intro W _; go_simp⟩) (HSS.out _ HX_28.out) ?_
            simp only [Act.put, List.setIfInBounds_toArray, List.set_cons_zero, List.set_cons_succ]
            refine wpAnyH_ready (rs := [10]) (by kernel_rfl) (by simp) ?_
            refine AllReadyH.cons rfl (fun K hK => ?_) AllReadyH.nil
            have ce0 : w28.cell? ⟨pa, 0, none⟩ = some (.string ⟨#[]⟩) := (cell_of HPA_28.out 0).trans rfl
            have fe0 : w28.frozen? ⟨pa, 0, none⟩ = false := frozen_of HPA_28.out 0
            have ce1 : w28.cell? ⟨pa, 1, none⟩ = some (.slice none 0 0) := (cell_of HPA_28.out 1).trans rfl
            have fe1 : w28.frozen? ⟨pa, 1, none⟩ = false := frozen_of HPA_28.out 1
            have ce2 : w28.cell? ⟨pa, 2, none⟩ = some (.slice none 0 0) := (cell_of HPA_28.out 2).trans rfl
            have fe2 : w28.frozen? ⟨pa, 2, none⟩ = false := frozen_of HPA_28.out 2
            have ce3 : w28.cell? ⟨pa, 3, none⟩ = some (.int .i64 0) := (cell_of HPA_28.out 3).trans rfl
            have fe3 : w28.frozen? ⟨pa, 3, none⟩ = false := frozen_of HPA_28.out 3
            have ce4 : w28.cell? ⟨pa, 4, none⟩ = some (.slice none 0 0) := (cell_of HPA_28.out 4).trans rfl
            have fe4 : w28.frozen? ⟨pa, 4, none⟩ = false := frozen_of HPA_28.out 4
            have ce5 : w28.cell? ⟨pa, 5, none⟩ = some (.string ⟨#[]⟩) := (cell_of HPA_28.out 5).trans rfl
            have fe5 : w28.frozen? ⟨pa, 5, none⟩ = false := frozen_of HPA_28.out 5
            have ce6 : w28.cell? ⟨pa, 6, none⟩ = some (.int .i64 0) := (cell_of HPA_28.out 6).trans rfl
            have fe6 : w28.frozen? ⟨pa, 6, none⟩ = false := frozen_of HPA_28.out 6
            obtain ⟨w29, hY⟩ : ∃ Y, Y = (((((((w28.setCell ⟨pa, 0, none⟩ (.string ⟨#[]⟩)).setCell ⟨pa, 1, none⟩ (.slice none 0 0)).setCell ⟨pa, 2, none⟩ (.slice none 0 0)).setCell ⟨pa, 3, none⟩ (.int .i64 0)).setCell ⟨pa, 4, none⟩ (.slice none 0 0)).setCell ⟨pa, 5, none⟩ (.string ⟨#[]⟩)).setCell ⟨pa, 6, none⟩ (.int .i64 0)) := ⟨_, rfl⟩
            have HY : Hid ((((((((w28.setCell ⟨pa, 0, none⟩ (.string ⟨#[]⟩)).setCell ⟨pa, 1, none⟩ (.slice none 0 0)).setCell ⟨pa, 2, none⟩ (.slice none 0 0)).setCell ⟨pa, 3, none⟩ (.int .i64 0)).setCell ⟨pa, 4, none⟩ (.slice none 0 0)).setCell ⟨pa, 5, none⟩ (.string ⟨#[]⟩)).setCell ⟨pa, 6, none⟩ (.int .i64 0)) = w29) := hY.symm
            have HX_29 : Hid (Below w23.heap.size w23 w29) := by show Below _ _ _; rw [hY]; exact (((((((HX_28.out.setCell (p := ⟨pa, 0, none⟩) HGA.out _).setCell (p := ⟨pa, 1, none⟩) HGA.out _).setCell (p := ⟨pa, 2, none⟩) HGA.out _).setCell (p := ⟨pa, 3, none⟩) HGA.out _).setCell (p := ⟨pa, 4, none⟩) HGA.out _).setCell (p := ⟨pa, 5, none⟩) HGA.out _).setCell (p := ⟨pa, 6, none⟩) HGA.out _)
            have HPA_29 : Hid (w29.heap[pa]? = some (.cells #[.string ⟨#[]⟩, .slice none 0 0, .slice none 0 0, .int .i64 0, .slice none 0 0, .string ⟨#[]⟩, .int .i64 0] 34)) := by show _ = _; rw [hY]; have h := (heap_set _ pa 6 _ _ _ (.int .i64 0) (heap_set _ pa 5 _ _ _ (.string ⟨#[]⟩) (heap_set _ pa 4 _ _ _ (.slice none 0 0) (heap_set _ pa 3 _ _ _ (.int .i64 0) (heap_set _ pa 2 _ _ _ (.slice none 0 0) (heap_set _ pa 1 _ _ _ (.slice none 0 0) (heap_set _ pa 0 _ _ _ (.string ⟨#[]⟩) HPA_28.out))))))); simpa using h
            clear hY hb28 HOQ3_28 HOR4_28 HOQ5_28 HOR6_28 HOQ8_28 HOR9_28 HBv1_28 HBv2_28 HBv3_28 HBv4_28 HBv5_28 HBv6_28
            go_simp
            rw [HY.out]
            refine hK.out _ _ (HSS.out _ HX_29.out) (fun _ => ?_)
            clear hK K HY ce0 fe0 ce1 fe1 ce2 fe2 ce3 fe3 ce4 fe4 ce5 fe5 ce6 fe6
            refine wpAnyH_takeD (i := 11) (v := .bool false) (some 18) rfl rfl (by kernel_rfl) (by kernel_rfl) (by kernel_rfl) (fun _ _ _ h => h) (Or.inl ⟨by rfl, by intro W _; go_simp⟩) (HSS.out _ HX_29.out) ?_
            simp only [Act.put, List.setIfInBounds_toArray, List.set_cons_zero, List.set_cons_succ]
            refine wpAnyH_done (by kernel_rfl) ?_ _
            go_wp2_with fail
            go_meet
            exact ⟨pa, rfl, rfl, ⟨HX_29.out, HPA_29.out, HGA.out⟩⟩
        · go_simp
          have HXA : Hid (Below w23.heap.size w23 (w24.alloc (.cells #[.string ⟨#[]⟩, .slice none 0 0, .slice none 0 0, .int .i64 0, .slice none 0 0, .string ⟨#[]⟩, .int .i64 0] 34))) := HX_24.out.alloc HX_24.out.size _
          refine hK.out _ _ (HSS.out _ HXA.out) (fun _ => ?_)
          clear hK K HXA
          obtain ⟨pa, ho⟩ : ∃ o, o = w24.heap.size := ⟨_, rfl⟩
          obtain ⟨w25, hXj⟩ : ∃ X, X = w24.alloc (.cells #[.string ⟨#[]⟩, .slice none 0 0, .slice none 0 0, .int .i64 0, .slice none 0 0, .string ⟨#[]⟩, .int .i64 0] 34) := ⟨_, rfl⟩
          rw [← ho, ← hXj]
          have HGA : Hid (w23.heap.size ≤ pa) := by show _ ≤ _; rw [ho]; exact HX_24.out.size
          have bw : Below w24.heap.size w24 w25 := by rw [hXj]; exact (Below.refl _ _).alloc (Nat.le_refl _) _
          have hb25 : Below w.heap.size w (w25) := hb24.trans (bw.mono hb24.size)
          have HM25 : Hid ((w24).heap.size ≤ (w25).heap.size) := bw.size
          have HOQ3_25 : Hid ((w25).ownsRow w.heap.size 75 2 (.slice oQ3 n pQ3) n (flatF (mkG 1 fs n))) := owns_below HOQ3_24.out bw (fun g hg => owns_lt HOQ3_24.out hg)
          have HOR4_25 : Hid ((w25).ownsRow w.heap.size 75 2 (.slice oR4 k pR4) k (flatF (mkG (1 + 2 * n) gs k))) := owns_below HOR4_24.out bw (fun g hg => owns_lt HOR4_24.out hg)
          have HOQ5_25 : Hid ((w25).ownsRow w.heap.size 75 2 (.slice oQ5 n pQ5) n (flatF fs)) := owns_below HOQ5_24.out bw (fun g hg => owns_lt HOQ5_24.out hg)
          have HOR6_25 : Hid ((w25).ownsRow w.heap.size 75 2 (.slice oR6 k pR6) k (flatF gs)) := owns_below HOR6_24.out bw (fun g hg => owns_lt HOR6_24.out hg)
          have HBv1_25 : Hid ((w25).heap[qv1]? = some (.cells #[.int .i64 m, .string p, .slice a n cap, .string b] 24)) := blk_below HBv1_24.out bw
          have HBv2_25 : Hid ((w25).heap[qv2]? = some (.cells #[.int .i64 st, .slice a2 k cap2, .string d] 26)) := blk_below HBv2_24.out bw
          have HBv3_25 : Hid ((w25).heap[qv3]? = some (.cells #[.string ⟨#[]⟩, .slice none 0 0, .slice none 0 0, .int .i64 0, .slice none 0 0, .string ⟨#[]⟩, .int .i64 0] 34)) := blk_below HBv3_24.out bw
          have HBv4_25 : Hid ((w25).heap[qv4]? = some (.cells #[.int .i64 m, .string p, .slice oQ3 n pQ3, .string b] 38)) := blk_below HBv4_24.out bw
          have HBv5_25 : Hid ((w25).heap[qv5]? = some (.cells #[.int .i64 st, .slice oR4 k pR4, .string d] 32)) := blk_below HBv5_24.out bw
          have HBv6_25 : Hid ((w25).heap[qv6]? = some (.cells #[.string ⟨#[]⟩, .slice none 0 0, .slice none 0 0, .int .i64 0, .slice none 0 0, .string ⟨#[]⟩, .int .i64 0] 34)) := blk_below HBv6_24.out bw
          have HX_25 : Hid (Below w23.heap.size w23 w25) := HX_24.out.trans (bw.mono HX_24.out.size)
          have HPA_25 : Hid (w25.heap[pa]? = some (.cells #[.string ⟨#[]⟩, .slice none 0 0, .slice none 0 0, .int .i64 0, .slice none 0 0, .string ⟨#[]⟩, .int .i64 0] 34)) := by show _ = _; rw [hXj, ho]; exact heap_alloc_new _ _
          clear hb24 HOQ3_24 HOR4_24 HOQ5_24 HOR6_24 HBv1_24 HBv2_24 HBv3_24 HBv4_24 HBv5_24 HBv6_24 bw ho hXj HX_24
          refine wpAnyH_ready (rs := [1]) (by kernel_rfl) (by simp) ?_
          refine AllReadyH.cons rfl (fun K hK => ?_) AllReadyH.nil
          go_simp
          refine (toReq_any m p a n cap b fs w.heap.size _ (HA1.out _ hb25) hb25.size hm1).mono ?_
          rintro e w26 ⟨vv, rfl, ownQ8, bw⟩
          obtain ⟨oQ8, pQ8, rfl⟩ := slice_of_owns ownQ8
          have hb26 : Below w.heap.size w (w26) := hb25.trans (bw.mono hb25.size)
          have HM26 : Hid ((w25).heap.size ≤ (w26).heap.size) := bw.size
          have HOQ3_26 : Hid ((w26).ownsRow w.heap.size 75 2 (.slice oQ3 n pQ3) n (flatF (mkG 1 fs n))) := owns_below HOQ3_25.out bw (fun g hg => owns_lt HOQ3_25.out hg)
          have HOR4_26 : Hid ((w26).ownsRow w.heap.size 75 2 (.slice oR4 k pR4) k (flatF (mkG (1 + 2 * n) gs k))) := owns_below HOR4_25.out bw (fun g hg => owns_lt HOR4_25.out hg)
          have HOQ5_26 : Hid ((w26).ownsRow w.heap.size 75 2 (.slice oQ5 n pQ5) n (flatF fs)) := owns_below HOQ5_25.out bw (fun g hg => owns_lt HOQ5_25.out hg)
          have HOR6_26 : Hid ((w26).ownsRow w.heap.size 75 2 (.slice oR6 k pR6) k (flatF gs)) := owns_below HOR6_25.out bw (fun g hg => owns_lt HOR6_25.out hg)
          have HBv1_26 : Hid ((w26).heap[qv1]? = some (.cells #[.int .i64 m, .string p, .slice a n cap, .string b] 24)) := blk_below HBv1_25.out bw
          have HBv2_26 : Hid ((w26).heap[qv2]? = some (.cells #[.int .i64 st, .slice a2 k cap2, .string d] 26)) := blk_below HBv2_25.out bw
          have HBv3_26 : Hid ((w26).heap[qv3]? = some (.cells #[.string ⟨#[]⟩, .slice none 0 0, .slice none 0 0, .int .i64 0, .slice none 0 0, .string ⟨#[]⟩, .int .i64 0] 34)) := blk_below HBv3_25.out bw
          have HBv4_26 : Hid ((w26).heap[qv4]? = some (.cells #[.int .i64 m, .string p, .slice oQ3 n pQ3, .string b] 38)) := blk_below HBv4_25.out bw
          have HBv5_26 : Hid ((w26).heap[qv5]? = some (.cells #[.int .i64 st, .slice oR4 k pR4, .string d] 32)) := blk_below HBv5_25.out bw
          have HBv6_26 : Hid ((w26).heap[qv6]? = some (.cells #[.string ⟨#[]⟩, .slice none 0 0, .slice none 0 0, .int .i64 0, .slice none 0 0, .string ⟨#[]⟩, .int .i64 0] 34)) := blk_below HBv6_25.out bw
          have HOQ8_26 : Hid ((w26).ownsRow w.heap.size 75 2 (.slice oQ8 n pQ8) n (flatF fs)) := owns_wide ownQ8 hb25.size
          have LOQ8 : Hid (∀ g, (Value.ownBlock (.slice oQ8 n pQ8)) = some g → (w25).heap.size ≤ g) := fun g hg => owns_ge ownQ8 hg
          have HIQ8 : Hid (∀ g, (Value.ownBlock (.slice oQ8 n pQ8)) = some g → g < (w26).heap.size) := fun g hg => owns_lt ownQ8 hg
          clear ownQ8
          clear hb25 HOQ3_25 HOR4_25 HOQ5_25 HOR6_25 HBv1_25 HBv2_25 HBv3_25 HBv4_25 HBv5_25 HBv6_25
          have HX_26 : Hid (Below w23.heap.size w23 w26) := HX_25.out.trans (bw.mono HX_25.out.size)
          have HPA_26 : Hid (w26.heap[pa]? = some (.cells #[.string ⟨#[]⟩, .slice none 0 0, .slice none 0 0, .int .i64 0, .slice none 0 0, .string ⟨#[]⟩, .int .i64 0] 34)) := blk_below HPA_25.out bw
          refine hK.out _ _ (HSS.out _ HX_26.out) (fun _ => ?_)
          clear hK K bw HX_25
          refine wpAnyH_ready (rs := [3]) (by kernel_rfl) (by simp) ?_
          refine AllReadyH.cons rfl (fun K hK => ?_) AllReadyH.nil
          go_simp
          refine (toResp_any st a2 k cap2 d gs w.heap.size _ (HA2.out _ hb26) hb26.size hm2).mono ?_
          rintro e w27 ⟨vv, rfl, ownR9, bw⟩
          obtain ⟨oR9, pR9, rfl⟩ := slice_of_owns ownR9
          have hb27 : Below w.heap.size w (w27) := hb26.trans (bw.mono hb26.size)
          have HM27 : Hid ((w26).heap.size ≤ (w27).heap.size) := bw.size
          have HOQ3_27 : Hid ((w27).ownsRow w.heap.size 75 2 (.slice oQ3 n pQ3) n (flatF (mkG 1 fs n))) := owns_below HOQ3_26.out bw (fun g hg => owns_lt HOQ3_26.out hg)
          have HOR4_27 : Hid ((w27).ownsRow w.heap.size 75 2 (.slice oR4 k pR4) k (flatF (mkG (1 + 2 * n) gs k))) := owns_below HOR4_26.out bw (fun g hg => owns_lt HOR4_26.out hg)
          have HOQ5_27 : Hid ((w27).ownsRow w.heap.size 75 2 (.slice oQ5 n pQ5) n (flatF fs)) := owns_below HOQ5_26.out bw (fun g hg => owns_lt HOQ5_26.out hg)
          have HOR6_27 : Hid ((w27).ownsRow w.heap.size 75 2 (.slice oR6 k pR6) k (flatF gs)) := owns_below HOR6_26.out bw (fun g hg => owns_lt HOR6_26.out hg)
          have HOQ8_27 : Hid ((w27).ownsRow w.heap.size 75 2 (.slice oQ8 n pQ8) n (flatF fs)) := owns_below HOQ8_26.out bw (fun g hg => owns_lt HOQ8_26.out hg)
          have HBv1_27 : Hid ((w27).heap[qv1]? = some (.cells #[.int .i64 m, .string p, .slice a n cap, .string b] 24)) := blk_below HBv1_26.out bw
          have HBv2_27 : Hid ((w27).heap[qv2]? = some (.cells #[.int .i64 st, .slice a2 k cap2, .string d] 26)) := blk_below HBv2_26.out bw
          have HBv3_27 : Hid ((w27).heap[qv3]? = some (.cells #[.string ⟨#[]⟩, .slice none 0 0, .slice none 0 0, .int .i64 0, .slice none 0 0, .string ⟨#[]⟩, .int .i64 0] 34)) := blk_below HBv3_26.out bw
          have HBv4_27 : Hid ((w27).heap[qv4]? = some (.cells #[.int .i64 m, .string p, .slice oQ3 n pQ3, .string b] 38)) := blk_below HBv4_26.out bw
          have HBv5_27 : Hid ((w27).heap[qv5]? = some (.cells #[.int .i64 st, .slice oR4 k pR4, .string d] 32)) := blk_below HBv5_26.out bw
          have HBv6_27 : Hid ((w27).heap[qv6]? = some (.cells #[.string ⟨#[]⟩, .slice none 0 0, .slice none 0 0, .int .i64 0, .slice none 0 0, .string ⟨#[]⟩, .int .i64 0] 34)) := blk_below HBv6_26.out bw
          have HOR9_27 : Hid ((w27).ownsRow w.heap.size 75 2 (.slice oR9 k pR9) k (flatF gs)) := owns_wide ownR9 hb26.size
          have LOR9 : Hid (∀ g, (Value.ownBlock (.slice oR9 k pR9)) = some g → (w26).heap.size ≤ g) := fun g hg => owns_ge ownR9 hg
          have HIR9 : Hid (∀ g, (Value.ownBlock (.slice oR9 k pR9)) = some g → g < (w27).heap.size) := fun g hg => owns_lt ownR9 hg
          clear ownR9
          clear hb26 HOQ3_26 HOR4_26 HOQ5_26 HOR6_26 HOQ8_26 HBv1_26 HBv2_26 HBv3_26 HBv4_26 HBv5_26 HBv6_26
          have HX_27 : Hid (Below w23.heap.size w23 w27) := HX_26.out.trans (bw.mono HX_26.out.size)
          have HPA_27 : Hid (w27.heap[pa]? = some (.cells #[.string ⟨#[]⟩, .slice none 0 0, .slice none 0 0, .int .i64 0, .slice none 0 0, .string ⟨#[]⟩, .int .i64 0] 34)) := blk_below HPA_26.out bw
          refine hK.out _ _ (HSS.out _ HX_27.out) (fun _ => ?_)
          clear hK K bw HX_26
          refine wpAnyH_ready (rs := [5]) (by kernel_rfl) (by simp) ?_
          refine AllReadyH.cons rfl (fun K hK => ?_) AllReadyH.nil
          go_simp
          refine (HIM.out _ _ _ _ _ HOQ8_27.out HOR9_27.out).mono ?_
          rintro e w28 ⟨rfl, bw⟩
          have hb28 : Below w.heap.size w (w28) := hb27.trans (bw.mono hb27.size)
          have HM28 : Hid ((w27).heap.size ≤ (w28).heap.size) := bw.size
          have HOQ3_28 : Hid ((w28).ownsRow w.heap.size 75 2 (.slice oQ3 n pQ3) n (flatF (mkG 1 fs n))) := owns_below HOQ3_27.out bw (fun g hg => owns_lt HOQ3_27.out hg)
          have HOR4_28 : Hid ((w28).ownsRow w.heap.size 75 2 (.slice oR4 k pR4) k (flatF (mkG (1 + 2 * n) gs k))) := owns_below HOR4_27.out bw (fun g hg => owns_lt HOR4_27.out hg)
          have HOQ5_28 : Hid ((w28).ownsRow w.heap.size 75 2 (.slice oQ5 n pQ5) n (flatF fs)) := owns_below HOQ5_27.out bw (fun g hg => owns_lt HOQ5_27.out hg)
          have HOR6_28 : Hid ((w28).ownsRow w.heap.size 75 2 (.slice oR6 k pR6) k (flatF gs)) := owns_below HOR6_27.out bw (fun g hg => owns_lt HOR6_27.out hg)
          have HOQ8_28 : Hid ((w28).ownsRow w.heap.size 75 2 (.slice oQ8 n pQ8) n (flatF fs)) := owns_below HOQ8_27.out bw (fun g hg => owns_lt HOQ8_27.out hg)
          have HOR9_28 : Hid ((w28).ownsRow w.heap.size 75 2 (.slice oR9 k pR9) k (flatF gs)) := owns_below HOR9_27.out bw (fun g hg => owns_lt HOR9_27.out hg)
          have HBv1_28 : Hid ((w28).heap[qv1]? = some (.cells #[.int .i64 m, .string p, .slice a n cap, .string b] 24)) := blk_below HBv1_27.out bw
          have HBv2_28 : Hid ((w28).heap[qv2]? = some (.cells #[.int .i64 st, .slice a2 k cap2, .string d] 26)) := blk_below HBv2_27.out bw
          have HBv3_28 : Hid ((w28).heap[qv3]? = some (.cells #[.string ⟨#[]⟩, .slice none 0 0, .slice none 0 0, .int .i64 0, .slice none 0 0, .string ⟨#[]⟩, .int .i64 0] 34)) := blk_below HBv3_27.out bw
          have HBv4_28 : Hid ((w28).heap[qv4]? = some (.cells #[.int .i64 m, .string p, .slice oQ3 n pQ3, .string b] 38)) := blk_below HBv4_27.out bw
          have HBv5_28 : Hid ((w28).heap[qv5]? = some (.cells #[.int .i64 st, .slice oR4 k pR4, .string d] 32)) := blk_below HBv5_27.out bw
          have HBv6_28 : Hid ((w28).heap[qv6]? = some (.cells #[.string ⟨#[]⟩, .slice none 0 0, .slice none 0 0, .int .i64 0, .slice none 0 0, .string ⟨#[]⟩, .int .i64 0] 34)) := blk_below HBv6_27.out bw
          clear hb27 HOQ3_27 HOR4_27 HOQ5_27 HOR6_27 HOQ8_27 HOR9_27 HBv1_27 HBv2_27 HBv3_27 HBv4_27 HBv5_27 HBv6_27
          have HX_28 : Hid (Below w23.heap.size w23 w28) := HX_27.out.trans (bw.mono HX_27.out.size)
          have HPA_28 : Hid (w28.heap[pa]? = some (.cells #[.string ⟨#[]⟩, .slice none 0 0, .slice none 0 0, .int .i64 0, .slice none 0 0, .string ⟨#[]⟩, .int .i64 0] 34)) := blk_below HPA_27.out bw
          refine hK.out _ _ (HSS.out _ HX_28.out) (fun _ => ?_)
          clear hK K bw HX_27
          refine wpAnyH_takeD (i := 6) (v := .tuple #[.agg #[.string ⟨#[]⟩, .slice none 0 0, .slice none 0 0, .int .i64 0, .slice none 0 0, .string ⟨#[]⟩, .int .i64 0], .bool false]) (some 98) rfl rfl (by kernel_rfl) (by kernel_rfl) (by kernel_rfl) (fun _ _ _ h => h) (Or.inl ⟨by rfl, by intro W _; go_simp⟩) (HSS.out _ HX_28.out) ?_
          simp only [Act.put, List.setIfInBounds_toArray, List.set_cons_zero, List.set_cons_succ]
          refine wpAnyH_takeD (i := 7) (v := .agg #[.string ⟨#[]⟩, .slice none 0 0, .slice none 0 0, .int .i64 0, .slice none 0 0, .string ⟨#[]⟩, .int .i64 0]) (some 105) rfl rfl (by kernel_rfl) (by kernel_rfl) (by kernel_rfl) (fun _ _ _ h => h) (Or.inl ⟨by rfl, by intro W _; go_simp⟩) (HSS.out _ HX_28.out) ?_
          simp only [Act.put, List.setIfInBounds_toArray, List.set_cons_zero, List.set_cons_succ]
          refine wpAnyH_takeD (i := 8) (v := .bool false) (some 106) rfl rfl (by kernel_rfl) (by kernel_rfl) (by kernel_rfl) (fun _ _ _ h => h) (Or.inl ⟨by rfl, by intro W _; go_simp⟩) (HSS.out _ HX_28.out) ?_
          simp only [Act.put, List.setIfInBounds_toArray, List.set_cons_zero, List.set_cons_succ]
          refine wpAnyH_ready (rs := [10]) (by kernel_rfl) (by simp) ?_
          refine AllReadyH.cons rfl (fun K hK => ?_) AllReadyH.nil
          have ce0 : w28.cell? ⟨pa, 0, none⟩ = some (.string ⟨#[]⟩) := (cell_of HPA_28.out 0).trans rfl
          have fe0 : w28.frozen? ⟨pa, 0, none⟩ = false := frozen_of HPA_28.out 0
          have ce1 : w28.cell? ⟨pa, 1, none⟩ = some (.slice none 0 0) := (cell_of HPA_28.out 1).trans rfl
          have fe1 : w28.frozen? ⟨pa, 1, none⟩ = false := frozen_of HPA_28.out 1
          have ce2 : w28.cell? ⟨pa, 2, none⟩ = some (.slice none 0 0) := (cell_of HPA_28.out 2).trans rfl
          have fe2 : w28.frozen? ⟨pa, 2, none⟩ = false := frozen_of HPA_28.out 2
          have ce3 : w28.cell? ⟨pa, 3, none⟩ = some (.int .i64 0) := (cell_of HPA_28.out 3).trans rfl
          have fe3 : w28.frozen? ⟨pa, 3, none⟩ = false := frozen_of HPA_28.out 3
          have ce4 : w28.cell? ⟨pa, 4, none⟩ = some (.slice none 0 0) := (cell_of HPA_28.out 4).trans rfl
          have fe4 : w28.frozen? ⟨pa, 4, none⟩ = false := frozen_of HPA_28.out 4
          have ce5 : w28.cell? ⟨pa, 5, none⟩ = some (.string ⟨#[]⟩) := (cell_of HPA_28.out 5).trans rfl
          have fe5 : w28.frozen? ⟨pa, 5, none⟩ = false := frozen_of HPA_28.out 5
          have ce6 : w28.cell? ⟨pa, 6, none⟩ = some (.int .i64 0) := (cell_of HPA_28.out 6).trans rfl
          have fe6 : w28.frozen? ⟨pa, 6, none⟩ = false := frozen_of HPA_28.out 6
          obtain ⟨w29, hY⟩ : ∃ Y, Y = (((((((w28.setCell ⟨pa, 0, none⟩ (.string ⟨#[]⟩)).setCell ⟨pa, 1, none⟩ (.slice none 0 0)).setCell ⟨pa, 2, none⟩ (.slice none 0 0)).setCell ⟨pa, 3, none⟩ (.int .i64 0)).setCell ⟨pa, 4, none⟩ (.slice none 0 0)).setCell ⟨pa, 5, none⟩ (.string ⟨#[]⟩)).setCell ⟨pa, 6, none⟩ (.int .i64 0)) := ⟨_, rfl⟩
          have HY : Hid ((((((((w28.setCell ⟨pa, 0, none⟩ (.string ⟨#[]⟩)).setCell ⟨pa, 1, none⟩ (.slice none 0 0)).setCell ⟨pa, 2, none⟩ (.slice none 0 0)).setCell ⟨pa, 3, none⟩ (.int .i64 0)).setCell ⟨pa, 4, none⟩ (.slice none 0 0)).setCell ⟨pa, 5, none⟩ (.string ⟨#[]⟩)).setCell ⟨pa, 6, none⟩ (.int .i64 0)) = w29) := hY.symm
          have HX_29 : Hid (Below w23.heap.size w23 w29) := by show Below _ _ _; rw [hY]; exact (((((((HX_28.out.setCell (p := ⟨pa, 0, none⟩) HGA.out _).setCell (p := ⟨pa, 1, none⟩) HGA.out _).setCell (p := ⟨pa, 2, none⟩) HGA.out _).setCell (p := ⟨pa, 3, none⟩) HGA.out _).setCell (p := ⟨pa, 4, none⟩) HGA.out _).setCell (p := ⟨pa, 5, none⟩) HGA.out _).setCell (p := ⟨pa, 6, none⟩) HGA.out _)
          have HPA_29 : Hid (w29.heap[pa]? = some (.cells #[.string ⟨#[]⟩, .slice none 0 0, .slice none 0 0, .int .i64 0, .slice none 0 0, .string ⟨#[]⟩, .int .i64 0] 34)) := by show _ = _; rw [hY]; have h := (heap_set _ pa 6 _ _ _ (.int .i64 0) (heap_set _ pa 5 _ _ _ (.string ⟨#[]⟩) (heap_set _ pa 4 _ _ _ (.slice none 0 0) (heap_set _ pa 3 _ _ _ (.int .i64 0) (heap_set _ pa 2 _ _ _ (.slice none 0 0) (heap_set _ pa 1 _ _ _ (.slice none 0 0) (heap_set _ pa 0 _ _ _ (.string ⟨#[]⟩) HPA_28.out))))))); simpa using h
          clear hY hb28 HOQ3_28 HOR4_28 HOQ5_28 HOR6_28 HOQ8_28 HOR9_28 HBv1_28 HBv2_28 HBv3_28 HBv4_28 HBv5_28 HBv6_28
          go_simp
          rw [HY.out]
          refine hK.out _ _ (HSS.out _ HX_29.out) (fun _ => ?_)
          clear hK K HY ce0 fe0 ce1 fe1 ce2 fe2 ce3 fe3 ce4 fe4 ce5 fe5 ce6 fe6
          refine wpAnyH_takeD (i := 11) (v := .bool false) (some 18) rfl rfl (by kernel_rfl) (by kernel_rfl) (by kernel_rfl) (fun _ _ _ h => h) (Or.inl ⟨by rfl, by intro W _; go_simp⟩) (HSS.out _ HX_29.out) ?_
          simp only [Act.put, List.setIfInBounds_toArray, List.set_cons_zero, List.set_cons_succ]
          refine wpAnyH_done (by kernel_rfl) ?_ _
          go_wp2_with fail
          go_meet
          exact ⟨pa, rfl, rfl, ⟨HX_29.out, HPA_29.out, HGA.out⟩⟩
      case rest =>
      obtain ⟨qv7, hsx, hsx18, HF⟩ := hcut
      rw [hsx, hsx18]
      obtain ⟨w24, hwj⟩ : ∃ W, W = wc := ⟨_, rfl⟩
      rw [← hwj] at HF ⊢
      clear hsx hsx18 hwj HSS
      obtain ⟨bw, hcell, hga⟩ := HF.out
      have HNv1v7 : Hid (qv1 ≠ qv7) := fun e => by have h1 := (Array.getElem?_eq_some_iff.1 HBv1_23.out).1; omega
      have HNv2v7 : Hid (qv2 ≠ qv7) := fun e => by have h1 := (Array.getElem?_eq_some_iff.1 HBv2_23.out).1; omega
      have HNv3v7 : Hid (qv3 ≠ qv7) := fun e => by have h1 := (Array.getElem?_eq_some_iff.1 HBv3_23.out).1; omega
      have HNv4v7 : Hid (qv4 ≠ qv7) := fun e => by have h1 := (Array.getElem?_eq_some_iff.1 HBv4_23.out).1; omega
      have HNv5v7 : Hid (qv5 ≠ qv7) := fun e => by have h1 := (Array.getElem?_eq_some_iff.1 HBv5_23.out).1; omega
      have HNv6v7 : Hid (qv6 ≠ qv7) := fun e => by have h1 := (Array.getElem?_eq_some_iff.1 HBv6_23.out).1; omega
      have hb24 : Below w.heap.size w (w24) := hb23.trans (bw.mono hb23.size)
      have HM24 : Hid ((w23).heap.size ≤ (w24).heap.size) := bw.size
      have HOQ3_24 : Hid ((w24).ownsRow w.heap.size 75 2 (.slice oQ3 n pQ3) n (flatF (mkG 1 fs n))) := owns_below HOQ3_23.out bw (fun g hg => owns_lt HOQ3_23.out hg)
      have HOR4_24 : Hid ((w24).ownsRow w.heap.size 75 2 (.slice oR4 k pR4) k (flatF (mkG (1 + 2 * n) gs k))) := owns_below HOR4_23.out bw (fun g hg => owns_lt HOR4_23.out hg)
      have HOQ5_24 : Hid ((w24).ownsRow w.heap.size 75 2 (.slice oQ5 n pQ5) n (flatF fs)) := owns_below HOQ5_23.out bw (fun g hg => owns_lt HOQ5_23.out hg)
      have HOR6_24 : Hid ((w24).ownsRow w.heap.size 75 2 (.slice oR6 k pR6) k (flatF gs)) := owns_below HOR6_23.out bw (fun g hg => owns_lt HOR6_23.out hg)
      have HBv1_24 : Hid ((w24).heap[qv1]? = some (.cells #[.int .i64 m, .string p, .slice a n cap, .string b] 24)) := blk_below HBv1_23.out bw
      have HBv2_24 : Hid ((w24).heap[qv2]? = some (.cells #[.int .i64 st, .slice a2 k cap2, .string d] 26)) := blk_below HBv2_23.out bw
      have HBv3_24 : Hid ((w24).heap[qv3]? = some (.cells #[.string ⟨#[]⟩, .slice none 0 0, .slice none 0 0, .int .i64 0, .slice none 0 0, .string ⟨#[]⟩, .int .i64 0] 34)) := blk_below HBv3_23.out bw
      have HBv4_24 : Hid ((w24).heap[qv4]? = some (.cells #[.int .i64 m, .string p, .slice oQ3 n pQ3, .string b] 38)) := blk_below HBv4_23.out bw
      have HBv5_24 : Hid ((w24).heap[qv5]? = some (.cells #[.int .i64 st, .slice oR4 k pR4, .string d] 32)) := blk_below HBv5_23.out bw
      have HBv6_24 : Hid ((w24).heap[qv6]? = some (.cells #[.string ⟨#[]⟩, .slice none 0 0, .slice none 0 0, .int .i64 0, .slice none 0 0, .string ⟨#[]⟩, .int .i64 0] 34)) := blk_below HBv6_23.out bw
      have HBv7_24 : Hid ((w24).heap[qv7]? = some (.cells #[.string ⟨#[]⟩, .slice none 0 0, .slice none 0 0, .int .i64 0, .slice none 0 0, .string ⟨#[]⟩, .int .i64 0] 34)) := hcell
      have HGv7 : Hid (w.heap.size ≤ qv7) := Nat.le_trans hb23.size hga
      clear hb23 HOQ3_23 HOR4_23 HOQ5_23 HOR6_23 HBv1_23 HBv2_23 HBv3_23 HBv4_23 HBv5_23 HBv6_23 bw hcell hga HF
      have cv3_0 : (w24).cell? ⟨qv3, 0, none⟩ = some (.string ⟨#[]⟩) := (cell_of HBv3_24.out 0).trans rfl
      have cv3_1 : (w24).cell? ⟨qv3, 1, none⟩ = some (.slice none 0 0) := (cell_of HBv3_24.out 1).trans rfl
      have cv3_2 : (w24).cell? ⟨qv3, 2, none⟩ = some (.slice none 0 0) := (cell_of HBv3_24.out 2).trans rfl
      have cv3_3 : (w24).cell? ⟨qv3, 3, none⟩ = some (.int .i64 0) := (cell_of HBv3_24.out 3).trans rfl
      have cv3_4 : (w24).cell? ⟨qv3, 4, none⟩ = some (.slice none 0 0) := (cell_of HBv3_24.out 4).trans rfl
      have cv3_5 : (w24).cell? ⟨qv3, 5, none⟩ = some (.string ⟨#[]⟩) := (cell_of HBv3_24.out 5).trans rfl
      have cv3_6 : (w24).cell? ⟨qv3, 6, none⟩ = some (.int .i64 0) := (cell_of HBv3_24.out 6).trans rfl
      have cv7_0 : (w24).cell? ⟨qv7, 0, none⟩ = some (.string ⟨#[]⟩) := (cell_of HBv7_24.out 0).trans rfl
      have cv7_1 : (w24).cell? ⟨qv7, 1, none⟩ = some (.slice none 0 0) := (cell_of HBv7_24.out 1).trans rfl
      have cv7_2 : (w24).cell? ⟨qv7, 2, none⟩ = some (.slice none 0 0) := (cell_of HBv7_24.out 2).trans rfl
      have cv7_3 : (w24).cell? ⟨qv7, 3, none⟩ = some (.int .i64 0) := (cell_of HBv7_24.out 3).trans rfl
      have cv7_4 : (w24).cell? ⟨qv7, 4, none⟩ = some (.slice none 0 0) := (cell_of HBv7_24.out 4).trans rfl
      have cv7_5 : (w24).cell? ⟨qv7, 5, none⟩ = some (.string ⟨#[]⟩) := (cell_of HBv7_24.out 5).trans rfl
      have cv7_6 : (w24).cell? ⟨qv7, 6, none⟩ = some (.int .i64 0) := (cell_of HBv7_24.out 6).trans rfl
      go_wp2_with fail
      refine (eqObj_any ⟨#[]⟩ 0 [] 0 [] 0 0 [] ⟨#[]⟩ 0 _ _ _ _ _ _ 0 0 _ (nilO _ _) (nilO _ _) (by omega) (by omega) (by omega)).mono ?_
      rintro e w25 ⟨rfl, bw⟩
      have hb25 : Below w.heap.size w (w25) := hb24.trans (bw.mono hb24.size)
      have HM25 : Hid ((w24).heap.size ≤ (w25).heap.size) := bw.size
      have HOQ3_25 : Hid ((w25).ownsRow w.heap.size 75 2 (.slice oQ3 n pQ3) n (flatF (mkG 1 fs n))) := owns_below HOQ3_24.out bw (fun g hg => owns_lt HOQ3_24.out hg)
      have HOR4_25 : Hid ((w25).ownsRow w.heap.size 75 2 (.slice oR4 k pR4) k (flatF (mkG (1 + 2 * n) gs k))) := owns_below HOR4_24.out bw (fun g hg => owns_lt HOR4_24.out hg)
      have HOQ5_25 : Hid ((w25).ownsRow w.heap.size 75 2 (.slice oQ5 n pQ5) n (flatF fs)) := owns_below HOQ5_24.out bw (fun g hg => owns_lt HOQ5_24.out hg)
      have HOR6_25 : Hid ((w25).ownsRow w.heap.size 75 2 (.slice oR6 k pR6) k (flatF gs)) := owns_below HOR6_24.out bw (fun g hg => owns_lt HOR6_24.out hg)
      have HBv1_25 : Hid ((w25).heap[qv1]? = some (.cells #[.int .i64 m, .string p, .slice a n cap, .string b] 24)) := blk_below HBv1_24.out bw
      have HBv2_25 : Hid ((w25).heap[qv2]? = some (.cells #[.int .i64 st, .slice a2 k cap2, .string d] 26)) := blk_below HBv2_24.out bw
      have HBv3_25 : Hid ((w25).heap[qv3]? = some (.cells #[.string ⟨#[]⟩, .slice none 0 0, .slice none 0 0, .int .i64 0, .slice none 0 0, .string ⟨#[]⟩, .int .i64 0] 34)) := blk_below HBv3_24.out bw
      have HBv4_25 : Hid ((w25).heap[qv4]? = some (.cells #[.int .i64 m, .string p, .slice oQ3 n pQ3, .string b] 38)) := blk_below HBv4_24.out bw
      have HBv5_25 : Hid ((w25).heap[qv5]? = some (.cells #[.int .i64 st, .slice oR4 k pR4, .string d] 32)) := blk_below HBv5_24.out bw
      have HBv6_25 : Hid ((w25).heap[qv6]? = some (.cells #[.string ⟨#[]⟩, .slice none 0 0, .slice none 0 0, .int .i64 0, .slice none 0 0, .string ⟨#[]⟩, .int .i64 0] 34)) := blk_below HBv6_24.out bw
      have HBv7_25 : Hid ((w25).heap[qv7]? = some (.cells #[.string ⟨#[]⟩, .slice none 0 0, .slice none 0 0, .int .i64 0, .slice none 0 0, .string ⟨#[]⟩, .int .i64 0] 34)) := blk_below HBv7_24.out bw
      clear hb24 HOQ3_24 HOR4_24 HOQ5_24 HOR6_24 HBv1_24 HBv2_24 HBv3_24 HBv4_24 HBv5_24 HBv6_24 HBv7_24 bw
      clear cv3_0 cv3_1 cv3_2 cv3_3 cv3_4 cv3_5 cv3_6 cv7_0 cv7_1 cv7_2 cv7_3 cv7_4 cv7_5 cv7_6
      have cv6_0 : (w25).cell? ⟨qv6, 0, none⟩ = some (.string ⟨#[]⟩) := (cell_of HBv6_25.out 0).trans rfl
      have cv6_1 : (w25).cell? ⟨qv6, 1, none⟩ = some (.slice none 0 0) := (cell_of HBv6_25.out 1).trans rfl
      have cv6_2 : (w25).cell? ⟨qv6, 2, none⟩ = some (.slice none 0 0) := (cell_of HBv6_25.out 2).trans rfl
      have cv6_3 : (w25).cell? ⟨qv6, 3, none⟩ = some (.int .i64 0) := (cell_of HBv6_25.out 3).trans rfl
      have cv6_4 : (w25).cell? ⟨qv6, 4, none⟩ = some (.slice none 0 0) := (cell_of HBv6_25.out 4).trans rfl
      have cv6_5 : (w25).cell? ⟨qv6, 5, none⟩ = some (.string ⟨#[]⟩) := (cell_of HBv6_25.out 5).trans rfl
      have cv6_6 : (w25).cell? ⟨qv6, 6, none⟩ = some (.int .i64 0) := (cell_of HBv6_25.out 6).trans rfl
      go_wp2_with fail
      refine (heldObj_any ⟨#[]⟩ 0 [] 0 [] 0 0 [] ⟨#[]⟩ 0 _ _ _ 0 _ (nilO _ _) 1 (by omega) (by omega) (fun j hj => absurd hj (by omega)) (fun j hj => absurd hj (by omega)) (fun j hj => absurd hj (by omega))).mono ?_
      rintro e w26 ⟨rfl, bw⟩
      have hb26 : Below w.heap.size w (w26) := hb25.trans (bw.mono hb25.size)
      have HM26 : Hid ((w25).heap.size ≤ (w26).heap.size) := bw.size
      have HOQ3_26 : Hid ((w26).ownsRow w.heap.size 75 2 (.slice oQ3 n pQ3) n (flatF (mkG 1 fs n))) := owns_below HOQ3_25.out bw (fun g hg => owns_lt HOQ3_25.out hg)
      have HOR4_26 : Hid ((w26).ownsRow w.heap.size 75 2 (.slice oR4 k pR4) k (flatF (mkG (1 + 2 * n) gs k))) := owns_below HOR4_25.out bw (fun g hg => owns_lt HOR4_25.out hg)
      have HOQ5_26 : Hid ((w26).ownsRow w.heap.size 75 2 (.slice oQ5 n pQ5) n (flatF fs)) := owns_below HOQ5_25.out bw (fun g hg => owns_lt HOQ5_25.out hg)
      have HOR6_26 : Hid ((w26).ownsRow w.heap.size 75 2 (.slice oR6 k pR6) k (flatF gs)) := owns_below HOR6_25.out bw (fun g hg => owns_lt HOR6_25.out hg)
      have HBv1_26 : Hid ((w26).heap[qv1]? = some (.cells #[.int .i64 m, .string p, .slice a n cap, .string b] 24)) := blk_below HBv1_25.out bw
      have HBv2_26 : Hid ((w26).heap[qv2]? = some (.cells #[.int .i64 st, .slice a2 k cap2, .string d] 26)) := blk_below HBv2_25.out bw
      have HBv3_26 : Hid ((w26).heap[qv3]? = some (.cells #[.string ⟨#[]⟩, .slice none 0 0, .slice none 0 0, .int .i64 0, .slice none 0 0, .string ⟨#[]⟩, .int .i64 0] 34)) := blk_below HBv3_25.out bw
      have HBv4_26 : Hid ((w26).heap[qv4]? = some (.cells #[.int .i64 m, .string p, .slice oQ3 n pQ3, .string b] 38)) := blk_below HBv4_25.out bw
      have HBv5_26 : Hid ((w26).heap[qv5]? = some (.cells #[.int .i64 st, .slice oR4 k pR4, .string d] 32)) := blk_below HBv5_25.out bw
      have HBv6_26 : Hid ((w26).heap[qv6]? = some (.cells #[.string ⟨#[]⟩, .slice none 0 0, .slice none 0 0, .int .i64 0, .slice none 0 0, .string ⟨#[]⟩, .int .i64 0] 34)) := blk_below HBv6_25.out bw
      have HBv7_26 : Hid ((w26).heap[qv7]? = some (.cells #[.string ⟨#[]⟩, .slice none 0 0, .slice none 0 0, .int .i64 0, .slice none 0 0, .string ⟨#[]⟩, .int .i64 0] 34)) := blk_below HBv7_25.out bw
      clear hb25 HOQ3_25 HOR4_25 HOQ5_25 HOR6_25 HBv1_25 HBv2_25 HBv3_25 HBv4_25 HBv5_25 HBv6_25 HBv7_25 bw
      have hkh10 : ¬ (((1 + 0 + 0 + 2 * 0 : Nat) : Int) < 0) := by omega
      clear cv6_0 cv6_1 cv6_2 cv6_3 cv6_4 cv6_5 cv6_6
      go_wp2_with fail
      go_ret
      exact ⟨rfl, hb26⟩

theorem walk1 (w : World) (m : Int) (p : ByteArray) (a : Option Addr) (n cap : Nat) (b : ByteArray) (fs : List (ByteArray × ByteArray)) (h1 : ArgF w w.heap.size a n fs) (hn1 : n ≤ maxLen) (hs1 : WalkF n fs) (hp : p.size ≤ maxLen) (hb : b.size ≤ maxLen) (st : Int) (a2 : Option Addr) (k cap2 : Nat) (d : ByteArray) (gs : List (ByteArray × ByteArray)) (h2 : ArgF w w.heap.size a2 k gs) (hn2 : k ≤ maxLen) (hs2 : WalkF k gs) (hd : d.size ≤ maxLen) (t : Int) (_ht1 : -9223372036854775808 ≤ t) (_ht2 : t ≤ 9223372036854775807) :
    Calls Tryz.prog 3 #[.agg #[.int .i64 m, .string p, .slice a n cap, .string b], .agg #[.int .i64 st, .slice a2 k cap2, .string d], .int .i64 t] w fun e w' => e = .returned (.bool true) ∧ Below w.heap.size w w' := by
  classical
  by_cases hK : (MayP m p fs b st gs d ∧ ObjP p (varyP gs) (valsP (varyP gs) fs) st gs d t)
  · exact walkT w m p a n cap b fs h1 hn1 hs1 hp hb st a2 k cap2 d gs h2 hn2 hs2 hd t _ _ rfl rfl hK
  · exact walkF w m p a n cap b fs h1 hn1 hs1 hp hb st a2 k cap2 d gs h2 hn2 hs2 hd t _ _ rfl rfl hK

set_option maxRecDepth 100000 in
theorem lifted (os : Os) (started : os.Started) (H : Type) (enc : TypeId × Value → H) :
    ReturnsInHanded {} Tryz.checked os 3 .any (Rows.fnExactObjOfSpec.pre6 enc Tryz.prog Tryz.f3 Rows.fnExactObjOfRow.domain false) (Rows.fnExactObjOfSpec.post enc Tryz.prog Tryz.f3 false true false false) := by
  refine returnsInHanded_of_change (C := Tryz.checked) own started (by kernel_rfl) Tryz.func3
    (ChangeSpec.witness6 (enc := enc) (C := Tryz.checked) false ⟨#[], #[.agg #[.int .i64 0, .string ByteArray.empty, .slice none 0 0, .string ByteArray.empty], .agg #[.int .i64 0, .slice none 0 0, .string ByteArray.empty], .int .i64 0], []⟩ 8 (by kernel_rfl) (by kernel_rfl) (by kernel_rfl) (by kernel_rfl)) ?_
  intro W base args ds gs before hval0 hW _ _
  have hval : ∀ (j : Nat) t v, Tryz.f3.params[j]? = some t → args[j]? = some v → Value.okWide Tryz.prog W .any base t v := hval0
  have hW' := hW
  obtain ⟨p, q, hA0, hV, rfl, hfz, hnd⟩ := hW
  have hA : DataW.TrodAll enc Tryz.prog W 0 (fun _ => true) true Tryz.f3.params.toList args.toList ds p := hA0
  rw [Tryz.params3] at hA hval
  obtain ⟨v0, vs0, d0, ds0, p0, q0, hargs, rfl, rfl, h0, r0⟩ := trodAll_cons hA
  obtain ⟨v1, vs1, d1, ds1, p1, q1, hargs1, rfl, rfl, h1, r1⟩ := trodAll_cons r0
  obtain ⟨v2, vs2, d2, ds2, p2, q2, hargs2, rfl, rfl, h2, r2⟩ := trodAll_cons r1
  obtain ⟨rfl, rfl, rfl⟩ := trodAll_nil r2
  obtain rfl : args = #[v0, v1, v2] := by cases args; simp_all
  obtain ⟨rfl, rfl⟩ := trodVars_none hV
  have k0 := h0
  have lt0 : ∀ x ∈ p0, x.block < W.heap.size := by obtain ⟨m, hm⟩ := k0; exact DataW.trod_lt m _ _ _ hm
  obtain ⟨am0, ap0, a0, n0, cap0, ab0, fs0, rfl, ga0, gb0, gc0, gd0, ge0⟩ := openReq (hval 0 24 v0 rfl rfl) h0
  have k1 := h1
  have lt1 : ∀ x ∈ p1, x.block < W.heap.size := by obtain ⟨m, hm⟩ := k1; exact DataW.trod_lt m _ _ _ hm
  obtain ⟨am1, a1, n1, cap1, ab1, fs1, rfl, ga1, gb1, gc1, ge1⟩ := openResp (hval 1 26 v1 rfl rfl) h1
  obtain ⟨a2, rfl, rfl, rfl, w2⟩ := open_int Tryz.underlying3 (hval 2 3 v2 rfl rfl) h2
  have bd2 := bounds_i64 w2
  clear hA0 hval0
  simp only [List.append_nil] at hW'
  refine (walk1 W am0 ap0 a0 n0 cap0 ab0 fs0 ga0 gb0 gc0 gd0 ge0 am1 a1 n1 cap1 ab1 fs1 ga1 gb1 gc1 ge1 a2 (by omega) (by omega)).mono fun e W' ⟨he, bel⟩ => ?_
  subst he
  exact ⟨_, rfl, _, _, _, [], _, [], hW', trodAll_mk1 (shut_bool Tryz.underlying4 _), (trodAll_cons_mk (Below.trod laidOut (by kernel_rfl) (of_decide_eq_true (by kernel_rfl)) k0 bel lt0) (trodAll_cons_mk (Below.trod laidOut (by kernel_rfl) (of_decide_eq_true (by kernel_rfl)) k1 bel lt1) (trodAll_cons_mk (shut_int Tryz.underlying3 w2) trodAll_mk0))), rfl, bel.frame _, fun h => by cases h⟩

theorem over : Rows.fnExactObjOfRow.holds Tryz.pinned (OpenSpec.ofChange Rows.fnExactObjOfSpec) :=
  OpenClaim.holds_of_wide 3 Tryz.f3 rfl rfl rfl rfl rfl rfl rfl ⟨rfl, rfl, rfl, rfl, rfl⟩ rfl rfl rfl rfl rfl (by kernel_rfl) Tryz.func3 (by kernel_rfl)
    (of_decide_eq_true (by kernel_rfl)) (by unfold Func.isWrapper; first | (rw [if_pos (by decide +kernel)]; kernel_rfl) | (rw [if_neg (by decide +kernel)]; exact ⟨rfl, rfl⟩))
    (fun os started H enc _ => lifted os started H enc)
end fnExactObjOf

theorem fnExactObjOf_holds : Rows.FnExactObjOfSaid := fnExactObjOf.over
#print axioms fnExactObjOf_holds
end Go.Proofs.YtdlhicdfldecgaaGreat
