/- Merge: at every argument the program answers as the specification (the law answers true), it writes into no argument, and its answer owns its memory: no condition. -/
import Derived.Test.YthlmnmbhgkmbfaaFnExactMergeB
import Derived.Test.YthlmnmbhgkmbfaaRows
import Derived.WalkKit
import Derived.ProofKit
import Derived.OpenShut
import Derived.ShutString
import Derived.ChangeOld
import Derived.Below
import Derived.Deep.RegionHeld3
import Derived.Deep.DrawnRows
import Derived.Deep.CutRange
import Derived.Deep.DeepCutAuto
namespace Go.Proofs.Ythlmnmbhgkmbfaa
namespace fnExactMerge
open Go.ChangeShapes Go.WideShapes Go.ChangeAt Go.RowKit
open Go.ChangeMaps (open_string shut_string)
attribute [local go_sem ↓] Go.wp_at_zero Go.wp_at_succ

theorem own : ownKnob Try.prog.godebug = none := by kernel_rfl
theorem laidOut : laidOutB Try.prog = true := by kernel_rfl
theorem argWide {w : World} {B B' : Nat} {a : Option Addr} {n : Nat} {fs : List (ByteArray × ByteArray)} (h : ArgF w B a n fs) (hB : B ≤ B') : ArgF w B' a n fs :=
  ⟨h.len, fun i hi => by
    obtain ⟨b, off, h1, h2, h3⟩ := h.get i hi
    exact ⟨b, off, h1, Nat.lt_of_lt_of_le h2 hB, h3⟩⟩
theorem ask_le (m : Int) (p : ByteArray) (fs : List (ByteArray × ByteArray)) (b : ByteArray) (gs : List (ByteArray × ByteArray)) : (askF m p fs b gs).length ≤ fs.length + 1 := by
  unfold askF
  split
  · exact putF_le fs inmName _
  · have := dropTo_len fs (atI fs inmName) fs.length
    unfold dropF
    omega
theorem merge_le (st : Int) (fs : List (ByteArray × ByteArray)) (b : ByteArray) (gs : List (ByteArray × ByteArray)) : (mergeF st fs b gs).length ≤ fs.length + gs.length := by
  unfold mergeF
  split
  · exact putAll_le fs gs
  · omega

set_option maxHeartbeats 8000000 in
set_option maxRecDepth 100000 in
theorem walk1 (w : World) (am0 : Int) (a0 : Option Addr) (n0 cap0 : Nat) (ab0 : ByteArray) (fs0 : List (ByteArray × ByteArray)) (harg0 : ArgF w w.heap.size a0 n0 fs0) (hn0 : n0 ≤ maxLen) (hs0 : WalkF n0 fs0) (hx0 : ab0.size ≤ maxLen) (am1 : Int) (a1 : Option Addr) (n1 cap1 : Nat) (ab1 : ByteArray) (fs1 : List (ByteArray × ByteArray)) (harg1 : ArgF w w.heap.size a1 n1 fs1) (hn1 : n1 ≤ maxLen) (hs1 : WalkF n1 fs1) (hx1 : ab1.size ≤ maxLen) :
    Calls Try.prog 6 #[.agg #[.int .i64 am0, .slice a0 n0 cap0, .string ab0], .agg #[.int .i64 am1, .slice a1 n1 cap1, .string ab1]] w fun e w' => e = .returned (.bool true) ∧ Below w.heap.size w w' := by
  have HA0 : Hid (∀ W, Below w.heap.size w W → ArgF W w.heap.size a0 n0 fs0) := fun W h => harg0.below h
  have HLEN0 : Hid (fs0.length = n0) := harg0.len
  have HS0 : Hid (WalkF n0 fs0) := hs0
  have HN0 : Hid (n0 ≤ maxLen) := hn0
  have HBX0 : Hid (ab0.size ≤ maxLen) := hx0
  clear hx0
  clear harg0 hs0 hn0
  have HA1 : Hid (∀ W, Below w.heap.size w W → ArgF W w.heap.size a1 n1 fs1) := fun W h => harg1.below h
  have HLEN1 : Hid (fs1.length = n1) := harg1.len
  have HS1 : Hid (WalkF n1 fs1) := hs1
  have HN1 : Hid (n1 ≤ maxLen) := hn1
  have HBX1 : Hid (ab1.size ≤ maxLen) := hx1
  clear hx1
  clear harg1 hs1 hn1
  obtain ⟨rq, hrq⟩ : ∃ r, r = w.heap.size := ⟨_, rfl⟩
  obtain ⟨w0, hw0⟩ : ∃ W, W = ((w.alloc (.cells #[.int .i64 am0, .slice a0 n0 cap0, .string ab0] 43)).alloc (.cells #[.int .i64 am1, .slice a1 n1 cap1, .string ab1] 43)) := ⟨_, rfl⟩
  have HW0 : Hid (((w.alloc (.cells #[.int .i64 am0, .slice a0 n0 cap0, .string ab0] 43)).alloc (.cells #[.int .i64 am1, .slice a1 n1 cap1, .string ab1] 43)) = w0) := hw0.symm
  have hb0 : Below w.heap.size w w0 := by rw [hw0]; exact ((Below.refl _ w).alloc (Nat.le_refl _) _).alloc (by simp) _
  have HBa0_0 : Hid ((w0).heap[rq]? = some (.cells #[.int .i64 am0, .slice a0 n0 cap0, .string ab0] 43)) := by
    show _ = _
    have h := heap_alloc_new w (.cells #[.int .i64 am0, .slice a0 n0 cap0, .string ab0] 43)
    have hz : (w).heap.size = rq := by rw [hrq]
    rw [hz] at h
    rw [hw0]
    exact blk_alloc (h) _
  have HBa1_0 : Hid ((w0).heap[rq + 1]? = some (.cells #[.int .i64 am1, .slice a1 n1 cap1, .string ab1] 43)) := by
    show _ = _
    have h := heap_alloc_new (w.alloc (.cells #[.int .i64 am0, .slice a0 n0 cap0, .string ab0] 43)) (.cells #[.int .i64 am1, .slice a1 n1 cap1, .string ab1] 43)
    have hz : ((w.alloc (.cells #[.int .i64 am0, .slice a0 n0 cap0, .string ab0] 43))).heap.size = rq + 1 := by rw [hrq]; simp
    rw [hz] at h
    rw [hw0]
    exact h
  clear hw0
  go_enter Try.func6, Try.ntmps6
  go_upto_region 1 with fail
  rw [HW0.out, ← hrq]
  clear HW0 hrq
  obtain ⟨⟨ca00, ca01, ca02⟩, _⟩ := three_facts HBa0_0.out
  go_wp2_with fail
  refine (szResp_room 1048576 (by omega) (by omega) am0 a0 n0 cap0 ab0 fs0 _ (argWide (HA0.out _ hb0) hb0.size) HN0.out HS0.out HBX0.out).mono ?_
  rintro e w1 ⟨r0, rfl, hrl0, hr0, b⟩
  have hb1 : Below w.heap.size w (w1) := hb0.trans (b.mono hb0.size)
  have HM1 : Hid ((w0).heap.size ≤ (w1).heap.size) := b.size
  have HBa0_1 : Hid ((w1).heap[rq]? = some (.cells #[.int .i64 am0, .slice a0 n0 cap0, .string ab0] 43)) := blk_below HBa0_0.out b
  have HBa1_1 : Hid ((w1).heap[rq + 1]? = some (.cells #[.int .i64 am1, .slice a1 n1 cap1, .string ab1] 43)) := blk_below HBa1_0.out b
  clear hb0 HBa0_0 HBa1_0 ca00 ca01 ca02 b
  by_cases hq0 : r0 < 0
  · clear hr0
    go_wp2_with fail
    go_ret
    exact ⟨rfl, hb1⟩
  obtain ⟨hrm0, hx0, hm0, hz0⟩ := hr0 (by omega)
  clear hr0
  have HC0 : Hid (CopyF fs0) := fun i hi => by
    have := szTo_get fs0 n0 i (by rw [← HLEN0.out]; exact hi)
    omega
  have HG0 : Hid (∀ x, (getV fs0 x).size ≤ 1048576) := fun x => by
    unfold getV
    split
    · rename_i h
      have := szTo_get fs0 n0 (atF fs0 x) (by rw [← HLEN0.out]; exact h)
      omega
    · decide
  clear hz0
  have HX0 : Hid (ab0.size ≤ 1048576) := hx0
  clear hx0
  obtain ⟨⟨ca10, ca11, ca12⟩, _⟩ := three_facts HBa1_1.out
  go_wp2_with fail
  refine (szResp_room r0 (by omega) (by omega) am1 a1 n1 cap1 ab1 fs1 _ (argWide (HA1.out _ hb1) hb1.size) HN1.out HS1.out HBX1.out).mono ?_
  rintro e w2 ⟨r1, rfl, hrl1, hr1, b⟩
  have hb2 : Below w.heap.size w (w2) := hb1.trans (b.mono hb1.size)
  have HM2 : Hid ((w1).heap.size ≤ (w2).heap.size) := b.size
  have HBa0_2 : Hid ((w2).heap[rq]? = some (.cells #[.int .i64 am0, .slice a0 n0 cap0, .string ab0] 43)) := blk_below HBa0_1.out b
  have HBa1_2 : Hid ((w2).heap[rq + 1]? = some (.cells #[.int .i64 am1, .slice a1 n1 cap1, .string ab1] 43)) := blk_below HBa1_1.out b
  clear hb1 HBa0_1 HBa1_1 ca10 ca11 ca12 b
  by_cases hq1 : r1 < 0
  · clear hr1
    go_wp2_with fail
    go_ret
    exact ⟨rfl, hb2⟩
  obtain ⟨hrm1, hx1, hm1, hz1⟩ := hr1 (by omega)
  clear hr1
  have HC1 : Hid (CopyF fs1) := fun i hi => by
    have := szTo_get fs1 n1 i (by rw [← HLEN1.out]; exact hi)
    omega
  have HG1 : Hid (∀ x, (getV fs1 x).size ≤ 1048576) := fun x => by
    unfold getV
    split
    · rename_i h
      have := szTo_get fs1 n1 (atF fs1 x) (by rw [← HLEN1.out]; exact h)
      omega
    · decide
  clear hz1
  have HX1 : Hid (ab1.size ≤ 1048576) := hx1
  clear hx1
  have hall : n0 + n1 ≤ 1048576 := by omega
  clear hrl0 hrl1 hrm0 hrm1
  obtain ⟨P, hP⟩ : ∃ P, P = mergeF am0 fs0 ab0 fs1 := ⟨_, rfl⟩
  obtain ⟨np, hnp⟩ : ∃ m, m = P.length := ⟨_, rfl⟩
  have hnp2 : np ≤ 1999999 := by
    rw [hnp, hP]
    have h1 := merge_le am0 fs0 ab0 fs1
    rw [HLEN0.out, HLEN1.out] at h1
    omega
  have HSP : Hid (∀ (u0 : Value) (B0 : Nat) (u1 : Value) (B1 : Nat) (W : World), FieldsV W B0 u0 n0 fs0 → FieldsV W B1 u1 n1 fs1 → Calls Try.prog 36 #[.agg #[.int .i64 am0, u0, .string ab0], .agg #[.int .i64 am1, u1, .string ab1]] W fun e w' => ∃ v, e = .returned (.agg #[.int .i64 am0, v, .string ab0]) ∧ w'.ownsRow W.heap.size 68 2 v np (flatF P) ∧ Below W.heap.size W w') := by
    intro u0 B0 u1 B1 W h0 h1
    rw [hnp, hP]
    exact specMerge_any am0 u0 ab0 n0 B0 fs0 am1 u1 ab1 n1 B1 fs1 W h0 HS0.out HBX0.out h1 (by omega) HS1.out
  have HIM : Hid (∀ (u0 : Value) (B0 : Nat) (u1 : Value) (B1 : Nat) (W : World), FieldsV W B0 u0 n0 fs0 → FieldsV W B1 u1 n1 fs1 → Calls Try.prog 37 #[.agg #[.int .i64 am0, u0, .string ab0], .agg #[.int .i64 am1, u1, .string ab1]] W fun e w' => ∃ v, e = .returned (.agg #[.int .i64 am0, v, .string ab0]) ∧ w'.ownsRow W.heap.size 68 2 v np (flatF P) ∧ Below W.heap.size W w') := by
    intro u0 B0 u1 B1 W h0 h1
    rw [hnp, hP]
    exact implMerge_any am0 u0 ab0 n0 B0 fs0 am1 u1 ab1 n1 B1 fs1 W h0 (by have := HX0.out; omega) h1 (by omega) HC0.out HC1.out
  clear hP HC0 HC1 HG0 HG1 HX0 HX1
  have HNP : Hid (P.length = np) := hnp.symm
  clear hnp
  go_upto_region 8 with fail
  have HSS : Hid (∀ W, Below w2.heap.size w2 W → (W.cell? ⟨rq, 0, none⟩ = some (.int .i64 am0) ∧ W.cell? ⟨rq, 1, none⟩ = some (.slice a0 n0 cap0) ∧ W.cell? ⟨rq, 2, none⟩ = some (.string ab0)) ∧ (W.cell? ⟨rq + 1, 0, none⟩ = some (.int .i64 am1) ∧ W.cell? ⟨rq + 1, 1, none⟩ = some (.slice a1 n1 cap1) ∧ W.cell? ⟨rq + 1, 2, none⟩ = some (.string ab1))) := fun W h => ⟨(three_facts (blk_below HBa0_2.out h)).1, (three_facts (blk_below HBa1_2.out h)).1⟩
  go_cut [6] (fun sx wx => ∃ (o : Nat) (os : Option Addr) (ps : Nat), sx = .pointer (some ⟨o, 0, none⟩) ∧ Hid (Below w2.heap.size w2 wx ∧ wx.heap[o]? = some (.cells #[.int .i64 am0, .slice os np ps, .string ab0] 32) ∧ wx.ownsRow w2.heap.size 68 2 (.slice os np ps) np (flatF P)))
  case first =>
    refine wp_region_held_drew (S := fun W => (W.cell? ⟨rq, 0, none⟩ = some (.int .i64 am0) ∧ W.cell? ⟨rq, 1, none⟩ = some (.slice a0 n0 cap0) ∧ W.cell? ⟨rq, 2, none⟩ = some (.string ab0)) ∧ (W.cell? ⟨rq + 1, 0, none⟩ = some (.int .i64 am1) ∧ W.cell? ⟨rq + 1, 1, none⟩ = some (.slice a1 n1 cap1) ∧ W.cell? ⟨rq + 1, 2, none⟩ = some (.string ab1))) (by kernel_rfl) (HSS.out _ (Below.refl _ _).drew) (fun hS0 => ?_)
    have HX : Hid (Below w2.heap.size w2 w2.drew) := (Below.refl _ _).drew
    obtain ⟨X0, hX0⟩ : ∃ X, X = w2.drew := ⟨_, rfl⟩
    rw [← hX0] at HX ⊢
    clear hX0 hS0
    refine wpAnyH_takeD (i := 0) (v := .agg #[.int .i64 am0, .slice a0 n0 cap0, .string ab0]) (some 24) rfl rfl (by kernel_rfl) (by kernel_rfl) (by kernel_rfl) (fun _ _ _ h => h) (Or.inl ⟨by rfl, by intro W hW; obtain ⟨⟨s0, s1, s2⟩, ⟨s3, s4, s5⟩⟩ := hW; go_simp⟩) (HSS.out _ HX.out) ?_
    simp only [Act.put, List.setIfInBounds_toArray, List.set_cons_zero, List.set_cons_succ]
    refine wpAnyH_takeD (i := 2) (v := .agg #[.int .i64 am1, .slice a1 n1 cap1, .string ab1]) (some 26) rfl rfl (by kernel_rfl) (by kernel_rfl) (by kernel_rfl) (fun _ _ _ h => h) (Or.inl ⟨by rfl, by intro W hW; obtain ⟨⟨s0, s1, s2⟩, ⟨s3, s4, s5⟩⟩ := hW; go_simp⟩) (HSS.out _ HX.out) ?_
    simp only [Act.put, List.setIfInBounds_toArray, List.set_cons_zero, List.set_cons_succ]
    refine wpAnyH_ready (rs := [1, 5]) (by kernel_rfl) (by simp) ?_
    refine AllReadyH.cons rfl (fun K hK => ?_) (AllReadyH.cons rfl (fun K hK => ?_) AllReadyH.nil)
    · go_simp
      refine (toResp_any am0 a0 n0 cap0 ab0 fs0 w.heap.size _ (HA0.out _ (hb2.trans (HX.out.mono hb2.size))) (hb2.trans (HX.out.mono hb2.size)).size hm0).mono ?_
      rintro e X1 ⟨vvt0, rfl, ownt0, b⟩
      obtain ⟨ot0, pt0, rfl⟩ := slice_of_owns ownt0
      have HXN : Hid (Below w2.heap.size w2 X1) := HX.out.trans (b.mono HX.out.size)
      have HTt0 : Hid (X1.ownsRow w2.heap.size 68 2 (.slice ot0 n0 pt0) n0 (flatF fs0)) := owns_wide ownt0 HX.out.size
      clear ownt0
      refine hK.out _ _ (HSS.out _ HXN.out) (fun _ => ?_)
      clear hK K HX b
      have HX := HXN
      clear HXN
      refine wpAnyH_ready (rs := [3, 5]) (by kernel_rfl) (by simp) ?_
      refine AllReadyH.cons rfl (fun K hK => ?_) (AllReadyH.cons rfl (fun K hK => ?_) AllReadyH.nil)
      · go_simp
        refine (toResp_any am1 a1 n1 cap1 ab1 fs1 w.heap.size _ (HA1.out _ (hb2.trans (HX.out.mono hb2.size))) (hb2.trans (HX.out.mono hb2.size)).size hm1).mono ?_
        rintro e X2 ⟨vvt1, rfl, ownt1, b⟩
        obtain ⟨ot1, pt1, rfl⟩ := slice_of_owns ownt1
        have HXN : Hid (Below w2.heap.size w2 X2) := HX.out.trans (b.mono HX.out.size)
        have HTN : Hid (X2.ownsRow w2.heap.size 68 2 (.slice ot0 n0 pt0) n0 (flatF fs0)) := owns_below HTt0.out b (fun g hg => owns_lt HTt0.out hg)
        clear HTt0
        have HTt0 := HTN
        clear HTN
        have HTt1 : Hid (X2.ownsRow w2.heap.size 68 2 (.slice ot1 n1 pt1) n1 (flatF fs1)) := owns_wide ownt1 HX.out.size
        clear ownt1
        refine hK.out _ _ (HSS.out _ HXN.out) (fun _ => ?_)
        clear hK K HX b
        have HX := HXN
        clear HXN
        refine wpAnyH_ready (rs := [4, 5]) (by kernel_rfl) (by simp) ?_
        refine AllReadyH.cons rfl (fun K hK => ?_) (AllReadyH.cons rfl (fun K hK => ?_) AllReadyH.nil)
        · go_simp
          refine (HSP.out _ _ _ _ _ (FieldsV.of_owns HTt0.out) (FieldsV.of_owns HTt1.out)).mono ?_
          rintro e X3 ⟨vvs, rfl, owns, b⟩
          obtain ⟨os, ps, rfl⟩ := slice_of_owns owns
          have HXN : Hid (Below w2.heap.size w2 X3) := HX.out.trans (b.mono HX.out.size)
          have HTN : Hid (X3.ownsRow w2.heap.size 68 2 (.slice ot0 n0 pt0) n0 (flatF fs0)) := owns_below HTt0.out b (fun g hg => owns_lt HTt0.out hg)
          clear HTt0
          have HTt0 := HTN
          clear HTN
          have HTN : Hid (X3.ownsRow w2.heap.size 68 2 (.slice ot1 n1 pt1) n1 (flatF fs1)) := owns_below HTt1.out b (fun g hg => owns_lt HTt1.out hg)
          clear HTt1
          have HTt1 := HTN
          clear HTN
          have HTs : Hid (X3.ownsRow w2.heap.size 68 2 (.slice os np ps) np (flatF P)) := owns_wide owns HX.out.size
          clear owns
          refine hK.out _ _ (HSS.out _ HXN.out) (fun _ => ?_)
          clear hK K HX b
          have HX := HXN
          clear HXN
          refine wpAnyH_ready (rs := [5]) (by kernel_rfl) (by simp) ?_
          refine AllReadyH.cons rfl (fun K hK => ?_) AllReadyH.nil
          have HXN : Hid (Below w2.heap.size w2 (X3.alloc (.cells #[.int .i64 0, .slice none 0 0, .string ⟨#[]⟩] 32))) := HX.out.alloc HX.out.size _
          have HZ : Hid ((X3.alloc (.cells #[.int .i64 0, .slice none 0 0, .string ⟨#[]⟩] 32)).heap[X3.heap.size]? = some (.cells #[.int .i64 0, .slice none 0 0, .string ⟨#[]⟩] 32) ∧ w2.heap.size ≤ X3.heap.size) := ⟨heap_alloc_new _ _, HX.out.size⟩
          have HTN : Hid ((X3.alloc (.cells #[.int .i64 0, .slice none 0 0, .string ⟨#[]⟩] 32)).ownsRow w2.heap.size 68 2 (.slice ot0 n0 pt0) n0 (flatF fs0)) := HTt0.out.alloc _
          clear HTt0
          have HTt0 := HTN
          clear HTN
          have HTN : Hid ((X3.alloc (.cells #[.int .i64 0, .slice none 0 0, .string ⟨#[]⟩] 32)).ownsRow w2.heap.size 68 2 (.slice ot1 n1 pt1) n1 (flatF fs1)) := HTt1.out.alloc _
          clear HTt1
          have HTt1 := HTN
          clear HTN
          have HTN : Hid ((X3.alloc (.cells #[.int .i64 0, .slice none 0 0, .string ⟨#[]⟩] 32)).ownsRow w2.heap.size 68 2 (.slice os np ps) np (flatF P)) := HTs.out.alloc _
          clear HTs
          have HTs := HTN
          clear HTN
          go_simp
          refine hK.out _ _ (HSS.out _ HXN.out) (fun _ => ?_)
          clear hK K HX
          obtain ⟨pa, ho⟩ : ∃ o, o = X3.heap.size := ⟨_, rfl⟩
          obtain ⟨X4, hX⟩ : ∃ X, X = X3.alloc (.cells #[.int .i64 0, .slice none 0 0, .string ⟨#[]⟩] 32) := ⟨_, rfl⟩
          rw [← ho] at HZ ⊢
          rw [← hX] at HXN HZ HTt0 HTt1 HTs ⊢
          clear ho hX
          have HX := HXN
          clear HXN
          obtain ⟨Y, hY⟩ : ∃ Y, Y = threeSet X4 pa (.int .i64 am0) (.slice os np ps) (.string ab0) := ⟨_, rfl⟩
          have HY : Hid (threeSet X4 pa (.int .i64 am0) (.slice os np ps) (.string ab0) = Y) := hY.symm
          have HF : Hid (Below w2.heap.size w2 Y ∧ Y.heap[pa]? = some (.cells #[.int .i64 am0, .slice os np ps, .string ab0] 32) ∧ Y.ownsRow w2.heap.size 68 2 (.slice os np ps) np (flatF P)) := by
            show _ ∧ _ ∧ _
            rw [hY]
            exact ⟨below_three HX.out HZ.out.2, three_set HZ.out.1 _ _ _, owns_same HTs.out (fun j hj => three_oth _ _ j _ _ _ (own_ne HTs.out HZ.out.1 (by decide) j hj))⟩
          obtain ⟨⟨e0, e1, e2⟩, g0, g1, g2⟩ := three_facts HZ.out.1
          have hs9 := HSS.out _ HF.out.1
          unfold threeSet at HY
          clear hY HX HZ HTt0 HTt1 HTs
          refine wpAnyH_ready (rs := [6]) (by kernel_rfl) (by simp) ?_
          refine AllReadyH.cons rfl (fun K hK => ?_) AllReadyH.nil
          go_simp
          rw [HY.out]
          refine hK.out _ _ hs9 (fun _ => ?_)
          clear hK K HY hs9 e0 g0 e1 g1 e2 g2
          refine wpAnyH_done (by kernel_rfl) ?_ _
          go_wp2_with fail
          go_meet
          exact ⟨pa, os, ps, rfl, HF⟩
        · have HXN : Hid (Below w2.heap.size w2 (X2.alloc (.cells #[.int .i64 0, .slice none 0 0, .string ⟨#[]⟩] 32))) := HX.out.alloc HX.out.size _
          have HZ : Hid ((X2.alloc (.cells #[.int .i64 0, .slice none 0 0, .string ⟨#[]⟩] 32)).heap[X2.heap.size]? = some (.cells #[.int .i64 0, .slice none 0 0, .string ⟨#[]⟩] 32) ∧ w2.heap.size ≤ X2.heap.size) := ⟨heap_alloc_new _ _, HX.out.size⟩
          have HTN : Hid ((X2.alloc (.cells #[.int .i64 0, .slice none 0 0, .string ⟨#[]⟩] 32)).ownsRow w2.heap.size 68 2 (.slice ot0 n0 pt0) n0 (flatF fs0)) := HTt0.out.alloc _
          clear HTt0
          have HTt0 := HTN
          clear HTN
          have HTN : Hid ((X2.alloc (.cells #[.int .i64 0, .slice none 0 0, .string ⟨#[]⟩] 32)).ownsRow w2.heap.size 68 2 (.slice ot1 n1 pt1) n1 (flatF fs1)) := HTt1.out.alloc _
          clear HTt1
          have HTt1 := HTN
          clear HTN
          go_simp
          refine hK.out _ _ (HSS.out _ HXN.out) (fun _ => ?_)
          clear hK K HX
          obtain ⟨pa, ho⟩ : ∃ o, o = X2.heap.size := ⟨_, rfl⟩
          obtain ⟨X3, hX⟩ : ∃ X, X = X2.alloc (.cells #[.int .i64 0, .slice none 0 0, .string ⟨#[]⟩] 32) := ⟨_, rfl⟩
          rw [← ho] at HZ ⊢
          rw [← hX] at HXN HZ HTt0 HTt1 ⊢
          clear ho hX
          have HX := HXN
          clear HXN
          refine wpAnyH_ready (rs := [4]) (by kernel_rfl) (by simp) ?_
          refine AllReadyH.cons rfl (fun K hK => ?_) AllReadyH.nil
          go_simp
          refine (HSP.out _ _ _ _ _ (FieldsV.of_owns HTt0.out) (FieldsV.of_owns HTt1.out)).mono ?_
          rintro e X4 ⟨vvs, rfl, owns, b⟩
          obtain ⟨os, ps, rfl⟩ := slice_of_owns owns
          have HXN : Hid (Below w2.heap.size w2 X4) := HX.out.trans (b.mono HX.out.size)
          have HTN : Hid (X4.ownsRow w2.heap.size 68 2 (.slice ot0 n0 pt0) n0 (flatF fs0)) := owns_below HTt0.out b (fun g hg => owns_lt HTt0.out hg)
          clear HTt0
          have HTt0 := HTN
          clear HTN
          have HTN : Hid (X4.ownsRow w2.heap.size 68 2 (.slice ot1 n1 pt1) n1 (flatF fs1)) := owns_below HTt1.out b (fun g hg => owns_lt HTt1.out hg)
          clear HTt1
          have HTt1 := HTN
          clear HTN
          have HZN : Hid (X4.heap[pa]? = some (.cells #[.int .i64 0, .slice none 0 0, .string ⟨#[]⟩] 32) ∧ w2.heap.size ≤ pa) := ⟨blk_below HZ.out.1 b, HZ.out.2⟩
          clear HZ
          have HZ := HZN
          clear HZN
          have HTs : Hid (X4.ownsRow w2.heap.size 68 2 (.slice os np ps) np (flatF P)) := owns_wide owns HX.out.size
          clear owns
          refine hK.out _ _ (HSS.out _ HXN.out) (fun _ => ?_)
          clear hK K HX b
          have HX := HXN
          clear HXN
          obtain ⟨Y, hY⟩ : ∃ Y, Y = threeSet X4 pa (.int .i64 am0) (.slice os np ps) (.string ab0) := ⟨_, rfl⟩
          have HY : Hid (threeSet X4 pa (.int .i64 am0) (.slice os np ps) (.string ab0) = Y) := hY.symm
          have HF : Hid (Below w2.heap.size w2 Y ∧ Y.heap[pa]? = some (.cells #[.int .i64 am0, .slice os np ps, .string ab0] 32) ∧ Y.ownsRow w2.heap.size 68 2 (.slice os np ps) np (flatF P)) := by
            show _ ∧ _ ∧ _
            rw [hY]
            exact ⟨below_three HX.out HZ.out.2, three_set HZ.out.1 _ _ _, owns_same HTs.out (fun j hj => three_oth _ _ j _ _ _ (own_ne HTs.out HZ.out.1 (by decide) j hj))⟩
          obtain ⟨⟨e0, e1, e2⟩, g0, g1, g2⟩ := three_facts HZ.out.1
          have hs9 := HSS.out _ HF.out.1
          unfold threeSet at HY
          clear hY HX HZ HTt0 HTt1 HTs
          refine wpAnyH_ready (rs := [6]) (by kernel_rfl) (by simp) ?_
          refine AllReadyH.cons rfl (fun K hK => ?_) AllReadyH.nil
          go_simp
          rw [HY.out]
          refine hK.out _ _ hs9 (fun _ => ?_)
          clear hK K HY hs9 e0 g0 e1 g1 e2 g2
          refine wpAnyH_done (by kernel_rfl) ?_ _
          go_wp2_with fail
          go_meet
          exact ⟨pa, os, ps, rfl, HF⟩
      · have HXN : Hid (Below w2.heap.size w2 (X1.alloc (.cells #[.int .i64 0, .slice none 0 0, .string ⟨#[]⟩] 32))) := HX.out.alloc HX.out.size _
        have HZ : Hid ((X1.alloc (.cells #[.int .i64 0, .slice none 0 0, .string ⟨#[]⟩] 32)).heap[X1.heap.size]? = some (.cells #[.int .i64 0, .slice none 0 0, .string ⟨#[]⟩] 32) ∧ w2.heap.size ≤ X1.heap.size) := ⟨heap_alloc_new _ _, HX.out.size⟩
        have HTN : Hid ((X1.alloc (.cells #[.int .i64 0, .slice none 0 0, .string ⟨#[]⟩] 32)).ownsRow w2.heap.size 68 2 (.slice ot0 n0 pt0) n0 (flatF fs0)) := HTt0.out.alloc _
        clear HTt0
        have HTt0 := HTN
        clear HTN
        go_simp
        refine hK.out _ _ (HSS.out _ HXN.out) (fun _ => ?_)
        clear hK K HX
        obtain ⟨pa, ho⟩ : ∃ o, o = X1.heap.size := ⟨_, rfl⟩
        obtain ⟨X2, hX⟩ : ∃ X, X = X1.alloc (.cells #[.int .i64 0, .slice none 0 0, .string ⟨#[]⟩] 32) := ⟨_, rfl⟩
        rw [← ho] at HZ ⊢
        rw [← hX] at HXN HZ HTt0 ⊢
        clear ho hX
        have HX := HXN
        clear HXN
        refine wpAnyH_ready (rs := [3]) (by kernel_rfl) (by simp) ?_
        refine AllReadyH.cons rfl (fun K hK => ?_) AllReadyH.nil
        go_simp
        refine (toResp_any am1 a1 n1 cap1 ab1 fs1 w.heap.size _ (HA1.out _ (hb2.trans (HX.out.mono hb2.size))) (hb2.trans (HX.out.mono hb2.size)).size hm1).mono ?_
        rintro e X3 ⟨vvt1, rfl, ownt1, b⟩
        obtain ⟨ot1, pt1, rfl⟩ := slice_of_owns ownt1
        have HXN : Hid (Below w2.heap.size w2 X3) := HX.out.trans (b.mono HX.out.size)
        have HTN : Hid (X3.ownsRow w2.heap.size 68 2 (.slice ot0 n0 pt0) n0 (flatF fs0)) := owns_below HTt0.out b (fun g hg => owns_lt HTt0.out hg)
        clear HTt0
        have HTt0 := HTN
        clear HTN
        have HZN : Hid (X3.heap[pa]? = some (.cells #[.int .i64 0, .slice none 0 0, .string ⟨#[]⟩] 32) ∧ w2.heap.size ≤ pa) := ⟨blk_below HZ.out.1 b, HZ.out.2⟩
        clear HZ
        have HZ := HZN
        clear HZN
        have HTt1 : Hid (X3.ownsRow w2.heap.size 68 2 (.slice ot1 n1 pt1) n1 (flatF fs1)) := owns_wide ownt1 HX.out.size
        clear ownt1
        refine hK.out _ _ (HSS.out _ HXN.out) (fun _ => ?_)
        clear hK K HX b
        have HX := HXN
        clear HXN
        refine wpAnyH_ready (rs := [4]) (by kernel_rfl) (by simp) ?_
        refine AllReadyH.cons rfl (fun K hK => ?_) AllReadyH.nil
        go_simp
        refine (HSP.out _ _ _ _ _ (FieldsV.of_owns HTt0.out) (FieldsV.of_owns HTt1.out)).mono ?_
        rintro e X4 ⟨vvs, rfl, owns, b⟩
        obtain ⟨os, ps, rfl⟩ := slice_of_owns owns
        have HXN : Hid (Below w2.heap.size w2 X4) := HX.out.trans (b.mono HX.out.size)
        have HTN : Hid (X4.ownsRow w2.heap.size 68 2 (.slice ot0 n0 pt0) n0 (flatF fs0)) := owns_below HTt0.out b (fun g hg => owns_lt HTt0.out hg)
        clear HTt0
        have HTt0 := HTN
        clear HTN
        have HTN : Hid (X4.ownsRow w2.heap.size 68 2 (.slice ot1 n1 pt1) n1 (flatF fs1)) := owns_below HTt1.out b (fun g hg => owns_lt HTt1.out hg)
        clear HTt1
        have HTt1 := HTN
        clear HTN
        have HZN : Hid (X4.heap[pa]? = some (.cells #[.int .i64 0, .slice none 0 0, .string ⟨#[]⟩] 32) ∧ w2.heap.size ≤ pa) := ⟨blk_below HZ.out.1 b, HZ.out.2⟩
        clear HZ
        have HZ := HZN
        clear HZN
        have HTs : Hid (X4.ownsRow w2.heap.size 68 2 (.slice os np ps) np (flatF P)) := owns_wide owns HX.out.size
        clear owns
        refine hK.out _ _ (HSS.out _ HXN.out) (fun _ => ?_)
        clear hK K HX b
        have HX := HXN
        clear HXN
        obtain ⟨Y, hY⟩ : ∃ Y, Y = threeSet X4 pa (.int .i64 am0) (.slice os np ps) (.string ab0) := ⟨_, rfl⟩
        have HY : Hid (threeSet X4 pa (.int .i64 am0) (.slice os np ps) (.string ab0) = Y) := hY.symm
        have HF : Hid (Below w2.heap.size w2 Y ∧ Y.heap[pa]? = some (.cells #[.int .i64 am0, .slice os np ps, .string ab0] 32) ∧ Y.ownsRow w2.heap.size 68 2 (.slice os np ps) np (flatF P)) := by
          show _ ∧ _ ∧ _
          rw [hY]
          exact ⟨below_three HX.out HZ.out.2, three_set HZ.out.1 _ _ _, owns_same HTs.out (fun j hj => three_oth _ _ j _ _ _ (own_ne HTs.out HZ.out.1 (by decide) j hj))⟩
        obtain ⟨⟨e0, e1, e2⟩, g0, g1, g2⟩ := three_facts HZ.out.1
        have hs9 := HSS.out _ HF.out.1
        unfold threeSet at HY
        clear hY HX HZ HTt0 HTt1 HTs
        refine wpAnyH_ready (rs := [6]) (by kernel_rfl) (by simp) ?_
        refine AllReadyH.cons rfl (fun K hK => ?_) AllReadyH.nil
        go_simp
        rw [HY.out]
        refine hK.out _ _ hs9 (fun _ => ?_)
        clear hK K HY hs9 e0 g0 e1 g1 e2 g2
        refine wpAnyH_done (by kernel_rfl) ?_ _
        go_wp2_with fail
        go_meet
        exact ⟨pa, os, ps, rfl, HF⟩
    · have HXN : Hid (Below w2.heap.size w2 (X0.alloc (.cells #[.int .i64 0, .slice none 0 0, .string ⟨#[]⟩] 32))) := HX.out.alloc HX.out.size _
      have HZ : Hid ((X0.alloc (.cells #[.int .i64 0, .slice none 0 0, .string ⟨#[]⟩] 32)).heap[X0.heap.size]? = some (.cells #[.int .i64 0, .slice none 0 0, .string ⟨#[]⟩] 32) ∧ w2.heap.size ≤ X0.heap.size) := ⟨heap_alloc_new _ _, HX.out.size⟩
      go_simp
      refine hK.out _ _ (HSS.out _ HXN.out) (fun _ => ?_)
      clear hK K HX
      obtain ⟨pa, ho⟩ : ∃ o, o = X0.heap.size := ⟨_, rfl⟩
      obtain ⟨X1, hX⟩ : ∃ X, X = X0.alloc (.cells #[.int .i64 0, .slice none 0 0, .string ⟨#[]⟩] 32) := ⟨_, rfl⟩
      rw [← ho] at HZ ⊢
      rw [← hX] at HXN HZ ⊢
      clear ho hX
      have HX := HXN
      clear HXN
      refine wpAnyH_ready (rs := [1]) (by kernel_rfl) (by simp) ?_
      refine AllReadyH.cons rfl (fun K hK => ?_) AllReadyH.nil
      go_simp
      refine (toResp_any am0 a0 n0 cap0 ab0 fs0 w.heap.size _ (HA0.out _ (hb2.trans (HX.out.mono hb2.size))) (hb2.trans (HX.out.mono hb2.size)).size hm0).mono ?_
      rintro e X2 ⟨vvt0, rfl, ownt0, b⟩
      obtain ⟨ot0, pt0, rfl⟩ := slice_of_owns ownt0
      have HXN : Hid (Below w2.heap.size w2 X2) := HX.out.trans (b.mono HX.out.size)
      have HZN : Hid (X2.heap[pa]? = some (.cells #[.int .i64 0, .slice none 0 0, .string ⟨#[]⟩] 32) ∧ w2.heap.size ≤ pa) := ⟨blk_below HZ.out.1 b, HZ.out.2⟩
      clear HZ
      have HZ := HZN
      clear HZN
      have HTt0 : Hid (X2.ownsRow w2.heap.size 68 2 (.slice ot0 n0 pt0) n0 (flatF fs0)) := owns_wide ownt0 HX.out.size
      clear ownt0
      refine hK.out _ _ (HSS.out _ HXN.out) (fun _ => ?_)
      clear hK K HX b
      have HX := HXN
      clear HXN
      refine wpAnyH_ready (rs := [3]) (by kernel_rfl) (by simp) ?_
      refine AllReadyH.cons rfl (fun K hK => ?_) AllReadyH.nil
      go_simp
      refine (toResp_any am1 a1 n1 cap1 ab1 fs1 w.heap.size _ (HA1.out _ (hb2.trans (HX.out.mono hb2.size))) (hb2.trans (HX.out.mono hb2.size)).size hm1).mono ?_
      rintro e X3 ⟨vvt1, rfl, ownt1, b⟩
      obtain ⟨ot1, pt1, rfl⟩ := slice_of_owns ownt1
      have HXN : Hid (Below w2.heap.size w2 X3) := HX.out.trans (b.mono HX.out.size)
      have HTN : Hid (X3.ownsRow w2.heap.size 68 2 (.slice ot0 n0 pt0) n0 (flatF fs0)) := owns_below HTt0.out b (fun g hg => owns_lt HTt0.out hg)
      clear HTt0
      have HTt0 := HTN
      clear HTN
      have HZN : Hid (X3.heap[pa]? = some (.cells #[.int .i64 0, .slice none 0 0, .string ⟨#[]⟩] 32) ∧ w2.heap.size ≤ pa) := ⟨blk_below HZ.out.1 b, HZ.out.2⟩
      clear HZ
      have HZ := HZN
      clear HZN
      have HTt1 : Hid (X3.ownsRow w2.heap.size 68 2 (.slice ot1 n1 pt1) n1 (flatF fs1)) := owns_wide ownt1 HX.out.size
      clear ownt1
      refine hK.out _ _ (HSS.out _ HXN.out) (fun _ => ?_)
      clear hK K HX b
      have HX := HXN
      clear HXN
      refine wpAnyH_ready (rs := [4]) (by kernel_rfl) (by simp) ?_
      refine AllReadyH.cons rfl (fun K hK => ?_) AllReadyH.nil
      go_simp
      refine (HSP.out _ _ _ _ _ (FieldsV.of_owns HTt0.out) (FieldsV.of_owns HTt1.out)).mono ?_
      rintro e X4 ⟨vvs, rfl, owns, b⟩
      obtain ⟨os, ps, rfl⟩ := slice_of_owns owns
      have HXN : Hid (Below w2.heap.size w2 X4) := HX.out.trans (b.mono HX.out.size)
      have HTN : Hid (X4.ownsRow w2.heap.size 68 2 (.slice ot0 n0 pt0) n0 (flatF fs0)) := owns_below HTt0.out b (fun g hg => owns_lt HTt0.out hg)
      clear HTt0
      have HTt0 := HTN
      clear HTN
      have HTN : Hid (X4.ownsRow w2.heap.size 68 2 (.slice ot1 n1 pt1) n1 (flatF fs1)) := owns_below HTt1.out b (fun g hg => owns_lt HTt1.out hg)
      clear HTt1
      have HTt1 := HTN
      clear HTN
      have HZN : Hid (X4.heap[pa]? = some (.cells #[.int .i64 0, .slice none 0 0, .string ⟨#[]⟩] 32) ∧ w2.heap.size ≤ pa) := ⟨blk_below HZ.out.1 b, HZ.out.2⟩
      clear HZ
      have HZ := HZN
      clear HZN
      have HTs : Hid (X4.ownsRow w2.heap.size 68 2 (.slice os np ps) np (flatF P)) := owns_wide owns HX.out.size
      clear owns
      refine hK.out _ _ (HSS.out _ HXN.out) (fun _ => ?_)
      clear hK K HX b
      have HX := HXN
      clear HXN
      obtain ⟨Y, hY⟩ : ∃ Y, Y = threeSet X4 pa (.int .i64 am0) (.slice os np ps) (.string ab0) := ⟨_, rfl⟩
      have HY : Hid (threeSet X4 pa (.int .i64 am0) (.slice os np ps) (.string ab0) = Y) := hY.symm
      have HF : Hid (Below w2.heap.size w2 Y ∧ Y.heap[pa]? = some (.cells #[.int .i64 am0, .slice os np ps, .string ab0] 32) ∧ Y.ownsRow w2.heap.size 68 2 (.slice os np ps) np (flatF P)) := by
        show _ ∧ _ ∧ _
        rw [hY]
        exact ⟨below_three HX.out HZ.out.2, three_set HZ.out.1 _ _ _, owns_same HTs.out (fun j hj => three_oth _ _ j _ _ _ (own_ne HTs.out HZ.out.1 (by decide) j hj))⟩
      obtain ⟨⟨e0, e1, e2⟩, g0, g1, g2⟩ := three_facts HZ.out.1
      have hs9 := HSS.out _ HF.out.1
      unfold threeSet at HY
      clear hY HX HZ HTt0 HTt1 HTs
      refine wpAnyH_ready (rs := [6]) (by kernel_rfl) (by simp) ?_
      refine AllReadyH.cons rfl (fun K hK => ?_) AllReadyH.nil
      go_simp
      rw [HY.out]
      refine hK.out _ _ hs9 (fun _ => ?_)
      clear hK K HY hs9 e0 g0 e1 g1 e2 g2
      refine wpAnyH_done (by kernel_rfl) ?_ _
      go_wp2_with fail
      go_meet
      exact ⟨pa, os, ps, rfl, HF⟩
  case rest =>
  obtain ⟨qbs, os, ps, hsx, HF⟩ := hcut
  rw [hsx]
  obtain ⟨w3, hwj⟩ : ∃ W, W = wc := ⟨_, rfl⟩
  rw [← hwj] at HF ⊢
  clear hsx hwj HSS
  obtain ⟨b, hcell, owns⟩ := HF.out
  have hb3 : Below w.heap.size w (w3) := hb2.trans (b.mono hb2.size)
  have HM3 : Hid ((w2).heap.size ≤ (w3).heap.size) := b.size
  have HBa0_3 : Hid ((w3).heap[rq]? = some (.cells #[.int .i64 am0, .slice a0 n0 cap0, .string ab0] 43)) := blk_below HBa0_2.out b
  have HBa1_3 : Hid ((w3).heap[rq + 1]? = some (.cells #[.int .i64 am1, .slice a1 n1 cap1, .string ab1] 43)) := blk_below HBa1_2.out b
  have HOs_3 : Hid ((w3).ownsRow w.heap.size 68 2 (.slice os np ps) np (flatF P)) := owns_wide owns hb2.size
  have LOs : Hid (∀ g, (Value.ownBlock (.slice os np ps)) = some g → (w2).heap.size ≤ g) := fun g hg => owns_ge owns hg
  have HIs : Hid (∀ g, (Value.ownBlock (.slice os np ps)) = some g → g < (w3).heap.size) := fun g hg => owns_lt owns hg
  clear owns
  have HBbs_3 : Hid ((w3).heap[qbs]? = some (.cells #[.int .i64 am0, .slice os np ps, .string ab0] 32)) := hcell
  clear hb2 HBa0_2 HBa1_2 b hcell HF
  obtain ⟨⟨ca00, ca01, ca02⟩, _⟩ := three_facts HBa0_3.out
  go_wp2_with fail
  refine (toResp_any am0 a0 n0 cap0 ab0 fs0 w.heap.size _ (HA0.out _ hb3) hb3.size hm0).mono ?_
  rintro e w4 ⟨vvx0, rfl, ownx0, b⟩
  obtain ⟨ox0, px0, rfl⟩ := slice_of_owns ownx0
  have hb4 : Below w.heap.size w (w4) := hb3.trans (b.mono hb3.size)
  have HM4 : Hid ((w3).heap.size ≤ (w4).heap.size) := b.size
  have HOs_4 : Hid ((w4).ownsRow w.heap.size 68 2 (.slice os np ps) np (flatF P)) := owns_below HOs_3.out b (fun g hg => owns_lt HOs_3.out hg)
  have HBa0_4 : Hid ((w4).heap[rq]? = some (.cells #[.int .i64 am0, .slice a0 n0 cap0, .string ab0] 43)) := blk_below HBa0_3.out b
  have HBa1_4 : Hid ((w4).heap[rq + 1]? = some (.cells #[.int .i64 am1, .slice a1 n1 cap1, .string ab1] 43)) := blk_below HBa1_3.out b
  have HBbs_4 : Hid ((w4).heap[qbs]? = some (.cells #[.int .i64 am0, .slice os np ps, .string ab0] 32)) := blk_below HBbs_3.out b
  have HOx0_4 : Hid ((w4).ownsRow w.heap.size 68 2 (.slice ox0 n0 px0) n0 (flatF fs0)) := owns_wide ownx0 hb3.size
  have LOx0 : Hid (∀ g, (Value.ownBlock (.slice ox0 n0 px0)) = some g → (w3).heap.size ≤ g) := fun g hg => owns_ge ownx0 hg
  have HIx0 : Hid (∀ g, (Value.ownBlock (.slice ox0 n0 px0)) = some g → g < (w4).heap.size) := fun g hg => owns_lt ownx0 hg
  clear ownx0
  clear hb3 HOs_3 HBa0_3 HBa1_3 HBbs_3 ca00 ca01 ca02 b
  go_upto_region 10 with fail
  obtain ⟨qbx0, hqbx0⟩ : ∃ q, q = (w4).heap.size := ⟨_, rfl⟩
  obtain ⟨w5, hW5⟩ : ∃ W, W = (w4).alloc (.cells #[.int .i64 am0, .slice ox0 n0 px0, .string ab0] 32) := ⟨_, rfl⟩
  rw [← hW5, ← hqbx0]
  have b : Below (w4).heap.size (w4) w5 := by rw [hW5]; exact (Below.refl _ _).alloc (Nat.le_refl _) _
  have hb5 : Below w.heap.size w (w5) := hb4.trans (b.mono hb4.size)
  have HM5 : Hid ((w4).heap.size ≤ (w5).heap.size) := b.size
  have HOs_5 : Hid ((w5).ownsRow w.heap.size 68 2 (.slice os np ps) np (flatF P)) := owns_below HOs_4.out b (fun g hg => owns_lt HOs_4.out hg)
  have HOx0_5 : Hid ((w5).ownsRow w.heap.size 68 2 (.slice ox0 n0 px0) n0 (flatF fs0)) := owns_below HOx0_4.out b (fun g hg => owns_lt HOx0_4.out hg)
  have HBa0_5 : Hid ((w5).heap[rq]? = some (.cells #[.int .i64 am0, .slice a0 n0 cap0, .string ab0] 43)) := blk_below HBa0_4.out b
  have HBa1_5 : Hid ((w5).heap[rq + 1]? = some (.cells #[.int .i64 am1, .slice a1 n1 cap1, .string ab1] 43)) := blk_below HBa1_4.out b
  have HBbs_5 : Hid ((w5).heap[qbs]? = some (.cells #[.int .i64 am0, .slice os np ps, .string ab0] 32)) := blk_below HBbs_4.out b
  have HBbx0_5 : Hid ((w5).heap[qbx0]? = some (.cells #[.int .i64 am0, .slice ox0 n0 px0, .string ab0] 32)) := by show _ = _; rw [hW5, hqbx0]; exact heap_alloc_new _ _
  clear hb4 HOs_4 HOx0_4 HBa0_4 HBa1_4 HBbs_4 b hW5 hqbx0
  obtain ⟨⟨ca10, ca11, ca12⟩, _⟩ := three_facts HBa1_5.out
  go_wp2_with fail
  refine (toResp_any am1 a1 n1 cap1 ab1 fs1 w.heap.size _ (HA1.out _ hb5) hb5.size hm1).mono ?_
  rintro e w6 ⟨vvx1, rfl, ownx1, b⟩
  obtain ⟨ox1, px1, rfl⟩ := slice_of_owns ownx1
  have hb6 : Below w.heap.size w (w6) := hb5.trans (b.mono hb5.size)
  have HM6 : Hid ((w5).heap.size ≤ (w6).heap.size) := b.size
  have HOs_6 : Hid ((w6).ownsRow w.heap.size 68 2 (.slice os np ps) np (flatF P)) := owns_below HOs_5.out b (fun g hg => owns_lt HOs_5.out hg)
  have HOx0_6 : Hid ((w6).ownsRow w.heap.size 68 2 (.slice ox0 n0 px0) n0 (flatF fs0)) := owns_below HOx0_5.out b (fun g hg => owns_lt HOx0_5.out hg)
  have HBa0_6 : Hid ((w6).heap[rq]? = some (.cells #[.int .i64 am0, .slice a0 n0 cap0, .string ab0] 43)) := blk_below HBa0_5.out b
  have HBa1_6 : Hid ((w6).heap[rq + 1]? = some (.cells #[.int .i64 am1, .slice a1 n1 cap1, .string ab1] 43)) := blk_below HBa1_5.out b
  have HBbs_6 : Hid ((w6).heap[qbs]? = some (.cells #[.int .i64 am0, .slice os np ps, .string ab0] 32)) := blk_below HBbs_5.out b
  have HBbx0_6 : Hid ((w6).heap[qbx0]? = some (.cells #[.int .i64 am0, .slice ox0 n0 px0, .string ab0] 32)) := blk_below HBbx0_5.out b
  have HOx1_6 : Hid ((w6).ownsRow w.heap.size 68 2 (.slice ox1 n1 px1) n1 (flatF fs1)) := owns_wide ownx1 hb5.size
  have LOx1 : Hid (∀ g, (Value.ownBlock (.slice ox1 n1 px1)) = some g → (w5).heap.size ≤ g) := fun g hg => owns_ge ownx1 hg
  have HIx1 : Hid (∀ g, (Value.ownBlock (.slice ox1 n1 px1)) = some g → g < (w6).heap.size) := fun g hg => owns_lt ownx1 hg
  clear ownx1
  clear hb5 HOs_5 HOx0_5 HBa0_5 HBa1_5 HBbs_5 HBbx0_5 ca10 ca11 ca12 b
  go_upto_region 11 with fail
  obtain ⟨qbx1, hqbx1⟩ : ∃ q, q = (w6).heap.size := ⟨_, rfl⟩
  obtain ⟨w7, hW7⟩ : ∃ W, W = (w6).alloc (.cells #[.int .i64 am1, .slice ox1 n1 px1, .string ab1] 32) := ⟨_, rfl⟩
  rw [← hW7, ← hqbx1]
  have b : Below (w6).heap.size (w6) w7 := by rw [hW7]; exact (Below.refl _ _).alloc (Nat.le_refl _) _
  have hb7 : Below w.heap.size w (w7) := hb6.trans (b.mono hb6.size)
  have HM7 : Hid ((w6).heap.size ≤ (w7).heap.size) := b.size
  have HOs_7 : Hid ((w7).ownsRow w.heap.size 68 2 (.slice os np ps) np (flatF P)) := owns_below HOs_6.out b (fun g hg => owns_lt HOs_6.out hg)
  have HOx0_7 : Hid ((w7).ownsRow w.heap.size 68 2 (.slice ox0 n0 px0) n0 (flatF fs0)) := owns_below HOx0_6.out b (fun g hg => owns_lt HOx0_6.out hg)
  have HOx1_7 : Hid ((w7).ownsRow w.heap.size 68 2 (.slice ox1 n1 px1) n1 (flatF fs1)) := owns_below HOx1_6.out b (fun g hg => owns_lt HOx1_6.out hg)
  have HBa0_7 : Hid ((w7).heap[rq]? = some (.cells #[.int .i64 am0, .slice a0 n0 cap0, .string ab0] 43)) := blk_below HBa0_6.out b
  have HBa1_7 : Hid ((w7).heap[rq + 1]? = some (.cells #[.int .i64 am1, .slice a1 n1 cap1, .string ab1] 43)) := blk_below HBa1_6.out b
  have HBbs_7 : Hid ((w7).heap[qbs]? = some (.cells #[.int .i64 am0, .slice os np ps, .string ab0] 32)) := blk_below HBbs_6.out b
  have HBbx0_7 : Hid ((w7).heap[qbx0]? = some (.cells #[.int .i64 am0, .slice ox0 n0 px0, .string ab0] 32)) := blk_below HBbx0_6.out b
  have HBbx1_7 : Hid ((w7).heap[qbx1]? = some (.cells #[.int .i64 am1, .slice ox1 n1 px1, .string ab1] 32)) := by show _ = _; rw [hW7, hqbx1]; exact heap_alloc_new _ _
  clear hb6 HOs_6 HOx0_6 HOx1_6 HBa0_6 HBa1_6 HBbs_6 HBbx0_6 b hW7 hqbx1
  obtain ⟨⟨cbx00, cbx01, cbx02⟩, _⟩ := three_facts HBbx0_7.out
  obtain ⟨⟨cbx10, cbx11, cbx12⟩, _⟩ := three_facts HBbx1_7.out
  go_wp2_with fail
  refine (HIM.out _ _ _ _ _ (FieldsV.of_owns HOx0_7.out) (FieldsV.of_owns HOx1_7.out)).mono ?_
  rintro e w8 ⟨vvg, rfl, owng, b⟩
  obtain ⟨og, pg, rfl⟩ := slice_of_owns owng
  have hb8 : Below w.heap.size w (w8) := hb7.trans (b.mono hb7.size)
  have HM8 : Hid ((w7).heap.size ≤ (w8).heap.size) := b.size
  have HOs_8 : Hid ((w8).ownsRow w.heap.size 68 2 (.slice os np ps) np (flatF P)) := owns_below HOs_7.out b (fun g hg => owns_lt HOs_7.out hg)
  have HOx0_8 : Hid ((w8).ownsRow w.heap.size 68 2 (.slice ox0 n0 px0) n0 (flatF fs0)) := owns_below HOx0_7.out b (fun g hg => owns_lt HOx0_7.out hg)
  have HOx1_8 : Hid ((w8).ownsRow w.heap.size 68 2 (.slice ox1 n1 px1) n1 (flatF fs1)) := owns_below HOx1_7.out b (fun g hg => owns_lt HOx1_7.out hg)
  have HBa0_8 : Hid ((w8).heap[rq]? = some (.cells #[.int .i64 am0, .slice a0 n0 cap0, .string ab0] 43)) := blk_below HBa0_7.out b
  have HBa1_8 : Hid ((w8).heap[rq + 1]? = some (.cells #[.int .i64 am1, .slice a1 n1 cap1, .string ab1] 43)) := blk_below HBa1_7.out b
  have HBbs_8 : Hid ((w8).heap[qbs]? = some (.cells #[.int .i64 am0, .slice os np ps, .string ab0] 32)) := blk_below HBbs_7.out b
  have HBbx0_8 : Hid ((w8).heap[qbx0]? = some (.cells #[.int .i64 am0, .slice ox0 n0 px0, .string ab0] 32)) := blk_below HBbx0_7.out b
  have HBbx1_8 : Hid ((w8).heap[qbx1]? = some (.cells #[.int .i64 am1, .slice ox1 n1 px1, .string ab1] 32)) := blk_below HBbx1_7.out b
  have HOg_8 : Hid ((w8).ownsRow w.heap.size 68 2 (.slice og np pg) np (flatF P)) := owns_wide owng hb7.size
  have LOg : Hid (∀ g, (Value.ownBlock (.slice og np pg)) = some g → (w7).heap.size ≤ g) := fun g hg => owns_ge owng hg
  have HIg : Hid (∀ g, (Value.ownBlock (.slice og np pg)) = some g → g < (w8).heap.size) := fun g hg => owns_lt owng hg
  clear owng
  clear hb7 HOs_7 HOx0_7 HOx1_7 HBa0_7 HBa1_7 HBbs_7 HBbx0_7 HBbx1_7 cbx00 cbx01 cbx02 cbx10 cbx11 cbx12 b
  go_upto_region 12 with fail
  obtain ⟨qbg, hqbg⟩ : ∃ q, q = (w8).heap.size := ⟨_, rfl⟩
  obtain ⟨w9, hW9⟩ : ∃ W, W = (w8).alloc (.cells #[.int .i64 am0, .slice og np pg, .string ab0] 32) := ⟨_, rfl⟩
  rw [← hW9, ← hqbg]
  have b : Below (w8).heap.size (w8) w9 := by rw [hW9]; exact (Below.refl _ _).alloc (Nat.le_refl _) _
  have hb9 : Below w.heap.size w (w9) := hb8.trans (b.mono hb8.size)
  have HM9 : Hid ((w8).heap.size ≤ (w9).heap.size) := b.size
  have HOs_9 : Hid ((w9).ownsRow w.heap.size 68 2 (.slice os np ps) np (flatF P)) := owns_below HOs_8.out b (fun g hg => owns_lt HOs_8.out hg)
  have HOx0_9 : Hid ((w9).ownsRow w.heap.size 68 2 (.slice ox0 n0 px0) n0 (flatF fs0)) := owns_below HOx0_8.out b (fun g hg => owns_lt HOx0_8.out hg)
  have HOx1_9 : Hid ((w9).ownsRow w.heap.size 68 2 (.slice ox1 n1 px1) n1 (flatF fs1)) := owns_below HOx1_8.out b (fun g hg => owns_lt HOx1_8.out hg)
  have HOg_9 : Hid ((w9).ownsRow w.heap.size 68 2 (.slice og np pg) np (flatF P)) := owns_below HOg_8.out b (fun g hg => owns_lt HOg_8.out hg)
  have HBa0_9 : Hid ((w9).heap[rq]? = some (.cells #[.int .i64 am0, .slice a0 n0 cap0, .string ab0] 43)) := blk_below HBa0_8.out b
  have HBa1_9 : Hid ((w9).heap[rq + 1]? = some (.cells #[.int .i64 am1, .slice a1 n1 cap1, .string ab1] 43)) := blk_below HBa1_8.out b
  have HBbs_9 : Hid ((w9).heap[qbs]? = some (.cells #[.int .i64 am0, .slice os np ps, .string ab0] 32)) := blk_below HBbs_8.out b
  have HBbx0_9 : Hid ((w9).heap[qbx0]? = some (.cells #[.int .i64 am0, .slice ox0 n0 px0, .string ab0] 32)) := blk_below HBbx0_8.out b
  have HBbx1_9 : Hid ((w9).heap[qbx1]? = some (.cells #[.int .i64 am1, .slice ox1 n1 px1, .string ab1] 32)) := blk_below HBbx1_8.out b
  have HBbg_9 : Hid ((w9).heap[qbg]? = some (.cells #[.int .i64 am0, .slice og np pg, .string ab0] 32)) := by show _ = _; rw [hW9, hqbg]; exact heap_alloc_new _ _
  clear hb8 HOs_8 HOx0_8 HOx1_8 HOg_8 HBa0_8 HBa1_8 HBbs_8 HBbx0_8 HBbx1_8 b hW9 hqbg
  obtain ⟨⟨cbg0, cbg1, cbg2⟩, _⟩ := three_facts HBbg_9.out
  obtain ⟨⟨cbs0, cbs1, cbs2⟩, _⟩ := three_facts HBbs_9.out
  go_wp2_with fail
  refine (eqResp_any am0 _ _ ab0 np _ _ P _ (FieldsV.of_owns HOg_9.out) (FieldsV.of_owns HOs_9.out) (by omega)).mono ?_
  rintro e w10 ⟨rfl, b⟩
  have hb10 : Below w.heap.size w (w10) := hb9.trans (b.mono hb9.size)
  have HM10 : Hid ((w9).heap.size ≤ (w10).heap.size) := b.size
  have HOs_10 : Hid ((w10).ownsRow w.heap.size 68 2 (.slice os np ps) np (flatF P)) := owns_below HOs_9.out b (fun g hg => owns_lt HOs_9.out hg)
  have HOx0_10 : Hid ((w10).ownsRow w.heap.size 68 2 (.slice ox0 n0 px0) n0 (flatF fs0)) := owns_below HOx0_9.out b (fun g hg => owns_lt HOx0_9.out hg)
  have HOx1_10 : Hid ((w10).ownsRow w.heap.size 68 2 (.slice ox1 n1 px1) n1 (flatF fs1)) := owns_below HOx1_9.out b (fun g hg => owns_lt HOx1_9.out hg)
  have HOg_10 : Hid ((w10).ownsRow w.heap.size 68 2 (.slice og np pg) np (flatF P)) := owns_below HOg_9.out b (fun g hg => owns_lt HOg_9.out hg)
  have HBa0_10 : Hid ((w10).heap[rq]? = some (.cells #[.int .i64 am0, .slice a0 n0 cap0, .string ab0] 43)) := blk_below HBa0_9.out b
  have HBa1_10 : Hid ((w10).heap[rq + 1]? = some (.cells #[.int .i64 am1, .slice a1 n1 cap1, .string ab1] 43)) := blk_below HBa1_9.out b
  have HBbs_10 : Hid ((w10).heap[qbs]? = some (.cells #[.int .i64 am0, .slice os np ps, .string ab0] 32)) := blk_below HBbs_9.out b
  have HBbx0_10 : Hid ((w10).heap[qbx0]? = some (.cells #[.int .i64 am0, .slice ox0 n0 px0, .string ab0] 32)) := blk_below HBbx0_9.out b
  have HBbx1_10 : Hid ((w10).heap[qbx1]? = some (.cells #[.int .i64 am1, .slice ox1 n1 px1, .string ab1] 32)) := blk_below HBbx1_9.out b
  have HBbg_10 : Hid ((w10).heap[qbg]? = some (.cells #[.int .i64 am0, .slice og np pg, .string ab0] 32)) := blk_below HBbg_9.out b
  clear hb9 HOs_9 HOx0_9 HOx1_9 HOg_9 HBa0_9 HBa1_9 HBbs_9 HBbx0_9 HBbx1_9 HBbg_9 cbg0 cbg1 cbg2 cbs0 cbs1 cbs2 b
  have bd11 : Below (w10).heap.size (w10) (w10).drew := (Below.refl _ _).drew
  have hb11 : Below w.heap.size w (w10.drew) := hb10.trans (bd11.mono hb10.size)
  have HM11 : Hid ((w10).heap.size ≤ (w10.drew).heap.size) := bd11.size
  have HOs_11 : Hid ((w10.drew).ownsRow w.heap.size 68 2 (.slice os np ps) np (flatF P)) := owns_below HOs_10.out bd11 (fun g hg => owns_lt HOs_10.out hg)
  have HOx0_11 : Hid ((w10.drew).ownsRow w.heap.size 68 2 (.slice ox0 n0 px0) n0 (flatF fs0)) := owns_below HOx0_10.out bd11 (fun g hg => owns_lt HOx0_10.out hg)
  have HOx1_11 : Hid ((w10.drew).ownsRow w.heap.size 68 2 (.slice ox1 n1 px1) n1 (flatF fs1)) := owns_below HOx1_10.out bd11 (fun g hg => owns_lt HOx1_10.out hg)
  have HOg_11 : Hid ((w10.drew).ownsRow w.heap.size 68 2 (.slice og np pg) np (flatF P)) := owns_below HOg_10.out bd11 (fun g hg => owns_lt HOg_10.out hg)
  have HBa0_11 : Hid ((w10.drew).heap[rq]? = some (.cells #[.int .i64 am0, .slice a0 n0 cap0, .string ab0] 43)) := blk_below HBa0_10.out bd11
  have HBa1_11 : Hid ((w10.drew).heap[rq + 1]? = some (.cells #[.int .i64 am1, .slice a1 n1 cap1, .string ab1] 43)) := blk_below HBa1_10.out bd11
  have HBbs_11 : Hid ((w10.drew).heap[qbs]? = some (.cells #[.int .i64 am0, .slice os np ps, .string ab0] 32)) := blk_below HBbs_10.out bd11
  have HBbx0_11 : Hid ((w10.drew).heap[qbx0]? = some (.cells #[.int .i64 am0, .slice ox0 n0 px0, .string ab0] 32)) := blk_below HBbx0_10.out bd11
  have HBbx1_11 : Hid ((w10.drew).heap[qbx1]? = some (.cells #[.int .i64 am1, .slice ox1 n1 px1, .string ab1] 32)) := blk_below HBbx1_10.out bd11
  have HBbg_11 : Hid ((w10.drew).heap[qbg]? = some (.cells #[.int .i64 am0, .slice og np pg, .string ab0] 32)) := blk_below HBbg_10.out bd11
  obtain ⟨⟨cbx00, cbx01, cbx02⟩, _⟩ := three_facts HBbx0_10.out
  obtain ⟨⟨ca00, ca01, ca02⟩, _⟩ := three_facts HBa0_10.out
  clear hb10 HOs_10 HOx0_10 HOx1_10 HOg_10 HBa0_10 HBa1_10 HBbs_10 HBbx0_10 HBbx1_10 HBbg_10 bd11
  go_wp2_with fail
  go_region_held3 (fun W => (W.cell? ⟨qbx0, 0, none⟩ = some (.int .i64 am0) ∧ W.cell? ⟨qbx0, 1, none⟩ = some (.slice ox0 n0 px0) ∧ W.cell? ⟨qbx0, 2, none⟩ = some (.string ab0)) ∧ (W.cell? ⟨rq, 0, none⟩ = some (.int .i64 am0) ∧ W.cell? ⟨rq, 1, none⟩ = some (.slice a0 n0 cap0) ∧ W.cell? ⟨rq, 2, none⟩ = some (.string ab0))) (first | assumption | go_keep) (first | (go_at_call_of 26 (Value.agg #[.int .i64 am0, .slice a0 n0 cap0, .string ab0]); refine (toResp_any am0 a0 n0 cap0 ab0 fs0 w.heap.size _ (HA0.out _ hb11) hb11.size hm0).mono ?_; rintro e w12 ⟨vvz0, rfl, ownz0, b⟩; obtain ⟨oz0, pz0, rfl⟩ := slice_of_owns ownz0; have hb12 : Below w.heap.size w (w12) := hb11.trans (b.mono hb11.size); have HM12 : Hid ((w10.drew).heap.size ≤ (w12).heap.size) := b.size; have HOs_12 : Hid ((w12).ownsRow w.heap.size 68 2 (.slice os np ps) np (flatF P)) := owns_below HOs_11.out b (fun g hg => owns_lt HOs_11.out hg); have HOx0_12 : Hid ((w12).ownsRow w.heap.size 68 2 (.slice ox0 n0 px0) n0 (flatF fs0)) := owns_below HOx0_11.out b (fun g hg => owns_lt HOx0_11.out hg); have HOx1_12 : Hid ((w12).ownsRow w.heap.size 68 2 (.slice ox1 n1 px1) n1 (flatF fs1)) := owns_below HOx1_11.out b (fun g hg => owns_lt HOx1_11.out hg); have HOg_12 : Hid ((w12).ownsRow w.heap.size 68 2 (.slice og np pg) np (flatF P)) := owns_below HOg_11.out b (fun g hg => owns_lt HOg_11.out hg); have HBa0_12 : Hid ((w12).heap[rq]? = some (.cells #[.int .i64 am0, .slice a0 n0 cap0, .string ab0] 43)) := blk_below HBa0_11.out b; have HBa1_12 : Hid ((w12).heap[rq + 1]? = some (.cells #[.int .i64 am1, .slice a1 n1 cap1, .string ab1] 43)) := blk_below HBa1_11.out b; have HBbs_12 : Hid ((w12).heap[qbs]? = some (.cells #[.int .i64 am0, .slice os np ps, .string ab0] 32)) := blk_below HBbs_11.out b; have HBbx0_12 : Hid ((w12).heap[qbx0]? = some (.cells #[.int .i64 am0, .slice ox0 n0 px0, .string ab0] 32)) := blk_below HBbx0_11.out b; have HBbx1_12 : Hid ((w12).heap[qbx1]? = some (.cells #[.int .i64 am1, .slice ox1 n1 px1, .string ab1] 32)) := blk_below HBbx1_11.out b; have HBbg_12 : Hid ((w12).heap[qbg]? = some (.cells #[.int .i64 am0, .slice og np pg, .string ab0] 32)) := blk_below HBbg_11.out b; have HOz0_12 : Hid ((w12).ownsRow w.heap.size 68 2 (.slice oz0 n0 pz0) n0 (flatF fs0)) := owns_wide ownz0 hb11.size; have LOz0 : Hid (∀ g, (Value.ownBlock (.slice oz0 n0 pz0)) = some g → (w10.drew).heap.size ≤ g) := fun g hg => owns_ge ownz0 hg; have HIz0 : Hid (∀ g, (Value.ownBlock (.slice oz0 n0 pz0)) = some g → g < (w12).heap.size) := fun g hg => owns_lt ownz0 hg; clear ownz0; have hSS12 : (w12.cell? ⟨qbx0, 0, none⟩ = some (.int .i64 am0) ∧ w12.cell? ⟨qbx0, 1, none⟩ = some (.slice ox0 n0 px0) ∧ w12.cell? ⟨qbx0, 2, none⟩ = some (.string ab0)) ∧ (w12.cell? ⟨rq, 0, none⟩ = some (.int .i64 am0) ∧ w12.cell? ⟨rq, 1, none⟩ = some (.slice a0 n0 cap0) ∧ w12.cell? ⟨rq, 2, none⟩ = some (.string ab0)) := ⟨(three_facts HBbx0_12.out).1, (three_facts HBa0_12.out).1⟩; clear hb11 HOs_11 HOx0_11 HOx1_11 HOg_11 HBa0_11 HBa1_11 HBbs_11 HBbx0_11 HBbx1_11 HBbg_11 b) | (go_at_call 29; refine (eqResp_any am0 _ _ ab0 n0 _ _ fs0 _ (FieldsV.of_owns HOx0_12.out) (FieldsV.of_owns HOz0_12.out) (by omega)).mono ?_; rintro e w13 ⟨rfl, b⟩; have hb13 : Below w.heap.size w (w13) := hb12.trans (b.mono hb12.size); have HM13 : Hid ((w12).heap.size ≤ (w13).heap.size) := b.size; have HOs_13 : Hid ((w13).ownsRow w.heap.size 68 2 (.slice os np ps) np (flatF P)) := owns_below HOs_12.out b (fun g hg => owns_lt HOs_12.out hg); have HOx0_13 : Hid ((w13).ownsRow w.heap.size 68 2 (.slice ox0 n0 px0) n0 (flatF fs0)) := owns_below HOx0_12.out b (fun g hg => owns_lt HOx0_12.out hg); have HOx1_13 : Hid ((w13).ownsRow w.heap.size 68 2 (.slice ox1 n1 px1) n1 (flatF fs1)) := owns_below HOx1_12.out b (fun g hg => owns_lt HOx1_12.out hg); have HOg_13 : Hid ((w13).ownsRow w.heap.size 68 2 (.slice og np pg) np (flatF P)) := owns_below HOg_12.out b (fun g hg => owns_lt HOg_12.out hg); have HOz0_13 : Hid ((w13).ownsRow w.heap.size 68 2 (.slice oz0 n0 pz0) n0 (flatF fs0)) := owns_below HOz0_12.out b (fun g hg => owns_lt HOz0_12.out hg); have HBa0_13 : Hid ((w13).heap[rq]? = some (.cells #[.int .i64 am0, .slice a0 n0 cap0, .string ab0] 43)) := blk_below HBa0_12.out b; have HBa1_13 : Hid ((w13).heap[rq + 1]? = some (.cells #[.int .i64 am1, .slice a1 n1 cap1, .string ab1] 43)) := blk_below HBa1_12.out b; have HBbs_13 : Hid ((w13).heap[qbs]? = some (.cells #[.int .i64 am0, .slice os np ps, .string ab0] 32)) := blk_below HBbs_12.out b; have HBbx0_13 : Hid ((w13).heap[qbx0]? = some (.cells #[.int .i64 am0, .slice ox0 n0 px0, .string ab0] 32)) := blk_below HBbx0_12.out b; have HBbx1_13 : Hid ((w13).heap[qbx1]? = some (.cells #[.int .i64 am1, .slice ox1 n1 px1, .string ab1] 32)) := blk_below HBbx1_12.out b; have HBbg_13 : Hid ((w13).heap[qbg]? = some (.cells #[.int .i64 am0, .slice og np pg, .string ab0] 32)) := blk_below HBbg_12.out b; have hSS13 : (w13.cell? ⟨qbx0, 0, none⟩ = some (.int .i64 am0) ∧ w13.cell? ⟨qbx0, 1, none⟩ = some (.slice ox0 n0 px0) ∧ w13.cell? ⟨qbx0, 2, none⟩ = some (.string ab0)) ∧ (w13.cell? ⟨rq, 0, none⟩ = some (.int .i64 am0) ∧ w13.cell? ⟨rq, 1, none⟩ = some (.slice a0 n0 cap0) ∧ w13.cell? ⟨rq, 2, none⟩ = some (.string ab0)) := ⟨(three_facts HBbx0_13.out).1, (three_facts HBa0_13.out).1⟩; clear hb12 HOs_12 HOx0_12 HOx1_12 HOg_12 HOz0_12 HBa0_12 HBa1_12 HBbs_12 HBbx0_12 HBbx1_12 HBbg_12 b; clear HOz0_13))
  clear hSS13
  have bd14 : Below (w13).heap.size (w13) (w13).drew := (Below.refl _ _).drew
  have hb14 : Below w.heap.size w (w13.drew) := hb13.trans (bd14.mono hb13.size)
  have HM14 : Hid ((w13).heap.size ≤ (w13.drew).heap.size) := bd14.size
  have HOs_14 : Hid ((w13.drew).ownsRow w.heap.size 68 2 (.slice os np ps) np (flatF P)) := owns_below HOs_13.out bd14 (fun g hg => owns_lt HOs_13.out hg)
  have HOx0_14 : Hid ((w13.drew).ownsRow w.heap.size 68 2 (.slice ox0 n0 px0) n0 (flatF fs0)) := owns_below HOx0_13.out bd14 (fun g hg => owns_lt HOx0_13.out hg)
  have HOx1_14 : Hid ((w13.drew).ownsRow w.heap.size 68 2 (.slice ox1 n1 px1) n1 (flatF fs1)) := owns_below HOx1_13.out bd14 (fun g hg => owns_lt HOx1_13.out hg)
  have HOg_14 : Hid ((w13.drew).ownsRow w.heap.size 68 2 (.slice og np pg) np (flatF P)) := owns_below HOg_13.out bd14 (fun g hg => owns_lt HOg_13.out hg)
  have HBa0_14 : Hid ((w13.drew).heap[rq]? = some (.cells #[.int .i64 am0, .slice a0 n0 cap0, .string ab0] 43)) := blk_below HBa0_13.out bd14
  have HBa1_14 : Hid ((w13.drew).heap[rq + 1]? = some (.cells #[.int .i64 am1, .slice a1 n1 cap1, .string ab1] 43)) := blk_below HBa1_13.out bd14
  have HBbs_14 : Hid ((w13.drew).heap[qbs]? = some (.cells #[.int .i64 am0, .slice os np ps, .string ab0] 32)) := blk_below HBbs_13.out bd14
  have HBbx0_14 : Hid ((w13.drew).heap[qbx0]? = some (.cells #[.int .i64 am0, .slice ox0 n0 px0, .string ab0] 32)) := blk_below HBbx0_13.out bd14
  have HBbx1_14 : Hid ((w13.drew).heap[qbx1]? = some (.cells #[.int .i64 am1, .slice ox1 n1 px1, .string ab1] 32)) := blk_below HBbx1_13.out bd14
  have HBbg_14 : Hid ((w13.drew).heap[qbg]? = some (.cells #[.int .i64 am0, .slice og np pg, .string ab0] 32)) := blk_below HBbg_13.out bd14
  obtain ⟨⟨cbx10, cbx11, cbx12⟩, _⟩ := three_facts HBbx1_13.out
  obtain ⟨⟨ca10, ca11, ca12⟩, _⟩ := three_facts HBa1_13.out
  clear hb13 HOs_13 HOx0_13 HOx1_13 HOg_13 HBa0_13 HBa1_13 HBbs_13 HBbx0_13 HBbx1_13 HBbg_13 bd14
  go_wp2_with fail
  go_region_held3 (fun W => (W.cell? ⟨qbx1, 0, none⟩ = some (.int .i64 am1) ∧ W.cell? ⟨qbx1, 1, none⟩ = some (.slice ox1 n1 px1) ∧ W.cell? ⟨qbx1, 2, none⟩ = some (.string ab1)) ∧ (W.cell? ⟨rq + 1, 0, none⟩ = some (.int .i64 am1) ∧ W.cell? ⟨rq + 1, 1, none⟩ = some (.slice a1 n1 cap1) ∧ W.cell? ⟨rq + 1, 2, none⟩ = some (.string ab1))) (first | assumption | go_keep) (first | (go_at_call_of 26 (Value.agg #[.int .i64 am1, .slice a1 n1 cap1, .string ab1]); refine (toResp_any am1 a1 n1 cap1 ab1 fs1 w.heap.size _ (HA1.out _ hb14) hb14.size hm1).mono ?_; rintro e w15 ⟨vvz1, rfl, ownz1, b⟩; obtain ⟨oz1, pz1, rfl⟩ := slice_of_owns ownz1; have hb15 : Below w.heap.size w (w15) := hb14.trans (b.mono hb14.size); have HM15 : Hid ((w13.drew).heap.size ≤ (w15).heap.size) := b.size; have HOs_15 : Hid ((w15).ownsRow w.heap.size 68 2 (.slice os np ps) np (flatF P)) := owns_below HOs_14.out b (fun g hg => owns_lt HOs_14.out hg); have HOx0_15 : Hid ((w15).ownsRow w.heap.size 68 2 (.slice ox0 n0 px0) n0 (flatF fs0)) := owns_below HOx0_14.out b (fun g hg => owns_lt HOx0_14.out hg); have HOx1_15 : Hid ((w15).ownsRow w.heap.size 68 2 (.slice ox1 n1 px1) n1 (flatF fs1)) := owns_below HOx1_14.out b (fun g hg => owns_lt HOx1_14.out hg); have HOg_15 : Hid ((w15).ownsRow w.heap.size 68 2 (.slice og np pg) np (flatF P)) := owns_below HOg_14.out b (fun g hg => owns_lt HOg_14.out hg); have HBa0_15 : Hid ((w15).heap[rq]? = some (.cells #[.int .i64 am0, .slice a0 n0 cap0, .string ab0] 43)) := blk_below HBa0_14.out b; have HBa1_15 : Hid ((w15).heap[rq + 1]? = some (.cells #[.int .i64 am1, .slice a1 n1 cap1, .string ab1] 43)) := blk_below HBa1_14.out b; have HBbs_15 : Hid ((w15).heap[qbs]? = some (.cells #[.int .i64 am0, .slice os np ps, .string ab0] 32)) := blk_below HBbs_14.out b; have HBbx0_15 : Hid ((w15).heap[qbx0]? = some (.cells #[.int .i64 am0, .slice ox0 n0 px0, .string ab0] 32)) := blk_below HBbx0_14.out b; have HBbx1_15 : Hid ((w15).heap[qbx1]? = some (.cells #[.int .i64 am1, .slice ox1 n1 px1, .string ab1] 32)) := blk_below HBbx1_14.out b; have HBbg_15 : Hid ((w15).heap[qbg]? = some (.cells #[.int .i64 am0, .slice og np pg, .string ab0] 32)) := blk_below HBbg_14.out b; have HOz1_15 : Hid ((w15).ownsRow w.heap.size 68 2 (.slice oz1 n1 pz1) n1 (flatF fs1)) := owns_wide ownz1 hb14.size; have LOz1 : Hid (∀ g, (Value.ownBlock (.slice oz1 n1 pz1)) = some g → (w13.drew).heap.size ≤ g) := fun g hg => owns_ge ownz1 hg; have HIz1 : Hid (∀ g, (Value.ownBlock (.slice oz1 n1 pz1)) = some g → g < (w15).heap.size) := fun g hg => owns_lt ownz1 hg; clear ownz1; have hSS15 : (w15.cell? ⟨qbx1, 0, none⟩ = some (.int .i64 am1) ∧ w15.cell? ⟨qbx1, 1, none⟩ = some (.slice ox1 n1 px1) ∧ w15.cell? ⟨qbx1, 2, none⟩ = some (.string ab1)) ∧ (w15.cell? ⟨rq + 1, 0, none⟩ = some (.int .i64 am1) ∧ w15.cell? ⟨rq + 1, 1, none⟩ = some (.slice a1 n1 cap1) ∧ w15.cell? ⟨rq + 1, 2, none⟩ = some (.string ab1)) := ⟨(three_facts HBbx1_15.out).1, (three_facts HBa1_15.out).1⟩; clear hb14 HOs_14 HOx0_14 HOx1_14 HOg_14 HBa0_14 HBa1_14 HBbs_14 HBbx0_14 HBbx1_14 HBbg_14 b) | (go_at_call 29; refine (eqResp_any am1 _ _ ab1 n1 _ _ fs1 _ (FieldsV.of_owns HOx1_15.out) (FieldsV.of_owns HOz1_15.out) (by omega)).mono ?_; rintro e w16 ⟨rfl, b⟩; have hb16 : Below w.heap.size w (w16) := hb15.trans (b.mono hb15.size); have HM16 : Hid ((w15).heap.size ≤ (w16).heap.size) := b.size; have HOs_16 : Hid ((w16).ownsRow w.heap.size 68 2 (.slice os np ps) np (flatF P)) := owns_below HOs_15.out b (fun g hg => owns_lt HOs_15.out hg); have HOx0_16 : Hid ((w16).ownsRow w.heap.size 68 2 (.slice ox0 n0 px0) n0 (flatF fs0)) := owns_below HOx0_15.out b (fun g hg => owns_lt HOx0_15.out hg); have HOx1_16 : Hid ((w16).ownsRow w.heap.size 68 2 (.slice ox1 n1 px1) n1 (flatF fs1)) := owns_below HOx1_15.out b (fun g hg => owns_lt HOx1_15.out hg); have HOg_16 : Hid ((w16).ownsRow w.heap.size 68 2 (.slice og np pg) np (flatF P)) := owns_below HOg_15.out b (fun g hg => owns_lt HOg_15.out hg); have HOz1_16 : Hid ((w16).ownsRow w.heap.size 68 2 (.slice oz1 n1 pz1) n1 (flatF fs1)) := owns_below HOz1_15.out b (fun g hg => owns_lt HOz1_15.out hg); have HBa0_16 : Hid ((w16).heap[rq]? = some (.cells #[.int .i64 am0, .slice a0 n0 cap0, .string ab0] 43)) := blk_below HBa0_15.out b; have HBa1_16 : Hid ((w16).heap[rq + 1]? = some (.cells #[.int .i64 am1, .slice a1 n1 cap1, .string ab1] 43)) := blk_below HBa1_15.out b; have HBbs_16 : Hid ((w16).heap[qbs]? = some (.cells #[.int .i64 am0, .slice os np ps, .string ab0] 32)) := blk_below HBbs_15.out b; have HBbx0_16 : Hid ((w16).heap[qbx0]? = some (.cells #[.int .i64 am0, .slice ox0 n0 px0, .string ab0] 32)) := blk_below HBbx0_15.out b; have HBbx1_16 : Hid ((w16).heap[qbx1]? = some (.cells #[.int .i64 am1, .slice ox1 n1 px1, .string ab1] 32)) := blk_below HBbx1_15.out b; have HBbg_16 : Hid ((w16).heap[qbg]? = some (.cells #[.int .i64 am0, .slice og np pg, .string ab0] 32)) := blk_below HBbg_15.out b; have hSS16 : (w16.cell? ⟨qbx1, 0, none⟩ = some (.int .i64 am1) ∧ w16.cell? ⟨qbx1, 1, none⟩ = some (.slice ox1 n1 px1) ∧ w16.cell? ⟨qbx1, 2, none⟩ = some (.string ab1)) ∧ (w16.cell? ⟨rq + 1, 0, none⟩ = some (.int .i64 am1) ∧ w16.cell? ⟨rq + 1, 1, none⟩ = some (.slice a1 n1 cap1) ∧ w16.cell? ⟨rq + 1, 2, none⟩ = some (.string ab1)) := ⟨(three_facts HBbx1_16.out).1, (three_facts HBa1_16.out).1⟩; clear hb15 HOs_15 HOx0_15 HOx1_15 HOg_15 HOz1_15 HBa0_15 HBa1_15 HBbs_15 HBbx0_15 HBbx1_15 HBbg_15 b; clear HOz1_16))
  clear hSS16
  obtain ⟨⟨cbx00, cbx01, cbx02⟩, _⟩ := three_facts HBbx0_16.out
  go_wp2_with fail
  refine (markRespFrom_any am0 _ ab0 n0 w.heap.size fs0 _ HOx0_16.out hb16.size (1) (by omega) (by omega)).mono ?_
  rintro e w17 ⟨rfl, mk, bm, far⟩
  have hb17 : Below w.heap.size w w17 := hb16.trans bm
  have HM17 : Hid ((w16).heap.size ≤ (w17).heap.size) := bm.size
  have HOs_17 : Hid ((w17).ownsRow w.heap.size 68 2 (.slice os np ps) np (flatF P)) := owns_same HOs_16.out (fun g hg => far g (owns_lt HOs_16.out hg) (fun e => by have h1 := LOx0.out g e; have h2 := HIs.out g hg; omega))
  have HOx1_17 : Hid ((w17).ownsRow w.heap.size 68 2 (.slice ox1 n1 px1) n1 (flatF fs1)) := owns_same HOx1_16.out (fun g hg => far g (owns_lt HOx1_16.out hg) (fun e => by have h1 := LOx1.out g hg; have h2 := HIx0.out g e; have := HM5.out; omega))
  have HOg_17 : Hid ((w17).ownsRow w.heap.size 68 2 (.slice og np pg) np (flatF P)) := owns_same HOg_16.out (fun g hg => far g (owns_lt HOg_16.out hg) (fun e => by have h1 := LOg.out g hg; have h2 := HIx0.out g e; have := HM5.out; have := HM6.out; have := HM7.out; omega))
  have HBa0_17 : Hid ((w17).heap[rq]? = some (.cells #[.int .i64 am0, .slice a0 n0 cap0, .string ab0] 43)) := blk_far HBa0_16.out far HOx0_16.out (by decide)
  have HBa1_17 : Hid ((w17).heap[rq + 1]? = some (.cells #[.int .i64 am1, .slice a1 n1 cap1, .string ab1] 43)) := blk_far HBa1_16.out far HOx0_16.out (by decide)
  have HBbs_17 : Hid ((w17).heap[qbs]? = some (.cells #[.int .i64 am0, .slice os np ps, .string ab0] 32)) := blk_far HBbs_16.out far HOx0_16.out (by decide)
  have HBbx0_17 : Hid ((w17).heap[qbx0]? = some (.cells #[.int .i64 am0, .slice ox0 n0 px0, .string ab0] 32)) := blk_far HBbx0_16.out far HOx0_16.out (by decide)
  have HBbx1_17 : Hid ((w17).heap[qbx1]? = some (.cells #[.int .i64 am1, .slice ox1 n1 px1, .string ab1] 32)) := blk_far HBbx1_16.out far HOx0_16.out (by decide)
  have HBbg_17 : Hid ((w17).heap[qbg]? = some (.cells #[.int .i64 am0, .slice og np pg, .string ab0] 32)) := blk_far HBbg_16.out far HOx0_16.out (by decide)
  have HOx0_17 : Hid ((w17).ownsRow w.heap.size 68 2 (.slice ox0 n0 px0) n0 (flatF (mkG (1) fs0 n0))) := mk
  clear hb16 HOs_16 HOx0_16 HOx1_16 HOg_16 HBa0_16 HBa1_16 HBbs_16 HBbx0_16 HBbx1_16 HBbg_16 cbx00 cbx01 cbx02 mk bm far
  clear HOx0_17 HBbx0_17
  rw [show ((((1 : Nat) : Int)) + 2 * (n0 : Int)) = ((1 + 2 * n0 : Nat) : Int) by omega]
  obtain ⟨⟨cbx10, cbx11, cbx12⟩, _⟩ := three_facts HBbx1_17.out
  go_wp2_with fail
  refine (markRespFrom_any am1 _ ab1 n1 w.heap.size fs1 _ HOx1_17.out hb17.size (1 + 2 * n0) (by omega) (by omega)).mono ?_
  rintro e w18 ⟨rfl, mk, bm, far⟩
  have hb18 : Below w.heap.size w w18 := hb17.trans bm
  have HM18 : Hid ((w17).heap.size ≤ (w18).heap.size) := bm.size
  have HOs_18 : Hid ((w18).ownsRow w.heap.size 68 2 (.slice os np ps) np (flatF P)) := owns_same HOs_17.out (fun g hg => far g (owns_lt HOs_17.out hg) (fun e => by have h1 := LOx1.out g e; have h2 := HIs.out g hg; have := HM4.out; have := HM5.out; omega))
  have HOg_18 : Hid ((w18).ownsRow w.heap.size 68 2 (.slice og np pg) np (flatF P)) := owns_same HOg_17.out (fun g hg => far g (owns_lt HOg_17.out hg) (fun e => by have h1 := LOg.out g hg; have h2 := HIx1.out g e; have := HM7.out; omega))
  have HBa0_18 : Hid ((w18).heap[rq]? = some (.cells #[.int .i64 am0, .slice a0 n0 cap0, .string ab0] 43)) := blk_far HBa0_17.out far HOx1_17.out (by decide)
  have HBa1_18 : Hid ((w18).heap[rq + 1]? = some (.cells #[.int .i64 am1, .slice a1 n1 cap1, .string ab1] 43)) := blk_far HBa1_17.out far HOx1_17.out (by decide)
  have HBbs_18 : Hid ((w18).heap[qbs]? = some (.cells #[.int .i64 am0, .slice os np ps, .string ab0] 32)) := blk_far HBbs_17.out far HOx1_17.out (by decide)
  have HBbx1_18 : Hid ((w18).heap[qbx1]? = some (.cells #[.int .i64 am1, .slice ox1 n1 px1, .string ab1] 32)) := blk_far HBbx1_17.out far HOx1_17.out (by decide)
  have HBbg_18 : Hid ((w18).heap[qbg]? = some (.cells #[.int .i64 am0, .slice og np pg, .string ab0] 32)) := blk_far HBbg_17.out far HOx1_17.out (by decide)
  have HOx1_18 : Hid ((w18).ownsRow w.heap.size 68 2 (.slice ox1 n1 px1) n1 (flatF (mkG (1 + 2 * n0) fs1 n1))) := mk
  clear hb17 HOs_17 HOx1_17 HOg_17 HBa0_17 HBa1_17 HBbs_17 HBbx1_17 HBbg_17 cbx10 cbx11 cbx12 mk bm far
  clear HOx1_18 HBbx1_18
  rw [show ((((1 + 2 * n0 : Nat) : Int)) + 2 * (n1 : Int)) = ((1 + 2 * n0 + 2 * n1 : Nat) : Int) by omega]
  have hk1 : ¬ (((1 + 2 * n0 + 2 * n1 : Nat) : Int) < 0) := by omega
  obtain ⟨⟨cbg0, cbg1, cbg2⟩, _⟩ := three_facts HBbg_18.out
  obtain ⟨⟨cbs0, cbs1, cbs2⟩, _⟩ := three_facts HBbs_18.out
  go_wp2_with fail
  refine (eqResp_any am0 _ _ ab0 np _ _ P _ (FieldsV.of_owns HOg_18.out) (FieldsV.of_owns HOs_18.out) (by omega)).mono ?_
  rintro e w19 ⟨rfl, b⟩
  have hb19 : Below w.heap.size w (w19) := hb18.trans (b.mono hb18.size)
  have HM19 : Hid ((w18).heap.size ≤ (w19).heap.size) := b.size
  have HOs_19 : Hid ((w19).ownsRow w.heap.size 68 2 (.slice os np ps) np (flatF P)) := owns_below HOs_18.out b (fun g hg => owns_lt HOs_18.out hg)
  have HOg_19 : Hid ((w19).ownsRow w.heap.size 68 2 (.slice og np pg) np (flatF P)) := owns_below HOg_18.out b (fun g hg => owns_lt HOg_18.out hg)
  have HBa0_19 : Hid ((w19).heap[rq]? = some (.cells #[.int .i64 am0, .slice a0 n0 cap0, .string ab0] 43)) := blk_below HBa0_18.out b
  have HBa1_19 : Hid ((w19).heap[rq + 1]? = some (.cells #[.int .i64 am1, .slice a1 n1 cap1, .string ab1] 43)) := blk_below HBa1_18.out b
  have HBbs_19 : Hid ((w19).heap[qbs]? = some (.cells #[.int .i64 am0, .slice os np ps, .string ab0] 32)) := blk_below HBbs_18.out b
  have HBbg_19 : Hid ((w19).heap[qbg]? = some (.cells #[.int .i64 am0, .slice og np pg, .string ab0] 32)) := blk_below HBbg_18.out b
  clear hb18 HOs_18 HOg_18 HBa0_18 HBa1_18 HBbs_18 HBbg_18 cbg0 cbg1 cbg2 cbs0 cbs1 cbs2 b
  clear hk1
  obtain ⟨⟨cbg0, cbg1, cbg2⟩, _⟩ := three_facts HBbg_19.out
  go_wp2_with fail
  refine (markRespFrom_any am0 _ ab0 np w.heap.size P _ HOg_19.out hb19.size 1 (by omega) (by omega)).mono ?_
  rintro e w20 ⟨rfl, mk, bm, far⟩
  have hb20 : Below w.heap.size w w20 := hb19.trans bm
  have HM20 : Hid ((w19).heap.size ≤ (w20).heap.size) := bm.size
  have HOs_20 : Hid ((w20).ownsRow w.heap.size 68 2 (.slice os np ps) np (flatF P)) := owns_same HOs_19.out (fun g hg => far g (owns_lt HOs_19.out hg) (fun e => by have h1 := LOg.out g e; have h2 := HIs.out g hg; have := HM4.out; have := HM5.out; have := HM6.out; have := HM7.out; omega))
  have HBa0_20 : Hid ((w20).heap[rq]? = some (.cells #[.int .i64 am0, .slice a0 n0 cap0, .string ab0] 43)) := blk_far HBa0_19.out far HOg_19.out (by decide)
  have HBa1_20 : Hid ((w20).heap[rq + 1]? = some (.cells #[.int .i64 am1, .slice a1 n1 cap1, .string ab1] 43)) := blk_far HBa1_19.out far HOg_19.out (by decide)
  have HBbs_20 : Hid ((w20).heap[qbs]? = some (.cells #[.int .i64 am0, .slice os np ps, .string ab0] 32)) := blk_far HBbs_19.out far HOg_19.out (by decide)
  have HBbg_20 : Hid ((w20).heap[qbg]? = some (.cells #[.int .i64 am0, .slice og np pg, .string ab0] 32)) := blk_far HBbg_19.out far HOg_19.out (by decide)
  have HOg_20 : Hid ((w20).ownsRow w.heap.size 68 2 (.slice og np pg) np (flatF (mkG 1 P np))) := mk
  clear hb19 HOs_19 HOg_19 HBa0_19 HBa1_19 HBbs_19 HBbg_19 cbg0 cbg1 cbg2 mk bm far
  rw [show ((((1 : Nat) : Int)) + 2 * (np : Int)) = ((1 + 2 * np : Nat) : Int) by omega]
  have HK : Hid (∀ j, j < np → nameAt (mkG 1 P np) j = markOf (1 + 2 * j) ∧ valAt (mkG 1 P np) j = markOf (1 + 2 * j + 1)) := fun j hj => mkG_at 1 P j np (by rw [HNP.out]; exact Nat.le_refl _) hj
  have hk2 : ¬ (((1 + 2 * np : Nat) : Int) < 0) := by omega
  have hk3 : ((((1 + 2 * np : Nat) : Int)) != (((1 + 2 * np : Nat) : Int))) = false := by simp
  obtain ⟨⟨cbg0, cbg1, cbg2⟩, _⟩ := three_facts HBbg_20.out
  go_wp2_with fail
  refine (heldRespFrom_any am0 _ ab0 np w.heap.size (mkG 1 P np) _ HOg_20.out 1 (by omega) (by omega) HK.out).mono ?_
  rintro e w21 ⟨rfl, b⟩
  have hb21 : Below w.heap.size w (w21) := hb20.trans (b.mono hb20.size)
  have HM21 : Hid ((w20).heap.size ≤ (w21).heap.size) := b.size
  have HOs_21 : Hid ((w21).ownsRow w.heap.size 68 2 (.slice os np ps) np (flatF P)) := owns_below HOs_20.out b (fun g hg => owns_lt HOs_20.out hg)
  have HOg_21 : Hid ((w21).ownsRow w.heap.size 68 2 (.slice og np pg) np (flatF (mkG 1 P np))) := owns_below HOg_20.out b (fun g hg => owns_lt HOg_20.out hg)
  have HBa0_21 : Hid ((w21).heap[rq]? = some (.cells #[.int .i64 am0, .slice a0 n0 cap0, .string ab0] 43)) := blk_below HBa0_20.out b
  have HBa1_21 : Hid ((w21).heap[rq + 1]? = some (.cells #[.int .i64 am1, .slice a1 n1 cap1, .string ab1] 43)) := blk_below HBa1_20.out b
  have HBbs_21 : Hid ((w21).heap[qbs]? = some (.cells #[.int .i64 am0, .slice os np ps, .string ab0] 32)) := blk_below HBbs_20.out b
  have HBbg_21 : Hid ((w21).heap[qbg]? = some (.cells #[.int .i64 am0, .slice og np pg, .string ab0] 32)) := blk_below HBbg_20.out b
  clear hb20 HOs_20 HOg_20 HBa0_20 HBa1_20 HBbs_20 HBbg_20 cbg0 cbg1 cbg2 b
  rw [show ((((1 : Nat) : Int)) + 2 * (np : Int)) = ((1 + 2 * np : Nat) : Int) by omega]
  go_upto_region 31 with fail
  have HSS : Hid (∀ W, Below w21.heap.size w21 W → (W.cell? ⟨rq, 0, none⟩ = some (.int .i64 am0) ∧ W.cell? ⟨rq, 1, none⟩ = some (.slice a0 n0 cap0) ∧ W.cell? ⟨rq, 2, none⟩ = some (.string ab0)) ∧ (W.cell? ⟨rq + 1, 0, none⟩ = some (.int .i64 am1) ∧ W.cell? ⟨rq + 1, 1, none⟩ = some (.slice a1 n1 cap1) ∧ W.cell? ⟨rq + 1, 2, none⟩ = some (.string ab1))) := fun W h => ⟨(three_facts (blk_below HBa0_21.out h)).1, (three_facts (blk_below HBa1_21.out h)).1⟩
  go_cut [13] (fun sx wx => ∃ (o : Nat) (oh : Option Addr) (ph : Nat), sx = .pointer (some ⟨o, 0, none⟩) ∧ Hid (Below w21.heap.size w21 wx ∧ wx.heap[o]? = some (.cells #[.int .i64 am0, .slice oh np ph, .string ab0] 32) ∧ wx.ownsRow w21.heap.size 68 2 (.slice oh np ph) np (flatF P)))
  case first =>
    refine wp_region_held_drew (S := fun W => (W.cell? ⟨rq, 0, none⟩ = some (.int .i64 am0) ∧ W.cell? ⟨rq, 1, none⟩ = some (.slice a0 n0 cap0) ∧ W.cell? ⟨rq, 2, none⟩ = some (.string ab0)) ∧ (W.cell? ⟨rq + 1, 0, none⟩ = some (.int .i64 am1) ∧ W.cell? ⟨rq + 1, 1, none⟩ = some (.slice a1 n1 cap1) ∧ W.cell? ⟨rq + 1, 2, none⟩ = some (.string ab1))) (by kernel_rfl) (HSS.out _ (Below.refl _ _).drew) (fun hS0 => ?_)
    have HX : Hid (Below w21.heap.size w21 w21.drew) := (Below.refl _ _).drew
    obtain ⟨X0, hX0⟩ : ∃ X, X = w21.drew := ⟨_, rfl⟩
    rw [← hX0] at HX ⊢
    clear hX0 hS0
    refine wpAnyH_takeD (i := 0) (v := .agg #[.int .i64 am0, .slice a0 n0 cap0, .string ab0]) (some 75) rfl rfl (by kernel_rfl) (by kernel_rfl) (by kernel_rfl) (fun _ _ _ h => h) (Or.inl ⟨by rfl, by intro W hW; obtain ⟨⟨s0, s1, s2⟩, ⟨s3, s4, s5⟩⟩ := hW; go_simp⟩) (HSS.out _ HX.out) ?_
    simp only [Act.put, List.setIfInBounds_toArray, List.set_cons_zero, List.set_cons_succ]
    refine wpAnyH_takeD (i := 2) (v := .agg #[.int .i64 am1, .slice a1 n1 cap1, .string ab1]) (some 77) rfl rfl (by kernel_rfl) (by kernel_rfl) (by kernel_rfl) (fun _ _ _ h => h) (Or.inl ⟨by rfl, by intro W hW; obtain ⟨⟨s0, s1, s2⟩, ⟨s3, s4, s5⟩⟩ := hW; go_simp⟩) (HSS.out _ HX.out) ?_
    simp only [Act.put, List.setIfInBounds_toArray, List.set_cons_zero, List.set_cons_succ]
    refine wpAnyH_ready (rs := [1, 5]) (by kernel_rfl) (by simp) ?_
    refine AllReadyH.cons rfl (fun K hK => ?_) (AllReadyH.cons rfl (fun K hK => ?_) AllReadyH.nil)
    · go_simp
      refine (toResp_any am0 a0 n0 cap0 ab0 fs0 w.heap.size _ (HA0.out _ (hb21.trans (HX.out.mono hb21.size))) (hb21.trans (HX.out.mono hb21.size)).size hm0).mono ?_
      rintro e X1 ⟨vvy0, rfl, owny0, b⟩
      obtain ⟨oy0, py0, rfl⟩ := slice_of_owns owny0
      have HXN : Hid (Below w21.heap.size w21 X1) := HX.out.trans (b.mono HX.out.size)
      have HTy0 : Hid (X1.ownsRow w21.heap.size 68 2 (.slice oy0 n0 py0) n0 (flatF fs0)) := owns_wide owny0 HX.out.size
      clear owny0
      refine hK.out _ _ (HSS.out _ HXN.out) (fun _ => ?_)
      clear hK K HX b
      have HX := HXN
      clear HXN
      refine wpAnyH_ready (rs := [3, 5]) (by kernel_rfl) (by simp) ?_
      refine AllReadyH.cons rfl (fun K hK => ?_) (AllReadyH.cons rfl (fun K hK => ?_) AllReadyH.nil)
      · go_simp
        refine (toResp_any am1 a1 n1 cap1 ab1 fs1 w.heap.size _ (HA1.out _ (hb21.trans (HX.out.mono hb21.size))) (hb21.trans (HX.out.mono hb21.size)).size hm1).mono ?_
        rintro e X2 ⟨vvy1, rfl, owny1, b⟩
        obtain ⟨oy1, py1, rfl⟩ := slice_of_owns owny1
        have HXN : Hid (Below w21.heap.size w21 X2) := HX.out.trans (b.mono HX.out.size)
        have HTN : Hid (X2.ownsRow w21.heap.size 68 2 (.slice oy0 n0 py0) n0 (flatF fs0)) := owns_below HTy0.out b (fun g hg => owns_lt HTy0.out hg)
        clear HTy0
        have HTy0 := HTN
        clear HTN
        have HTy1 : Hid (X2.ownsRow w21.heap.size 68 2 (.slice oy1 n1 py1) n1 (flatF fs1)) := owns_wide owny1 HX.out.size
        clear owny1
        refine hK.out _ _ (HSS.out _ HXN.out) (fun _ => ?_)
        clear hK K HX b
        have HX := HXN
        clear HXN
        refine wpAnyH_ready (rs := [4, 5]) (by kernel_rfl) (by simp) ?_
        refine AllReadyH.cons rfl (fun K hK => ?_) (AllReadyH.cons rfl (fun K hK => ?_) AllReadyH.nil)
        · go_simp
          refine (HIM.out _ _ _ _ _ (FieldsV.of_owns HTy0.out) (FieldsV.of_owns HTy1.out)).mono ?_
          rintro e X3 ⟨vvh, rfl, ownh, b⟩
          obtain ⟨oh, ph, rfl⟩ := slice_of_owns ownh
          have HXN : Hid (Below w21.heap.size w21 X3) := HX.out.trans (b.mono HX.out.size)
          have HTN : Hid (X3.ownsRow w21.heap.size 68 2 (.slice oy0 n0 py0) n0 (flatF fs0)) := owns_below HTy0.out b (fun g hg => owns_lt HTy0.out hg)
          clear HTy0
          have HTy0 := HTN
          clear HTN
          have HTN : Hid (X3.ownsRow w21.heap.size 68 2 (.slice oy1 n1 py1) n1 (flatF fs1)) := owns_below HTy1.out b (fun g hg => owns_lt HTy1.out hg)
          clear HTy1
          have HTy1 := HTN
          clear HTN
          have HTh : Hid (X3.ownsRow w21.heap.size 68 2 (.slice oh np ph) np (flatF P)) := owns_wide ownh HX.out.size
          clear ownh
          refine hK.out _ _ (HSS.out _ HXN.out) (fun _ => ?_)
          clear hK K HX b
          have HX := HXN
          clear HXN
          refine wpAnyH_ready (rs := [5]) (by kernel_rfl) (by simp) ?_
          refine AllReadyH.cons rfl (fun K hK => ?_) AllReadyH.nil
          have HXN : Hid (Below w21.heap.size w21 (X3.alloc (.cells #[.int .i64 0, .slice none 0 0, .string ⟨#[]⟩] 32))) := HX.out.alloc HX.out.size _
          have HZ : Hid ((X3.alloc (.cells #[.int .i64 0, .slice none 0 0, .string ⟨#[]⟩] 32)).heap[X3.heap.size]? = some (.cells #[.int .i64 0, .slice none 0 0, .string ⟨#[]⟩] 32) ∧ w21.heap.size ≤ X3.heap.size) := ⟨heap_alloc_new _ _, HX.out.size⟩
          have HTN : Hid ((X3.alloc (.cells #[.int .i64 0, .slice none 0 0, .string ⟨#[]⟩] 32)).ownsRow w21.heap.size 68 2 (.slice oy0 n0 py0) n0 (flatF fs0)) := HTy0.out.alloc _
          clear HTy0
          have HTy0 := HTN
          clear HTN
          have HTN : Hid ((X3.alloc (.cells #[.int .i64 0, .slice none 0 0, .string ⟨#[]⟩] 32)).ownsRow w21.heap.size 68 2 (.slice oy1 n1 py1) n1 (flatF fs1)) := HTy1.out.alloc _
          clear HTy1
          have HTy1 := HTN
          clear HTN
          have HTN : Hid ((X3.alloc (.cells #[.int .i64 0, .slice none 0 0, .string ⟨#[]⟩] 32)).ownsRow w21.heap.size 68 2 (.slice oh np ph) np (flatF P)) := HTh.out.alloc _
          clear HTh
          have HTh := HTN
          clear HTN
          go_simp
          refine hK.out _ _ (HSS.out _ HXN.out) (fun _ => ?_)
          clear hK K HX
          obtain ⟨pa, ho⟩ : ∃ o, o = X3.heap.size := ⟨_, rfl⟩
          obtain ⟨X4, hX⟩ : ∃ X, X = X3.alloc (.cells #[.int .i64 0, .slice none 0 0, .string ⟨#[]⟩] 32) := ⟨_, rfl⟩
          rw [← ho] at HZ ⊢
          rw [← hX] at HXN HZ HTy0 HTy1 HTh ⊢
          clear ho hX
          have HX := HXN
          clear HXN
          obtain ⟨Y, hY⟩ : ∃ Y, Y = threeSet X4 pa (.int .i64 am0) (.slice oh np ph) (.string ab0) := ⟨_, rfl⟩
          have HY : Hid (threeSet X4 pa (.int .i64 am0) (.slice oh np ph) (.string ab0) = Y) := hY.symm
          have HF : Hid (Below w21.heap.size w21 Y ∧ Y.heap[pa]? = some (.cells #[.int .i64 am0, .slice oh np ph, .string ab0] 32) ∧ Y.ownsRow w21.heap.size 68 2 (.slice oh np ph) np (flatF P)) := by
            show _ ∧ _ ∧ _
            rw [hY]
            exact ⟨below_three HX.out HZ.out.2, three_set HZ.out.1 _ _ _, owns_same HTh.out (fun j hj => three_oth _ _ j _ _ _ (own_ne HTh.out HZ.out.1 (by decide) j hj))⟩
          obtain ⟨⟨e0, e1, e2⟩, g0, g1, g2⟩ := three_facts HZ.out.1
          have hs9 := HSS.out _ HF.out.1
          unfold threeSet at HY
          clear hY HX HZ HTy0 HTy1 HTh
          refine wpAnyH_ready (rs := [6]) (by kernel_rfl) (by simp) ?_
          refine AllReadyH.cons rfl (fun K hK => ?_) AllReadyH.nil
          go_simp
          rw [HY.out]
          refine hK.out _ _ hs9 (fun _ => ?_)
          clear hK K HY hs9 e0 g0 e1 g1 e2 g2
          refine wpAnyH_done (by kernel_rfl) ?_ _
          go_wp2_with fail
          go_meet
          exact ⟨pa, oh, ph, rfl, HF⟩
        · have HXN : Hid (Below w21.heap.size w21 (X2.alloc (.cells #[.int .i64 0, .slice none 0 0, .string ⟨#[]⟩] 32))) := HX.out.alloc HX.out.size _
          have HZ : Hid ((X2.alloc (.cells #[.int .i64 0, .slice none 0 0, .string ⟨#[]⟩] 32)).heap[X2.heap.size]? = some (.cells #[.int .i64 0, .slice none 0 0, .string ⟨#[]⟩] 32) ∧ w21.heap.size ≤ X2.heap.size) := ⟨heap_alloc_new _ _, HX.out.size⟩
          have HTN : Hid ((X2.alloc (.cells #[.int .i64 0, .slice none 0 0, .string ⟨#[]⟩] 32)).ownsRow w21.heap.size 68 2 (.slice oy0 n0 py0) n0 (flatF fs0)) := HTy0.out.alloc _
          clear HTy0
          have HTy0 := HTN
          clear HTN
          have HTN : Hid ((X2.alloc (.cells #[.int .i64 0, .slice none 0 0, .string ⟨#[]⟩] 32)).ownsRow w21.heap.size 68 2 (.slice oy1 n1 py1) n1 (flatF fs1)) := HTy1.out.alloc _
          clear HTy1
          have HTy1 := HTN
          clear HTN
          go_simp
          refine hK.out _ _ (HSS.out _ HXN.out) (fun _ => ?_)
          clear hK K HX
          obtain ⟨pa, ho⟩ : ∃ o, o = X2.heap.size := ⟨_, rfl⟩
          obtain ⟨X3, hX⟩ : ∃ X, X = X2.alloc (.cells #[.int .i64 0, .slice none 0 0, .string ⟨#[]⟩] 32) := ⟨_, rfl⟩
          rw [← ho] at HZ ⊢
          rw [← hX] at HXN HZ HTy0 HTy1 ⊢
          clear ho hX
          have HX := HXN
          clear HXN
          refine wpAnyH_ready (rs := [4]) (by kernel_rfl) (by simp) ?_
          refine AllReadyH.cons rfl (fun K hK => ?_) AllReadyH.nil
          go_simp
          refine (HIM.out _ _ _ _ _ (FieldsV.of_owns HTy0.out) (FieldsV.of_owns HTy1.out)).mono ?_
          rintro e X4 ⟨vvh, rfl, ownh, b⟩
          obtain ⟨oh, ph, rfl⟩ := slice_of_owns ownh
          have HXN : Hid (Below w21.heap.size w21 X4) := HX.out.trans (b.mono HX.out.size)
          have HTN : Hid (X4.ownsRow w21.heap.size 68 2 (.slice oy0 n0 py0) n0 (flatF fs0)) := owns_below HTy0.out b (fun g hg => owns_lt HTy0.out hg)
          clear HTy0
          have HTy0 := HTN
          clear HTN
          have HTN : Hid (X4.ownsRow w21.heap.size 68 2 (.slice oy1 n1 py1) n1 (flatF fs1)) := owns_below HTy1.out b (fun g hg => owns_lt HTy1.out hg)
          clear HTy1
          have HTy1 := HTN
          clear HTN
          have HZN : Hid (X4.heap[pa]? = some (.cells #[.int .i64 0, .slice none 0 0, .string ⟨#[]⟩] 32) ∧ w21.heap.size ≤ pa) := ⟨blk_below HZ.out.1 b, HZ.out.2⟩
          clear HZ
          have HZ := HZN
          clear HZN
          have HTh : Hid (X4.ownsRow w21.heap.size 68 2 (.slice oh np ph) np (flatF P)) := owns_wide ownh HX.out.size
          clear ownh
          refine hK.out _ _ (HSS.out _ HXN.out) (fun _ => ?_)
          clear hK K HX b
          have HX := HXN
          clear HXN
          obtain ⟨Y, hY⟩ : ∃ Y, Y = threeSet X4 pa (.int .i64 am0) (.slice oh np ph) (.string ab0) := ⟨_, rfl⟩
          have HY : Hid (threeSet X4 pa (.int .i64 am0) (.slice oh np ph) (.string ab0) = Y) := hY.symm
          have HF : Hid (Below w21.heap.size w21 Y ∧ Y.heap[pa]? = some (.cells #[.int .i64 am0, .slice oh np ph, .string ab0] 32) ∧ Y.ownsRow w21.heap.size 68 2 (.slice oh np ph) np (flatF P)) := by
            show _ ∧ _ ∧ _
            rw [hY]
            exact ⟨below_three HX.out HZ.out.2, three_set HZ.out.1 _ _ _, owns_same HTh.out (fun j hj => three_oth _ _ j _ _ _ (own_ne HTh.out HZ.out.1 (by decide) j hj))⟩
          obtain ⟨⟨e0, e1, e2⟩, g0, g1, g2⟩ := three_facts HZ.out.1
          have hs9 := HSS.out _ HF.out.1
          unfold threeSet at HY
          clear hY HX HZ HTy0 HTy1 HTh
          refine wpAnyH_ready (rs := [6]) (by kernel_rfl) (by simp) ?_
          refine AllReadyH.cons rfl (fun K hK => ?_) AllReadyH.nil
          go_simp
          rw [HY.out]
          refine hK.out _ _ hs9 (fun _ => ?_)
          clear hK K HY hs9 e0 g0 e1 g1 e2 g2
          refine wpAnyH_done (by kernel_rfl) ?_ _
          go_wp2_with fail
          go_meet
          exact ⟨pa, oh, ph, rfl, HF⟩
      · have HXN : Hid (Below w21.heap.size w21 (X1.alloc (.cells #[.int .i64 0, .slice none 0 0, .string ⟨#[]⟩] 32))) := HX.out.alloc HX.out.size _
        have HZ : Hid ((X1.alloc (.cells #[.int .i64 0, .slice none 0 0, .string ⟨#[]⟩] 32)).heap[X1.heap.size]? = some (.cells #[.int .i64 0, .slice none 0 0, .string ⟨#[]⟩] 32) ∧ w21.heap.size ≤ X1.heap.size) := ⟨heap_alloc_new _ _, HX.out.size⟩
        have HTN : Hid ((X1.alloc (.cells #[.int .i64 0, .slice none 0 0, .string ⟨#[]⟩] 32)).ownsRow w21.heap.size 68 2 (.slice oy0 n0 py0) n0 (flatF fs0)) := HTy0.out.alloc _
        clear HTy0
        have HTy0 := HTN
        clear HTN
        go_simp
        refine hK.out _ _ (HSS.out _ HXN.out) (fun _ => ?_)
        clear hK K HX
        obtain ⟨pa, ho⟩ : ∃ o, o = X1.heap.size := ⟨_, rfl⟩
        obtain ⟨X2, hX⟩ : ∃ X, X = X1.alloc (.cells #[.int .i64 0, .slice none 0 0, .string ⟨#[]⟩] 32) := ⟨_, rfl⟩
        rw [← ho] at HZ ⊢
        rw [← hX] at HXN HZ HTy0 ⊢
        clear ho hX
        have HX := HXN
        clear HXN
        refine wpAnyH_ready (rs := [3]) (by kernel_rfl) (by simp) ?_
        refine AllReadyH.cons rfl (fun K hK => ?_) AllReadyH.nil
        go_simp
        refine (toResp_any am1 a1 n1 cap1 ab1 fs1 w.heap.size _ (HA1.out _ (hb21.trans (HX.out.mono hb21.size))) (hb21.trans (HX.out.mono hb21.size)).size hm1).mono ?_
        rintro e X3 ⟨vvy1, rfl, owny1, b⟩
        obtain ⟨oy1, py1, rfl⟩ := slice_of_owns owny1
        have HXN : Hid (Below w21.heap.size w21 X3) := HX.out.trans (b.mono HX.out.size)
        have HTN : Hid (X3.ownsRow w21.heap.size 68 2 (.slice oy0 n0 py0) n0 (flatF fs0)) := owns_below HTy0.out b (fun g hg => owns_lt HTy0.out hg)
        clear HTy0
        have HTy0 := HTN
        clear HTN
        have HZN : Hid (X3.heap[pa]? = some (.cells #[.int .i64 0, .slice none 0 0, .string ⟨#[]⟩] 32) ∧ w21.heap.size ≤ pa) := ⟨blk_below HZ.out.1 b, HZ.out.2⟩
        clear HZ
        have HZ := HZN
        clear HZN
        have HTy1 : Hid (X3.ownsRow w21.heap.size 68 2 (.slice oy1 n1 py1) n1 (flatF fs1)) := owns_wide owny1 HX.out.size
        clear owny1
        refine hK.out _ _ (HSS.out _ HXN.out) (fun _ => ?_)
        clear hK K HX b
        have HX := HXN
        clear HXN
        refine wpAnyH_ready (rs := [4]) (by kernel_rfl) (by simp) ?_
        refine AllReadyH.cons rfl (fun K hK => ?_) AllReadyH.nil
        go_simp
        refine (HIM.out _ _ _ _ _ (FieldsV.of_owns HTy0.out) (FieldsV.of_owns HTy1.out)).mono ?_
        rintro e X4 ⟨vvh, rfl, ownh, b⟩
        obtain ⟨oh, ph, rfl⟩ := slice_of_owns ownh
        have HXN : Hid (Below w21.heap.size w21 X4) := HX.out.trans (b.mono HX.out.size)
        have HTN : Hid (X4.ownsRow w21.heap.size 68 2 (.slice oy0 n0 py0) n0 (flatF fs0)) := owns_below HTy0.out b (fun g hg => owns_lt HTy0.out hg)
        clear HTy0
        have HTy0 := HTN
        clear HTN
        have HTN : Hid (X4.ownsRow w21.heap.size 68 2 (.slice oy1 n1 py1) n1 (flatF fs1)) := owns_below HTy1.out b (fun g hg => owns_lt HTy1.out hg)
        clear HTy1
        have HTy1 := HTN
        clear HTN
        have HZN : Hid (X4.heap[pa]? = some (.cells #[.int .i64 0, .slice none 0 0, .string ⟨#[]⟩] 32) ∧ w21.heap.size ≤ pa) := ⟨blk_below HZ.out.1 b, HZ.out.2⟩
        clear HZ
        have HZ := HZN
        clear HZN
        have HTh : Hid (X4.ownsRow w21.heap.size 68 2 (.slice oh np ph) np (flatF P)) := owns_wide ownh HX.out.size
        clear ownh
        refine hK.out _ _ (HSS.out _ HXN.out) (fun _ => ?_)
        clear hK K HX b
        have HX := HXN
        clear HXN
        obtain ⟨Y, hY⟩ : ∃ Y, Y = threeSet X4 pa (.int .i64 am0) (.slice oh np ph) (.string ab0) := ⟨_, rfl⟩
        have HY : Hid (threeSet X4 pa (.int .i64 am0) (.slice oh np ph) (.string ab0) = Y) := hY.symm
        have HF : Hid (Below w21.heap.size w21 Y ∧ Y.heap[pa]? = some (.cells #[.int .i64 am0, .slice oh np ph, .string ab0] 32) ∧ Y.ownsRow w21.heap.size 68 2 (.slice oh np ph) np (flatF P)) := by
          show _ ∧ _ ∧ _
          rw [hY]
          exact ⟨below_three HX.out HZ.out.2, three_set HZ.out.1 _ _ _, owns_same HTh.out (fun j hj => three_oth _ _ j _ _ _ (own_ne HTh.out HZ.out.1 (by decide) j hj))⟩
        obtain ⟨⟨e0, e1, e2⟩, g0, g1, g2⟩ := three_facts HZ.out.1
        have hs9 := HSS.out _ HF.out.1
        unfold threeSet at HY
        clear hY HX HZ HTy0 HTy1 HTh
        refine wpAnyH_ready (rs := [6]) (by kernel_rfl) (by simp) ?_
        refine AllReadyH.cons rfl (fun K hK => ?_) AllReadyH.nil
        go_simp
        rw [HY.out]
        refine hK.out _ _ hs9 (fun _ => ?_)
        clear hK K HY hs9 e0 g0 e1 g1 e2 g2
        refine wpAnyH_done (by kernel_rfl) ?_ _
        go_wp2_with fail
        go_meet
        exact ⟨pa, oh, ph, rfl, HF⟩
    · have HXN : Hid (Below w21.heap.size w21 (X0.alloc (.cells #[.int .i64 0, .slice none 0 0, .string ⟨#[]⟩] 32))) := HX.out.alloc HX.out.size _
      have HZ : Hid ((X0.alloc (.cells #[.int .i64 0, .slice none 0 0, .string ⟨#[]⟩] 32)).heap[X0.heap.size]? = some (.cells #[.int .i64 0, .slice none 0 0, .string ⟨#[]⟩] 32) ∧ w21.heap.size ≤ X0.heap.size) := ⟨heap_alloc_new _ _, HX.out.size⟩
      go_simp
      refine hK.out _ _ (HSS.out _ HXN.out) (fun _ => ?_)
      clear hK K HX
      obtain ⟨pa, ho⟩ : ∃ o, o = X0.heap.size := ⟨_, rfl⟩
      obtain ⟨X1, hX⟩ : ∃ X, X = X0.alloc (.cells #[.int .i64 0, .slice none 0 0, .string ⟨#[]⟩] 32) := ⟨_, rfl⟩
      rw [← ho] at HZ ⊢
      rw [← hX] at HXN HZ ⊢
      clear ho hX
      have HX := HXN
      clear HXN
      refine wpAnyH_ready (rs := [1]) (by kernel_rfl) (by simp) ?_
      refine AllReadyH.cons rfl (fun K hK => ?_) AllReadyH.nil
      go_simp
      refine (toResp_any am0 a0 n0 cap0 ab0 fs0 w.heap.size _ (HA0.out _ (hb21.trans (HX.out.mono hb21.size))) (hb21.trans (HX.out.mono hb21.size)).size hm0).mono ?_
      rintro e X2 ⟨vvy0, rfl, owny0, b⟩
      obtain ⟨oy0, py0, rfl⟩ := slice_of_owns owny0
      have HXN : Hid (Below w21.heap.size w21 X2) := HX.out.trans (b.mono HX.out.size)
      have HZN : Hid (X2.heap[pa]? = some (.cells #[.int .i64 0, .slice none 0 0, .string ⟨#[]⟩] 32) ∧ w21.heap.size ≤ pa) := ⟨blk_below HZ.out.1 b, HZ.out.2⟩
      clear HZ
      have HZ := HZN
      clear HZN
      have HTy0 : Hid (X2.ownsRow w21.heap.size 68 2 (.slice oy0 n0 py0) n0 (flatF fs0)) := owns_wide owny0 HX.out.size
      clear owny0
      refine hK.out _ _ (HSS.out _ HXN.out) (fun _ => ?_)
      clear hK K HX b
      have HX := HXN
      clear HXN
      refine wpAnyH_ready (rs := [3]) (by kernel_rfl) (by simp) ?_
      refine AllReadyH.cons rfl (fun K hK => ?_) AllReadyH.nil
      go_simp
      refine (toResp_any am1 a1 n1 cap1 ab1 fs1 w.heap.size _ (HA1.out _ (hb21.trans (HX.out.mono hb21.size))) (hb21.trans (HX.out.mono hb21.size)).size hm1).mono ?_
      rintro e X3 ⟨vvy1, rfl, owny1, b⟩
      obtain ⟨oy1, py1, rfl⟩ := slice_of_owns owny1
      have HXN : Hid (Below w21.heap.size w21 X3) := HX.out.trans (b.mono HX.out.size)
      have HTN : Hid (X3.ownsRow w21.heap.size 68 2 (.slice oy0 n0 py0) n0 (flatF fs0)) := owns_below HTy0.out b (fun g hg => owns_lt HTy0.out hg)
      clear HTy0
      have HTy0 := HTN
      clear HTN
      have HZN : Hid (X3.heap[pa]? = some (.cells #[.int .i64 0, .slice none 0 0, .string ⟨#[]⟩] 32) ∧ w21.heap.size ≤ pa) := ⟨blk_below HZ.out.1 b, HZ.out.2⟩
      clear HZ
      have HZ := HZN
      clear HZN
      have HTy1 : Hid (X3.ownsRow w21.heap.size 68 2 (.slice oy1 n1 py1) n1 (flatF fs1)) := owns_wide owny1 HX.out.size
      clear owny1
      refine hK.out _ _ (HSS.out _ HXN.out) (fun _ => ?_)
      clear hK K HX b
      have HX := HXN
      clear HXN
      refine wpAnyH_ready (rs := [4]) (by kernel_rfl) (by simp) ?_
      refine AllReadyH.cons rfl (fun K hK => ?_) AllReadyH.nil
      go_simp
      refine (HIM.out _ _ _ _ _ (FieldsV.of_owns HTy0.out) (FieldsV.of_owns HTy1.out)).mono ?_
      rintro e X4 ⟨vvh, rfl, ownh, b⟩
      obtain ⟨oh, ph, rfl⟩ := slice_of_owns ownh
      have HXN : Hid (Below w21.heap.size w21 X4) := HX.out.trans (b.mono HX.out.size)
      have HTN : Hid (X4.ownsRow w21.heap.size 68 2 (.slice oy0 n0 py0) n0 (flatF fs0)) := owns_below HTy0.out b (fun g hg => owns_lt HTy0.out hg)
      clear HTy0
      have HTy0 := HTN
      clear HTN
      have HTN : Hid (X4.ownsRow w21.heap.size 68 2 (.slice oy1 n1 py1) n1 (flatF fs1)) := owns_below HTy1.out b (fun g hg => owns_lt HTy1.out hg)
      clear HTy1
      have HTy1 := HTN
      clear HTN
      have HZN : Hid (X4.heap[pa]? = some (.cells #[.int .i64 0, .slice none 0 0, .string ⟨#[]⟩] 32) ∧ w21.heap.size ≤ pa) := ⟨blk_below HZ.out.1 b, HZ.out.2⟩
      clear HZ
      have HZ := HZN
      clear HZN
      have HTh : Hid (X4.ownsRow w21.heap.size 68 2 (.slice oh np ph) np (flatF P)) := owns_wide ownh HX.out.size
      clear ownh
      refine hK.out _ _ (HSS.out _ HXN.out) (fun _ => ?_)
      clear hK K HX b
      have HX := HXN
      clear HXN
      obtain ⟨Y, hY⟩ : ∃ Y, Y = threeSet X4 pa (.int .i64 am0) (.slice oh np ph) (.string ab0) := ⟨_, rfl⟩
      have HY : Hid (threeSet X4 pa (.int .i64 am0) (.slice oh np ph) (.string ab0) = Y) := hY.symm
      have HF : Hid (Below w21.heap.size w21 Y ∧ Y.heap[pa]? = some (.cells #[.int .i64 am0, .slice oh np ph, .string ab0] 32) ∧ Y.ownsRow w21.heap.size 68 2 (.slice oh np ph) np (flatF P)) := by
        show _ ∧ _ ∧ _
        rw [hY]
        exact ⟨below_three HX.out HZ.out.2, three_set HZ.out.1 _ _ _, owns_same HTh.out (fun j hj => three_oth _ _ j _ _ _ (own_ne HTh.out HZ.out.1 (by decide) j hj))⟩
      obtain ⟨⟨e0, e1, e2⟩, g0, g1, g2⟩ := three_facts HZ.out.1
      have hs9 := HSS.out _ HF.out.1
      unfold threeSet at HY
      clear hY HX HZ HTy0 HTy1 HTh
      refine wpAnyH_ready (rs := [6]) (by kernel_rfl) (by simp) ?_
      refine AllReadyH.cons rfl (fun K hK => ?_) AllReadyH.nil
      go_simp
      rw [HY.out]
      refine hK.out _ _ hs9 (fun _ => ?_)
      clear hK K HY hs9 e0 g0 e1 g1 e2 g2
      refine wpAnyH_done (by kernel_rfl) ?_ _
      go_wp2_with fail
      go_meet
      exact ⟨pa, oh, ph, rfl, HF⟩
  case rest =>
  obtain ⟨qbh, oh, ph, hsx, HF⟩ := hcut
  rw [hsx]
  obtain ⟨w22, hwj⟩ : ∃ W, W = wc := ⟨_, rfl⟩
  rw [← hwj] at HF ⊢
  clear hsx hwj HSS
  obtain ⟨b, hcell, ownh⟩ := HF.out
  have hb22 : Below w.heap.size w (w22) := hb21.trans (b.mono hb21.size)
  have HM22 : Hid ((w21).heap.size ≤ (w22).heap.size) := b.size
  have HOs_22 : Hid ((w22).ownsRow w.heap.size 68 2 (.slice os np ps) np (flatF P)) := owns_below HOs_21.out b (fun g hg => owns_lt HOs_21.out hg)
  have HOg_22 : Hid ((w22).ownsRow w.heap.size 68 2 (.slice og np pg) np (flatF (mkG 1 P np))) := owns_below HOg_21.out b (fun g hg => owns_lt HOg_21.out hg)
  have HBa0_22 : Hid ((w22).heap[rq]? = some (.cells #[.int .i64 am0, .slice a0 n0 cap0, .string ab0] 43)) := blk_below HBa0_21.out b
  have HBa1_22 : Hid ((w22).heap[rq + 1]? = some (.cells #[.int .i64 am1, .slice a1 n1 cap1, .string ab1] 43)) := blk_below HBa1_21.out b
  have HBbs_22 : Hid ((w22).heap[qbs]? = some (.cells #[.int .i64 am0, .slice os np ps, .string ab0] 32)) := blk_below HBbs_21.out b
  have HBbg_22 : Hid ((w22).heap[qbg]? = some (.cells #[.int .i64 am0, .slice og np pg, .string ab0] 32)) := blk_below HBbg_21.out b
  have HOh_22 : Hid ((w22).ownsRow w.heap.size 68 2 (.slice oh np ph) np (flatF P)) := owns_wide ownh hb21.size
  have LOh : Hid (∀ g, (Value.ownBlock (.slice oh np ph)) = some g → (w21).heap.size ≤ g) := fun g hg => owns_ge ownh hg
  have HIh : Hid (∀ g, (Value.ownBlock (.slice oh np ph)) = some g → g < (w22).heap.size) := fun g hg => owns_lt ownh hg
  clear ownh
  have HBbh_22 : Hid ((w22).heap[qbh]? = some (.cells #[.int .i64 am0, .slice oh np ph, .string ab0] 32)) := hcell
  clear hb21 HOs_21 HOg_21 HBa0_21 HBa1_21 HBbs_21 HBbg_21 b hcell HF
  obtain ⟨⟨cbh0, cbh1, cbh2⟩, _⟩ := three_facts HBbh_22.out
  obtain ⟨⟨cbs0, cbs1, cbs2⟩, _⟩ := three_facts HBbs_22.out
  go_wp2_with fail
  refine (eqResp_any am0 _ _ ab0 np _ _ P _ (FieldsV.of_owns HOh_22.out) (FieldsV.of_owns HOs_22.out) (by omega)).mono ?_
  rintro e w23 ⟨rfl, b⟩
  have hb23 : Below w.heap.size w (w23) := hb22.trans (b.mono hb22.size)
  have HM23 : Hid ((w22).heap.size ≤ (w23).heap.size) := b.size
  have HOs_23 : Hid ((w23).ownsRow w.heap.size 68 2 (.slice os np ps) np (flatF P)) := owns_below HOs_22.out b (fun g hg => owns_lt HOs_22.out hg)
  have HOg_23 : Hid ((w23).ownsRow w.heap.size 68 2 (.slice og np pg) np (flatF (mkG 1 P np))) := owns_below HOg_22.out b (fun g hg => owns_lt HOg_22.out hg)
  have HOh_23 : Hid ((w23).ownsRow w.heap.size 68 2 (.slice oh np ph) np (flatF P)) := owns_below HOh_22.out b (fun g hg => owns_lt HOh_22.out hg)
  have HBa0_23 : Hid ((w23).heap[rq]? = some (.cells #[.int .i64 am0, .slice a0 n0 cap0, .string ab0] 43)) := blk_below HBa0_22.out b
  have HBa1_23 : Hid ((w23).heap[rq + 1]? = some (.cells #[.int .i64 am1, .slice a1 n1 cap1, .string ab1] 43)) := blk_below HBa1_22.out b
  have HBbs_23 : Hid ((w23).heap[qbs]? = some (.cells #[.int .i64 am0, .slice os np ps, .string ab0] 32)) := blk_below HBbs_22.out b
  have HBbg_23 : Hid ((w23).heap[qbg]? = some (.cells #[.int .i64 am0, .slice og np pg, .string ab0] 32)) := blk_below HBbg_22.out b
  have HBbh_23 : Hid ((w23).heap[qbh]? = some (.cells #[.int .i64 am0, .slice oh np ph, .string ab0] 32)) := blk_below HBbh_22.out b
  clear hb22 HOs_22 HOg_22 HOh_22 HBa0_22 HBa1_22 HBbs_22 HBbg_22 HBbh_22 cbh0 cbh1 cbh2 cbs0 cbs1 cbs2 b
  obtain ⟨⟨cbg0, cbg1, cbg2⟩, _⟩ := three_facts HBbg_23.out
  go_wp2_with fail
  refine (heldRespFrom_any am0 _ ab0 np w.heap.size (mkG 1 P np) _ HOg_23.out 1 (by omega) (by omega) HK.out).mono ?_
  rintro e w24 ⟨rfl, b⟩
  have hb24 : Below w.heap.size w (w24) := hb23.trans (b.mono hb23.size)
  have HM24 : Hid ((w23).heap.size ≤ (w24).heap.size) := b.size
  have HOs_24 : Hid ((w24).ownsRow w.heap.size 68 2 (.slice os np ps) np (flatF P)) := owns_below HOs_23.out b (fun g hg => owns_lt HOs_23.out hg)
  have HOg_24 : Hid ((w24).ownsRow w.heap.size 68 2 (.slice og np pg) np (flatF (mkG 1 P np))) := owns_below HOg_23.out b (fun g hg => owns_lt HOg_23.out hg)
  have HOh_24 : Hid ((w24).ownsRow w.heap.size 68 2 (.slice oh np ph) np (flatF P)) := owns_below HOh_23.out b (fun g hg => owns_lt HOh_23.out hg)
  have HBa0_24 : Hid ((w24).heap[rq]? = some (.cells #[.int .i64 am0, .slice a0 n0 cap0, .string ab0] 43)) := blk_below HBa0_23.out b
  have HBa1_24 : Hid ((w24).heap[rq + 1]? = some (.cells #[.int .i64 am1, .slice a1 n1 cap1, .string ab1] 43)) := blk_below HBa1_23.out b
  have HBbs_24 : Hid ((w24).heap[qbs]? = some (.cells #[.int .i64 am0, .slice os np ps, .string ab0] 32)) := blk_below HBbs_23.out b
  have HBbg_24 : Hid ((w24).heap[qbg]? = some (.cells #[.int .i64 am0, .slice og np pg, .string ab0] 32)) := blk_below HBbg_23.out b
  have HBbh_24 : Hid ((w24).heap[qbh]? = some (.cells #[.int .i64 am0, .slice oh np ph, .string ab0] 32)) := blk_below HBbh_23.out b
  clear hb23 HOs_23 HOg_23 HOh_23 HBa0_23 HBa1_23 HBbs_23 HBbg_23 HBbh_23 cbg0 cbg1 cbg2 b
  rw [show ((((1 : Nat) : Int)) + 2 * (np : Int)) = ((1 + 2 * np : Nat) : Int) by omega]
  go_wp2_with fail
  go_ret
  exact ⟨rfl, hb24⟩

set_option maxRecDepth 100000 in
theorem lifted (os : Os) (started : os.Started) (H : Type) (enc : TypeId × Value → H) :
    ReturnsInHanded {} Try.checked os 6 .any (Rows.fnExactMergeSpec.pre6 enc Try.prog Try.f6 Rows.fnExactMergeRow.domain false) (Rows.fnExactMergeSpec.post enc Try.prog Try.f6 false true false false) := by
  refine returnsInHanded_of_change (C := Try.checked) own started (by kernel_rfl) Try.func6
    (ChangeSpec.witness6 (enc := enc) (C := Try.checked) false ⟨#[], #[.agg #[.int .i64 0, .slice none 0 0, .string ByteArray.empty], .agg #[.int .i64 0, .slice none 0 0, .string ByteArray.empty]], []⟩ 8 (by kernel_rfl) (by kernel_rfl) (by kernel_rfl) (by kernel_rfl)) ?_
  intro W base args ds gs before hval0 hW _ _
  have hval : ∀ (j : Nat) t v, Try.f6.params[j]? = some t → args[j]? = some v → Value.okWide Try.prog W .any base t v := hval0
  have hW' := hW
  obtain ⟨p, q, hA0, hV, rfl, hfz, hnd⟩ := hW
  have hA : DataW.TrodAll enc Try.prog W 0 (fun _ => true) true Try.f6.params.toList args.toList ds p := hA0
  rw [Try.params6] at hA hval
  obtain ⟨v0, vs0, d0, ds0, p0, q0, hargs, rfl, rfl, h0, r0⟩ := trodAll_cons hA
  obtain ⟨v1, vs1, d1, ds1, p1, q1, hargs1, rfl, rfl, h1, r1⟩ := trodAll_cons r0
  obtain ⟨rfl, rfl, rfl⟩ := trodAll_nil r1
  obtain rfl : args = #[v0, v1] := by cases args; simp_all
  obtain ⟨rfl, rfl⟩ := trodVars_none hV
  have k0 := h0
  have lt0 : ∀ x ∈ p0, x.block < W.heap.size := by obtain ⟨m, hm⟩ := k0; exact DataW.trod_lt m _ _ _ hm
  obtain ⟨am0, a0, n0, cap0, ab0, fs0, rfl, ga0, gb0, gc0, ge0⟩ := openResp (hval 0 43 v0 rfl rfl) h0
  have k1 := h1
  have lt1 : ∀ x ∈ p1, x.block < W.heap.size := by obtain ⟨m, hm⟩ := k1; exact DataW.trod_lt m _ _ _ hm
  obtain ⟨am1, a1, n1, cap1, ab1, fs1, rfl, ga1, gb1, gc1, ge1⟩ := openResp (hval 1 43 v1 rfl rfl) h1
  clear hA0 hval0
  refine (walk1 W am0 a0 n0 cap0 ab0 fs0 ga0 gb0 gc0 ge0 am1 a1 n1 cap1 ab1 fs1 ga1 gb1 gc1 ge1).mono fun e W' ⟨he, bel⟩ => ?_
  subst he
  exact ⟨_, rfl, _, _, _, [], _, [], hW', trodAll_mk1 (shut_bool Try.underlying4 _), (trodAll_cons_mk (Below.trod laidOut (by kernel_rfl) (of_decide_eq_true (by kernel_rfl)) k0 bel lt0) (trodAll_cons_mk (Below.trod laidOut (by kernel_rfl) (of_decide_eq_true (by kernel_rfl)) k1 bel lt1) trodAll_mk0)), rfl, bel.frame _, fun h => by cases h⟩

theorem over : Rows.fnExactMergeRow.holds Try.pinned (OpenSpec.ofChange Rows.fnExactMergeSpec) :=
  OpenClaim.holds_of_wide 6 Try.f6 rfl rfl rfl rfl rfl rfl rfl ⟨rfl, rfl, rfl, rfl, rfl⟩ rfl rfl rfl rfl rfl (by kernel_rfl) Try.func6 (by kernel_rfl)
    (of_decide_eq_true (by kernel_rfl)) (by unfold Func.isWrapper; first | (rw [if_pos (by decide +kernel)]; kernel_rfl) | (rw [if_neg (by decide +kernel)]; exact ⟨rfl, rfl⟩))
    (fun os started H enc _ => lifted os started H enc)
end fnExactMerge

theorem fnExactMerge_holds : Rows.FnExactMergeSaid := fnExactMerge.over
#print axioms fnExactMerge_holds
end Go.Proofs.Ythlmnmbhgkmbfaa
