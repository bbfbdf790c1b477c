/- What the proof of FnExactFind leans on: contracts of the program's and the specification's functions, and plain facts (part 6 of 8). -/
import Derived.Test.YtcipbkkpkhameaaGreatFnExactFindE
namespace Go.Proofs.YtcipbkkpkhameaaGreat
open Go.RowKit
open Go.Lib hiding intOf

set_option maxHeartbeats 8000000 in
set_option maxRecDepth 100000 in
theorem isObjectCell_any (x : Int) (w : World) :
    Calls Tryz.prog 31 #[.int .i64 x] w fun e w' => BoolIs (5 ≤ x ∧ x ≤ 19) w e w' := by
  have hb0 : Below w.heap.size w w := Below.refl _ _
  go_enter Tryz.func31, Tryz.ntmps31
  by_cases hc1 : 5 ≤ x
  · have H5 : Hid (5 ≤ x) := hc1
    go_wp2_with fail
    refine (isCell_any x _).mono ?_
    rintro e w1 ⟨uc, rfl, huc, bw⟩
    have hb1 := hbt hb0 bw
    clear hb0 bw
    go_wp2_with fail
    go_ret
    cases uc with
    | true => exact BoolIs.yes ⟨H5.out, (huc.1 rfl).2⟩ hb1
    | false => exact BoolIs.no (fun h => nomatch huc.2 ⟨by omega, h.2⟩) hb1
  · have H5 : Hid (¬ 5 ≤ x) := hc1
    go_wp2_with fail
    go_ret
    exact BoolIs.no (fun h => by have h5 := H5.out; omega) hb0
set_option maxHeartbeats 8000000 in
set_option maxRecDepth 100000 in
theorem knownOf_any (V : Value) (kv : List (KpD × Value × Value × Value)) (B : Nat) (w : World) (h : KeptsO w B V kv) (hn : kv.length ≤ 1048576) (ha : ∀ x ∈ kv, 0 ≤ x.1.a ∧ x.1.a ≤ 1000) :
    Calls Tryz.prog 75 #[V] w fun e w' => KnownIs kv w e w' := by
  obtain ⟨o3, c3, e3⟩ := slice_of_owns h.row
  subst e3
  obtain ⟨n3, hn3⟩ : ∃ n, n = kv.length := ⟨_, rfl⟩
  rw [← hn3] at h ⊢
  obtain ⟨ks, hks⟩ : ∃ ks, ks = kv.map (·.1) := ⟨_, rfl⟩
  have HKS : Hid (kv.map (·.1) = ks) := hks.symm
  have HLK : Hid (kv.length = n3) := hn3.symm
  have bn3 : n3 ≤ 1048576 := by rw [hn3]; exact hn
  have HKP : Hid (∀ W, Below w.heap.size w W → KeptsO W B (.slice o3 n3 c3) kv) := fun W hb => KeptsO.below h hb
  clear hn3 hks h hn
  have HAB : Hid (∀ x ∈ kv, 0 ≤ x.1.a ∧ x.1.a ≤ 1000) := ha
  clear ha
  have hmm : ∀ W : World, (Instr.makeMap 121 (some (.int .i64 (n3 : Int)))).run Tryz.prog W = .ok (.map (some W.heap.size)) (W.alloc (.map #[] 0)) := fun W => run_makeMap_hint Tryz.underlying121 _ W
  have hb0 : Below w.heap.size w w := Below.refl _ _
  go_enter Tryz.func75, Tryz.ntmps75
  go_upto_region 2 with fail
  obtain ⟨qm1, hqm1⟩ : ∃ q, q = (w).heap.size := ⟨_, rfl⟩
  obtain ⟨w1, hW1⟩ : ∃ W, W = (w).alloc (.map #[] 0) := ⟨_, rfl⟩
  first | rw [← hW1, ← hqm1] | rw [← hW1]
  have bw : Below (w).heap.size (w) w1 := by rw [hW1]; exact (Below.refl _ _).alloc (Nat.le_refl _) _
  have hb1 := hbt hb0 bw
  have HGm1 : Hid (w.heap.size ≤ qm1) := by show _ ≤ _; rw [hqm1]; exact hb0.size
  have EMm1_1 : Hid (KnownO w1 qm1 0 (.map [])) := by unfold KnownO; show World.ownsMap _ _ _ _ _ _ _; rw [hW1, hqm1]; exact World.ownsMap_made _ _ _ _
  clear bw hW1 hqm1 hb0
  go_wp2_with fail
  go_loopw [11] (fun i wr => ∃ (j : Nat) (D : DataW Value), j ≤ n3 ∧ i = .int .i64 (j : Int) ∧ Hid (KnownO wr qm1 j D ∧ MapN D (kv.take j) ∧ Below w.heap.size w (wr))) (fun i _ => n3 - (intOf i).toNat)
  case atStart => exact ⟨0, .map [], Nat.zero_le _, rfl, EMm1_1.out, by rw [List.take_zero]; exact MapN.nil, hb1⟩
  case round =>
    obtain ⟨j, D, hj, rfl, HW⟩ := hrel
    by_cases hlt : (j : Int) < (n3 : Int)
    · have hb2 := HW.out.2.2
      have HMN := HW.out.2.1
      have HMNH : Hid (MapN D (kv.take j)) := HMN
      clear HMN
      have EMm1_2 : Hid (KnownO wr qm1 j D) := HW.out.1
      clear HW hb1 EMm1_1
      obtain ⟨g3, p3, hV, _, _⟩ := (HKP.out _ hb2).look j (by rw [HLK.out]; omega)
      rw [HLK.out] at hV
      injection hV with hV1 hV2 hV3
      subst hV1 hV3
      clear hV2
      obtain ⟨xX, hxX⟩ : ∃ x, x = kvAt kv j := ⟨_, rfl⟩
      have HMx : Hid (xX ∈ kv) := by show _ ∈ _; rw [hxX]; exact kvAt_mem kv j (by rw [HLK.out]; omega)
      have HEx : Hid (kpAt ks j = xX.1) := by show _ = _; rw [hxX, ← HKS.out]; exact (kvAt_fst kv j (by rw [HLK.out]; omega)).symm
      have HTKx : Hid (kv.take (j + 1) = kv.take j ++ [xX]) := by show _ = _; rw [hxX]; exact kvAt_take kv j (by rw [HLK.out]; omega)
      have HKx : Hid (∀ W, Below w.heap.size w W → KpAt W g3 j xX) := fun W hb => by
        obtain ⟨g', p', hV, _, hc⟩ := (HKP.out W hb).look j (by rw [HLK.out]; omega)
        injection hV with hV1 _ _
        cases hV1
        rw [hxX]
        exact hc
      clear hxX
      obtain ⟨x, kuv1, kuv2, kuv3⟩ := xX
      obtain ⟨ku1, kuc1, hu⟩ := slice_of_owns ((HKP.out _ hb2).names HMx.out)
      have hu' : kuv1 = .slice ku1 x.xs.length kuc1 := hu
      subst hu'
      clear hu
      obtain ⟨ku2, kuc2, hu⟩ := slice_of_owns ((HKP.out _ hb2).vals HMx.out)
      have hu' : kuv2 = .slice ku2 x.ys.length kuc2 := hu
      subst hu'
      clear hu
      obtain ⟨ku3, kuc3, hu⟩ := slice_of_owns ((HKP.out _ hb2).flds HMx.out)
      have hu' : kuv3 = .slice ku3 x.fs.length kuc3 := hu
      subst hu'
      clear hu
      have r0x := (HKx.out _ hb2).c0
      have r1x := (HKx.out _ hb2).c1
      have r2x := (HKx.out _ hb2).c2
      have r3x := (HKx.out _ hb2).c3
      have r4x := (HKx.out _ hb2).c4
      have r5x := (HKx.out _ hb2).c5
      have r6x := (HKx.out _ hb2).c6
      have r7x := (HKx.out _ hb2).c7
      have r8x := (HKx.out _ hb2).c8
      dsimp only at r0x r1x r2x r3x r4x r5x r6x r7x r8x
      go_upto_region 5 with fail
      obtain ⟨qv1, hqv1⟩ : ∃ q, q = (wr).heap.size := ⟨_, rfl⟩
      obtain ⟨w3, hW3⟩ : ∃ W, W = (wr).alloc (.cells #[.string x.p, .slice ku1 x.xs.length kuc1, .slice ku2 x.ys.length kuc2, .int .i64 x.st, .slice ku3 x.fs.length kuc3, .string x.b, .int .i64 x.t, .int .i64 x.a, .int .i64 x.q] 71) := ⟨_, rfl⟩
      have hz3 : (wr).heap.size = qv1 := hqv1.symm
      first | rw [← hW3, ← hqv1] | rw [← hW3]
      have hs3 : w3.heap.size = qv1 + 1 := by rw [hW3, ← hz3]; simp
      have bw : Below (wr).heap.size (wr) w3 := by rw [hW3]; exact (Below.refl _ _).alloc (Nat.le_refl _) _
      have hb3 := hbt hb2 bw
      have EMm1_3 : Hid (KnownO w3 qm1 j (D)) := map_below EMm1_2.out bw
      have HBv1_3 : Hid ((w3).heap[qv1]? = some (.cells #[.string x.p, .slice ku1 x.xs.length kuc1, .slice ku2 x.ys.length kuc2, .int .i64 x.st, .slice ku3 x.fs.length kuc3, .string x.b, .int .i64 x.t, .int .i64 x.a, .int .i64 x.q] 71)) := by show _ = _; rw [hW3, ← hz3]; exact heap_alloc_new _ _
      clear hb2 EMm1_2 bw hW3 hz3
      clear hs3 hqv1
      clear r0x r1x r2x r3x r4x r5x r6x r7x r8x
      have cv1_0 : (w3).cell? ⟨qv1, 0, none⟩ = some (.string x.p) := (cell_of HBv1_3.out 0).trans rfl
      have cv1_1 : (w3).cell? ⟨qv1, 1, none⟩ = some (.slice ku1 x.xs.length kuc1) := (cell_of HBv1_3.out 1).trans rfl
      have cv1_2 : (w3).cell? ⟨qv1, 2, none⟩ = some (.slice ku2 x.ys.length kuc2) := (cell_of HBv1_3.out 2).trans rfl
      have cv1_3 : (w3).cell? ⟨qv1, 3, none⟩ = some (.int .i64 x.st) := (cell_of HBv1_3.out 3).trans rfl
      have cv1_4 : (w3).cell? ⟨qv1, 4, none⟩ = some (.slice ku3 x.fs.length kuc3) := (cell_of HBv1_3.out 4).trans rfl
      have cv1_5 : (w3).cell? ⟨qv1, 5, none⟩ = some (.string x.b) := (cell_of HBv1_3.out 5).trans rfl
      have cv1_6 : (w3).cell? ⟨qv1, 6, none⟩ = some (.int .i64 x.t) := (cell_of HBv1_3.out 6).trans rfl
      have cv1_7 : (w3).cell? ⟨qv1, 7, none⟩ = some (.int .i64 x.a) := (cell_of HBv1_3.out 7).trans rfl
      have cv1_8 : (w3).cell? ⟨qv1, 8, none⟩ = some (.int .i64 x.q) := (cell_of HBv1_3.out 8).trans rfl
      have hmp := EMm1_3.out
      unfold KnownO at hmp
      go_wp2_with (first | (at_mapUpdate; refine wpList_mapUpdate_own _ rfl _ _ _ 121 rfl 3 71 keyInt Tryz.underlying121 mpR qm1 (j) (D) rfl hmp (by unfold maxLen; omega) _ _ (.int .i64 x.a) rfl rfl (key_wf (HAB.out _ HMx.out).1 (HAB.out _ HMx.out).2) (.held (.agg #[.string x.p, .slice ku1 x.xs.length kuc1, .slice ku2 x.ys.length kuc2, .int .i64 x.st, .slice ku3 x.fs.length kuc3, .string x.b, .int .i64 x.t, .int .i64 x.a, .int .i64 x.q])) [] rfl ?_) | go_in)
      intro w4 hown1 hgrow
      clear cv1_0 cv1_1 cv1_2 cv1_3 cv1_4 cv1_5 cv1_6 cv1_7 cv1_8
      have hb4 : Below w.heap.size w (w4) := hb3.grown hgrow hb3.size (by intro g hg; cases hg; exact HGm1.out)
      have HBv1_4 : Hid ((w4).heap[qv1]? = some (.cells #[.string x.p, .slice ku1 x.xs.length kuc1, .slice ku2 x.ys.length kuc2, .int .i64 x.st, .slice ku3 x.fs.length kuc3, .string x.b, .int .i64 x.t, .int .i64 x.a, .int .i64 x.q] 71)) := map_blk hmp HBv1_3.out hgrow
      have EMm1_4 : Hid (KnownO w4 qm1 (j + 1) (((D).put (.int .i64 x.a) (.held (.agg #[.string x.p, .slice ku1 x.xs.length kuc1, .slice ku2 x.ys.length kuc2, .int .i64 x.st, .slice ku3 x.fs.length kuc3, .string x.b, .int .i64 x.t, .int .i64 x.a, .int .i64 x.q]))))) := hown1
      clear hown1 hgrow hmp hb3 HBv1_3 EMm1_3
      have HN2 : Hid (MapN (D.put (.int .i64 x.a) (.held (kpX (x, .slice ku1 x.xs.length kuc1, .slice ku2 x.ys.length kuc2, .slice ku3 x.fs.length kuc3)))) (kv.take (j + 1))) := by
        show MapN _ _
        rw [HTKx.out]
        exact HMNH.out.put (x, .slice ku1 x.xs.length kuc1, .slice ku2 x.ys.length kuc2, .slice ku3 x.fs.length kuc3)
      go_wp2_with fail
      go_roundw
      case rel => exact ⟨j + 1, _, by omega, by go_num, EMm1_4.out, HN2.out, hb4⟩
      case measure => simp [intOf]; omega
    · have hb2 := HW.out.2.2
      have HMN := HW.out.2.1
      have HMNH : Hid (MapN D (kv.take j)) := HMN
      clear HMN
      have EMm1_2 : Hid (KnownO wr qm1 j D) := HW.out.1
      clear HW hb1 EMm1_1
      go_wp2_with fail
      go_ret
      have HMN2 : MapN D kv := by
        have h := HMNH.out
        rw [List.take_of_length_le (by rw [HLK.out]; omega)] at h
        exact h
      exact ⟨qm1, j, D, rfl, by rw [HLK.out]; omega, EMm1_2.out, HMN2, HGm1.out, hb2⟩

end Go.Proofs.YtcipbkkpkhameaaGreat

namespace Go.Proofs.YtcipbkkpkhameaaGreat
open Go.RowKit
open Go.Lib hiding intOf

theorem timeOk_any (t : Int) (w : World) :
    Calls Tryz.prog 109 #[.int .i64 t] w fun e w' => e = .returned (.bool (decide ((0 : Int) ≤ t ∧ t ≤ 1000000))) ∧ w' = w := by
  obtain ⟨D, hD⟩ : ∃ D, D = decide ((0 : Int) ≤ t ∧ t ≤ 1000000) := ⟨_, rfl⟩
  rw [← hD]
  by_cases h1 : 0 ≤ t
  · by_cases h2 : t ≤ 1000000
    · have HD : Hid (D = true) := by show _ = _; rw [hD]; exact decide_eq_true ⟨h1, h2⟩
      clear hD
      go_enter Tryz.func109, Tryz.ntmps109
      go_wp2
      go_ret
      exact ⟨by rw [HD.out]; rfl, rfl⟩
    · have HD : Hid (D = false) := by show _ = _; rw [hD]; exact decide_eq_false (fun h => h2 h.2)
      clear hD
      go_enter Tryz.func109, Tryz.ntmps109
      go_wp2
      go_ret
      exact ⟨by rw [HD.out]; rfl, rfl⟩
  · have HD : Hid (D = false) := by show _ = _; rw [hD]; exact decide_eq_false (fun h => h1 h.1)
    clear hD
    go_enter Tryz.func109, Tryz.ntmps109
    go_wp2
    go_ret
    exact ⟨by rw [HD.out]; rfl, rfl⟩

set_option maxHeartbeats 1000000 in
theorem valuesOk_any (oa : Option Addr) (m cm : Nat) (xs : List ByteArray) (w : World) (hx : TextsA w oa m xs) (hm : m ≤ 2000000) (hsz : ∀ i, i < m → (textAt xs i).size ≤ maxLen) :
    Calls Tryz.prog 113 #[.slice oa m cm] w fun e w' => BoolIs (∀ y ∈ xs, ValOk y) w e w' := by
  have HV : Hid (∀ W, Below w.heap.size w W → TextsA W oa m xs) := fun W h => hx.below h
  have HL : Hid (xs.length = m) := hx.1
  have HS : Hid (∀ i, i < m → (textAt xs i).size ≤ maxLen) := hsz
  clear hx hsz
  go_enter Tryz.func113, Tryz.ntmps113
  go_wp2
  go_loopw [7] (fun i wr => ∃ j : Nat, j ≤ m ∧ i = .int .i64 (j : Int) ∧ Hid (Below w.heap.size w wr) ∧ Hid (∀ x ∈ xs.take j, ValOk x)) (fun i _ => m - (intOf i).toNat)
  case atStart => exact ⟨0, Nat.zero_le _, rfl, Below.refl _ _, fun x hx => by simp at hx⟩
  case round =>
    obtain ⟨j, hj, rfl, HW, HN⟩ := hrel
    by_cases hlt : (j : Int) < (m : Int)
    · have hjx : j < xs.length := by rw [HL.out]; omega
      obtain ⟨g, hog, hg, hc⟩ := (HV.out wr HW.out).2 j (by omega)
      subst hog
      have hs := HS.out j (by omega)
      obtain ⟨x, hxx⟩ : ∃ x, x = textAt xs j := ⟨_, rfl⟩
      rw [← hxx] at hc hs
      have HM : Hid (x ∈ xs) := by show _ ∈ _; rw [hxx]; exact textAt_mem xs j hjx
      have HTK : Hid (xs.take (j + 1) = xs.take j ++ [x]) := by show _ = _; rw [take_textAt xs j hjx, hxx]
      clear hxx hjx
      go_wp2_with fail
      refine (implValueOk_any x _ hs).mono ?_
      rintro e w90 ⟨tx, rfl, htx, bw⟩
      have HW2 : Hid (Below w.heap.size w w90) := HW.out.trans (bw.mono HW.out.size)
      clear bw hc HW
      cases tx with
      | false =>
        have HF : Hid (¬ ∀ y ∈ xs, ValOk y) := fun h => nomatch htx.2 (h x HM.out)
        clear htx HN
        go_wp2_with fail
        go_ret
        exact BoolIs.no HF.out HW2.out
      | true =>
        have HN2 : Hid (∀ y ∈ xs.take (j + 1), ValOk y) := by
          intro y hy
          rw [HTK.out] at hy
          rcases List.mem_append.1 hy with hy | hy
          · exact HN.out y hy
          · rw [List.mem_singleton.1 hy]; exact htx.1 rfl
        clear htx HN
        go_wp2_with fail
        go_roundw
        case rel => exact ⟨j + 1, by omega, by go_num, HW2, HN2⟩
        case measure => simp [intOf]; omega
    · have HA : Hid (∀ y ∈ xs, ValOk y) := by
        have h := HN.out
        rw [List.take_of_length_le (by rw [HL.out]; omega)] at h
        exact h
      clear HN
      go_wp2_with fail
      go_ret
      exact ⟨true, rfl, ⟨fun _ => HA.out, fun _ => rfl⟩, HW.out⟩

theorem equalT_any (oa ob : Option Addr) (m cm k ck : Nat) (xs ys : List ByteArray) (w : World) (hx : TextsA w oa m xs) (hm : m ≤ 2000000) (hy : TextsA w ob k ys) (hk : k ≤ 2000000) :
    Calls Tryz.prog 110 #[.slice oa m cm, .slice ob k ck] w fun e w' => e = .returned (.bool (decide (xs = ys))) ∧ Below w.heap.size w w' := by
  by_cases hmk : m = k
  · subst hmk
    by_cases h0 : m = 0
    · subst h0
      refine (Tryz.slices_Equal_string_empty oa ob cm 0 ck w (by omega)).mono ?_
      rintro e w1 ⟨rfl, rfl⟩
      refine ⟨?_, Below.refl _ _⟩
      rw [List.length_eq_zero_iff.1 hx.1, List.length_eq_zero_iff.1 hy.1]
      simp
    · obtain ⟨g, rfl, _, _⟩ := hx.2 0 (by omega)
      obtain ⟨q, rfl, _, _⟩ := hy.2 0 (by omega)
      refine (Tryz.slices_Equal_string g 0 m cm q 0 m ck xs ys w (by rw [hx.1]; exact Nat.le_refl _) (by rw [hy.1]; exact Nat.le_refl _) (by omega) (by omega) (fun j hj => ?_) (fun j hj => ?_)).mono ?_
      · obtain ⟨g2, e2, _, h3⟩ := hx.2 j (by rw [← hx.1]; exact hj)
        cases e2
        rw [Nat.zero_add]
        exact h3
      · obtain ⟨g2, e2, _, h3⟩ := hy.2 j (by rw [← hy.1]; exact hj)
        cases e2
        rw [Nat.zero_add]
        exact h3
      · rintro e w1 ⟨rfl, n, rfl⟩
        refine ⟨?_, ⟨rfl, rfl, rfl, Nat.le_refl _, fun _ _ => rfl⟩⟩
        rw [List.take_of_length_le (by rw [hx.1]; exact Nat.le_refl _), List.take_of_length_le (by rw [hy.1]; exact Nat.le_refl _)]
  · refine (Tryz.slices_Equal_string_lens oa ob m cm k ck w hmk).mono ?_
    rintro e w1 ⟨rfl, rfl⟩
    refine ⟨?_, Below.refl _ _⟩
    rw [decide_eq_false (fun h => hmk (by rw [← hx.1, ← hy.1, h]))]

end Go.Proofs.YtcipbkkpkhameaaGreat

namespace Go.Proofs.YtcipbkkpkhameaaGreat
open Go.RowKit
open Go.Lib hiding intOf

attribute [local go_sem] Oper.semAt_some

set_option maxHeartbeats 1000000 in
theorem valueOf_any (x : ByteArray) (v : Value) (n base : Nat) (fs : List (ByteArray × ByteArray)) (w : World) (hv : FieldsV w base v n fs) (hn : n ≤ 1073741824) (hcp : CopyF fs) :
    Calls Tryz.prog 120 #[.string x, v] w fun e w' => e = .returned (.string (valOf fs x)) ∧ Below w.heap.size w w' := by
  obtain ⟨y, hy⟩ : ∃ y, y = valOf fs x := ⟨_, rfl⟩
  rw [← hy]
  go_enter Tryz.func120, Tryz.ntmps120
  go_wp2_with fail
  refine (implGet_any v n base fs x _ hv hn hcp).mono ?_
  rintro e w2 ⟨rfl, b2⟩
  obtain ⟨s, hs⟩ : ∃ s, s = getV fs x := ⟨_, rfl⟩
  obtain ⟨th, hth⟩ : ∃ b, b = getB fs x := ⟨_, rfl⟩
  rw [← hs, ← hth]
  have HY : Hid (y = if th = true then s else dashT) := by show _ = _; rw [hy, hs, hth]; rfl
  clear hs hth hy hv
  cases th with
  | true =>
    have HY2 : Hid (s = y) := by show _ = _; rw [HY.out]; rfl
    rw [HY2.out]
    clear HY HY2
    go_wp2_with fail
    go_ret
    exact ⟨rfl, b2⟩
  | false =>
    have HY2 : Hid (y = ⟨#[45]⟩) := by show _ = _; rw [HY.out]; rfl
    clear HY
    go_wp2_with fail
    go_ret
    exact ⟨by rw [HY2.out]; rfl, b2⟩

set_option maxHeartbeats 1000000 in
theorem toldValues_any (oa : Option Addr) (m cm : Nat) (oc : Option Addr) (n cn : Nat) (w : World) :
    Calls Tryz.prog 88 #[.slice oa m cm, .slice oc n cn] w fun e w' =>
      e = .returned (.func (.func 119) #[] #[.pointer (some ⟨w.heap.size, 0, none⟩), .pointer (some ⟨w.heap.size + 1, 0, none⟩)]) ∧
      w' = (w.alloc (.cells #[.slice oa m cm] 22)).alloc (.cells #[.slice oc n cn] 46) := by
  go_enter Tryz.func88, Tryz.ntmps88
  go_wp2_with fail
  go_ret
  exact ⟨rfl, rfl⟩

/-- What a round is handed: the place and the value. -/
def toldV (xs : List ByteArray) (fs : List (ByteArray × ByteArray)) (m : Nat) (j : Fin m) : Array Value := #[.int .i64 ((j.1 : Nat) : Int), .string (valOf fs (textAt xs j.1))]
theorem fin_take (m k : Nat) (h : k < m) : (List.finRange m).take (k + 1) = (List.finRange m).take k ++ [⟨k, h⟩] := by
  rw [List.take_add_one, List.getElem?_eq_getElem (by simpa using h), List.getElem_finRange]
  rfl
theorem fin_take_len (m k : Nat) (h : k ≤ m) : ((List.finRange m).take k).length = k := by simp [h]

/-- What a round keeps: all below a block, and the one block that holds the fields. -/
def KeepL (n₀ b : Nat) (W W' : World) : Prop := Below n₀ W W' ∧ W'.heap[b]? = W.heap[b]?
theorem KeepL.trans {n₀ b : Nat} {A B C : World} (h : KeepL n₀ b A B) (k : KeepL n₀ b B C) : KeepL n₀ b A C := ⟨h.1.trans k.1, k.2.trans h.2⟩
theorem keepL_b {n₀ b : Nat} {w : World} (hn : n₀ ≤ w.heap.size) (hb : b < w.heap.size) (W : World) (l : Nat) (o o' : Obj) (hl : w.heap.size ≤ l) (h : W.heap[l]? = some o) (h1 : o.isCells = false) (h2 : o.isWalk = false) : KeepL n₀ b W (W.putObj l o') :=
  ⟨belowK_b hn W l o o' hl h h1 h2, World.putObj_heap_other (by omega)⟩

set_option maxRecDepth 100000 in
set_option maxHeartbeats 2000000 in
theorem told1_in (nn : Nat) (hnn : 1 ≤ nn) (l Bs Bf n₀ : Nat) (oa : Option Addr) (m cm : Nat) (xs : List ByteArray) (v : Value) (n base : Nat) (fs : List (ByteArray × ByteArray)) (w0 W : World)
    (hm : m ≤ 1048577) (hn : n ≤ 1073741824) (hcp : CopyF fs) (hn₀ : n₀ ≤ W.heap.size)
    (hX : ∀ W', Below n₀ w0 W' → TextsA W' oa m xs) (hV : ∀ W', Below n₀ w0 W' → FieldsV W' base v n fs)
    (hW : Below n₀ w0 W) (hBs : W.cell? ⟨Bs, 0, none⟩ = some (.slice oa m cm)) (hBf : Boxed W Bf 46 v)
    (J Jx : List (Fin m) → World → Prop) (hJ : AbidesFrom W.heap.size J)
    (hY : ∀ pre x W1, J pre W1 → pre.length < m → YieldAt Fence.wide (nn - 1) Tryz.prog l (toldV xs fs m x) W1 fun e W' =>
      (e = .returned (.bool true) ∧ J (pre ++ [x]) W' ∧ KeepL n₀ Bf W1 W') ∨ (e = .returned (.bool false) ∧ Jx (pre ++ [x]) W'))
    (h0 : J [] W) :
    CallsIn Fence.wide nn Tryz.prog 119 #[.func (.yield l) #[] #[], .pointer (some ⟨Bs, 0, none⟩), .pointer (some ⟨Bf, 0, none⟩)] W fun e W' => (∃ u, e = .returned u) ∧
      ((∃ ys, ys = List.finRange m ∧ J ys W') ∨ (∃ pre, pre <+: List.finRange m ∧ Jx pre W')) := by
  have HX : Hid (∀ W', Below n₀ w0 W' → TextsA W' oa m xs) := hX
  have HV : Hid (∀ W', Below n₀ w0 W' → FieldsV W' base v n fs) := hV
  have HLEN : Hid (xs.length = m) := (hX W hW).1
  obtain ⟨oc, cn, hvs, _⟩ := (hV W hW).slice
  subst hvs
  have HW : Hid (Below n₀ w0 W) := hW
  have HN : Hid (n₀ ≤ W.heap.size) := hn₀
  have HBF : Hid (Boxed W Bf 46 (.slice oc n cn)) := hBf
  have HY : Hid (∀ pre x W1, J pre W1 → pre.length < m → YieldAt Fence.wide (nn - 1) Tryz.prog l (toldV xs fs m x) W1 fun e W' =>
      (e = .returned (.bool true) ∧ J (pre ++ [x]) W' ∧ KeepL n₀ Bf W1 W') ∨ (e = .returned (.bool false) ∧ Jx (pre ++ [x]) W')) := hY
  have HJ : Hid (AbidesFrom W.heap.size J) := hJ
  clear hX hV hW hBf hY hJ hn₀
  refine callsIn_of_wp Tryz.func119 rfl trivial ?_ rfl
  simp only [Tryz.ntmps119, List.size_toArray, List.length_cons, List.length_nil, Nat.reduceAdd, Nat.reduceSub, Array.replicate_succ, Array.replicate_zero, List.push_toArray, List.append_toArray, List.nil_append, List.cons_append]
  gi_wp2
  gi_loopw [8] (fun i wr => ∃ k : Nat, k ≤ m ∧ i = .int .i64 (k : Int) ∧ Hid (J ((List.finRange m).take k) wr) ∧ Hid (KeepL n₀ Bf W wr) ∧ W.heap.size ≤ wr.heap.size) (fun i _ => m - (intOf i).toNat)
  case atStart => exact ⟨0, Nat.zero_le _, rfl, h0, ⟨Below.refl _ _, rfl⟩, Nat.le_refl _⟩
  case round =>
    obtain ⟨k, hk, rfl, HJs, HK, hsz⟩ := hrel
    by_cases hlt : (k : Int) < (m : Int)
    · have hkm : k < m := by omega
      have hB : Below n₀ w0 wr := HW.out.trans HK.out.1
      obtain ⟨g, rfl, hg, hc⟩ := (HX.out wr hB).2 k hkm
      have hbf : wr.cell? ⟨Bf, 0, none⟩ = some (.slice oc n cn) := (show Boxed wr Bf 46 (.slice oc n cn) from HK.out.2.trans HBF.out).cell
      have HBl : Hid (Bf < wr.heap.size) := (show Boxed wr Bf 46 (.slice oc n cn) from HK.out.2.trans HBF.out).lt
      have hval := valueOf_any (textAt xs k) (.slice oc n cn) n base fs wr (HV.out wr hB) hn hcp
      obtain ⟨x, hx⟩ : ∃ x, x = textAt xs k := ⟨_, rfl⟩
      rw [← hx] at hc hval
      obtain ⟨y, hy⟩ : ∃ y, y = valOf fs x := ⟨_, rfl⟩
      rw [← hy] at hval
      have HTV : Hid (toldV xs fs m ⟨k, hkm⟩ = #[.int .i64 (k : Int), .string y]) := by show _ = _; rw [hy, hx]; rfl
      clear hx hy hB
      gi_wp2_with fail
      refine ⟨trivial, (callsIn_wide.2 hval).mono ?_⟩
      rintro e w2 ⟨rfl, b2⟩
      have HJ2 : Hid (J ((List.finRange m).take k) w2) := HJ.out _ wr w2 none HJs.out ⟨b2.os, b2.tape, b2.output, b2.size, fun q hq _ => b2.block q hq⟩ (fun r e => by cases e)
      have HK2 : Hid (KeepL n₀ Bf W w2) := by
        refine ⟨HK.out.1.trans (b2.mono ?_), (b2.block Bf HBl.out).trans HK.out.2⟩
        exact Nat.le_trans HN.out hsz
      have hsz2 : W.heap.size ≤ w2.heap.size := Nat.le_trans hsz b2.size
      obtain ⟨fn, tmps, assign, body, hy, hR⟩ := HY.out _ ⟨k, hkm⟩ w2 HJ2.out (by rw [fin_take_len m k hk]; exact hkm)
      rw [HTV.out] at hy
      clear hval HJs HK hsz hc hbf hg b2 HBl
      gi_wp2
      refine hR.mono ?_
      rintro e W3 (⟨rfl, hJ3, hk3⟩ | ⟨rfl, hJx3⟩)
      · have HJ3 : Hid (J ((List.finRange m).take (k + 1)) W3) := by show J _ _; rw [fin_take m k hkm]; exact hJ3
        have HK3 : Hid (KeepL n₀ Bf W W3) := HK2.out.trans hk3
        have hsz3 : W.heap.size ≤ W3.heap.size := Nat.le_trans hsz2 hk3.1.size
        clear hJ3 hk3 hsz2 HK2 HJ2 hR
        gi_wp2
        go_roundw
        case rel => exact ⟨k + 1, by omega, by go_num, HJ3, HK3, hsz3⟩
        case measure => simp [intOf]; omega
      · have HJx : Hid (Jx ((List.finRange m).take (k + 1)) W3) := by show Jx _ _; rw [fin_take m k hkm]; exact hJx3
        clear hJx3 HK2 HJ2 hsz2 hR
        gi_wp2
        refine bodyPost_ret (results_none rfl _ _ _) rfl ?_
        exact ⟨⟨_, rfl⟩, .inr ⟨_, List.take_prefix _ _, HJx.out⟩⟩
    · obtain rfl : k = m := by omega
      gi_wp2
      go_end0
      have hj := HJs.out
      rw [List.take_of_length_le (by simp)] at hj
      exact ⟨⟨_, rfl⟩, .inl hj⟩

/-- What 'toldValues' hands back tells them all, in their order, or the first of them. -/
theorem told_stops (nn : Nat) (hnn : 1 ≤ nn) (Bs Bf n₀ : Nat) (oa : Option Addr) (m cm : Nat) (xs : List ByteArray) (v : Value) (n base : Nat) (fs : List (ByteArray × ByteArray)) (w0 w : World)
    (hm : m ≤ 1048577) (hn : n ≤ 1073741824) (hcp : CopyF fs) (hn₀ : n₀ ≤ w.heap.size)
    (hX : ∀ W', Below n₀ w0 W' → TextsA W' oa m xs) (hV : ∀ W', Below n₀ w0 W' → FieldsV W' base v n fs)
    (hW : Below n₀ w0 w) (hBs : Boxed w Bs 22 (.slice oa m cm)) (hBf : Boxed w Bf 46 v) :
    SeqStopsK Fence.wide nn Tryz.prog 119 #[.pointer (some ⟨Bs, 0, none⟩), .pointer (some ⟨Bf, 0, none⟩)] (toldV xs fs m) (KeepL n₀ Bf) (fun ys => ys = List.finRange m) (fun pre => pre <+: List.finRange m) m w := fun l J Jx W hw hJ _ hY h0 => by
  have hbs : Boxed W Bs 22 (.slice oa m cm) := (hw.block Bs hBs.lt).trans hBs
  have hbf : Boxed W Bf 46 v := (hw.block Bf hBf.lt).trans hBf
  exact told1_in nn hnn l Bs Bf n₀ oa m cm xs v n base fs w0 W hm hn hcp (Nat.le_trans hn₀ hw.size) hX hV (hW.trans (hw.mono hn₀)) hbs.cell hbf J Jx hJ hY h0

end Go.Proofs.YtcipbkkpkhameaaGreat

namespace Go.Proofs.YtcipbkkpkhameaaGreat
open Go.RowKit
open Go.Lib hiding intOf

attribute [local go_sem] Oper.semAt_some

set_option maxHeartbeats 1000000 in
set_option maxRecDepth 100000 in
theorem implVaryOf_any (v : Value) (n base : Nat) (fs : List (ByteArray × ByteArray)) (w : World) (hv : FieldsV w base v n fs) (hn : n ≤ 1073741824) (hcp : CopyF fs) (hsz : (getV fs varyName).size ≤ 1048576) :
    Calls Tryz.prog 111 #[v] w fun e w' => RowIs w.heap.size (varyP fs) w e w' := by
  obtain ⟨s, hs⟩ : ∃ s, s = getV fs varyName := ⟨_, rfl⟩
  have HS : Hid (getV fs varyName = s) := hs.symm
  have HE : Hid (varyP fs = (splitL s).map lowerOf) := by show _ = _; unfold varyP; rw [HS.out]
  rw [← hs] at hsz
  have hl1 := (splitL_le s).1
  clear hs
  go_enter Tryz.func111, Tryz.ntmps111
  go_wp2_with fail
  refine (implGet_any v n base fs varyName _ hv hn hcp).mono ?_
  rintro e w1 ⟨rfl, b1⟩
  rw [HS.out]
  clear hv
  go_wp2_with fail
  refine (implSplit_any s _ hsz).mono ?_
  rintro e w2 ⟨V, rfl, O, b2⟩
  obtain ⟨xs, hxs⟩ : ∃ xs, xs = splitL s := ⟨_, rfl⟩
  rw [← hxs] at hl1 O HE
  obtain ⟨m, hm⟩ : ∃ m, m = xs.length := ⟨_, rfl⟩
  rw [← hm] at hl1 O
  have HM : Hid (xs.length = m) := hm.symm
  have O := owns_base O b1.size
  have b2 : Below w.heap.size w w2 := b1.trans (b2.mono b1.size)
  clear hxs hm b1
  rcases row_form O with ⟨oa, ca, rfl, h0, h1⟩ | ⟨g, cap, rfl, hp, r1⟩
  · subst h0 h1
    go_wp2_with fail
    refine wp_loop_rounds 1 ?_
    rw [rounds_succ]
    go_wp2_with fail
    go_ret
    exact RowIs.of (by rw [HE.out]; rfl) rfl O b2
  · clear O
    have HB2 : Hid (Below w.heap.size w w2) := b2
    have HR1 : Hid (TextRow w.heap.size w2 g m cap (loTo xs 0)) := by show TextRow _ _ _ _ _ _; rw [loTo_zero]; exact r1
    clear b2 r1
    go_wp2_with fail
    go_loopw [17] (fun i wr => ∃ j : Nat, j ≤ m ∧ i = .int .i64 (j : Int) ∧ Hid (Below w.heap.size w wr) ∧ Hid (TextRow w.heap.size wr g m cap (loTo xs j))) (fun i _ => m - (intOf i).toNat)
    case atStart => exact ⟨0, Nat.zero_le _, rfl, HB2, HR1⟩
    case round =>
      obtain ⟨j, hj, rfl, HB, HR⟩ := hrel
      by_cases hlt : j < m
      · have hlt2 : (j : Int) < (m : Int) := by omega
        obtain ⟨x, hx⟩ : ∃ x, x = textAt xs j := ⟨_, rfl⟩
        have hc := HR.out.cell j hlt
        rw [loTo_at, ← hx] at hc
        have HST : Hid ((loTo xs j).set j (lowerOf x) = loTo xs (j + 1)) := by show _ = _; rw [hx]; exact loTo_step xs j (by rw [HM.out]; exact hlt)
        clear hx
        go_wp2_with fail
        refine (implLower_any x _).mono ?_
        rintro e w3 ⟨rfl, hb3⟩
        have hrow := HR.out.below hb3 HR.out.lt
        have hc3 := hrow.cell j hlt
        have hf3 := hrow.frozen j
        have HB3 : Hid (Below w.heap.size w (w3.setCell ⟨g, j, none⟩ (.string (lowerOf x)))) := (HB.out.trans (hb3.mono HB.out.size)).setCell HR.out.base _
        have HR3 : Hid (TextRow w.heap.size (w3.setCell ⟨g, j, none⟩ (.string (lowerOf x))) g m cap (loTo xs (j + 1))) := by
          show TextRow _ _ _ _ _ _
          rw [← HST.out]
          exact hrow.set j hlt _
        clear hb3 hrow HB HR HST hc
        go_wp2_with fail
        go_roundw
        case rel => exact ⟨j + 1, by omega, by go_num, HB3, HR3⟩
        case measure => simp [intOf]; omega
      · obtain rfl : j = m := by omega
        go_wp2_with fail
        go_ret
        exact RowIs.of (by rw [HE.out, loTo_all xs j (by rw [HM.out]; exact Nat.le_refl _)]) (by rw [loTo_all xs j (by rw [HM.out]; exact Nat.le_refl _), List.length_map, HM.out]) HR.out.owns HB.out

theorem boxed_kept {W W' : World} {row : Option Nat} {B B0 : Nat} {t : TypeId} {v : Value} (h : Boxed W B t v) (hg : W.grownBy W' row) (hr : ∀ r, row = some r → B0 ≤ r ∧ ∃ o : Obj, W.heap[r]? = some o ∧ o.isCells = false) : Boxed W' B t v :=
  h.kept hg (fun e => by
    obtain ⟨_, o, ho, hc⟩ := hr B e.symm
    rw [show W.heap[B]? = _ from h] at ho
    cases ho
    cases hc)
open Classical in
theorem contains_any (oa : Option Addr) (m cm : Nat) (xs : List ByteArray) (x : ByteArray) (w : World) (hx : TextsA w oa m xs) (hm : m ≤ 2000000) :
    Calls Tryz.prog 87 #[.slice oa m cm, .string x] w fun e w' => e = .returned (.bool (decide (x ∈ xs))) ∧ w' = w := by
  by_cases h0 : m = 0
  · subst h0
    refine (Tryz.slices_Contains_string_empty oa cm x w).mono ?_
    rintro e w1 ⟨rfl, rfl⟩
    refine ⟨?_, rfl⟩
    rw [List.length_eq_zero_iff.1 hx.1]
    simp
  · obtain ⟨g, rfl, _, _⟩ := hx.2 0 (by omega)
    refine (Tryz.slices_Contains_string g 0 m cm xs x w (by rw [hx.1]; exact Nat.le_refl _) (by omega) (fun j hj => ?_)).mono ?_
    · obtain ⟨g2, e2, _, h3⟩ := hx.2 j (by rw [← hx.1]; exact hj)
      cases e2
      rw [Nat.zero_add]
      exact h3
    · rintro e w1 ⟨rfl, rfl⟩
      refine ⟨?_, rfl⟩
      rw [List.take_of_length_le (by rw [hx.1]; exact Nat.le_refl _)]
      by_cases h : x ∈ xs
      · rw [(Go.Lib.containsS_iff xs x).2 h, decide_eq_true h]
      · rw [decide_eq_false h, Bool.eq_false_iff.2 (fun hc => h ((Go.Lib.containsS_iff xs x).1 hc))]

set_option maxHeartbeats 2000000 in
set_option maxRecDepth 100000 in
theorem implSuits_any (oa ob : Option Addr) (m cm k ck : Nat) (xs ys : List ByteArray) (v : Value) (n base : Nat) (fs : List (ByteArray × ByteArray)) (w : World) (hx : TextsA w oa m xs) (hm : m ≤ 1048577) (hy : TextsA w ob k ys) (hv : FieldsV w base v n fs) (hn : n ≤ 1073741824) (hcp : CopyF fs) (hk : k ≤ 1048577) :
    Calls Tryz.prog 43 #[.slice oa m cm, .slice ob k ck, v] w fun e w' => e = .returned (.bool (suitsP xs ys fs)) ∧ Below w.heap.size w w' := by
  classical
  have HLX : Hid (xs.length = m) := hx.1
  have HLY : Hid (ys.length = k) := hy.1
  have HX : Hid (∀ W, Below w.heap.size w W → TextsA W oa m xs) := fun W h => hx.below h
  have HY : Hid (∀ W, Below w.heap.size w W → TextsA W ob k ys) := fun W h => hy.below h
  have HV : Hid (∀ W, Below w.heap.size w W → FieldsV W base v n fs) := fun W h => hv.below h
  obtain ⟨oc, cn, hvs, _⟩ := hv.slice
  clear hx hv hy
  subst hvs
  obtain ⟨b, hb⟩ : ∃ b, b = suitsP xs ys fs := ⟨_, rfl⟩
  rw [← hb]
  have HSU : Hid (b = suitsP xs ys fs) := hb
  clear hb
  have HB2 : Hid (Below w.heap.size w ((w.alloc (Obj.cells #[Value.slice ob k ck] 22)).alloc (Obj.cells #[Value.bool false] 4))) := ((Below.refl _ w).alloc (Nat.le_refl _) _).alloc (by simp) _
  have HXB : Hid (Boxed ((w.alloc (Obj.cells #[Value.slice ob k ck] 22)).alloc (Obj.cells #[Value.bool false] 4)) (w.heap.size + 1) 4 (.bool false)) := by
    have h := Boxed.new (w.alloc (Obj.cells #[Value.slice ob k ck] 22)) 4 (.bool false)
    rw [World.size_alloc] at h
    exact h
  refine (callsIn_wide (n := 4)).1 ?_
  refine callsIn_of_wp_marks Tryz.func43 rfl trivial ?_ rfl
  simp only [Tryz.ntmps43, List.size_toArray, List.length_cons, List.length_nil, Nat.reduceAdd, Nat.reduceSub, Array.replicate_succ, Array.replicate_zero, List.push_toArray, List.append_toArray, List.nil_append, List.cons_append]
  by_cases hmk : m = k
  · subst hmk
    gi_wp2_with fail
    refine ⟨trivial, (callsIn_wide.2 (contains_any oa m cm xs starT _ (HX.out _ HB2.out) (by omega))).mono ?_⟩
    rintro e w1 ⟨rfl, rfl⟩
    by_cases hst : starT ∈ xs
    · rw [decide_eq_true hst]
      have HE : Hid (b = false) := by show _ = _; rw [HSU.out]; unfold suitsP; exact decide_eq_false (fun h => h.1 hst)
      clear hst
      gi_wp2
      refine ⟨.bool false, ?_, by rw [HE.out], HB2.out⟩
      have hc5 := HXB.out.cell
      simp [results, Tryz.f43, go_sem, hc5]
    · rw [decide_eq_false hst]
      have HST : Hid (starT ∉ xs) := hst
      clear hst
      gi_wp2_with fail
      refine ⟨trivial, (callsIn_wide.2 (toldValues_any oa m cm oc n cn _)).mono ?_⟩
      rintro e w1 ⟨rfl, rfl⟩
      gi_wp2_with fail
      obtain ⟨W4, hW4⟩ : ∃ W4, ((((w.alloc (Obj.cells #[Value.slice ob m ck] 22)).alloc (Obj.cells #[Value.bool false] 4)).alloc (Obj.cells #[Value.slice oa m cm] 22)).alloc (Obj.cells #[Value.slice oc n cn] 46)) = W4 := ⟨_, rfl⟩
      have x0 : Boxed W4 w.heap.size 22 (.slice ob m ck) := by
        rw [← hW4]
        exact (((Boxed.new w 22 (.slice ob m ck)).alloc _).alloc _).alloc _
      have x1 : Boxed W4 (w.heap.size + 1) 4 (.bool false) := by
        rw [← hW4]
        exact (HXB.out.alloc _).alloc _
      have x2 : Boxed W4 (w.heap.size + 1 + 1) 22 (.slice oa m cm) := by
        rw [← hW4]
        have h := (Boxed.new ((w.alloc (Obj.cells #[Value.slice ob m ck] 22)).alloc (Obj.cells #[Value.bool false] 4)) 22 (.slice oa m cm)).alloc (Obj.cells #[Value.slice oc n cn] 46)
        simpa using h
      have x3 : Boxed W4 (w.heap.size + 1 + 1 + 1) 46 (.slice oc n cn) := by
        rw [← hW4]
        have h := Boxed.new (((w.alloc (Obj.cells #[Value.slice ob m ck] 22)).alloc (Obj.cells #[Value.bool false] 4)).alloc (Obj.cells #[Value.slice oa m cm] 22)) 46 (.slice oc n cn)
        simpa using h
      have hs4 : W4.heap.size = w.heap.size + 4 := by rw [← hW4]; simp
      have hB0 : Below w.heap.size w W4 := by rw [← hW4]; exact (HB2.out.alloc (by simp; omega) _).alloc (by simp; omega) _
      rw [hW4]
      clear hW4 HB2 HXB
      refine wpIn_rangeFunc_ownG rfl (by omega) (gf := 119) (lb := #[.pointer (some ⟨w.heap.size + 1 + 1, 0, none⟩), .pointer (some ⟨w.heap.size + 1 + 1 + 1, 0, none⟩)]) rfl trivial (enters_of Tryz.func119 (by kernel_rfl) rfl)
        (told_stops (4 - 1) (by omega) (w.heap.size + 1 + 1) (w.heap.size + 1 + 1 + 1) w.heap.size oa m cm xs (.slice oc n cn) n base fs w W4 hm hn hcp (by omega) HX.out HV.out hB0 x2 x3) KeepL.trans (keepL_b (by omega) (by omega)) (Below.refl _ _) (fun _ => rfl)
        (fun pre W => (Boxed W w.heap.size 22 (.slice ob m ck) ∧ Boxed W (w.heap.size + 1) 4 (.bool false) ∧ ∀ j ∈ pre, valOf fs (textAt xs j.1) = textAt ys j.1) ∧ Below w.heap.size w W)
        (fun c pre W => (Boxed W (w.heap.size + 1) 4 (.bool false) ∧ c = .ret ∧ ∃ j : Fin m, valOf fs (textAt xs j.1) ≠ textAt ys j.1) ∧ Below w.heap.size w W)
        (OwnFrom.and (fun s A B row hs hg hr => ⟨boxed_kept hs.1 hg hr, boxed_kept hs.2.1 hg hr, hs.2.2⟩) (ownFrom_below (Nat.le_refl _) (by omega)))
        (fun c => OwnFrom.and (fun s A B row hs hg hr => ⟨boxed_kept hs.1 hg hr, hs.2⟩) (ownFrom_below (Nat.le_refl _) (by omega)))
        ⟨⟨x0, x1, fun j hj => by cases hj⟩, hB0⟩
        (fun x => { tmps := #[.slice oa m cm, .slice ob m ck, .slice oc n cn, undef, .pointer (some ⟨w.heap.size, 0, none⟩), undef, .pointer (some ⟨w.heap.size + 1, 0, none⟩), .int .i64 ((x.1 : Nat) : Int), .string (valOf fs (textAt xs x.1)), .slice oa m cm, .int .i64 (m : Int), .slice ob m ck, .int .i64 (m : Int), .bool false, .bool false, .slice oa m cm, .bool false, .bool false, .slice oa m cm, .slice oc n cn, .func (.func 119) #[] #[.pointer (some ⟨w.heap.size + 1 + 1, 0, none⟩), .pointer (some ⟨w.heap.size + 1 + 1 + 1, 0, none⟩)], .int .i64 ((x.1 : Nat) : Int), .string (valOf fs (textAt xs x.1)), undef, undef, undef, undef, undef, undef], defers := [] }) ?assign ?body ?done ?stop
      case assign =>
        intro l x W K hK
        simp only [toldV]
        gi_wp2
        exact hK
      case body =>
        rintro l pre x W ⟨⟨hb0, hb1, hall⟩, hB⟩ _
        have hxm : ((x.1 : Nat) : Int) < (m : Int) := by have := x.2; omega
        have hc0 := hb0.cell
        have hc1 := hb1.cell
        have hf1 := hb1.frozen
        obtain ⟨g2, hob, _, hcy⟩ := (HY.out W hB).2 x.1 x.2
        subst hob
        have HALL : Hid (∀ j ∈ pre, valOf fs (textAt xs j.1) = textAt ys j.1) := hall
        obtain ⟨y, hy⟩ : ∃ y, y = valOf fs (textAt xs x.1) := ⟨_, rfl⟩
        obtain ⟨z, hz⟩ : ∃ z, z = textAt ys x.1 := ⟨_, rfl⟩
        rw [← hy]
        rw [← hz] at hcy
        have HYy : Hid (y = valOf fs (textAt xs x.1)) := hy
        have HZz : Hid (z = textAt ys x.1) := hz
        clear hy hz hall
        by_cases he : y = z
        · have HI : Hid (∀ j ∈ pre ++ [x], valOf fs (textAt xs j.1) = textAt ys j.1) := by
            intro j hj
            rcases List.mem_append.1 hj with h | h
            · exact HALL.out j h
            · rw [List.mem_singleton.1 h, ← HYy.out, ← HZz.out, he]
          subst he
          clear HYy HZz HALL
          gi_wp2
          exact ⟨KeepsFrom.refl _ _, ⟨Below.refl _ _, rfl⟩, ⟨hb0, hb1, HI.out⟩, hB⟩
        · have t0 : (y.toList == z.toList) = false := text_beq_no he
          have t1 : (y.toList != z.toList) = true := by rw [bne, t0]; rfl
          have HE : Hid (∃ j : Fin m, valOf fs (textAt xs j.1) ≠ textAt ys j.1) := ⟨x, by rw [← HYy.out, ← HZz.out]; exact he⟩
          clear HYy HZz HALL he
          gi_wp2
          exact ⟨(KeepsOthers.setCell _ _ _).from _, ⟨hb1.set _, rfl, HE.out⟩, hB.setCell (p := ⟨w.heap.size + 1, 0, none⟩) (by simp) _⟩
      case done =>
        rintro D zs W hD rfl ⟨⟨hb0, hb1, hall⟩, hB⟩ hK
        have hc1 := hb1.cell
        have hf1 := hb1.frozen
        have HE : Hid (b = true) := by
          show _ = _
          rw [HSU.out]
          unfold suitsP
          refine decide_eq_true ⟨HST.out, List.ext_getElem (by rw [valsP_len, HLX.out, HLY.out]) (fun i h1 h2 => ?_)⟩
          have hi : i < m := by rw [valsP_len, HLX.out] at h1; exact h1
          have h := hall ⟨i, hi⟩ (List.mem_finRange _)
          simp only [valsP, List.getElem_map]
          have e1 : textAt xs i = xs[i]'(by rw [HLX.out]; exact hi) := by unfold textAt; rw [List.getD_eq_getElem?_getD, List.getElem?_eq_getElem (by rw [HLX.out]; exact hi)]; rfl
          have e2 : textAt ys i = ys[i]'h2 := by unfold textAt; rw [List.getD_eq_getElem?_getD, List.getElem?_eq_getElem h2]; rfl
          rw [← e1, ← e2]
          exact h
        have HB5 : Hid (Below w.heap.size w W) := hB
        have HK : Hid (W.heap[D]? = some (.deferred (some []))) := hK
        have HX1 : Hid (Boxed W (w.heap.size + 1) 4 (.bool false)) := hb1
        clear hall hB hK hb1 hb0
        gi_wp2
        have hK' := (KeepsOthers.setCell W ⟨w.heap.size + 1, 0, none⟩ (.bool true)).same D _ HK.out rfl
        refine ⟨by simp, .inl ⟨_, _, rfl, run_takeDeferred hK', ?_⟩⟩
        have hc5 := cell_kept (HX1.out.set (.bool true)).cell (grownBy_putObj' _ D (.deferred none)) (fun r e => by cases e; exact ⟨_, hK', rfl⟩)
        refine ⟨.bool true, ?_, by rw [HE.out], (HB5.out.setCell (p := ⟨w.heap.size + 1, 0, none⟩) (by simp) _).trans (belowK_b (w := w) (Nat.le_refl _) _ D _ _ (by omega) hK' rfl rfl)⟩
        simp [results, Tryz.f43, go_sem, hc5]
      case stop =>
        rintro D c pre W hD hpre ⟨⟨hb1, rfl, j, hj⟩, hB⟩ hK
        have HE : Hid (b = false) := by
          show _ = _
          rw [HSU.out]
          unfold suitsP
          refine decide_eq_false (fun h => hj ?_)
          have e := h.2
          have h1 : j.1 < xs.length := by rw [HLX.out]; exact j.2
          have h2 : j.1 < ys.length := by rw [HLY.out]; exact j.2
          unfold textAt
          rw [List.getD_eq_getElem?_getD, List.getD_eq_getElem?_getD, List.getElem?_eq_getElem h1, List.getElem?_eq_getElem h2]
          have e3 : (valsP xs fs)[j.1]? = ys[j.1]? := by rw [e]
          unfold valsP at e3
          rw [List.getElem?_map, List.getElem?_eq_getElem h1, List.getElem?_eq_getElem h2] at e3
          simpa using e3
        gi_wp2
        refine ⟨by simp, .inl ⟨_, _, rfl, run_takeDeferred hK, ?_⟩⟩
        have hc5 := cell_kept hb1.cell (grownBy_putObj' _ D (.deferred none)) (fun r e => by cases e; exact ⟨_, hK, rfl⟩)
        refine ⟨.bool false, ?_, by rw [HE.out], hB.trans (belowK_b (w := w) (Nat.le_refl _) W D _ _ (by omega) hK rfl rfl)⟩
        simp [results, Tryz.f43, go_sem, hc5]
  · have HE : Hid (b = false) := by
      show _ = _; rw [HSU.out]; unfold suitsP
      refine decide_eq_false (fun h => hmk ?_)
      rw [← HLX.out, ← HLY.out, ← h.2, valsP_len]
    have hmi : ((m : Int) != (k : Int)) = true := by simp; omega
    gi_wp2
    refine ⟨trivial, ?_⟩
    gi_wp2
    refine ⟨.bool false, ?_, by rw [HE.out], HB2.out⟩
    have hc5 := HXB.out.cell
    simp [results, Tryz.f43, go_sem, hc5]

end Go.Proofs.YtcipbkkpkhameaaGreat

namespace Go.Proofs.YtcipbkkpkhameaaGreat
open Go.RowKit
open Go.Lib hiding intOf

set_option maxHeartbeats 1000000 in
theorem namesOk_any (oa : Option Addr) (m cm : Nat) (xs : List ByteArray) (w : World) (hx : TextsA w oa m xs) (hm : m ≤ 2000000) (hsz : ∀ i, i < m → (textAt xs i).size ≤ maxLen) :
    Calls Tryz.prog 112 #[.slice oa m cm] w fun e w' => BoolIs (NamesP xs) w e w' := by
  by_cases h4 : (4 : Int) < (m : Int)
  · have HF : Hid (¬ NamesP xs) := fun h => by have := h.2; rw [hx.1] at this; omega
    clear hx hsz
    go_enter Tryz.func112, Tryz.ntmps112
    go_wp2_with fail
    go_ret
    exact BoolIs.no HF.out (Below.refl _ _)
  have HX : Hid (∀ W, Below w.heap.size w W → TextsA W oa m xs) := fun W h => hx.below h
  have HL : Hid (xs.length = m) := hx.1
  have HS : Hid (∀ i, i < m → (textAt xs i).size ≤ maxLen) := hsz
  clear hx hsz
  go_enter Tryz.func112, Tryz.ntmps112
  go_wp2_with fail
  go_loopw [10] (fun i wr => ∃ j : Nat, j ≤ m ∧ i = .int .i64 (j : Int) ∧ Below w.heap.size w wr ∧ Hid (∀ x ∈ xs.take j, TokOk x)) (fun i _ => m - (intOf i).toNat)
  case atStart => exact ⟨0, Nat.zero_le _, rfl, Below.refl _ _, fun x hx => by simp at hx⟩
  case round =>
    obtain ⟨j, hj, rfl, hbw, HN⟩ := hrel
    by_cases hlt : (j : Int) < (m : Int)
    · have hjx : j < xs.length := by rw [HL.out]; omega
      obtain ⟨g, rfl, hg, hc⟩ := (HX.out wr hbw).2 j (by omega)
      have hs := HS.out j (by omega)
      obtain ⟨x, hxx⟩ : ∃ x, x = textAt xs j := ⟨_, rfl⟩
      rw [← hxx] at hc hs
      have HM : Hid (x ∈ xs) := by show _ ∈ _; rw [hxx]; exact textAt_mem xs j hjx
      have HT : Hid (xs.take (j + 1) = xs.take j ++ [x]) := by show _ = _; rw [take_textAt xs j hjx, hxx]
      clear hxx hjx
      go_wp2_with fail
      refine (implTokenOk_any x _ hs).mono ?_
      rintro e w1 ⟨t, rfl, ht, b1⟩
      have hb1 : Below w.heap.size w w1 := hbw.trans (b1.mono hbw.size)
      clear b1 hbw hc
      cases t with
      | false =>
        have HF : Hid (¬ NamesP xs) := fun h => nomatch ht.2 (h.1 x HM.out)
        clear ht HN
        go_wp2_with fail
        go_ret
        exact BoolIs.no HF.out hb1
      | true =>
        have HN2 : Hid (∀ y ∈ xs.take (j + 1), TokOk y) := by
          intro y hy
          rw [HT.out] at hy
          rcases List.mem_append.1 hy with hy | hy
          · exact HN.out y hy
          · rw [List.mem_singleton.1 hy]; exact ht.1 rfl
        clear ht HN
        go_wp2_with fail
        go_roundw
        case rel => exact ⟨j + 1, by omega, by go_num, hb1, HN2⟩
        case measure => simp [intOf]; omega
    · have HQ : Hid (NamesP xs) := ⟨by
        have h := HN.out
        rw [List.take_of_length_le (by rw [HL.out]; omega)] at h
        exact h, by rw [HL.out]; omega⟩
      clear HN
      go_wp2_with fail
      go_ret
      exact ⟨true, rfl, ⟨fun _ => HQ.out, fun _ => rfl⟩, hbw⟩

end Go.Proofs.YtcipbkkpkhameaaGreat

namespace Go.Proofs.YtcipbkkpkhameaaGreat
open Go.RowKit
open Go.Lib hiding intOf

set_option maxHeartbeats 1000000 in
theorem fieldOk_any (v : Value) (n base : Nat) (fs : List (ByteArray × ByteArray)) (k : Nat) (w : World) (hv : FieldsV w base v n fs) (hn : n ≤ 1073741824) (hk : k < n) (hs1 : (nameAt fs k).size ≤ maxLen) (hs2 : (valAt fs k).size ≤ maxLen) :
    Calls Tryz.prog 145 #[v, .int .i64 (k : Int)] w fun e w' => BoolIs (FldOk fs k) w e w' := by
  have HV : Hid (∀ W, Below w.heap.size w W → FieldsV W base v n fs) := fun W h => hv.below h
  obtain ⟨oa, cap, rfl, hrow⟩ := hv.slice
  obtain ⟨g, rfl, row⟩ := hrow k hk
  have hlt2 : (k : Int) < (n : Int) := by omega
  have hc1 := row.name k hk
  have hc2 := row.val k hk
  obtain ⟨nm, hnm⟩ : ∃ x, x = nameAt fs k := ⟨_, rfl⟩
  obtain ⟨vl, hvl⟩ : ∃ x, x = valAt fs k := ⟨_, rfl⟩
  have HO : Hid (FldOk fs k ↔ TokOk nm ∧ ValOk vl ∧ atF fs nm = k ∧ nm ≠ clen) := by rw [hnm, hvl]; exact Iff.rfl
  rw [← hnm] at hc1 hs1
  rw [← hvl] at hc2 hs2
  clear hv hrow row hnm hvl
  obtain ⟨r, hr⟩ : ∃ r, r = w.heap.size := ⟨_, rfl⟩
  have h0 : (w.alloc (.cells #[.string nm, .string vl] 132)).heap.size = w.heap.size + 1 := by simp
  have HB0 : Hid (Below w.heap.size w (w.alloc (.cells #[.string nm, .string vl] 132)) ∧ w.heap.size ≤ (w.alloc (.cells #[.string nm, .string vl] 132)).heap.size) := ⟨(Below.refl _ w).alloc (Nat.le_refl _) _, by omega⟩
  have HR : Hid (∀ W, Below (w.alloc (.cells #[.string nm, .string vl] 132)).heap.size (w.alloc (.cells #[.string nm, .string vl] 132)) W → W.cell? ⟨r, 0, none⟩ = some (.string nm) ∧ W.cell? ⟨r, 1, none⟩ = some (.string vl)) := fun W h => by
    have hh : W.heap[r]? = some (.cells #[.string nm, .string vl] 132) := by rw [hr, h.block _ (by omega)]; exact heap_alloc_new w _
    exact ⟨by simp [World.cell?, hh], by simp [World.cell?, hh]⟩
  go_enter Tryz.func145, Tryz.ntmps145
  go_wp2_with fail
  refine (implTokenOk_any nm _ hs1).mono ?_
  rintro e w1 ⟨b1, rfl, kb1, bb1⟩
  rw [← hr]
  have hb1 : Below w.heap.size w w1 := HB0.out.1.trans (bb1.mono HB0.out.2)
  obtain ⟨d1, d2⟩ := HR.out w1 bb1
  clear h0
  cases b1
  · have HF : Hid (¬ FldOk fs k) := fun h => by have := kb1.2 (HO.out.1 h).1; cases this
    clear kb1 hc1 hc2 bb1 hr
    go_wp2_with fail
    go_ret
    exact BoolIs.no HF.out hb1
  · have HT : Hid (TokOk nm) := kb1.1 rfl
    clear kb1 hc1 hc2 hr
    go_wp2_with fail
    refine (implValueOk_any vl _ hs2).mono ?_
    rintro e w2 ⟨b2, rfl, kb2, bb2⟩
    have bb2' := bb1.trans (bb2.mono bb1.size)
    have hb2 : Below w.heap.size w w2 := HB0.out.1.trans (bb2'.mono HB0.out.2)
    obtain ⟨d3, d4⟩ := HR.out w2 bb2'
    cases b2
    · have HF : Hid (¬ FldOk fs k) := fun h => by have := kb2.2 (HO.out.1 h).2.1; cases this
      clear kb2 bb1 bb2 bb2' hb1 d1 d2
      go_wp2_with fail
      go_ret
      exact BoolIs.no HF.out hb2
    · have HT2 : Hid (ValOk vl) := kb2.1 rfl
      clear kb2 bb1 bb2 bb2' hb1 d1 d2
      by_cases hcl : nm = clen
      · have ht := (text_beq _ _).2 hcl
        rw [clen_list] at ht
        have HF : Hid (¬ FldOk fs k) := fun h => (HO.out.1 h).2.2.2 hcl
        clear hcl
        go_wp2_with fail
        go_ret
        exact BoolIs.no HF.out hb2
      · have ht := text_beq_no hcl
        rw [clen_list] at ht
        have HC : Hid (nm ≠ clen) := hcl
        clear hcl
        go_wp2_with fail
        refine (place_any _ n base fs nm _ (HV.out w2 hb2) hn).mono ?_
        rintro e w3 ⟨rfl, rfl⟩
        by_cases hat : atF fs nm = k
        · have HY : Hid (FldOk fs k) := HO.out.2 ⟨HT.out, HT2.out, hat, HC.out⟩
          rw [hat]
          clear hat
          go_wp2
          go_ret
          exact BoolIs.yes HY.out hb2
        · have HF : Hid (¬ FldOk fs k) := fun h => hat (HO.out.1 h).2.2.1
          have hne : ((atF fs nm : Int) == (k : Int)) = false := by rw [beq_eq_false_iff_ne]; omega
          clear hat
          go_wp2
          go_ret
          exact BoolIs.no HF.out hb2

set_option maxHeartbeats 1000000 in
theorem ok_any (v : Value) (n base : Nat) (fs : List (ByteArray × ByteArray)) (w : World) (hv : FieldsV w base v n fs) (hn : n ≤ 1073741824) (hsz : ∀ i, i < n → (nameAt fs i).size ≤ maxLen ∧ (valAt fs i).size ≤ maxLen) :
    Calls Tryz.prog 142 #[v] w fun e w' => BoolIs (FldsOk fs) w e w' := by
  have hl := hv.len
  have HV : Hid (∀ W, Below w.heap.size w W → FieldsV W base v n fs) := fun W h => hv.below h
  have HS : Hid (∀ i, i < n → (nameAt fs i).size ≤ maxLen ∧ (valAt fs i).size ≤ maxLen) := hsz
  obtain ⟨oa, cap, rfl, hrow⟩ := hv.slice
  clear hv hrow hsz
  by_cases h8 : (8 : Int) < (n : Int)
  · have HF : Hid (¬ FldsOk fs) := fun h => by have := h.1; omega
    go_enter Tryz.func142, Tryz.ntmps142
    go_wp2
    go_ret
    exact BoolIs.no HF.out (Below.refl _ _)
  · go_enter Tryz.func142, Tryz.ntmps142
    go_wp2
    go_loopw [9] (fun i wr => ∃ k : Nat, k ≤ n ∧ i = .int .i64 (k : Int) ∧ Hid (∀ j, j < k → FldOk fs j) ∧ Below w.heap.size w wr) (fun i _ => n - (intOf i).toNat)
    case atStart => exact ⟨0, Nat.zero_le _, rfl, fun j h => absurd h (by omega), Below.refl _ _⟩
    case round =>
      obtain ⟨k, hk, rfl, hall, hbw⟩ := hrel
      by_cases hlt : k < n
      · have hlt2 : (k : Int) < (n : Int) := by omega
        obtain ⟨hs1, hs2⟩ := HS.out k hlt
        go_wp2_with fail
        refine (fieldOk_any _ n base fs k _ (HV.out wr hbw) hn hlt hs1 hs2).mono ?_
        rintro e w1 ⟨b1, rfl, kb1, bb1⟩
        have hb1 : Below w.heap.size w w1 := hbw.trans (bb1.mono hbw.size)
        cases b1
        · have HF : Hid (¬ FldsOk fs) := fun h => by have := kb1.2 (h.2 k (by omega)); cases this
          clear kb1 bb1
          go_wp2
          go_ret
          exact BoolIs.no HF.out hb1
        · have HY : Hid (FldOk fs k) := kb1.1 rfl
          clear kb1 bb1
          go_wp2
          go_roundw
          case rel =>
            refine ⟨k + 1, by omega, by go_num, ?_, hb1⟩
            intro j hj
            by_cases e : j = k
            · subst e; exact HY.out
            · exact hall.out j (by omega)
          case measure => simp [intOf]; omega
      · have HF : Hid (FldsOk fs) := ⟨by omega, fun i hi => hall.out i (by omega)⟩
        go_wp2
        go_ret
        exact BoolIs.yes HF.out hbw

end Go.Proofs.YtcipbkkpkhameaaGreat

namespace Go.Proofs.YtcipbkkpkhameaaGreat
open Go.RowKit
open Go.Lib hiding intOf

theorem path_cls (n : Int) : PathB n ↔ (cls n ≠ 4 ∧ cls n ≠ 7) := by
  have := cls_spec n
  unfold PathB
  constructor
  · intro h; omega
  · intro h; omega
theorem path_small {n : Int} (h : PathB n) : n < 128 := by unfold PathB at h; omega

set_option maxHeartbeats 400000 in
theorem isPathRune_any (r : Int) (w : World) :
    Calls Tryz.prog 129 #[.int .i32 r] w fun e w' => BoolIs (PathB r) w e w' := by
  have HP : Hid (PathB r ↔ (cls r ≠ 4 ∧ cls r ≠ 7)) := path_cls r
  go_enter Tryz.func129, Tryz.ntmps129
  go_wp2_with fail
  refine (classOf_any r _).mono ?_
  rintro e w1 ⟨rfl, hb⟩
  generalize cls r = c at HP ⊢
  by_cases h4 : c = 4
  · have HN : Hid (¬ PathB r) := fun h => (HP.out.1 h).1 h4
    subst h4
    go_wp2_with fail
    go_ret
    exact BoolIs.no HN.out hb
  · have h5 : (c != 4) = true := by rw [bne_iff_ne]; exact h4
    by_cases h7 : c = 7
    · have HN : Hid (¬ PathB r) := fun h => (HP.out.1 h).2 h7
      subst h7
      go_wp2_with fail
      go_ret
      exact BoolIs.no HN.out hb
    · have h8 : (c != 7) = true := by rw [bne_iff_ne]; exact h7
      have HY : Hid (PathB r) := HP.out.2 ⟨h4, h7⟩
      go_wp2_with fail
      go_ret
      exact BoolIs.yes HY.out hb

set_option maxHeartbeats 1000000 in
theorem allRunes_path (s : ByteArray) (w : World) :
    Calls Tryz.prog 128 #[.string s, .func (.func 129) #[] #[]] w fun e w' => BoolIs (AllB PathB s) w e w' := by
  go_enter Tryz.func128, Tryz.ntmps128
  go_wp2
  go_loopw [6] (fun _ wr => ∃ pos : Nat, wr.heap[w.heap.size]? = some (.stringIter s pos) ∧ Below w.heap.size w wr ∧ Hid (AllTo PathB s pos)) (fun _ wr => s.size - wr.iterPos w.heap.size)
  case atStart => exact ⟨0, World.iter_heap _ _ _, (Below.refl _ _).alloc (Nat.le_refl _) _, allTo_zero _ _⟩
  case round =>
    obtain ⟨pos, hh, hbw, hall⟩ := hrel
    by_cases hp : pos < s.size
    · have hnx := fun ty => run_next_any_at (P := Tryz.prog) wr w.heap.size s pos ty hh hp
      go_wp2_with (go_at_call 129; refine (isPathRune_any _ _).mono ?_; rintro e w1 ⟨b, rfl, hbt, hb1⟩)
      · have hbf : b = false := by simpa using ‹(!b) = true›
        have hno : ¬ PathB ((Utf8.decode s pos).1 : Int) := fun h => by rw [hbt.2 h] at hbf; cases hbf
        go_ret
        exact BoolIs.no (rune_no (fun _ => path_small) s pos hp hno) (iter_step hh hbw hb1).2
      · have hbf : b = true := by simpa using ‹(!b) = false›
        obtain ⟨hv, hone⟩ := rune_ok (fun _ => path_small) s pos hp (hbt.1 hbf)
        rw [hone] at hb1
        obtain ⟨h1, h2⟩ := iter_step hh hbw hb1
        exact ⟨⟨pos + 1, h1, h2, allTo_succ hall.out hp hv⟩, by rw [iterPos_of h1, iterPos_of hh]; omega⟩
    · have hnx := fun ty => run_next_end_at (P := Tryz.prog) wr w.heap.size s pos ty hh hp
      go_wp2
      go_ret
      exact BoolIs.yes (allTo_end hall.out hp) hbw

set_option maxHeartbeats 1000000 in
theorem pathOk_any (s : ByteArray) (w : World) (hs : s.size ≤ maxLen) :
    Calls Tryz.prog 108 #[.string s] w fun e w' => BoolIs (PathOk s) w e w' := by
  unfold maxLen at hs
  by_cases h1 : (1 : Int) ≤ (s.size : Int)
  · have h0 : 0 < s.size := by omega
    by_cases h2 : (s.size : Int) ≤ 60
    · by_cases h3 : ((s[0]'h0).toNat : Int) = 47
      · have h4 : (((s[0]'h0).toNat : Int) == 47) = true := by rw [beq_iff_eq]; exact h3
        have H3 : Hid ((s[0]'h0).toNat = 47) := by show _ = _; omega
        clear h3
        go_enter Tryz.func108, Tryz.ntmps108
        go_wp2_with fail
        refine (allRunes_path s _).mono ?_
        rintro e w1 ⟨b, rfl, hbt, hb1⟩
        cases b
        · have HN : Hid (¬ PathOk s) := fun h => by have := hbt.2 h.1; cases this
          clear hbt
          go_wp2_with fail
          go_ret
          exact BoolIs.no HN.out hb1
        · have HY : Hid (PathOk s) := ⟨hbt.1 rfl, by omega, by omega, h0, H3.out⟩
          clear hbt
          go_wp2_with fail
          go_ret
          exact BoolIs.yes HY.out hb1
      · have h4 : (((s[0]'h0).toNat : Int) == 47) = false := by rw [beq_eq_false_iff_ne]; exact h3
        have HN : Hid (¬ PathOk s) := fun h => by obtain ⟨_, _, _, _, h5⟩ := h; omega
        clear h3
        go_enter Tryz.func108, Tryz.ntmps108
        go_wp2_with fail
        go_ret
        exact BoolIs.no HN.out (Below.refl _ _)
    · have HN : Hid (¬ PathOk s) := fun h => by obtain ⟨_, _, h5, _⟩ := h; omega
      have hd : decide ((s.size : Int) ≤ 60) = false := by simpa using h2
      go_enter Tryz.func108, Tryz.ntmps108
      go_wp2_with fail
      go_ret
      exact BoolIs.no HN.out (Below.refl _ _)
  · have HN : Hid (¬ PathOk s) := fun h => by obtain ⟨_, h5, _⟩ := h; omega
    have hd : decide ((1 : Int) ≤ (s.size : Int)) = false := by simpa using h1
    go_enter Tryz.func108, Tryz.ntmps108
    go_wp2_with fail
    go_ret
    exact BoolIs.no HN.out (Below.refl _ _)

/-- What is right of what stands behind the first line. -/
def RestP (fs : List (ByteArray × ByteArray)) (b : ByteArray) : Prop := FldsOk fs ∧ b.size ≤ 120
set_option maxHeartbeats 1000000 in
theorem restOk_any (v : Value) (b : ByteArray) (n base : Nat) (fs : List (ByteArray × ByteArray)) (w : World) (hv : FieldsV w base v n fs) (hn : n ≤ 1073741824) (hsz : WalkF n fs) (hb : b.size ≤ maxLen) :
    Calls Tryz.prog 136 #[.agg #[v, .string b]] w fun e w' => BoolIs (RestP fs b) w e w' := by
  obtain ⟨oa, cap, rfl, _⟩ := hv.slice
  obtain ⟨r, hr⟩ : ∃ r, r = w.heap.size := ⟨_, rfl⟩
  have HR : Hid (∀ W, Below (w.alloc (.cells #[.slice oa n cap, .string b] 172)).heap.size (w.alloc (.cells #[.slice oa n cap, .string b] 172)) W → (W.cell? ⟨r, 0, none⟩ = some (.slice oa n cap) ∧ W.cell? ⟨r, 1, none⟩ = some (.string b)) ∧ FieldsV W base (.slice oa n cap) n fs ∧ Below w.heap.size w W) := fun W h => by
    have hh := kept_new h
    rw [← hr] at hh
    exact ⟨⟨by simp [World.cell?, hh], by simp [World.cell?, hh]⟩, hv.below (below_new h), below_new h⟩
  obtain ⟨_, hv0, _⟩ := HR.out _ (Below.refl _ _)
  unfold maxLen at hb
  go_enter Tryz.func136, Tryz.ntmps136
  go_wp2_with fail
  refine (ok_any _ n base fs _ hv0 hn hsz).mono ?_
  rintro e w1 ⟨b1, rfl, kb1, bb1⟩
  rw [← hr]
  obtain ⟨⟨c0, c1⟩, _, hbw1⟩ := HR.out w1 bb1
  clear hv hv0 hsz bb1 hr
  cases b1
  · have HF : Hid (¬ RestP fs b) := fun h => by have := kb1.2 h.1; cases this
    clear kb1
    go_wp2_with fail
    go_ret
    exact BoolIs.no HF.out hbw1
  · have HT : Hid (FldsOk fs) := kb1.1 rfl
    clear kb1
    by_cases h120 : (b.size : Int) ≤ 120
    · have HY : Hid (RestP fs b) := ⟨HT.out, by omega⟩
      go_wp2_with fail
      go_ret
      exact BoolIs.yes HY.out hbw1
    · have HF : Hid (¬ RestP fs b) := fun h => by have := h.2; omega
      have hd : decide ((b.size : Int) ≤ 120) = false := by simpa using h120
      go_wp2_with fail
      go_ret
      exact BoolIs.no HF.out hbw1

set_option maxHeartbeats 1000000 in
theorem respOk_any (st : Int) (v : Value) (b : ByteArray) (n base : Nat) (fs : List (ByteArray × ByteArray)) (w : World) (hv : FieldsV w base v n fs) (hn : n ≤ 1073741824) (hsz : WalkF n fs) (hb : b.size ≤ maxLen) :
    Calls Tryz.prog 127 #[.agg #[v, .string b, .int .i64 st]] w fun e w' => BoolIs (RespP st fs b) w e w' := by
  obtain ⟨oa, cap, rfl, _⟩ := hv.slice
  obtain ⟨r, hr⟩ : ∃ r, r = w.heap.size := ⟨_, rfl⟩
  have HR : Hid (∀ W, Below (w.alloc (.cells #[.slice oa n cap, .string b, .int .i64 st] 174)).heap.size (w.alloc (.cells #[.slice oa n cap, .string b, .int .i64 st] 174)) W → (W.cell? ⟨r, 0, none⟩ = some (.slice oa n cap) ∧ W.cell? ⟨r, 1, none⟩ = some (.string b) ∧ W.cell? ⟨r, 2, none⟩ = some (.int .i64 st)) ∧ FieldsV W base (.slice oa n cap) n fs ∧ Below w.heap.size w W) := fun W h => by
    have hh := kept_new h
    rw [← hr] at hh
    exact ⟨⟨by simp [World.cell?, hh], by simp [World.cell?, hh], by simp [World.cell?, hh]⟩, hv.below (below_new h), below_new h⟩
  obtain ⟨_, hv0, hbw0⟩ := HR.out _ (Below.refl _ _)
  have HV0 : Hid (FieldsV (w.alloc (.cells #[.slice oa n cap, .string b, .int .i64 st] 174)) base (.slice oa n cap) n fs) := hv0
  have HSZ : Hid (WalkF n fs) := hsz
  have HBS : Hid (b.size ≤ maxLen) := hb
  clear hv hv0 hsz hb
  by_cases h1 : 100 ≤ st
  · by_cases h2 : st ≤ 599
    · go_enter Tryz.func127, Tryz.ntmps127
      go_wp2_with fail
      refine (restOk_any _ b n base fs _ HV0.out hn HSZ.out HBS.out).mono ?_
      rintro e w3 ⟨b2, rfl, kb2, bb3⟩
      obtain ⟨_, _, hbw3⟩ := HR.out w3 bb3
      clear bb3 hbw0
      cases b2
      · have HF : Hid (¬ RespP st fs b) := fun h => by have := kb2.2 h.2; cases this
        clear kb2
        go_wp2_with fail
        go_ret
        exact BoolIs.no HF.out hbw3
      · have HY : Hid (RespP st fs b) := ⟨⟨h1, h2⟩, kb2.1 rfl⟩
        clear kb2
        go_wp2_with fail
        go_ret
        exact BoolIs.yes HY.out hbw3
    · have HF : Hid (¬ RespP st fs b) := fun h => h2 h.1.2
      have hd : decide (st ≤ 599) = false := by simpa using h2
      go_enter Tryz.func127, Tryz.ntmps127
      go_wp2_with fail
      go_ret
      exact BoolIs.no HF.out hbw0
  · have HF : Hid (¬ RespP st fs b) := fun h => h1 h.1.1
    have hd : decide (100 ≤ st) = false := by simpa using h1
    go_enter Tryz.func127, Tryz.ntmps127
    go_wp2_with fail
    go_ret
    exact BoolIs.no HF.out hbw0

set_option maxHeartbeats 400000 in
theorem answerOf_any (m : Int) (oa : Option Addr) (n cap : Nat) (b : ByteArray) (w : World) :
    Calls Tryz.prog 126 #[.agg #[.int .i64 m, .slice oa n cap, .string b]] w fun e w' => e = .returned (.agg #[.slice oa n cap, .string b, .int .i64 m]) ∧ Below w.heap.size w w' := by
  go_enter Tryz.func126, Tryz.ntmps126
  go_wp2
  exact bodyPost_ret (v := .agg #[.slice oa n cap, .string b, .int .i64 m]) (by simp [results, Tryz.results126, go_sem]) rfl ⟨rfl, ((Below.refl _ _).alloc (Nat.le_refl _) _).alloc (by simp) _⟩
set_option maxHeartbeats 400000 in
theorem implRespOk_any (m : Int) (v : Value) (b : ByteArray) (n base : Nat) (fs : List (ByteArray × ByteArray)) (w : World) (hv : FieldsV w base v n fs) (hn : n ≤ 1073741824) (hsz : WalkF n fs) (hb : b.size ≤ maxLen) :
    Calls Tryz.prog 107 #[.agg #[.int .i64 m, v, .string b]] w fun e w' => BoolIs (RespP m fs b) w e w' := by
  obtain ⟨oa, cap, rfl, _⟩ := hv.slice
  have hb0 : Below w.heap.size w (w.alloc (.cells #[.int .i64 m, .slice oa n cap, .string b] 48)) := (Below.refl _ _).alloc (Nat.le_refl _) _
  go_enter Tryz.func107, Tryz.ntmps107
  go_wp2_with fail
  refine (answerOf_any m oa n cap b _).mono ?_
  rintro e w1 ⟨rfl, bb1⟩
  have hb1 : Below w.heap.size w w1 := hb0.trans (bb1.mono hb0.size)
  have hv1 := hv.below hb1
  clear bb1 hb0 hv
  go_wp2_with fail
  refine (respOk_any m _ b n base fs _ hv1 hn hsz hb).mono ?_
  rintro e w2 ⟨b1, rfl, kb, bb2⟩
  have hb2 : Below w.heap.size w w2 := hb1.trans (bb2.mono hb1.size)
  have HK : Hid (b1 = true ↔ RespP m fs b) := kb
  clear hv1 hsz hb bb2 hb1 kb
  go_wp2_with fail
  go_ret
  exact ⟨b1, rfl, HK.out, hb2⟩

end Go.Proofs.YtcipbkkpkhameaaGreat

namespace Go.Proofs.YtcipbkkpkhameaaGreat
open Go.RowKit
open Go.Lib hiding intOf

set_option maxHeartbeats 20000000 in
set_option maxRecDepth 100000 in
theorem implObjOk_any (p : ByteArray) (o1 : Option Addr) (n1 c1 : Nat) (xs : List ByteArray) (o2 : Option Addr) (n2 c2 : Nat) (ys : List ByteArray) (st : Int) (v3 : Value) (n3 base : Nat) (fs : List (ByteArray × ByteArray)) (b : ByteArray) (t : Int) (w : World) (h1 : TextsA w o1 n1 xs) (h2 : TextsA w o2 n2 ys) (h3 : FieldsV w base v3 n3 fs) (hn1 : n1 ≤ 2000000) (hn2 : n2 ≤ 2000000) (hn3 : n3 ≤ 2000000) (hs1 : ∀ i, i < n1 → (textAt xs i).size ≤ maxLen) (hs2 : ∀ i, i < n2 → (textAt ys i).size ≤ maxLen) (hs3 : WalkF n3 fs) (hc : CopyF fs) (hp : p.size ≤ maxLen) (hx : b.size ≤ maxLen) (hg : (getV fs varyName).size ≤ 1048576) :
    Calls Tryz.prog 74 #[.agg #[.string p, .slice o1 n1 c1, .slice o2 n2 c2, .int .i64 st, v3, .string b, .int .i64 t]] w fun e w' => BoolIs (ObjP p xs ys st fs b t) w e w' := by
  obtain ⟨o3, c3, rfl, _⟩ := h3.slice
  have HV1 : Hid (∀ W, Below w.heap.size w W → TextsA W o1 n1 xs) := fun W h => h1.below h
  have HV2 : Hid (∀ W, Below w.heap.size w W → TextsA W o2 n2 ys) := fun W h => h2.below h
  have HV3 : Hid (∀ W, Below w.heap.size w W → FieldsV W base (.slice o3 n3 c3) n3 fs) := fun W h => h3.below h
  have HL1 : Hid (xs.length = n1) := h1.1
  have HL2 : Hid (ys.length = n2) := h2.1
  have HS1 : Hid (∀ i, i < n1 → (textAt xs i).size ≤ maxLen) := hs1
  have HS2 : Hid (∀ i, i < n2 → (textAt ys i).size ≤ maxLen) := hs2
  have HS3 : Hid (WalkF n3 fs) := hs3
  have HC : Hid (CopyF fs) := hc
  have HPM : Hid (p.size ≤ maxLen) := hp
  have HX : Hid (b.size ≤ maxLen) := hx
  have HG : Hid ((getV fs varyName).size ≤ 1048576) := hg
  obtain ⟨vl, hvl⟩ : ∃ l, l = varyP fs := ⟨_, rfl⟩
  have HVL : Hid (varyP fs = vl) := hvl.symm
  have HVZ : Hid (vl.length ≤ 2000000) := by
    show _ ≤ _
    have hle := splitL_le (getV fs varyName)
    rw [hvl]
    unfold varyP
    rw [List.length_map]
    omega
  clear h1 h2 h3 hs1 hs2 hs3 hc hp hx hg hvl
  have hb0 : Below w.heap.size w w := Below.refl _ _
  go_enter Tryz.func74, Tryz.ntmps74
  go_upto_region 1 with fail
  obtain ⟨qv1, hqv1⟩ : ∃ q, q = (w).heap.size := ⟨_, rfl⟩
  obtain ⟨w1, hW1⟩ : ∃ W, W = (w).alloc (.cells #[.string p, .slice o1 n1 c1, .slice o2 n2 c2, .int .i64 st, .slice o3 n3 c3, .string b, .int .i64 t] 50) := ⟨_, rfl⟩
  have hz1 : (w).heap.size = qv1 := hqv1.symm
  first | rw [← hW1, ← hqv1] | rw [← hW1]
  have hs1 : w1.heap.size = qv1 + 1 := by rw [hW1, ← hz1]; simp
  have bw : Below (w).heap.size (w) w1 := by rw [hW1]; exact (Below.refl _ _).alloc (Nat.le_refl _) _
  have hb1 := hbt hb0 bw
  have HBv1_1 : Hid ((w1).heap[qv1]? = some (.cells #[.string p, .slice o1 n1 c1, .slice o2 n2 c2, .int .i64 st, .slice o3 n3 c3, .string b, .int .i64 t] 50)) := by show _ = _; rw [hW1, ← hz1]; exact heap_alloc_new _ _
  clear hb0 bw hW1 hz1
  clear hs1 hqv1
  have cv1_3 : (w1).cell? ⟨qv1, 3, none⟩ = some (.int .i64 st) := (cell_of HBv1_1.out 3).trans rfl
  have cv1_4 : (w1).cell? ⟨qv1, 4, none⟩ = some (.slice o3 n3 c3) := (cell_of HBv1_1.out 4).trans rfl
  have cv1_5 : (w1).cell? ⟨qv1, 5, none⟩ = some (.string b) := (cell_of HBv1_1.out 5).trans rfl
  go_wp2_with fail
  refine (implRespOk_any st _ b n3 base fs _ (HV3.out _ hb1) (by omega) HS3.out HX.out).mono ?_
  rintro e w2 ⟨u1, rfl, htu1, bw⟩
  have hb2 := hbt hb1 bw
  have HBv1_2 := hblk HBv1_1 bw
  clear hb1 HBv1_1 bw
  clear cv1_3 cv1_4 cv1_5
  cases u1 with
  | false =>
    have HF : Hid (¬ ObjP p xs ys st fs b t) := fun h => nomatch htu1.2 h.1
    clear htu1
    go_wp2_with fail
    go_ret
    exact BoolIs.no HF.out hb2
  | true =>
    have HR : Hid (RespP st fs b) := htu1.1 rfl
    clear htu1
    have cv1_0 : (w2).cell? ⟨qv1, 0, none⟩ = some (.string p) := (cell_of HBv1_2.out 0).trans rfl
    go_wp2_with fail
    refine (pathOk_any p _ HPM.out).mono ?_
    rintro e w3 ⟨u2, rfl, htu2, bw⟩
    have hb3 := hbt hb2 bw
    have HBv1_3 := hblk HBv1_2 bw
    clear hb2 HBv1_2 bw
    clear cv1_0
    cases u2 with
    | false =>
      have HF : Hid (¬ ObjP p xs ys st fs b t) := fun h => nomatch htu2.2 h.2.1
      clear htu2
      go_wp2_with fail
      go_ret
      exact BoolIs.no HF.out hb3
    | true =>
      have HP : Hid (PathOk p) := htu2.1 rfl
      clear htu2
      have cv1_6 : (w3).cell? ⟨qv1, 6, none⟩ = some (.int .i64 t) := (cell_of HBv1_3.out 6).trans rfl
      go_wp2_with fail
      refine (timeOk_any t _).mono ?_
      rintro e w4 ⟨rfl, hwe⟩
      have bw : Below (w3).heap.size (w3) w4 := by rw [hwe]; exact Below.refl _ _
      clear hwe
      obtain ⟨u3, hu3⟩ : ∃ u3, u3 = decide ((0 : Int) ≤ t ∧ t ≤ 1000000) := ⟨_, rfl⟩
      rw [← hu3]
      have hb4 := hbt hb3 bw
      have HBv1_4 := hblk HBv1_3 bw
      clear hb3 HBv1_3 bw
      clear cv1_6
      cases u3 with
      | false =>
        have HF : Hid (¬ ObjP p xs ys st fs b t) := fun h => absurd h.2.2.1 (of_decide_eq_false hu3.symm)
        clear hu3
        go_wp2_with fail
        go_ret
        exact BoolIs.no HF.out hb4
      | true =>
        have HT : Hid (0 ≤ t ∧ t ≤ 1000000) := (show 0 ≤ t ∧ t ≤ 1000000 from of_decide_eq_true hu3.symm)
        clear hu3
        go_upto_region 3 with fail
        refine wp_region_held_drew (S := fun W => W.heap[qv1]? = some (.cells #[.string p, .slice o1 n1 c1, .slice o2 n2 c2, .int .i64 st, .slice o3 n3 c3, .string b, .int .i64 t] 50)) (by kernel_rfl) HBv1_4.out (fun _ => ?_)
        obtain ⟨w5, hX⟩ : ∃ X, X = w4.drew := ⟨_, rfl⟩
        have bw : Below w4.heap.size w4 w5 := by rw [hX]; exact (Below.refl _ _).drew
        rw [← hX]
        have hb5 := hbt hb4 bw
        have HBv1_5 := hblk HBv1_4 bw
        have hS5 : w5.heap[qv1]? = some (.cells #[.string p, .slice o1 n1 c1, .slice o2 n2 c2, .int .i64 st, .slice o3 n3 c3, .string b, .int .i64 t] 50) := HBv1_5.out
        clear hb4 HBv1_4 bw hX
        refine tkP 0 (.pointer (some ⟨qv1, 1, none⟩)) 20 rfl rfl hS5 ?_
        go_frame
        refine tkL 1 (.slice o1 n1 c1) 21 rfl rfl (Or.inl ⟨by rfl, by intro W hW; have hhv1 := hW; have y1 := (cell_of hhv1 1).trans rfl; go_simp⟩) hS5 ?_
        go_frame
        refine tkP 2 (.pointer (some ⟨qv1, 3, none⟩)) 22 rfl rfl hS5 ?_
        go_frame
        refine tkP 3 (.pointer (some ⟨qv1, 4, none⟩)) 23 rfl rfl hS5 ?_
        go_frame
        refine tkL 4 (.slice o3 n3 c3) 24 rfl rfl (Or.inl ⟨by rfl, by intro W hW; have hhv1 := hW; have y4 := (cell_of hhv1 4).trans rfl; go_simp⟩) hS5 ?_
        go_frame
        refine wpAnyH_ready (rs := [5]) (by kernel_rfl) (by simp) ?_
        refine AllReadyH.cons rfl (fun K hK => ?_) AllReadyH.nil
        go_simp
        refine (implVaryOf_any _ n3 base fs _ (HV3.out _ hb5) (by omega) HC.out HG.out).mono ?_
        rintro e w6 ⟨vv, rfl, ownY, bw⟩
        obtain ⟨oY, pY, rfl⟩ := slice_of_owns ownY
        rw [HVL.out] at ownY ⊢
        have hb6 := hbt hb5 bw
        have HBv1_6 := hblk HBv1_5 bw
        have HOY_6 : Hid ((w6).ownsRow w.heap.size 9 1 (.slice oY vl.length pY) vl.length (vl.map Value.string)) := owns_wide ownY hb5.size
        clear ownY
        clear hb5 HBv1_5 bw
        have hS6 : w6.heap[qv1]? = some (.cells #[.string p, .slice o1 n1 c1, .slice o2 n2 c2, .int .i64 st, .slice o3 n3 c3, .string b, .int .i64 t] 50) := HBv1_6.out
        refine hK.out _ _ hS6 (fun _ => ?_)
        clear hK K hS5
        refine wpAnyH_ready (rs := [6]) (by kernel_rfl) (by simp) ?_
        refine AllReadyH.cons rfl (fun K hK => ?_) AllReadyH.nil
        go_simp
        refine (equalT_any _ _ _ _ _ _ xs vl _ (HV1.out _ hb6) (by omega) (texts_view HOY_6.out) HVZ.out).mono ?_
        rintro e w7 ⟨rfl, bw⟩
        obtain ⟨u5, hu5⟩ : ∃ u5, u5 = decide (xs = vl) := ⟨_, rfl⟩
        rw [← hu5]
        have hb7 := hbt hb6 bw
        have HOY_7 := hown HOY_6 bw
        have HBv1_7 := hblk HBv1_6 bw
        clear hb6 HOY_6 HBv1_6 bw
        have hS7 : w7.heap[qv1]? = some (.cells #[.string p, .slice o1 n1 c1, .slice o2 n2 c2, .int .i64 st, .slice o3 n3 c3, .string b, .int .i64 t] 50) := HBv1_7.out
        refine hK.out _ _ hS7 (fun _ => ?_)
        clear hK K hS6
        refine tkP 7 (.bool u5) 27 rfl rfl hS7 ?_
        go_frame
        cases u5 with
        | false =>
          have HF : Hid (¬ ObjP p xs ys st fs b t) := fun h => absurd (h.2.2.2.2.1.trans HVL.out) (of_decide_eq_false hu5.symm)
          clear hu5
          refine tkN 8 28 rfl rfl hS7 ?_
          go_frame
          refine tkN 9 29 rfl rfl hS7 ?_
          go_frame
          refine tkN 10 30 rfl rfl hS7 ?_
          go_frame
          refine tkP 11 (.bool false) 31 rfl rfl hS7 ?_
          go_frame
          refine tkP 12 (.bool false) 3 rfl rfl hS7 ?_
          go_frame
          clear hS7
          refine wpAnyH_done (by kernel_rfl) ?_ _
          go_wp2_with fail
          go_ret
          exact BoolIs.no HF.out hb7
        | true =>
          have HE : Hid (xs = vl) := (show xs = vl from of_decide_eq_true hu5.symm)
          clear hu5
          refine tkP 8 (.pointer (some ⟨qv1, 1, none⟩)) 28 rfl rfl hS7 ?_
          go_frame
          refine tkL 9 (.slice o1 n1 c1) 29 rfl rfl (Or.inl ⟨by rfl, by intro W hW; have hhv1 := hW; have y1 := (cell_of hhv1 1).trans rfl; go_simp⟩) hS7 ?_
          go_frame
          refine wpAnyH_ready (rs := [10]) (by kernel_rfl) (by simp) ?_
          refine AllReadyH.cons rfl (fun K hK => ?_) AllReadyH.nil
          go_simp
          refine (namesOk_any _ _ _ xs _ (HV1.out _ hb7) (by omega) HS1.out).mono ?_
          rintro e w8 ⟨u4, rfl, htu4, bw⟩
          have hb8 := hbt hb7 bw
          have HOY_8 := hown HOY_7 bw
          have HBv1_8 := hblk HBv1_7 bw
          clear hb7 HOY_7 HBv1_7 bw
          have hS8 : w8.heap[qv1]? = some (.cells #[.string p, .slice o1 n1 c1, .slice o2 n2 c2, .int .i64 st, .slice o3 n3 c3, .string b, .int .i64 t] 50) := HBv1_8.out
          refine hK.out _ _ hS8 (fun _ => ?_)
          clear hK K hS7
          refine tkP 11 (.bool u4) 31 rfl rfl hS8 ?_
          go_frame
          refine tkP 12 (.bool u4) 3 rfl rfl hS8 ?_
          go_frame
          clear hS8
          refine wpAnyH_done (by kernel_rfl) ?_ _
          cases u4 with
          | false =>
            have HF : Hid (¬ ObjP p xs ys st fs b t) := fun h => nomatch htu4.2 h.2.2.2.1
            clear htu4
            go_wp2_with fail
            go_ret
            exact BoolIs.no HF.out hb8
          | true =>
            have HNM : Hid (NamesP xs) := htu4.1 rfl
            clear htu4
            by_cases hc1 : (n2 : Int) = (n1 : Int)
            · have hc1b : (((n2 : Int) : Int) == ((n1 : Int) : Int)) = true := by simpa using hc1
              have hc1n : (((n2 : Int) : Int) != ((n1 : Int) : Int)) = false := by simpa using hc1
              have HEQ : Hid ((n2 : Int) = (n1 : Int)) := hc1
              have hc1H : Hid ((n2 : Int) = (n1 : Int)) := hc1
              clear hc1
              have cv1_1 : (w8).cell? ⟨qv1, 1, none⟩ = some (.slice o1 n1 c1) := (cell_of HBv1_8.out 1).trans rfl
              have cv1_2 : (w8).cell? ⟨qv1, 2, none⟩ = some (.slice o2 n2 c2) := (cell_of HBv1_8.out 2).trans rfl
              go_wp2_with fail
              refine (valuesOk_any _ _ _ ys _ (HV2.out _ hb8) (by omega) HS2.out).mono ?_
              rintro e w9 ⟨u6, rfl, htu6, bw⟩
              have hb9 := hbt hb8 bw
              have HOY_9 := hown HOY_8 bw
              have HBv1_9 := hblk HBv1_8 bw
              clear hb8 HOY_8 HBv1_8 bw
              clear cv1_1 cv1_2
              go_wp2_with fail
              go_ret
              exact ⟨u6, rfl, ⟨fun h => ⟨HR.out, HP.out, HT.out, HNM.out, HE.out.trans HVL.out.symm, by have h1 := HL1.out; have h2 := HL2.out; have h3 := HEQ.out; omega, htu6.1 h⟩, fun h => htu6.2 h.2.2.2.2.2.2⟩, hb9⟩
            · have hc1b : (((n2 : Int) : Int) == ((n1 : Int) : Int)) = false := by simpa using hc1
              have hc1n : (((n2 : Int) : Int) != ((n1 : Int) : Int)) = true := by simpa using hc1
              have HF : Hid (¬ ObjP p xs ys st fs b t) := fun h => by have h1 := h.2.2.2.2.2.1; have h2 := HL1.out; have h3 := HL2.out; omega
              have hc1H : Hid (¬ ((n2 : Int) = (n1 : Int))) := hc1
              clear hc1
              have cv1_1 : (w8).cell? ⟨qv1, 1, none⟩ = some (.slice o1 n1 c1) := (cell_of HBv1_8.out 1).trans rfl
              have cv1_2 : (w8).cell? ⟨qv1, 2, none⟩ = some (.slice o2 n2 c2) := (cell_of HBv1_8.out 2).trans rfl
              go_wp2_with fail
              go_ret
              exact BoolIs.no HF.out hb8

end Go.Proofs.YtcipbkkpkhameaaGreat

namespace Go.Proofs.YtcipbkkpkhameaaGreat
open Go.RowKit
open Go.Lib hiding intOf

set_option maxHeartbeats 8000000 in
set_option maxRecDepth 100000 in
theorem ruleOf_1 (a b : ByteArray) (t : Int) (w : World) :
    Calls Tryz.prog 114 #[.agg #[.int .i64 1, .string a, .string b, .int .i64 t]] w fun e w' => e = .returned (.iface 179 (.agg #[.string a])) ∧ Below w.heap.size w w' := by
  have hb0 : Below w.heap.size w w := Below.refl _ _
  go_enter Tryz.func114, Tryz.ntmps114
  go_upto_region 1 with fail
  obtain ⟨qv1, hqv1⟩ : ∃ q, q = (w).heap.size := ⟨_, rfl⟩
  obtain ⟨w1, hW1⟩ : ∃ W, W = (w).alloc (.cells #[.int .i64 1, .string a, .string b, .int .i64 t] 69) := ⟨_, rfl⟩
  have hz1 : (w).heap.size = qv1 := hqv1.symm
  first | rw [← hW1, ← hqv1] | rw [← hW1]
  have hs1 : w1.heap.size = qv1 + 1 := by rw [hW1, ← hz1]; simp
  have bw : Below (w).heap.size (w) w1 := by rw [hW1]; exact (Below.refl _ _).alloc (Nat.le_refl _) _
  have hb1 := hbt hb0 bw
  have HBv1_1 : Hid ((w1).heap[qv1]? = some (.cells #[.int .i64 1, .string a, .string b, .int .i64 t] 69)) := by show _ = _; rw [hW1, ← hz1]; exact heap_alloc_new _ _
  clear hb0 bw hW1 hz1
  clear hs1 hqv1
  have cv1_0 : (w1).cell? ⟨qv1, 0, none⟩ = some (.int .i64 1) := (cell_of HBv1_1.out 0).trans rfl
  have cv1_1 : (w1).cell? ⟨qv1, 1, none⟩ = some (.string a) := (cell_of HBv1_1.out 1).trans rfl
  go_wp2_with fail
  go_ret
  exact ⟨rfl, hb1⟩

set_option maxHeartbeats 8000000 in
set_option maxRecDepth 100000 in
theorem ruleOf_2 (a b : ByteArray) (t : Int) (w : World) :
    Calls Tryz.prog 114 #[.agg #[.int .i64 2, .string a, .string b, .int .i64 t]] w fun e w' => e = .returned (.iface 181 (.agg #[.string a])) ∧ Below w.heap.size w w' := by
  have hb0 : Below w.heap.size w w := Below.refl _ _
  go_enter Tryz.func114, Tryz.ntmps114
  go_upto_region 1 with fail
  obtain ⟨qv1, hqv1⟩ : ∃ q, q = (w).heap.size := ⟨_, rfl⟩
  obtain ⟨w1, hW1⟩ : ∃ W, W = (w).alloc (.cells #[.int .i64 2, .string a, .string b, .int .i64 t] 69) := ⟨_, rfl⟩
  have hz1 : (w).heap.size = qv1 := hqv1.symm
  first | rw [← hW1, ← hqv1] | rw [← hW1]
  have hs1 : w1.heap.size = qv1 + 1 := by rw [hW1, ← hz1]; simp
  have bw : Below (w).heap.size (w) w1 := by rw [hW1]; exact (Below.refl _ _).alloc (Nat.le_refl _) _
  have hb1 := hbt hb0 bw
  have HBv1_1 : Hid ((w1).heap[qv1]? = some (.cells #[.int .i64 2, .string a, .string b, .int .i64 t] 69)) := by show _ = _; rw [hW1, ← hz1]; exact heap_alloc_new _ _
  clear hb0 bw hW1 hz1
  clear hs1 hqv1
  have cv1_0 : (w1).cell? ⟨qv1, 0, none⟩ = some (.int .i64 2) := (cell_of HBv1_1.out 0).trans rfl
  have cv1_1 : (w1).cell? ⟨qv1, 1, none⟩ = some (.string a) := (cell_of HBv1_1.out 1).trans rfl
  go_wp2_with fail
  go_ret
  exact ⟨rfl, hb1⟩

set_option maxHeartbeats 8000000 in
set_option maxRecDepth 100000 in
theorem ruleOf_3 (a b : ByteArray) (t : Int) (w : World) :
    Calls Tryz.prog 114 #[.agg #[.int .i64 3, .string a, .string b, .int .i64 t]] w fun e w' => e = .returned (.iface 183 (.agg #[.string a, .string b])) ∧ Below w.heap.size w w' := by
  have hb0 : Below w.heap.size w w := Below.refl _ _
  go_enter Tryz.func114, Tryz.ntmps114
  go_upto_region 1 with fail
  obtain ⟨qv1, hqv1⟩ : ∃ q, q = (w).heap.size := ⟨_, rfl⟩
  obtain ⟨w1, hW1⟩ : ∃ W, W = (w).alloc (.cells #[.int .i64 3, .string a, .string b, .int .i64 t] 69) := ⟨_, rfl⟩
  have hz1 : (w).heap.size = qv1 := hqv1.symm
  first | rw [← hW1, ← hqv1] | rw [← hW1]
  have hs1 : w1.heap.size = qv1 + 1 := by rw [hW1, ← hz1]; simp
  have bw : Below (w).heap.size (w) w1 := by rw [hW1]; exact (Below.refl _ _).alloc (Nat.le_refl _) _
  have hb1 := hbt hb0 bw
  have HBv1_1 : Hid ((w1).heap[qv1]? = some (.cells #[.int .i64 3, .string a, .string b, .int .i64 t] 69)) := by show _ = _; rw [hW1, ← hz1]; exact heap_alloc_new _ _
  clear hb0 bw hW1 hz1
  clear hs1 hqv1
  have cv1_0 : (w1).cell? ⟨qv1, 0, none⟩ = some (.int .i64 3) := (cell_of HBv1_1.out 0).trans rfl
  have cv1_1 : (w1).cell? ⟨qv1, 1, none⟩ = some (.string a) := (cell_of HBv1_1.out 1).trans rfl
  have cv1_2 : (w1).cell? ⟨qv1, 2, none⟩ = some (.string b) := (cell_of HBv1_1.out 2).trans rfl
  go_wp2_with fail
  go_ret
  exact ⟨rfl, hb1⟩

set_option maxHeartbeats 8000000 in
set_option maxRecDepth 100000 in
theorem ruleOf_no (k : Int) (a b : ByteArray) (t : Int) (w : World) (h1 : ¬ k = 1) (h2 : ¬ k = 2) (h3 : ¬ k = 3) :
    Calls Tryz.prog 114 #[.agg #[.int .i64 k, .string a, .string b, .int .i64 t]] w fun e w' => e = .returned .nilIface ∧ Below w.heap.size w w' := by
  have hk1 : ((k : Int) == (1 : Int)) = false := by simpa using h1
  have hk2 : ((k : Int) == (2 : Int)) = false := by simpa using h2
  have hk3 : ((k : Int) == (3 : Int)) = false := by simpa using h3
  clear h1 h2 h3
  have hb0 : Below w.heap.size w w := Below.refl _ _
  go_enter Tryz.func114, Tryz.ntmps114
  go_upto_region 1 with fail
  obtain ⟨qv1, hqv1⟩ : ∃ q, q = (w).heap.size := ⟨_, rfl⟩
  obtain ⟨w1, hW1⟩ : ∃ W, W = (w).alloc (.cells #[.int .i64 k, .string a, .string b, .int .i64 t] 69) := ⟨_, rfl⟩
  have hz1 : (w).heap.size = qv1 := hqv1.symm
  first | rw [← hW1, ← hqv1] | rw [← hW1]
  have hs1 : w1.heap.size = qv1 + 1 := by rw [hW1, ← hz1]; simp
  have bw : Below (w).heap.size (w) w1 := by rw [hW1]; exact (Below.refl _ _).alloc (Nat.le_refl _) _
  have hb1 := hbt hb0 bw
  have HBv1_1 : Hid ((w1).heap[qv1]? = some (.cells #[.int .i64 k, .string a, .string b, .int .i64 t] 69)) := by show _ = _; rw [hW1, ← hz1]; exact heap_alloc_new _ _
  clear hb0 bw hW1 hz1
  clear hs1 hqv1
  have cv1_0 : (w1).cell? ⟨qv1, 0, none⟩ = some (.int .i64 k) := (cell_of HBv1_1.out 0).trans rfl
  go_wp2_with fail
  go_ret
  exact ⟨rfl, hb1⟩

set_option maxHeartbeats 8000000 in
set_option maxRecDepth 100000 in
theorem banOf_1 (a : ByteArray) (t : Int) (w : World) :
    Calls Tryz.prog 115 #[.iface 179 (.agg #[.string a]), .int .i64 t] w fun e w' => e = .returned (.agg #[.int .i64 1, .string a, .string ⟨#[]⟩, .int .i64 t]) ∧ Below w.heap.size w w' := by
  have hta1 : ∀ W : World, (Instr.typeAssert (.iface 179 (.agg #[.string a])) 156 179 true).run Tryz.prog W = .ok (.tuple #[.agg #[.string a], .bool true]) W := fun _ => by kernel_rfl
  have hta2 : ∀ W : World, (Instr.typeAssert (.iface 179 (.agg #[.string a])) 156 181 true).run Tryz.prog W = .ok (.tuple #[.agg #[.string ⟨#[]⟩], .bool false]) W := fun _ => by kernel_rfl
  have hta3 : ∀ W : World, (Instr.typeAssert (.iface 179 (.agg #[.string a])) 156 183 true).run Tryz.prog W = .ok (.tuple #[.agg #[.string ⟨#[]⟩, .string ⟨#[]⟩], .bool false]) W := fun _ => by kernel_rfl
  have hb0 : Below w.heap.size w w := Below.refl _ _
  go_enter Tryz.func115, Tryz.ntmps115
  go_upto_region 1 with fail
  obtain ⟨qv1, hqv1⟩ : ∃ q, q = (w).heap.size := ⟨_, rfl⟩
  obtain ⟨w1, hW1⟩ : ∃ W, W = (w).alloc (.cells #[.int .i64 0, .string ⟨#[]⟩, .string ⟨#[]⟩, .int .i64 0] 69) := ⟨_, rfl⟩
  have hz1 : (w).heap.size = qv1 := hqv1.symm
  first | rw [← hW1, ← hqv1] | rw [← hW1]
  have hs1 : w1.heap.size = qv1 + 1 := by rw [hW1, ← hz1]; simp
  have bw : Below (w).heap.size (w) w1 := by rw [hW1]; exact (Below.refl _ _).alloc (Nat.le_refl _) _
  have hb1 := hbt hb0 bw
  have HBv1_1 : Hid ((w1).heap[qv1]? = some (.cells #[.int .i64 0, .string ⟨#[]⟩, .string ⟨#[]⟩, .int .i64 0] 69)) := by show _ = _; rw [hW1, ← hz1]; exact heap_alloc_new _ _
  have HGv1 : Hid (w.heap.size ≤ qv1) := by show _ ≤ _; rw [← hz1]; exact hb0.size
  clear hb0 bw hW1 hz1
  clear hs1 hqv1
  go_upto_region 4 with fail
  obtain ⟨qv2, hqv2⟩ : ∃ q, q = (w1).heap.size := ⟨_, rfl⟩
  obtain ⟨w2, hW2⟩ : ∃ W, W = (w1).alloc (.cells #[.string a] 179) := ⟨_, rfl⟩
  have hz2 : (w1).heap.size = qv2 := hqv2.symm
  first | rw [← hW2, ← hqv2] | rw [← hW2]
  have hs2 : w2.heap.size = qv2 + 1 := by rw [hW2, ← hz2]; simp
  have bw : Below (w1).heap.size (w1) w2 := by rw [hW2]; exact (Below.refl _ _).alloc (Nat.le_refl _) _
  have hb2 := hbt hb1 bw
  have HBv1_2 := hblk HBv1_1 bw
  have HNv1v2 : Hid (qv1 ≠ qv2) := fun e => by have h1 := (Array.getElem?_eq_some_iff.1 HBv1_1.out).1; omega
  have HBv2_2 : Hid ((w2).heap[qv2]? = some (.cells #[.string a] 179)) := by show _ = _; rw [hW2, ← hz2]; exact heap_alloc_new _ _
  clear hb1 HBv1_1 bw hW2 hz2
  clear hs2 hqv2
  have cv1_0 : (w2).cell? ⟨qv1, 0, none⟩ = some (.int .i64 0) := (cell_of HBv1_2.out 0).trans rfl
  have fcv1_0 : (w2).frozen? ⟨qv1, 0, none⟩ = false := frozen_of HBv1_2.out 0
  have cv1_1 : (w2).cell? ⟨qv1, 1, none⟩ = some (.string ⟨#[]⟩) := (cell_of HBv1_2.out 1).trans rfl
  have fcv1_1 : (w2).frozen? ⟨qv1, 1, none⟩ = false := frozen_of HBv1_2.out 1
  have cv1_2 : (w2).cell? ⟨qv1, 2, none⟩ = some (.string ⟨#[]⟩) := (cell_of HBv1_2.out 2).trans rfl
  have fcv1_2 : (w2).frozen? ⟨qv1, 2, none⟩ = false := frozen_of HBv1_2.out 2
  have cv1_3 : (w2).cell? ⟨qv1, 3, none⟩ = some (.int .i64 0) := (cell_of HBv1_2.out 3).trans rfl
  have fcv1_3 : (w2).frozen? ⟨qv1, 3, none⟩ = false := frozen_of HBv1_2.out 3
  have cv2_0 : (w2).cell? ⟨qv2, 0, none⟩ = some (.string a) := (cell_of HBv2_2.out 0).trans rfl
  go_wp2_with fail
  obtain ⟨w3, hW3⟩ : ∃ W, W = (w2).setCell ⟨qv1, 0, none⟩ (.int .i64 1) := ⟨_, rfl⟩
  rw [← hW3]
  have hb3 : Below w.heap.size w (w3) := by rw [hW3]; exact (hb2.setCell (p := ⟨qv1, 0, none⟩) HGv1.out _)
  have HBv2_3 := hset hW3 HNv1v2.out.symm HBv2_2
  have HBv1_3 : Hid ((w3).heap[qv1]? = some (.cells #[.int .i64 1, .string ⟨#[]⟩, .string ⟨#[]⟩, .int .i64 0] 69)) := by show _ = _; rw [hW3]; have h := heap_set _ _ 0 _ _ _ (.int .i64 1) HBv1_2.out; simpa using h
  clear hb2 HBv1_2 HBv2_2 hW3
  obtain ⟨w4, hW4⟩ : ∃ W, W = (w3).setCell ⟨qv1, 1, none⟩ (.string a) := ⟨_, rfl⟩
  rw [← hW4]
  have hb4 : Below w.heap.size w (w4) := by rw [hW4]; exact (hb3.setCell (p := ⟨qv1, 1, none⟩) HGv1.out _)
  have HBv2_4 := hset hW4 HNv1v2.out.symm HBv2_3
  have HBv1_4 : Hid ((w4).heap[qv1]? = some (.cells #[.int .i64 1, .string a, .string ⟨#[]⟩, .int .i64 0] 69)) := by show _ = _; rw [hW4]; have h := heap_set _ _ 1 _ _ _ (.string a) HBv1_3.out; simpa using h
  clear hb3 HBv1_3 HBv2_3 hW4
  obtain ⟨w5, hW5⟩ : ∃ W, W = (w4).setCell ⟨qv1, 2, none⟩ (.string ⟨#[]⟩) := ⟨_, rfl⟩
  rw [← hW5]
  have hb5 : Below w.heap.size w (w5) := by rw [hW5]; exact (hb4.setCell (p := ⟨qv1, 2, none⟩) HGv1.out _)
  have HBv2_5 := hset hW5 HNv1v2.out.symm HBv2_4
  have HBv1_5 : Hid ((w5).heap[qv1]? = some (.cells #[.int .i64 1, .string a, .string ⟨#[]⟩, .int .i64 0] 69)) := by show _ = _; rw [hW5]; have h := heap_set _ _ 2 _ _ _ (.string ⟨#[]⟩) HBv1_4.out; simpa using h
  clear hb4 HBv1_4 HBv2_4 hW5
  obtain ⟨w6, hW6⟩ : ∃ W, W = (w5).setCell ⟨qv1, 3, none⟩ (.int .i64 t) := ⟨_, rfl⟩
  rw [← hW6]
  have hb6 : Below w.heap.size w (w6) := by rw [hW6]; exact (hb5.setCell (p := ⟨qv1, 3, none⟩) HGv1.out _)
  have HBv2_6 := hset hW6 HNv1v2.out.symm HBv2_5
  have HBv1_6 : Hid ((w6).heap[qv1]? = some (.cells #[.int .i64 1, .string a, .string ⟨#[]⟩, .int .i64 t] 69)) := by show _ = _; rw [hW6]; have h := heap_set _ _ 3 _ _ _ (.int .i64 t) HBv1_5.out; simpa using h
  clear hb5 HBv1_5 HBv2_5 hW6
  have kv1_0 : (w6).cell? ⟨qv1, 0, none⟩ = some (.int .i64 1) := (cell_of HBv1_6.out 0).trans rfl
  have kv1_1 : (w6).cell? ⟨qv1, 1, none⟩ = some (.string a) := (cell_of HBv1_6.out 1).trans rfl
  have kv1_2 : (w6).cell? ⟨qv1, 2, none⟩ = some (.string ⟨#[]⟩) := (cell_of HBv1_6.out 2).trans rfl
  have kv1_3 : (w6).cell? ⟨qv1, 3, none⟩ = some (.int .i64 t) := (cell_of HBv1_6.out 3).trans rfl
  refine bodyPost_ret (v := .agg #[.int .i64 1, .string a, .string ⟨#[]⟩, .int .i64 t]) (by simp [results, Tryz.results115, go_sem, kv1_0, kv1_1, kv1_2, kv1_3]) rfl ?_
  exact ⟨rfl, hb6⟩

set_option maxHeartbeats 8000000 in
set_option maxRecDepth 100000 in
theorem banOf_2 (a : ByteArray) (t : Int) (w : World) :
    Calls Tryz.prog 115 #[.iface 181 (.agg #[.string a]), .int .i64 t] w fun e w' => e = .returned (.agg #[.int .i64 2, .string a, .string ⟨#[]⟩, .int .i64 t]) ∧ Below w.heap.size w w' := by
  have hta1 : ∀ W : World, (Instr.typeAssert (.iface 181 (.agg #[.string a])) 156 179 true).run Tryz.prog W = .ok (.tuple #[.agg #[.string ⟨#[]⟩], .bool false]) W := fun _ => by kernel_rfl
  have hta2 : ∀ W : World, (Instr.typeAssert (.iface 181 (.agg #[.string a])) 156 181 true).run Tryz.prog W = .ok (.tuple #[.agg #[.string a], .bool true]) W := fun _ => by kernel_rfl
  have hta3 : ∀ W : World, (Instr.typeAssert (.iface 181 (.agg #[.string a])) 156 183 true).run Tryz.prog W = .ok (.tuple #[.agg #[.string ⟨#[]⟩, .string ⟨#[]⟩], .bool false]) W := fun _ => by kernel_rfl
  have hb0 : Below w.heap.size w w := Below.refl _ _
  go_enter Tryz.func115, Tryz.ntmps115
  go_upto_region 1 with fail
  obtain ⟨qv1, hqv1⟩ : ∃ q, q = (w).heap.size := ⟨_, rfl⟩
  obtain ⟨w1, hW1⟩ : ∃ W, W = (w).alloc (.cells #[.int .i64 0, .string ⟨#[]⟩, .string ⟨#[]⟩, .int .i64 0] 69) := ⟨_, rfl⟩
  have hz1 : (w).heap.size = qv1 := hqv1.symm
  first | rw [← hW1, ← hqv1] | rw [← hW1]
  have hs1 : w1.heap.size = qv1 + 1 := by rw [hW1, ← hz1]; simp
  have bw : Below (w).heap.size (w) w1 := by rw [hW1]; exact (Below.refl _ _).alloc (Nat.le_refl _) _
  have hb1 := hbt hb0 bw
  have HBv1_1 : Hid ((w1).heap[qv1]? = some (.cells #[.int .i64 0, .string ⟨#[]⟩, .string ⟨#[]⟩, .int .i64 0] 69)) := by show _ = _; rw [hW1, ← hz1]; exact heap_alloc_new _ _
  have HGv1 : Hid (w.heap.size ≤ qv1) := by show _ ≤ _; rw [← hz1]; exact hb0.size
  clear hb0 bw hW1 hz1
  clear hs1 hqv1
  go_upto_region 7 with fail
  obtain ⟨qv2, hqv2⟩ : ∃ q, q = (w1).heap.size := ⟨_, rfl⟩
  obtain ⟨w2, hW2⟩ : ∃ W, W = (w1).alloc (.cells #[.string a] 181) := ⟨_, rfl⟩
  have hz2 : (w1).heap.size = qv2 := hqv2.symm
  first | rw [← hW2, ← hqv2] | rw [← hW2]
  have hs2 : w2.heap.size = qv2 + 1 := by rw [hW2, ← hz2]; simp
  have bw : Below (w1).heap.size (w1) w2 := by rw [hW2]; exact (Below.refl _ _).alloc (Nat.le_refl _) _
  have hb2 := hbt hb1 bw
  have HBv1_2 := hblk HBv1_1 bw
  have HNv1v2 : Hid (qv1 ≠ qv2) := fun e => by have h1 := (Array.getElem?_eq_some_iff.1 HBv1_1.out).1; omega
  have HBv2_2 : Hid ((w2).heap[qv2]? = some (.cells #[.string a] 181)) := by show _ = _; rw [hW2, ← hz2]; exact heap_alloc_new _ _
  clear hb1 HBv1_1 bw hW2 hz2
  clear hs2 hqv2
  have cv1_0 : (w2).cell? ⟨qv1, 0, none⟩ = some (.int .i64 0) := (cell_of HBv1_2.out 0).trans rfl
  have fcv1_0 : (w2).frozen? ⟨qv1, 0, none⟩ = false := frozen_of HBv1_2.out 0
  have cv1_1 : (w2).cell? ⟨qv1, 1, none⟩ = some (.string ⟨#[]⟩) := (cell_of HBv1_2.out 1).trans rfl
  have fcv1_1 : (w2).frozen? ⟨qv1, 1, none⟩ = false := frozen_of HBv1_2.out 1
  have cv1_2 : (w2).cell? ⟨qv1, 2, none⟩ = some (.string ⟨#[]⟩) := (cell_of HBv1_2.out 2).trans rfl
  have fcv1_2 : (w2).frozen? ⟨qv1, 2, none⟩ = false := frozen_of HBv1_2.out 2
  have cv1_3 : (w2).cell? ⟨qv1, 3, none⟩ = some (.int .i64 0) := (cell_of HBv1_2.out 3).trans rfl
  have fcv1_3 : (w2).frozen? ⟨qv1, 3, none⟩ = false := frozen_of HBv1_2.out 3
  have cv2_0 : (w2).cell? ⟨qv2, 0, none⟩ = some (.string a) := (cell_of HBv2_2.out 0).trans rfl
  go_wp2_with fail
  obtain ⟨w3, hW3⟩ : ∃ W, W = (w2).setCell ⟨qv1, 0, none⟩ (.int .i64 2) := ⟨_, rfl⟩
  rw [← hW3]
  have hb3 : Below w.heap.size w (w3) := by rw [hW3]; exact (hb2.setCell (p := ⟨qv1, 0, none⟩) HGv1.out _)
  have HBv2_3 := hset hW3 HNv1v2.out.symm HBv2_2
  have HBv1_3 : Hid ((w3).heap[qv1]? = some (.cells #[.int .i64 2, .string ⟨#[]⟩, .string ⟨#[]⟩, .int .i64 0] 69)) := by show _ = _; rw [hW3]; have h := heap_set _ _ 0 _ _ _ (.int .i64 2) HBv1_2.out; simpa using h
  clear hb2 HBv1_2 HBv2_2 hW3
  obtain ⟨w4, hW4⟩ : ∃ W, W = (w3).setCell ⟨qv1, 1, none⟩ (.string a) := ⟨_, rfl⟩
  rw [← hW4]
  have hb4 : Below w.heap.size w (w4) := by rw [hW4]; exact (hb3.setCell (p := ⟨qv1, 1, none⟩) HGv1.out _)
  have HBv2_4 := hset hW4 HNv1v2.out.symm HBv2_3
  have HBv1_4 : Hid ((w4).heap[qv1]? = some (.cells #[.int .i64 2, .string a, .string ⟨#[]⟩, .int .i64 0] 69)) := by show _ = _; rw [hW4]; have h := heap_set _ _ 1 _ _ _ (.string a) HBv1_3.out; simpa using h
  clear hb3 HBv1_3 HBv2_3 hW4
  obtain ⟨w5, hW5⟩ : ∃ W, W = (w4).setCell ⟨qv1, 2, none⟩ (.string ⟨#[]⟩) := ⟨_, rfl⟩
  rw [← hW5]
  have hb5 : Below w.heap.size w (w5) := by rw [hW5]; exact (hb4.setCell (p := ⟨qv1, 2, none⟩) HGv1.out _)
  have HBv2_5 := hset hW5 HNv1v2.out.symm HBv2_4
  have HBv1_5 : Hid ((w5).heap[qv1]? = some (.cells #[.int .i64 2, .string a, .string ⟨#[]⟩, .int .i64 0] 69)) := by show _ = _; rw [hW5]; have h := heap_set _ _ 2 _ _ _ (.string ⟨#[]⟩) HBv1_4.out; simpa using h
  clear hb4 HBv1_4 HBv2_4 hW5
  obtain ⟨w6, hW6⟩ : ∃ W, W = (w5).setCell ⟨qv1, 3, none⟩ (.int .i64 t) := ⟨_, rfl⟩
  rw [← hW6]
  have hb6 : Below w.heap.size w (w6) := by rw [hW6]; exact (hb5.setCell (p := ⟨qv1, 3, none⟩) HGv1.out _)
  have HBv2_6 := hset hW6 HNv1v2.out.symm HBv2_5
  have HBv1_6 : Hid ((w6).heap[qv1]? = some (.cells #[.int .i64 2, .string a, .string ⟨#[]⟩, .int .i64 t] 69)) := by show _ = _; rw [hW6]; have h := heap_set _ _ 3 _ _ _ (.int .i64 t) HBv1_5.out; simpa using h
  clear hb5 HBv1_5 HBv2_5 hW6
  have kv1_0 : (w6).cell? ⟨qv1, 0, none⟩ = some (.int .i64 2) := (cell_of HBv1_6.out 0).trans rfl
  have kv1_1 : (w6).cell? ⟨qv1, 1, none⟩ = some (.string a) := (cell_of HBv1_6.out 1).trans rfl
  have kv1_2 : (w6).cell? ⟨qv1, 2, none⟩ = some (.string ⟨#[]⟩) := (cell_of HBv1_6.out 2).trans rfl
  have kv1_3 : (w6).cell? ⟨qv1, 3, none⟩ = some (.int .i64 t) := (cell_of HBv1_6.out 3).trans rfl
  refine bodyPost_ret (v := .agg #[.int .i64 2, .string a, .string ⟨#[]⟩, .int .i64 t]) (by simp [results, Tryz.results115, go_sem, kv1_0, kv1_1, kv1_2, kv1_3]) rfl ?_
  exact ⟨rfl, hb6⟩

set_option maxHeartbeats 8000000 in
set_option maxRecDepth 100000 in
theorem banOf_3 (a b : ByteArray) (t : Int) (w : World) :
    Calls Tryz.prog 115 #[.iface 183 (.agg #[.string a, .string b]), .int .i64 t] w fun e w' => e = .returned (.agg #[.int .i64 3, .string a, .string b, .int .i64 t]) ∧ Below w.heap.size w w' := by
  have hta1 : ∀ W : World, (Instr.typeAssert (.iface 183 (.agg #[.string a, .string b])) 156 179 true).run Tryz.prog W = .ok (.tuple #[.agg #[.string ⟨#[]⟩], .bool false]) W := fun _ => by kernel_rfl
  have hta2 : ∀ W : World, (Instr.typeAssert (.iface 183 (.agg #[.string a, .string b])) 156 181 true).run Tryz.prog W = .ok (.tuple #[.agg #[.string ⟨#[]⟩], .bool false]) W := fun _ => by kernel_rfl
  have hta3 : ∀ W : World, (Instr.typeAssert (.iface 183 (.agg #[.string a, .string b])) 156 183 true).run Tryz.prog W = .ok (.tuple #[.agg #[.string a, .string b], .bool true]) W := fun _ => by kernel_rfl
  have hb0 : Below w.heap.size w w := Below.refl _ _
  go_enter Tryz.func115, Tryz.ntmps115
  go_upto_region 1 with fail
  obtain ⟨qv1, hqv1⟩ : ∃ q, q = (w).heap.size := ⟨_, rfl⟩
  obtain ⟨w1, hW1⟩ : ∃ W, W = (w).alloc (.cells #[.int .i64 0, .string ⟨#[]⟩, .string ⟨#[]⟩, .int .i64 0] 69) := ⟨_, rfl⟩
  have hz1 : (w).heap.size = qv1 := hqv1.symm
  first | rw [← hW1, ← hqv1] | rw [← hW1]
  have hs1 : w1.heap.size = qv1 + 1 := by rw [hW1, ← hz1]; simp
  have bw : Below (w).heap.size (w) w1 := by rw [hW1]; exact (Below.refl _ _).alloc (Nat.le_refl _) _
  have hb1 := hbt hb0 bw
  have HBv1_1 : Hid ((w1).heap[qv1]? = some (.cells #[.int .i64 0, .string ⟨#[]⟩, .string ⟨#[]⟩, .int .i64 0] 69)) := by show _ = _; rw [hW1, ← hz1]; exact heap_alloc_new _ _
  have HGv1 : Hid (w.heap.size ≤ qv1) := by show _ ≤ _; rw [← hz1]; exact hb0.size
  clear hb0 bw hW1 hz1
  clear hs1 hqv1
  go_upto_region 10 with fail
  obtain ⟨qv2, hqv2⟩ : ∃ q, q = (w1).heap.size := ⟨_, rfl⟩
  obtain ⟨w2, hW2⟩ : ∃ W, W = (w1).alloc (.cells #[.string a, .string b] 183) := ⟨_, rfl⟩
  have hz2 : (w1).heap.size = qv2 := hqv2.symm
  first | rw [← hW2, ← hqv2] | rw [← hW2]
  have hs2 : w2.heap.size = qv2 + 1 := by rw [hW2, ← hz2]; simp
  have bw : Below (w1).heap.size (w1) w2 := by rw [hW2]; exact (Below.refl _ _).alloc (Nat.le_refl _) _
  have hb2 := hbt hb1 bw
  have HBv1_2 := hblk HBv1_1 bw
  have HNv1v2 : Hid (qv1 ≠ qv2) := fun e => by have h1 := (Array.getElem?_eq_some_iff.1 HBv1_1.out).1; omega
  have HBv2_2 : Hid ((w2).heap[qv2]? = some (.cells #[.string a, .string b] 183)) := by show _ = _; rw [hW2, ← hz2]; exact heap_alloc_new _ _
  clear hb1 HBv1_1 bw hW2 hz2
  clear hs2 hqv2
  have cv1_0 : (w2).cell? ⟨qv1, 0, none⟩ = some (.int .i64 0) := (cell_of HBv1_2.out 0).trans rfl
  have fcv1_0 : (w2).frozen? ⟨qv1, 0, none⟩ = false := frozen_of HBv1_2.out 0
  have cv1_1 : (w2).cell? ⟨qv1, 1, none⟩ = some (.string ⟨#[]⟩) := (cell_of HBv1_2.out 1).trans rfl
  have fcv1_1 : (w2).frozen? ⟨qv1, 1, none⟩ = false := frozen_of HBv1_2.out 1
  have cv1_2 : (w2).cell? ⟨qv1, 2, none⟩ = some (.string ⟨#[]⟩) := (cell_of HBv1_2.out 2).trans rfl
  have fcv1_2 : (w2).frozen? ⟨qv1, 2, none⟩ = false := frozen_of HBv1_2.out 2
  have cv1_3 : (w2).cell? ⟨qv1, 3, none⟩ = some (.int .i64 0) := (cell_of HBv1_2.out 3).trans rfl
  have fcv1_3 : (w2).frozen? ⟨qv1, 3, none⟩ = false := frozen_of HBv1_2.out 3
  have cv2_0 : (w2).cell? ⟨qv2, 0, none⟩ = some (.string a) := (cell_of HBv2_2.out 0).trans rfl
  have cv2_1 : (w2).cell? ⟨qv2, 1, none⟩ = some (.string b) := (cell_of HBv2_2.out 1).trans rfl
  go_wp2_with fail
  obtain ⟨w3, hW3⟩ : ∃ W, W = (w2).setCell ⟨qv1, 0, none⟩ (.int .i64 3) := ⟨_, rfl⟩
  rw [← hW3]
  have hb3 : Below w.heap.size w (w3) := by rw [hW3]; exact (hb2.setCell (p := ⟨qv1, 0, none⟩) HGv1.out _)
  have HBv2_3 := hset hW3 HNv1v2.out.symm HBv2_2
  have HBv1_3 : Hid ((w3).heap[qv1]? = some (.cells #[.int .i64 3, .string ⟨#[]⟩, .string ⟨#[]⟩, .int .i64 0] 69)) := by show _ = _; rw [hW3]; have h := heap_set _ _ 0 _ _ _ (.int .i64 3) HBv1_2.out; simpa using h
  clear hb2 HBv1_2 HBv2_2 hW3
  obtain ⟨w4, hW4⟩ : ∃ W, W = (w3).setCell ⟨qv1, 1, none⟩ (.string a) := ⟨_, rfl⟩
  rw [← hW4]
  have hb4 : Below w.heap.size w (w4) := by rw [hW4]; exact (hb3.setCell (p := ⟨qv1, 1, none⟩) HGv1.out _)
  have HBv2_4 := hset hW4 HNv1v2.out.symm HBv2_3
  have HBv1_4 : Hid ((w4).heap[qv1]? = some (.cells #[.int .i64 3, .string a, .string ⟨#[]⟩, .int .i64 0] 69)) := by show _ = _; rw [hW4]; have h := heap_set _ _ 1 _ _ _ (.string a) HBv1_3.out; simpa using h
  clear hb3 HBv1_3 HBv2_3 hW4
  obtain ⟨w5, hW5⟩ : ∃ W, W = (w4).setCell ⟨qv1, 2, none⟩ (.string b) := ⟨_, rfl⟩
  rw [← hW5]
  have hb5 : Below w.heap.size w (w5) := by rw [hW5]; exact (hb4.setCell (p := ⟨qv1, 2, none⟩) HGv1.out _)
  have HBv2_5 := hset hW5 HNv1v2.out.symm HBv2_4
  have HBv1_5 : Hid ((w5).heap[qv1]? = some (.cells #[.int .i64 3, .string a, .string b, .int .i64 0] 69)) := by show _ = _; rw [hW5]; have h := heap_set _ _ 2 _ _ _ (.string b) HBv1_4.out; simpa using h
  clear hb4 HBv1_4 HBv2_4 hW5
  obtain ⟨w6, hW6⟩ : ∃ W, W = (w5).setCell ⟨qv1, 3, none⟩ (.int .i64 t) := ⟨_, rfl⟩
  rw [← hW6]
  have hb6 : Below w.heap.size w (w6) := by rw [hW6]; exact (hb5.setCell (p := ⟨qv1, 3, none⟩) HGv1.out _)
  have HBv2_6 := hset hW6 HNv1v2.out.symm HBv2_5
  have HBv1_6 : Hid ((w6).heap[qv1]? = some (.cells #[.int .i64 3, .string a, .string b, .int .i64 t] 69)) := by show _ = _; rw [hW6]; have h := heap_set _ _ 3 _ _ _ (.int .i64 t) HBv1_5.out; simpa using h
  clear hb5 HBv1_5 HBv2_5 hW6
  have kv1_0 : (w6).cell? ⟨qv1, 0, none⟩ = some (.int .i64 3) := (cell_of HBv1_6.out 0).trans rfl
  have kv1_1 : (w6).cell? ⟨qv1, 1, none⟩ = some (.string a) := (cell_of HBv1_6.out 1).trans rfl
  have kv1_2 : (w6).cell? ⟨qv1, 2, none⟩ = some (.string b) := (cell_of HBv1_6.out 2).trans rfl
  have kv1_3 : (w6).cell? ⟨qv1, 3, none⟩ = some (.int .i64 t) := (cell_of HBv1_6.out 3).trans rfl
  refine bodyPost_ret (v := .agg #[.int .i64 3, .string a, .string b, .int .i64 t]) (by simp [results, Tryz.results115, go_sem, kv1_0, kv1_1, kv1_2, kv1_3]) rfl ?_
  exact ⟨rfl, hb6⟩

set_option maxHeartbeats 8000000 in
set_option maxRecDepth 100000 in
theorem right_1 (a : ByteArray) (w : World) (ha : a.size ≤ maxLen) :
    Calls Tryz.prog 171 #[.agg #[.string a]] w fun e w' => BoolIs (PathOk a) w e w' := by
  have HAM : Hid (a.size ≤ maxLen) := ha
  clear ha
  have hb0 : Below w.heap.size w w := Below.refl _ _
  go_enter Tryz.func171, Tryz.ntmps171
  go_upto_region 1 with fail
  obtain ⟨qv1, hqv1⟩ : ∃ q, q = (w).heap.size := ⟨_, rfl⟩
  obtain ⟨w1, hW1⟩ : ∃ W, W = (w).alloc (.cells #[.string a] 179) := ⟨_, rfl⟩
  have hz1 : (w).heap.size = qv1 := hqv1.symm
  first | rw [← hW1, ← hqv1] | rw [← hW1]
  have hs1 : w1.heap.size = qv1 + 1 := by rw [hW1, ← hz1]; simp
  have bw : Below (w).heap.size (w) w1 := by rw [hW1]; exact (Below.refl _ _).alloc (Nat.le_refl _) _
  have hb1 := hbt hb0 bw
  have HBv1_1 : Hid ((w1).heap[qv1]? = some (.cells #[.string a] 179)) := by show _ = _; rw [hW1, ← hz1]; exact heap_alloc_new _ _
  clear hb0 bw hW1 hz1
  clear hs1 hqv1
  have cv1_0 : (w1).cell? ⟨qv1, 0, none⟩ = some (.string a) := (cell_of HBv1_1.out 0).trans rfl
  go_wp2_with fail
  refine (pathOk_any a _ HAM.out).mono ?_
  rintro e w2 ⟨u, rfl, htu, bw⟩
  have hb2 := hbt hb1 bw
  have HBv1_2 := hblk HBv1_1 bw
  clear hb1 HBv1_1 bw
  clear cv1_0
  go_wp2_with fail
  go_ret
  exact ⟨u, rfl, htu, hb2⟩

set_option maxHeartbeats 8000000 in
set_option maxRecDepth 100000 in
theorem right_2 (a : ByteArray) (w : World) (ha : a.size ≤ maxLen) :
    Calls Tryz.prog 173 #[.agg #[.string a]] w fun e w' => BoolIs (PathOk a) w e w' := by
  have HAM : Hid (a.size ≤ maxLen) := ha
  clear ha
  have hb0 : Below w.heap.size w w := Below.refl _ _
  go_enter Tryz.func173, Tryz.ntmps173
  go_upto_region 1 with fail
  obtain ⟨qv1, hqv1⟩ : ∃ q, q = (w).heap.size := ⟨_, rfl⟩
  obtain ⟨w1, hW1⟩ : ∃ W, W = (w).alloc (.cells #[.string a] 181) := ⟨_, rfl⟩
  have hz1 : (w).heap.size = qv1 := hqv1.symm
  first | rw [← hW1, ← hqv1] | rw [← hW1]
  have hs1 : w1.heap.size = qv1 + 1 := by rw [hW1, ← hz1]; simp
  have bw : Below (w).heap.size (w) w1 := by rw [hW1]; exact (Below.refl _ _).alloc (Nat.le_refl _) _
  have hb1 := hbt hb0 bw
  have HBv1_1 : Hid ((w1).heap[qv1]? = some (.cells #[.string a] 181)) := by show _ = _; rw [hW1, ← hz1]; exact heap_alloc_new _ _
  clear hb0 bw hW1 hz1
  clear hs1 hqv1
  have cv1_0 : (w1).cell? ⟨qv1, 0, none⟩ = some (.string a) := (cell_of HBv1_1.out 0).trans rfl
  go_wp2_with fail
  refine (pathOk_any a _ HAM.out).mono ?_
  rintro e w2 ⟨u, rfl, htu, bw⟩
  have hb2 := hbt hb1 bw
  have HBv1_2 := hblk HBv1_1 bw
  clear hb1 HBv1_1 bw
  clear cv1_0
  go_wp2_with fail
  go_ret
  exact ⟨u, rfl, htu, hb2⟩

set_option maxHeartbeats 8000000 in
set_option maxRecDepth 100000 in
theorem right_3 (a b : ByteArray) (w : World) (ha : a.size ≤ maxLen) (hb : b.size ≤ maxLen) :
    Calls Tryz.prog 177 #[.agg #[.string a, .string b]] w fun e w' => BoolIs (TokOk a ∧ ValOk b) w e w' := by
  have HAM : Hid (a.size ≤ maxLen) := ha
  have HBM : Hid (b.size ≤ maxLen) := hb
  clear ha hb
  have hb0 : Below w.heap.size w w := Below.refl _ _
  go_enter Tryz.func177, Tryz.ntmps177
  go_upto_region 1 with fail
  obtain ⟨qv1, hqv1⟩ : ∃ q, q = (w).heap.size := ⟨_, rfl⟩
  obtain ⟨w1, hW1⟩ : ∃ W, W = (w).alloc (.cells #[.string a, .string b] 183) := ⟨_, rfl⟩
  have hz1 : (w).heap.size = qv1 := hqv1.symm
  first | rw [← hW1, ← hqv1] | rw [← hW1]
  have hs1 : w1.heap.size = qv1 + 1 := by rw [hW1, ← hz1]; simp
  have bw : Below (w).heap.size (w) w1 := by rw [hW1]; exact (Below.refl _ _).alloc (Nat.le_refl _) _
  have hb1 := hbt hb0 bw
  have HBv1_1 : Hid ((w1).heap[qv1]? = some (.cells #[.string a, .string b] 183)) := by show _ = _; rw [hW1, ← hz1]; exact heap_alloc_new _ _
  clear hb0 bw hW1 hz1
  clear hs1 hqv1
  have cv1_0 : (w1).cell? ⟨qv1, 0, none⟩ = some (.string a) := (cell_of HBv1_1.out 0).trans rfl
  go_wp2_with fail
  refine (implTokenOk_any a _ HAM.out).mono ?_
  rintro e w2 ⟨u, rfl, htu, bw⟩
  have hb2 := hbt hb1 bw
  have HBv1_2 := hblk HBv1_1 bw
  clear hb1 HBv1_1 bw
  clear cv1_0
  cases u with
  | false =>
    have HU : Hid (¬ TokOk a) := fun h => nomatch htu.2 h
    clear htu
    go_wp2_with fail
    go_ret
    exact ⟨false, rfl, ⟨fun h => (by cases h), fun h => absurd h.1 HU.out⟩, hb2⟩
  | true =>
    have HU : Hid (TokOk a) := htu.1 rfl
    clear htu
    have cv1_1 : (w2).cell? ⟨qv1, 1, none⟩ = some (.string b) := (cell_of HBv1_2.out 1).trans rfl
    go_wp2_with fail
    refine (implValueOk_any b _ HBM.out).mono ?_
    rintro e w3 ⟨v, rfl, htv, bw⟩
    have hb3 := hbt hb2 bw
    have HBv1_3 := hblk HBv1_2 bw
    clear hb2 HBv1_2 bw
    clear cv1_1
    go_wp2_with fail
    go_ret
    exact ⟨v, rfl, ⟨fun h => ⟨HU.out, htv.1 h⟩, fun h => htv.2 h.2⟩, hb3⟩

set_option maxHeartbeats 8000000 in
set_option maxRecDepth 100000 in
theorem bans_1 (a : ByteArray) (p : ByteArray) (v1 v2 : Value) (st : Int) (v3 : Value) (d : ByteArray) (u : Int) (w : World) :
    Calls Tryz.prog 170 #[.agg #[.string a], .agg #[.string p, v1, v2, .int .i64 st, v3, .string d, .int .i64 u]] w fun e w' => BoolIs (p = a) w e w' := by
  have hb0 : Below w.heap.size w w := Below.refl _ _
  go_enter Tryz.func170, Tryz.ntmps170
  go_upto_region 1 with fail
  obtain ⟨qv1, hqv1⟩ : ∃ q, q = (w).heap.size := ⟨_, rfl⟩
  obtain ⟨w1, hW1⟩ : ∃ W, W = (w).alloc (.cells #[.string a] 179) := ⟨_, rfl⟩
  have hz1 : (w).heap.size = qv1 := hqv1.symm
  first | rw [← hW1, ← hqv1] | rw [← hW1]
  have hs1 : w1.heap.size = qv1 + 1 := by rw [hW1, ← hz1]; simp
  have bw : Below (w).heap.size (w) w1 := by rw [hW1]; exact (Below.refl _ _).alloc (Nat.le_refl _) _
  have hb1 := hbt hb0 bw
  have HBv1_1 : Hid ((w1).heap[qv1]? = some (.cells #[.string a] 179)) := by show _ = _; rw [hW1, ← hz1]; exact heap_alloc_new _ _
  clear hb0 bw hW1 hz1
  obtain ⟨qv2, hqv2⟩ : ∃ q, q = qv1 + 1 := ⟨_, rfl⟩
  obtain ⟨w2, hW2⟩ : ∃ W, W = (w1).alloc (.cells #[.string p, v1, v2, .int .i64 st, v3, .string d, .int .i64 u] 50) := ⟨_, rfl⟩
  have hz2 : (w1).heap.size = qv2 := by rw [hqv2]; exact hs1
  first | rw [← hW2, ← hqv2] | rw [← hW2]
  have hs2 : w2.heap.size = qv2 + 1 := by rw [hW2, ← hz2]; simp
  have bw : Below (w1).heap.size (w1) w2 := by rw [hW2]; exact (Below.refl _ _).alloc (Nat.le_refl _) _
  have hb2 := hbt hb1 bw
  have HBv1_2 := hblk HBv1_1 bw
  have HBv2_2 : Hid ((w2).heap[qv2]? = some (.cells #[.string p, v1, v2, .int .i64 st, v3, .string d, .int .i64 u] 50)) := by show _ = _; rw [hW2, ← hz2]; exact heap_alloc_new _ _
  clear hb1 HBv1_1 bw hW2 hz2
  clear hs2 hqv2 hs1 hqv1
  have cv1_0 : (w2).cell? ⟨qv1, 0, none⟩ = some (.string a) := (cell_of HBv1_2.out 0).trans rfl
  have cv2_0 : (w2).cell? ⟨qv2, 0, none⟩ = some (.string p) := (cell_of HBv2_2.out 0).trans rfl
  by_cases hc1 : p = a
  · have hc1b : ((p).toList == (a).toList) = true := (text_beq _ _).2 hc1
    go_wp2_with fail
    go_ret
    exact ⟨true, rfl, by simpa using hc1, hb2⟩
  · have hc1b : ((p).toList == (a).toList) = false := text_beq_no hc1
    go_wp2_with fail
    go_ret
    exact ⟨false, rfl, by simpa using hc1, hb2⟩

theorem begins_prefix (a p : ByteArray) : (bs a).isPrefixOf (bs p) = true ↔ Begins a p := by
  rw [List.isPrefixOf_iff_prefix]
  constructor
  · rintro ⟨r, h⟩; exact ⟨r, h.symm⟩
  · rintro ⟨r, h⟩; exact ⟨r, h.symm⟩
set_option maxHeartbeats 8000000 in
set_option maxRecDepth 100000 in
theorem bans_2 (a : ByteArray) (p : ByteArray) (v1 v2 : Value) (st : Int) (v3 : Value) (d : ByteArray) (u : Int) (w : World) (hp : p.size ≤ maxLen) :
    Calls Tryz.prog 172 #[.agg #[.string a], .agg #[.string p, v1, v2, .int .i64 st, v3, .string d, .int .i64 u]] w fun e w' => BoolIs (Begins a p) w e w' := by
  have HPM : Hid (p.size ≤ maxLen) := hp
  clear hp
  have hb0 : Below w.heap.size w w := Below.refl _ _
  go_enter Tryz.func172, Tryz.ntmps172
  go_upto_region 1 with fail
  obtain ⟨qv1, hqv1⟩ : ∃ q, q = (w).heap.size := ⟨_, rfl⟩
  obtain ⟨w1, hW1⟩ : ∃ W, W = (w).alloc (.cells #[.string a] 181) := ⟨_, rfl⟩
  have hz1 : (w).heap.size = qv1 := hqv1.symm
  first | rw [← hW1, ← hqv1] | rw [← hW1]
  have hs1 : w1.heap.size = qv1 + 1 := by rw [hW1, ← hz1]; simp
  have bw : Below (w).heap.size (w) w1 := by rw [hW1]; exact (Below.refl _ _).alloc (Nat.le_refl _) _
  have hb1 := hbt hb0 bw
  have HBv1_1 : Hid ((w1).heap[qv1]? = some (.cells #[.string a] 181)) := by show _ = _; rw [hW1, ← hz1]; exact heap_alloc_new _ _
  clear hb0 bw hW1 hz1
  obtain ⟨qv2, hqv2⟩ : ∃ q, q = qv1 + 1 := ⟨_, rfl⟩
  obtain ⟨w2, hW2⟩ : ∃ W, W = (w1).alloc (.cells #[.string p, v1, v2, .int .i64 st, v3, .string d, .int .i64 u] 50) := ⟨_, rfl⟩
  have hz2 : (w1).heap.size = qv2 := by rw [hqv2]; exact hs1
  first | rw [← hW2, ← hqv2] | rw [← hW2]
  have hs2 : w2.heap.size = qv2 + 1 := by rw [hW2, ← hz2]; simp
  have bw : Below (w1).heap.size (w1) w2 := by rw [hW2]; exact (Below.refl _ _).alloc (Nat.le_refl _) _
  have hb2 := hbt hb1 bw
  have HBv1_2 := hblk HBv1_1 bw
  have HBv2_2 : Hid ((w2).heap[qv2]? = some (.cells #[.string p, v1, v2, .int .i64 st, v3, .string d, .int .i64 u] 50)) := by show _ = _; rw [hW2, ← hz2]; exact heap_alloc_new _ _
  clear hb1 HBv1_1 bw hW2 hz2
  clear hs2 hqv2 hs1 hqv1
  have cv1_0 : (w2).cell? ⟨qv1, 0, none⟩ = some (.string a) := (cell_of HBv1_2.out 0).trans rfl
  have cv2_0 : (w2).cell? ⟨qv2, 0, none⟩ = some (.string p) := (cell_of HBv2_2.out 0).trans rfl
  go_wp2_with fail
  refine (Tryz.strings_HasPrefix p a _).mono ?_
  rintro e w3 ⟨rfl, hwe⟩
  have bw : Below (w2).heap.size (w2) w3 := by rw [hwe]; exact Below.refl _ _
  clear hwe
  obtain ⟨u9, hu9⟩ : ∃ x, x = Lib.hasPrefix p.data.toList a.data.toList := ⟨_, rfl⟩
  rw [← hu9]
  have HU9 : Hid (u9 = Lib.hasPrefix p.data.toList a.data.toList) := hu9
  clear hu9
  have hb3 := hbt hb2 bw
  have HBv1_3 := hblk HBv1_2 bw
  have HBv2_3 := hblk HBv2_2 bw
  clear hb2 HBv1_2 HBv2_2 bw
  clear cv1_0 cv2_0
  go_wp2_with fail
  go_ret
  exact ⟨u9, rfl, by rw [HU9.out]; exact begins_prefix a p, hb3⟩

set_option maxHeartbeats 8000000 in
set_option maxRecDepth 100000 in
theorem bans_3 (a b : ByteArray) (p : ByteArray) (v1 v2 : Value) (st : Int) (v3 : Value) (d : ByteArray) (u : Int) (w : World) (n3 base : Nat) (fs : List (ByteArray × ByteArray)) (h3 : FieldsV w base v3 n3 fs) (hn3 : n3 ≤ 2000000) (hc : CopyF fs) :
    Calls Tryz.prog 176 #[.agg #[.string a, .string b], .agg #[.string p, v1, v2, .int .i64 st, v3, .string d, .int .i64 u]] w fun e w' => BoolIs (getB fs a = true ∧ getV fs a = b) w e w' := by
  have HV3 : Hid (∀ W, Below w.heap.size w W → FieldsV W base v3 n3 fs) := fun W h => h3.below h
  have HC : Hid (CopyF fs) := hc
  clear h3 hc
  have hb0 : Below w.heap.size w w := Below.refl _ _
  go_enter Tryz.func176, Tryz.ntmps176
  go_upto_region 1 with fail
  obtain ⟨qv1, hqv1⟩ : ∃ q, q = (w).heap.size := ⟨_, rfl⟩
  obtain ⟨w1, hW1⟩ : ∃ W, W = (w).alloc (.cells #[.string a, .string b] 183) := ⟨_, rfl⟩
  have hz1 : (w).heap.size = qv1 := hqv1.symm
  first | rw [← hW1, ← hqv1] | rw [← hW1]
  have hs1 : w1.heap.size = qv1 + 1 := by rw [hW1, ← hz1]; simp
  have bw : Below (w).heap.size (w) w1 := by rw [hW1]; exact (Below.refl _ _).alloc (Nat.le_refl _) _
  have hb1 := hbt hb0 bw
  have HBv1_1 : Hid ((w1).heap[qv1]? = some (.cells #[.string a, .string b] 183)) := by show _ = _; rw [hW1, ← hz1]; exact heap_alloc_new _ _
  clear hb0 bw hW1 hz1
  obtain ⟨qv2, hqv2⟩ : ∃ q, q = qv1 + 1 := ⟨_, rfl⟩
  obtain ⟨w2, hW2⟩ : ∃ W, W = (w1).alloc (.cells #[.string p, v1, v2, .int .i64 st, v3, .string d, .int .i64 u] 50) := ⟨_, rfl⟩
  have hz2 : (w1).heap.size = qv2 := by rw [hqv2]; exact hs1
  first | rw [← hW2, ← hqv2] | rw [← hW2]
  have hs2 : w2.heap.size = qv2 + 1 := by rw [hW2, ← hz2]; simp
  have bw : Below (w1).heap.size (w1) w2 := by rw [hW2]; exact (Below.refl _ _).alloc (Nat.le_refl _) _
  have hb2 := hbt hb1 bw
  have HBv1_2 := hblk HBv1_1 bw
  have HBv2_2 : Hid ((w2).heap[qv2]? = some (.cells #[.string p, v1, v2, .int .i64 st, v3, .string d, .int .i64 u] 50)) := by show _ = _; rw [hW2, ← hz2]; exact heap_alloc_new _ _
  clear hb1 HBv1_1 bw hW2 hz2
  clear hs2 hqv2 hs1 hqv1
  have cv1_0 : (w2).cell? ⟨qv1, 0, none⟩ = some (.string a) := (cell_of HBv1_2.out 0).trans rfl
  have cv2_4 : (w2).cell? ⟨qv2, 4, none⟩ = some (v3) := (cell_of HBv2_2.out 4).trans rfl
  go_wp2_with fail
  refine (implGet_any _ n3 base fs a _ (HV3.out _ hb2) (by omega) HC.out).mono ?_
  rintro e w3 ⟨rfl, bw⟩
  obtain ⟨gv, hgv⟩ : ∃ x, x = getV fs a := ⟨_, rfl⟩
  obtain ⟨ug, hug⟩ : ∃ x, x = getB fs a := ⟨_, rfl⟩
  have HGE : Hid (getV fs a = gv) := hgv.symm
  rw [← hgv, ← hug]
  clear hgv
  have hb3 := hbt hb2 bw
  have HBv1_3 := hblk HBv1_2 bw
  have HBv2_3 := hblk HBv2_2 bw
  clear hb2 HBv1_2 HBv2_2 bw
  clear cv1_0 cv2_4
  cases ug with
  | false =>
    have Hug : Hid (¬ getB fs a = true) := (by show ¬ _; rw [← hug]; decide)
    clear hug
    go_wp2_with fail
    go_ret
    refine ⟨false, rfl, ?_, hb3⟩
    have z1 := Hug.out
    have z2 := HGE.out
    first
      | (have z3 := HGV.out
         simp_all; done)
      | (simp_all; done)
  | true =>
    have Hug : Hid (getB fs a = true) := hug.symm
    clear hug
    have cv1_1 : (w3).cell? ⟨qv1, 1, none⟩ = some (.string b) := (cell_of HBv1_3.out 1).trans rfl
    by_cases hc1 : gv = b
    · have hc1b : ((gv).toList == (b).toList) = true := (text_beq _ _).2 hc1
      have HGV : Hid (gv = b) := hc1
      go_wp2_with fail
      go_ret
      refine ⟨true, rfl, ?_, hb3⟩
      have z1 := Hug.out
      have z2 := HGE.out
      first
        | (have z3 := HGV.out
           simp_all; done)
        | (simp_all; done)
    · have hc1b : ((gv).toList == (b).toList) = false := text_beq_no hc1
      have HGV : Hid (¬ gv = b) := hc1
      go_wp2_with fail
      go_ret
      refine ⟨false, rfl, ?_, hb3⟩
      have z1 := Hug.out
      have z2 := HGE.out
      first
        | (have z3 := HGV.out
           simp_all; done)
        | (simp_all; done)

end Go.Proofs.YtcipbkkpkhameaaGreat

namespace Go.Proofs.YtcipbkkpkhameaaGreat
open Go.RowKit
open Go.Lib hiding intOf

theorem guardBan : Tryz.prog.eqGuardType Tryz.prog.depth 69 = false := by kernel_rfl
open Classical in
theorem eqBanIn (k k' : Int) (a a' b b' : ByteArray) (t t' : Int) (w : World) : (Op.equalIn 10000 69 (.agg #[.int .i64 k, .string a, .string b, .int .i64 t]) (.agg #[.int .i64 k', .string a', .string b', .int .i64 t'])).run Tryz.prog w = .ok (decide (k = k' ∧ a = a' ∧ b = b' ∧ t = t')) w := by
  have u3 := Tryz.underlying3
  have a3 := Tryz.isAgg3
  have z3 := Tryz.sizeOf3
  have u9 := Tryz.underlying9
  have a9 := Tryz.isAgg9
  have z9 := Tryz.sizeOf9
  have hS : Tryz.prog.underlying 69 = some (.struct (Tryz.prog.fieldsOf 69)) := by kernel_rfl
  have hp : Tryz.prog.stoodInHeld 69 = false := by kernel_rfl
  rw [show (10000 : Nat) = 9999 + 1 from rfl, run_equalIn_agg w 9999 69 _ _ hS hp]
  simp only [Program.fieldsOf, Tryz.underlying69]
  have ea : ∀ x y : ByteArray, (x.toList == y.toList) = decide (x = y) := fun x y => by
    by_cases h : x = y
    · rw [decide_eq_true h]; exact (text_beq _ _).2 h
    · rw [decide_eq_false h]; exact text_beq_no h
  go_simp
  by_cases h1 : k = k'
  · by_cases h2 : a = a'
    · by_cases h3 : b = b'
      · by_cases h4 : t = t'
        · simp [h1, h2, h3, h4]
        · simp [h1, h2, h3, h4]
      · simp [h1, h2, h3]
    · simp [h1, h2]
  · simp [h1]
open Classical in
theorem eqlBan (k k' : Int) (a a' b b' : ByteArray) (t t' : Int) (w : World) : (binOp .eql 69 (.agg #[.int .i64 k, .string a, .string b, .int .i64 t]) (.agg #[.int .i64 k', .string a', .string b', .int .i64 t'])).run Tryz.prog w = .ok (.bool (decide (k = k' ∧ a = a' ∧ b = b' ∧ t = t'))) w := by
  rw [run_eql_struct, eqBanIn]
  rfl
set_option maxHeartbeats 8000000 in
set_option maxRecDepth 100000 in
theorem implBanOk_1e (a : ByteArray) (t : Int) (w : World) (ha : a.size ≤ maxLen) :
    Calls Tryz.prog 76 #[.agg #[.int .i64 1, .string a, .string ⟨#[]⟩, .int .i64 t]] w fun e w' => BoolIs (BanP 1 a ⟨#[]⟩ t) w e w' := by
  classical
  have HAM : Hid (a.size ≤ maxLen) := ha
  have hnn : ∀ W : World, (binOp .neq 156 (.iface 179 (.agg #[.string a])) .nilIface).run Tryz.prog W = .ok (.bool true) W := fun _ => by kernel_rfl
  have hna : ∀ W : World, (nilAhead 157 179 (.agg #[.string a]) "loop.example/g00239/impl.right").run Tryz.prog W = .ok (some false) W := fun _ => by kernel_rfl
  have hmt : ∀ W : World, (method 157 179 (.agg #[.string a]) "loop.example/g00239/impl.right").run Tryz.prog W = .ok (171, .agg #[.string a]) W := fun _ => by kernel_rfl
  have hgb := guardBan
  have hqe : ∀ W : World, (binOp .eql 69 (.agg #[.int .i64 1, .string a, .string ⟨#[]⟩, .int .i64 t]) (.agg #[.int .i64 1, .string a, .string ⟨#[]⟩, .int .i64 t])).run Tryz.prog W = .ok (.bool true) W := fun W => by
    rw [eqlBan]
    first | (simp; done) | (have z := HB0.out; simp; exact fun e => z e.symm)
  clear ha
  have hb0 : Below w.heap.size w w := Below.refl _ _
  go_enter Tryz.func76, Tryz.ntmps76
  go_upto_region 1 with fail
  obtain ⟨qv1, hqv1⟩ : ∃ q, q = (w).heap.size := ⟨_, rfl⟩
  obtain ⟨w1, hW1⟩ : ∃ W, W = (w).alloc (.cells #[.int .i64 1, .string a, .string ⟨#[]⟩, .int .i64 t] 69) := ⟨_, rfl⟩
  have hz1 : (w).heap.size = qv1 := hqv1.symm
  first | rw [← hW1, ← hqv1] | rw [← hW1]
  have hs1 : w1.heap.size = qv1 + 1 := by rw [hW1, ← hz1]; simp
  have bw : Below (w).heap.size (w) w1 := by rw [hW1]; exact (Below.refl _ _).alloc (Nat.le_refl _) _
  have hb1 := hbt hb0 bw
  have HBv1_1 : Hid ((w1).heap[qv1]? = some (.cells #[.int .i64 1, .string a, .string ⟨#[]⟩, .int .i64 t] 69)) := by show _ = _; rw [hW1, ← hz1]; exact heap_alloc_new _ _
  clear hb0 bw hW1 hz1
  clear hs1 hqv1
  have cv1_0 : (w1).cell? ⟨qv1, 0, none⟩ = some (.int .i64 1) := (cell_of HBv1_1.out 0).trans rfl
  have cv1_1 : (w1).cell? ⟨qv1, 1, none⟩ = some (.string a) := (cell_of HBv1_1.out 1).trans rfl
  have cv1_2 : (w1).cell? ⟨qv1, 2, none⟩ = some (.string ⟨#[]⟩) := (cell_of HBv1_1.out 2).trans rfl
  have cv1_3 : (w1).cell? ⟨qv1, 3, none⟩ = some (.int .i64 t) := (cell_of HBv1_1.out 3).trans rfl
  go_wp2_with fail
  refine (ruleOf_1 a ⟨#[]⟩ t _).mono ?_
  rintro e w2 ⟨rfl, bw⟩
  have hb2 := hbt hb1 bw
  have HBv1_2 := hblk HBv1_1 bw
  clear hb1 HBv1_1 bw
  clear cv1_0 cv1_1 cv1_2 cv1_3
  go_upto_region 2 with fail
  refine wp_region_held_drew (S := fun W => W.heap[qv1]? = some (.cells #[.int .i64 1, .string a, .string ⟨#[]⟩, .int .i64 t] 69)) (by kernel_rfl) HBv1_2.out (fun _ => ?_)
  obtain ⟨w3, hX⟩ : ∃ X, X = w2.drew := ⟨_, rfl⟩
  have bw : Below w2.heap.size w2 w3 := by rw [hX]; exact (Below.refl _ _).drew
  rw [← hX]
  have hb3 := hbt hb2 bw
  have HBv1_3 := hblk HBv1_2 bw
  have hS3 : w3.heap[qv1]? = some (.cells #[.int .i64 1, .string a, .string ⟨#[]⟩, .int .i64 t] 69) := HBv1_3.out
  clear hb2 HBv1_2 bw hX
  refine tkP 0 (.iface 179 (.agg #[.string a])) 6 rfl rfl hS3 ?_
  go_frame
  refine tkP 1 (.bool true) 7 rfl rfl hS3 ?_
  go_frame
  refine tkP 2 (.bool true) 8 rfl rfl hS3 ?_
  go_frame
  refine tkP 3 (.iface 179 (.agg #[.string a])) 9 rfl rfl hS3 ?_
  go_frame
  refine wpAnyH_ready (rs := [4]) (by kernel_rfl) (by simp) ?_
  refine AllReadyH.cons rfl (fun K hK => ?_) AllReadyH.nil
  go_simp
  refine (right_1 a _ HAM.out).mono ?_
  rintro e w4 ⟨ur, rfl, htur, bw⟩
  have hb4 := hbt hb3 bw
  have HBv1_4 := hblk HBv1_3 bw
  clear hb3 HBv1_3 bw
  have hS4 : w4.heap[qv1]? = some (.cells #[.int .i64 1, .string a, .string ⟨#[]⟩, .int .i64 t] 69) := HBv1_4.out
  refine hK.out _ _ hS4 (fun _ => ?_)
  clear hK K hS3
  refine tkP 5 (.bool ur) 11 rfl rfl hS4 ?_
  go_frame
  refine tkP 6 (.bool ur) 12 rfl rfl hS4 ?_
  go_frame
  cases ur with
  | false =>
    have Hur : Hid (¬ (PathOk a)) := fun h => nomatch htur.2 h
    clear htur
    refine tkN 7 13 rfl rfl hS4 ?_
    go_frame
    refine tkN 8 14 rfl rfl hS4 ?_
    go_frame
    refine tkN 9 15 rfl rfl hS4 ?_
    go_frame
    refine tkP 10 (.bool false) 16 rfl rfl hS4 ?_
    go_frame
    refine tkP 11 (.bool false) 17 rfl rfl hS4 ?_
    go_frame
    refine tkN 12 18 rfl rfl hS4 ?_
    go_frame
    refine tkN 13 19 rfl rfl hS4 ?_
    go_frame
    refine tkN 14 20 rfl rfl hS4 ?_
    go_frame
    refine tkN 15 21 rfl rfl hS4 ?_
    go_frame
    refine tkN 16 22 rfl rfl hS4 ?_
    go_frame
    refine tkN 17 23 rfl rfl hS4 ?_
    go_frame
    refine tkP 18 (.bool false) 24 rfl rfl hS4 ?_
    go_frame
    refine tkP 19 (.bool false) 2 rfl rfl hS4 ?_
    go_frame
    clear hS4
    refine wpAnyH_done (by kernel_rfl) ?_ _
    go_wp2_with fail
    go_ret
    refine ⟨false, rfl, ?_, hb4⟩
    have zHur := Hur.out
    unfold BanP
    simp_all
  | true =>
    have Hur : Hid (PathOk a) := htur.1 rfl
    clear htur
    refine tkP 7 (.pointer (some ⟨qv1, 3, none⟩)) 13 rfl rfl hS4 ?_
    go_frame
    refine tkL 8 (.int .i64 t) 14 rfl rfl (Or.inl ⟨by rfl, by intro W hW; have hhv1 := hW; have y3 := (cell_of hhv1 3).trans rfl; go_simp⟩) hS4 ?_
    go_frame
    refine wpAnyH_ready (rs := [9]) (by kernel_rfl) (by simp) ?_
    refine AllReadyH.cons rfl (fun K hK => ?_) AllReadyH.nil
    go_simp
    refine (timeOk_any t _).mono ?_
    rintro e w5 ⟨rfl, hwe⟩
    have bw : Below (w4).heap.size (w4) w5 := by rw [hwe]; exact Below.refl _ _
    clear hwe
    obtain ⟨ut, hut⟩ : ∃ u, u = decide ((0 : Int) ≤ t ∧ t ≤ 1000000) := ⟨_, rfl⟩
    rw [← hut]
    have hb5 := hbt hb4 bw
    have HBv1_5 := hblk HBv1_4 bw
    clear hb4 HBv1_4 bw
    have hS5 : w5.heap[qv1]? = some (.cells #[.int .i64 1, .string a, .string ⟨#[]⟩, .int .i64 t] 69) := HBv1_5.out
    refine hK.out _ _ hS5 (fun _ => ?_)
    clear hK K hS4
    refine tkP 10 (.bool ut) 16 rfl rfl hS5 ?_
    go_frame
    refine tkP 11 (.bool ut) 17 rfl rfl hS5 ?_
    go_frame
    cases ut with
    | false =>
      have Hut : Hid (¬ (0 ≤ t ∧ t ≤ 1000000)) := (show ¬ (0 ≤ t ∧ t ≤ 1000000) from of_decide_eq_false hut.symm)
      clear hut
      refine tkN 12 18 rfl rfl hS5 ?_
      go_frame
      refine tkN 13 19 rfl rfl hS5 ?_
      go_frame
      refine tkN 14 20 rfl rfl hS5 ?_
      go_frame
      refine tkN 15 21 rfl rfl hS5 ?_
      go_frame
      refine tkN 16 22 rfl rfl hS5 ?_
      go_frame
      refine tkN 17 23 rfl rfl hS5 ?_
      go_frame
      refine tkP 18 (.bool false) 24 rfl rfl hS5 ?_
      go_frame
      refine tkP 19 (.bool false) 2 rfl rfl hS5 ?_
      go_frame
      clear hS5
      refine wpAnyH_done (by kernel_rfl) ?_ _
      go_wp2_with fail
      go_ret
      refine ⟨false, rfl, ?_, hb5⟩
      have zHur := Hur.out
      have zHut := Hut.out
      unfold BanP
      simp_all
    | true =>
      have Hut : Hid (0 ≤ t ∧ t ≤ 1000000) := (show 0 ≤ t ∧ t ≤ 1000000 from of_decide_eq_true hut.symm)
      clear hut
      refine tkP 12 (.iface 179 (.agg #[.string a])) 18 rfl rfl hS5 ?_
      go_frame
      refine tkP 13 (.pointer (some ⟨qv1, 3, none⟩)) 19 rfl rfl hS5 ?_
      go_frame
      refine tkL 14 (.int .i64 t) 20 rfl rfl (Or.inl ⟨by rfl, by intro W hW; have hhv1 := hW; have y3 := (cell_of hhv1 3).trans rfl; go_simp⟩) hS5 ?_
      go_frame
      refine tkL 16 (.agg #[.int .i64 1, .string a, .string ⟨#[]⟩, .int .i64 t]) 22 rfl rfl (Or.inl ⟨by rfl, by intro W hW; have hhv1 := hW; have y0 := (cell_of hhv1 0).trans rfl; have y1 := (cell_of hhv1 1).trans rfl; have y2 := (cell_of hhv1 2).trans rfl; have y3 := (cell_of hhv1 3).trans rfl; go_simp⟩) hS5 ?_
      go_frame
      refine wpAnyH_ready (rs := [15]) (by kernel_rfl) (by simp) ?_
      refine AllReadyH.cons rfl (fun K hK => ?_) AllReadyH.nil
      go_simp
      refine (banOf_1 a t _).mono ?_
      rintro e w6 ⟨rfl, bw⟩
      have hb6 := hbt hb5 bw
      have HBv1_6 := hblk HBv1_5 bw
      clear hb5 HBv1_5 bw
      have hS6 : w6.heap[qv1]? = some (.cells #[.int .i64 1, .string a, .string ⟨#[]⟩, .int .i64 t] 69) := HBv1_6.out
      refine hK.out _ _ hS6 (fun _ => ?_)
      clear hK K hS5
      refine tkP 17 (.bool true) 23 rfl rfl hS6 ?_
      go_frame
      refine tkP 18 (.bool true) 24 rfl rfl hS6 ?_
      go_frame
      refine tkP 19 (.bool true) 2 rfl rfl hS6 ?_
      go_frame
      clear hS6
      refine wpAnyH_done (by kernel_rfl) ?_ _
      go_wp2_with fail
      go_ret
      refine ⟨true, rfl, ?_, hb6⟩
      have zHur := Hur.out
      have zHut := Hut.out
      unfold BanP
      simp_all

set_option maxHeartbeats 8000000 in
set_option maxRecDepth 100000 in
theorem implBanOk_1n (a b : ByteArray) (t : Int) (w : World) (ha : a.size ≤ maxLen) (hb0 : ¬ b = ⟨#[]⟩) :
    Calls Tryz.prog 76 #[.agg #[.int .i64 1, .string a, .string b, .int .i64 t]] w fun e w' => BoolIs (BanP 1 a b t) w e w' := by
  classical
  have HAM : Hid (a.size ≤ maxLen) := ha
  have HB0 : Hid (¬ b = ⟨#[]⟩) := hb0
  have hnn : ∀ W : World, (binOp .neq 156 (.iface 179 (.agg #[.string a])) .nilIface).run Tryz.prog W = .ok (.bool true) W := fun _ => by kernel_rfl
  have hna : ∀ W : World, (nilAhead 157 179 (.agg #[.string a]) "loop.example/g00239/impl.right").run Tryz.prog W = .ok (some false) W := fun _ => by kernel_rfl
  have hmt : ∀ W : World, (method 157 179 (.agg #[.string a]) "loop.example/g00239/impl.right").run Tryz.prog W = .ok (171, .agg #[.string a]) W := fun _ => by kernel_rfl
  have hgb := guardBan
  have hqe : ∀ W : World, (binOp .eql 69 (.agg #[.int .i64 1, .string a, .string ⟨#[]⟩, .int .i64 t]) (.agg #[.int .i64 1, .string a, .string b, .int .i64 t])).run Tryz.prog W = .ok (.bool false) W := fun W => by
    rw [eqlBan]
    first | (simp; done) | (have z := HB0.out; simp; exact fun e => z e.symm)
  clear ha hb0
  have hb0 : Below w.heap.size w w := Below.refl _ _
  go_enter Tryz.func76, Tryz.ntmps76
  go_upto_region 1 with fail
  obtain ⟨qv1, hqv1⟩ : ∃ q, q = (w).heap.size := ⟨_, rfl⟩
  obtain ⟨w1, hW1⟩ : ∃ W, W = (w).alloc (.cells #[.int .i64 1, .string a, .string b, .int .i64 t] 69) := ⟨_, rfl⟩
  have hz1 : (w).heap.size = qv1 := hqv1.symm
  first | rw [← hW1, ← hqv1] | rw [← hW1]
  have hs1 : w1.heap.size = qv1 + 1 := by rw [hW1, ← hz1]; simp
  have bw : Below (w).heap.size (w) w1 := by rw [hW1]; exact (Below.refl _ _).alloc (Nat.le_refl _) _
  have hb1 := hbt hb0 bw
  have HBv1_1 : Hid ((w1).heap[qv1]? = some (.cells #[.int .i64 1, .string a, .string b, .int .i64 t] 69)) := by show _ = _; rw [hW1, ← hz1]; exact heap_alloc_new _ _
  clear hb0 bw hW1 hz1
  clear hs1 hqv1
  have cv1_0 : (w1).cell? ⟨qv1, 0, none⟩ = some (.int .i64 1) := (cell_of HBv1_1.out 0).trans rfl
  have cv1_1 : (w1).cell? ⟨qv1, 1, none⟩ = some (.string a) := (cell_of HBv1_1.out 1).trans rfl
  have cv1_2 : (w1).cell? ⟨qv1, 2, none⟩ = some (.string b) := (cell_of HBv1_1.out 2).trans rfl
  have cv1_3 : (w1).cell? ⟨qv1, 3, none⟩ = some (.int .i64 t) := (cell_of HBv1_1.out 3).trans rfl
  go_wp2_with fail
  refine (ruleOf_1 a b t _).mono ?_
  rintro e w2 ⟨rfl, bw⟩
  have hb2 := hbt hb1 bw
  have HBv1_2 := hblk HBv1_1 bw
  clear hb1 HBv1_1 bw
  clear cv1_0 cv1_1 cv1_2 cv1_3
  go_upto_region 2 with fail
  refine wp_region_held_drew (S := fun W => W.heap[qv1]? = some (.cells #[.int .i64 1, .string a, .string b, .int .i64 t] 69)) (by kernel_rfl) HBv1_2.out (fun _ => ?_)
  obtain ⟨w3, hX⟩ : ∃ X, X = w2.drew := ⟨_, rfl⟩
  have bw : Below w2.heap.size w2 w3 := by rw [hX]; exact (Below.refl _ _).drew
  rw [← hX]
  have hb3 := hbt hb2 bw
  have HBv1_3 := hblk HBv1_2 bw
  have hS3 : w3.heap[qv1]? = some (.cells #[.int .i64 1, .string a, .string b, .int .i64 t] 69) := HBv1_3.out
  clear hb2 HBv1_2 bw hX
  refine tkP 0 (.iface 179 (.agg #[.string a])) 6 rfl rfl hS3 ?_
  go_frame
  refine tkP 1 (.bool true) 7 rfl rfl hS3 ?_
  go_frame
  refine tkP 2 (.bool true) 8 rfl rfl hS3 ?_
  go_frame
  refine tkP 3 (.iface 179 (.agg #[.string a])) 9 rfl rfl hS3 ?_
  go_frame
  refine wpAnyH_ready (rs := [4]) (by kernel_rfl) (by simp) ?_
  refine AllReadyH.cons rfl (fun K hK => ?_) AllReadyH.nil
  go_simp
  refine (right_1 a _ HAM.out).mono ?_
  rintro e w4 ⟨ur, rfl, htur, bw⟩
  have hb4 := hbt hb3 bw
  have HBv1_4 := hblk HBv1_3 bw
  clear hb3 HBv1_3 bw
  have hS4 : w4.heap[qv1]? = some (.cells #[.int .i64 1, .string a, .string b, .int .i64 t] 69) := HBv1_4.out
  refine hK.out _ _ hS4 (fun _ => ?_)
  clear hK K hS3
  refine tkP 5 (.bool ur) 11 rfl rfl hS4 ?_
  go_frame
  refine tkP 6 (.bool ur) 12 rfl rfl hS4 ?_
  go_frame
  cases ur with
  | false =>
    have Hur : Hid (¬ (PathOk a)) := fun h => nomatch htur.2 h
    clear htur
    refine tkN 7 13 rfl rfl hS4 ?_
    go_frame
    refine tkN 8 14 rfl rfl hS4 ?_
    go_frame
    refine tkN 9 15 rfl rfl hS4 ?_
    go_frame
    refine tkP 10 (.bool false) 16 rfl rfl hS4 ?_
    go_frame
    refine tkP 11 (.bool false) 17 rfl rfl hS4 ?_
    go_frame
    refine tkN 12 18 rfl rfl hS4 ?_
    go_frame
    refine tkN 13 19 rfl rfl hS4 ?_
    go_frame
    refine tkN 14 20 rfl rfl hS4 ?_
    go_frame
    refine tkN 15 21 rfl rfl hS4 ?_
    go_frame
    refine tkN 16 22 rfl rfl hS4 ?_
    go_frame
    refine tkN 17 23 rfl rfl hS4 ?_
    go_frame
    refine tkP 18 (.bool false) 24 rfl rfl hS4 ?_
    go_frame
    refine tkP 19 (.bool false) 2 rfl rfl hS4 ?_
    go_frame
    clear hS4
    refine wpAnyH_done (by kernel_rfl) ?_ _
    go_wp2_with fail
    go_ret
    refine ⟨false, rfl, ?_, hb4⟩
    have zHur := Hur.out
    have zHB := HB0.out
    unfold BanP
    simp_all
  | true =>
    have Hur : Hid (PathOk a) := htur.1 rfl
    clear htur
    refine tkP 7 (.pointer (some ⟨qv1, 3, none⟩)) 13 rfl rfl hS4 ?_
    go_frame
    refine tkL 8 (.int .i64 t) 14 rfl rfl (Or.inl ⟨by rfl, by intro W hW; have hhv1 := hW; have y3 := (cell_of hhv1 3).trans rfl; go_simp⟩) hS4 ?_
    go_frame
    refine wpAnyH_ready (rs := [9]) (by kernel_rfl) (by simp) ?_
    refine AllReadyH.cons rfl (fun K hK => ?_) AllReadyH.nil
    go_simp
    refine (timeOk_any t _).mono ?_
    rintro e w5 ⟨rfl, hwe⟩
    have bw : Below (w4).heap.size (w4) w5 := by rw [hwe]; exact Below.refl _ _
    clear hwe
    obtain ⟨ut, hut⟩ : ∃ u, u = decide ((0 : Int) ≤ t ∧ t ≤ 1000000) := ⟨_, rfl⟩
    rw [← hut]
    have hb5 := hbt hb4 bw
    have HBv1_5 := hblk HBv1_4 bw
    clear hb4 HBv1_4 bw
    have hS5 : w5.heap[qv1]? = some (.cells #[.int .i64 1, .string a, .string b, .int .i64 t] 69) := HBv1_5.out
    refine hK.out _ _ hS5 (fun _ => ?_)
    clear hK K hS4
    refine tkP 10 (.bool ut) 16 rfl rfl hS5 ?_
    go_frame
    refine tkP 11 (.bool ut) 17 rfl rfl hS5 ?_
    go_frame
    cases ut with
    | false =>
      have Hut : Hid (¬ (0 ≤ t ∧ t ≤ 1000000)) := (show ¬ (0 ≤ t ∧ t ≤ 1000000) from of_decide_eq_false hut.symm)
      clear hut
      refine tkN 12 18 rfl rfl hS5 ?_
      go_frame
      refine tkN 13 19 rfl rfl hS5 ?_
      go_frame
      refine tkN 14 20 rfl rfl hS5 ?_
      go_frame
      refine tkN 15 21 rfl rfl hS5 ?_
      go_frame
      refine tkN 16 22 rfl rfl hS5 ?_
      go_frame
      refine tkN 17 23 rfl rfl hS5 ?_
      go_frame
      refine tkP 18 (.bool false) 24 rfl rfl hS5 ?_
      go_frame
      refine tkP 19 (.bool false) 2 rfl rfl hS5 ?_
      go_frame
      clear hS5
      refine wpAnyH_done (by kernel_rfl) ?_ _
      go_wp2_with fail
      go_ret
      refine ⟨false, rfl, ?_, hb5⟩
      have zHur := Hur.out
      have zHut := Hut.out
      have zHB := HB0.out
      unfold BanP
      simp_all
    | true =>
      have Hut : Hid (0 ≤ t ∧ t ≤ 1000000) := (show 0 ≤ t ∧ t ≤ 1000000 from of_decide_eq_true hut.symm)
      clear hut
      refine tkP 12 (.iface 179 (.agg #[.string a])) 18 rfl rfl hS5 ?_
      go_frame
      refine tkP 13 (.pointer (some ⟨qv1, 3, none⟩)) 19 rfl rfl hS5 ?_
      go_frame
      refine tkL 14 (.int .i64 t) 20 rfl rfl (Or.inl ⟨by rfl, by intro W hW; have hhv1 := hW; have y3 := (cell_of hhv1 3).trans rfl; go_simp⟩) hS5 ?_
      go_frame
      refine tkL 16 (.agg #[.int .i64 1, .string a, .string b, .int .i64 t]) 22 rfl rfl (Or.inl ⟨by rfl, by intro W hW; have hhv1 := hW; have y0 := (cell_of hhv1 0).trans rfl; have y1 := (cell_of hhv1 1).trans rfl; have y2 := (cell_of hhv1 2).trans rfl; have y3 := (cell_of hhv1 3).trans rfl; go_simp⟩) hS5 ?_
      go_frame
      refine wpAnyH_ready (rs := [15]) (by kernel_rfl) (by simp) ?_
      refine AllReadyH.cons rfl (fun K hK => ?_) AllReadyH.nil
      go_simp
      refine (banOf_1 a t _).mono ?_
      rintro e w6 ⟨rfl, bw⟩
      have hb6 := hbt hb5 bw
      have HBv1_6 := hblk HBv1_5 bw
      clear hb5 HBv1_5 bw
      have hS6 : w6.heap[qv1]? = some (.cells #[.int .i64 1, .string a, .string b, .int .i64 t] 69) := HBv1_6.out
      refine hK.out _ _ hS6 (fun _ => ?_)
      clear hK K hS5
      refine tkP 17 (.bool false) 23 rfl rfl hS6 ?_
      go_frame
      refine tkP 18 (.bool false) 24 rfl rfl hS6 ?_
      go_frame
      refine tkP 19 (.bool false) 2 rfl rfl hS6 ?_
      go_frame
      clear hS6
      refine wpAnyH_done (by kernel_rfl) ?_ _
      go_wp2_with fail
      go_ret
      refine ⟨false, rfl, ?_, hb6⟩
      have zHur := Hur.out
      have zHut := Hut.out
      have zHB := HB0.out
      unfold BanP
      simp_all

set_option maxHeartbeats 8000000 in
set_option maxRecDepth 100000 in
theorem implBanOk_2e (a : ByteArray) (t : Int) (w : World) (ha : a.size ≤ maxLen) :
    Calls Tryz.prog 76 #[.agg #[.int .i64 2, .string a, .string ⟨#[]⟩, .int .i64 t]] w fun e w' => BoolIs (BanP 2 a ⟨#[]⟩ t) w e w' := by
  classical
  have HAM : Hid (a.size ≤ maxLen) := ha
  have hnn : ∀ W : World, (binOp .neq 156 (.iface 181 (.agg #[.string a])) .nilIface).run Tryz.prog W = .ok (.bool true) W := fun _ => by kernel_rfl
  have hna : ∀ W : World, (nilAhead 157 181 (.agg #[.string a]) "loop.example/g00239/impl.right").run Tryz.prog W = .ok (some false) W := fun _ => by kernel_rfl
  have hmt : ∀ W : World, (method 157 181 (.agg #[.string a]) "loop.example/g00239/impl.right").run Tryz.prog W = .ok (173, .agg #[.string a]) W := fun _ => by kernel_rfl
  have hgb := guardBan
  have hqe : ∀ W : World, (binOp .eql 69 (.agg #[.int .i64 2, .string a, .string ⟨#[]⟩, .int .i64 t]) (.agg #[.int .i64 2, .string a, .string ⟨#[]⟩, .int .i64 t])).run Tryz.prog W = .ok (.bool true) W := fun W => by
    rw [eqlBan]
    first | (simp; done) | (have z := HB0.out; simp; exact fun e => z e.symm)
  clear ha
  have hb0 : Below w.heap.size w w := Below.refl _ _
  go_enter Tryz.func76, Tryz.ntmps76
  go_upto_region 1 with fail
  obtain ⟨qv1, hqv1⟩ : ∃ q, q = (w).heap.size := ⟨_, rfl⟩
  obtain ⟨w1, hW1⟩ : ∃ W, W = (w).alloc (.cells #[.int .i64 2, .string a, .string ⟨#[]⟩, .int .i64 t] 69) := ⟨_, rfl⟩
  have hz1 : (w).heap.size = qv1 := hqv1.symm
  first | rw [← hW1, ← hqv1] | rw [← hW1]
  have hs1 : w1.heap.size = qv1 + 1 := by rw [hW1, ← hz1]; simp
  have bw : Below (w).heap.size (w) w1 := by rw [hW1]; exact (Below.refl _ _).alloc (Nat.le_refl _) _
  have hb1 := hbt hb0 bw
  have HBv1_1 : Hid ((w1).heap[qv1]? = some (.cells #[.int .i64 2, .string a, .string ⟨#[]⟩, .int .i64 t] 69)) := by show _ = _; rw [hW1, ← hz1]; exact heap_alloc_new _ _
  clear hb0 bw hW1 hz1
  clear hs1 hqv1
  have cv1_0 : (w1).cell? ⟨qv1, 0, none⟩ = some (.int .i64 2) := (cell_of HBv1_1.out 0).trans rfl
  have cv1_1 : (w1).cell? ⟨qv1, 1, none⟩ = some (.string a) := (cell_of HBv1_1.out 1).trans rfl
  have cv1_2 : (w1).cell? ⟨qv1, 2, none⟩ = some (.string ⟨#[]⟩) := (cell_of HBv1_1.out 2).trans rfl
  have cv1_3 : (w1).cell? ⟨qv1, 3, none⟩ = some (.int .i64 t) := (cell_of HBv1_1.out 3).trans rfl
  go_wp2_with fail
  refine (ruleOf_2 a ⟨#[]⟩ t _).mono ?_
  rintro e w2 ⟨rfl, bw⟩
  have hb2 := hbt hb1 bw
  have HBv1_2 := hblk HBv1_1 bw
  clear hb1 HBv1_1 bw
  clear cv1_0 cv1_1 cv1_2 cv1_3
  go_upto_region 2 with fail
  refine wp_region_held_drew (S := fun W => W.heap[qv1]? = some (.cells #[.int .i64 2, .string a, .string ⟨#[]⟩, .int .i64 t] 69)) (by kernel_rfl) HBv1_2.out (fun _ => ?_)
  obtain ⟨w3, hX⟩ : ∃ X, X = w2.drew := ⟨_, rfl⟩
  have bw : Below w2.heap.size w2 w3 := by rw [hX]; exact (Below.refl _ _).drew
  rw [← hX]
  have hb3 := hbt hb2 bw
  have HBv1_3 := hblk HBv1_2 bw
  have hS3 : w3.heap[qv1]? = some (.cells #[.int .i64 2, .string a, .string ⟨#[]⟩, .int .i64 t] 69) := HBv1_3.out
  clear hb2 HBv1_2 bw hX
  refine tkP 0 (.iface 181 (.agg #[.string a])) 6 rfl rfl hS3 ?_
  go_frame
  refine tkP 1 (.bool true) 7 rfl rfl hS3 ?_
  go_frame
  refine tkP 2 (.bool true) 8 rfl rfl hS3 ?_
  go_frame
  refine tkP 3 (.iface 181 (.agg #[.string a])) 9 rfl rfl hS3 ?_
  go_frame
  refine wpAnyH_ready (rs := [4]) (by kernel_rfl) (by simp) ?_
  refine AllReadyH.cons rfl (fun K hK => ?_) AllReadyH.nil
  go_simp
  refine (right_2 a _ HAM.out).mono ?_
  rintro e w4 ⟨ur, rfl, htur, bw⟩
  have hb4 := hbt hb3 bw
  have HBv1_4 := hblk HBv1_3 bw
  clear hb3 HBv1_3 bw
  have hS4 : w4.heap[qv1]? = some (.cells #[.int .i64 2, .string a, .string ⟨#[]⟩, .int .i64 t] 69) := HBv1_4.out
  refine hK.out _ _ hS4 (fun _ => ?_)
  clear hK K hS3
  refine tkP 5 (.bool ur) 11 rfl rfl hS4 ?_
  go_frame
  refine tkP 6 (.bool ur) 12 rfl rfl hS4 ?_
  go_frame
  cases ur with
  | false =>
    have Hur : Hid (¬ (PathOk a)) := fun h => nomatch htur.2 h
    clear htur
    refine tkN 7 13 rfl rfl hS4 ?_
    go_frame
    refine tkN 8 14 rfl rfl hS4 ?_
    go_frame
    refine tkN 9 15 rfl rfl hS4 ?_
    go_frame
    refine tkP 10 (.bool false) 16 rfl rfl hS4 ?_
    go_frame
    refine tkP 11 (.bool false) 17 rfl rfl hS4 ?_
    go_frame
    refine tkN 12 18 rfl rfl hS4 ?_
    go_frame
    refine tkN 13 19 rfl rfl hS4 ?_
    go_frame
    refine tkN 14 20 rfl rfl hS4 ?_
    go_frame
    refine tkN 15 21 rfl rfl hS4 ?_
    go_frame
    refine tkN 16 22 rfl rfl hS4 ?_
    go_frame
    refine tkN 17 23 rfl rfl hS4 ?_
    go_frame
    refine tkP 18 (.bool false) 24 rfl rfl hS4 ?_
    go_frame
    refine tkP 19 (.bool false) 2 rfl rfl hS4 ?_
    go_frame
    clear hS4
    refine wpAnyH_done (by kernel_rfl) ?_ _
    go_wp2_with fail
    go_ret
    refine ⟨false, rfl, ?_, hb4⟩
    have zHur := Hur.out
    unfold BanP
    simp_all
  | true =>
    have Hur : Hid (PathOk a) := htur.1 rfl
    clear htur
    refine tkP 7 (.pointer (some ⟨qv1, 3, none⟩)) 13 rfl rfl hS4 ?_
    go_frame
    refine tkL 8 (.int .i64 t) 14 rfl rfl (Or.inl ⟨by rfl, by intro W hW; have hhv1 := hW; have y3 := (cell_of hhv1 3).trans rfl; go_simp⟩) hS4 ?_
    go_frame
    refine wpAnyH_ready (rs := [9]) (by kernel_rfl) (by simp) ?_
    refine AllReadyH.cons rfl (fun K hK => ?_) AllReadyH.nil
    go_simp
    refine (timeOk_any t _).mono ?_
    rintro e w5 ⟨rfl, hwe⟩
    have bw : Below (w4).heap.size (w4) w5 := by rw [hwe]; exact Below.refl _ _
    clear hwe
    obtain ⟨ut, hut⟩ : ∃ u, u = decide ((0 : Int) ≤ t ∧ t ≤ 1000000) := ⟨_, rfl⟩
    rw [← hut]
    have hb5 := hbt hb4 bw
    have HBv1_5 := hblk HBv1_4 bw
    clear hb4 HBv1_4 bw
    have hS5 : w5.heap[qv1]? = some (.cells #[.int .i64 2, .string a, .string ⟨#[]⟩, .int .i64 t] 69) := HBv1_5.out
    refine hK.out _ _ hS5 (fun _ => ?_)
    clear hK K hS4
    refine tkP 10 (.bool ut) 16 rfl rfl hS5 ?_
    go_frame
    refine tkP 11 (.bool ut) 17 rfl rfl hS5 ?_
    go_frame
    cases ut with
    | false =>
      have Hut : Hid (¬ (0 ≤ t ∧ t ≤ 1000000)) := (show ¬ (0 ≤ t ∧ t ≤ 1000000) from of_decide_eq_false hut.symm)
      clear hut
      refine tkN 12 18 rfl rfl hS5 ?_
      go_frame
      refine tkN 13 19 rfl rfl hS5 ?_
      go_frame
      refine tkN 14 20 rfl rfl hS5 ?_
      go_frame
      refine tkN 15 21 rfl rfl hS5 ?_
      go_frame
      refine tkN 16 22 rfl rfl hS5 ?_
      go_frame
      refine tkN 17 23 rfl rfl hS5 ?_
      go_frame
      refine tkP 18 (.bool false) 24 rfl rfl hS5 ?_
      go_frame
      refine tkP 19 (.bool false) 2 rfl rfl hS5 ?_
      go_frame
      clear hS5
      refine wpAnyH_done (by kernel_rfl) ?_ _
      go_wp2_with fail
      go_ret
      refine ⟨false, rfl, ?_, hb5⟩
      have zHur := Hur.out
      have zHut := Hut.out
      unfold BanP
      simp_all
    | true =>
      have Hut : Hid (0 ≤ t ∧ t ≤ 1000000) := (show 0 ≤ t ∧ t ≤ 1000000 from of_decide_eq_true hut.symm)
      clear hut
      refine tkP 12 (.iface 181 (.agg #[.string a])) 18 rfl rfl hS5 ?_
      go_frame
      refine tkP 13 (.pointer (some ⟨qv1, 3, none⟩)) 19 rfl rfl hS5 ?_
      go_frame
      refine tkL 14 (.int .i64 t) 20 rfl rfl (Or.inl ⟨by rfl, by intro W hW; have hhv1 := hW; have y3 := (cell_of hhv1 3).trans rfl; go_simp⟩) hS5 ?_
      go_frame
      refine tkL 16 (.agg #[.int .i64 2, .string a, .string ⟨#[]⟩, .int .i64 t]) 22 rfl rfl (Or.inl ⟨by rfl, by intro W hW; have hhv1 := hW; have y0 := (cell_of hhv1 0).trans rfl; have y1 := (cell_of hhv1 1).trans rfl; have y2 := (cell_of hhv1 2).trans rfl; have y3 := (cell_of hhv1 3).trans rfl; go_simp⟩) hS5 ?_
      go_frame
      refine wpAnyH_ready (rs := [15]) (by kernel_rfl) (by simp) ?_
      refine AllReadyH.cons rfl (fun K hK => ?_) AllReadyH.nil
      go_simp
      refine (banOf_2 a t _).mono ?_
      rintro e w6 ⟨rfl, bw⟩
      have hb6 := hbt hb5 bw
      have HBv1_6 := hblk HBv1_5 bw
      clear hb5 HBv1_5 bw
      have hS6 : w6.heap[qv1]? = some (.cells #[.int .i64 2, .string a, .string ⟨#[]⟩, .int .i64 t] 69) := HBv1_6.out
      refine hK.out _ _ hS6 (fun _ => ?_)
      clear hK K hS5
      refine tkP 17 (.bool true) 23 rfl rfl hS6 ?_
      go_frame
      refine tkP 18 (.bool true) 24 rfl rfl hS6 ?_
      go_frame
      refine tkP 19 (.bool true) 2 rfl rfl hS6 ?_
      go_frame
      clear hS6
      refine wpAnyH_done (by kernel_rfl) ?_ _
      go_wp2_with fail
      go_ret
      refine ⟨true, rfl, ?_, hb6⟩
      have zHur := Hur.out
      have zHut := Hut.out
      unfold BanP
      simp_all

set_option maxHeartbeats 8000000 in
set_option maxRecDepth 100000 in
theorem implBanOk_2n (a b : ByteArray) (t : Int) (w : World) (ha : a.size ≤ maxLen) (hb0 : ¬ b = ⟨#[]⟩) :
    Calls Tryz.prog 76 #[.agg #[.int .i64 2, .string a, .string b, .int .i64 t]] w fun e w' => BoolIs (BanP 2 a b t) w e w' := by
  classical
  have HAM : Hid (a.size ≤ maxLen) := ha
  have HB0 : Hid (¬ b = ⟨#[]⟩) := hb0
  have hnn : ∀ W : World, (binOp .neq 156 (.iface 181 (.agg #[.string a])) .nilIface).run Tryz.prog W = .ok (.bool true) W := fun _ => by kernel_rfl
  have hna : ∀ W : World, (nilAhead 157 181 (.agg #[.string a]) "loop.example/g00239/impl.right").run Tryz.prog W = .ok (some false) W := fun _ => by kernel_rfl
  have hmt : ∀ W : World, (method 157 181 (.agg #[.string a]) "loop.example/g00239/impl.right").run Tryz.prog W = .ok (173, .agg #[.string a]) W := fun _ => by kernel_rfl
  have hgb := guardBan
  have hqe : ∀ W : World, (binOp .eql 69 (.agg #[.int .i64 2, .string a, .string ⟨#[]⟩, .int .i64 t]) (.agg #[.int .i64 2, .string a, .string b, .int .i64 t])).run Tryz.prog W = .ok (.bool false) W := fun W => by
    rw [eqlBan]
    first | (simp; done) | (have z := HB0.out; simp; exact fun e => z e.symm)
  clear ha hb0
  have hb0 : Below w.heap.size w w := Below.refl _ _
  go_enter Tryz.func76, Tryz.ntmps76
  go_upto_region 1 with fail
  obtain ⟨qv1, hqv1⟩ : ∃ q, q = (w).heap.size := ⟨_, rfl⟩
  obtain ⟨w1, hW1⟩ : ∃ W, W = (w).alloc (.cells #[.int .i64 2, .string a, .string b, .int .i64 t] 69) := ⟨_, rfl⟩
  have hz1 : (w).heap.size = qv1 := hqv1.symm
  first | rw [← hW1, ← hqv1] | rw [← hW1]
  have hs1 : w1.heap.size = qv1 + 1 := by rw [hW1, ← hz1]; simp
  have bw : Below (w).heap.size (w) w1 := by rw [hW1]; exact (Below.refl _ _).alloc (Nat.le_refl _) _
  have hb1 := hbt hb0 bw
  have HBv1_1 : Hid ((w1).heap[qv1]? = some (.cells #[.int .i64 2, .string a, .string b, .int .i64 t] 69)) := by show _ = _; rw [hW1, ← hz1]; exact heap_alloc_new _ _
  clear hb0 bw hW1 hz1
  clear hs1 hqv1
  have cv1_0 : (w1).cell? ⟨qv1, 0, none⟩ = some (.int .i64 2) := (cell_of HBv1_1.out 0).trans rfl
  have cv1_1 : (w1).cell? ⟨qv1, 1, none⟩ = some (.string a) := (cell_of HBv1_1.out 1).trans rfl
  have cv1_2 : (w1).cell? ⟨qv1, 2, none⟩ = some (.string b) := (cell_of HBv1_1.out 2).trans rfl
  have cv1_3 : (w1).cell? ⟨qv1, 3, none⟩ = some (.int .i64 t) := (cell_of HBv1_1.out 3).trans rfl
  go_wp2_with fail
  refine (ruleOf_2 a b t _).mono ?_
  rintro e w2 ⟨rfl, bw⟩
  have hb2 := hbt hb1 bw
  have HBv1_2 := hblk HBv1_1 bw
  clear hb1 HBv1_1 bw
  clear cv1_0 cv1_1 cv1_2 cv1_3
  go_upto_region 2 with fail
  refine wp_region_held_drew (S := fun W => W.heap[qv1]? = some (.cells #[.int .i64 2, .string a, .string b, .int .i64 t] 69)) (by kernel_rfl) HBv1_2.out (fun _ => ?_)
  obtain ⟨w3, hX⟩ : ∃ X, X = w2.drew := ⟨_, rfl⟩
  have bw : Below w2.heap.size w2 w3 := by rw [hX]; exact (Below.refl _ _).drew
  rw [← hX]
  have hb3 := hbt hb2 bw
  have HBv1_3 := hblk HBv1_2 bw
  have hS3 : w3.heap[qv1]? = some (.cells #[.int .i64 2, .string a, .string b, .int .i64 t] 69) := HBv1_3.out
  clear hb2 HBv1_2 bw hX
  refine tkP 0 (.iface 181 (.agg #[.string a])) 6 rfl rfl hS3 ?_
  go_frame
  refine tkP 1 (.bool true) 7 rfl rfl hS3 ?_
  go_frame
  refine tkP 2 (.bool true) 8 rfl rfl hS3 ?_
  go_frame
  refine tkP 3 (.iface 181 (.agg #[.string a])) 9 rfl rfl hS3 ?_
  go_frame
  refine wpAnyH_ready (rs := [4]) (by kernel_rfl) (by simp) ?_
  refine AllReadyH.cons rfl (fun K hK => ?_) AllReadyH.nil
  go_simp
  refine (right_2 a _ HAM.out).mono ?_
  rintro e w4 ⟨ur, rfl, htur, bw⟩
  have hb4 := hbt hb3 bw
  have HBv1_4 := hblk HBv1_3 bw
  clear hb3 HBv1_3 bw
  have hS4 : w4.heap[qv1]? = some (.cells #[.int .i64 2, .string a, .string b, .int .i64 t] 69) := HBv1_4.out
  refine hK.out _ _ hS4 (fun _ => ?_)
  clear hK K hS3
  refine tkP 5 (.bool ur) 11 rfl rfl hS4 ?_
  go_frame
  refine tkP 6 (.bool ur) 12 rfl rfl hS4 ?_
  go_frame
  cases ur with
  | false =>
    have Hur : Hid (¬ (PathOk a)) := fun h => nomatch htur.2 h
    clear htur
    refine tkN 7 13 rfl rfl hS4 ?_
    go_frame
    refine tkN 8 14 rfl rfl hS4 ?_
    go_frame
    refine tkN 9 15 rfl rfl hS4 ?_
    go_frame
    refine tkP 10 (.bool false) 16 rfl rfl hS4 ?_
    go_frame
    refine tkP 11 (.bool false) 17 rfl rfl hS4 ?_
    go_frame
    refine tkN 12 18 rfl rfl hS4 ?_
    go_frame
    refine tkN 13 19 rfl rfl hS4 ?_
    go_frame
    refine tkN 14 20 rfl rfl hS4 ?_
    go_frame
    refine tkN 15 21 rfl rfl hS4 ?_
    go_frame
    refine tkN 16 22 rfl rfl hS4 ?_
    go_frame
    refine tkN 17 23 rfl rfl hS4 ?_
    go_frame
    refine tkP 18 (.bool false) 24 rfl rfl hS4 ?_
    go_frame
    refine tkP 19 (.bool false) 2 rfl rfl hS4 ?_
    go_frame
    clear hS4
    refine wpAnyH_done (by kernel_rfl) ?_ _
    go_wp2_with fail
    go_ret
    refine ⟨false, rfl, ?_, hb4⟩
    have zHur := Hur.out
    have zHB := HB0.out
    unfold BanP
    simp_all
  | true =>
    have Hur : Hid (PathOk a) := htur.1 rfl
    clear htur
    refine tkP 7 (.pointer (some ⟨qv1, 3, none⟩)) 13 rfl rfl hS4 ?_
    go_frame
    refine tkL 8 (.int .i64 t) 14 rfl rfl (Or.inl ⟨by rfl, by intro W hW; have hhv1 := hW; have y3 := (cell_of hhv1 3).trans rfl; go_simp⟩) hS4 ?_
    go_frame
    refine wpAnyH_ready (rs := [9]) (by kernel_rfl) (by simp) ?_
    refine AllReadyH.cons rfl (fun K hK => ?_) AllReadyH.nil
    go_simp
    refine (timeOk_any t _).mono ?_
    rintro e w5 ⟨rfl, hwe⟩
    have bw : Below (w4).heap.size (w4) w5 := by rw [hwe]; exact Below.refl _ _
    clear hwe
    obtain ⟨ut, hut⟩ : ∃ u, u = decide ((0 : Int) ≤ t ∧ t ≤ 1000000) := ⟨_, rfl⟩
    rw [← hut]
    have hb5 := hbt hb4 bw
    have HBv1_5 := hblk HBv1_4 bw
    clear hb4 HBv1_4 bw
    have hS5 : w5.heap[qv1]? = some (.cells #[.int .i64 2, .string a, .string b, .int .i64 t] 69) := HBv1_5.out
    refine hK.out _ _ hS5 (fun _ => ?_)
    clear hK K hS4
    refine tkP 10 (.bool ut) 16 rfl rfl hS5 ?_
    go_frame
    refine tkP 11 (.bool ut) 17 rfl rfl hS5 ?_
    go_frame
    cases ut with
    | false =>
      have Hut : Hid (¬ (0 ≤ t ∧ t ≤ 1000000)) := (show ¬ (0 ≤ t ∧ t ≤ 1000000) from of_decide_eq_false hut.symm)
      clear hut
      refine tkN 12 18 rfl rfl hS5 ?_
      go_frame
      refine tkN 13 19 rfl rfl hS5 ?_
      go_frame
      refine tkN 14 20 rfl rfl hS5 ?_
      go_frame
      refine tkN 15 21 rfl rfl hS5 ?_
      go_frame
      refine tkN 16 22 rfl rfl hS5 ?_
      go_frame
      refine tkN 17 23 rfl rfl hS5 ?_
      go_frame
      refine tkP 18 (.bool false) 24 rfl rfl hS5 ?_
      go_frame
      refine tkP 19 (.bool false) 2 rfl rfl hS5 ?_
      go_frame
      clear hS5
      refine wpAnyH_done (by kernel_rfl) ?_ _
      go_wp2_with fail
      go_ret
      refine ⟨false, rfl, ?_, hb5⟩
      have zHur := Hur.out
      have zHut := Hut.out
      have zHB := HB0.out
      unfold BanP
      simp_all
    | true =>
      have Hut : Hid (0 ≤ t ∧ t ≤ 1000000) := (show 0 ≤ t ∧ t ≤ 1000000 from of_decide_eq_true hut.symm)
      clear hut
      refine tkP 12 (.iface 181 (.agg #[.string a])) 18 rfl rfl hS5 ?_
      go_frame
      refine tkP 13 (.pointer (some ⟨qv1, 3, none⟩)) 19 rfl rfl hS5 ?_
      go_frame
      refine tkL 14 (.int .i64 t) 20 rfl rfl (Or.inl ⟨by rfl, by intro W hW; have hhv1 := hW; have y3 := (cell_of hhv1 3).trans rfl; go_simp⟩) hS5 ?_
      go_frame
      refine tkL 16 (.agg #[.int .i64 2, .string a, .string b, .int .i64 t]) 22 rfl rfl (Or.inl ⟨by rfl, by intro W hW; have hhv1 := hW; have y0 := (cell_of hhv1 0).trans rfl; have y1 := (cell_of hhv1 1).trans rfl; have y2 := (cell_of hhv1 2).trans rfl; have y3 := (cell_of hhv1 3).trans rfl; go_simp⟩) hS5 ?_
      go_frame
      refine wpAnyH_ready (rs := [15]) (by kernel_rfl) (by simp) ?_
      refine AllReadyH.cons rfl (fun K hK => ?_) AllReadyH.nil
      go_simp
      refine (banOf_2 a t _).mono ?_
      rintro e w6 ⟨rfl, bw⟩
      have hb6 := hbt hb5 bw
      have HBv1_6 := hblk HBv1_5 bw
      clear hb5 HBv1_5 bw
      have hS6 : w6.heap[qv1]? = some (.cells #[.int .i64 2, .string a, .string b, .int .i64 t] 69) := HBv1_6.out
      refine hK.out _ _ hS6 (fun _ => ?_)
      clear hK K hS5
      refine tkP 17 (.bool false) 23 rfl rfl hS6 ?_
      go_frame
      refine tkP 18 (.bool false) 24 rfl rfl hS6 ?_
      go_frame
      refine tkP 19 (.bool false) 2 rfl rfl hS6 ?_
      go_frame
      clear hS6
      refine wpAnyH_done (by kernel_rfl) ?_ _
      go_wp2_with fail
      go_ret
      refine ⟨false, rfl, ?_, hb6⟩
      have zHur := Hur.out
      have zHut := Hut.out
      have zHB := HB0.out
      unfold BanP
      simp_all

set_option maxHeartbeats 8000000 in
set_option maxRecDepth 100000 in
theorem implBanOk_3 (a b : ByteArray) (t : Int) (w : World) (ha : a.size ≤ maxLen) (hb : b.size ≤ maxLen) :
    Calls Tryz.prog 76 #[.agg #[.int .i64 3, .string a, .string b, .int .i64 t]] w fun e w' => BoolIs (BanP 3 a b t) w e w' := by
  classical
  have HAM : Hid (a.size ≤ maxLen) := ha
  have HBM : Hid (b.size ≤ maxLen) := hb
  have hnn : ∀ W : World, (binOp .neq 156 (.iface 183 (.agg #[.string a, .string b])) .nilIface).run Tryz.prog W = .ok (.bool true) W := fun _ => by kernel_rfl
  have hna : ∀ W : World, (nilAhead 157 183 (.agg #[.string a, .string b]) "loop.example/g00239/impl.right").run Tryz.prog W = .ok (some false) W := fun _ => by kernel_rfl
  have hmt : ∀ W : World, (method 157 183 (.agg #[.string a, .string b]) "loop.example/g00239/impl.right").run Tryz.prog W = .ok (177, .agg #[.string a, .string b]) W := fun _ => by kernel_rfl
  have hgb := guardBan
  have hqe : ∀ W : World, (binOp .eql 69 (.agg #[.int .i64 3, .string a, .string b, .int .i64 t]) (.agg #[.int .i64 3, .string a, .string b, .int .i64 t])).run Tryz.prog W = .ok (.bool true) W := fun W => by
    rw [eqlBan]
    first | (simp; done) | (have z := HB0.out; simp; exact fun e => z e.symm)
  clear ha hb
  have hb0 : Below w.heap.size w w := Below.refl _ _
  go_enter Tryz.func76, Tryz.ntmps76
  go_upto_region 1 with fail
  obtain ⟨qv1, hqv1⟩ : ∃ q, q = (w).heap.size := ⟨_, rfl⟩
  obtain ⟨w1, hW1⟩ : ∃ W, W = (w).alloc (.cells #[.int .i64 3, .string a, .string b, .int .i64 t] 69) := ⟨_, rfl⟩
  have hz1 : (w).heap.size = qv1 := hqv1.symm
  first | rw [← hW1, ← hqv1] | rw [← hW1]
  have hs1 : w1.heap.size = qv1 + 1 := by rw [hW1, ← hz1]; simp
  have bw : Below (w).heap.size (w) w1 := by rw [hW1]; exact (Below.refl _ _).alloc (Nat.le_refl _) _
  have hb1 := hbt hb0 bw
  have HBv1_1 : Hid ((w1).heap[qv1]? = some (.cells #[.int .i64 3, .string a, .string b, .int .i64 t] 69)) := by show _ = _; rw [hW1, ← hz1]; exact heap_alloc_new _ _
  clear hb0 bw hW1 hz1
  clear hs1 hqv1
  have cv1_0 : (w1).cell? ⟨qv1, 0, none⟩ = some (.int .i64 3) := (cell_of HBv1_1.out 0).trans rfl
  have cv1_1 : (w1).cell? ⟨qv1, 1, none⟩ = some (.string a) := (cell_of HBv1_1.out 1).trans rfl
  have cv1_2 : (w1).cell? ⟨qv1, 2, none⟩ = some (.string b) := (cell_of HBv1_1.out 2).trans rfl
  have cv1_3 : (w1).cell? ⟨qv1, 3, none⟩ = some (.int .i64 t) := (cell_of HBv1_1.out 3).trans rfl
  go_wp2_with fail
  refine (ruleOf_3 a b t _).mono ?_
  rintro e w2 ⟨rfl, bw⟩
  have hb2 := hbt hb1 bw
  have HBv1_2 := hblk HBv1_1 bw
  clear hb1 HBv1_1 bw
  clear cv1_0 cv1_1 cv1_2 cv1_3
  go_upto_region 2 with fail
  refine wp_region_held_drew (S := fun W => W.heap[qv1]? = some (.cells #[.int .i64 3, .string a, .string b, .int .i64 t] 69)) (by kernel_rfl) HBv1_2.out (fun _ => ?_)
  obtain ⟨w3, hX⟩ : ∃ X, X = w2.drew := ⟨_, rfl⟩
  have bw : Below w2.heap.size w2 w3 := by rw [hX]; exact (Below.refl _ _).drew
  rw [← hX]
  have hb3 := hbt hb2 bw
  have HBv1_3 := hblk HBv1_2 bw
  have hS3 : w3.heap[qv1]? = some (.cells #[.int .i64 3, .string a, .string b, .int .i64 t] 69) := HBv1_3.out
  clear hb2 HBv1_2 bw hX
  refine tkP 0 (.iface 183 (.agg #[.string a, .string b])) 6 rfl rfl hS3 ?_
  go_frame
  refine tkP 1 (.bool true) 7 rfl rfl hS3 ?_
  go_frame
  refine tkP 2 (.bool true) 8 rfl rfl hS3 ?_
  go_frame
  refine tkP 3 (.iface 183 (.agg #[.string a, .string b])) 9 rfl rfl hS3 ?_
  go_frame
  refine wpAnyH_ready (rs := [4]) (by kernel_rfl) (by simp) ?_
  refine AllReadyH.cons rfl (fun K hK => ?_) AllReadyH.nil
  go_simp
  refine (right_3 a b _ HAM.out HBM.out).mono ?_
  rintro e w4 ⟨ur, rfl, htur, bw⟩
  have hb4 := hbt hb3 bw
  have HBv1_4 := hblk HBv1_3 bw
  clear hb3 HBv1_3 bw
  have hS4 : w4.heap[qv1]? = some (.cells #[.int .i64 3, .string a, .string b, .int .i64 t] 69) := HBv1_4.out
  refine hK.out _ _ hS4 (fun _ => ?_)
  clear hK K hS3
  refine tkP 5 (.bool ur) 11 rfl rfl hS4 ?_
  go_frame
  refine tkP 6 (.bool ur) 12 rfl rfl hS4 ?_
  go_frame
  cases ur with
  | false =>
    have Hur : Hid (¬ (TokOk a ∧ ValOk b)) := fun h => nomatch htur.2 h
    clear htur
    refine tkN 7 13 rfl rfl hS4 ?_
    go_frame
    refine tkN 8 14 rfl rfl hS4 ?_
    go_frame
    refine tkN 9 15 rfl rfl hS4 ?_
    go_frame
    refine tkP 10 (.bool false) 16 rfl rfl hS4 ?_
    go_frame
    refine tkP 11 (.bool false) 17 rfl rfl hS4 ?_
    go_frame
    refine tkN 12 18 rfl rfl hS4 ?_
    go_frame
    refine tkN 13 19 rfl rfl hS4 ?_
    go_frame
    refine tkN 14 20 rfl rfl hS4 ?_
    go_frame
    refine tkN 15 21 rfl rfl hS4 ?_
    go_frame
    refine tkN 16 22 rfl rfl hS4 ?_
    go_frame
    refine tkN 17 23 rfl rfl hS4 ?_
    go_frame
    refine tkP 18 (.bool false) 24 rfl rfl hS4 ?_
    go_frame
    refine tkP 19 (.bool false) 2 rfl rfl hS4 ?_
    go_frame
    clear hS4
    refine wpAnyH_done (by kernel_rfl) ?_ _
    go_wp2_with fail
    go_ret
    refine ⟨false, rfl, ?_, hb4⟩
    have zHur := Hur.out
    unfold BanP
    simp_all
  | true =>
    have Hur : Hid (TokOk a ∧ ValOk b) := htur.1 rfl
    clear htur
    refine tkP 7 (.pointer (some ⟨qv1, 3, none⟩)) 13 rfl rfl hS4 ?_
    go_frame
    refine tkL 8 (.int .i64 t) 14 rfl rfl (Or.inl ⟨by rfl, by intro W hW; have hhv1 := hW; have y3 := (cell_of hhv1 3).trans rfl; go_simp⟩) hS4 ?_
    go_frame
    refine wpAnyH_ready (rs := [9]) (by kernel_rfl) (by simp) ?_
    refine AllReadyH.cons rfl (fun K hK => ?_) AllReadyH.nil
    go_simp
    refine (timeOk_any t _).mono ?_
    rintro e w5 ⟨rfl, hwe⟩
    have bw : Below (w4).heap.size (w4) w5 := by rw [hwe]; exact Below.refl _ _
    clear hwe
    obtain ⟨ut, hut⟩ : ∃ u, u = decide ((0 : Int) ≤ t ∧ t ≤ 1000000) := ⟨_, rfl⟩
    rw [← hut]
    have hb5 := hbt hb4 bw
    have HBv1_5 := hblk HBv1_4 bw
    clear hb4 HBv1_4 bw
    have hS5 : w5.heap[qv1]? = some (.cells #[.int .i64 3, .string a, .string b, .int .i64 t] 69) := HBv1_5.out
    refine hK.out _ _ hS5 (fun _ => ?_)
    clear hK K hS4
    refine tkP 10 (.bool ut) 16 rfl rfl hS5 ?_
    go_frame
    refine tkP 11 (.bool ut) 17 rfl rfl hS5 ?_
    go_frame
    cases ut with
    | false =>
      have Hut : Hid (¬ (0 ≤ t ∧ t ≤ 1000000)) := (show ¬ (0 ≤ t ∧ t ≤ 1000000) from of_decide_eq_false hut.symm)
      clear hut
      refine tkN 12 18 rfl rfl hS5 ?_
      go_frame
      refine tkN 13 19 rfl rfl hS5 ?_
      go_frame
      refine tkN 14 20 rfl rfl hS5 ?_
      go_frame
      refine tkN 15 21 rfl rfl hS5 ?_
      go_frame
      refine tkN 16 22 rfl rfl hS5 ?_
      go_frame
      refine tkN 17 23 rfl rfl hS5 ?_
      go_frame
      refine tkP 18 (.bool false) 24 rfl rfl hS5 ?_
      go_frame
      refine tkP 19 (.bool false) 2 rfl rfl hS5 ?_
      go_frame
      clear hS5
      refine wpAnyH_done (by kernel_rfl) ?_ _
      go_wp2_with fail
      go_ret
      refine ⟨false, rfl, ?_, hb5⟩
      have zHur := Hur.out
      have zHut := Hut.out
      unfold BanP
      simp_all
    | true =>
      have Hut : Hid (0 ≤ t ∧ t ≤ 1000000) := (show 0 ≤ t ∧ t ≤ 1000000 from of_decide_eq_true hut.symm)
      clear hut
      refine tkP 12 (.iface 183 (.agg #[.string a, .string b])) 18 rfl rfl hS5 ?_
      go_frame
      refine tkP 13 (.pointer (some ⟨qv1, 3, none⟩)) 19 rfl rfl hS5 ?_
      go_frame
      refine tkL 14 (.int .i64 t) 20 rfl rfl (Or.inl ⟨by rfl, by intro W hW; have hhv1 := hW; have y3 := (cell_of hhv1 3).trans rfl; go_simp⟩) hS5 ?_
      go_frame
      refine tkL 16 (.agg #[.int .i64 3, .string a, .string b, .int .i64 t]) 22 rfl rfl (Or.inl ⟨by rfl, by intro W hW; have hhv1 := hW; have y0 := (cell_of hhv1 0).trans rfl; have y1 := (cell_of hhv1 1).trans rfl; have y2 := (cell_of hhv1 2).trans rfl; have y3 := (cell_of hhv1 3).trans rfl; go_simp⟩) hS5 ?_
      go_frame
      refine wpAnyH_ready (rs := [15]) (by kernel_rfl) (by simp) ?_
      refine AllReadyH.cons rfl (fun K hK => ?_) AllReadyH.nil
      go_simp
      refine (banOf_3 a b t _).mono ?_
      rintro e w6 ⟨rfl, bw⟩
      have hb6 := hbt hb5 bw
      have HBv1_6 := hblk HBv1_5 bw
      clear hb5 HBv1_5 bw
      have hS6 : w6.heap[qv1]? = some (.cells #[.int .i64 3, .string a, .string b, .int .i64 t] 69) := HBv1_6.out
      refine hK.out _ _ hS6 (fun _ => ?_)
      clear hK K hS5
      refine tkP 17 (.bool true) 23 rfl rfl hS6 ?_
      go_frame
      refine tkP 18 (.bool true) 24 rfl rfl hS6 ?_
      go_frame
      refine tkP 19 (.bool true) 2 rfl rfl hS6 ?_
      go_frame
      clear hS6
      refine wpAnyH_done (by kernel_rfl) ?_ _
      go_wp2_with fail
      go_ret
      refine ⟨true, rfl, ?_, hb6⟩
      have zHur := Hur.out
      have zHut := Hut.out
      unfold BanP
      simp_all

set_option maxHeartbeats 8000000 in
set_option maxRecDepth 100000 in
theorem implBanOk_no (k : Int) (a b : ByteArray) (t : Int) (w : World) (h1 : ¬ k = 1) (h2 : ¬ k = 2) (h3 : ¬ k = 3) :
    Calls Tryz.prog 76 #[.agg #[.int .i64 k, .string a, .string b, .int .i64 t]] w fun e w' => BoolIs (BanP k a b t) w e w' := by
  have HK1 : Hid (¬ k = 1) := h1
  have HK2 : Hid (¬ k = 2) := h2
  have HK3 : Hid (¬ k = 3) := h3
  have hnn : ∀ W : World, (binOp .neq 156 .nilIface .nilIface).run Tryz.prog W = .ok (.bool false) W := fun _ => by kernel_rfl
  clear h1 h2 h3
  have hb0 : Below w.heap.size w w := Below.refl _ _
  go_enter Tryz.func76, Tryz.ntmps76
  go_upto_region 1 with fail
  obtain ⟨qv1, hqv1⟩ : ∃ q, q = (w).heap.size := ⟨_, rfl⟩
  obtain ⟨w1, hW1⟩ : ∃ W, W = (w).alloc (.cells #[.int .i64 k, .string a, .string b, .int .i64 t] 69) := ⟨_, rfl⟩
  have hz1 : (w).heap.size = qv1 := hqv1.symm
  first | rw [← hW1, ← hqv1] | rw [← hW1]
  have hs1 : w1.heap.size = qv1 + 1 := by rw [hW1, ← hz1]; simp
  have bw : Below (w).heap.size (w) w1 := by rw [hW1]; exact (Below.refl _ _).alloc (Nat.le_refl _) _
  have hb1 := hbt hb0 bw
  have HBv1_1 : Hid ((w1).heap[qv1]? = some (.cells #[.int .i64 k, .string a, .string b, .int .i64 t] 69)) := by show _ = _; rw [hW1, ← hz1]; exact heap_alloc_new _ _
  clear hb0 bw hW1 hz1
  clear hs1 hqv1
  have cv1_0 : (w1).cell? ⟨qv1, 0, none⟩ = some (.int .i64 k) := (cell_of HBv1_1.out 0).trans rfl
  have cv1_1 : (w1).cell? ⟨qv1, 1, none⟩ = some (.string a) := (cell_of HBv1_1.out 1).trans rfl
  have cv1_2 : (w1).cell? ⟨qv1, 2, none⟩ = some (.string b) := (cell_of HBv1_1.out 2).trans rfl
  have cv1_3 : (w1).cell? ⟨qv1, 3, none⟩ = some (.int .i64 t) := (cell_of HBv1_1.out 3).trans rfl
  go_wp2_with fail
  refine (ruleOf_no k a b t _ HK1.out HK2.out HK3.out).mono ?_
  rintro e w2 ⟨rfl, bw⟩
  have hb2 := hbt hb1 bw
  have HBv1_2 := hblk HBv1_1 bw
  clear hb1 HBv1_1 bw
  clear cv1_0 cv1_1 cv1_2 cv1_3
  go_upto_region 2 with fail
  refine wp_region_held_drew (S := fun W => W.heap[qv1]? = some (.cells #[.int .i64 k, .string a, .string b, .int .i64 t] 69)) (by kernel_rfl) HBv1_2.out (fun _ => ?_)
  obtain ⟨w3, hX⟩ : ∃ X, X = w2.drew := ⟨_, rfl⟩
  have bw : Below w2.heap.size w2 w3 := by rw [hX]; exact (Below.refl _ _).drew
  rw [← hX]
  have hb3 := hbt hb2 bw
  have HBv1_3 := hblk HBv1_2 bw
  have hS3 : w3.heap[qv1]? = some (.cells #[.int .i64 k, .string a, .string b, .int .i64 t] 69) := HBv1_3.out
  clear hb2 HBv1_2 bw hX
  refine tkP 0 (.nilIface) 6 rfl rfl hS3 ?_
  go_frame
  refine tkP 1 (.bool false) 7 rfl rfl hS3 ?_
  go_frame
  refine tkP 2 (.bool false) 8 rfl rfl hS3 ?_
  go_frame
  refine tkN 3 9 rfl rfl hS3 ?_
  go_frame
  refine tkN 4 10 rfl rfl hS3 ?_
  go_frame
  refine tkP 5 (.bool false) 11 rfl rfl hS3 ?_
  go_frame
  refine tkP 6 (.bool false) 12 rfl rfl hS3 ?_
  go_frame
  refine tkN 7 13 rfl rfl hS3 ?_
  go_frame
  refine tkN 8 14 rfl rfl hS3 ?_
  go_frame
  refine tkN 9 15 rfl rfl hS3 ?_
  go_frame
  refine tkP 10 (.bool false) 16 rfl rfl hS3 ?_
  go_frame
  refine tkP 11 (.bool false) 17 rfl rfl hS3 ?_
  go_frame
  refine tkN 12 18 rfl rfl hS3 ?_
  go_frame
  refine tkN 13 19 rfl rfl hS3 ?_
  go_frame
  refine tkN 14 20 rfl rfl hS3 ?_
  go_frame
  refine tkN 15 21 rfl rfl hS3 ?_
  go_frame
  refine tkN 16 22 rfl rfl hS3 ?_
  go_frame
  refine tkN 17 23 rfl rfl hS3 ?_
  go_frame
  refine tkP 18 (.bool false) 24 rfl rfl hS3 ?_
  go_frame
  refine tkP 19 (.bool false) 2 rfl rfl hS3 ?_
  go_frame
  clear hS3
  refine wpAnyH_done (by kernel_rfl) ?_ _
  go_wp2_with fail
  go_ret
  refine BoolIs.no ?_ hb3
  intro h
  rcases h.kinds with h | h | h
  · exact HK1.out h
  · exact HK2.out h
  · exact HK3.out h

theorem implBanOk_any (k : Int) (a b : ByteArray) (t : Int) (w : World) (ha : a.size ≤ maxLen) (hb : b.size ≤ maxLen) :
    Calls Tryz.prog 76 #[.agg #[.int .i64 k, .string a, .string b, .int .i64 t]] w fun e w' => BoolIs (BanP k a b t) w e w' := by
  classical
  by_cases h1 : k = 1
  · subst h1
    by_cases h : b = ⟨#[]⟩
    · subst h; exact implBanOk_1e a t w ha
    · exact implBanOk_1n a b t w ha h
  · by_cases h2 : k = 2
    · subst h2
      by_cases h : b = ⟨#[]⟩
      · subst h; exact implBanOk_2e a t w ha
      · exact implBanOk_2n a b t w ha h
    · by_cases h3 : k = 3
      · subst h3; exact implBanOk_3 a b t w ha hb
      · exact implBanOk_no k a b t w h1 h2 h3

end Go.Proofs.YtcipbkkpkhameaaGreat
