/- What the proof of FnExactShelfOk leans on: contracts of the program's and the specification's functions, and plain facts (part 6 of 6). -/
import Derived.Test.YtcipbkkpkhameaaGreatFnExactShelfOkE
namespace Go.Proofs.YtcipbkkpkhameaaGreat
open Go.RowKit
open Go.Lib hiding intOf

/-- At most five bans, each right. -/
def BansP (bl : List (Int × ByteArray × ByteArray × Int)) : Prop := bl.length ≤ 5 ∧ ∀ x ∈ bl, BanP x.1 x.2.1 x.2.2.1 x.2.2.2
/-- The number of the one ahead, or nought. -/
def lastQ (ks : List KpD) (i : Nat) : Int := if i = 0 then 0 else (kpAt ks (i - 1)).q
theorem lastQ_succ (ks : List KpD) (i : Nat) : lastQ ks (i + 1) = (kpAt ks i).q := by unfold lastQ; rw [if_neg (by omega), Nat.add_sub_cancel]
/-- Right, but for its cell's being another's. -/
def KpA (ks : List KpD) (sq : Int) (i : Nat) : Prop := ObjK (kpAt ks i) ∧ (5 ≤ (kpAt ks i).a ∧ (kpAt ks i).a ≤ 19) ∧ lastQ ks i < (kpAt ks i).q ∧ (kpAt ks i).q < sq
theorem lastQ_ge {ks : List KpD} {sq : Int} {n : Nat} (h : ∀ m, m < n → KpA ks sq m) : ∀ i, i ≤ n → 0 ≤ lastQ ks i
  | 0, _ => by simp [lastQ]
  | i + 1, hi => by
    have h1 := lastQ_ge h i (by omega)
    have h2 := (h i (by omega)).2.2.1
    rw [lastQ_succ]
    omega
theorem kpOk_A {ks : List KpD} {sq : Int} {i : Nat} (h : KpOk ks sq i) : KpA ks sq i := by
  obtain ⟨h1, h2, h3, h4, _⟩ := h
  refine ⟨h1, h2, ?_, by omega⟩
  unfold lastQ
  split
  · omega
  · exact h4 (by omega)
theorem kpA_Ok {ks : List KpD} {sq : Int} {n i : Nat} (h : ∀ m, m < n → KpA ks sq m) (hi : i < n) (ha : ∀ j, j < i → (kpAt ks j).a ≠ (kpAt ks i).a) : KpOk ks sq i := by
  obtain ⟨h1, h2, h3, h4⟩ := h i hi
  have h5 := lastQ_ge h i (by omega)
  refine ⟨h1, h2, by omega, fun h0 => ?_, ha⟩
  unfold lastQ at h3
  rw [if_neg (by omega)] at h3
  exact h3
theorem apart_at {kv : List (KpD × Value × Value × Value)} : ApartA kv ↔ ∀ i, i < kv.length → ∀ j, j < i → (kpAt (kv.map (·.1)) j).a ≠ (kpAt (kv.map (·.1)) i).a := by
  have e : ∀ i (hi : i < kv.length), kpAt (kv.map (·.1)) i = (kv[i]'hi).1 := fun i hi => by
    rw [← kpAt_get _ i (by rw [List.length_map]; exact hi)]
    simp
  unfold ApartA
  rw [List.pairwise_iff_getElem]
  constructor
  · intro h i hi j hj
    rw [e i hi, e j (by omega)]
    exact h j i (by omega) hi hj
  · intro h i j hi hj hij
    have h2 := h j hj i hij
    rw [e j hj, e i hi] at h2
    exact h2
set_option maxHeartbeats 8000000 in
set_option maxRecDepth 100000 in
theorem keptOk_any (V : Value) (kv : List (KpD × Value × Value × Value)) (sq : Int) (B : Nat) (w : World) (h : KeptsO w B V kv) (hn : kv.length ≤ 1048576) (hs : ∀ x ∈ kv, KpSmall x.1) :
    Calls Tryz.prog 32 #[V, .int .i64 sq] w fun e w' => BoolIs (∀ m, m < kv.length → KpOk (kv.map (·.1)) sq m) w e w' := by
  obtain ⟨o3, c3, e3⟩ := slice_of_owns h.row
  subst e3
  obtain ⟨n3, hn3⟩ : ∃ n, n = kv.length := ⟨_, rfl⟩
  rw [← hn3] at h ⊢
  obtain ⟨ks, hks⟩ : ∃ ks, ks = kv.map (·.1) := ⟨_, rfl⟩
  have HKS : Hid (kv.map (·.1) = ks) := hks.symm
  have HLK : Hid (kv.length = n3) := hn3.symm
  have bn3 : n3 ≤ 1048576 := by rw [hn3]; exact hn
  have HKP : Hid (∀ W, Below w.heap.size w W → KeptsO W B (.slice o3 n3 c3) kv) := fun W hb => KeptsO.below h hb
  clear hn3 hks h hn
  have HSM : Hid (∀ x ∈ kv, KpSmall x.1) := hs
  clear hs
  have hb0 : Below w.heap.size w w := Below.refl _ _
  go_enter Tryz.func32, Tryz.ntmps32
  go_wp2_with fail
  go_loopw [5, 10] (fun l i wr => ∃ i' : Nat, i' ≤ n3 ∧ l = .int .i64 (lastQ ks i') ∧ i = .int .i64 (i' : Int) ∧ Hid (Below w.heap.size w (wr)) ∧ Hid (∀ m, m < i' → KpA ks sq m)) (fun _ i _ => n3 - (intOf i).toNat)
  case atStart => exact ⟨0, Nat.zero_le _, rfl, rfl, hb0, fun m hm => absurd hm (by omega)⟩
  case round =>
    obtain ⟨i, hi, rfl, rfl, HW, HN⟩ := hrel
    by_cases hlt : (i : Int) < (n3 : Int)
    · have hb1 := HW.out
      clear HW hb0
      obtain ⟨g3, p3, hV, _, _⟩ := (HKP.out _ hb1).look i (by rw [HLK.out]; omega)
      rw [HLK.out] at hV
      injection hV with hV1 hV2 hV3
      subst hV1 hV3
      clear hV2
      obtain ⟨xX, hxX⟩ : ∃ x, x = kvAt kv i := ⟨_, rfl⟩
      have HMx : Hid (xX ∈ kv) := by show _ ∈ _; rw [hxX]; exact kvAt_mem kv i (by rw [HLK.out]; omega)
      have HEx : Hid (kpAt ks i = xX.1) := by show _ = _; rw [hxX, ← HKS.out]; exact (kvAt_fst kv i (by rw [HLK.out]; omega)).symm
      have HTKx : Hid (kv.take (i + 1) = kv.take i ++ [xX]) := by show _ = _; rw [hxX]; exact kvAt_take kv i (by rw [HLK.out]; omega)
      have HKx : Hid (∀ W, Below w.heap.size w W → KpAt W g3 i xX) := fun W hb => by
        obtain ⟨g', p', hV, _, hc⟩ := (HKP.out W hb).look i (by rw [HLK.out]; omega)
        injection hV with hV1 _ _
        cases hV1
        rw [hxX]
        exact hc
      clear hxX
      obtain ⟨x, kuv1, kuv2, kuv3⟩ := xX
      obtain ⟨ku1, kuc1, hu⟩ := slice_of_owns ((HKP.out _ hb1).names HMx.out)
      have hu' : kuv1 = .slice ku1 x.xs.length kuc1 := hu
      subst hu'
      clear hu
      obtain ⟨ku2, kuc2, hu⟩ := slice_of_owns ((HKP.out _ hb1).vals HMx.out)
      have hu' : kuv2 = .slice ku2 x.ys.length kuc2 := hu
      subst hu'
      clear hu
      obtain ⟨ku3, kuc3, hu⟩ := slice_of_owns ((HKP.out _ hb1).flds HMx.out)
      have hu' : kuv3 = .slice ku3 x.fs.length kuc3 := hu
      subst hu'
      clear hu
      have r0x := (HKx.out _ hb1).c0
      have r1x := (HKx.out _ hb1).c1
      have r2x := (HKx.out _ hb1).c2
      have r3x := (HKx.out _ hb1).c3
      have r4x := (HKx.out _ hb1).c4
      have r5x := (HKx.out _ hb1).c5
      have r6x := (HKx.out _ hb1).c6
      have r7x := (HKx.out _ hb1).c7
      have r8x := (HKx.out _ hb1).c8
      dsimp only at r0x r1x r2x r3x r4x r5x r6x r7x r8x
      go_upto_region 5 with fail
      obtain ⟨qv1, hqv1⟩ : ∃ q, q = (wr).heap.size := ⟨_, rfl⟩
      obtain ⟨w2, hW2⟩ : ∃ W, W = (wr).alloc (.cells #[.string x.p, .slice ku1 x.xs.length kuc1, .slice ku2 x.ys.length kuc2, .int .i64 x.st, .slice ku3 x.fs.length kuc3, .string x.b, .int .i64 x.t, .int .i64 x.a, .int .i64 x.q] 71) := ⟨_, rfl⟩
      have hz2 : (wr).heap.size = qv1 := hqv1.symm
      first | rw [← hW2, ← hqv1] | rw [← hW2]
      have hs2 : w2.heap.size = qv1 + 1 := by rw [hW2, ← hz2]; simp
      have bw : Below (wr).heap.size (wr) w2 := by rw [hW2]; exact (Below.refl _ _).alloc (Nat.le_refl _) _
      have hb2 : Below w.heap.size w (w2) := hb1.trans (bw.mono hb1.size)
      have HM2 : Hid ((wr).heap.size ≤ (w2).heap.size) := bw.size
      have HBv1_2 : Hid ((w2).heap[qv1]? = some (.cells #[.string x.p, .slice ku1 x.xs.length kuc1, .slice ku2 x.ys.length kuc2, .int .i64 x.st, .slice ku3 x.fs.length kuc3, .string x.b, .int .i64 x.t, .int .i64 x.a, .int .i64 x.q] 71)) := by show _ = _; rw [hW2, ← hz2]; exact heap_alloc_new _ _
      clear hb1 bw hW2 hz2
      clear hs2 hqv1
      clear r0x r1x r2x r3x r4x r5x r6x r7x r8x
      have cv1_0 : (w2).cell? ⟨qv1, 0, none⟩ = some (.string x.p) := (cell_of HBv1_2.out 0).trans rfl
      have cv1_1 : (w2).cell? ⟨qv1, 1, none⟩ = some (.slice ku1 x.xs.length kuc1) := (cell_of HBv1_2.out 1).trans rfl
      have cv1_2 : (w2).cell? ⟨qv1, 2, none⟩ = some (.slice ku2 x.ys.length kuc2) := (cell_of HBv1_2.out 2).trans rfl
      have cv1_3 : (w2).cell? ⟨qv1, 3, none⟩ = some (.int .i64 x.st) := (cell_of HBv1_2.out 3).trans rfl
      have cv1_4 : (w2).cell? ⟨qv1, 4, none⟩ = some (.slice ku3 x.fs.length kuc3) := (cell_of HBv1_2.out 4).trans rfl
      have cv1_5 : (w2).cell? ⟨qv1, 5, none⟩ = some (.string x.b) := (cell_of HBv1_2.out 5).trans rfl
      have cv1_6 : (w2).cell? ⟨qv1, 6, none⟩ = some (.int .i64 x.t) := (cell_of HBv1_2.out 6).trans rfl
      go_wp2_with fail
      refine (implObjOk_k x _ _ _ _ ((HKP.out _ hb2).read HMx.out) (HSM.out _ HMx.out)).mono ?_
      rintro e w3 ⟨uo, rfl, huo, bw⟩
      have hb3 : Below w.heap.size w (w3) := hb2.trans (bw.mono hb2.size)
      have HBv1_3 : Hid ((w3).heap[qv1]? = some (.cells #[.string x.p, .slice ku1 x.xs.length kuc1, .slice ku2 x.ys.length kuc2, .int .i64 x.st, .slice ku3 x.fs.length kuc3, .string x.b, .int .i64 x.t, .int .i64 x.a, .int .i64 x.q] 71)) := blk_below HBv1_2.out bw
      clear hb2 HBv1_2 bw
      clear cv1_0 cv1_1 cv1_2 cv1_3 cv1_4 cv1_5 cv1_6
      cases uo with
      | false =>
        have HNuo : Hid (¬ (ObjK x)) := fun h => nomatch huo.2 h
        clear huo
        go_wp2_with fail
        go_ret
        exact BoolIs.no (fun h => by have hk := h i (by omega); rw [HKS.out] at hk; have hA := kpOk_A hk; unfold KpA at hA; rw [HEx.out] at hA; exact HNuo.out hA.1) hb3
      | true =>
        have HYuo : Hid (ObjK x) := huo.1 rfl
        clear huo
        have cv1_7 : (w3).cell? ⟨qv1, 7, none⟩ = some (.int .i64 x.a) := (cell_of HBv1_3.out 7).trans rfl
        go_wp2_with fail
        refine (isObjectCell_any x.a _).mono ?_
        rintro e w4 ⟨uka, rfl, huka, bw⟩
        have hb4 : Below w.heap.size w (w4) := hb3.trans (bw.mono hb3.size)
        have HBv1_4 : Hid ((w4).heap[qv1]? = some (.cells #[.string x.p, .slice ku1 x.xs.length kuc1, .slice ku2 x.ys.length kuc2, .int .i64 x.st, .slice ku3 x.fs.length kuc3, .string x.b, .int .i64 x.t, .int .i64 x.a, .int .i64 x.q] 71)) := blk_below HBv1_3.out bw
        clear hb3 HBv1_3 bw
        clear cv1_7
        cases uka with
        | false =>
          have HNuka : Hid (¬ (5 ≤ x.a ∧ x.a ≤ 19)) := fun h => nomatch huka.2 h
          clear huka
          go_wp2_with fail
          go_ret
          exact BoolIs.no (fun h => by have hk := h i (by omega); rw [HKS.out] at hk; have hA := kpOk_A hk; unfold KpA at hA; rw [HEx.out] at hA; exact HNuka.out hA.2.1) hb4
        | true =>
          have HYuka : Hid (5 ≤ x.a ∧ x.a ≤ 19) := huka.1 rfl
          clear huka
          by_cases hc1 : x.q ≤ (lastQ ks i)
          · have HLQ : Hid (x.q ≤ lastQ ks i) := hc1
            have cv1_8 : (w4).cell? ⟨qv1, 8, none⟩ = some (.int .i64 x.q) := (cell_of HBv1_4.out 8).trans rfl
            go_wp2_with fail
            go_ret
            exact BoolIs.no (fun h => by have hk := h i (by omega); rw [HKS.out] at hk; have hA := kpOk_A hk; unfold KpA at hA; rw [HEx.out] at hA; have h2 := HLQ.out; omega) hb4
          · have HLQ : Hid (¬ x.q ≤ lastQ ks i) := hc1
            have cv1_8 : (w4).cell? ⟨qv1, 8, none⟩ = some (.int .i64 x.q) := (cell_of HBv1_4.out 8).trans rfl
            by_cases hc2 : sq ≤ x.q
            · have HGQ : Hid (sq ≤ x.q) := hc2
              go_wp2_with fail
              go_ret
              exact BoolIs.no (fun h => by have hk := h i (by omega); rw [HKS.out] at hk; have hA := kpOk_A hk; unfold KpA at hA; rw [HEx.out] at hA; have h2 := HGQ.out; omega) hb4
            · have HGQ : Hid (¬ sq ≤ x.q) := hc2
              have HN2 : Hid (∀ m, m < i + 1 → KpA ks sq m) := fun m hm => by
                by_cases e : m = i
                · subst e
                  unfold KpA
                  rw [HEx.out]
                  have h1 := HLQ.out
                  have h2 := HGQ.out
                  exact ⟨HYuo.out, HYuka.out, by omega, by omega⟩
                · exact HN.out m (by omega)
              have HLS : Hid (x.q = lastQ ks (i + 1)) := by show _ = _; rw [lastQ_succ, HEx.out]
              go_wp2_with fail
              go_roundw
              case rel => exact ⟨i + 1, by omega, congrArg (Value.int .i64) HLS.out, by go_num, hb4, HN2⟩
              case measure => simp [intOf]; omega
    · have hb1 := HW.out
      clear HW hb0
      have HKA : Hid (∀ m, m < n3 → KpA ks sq m) := fun m hm => HN.out m (by omega)
      have HAB : Hid (∀ x ∈ kv, 0 ≤ x.1.a ∧ x.1.a ≤ 1000) := fun x hx => by
        obtain ⟨j, hj, e⟩ := List.getElem_of_mem hx
        have h2 := (HKA.out j (by rw [← HLK.out]; exact hj)).2.1
        rw [← HKS.out, ← kvAt_fst kv j hj, ← kvAt_get kv j hj, e] at h2
        omega
      clear HN
      go_wp2_with fail
      refine (knownOf_any _ kv B _ (HKP.out _ hb1) (by rw [HLK.out]; exact bn3) (fun x hx => HAB.out x hx)).mono ?_
      rintro e w2 ⟨bM, nM, D, rfl, hnM, hko, hmn, hbg, bw⟩
      have HBK : Hid (w.heap.size ≤ (wr).heap.size) := hb1.size
      have hb2 : Below w.heap.size w (w2) := hb1.trans (bw.mono hb1.size)
      have HM2 : Hid ((wr).heap.size ≤ (w2).heap.size) := bw.size
      clear hb1 bw
      have EMmk_2 : Hid (KnownO w2 bM nM D) := hko
      have HMN : Hid (MapN D kv) := hmn
      clear hbg hko hmn
      by_cases hc1 : (Maps.size (D) : Int) = (n3 : Int)
      · have hc1b : (((Maps.size (D) : Int) : Int) == ((n3 : Int) : Int)) = true := by simpa using hc1
        have hc1n : (((Maps.size (D) : Int) : Int) != ((n3 : Int) : Int)) = false := by simpa using hc1
        have HSZ : Hid ((Maps.size D : Int) = (n3 : Int)) := hc1
        have hc1H : Hid ((Maps.size (D) : Int) = (n3 : Int)) := hc1
        clear hc1
        have hmp := EMmk_2.out
        unfold KnownO at hmp
        go_wp2_with (first | (at_len; refine wpList_len_own _ rfl _ 121 rfl 3 71 Tryz.underlying121 mpR bM nM (D) rfl hmp ?_) | go_in)
        go_ret
        refine BoolIs.yes (fun m hm => ?_) hb2
        have ha : ApartA kv := HMN.out.eq.1 (by have := HSZ.out; rw [HLK.out]; omega)
        rw [apart_at] at ha
        rw [HKS.out] at ha ⊢
        exact kpA_Ok (n := n3) HKA.out hm (ha m (by rw [HLK.out]; exact hm))
      · have hc1b : (((Maps.size (D) : Int) : Int) == ((n3 : Int) : Int)) = false := by simpa using hc1
        have hc1n : (((Maps.size (D) : Int) : Int) != ((n3 : Int) : Int)) = true := by simpa using hc1
        have HSZ : Hid (¬ (Maps.size D : Int) = (n3 : Int)) := hc1
        have hc1H : Hid (¬ ((Maps.size (D) : Int) = (n3 : Int))) := hc1
        clear hc1
        have hmp := EMmk_2.out
        unfold KnownO at hmp
        go_wp2_with (first | (at_len; refine wpList_len_own _ rfl _ 121 rfl 3 71 Tryz.underlying121 mpR bM nM (D) rfl hmp ?_) | go_in)
        go_ret
        refine BoolIs.no (fun h => ?_) hb2
        have hsz := HSZ.out
        have ha : ApartA kv := apart_at.2 (fun m hm => (h m (by rw [← HLK.out]; exact hm)).2.2.2.2)
        have h2 := HMN.out.eq.2 ha
        rw [HLK.out] at h2
        omega
set_option maxHeartbeats 8000000 in
set_option maxRecDepth 100000 in
theorem bansOk_any (VB : Value) (bl : List (Int × ByteArray × ByteArray × Int)) (B : Nat) (w : World) (h : w.ownsRow B 69 4 VB bl.length (flatBan bl)) (hn : bl.length ≤ 1048576) (hz : ∀ x ∈ bl, x.2.1.size ≤ maxLen ∧ x.2.2.1.size ≤ maxLen) :
    Calls Tryz.prog 33 #[VB] w fun e w' => BoolIs (BansP bl) w e w' := by
  obtain ⟨o4, c4, e4⟩ := slice_of_owns h
  subst e4
  obtain ⟨n4, hn4⟩ : ∃ n, n = bl.length := ⟨_, rfl⟩
  rw [← hn4] at h ⊢
  have HLB : Hid (bl.length = n4) := hn4.symm
  have bn4 : n4 ≤ 1048576 := by rw [hn4]; exact hn
  have HBN : Hid (∀ W, Below w.heap.size w W → W.ownsRow B 69 4 (.slice o4 n4 c4) n4 (flatBan bl)) := fun W hb => owns_below h hb (fun g hg => owns_lt h hg)
  have HBZ : Hid (∀ x ∈ bl, x.2.1.size ≤ maxLen ∧ x.2.2.1.size ≤ maxLen) := hz
  clear hn4 h hn hz
  have hb0 : Below w.heap.size w w := Below.refl _ _
  go_enter Tryz.func33, Tryz.ntmps33
  go_wp2_with fail
  go_loopw [7] (fun i wr => ∃ j : Nat, j ≤ n4 ∧ i = .int .i64 (j : Int) ∧ Hid (Below w.heap.size w (wr)) ∧ Hid (∀ x ∈ bl.take j, BanP x.1 x.2.1 x.2.2.1 x.2.2.2)) (fun i _ => n4 - (intOf i).toNat)
  case atStart => exact ⟨0, Nat.zero_le _, rfl, hb0, fun x hx => by simp at hx⟩
  case round =>
    obtain ⟨j, hj, rfl, HW, HN⟩ := hrel
    by_cases hlt : (j : Int) < (n4 : Int)
    · have hb1 := HW.out
      clear HW hb0
      have hbn := HBN.out _ hb1
      try rw [HLB.out] at hbn
      have hbv := ban_view hbn
      clear hbn
      obtain ⟨g4, hog, hgl, r1, r2, r3, r4⟩ := hbv.2 j (by first | omega | (rw [HLB.out]; omega))
      clear hbv
      subst hog
      obtain ⟨y, hy⟩ : ∃ y, y = banAt bl j := ⟨_, rfl⟩
      rw [← hy] at r1 r2 r3 r4
      have HM : Hid (y ∈ bl) := by show _ ∈ _; rw [hy]; exact banAt_mem bl j (by rw [HLB.out]; omega)
      have HTK : Hid (bl.take (j + 1) = bl.take j ++ [y]) := by show _ = _; rw [hy]; exact take_banAt bl j (by rw [HLB.out]; omega)
      clear hy hgl
      obtain ⟨y0, y1, y2, y3⟩ := y
      dsimp only at r1 r2 r3 r4
      go_upto_region 4 with fail
      obtain ⟨qv1, hqv1⟩ : ∃ q, q = (wr).heap.size := ⟨_, rfl⟩
      obtain ⟨w2, hW2⟩ : ∃ W, W = (wr).alloc (.cells #[.int .i64 y0, .string y1, .string y2, .int .i64 y3] 69) := ⟨_, rfl⟩
      have hz2 : (wr).heap.size = qv1 := hqv1.symm
      first | rw [← hW2, ← hqv1] | rw [← hW2]
      have hs2 : w2.heap.size = qv1 + 1 := by rw [hW2, ← hz2]; simp
      have bw : Below (wr).heap.size (wr) w2 := by rw [hW2]; exact (Below.refl _ _).alloc (Nat.le_refl _) _
      have hb2 : Below w.heap.size w (w2) := hb1.trans (bw.mono hb1.size)
      have HBv1_2 : Hid ((w2).heap[qv1]? = some (.cells #[.int .i64 y0, .string y1, .string y2, .int .i64 y3] 69)) := by show _ = _; rw [hW2, ← hz2]; exact heap_alloc_new _ _
      clear hb1 bw hW2 hz2
      clear hs2 hqv1
      clear r1 r2 r3 r4
      have cv1_0 : (w2).cell? ⟨qv1, 0, none⟩ = some (.int .i64 y0) := (cell_of HBv1_2.out 0).trans rfl
      have cv1_1 : (w2).cell? ⟨qv1, 1, none⟩ = some (.string y1) := (cell_of HBv1_2.out 1).trans rfl
      have cv1_2 : (w2).cell? ⟨qv1, 2, none⟩ = some (.string y2) := (cell_of HBv1_2.out 2).trans rfl
      have cv1_3 : (w2).cell? ⟨qv1, 3, none⟩ = some (.int .i64 y3) := (cell_of HBv1_2.out 3).trans rfl
      go_wp2_with fail
      refine (implBanOk_any y0 y1 y2 y3 _ (HBZ.out _ HM.out).1 (HBZ.out _ HM.out).2).mono ?_
      rintro e w3 ⟨ub, rfl, hub, bw⟩
      have hb3 : Below w.heap.size w (w3) := hb2.trans (bw.mono hb2.size)
      have HBv1_3 : Hid ((w3).heap[qv1]? = some (.cells #[.int .i64 y0, .string y1, .string y2, .int .i64 y3] 69)) := blk_below HBv1_2.out bw
      clear hb2 HBv1_2 bw
      clear cv1_0 cv1_1 cv1_2 cv1_3
      cases ub with
      | false =>
        have HNub : Hid (¬ (BanP y0 y1 y2 y3)) := fun h => nomatch hub.2 h
        clear hub
        go_wp2_with fail
        go_ret
        exact BoolIs.no (fun h => HNub.out ((show BansP bl from h).2 _ HM.out)) hb3
      | true =>
        have HYub : Hid (BanP y0 y1 y2 y3) := hub.1 rfl
        clear hub
        have HN2 : Hid (∀ x ∈ bl.take (j + 1), BanP x.1 x.2.1 x.2.2.1 x.2.2.2) := fun x hx => by
          rw [HTK.out] at hx
          rcases List.mem_append.1 hx with hx | hx
          · exact HN.out x hx
          · rw [List.mem_singleton.1 hx]; exact HYub.out
        go_wp2_with fail
        go_roundw
        case rel => exact ⟨j + 1, by omega, by go_num, hb3, HN2⟩
        case measure => simp [intOf]; omega
    · have hb1 := HW.out
      clear HW hb0
      have HAL : Hid (∀ x ∈ bl, BanP x.1 x.2.1 x.2.2.1 x.2.2.2) := fun x hx => HN.out x (by rw [List.take_of_length_le (by rw [HLB.out]; omega)]; exact hx)
      clear HN
      by_cases hc1 : (n4 : Int) ≤ 5
      · have HB5 : Hid (n4 ≤ 5) := (by have := hc1; show _ ≤ _; omega)
        go_wp2_with fail
        go_ret
        exact BoolIs.yes (⟨by rw [HLB.out]; exact HB5.out, HAL.out⟩ : BansP bl) hb1
      · have HB5 : Hid (¬ n4 ≤ 5) := (by have := hc1; show ¬ _; omega)
        go_wp2_with fail
        go_ret
        exact BoolIs.no (fun h => by have h1 : bl.length ≤ 5 := h.1; have h5 := HB5.out; rw [HLB.out] at h1; omega) hb1
set_option maxHeartbeats 8000000 in
set_option maxRecDepth 100000 in
theorem implShelfOk_any (v1 v2 V VB : Value) (kv : List (KpD × Value × Value × Value)) (s : ShD) (B : Nat) (w : World) (h : ShelfO w B v1 v2 V VB kv s) (hz : ShSmall s) :
    Calls Tryz.prog 8 #[.agg #[v1, v2, V, VB, .int .i64 s.nx, .int .i64 s.sq]] w fun e w' => BoolIs (ShelfP s) w e w' := by
  obtain ⟨o1, c1, e1⟩ := slice_of_owns h.disk.cells
  obtain ⟨o2, c2, e2⟩ := slice_of_owns h.disk.pend
  obtain ⟨o3, c3, e3⟩ := slice_of_owns h.kept.row
  obtain ⟨o4, c4, e4⟩ := slice_of_owns h.bans
  subst e1 e2 e3 e4
  obtain ⟨n1, hn1⟩ : ∃ n, n = s.cs.length := ⟨_, rfl⟩
  obtain ⟨n2, hn2⟩ : ∃ n, n = s.ws.length := ⟨_, rfl⟩
  obtain ⟨n3, hn3⟩ : ∃ n, n = kv.length := ⟨_, rfl⟩
  obtain ⟨n4, hn4⟩ : ∃ n, n = s.bl.length := ⟨_, rfl⟩
  rw [← hn1, ← hn2, ← hn3, ← hn4] at h ⊢
  have HLN : Hid (s.cs.length = n1 ∧ s.ws.length = n2 ∧ kv.length = n3 ∧ s.bl.length = n4) := ⟨hn1.symm, hn2.symm, hn3.symm, hn4.symm⟩
  have HKS : Hid (kv.map (·.1) = s.ks) := h.2
  have HZ : Hid (ShSmall s) := hz
  have bn1 : n1 ≤ 1048576 := by rw [hn1]; exact hz.c
  have bn2 : n2 ≤ 1048576 := by rw [hn2]; exact hz.w
  have bn3 : n3 ≤ 1048576 := by rw [hn3, ← List.length_map (f := (·.1)), h.2]; exact hz.k
  have bn4 : n4 ≤ 1048576 := by rw [hn4]; exact hz.b
  have HSH : Hid (∀ W, Below w.heap.size w W → ShelfO W B (.slice o1 n1 c1) (.slice o2 n2 c2) (.slice o3 n3 c3) (.slice o4 n4 c4) kv s) := fun W hb => h.below hb
  have HKP : Hid (∀ W, Below w.heap.size w W → KeptsO W B (.slice o3 n3 c3) kv) := fun W hb => (h.below hb).kept
  have HLK : Hid (kv.length = n3) := hn3.symm
  clear hn1 hn2 hn3 hn4 h hz
  have hb0 : Below w.heap.size w w := Below.refl _ _
  go_enter Tryz.func8, Tryz.ntmps8
  go_upto_region 1 with fail
  obtain ⟨qv1, hqv1⟩ : ∃ q, q = (w).heap.size := ⟨_, rfl⟩
  obtain ⟨w1, hW1⟩ : ∃ W, W = (w).alloc (.cells #[.slice o1 n1 c1, .slice o2 n2 c2, .slice o3 n3 c3, .slice o4 n4 c4, .int .i64 s.nx, .int .i64 s.sq] 38) := ⟨_, rfl⟩
  have hz1 : (w).heap.size = qv1 := hqv1.symm
  first | rw [← hW1, ← hqv1] | rw [← hW1]
  have hs1 : w1.heap.size = qv1 + 1 := by rw [hW1, ← hz1]; simp
  have bw : Below (w).heap.size (w) w1 := by rw [hW1]; exact (Below.refl _ _).alloc (Nat.le_refl _) _
  have hb1 : Below w.heap.size w (w1) := hb0.trans (bw.mono hb0.size)
  have HBv1_1 : Hid ((w1).heap[qv1]? = some (.cells #[.slice o1 n1 c1, .slice o2 n2 c2, .slice o3 n3 c3, .slice o4 n4 c4, .int .i64 s.nx, .int .i64 s.sq] 38)) := by show _ = _; rw [hW1, ← hz1]; exact heap_alloc_new _ _
  clear hb0 bw hW1 hz1
  clear hs1 hqv1
  have cv1_0 : (w1).cell? ⟨qv1, 0, none⟩ = some (.slice o1 n1 c1) := (cell_of HBv1_1.out 0).trans rfl
  have cv1_1 : (w1).cell? ⟨qv1, 1, none⟩ = some (.slice o2 n2 c2) := (cell_of HBv1_1.out 1).trans rfl
  go_wp2_with fail
  refine (implDiskOk_any _ _ n1 s.cs n2 s.ws B _ (by have hd := (HSH.out _ hb1).disk; rw [HLN.out.1, HLN.out.2.1] at hd; exact hd) (by omega) (by omega)).mono ?_
  rintro e w2 ⟨ud, rfl, hud, bw⟩
  have hb2 : Below w.heap.size w (w2) := hb1.trans (bw.mono hb1.size)
  have HBv1_2 : Hid ((w2).heap[qv1]? = some (.cells #[.slice o1 n1 c1, .slice o2 n2 c2, .slice o3 n3 c3, .slice o4 n4 c4, .int .i64 s.nx, .int .i64 s.sq] 38)) := blk_below HBv1_1.out bw
  clear hb1 HBv1_1 bw
  clear cv1_0 cv1_1
  cases ud with
  | false =>
    have HNud : Hid (¬ (DiskP s.cs s.ws)) := fun h => nomatch hud.2 h
    clear hud
    go_wp2_with fail
    go_ret
    exact BoolIs.no (fun h => HNud.out h.1) hb2
  | true =>
    have HYud : Hid (DiskP s.cs s.ws) := hud.1 rfl
    clear hud
    have cv1_4 : (w2).cell? ⟨qv1, 4, none⟩ = some (.int .i64 s.nx) := (cell_of HBv1_2.out 4).trans rfl
    go_wp2_with fail
    refine (isObjectCell_any s.nx _).mono ?_
    rintro e w3 ⟨unx, rfl, hunx, bw⟩
    have hb3 : Below w.heap.size w (w3) := hb2.trans (bw.mono hb2.size)
    have HBv1_3 : Hid ((w3).heap[qv1]? = some (.cells #[.slice o1 n1 c1, .slice o2 n2 c2, .slice o3 n3 c3, .slice o4 n4 c4, .int .i64 s.nx, .int .i64 s.sq] 38)) := blk_below HBv1_2.out bw
    clear hb2 HBv1_2 bw
    clear cv1_4
    cases unx with
    | false =>
      have HNunx : Hid (¬ (5 ≤ s.nx ∧ s.nx ≤ 19)) := fun h => nomatch hunx.2 h
      clear hunx
      go_wp2_with fail
      go_ret
      exact BoolIs.no (fun h => HNunx.out h.2.2.1) hb3
    | true =>
      have HYunx : Hid (5 ≤ s.nx ∧ s.nx ≤ 19) := hunx.1 rfl
      clear hunx
      by_cases hc1 : s.sq < 1
      · have HQ1 : Hid (s.sq < 1) := hc1
        have cv1_5 : (w3).cell? ⟨qv1, 5, none⟩ = some (.int .i64 s.sq) := (cell_of HBv1_3.out 5).trans rfl
        go_wp2_with fail
        go_ret
        exact BoolIs.no (fun h => by have h1 := HQ1.out; have h2 := h.2.2.2.1; omega) hb3
      · have HQ1 : Hid (¬ s.sq < 1) := hc1
        have cv1_5 : (w3).cell? ⟨qv1, 5, none⟩ = some (.int .i64 s.sq) := (cell_of HBv1_3.out 5).trans rfl
        by_cases hc2 : 100000 < s.sq
        · have HQ2 : Hid (100000 < s.sq) := hc2
          go_wp2_with fail
          go_ret
          exact BoolIs.no (fun h => by have h1 := HQ2.out; have h2 := h.2.2.2.1; omega) hb3
        · have HQ2 : Hid (¬ 100000 < s.sq) := hc2
          have cv1_2 : (w3).cell? ⟨qv1, 2, none⟩ = some (.slice o3 n3 c3) := (cell_of HBv1_3.out 2).trans rfl
          go_wp2_with fail
          refine (keptOk_any _ kv s.sq B _ (HKP.out _ hb3) (by rw [HLK.out]; exact bn3) (fun x hx => HZ.out.kv HKS.out hx)).mono ?_
          rintro e w4 ⟨uk, rfl, huk, bw⟩
          have hb4 : Below w.heap.size w (w4) := hb3.trans (bw.mono hb3.size)
          have HBv1_4 : Hid ((w4).heap[qv1]? = some (.cells #[.slice o1 n1 c1, .slice o2 n2 c2, .slice o3 n3 c3, .slice o4 n4 c4, .int .i64 s.nx, .int .i64 s.sq] 38)) := blk_below HBv1_3.out bw
          clear hb3 HBv1_3 bw
          clear cv1_5 cv1_2
          cases uk with
          | false =>
            have HNuk : Hid (¬ (∀ m, m < kv.length → KpOk (kv.map (·.1)) s.sq m)) := fun h => nomatch huk.2 h
            clear huk
            go_wp2_with fail
            go_ret
            exact BoolIs.no (fun h => HNuk.out (fun m hm => by rw [HKS.out]; exact h.2.2.2.2.2 m (by rw [← HKS.out, List.length_map]; exact hm))) hb4
          | true =>
            have HYuk : Hid (∀ m, m < kv.length → KpOk (kv.map (·.1)) s.sq m) := huk.1 rfl
            clear huk
            have cv1_3 : (w4).cell? ⟨qv1, 3, none⟩ = some (.slice o4 n4 c4) := (cell_of HBv1_4.out 3).trans rfl
            go_wp2_with fail
            refine (bansOk_any _ s.bl B _ (by have hd := (HSH.out _ hb4).bans; exact hd) HZ.out.b HZ.out.bm).mono ?_
            rintro e w5 ⟨ub, rfl, hub, bw⟩
            have hb5 : Below w.heap.size w (w5) := hb4.trans (bw.mono hb4.size)
            have HBv1_5 : Hid ((w5).heap[qv1]? = some (.cells #[.slice o1 n1 c1, .slice o2 n2 c2, .slice o3 n3 c3, .slice o4 n4 c4, .int .i64 s.nx, .int .i64 s.sq] 38)) := blk_below HBv1_4.out bw
            clear hb4 HBv1_4 bw
            clear cv1_3
            cases ub with
            | false =>
              have HNub : Hid (¬ (BansP s.bl)) := fun h => nomatch hub.2 h
              clear hub
              go_wp2_with fail
              go_ret
              exact BoolIs.no (fun h => HNub.out ⟨h.2.1, h.2.2.2.2.1⟩) hb5
            | true =>
              have HYub : Hid (BansP s.bl) := hub.1 rfl
              clear hub
              go_wp2_with fail
              go_ret
              exact BoolIs.yes ⟨HYud.out, HYub.out.1, HYunx.out, ⟨by have := HQ1.out; omega, by have := HQ2.out; omega⟩, HYub.out.2, fun i hi => by have hk := HYuk.out; rw [HKS.out] at hk; exact hk i (by rw [← HKS.out, List.length_map] at hi; exact hi)⟩ hb5

end Go.Proofs.YtcipbkkpkhameaaGreat

namespace Go.Proofs.YtcipbkkpkhameaaGreat
open Go.RowKit
open Go.Lib hiding intOf

set_option maxHeartbeats 8000000 in
set_option maxRecDepth 100000 in
theorem eqShelf_go (s : ShD) (n1 n2 n3 n4 : Nat) (oCx oPx oKx oBx oCy oPy oKy oBy : Option Addr) (pCx pPx pKx pBx pCy pPy pKy pBy : Nat) (kvx kvy : List (KpD × Value × Value × Value)) (Bx By : Nat) (w : World) (HL : Hid (s.cs.length = n1 ∧ s.ws.length = n2 ∧ s.bl.length = n4)) (HN : Hid (n1 ≤ 2000000 ∧ n2 ≤ 2000000 ∧ kvx.length ≤ 2000000 ∧ n4 ≤ 2000000)) (HSZ : Hid (∀ x ∈ kvx, x.1.xs.length ≤ 2000000 ∧ x.1.ys.length ≤ 2000000 ∧ x.1.fs.length ≤ 2000000)) (HKE : Hid (kvx.map (·.1) = kvy.map (·.1))) (Ex_0 : Hid (ShelfO (w) Bx (.slice oCx n1 pCx) (.slice oPx n2 pPx) (.slice oKx n3 pKx) (.slice oBx n4 pBx) kvx s)) (Ey_0 : Hid (ShelfO (w) By (.slice oCy n1 pCy) (.slice oPy n2 pPy) (.slice oKy n3 pKy) (.slice oBy n4 pBy) kvy s)) :
    Calls Tryz.prog 9 #[.agg #[.slice oCx n1 pCx, .slice oPx n2 pPx, .slice oKx n3 pKx, .slice oBx n4 pBx, .int .i64 s.nx, .int .i64 s.sq], .agg #[.slice oCy n1 pCy, .slice oPy n2 pPy, .slice oKy n3 pKy, .slice oBy n4 pBy, .int .i64 s.nx, .int .i64 s.sq]] w fun e w' => e = .returned (.bool true) ∧ Below w.heap.size w w' := by
  have hnx : (s.nx != s.nx) = false := by simp
  have hsq : (s.sq != s.sq) = false := by simp
  have hb0 : Below w.heap.size w w := Below.refl _ _
  go_enter Tryz.func9, Tryz.ntmps9
  go_upto_region 1 with fail
  obtain ⟨qv1, hqv1⟩ : ∃ q, q = (w).heap.size := ⟨_, rfl⟩
  obtain ⟨w1, hW1⟩ : ∃ W, W = (w).alloc (.cells #[.slice oCx n1 pCx, .slice oPx n2 pPx, .slice oKx n3 pKx, .slice oBx n4 pBx, .int .i64 s.nx, .int .i64 s.sq] 38) := ⟨_, rfl⟩
  have hz1 : (w).heap.size = qv1 := hqv1.symm
  first | rw [← hW1, ← hqv1] | rw [← hW1]
  have hs1 : w1.heap.size = qv1 + 1 := by rw [hW1, ← hz1]; simp
  have bw : Below (w).heap.size (w) w1 := by rw [hW1]; exact (Below.refl _ _).alloc (Nat.le_refl _) _
  have hb1 : Below w.heap.size w (w1) := hb0.trans (bw.mono hb0.size)
  have Ex_1 : Hid (ShelfO (w1) Bx (.slice oCx n1 pCx) (.slice oPx n2 pPx) (.slice oKx n3 pKx) (.slice oBx n4 pBx) kvx s) := Ex_0.out.below bw
  have Ey_1 : Hid (ShelfO (w1) By (.slice oCy n1 pCy) (.slice oPy n2 pPy) (.slice oKy n3 pKy) (.slice oBy n4 pBy) kvy s) := Ey_0.out.below bw
  have HBv1_1 : Hid ((w1).heap[qv1]? = some (.cells #[.slice oCx n1 pCx, .slice oPx n2 pPx, .slice oKx n3 pKx, .slice oBx n4 pBx, .int .i64 s.nx, .int .i64 s.sq] 38)) := by show _ = _; rw [hW1, ← hz1]; exact heap_alloc_new _ _
  clear hb0 Ex_0 Ey_0 bw hW1 hz1
  obtain ⟨qv2, hqv2⟩ : ∃ q, q = qv1 + 1 := ⟨_, rfl⟩
  obtain ⟨w2, hW2⟩ : ∃ W, W = (w1).alloc (.cells #[.slice oCy n1 pCy, .slice oPy n2 pPy, .slice oKy n3 pKy, .slice oBy n4 pBy, .int .i64 s.nx, .int .i64 s.sq] 38) := ⟨_, rfl⟩
  have hz2 : (w1).heap.size = qv2 := by rw [hqv2]; exact hs1
  first | rw [← hW2, ← hqv2] | rw [← hW2]
  have hs2 : w2.heap.size = qv2 + 1 := by rw [hW2, ← hz2]; simp
  have bw : Below (w1).heap.size (w1) w2 := by rw [hW2]; exact (Below.refl _ _).alloc (Nat.le_refl _) _
  have hb2 : Below w.heap.size w (w2) := hb1.trans (bw.mono hb1.size)
  have HBv1_2 : Hid ((w2).heap[qv1]? = some (.cells #[.slice oCx n1 pCx, .slice oPx n2 pPx, .slice oKx n3 pKx, .slice oBx n4 pBx, .int .i64 s.nx, .int .i64 s.sq] 38)) := blk_below HBv1_1.out bw
  have Ex_2 : Hid (ShelfO (w2) Bx (.slice oCx n1 pCx) (.slice oPx n2 pPx) (.slice oKx n3 pKx) (.slice oBx n4 pBx) kvx s) := Ex_1.out.below bw
  have Ey_2 : Hid (ShelfO (w2) By (.slice oCy n1 pCy) (.slice oPy n2 pPy) (.slice oKy n3 pKy) (.slice oBy n4 pBy) kvy s) := Ey_1.out.below bw
  have HBv2_2 : Hid ((w2).heap[qv2]? = some (.cells #[.slice oCy n1 pCy, .slice oPy n2 pPy, .slice oKy n3 pKy, .slice oBy n4 pBy, .int .i64 s.nx, .int .i64 s.sq] 38)) := by show _ = _; rw [hW2, ← hz2]; exact heap_alloc_new _ _
  clear hb1 HBv1_1 Ex_1 Ey_1 bw hW2 hz2
  clear hs2 hqv2 hs1 hqv1
  have cv1_0 : (w2).cell? ⟨qv1, 0, none⟩ = some (.slice oCx n1 pCx) := (cell_of HBv1_2.out 0).trans rfl
  have cv1_1 : (w2).cell? ⟨qv1, 1, none⟩ = some (.slice oPx n2 pPx) := (cell_of HBv1_2.out 1).trans rfl
  have cv2_0 : (w2).cell? ⟨qv2, 0, none⟩ = some (.slice oCy n1 pCy) := (cell_of HBv2_2.out 0).trans rfl
  have cv2_1 : (w2).cell? ⟨qv2, 1, none⟩ = some (.slice oPy n2 pPy) := (cell_of HBv2_2.out 1).trans rfl
  go_wp2_with fail
  refine (eqDisk_any n1 s.cs n2 s.ws _ _ _ _ Bx By _ (show DiskO _ Bx _ n1 s.cs _ n2 s.ws from by have h := Ex_2.out.disk; rw [HL.out.1, HL.out.2.1] at h; exact h) (show DiskO _ By _ n1 s.cs _ n2 s.ws from by have h := Ey_2.out.disk; rw [HL.out.1, HL.out.2.1] at h; exact h) HN.out.1 HN.out.2.1).mono ?_
  rintro e w3 ⟨rfl, bw⟩
  have hb3 : Below w.heap.size w (w3) := hb2.trans (bw.mono hb2.size)
  have HBv1_3 : Hid ((w3).heap[qv1]? = some (.cells #[.slice oCx n1 pCx, .slice oPx n2 pPx, .slice oKx n3 pKx, .slice oBx n4 pBx, .int .i64 s.nx, .int .i64 s.sq] 38)) := blk_below HBv1_2.out bw
  have HBv2_3 : Hid ((w3).heap[qv2]? = some (.cells #[.slice oCy n1 pCy, .slice oPy n2 pPy, .slice oKy n3 pKy, .slice oBy n4 pBy, .int .i64 s.nx, .int .i64 s.sq] 38)) := blk_below HBv2_2.out bw
  have Ex_3 : Hid (ShelfO (w3) Bx (.slice oCx n1 pCx) (.slice oPx n2 pPx) (.slice oKx n3 pKx) (.slice oBx n4 pBx) kvx s) := Ex_2.out.below bw
  have Ey_3 : Hid (ShelfO (w3) By (.slice oCy n1 pCy) (.slice oPy n2 pPy) (.slice oKy n3 pKy) (.slice oBy n4 pBy) kvy s) := Ey_2.out.below bw
  clear hb2 HBv1_2 HBv2_2 Ex_2 Ey_2 bw
  clear cv1_0 cv1_1 cv2_0 cv2_1
  have cv1_2 : (w3).cell? ⟨qv1, 2, none⟩ = some (.slice oKx n3 pKx) := (cell_of HBv1_3.out 2).trans rfl
  have cv2_2 : (w3).cell? ⟨qv2, 2, none⟩ = some (.slice oKy n3 pKy) := (cell_of HBv2_3.out 2).trans rfl
  go_wp2_with fail
  refine (eqKeptS_any _ _ kvx kvy Bx By _ HKE.out Ex_3.out.kept Ey_3.out.kept HN.out.2.2.1 HSZ.out).mono ?_
  rintro e w4 ⟨rfl, bw⟩
  have hb4 : Below w.heap.size w (w4) := hb3.trans (bw.mono hb3.size)
  have HBv1_4 : Hid ((w4).heap[qv1]? = some (.cells #[.slice oCx n1 pCx, .slice oPx n2 pPx, .slice oKx n3 pKx, .slice oBx n4 pBx, .int .i64 s.nx, .int .i64 s.sq] 38)) := blk_below HBv1_3.out bw
  have HBv2_4 : Hid ((w4).heap[qv2]? = some (.cells #[.slice oCy n1 pCy, .slice oPy n2 pPy, .slice oKy n3 pKy, .slice oBy n4 pBy, .int .i64 s.nx, .int .i64 s.sq] 38)) := blk_below HBv2_3.out bw
  have Ex_4 : Hid (ShelfO (w4) Bx (.slice oCx n1 pCx) (.slice oPx n2 pPx) (.slice oKx n3 pKx) (.slice oBx n4 pBx) kvx s) := Ex_3.out.below bw
  have Ey_4 : Hid (ShelfO (w4) By (.slice oCy n1 pCy) (.slice oPy n2 pPy) (.slice oKy n3 pKy) (.slice oBy n4 pBy) kvy s) := Ey_3.out.below bw
  clear hb3 HBv1_3 HBv2_3 Ex_3 Ey_3 bw
  clear cv1_2 cv2_2
  have cv1_3 : (w4).cell? ⟨qv1, 3, none⟩ = some (.slice oBx n4 pBx) := (cell_of HBv1_4.out 3).trans rfl
  have cv2_3 : (w4).cell? ⟨qv2, 3, none⟩ = some (.slice oBy n4 pBy) := (cell_of HBv2_4.out 3).trans rfl
  go_wp2_with fail
  refine (eqBanS_any _ _ n4 _ _ s.bl _ (ban_view (show World.ownsRow _ Bx 69 4 _ n4 (flatBan s.bl) from by have h := Ex_4.out.bans; rw [HL.out.2.2] at h; exact h)) (ban_view (show World.ownsRow _ By 69 4 _ n4 (flatBan s.bl) from by have h := Ey_4.out.bans; rw [HL.out.2.2] at h; exact h)) HN.out.2.2.2).mono ?_
  rintro e w5 ⟨rfl, bw⟩
  have hb5 : Below w.heap.size w (w5) := hb4.trans (bw.mono hb4.size)
  have HBv1_5 : Hid ((w5).heap[qv1]? = some (.cells #[.slice oCx n1 pCx, .slice oPx n2 pPx, .slice oKx n3 pKx, .slice oBx n4 pBx, .int .i64 s.nx, .int .i64 s.sq] 38)) := blk_below HBv1_4.out bw
  have HBv2_5 : Hid ((w5).heap[qv2]? = some (.cells #[.slice oCy n1 pCy, .slice oPy n2 pPy, .slice oKy n3 pKy, .slice oBy n4 pBy, .int .i64 s.nx, .int .i64 s.sq] 38)) := blk_below HBv2_4.out bw
  have Ex_5 : Hid (ShelfO (w5) Bx (.slice oCx n1 pCx) (.slice oPx n2 pPx) (.slice oKx n3 pKx) (.slice oBx n4 pBx) kvx s) := Ex_4.out.below bw
  have Ey_5 : Hid (ShelfO (w5) By (.slice oCy n1 pCy) (.slice oPy n2 pPy) (.slice oKy n3 pKy) (.slice oBy n4 pBy) kvy s) := Ey_4.out.below bw
  clear hb4 HBv1_4 HBv2_4 Ex_4 Ey_4 bw
  clear cv1_3 cv2_3
  have cv1_4 : (w5).cell? ⟨qv1, 4, none⟩ = some (.int .i64 s.nx) := (cell_of HBv1_5.out 4).trans rfl
  have cv2_4 : (w5).cell? ⟨qv2, 4, none⟩ = some (.int .i64 s.nx) := (cell_of HBv2_5.out 4).trans rfl
  have cv1_5 : (w5).cell? ⟨qv1, 5, none⟩ = some (.int .i64 s.sq) := (cell_of HBv1_5.out 5).trans rfl
  have cv2_5 : (w5).cell? ⟨qv2, 5, none⟩ = some (.int .i64 s.sq) := (cell_of HBv2_5.out 5).trans rfl
  go_wp2_with fail
  go_ret
  exact ⟨rfl, hb5⟩

theorem eqShelf_any (s : ShD) (v1 v2 V VB u1 u2 U UB : Value) (kvx kvy : List (KpD × Value × Value × Value)) (Bx By : Nat) (w : World) (hx : ShelfO w Bx v1 v2 V VB kvx s) (hy : ShelfO w By u1 u2 U UB kvy s) (h1 : s.cs.length ≤ 2000000) (h2 : s.ws.length ≤ 2000000) (h3 : s.ks.length ≤ 2000000) (h4 : s.bl.length ≤ 2000000) (hs : ∀ k ∈ s.ks, k.xs.length ≤ 2000000 ∧ k.ys.length ≤ 2000000 ∧ k.fs.length ≤ 2000000) :
    Calls Tryz.prog 9 #[.agg #[v1, v2, V, VB, .int .i64 s.nx, .int .i64 s.sq], .agg #[u1, u2, U, UB, .int .i64 s.nx, .int .i64 s.sq]] w fun e w' => e = .returned (.bool true) ∧ Below w.heap.size w w' := by
  obtain ⟨oCx, pCx, rfl⟩ := slice_of_owns hx.disk.cells
  obtain ⟨oPx, pPx, rfl⟩ := slice_of_owns hx.disk.pend
  obtain ⟨oBx, pBx, rfl⟩ := slice_of_owns hx.bans
  obtain ⟨oKx, pKx, rfl⟩ := hx.kept.len
  obtain ⟨oCy, pCy, rfl⟩ := slice_of_owns hy.disk.cells
  obtain ⟨oPy, pPy, rfl⟩ := slice_of_owns hy.disk.pend
  obtain ⟨oBy, pBy, rfl⟩ := slice_of_owns hy.bans
  obtain ⟨oKy, pKy, rfl⟩ := hy.kept.len
  have e1 : kvx.length = s.ks.length := by rw [← hx.2, List.length_map]
  have e2 : kvy.length = s.ks.length := by rw [← hy.2, List.length_map]
  rw [e1] at hx ⊢
  rw [e2] at hy ⊢
  exact eqShelf_go s _ _ _ _ oCx oPx oKx oBx oCy oPy oKy oBy pCx pPx pKx pBx pCy pPy pKy pBy kvx kvy Bx By w ⟨rfl, rfl, rfl⟩ ⟨h1, h2, by rw [e1]; exact h3, h4⟩ (fun x hxm => hs x.1 (by rw [← hx.2]; exact List.mem_map.2 ⟨x, hxm, rfl⟩)) (hx.2.trans hy.2.symm) hx hy

end Go.Proofs.YtcipbkkpkhameaaGreat

namespace Go.Proofs.YtcipbkkpkhameaaGreat
open Go.RowKit
open Go.Lib hiding intOf

/-- A store's measure: negative, or what is left of L. -/
def SzShelf (L : Int) (n1 : Nat) (cs : List ByteArray) (n2 : Nat) (ws : List (Int × ByteArray)) (ks : List KpD) (n4 : Nat) (bl : List (Int × ByteArray × ByteArray × Int)) (w : World) (e : Ending) (w' : World) : Prop :=
  ∃ r : Int, e = .returned (.int .i64 r) ∧ r ≤ L ∧ (0 ≤ r → r + (n1 : Int) + (n2 : Int) + (wtK ks : Int) + (n4 : Int) ≤ L ∧ (n1 ≤ 1048576 ∧ ∀ i, i < n1 → (textAt cs i).size ≤ 1048576) ∧ (n2 ≤ 1048576 ∧ ∀ x ∈ ws, (x.2).size ≤ 1048576) ∧ (∀ k ∈ ks, KpSmall k) ∧ (n4 ≤ 1048576 ∧ ∀ x ∈ bl, (x.2.1).size ≤ 1048576 ∧ (x.2.2.1).size ≤ 1048576)) ∧ Below w.heap.size w w'
set_option maxHeartbeats 8000000 in
set_option maxRecDepth 100000 in
theorem szShelf_any (L : Int) (hL0 : 0 ≤ L) (hL1 : L ≤ 1048576) (a1 : Option Addr) (n1 c1 : Nat) (cs : List ByteArray) (a2 : Option Addr) (n2 c2 : Nat) (ws : List (Int × ByteArray)) (a3 : Option Addr) (n3 c3 : Nat) (ks : List KpD) (a4 : Option Addr) (n4 c4 : Nat) (bl : List (Int × ByteArray × ByteArray × Int)) (nx sq : Int) (B : Nat) (w : World) (h1 : ArgT w B a1 n1 cs) (h2 : ArgWrite w B a2 n2 ws) (h3 : ArgKept w B a3 n3 ks) (h4 : ArgBan w B a4 n4 bl) (hB : B ≤ w.heap.size) (hm : n1 ≤ maxLen ∧ n2 ≤ maxLen ∧ n3 ≤ maxLen ∧ n4 ≤ maxLen ∧ (∀ i, i < n1 → (textAt cs i).size ≤ maxLen) ∧ (∀ x ∈ ws, (x.2).size ≤ maxLen) ∧ (∀ k ∈ ks, KpMax k) ∧ ∀ x ∈ bl, (x.2.1).size ≤ maxLen ∧ (x.2.2.1).size ≤ maxLen) :
    Calls Tryz.prog 5 #[.agg #[.slice a1 n1 c1, .slice a2 n2 c2, .slice a3 n3 c3, .slice a4 n4 c4, .int .i64 nx, .int .i64 sq], .int .i64 L] w fun e w' => SzShelf L n1 cs n2 ws ks n4 bl w e w' := by
  have HA1 : Hid (∀ W, Below w.heap.size w W → ArgT W B a1 n1 cs) := fun W h => h1.below (h.mono hB)
  have HA2 : Hid (∀ W, Below w.heap.size w W → ArgWrite W B a2 n2 ws) := fun W h => h2.below (h.mono hB)
  have HA3 : Hid (∀ W, Below w.heap.size w W → ArgKept W B a3 n3 ks) := fun W h => h3.below (h.mono hB)
  have HA4 : Hid (∀ W, Below w.heap.size w W → ArgBan W B a4 n4 bl) := fun W h => h4.below (h.mono hB)
  have HBB : Hid (∀ W, Below w.heap.size w W → B ≤ W.heap.size) := fun W h => Nat.le_trans hB h.size
  have HM : Hid (n1 ≤ maxLen ∧ n2 ≤ maxLen ∧ n3 ≤ maxLen ∧ n4 ≤ maxLen ∧ (∀ i, i < n1 → (textAt cs i).size ≤ maxLen) ∧ (∀ x ∈ ws, (x.2).size ≤ maxLen) ∧ (∀ k ∈ ks, KpMax k) ∧ ∀ x ∈ bl, (x.2.1).size ≤ maxLen ∧ (x.2.2.1).size ≤ maxLen) := hm
  clear h1 h2 h3 h4 hm hB
  have hb0 : Below w.heap.size w w := Below.refl _ _
  go_enter Tryz.func5, Tryz.ntmps5
  go_upto_region 1 with fail
  obtain ⟨qv1, hqv1⟩ : ∃ q, q = (w).heap.size := ⟨_, rfl⟩
  obtain ⟨w1, hW1⟩ : ∃ W, W = (w).alloc (.cells #[.slice a1 n1 c1, .slice a2 n2 c2, .slice a3 n3 c3, .slice a4 n4 c4, .int .i64 nx, .int .i64 sq] 29) := ⟨_, rfl⟩
  have hz1 : (w).heap.size = qv1 := hqv1.symm
  first | rw [← hW1, ← hqv1] | rw [← hW1]
  have hs1 : w1.heap.size = qv1 + 1 := by rw [hW1, ← hz1]; simp
  have bw : Below (w).heap.size (w) w1 := by rw [hW1]; exact (Below.refl _ _).alloc (Nat.le_refl _) _
  have hb1 : Below w.heap.size w (w1) := hb0.trans (bw.mono hb0.size)
  have HBv1_1 : Hid ((w1).heap[qv1]? = some (.cells #[.slice a1 n1 c1, .slice a2 n2 c2, .slice a3 n3 c3, .slice a4 n4 c4, .int .i64 nx, .int .i64 sq] 29)) := by show _ = _; rw [hW1, ← hz1]; exact heap_alloc_new _ _
  clear hb0 bw hW1 hz1
  clear hs1 hqv1
  have cv1_0 : (w1).cell? ⟨qv1, 0, none⟩ = some (.slice a1 n1 c1) := (cell_of HBv1_1.out 0).trans rfl
  have cv1_1 : (w1).cell? ⟨qv1, 1, none⟩ = some (.slice a2 n2 c2) := (cell_of HBv1_1.out 1).trans rfl
  go_wp2_with fail
  refine (szDisk_room L (by omega) (by omega) a1 n1 c1 cs a2 n2 c2 ws B _ (HA1.out _ hb1) (HA2.out _ hb1) (HBB.out _ hb1) HM.out.1 HM.out.2.1 HM.out.2.2.2.2.1 HM.out.2.2.2.2.2.1).mono ?_
  rintro e w2 ⟨r1, rfl, hl1, hr1, bw⟩
  have hb2 : Below w.heap.size w (w2) := hb1.trans (bw.mono hb1.size)
  have HBv1_2 : Hid ((w2).heap[qv1]? = some (.cells #[.slice a1 n1 c1, .slice a2 n2 c2, .slice a3 n3 c3, .slice a4 n4 c4, .int .i64 nx, .int .i64 sq] 29)) := blk_below HBv1_1.out bw
  clear hb1 HBv1_1 bw
  clear cv1_0 cv1_1
  by_cases hc1 : r1 < 0
  · clear hr1
    go_wp2_with fail
    go_ret
    exact ⟨-1, rfl, by omega, fun h => absurd h (by omega), hb2⟩
  · have HR1 : Hid _ := hr1 (by omega)
    clear hr1
    have m1 := HR1.out.1
    have cv1_2 : (w2).cell? ⟨qv1, 2, none⟩ = some (.slice a3 n3 c3) := (cell_of HBv1_2.out 2).trans rfl
    go_wp2_with fail
    refine (szKeptS_any r1 (by omega) (by omega) B a3 n3 c3 ks _ (HA3.out _ hb2) (HBB.out _ hb2) HM.out.2.2.1 HM.out.2.2.2.2.2.2.1).mono ?_
    rintro e w3 ⟨r2, rfl, hl2, hr2, bw⟩
    have hb3 : Below w.heap.size w (w3) := hb2.trans (bw.mono hb2.size)
    have HBv1_3 : Hid ((w3).heap[qv1]? = some (.cells #[.slice a1 n1 c1, .slice a2 n2 c2, .slice a3 n3 c3, .slice a4 n4 c4, .int .i64 nx, .int .i64 sq] 29)) := blk_below HBv1_2.out bw
    clear hb2 HBv1_2 bw
    clear cv1_2
    by_cases hc2 : r2 < 0
    · clear hr2
      go_wp2_with fail
      go_ret
      exact ⟨-1, rfl, by omega, fun h => absurd h (by omega), hb3⟩
    · have HR2 : Hid _ := hr2 (by omega)
      clear hr2
      have m2 := HR2.out.1
      have cv1_3 : (w3).cell? ⟨qv1, 3, none⟩ = some (.slice a4 n4 c4) := (cell_of HBv1_3.out 3).trans rfl
      go_wp2_with fail
      refine (szBanS_room r2 (by omega) (by omega) B a4 n4 c4 bl _ (HA4.out _ hb3) (HBB.out _ hb3) HM.out.2.2.2.1 HM.out.2.2.2.2.2.2.2).mono ?_
      rintro e w4 ⟨r3, rfl, hl3, hr3, bw⟩
      have hb4 : Below w.heap.size w (w4) := hb3.trans (bw.mono hb3.size)
      have HBv1_4 : Hid ((w4).heap[qv1]? = some (.cells #[.slice a1 n1 c1, .slice a2 n2 c2, .slice a3 n3 c3, .slice a4 n4 c4, .int .i64 nx, .int .i64 sq] 29)) := blk_below HBv1_3.out bw
      clear hb3 HBv1_3 bw
      clear cv1_3
      by_cases hc3 : r3 < 0
      · clear hr3
        go_wp2_with fail
        go_ret
        exact ⟨-1, rfl, by omega, fun h => absurd h (by omega), hb4⟩
      · have HR3 : Hid _ := hr3 (by omega)
        clear hr3
        have m3 := HR3.out.1
        go_wp2_with fail
        go_ret
        exact ⟨r3, rfl, by omega, fun _ => ⟨by omega, HR1.out.2.1, HR1.out.2.2, HR2.out.2, HR3.out.2⟩, hb4⟩

end Go.Proofs.YtcipbkkpkhameaaGreat

namespace Go.Proofs.YtcipbkkpkhameaaGreat
open Go.RowKit Go.WideShapes
open Go.Lib hiding intOf

set_option maxRecDepth 100000 in
/-- An object's seven cells among the arguments. -/
theorem objCells {H : Type} {enc : TypeId × Value → H} {W : World} {fuel : Nat} {d0 d1 d2 d3 d4 d5 d6 : Value} {x : DataW H × List MemPlace} (hf : DataW.trod enc Tryz.prog W 0 (fun _ => true) true fuel 104 [d0, d1, d2, d3, d4, d5, d6] = some x) :
    ∃ (p : ByteArray) (a1 : Option Addr) (n1 c1 : Nat) (xs : List ByteArray) (a2 : Option Addr) (n2 c2 : Nat) (ys : List ByteArray) (st : Int) (a3 : Option Addr) (n3 c3 : Nat) (fs : List (ByteArray × ByteArray)) (b : ByteArray) (t : Int), (d0 = .string p ∧ d1 = .slice a1 n1 c1 ∧ d2 = .slice a2 n2 c2 ∧ d3 = .int .i64 st ∧ d4 = .slice a3 n3 c3 ∧ d5 = .string b ∧ d6 = .int .i64 t) ∧ ArgT W W.heap.size a1 n1 xs ∧ ArgT W W.heap.size a2 n2 ys ∧ ArgF W W.heap.size a3 n3 fs ∧ n1 ≤ maxLen ∧ n2 ≤ maxLen ∧ n3 ≤ maxLen ∧ (∀ i, i < n1 → (textAt xs i).size ≤ maxLen) ∧ (∀ i, i < n2 → (textAt ys i).size ≤ maxLen) ∧ WalkF n3 fs ∧ p.size ≤ maxLen ∧ b.size ≤ maxLen := by
  obtain ⟨ys, q, _, _, _, hyl, hg⟩ := DataW.trod_struct Tryz.underlying104 hf
  have hcR : Tryz.prog.cellsOf 102 = 3 := by kernel_rfl
  have e3 : Tryz.prog.cellsOf 3 = 1 := by kernel_rfl
  have e9 : Tryz.prog.cellsOf 9 = 1 := by kernel_rfl
  have eL : Tryz.prog.cellsOf 42 = 1 := by kernel_rfl
  have eS : Tryz.prog.cellsOf 22 = 1 := by kernel_rfl
  have g0 := hg 0 _ rfl
  have g1 := hg 1 _ rfl
  have g2 := hg 2 _ rfl
  have g3 := hg 3 _ rfl
  have g4 := hg 4 _ rfl
  simp [e3, e9, eS, hcR] at g0 g1 g2 g3 g4
  have hy5 : ys.length = 5 := hyl
  rw [List.getElem?_eq_getElem (show 0 < ys.length by omega)] at g0
  rw [List.getElem?_eq_getElem (show 1 < ys.length by omega)] at g1
  rw [List.getElem?_eq_getElem (show 2 < ys.length by omega)] at g2
  rw [List.getElem?_eq_getElem (show 3 < ys.length by omega)] at g3
  rw [List.getElem?_eq_getElem (show 4 < ys.length by omega)] at g4
  obtain ⟨zs, q2, _, _, _, hzl, hk⟩ := DataW.trod_struct Tryz.underlying102 g3
  have k0 := hk 0 _ rfl
  have k1 := hk 1 _ rfl
  have k2 := hk 2 _ rfl
  simp [e3, e9, eL] at k0 k1 k2
  have hz3 : zs.length = 3 := hzl
  rw [List.getElem?_eq_getElem (show 0 < zs.length by omega)] at k0
  rw [List.getElem?_eq_getElem (show 1 < zs.length by omega)] at k1
  rw [List.getElem?_eq_getElem (show 2 < zs.length by omega)] at k2
  obtain ⟨p, hp, _, hps⟩ := DataW.trod_string Tryz.underlying9 g0
  obtain ⟨t, ht, _, _⟩ := DataW.trod_int Tryz.underlying3 g4
  obtain ⟨st, hst, _, _⟩ := DataW.trod_int Tryz.underlying3 k0
  obtain ⟨b, hb, _, hbs⟩ := DataW.trod_string Tryz.underlying9 k2
  obtain ⟨a1, n1, c1, rfl⟩ : ∃ a n cap, d1 = .slice a n cap := by
    rcases DataW.trod_slice Tryz.underlying22 g1 with ⟨h, _⟩ | ⟨a, n, cap, _, _, _, _, h, _⟩
    · exact ⟨none, 0, 0, by simpa using h⟩
    · exact ⟨_, n, cap, by simpa using h⟩
  obtain ⟨a2, n2, c2, rfl⟩ : ∃ a n cap, d2 = .slice a n cap := by
    rcases DataW.trod_slice Tryz.underlying22 g2 with ⟨h, _⟩ | ⟨a, n, cap, _, _, _, _, h, _⟩
    · exact ⟨none, 0, 0, by simpa using h⟩
    · exact ⟨_, n, cap, by simpa using h⟩
  obtain ⟨a3, n3, c3, rfl⟩ : ∃ a n cap, d4 = .slice a n cap := by
    rcases DataW.trod_slice Tryz.underlying42 k1 with ⟨h, _⟩ | ⟨a, n, cap, _, _, _, _, h, _⟩
    · exact ⟨none, 0, 0, by simpa using h⟩
    · exact ⟨_, n, cap, by simpa using h⟩
  obtain ⟨xs, x1, x2, x3⟩ := openTexts g1
  obtain ⟨ws, y1, y2, y3⟩ := openTexts g2
  obtain ⟨fs, z1, z2, z3⟩ := openFields k1
  simp only [List.cons.injEq, and_true] at hp ht hst hb
  subst hp ht hst hb
  exact ⟨p, a1, n1, c1, xs, a2, n2, c2, ws, st, a3, n3, c3, fs, b, t, ⟨rfl, rfl, rfl, rfl, rfl, rfl, rfl⟩, x1, y1, z1, x2, y2, z2, x3, y3, z3, hps, hbs⟩

set_option maxRecDepth 100000 in
/-- A list of what is kept among the arguments. -/
theorem openKeptS {H : Type} {enc : TypeId × Value → H} {W : World} {fuel : Nat} {a : Option Addr} {n cap : Nat} {x : DataW H × List MemPlace} (h : DataW.trod enc Tryz.prog W 0 (fun _ => true) true fuel 26 [.slice a n cap] = some x) :
    ∃ ks, ArgKept W W.heap.size a n ks ∧ n ≤ maxLen ∧ ∀ k ∈ ks, KpMax k := by
  rcases Go.Deep.open_slice Tryz.underlying26 h with ⟨hcs, _⟩ | ⟨ad, len, c, m, q, Dd, Pl, hcs, _, hl, hm, hmm, _, hx⟩
  · simp at hcs
    obtain ⟨rfl, rfl, rfl⟩ := hcs
    exact ⟨[], ⟨rfl, fun i hi => absurd hi (by omega)⟩, Nat.zero_le _, fun x hx => by simp at hx⟩
  · simp at hcs
    obtain ⟨rfl, rfl, rfl⟩ := hcs
    have hm2 : m = cap := by simpa using hmm
    have ce : Tryz.prog.cellsOf 106 = 9 := by kernel_rfl
    have co : Tryz.prog.cellsOf 104 = 7 := by kernel_rfl
    have ci : Tryz.prog.cellsOf 3 = 1 := by kernel_rfl
    have each : ∀ i, i < n → ∃ y : KpD, (∃ (a1 : Option Addr) (n1 c1 : Nat) (a2 : Option Addr) (n2 c2 : Nat) (a3 : Option Addr) (n3 c3 : Nat), (W.cell? (ad.add (i * 9 + 0)) = some (.string y.p) ∧ W.cell? (ad.add (i * 9 + 1)) = some (.slice a1 n1 c1) ∧ W.cell? (ad.add (i * 9 + 2)) = some (.slice a2 n2 c2) ∧ W.cell? (ad.add (i * 9 + 3)) = some (.int .i64 y.st) ∧ W.cell? (ad.add (i * 9 + 4)) = some (.slice a3 n3 c3) ∧ W.cell? (ad.add (i * 9 + 5)) = some (.string y.b) ∧ W.cell? (ad.add (i * 9 + 6)) = some (.int .i64 y.t) ∧ W.cell? (ad.add (i * 9 + 7)) = some (.int .i64 y.a) ∧ W.cell? (ad.add (i * 9 + 8)) = some (.int .i64 y.q)) ∧ ArgT W W.heap.size a1 n1 y.xs ∧ ArgT W W.heap.size a2 n2 y.ys ∧ ArgF W W.heap.size a3 n3 y.fs) ∧ KpMax y := by
      intro i hi
      obtain ⟨cs', h1, h2⟩ := hx i (by omega)
      rw [ce] at h1
      obtain ⟨_, hlen, hcell⟩ := World.cells?_some h1
      obtain ⟨xs, k, hk, hxy, _, hxl, hf⟩ := DataW.trod_struct Tryz.underlying106 h2
      match xs, hxl, cs', hlen with
      | [x0, x1, x2], _, [v0, v1, v2, v3, v4, v5, v6, v7, v8], _ =>
        have g0 := hf 0 _ rfl
        have g1 := hf 1 _ rfl
        have g2 := hf 2 _ rfl
        simp [ci, co] at g0 g1 g2
        obtain ⟨p, a1, n1, c1, xs, a2, n2, c2, ys, st, a3, n3, c3, fs, b, t, ⟨rfl, rfl, rfl, rfl, rfl, rfl, rfl⟩, w1, w2, w3, m1, m2, m3, s1, s2, s3, s4, s5⟩ := objCells g0
        obtain ⟨ka, e1, _, _⟩ := DataW.trod_int Tryz.underlying3 g1
        obtain ⟨kq, e2, _, _⟩ := DataW.trod_int Tryz.underlying3 g2
        simp only [List.cons.injEq, and_true] at e1 e2
        subst e1 e2
        have c0x := hcell 0 (by omega)
        have c1x := hcell 1 (by omega)
        have c2x := hcell 2 (by omega)
        have c3x := hcell 3 (by omega)
        have c4x := hcell 4 (by omega)
        have c5x := hcell 5 (by omega)
        have c6x := hcell 6 (by omega)
        have c7x := hcell 7 (by omega)
        have c8x := hcell 8 (by omega)
        rw [Go.Deep.add_add] at c0x c1x c2x c3x c4x c5x c6x c7x c8x
        refine ⟨⟨p, xs, ys, st, fs, b, t, ka, kq⟩, ⟨a1, n1, c1, a2, n2, c2, a3, n3, c3, ⟨by simpa using c0x, by simpa using c1x, by simpa using c2x, by simpa using c3x, by simpa using c4x, by simpa using c5x, by simpa using c6x, by simpa using c7x, by simpa using c8x⟩, w1, w2, w3⟩, ?_⟩
        unfold KpMax
        show xs.length ≤ maxLen ∧ ys.length ≤ maxLen ∧ fs.length ≤ maxLen ∧ (∀ i, i < xs.length → (textAt xs i).size ≤ maxLen) ∧ (∀ i, i < ys.length → (textAt ys i).size ≤ maxLen) ∧ WalkF fs.length fs ∧ p.size ≤ maxLen ∧ b.size ≤ maxLen
        rw [w1.len, w2.len, w3.len]
        exact ⟨m1, m2, m3, s1, s2, s3, s4, s5⟩
    haveI : Inhabited KpD := ⟨zeroK⟩
    obtain ⟨q, hq⟩ := Go.Deep.choose_lt each
    have hat : ∀ i, i < n → kpAt ((List.range n).map q) i = q i := fun i hi => by
      unfold kpAt
      rw [List.getD_eq_getElem?_getD, List.getElem?_map, List.getElem?_range hi]
      rfl
    refine ⟨(List.range n).map q, ⟨by simp, fun i hi => ?_⟩, by omega, fun x hx => ?_⟩
    · obtain ⟨⟨a1, n1, c1, a2, n2, c2, a3, n3, c3, cc, w1, w2, w3⟩, _⟩ := hq i hi
      have hsp : ad.spot = none := by
        obtain ⟨⟨_, _, _, _, _, _, _, _, _, c3, _⟩, _⟩ := hq 0 (by omega)
        have := World.cell?_spot c3.1
        simpa [Addr.add] using this
      obtain ⟨b, off, sp⟩ := ad
      simp only at hsp
      subst hsp
      simp only [addr_add] at cc
      rw [hat i hi]
      have hlt := World.block_lt_of_cell? W _ cc.1
      exact ⟨b, off, rfl, hlt, a1, n1, c1, a2, n2, c2, a3, n3, c3, ⟨by simpa [Nat.add_assoc] using cc.1, by simpa [Nat.add_assoc] using cc.2.1, by simpa [Nat.add_assoc] using cc.2.2.1, by simpa [Nat.add_assoc] using cc.2.2.2.1, by simpa [Nat.add_assoc] using cc.2.2.2.2.1, by simpa [Nat.add_assoc] using cc.2.2.2.2.2.1, by simpa [Nat.add_assoc] using cc.2.2.2.2.2.2.1, by simpa [Nat.add_assoc] using cc.2.2.2.2.2.2.2.1, by simpa [Nat.add_assoc] using cc.2.2.2.2.2.2.2.2⟩, w1, w2, w3⟩
    · obtain ⟨i, hi, rfl⟩ := List.mem_map.1 hx
      exact (hq i (List.mem_range.1 hi)).2

set_option maxRecDepth 100000 in
/-- A store among the arguments: what it holds. -/
theorem openShelf {H : Type} {enc : TypeId × Value → H} {W : World} {r : Reach} {b0 : Nat} {v : Value} {d : DataW H} {ps : List MemPlace} (hval : Value.okWide Tryz.prog W r b0 29 v) (h : DataW.Trod enc Tryz.prog W 0 (fun _ => true) true 29 v d ps) :
    ∃ (a1 : Option Addr) (n1 c1 : Nat) (cs : List ByteArray) (a2 : Option Addr) (n2 c2 : Nat) (ws : List (Int × ByteArray)) (a3 : Option Addr) (n3 c3 : Nat) (ks : List KpD) (a4 : Option Addr) (n4 c4 : Nat) (bl : List (Int × ByteArray × ByteArray × Int)) (nx sq : Int), v = .agg #[.slice a1 n1 c1, .slice a2 n2 c2, .slice a3 n3 c3, .slice a4 n4 c4, .int .i64 nx, .int .i64 sq] ∧ ArgT W W.heap.size a1 n1 cs ∧ ArgWrite W W.heap.size a2 n2 ws ∧ ArgKept W W.heap.size a3 n3 ks ∧ ArgBan W W.heap.size a4 n4 bl ∧ (n1 ≤ maxLen ∧ n2 ≤ maxLen ∧ n3 ≤ maxLen ∧ n4 ≤ maxLen ∧ (∀ i, i < n1 → (textAt cs i).size ≤ maxLen) ∧ (∀ x ∈ ws, (x.2).size ≤ maxLen) ∧ (∀ k ∈ ks, KpMax k) ∧ ∀ x ∈ bl, (x.2.1).size ≤ maxLen ∧ (x.2.2.1).size ≤ maxLen) := by
  obtain ⟨cs, rfl, hsz⟩ := okWide_struct Tryz.underlying29 hval
  obtain ⟨fuel, hf⟩ := h
  obtain ⟨ys, q, _, _, _, hyl, hg⟩ := DataW.trod_struct Tryz.underlying29 hf
  have hc6 : Tryz.prog.cellsOf 29 = 6 := by kernel_rfl
  have hcD : Tryz.prog.cellsOf 25 = 2 := by kernel_rfl
  have e3 : Tryz.prog.cellsOf 3 = 1 := by kernel_rfl
  have eK : Tryz.prog.cellsOf 26 = 1 := by kernel_rfl
  have eB : Tryz.prog.cellsOf 27 = 1 := by kernel_rfl
  have eS : Tryz.prog.cellsOf 22 = 1 := by kernel_rfl
  have eW : Tryz.prog.cellsOf 23 = 1 := by kernel_rfl
  rw [hc6] at hsz
  obtain ⟨l⟩ := cs
  obtain ⟨d0, d1, d2, d3, d4, d5, rfl⟩ : ∃ d0 d1 d2 d3 d4 d5, l = [d0, d1, d2, d3, d4, d5] := by
    match l, hsz with
    | [d0, d1, d2, d3, d4, d5], _ => exact ⟨d0, d1, d2, d3, d4, d5, rfl⟩
  have g0 := hg 0 _ rfl
  have g1 := hg 1 _ rfl
  have g2 := hg 2 _ rfl
  have g3 := hg 3 _ rfl
  have g4 := hg 4 _ rfl
  simp [Value.cells, e3, eK, eB, hcD] at g0 g1 g2 g3 g4
  have hy5 : ys.length = 5 := hyl
  rw [List.getElem?_eq_getElem (show 0 < ys.length by omega)] at g0
  rw [List.getElem?_eq_getElem (show 1 < ys.length by omega)] at g1
  rw [List.getElem?_eq_getElem (show 2 < ys.length by omega)] at g2
  rw [List.getElem?_eq_getElem (show 3 < ys.length by omega)] at g3
  rw [List.getElem?_eq_getElem (show 4 < ys.length by omega)] at g4
  obtain ⟨zs, q2, _, _, _, hzl, hk⟩ := DataW.trod_struct Tryz.underlying25 g0
  have k0 := hk 0 _ rfl
  have k1 := hk 1 _ rfl
  simp [eS, eW] at k0 k1
  have hz2 : zs.length = 2 := hzl
  rw [List.getElem?_eq_getElem (show 0 < zs.length by omega)] at k0
  rw [List.getElem?_eq_getElem (show 1 < zs.length by omega)] at k1
  obtain ⟨a1, n1, c1, rfl⟩ : ∃ a n cap, d0 = .slice a n cap := by
    rcases DataW.trod_slice Tryz.underlying22 k0 with ⟨h, _⟩ | ⟨a, n, cap, _, _, _, _, h, _⟩
    · exact ⟨none, 0, 0, by simpa using h⟩
    · exact ⟨_, n, cap, by simpa using h⟩
  obtain ⟨a2, n2, c2, rfl⟩ : ∃ a n cap, d1 = .slice a n cap := by
    rcases DataW.trod_slice Tryz.underlying23 k1 with ⟨h, _⟩ | ⟨a, n, cap, _, _, _, _, h, _⟩
    · exact ⟨none, 0, 0, by simpa using h⟩
    · exact ⟨_, n, cap, by simpa using h⟩
  obtain ⟨a3, n3, c3, rfl⟩ : ∃ a n cap, d2 = .slice a n cap := by
    rcases DataW.trod_slice Tryz.underlying26 g1 with ⟨h, _⟩ | ⟨a, n, cap, _, _, _, _, h, _⟩
    · exact ⟨none, 0, 0, by simpa using h⟩
    · exact ⟨_, n, cap, by simpa using h⟩
  obtain ⟨a4, n4, c4, rfl⟩ : ∃ a n cap, d3 = .slice a n cap := by
    rcases DataW.trod_slice Tryz.underlying27 g2 with ⟨h, _⟩ | ⟨a, n, cap, _, _, _, _, h, _⟩
    · exact ⟨none, 0, 0, by simpa using h⟩
    · exact ⟨_, n, cap, by simpa using h⟩
  obtain ⟨nx, h4, _, _⟩ := DataW.trod_int Tryz.underlying3 g3
  obtain ⟨sq, h5, _, _⟩ := DataW.trod_int Tryz.underlying3 g4
  obtain ⟨xs, x1, x2, x3⟩ := openTexts k0
  obtain ⟨ws, y1, y2, y3⟩ := openWriteS k1
  obtain ⟨ks, z1, z2, z3⟩ := openKeptS g1
  obtain ⟨bl, b1, b2, b3⟩ := openBanS g2
  simp only [List.cons.injEq, and_true] at h4 h5
  subst h4 h5
  exact ⟨a1, n1, c1, xs, a2, n2, c2, ws, a3, n3, c3, ks, a4, n4, c4, bl, nx, sq, rfl, x1, y1, z1, b1, x2, y2, z2, b2, x3, y3, z3, b3⟩

end Go.Proofs.YtcipbkkpkhameaaGreat
