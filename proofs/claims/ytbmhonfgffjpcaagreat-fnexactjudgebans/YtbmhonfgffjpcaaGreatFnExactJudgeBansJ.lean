/- What the proof of FnExactJudgeBans leans on: contracts of the program's and the specification's functions, and plain facts (part 10 of 11). -/
import Derived.Test.YtbmhonfgffjpcaaGreatFnExactJudgeBansI
set_option maxHeartbeats 16000000
set_option maxRecDepth 100000
namespace Go.Proofs.YtbmhonfgffjpcaaGreat
open Go.RowKit
open Go.Lib hiding intOf
/-- At most five bans, each right. -/
def BansP (bl : List (Int × ByteArray × ByteArray × Int)) : Prop := bl.length ≤ 5 ∧ ∀ x ∈ bl, BanP x.1 x.2.1 x.2.2.1 x.2.2.2
/-- The number of the one ahead, or nought. -/
def lastQ (ks : List KpD) (i : Nat) : Int := if i = 0 then 0 else (kpAt ks (i - 1)).q
theorem lastQ_succ (ks : List KpD) (i : Nat) : lastQ ks (i + 1) = (kpAt ks i).q := by unfold lastQ; rw [if_neg (by omega), Nat.add_sub_cancel]
/-- Right, but for its cell's being another's. -/
def KpA (ks : List KpD) (sq : Int) (i : Nat) : Prop := ObjK (kpAt ks i) ∧ (5 ≤ (kpAt ks i).a ∧ (kpAt ks i).a ≤ 19) ∧ lastQ ks i < (kpAt ks i).q ∧ (kpAt ks i).q < sq
theorem lastQ_ge {ks : List KpD} {sq : Int} {n : Nat} (h : ∀ m, m < n → KpA ks sq m) : ∀ i, i ≤ n → 0 ≤ lastQ ks i
 | 0, _ => by simp [lastQ]
 | i + 1, hi => by
  have h1 := lastQ_ge h i (by omega)
  have h2 := (h i (by omega)).2.2.1
  rw [lastQ_succ]
  omega
theorem kpOk_A {ks : List KpD} {sq : Int} {i : Nat} (h : KpOk ks sq i) : KpA ks sq i := by
 obtain ⟨h1, h2, h3, h4, _⟩ := h
 refine ⟨h1, h2, ?_, by omega⟩
 unfold lastQ
 split
 · omega
 · exact h4 (by omega)
theorem kpA_Ok {ks : List KpD} {sq : Int} {n i : Nat} (h : ∀ m, m < n → KpA ks sq m) (hi : i < n) (ha : ∀ j, j < i → (kpAt ks j).a ≠ (kpAt ks i).a) : KpOk ks sq i := by
 obtain ⟨h1, h2, h3, h4⟩ := h i hi
 have h5 := lastQ_ge h i (by omega)
 refine ⟨h1, h2, by omega, fun h0 => ?_, ha⟩
 unfold lastQ at h3
 rw [if_neg (by omega)] at h3
 exact h3
theorem apart_at {kv : List (KpD × Value × Value × Value)} : ApartA kv ↔ ∀ i, i < kv.length → ∀ j, j < i → (kpAt (kv.map (·.1)) j).a ≠ (kpAt (kv.map (·.1)) i).a := by
 have e : ∀ i (hi : i < kv.length), kpAt (kv.map (·.1)) i = (kv[i]'hi).1 := fun i hi => by
  rw [← kpAt_get _ i (by rw [List.length_map]; exact hi)]
  simp
 unfold ApartA
 rw [List.pairwise_iff_getElem]
 constructor
 ·
  intro h i hi j hj
  rw [e i hi, e j (by omega)]
  exact h j i (by omega) hi hj
 ·
  intro h i j hi hj hij
  have h2 := h j hj i hij
  rw [e j hj, e i hi] at h2
  exact h2
theorem keptOk_any (V : Value) (kv : List (KpD × Value × Value × Value)) (sq : Int) (B : Nat) (w : World) (h : KeptsO w B V kv) (hn : kv.length ≤ 1048576) (hs : ∀ x ∈ kv, KpSmall x.1) :
  Calls Tryz.prog 102 #[V, .int .i64 sq] w fun e w' => BoolIs (∀ m, m < kv.length → KpOk (kv.map (·.1)) sq m) w e w' := by
 obtain ⟨o3, c3, e3⟩ := slice_of_owns h.row
 subst e3
 obtain ⟨n3, hn3⟩ := exq kv.length
 rw [← hn3] at h ⊢
 obtain ⟨ks, hks⟩ := exq (kv.map (·.1))
 have HKS : Hid (kv.map (·.1) = ks) := hks.symm
 have HLK : Hid (kv.length = n3) := hn3.symm
 have bn3 : n3 ≤ 1048576 := by rw [hn3]; exact hn
 have HKP : Hid (∀ W, Below w.heap.size w W → KeptsO W B (.slice o3 n3 c3) kv) := fun W hb => KeptsO.below h hb
 clear hn3 hks h hn
 have HSM : Hid (∀ x ∈ kv, KpSmall x.1) := hs
 clear hs
 have hb0 : Below w.heap.size w w := Below.refl _ _
 go_enter Tryz.func102, Tryz.ntmps102
 go_wp2_with fail
 go_loopw [5, 10] (fun l i wr => ∃ i' : Nat, i' ≤ n3 ∧ l = .int .i64 (lastQ ks i') ∧ i = .int .i64 (i' : Int) ∧ Hid (Below w.heap.size w (wr)) ∧ Hid (∀ m, m < i' → KpA ks sq m)) (fun _ i _ => n3 - (intOf i).toNat)
 case atStart => exact ⟨0, Nat.zero_le _, rfl, rfl, hb0, fun m hm => absurd hm (by omega)⟩
 case round =>
  obtain ⟨i, hi, rfl, rfl, HW, HN⟩ := hrel
  by_cases hlt : (i : Int) < (n3 : Int)
  ·
   have hb1 := HW.out
   clear HW hb0
   obtain ⟨g3, p3, hV, _, _⟩ := (HKP.out _ hb1).look i (by rw [HLK.out]; omega)
   rw [HLK.out] at hV
   injection hV with hV1 hV2 hV3
   subst hV1 hV3
   clear hV2
   obtain ⟨xX, hxX⟩ := exq (kvAt kv i)
   have HMx : Hid (xX ∈ kv) := by show _ ∈ _; rw [hxX]; exact kvAt_mem kv i (by rw [HLK.out]; omega)
   have HEx : Hid (kpAt ks i = xX.1) := by show _ = _; rw [hxX, ← HKS.out]; exact (kvAt_fst kv i (by rw [HLK.out]; omega)).symm
   have HTKx : Hid (kv.take (i + 1) = kv.take i ++ [xX]) := by show _ = _; rw [hxX]; exact kvAt_take kv i (by rw [HLK.out]; omega)
   have HKx : Hid (∀ W, Below w.heap.size w W → KpAt W g3 i xX) := fun W hb => by
    obtain ⟨g', p', hV, _, hc⟩ := (HKP.out W hb).look i (by rw [HLK.out]; omega)
    injection hV with hV1 _ _
    cases hV1
    rw [hxX]
    exact hc
   clear hxX
   obtain ⟨x, kuv1, kuv2, kuv3⟩ := xX
   obtain ⟨ku1, kuc1, hu⟩ := slice_of_owns ((HKP.out _ hb1).names HMx.out)
   have hu' : kuv1 = .slice ku1 x.xs.length kuc1 := hu
   subst hu'
   clear hu
   obtain ⟨ku2, kuc2, hu⟩ := slice_of_owns ((HKP.out _ hb1).vals HMx.out)
   have hu' : kuv2 = .slice ku2 x.ys.length kuc2 := hu
   subst hu'
   clear hu
   obtain ⟨ku3, kuc3, hu⟩ := slice_of_owns ((HKP.out _ hb1).flds HMx.out)
   have hu' : kuv3 = .slice ku3 x.fs.length kuc3 := hu
   subst hu'
   clear hu
   have r0x := (HKx.out _ hb1).c0
   have r1x := (HKx.out _ hb1).c1
   have r2x := (HKx.out _ hb1).c2
   have r3x := (HKx.out _ hb1).c3
   have r4x := (HKx.out _ hb1).c4
   have r5x := (HKx.out _ hb1).c5
   have r6x := (HKx.out _ hb1).c6
   have r7x := (HKx.out _ hb1).c7
   have r8x := (HKx.out _ hb1).c8
   dsimp only at r0x r1x r2x r3x r4x r5x r6x r7x r8x
   go_upto_region 5 with fail
   obtain ⟨qv1, hqv1⟩ := exq ((wr).heap.size)
   obtain ⟨w2, hW2⟩ := exq ((wr).alloc (.cells #[.string x.p, .slice ku1 x.xs.length kuc1, .slice ku2 x.ys.length kuc2, .int .i64 x.st, .slice ku3 x.fs.length kuc3, .string x.b, .int .i64 x.t, .int .i64 x.a, .int .i64 x.q] 103))
   have hz2 : (wr).heap.size = qv1 := hqv1.symm
   first | rw [← hW2, ← hqv1] | rw [← hW2]
   have hs2 := hsa hW2 hz2
   have bw := bal hW2
   have hb2 := hbt hb1 bw
   have HM2 := hsz bw
   have HBv1_2 := hnew hW2 hz2
   clear hb1 bw hW2 hz2
   clear hs2 hqv1
   clear r0x r1x r2x r3x r4x r5x r6x r7x r8x
   have cv1_0 := (k9c HBv1_2).1
   have cv1_1 := (k9c HBv1_2).2.1
   have cv1_2 := (k9c HBv1_2).2.2.1
   have cv1_3 := (k9c HBv1_2).2.2.2.1
   have cv1_4 := (k9c HBv1_2).2.2.2.2.1
   have cv1_5 := (k9c HBv1_2).2.2.2.2.2.1
   have cv1_6 := (k9c HBv1_2).2.2.2.2.2.2.1
   go_wp2_with fail
   refine (implObjOk_k x _ _ _ _ ((HKP.out _ hb2).read HMx.out) (HSM.out _ HMx.out)).mono ?_
   rintro e w3 ⟨uo, rfl, huo, bw⟩
   have hb3 := hbt hb2 bw
   have HBv1_3 := hblk HBv1_2 bw
   clear hb2 HBv1_2 bw
   clear cv1_0 cv1_1 cv1_2 cv1_3 cv1_4 cv1_5 cv1_6
   cases uo with
   | false =>
    have HNuo : Hid (¬ (ObjK x)) := fun h => nomatch huo.2 h
    clear huo
    go_wp2_with fail
    go_ret
    exact BoolIs.no (fun h => by have hk := h i (by omega); rw [HKS.out] at hk; have hA := kpOk_A hk; unfold KpA at hA; rw [HEx.out] at hA; exact HNuo.out hA.1) hb3
   | true =>
    have HYuo : Hid (ObjK x) := huo.1 rfl
    clear huo
    have cv1_7 := (k9c HBv1_3).2.2.2.2.2.2.2.1
    go_wp2_with fail
    refine (isObjectCell_any x.a _).mono ?_
    rintro e w4 ⟨uka, rfl, huka, bw⟩
    have hb4 := hbt hb3 bw
    have HBv1_4 := hblk HBv1_3 bw
    clear hb3 HBv1_3 bw
    clear cv1_7
    cases uka with
    | false =>
     have HNuka : Hid (¬ (5 ≤ x.a ∧ x.a ≤ 19)) := fun h => nomatch huka.2 h
     clear huka
     go_wp2_with fail
     go_ret
     exact BoolIs.no (fun h => by have hk := h i (by omega); rw [HKS.out] at hk; have hA := kpOk_A hk; unfold KpA at hA; rw [HEx.out] at hA; exact HNuka.out hA.2.1) hb4
    | true =>
     have HYuka : Hid (5 ≤ x.a ∧ x.a ≤ 19) := huka.1 rfl
     clear huka
     by_cases hc1 : x.q ≤ (lastQ ks i)
     ·
      have HLQ : Hid (x.q ≤ lastQ ks i) := hc1
      have cv1_8 := (k9c HBv1_4).2.2.2.2.2.2.2.2
      go_wp2_with fail
      go_ret
      exact BoolIs.no (fun h => by have hk := h i (by omega); rw [HKS.out] at hk; have hA := kpOk_A hk; unfold KpA at hA; rw [HEx.out] at hA; have h2 := HLQ.out; omega) hb4
     ·
      have HLQ : Hid (¬ x.q ≤ lastQ ks i) := hc1
      have cv1_8 := (k9c HBv1_4).2.2.2.2.2.2.2.2
      by_cases hc2 : sq ≤ x.q
      ·
       have HGQ : Hid (sq ≤ x.q) := hc2
       go_wp2_with fail
       go_ret
       exact BoolIs.no (fun h => by have hk := h i (by omega); rw [HKS.out] at hk; have hA := kpOk_A hk; unfold KpA at hA; rw [HEx.out] at hA; have h2 := HGQ.out; omega) hb4
      ·
       have HGQ : Hid (¬ sq ≤ x.q) := hc2
       have HN2 : Hid (∀ m, m < i + 1 → KpA ks sq m) := fun m hm => by
        by_cases e : m = i
        ·
         subst e
         unfold KpA
         rw [HEx.out]
         have h1 := HLQ.out
         have h2 := HGQ.out
         exact ⟨HYuo.out, HYuka.out, by omega, by omega⟩
        · exact HN.out m (by omega)
       have HLS : Hid (x.q = lastQ ks (i + 1)) := by show _ = _; rw [lastQ_succ, HEx.out]
       go_wp2_with fail
       go_roundw
       case rel => exact ⟨i + 1, by omega, congrArg (Value.int .i64) HLS.out, by go_num, hb4, HN2⟩
       case measure => simp [intOf]; omega
  ·
   have hb1 := HW.out
   clear HW hb0
   have HKA : Hid (∀ m, m < n3 → KpA ks sq m) := fun m hm => HN.out m (by omega)
   have HAB : Hid (∀ x ∈ kv, 0 ≤ x.1.a ∧ x.1.a ≤ 1000) := fun x hx => by
    obtain ⟨j, hj, e⟩ := List.getElem_of_mem hx
    have h2 := (HKA.out j (by rw [← HLK.out]; exact hj)).2.1
    rw [← HKS.out, ← kvAt_fst kv j hj, ← kvAt_get kv j hj, e] at h2
    omega
   clear HN
   go_wp2_with fail
   refine (knownOf_any _ kv B _ (HKP.out _ hb1) (by rw [HLK.out]; exact bn3) (fun x hx => HAB.out x hx)).mono ?_
   rintro e w2 ⟨bM, nM, D, rfl, hnM, hko, hmn, hbg, bw⟩
   have HBK : Hid (w.heap.size ≤ (wr).heap.size) := hb1.size
   have hb2 := hbt hb1 bw
   have HM2 := hsz bw
   clear hb1 bw
   have EMmk_2 : Hid (KnownO w2 bM nM D) := hko
   have HMN : Hid (MapN D kv) := hmn
   clear hbg hko hmn
   by_cases hc1 : (Maps.size (D) : Int) = (n3 : Int)
   ·
    have hc1b : (((Maps.size (D) : Int) : Int) == ((n3 : Int) : Int)) = true := by simpa using hc1
    have hc1n : (((Maps.size (D) : Int) : Int) != ((n3 : Int) : Int)) = false := by simpa using hc1
    have HSZ : Hid ((Maps.size D : Int) = (n3 : Int)) := hc1
    have hc1H : Hid ((Maps.size (D) : Int) = (n3 : Int)) := hc1
    clear hc1
    have hmp := EMmk_2.out
    unfold KnownO at hmp
    go_wp2_with (first | (at_len; refine wpList_len_own _ rfl _ 203 rfl 3 103 Tryz.underlying203 mpR bM nM (D) rfl hmp ?_) | go_in)
    go_ret
    refine BoolIs.yes (fun m hm => ?_) hb2
    have ha : ApartA kv := HMN.out.eq.1 (by have := HSZ.out; rw [HLK.out]; omega)
    rw [apart_at] at ha
    rw [HKS.out] at ha ⊢
    exact kpA_Ok (n := n3) HKA.out hm (ha m (by rw [HLK.out]; exact hm))
   ·
    have hc1b : (((Maps.size (D) : Int) : Int) == ((n3 : Int) : Int)) = false := by simpa using hc1
    have hc1n : (((Maps.size (D) : Int) : Int) != ((n3 : Int) : Int)) = true := by simpa using hc1
    have HSZ : Hid (¬ (Maps.size D : Int) = (n3 : Int)) := hc1
    have hc1H : Hid (¬ ((Maps.size (D) : Int) = (n3 : Int))) := hc1
    clear hc1
    have hmp := EMmk_2.out
    unfold KnownO at hmp
    go_wp2_with (first | (at_len; refine wpList_len_own _ rfl _ 203 rfl 3 103 Tryz.underlying203 mpR bM nM (D) rfl hmp ?_) | go_in)
    go_ret
    refine BoolIs.no (fun h => ?_) hb2
    have hsz := HSZ.out
    have ha : ApartA kv := apart_at.2 (fun m hm => (h m (by rw [← HLK.out]; exact hm)).2.2.2.2)
    have h2 := HMN.out.eq.2 ha
    rw [HLK.out] at h2
    omega
theorem bansOk_any (VB : Value) (bl : List (Int × ByteArray × ByteArray × Int)) (B : Nat) (w : World) (h : w.ownsRow B 152 4 VB bl.length (flatBan bl)) (hn : bl.length ≤ 1048576) (hz : ∀ x ∈ bl, x.2.1.size ≤ maxLen ∧ x.2.2.1.size ≤ maxLen) :
  Calls Tryz.prog 103 #[VB] w fun e w' => BoolIs (BansP bl) w e w' := by
 obtain ⟨o4, c4, e4⟩ := slice_of_owns h
 subst e4
 obtain ⟨n4, hn4⟩ := exq bl.length
 rw [← hn4] at h ⊢
 have HLB : Hid (bl.length = n4) := hn4.symm
 have bn4 : n4 ≤ 1048576 := by rw [hn4]; exact hn
 have HBN : Hid (∀ W, Below w.heap.size w W → W.ownsRow B 152 4 (.slice o4 n4 c4) n4 (flatBan bl)) := fun W hb => owns_below h hb (fun g hg => owns_lt h hg)
 have HBZ : Hid (∀ x ∈ bl, x.2.1.size ≤ maxLen ∧ x.2.2.1.size ≤ maxLen) := hz
 clear hn4 h hn hz
 have hb0 : Below w.heap.size w w := Below.refl _ _
 go_enter Tryz.func103, Tryz.ntmps103
 go_wp2_with fail
 go_loopw [7] (fun i wr => ∃ j : Nat, j ≤ n4 ∧ i = .int .i64 (j : Int) ∧ Hid (Below w.heap.size w (wr)) ∧ Hid (∀ x ∈ bl.take j, BanP x.1 x.2.1 x.2.2.1 x.2.2.2)) (fun i _ => n4 - (intOf i).toNat)
 case atStart => exact ⟨0, Nat.zero_le _, rfl, hb0, fun x hx => by simp at hx⟩
 case round =>
  obtain ⟨j, hj, rfl, HW, HN⟩ := hrel
  by_cases hlt : (j : Int) < (n4 : Int)
  ·
   have hb1 := HW.out
   clear HW hb0
   have hbn := HBN.out _ hb1
   try rw [HLB.out] at hbn
   have hbv := ban_view hbn
   clear hbn
   obtain ⟨g4, hog, hgl, r1, r2, r3, r4⟩ := hbv.2 j (by first | omega | (rw [HLB.out]; omega))
   clear hbv
   subst hog
   obtain ⟨y, hy⟩ := exq (banAt bl j)
   rw [← hy] at r1 r2 r3 r4
   have HM : Hid (y ∈ bl) := by show _ ∈ _; rw [hy]; exact banAt_mem bl j (by rw [HLB.out]; omega)
   have HTK : Hid (bl.take (j + 1) = bl.take j ++ [y]) := by show _ = _; rw [hy]; exact take_banAt bl j (by rw [HLB.out]; omega)
   clear hy hgl
   obtain ⟨y0, y1, y2, y3⟩ := y
   dsimp only at r1 r2 r3 r4
   go_upto_region 4 with fail
   obtain ⟨qv1, hqv1⟩ := exq ((wr).heap.size)
   obtain ⟨w2, hW2⟩ := exq ((wr).alloc (.cells #[.int .i64 y0, .string y1, .string y2, .int .i64 y3] 152))
   have hz2 : (wr).heap.size = qv1 := hqv1.symm
   first | rw [← hW2, ← hqv1] | rw [← hW2]
   have hs2 := hsa hW2 hz2
   have bw := bal hW2
   have hb2 := hbt hb1 bw
   have HBv1_2 := hnew hW2 hz2
   clear hb1 bw hW2 hz2
   clear hs2 hqv1
   clear r1 r2 r3 r4
   have cv1_0 := (k4c HBv1_2).1
   have cv1_1 := (k4c HBv1_2).2.1
   have cv1_2 := (k4c HBv1_2).2.2.1
   have cv1_3 := (k4c HBv1_2).2.2.2
   go_wp2_with fail
   refine (implBanOk_any y0 y1 y2 y3 _ (HBZ.out _ HM.out).1 (HBZ.out _ HM.out).2).mono ?_
   rintro e w3 ⟨ub, rfl, hub, bw⟩
   have hb3 := hbt hb2 bw
   have HBv1_3 := hblk HBv1_2 bw
   clear hb2 HBv1_2 bw
   clear cv1_0 cv1_1 cv1_2 cv1_3
   cases ub with
   | false =>
    have HNub : Hid (¬ (BanP y0 y1 y2 y3)) := fun h => nomatch hub.2 h
    clear hub
    go_wp2_with fail
    go_ret
    exact BoolIs.no (fun h => HNub.out ((show BansP bl from h).2 _ HM.out)) hb3
   | true =>
    have HYub : Hid (BanP y0 y1 y2 y3) := hub.1 rfl
    clear hub
    have HN2 : Hid (∀ x ∈ bl.take (j + 1), BanP x.1 x.2.1 x.2.2.1 x.2.2.2) := fun x hx => by
     rw [HTK.out] at hx
     rcases List.mem_append.1 hx with hx | hx
     · exact HN.out x hx
     · rw [List.mem_singleton.1 hx]; exact HYub.out
    go_wp2_with fail
    go_roundw
    case rel => exact ⟨j + 1, by omega, by go_num, hb3, HN2⟩
    case measure => simp [intOf]; omega
  ·
   have hb1 := HW.out
   clear HW hb0
   have HAL : Hid (∀ x ∈ bl, BanP x.1 x.2.1 x.2.2.1 x.2.2.2) := fun x hx => HN.out x (by rw [List.take_of_length_le (by rw [HLB.out]; omega)]; exact hx)
   clear HN
   by_cases hc1 : (n4 : Int) ≤ 5
   ·
    have HB5 : Hid (n4 ≤ 5) := (by have := hc1; show _ ≤ _; omega)
    go_wp2_with fail
    go_ret
    exact BoolIs.yes (⟨by rw [HLB.out]; exact HB5.out, HAL.out⟩ : BansP bl) hb1
   ·
    have HB5 : Hid (¬ n4 ≤ 5) := (by have := hc1; show ¬ _; omega)
    go_wp2_with fail
    go_ret
    exact BoolIs.no (fun h => by have h1 : bl.length ≤ 5 := h.1; have h5 := HB5.out; rw [HLB.out] at h1; omega) hb1
theorem implShelfOk_any (v1 v2 V VB : Value) (kv : List (KpD × Value × Value × Value)) (s : ShD) (B : Nat) (w : World) (h : ShelfO w B v1 v2 V VB kv s) (hz : ShSmall s) :
  Calls Tryz.prog 67 #[.agg #[v1, v2, V, VB, .int .i64 s.nx, .int .i64 s.sq]] w fun e w' => BoolIs (ShelfP s) w e w' := by
 obtain ⟨o1, c1, e1⟩ := slice_of_owns h.disk.cells
 obtain ⟨o2, c2, e2⟩ := slice_of_owns h.disk.pend
 obtain ⟨o3, c3, e3⟩ := slice_of_owns h.kept.row
 obtain ⟨o4, c4, e4⟩ := slice_of_owns h.bans
 subst e1 e2 e3 e4
 obtain ⟨n1, hn1⟩ := exq (s.cs.length)
 obtain ⟨n2, hn2⟩ := exq (s.ws.length)
 obtain ⟨n3, hn3⟩ := exq kv.length
 obtain ⟨n4, hn4⟩ := exq (s.bl.length)
 rw [← hn1, ← hn2, ← hn3, ← hn4] at h ⊢
 have HLN : Hid (s.cs.length = n1 ∧ s.ws.length = n2 ∧ kv.length = n3 ∧ s.bl.length = n4) := ⟨hn1.symm, hn2.symm, hn3.symm, hn4.symm⟩
 have HKS : Hid (kv.map (·.1) = s.ks) := h.2
 have HZ : Hid (ShSmall s) := hz
 have bn1 : n1 ≤ 1048576 := by rw [hn1]; exact hz.c
 have bn2 : n2 ≤ 1048576 := by rw [hn2]; exact hz.w
 have bn3 : n3 ≤ 1048576 := by rw [hn3, ← List.length_map (f := (·.1)), h.2]; exact hz.k
 have bn4 : n4 ≤ 1048576 := by rw [hn4]; exact hz.b
 have HSH : Hid (∀ W, Below w.heap.size w W → ShelfO W B (.slice o1 n1 c1) (.slice o2 n2 c2) (.slice o3 n3 c3) (.slice o4 n4 c4) kv s) := fun W hb => h.below hb
 have HKP : Hid (∀ W, Below w.heap.size w W → KeptsO W B (.slice o3 n3 c3) kv) := fun W hb => (h.below hb).kept
 have HLK : Hid (kv.length = n3) := hn3.symm
 clear hn1 hn2 hn3 hn4 h hz
 have hb0 : Below w.heap.size w w := Below.refl _ _
 go_enter Tryz.func67, Tryz.ntmps67
 go_upto_region 1 with fail
 obtain ⟨qv1, hqv1⟩ := exq ((w).heap.size)
 obtain ⟨w1, hW1⟩ := exq ((w).alloc (.cells #[.slice o1 n1 c1, .slice o2 n2 c2, .slice o3 n3 c3, .slice o4 n4 c4, .int .i64 s.nx, .int .i64 s.sq] 53))
 have hz1 : (w).heap.size = qv1 := hqv1.symm
 first | rw [← hW1, ← hqv1] | rw [← hW1]
 have hs1 := hsa hW1 hz1
 have bw := bal hW1
 have hb1 := hbt hb0 bw
 have HBv1_1 := hnew hW1 hz1
 clear hb0 bw hW1 hz1
 clear hs1 hqv1
 have cv1_0 := (k6c HBv1_1).1
 have cv1_1 := (k6c HBv1_1).2.1
 go_wp2_with fail
 refine (implDiskOk_any _ _ n1 s.cs n2 s.ws B _ (by have hd := (HSH.out _ hb1).disk; rw [HLN.out.1, HLN.out.2.1] at hd; exact hd) (by omega) (by omega)).mono ?_
 rintro e w2 ⟨ud, rfl, hud, bw⟩
 have hb2 := hbt hb1 bw
 have HBv1_2 := hblk HBv1_1 bw
 clear hb1 HBv1_1 bw
 clear cv1_0 cv1_1
 cases ud with
 | false =>
  have HNud : Hid (¬ (DiskP s.cs s.ws)) := fun h => nomatch hud.2 h
  clear hud
  go_wp2_with fail
  go_ret
  exact BoolIs.no (fun h => HNud.out h.1) hb2
 | true =>
  have HYud : Hid (DiskP s.cs s.ws) := hud.1 rfl
  clear hud
  have cv1_4 := (k6c HBv1_2).2.2.2.2.1
  go_wp2_with fail
  refine (isObjectCell_any s.nx _).mono ?_
  rintro e w3 ⟨unx, rfl, hunx, bw⟩
  have hb3 := hbt hb2 bw
  have HBv1_3 := hblk HBv1_2 bw
  clear hb2 HBv1_2 bw
  clear cv1_4
  cases unx with
  | false =>
   have HNunx : Hid (¬ (5 ≤ s.nx ∧ s.nx ≤ 19)) := fun h => nomatch hunx.2 h
   clear hunx
   go_wp2_with fail
   go_ret
   exact BoolIs.no (fun h => HNunx.out h.2.2.1) hb3
  | true =>
   have HYunx : Hid (5 ≤ s.nx ∧ s.nx ≤ 19) := hunx.1 rfl
   clear hunx
   by_cases hc1 : s.sq < 1
   ·
    have HQ1 : Hid (s.sq < 1) := hc1
    have cv1_5 := (k6c HBv1_3).2.2.2.2.2
    go_wp2_with fail
    go_ret
    exact BoolIs.no (fun h => by have h1 := HQ1.out; have h2 := h.2.2.2.1; omega) hb3
   ·
    have HQ1 : Hid (¬ s.sq < 1) := hc1
    have cv1_5 := (k6c HBv1_3).2.2.2.2.2
    by_cases hc2 : 100000 < s.sq
    ·
     have HQ2 : Hid (100000 < s.sq) := hc2
     go_wp2_with fail
     go_ret
     exact BoolIs.no (fun h => by have h1 := HQ2.out; have h2 := h.2.2.2.1; omega) hb3
    ·
     have HQ2 : Hid (¬ 100000 < s.sq) := hc2
     have cv1_2 := (k6c HBv1_3).2.2.1
     go_wp2_with fail
     refine (keptOk_any _ kv s.sq B _ (HKP.out _ hb3) (by rw [HLK.out]; exact bn3) (fun x hx => HZ.out.kv HKS.out hx)).mono ?_
     rintro e w4 ⟨uk, rfl, huk, bw⟩
     have hb4 := hbt hb3 bw
     have HBv1_4 := hblk HBv1_3 bw
     clear hb3 HBv1_3 bw
     clear cv1_5 cv1_2
     cases uk with
     | false =>
      have HNuk : Hid (¬ (∀ m, m < kv.length → KpOk (kv.map (·.1)) s.sq m)) := fun h => nomatch huk.2 h
      clear huk
      go_wp2_with fail
      go_ret
      exact BoolIs.no (fun h => HNuk.out (fun m hm => by rw [HKS.out]; exact h.2.2.2.2.2 m (by rw [← HKS.out, List.length_map]; exact hm))) hb4
     | true =>
      have HYuk : Hid (∀ m, m < kv.length → KpOk (kv.map (·.1)) s.sq m) := huk.1 rfl
      clear huk
      have cv1_3 := (k6c HBv1_4).2.2.2.1
      go_wp2_with fail
      refine (bansOk_any _ s.bl B _ (by have hd := (HSH.out _ hb4).bans; exact hd) HZ.out.b HZ.out.bm).mono ?_
      rintro e w5 ⟨ub, rfl, hub, bw⟩
      have hb5 := hbt hb4 bw
      have HBv1_5 := hblk HBv1_4 bw
      clear hb4 HBv1_4 bw
      clear cv1_3
      cases ub with
      | false =>
       have HNub : Hid (¬ (BansP s.bl)) := fun h => nomatch hub.2 h
       clear hub
       go_wp2_with fail
       go_ret
       exact BoolIs.no (fun h => HNub.out ⟨h.2.1, h.2.2.2.2.1⟩) hb5
      | true =>
       have HYub : Hid (BansP s.bl) := hub.1 rfl
       clear hub
       go_wp2_with fail
       go_ret
       exact BoolIs.yes ⟨HYud.out, HYub.out.1, HYunx.out, ⟨by have := HQ1.out; omega, by have := HQ2.out; omega⟩, HYub.out.2, fun i hi => by have hk := HYuk.out; rw [HKS.out] at hk; exact hk i (by rw [← HKS.out, List.length_map] at hi; exact hi)⟩ hb5
end Go.Proofs.YtbmhonfgffjpcaaGreat
namespace Go.Proofs.YtbmhonfgffjpcaaGreat
open Go.RowKit
open Go.Lib hiding intOf
theorem FlsO.cap {w : World} {B : Nat} {o : Option Addr} {n c : Nat} {fv : List FlV} (h : FlsO w B (.slice o n c) fv) : n ≤ c := by
 rcases h.row.2 with ⟨h1, _⟩ | ⟨g, cap, cur, h1, _, _, h2, _⟩
 ·
  injection h1 with _ h3 _
  omega
 ·
  injection h1 with _ h3 h4
  omega
theorem flightsOk_any (V : Value) (fv : List FlV) (fl : List FlD) (B : Nat) (w : World) (h : FlsO w B V fv) (hfd : fv.map (·.d) = fl) (hs : ∀ x ∈ fv, FlSmall x.d) (hn : fv.length ≤ 1048576) :
  Calls Tryz.prog 69 #[V] w fun e w' => BoolIs (FlsP fl) w e w' := by
 obtain ⟨o5, c5, rfl⟩ := h.len
 obtain ⟨n5, hn5⟩ := exq fv.length
 rw [← hn5] at h hn ⊢
 have HLF : Hid (fv.length = n5) := hn5.symm
 have HLC : Hid (fl.length = n5) := by show _ = _; rw [← hfd, List.length_map, hn5]
 have HFD : Hid (fv.map (·.d) = fl) := hfd
 have HFS : Hid (∀ x ∈ fv, FlSmall x.d) := hs
 have HFL : Hid (∀ W, Below w.heap.size w W → FlsO W B (.slice o5 n5 c5) fv) := fun W hb => h.below hb
 clear hn5 h hfd hs
 have hb0 : Below w.heap.size w w := Below.refl _ _
 go_enter Tryz.func69, Tryz.ntmps69
 by_cases hc1 : 5 < (n5 : Int)
 ·
  have Hf5 : Hid (¬ n5 ≤ 5) := (by have := hc1; show ¬ _; omega)
  go_wp2_with fail
  go_ret
  exact BoolIs.no (fun h => by have h1 := h.1; have h5 := Hf5.out; rw [HLC.out] at h1; omega) hb0
 ·
  have Hf5 : Hid (n5 ≤ 5) := (by have := hc1; show _ ≤ _; omega)
  go_wp2_with fail
  go_loopw [10] (fun i wr => ∃ i' : Nat, i' ≤ n5 ∧ i = .int .i64 (i' : Int) ∧ Hid (Below w.heap.size w (wr)) ∧ Hid (∀ m, m < i' → FlAtOk fl m)) (fun i _ => n5 - (intOf i).toNat)
  case atStart => exact ⟨0, Nat.zero_le _, rfl, hb0, fun m hm => absurd hm (by omega)⟩
  case round =>
   obtain ⟨i, hi, rfl, HW, HN⟩ := hrel
   by_cases hlt : (i : Int) < (n5 : Int)
   ·
    have hb1 := HW.out
    clear HW hb0
    obtain ⟨g5, p5, hV, _, _⟩ := (HFL.out _ hb1).look i (by rw [HLF.out]; omega)
    rw [HLF.out] at hV
    injection hV with hV1 hV2 hV3
    subst hV1 hV3
    clear hV2
    obtain ⟨dX, hdX⟩ := exq (flvAt fv i)
    have HMd : Hid (dX ∈ fv) := by show _ ∈ _; rw [hdX]; exact getD_mem0 _ fv i (by rw [HLF.out]; omega)
    have HEd : Hid (flAt fl i = dX.d) := by show _ = _; rw [hdX, ← HFD.out]; exact getD_map0 _ _ _ fv i (by rw [HLF.out]; omega)
    have HKd : Hid (∀ W, Below w.heap.size w W → FlAt W g5 i dX) := fun W hb => by
     obtain ⟨g', p', hV, _, hc⟩ := (HFL.out W hb).look i (by rw [HLF.out]; omega)
     injection hV with hV1 _ _
     cases hV1
     rw [hdX]
     exact hc
    have HRd : Hid (∀ W, Below w.heap.size w W → RowsO W B (flR dX)) := fun W hb => (HFL.out W hb).item HMd.out
    have HSd : Hid (FlSmall dX.d) := HFS.out _ HMd.out
    clear hdX
    obtain ⟨d, kuv2, kuv4, kuv6, kuv7, kuv9⟩ := dX
    obtain ⟨ku2, kuc2, hu⟩ := slice_of_owns ((HRd.out _ hb1).own (⟨171, 2, kuv2, d.qfs.length, flatF d.qfs⟩ : Rw) (by simp [flR]))
    obtain rfl : kuv2 = .slice ku2 d.qfs.length kuc2 := hu
    obtain ⟨ku4, kuc4, hu⟩ := slice_of_owns ((HRd.out _ hb1).own (⟨3, 1, kuv4, d.who.length, d.who.map (Value.int .i64)⟩ : Rw) (by simp [flR]))
    obtain rfl : kuv4 = .slice ku4 d.who.length kuc4 := hu
    obtain ⟨ku6, kuc6, hu⟩ := slice_of_owns ((HRd.out _ hb1).own (⟨9, 1, kuv6, d.oxs.length, d.oxs.map Value.string⟩ : Rw) (by simp [flR]))
    obtain rfl : kuv6 = .slice ku6 d.oxs.length kuc6 := hu
    obtain ⟨ku7, kuc7, hu⟩ := slice_of_owns ((HRd.out _ hb1).own (⟨9, 1, kuv7, d.oys.length, d.oys.map Value.string⟩ : Rw) (by simp [flR]))
    obtain rfl : kuv7 = .slice ku7 d.oys.length kuc7 := hu
    obtain ⟨ku9, kuc9, hu⟩ := slice_of_owns ((HRd.out _ hb1).own (⟨171, 2, kuv9, d.ofs.length, flatF d.ofs⟩ : Rw) (by simp [flR]))
    obtain rfl : kuv9 = .slice ku9 d.ofs.length kuc9 := hu
    have r0d := (HKd.out _ hb1).c0
    have r1d := (HKd.out _ hb1).c1
    have r2d := (HKd.out _ hb1).c2
    have r3d := (HKd.out _ hb1).c3
    have r4d := (HKd.out _ hb1).c4
    have r5d := (HKd.out _ hb1).c5
    have r6d := (HKd.out _ hb1).c6
    have r7d := (HKd.out _ hb1).c7
    have r8d := (HKd.out _ hb1).c8
    have r9d := (HKd.out _ hb1).c9
    have r10d := (HKd.out _ hb1).c10
    have r11d := (HKd.out _ hb1).c11
    have r12d := (HKd.out _ hb1).c12
    dsimp only at r0d r1d r2d r3d r4d r5d r6d r7d r8d r9d r10d r11d r12d
    have hcp := FlsO.cap (HFL.out _ hb1)
    have hic : i ≤ c5 := by omega
    have hic2 : ¬ (c5 < i) := by omega
    clear hcp
    go_upto_region 6 with fail
    obtain ⟨qv1, hqv1⟩ := exq ((wr).heap.size)
    obtain ⟨w2, hW2⟩ := exq ((wr).alloc (.cells #[.int .i64 d.qmt, .string d.qpa, .slice ku2 d.qfs.length kuc2, .string d.qbd, .slice ku4 d.who.length kuc4, .string d.opa, .slice ku6 d.oxs.length kuc6, .slice ku7 d.oys.length kuc7, .int .i64 d.ost, .slice ku9 d.ofs.length kuc9, .string d.obd, .int .i64 d.otm, .bool d.has] 129))
    have hz2 : (wr).heap.size = qv1 := hqv1.symm
    first | rw [← hW2, ← hqv1] | rw [← hW2]
    have hs2 := hsa hW2 hz2
    have bw := bal hW2
    have hb2 := hbt hb1 bw
    have HBv1_2 := hnew hW2 hz2
    clear hb1 bw hW2 hz2
    clear hs2 hqv1
    clear r0d r1d r2d r3d r4d r5d r6d r7d r8d r9d r10d r11d r12d
    go_upto_region 6 with fail
    refine wp_region_held_drew (S := fun W => W.heap[qv1]? = some (.cells #[.int .i64 d.qmt, .string d.qpa, .slice ku2 d.qfs.length kuc2, .string d.qbd, .slice ku4 d.who.length kuc4, .string d.opa, .slice ku6 d.oxs.length kuc6, .slice ku7 d.oys.length kuc7, .int .i64 d.ost, .slice ku9 d.ofs.length kuc9, .string d.obd, .int .i64 d.otm, .bool d.has] 129)) (by kernel_rfl) HBv1_2.out (fun _ => ?_)
    obtain ⟨w3, hX⟩ := exq w2.drew
    have bw := bdr hX
    rw [← hX]
    have hb3 := hbt hb2 bw
    have HBv1_3 := hblk HBv1_2 bw
    have hS3 := HBv1_3.out
    clear hb2 HBv1_2 bw hX
    refine tkL 0 (.agg #[.int .i64 d.qmt, .string d.qpa, .slice ku2 d.qfs.length kuc2, .string d.qbd, .slice ku4 d.who.length kuc4, .string d.opa, .slice ku6 d.oxs.length kuc6, .slice ku7 d.oys.length kuc7, .int .i64 d.ost, .slice ku9 d.ofs.length kuc9, .string d.obd, .int .i64 d.otm, .bool d.has]) 15 rfl rfl (Or.inl ⟨by rfl, by intro W hW; have hhv1 := hW; have y0 := (cell_of hhv1 0).trans rfl; have y1 := (cell_of hhv1 1).trans rfl; have y2 := (cell_of hhv1 2).trans rfl; have y3 := (cell_of hhv1 3).trans rfl; have y4 := (cell_of hhv1 4).trans rfl; have y5 := (cell_of hhv1 5).trans rfl; have y6 := (cell_of hhv1 6).trans rfl; have y7 := (cell_of hhv1 7).trans rfl; have y8 := (cell_of hhv1 8).trans rfl; have y9 := (cell_of hhv1 9).trans rfl; have y10 := (cell_of hhv1 10).trans rfl; have y11 := (cell_of hhv1 11).trans rfl; have y12 := (cell_of hhv1 12).trans rfl; go_simp⟩) hS3 ?_
    go_frame
    refine rd1 1 rfl (fun K hK => ?_)
    go_simp
    refine (flightOk_any d _ _ _ _ _ B _ (HRd.out _ hb3) HSd.out).mono ?_
    rintro e w4 ⟨uf, rfl, huf, bw⟩
    have hb4 := hbt hb3 bw
    have HBv1_4 := hblk HBv1_3 bw
    clear hb3 HBv1_3 bw
    have hS4 := HBv1_4.out
    refine hK.out _ _ hS4 (fun _ => ?_)
    clear hK K hS3
    cases uf with
    | false =>
     have HNuf : Hid (¬ (FlOk d)) := fun h => nomatch huf.2 h
     clear huf
     refine tkP 2 (.bool true) 17 rfl rfl hS4 ?_
     go_frame
     refine tkP 3 (.bool true) 18 rfl rfl hS4 ?_
     go_frame
     refine tkN 4 19 rfl rfl hS4 ?_
     go_frame
     refine tkN 5 20 rfl rfl hS4 ?_
     go_frame
     refine tkN 6 21 rfl rfl hS4 ?_
     go_frame
     refine tkN 7 22 rfl rfl hS4 ?_
     go_frame
     refine tkN 8 23 rfl rfl hS4 ?_
     go_frame
     refine tkN 9 24 rfl rfl hS4 ?_
     go_frame
     refine tkN 10 25 rfl rfl hS4 ?_
     go_frame
     refine tkP 11 (.bool true) 26 rfl rfl hS4 ?_
     go_frame
     clear hS4
     refine wpAnyH_done (by kernel_rfl) ?_ _
     go_wp2_with fail
     go_ret
     exact BoolIs.no (fun h => by have hk := h.2 i (by rw [HLC.out]; omega); unfold FlAtOk at hk; rw [HEd.out] at hk; exact HNuf.out hk.1) hb4
    | true =>
     have HYuf : Hid (FlOk d) := huf.1 rfl
     clear huf
     refine tkP 2 (.bool false) 17 rfl rfl hS4 ?_
     go_frame
     refine tkP 3 (.bool false) 18 rfl rfl hS4 ?_
     go_frame
     refine tkP 4 (.slice (some ⟨g5, 0, none⟩) n5 c5) 19 rfl rfl hS4 ?_
     go_frame
     refine tkP 5 (.int .i64 (i : Int)) 20 rfl rfl hS4 ?_
     go_frame
     refine tkP 6 (.slice (some ⟨g5, 0, none⟩) i c5) 21 rfl rfl hS4 ?_
     go_frame
     refine tkP 7 (.pointer (some ⟨qv1, 0, none⟩)) 22 rfl rfl hS4 ?_
     go_frame
     refine tkL 8 (.agg #[.int .i64 d.qmt, .string d.qpa, .slice ku2 d.qfs.length kuc2, .string d.qbd]) 23 rfl rfl (Or.inl ⟨by rfl, by intro W hW; have hhv1 := hW; have y0 := (cell_of hhv1 0).trans rfl; have y1 := (cell_of hhv1 1).trans rfl; have y2 := (cell_of hhv1 2).trans rfl; have y3 := (cell_of hhv1 3).trans rfl; go_simp⟩) hS4 ?_
     go_frame
     refine rd1 9 rfl (fun K hK => ?_)
     go_simp
     refine (alikePlace_any (.slice (some ⟨g5, 0, none⟩) n5 c5) fv fl _ i c5 d _ _ _ _ _ B B _ ⟨c5, by rw [HLF.out]⟩ (HFL.out _ hb4) HFD.out HFS.out (by rw [HLF.out]; omega) (by omega) (HRd.out _ hb4) HSd.out).mono ?_
     rintro e w5 ⟨rp, rfl, hrp, bw⟩
     have HRP : Hid (0 ≤ rp ↔ ∃ k, k < i ∧ AlikeF (flAt fl k) d) := hrp
     clear hrp
     have hb5 := hbt hb4 bw
     have HBv1_5 := hblk HBv1_4 bw
     clear hb4 HBv1_4 bw
     have hS5 := HBv1_5.out
     refine hK.out _ _ hS5 (fun _ => ?_)
     clear hK K hS4
     by_cases hc2 : 0 ≤ rp
     ·
      have HAL : Hid (0 ≤ rp) := hc2
      refine tkP 10 (.bool true) 25 rfl rfl hS5 ?_
      go_frame
      refine tkP 11 (.bool true) 26 rfl rfl hS5 ?_
      go_frame
      clear hS5
      refine wpAnyH_done (by kernel_rfl) ?_ _
      go_wp2_with fail
      go_ret
      exact BoolIs.no (fun h => by have hk := h.2 i (by rw [HLC.out]; omega); unfold FlAtOk at hk; rw [HEd.out] at hk; obtain ⟨k, hk2, hA⟩ := HRP.out.1 HAL.out; exact hk.2 k hk2 hA) hb5
     ·
      have HAL : Hid (¬ (0 ≤ rp)) := hc2
      refine tkP 10 (.bool false) 25 rfl rfl hS5 ?_
      go_frame
      refine tkP 11 (.bool false) 26 rfl rfl hS5 ?_
      go_frame
      clear hS5
      refine wpAnyH_done (by kernel_rfl) ?_ _
      have HN2 : Hid (∀ m, m < i + 1 → FlAtOk fl m) := fun m hm => by
       by_cases e : m = i
       ·
        subst e
        unfold FlAtOk
        rw [HEd.out]
        exact ⟨HYuf.out, fun k hk hA => HAL.out (HRP.out.2 ⟨k, hk, hA⟩)⟩
       · exact HN.out m (by omega)
      go_wp2_with fail
      go_roundw
      case rel => exact ⟨i + 1, by omega, by go_num, hb5, HN2⟩
      case measure => simp [intOf]; omega
   ·
    have hb1 := HW.out
    clear HW hb0
    have HFA : Hid (∀ m, m < fl.length → FlAtOk fl m) := fun m hm => HN.out m (by rw [HLC.out] at hm; omega)
    clear HN
    go_wp2_with fail
    go_ret
    exact BoolIs.yes ⟨by rw [HLC.out]; exact Hf5.out, HFA.out⟩ hb1
theorem implCacheOk_any (v1 v2 V VB F E R : Value) (kv : List (KpD × Value × Value × Value)) (fv : List FlV) (ev : List SeV) (rv : List RpV) (c : CaD) (B : Nat) (w : World) (h : CacheO w B v1 v2 V VB F E R kv fv ev rv c) (hz : CaSmall c) :
  Calls Tryz.prog 33 #[.agg #[v1, v2, V, VB, .int .i64 c.s.nx, .int .i64 c.s.sq, F, .int .i64 c.now, E, R]] w fun e w' => BoolIs (CacheP c) w e w' := by
 obtain ⟨o1, c1, rfl⟩ := slice_of_owns h.shelf.disk.cells
 obtain ⟨o2, c2, rfl⟩ := slice_of_owns h.shelf.disk.pend
 obtain ⟨o3, c3, rfl⟩ := h.shelf.kept.len
 obtain ⟨o4, c4, rfl⟩ := slice_of_owns h.shelf.bans
 obtain ⟨o5, c5, rfl⟩ := h.fls.len
 obtain ⟨o6, c6, rfl⟩ := h.ses.len
 obtain ⟨o7, c7, rfl⟩ := h.rps.len
 obtain ⟨n5, hn5⟩ := exq fv.length
 obtain ⟨n6, hn6⟩ := exq ev.length
 obtain ⟨n7, hn7⟩ := exq rv.length
 rw [← hn5, ← hn6, ← hn7] at h ⊢
 have HLF : Hid (fv.length = n5) := hn5.symm
 have HLC : Hid (c.fl.length = n5 ∧ c.se.length = n6 ∧ c.sn.length = n7) := ⟨by rw [← h.hf, List.length_map, hn5], by rw [← h.he, List.length_map, hn6], by rw [← h.hr, List.length_map, hn7]⟩
 have HFD : Hid (fv.map (·.d) = c.fl) := h.hf
 have HZ : Hid (CaSmall c) := hz
 have bn5 : n5 ≤ 1048576 := by rw [← HLC.out.1]; exact hz.nf
 have bn6 : n6 ≤ 1048576 := by rw [← HLC.out.2.1]; exact hz.ne
 have bn7 : n7 ≤ 1048576 := by rw [← HLC.out.2.2]; exact hz.nr
 have HCA : Hid (∀ W, Below w.heap.size w W → CacheO W B (.slice o1 c.s.cs.length c1) (.slice o2 c.s.ws.length c2) (.slice o3 kv.length c3) (.slice o4 c.s.bl.length c4) (.slice o5 n5 c5) (.slice o6 n6 c6) (.slice o7 n7 c7) kv fv ev rv c) := fun W hb => h.below hb
 clear hn5 hn6 hn7 h hz
 have HFL : Hid (∀ W, Below w.heap.size w W → FlsO W B (.slice o5 n5 c5) fv) := fun W hb => (HCA.out W hb).fls
 have HFS : Hid (∀ x ∈ fv, FlSmall x.d) := fun x hx => HZ.out.fl _ (by rw [← HFD.out]; exact List.mem_map.2 ⟨x, hx, rfl⟩)
 have hb0 : Below w.heap.size w w := Below.refl _ _
 go_enter Tryz.func33, Tryz.ntmps33
 go_upto_region 1 with fail
 obtain ⟨qv1, hqv1⟩ := exq ((w).heap.size)
 obtain ⟨w1, hW1⟩ := exq ((w).alloc (.cells #[.slice o1 c.s.cs.length c1, .slice o2 c.s.ws.length c2, .slice o3 kv.length c3, .slice o4 c.s.bl.length c4, .int .i64 c.s.nx, .int .i64 c.s.sq, .slice o5 n5 c5, .int .i64 c.now, .slice o6 n6 c6, .slice o7 n7 c7] 58))
 have hz1 : (w).heap.size = qv1 := hqv1.symm
 first | rw [← hW1, ← hqv1] | rw [← hW1]
 have hs1 := hsa hW1 hz1
 have bw := bal hW1
 have hb1 := hbt hb0 bw
 have HBv1_1 := hnew hW1 hz1
 clear hb0 bw hW1 hz1
 clear hs1 hqv1
 have cv1_0 := (k10c HBv1_1).1
 have cv1_1 := (k10c HBv1_1).2.1
 have cv1_2 := (k10c HBv1_1).2.2.1
 have cv1_3 := (k10c HBv1_1).2.2.2.1
 have cv1_4 := (k10c HBv1_1).2.2.2.2.1
 have cv1_5 := (k10c HBv1_1).2.2.2.2.2.1
 go_wp2_with fail
 refine (implShelfOk_any _ _ _ _ kv c.s B _ (HCA.out _ hb1).shelf HZ.out.s).mono ?_
 rintro e w2 ⟨us, rfl, hus, bw⟩
 have hb2 := hbt hb1 bw
 have HBv1_2 := hblk HBv1_1 bw
 clear hb1 HBv1_1 bw
 clear cv1_0 cv1_1 cv1_2 cv1_3 cv1_4 cv1_5
 cases us with
 | false =>
  have HNus : Hid (¬ (ShelfP c.s)) := fun h => nomatch hus.2 h
  clear hus
  go_wp2_with fail
  go_ret
  exact BoolIs.no (fun h => HNus.out h.1) hb2
 | true =>
  have HYus : Hid (ShelfP c.s) := hus.1 rfl
  clear hus
  have cv1_7 := (k10c HBv1_2).2.2.2.2.2.2.2.1
  go_wp2_with fail
  refine (timeOk_any c.now _).mono ?_
  rintro e w3 ⟨rfl, hwe⟩
  have bw : Below (w2).heap.size (w2) w3 := by rw [hwe]; exact Below.refl _ _
  clear hwe
  obtain ⟨un, hun⟩ : ∃ u, u = decide ((0 : Int) ≤ c.now ∧ c.now ≤ 1000000) := ⟨_, rfl⟩
  rw [← hun]
  have hb3 := hbt hb2 bw
  have HBv1_3 := hblk HBv1_2 bw
  clear hb2 HBv1_2 bw
  clear cv1_7
  cases un with
  | false =>
   have HNun : Hid (¬ ((0 : Int) ≤ c.now ∧ c.now ≤ 1000000)) := (show ¬ ((0 : Int) ≤ c.now ∧ c.now ≤ 1000000) from of_decide_eq_false hun.symm)
   clear hun
   go_wp2_with fail
   go_ret
   exact BoolIs.no (fun h => HNun.out h.2.1) hb3
  | true =>
   have HYun : Hid ((0 : Int) ≤ c.now ∧ c.now ≤ 1000000) := (show ((0 : Int) ≤ c.now ∧ c.now ≤ 1000000) from of_decide_eq_true hun.symm)
   clear hun
   have cv1_6 := (k10c HBv1_3).2.2.2.2.2.2.1
   go_wp2_with fail
   refine (flightsOk_any _ fv c.fl B _ (HFL.out _ hb3) HFD.out HFS.out (by rw [HLF.out]; omega)).mono ?_
   rintro e w4 ⟨uf, rfl, huf, bw⟩
   have hb4 := hbt hb3 bw
   have HBv1_4 := hblk HBv1_3 bw
   clear hb3 HBv1_3 bw
   clear cv1_6
   cases uf with
   | false =>
    have HNuf : Hid (¬ (FlsP c.fl)) := fun h => nomatch huf.2 h
    clear huf
    go_wp2_with fail
    go_ret
    exact BoolIs.no (fun h => HNuf.out h.2.2.1) hb4
   | true =>
    have HYuf : Hid (FlsP c.fl) := huf.1 rfl
    clear huf
    by_cases hc1 : (n6 : Int) ≤ 1500
    ·
     have hde5 : decide ((n6 : Int) ≤ 1500) = true := decide_eq_true hc1
     have He5 : Hid (n6 ≤ 1500) := (by have := hc1; show _ ≤ _; omega)
     have cv1_8 := (k10c HBv1_4).2.2.2.2.2.2.2.2.1
     have cv1_9 := (k10c HBv1_4).2.2.2.2.2.2.2.2.2
     by_cases hc2 : (n7 : Int) ≤ 1500
     ·
      have hdr5 : decide ((n7 : Int) ≤ 1500) = true := decide_eq_true hc2
      have Hr5 : Hid (n7 ≤ 1500) := (by have := hc2; show _ ≤ _; omega)
      go_wp2_with fail
      go_ret
      exact BoolIs.yes ⟨HYus.out, HYun.out, HYuf.out, by rw [HLC.out.2.1]; exact He5.out, by rw [HLC.out.2.2]; exact Hr5.out⟩ hb4
     ·
      have hdr5 : decide ((n7 : Int) ≤ 1500) = false := decide_eq_false hc2
      have Hr5 : Hid (¬ n7 ≤ 1500) := (by have := hc2; show ¬ _; omega)
      go_wp2_with fail
      go_ret
      exact BoolIs.no (fun h => by have h1 := h.2.2.2.2; have h5 := Hr5.out; rw [HLC.out.2.2] at h1; omega) hb4
    ·
     have hde5 : decide ((n6 : Int) ≤ 1500) = false := decide_eq_false hc1
     have He5 : Hid (¬ n6 ≤ 1500) := (by have := hc1; show ¬ _; omega)
     have cv1_8 := (k10c HBv1_4).2.2.2.2.2.2.2.2.1
     go_wp2_with fail
     go_ret
     exact BoolIs.no (fun h => by have h1 := h.2.2.2.1; have h5 := He5.out; rw [HLC.out.2.1] at h1; omega) hb4
end Go.Proofs.YtbmhonfgffjpcaaGreat
namespace Go.Proofs.YtbmhonfgffjpcaaGreat
open Go.RowKit
open Go.Lib hiding intOf
theorem judgeOfBans_any (w : World) :
  Calls Tryz.prog 47 #[] w fun e w' => e = .returned (.agg #[.func (.func 86) #[] #[], .func (.func 87) #[] #[]]) ∧ Below w.heap.size w w' := by
 have hb0 : Below w.heap.size w w := Below.refl _ _
 go_enter Tryz.func47, Tryz.ntmps47
 go_upto_region 1 with fail
 obtain ⟨qv1, hqv1⟩ := exq ((w).heap.size)
 obtain ⟨w1, hW1⟩ := exq ((w).alloc (.cells #[.nilFunc, .nilFunc] 107))
 have hz1 : (w).heap.size = qv1 := hqv1.symm
 first | rw [← hW1, ← hqv1] | rw [← hW1]
 have hs1 := hsa hW1 hz1
 have bw := bal hW1
 have hb1 := hbt hb0 bw
 have HBv1_1 := hnew hW1 hz1
 have HGv1 := hge hz1 hb0
 clear hb0 bw hW1 hz1
 clear hs1 hqv1
 have cv1_0 := (k2c HBv1_1).1
 have fcv1_0 := hfz HBv1_1 0
 have cv1_1 := (k2c HBv1_1).2
 have fcv1_1 := hfz HBv1_1 1
 go_wp2_with fail
 obtain ⟨w2, hW2⟩ := exq ((w1).setCell ⟨qv1, 0, none⟩ (.func (.func 86) #[] #[]))
 rw [← hW2]
 have hb2 := hbS hW2 hb1 HGv1
 have HBv1_2 : Hid ((w2).heap[qv1]? = some (.cells #[.func (.func 86) #[] #[], .nilFunc] 107)) := by show _ = _; rw [hW2]; have h := heap_set _ _ 0 _ _ _ (.func (.func 86) #[] #[]) HBv1_1.out; simpa using h
 clear hb1 HBv1_1 hW2
 obtain ⟨w3, hW3⟩ := exq ((w2).setCell ⟨qv1, 1, none⟩ (.func (.func 87) #[] #[]))
 rw [← hW3]
 have hb3 := hbS hW3 hb2 HGv1
 have HBv1_3 : Hid ((w3).heap[qv1]? = some (.cells #[.func (.func 86) #[] #[], .func (.func 87) #[] #[]] 107)) := by show _ = _; rw [hW3]; have h := heap_set _ _ 1 _ _ _ (.func (.func 87) #[] #[]) HBv1_2.out; simpa using h
 clear hb2 HBv1_2 hW3
 have kv1_0 := (k2c HBv1_3).1
 have kv1_1 := (k2c HBv1_3).2
 refine bodyPost_ret (v := .agg #[.func (.func 86) #[] #[], .func (.func 87) #[] #[]]) (by simp [results, Tryz.results47, go_sem, kv1_0, kv1_1]) rfl ?_
 exact ⟨rfl, hb3⟩
theorem agreeOnWholeBans_any (v1 v2 V VB F E R : Value) (kv : List (KpD × Value × Value × Value)) (fv : List FlV) (ev : List SeV) (rv : List RpV) (c : CaD) (B : Nat) (w : World) (h : CacheO w B v1 v2 V VB F E R kv fv ev rv c) (hz : CaSmall c) (gj : Nat) (hj : w.heap[gj]? = some (.cells #[.func (.func 86) #[] #[], .func (.func 87) #[] #[]] 107))  :
  Calls Tryz.prog 85 #[.agg #[v1, v2, V, VB, .int .i64 c.s.nx, .int .i64 c.s.sq, F, .int .i64 c.now, E, R], .slice (some ⟨gj, 0, none⟩) 1 1] w fun e w' => BoolIs (NoBanP c) w e w' := by
 obtain ⟨o1, c1, rfl⟩ := slice_of_owns h.shelf.disk.cells
 obtain ⟨o2, c2, rfl⟩ := slice_of_owns h.shelf.disk.pend
 obtain ⟨o3, c3, rfl⟩ := h.shelf.kept.len
 obtain ⟨o4, c4, rfl⟩ := slice_of_owns h.shelf.bans
 obtain ⟨o5, c5, rfl⟩ := h.fls.len
 obtain ⟨o6, c6, rfl⟩ := h.ses.len
 obtain ⟨o7, c7, rfl⟩ := h.rps.len
 obtain ⟨n3, hn3⟩ := exq kv.length
 obtain ⟨n4, hn4⟩ := exq (c.s.bl.length)
 obtain ⟨n5, hn5⟩ := exq fv.length
 obtain ⟨n6, hn6⟩ := exq ev.length
 obtain ⟨n7, hn7⟩ := exq rv.length
 rw [← hn3, ← hn4, ← hn5, ← hn6, ← hn7] at h ⊢
 have HLK : Hid (kv.length = n3) := hn3.symm
 have HLB : Hid (c.s.bl.length = n4) := hn4.symm
 have HLF : Hid (fv.length = n5) := hn5.symm
 have HLE : Hid (ev.length = n6) := hn6.symm
 have HLR : Hid (rv.length = n7) := hn7.symm
 have HLC : Hid (c.fl.length = n5 ∧ c.se.length = n6 ∧ c.sn.length = n7 ∧ c.s.ks.length = n3) := ⟨by rw [← h.hf, List.length_map, hn5], by rw [← h.he, List.length_map, hn6], by rw [← h.hr, List.length_map, hn7], by rw [← h.hk, List.length_map, hn3]⟩
 have HFD : Hid (fv.map (·.d) = c.fl) := h.hf
 have HED : Hid (ev.map (·.d) = c.se) := h.he
 have HKS : Hid (kv.map (·.1) = c.s.ks) := h.hk
 have HZ : Hid (CaSmall c) := hz
 have bn3 : n3 ≤ 1048576 := by rw [← HLC.out.2.2.2]; exact hz.s.k
 have bn4 : n4 ≤ 1048576 := by rw [← HLB.out]; exact hz.s.b
 have bn5 : n5 ≤ 1048576 := by rw [← HLC.out.1]; exact hz.nf
 have bn6 : n6 ≤ 1048576 := by rw [← HLC.out.2.1]; exact hz.ne
 have bn7 : n7 ≤ 1048576 := by rw [← HLC.out.2.2.1]; exact hz.nr
 have HCA : Hid (∀ W, Below w.heap.size w W → CacheO W B (.slice o1 c.s.cs.length c1) (.slice o2 c.s.ws.length c2) (.slice o3 n3 c3) (.slice o4 n4 c4) (.slice o5 n5 c5) (.slice o6 n6 c6) (.slice o7 n7 c7) kv fv ev rv c) := fun W hb => h.below hb
 have HKP : Hid (∀ W, Below w.heap.size w W → KeptsO W B (.slice o3 n3 c3) kv) := fun W hb => (h.below hb).shelf.kept
 have HBN : Hid (∀ W, Below w.heap.size w W → BanA W o4 n4 c.s.bl) := fun W hb => by
  have h1 := (h.below hb).shelf.bans
  rw [HLB.out] at h1
  exact ban_view h1
 have HC4 : Hid (n4 ≤ c4) := by
  have h1 := h.shelf.bans
  rw [HLB.out] at h1
  exact owns_cap h1
 clear hn3 hn4 hn5 hn6 hn7 h hz
 have HJB : Hid (∀ W, Below w.heap.size w W → W.heap[gj]? = some (.cells #[.func (.func 86) #[] #[], .func (.func 87) #[] #[]] 107)) := fun W hb => blk_below hj hb
 clear hj
 have hcf : ∀ (args : Array Value) (W : World), (callFunc 87 args).run Tryz.prog W = .ok (.enter 87 args) W := enters_of Tryz.func87 (by kernel_rfl) rfl
 have hnf : ∀ W : World, (binOp .neq 73 (.func (.func 87) #[] #[]) .nilFunc).run Tryz.prog W = .ok (.bool true) W := fun W => run_neq_func_nil W 73 _ _ _ Tryz.underlying73
 have hb0 : Below w.heap.size w w := Below.refl _ _
 go_enter Tryz.func85, Tryz.ntmps85
 go_upto_region 1 with fail
 obtain ⟨qv1, hqv1⟩ := exq ((w).heap.size)
 obtain ⟨w1, hW1⟩ := exq ((w).alloc (.cells #[.slice o1 c.s.cs.length c1, .slice o2 c.s.ws.length c2, .slice o3 n3 c3, .slice o4 n4 c4, .int .i64 c.s.nx, .int .i64 c.s.sq, .slice o5 n5 c5, .int .i64 c.now, .slice o6 n6 c6, .slice o7 n7 c7] 58))
 have hz1 : (w).heap.size = qv1 := hqv1.symm
 first | rw [← hW1, ← hqv1] | rw [← hW1]
 have hs1 := hsa hW1 hz1
 have bw := bal hW1
 have hb1 := hbt hb0 bw
 have HBv1_1 := hnew hW1 hz1
 clear hb0 bw hW1 hz1
 clear hs1 hqv1
 go_wp2_with fail
 obtain ⟨wA, hwA⟩ := exq w1
 rw [← hwA] at hb1 HBv1_1 ⊢
 clear hwA
 go_loopw [9] (fun i wr => ∃ j : Nat, j ≤ 1 ∧ i = .int .i64 (j : Int) ∧ Hid (Below w.heap.size w (wr) ∧ (wr).heap[qv1]? = some (.cells #[.slice o1 c.s.cs.length c1, .slice o2 c.s.ws.length c2, .slice o3 n3 c3, .slice o4 n4 c4, .int .i64 c.s.nx, .int .i64 c.s.sq, .slice o5 n5 c5, .int .i64 c.now, .slice o6 n6 c6, .slice o7 n7 c7] 58)) ∧ Hid (0 < j → NoBanP c)) (fun i _ => 1 - (intOf i).toNat)
 case atStart => exact ⟨0, Nat.zero_le _, rfl, ⟨hb1, HBv1_1.out⟩, fun h => absurd h (by omega)⟩
 case round =>
  obtain ⟨j, hj, rfl, HW, HN⟩ := hrel
  by_cases hlt : (j : Int) < (1 : Int)
  ·
   have hb2 := HW.out.1
   have HBv1_2 : Hid ((wr).heap[qv1]? = some (.cells #[.slice o1 c.s.cs.length c1, .slice o2 c.s.ws.length c2, .slice o3 n3 c3, .slice o4 n4 c4, .int .i64 c.s.nx, .int .i64 c.s.sq, .slice o5 n5 c5, .int .i64 c.now, .slice o6 n6 c6, .slice o7 n7 c7] 58)) := HW.out.2
   clear HW hb1 HBv1_1
   have rj0 : (wr).cell? ⟨gj, j * 2, none⟩ = some (.func (.func 86) #[] #[]) := by
    have e : j = 0 := by omega
    rw [e]
    exact (cell_of (HJB.out _ hb2) 0).trans rfl
   have rj1 : (wr).cell? ⟨gj, j * 2 + 1, none⟩ = some (.func (.func 87) #[] #[]) := by
    have e : j = 0 := by omega
    rw [e]
    exact (cell_of (HJB.out _ hb2) 1).trans rfl
   have hjn : ¬ (1 ≤ j) := by omega
   go_upto_region 4 with fail
   obtain ⟨qv2, hqv2⟩ := exq ((wr).heap.size)
   obtain ⟨w3, hW3⟩ := exq ((wr).alloc (.cells #[.func (.func 86) #[] #[], .func (.func 87) #[] #[]] 107))
   have hz3 : (wr).heap.size = qv2 := hqv2.symm
   first | rw [← hW3, ← hqv2] | rw [← hW3]
   have hs3 := hsa hW3 hz3
   have bw := bal hW3
   have hb3 := hbt hb2 bw
   have HBv1_3 := hblk HBv1_2 bw
   have HBv2_3 := hnew hW3 hz3
   clear hb2 HBv1_2 bw hW3 hz3
   clear hs3 hqv2
   clear rj0 rj1
   have cv1_0 := (k10c HBv1_3).1
   have cv1_1 := (k10c HBv1_3).2.1
   have cv1_2 := (k10c HBv1_3).2.2.1
   have cv1_3 := (k10c HBv1_3).2.2.2.1
   have cv1_4 := (k10c HBv1_3).2.2.2.2.1
   have cv1_5 := (k10c HBv1_3).2.2.2.2.2.1
   have cv1_6 := (k10c HBv1_3).2.2.2.2.2.2.1
   have cv1_7 := (k10c HBv1_3).2.2.2.2.2.2.2.1
   have cv1_8 := (k10c HBv1_3).2.2.2.2.2.2.2.2.1
   have cv1_9 := (k10c HBv1_3).2.2.2.2.2.2.2.2.2
   have cv2_1 := (k2c HBv2_3).2
   go_wp2_with fail
   refine (knowsNoBanned_any _ _ _ _ _ _ _ kv fv ev rv c B _ (HCA.out _ hb3) HZ.out).mono ?_
   rintro e w4 ⟨uw, rfl, huw, bw⟩
   have hb4 := hbt hb3 bw
   have HBv1_4 := hblk HBv1_3 bw
   have HBv2_4 := hblk HBv2_3 bw
   clear hb3 HBv1_3 HBv2_3 bw
   clear cv1_0 cv1_1 cv1_2 cv1_3 cv1_4 cv1_5 cv1_6 cv1_7 cv1_8 cv1_9 cv2_1
   cases uw with
   | false =>
    have HNuw : Hid (¬ (NoBanP c)) := fun h => nomatch huw.2 h
    clear huw
    go_wp2_with fail
    go_ret
    exact BoolIs.no (fun h => HNuw.out h) hb4
   | true =>
    have HYuw : Hid (NoBanP c) := huw.1 rfl
    clear huw
    have HN2 : Hid (0 < j + 1 → NoBanP c) := fun _ => HYuw.out
    go_wp2_with fail
    go_roundw
    case rel => exact ⟨j + 1, by omega, by go_num, ⟨hb4, HBv1_4.out⟩, HN2⟩
    case measure => simp [intOf]; omega
  ·
   have hb2 := HW.out.1
   have HBv1_2 : Hid ((wr).heap[qv1]? = some (.cells #[.slice o1 c.s.cs.length c1, .slice o2 c.s.ws.length c2, .slice o3 n3 c3, .slice o4 n4 c4, .int .i64 c.s.nx, .int .i64 c.s.sq, .slice o5 n5 c5, .int .i64 c.now, .slice o6 n6 c6, .slice o7 n7 c7] 58)) := HW.out.2
   clear HW hb1 HBv1_1
   have HFA : Hid (NoBanP c) := HN.out (by omega)
   clear HN
   go_wp2_with fail
   go_ret
   exact BoolIs.yes HFA.out hb2
theorem agreeBans_any (v1 v2 V VB F E R : Value) (kv : List (KpD × Value × Value × Value)) (fv : List FlV) (ev : List SeV) (rv : List RpV) (c : CaD) (B : Nat) (w : World) (h : CacheO w B v1 v2 V VB F E R kv fv ev rv c) (hz : CaSmall c) (gj : Nat) (hj : w.heap[gj]? = some (.cells #[.func (.func 86) #[] #[], .func (.func 87) #[] #[]] 107))  :
  Calls Tryz.prog 46 #[.agg #[v1, v2, V, VB, .int .i64 c.s.nx, .int .i64 c.s.sq, F, .int .i64 c.now, E, R], .slice (some ⟨gj, 0, none⟩) 1 1] w fun e w' => BoolIs (CacheP c ∧ NoBanP c ∧ EachHere (UnbanP c) c.sn) w e w' := by
 obtain ⟨o1, c1, rfl⟩ := slice_of_owns h.shelf.disk.cells
 obtain ⟨o2, c2, rfl⟩ := slice_of_owns h.shelf.disk.pend
 obtain ⟨o3, c3, rfl⟩ := h.shelf.kept.len
 obtain ⟨o4, c4, rfl⟩ := slice_of_owns h.shelf.bans
 obtain ⟨o5, c5, rfl⟩ := h.fls.len
 obtain ⟨o6, c6, rfl⟩ := h.ses.len
 obtain ⟨o7, c7, rfl⟩ := h.rps.len
 obtain ⟨n3, hn3⟩ := exq kv.length
 obtain ⟨n4, hn4⟩ := exq (c.s.bl.length)
 obtain ⟨n5, hn5⟩ := exq fv.length
 obtain ⟨n6, hn6⟩ := exq ev.length
 obtain ⟨n7, hn7⟩ := exq rv.length
 rw [← hn3, ← hn4, ← hn5, ← hn6, ← hn7] at h ⊢
 have HLK : Hid (kv.length = n3) := hn3.symm
 have HLB : Hid (c.s.bl.length = n4) := hn4.symm
 have HLF : Hid (fv.length = n5) := hn5.symm
 have HLE : Hid (ev.length = n6) := hn6.symm
 have HLR : Hid (rv.length = n7) := hn7.symm
 have HLC : Hid (c.fl.length = n5 ∧ c.se.length = n6 ∧ c.sn.length = n7 ∧ c.s.ks.length = n3) := ⟨by rw [← h.hf, List.length_map, hn5], by rw [← h.he, List.length_map, hn6], by rw [← h.hr, List.length_map, hn7], by rw [← h.hk, List.length_map, hn3]⟩
 have HFD : Hid (fv.map (·.d) = c.fl) := h.hf
 have HED : Hid (ev.map (·.d) = c.se) := h.he
 have HRD : Hid (rv.map (·.d) = c.sn) := h.hr
 have HKS : Hid (kv.map (·.1) = c.s.ks) := h.hk
 have HZ : Hid (CaSmall c) := hz
 have bn3 : n3 ≤ 1048576 := by rw [← HLC.out.2.2.2]; exact hz.s.k
 have bn4 : n4 ≤ 1048576 := by rw [← HLB.out]; exact hz.s.b
 have bn5 : n5 ≤ 1048576 := by rw [← HLC.out.1]; exact hz.nf
 have bn6 : n6 ≤ 1048576 := by rw [← HLC.out.2.1]; exact hz.ne
 have bn7 : n7 ≤ 1048576 := by rw [← HLC.out.2.2.1]; exact hz.nr
 have HCA : Hid (∀ W, Below w.heap.size w W → CacheO W B (.slice o1 c.s.cs.length c1) (.slice o2 c.s.ws.length c2) (.slice o3 n3 c3) (.slice o4 n4 c4) (.slice o5 n5 c5) (.slice o6 n6 c6) (.slice o7 n7 c7) kv fv ev rv c) := fun W hb => h.below hb
 have HKP : Hid (∀ W, Below w.heap.size w W → KeptsO W B (.slice o3 n3 c3) kv) := fun W hb => (h.below hb).shelf.kept
 have HBN : Hid (∀ W, Below w.heap.size w W → BanA W o4 n4 c.s.bl) := fun W hb => by
  have h1 := (h.below hb).shelf.bans
  rw [HLB.out] at h1
  exact ban_view h1
 have HC4 : Hid (n4 ≤ c4) := by
  have h1 := h.shelf.bans
  rw [HLB.out] at h1
  exact owns_cap h1
 clear hn3 hn4 hn5 hn6 hn7 h hz
 have HJB : Hid (∀ W, Below w.heap.size w W → W.heap[gj]? = some (.cells #[.func (.func 86) #[] #[], .func (.func 87) #[] #[]] 107)) := fun W hb => blk_below hj hb
 clear hj
 have hcf : ∀ (args : Array Value) (W : World), (callFunc 86 args).run Tryz.prog W = .ok (.enter 86 args) W := enters_of Tryz.func86 (by kernel_rfl) rfl
 have hnf : ∀ W : World, (binOp .neq 105 (.func (.func 86) #[] #[]) .nilFunc).run Tryz.prog W = .ok (.bool true) W := fun W => run_neq_func_nil W 105 _ _ _ Tryz.underlying105
 have hb0 : Below w.heap.size w w := Below.refl _ _
 go_enter Tryz.func46, Tryz.ntmps46
 go_wp2_with fail
 obtain ⟨qv1, hqv1⟩ := exq ((w).heap.size)
 obtain ⟨w1, hW1⟩ := exq ((w).alloc (.cells #[.slice o1 c.s.cs.length c1, .slice o2 c.s.ws.length c2, .slice o3 n3 c3, .slice o4 n4 c4, .int .i64 c.s.nx, .int .i64 c.s.sq, .slice o5 n5 c5, .int .i64 c.now, .slice o6 n6 c6, .slice o7 n7 c7] 58))
 have hz1 : (w).heap.size = qv1 := hqv1.symm
 first | rw [← hW1, ← hqv1] | rw [← hW1]
 have hs1 := hsa hW1 hz1
 have bw := bal hW1
 have hb1 := hbt hb0 bw
 have HBv1_1 := hnew hW1 hz1
 clear hb0 bw hW1 hz1
 clear hs1 hqv1
 go_step3
 have cv1_0 := (k10c HBv1_1).1
 have cv1_1 := (k10c HBv1_1).2.1
 have cv1_2 := (k10c HBv1_1).2.2.1
 have cv1_3 := (k10c HBv1_1).2.2.2.1
 have cv1_4 := (k10c HBv1_1).2.2.2.2.1
 have cv1_5 := (k10c HBv1_1).2.2.2.2.2.1
 have cv1_6 := (k10c HBv1_1).2.2.2.2.2.2.1
 have cv1_7 := (k10c HBv1_1).2.2.2.2.2.2.2.1
 have cv1_8 := (k10c HBv1_1).2.2.2.2.2.2.2.2.1
 have cv1_9 := (k10c HBv1_1).2.2.2.2.2.2.2.2.2
 go_wp2_with fail
 refine (implCacheOk_any _ _ _ _ _ _ _ kv fv ev rv c B _ (HCA.out _ hb1) HZ.out).mono ?_
 rintro e w2 ⟨us, rfl, hus, bw⟩
 have hb2 := hbt hb1 bw
 have HBv1_2 := hblk HBv1_1 bw
 clear hb1 HBv1_1 bw
 clear cv1_0 cv1_1 cv1_2 cv1_3 cv1_4 cv1_5 cv1_6 cv1_7 cv1_8 cv1_9
 cases us with
 | false =>
  have HNus : Hid (¬ (CacheP c)) := fun h => nomatch hus.2 h
  clear hus
  go_wp2_with fail
  try rw [Exit.noGoto_ret]
  go_ret
  exact BoolIs.no (fun h => HNus.out h.1) hb2
 | true =>
  have HYus : Hid (CacheP c) := hus.1 rfl
  clear hus
  have cv1_0 := (k10c HBv1_2).1
  have cv1_1 := (k10c HBv1_2).2.1
  have cv1_2 := (k10c HBv1_2).2.2.1
  have cv1_3 := (k10c HBv1_2).2.2.2.1
  have cv1_4 := (k10c HBv1_2).2.2.2.2.1
  have cv1_5 := (k10c HBv1_2).2.2.2.2.2.1
  have cv1_6 := (k10c HBv1_2).2.2.2.2.2.2.1
  have cv1_7 := (k10c HBv1_2).2.2.2.2.2.2.2.1
  have cv1_8 := (k10c HBv1_2).2.2.2.2.2.2.2.2.1
  have cv1_9 := (k10c HBv1_2).2.2.2.2.2.2.2.2.2
  go_wp2_with fail
  refine (agreeOnWholeBans_any _ _ _ _ _ _ _ kv fv ev rv c B _ (HCA.out _ hb2) HZ.out gj (HJB.out _ hb2)).mono ?_
  rintro e w3 ⟨uw, rfl, huw, bw⟩
  have hb3 := hbt hb2 bw
  have HBv1_3 := hblk HBv1_2 bw
  clear hb2 HBv1_2 bw
  clear cv1_0 cv1_1 cv1_2 cv1_3 cv1_4 cv1_5 cv1_6 cv1_7 cv1_8 cv1_9
  cases uw with
  | false =>
   have HNuw : Hid (¬ (NoBanP c)) := fun h => nomatch huw.2 h
   clear huw
   go_wp2_with fail
   try rw [Exit.noGoto_ret]
   go_ret
   exact BoolIs.no (fun h => HNuw.out h.2.1) hb3
  | true =>
   have HYuw : Hid (NoBanP c) := huw.1 rfl
   clear huw
   go_wp2_with fail
   go_step3
   have cv1_9 := (k10c HBv1_3).2.2.2.2.2.2.2.2.2
   go_wp2_with fail
   clear cv1_9
   obtain ⟨wA, hwA⟩ := exq w3
   rw [← hwA] at hb3 HBv1_3 ⊢
   clear hwA
   go_loopw [5, 22] (fun r0 i wr => ∃ i' : Nat, i' ≤ n7 ∧ i = .int .i64 (i' : Int) ∧ r0 = .bool true ∧ Hid (Below w.heap.size w (wr) ∧ (wr).heap[qv1]? = some (.cells #[.slice o1 c.s.cs.length c1, .slice o2 c.s.ws.length c2, .slice o3 n3 c3, .slice o4 n4 c4, .int .i64 c.s.nx, .int .i64 c.s.sq, .slice o5 n5 c5, .int .i64 c.now, .slice o6 n6 c6, .slice o7 n7 c7] 58)) ∧ Hid (∀ m, m < i' → (rpAt c.sn m).knd = 1 → (UnbanP c) (rpAt c.sn m))) (fun _ i _ => n7 - (intOf i).toNat)
   case atStart => exact ⟨0, Nat.zero_le _, rfl, rfl, ⟨hb3, HBv1_3.out⟩, fun m hm => absurd hm (by omega)⟩
   case round =>
    obtain ⟨i, hi, rfl, rfl, HW, HN⟩ := hrel
    by_cases hlt : (i : Int) < (n7 : Int)
    ·
     have hb4 := HW.out.1
     have HBv1_4 : Hid ((wr).heap[qv1]? = some (.cells #[.slice o1 c.s.cs.length c1, .slice o2 c.s.ws.length c2, .slice o3 n3 c3, .slice o4 n4 c4, .int .i64 c.s.nx, .int .i64 c.s.sq, .slice o5 n5 c5, .int .i64 c.now, .slice o6 n6 c6, .slice o7 n7 c7] 58)) := HW.out.2
     clear HW hb3 HBv1_3
     obtain ⟨g7, p7, hV, _, _⟩ := (HCA.out _ hb4).rps.look i (by rw [HLR.out]; omega)
     rw [HLR.out] at hV
     injection hV with hV1 hV2 hV3
     subst hV1 hV3
     clear hV2
     obtain ⟨dX, hdX⟩ := exq (rpvAt rv i)
     have HMd : Hid (dX ∈ rv) := by show _ ∈ _; rw [hdX]; exact getD_mem0 _ rv i (by rw [HLR.out]; omega)
     have HEd : Hid (rpAt c.sn i = dX.d) := by show _ = _; rw [hdX, ← HRD.out]; exact getD_map0 _ _ _ rv i (by rw [HLR.out]; omega)
     have HKd : Hid (∀ W, Below w.heap.size w W → RpAt W g7 i dX) := fun W hb => by
      obtain ⟨g', p', hV, _, hc⟩ := (HCA.out W hb).rps.look i (by rw [HLR.out]; omega)
      injection hV with hV1 _ _
      cases hV1
      rw [hdX]
      exact hc
     have HRd : Hid (∀ W, Below w.heap.size w W → RowsO W B (rpR dX)) := fun W hb => (HCA.out W hb).rps.item HMd.out
     have HSd : Hid (RpSmall dX.d) := HZ.out.sn _ (by rw [← HRD.out]; exact List.mem_map.2 ⟨_, HMd.out, rfl⟩)
     clear hdX
     obtain ⟨d, kuv3, kuv6, kuv11, kuv12, kuv14⟩ := dX
     obtain ⟨ku3, kuc3, hu⟩ := slice_of_owns ((HRd.out _ hb4).own (⟨171, 2, kuv3, d.qfs.length, flatF d.qfs⟩ : Rw) (by simp [rpR]))
     obtain rfl : kuv3 = .slice ku3 d.qfs.length kuc3 := hu
     obtain ⟨ku6, kuc6, hu⟩ := slice_of_owns ((HRd.out _ hb4).own (⟨171, 2, kuv6, d.rfs.length, flatF d.rfs⟩ : Rw) (by simp [rpR]))
     obtain rfl : kuv6 = .slice ku6 d.rfs.length kuc6 := hu
     obtain ⟨ku11, kuc11, hu⟩ := slice_of_owns ((HRd.out _ hb4).own (⟨9, 1, kuv11, d.oxs.length, d.oxs.map Value.string⟩ : Rw) (by simp [rpR]))
     obtain rfl : kuv11 = .slice ku11 d.oxs.length kuc11 := hu
     obtain ⟨ku12, kuc12, hu⟩ := slice_of_owns ((HRd.out _ hb4).own (⟨9, 1, kuv12, d.oys.length, d.oys.map Value.string⟩ : Rw) (by simp [rpR]))
     obtain rfl : kuv12 = .slice ku12 d.oys.length kuc12 := hu
     obtain ⟨ku14, kuc14, hu⟩ := slice_of_owns ((HRd.out _ hb4).own (⟨171, 2, kuv14, d.ofs.length, flatF d.ofs⟩ : Rw) (by simp [rpR]))
     obtain rfl : kuv14 = .slice ku14 d.ofs.length kuc14 := hu
     have HRGe7 : World.rangeAt (wr) g7 (i * 18) [.int .i64 d.cli, .int .i64 d.qmt, .string d.qpa, .slice ku3 d.qfs.length kuc3, .string d.qbd, .int .i64 d.rst, .slice ku6 d.rfs.length kuc6, .string d.rbd, .int .i64 d.knd, .int .i64 d.tim, .string d.opa, .slice ku11 d.oxs.length kuc11, .slice ku12 d.oys.length kuc12, .int .i64 d.ost, .slice ku14 d.ofs.length kuc14, .string d.obd, .int .i64 d.otm, .int .i64 d.bns] := RpAt.range (HKd.out _ hb4)
     have HIFe7 : (Tryz.prog.info? 68).map (·.size) = some 18 := by kernel_rfl
     have HTHa : World.there ((wr).alloc (.cells #[.int .i64 0, .int .i64 0, .string ⟨#[]⟩, .slice none 0 0, .string ⟨#[]⟩, .int .i64 0, .slice none 0 0, .string ⟨#[]⟩, .int .i64 0, .int .i64 0, .string ⟨#[]⟩, .slice none 0 0, .slice none 0 0, .int .i64 0, .slice none 0 0, .string ⟨#[]⟩, .int .i64 0, .int .i64 0] 68)) (wr).heap.size 0 18 := there_of (heap_alloc_new _ _) rfl
     have HIFa : (Tryz.prog.info? 68).map (·.size) = some 18 := by kernel_rfl
     have HWEa : Hid (((wr).alloc (.cells #[.int .i64 0, .int .i64 0, .string ⟨#[]⟩, .slice none 0 0, .string ⟨#[]⟩, .int .i64 0, .slice none 0 0, .string ⟨#[]⟩, .int .i64 0, .int .i64 0, .string ⟨#[]⟩, .slice none 0 0, .slice none 0 0, .int .i64 0, .slice none 0 0, .string ⟨#[]⟩, .int .i64 0, .int .i64 0] 68)).setCells (wr).heap.size 0 (#[.int .i64 d.cli, .int .i64 d.qmt, .string d.qpa, .slice ku3 d.qfs.length kuc3, .string d.qbd, .int .i64 d.rst, .slice ku6 d.rfs.length kuc6, .string d.rbd, .int .i64 d.knd, .int .i64 d.tim, .string d.opa, .slice ku11 d.oxs.length kuc11, .slice ku12 d.oys.length kuc12, .int .i64 d.ost, .slice ku14 d.ofs.length kuc14, .string d.obd, .int .i64 d.otm, .int .i64 d.bns] : Array Value).toList = (wr).alloc (.cells #[.int .i64 d.cli, .int .i64 d.qmt, .string d.qpa, .slice ku3 d.qfs.length kuc3, .string d.qbd, .int .i64 d.rst, .slice ku6 d.rfs.length kuc6, .string d.rbd, .int .i64 d.knd, .int .i64 d.tim, .string d.opa, .slice ku11 d.oxs.length kuc11, .slice ku12 d.oys.length kuc12, .int .i64 d.ost, .slice ku14 d.ofs.length kuc14, .string d.obd, .int .i64 d.otm, .int .i64 d.bns] 68)) := alloc_whole rfl
     go_upto_region 7 with (first | (refine wpList_load_mid rfl 68 _ rfl g7 (i * 18) rfl [.int .i64 d.cli, .int .i64 d.qmt, .string d.qpa, .slice ku3 d.qfs.length kuc3, .string d.qbd, .int .i64 d.rst, .slice ku6 d.rfs.length kuc6, .string d.rbd, .int .i64 d.knd, .int .i64 d.tim, .string d.opa, .slice ku11 d.oxs.length kuc11, .slice ku12 d.oys.length kuc12, .int .i64 d.ost, .slice ku14 d.ofs.length kuc14, .string d.obd, .int .i64 d.otm, .int .i64 d.bns] _ HRGe7 Tryz.underlying68 rfl HIFe7 ?_) | (refine wpList_store_mid rfl 68 _ _ rfl (wr).heap.size 0 #[.int .i64 d.cli, .int .i64 d.qmt, .string d.qpa, .slice ku3 d.qfs.length kuc3, .string d.qbd, .int .i64 d.rst, .slice ku6 d.rfs.length kuc6, .string d.rbd, .int .i64 d.knd, .int .i64 d.tim, .string d.opa, .slice ku11 d.oxs.length kuc11, .slice ku12 d.oys.length kuc12, .int .i64 d.ost, .slice ku14 d.ofs.length kuc14, .string d.obd, .int .i64 d.otm, .int .i64 d.bns] rfl rfl HTHa HIFa (by simp [Value.oneCell']) ?_; rw [HWEa.out]) | fail)
     clear HTHa HIFa HWEa
     obtain ⟨qv2, hqv2⟩ := exq ((wr).heap.size)
     obtain ⟨w5, hW5⟩ := exq ((wr).alloc (.cells #[.int .i64 d.cli, .int .i64 d.qmt, .string d.qpa, .slice ku3 d.qfs.length kuc3, .string d.qbd, .int .i64 d.rst, .slice ku6 d.rfs.length kuc6, .string d.rbd, .int .i64 d.knd, .int .i64 d.tim, .string d.opa, .slice ku11 d.oxs.length kuc11, .slice ku12 d.oys.length kuc12, .int .i64 d.ost, .slice ku14 d.ofs.length kuc14, .string d.obd, .int .i64 d.otm, .int .i64 d.bns] 68))
     have hz5 : (wr).heap.size = qv2 := hqv2.symm
     first | rw [← hW5, ← hqv2] | rw [← hW5]
     have hs5 := hsa hW5 hz5
     have bw := bal hW5
     have hb5 := hbt hb4 bw
     have HBv1_5 := hblk HBv1_4 bw
     have HBv2_5 := hnew hW5 hz5
     clear hb4 HBv1_4 bw hW5 hz5
     clear hs5 hqv2
     clear HRGe7 HIFe7
     have cv2_8 : (w5).cell? ⟨qv2, 8, none⟩ = some (.int .i64 d.knd) := (cell_of HBv2_5.out 8).trans rfl
     by_cases hc1 : d.knd = 1
     ·
      have hc1b : ((d.knd : Int) == (1 : Int)) = true := by simpa using hc1
      have hc1n : ((d.knd : Int) != (1 : Int)) = false := by simpa using hc1
      have HKN : Hid (d.knd = 1) := hc1
      have hc1H : Hid (d.knd = 1) := hc1
      clear hc1
      go_wp2_with fail
      clear cv2_8
      obtain ⟨wB, hwB⟩ := exq w5
      rw [← hwB] at hb5 HBv1_5 HBv2_5 ⊢
      clear hwB
      go_loopw [5, 31] (fun r0 i0 wr => ∃ j : Nat, j ≤ 1 ∧ i0 = .int .i64 (j : Int) ∧ r0 = .bool true ∧ Hid (Below w.heap.size w (wr) ∧ (wr).heap[qv1]? = some (.cells #[.slice o1 c.s.cs.length c1, .slice o2 c.s.ws.length c2, .slice o3 n3 c3, .slice o4 n4 c4, .int .i64 c.s.nx, .int .i64 c.s.sq, .slice o5 n5 c5, .int .i64 c.now, .slice o6 n6 c6, .slice (some ⟨g7, 0, none⟩) n7 c7] 58) ∧ (wr).heap[qv2]? = some (.cells #[.int .i64 d.cli, .int .i64 d.qmt, .string d.qpa, .slice ku3 d.qfs.length kuc3, .string d.qbd, .int .i64 d.rst, .slice ku6 d.rfs.length kuc6, .string d.rbd, .int .i64 d.knd, .int .i64 d.tim, .string d.opa, .slice ku11 d.oxs.length kuc11, .slice ku12 d.oys.length kuc12, .int .i64 d.ost, .slice ku14 d.ofs.length kuc14, .string d.obd, .int .i64 d.otm, .int .i64 d.bns] 68)) ∧ Hid (0 < j → (UnbanP c) d)) (fun _ i0 _ => 1 - (intOf i0).toNat)
      case atStart => exact ⟨0, Nat.zero_le _, rfl, rfl, ⟨hb5, HBv1_5.out, HBv2_5.out⟩, fun h => absurd h (by omega)⟩
      case round =>
       obtain ⟨j, hj, rfl, rfl, HW, HJ⟩ := hrel
       by_cases hlj : (j : Int) < (1 : Int)
       ·
        have hb6 := HW.out.1
        have HBv1_6 : Hid ((wr).heap[qv1]? = some (.cells #[.slice o1 c.s.cs.length c1, .slice o2 c.s.ws.length c2, .slice o3 n3 c3, .slice o4 n4 c4, .int .i64 c.s.nx, .int .i64 c.s.sq, .slice o5 n5 c5, .int .i64 c.now, .slice o6 n6 c6, .slice (some ⟨g7, 0, none⟩) n7 c7] 58)) := HW.out.2.1
        have HBv2_6 : Hid ((wr).heap[qv2]? = some (.cells #[.int .i64 d.cli, .int .i64 d.qmt, .string d.qpa, .slice ku3 d.qfs.length kuc3, .string d.qbd, .int .i64 d.rst, .slice ku6 d.rfs.length kuc6, .string d.rbd, .int .i64 d.knd, .int .i64 d.tim, .string d.opa, .slice ku11 d.oxs.length kuc11, .slice ku12 d.oys.length kuc12, .int .i64 d.ost, .slice ku14 d.ofs.length kuc14, .string d.obd, .int .i64 d.otm, .int .i64 d.bns] 68)) := HW.out.2.2
        clear HW hb5 HBv1_5 HBv2_5
        have rj0 : (wr).cell? ⟨gj, j * 2, none⟩ = some (.func (.func 86) #[] #[]) := by
         have e : j = 0 := by omega
         rw [e]
         exact (cell_of (HJB.out _ hb6) 0).trans rfl
        have rj1 : (wr).cell? ⟨gj, j * 2 + 1, none⟩ = some (.func (.func 87) #[] #[]) := by
         have e : j = 0 := by omega
         rw [e]
         exact (cell_of (HJB.out _ hb6) 1).trans rfl
        have hjn : ¬ (1 ≤ j) := by omega
        go_upto_region 11 with fail
        obtain ⟨qv3, hqv3⟩ := exq ((wr).heap.size)
        obtain ⟨w7, hW7⟩ := exq ((wr).alloc (.cells #[.func (.func 86) #[] #[], .func (.func 87) #[] #[]] 107))
        have hz7 : (wr).heap.size = qv3 := hqv3.symm
        first | rw [← hW7, ← hqv3] | rw [← hW7]
        have hs7 := hsa hW7 hz7
        have bw := bal hW7
        have hb7 := hbt hb6 bw
        have HBv1_7 := hblk HBv1_6 bw
        have HBv2_7 := hblk HBv2_6 bw
        have HBv3_7 := hnew hW7 hz7
        clear hb6 HBv1_6 HBv2_6 bw hW7 hz7
        clear hs7 hqv3
        clear rj0 rj1
        have HRGv2 : World.rangeAt (w7) qv2 0 [.int .i64 d.cli, .int .i64 d.qmt, .string d.qpa, .slice ku3 d.qfs.length kuc3, .string d.qbd, .int .i64 d.rst, .slice ku6 d.rfs.length kuc6, .string d.rbd, .int .i64 d.knd, .int .i64 d.tim, .string d.opa, .slice ku11 d.oxs.length kuc11, .slice ku12 d.oys.length kuc12, .int .i64 d.ost, .slice ku14 d.ofs.length kuc14, .string d.obd, .int .i64 d.otm, .int .i64 d.bns] := range_of HBv2_7.out
        have HIFv2 : (Tryz.prog.info? 68).map (·.size) = some 18 := by kernel_rfl
        have cv1_0 := (k10c HBv1_7).1
        have cv1_1 := (k10c HBv1_7).2.1
        have cv1_2 := (k10c HBv1_7).2.2.1
        have cv1_3 := (k10c HBv1_7).2.2.2.1
        have cv1_4 := (k10c HBv1_7).2.2.2.2.1
        have cv1_5 := (k10c HBv1_7).2.2.2.2.2.1
        have cv1_6 := (k10c HBv1_7).2.2.2.2.2.2.1
        have cv1_7 := (k10c HBv1_7).2.2.2.2.2.2.2.1
        have cv1_8 := (k10c HBv1_7).2.2.2.2.2.2.2.2.1
        have cv1_9 := (k10c HBv1_7).2.2.2.2.2.2.2.2.2
        have cv3_0 := (k2c HBv3_7).1
        go_wp2_with (first | (refine wpList_load_mid rfl 68 _ rfl qv2 0 rfl [.int .i64 d.cli, .int .i64 d.qmt, .string d.qpa, .slice ku3 d.qfs.length kuc3, .string d.qbd, .int .i64 d.rst, .slice ku6 d.rfs.length kuc6, .string d.rbd, .int .i64 d.knd, .int .i64 d.tim, .string d.opa, .slice ku11 d.oxs.length kuc11, .slice ku12 d.oys.length kuc12, .int .i64 d.ost, .slice ku14 d.ofs.length kuc14, .string d.obd, .int .i64 d.otm, .int .i64 d.bns] _ HRGv2 Tryz.underlying68 rfl HIFv2 ?_) | (refine wpList_load_midG (by rfl) 68 _ rfl qv2 0 rfl [.int .i64 d.cli, .int .i64 d.qmt, .string d.qpa, .slice ku3 d.qfs.length kuc3, .string d.qbd, .int .i64 d.rst, .slice ku6 d.rfs.length kuc6, .string d.rbd, .int .i64 d.knd, .int .i64 d.tim, .string d.opa, .slice ku11 d.oxs.length kuc11, .slice ku12 d.oys.length kuc12, .int .i64 d.ost, .slice ku14 d.ofs.length kuc14, .string d.obd, .int .i64 d.otm, .int .i64 d.bns] _ HRGv2 Tryz.underlying68 rfl HIFv2 ?_) | fail)
        refine (wasUnbanned_any _ _ _ _ _ _ _ kv fv ev rv c B _ (HCA.out _ hb7) HZ.out d _ _ _ _ _ B (HRd.out _ hb7) HSd.out).mono ?_
        rintro e w8 ⟨ua, rfl, hua, bw⟩
        have hb8 := hbt hb7 bw
        have HBv1_8 := hblk HBv1_7 bw
        have HBv2_8 := hblk HBv2_7 bw
        have HBv3_8 := hblk HBv3_7 bw
        clear hb7 HBv1_7 HBv2_7 HBv3_7 bw
        clear HRGv2 HIFv2 cv1_0 cv1_1 cv1_2 cv1_3 cv1_4 cv1_5 cv1_6 cv1_7 cv1_8 cv1_9 cv3_0
        cases ua with
        | false =>
         have HNua : Hid (¬ (UnbanP c d)) := fun h => nomatch hua.2 h
         clear hua
         go_wp2_with fail
         try rw [Exit.noGoto_ret]
         go_ret
         exact BoolIs.no (fun h => by have h1 := h.2.2 i (by rw [HLC.out.2.2.1]; omega) (by rw [HEd.out]; exact HKN.out); rw [HEd.out] at h1; exact HNua.out h1) hb8
        | true =>
         have HYua : Hid (UnbanP c d) := hua.1 rfl
         clear hua
         have HJ2 : Hid (0 < j + 1 → (UnbanP c) d) := fun _ => HYua.out
         go_wp2_with fail
         go_roundw
         case rel => exact ⟨j + 1, by omega, by go_num, rfl, ⟨hb8, HBv1_8.out, HBv2_8.out⟩, HJ2⟩
         case measure => simp [intOf]; omega
       ·
        have hb6 := HW.out.1
        have HBv1_6 : Hid ((wr).heap[qv1]? = some (.cells #[.slice o1 c.s.cs.length c1, .slice o2 c.s.ws.length c2, .slice o3 n3 c3, .slice o4 n4 c4, .int .i64 c.s.nx, .int .i64 c.s.sq, .slice o5 n5 c5, .int .i64 c.now, .slice o6 n6 c6, .slice (some ⟨g7, 0, none⟩) n7 c7] 58)) := HW.out.2.1
        have HBv2_6 : Hid ((wr).heap[qv2]? = some (.cells #[.int .i64 d.cli, .int .i64 d.qmt, .string d.qpa, .slice ku3 d.qfs.length kuc3, .string d.qbd, .int .i64 d.rst, .slice ku6 d.rfs.length kuc6, .string d.rbd, .int .i64 d.knd, .int .i64 d.tim, .string d.opa, .slice ku11 d.oxs.length kuc11, .slice ku12 d.oys.length kuc12, .int .i64 d.ost, .slice ku14 d.ofs.length kuc14, .string d.obd, .int .i64 d.otm, .int .i64 d.bns] 68)) := HW.out.2.2
        clear HW hb5 HBv1_5 HBv2_5
        have HPD : Hid ((UnbanP c) d) := HJ.out (by omega)
        clear HJ
        have HN2 : Hid (∀ m, m < i + 1 → (rpAt c.sn m).knd = 1 → (UnbanP c) (rpAt c.sn m)) := fun m' hm' => by
         by_cases e : m' = i
         ·
          subst e
          exact fun _ => by rw [HEd.out]; exact HPD.out
         · exact HN.out m' (by omega)
        go_wp2_with fail
        go_roundw
        case rel => exact ⟨i + 1, by omega, by go_num, rfl, ⟨hb6, HBv1_6.out⟩, HN2⟩
        case measure => simp [intOf]; omega
     ·
      have hc1b : ((d.knd : Int) == (1 : Int)) = false := by simpa using hc1
      have hc1n : ((d.knd : Int) != (1 : Int)) = true := by simpa using hc1
      have HKN : Hid (¬ d.knd = 1) := hc1
      have hc1H : Hid (¬ (d.knd = 1)) := hc1
      clear hc1
      have HN2 : Hid (∀ m, m < i + 1 → (rpAt c.sn m).knd = 1 → (UnbanP c) (rpAt c.sn m)) := fun m' hm' => by
       by_cases e : m' = i
       ·
        subst e
        exact fun h1 => by rw [HEd.out] at h1; exact absurd h1 HKN.out
       · exact HN.out m' (by omega)
      go_wp2_with fail
      go_roundw
      case rel => exact ⟨i + 1, by omega, by go_num, rfl, ⟨hb5, HBv1_5.out⟩, HN2⟩
      case measure => simp [intOf]; omega
    ·
     have hb4 := HW.out.1
     have HBv1_4 : Hid ((wr).heap[qv1]? = some (.cells #[.slice o1 c.s.cs.length c1, .slice o2 c.s.ws.length c2, .slice o3 n3 c3, .slice o4 n4 c4, .int .i64 c.s.nx, .int .i64 c.s.sq, .slice o5 n5 c5, .int .i64 c.now, .slice o6 n6 c6, .slice o7 n7 c7] 58)) := HW.out.2
     clear HW hb3 HBv1_3
     have HFA : Hid (EachHere (UnbanP c) c.sn) := fun m hm => HN.out m (by rw [HLC.out.2.2.1] at hm; omega)
     clear HN
     go_wp2_with fail
     try rw [Exit.noGoto_ret]
     go_ret
     exact BoolIs.yes ⟨HYus.out, HYuw.out, HFA.out⟩ hb4
theorem implJudgeBans_any (v1 v2 V VB F E R : Value) (kv : List (KpD × Value × Value × Value)) (fv : List FlV) (ev : List SeV) (rv : List RpV) (c : CaD) (B : Nat) (w : World) (h : CacheO w B v1 v2 V VB F E R kv fv ev rv c) (hz : CaSmall c) :
  Calls Tryz.prog 15 #[.agg #[v1, v2, V, VB, .int .i64 c.s.nx, .int .i64 c.s.sq, F, .int .i64 c.now, E, R]] w fun e w' => BoolIs (CacheP c ∧ NoBanP c ∧ EachHere (UnbanP c) c.sn) w e w' := by
 obtain ⟨o1, c1, rfl⟩ := slice_of_owns h.shelf.disk.cells
 obtain ⟨o2, c2, rfl⟩ := slice_of_owns h.shelf.disk.pend
 obtain ⟨o3, c3, rfl⟩ := h.shelf.kept.len
 obtain ⟨o4, c4, rfl⟩ := slice_of_owns h.shelf.bans
 obtain ⟨o5, c5, rfl⟩ := h.fls.len
 obtain ⟨o6, c6, rfl⟩ := h.ses.len
 obtain ⟨o7, c7, rfl⟩ := h.rps.len
 obtain ⟨n3, hn3⟩ := exq kv.length
 obtain ⟨n4, hn4⟩ := exq (c.s.bl.length)
 obtain ⟨n5, hn5⟩ := exq fv.length
 obtain ⟨n6, hn6⟩ := exq ev.length
 obtain ⟨n7, hn7⟩ := exq rv.length
 rw [← hn3, ← hn4, ← hn5, ← hn6, ← hn7] at h ⊢
 have HLK : Hid (kv.length = n3) := hn3.symm
 have HLB : Hid (c.s.bl.length = n4) := hn4.symm
 have HLF : Hid (fv.length = n5) := hn5.symm
 have HLE : Hid (ev.length = n6) := hn6.symm
 have HLR : Hid (rv.length = n7) := hn7.symm
 have HLC : Hid (c.fl.length = n5 ∧ c.se.length = n6 ∧ c.sn.length = n7 ∧ c.s.ks.length = n3) := ⟨by rw [← h.hf, List.length_map, hn5], by rw [← h.he, List.length_map, hn6], by rw [← h.hr, List.length_map, hn7], by rw [← h.hk, List.length_map, hn3]⟩
 have HFD : Hid (fv.map (·.d) = c.fl) := h.hf
 have HED : Hid (ev.map (·.d) = c.se) := h.he
 have HKS : Hid (kv.map (·.1) = c.s.ks) := h.hk
 have HZ : Hid (CaSmall c) := hz
 have bn3 : n3 ≤ 1048576 := by rw [← HLC.out.2.2.2]; exact hz.s.k
 have bn4 : n4 ≤ 1048576 := by rw [← HLB.out]; exact hz.s.b
 have bn5 : n5 ≤ 1048576 := by rw [← HLC.out.1]; exact hz.nf
 have bn6 : n6 ≤ 1048576 := by rw [← HLC.out.2.1]; exact hz.ne
 have bn7 : n7 ≤ 1048576 := by rw [← HLC.out.2.2.1]; exact hz.nr
 have HCA : Hid (∀ W, Below w.heap.size w W → CacheO W B (.slice o1 c.s.cs.length c1) (.slice o2 c.s.ws.length c2) (.slice o3 n3 c3) (.slice o4 n4 c4) (.slice o5 n5 c5) (.slice o6 n6 c6) (.slice o7 n7 c7) kv fv ev rv c) := fun W hb => h.below hb
 have HKP : Hid (∀ W, Below w.heap.size w W → KeptsO W B (.slice o3 n3 c3) kv) := fun W hb => (h.below hb).shelf.kept
 have HBN : Hid (∀ W, Below w.heap.size w W → BanA W o4 n4 c.s.bl) := fun W hb => by
  have h1 := (h.below hb).shelf.bans
  rw [HLB.out] at h1
  exact ban_view h1
 have HC4 : Hid (n4 ≤ c4) := by
  have h1 := h.shelf.bans
  rw [HLB.out] at h1
  exact owns_cap h1
 clear hn3 hn4 hn5 hn6 hn7 h hz
 have hb0 : Below w.heap.size w w := Below.refl _ _
 go_enter Tryz.func15, Tryz.ntmps15
 go_upto_region 1 with fail
 obtain ⟨qv1, hqv1⟩ := exq ((w).heap.size)
 obtain ⟨w1, hW1⟩ := exq ((w).alloc (.cells #[.slice o1 c.s.cs.length c1, .slice o2 c.s.ws.length c2, .slice o3 n3 c3, .slice o4 n4 c4, .int .i64 c.s.nx, .int .i64 c.s.sq, .slice o5 n5 c5, .int .i64 c.now, .slice o6 n6 c6, .slice o7 n7 c7] 58))
 have hz1 : (w).heap.size = qv1 := hqv1.symm
 first | rw [← hW1, ← hqv1] | rw [← hW1]
 have hs1 := hsa hW1 hz1
 have bw := bal hW1
 have hb1 := hbt hb0 bw
 have HBv1_1 := hnew hW1 hz1
 clear hb0 bw hW1 hz1
 clear hs1 hqv1
 go_upto_region 1 with fail
 refine wp_region_held_drew (S := fun W => W.heap[qv1]? = some (.cells #[.slice o1 c.s.cs.length c1, .slice o2 c.s.ws.length c2, .slice o3 n3 c3, .slice o4 n4 c4, .int .i64 c.s.nx, .int .i64 c.s.sq, .slice o5 n5 c5, .int .i64 c.now, .slice o6 n6 c6, .slice o7 n7 c7] 58)) (by kernel_rfl) HBv1_1.out (fun _ => ?_)
 obtain ⟨w2, hX⟩ := exq w1.drew
 have bw := bdr hX
 rw [← hX]
 have hb2 := hbt hb1 bw
 have HBv1_2 := hblk HBv1_1 bw
 have hS2 := HBv1_2.out
 clear hb1 HBv1_1 bw hX
 refine tkL 0 (.agg #[.slice o1 c.s.cs.length c1, .slice o2 c.s.ws.length c2, .slice o3 n3 c3, .slice o4 n4 c4, .int .i64 c.s.nx, .int .i64 c.s.sq, .slice o5 n5 c5, .int .i64 c.now, .slice o6 n6 c6, .slice o7 n7 c7]) 3 rfl rfl (Or.inl ⟨by rfl, by intro W hW; have hhv1 := hW; have y0 := (cell_of hhv1 0).trans rfl; have y1 := (cell_of hhv1 1).trans rfl; have y2 := (cell_of hhv1 2).trans rfl; have y3 := (cell_of hhv1 3).trans rfl; have y4 := (cell_of hhv1 4).trans rfl; have y5 := (cell_of hhv1 5).trans rfl; have y6 := (cell_of hhv1 6).trans rfl; have y7 := (cell_of hhv1 7).trans rfl; have y8 := (cell_of hhv1 8).trans rfl; have y9 := (cell_of hhv1 9).trans rfl; go_simp⟩) hS2 ?_
 go_frame
 refine rd1 1 rfl (fun K hK => ?_)
 go_simp
 refine (judgeOfBans_any _).mono ?_
 rintro e w3 ⟨rfl, bw⟩
 have hb3 := hbt hb2 bw
 have HBv1_3 := hblk HBv1_2 bw
 clear hb2 HBv1_2 bw
 have hS3 := HBv1_3.out
 refine hK.out _ _ hS3 (fun _ => ?_)
 clear hK K hS2
 refine rd1 2 rfl (fun K hK => ?_)
 go_simp
 have bw : Below w3.heap.size w3 (w3.alloc (.cells #[.func (.func 86) #[] #[], .func (.func 87) #[] #[]] 107)) := (Below.refl _ _).alloc (Nat.le_refl _) _
 have hSA : (w3.alloc (.cells #[.func (.func 86) #[] #[], .func (.func 87) #[] #[]] 107)).heap[qv1]? = some (.cells #[.slice o1 c.s.cs.length c1, .slice o2 c.s.ws.length c2, .slice o3 n3 c3, .slice o4 n4 c4, .int .i64 c.s.nx, .int .i64 c.s.sq, .slice o5 n5 c5, .int .i64 c.now, .slice o6 n6 c6, .slice o7 n7 c7] 58) := blk_below HBv1_3.out bw
 refine hK.out _ _ hSA (fun _ => ?_)
 clear hK K hSA bw hS3
 obtain ⟨qv2, hqv2⟩ := exq (w3.heap.size)
 obtain ⟨w4, hXj⟩ := exq ((w3.alloc (.cells #[.func (.func 86) #[] #[], .func (.func 87) #[] #[]] 107)))
 rw [← hqv2, ← hXj]
 have bw := bal hXj
 have hb4 := hbt hb3 bw
 have HBv1_4 := hblk HBv1_3 bw
 have HBv2_4 : Hid ((w4).heap[qv2]? = some (.cells #[.func (.func 86) #[] #[], .func (.func 87) #[] #[]] 107)) := by show _ = _; rw [hXj, hqv2]; exact heap_alloc_new _ _
 have hS4 := HBv1_4.out
 clear hb3 HBv1_3 bw hXj hqv2
 refine rd1 3 rfl (fun K hK => ?_)
 go_simp
 refine (agreeBans_any _ _ _ _ _ _ _ kv fv ev rv c B _ (HCA.out _ hb4) HZ.out qv2 HBv2_4.out).mono ?_
 rintro e w5 ⟨ug, rfl, hug, bw⟩
 have HUG : Hid (ug = true ↔ CacheP c ∧ NoBanP c ∧ EachHere (UnbanP c) c.sn) := hug
 clear hug
 have hb5 := hbt hb4 bw
 have HBv1_5 := hblk HBv1_4 bw
 have HBv2_5 := hblk HBv2_4 bw
 clear hb4 HBv1_4 HBv2_4 bw
 have hS5 := HBv1_5.out
 refine hK.out _ _ hS5 (fun _ => ?_)
 clear hK K hS4
 refine tkP 4 (.bool ug) 2 rfl rfl hS5 ?_
 go_frame
 clear hS5
 refine wpAnyH_done (by kernel_rfl) ?_ _
 go_wp2_with fail
 go_ret
 exact ⟨ug, rfl, HUG.out, hb5⟩
end Go.Proofs.YtbmhonfgffjpcaaGreat
namespace Go.Proofs.YtbmhonfgffjpcaaGreat
open Go.RowKit
open Go.Lib hiding intOf
theorem specCacheOk_any (v1 v2 V VB F E R : Value) (kv : List (KpD × Value × Value × Value)) (fv : List FlV) (ev : List SeV) (rv : List RpV) (c : CaD) (B : Nat) (w : World) (h : CacheO w B v1 v2 V VB F E R kv fv ev rv c) (hz : CaSmall c) :
  Calls Tryz.prog 42 #[.agg #[v1, v2, V, VB, .int .i64 c.s.nx, .int .i64 c.s.sq, F, .int .i64 c.now, E, R]] w fun e w' => BoolIs (CacheP c) w e w' := by
 obtain ⟨o1, c1, rfl⟩ := slice_of_owns h.shelf.disk.cells
 obtain ⟨o2, c2, rfl⟩ := slice_of_owns h.shelf.disk.pend
 obtain ⟨o3, c3, rfl⟩ := h.shelf.kept.len
 obtain ⟨o4, c4, rfl⟩ := slice_of_owns h.shelf.bans
 obtain ⟨o5, c5, rfl⟩ := h.fls.len
 obtain ⟨o6, c6, rfl⟩ := h.ses.len
 obtain ⟨o7, c7, rfl⟩ := h.rps.len
 obtain ⟨n5, hn5⟩ := exq fv.length
 obtain ⟨n6, hn6⟩ := exq ev.length
 obtain ⟨n7, hn7⟩ := exq rv.length
 rw [← hn5, ← hn6, ← hn7] at h ⊢
 have HLF : Hid (fv.length = n5) := hn5.symm
 have HLC : Hid (c.fl.length = n5 ∧ c.se.length = n6 ∧ c.sn.length = n7) := ⟨by rw [← h.hf, List.length_map, hn5], by rw [← h.he, List.length_map, hn6], by rw [← h.hr, List.length_map, hn7]⟩
 have HFD : Hid (fv.map (·.d) = c.fl) := h.hf
 have HZ : Hid (CaSmall c) := hz
 have bn5 : n5 ≤ 1048576 := by rw [← HLC.out.1]; exact hz.nf
 have bn6 : n6 ≤ 1048576 := by rw [← HLC.out.2.1]; exact hz.ne
 have bn7 : n7 ≤ 1048576 := by rw [← HLC.out.2.2]; exact hz.nr
 have HCA : Hid (∀ W, Below w.heap.size w W → CacheO W B (.slice o1 c.s.cs.length c1) (.slice o2 c.s.ws.length c2) (.slice o3 kv.length c3) (.slice o4 c.s.bl.length c4) (.slice o5 n5 c5) (.slice o6 n6 c6) (.slice o7 n7 c7) kv fv ev rv c) := fun W hb => h.below hb
 clear hn5 hn6 hn7 h hz
 have HFL : Hid (∀ W, Below w.heap.size w W → FlsO W B (.slice o5 n5 c5) fv) := fun W hb => (HCA.out W hb).fls
 have HFS : Hid (∀ x ∈ fv, FlSmall x.d) := fun x hx => HZ.out.fl _ (by rw [← HFD.out]; exact List.mem_map.2 ⟨x, hx, rfl⟩)
 have hb0 : Below w.heap.size w w := Below.refl _ _
 go_enter Tryz.func42, Tryz.ntmps42
 go_upto_region 1 with fail
 obtain ⟨qv1, hqv1⟩ := exq ((w).heap.size)
 obtain ⟨w1, hW1⟩ := exq ((w).alloc (.cells #[.slice o1 c.s.cs.length c1, .slice o2 c.s.ws.length c2, .slice o3 kv.length c3, .slice o4 c.s.bl.length c4, .int .i64 c.s.nx, .int .i64 c.s.sq, .slice o5 n5 c5, .int .i64 c.now, .slice o6 n6 c6, .slice o7 n7 c7] 58))
 have hz1 : (w).heap.size = qv1 := hqv1.symm
 first | rw [← hW1, ← hqv1] | rw [← hW1]
 have hs1 := hsa hW1 hz1
 have bw := bal hW1
 have hb1 := hbt hb0 bw
 have HBv1_1 := hnew hW1 hz1
 clear hb0 bw hW1 hz1
 clear hs1 hqv1
 have cv1_0 := (k10c HBv1_1).1
 have cv1_1 := (k10c HBv1_1).2.1
 have cv1_2 := (k10c HBv1_1).2.2.1
 have cv1_3 := (k10c HBv1_1).2.2.2.1
 have cv1_4 := (k10c HBv1_1).2.2.2.2.1
 have cv1_5 := (k10c HBv1_1).2.2.2.2.2.1
 go_wp2_with fail
 refine (specShelfOk_any _ _ _ _ kv c.s B _ (HCA.out _ hb1).shelf HZ.out.s).mono ?_
 rintro e w2 ⟨us, rfl, hus, bw⟩
 have hb2 := hbt hb1 bw
 have HBv1_2 := hblk HBv1_1 bw
 clear hb1 HBv1_1 bw
 clear cv1_0 cv1_1 cv1_2 cv1_3 cv1_4 cv1_5
 cases us with
 | false =>
  have HNus : Hid (¬ (ShelfP c.s)) := fun h => nomatch hus.2 h
  clear hus
  go_wp2_with fail
  go_ret
  exact BoolIs.no (fun h => HNus.out h.1) hb2
 | true =>
  have HYus : Hid (ShelfP c.s) := hus.1 rfl
  clear hus
  have cv1_7 := (k10c HBv1_2).2.2.2.2.2.2.2.1
  go_wp2_with fail
  refine (l1In_any c.now 0 1000000 _).mono ?_
  rintro e w3 ⟨rfl, hwe⟩
  have bw : Below (w2).heap.size (w2) w3 := by rw [hwe]; exact Below.refl _ _
  clear hwe
  obtain ⟨un, hun⟩ : ∃ u, u = decide ((0 : Int) ≤ c.now ∧ c.now ≤ 1000000) := ⟨_, rfl⟩
  rw [← hun]
  have hb3 := hbt hb2 bw
  have HBv1_3 := hblk HBv1_2 bw
  clear hb2 HBv1_2 bw
  clear cv1_7
  cases un with
  | false =>
   have HNun : Hid (¬ (0 ≤ c.now ∧ c.now ≤ 1000000)) := (show ¬ (0 ≤ c.now ∧ c.now ≤ 1000000) from of_decide_eq_false hun.symm)
   clear hun
   go_wp2_with fail
   go_ret
   exact BoolIs.no (fun h => HNun.out h.2.1) hb3
  | true =>
   have HYun : Hid (0 ≤ c.now ∧ c.now ≤ 1000000) := (show (0 ≤ c.now ∧ c.now ≤ 1000000) from of_decide_eq_true hun.symm)
   clear hun
   by_cases hc1 : 5 < (n5 : Int)
   ·
    have Hf5 : Hid (¬ n5 ≤ 5) := (by have := hc1; show ¬ _; omega)
    have cv1_6 := (k10c HBv1_3).2.2.2.2.2.2.1
    go_wp2_with fail
    go_ret
    exact BoolIs.no (fun h => by have h1 := h.2.2.1.1; have h5 := Hf5.out; rw [HLC.out.1] at h1; omega) hb3
   ·
    have Hf5 : Hid (n5 ≤ 5) := (by have := hc1; show _ ≤ _; omega)
    by_cases hc2 : 1500 < (n6 : Int)
    ·
     have He5 : Hid (¬ n6 ≤ 1500) := (by have := hc2; show ¬ _; omega)
     have cv1_6 := (k10c HBv1_3).2.2.2.2.2.2.1
     have cv1_8 := (k10c HBv1_3).2.2.2.2.2.2.2.2.1
     go_wp2_with fail
     go_ret
     exact BoolIs.no (fun h => by have h1 := h.2.2.2.1; have h5 := He5.out; rw [HLC.out.2.1] at h1; omega) hb3
    ·
     have He5 : Hid (n6 ≤ 1500) := (by have := hc2; show _ ≤ _; omega)
     have cv1_6 := (k10c HBv1_3).2.2.2.2.2.2.1
     have cv1_8 := (k10c HBv1_3).2.2.2.2.2.2.2.2.1
     have cv1_9 := (k10c HBv1_3).2.2.2.2.2.2.2.2.2
     by_cases hc3 : 1500 < (n7 : Int)
     ·
      have Hr5 : Hid (¬ n7 ≤ 1500) := (by have := hc3; show ¬ _; omega)
      go_wp2_with fail
      go_ret
      exact BoolIs.no (fun h => by have h1 := h.2.2.2.2; have h5 := Hr5.out; rw [HLC.out.2.2] at h1; omega) hb3
     ·
      have Hr5 : Hid (n7 ≤ 1500) := (by have := hc3; show _ ≤ _; omega)
      go_wp2_with fail
      clear cv1_6 cv1_8 cv1_9
      obtain ⟨wA, hwA⟩ := exq w3
      rw [← hwA] at hb3 HBv1_3 ⊢
      clear hwA
      go_loopw [3] (fun i wr => ∃ i' : Nat, i' ≤ n5 ∧ i = .int .i64 (i' : Int) ∧ Hid (Below w.heap.size w (wr) ∧ (wr).heap[qv1]? = some (.cells #[.slice o1 c.s.cs.length c1, .slice o2 c.s.ws.length c2, .slice o3 kv.length c3, .slice o4 c.s.bl.length c4, .int .i64 c.s.nx, .int .i64 c.s.sq, .slice o5 n5 c5, .int .i64 c.now, .slice o6 n6 c6, .slice o7 n7 c7] 58)) ∧ Hid (∀ m, m < i' → FlAtOk c.fl m)) (fun i _ => n5 - (intOf i).toNat)
      case atStart => exact ⟨0, Nat.zero_le _, rfl, ⟨hb3, HBv1_3.out⟩, fun m hm => absurd hm (by omega)⟩
      case round =>
       obtain ⟨i, hi, rfl, HW, HN⟩ := hrel
       by_cases hlt : (i : Int) < (n5 : Int)
       ·
        have hb4 := HW.out.1
        have HBv1_4 : Hid ((wr).heap[qv1]? = some (.cells #[.slice o1 c.s.cs.length c1, .slice o2 c.s.ws.length c2, .slice o3 kv.length c3, .slice o4 c.s.bl.length c4, .int .i64 c.s.nx, .int .i64 c.s.sq, .slice o5 n5 c5, .int .i64 c.now, .slice o6 n6 c6, .slice o7 n7 c7] 58)) := HW.out.2
        clear HW hb3 HBv1_3
        obtain ⟨g5, p5, hV, _, _⟩ := (HFL.out _ hb4).look i (by rw [HLF.out]; omega)
        rw [HLF.out] at hV
        injection hV with hV1 hV2 hV3
        subst hV1 hV3
        clear hV2
        obtain ⟨dX, hdX⟩ := exq (flvAt fv i)
        have HMd : Hid (dX ∈ fv) := by show _ ∈ _; rw [hdX]; exact getD_mem0 _ fv i (by rw [HLF.out]; omega)
        have HEd : Hid (flAt c.fl i = dX.d) := by show _ = _; rw [hdX, ← HFD.out]; exact getD_map0 _ _ _ fv i (by rw [HLF.out]; omega)
        have HKd : Hid (∀ W, Below w.heap.size w W → FlAt W g5 i dX) := fun W hb => by
         obtain ⟨g', p', hV, _, hc⟩ := (HFL.out W hb).look i (by rw [HLF.out]; omega)
         injection hV with hV1 _ _
         cases hV1
         rw [hdX]
         exact hc
        have HRd : Hid (∀ W, Below w.heap.size w W → RowsO W B (flR dX)) := fun W hb => (HFL.out W hb).item HMd.out
        have HSd : Hid (FlSmall dX.d) := HFS.out _ HMd.out
        clear hdX
        obtain ⟨d, kuv2, kuv4, kuv6, kuv7, kuv9⟩ := dX
        obtain ⟨ku2, kuc2, hu⟩ := slice_of_owns ((HRd.out _ hb4).own (⟨171, 2, kuv2, d.qfs.length, flatF d.qfs⟩ : Rw) (by simp [flR]))
        obtain rfl : kuv2 = .slice ku2 d.qfs.length kuc2 := hu
        obtain ⟨ku4, kuc4, hu⟩ := slice_of_owns ((HRd.out _ hb4).own (⟨3, 1, kuv4, d.who.length, d.who.map (Value.int .i64)⟩ : Rw) (by simp [flR]))
        obtain rfl : kuv4 = .slice ku4 d.who.length kuc4 := hu
        obtain ⟨ku6, kuc6, hu⟩ := slice_of_owns ((HRd.out _ hb4).own (⟨9, 1, kuv6, d.oxs.length, d.oxs.map Value.string⟩ : Rw) (by simp [flR]))
        obtain rfl : kuv6 = .slice ku6 d.oxs.length kuc6 := hu
        obtain ⟨ku7, kuc7, hu⟩ := slice_of_owns ((HRd.out _ hb4).own (⟨9, 1, kuv7, d.oys.length, d.oys.map Value.string⟩ : Rw) (by simp [flR]))
        obtain rfl : kuv7 = .slice ku7 d.oys.length kuc7 := hu
        obtain ⟨ku9, kuc9, hu⟩ := slice_of_owns ((HRd.out _ hb4).own (⟨171, 2, kuv9, d.ofs.length, flatF d.ofs⟩ : Rw) (by simp [flR]))
        obtain rfl : kuv9 = .slice ku9 d.ofs.length kuc9 := hu
        have r0d := (HKd.out _ hb4).c0
        have r1d := (HKd.out _ hb4).c1
        have r2d := (HKd.out _ hb4).c2
        have r3d := (HKd.out _ hb4).c3
        have r4d := (HKd.out _ hb4).c4
        have r5d := (HKd.out _ hb4).c5
        have r6d := (HKd.out _ hb4).c6
        have r7d := (HKd.out _ hb4).c7
        have r8d := (HKd.out _ hb4).c8
        have r9d := (HKd.out _ hb4).c9
        have r10d := (HKd.out _ hb4).c10
        have r11d := (HKd.out _ hb4).c11
        have r12d := (HKd.out _ hb4).c12
        dsimp only at r0d r1d r2d r3d r4d r5d r6d r7d r8d r9d r10d r11d r12d
        obtain ⟨hs, hhhs⟩ := exq d.has
        rw [← hhhs] at r12d
        have HHhs : Hid (hs = d.has) := hhhs
        clear hhhs
        have cv1_6 := (k10c HBv1_4).2.2.2.2.2.2.1
        go_upto_region 7 with fail
        obtain ⟨qv2, hqv2⟩ := exq ((wr).heap.size)
        obtain ⟨w5, hW5⟩ := exq ((wr).alloc (.cells #[.int .i64 d.qmt, .string d.qpa, .slice ku2 d.qfs.length kuc2, .string d.qbd, .slice ku4 d.who.length kuc4, .string d.opa, .slice ku6 d.oxs.length kuc6, .slice ku7 d.oys.length kuc7, .int .i64 d.ost, .slice ku9 d.ofs.length kuc9, .string d.obd, .int .i64 d.otm, .bool hs] 129))
        have hz5 : (wr).heap.size = qv2 := hqv2.symm
        first | rw [← hW5, ← hqv2] | rw [← hW5]
        have hs5 := hsa hW5 hz5
        have bw := bal hW5
        have hb5 := hbt hb4 bw
        have HBv1_5 := hblk HBv1_4 bw
        have HBv2_5 := hnew hW5 hz5
        clear hb4 HBv1_4 bw hW5 hz5
        clear hs5 hqv2
        clear r0d r1d r2d r3d r4d r5d r6d r7d r8d r9d r10d r11d r12d cv1_6
        have cv2_0 : (w5).cell? ⟨qv2, 0, none⟩ = some (.int .i64 d.qmt) := (cell_of HBv2_5.out 0).trans rfl
        have cv2_1 : (w5).cell? ⟨qv2, 1, none⟩ = some (.string d.qpa) := (cell_of HBv2_5.out 1).trans rfl
        have cv2_2 : (w5).cell? ⟨qv2, 2, none⟩ = some (.slice ku2 d.qfs.length kuc2) := (cell_of HBv2_5.out 2).trans rfl
        have cv2_3 : (w5).cell? ⟨qv2, 3, none⟩ = some (.string d.qbd) := (cell_of HBv2_5.out 3).trans rfl
        go_wp2_with fail
        refine (specReqOk_f d _ _ _ _ _ B _ (HRd.out _ hb5) HSd.out).mono ?_
        rintro e w6 ⟨ur, rfl, hur, bw⟩
        have hb6 := hbt hb5 bw
        have HBv1_6 := hblk HBv1_5 bw
        have HBv2_6 := hblk HBv2_5 bw
        clear hb5 HBv1_5 HBv2_5 bw
        clear cv2_0 cv2_1 cv2_2 cv2_3
        cases ur with
        | false =>
         have HNur : Hid (¬ (ReqF d)) := fun h => nomatch hur.2 h
         clear hur
         go_wp2_with fail
         go_ret
         exact BoolIs.no (fun h => by have hk := h.2.2.1.2 i (by rw [HLC.out.1]; omega); unfold FlAtOk at hk; rw [HEd.out] at hk; exact HNur.out hk.1.1) hb6
        | true =>
         have HYur : Hid (ReqF d) := hur.1 rfl
         clear hur
         have cv2_4 : (w6).cell? ⟨qv2, 4, none⟩ = some (.slice ku4 d.who.length kuc4) := (cell_of HBv2_6.out 4).trans rfl
         go_wp2_with fail
         refine (l1In_any (d.who.length : Int) 1 5 _).mono ?_
         rintro e w7 ⟨rfl, hwe⟩
         have bw : Below (w6).heap.size (w6) w7 := by rw [hwe]; exact Below.refl _ _
         clear hwe
         obtain ⟨uw, huw⟩ : ∃ u, u = decide ((1 : Int) ≤ (d.who.length : Int) ∧ (d.who.length : Int) ≤ 5) := ⟨_, rfl⟩
         rw [← huw]
         have hb7 := hbt hb6 bw
         have HBv1_7 := hblk HBv1_6 bw
         have HBv2_7 := hblk HBv2_6 bw
         clear hb6 HBv1_6 HBv2_6 bw
         clear cv2_4
         cases uw with
         | false =>
          have HNuw : Hid (¬ (1 ≤ (d.who.length : Int) ∧ (d.who.length : Int) ≤ 5)) := (show ¬ (1 ≤ (d.who.length : Int) ∧ (d.who.length : Int) ≤ 5) from of_decide_eq_false huw.symm)
          clear huw
          go_wp2_with fail
          go_ret
          exact BoolIs.no (fun h => by have hk := h.2.2.1.2 i (by rw [HLC.out.1]; omega); unfold FlAtOk at hk; rw [HEd.out] at hk; exact HNuw.out hk.1.2.1) hb7
         | true =>
          have HYuw : Hid (1 ≤ (d.who.length : Int) ∧ (d.who.length : Int) ≤ 5) := (show (1 ≤ (d.who.length : Int) ∧ (d.who.length : Int) ≤ 5) from of_decide_eq_true huw.symm)
          clear huw
          cases hs with
          | false =>
           have cv2_12 : (w7).cell? ⟨qv2, 12, none⟩ = some (.bool false) := (cell_of HBv2_7.out 12).trans rfl
           go_wp2_with fail
           clear cv2_12
           have HOB : Hid (d.has = true → ObjF d) := fun h => by have e := HHhs.out; rw [h] at e; cases e
           obtain ⟨wB, hwB⟩ := exq w7
           rw [← hwB] at hb7 HBv1_7 HBv2_7 ⊢
           clear hwB
           go_loopw [5] (fun i0 wr => ∃ j : Nat, j ≤ i ∧ i0 = .int .i64 (j : Int) ∧ Hid (Below w.heap.size w (wr) ∧ (wr).heap[qv1]? = some (.cells #[.slice o1 c.s.cs.length c1, .slice o2 c.s.ws.length c2, .slice o3 kv.length c3, .slice o4 c.s.bl.length c4, .int .i64 c.s.nx, .int .i64 c.s.sq, .slice (some ⟨g5, 0, none⟩) n5 c5, .int .i64 c.now, .slice o6 n6 c6, .slice o7 n7 c7] 58) ∧ (wr).heap[qv2]? = some (.cells #[.int .i64 d.qmt, .string d.qpa, .slice ku2 d.qfs.length kuc2, .string d.qbd, .slice ku4 d.who.length kuc4, .string d.opa, .slice ku6 d.oxs.length kuc6, .slice ku7 d.oys.length kuc7, .int .i64 d.ost, .slice ku9 d.ofs.length kuc9, .string d.obd, .int .i64 d.otm, .bool false] 129)) ∧ Hid (∀ m, m < j → ¬ AlikeF (flAt c.fl m) d)) (fun i0 _ => i - (intOf i0).toNat)
           case atStart => exact ⟨0, Nat.zero_le _, rfl, ⟨hb7, HBv1_7.out, HBv2_7.out⟩, fun m hm => absurd hm (by omega)⟩
           case round =>
            obtain ⟨j, hj, rfl, HW, HJ⟩ := hrel
            by_cases hlj : (j : Int) < (i : Int)
            ·
             have hb8 := HW.out.1
             have HBv1_8 : Hid ((wr).heap[qv1]? = some (.cells #[.slice o1 c.s.cs.length c1, .slice o2 c.s.ws.length c2, .slice o3 kv.length c3, .slice o4 c.s.bl.length c4, .int .i64 c.s.nx, .int .i64 c.s.sq, .slice (some ⟨g5, 0, none⟩) n5 c5, .int .i64 c.now, .slice o6 n6 c6, .slice o7 n7 c7] 58)) := HW.out.2.1
             have HBv2_8 : Hid ((wr).heap[qv2]? = some (.cells #[.int .i64 d.qmt, .string d.qpa, .slice ku2 d.qfs.length kuc2, .string d.qbd, .slice ku4 d.who.length kuc4, .string d.opa, .slice ku6 d.oxs.length kuc6, .slice ku7 d.oys.length kuc7, .int .i64 d.ost, .slice ku9 d.ofs.length kuc9, .string d.obd, .int .i64 d.otm, .bool false] 129)) := HW.out.2.2
             clear HW hb7 HBv1_7 HBv2_7
             obtain ⟨zX, hzX⟩ := exq (flvAt fv j)
             have HMz : Hid (zX ∈ fv) := by show _ ∈ _; rw [hzX]; exact getD_mem0 _ fv j (by rw [HLF.out]; omega)
             have HEz : Hid (flAt c.fl j = zX.d) := by show _ = _; rw [hzX, ← HFD.out]; exact getD_map0 _ _ _ fv j (by rw [HLF.out]; omega)
             have HKz : Hid (∀ W, Below w.heap.size w W → FlAt W g5 j zX) := fun W hb => by
              obtain ⟨g', p', hV, _, hc⟩ := (HFL.out W hb).look j (by rw [HLF.out]; omega)
              injection hV with hV1 _ _
              cases hV1
              rw [hzX]
              exact hc
             have HRz : Hid (∀ W, Below w.heap.size w W → RowsO W B (flR zX)) := fun W hb => (HFL.out W hb).item HMz.out
             have HSz : Hid (FlSmall zX.d) := HFS.out _ HMz.out
             clear hzX
             obtain ⟨z, kzv2, kzv4, kzv6, kzv7, kzv9⟩ := zX
             obtain ⟨kz2, kzc2, hu⟩ := slice_of_owns ((HRz.out _ hb8).own (⟨171, 2, kzv2, z.qfs.length, flatF z.qfs⟩ : Rw) (by simp [flR]))
             obtain rfl : kzv2 = .slice kz2 z.qfs.length kzc2 := hu
             obtain ⟨kz4, kzc4, hu⟩ := slice_of_owns ((HRz.out _ hb8).own (⟨3, 1, kzv4, z.who.length, z.who.map (Value.int .i64)⟩ : Rw) (by simp [flR]))
             obtain rfl : kzv4 = .slice kz4 z.who.length kzc4 := hu
             obtain ⟨kz6, kzc6, hu⟩ := slice_of_owns ((HRz.out _ hb8).own (⟨9, 1, kzv6, z.oxs.length, z.oxs.map Value.string⟩ : Rw) (by simp [flR]))
             obtain rfl : kzv6 = .slice kz6 z.oxs.length kzc6 := hu
             obtain ⟨kz7, kzc7, hu⟩ := slice_of_owns ((HRz.out _ hb8).own (⟨9, 1, kzv7, z.oys.length, z.oys.map Value.string⟩ : Rw) (by simp [flR]))
             obtain rfl : kzv7 = .slice kz7 z.oys.length kzc7 := hu
             obtain ⟨kz9, kzc9, hu⟩ := slice_of_owns ((HRz.out _ hb8).own (⟨171, 2, kzv9, z.ofs.length, flatF z.ofs⟩ : Rw) (by simp [flR]))
             obtain rfl : kzv9 = .slice kz9 z.ofs.length kzc9 := hu
             have hjn : ¬ n5 ≤ j := by omega
             have HEL5 : Hid (∀ W, Below w.heap.size w W → (W.cell? ⟨g5, j * 13, none⟩ = some (.int .i64 z.qmt) ∧ W.cell? ⟨g5, j * 13 + 1, none⟩ = some (.string z.qpa) ∧ W.cell? ⟨g5, j * 13 + 2, none⟩ = some (.slice kz2 z.qfs.length kzc2) ∧ W.cell? ⟨g5, j * 13 + 3, none⟩ = some (.string z.qbd) ∧ W.cell? ⟨g5, j * 13 + 4, none⟩ = some (.slice kz4 z.who.length kzc4) ∧ W.cell? ⟨g5, j * 13 + 5, none⟩ = some (.string z.opa) ∧ W.cell? ⟨g5, j * 13 + 6, none⟩ = some (.slice kz6 z.oxs.length kzc6) ∧ W.cell? ⟨g5, j * 13 + 7, none⟩ = some (.slice kz7 z.oys.length kzc7) ∧ W.cell? ⟨g5, j * 13 + 8, none⟩ = some (.int .i64 z.ost) ∧ W.cell? ⟨g5, j * 13 + 9, none⟩ = some (.slice kz9 z.ofs.length kzc9) ∧ W.cell? ⟨g5, j * 13 + 10, none⟩ = some (.string z.obd) ∧ W.cell? ⟨g5, j * 13 + 11, none⟩ = some (.int .i64 z.otm) ∧ W.cell? ⟨g5, j * 13 + 12, none⟩ = some (.bool z.has))) := fun W hb => by
              have c := HKz.out W hb
              exact ⟨c.c0, c.c1, c.c2, c.c3, c.c4, c.c5, c.c6, c.c7, c.c8, c.c9, c.c10, c.c11, c.c12⟩
             go_upto_region 12 with fail
             refine wp_region_held_drew (S := fun W => W.heap[qv1]? = some (.cells #[.slice o1 c.s.cs.length c1, .slice o2 c.s.ws.length c2, .slice o3 kv.length c3, .slice o4 c.s.bl.length c4, .int .i64 c.s.nx, .int .i64 c.s.sq, .slice (some ⟨g5, 0, none⟩) n5 c5, .int .i64 c.now, .slice o6 n6 c6, .slice o7 n7 c7] 58) ∧ (W.cell? ⟨g5, j * 13, none⟩ = some (.int .i64 z.qmt) ∧ W.cell? ⟨g5, j * 13 + 1, none⟩ = some (.string z.qpa) ∧ W.cell? ⟨g5, j * 13 + 2, none⟩ = some (.slice kz2 z.qfs.length kzc2) ∧ W.cell? ⟨g5, j * 13 + 3, none⟩ = some (.string z.qbd) ∧ W.cell? ⟨g5, j * 13 + 4, none⟩ = some (.slice kz4 z.who.length kzc4) ∧ W.cell? ⟨g5, j * 13 + 5, none⟩ = some (.string z.opa) ∧ W.cell? ⟨g5, j * 13 + 6, none⟩ = some (.slice kz6 z.oxs.length kzc6) ∧ W.cell? ⟨g5, j * 13 + 7, none⟩ = some (.slice kz7 z.oys.length kzc7) ∧ W.cell? ⟨g5, j * 13 + 8, none⟩ = some (.int .i64 z.ost) ∧ W.cell? ⟨g5, j * 13 + 9, none⟩ = some (.slice kz9 z.ofs.length kzc9) ∧ W.cell? ⟨g5, j * 13 + 10, none⟩ = some (.string z.obd) ∧ W.cell? ⟨g5, j * 13 + 11, none⟩ = some (.int .i64 z.otm) ∧ W.cell? ⟨g5, j * 13 + 12, none⟩ = some (.bool z.has)) ∧ W.heap[qv2]? = some (.cells #[.int .i64 d.qmt, .string d.qpa, .slice ku2 d.qfs.length kuc2, .string d.qbd, .slice ku4 d.who.length kuc4, .string d.opa, .slice ku6 d.oxs.length kuc6, .slice ku7 d.oys.length kuc7, .int .i64 d.ost, .slice ku9 d.ofs.length kuc9, .string d.obd, .int .i64 d.otm, .bool false] 129)) (by kernel_rfl) ⟨HBv1_8.out, (by first | exact HEL5.out _ hb8 | exact HEL5.out _ hb8.drew), HBv2_8.out⟩ (fun _ => ?_)
             obtain ⟨w9, hX⟩ := exq wr.drew
             have bw := bdr hX
             rw [← hX]
             have hb9 := hbt hb8 bw
             have HBv1_9 := hblk HBv1_8 bw
             have HBv2_9 := hblk HBv2_8 bw
             have hS9 : w9.heap[qv1]? = some (.cells #[.slice o1 c.s.cs.length c1, .slice o2 c.s.ws.length c2, .slice o3 kv.length c3, .slice o4 c.s.bl.length c4, .int .i64 c.s.nx, .int .i64 c.s.sq, .slice (some ⟨g5, 0, none⟩) n5 c5, .int .i64 c.now, .slice o6 n6 c6, .slice o7 n7 c7] 58) ∧ (w9.cell? ⟨g5, j * 13, none⟩ = some (.int .i64 z.qmt) ∧ w9.cell? ⟨g5, j * 13 + 1, none⟩ = some (.string z.qpa) ∧ w9.cell? ⟨g5, j * 13 + 2, none⟩ = some (.slice kz2 z.qfs.length kzc2) ∧ w9.cell? ⟨g5, j * 13 + 3, none⟩ = some (.string z.qbd) ∧ w9.cell? ⟨g5, j * 13 + 4, none⟩ = some (.slice kz4 z.who.length kzc4) ∧ w9.cell? ⟨g5, j * 13 + 5, none⟩ = some (.string z.opa) ∧ w9.cell? ⟨g5, j * 13 + 6, none⟩ = some (.slice kz6 z.oxs.length kzc6) ∧ w9.cell? ⟨g5, j * 13 + 7, none⟩ = some (.slice kz7 z.oys.length kzc7) ∧ w9.cell? ⟨g5, j * 13 + 8, none⟩ = some (.int .i64 z.ost) ∧ w9.cell? ⟨g5, j * 13 + 9, none⟩ = some (.slice kz9 z.ofs.length kzc9) ∧ w9.cell? ⟨g5, j * 13 + 10, none⟩ = some (.string z.obd) ∧ w9.cell? ⟨g5, j * 13 + 11, none⟩ = some (.int .i64 z.otm) ∧ w9.cell? ⟨g5, j * 13 + 12, none⟩ = some (.bool z.has)) ∧ w9.heap[qv2]? = some (.cells #[.int .i64 d.qmt, .string d.qpa, .slice ku2 d.qfs.length kuc2, .string d.qbd, .slice ku4 d.who.length kuc4, .string d.opa, .slice ku6 d.oxs.length kuc6, .slice ku7 d.oys.length kuc7, .int .i64 d.ost, .slice ku9 d.ofs.length kuc9, .string d.obd, .int .i64 d.otm, .bool false] 129) := ⟨HBv1_9.out, (by first | exact HEL5.out _ hb9 | exact HEL5.out _ hb9.drew), HBv2_9.out⟩
             clear hb8 HBv1_8 HBv2_8 bw hX
             refine tkP 0 (.pointer (some ⟨qv1, 6, none⟩)) 72 rfl rfl hS9 ?_
             go_frame
             refine tkL 1 (.slice (some ⟨g5, 0, none⟩) n5 c5) 73 rfl rfl (Or.inl ⟨by rfl, by intro W hW; obtain ⟨hhv1, hhE_5, hhv2⟩ := hW; have y6 := (cell_of hhv1 6).trans rfl; go_simp⟩) hS9 ?_
             go_frame
             refine tkP 2 (.int .i64 (j : Int)) 74 rfl rfl hS9 ?_
             go_frame
             refine tkP 3 (.pointer (some ⟨g5, j * 13, none⟩)) 75 rfl rfl hS9 ?_
             go_frame
             refine tkP 4 (.pointer (some ⟨g5, j * 13, none⟩)) 76 rfl rfl hS9 ?_
             go_frame
             refine tkL 5 (.agg #[.int .i64 z.qmt, .string z.qpa, .slice kz2 z.qfs.length kzc2, .string z.qbd]) 77 rfl rfl (Or.inl ⟨by rfl, by intro W hW; obtain ⟨hhv1, hhE_5, hhv2⟩ := hW; have y0 := hhE_5.1; have y1 := hhE_5.2.1; have y2 := hhE_5.2.2.1; have y3 := hhE_5.2.2.2.1; go_simp⟩) hS9 ?_
             go_frame
             refine tkP 6 (.pointer (some ⟨qv2, 0, none⟩)) 78 rfl rfl hS9 ?_
             go_frame
             refine tkL 7 (.agg #[.int .i64 d.qmt, .string d.qpa, .slice ku2 d.qfs.length kuc2, .string d.qbd]) 79 rfl rfl (Or.inl ⟨by rfl, by intro W hW; obtain ⟨hhv1, hhE_5, hhv2⟩ := hW; have y0 := (cell_of hhv2 0).trans rfl; have y1 := (cell_of hhv2 1).trans rfl; have y2 := (cell_of hhv2 2).trans rfl; have y3 := (cell_of hhv2 3).trans rfl; go_simp⟩) hS9 ?_
             go_frame
             refine rd1 8 rfl (fun K hK => ?_)
             go_simp
             refine (specAlike_f z d _ _ _ _ _ _ _ _ _ _ B B _ (HRz.out _ hb9) (HRd.out _ hb9) HSz.out HSd.out).mono ?_
             rintro e w10 ⟨ua, rfl, hua, bw⟩
             have hb10 := hbt hb9 bw
             have HM10 := hsz bw
             have HBv1_10 := hblk HBv1_9 bw
             have HBv2_10 := hblk HBv2_9 bw
             clear hb9 HBv1_9 HBv2_9 bw
             have hS10 : w10.heap[qv1]? = some (.cells #[.slice o1 c.s.cs.length c1, .slice o2 c.s.ws.length c2, .slice o3 kv.length c3, .slice o4 c.s.bl.length c4, .int .i64 c.s.nx, .int .i64 c.s.sq, .slice (some ⟨g5, 0, none⟩) n5 c5, .int .i64 c.now, .slice o6 n6 c6, .slice o7 n7 c7] 58) ∧ (w10.cell? ⟨g5, j * 13, none⟩ = some (.int .i64 z.qmt) ∧ w10.cell? ⟨g5, j * 13 + 1, none⟩ = some (.string z.qpa) ∧ w10.cell? ⟨g5, j * 13 + 2, none⟩ = some (.slice kz2 z.qfs.length kzc2) ∧ w10.cell? ⟨g5, j * 13 + 3, none⟩ = some (.string z.qbd) ∧ w10.cell? ⟨g5, j * 13 + 4, none⟩ = some (.slice kz4 z.who.length kzc4) ∧ w10.cell? ⟨g5, j * 13 + 5, none⟩ = some (.string z.opa) ∧ w10.cell? ⟨g5, j * 13 + 6, none⟩ = some (.slice kz6 z.oxs.length kzc6) ∧ w10.cell? ⟨g5, j * 13 + 7, none⟩ = some (.slice kz7 z.oys.length kzc7) ∧ w10.cell? ⟨g5, j * 13 + 8, none⟩ = some (.int .i64 z.ost) ∧ w10.cell? ⟨g5, j * 13 + 9, none⟩ = some (.slice kz9 z.ofs.length kzc9) ∧ w10.cell? ⟨g5, j * 13 + 10, none⟩ = some (.string z.obd) ∧ w10.cell? ⟨g5, j * 13 + 11, none⟩ = some (.int .i64 z.otm) ∧ w10.cell? ⟨g5, j * 13 + 12, none⟩ = some (.bool z.has)) ∧ w10.heap[qv2]? = some (.cells #[.int .i64 d.qmt, .string d.qpa, .slice ku2 d.qfs.length kuc2, .string d.qbd, .slice ku4 d.who.length kuc4, .string d.opa, .slice ku6 d.oxs.length kuc6, .slice ku7 d.oys.length kuc7, .int .i64 d.ost, .slice ku9 d.ofs.length kuc9, .string d.obd, .int .i64 d.otm, .bool false] 129) := ⟨HBv1_10.out, (by first | exact HEL5.out _ hb10 | exact HEL5.out _ hb10.drew), HBv2_10.out⟩
             refine hK.out _ _ hS10 (fun _ => ?_)
             clear hK K hS9
             clear hS10
             refine wpAnyH_done (by kernel_rfl) ?_ _
             cases ua with
             | false =>
              have HNua : Hid (¬ (AlikeF z d)) := fun h => nomatch hua.2 h
              clear hua
              have HJ2 : Hid (∀ m, m < j + 1 → ¬ AlikeF (flAt c.fl m) d) := fun m hm => by
               by_cases e : m = j
               ·
                subst e
                rw [HEz.out]
                exact HNua.out
               · exact HJ.out m (by omega)
              go_wp2_with fail
              go_roundw
              case rel => exact ⟨j + 1, by omega, by go_num, ⟨hb10, HBv1_10.out, HBv2_10.out⟩, HJ2⟩
              case measure => simp [intOf]; omega
             | true =>
              have HYua : Hid (AlikeF z d) := hua.1 rfl
              clear hua
              go_wp2_with fail
              go_ret
              exact BoolIs.no (fun h => by have hk := h.2.2.1.2 i (by rw [HLC.out.1]; omega); unfold FlAtOk at hk; rw [HEd.out] at hk; exact hk.2 j (by omega) (by rw [HEz.out]; exact HYua.out)) hb10
            ·
             have hb8 := HW.out.1
             have HBv1_8 : Hid ((wr).heap[qv1]? = some (.cells #[.slice o1 c.s.cs.length c1, .slice o2 c.s.ws.length c2, .slice o3 kv.length c3, .slice o4 c.s.bl.length c4, .int .i64 c.s.nx, .int .i64 c.s.sq, .slice (some ⟨g5, 0, none⟩) n5 c5, .int .i64 c.now, .slice o6 n6 c6, .slice o7 n7 c7] 58)) := HW.out.2.1
             have HBv2_8 : Hid ((wr).heap[qv2]? = some (.cells #[.int .i64 d.qmt, .string d.qpa, .slice ku2 d.qfs.length kuc2, .string d.qbd, .slice ku4 d.who.length kuc4, .string d.opa, .slice ku6 d.oxs.length kuc6, .slice ku7 d.oys.length kuc7, .int .i64 d.ost, .slice ku9 d.ofs.length kuc9, .string d.obd, .int .i64 d.otm, .bool false] 129)) := HW.out.2.2
             clear HW hb7 HBv1_7 HBv2_7
             have HNA : Hid (∀ k, k < i → ¬ AlikeF (flAt c.fl k) d) := fun m hm => HJ.out m (by omega)
             clear HJ
             have HN2 : Hid (∀ m, m < i + 1 → FlAtOk c.fl m) := fun m hm => by
              by_cases e : m = i
              ·
               subst e
               unfold FlAtOk
               rw [HEd.out]
               exact ⟨⟨HYur.out, HYuw.out, HOB.out⟩, HNA.out⟩
              · exact HN.out m (by omega)
             go_wp2_with fail
             go_roundw
             case rel => exact ⟨i + 1, by omega, by go_num, ⟨hb8, HBv1_8.out⟩, HN2⟩
             case measure => simp [intOf]; omega
          | true =>
           have cv2_5 : (w7).cell? ⟨qv2, 5, none⟩ = some (.string d.opa) := (cell_of HBv2_7.out 5).trans rfl
           have cv2_6 : (w7).cell? ⟨qv2, 6, none⟩ = some (.slice ku6 d.oxs.length kuc6) := (cell_of HBv2_7.out 6).trans rfl
           have cv2_7 : (w7).cell? ⟨qv2, 7, none⟩ = some (.slice ku7 d.oys.length kuc7) := (cell_of HBv2_7.out 7).trans rfl
           have cv2_8 : (w7).cell? ⟨qv2, 8, none⟩ = some (.int .i64 d.ost) := (cell_of HBv2_7.out 8).trans rfl
           have cv2_9 : (w7).cell? ⟨qv2, 9, none⟩ = some (.slice ku9 d.ofs.length kuc9) := (cell_of HBv2_7.out 9).trans rfl
           have cv2_10 : (w7).cell? ⟨qv2, 10, none⟩ = some (.string d.obd) := (cell_of HBv2_7.out 10).trans rfl
           have cv2_11 : (w7).cell? ⟨qv2, 11, none⟩ = some (.int .i64 d.otm) := (cell_of HBv2_7.out 11).trans rfl
           have cv2_12 : (w7).cell? ⟨qv2, 12, none⟩ = some (.bool true) := (cell_of HBv2_7.out 12).trans rfl
           go_wp2_with fail
           refine (specObjOk_f d _ _ _ _ _ B _ (HRd.out _ hb7) HSd.out).mono ?_
           rintro e w8 ⟨uo, rfl, huo, bw⟩
           have hb8 := hbt hb7 bw
           have HBv1_8 := hblk HBv1_7 bw
           have HBv2_8 := hblk HBv2_7 bw
           clear hb7 HBv1_7 HBv2_7 bw
           clear cv2_5 cv2_6 cv2_7 cv2_8 cv2_9 cv2_10 cv2_11 cv2_12
           cases uo with
           | false =>
            have HNuo : Hid (¬ (ObjF d)) := fun h => nomatch huo.2 h
            clear huo
            go_wp2_with fail
            go_ret
            exact BoolIs.no (fun h => by have hk := h.2.2.1.2 i (by rw [HLC.out.1]; omega); unfold FlAtOk at hk; rw [HEd.out] at hk; exact HNuo.out (hk.1.2.2 (by have e := HHhs.out; exact e.symm))) hb8
           | true =>
            have HYuo : Hid (ObjF d) := huo.1 rfl
            clear huo
            go_wp2_with fail
            have HOB : Hid (d.has = true → ObjF d) := fun _ => HYuo.out
            obtain ⟨wB, hwB⟩ := exq w8
            rw [← hwB] at hb8 HBv1_8 HBv2_8 ⊢
            clear hwB
            go_loopw [5] (fun i0 wr => ∃ j : Nat, j ≤ i ∧ i0 = .int .i64 (j : Int) ∧ Hid (Below w.heap.size w (wr) ∧ (wr).heap[qv1]? = some (.cells #[.slice o1 c.s.cs.length c1, .slice o2 c.s.ws.length c2, .slice o3 kv.length c3, .slice o4 c.s.bl.length c4, .int .i64 c.s.nx, .int .i64 c.s.sq, .slice (some ⟨g5, 0, none⟩) n5 c5, .int .i64 c.now, .slice o6 n6 c6, .slice o7 n7 c7] 58) ∧ (wr).heap[qv2]? = some (.cells #[.int .i64 d.qmt, .string d.qpa, .slice ku2 d.qfs.length kuc2, .string d.qbd, .slice ku4 d.who.length kuc4, .string d.opa, .slice ku6 d.oxs.length kuc6, .slice ku7 d.oys.length kuc7, .int .i64 d.ost, .slice ku9 d.ofs.length kuc9, .string d.obd, .int .i64 d.otm, .bool true] 129)) ∧ Hid (∀ m, m < j → ¬ AlikeF (flAt c.fl m) d)) (fun i0 _ => i - (intOf i0).toNat)
            case atStart => exact ⟨0, Nat.zero_le _, rfl, ⟨hb8, HBv1_8.out, HBv2_8.out⟩, fun m hm => absurd hm (by omega)⟩
            case round =>
             obtain ⟨j, hj, rfl, HW, HJ⟩ := hrel
             by_cases hlj : (j : Int) < (i : Int)
             ·
              have hb9 := HW.out.1
              have HBv1_9 : Hid ((wr).heap[qv1]? = some (.cells #[.slice o1 c.s.cs.length c1, .slice o2 c.s.ws.length c2, .slice o3 kv.length c3, .slice o4 c.s.bl.length c4, .int .i64 c.s.nx, .int .i64 c.s.sq, .slice (some ⟨g5, 0, none⟩) n5 c5, .int .i64 c.now, .slice o6 n6 c6, .slice o7 n7 c7] 58)) := HW.out.2.1
              have HBv2_9 : Hid ((wr).heap[qv2]? = some (.cells #[.int .i64 d.qmt, .string d.qpa, .slice ku2 d.qfs.length kuc2, .string d.qbd, .slice ku4 d.who.length kuc4, .string d.opa, .slice ku6 d.oxs.length kuc6, .slice ku7 d.oys.length kuc7, .int .i64 d.ost, .slice ku9 d.ofs.length kuc9, .string d.obd, .int .i64 d.otm, .bool true] 129)) := HW.out.2.2
              clear HW hb8 HBv1_8 HBv2_8
              obtain ⟨zX, hzX⟩ := exq (flvAt fv j)
              have HMz : Hid (zX ∈ fv) := by show _ ∈ _; rw [hzX]; exact getD_mem0 _ fv j (by rw [HLF.out]; omega)
              have HEz : Hid (flAt c.fl j = zX.d) := by show _ = _; rw [hzX, ← HFD.out]; exact getD_map0 _ _ _ fv j (by rw [HLF.out]; omega)
              have HKz : Hid (∀ W, Below w.heap.size w W → FlAt W g5 j zX) := fun W hb => by
               obtain ⟨g', p', hV, _, hc⟩ := (HFL.out W hb).look j (by rw [HLF.out]; omega)
               injection hV with hV1 _ _
               cases hV1
               rw [hzX]
               exact hc
              have HRz : Hid (∀ W, Below w.heap.size w W → RowsO W B (flR zX)) := fun W hb => (HFL.out W hb).item HMz.out
              have HSz : Hid (FlSmall zX.d) := HFS.out _ HMz.out
              clear hzX
              obtain ⟨z, kzv2, kzv4, kzv6, kzv7, kzv9⟩ := zX
              obtain ⟨kz2, kzc2, hu⟩ := slice_of_owns ((HRz.out _ hb9).own (⟨171, 2, kzv2, z.qfs.length, flatF z.qfs⟩ : Rw) (by simp [flR]))
              obtain rfl : kzv2 = .slice kz2 z.qfs.length kzc2 := hu
              obtain ⟨kz4, kzc4, hu⟩ := slice_of_owns ((HRz.out _ hb9).own (⟨3, 1, kzv4, z.who.length, z.who.map (Value.int .i64)⟩ : Rw) (by simp [flR]))
              obtain rfl : kzv4 = .slice kz4 z.who.length kzc4 := hu
              obtain ⟨kz6, kzc6, hu⟩ := slice_of_owns ((HRz.out _ hb9).own (⟨9, 1, kzv6, z.oxs.length, z.oxs.map Value.string⟩ : Rw) (by simp [flR]))
              obtain rfl : kzv6 = .slice kz6 z.oxs.length kzc6 := hu
              obtain ⟨kz7, kzc7, hu⟩ := slice_of_owns ((HRz.out _ hb9).own (⟨9, 1, kzv7, z.oys.length, z.oys.map Value.string⟩ : Rw) (by simp [flR]))
              obtain rfl : kzv7 = .slice kz7 z.oys.length kzc7 := hu
              obtain ⟨kz9, kzc9, hu⟩ := slice_of_owns ((HRz.out _ hb9).own (⟨171, 2, kzv9, z.ofs.length, flatF z.ofs⟩ : Rw) (by simp [flR]))
              obtain rfl : kzv9 = .slice kz9 z.ofs.length kzc9 := hu
              have hjn : ¬ n5 ≤ j := by omega
              have HEL5 : Hid (∀ W, Below w.heap.size w W → (W.cell? ⟨g5, j * 13, none⟩ = some (.int .i64 z.qmt) ∧ W.cell? ⟨g5, j * 13 + 1, none⟩ = some (.string z.qpa) ∧ W.cell? ⟨g5, j * 13 + 2, none⟩ = some (.slice kz2 z.qfs.length kzc2) ∧ W.cell? ⟨g5, j * 13 + 3, none⟩ = some (.string z.qbd) ∧ W.cell? ⟨g5, j * 13 + 4, none⟩ = some (.slice kz4 z.who.length kzc4) ∧ W.cell? ⟨g5, j * 13 + 5, none⟩ = some (.string z.opa) ∧ W.cell? ⟨g5, j * 13 + 6, none⟩ = some (.slice kz6 z.oxs.length kzc6) ∧ W.cell? ⟨g5, j * 13 + 7, none⟩ = some (.slice kz7 z.oys.length kzc7) ∧ W.cell? ⟨g5, j * 13 + 8, none⟩ = some (.int .i64 z.ost) ∧ W.cell? ⟨g5, j * 13 + 9, none⟩ = some (.slice kz9 z.ofs.length kzc9) ∧ W.cell? ⟨g5, j * 13 + 10, none⟩ = some (.string z.obd) ∧ W.cell? ⟨g5, j * 13 + 11, none⟩ = some (.int .i64 z.otm) ∧ W.cell? ⟨g5, j * 13 + 12, none⟩ = some (.bool z.has))) := fun W hb => by
               have c := HKz.out W hb
               exact ⟨c.c0, c.c1, c.c2, c.c3, c.c4, c.c5, c.c6, c.c7, c.c8, c.c9, c.c10, c.c11, c.c12⟩
              go_upto_region 12 with fail
              refine wp_region_held_drew (S := fun W => W.heap[qv1]? = some (.cells #[.slice o1 c.s.cs.length c1, .slice o2 c.s.ws.length c2, .slice o3 kv.length c3, .slice o4 c.s.bl.length c4, .int .i64 c.s.nx, .int .i64 c.s.sq, .slice (some ⟨g5, 0, none⟩) n5 c5, .int .i64 c.now, .slice o6 n6 c6, .slice o7 n7 c7] 58) ∧ (W.cell? ⟨g5, j * 13, none⟩ = some (.int .i64 z.qmt) ∧ W.cell? ⟨g5, j * 13 + 1, none⟩ = some (.string z.qpa) ∧ W.cell? ⟨g5, j * 13 + 2, none⟩ = some (.slice kz2 z.qfs.length kzc2) ∧ W.cell? ⟨g5, j * 13 + 3, none⟩ = some (.string z.qbd) ∧ W.cell? ⟨g5, j * 13 + 4, none⟩ = some (.slice kz4 z.who.length kzc4) ∧ W.cell? ⟨g5, j * 13 + 5, none⟩ = some (.string z.opa) ∧ W.cell? ⟨g5, j * 13 + 6, none⟩ = some (.slice kz6 z.oxs.length kzc6) ∧ W.cell? ⟨g5, j * 13 + 7, none⟩ = some (.slice kz7 z.oys.length kzc7) ∧ W.cell? ⟨g5, j * 13 + 8, none⟩ = some (.int .i64 z.ost) ∧ W.cell? ⟨g5, j * 13 + 9, none⟩ = some (.slice kz9 z.ofs.length kzc9) ∧ W.cell? ⟨g5, j * 13 + 10, none⟩ = some (.string z.obd) ∧ W.cell? ⟨g5, j * 13 + 11, none⟩ = some (.int .i64 z.otm) ∧ W.cell? ⟨g5, j * 13 + 12, none⟩ = some (.bool z.has)) ∧ W.heap[qv2]? = some (.cells #[.int .i64 d.qmt, .string d.qpa, .slice ku2 d.qfs.length kuc2, .string d.qbd, .slice ku4 d.who.length kuc4, .string d.opa, .slice ku6 d.oxs.length kuc6, .slice ku7 d.oys.length kuc7, .int .i64 d.ost, .slice ku9 d.ofs.length kuc9, .string d.obd, .int .i64 d.otm, .bool true] 129)) (by kernel_rfl) ⟨HBv1_9.out, (by first | exact HEL5.out _ hb9 | exact HEL5.out _ hb9.drew), HBv2_9.out⟩ (fun _ => ?_)
              obtain ⟨w10, hX⟩ := exq wr.drew
              have bw := bdr hX
              rw [← hX]
              have hb10 := hbt hb9 bw
              have HM10 := hsz bw
              have HBv1_10 := hblk HBv1_9 bw
              have HBv2_10 := hblk HBv2_9 bw
              have hS10 : w10.heap[qv1]? = some (.cells #[.slice o1 c.s.cs.length c1, .slice o2 c.s.ws.length c2, .slice o3 kv.length c3, .slice o4 c.s.bl.length c4, .int .i64 c.s.nx, .int .i64 c.s.sq, .slice (some ⟨g5, 0, none⟩) n5 c5, .int .i64 c.now, .slice o6 n6 c6, .slice o7 n7 c7] 58) ∧ (w10.cell? ⟨g5, j * 13, none⟩ = some (.int .i64 z.qmt) ∧ w10.cell? ⟨g5, j * 13 + 1, none⟩ = some (.string z.qpa) ∧ w10.cell? ⟨g5, j * 13 + 2, none⟩ = some (.slice kz2 z.qfs.length kzc2) ∧ w10.cell? ⟨g5, j * 13 + 3, none⟩ = some (.string z.qbd) ∧ w10.cell? ⟨g5, j * 13 + 4, none⟩ = some (.slice kz4 z.who.length kzc4) ∧ w10.cell? ⟨g5, j * 13 + 5, none⟩ = some (.string z.opa) ∧ w10.cell? ⟨g5, j * 13 + 6, none⟩ = some (.slice kz6 z.oxs.length kzc6) ∧ w10.cell? ⟨g5, j * 13 + 7, none⟩ = some (.slice kz7 z.oys.length kzc7) ∧ w10.cell? ⟨g5, j * 13 + 8, none⟩ = some (.int .i64 z.ost) ∧ w10.cell? ⟨g5, j * 13 + 9, none⟩ = some (.slice kz9 z.ofs.length kzc9) ∧ w10.cell? ⟨g5, j * 13 + 10, none⟩ = some (.string z.obd) ∧ w10.cell? ⟨g5, j * 13 + 11, none⟩ = some (.int .i64 z.otm) ∧ w10.cell? ⟨g5, j * 13 + 12, none⟩ = some (.bool z.has)) ∧ w10.heap[qv2]? = some (.cells #[.int .i64 d.qmt, .string d.qpa, .slice ku2 d.qfs.length kuc2, .string d.qbd, .slice ku4 d.who.length kuc4, .string d.opa, .slice ku6 d.oxs.length kuc6, .slice ku7 d.oys.length kuc7, .int .i64 d.ost, .slice ku9 d.ofs.length kuc9, .string d.obd, .int .i64 d.otm, .bool true] 129) := ⟨HBv1_10.out, (by first | exact HEL5.out _ hb10 | exact HEL5.out _ hb10.drew), HBv2_10.out⟩
              clear hb9 HBv1_9 HBv2_9 bw hX
              refine tkP 0 (.pointer (some ⟨qv1, 6, none⟩)) 72 rfl rfl hS10 ?_
              go_frame
              refine tkL 1 (.slice (some ⟨g5, 0, none⟩) n5 c5) 73 rfl rfl (Or.inl ⟨by rfl, by intro W hW; obtain ⟨hhv1, hhE_5, hhv2⟩ := hW; have y6 := (cell_of hhv1 6).trans rfl; go_simp⟩) hS10 ?_
              go_frame
              refine tkP 2 (.int .i64 (j : Int)) 74 rfl rfl hS10 ?_
              go_frame
              refine tkP 3 (.pointer (some ⟨g5, j * 13, none⟩)) 75 rfl rfl hS10 ?_
              go_frame
              refine tkP 4 (.pointer (some ⟨g5, j * 13, none⟩)) 76 rfl rfl hS10 ?_
              go_frame
              refine tkL 5 (.agg #[.int .i64 z.qmt, .string z.qpa, .slice kz2 z.qfs.length kzc2, .string z.qbd]) 77 rfl rfl (Or.inl ⟨by rfl, by intro W hW; obtain ⟨hhv1, hhE_5, hhv2⟩ := hW; have y0 := hhE_5.1; have y1 := hhE_5.2.1; have y2 := hhE_5.2.2.1; have y3 := hhE_5.2.2.2.1; go_simp⟩) hS10 ?_
              go_frame
              refine tkP 6 (.pointer (some ⟨qv2, 0, none⟩)) 78 rfl rfl hS10 ?_
              go_frame
              refine tkL 7 (.agg #[.int .i64 d.qmt, .string d.qpa, .slice ku2 d.qfs.length kuc2, .string d.qbd]) 79 rfl rfl (Or.inl ⟨by rfl, by intro W hW; obtain ⟨hhv1, hhE_5, hhv2⟩ := hW; have y0 := (cell_of hhv2 0).trans rfl; have y1 := (cell_of hhv2 1).trans rfl; have y2 := (cell_of hhv2 2).trans rfl; have y3 := (cell_of hhv2 3).trans rfl; go_simp⟩) hS10 ?_
              go_frame
              refine rd1 8 rfl (fun K hK => ?_)
              go_simp
              refine (specAlike_f z d _ _ _ _ _ _ _ _ _ _ B B _ (HRz.out _ hb10) (HRd.out _ hb10) HSz.out HSd.out).mono ?_
              rintro e w11 ⟨ua, rfl, hua, bw⟩
              have hb11 := hbt hb10 bw
              have HBv1_11 := hblk HBv1_10 bw
              have HBv2_11 := hblk HBv2_10 bw
              clear hb10 HBv1_10 HBv2_10 bw
              have hS11 : w11.heap[qv1]? = some (.cells #[.slice o1 c.s.cs.length c1, .slice o2 c.s.ws.length c2, .slice o3 kv.length c3, .slice o4 c.s.bl.length c4, .int .i64 c.s.nx, .int .i64 c.s.sq, .slice (some ⟨g5, 0, none⟩) n5 c5, .int .i64 c.now, .slice o6 n6 c6, .slice o7 n7 c7] 58) ∧ (w11.cell? ⟨g5, j * 13, none⟩ = some (.int .i64 z.qmt) ∧ w11.cell? ⟨g5, j * 13 + 1, none⟩ = some (.string z.qpa) ∧ w11.cell? ⟨g5, j * 13 + 2, none⟩ = some (.slice kz2 z.qfs.length kzc2) ∧ w11.cell? ⟨g5, j * 13 + 3, none⟩ = some (.string z.qbd) ∧ w11.cell? ⟨g5, j * 13 + 4, none⟩ = some (.slice kz4 z.who.length kzc4) ∧ w11.cell? ⟨g5, j * 13 + 5, none⟩ = some (.string z.opa) ∧ w11.cell? ⟨g5, j * 13 + 6, none⟩ = some (.slice kz6 z.oxs.length kzc6) ∧ w11.cell? ⟨g5, j * 13 + 7, none⟩ = some (.slice kz7 z.oys.length kzc7) ∧ w11.cell? ⟨g5, j * 13 + 8, none⟩ = some (.int .i64 z.ost) ∧ w11.cell? ⟨g5, j * 13 + 9, none⟩ = some (.slice kz9 z.ofs.length kzc9) ∧ w11.cell? ⟨g5, j * 13 + 10, none⟩ = some (.string z.obd) ∧ w11.cell? ⟨g5, j * 13 + 11, none⟩ = some (.int .i64 z.otm) ∧ w11.cell? ⟨g5, j * 13 + 12, none⟩ = some (.bool z.has)) ∧ w11.heap[qv2]? = some (.cells #[.int .i64 d.qmt, .string d.qpa, .slice ku2 d.qfs.length kuc2, .string d.qbd, .slice ku4 d.who.length kuc4, .string d.opa, .slice ku6 d.oxs.length kuc6, .slice ku7 d.oys.length kuc7, .int .i64 d.ost, .slice ku9 d.ofs.length kuc9, .string d.obd, .int .i64 d.otm, .bool true] 129) := ⟨HBv1_11.out, (by first | exact HEL5.out _ hb11 | exact HEL5.out _ hb11.drew), HBv2_11.out⟩
              refine hK.out _ _ hS11 (fun _ => ?_)
              clear hK K hS10
              clear hS11
              refine wpAnyH_done (by kernel_rfl) ?_ _
              cases ua with
              | false =>
               have HNua : Hid (¬ (AlikeF z d)) := fun h => nomatch hua.2 h
               clear hua
               have HJ2 : Hid (∀ m, m < j + 1 → ¬ AlikeF (flAt c.fl m) d) := fun m hm => by
                by_cases e : m = j
                ·
                 subst e
                 rw [HEz.out]
                 exact HNua.out
                · exact HJ.out m (by omega)
               go_wp2_with fail
               go_roundw
               case rel => exact ⟨j + 1, by omega, by go_num, ⟨hb11, HBv1_11.out, HBv2_11.out⟩, HJ2⟩
               case measure => simp [intOf]; omega
              | true =>
               have HYua : Hid (AlikeF z d) := hua.1 rfl
               clear hua
               go_wp2_with fail
               go_ret
               exact BoolIs.no (fun h => by have hk := h.2.2.1.2 i (by rw [HLC.out.1]; omega); unfold FlAtOk at hk; rw [HEd.out] at hk; exact hk.2 j (by omega) (by rw [HEz.out]; exact HYua.out)) hb11
             ·
              have hb9 := HW.out.1
              have HBv1_9 : Hid ((wr).heap[qv1]? = some (.cells #[.slice o1 c.s.cs.length c1, .slice o2 c.s.ws.length c2, .slice o3 kv.length c3, .slice o4 c.s.bl.length c4, .int .i64 c.s.nx, .int .i64 c.s.sq, .slice (some ⟨g5, 0, none⟩) n5 c5, .int .i64 c.now, .slice o6 n6 c6, .slice o7 n7 c7] 58)) := HW.out.2.1
              have HBv2_9 : Hid ((wr).heap[qv2]? = some (.cells #[.int .i64 d.qmt, .string d.qpa, .slice ku2 d.qfs.length kuc2, .string d.qbd, .slice ku4 d.who.length kuc4, .string d.opa, .slice ku6 d.oxs.length kuc6, .slice ku7 d.oys.length kuc7, .int .i64 d.ost, .slice ku9 d.ofs.length kuc9, .string d.obd, .int .i64 d.otm, .bool true] 129)) := HW.out.2.2
              clear HW hb8 HBv1_8 HBv2_8
              have HNA : Hid (∀ k, k < i → ¬ AlikeF (flAt c.fl k) d) := fun m hm => HJ.out m (by omega)
              clear HJ
              have HN2 : Hid (∀ m, m < i + 1 → FlAtOk c.fl m) := fun m hm => by
               by_cases e : m = i
               ·
                subst e
                unfold FlAtOk
                rw [HEd.out]
                exact ⟨⟨HYur.out, HYuw.out, HOB.out⟩, HNA.out⟩
               · exact HN.out m (by omega)
              go_wp2_with fail
              go_roundw
              case rel => exact ⟨i + 1, by omega, by go_num, ⟨hb9, HBv1_9.out⟩, HN2⟩
              case measure => simp [intOf]; omega
       ·
        have hb4 := HW.out.1
        have HBv1_4 : Hid ((wr).heap[qv1]? = some (.cells #[.slice o1 c.s.cs.length c1, .slice o2 c.s.ws.length c2, .slice o3 kv.length c3, .slice o4 c.s.bl.length c4, .int .i64 c.s.nx, .int .i64 c.s.sq, .slice o5 n5 c5, .int .i64 c.now, .slice o6 n6 c6, .slice o7 n7 c7] 58)) := HW.out.2
        clear HW hb3 HBv1_3
        have HFA : Hid (∀ m, m < c.fl.length → FlAtOk c.fl m) := fun m hm => HN.out m (by rw [HLC.out.1] at hm; omega)
        clear HN
        have cv1_6 := (k10c HBv1_4).2.2.2.2.2.2.1
        go_wp2_with fail
        go_ret
        exact BoolIs.yes ⟨HYus.out, HYun.out, ⟨by rw [HLC.out.1]; exact Hf5.out, HFA.out⟩, by rw [HLC.out.2.1]; exact He5.out, by rw [HLC.out.2.2]; exact Hr5.out⟩ hb4
end Go.Proofs.YtbmhonfgffjpcaaGreat
