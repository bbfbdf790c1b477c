/- What the proof of FnDiskPut leans on: contracts of the program's and the specification's functions, and plain facts (part 4 of 5). -/
import Derived.Test.YtckjbgpdbehmaaaFnDiskPutC
namespace Go.Proofs.Ytckjbgpdbehmaaa
open Go.RowKit
open Go.Lib hiding intOf

/-- A right disk of short texts is drawn; the cursor alone was turned. -/
def DiskDrawn (w : World) (c : Nat) (a : Option Addr) (len cap : Nat) (e : Ending) (w' : World) : Prop :=
  ∃ v1 v2 cs ws, e = .returned (.agg #[v1, v2]) ∧ DiskO w' w.heap.size v1 cs.length cs v2 ws.length ws ∧ RightD cs ws ∧ CurAt w' c a len cap ∧ w.grownBy w' (some c)

set_option maxHeartbeats 16000000 in
set_option maxRecDepth 100000 in
theorem l12DrawRight_any (c B : Nat) (a : Option Addr) (len cap : Nat) (zs : List Int) (w : World) (hcur : CurAt w c a len cap) (hcode : CodeAt w B a len zs) (hB : B ≤ c) :
    Calls Try.prog 65 #[.pointer (some ⟨c, 0, none⟩)] w fun e w' => DiskDrawn w c a len cap e w' := by
  have HCO : Hid (∀ W, w.grownBy W (some c) → CodeAt W B a len zs) := fun W h => hcode.grown h hB
  have HBC : Hid (B ≤ c) := hB
  have EU_0 : Hid (CurAt w c a len cap) := hcur
  clear hcode hB hcur
  have hb0 : w.grownBy w (some c) := World.grownBy.refl _ _
  go_enter Try.func65, Try.ntmps65
  go_upto_region 1 with fail
  obtain ⟨qv1, hqv1⟩ : ∃ q, q = (w).heap.size := ⟨_, rfl⟩
  obtain ⟨w1, hW1⟩ : ∃ W, W = (w).alloc (.cells #[.slice none 0 0, .slice none 0 0] 27) := ⟨_, rfl⟩
  have hz1 : (w).heap.size = qv1 := hqv1.symm
  first | rw [← hW1, ← hqv1] | rw [← hW1]
  have hs1 : w1.heap.size = qv1 + 1 := by rw [hW1, ← hz1]; simp
  have bw : Below (w).heap.size (w) w1 := by rw [hW1]; exact (Below.refl _ _).alloc (Nat.le_refl _) _
  have hb1 : w.grownBy w1 (some c) := grown_then hb0 (grown_below bw _)
  have HM1 : Hid ((w).heap.size ≤ (w1).heap.size) := bw.size
  have EU_1 : Hid (CurAt w1 c a len cap) := EU_0.out.below bw EU_0.out.lt
  have HBv1_1 : Hid ((w1).heap[qv1]? = some (.cells #[.slice none 0 0, .slice none 0 0] 27)) := by show _ = _; rw [hW1, ← hz1]; exact heap_alloc_new _ _
  have HGv1 : Hid (w.heap.size ≤ qv1) := by show _ ≤ _; rw [← hz1]; exact hb0.size
  have HNCv1 : Hid (qv1 ≠ c) := fun e => by have h1 := EU_0.out.lt; omega
  clear hb0 EU_0 bw hW1 hz1
  clear hs1 hqv1
  go_wp2_with fail
  refine (specNew_right _).mono ?_
  rintro e w2 ⟨vv1, vv2, cs0, ws0, rfl, ⟨ownC0, ownP0⟩, hr0, bw⟩
  obtain ⟨oC0, pC0, rfl⟩ := slice_of_owns ownC0
  obtain ⟨oP0, pP0, rfl⟩ := slice_of_owns ownP0
  have HR0 : Hid (RightD cs0 ws0) := hr0
  clear hr0
  have hb2 : w.grownBy w2 (some c) := grown_then hb1 (grown_below bw _)
  have HM2 : Hid ((w1).heap.size ≤ (w2).heap.size) := bw.size
  have HBv1_2 : Hid ((w2).heap[qv1]? = some (.cells #[.slice none 0 0, .slice none 0 0] 27)) := blk_below HBv1_1.out bw
  have EU_2 : Hid (CurAt w2 c a len cap) := EU_1.out.below bw EU_1.out.lt
  have HOC0_2 : Hid ((w2).ownsRow w.heap.size 9 1 (.slice oC0 cs0.length pC0) cs0.length (cs0.map Value.string)) := owns_wide ownC0 hb1.size
  have LOC0 : Hid (∀ g, (Value.ownBlock (.slice oC0 cs0.length pC0)) = some g → (w1).heap.size ≤ g) := fun g hg => owns_ge ownC0 hg
  have HIC0 : Hid (∀ g, (Value.ownBlock (.slice oC0 cs0.length pC0)) = some g → g < (w2).heap.size) := fun g hg => owns_lt ownC0 hg
  clear ownC0
  have HOP0_2 : Hid ((w2).ownsRow w.heap.size 67 2 (.slice oP0 ws0.length pP0) ws0.length (flatWrite ws0)) := owns_wide ownP0 hb1.size
  have LOP0 : Hid (∀ g, (Value.ownBlock (.slice oP0 ws0.length pP0)) = some g → (w1).heap.size ≤ g) := fun g hg => owns_ge ownP0 hg
  have HIP0 : Hid (∀ g, (Value.ownBlock (.slice oP0 ws0.length pP0)) = some g → g < (w2).heap.size) := fun g hg => owns_lt ownP0 hg
  clear ownP0
  clear hb1 HBv1_1 EU_1 bw
  go_upto_region 2 with fail
  obtain ⟨qv2, hqv2⟩ : ∃ q, q = (w2).heap.size := ⟨_, rfl⟩
  obtain ⟨w3, hW3⟩ : ∃ W, W = (w2).alloc (.cells #[.slice oC0 cs0.length pC0, .slice oP0 ws0.length pP0] 27) := ⟨_, rfl⟩
  have hz3 : (w2).heap.size = qv2 := hqv2.symm
  first | rw [← hW3, ← hqv2] | rw [← hW3]
  have hs3 : w3.heap.size = qv2 + 1 := by rw [hW3, ← hz3]; simp
  have bw : Below (w2).heap.size (w2) w3 := by rw [hW3]; exact (Below.refl _ _).alloc (Nat.le_refl _) _
  have hb3 : w.grownBy w3 (some c) := grown_then hb2 (grown_below bw _)
  have HM3 : Hid ((w2).heap.size ≤ (w3).heap.size) := bw.size
  have HOC0_3 : Hid ((w3).ownsRow w.heap.size 9 1 (.slice oC0 cs0.length pC0) cs0.length (cs0.map Value.string)) := owns_below HOC0_2.out bw (fun g hg => owns_lt HOC0_2.out hg)
  have HOP0_3 : Hid ((w3).ownsRow w.heap.size 67 2 (.slice oP0 ws0.length pP0) ws0.length (flatWrite ws0)) := owns_below HOP0_2.out bw (fun g hg => owns_lt HOP0_2.out hg)
  have HBv1_3 : Hid ((w3).heap[qv1]? = some (.cells #[.slice none 0 0, .slice none 0 0] 27)) := blk_below HBv1_2.out bw
  have EU_3 : Hid (CurAt w3 c a len cap) := EU_2.out.below bw EU_2.out.lt
  have HNv1v2 : Hid (qv1 ≠ qv2) := fun e => by have h1 := (Array.getElem?_eq_some_iff.1 HBv1_2.out).1; omega
  have HBv2_3 : Hid ((w3).heap[qv2]? = some (.cells #[.slice oC0 cs0.length pC0, .slice oP0 ws0.length pP0] 27)) := by show _ = _; rw [hW3, ← hz3]; exact heap_alloc_new _ _
  have HGv2 : Hid (w.heap.size ≤ qv2) := by show _ ≤ _; rw [← hz3]; exact hb2.size
  have HNCv2 : Hid (qv2 ≠ c) := fun e => by have h1 := EU_2.out.lt; omega
  clear hb2 HOC0_2 HOP0_2 HBv1_2 EU_2 bw hW3 hz3
  clear hs3 hqv2
  go_wp2_with fail
  refine (l1Below_any c B 22 a len cap zs _ EU_3.out (HCO.out _ hb3) HBC.out (by decide) (by decide)).mono ?_
  rintro e w4 ⟨n1, rfl, hn01, hn11, hcu, hg⟩
  have hb4 : w.grownBy w4 (some c) := grown_then hb3 hg
  have HM4 : Hid ((w3).heap.size ≤ (w4).heap.size) := hg.size
  have HOC0_4 : Hid ((w4).ownsRow w.heap.size 9 1 (.slice oC0 cs0.length pC0) cs0.length (cs0.map Value.string)) := owns_same HOC0_3.out (fun g hgg => hg.block g (owns_lt HOC0_3.out hgg) (fun e => own_cur HOC0_3.out EU_3.out (by decide) g hgg (Option.some.inj e)))
  have HOP0_4 : Hid ((w4).ownsRow w.heap.size 67 2 (.slice oP0 ws0.length pP0) ws0.length (flatWrite ws0)) := owns_same HOP0_3.out (fun g hgg => hg.block g (owns_lt HOP0_3.out hgg) (fun e => own_cur HOP0_3.out EU_3.out (by decide) g hgg (Option.some.inj e)))
  have HBv1_4 : Hid ((w4).heap[qv1]? = some (.cells #[.slice none 0 0, .slice none 0 0] 27)) := (hg.block _ (Array.getElem?_eq_some_iff.1 HBv1_3.out).1 (fun e => HNCv1.out (Option.some.inj e))).trans HBv1_3.out
  have HBv2_4 : Hid ((w4).heap[qv2]? = some (.cells #[.slice oC0 cs0.length pC0, .slice oP0 ws0.length pP0] 27)) := (hg.block _ (Array.getElem?_eq_some_iff.1 HBv2_3.out).1 (fun e => HNCv2.out (Option.some.inj e))).trans HBv2_3.out
  have EU_4 : Hid (CurAt w4 c a len cap) := hcu
  clear hb3 HOC0_3 HOP0_3 HBv1_3 HBv2_3 EU_3 hg hcu
  go_wp2_with fail
  go_loopw [5] (fun i wr => ∃ (j : Nat) (csd : List ByteArray) (wsd : List (Int × ByteArray)) (oCd : Option Addr) (pCd : Nat) (oPd : Option Addr) (pPd : Nat), j ≤ 22 ∧ i = .int .i64 (j : Int) ∧ Hid (RightD csd wsd) ∧ Hid (w.grownBy wr (some c) ∧ CurAt wr c a len cap ∧ (wr).heap[qv1]? = some (.cells #[.slice none 0 0, .slice none 0 0] 27) ∧ (wr).heap[qv2]? = some (.cells #[.slice oCd csd.length pCd, .slice oPd wsd.length pPd] 27) ∧ (wr).ownsRow w.heap.size 9 1 (.slice oCd csd.length pCd) csd.length (csd.map Value.string) ∧ (wr).ownsRow w.heap.size 67 2 (.slice oPd wsd.length pPd) wsd.length (flatWrite wsd))) (fun i _ => 22 - (intOf i).toNat)
  case atStart => exact ⟨0, cs0, ws0, oC0, pC0, oP0, pP0, by omega, rfl, HR0, ⟨hb4, EU_4.out, HBv1_4.out, HBv2_4.out, HOC0_4.out, HOP0_4.out⟩⟩
  case round =>
    obtain ⟨j, csd, wsd, oCd, pCd, oPd, pPd, hj, rfl, HRd, HW⟩ := hrel
    by_cases hlt : (j : Int) < n1
    · have hb5 := HW.out.1
      have EU_5 : Hid (CurAt wr c a len cap) := HW.out.2.1
      have HBv1_5 : Hid ((wr).heap[qv1]? = some (.cells #[.slice none 0 0, .slice none 0 0] 27)) := HW.out.2.2.1
      have HBv2_5 : Hid ((wr).heap[qv2]? = some (.cells #[.slice oCd csd.length pCd, .slice oPd wsd.length pPd] 27)) := HW.out.2.2.2.1
      have HOCd_5 : Hid ((wr).ownsRow w.heap.size 9 1 (.slice oCd csd.length pCd) csd.length (csd.map Value.string)) := HW.out.2.2.2.2.1
      have HOPd_5 : Hid ((wr).ownsRow w.heap.size 67 2 (.slice oPd wsd.length pPd) wsd.length (flatWrite wsd)) := HW.out.2.2.2.2.2
      clear HW hb4 HOC0_4 HOP0_4 HBv1_4 HBv2_4 EU_4
      go_upto_region 6 with fail
      go_cut [6, 7] (fun sx6 sx7 wx => ∃ (q : Nat) (csn : List ByteArray) (wsn : List (Int × ByteArray)) (oCn : Option Addr) (pCn : Nat) (oPn : Option Addr) (pPn : Nat) (obn : Bool), sx6 = .pointer (some ⟨q, 0, none⟩) ∧ sx7 = .bool obn ∧ Hid (RightD csn wsn) ∧ Hid (w.grownBy wx (some c) ∧ CurAt wx c a len cap ∧ (wx).heap[qv1]? = some (.cells #[.slice none 0 0, .slice none 0 0] 27) ∧ (wx).heap[qv2]? = some (.cells #[.slice oCd csd.length pCd, .slice oPd wsd.length pPd] 27) ∧ (wx).ownsRow w.heap.size 9 1 (.slice oCd csd.length pCd) csd.length (csd.map Value.string) ∧ (wx).ownsRow w.heap.size 67 2 (.slice oPd wsd.length pPd) wsd.length (flatWrite wsd) ∧ (wx).heap[q]? = some (.cells #[.slice oCn csn.length pCn, .slice oPn wsn.length pPn] 27) ∧ (wx).ownsRow w.heap.size 9 1 (.slice oCn csn.length pCn) csn.length (csn.map Value.string) ∧ (wx).ownsRow w.heap.size 67 2 (.slice oPn wsn.length pPn) wsn.length (flatWrite wsn) ∧ w.heap.size ≤ q ∧ q ≠ c ∧ qv1 ≠ q ∧ qv2 ≠ q))
      case first =>
        refine wp_region_held_drew (S := fun W => W.heap[qv2]? = some (.cells #[.slice oCd csd.length pCd, .slice oPd wsd.length pPd] 27)) (by kernel_rfl) HBv2_5.out (fun _ => ?_)
        obtain ⟨w6, hX⟩ : ∃ X, X = wr.drew := ⟨_, rfl⟩
        have bw : Below wr.heap.size wr w6 := by rw [hX]; exact (Below.refl _ _).drew
        rw [← hX]
        have hb6 : w.grownBy w6 (some c) := grown_then hb5 (grown_below bw _)
        have HM6 : Hid ((wr).heap.size ≤ (w6).heap.size) := bw.size
        have HOCd_6 : Hid ((w6).ownsRow w.heap.size 9 1 (.slice oCd csd.length pCd) csd.length (csd.map Value.string)) := owns_below HOCd_5.out bw (fun g hg => owns_lt HOCd_5.out hg)
        have HOPd_6 : Hid ((w6).ownsRow w.heap.size 67 2 (.slice oPd wsd.length pPd) wsd.length (flatWrite wsd)) := owns_below HOPd_5.out bw (fun g hg => owns_lt HOPd_5.out hg)
        have HBv1_6 : Hid ((w6).heap[qv1]? = some (.cells #[.slice none 0 0, .slice none 0 0] 27)) := blk_below HBv1_5.out bw
        have HBv2_6 : Hid ((w6).heap[qv2]? = some (.cells #[.slice oCd csd.length pCd, .slice oPd wsd.length pPd] 27)) := blk_below HBv2_5.out bw
        have EU_6 : Hid (CurAt w6 c a len cap) := EU_5.out.below bw EU_5.out.lt
        have hS6 : w6.heap[qv2]? = some (.cells #[.slice oCd csd.length pCd, .slice oPd wsd.length pPd] 27) := HBv2_6.out
        clear hb5 HOCd_5 HOPd_5 HBv1_5 HBv2_5 EU_5 bw hX
        refine wpAnyH_takeD (i := 0) (v := .agg #[.slice oCd csd.length pCd, .slice oPd wsd.length pPd]) (some 17) rfl rfl (by kernel_rfl) (by kernel_rfl) (by kernel_rfl) (fun _ _ _ h => h) (Or.inl ⟨by rfl, by intro W hW; have hhv2 := hW; have y0 := (cell_of hhv2 0).trans rfl; have y1 := (cell_of hhv2 1).trans rfl; go_simp⟩) hS6 ?_
        simp only [Act.put, List.setIfInBounds_toArray, List.set_cons_zero, List.set_cons_succ]
        refine wpAnyH_takeD (i := 1) (v := .pointer (some ⟨c, 0, none⟩)) (some 18) rfl rfl (by kernel_rfl) (by kernel_rfl) (by kernel_rfl) (fun _ _ _ h => h) (Or.inl ⟨by rfl, by intro W _; go_simp⟩) hS6 ?_
        simp only [Act.put, List.setIfInBounds_toArray, List.set_cons_zero, List.set_cons_succ]
        refine wpAnyH_takeD (i := 3) (v := .pointer (some ⟨c, 0, none⟩)) (some 20) rfl rfl (by kernel_rfl) (by kernel_rfl) (by kernel_rfl) (fun _ _ _ h => h) (Or.inl ⟨by rfl, by intro W _; go_simp⟩) hS6 ?_
        simp only [Act.put, List.setIfInBounds_toArray, List.set_cons_zero, List.set_cons_succ]
        refine wpAnyH_ready (rs := [2, 4, 10]) (by kernel_rfl) (by simp) ?_
        refine AllReadyH.cons rfl (fun K hK => ?_) (AllReadyH.cons rfl (fun K hK => ?_) (AllReadyH.cons rfl (fun K hK => ?_) AllReadyH.nil))
        · go_simp
          refine (l1Below_any c B 20 a len cap zs _ EU_6.out (HCO.out _ hb6) HBC.out (by decide) (by decide)).mono ?_
          rintro e w7 ⟨n12, rfl, hn012, hn112, hcu, hg⟩
          have hb7 : w.grownBy w7 (some c) := grown_then hb6 hg
          have HM7 : Hid ((w6).heap.size ≤ (w7).heap.size) := hg.size
          have HOCd_7 : Hid ((w7).ownsRow w.heap.size 9 1 (.slice oCd csd.length pCd) csd.length (csd.map Value.string)) := owns_same HOCd_6.out (fun g hgg => hg.block g (owns_lt HOCd_6.out hgg) (fun e => own_cur HOCd_6.out EU_6.out (by decide) g hgg (Option.some.inj e)))
          have HOPd_7 : Hid ((w7).ownsRow w.heap.size 67 2 (.slice oPd wsd.length pPd) wsd.length (flatWrite wsd)) := owns_same HOPd_6.out (fun g hgg => hg.block g (owns_lt HOPd_6.out hgg) (fun e => own_cur HOPd_6.out EU_6.out (by decide) g hgg (Option.some.inj e)))
          have HBv1_7 : Hid ((w7).heap[qv1]? = some (.cells #[.slice none 0 0, .slice none 0 0] 27)) := (hg.block _ (Array.getElem?_eq_some_iff.1 HBv1_6.out).1 (fun e => HNCv1.out (Option.some.inj e))).trans HBv1_6.out
          have HBv2_7 : Hid ((w7).heap[qv2]? = some (.cells #[.slice oCd csd.length pCd, .slice oPd wsd.length pPd] 27)) := (hg.block _ (Array.getElem?_eq_some_iff.1 HBv2_6.out).1 (fun e => HNCv2.out (Option.some.inj e))).trans HBv2_6.out
          have EU_7 : Hid (CurAt w7 c a len cap) := hcu
          clear hb6 HOCd_6 HOPd_6 HBv1_6 HBv2_6 EU_6 hg hcu
          have hS7 : w7.heap[qv2]? = some (.cells #[.slice oCd csd.length pCd, .slice oPd wsd.length pPd] 27) := HBv2_7.out
          refine hK.out _ _ hS7 (fun _ => ?_)
          clear hK K hS6
          refine wpAnyH_ready (rs := [4, 10]) (by kernel_rfl) (by simp) ?_
          refine AllReadyH.cons rfl (fun K hK => ?_) (AllReadyH.cons rfl (fun K hK => ?_) AllReadyH.nil)
          · go_simp
            have bw : Below w7.heap.size w7 (w7.alloc (.cells #[.string ⟨#[]⟩, .string ⟨#[97]⟩, .string ⟨#[98]⟩, .string ⟨#[99, 99]⟩] 9)) := (Below.refl _ _).alloc (Nat.le_refl _) _
            have hSA : (w7.alloc (.cells #[.string ⟨#[]⟩, .string ⟨#[97]⟩, .string ⟨#[98]⟩, .string ⟨#[99, 99]⟩] 9)).heap[qv2]? = some (.cells #[.slice oCd csd.length pCd, .slice oPd wsd.length pPd] 27) := blk_below HBv2_7.out bw
            refine hK.out _ _ hSA (fun _ => ?_)
            clear hK K hSA bw hS7
            obtain ⟨qv3, hqv3⟩ : ∃ o, o = w7.heap.size := ⟨_, rfl⟩
            obtain ⟨w8, hXj⟩ : ∃ X, X = (w7.alloc (.cells #[.string ⟨#[]⟩, .string ⟨#[97]⟩, .string ⟨#[98]⟩, .string ⟨#[99, 99]⟩] 9)) := ⟨_, rfl⟩
            rw [← hqv3, ← hXj]
            have bw : Below w7.heap.size w7 w8 := by rw [hXj]; exact (Below.refl _ _).alloc (Nat.le_refl _) _
            have hb8 : w.grownBy w8 (some c) := grown_then hb7 (grown_below bw _)
            have HM8 : Hid ((w7).heap.size ≤ (w8).heap.size) := bw.size
            have HOCd_8 : Hid ((w8).ownsRow w.heap.size 9 1 (.slice oCd csd.length pCd) csd.length (csd.map Value.string)) := owns_below HOCd_7.out bw (fun g hg => owns_lt HOCd_7.out hg)
            have HOPd_8 : Hid ((w8).ownsRow w.heap.size 67 2 (.slice oPd wsd.length pPd) wsd.length (flatWrite wsd)) := owns_below HOPd_7.out bw (fun g hg => owns_lt HOPd_7.out hg)
            have HBv1_8 : Hid ((w8).heap[qv1]? = some (.cells #[.slice none 0 0, .slice none 0 0] 27)) := blk_below HBv1_7.out bw
            have HBv2_8 : Hid ((w8).heap[qv2]? = some (.cells #[.slice oCd csd.length pCd, .slice oPd wsd.length pPd] 27)) := blk_below HBv2_7.out bw
            have EU_8 : Hid (CurAt w8 c a len cap) := EU_7.out.below bw EU_7.out.lt
            have HNv1v3 : Hid (qv1 ≠ qv3) := fun e => by have h1 := (Array.getElem?_eq_some_iff.1 HBv1_7.out).1; omega
            have HNv2v3 : Hid (qv2 ≠ qv3) := fun e => by have h1 := (Array.getElem?_eq_some_iff.1 HBv2_7.out).1; omega
            have HNCv3 : Hid (qv3 ≠ c) := fun e => by have h1 := EU_7.out.lt; omega
            have HBv3_8 : Hid ((w8).heap[qv3]? = some (.cells #[.string ⟨#[]⟩, .string ⟨#[97]⟩, .string ⟨#[98]⟩, .string ⟨#[99, 99]⟩] 9)) := by show _ = _; rw [hXj, hqv3]; exact heap_alloc_new _ _
            have HGv3 : Hid (w.heap.size ≤ qv3) := by show _ ≤ _; rw [hqv3]; exact hb7.size
            have hS8 : w8.heap[qv2]? = some (.cells #[.slice oCd csd.length pCd, .slice oPd wsd.length pPd] 27) := HBv2_8.out
            clear hb7 HOCd_7 HOPd_7 HBv1_7 HBv2_7 EU_7 bw hXj hqv3
            refine wpAnyH_ready (rs := [5, 10]) (by kernel_rfl) (by simp) ?_
            refine AllReadyH.cons rfl (fun K hK => ?_) (AllReadyH.cons rfl (fun K hK => ?_) AllReadyH.nil)
            · go_simp
              have HLS : Hid (ListAt w8 qv3 4 (textAt [⟨#[]⟩, ⟨#[97]⟩, ⟨#[98]⟩, ⟨#[99, 99]⟩])) := by
                intro j hj
                match j, hj with
                | 0, _ => exact (cell_of HBv3_8.out 0).trans rfl
                | 1, _ => exact (cell_of HBv3_8.out 1).trans rfl
                | 2, _ => exact (cell_of HBv3_8.out 2).trans rfl
                | 3, _ => exact (cell_of HBv3_8.out 3).trans rfl
              refine (l1Pick_any c B qv3 4 (textAt [⟨#[]⟩, ⟨#[97]⟩, ⟨#[98]⟩, ⟨#[99, 99]⟩]) a len cap zs _ EU_8.out (HCO.out _ hb8) HBC.out (by decide) (by decide) HLS.out HNCv3.out).mono ?_
              rintro e w9 ⟨jx, hjx, rfl, hcu, hg⟩
              obtain ⟨x13, hx13⟩ : ∃ x, x = textAt [⟨#[]⟩, ⟨#[97]⟩, ⟨#[98]⟩, ⟨#[99, 99]⟩] jx := ⟨_, rfl⟩
              rw [← hx13]
              have HXx13 : Hid (x13.size ≤ 64) := by show _ ≤ _; rw [hx13]; exact (show ∀ j, j < 4 → (textAt [⟨#[]⟩, ⟨#[97]⟩, ⟨#[98]⟩, ⟨#[99, 99]⟩] j).size ≤ 64 by decide) jx hjx
              clear hx13 hjx HLS
              have hb9 : w.grownBy w9 (some c) := grown_then hb8 hg
              have HM9 : Hid ((w8).heap.size ≤ (w9).heap.size) := hg.size
              have HOCd_9 : Hid ((w9).ownsRow w.heap.size 9 1 (.slice oCd csd.length pCd) csd.length (csd.map Value.string)) := owns_same HOCd_8.out (fun g hgg => hg.block g (owns_lt HOCd_8.out hgg) (fun e => own_cur HOCd_8.out EU_8.out (by decide) g hgg (Option.some.inj e)))
              have HOPd_9 : Hid ((w9).ownsRow w.heap.size 67 2 (.slice oPd wsd.length pPd) wsd.length (flatWrite wsd)) := owns_same HOPd_8.out (fun g hgg => hg.block g (owns_lt HOPd_8.out hgg) (fun e => own_cur HOPd_8.out EU_8.out (by decide) g hgg (Option.some.inj e)))
              have HBv1_9 : Hid ((w9).heap[qv1]? = some (.cells #[.slice none 0 0, .slice none 0 0] 27)) := (hg.block _ (Array.getElem?_eq_some_iff.1 HBv1_8.out).1 (fun e => HNCv1.out (Option.some.inj e))).trans HBv1_8.out
              have HBv2_9 : Hid ((w9).heap[qv2]? = some (.cells #[.slice oCd csd.length pCd, .slice oPd wsd.length pPd] 27)) := (hg.block _ (Array.getElem?_eq_some_iff.1 HBv2_8.out).1 (fun e => HNCv2.out (Option.some.inj e))).trans HBv2_8.out
              have HBv3_9 : Hid ((w9).heap[qv3]? = some (.cells #[.string ⟨#[]⟩, .string ⟨#[97]⟩, .string ⟨#[98]⟩, .string ⟨#[99, 99]⟩] 9)) := (hg.block _ (Array.getElem?_eq_some_iff.1 HBv3_8.out).1 (fun e => HNCv3.out (Option.some.inj e))).trans HBv3_8.out
              have EU_9 : Hid (CurAt w9 c a len cap) := hcu
              clear hb8 HOCd_8 HOPd_8 HBv1_8 HBv2_8 HBv3_8 EU_8 hg hcu
              clear HBv3_9
              have hS9 : w9.heap[qv2]? = some (.cells #[.slice oCd csd.length pCd, .slice oPd wsd.length pPd] 27) := HBv2_9.out
              refine hK.out _ _ hS9 (fun _ => ?_)
              clear hK K hS8
              refine wpAnyH_ready (rs := [6, 10]) (by kernel_rfl) (by simp) ?_
              refine AllReadyH.cons rfl (fun K hK => ?_) (AllReadyH.cons rfl (fun K hK => ?_) AllReadyH.nil)
              · go_simp
                refine (specPut_right _ _ csd wsd _ _ ⟨HOCd_9.out, HOPd_9.out⟩ HRd.out n12 x13 HXx13.out).mono ?_
                rintro e w10 ⟨vv1, vv2, csn, wsn, obn, rfl, ⟨ownCn, ownPn⟩, hrn, bw⟩
                obtain ⟨oCn, pCn, rfl⟩ := slice_of_owns ownCn
                obtain ⟨oPn, pPn, rfl⟩ := slice_of_owns ownPn
                have HRn : Hid (RightD csn wsn) := hrn
                clear hrn
                have hb10 : w.grownBy w10 (some c) := grown_then hb9 (grown_below bw _)
                have HM10 : Hid ((w9).heap.size ≤ (w10).heap.size) := bw.size
                have HOCd_10 : Hid ((w10).ownsRow w.heap.size 9 1 (.slice oCd csd.length pCd) csd.length (csd.map Value.string)) := owns_below HOCd_9.out bw (fun g hg => owns_lt HOCd_9.out hg)
                have HOPd_10 : Hid ((w10).ownsRow w.heap.size 67 2 (.slice oPd wsd.length pPd) wsd.length (flatWrite wsd)) := owns_below HOPd_9.out bw (fun g hg => owns_lt HOPd_9.out hg)
                have HBv1_10 : Hid ((w10).heap[qv1]? = some (.cells #[.slice none 0 0, .slice none 0 0] 27)) := blk_below HBv1_9.out bw
                have HBv2_10 : Hid ((w10).heap[qv2]? = some (.cells #[.slice oCd csd.length pCd, .slice oPd wsd.length pPd] 27)) := blk_below HBv2_9.out bw
                have EU_10 : Hid (CurAt w10 c a len cap) := EU_9.out.below bw EU_9.out.lt
                have HOCn_10 : Hid ((w10).ownsRow w.heap.size 9 1 (.slice oCn csn.length pCn) csn.length (csn.map Value.string)) := owns_wide ownCn hb9.size
                have LOCn : Hid (∀ g, (Value.ownBlock (.slice oCn csn.length pCn)) = some g → (w9).heap.size ≤ g) := fun g hg => owns_ge ownCn hg
                have HICn : Hid (∀ g, (Value.ownBlock (.slice oCn csn.length pCn)) = some g → g < (w10).heap.size) := fun g hg => owns_lt ownCn hg
                clear ownCn
                have HOPn_10 : Hid ((w10).ownsRow w.heap.size 67 2 (.slice oPn wsn.length pPn) wsn.length (flatWrite wsn)) := owns_wide ownPn hb9.size
                have LOPn : Hid (∀ g, (Value.ownBlock (.slice oPn wsn.length pPn)) = some g → (w9).heap.size ≤ g) := fun g hg => owns_ge ownPn hg
                have HIPn : Hid (∀ g, (Value.ownBlock (.slice oPn wsn.length pPn)) = some g → g < (w10).heap.size) := fun g hg => owns_lt ownPn hg
                clear ownPn
                clear hb9 HOCd_9 HOPd_9 HBv1_9 HBv2_9 EU_9 bw
                have hS10 : w10.heap[qv2]? = some (.cells #[.slice oCd csd.length pCd, .slice oPd wsd.length pPd] 27) := HBv2_10.out
                refine hK.out _ _ hS10 (fun _ => ?_)
                clear hK K hS9
                refine wpAnyH_takeD (i := 7) (v := .tuple #[.agg #[.slice oCn csn.length pCn, .slice oPn wsn.length pPn], .bool obn]) (some 16) rfl rfl (by kernel_rfl) (by kernel_rfl) (by kernel_rfl) (fun _ _ _ h => h) (Or.inl ⟨by rfl, by intro W _; go_simp⟩) hS10 ?_
                simp only [Act.put, List.setIfInBounds_toArray, List.set_cons_zero, List.set_cons_succ]
                refine wpAnyH_takeD (i := 8) (v := .agg #[.slice oCn csn.length pCn, .slice oPn wsn.length pPn]) (some 24) rfl rfl (by kernel_rfl) (by kernel_rfl) (by kernel_rfl) (fun _ _ _ h => h) (Or.inl ⟨by rfl, by intro W _; go_simp⟩) hS10 ?_
                simp only [Act.put, List.setIfInBounds_toArray, List.set_cons_zero, List.set_cons_succ]
                refine wpAnyH_takeD (i := 9) (v := .bool obn) (some 25) rfl rfl (by kernel_rfl) (by kernel_rfl) (by kernel_rfl) (fun _ _ _ h => h) (Or.inl ⟨by rfl, by intro W _; go_simp⟩) hS10 ?_
                simp only [Act.put, List.setIfInBounds_toArray, List.set_cons_zero, List.set_cons_succ]
                refine wpAnyH_ready (rs := [10]) (by kernel_rfl) (by simp) ?_
                refine AllReadyH.cons rfl (fun K hK => ?_) AllReadyH.nil
                go_simp
                have bw : Below w10.heap.size w10 (w10.alloc (.cells #[.slice none 0 0, .slice none 0 0] 27)) := (Below.refl _ _).alloc (Nat.le_refl _) _
                have hSA : (w10.alloc (.cells #[.slice none 0 0, .slice none 0 0] 27)).heap[qv2]? = some (.cells #[.slice oCd csd.length pCd, .slice oPd wsd.length pPd] 27) := blk_below HBv2_10.out bw
                refine hK.out _ _ hSA (fun _ => ?_)
                clear hK K hSA bw hS10
                obtain ⟨qN6, hqN6⟩ : ∃ o, o = w10.heap.size := ⟨_, rfl⟩
                obtain ⟨w11, hXj⟩ : ∃ X, X = (w10.alloc (.cells #[.slice none 0 0, .slice none 0 0] 27)) := ⟨_, rfl⟩
                rw [← hqN6, ← hXj]
                have bw : Below w10.heap.size w10 w11 := by rw [hXj]; exact (Below.refl _ _).alloc (Nat.le_refl _) _
                have hb11 : w.grownBy w11 (some c) := grown_then hb10 (grown_below bw _)
                have HM11 : Hid ((w10).heap.size ≤ (w11).heap.size) := bw.size
                have HOCd_11 : Hid ((w11).ownsRow w.heap.size 9 1 (.slice oCd csd.length pCd) csd.length (csd.map Value.string)) := owns_below HOCd_10.out bw (fun g hg => owns_lt HOCd_10.out hg)
                have HOPd_11 : Hid ((w11).ownsRow w.heap.size 67 2 (.slice oPd wsd.length pPd) wsd.length (flatWrite wsd)) := owns_below HOPd_10.out bw (fun g hg => owns_lt HOPd_10.out hg)
                have HOCn_11 : Hid ((w11).ownsRow w.heap.size 9 1 (.slice oCn csn.length pCn) csn.length (csn.map Value.string)) := owns_below HOCn_10.out bw (fun g hg => owns_lt HOCn_10.out hg)
                have HOPn_11 : Hid ((w11).ownsRow w.heap.size 67 2 (.slice oPn wsn.length pPn) wsn.length (flatWrite wsn)) := owns_below HOPn_10.out bw (fun g hg => owns_lt HOPn_10.out hg)
                have HBv1_11 : Hid ((w11).heap[qv1]? = some (.cells #[.slice none 0 0, .slice none 0 0] 27)) := blk_below HBv1_10.out bw
                have HBv2_11 : Hid ((w11).heap[qv2]? = some (.cells #[.slice oCd csd.length pCd, .slice oPd wsd.length pPd] 27)) := blk_below HBv2_10.out bw
                have EU_11 : Hid (CurAt w11 c a len cap) := EU_10.out.below bw EU_10.out.lt
                have HNv1N6 : Hid (qv1 ≠ qN6) := fun e => by have h1 := (Array.getElem?_eq_some_iff.1 HBv1_10.out).1; omega
                have HNv2N6 : Hid (qv2 ≠ qN6) := fun e => by have h1 := (Array.getElem?_eq_some_iff.1 HBv2_10.out).1; omega
                have HNCN6 : Hid (qN6 ≠ c) := fun e => by have h1 := EU_10.out.lt; omega
                have HBN6_11 : Hid ((w11).heap[qN6]? = some (.cells #[.slice none 0 0, .slice none 0 0] 27)) := by show _ = _; rw [hXj, hqN6]; exact heap_alloc_new _ _
                have HGN6 : Hid (w.heap.size ≤ qN6) := by show _ ≤ _; rw [hqN6]; exact hb10.size
                have hS11 : w11.heap[qv2]? = some (.cells #[.slice oCd csd.length pCd, .slice oPd wsd.length pPd] 27) := HBv2_11.out
                clear hb10 HOCd_10 HOPd_10 HOCn_10 HOPn_10 HBv1_10 HBv2_10 EU_10 bw hXj hqN6
                refine wpAnyH_ready (rs := [11]) (by kernel_rfl) (by simp) ?_
                refine AllReadyH.cons rfl (fun K hK => ?_) AllReadyH.nil
                have ce0 : (w11).cell? ⟨qN6, 0, none⟩ = some (.slice none 0 0) := (cell_of HBN6_11.out 0).trans rfl
                have fe0 : (w11).frozen? ⟨qN6, 0, none⟩ = false := frozen_of HBN6_11.out 0
                have ce1 : (w11).cell? ⟨qN6, 1, none⟩ = some (.slice none 0 0) := (cell_of HBN6_11.out 1).trans rfl
                have fe1 : (w11).frozen? ⟨qN6, 1, none⟩ = false := frozen_of HBN6_11.out 1
                obtain ⟨w12, hY⟩ : ∃ Y, Y = ((w11.setCell ⟨qN6, 0, none⟩ (.slice oCn csn.length pCn)).setCell ⟨qN6, 1, none⟩ (.slice oPn wsn.length pPn)) := ⟨_, rfl⟩
                have HY : Hid (((w11.setCell ⟨qN6, 0, none⟩ (.slice oCn csn.length pCn)).setCell ⟨qN6, 1, none⟩ (.slice oPn wsn.length pPn)) = w12) := hY.symm
                have hb12 : w.grownBy w12 (some c) := by rw [hY]; exact (grown_own (grown_own hb11 HGN6.out 0 _) HGN6.out 1 _)
                have HM12 : Hid ((w11).heap.size ≤ w12.heap.size) := by show _ ≤ _; rw [hY]; simp
                have HOCd_12 : Hid ((w12).ownsRow w.heap.size 9 1 (.slice oCd csd.length pCd) csd.length (csd.map Value.string)) := by show World.ownsRow _ _ _ _ _ _ _; rw [hY]; exact owns_same HOCd_11.out (fun g hg => by have hne := own_ne HOCd_11.out HBN6_11.out (by decide) g hg; rw [heap_setCell_other _ _ g _ hne, heap_setCell_other _ _ g _ hne])
                have HOPd_12 : Hid ((w12).ownsRow w.heap.size 67 2 (.slice oPd wsd.length pPd) wsd.length (flatWrite wsd)) := by show World.ownsRow _ _ _ _ _ _ _; rw [hY]; exact owns_same HOPd_11.out (fun g hg => by have hne := own_ne HOPd_11.out HBN6_11.out (by decide) g hg; rw [heap_setCell_other _ _ g _ hne, heap_setCell_other _ _ g _ hne])
                have HOCn_12 : Hid ((w12).ownsRow w.heap.size 9 1 (.slice oCn csn.length pCn) csn.length (csn.map Value.string)) := by show World.ownsRow _ _ _ _ _ _ _; rw [hY]; exact owns_same HOCn_11.out (fun g hg => by have hne := own_ne HOCn_11.out HBN6_11.out (by decide) g hg; rw [heap_setCell_other _ _ g _ hne, heap_setCell_other _ _ g _ hne])
                have HOPn_12 : Hid ((w12).ownsRow w.heap.size 67 2 (.slice oPn wsn.length pPn) wsn.length (flatWrite wsn)) := by show World.ownsRow _ _ _ _ _ _ _; rw [hY]; exact owns_same HOPn_11.out (fun g hg => by have hne := own_ne HOPn_11.out HBN6_11.out (by decide) g hg; rw [heap_setCell_other _ _ g _ hne, heap_setCell_other _ _ g _ hne])
                have HBv1_12 : Hid ((w12).heap[qv1]? = some (.cells #[.slice none 0 0, .slice none 0 0] 27)) := by show _ = _; rw [hY, heap_setCell_other _ _ _ _ HNv1N6.out, heap_setCell_other _ _ _ _ HNv1N6.out]; exact HBv1_11.out
                have HBv2_12 : Hid ((w12).heap[qv2]? = some (.cells #[.slice oCd csd.length pCd, .slice oPd wsd.length pPd] 27)) := by show _ = _; rw [hY, heap_setCell_other _ _ _ _ HNv2N6.out, heap_setCell_other _ _ _ _ HNv2N6.out]; exact HBv2_11.out
                have EU_12 : Hid (CurAt w12 c a len cap) := by show CurAt _ _ _ _ _; rw [hY]; exact (cur_set (cur_set EU_11.out HNCN6.out 0 _) HNCN6.out 1 _)
                have HBN6_12 : Hid ((w12).heap[qN6]? = some (.cells #[.slice oCn csn.length pCn, .slice oPn wsn.length pPn] 27)) := by show _ = _; rw [hY]; have h := (heap_set _ qN6 1 _ _ _ (.slice oPn wsn.length pPn) (heap_set _ qN6 0 _ _ _ (.slice oCn csn.length pCn) HBN6_11.out)); simpa using h
                clear hY hb11 HOCd_11 HOPd_11 HOCn_11 HOPn_11 HBv1_11 HBv2_11 HBN6_11 EU_11
                go_simp
                rw [HY.out]
                have hS12 : w12.heap[qv2]? = some (.cells #[.slice oCd csd.length pCd, .slice oPd wsd.length pPd] 27) := HBv2_12.out
                refine hK.out _ _ hS12 (fun _ => ?_)
                clear hK K HY hS11 ce0 fe0 ce1 fe1
                refine wpAnyH_takeD (i := 12) (v := .bool obn) (some 7) rfl rfl (by kernel_rfl) (by kernel_rfl) (by kernel_rfl) (fun _ _ _ h => h) (Or.inl ⟨by rfl, by intro W _; go_simp⟩) hS12 ?_
                simp only [Act.put, List.setIfInBounds_toArray, List.set_cons_zero, List.set_cons_succ]
                clear hS12
                refine wpAnyH_done (by kernel_rfl) ?_ _
                go_wp2_with fail
                go_meet
                exact ⟨qN6, csn, wsn, oCn, pCn, oPn, pPn, obn, rfl, rfl, HRn, ⟨hb12, EU_12.out, HBv1_12.out, HBv2_12.out, HOCd_12.out, HOPd_12.out, HBN6_12.out, HOCn_12.out, HOPn_12.out, HGN6.out, HNCN6.out, HNv1N6.out, HNv2N6.out⟩⟩
              · go_simp
                have bw : Below w9.heap.size w9 (w9.alloc (.cells #[.slice none 0 0, .slice none 0 0] 27)) := (Below.refl _ _).alloc (Nat.le_refl _) _
                have hSA : (w9.alloc (.cells #[.slice none 0 0, .slice none 0 0] 27)).heap[qv2]? = some (.cells #[.slice oCd csd.length pCd, .slice oPd wsd.length pPd] 27) := blk_below HBv2_9.out bw
                refine hK.out _ _ hSA (fun _ => ?_)
                clear hK K hSA bw hS9
                obtain ⟨qN6, hqN6⟩ : ∃ o, o = w9.heap.size := ⟨_, rfl⟩
                obtain ⟨w10, hXj⟩ : ∃ X, X = (w9.alloc (.cells #[.slice none 0 0, .slice none 0 0] 27)) := ⟨_, rfl⟩
                rw [← hqN6, ← hXj]
                have bw : Below w9.heap.size w9 w10 := by rw [hXj]; exact (Below.refl _ _).alloc (Nat.le_refl _) _
                have hb10 : w.grownBy w10 (some c) := grown_then hb9 (grown_below bw _)
                have HM10 : Hid ((w9).heap.size ≤ (w10).heap.size) := bw.size
                have HOCd_10 : Hid ((w10).ownsRow w.heap.size 9 1 (.slice oCd csd.length pCd) csd.length (csd.map Value.string)) := owns_below HOCd_9.out bw (fun g hg => owns_lt HOCd_9.out hg)
                have HOPd_10 : Hid ((w10).ownsRow w.heap.size 67 2 (.slice oPd wsd.length pPd) wsd.length (flatWrite wsd)) := owns_below HOPd_9.out bw (fun g hg => owns_lt HOPd_9.out hg)
                have HBv1_10 : Hid ((w10).heap[qv1]? = some (.cells #[.slice none 0 0, .slice none 0 0] 27)) := blk_below HBv1_9.out bw
                have HBv2_10 : Hid ((w10).heap[qv2]? = some (.cells #[.slice oCd csd.length pCd, .slice oPd wsd.length pPd] 27)) := blk_below HBv2_9.out bw
                have EU_10 : Hid (CurAt w10 c a len cap) := EU_9.out.below bw EU_9.out.lt
                have HNv1N6 : Hid (qv1 ≠ qN6) := fun e => by have h1 := (Array.getElem?_eq_some_iff.1 HBv1_9.out).1; omega
                have HNv2N6 : Hid (qv2 ≠ qN6) := fun e => by have h1 := (Array.getElem?_eq_some_iff.1 HBv2_9.out).1; omega
                have HNCN6 : Hid (qN6 ≠ c) := fun e => by have h1 := EU_9.out.lt; omega
                have HBN6_10 : Hid ((w10).heap[qN6]? = some (.cells #[.slice none 0 0, .slice none 0 0] 27)) := by show _ = _; rw [hXj, hqN6]; exact heap_alloc_new _ _
                have HGN6 : Hid (w.heap.size ≤ qN6) := by show _ ≤ _; rw [hqN6]; exact hb9.size
                have hS10 : w10.heap[qv2]? = some (.cells #[.slice oCd csd.length pCd, .slice oPd wsd.length pPd] 27) := HBv2_10.out
                clear hb9 HOCd_9 HOPd_9 HBv1_9 HBv2_9 EU_9 bw hXj hqN6
                refine wpAnyH_ready (rs := [6]) (by kernel_rfl) (by simp) ?_
                refine AllReadyH.cons rfl (fun K hK => ?_) AllReadyH.nil
                go_simp
                refine (specPut_right _ _ csd wsd _ _ ⟨HOCd_10.out, HOPd_10.out⟩ HRd.out n12 x13 HXx13.out).mono ?_
                rintro e w11 ⟨vv1, vv2, csn, wsn, obn, rfl, ⟨ownCn, ownPn⟩, hrn, bw⟩
                obtain ⟨oCn, pCn, rfl⟩ := slice_of_owns ownCn
                obtain ⟨oPn, pPn, rfl⟩ := slice_of_owns ownPn
                have HRn : Hid (RightD csn wsn) := hrn
                clear hrn
                have hb11 : w.grownBy w11 (some c) := grown_then hb10 (grown_below bw _)
                have HM11 : Hid ((w10).heap.size ≤ (w11).heap.size) := bw.size
                have HOCd_11 : Hid ((w11).ownsRow w.heap.size 9 1 (.slice oCd csd.length pCd) csd.length (csd.map Value.string)) := owns_below HOCd_10.out bw (fun g hg => owns_lt HOCd_10.out hg)
                have HOPd_11 : Hid ((w11).ownsRow w.heap.size 67 2 (.slice oPd wsd.length pPd) wsd.length (flatWrite wsd)) := owns_below HOPd_10.out bw (fun g hg => owns_lt HOPd_10.out hg)
                have HBv1_11 : Hid ((w11).heap[qv1]? = some (.cells #[.slice none 0 0, .slice none 0 0] 27)) := blk_below HBv1_10.out bw
                have HBv2_11 : Hid ((w11).heap[qv2]? = some (.cells #[.slice oCd csd.length pCd, .slice oPd wsd.length pPd] 27)) := blk_below HBv2_10.out bw
                have HBN6_11 : Hid ((w11).heap[qN6]? = some (.cells #[.slice none 0 0, .slice none 0 0] 27)) := blk_below HBN6_10.out bw
                have EU_11 : Hid (CurAt w11 c a len cap) := EU_10.out.below bw EU_10.out.lt
                have HOCn_11 : Hid ((w11).ownsRow w.heap.size 9 1 (.slice oCn csn.length pCn) csn.length (csn.map Value.string)) := owns_wide ownCn hb10.size
                have LOCn : Hid (∀ g, (Value.ownBlock (.slice oCn csn.length pCn)) = some g → (w10).heap.size ≤ g) := fun g hg => owns_ge ownCn hg
                have HICn : Hid (∀ g, (Value.ownBlock (.slice oCn csn.length pCn)) = some g → g < (w11).heap.size) := fun g hg => owns_lt ownCn hg
                clear ownCn
                have HOPn_11 : Hid ((w11).ownsRow w.heap.size 67 2 (.slice oPn wsn.length pPn) wsn.length (flatWrite wsn)) := owns_wide ownPn hb10.size
                have LOPn : Hid (∀ g, (Value.ownBlock (.slice oPn wsn.length pPn)) = some g → (w10).heap.size ≤ g) := fun g hg => owns_ge ownPn hg
                have HIPn : Hid (∀ g, (Value.ownBlock (.slice oPn wsn.length pPn)) = some g → g < (w11).heap.size) := fun g hg => owns_lt ownPn hg
                clear ownPn
                clear hb10 HOCd_10 HOPd_10 HBv1_10 HBv2_10 HBN6_10 EU_10 bw
                have hS11 : w11.heap[qv2]? = some (.cells #[.slice oCd csd.length pCd, .slice oPd wsd.length pPd] 27) := HBv2_11.out
                refine hK.out _ _ hS11 (fun _ => ?_)
                clear hK K hS10
                refine wpAnyH_takeD (i := 7) (v := .tuple #[.agg #[.slice oCn csn.length pCn, .slice oPn wsn.length pPn], .bool obn]) (some 16) rfl rfl (by kernel_rfl) (by kernel_rfl) (by kernel_rfl) (fun _ _ _ h => h) (Or.inl ⟨by rfl, by intro W _; go_simp⟩) hS11 ?_
                simp only [Act.put, List.setIfInBounds_toArray, List.set_cons_zero, List.set_cons_succ]
                refine wpAnyH_takeD (i := 8) (v := .agg #[.slice oCn csn.length pCn, .slice oPn wsn.length pPn]) (some 24) rfl rfl (by kernel_rfl) (by kernel_rfl) (by kernel_rfl) (fun _ _ _ h => h) (Or.inl ⟨by rfl, by intro W _; go_simp⟩) hS11 ?_
                simp only [Act.put, List.setIfInBounds_toArray, List.set_cons_zero, List.set_cons_succ]
                refine wpAnyH_takeD (i := 9) (v := .bool obn) (some 25) rfl rfl (by kernel_rfl) (by kernel_rfl) (by kernel_rfl) (fun _ _ _ h => h) (Or.inl ⟨by rfl, by intro W _; go_simp⟩) hS11 ?_
                simp only [Act.put, List.setIfInBounds_toArray, List.set_cons_zero, List.set_cons_succ]
                refine wpAnyH_ready (rs := [11]) (by kernel_rfl) (by simp) ?_
                refine AllReadyH.cons rfl (fun K hK => ?_) AllReadyH.nil
                have ce0 : (w11).cell? ⟨qN6, 0, none⟩ = some (.slice none 0 0) := (cell_of HBN6_11.out 0).trans rfl
                have fe0 : (w11).frozen? ⟨qN6, 0, none⟩ = false := frozen_of HBN6_11.out 0
                have ce1 : (w11).cell? ⟨qN6, 1, none⟩ = some (.slice none 0 0) := (cell_of HBN6_11.out 1).trans rfl
                have fe1 : (w11).frozen? ⟨qN6, 1, none⟩ = false := frozen_of HBN6_11.out 1
                obtain ⟨w12, hY⟩ : ∃ Y, Y = ((w11.setCell ⟨qN6, 0, none⟩ (.slice oCn csn.length pCn)).setCell ⟨qN6, 1, none⟩ (.slice oPn wsn.length pPn)) := ⟨_, rfl⟩
                have HY : Hid (((w11.setCell ⟨qN6, 0, none⟩ (.slice oCn csn.length pCn)).setCell ⟨qN6, 1, none⟩ (.slice oPn wsn.length pPn)) = w12) := hY.symm
                have hb12 : w.grownBy w12 (some c) := by rw [hY]; exact (grown_own (grown_own hb11 HGN6.out 0 _) HGN6.out 1 _)
                have HM12 : Hid ((w11).heap.size ≤ w12.heap.size) := by show _ ≤ _; rw [hY]; simp
                have HOCd_12 : Hid ((w12).ownsRow w.heap.size 9 1 (.slice oCd csd.length pCd) csd.length (csd.map Value.string)) := by show World.ownsRow _ _ _ _ _ _ _; rw [hY]; exact owns_same HOCd_11.out (fun g hg => by have hne := own_ne HOCd_11.out HBN6_11.out (by decide) g hg; rw [heap_setCell_other _ _ g _ hne, heap_setCell_other _ _ g _ hne])
                have HOPd_12 : Hid ((w12).ownsRow w.heap.size 67 2 (.slice oPd wsd.length pPd) wsd.length (flatWrite wsd)) := by show World.ownsRow _ _ _ _ _ _ _; rw [hY]; exact owns_same HOPd_11.out (fun g hg => by have hne := own_ne HOPd_11.out HBN6_11.out (by decide) g hg; rw [heap_setCell_other _ _ g _ hne, heap_setCell_other _ _ g _ hne])
                have HOCn_12 : Hid ((w12).ownsRow w.heap.size 9 1 (.slice oCn csn.length pCn) csn.length (csn.map Value.string)) := by show World.ownsRow _ _ _ _ _ _ _; rw [hY]; exact owns_same HOCn_11.out (fun g hg => by have hne := own_ne HOCn_11.out HBN6_11.out (by decide) g hg; rw [heap_setCell_other _ _ g _ hne, heap_setCell_other _ _ g _ hne])
                have HOPn_12 : Hid ((w12).ownsRow w.heap.size 67 2 (.slice oPn wsn.length pPn) wsn.length (flatWrite wsn)) := by show World.ownsRow _ _ _ _ _ _ _; rw [hY]; exact owns_same HOPn_11.out (fun g hg => by have hne := own_ne HOPn_11.out HBN6_11.out (by decide) g hg; rw [heap_setCell_other _ _ g _ hne, heap_setCell_other _ _ g _ hne])
                have HBv1_12 : Hid ((w12).heap[qv1]? = some (.cells #[.slice none 0 0, .slice none 0 0] 27)) := by show _ = _; rw [hY, heap_setCell_other _ _ _ _ HNv1N6.out, heap_setCell_other _ _ _ _ HNv1N6.out]; exact HBv1_11.out
                have HBv2_12 : Hid ((w12).heap[qv2]? = some (.cells #[.slice oCd csd.length pCd, .slice oPd wsd.length pPd] 27)) := by show _ = _; rw [hY, heap_setCell_other _ _ _ _ HNv2N6.out, heap_setCell_other _ _ _ _ HNv2N6.out]; exact HBv2_11.out
                have EU_12 : Hid (CurAt w12 c a len cap) := by show CurAt _ _ _ _ _; rw [hY]; exact (cur_set (cur_set EU_11.out HNCN6.out 0 _) HNCN6.out 1 _)
                have HBN6_12 : Hid ((w12).heap[qN6]? = some (.cells #[.slice oCn csn.length pCn, .slice oPn wsn.length pPn] 27)) := by show _ = _; rw [hY]; have h := (heap_set _ qN6 1 _ _ _ (.slice oPn wsn.length pPn) (heap_set _ qN6 0 _ _ _ (.slice oCn csn.length pCn) HBN6_11.out)); simpa using h
                clear hY hb11 HOCd_11 HOPd_11 HOCn_11 HOPn_11 HBv1_11 HBv2_11 HBN6_11 EU_11
                go_simp
                rw [HY.out]
                have hS12 : w12.heap[qv2]? = some (.cells #[.slice oCd csd.length pCd, .slice oPd wsd.length pPd] 27) := HBv2_12.out
                refine hK.out _ _ hS12 (fun _ => ?_)
                clear hK K HY hS11 ce0 fe0 ce1 fe1
                refine wpAnyH_takeD (i := 12) (v := .bool obn) (some 7) rfl rfl (by kernel_rfl) (by kernel_rfl) (by kernel_rfl) (fun _ _ _ h => h) (Or.inl ⟨by rfl, by intro W _; go_simp⟩) hS12 ?_
                simp only [Act.put, List.setIfInBounds_toArray, List.set_cons_zero, List.set_cons_succ]
                clear hS12
                refine wpAnyH_done (by kernel_rfl) ?_ _
                go_wp2_with fail
                go_meet
                exact ⟨qN6, csn, wsn, oCn, pCn, oPn, pPn, obn, rfl, rfl, HRn, ⟨hb12, EU_12.out, HBv1_12.out, HBv2_12.out, HOCd_12.out, HOPd_12.out, HBN6_12.out, HOCn_12.out, HOPn_12.out, HGN6.out, HNCN6.out, HNv1N6.out, HNv2N6.out⟩⟩
            · go_simp
              have bw : Below w8.heap.size w8 (w8.alloc (.cells #[.slice none 0 0, .slice none 0 0] 27)) := (Below.refl _ _).alloc (Nat.le_refl _) _
              have hSA : (w8.alloc (.cells #[.slice none 0 0, .slice none 0 0] 27)).heap[qv2]? = some (.cells #[.slice oCd csd.length pCd, .slice oPd wsd.length pPd] 27) := blk_below HBv2_8.out bw
              refine hK.out _ _ hSA (fun _ => ?_)
              clear hK K hSA bw hS8
              obtain ⟨qN6, hqN6⟩ : ∃ o, o = w8.heap.size := ⟨_, rfl⟩
              obtain ⟨w9, hXj⟩ : ∃ X, X = (w8.alloc (.cells #[.slice none 0 0, .slice none 0 0] 27)) := ⟨_, rfl⟩
              rw [← hqN6, ← hXj]
              have bw : Below w8.heap.size w8 w9 := by rw [hXj]; exact (Below.refl _ _).alloc (Nat.le_refl _) _
              have hb9 : w.grownBy w9 (some c) := grown_then hb8 (grown_below bw _)
              have HM9 : Hid ((w8).heap.size ≤ (w9).heap.size) := bw.size
              have HOCd_9 : Hid ((w9).ownsRow w.heap.size 9 1 (.slice oCd csd.length pCd) csd.length (csd.map Value.string)) := owns_below HOCd_8.out bw (fun g hg => owns_lt HOCd_8.out hg)
              have HOPd_9 : Hid ((w9).ownsRow w.heap.size 67 2 (.slice oPd wsd.length pPd) wsd.length (flatWrite wsd)) := owns_below HOPd_8.out bw (fun g hg => owns_lt HOPd_8.out hg)
              have HBv1_9 : Hid ((w9).heap[qv1]? = some (.cells #[.slice none 0 0, .slice none 0 0] 27)) := blk_below HBv1_8.out bw
              have HBv2_9 : Hid ((w9).heap[qv2]? = some (.cells #[.slice oCd csd.length pCd, .slice oPd wsd.length pPd] 27)) := blk_below HBv2_8.out bw
              have HBv3_9 : Hid ((w9).heap[qv3]? = some (.cells #[.string ⟨#[]⟩, .string ⟨#[97]⟩, .string ⟨#[98]⟩, .string ⟨#[99, 99]⟩] 9)) := blk_below HBv3_8.out bw
              have EU_9 : Hid (CurAt w9 c a len cap) := EU_8.out.below bw EU_8.out.lt
              have HNv1N6 : Hid (qv1 ≠ qN6) := fun e => by have h1 := (Array.getElem?_eq_some_iff.1 HBv1_8.out).1; omega
              have HNv2N6 : Hid (qv2 ≠ qN6) := fun e => by have h1 := (Array.getElem?_eq_some_iff.1 HBv2_8.out).1; omega
              have HNv3N6 : Hid (qv3 ≠ qN6) := fun e => by have h1 := (Array.getElem?_eq_some_iff.1 HBv3_8.out).1; omega
              have HNCN6 : Hid (qN6 ≠ c) := fun e => by have h1 := EU_8.out.lt; omega
              have HBN6_9 : Hid ((w9).heap[qN6]? = some (.cells #[.slice none 0 0, .slice none 0 0] 27)) := by show _ = _; rw [hXj, hqN6]; exact heap_alloc_new _ _
              have HGN6 : Hid (w.heap.size ≤ qN6) := by show _ ≤ _; rw [hqN6]; exact hb8.size
              have hS9 : w9.heap[qv2]? = some (.cells #[.slice oCd csd.length pCd, .slice oPd wsd.length pPd] 27) := HBv2_9.out
              clear hb8 HOCd_8 HOPd_8 HBv1_8 HBv2_8 HBv3_8 EU_8 bw hXj hqN6
              refine wpAnyH_ready (rs := [5]) (by kernel_rfl) (by simp) ?_
              refine AllReadyH.cons rfl (fun K hK => ?_) AllReadyH.nil
              go_simp
              have HLS : Hid (ListAt w9 qv3 4 (textAt [⟨#[]⟩, ⟨#[97]⟩, ⟨#[98]⟩, ⟨#[99, 99]⟩])) := by
                intro j hj
                match j, hj with
                | 0, _ => exact (cell_of HBv3_9.out 0).trans rfl
                | 1, _ => exact (cell_of HBv3_9.out 1).trans rfl
                | 2, _ => exact (cell_of HBv3_9.out 2).trans rfl
                | 3, _ => exact (cell_of HBv3_9.out 3).trans rfl
              refine (l1Pick_any c B qv3 4 (textAt [⟨#[]⟩, ⟨#[97]⟩, ⟨#[98]⟩, ⟨#[99, 99]⟩]) a len cap zs _ EU_9.out (HCO.out _ hb9) HBC.out (by decide) (by decide) HLS.out HNCv3.out).mono ?_
              rintro e w10 ⟨jx, hjx, rfl, hcu, hg⟩
              obtain ⟨x13, hx13⟩ : ∃ x, x = textAt [⟨#[]⟩, ⟨#[97]⟩, ⟨#[98]⟩, ⟨#[99, 99]⟩] jx := ⟨_, rfl⟩
              rw [← hx13]
              have HXx13 : Hid (x13.size ≤ 64) := by show _ ≤ _; rw [hx13]; exact (show ∀ j, j < 4 → (textAt [⟨#[]⟩, ⟨#[97]⟩, ⟨#[98]⟩, ⟨#[99, 99]⟩] j).size ≤ 64 by decide) jx hjx
              clear hx13 hjx HLS
              have hb10 : w.grownBy w10 (some c) := grown_then hb9 hg
              have HM10 : Hid ((w9).heap.size ≤ (w10).heap.size) := hg.size
              have HOCd_10 : Hid ((w10).ownsRow w.heap.size 9 1 (.slice oCd csd.length pCd) csd.length (csd.map Value.string)) := owns_same HOCd_9.out (fun g hgg => hg.block g (owns_lt HOCd_9.out hgg) (fun e => own_cur HOCd_9.out EU_9.out (by decide) g hgg (Option.some.inj e)))
              have HOPd_10 : Hid ((w10).ownsRow w.heap.size 67 2 (.slice oPd wsd.length pPd) wsd.length (flatWrite wsd)) := owns_same HOPd_9.out (fun g hgg => hg.block g (owns_lt HOPd_9.out hgg) (fun e => own_cur HOPd_9.out EU_9.out (by decide) g hgg (Option.some.inj e)))
              have HBv1_10 : Hid ((w10).heap[qv1]? = some (.cells #[.slice none 0 0, .slice none 0 0] 27)) := (hg.block _ (Array.getElem?_eq_some_iff.1 HBv1_9.out).1 (fun e => HNCv1.out (Option.some.inj e))).trans HBv1_9.out
              have HBv2_10 : Hid ((w10).heap[qv2]? = some (.cells #[.slice oCd csd.length pCd, .slice oPd wsd.length pPd] 27)) := (hg.block _ (Array.getElem?_eq_some_iff.1 HBv2_9.out).1 (fun e => HNCv2.out (Option.some.inj e))).trans HBv2_9.out
              have HBv3_10 : Hid ((w10).heap[qv3]? = some (.cells #[.string ⟨#[]⟩, .string ⟨#[97]⟩, .string ⟨#[98]⟩, .string ⟨#[99, 99]⟩] 9)) := (hg.block _ (Array.getElem?_eq_some_iff.1 HBv3_9.out).1 (fun e => HNCv3.out (Option.some.inj e))).trans HBv3_9.out
              have HBN6_10 : Hid ((w10).heap[qN6]? = some (.cells #[.slice none 0 0, .slice none 0 0] 27)) := (hg.block _ (Array.getElem?_eq_some_iff.1 HBN6_9.out).1 (fun e => HNCN6.out (Option.some.inj e))).trans HBN6_9.out
              have EU_10 : Hid (CurAt w10 c a len cap) := hcu
              clear hb9 HOCd_9 HOPd_9 HBv1_9 HBv2_9 HBv3_9 HBN6_9 EU_9 hg hcu
              clear HBv3_10
              have hS10 : w10.heap[qv2]? = some (.cells #[.slice oCd csd.length pCd, .slice oPd wsd.length pPd] 27) := HBv2_10.out
              refine hK.out _ _ hS10 (fun _ => ?_)
              clear hK K hS9
              refine wpAnyH_ready (rs := [6]) (by kernel_rfl) (by simp) ?_
              refine AllReadyH.cons rfl (fun K hK => ?_) AllReadyH.nil
              go_simp
              refine (specPut_right _ _ csd wsd _ _ ⟨HOCd_10.out, HOPd_10.out⟩ HRd.out n12 x13 HXx13.out).mono ?_
              rintro e w11 ⟨vv1, vv2, csn, wsn, obn, rfl, ⟨ownCn, ownPn⟩, hrn, bw⟩
              obtain ⟨oCn, pCn, rfl⟩ := slice_of_owns ownCn
              obtain ⟨oPn, pPn, rfl⟩ := slice_of_owns ownPn
              have HRn : Hid (RightD csn wsn) := hrn
              clear hrn
              have hb11 : w.grownBy w11 (some c) := grown_then hb10 (grown_below bw _)
              have HM11 : Hid ((w10).heap.size ≤ (w11).heap.size) := bw.size
              have HOCd_11 : Hid ((w11).ownsRow w.heap.size 9 1 (.slice oCd csd.length pCd) csd.length (csd.map Value.string)) := owns_below HOCd_10.out bw (fun g hg => owns_lt HOCd_10.out hg)
              have HOPd_11 : Hid ((w11).ownsRow w.heap.size 67 2 (.slice oPd wsd.length pPd) wsd.length (flatWrite wsd)) := owns_below HOPd_10.out bw (fun g hg => owns_lt HOPd_10.out hg)
              have HBv1_11 : Hid ((w11).heap[qv1]? = some (.cells #[.slice none 0 0, .slice none 0 0] 27)) := blk_below HBv1_10.out bw
              have HBv2_11 : Hid ((w11).heap[qv2]? = some (.cells #[.slice oCd csd.length pCd, .slice oPd wsd.length pPd] 27)) := blk_below HBv2_10.out bw
              have HBN6_11 : Hid ((w11).heap[qN6]? = some (.cells #[.slice none 0 0, .slice none 0 0] 27)) := blk_below HBN6_10.out bw
              have EU_11 : Hid (CurAt w11 c a len cap) := EU_10.out.below bw EU_10.out.lt
              have HOCn_11 : Hid ((w11).ownsRow w.heap.size 9 1 (.slice oCn csn.length pCn) csn.length (csn.map Value.string)) := owns_wide ownCn hb10.size
              have LOCn : Hid (∀ g, (Value.ownBlock (.slice oCn csn.length pCn)) = some g → (w10).heap.size ≤ g) := fun g hg => owns_ge ownCn hg
              have HICn : Hid (∀ g, (Value.ownBlock (.slice oCn csn.length pCn)) = some g → g < (w11).heap.size) := fun g hg => owns_lt ownCn hg
              clear ownCn
              have HOPn_11 : Hid ((w11).ownsRow w.heap.size 67 2 (.slice oPn wsn.length pPn) wsn.length (flatWrite wsn)) := owns_wide ownPn hb10.size
              have LOPn : Hid (∀ g, (Value.ownBlock (.slice oPn wsn.length pPn)) = some g → (w10).heap.size ≤ g) := fun g hg => owns_ge ownPn hg
              have HIPn : Hid (∀ g, (Value.ownBlock (.slice oPn wsn.length pPn)) = some g → g < (w11).heap.size) := fun g hg => owns_lt ownPn hg
              clear ownPn
              clear hb10 HOCd_10 HOPd_10 HBv1_10 HBv2_10 HBN6_10 EU_10 bw
              have hS11 : w11.heap[qv2]? = some (.cells #[.slice oCd csd.length pCd, .slice oPd wsd.length pPd] 27) := HBv2_11.out
              refine hK.out _ _ hS11 (fun _ => ?_)
              clear hK K hS10
              refine wpAnyH_takeD (i := 7) (v := .tuple #[.agg #[.slice oCn csn.length pCn, .slice oPn wsn.length pPn], .bool obn]) (some 16) rfl rfl (by kernel_rfl) (by kernel_rfl) (by kernel_rfl) (fun _ _ _ h => h) (Or.inl ⟨by rfl, by intro W _; go_simp⟩) hS11 ?_
              simp only [Act.put, List.setIfInBounds_toArray, List.set_cons_zero, List.set_cons_succ]
              refine wpAnyH_takeD (i := 8) (v := .agg #[.slice oCn csn.length pCn, .slice oPn wsn.length pPn]) (some 24) rfl rfl (by kernel_rfl) (by kernel_rfl) (by kernel_rfl) (fun _ _ _ h => h) (Or.inl ⟨by rfl, by intro W _; go_simp⟩) hS11 ?_
              simp only [Act.put, List.setIfInBounds_toArray, List.set_cons_zero, List.set_cons_succ]
              refine wpAnyH_takeD (i := 9) (v := .bool obn) (some 25) rfl rfl (by kernel_rfl) (by kernel_rfl) (by kernel_rfl) (fun _ _ _ h => h) (Or.inl ⟨by rfl, by intro W _; go_simp⟩) hS11 ?_
              simp only [Act.put, List.setIfInBounds_toArray, List.set_cons_zero, List.set_cons_succ]
              refine wpAnyH_ready (rs := [11]) (by kernel_rfl) (by simp) ?_
              refine AllReadyH.cons rfl (fun K hK => ?_) AllReadyH.nil
              have ce0 : (w11).cell? ⟨qN6, 0, none⟩ = some (.slice none 0 0) := (cell_of HBN6_11.out 0).trans rfl
              have fe0 : (w11).frozen? ⟨qN6, 0, none⟩ = false := frozen_of HBN6_11.out 0
              have ce1 : (w11).cell? ⟨qN6, 1, none⟩ = some (.slice none 0 0) := (cell_of HBN6_11.out 1).trans rfl
              have fe1 : (w11).frozen? ⟨qN6, 1, none⟩ = false := frozen_of HBN6_11.out 1
              obtain ⟨w12, hY⟩ : ∃ Y, Y = ((w11.setCell ⟨qN6, 0, none⟩ (.slice oCn csn.length pCn)).setCell ⟨qN6, 1, none⟩ (.slice oPn wsn.length pPn)) := ⟨_, rfl⟩
              have HY : Hid (((w11.setCell ⟨qN6, 0, none⟩ (.slice oCn csn.length pCn)).setCell ⟨qN6, 1, none⟩ (.slice oPn wsn.length pPn)) = w12) := hY.symm
              have hb12 : w.grownBy w12 (some c) := by rw [hY]; exact (grown_own (grown_own hb11 HGN6.out 0 _) HGN6.out 1 _)
              have HM12 : Hid ((w11).heap.size ≤ w12.heap.size) := by show _ ≤ _; rw [hY]; simp
              have HOCd_12 : Hid ((w12).ownsRow w.heap.size 9 1 (.slice oCd csd.length pCd) csd.length (csd.map Value.string)) := by show World.ownsRow _ _ _ _ _ _ _; rw [hY]; exact owns_same HOCd_11.out (fun g hg => by have hne := own_ne HOCd_11.out HBN6_11.out (by decide) g hg; rw [heap_setCell_other _ _ g _ hne, heap_setCell_other _ _ g _ hne])
              have HOPd_12 : Hid ((w12).ownsRow w.heap.size 67 2 (.slice oPd wsd.length pPd) wsd.length (flatWrite wsd)) := by show World.ownsRow _ _ _ _ _ _ _; rw [hY]; exact owns_same HOPd_11.out (fun g hg => by have hne := own_ne HOPd_11.out HBN6_11.out (by decide) g hg; rw [heap_setCell_other _ _ g _ hne, heap_setCell_other _ _ g _ hne])
              have HOCn_12 : Hid ((w12).ownsRow w.heap.size 9 1 (.slice oCn csn.length pCn) csn.length (csn.map Value.string)) := by show World.ownsRow _ _ _ _ _ _ _; rw [hY]; exact owns_same HOCn_11.out (fun g hg => by have hne := own_ne HOCn_11.out HBN6_11.out (by decide) g hg; rw [heap_setCell_other _ _ g _ hne, heap_setCell_other _ _ g _ hne])
              have HOPn_12 : Hid ((w12).ownsRow w.heap.size 67 2 (.slice oPn wsn.length pPn) wsn.length (flatWrite wsn)) := by show World.ownsRow _ _ _ _ _ _ _; rw [hY]; exact owns_same HOPn_11.out (fun g hg => by have hne := own_ne HOPn_11.out HBN6_11.out (by decide) g hg; rw [heap_setCell_other _ _ g _ hne, heap_setCell_other _ _ g _ hne])
              have HBv1_12 : Hid ((w12).heap[qv1]? = some (.cells #[.slice none 0 0, .slice none 0 0] 27)) := by show _ = _; rw [hY, heap_setCell_other _ _ _ _ HNv1N6.out, heap_setCell_other _ _ _ _ HNv1N6.out]; exact HBv1_11.out
              have HBv2_12 : Hid ((w12).heap[qv2]? = some (.cells #[.slice oCd csd.length pCd, .slice oPd wsd.length pPd] 27)) := by show _ = _; rw [hY, heap_setCell_other _ _ _ _ HNv2N6.out, heap_setCell_other _ _ _ _ HNv2N6.out]; exact HBv2_11.out
              have EU_12 : Hid (CurAt w12 c a len cap) := by show CurAt _ _ _ _ _; rw [hY]; exact (cur_set (cur_set EU_11.out HNCN6.out 0 _) HNCN6.out 1 _)
              have HBN6_12 : Hid ((w12).heap[qN6]? = some (.cells #[.slice oCn csn.length pCn, .slice oPn wsn.length pPn] 27)) := by show _ = _; rw [hY]; have h := (heap_set _ qN6 1 _ _ _ (.slice oPn wsn.length pPn) (heap_set _ qN6 0 _ _ _ (.slice oCn csn.length pCn) HBN6_11.out)); simpa using h
              clear hY hb11 HOCd_11 HOPd_11 HOCn_11 HOPn_11 HBv1_11 HBv2_11 HBN6_11 EU_11
              go_simp
              rw [HY.out]
              have hS12 : w12.heap[qv2]? = some (.cells #[.slice oCd csd.length pCd, .slice oPd wsd.length pPd] 27) := HBv2_12.out
              refine hK.out _ _ hS12 (fun _ => ?_)
              clear hK K HY hS11 ce0 fe0 ce1 fe1
              refine wpAnyH_takeD (i := 12) (v := .bool obn) (some 7) rfl rfl (by kernel_rfl) (by kernel_rfl) (by kernel_rfl) (fun _ _ _ h => h) (Or.inl ⟨by rfl, by intro W _; go_simp⟩) hS12 ?_
              simp only [Act.put, List.setIfInBounds_toArray, List.set_cons_zero, List.set_cons_succ]
              clear hS12
              refine wpAnyH_done (by kernel_rfl) ?_ _
              go_wp2_with fail
              go_meet
              exact ⟨qN6, csn, wsn, oCn, pCn, oPn, pPn, obn, rfl, rfl, HRn, ⟨hb12, EU_12.out, HBv1_12.out, HBv2_12.out, HOCd_12.out, HOPd_12.out, HBN6_12.out, HOCn_12.out, HOPn_12.out, HGN6.out, HNCN6.out, HNv1N6.out, HNv2N6.out⟩⟩
          · go_simp
            have bw : Below w7.heap.size w7 (w7.alloc (.cells #[.slice none 0 0, .slice none 0 0] 27)) := (Below.refl _ _).alloc (Nat.le_refl _) _
            have hSA : (w7.alloc (.cells #[.slice none 0 0, .slice none 0 0] 27)).heap[qv2]? = some (.cells #[.slice oCd csd.length pCd, .slice oPd wsd.length pPd] 27) := blk_below HBv2_7.out bw
            refine hK.out _ _ hSA (fun _ => ?_)
            clear hK K hSA bw hS7
            obtain ⟨qN6, hqN6⟩ : ∃ o, o = w7.heap.size := ⟨_, rfl⟩
            obtain ⟨w8, hXj⟩ : ∃ X, X = (w7.alloc (.cells #[.slice none 0 0, .slice none 0 0] 27)) := ⟨_, rfl⟩
            rw [← hqN6, ← hXj]
            have bw : Below w7.heap.size w7 w8 := by rw [hXj]; exact (Below.refl _ _).alloc (Nat.le_refl _) _
            have hb8 : w.grownBy w8 (some c) := grown_then hb7 (grown_below bw _)
            have HM8 : Hid ((w7).heap.size ≤ (w8).heap.size) := bw.size
            have HOCd_8 : Hid ((w8).ownsRow w.heap.size 9 1 (.slice oCd csd.length pCd) csd.length (csd.map Value.string)) := owns_below HOCd_7.out bw (fun g hg => owns_lt HOCd_7.out hg)
            have HOPd_8 : Hid ((w8).ownsRow w.heap.size 67 2 (.slice oPd wsd.length pPd) wsd.length (flatWrite wsd)) := owns_below HOPd_7.out bw (fun g hg => owns_lt HOPd_7.out hg)
            have HBv1_8 : Hid ((w8).heap[qv1]? = some (.cells #[.slice none 0 0, .slice none 0 0] 27)) := blk_below HBv1_7.out bw
            have HBv2_8 : Hid ((w8).heap[qv2]? = some (.cells #[.slice oCd csd.length pCd, .slice oPd wsd.length pPd] 27)) := blk_below HBv2_7.out bw
            have EU_8 : Hid (CurAt w8 c a len cap) := EU_7.out.below bw EU_7.out.lt
            have HNv1N6 : Hid (qv1 ≠ qN6) := fun e => by have h1 := (Array.getElem?_eq_some_iff.1 HBv1_7.out).1; omega
            have HNv2N6 : Hid (qv2 ≠ qN6) := fun e => by have h1 := (Array.getElem?_eq_some_iff.1 HBv2_7.out).1; omega
            have HNCN6 : Hid (qN6 ≠ c) := fun e => by have h1 := EU_7.out.lt; omega
            have HBN6_8 : Hid ((w8).heap[qN6]? = some (.cells #[.slice none 0 0, .slice none 0 0] 27)) := by show _ = _; rw [hXj, hqN6]; exact heap_alloc_new _ _
            have HGN6 : Hid (w.heap.size ≤ qN6) := by show _ ≤ _; rw [hqN6]; exact hb7.size
            have hS8 : w8.heap[qv2]? = some (.cells #[.slice oCd csd.length pCd, .slice oPd wsd.length pPd] 27) := HBv2_8.out
            clear hb7 HOCd_7 HOPd_7 HBv1_7 HBv2_7 EU_7 bw hXj hqN6
            refine wpAnyH_ready (rs := [4]) (by kernel_rfl) (by simp) ?_
            refine AllReadyH.cons rfl (fun K hK => ?_) AllReadyH.nil
            go_simp
            have bw : Below w8.heap.size w8 (w8.alloc (.cells #[.string ⟨#[]⟩, .string ⟨#[97]⟩, .string ⟨#[98]⟩, .string ⟨#[99, 99]⟩] 9)) := (Below.refl _ _).alloc (Nat.le_refl _) _
            have hSA : (w8.alloc (.cells #[.string ⟨#[]⟩, .string ⟨#[97]⟩, .string ⟨#[98]⟩, .string ⟨#[99, 99]⟩] 9)).heap[qv2]? = some (.cells #[.slice oCd csd.length pCd, .slice oPd wsd.length pPd] 27) := blk_below HBv2_8.out bw
            refine hK.out _ _ hSA (fun _ => ?_)
            clear hK K hSA bw hS8
            obtain ⟨qv3, hqv3⟩ : ∃ o, o = w8.heap.size := ⟨_, rfl⟩
            obtain ⟨w9, hXj⟩ : ∃ X, X = (w8.alloc (.cells #[.string ⟨#[]⟩, .string ⟨#[97]⟩, .string ⟨#[98]⟩, .string ⟨#[99, 99]⟩] 9)) := ⟨_, rfl⟩
            rw [← hqv3, ← hXj]
            have bw : Below w8.heap.size w8 w9 := by rw [hXj]; exact (Below.refl _ _).alloc (Nat.le_refl _) _
            have hb9 : w.grownBy w9 (some c) := grown_then hb8 (grown_below bw _)
            have HM9 : Hid ((w8).heap.size ≤ (w9).heap.size) := bw.size
            have HOCd_9 : Hid ((w9).ownsRow w.heap.size 9 1 (.slice oCd csd.length pCd) csd.length (csd.map Value.string)) := owns_below HOCd_8.out bw (fun g hg => owns_lt HOCd_8.out hg)
            have HOPd_9 : Hid ((w9).ownsRow w.heap.size 67 2 (.slice oPd wsd.length pPd) wsd.length (flatWrite wsd)) := owns_below HOPd_8.out bw (fun g hg => owns_lt HOPd_8.out hg)
            have HBv1_9 : Hid ((w9).heap[qv1]? = some (.cells #[.slice none 0 0, .slice none 0 0] 27)) := blk_below HBv1_8.out bw
            have HBv2_9 : Hid ((w9).heap[qv2]? = some (.cells #[.slice oCd csd.length pCd, .slice oPd wsd.length pPd] 27)) := blk_below HBv2_8.out bw
            have HBN6_9 : Hid ((w9).heap[qN6]? = some (.cells #[.slice none 0 0, .slice none 0 0] 27)) := blk_below HBN6_8.out bw
            have EU_9 : Hid (CurAt w9 c a len cap) := EU_8.out.below bw EU_8.out.lt
            have HNv1v3 : Hid (qv1 ≠ qv3) := fun e => by have h1 := (Array.getElem?_eq_some_iff.1 HBv1_8.out).1; omega
            have HNv2v3 : Hid (qv2 ≠ qv3) := fun e => by have h1 := (Array.getElem?_eq_some_iff.1 HBv2_8.out).1; omega
            have HNN6v3 : Hid (qN6 ≠ qv3) := fun e => by have h1 := (Array.getElem?_eq_some_iff.1 HBN6_8.out).1; omega
            have HNCv3 : Hid (qv3 ≠ c) := fun e => by have h1 := EU_8.out.lt; omega
            have HBv3_9 : Hid ((w9).heap[qv3]? = some (.cells #[.string ⟨#[]⟩, .string ⟨#[97]⟩, .string ⟨#[98]⟩, .string ⟨#[99, 99]⟩] 9)) := by show _ = _; rw [hXj, hqv3]; exact heap_alloc_new _ _
            have HGv3 : Hid (w.heap.size ≤ qv3) := by show _ ≤ _; rw [hqv3]; exact hb8.size
            have hS9 : w9.heap[qv2]? = some (.cells #[.slice oCd csd.length pCd, .slice oPd wsd.length pPd] 27) := HBv2_9.out
            clear hb8 HOCd_8 HOPd_8 HBv1_8 HBv2_8 HBN6_8 EU_8 bw hXj hqv3
            refine wpAnyH_ready (rs := [5]) (by kernel_rfl) (by simp) ?_
            refine AllReadyH.cons rfl (fun K hK => ?_) AllReadyH.nil
            go_simp
            have HLS : Hid (ListAt w9 qv3 4 (textAt [⟨#[]⟩, ⟨#[97]⟩, ⟨#[98]⟩, ⟨#[99, 99]⟩])) := by
              intro j hj
              match j, hj with
              | 0, _ => exact (cell_of HBv3_9.out 0).trans rfl
              | 1, _ => exact (cell_of HBv3_9.out 1).trans rfl
              | 2, _ => exact (cell_of HBv3_9.out 2).trans rfl
              | 3, _ => exact (cell_of HBv3_9.out 3).trans rfl
            refine (l1Pick_any c B qv3 4 (textAt [⟨#[]⟩, ⟨#[97]⟩, ⟨#[98]⟩, ⟨#[99, 99]⟩]) a len cap zs _ EU_9.out (HCO.out _ hb9) HBC.out (by decide) (by decide) HLS.out HNCv3.out).mono ?_
            rintro e w10 ⟨jx, hjx, rfl, hcu, hg⟩
            obtain ⟨x13, hx13⟩ : ∃ x, x = textAt [⟨#[]⟩, ⟨#[97]⟩, ⟨#[98]⟩, ⟨#[99, 99]⟩] jx := ⟨_, rfl⟩
            rw [← hx13]
            have HXx13 : Hid (x13.size ≤ 64) := by show _ ≤ _; rw [hx13]; exact (show ∀ j, j < 4 → (textAt [⟨#[]⟩, ⟨#[97]⟩, ⟨#[98]⟩, ⟨#[99, 99]⟩] j).size ≤ 64 by decide) jx hjx
            clear hx13 hjx HLS
            have hb10 : w.grownBy w10 (some c) := grown_then hb9 hg
            have HM10 : Hid ((w9).heap.size ≤ (w10).heap.size) := hg.size
            have HOCd_10 : Hid ((w10).ownsRow w.heap.size 9 1 (.slice oCd csd.length pCd) csd.length (csd.map Value.string)) := owns_same HOCd_9.out (fun g hgg => hg.block g (owns_lt HOCd_9.out hgg) (fun e => own_cur HOCd_9.out EU_9.out (by decide) g hgg (Option.some.inj e)))
            have HOPd_10 : Hid ((w10).ownsRow w.heap.size 67 2 (.slice oPd wsd.length pPd) wsd.length (flatWrite wsd)) := owns_same HOPd_9.out (fun g hgg => hg.block g (owns_lt HOPd_9.out hgg) (fun e => own_cur HOPd_9.out EU_9.out (by decide) g hgg (Option.some.inj e)))
            have HBv1_10 : Hid ((w10).heap[qv1]? = some (.cells #[.slice none 0 0, .slice none 0 0] 27)) := (hg.block _ (Array.getElem?_eq_some_iff.1 HBv1_9.out).1 (fun e => HNCv1.out (Option.some.inj e))).trans HBv1_9.out
            have HBv2_10 : Hid ((w10).heap[qv2]? = some (.cells #[.slice oCd csd.length pCd, .slice oPd wsd.length pPd] 27)) := (hg.block _ (Array.getElem?_eq_some_iff.1 HBv2_9.out).1 (fun e => HNCv2.out (Option.some.inj e))).trans HBv2_9.out
            have HBN6_10 : Hid ((w10).heap[qN6]? = some (.cells #[.slice none 0 0, .slice none 0 0] 27)) := (hg.block _ (Array.getElem?_eq_some_iff.1 HBN6_9.out).1 (fun e => HNCN6.out (Option.some.inj e))).trans HBN6_9.out
            have HBv3_10 : Hid ((w10).heap[qv3]? = some (.cells #[.string ⟨#[]⟩, .string ⟨#[97]⟩, .string ⟨#[98]⟩, .string ⟨#[99, 99]⟩] 9)) := (hg.block _ (Array.getElem?_eq_some_iff.1 HBv3_9.out).1 (fun e => HNCv3.out (Option.some.inj e))).trans HBv3_9.out
            have EU_10 : Hid (CurAt w10 c a len cap) := hcu
            clear hb9 HOCd_9 HOPd_9 HBv1_9 HBv2_9 HBN6_9 HBv3_9 EU_9 hg hcu
            clear HBv3_10
            have hS10 : w10.heap[qv2]? = some (.cells #[.slice oCd csd.length pCd, .slice oPd wsd.length pPd] 27) := HBv2_10.out
            refine hK.out _ _ hS10 (fun _ => ?_)
            clear hK K hS9
            refine wpAnyH_ready (rs := [6]) (by kernel_rfl) (by simp) ?_
            refine AllReadyH.cons rfl (fun K hK => ?_) AllReadyH.nil
            go_simp
            refine (specPut_right _ _ csd wsd _ _ ⟨HOCd_10.out, HOPd_10.out⟩ HRd.out n12 x13 HXx13.out).mono ?_
            rintro e w11 ⟨vv1, vv2, csn, wsn, obn, rfl, ⟨ownCn, ownPn⟩, hrn, bw⟩
            obtain ⟨oCn, pCn, rfl⟩ := slice_of_owns ownCn
            obtain ⟨oPn, pPn, rfl⟩ := slice_of_owns ownPn
            have HRn : Hid (RightD csn wsn) := hrn
            clear hrn
            have hb11 : w.grownBy w11 (some c) := grown_then hb10 (grown_below bw _)
            have HM11 : Hid ((w10).heap.size ≤ (w11).heap.size) := bw.size
            have HOCd_11 : Hid ((w11).ownsRow w.heap.size 9 1 (.slice oCd csd.length pCd) csd.length (csd.map Value.string)) := owns_below HOCd_10.out bw (fun g hg => owns_lt HOCd_10.out hg)
            have HOPd_11 : Hid ((w11).ownsRow w.heap.size 67 2 (.slice oPd wsd.length pPd) wsd.length (flatWrite wsd)) := owns_below HOPd_10.out bw (fun g hg => owns_lt HOPd_10.out hg)
            have HBv1_11 : Hid ((w11).heap[qv1]? = some (.cells #[.slice none 0 0, .slice none 0 0] 27)) := blk_below HBv1_10.out bw
            have HBv2_11 : Hid ((w11).heap[qv2]? = some (.cells #[.slice oCd csd.length pCd, .slice oPd wsd.length pPd] 27)) := blk_below HBv2_10.out bw
            have HBN6_11 : Hid ((w11).heap[qN6]? = some (.cells #[.slice none 0 0, .slice none 0 0] 27)) := blk_below HBN6_10.out bw
            have EU_11 : Hid (CurAt w11 c a len cap) := EU_10.out.below bw EU_10.out.lt
            have HOCn_11 : Hid ((w11).ownsRow w.heap.size 9 1 (.slice oCn csn.length pCn) csn.length (csn.map Value.string)) := owns_wide ownCn hb10.size
            have LOCn : Hid (∀ g, (Value.ownBlock (.slice oCn csn.length pCn)) = some g → (w10).heap.size ≤ g) := fun g hg => owns_ge ownCn hg
            have HICn : Hid (∀ g, (Value.ownBlock (.slice oCn csn.length pCn)) = some g → g < (w11).heap.size) := fun g hg => owns_lt ownCn hg
            clear ownCn
            have HOPn_11 : Hid ((w11).ownsRow w.heap.size 67 2 (.slice oPn wsn.length pPn) wsn.length (flatWrite wsn)) := owns_wide ownPn hb10.size
            have LOPn : Hid (∀ g, (Value.ownBlock (.slice oPn wsn.length pPn)) = some g → (w10).heap.size ≤ g) := fun g hg => owns_ge ownPn hg
            have HIPn : Hid (∀ g, (Value.ownBlock (.slice oPn wsn.length pPn)) = some g → g < (w11).heap.size) := fun g hg => owns_lt ownPn hg
            clear ownPn
            clear hb10 HOCd_10 HOPd_10 HBv1_10 HBv2_10 HBN6_10 EU_10 bw
            have hS11 : w11.heap[qv2]? = some (.cells #[.slice oCd csd.length pCd, .slice oPd wsd.length pPd] 27) := HBv2_11.out
            refine hK.out _ _ hS11 (fun _ => ?_)
            clear hK K hS10
            refine wpAnyH_takeD (i := 7) (v := .tuple #[.agg #[.slice oCn csn.length pCn, .slice oPn wsn.length pPn], .bool obn]) (some 16) rfl rfl (by kernel_rfl) (by kernel_rfl) (by kernel_rfl) (fun _ _ _ h => h) (Or.inl ⟨by rfl, by intro W _; go_simp⟩) hS11 ?_
            simp only [Act.put, List.setIfInBounds_toArray, List.set_cons_zero, List.set_cons_succ]
            refine wpAnyH_takeD (i := 8) (v := .agg #[.slice oCn csn.length pCn, .slice oPn wsn.length pPn]) (some 24) rfl rfl (by kernel_rfl) (by kernel_rfl) (by kernel_rfl) (fun _ _ _ h => h) (Or.inl ⟨by rfl, by intro W _; go_simp⟩) hS11 ?_
            simp only [Act.put, List.setIfInBounds_toArray, List.set_cons_zero, List.set_cons_succ]
            refine wpAnyH_takeD (i := 9) (v := .bool obn) (some 25) rfl rfl (by kernel_rfl) (by kernel_rfl) (by kernel_rfl) (fun _ _ _ h => h) (Or.inl ⟨by rfl, by intro W _; go_simp⟩) hS11 ?_
            simp only [Act.put, List.setIfInBounds_toArray, List.set_cons_zero, List.set_cons_succ]
            refine wpAnyH_ready (rs := [11]) (by kernel_rfl) (by simp) ?_
            refine AllReadyH.cons rfl (fun K hK => ?_) AllReadyH.nil
            have ce0 : (w11).cell? ⟨qN6, 0, none⟩ = some (.slice none 0 0) := (cell_of HBN6_11.out 0).trans rfl
            have fe0 : (w11).frozen? ⟨qN6, 0, none⟩ = false := frozen_of HBN6_11.out 0
            have ce1 : (w11).cell? ⟨qN6, 1, none⟩ = some (.slice none 0 0) := (cell_of HBN6_11.out 1).trans rfl
            have fe1 : (w11).frozen? ⟨qN6, 1, none⟩ = false := frozen_of HBN6_11.out 1
            obtain ⟨w12, hY⟩ : ∃ Y, Y = ((w11.setCell ⟨qN6, 0, none⟩ (.slice oCn csn.length pCn)).setCell ⟨qN6, 1, none⟩ (.slice oPn wsn.length pPn)) := ⟨_, rfl⟩
            have HY : Hid (((w11.setCell ⟨qN6, 0, none⟩ (.slice oCn csn.length pCn)).setCell ⟨qN6, 1, none⟩ (.slice oPn wsn.length pPn)) = w12) := hY.symm
            have hb12 : w.grownBy w12 (some c) := by rw [hY]; exact (grown_own (grown_own hb11 HGN6.out 0 _) HGN6.out 1 _)
            have HM12 : Hid ((w11).heap.size ≤ w12.heap.size) := by show _ ≤ _; rw [hY]; simp
            have HOCd_12 : Hid ((w12).ownsRow w.heap.size 9 1 (.slice oCd csd.length pCd) csd.length (csd.map Value.string)) := by show World.ownsRow _ _ _ _ _ _ _; rw [hY]; exact owns_same HOCd_11.out (fun g hg => by have hne := own_ne HOCd_11.out HBN6_11.out (by decide) g hg; rw [heap_setCell_other _ _ g _ hne, heap_setCell_other _ _ g _ hne])
            have HOPd_12 : Hid ((w12).ownsRow w.heap.size 67 2 (.slice oPd wsd.length pPd) wsd.length (flatWrite wsd)) := by show World.ownsRow _ _ _ _ _ _ _; rw [hY]; exact owns_same HOPd_11.out (fun g hg => by have hne := own_ne HOPd_11.out HBN6_11.out (by decide) g hg; rw [heap_setCell_other _ _ g _ hne, heap_setCell_other _ _ g _ hne])
            have HOCn_12 : Hid ((w12).ownsRow w.heap.size 9 1 (.slice oCn csn.length pCn) csn.length (csn.map Value.string)) := by show World.ownsRow _ _ _ _ _ _ _; rw [hY]; exact owns_same HOCn_11.out (fun g hg => by have hne := own_ne HOCn_11.out HBN6_11.out (by decide) g hg; rw [heap_setCell_other _ _ g _ hne, heap_setCell_other _ _ g _ hne])
            have HOPn_12 : Hid ((w12).ownsRow w.heap.size 67 2 (.slice oPn wsn.length pPn) wsn.length (flatWrite wsn)) := by show World.ownsRow _ _ _ _ _ _ _; rw [hY]; exact owns_same HOPn_11.out (fun g hg => by have hne := own_ne HOPn_11.out HBN6_11.out (by decide) g hg; rw [heap_setCell_other _ _ g _ hne, heap_setCell_other _ _ g _ hne])
            have HBv1_12 : Hid ((w12).heap[qv1]? = some (.cells #[.slice none 0 0, .slice none 0 0] 27)) := by show _ = _; rw [hY, heap_setCell_other _ _ _ _ HNv1N6.out, heap_setCell_other _ _ _ _ HNv1N6.out]; exact HBv1_11.out
            have HBv2_12 : Hid ((w12).heap[qv2]? = some (.cells #[.slice oCd csd.length pCd, .slice oPd wsd.length pPd] 27)) := by show _ = _; rw [hY, heap_setCell_other _ _ _ _ HNv2N6.out, heap_setCell_other _ _ _ _ HNv2N6.out]; exact HBv2_11.out
            have EU_12 : Hid (CurAt w12 c a len cap) := by show CurAt _ _ _ _ _; rw [hY]; exact (cur_set (cur_set EU_11.out HNCN6.out 0 _) HNCN6.out 1 _)
            have HBN6_12 : Hid ((w12).heap[qN6]? = some (.cells #[.slice oCn csn.length pCn, .slice oPn wsn.length pPn] 27)) := by show _ = _; rw [hY]; have h := (heap_set _ qN6 1 _ _ _ (.slice oPn wsn.length pPn) (heap_set _ qN6 0 _ _ _ (.slice oCn csn.length pCn) HBN6_11.out)); simpa using h
            clear hY hb11 HOCd_11 HOPd_11 HOCn_11 HOPn_11 HBv1_11 HBv2_11 HBN6_11 EU_11
            go_simp
            rw [HY.out]
            have hS12 : w12.heap[qv2]? = some (.cells #[.slice oCd csd.length pCd, .slice oPd wsd.length pPd] 27) := HBv2_12.out
            refine hK.out _ _ hS12 (fun _ => ?_)
            clear hK K HY hS11 ce0 fe0 ce1 fe1
            refine wpAnyH_takeD (i := 12) (v := .bool obn) (some 7) rfl rfl (by kernel_rfl) (by kernel_rfl) (by kernel_rfl) (fun _ _ _ h => h) (Or.inl ⟨by rfl, by intro W _; go_simp⟩) hS12 ?_
            simp only [Act.put, List.setIfInBounds_toArray, List.set_cons_zero, List.set_cons_succ]
            clear hS12
            refine wpAnyH_done (by kernel_rfl) ?_ _
            go_wp2_with fail
            go_meet
            exact ⟨qN6, csn, wsn, oCn, pCn, oPn, pPn, obn, rfl, rfl, HRn, ⟨hb12, EU_12.out, HBv1_12.out, HBv2_12.out, HOCd_12.out, HOPd_12.out, HBN6_12.out, HOCn_12.out, HOPn_12.out, HGN6.out, HNCN6.out, HNv1N6.out, HNv2N6.out⟩⟩
        · go_simp
          have bw : Below w6.heap.size w6 (w6.alloc (.cells #[.string ⟨#[]⟩, .string ⟨#[97]⟩, .string ⟨#[98]⟩, .string ⟨#[99, 99]⟩] 9)) := (Below.refl _ _).alloc (Nat.le_refl _) _
          have hSA : (w6.alloc (.cells #[.string ⟨#[]⟩, .string ⟨#[97]⟩, .string ⟨#[98]⟩, .string ⟨#[99, 99]⟩] 9)).heap[qv2]? = some (.cells #[.slice oCd csd.length pCd, .slice oPd wsd.length pPd] 27) := blk_below HBv2_6.out bw
          refine hK.out _ _ hSA (fun _ => ?_)
          clear hK K hSA bw hS6
          obtain ⟨qv3, hqv3⟩ : ∃ o, o = w6.heap.size := ⟨_, rfl⟩
          obtain ⟨w7, hXj⟩ : ∃ X, X = (w6.alloc (.cells #[.string ⟨#[]⟩, .string ⟨#[97]⟩, .string ⟨#[98]⟩, .string ⟨#[99, 99]⟩] 9)) := ⟨_, rfl⟩
          rw [← hqv3, ← hXj]
          have bw : Below w6.heap.size w6 w7 := by rw [hXj]; exact (Below.refl _ _).alloc (Nat.le_refl _) _
          have hb7 : w.grownBy w7 (some c) := grown_then hb6 (grown_below bw _)
          have HM7 : Hid ((w6).heap.size ≤ (w7).heap.size) := bw.size
          have HOCd_7 : Hid ((w7).ownsRow w.heap.size 9 1 (.slice oCd csd.length pCd) csd.length (csd.map Value.string)) := owns_below HOCd_6.out bw (fun g hg => owns_lt HOCd_6.out hg)
          have HOPd_7 : Hid ((w7).ownsRow w.heap.size 67 2 (.slice oPd wsd.length pPd) wsd.length (flatWrite wsd)) := owns_below HOPd_6.out bw (fun g hg => owns_lt HOPd_6.out hg)
          have HBv1_7 : Hid ((w7).heap[qv1]? = some (.cells #[.slice none 0 0, .slice none 0 0] 27)) := blk_below HBv1_6.out bw
          have HBv2_7 : Hid ((w7).heap[qv2]? = some (.cells #[.slice oCd csd.length pCd, .slice oPd wsd.length pPd] 27)) := blk_below HBv2_6.out bw
          have EU_7 : Hid (CurAt w7 c a len cap) := EU_6.out.below bw EU_6.out.lt
          have HNv1v3 : Hid (qv1 ≠ qv3) := fun e => by have h1 := (Array.getElem?_eq_some_iff.1 HBv1_6.out).1; omega
          have HNv2v3 : Hid (qv2 ≠ qv3) := fun e => by have h1 := (Array.getElem?_eq_some_iff.1 HBv2_6.out).1; omega
          have HNCv3 : Hid (qv3 ≠ c) := fun e => by have h1 := EU_6.out.lt; omega
          have HBv3_7 : Hid ((w7).heap[qv3]? = some (.cells #[.string ⟨#[]⟩, .string ⟨#[97]⟩, .string ⟨#[98]⟩, .string ⟨#[99, 99]⟩] 9)) := by show _ = _; rw [hXj, hqv3]; exact heap_alloc_new _ _
          have HGv3 : Hid (w.heap.size ≤ qv3) := by show _ ≤ _; rw [hqv3]; exact hb6.size
          have hS7 : w7.heap[qv2]? = some (.cells #[.slice oCd csd.length pCd, .slice oPd wsd.length pPd] 27) := HBv2_7.out
          clear hb6 HOCd_6 HOPd_6 HBv1_6 HBv2_6 EU_6 bw hXj hqv3
          refine wpAnyH_ready (rs := [2, 10]) (by kernel_rfl) (by simp) ?_
          refine AllReadyH.cons rfl (fun K hK => ?_) (AllReadyH.cons rfl (fun K hK => ?_) AllReadyH.nil)
          · go_simp
            refine (l1Below_any c B 20 a len cap zs _ EU_7.out (HCO.out _ hb7) HBC.out (by decide) (by decide)).mono ?_
            rintro e w8 ⟨n12, rfl, hn012, hn112, hcu, hg⟩
            have hb8 : w.grownBy w8 (some c) := grown_then hb7 hg
            have HM8 : Hid ((w7).heap.size ≤ (w8).heap.size) := hg.size
            have HOCd_8 : Hid ((w8).ownsRow w.heap.size 9 1 (.slice oCd csd.length pCd) csd.length (csd.map Value.string)) := owns_same HOCd_7.out (fun g hgg => hg.block g (owns_lt HOCd_7.out hgg) (fun e => own_cur HOCd_7.out EU_7.out (by decide) g hgg (Option.some.inj e)))
            have HOPd_8 : Hid ((w8).ownsRow w.heap.size 67 2 (.slice oPd wsd.length pPd) wsd.length (flatWrite wsd)) := owns_same HOPd_7.out (fun g hgg => hg.block g (owns_lt HOPd_7.out hgg) (fun e => own_cur HOPd_7.out EU_7.out (by decide) g hgg (Option.some.inj e)))
            have HBv1_8 : Hid ((w8).heap[qv1]? = some (.cells #[.slice none 0 0, .slice none 0 0] 27)) := (hg.block _ (Array.getElem?_eq_some_iff.1 HBv1_7.out).1 (fun e => HNCv1.out (Option.some.inj e))).trans HBv1_7.out
            have HBv2_8 : Hid ((w8).heap[qv2]? = some (.cells #[.slice oCd csd.length pCd, .slice oPd wsd.length pPd] 27)) := (hg.block _ (Array.getElem?_eq_some_iff.1 HBv2_7.out).1 (fun e => HNCv2.out (Option.some.inj e))).trans HBv2_7.out
            have HBv3_8 : Hid ((w8).heap[qv3]? = some (.cells #[.string ⟨#[]⟩, .string ⟨#[97]⟩, .string ⟨#[98]⟩, .string ⟨#[99, 99]⟩] 9)) := (hg.block _ (Array.getElem?_eq_some_iff.1 HBv3_7.out).1 (fun e => HNCv3.out (Option.some.inj e))).trans HBv3_7.out
            have EU_8 : Hid (CurAt w8 c a len cap) := hcu
            clear hb7 HOCd_7 HOPd_7 HBv1_7 HBv2_7 HBv3_7 EU_7 hg hcu
            have hS8 : w8.heap[qv2]? = some (.cells #[.slice oCd csd.length pCd, .slice oPd wsd.length pPd] 27) := HBv2_8.out
            refine hK.out _ _ hS8 (fun _ => ?_)
            clear hK K hS7
            refine wpAnyH_ready (rs := [5, 10]) (by kernel_rfl) (by simp) ?_
            refine AllReadyH.cons rfl (fun K hK => ?_) (AllReadyH.cons rfl (fun K hK => ?_) AllReadyH.nil)
            · go_simp
              have HLS : Hid (ListAt w8 qv3 4 (textAt [⟨#[]⟩, ⟨#[97]⟩, ⟨#[98]⟩, ⟨#[99, 99]⟩])) := by
                intro j hj
                match j, hj with
                | 0, _ => exact (cell_of HBv3_8.out 0).trans rfl
                | 1, _ => exact (cell_of HBv3_8.out 1).trans rfl
                | 2, _ => exact (cell_of HBv3_8.out 2).trans rfl
                | 3, _ => exact (cell_of HBv3_8.out 3).trans rfl
              refine (l1Pick_any c B qv3 4 (textAt [⟨#[]⟩, ⟨#[97]⟩, ⟨#[98]⟩, ⟨#[99, 99]⟩]) a len cap zs _ EU_8.out (HCO.out _ hb8) HBC.out (by decide) (by decide) HLS.out HNCv3.out).mono ?_
              rintro e w9 ⟨jx, hjx, rfl, hcu, hg⟩
              obtain ⟨x13, hx13⟩ : ∃ x, x = textAt [⟨#[]⟩, ⟨#[97]⟩, ⟨#[98]⟩, ⟨#[99, 99]⟩] jx := ⟨_, rfl⟩
              rw [← hx13]
              have HXx13 : Hid (x13.size ≤ 64) := by show _ ≤ _; rw [hx13]; exact (show ∀ j, j < 4 → (textAt [⟨#[]⟩, ⟨#[97]⟩, ⟨#[98]⟩, ⟨#[99, 99]⟩] j).size ≤ 64 by decide) jx hjx
              clear hx13 hjx HLS
              have hb9 : w.grownBy w9 (some c) := grown_then hb8 hg
              have HM9 : Hid ((w8).heap.size ≤ (w9).heap.size) := hg.size
              have HOCd_9 : Hid ((w9).ownsRow w.heap.size 9 1 (.slice oCd csd.length pCd) csd.length (csd.map Value.string)) := owns_same HOCd_8.out (fun g hgg => hg.block g (owns_lt HOCd_8.out hgg) (fun e => own_cur HOCd_8.out EU_8.out (by decide) g hgg (Option.some.inj e)))
              have HOPd_9 : Hid ((w9).ownsRow w.heap.size 67 2 (.slice oPd wsd.length pPd) wsd.length (flatWrite wsd)) := owns_same HOPd_8.out (fun g hgg => hg.block g (owns_lt HOPd_8.out hgg) (fun e => own_cur HOPd_8.out EU_8.out (by decide) g hgg (Option.some.inj e)))
              have HBv1_9 : Hid ((w9).heap[qv1]? = some (.cells #[.slice none 0 0, .slice none 0 0] 27)) := (hg.block _ (Array.getElem?_eq_some_iff.1 HBv1_8.out).1 (fun e => HNCv1.out (Option.some.inj e))).trans HBv1_8.out
              have HBv2_9 : Hid ((w9).heap[qv2]? = some (.cells #[.slice oCd csd.length pCd, .slice oPd wsd.length pPd] 27)) := (hg.block _ (Array.getElem?_eq_some_iff.1 HBv2_8.out).1 (fun e => HNCv2.out (Option.some.inj e))).trans HBv2_8.out
              have HBv3_9 : Hid ((w9).heap[qv3]? = some (.cells #[.string ⟨#[]⟩, .string ⟨#[97]⟩, .string ⟨#[98]⟩, .string ⟨#[99, 99]⟩] 9)) := (hg.block _ (Array.getElem?_eq_some_iff.1 HBv3_8.out).1 (fun e => HNCv3.out (Option.some.inj e))).trans HBv3_8.out
              have EU_9 : Hid (CurAt w9 c a len cap) := hcu
              clear hb8 HOCd_8 HOPd_8 HBv1_8 HBv2_8 HBv3_8 EU_8 hg hcu
              clear HBv3_9
              have hS9 : w9.heap[qv2]? = some (.cells #[.slice oCd csd.length pCd, .slice oPd wsd.length pPd] 27) := HBv2_9.out
              refine hK.out _ _ hS9 (fun _ => ?_)
              clear hK K hS8
              refine wpAnyH_ready (rs := [6, 10]) (by kernel_rfl) (by simp) ?_
              refine AllReadyH.cons rfl (fun K hK => ?_) (AllReadyH.cons rfl (fun K hK => ?_) AllReadyH.nil)
              · go_simp
                refine (specPut_right _ _ csd wsd _ _ ⟨HOCd_9.out, HOPd_9.out⟩ HRd.out n12 x13 HXx13.out).mono ?_
                rintro e w10 ⟨vv1, vv2, csn, wsn, obn, rfl, ⟨ownCn, ownPn⟩, hrn, bw⟩
                obtain ⟨oCn, pCn, rfl⟩ := slice_of_owns ownCn
                obtain ⟨oPn, pPn, rfl⟩ := slice_of_owns ownPn
                have HRn : Hid (RightD csn wsn) := hrn
                clear hrn
                have hb10 : w.grownBy w10 (some c) := grown_then hb9 (grown_below bw _)
                have HM10 : Hid ((w9).heap.size ≤ (w10).heap.size) := bw.size
                have HOCd_10 : Hid ((w10).ownsRow w.heap.size 9 1 (.slice oCd csd.length pCd) csd.length (csd.map Value.string)) := owns_below HOCd_9.out bw (fun g hg => owns_lt HOCd_9.out hg)
                have HOPd_10 : Hid ((w10).ownsRow w.heap.size 67 2 (.slice oPd wsd.length pPd) wsd.length (flatWrite wsd)) := owns_below HOPd_9.out bw (fun g hg => owns_lt HOPd_9.out hg)
                have HBv1_10 : Hid ((w10).heap[qv1]? = some (.cells #[.slice none 0 0, .slice none 0 0] 27)) := blk_below HBv1_9.out bw
                have HBv2_10 : Hid ((w10).heap[qv2]? = some (.cells #[.slice oCd csd.length pCd, .slice oPd wsd.length pPd] 27)) := blk_below HBv2_9.out bw
                have EU_10 : Hid (CurAt w10 c a len cap) := EU_9.out.below bw EU_9.out.lt
                have HOCn_10 : Hid ((w10).ownsRow w.heap.size 9 1 (.slice oCn csn.length pCn) csn.length (csn.map Value.string)) := owns_wide ownCn hb9.size
                have LOCn : Hid (∀ g, (Value.ownBlock (.slice oCn csn.length pCn)) = some g → (w9).heap.size ≤ g) := fun g hg => owns_ge ownCn hg
                have HICn : Hid (∀ g, (Value.ownBlock (.slice oCn csn.length pCn)) = some g → g < (w10).heap.size) := fun g hg => owns_lt ownCn hg
                clear ownCn
                have HOPn_10 : Hid ((w10).ownsRow w.heap.size 67 2 (.slice oPn wsn.length pPn) wsn.length (flatWrite wsn)) := owns_wide ownPn hb9.size
                have LOPn : Hid (∀ g, (Value.ownBlock (.slice oPn wsn.length pPn)) = some g → (w9).heap.size ≤ g) := fun g hg => owns_ge ownPn hg
                have HIPn : Hid (∀ g, (Value.ownBlock (.slice oPn wsn.length pPn)) = some g → g < (w10).heap.size) := fun g hg => owns_lt ownPn hg
                clear ownPn
                clear hb9 HOCd_9 HOPd_9 HBv1_9 HBv2_9 EU_9 bw
                have hS10 : w10.heap[qv2]? = some (.cells #[.slice oCd csd.length pCd, .slice oPd wsd.length pPd] 27) := HBv2_10.out
                refine hK.out _ _ hS10 (fun _ => ?_)
                clear hK K hS9
                refine wpAnyH_takeD (i := 7) (v := .tuple #[.agg #[.slice oCn csn.length pCn, .slice oPn wsn.length pPn], .bool obn]) (some 16) rfl rfl (by kernel_rfl) (by kernel_rfl) (by kernel_rfl) (fun _ _ _ h => h) (Or.inl ⟨by rfl, by intro W _; go_simp⟩) hS10 ?_
                simp only [Act.put, List.setIfInBounds_toArray, List.set_cons_zero, List.set_cons_succ]
                refine wpAnyH_takeD (i := 8) (v := .agg #[.slice oCn csn.length pCn, .slice oPn wsn.length pPn]) (some 24) rfl rfl (by kernel_rfl) (by kernel_rfl) (by kernel_rfl) (fun _ _ _ h => h) (Or.inl ⟨by rfl, by intro W _; go_simp⟩) hS10 ?_
                simp only [Act.put, List.setIfInBounds_toArray, List.set_cons_zero, List.set_cons_succ]
                refine wpAnyH_takeD (i := 9) (v := .bool obn) (some 25) rfl rfl (by kernel_rfl) (by kernel_rfl) (by kernel_rfl) (fun _ _ _ h => h) (Or.inl ⟨by rfl, by intro W _; go_simp⟩) hS10 ?_
                simp only [Act.put, List.setIfInBounds_toArray, List.set_cons_zero, List.set_cons_succ]
                refine wpAnyH_ready (rs := [10]) (by kernel_rfl) (by simp) ?_
                refine AllReadyH.cons rfl (fun K hK => ?_) AllReadyH.nil
                go_simp
                have bw : Below w10.heap.size w10 (w10.alloc (.cells #[.slice none 0 0, .slice none 0 0] 27)) := (Below.refl _ _).alloc (Nat.le_refl _) _
                have hSA : (w10.alloc (.cells #[.slice none 0 0, .slice none 0 0] 27)).heap[qv2]? = some (.cells #[.slice oCd csd.length pCd, .slice oPd wsd.length pPd] 27) := blk_below HBv2_10.out bw
                refine hK.out _ _ hSA (fun _ => ?_)
                clear hK K hSA bw hS10
                obtain ⟨qN6, hqN6⟩ : ∃ o, o = w10.heap.size := ⟨_, rfl⟩
                obtain ⟨w11, hXj⟩ : ∃ X, X = (w10.alloc (.cells #[.slice none 0 0, .slice none 0 0] 27)) := ⟨_, rfl⟩
                rw [← hqN6, ← hXj]
                have bw : Below w10.heap.size w10 w11 := by rw [hXj]; exact (Below.refl _ _).alloc (Nat.le_refl _) _
                have hb11 : w.grownBy w11 (some c) := grown_then hb10 (grown_below bw _)
                have HM11 : Hid ((w10).heap.size ≤ (w11).heap.size) := bw.size
                have HOCd_11 : Hid ((w11).ownsRow w.heap.size 9 1 (.slice oCd csd.length pCd) csd.length (csd.map Value.string)) := owns_below HOCd_10.out bw (fun g hg => owns_lt HOCd_10.out hg)
                have HOPd_11 : Hid ((w11).ownsRow w.heap.size 67 2 (.slice oPd wsd.length pPd) wsd.length (flatWrite wsd)) := owns_below HOPd_10.out bw (fun g hg => owns_lt HOPd_10.out hg)
                have HOCn_11 : Hid ((w11).ownsRow w.heap.size 9 1 (.slice oCn csn.length pCn) csn.length (csn.map Value.string)) := owns_below HOCn_10.out bw (fun g hg => owns_lt HOCn_10.out hg)
                have HOPn_11 : Hid ((w11).ownsRow w.heap.size 67 2 (.slice oPn wsn.length pPn) wsn.length (flatWrite wsn)) := owns_below HOPn_10.out bw (fun g hg => owns_lt HOPn_10.out hg)
                have HBv1_11 : Hid ((w11).heap[qv1]? = some (.cells #[.slice none 0 0, .slice none 0 0] 27)) := blk_below HBv1_10.out bw
                have HBv2_11 : Hid ((w11).heap[qv2]? = some (.cells #[.slice oCd csd.length pCd, .slice oPd wsd.length pPd] 27)) := blk_below HBv2_10.out bw
                have EU_11 : Hid (CurAt w11 c a len cap) := EU_10.out.below bw EU_10.out.lt
                have HNv1N6 : Hid (qv1 ≠ qN6) := fun e => by have h1 := (Array.getElem?_eq_some_iff.1 HBv1_10.out).1; omega
                have HNv2N6 : Hid (qv2 ≠ qN6) := fun e => by have h1 := (Array.getElem?_eq_some_iff.1 HBv2_10.out).1; omega
                have HNCN6 : Hid (qN6 ≠ c) := fun e => by have h1 := EU_10.out.lt; omega
                have HBN6_11 : Hid ((w11).heap[qN6]? = some (.cells #[.slice none 0 0, .slice none 0 0] 27)) := by show _ = _; rw [hXj, hqN6]; exact heap_alloc_new _ _
                have HGN6 : Hid (w.heap.size ≤ qN6) := by show _ ≤ _; rw [hqN6]; exact hb10.size
                have hS11 : w11.heap[qv2]? = some (.cells #[.slice oCd csd.length pCd, .slice oPd wsd.length pPd] 27) := HBv2_11.out
                clear hb10 HOCd_10 HOPd_10 HOCn_10 HOPn_10 HBv1_10 HBv2_10 EU_10 bw hXj hqN6
                refine wpAnyH_ready (rs := [11]) (by kernel_rfl) (by simp) ?_
                refine AllReadyH.cons rfl (fun K hK => ?_) AllReadyH.nil
                have ce0 : (w11).cell? ⟨qN6, 0, none⟩ = some (.slice none 0 0) := (cell_of HBN6_11.out 0).trans rfl
                have fe0 : (w11).frozen? ⟨qN6, 0, none⟩ = false := frozen_of HBN6_11.out 0
                have ce1 : (w11).cell? ⟨qN6, 1, none⟩ = some (.slice none 0 0) := (cell_of HBN6_11.out 1).trans rfl
                have fe1 : (w11).frozen? ⟨qN6, 1, none⟩ = false := frozen_of HBN6_11.out 1
                obtain ⟨w12, hY⟩ : ∃ Y, Y = ((w11.setCell ⟨qN6, 0, none⟩ (.slice oCn csn.length pCn)).setCell ⟨qN6, 1, none⟩ (.slice oPn wsn.length pPn)) := ⟨_, rfl⟩
                have HY : Hid (((w11.setCell ⟨qN6, 0, none⟩ (.slice oCn csn.length pCn)).setCell ⟨qN6, 1, none⟩ (.slice oPn wsn.length pPn)) = w12) := hY.symm
                have hb12 : w.grownBy w12 (some c) := by rw [hY]; exact (grown_own (grown_own hb11 HGN6.out 0 _) HGN6.out 1 _)
                have HM12 : Hid ((w11).heap.size ≤ w12.heap.size) := by show _ ≤ _; rw [hY]; simp
                have HOCd_12 : Hid ((w12).ownsRow w.heap.size 9 1 (.slice oCd csd.length pCd) csd.length (csd.map Value.string)) := by show World.ownsRow _ _ _ _ _ _ _; rw [hY]; exact owns_same HOCd_11.out (fun g hg => by have hne := own_ne HOCd_11.out HBN6_11.out (by decide) g hg; rw [heap_setCell_other _ _ g _ hne, heap_setCell_other _ _ g _ hne])
                have HOPd_12 : Hid ((w12).ownsRow w.heap.size 67 2 (.slice oPd wsd.length pPd) wsd.length (flatWrite wsd)) := by show World.ownsRow _ _ _ _ _ _ _; rw [hY]; exact owns_same HOPd_11.out (fun g hg => by have hne := own_ne HOPd_11.out HBN6_11.out (by decide) g hg; rw [heap_setCell_other _ _ g _ hne, heap_setCell_other _ _ g _ hne])
                have HOCn_12 : Hid ((w12).ownsRow w.heap.size 9 1 (.slice oCn csn.length pCn) csn.length (csn.map Value.string)) := by show World.ownsRow _ _ _ _ _ _ _; rw [hY]; exact owns_same HOCn_11.out (fun g hg => by have hne := own_ne HOCn_11.out HBN6_11.out (by decide) g hg; rw [heap_setCell_other _ _ g _ hne, heap_setCell_other _ _ g _ hne])
                have HOPn_12 : Hid ((w12).ownsRow w.heap.size 67 2 (.slice oPn wsn.length pPn) wsn.length (flatWrite wsn)) := by show World.ownsRow _ _ _ _ _ _ _; rw [hY]; exact owns_same HOPn_11.out (fun g hg => by have hne := own_ne HOPn_11.out HBN6_11.out (by decide) g hg; rw [heap_setCell_other _ _ g _ hne, heap_setCell_other _ _ g _ hne])
                have HBv1_12 : Hid ((w12).heap[qv1]? = some (.cells #[.slice none 0 0, .slice none 0 0] 27)) := by show _ = _; rw [hY, heap_setCell_other _ _ _ _ HNv1N6.out, heap_setCell_other _ _ _ _ HNv1N6.out]; exact HBv1_11.out
                have HBv2_12 : Hid ((w12).heap[qv2]? = some (.cells #[.slice oCd csd.length pCd, .slice oPd wsd.length pPd] 27)) := by show _ = _; rw [hY, heap_setCell_other _ _ _ _ HNv2N6.out, heap_setCell_other _ _ _ _ HNv2N6.out]; exact HBv2_11.out
                have EU_12 : Hid (CurAt w12 c a len cap) := by show CurAt _ _ _ _ _; rw [hY]; exact (cur_set (cur_set EU_11.out HNCN6.out 0 _) HNCN6.out 1 _)
                have HBN6_12 : Hid ((w12).heap[qN6]? = some (.cells #[.slice oCn csn.length pCn, .slice oPn wsn.length pPn] 27)) := by show _ = _; rw [hY]; have h := (heap_set _ qN6 1 _ _ _ (.slice oPn wsn.length pPn) (heap_set _ qN6 0 _ _ _ (.slice oCn csn.length pCn) HBN6_11.out)); simpa using h
                clear hY hb11 HOCd_11 HOPd_11 HOCn_11 HOPn_11 HBv1_11 HBv2_11 HBN6_11 EU_11
                go_simp
                rw [HY.out]
                have hS12 : w12.heap[qv2]? = some (.cells #[.slice oCd csd.length pCd, .slice oPd wsd.length pPd] 27) := HBv2_12.out
                refine hK.out _ _ hS12 (fun _ => ?_)
                clear hK K HY hS11 ce0 fe0 ce1 fe1
                refine wpAnyH_takeD (i := 12) (v := .bool obn) (some 7) rfl rfl (by kernel_rfl) (by kernel_rfl) (by kernel_rfl) (fun _ _ _ h => h) (Or.inl ⟨by rfl, by intro W _; go_simp⟩) hS12 ?_
                simp only [Act.put, List.setIfInBounds_toArray, List.set_cons_zero, List.set_cons_succ]
                clear hS12
                refine wpAnyH_done (by kernel_rfl) ?_ _
                go_wp2_with fail
                go_meet
                exact ⟨qN6, csn, wsn, oCn, pCn, oPn, pPn, obn, rfl, rfl, HRn, ⟨hb12, EU_12.out, HBv1_12.out, HBv2_12.out, HOCd_12.out, HOPd_12.out, HBN6_12.out, HOCn_12.out, HOPn_12.out, HGN6.out, HNCN6.out, HNv1N6.out, HNv2N6.out⟩⟩
              · go_simp
                have bw : Below w9.heap.size w9 (w9.alloc (.cells #[.slice none 0 0, .slice none 0 0] 27)) := (Below.refl _ _).alloc (Nat.le_refl _) _
                have hSA : (w9.alloc (.cells #[.slice none 0 0, .slice none 0 0] 27)).heap[qv2]? = some (.cells #[.slice oCd csd.length pCd, .slice oPd wsd.length pPd] 27) := blk_below HBv2_9.out bw
                refine hK.out _ _ hSA (fun _ => ?_)
                clear hK K hSA bw hS9
                obtain ⟨qN6, hqN6⟩ : ∃ o, o = w9.heap.size := ⟨_, rfl⟩
                obtain ⟨w10, hXj⟩ : ∃ X, X = (w9.alloc (.cells #[.slice none 0 0, .slice none 0 0] 27)) := ⟨_, rfl⟩
                rw [← hqN6, ← hXj]
                have bw : Below w9.heap.size w9 w10 := by rw [hXj]; exact (Below.refl _ _).alloc (Nat.le_refl _) _
                have hb10 : w.grownBy w10 (some c) := grown_then hb9 (grown_below bw _)
                have HM10 : Hid ((w9).heap.size ≤ (w10).heap.size) := bw.size
                have HOCd_10 : Hid ((w10).ownsRow w.heap.size 9 1 (.slice oCd csd.length pCd) csd.length (csd.map Value.string)) := owns_below HOCd_9.out bw (fun g hg => owns_lt HOCd_9.out hg)
                have HOPd_10 : Hid ((w10).ownsRow w.heap.size 67 2 (.slice oPd wsd.length pPd) wsd.length (flatWrite wsd)) := owns_below HOPd_9.out bw (fun g hg => owns_lt HOPd_9.out hg)
                have HBv1_10 : Hid ((w10).heap[qv1]? = some (.cells #[.slice none 0 0, .slice none 0 0] 27)) := blk_below HBv1_9.out bw
                have HBv2_10 : Hid ((w10).heap[qv2]? = some (.cells #[.slice oCd csd.length pCd, .slice oPd wsd.length pPd] 27)) := blk_below HBv2_9.out bw
                have EU_10 : Hid (CurAt w10 c a len cap) := EU_9.out.below bw EU_9.out.lt
                have HNv1N6 : Hid (qv1 ≠ qN6) := fun e => by have h1 := (Array.getElem?_eq_some_iff.1 HBv1_9.out).1; omega
                have HNv2N6 : Hid (qv2 ≠ qN6) := fun e => by have h1 := (Array.getElem?_eq_some_iff.1 HBv2_9.out).1; omega
                have HNCN6 : Hid (qN6 ≠ c) := fun e => by have h1 := EU_9.out.lt; omega
                have HBN6_10 : Hid ((w10).heap[qN6]? = some (.cells #[.slice none 0 0, .slice none 0 0] 27)) := by show _ = _; rw [hXj, hqN6]; exact heap_alloc_new _ _
                have HGN6 : Hid (w.heap.size ≤ qN6) := by show _ ≤ _; rw [hqN6]; exact hb9.size
                have hS10 : w10.heap[qv2]? = some (.cells #[.slice oCd csd.length pCd, .slice oPd wsd.length pPd] 27) := HBv2_10.out
                clear hb9 HOCd_9 HOPd_9 HBv1_9 HBv2_9 EU_9 bw hXj hqN6
                refine wpAnyH_ready (rs := [6]) (by kernel_rfl) (by simp) ?_
                refine AllReadyH.cons rfl (fun K hK => ?_) AllReadyH.nil
                go_simp
                refine (specPut_right _ _ csd wsd _ _ ⟨HOCd_10.out, HOPd_10.out⟩ HRd.out n12 x13 HXx13.out).mono ?_
                rintro e w11 ⟨vv1, vv2, csn, wsn, obn, rfl, ⟨ownCn, ownPn⟩, hrn, bw⟩
                obtain ⟨oCn, pCn, rfl⟩ := slice_of_owns ownCn
                obtain ⟨oPn, pPn, rfl⟩ := slice_of_owns ownPn
                have HRn : Hid (RightD csn wsn) := hrn
                clear hrn
                have hb11 : w.grownBy w11 (some c) := grown_then hb10 (grown_below bw _)
                have HM11 : Hid ((w10).heap.size ≤ (w11).heap.size) := bw.size
                have HOCd_11 : Hid ((w11).ownsRow w.heap.size 9 1 (.slice oCd csd.length pCd) csd.length (csd.map Value.string)) := owns_below HOCd_10.out bw (fun g hg => owns_lt HOCd_10.out hg)
                have HOPd_11 : Hid ((w11).ownsRow w.heap.size 67 2 (.slice oPd wsd.length pPd) wsd.length (flatWrite wsd)) := owns_below HOPd_10.out bw (fun g hg => owns_lt HOPd_10.out hg)
                have HBv1_11 : Hid ((w11).heap[qv1]? = some (.cells #[.slice none 0 0, .slice none 0 0] 27)) := blk_below HBv1_10.out bw
                have HBv2_11 : Hid ((w11).heap[qv2]? = some (.cells #[.slice oCd csd.length pCd, .slice oPd wsd.length pPd] 27)) := blk_below HBv2_10.out bw
                have HBN6_11 : Hid ((w11).heap[qN6]? = some (.cells #[.slice none 0 0, .slice none 0 0] 27)) := blk_below HBN6_10.out bw
                have EU_11 : Hid (CurAt w11 c a len cap) := EU_10.out.below bw EU_10.out.lt
                have HOCn_11 : Hid ((w11).ownsRow w.heap.size 9 1 (.slice oCn csn.length pCn) csn.length (csn.map Value.string)) := owns_wide ownCn hb10.size
                have LOCn : Hid (∀ g, (Value.ownBlock (.slice oCn csn.length pCn)) = some g → (w10).heap.size ≤ g) := fun g hg => owns_ge ownCn hg
                have HICn : Hid (∀ g, (Value.ownBlock (.slice oCn csn.length pCn)) = some g → g < (w11).heap.size) := fun g hg => owns_lt ownCn hg
                clear ownCn
                have HOPn_11 : Hid ((w11).ownsRow w.heap.size 67 2 (.slice oPn wsn.length pPn) wsn.length (flatWrite wsn)) := owns_wide ownPn hb10.size
                have LOPn : Hid (∀ g, (Value.ownBlock (.slice oPn wsn.length pPn)) = some g → (w10).heap.size ≤ g) := fun g hg => owns_ge ownPn hg
                have HIPn : Hid (∀ g, (Value.ownBlock (.slice oPn wsn.length pPn)) = some g → g < (w11).heap.size) := fun g hg => owns_lt ownPn hg
                clear ownPn
                clear hb10 HOCd_10 HOPd_10 HBv1_10 HBv2_10 HBN6_10 EU_10 bw
                have hS11 : w11.heap[qv2]? = some (.cells #[.slice oCd csd.length pCd, .slice oPd wsd.length pPd] 27) := HBv2_11.out
                refine hK.out _ _ hS11 (fun _ => ?_)
                clear hK K hS10
                refine wpAnyH_takeD (i := 7) (v := .tuple #[.agg #[.slice oCn csn.length pCn, .slice oPn wsn.length pPn], .bool obn]) (some 16) rfl rfl (by kernel_rfl) (by kernel_rfl) (by kernel_rfl) (fun _ _ _ h => h) (Or.inl ⟨by rfl, by intro W _; go_simp⟩) hS11 ?_
                simp only [Act.put, List.setIfInBounds_toArray, List.set_cons_zero, List.set_cons_succ]
                refine wpAnyH_takeD (i := 8) (v := .agg #[.slice oCn csn.length pCn, .slice oPn wsn.length pPn]) (some 24) rfl rfl (by kernel_rfl) (by kernel_rfl) (by kernel_rfl) (fun _ _ _ h => h) (Or.inl ⟨by rfl, by intro W _; go_simp⟩) hS11 ?_
                simp only [Act.put, List.setIfInBounds_toArray, List.set_cons_zero, List.set_cons_succ]
                refine wpAnyH_takeD (i := 9) (v := .bool obn) (some 25) rfl rfl (by kernel_rfl) (by kernel_rfl) (by kernel_rfl) (fun _ _ _ h => h) (Or.inl ⟨by rfl, by intro W _; go_simp⟩) hS11 ?_
                simp only [Act.put, List.setIfInBounds_toArray, List.set_cons_zero, List.set_cons_succ]
                refine wpAnyH_ready (rs := [11]) (by kernel_rfl) (by simp) ?_
                refine AllReadyH.cons rfl (fun K hK => ?_) AllReadyH.nil
                have ce0 : (w11).cell? ⟨qN6, 0, none⟩ = some (.slice none 0 0) := (cell_of HBN6_11.out 0).trans rfl
                have fe0 : (w11).frozen? ⟨qN6, 0, none⟩ = false := frozen_of HBN6_11.out 0
                have ce1 : (w11).cell? ⟨qN6, 1, none⟩ = some (.slice none 0 0) := (cell_of HBN6_11.out 1).trans rfl
                have fe1 : (w11).frozen? ⟨qN6, 1, none⟩ = false := frozen_of HBN6_11.out 1
                obtain ⟨w12, hY⟩ : ∃ Y, Y = ((w11.setCell ⟨qN6, 0, none⟩ (.slice oCn csn.length pCn)).setCell ⟨qN6, 1, none⟩ (.slice oPn wsn.length pPn)) := ⟨_, rfl⟩
                have HY : Hid (((w11.setCell ⟨qN6, 0, none⟩ (.slice oCn csn.length pCn)).setCell ⟨qN6, 1, none⟩ (.slice oPn wsn.length pPn)) = w12) := hY.symm
                have hb12 : w.grownBy w12 (some c) := by rw [hY]; exact (grown_own (grown_own hb11 HGN6.out 0 _) HGN6.out 1 _)
                have HM12 : Hid ((w11).heap.size ≤ w12.heap.size) := by show _ ≤ _; rw [hY]; simp
                have HOCd_12 : Hid ((w12).ownsRow w.heap.size 9 1 (.slice oCd csd.length pCd) csd.length (csd.map Value.string)) := by show World.ownsRow _ _ _ _ _ _ _; rw [hY]; exact owns_same HOCd_11.out (fun g hg => by have hne := own_ne HOCd_11.out HBN6_11.out (by decide) g hg; rw [heap_setCell_other _ _ g _ hne, heap_setCell_other _ _ g _ hne])
                have HOPd_12 : Hid ((w12).ownsRow w.heap.size 67 2 (.slice oPd wsd.length pPd) wsd.length (flatWrite wsd)) := by show World.ownsRow _ _ _ _ _ _ _; rw [hY]; exact owns_same HOPd_11.out (fun g hg => by have hne := own_ne HOPd_11.out HBN6_11.out (by decide) g hg; rw [heap_setCell_other _ _ g _ hne, heap_setCell_other _ _ g _ hne])
                have HOCn_12 : Hid ((w12).ownsRow w.heap.size 9 1 (.slice oCn csn.length pCn) csn.length (csn.map Value.string)) := by show World.ownsRow _ _ _ _ _ _ _; rw [hY]; exact owns_same HOCn_11.out (fun g hg => by have hne := own_ne HOCn_11.out HBN6_11.out (by decide) g hg; rw [heap_setCell_other _ _ g _ hne, heap_setCell_other _ _ g _ hne])
                have HOPn_12 : Hid ((w12).ownsRow w.heap.size 67 2 (.slice oPn wsn.length pPn) wsn.length (flatWrite wsn)) := by show World.ownsRow _ _ _ _ _ _ _; rw [hY]; exact owns_same HOPn_11.out (fun g hg => by have hne := own_ne HOPn_11.out HBN6_11.out (by decide) g hg; rw [heap_setCell_other _ _ g _ hne, heap_setCell_other _ _ g _ hne])
                have HBv1_12 : Hid ((w12).heap[qv1]? = some (.cells #[.slice none 0 0, .slice none 0 0] 27)) := by show _ = _; rw [hY, heap_setCell_other _ _ _ _ HNv1N6.out, heap_setCell_other _ _ _ _ HNv1N6.out]; exact HBv1_11.out
                have HBv2_12 : Hid ((w12).heap[qv2]? = some (.cells #[.slice oCd csd.length pCd, .slice oPd wsd.length pPd] 27)) := by show _ = _; rw [hY, heap_setCell_other _ _ _ _ HNv2N6.out, heap_setCell_other _ _ _ _ HNv2N6.out]; exact HBv2_11.out
                have EU_12 : Hid (CurAt w12 c a len cap) := by show CurAt _ _ _ _ _; rw [hY]; exact (cur_set (cur_set EU_11.out HNCN6.out 0 _) HNCN6.out 1 _)
                have HBN6_12 : Hid ((w12).heap[qN6]? = some (.cells #[.slice oCn csn.length pCn, .slice oPn wsn.length pPn] 27)) := by show _ = _; rw [hY]; have h := (heap_set _ qN6 1 _ _ _ (.slice oPn wsn.length pPn) (heap_set _ qN6 0 _ _ _ (.slice oCn csn.length pCn) HBN6_11.out)); simpa using h
                clear hY hb11 HOCd_11 HOPd_11 HOCn_11 HOPn_11 HBv1_11 HBv2_11 HBN6_11 EU_11
                go_simp
                rw [HY.out]
                have hS12 : w12.heap[qv2]? = some (.cells #[.slice oCd csd.length pCd, .slice oPd wsd.length pPd] 27) := HBv2_12.out
                refine hK.out _ _ hS12 (fun _ => ?_)
                clear hK K HY hS11 ce0 fe0 ce1 fe1
                refine wpAnyH_takeD (i := 12) (v := .bool obn) (some 7) rfl rfl (by kernel_rfl) (by kernel_rfl) (by kernel_rfl) (fun _ _ _ h => h) (Or.inl ⟨by rfl, by intro W _; go_simp⟩) hS12 ?_
                simp only [Act.put, List.setIfInBounds_toArray, List.set_cons_zero, List.set_cons_succ]
                clear hS12
                refine wpAnyH_done (by kernel_rfl) ?_ _
                go_wp2_with fail
                go_meet
                exact ⟨qN6, csn, wsn, oCn, pCn, oPn, pPn, obn, rfl, rfl, HRn, ⟨hb12, EU_12.out, HBv1_12.out, HBv2_12.out, HOCd_12.out, HOPd_12.out, HBN6_12.out, HOCn_12.out, HOPn_12.out, HGN6.out, HNCN6.out, HNv1N6.out, HNv2N6.out⟩⟩
            · go_simp
              have bw : Below w8.heap.size w8 (w8.alloc (.cells #[.slice none 0 0, .slice none 0 0] 27)) := (Below.refl _ _).alloc (Nat.le_refl _) _
              have hSA : (w8.alloc (.cells #[.slice none 0 0, .slice none 0 0] 27)).heap[qv2]? = some (.cells #[.slice oCd csd.length pCd, .slice oPd wsd.length pPd] 27) := blk_below HBv2_8.out bw
              refine hK.out _ _ hSA (fun _ => ?_)
              clear hK K hSA bw hS8
              obtain ⟨qN6, hqN6⟩ : ∃ o, o = w8.heap.size := ⟨_, rfl⟩
              obtain ⟨w9, hXj⟩ : ∃ X, X = (w8.alloc (.cells #[.slice none 0 0, .slice none 0 0] 27)) := ⟨_, rfl⟩
              rw [← hqN6, ← hXj]
              have bw : Below w8.heap.size w8 w9 := by rw [hXj]; exact (Below.refl _ _).alloc (Nat.le_refl _) _
              have hb9 : w.grownBy w9 (some c) := grown_then hb8 (grown_below bw _)
              have HM9 : Hid ((w8).heap.size ≤ (w9).heap.size) := bw.size
              have HOCd_9 : Hid ((w9).ownsRow w.heap.size 9 1 (.slice oCd csd.length pCd) csd.length (csd.map Value.string)) := owns_below HOCd_8.out bw (fun g hg => owns_lt HOCd_8.out hg)
              have HOPd_9 : Hid ((w9).ownsRow w.heap.size 67 2 (.slice oPd wsd.length pPd) wsd.length (flatWrite wsd)) := owns_below HOPd_8.out bw (fun g hg => owns_lt HOPd_8.out hg)
              have HBv1_9 : Hid ((w9).heap[qv1]? = some (.cells #[.slice none 0 0, .slice none 0 0] 27)) := blk_below HBv1_8.out bw
              have HBv2_9 : Hid ((w9).heap[qv2]? = some (.cells #[.slice oCd csd.length pCd, .slice oPd wsd.length pPd] 27)) := blk_below HBv2_8.out bw
              have HBv3_9 : Hid ((w9).heap[qv3]? = some (.cells #[.string ⟨#[]⟩, .string ⟨#[97]⟩, .string ⟨#[98]⟩, .string ⟨#[99, 99]⟩] 9)) := blk_below HBv3_8.out bw
              have EU_9 : Hid (CurAt w9 c a len cap) := EU_8.out.below bw EU_8.out.lt
              have HNv1N6 : Hid (qv1 ≠ qN6) := fun e => by have h1 := (Array.getElem?_eq_some_iff.1 HBv1_8.out).1; omega
              have HNv2N6 : Hid (qv2 ≠ qN6) := fun e => by have h1 := (Array.getElem?_eq_some_iff.1 HBv2_8.out).1; omega
              have HNv3N6 : Hid (qv3 ≠ qN6) := fun e => by have h1 := (Array.getElem?_eq_some_iff.1 HBv3_8.out).1; omega
              have HNCN6 : Hid (qN6 ≠ c) := fun e => by have h1 := EU_8.out.lt; omega
              have HBN6_9 : Hid ((w9).heap[qN6]? = some (.cells #[.slice none 0 0, .slice none 0 0] 27)) := by show _ = _; rw [hXj, hqN6]; exact heap_alloc_new _ _
              have HGN6 : Hid (w.heap.size ≤ qN6) := by show _ ≤ _; rw [hqN6]; exact hb8.size
              have hS9 : w9.heap[qv2]? = some (.cells #[.slice oCd csd.length pCd, .slice oPd wsd.length pPd] 27) := HBv2_9.out
              clear hb8 HOCd_8 HOPd_8 HBv1_8 HBv2_8 HBv3_8 EU_8 bw hXj hqN6
              refine wpAnyH_ready (rs := [5]) (by kernel_rfl) (by simp) ?_
              refine AllReadyH.cons rfl (fun K hK => ?_) AllReadyH.nil
              go_simp
              have HLS : Hid (ListAt w9 qv3 4 (textAt [⟨#[]⟩, ⟨#[97]⟩, ⟨#[98]⟩, ⟨#[99, 99]⟩])) := by
                intro j hj
                match j, hj with
                | 0, _ => exact (cell_of HBv3_9.out 0).trans rfl
                | 1, _ => exact (cell_of HBv3_9.out 1).trans rfl
                | 2, _ => exact (cell_of HBv3_9.out 2).trans rfl
                | 3, _ => exact (cell_of HBv3_9.out 3).trans rfl
              refine (l1Pick_any c B qv3 4 (textAt [⟨#[]⟩, ⟨#[97]⟩, ⟨#[98]⟩, ⟨#[99, 99]⟩]) a len cap zs _ EU_9.out (HCO.out _ hb9) HBC.out (by decide) (by decide) HLS.out HNCv3.out).mono ?_
              rintro e w10 ⟨jx, hjx, rfl, hcu, hg⟩
              obtain ⟨x13, hx13⟩ : ∃ x, x = textAt [⟨#[]⟩, ⟨#[97]⟩, ⟨#[98]⟩, ⟨#[99, 99]⟩] jx := ⟨_, rfl⟩
              rw [← hx13]
              have HXx13 : Hid (x13.size ≤ 64) := by show _ ≤ _; rw [hx13]; exact (show ∀ j, j < 4 → (textAt [⟨#[]⟩, ⟨#[97]⟩, ⟨#[98]⟩, ⟨#[99, 99]⟩] j).size ≤ 64 by decide) jx hjx
              clear hx13 hjx HLS
              have hb10 : w.grownBy w10 (some c) := grown_then hb9 hg
              have HM10 : Hid ((w9).heap.size ≤ (w10).heap.size) := hg.size
              have HOCd_10 : Hid ((w10).ownsRow w.heap.size 9 1 (.slice oCd csd.length pCd) csd.length (csd.map Value.string)) := owns_same HOCd_9.out (fun g hgg => hg.block g (owns_lt HOCd_9.out hgg) (fun e => own_cur HOCd_9.out EU_9.out (by decide) g hgg (Option.some.inj e)))
              have HOPd_10 : Hid ((w10).ownsRow w.heap.size 67 2 (.slice oPd wsd.length pPd) wsd.length (flatWrite wsd)) := owns_same HOPd_9.out (fun g hgg => hg.block g (owns_lt HOPd_9.out hgg) (fun e => own_cur HOPd_9.out EU_9.out (by decide) g hgg (Option.some.inj e)))
              have HBv1_10 : Hid ((w10).heap[qv1]? = some (.cells #[.slice none 0 0, .slice none 0 0] 27)) := (hg.block _ (Array.getElem?_eq_some_iff.1 HBv1_9.out).1 (fun e => HNCv1.out (Option.some.inj e))).trans HBv1_9.out
              have HBv2_10 : Hid ((w10).heap[qv2]? = some (.cells #[.slice oCd csd.length pCd, .slice oPd wsd.length pPd] 27)) := (hg.block _ (Array.getElem?_eq_some_iff.1 HBv2_9.out).1 (fun e => HNCv2.out (Option.some.inj e))).trans HBv2_9.out
              have HBv3_10 : Hid ((w10).heap[qv3]? = some (.cells #[.string ⟨#[]⟩, .string ⟨#[97]⟩, .string ⟨#[98]⟩, .string ⟨#[99, 99]⟩] 9)) := (hg.block _ (Array.getElem?_eq_some_iff.1 HBv3_9.out).1 (fun e => HNCv3.out (Option.some.inj e))).trans HBv3_9.out
              have HBN6_10 : Hid ((w10).heap[qN6]? = some (.cells #[.slice none 0 0, .slice none 0 0] 27)) := (hg.block _ (Array.getElem?_eq_some_iff.1 HBN6_9.out).1 (fun e => HNCN6.out (Option.some.inj e))).trans HBN6_9.out
              have EU_10 : Hid (CurAt w10 c a len cap) := hcu
              clear hb9 HOCd_9 HOPd_9 HBv1_9 HBv2_9 HBv3_9 HBN6_9 EU_9 hg hcu
              clear HBv3_10
              have hS10 : w10.heap[qv2]? = some (.cells #[.slice oCd csd.length pCd, .slice oPd wsd.length pPd] 27) := HBv2_10.out
              refine hK.out _ _ hS10 (fun _ => ?_)
              clear hK K hS9
              refine wpAnyH_ready (rs := [6]) (by kernel_rfl) (by simp) ?_
              refine AllReadyH.cons rfl (fun K hK => ?_) AllReadyH.nil
              go_simp
              refine (specPut_right _ _ csd wsd _ _ ⟨HOCd_10.out, HOPd_10.out⟩ HRd.out n12 x13 HXx13.out).mono ?_
              rintro e w11 ⟨vv1, vv2, csn, wsn, obn, rfl, ⟨ownCn, ownPn⟩, hrn, bw⟩
              obtain ⟨oCn, pCn, rfl⟩ := slice_of_owns ownCn
              obtain ⟨oPn, pPn, rfl⟩ := slice_of_owns ownPn
              have HRn : Hid (RightD csn wsn) := hrn
              clear hrn
              have hb11 : w.grownBy w11 (some c) := grown_then hb10 (grown_below bw _)
              have HM11 : Hid ((w10).heap.size ≤ (w11).heap.size) := bw.size
              have HOCd_11 : Hid ((w11).ownsRow w.heap.size 9 1 (.slice oCd csd.length pCd) csd.length (csd.map Value.string)) := owns_below HOCd_10.out bw (fun g hg => owns_lt HOCd_10.out hg)
              have HOPd_11 : Hid ((w11).ownsRow w.heap.size 67 2 (.slice oPd wsd.length pPd) wsd.length (flatWrite wsd)) := owns_below HOPd_10.out bw (fun g hg => owns_lt HOPd_10.out hg)
              have HBv1_11 : Hid ((w11).heap[qv1]? = some (.cells #[.slice none 0 0, .slice none 0 0] 27)) := blk_below HBv1_10.out bw
              have HBv2_11 : Hid ((w11).heap[qv2]? = some (.cells #[.slice oCd csd.length pCd, .slice oPd wsd.length pPd] 27)) := blk_below HBv2_10.out bw
              have HBN6_11 : Hid ((w11).heap[qN6]? = some (.cells #[.slice none 0 0, .slice none 0 0] 27)) := blk_below HBN6_10.out bw
              have EU_11 : Hid (CurAt w11 c a len cap) := EU_10.out.below bw EU_10.out.lt
              have HOCn_11 : Hid ((w11).ownsRow w.heap.size 9 1 (.slice oCn csn.length pCn) csn.length (csn.map Value.string)) := owns_wide ownCn hb10.size
              have LOCn : Hid (∀ g, (Value.ownBlock (.slice oCn csn.length pCn)) = some g → (w10).heap.size ≤ g) := fun g hg => owns_ge ownCn hg
              have HICn : Hid (∀ g, (Value.ownBlock (.slice oCn csn.length pCn)) = some g → g < (w11).heap.size) := fun g hg => owns_lt ownCn hg
              clear ownCn
              have HOPn_11 : Hid ((w11).ownsRow w.heap.size 67 2 (.slice oPn wsn.length pPn) wsn.length (flatWrite wsn)) := owns_wide ownPn hb10.size
              have LOPn : Hid (∀ g, (Value.ownBlock (.slice oPn wsn.length pPn)) = some g → (w10).heap.size ≤ g) := fun g hg => owns_ge ownPn hg
              have HIPn : Hid (∀ g, (Value.ownBlock (.slice oPn wsn.length pPn)) = some g → g < (w11).heap.size) := fun g hg => owns_lt ownPn hg
              clear ownPn
              clear hb10 HOCd_10 HOPd_10 HBv1_10 HBv2_10 HBN6_10 EU_10 bw
              have hS11 : w11.heap[qv2]? = some (.cells #[.slice oCd csd.length pCd, .slice oPd wsd.length pPd] 27) := HBv2_11.out
              refine hK.out _ _ hS11 (fun _ => ?_)
              clear hK K hS10
              refine wpAnyH_takeD (i := 7) (v := .tuple #[.agg #[.slice oCn csn.length pCn, .slice oPn wsn.length pPn], .bool obn]) (some 16) rfl rfl (by kernel_rfl) (by kernel_rfl) (by kernel_rfl) (fun _ _ _ h => h) (Or.inl ⟨by rfl, by intro W _; go_simp⟩) hS11 ?_
              simp only [Act.put, List.setIfInBounds_toArray, List.set_cons_zero, List.set_cons_succ]
              refine wpAnyH_takeD (i := 8) (v := .agg #[.slice oCn csn.length pCn, .slice oPn wsn.length pPn]) (some 24) rfl rfl (by kernel_rfl) (by kernel_rfl) (by kernel_rfl) (fun _ _ _ h => h) (Or.inl ⟨by rfl, by intro W _; go_simp⟩) hS11 ?_
              simp only [Act.put, List.setIfInBounds_toArray, List.set_cons_zero, List.set_cons_succ]
              refine wpAnyH_takeD (i := 9) (v := .bool obn) (some 25) rfl rfl (by kernel_rfl) (by kernel_rfl) (by kernel_rfl) (fun _ _ _ h => h) (Or.inl ⟨by rfl, by intro W _; go_simp⟩) hS11 ?_
              simp only [Act.put, List.setIfInBounds_toArray, List.set_cons_zero, List.set_cons_succ]
              refine wpAnyH_ready (rs := [11]) (by kernel_rfl) (by simp) ?_
              refine AllReadyH.cons rfl (fun K hK => ?_) AllReadyH.nil
              have ce0 : (w11).cell? ⟨qN6, 0, none⟩ = some (.slice none 0 0) := (cell_of HBN6_11.out 0).trans rfl
              have fe0 : (w11).frozen? ⟨qN6, 0, none⟩ = false := frozen_of HBN6_11.out 0
              have ce1 : (w11).cell? ⟨qN6, 1, none⟩ = some (.slice none 0 0) := (cell_of HBN6_11.out 1).trans rfl
              have fe1 : (w11).frozen? ⟨qN6, 1, none⟩ = false := frozen_of HBN6_11.out 1
              obtain ⟨w12, hY⟩ : ∃ Y, Y = ((w11.setCell ⟨qN6, 0, none⟩ (.slice oCn csn.length pCn)).setCell ⟨qN6, 1, none⟩ (.slice oPn wsn.length pPn)) := ⟨_, rfl⟩
              have HY : Hid (((w11.setCell ⟨qN6, 0, none⟩ (.slice oCn csn.length pCn)).setCell ⟨qN6, 1, none⟩ (.slice oPn wsn.length pPn)) = w12) := hY.symm
              have hb12 : w.grownBy w12 (some c) := by rw [hY]; exact (grown_own (grown_own hb11 HGN6.out 0 _) HGN6.out 1 _)
              have HM12 : Hid ((w11).heap.size ≤ w12.heap.size) := by show _ ≤ _; rw [hY]; simp
              have HOCd_12 : Hid ((w12).ownsRow w.heap.size 9 1 (.slice oCd csd.length pCd) csd.length (csd.map Value.string)) := by show World.ownsRow _ _ _ _ _ _ _; rw [hY]; exact owns_same HOCd_11.out (fun g hg => by have hne := own_ne HOCd_11.out HBN6_11.out (by decide) g hg; rw [heap_setCell_other _ _ g _ hne, heap_setCell_other _ _ g _ hne])
              have HOPd_12 : Hid ((w12).ownsRow w.heap.size 67 2 (.slice oPd wsd.length pPd) wsd.length (flatWrite wsd)) := by show World.ownsRow _ _ _ _ _ _ _; rw [hY]; exact owns_same HOPd_11.out (fun g hg => by have hne := own_ne HOPd_11.out HBN6_11.out (by decide) g hg; rw [heap_setCell_other _ _ g _ hne, heap_setCell_other _ _ g _ hne])
              have HOCn_12 : Hid ((w12).ownsRow w.heap.size 9 1 (.slice oCn csn.length pCn) csn.length (csn.map Value.string)) := by show World.ownsRow _ _ _ _ _ _ _; rw [hY]; exact owns_same HOCn_11.out (fun g hg => by have hne := own_ne HOCn_11.out HBN6_11.out (by decide) g hg; rw [heap_setCell_other _ _ g _ hne, heap_setCell_other _ _ g _ hne])
              have HOPn_12 : Hid ((w12).ownsRow w.heap.size 67 2 (.slice oPn wsn.length pPn) wsn.length (flatWrite wsn)) := by show World.ownsRow _ _ _ _ _ _ _; rw [hY]; exact owns_same HOPn_11.out (fun g hg => by have hne := own_ne HOPn_11.out HBN6_11.out (by decide) g hg; rw [heap_setCell_other _ _ g _ hne, heap_setCell_other _ _ g _ hne])
              have HBv1_12 : Hid ((w12).heap[qv1]? = some (.cells #[.slice none 0 0, .slice none 0 0] 27)) := by show _ = _; rw [hY, heap_setCell_other _ _ _ _ HNv1N6.out, heap_setCell_other _ _ _ _ HNv1N6.out]; exact HBv1_11.out
              have HBv2_12 : Hid ((w12).heap[qv2]? = some (.cells #[.slice oCd csd.length pCd, .slice oPd wsd.length pPd] 27)) := by show _ = _; rw [hY, heap_setCell_other _ _ _ _ HNv2N6.out, heap_setCell_other _ _ _ _ HNv2N6.out]; exact HBv2_11.out
              have EU_12 : Hid (CurAt w12 c a len cap) := by show CurAt _ _ _ _ _; rw [hY]; exact (cur_set (cur_set EU_11.out HNCN6.out 0 _) HNCN6.out 1 _)
              have HBN6_12 : Hid ((w12).heap[qN6]? = some (.cells #[.slice oCn csn.length pCn, .slice oPn wsn.length pPn] 27)) := by show _ = _; rw [hY]; have h := (heap_set _ qN6 1 _ _ _ (.slice oPn wsn.length pPn) (heap_set _ qN6 0 _ _ _ (.slice oCn csn.length pCn) HBN6_11.out)); simpa using h
              clear hY hb11 HOCd_11 HOPd_11 HOCn_11 HOPn_11 HBv1_11 HBv2_11 HBN6_11 EU_11
              go_simp
              rw [HY.out]
              have hS12 : w12.heap[qv2]? = some (.cells #[.slice oCd csd.length pCd, .slice oPd wsd.length pPd] 27) := HBv2_12.out
              refine hK.out _ _ hS12 (fun _ => ?_)
              clear hK K HY hS11 ce0 fe0 ce1 fe1
              refine wpAnyH_takeD (i := 12) (v := .bool obn) (some 7) rfl rfl (by kernel_rfl) (by kernel_rfl) (by kernel_rfl) (fun _ _ _ h => h) (Or.inl ⟨by rfl, by intro W _; go_simp⟩) hS12 ?_
              simp only [Act.put, List.setIfInBounds_toArray, List.set_cons_zero, List.set_cons_succ]
              clear hS12
              refine wpAnyH_done (by kernel_rfl) ?_ _
              go_wp2_with fail
              go_meet
              exact ⟨qN6, csn, wsn, oCn, pCn, oPn, pPn, obn, rfl, rfl, HRn, ⟨hb12, EU_12.out, HBv1_12.out, HBv2_12.out, HOCd_12.out, HOPd_12.out, HBN6_12.out, HOCn_12.out, HOPn_12.out, HGN6.out, HNCN6.out, HNv1N6.out, HNv2N6.out⟩⟩
          · go_simp
            have bw : Below w7.heap.size w7 (w7.alloc (.cells #[.slice none 0 0, .slice none 0 0] 27)) := (Below.refl _ _).alloc (Nat.le_refl _) _
            have hSA : (w7.alloc (.cells #[.slice none 0 0, .slice none 0 0] 27)).heap[qv2]? = some (.cells #[.slice oCd csd.length pCd, .slice oPd wsd.length pPd] 27) := blk_below HBv2_7.out bw
            refine hK.out _ _ hSA (fun _ => ?_)
            clear hK K hSA bw hS7
            obtain ⟨qN6, hqN6⟩ : ∃ o, o = w7.heap.size := ⟨_, rfl⟩
            obtain ⟨w8, hXj⟩ : ∃ X, X = (w7.alloc (.cells #[.slice none 0 0, .slice none 0 0] 27)) := ⟨_, rfl⟩
            rw [← hqN6, ← hXj]
            have bw : Below w7.heap.size w7 w8 := by rw [hXj]; exact (Below.refl _ _).alloc (Nat.le_refl _) _
            have hb8 : w.grownBy w8 (some c) := grown_then hb7 (grown_below bw _)
            have HM8 : Hid ((w7).heap.size ≤ (w8).heap.size) := bw.size
            have HOCd_8 : Hid ((w8).ownsRow w.heap.size 9 1 (.slice oCd csd.length pCd) csd.length (csd.map Value.string)) := owns_below HOCd_7.out bw (fun g hg => owns_lt HOCd_7.out hg)
            have HOPd_8 : Hid ((w8).ownsRow w.heap.size 67 2 (.slice oPd wsd.length pPd) wsd.length (flatWrite wsd)) := owns_below HOPd_7.out bw (fun g hg => owns_lt HOPd_7.out hg)
            have HBv1_8 : Hid ((w8).heap[qv1]? = some (.cells #[.slice none 0 0, .slice none 0 0] 27)) := blk_below HBv1_7.out bw
            have HBv2_8 : Hid ((w8).heap[qv2]? = some (.cells #[.slice oCd csd.length pCd, .slice oPd wsd.length pPd] 27)) := blk_below HBv2_7.out bw
            have HBv3_8 : Hid ((w8).heap[qv3]? = some (.cells #[.string ⟨#[]⟩, .string ⟨#[97]⟩, .string ⟨#[98]⟩, .string ⟨#[99, 99]⟩] 9)) := blk_below HBv3_7.out bw
            have EU_8 : Hid (CurAt w8 c a len cap) := EU_7.out.below bw EU_7.out.lt
            have HNv1N6 : Hid (qv1 ≠ qN6) := fun e => by have h1 := (Array.getElem?_eq_some_iff.1 HBv1_7.out).1; omega
            have HNv2N6 : Hid (qv2 ≠ qN6) := fun e => by have h1 := (Array.getElem?_eq_some_iff.1 HBv2_7.out).1; omega
            have HNv3N6 : Hid (qv3 ≠ qN6) := fun e => by have h1 := (Array.getElem?_eq_some_iff.1 HBv3_7.out).1; omega
            have HNCN6 : Hid (qN6 ≠ c) := fun e => by have h1 := EU_7.out.lt; omega
            have HBN6_8 : Hid ((w8).heap[qN6]? = some (.cells #[.slice none 0 0, .slice none 0 0] 27)) := by show _ = _; rw [hXj, hqN6]; exact heap_alloc_new _ _
            have HGN6 : Hid (w.heap.size ≤ qN6) := by show _ ≤ _; rw [hqN6]; exact hb7.size
            have hS8 : w8.heap[qv2]? = some (.cells #[.slice oCd csd.length pCd, .slice oPd wsd.length pPd] 27) := HBv2_8.out
            clear hb7 HOCd_7 HOPd_7 HBv1_7 HBv2_7 HBv3_7 EU_7 bw hXj hqN6
            refine wpAnyH_ready (rs := [2]) (by kernel_rfl) (by simp) ?_
            refine AllReadyH.cons rfl (fun K hK => ?_) AllReadyH.nil
            go_simp
            refine (l1Below_any c B 20 a len cap zs _ EU_8.out (HCO.out _ hb8) HBC.out (by decide) (by decide)).mono ?_
            rintro e w9 ⟨n12, rfl, hn012, hn112, hcu, hg⟩
            have hb9 : w.grownBy w9 (some c) := grown_then hb8 hg
            have HM9 : Hid ((w8).heap.size ≤ (w9).heap.size) := hg.size
            have HOCd_9 : Hid ((w9).ownsRow w.heap.size 9 1 (.slice oCd csd.length pCd) csd.length (csd.map Value.string)) := owns_same HOCd_8.out (fun g hgg => hg.block g (owns_lt HOCd_8.out hgg) (fun e => own_cur HOCd_8.out EU_8.out (by decide) g hgg (Option.some.inj e)))
            have HOPd_9 : Hid ((w9).ownsRow w.heap.size 67 2 (.slice oPd wsd.length pPd) wsd.length (flatWrite wsd)) := owns_same HOPd_8.out (fun g hgg => hg.block g (owns_lt HOPd_8.out hgg) (fun e => own_cur HOPd_8.out EU_8.out (by decide) g hgg (Option.some.inj e)))
            have HBv1_9 : Hid ((w9).heap[qv1]? = some (.cells #[.slice none 0 0, .slice none 0 0] 27)) := (hg.block _ (Array.getElem?_eq_some_iff.1 HBv1_8.out).1 (fun e => HNCv1.out (Option.some.inj e))).trans HBv1_8.out
            have HBv2_9 : Hid ((w9).heap[qv2]? = some (.cells #[.slice oCd csd.length pCd, .slice oPd wsd.length pPd] 27)) := (hg.block _ (Array.getElem?_eq_some_iff.1 HBv2_8.out).1 (fun e => HNCv2.out (Option.some.inj e))).trans HBv2_8.out
            have HBv3_9 : Hid ((w9).heap[qv3]? = some (.cells #[.string ⟨#[]⟩, .string ⟨#[97]⟩, .string ⟨#[98]⟩, .string ⟨#[99, 99]⟩] 9)) := (hg.block _ (Array.getElem?_eq_some_iff.1 HBv3_8.out).1 (fun e => HNCv3.out (Option.some.inj e))).trans HBv3_8.out
            have HBN6_9 : Hid ((w9).heap[qN6]? = some (.cells #[.slice none 0 0, .slice none 0 0] 27)) := (hg.block _ (Array.getElem?_eq_some_iff.1 HBN6_8.out).1 (fun e => HNCN6.out (Option.some.inj e))).trans HBN6_8.out
            have EU_9 : Hid (CurAt w9 c a len cap) := hcu
            clear hb8 HOCd_8 HOPd_8 HBv1_8 HBv2_8 HBv3_8 HBN6_8 EU_8 hg hcu
            have hS9 : w9.heap[qv2]? = some (.cells #[.slice oCd csd.length pCd, .slice oPd wsd.length pPd] 27) := HBv2_9.out
            refine hK.out _ _ hS9 (fun _ => ?_)
            clear hK K hS8
            refine wpAnyH_ready (rs := [5]) (by kernel_rfl) (by simp) ?_
            refine AllReadyH.cons rfl (fun K hK => ?_) AllReadyH.nil
            go_simp
            have HLS : Hid (ListAt w9 qv3 4 (textAt [⟨#[]⟩, ⟨#[97]⟩, ⟨#[98]⟩, ⟨#[99, 99]⟩])) := by
              intro j hj
              match j, hj with
              | 0, _ => exact (cell_of HBv3_9.out 0).trans rfl
              | 1, _ => exact (cell_of HBv3_9.out 1).trans rfl
              | 2, _ => exact (cell_of HBv3_9.out 2).trans rfl
              | 3, _ => exact (cell_of HBv3_9.out 3).trans rfl
            refine (l1Pick_any c B qv3 4 (textAt [⟨#[]⟩, ⟨#[97]⟩, ⟨#[98]⟩, ⟨#[99, 99]⟩]) a len cap zs _ EU_9.out (HCO.out _ hb9) HBC.out (by decide) (by decide) HLS.out HNCv3.out).mono ?_
            rintro e w10 ⟨jx, hjx, rfl, hcu, hg⟩
            obtain ⟨x13, hx13⟩ : ∃ x, x = textAt [⟨#[]⟩, ⟨#[97]⟩, ⟨#[98]⟩, ⟨#[99, 99]⟩] jx := ⟨_, rfl⟩
            rw [← hx13]
            have HXx13 : Hid (x13.size ≤ 64) := by show _ ≤ _; rw [hx13]; exact (show ∀ j, j < 4 → (textAt [⟨#[]⟩, ⟨#[97]⟩, ⟨#[98]⟩, ⟨#[99, 99]⟩] j).size ≤ 64 by decide) jx hjx
            clear hx13 hjx HLS
            have hb10 : w.grownBy w10 (some c) := grown_then hb9 hg
            have HM10 : Hid ((w9).heap.size ≤ (w10).heap.size) := hg.size
            have HOCd_10 : Hid ((w10).ownsRow w.heap.size 9 1 (.slice oCd csd.length pCd) csd.length (csd.map Value.string)) := owns_same HOCd_9.out (fun g hgg => hg.block g (owns_lt HOCd_9.out hgg) (fun e => own_cur HOCd_9.out EU_9.out (by decide) g hgg (Option.some.inj e)))
            have HOPd_10 : Hid ((w10).ownsRow w.heap.size 67 2 (.slice oPd wsd.length pPd) wsd.length (flatWrite wsd)) := owns_same HOPd_9.out (fun g hgg => hg.block g (owns_lt HOPd_9.out hgg) (fun e => own_cur HOPd_9.out EU_9.out (by decide) g hgg (Option.some.inj e)))
            have HBv1_10 : Hid ((w10).heap[qv1]? = some (.cells #[.slice none 0 0, .slice none 0 0] 27)) := (hg.block _ (Array.getElem?_eq_some_iff.1 HBv1_9.out).1 (fun e => HNCv1.out (Option.some.inj e))).trans HBv1_9.out
            have HBv2_10 : Hid ((w10).heap[qv2]? = some (.cells #[.slice oCd csd.length pCd, .slice oPd wsd.length pPd] 27)) := (hg.block _ (Array.getElem?_eq_some_iff.1 HBv2_9.out).1 (fun e => HNCv2.out (Option.some.inj e))).trans HBv2_9.out
            have HBv3_10 : Hid ((w10).heap[qv3]? = some (.cells #[.string ⟨#[]⟩, .string ⟨#[97]⟩, .string ⟨#[98]⟩, .string ⟨#[99, 99]⟩] 9)) := (hg.block _ (Array.getElem?_eq_some_iff.1 HBv3_9.out).1 (fun e => HNCv3.out (Option.some.inj e))).trans HBv3_9.out
            have HBN6_10 : Hid ((w10).heap[qN6]? = some (.cells #[.slice none 0 0, .slice none 0 0] 27)) := (hg.block _ (Array.getElem?_eq_some_iff.1 HBN6_9.out).1 (fun e => HNCN6.out (Option.some.inj e))).trans HBN6_9.out
            have EU_10 : Hid (CurAt w10 c a len cap) := hcu
            clear hb9 HOCd_9 HOPd_9 HBv1_9 HBv2_9 HBv3_9 HBN6_9 EU_9 hg hcu
            clear HBv3_10
            have hS10 : w10.heap[qv2]? = some (.cells #[.slice oCd csd.length pCd, .slice oPd wsd.length pPd] 27) := HBv2_10.out
            refine hK.out _ _ hS10 (fun _ => ?_)
            clear hK K hS9
            refine wpAnyH_ready (rs := [6]) (by kernel_rfl) (by simp) ?_
            refine AllReadyH.cons rfl (fun K hK => ?_) AllReadyH.nil
            go_simp
            refine (specPut_right _ _ csd wsd _ _ ⟨HOCd_10.out, HOPd_10.out⟩ HRd.out n12 x13 HXx13.out).mono ?_
            rintro e w11 ⟨vv1, vv2, csn, wsn, obn, rfl, ⟨ownCn, ownPn⟩, hrn, bw⟩
            obtain ⟨oCn, pCn, rfl⟩ := slice_of_owns ownCn
            obtain ⟨oPn, pPn, rfl⟩ := slice_of_owns ownPn
            have HRn : Hid (RightD csn wsn) := hrn
            clear hrn
            have hb11 : w.grownBy w11 (some c) := grown_then hb10 (grown_below bw _)
            have HM11 : Hid ((w10).heap.size ≤ (w11).heap.size) := bw.size
            have HOCd_11 : Hid ((w11).ownsRow w.heap.size 9 1 (.slice oCd csd.length pCd) csd.length (csd.map Value.string)) := owns_below HOCd_10.out bw (fun g hg => owns_lt HOCd_10.out hg)
            have HOPd_11 : Hid ((w11).ownsRow w.heap.size 67 2 (.slice oPd wsd.length pPd) wsd.length (flatWrite wsd)) := owns_below HOPd_10.out bw (fun g hg => owns_lt HOPd_10.out hg)
            have HBv1_11 : Hid ((w11).heap[qv1]? = some (.cells #[.slice none 0 0, .slice none 0 0] 27)) := blk_below HBv1_10.out bw
            have HBv2_11 : Hid ((w11).heap[qv2]? = some (.cells #[.slice oCd csd.length pCd, .slice oPd wsd.length pPd] 27)) := blk_below HBv2_10.out bw
            have HBN6_11 : Hid ((w11).heap[qN6]? = some (.cells #[.slice none 0 0, .slice none 0 0] 27)) := blk_below HBN6_10.out bw
            have EU_11 : Hid (CurAt w11 c a len cap) := EU_10.out.below bw EU_10.out.lt
            have HOCn_11 : Hid ((w11).ownsRow w.heap.size 9 1 (.slice oCn csn.length pCn) csn.length (csn.map Value.string)) := owns_wide ownCn hb10.size
            have LOCn : Hid (∀ g, (Value.ownBlock (.slice oCn csn.length pCn)) = some g → (w10).heap.size ≤ g) := fun g hg => owns_ge ownCn hg
            have HICn : Hid (∀ g, (Value.ownBlock (.slice oCn csn.length pCn)) = some g → g < (w11).heap.size) := fun g hg => owns_lt ownCn hg
            clear ownCn
            have HOPn_11 : Hid ((w11).ownsRow w.heap.size 67 2 (.slice oPn wsn.length pPn) wsn.length (flatWrite wsn)) := owns_wide ownPn hb10.size
            have LOPn : Hid (∀ g, (Value.ownBlock (.slice oPn wsn.length pPn)) = some g → (w10).heap.size ≤ g) := fun g hg => owns_ge ownPn hg
            have HIPn : Hid (∀ g, (Value.ownBlock (.slice oPn wsn.length pPn)) = some g → g < (w11).heap.size) := fun g hg => owns_lt ownPn hg
            clear ownPn
            clear hb10 HOCd_10 HOPd_10 HBv1_10 HBv2_10 HBN6_10 EU_10 bw
            have hS11 : w11.heap[qv2]? = some (.cells #[.slice oCd csd.length pCd, .slice oPd wsd.length pPd] 27) := HBv2_11.out
            refine hK.out _ _ hS11 (fun _ => ?_)
            clear hK K hS10
            refine wpAnyH_takeD (i := 7) (v := .tuple #[.agg #[.slice oCn csn.length pCn, .slice oPn wsn.length pPn], .bool obn]) (some 16) rfl rfl (by kernel_rfl) (by kernel_rfl) (by kernel_rfl) (fun _ _ _ h => h) (Or.inl ⟨by rfl, by intro W _; go_simp⟩) hS11 ?_
            simp only [Act.put, List.setIfInBounds_toArray, List.set_cons_zero, List.set_cons_succ]
            refine wpAnyH_takeD (i := 8) (v := .agg #[.slice oCn csn.length pCn, .slice oPn wsn.length pPn]) (some 24) rfl rfl (by kernel_rfl) (by kernel_rfl) (by kernel_rfl) (fun _ _ _ h => h) (Or.inl ⟨by rfl, by intro W _; go_simp⟩) hS11 ?_
            simp only [Act.put, List.setIfInBounds_toArray, List.set_cons_zero, List.set_cons_succ]
            refine wpAnyH_takeD (i := 9) (v := .bool obn) (some 25) rfl rfl (by kernel_rfl) (by kernel_rfl) (by kernel_rfl) (fun _ _ _ h => h) (Or.inl ⟨by rfl, by intro W _; go_simp⟩) hS11 ?_
            simp only [Act.put, List.setIfInBounds_toArray, List.set_cons_zero, List.set_cons_succ]
            refine wpAnyH_ready (rs := [11]) (by kernel_rfl) (by simp) ?_
            refine AllReadyH.cons rfl (fun K hK => ?_) AllReadyH.nil
            have ce0 : (w11).cell? ⟨qN6, 0, none⟩ = some (.slice none 0 0) := (cell_of HBN6_11.out 0).trans rfl
            have fe0 : (w11).frozen? ⟨qN6, 0, none⟩ = false := frozen_of HBN6_11.out 0
            have ce1 : (w11).cell? ⟨qN6, 1, none⟩ = some (.slice none 0 0) := (cell_of HBN6_11.out 1).trans rfl
            have fe1 : (w11).frozen? ⟨qN6, 1, none⟩ = false := frozen_of HBN6_11.out 1
            obtain ⟨w12, hY⟩ : ∃ Y, Y = ((w11.setCell ⟨qN6, 0, none⟩ (.slice oCn csn.length pCn)).setCell ⟨qN6, 1, none⟩ (.slice oPn wsn.length pPn)) := ⟨_, rfl⟩
            have HY : Hid (((w11.setCell ⟨qN6, 0, none⟩ (.slice oCn csn.length pCn)).setCell ⟨qN6, 1, none⟩ (.slice oPn wsn.length pPn)) = w12) := hY.symm
            have hb12 : w.grownBy w12 (some c) := by rw [hY]; exact (grown_own (grown_own hb11 HGN6.out 0 _) HGN6.out 1 _)
            have HM12 : Hid ((w11).heap.size ≤ w12.heap.size) := by show _ ≤ _; rw [hY]; simp
            have HOCd_12 : Hid ((w12).ownsRow w.heap.size 9 1 (.slice oCd csd.length pCd) csd.length (csd.map Value.string)) := by show World.ownsRow _ _ _ _ _ _ _; rw [hY]; exact owns_same HOCd_11.out (fun g hg => by have hne := own_ne HOCd_11.out HBN6_11.out (by decide) g hg; rw [heap_setCell_other _ _ g _ hne, heap_setCell_other _ _ g _ hne])
            have HOPd_12 : Hid ((w12).ownsRow w.heap.size 67 2 (.slice oPd wsd.length pPd) wsd.length (flatWrite wsd)) := by show World.ownsRow _ _ _ _ _ _ _; rw [hY]; exact owns_same HOPd_11.out (fun g hg => by have hne := own_ne HOPd_11.out HBN6_11.out (by decide) g hg; rw [heap_setCell_other _ _ g _ hne, heap_setCell_other _ _ g _ hne])
            have HOCn_12 : Hid ((w12).ownsRow w.heap.size 9 1 (.slice oCn csn.length pCn) csn.length (csn.map Value.string)) := by show World.ownsRow _ _ _ _ _ _ _; rw [hY]; exact owns_same HOCn_11.out (fun g hg => by have hne := own_ne HOCn_11.out HBN6_11.out (by decide) g hg; rw [heap_setCell_other _ _ g _ hne, heap_setCell_other _ _ g _ hne])
            have HOPn_12 : Hid ((w12).ownsRow w.heap.size 67 2 (.slice oPn wsn.length pPn) wsn.length (flatWrite wsn)) := by show World.ownsRow _ _ _ _ _ _ _; rw [hY]; exact owns_same HOPn_11.out (fun g hg => by have hne := own_ne HOPn_11.out HBN6_11.out (by decide) g hg; rw [heap_setCell_other _ _ g _ hne, heap_setCell_other _ _ g _ hne])
            have HBv1_12 : Hid ((w12).heap[qv1]? = some (.cells #[.slice none 0 0, .slice none 0 0] 27)) := by show _ = _; rw [hY, heap_setCell_other _ _ _ _ HNv1N6.out, heap_setCell_other _ _ _ _ HNv1N6.out]; exact HBv1_11.out
            have HBv2_12 : Hid ((w12).heap[qv2]? = some (.cells #[.slice oCd csd.length pCd, .slice oPd wsd.length pPd] 27)) := by show _ = _; rw [hY, heap_setCell_other _ _ _ _ HNv2N6.out, heap_setCell_other _ _ _ _ HNv2N6.out]; exact HBv2_11.out
            have EU_12 : Hid (CurAt w12 c a len cap) := by show CurAt _ _ _ _ _; rw [hY]; exact (cur_set (cur_set EU_11.out HNCN6.out 0 _) HNCN6.out 1 _)
            have HBN6_12 : Hid ((w12).heap[qN6]? = some (.cells #[.slice oCn csn.length pCn, .slice oPn wsn.length pPn] 27)) := by show _ = _; rw [hY]; have h := (heap_set _ qN6 1 _ _ _ (.slice oPn wsn.length pPn) (heap_set _ qN6 0 _ _ _ (.slice oCn csn.length pCn) HBN6_11.out)); simpa using h
            clear hY hb11 HOCd_11 HOPd_11 HOCn_11 HOPn_11 HBv1_11 HBv2_11 HBN6_11 EU_11
            go_simp
            rw [HY.out]
            have hS12 : w12.heap[qv2]? = some (.cells #[.slice oCd csd.length pCd, .slice oPd wsd.length pPd] 27) := HBv2_12.out
            refine hK.out _ _ hS12 (fun _ => ?_)
            clear hK K HY hS11 ce0 fe0 ce1 fe1
            refine wpAnyH_takeD (i := 12) (v := .bool obn) (some 7) rfl rfl (by kernel_rfl) (by kernel_rfl) (by kernel_rfl) (fun _ _ _ h => h) (Or.inl ⟨by rfl, by intro W _; go_simp⟩) hS12 ?_
            simp only [Act.put, List.setIfInBounds_toArray, List.set_cons_zero, List.set_cons_succ]
            clear hS12
            refine wpAnyH_done (by kernel_rfl) ?_ _
            go_wp2_with fail
            go_meet
            exact ⟨qN6, csn, wsn, oCn, pCn, oPn, pPn, obn, rfl, rfl, HRn, ⟨hb12, EU_12.out, HBv1_12.out, HBv2_12.out, HOCd_12.out, HOPd_12.out, HBN6_12.out, HOCn_12.out, HOPn_12.out, HGN6.out, HNCN6.out, HNv1N6.out, HNv2N6.out⟩⟩
        · go_simp
          have bw : Below w6.heap.size w6 (w6.alloc (.cells #[.slice none 0 0, .slice none 0 0] 27)) := (Below.refl _ _).alloc (Nat.le_refl _) _
          have hSA : (w6.alloc (.cells #[.slice none 0 0, .slice none 0 0] 27)).heap[qv2]? = some (.cells #[.slice oCd csd.length pCd, .slice oPd wsd.length pPd] 27) := blk_below HBv2_6.out bw
          refine hK.out _ _ hSA (fun _ => ?_)
          clear hK K hSA bw hS6
          obtain ⟨qN6, hqN6⟩ : ∃ o, o = w6.heap.size := ⟨_, rfl⟩
          obtain ⟨w7, hXj⟩ : ∃ X, X = (w6.alloc (.cells #[.slice none 0 0, .slice none 0 0] 27)) := ⟨_, rfl⟩
          rw [← hqN6, ← hXj]
          have bw : Below w6.heap.size w6 w7 := by rw [hXj]; exact (Below.refl _ _).alloc (Nat.le_refl _) _
          have hb7 : w.grownBy w7 (some c) := grown_then hb6 (grown_below bw _)
          have HM7 : Hid ((w6).heap.size ≤ (w7).heap.size) := bw.size
          have HOCd_7 : Hid ((w7).ownsRow w.heap.size 9 1 (.slice oCd csd.length pCd) csd.length (csd.map Value.string)) := owns_below HOCd_6.out bw (fun g hg => owns_lt HOCd_6.out hg)
          have HOPd_7 : Hid ((w7).ownsRow w.heap.size 67 2 (.slice oPd wsd.length pPd) wsd.length (flatWrite wsd)) := owns_below HOPd_6.out bw (fun g hg => owns_lt HOPd_6.out hg)
          have HBv1_7 : Hid ((w7).heap[qv1]? = some (.cells #[.slice none 0 0, .slice none 0 0] 27)) := blk_below HBv1_6.out bw
          have HBv2_7 : Hid ((w7).heap[qv2]? = some (.cells #[.slice oCd csd.length pCd, .slice oPd wsd.length pPd] 27)) := blk_below HBv2_6.out bw
          have EU_7 : Hid (CurAt w7 c a len cap) := EU_6.out.below bw EU_6.out.lt
          have HNv1N6 : Hid (qv1 ≠ qN6) := fun e => by have h1 := (Array.getElem?_eq_some_iff.1 HBv1_6.out).1; omega
          have HNv2N6 : Hid (qv2 ≠ qN6) := fun e => by have h1 := (Array.getElem?_eq_some_iff.1 HBv2_6.out).1; omega
          have HNCN6 : Hid (qN6 ≠ c) := fun e => by have h1 := EU_6.out.lt; omega
          have HBN6_7 : Hid ((w7).heap[qN6]? = some (.cells #[.slice none 0 0, .slice none 0 0] 27)) := by show _ = _; rw [hXj, hqN6]; exact heap_alloc_new _ _
          have HGN6 : Hid (w.heap.size ≤ qN6) := by show _ ≤ _; rw [hqN6]; exact hb6.size
          have hS7 : w7.heap[qv2]? = some (.cells #[.slice oCd csd.length pCd, .slice oPd wsd.length pPd] 27) := HBv2_7.out
          clear hb6 HOCd_6 HOPd_6 HBv1_6 HBv2_6 EU_6 bw hXj hqN6
          refine wpAnyH_ready (rs := [2, 4]) (by kernel_rfl) (by simp) ?_
          refine AllReadyH.cons rfl (fun K hK => ?_) (AllReadyH.cons rfl (fun K hK => ?_) AllReadyH.nil)
          · go_simp
            refine (l1Below_any c B 20 a len cap zs _ EU_7.out (HCO.out _ hb7) HBC.out (by decide) (by decide)).mono ?_
            rintro e w8 ⟨n12, rfl, hn012, hn112, hcu, hg⟩
            have hb8 : w.grownBy w8 (some c) := grown_then hb7 hg
            have HM8 : Hid ((w7).heap.size ≤ (w8).heap.size) := hg.size
            have HOCd_8 : Hid ((w8).ownsRow w.heap.size 9 1 (.slice oCd csd.length pCd) csd.length (csd.map Value.string)) := owns_same HOCd_7.out (fun g hgg => hg.block g (owns_lt HOCd_7.out hgg) (fun e => own_cur HOCd_7.out EU_7.out (by decide) g hgg (Option.some.inj e)))
            have HOPd_8 : Hid ((w8).ownsRow w.heap.size 67 2 (.slice oPd wsd.length pPd) wsd.length (flatWrite wsd)) := owns_same HOPd_7.out (fun g hgg => hg.block g (owns_lt HOPd_7.out hgg) (fun e => own_cur HOPd_7.out EU_7.out (by decide) g hgg (Option.some.inj e)))
            have HBv1_8 : Hid ((w8).heap[qv1]? = some (.cells #[.slice none 0 0, .slice none 0 0] 27)) := (hg.block _ (Array.getElem?_eq_some_iff.1 HBv1_7.out).1 (fun e => HNCv1.out (Option.some.inj e))).trans HBv1_7.out
            have HBv2_8 : Hid ((w8).heap[qv2]? = some (.cells #[.slice oCd csd.length pCd, .slice oPd wsd.length pPd] 27)) := (hg.block _ (Array.getElem?_eq_some_iff.1 HBv2_7.out).1 (fun e => HNCv2.out (Option.some.inj e))).trans HBv2_7.out
            have HBN6_8 : Hid ((w8).heap[qN6]? = some (.cells #[.slice none 0 0, .slice none 0 0] 27)) := (hg.block _ (Array.getElem?_eq_some_iff.1 HBN6_7.out).1 (fun e => HNCN6.out (Option.some.inj e))).trans HBN6_7.out
            have EU_8 : Hid (CurAt w8 c a len cap) := hcu
            clear hb7 HOCd_7 HOPd_7 HBv1_7 HBv2_7 HBN6_7 EU_7 hg hcu
            have hS8 : w8.heap[qv2]? = some (.cells #[.slice oCd csd.length pCd, .slice oPd wsd.length pPd] 27) := HBv2_8.out
            refine hK.out _ _ hS8 (fun _ => ?_)
            clear hK K hS7
            refine wpAnyH_ready (rs := [4]) (by kernel_rfl) (by simp) ?_
            refine AllReadyH.cons rfl (fun K hK => ?_) AllReadyH.nil
            go_simp
            have bw : Below w8.heap.size w8 (w8.alloc (.cells #[.string ⟨#[]⟩, .string ⟨#[97]⟩, .string ⟨#[98]⟩, .string ⟨#[99, 99]⟩] 9)) := (Below.refl _ _).alloc (Nat.le_refl _) _
            have hSA : (w8.alloc (.cells #[.string ⟨#[]⟩, .string ⟨#[97]⟩, .string ⟨#[98]⟩, .string ⟨#[99, 99]⟩] 9)).heap[qv2]? = some (.cells #[.slice oCd csd.length pCd, .slice oPd wsd.length pPd] 27) := blk_below HBv2_8.out bw
            refine hK.out _ _ hSA (fun _ => ?_)
            clear hK K hSA bw hS8
            obtain ⟨qv3, hqv3⟩ : ∃ o, o = w8.heap.size := ⟨_, rfl⟩
            obtain ⟨w9, hXj⟩ : ∃ X, X = (w8.alloc (.cells #[.string ⟨#[]⟩, .string ⟨#[97]⟩, .string ⟨#[98]⟩, .string ⟨#[99, 99]⟩] 9)) := ⟨_, rfl⟩
            rw [← hqv3, ← hXj]
            have bw : Below w8.heap.size w8 w9 := by rw [hXj]; exact (Below.refl _ _).alloc (Nat.le_refl _) _
            have hb9 : w.grownBy w9 (some c) := grown_then hb8 (grown_below bw _)
            have HM9 : Hid ((w8).heap.size ≤ (w9).heap.size) := bw.size
            have HOCd_9 : Hid ((w9).ownsRow w.heap.size 9 1 (.slice oCd csd.length pCd) csd.length (csd.map Value.string)) := owns_below HOCd_8.out bw (fun g hg => owns_lt HOCd_8.out hg)
            have HOPd_9 : Hid ((w9).ownsRow w.heap.size 67 2 (.slice oPd wsd.length pPd) wsd.length (flatWrite wsd)) := owns_below HOPd_8.out bw (fun g hg => owns_lt HOPd_8.out hg)
            have HBv1_9 : Hid ((w9).heap[qv1]? = some (.cells #[.slice none 0 0, .slice none 0 0] 27)) := blk_below HBv1_8.out bw
            have HBv2_9 : Hid ((w9).heap[qv2]? = some (.cells #[.slice oCd csd.length pCd, .slice oPd wsd.length pPd] 27)) := blk_below HBv2_8.out bw
            have HBN6_9 : Hid ((w9).heap[qN6]? = some (.cells #[.slice none 0 0, .slice none 0 0] 27)) := blk_below HBN6_8.out bw
            have EU_9 : Hid (CurAt w9 c a len cap) := EU_8.out.below bw EU_8.out.lt
            have HNv1v3 : Hid (qv1 ≠ qv3) := fun e => by have h1 := (Array.getElem?_eq_some_iff.1 HBv1_8.out).1; omega
            have HNv2v3 : Hid (qv2 ≠ qv3) := fun e => by have h1 := (Array.getElem?_eq_some_iff.1 HBv2_8.out).1; omega
            have HNN6v3 : Hid (qN6 ≠ qv3) := fun e => by have h1 := (Array.getElem?_eq_some_iff.1 HBN6_8.out).1; omega
            have HNCv3 : Hid (qv3 ≠ c) := fun e => by have h1 := EU_8.out.lt; omega
            have HBv3_9 : Hid ((w9).heap[qv3]? = some (.cells #[.string ⟨#[]⟩, .string ⟨#[97]⟩, .string ⟨#[98]⟩, .string ⟨#[99, 99]⟩] 9)) := by show _ = _; rw [hXj, hqv3]; exact heap_alloc_new _ _
            have HGv3 : Hid (w.heap.size ≤ qv3) := by show _ ≤ _; rw [hqv3]; exact hb8.size
            have hS9 : w9.heap[qv2]? = some (.cells #[.slice oCd csd.length pCd, .slice oPd wsd.length pPd] 27) := HBv2_9.out
            clear hb8 HOCd_8 HOPd_8 HBv1_8 HBv2_8 HBN6_8 EU_8 bw hXj hqv3
            refine wpAnyH_ready (rs := [5]) (by kernel_rfl) (by simp) ?_
            refine AllReadyH.cons rfl (fun K hK => ?_) AllReadyH.nil
            go_simp
            have HLS : Hid (ListAt w9 qv3 4 (textAt [⟨#[]⟩, ⟨#[97]⟩, ⟨#[98]⟩, ⟨#[99, 99]⟩])) := by
              intro j hj
              match j, hj with
              | 0, _ => exact (cell_of HBv3_9.out 0).trans rfl
              | 1, _ => exact (cell_of HBv3_9.out 1).trans rfl
              | 2, _ => exact (cell_of HBv3_9.out 2).trans rfl
              | 3, _ => exact (cell_of HBv3_9.out 3).trans rfl
            refine (l1Pick_any c B qv3 4 (textAt [⟨#[]⟩, ⟨#[97]⟩, ⟨#[98]⟩, ⟨#[99, 99]⟩]) a len cap zs _ EU_9.out (HCO.out _ hb9) HBC.out (by decide) (by decide) HLS.out HNCv3.out).mono ?_
            rintro e w10 ⟨jx, hjx, rfl, hcu, hg⟩
            obtain ⟨x13, hx13⟩ : ∃ x, x = textAt [⟨#[]⟩, ⟨#[97]⟩, ⟨#[98]⟩, ⟨#[99, 99]⟩] jx := ⟨_, rfl⟩
            rw [← hx13]
            have HXx13 : Hid (x13.size ≤ 64) := by show _ ≤ _; rw [hx13]; exact (show ∀ j, j < 4 → (textAt [⟨#[]⟩, ⟨#[97]⟩, ⟨#[98]⟩, ⟨#[99, 99]⟩] j).size ≤ 64 by decide) jx hjx
            clear hx13 hjx HLS
            have hb10 : w.grownBy w10 (some c) := grown_then hb9 hg
            have HM10 : Hid ((w9).heap.size ≤ (w10).heap.size) := hg.size
            have HOCd_10 : Hid ((w10).ownsRow w.heap.size 9 1 (.slice oCd csd.length pCd) csd.length (csd.map Value.string)) := owns_same HOCd_9.out (fun g hgg => hg.block g (owns_lt HOCd_9.out hgg) (fun e => own_cur HOCd_9.out EU_9.out (by decide) g hgg (Option.some.inj e)))
            have HOPd_10 : Hid ((w10).ownsRow w.heap.size 67 2 (.slice oPd wsd.length pPd) wsd.length (flatWrite wsd)) := owns_same HOPd_9.out (fun g hgg => hg.block g (owns_lt HOPd_9.out hgg) (fun e => own_cur HOPd_9.out EU_9.out (by decide) g hgg (Option.some.inj e)))
            have HBv1_10 : Hid ((w10).heap[qv1]? = some (.cells #[.slice none 0 0, .slice none 0 0] 27)) := (hg.block _ (Array.getElem?_eq_some_iff.1 HBv1_9.out).1 (fun e => HNCv1.out (Option.some.inj e))).trans HBv1_9.out
            have HBv2_10 : Hid ((w10).heap[qv2]? = some (.cells #[.slice oCd csd.length pCd, .slice oPd wsd.length pPd] 27)) := (hg.block _ (Array.getElem?_eq_some_iff.1 HBv2_9.out).1 (fun e => HNCv2.out (Option.some.inj e))).trans HBv2_9.out
            have HBN6_10 : Hid ((w10).heap[qN6]? = some (.cells #[.slice none 0 0, .slice none 0 0] 27)) := (hg.block _ (Array.getElem?_eq_some_iff.1 HBN6_9.out).1 (fun e => HNCN6.out (Option.some.inj e))).trans HBN6_9.out
            have HBv3_10 : Hid ((w10).heap[qv3]? = some (.cells #[.string ⟨#[]⟩, .string ⟨#[97]⟩, .string ⟨#[98]⟩, .string ⟨#[99, 99]⟩] 9)) := (hg.block _ (Array.getElem?_eq_some_iff.1 HBv3_9.out).1 (fun e => HNCv3.out (Option.some.inj e))).trans HBv3_9.out
            have EU_10 : Hid (CurAt w10 c a len cap) := hcu
            clear hb9 HOCd_9 HOPd_9 HBv1_9 HBv2_9 HBN6_9 HBv3_9 EU_9 hg hcu
            clear HBv3_10
            have hS10 : w10.heap[qv2]? = some (.cells #[.slice oCd csd.length pCd, .slice oPd wsd.length pPd] 27) := HBv2_10.out
            refine hK.out _ _ hS10 (fun _ => ?_)
            clear hK K hS9
            refine wpAnyH_ready (rs := [6]) (by kernel_rfl) (by simp) ?_
            refine AllReadyH.cons rfl (fun K hK => ?_) AllReadyH.nil
            go_simp
            refine (specPut_right _ _ csd wsd _ _ ⟨HOCd_10.out, HOPd_10.out⟩ HRd.out n12 x13 HXx13.out).mono ?_
            rintro e w11 ⟨vv1, vv2, csn, wsn, obn, rfl, ⟨ownCn, ownPn⟩, hrn, bw⟩
            obtain ⟨oCn, pCn, rfl⟩ := slice_of_owns ownCn
            obtain ⟨oPn, pPn, rfl⟩ := slice_of_owns ownPn
            have HRn : Hid (RightD csn wsn) := hrn
            clear hrn
            have hb11 : w.grownBy w11 (some c) := grown_then hb10 (grown_below bw _)
            have HM11 : Hid ((w10).heap.size ≤ (w11).heap.size) := bw.size
            have HOCd_11 : Hid ((w11).ownsRow w.heap.size 9 1 (.slice oCd csd.length pCd) csd.length (csd.map Value.string)) := owns_below HOCd_10.out bw (fun g hg => owns_lt HOCd_10.out hg)
            have HOPd_11 : Hid ((w11).ownsRow w.heap.size 67 2 (.slice oPd wsd.length pPd) wsd.length (flatWrite wsd)) := owns_below HOPd_10.out bw (fun g hg => owns_lt HOPd_10.out hg)
            have HBv1_11 : Hid ((w11).heap[qv1]? = some (.cells #[.slice none 0 0, .slice none 0 0] 27)) := blk_below HBv1_10.out bw
            have HBv2_11 : Hid ((w11).heap[qv2]? = some (.cells #[.slice oCd csd.length pCd, .slice oPd wsd.length pPd] 27)) := blk_below HBv2_10.out bw
            have HBN6_11 : Hid ((w11).heap[qN6]? = some (.cells #[.slice none 0 0, .slice none 0 0] 27)) := blk_below HBN6_10.out bw
            have EU_11 : Hid (CurAt w11 c a len cap) := EU_10.out.below bw EU_10.out.lt
            have HOCn_11 : Hid ((w11).ownsRow w.heap.size 9 1 (.slice oCn csn.length pCn) csn.length (csn.map Value.string)) := owns_wide ownCn hb10.size
            have LOCn : Hid (∀ g, (Value.ownBlock (.slice oCn csn.length pCn)) = some g → (w10).heap.size ≤ g) := fun g hg => owns_ge ownCn hg
            have HICn : Hid (∀ g, (Value.ownBlock (.slice oCn csn.length pCn)) = some g → g < (w11).heap.size) := fun g hg => owns_lt ownCn hg
            clear ownCn
            have HOPn_11 : Hid ((w11).ownsRow w.heap.size 67 2 (.slice oPn wsn.length pPn) wsn.length (flatWrite wsn)) := owns_wide ownPn hb10.size
            have LOPn : Hid (∀ g, (Value.ownBlock (.slice oPn wsn.length pPn)) = some g → (w10).heap.size ≤ g) := fun g hg => owns_ge ownPn hg
            have HIPn : Hid (∀ g, (Value.ownBlock (.slice oPn wsn.length pPn)) = some g → g < (w11).heap.size) := fun g hg => owns_lt ownPn hg
            clear ownPn
            clear hb10 HOCd_10 HOPd_10 HBv1_10 HBv2_10 HBN6_10 EU_10 bw
            have hS11 : w11.heap[qv2]? = some (.cells #[.slice oCd csd.length pCd, .slice oPd wsd.length pPd] 27) := HBv2_11.out
            refine hK.out _ _ hS11 (fun _ => ?_)
            clear hK K hS10
            refine wpAnyH_takeD (i := 7) (v := .tuple #[.agg #[.slice oCn csn.length pCn, .slice oPn wsn.length pPn], .bool obn]) (some 16) rfl rfl (by kernel_rfl) (by kernel_rfl) (by kernel_rfl) (fun _ _ _ h => h) (Or.inl ⟨by rfl, by intro W _; go_simp⟩) hS11 ?_
            simp only [Act.put, List.setIfInBounds_toArray, List.set_cons_zero, List.set_cons_succ]
            refine wpAnyH_takeD (i := 8) (v := .agg #[.slice oCn csn.length pCn, .slice oPn wsn.length pPn]) (some 24) rfl rfl (by kernel_rfl) (by kernel_rfl) (by kernel_rfl) (fun _ _ _ h => h) (Or.inl ⟨by rfl, by intro W _; go_simp⟩) hS11 ?_
            simp only [Act.put, List.setIfInBounds_toArray, List.set_cons_zero, List.set_cons_succ]
            refine wpAnyH_takeD (i := 9) (v := .bool obn) (some 25) rfl rfl (by kernel_rfl) (by kernel_rfl) (by kernel_rfl) (fun _ _ _ h => h) (Or.inl ⟨by rfl, by intro W _; go_simp⟩) hS11 ?_
            simp only [Act.put, List.setIfInBounds_toArray, List.set_cons_zero, List.set_cons_succ]
            refine wpAnyH_ready (rs := [11]) (by kernel_rfl) (by simp) ?_
            refine AllReadyH.cons rfl (fun K hK => ?_) AllReadyH.nil
            have ce0 : (w11).cell? ⟨qN6, 0, none⟩ = some (.slice none 0 0) := (cell_of HBN6_11.out 0).trans rfl
            have fe0 : (w11).frozen? ⟨qN6, 0, none⟩ = false := frozen_of HBN6_11.out 0
            have ce1 : (w11).cell? ⟨qN6, 1, none⟩ = some (.slice none 0 0) := (cell_of HBN6_11.out 1).trans rfl
            have fe1 : (w11).frozen? ⟨qN6, 1, none⟩ = false := frozen_of HBN6_11.out 1
            obtain ⟨w12, hY⟩ : ∃ Y, Y = ((w11.setCell ⟨qN6, 0, none⟩ (.slice oCn csn.length pCn)).setCell ⟨qN6, 1, none⟩ (.slice oPn wsn.length pPn)) := ⟨_, rfl⟩
            have HY : Hid (((w11.setCell ⟨qN6, 0, none⟩ (.slice oCn csn.length pCn)).setCell ⟨qN6, 1, none⟩ (.slice oPn wsn.length pPn)) = w12) := hY.symm
            have hb12 : w.grownBy w12 (some c) := by rw [hY]; exact (grown_own (grown_own hb11 HGN6.out 0 _) HGN6.out 1 _)
            have HM12 : Hid ((w11).heap.size ≤ w12.heap.size) := by show _ ≤ _; rw [hY]; simp
            have HOCd_12 : Hid ((w12).ownsRow w.heap.size 9 1 (.slice oCd csd.length pCd) csd.length (csd.map Value.string)) := by show World.ownsRow _ _ _ _ _ _ _; rw [hY]; exact owns_same HOCd_11.out (fun g hg => by have hne := own_ne HOCd_11.out HBN6_11.out (by decide) g hg; rw [heap_setCell_other _ _ g _ hne, heap_setCell_other _ _ g _ hne])
            have HOPd_12 : Hid ((w12).ownsRow w.heap.size 67 2 (.slice oPd wsd.length pPd) wsd.length (flatWrite wsd)) := by show World.ownsRow _ _ _ _ _ _ _; rw [hY]; exact owns_same HOPd_11.out (fun g hg => by have hne := own_ne HOPd_11.out HBN6_11.out (by decide) g hg; rw [heap_setCell_other _ _ g _ hne, heap_setCell_other _ _ g _ hne])
            have HOCn_12 : Hid ((w12).ownsRow w.heap.size 9 1 (.slice oCn csn.length pCn) csn.length (csn.map Value.string)) := by show World.ownsRow _ _ _ _ _ _ _; rw [hY]; exact owns_same HOCn_11.out (fun g hg => by have hne := own_ne HOCn_11.out HBN6_11.out (by decide) g hg; rw [heap_setCell_other _ _ g _ hne, heap_setCell_other _ _ g _ hne])
            have HOPn_12 : Hid ((w12).ownsRow w.heap.size 67 2 (.slice oPn wsn.length pPn) wsn.length (flatWrite wsn)) := by show World.ownsRow _ _ _ _ _ _ _; rw [hY]; exact owns_same HOPn_11.out (fun g hg => by have hne := own_ne HOPn_11.out HBN6_11.out (by decide) g hg; rw [heap_setCell_other _ _ g _ hne, heap_setCell_other _ _ g _ hne])
            have HBv1_12 : Hid ((w12).heap[qv1]? = some (.cells #[.slice none 0 0, .slice none 0 0] 27)) := by show _ = _; rw [hY, heap_setCell_other _ _ _ _ HNv1N6.out, heap_setCell_other _ _ _ _ HNv1N6.out]; exact HBv1_11.out
            have HBv2_12 : Hid ((w12).heap[qv2]? = some (.cells #[.slice oCd csd.length pCd, .slice oPd wsd.length pPd] 27)) := by show _ = _; rw [hY, heap_setCell_other _ _ _ _ HNv2N6.out, heap_setCell_other _ _ _ _ HNv2N6.out]; exact HBv2_11.out
            have EU_12 : Hid (CurAt w12 c a len cap) := by show CurAt _ _ _ _ _; rw [hY]; exact (cur_set (cur_set EU_11.out HNCN6.out 0 _) HNCN6.out 1 _)
            have HBN6_12 : Hid ((w12).heap[qN6]? = some (.cells #[.slice oCn csn.length pCn, .slice oPn wsn.length pPn] 27)) := by show _ = _; rw [hY]; have h := (heap_set _ qN6 1 _ _ _ (.slice oPn wsn.length pPn) (heap_set _ qN6 0 _ _ _ (.slice oCn csn.length pCn) HBN6_11.out)); simpa using h
            clear hY hb11 HOCd_11 HOPd_11 HOCn_11 HOPn_11 HBv1_11 HBv2_11 HBN6_11 EU_11
            go_simp
            rw [HY.out]
            have hS12 : w12.heap[qv2]? = some (.cells #[.slice oCd csd.length pCd, .slice oPd wsd.length pPd] 27) := HBv2_12.out
            refine hK.out _ _ hS12 (fun _ => ?_)
            clear hK K HY hS11 ce0 fe0 ce1 fe1
            refine wpAnyH_takeD (i := 12) (v := .bool obn) (some 7) rfl rfl (by kernel_rfl) (by kernel_rfl) (by kernel_rfl) (fun _ _ _ h => h) (Or.inl ⟨by rfl, by intro W _; go_simp⟩) hS12 ?_
            simp only [Act.put, List.setIfInBounds_toArray, List.set_cons_zero, List.set_cons_succ]
            clear hS12
            refine wpAnyH_done (by kernel_rfl) ?_ _
            go_wp2_with fail
            go_meet
            exact ⟨qN6, csn, wsn, oCn, pCn, oPn, pPn, obn, rfl, rfl, HRn, ⟨hb12, EU_12.out, HBv1_12.out, HBv2_12.out, HOCd_12.out, HOPd_12.out, HBN6_12.out, HOCn_12.out, HOPn_12.out, HGN6.out, HNCN6.out, HNv1N6.out, HNv2N6.out⟩⟩
          · go_simp
            have bw : Below w7.heap.size w7 (w7.alloc (.cells #[.string ⟨#[]⟩, .string ⟨#[97]⟩, .string ⟨#[98]⟩, .string ⟨#[99, 99]⟩] 9)) := (Below.refl _ _).alloc (Nat.le_refl _) _
            have hSA : (w7.alloc (.cells #[.string ⟨#[]⟩, .string ⟨#[97]⟩, .string ⟨#[98]⟩, .string ⟨#[99, 99]⟩] 9)).heap[qv2]? = some (.cells #[.slice oCd csd.length pCd, .slice oPd wsd.length pPd] 27) := blk_below HBv2_7.out bw
            refine hK.out _ _ hSA (fun _ => ?_)
            clear hK K hSA bw hS7
            obtain ⟨qv3, hqv3⟩ : ∃ o, o = w7.heap.size := ⟨_, rfl⟩
            obtain ⟨w8, hXj⟩ : ∃ X, X = (w7.alloc (.cells #[.string ⟨#[]⟩, .string ⟨#[97]⟩, .string ⟨#[98]⟩, .string ⟨#[99, 99]⟩] 9)) := ⟨_, rfl⟩
            rw [← hqv3, ← hXj]
            have bw : Below w7.heap.size w7 w8 := by rw [hXj]; exact (Below.refl _ _).alloc (Nat.le_refl _) _
            have hb8 : w.grownBy w8 (some c) := grown_then hb7 (grown_below bw _)
            have HM8 : Hid ((w7).heap.size ≤ (w8).heap.size) := bw.size
            have HOCd_8 : Hid ((w8).ownsRow w.heap.size 9 1 (.slice oCd csd.length pCd) csd.length (csd.map Value.string)) := owns_below HOCd_7.out bw (fun g hg => owns_lt HOCd_7.out hg)
            have HOPd_8 : Hid ((w8).ownsRow w.heap.size 67 2 (.slice oPd wsd.length pPd) wsd.length (flatWrite wsd)) := owns_below HOPd_7.out bw (fun g hg => owns_lt HOPd_7.out hg)
            have HBv1_8 : Hid ((w8).heap[qv1]? = some (.cells #[.slice none 0 0, .slice none 0 0] 27)) := blk_below HBv1_7.out bw
            have HBv2_8 : Hid ((w8).heap[qv2]? = some (.cells #[.slice oCd csd.length pCd, .slice oPd wsd.length pPd] 27)) := blk_below HBv2_7.out bw
            have HBN6_8 : Hid ((w8).heap[qN6]? = some (.cells #[.slice none 0 0, .slice none 0 0] 27)) := blk_below HBN6_7.out bw
            have EU_8 : Hid (CurAt w8 c a len cap) := EU_7.out.below bw EU_7.out.lt
            have HNv1v3 : Hid (qv1 ≠ qv3) := fun e => by have h1 := (Array.getElem?_eq_some_iff.1 HBv1_7.out).1; omega
            have HNv2v3 : Hid (qv2 ≠ qv3) := fun e => by have h1 := (Array.getElem?_eq_some_iff.1 HBv2_7.out).1; omega
            have HNN6v3 : Hid (qN6 ≠ qv3) := fun e => by have h1 := (Array.getElem?_eq_some_iff.1 HBN6_7.out).1; omega
            have HNCv3 : Hid (qv3 ≠ c) := fun e => by have h1 := EU_7.out.lt; omega
            have HBv3_8 : Hid ((w8).heap[qv3]? = some (.cells #[.string ⟨#[]⟩, .string ⟨#[97]⟩, .string ⟨#[98]⟩, .string ⟨#[99, 99]⟩] 9)) := by show _ = _; rw [hXj, hqv3]; exact heap_alloc_new _ _
            have HGv3 : Hid (w.heap.size ≤ qv3) := by show _ ≤ _; rw [hqv3]; exact hb7.size
            have hS8 : w8.heap[qv2]? = some (.cells #[.slice oCd csd.length pCd, .slice oPd wsd.length pPd] 27) := HBv2_8.out
            clear hb7 HOCd_7 HOPd_7 HBv1_7 HBv2_7 HBN6_7 EU_7 bw hXj hqv3
            refine wpAnyH_ready (rs := [2]) (by kernel_rfl) (by simp) ?_
            refine AllReadyH.cons rfl (fun K hK => ?_) AllReadyH.nil
            go_simp
            refine (l1Below_any c B 20 a len cap zs _ EU_8.out (HCO.out _ hb8) HBC.out (by decide) (by decide)).mono ?_
            rintro e w9 ⟨n12, rfl, hn012, hn112, hcu, hg⟩
            have hb9 : w.grownBy w9 (some c) := grown_then hb8 hg
            have HM9 : Hid ((w8).heap.size ≤ (w9).heap.size) := hg.size
            have HOCd_9 : Hid ((w9).ownsRow w.heap.size 9 1 (.slice oCd csd.length pCd) csd.length (csd.map Value.string)) := owns_same HOCd_8.out (fun g hgg => hg.block g (owns_lt HOCd_8.out hgg) (fun e => own_cur HOCd_8.out EU_8.out (by decide) g hgg (Option.some.inj e)))
            have HOPd_9 : Hid ((w9).ownsRow w.heap.size 67 2 (.slice oPd wsd.length pPd) wsd.length (flatWrite wsd)) := owns_same HOPd_8.out (fun g hgg => hg.block g (owns_lt HOPd_8.out hgg) (fun e => own_cur HOPd_8.out EU_8.out (by decide) g hgg (Option.some.inj e)))
            have HBv1_9 : Hid ((w9).heap[qv1]? = some (.cells #[.slice none 0 0, .slice none 0 0] 27)) := (hg.block _ (Array.getElem?_eq_some_iff.1 HBv1_8.out).1 (fun e => HNCv1.out (Option.some.inj e))).trans HBv1_8.out
            have HBv2_9 : Hid ((w9).heap[qv2]? = some (.cells #[.slice oCd csd.length pCd, .slice oPd wsd.length pPd] 27)) := (hg.block _ (Array.getElem?_eq_some_iff.1 HBv2_8.out).1 (fun e => HNCv2.out (Option.some.inj e))).trans HBv2_8.out
            have HBN6_9 : Hid ((w9).heap[qN6]? = some (.cells #[.slice none 0 0, .slice none 0 0] 27)) := (hg.block _ (Array.getElem?_eq_some_iff.1 HBN6_8.out).1 (fun e => HNCN6.out (Option.some.inj e))).trans HBN6_8.out
            have HBv3_9 : Hid ((w9).heap[qv3]? = some (.cells #[.string ⟨#[]⟩, .string ⟨#[97]⟩, .string ⟨#[98]⟩, .string ⟨#[99, 99]⟩] 9)) := (hg.block _ (Array.getElem?_eq_some_iff.1 HBv3_8.out).1 (fun e => HNCv3.out (Option.some.inj e))).trans HBv3_8.out
            have EU_9 : Hid (CurAt w9 c a len cap) := hcu
            clear hb8 HOCd_8 HOPd_8 HBv1_8 HBv2_8 HBN6_8 HBv3_8 EU_8 hg hcu
            have hS9 : w9.heap[qv2]? = some (.cells #[.slice oCd csd.length pCd, .slice oPd wsd.length pPd] 27) := HBv2_9.out
            refine hK.out _ _ hS9 (fun _ => ?_)
            clear hK K hS8
            refine wpAnyH_ready (rs := [5]) (by kernel_rfl) (by simp) ?_
            refine AllReadyH.cons rfl (fun K hK => ?_) AllReadyH.nil
            go_simp
            have HLS : Hid (ListAt w9 qv3 4 (textAt [⟨#[]⟩, ⟨#[97]⟩, ⟨#[98]⟩, ⟨#[99, 99]⟩])) := by
              intro j hj
              match j, hj with
              | 0, _ => exact (cell_of HBv3_9.out 0).trans rfl
              | 1, _ => exact (cell_of HBv3_9.out 1).trans rfl
              | 2, _ => exact (cell_of HBv3_9.out 2).trans rfl
              | 3, _ => exact (cell_of HBv3_9.out 3).trans rfl
            refine (l1Pick_any c B qv3 4 (textAt [⟨#[]⟩, ⟨#[97]⟩, ⟨#[98]⟩, ⟨#[99, 99]⟩]) a len cap zs _ EU_9.out (HCO.out _ hb9) HBC.out (by decide) (by decide) HLS.out HNCv3.out).mono ?_
            rintro e w10 ⟨jx, hjx, rfl, hcu, hg⟩
            obtain ⟨x13, hx13⟩ : ∃ x, x = textAt [⟨#[]⟩, ⟨#[97]⟩, ⟨#[98]⟩, ⟨#[99, 99]⟩] jx := ⟨_, rfl⟩
            rw [← hx13]
            have HXx13 : Hid (x13.size ≤ 64) := by show _ ≤ _; rw [hx13]; exact (show ∀ j, j < 4 → (textAt [⟨#[]⟩, ⟨#[97]⟩, ⟨#[98]⟩, ⟨#[99, 99]⟩] j).size ≤ 64 by decide) jx hjx
            clear hx13 hjx HLS
            have hb10 : w.grownBy w10 (some c) := grown_then hb9 hg
            have HM10 : Hid ((w9).heap.size ≤ (w10).heap.size) := hg.size
            have HOCd_10 : Hid ((w10).ownsRow w.heap.size 9 1 (.slice oCd csd.length pCd) csd.length (csd.map Value.string)) := owns_same HOCd_9.out (fun g hgg => hg.block g (owns_lt HOCd_9.out hgg) (fun e => own_cur HOCd_9.out EU_9.out (by decide) g hgg (Option.some.inj e)))
            have HOPd_10 : Hid ((w10).ownsRow w.heap.size 67 2 (.slice oPd wsd.length pPd) wsd.length (flatWrite wsd)) := owns_same HOPd_9.out (fun g hgg => hg.block g (owns_lt HOPd_9.out hgg) (fun e => own_cur HOPd_9.out EU_9.out (by decide) g hgg (Option.some.inj e)))
            have HBv1_10 : Hid ((w10).heap[qv1]? = some (.cells #[.slice none 0 0, .slice none 0 0] 27)) := (hg.block _ (Array.getElem?_eq_some_iff.1 HBv1_9.out).1 (fun e => HNCv1.out (Option.some.inj e))).trans HBv1_9.out
            have HBv2_10 : Hid ((w10).heap[qv2]? = some (.cells #[.slice oCd csd.length pCd, .slice oPd wsd.length pPd] 27)) := (hg.block _ (Array.getElem?_eq_some_iff.1 HBv2_9.out).1 (fun e => HNCv2.out (Option.some.inj e))).trans HBv2_9.out
            have HBN6_10 : Hid ((w10).heap[qN6]? = some (.cells #[.slice none 0 0, .slice none 0 0] 27)) := (hg.block _ (Array.getElem?_eq_some_iff.1 HBN6_9.out).1 (fun e => HNCN6.out (Option.some.inj e))).trans HBN6_9.out
            have HBv3_10 : Hid ((w10).heap[qv3]? = some (.cells #[.string ⟨#[]⟩, .string ⟨#[97]⟩, .string ⟨#[98]⟩, .string ⟨#[99, 99]⟩] 9)) := (hg.block _ (Array.getElem?_eq_some_iff.1 HBv3_9.out).1 (fun e => HNCv3.out (Option.some.inj e))).trans HBv3_9.out
            have EU_10 : Hid (CurAt w10 c a len cap) := hcu
            clear hb9 HOCd_9 HOPd_9 HBv1_9 HBv2_9 HBN6_9 HBv3_9 EU_9 hg hcu
            clear HBv3_10
            have hS10 : w10.heap[qv2]? = some (.cells #[.slice oCd csd.length pCd, .slice oPd wsd.length pPd] 27) := HBv2_10.out
            refine hK.out _ _ hS10 (fun _ => ?_)
            clear hK K hS9
            refine wpAnyH_ready (rs := [6]) (by kernel_rfl) (by simp) ?_
            refine AllReadyH.cons rfl (fun K hK => ?_) AllReadyH.nil
            go_simp
            refine (specPut_right _ _ csd wsd _ _ ⟨HOCd_10.out, HOPd_10.out⟩ HRd.out n12 x13 HXx13.out).mono ?_
            rintro e w11 ⟨vv1, vv2, csn, wsn, obn, rfl, ⟨ownCn, ownPn⟩, hrn, bw⟩
            obtain ⟨oCn, pCn, rfl⟩ := slice_of_owns ownCn
            obtain ⟨oPn, pPn, rfl⟩ := slice_of_owns ownPn
            have HRn : Hid (RightD csn wsn) := hrn
            clear hrn
            have hb11 : w.grownBy w11 (some c) := grown_then hb10 (grown_below bw _)
            have HM11 : Hid ((w10).heap.size ≤ (w11).heap.size) := bw.size
            have HOCd_11 : Hid ((w11).ownsRow w.heap.size 9 1 (.slice oCd csd.length pCd) csd.length (csd.map Value.string)) := owns_below HOCd_10.out bw (fun g hg => owns_lt HOCd_10.out hg)
            have HOPd_11 : Hid ((w11).ownsRow w.heap.size 67 2 (.slice oPd wsd.length pPd) wsd.length (flatWrite wsd)) := owns_below HOPd_10.out bw (fun g hg => owns_lt HOPd_10.out hg)
            have HBv1_11 : Hid ((w11).heap[qv1]? = some (.cells #[.slice none 0 0, .slice none 0 0] 27)) := blk_below HBv1_10.out bw
            have HBv2_11 : Hid ((w11).heap[qv2]? = some (.cells #[.slice oCd csd.length pCd, .slice oPd wsd.length pPd] 27)) := blk_below HBv2_10.out bw
            have HBN6_11 : Hid ((w11).heap[qN6]? = some (.cells #[.slice none 0 0, .slice none 0 0] 27)) := blk_below HBN6_10.out bw
            have EU_11 : Hid (CurAt w11 c a len cap) := EU_10.out.below bw EU_10.out.lt
            have HOCn_11 : Hid ((w11).ownsRow w.heap.size 9 1 (.slice oCn csn.length pCn) csn.length (csn.map Value.string)) := owns_wide ownCn hb10.size
            have LOCn : Hid (∀ g, (Value.ownBlock (.slice oCn csn.length pCn)) = some g → (w10).heap.size ≤ g) := fun g hg => owns_ge ownCn hg
            have HICn : Hid (∀ g, (Value.ownBlock (.slice oCn csn.length pCn)) = some g → g < (w11).heap.size) := fun g hg => owns_lt ownCn hg
            clear ownCn
            have HOPn_11 : Hid ((w11).ownsRow w.heap.size 67 2 (.slice oPn wsn.length pPn) wsn.length (flatWrite wsn)) := owns_wide ownPn hb10.size
            have LOPn : Hid (∀ g, (Value.ownBlock (.slice oPn wsn.length pPn)) = some g → (w10).heap.size ≤ g) := fun g hg => owns_ge ownPn hg
            have HIPn : Hid (∀ g, (Value.ownBlock (.slice oPn wsn.length pPn)) = some g → g < (w11).heap.size) := fun g hg => owns_lt ownPn hg
            clear ownPn
            clear hb10 HOCd_10 HOPd_10 HBv1_10 HBv2_10 HBN6_10 EU_10 bw
            have hS11 : w11.heap[qv2]? = some (.cells #[.slice oCd csd.length pCd, .slice oPd wsd.length pPd] 27) := HBv2_11.out
            refine hK.out _ _ hS11 (fun _ => ?_)
            clear hK K hS10
            refine wpAnyH_takeD (i := 7) (v := .tuple #[.agg #[.slice oCn csn.length pCn, .slice oPn wsn.length pPn], .bool obn]) (some 16) rfl rfl (by kernel_rfl) (by kernel_rfl) (by kernel_rfl) (fun _ _ _ h => h) (Or.inl ⟨by rfl, by intro W _; go_simp⟩) hS11 ?_
            simp only [Act.put, List.setIfInBounds_toArray, List.set_cons_zero, List.set_cons_succ]
            refine wpAnyH_takeD (i := 8) (v := .agg #[.slice oCn csn.length pCn, .slice oPn wsn.length pPn]) (some 24) rfl rfl (by kernel_rfl) (by kernel_rfl) (by kernel_rfl) (fun _ _ _ h => h) (Or.inl ⟨by rfl, by intro W _; go_simp⟩) hS11 ?_
            simp only [Act.put, List.setIfInBounds_toArray, List.set_cons_zero, List.set_cons_succ]
            refine wpAnyH_takeD (i := 9) (v := .bool obn) (some 25) rfl rfl (by kernel_rfl) (by kernel_rfl) (by kernel_rfl) (fun _ _ _ h => h) (Or.inl ⟨by rfl, by intro W _; go_simp⟩) hS11 ?_
            simp only [Act.put, List.setIfInBounds_toArray, List.set_cons_zero, List.set_cons_succ]
            refine wpAnyH_ready (rs := [11]) (by kernel_rfl) (by simp) ?_
            refine AllReadyH.cons rfl (fun K hK => ?_) AllReadyH.nil
            have ce0 : (w11).cell? ⟨qN6, 0, none⟩ = some (.slice none 0 0) := (cell_of HBN6_11.out 0).trans rfl
            have fe0 : (w11).frozen? ⟨qN6, 0, none⟩ = false := frozen_of HBN6_11.out 0
            have ce1 : (w11).cell? ⟨qN6, 1, none⟩ = some (.slice none 0 0) := (cell_of HBN6_11.out 1).trans rfl
            have fe1 : (w11).frozen? ⟨qN6, 1, none⟩ = false := frozen_of HBN6_11.out 1
            obtain ⟨w12, hY⟩ : ∃ Y, Y = ((w11.setCell ⟨qN6, 0, none⟩ (.slice oCn csn.length pCn)).setCell ⟨qN6, 1, none⟩ (.slice oPn wsn.length pPn)) := ⟨_, rfl⟩
            have HY : Hid (((w11.setCell ⟨qN6, 0, none⟩ (.slice oCn csn.length pCn)).setCell ⟨qN6, 1, none⟩ (.slice oPn wsn.length pPn)) = w12) := hY.symm
            have hb12 : w.grownBy w12 (some c) := by rw [hY]; exact (grown_own (grown_own hb11 HGN6.out 0 _) HGN6.out 1 _)
            have HM12 : Hid ((w11).heap.size ≤ w12.heap.size) := by show _ ≤ _; rw [hY]; simp
            have HOCd_12 : Hid ((w12).ownsRow w.heap.size 9 1 (.slice oCd csd.length pCd) csd.length (csd.map Value.string)) := by show World.ownsRow _ _ _ _ _ _ _; rw [hY]; exact owns_same HOCd_11.out (fun g hg => by have hne := own_ne HOCd_11.out HBN6_11.out (by decide) g hg; rw [heap_setCell_other _ _ g _ hne, heap_setCell_other _ _ g _ hne])
            have HOPd_12 : Hid ((w12).ownsRow w.heap.size 67 2 (.slice oPd wsd.length pPd) wsd.length (flatWrite wsd)) := by show World.ownsRow _ _ _ _ _ _ _; rw [hY]; exact owns_same HOPd_11.out (fun g hg => by have hne := own_ne HOPd_11.out HBN6_11.out (by decide) g hg; rw [heap_setCell_other _ _ g _ hne, heap_setCell_other _ _ g _ hne])
            have HOCn_12 : Hid ((w12).ownsRow w.heap.size 9 1 (.slice oCn csn.length pCn) csn.length (csn.map Value.string)) := by show World.ownsRow _ _ _ _ _ _ _; rw [hY]; exact owns_same HOCn_11.out (fun g hg => by have hne := own_ne HOCn_11.out HBN6_11.out (by decide) g hg; rw [heap_setCell_other _ _ g _ hne, heap_setCell_other _ _ g _ hne])
            have HOPn_12 : Hid ((w12).ownsRow w.heap.size 67 2 (.slice oPn wsn.length pPn) wsn.length (flatWrite wsn)) := by show World.ownsRow _ _ _ _ _ _ _; rw [hY]; exact owns_same HOPn_11.out (fun g hg => by have hne := own_ne HOPn_11.out HBN6_11.out (by decide) g hg; rw [heap_setCell_other _ _ g _ hne, heap_setCell_other _ _ g _ hne])
            have HBv1_12 : Hid ((w12).heap[qv1]? = some (.cells #[.slice none 0 0, .slice none 0 0] 27)) := by show _ = _; rw [hY, heap_setCell_other _ _ _ _ HNv1N6.out, heap_setCell_other _ _ _ _ HNv1N6.out]; exact HBv1_11.out
            have HBv2_12 : Hid ((w12).heap[qv2]? = some (.cells #[.slice oCd csd.length pCd, .slice oPd wsd.length pPd] 27)) := by show _ = _; rw [hY, heap_setCell_other _ _ _ _ HNv2N6.out, heap_setCell_other _ _ _ _ HNv2N6.out]; exact HBv2_11.out
            have EU_12 : Hid (CurAt w12 c a len cap) := by show CurAt _ _ _ _ _; rw [hY]; exact (cur_set (cur_set EU_11.out HNCN6.out 0 _) HNCN6.out 1 _)
            have HBN6_12 : Hid ((w12).heap[qN6]? = some (.cells #[.slice oCn csn.length pCn, .slice oPn wsn.length pPn] 27)) := by show _ = _; rw [hY]; have h := (heap_set _ qN6 1 _ _ _ (.slice oPn wsn.length pPn) (heap_set _ qN6 0 _ _ _ (.slice oCn csn.length pCn) HBN6_11.out)); simpa using h
            clear hY hb11 HOCd_11 HOPd_11 HOCn_11 HOPn_11 HBv1_11 HBv2_11 HBN6_11 EU_11
            go_simp
            rw [HY.out]
            have hS12 : w12.heap[qv2]? = some (.cells #[.slice oCd csd.length pCd, .slice oPd wsd.length pPd] 27) := HBv2_12.out
            refine hK.out _ _ hS12 (fun _ => ?_)
            clear hK K HY hS11 ce0 fe0 ce1 fe1
            refine wpAnyH_takeD (i := 12) (v := .bool obn) (some 7) rfl rfl (by kernel_rfl) (by kernel_rfl) (by kernel_rfl) (fun _ _ _ h => h) (Or.inl ⟨by rfl, by intro W _; go_simp⟩) hS12 ?_
            simp only [Act.put, List.setIfInBounds_toArray, List.set_cons_zero, List.set_cons_succ]
            clear hS12
            refine wpAnyH_done (by kernel_rfl) ?_ _
            go_wp2_with fail
            go_meet
            exact ⟨qN6, csn, wsn, oCn, pCn, oPn, pPn, obn, rfl, rfl, HRn, ⟨hb12, EU_12.out, HBv1_12.out, HBv2_12.out, HOCd_12.out, HOPd_12.out, HBN6_12.out, HOCn_12.out, HOPn_12.out, HGN6.out, HNCN6.out, HNv1N6.out, HNv2N6.out⟩⟩
      case rest =>
      obtain ⟨qN6, csn, wsn, oCn, pCn, oPn, pPn, obn, hsx6, hsx7, HRn, HF⟩ := hcut
      rw [hsx6, hsx7]
      obtain ⟨w6, hwj⟩ : ∃ W, W = wc := ⟨_, rfl⟩
      rw [← hwj] at HF ⊢
      clear hsx6 hsx7 hwj
      obtain ⟨hb6, f1, f2, f3, f4, f5, f6, f7, f8, f9, f10, f11, f12⟩ := HF.out
      have EU_6 : Hid (CurAt w6 c a len cap) := f1
      have HBv1_6 : Hid ((w6).heap[qv1]? = some (.cells #[.slice none 0 0, .slice none 0 0] 27)) := f2
      have HBv2_6 : Hid ((w6).heap[qv2]? = some (.cells #[.slice oCd csd.length pCd, .slice oPd wsd.length pPd] 27)) := f3
      have HOCd_6 : Hid ((w6).ownsRow w.heap.size 9 1 (.slice oCd csd.length pCd) csd.length (csd.map Value.string)) := f4
      have HOPd_6 : Hid ((w6).ownsRow w.heap.size 67 2 (.slice oPd wsd.length pPd) wsd.length (flatWrite wsd)) := f5
      have HBN6_6 : Hid ((w6).heap[qN6]? = some (.cells #[.slice oCn csn.length pCn, .slice oPn wsn.length pPn] 27)) := f6
      have HOCn_6 : Hid ((w6).ownsRow w.heap.size 9 1 (.slice oCn csn.length pCn) csn.length (csn.map Value.string)) := f7
      have HOPn_6 : Hid ((w6).ownsRow w.heap.size 67 2 (.slice oPn wsn.length pPn) wsn.length (flatWrite wsn)) := f8
      have HGN6 : Hid (w.heap.size ≤ qN6) := f9
      have HNCN6 : Hid (qN6 ≠ c) := f10
      have HNv1N6 : Hid (qv1 ≠ qN6) := f11
      have HNv2N6 : Hid (qv2 ≠ qN6) := f12
      clear HF f1 f2 f3 f4 f5 f6 f7 f8 f9 f10 f11 f12 hb5 HOCd_5 HOPd_5 HBv1_5 HBv2_5 EU_5
      cases obn with
      | false =>
        go_wp2_with fail
        refine (l1Once_any c B 9 a len cap zs _ EU_6.out (HCO.out _ hb6) HBC.out (by decide) (by decide)).mono ?_
        rintro e w7 ⟨hbo, hcu, hg⟩
        obtain ⟨bo32, rfl⟩ := hbo.out
        clear hbo
        have hb7 : w.grownBy w7 (some c) := grown_then hb6 hg
        have HM7 : Hid ((w6).heap.size ≤ (w7).heap.size) := hg.size
        have HOCd_7 : Hid ((w7).ownsRow w.heap.size 9 1 (.slice oCd csd.length pCd) csd.length (csd.map Value.string)) := owns_same HOCd_6.out (fun g hgg => hg.block g (owns_lt HOCd_6.out hgg) (fun e => own_cur HOCd_6.out EU_6.out (by decide) g hgg (Option.some.inj e)))
        have HOPd_7 : Hid ((w7).ownsRow w.heap.size 67 2 (.slice oPd wsd.length pPd) wsd.length (flatWrite wsd)) := owns_same HOPd_6.out (fun g hgg => hg.block g (owns_lt HOPd_6.out hgg) (fun e => own_cur HOPd_6.out EU_6.out (by decide) g hgg (Option.some.inj e)))
        have HOCn_7 : Hid ((w7).ownsRow w.heap.size 9 1 (.slice oCn csn.length pCn) csn.length (csn.map Value.string)) := owns_same HOCn_6.out (fun g hgg => hg.block g (owns_lt HOCn_6.out hgg) (fun e => own_cur HOCn_6.out EU_6.out (by decide) g hgg (Option.some.inj e)))
        have HOPn_7 : Hid ((w7).ownsRow w.heap.size 67 2 (.slice oPn wsn.length pPn) wsn.length (flatWrite wsn)) := owns_same HOPn_6.out (fun g hgg => hg.block g (owns_lt HOPn_6.out hgg) (fun e => own_cur HOPn_6.out EU_6.out (by decide) g hgg (Option.some.inj e)))
        have HBv1_7 : Hid ((w7).heap[qv1]? = some (.cells #[.slice none 0 0, .slice none 0 0] 27)) := (hg.block _ (Array.getElem?_eq_some_iff.1 HBv1_6.out).1 (fun e => HNCv1.out (Option.some.inj e))).trans HBv1_6.out
        have HBv2_7 : Hid ((w7).heap[qv2]? = some (.cells #[.slice oCd csd.length pCd, .slice oPd wsd.length pPd] 27)) := (hg.block _ (Array.getElem?_eq_some_iff.1 HBv2_6.out).1 (fun e => HNCv2.out (Option.some.inj e))).trans HBv2_6.out
        have HBN6_7 : Hid ((w7).heap[qN6]? = some (.cells #[.slice oCn csn.length pCn, .slice oPn wsn.length pPn] 27)) := (hg.block _ (Array.getElem?_eq_some_iff.1 HBN6_6.out).1 (fun e => HNCN6.out (Option.some.inj e))).trans HBN6_6.out
        have EU_7 : Hid (CurAt w7 c a len cap) := hcu
        clear hb6 HOCd_6 HOPd_6 HOCn_6 HOPn_6 HBv1_6 HBv2_6 HBN6_6 EU_6 hg hcu
        cases bo32 with
        | false =>
          go_wp2_with fail
          go_roundw
          case rel => exact ⟨j + 1, csd, wsd, oCd, pCd, oPd, pPd, by omega, by go_num, HRd, ⟨hb7, EU_7.out, HBv1_7.out, HBv2_7.out, HOCd_7.out, HOPd_7.out⟩⟩
          case measure => simp [intOf]; omega
        | true =>
          have cv2_0 : (w7).cell? ⟨qv2, 0, none⟩ = some (.slice oCd csd.length pCd) := (cell_of HBv2_7.out 0).trans rfl
          have cv2_1 : (w7).cell? ⟨qv2, 1, none⟩ = some (.slice oPd wsd.length pPd) := (cell_of HBv2_7.out 1).trans rfl
          go_wp2_with fail
          refine (specFlush_right _ _ csd wsd _ _ ⟨HOCd_7.out, HOPd_7.out⟩ HRd.out).mono ?_
          rintro e w8 ⟨vv1, vv2, csf, wsf, rfl, ⟨ownCf, ownPf⟩, hrf, bw⟩
          obtain ⟨oCf, pCf, rfl⟩ := slice_of_owns ownCf
          obtain ⟨oPf, pPf, rfl⟩ := slice_of_owns ownPf
          have HRf : Hid (RightD csf wsf) := hrf
          clear hrf
          have hb8 : w.grownBy w8 (some c) := grown_then hb7 (grown_below bw _)
          have HM8 : Hid ((w7).heap.size ≤ (w8).heap.size) := bw.size
          have HOCd_8 : Hid ((w8).ownsRow w.heap.size 9 1 (.slice oCd csd.length pCd) csd.length (csd.map Value.string)) := owns_below HOCd_7.out bw (fun g hg => owns_lt HOCd_7.out hg)
          have HOPd_8 : Hid ((w8).ownsRow w.heap.size 67 2 (.slice oPd wsd.length pPd) wsd.length (flatWrite wsd)) := owns_below HOPd_7.out bw (fun g hg => owns_lt HOPd_7.out hg)
          have HOCn_8 : Hid ((w8).ownsRow w.heap.size 9 1 (.slice oCn csn.length pCn) csn.length (csn.map Value.string)) := owns_below HOCn_7.out bw (fun g hg => owns_lt HOCn_7.out hg)
          have HOPn_8 : Hid ((w8).ownsRow w.heap.size 67 2 (.slice oPn wsn.length pPn) wsn.length (flatWrite wsn)) := owns_below HOPn_7.out bw (fun g hg => owns_lt HOPn_7.out hg)
          have HBv1_8 : Hid ((w8).heap[qv1]? = some (.cells #[.slice none 0 0, .slice none 0 0] 27)) := blk_below HBv1_7.out bw
          have HBv2_8 : Hid ((w8).heap[qv2]? = some (.cells #[.slice oCd csd.length pCd, .slice oPd wsd.length pPd] 27)) := blk_below HBv2_7.out bw
          have HBN6_8 : Hid ((w8).heap[qN6]? = some (.cells #[.slice oCn csn.length pCn, .slice oPn wsn.length pPn] 27)) := blk_below HBN6_7.out bw
          have EU_8 : Hid (CurAt w8 c a len cap) := EU_7.out.below bw EU_7.out.lt
          have HOCf_8 : Hid ((w8).ownsRow w.heap.size 9 1 (.slice oCf csf.length pCf) csf.length (csf.map Value.string)) := owns_wide ownCf hb7.size
          have LOCf : Hid (∀ g, (Value.ownBlock (.slice oCf csf.length pCf)) = some g → (w7).heap.size ≤ g) := fun g hg => owns_ge ownCf hg
          have HICf : Hid (∀ g, (Value.ownBlock (.slice oCf csf.length pCf)) = some g → g < (w8).heap.size) := fun g hg => owns_lt ownCf hg
          clear ownCf
          have HOPf_8 : Hid ((w8).ownsRow w.heap.size 67 2 (.slice oPf wsf.length pPf) wsf.length (flatWrite wsf)) := owns_wide ownPf hb7.size
          have LOPf : Hid (∀ g, (Value.ownBlock (.slice oPf wsf.length pPf)) = some g → (w7).heap.size ≤ g) := fun g hg => owns_ge ownPf hg
          have HIPf : Hid (∀ g, (Value.ownBlock (.slice oPf wsf.length pPf)) = some g → g < (w8).heap.size) := fun g hg => owns_lt ownPf hg
          clear ownPf
          clear hb7 HOCd_7 HOPd_7 HOCn_7 HOPn_7 HBv1_7 HBv2_7 HBN6_7 EU_7 bw
          clear cv2_0 cv2_1
          have cv2_0 : (w8).cell? ⟨qv2, 0, none⟩ = some (.slice oCd csd.length pCd) := (cell_of HBv2_8.out 0).trans rfl
          have fcv2_0 : (w8).frozen? ⟨qv2, 0, none⟩ = false := frozen_of HBv2_8.out 0
          have cv2_1 : (w8).cell? ⟨qv2, 1, none⟩ = some (.slice oPd wsd.length pPd) := (cell_of HBv2_8.out 1).trans rfl
          have fcv2_1 : (w8).frozen? ⟨qv2, 1, none⟩ = false := frozen_of HBv2_8.out 1
          go_upto_region 5 with fail
          obtain ⟨w9, hW9⟩ : ∃ W, W = (w8).setCell ⟨qv2, 0, none⟩ (.slice oCf csf.length pCf) := ⟨_, rfl⟩
          rw [← hW9]
          have hb9 : w.grownBy w9 (some c) := by rw [hW9]; exact (grown_own hb8 HGv2.out 0 _)
          have HM9 : Hid ((w8).heap.size ≤ w9.heap.size) := by show _ ≤ _; rw [hW9]; simp
          have HOCd_9 : Hid ((w9).ownsRow w.heap.size 9 1 (.slice oCd csd.length pCd) csd.length (csd.map Value.string)) := by show World.ownsRow _ _ _ _ _ _ _; rw [hW9]; exact owns_same HOCd_8.out (fun g hg => heap_setCell_other _ _ g _ (own_ne HOCd_8.out HBv2_8.out (by decide) g hg))
          have HOPd_9 : Hid ((w9).ownsRow w.heap.size 67 2 (.slice oPd wsd.length pPd) wsd.length (flatWrite wsd)) := by show World.ownsRow _ _ _ _ _ _ _; rw [hW9]; exact owns_same HOPd_8.out (fun g hg => heap_setCell_other _ _ g _ (own_ne HOPd_8.out HBv2_8.out (by decide) g hg))
          have HOCn_9 : Hid ((w9).ownsRow w.heap.size 9 1 (.slice oCn csn.length pCn) csn.length (csn.map Value.string)) := by show World.ownsRow _ _ _ _ _ _ _; rw [hW9]; exact owns_same HOCn_8.out (fun g hg => heap_setCell_other _ _ g _ (own_ne HOCn_8.out HBv2_8.out (by decide) g hg))
          have HOPn_9 : Hid ((w9).ownsRow w.heap.size 67 2 (.slice oPn wsn.length pPn) wsn.length (flatWrite wsn)) := by show World.ownsRow _ _ _ _ _ _ _; rw [hW9]; exact owns_same HOPn_8.out (fun g hg => heap_setCell_other _ _ g _ (own_ne HOPn_8.out HBv2_8.out (by decide) g hg))
          have HOCf_9 : Hid ((w9).ownsRow w.heap.size 9 1 (.slice oCf csf.length pCf) csf.length (csf.map Value.string)) := by show World.ownsRow _ _ _ _ _ _ _; rw [hW9]; exact owns_same HOCf_8.out (fun g hg => heap_setCell_other _ _ g _ (own_ne HOCf_8.out HBv2_8.out (by decide) g hg))
          have HOPf_9 : Hid ((w9).ownsRow w.heap.size 67 2 (.slice oPf wsf.length pPf) wsf.length (flatWrite wsf)) := by show World.ownsRow _ _ _ _ _ _ _; rw [hW9]; exact owns_same HOPf_8.out (fun g hg => heap_setCell_other _ _ g _ (own_ne HOPf_8.out HBv2_8.out (by decide) g hg))
          have HBv1_9 : Hid ((w9).heap[qv1]? = some (.cells #[.slice none 0 0, .slice none 0 0] 27)) := by show _ = _; rw [hW9, heap_setCell_other _ _ _ _ HNv1v2.out]; exact HBv1_8.out
          have HBN6_9 : Hid ((w9).heap[qN6]? = some (.cells #[.slice oCn csn.length pCn, .slice oPn wsn.length pPn] 27)) := by show _ = _; rw [hW9, heap_setCell_other _ _ _ _ HNv2N6.out.symm]; exact HBN6_8.out
          have EU_9 : Hid (CurAt w9 c a len cap) := by show CurAt _ _ _ _ _; rw [hW9]; exact cur_set EU_8.out HNCv2.out _ _
          have HBv2_9 : Hid ((w9).heap[qv2]? = some (.cells #[.slice oCf csf.length pCf, .slice oPd wsd.length pPd] 27)) := by show _ = _; rw [hW9]; have h := heap_set _ _ 0 _ _ _ (.slice oCf csf.length pCf) HBv2_8.out; simpa using h
          clear hb8 HOCd_8 HOPd_8 HOCn_8 HOPn_8 HOCf_8 HOPf_8 HBv1_8 HBv2_8 HBN6_8 EU_8 hW9
          obtain ⟨w10, hW10⟩ : ∃ W, W = (w9).setCell ⟨qv2, 1, none⟩ (.slice oPf wsf.length pPf) := ⟨_, rfl⟩
          rw [← hW10]
          have hb10 : w.grownBy w10 (some c) := by rw [hW10]; exact (grown_own hb9 HGv2.out 1 _)
          have HM10 : Hid ((w9).heap.size ≤ w10.heap.size) := by show _ ≤ _; rw [hW10]; simp
          have HOCd_10 : Hid ((w10).ownsRow w.heap.size 9 1 (.slice oCd csd.length pCd) csd.length (csd.map Value.string)) := by show World.ownsRow _ _ _ _ _ _ _; rw [hW10]; exact owns_same HOCd_9.out (fun g hg => heap_setCell_other _ _ g _ (own_ne HOCd_9.out HBv2_9.out (by decide) g hg))
          have HOPd_10 : Hid ((w10).ownsRow w.heap.size 67 2 (.slice oPd wsd.length pPd) wsd.length (flatWrite wsd)) := by show World.ownsRow _ _ _ _ _ _ _; rw [hW10]; exact owns_same HOPd_9.out (fun g hg => heap_setCell_other _ _ g _ (own_ne HOPd_9.out HBv2_9.out (by decide) g hg))
          have HOCn_10 : Hid ((w10).ownsRow w.heap.size 9 1 (.slice oCn csn.length pCn) csn.length (csn.map Value.string)) := by show World.ownsRow _ _ _ _ _ _ _; rw [hW10]; exact owns_same HOCn_9.out (fun g hg => heap_setCell_other _ _ g _ (own_ne HOCn_9.out HBv2_9.out (by decide) g hg))
          have HOPn_10 : Hid ((w10).ownsRow w.heap.size 67 2 (.slice oPn wsn.length pPn) wsn.length (flatWrite wsn)) := by show World.ownsRow _ _ _ _ _ _ _; rw [hW10]; exact owns_same HOPn_9.out (fun g hg => heap_setCell_other _ _ g _ (own_ne HOPn_9.out HBv2_9.out (by decide) g hg))
          have HOCf_10 : Hid ((w10).ownsRow w.heap.size 9 1 (.slice oCf csf.length pCf) csf.length (csf.map Value.string)) := by show World.ownsRow _ _ _ _ _ _ _; rw [hW10]; exact owns_same HOCf_9.out (fun g hg => heap_setCell_other _ _ g _ (own_ne HOCf_9.out HBv2_9.out (by decide) g hg))
          have HOPf_10 : Hid ((w10).ownsRow w.heap.size 67 2 (.slice oPf wsf.length pPf) wsf.length (flatWrite wsf)) := by show World.ownsRow _ _ _ _ _ _ _; rw [hW10]; exact owns_same HOPf_9.out (fun g hg => heap_setCell_other _ _ g _ (own_ne HOPf_9.out HBv2_9.out (by decide) g hg))
          have HBv1_10 : Hid ((w10).heap[qv1]? = some (.cells #[.slice none 0 0, .slice none 0 0] 27)) := by show _ = _; rw [hW10, heap_setCell_other _ _ _ _ HNv1v2.out]; exact HBv1_9.out
          have HBN6_10 : Hid ((w10).heap[qN6]? = some (.cells #[.slice oCn csn.length pCn, .slice oPn wsn.length pPn] 27)) := by show _ = _; rw [hW10, heap_setCell_other _ _ _ _ HNv2N6.out.symm]; exact HBN6_9.out
          have EU_10 : Hid (CurAt w10 c a len cap) := by show CurAt _ _ _ _ _; rw [hW10]; exact cur_set EU_9.out HNCv2.out _ _
          have HBv2_10 : Hid ((w10).heap[qv2]? = some (.cells #[.slice oCf csf.length pCf, .slice oPf wsf.length pPf] 27)) := by show _ = _; rw [hW10]; have h := heap_set _ _ 1 _ _ _ (.slice oPf wsf.length pPf) HBv2_9.out; simpa using h
          clear hb9 HOCd_9 HOPd_9 HOCn_9 HOPn_9 HOCf_9 HOPf_9 HBv1_9 HBv2_9 HBN6_9 EU_9 hW10
          clear cv2_0 fcv2_0 cv2_1 fcv2_1
          go_wp2_with fail
          go_roundw
          case rel => exact ⟨j + 1, csf, wsf, oCf, pCf, oPf, pPf, by omega, by go_num, HRf, ⟨hb10, EU_10.out, HBv1_10.out, HBv2_10.out, HOCf_10.out, HOPf_10.out⟩⟩
          case measure => simp [intOf]; omega
      | true =>
        have cN6_0 : (w6).cell? ⟨qN6, 0, none⟩ = some (.slice oCn csn.length pCn) := (cell_of HBN6_6.out 0).trans rfl
        have cN6_1 : (w6).cell? ⟨qN6, 1, none⟩ = some (.slice oPn wsn.length pPn) := (cell_of HBN6_6.out 1).trans rfl
        have cv2_0 : (w6).cell? ⟨qv2, 0, none⟩ = some (.slice oCd csd.length pCd) := (cell_of HBv2_6.out 0).trans rfl
        have fcv2_0 : (w6).frozen? ⟨qv2, 0, none⟩ = false := frozen_of HBv2_6.out 0
        have cv2_1 : (w6).cell? ⟨qv2, 1, none⟩ = some (.slice oPd wsd.length pPd) := (cell_of HBv2_6.out 1).trans rfl
        have fcv2_1 : (w6).frozen? ⟨qv2, 1, none⟩ = false := frozen_of HBv2_6.out 1
        go_upto_region 9 with fail
        obtain ⟨w7, hW7⟩ : ∃ W, W = (w6).setCell ⟨qv2, 0, none⟩ (.slice oCn csn.length pCn) := ⟨_, rfl⟩
        rw [← hW7]
        have hb7 : w.grownBy w7 (some c) := by rw [hW7]; exact (grown_own hb6 HGv2.out 0 _)
        have HM7 : Hid ((w6).heap.size ≤ w7.heap.size) := by show _ ≤ _; rw [hW7]; simp
        have HOCd_7 : Hid ((w7).ownsRow w.heap.size 9 1 (.slice oCd csd.length pCd) csd.length (csd.map Value.string)) := by show World.ownsRow _ _ _ _ _ _ _; rw [hW7]; exact owns_same HOCd_6.out (fun g hg => heap_setCell_other _ _ g _ (own_ne HOCd_6.out HBv2_6.out (by decide) g hg))
        have HOPd_7 : Hid ((w7).ownsRow w.heap.size 67 2 (.slice oPd wsd.length pPd) wsd.length (flatWrite wsd)) := by show World.ownsRow _ _ _ _ _ _ _; rw [hW7]; exact owns_same HOPd_6.out (fun g hg => heap_setCell_other _ _ g _ (own_ne HOPd_6.out HBv2_6.out (by decide) g hg))
        have HOCn_7 : Hid ((w7).ownsRow w.heap.size 9 1 (.slice oCn csn.length pCn) csn.length (csn.map Value.string)) := by show World.ownsRow _ _ _ _ _ _ _; rw [hW7]; exact owns_same HOCn_6.out (fun g hg => heap_setCell_other _ _ g _ (own_ne HOCn_6.out HBv2_6.out (by decide) g hg))
        have HOPn_7 : Hid ((w7).ownsRow w.heap.size 67 2 (.slice oPn wsn.length pPn) wsn.length (flatWrite wsn)) := by show World.ownsRow _ _ _ _ _ _ _; rw [hW7]; exact owns_same HOPn_6.out (fun g hg => heap_setCell_other _ _ g _ (own_ne HOPn_6.out HBv2_6.out (by decide) g hg))
        have HBv1_7 : Hid ((w7).heap[qv1]? = some (.cells #[.slice none 0 0, .slice none 0 0] 27)) := by show _ = _; rw [hW7, heap_setCell_other _ _ _ _ HNv1v2.out]; exact HBv1_6.out
        have HBN6_7 : Hid ((w7).heap[qN6]? = some (.cells #[.slice oCn csn.length pCn, .slice oPn wsn.length pPn] 27)) := by show _ = _; rw [hW7, heap_setCell_other _ _ _ _ HNv2N6.out.symm]; exact HBN6_6.out
        have EU_7 : Hid (CurAt w7 c a len cap) := by show CurAt _ _ _ _ _; rw [hW7]; exact cur_set EU_6.out HNCv2.out _ _
        have HBv2_7 : Hid ((w7).heap[qv2]? = some (.cells #[.slice oCn csn.length pCn, .slice oPd wsd.length pPd] 27)) := by show _ = _; rw [hW7]; have h := heap_set _ _ 0 _ _ _ (.slice oCn csn.length pCn) HBv2_6.out; simpa using h
        clear hb6 HOCd_6 HOPd_6 HOCn_6 HOPn_6 HBv1_6 HBv2_6 HBN6_6 EU_6 hW7
        obtain ⟨w8, hW8⟩ : ∃ W, W = (w7).setCell ⟨qv2, 1, none⟩ (.slice oPn wsn.length pPn) := ⟨_, rfl⟩
        rw [← hW8]
        have hb8 : w.grownBy w8 (some c) := by rw [hW8]; exact (grown_own hb7 HGv2.out 1 _)
        have HM8 : Hid ((w7).heap.size ≤ w8.heap.size) := by show _ ≤ _; rw [hW8]; simp
        have HOCd_8 : Hid ((w8).ownsRow w.heap.size 9 1 (.slice oCd csd.length pCd) csd.length (csd.map Value.string)) := by show World.ownsRow _ _ _ _ _ _ _; rw [hW8]; exact owns_same HOCd_7.out (fun g hg => heap_setCell_other _ _ g _ (own_ne HOCd_7.out HBv2_7.out (by decide) g hg))
        have HOPd_8 : Hid ((w8).ownsRow w.heap.size 67 2 (.slice oPd wsd.length pPd) wsd.length (flatWrite wsd)) := by show World.ownsRow _ _ _ _ _ _ _; rw [hW8]; exact owns_same HOPd_7.out (fun g hg => heap_setCell_other _ _ g _ (own_ne HOPd_7.out HBv2_7.out (by decide) g hg))
        have HOCn_8 : Hid ((w8).ownsRow w.heap.size 9 1 (.slice oCn csn.length pCn) csn.length (csn.map Value.string)) := by show World.ownsRow _ _ _ _ _ _ _; rw [hW8]; exact owns_same HOCn_7.out (fun g hg => heap_setCell_other _ _ g _ (own_ne HOCn_7.out HBv2_7.out (by decide) g hg))
        have HOPn_8 : Hid ((w8).ownsRow w.heap.size 67 2 (.slice oPn wsn.length pPn) wsn.length (flatWrite wsn)) := by show World.ownsRow _ _ _ _ _ _ _; rw [hW8]; exact owns_same HOPn_7.out (fun g hg => heap_setCell_other _ _ g _ (own_ne HOPn_7.out HBv2_7.out (by decide) g hg))
        have HBv1_8 : Hid ((w8).heap[qv1]? = some (.cells #[.slice none 0 0, .slice none 0 0] 27)) := by show _ = _; rw [hW8, heap_setCell_other _ _ _ _ HNv1v2.out]; exact HBv1_7.out
        have HBN6_8 : Hid ((w8).heap[qN6]? = some (.cells #[.slice oCn csn.length pCn, .slice oPn wsn.length pPn] 27)) := by show _ = _; rw [hW8, heap_setCell_other _ _ _ _ HNv2N6.out.symm]; exact HBN6_7.out
        have EU_8 : Hid (CurAt w8 c a len cap) := by show CurAt _ _ _ _ _; rw [hW8]; exact cur_set EU_7.out HNCv2.out _ _
        have HBv2_8 : Hid ((w8).heap[qv2]? = some (.cells #[.slice oCn csn.length pCn, .slice oPn wsn.length pPn] 27)) := by show _ = _; rw [hW8]; have h := heap_set _ _ 1 _ _ _ (.slice oPn wsn.length pPn) HBv2_7.out; simpa using h
        clear hb7 HOCd_7 HOPd_7 HOCn_7 HOPn_7 HBv1_7 HBv2_7 HBN6_7 EU_7 hW8
        clear cN6_0 cN6_1 cv2_0 fcv2_0 cv2_1 fcv2_1
        go_wp2_with fail
        refine (l1Once_any c B 9 a len cap zs _ EU_8.out (HCO.out _ hb8) HBC.out (by decide) (by decide)).mono ?_
        rintro e w9 ⟨hbo, hcu, hg⟩
        obtain ⟨bo32, rfl⟩ := hbo.out
        clear hbo
        have hb9 : w.grownBy w9 (some c) := grown_then hb8 hg
        have HM9 : Hid ((w8).heap.size ≤ (w9).heap.size) := hg.size
        have HOCd_9 : Hid ((w9).ownsRow w.heap.size 9 1 (.slice oCd csd.length pCd) csd.length (csd.map Value.string)) := owns_same HOCd_8.out (fun g hgg => hg.block g (owns_lt HOCd_8.out hgg) (fun e => own_cur HOCd_8.out EU_8.out (by decide) g hgg (Option.some.inj e)))
        have HOPd_9 : Hid ((w9).ownsRow w.heap.size 67 2 (.slice oPd wsd.length pPd) wsd.length (flatWrite wsd)) := owns_same HOPd_8.out (fun g hgg => hg.block g (owns_lt HOPd_8.out hgg) (fun e => own_cur HOPd_8.out EU_8.out (by decide) g hgg (Option.some.inj e)))
        have HOCn_9 : Hid ((w9).ownsRow w.heap.size 9 1 (.slice oCn csn.length pCn) csn.length (csn.map Value.string)) := owns_same HOCn_8.out (fun g hgg => hg.block g (owns_lt HOCn_8.out hgg) (fun e => own_cur HOCn_8.out EU_8.out (by decide) g hgg (Option.some.inj e)))
        have HOPn_9 : Hid ((w9).ownsRow w.heap.size 67 2 (.slice oPn wsn.length pPn) wsn.length (flatWrite wsn)) := owns_same HOPn_8.out (fun g hgg => hg.block g (owns_lt HOPn_8.out hgg) (fun e => own_cur HOPn_8.out EU_8.out (by decide) g hgg (Option.some.inj e)))
        have HBv1_9 : Hid ((w9).heap[qv1]? = some (.cells #[.slice none 0 0, .slice none 0 0] 27)) := (hg.block _ (Array.getElem?_eq_some_iff.1 HBv1_8.out).1 (fun e => HNCv1.out (Option.some.inj e))).trans HBv1_8.out
        have HBv2_9 : Hid ((w9).heap[qv2]? = some (.cells #[.slice oCn csn.length pCn, .slice oPn wsn.length pPn] 27)) := (hg.block _ (Array.getElem?_eq_some_iff.1 HBv2_8.out).1 (fun e => HNCv2.out (Option.some.inj e))).trans HBv2_8.out
        have HBN6_9 : Hid ((w9).heap[qN6]? = some (.cells #[.slice oCn csn.length pCn, .slice oPn wsn.length pPn] 27)) := (hg.block _ (Array.getElem?_eq_some_iff.1 HBN6_8.out).1 (fun e => HNCN6.out (Option.some.inj e))).trans HBN6_8.out
        have EU_9 : Hid (CurAt w9 c a len cap) := hcu
        clear hb8 HOCd_8 HOPd_8 HOCn_8 HOPn_8 HBv1_8 HBv2_8 HBN6_8 EU_8 hg hcu
        cases bo32 with
        | false =>
          go_wp2_with fail
          go_roundw
          case rel => exact ⟨j + 1, csn, wsn, oCn, pCn, oPn, pPn, by omega, by go_num, HRn, ⟨hb9, EU_9.out, HBv1_9.out, HBv2_9.out, HOCn_9.out, HOPn_9.out⟩⟩
          case measure => simp [intOf]; omega
        | true =>
          have cv2_0 : (w9).cell? ⟨qv2, 0, none⟩ = some (.slice oCn csn.length pCn) := (cell_of HBv2_9.out 0).trans rfl
          have cv2_1 : (w9).cell? ⟨qv2, 1, none⟩ = some (.slice oPn wsn.length pPn) := (cell_of HBv2_9.out 1).trans rfl
          go_wp2_with fail
          refine (specFlush_right _ _ csn wsn _ _ ⟨HOCn_9.out, HOPn_9.out⟩ HRn.out).mono ?_
          rintro e w10 ⟨vv1, vv2, csf, wsf, rfl, ⟨ownCf, ownPf⟩, hrf, bw⟩
          obtain ⟨oCf, pCf, rfl⟩ := slice_of_owns ownCf
          obtain ⟨oPf, pPf, rfl⟩ := slice_of_owns ownPf
          have HRf : Hid (RightD csf wsf) := hrf
          clear hrf
          have hb10 : w.grownBy w10 (some c) := grown_then hb9 (grown_below bw _)
          have HM10 : Hid ((w9).heap.size ≤ (w10).heap.size) := bw.size
          have HOCd_10 : Hid ((w10).ownsRow w.heap.size 9 1 (.slice oCd csd.length pCd) csd.length (csd.map Value.string)) := owns_below HOCd_9.out bw (fun g hg => owns_lt HOCd_9.out hg)
          have HOPd_10 : Hid ((w10).ownsRow w.heap.size 67 2 (.slice oPd wsd.length pPd) wsd.length (flatWrite wsd)) := owns_below HOPd_9.out bw (fun g hg => owns_lt HOPd_9.out hg)
          have HOCn_10 : Hid ((w10).ownsRow w.heap.size 9 1 (.slice oCn csn.length pCn) csn.length (csn.map Value.string)) := owns_below HOCn_9.out bw (fun g hg => owns_lt HOCn_9.out hg)
          have HOPn_10 : Hid ((w10).ownsRow w.heap.size 67 2 (.slice oPn wsn.length pPn) wsn.length (flatWrite wsn)) := owns_below HOPn_9.out bw (fun g hg => owns_lt HOPn_9.out hg)
          have HBv1_10 : Hid ((w10).heap[qv1]? = some (.cells #[.slice none 0 0, .slice none 0 0] 27)) := blk_below HBv1_9.out bw
          have HBv2_10 : Hid ((w10).heap[qv2]? = some (.cells #[.slice oCn csn.length pCn, .slice oPn wsn.length pPn] 27)) := blk_below HBv2_9.out bw
          have HBN6_10 : Hid ((w10).heap[qN6]? = some (.cells #[.slice oCn csn.length pCn, .slice oPn wsn.length pPn] 27)) := blk_below HBN6_9.out bw
          have EU_10 : Hid (CurAt w10 c a len cap) := EU_9.out.below bw EU_9.out.lt
          have HOCf_10 : Hid ((w10).ownsRow w.heap.size 9 1 (.slice oCf csf.length pCf) csf.length (csf.map Value.string)) := owns_wide ownCf hb9.size
          have LOCf : Hid (∀ g, (Value.ownBlock (.slice oCf csf.length pCf)) = some g → (w9).heap.size ≤ g) := fun g hg => owns_ge ownCf hg
          have HICf : Hid (∀ g, (Value.ownBlock (.slice oCf csf.length pCf)) = some g → g < (w10).heap.size) := fun g hg => owns_lt ownCf hg
          clear ownCf
          have HOPf_10 : Hid ((w10).ownsRow w.heap.size 67 2 (.slice oPf wsf.length pPf) wsf.length (flatWrite wsf)) := owns_wide ownPf hb9.size
          have LOPf : Hid (∀ g, (Value.ownBlock (.slice oPf wsf.length pPf)) = some g → (w9).heap.size ≤ g) := fun g hg => owns_ge ownPf hg
          have HIPf : Hid (∀ g, (Value.ownBlock (.slice oPf wsf.length pPf)) = some g → g < (w10).heap.size) := fun g hg => owns_lt ownPf hg
          clear ownPf
          clear hb9 HOCd_9 HOPd_9 HOCn_9 HOPn_9 HBv1_9 HBv2_9 HBN6_9 EU_9 bw
          clear cv2_0 cv2_1
          have cv2_0 : (w10).cell? ⟨qv2, 0, none⟩ = some (.slice oCn csn.length pCn) := (cell_of HBv2_10.out 0).trans rfl
          have fcv2_0 : (w10).frozen? ⟨qv2, 0, none⟩ = false := frozen_of HBv2_10.out 0
          have cv2_1 : (w10).cell? ⟨qv2, 1, none⟩ = some (.slice oPn wsn.length pPn) := (cell_of HBv2_10.out 1).trans rfl
          have fcv2_1 : (w10).frozen? ⟨qv2, 1, none⟩ = false := frozen_of HBv2_10.out 1
          go_upto_region 5 with fail
          obtain ⟨w11, hW11⟩ : ∃ W, W = (w10).setCell ⟨qv2, 0, none⟩ (.slice oCf csf.length pCf) := ⟨_, rfl⟩
          rw [← hW11]
          have hb11 : w.grownBy w11 (some c) := by rw [hW11]; exact (grown_own hb10 HGv2.out 0 _)
          have HM11 : Hid ((w10).heap.size ≤ w11.heap.size) := by show _ ≤ _; rw [hW11]; simp
          have HOCd_11 : Hid ((w11).ownsRow w.heap.size 9 1 (.slice oCd csd.length pCd) csd.length (csd.map Value.string)) := by show World.ownsRow _ _ _ _ _ _ _; rw [hW11]; exact owns_same HOCd_10.out (fun g hg => heap_setCell_other _ _ g _ (own_ne HOCd_10.out HBv2_10.out (by decide) g hg))
          have HOPd_11 : Hid ((w11).ownsRow w.heap.size 67 2 (.slice oPd wsd.length pPd) wsd.length (flatWrite wsd)) := by show World.ownsRow _ _ _ _ _ _ _; rw [hW11]; exact owns_same HOPd_10.out (fun g hg => heap_setCell_other _ _ g _ (own_ne HOPd_10.out HBv2_10.out (by decide) g hg))
          have HOCn_11 : Hid ((w11).ownsRow w.heap.size 9 1 (.slice oCn csn.length pCn) csn.length (csn.map Value.string)) := by show World.ownsRow _ _ _ _ _ _ _; rw [hW11]; exact owns_same HOCn_10.out (fun g hg => heap_setCell_other _ _ g _ (own_ne HOCn_10.out HBv2_10.out (by decide) g hg))
          have HOPn_11 : Hid ((w11).ownsRow w.heap.size 67 2 (.slice oPn wsn.length pPn) wsn.length (flatWrite wsn)) := by show World.ownsRow _ _ _ _ _ _ _; rw [hW11]; exact owns_same HOPn_10.out (fun g hg => heap_setCell_other _ _ g _ (own_ne HOPn_10.out HBv2_10.out (by decide) g hg))
          have HOCf_11 : Hid ((w11).ownsRow w.heap.size 9 1 (.slice oCf csf.length pCf) csf.length (csf.map Value.string)) := by show World.ownsRow _ _ _ _ _ _ _; rw [hW11]; exact owns_same HOCf_10.out (fun g hg => heap_setCell_other _ _ g _ (own_ne HOCf_10.out HBv2_10.out (by decide) g hg))
          have HOPf_11 : Hid ((w11).ownsRow w.heap.size 67 2 (.slice oPf wsf.length pPf) wsf.length (flatWrite wsf)) := by show World.ownsRow _ _ _ _ _ _ _; rw [hW11]; exact owns_same HOPf_10.out (fun g hg => heap_setCell_other _ _ g _ (own_ne HOPf_10.out HBv2_10.out (by decide) g hg))
          have HBv1_11 : Hid ((w11).heap[qv1]? = some (.cells #[.slice none 0 0, .slice none 0 0] 27)) := by show _ = _; rw [hW11, heap_setCell_other _ _ _ _ HNv1v2.out]; exact HBv1_10.out
          have HBN6_11 : Hid ((w11).heap[qN6]? = some (.cells #[.slice oCn csn.length pCn, .slice oPn wsn.length pPn] 27)) := by show _ = _; rw [hW11, heap_setCell_other _ _ _ _ HNv2N6.out.symm]; exact HBN6_10.out
          have EU_11 : Hid (CurAt w11 c a len cap) := by show CurAt _ _ _ _ _; rw [hW11]; exact cur_set EU_10.out HNCv2.out _ _
          have HBv2_11 : Hid ((w11).heap[qv2]? = some (.cells #[.slice oCf csf.length pCf, .slice oPn wsn.length pPn] 27)) := by show _ = _; rw [hW11]; have h := heap_set _ _ 0 _ _ _ (.slice oCf csf.length pCf) HBv2_10.out; simpa using h
          clear hb10 HOCd_10 HOPd_10 HOCn_10 HOPn_10 HOCf_10 HOPf_10 HBv1_10 HBv2_10 HBN6_10 EU_10 hW11
          obtain ⟨w12, hW12⟩ : ∃ W, W = (w11).setCell ⟨qv2, 1, none⟩ (.slice oPf wsf.length pPf) := ⟨_, rfl⟩
          rw [← hW12]
          have hb12 : w.grownBy w12 (some c) := by rw [hW12]; exact (grown_own hb11 HGv2.out 1 _)
          have HM12 : Hid ((w11).heap.size ≤ w12.heap.size) := by show _ ≤ _; rw [hW12]; simp
          have HOCd_12 : Hid ((w12).ownsRow w.heap.size 9 1 (.slice oCd csd.length pCd) csd.length (csd.map Value.string)) := by show World.ownsRow _ _ _ _ _ _ _; rw [hW12]; exact owns_same HOCd_11.out (fun g hg => heap_setCell_other _ _ g _ (own_ne HOCd_11.out HBv2_11.out (by decide) g hg))
          have HOPd_12 : Hid ((w12).ownsRow w.heap.size 67 2 (.slice oPd wsd.length pPd) wsd.length (flatWrite wsd)) := by show World.ownsRow _ _ _ _ _ _ _; rw [hW12]; exact owns_same HOPd_11.out (fun g hg => heap_setCell_other _ _ g _ (own_ne HOPd_11.out HBv2_11.out (by decide) g hg))
          have HOCn_12 : Hid ((w12).ownsRow w.heap.size 9 1 (.slice oCn csn.length pCn) csn.length (csn.map Value.string)) := by show World.ownsRow _ _ _ _ _ _ _; rw [hW12]; exact owns_same HOCn_11.out (fun g hg => heap_setCell_other _ _ g _ (own_ne HOCn_11.out HBv2_11.out (by decide) g hg))
          have HOPn_12 : Hid ((w12).ownsRow w.heap.size 67 2 (.slice oPn wsn.length pPn) wsn.length (flatWrite wsn)) := by show World.ownsRow _ _ _ _ _ _ _; rw [hW12]; exact owns_same HOPn_11.out (fun g hg => heap_setCell_other _ _ g _ (own_ne HOPn_11.out HBv2_11.out (by decide) g hg))
          have HOCf_12 : Hid ((w12).ownsRow w.heap.size 9 1 (.slice oCf csf.length pCf) csf.length (csf.map Value.string)) := by show World.ownsRow _ _ _ _ _ _ _; rw [hW12]; exact owns_same HOCf_11.out (fun g hg => heap_setCell_other _ _ g _ (own_ne HOCf_11.out HBv2_11.out (by decide) g hg))
          have HOPf_12 : Hid ((w12).ownsRow w.heap.size 67 2 (.slice oPf wsf.length pPf) wsf.length (flatWrite wsf)) := by show World.ownsRow _ _ _ _ _ _ _; rw [hW12]; exact owns_same HOPf_11.out (fun g hg => heap_setCell_other _ _ g _ (own_ne HOPf_11.out HBv2_11.out (by decide) g hg))
          have HBv1_12 : Hid ((w12).heap[qv1]? = some (.cells #[.slice none 0 0, .slice none 0 0] 27)) := by show _ = _; rw [hW12, heap_setCell_other _ _ _ _ HNv1v2.out]; exact HBv1_11.out
          have HBN6_12 : Hid ((w12).heap[qN6]? = some (.cells #[.slice oCn csn.length pCn, .slice oPn wsn.length pPn] 27)) := by show _ = _; rw [hW12, heap_setCell_other _ _ _ _ HNv2N6.out.symm]; exact HBN6_11.out
          have EU_12 : Hid (CurAt w12 c a len cap) := by show CurAt _ _ _ _ _; rw [hW12]; exact cur_set EU_11.out HNCv2.out _ _
          have HBv2_12 : Hid ((w12).heap[qv2]? = some (.cells #[.slice oCf csf.length pCf, .slice oPf wsf.length pPf] 27)) := by show _ = _; rw [hW12]; have h := heap_set _ _ 1 _ _ _ (.slice oPf wsf.length pPf) HBv2_11.out; simpa using h
          clear hb11 HOCd_11 HOPd_11 HOCn_11 HOPn_11 HOCf_11 HOPf_11 HBv1_11 HBv2_11 HBN6_11 EU_11 hW12
          clear cv2_0 fcv2_0 cv2_1 fcv2_1
          go_wp2_with fail
          go_roundw
          case rel => exact ⟨j + 1, csf, wsf, oCf, pCf, oPf, pPf, by omega, by go_num, HRf, ⟨hb12, EU_12.out, HBv1_12.out, HBv2_12.out, HOCf_12.out, HOPf_12.out⟩⟩
          case measure => simp [intOf]; omega
    · have hb5 := HW.out.1
      have EU_5 : Hid (CurAt wr c a len cap) := HW.out.2.1
      have HBv1_5 : Hid ((wr).heap[qv1]? = some (.cells #[.slice none 0 0, .slice none 0 0] 27)) := HW.out.2.2.1
      have HBv2_5 : Hid ((wr).heap[qv2]? = some (.cells #[.slice oCd csd.length pCd, .slice oPd wsd.length pPd] 27)) := HW.out.2.2.2.1
      have HOCd_5 : Hid ((wr).ownsRow w.heap.size 9 1 (.slice oCd csd.length pCd) csd.length (csd.map Value.string)) := HW.out.2.2.2.2.1
      have HOPd_5 : Hid ((wr).ownsRow w.heap.size 67 2 (.slice oPd wsd.length pPd) wsd.length (flatWrite wsd)) := HW.out.2.2.2.2.2
      clear HW hb4 HOC0_4 HOP0_4 HBv1_4 HBv2_4 EU_4
      have cv1_0 : (wr).cell? ⟨qv1, 0, none⟩ = some (.slice none 0 0) := (cell_of HBv1_5.out 0).trans rfl
      have fcv1_0 : (wr).frozen? ⟨qv1, 0, none⟩ = false := frozen_of HBv1_5.out 0
      have cv1_1 : (wr).cell? ⟨qv1, 1, none⟩ = some (.slice none 0 0) := (cell_of HBv1_5.out 1).trans rfl
      have fcv1_1 : (wr).frozen? ⟨qv1, 1, none⟩ = false := frozen_of HBv1_5.out 1
      have cv2_0 : (wr).cell? ⟨qv2, 0, none⟩ = some (.slice oCd csd.length pCd) := (cell_of HBv2_5.out 0).trans rfl
      have cv2_1 : (wr).cell? ⟨qv2, 1, none⟩ = some (.slice oPd wsd.length pPd) := (cell_of HBv2_5.out 1).trans rfl
      go_wp2_with fail
      obtain ⟨w6, hW6⟩ : ∃ W, W = (wr).setCell ⟨qv1, 0, none⟩ (.slice oCd csd.length pCd) := ⟨_, rfl⟩
      rw [← hW6]
      have hb6 : w.grownBy w6 (some c) := by rw [hW6]; exact (grown_own hb5 HGv1.out 0 _)
      have HM6 : Hid ((wr).heap.size ≤ w6.heap.size) := by show _ ≤ _; rw [hW6]; simp
      have HOCd_6 : Hid ((w6).ownsRow w.heap.size 9 1 (.slice oCd csd.length pCd) csd.length (csd.map Value.string)) := by show World.ownsRow _ _ _ _ _ _ _; rw [hW6]; exact owns_same HOCd_5.out (fun g hg => heap_setCell_other _ _ g _ (own_ne HOCd_5.out HBv1_5.out (by decide) g hg))
      have HOPd_6 : Hid ((w6).ownsRow w.heap.size 67 2 (.slice oPd wsd.length pPd) wsd.length (flatWrite wsd)) := by show World.ownsRow _ _ _ _ _ _ _; rw [hW6]; exact owns_same HOPd_5.out (fun g hg => heap_setCell_other _ _ g _ (own_ne HOPd_5.out HBv1_5.out (by decide) g hg))
      have HBv2_6 : Hid ((w6).heap[qv2]? = some (.cells #[.slice oCd csd.length pCd, .slice oPd wsd.length pPd] 27)) := by show _ = _; rw [hW6, heap_setCell_other _ _ _ _ HNv1v2.out.symm]; exact HBv2_5.out
      have EU_6 : Hid (CurAt w6 c a len cap) := by show CurAt _ _ _ _ _; rw [hW6]; exact cur_set EU_5.out HNCv1.out _ _
      have HBv1_6 : Hid ((w6).heap[qv1]? = some (.cells #[.slice oCd csd.length pCd, .slice none 0 0] 27)) := by show _ = _; rw [hW6]; have h := heap_set _ _ 0 _ _ _ (.slice oCd csd.length pCd) HBv1_5.out; simpa using h
      clear hb5 HOCd_5 HOPd_5 HBv1_5 HBv2_5 EU_5 hW6
      obtain ⟨w7, hW7⟩ : ∃ W, W = (w6).setCell ⟨qv1, 1, none⟩ (.slice oPd wsd.length pPd) := ⟨_, rfl⟩
      rw [← hW7]
      have hb7 : w.grownBy w7 (some c) := by rw [hW7]; exact (grown_own hb6 HGv1.out 1 _)
      have HM7 : Hid ((w6).heap.size ≤ w7.heap.size) := by show _ ≤ _; rw [hW7]; simp
      have HOCd_7 : Hid ((w7).ownsRow w.heap.size 9 1 (.slice oCd csd.length pCd) csd.length (csd.map Value.string)) := by show World.ownsRow _ _ _ _ _ _ _; rw [hW7]; exact owns_same HOCd_6.out (fun g hg => heap_setCell_other _ _ g _ (own_ne HOCd_6.out HBv1_6.out (by decide) g hg))
      have HOPd_7 : Hid ((w7).ownsRow w.heap.size 67 2 (.slice oPd wsd.length pPd) wsd.length (flatWrite wsd)) := by show World.ownsRow _ _ _ _ _ _ _; rw [hW7]; exact owns_same HOPd_6.out (fun g hg => heap_setCell_other _ _ g _ (own_ne HOPd_6.out HBv1_6.out (by decide) g hg))
      have HBv2_7 : Hid ((w7).heap[qv2]? = some (.cells #[.slice oCd csd.length pCd, .slice oPd wsd.length pPd] 27)) := by show _ = _; rw [hW7, heap_setCell_other _ _ _ _ HNv1v2.out.symm]; exact HBv2_6.out
      have EU_7 : Hid (CurAt w7 c a len cap) := by show CurAt _ _ _ _ _; rw [hW7]; exact cur_set EU_6.out HNCv1.out _ _
      have HBv1_7 : Hid ((w7).heap[qv1]? = some (.cells #[.slice oCd csd.length pCd, .slice oPd wsd.length pPd] 27)) := by show _ = _; rw [hW7]; have h := heap_set _ _ 1 _ _ _ (.slice oPd wsd.length pPd) HBv1_6.out; simpa using h
      clear hb6 HOCd_6 HOPd_6 HBv1_6 HBv2_6 EU_6 hW7
      have kv1_0 : (w7).cell? ⟨qv1, 0, none⟩ = some (.slice oCd csd.length pCd) := (cell_of HBv1_7.out 0).trans rfl
      have kv1_1 : (w7).cell? ⟨qv1, 1, none⟩ = some (.slice oPd wsd.length pPd) := (cell_of HBv1_7.out 1).trans rfl
      refine bodyPost_ret (v := .agg #[.slice oCd csd.length pCd, .slice oPd wsd.length pPd]) (by simp [results, Try.results65, go_sem, kv1_0, kv1_1]) rfl ?_
      exact ⟨_, _, csd, wsd, rfl, ⟨HOCd_7.out, HOPd_7.out⟩, HRd.out, EU_7.out, hb7⟩

end Go.Proofs.Ytckjbgpdbehmaaa
