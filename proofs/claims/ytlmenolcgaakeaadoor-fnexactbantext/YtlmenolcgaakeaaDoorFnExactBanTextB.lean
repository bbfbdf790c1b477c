/- What the proof of FnExactBanText leans on: contracts of the program's and the specification's functions, and plain facts (part 2 of 3). -/
import Derived.Test.YtlmenolcgaakeaaDoorFnExactBanTextA
namespace Go.Proofs.YtlmenolcgaakeaaDoor
open Go.RowKit
open Go.Lib hiding intOf

set_option maxHeartbeats 8000000 in
set_option maxRecDepth 100000 in
theorem specBanText_any (k : Int) (a b : ByteArray) (t : Int) (w : World) (ha : a.size ≤ maxLen) (hb : b.size ≤ maxLen) :
    Calls Tryd.prog 9 #[.agg #[.int .i64 k, .string a, .string b, .int .i64 t]] w fun e w' => TextOf (BanP k a b t) (banT k a b t) w e w' := by
  have HAM : Hid (a.size ≤ maxLen) := ha
  have HBM : Hid (b.size ≤ maxLen) := hb
  obtain ⟨tt, htt⟩ : ∃ x, x = numTextI t := ⟨_, rfl⟩
  have HTT : Hid (numTextI t = tt) := htt.symm
  clear ha hb htt
  have hb0 : Below w.heap.size w w := Below.refl _ _
  go_enter Tryd.func9, Tryd.ntmps9
  go_upto_region 1 with fail
  obtain ⟨qv1, hqv1⟩ : ∃ q, q = (w).heap.size := ⟨_, rfl⟩
  obtain ⟨w1, hW1⟩ : ∃ W, W = (w).alloc (.cells #[.int .i64 k, .string a, .string b, .int .i64 t] 25) := ⟨_, rfl⟩
  have hz1 : (w).heap.size = qv1 := hqv1.symm
  first | rw [← hW1, ← hqv1] | rw [← hW1]
  have hs1 : w1.heap.size = qv1 + 1 := by rw [hW1, ← hz1]; simp
  have bw : Below (w).heap.size (w) w1 := by rw [hW1]; exact (Below.refl _ _).alloc (Nat.le_refl _) _
  have hb1 : Below w.heap.size w (w1) := hb0.trans (bw.mono hb0.size)
  have HM1 : Hid ((w).heap.size ≤ (w1).heap.size) := bw.size
  have HBv1_1 : Hid ((w1).heap[qv1]? = some (.cells #[.int .i64 k, .string a, .string b, .int .i64 t] 25)) := by show _ = _; rw [hW1, ← hz1]; exact heap_alloc_new _ _
  have HGv1 : Hid (w.heap.size ≤ qv1) := by show _ ≤ _; rw [← hz1]; exact hb0.size
  clear hb0 bw hW1 hz1
  clear hs1 hqv1
  have cv1_0 : (w1).cell? ⟨qv1, 0, none⟩ = some (.int .i64 k) := (cell_of HBv1_1.out 0).trans rfl
  have cv1_1 : (w1).cell? ⟨qv1, 1, none⟩ = some (.string a) := (cell_of HBv1_1.out 1).trans rfl
  have cv1_2 : (w1).cell? ⟨qv1, 2, none⟩ = some (.string b) := (cell_of HBv1_1.out 2).trans rfl
  have cv1_3 : (w1).cell? ⟨qv1, 3, none⟩ = some (.int .i64 t) := (cell_of HBv1_1.out 3).trans rfl
  go_wp2_with fail
  refine (specBanOk_any k a b t _ HAM.out HBM.out).mono ?_
  rintro e w2 ⟨ub, rfl, htub, bw⟩
  have hb2 : Below w.heap.size w (w2) := hb1.trans (bw.mono hb1.size)
  have HM2 : Hid ((w1).heap.size ≤ (w2).heap.size) := bw.size
  have HBv1_2 : Hid ((w2).heap[qv1]? = some (.cells #[.int .i64 k, .string a, .string b, .int .i64 t] 25)) := blk_below HBv1_1.out bw
  clear hb1 HBv1_1 bw
  clear cv1_0 cv1_1 cv1_2 cv1_3
  cases ub with
  | false =>
    have HF : Hid (¬ BanP k a b t) := fun h => nomatch htub.2 h
    clear htub
    go_wp2_with fail
    go_ret
    exact ⟨⟨#[]⟩, rfl, fun h => absurd h HF.out, fun _ => rfl, hb2⟩
  | true =>
    have HOK : Hid (BanP k a b t) := htub.1 rfl
    clear htub
    have HT : Hid (0 ≤ t ∧ t ≤ 1000000) := HOK.out.1
    have za : a.size ≤ 60 := HOK.out.a_size.1
    have zb : b.size ≤ 60 := HOK.out.a_size.2
    have ztt : tt.size ≤ 8 := by rw [← HTT.out, numTextI_of HT.out.1]; exact numText_size _
    rcases HOK.out.kinds with rfl | rfl | rfl
    · go_upto_region 3 with fail
      refine wp_region_held_drew (S := fun W => W.heap[qv1]? = some (.cells #[.int .i64 1, .string a, .string b, .int .i64 t] 25)) (by kernel_rfl) HBv1_2.out (fun _ => ?_)
      obtain ⟨w3, hX⟩ : ∃ X, X = w2.drew := ⟨_, rfl⟩
      have bw : Below w2.heap.size w2 w3 := by rw [hX]; exact (Below.refl _ _).drew
      rw [← hX]
      have hb3 : Below w.heap.size w (w3) := hb2.trans (bw.mono hb2.size)
      have HM3 : Hid ((w2).heap.size ≤ (w3).heap.size) := bw.size
      have HBv1_3 : Hid ((w3).heap[qv1]? = some (.cells #[.int .i64 1, .string a, .string b, .int .i64 t] 25)) := blk_below HBv1_2.out bw
      have hS3 : w3.heap[qv1]? = some (.cells #[.int .i64 1, .string a, .string b, .int .i64 t] 25) := HBv1_3.out
      clear hb2 HBv1_2 bw hX
      refine wpAnyH_takeD (i := 1) (v := .pointer (some ⟨qv1, 0, none⟩)) (some 8) rfl rfl (by kernel_rfl) (by kernel_rfl) (by kernel_rfl) (fun _ _ _ h => h) (Or.inl ⟨by rfl, by intro W _; go_simp⟩) hS3 ?_
      simp only [Act.put, List.setIfInBounds_toArray, List.set_cons_zero, List.set_cons_succ]
      refine wpAnyH_takeD (i := 2) (v := .int .i64 1) (some 9) rfl rfl (by kernel_rfl) (by kernel_rfl) (by kernel_rfl) (fun _ _ _ h => h) (Or.inl ⟨by rfl, by intro W hW; have hhv1 := hW; have y0 := (cell_of hhv1 0).trans rfl; go_simp⟩) hS3 ?_
      simp only [Act.put, List.setIfInBounds_toArray, List.set_cons_zero, List.set_cons_succ]
      refine wpAnyH_takeD (i := 7) (v := .pointer (some ⟨qv1, 3, none⟩)) (some 14) rfl rfl (by kernel_rfl) (by kernel_rfl) (by kernel_rfl) (fun _ _ _ h => h) (Or.inl ⟨by rfl, by intro W _; go_simp⟩) hS3 ?_
      simp only [Act.put, List.setIfInBounds_toArray, List.set_cons_zero, List.set_cons_succ]
      refine wpAnyH_takeD (i := 8) (v := .int .i64 t) (some 15) rfl rfl (by kernel_rfl) (by kernel_rfl) (by kernel_rfl) (fun _ _ _ h => h) (Or.inl ⟨by rfl, by intro W hW; have hhv1 := hW; have y3 := (cell_of hhv1 3).trans rfl; go_simp⟩) hS3 ?_
      simp only [Act.put, List.setIfInBounds_toArray, List.set_cons_zero, List.set_cons_succ]
      refine wpAnyH_takeD (i := 12) (v := .pointer (some ⟨qv1, 1, none⟩)) (some 19) rfl rfl (by kernel_rfl) (by kernel_rfl) (by kernel_rfl) (fun _ _ _ h => h) (Or.inl ⟨by rfl, by intro W _; go_simp⟩) hS3 ?_
      simp only [Act.put, List.setIfInBounds_toArray, List.set_cons_zero, List.set_cons_succ]
      refine wpAnyH_takeD (i := 13) (v := .string a) (some 20) rfl rfl (by kernel_rfl) (by kernel_rfl) (by kernel_rfl) (fun _ _ _ h => h) (Or.inl ⟨by rfl, by intro W hW; have hhv1 := hW; have y1 := (cell_of hhv1 1).trans rfl; go_simp⟩) hS3 ?_
      simp only [Act.put, List.setIfInBounds_toArray, List.set_cons_zero, List.set_cons_succ]
      refine wpAnyH_ready (rs := [0, 9]) (by kernel_rfl) (by simp) ?_
      refine AllReadyH.cons rfl (fun K hK => ?_) (AllReadyH.cons rfl (fun K hK => ?_) AllReadyH.nil)
      · go_simp
        have bw : Below w3.heap.size w3 (w3.alloc (.cells #[.string ⟨#[]⟩, .string ⟨#[112, 97, 116, 104]⟩, .string ⟨#[98, 101, 108, 111, 119]⟩, .string ⟨#[102, 105, 101, 108, 100]⟩] 9)) := (Below.refl _ _).alloc (Nat.le_refl _) _
        have hSA : (w3.alloc (.cells #[.string ⟨#[]⟩, .string ⟨#[112, 97, 116, 104]⟩, .string ⟨#[98, 101, 108, 111, 119]⟩, .string ⟨#[102, 105, 101, 108, 100]⟩] 9)).heap[qv1]? = some (.cells #[.int .i64 1, .string a, .string b, .int .i64 t] 25) := blk_below HBv1_3.out bw
        refine hK.out _ _ hSA (fun _ => ?_)
        clear hK K hSA bw hS3
        obtain ⟨qv2, hqv2⟩ : ∃ o, o = w3.heap.size := ⟨_, rfl⟩
        obtain ⟨w4, hXj⟩ : ∃ X, X = (w3.alloc (.cells #[.string ⟨#[]⟩, .string ⟨#[112, 97, 116, 104]⟩, .string ⟨#[98, 101, 108, 111, 119]⟩, .string ⟨#[102, 105, 101, 108, 100]⟩] 9)) := ⟨_, rfl⟩
        rw [← hqv2, ← hXj]
        have bw : Below w3.heap.size w3 w4 := by rw [hXj]; exact (Below.refl _ _).alloc (Nat.le_refl _) _
        have hb4 : Below w.heap.size w (w4) := hb3.trans (bw.mono hb3.size)
        have HM4 : Hid ((w3).heap.size ≤ (w4).heap.size) := bw.size
        have HBv1_4 : Hid ((w4).heap[qv1]? = some (.cells #[.int .i64 1, .string a, .string b, .int .i64 t] 25)) := blk_below HBv1_3.out bw
        have HNv1v2 : Hid (qv1 ≠ qv2) := fun e => by have h1 := (Array.getElem?_eq_some_iff.1 HBv1_3.out).1; omega
        have HBv2_4 : Hid ((w4).heap[qv2]? = some (.cells #[.string ⟨#[]⟩, .string ⟨#[112, 97, 116, 104]⟩, .string ⟨#[98, 101, 108, 111, 119]⟩, .string ⟨#[102, 105, 101, 108, 100]⟩] 9)) := by show _ = _; rw [hXj, hqv2]; exact heap_alloc_new _ _
        have HGv2 : Hid (w.heap.size ≤ qv2) := by show _ ≤ _; rw [hqv2]; exact hb3.size
        have hS4 : w4.heap[qv1]? = some (.cells #[.int .i64 1, .string a, .string b, .int .i64 t] 25) := HBv1_4.out
        clear hb3 HBv1_3 bw hXj hqv2
        refine wpAnyH_takeD (i := 3) (v := .pointer (some ⟨qv2, 1, none⟩)) (some 10) rfl rfl (by kernel_rfl) (by kernel_rfl) (by kernel_rfl) (fun _ _ _ h => h) (Or.inl ⟨by rfl, by intro W _; go_simp⟩) hS4 ?_
        simp only [Act.put, List.setIfInBounds_toArray, List.set_cons_zero, List.set_cons_succ]
        refine wpAnyH_ready (rs := [4, 9]) (by kernel_rfl) (by simp) ?_
        refine AllReadyH.cons rfl (fun K hK => ?_) (AllReadyH.cons rfl (fun K hK => ?_) AllReadyH.nil)
        · have ylt : (w4).cell? ⟨qv2, 1, none⟩ = some (.string ⟨#[112, 97, 116, 104]⟩) := (cell_of HBv2_4.out 1).trans rfl
          go_simp
          refine hK.out _ _ hS4 (fun _ => ?_)
          clear hK K ylt
          refine wpAnyH_takeD (i := 5) (v := .string (⟨#[98, 97, 110, 32]⟩ ++ ⟨#[112, 97, 116, 104]⟩)) (some 12) rfl rfl (by kernel_rfl) (by kernel_rfl) (by kernel_rfl) (fun _ _ _ h => h) (Or.inl ⟨by rfl, by intro W _; go_simp <;> omega⟩) hS4 ?_
          simp only [Act.put, List.setIfInBounds_toArray, List.set_cons_zero, List.set_cons_succ]
          refine wpAnyH_takeD (i := 6) (v := .string ((⟨#[98, 97, 110, 32]⟩ ++ ⟨#[112, 97, 116, 104]⟩) ++ ⟨#[32]⟩)) (some 13) rfl rfl (by kernel_rfl) (by kernel_rfl) (by kernel_rfl) (fun _ _ _ h => h) (Or.inl ⟨by rfl, by intro W _; go_simp <;> omega⟩) hS4 ?_
          simp only [Act.put, List.setIfInBounds_toArray, List.set_cons_zero, List.set_cons_succ]
          refine wpAnyH_ready (rs := [9]) (by kernel_rfl) (by simp) ?_
          refine AllReadyH.cons rfl (fun K hK => ?_) AllReadyH.nil
          go_simp
          refine (specNumText_int t _ (by have := HT.out; omega) (by have := HT.out; omega)).mono ?_
          rintro e w5 ⟨rfl, bw⟩
          rw [HTT.out]
          have hb5 : Below w.heap.size w (w5) := hb4.trans (bw.mono hb4.size)
          have HM5 : Hid ((w4).heap.size ≤ (w5).heap.size) := bw.size
          have HBv1_5 : Hid ((w5).heap[qv1]? = some (.cells #[.int .i64 1, .string a, .string b, .int .i64 t] 25)) := blk_below HBv1_4.out bw
          have HBv2_5 : Hid ((w5).heap[qv2]? = some (.cells #[.string ⟨#[]⟩, .string ⟨#[112, 97, 116, 104]⟩, .string ⟨#[98, 101, 108, 111, 119]⟩, .string ⟨#[102, 105, 101, 108, 100]⟩] 9)) := blk_below HBv2_4.out bw
          clear hb4 HBv1_4 HBv2_4 bw
          have hS5 : w5.heap[qv1]? = some (.cells #[.int .i64 1, .string a, .string b, .int .i64 t] 25) := HBv1_5.out
          refine hK.out _ _ hS5 (fun _ => ?_)
          clear hK K hS4
          refine wpAnyH_takeD (i := 10) (v := .string (((⟨#[98, 97, 110, 32]⟩ ++ ⟨#[112, 97, 116, 104]⟩) ++ ⟨#[32]⟩) ++ tt)) (some 17) rfl rfl (by kernel_rfl) (by kernel_rfl) (by kernel_rfl) (fun _ _ _ h => h) (Or.inl ⟨by rfl, by intro W _; go_simp <;> omega⟩) hS5 ?_
          simp only [Act.put, List.setIfInBounds_toArray, List.set_cons_zero, List.set_cons_succ]
          refine wpAnyH_takeD (i := 11) (v := .string ((((⟨#[98, 97, 110, 32]⟩ ++ ⟨#[112, 97, 116, 104]⟩) ++ ⟨#[32]⟩) ++ tt) ++ ⟨#[32]⟩)) (some 18) rfl rfl (by kernel_rfl) (by kernel_rfl) (by kernel_rfl) (fun _ _ _ h => h) (Or.inl ⟨by rfl, by intro W _; go_simp <;> omega⟩) hS5 ?_
          simp only [Act.put, List.setIfInBounds_toArray, List.set_cons_zero, List.set_cons_succ]
          refine wpAnyH_takeD (i := 14) (v := .string (((((⟨#[98, 97, 110, 32]⟩ ++ ⟨#[112, 97, 116, 104]⟩) ++ ⟨#[32]⟩) ++ tt) ++ ⟨#[32]⟩) ++ a)) (some 21) rfl rfl (by kernel_rfl) (by kernel_rfl) (by kernel_rfl) (fun _ _ _ h => h) (Or.inl ⟨by rfl, by intro W _; go_simp <;> omega⟩) hS5 ?_
          simp only [Act.put, List.setIfInBounds_toArray, List.set_cons_zero, List.set_cons_succ]
          refine wpAnyH_takeD (i := 15) (v := .string (((((⟨#[98, 97, 110, 32]⟩ ++ ⟨#[112, 97, 116, 104]⟩) ++ ⟨#[32]⟩) ++ tt) ++ ⟨#[32]⟩) ++ a)) (some 3) rfl rfl (by kernel_rfl) (by kernel_rfl) (by kernel_rfl) (fun _ _ _ h => h) (Or.inl ⟨by rfl, by intro W _; go_simp⟩) hS5 ?_
          simp only [Act.put, List.setIfInBounds_toArray, List.set_cons_zero, List.set_cons_succ]
          clear hS5
          refine wpAnyH_done (by kernel_rfl) ?_ _
          have cv1_0 : (w5).cell? ⟨qv1, 0, none⟩ = some (.int .i64 1) := (cell_of HBv1_5.out 0).trans rfl
          go_wp2_with fail
          go_ret
          exact ⟨_, rfl, fun _ => by rw [← HTT.out, numTextI_of HT.out.1]; rfl, fun h => absurd HOK.out h, hb5⟩
        · go_simp
          refine (specNumText_int t _ (by have := HT.out; omega) (by have := HT.out; omega)).mono ?_
          rintro e w5 ⟨rfl, bw⟩
          rw [HTT.out]
          have hb5 : Below w.heap.size w (w5) := hb4.trans (bw.mono hb4.size)
          have HM5 : Hid ((w4).heap.size ≤ (w5).heap.size) := bw.size
          have HBv1_5 : Hid ((w5).heap[qv1]? = some (.cells #[.int .i64 1, .string a, .string b, .int .i64 t] 25)) := blk_below HBv1_4.out bw
          have HBv2_5 : Hid ((w5).heap[qv2]? = some (.cells #[.string ⟨#[]⟩, .string ⟨#[112, 97, 116, 104]⟩, .string ⟨#[98, 101, 108, 111, 119]⟩, .string ⟨#[102, 105, 101, 108, 100]⟩] 9)) := blk_below HBv2_4.out bw
          clear hb4 HBv1_4 HBv2_4 bw
          have hS5 : w5.heap[qv1]? = some (.cells #[.int .i64 1, .string a, .string b, .int .i64 t] 25) := HBv1_5.out
          refine hK.out _ _ hS5 (fun _ => ?_)
          clear hK K hS4
          refine wpAnyH_ready (rs := [4]) (by kernel_rfl) (by simp) ?_
          refine AllReadyH.cons rfl (fun K hK => ?_) AllReadyH.nil
          have ylt : (w5).cell? ⟨qv2, 1, none⟩ = some (.string ⟨#[112, 97, 116, 104]⟩) := (cell_of HBv2_5.out 1).trans rfl
          go_simp
          refine hK.out _ _ hS5 (fun _ => ?_)
          clear hK K ylt
          refine wpAnyH_takeD (i := 5) (v := .string (⟨#[98, 97, 110, 32]⟩ ++ ⟨#[112, 97, 116, 104]⟩)) (some 12) rfl rfl (by kernel_rfl) (by kernel_rfl) (by kernel_rfl) (fun _ _ _ h => h) (Or.inl ⟨by rfl, by intro W _; go_simp <;> omega⟩) hS5 ?_
          simp only [Act.put, List.setIfInBounds_toArray, List.set_cons_zero, List.set_cons_succ]
          refine wpAnyH_takeD (i := 6) (v := .string ((⟨#[98, 97, 110, 32]⟩ ++ ⟨#[112, 97, 116, 104]⟩) ++ ⟨#[32]⟩)) (some 13) rfl rfl (by kernel_rfl) (by kernel_rfl) (by kernel_rfl) (fun _ _ _ h => h) (Or.inl ⟨by rfl, by intro W _; go_simp <;> omega⟩) hS5 ?_
          simp only [Act.put, List.setIfInBounds_toArray, List.set_cons_zero, List.set_cons_succ]
          refine wpAnyH_takeD (i := 10) (v := .string (((⟨#[98, 97, 110, 32]⟩ ++ ⟨#[112, 97, 116, 104]⟩) ++ ⟨#[32]⟩) ++ tt)) (some 17) rfl rfl (by kernel_rfl) (by kernel_rfl) (by kernel_rfl) (fun _ _ _ h => h) (Or.inl ⟨by rfl, by intro W _; go_simp <;> omega⟩) hS5 ?_
          simp only [Act.put, List.setIfInBounds_toArray, List.set_cons_zero, List.set_cons_succ]
          refine wpAnyH_takeD (i := 11) (v := .string ((((⟨#[98, 97, 110, 32]⟩ ++ ⟨#[112, 97, 116, 104]⟩) ++ ⟨#[32]⟩) ++ tt) ++ ⟨#[32]⟩)) (some 18) rfl rfl (by kernel_rfl) (by kernel_rfl) (by kernel_rfl) (fun _ _ _ h => h) (Or.inl ⟨by rfl, by intro W _; go_simp <;> omega⟩) hS5 ?_
          simp only [Act.put, List.setIfInBounds_toArray, List.set_cons_zero, List.set_cons_succ]
          refine wpAnyH_takeD (i := 14) (v := .string (((((⟨#[98, 97, 110, 32]⟩ ++ ⟨#[112, 97, 116, 104]⟩) ++ ⟨#[32]⟩) ++ tt) ++ ⟨#[32]⟩) ++ a)) (some 21) rfl rfl (by kernel_rfl) (by kernel_rfl) (by kernel_rfl) (fun _ _ _ h => h) (Or.inl ⟨by rfl, by intro W _; go_simp <;> omega⟩) hS5 ?_
          simp only [Act.put, List.setIfInBounds_toArray, List.set_cons_zero, List.set_cons_succ]
          refine wpAnyH_takeD (i := 15) (v := .string (((((⟨#[98, 97, 110, 32]⟩ ++ ⟨#[112, 97, 116, 104]⟩) ++ ⟨#[32]⟩) ++ tt) ++ ⟨#[32]⟩) ++ a)) (some 3) rfl rfl (by kernel_rfl) (by kernel_rfl) (by kernel_rfl) (fun _ _ _ h => h) (Or.inl ⟨by rfl, by intro W _; go_simp⟩) hS5 ?_
          simp only [Act.put, List.setIfInBounds_toArray, List.set_cons_zero, List.set_cons_succ]
          clear hS5
          refine wpAnyH_done (by kernel_rfl) ?_ _
          have cv1_0 : (w5).cell? ⟨qv1, 0, none⟩ = some (.int .i64 1) := (cell_of HBv1_5.out 0).trans rfl
          go_wp2_with fail
          go_ret
          exact ⟨_, rfl, fun _ => by rw [← HTT.out, numTextI_of HT.out.1]; rfl, fun h => absurd HOK.out h, hb5⟩
      · go_simp
        refine (specNumText_int t _ (by have := HT.out; omega) (by have := HT.out; omega)).mono ?_
        rintro e w4 ⟨rfl, bw⟩
        rw [HTT.out]
        have hb4 : Below w.heap.size w (w4) := hb3.trans (bw.mono hb3.size)
        have HM4 : Hid ((w3).heap.size ≤ (w4).heap.size) := bw.size
        have HBv1_4 : Hid ((w4).heap[qv1]? = some (.cells #[.int .i64 1, .string a, .string b, .int .i64 t] 25)) := blk_below HBv1_3.out bw
        clear hb3 HBv1_3 bw
        have hS4 : w4.heap[qv1]? = some (.cells #[.int .i64 1, .string a, .string b, .int .i64 t] 25) := HBv1_4.out
        refine hK.out _ _ hS4 (fun _ => ?_)
        clear hK K hS3
        refine wpAnyH_ready (rs := [0]) (by kernel_rfl) (by simp) ?_
        refine AllReadyH.cons rfl (fun K hK => ?_) AllReadyH.nil
        go_simp
        have bw : Below w4.heap.size w4 (w4.alloc (.cells #[.string ⟨#[]⟩, .string ⟨#[112, 97, 116, 104]⟩, .string ⟨#[98, 101, 108, 111, 119]⟩, .string ⟨#[102, 105, 101, 108, 100]⟩] 9)) := (Below.refl _ _).alloc (Nat.le_refl _) _
        have hSA : (w4.alloc (.cells #[.string ⟨#[]⟩, .string ⟨#[112, 97, 116, 104]⟩, .string ⟨#[98, 101, 108, 111, 119]⟩, .string ⟨#[102, 105, 101, 108, 100]⟩] 9)).heap[qv1]? = some (.cells #[.int .i64 1, .string a, .string b, .int .i64 t] 25) := blk_below HBv1_4.out bw
        refine hK.out _ _ hSA (fun _ => ?_)
        clear hK K hSA bw hS4
        obtain ⟨qv2, hqv2⟩ : ∃ o, o = w4.heap.size := ⟨_, rfl⟩
        obtain ⟨w5, hXj⟩ : ∃ X, X = (w4.alloc (.cells #[.string ⟨#[]⟩, .string ⟨#[112, 97, 116, 104]⟩, .string ⟨#[98, 101, 108, 111, 119]⟩, .string ⟨#[102, 105, 101, 108, 100]⟩] 9)) := ⟨_, rfl⟩
        rw [← hqv2, ← hXj]
        have bw : Below w4.heap.size w4 w5 := by rw [hXj]; exact (Below.refl _ _).alloc (Nat.le_refl _) _
        have hb5 : Below w.heap.size w (w5) := hb4.trans (bw.mono hb4.size)
        have HM5 : Hid ((w4).heap.size ≤ (w5).heap.size) := bw.size
        have HBv1_5 : Hid ((w5).heap[qv1]? = some (.cells #[.int .i64 1, .string a, .string b, .int .i64 t] 25)) := blk_below HBv1_4.out bw
        have HNv1v2 : Hid (qv1 ≠ qv2) := fun e => by have h1 := (Array.getElem?_eq_some_iff.1 HBv1_4.out).1; omega
        have HBv2_5 : Hid ((w5).heap[qv2]? = some (.cells #[.string ⟨#[]⟩, .string ⟨#[112, 97, 116, 104]⟩, .string ⟨#[98, 101, 108, 111, 119]⟩, .string ⟨#[102, 105, 101, 108, 100]⟩] 9)) := by show _ = _; rw [hXj, hqv2]; exact heap_alloc_new _ _
        have HGv2 : Hid (w.heap.size ≤ qv2) := by show _ ≤ _; rw [hqv2]; exact hb4.size
        have hS5 : w5.heap[qv1]? = some (.cells #[.int .i64 1, .string a, .string b, .int .i64 t] 25) := HBv1_5.out
        clear hb4 HBv1_4 bw hXj hqv2
        refine wpAnyH_takeD (i := 3) (v := .pointer (some ⟨qv2, 1, none⟩)) (some 10) rfl rfl (by kernel_rfl) (by kernel_rfl) (by kernel_rfl) (fun _ _ _ h => h) (Or.inl ⟨by rfl, by intro W _; go_simp⟩) hS5 ?_
        simp only [Act.put, List.setIfInBounds_toArray, List.set_cons_zero, List.set_cons_succ]
        refine wpAnyH_ready (rs := [4]) (by kernel_rfl) (by simp) ?_
        refine AllReadyH.cons rfl (fun K hK => ?_) AllReadyH.nil
        have ylt : (w5).cell? ⟨qv2, 1, none⟩ = some (.string ⟨#[112, 97, 116, 104]⟩) := (cell_of HBv2_5.out 1).trans rfl
        go_simp
        refine hK.out _ _ hS5 (fun _ => ?_)
        clear hK K ylt
        refine wpAnyH_takeD (i := 5) (v := .string (⟨#[98, 97, 110, 32]⟩ ++ ⟨#[112, 97, 116, 104]⟩)) (some 12) rfl rfl (by kernel_rfl) (by kernel_rfl) (by kernel_rfl) (fun _ _ _ h => h) (Or.inl ⟨by rfl, by intro W _; go_simp <;> omega⟩) hS5 ?_
        simp only [Act.put, List.setIfInBounds_toArray, List.set_cons_zero, List.set_cons_succ]
        refine wpAnyH_takeD (i := 6) (v := .string ((⟨#[98, 97, 110, 32]⟩ ++ ⟨#[112, 97, 116, 104]⟩) ++ ⟨#[32]⟩)) (some 13) rfl rfl (by kernel_rfl) (by kernel_rfl) (by kernel_rfl) (fun _ _ _ h => h) (Or.inl ⟨by rfl, by intro W _; go_simp <;> omega⟩) hS5 ?_
        simp only [Act.put, List.setIfInBounds_toArray, List.set_cons_zero, List.set_cons_succ]
        refine wpAnyH_takeD (i := 10) (v := .string (((⟨#[98, 97, 110, 32]⟩ ++ ⟨#[112, 97, 116, 104]⟩) ++ ⟨#[32]⟩) ++ tt)) (some 17) rfl rfl (by kernel_rfl) (by kernel_rfl) (by kernel_rfl) (fun _ _ _ h => h) (Or.inl ⟨by rfl, by intro W _; go_simp <;> omega⟩) hS5 ?_
        simp only [Act.put, List.setIfInBounds_toArray, List.set_cons_zero, List.set_cons_succ]
        refine wpAnyH_takeD (i := 11) (v := .string ((((⟨#[98, 97, 110, 32]⟩ ++ ⟨#[112, 97, 116, 104]⟩) ++ ⟨#[32]⟩) ++ tt) ++ ⟨#[32]⟩)) (some 18) rfl rfl (by kernel_rfl) (by kernel_rfl) (by kernel_rfl) (fun _ _ _ h => h) (Or.inl ⟨by rfl, by intro W _; go_simp <;> omega⟩) hS5 ?_
        simp only [Act.put, List.setIfInBounds_toArray, List.set_cons_zero, List.set_cons_succ]
        refine wpAnyH_takeD (i := 14) (v := .string (((((⟨#[98, 97, 110, 32]⟩ ++ ⟨#[112, 97, 116, 104]⟩) ++ ⟨#[32]⟩) ++ tt) ++ ⟨#[32]⟩) ++ a)) (some 21) rfl rfl (by kernel_rfl) (by kernel_rfl) (by kernel_rfl) (fun _ _ _ h => h) (Or.inl ⟨by rfl, by intro W _; go_simp <;> omega⟩) hS5 ?_
        simp only [Act.put, List.setIfInBounds_toArray, List.set_cons_zero, List.set_cons_succ]
        refine wpAnyH_takeD (i := 15) (v := .string (((((⟨#[98, 97, 110, 32]⟩ ++ ⟨#[112, 97, 116, 104]⟩) ++ ⟨#[32]⟩) ++ tt) ++ ⟨#[32]⟩) ++ a)) (some 3) rfl rfl (by kernel_rfl) (by kernel_rfl) (by kernel_rfl) (fun _ _ _ h => h) (Or.inl ⟨by rfl, by intro W _; go_simp⟩) hS5 ?_
        simp only [Act.put, List.setIfInBounds_toArray, List.set_cons_zero, List.set_cons_succ]
        clear hS5
        refine wpAnyH_done (by kernel_rfl) ?_ _
        have cv1_0 : (w5).cell? ⟨qv1, 0, none⟩ = some (.int .i64 1) := (cell_of HBv1_5.out 0).trans rfl
        go_wp2_with fail
        go_ret
        exact ⟨_, rfl, fun _ => by rw [← HTT.out, numTextI_of HT.out.1]; rfl, fun h => absurd HOK.out h, hb5⟩
    · go_upto_region 3 with fail
      refine wp_region_held_drew (S := fun W => W.heap[qv1]? = some (.cells #[.int .i64 2, .string a, .string b, .int .i64 t] 25)) (by kernel_rfl) HBv1_2.out (fun _ => ?_)
      obtain ⟨w3, hX⟩ : ∃ X, X = w2.drew := ⟨_, rfl⟩
      have bw : Below w2.heap.size w2 w3 := by rw [hX]; exact (Below.refl _ _).drew
      rw [← hX]
      have hb3 : Below w.heap.size w (w3) := hb2.trans (bw.mono hb2.size)
      have HM3 : Hid ((w2).heap.size ≤ (w3).heap.size) := bw.size
      have HBv1_3 : Hid ((w3).heap[qv1]? = some (.cells #[.int .i64 2, .string a, .string b, .int .i64 t] 25)) := blk_below HBv1_2.out bw
      have hS3 : w3.heap[qv1]? = some (.cells #[.int .i64 2, .string a, .string b, .int .i64 t] 25) := HBv1_3.out
      clear hb2 HBv1_2 bw hX
      refine wpAnyH_takeD (i := 1) (v := .pointer (some ⟨qv1, 0, none⟩)) (some 8) rfl rfl (by kernel_rfl) (by kernel_rfl) (by kernel_rfl) (fun _ _ _ h => h) (Or.inl ⟨by rfl, by intro W _; go_simp⟩) hS3 ?_
      simp only [Act.put, List.setIfInBounds_toArray, List.set_cons_zero, List.set_cons_succ]
      refine wpAnyH_takeD (i := 2) (v := .int .i64 2) (some 9) rfl rfl (by kernel_rfl) (by kernel_rfl) (by kernel_rfl) (fun _ _ _ h => h) (Or.inl ⟨by rfl, by intro W hW; have hhv1 := hW; have y0 := (cell_of hhv1 0).trans rfl; go_simp⟩) hS3 ?_
      simp only [Act.put, List.setIfInBounds_toArray, List.set_cons_zero, List.set_cons_succ]
      refine wpAnyH_takeD (i := 7) (v := .pointer (some ⟨qv1, 3, none⟩)) (some 14) rfl rfl (by kernel_rfl) (by kernel_rfl) (by kernel_rfl) (fun _ _ _ h => h) (Or.inl ⟨by rfl, by intro W _; go_simp⟩) hS3 ?_
      simp only [Act.put, List.setIfInBounds_toArray, List.set_cons_zero, List.set_cons_succ]
      refine wpAnyH_takeD (i := 8) (v := .int .i64 t) (some 15) rfl rfl (by kernel_rfl) (by kernel_rfl) (by kernel_rfl) (fun _ _ _ h => h) (Or.inl ⟨by rfl, by intro W hW; have hhv1 := hW; have y3 := (cell_of hhv1 3).trans rfl; go_simp⟩) hS3 ?_
      simp only [Act.put, List.setIfInBounds_toArray, List.set_cons_zero, List.set_cons_succ]
      refine wpAnyH_takeD (i := 12) (v := .pointer (some ⟨qv1, 1, none⟩)) (some 19) rfl rfl (by kernel_rfl) (by kernel_rfl) (by kernel_rfl) (fun _ _ _ h => h) (Or.inl ⟨by rfl, by intro W _; go_simp⟩) hS3 ?_
      simp only [Act.put, List.setIfInBounds_toArray, List.set_cons_zero, List.set_cons_succ]
      refine wpAnyH_takeD (i := 13) (v := .string a) (some 20) rfl rfl (by kernel_rfl) (by kernel_rfl) (by kernel_rfl) (fun _ _ _ h => h) (Or.inl ⟨by rfl, by intro W hW; have hhv1 := hW; have y1 := (cell_of hhv1 1).trans rfl; go_simp⟩) hS3 ?_
      simp only [Act.put, List.setIfInBounds_toArray, List.set_cons_zero, List.set_cons_succ]
      refine wpAnyH_ready (rs := [0, 9]) (by kernel_rfl) (by simp) ?_
      refine AllReadyH.cons rfl (fun K hK => ?_) (AllReadyH.cons rfl (fun K hK => ?_) AllReadyH.nil)
      · go_simp
        have bw : Below w3.heap.size w3 (w3.alloc (.cells #[.string ⟨#[]⟩, .string ⟨#[112, 97, 116, 104]⟩, .string ⟨#[98, 101, 108, 111, 119]⟩, .string ⟨#[102, 105, 101, 108, 100]⟩] 9)) := (Below.refl _ _).alloc (Nat.le_refl _) _
        have hSA : (w3.alloc (.cells #[.string ⟨#[]⟩, .string ⟨#[112, 97, 116, 104]⟩, .string ⟨#[98, 101, 108, 111, 119]⟩, .string ⟨#[102, 105, 101, 108, 100]⟩] 9)).heap[qv1]? = some (.cells #[.int .i64 2, .string a, .string b, .int .i64 t] 25) := blk_below HBv1_3.out bw
        refine hK.out _ _ hSA (fun _ => ?_)
        clear hK K hSA bw hS3
        obtain ⟨qv2, hqv2⟩ : ∃ o, o = w3.heap.size := ⟨_, rfl⟩
        obtain ⟨w4, hXj⟩ : ∃ X, X = (w3.alloc (.cells #[.string ⟨#[]⟩, .string ⟨#[112, 97, 116, 104]⟩, .string ⟨#[98, 101, 108, 111, 119]⟩, .string ⟨#[102, 105, 101, 108, 100]⟩] 9)) := ⟨_, rfl⟩
        rw [← hqv2, ← hXj]
        have bw : Below w3.heap.size w3 w4 := by rw [hXj]; exact (Below.refl _ _).alloc (Nat.le_refl _) _
        have hb4 : Below w.heap.size w (w4) := hb3.trans (bw.mono hb3.size)
        have HM4 : Hid ((w3).heap.size ≤ (w4).heap.size) := bw.size
        have HBv1_4 : Hid ((w4).heap[qv1]? = some (.cells #[.int .i64 2, .string a, .string b, .int .i64 t] 25)) := blk_below HBv1_3.out bw
        have HNv1v2 : Hid (qv1 ≠ qv2) := fun e => by have h1 := (Array.getElem?_eq_some_iff.1 HBv1_3.out).1; omega
        have HBv2_4 : Hid ((w4).heap[qv2]? = some (.cells #[.string ⟨#[]⟩, .string ⟨#[112, 97, 116, 104]⟩, .string ⟨#[98, 101, 108, 111, 119]⟩, .string ⟨#[102, 105, 101, 108, 100]⟩] 9)) := by show _ = _; rw [hXj, hqv2]; exact heap_alloc_new _ _
        have HGv2 : Hid (w.heap.size ≤ qv2) := by show _ ≤ _; rw [hqv2]; exact hb3.size
        have hS4 : w4.heap[qv1]? = some (.cells #[.int .i64 2, .string a, .string b, .int .i64 t] 25) := HBv1_4.out
        clear hb3 HBv1_3 bw hXj hqv2
        refine wpAnyH_takeD (i := 3) (v := .pointer (some ⟨qv2, 2, none⟩)) (some 10) rfl rfl (by kernel_rfl) (by kernel_rfl) (by kernel_rfl) (fun _ _ _ h => h) (Or.inl ⟨by rfl, by intro W _; go_simp⟩) hS4 ?_
        simp only [Act.put, List.setIfInBounds_toArray, List.set_cons_zero, List.set_cons_succ]
        refine wpAnyH_ready (rs := [4, 9]) (by kernel_rfl) (by simp) ?_
        refine AllReadyH.cons rfl (fun K hK => ?_) (AllReadyH.cons rfl (fun K hK => ?_) AllReadyH.nil)
        · have ylt : (w4).cell? ⟨qv2, 2, none⟩ = some (.string ⟨#[98, 101, 108, 111, 119]⟩) := (cell_of HBv2_4.out 2).trans rfl
          go_simp
          refine hK.out _ _ hS4 (fun _ => ?_)
          clear hK K ylt
          refine wpAnyH_takeD (i := 5) (v := .string (⟨#[98, 97, 110, 32]⟩ ++ ⟨#[98, 101, 108, 111, 119]⟩)) (some 12) rfl rfl (by kernel_rfl) (by kernel_rfl) (by kernel_rfl) (fun _ _ _ h => h) (Or.inl ⟨by rfl, by intro W _; go_simp <;> omega⟩) hS4 ?_
          simp only [Act.put, List.setIfInBounds_toArray, List.set_cons_zero, List.set_cons_succ]
          refine wpAnyH_takeD (i := 6) (v := .string ((⟨#[98, 97, 110, 32]⟩ ++ ⟨#[98, 101, 108, 111, 119]⟩) ++ ⟨#[32]⟩)) (some 13) rfl rfl (by kernel_rfl) (by kernel_rfl) (by kernel_rfl) (fun _ _ _ h => h) (Or.inl ⟨by rfl, by intro W _; go_simp <;> omega⟩) hS4 ?_
          simp only [Act.put, List.setIfInBounds_toArray, List.set_cons_zero, List.set_cons_succ]
          refine wpAnyH_ready (rs := [9]) (by kernel_rfl) (by simp) ?_
          refine AllReadyH.cons rfl (fun K hK => ?_) AllReadyH.nil
          go_simp
          refine (specNumText_int t _ (by have := HT.out; omega) (by have := HT.out; omega)).mono ?_
          rintro e w5 ⟨rfl, bw⟩
          rw [HTT.out]
          have hb5 : Below w.heap.size w (w5) := hb4.trans (bw.mono hb4.size)
          have HM5 : Hid ((w4).heap.size ≤ (w5).heap.size) := bw.size
          have HBv1_5 : Hid ((w5).heap[qv1]? = some (.cells #[.int .i64 2, .string a, .string b, .int .i64 t] 25)) := blk_below HBv1_4.out bw
          have HBv2_5 : Hid ((w5).heap[qv2]? = some (.cells #[.string ⟨#[]⟩, .string ⟨#[112, 97, 116, 104]⟩, .string ⟨#[98, 101, 108, 111, 119]⟩, .string ⟨#[102, 105, 101, 108, 100]⟩] 9)) := blk_below HBv2_4.out bw
          clear hb4 HBv1_4 HBv2_4 bw
          have hS5 : w5.heap[qv1]? = some (.cells #[.int .i64 2, .string a, .string b, .int .i64 t] 25) := HBv1_5.out
          refine hK.out _ _ hS5 (fun _ => ?_)
          clear hK K hS4
          refine wpAnyH_takeD (i := 10) (v := .string (((⟨#[98, 97, 110, 32]⟩ ++ ⟨#[98, 101, 108, 111, 119]⟩) ++ ⟨#[32]⟩) ++ tt)) (some 17) rfl rfl (by kernel_rfl) (by kernel_rfl) (by kernel_rfl) (fun _ _ _ h => h) (Or.inl ⟨by rfl, by intro W _; go_simp <;> omega⟩) hS5 ?_
          simp only [Act.put, List.setIfInBounds_toArray, List.set_cons_zero, List.set_cons_succ]
          refine wpAnyH_takeD (i := 11) (v := .string ((((⟨#[98, 97, 110, 32]⟩ ++ ⟨#[98, 101, 108, 111, 119]⟩) ++ ⟨#[32]⟩) ++ tt) ++ ⟨#[32]⟩)) (some 18) rfl rfl (by kernel_rfl) (by kernel_rfl) (by kernel_rfl) (fun _ _ _ h => h) (Or.inl ⟨by rfl, by intro W _; go_simp <;> omega⟩) hS5 ?_
          simp only [Act.put, List.setIfInBounds_toArray, List.set_cons_zero, List.set_cons_succ]
          refine wpAnyH_takeD (i := 14) (v := .string (((((⟨#[98, 97, 110, 32]⟩ ++ ⟨#[98, 101, 108, 111, 119]⟩) ++ ⟨#[32]⟩) ++ tt) ++ ⟨#[32]⟩) ++ a)) (some 21) rfl rfl (by kernel_rfl) (by kernel_rfl) (by kernel_rfl) (fun _ _ _ h => h) (Or.inl ⟨by rfl, by intro W _; go_simp <;> omega⟩) hS5 ?_
          simp only [Act.put, List.setIfInBounds_toArray, List.set_cons_zero, List.set_cons_succ]
          refine wpAnyH_takeD (i := 15) (v := .string (((((⟨#[98, 97, 110, 32]⟩ ++ ⟨#[98, 101, 108, 111, 119]⟩) ++ ⟨#[32]⟩) ++ tt) ++ ⟨#[32]⟩) ++ a)) (some 3) rfl rfl (by kernel_rfl) (by kernel_rfl) (by kernel_rfl) (fun _ _ _ h => h) (Or.inl ⟨by rfl, by intro W _; go_simp⟩) hS5 ?_
          simp only [Act.put, List.setIfInBounds_toArray, List.set_cons_zero, List.set_cons_succ]
          clear hS5
          refine wpAnyH_done (by kernel_rfl) ?_ _
          have cv1_0 : (w5).cell? ⟨qv1, 0, none⟩ = some (.int .i64 2) := (cell_of HBv1_5.out 0).trans rfl
          go_wp2_with fail
          go_ret
          exact ⟨_, rfl, fun _ => by rw [← HTT.out, numTextI_of HT.out.1]; rfl, fun h => absurd HOK.out h, hb5⟩
        · go_simp
          refine (specNumText_int t _ (by have := HT.out; omega) (by have := HT.out; omega)).mono ?_
          rintro e w5 ⟨rfl, bw⟩
          rw [HTT.out]
          have hb5 : Below w.heap.size w (w5) := hb4.trans (bw.mono hb4.size)
          have HM5 : Hid ((w4).heap.size ≤ (w5).heap.size) := bw.size
          have HBv1_5 : Hid ((w5).heap[qv1]? = some (.cells #[.int .i64 2, .string a, .string b, .int .i64 t] 25)) := blk_below HBv1_4.out bw
          have HBv2_5 : Hid ((w5).heap[qv2]? = some (.cells #[.string ⟨#[]⟩, .string ⟨#[112, 97, 116, 104]⟩, .string ⟨#[98, 101, 108, 111, 119]⟩, .string ⟨#[102, 105, 101, 108, 100]⟩] 9)) := blk_below HBv2_4.out bw
          clear hb4 HBv1_4 HBv2_4 bw
          have hS5 : w5.heap[qv1]? = some (.cells #[.int .i64 2, .string a, .string b, .int .i64 t] 25) := HBv1_5.out
          refine hK.out _ _ hS5 (fun _ => ?_)
          clear hK K hS4
          refine wpAnyH_ready (rs := [4]) (by kernel_rfl) (by simp) ?_
          refine AllReadyH.cons rfl (fun K hK => ?_) AllReadyH.nil
          have ylt : (w5).cell? ⟨qv2, 2, none⟩ = some (.string ⟨#[98, 101, 108, 111, 119]⟩) := (cell_of HBv2_5.out 2).trans rfl
          go_simp
          refine hK.out _ _ hS5 (fun _ => ?_)
          clear hK K ylt
          refine wpAnyH_takeD (i := 5) (v := .string (⟨#[98, 97, 110, 32]⟩ ++ ⟨#[98, 101, 108, 111, 119]⟩)) (some 12) rfl rfl (by kernel_rfl) (by kernel_rfl) (by kernel_rfl) (fun _ _ _ h => h) (Or.inl ⟨by rfl, by intro W _; go_simp <;> omega⟩) hS5 ?_
          simp only [Act.put, List.setIfInBounds_toArray, List.set_cons_zero, List.set_cons_succ]
          refine wpAnyH_takeD (i := 6) (v := .string ((⟨#[98, 97, 110, 32]⟩ ++ ⟨#[98, 101, 108, 111, 119]⟩) ++ ⟨#[32]⟩)) (some 13) rfl rfl (by kernel_rfl) (by kernel_rfl) (by kernel_rfl) (fun _ _ _ h => h) (Or.inl ⟨by rfl, by intro W _; go_simp <;> omega⟩) hS5 ?_
          simp only [Act.put, List.setIfInBounds_toArray, List.set_cons_zero, List.set_cons_succ]
          refine wpAnyH_takeD (i := 10) (v := .string (((⟨#[98, 97, 110, 32]⟩ ++ ⟨#[98, 101, 108, 111, 119]⟩) ++ ⟨#[32]⟩) ++ tt)) (some 17) rfl rfl (by kernel_rfl) (by kernel_rfl) (by kernel_rfl) (fun _ _ _ h => h) (Or.inl ⟨by rfl, by intro W _; go_simp <;> omega⟩) hS5 ?_
          simp only [Act.put, List.setIfInBounds_toArray, List.set_cons_zero, List.set_cons_succ]
          refine wpAnyH_takeD (i := 11) (v := .string ((((⟨#[98, 97, 110, 32]⟩ ++ ⟨#[98, 101, 108, 111, 119]⟩) ++ ⟨#[32]⟩) ++ tt) ++ ⟨#[32]⟩)) (some 18) rfl rfl (by kernel_rfl) (by kernel_rfl) (by kernel_rfl) (fun _ _ _ h => h) (Or.inl ⟨by rfl, by intro W _; go_simp <;> omega⟩) hS5 ?_
          simp only [Act.put, List.setIfInBounds_toArray, List.set_cons_zero, List.set_cons_succ]
          refine wpAnyH_takeD (i := 14) (v := .string (((((⟨#[98, 97, 110, 32]⟩ ++ ⟨#[98, 101, 108, 111, 119]⟩) ++ ⟨#[32]⟩) ++ tt) ++ ⟨#[32]⟩) ++ a)) (some 21) rfl rfl (by kernel_rfl) (by kernel_rfl) (by kernel_rfl) (fun _ _ _ h => h) (Or.inl ⟨by rfl, by intro W _; go_simp <;> omega⟩) hS5 ?_
          simp only [Act.put, List.setIfInBounds_toArray, List.set_cons_zero, List.set_cons_succ]
          refine wpAnyH_takeD (i := 15) (v := .string (((((⟨#[98, 97, 110, 32]⟩ ++ ⟨#[98, 101, 108, 111, 119]⟩) ++ ⟨#[32]⟩) ++ tt) ++ ⟨#[32]⟩) ++ a)) (some 3) rfl rfl (by kernel_rfl) (by kernel_rfl) (by kernel_rfl) (fun _ _ _ h => h) (Or.inl ⟨by rfl, by intro W _; go_simp⟩) hS5 ?_
          simp only [Act.put, List.setIfInBounds_toArray, List.set_cons_zero, List.set_cons_succ]
          clear hS5
          refine wpAnyH_done (by kernel_rfl) ?_ _
          have cv1_0 : (w5).cell? ⟨qv1, 0, none⟩ = some (.int .i64 2) := (cell_of HBv1_5.out 0).trans rfl
          go_wp2_with fail
          go_ret
          exact ⟨_, rfl, fun _ => by rw [← HTT.out, numTextI_of HT.out.1]; rfl, fun h => absurd HOK.out h, hb5⟩
      · go_simp
        refine (specNumText_int t _ (by have := HT.out; omega) (by have := HT.out; omega)).mono ?_
        rintro e w4 ⟨rfl, bw⟩
        rw [HTT.out]
        have hb4 : Below w.heap.size w (w4) := hb3.trans (bw.mono hb3.size)
        have HM4 : Hid ((w3).heap.size ≤ (w4).heap.size) := bw.size
        have HBv1_4 : Hid ((w4).heap[qv1]? = some (.cells #[.int .i64 2, .string a, .string b, .int .i64 t] 25)) := blk_below HBv1_3.out bw
        clear hb3 HBv1_3 bw
        have hS4 : w4.heap[qv1]? = some (.cells #[.int .i64 2, .string a, .string b, .int .i64 t] 25) := HBv1_4.out
        refine hK.out _ _ hS4 (fun _ => ?_)
        clear hK K hS3
        refine wpAnyH_ready (rs := [0]) (by kernel_rfl) (by simp) ?_
        refine AllReadyH.cons rfl (fun K hK => ?_) AllReadyH.nil
        go_simp
        have bw : Below w4.heap.size w4 (w4.alloc (.cells #[.string ⟨#[]⟩, .string ⟨#[112, 97, 116, 104]⟩, .string ⟨#[98, 101, 108, 111, 119]⟩, .string ⟨#[102, 105, 101, 108, 100]⟩] 9)) := (Below.refl _ _).alloc (Nat.le_refl _) _
        have hSA : (w4.alloc (.cells #[.string ⟨#[]⟩, .string ⟨#[112, 97, 116, 104]⟩, .string ⟨#[98, 101, 108, 111, 119]⟩, .string ⟨#[102, 105, 101, 108, 100]⟩] 9)).heap[qv1]? = some (.cells #[.int .i64 2, .string a, .string b, .int .i64 t] 25) := blk_below HBv1_4.out bw
        refine hK.out _ _ hSA (fun _ => ?_)
        clear hK K hSA bw hS4
        obtain ⟨qv2, hqv2⟩ : ∃ o, o = w4.heap.size := ⟨_, rfl⟩
        obtain ⟨w5, hXj⟩ : ∃ X, X = (w4.alloc (.cells #[.string ⟨#[]⟩, .string ⟨#[112, 97, 116, 104]⟩, .string ⟨#[98, 101, 108, 111, 119]⟩, .string ⟨#[102, 105, 101, 108, 100]⟩] 9)) := ⟨_, rfl⟩
        rw [← hqv2, ← hXj]
        have bw : Below w4.heap.size w4 w5 := by rw [hXj]; exact (Below.refl _ _).alloc (Nat.le_refl _) _
        have hb5 : Below w.heap.size w (w5) := hb4.trans (bw.mono hb4.size)
        have HM5 : Hid ((w4).heap.size ≤ (w5).heap.size) := bw.size
        have HBv1_5 : Hid ((w5).heap[qv1]? = some (.cells #[.int .i64 2, .string a, .string b, .int .i64 t] 25)) := blk_below HBv1_4.out bw
        have HNv1v2 : Hid (qv1 ≠ qv2) := fun e => by have h1 := (Array.getElem?_eq_some_iff.1 HBv1_4.out).1; omega
        have HBv2_5 : Hid ((w5).heap[qv2]? = some (.cells #[.string ⟨#[]⟩, .string ⟨#[112, 97, 116, 104]⟩, .string ⟨#[98, 101, 108, 111, 119]⟩, .string ⟨#[102, 105, 101, 108, 100]⟩] 9)) := by show _ = _; rw [hXj, hqv2]; exact heap_alloc_new _ _
        have HGv2 : Hid (w.heap.size ≤ qv2) := by show _ ≤ _; rw [hqv2]; exact hb4.size
        have hS5 : w5.heap[qv1]? = some (.cells #[.int .i64 2, .string a, .string b, .int .i64 t] 25) := HBv1_5.out
        clear hb4 HBv1_4 bw hXj hqv2
        refine wpAnyH_takeD (i := 3) (v := .pointer (some ⟨qv2, 2, none⟩)) (some 10) rfl rfl (by kernel_rfl) (by kernel_rfl) (by kernel_rfl) (fun _ _ _ h => h) (Or.inl ⟨by rfl, by intro W _; go_simp⟩) hS5 ?_
        simp only [Act.put, List.setIfInBounds_toArray, List.set_cons_zero, List.set_cons_succ]
        refine wpAnyH_ready (rs := [4]) (by kernel_rfl) (by simp) ?_
        refine AllReadyH.cons rfl (fun K hK => ?_) AllReadyH.nil
        have ylt : (w5).cell? ⟨qv2, 2, none⟩ = some (.string ⟨#[98, 101, 108, 111, 119]⟩) := (cell_of HBv2_5.out 2).trans rfl
        go_simp
        refine hK.out _ _ hS5 (fun _ => ?_)
        clear hK K ylt
        refine wpAnyH_takeD (i := 5) (v := .string (⟨#[98, 97, 110, 32]⟩ ++ ⟨#[98, 101, 108, 111, 119]⟩)) (some 12) rfl rfl (by kernel_rfl) (by kernel_rfl) (by kernel_rfl) (fun _ _ _ h => h) (Or.inl ⟨by rfl, by intro W _; go_simp <;> omega⟩) hS5 ?_
        simp only [Act.put, List.setIfInBounds_toArray, List.set_cons_zero, List.set_cons_succ]
        refine wpAnyH_takeD (i := 6) (v := .string ((⟨#[98, 97, 110, 32]⟩ ++ ⟨#[98, 101, 108, 111, 119]⟩) ++ ⟨#[32]⟩)) (some 13) rfl rfl (by kernel_rfl) (by kernel_rfl) (by kernel_rfl) (fun _ _ _ h => h) (Or.inl ⟨by rfl, by intro W _; go_simp <;> omega⟩) hS5 ?_
        simp only [Act.put, List.setIfInBounds_toArray, List.set_cons_zero, List.set_cons_succ]
        refine wpAnyH_takeD (i := 10) (v := .string (((⟨#[98, 97, 110, 32]⟩ ++ ⟨#[98, 101, 108, 111, 119]⟩) ++ ⟨#[32]⟩) ++ tt)) (some 17) rfl rfl (by kernel_rfl) (by kernel_rfl) (by kernel_rfl) (fun _ _ _ h => h) (Or.inl ⟨by rfl, by intro W _; go_simp <;> omega⟩) hS5 ?_
        simp only [Act.put, List.setIfInBounds_toArray, List.set_cons_zero, List.set_cons_succ]
        refine wpAnyH_takeD (i := 11) (v := .string ((((⟨#[98, 97, 110, 32]⟩ ++ ⟨#[98, 101, 108, 111, 119]⟩) ++ ⟨#[32]⟩) ++ tt) ++ ⟨#[32]⟩)) (some 18) rfl rfl (by kernel_rfl) (by kernel_rfl) (by kernel_rfl) (fun _ _ _ h => h) (Or.inl ⟨by rfl, by intro W _; go_simp <;> omega⟩) hS5 ?_
        simp only [Act.put, List.setIfInBounds_toArray, List.set_cons_zero, List.set_cons_succ]
        refine wpAnyH_takeD (i := 14) (v := .string (((((⟨#[98, 97, 110, 32]⟩ ++ ⟨#[98, 101, 108, 111, 119]⟩) ++ ⟨#[32]⟩) ++ tt) ++ ⟨#[32]⟩) ++ a)) (some 21) rfl rfl (by kernel_rfl) (by kernel_rfl) (by kernel_rfl) (fun _ _ _ h => h) (Or.inl ⟨by rfl, by intro W _; go_simp <;> omega⟩) hS5 ?_
        simp only [Act.put, List.setIfInBounds_toArray, List.set_cons_zero, List.set_cons_succ]
        refine wpAnyH_takeD (i := 15) (v := .string (((((⟨#[98, 97, 110, 32]⟩ ++ ⟨#[98, 101, 108, 111, 119]⟩) ++ ⟨#[32]⟩) ++ tt) ++ ⟨#[32]⟩) ++ a)) (some 3) rfl rfl (by kernel_rfl) (by kernel_rfl) (by kernel_rfl) (fun _ _ _ h => h) (Or.inl ⟨by rfl, by intro W _; go_simp⟩) hS5 ?_
        simp only [Act.put, List.setIfInBounds_toArray, List.set_cons_zero, List.set_cons_succ]
        clear hS5
        refine wpAnyH_done (by kernel_rfl) ?_ _
        have cv1_0 : (w5).cell? ⟨qv1, 0, none⟩ = some (.int .i64 2) := (cell_of HBv1_5.out 0).trans rfl
        go_wp2_with fail
        go_ret
        exact ⟨_, rfl, fun _ => by rw [← HTT.out, numTextI_of HT.out.1]; rfl, fun h => absurd HOK.out h, hb5⟩
    · go_upto_region 3 with fail
      refine wp_region_held_drew (S := fun W => W.heap[qv1]? = some (.cells #[.int .i64 3, .string a, .string b, .int .i64 t] 25)) (by kernel_rfl) HBv1_2.out (fun _ => ?_)
      obtain ⟨w3, hX⟩ : ∃ X, X = w2.drew := ⟨_, rfl⟩
      have bw : Below w2.heap.size w2 w3 := by rw [hX]; exact (Below.refl _ _).drew
      rw [← hX]
      have hb3 : Below w.heap.size w (w3) := hb2.trans (bw.mono hb2.size)
      have HM3 : Hid ((w2).heap.size ≤ (w3).heap.size) := bw.size
      have HBv1_3 : Hid ((w3).heap[qv1]? = some (.cells #[.int .i64 3, .string a, .string b, .int .i64 t] 25)) := blk_below HBv1_2.out bw
      have hS3 : w3.heap[qv1]? = some (.cells #[.int .i64 3, .string a, .string b, .int .i64 t] 25) := HBv1_3.out
      clear hb2 HBv1_2 bw hX
      refine wpAnyH_takeD (i := 1) (v := .pointer (some ⟨qv1, 0, none⟩)) (some 8) rfl rfl (by kernel_rfl) (by kernel_rfl) (by kernel_rfl) (fun _ _ _ h => h) (Or.inl ⟨by rfl, by intro W _; go_simp⟩) hS3 ?_
      simp only [Act.put, List.setIfInBounds_toArray, List.set_cons_zero, List.set_cons_succ]
      refine wpAnyH_takeD (i := 2) (v := .int .i64 3) (some 9) rfl rfl (by kernel_rfl) (by kernel_rfl) (by kernel_rfl) (fun _ _ _ h => h) (Or.inl ⟨by rfl, by intro W hW; have hhv1 := hW; have y0 := (cell_of hhv1 0).trans rfl; go_simp⟩) hS3 ?_
      simp only [Act.put, List.setIfInBounds_toArray, List.set_cons_zero, List.set_cons_succ]
      refine wpAnyH_takeD (i := 7) (v := .pointer (some ⟨qv1, 3, none⟩)) (some 14) rfl rfl (by kernel_rfl) (by kernel_rfl) (by kernel_rfl) (fun _ _ _ h => h) (Or.inl ⟨by rfl, by intro W _; go_simp⟩) hS3 ?_
      simp only [Act.put, List.setIfInBounds_toArray, List.set_cons_zero, List.set_cons_succ]
      refine wpAnyH_takeD (i := 8) (v := .int .i64 t) (some 15) rfl rfl (by kernel_rfl) (by kernel_rfl) (by kernel_rfl) (fun _ _ _ h => h) (Or.inl ⟨by rfl, by intro W hW; have hhv1 := hW; have y3 := (cell_of hhv1 3).trans rfl; go_simp⟩) hS3 ?_
      simp only [Act.put, List.setIfInBounds_toArray, List.set_cons_zero, List.set_cons_succ]
      refine wpAnyH_takeD (i := 12) (v := .pointer (some ⟨qv1, 1, none⟩)) (some 19) rfl rfl (by kernel_rfl) (by kernel_rfl) (by kernel_rfl) (fun _ _ _ h => h) (Or.inl ⟨by rfl, by intro W _; go_simp⟩) hS3 ?_
      simp only [Act.put, List.setIfInBounds_toArray, List.set_cons_zero, List.set_cons_succ]
      refine wpAnyH_takeD (i := 13) (v := .string a) (some 20) rfl rfl (by kernel_rfl) (by kernel_rfl) (by kernel_rfl) (fun _ _ _ h => h) (Or.inl ⟨by rfl, by intro W hW; have hhv1 := hW; have y1 := (cell_of hhv1 1).trans rfl; go_simp⟩) hS3 ?_
      simp only [Act.put, List.setIfInBounds_toArray, List.set_cons_zero, List.set_cons_succ]
      refine wpAnyH_ready (rs := [0, 9]) (by kernel_rfl) (by simp) ?_
      refine AllReadyH.cons rfl (fun K hK => ?_) (AllReadyH.cons rfl (fun K hK => ?_) AllReadyH.nil)
      · go_simp
        have bw : Below w3.heap.size w3 (w3.alloc (.cells #[.string ⟨#[]⟩, .string ⟨#[112, 97, 116, 104]⟩, .string ⟨#[98, 101, 108, 111, 119]⟩, .string ⟨#[102, 105, 101, 108, 100]⟩] 9)) := (Below.refl _ _).alloc (Nat.le_refl _) _
        have hSA : (w3.alloc (.cells #[.string ⟨#[]⟩, .string ⟨#[112, 97, 116, 104]⟩, .string ⟨#[98, 101, 108, 111, 119]⟩, .string ⟨#[102, 105, 101, 108, 100]⟩] 9)).heap[qv1]? = some (.cells #[.int .i64 3, .string a, .string b, .int .i64 t] 25) := blk_below HBv1_3.out bw
        refine hK.out _ _ hSA (fun _ => ?_)
        clear hK K hSA bw hS3
        obtain ⟨qv2, hqv2⟩ : ∃ o, o = w3.heap.size := ⟨_, rfl⟩
        obtain ⟨w4, hXj⟩ : ∃ X, X = (w3.alloc (.cells #[.string ⟨#[]⟩, .string ⟨#[112, 97, 116, 104]⟩, .string ⟨#[98, 101, 108, 111, 119]⟩, .string ⟨#[102, 105, 101, 108, 100]⟩] 9)) := ⟨_, rfl⟩
        rw [← hqv2, ← hXj]
        have bw : Below w3.heap.size w3 w4 := by rw [hXj]; exact (Below.refl _ _).alloc (Nat.le_refl _) _
        have hb4 : Below w.heap.size w (w4) := hb3.trans (bw.mono hb3.size)
        have HM4 : Hid ((w3).heap.size ≤ (w4).heap.size) := bw.size
        have HBv1_4 : Hid ((w4).heap[qv1]? = some (.cells #[.int .i64 3, .string a, .string b, .int .i64 t] 25)) := blk_below HBv1_3.out bw
        have HNv1v2 : Hid (qv1 ≠ qv2) := fun e => by have h1 := (Array.getElem?_eq_some_iff.1 HBv1_3.out).1; omega
        have HBv2_4 : Hid ((w4).heap[qv2]? = some (.cells #[.string ⟨#[]⟩, .string ⟨#[112, 97, 116, 104]⟩, .string ⟨#[98, 101, 108, 111, 119]⟩, .string ⟨#[102, 105, 101, 108, 100]⟩] 9)) := by show _ = _; rw [hXj, hqv2]; exact heap_alloc_new _ _
        have HGv2 : Hid (w.heap.size ≤ qv2) := by show _ ≤ _; rw [hqv2]; exact hb3.size
        have hS4 : w4.heap[qv1]? = some (.cells #[.int .i64 3, .string a, .string b, .int .i64 t] 25) := HBv1_4.out
        clear hb3 HBv1_3 bw hXj hqv2
        refine wpAnyH_takeD (i := 3) (v := .pointer (some ⟨qv2, 3, none⟩)) (some 10) rfl rfl (by kernel_rfl) (by kernel_rfl) (by kernel_rfl) (fun _ _ _ h => h) (Or.inl ⟨by rfl, by intro W _; go_simp⟩) hS4 ?_
        simp only [Act.put, List.setIfInBounds_toArray, List.set_cons_zero, List.set_cons_succ]
        refine wpAnyH_ready (rs := [4, 9]) (by kernel_rfl) (by simp) ?_
        refine AllReadyH.cons rfl (fun K hK => ?_) (AllReadyH.cons rfl (fun K hK => ?_) AllReadyH.nil)
        · have ylt : (w4).cell? ⟨qv2, 3, none⟩ = some (.string ⟨#[102, 105, 101, 108, 100]⟩) := (cell_of HBv2_4.out 3).trans rfl
          go_simp
          refine hK.out _ _ hS4 (fun _ => ?_)
          clear hK K ylt
          refine wpAnyH_takeD (i := 5) (v := .string (⟨#[98, 97, 110, 32]⟩ ++ ⟨#[102, 105, 101, 108, 100]⟩)) (some 12) rfl rfl (by kernel_rfl) (by kernel_rfl) (by kernel_rfl) (fun _ _ _ h => h) (Or.inl ⟨by rfl, by intro W _; go_simp <;> omega⟩) hS4 ?_
          simp only [Act.put, List.setIfInBounds_toArray, List.set_cons_zero, List.set_cons_succ]
          refine wpAnyH_takeD (i := 6) (v := .string ((⟨#[98, 97, 110, 32]⟩ ++ ⟨#[102, 105, 101, 108, 100]⟩) ++ ⟨#[32]⟩)) (some 13) rfl rfl (by kernel_rfl) (by kernel_rfl) (by kernel_rfl) (fun _ _ _ h => h) (Or.inl ⟨by rfl, by intro W _; go_simp <;> omega⟩) hS4 ?_
          simp only [Act.put, List.setIfInBounds_toArray, List.set_cons_zero, List.set_cons_succ]
          refine wpAnyH_ready (rs := [9]) (by kernel_rfl) (by simp) ?_
          refine AllReadyH.cons rfl (fun K hK => ?_) AllReadyH.nil
          go_simp
          refine (specNumText_int t _ (by have := HT.out; omega) (by have := HT.out; omega)).mono ?_
          rintro e w5 ⟨rfl, bw⟩
          rw [HTT.out]
          have hb5 : Below w.heap.size w (w5) := hb4.trans (bw.mono hb4.size)
          have HM5 : Hid ((w4).heap.size ≤ (w5).heap.size) := bw.size
          have HBv1_5 : Hid ((w5).heap[qv1]? = some (.cells #[.int .i64 3, .string a, .string b, .int .i64 t] 25)) := blk_below HBv1_4.out bw
          have HBv2_5 : Hid ((w5).heap[qv2]? = some (.cells #[.string ⟨#[]⟩, .string ⟨#[112, 97, 116, 104]⟩, .string ⟨#[98, 101, 108, 111, 119]⟩, .string ⟨#[102, 105, 101, 108, 100]⟩] 9)) := blk_below HBv2_4.out bw
          clear hb4 HBv1_4 HBv2_4 bw
          have hS5 : w5.heap[qv1]? = some (.cells #[.int .i64 3, .string a, .string b, .int .i64 t] 25) := HBv1_5.out
          refine hK.out _ _ hS5 (fun _ => ?_)
          clear hK K hS4
          refine wpAnyH_takeD (i := 10) (v := .string (((⟨#[98, 97, 110, 32]⟩ ++ ⟨#[102, 105, 101, 108, 100]⟩) ++ ⟨#[32]⟩) ++ tt)) (some 17) rfl rfl (by kernel_rfl) (by kernel_rfl) (by kernel_rfl) (fun _ _ _ h => h) (Or.inl ⟨by rfl, by intro W _; go_simp <;> omega⟩) hS5 ?_
          simp only [Act.put, List.setIfInBounds_toArray, List.set_cons_zero, List.set_cons_succ]
          refine wpAnyH_takeD (i := 11) (v := .string ((((⟨#[98, 97, 110, 32]⟩ ++ ⟨#[102, 105, 101, 108, 100]⟩) ++ ⟨#[32]⟩) ++ tt) ++ ⟨#[32]⟩)) (some 18) rfl rfl (by kernel_rfl) (by kernel_rfl) (by kernel_rfl) (fun _ _ _ h => h) (Or.inl ⟨by rfl, by intro W _; go_simp <;> omega⟩) hS5 ?_
          simp only [Act.put, List.setIfInBounds_toArray, List.set_cons_zero, List.set_cons_succ]
          refine wpAnyH_takeD (i := 14) (v := .string (((((⟨#[98, 97, 110, 32]⟩ ++ ⟨#[102, 105, 101, 108, 100]⟩) ++ ⟨#[32]⟩) ++ tt) ++ ⟨#[32]⟩) ++ a)) (some 21) rfl rfl (by kernel_rfl) (by kernel_rfl) (by kernel_rfl) (fun _ _ _ h => h) (Or.inl ⟨by rfl, by intro W _; go_simp <;> omega⟩) hS5 ?_
          simp only [Act.put, List.setIfInBounds_toArray, List.set_cons_zero, List.set_cons_succ]
          refine wpAnyH_takeD (i := 15) (v := .string (((((⟨#[98, 97, 110, 32]⟩ ++ ⟨#[102, 105, 101, 108, 100]⟩) ++ ⟨#[32]⟩) ++ tt) ++ ⟨#[32]⟩) ++ a)) (some 3) rfl rfl (by kernel_rfl) (by kernel_rfl) (by kernel_rfl) (fun _ _ _ h => h) (Or.inl ⟨by rfl, by intro W _; go_simp⟩) hS5 ?_
          simp only [Act.put, List.setIfInBounds_toArray, List.set_cons_zero, List.set_cons_succ]
          clear hS5
          refine wpAnyH_done (by kernel_rfl) ?_ _
          have cv1_0 : (w5).cell? ⟨qv1, 0, none⟩ = some (.int .i64 3) := (cell_of HBv1_5.out 0).trans rfl
          have cv1_2 : (w5).cell? ⟨qv1, 2, none⟩ = some (.string b) := (cell_of HBv1_5.out 2).trans rfl
          go_wp2_with fail
          go_ret
          exact ⟨_, rfl, fun _ => by rw [← HTT.out, numTextI_of HT.out.1]; rfl, fun h => absurd HOK.out h, hb5⟩
        · go_simp
          refine (specNumText_int t _ (by have := HT.out; omega) (by have := HT.out; omega)).mono ?_
          rintro e w5 ⟨rfl, bw⟩
          rw [HTT.out]
          have hb5 : Below w.heap.size w (w5) := hb4.trans (bw.mono hb4.size)
          have HM5 : Hid ((w4).heap.size ≤ (w5).heap.size) := bw.size
          have HBv1_5 : Hid ((w5).heap[qv1]? = some (.cells #[.int .i64 3, .string a, .string b, .int .i64 t] 25)) := blk_below HBv1_4.out bw
          have HBv2_5 : Hid ((w5).heap[qv2]? = some (.cells #[.string ⟨#[]⟩, .string ⟨#[112, 97, 116, 104]⟩, .string ⟨#[98, 101, 108, 111, 119]⟩, .string ⟨#[102, 105, 101, 108, 100]⟩] 9)) := blk_below HBv2_4.out bw
          clear hb4 HBv1_4 HBv2_4 bw
          have hS5 : w5.heap[qv1]? = some (.cells #[.int .i64 3, .string a, .string b, .int .i64 t] 25) := HBv1_5.out
          refine hK.out _ _ hS5 (fun _ => ?_)
          clear hK K hS4
          refine wpAnyH_ready (rs := [4]) (by kernel_rfl) (by simp) ?_
          refine AllReadyH.cons rfl (fun K hK => ?_) AllReadyH.nil
          have ylt : (w5).cell? ⟨qv2, 3, none⟩ = some (.string ⟨#[102, 105, 101, 108, 100]⟩) := (cell_of HBv2_5.out 3).trans rfl
          go_simp
          refine hK.out _ _ hS5 (fun _ => ?_)
          clear hK K ylt
          refine wpAnyH_takeD (i := 5) (v := .string (⟨#[98, 97, 110, 32]⟩ ++ ⟨#[102, 105, 101, 108, 100]⟩)) (some 12) rfl rfl (by kernel_rfl) (by kernel_rfl) (by kernel_rfl) (fun _ _ _ h => h) (Or.inl ⟨by rfl, by intro W _; go_simp <;> omega⟩) hS5 ?_
          simp only [Act.put, List.setIfInBounds_toArray, List.set_cons_zero, List.set_cons_succ]
          refine wpAnyH_takeD (i := 6) (v := .string ((⟨#[98, 97, 110, 32]⟩ ++ ⟨#[102, 105, 101, 108, 100]⟩) ++ ⟨#[32]⟩)) (some 13) rfl rfl (by kernel_rfl) (by kernel_rfl) (by kernel_rfl) (fun _ _ _ h => h) (Or.inl ⟨by rfl, by intro W _; go_simp <;> omega⟩) hS5 ?_
          simp only [Act.put, List.setIfInBounds_toArray, List.set_cons_zero, List.set_cons_succ]
          refine wpAnyH_takeD (i := 10) (v := .string (((⟨#[98, 97, 110, 32]⟩ ++ ⟨#[102, 105, 101, 108, 100]⟩) ++ ⟨#[32]⟩) ++ tt)) (some 17) rfl rfl (by kernel_rfl) (by kernel_rfl) (by kernel_rfl) (fun _ _ _ h => h) (Or.inl ⟨by rfl, by intro W _; go_simp <;> omega⟩) hS5 ?_
          simp only [Act.put, List.setIfInBounds_toArray, List.set_cons_zero, List.set_cons_succ]
          refine wpAnyH_takeD (i := 11) (v := .string ((((⟨#[98, 97, 110, 32]⟩ ++ ⟨#[102, 105, 101, 108, 100]⟩) ++ ⟨#[32]⟩) ++ tt) ++ ⟨#[32]⟩)) (some 18) rfl rfl (by kernel_rfl) (by kernel_rfl) (by kernel_rfl) (fun _ _ _ h => h) (Or.inl ⟨by rfl, by intro W _; go_simp <;> omega⟩) hS5 ?_
          simp only [Act.put, List.setIfInBounds_toArray, List.set_cons_zero, List.set_cons_succ]
          refine wpAnyH_takeD (i := 14) (v := .string (((((⟨#[98, 97, 110, 32]⟩ ++ ⟨#[102, 105, 101, 108, 100]⟩) ++ ⟨#[32]⟩) ++ tt) ++ ⟨#[32]⟩) ++ a)) (some 21) rfl rfl (by kernel_rfl) (by kernel_rfl) (by kernel_rfl) (fun _ _ _ h => h) (Or.inl ⟨by rfl, by intro W _; go_simp <;> omega⟩) hS5 ?_
          simp only [Act.put, List.setIfInBounds_toArray, List.set_cons_zero, List.set_cons_succ]
          refine wpAnyH_takeD (i := 15) (v := .string (((((⟨#[98, 97, 110, 32]⟩ ++ ⟨#[102, 105, 101, 108, 100]⟩) ++ ⟨#[32]⟩) ++ tt) ++ ⟨#[32]⟩) ++ a)) (some 3) rfl rfl (by kernel_rfl) (by kernel_rfl) (by kernel_rfl) (fun _ _ _ h => h) (Or.inl ⟨by rfl, by intro W _; go_simp⟩) hS5 ?_
          simp only [Act.put, List.setIfInBounds_toArray, List.set_cons_zero, List.set_cons_succ]
          clear hS5
          refine wpAnyH_done (by kernel_rfl) ?_ _
          have cv1_0 : (w5).cell? ⟨qv1, 0, none⟩ = some (.int .i64 3) := (cell_of HBv1_5.out 0).trans rfl
          have cv1_2 : (w5).cell? ⟨qv1, 2, none⟩ = some (.string b) := (cell_of HBv1_5.out 2).trans rfl
          go_wp2_with fail
          go_ret
          exact ⟨_, rfl, fun _ => by rw [← HTT.out, numTextI_of HT.out.1]; rfl, fun h => absurd HOK.out h, hb5⟩
      · go_simp
        refine (specNumText_int t _ (by have := HT.out; omega) (by have := HT.out; omega)).mono ?_
        rintro e w4 ⟨rfl, bw⟩
        rw [HTT.out]
        have hb4 : Below w.heap.size w (w4) := hb3.trans (bw.mono hb3.size)
        have HM4 : Hid ((w3).heap.size ≤ (w4).heap.size) := bw.size
        have HBv1_4 : Hid ((w4).heap[qv1]? = some (.cells #[.int .i64 3, .string a, .string b, .int .i64 t] 25)) := blk_below HBv1_3.out bw
        clear hb3 HBv1_3 bw
        have hS4 : w4.heap[qv1]? = some (.cells #[.int .i64 3, .string a, .string b, .int .i64 t] 25) := HBv1_4.out
        refine hK.out _ _ hS4 (fun _ => ?_)
        clear hK K hS3
        refine wpAnyH_ready (rs := [0]) (by kernel_rfl) (by simp) ?_
        refine AllReadyH.cons rfl (fun K hK => ?_) AllReadyH.nil
        go_simp
        have bw : Below w4.heap.size w4 (w4.alloc (.cells #[.string ⟨#[]⟩, .string ⟨#[112, 97, 116, 104]⟩, .string ⟨#[98, 101, 108, 111, 119]⟩, .string ⟨#[102, 105, 101, 108, 100]⟩] 9)) := (Below.refl _ _).alloc (Nat.le_refl _) _
        have hSA : (w4.alloc (.cells #[.string ⟨#[]⟩, .string ⟨#[112, 97, 116, 104]⟩, .string ⟨#[98, 101, 108, 111, 119]⟩, .string ⟨#[102, 105, 101, 108, 100]⟩] 9)).heap[qv1]? = some (.cells #[.int .i64 3, .string a, .string b, .int .i64 t] 25) := blk_below HBv1_4.out bw
        refine hK.out _ _ hSA (fun _ => ?_)
        clear hK K hSA bw hS4
        obtain ⟨qv2, hqv2⟩ : ∃ o, o = w4.heap.size := ⟨_, rfl⟩
        obtain ⟨w5, hXj⟩ : ∃ X, X = (w4.alloc (.cells #[.string ⟨#[]⟩, .string ⟨#[112, 97, 116, 104]⟩, .string ⟨#[98, 101, 108, 111, 119]⟩, .string ⟨#[102, 105, 101, 108, 100]⟩] 9)) := ⟨_, rfl⟩
        rw [← hqv2, ← hXj]
        have bw : Below w4.heap.size w4 w5 := by rw [hXj]; exact (Below.refl _ _).alloc (Nat.le_refl _) _
        have hb5 : Below w.heap.size w (w5) := hb4.trans (bw.mono hb4.size)
        have HM5 : Hid ((w4).heap.size ≤ (w5).heap.size) := bw.size
        have HBv1_5 : Hid ((w5).heap[qv1]? = some (.cells #[.int .i64 3, .string a, .string b, .int .i64 t] 25)) := blk_below HBv1_4.out bw
        have HNv1v2 : Hid (qv1 ≠ qv2) := fun e => by have h1 := (Array.getElem?_eq_some_iff.1 HBv1_4.out).1; omega
        have HBv2_5 : Hid ((w5).heap[qv2]? = some (.cells #[.string ⟨#[]⟩, .string ⟨#[112, 97, 116, 104]⟩, .string ⟨#[98, 101, 108, 111, 119]⟩, .string ⟨#[102, 105, 101, 108, 100]⟩] 9)) := by show _ = _; rw [hXj, hqv2]; exact heap_alloc_new _ _
        have HGv2 : Hid (w.heap.size ≤ qv2) := by show _ ≤ _; rw [hqv2]; exact hb4.size
        have hS5 : w5.heap[qv1]? = some (.cells #[.int .i64 3, .string a, .string b, .int .i64 t] 25) := HBv1_5.out
        clear hb4 HBv1_4 bw hXj hqv2
        refine wpAnyH_takeD (i := 3) (v := .pointer (some ⟨qv2, 3, none⟩)) (some 10) rfl rfl (by kernel_rfl) (by kernel_rfl) (by kernel_rfl) (fun _ _ _ h => h) (Or.inl ⟨by rfl, by intro W _; go_simp⟩) hS5 ?_
        simp only [Act.put, List.setIfInBounds_toArray, List.set_cons_zero, List.set_cons_succ]
        refine wpAnyH_ready (rs := [4]) (by kernel_rfl) (by simp) ?_
        refine AllReadyH.cons rfl (fun K hK => ?_) AllReadyH.nil
        have ylt : (w5).cell? ⟨qv2, 3, none⟩ = some (.string ⟨#[102, 105, 101, 108, 100]⟩) := (cell_of HBv2_5.out 3).trans rfl
        go_simp
        refine hK.out _ _ hS5 (fun _ => ?_)
        clear hK K ylt
        refine wpAnyH_takeD (i := 5) (v := .string (⟨#[98, 97, 110, 32]⟩ ++ ⟨#[102, 105, 101, 108, 100]⟩)) (some 12) rfl rfl (by kernel_rfl) (by kernel_rfl) (by kernel_rfl) (fun _ _ _ h => h) (Or.inl ⟨by rfl, by intro W _; go_simp <;> omega⟩) hS5 ?_
        simp only [Act.put, List.setIfInBounds_toArray, List.set_cons_zero, List.set_cons_succ]
        refine wpAnyH_takeD (i := 6) (v := .string ((⟨#[98, 97, 110, 32]⟩ ++ ⟨#[102, 105, 101, 108, 100]⟩) ++ ⟨#[32]⟩)) (some 13) rfl rfl (by kernel_rfl) (by kernel_rfl) (by kernel_rfl) (fun _ _ _ h => h) (Or.inl ⟨by rfl, by intro W _; go_simp <;> omega⟩) hS5 ?_
        simp only [Act.put, List.setIfInBounds_toArray, List.set_cons_zero, List.set_cons_succ]
        refine wpAnyH_takeD (i := 10) (v := .string (((⟨#[98, 97, 110, 32]⟩ ++ ⟨#[102, 105, 101, 108, 100]⟩) ++ ⟨#[32]⟩) ++ tt)) (some 17) rfl rfl (by kernel_rfl) (by kernel_rfl) (by kernel_rfl) (fun _ _ _ h => h) (Or.inl ⟨by rfl, by intro W _; go_simp <;> omega⟩) hS5 ?_
        simp only [Act.put, List.setIfInBounds_toArray, List.set_cons_zero, List.set_cons_succ]
        refine wpAnyH_takeD (i := 11) (v := .string ((((⟨#[98, 97, 110, 32]⟩ ++ ⟨#[102, 105, 101, 108, 100]⟩) ++ ⟨#[32]⟩) ++ tt) ++ ⟨#[32]⟩)) (some 18) rfl rfl (by kernel_rfl) (by kernel_rfl) (by kernel_rfl) (fun _ _ _ h => h) (Or.inl ⟨by rfl, by intro W _; go_simp <;> omega⟩) hS5 ?_
        simp only [Act.put, List.setIfInBounds_toArray, List.set_cons_zero, List.set_cons_succ]
        refine wpAnyH_takeD (i := 14) (v := .string (((((⟨#[98, 97, 110, 32]⟩ ++ ⟨#[102, 105, 101, 108, 100]⟩) ++ ⟨#[32]⟩) ++ tt) ++ ⟨#[32]⟩) ++ a)) (some 21) rfl rfl (by kernel_rfl) (by kernel_rfl) (by kernel_rfl) (fun _ _ _ h => h) (Or.inl ⟨by rfl, by intro W _; go_simp <;> omega⟩) hS5 ?_
        simp only [Act.put, List.setIfInBounds_toArray, List.set_cons_zero, List.set_cons_succ]
        refine wpAnyH_takeD (i := 15) (v := .string (((((⟨#[98, 97, 110, 32]⟩ ++ ⟨#[102, 105, 101, 108, 100]⟩) ++ ⟨#[32]⟩) ++ tt) ++ ⟨#[32]⟩) ++ a)) (some 3) rfl rfl (by kernel_rfl) (by kernel_rfl) (by kernel_rfl) (fun _ _ _ h => h) (Or.inl ⟨by rfl, by intro W _; go_simp⟩) hS5 ?_
        simp only [Act.put, List.setIfInBounds_toArray, List.set_cons_zero, List.set_cons_succ]
        clear hS5
        refine wpAnyH_done (by kernel_rfl) ?_ _
        have cv1_0 : (w5).cell? ⟨qv1, 0, none⟩ = some (.int .i64 3) := (cell_of HBv1_5.out 0).trans rfl
        have cv1_2 : (w5).cell? ⟨qv1, 2, none⟩ = some (.string b) := (cell_of HBv1_5.out 2).trans rfl
        go_wp2_with fail
        go_ret
        exact ⟨_, rfl, fun _ => by rw [← HTT.out, numTextI_of HT.out.1]; rfl, fun h => absurd HOK.out h, hb5⟩

end Go.Proofs.YtlmenolcgaakeaaDoor

namespace Go.Proofs.YtlmenolcgaakeaaDoor
open Go.RowKit
open Go.Lib hiding intOf

theorem path_cls (n : Int) : PathB n ↔ (cls n ≠ 4 ∧ cls n ≠ 7) := by
  have := cls_spec n
  unfold PathB
  constructor
  · intro h; omega
  · intro h; omega
theorem path_small {n : Int} (h : PathB n) : n < 128 := by unfold PathB at h; omega

set_option maxHeartbeats 400000 in
theorem isPathRune_any (r : Int) (w : World) :
    Calls Tryd.prog 104 #[.int .i32 r] w fun e w' => BoolIs (PathB r) w e w' := by
  have HP : Hid (PathB r ↔ (cls r ≠ 4 ∧ cls r ≠ 7)) := path_cls r
  go_enter Tryd.func104, Tryd.ntmps104
  go_wp2_with fail
  refine (classOf_any r _).mono ?_
  rintro e w1 ⟨rfl, hb⟩
  generalize cls r = c at HP ⊢
  by_cases h4 : c = 4
  · have HN : Hid (¬ PathB r) := fun h => (HP.out.1 h).1 h4
    subst h4
    go_wp2_with fail
    go_ret
    exact BoolIs.no HN.out hb
  · have h5 : (c != 4) = true := by rw [bne_iff_ne]; exact h4
    by_cases h7 : c = 7
    · have HN : Hid (¬ PathB r) := fun h => (HP.out.1 h).2 h7
      subst h7
      go_wp2_with fail
      go_ret
      exact BoolIs.no HN.out hb
    · have h8 : (c != 7) = true := by rw [bne_iff_ne]; exact h7
      have HY : Hid (PathB r) := HP.out.2 ⟨h4, h7⟩
      go_wp2_with fail
      go_ret
      exact BoolIs.yes HY.out hb

set_option maxHeartbeats 1000000 in
theorem allRunes_path (s : ByteArray) (w : World) :
    Calls Tryd.prog 103 #[.string s, .func (.func 104) #[] #[]] w fun e w' => BoolIs (AllB PathB s) w e w' := by
  go_enter Tryd.func103, Tryd.ntmps103
  go_wp2
  go_loopw [6] (fun _ wr => ∃ pos : Nat, wr.heap[w.heap.size]? = some (.stringIter s pos) ∧ Below w.heap.size w wr ∧ Hid (AllTo PathB s pos)) (fun _ wr => s.size - wr.iterPos w.heap.size)
  case atStart => exact ⟨0, World.iter_heap _ _ _, (Below.refl _ _).alloc (Nat.le_refl _) _, allTo_zero _ _⟩
  case round =>
    obtain ⟨pos, hh, hbw, hall⟩ := hrel
    by_cases hp : pos < s.size
    · have hnx := fun ty => run_next_any_at (P := Tryd.prog) wr w.heap.size s pos ty hh hp
      go_wp2_with (go_at_call 104; refine (isPathRune_any _ _).mono ?_; rintro e w1 ⟨b, rfl, hbt, hb1⟩)
      · have hbf : b = false := by simpa using ‹(!b) = true›
        have hno : ¬ PathB ((Utf8.decode s pos).1 : Int) := fun h => by rw [hbt.2 h] at hbf; cases hbf
        go_ret
        exact BoolIs.no (rune_no (fun _ => path_small) s pos hp hno) (iter_step hh hbw hb1).2
      · have hbf : b = true := by simpa using ‹(!b) = false›
        obtain ⟨hv, hone⟩ := rune_ok (fun _ => path_small) s pos hp (hbt.1 hbf)
        rw [hone] at hb1
        obtain ⟨h1, h2⟩ := iter_step hh hbw hb1
        exact ⟨⟨pos + 1, h1, h2, allTo_succ hall.out hp hv⟩, by rw [iterPos_of h1, iterPos_of hh]; omega⟩
    · have hnx := fun ty => run_next_end_at (P := Tryd.prog) wr w.heap.size s pos ty hh hp
      go_wp2
      go_ret
      exact BoolIs.yes (allTo_end hall.out hp) hbw

set_option maxHeartbeats 1000000 in
theorem pathOk_any (s : ByteArray) (w : World) (hs : s.size ≤ maxLen) :
    Calls Tryd.prog 102 #[.string s] w fun e w' => BoolIs (PathOk s) w e w' := by
  unfold maxLen at hs
  by_cases h1 : (1 : Int) ≤ (s.size : Int)
  · have h0 : 0 < s.size := by omega
    by_cases h2 : (s.size : Int) ≤ 60
    · by_cases h3 : ((s[0]'h0).toNat : Int) = 47
      · have h4 : (((s[0]'h0).toNat : Int) == 47) = true := by rw [beq_iff_eq]; exact h3
        have H3 : Hid ((s[0]'h0).toNat = 47) := by show _ = _; omega
        clear h3
        go_enter Tryd.func102, Tryd.ntmps102
        go_wp2_with fail
        refine (allRunes_path s _).mono ?_
        rintro e w1 ⟨b, rfl, hbt, hb1⟩
        cases b
        · have HN : Hid (¬ PathOk s) := fun h => by have := hbt.2 h.1; cases this
          clear hbt
          go_wp2_with fail
          go_ret
          exact BoolIs.no HN.out hb1
        · have HY : Hid (PathOk s) := ⟨hbt.1 rfl, by omega, by omega, h0, H3.out⟩
          clear hbt
          go_wp2_with fail
          go_ret
          exact BoolIs.yes HY.out hb1
      · have h4 : (((s[0]'h0).toNat : Int) == 47) = false := by rw [beq_eq_false_iff_ne]; exact h3
        have HN : Hid (¬ PathOk s) := fun h => by obtain ⟨_, _, _, _, h5⟩ := h; omega
        clear h3
        go_enter Tryd.func102, Tryd.ntmps102
        go_wp2_with fail
        go_ret
        exact BoolIs.no HN.out (Below.refl _ _)
    · have HN : Hid (¬ PathOk s) := fun h => by obtain ⟨_, _, h5, _⟩ := h; omega
      have hd : decide ((s.size : Int) ≤ 60) = false := by simpa using h2
      go_enter Tryd.func102, Tryd.ntmps102
      go_wp2_with fail
      go_ret
      exact BoolIs.no HN.out (Below.refl _ _)
  · have HN : Hid (¬ PathOk s) := fun h => by obtain ⟨_, h5, _⟩ := h; omega
    have hd : decide ((1 : Int) ≤ (s.size : Int)) = false := by simpa using h1
    go_enter Tryd.func102, Tryd.ntmps102
    go_wp2_with fail
    go_ret
    exact BoolIs.no HN.out (Below.refl _ _)

end Go.Proofs.YtlmenolcgaakeaaDoor

namespace Go.Proofs.YtlmenolcgaakeaaDoor
open Go.RowKit
open Go.Lib hiding intOf

set_option maxHeartbeats 8000000 in
set_option maxRecDepth 100000 in
theorem ruleOf_1 (a b : ByteArray) (t : Int) (w : World) :
    Calls Tryd.prog 23 #[.agg #[.int .i64 1, .string a, .string b, .int .i64 t]] w fun e w' => e = .returned (.iface 67 (.agg #[.string a])) ∧ Below w.heap.size w w' := by
  have hb0 : Below w.heap.size w w := Below.refl _ _
  go_enter Tryd.func23, Tryd.ntmps23
  go_upto_region 1 with fail
  obtain ⟨qv1, hqv1⟩ : ∃ q, q = (w).heap.size := ⟨_, rfl⟩
  obtain ⟨w1, hW1⟩ : ∃ W, W = (w).alloc (.cells #[.int .i64 1, .string a, .string b, .int .i64 t] 25) := ⟨_, rfl⟩
  have hz1 : (w).heap.size = qv1 := hqv1.symm
  first | rw [← hW1, ← hqv1] | rw [← hW1]
  have hs1 : w1.heap.size = qv1 + 1 := by rw [hW1, ← hz1]; simp
  have bw : Below (w).heap.size (w) w1 := by rw [hW1]; exact (Below.refl _ _).alloc (Nat.le_refl _) _
  have hb1 : Below w.heap.size w (w1) := hb0.trans (bw.mono hb0.size)
  have HM1 : Hid ((w).heap.size ≤ (w1).heap.size) := bw.size
  have HBv1_1 : Hid ((w1).heap[qv1]? = some (.cells #[.int .i64 1, .string a, .string b, .int .i64 t] 25)) := by show _ = _; rw [hW1, ← hz1]; exact heap_alloc_new _ _
  have HGv1 : Hid (w.heap.size ≤ qv1) := by show _ ≤ _; rw [← hz1]; exact hb0.size
  clear hb0 bw hW1 hz1
  clear hs1 hqv1
  have cv1_0 : (w1).cell? ⟨qv1, 0, none⟩ = some (.int .i64 1) := (cell_of HBv1_1.out 0).trans rfl
  have cv1_1 : (w1).cell? ⟨qv1, 1, none⟩ = some (.string a) := (cell_of HBv1_1.out 1).trans rfl
  go_wp2_with fail
  go_ret
  exact ⟨rfl, hb1⟩

set_option maxHeartbeats 8000000 in
set_option maxRecDepth 100000 in
theorem ruleOf_2 (a b : ByteArray) (t : Int) (w : World) :
    Calls Tryd.prog 23 #[.agg #[.int .i64 2, .string a, .string b, .int .i64 t]] w fun e w' => e = .returned (.iface 69 (.agg #[.string a])) ∧ Below w.heap.size w w' := by
  have hb0 : Below w.heap.size w w := Below.refl _ _
  go_enter Tryd.func23, Tryd.ntmps23
  go_upto_region 1 with fail
  obtain ⟨qv1, hqv1⟩ : ∃ q, q = (w).heap.size := ⟨_, rfl⟩
  obtain ⟨w1, hW1⟩ : ∃ W, W = (w).alloc (.cells #[.int .i64 2, .string a, .string b, .int .i64 t] 25) := ⟨_, rfl⟩
  have hz1 : (w).heap.size = qv1 := hqv1.symm
  first | rw [← hW1, ← hqv1] | rw [← hW1]
  have hs1 : w1.heap.size = qv1 + 1 := by rw [hW1, ← hz1]; simp
  have bw : Below (w).heap.size (w) w1 := by rw [hW1]; exact (Below.refl _ _).alloc (Nat.le_refl _) _
  have hb1 : Below w.heap.size w (w1) := hb0.trans (bw.mono hb0.size)
  have HM1 : Hid ((w).heap.size ≤ (w1).heap.size) := bw.size
  have HBv1_1 : Hid ((w1).heap[qv1]? = some (.cells #[.int .i64 2, .string a, .string b, .int .i64 t] 25)) := by show _ = _; rw [hW1, ← hz1]; exact heap_alloc_new _ _
  have HGv1 : Hid (w.heap.size ≤ qv1) := by show _ ≤ _; rw [← hz1]; exact hb0.size
  clear hb0 bw hW1 hz1
  clear hs1 hqv1
  have cv1_0 : (w1).cell? ⟨qv1, 0, none⟩ = some (.int .i64 2) := (cell_of HBv1_1.out 0).trans rfl
  have cv1_1 : (w1).cell? ⟨qv1, 1, none⟩ = some (.string a) := (cell_of HBv1_1.out 1).trans rfl
  go_wp2_with fail
  go_ret
  exact ⟨rfl, hb1⟩

set_option maxHeartbeats 8000000 in
set_option maxRecDepth 100000 in
theorem ruleOf_3 (a b : ByteArray) (t : Int) (w : World) :
    Calls Tryd.prog 23 #[.agg #[.int .i64 3, .string a, .string b, .int .i64 t]] w fun e w' => e = .returned (.iface 71 (.agg #[.string a, .string b])) ∧ Below w.heap.size w w' := by
  have hb0 : Below w.heap.size w w := Below.refl _ _
  go_enter Tryd.func23, Tryd.ntmps23
  go_upto_region 1 with fail
  obtain ⟨qv1, hqv1⟩ : ∃ q, q = (w).heap.size := ⟨_, rfl⟩
  obtain ⟨w1, hW1⟩ : ∃ W, W = (w).alloc (.cells #[.int .i64 3, .string a, .string b, .int .i64 t] 25) := ⟨_, rfl⟩
  have hz1 : (w).heap.size = qv1 := hqv1.symm
  first | rw [← hW1, ← hqv1] | rw [← hW1]
  have hs1 : w1.heap.size = qv1 + 1 := by rw [hW1, ← hz1]; simp
  have bw : Below (w).heap.size (w) w1 := by rw [hW1]; exact (Below.refl _ _).alloc (Nat.le_refl _) _
  have hb1 : Below w.heap.size w (w1) := hb0.trans (bw.mono hb0.size)
  have HM1 : Hid ((w).heap.size ≤ (w1).heap.size) := bw.size
  have HBv1_1 : Hid ((w1).heap[qv1]? = some (.cells #[.int .i64 3, .string a, .string b, .int .i64 t] 25)) := by show _ = _; rw [hW1, ← hz1]; exact heap_alloc_new _ _
  have HGv1 : Hid (w.heap.size ≤ qv1) := by show _ ≤ _; rw [← hz1]; exact hb0.size
  clear hb0 bw hW1 hz1
  clear hs1 hqv1
  have cv1_0 : (w1).cell? ⟨qv1, 0, none⟩ = some (.int .i64 3) := (cell_of HBv1_1.out 0).trans rfl
  have cv1_1 : (w1).cell? ⟨qv1, 1, none⟩ = some (.string a) := (cell_of HBv1_1.out 1).trans rfl
  have cv1_2 : (w1).cell? ⟨qv1, 2, none⟩ = some (.string b) := (cell_of HBv1_1.out 2).trans rfl
  go_wp2_with fail
  go_ret
  exact ⟨rfl, hb1⟩

set_option maxHeartbeats 8000000 in
set_option maxRecDepth 100000 in
theorem ruleOf_no (k : Int) (a b : ByteArray) (t : Int) (w : World) (h1 : ¬ k = 1) (h2 : ¬ k = 2) (h3 : ¬ k = 3) :
    Calls Tryd.prog 23 #[.agg #[.int .i64 k, .string a, .string b, .int .i64 t]] w fun e w' => e = .returned .nilIface ∧ Below w.heap.size w w' := by
  have hk1 : ((k : Int) == (1 : Int)) = false := by simpa using h1
  have hk2 : ((k : Int) == (2 : Int)) = false := by simpa using h2
  have hk3 : ((k : Int) == (3 : Int)) = false := by simpa using h3
  clear h1 h2 h3
  have hb0 : Below w.heap.size w w := Below.refl _ _
  go_enter Tryd.func23, Tryd.ntmps23
  go_upto_region 1 with fail
  obtain ⟨qv1, hqv1⟩ : ∃ q, q = (w).heap.size := ⟨_, rfl⟩
  obtain ⟨w1, hW1⟩ : ∃ W, W = (w).alloc (.cells #[.int .i64 k, .string a, .string b, .int .i64 t] 25) := ⟨_, rfl⟩
  have hz1 : (w).heap.size = qv1 := hqv1.symm
  first | rw [← hW1, ← hqv1] | rw [← hW1]
  have hs1 : w1.heap.size = qv1 + 1 := by rw [hW1, ← hz1]; simp
  have bw : Below (w).heap.size (w) w1 := by rw [hW1]; exact (Below.refl _ _).alloc (Nat.le_refl _) _
  have hb1 : Below w.heap.size w (w1) := hb0.trans (bw.mono hb0.size)
  have HM1 : Hid ((w).heap.size ≤ (w1).heap.size) := bw.size
  have HBv1_1 : Hid ((w1).heap[qv1]? = some (.cells #[.int .i64 k, .string a, .string b, .int .i64 t] 25)) := by show _ = _; rw [hW1, ← hz1]; exact heap_alloc_new _ _
  have HGv1 : Hid (w.heap.size ≤ qv1) := by show _ ≤ _; rw [← hz1]; exact hb0.size
  clear hb0 bw hW1 hz1
  clear hs1 hqv1
  have cv1_0 : (w1).cell? ⟨qv1, 0, none⟩ = some (.int .i64 k) := (cell_of HBv1_1.out 0).trans rfl
  go_wp2_with fail
  go_ret
  exact ⟨rfl, hb1⟩

set_option maxHeartbeats 8000000 in
set_option maxRecDepth 100000 in
theorem banOf_1 (a : ByteArray) (t : Int) (w : World) :
    Calls Tryd.prog 25 #[.iface 67 (.agg #[.string a]), .int .i64 t] w fun e w' => e = .returned (.agg #[.int .i64 1, .string a, .string ⟨#[]⟩, .int .i64 t]) ∧ Below w.heap.size w w' := by
  have hta1 : ∀ W : World, (Instr.typeAssert (.iface 67 (.agg #[.string a])) 44 67 true).run Tryd.prog W = .ok (.tuple #[.agg #[.string a], .bool true]) W := fun _ => by kernel_rfl
  have hta2 : ∀ W : World, (Instr.typeAssert (.iface 67 (.agg #[.string a])) 44 69 true).run Tryd.prog W = .ok (.tuple #[.agg #[.string ⟨#[]⟩], .bool false]) W := fun _ => by kernel_rfl
  have hta3 : ∀ W : World, (Instr.typeAssert (.iface 67 (.agg #[.string a])) 44 71 true).run Tryd.prog W = .ok (.tuple #[.agg #[.string ⟨#[]⟩, .string ⟨#[]⟩], .bool false]) W := fun _ => by kernel_rfl
  have hb0 : Below w.heap.size w w := Below.refl _ _
  go_enter Tryd.func25, Tryd.ntmps25
  go_upto_region 1 with fail
  obtain ⟨qv1, hqv1⟩ : ∃ q, q = (w).heap.size := ⟨_, rfl⟩
  obtain ⟨w1, hW1⟩ : ∃ W, W = (w).alloc (.cells #[.int .i64 0, .string ⟨#[]⟩, .string ⟨#[]⟩, .int .i64 0] 25) := ⟨_, rfl⟩
  have hz1 : (w).heap.size = qv1 := hqv1.symm
  first | rw [← hW1, ← hqv1] | rw [← hW1]
  have hs1 : w1.heap.size = qv1 + 1 := by rw [hW1, ← hz1]; simp
  have bw : Below (w).heap.size (w) w1 := by rw [hW1]; exact (Below.refl _ _).alloc (Nat.le_refl _) _
  have hb1 : Below w.heap.size w (w1) := hb0.trans (bw.mono hb0.size)
  have HM1 : Hid ((w).heap.size ≤ (w1).heap.size) := bw.size
  have HBv1_1 : Hid ((w1).heap[qv1]? = some (.cells #[.int .i64 0, .string ⟨#[]⟩, .string ⟨#[]⟩, .int .i64 0] 25)) := by show _ = _; rw [hW1, ← hz1]; exact heap_alloc_new _ _
  have HGv1 : Hid (w.heap.size ≤ qv1) := by show _ ≤ _; rw [← hz1]; exact hb0.size
  clear hb0 bw hW1 hz1
  clear hs1 hqv1
  go_upto_region 4 with fail
  obtain ⟨qv2, hqv2⟩ : ∃ q, q = (w1).heap.size := ⟨_, rfl⟩
  obtain ⟨w2, hW2⟩ : ∃ W, W = (w1).alloc (.cells #[.string a] 67) := ⟨_, rfl⟩
  have hz2 : (w1).heap.size = qv2 := hqv2.symm
  first | rw [← hW2, ← hqv2] | rw [← hW2]
  have hs2 : w2.heap.size = qv2 + 1 := by rw [hW2, ← hz2]; simp
  have bw : Below (w1).heap.size (w1) w2 := by rw [hW2]; exact (Below.refl _ _).alloc (Nat.le_refl _) _
  have hb2 : Below w.heap.size w (w2) := hb1.trans (bw.mono hb1.size)
  have HM2 : Hid ((w1).heap.size ≤ (w2).heap.size) := bw.size
  have HBv1_2 : Hid ((w2).heap[qv1]? = some (.cells #[.int .i64 0, .string ⟨#[]⟩, .string ⟨#[]⟩, .int .i64 0] 25)) := blk_below HBv1_1.out bw
  have HNv1v2 : Hid (qv1 ≠ qv2) := fun e => by have h1 := (Array.getElem?_eq_some_iff.1 HBv1_1.out).1; omega
  have HBv2_2 : Hid ((w2).heap[qv2]? = some (.cells #[.string a] 67)) := by show _ = _; rw [hW2, ← hz2]; exact heap_alloc_new _ _
  have HGv2 : Hid (w.heap.size ≤ qv2) := by show _ ≤ _; rw [← hz2]; exact hb1.size
  clear hb1 HBv1_1 bw hW2 hz2
  clear hs2 hqv2
  have cv1_0 : (w2).cell? ⟨qv1, 0, none⟩ = some (.int .i64 0) := (cell_of HBv1_2.out 0).trans rfl
  have fcv1_0 : (w2).frozen? ⟨qv1, 0, none⟩ = false := frozen_of HBv1_2.out 0
  have cv1_1 : (w2).cell? ⟨qv1, 1, none⟩ = some (.string ⟨#[]⟩) := (cell_of HBv1_2.out 1).trans rfl
  have fcv1_1 : (w2).frozen? ⟨qv1, 1, none⟩ = false := frozen_of HBv1_2.out 1
  have cv1_2 : (w2).cell? ⟨qv1, 2, none⟩ = some (.string ⟨#[]⟩) := (cell_of HBv1_2.out 2).trans rfl
  have fcv1_2 : (w2).frozen? ⟨qv1, 2, none⟩ = false := frozen_of HBv1_2.out 2
  have cv1_3 : (w2).cell? ⟨qv1, 3, none⟩ = some (.int .i64 0) := (cell_of HBv1_2.out 3).trans rfl
  have fcv1_3 : (w2).frozen? ⟨qv1, 3, none⟩ = false := frozen_of HBv1_2.out 3
  have cv2_0 : (w2).cell? ⟨qv2, 0, none⟩ = some (.string a) := (cell_of HBv2_2.out 0).trans rfl
  go_wp2_with fail
  obtain ⟨w3, hW3⟩ : ∃ W, W = (w2).setCell ⟨qv1, 0, none⟩ (.int .i64 1) := ⟨_, rfl⟩
  rw [← hW3]
  have hb3 : Below w.heap.size w (w3) := by rw [hW3]; exact (hb2.setCell (p := ⟨qv1, 0, none⟩) HGv1.out _)
  have HM3 : Hid ((w2).heap.size ≤ w3.heap.size) := by show _ ≤ _; rw [hW3]; simp
  have HBv2_3 : Hid ((w3).heap[qv2]? = some (.cells #[.string a] 67)) := by show _ = _; rw [hW3, heap_setCell_other _ _ _ _ HNv1v2.out.symm]; exact HBv2_2.out
  have HBv1_3 : Hid ((w3).heap[qv1]? = some (.cells #[.int .i64 1, .string ⟨#[]⟩, .string ⟨#[]⟩, .int .i64 0] 25)) := by show _ = _; rw [hW3]; have h := heap_set _ _ 0 _ _ _ (.int .i64 1) HBv1_2.out; simpa using h
  clear hb2 HBv1_2 HBv2_2 hW3
  obtain ⟨w4, hW4⟩ : ∃ W, W = (w3).setCell ⟨qv1, 1, none⟩ (.string a) := ⟨_, rfl⟩
  rw [← hW4]
  have hb4 : Below w.heap.size w (w4) := by rw [hW4]; exact (hb3.setCell (p := ⟨qv1, 1, none⟩) HGv1.out _)
  have HM4 : Hid ((w3).heap.size ≤ w4.heap.size) := by show _ ≤ _; rw [hW4]; simp
  have HBv2_4 : Hid ((w4).heap[qv2]? = some (.cells #[.string a] 67)) := by show _ = _; rw [hW4, heap_setCell_other _ _ _ _ HNv1v2.out.symm]; exact HBv2_3.out
  have HBv1_4 : Hid ((w4).heap[qv1]? = some (.cells #[.int .i64 1, .string a, .string ⟨#[]⟩, .int .i64 0] 25)) := by show _ = _; rw [hW4]; have h := heap_set _ _ 1 _ _ _ (.string a) HBv1_3.out; simpa using h
  clear hb3 HBv1_3 HBv2_3 hW4
  obtain ⟨w5, hW5⟩ : ∃ W, W = (w4).setCell ⟨qv1, 2, none⟩ (.string ⟨#[]⟩) := ⟨_, rfl⟩
  rw [← hW5]
  have hb5 : Below w.heap.size w (w5) := by rw [hW5]; exact (hb4.setCell (p := ⟨qv1, 2, none⟩) HGv1.out _)
  have HM5 : Hid ((w4).heap.size ≤ w5.heap.size) := by show _ ≤ _; rw [hW5]; simp
  have HBv2_5 : Hid ((w5).heap[qv2]? = some (.cells #[.string a] 67)) := by show _ = _; rw [hW5, heap_setCell_other _ _ _ _ HNv1v2.out.symm]; exact HBv2_4.out
  have HBv1_5 : Hid ((w5).heap[qv1]? = some (.cells #[.int .i64 1, .string a, .string ⟨#[]⟩, .int .i64 0] 25)) := by show _ = _; rw [hW5]; have h := heap_set _ _ 2 _ _ _ (.string ⟨#[]⟩) HBv1_4.out; simpa using h
  clear hb4 HBv1_4 HBv2_4 hW5
  obtain ⟨w6, hW6⟩ : ∃ W, W = (w5).setCell ⟨qv1, 3, none⟩ (.int .i64 t) := ⟨_, rfl⟩
  rw [← hW6]
  have hb6 : Below w.heap.size w (w6) := by rw [hW6]; exact (hb5.setCell (p := ⟨qv1, 3, none⟩) HGv1.out _)
  have HM6 : Hid ((w5).heap.size ≤ w6.heap.size) := by show _ ≤ _; rw [hW6]; simp
  have HBv2_6 : Hid ((w6).heap[qv2]? = some (.cells #[.string a] 67)) := by show _ = _; rw [hW6, heap_setCell_other _ _ _ _ HNv1v2.out.symm]; exact HBv2_5.out
  have HBv1_6 : Hid ((w6).heap[qv1]? = some (.cells #[.int .i64 1, .string a, .string ⟨#[]⟩, .int .i64 t] 25)) := by show _ = _; rw [hW6]; have h := heap_set _ _ 3 _ _ _ (.int .i64 t) HBv1_5.out; simpa using h
  clear hb5 HBv1_5 HBv2_5 hW6
  have kv1_0 : (w6).cell? ⟨qv1, 0, none⟩ = some (.int .i64 1) := (cell_of HBv1_6.out 0).trans rfl
  have kv1_1 : (w6).cell? ⟨qv1, 1, none⟩ = some (.string a) := (cell_of HBv1_6.out 1).trans rfl
  have kv1_2 : (w6).cell? ⟨qv1, 2, none⟩ = some (.string ⟨#[]⟩) := (cell_of HBv1_6.out 2).trans rfl
  have kv1_3 : (w6).cell? ⟨qv1, 3, none⟩ = some (.int .i64 t) := (cell_of HBv1_6.out 3).trans rfl
  refine bodyPost_ret (v := .agg #[.int .i64 1, .string a, .string ⟨#[]⟩, .int .i64 t]) (by simp [results, Tryd.results25, go_sem, kv1_0, kv1_1, kv1_2, kv1_3]) rfl ?_
  exact ⟨rfl, hb6⟩

set_option maxHeartbeats 8000000 in
set_option maxRecDepth 100000 in
theorem banOf_2 (a : ByteArray) (t : Int) (w : World) :
    Calls Tryd.prog 25 #[.iface 69 (.agg #[.string a]), .int .i64 t] w fun e w' => e = .returned (.agg #[.int .i64 2, .string a, .string ⟨#[]⟩, .int .i64 t]) ∧ Below w.heap.size w w' := by
  have hta1 : ∀ W : World, (Instr.typeAssert (.iface 69 (.agg #[.string a])) 44 67 true).run Tryd.prog W = .ok (.tuple #[.agg #[.string ⟨#[]⟩], .bool false]) W := fun _ => by kernel_rfl
  have hta2 : ∀ W : World, (Instr.typeAssert (.iface 69 (.agg #[.string a])) 44 69 true).run Tryd.prog W = .ok (.tuple #[.agg #[.string a], .bool true]) W := fun _ => by kernel_rfl
  have hta3 : ∀ W : World, (Instr.typeAssert (.iface 69 (.agg #[.string a])) 44 71 true).run Tryd.prog W = .ok (.tuple #[.agg #[.string ⟨#[]⟩, .string ⟨#[]⟩], .bool false]) W := fun _ => by kernel_rfl
  have hb0 : Below w.heap.size w w := Below.refl _ _
  go_enter Tryd.func25, Tryd.ntmps25
  go_upto_region 1 with fail
  obtain ⟨qv1, hqv1⟩ : ∃ q, q = (w).heap.size := ⟨_, rfl⟩
  obtain ⟨w1, hW1⟩ : ∃ W, W = (w).alloc (.cells #[.int .i64 0, .string ⟨#[]⟩, .string ⟨#[]⟩, .int .i64 0] 25) := ⟨_, rfl⟩
  have hz1 : (w).heap.size = qv1 := hqv1.symm
  first | rw [← hW1, ← hqv1] | rw [← hW1]
  have hs1 : w1.heap.size = qv1 + 1 := by rw [hW1, ← hz1]; simp
  have bw : Below (w).heap.size (w) w1 := by rw [hW1]; exact (Below.refl _ _).alloc (Nat.le_refl _) _
  have hb1 : Below w.heap.size w (w1) := hb0.trans (bw.mono hb0.size)
  have HM1 : Hid ((w).heap.size ≤ (w1).heap.size) := bw.size
  have HBv1_1 : Hid ((w1).heap[qv1]? = some (.cells #[.int .i64 0, .string ⟨#[]⟩, .string ⟨#[]⟩, .int .i64 0] 25)) := by show _ = _; rw [hW1, ← hz1]; exact heap_alloc_new _ _
  have HGv1 : Hid (w.heap.size ≤ qv1) := by show _ ≤ _; rw [← hz1]; exact hb0.size
  clear hb0 bw hW1 hz1
  clear hs1 hqv1
  go_upto_region 7 with fail
  obtain ⟨qv2, hqv2⟩ : ∃ q, q = (w1).heap.size := ⟨_, rfl⟩
  obtain ⟨w2, hW2⟩ : ∃ W, W = (w1).alloc (.cells #[.string a] 69) := ⟨_, rfl⟩
  have hz2 : (w1).heap.size = qv2 := hqv2.symm
  first | rw [← hW2, ← hqv2] | rw [← hW2]
  have hs2 : w2.heap.size = qv2 + 1 := by rw [hW2, ← hz2]; simp
  have bw : Below (w1).heap.size (w1) w2 := by rw [hW2]; exact (Below.refl _ _).alloc (Nat.le_refl _) _
  have hb2 : Below w.heap.size w (w2) := hb1.trans (bw.mono hb1.size)
  have HM2 : Hid ((w1).heap.size ≤ (w2).heap.size) := bw.size
  have HBv1_2 : Hid ((w2).heap[qv1]? = some (.cells #[.int .i64 0, .string ⟨#[]⟩, .string ⟨#[]⟩, .int .i64 0] 25)) := blk_below HBv1_1.out bw
  have HNv1v2 : Hid (qv1 ≠ qv2) := fun e => by have h1 := (Array.getElem?_eq_some_iff.1 HBv1_1.out).1; omega
  have HBv2_2 : Hid ((w2).heap[qv2]? = some (.cells #[.string a] 69)) := by show _ = _; rw [hW2, ← hz2]; exact heap_alloc_new _ _
  have HGv2 : Hid (w.heap.size ≤ qv2) := by show _ ≤ _; rw [← hz2]; exact hb1.size
  clear hb1 HBv1_1 bw hW2 hz2
  clear hs2 hqv2
  have cv1_0 : (w2).cell? ⟨qv1, 0, none⟩ = some (.int .i64 0) := (cell_of HBv1_2.out 0).trans rfl
  have fcv1_0 : (w2).frozen? ⟨qv1, 0, none⟩ = false := frozen_of HBv1_2.out 0
  have cv1_1 : (w2).cell? ⟨qv1, 1, none⟩ = some (.string ⟨#[]⟩) := (cell_of HBv1_2.out 1).trans rfl
  have fcv1_1 : (w2).frozen? ⟨qv1, 1, none⟩ = false := frozen_of HBv1_2.out 1
  have cv1_2 : (w2).cell? ⟨qv1, 2, none⟩ = some (.string ⟨#[]⟩) := (cell_of HBv1_2.out 2).trans rfl
  have fcv1_2 : (w2).frozen? ⟨qv1, 2, none⟩ = false := frozen_of HBv1_2.out 2
  have cv1_3 : (w2).cell? ⟨qv1, 3, none⟩ = some (.int .i64 0) := (cell_of HBv1_2.out 3).trans rfl
  have fcv1_3 : (w2).frozen? ⟨qv1, 3, none⟩ = false := frozen_of HBv1_2.out 3
  have cv2_0 : (w2).cell? ⟨qv2, 0, none⟩ = some (.string a) := (cell_of HBv2_2.out 0).trans rfl
  go_wp2_with fail
  obtain ⟨w3, hW3⟩ : ∃ W, W = (w2).setCell ⟨qv1, 0, none⟩ (.int .i64 2) := ⟨_, rfl⟩
  rw [← hW3]
  have hb3 : Below w.heap.size w (w3) := by rw [hW3]; exact (hb2.setCell (p := ⟨qv1, 0, none⟩) HGv1.out _)
  have HM3 : Hid ((w2).heap.size ≤ w3.heap.size) := by show _ ≤ _; rw [hW3]; simp
  have HBv2_3 : Hid ((w3).heap[qv2]? = some (.cells #[.string a] 69)) := by show _ = _; rw [hW3, heap_setCell_other _ _ _ _ HNv1v2.out.symm]; exact HBv2_2.out
  have HBv1_3 : Hid ((w3).heap[qv1]? = some (.cells #[.int .i64 2, .string ⟨#[]⟩, .string ⟨#[]⟩, .int .i64 0] 25)) := by show _ = _; rw [hW3]; have h := heap_set _ _ 0 _ _ _ (.int .i64 2) HBv1_2.out; simpa using h
  clear hb2 HBv1_2 HBv2_2 hW3
  obtain ⟨w4, hW4⟩ : ∃ W, W = (w3).setCell ⟨qv1, 1, none⟩ (.string a) := ⟨_, rfl⟩
  rw [← hW4]
  have hb4 : Below w.heap.size w (w4) := by rw [hW4]; exact (hb3.setCell (p := ⟨qv1, 1, none⟩) HGv1.out _)
  have HM4 : Hid ((w3).heap.size ≤ w4.heap.size) := by show _ ≤ _; rw [hW4]; simp
  have HBv2_4 : Hid ((w4).heap[qv2]? = some (.cells #[.string a] 69)) := by show _ = _; rw [hW4, heap_setCell_other _ _ _ _ HNv1v2.out.symm]; exact HBv2_3.out
  have HBv1_4 : Hid ((w4).heap[qv1]? = some (.cells #[.int .i64 2, .string a, .string ⟨#[]⟩, .int .i64 0] 25)) := by show _ = _; rw [hW4]; have h := heap_set _ _ 1 _ _ _ (.string a) HBv1_3.out; simpa using h
  clear hb3 HBv1_3 HBv2_3 hW4
  obtain ⟨w5, hW5⟩ : ∃ W, W = (w4).setCell ⟨qv1, 2, none⟩ (.string ⟨#[]⟩) := ⟨_, rfl⟩
  rw [← hW5]
  have hb5 : Below w.heap.size w (w5) := by rw [hW5]; exact (hb4.setCell (p := ⟨qv1, 2, none⟩) HGv1.out _)
  have HM5 : Hid ((w4).heap.size ≤ w5.heap.size) := by show _ ≤ _; rw [hW5]; simp
  have HBv2_5 : Hid ((w5).heap[qv2]? = some (.cells #[.string a] 69)) := by show _ = _; rw [hW5, heap_setCell_other _ _ _ _ HNv1v2.out.symm]; exact HBv2_4.out
  have HBv1_5 : Hid ((w5).heap[qv1]? = some (.cells #[.int .i64 2, .string a, .string ⟨#[]⟩, .int .i64 0] 25)) := by show _ = _; rw [hW5]; have h := heap_set _ _ 2 _ _ _ (.string ⟨#[]⟩) HBv1_4.out; simpa using h
  clear hb4 HBv1_4 HBv2_4 hW5
  obtain ⟨w6, hW6⟩ : ∃ W, W = (w5).setCell ⟨qv1, 3, none⟩ (.int .i64 t) := ⟨_, rfl⟩
  rw [← hW6]
  have hb6 : Below w.heap.size w (w6) := by rw [hW6]; exact (hb5.setCell (p := ⟨qv1, 3, none⟩) HGv1.out _)
  have HM6 : Hid ((w5).heap.size ≤ w6.heap.size) := by show _ ≤ _; rw [hW6]; simp
  have HBv2_6 : Hid ((w6).heap[qv2]? = some (.cells #[.string a] 69)) := by show _ = _; rw [hW6, heap_setCell_other _ _ _ _ HNv1v2.out.symm]; exact HBv2_5.out
  have HBv1_6 : Hid ((w6).heap[qv1]? = some (.cells #[.int .i64 2, .string a, .string ⟨#[]⟩, .int .i64 t] 25)) := by show _ = _; rw [hW6]; have h := heap_set _ _ 3 _ _ _ (.int .i64 t) HBv1_5.out; simpa using h
  clear hb5 HBv1_5 HBv2_5 hW6
  have kv1_0 : (w6).cell? ⟨qv1, 0, none⟩ = some (.int .i64 2) := (cell_of HBv1_6.out 0).trans rfl
  have kv1_1 : (w6).cell? ⟨qv1, 1, none⟩ = some (.string a) := (cell_of HBv1_6.out 1).trans rfl
  have kv1_2 : (w6).cell? ⟨qv1, 2, none⟩ = some (.string ⟨#[]⟩) := (cell_of HBv1_6.out 2).trans rfl
  have kv1_3 : (w6).cell? ⟨qv1, 3, none⟩ = some (.int .i64 t) := (cell_of HBv1_6.out 3).trans rfl
  refine bodyPost_ret (v := .agg #[.int .i64 2, .string a, .string ⟨#[]⟩, .int .i64 t]) (by simp [results, Tryd.results25, go_sem, kv1_0, kv1_1, kv1_2, kv1_3]) rfl ?_
  exact ⟨rfl, hb6⟩

set_option maxHeartbeats 8000000 in
set_option maxRecDepth 100000 in
theorem banOf_3 (a b : ByteArray) (t : Int) (w : World) :
    Calls Tryd.prog 25 #[.iface 71 (.agg #[.string a, .string b]), .int .i64 t] w fun e w' => e = .returned (.agg #[.int .i64 3, .string a, .string b, .int .i64 t]) ∧ Below w.heap.size w w' := by
  have hta1 : ∀ W : World, (Instr.typeAssert (.iface 71 (.agg #[.string a, .string b])) 44 67 true).run Tryd.prog W = .ok (.tuple #[.agg #[.string ⟨#[]⟩], .bool false]) W := fun _ => by kernel_rfl
  have hta2 : ∀ W : World, (Instr.typeAssert (.iface 71 (.agg #[.string a, .string b])) 44 69 true).run Tryd.prog W = .ok (.tuple #[.agg #[.string ⟨#[]⟩], .bool false]) W := fun _ => by kernel_rfl
  have hta3 : ∀ W : World, (Instr.typeAssert (.iface 71 (.agg #[.string a, .string b])) 44 71 true).run Tryd.prog W = .ok (.tuple #[.agg #[.string a, .string b], .bool true]) W := fun _ => by kernel_rfl
  have hb0 : Below w.heap.size w w := Below.refl _ _
  go_enter Tryd.func25, Tryd.ntmps25
  go_upto_region 1 with fail
  obtain ⟨qv1, hqv1⟩ : ∃ q, q = (w).heap.size := ⟨_, rfl⟩
  obtain ⟨w1, hW1⟩ : ∃ W, W = (w).alloc (.cells #[.int .i64 0, .string ⟨#[]⟩, .string ⟨#[]⟩, .int .i64 0] 25) := ⟨_, rfl⟩
  have hz1 : (w).heap.size = qv1 := hqv1.symm
  first | rw [← hW1, ← hqv1] | rw [← hW1]
  have hs1 : w1.heap.size = qv1 + 1 := by rw [hW1, ← hz1]; simp
  have bw : Below (w).heap.size (w) w1 := by rw [hW1]; exact (Below.refl _ _).alloc (Nat.le_refl _) _
  have hb1 : Below w.heap.size w (w1) := hb0.trans (bw.mono hb0.size)
  have HM1 : Hid ((w).heap.size ≤ (w1).heap.size) := bw.size
  have HBv1_1 : Hid ((w1).heap[qv1]? = some (.cells #[.int .i64 0, .string ⟨#[]⟩, .string ⟨#[]⟩, .int .i64 0] 25)) := by show _ = _; rw [hW1, ← hz1]; exact heap_alloc_new _ _
  have HGv1 : Hid (w.heap.size ≤ qv1) := by show _ ≤ _; rw [← hz1]; exact hb0.size
  clear hb0 bw hW1 hz1
  clear hs1 hqv1
  go_upto_region 10 with fail
  obtain ⟨qv2, hqv2⟩ : ∃ q, q = (w1).heap.size := ⟨_, rfl⟩
  obtain ⟨w2, hW2⟩ : ∃ W, W = (w1).alloc (.cells #[.string a, .string b] 71) := ⟨_, rfl⟩
  have hz2 : (w1).heap.size = qv2 := hqv2.symm
  first | rw [← hW2, ← hqv2] | rw [← hW2]
  have hs2 : w2.heap.size = qv2 + 1 := by rw [hW2, ← hz2]; simp
  have bw : Below (w1).heap.size (w1) w2 := by rw [hW2]; exact (Below.refl _ _).alloc (Nat.le_refl _) _
  have hb2 : Below w.heap.size w (w2) := hb1.trans (bw.mono hb1.size)
  have HM2 : Hid ((w1).heap.size ≤ (w2).heap.size) := bw.size
  have HBv1_2 : Hid ((w2).heap[qv1]? = some (.cells #[.int .i64 0, .string ⟨#[]⟩, .string ⟨#[]⟩, .int .i64 0] 25)) := blk_below HBv1_1.out bw
  have HNv1v2 : Hid (qv1 ≠ qv2) := fun e => by have h1 := (Array.getElem?_eq_some_iff.1 HBv1_1.out).1; omega
  have HBv2_2 : Hid ((w2).heap[qv2]? = some (.cells #[.string a, .string b] 71)) := by show _ = _; rw [hW2, ← hz2]; exact heap_alloc_new _ _
  have HGv2 : Hid (w.heap.size ≤ qv2) := by show _ ≤ _; rw [← hz2]; exact hb1.size
  clear hb1 HBv1_1 bw hW2 hz2
  clear hs2 hqv2
  have cv1_0 : (w2).cell? ⟨qv1, 0, none⟩ = some (.int .i64 0) := (cell_of HBv1_2.out 0).trans rfl
  have fcv1_0 : (w2).frozen? ⟨qv1, 0, none⟩ = false := frozen_of HBv1_2.out 0
  have cv1_1 : (w2).cell? ⟨qv1, 1, none⟩ = some (.string ⟨#[]⟩) := (cell_of HBv1_2.out 1).trans rfl
  have fcv1_1 : (w2).frozen? ⟨qv1, 1, none⟩ = false := frozen_of HBv1_2.out 1
  have cv1_2 : (w2).cell? ⟨qv1, 2, none⟩ = some (.string ⟨#[]⟩) := (cell_of HBv1_2.out 2).trans rfl
  have fcv1_2 : (w2).frozen? ⟨qv1, 2, none⟩ = false := frozen_of HBv1_2.out 2
  have cv1_3 : (w2).cell? ⟨qv1, 3, none⟩ = some (.int .i64 0) := (cell_of HBv1_2.out 3).trans rfl
  have fcv1_3 : (w2).frozen? ⟨qv1, 3, none⟩ = false := frozen_of HBv1_2.out 3
  have cv2_0 : (w2).cell? ⟨qv2, 0, none⟩ = some (.string a) := (cell_of HBv2_2.out 0).trans rfl
  have cv2_1 : (w2).cell? ⟨qv2, 1, none⟩ = some (.string b) := (cell_of HBv2_2.out 1).trans rfl
  go_wp2_with fail
  obtain ⟨w3, hW3⟩ : ∃ W, W = (w2).setCell ⟨qv1, 0, none⟩ (.int .i64 3) := ⟨_, rfl⟩
  rw [← hW3]
  have hb3 : Below w.heap.size w (w3) := by rw [hW3]; exact (hb2.setCell (p := ⟨qv1, 0, none⟩) HGv1.out _)
  have HM3 : Hid ((w2).heap.size ≤ w3.heap.size) := by show _ ≤ _; rw [hW3]; simp
  have HBv2_3 : Hid ((w3).heap[qv2]? = some (.cells #[.string a, .string b] 71)) := by show _ = _; rw [hW3, heap_setCell_other _ _ _ _ HNv1v2.out.symm]; exact HBv2_2.out
  have HBv1_3 : Hid ((w3).heap[qv1]? = some (.cells #[.int .i64 3, .string ⟨#[]⟩, .string ⟨#[]⟩, .int .i64 0] 25)) := by show _ = _; rw [hW3]; have h := heap_set _ _ 0 _ _ _ (.int .i64 3) HBv1_2.out; simpa using h
  clear hb2 HBv1_2 HBv2_2 hW3
  obtain ⟨w4, hW4⟩ : ∃ W, W = (w3).setCell ⟨qv1, 1, none⟩ (.string a) := ⟨_, rfl⟩
  rw [← hW4]
  have hb4 : Below w.heap.size w (w4) := by rw [hW4]; exact (hb3.setCell (p := ⟨qv1, 1, none⟩) HGv1.out _)
  have HM4 : Hid ((w3).heap.size ≤ w4.heap.size) := by show _ ≤ _; rw [hW4]; simp
  have HBv2_4 : Hid ((w4).heap[qv2]? = some (.cells #[.string a, .string b] 71)) := by show _ = _; rw [hW4, heap_setCell_other _ _ _ _ HNv1v2.out.symm]; exact HBv2_3.out
  have HBv1_4 : Hid ((w4).heap[qv1]? = some (.cells #[.int .i64 3, .string a, .string ⟨#[]⟩, .int .i64 0] 25)) := by show _ = _; rw [hW4]; have h := heap_set _ _ 1 _ _ _ (.string a) HBv1_3.out; simpa using h
  clear hb3 HBv1_3 HBv2_3 hW4
  obtain ⟨w5, hW5⟩ : ∃ W, W = (w4).setCell ⟨qv1, 2, none⟩ (.string b) := ⟨_, rfl⟩
  rw [← hW5]
  have hb5 : Below w.heap.size w (w5) := by rw [hW5]; exact (hb4.setCell (p := ⟨qv1, 2, none⟩) HGv1.out _)
  have HM5 : Hid ((w4).heap.size ≤ w5.heap.size) := by show _ ≤ _; rw [hW5]; simp
  have HBv2_5 : Hid ((w5).heap[qv2]? = some (.cells #[.string a, .string b] 71)) := by show _ = _; rw [hW5, heap_setCell_other _ _ _ _ HNv1v2.out.symm]; exact HBv2_4.out
  have HBv1_5 : Hid ((w5).heap[qv1]? = some (.cells #[.int .i64 3, .string a, .string b, .int .i64 0] 25)) := by show _ = _; rw [hW5]; have h := heap_set _ _ 2 _ _ _ (.string b) HBv1_4.out; simpa using h
  clear hb4 HBv1_4 HBv2_4 hW5
  obtain ⟨w6, hW6⟩ : ∃ W, W = (w5).setCell ⟨qv1, 3, none⟩ (.int .i64 t) := ⟨_, rfl⟩
  rw [← hW6]
  have hb6 : Below w.heap.size w (w6) := by rw [hW6]; exact (hb5.setCell (p := ⟨qv1, 3, none⟩) HGv1.out _)
  have HM6 : Hid ((w5).heap.size ≤ w6.heap.size) := by show _ ≤ _; rw [hW6]; simp
  have HBv2_6 : Hid ((w6).heap[qv2]? = some (.cells #[.string a, .string b] 71)) := by show _ = _; rw [hW6, heap_setCell_other _ _ _ _ HNv1v2.out.symm]; exact HBv2_5.out
  have HBv1_6 : Hid ((w6).heap[qv1]? = some (.cells #[.int .i64 3, .string a, .string b, .int .i64 t] 25)) := by show _ = _; rw [hW6]; have h := heap_set _ _ 3 _ _ _ (.int .i64 t) HBv1_5.out; simpa using h
  clear hb5 HBv1_5 HBv2_5 hW6
  have kv1_0 : (w6).cell? ⟨qv1, 0, none⟩ = some (.int .i64 3) := (cell_of HBv1_6.out 0).trans rfl
  have kv1_1 : (w6).cell? ⟨qv1, 1, none⟩ = some (.string a) := (cell_of HBv1_6.out 1).trans rfl
  have kv1_2 : (w6).cell? ⟨qv1, 2, none⟩ = some (.string b) := (cell_of HBv1_6.out 2).trans rfl
  have kv1_3 : (w6).cell? ⟨qv1, 3, none⟩ = some (.int .i64 t) := (cell_of HBv1_6.out 3).trans rfl
  refine bodyPost_ret (v := .agg #[.int .i64 3, .string a, .string b, .int .i64 t]) (by simp [results, Tryd.results25, go_sem, kv1_0, kv1_1, kv1_2, kv1_3]) rfl ?_
  exact ⟨rfl, hb6⟩

set_option maxHeartbeats 8000000 in
set_option maxRecDepth 100000 in
theorem right_1 (a : ByteArray) (w : World) (ha : a.size ≤ maxLen) :
    Calls Tryd.prog 101 #[.agg #[.string a]] w fun e w' => BoolIs (PathOk a) w e w' := by
  have HAM : Hid (a.size ≤ maxLen) := ha
  clear ha
  have hb0 : Below w.heap.size w w := Below.refl _ _
  go_enter Tryd.func101, Tryd.ntmps101
  go_upto_region 1 with fail
  obtain ⟨qv1, hqv1⟩ : ∃ q, q = (w).heap.size := ⟨_, rfl⟩
  obtain ⟨w1, hW1⟩ : ∃ W, W = (w).alloc (.cells #[.string a] 67) := ⟨_, rfl⟩
  have hz1 : (w).heap.size = qv1 := hqv1.symm
  first | rw [← hW1, ← hqv1] | rw [← hW1]
  have hs1 : w1.heap.size = qv1 + 1 := by rw [hW1, ← hz1]; simp
  have bw : Below (w).heap.size (w) w1 := by rw [hW1]; exact (Below.refl _ _).alloc (Nat.le_refl _) _
  have hb1 : Below w.heap.size w (w1) := hb0.trans (bw.mono hb0.size)
  have HM1 : Hid ((w).heap.size ≤ (w1).heap.size) := bw.size
  have HBv1_1 : Hid ((w1).heap[qv1]? = some (.cells #[.string a] 67)) := by show _ = _; rw [hW1, ← hz1]; exact heap_alloc_new _ _
  have HGv1 : Hid (w.heap.size ≤ qv1) := by show _ ≤ _; rw [← hz1]; exact hb0.size
  clear hb0 bw hW1 hz1
  clear hs1 hqv1
  have cv1_0 : (w1).cell? ⟨qv1, 0, none⟩ = some (.string a) := (cell_of HBv1_1.out 0).trans rfl
  go_wp2_with fail
  refine (pathOk_any a _ HAM.out).mono ?_
  rintro e w2 ⟨u, rfl, htu, bw⟩
  have hb2 : Below w.heap.size w (w2) := hb1.trans (bw.mono hb1.size)
  have HM2 : Hid ((w1).heap.size ≤ (w2).heap.size) := bw.size
  have HBv1_2 : Hid ((w2).heap[qv1]? = some (.cells #[.string a] 67)) := blk_below HBv1_1.out bw
  clear hb1 HBv1_1 bw
  clear cv1_0
  go_wp2_with fail
  go_ret
  exact ⟨u, rfl, htu, hb2⟩

set_option maxHeartbeats 8000000 in
set_option maxRecDepth 100000 in
theorem right_2 (a : ByteArray) (w : World) (ha : a.size ≤ maxLen) :
    Calls Tryd.prog 106 #[.agg #[.string a]] w fun e w' => BoolIs (PathOk a) w e w' := by
  have HAM : Hid (a.size ≤ maxLen) := ha
  clear ha
  have hb0 : Below w.heap.size w w := Below.refl _ _
  go_enter Tryd.func106, Tryd.ntmps106
  go_upto_region 1 with fail
  obtain ⟨qv1, hqv1⟩ : ∃ q, q = (w).heap.size := ⟨_, rfl⟩
  obtain ⟨w1, hW1⟩ : ∃ W, W = (w).alloc (.cells #[.string a] 69) := ⟨_, rfl⟩
  have hz1 : (w).heap.size = qv1 := hqv1.symm
  first | rw [← hW1, ← hqv1] | rw [← hW1]
  have hs1 : w1.heap.size = qv1 + 1 := by rw [hW1, ← hz1]; simp
  have bw : Below (w).heap.size (w) w1 := by rw [hW1]; exact (Below.refl _ _).alloc (Nat.le_refl _) _
  have hb1 : Below w.heap.size w (w1) := hb0.trans (bw.mono hb0.size)
  have HM1 : Hid ((w).heap.size ≤ (w1).heap.size) := bw.size
  have HBv1_1 : Hid ((w1).heap[qv1]? = some (.cells #[.string a] 69)) := by show _ = _; rw [hW1, ← hz1]; exact heap_alloc_new _ _
  have HGv1 : Hid (w.heap.size ≤ qv1) := by show _ ≤ _; rw [← hz1]; exact hb0.size
  clear hb0 bw hW1 hz1
  clear hs1 hqv1
  have cv1_0 : (w1).cell? ⟨qv1, 0, none⟩ = some (.string a) := (cell_of HBv1_1.out 0).trans rfl
  go_wp2_with fail
  refine (pathOk_any a _ HAM.out).mono ?_
  rintro e w2 ⟨u, rfl, htu, bw⟩
  have hb2 : Below w.heap.size w (w2) := hb1.trans (bw.mono hb1.size)
  have HM2 : Hid ((w1).heap.size ≤ (w2).heap.size) := bw.size
  have HBv1_2 : Hid ((w2).heap[qv1]? = some (.cells #[.string a] 69)) := blk_below HBv1_1.out bw
  clear hb1 HBv1_1 bw
  clear cv1_0
  go_wp2_with fail
  go_ret
  exact ⟨u, rfl, htu, hb2⟩

set_option maxHeartbeats 8000000 in
set_option maxRecDepth 100000 in
theorem right_3 (a b : ByteArray) (w : World) (ha : a.size ≤ maxLen) (hb : b.size ≤ maxLen) :
    Calls Tryd.prog 108 #[.agg #[.string a, .string b]] w fun e w' => BoolIs (TokOk a ∧ ValOk b) w e w' := by
  have HAM : Hid (a.size ≤ maxLen) := ha
  have HBM : Hid (b.size ≤ maxLen) := hb
  clear ha hb
  have hb0 : Below w.heap.size w w := Below.refl _ _
  go_enter Tryd.func108, Tryd.ntmps108
  go_upto_region 1 with fail
  obtain ⟨qv1, hqv1⟩ : ∃ q, q = (w).heap.size := ⟨_, rfl⟩
  obtain ⟨w1, hW1⟩ : ∃ W, W = (w).alloc (.cells #[.string a, .string b] 71) := ⟨_, rfl⟩
  have hz1 : (w).heap.size = qv1 := hqv1.symm
  first | rw [← hW1, ← hqv1] | rw [← hW1]
  have hs1 : w1.heap.size = qv1 + 1 := by rw [hW1, ← hz1]; simp
  have bw : Below (w).heap.size (w) w1 := by rw [hW1]; exact (Below.refl _ _).alloc (Nat.le_refl _) _
  have hb1 : Below w.heap.size w (w1) := hb0.trans (bw.mono hb0.size)
  have HM1 : Hid ((w).heap.size ≤ (w1).heap.size) := bw.size
  have HBv1_1 : Hid ((w1).heap[qv1]? = some (.cells #[.string a, .string b] 71)) := by show _ = _; rw [hW1, ← hz1]; exact heap_alloc_new _ _
  have HGv1 : Hid (w.heap.size ≤ qv1) := by show _ ≤ _; rw [← hz1]; exact hb0.size
  clear hb0 bw hW1 hz1
  clear hs1 hqv1
  have cv1_0 : (w1).cell? ⟨qv1, 0, none⟩ = some (.string a) := (cell_of HBv1_1.out 0).trans rfl
  go_wp2_with fail
  refine (implTokenOk_any a _ HAM.out).mono ?_
  rintro e w2 ⟨u, rfl, htu, bw⟩
  have hb2 : Below w.heap.size w (w2) := hb1.trans (bw.mono hb1.size)
  have HM2 : Hid ((w1).heap.size ≤ (w2).heap.size) := bw.size
  have HBv1_2 : Hid ((w2).heap[qv1]? = some (.cells #[.string a, .string b] 71)) := blk_below HBv1_1.out bw
  clear hb1 HBv1_1 bw
  clear cv1_0
  cases u with
  | false =>
    have HU : Hid (¬ TokOk a) := fun h => nomatch htu.2 h
    clear htu
    go_wp2_with fail
    go_ret
    exact ⟨false, rfl, ⟨fun h => (by cases h), fun h => absurd h.1 HU.out⟩, hb2⟩
  | true =>
    have HU : Hid (TokOk a) := htu.1 rfl
    clear htu
    have cv1_1 : (w2).cell? ⟨qv1, 1, none⟩ = some (.string b) := (cell_of HBv1_2.out 1).trans rfl
    go_wp2_with fail
    refine (implValueOk_any b _ HBM.out).mono ?_
    rintro e w3 ⟨v, rfl, htv, bw⟩
    have hb3 : Below w.heap.size w (w3) := hb2.trans (bw.mono hb2.size)
    have HM3 : Hid ((w2).heap.size ≤ (w3).heap.size) := bw.size
    have HBv1_3 : Hid ((w3).heap[qv1]? = some (.cells #[.string a, .string b] 71)) := blk_below HBv1_2.out bw
    clear hb2 HBv1_2 bw
    clear cv1_1
    go_wp2_with fail
    go_ret
    exact ⟨v, rfl, ⟨fun h => ⟨HU.out, htv.1 h⟩, fun h => htv.2 h.2⟩, hb3⟩

end Go.Proofs.YtlmenolcgaakeaaDoor

namespace Go.Proofs.YtlmenolcgaakeaaDoor
open Go.RowKit
open Go.Lib hiding intOf

theorem timeOk_any (t : Int) (w : World) :
    Calls Tryd.prog 24 #[.int .i64 t] w fun e w' => e = .returned (.bool (decide ((0 : Int) ≤ t ∧ t ≤ 1000000))) ∧ w' = w := by
  obtain ⟨D, hD⟩ : ∃ D, D = decide ((0 : Int) ≤ t ∧ t ≤ 1000000) := ⟨_, rfl⟩
  rw [← hD]
  by_cases h1 : 0 ≤ t
  · by_cases h2 : t ≤ 1000000
    · have HD : Hid (D = true) := by show _ = _; rw [hD]; exact decide_eq_true ⟨h1, h2⟩
      clear hD
      go_enter Tryd.func24, Tryd.ntmps24
      go_wp2
      go_ret
      exact ⟨by rw [HD.out]; rfl, rfl⟩
    · have HD : Hid (D = false) := by show _ = _; rw [hD]; exact decide_eq_false (fun h => h2 h.2)
      clear hD
      go_enter Tryd.func24, Tryd.ntmps24
      go_wp2
      go_ret
      exact ⟨by rw [HD.out]; rfl, rfl⟩
  · have HD : Hid (D = false) := by show _ = _; rw [hD]; exact decide_eq_false (fun h => h1 h.1)
    clear hD
    go_enter Tryd.func24, Tryd.ntmps24
    go_wp2
    go_ret
    exact ⟨by rw [HD.out]; rfl, rfl⟩

end Go.Proofs.YtlmenolcgaakeaaDoor
