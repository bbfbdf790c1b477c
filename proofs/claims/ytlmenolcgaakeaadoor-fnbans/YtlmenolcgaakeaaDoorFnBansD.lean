/- What the proof of FnBans leans on: contracts of the program's and the specification's functions, and plain facts (part 4 of 4). -/
import Derived.Test.YtlmenolcgaakeaaDoorFnBansC
namespace Go.Proofs.YtlmenolcgaakeaaDoor
open Go.RowKit
open Go.Lib hiding intOf

set_option maxHeartbeats 8000000 in
set_option maxRecDepth 100000 in
theorem kindName_1 (w : World) :
    Calls Tryd.prog 19 #[.int .i64 1] w fun e w' => e = .returned (.string ⟨#[112, 97, 116, 104]⟩) ∧ Below w.heap.size w w' := by
  have hb0 : Below w.heap.size w w := Below.refl _ _
  go_enter Tryd.func19, Tryd.ntmps19
  go_wp2_with fail
  go_ret
  exact ⟨rfl, hb0⟩

set_option maxHeartbeats 8000000 in
set_option maxRecDepth 100000 in
theorem kindName_2 (w : World) :
    Calls Tryd.prog 19 #[.int .i64 2] w fun e w' => e = .returned (.string ⟨#[98, 101, 108, 111, 119]⟩) ∧ Below w.heap.size w w' := by
  have hb0 : Below w.heap.size w w := Below.refl _ _
  go_enter Tryd.func19, Tryd.ntmps19
  go_wp2_with fail
  go_ret
  exact ⟨rfl, hb0⟩

set_option maxHeartbeats 8000000 in
set_option maxRecDepth 100000 in
theorem kindName_3 (w : World) :
    Calls Tryd.prog 19 #[.int .i64 3] w fun e w' => e = .returned (.string ⟨#[102, 105, 101, 108, 100]⟩) ∧ Below w.heap.size w w' := by
  have hb0 : Below w.heap.size w w := Below.refl _ _
  go_enter Tryd.func19, Tryd.ntmps19
  go_wp2_with fail
  go_ret
  exact ⟨rfl, hb0⟩

set_option maxHeartbeats 8000000 in
set_option maxRecDepth 100000 in
theorem implBanText_any (k : Int) (a b : ByteArray) (t : Int) (w : World) (ha : a.size ≤ maxLen) (hb : b.size ≤ maxLen) (hT : TabOk w) :
    Calls Tryd.prog 8 #[.agg #[.int .i64 k, .string a, .string b, .int .i64 t]] w fun e w' => TextOf (BanP k a b t) (banT k a b t) w e w' := by
  have HAM : Hid (a.size ≤ maxLen) := ha
  have HBM : Hid (b.size ≤ maxLen) := hb
  have HTB : Hid (∀ W, Below w.heap.size w W → TabOk W) := fun W h => hT.below h
  obtain ⟨tt, htt⟩ : ∃ x, x = numTextI t := ⟨_, rfl⟩
  have HTT : Hid (numTextI t = tt) := htt.symm
  clear ha hb htt hT
  have hb0 : Below w.heap.size w w := Below.refl _ _
  go_enter Tryd.func8, Tryd.ntmps8
  go_upto_region 1 with fail
  obtain ⟨qv1, hqv1⟩ : ∃ q, q = (w).heap.size := ⟨_, rfl⟩
  obtain ⟨w1, hW1⟩ : ∃ W, W = (w).alloc (.cells #[.int .i64 k, .string a, .string b, .int .i64 t] 25) := ⟨_, rfl⟩
  have hz1 : (w).heap.size = qv1 := hqv1.symm
  first | rw [← hW1, ← hqv1] | rw [← hW1]
  have hs1 : w1.heap.size = qv1 + 1 := by rw [hW1, ← hz1]; simp
  have bw : Below (w).heap.size (w) w1 := by rw [hW1]; exact (Below.refl _ _).alloc (Nat.le_refl _) _
  have hb1 : Below w.heap.size w (w1) := hb0.trans (bw.mono hb0.size)
  have HM1 : Hid ((w).heap.size ≤ (w1).heap.size) := bw.size
  have HBv1_1 : Hid ((w1).heap[qv1]? = some (.cells #[.int .i64 k, .string a, .string b, .int .i64 t] 25)) := by show _ = _; rw [hW1, ← hz1]; exact heap_alloc_new _ _
  have HGv1 : Hid (w.heap.size ≤ qv1) := by show _ ≤ _; rw [← hz1]; exact hb0.size
  clear hb0 bw hW1 hz1
  clear hs1 hqv1
  have cv1_0 : (w1).cell? ⟨qv1, 0, none⟩ = some (.int .i64 k) := (cell_of HBv1_1.out 0).trans rfl
  have cv1_1 : (w1).cell? ⟨qv1, 1, none⟩ = some (.string a) := (cell_of HBv1_1.out 1).trans rfl
  have cv1_2 : (w1).cell? ⟨qv1, 2, none⟩ = some (.string b) := (cell_of HBv1_1.out 2).trans rfl
  have cv1_3 : (w1).cell? ⟨qv1, 3, none⟩ = some (.int .i64 t) := (cell_of HBv1_1.out 3).trans rfl
  go_wp2_with fail
  refine (implBanOk_any k a b t _ HAM.out HBM.out).mono ?_
  rintro e w2 ⟨ub, rfl, htub, bw⟩
  have hb2 : Below w.heap.size w (w2) := hb1.trans (bw.mono hb1.size)
  have HM2 : Hid ((w1).heap.size ≤ (w2).heap.size) := bw.size
  have HBv1_2 : Hid ((w2).heap[qv1]? = some (.cells #[.int .i64 k, .string a, .string b, .int .i64 t] 25)) := blk_below HBv1_1.out bw
  clear hb1 HBv1_1 bw
  clear cv1_0 cv1_1 cv1_2 cv1_3
  cases ub with
  | false =>
    have HF : Hid (¬ BanP k a b t) := fun h => nomatch htub.2 h
    clear htub
    go_wp2_with fail
    go_ret
    exact ⟨⟨#[]⟩, rfl, fun h => absurd h HF.out, fun _ => rfl, hb2⟩
  | true =>
    have HOK : Hid (BanP k a b t) := htub.1 rfl
    clear htub
    have HT : Hid (0 ≤ t ∧ t ≤ 1000000) := HOK.out.1
    have za : a.size ≤ 60 := HOK.out.a_size.1
    have zb : b.size ≤ 60 := HOK.out.a_size.2
    have ztt : tt.size ≤ 8 := by rw [← HTT.out, numTextI_of HT.out.1]; exact numText_size _
    rcases HOK.out.kinds with rfl | rfl | rfl
    · go_upto_region 3 with fail
      refine wp_region_held_drew (S := fun W => W.heap[qv1]? = some (.cells #[.int .i64 1, .string a, .string b, .int .i64 t] 25)) (by kernel_rfl) HBv1_2.out (fun _ => ?_)
      obtain ⟨w3, hX⟩ : ∃ X, X = w2.drew := ⟨_, rfl⟩
      have bw : Below w2.heap.size w2 w3 := by rw [hX]; exact (Below.refl _ _).drew
      rw [← hX]
      have hb3 : Below w.heap.size w (w3) := hb2.trans (bw.mono hb2.size)
      have HM3 : Hid ((w2).heap.size ≤ (w3).heap.size) := bw.size
      have HBv1_3 : Hid ((w3).heap[qv1]? = some (.cells #[.int .i64 1, .string a, .string b, .int .i64 t] 25)) := blk_below HBv1_2.out bw
      have hS3 : w3.heap[qv1]? = some (.cells #[.int .i64 1, .string a, .string b, .int .i64 t] 25) := HBv1_3.out
      clear hb2 HBv1_2 bw hX
      refine wpAnyH_takeD (i := 0) (v := .pointer (some ⟨qv1, 0, none⟩)) (some 7) rfl rfl (by kernel_rfl) (by kernel_rfl) (by kernel_rfl) (fun _ _ _ h => h) (Or.inl ⟨by rfl, by intro W _; go_simp⟩) hS3 ?_
      simp only [Act.put, List.setIfInBounds_toArray, List.set_cons_zero, List.set_cons_succ]
      refine wpAnyH_takeD (i := 1) (v := .int .i64 1) (some 8) rfl rfl (by kernel_rfl) (by kernel_rfl) (by kernel_rfl) (fun _ _ _ h => h) (Or.inl ⟨by rfl, by intro W hW; have hhv1 := hW; have y0 := (cell_of hhv1 0).trans rfl; go_simp⟩) hS3 ?_
      simp only [Act.put, List.setIfInBounds_toArray, List.set_cons_zero, List.set_cons_succ]
      refine wpAnyH_takeD (i := 5) (v := .pointer (some ⟨qv1, 3, none⟩)) (some 12) rfl rfl (by kernel_rfl) (by kernel_rfl) (by kernel_rfl) (fun _ _ _ h => h) (Or.inl ⟨by rfl, by intro W _; go_simp⟩) hS3 ?_
      simp only [Act.put, List.setIfInBounds_toArray, List.set_cons_zero, List.set_cons_succ]
      refine wpAnyH_takeD (i := 6) (v := .int .i64 t) (some 13) rfl rfl (by kernel_rfl) (by kernel_rfl) (by kernel_rfl) (fun _ _ _ h => h) (Or.inl ⟨by rfl, by intro W hW; have hhv1 := hW; have y3 := (cell_of hhv1 3).trans rfl; go_simp⟩) hS3 ?_
      simp only [Act.put, List.setIfInBounds_toArray, List.set_cons_zero, List.set_cons_succ]
      refine wpAnyH_takeD (i := 10) (v := .pointer (some ⟨qv1, 1, none⟩)) (some 17) rfl rfl (by kernel_rfl) (by kernel_rfl) (by kernel_rfl) (fun _ _ _ h => h) (Or.inl ⟨by rfl, by intro W _; go_simp⟩) hS3 ?_
      simp only [Act.put, List.setIfInBounds_toArray, List.set_cons_zero, List.set_cons_succ]
      refine wpAnyH_takeD (i := 11) (v := .string a) (some 18) rfl rfl (by kernel_rfl) (by kernel_rfl) (by kernel_rfl) (fun _ _ _ h => h) (Or.inl ⟨by rfl, by intro W hW; have hhv1 := hW; have y1 := (cell_of hhv1 1).trans rfl; go_simp⟩) hS3 ?_
      simp only [Act.put, List.setIfInBounds_toArray, List.set_cons_zero, List.set_cons_succ]
      refine wpAnyH_ready (rs := [2]) (by kernel_rfl) (by simp) ?_
      refine AllReadyH.cons rfl (fun K hK => ?_) AllReadyH.nil
      go_simp
      refine (kindName_1 _).mono ?_
      rintro e w4 ⟨rfl, bw⟩
      have hb4 : Below w.heap.size w (w4) := hb3.trans (bw.mono hb3.size)
      have HM4 : Hid ((w3).heap.size ≤ (w4).heap.size) := bw.size
      have HBv1_4 : Hid ((w4).heap[qv1]? = some (.cells #[.int .i64 1, .string a, .string b, .int .i64 t] 25)) := blk_below HBv1_3.out bw
      clear hb3 HBv1_3 bw
      have hS4 : w4.heap[qv1]? = some (.cells #[.int .i64 1, .string a, .string b, .int .i64 t] 25) := HBv1_4.out
      refine hK.out _ _ hS4 (fun _ => ?_)
      clear hK K hS3
      refine wpAnyH_takeD (i := 3) (v := .string (⟨#[98, 97, 110, 32]⟩ ++ ⟨#[112, 97, 116, 104]⟩)) (some 10) rfl rfl (by kernel_rfl) (by kernel_rfl) (by kernel_rfl) (fun _ _ _ h => h) (Or.inl ⟨by rfl, by intro W _; go_simp <;> omega⟩) hS4 ?_
      simp only [Act.put, List.setIfInBounds_toArray, List.set_cons_zero, List.set_cons_succ]
      refine wpAnyH_takeD (i := 4) (v := .string ((⟨#[98, 97, 110, 32]⟩ ++ ⟨#[112, 97, 116, 104]⟩) ++ ⟨#[32]⟩)) (some 11) rfl rfl (by kernel_rfl) (by kernel_rfl) (by kernel_rfl) (fun _ _ _ h => h) (Or.inl ⟨by rfl, by intro W _; go_simp <;> omega⟩) hS4 ?_
      simp only [Act.put, List.setIfInBounds_toArray, List.set_cons_zero, List.set_cons_succ]
      refine wpAnyH_ready (rs := [7]) (by kernel_rfl) (by simp) ?_
      refine AllReadyH.cons rfl (fun K hK => ?_) AllReadyH.nil
      go_simp
      refine (implNumText_any t _ (by have := HT.out; omega) (by have := HT.out; omega) (HTB.out _ hb4)).mono ?_
      rintro e w5 ⟨rfl, bw⟩
      rw [HTT.out]
      have hb5 : Below w.heap.size w (w5) := hb4.trans (bw.mono hb4.size)
      have HM5 : Hid ((w4).heap.size ≤ (w5).heap.size) := bw.size
      have HBv1_5 : Hid ((w5).heap[qv1]? = some (.cells #[.int .i64 1, .string a, .string b, .int .i64 t] 25)) := blk_below HBv1_4.out bw
      clear hb4 HBv1_4 bw
      have hS5 : w5.heap[qv1]? = some (.cells #[.int .i64 1, .string a, .string b, .int .i64 t] 25) := HBv1_5.out
      refine hK.out _ _ hS5 (fun _ => ?_)
      clear hK K hS4
      refine wpAnyH_takeD (i := 8) (v := .string (((⟨#[98, 97, 110, 32]⟩ ++ ⟨#[112, 97, 116, 104]⟩) ++ ⟨#[32]⟩) ++ tt)) (some 15) rfl rfl (by kernel_rfl) (by kernel_rfl) (by kernel_rfl) (fun _ _ _ h => h) (Or.inl ⟨by rfl, by intro W _; go_simp <;> omega⟩) hS5 ?_
      simp only [Act.put, List.setIfInBounds_toArray, List.set_cons_zero, List.set_cons_succ]
      refine wpAnyH_takeD (i := 9) (v := .string ((((⟨#[98, 97, 110, 32]⟩ ++ ⟨#[112, 97, 116, 104]⟩) ++ ⟨#[32]⟩) ++ tt) ++ ⟨#[32]⟩)) (some 16) rfl rfl (by kernel_rfl) (by kernel_rfl) (by kernel_rfl) (fun _ _ _ h => h) (Or.inl ⟨by rfl, by intro W _; go_simp <;> omega⟩) hS5 ?_
      simp only [Act.put, List.setIfInBounds_toArray, List.set_cons_zero, List.set_cons_succ]
      refine wpAnyH_takeD (i := 12) (v := .string (((((⟨#[98, 97, 110, 32]⟩ ++ ⟨#[112, 97, 116, 104]⟩) ++ ⟨#[32]⟩) ++ tt) ++ ⟨#[32]⟩) ++ a)) (some 19) rfl rfl (by kernel_rfl) (by kernel_rfl) (by kernel_rfl) (fun _ _ _ h => h) (Or.inl ⟨by rfl, by intro W _; go_simp <;> omega⟩) hS5 ?_
      simp only [Act.put, List.setIfInBounds_toArray, List.set_cons_zero, List.set_cons_succ]
      refine wpAnyH_takeD (i := 13) (v := .string (((((⟨#[98, 97, 110, 32]⟩ ++ ⟨#[112, 97, 116, 104]⟩) ++ ⟨#[32]⟩) ++ tt) ++ ⟨#[32]⟩) ++ a)) (some 3) rfl rfl (by kernel_rfl) (by kernel_rfl) (by kernel_rfl) (fun _ _ _ h => h) (Or.inl ⟨by rfl, by intro W _; go_simp⟩) hS5 ?_
      simp only [Act.put, List.setIfInBounds_toArray, List.set_cons_zero, List.set_cons_succ]
      clear hS5
      refine wpAnyH_done (by kernel_rfl) ?_ _
      have cv1_0 : (w5).cell? ⟨qv1, 0, none⟩ = some (.int .i64 1) := (cell_of HBv1_5.out 0).trans rfl
      go_wp2_with fail
      go_ret
      exact ⟨_, rfl, fun _ => by rw [← HTT.out, numTextI_of HT.out.1]; first | rfl | (unfold banT banH; simp [bkW, banW, ByteArray.append_assoc]; done), fun h => absurd HOK.out h, hb5⟩
    · go_upto_region 3 with fail
      refine wp_region_held_drew (S := fun W => W.heap[qv1]? = some (.cells #[.int .i64 2, .string a, .string b, .int .i64 t] 25)) (by kernel_rfl) HBv1_2.out (fun _ => ?_)
      obtain ⟨w3, hX⟩ : ∃ X, X = w2.drew := ⟨_, rfl⟩
      have bw : Below w2.heap.size w2 w3 := by rw [hX]; exact (Below.refl _ _).drew
      rw [← hX]
      have hb3 : Below w.heap.size w (w3) := hb2.trans (bw.mono hb2.size)
      have HM3 : Hid ((w2).heap.size ≤ (w3).heap.size) := bw.size
      have HBv1_3 : Hid ((w3).heap[qv1]? = some (.cells #[.int .i64 2, .string a, .string b, .int .i64 t] 25)) := blk_below HBv1_2.out bw
      have hS3 : w3.heap[qv1]? = some (.cells #[.int .i64 2, .string a, .string b, .int .i64 t] 25) := HBv1_3.out
      clear hb2 HBv1_2 bw hX
      refine wpAnyH_takeD (i := 0) (v := .pointer (some ⟨qv1, 0, none⟩)) (some 7) rfl rfl (by kernel_rfl) (by kernel_rfl) (by kernel_rfl) (fun _ _ _ h => h) (Or.inl ⟨by rfl, by intro W _; go_simp⟩) hS3 ?_
      simp only [Act.put, List.setIfInBounds_toArray, List.set_cons_zero, List.set_cons_succ]
      refine wpAnyH_takeD (i := 1) (v := .int .i64 2) (some 8) rfl rfl (by kernel_rfl) (by kernel_rfl) (by kernel_rfl) (fun _ _ _ h => h) (Or.inl ⟨by rfl, by intro W hW; have hhv1 := hW; have y0 := (cell_of hhv1 0).trans rfl; go_simp⟩) hS3 ?_
      simp only [Act.put, List.setIfInBounds_toArray, List.set_cons_zero, List.set_cons_succ]
      refine wpAnyH_takeD (i := 5) (v := .pointer (some ⟨qv1, 3, none⟩)) (some 12) rfl rfl (by kernel_rfl) (by kernel_rfl) (by kernel_rfl) (fun _ _ _ h => h) (Or.inl ⟨by rfl, by intro W _; go_simp⟩) hS3 ?_
      simp only [Act.put, List.setIfInBounds_toArray, List.set_cons_zero, List.set_cons_succ]
      refine wpAnyH_takeD (i := 6) (v := .int .i64 t) (some 13) rfl rfl (by kernel_rfl) (by kernel_rfl) (by kernel_rfl) (fun _ _ _ h => h) (Or.inl ⟨by rfl, by intro W hW; have hhv1 := hW; have y3 := (cell_of hhv1 3).trans rfl; go_simp⟩) hS3 ?_
      simp only [Act.put, List.setIfInBounds_toArray, List.set_cons_zero, List.set_cons_succ]
      refine wpAnyH_takeD (i := 10) (v := .pointer (some ⟨qv1, 1, none⟩)) (some 17) rfl rfl (by kernel_rfl) (by kernel_rfl) (by kernel_rfl) (fun _ _ _ h => h) (Or.inl ⟨by rfl, by intro W _; go_simp⟩) hS3 ?_
      simp only [Act.put, List.setIfInBounds_toArray, List.set_cons_zero, List.set_cons_succ]
      refine wpAnyH_takeD (i := 11) (v := .string a) (some 18) rfl rfl (by kernel_rfl) (by kernel_rfl) (by kernel_rfl) (fun _ _ _ h => h) (Or.inl ⟨by rfl, by intro W hW; have hhv1 := hW; have y1 := (cell_of hhv1 1).trans rfl; go_simp⟩) hS3 ?_
      simp only [Act.put, List.setIfInBounds_toArray, List.set_cons_zero, List.set_cons_succ]
      refine wpAnyH_ready (rs := [2]) (by kernel_rfl) (by simp) ?_
      refine AllReadyH.cons rfl (fun K hK => ?_) AllReadyH.nil
      go_simp
      refine (kindName_2 _).mono ?_
      rintro e w4 ⟨rfl, bw⟩
      have hb4 : Below w.heap.size w (w4) := hb3.trans (bw.mono hb3.size)
      have HM4 : Hid ((w3).heap.size ≤ (w4).heap.size) := bw.size
      have HBv1_4 : Hid ((w4).heap[qv1]? = some (.cells #[.int .i64 2, .string a, .string b, .int .i64 t] 25)) := blk_below HBv1_3.out bw
      clear hb3 HBv1_3 bw
      have hS4 : w4.heap[qv1]? = some (.cells #[.int .i64 2, .string a, .string b, .int .i64 t] 25) := HBv1_4.out
      refine hK.out _ _ hS4 (fun _ => ?_)
      clear hK K hS3
      refine wpAnyH_takeD (i := 3) (v := .string (⟨#[98, 97, 110, 32]⟩ ++ ⟨#[98, 101, 108, 111, 119]⟩)) (some 10) rfl rfl (by kernel_rfl) (by kernel_rfl) (by kernel_rfl) (fun _ _ _ h => h) (Or.inl ⟨by rfl, by intro W _; go_simp <;> omega⟩) hS4 ?_
      simp only [Act.put, List.setIfInBounds_toArray, List.set_cons_zero, List.set_cons_succ]
      refine wpAnyH_takeD (i := 4) (v := .string ((⟨#[98, 97, 110, 32]⟩ ++ ⟨#[98, 101, 108, 111, 119]⟩) ++ ⟨#[32]⟩)) (some 11) rfl rfl (by kernel_rfl) (by kernel_rfl) (by kernel_rfl) (fun _ _ _ h => h) (Or.inl ⟨by rfl, by intro W _; go_simp <;> omega⟩) hS4 ?_
      simp only [Act.put, List.setIfInBounds_toArray, List.set_cons_zero, List.set_cons_succ]
      refine wpAnyH_ready (rs := [7]) (by kernel_rfl) (by simp) ?_
      refine AllReadyH.cons rfl (fun K hK => ?_) AllReadyH.nil
      go_simp
      refine (implNumText_any t _ (by have := HT.out; omega) (by have := HT.out; omega) (HTB.out _ hb4)).mono ?_
      rintro e w5 ⟨rfl, bw⟩
      rw [HTT.out]
      have hb5 : Below w.heap.size w (w5) := hb4.trans (bw.mono hb4.size)
      have HM5 : Hid ((w4).heap.size ≤ (w5).heap.size) := bw.size
      have HBv1_5 : Hid ((w5).heap[qv1]? = some (.cells #[.int .i64 2, .string a, .string b, .int .i64 t] 25)) := blk_below HBv1_4.out bw
      clear hb4 HBv1_4 bw
      have hS5 : w5.heap[qv1]? = some (.cells #[.int .i64 2, .string a, .string b, .int .i64 t] 25) := HBv1_5.out
      refine hK.out _ _ hS5 (fun _ => ?_)
      clear hK K hS4
      refine wpAnyH_takeD (i := 8) (v := .string (((⟨#[98, 97, 110, 32]⟩ ++ ⟨#[98, 101, 108, 111, 119]⟩) ++ ⟨#[32]⟩) ++ tt)) (some 15) rfl rfl (by kernel_rfl) (by kernel_rfl) (by kernel_rfl) (fun _ _ _ h => h) (Or.inl ⟨by rfl, by intro W _; go_simp <;> omega⟩) hS5 ?_
      simp only [Act.put, List.setIfInBounds_toArray, List.set_cons_zero, List.set_cons_succ]
      refine wpAnyH_takeD (i := 9) (v := .string ((((⟨#[98, 97, 110, 32]⟩ ++ ⟨#[98, 101, 108, 111, 119]⟩) ++ ⟨#[32]⟩) ++ tt) ++ ⟨#[32]⟩)) (some 16) rfl rfl (by kernel_rfl) (by kernel_rfl) (by kernel_rfl) (fun _ _ _ h => h) (Or.inl ⟨by rfl, by intro W _; go_simp <;> omega⟩) hS5 ?_
      simp only [Act.put, List.setIfInBounds_toArray, List.set_cons_zero, List.set_cons_succ]
      refine wpAnyH_takeD (i := 12) (v := .string (((((⟨#[98, 97, 110, 32]⟩ ++ ⟨#[98, 101, 108, 111, 119]⟩) ++ ⟨#[32]⟩) ++ tt) ++ ⟨#[32]⟩) ++ a)) (some 19) rfl rfl (by kernel_rfl) (by kernel_rfl) (by kernel_rfl) (fun _ _ _ h => h) (Or.inl ⟨by rfl, by intro W _; go_simp <;> omega⟩) hS5 ?_
      simp only [Act.put, List.setIfInBounds_toArray, List.set_cons_zero, List.set_cons_succ]
      refine wpAnyH_takeD (i := 13) (v := .string (((((⟨#[98, 97, 110, 32]⟩ ++ ⟨#[98, 101, 108, 111, 119]⟩) ++ ⟨#[32]⟩) ++ tt) ++ ⟨#[32]⟩) ++ a)) (some 3) rfl rfl (by kernel_rfl) (by kernel_rfl) (by kernel_rfl) (fun _ _ _ h => h) (Or.inl ⟨by rfl, by intro W _; go_simp⟩) hS5 ?_
      simp only [Act.put, List.setIfInBounds_toArray, List.set_cons_zero, List.set_cons_succ]
      clear hS5
      refine wpAnyH_done (by kernel_rfl) ?_ _
      have cv1_0 : (w5).cell? ⟨qv1, 0, none⟩ = some (.int .i64 2) := (cell_of HBv1_5.out 0).trans rfl
      go_wp2_with fail
      go_ret
      exact ⟨_, rfl, fun _ => by rw [← HTT.out, numTextI_of HT.out.1]; first | rfl | (unfold banT banH; simp [bkW, banW, ByteArray.append_assoc]; done), fun h => absurd HOK.out h, hb5⟩
    · go_upto_region 3 with fail
      refine wp_region_held_drew (S := fun W => W.heap[qv1]? = some (.cells #[.int .i64 3, .string a, .string b, .int .i64 t] 25)) (by kernel_rfl) HBv1_2.out (fun _ => ?_)
      obtain ⟨w3, hX⟩ : ∃ X, X = w2.drew := ⟨_, rfl⟩
      have bw : Below w2.heap.size w2 w3 := by rw [hX]; exact (Below.refl _ _).drew
      rw [← hX]
      have hb3 : Below w.heap.size w (w3) := hb2.trans (bw.mono hb2.size)
      have HM3 : Hid ((w2).heap.size ≤ (w3).heap.size) := bw.size
      have HBv1_3 : Hid ((w3).heap[qv1]? = some (.cells #[.int .i64 3, .string a, .string b, .int .i64 t] 25)) := blk_below HBv1_2.out bw
      have hS3 : w3.heap[qv1]? = some (.cells #[.int .i64 3, .string a, .string b, .int .i64 t] 25) := HBv1_3.out
      clear hb2 HBv1_2 bw hX
      refine wpAnyH_takeD (i := 0) (v := .pointer (some ⟨qv1, 0, none⟩)) (some 7) rfl rfl (by kernel_rfl) (by kernel_rfl) (by kernel_rfl) (fun _ _ _ h => h) (Or.inl ⟨by rfl, by intro W _; go_simp⟩) hS3 ?_
      simp only [Act.put, List.setIfInBounds_toArray, List.set_cons_zero, List.set_cons_succ]
      refine wpAnyH_takeD (i := 1) (v := .int .i64 3) (some 8) rfl rfl (by kernel_rfl) (by kernel_rfl) (by kernel_rfl) (fun _ _ _ h => h) (Or.inl ⟨by rfl, by intro W hW; have hhv1 := hW; have y0 := (cell_of hhv1 0).trans rfl; go_simp⟩) hS3 ?_
      simp only [Act.put, List.setIfInBounds_toArray, List.set_cons_zero, List.set_cons_succ]
      refine wpAnyH_takeD (i := 5) (v := .pointer (some ⟨qv1, 3, none⟩)) (some 12) rfl rfl (by kernel_rfl) (by kernel_rfl) (by kernel_rfl) (fun _ _ _ h => h) (Or.inl ⟨by rfl, by intro W _; go_simp⟩) hS3 ?_
      simp only [Act.put, List.setIfInBounds_toArray, List.set_cons_zero, List.set_cons_succ]
      refine wpAnyH_takeD (i := 6) (v := .int .i64 t) (some 13) rfl rfl (by kernel_rfl) (by kernel_rfl) (by kernel_rfl) (fun _ _ _ h => h) (Or.inl ⟨by rfl, by intro W hW; have hhv1 := hW; have y3 := (cell_of hhv1 3).trans rfl; go_simp⟩) hS3 ?_
      simp only [Act.put, List.setIfInBounds_toArray, List.set_cons_zero, List.set_cons_succ]
      refine wpAnyH_takeD (i := 10) (v := .pointer (some ⟨qv1, 1, none⟩)) (some 17) rfl rfl (by kernel_rfl) (by kernel_rfl) (by kernel_rfl) (fun _ _ _ h => h) (Or.inl ⟨by rfl, by intro W _; go_simp⟩) hS3 ?_
      simp only [Act.put, List.setIfInBounds_toArray, List.set_cons_zero, List.set_cons_succ]
      refine wpAnyH_takeD (i := 11) (v := .string a) (some 18) rfl rfl (by kernel_rfl) (by kernel_rfl) (by kernel_rfl) (fun _ _ _ h => h) (Or.inl ⟨by rfl, by intro W hW; have hhv1 := hW; have y1 := (cell_of hhv1 1).trans rfl; go_simp⟩) hS3 ?_
      simp only [Act.put, List.setIfInBounds_toArray, List.set_cons_zero, List.set_cons_succ]
      refine wpAnyH_ready (rs := [2]) (by kernel_rfl) (by simp) ?_
      refine AllReadyH.cons rfl (fun K hK => ?_) AllReadyH.nil
      go_simp
      refine (kindName_3 _).mono ?_
      rintro e w4 ⟨rfl, bw⟩
      have hb4 : Below w.heap.size w (w4) := hb3.trans (bw.mono hb3.size)
      have HM4 : Hid ((w3).heap.size ≤ (w4).heap.size) := bw.size
      have HBv1_4 : Hid ((w4).heap[qv1]? = some (.cells #[.int .i64 3, .string a, .string b, .int .i64 t] 25)) := blk_below HBv1_3.out bw
      clear hb3 HBv1_3 bw
      have hS4 : w4.heap[qv1]? = some (.cells #[.int .i64 3, .string a, .string b, .int .i64 t] 25) := HBv1_4.out
      refine hK.out _ _ hS4 (fun _ => ?_)
      clear hK K hS3
      refine wpAnyH_takeD (i := 3) (v := .string (⟨#[98, 97, 110, 32]⟩ ++ ⟨#[102, 105, 101, 108, 100]⟩)) (some 10) rfl rfl (by kernel_rfl) (by kernel_rfl) (by kernel_rfl) (fun _ _ _ h => h) (Or.inl ⟨by rfl, by intro W _; go_simp <;> omega⟩) hS4 ?_
      simp only [Act.put, List.setIfInBounds_toArray, List.set_cons_zero, List.set_cons_succ]
      refine wpAnyH_takeD (i := 4) (v := .string ((⟨#[98, 97, 110, 32]⟩ ++ ⟨#[102, 105, 101, 108, 100]⟩) ++ ⟨#[32]⟩)) (some 11) rfl rfl (by kernel_rfl) (by kernel_rfl) (by kernel_rfl) (fun _ _ _ h => h) (Or.inl ⟨by rfl, by intro W _; go_simp <;> omega⟩) hS4 ?_
      simp only [Act.put, List.setIfInBounds_toArray, List.set_cons_zero, List.set_cons_succ]
      refine wpAnyH_ready (rs := [7]) (by kernel_rfl) (by simp) ?_
      refine AllReadyH.cons rfl (fun K hK => ?_) AllReadyH.nil
      go_simp
      refine (implNumText_any t _ (by have := HT.out; omega) (by have := HT.out; omega) (HTB.out _ hb4)).mono ?_
      rintro e w5 ⟨rfl, bw⟩
      rw [HTT.out]
      have hb5 : Below w.heap.size w (w5) := hb4.trans (bw.mono hb4.size)
      have HM5 : Hid ((w4).heap.size ≤ (w5).heap.size) := bw.size
      have HBv1_5 : Hid ((w5).heap[qv1]? = some (.cells #[.int .i64 3, .string a, .string b, .int .i64 t] 25)) := blk_below HBv1_4.out bw
      clear hb4 HBv1_4 bw
      have hS5 : w5.heap[qv1]? = some (.cells #[.int .i64 3, .string a, .string b, .int .i64 t] 25) := HBv1_5.out
      refine hK.out _ _ hS5 (fun _ => ?_)
      clear hK K hS4
      refine wpAnyH_takeD (i := 8) (v := .string (((⟨#[98, 97, 110, 32]⟩ ++ ⟨#[102, 105, 101, 108, 100]⟩) ++ ⟨#[32]⟩) ++ tt)) (some 15) rfl rfl (by kernel_rfl) (by kernel_rfl) (by kernel_rfl) (fun _ _ _ h => h) (Or.inl ⟨by rfl, by intro W _; go_simp <;> omega⟩) hS5 ?_
      simp only [Act.put, List.setIfInBounds_toArray, List.set_cons_zero, List.set_cons_succ]
      refine wpAnyH_takeD (i := 9) (v := .string ((((⟨#[98, 97, 110, 32]⟩ ++ ⟨#[102, 105, 101, 108, 100]⟩) ++ ⟨#[32]⟩) ++ tt) ++ ⟨#[32]⟩)) (some 16) rfl rfl (by kernel_rfl) (by kernel_rfl) (by kernel_rfl) (fun _ _ _ h => h) (Or.inl ⟨by rfl, by intro W _; go_simp <;> omega⟩) hS5 ?_
      simp only [Act.put, List.setIfInBounds_toArray, List.set_cons_zero, List.set_cons_succ]
      refine wpAnyH_takeD (i := 12) (v := .string (((((⟨#[98, 97, 110, 32]⟩ ++ ⟨#[102, 105, 101, 108, 100]⟩) ++ ⟨#[32]⟩) ++ tt) ++ ⟨#[32]⟩) ++ a)) (some 19) rfl rfl (by kernel_rfl) (by kernel_rfl) (by kernel_rfl) (fun _ _ _ h => h) (Or.inl ⟨by rfl, by intro W _; go_simp <;> omega⟩) hS5 ?_
      simp only [Act.put, List.setIfInBounds_toArray, List.set_cons_zero, List.set_cons_succ]
      refine wpAnyH_takeD (i := 13) (v := .string (((((⟨#[98, 97, 110, 32]⟩ ++ ⟨#[102, 105, 101, 108, 100]⟩) ++ ⟨#[32]⟩) ++ tt) ++ ⟨#[32]⟩) ++ a)) (some 3) rfl rfl (by kernel_rfl) (by kernel_rfl) (by kernel_rfl) (fun _ _ _ h => h) (Or.inl ⟨by rfl, by intro W _; go_simp⟩) hS5 ?_
      simp only [Act.put, List.setIfInBounds_toArray, List.set_cons_zero, List.set_cons_succ]
      clear hS5
      refine wpAnyH_done (by kernel_rfl) ?_ _
      have cv1_0 : (w5).cell? ⟨qv1, 0, none⟩ = some (.int .i64 3) := (cell_of HBv1_5.out 0).trans rfl
      have cv1_2 : (w5).cell? ⟨qv1, 2, none⟩ = some (.string b) := (cell_of HBv1_5.out 2).trans rfl
      go_wp2_with fail
      go_ret
      exact ⟨_, rfl, fun _ => by rw [← HTT.out, numTextI_of HT.out.1]; first | rfl | (unfold banT banH; simp [bkW, banW, ByteArray.append_assoc]; done), fun h => absurd HOK.out h, hb5⟩

end Go.Proofs.YtlmenolcgaakeaaDoor

namespace Go.Proofs.YtlmenolcgaakeaaDoor
open Go.RowKit
open Go.Lib hiding intOf

/-- The word that strings.Index reads holds some int. -/
def LenOk (w : World) : Prop := ∃ m : Int, w.cell? ⟨1, 0, none⟩ = some (.int .i64 m)
theorem LenOk.lt {w : World} (h : LenOk w) : 1 < w.heap.size := by
  obtain ⟨m, hm⟩ := h
  exact World.block_lt_of_cell? w _ hm
theorem LenOk.below {B : Nat} {w w' : World} (h : LenOk w) (hb : Below B w w') (hB : 1 < B) : LenOk w' := by
  obtain ⟨m, hm⟩ := h
  exact ⟨m, by rw [hb.cell (p := ⟨1, 0, none⟩) hB]; exact hm⟩

/-- A reader: what is left to be read. -/
def Reader (w : World) (b : Nat) (left : ByteArray) : Prop := w.heap[b]? = some (.cells #[.string left] 52)
theorem Reader.cell {w : World} {b : Nat} {left : ByteArray} (h : Reader w b left) : w.cell? ⟨b, 0, none⟩ = some (.string left) := by
  unfold Reader at h
  simp [World.cell?, h]
theorem Reader.frozen {w : World} {b : Nat} {left : ByteArray} (h : Reader w b left) : w.frozen? ⟨b, 0, none⟩ = false := by
  unfold Reader at h
  simp [World.frozen?, h]
theorem Reader.put {w : World} {b : Nat} {left : ByteArray} (h : Reader w b left) (x : ByteArray) : Reader (w.setCell ⟨b, 0, none⟩ (.string x)) b x := by
  unfold Reader at h ⊢
  rw [heap_set _ _ _ _ _ _ _ h]
  rfl
/-- What a reader took: what is left, and nothing else has turned. -/
def Took (b : Nat) (left : ByteArray) (w w' : World) : Prop := Reader w' b left ∧ w.grownBy w' (some b)

set_option maxHeartbeats 400000 in
theorem upTo_any (b : Nat) (left sep : ByteArray) (w : World) (h : Reader w b left) (hl : left.size ≤ 4000000) (hm : LenOk w) :
    Calls Tryd.prog 42 #[.pointer (some ⟨b, 0, none⟩), .string sep] w fun e w' => e = .returned (.string (cutA left sep)) ∧ Took b (cutB left sep) w w' := by
  obtain ⟨m, hm⟩ := hm
  have hc := h.cell
  obtain ⟨x, hx⟩ : ∃ x, x = cutA left sep := ⟨_, rfl⟩
  obtain ⟨y, hy⟩ : ∃ y, y = cutB left sep := ⟨_, rfl⟩
  have HX : Hid ((⟨(Lib.cut left.data.toList sep.data.toList).1.toArray⟩ : ByteArray) = x) := hx.symm
  have HY : Hid ((⟨(Lib.cut left.data.toList sep.data.toList).2.1.toArray⟩ : ByteArray) = y) := hy.symm
  rw [← hx, ← hy]
  clear hx hy
  go_enter Tryd.func42, Tryd.ntmps42
  go_wp2_with fail
  refine (Tryd.strings_Cut left sep m _ (by omega) hm).mono ?_
  rintro e w1 ⟨rfl, k, rfl⟩
  rw [HX.out, HY.out]
  generalize (Lib.cut left.data.toList sep.data.toList).2.2 = t
  have h1 : Reader (w.drewN k) b left := h
  have hg : w.grownBy (w.drewN k) (some b) := ⟨rfl, rfl, rfl, Nat.le_refl _, fun _ _ _ => rfl⟩
  have hc1 := h1.cell
  have hf1 := h1.frozen
  have HT : Hid (Took b y w ((w.drewN k).setCell ⟨b, 0, none⟩ (.string y))) := ⟨h1.put y, grown_then hg (grown_set _ _ _ _)⟩
  clear hc h hm h1 hg
  go_wp2_with fail
  go_ret
  exact ⟨rfl, HT.out⟩

set_option maxHeartbeats 400000 in
theorem pass_any (b : Nat) (left word : ByteArray) (w : World) (h : Reader w b left) :
    Calls Tryd.prog 40 #[.pointer (some ⟨b, 0, none⟩), .string word] w fun e w' => e = .returned (.tuple #[]) ∧ Took b (trimP left word) w w' := by
  have hc := h.cell
  have hf := h.frozen
  have HT : Hid (Took b (trimP left word) w (w.setCell ⟨b, 0, none⟩ (.string (trimP left word)))) := ⟨h.put _, grown_set _ _ _ _⟩
  obtain ⟨y, hy⟩ : ∃ y, y = trimP left word := ⟨_, rfl⟩
  have HY : Hid ((⟨(Lib.trimPrefix left.data.toList word.data.toList).toArray⟩ : ByteArray) = y) := hy.symm
  rw [← hy] at HT ⊢
  clear hy h
  go_enter Tryd.func40, Tryd.ntmps40
  go_wp2_with fail
  refine (Tryd.strings_TrimPrefix left word _).mono ?_
  rintro e w1 ⟨rfl, rfl⟩
  rw [HY.out]
  go_wp2_with fail
  exact bodyPost_end (v := .tuple #[]) (by simp [results, Tryd.results40, go_sem]) rfl ⟨rfl, HT.out⟩

/-- A message that is being read: what is left, and the fields so far. -/
structure RdSt (w : World) (B b q : Nat) (T : TypeId) (bd : ByteArray) (tl : List Value) (fs : List (ByteArray × ByteArray)) (left : ByteArray) (fv : Value) (W : World) : Prop where
  rd : Reader W b left
  qc : W.heap[q]? = some (.cells ⟨fv :: .string bd :: tl⟩ T)
  own : W.ownsRow B 132 2 fv fs.length (flatF fs)
  low : Below B w W
/-- A message's block is no row of fields. -/
def TypeOk (T : TypeId) : Prop := T ≠ 132
theorem own_not {w : World} {base : Nat} {t : TypeId} {size : Nat} {v : Value} {n : Nat} {xs : List Value} {j : Nat} {cs : Array Value} {T : TypeId} {fr : Nat × Nat} (h : w.ownsRow base t size v n xs) (hT : T ≠ t) (hj : w.heap[j]? = some (.cells cs T fr)) : v.ownBlock ≠ some j := by
  intro e
  rcases h.2 with ⟨rfl, _⟩ | ⟨g, cap, cur, rfl, _, h1, _⟩
  · cases e
  · cases e
    rw [h1] at hj
    cases hj
    exact hT rfl
theorem owns_block_lt {w : World} {base : Nat} {t : TypeId} {size : Nat} {v : Value} {n : Nat} {xs : List Value} {j : Nat} (h : w.ownsRow base t size v n xs) (hj : v.ownBlock = some j) : base ≤ j ∧ j < w.heap.size := by
  rcases h.2 with ⟨rfl, _⟩ | ⟨g, cap, cur, rfl, h0, h1, _⟩
  · cases hj
  · cases hj
    exact ⟨h0, (Array.getElem?_eq_some_iff.1 h1).1⟩
theorem RdSt.bq {w : World} {B b q : Nat} {T : TypeId} {bd : ByteArray} {tl : List Value} {fs : List (ByteArray × ByteArray)} {left : ByteArray} {fv : Value} {W : World} (h : RdSt w B b q T bd tl fs left fv W) : q ≠ b := by
  intro e
  subst e
  have := h.rd
  unfold Reader at this
  rw [h.qc] at this
  cases this
/-- The reader took a piece: all else stands. -/
theorem RdSt.took {w : World} {B b q : Nat} {T : TypeId} {bd : ByteArray} {tl : List Value} {fs : List (ByteArray × ByteArray)} {left left' : ByteArray} {fv : Value} {W W' : World} (h : RdSt w B b q T bd tl fs left fv W) (hB : B ≤ W.heap.size) (hb : B ≤ b) (ht : Took b left' W W') : RdSt w B b q T bd tl fs left' fv W' := by
  have hq := h.bq
  have hqlt : q < W.heap.size := (Array.getElem?_eq_some_iff.1 h.qc).1
  refine ⟨ht.1, ?_, ?_, h.low.trans (below_grown ht.2 hB hb)⟩
  · rw [ht.2.block q hqlt (by simpa using hq)]; exact h.qc
  · refine owns_same h.own (fun j hj => ?_)
    have hlt := (owns_block_lt h.own hj).2
    refine ht.2.block j hlt ?_
    intro e
    cases e
    have := h.rd
    unfold Reader at this
    exact own_not h.own (by decide) this hj
/-- Memory was made: all stands. -/
theorem RdSt.below {w : World} {B b q : Nat} {T : TypeId} {bd : ByteArray} {tl : List Value} {fs : List (ByteArray × ByteArray)} {left : ByteArray} {fv : Value} {W W' : World} (h : RdSt w B b q T bd tl fs left fv W) (hB : B ≤ W.heap.size) (hb : Below W.heap.size W W') : RdSt w B b q T bd tl fs left fv W' := by
  have hqlt : q < W.heap.size := (Array.getElem?_eq_some_iff.1 h.qc).1
  have hblt : b < W.heap.size := (Array.getElem?_eq_some_iff.1 h.rd).1
  refine ⟨?_, ?_, ?_, h.low.trans (hb.mono hB)⟩
  · have := h.rd
    unfold Reader at this ⊢
    rw [hb.block b hblt]; exact this
  · rw [hb.block q hqlt]; exact h.qc
  · exact owns_same h.own (fun j hj => hb.block j (owns_block_lt h.own hj).2)
/-- A field more, appended and laid into the message. -/
theorem RdSt.more {w : World} {B b q : Nat} {T : TypeId} {bd : ByteArray} {tl : List Value} {fs : List (ByteArray × ByteArray)} {left nm vl : ByteArray} {fv : Value} {W W' : World} {v' : Value} {o : Obj} (h : RdSt w B b q T bd tl fs left fv W) (hT : TypeOk T) (hB : B ≤ W.heap.size) (hq : B ≤ q)
    (hg : (W.alloc o).grownBy W' fv.ownBlock) (hown : W'.ownsRow B 132 2 v' (fs.length + 1) (flatF fs ++ [.string nm, .string vl])) :
    (W'.heap[q]? = some (.cells ⟨fv :: .string bd :: tl⟩ T)) ∧ RdSt w B b q T bd tl (fs ++ [(nm, vl)]) left v' (W'.setCell ⟨q, 0, none⟩ v') := by
  have hqlt : q < W.heap.size := (Array.getElem?_eq_some_iff.1 h.qc).1
  have hblt : b < W.heap.size := (Array.getElem?_eq_some_iff.1 h.rd).1
  have hne := h.bq
  have k1 : W'.heap[q]? = some (.cells ⟨fv :: .string bd :: tl⟩ T) := by
    rw [hg.block q (by simp; omega) (fun e => own_not h.own hT h.qc e.symm), heap_alloc_old W _ hqlt]; exact h.qc
  have k2 : W'.heap[b]? = some (.cells #[.string left] 52) := by
    have hr := h.rd
    unfold Reader at hr
    rw [hg.block b (by simp; omega) (fun e => own_not h.own (by decide) hr e.symm), heap_alloc_old W _ hblt]; exact hr
  have hz : ∀ g, fv.ownBlock = some g → B ≤ g := fun g hg => (owns_block_lt h.own hg).1
  have low1 : Below B w W' := (h.low.alloc hB o).grown hg (by simp; omega) hz
  refine ⟨k1, ⟨?_, ?_, ?_, low1.setCell (p := ⟨q, 0, none⟩) hq _⟩⟩
  · show _ = _
    rw [heap_setCell_other _ _ b _ (fun e => hne e.symm)]; exact k2
  · rw [heap_set _ _ _ _ _ _ _ k1]; rfl
  · rw [flatF_append, flatF_one, List.length_append]
    refine owns_same hown (fun j hj => ?_)
    rw [heap_setCell_other _ _ j _ (fun e => by
      subst e
      exact own_not hown hT k1 hj)]

end Go.Proofs.YtlmenolcgaakeaaDoor

namespace Go.Proofs.YtlmenolcgaakeaaDoor
open Go.RowKit
open Go.Lib hiding intOf

/-- Which kind a word names, the first of them. -/
def bkF (x : ByteArray) : Int := if bkW 1 = x then 1 else if bkW 2 = x then 2 else if bkW 3 = x then 3 else 0
theorem bkF_of {k : Int} (h : k = 1 ∨ k = 2 ∨ k = 3) : bkF (bkW k) = k := by
  rcases h with rfl | rfl | rfl <;> decide
theorem bkL1 : (bkW 1).toList = [112, 97, 116, 104] := by rw [ByteArray.toList_eq]; rfl
theorem bkL2 : (bkW 2).toList = [98, 101, 108, 111, 119] := by rw [ByteArray.toList_eq]; rfl
theorem bkL3 : (bkW 3).toList = [102, 105, 101, 108, 100] := by rw [ByteArray.toList_eq]; rfl
theorem lenReader {w : World} {b : Nat} {left : ByteArray} (h : Reader w b left) (hm : LenOk w) : 1 ≠ b := fun e => by
  obtain ⟨m, hm⟩ := hm
  have hc := h.cell
  rw [← e, hm] at hc
  cases hc
theorem lenGrown {w w' : World} {b : Nat} (h : LenOk w) (hg : w.grownBy w' (some b)) (hb : 1 ≠ b) : LenOk w' := by
  have hlt := h.lt
  obtain ⟨m, hm⟩ := h
  refine ⟨m, ?_⟩
  rw [← hm]
  unfold World.cell?
  rw [hg.block _ hlt (fun e => hb (Option.some.inj e))]
theorem index_out (c : UInt8) (t : List UInt8) : ∀ (pre : List UInt8), (∀ b ∈ pre, b ≠ c) → Lib.index pre (c :: t) = -1 := by
  intro pre
  induction pre with
  | nil => intro _; simp [Lib.index]
  | cons b r ih =>
    intro h
    have hb : b ≠ c := h b (by simp)
    rw [Lib.index, if_neg (by simp [List.isPrefixOf]; intro e; exact absurd e.symm hb), ih (fun x hx => h x (by simp [hx]))]
    simp
theorem cut_none {s sep : ByteArray} {c : UInt8} {t pre : List UInt8} (hs : bs s = pre) (hp : bs sep = c :: t) (h : ∀ b ∈ pre, b ≠ c) : bs (cutA s sep) = pre ∧ bs (cutB s sep) = [] := by
  rw [bs_cutA, bs_cutB, hs, hp]
  unfold Lib.cut
  rw [index_out c t pre h, if_neg (by omega)]
  exact ⟨rfl, rfl⟩
/-- What a right ban's text is read as, step by step. -/
theorem ban_steps {s : ByteArray} {k : Int} {a b : ByteArray} {t : Int} (h : IsBan s k a b t) {l1 x1 l2 x2 l3 x3 l4 : ByteArray} (h1 : l1 = trimP s ⟨#[98, 97, 110, 32]⟩) (h2 : x1 = cutA l1 ⟨#[32]⟩) (h3 : l2 = cutB l1 ⟨#[32]⟩) (h4 : x2 = cutA l2 ⟨#[32]⟩) (h5 : l3 = cutB l2 ⟨#[32]⟩) (h6 : x3 = cutA l3 ⟨#[10]⟩) (h7 : l4 = cutB l3 ⟨#[10]⟩) :
    bkF x1 = k ∧ NumOk x2 ∧ (valL x2.data.toList : Int) = t ∧ x3 = a ∧ l4 = b := by
  have ht := h.1.1
  have n1 := num_no t.toNat (by omega)
  have n2 := bk_no h.1.kinds
  have na := h.1.a_no
  have key : ∃ r, bs s = bs (⟨#[98, 97, 110, 32]⟩ : ByteArray) ++ (bs (bkW k) ++ ((32 :: []) ++ (numL t.toNat ++ ((32 :: []) ++ (bs a ++ r))))) ∧ ((k = 3 ∧ r = (10 :: []) ++ bs b) ∨ (r = [] ∧ b = ⟨#[]⟩)) := by
    rcases ban_cut h with ⟨e, e1⟩ | ⟨e, e1, e2⟩
    · refine ⟨(10 :: []) ++ bs b, ?_, .inl ⟨e, rfl⟩⟩
      rw [e1]; unfold banLine banL; simp [bs]
    · refine ⟨[], ?_, .inr ⟨rfl, e2⟩⟩
      rw [e1]; unfold banLine banL; simp [bs]
  obtain ⟨r, e0, hr⟩ := key
  have e1 := trim_of e0
  rw [← h1] at e1
  obtain ⟨e2, e3⟩ := cut_of (sep := ⟨#[32]⟩) e1 rfl (fun x hx => (n2 x hx).1)
  rw [← h2] at e2
  rw [← h3] at e3
  obtain ⟨e4, e5⟩ := cut_of (sep := ⟨#[32]⟩) e3 rfl (fun x hx => (n1 x hx).1)
  rw [← h4] at e4
  rw [← h5] at e5
  have e2' : x1 = bkW k := bs_inj e2
  have hnum : NumOk x2 ∧ valL x2.data.toList = t.toNat := ⟨by rw [show x2 = numText t.toNat from bs_inj (e4.trans (bs_num _).symm)]; exact num_ok _ (by omega), by show valL (bs x2) = _; rw [e4]; exact numL_val _ (by omega)⟩
  refine ⟨by rw [e2']; exact bkF_of h.1.kinds, hnum.1, by rw [hnum.2]; omega, ?_⟩
  rcases hr with ⟨_, rfl⟩ | ⟨rfl, rfl⟩
  · obtain ⟨e6, e7⟩ := cut_of (sep := ⟨#[10]⟩) e5 rfl (fun x hx => (na x hx).2)
    rw [← h6] at e6
    rw [← h7] at e7
    exact ⟨bs_inj e6, bs_inj e7⟩
  · rw [List.append_nil] at e5
    obtain ⟨e6, e7⟩ := cut_none (sep := ⟨#[10]⟩) e5 rfl (fun x hx => (na x hx).2)
    rw [← h6] at e6
    rw [← h7] at e7
    exact ⟨bs_inj e6, bs_inj e7⟩
set_option maxHeartbeats 8000000 in
set_option maxRecDepth 100000 in
theorem kindOf_any (x : ByteArray) (w : World) :
    Calls Tryd.prog 41 #[.string x] w fun e w' => e = .returned (.int .i64 (bkF x)) ∧ Below w.heap.size w w' := by
  obtain ⟨B, hB⟩ : ∃ B, B = bkF x := ⟨_, rfl⟩
  rw [← hB]
  have HB : Hid (B = bkF x) := hB
  clear hB
  go_enter Tryd.func41, Tryd.ntmps41
  go_wp2_with fail
  refine wp_loop_rounds 4 ?_
  rw [rounds_succ]
  go_wp2_with fail
  refine (kindName_1 _).mono ?_
  rintro e w1 ⟨rfl, bw⟩
  have HWw1 : Hid (Below w.heap.size w w1) := bw
  clear bw
  by_cases h1 : bkW 1 = x
  · have hq : (([112, 97, 116, 104] : List UInt8) == x.toList) = true := by rw [show ([112, 97, 116, 104] : List UInt8) = x.toList from bkL1.symm.trans (congrArg ByteArray.toList h1)]; simp
    have HY1 : Hid (bkW 1 = x) := h1
    clear h1
    go_wp2_with fail
    go_ret
    exact ⟨by rw [HB.out]; unfold bkF; rw [if_pos HY1.out]; rfl, HWw1.out⟩
  · have HN1 : Hid (¬ bkW 1 = x) := h1
    have hq : (([112, 97, 116, 104] : List UInt8) == x.toList) = false := by have h := text_beq_no h1; rwa [bkL1] at h
    clear h1
    go_wp2_with fail
    clear hq
    rw [rounds_succ]
    go_wp2_with fail
    refine (kindName_2 _).mono ?_
    rintro e w2 ⟨rfl, bw⟩
    have HWw2 : Hid (Below w.heap.size w w2) := HWw1.out.trans (bw.mono HWw1.out.size)
    clear bw
    by_cases h2 : bkW 2 = x
    · have hq : (([98, 101, 108, 111, 119] : List UInt8) == x.toList) = true := by rw [show ([98, 101, 108, 111, 119] : List UInt8) = x.toList from bkL2.symm.trans (congrArg ByteArray.toList h2)]; simp
      have HY2 : Hid (bkW 2 = x) := h2
      clear h2
      go_wp2_with fail
      go_ret
      exact ⟨by rw [HB.out]; unfold bkF; rw [if_neg HN1.out, if_pos HY2.out]; rfl, HWw2.out⟩
    · have HN2 : Hid (¬ bkW 2 = x) := h2
      have hq : (([98, 101, 108, 111, 119] : List UInt8) == x.toList) = false := by have h := text_beq_no h2; rwa [bkL2] at h
      clear h2
      go_wp2_with fail
      clear hq
      rw [rounds_succ]
      go_wp2_with fail
      refine (kindName_3 _).mono ?_
      rintro e w3 ⟨rfl, bw⟩
      have HWw3 : Hid (Below w.heap.size w w3) := HWw2.out.trans (bw.mono HWw2.out.size)
      clear bw
      by_cases h3 : bkW 3 = x
      · have hq : (([102, 105, 101, 108, 100] : List UInt8) == x.toList) = true := by rw [show ([102, 105, 101, 108, 100] : List UInt8) = x.toList from bkL3.symm.trans (congrArg ByteArray.toList h3)]; simp
        have HY3 : Hid (bkW 3 = x) := h3
        clear h3
        go_wp2_with fail
        go_ret
        exact ⟨by rw [HB.out]; unfold bkF; rw [if_neg HN1.out, if_neg HN2.out, if_pos HY3.out]; rfl, HWw3.out⟩
      · have HN3 : Hid (¬ bkW 3 = x) := h3
        have hq : (([102, 105, 101, 108, 100] : List UInt8) == x.toList) = false := by have h := text_beq_no h3; rwa [bkL3] at h
        clear h3
        go_wp2_with fail
        clear hq
        rw [rounds_succ]
        go_wp2_with fail
        go_ret
        exact ⟨by rw [HB.out]; unfold bkF; rw [if_neg HN1.out, if_neg HN2.out, if_neg HN3.out]; rfl, HWw3.out⟩

/-- What is read of a text: a ban, the text's own where it is a ban's. -/
def BanGot (s : ByteArray) (c : Nat) (w : World) (e : Ending) (w' : World) : Prop :=
  ∃ (k' : Int) (a' b' : ByteArray) (t' : Int), e = .returned (.agg #[.int .i64 k', .string a', .string b', .int .i64 t']) ∧ (a'.size ≤ 3000000 ∧ b'.size ≤ 3000000) ∧ (∀ k a b t, IsBan s k a b t → k' = k ∧ a' = a ∧ b' = b ∧ t' = t) ∧ w.grownBy w' (some c)
set_option maxHeartbeats 8000000 in
set_option maxRecDepth 100000 in
theorem readBan_any (c : Nat) (s : ByteArray) (w : World) (h : Reader w c s) (hs : s.size ≤ 3000000) (hLN : LenOk w) :
    Calls Tryd.prog 26 #[.pointer (some ⟨c, 0, none⟩)] w fun e w' => BanGot s c w e w' := by
  have HBR_0 : Hid (w.heap[c]? = some (.cells #[.string s] 52)) := h
  have HZs : Hid (s.size ≤ 3000000) := hs
  have HLB : Hid (∀ W, w.grownBy W (some c) → LenOk W) := fun W hg => lenGrown hLN hg (lenReader h hLN)
  clear h hs hLN
  have hb0 : w.grownBy w (some c) := World.grownBy.refl _ _
  go_enter Tryd.func26, Tryd.ntmps26
  go_upto_region 1 with fail
  obtain ⟨qv1, hqv1⟩ : ∃ q, q = (w).heap.size := ⟨_, rfl⟩
  obtain ⟨w1, hW1⟩ : ∃ W, W = (w).alloc (.cells #[.int .i64 0, .string ⟨#[]⟩, .string ⟨#[]⟩, .int .i64 0] 25) := ⟨_, rfl⟩
  have hz1 : (w).heap.size = qv1 := hqv1.symm
  first | rw [← hW1, ← hqv1] | rw [← hW1]
  have hs1 : w1.heap.size = qv1 + 1 := by rw [hW1, ← hz1]; simp
  have bw : Below (w).heap.size (w) w1 := by rw [hW1]; exact (Below.refl _ _).alloc (Nat.le_refl _) _
  have hb1 : w.grownBy w1 (some c) := grown_then hb0 (grown_below bw _)
  have HM1 : Hid ((w).heap.size ≤ (w1).heap.size) := bw.size
  have HBR_1 : Hid ((w1).heap[c]? = some (.cells #[.string s] 52)) := blk_below HBR_0.out bw
  have HNRv1 : Hid (c ≠ qv1) := fun e => by have h1 := (Array.getElem?_eq_some_iff.1 HBR_0.out).1; omega
  have HBv1_1 : Hid ((w1).heap[qv1]? = some (.cells #[.int .i64 0, .string ⟨#[]⟩, .string ⟨#[]⟩, .int .i64 0] 25)) := by show _ = _; rw [hW1, ← hz1]; exact heap_alloc_new _ _
  have HGv1 : Hid (w.heap.size ≤ qv1) := by show _ ≤ _; rw [← hz1]; exact hb0.size
  clear hb0 HBR_0 bw hW1 hz1
  clear hs1 hqv1
  go_wp2_with fail
  refine (pass_any c s ⟨#[98, 97, 110, 32]⟩ _ HBR_1.out).mono ?_
  rintro e w2 ⟨rfl, hrd, hg⟩
  obtain ⟨l1, hl1⟩ : ∃ x, x = trimP s ⟨#[98, 97, 110, 32]⟩ := ⟨_, rfl⟩
  rw [← hl1] at hrd
  have HL1 : Hid (l1 = trimP s ⟨#[98, 97, 110, 32]⟩) := hl1
  have HZl1 : Hid (l1.size ≤ 3000000) := by show _ ≤ _; rw [hl1]; exact Nat.le_trans (trimP_size _ _) HZs.out
  clear hl1
  have hb2 : w.grownBy w2 (some c) := grown_then hb1 hg
  have HM2 : Hid ((w1).heap.size ≤ (w2).heap.size) := hg.size
  have HBv1_2 : Hid ((w2).heap[qv1]? = some (.cells #[.int .i64 0, .string ⟨#[]⟩, .string ⟨#[]⟩, .int .i64 0] 25)) := (hg.block _ (Array.getElem?_eq_some_iff.1 HBv1_1.out).1 (fun e => HNRv1.out.symm (Option.some.inj e))).trans HBv1_1.out
  have HBR_2 : Hid ((w2).heap[c]? = some (.cells #[.string l1] 52)) := hrd
  clear hb1 HBR_1 HBv1_1 hg hrd
  go_wp2_with fail
  refine (upTo_any c l1 ⟨#[32]⟩ _ HBR_2.out (by have := HZl1.out; omega) (HLB.out _ hb2)).mono ?_
  rintro e w3 ⟨rfl, hrd, hg⟩
  obtain ⟨l2, hl2⟩ : ∃ x, x = cutB l1 ⟨#[32]⟩ := ⟨_, rfl⟩
  obtain ⟨x1, hx1⟩ : ∃ x, x = cutA l1 ⟨#[32]⟩ := ⟨_, rfl⟩
  rw [← hl2] at hrd
  rw [← hx1]
  have HL2 : Hid (l2 = cutB l1 ⟨#[32]⟩) := hl2
  have HX1 : Hid (x1 = cutA l1 ⟨#[32]⟩) := hx1
  have HZl2 : Hid (l2.size ≤ 3000000) := by show _ ≤ _; rw [hl2]; exact Nat.le_trans (cutB_size _ _) HZl1.out
  have HZx1 : Hid (x1.size ≤ 3000000) := by show _ ≤ _; rw [hx1]; exact Nat.le_trans (cutA_size _ _) HZl1.out
  clear hl2 hx1
  have hb3 : w.grownBy w3 (some c) := grown_then hb2 hg
  have HM3 : Hid ((w2).heap.size ≤ (w3).heap.size) := hg.size
  have HBv1_3 : Hid ((w3).heap[qv1]? = some (.cells #[.int .i64 0, .string ⟨#[]⟩, .string ⟨#[]⟩, .int .i64 0] 25)) := (hg.block _ (Array.getElem?_eq_some_iff.1 HBv1_2.out).1 (fun e => HNRv1.out.symm (Option.some.inj e))).trans HBv1_2.out
  have HBR_3 : Hid ((w3).heap[c]? = some (.cells #[.string l2] 52)) := hrd
  clear hb2 HBR_2 HBv1_2 hg hrd
  go_wp2_with fail
  refine (kindOf_any x1 _).mono ?_
  rintro e w4 ⟨rfl, bw⟩
  obtain ⟨kk, hkk⟩ : ∃ y, y = bkF x1 := ⟨_, rfl⟩
  rw [← hkk]
  have HKK : Hid (kk = bkF x1) := hkk
  clear hkk
  have hb4 : w.grownBy w4 (some c) := grown_then hb3 (grown_below bw _)
  have HM4 : Hid ((w3).heap.size ≤ (w4).heap.size) := bw.size
  have HBR_4 : Hid ((w4).heap[c]? = some (.cells #[.string l2] 52)) := blk_below HBR_3.out bw
  have HBv1_4 : Hid ((w4).heap[qv1]? = some (.cells #[.int .i64 0, .string ⟨#[]⟩, .string ⟨#[]⟩, .int .i64 0] 25)) := blk_below HBv1_3.out bw
  clear hb3 HBR_3 HBv1_3 bw
  go_upto_region 3 with fail
  obtain ⟨qv2, hqv2⟩ : ∃ q, q = (w4).heap.size := ⟨_, rfl⟩
  obtain ⟨w5, hW5⟩ : ∃ W, W = (w4).alloc (.cells #[.int .i64 kk, .string ⟨#[]⟩, .string ⟨#[]⟩, .int .i64 0] 25) := ⟨_, rfl⟩
  have hz5 : (w4).heap.size = qv2 := hqv2.symm
  first | rw [← hW5, ← hqv2] | rw [← hW5]
  have hs5 : w5.heap.size = qv2 + 1 := by rw [hW5, ← hz5]; simp
  have bw : Below (w4).heap.size (w4) w5 := by rw [hW5]; exact (Below.refl _ _).alloc (Nat.le_refl _) _
  have hb5 : w.grownBy w5 (some c) := grown_then hb4 (grown_below bw _)
  have HM5 : Hid ((w4).heap.size ≤ (w5).heap.size) := bw.size
  have HBR_5 : Hid ((w5).heap[c]? = some (.cells #[.string l2] 52)) := blk_below HBR_4.out bw
  have HBv1_5 : Hid ((w5).heap[qv1]? = some (.cells #[.int .i64 0, .string ⟨#[]⟩, .string ⟨#[]⟩, .int .i64 0] 25)) := blk_below HBv1_4.out bw
  have HNRv2 : Hid (c ≠ qv2) := fun e => by have h1 := (Array.getElem?_eq_some_iff.1 HBR_4.out).1; omega
  have HNv1v2 : Hid (qv1 ≠ qv2) := fun e => by have h1 := (Array.getElem?_eq_some_iff.1 HBv1_4.out).1; omega
  have HBv2_5 : Hid ((w5).heap[qv2]? = some (.cells #[.int .i64 kk, .string ⟨#[]⟩, .string ⟨#[]⟩, .int .i64 0] 25)) := by show _ = _; rw [hW5, ← hz5]; exact heap_alloc_new _ _
  have HGv2 : Hid (w.heap.size ≤ qv2) := by show _ ≤ _; rw [← hz5]; exact hb4.size
  clear hb4 HBR_4 HBv1_4 bw hW5 hz5
  clear hs5 hqv2
  go_wp2_with fail
  refine (upTo_any c l2 ⟨#[32]⟩ _ HBR_5.out (by have := HZl2.out; omega) (HLB.out _ hb5)).mono ?_
  rintro e w6 ⟨rfl, hrd, hg⟩
  obtain ⟨l3, hl3⟩ : ∃ x, x = cutB l2 ⟨#[32]⟩ := ⟨_, rfl⟩
  obtain ⟨x2, hx2⟩ : ∃ x, x = cutA l2 ⟨#[32]⟩ := ⟨_, rfl⟩
  rw [← hl3] at hrd
  rw [← hx2]
  have HL3 : Hid (l3 = cutB l2 ⟨#[32]⟩) := hl3
  have HX2 : Hid (x2 = cutA l2 ⟨#[32]⟩) := hx2
  have HZl3 : Hid (l3.size ≤ 3000000) := by show _ ≤ _; rw [hl3]; exact Nat.le_trans (cutB_size _ _) HZl2.out
  have HZx2 : Hid (x2.size ≤ 3000000) := by show _ ≤ _; rw [hx2]; exact Nat.le_trans (cutA_size _ _) HZl2.out
  clear hl3 hx2
  have hb6 : w.grownBy w6 (some c) := grown_then hb5 hg
  have HM6 : Hid ((w5).heap.size ≤ (w6).heap.size) := hg.size
  have HBv1_6 : Hid ((w6).heap[qv1]? = some (.cells #[.int .i64 0, .string ⟨#[]⟩, .string ⟨#[]⟩, .int .i64 0] 25)) := (hg.block _ (Array.getElem?_eq_some_iff.1 HBv1_5.out).1 (fun e => HNRv1.out.symm (Option.some.inj e))).trans HBv1_5.out
  have HBv2_6 : Hid ((w6).heap[qv2]? = some (.cells #[.int .i64 kk, .string ⟨#[]⟩, .string ⟨#[]⟩, .int .i64 0] 25)) := (hg.block _ (Array.getElem?_eq_some_iff.1 HBv2_5.out).1 (fun e => HNRv2.out.symm (Option.some.inj e))).trans HBv2_5.out
  have HBR_6 : Hid ((w6).heap[c]? = some (.cells #[.string l3] 52)) := hrd
  clear hb5 HBR_5 HBv1_5 HBv2_5 hg hrd
  go_wp2_with fail
  refine (implNumRead_any x2 _ (by have := HZx2.out; unfold maxLen; omega)).mono ?_
  rintro e w7 ⟨bo, tt, rfl, hn1, hn2, hn3, bw⟩
  have HTV : Hid (NumOk x2 → tt = valL x2.data.toList) := fun h => hn2 (hn1.2 h)
  clear hn1 hn2 hn3
  have hb7 : w.grownBy w7 (some c) := grown_then hb6 (grown_below bw _)
  have HM7 : Hid ((w6).heap.size ≤ (w7).heap.size) := bw.size
  have HBR_7 : Hid ((w7).heap[c]? = some (.cells #[.string l3] 52)) := blk_below HBR_6.out bw
  have HBv1_7 : Hid ((w7).heap[qv1]? = some (.cells #[.int .i64 0, .string ⟨#[]⟩, .string ⟨#[]⟩, .int .i64 0] 25)) := blk_below HBv1_6.out bw
  have HBv2_7 : Hid ((w7).heap[qv2]? = some (.cells #[.int .i64 kk, .string ⟨#[]⟩, .string ⟨#[]⟩, .int .i64 0] 25)) := blk_below HBv2_6.out bw
  clear hb6 HBR_6 HBv1_6 HBv2_6 bw
  have cv2_3 : (w7).cell? ⟨qv2, 3, none⟩ = some (.int .i64 0) := (cell_of HBv2_7.out 3).trans rfl
  have fcv2_3 : (w7).frozen? ⟨qv2, 3, none⟩ = false := frozen_of HBv2_7.out 3
  go_upto_region 4 with fail
  obtain ⟨w8, hW8⟩ : ∃ W, W = (w7).setCell ⟨qv2, 3, none⟩ (.int .i64 tt) := ⟨_, rfl⟩
  rw [← hW8]
  have hb8 : w.grownBy w8 (some c) := by rw [hW8]; exact (grown_own hb7 HGv2.out 3 _)
  have HM8 : Hid ((w7).heap.size ≤ w8.heap.size) := by show _ ≤ _; rw [hW8]; simp
  have HBR_8 : Hid ((w8).heap[c]? = some (.cells #[.string l3] 52)) := by show _ = _; rw [hW8, heap_setCell_other _ _ _ _ HNRv2.out]; exact HBR_7.out
  have HBv1_8 : Hid ((w8).heap[qv1]? = some (.cells #[.int .i64 0, .string ⟨#[]⟩, .string ⟨#[]⟩, .int .i64 0] 25)) := by show _ = _; rw [hW8, heap_setCell_other _ _ _ _ HNv1v2.out]; exact HBv1_7.out
  have HBv2_8 : Hid ((w8).heap[qv2]? = some (.cells #[.int .i64 kk, .string ⟨#[]⟩, .string ⟨#[]⟩, .int .i64 tt] 25)) := by show _ = _; rw [hW8]; have h := heap_set _ _ 3 _ _ _ (.int .i64 tt) HBv2_7.out; simpa using h
  clear hb7 HBR_7 HBv1_7 HBv2_7 hW8
  clear cv2_3 fcv2_3
  go_wp2_with fail
  refine (upTo_any c l3 ⟨#[10]⟩ _ HBR_8.out (by have := HZl3.out; omega) (HLB.out _ hb8)).mono ?_
  rintro e w9 ⟨rfl, hrd, hg⟩
  obtain ⟨l4, hl4⟩ : ∃ x, x = cutB l3 ⟨#[10]⟩ := ⟨_, rfl⟩
  obtain ⟨x3, hx3⟩ : ∃ x, x = cutA l3 ⟨#[10]⟩ := ⟨_, rfl⟩
  rw [← hl4] at hrd
  rw [← hx3]
  have HL4 : Hid (l4 = cutB l3 ⟨#[10]⟩) := hl4
  have HX3 : Hid (x3 = cutA l3 ⟨#[10]⟩) := hx3
  have HZl4 : Hid (l4.size ≤ 3000000) := by show _ ≤ _; rw [hl4]; exact Nat.le_trans (cutB_size _ _) HZl3.out
  have HZx3 : Hid (x3.size ≤ 3000000) := by show _ ≤ _; rw [hx3]; exact Nat.le_trans (cutA_size _ _) HZl3.out
  clear hl4 hx3
  have hb9 : w.grownBy w9 (some c) := grown_then hb8 hg
  have HM9 : Hid ((w8).heap.size ≤ (w9).heap.size) := hg.size
  have HBv1_9 : Hid ((w9).heap[qv1]? = some (.cells #[.int .i64 0, .string ⟨#[]⟩, .string ⟨#[]⟩, .int .i64 0] 25)) := (hg.block _ (Array.getElem?_eq_some_iff.1 HBv1_8.out).1 (fun e => HNRv1.out.symm (Option.some.inj e))).trans HBv1_8.out
  have HBv2_9 : Hid ((w9).heap[qv2]? = some (.cells #[.int .i64 kk, .string ⟨#[]⟩, .string ⟨#[]⟩, .int .i64 tt] 25)) := (hg.block _ (Array.getElem?_eq_some_iff.1 HBv2_8.out).1 (fun e => HNRv2.out.symm (Option.some.inj e))).trans HBv2_8.out
  have HBR_9 : Hid ((w9).heap[c]? = some (.cells #[.string l4] 52)) := hrd
  clear hb8 HBR_8 HBv1_8 HBv2_8 hg hrd
  go_wp2_with fail
  refine (clone_any x3 _ (by have := HZx3.out; omega)).mono ?_
  rintro e w10 ⟨rfl, bw⟩
  have hb10 : w.grownBy w10 (some c) := grown_then hb9 (grown_below bw _)
  have HM10 : Hid ((w9).heap.size ≤ (w10).heap.size) := bw.size
  have HBR_10 : Hid ((w10).heap[c]? = some (.cells #[.string l4] 52)) := blk_below HBR_9.out bw
  have HBv1_10 : Hid ((w10).heap[qv1]? = some (.cells #[.int .i64 0, .string ⟨#[]⟩, .string ⟨#[]⟩, .int .i64 0] 25)) := blk_below HBv1_9.out bw
  have HBv2_10 : Hid ((w10).heap[qv2]? = some (.cells #[.int .i64 kk, .string ⟨#[]⟩, .string ⟨#[]⟩, .int .i64 tt] 25)) := blk_below HBv2_9.out bw
  clear hb9 HBR_9 HBv1_9 HBv2_9 bw
  have cv2_1 : (w10).cell? ⟨qv2, 1, none⟩ = some (.string ⟨#[]⟩) := (cell_of HBv2_10.out 1).trans rfl
  have fcv2_1 : (w10).frozen? ⟨qv2, 1, none⟩ = false := frozen_of HBv2_10.out 1
  go_upto_region 5 with fail
  obtain ⟨w11, hW11⟩ : ∃ W, W = (w10).setCell ⟨qv2, 1, none⟩ (.string x3) := ⟨_, rfl⟩
  rw [← hW11]
  have hb11 : w.grownBy w11 (some c) := by rw [hW11]; exact (grown_own hb10 HGv2.out 1 _)
  have HM11 : Hid ((w10).heap.size ≤ w11.heap.size) := by show _ ≤ _; rw [hW11]; simp
  have HBR_11 : Hid ((w11).heap[c]? = some (.cells #[.string l4] 52)) := by show _ = _; rw [hW11, heap_setCell_other _ _ _ _ HNRv2.out]; exact HBR_10.out
  have HBv1_11 : Hid ((w11).heap[qv1]? = some (.cells #[.int .i64 0, .string ⟨#[]⟩, .string ⟨#[]⟩, .int .i64 0] 25)) := by show _ = _; rw [hW11, heap_setCell_other _ _ _ _ HNv1v2.out]; exact HBv1_10.out
  have HBv2_11 : Hid ((w11).heap[qv2]? = some (.cells #[.int .i64 kk, .string x3, .string ⟨#[]⟩, .int .i64 tt] 25)) := by show _ = _; rw [hW11]; have h := heap_set _ _ 1 _ _ _ (.string x3) HBv2_10.out; simpa using h
  clear hb10 HBR_10 HBv1_10 HBv2_10 hW11
  clear cv2_1 fcv2_1
  have cR_0 : (w11).cell? ⟨c, 0, none⟩ = some (.string l4) := (cell_of HBR_11.out 0).trans rfl
  go_wp2_with fail
  refine (clone_any l4 _ (by have := HZl4.out; omega)).mono ?_
  rintro e w12 ⟨rfl, bw⟩
  have hb12 : w.grownBy w12 (some c) := grown_then hb11 (grown_below bw _)
  have HM12 : Hid ((w11).heap.size ≤ (w12).heap.size) := bw.size
  have HBR_12 : Hid ((w12).heap[c]? = some (.cells #[.string l4] 52)) := blk_below HBR_11.out bw
  have HBv1_12 : Hid ((w12).heap[qv1]? = some (.cells #[.int .i64 0, .string ⟨#[]⟩, .string ⟨#[]⟩, .int .i64 0] 25)) := blk_below HBv1_11.out bw
  have HBv2_12 : Hid ((w12).heap[qv2]? = some (.cells #[.int .i64 kk, .string x3, .string ⟨#[]⟩, .int .i64 tt] 25)) := blk_below HBv2_11.out bw
  clear hb11 HBR_11 HBv1_11 HBv2_11 bw
  clear cR_0
  have cv2_2 : (w12).cell? ⟨qv2, 2, none⟩ = some (.string ⟨#[]⟩) := (cell_of HBv2_12.out 2).trans rfl
  have fcv2_2 : (w12).frozen? ⟨qv2, 2, none⟩ = false := frozen_of HBv2_12.out 2
  go_upto_region 6 with fail
  obtain ⟨w13, hW13⟩ : ∃ W, W = (w12).setCell ⟨qv2, 2, none⟩ (.string l4) := ⟨_, rfl⟩
  rw [← hW13]
  have hb13 : w.grownBy w13 (some c) := by rw [hW13]; exact (grown_own hb12 HGv2.out 2 _)
  have HM13 : Hid ((w12).heap.size ≤ w13.heap.size) := by show _ ≤ _; rw [hW13]; simp
  have HBR_13 : Hid ((w13).heap[c]? = some (.cells #[.string l4] 52)) := by show _ = _; rw [hW13, heap_setCell_other _ _ _ _ HNRv2.out]; exact HBR_12.out
  have HBv1_13 : Hid ((w13).heap[qv1]? = some (.cells #[.int .i64 0, .string ⟨#[]⟩, .string ⟨#[]⟩, .int .i64 0] 25)) := by show _ = _; rw [hW13, heap_setCell_other _ _ _ _ HNv1v2.out]; exact HBv1_12.out
  have HBv2_13 : Hid ((w13).heap[qv2]? = some (.cells #[.int .i64 kk, .string x3, .string l4, .int .i64 tt] 25)) := by show _ = _; rw [hW13]; have h := heap_set _ _ 2 _ _ _ (.string l4) HBv2_12.out; simpa using h
  clear hb12 HBR_12 HBv1_12 HBv2_12 hW13
  clear cv2_2 fcv2_2
  have cv1_0 : (w13).cell? ⟨qv1, 0, none⟩ = some (.int .i64 0) := (cell_of HBv1_13.out 0).trans rfl
  have fcv1_0 : (w13).frozen? ⟨qv1, 0, none⟩ = false := frozen_of HBv1_13.out 0
  have cv1_1 : (w13).cell? ⟨qv1, 1, none⟩ = some (.string ⟨#[]⟩) := (cell_of HBv1_13.out 1).trans rfl
  have fcv1_1 : (w13).frozen? ⟨qv1, 1, none⟩ = false := frozen_of HBv1_13.out 1
  have cv1_2 : (w13).cell? ⟨qv1, 2, none⟩ = some (.string ⟨#[]⟩) := (cell_of HBv1_13.out 2).trans rfl
  have fcv1_2 : (w13).frozen? ⟨qv1, 2, none⟩ = false := frozen_of HBv1_13.out 2
  have cv1_3 : (w13).cell? ⟨qv1, 3, none⟩ = some (.int .i64 0) := (cell_of HBv1_13.out 3).trans rfl
  have fcv1_3 : (w13).frozen? ⟨qv1, 3, none⟩ = false := frozen_of HBv1_13.out 3
  have cv2_0 : (w13).cell? ⟨qv2, 0, none⟩ = some (.int .i64 kk) := (cell_of HBv2_13.out 0).trans rfl
  have cv2_1 : (w13).cell? ⟨qv2, 1, none⟩ = some (.string x3) := (cell_of HBv2_13.out 1).trans rfl
  have cv2_2 : (w13).cell? ⟨qv2, 2, none⟩ = some (.string l4) := (cell_of HBv2_13.out 2).trans rfl
  have cv2_3 : (w13).cell? ⟨qv2, 3, none⟩ = some (.int .i64 tt) := (cell_of HBv2_13.out 3).trans rfl
  go_wp2_with fail
  obtain ⟨w14, hW14⟩ : ∃ W, W = (w13).setCell ⟨qv1, 0, none⟩ (.int .i64 kk) := ⟨_, rfl⟩
  rw [← hW14]
  have hb14 : w.grownBy w14 (some c) := by rw [hW14]; exact (grown_own hb13 HGv1.out 0 _)
  have HM14 : Hid ((w13).heap.size ≤ w14.heap.size) := by show _ ≤ _; rw [hW14]; simp
  have HBR_14 : Hid ((w14).heap[c]? = some (.cells #[.string l4] 52)) := by show _ = _; rw [hW14, heap_setCell_other _ _ _ _ HNRv1.out]; exact HBR_13.out
  have HBv2_14 : Hid ((w14).heap[qv2]? = some (.cells #[.int .i64 kk, .string x3, .string l4, .int .i64 tt] 25)) := by show _ = _; rw [hW14, heap_setCell_other _ _ _ _ HNv1v2.out.symm]; exact HBv2_13.out
  have HBv1_14 : Hid ((w14).heap[qv1]? = some (.cells #[.int .i64 kk, .string ⟨#[]⟩, .string ⟨#[]⟩, .int .i64 0] 25)) := by show _ = _; rw [hW14]; have h := heap_set _ _ 0 _ _ _ (.int .i64 kk) HBv1_13.out; simpa using h
  clear hb13 HBR_13 HBv1_13 HBv2_13 hW14
  obtain ⟨w15, hW15⟩ : ∃ W, W = (w14).setCell ⟨qv1, 1, none⟩ (.string x3) := ⟨_, rfl⟩
  rw [← hW15]
  have hb15 : w.grownBy w15 (some c) := by rw [hW15]; exact (grown_own hb14 HGv1.out 1 _)
  have HM15 : Hid ((w14).heap.size ≤ w15.heap.size) := by show _ ≤ _; rw [hW15]; simp
  have HBR_15 : Hid ((w15).heap[c]? = some (.cells #[.string l4] 52)) := by show _ = _; rw [hW15, heap_setCell_other _ _ _ _ HNRv1.out]; exact HBR_14.out
  have HBv2_15 : Hid ((w15).heap[qv2]? = some (.cells #[.int .i64 kk, .string x3, .string l4, .int .i64 tt] 25)) := by show _ = _; rw [hW15, heap_setCell_other _ _ _ _ HNv1v2.out.symm]; exact HBv2_14.out
  have HBv1_15 : Hid ((w15).heap[qv1]? = some (.cells #[.int .i64 kk, .string x3, .string ⟨#[]⟩, .int .i64 0] 25)) := by show _ = _; rw [hW15]; have h := heap_set _ _ 1 _ _ _ (.string x3) HBv1_14.out; simpa using h
  clear hb14 HBR_14 HBv1_14 HBv2_14 hW15
  obtain ⟨w16, hW16⟩ : ∃ W, W = (w15).setCell ⟨qv1, 2, none⟩ (.string l4) := ⟨_, rfl⟩
  rw [← hW16]
  have hb16 : w.grownBy w16 (some c) := by rw [hW16]; exact (grown_own hb15 HGv1.out 2 _)
  have HM16 : Hid ((w15).heap.size ≤ w16.heap.size) := by show _ ≤ _; rw [hW16]; simp
  have HBR_16 : Hid ((w16).heap[c]? = some (.cells #[.string l4] 52)) := by show _ = _; rw [hW16, heap_setCell_other _ _ _ _ HNRv1.out]; exact HBR_15.out
  have HBv2_16 : Hid ((w16).heap[qv2]? = some (.cells #[.int .i64 kk, .string x3, .string l4, .int .i64 tt] 25)) := by show _ = _; rw [hW16, heap_setCell_other _ _ _ _ HNv1v2.out.symm]; exact HBv2_15.out
  have HBv1_16 : Hid ((w16).heap[qv1]? = some (.cells #[.int .i64 kk, .string x3, .string l4, .int .i64 0] 25)) := by show _ = _; rw [hW16]; have h := heap_set _ _ 2 _ _ _ (.string l4) HBv1_15.out; simpa using h
  clear hb15 HBR_15 HBv1_15 HBv2_15 hW16
  obtain ⟨w17, hW17⟩ : ∃ W, W = (w16).setCell ⟨qv1, 3, none⟩ (.int .i64 tt) := ⟨_, rfl⟩
  rw [← hW17]
  have hb17 : w.grownBy w17 (some c) := by rw [hW17]; exact (grown_own hb16 HGv1.out 3 _)
  have HM17 : Hid ((w16).heap.size ≤ w17.heap.size) := by show _ ≤ _; rw [hW17]; simp
  have HBR_17 : Hid ((w17).heap[c]? = some (.cells #[.string l4] 52)) := by show _ = _; rw [hW17, heap_setCell_other _ _ _ _ HNRv1.out]; exact HBR_16.out
  have HBv2_17 : Hid ((w17).heap[qv2]? = some (.cells #[.int .i64 kk, .string x3, .string l4, .int .i64 tt] 25)) := by show _ = _; rw [hW17, heap_setCell_other _ _ _ _ HNv1v2.out.symm]; exact HBv2_16.out
  have HBv1_17 : Hid ((w17).heap[qv1]? = some (.cells #[.int .i64 kk, .string x3, .string l4, .int .i64 tt] 25)) := by show _ = _; rw [hW17]; have h := heap_set _ _ 3 _ _ _ (.int .i64 tt) HBv1_16.out; simpa using h
  clear hb16 HBR_16 HBv1_16 HBv2_16 hW17
  have kv1_0 : (w17).cell? ⟨qv1, 0, none⟩ = some (.int .i64 kk) := (cell_of HBv1_17.out 0).trans rfl
  have kv1_1 : (w17).cell? ⟨qv1, 1, none⟩ = some (.string x3) := (cell_of HBv1_17.out 1).trans rfl
  have kv1_2 : (w17).cell? ⟨qv1, 2, none⟩ = some (.string l4) := (cell_of HBv1_17.out 2).trans rfl
  have kv1_3 : (w17).cell? ⟨qv1, 3, none⟩ = some (.int .i64 tt) := (cell_of HBv1_17.out 3).trans rfl
  refine bodyPost_ret (v := .agg #[.int .i64 kk, .string x3, .string l4, .int .i64 tt]) (by simp [results, Tryd.results26, go_sem, kv1_0, kv1_1, kv1_2, kv1_3]) rfl ?_
  refine ⟨kk, x3, l4, tt, rfl, ⟨HZx3.out, HZl4.out⟩, fun k a b t h => ?_, hb17⟩
  obtain ⟨q1, q2, q3, q4, q5⟩ := ban_steps h HL1.out HX1.out HL2.out HX2.out HL3.out HX3.out HL4.out
  exact ⟨HKK.out.trans q1, q4, q5, (HTV.out q2).trans q3⟩

set_option maxHeartbeats 8000000 in
set_option maxRecDepth 100000 in
theorem implBanRead_any (s : ByteArray) (w : World) (hs : s.size ≤ 3000000) (hT : TabOk w) (hLN : LenOk w) :
    Calls Tryd.prog 11 #[.string s] w fun e w' => BanIs s w e w' := by
  have HZs : Hid (s.size ≤ 3000000) := hs
  have HTB : Hid (∀ W, Below w.heap.size w W → TabOk W) := fun W h => hT.below h
  have HLB : Hid (∀ W, Below w.heap.size w W → LenOk W) := fun W h => hLN.below h hLN.lt
  clear hs hT hLN
  have hb0 : Below w.heap.size w w := Below.refl _ _
  go_enter Tryd.func11, Tryd.ntmps11
  go_upto_region 1 with fail
  obtain ⟨qv1, hqv1⟩ : ∃ q, q = (w).heap.size := ⟨_, rfl⟩
  obtain ⟨w1, hW1⟩ : ∃ W, W = (w).alloc (.cells #[.int .i64 0, .string ⟨#[]⟩, .string ⟨#[]⟩, .int .i64 0] 25) := ⟨_, rfl⟩
  have hz1 : (w).heap.size = qv1 := hqv1.symm
  first | rw [← hW1, ← hqv1] | rw [← hW1]
  have hs1 : w1.heap.size = qv1 + 1 := by rw [hW1, ← hz1]; simp
  have bw : Below (w).heap.size (w) w1 := by rw [hW1]; exact (Below.refl _ _).alloc (Nat.le_refl _) _
  have hb1 : Below w.heap.size w (w1) := hb0.trans (bw.mono hb0.size)
  have HM1 : Hid ((w).heap.size ≤ (w1).heap.size) := bw.size
  have HBv1_1 : Hid ((w1).heap[qv1]? = some (.cells #[.int .i64 0, .string ⟨#[]⟩, .string ⟨#[]⟩, .int .i64 0] 25)) := by show _ = _; rw [hW1, ← hz1]; exact heap_alloc_new _ _
  have HGv1 : Hid (w.heap.size ≤ qv1) := by show _ ≤ _; rw [← hz1]; exact hb0.size
  clear hb0 bw hW1 hz1
  clear hs1 hqv1
  go_wp2_with fail
  obtain ⟨qv2, hqv2⟩ : ∃ q, q = (w1).heap.size := ⟨_, rfl⟩
  obtain ⟨w2, hW2⟩ : ∃ W, W = (w1).alloc (.cells #[.string s] 52) := ⟨_, rfl⟩
  have hz2 : (w1).heap.size = qv2 := hqv2.symm
  first | rw [← hW2, ← hqv2] | rw [← hW2]
  have hs2 : w2.heap.size = qv2 + 1 := by rw [hW2, ← hz2]; simp
  have bw : Below (w1).heap.size (w1) w2 := by rw [hW2]; exact (Below.refl _ _).alloc (Nat.le_refl _) _
  have hb2 : Below w.heap.size w (w2) := hb1.trans (bw.mono hb1.size)
  have HM2 : Hid ((w1).heap.size ≤ (w2).heap.size) := bw.size
  have HBv1_2 : Hid ((w2).heap[qv1]? = some (.cells #[.int .i64 0, .string ⟨#[]⟩, .string ⟨#[]⟩, .int .i64 0] 25)) := blk_below HBv1_1.out bw
  have HNv1v2 : Hid (qv1 ≠ qv2) := fun e => by have h1 := (Array.getElem?_eq_some_iff.1 HBv1_1.out).1; omega
  have HBv2_2 : Hid ((w2).heap[qv2]? = some (.cells #[.string s] 52)) := by show _ = _; rw [hW2, ← hz2]; exact heap_alloc_new _ _
  have HGv2 : Hid (w.heap.size ≤ qv2) := by show _ ≤ _; rw [← hz2]; exact hb1.size
  clear hb1 HBv1_1 bw hW2 hz2
  clear hs2 hqv2
  refine (readBan_any _ s _ HBv2_2.out HZs.out (HLB.out _ hb2)).mono ?_
  rintro e w3 ⟨kk, aa, bb, tt, rfl, hzz, hgot, hg⟩
  have HZa : Hid (aa.size ≤ 3000000) := hzz.1
  have HZb : Hid (bb.size ≤ 3000000) := hzz.2
  have HGOT : Hid (∀ k a b t, IsBan s k a b t → kk = k ∧ aa = a ∧ bb = b ∧ tt = t) := hgot
  clear hzz hgot
  have hb3 : Below w.heap.size w (w3) := hb2.grown hg hb2.size (by intro k hk; cases hk; exact HGv2.out)
  have HM3 : Hid ((w2).heap.size ≤ (w3).heap.size) := hg.size
  have HBv1_3 : Hid ((w3).heap[qv1]? = some (.cells #[.int .i64 0, .string ⟨#[]⟩, .string ⟨#[]⟩, .int .i64 0] 25)) := (hg.block _ (Array.getElem?_eq_some_iff.1 HBv1_2.out).1 (fun e => HNv1v2.out (Option.some.inj e))).trans HBv1_2.out
  clear hb2 HBv1_2 HBv2_2 hg
  go_upto_region 2 with fail
  obtain ⟨qv3, hqv3⟩ : ∃ q, q = (w3).heap.size := ⟨_, rfl⟩
  obtain ⟨w4, hW4⟩ : ∃ W, W = (w3).alloc (.cells #[.int .i64 kk, .string aa, .string bb, .int .i64 tt] 25) := ⟨_, rfl⟩
  have hz4 : (w3).heap.size = qv3 := hqv3.symm
  first | rw [← hW4, ← hqv3] | rw [← hW4]
  have hs4 : w4.heap.size = qv3 + 1 := by rw [hW4, ← hz4]; simp
  have bw : Below (w3).heap.size (w3) w4 := by rw [hW4]; exact (Below.refl _ _).alloc (Nat.le_refl _) _
  have hb4 : Below w.heap.size w (w4) := hb3.trans (bw.mono hb3.size)
  have HM4 : Hid ((w3).heap.size ≤ (w4).heap.size) := bw.size
  have HBv1_4 : Hid ((w4).heap[qv1]? = some (.cells #[.int .i64 0, .string ⟨#[]⟩, .string ⟨#[]⟩, .int .i64 0] 25)) := blk_below HBv1_3.out bw
  have HNv1v3 : Hid (qv1 ≠ qv3) := fun e => by have h1 := (Array.getElem?_eq_some_iff.1 HBv1_3.out).1; omega
  have HBv3_4 : Hid ((w4).heap[qv3]? = some (.cells #[.int .i64 kk, .string aa, .string bb, .int .i64 tt] 25)) := by show _ = _; rw [hW4, ← hz4]; exact heap_alloc_new _ _
  have HGv3 : Hid (w.heap.size ≤ qv3) := by show _ ≤ _; rw [← hz4]; exact hb3.size
  clear hb3 HBv1_3 bw hW4 hz4
  clear hs4 hqv3
  by_cases hc1 : s = ⟨#[]⟩
  · have hc1b : (s).toList.isEmpty = true := isEmpty_yes (by rw [hc1]; rfl)
    have HE : Hid (s = ⟨#[]⟩) := hc1
    have cv1_0 : (w4).cell? ⟨qv1, 0, none⟩ = some (.int .i64 0) := (cell_of HBv1_4.out 0).trans rfl
    have fcv1_0 : (w4).frozen? ⟨qv1, 0, none⟩ = false := frozen_of HBv1_4.out 0
    have cv1_1 : (w4).cell? ⟨qv1, 1, none⟩ = some (.string ⟨#[]⟩) := (cell_of HBv1_4.out 1).trans rfl
    have fcv1_1 : (w4).frozen? ⟨qv1, 1, none⟩ = false := frozen_of HBv1_4.out 1
    have cv1_2 : (w4).cell? ⟨qv1, 2, none⟩ = some (.string ⟨#[]⟩) := (cell_of HBv1_4.out 2).trans rfl
    have fcv1_2 : (w4).frozen? ⟨qv1, 2, none⟩ = false := frozen_of HBv1_4.out 2
    have cv1_3 : (w4).cell? ⟨qv1, 3, none⟩ = some (.int .i64 0) := (cell_of HBv1_4.out 3).trans rfl
    have fcv1_3 : (w4).frozen? ⟨qv1, 3, none⟩ = false := frozen_of HBv1_4.out 3
    go_wp2_with fail
    obtain ⟨w5, hW5⟩ : ∃ W, W = (w4).setCell ⟨qv1, 0, none⟩ (.int .i64 0) := ⟨_, rfl⟩
    rw [← hW5]
    have hb5 : Below w.heap.size w (w5) := by rw [hW5]; exact (hb4.setCell (p := ⟨qv1, 0, none⟩) HGv1.out _)
    have HM5 : Hid ((w4).heap.size ≤ w5.heap.size) := by show _ ≤ _; rw [hW5]; simp
    have HBv3_5 : Hid ((w5).heap[qv3]? = some (.cells #[.int .i64 kk, .string aa, .string bb, .int .i64 tt] 25)) := by show _ = _; rw [hW5, heap_setCell_other _ _ _ _ HNv1v3.out.symm]; exact HBv3_4.out
    have HBv1_5 : Hid ((w5).heap[qv1]? = some (.cells #[.int .i64 0, .string ⟨#[]⟩, .string ⟨#[]⟩, .int .i64 0] 25)) := by show _ = _; rw [hW5]; have h := heap_set _ _ 0 _ _ _ (.int .i64 0) HBv1_4.out; simpa using h
    clear hb4 HBv1_4 HBv3_4 hW5
    obtain ⟨w6, hW6⟩ : ∃ W, W = (w5).setCell ⟨qv1, 1, none⟩ (.string ⟨#[]⟩) := ⟨_, rfl⟩
    rw [← hW6]
    have hb6 : Below w.heap.size w (w6) := by rw [hW6]; exact (hb5.setCell (p := ⟨qv1, 1, none⟩) HGv1.out _)
    have HM6 : Hid ((w5).heap.size ≤ w6.heap.size) := by show _ ≤ _; rw [hW6]; simp
    have HBv3_6 : Hid ((w6).heap[qv3]? = some (.cells #[.int .i64 kk, .string aa, .string bb, .int .i64 tt] 25)) := by show _ = _; rw [hW6, heap_setCell_other _ _ _ _ HNv1v3.out.symm]; exact HBv3_5.out
    have HBv1_6 : Hid ((w6).heap[qv1]? = some (.cells #[.int .i64 0, .string ⟨#[]⟩, .string ⟨#[]⟩, .int .i64 0] 25)) := by show _ = _; rw [hW6]; have h := heap_set _ _ 1 _ _ _ (.string ⟨#[]⟩) HBv1_5.out; simpa using h
    clear hb5 HBv1_5 HBv3_5 hW6
    obtain ⟨w7, hW7⟩ : ∃ W, W = (w6).setCell ⟨qv1, 2, none⟩ (.string ⟨#[]⟩) := ⟨_, rfl⟩
    rw [← hW7]
    have hb7 : Below w.heap.size w (w7) := by rw [hW7]; exact (hb6.setCell (p := ⟨qv1, 2, none⟩) HGv1.out _)
    have HM7 : Hid ((w6).heap.size ≤ w7.heap.size) := by show _ ≤ _; rw [hW7]; simp
    have HBv3_7 : Hid ((w7).heap[qv3]? = some (.cells #[.int .i64 kk, .string aa, .string bb, .int .i64 tt] 25)) := by show _ = _; rw [hW7, heap_setCell_other _ _ _ _ HNv1v3.out.symm]; exact HBv3_6.out
    have HBv1_7 : Hid ((w7).heap[qv1]? = some (.cells #[.int .i64 0, .string ⟨#[]⟩, .string ⟨#[]⟩, .int .i64 0] 25)) := by show _ = _; rw [hW7]; have h := heap_set _ _ 2 _ _ _ (.string ⟨#[]⟩) HBv1_6.out; simpa using h
    clear hb6 HBv1_6 HBv3_6 hW7
    obtain ⟨w8, hW8⟩ : ∃ W, W = (w7).setCell ⟨qv1, 3, none⟩ (.int .i64 0) := ⟨_, rfl⟩
    rw [← hW8]
    have hb8 : Below w.heap.size w (w8) := by rw [hW8]; exact (hb7.setCell (p := ⟨qv1, 3, none⟩) HGv1.out _)
    have HM8 : Hid ((w7).heap.size ≤ w8.heap.size) := by show _ ≤ _; rw [hW8]; simp
    have HBv3_8 : Hid ((w8).heap[qv3]? = some (.cells #[.int .i64 kk, .string aa, .string bb, .int .i64 tt] 25)) := by show _ = _; rw [hW8, heap_setCell_other _ _ _ _ HNv1v3.out.symm]; exact HBv3_7.out
    have HBv1_8 : Hid ((w8).heap[qv1]? = some (.cells #[.int .i64 0, .string ⟨#[]⟩, .string ⟨#[]⟩, .int .i64 0] 25)) := by show _ = _; rw [hW8]; have h := heap_set _ _ 3 _ _ _ (.int .i64 0) HBv1_7.out; simpa using h
    clear hb7 HBv1_7 HBv3_7 hW8
    have kv1_0 : (w8).cell? ⟨qv1, 0, none⟩ = some (.int .i64 0) := (cell_of HBv1_8.out 0).trans rfl
    have kv1_1 : (w8).cell? ⟨qv1, 1, none⟩ = some (.string ⟨#[]⟩) := (cell_of HBv1_8.out 1).trans rfl
    have kv1_2 : (w8).cell? ⟨qv1, 2, none⟩ = some (.string ⟨#[]⟩) := (cell_of HBv1_8.out 2).trans rfl
    have kv1_3 : (w8).cell? ⟨qv1, 3, none⟩ = some (.int .i64 0) := (cell_of HBv1_8.out 3).trans rfl
    refine bodyPost_ret (v := .tuple #[.agg #[.int .i64 0, .string ⟨#[]⟩, .string ⟨#[]⟩, .int .i64 0], .bool false]) (by simp [results, Tryd.results11, go_sem, kv1_0, kv1_1, kv1_2, kv1_3]) rfl ?_
    refine ⟨hb8, .inr ⟨rfl, fun k a b t h => ?_⟩⟩
    have q1 := ban_pos k a b t
    rw [h.2, HE.out] at q1
    exact absurd q1 (by decide)
  · have hc1b : (s).toList.isEmpty = false := isEmpty_no (Nat.pos_of_ne_zero (fun e => hc1 (empty_text e)))
    have HE : Hid (¬ s = ⟨#[]⟩) := hc1
    have cv3_0 : (w4).cell? ⟨qv3, 0, none⟩ = some (.int .i64 kk) := (cell_of HBv3_4.out 0).trans rfl
    have cv3_1 : (w4).cell? ⟨qv3, 1, none⟩ = some (.string aa) := (cell_of HBv3_4.out 1).trans rfl
    have cv3_2 : (w4).cell? ⟨qv3, 2, none⟩ = some (.string bb) := (cell_of HBv3_4.out 2).trans rfl
    have cv3_3 : (w4).cell? ⟨qv3, 3, none⟩ = some (.int .i64 tt) := (cell_of HBv3_4.out 3).trans rfl
    go_wp2_with fail
    refine (implBanText_any kk aa bb tt _ (by have := HZa.out; unfold maxLen; omega) (by have := HZb.out; unfold maxLen; omega) (HTB.out _ hb4)).mono ?_
    rintro e w5 ⟨uu, rfl, hu1, hu2, bw⟩
    have HU1 : Hid (BanP kk aa bb tt → uu = banT kk aa bb tt) := hu1
    have HU2 : Hid (¬ BanP kk aa bb tt → uu = ⟨#[]⟩) := hu2
    clear hu1 hu2
    have hb5 : Below w.heap.size w (w5) := hb4.trans (bw.mono hb4.size)
    have HM5 : Hid ((w4).heap.size ≤ (w5).heap.size) := bw.size
    have HBv1_5 : Hid ((w5).heap[qv1]? = some (.cells #[.int .i64 0, .string ⟨#[]⟩, .string ⟨#[]⟩, .int .i64 0] 25)) := blk_below HBv1_4.out bw
    have HBv3_5 : Hid ((w5).heap[qv3]? = some (.cells #[.int .i64 kk, .string aa, .string bb, .int .i64 tt] 25)) := blk_below HBv3_4.out bw
    clear hb4 HBv1_4 HBv3_4 bw
    clear cv3_0 cv3_1 cv3_2 cv3_3
    by_cases hc2 : uu = s
    · have hc2b : ((uu).toList == (s).toList) = true := (text_beq _ _).2 hc2
      have HU : Hid (uu = s) := hc2
      have cv1_0 : (w5).cell? ⟨qv1, 0, none⟩ = some (.int .i64 0) := (cell_of HBv1_5.out 0).trans rfl
      have fcv1_0 : (w5).frozen? ⟨qv1, 0, none⟩ = false := frozen_of HBv1_5.out 0
      have cv1_1 : (w5).cell? ⟨qv1, 1, none⟩ = some (.string ⟨#[]⟩) := (cell_of HBv1_5.out 1).trans rfl
      have fcv1_1 : (w5).frozen? ⟨qv1, 1, none⟩ = false := frozen_of HBv1_5.out 1
      have cv1_2 : (w5).cell? ⟨qv1, 2, none⟩ = some (.string ⟨#[]⟩) := (cell_of HBv1_5.out 2).trans rfl
      have fcv1_2 : (w5).frozen? ⟨qv1, 2, none⟩ = false := frozen_of HBv1_5.out 2
      have cv1_3 : (w5).cell? ⟨qv1, 3, none⟩ = some (.int .i64 0) := (cell_of HBv1_5.out 3).trans rfl
      have fcv1_3 : (w5).frozen? ⟨qv1, 3, none⟩ = false := frozen_of HBv1_5.out 3
      have cv3_0 : (w5).cell? ⟨qv3, 0, none⟩ = some (.int .i64 kk) := (cell_of HBv3_5.out 0).trans rfl
      have cv3_1 : (w5).cell? ⟨qv3, 1, none⟩ = some (.string aa) := (cell_of HBv3_5.out 1).trans rfl
      have cv3_2 : (w5).cell? ⟨qv3, 2, none⟩ = some (.string bb) := (cell_of HBv3_5.out 2).trans rfl
      have cv3_3 : (w5).cell? ⟨qv3, 3, none⟩ = some (.int .i64 tt) := (cell_of HBv3_5.out 3).trans rfl
      go_wp2_with fail
      obtain ⟨w6, hW6⟩ : ∃ W, W = (w5).setCell ⟨qv1, 0, none⟩ (.int .i64 kk) := ⟨_, rfl⟩
      rw [← hW6]
      have hb6 : Below w.heap.size w (w6) := by rw [hW6]; exact (hb5.setCell (p := ⟨qv1, 0, none⟩) HGv1.out _)
      have HM6 : Hid ((w5).heap.size ≤ w6.heap.size) := by show _ ≤ _; rw [hW6]; simp
      have HBv3_6 : Hid ((w6).heap[qv3]? = some (.cells #[.int .i64 kk, .string aa, .string bb, .int .i64 tt] 25)) := by show _ = _; rw [hW6, heap_setCell_other _ _ _ _ HNv1v3.out.symm]; exact HBv3_5.out
      have HBv1_6 : Hid ((w6).heap[qv1]? = some (.cells #[.int .i64 kk, .string ⟨#[]⟩, .string ⟨#[]⟩, .int .i64 0] 25)) := by show _ = _; rw [hW6]; have h := heap_set _ _ 0 _ _ _ (.int .i64 kk) HBv1_5.out; simpa using h
      clear hb5 HBv1_5 HBv3_5 hW6
      obtain ⟨w7, hW7⟩ : ∃ W, W = (w6).setCell ⟨qv1, 1, none⟩ (.string aa) := ⟨_, rfl⟩
      rw [← hW7]
      have hb7 : Below w.heap.size w (w7) := by rw [hW7]; exact (hb6.setCell (p := ⟨qv1, 1, none⟩) HGv1.out _)
      have HM7 : Hid ((w6).heap.size ≤ w7.heap.size) := by show _ ≤ _; rw [hW7]; simp
      have HBv3_7 : Hid ((w7).heap[qv3]? = some (.cells #[.int .i64 kk, .string aa, .string bb, .int .i64 tt] 25)) := by show _ = _; rw [hW7, heap_setCell_other _ _ _ _ HNv1v3.out.symm]; exact HBv3_6.out
      have HBv1_7 : Hid ((w7).heap[qv1]? = some (.cells #[.int .i64 kk, .string aa, .string ⟨#[]⟩, .int .i64 0] 25)) := by show _ = _; rw [hW7]; have h := heap_set _ _ 1 _ _ _ (.string aa) HBv1_6.out; simpa using h
      clear hb6 HBv1_6 HBv3_6 hW7
      obtain ⟨w8, hW8⟩ : ∃ W, W = (w7).setCell ⟨qv1, 2, none⟩ (.string bb) := ⟨_, rfl⟩
      rw [← hW8]
      have hb8 : Below w.heap.size w (w8) := by rw [hW8]; exact (hb7.setCell (p := ⟨qv1, 2, none⟩) HGv1.out _)
      have HM8 : Hid ((w7).heap.size ≤ w8.heap.size) := by show _ ≤ _; rw [hW8]; simp
      have HBv3_8 : Hid ((w8).heap[qv3]? = some (.cells #[.int .i64 kk, .string aa, .string bb, .int .i64 tt] 25)) := by show _ = _; rw [hW8, heap_setCell_other _ _ _ _ HNv1v3.out.symm]; exact HBv3_7.out
      have HBv1_8 : Hid ((w8).heap[qv1]? = some (.cells #[.int .i64 kk, .string aa, .string bb, .int .i64 0] 25)) := by show _ = _; rw [hW8]; have h := heap_set _ _ 2 _ _ _ (.string bb) HBv1_7.out; simpa using h
      clear hb7 HBv1_7 HBv3_7 hW8
      obtain ⟨w9, hW9⟩ : ∃ W, W = (w8).setCell ⟨qv1, 3, none⟩ (.int .i64 tt) := ⟨_, rfl⟩
      rw [← hW9]
      have hb9 : Below w.heap.size w (w9) := by rw [hW9]; exact (hb8.setCell (p := ⟨qv1, 3, none⟩) HGv1.out _)
      have HM9 : Hid ((w8).heap.size ≤ w9.heap.size) := by show _ ≤ _; rw [hW9]; simp
      have HBv3_9 : Hid ((w9).heap[qv3]? = some (.cells #[.int .i64 kk, .string aa, .string bb, .int .i64 tt] 25)) := by show _ = _; rw [hW9, heap_setCell_other _ _ _ _ HNv1v3.out.symm]; exact HBv3_8.out
      have HBv1_9 : Hid ((w9).heap[qv1]? = some (.cells #[.int .i64 kk, .string aa, .string bb, .int .i64 tt] 25)) := by show _ = _; rw [hW9]; have h := heap_set _ _ 3 _ _ _ (.int .i64 tt) HBv1_8.out; simpa using h
      clear hb8 HBv1_8 HBv3_8 hW9
      have kv1_0 : (w9).cell? ⟨qv1, 0, none⟩ = some (.int .i64 kk) := (cell_of HBv1_9.out 0).trans rfl
      have kv1_1 : (w9).cell? ⟨qv1, 1, none⟩ = some (.string aa) := (cell_of HBv1_9.out 1).trans rfl
      have kv1_2 : (w9).cell? ⟨qv1, 2, none⟩ = some (.string bb) := (cell_of HBv1_9.out 2).trans rfl
      have kv1_3 : (w9).cell? ⟨qv1, 3, none⟩ = some (.int .i64 tt) := (cell_of HBv1_9.out 3).trans rfl
      refine bodyPost_ret (v := .tuple #[.agg #[.int .i64 kk, .string aa, .string bb, .int .i64 tt], .bool true]) (by simp [results, Tryd.results11, go_sem, kv1_0, kv1_1, kv1_2, kv1_3]) rfl ?_
      refine ⟨hb9, .inl ⟨_, _, _, _, rfl, ?_⟩⟩
      classical
      by_cases hP : BanP kk aa bb tt
      · exact ⟨hP, (HU1.out hP).symm.trans HU.out⟩
      · exact absurd (HU.out.symm.trans (HU2.out hP)) HE.out
    · have hc2b : ((uu).toList == (s).toList) = false := text_beq_no hc2
      have HU : Hid (¬ uu = s) := hc2
      have cv1_0 : (w5).cell? ⟨qv1, 0, none⟩ = some (.int .i64 0) := (cell_of HBv1_5.out 0).trans rfl
      have fcv1_0 : (w5).frozen? ⟨qv1, 0, none⟩ = false := frozen_of HBv1_5.out 0
      have cv1_1 : (w5).cell? ⟨qv1, 1, none⟩ = some (.string ⟨#[]⟩) := (cell_of HBv1_5.out 1).trans rfl
      have fcv1_1 : (w5).frozen? ⟨qv1, 1, none⟩ = false := frozen_of HBv1_5.out 1
      have cv1_2 : (w5).cell? ⟨qv1, 2, none⟩ = some (.string ⟨#[]⟩) := (cell_of HBv1_5.out 2).trans rfl
      have fcv1_2 : (w5).frozen? ⟨qv1, 2, none⟩ = false := frozen_of HBv1_5.out 2
      have cv1_3 : (w5).cell? ⟨qv1, 3, none⟩ = some (.int .i64 0) := (cell_of HBv1_5.out 3).trans rfl
      have fcv1_3 : (w5).frozen? ⟨qv1, 3, none⟩ = false := frozen_of HBv1_5.out 3
      go_wp2_with fail
      obtain ⟨w6, hW6⟩ : ∃ W, W = (w5).setCell ⟨qv1, 0, none⟩ (.int .i64 0) := ⟨_, rfl⟩
      rw [← hW6]
      have hb6 : Below w.heap.size w (w6) := by rw [hW6]; exact (hb5.setCell (p := ⟨qv1, 0, none⟩) HGv1.out _)
      have HM6 : Hid ((w5).heap.size ≤ w6.heap.size) := by show _ ≤ _; rw [hW6]; simp
      have HBv3_6 : Hid ((w6).heap[qv3]? = some (.cells #[.int .i64 kk, .string aa, .string bb, .int .i64 tt] 25)) := by show _ = _; rw [hW6, heap_setCell_other _ _ _ _ HNv1v3.out.symm]; exact HBv3_5.out
      have HBv1_6 : Hid ((w6).heap[qv1]? = some (.cells #[.int .i64 0, .string ⟨#[]⟩, .string ⟨#[]⟩, .int .i64 0] 25)) := by show _ = _; rw [hW6]; have h := heap_set _ _ 0 _ _ _ (.int .i64 0) HBv1_5.out; simpa using h
      clear hb5 HBv1_5 HBv3_5 hW6
      obtain ⟨w7, hW7⟩ : ∃ W, W = (w6).setCell ⟨qv1, 1, none⟩ (.string ⟨#[]⟩) := ⟨_, rfl⟩
      rw [← hW7]
      have hb7 : Below w.heap.size w (w7) := by rw [hW7]; exact (hb6.setCell (p := ⟨qv1, 1, none⟩) HGv1.out _)
      have HM7 : Hid ((w6).heap.size ≤ w7.heap.size) := by show _ ≤ _; rw [hW7]; simp
      have HBv3_7 : Hid ((w7).heap[qv3]? = some (.cells #[.int .i64 kk, .string aa, .string bb, .int .i64 tt] 25)) := by show _ = _; rw [hW7, heap_setCell_other _ _ _ _ HNv1v3.out.symm]; exact HBv3_6.out
      have HBv1_7 : Hid ((w7).heap[qv1]? = some (.cells #[.int .i64 0, .string ⟨#[]⟩, .string ⟨#[]⟩, .int .i64 0] 25)) := by show _ = _; rw [hW7]; have h := heap_set _ _ 1 _ _ _ (.string ⟨#[]⟩) HBv1_6.out; simpa using h
      clear hb6 HBv1_6 HBv3_6 hW7
      obtain ⟨w8, hW8⟩ : ∃ W, W = (w7).setCell ⟨qv1, 2, none⟩ (.string ⟨#[]⟩) := ⟨_, rfl⟩
      rw [← hW8]
      have hb8 : Below w.heap.size w (w8) := by rw [hW8]; exact (hb7.setCell (p := ⟨qv1, 2, none⟩) HGv1.out _)
      have HM8 : Hid ((w7).heap.size ≤ w8.heap.size) := by show _ ≤ _; rw [hW8]; simp
      have HBv3_8 : Hid ((w8).heap[qv3]? = some (.cells #[.int .i64 kk, .string aa, .string bb, .int .i64 tt] 25)) := by show _ = _; rw [hW8, heap_setCell_other _ _ _ _ HNv1v3.out.symm]; exact HBv3_7.out
      have HBv1_8 : Hid ((w8).heap[qv1]? = some (.cells #[.int .i64 0, .string ⟨#[]⟩, .string ⟨#[]⟩, .int .i64 0] 25)) := by show _ = _; rw [hW8]; have h := heap_set _ _ 2 _ _ _ (.string ⟨#[]⟩) HBv1_7.out; simpa using h
      clear hb7 HBv1_7 HBv3_7 hW8
      obtain ⟨w9, hW9⟩ : ∃ W, W = (w8).setCell ⟨qv1, 3, none⟩ (.int .i64 0) := ⟨_, rfl⟩
      rw [← hW9]
      have hb9 : Below w.heap.size w (w9) := by rw [hW9]; exact (hb8.setCell (p := ⟨qv1, 3, none⟩) HGv1.out _)
      have HM9 : Hid ((w8).heap.size ≤ w9.heap.size) := by show _ ≤ _; rw [hW9]; simp
      have HBv3_9 : Hid ((w9).heap[qv3]? = some (.cells #[.int .i64 kk, .string aa, .string bb, .int .i64 tt] 25)) := by show _ = _; rw [hW9, heap_setCell_other _ _ _ _ HNv1v3.out.symm]; exact HBv3_8.out
      have HBv1_9 : Hid ((w9).heap[qv1]? = some (.cells #[.int .i64 0, .string ⟨#[]⟩, .string ⟨#[]⟩, .int .i64 0] 25)) := by show _ = _; rw [hW9]; have h := heap_set _ _ 3 _ _ _ (.int .i64 0) HBv1_8.out; simpa using h
      clear hb8 HBv1_8 HBv3_8 hW9
      have kv1_0 : (w9).cell? ⟨qv1, 0, none⟩ = some (.int .i64 0) := (cell_of HBv1_9.out 0).trans rfl
      have kv1_1 : (w9).cell? ⟨qv1, 1, none⟩ = some (.string ⟨#[]⟩) := (cell_of HBv1_9.out 1).trans rfl
      have kv1_2 : (w9).cell? ⟨qv1, 2, none⟩ = some (.string ⟨#[]⟩) := (cell_of HBv1_9.out 2).trans rfl
      have kv1_3 : (w9).cell? ⟨qv1, 3, none⟩ = some (.int .i64 0) := (cell_of HBv1_9.out 3).trans rfl
      refine bodyPost_ret (v := .tuple #[.agg #[.int .i64 0, .string ⟨#[]⟩, .string ⟨#[]⟩, .int .i64 0], .bool false]) (by simp [results, Tryd.results11, go_sem, kv1_0, kv1_1, kv1_2, kv1_3]) rfl ?_
      refine ⟨hb9, .inr ⟨rfl, fun k a b t h => ?_⟩⟩
      obtain ⟨rfl, rfl, rfl, rfl⟩ := HGOT.out k a b t h
      exact HU.out ((HU1.out h.1).trans h.2)

end Go.Proofs.YtlmenolcgaakeaaDoor

namespace Go.Proofs.YtlmenolcgaakeaaDoor
open Go.ChangeShapes Go.WideShapes Go.ChangeAt Go.RowKit

theorem gTabType : (Tryd.prog.globals[0]?).map (·.type) = some 99 := by kernel_rfl
theorem cells62 : Tryd.prog.cellsOf 99 = 20 := by kernel_rfl
theorem cells55 : Tryd.prog.cellsOf 90 = 1 := by kernel_rfl
theorem table {W : World} (h : laidMetH Tryd.prog Rows.fnBansRow.laid W) : TabOk W := by
  have h1 : laidMet Tryd.prog Rows.fnBansRow.laid W := h
  obtain ⟨ps, hl, _⟩ := h1
  obtain ⟨g1, t1, cs1, f1, p1, q1, _, _, _, _, hr1, _⟩ := hl
  obtain ⟨g2, t2, cs2, f2, p2, q2, _, _, _, _, hr2, _⟩ := hr1
  obtain ⟨g3, t3, cs3, f3, p3, q3, hg, ht, hvar, hd, _, _⟩ := hr2
  obtain rfl := Option.some.inj (gTab.symm.trans hg)
  obtain rfl := Option.some.inj (gTabType.symm.trans ht)
  unfold TabOk Lib.TabIs
  rw [hvar, ← Lib.cells_of_tab (zs := Lib.pow10Tab) Tryd.underlying99 Tryd.underlying90 cells55 cells62 hd]

/-- A world with the three tables as their initialisers lay them. -/
def withTables (w : World) : World :=
  { w with heap := ((w.heap.modify 0 fun
      | .cells _ t frozen => .cells #[.int .u64 1, .int .u64 10, .int .u64 100, .int .u64 1000, .int .u64 10000, .int .u64 100000, .int .u64 1000000, .int .u64 10000000, .int .u64 100000000, .int .u64 1000000000, .int .u64 10000000000, .int .u64 100000000000, .int .u64 1000000000000, .int .u64 10000000000000, .int .u64 100000000000000, .int .u64 1000000000000000, .int .u64 10000000000000000, .int .u64 100000000000000000, .int .u64 1000000000000000000, .int .u64 10000000000000000000] t frozen
      | o => o).modify 2 fun
      | .cells _ t frozen => .cells #[.int .u8 0, .int .u8 1, .int .u8 28, .int .u8 2, .int .u8 29, .int .u8 14, .int .u8 24, .int .u8 3, .int .u8 30, .int .u8 22, .int .u8 20, .int .u8 15, .int .u8 25, .int .u8 17, .int .u8 4, .int .u8 8, .int .u8 31, .int .u8 27, .int .u8 13, .int .u8 23, .int .u8 21, .int .u8 19, .int .u8 16, .int .u8 7, .int .u8 26, .int .u8 12, .int .u8 18, .int .u8 6, .int .u8 11, .int .u8 5, .int .u8 10, .int .u8 9] t frozen
      | o => o).modify 3 fun
      | .cells _ t frozen => .cells #[.int .u8 0, .int .u8 1, .int .u8 56, .int .u8 2, .int .u8 57, .int .u8 49, .int .u8 28, .int .u8 3, .int .u8 61, .int .u8 58, .int .u8 42, .int .u8 50, .int .u8 38, .int .u8 29, .int .u8 17, .int .u8 4, .int .u8 62, .int .u8 47, .int .u8 59, .int .u8 36, .int .u8 45, .int .u8 43, .int .u8 51, .int .u8 22, .int .u8 53, .int .u8 39, .int .u8 33, .int .u8 30, .int .u8 24, .int .u8 18, .int .u8 12, .int .u8 5, .int .u8 63, .int .u8 55, .int .u8 48, .int .u8 27, .int .u8 60, .int .u8 41, .int .u8 37, .int .u8 16, .int .u8 46, .int .u8 35, .int .u8 44, .int .u8 21, .int .u8 52, .int .u8 32, .int .u8 23, .int .u8 11, .int .u8 54, .int .u8 26, .int .u8 40, .int .u8 15, .int .u8 34, .int .u8 20, .int .u8 31, .int .u8 10, .int .u8 25, .int .u8 14, .int .u8 19, .int .u8 9, .int .u8 13, .int .u8 8, .int .u8 7, .int .u8 6] t frozen
      | o => o }
end Go.Proofs.YtlmenolcgaakeaaDoor
