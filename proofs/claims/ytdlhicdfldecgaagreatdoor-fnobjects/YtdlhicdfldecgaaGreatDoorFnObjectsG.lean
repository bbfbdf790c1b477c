/- What the proof of FnObjects leans on: contracts of the program's and the specification's functions, and plain facts (part 7 of 8). -/
import Derived.Test.YtdlhicdfldecgaaGreatDoorFnObjectsF
namespace Go.Proofs.YtdlhicdfldecgaaGreatDoor
open Go.RowKit
open Go.Lib hiding intOf

set_option maxHeartbeats 8000000 in
set_option maxRecDepth 100000 in
theorem specObjText_any (p : ByteArray) (o1 : Option Addr) (n1 c1 : Nat) (xs : List ByteArray) (o2 : Option Addr) (n2 c2 : Nat) (ys : List ByteArray) (st : Int) (v3 : Value) (n3 base : Nat) (fs : List (ByteArray × ByteArray)) (b : ByteArray) (t : Int) (w : World) (h1 : TextsA w o1 n1 xs) (h2 : TextsA w o2 n2 ys) (h3 : FieldsV w base v3 n3 fs) (hn1 : n1 ≤ 2000000) (hn2 : n2 ≤ 2000000) (hn3 : n3 ≤ 2000000) (hs1 : ∀ i, i < n1 → (textAt xs i).size ≤ maxLen) (hs2 : ∀ i, i < n2 → (textAt ys i).size ≤ maxLen) (hs3 : WalkF n3 fs) (hp : p.size ≤ maxLen) (hx : b.size ≤ maxLen) (hg : (getV fs varyName).size ≤ 1048576) :
    Calls Tryz.prog 9 #[.agg #[.string p, .slice o1 n1 c1, .slice o2 n2 c2, .int .i64 st, v3, .string b, .int .i64 t]] w fun e w' => TextOf (ObjP p xs ys st fs b t) (objT p ys st fs b t) w e w' := by
  obtain ⟨o3, c3, rfl, _⟩ := h3.slice
  have HV1 : Hid (∀ W, Below w.heap.size w W → TextsA W o1 n1 xs) := fun W h => h1.below h
  have HV2 : Hid (∀ W, Below w.heap.size w W → TextsA W o2 n2 ys) := fun W h => h2.below h
  have HV3 : Hid (∀ W, Below w.heap.size w W → FieldsV W base (.slice o3 n3 c3) n3 fs) := fun W h => h3.below h
  have HL2 : Hid (ys.length = n2) := h2.1
  have HS1 : Hid (∀ i, i < n1 → (textAt xs i).size ≤ maxLen) := hs1
  have HS2 : Hid (∀ i, i < n2 → (textAt ys i).size ≤ maxLen) := hs2
  have HS3 : Hid (WalkF n3 fs) := hs3
  have HPM : Hid (p.size ≤ maxLen) := hp
  have HX : Hid (b.size ≤ maxLen) := hx
  have HG : Hid ((getV fs varyName).size ≤ 1048576) := hg
  obtain ⟨tt, htt⟩ : ∃ x, x = numTextI t := ⟨_, rfl⟩
  have HTT : Hid (numTextI t = tt) := htt.symm
  obtain ⟨nn, hnn⟩ : ∃ x, x = numTextI ((n2 : Nat) : Int) := ⟨_, rfl⟩
  have HNN : Hid (numTextI ((n2 : Nat) : Int) = nn) := hnn.symm
  clear h1 h2 h3 hs1 hs2 hs3 hp hx hg htt hnn
  have hb0 : Below w.heap.size w w := Below.refl _ _
  go_enter Tryz.func9, Tryz.ntmps9
  go_upto_region 1 with fail
  obtain ⟨qv1, hqv1⟩ : ∃ q, q = (w).heap.size := ⟨_, rfl⟩
  obtain ⟨w1, hW1⟩ : ∃ W, W = (w).alloc (.cells #[.string p, .slice o1 n1 c1, .slice o2 n2 c2, .int .i64 st, .slice o3 n3 c3, .string b, .int .i64 t] 29) := ⟨_, rfl⟩
  have hz1 : (w).heap.size = qv1 := hqv1.symm
  first | rw [← hW1, ← hqv1] | rw [← hW1]
  have hs1 : w1.heap.size = qv1 + 1 := by rw [hW1, ← hz1]; simp
  have bw : Below (w).heap.size (w) w1 := by rw [hW1]; exact (Below.refl _ _).alloc (Nat.le_refl _) _
  have hb1 : Below w.heap.size w (w1) := hb0.trans (bw.mono hb0.size)
  have HM1 : Hid ((w).heap.size ≤ (w1).heap.size) := bw.size
  have HBv1_1 : Hid ((w1).heap[qv1]? = some (.cells #[.string p, .slice o1 n1 c1, .slice o2 n2 c2, .int .i64 st, .slice o3 n3 c3, .string b, .int .i64 t] 29)) := by show _ = _; rw [hW1, ← hz1]; exact heap_alloc_new _ _
  have HGv1 : Hid (w.heap.size ≤ qv1) := by show _ ≤ _; rw [← hz1]; exact hb0.size
  clear hb0 bw hW1 hz1
  clear hs1 hqv1
  have cv1_0 : (w1).cell? ⟨qv1, 0, none⟩ = some (.string p) := (cell_of HBv1_1.out 0).trans rfl
  have cv1_1 : (w1).cell? ⟨qv1, 1, none⟩ = some (.slice o1 n1 c1) := (cell_of HBv1_1.out 1).trans rfl
  have cv1_2 : (w1).cell? ⟨qv1, 2, none⟩ = some (.slice o2 n2 c2) := (cell_of HBv1_1.out 2).trans rfl
  have cv1_3 : (w1).cell? ⟨qv1, 3, none⟩ = some (.int .i64 st) := (cell_of HBv1_1.out 3).trans rfl
  have cv1_4 : (w1).cell? ⟨qv1, 4, none⟩ = some (.slice o3 n3 c3) := (cell_of HBv1_1.out 4).trans rfl
  have cv1_5 : (w1).cell? ⟨qv1, 5, none⟩ = some (.string b) := (cell_of HBv1_1.out 5).trans rfl
  have cv1_6 : (w1).cell? ⟨qv1, 6, none⟩ = some (.int .i64 t) := (cell_of HBv1_1.out 6).trans rfl
  go_wp2_with fail
  refine (specObjOk_any p _ n1 _ xs _ n2 _ ys st _ n3 base fs b t _ (HV1.out _ hb1) (HV2.out _ hb1) (HV3.out _ hb1) (by omega) (by omega) (by omega) HS1.out HS2.out HS3.out HPM.out HX.out HG.out).mono ?_
  rintro e w2 ⟨u1, rfl, htu1, bw⟩
  have hb2 : Below w.heap.size w (w2) := hb1.trans (bw.mono hb1.size)
  have HM2 : Hid ((w1).heap.size ≤ (w2).heap.size) := bw.size
  have HBv1_2 : Hid ((w2).heap[qv1]? = some (.cells #[.string p, .slice o1 n1 c1, .slice o2 n2 c2, .int .i64 st, .slice o3 n3 c3, .string b, .int .i64 t] 29)) := blk_below HBv1_1.out bw
  clear hb1 HBv1_1 bw
  clear cv1_0 cv1_1 cv1_2 cv1_3 cv1_4 cv1_5 cv1_6
  cases u1 with
  | false =>
    have HF : Hid (¬ ObjP p xs ys st fs b t) := fun h => nomatch htu1.2 h
    clear htu1
    go_wp2_with fail
    go_ret
    exact ⟨⟨#[]⟩, rfl, fun h => absurd h HF.out, fun _ => rfl, hb2⟩
  | true =>
    have HOK : Hid (ObjP p xs ys st fs b t) := htu1.1 rfl
    clear htu1
    have HT : Hid (0 ≤ t ∧ t ≤ 1000000) := HOK.out.2.2.1
    have HN4 : Hid (n2 ≤ 4) := by show _ ≤ _; have h4 := HOK.out.2.2.2.1.2; have h5 := HOK.out.2.2.2.2.2.1; have h6 := HL2.out; omega
    obtain ⟨hd, hhd⟩ : ∃ x, x = objHead p t n2 := ⟨_, rfl⟩
    have HHD : Hid (((((((⟨#[111, 98, 106, 32]⟩ ++ p) ++ ⟨#[32]⟩) ++ tt) ++ ⟨#[32]⟩) ++ nn) ++ ⟨#[10]⟩) = hd) := by
      show _ = _
      rw [hhd, ← HTT.out, ← HNN.out, numTextI_of HT.out.1, numTextI_of (by omega)]
      rfl
    have HVZ : Hid (∀ k, k ≤ n2 → (valsTo hd ys k).size ≤ 400) := fun k hk => by
      have h := vals_small HOK.out k (by rw [HL2.out]; exact hk)
      rw [HL2.out, ← hhd] at h
      have := HN4.out
      omega
    have HFIN : Hid (objT p ys st fs b t = valsTo hd ys n2 ++ respT st fs b) := by
      show _ = _
      unfold objT
      rw [HL2.out, ← hhd]
    have HRP : Hid (RespP st fs b) := HOK.out.1
    have zp : p.size ≤ 60 := HOK.out.2.1.2.2.1
    have ztt : tt.size ≤ 8 := by rw [← HTT.out, numTextI_of HT.out.1]; exact numText_size _
    have znn : nn.size ≤ 8 := by rw [← HNN.out, numTextI_of (by omega)]; exact numText_size _
    clear hhd
    go_upto_region 3 with fail
    refine wp_region_held_drew (S := fun W => W.heap[qv1]? = some (.cells #[.string p, .slice o1 n1 c1, .slice o2 n2 c2, .int .i64 st, .slice o3 n3 c3, .string b, .int .i64 t] 29)) (by kernel_rfl) HBv1_2.out (fun _ => ?_)
    obtain ⟨w3, hX⟩ : ∃ X, X = w2.drew := ⟨_, rfl⟩
    have bw : Below w2.heap.size w2 w3 := by rw [hX]; exact (Below.refl _ _).drew
    rw [← hX]
    have hb3 : Below w.heap.size w (w3) := hb2.trans (bw.mono hb2.size)
    have HM3 : Hid ((w2).heap.size ≤ (w3).heap.size) := bw.size
    have HBv1_3 : Hid ((w3).heap[qv1]? = some (.cells #[.string p, .slice o1 n1 c1, .slice o2 n2 c2, .int .i64 st, .slice o3 n3 c3, .string b, .int .i64 t] 29)) := blk_below HBv1_2.out bw
    have hS3 : w3.heap[qv1]? = some (.cells #[.string p, .slice o1 n1 c1, .slice o2 n2 c2, .int .i64 st, .slice o3 n3 c3, .string b, .int .i64 t] 29) := HBv1_3.out
    clear hb2 HBv1_2 bw hX
    refine wpAnyH_takeD (i := 0) (v := .pointer (some ⟨qv1, 0, none⟩)) (some 8) rfl rfl (by kernel_rfl) (by kernel_rfl) (by kernel_rfl) (fun _ _ _ h => h) (Or.inl ⟨by rfl, by intro W _; go_simp⟩) hS3 ?_
    simp only [Act.put, List.setIfInBounds_toArray, List.set_cons_zero, List.set_cons_succ]
    refine wpAnyH_takeD (i := 1) (v := .string p) (some 9) rfl rfl (by kernel_rfl) (by kernel_rfl) (by kernel_rfl) (fun _ _ _ h => h) (Or.inl ⟨by rfl, by intro W hW; have hhv1 := hW; have y0 := (cell_of hhv1 0).trans rfl; go_simp⟩) hS3 ?_
    simp only [Act.put, List.setIfInBounds_toArray, List.set_cons_zero, List.set_cons_succ]
    refine wpAnyH_takeD (i := 2) (v := .string (⟨#[111, 98, 106, 32]⟩ ++ p)) (some 10) rfl rfl (by kernel_rfl) (by kernel_rfl) (by kernel_rfl) (fun _ _ _ h => h) (Or.inl ⟨by rfl, by intro W _; go_simp; omega⟩) hS3 ?_
    simp only [Act.put, List.setIfInBounds_toArray, List.set_cons_zero, List.set_cons_succ]
    refine wpAnyH_takeD (i := 3) (v := .string ((⟨#[111, 98, 106, 32]⟩ ++ p) ++ ⟨#[32]⟩)) (some 11) rfl rfl (by kernel_rfl) (by kernel_rfl) (by kernel_rfl) (fun _ _ _ h => h) (Or.inl ⟨by rfl, by intro W _; go_simp; omega⟩) hS3 ?_
    simp only [Act.put, List.setIfInBounds_toArray, List.set_cons_zero, List.set_cons_succ]
    refine wpAnyH_takeD (i := 4) (v := .pointer (some ⟨qv1, 6, none⟩)) (some 12) rfl rfl (by kernel_rfl) (by kernel_rfl) (by kernel_rfl) (fun _ _ _ h => h) (Or.inl ⟨by rfl, by intro W _; go_simp⟩) hS3 ?_
    simp only [Act.put, List.setIfInBounds_toArray, List.set_cons_zero, List.set_cons_succ]
    refine wpAnyH_takeD (i := 5) (v := .int .i64 t) (some 13) rfl rfl (by kernel_rfl) (by kernel_rfl) (by kernel_rfl) (fun _ _ _ h => h) (Or.inl ⟨by rfl, by intro W hW; have hhv1 := hW; have y6 := (cell_of hhv1 6).trans rfl; go_simp⟩) hS3 ?_
    simp only [Act.put, List.setIfInBounds_toArray, List.set_cons_zero, List.set_cons_succ]
    refine wpAnyH_takeD (i := 9) (v := .pointer (some ⟨qv1, 2, none⟩)) (some 17) rfl rfl (by kernel_rfl) (by kernel_rfl) (by kernel_rfl) (fun _ _ _ h => h) (Or.inl ⟨by rfl, by intro W _; go_simp⟩) hS3 ?_
    simp only [Act.put, List.setIfInBounds_toArray, List.set_cons_zero, List.set_cons_succ]
    refine wpAnyH_takeD (i := 10) (v := .slice o2 n2 c2) (some 18) rfl rfl (by kernel_rfl) (by kernel_rfl) (by kernel_rfl) (fun _ _ _ h => h) (Or.inl ⟨by rfl, by intro W hW; have hhv1 := hW; have y2 := (cell_of hhv1 2).trans rfl; go_simp⟩) hS3 ?_
    simp only [Act.put, List.setIfInBounds_toArray, List.set_cons_zero, List.set_cons_succ]
    refine wpAnyH_takeD (i := 11) (v := .int .i64 (n2 : Int)) (some 19) rfl rfl (by kernel_rfl) (by kernel_rfl) (by kernel_rfl) (fun _ _ _ h => h) (Or.inl ⟨by rfl, by intro W _; go_simp⟩) hS3 ?_
    simp only [Act.put, List.setIfInBounds_toArray, List.set_cons_zero, List.set_cons_succ]
    refine wpAnyH_ready (rs := [6]) (by kernel_rfl) (by simp) ?_
    refine AllReadyH.cons rfl (fun K hK => ?_) AllReadyH.nil
    go_simp
    refine (specNumText_int t _ (by have := HT.out; omega) (by have := HT.out; omega)).mono ?_
    rintro e w4 ⟨rfl, bw⟩
    rw [HTT.out]
    have hb4 : Below w.heap.size w (w4) := hb3.trans (bw.mono hb3.size)
    have HM4 : Hid ((w3).heap.size ≤ (w4).heap.size) := bw.size
    have HBv1_4 : Hid ((w4).heap[qv1]? = some (.cells #[.string p, .slice o1 n1 c1, .slice o2 n2 c2, .int .i64 st, .slice o3 n3 c3, .string b, .int .i64 t] 29)) := blk_below HBv1_3.out bw
    clear hb3 HBv1_3 bw
    have hS4 : w4.heap[qv1]? = some (.cells #[.string p, .slice o1 n1 c1, .slice o2 n2 c2, .int .i64 st, .slice o3 n3 c3, .string b, .int .i64 t] 29) := HBv1_4.out
    refine hK.out _ _ hS4 (fun _ => ?_)
    clear hK K hS3
    refine wpAnyH_takeD (i := 7) (v := .string (((⟨#[111, 98, 106, 32]⟩ ++ p) ++ ⟨#[32]⟩) ++ tt)) (some 15) rfl rfl (by kernel_rfl) (by kernel_rfl) (by kernel_rfl) (fun _ _ _ h => h) (Or.inl ⟨by rfl, by intro W _; go_simp; omega⟩) hS4 ?_
    simp only [Act.put, List.setIfInBounds_toArray, List.set_cons_zero, List.set_cons_succ]
    refine wpAnyH_takeD (i := 8) (v := .string ((((⟨#[111, 98, 106, 32]⟩ ++ p) ++ ⟨#[32]⟩) ++ tt) ++ ⟨#[32]⟩)) (some 16) rfl rfl (by kernel_rfl) (by kernel_rfl) (by kernel_rfl) (fun _ _ _ h => h) (Or.inl ⟨by rfl, by intro W _; go_simp; omega⟩) hS4 ?_
    simp only [Act.put, List.setIfInBounds_toArray, List.set_cons_zero, List.set_cons_succ]
    refine wpAnyH_ready (rs := [12]) (by kernel_rfl) (by simp) ?_
    refine AllReadyH.cons rfl (fun K hK => ?_) AllReadyH.nil
    go_simp
    refine (specNumText_int ((n2 : Nat) : Int) _ (by omega) (by omega)).mono ?_
    rintro e w5 ⟨rfl, bw⟩
    rw [HNN.out]
    have hb5 : Below w.heap.size w (w5) := hb4.trans (bw.mono hb4.size)
    have HM5 : Hid ((w4).heap.size ≤ (w5).heap.size) := bw.size
    have HBv1_5 : Hid ((w5).heap[qv1]? = some (.cells #[.string p, .slice o1 n1 c1, .slice o2 n2 c2, .int .i64 st, .slice o3 n3 c3, .string b, .int .i64 t] 29)) := blk_below HBv1_4.out bw
    clear hb4 HBv1_4 bw
    have hS5 : w5.heap[qv1]? = some (.cells #[.string p, .slice o1 n1 c1, .slice o2 n2 c2, .int .i64 st, .slice o3 n3 c3, .string b, .int .i64 t] 29) := HBv1_5.out
    refine hK.out _ _ hS5 (fun _ => ?_)
    clear hK K hS4
    refine wpAnyH_takeD (i := 13) (v := .string (((((⟨#[111, 98, 106, 32]⟩ ++ p) ++ ⟨#[32]⟩) ++ tt) ++ ⟨#[32]⟩) ++ nn)) (some 21) rfl rfl (by kernel_rfl) (by kernel_rfl) (by kernel_rfl) (fun _ _ _ h => h) (Or.inl ⟨by rfl, by intro W _; go_simp; omega⟩) hS5 ?_
    simp only [Act.put, List.setIfInBounds_toArray, List.set_cons_zero, List.set_cons_succ]
    refine wpAnyH_takeD (i := 14) (v := .string ((((((⟨#[111, 98, 106, 32]⟩ ++ p) ++ ⟨#[32]⟩) ++ tt) ++ ⟨#[32]⟩) ++ nn) ++ ⟨#[10]⟩)) (some 22) rfl rfl (by kernel_rfl) (by kernel_rfl) (by kernel_rfl) (fun _ _ _ h => h) (Or.inl ⟨by rfl, by intro W _; go_simp; omega⟩) hS5 ?_
    simp only [Act.put, List.setIfInBounds_toArray, List.set_cons_zero, List.set_cons_succ]
    refine wpAnyH_takeD (i := 15) (v := .string ((((((⟨#[111, 98, 106, 32]⟩ ++ p) ++ ⟨#[32]⟩) ++ tt) ++ ⟨#[32]⟩) ++ nn) ++ ⟨#[10]⟩)) (some 3) rfl rfl (by kernel_rfl) (by kernel_rfl) (by kernel_rfl) (fun _ _ _ h => h) (Or.inl ⟨by rfl, by intro W _; go_simp⟩) hS5 ?_
    simp only [Act.put, List.setIfInBounds_toArray, List.set_cons_zero, List.set_cons_succ]
    clear hS5
    refine wpAnyH_done (by kernel_rfl) ?_ _
    go_wp2_with fail
    go_loopw [3, 4] (fun o i wr => ∃ j : Nat, j ≤ n2 ∧ o = .string (valsTo hd ys j) ∧ i = .int .i64 (j : Int) ∧ Hid (Below w.heap.size w wr ∧ (wr).heap[qv1]? = some (.cells #[.string p, .slice o1 n1 c1, .slice o2 n2 c2, .int .i64 st, .slice o3 n3 c3, .string b, .int .i64 t] 29))) (fun _ i _ => n2 - (intOf i).toNat)
    case atStart => exact ⟨0, Nat.zero_le _, by rw [HHD.out]; rfl, rfl, ⟨hb5, HBv1_5.out⟩⟩
    case round =>
      obtain ⟨j, hj, rfl, rfl, HW⟩ := hrel
      have cc2 : wr.cell? ⟨qv1, 2, none⟩ = some (.slice o2 n2 c2) := (cell_of HW.out.2 2).trans rfl
      by_cases hlt : (j : Int) < (n2 : Int)
      · obtain ⟨g, hog, hg, hc⟩ := (HV2.out wr HW.out.1).2 j (by omega)
        subst hog
        obtain ⟨x, hxx⟩ : ∃ x, x = textAt ys j := ⟨_, rfl⟩
        rw [← hxx] at hc
        obtain ⟨ot, hot⟩ : ∃ x, x = valsTo hd ys j := ⟨_, rfl⟩
        have HN : Hid (ot ++ x ++ ⟨#[10]⟩ = valsTo hd ys (j + 1)) := by show _ = _; rw [hot, hxx, valsTo]
        have zo := HVZ.out j (by omega)
        have zx : x.size ≤ 60 := by rw [hxx]; exact (HOK.out.2.2.2.2.2.2 _ (textAt_mem ys j (by rw [HL2.out]; omega))).2.1
        rw [← hot] at zo ⊢
        clear hxx hot
        go_wp2_with fail
        go_roundw
        case rel => exact ⟨j + 1, by omega, by rw [HN.out], by go_num, HW⟩
        case measure => simp [intOf]; omega
      · obtain rfl : j = n2 := by omega
        obtain ⟨ot, hot⟩ : ∃ x, x = valsTo hd ys j := ⟨_, rfl⟩
        have HOT : Hid (objT p ys st fs b t = ot ++ respT st fs b) := by show _ = _; rw [hot]; exact HFIN.out
        have zo := HVZ.out j (by omega)
        rw [← hot] at zo ⊢
        have cc3 : wr.cell? ⟨qv1, 3, none⟩ = some (.int .i64 st) := (cell_of HW.out.2 3).trans rfl
        have cc4 : wr.cell? ⟨qv1, 4, none⟩ = some (.slice o3 n3 c3) := (cell_of HW.out.2 4).trans rfl
        have cc5 : wr.cell? ⟨qv1, 5, none⟩ = some (.string b) := (cell_of HW.out.2 5).trans rfl
        clear hot
        go_wp2_with fail
        refine (specRespText_any st _ b n3 base fs _ (HV3.out _ HW.out.1) (by omega) HS3.out HX.out).mono ?_
        rintro e w90 ⟨u, rfl, hu, _, bw⟩
        have HU : Hid (u = respT st fs b) := hu HRP.out
        have zu : u.size ≤ 1000 := by rw [HU.out]; exact resp_small HRP.out
        have HW2 : Hid (Below w.heap.size w w90) := HW.out.1.trans (bw.mono HW.out.1.size)
        clear bw hu cc2 cc3 cc4 cc5 HW
        go_wp2_with fail
        go_ret
        exact ⟨_, rfl, fun _ => by rw [HOT.out, HU.out], fun h => absurd HOK.out h, HW2.out⟩

end Go.Proofs.YtdlhicdfldecgaaGreatDoor

namespace Go.Proofs.YtdlhicdfldecgaaGreatDoor
open Go.RowKit
open Go.Lib hiding intOf

set_option maxHeartbeats 1000000 in
set_option maxRecDepth 100000 in
theorem l3Dent_any (c B : Nat) (s : ByteArray) (f : Nat → ByteArray) (g n : Nat) (hxs : ∀ j, j < n → (f j).size ≤ 64) (hn1 : 1 ≤ n) (hn2 : n ≤ 256) (a : Option Addr) (len cap : Nat) (zs : List Int) (w : World) (hcur : CurAt w c a len cap) (hcode : CodeAt w B a len zs) (hB : B ≤ c) (hs : s.size ≤ 20000) (hgc : g ≠ c) (hl : ListAt w g n f) :
    Calls Tryz.prog 42 #[.pointer (some ⟨c, 0, none⟩), .string s, .slice (some ⟨g, 0, none⟩) n n] w fun e w' => TextDrawn 20064 w c a len cap e w' := by
  have HX : Hid (∀ j, j < n → (f j).size ≤ 64) := hxs
  have HL : Hid (∀ W, w.grownBy W (some c) → ListAt W g n f) := fun W h j hj => grown_cell h (hl j hj) hgc
  have HCO : Hid (∀ W, w.grownBy W (some c) → CodeAt W B a len zs) := fun W h => hcode.grown h hB
  clear hxs hl
  go_enter Tryz.func42, Tryz.ntmps42
  go_wp2_with fail
  refine (l1Below_all c B ((s.size : Int) + 1) a len cap zs _ hcur hcode hB (by omega) (by omega)).mono ?_
  rintro e w1 ⟨x, rfl, hx0, hx1, hcu1, hg1⟩
  obtain ⟨k, rfl⟩ := Int.eq_ofNat_of_zero_le hx0
  have hks : k ≤ s.size := by omega
  have hki : (k : Int) ≤ (s.size : Int) := by omega
  clear hcur hcode
  go_wp2_with fail
  refine (l1Below_any c B 5 a len cap zs _ hcu1 (HCO.out _ hg1) hB (by omega) (by omega)).mono ?_
  rintro e w2 ⟨y, rfl, hy0, hy1, hcu2, hg2⟩
  have hg3 := grownBy_trans hg1 hg2
  clear hcu1 hg1 hg2
  by_cases y0 : y = 0
  · subst y0
    go_wp2_with fail
    go_ret
    exact ⟨_, rfl, by simp; omega, hcu2, hg3⟩
  · have e0 : (y == 0) = false := by rw [beq_eq_false_iff_ne]; exact y0
    by_cases y1 : y = 1
    · subst y1
      have HG : Hid (w.grownBy w2.drew (some c)) := grownBy_trans hg3 (grown_below ((Below.refl _ w2).drew) _)
      have HP : Hid (∀ W, w2.drew.grownBy W (some c) → w.grownBy W (some c)) := fun W h => grownBy_trans HG.out h
      have HCD : Hid (CurAt w2.drew c a len cap) := hcu2.below ((Below.refl _ w2).drew) hcu2.lt
      have hk0 : (0 : Int) ≤ (k : Int) := by omega
      have ZZ : Hid (∀ t : ByteArray, t.size ≤ 64 → ¬ 9223372036854775807 < k + t.size ∧ ¬ 9223372036854775807 < k + t.size + (s.size - k)) := fun t h => ⟨by omega, by omega⟩
      clear hy0 hy1 e0 hx0 hx1 y0
      clear hcu2 hg3
      go_wp2_with fail
      go_region_law (first | (go_simp; go_at_call 74; refine (l1Pick_any c B g n f a len cap zs _ HCD.out (HCO.out _ HG.out) hB hn1 hn2 (HL.out _ HG.out) hgc).mono ?_; rintro e w3 ⟨j, hj, rfl, hcu3, hg4⟩; have hg5 := HP.out w3 hg4; have hts := HX.out j hj; obtain ⟨r1, r2⟩ := ZZ.out _ hts; clear hg4))
      go_wp2_with fail
      go_ret
      exact ⟨_, rfl, by simp only [ByteArray.size_append, ByteArray.size_extract]; omega, hcu3, hg5⟩
    · have e1 : (y == 1) = false := by rw [beq_eq_false_iff_ne]; exact y1
      go_wp2_with fail
      go_ret
      exact ⟨_, rfl, by omega, hcu2, hg3⟩

end Go.Proofs.YtdlhicdfldecgaaGreatDoor

namespace Go.Proofs.YtdlhicdfldecgaaGreatDoor
open Go.RowKit
open Go.Lib hiding intOf

/-- An object is drawn. -/
def ObjDrew (w : World) (e : Ending) (w' : World) : Prop :=
  ∃ (p : ByteArray) (v1 : Value) (xs : List ByteArray) (v2 : Value) (ys : List ByteArray) (st : Int) (v3 : Value) (fs : List (ByteArray × ByteArray)) (b : ByteArray) (t : Int), e = .returned (.agg #[.string p, v1, v2, .int .i64 st, v3, .string b, .int .i64 t]) ∧ (w'.ownsRow w.heap.size 9 1 v1 xs.length (xs.map Value.string) ∧ w'.ownsRow w.heap.size 9 1 v2 ys.length (ys.map Value.string) ∧ w'.ownsRow w.heap.size 131 2 v3 fs.length (flatF fs)) ∧ SmallO p xs ys fs b t ∧ Below w.heap.size w w'
set_option maxHeartbeats 8000000 in
set_option maxRecDepth 100000 in
theorem drawObjText_any (a : Option Addr) (len cap : Nat) (zs : List Int) (w : World) (hcode : CodeAt w w.heap.size a len zs) :
    Calls Tryz.prog 7 #[.slice a len cap] w fun e w' => ObjDrew w e w' := by
  have HCO : Hid (∀ W, Below w.heap.size w W → CodeAt W w.heap.size a len zs) := fun W h => hcode.below h
  clear hcode
  have hb0 : Below w.heap.size w w := Below.refl _ _
  go_enter Tryz.func7, Tryz.ntmps7
  go_upto_region 1 with fail
  obtain ⟨qv1, hqv1⟩ : ∃ q, q = (w).heap.size := ⟨_, rfl⟩
  obtain ⟨w1, hW1⟩ : ∃ W, W = (w).alloc (.cells #[.string ⟨#[]⟩, .slice none 0 0, .slice none 0 0, .int .i64 0, .slice none 0 0, .string ⟨#[]⟩, .int .i64 0] 29) := ⟨_, rfl⟩
  have hz1 : (w).heap.size = qv1 := hqv1.symm
  first | rw [← hW1, ← hqv1] | rw [← hW1]
  have hs1 : w1.heap.size = qv1 + 1 := by rw [hW1, ← hz1]; simp
  have bw : Below (w).heap.size (w) w1 := by rw [hW1]; exact (Below.refl _ _).alloc (Nat.le_refl _) _
  have hb1 : Below w.heap.size w (w1) := hb0.trans (bw.mono hb0.size)
  have HM1 : Hid ((w).heap.size ≤ (w1).heap.size) := bw.size
  have HBv1_1 : Hid ((w1).heap[qv1]? = some (.cells #[.string ⟨#[]⟩, .slice none 0 0, .slice none 0 0, .int .i64 0, .slice none 0 0, .string ⟨#[]⟩, .int .i64 0] 29)) := by show _ = _; rw [hW1, ← hz1]; exact heap_alloc_new _ _
  have HGv1 : Hid (w.heap.size ≤ qv1) := by show _ ≤ _; rw [← hz1]; exact hb0.size
  clear hb0 bw hW1 hz1
  clear hs1 hqv1
  go_wp2_with fail
  refine (l1New_any w.heap.size a len cap zs _ (HCO.out _ hb1)).mono ?_
  rintro e w2 ⟨rfl, hcu, bw⟩
  obtain ⟨c1, hc⟩ : ∃ c, c = w1.heap.size := ⟨_, rfl⟩
  rw [← hc] at hcu ⊢
  have HGC : Hid (w.heap.size ≤ c1) := by show _ ≤ _; rw [hc]; exact hb1.size
  have HBC : Hid (w.heap.size ≤ c1) := HGC.out
  have HCU : Hid (CurAt w2 c1 a len cap) := hcu
  have HNCv1 : Hid (qv1 ≠ c1) := fun e => by have h1 := (Array.getElem?_eq_some_iff.1 HBv1_1.out).1; omega
  clear hc hcu
  have hb2 : Below w.heap.size w (w2) := hb1.trans (bw.mono hb1.size)
  have HM2 : Hid ((w1).heap.size ≤ (w2).heap.size) := bw.size
  have HBv1_2 : Hid ((w2).heap[qv1]? = some (.cells #[.string ⟨#[]⟩, .slice none 0 0, .slice none 0 0, .int .i64 0, .slice none 0 0, .string ⟨#[]⟩, .int .i64 0] 29)) := blk_below HBv1_1.out bw
  clear hb1 HBv1_1 bw
  have EU_2 : Hid (CurAt w2 c1 a len cap) := HCU.out
  clear HCU
  go_wp2_with fail
  refine (l10Draw_any c1 w.heap.size a len cap zs _ EU_2.out (HCO.out _ hb2) HBC.out).mono ?_
  rintro e w3 ⟨p2, vv1, xs2, vv2, ys2, st2, vv3, fs2, d2, t2, rfl, ⟨ownX2, ownY2, ownG2⟩, hsm2, hcu, hg⟩
  obtain ⟨oX2, pX2, rfl⟩ := slice_of_owns ownX2
  obtain ⟨oY2, pY2, rfl⟩ := slice_of_owns ownY2
  obtain ⟨oG2, pG2, rfl⟩ := slice_of_owns ownG2
  have HSM2 : Hid (SmallO p2 xs2 ys2 fs2 d2 t2) := hsm2
  clear hsm2
  have hb3 : Below w.heap.size w (w3) := hb2.grown hg hb2.size (by intro k hk; cases hk; exact HGC.out)
  have HM3 : Hid ((w2).heap.size ≤ (w3).heap.size) := hg.size
  have HBv1_3 : Hid ((w3).heap[qv1]? = some (.cells #[.string ⟨#[]⟩, .slice none 0 0, .slice none 0 0, .int .i64 0, .slice none 0 0, .string ⟨#[]⟩, .int .i64 0] 29)) := (hg.block _ (Array.getElem?_eq_some_iff.1 HBv1_2.out).1 (fun e => HNCv1.out (Option.some.inj e))).trans HBv1_2.out
  have EU_3 : Hid (CurAt w3 c1 a len cap) := hcu
  have HOX2_3 : Hid ((w3).ownsRow w.heap.size 9 1 (.slice oX2 xs2.length pX2) xs2.length (xs2.map Value.string)) := owns_wide ownX2 hb2.size
  have LOX2 : Hid (∀ g, (Value.ownBlock (.slice oX2 xs2.length pX2)) = some g → (w2).heap.size ≤ g) := fun g hg => owns_ge ownX2 hg
  have HIX2 : Hid (∀ g, (Value.ownBlock (.slice oX2 xs2.length pX2)) = some g → g < (w3).heap.size) := fun g hg => owns_lt ownX2 hg
  clear ownX2
  have HOY2_3 : Hid ((w3).ownsRow w.heap.size 9 1 (.slice oY2 ys2.length pY2) ys2.length (ys2.map Value.string)) := owns_wide ownY2 hb2.size
  have LOY2 : Hid (∀ g, (Value.ownBlock (.slice oY2 ys2.length pY2)) = some g → (w2).heap.size ≤ g) := fun g hg => owns_ge ownY2 hg
  have HIY2 : Hid (∀ g, (Value.ownBlock (.slice oY2 ys2.length pY2)) = some g → g < (w3).heap.size) := fun g hg => owns_lt ownY2 hg
  clear ownY2
  have HOG2_3 : Hid ((w3).ownsRow w.heap.size 131 2 (.slice oG2 fs2.length pG2) fs2.length (flatF fs2)) := owns_wide ownG2 hb2.size
  have LOG2 : Hid (∀ g, (Value.ownBlock (.slice oG2 fs2.length pG2)) = some g → (w2).heap.size ≤ g) := fun g hg => owns_ge ownG2 hg
  have HIG2 : Hid (∀ g, (Value.ownBlock (.slice oG2 fs2.length pG2)) = some g → g < (w3).heap.size) := fun g hg => owns_lt ownG2 hg
  clear ownG2
  clear hb2 HBv1_2 EU_2 hg hcu
  have cv1_0 : (w3).cell? ⟨qv1, 0, none⟩ = some (.string ⟨#[]⟩) := (cell_of HBv1_3.out 0).trans rfl
  have fcv1_0 : (w3).frozen? ⟨qv1, 0, none⟩ = false := frozen_of HBv1_3.out 0
  have cv1_1 : (w3).cell? ⟨qv1, 1, none⟩ = some (.slice none 0 0) := (cell_of HBv1_3.out 1).trans rfl
  have fcv1_1 : (w3).frozen? ⟨qv1, 1, none⟩ = false := frozen_of HBv1_3.out 1
  have cv1_2 : (w3).cell? ⟨qv1, 2, none⟩ = some (.slice none 0 0) := (cell_of HBv1_3.out 2).trans rfl
  have fcv1_2 : (w3).frozen? ⟨qv1, 2, none⟩ = false := frozen_of HBv1_3.out 2
  have cv1_3 : (w3).cell? ⟨qv1, 3, none⟩ = some (.int .i64 0) := (cell_of HBv1_3.out 3).trans rfl
  have fcv1_3 : (w3).frozen? ⟨qv1, 3, none⟩ = false := frozen_of HBv1_3.out 3
  have cv1_4 : (w3).cell? ⟨qv1, 4, none⟩ = some (.slice none 0 0) := (cell_of HBv1_3.out 4).trans rfl
  have fcv1_4 : (w3).frozen? ⟨qv1, 4, none⟩ = false := frozen_of HBv1_3.out 4
  have cv1_5 : (w3).cell? ⟨qv1, 5, none⟩ = some (.string ⟨#[]⟩) := (cell_of HBv1_3.out 5).trans rfl
  have fcv1_5 : (w3).frozen? ⟨qv1, 5, none⟩ = false := frozen_of HBv1_3.out 5
  have cv1_6 : (w3).cell? ⟨qv1, 6, none⟩ = some (.int .i64 0) := (cell_of HBv1_3.out 6).trans rfl
  have fcv1_6 : (w3).frozen? ⟨qv1, 6, none⟩ = false := frozen_of HBv1_3.out 6
  go_wp2_with fail
  obtain ⟨w4, hW4⟩ : ∃ W, W = (w3).setCell ⟨qv1, 0, none⟩ (.string p2) := ⟨_, rfl⟩
  rw [← hW4]
  have hb4 : Below w.heap.size w (w4) := by rw [hW4]; exact (hb3.setCell (p := ⟨qv1, 0, none⟩) HGv1.out _)
  have HM4 : Hid ((w3).heap.size ≤ w4.heap.size) := by show _ ≤ _; rw [hW4]; simp
  have HOX2_4 : Hid ((w4).ownsRow w.heap.size 9 1 (.slice oX2 xs2.length pX2) xs2.length (xs2.map Value.string)) := by show World.ownsRow _ _ _ _ _ _ _; rw [hW4]; exact owns_same HOX2_3.out (fun g hg => heap_setCell_other _ _ g _ (own_ne HOX2_3.out HBv1_3.out (by decide) g hg))
  have HOY2_4 : Hid ((w4).ownsRow w.heap.size 9 1 (.slice oY2 ys2.length pY2) ys2.length (ys2.map Value.string)) := by show World.ownsRow _ _ _ _ _ _ _; rw [hW4]; exact owns_same HOY2_3.out (fun g hg => heap_setCell_other _ _ g _ (own_ne HOY2_3.out HBv1_3.out (by decide) g hg))
  have HOG2_4 : Hid ((w4).ownsRow w.heap.size 131 2 (.slice oG2 fs2.length pG2) fs2.length (flatF fs2)) := by show World.ownsRow _ _ _ _ _ _ _; rw [hW4]; exact owns_same HOG2_3.out (fun g hg => heap_setCell_other _ _ g _ (own_ne HOG2_3.out HBv1_3.out (by decide) g hg))
  have EU_4 : Hid (CurAt w4 c1 a len cap) := by show CurAt _ _ _ _ _; rw [hW4]; exact cur_set EU_3.out HNCv1.out _ _
  have HBv1_4 : Hid ((w4).heap[qv1]? = some (.cells #[.string p2, .slice none 0 0, .slice none 0 0, .int .i64 0, .slice none 0 0, .string ⟨#[]⟩, .int .i64 0] 29)) := by show _ = _; rw [hW4]; have h := heap_set _ _ 0 _ _ _ (.string p2) HBv1_3.out; simpa using h
  clear hb3 HOX2_3 HOY2_3 HOG2_3 HBv1_3 EU_3 hW4
  obtain ⟨w5, hW5⟩ : ∃ W, W = (w4).setCell ⟨qv1, 1, none⟩ (.slice oX2 xs2.length pX2) := ⟨_, rfl⟩
  rw [← hW5]
  have hb5 : Below w.heap.size w (w5) := by rw [hW5]; exact (hb4.setCell (p := ⟨qv1, 1, none⟩) HGv1.out _)
  have HM5 : Hid ((w4).heap.size ≤ w5.heap.size) := by show _ ≤ _; rw [hW5]; simp
  have HOX2_5 : Hid ((w5).ownsRow w.heap.size 9 1 (.slice oX2 xs2.length pX2) xs2.length (xs2.map Value.string)) := by show World.ownsRow _ _ _ _ _ _ _; rw [hW5]; exact owns_same HOX2_4.out (fun g hg => heap_setCell_other _ _ g _ (own_ne HOX2_4.out HBv1_4.out (by decide) g hg))
  have HOY2_5 : Hid ((w5).ownsRow w.heap.size 9 1 (.slice oY2 ys2.length pY2) ys2.length (ys2.map Value.string)) := by show World.ownsRow _ _ _ _ _ _ _; rw [hW5]; exact owns_same HOY2_4.out (fun g hg => heap_setCell_other _ _ g _ (own_ne HOY2_4.out HBv1_4.out (by decide) g hg))
  have HOG2_5 : Hid ((w5).ownsRow w.heap.size 131 2 (.slice oG2 fs2.length pG2) fs2.length (flatF fs2)) := by show World.ownsRow _ _ _ _ _ _ _; rw [hW5]; exact owns_same HOG2_4.out (fun g hg => heap_setCell_other _ _ g _ (own_ne HOG2_4.out HBv1_4.out (by decide) g hg))
  have EU_5 : Hid (CurAt w5 c1 a len cap) := by show CurAt _ _ _ _ _; rw [hW5]; exact cur_set EU_4.out HNCv1.out _ _
  have HBv1_5 : Hid ((w5).heap[qv1]? = some (.cells #[.string p2, .slice oX2 xs2.length pX2, .slice none 0 0, .int .i64 0, .slice none 0 0, .string ⟨#[]⟩, .int .i64 0] 29)) := by show _ = _; rw [hW5]; have h := heap_set _ _ 1 _ _ _ (.slice oX2 xs2.length pX2) HBv1_4.out; simpa using h
  clear hb4 HOX2_4 HOY2_4 HOG2_4 HBv1_4 EU_4 hW5
  obtain ⟨w6, hW6⟩ : ∃ W, W = (w5).setCell ⟨qv1, 2, none⟩ (.slice oY2 ys2.length pY2) := ⟨_, rfl⟩
  rw [← hW6]
  have hb6 : Below w.heap.size w (w6) := by rw [hW6]; exact (hb5.setCell (p := ⟨qv1, 2, none⟩) HGv1.out _)
  have HM6 : Hid ((w5).heap.size ≤ w6.heap.size) := by show _ ≤ _; rw [hW6]; simp
  have HOX2_6 : Hid ((w6).ownsRow w.heap.size 9 1 (.slice oX2 xs2.length pX2) xs2.length (xs2.map Value.string)) := by show World.ownsRow _ _ _ _ _ _ _; rw [hW6]; exact owns_same HOX2_5.out (fun g hg => heap_setCell_other _ _ g _ (own_ne HOX2_5.out HBv1_5.out (by decide) g hg))
  have HOY2_6 : Hid ((w6).ownsRow w.heap.size 9 1 (.slice oY2 ys2.length pY2) ys2.length (ys2.map Value.string)) := by show World.ownsRow _ _ _ _ _ _ _; rw [hW6]; exact owns_same HOY2_5.out (fun g hg => heap_setCell_other _ _ g _ (own_ne HOY2_5.out HBv1_5.out (by decide) g hg))
  have HOG2_6 : Hid ((w6).ownsRow w.heap.size 131 2 (.slice oG2 fs2.length pG2) fs2.length (flatF fs2)) := by show World.ownsRow _ _ _ _ _ _ _; rw [hW6]; exact owns_same HOG2_5.out (fun g hg => heap_setCell_other _ _ g _ (own_ne HOG2_5.out HBv1_5.out (by decide) g hg))
  have EU_6 : Hid (CurAt w6 c1 a len cap) := by show CurAt _ _ _ _ _; rw [hW6]; exact cur_set EU_5.out HNCv1.out _ _
  have HBv1_6 : Hid ((w6).heap[qv1]? = some (.cells #[.string p2, .slice oX2 xs2.length pX2, .slice oY2 ys2.length pY2, .int .i64 0, .slice none 0 0, .string ⟨#[]⟩, .int .i64 0] 29)) := by show _ = _; rw [hW6]; have h := heap_set _ _ 2 _ _ _ (.slice oY2 ys2.length pY2) HBv1_5.out; simpa using h
  clear hb5 HOX2_5 HOY2_5 HOG2_5 HBv1_5 EU_5 hW6
  obtain ⟨w7, hW7⟩ : ∃ W, W = (w6).setCell ⟨qv1, 3, none⟩ (.int .i64 st2) := ⟨_, rfl⟩
  rw [← hW7]
  have hb7 : Below w.heap.size w (w7) := by rw [hW7]; exact (hb6.setCell (p := ⟨qv1, 3, none⟩) HGv1.out _)
  have HM7 : Hid ((w6).heap.size ≤ w7.heap.size) := by show _ ≤ _; rw [hW7]; simp
  have HOX2_7 : Hid ((w7).ownsRow w.heap.size 9 1 (.slice oX2 xs2.length pX2) xs2.length (xs2.map Value.string)) := by show World.ownsRow _ _ _ _ _ _ _; rw [hW7]; exact owns_same HOX2_6.out (fun g hg => heap_setCell_other _ _ g _ (own_ne HOX2_6.out HBv1_6.out (by decide) g hg))
  have HOY2_7 : Hid ((w7).ownsRow w.heap.size 9 1 (.slice oY2 ys2.length pY2) ys2.length (ys2.map Value.string)) := by show World.ownsRow _ _ _ _ _ _ _; rw [hW7]; exact owns_same HOY2_6.out (fun g hg => heap_setCell_other _ _ g _ (own_ne HOY2_6.out HBv1_6.out (by decide) g hg))
  have HOG2_7 : Hid ((w7).ownsRow w.heap.size 131 2 (.slice oG2 fs2.length pG2) fs2.length (flatF fs2)) := by show World.ownsRow _ _ _ _ _ _ _; rw [hW7]; exact owns_same HOG2_6.out (fun g hg => heap_setCell_other _ _ g _ (own_ne HOG2_6.out HBv1_6.out (by decide) g hg))
  have EU_7 : Hid (CurAt w7 c1 a len cap) := by show CurAt _ _ _ _ _; rw [hW7]; exact cur_set EU_6.out HNCv1.out _ _
  have HBv1_7 : Hid ((w7).heap[qv1]? = some (.cells #[.string p2, .slice oX2 xs2.length pX2, .slice oY2 ys2.length pY2, .int .i64 st2, .slice none 0 0, .string ⟨#[]⟩, .int .i64 0] 29)) := by show _ = _; rw [hW7]; have h := heap_set _ _ 3 _ _ _ (.int .i64 st2) HBv1_6.out; simpa using h
  clear hb6 HOX2_6 HOY2_6 HOG2_6 HBv1_6 EU_6 hW7
  obtain ⟨w8, hW8⟩ : ∃ W, W = (w7).setCell ⟨qv1, 4, none⟩ (.slice oG2 fs2.length pG2) := ⟨_, rfl⟩
  rw [← hW8]
  have hb8 : Below w.heap.size w (w8) := by rw [hW8]; exact (hb7.setCell (p := ⟨qv1, 4, none⟩) HGv1.out _)
  have HM8 : Hid ((w7).heap.size ≤ w8.heap.size) := by show _ ≤ _; rw [hW8]; simp
  have HOX2_8 : Hid ((w8).ownsRow w.heap.size 9 1 (.slice oX2 xs2.length pX2) xs2.length (xs2.map Value.string)) := by show World.ownsRow _ _ _ _ _ _ _; rw [hW8]; exact owns_same HOX2_7.out (fun g hg => heap_setCell_other _ _ g _ (own_ne HOX2_7.out HBv1_7.out (by decide) g hg))
  have HOY2_8 : Hid ((w8).ownsRow w.heap.size 9 1 (.slice oY2 ys2.length pY2) ys2.length (ys2.map Value.string)) := by show World.ownsRow _ _ _ _ _ _ _; rw [hW8]; exact owns_same HOY2_7.out (fun g hg => heap_setCell_other _ _ g _ (own_ne HOY2_7.out HBv1_7.out (by decide) g hg))
  have HOG2_8 : Hid ((w8).ownsRow w.heap.size 131 2 (.slice oG2 fs2.length pG2) fs2.length (flatF fs2)) := by show World.ownsRow _ _ _ _ _ _ _; rw [hW8]; exact owns_same HOG2_7.out (fun g hg => heap_setCell_other _ _ g _ (own_ne HOG2_7.out HBv1_7.out (by decide) g hg))
  have EU_8 : Hid (CurAt w8 c1 a len cap) := by show CurAt _ _ _ _ _; rw [hW8]; exact cur_set EU_7.out HNCv1.out _ _
  have HBv1_8 : Hid ((w8).heap[qv1]? = some (.cells #[.string p2, .slice oX2 xs2.length pX2, .slice oY2 ys2.length pY2, .int .i64 st2, .slice oG2 fs2.length pG2, .string ⟨#[]⟩, .int .i64 0] 29)) := by show _ = _; rw [hW8]; have h := heap_set _ _ 4 _ _ _ (.slice oG2 fs2.length pG2) HBv1_7.out; simpa using h
  clear hb7 HOX2_7 HOY2_7 HOG2_7 HBv1_7 EU_7 hW8
  obtain ⟨w9, hW9⟩ : ∃ W, W = (w8).setCell ⟨qv1, 5, none⟩ (.string d2) := ⟨_, rfl⟩
  rw [← hW9]
  have hb9 : Below w.heap.size w (w9) := by rw [hW9]; exact (hb8.setCell (p := ⟨qv1, 5, none⟩) HGv1.out _)
  have HM9 : Hid ((w8).heap.size ≤ w9.heap.size) := by show _ ≤ _; rw [hW9]; simp
  have HOX2_9 : Hid ((w9).ownsRow w.heap.size 9 1 (.slice oX2 xs2.length pX2) xs2.length (xs2.map Value.string)) := by show World.ownsRow _ _ _ _ _ _ _; rw [hW9]; exact owns_same HOX2_8.out (fun g hg => heap_setCell_other _ _ g _ (own_ne HOX2_8.out HBv1_8.out (by decide) g hg))
  have HOY2_9 : Hid ((w9).ownsRow w.heap.size 9 1 (.slice oY2 ys2.length pY2) ys2.length (ys2.map Value.string)) := by show World.ownsRow _ _ _ _ _ _ _; rw [hW9]; exact owns_same HOY2_8.out (fun g hg => heap_setCell_other _ _ g _ (own_ne HOY2_8.out HBv1_8.out (by decide) g hg))
  have HOG2_9 : Hid ((w9).ownsRow w.heap.size 131 2 (.slice oG2 fs2.length pG2) fs2.length (flatF fs2)) := by show World.ownsRow _ _ _ _ _ _ _; rw [hW9]; exact owns_same HOG2_8.out (fun g hg => heap_setCell_other _ _ g _ (own_ne HOG2_8.out HBv1_8.out (by decide) g hg))
  have EU_9 : Hid (CurAt w9 c1 a len cap) := by show CurAt _ _ _ _ _; rw [hW9]; exact cur_set EU_8.out HNCv1.out _ _
  have HBv1_9 : Hid ((w9).heap[qv1]? = some (.cells #[.string p2, .slice oX2 xs2.length pX2, .slice oY2 ys2.length pY2, .int .i64 st2, .slice oG2 fs2.length pG2, .string d2, .int .i64 0] 29)) := by show _ = _; rw [hW9]; have h := heap_set _ _ 5 _ _ _ (.string d2) HBv1_8.out; simpa using h
  clear hb8 HOX2_8 HOY2_8 HOG2_8 HBv1_8 EU_8 hW9
  obtain ⟨w10, hW10⟩ : ∃ W, W = (w9).setCell ⟨qv1, 6, none⟩ (.int .i64 t2) := ⟨_, rfl⟩
  rw [← hW10]
  have hb10 : Below w.heap.size w (w10) := by rw [hW10]; exact (hb9.setCell (p := ⟨qv1, 6, none⟩) HGv1.out _)
  have HM10 : Hid ((w9).heap.size ≤ w10.heap.size) := by show _ ≤ _; rw [hW10]; simp
  have HOX2_10 : Hid ((w10).ownsRow w.heap.size 9 1 (.slice oX2 xs2.length pX2) xs2.length (xs2.map Value.string)) := by show World.ownsRow _ _ _ _ _ _ _; rw [hW10]; exact owns_same HOX2_9.out (fun g hg => heap_setCell_other _ _ g _ (own_ne HOX2_9.out HBv1_9.out (by decide) g hg))
  have HOY2_10 : Hid ((w10).ownsRow w.heap.size 9 1 (.slice oY2 ys2.length pY2) ys2.length (ys2.map Value.string)) := by show World.ownsRow _ _ _ _ _ _ _; rw [hW10]; exact owns_same HOY2_9.out (fun g hg => heap_setCell_other _ _ g _ (own_ne HOY2_9.out HBv1_9.out (by decide) g hg))
  have HOG2_10 : Hid ((w10).ownsRow w.heap.size 131 2 (.slice oG2 fs2.length pG2) fs2.length (flatF fs2)) := by show World.ownsRow _ _ _ _ _ _ _; rw [hW10]; exact owns_same HOG2_9.out (fun g hg => heap_setCell_other _ _ g _ (own_ne HOG2_9.out HBv1_9.out (by decide) g hg))
  have EU_10 : Hid (CurAt w10 c1 a len cap) := by show CurAt _ _ _ _ _; rw [hW10]; exact cur_set EU_9.out HNCv1.out _ _
  have HBv1_10 : Hid ((w10).heap[qv1]? = some (.cells #[.string p2, .slice oX2 xs2.length pX2, .slice oY2 ys2.length pY2, .int .i64 st2, .slice oG2 fs2.length pG2, .string d2, .int .i64 t2] 29)) := by show _ = _; rw [hW10]; have h := heap_set _ _ 6 _ _ _ (.int .i64 t2) HBv1_9.out; simpa using h
  clear hb9 HOX2_9 HOY2_9 HOG2_9 HBv1_9 EU_9 hW10
  have kv1_0 : (w10).cell? ⟨qv1, 0, none⟩ = some (.string p2) := (cell_of HBv1_10.out 0).trans rfl
  have kv1_1 : (w10).cell? ⟨qv1, 1, none⟩ = some (.slice oX2 xs2.length pX2) := (cell_of HBv1_10.out 1).trans rfl
  have kv1_2 : (w10).cell? ⟨qv1, 2, none⟩ = some (.slice oY2 ys2.length pY2) := (cell_of HBv1_10.out 2).trans rfl
  have kv1_3 : (w10).cell? ⟨qv1, 3, none⟩ = some (.int .i64 st2) := (cell_of HBv1_10.out 3).trans rfl
  have kv1_4 : (w10).cell? ⟨qv1, 4, none⟩ = some (.slice oG2 fs2.length pG2) := (cell_of HBv1_10.out 4).trans rfl
  have kv1_5 : (w10).cell? ⟨qv1, 5, none⟩ = some (.string d2) := (cell_of HBv1_10.out 5).trans rfl
  have kv1_6 : (w10).cell? ⟨qv1, 6, none⟩ = some (.int .i64 t2) := (cell_of HBv1_10.out 6).trans rfl
  refine bodyPost_ret (v := .agg #[.string p2, .slice oX2 xs2.length pX2, .slice oY2 ys2.length pY2, .int .i64 st2, .slice oG2 fs2.length pG2, .string d2, .int .i64 t2]) (by simp [results, Tryz.results7, go_sem, kv1_0, kv1_1, kv1_2, kv1_3, kv1_4, kv1_5, kv1_6]) rfl ?_
  exact ⟨_, _, _, _, _, _, _, _, _, _, rfl, ⟨HOX2_10.out, HOY2_10.out, HOG2_10.out⟩, HSM2.out, hb10⟩

theorem objT_small {p : ByteArray} {xs ys : List ByteArray} {st : Int} {fs : List (ByteArray × ByteArray)} {b : ByteArray} {t : Int} (h : ObjP p xs ys st fs b t) : (objT p ys st fs b t).size ≤ 20000 := by
  have h1 := vals_small h ys.length (Nat.le_refl _)
  have h2 := resp_small h.1
  have h3 := (small_of h).2.2.1
  unfold objT
  rw [ByteArray.size_append]
  omega

set_option maxHeartbeats 8000000 in
set_option maxRecDepth 100000 in
theorem drawObjRead_any (a : Option Addr) (len cap : Nat) (zs : List Int) (w : World) (hcode : CodeAt w w.heap.size a len zs) :
    Calls Tryz.prog 14 #[.slice a len cap] w fun e w' => ∃ x : ByteArray, e = .returned (.string x) ∧ x.size ≤ 30000 ∧ Below w.heap.size w w' := by
  have HCO : Hid (∀ W, Below w.heap.size w W → CodeAt W w.heap.size a len zs) := fun W h => hcode.below h
  clear hcode
  have hb0 : Below w.heap.size w w := Below.refl _ _
  go_enter Tryz.func14, Tryz.ntmps14
  go_wp2_with fail
  refine (l1New_any w.heap.size a len cap zs _ (HCO.out _ hb0)).mono ?_
  rintro e w1 ⟨rfl, hcu, bw⟩
  obtain ⟨c1, hc⟩ : ∃ c, c = w.heap.size := ⟨_, rfl⟩
  rw [← hc] at hcu ⊢
  have HGC : Hid (w.heap.size ≤ c1) := by show _ ≤ _; rw [hc]; exact hb0.size
  have HBC : Hid (w.heap.size ≤ c1) := HGC.out
  have HCU : Hid (CurAt w1 c1 a len cap) := hcu
  clear hc hcu
  have hb1 : Below w.heap.size w (w1) := hb0.trans (bw.mono hb0.size)
  have HM1 : Hid ((w).heap.size ≤ (w1).heap.size) := bw.size
  clear hb0 bw
  have EU_1 : Hid (CurAt w1 c1 a len cap) := HCU.out
  clear HCU
  go_wp2_with fail
  refine (l1Below_any c1 w.heap.size 30 a len cap zs _ EU_1.out (HCO.out _ hb1) HBC.out (by decide) (by decide)).mono ?_
  rintro e w2 ⟨n2, rfl, hn02, hn12, hcu, hg⟩
  have hb2 : Below w.heap.size w (w2) := hb1.grown hg hb1.size (by intro k hk; cases hk; exact HGC.out)
  have HM2 : Hid ((w1).heap.size ≤ (w2).heap.size) := hg.size
  have EU_2 : Hid (CurAt w2 c1 a len cap) := hcu
  clear hb1 EU_1 hg hcu
  go_wp2_with fail
  refine (l10DrawRight_any n2 (by omega) c1 w.heap.size a len cap zs _ EU_2.out (HCO.out _ hb2) HBC.out).mono ?_
  rintro e w3 ⟨p3, vv1, xs3, vv2, ys3, st3, vv3, fs3, d3, t3, rfl, ⟨ownX3, ownY3, ownG3, ne3⟩, hsm3, hcu, hg⟩
  obtain ⟨oX3, pX3, rfl⟩ := slice_of_owns ownX3
  obtain ⟨oY3, pY3, rfl⟩ := slice_of_owns ownY3
  obtain ⟨oG3, pG3, rfl⟩ := slice_of_owns ownG3
  have AP3 : Hid (∀ j, (Value.slice oX3 xs3.length pX3).ownBlock = some j → (Value.slice oY3 ys3.length pY3).ownBlock ≠ some j) := ne3
  have HSM3 : Hid (SmallO p3 xs3 ys3 fs3 d3 t3 ∧ xs3.length ≤ 4 ∧ ys3.length ≤ 4 ∧ fs3.length ≤ 8) := hsm3
  have hxl3 := hsm3.2.1
  have hyl3 := hsm3.2.2.1
  clear ne3 hsm3
  have hb3 : Below w.heap.size w (w3) := hb2.grown hg hb2.size (by intro k hk; cases hk; exact HGC.out)
  have HM3 : Hid ((w2).heap.size ≤ (w3).heap.size) := hg.size
  have EU_3 : Hid (CurAt w3 c1 a len cap) := hcu
  have HOX3_3 : Hid ((w3).ownsRow w.heap.size 9 1 (.slice oX3 xs3.length pX3) xs3.length (xs3.map Value.string)) := owns_wide ownX3 hb2.size
  have LOX3 : Hid (∀ g, (Value.ownBlock (.slice oX3 xs3.length pX3)) = some g → (w2).heap.size ≤ g) := fun g hg => owns_ge ownX3 hg
  have HIX3 : Hid (∀ g, (Value.ownBlock (.slice oX3 xs3.length pX3)) = some g → g < (w3).heap.size) := fun g hg => owns_lt ownX3 hg
  clear ownX3
  have HOY3_3 : Hid ((w3).ownsRow w.heap.size 9 1 (.slice oY3 ys3.length pY3) ys3.length (ys3.map Value.string)) := owns_wide ownY3 hb2.size
  have LOY3 : Hid (∀ g, (Value.ownBlock (.slice oY3 ys3.length pY3)) = some g → (w2).heap.size ≤ g) := fun g hg => owns_ge ownY3 hg
  have HIY3 : Hid (∀ g, (Value.ownBlock (.slice oY3 ys3.length pY3)) = some g → g < (w3).heap.size) := fun g hg => owns_lt ownY3 hg
  clear ownY3
  have HOG3_3 : Hid ((w3).ownsRow w.heap.size 131 2 (.slice oG3 fs3.length pG3) fs3.length (flatF fs3)) := owns_wide ownG3 hb2.size
  have LOG3 : Hid (∀ g, (Value.ownBlock (.slice oG3 fs3.length pG3)) = some g → (w2).heap.size ≤ g) := fun g hg => owns_ge ownG3 hg
  have HIG3 : Hid (∀ g, (Value.ownBlock (.slice oG3 fs3.length pG3)) = some g → g < (w3).heap.size) := fun g hg => owns_lt ownG3 hg
  clear ownG3
  clear hb2 EU_2 hg hcu
  go_wp2_with fail
  refine (specObjText_any p3 _ xs3.length _ xs3 _ ys3.length _ ys3 st3 _ fs3.length _ fs3 d3 t3 _ (texts_view HOX3_3.out) (texts_view HOY3_3.out) (FieldsV.of_owns HOG3_3.out) (by have := HSM3.out.1.2.1.1; omega) (by have := HSM3.out.1.2.2.1.1; omega) (by have := HSM3.out.1.2.2.2.1.1; omega) (fun i hi => by have := HSM3.out.1.2.1.2 _ (textAt_mem xs3 i hi); unfold maxLen; omega) (fun i hi => by have := HSM3.out.1.2.2.1.2 _ (textAt_mem ys3 i hi); unfold maxLen; omega) (shortWalk HSM3.out.1.2.2.2.1.2) (by have := HSM3.out.1.1; unfold maxLen; omega) (by have := HSM3.out.1.2.2.2.2.1; unfold maxLen; omega) (by have := short_get2 HSM3.out.1.2.2.2.1.2 varyName; omega)).mono ?_
  rintro e w4 ⟨u4, rfl, hu1, hu2, bw⟩
  have HU4 : Hid (u4.size ≤ 20000) := by
    classical
    show _ ≤ _
    by_cases hp : ObjP p3 xs3 ys3 st3 fs3 d3 t3
    · rw [hu1 hp]
      exact objT_small hp
    · rw [hu2 hp]; decide
  clear hu1 hu2
  have hb4 : Below w.heap.size w (w4) := hb3.trans (bw.mono hb3.size)
  have HM4 : Hid ((w3).heap.size ≤ (w4).heap.size) := bw.size
  have HOX3_4 : Hid ((w4).ownsRow w.heap.size 9 1 (.slice oX3 xs3.length pX3) xs3.length (xs3.map Value.string)) := owns_below HOX3_3.out bw (fun g hg => owns_lt HOX3_3.out hg)
  have HOY3_4 : Hid ((w4).ownsRow w.heap.size 9 1 (.slice oY3 ys3.length pY3) ys3.length (ys3.map Value.string)) := owns_below HOY3_3.out bw (fun g hg => owns_lt HOY3_3.out hg)
  have HOG3_4 : Hid ((w4).ownsRow w.heap.size 131 2 (.slice oG3 fs3.length pG3) fs3.length (flatF fs3)) := owns_below HOG3_3.out bw (fun g hg => owns_lt HOG3_3.out hg)
  have EU_4 : Hid (CurAt w4 c1 a len cap) := EU_3.out.below bw EU_3.out.lt
  clear hb3 HOX3_3 HOY3_3 HOG3_3 EU_3 bw
  go_wp2_with fail
  obtain ⟨qv1, hqv1⟩ : ∃ q, q = (w4).heap.size := ⟨_, rfl⟩
  obtain ⟨w5, hW5⟩ : ∃ W, W = (w4).alloc (.cells #[.string ⟨#[32]⟩, .string ⟨#[10]⟩, .string ⟨#[48]⟩, .string ⟨#[120]⟩, .string ⟨#[49]⟩] 9) := ⟨_, rfl⟩
  have hz5 : (w4).heap.size = qv1 := hqv1.symm
  first | rw [← hW5, ← hqv1] | rw [← hW5]
  have hs5 : w5.heap.size = qv1 + 1 := by rw [hW5, ← hz5]; simp
  have bw : Below (w4).heap.size (w4) w5 := by rw [hW5]; exact (Below.refl _ _).alloc (Nat.le_refl _) _
  have hb5 : Below w.heap.size w (w5) := hb4.trans (bw.mono hb4.size)
  have HM5 : Hid ((w4).heap.size ≤ (w5).heap.size) := bw.size
  have HOX3_5 : Hid ((w5).ownsRow w.heap.size 9 1 (.slice oX3 xs3.length pX3) xs3.length (xs3.map Value.string)) := owns_below HOX3_4.out bw (fun g hg => owns_lt HOX3_4.out hg)
  have HOY3_5 : Hid ((w5).ownsRow w.heap.size 9 1 (.slice oY3 ys3.length pY3) ys3.length (ys3.map Value.string)) := owns_below HOY3_4.out bw (fun g hg => owns_lt HOY3_4.out hg)
  have HOG3_5 : Hid ((w5).ownsRow w.heap.size 131 2 (.slice oG3 fs3.length pG3) fs3.length (flatF fs3)) := owns_below HOG3_4.out bw (fun g hg => owns_lt HOG3_4.out hg)
  have EU_5 : Hid (CurAt w5 c1 a len cap) := EU_4.out.below bw EU_4.out.lt
  have HBv1_5 : Hid ((w5).heap[qv1]? = some (.cells #[.string ⟨#[32]⟩, .string ⟨#[10]⟩, .string ⟨#[48]⟩, .string ⟨#[120]⟩, .string ⟨#[49]⟩] 9)) := by show _ = _; rw [hW5, ← hz5]; exact heap_alloc_new _ _
  have HGv1 : Hid (w.heap.size ≤ qv1) := by show _ ≤ _; rw [← hz5]; exact hb4.size
  have HNCv1 : Hid (qv1 ≠ c1) := fun e => by have h1 := EU_4.out.lt; omega
  clear hb4 HOX3_4 HOY3_4 HOG3_4 EU_4 bw hW5 hz5
  clear hs5 hqv1
  have HLS : Hid (ListAt w5 qv1 5 (textAt [⟨#[32]⟩, ⟨#[10]⟩, ⟨#[48]⟩, ⟨#[120]⟩, ⟨#[49]⟩])) := by
    intro j hj
    match j, hj with
    | 0, _ => exact (cell_of HBv1_5.out 0).trans rfl
    | 1, _ => exact (cell_of HBv1_5.out 1).trans rfl
    | 2, _ => exact (cell_of HBv1_5.out 2).trans rfl
    | 3, _ => exact (cell_of HBv1_5.out 3).trans rfl
    | 4, _ => exact (cell_of HBv1_5.out 4).trans rfl
  refine (l3Dent_any c1 w.heap.size u4 (textAt [⟨#[32]⟩, ⟨#[10]⟩, ⟨#[48]⟩, ⟨#[120]⟩, ⟨#[49]⟩]) qv1 5 (by decide) (by decide) (by decide) a len cap zs _ EU_5.out (HCO.out _ hb5) HBC.out HU4.out HNCv1.out HLS.out).mono ?_
  rintro e w6 ⟨x5, rfl, hx5, hcu, hg⟩
  have HXx5 : Hid (x5.size ≤ 20064) := hx5
  clear hx5 HLS
  have hb6 : Below w.heap.size w (w6) := hb5.grown hg hb5.size (by intro k hk; cases hk; exact HGC.out)
  have HM6 : Hid ((w5).heap.size ≤ (w6).heap.size) := hg.size
  have HOX3_6 : Hid ((w6).ownsRow w.heap.size 9 1 (.slice oX3 xs3.length pX3) xs3.length (xs3.map Value.string)) := owns_same HOX3_5.out (fun g hgg => hg.block g (owns_lt HOX3_5.out hgg) (fun e => own_cur HOX3_5.out EU_5.out (by decide) g hgg (Option.some.inj e)))
  have HOY3_6 : Hid ((w6).ownsRow w.heap.size 9 1 (.slice oY3 ys3.length pY3) ys3.length (ys3.map Value.string)) := owns_same HOY3_5.out (fun g hgg => hg.block g (owns_lt HOY3_5.out hgg) (fun e => own_cur HOY3_5.out EU_5.out (by decide) g hgg (Option.some.inj e)))
  have HOG3_6 : Hid ((w6).ownsRow w.heap.size 131 2 (.slice oG3 fs3.length pG3) fs3.length (flatF fs3)) := owns_same HOG3_5.out (fun g hgg => hg.block g (owns_lt HOG3_5.out hgg) (fun e => own_cur HOG3_5.out EU_5.out (by decide) g hgg (Option.some.inj e)))
  have HBv1_6 : Hid ((w6).heap[qv1]? = some (.cells #[.string ⟨#[32]⟩, .string ⟨#[10]⟩, .string ⟨#[48]⟩, .string ⟨#[120]⟩, .string ⟨#[49]⟩] 9)) := (hg.block _ (Array.getElem?_eq_some_iff.1 HBv1_5.out).1 (fun e => HNCv1.out (Option.some.inj e))).trans HBv1_5.out
  have EU_6 : Hid (CurAt w6 c1 a len cap) := hcu
  clear hb5 HOX3_5 HOY3_5 HOG3_5 HBv1_5 EU_5 hg hcu
  clear HBv1_6
  go_wp2_with fail
  go_ret
  exact ⟨_, rfl, Nat.le_trans HXx5.out (by decide), hb6⟩

end Go.Proofs.YtdlhicdfldecgaaGreatDoor

namespace Go.Proofs.YtdlhicdfldecgaaGreatDoor
open Go.RowKit
open Go.Lib hiding intOf

theorem timeOk_any (t : Int) (w : World) :
    Calls Tryz.prog 34 #[.int .i64 t] w fun e w' => e = .returned (.bool (decide ((0 : Int) ≤ t ∧ t ≤ 1000000))) ∧ w' = w := by
  obtain ⟨D, hD⟩ : ∃ D, D = decide ((0 : Int) ≤ t ∧ t ≤ 1000000) := ⟨_, rfl⟩
  rw [← hD]
  by_cases h1 : 0 ≤ t
  · by_cases h2 : t ≤ 1000000
    · have HD : Hid (D = true) := by show _ = _; rw [hD]; exact decide_eq_true ⟨h1, h2⟩
      clear hD
      go_enter Tryz.func34, Tryz.ntmps34
      go_wp2
      go_ret
      exact ⟨by rw [HD.out]; rfl, rfl⟩
    · have HD : Hid (D = false) := by show _ = _; rw [hD]; exact decide_eq_false (fun h => h2 h.2)
      clear hD
      go_enter Tryz.func34, Tryz.ntmps34
      go_wp2
      go_ret
      exact ⟨by rw [HD.out]; rfl, rfl⟩
  · have HD : Hid (D = false) := by show _ = _; rw [hD]; exact decide_eq_false (fun h => h1 h.1)
    clear hD
    go_enter Tryz.func34, Tryz.ntmps34
    go_wp2
    go_ret
    exact ⟨by rw [HD.out]; rfl, rfl⟩

set_option maxHeartbeats 1000000 in
theorem valuesOk_any (oa : Option Addr) (m cm : Nat) (xs : List ByteArray) (w : World) (hx : TextsA w oa m xs) (hm : m ≤ 2000000) (hsz : ∀ i, i < m → (textAt xs i).size ≤ maxLen) :
    Calls Tryz.prog 38 #[.slice oa m cm] w fun e w' => BoolIs (∀ y ∈ xs, ValOk y) w e w' := by
  have HV : Hid (∀ W, Below w.heap.size w W → TextsA W oa m xs) := fun W h => hx.below h
  have HL : Hid (xs.length = m) := hx.1
  have HS : Hid (∀ i, i < m → (textAt xs i).size ≤ maxLen) := hsz
  clear hx hsz
  go_enter Tryz.func38, Tryz.ntmps38
  go_wp2
  go_loopw [7] (fun i wr => ∃ j : Nat, j ≤ m ∧ i = .int .i64 (j : Int) ∧ Hid (Below w.heap.size w wr) ∧ Hid (∀ x ∈ xs.take j, ValOk x)) (fun i _ => m - (intOf i).toNat)
  case atStart => exact ⟨0, Nat.zero_le _, rfl, Below.refl _ _, fun x hx => by simp at hx⟩
  case round =>
    obtain ⟨j, hj, rfl, HW, HN⟩ := hrel
    by_cases hlt : (j : Int) < (m : Int)
    · have hjx : j < xs.length := by rw [HL.out]; omega
      obtain ⟨g, hog, hg, hc⟩ := (HV.out wr HW.out).2 j (by omega)
      subst hog
      have hs := HS.out j (by omega)
      obtain ⟨x, hxx⟩ : ∃ x, x = textAt xs j := ⟨_, rfl⟩
      rw [← hxx] at hc hs
      have HM : Hid (x ∈ xs) := by show _ ∈ _; rw [hxx]; exact textAt_mem xs j hjx
      have HTK : Hid (xs.take (j + 1) = xs.take j ++ [x]) := by show _ = _; rw [take_textAt xs j hjx, hxx]
      clear hxx hjx
      go_wp2_with fail
      refine (implValueOk_any x _ hs).mono ?_
      rintro e w90 ⟨tx, rfl, htx, bw⟩
      have HW2 : Hid (Below w.heap.size w w90) := HW.out.trans (bw.mono HW.out.size)
      clear bw hc HW
      cases tx with
      | false =>
        have HF : Hid (¬ ∀ y ∈ xs, ValOk y) := fun h => nomatch htx.2 (h x HM.out)
        clear htx HN
        go_wp2_with fail
        go_ret
        exact BoolIs.no HF.out HW2.out
      | true =>
        have HN2 : Hid (∀ y ∈ xs.take (j + 1), ValOk y) := by
          intro y hy
          rw [HTK.out] at hy
          rcases List.mem_append.1 hy with hy | hy
          · exact HN.out y hy
          · rw [List.mem_singleton.1 hy]; exact htx.1 rfl
        clear htx HN
        go_wp2_with fail
        go_roundw
        case rel => exact ⟨j + 1, by omega, by go_num, HW2, HN2⟩
        case measure => simp [intOf]; omega
    · have HA : Hid (∀ y ∈ xs, ValOk y) := by
        have h := HN.out
        rw [List.take_of_length_le (by rw [HL.out]; omega)] at h
        exact h
      clear HN
      go_wp2_with fail
      go_ret
      exact ⟨true, rfl, ⟨fun _ => HA.out, fun _ => rfl⟩, HW.out⟩

theorem equalT_any (oa ob : Option Addr) (m cm k ck : Nat) (xs ys : List ByteArray) (w : World) (hx : TextsA w oa m xs) (hm : m ≤ 2000000) (hy : TextsA w ob k ys) (hk : k ≤ 2000000) :
    Calls Tryz.prog 35 #[.slice oa m cm, .slice ob k ck] w fun e w' => e = .returned (.bool (decide (xs = ys))) ∧ Below w.heap.size w w' := by
  by_cases hmk : m = k
  · subst hmk
    by_cases h0 : m = 0
    · subst h0
      refine (Tryz.slices_Equal_string_empty oa ob cm 0 ck w (by omega)).mono ?_
      rintro e w1 ⟨rfl, rfl⟩
      refine ⟨?_, Below.refl _ _⟩
      rw [List.length_eq_zero_iff.1 hx.1, List.length_eq_zero_iff.1 hy.1]
      simp
    · obtain ⟨g, rfl, _, _⟩ := hx.2 0 (by omega)
      obtain ⟨q, rfl, _, _⟩ := hy.2 0 (by omega)
      refine (Tryz.slices_Equal_string g 0 m cm q 0 m ck xs ys w (by rw [hx.1]; exact Nat.le_refl _) (by rw [hy.1]; exact Nat.le_refl _) (by omega) (by omega) (fun j hj => ?_) (fun j hj => ?_)).mono ?_
      · obtain ⟨g2, e2, _, h3⟩ := hx.2 j (by rw [← hx.1]; exact hj)
        cases e2
        rw [Nat.zero_add]
        exact h3
      · obtain ⟨g2, e2, _, h3⟩ := hy.2 j (by rw [← hy.1]; exact hj)
        cases e2
        rw [Nat.zero_add]
        exact h3
      · rintro e w1 ⟨rfl, n, rfl⟩
        refine ⟨?_, ⟨rfl, rfl, rfl, Nat.le_refl _, fun _ _ => rfl⟩⟩
        rw [List.take_of_length_le (by rw [hx.1]; exact Nat.le_refl _), List.take_of_length_le (by rw [hy.1]; exact Nat.le_refl _)]
  · refine (Tryz.slices_Equal_string_lens oa ob m cm k ck w hmk).mono ?_
    rintro e w1 ⟨rfl, rfl⟩
    refine ⟨?_, Below.refl _ _⟩
    rw [decide_eq_false (fun h => hmk (by rw [← hx.1, ← hy.1, h]))]

end Go.Proofs.YtdlhicdfldecgaaGreatDoor

namespace Go.Proofs.YtdlhicdfldecgaaGreatDoor
open Go.RowKit
open Go.Lib hiding intOf

set_option maxHeartbeats 1000000 in
theorem namesOk_any (oa : Option Addr) (m cm : Nat) (xs : List ByteArray) (w : World) (hx : TextsA w oa m xs) (hm : m ≤ 2000000) (hsz : ∀ i, i < m → (textAt xs i).size ≤ maxLen) :
    Calls Tryz.prog 37 #[.slice oa m cm] w fun e w' => BoolIs (NamesP xs) w e w' := by
  by_cases h4 : (4 : Int) < (m : Int)
  · have HF : Hid (¬ NamesP xs) := fun h => by have := h.2; rw [hx.1] at this; omega
    clear hx hsz
    go_enter Tryz.func37, Tryz.ntmps37
    go_wp2_with fail
    go_ret
    exact BoolIs.no HF.out (Below.refl _ _)
  have HX : Hid (∀ W, Below w.heap.size w W → TextsA W oa m xs) := fun W h => hx.below h
  have HL : Hid (xs.length = m) := hx.1
  have HS : Hid (∀ i, i < m → (textAt xs i).size ≤ maxLen) := hsz
  clear hx hsz
  go_enter Tryz.func37, Tryz.ntmps37
  go_wp2_with fail
  go_loopw [10] (fun i wr => ∃ j : Nat, j ≤ m ∧ i = .int .i64 (j : Int) ∧ Below w.heap.size w wr ∧ Hid (∀ x ∈ xs.take j, TokOk x)) (fun i _ => m - (intOf i).toNat)
  case atStart => exact ⟨0, Nat.zero_le _, rfl, Below.refl _ _, fun x hx => by simp at hx⟩
  case round =>
    obtain ⟨j, hj, rfl, hbw, HN⟩ := hrel
    by_cases hlt : (j : Int) < (m : Int)
    · have hjx : j < xs.length := by rw [HL.out]; omega
      obtain ⟨g, rfl, hg, hc⟩ := (HX.out wr hbw).2 j (by omega)
      have hs := HS.out j (by omega)
      obtain ⟨x, hxx⟩ : ∃ x, x = textAt xs j := ⟨_, rfl⟩
      rw [← hxx] at hc hs
      have HM : Hid (x ∈ xs) := by show _ ∈ _; rw [hxx]; exact textAt_mem xs j hjx
      have HT : Hid (xs.take (j + 1) = xs.take j ++ [x]) := by show _ = _; rw [take_textAt xs j hjx, hxx]
      clear hxx hjx
      go_wp2_with fail
      refine (implTokenOk_any x _ hs).mono ?_
      rintro e w1 ⟨t, rfl, ht, b1⟩
      have hb1 : Below w.heap.size w w1 := hbw.trans (b1.mono hbw.size)
      clear b1 hbw hc
      cases t with
      | false =>
        have HF : Hid (¬ NamesP xs) := fun h => nomatch ht.2 (h.1 x HM.out)
        clear ht HN
        go_wp2_with fail
        go_ret
        exact BoolIs.no HF.out hb1
      | true =>
        have HN2 : Hid (∀ y ∈ xs.take (j + 1), TokOk y) := by
          intro y hy
          rw [HT.out] at hy
          rcases List.mem_append.1 hy with hy | hy
          · exact HN.out y hy
          · rw [List.mem_singleton.1 hy]; exact ht.1 rfl
        clear ht HN
        go_wp2_with fail
        go_roundw
        case rel => exact ⟨j + 1, by omega, by go_num, hb1, HN2⟩
        case measure => simp [intOf]; omega
    · have HQ : Hid (NamesP xs) := ⟨by
        have h := HN.out
        rw [List.take_of_length_le (by rw [HL.out]; omega)] at h
        exact h, by rw [HL.out]; omega⟩
      clear HN
      go_wp2_with fail
      go_ret
      exact ⟨true, rfl, ⟨fun _ => HQ.out, fun _ => rfl⟩, hbw⟩

end Go.Proofs.YtdlhicdfldecgaaGreatDoor

namespace Go.Proofs.YtdlhicdfldecgaaGreatDoor
open Go.RowKit
open Go.Lib hiding intOf

set_option maxHeartbeats 20000000 in
set_option maxRecDepth 100000 in
theorem implObjOk_any (p : ByteArray) (o1 : Option Addr) (n1 c1 : Nat) (xs : List ByteArray) (o2 : Option Addr) (n2 c2 : Nat) (ys : List ByteArray) (st : Int) (v3 : Value) (n3 base : Nat) (fs : List (ByteArray × ByteArray)) (b : ByteArray) (t : Int) (w : World) (h1 : TextsA w o1 n1 xs) (h2 : TextsA w o2 n2 ys) (h3 : FieldsV w base v3 n3 fs) (hn1 : n1 ≤ 2000000) (hn2 : n2 ≤ 2000000) (hn3 : n3 ≤ 2000000) (hs1 : ∀ i, i < n1 → (textAt xs i).size ≤ maxLen) (hs2 : ∀ i, i < n2 → (textAt ys i).size ≤ maxLen) (hs3 : WalkF n3 fs) (hc : CopyF fs) (hp : p.size ≤ maxLen) (hx : b.size ≤ maxLen) (hg : (getV fs varyName).size ≤ 1048576) :
    Calls Tryz.prog 10 #[.agg #[.string p, .slice o1 n1 c1, .slice o2 n2 c2, .int .i64 st, v3, .string b, .int .i64 t]] w fun e w' => BoolIs (ObjP p xs ys st fs b t) w e w' := by
  obtain ⟨o3, c3, rfl, _⟩ := h3.slice
  have HV1 : Hid (∀ W, Below w.heap.size w W → TextsA W o1 n1 xs) := fun W h => h1.below h
  have HV2 : Hid (∀ W, Below w.heap.size w W → TextsA W o2 n2 ys) := fun W h => h2.below h
  have HV3 : Hid (∀ W, Below w.heap.size w W → FieldsV W base (.slice o3 n3 c3) n3 fs) := fun W h => h3.below h
  have HL1 : Hid (xs.length = n1) := h1.1
  have HL2 : Hid (ys.length = n2) := h2.1
  have HS1 : Hid (∀ i, i < n1 → (textAt xs i).size ≤ maxLen) := hs1
  have HS2 : Hid (∀ i, i < n2 → (textAt ys i).size ≤ maxLen) := hs2
  have HS3 : Hid (WalkF n3 fs) := hs3
  have HC : Hid (CopyF fs) := hc
  have HPM : Hid (p.size ≤ maxLen) := hp
  have HX : Hid (b.size ≤ maxLen) := hx
  have HG : Hid ((getV fs varyName).size ≤ 1048576) := hg
  obtain ⟨vl, hvl⟩ : ∃ l, l = varyP fs := ⟨_, rfl⟩
  have HVL : Hid (varyP fs = vl) := hvl.symm
  have HVZ : Hid (vl.length ≤ 2000000) := by
    show _ ≤ _
    have hle := splitL_le (getV fs varyName)
    rw [hvl]
    unfold varyP
    rw [List.length_map]
    omega
  clear h1 h2 h3 hs1 hs2 hs3 hc hp hx hg hvl
  have hb0 : Below w.heap.size w w := Below.refl _ _
  go_enter Tryz.func10, Tryz.ntmps10
  go_upto_region 1 with fail
  obtain ⟨qv1, hqv1⟩ : ∃ q, q = (w).heap.size := ⟨_, rfl⟩
  obtain ⟨w1, hW1⟩ : ∃ W, W = (w).alloc (.cells #[.string p, .slice o1 n1 c1, .slice o2 n2 c2, .int .i64 st, .slice o3 n3 c3, .string b, .int .i64 t] 29) := ⟨_, rfl⟩
  have hz1 : (w).heap.size = qv1 := hqv1.symm
  first | rw [← hW1, ← hqv1] | rw [← hW1]
  have hs1 : w1.heap.size = qv1 + 1 := by rw [hW1, ← hz1]; simp
  have bw : Below (w).heap.size (w) w1 := by rw [hW1]; exact (Below.refl _ _).alloc (Nat.le_refl _) _
  have hb1 : Below w.heap.size w (w1) := hb0.trans (bw.mono hb0.size)
  have HM1 : Hid ((w).heap.size ≤ (w1).heap.size) := bw.size
  have HBv1_1 : Hid ((w1).heap[qv1]? = some (.cells #[.string p, .slice o1 n1 c1, .slice o2 n2 c2, .int .i64 st, .slice o3 n3 c3, .string b, .int .i64 t] 29)) := by show _ = _; rw [hW1, ← hz1]; exact heap_alloc_new _ _
  have HGv1 : Hid (w.heap.size ≤ qv1) := by show _ ≤ _; rw [← hz1]; exact hb0.size
  clear hb0 bw hW1 hz1
  clear hs1 hqv1
  have cv1_3 : (w1).cell? ⟨qv1, 3, none⟩ = some (.int .i64 st) := (cell_of HBv1_1.out 3).trans rfl
  have cv1_4 : (w1).cell? ⟨qv1, 4, none⟩ = some (.slice o3 n3 c3) := (cell_of HBv1_1.out 4).trans rfl
  have cv1_5 : (w1).cell? ⟨qv1, 5, none⟩ = some (.string b) := (cell_of HBv1_1.out 5).trans rfl
  go_wp2_with fail
  refine (implRespOk_any st _ b n3 base fs _ (HV3.out _ hb1) (by omega) HS3.out HX.out).mono ?_
  rintro e w2 ⟨u1, rfl, htu1, bw⟩
  have hb2 : Below w.heap.size w (w2) := hb1.trans (bw.mono hb1.size)
  have HM2 : Hid ((w1).heap.size ≤ (w2).heap.size) := bw.size
  have HBv1_2 : Hid ((w2).heap[qv1]? = some (.cells #[.string p, .slice o1 n1 c1, .slice o2 n2 c2, .int .i64 st, .slice o3 n3 c3, .string b, .int .i64 t] 29)) := blk_below HBv1_1.out bw
  clear hb1 HBv1_1 bw
  clear cv1_3 cv1_4 cv1_5
  cases u1 with
  | false =>
    have HF : Hid (¬ ObjP p xs ys st fs b t) := fun h => nomatch htu1.2 h.1
    clear htu1
    go_wp2_with fail
    go_ret
    exact BoolIs.no HF.out hb2
  | true =>
    have HR : Hid (RespP st fs b) := htu1.1 rfl
    clear htu1
    have cv1_0 : (w2).cell? ⟨qv1, 0, none⟩ = some (.string p) := (cell_of HBv1_2.out 0).trans rfl
    go_wp2_with fail
    refine (pathOk_any p _ HPM.out).mono ?_
    rintro e w3 ⟨u2, rfl, htu2, bw⟩
    have hb3 : Below w.heap.size w (w3) := hb2.trans (bw.mono hb2.size)
    have HM3 : Hid ((w2).heap.size ≤ (w3).heap.size) := bw.size
    have HBv1_3 : Hid ((w3).heap[qv1]? = some (.cells #[.string p, .slice o1 n1 c1, .slice o2 n2 c2, .int .i64 st, .slice o3 n3 c3, .string b, .int .i64 t] 29)) := blk_below HBv1_2.out bw
    clear hb2 HBv1_2 bw
    clear cv1_0
    cases u2 with
    | false =>
      have HF : Hid (¬ ObjP p xs ys st fs b t) := fun h => nomatch htu2.2 h.2.1
      clear htu2
      go_wp2_with fail
      go_ret
      exact BoolIs.no HF.out hb3
    | true =>
      have HP : Hid (PathOk p) := htu2.1 rfl
      clear htu2
      have cv1_6 : (w3).cell? ⟨qv1, 6, none⟩ = some (.int .i64 t) := (cell_of HBv1_3.out 6).trans rfl
      go_wp2_with fail
      refine (timeOk_any t _).mono ?_
      rintro e w4 ⟨rfl, hwe⟩
      have bw : Below (w3).heap.size (w3) w4 := by rw [hwe]; exact Below.refl _ _
      clear hwe
      obtain ⟨u3, hu3⟩ : ∃ u3, u3 = decide ((0 : Int) ≤ t ∧ t ≤ 1000000) := ⟨_, rfl⟩
      rw [← hu3]
      have hb4 : Below w.heap.size w (w4) := hb3.trans (bw.mono hb3.size)
      have HM4 : Hid ((w3).heap.size ≤ (w4).heap.size) := bw.size
      have HBv1_4 : Hid ((w4).heap[qv1]? = some (.cells #[.string p, .slice o1 n1 c1, .slice o2 n2 c2, .int .i64 st, .slice o3 n3 c3, .string b, .int .i64 t] 29)) := blk_below HBv1_3.out bw
      clear hb3 HBv1_3 bw
      clear cv1_6
      cases u3 with
      | false =>
        have HF : Hid (¬ ObjP p xs ys st fs b t) := fun h => absurd h.2.2.1 (of_decide_eq_false hu3.symm)
        clear hu3
        go_wp2_with fail
        go_ret
        exact BoolIs.no HF.out hb4
      | true =>
        have HT : Hid (0 ≤ t ∧ t ≤ 1000000) := (show 0 ≤ t ∧ t ≤ 1000000 from of_decide_eq_true hu3.symm)
        clear hu3
        go_upto_region 3 with fail
        refine wp_region_held_drew (S := fun W => W.heap[qv1]? = some (.cells #[.string p, .slice o1 n1 c1, .slice o2 n2 c2, .int .i64 st, .slice o3 n3 c3, .string b, .int .i64 t] 29)) (by kernel_rfl) HBv1_4.out (fun _ => ?_)
        obtain ⟨w5, hX⟩ : ∃ X, X = w4.drew := ⟨_, rfl⟩
        have bw : Below w4.heap.size w4 w5 := by rw [hX]; exact (Below.refl _ _).drew
        rw [← hX]
        have hb5 : Below w.heap.size w (w5) := hb4.trans (bw.mono hb4.size)
        have HM5 : Hid ((w4).heap.size ≤ (w5).heap.size) := bw.size
        have HBv1_5 : Hid ((w5).heap[qv1]? = some (.cells #[.string p, .slice o1 n1 c1, .slice o2 n2 c2, .int .i64 st, .slice o3 n3 c3, .string b, .int .i64 t] 29)) := blk_below HBv1_4.out bw
        have hS5 : w5.heap[qv1]? = some (.cells #[.string p, .slice o1 n1 c1, .slice o2 n2 c2, .int .i64 st, .slice o3 n3 c3, .string b, .int .i64 t] 29) := HBv1_5.out
        clear hb4 HBv1_4 bw hX
        refine wpAnyH_takeD (i := 0) (v := .pointer (some ⟨qv1, 1, none⟩)) (some 20) rfl rfl (by kernel_rfl) (by kernel_rfl) (by kernel_rfl) (fun _ _ _ h => h) (Or.inl ⟨by rfl, by intro W _; go_simp⟩) hS5 ?_
        simp only [Act.put, List.setIfInBounds_toArray, List.set_cons_zero, List.set_cons_succ]
        refine wpAnyH_takeD (i := 1) (v := .slice o1 n1 c1) (some 21) rfl rfl (by kernel_rfl) (by kernel_rfl) (by kernel_rfl) (fun _ _ _ h => h) (Or.inl ⟨by rfl, by intro W hW; have hhv1 := hW; have y1 := (cell_of hhv1 1).trans rfl; go_simp⟩) hS5 ?_
        simp only [Act.put, List.setIfInBounds_toArray, List.set_cons_zero, List.set_cons_succ]
        refine wpAnyH_takeD (i := 2) (v := .pointer (some ⟨qv1, 3, none⟩)) (some 22) rfl rfl (by kernel_rfl) (by kernel_rfl) (by kernel_rfl) (fun _ _ _ h => h) (Or.inl ⟨by rfl, by intro W _; go_simp⟩) hS5 ?_
        simp only [Act.put, List.setIfInBounds_toArray, List.set_cons_zero, List.set_cons_succ]
        refine wpAnyH_takeD (i := 3) (v := .pointer (some ⟨qv1, 4, none⟩)) (some 23) rfl rfl (by kernel_rfl) (by kernel_rfl) (by kernel_rfl) (fun _ _ _ h => h) (Or.inl ⟨by rfl, by intro W _; go_simp⟩) hS5 ?_
        simp only [Act.put, List.setIfInBounds_toArray, List.set_cons_zero, List.set_cons_succ]
        refine wpAnyH_takeD (i := 4) (v := .slice o3 n3 c3) (some 24) rfl rfl (by kernel_rfl) (by kernel_rfl) (by kernel_rfl) (fun _ _ _ h => h) (Or.inl ⟨by rfl, by intro W hW; have hhv1 := hW; have y4 := (cell_of hhv1 4).trans rfl; go_simp⟩) hS5 ?_
        simp only [Act.put, List.setIfInBounds_toArray, List.set_cons_zero, List.set_cons_succ]
        refine wpAnyH_ready (rs := [5]) (by kernel_rfl) (by simp) ?_
        refine AllReadyH.cons rfl (fun K hK => ?_) AllReadyH.nil
        go_simp
        refine (implVaryOf_any _ n3 base fs _ (HV3.out _ hb5) (by omega) HC.out HG.out).mono ?_
        rintro e w6 ⟨vv, rfl, ownY, bw⟩
        obtain ⟨oY, pY, rfl⟩ := slice_of_owns ownY
        rw [HVL.out] at ownY ⊢
        have hb6 : Below w.heap.size w (w6) := hb5.trans (bw.mono hb5.size)
        have HM6 : Hid ((w5).heap.size ≤ (w6).heap.size) := bw.size
        have HBv1_6 : Hid ((w6).heap[qv1]? = some (.cells #[.string p, .slice o1 n1 c1, .slice o2 n2 c2, .int .i64 st, .slice o3 n3 c3, .string b, .int .i64 t] 29)) := blk_below HBv1_5.out bw
        have HOY_6 : Hid ((w6).ownsRow w.heap.size 9 1 (.slice oY vl.length pY) vl.length (vl.map Value.string)) := owns_wide ownY hb5.size
        have LOY : Hid (∀ g, (Value.ownBlock (.slice oY vl.length pY)) = some g → (w5).heap.size ≤ g) := fun g hg => owns_ge ownY hg
        have HIY : Hid (∀ g, (Value.ownBlock (.slice oY vl.length pY)) = some g → g < (w6).heap.size) := fun g hg => owns_lt ownY hg
        clear ownY
        clear hb5 HBv1_5 bw
        have hS6 : w6.heap[qv1]? = some (.cells #[.string p, .slice o1 n1 c1, .slice o2 n2 c2, .int .i64 st, .slice o3 n3 c3, .string b, .int .i64 t] 29) := HBv1_6.out
        refine hK.out _ _ hS6 (fun _ => ?_)
        clear hK K hS5
        refine wpAnyH_ready (rs := [6]) (by kernel_rfl) (by simp) ?_
        refine AllReadyH.cons rfl (fun K hK => ?_) AllReadyH.nil
        go_simp
        refine (equalT_any _ _ _ _ _ _ xs vl _ (HV1.out _ hb6) (by omega) (texts_view HOY_6.out) HVZ.out).mono ?_
        rintro e w7 ⟨rfl, bw⟩
        obtain ⟨u5, hu5⟩ : ∃ u5, u5 = decide (xs = vl) := ⟨_, rfl⟩
        rw [← hu5]
        have hb7 : Below w.heap.size w (w7) := hb6.trans (bw.mono hb6.size)
        have HM7 : Hid ((w6).heap.size ≤ (w7).heap.size) := bw.size
        have HOY_7 : Hid ((w7).ownsRow w.heap.size 9 1 (.slice oY vl.length pY) vl.length (vl.map Value.string)) := owns_below HOY_6.out bw (fun g hg => owns_lt HOY_6.out hg)
        have HBv1_7 : Hid ((w7).heap[qv1]? = some (.cells #[.string p, .slice o1 n1 c1, .slice o2 n2 c2, .int .i64 st, .slice o3 n3 c3, .string b, .int .i64 t] 29)) := blk_below HBv1_6.out bw
        clear hb6 HOY_6 HBv1_6 bw
        have hS7 : w7.heap[qv1]? = some (.cells #[.string p, .slice o1 n1 c1, .slice o2 n2 c2, .int .i64 st, .slice o3 n3 c3, .string b, .int .i64 t] 29) := HBv1_7.out
        refine hK.out _ _ hS7 (fun _ => ?_)
        clear hK K hS6
        refine wpAnyH_takeD (i := 7) (v := .bool u5) (some 27) rfl rfl (by kernel_rfl) (by kernel_rfl) (by kernel_rfl) (fun _ _ _ h => h) (Or.inl ⟨by rfl, by intro W _; go_simp⟩) hS7 ?_
        simp only [Act.put, List.setIfInBounds_toArray, List.set_cons_zero, List.set_cons_succ]
        cases u5 with
        | false =>
          have HF : Hid (¬ ObjP p xs ys st fs b t) := fun h => absurd (h.2.2.2.2.1.trans HVL.out) (of_decide_eq_false hu5.symm)
          clear hu5
          refine wpAnyH_takeD (i := 8) (v := undef) (some 28) rfl rfl (by kernel_rfl) (by kernel_rfl) (by kernel_rfl) (fun _ _ _ h => h) (Or.inr ⟨by rfl, rfl⟩) hS7 ?_
          simp only [Act.put, List.setIfInBounds_toArray, List.set_cons_zero, List.set_cons_succ]
          refine wpAnyH_takeD (i := 9) (v := undef) (some 29) rfl rfl (by kernel_rfl) (by kernel_rfl) (by kernel_rfl) (fun _ _ _ h => h) (Or.inr ⟨by rfl, rfl⟩) hS7 ?_
          simp only [Act.put, List.setIfInBounds_toArray, List.set_cons_zero, List.set_cons_succ]
          refine wpAnyH_takeD (i := 10) (v := undef) (some 30) rfl rfl (by kernel_rfl) (by kernel_rfl) (by kernel_rfl) (fun _ _ _ h => h) (Or.inr ⟨by rfl, rfl⟩) hS7 ?_
          simp only [Act.put, List.setIfInBounds_toArray, List.set_cons_zero, List.set_cons_succ]
          refine wpAnyH_takeD (i := 11) (v := .bool false) (some 31) rfl rfl (by kernel_rfl) (by kernel_rfl) (by kernel_rfl) (fun _ _ _ h => h) (Or.inl ⟨by rfl, by intro W _; go_simp⟩) hS7 ?_
          simp only [Act.put, List.setIfInBounds_toArray, List.set_cons_zero, List.set_cons_succ]
          refine wpAnyH_takeD (i := 12) (v := .bool false) (some 3) rfl rfl (by kernel_rfl) (by kernel_rfl) (by kernel_rfl) (fun _ _ _ h => h) (Or.inl ⟨by rfl, by intro W _; go_simp⟩) hS7 ?_
          simp only [Act.put, List.setIfInBounds_toArray, List.set_cons_zero, List.set_cons_succ]
          clear hS7
          refine wpAnyH_done (by kernel_rfl) ?_ _
          go_wp2_with fail
          go_ret
          exact BoolIs.no HF.out hb7
        | true =>
          have HE : Hid (xs = vl) := (show xs = vl from of_decide_eq_true hu5.symm)
          clear hu5
          refine wpAnyH_takeD (i := 8) (v := .pointer (some ⟨qv1, 1, none⟩)) (some 28) rfl rfl (by kernel_rfl) (by kernel_rfl) (by kernel_rfl) (fun _ _ _ h => h) (Or.inl ⟨by rfl, by intro W _; go_simp⟩) hS7 ?_
          simp only [Act.put, List.setIfInBounds_toArray, List.set_cons_zero, List.set_cons_succ]
          refine wpAnyH_takeD (i := 9) (v := .slice o1 n1 c1) (some 29) rfl rfl (by kernel_rfl) (by kernel_rfl) (by kernel_rfl) (fun _ _ _ h => h) (Or.inl ⟨by rfl, by intro W hW; have hhv1 := hW; have y1 := (cell_of hhv1 1).trans rfl; go_simp⟩) hS7 ?_
          simp only [Act.put, List.setIfInBounds_toArray, List.set_cons_zero, List.set_cons_succ]
          refine wpAnyH_ready (rs := [10]) (by kernel_rfl) (by simp) ?_
          refine AllReadyH.cons rfl (fun K hK => ?_) AllReadyH.nil
          go_simp
          refine (namesOk_any _ _ _ xs _ (HV1.out _ hb7) (by omega) HS1.out).mono ?_
          rintro e w8 ⟨u4, rfl, htu4, bw⟩
          have hb8 : Below w.heap.size w (w8) := hb7.trans (bw.mono hb7.size)
          have HM8 : Hid ((w7).heap.size ≤ (w8).heap.size) := bw.size
          have HOY_8 : Hid ((w8).ownsRow w.heap.size 9 1 (.slice oY vl.length pY) vl.length (vl.map Value.string)) := owns_below HOY_7.out bw (fun g hg => owns_lt HOY_7.out hg)
          have HBv1_8 : Hid ((w8).heap[qv1]? = some (.cells #[.string p, .slice o1 n1 c1, .slice o2 n2 c2, .int .i64 st, .slice o3 n3 c3, .string b, .int .i64 t] 29)) := blk_below HBv1_7.out bw
          clear hb7 HOY_7 HBv1_7 bw
          have hS8 : w8.heap[qv1]? = some (.cells #[.string p, .slice o1 n1 c1, .slice o2 n2 c2, .int .i64 st, .slice o3 n3 c3, .string b, .int .i64 t] 29) := HBv1_8.out
          refine hK.out _ _ hS8 (fun _ => ?_)
          clear hK K hS7
          refine wpAnyH_takeD (i := 11) (v := .bool u4) (some 31) rfl rfl (by kernel_rfl) (by kernel_rfl) (by kernel_rfl) (fun _ _ _ h => h) (Or.inl ⟨by rfl, by intro W _; go_simp⟩) hS8 ?_
          simp only [Act.put, List.setIfInBounds_toArray, List.set_cons_zero, List.set_cons_succ]
          refine wpAnyH_takeD (i := 12) (v := .bool u4) (some 3) rfl rfl (by kernel_rfl) (by kernel_rfl) (by kernel_rfl) (fun _ _ _ h => h) (Or.inl ⟨by rfl, by intro W _; go_simp⟩) hS8 ?_
          simp only [Act.put, List.setIfInBounds_toArray, List.set_cons_zero, List.set_cons_succ]
          clear hS8
          refine wpAnyH_done (by kernel_rfl) ?_ _
          cases u4 with
          | false =>
            have HF : Hid (¬ ObjP p xs ys st fs b t) := fun h => nomatch htu4.2 h.2.2.2.1
            clear htu4
            go_wp2_with fail
            go_ret
            exact BoolIs.no HF.out hb8
          | true =>
            have HNM : Hid (NamesP xs) := htu4.1 rfl
            clear htu4
            by_cases hc1 : (n2 : Int) = (n1 : Int)
            · have hc1b : (((n2 : Int) : Int) == ((n1 : Int) : Int)) = true := by simpa using hc1
              have hc1n : (((n2 : Int) : Int) != ((n1 : Int) : Int)) = false := by simpa using hc1
              have HEQ : Hid ((n2 : Int) = (n1 : Int)) := hc1
              have hc1H : Hid ((n2 : Int) = (n1 : Int)) := hc1
              clear hc1
              have cv1_1 : (w8).cell? ⟨qv1, 1, none⟩ = some (.slice o1 n1 c1) := (cell_of HBv1_8.out 1).trans rfl
              have cv1_2 : (w8).cell? ⟨qv1, 2, none⟩ = some (.slice o2 n2 c2) := (cell_of HBv1_8.out 2).trans rfl
              go_wp2_with fail
              refine (valuesOk_any _ _ _ ys _ (HV2.out _ hb8) (by omega) HS2.out).mono ?_
              rintro e w9 ⟨u6, rfl, htu6, bw⟩
              have hb9 : Below w.heap.size w (w9) := hb8.trans (bw.mono hb8.size)
              have HM9 : Hid ((w8).heap.size ≤ (w9).heap.size) := bw.size
              have HOY_9 : Hid ((w9).ownsRow w.heap.size 9 1 (.slice oY vl.length pY) vl.length (vl.map Value.string)) := owns_below HOY_8.out bw (fun g hg => owns_lt HOY_8.out hg)
              have HBv1_9 : Hid ((w9).heap[qv1]? = some (.cells #[.string p, .slice o1 n1 c1, .slice o2 n2 c2, .int .i64 st, .slice o3 n3 c3, .string b, .int .i64 t] 29)) := blk_below HBv1_8.out bw
              clear hb8 HOY_8 HBv1_8 bw
              clear cv1_1 cv1_2
              go_wp2_with fail
              go_ret
              exact ⟨u6, rfl, ⟨fun h => ⟨HR.out, HP.out, HT.out, HNM.out, HE.out.trans HVL.out.symm, by have h1 := HL1.out; have h2 := HL2.out; have h3 := HEQ.out; omega, htu6.1 h⟩, fun h => htu6.2 h.2.2.2.2.2.2⟩, hb9⟩
            · have hc1b : (((n2 : Int) : Int) == ((n1 : Int) : Int)) = false := by simpa using hc1
              have hc1n : (((n2 : Int) : Int) != ((n1 : Int) : Int)) = true := by simpa using hc1
              have HF : Hid (¬ ObjP p xs ys st fs b t) := fun h => by have h1 := h.2.2.2.2.2.1; have h2 := HL1.out; have h3 := HL2.out; omega
              have hc1H : Hid (¬ ((n2 : Int) = (n1 : Int))) := hc1
              clear hc1
              have cv1_1 : (w8).cell? ⟨qv1, 1, none⟩ = some (.slice o1 n1 c1) := (cell_of HBv1_8.out 1).trans rfl
              have cv1_2 : (w8).cell? ⟨qv1, 2, none⟩ = some (.slice o2 n2 c2) := (cell_of HBv1_8.out 2).trans rfl
              go_wp2_with fail
              go_ret
              exact BoolIs.no HF.out hb8

end Go.Proofs.YtdlhicdfldecgaaGreatDoor

namespace Go.Proofs.YtdlhicdfldecgaaGreatDoor
open Go.RowKit
open Go.Lib hiding intOf

theorem Holding.later {B : Nat} {t : ByteArray} {w w' : World} (h : Holding B t w) (hb : Below w.heap.size w w') : Holding B t w' := by
  have key : ∀ p, BuilderAt 53 5 B B p (strCells t) w → BuilderAt 53 5 B B p (strCells t) w' := by
    rintro p ⟨h1, v, h2, h3, h4⟩
    have hlt : B < w.heap.size := (Array.getElem?_eq_some_iff.1 h2).1
    refine ⟨h1, v, by rw [hb.block _ hlt]; exact h2, owns_below h3 hb (fun g hg => ?_), h4⟩
    rcases h3.2 with ⟨rfl, _⟩ | ⟨g', cap, cur, rfl, _, h5, _⟩
    · simp [Value.ownBlock] at hg
    · simp [Value.ownBlock] at hg
      subst hg
      exact (Array.getElem?_eq_some_iff.1 h5).1
  rcases h with h | h
  · exact .inl (key _ h)
  · exact .inr (key _ h)

end Go.Proofs.YtdlhicdfldecgaaGreatDoor

namespace Go.Proofs.YtdlhicdfldecgaaGreatDoor
open Go.RowKit
open Go.Lib hiding intOf

set_option maxHeartbeats 8000000 in
set_option maxRecDepth 100000 in
theorem implObjText_any (p : ByteArray) (o1 : Option Addr) (n1 c1 : Nat) (xs : List ByteArray) (o2 : Option Addr) (n2 c2 : Nat) (ys : List ByteArray) (st : Int) (v3 : Value) (n3 base : Nat) (fs : List (ByteArray × ByteArray)) (b : ByteArray) (t : Int) (w : World) (h1 : TextsA w o1 n1 xs) (h2 : TextsA w o2 n2 ys) (h3 : FieldsV w base v3 n3 fs) (hn1 : n1 ≤ 2000000) (hn2 : n2 ≤ 2000000) (hn3 : n3 ≤ 2000000) (hs1 : ∀ i, i < n1 → (textAt xs i).size ≤ maxLen) (hs2 : ∀ i, i < n2 → (textAt ys i).size ≤ maxLen) (hs3 : WalkF n3 fs) (hp : p.size ≤ maxLen) (hx : b.size ≤ maxLen) (hg : (getV fs varyName).size ≤ 1048576) (hc : CopyF fs) (htab : TabOk w) :
    Calls Tryz.prog 8 #[.agg #[.string p, .slice o1 n1 c1, .slice o2 n2 c2, .int .i64 st, v3, .string b, .int .i64 t]] w fun e w' => TextOf (ObjP p xs ys st fs b t) (objT p ys st fs b t) w e w' := by
  obtain ⟨o3, c3, rfl, _⟩ := h3.slice
  have HV1 : Hid (∀ W, Below w.heap.size w W → TextsA W o1 n1 xs) := fun W h => h1.below h
  have HV2 : Hid (∀ W, Below w.heap.size w W → TextsA W o2 n2 ys) := fun W h => h2.below h
  have HV3 : Hid (∀ W, Below w.heap.size w W → FieldsV W base (.slice o3 n3 c3) n3 fs) := fun W h => h3.below h
  have HL2 : Hid (ys.length = n2) := h2.1
  have HS1 : Hid (∀ i, i < n1 → (textAt xs i).size ≤ maxLen) := hs1
  have HS2 : Hid (∀ i, i < n2 → (textAt ys i).size ≤ maxLen) := hs2
  have HS3 : Hid (WalkF n3 fs) := hs3
  have HPM : Hid (p.size ≤ maxLen) := hp
  have HX : Hid (b.size ≤ maxLen) := hx
  have HG : Hid ((getV fs varyName).size ≤ 1048576) := hg
  have HC : Hid (CopyF fs) := hc
  have HTAB : Hid (∀ W, Below w.heap.size w W → TabOk W) := fun W h => htab.below h
  clear hc htab
  obtain ⟨tt, htt⟩ : ∃ x, x = numTextI t := ⟨_, rfl⟩
  have HTT : Hid (numTextI t = tt) := htt.symm
  obtain ⟨nn, hnn⟩ : ∃ x, x = numTextI ((n2 : Nat) : Int) := ⟨_, rfl⟩
  have HNN : Hid (numTextI ((n2 : Nat) : Int) = nn) := hnn.symm
  clear h1 h2 h3 hs1 hs2 hs3 hp hx hg htt hnn
  have hb0 : Below w.heap.size w w := Below.refl _ _
  go_enter Tryz.func8, Tryz.ntmps8
  go_upto_region 1 with fail
  obtain ⟨qv1, hqv1⟩ : ∃ q, q = (w).heap.size := ⟨_, rfl⟩
  obtain ⟨w1, hW1⟩ : ∃ W, W = (w).alloc (.cells #[.string p, .slice o1 n1 c1, .slice o2 n2 c2, .int .i64 st, .slice o3 n3 c3, .string b, .int .i64 t] 29) := ⟨_, rfl⟩
  have hz1 : (w).heap.size = qv1 := hqv1.symm
  first | rw [← hW1, ← hqv1] | rw [← hW1]
  have hs1 : w1.heap.size = qv1 + 1 := by rw [hW1, ← hz1]; simp
  have bw : Below (w).heap.size (w) w1 := by rw [hW1]; exact (Below.refl _ _).alloc (Nat.le_refl _) _
  have hb1 : Below w.heap.size w (w1) := hb0.trans (bw.mono hb0.size)
  have HM1 : Hid ((w).heap.size ≤ (w1).heap.size) := bw.size
  have HBv1_1 : Hid ((w1).heap[qv1]? = some (.cells #[.string p, .slice o1 n1 c1, .slice o2 n2 c2, .int .i64 st, .slice o3 n3 c3, .string b, .int .i64 t] 29)) := by show _ = _; rw [hW1, ← hz1]; exact heap_alloc_new _ _
  have HGv1 : Hid (w.heap.size ≤ qv1) := by show _ ≤ _; rw [← hz1]; exact hb0.size
  clear hb0 bw hW1 hz1
  clear hs1 hqv1
  have cv1_0 : (w1).cell? ⟨qv1, 0, none⟩ = some (.string p) := (cell_of HBv1_1.out 0).trans rfl
  have cv1_1 : (w1).cell? ⟨qv1, 1, none⟩ = some (.slice o1 n1 c1) := (cell_of HBv1_1.out 1).trans rfl
  have cv1_2 : (w1).cell? ⟨qv1, 2, none⟩ = some (.slice o2 n2 c2) := (cell_of HBv1_1.out 2).trans rfl
  have cv1_3 : (w1).cell? ⟨qv1, 3, none⟩ = some (.int .i64 st) := (cell_of HBv1_1.out 3).trans rfl
  have cv1_4 : (w1).cell? ⟨qv1, 4, none⟩ = some (.slice o3 n3 c3) := (cell_of HBv1_1.out 4).trans rfl
  have cv1_5 : (w1).cell? ⟨qv1, 5, none⟩ = some (.string b) := (cell_of HBv1_1.out 5).trans rfl
  have cv1_6 : (w1).cell? ⟨qv1, 6, none⟩ = some (.int .i64 t) := (cell_of HBv1_1.out 6).trans rfl
  go_wp2_with fail
  refine (implObjOk_any p _ n1 _ xs _ n2 _ ys st _ n3 base fs b t _ (HV1.out _ hb1) (HV2.out _ hb1) (HV3.out _ hb1) (by omega) (by omega) (by omega) HS1.out HS2.out HS3.out HC.out HPM.out HX.out HG.out).mono ?_
  rintro e w2 ⟨u1, rfl, htu1, bw⟩
  have hb2 : Below w.heap.size w (w2) := hb1.trans (bw.mono hb1.size)
  have HM2 : Hid ((w1).heap.size ≤ (w2).heap.size) := bw.size
  have HBv1_2 : Hid ((w2).heap[qv1]? = some (.cells #[.string p, .slice o1 n1 c1, .slice o2 n2 c2, .int .i64 st, .slice o3 n3 c3, .string b, .int .i64 t] 29)) := blk_below HBv1_1.out bw
  clear hb1 HBv1_1 bw
  clear cv1_0 cv1_1 cv1_2 cv1_3 cv1_4 cv1_5 cv1_6
  cases u1 with
  | false =>
    have HF : Hid (¬ ObjP p xs ys st fs b t) := fun h => nomatch htu1.2 h
    clear htu1
    go_wp2_with fail
    go_ret
    exact ⟨⟨#[]⟩, rfl, fun h => absurd h HF.out, fun _ => rfl, hb2⟩
  | true =>
    have HOK : Hid (ObjP p xs ys st fs b t) := htu1.1 rfl
    clear htu1
    have HT : Hid (0 ≤ t ∧ t ≤ 1000000) := HOK.out.2.2.1
    have HN4 : Hid (n2 ≤ 4) := by show _ ≤ _; have h4 := HOK.out.2.2.2.1.2; have h5 := HOK.out.2.2.2.2.2.1; have h6 := HL2.out; omega
    obtain ⟨hd, hhd⟩ : ∃ x, x = objHead p t n2 := ⟨_, rfl⟩
    have HHD : Hid (((((((⟨#[111, 98, 106, 32]⟩ ++ p) ++ ⟨#[32]⟩) ++ tt) ++ ⟨#[32]⟩) ++ nn) ++ ⟨#[10]⟩) = hd) := by
      show _ = _
      rw [hhd, ← HTT.out, ← HNN.out, numTextI_of HT.out.1, numTextI_of (by omega)]
      rfl
    have HVZ : Hid (∀ k, k ≤ n2 → (valsTo hd ys k).size ≤ 400) := fun k hk => by
      have h := vals_small HOK.out k (by rw [HL2.out]; exact hk)
      rw [HL2.out, ← hhd] at h
      have := HN4.out
      omega
    have HFIN : Hid (objT p ys st fs b t = valsTo hd ys n2 ++ respT st fs b) := by
      show _ = _
      unfold objT
      rw [HL2.out, ← hhd]
    have HRP : Hid (RespP st fs b) := HOK.out.1
    have zp : p.size ≤ 60 := HOK.out.2.1.2.2.1
    have ztt : tt.size ≤ 8 := by rw [← HTT.out, numTextI_of HT.out.1]; exact numText_size _
    have znn : nn.size ≤ 8 := by rw [← HNN.out, numTextI_of (by omega)]; exact numText_size _
    clear hhd
    go_upto_region 4 with fail
    obtain ⟨qv2, hqv2⟩ : ∃ q, q = (w2).heap.size := ⟨_, rfl⟩
    obtain ⟨w3, hW3⟩ : ∃ W, W = (w2).alloc (.cells #[.pointer none, .slice none 0 0] 53) := ⟨_, rfl⟩
    have hz3 : (w2).heap.size = qv2 := hqv2.symm
    first | rw [← hW3, ← hqv2] | rw [← hW3]
    have hs3 : w3.heap.size = qv2 + 1 := by rw [hW3, ← hz3]; simp
    have bw : Below (w2).heap.size (w2) w3 := by rw [hW3]; exact (Below.refl _ _).alloc (Nat.le_refl _) _
    have hb3 : Below w.heap.size w (w3) := hb2.trans (bw.mono hb2.size)
    have HM3 : Hid ((w2).heap.size ≤ (w3).heap.size) := bw.size
    have HBv1_3 : Hid ((w3).heap[qv1]? = some (.cells #[.string p, .slice o1 n1 c1, .slice o2 n2 c2, .int .i64 st, .slice o3 n3 c3, .string b, .int .i64 t] 29)) := blk_below HBv1_2.out bw
    have HNv1v2 : Hid (qv1 ≠ qv2) := fun e => by have h1 := (Array.getElem?_eq_some_iff.1 HBv1_2.out).1; omega
    have HLTv1v2 : Hid (qv1 < qv2) := by have h1 := (Array.getElem?_eq_some_iff.1 HBv1_2.out).1; show _ < _; omega
    have HBv2_3 : Hid ((w3).heap[qv2]? = some (.cells #[.pointer none, .slice none 0 0] 53)) := by show _ = _; rw [hW3, ← hz3]; exact heap_alloc_new _ _
    have HGv2 : Hid (w.heap.size ≤ qv2) := by show _ ≤ _; rw [← hz3]; exact hb2.size
    clear hb2 HBv1_2 bw hW3 hz3
    clear hs3 hqv2
    have EH_3 : Hid (Holding qv2 ⟨#[]⟩ w3) := Or.inl ⟨Nat.le_refl _, .slice none 0 0, HBv2_3.out, World.ownsRow_nil _ _ _ _, by simp [Value.ownBlock]⟩
    have HBS : Hid (qv2 ≤ w3.heap.size) := Nat.le_of_lt (Array.getElem?_eq_some_iff.1 HBv2_3.out).1
    clear HBv2_3
    go_upto_region 4 with fail
    refine wp_region_held_drew (S := fun W => W.heap[qv1]? = some (.cells #[.string p, .slice o1 n1 c1, .slice o2 n2 c2, .int .i64 st, .slice o3 n3 c3, .string b, .int .i64 t] 29)) (by kernel_rfl) HBv1_3.out (fun _ => ?_)
    obtain ⟨w4, hX⟩ : ∃ X, X = w3.drew := ⟨_, rfl⟩
    have bw : Below w3.heap.size w3 w4 := by rw [hX]; exact (Below.refl _ _).drew
    rw [← hX]
    have hb4 : Below w.heap.size w (w4) := hb3.trans (bw.mono hb3.size)
    have HM4 : Hid ((w3).heap.size ≤ (w4).heap.size) := bw.size
    have HBv1_4 : Hid ((w4).heap[qv1]? = some (.cells #[.string p, .slice o1 n1 c1, .slice o2 n2 c2, .int .i64 st, .slice o3 n3 c3, .string b, .int .i64 t] 29)) := blk_below HBv1_3.out bw
    have EH_4 : Hid (Holding qv2 (⟨#[]⟩) w4) := EH_3.out.later bw
    have hS4 : w4.heap[qv1]? = some (.cells #[.string p, .slice o1 n1 c1, .slice o2 n2 c2, .int .i64 st, .slice o3 n3 c3, .string b, .int .i64 t] 29) := HBv1_4.out
    clear hb3 HBv1_3 EH_3 bw hX
    refine wpAnyH_takeD (i := 0) (v := .pointer (some ⟨qv1, 0, none⟩)) (some 9) rfl rfl (by kernel_rfl) (by kernel_rfl) (by kernel_rfl) (fun _ _ _ h => h) (Or.inl ⟨by rfl, by intro W _; go_simp⟩) hS4 ?_
    simp only [Act.put, List.setIfInBounds_toArray, List.set_cons_zero, List.set_cons_succ]
    refine wpAnyH_takeD (i := 1) (v := .string p) (some 10) rfl rfl (by kernel_rfl) (by kernel_rfl) (by kernel_rfl) (fun _ _ _ h => h) (Or.inl ⟨by rfl, by intro W hW; have hhv1 := hW; have y0 := (cell_of hhv1 0).trans rfl; go_simp⟩) hS4 ?_
    simp only [Act.put, List.setIfInBounds_toArray, List.set_cons_zero, List.set_cons_succ]
    refine wpAnyH_takeD (i := 2) (v := .string (⟨#[111, 98, 106, 32]⟩ ++ p)) (some 11) rfl rfl (by kernel_rfl) (by kernel_rfl) (by kernel_rfl) (fun _ _ _ h => h) (Or.inl ⟨by rfl, by intro W _; go_simp; omega⟩) hS4 ?_
    simp only [Act.put, List.setIfInBounds_toArray, List.set_cons_zero, List.set_cons_succ]
    refine wpAnyH_takeD (i := 3) (v := .string ((⟨#[111, 98, 106, 32]⟩ ++ p) ++ ⟨#[32]⟩)) (some 12) rfl rfl (by kernel_rfl) (by kernel_rfl) (by kernel_rfl) (fun _ _ _ h => h) (Or.inl ⟨by rfl, by intro W _; go_simp; omega⟩) hS4 ?_
    simp only [Act.put, List.setIfInBounds_toArray, List.set_cons_zero, List.set_cons_succ]
    refine wpAnyH_takeD (i := 4) (v := .pointer (some ⟨qv1, 6, none⟩)) (some 13) rfl rfl (by kernel_rfl) (by kernel_rfl) (by kernel_rfl) (fun _ _ _ h => h) (Or.inl ⟨by rfl, by intro W _; go_simp⟩) hS4 ?_
    simp only [Act.put, List.setIfInBounds_toArray, List.set_cons_zero, List.set_cons_succ]
    refine wpAnyH_takeD (i := 5) (v := .int .i64 t) (some 14) rfl rfl (by kernel_rfl) (by kernel_rfl) (by kernel_rfl) (fun _ _ _ h => h) (Or.inl ⟨by rfl, by intro W hW; have hhv1 := hW; have y6 := (cell_of hhv1 6).trans rfl; go_simp⟩) hS4 ?_
    simp only [Act.put, List.setIfInBounds_toArray, List.set_cons_zero, List.set_cons_succ]
    refine wpAnyH_takeD (i := 9) (v := .pointer (some ⟨qv1, 2, none⟩)) (some 18) rfl rfl (by kernel_rfl) (by kernel_rfl) (by kernel_rfl) (fun _ _ _ h => h) (Or.inl ⟨by rfl, by intro W _; go_simp⟩) hS4 ?_
    simp only [Act.put, List.setIfInBounds_toArray, List.set_cons_zero, List.set_cons_succ]
    refine wpAnyH_takeD (i := 10) (v := .slice o2 n2 c2) (some 19) rfl rfl (by kernel_rfl) (by kernel_rfl) (by kernel_rfl) (fun _ _ _ h => h) (Or.inl ⟨by rfl, by intro W hW; have hhv1 := hW; have y2 := (cell_of hhv1 2).trans rfl; go_simp⟩) hS4 ?_
    simp only [Act.put, List.setIfInBounds_toArray, List.set_cons_zero, List.set_cons_succ]
    refine wpAnyH_takeD (i := 11) (v := .int .i64 (n2 : Int)) (some 20) rfl rfl (by kernel_rfl) (by kernel_rfl) (by kernel_rfl) (fun _ _ _ h => h) (Or.inl ⟨by rfl, by intro W _; go_simp⟩) hS4 ?_
    simp only [Act.put, List.setIfInBounds_toArray, List.set_cons_zero, List.set_cons_succ]
    refine wpAnyH_ready (rs := [6]) (by kernel_rfl) (by simp) ?_
    refine AllReadyH.cons rfl (fun K hK => ?_) AllReadyH.nil
    go_simp
    refine (implNumText_any t _ (by have := HT.out; omega) (by have := HT.out; omega) (HTAB.out _ hb4)).mono ?_
    rintro e w5 ⟨rfl, bw⟩
    rw [HTT.out]
    have hb5 : Below w.heap.size w (w5) := hb4.trans (bw.mono hb4.size)
    have HM5 : Hid ((w4).heap.size ≤ (w5).heap.size) := bw.size
    have HBv1_5 : Hid ((w5).heap[qv1]? = some (.cells #[.string p, .slice o1 n1 c1, .slice o2 n2 c2, .int .i64 st, .slice o3 n3 c3, .string b, .int .i64 t] 29)) := blk_below HBv1_4.out bw
    have EH_5 : Hid (Holding qv2 (⟨#[]⟩) w5) := EH_4.out.later bw
    clear hb4 HBv1_4 EH_4 bw
    have hS5 : w5.heap[qv1]? = some (.cells #[.string p, .slice o1 n1 c1, .slice o2 n2 c2, .int .i64 st, .slice o3 n3 c3, .string b, .int .i64 t] 29) := HBv1_5.out
    refine hK.out _ _ hS5 (fun _ => ?_)
    clear hK K hS4
    refine wpAnyH_takeD (i := 7) (v := .string (((⟨#[111, 98, 106, 32]⟩ ++ p) ++ ⟨#[32]⟩) ++ tt)) (some 16) rfl rfl (by kernel_rfl) (by kernel_rfl) (by kernel_rfl) (fun _ _ _ h => h) (Or.inl ⟨by rfl, by intro W _; go_simp; omega⟩) hS5 ?_
    simp only [Act.put, List.setIfInBounds_toArray, List.set_cons_zero, List.set_cons_succ]
    refine wpAnyH_takeD (i := 8) (v := .string ((((⟨#[111, 98, 106, 32]⟩ ++ p) ++ ⟨#[32]⟩) ++ tt) ++ ⟨#[32]⟩)) (some 17) rfl rfl (by kernel_rfl) (by kernel_rfl) (by kernel_rfl) (fun _ _ _ h => h) (Or.inl ⟨by rfl, by intro W _; go_simp; omega⟩) hS5 ?_
    simp only [Act.put, List.setIfInBounds_toArray, List.set_cons_zero, List.set_cons_succ]
    refine wpAnyH_ready (rs := [12]) (by kernel_rfl) (by simp) ?_
    refine AllReadyH.cons rfl (fun K hK => ?_) AllReadyH.nil
    go_simp
    refine (implNumText_any ((n2 : Nat) : Int) _ (by omega) (by omega) (HTAB.out _ hb5)).mono ?_
    rintro e w6 ⟨rfl, bw⟩
    rw [HNN.out]
    have hb6 : Below w.heap.size w (w6) := hb5.trans (bw.mono hb5.size)
    have HM6 : Hid ((w5).heap.size ≤ (w6).heap.size) := bw.size
    have HBv1_6 : Hid ((w6).heap[qv1]? = some (.cells #[.string p, .slice o1 n1 c1, .slice o2 n2 c2, .int .i64 st, .slice o3 n3 c3, .string b, .int .i64 t] 29)) := blk_below HBv1_5.out bw
    have EH_6 : Hid (Holding qv2 (⟨#[]⟩) w6) := EH_5.out.later bw
    clear hb5 HBv1_5 EH_5 bw
    have hS6 : w6.heap[qv1]? = some (.cells #[.string p, .slice o1 n1 c1, .slice o2 n2 c2, .int .i64 st, .slice o3 n3 c3, .string b, .int .i64 t] 29) := HBv1_6.out
    refine hK.out _ _ hS6 (fun _ => ?_)
    clear hK K hS5
    refine wpAnyH_takeD (i := 13) (v := .string (((((⟨#[111, 98, 106, 32]⟩ ++ p) ++ ⟨#[32]⟩) ++ tt) ++ ⟨#[32]⟩) ++ nn)) (some 22) rfl rfl (by kernel_rfl) (by kernel_rfl) (by kernel_rfl) (fun _ _ _ h => h) (Or.inl ⟨by rfl, by intro W _; go_simp; omega⟩) hS6 ?_
    simp only [Act.put, List.setIfInBounds_toArray, List.set_cons_zero, List.set_cons_succ]
    refine wpAnyH_takeD (i := 14) (v := .string ((((((⟨#[111, 98, 106, 32]⟩ ++ p) ++ ⟨#[32]⟩) ++ tt) ++ ⟨#[32]⟩) ++ nn) ++ ⟨#[10]⟩)) (some 23) rfl rfl (by kernel_rfl) (by kernel_rfl) (by kernel_rfl) (fun _ _ _ h => h) (Or.inl ⟨by rfl, by intro W _; go_simp; omega⟩) hS6 ?_
    simp only [Act.put, List.setIfInBounds_toArray, List.set_cons_zero, List.set_cons_succ]
    refine wpAnyH_ready (rs := [15]) (by kernel_rfl) (by simp) ?_
    refine AllReadyH.cons rfl (fun K hK => ?_) AllReadyH.nil
    go_simp
    rw [HHD.out]
    refine (write_any qv2 ⟨#[]⟩ hd _ EH_6.out (by have := HVZ.out 0 (Nat.zero_le _); have e0 : (⟨#[]⟩ : ByteArray).size = 0 := rfl; unfold valsTo at this; omega) (Nat.le_of_lt (by rcases EH_6.out with ⟨_, v, h, _⟩ | ⟨_, v, h, _⟩ <;> exact (Array.getElem?_eq_some_iff.1 h).1))).mono ?_
    rintro e w7 ⟨rfl, hold0, bm⟩
    have hold : Holding qv2 (valsTo hd ys 0) w7 := by rw [show (⟨#[]⟩ : ByteArray) ++ hd = hd from bs_inj (by rw [bs_append]; rfl)] at hold0; exact hold0
    clear hold0
    have hb7 : Below w.heap.size w w7 := hb6.trans (bm.mono HGv2.out)
    have HM7 : Hid ((w6).heap.size ≤ w7.heap.size) := bm.size
    have HBv1_7 : Hid ((w7).heap[qv1]? = some (.cells #[.string p, .slice o1 n1 c1, .slice o2 n2 c2, .int .i64 st, .slice o3 n3 c3, .string b, .int .i64 t] 29)) := (bm.block _ HLTv1v2.out).trans HBv1_6.out
    have EH_7 : Hid (Holding qv2 (valsTo hd ys 0) w7) := hold
    clear hb6 HBv1_6 EH_6 hold bm
    have hS7 : w7.heap[qv1]? = some (.cells #[.string p, .slice o1 n1 c1, .slice o2 n2 c2, .int .i64 st, .slice o3 n3 c3, .string b, .int .i64 t] 29) := HBv1_7.out
    refine hK.out _ _ hS7 (fun _ => ?_)
    clear hK K hS6
    clear hS7
    refine wpAnyH_done (by kernel_rfl) ?_ _
    have cv1_2 : (w7).cell? ⟨qv1, 2, none⟩ = some (.slice o2 n2 c2) := (cell_of HBv1_7.out 2).trans rfl
    go_wp2_with fail
    go_loopw [28] (fun i wr => ∃ j : Nat, j ≤ n2 ∧ i = .int .i64 (j : Int) ∧ Hid (Below w.heap.size w wr ∧ (wr).heap[qv1]? = some (.cells #[.string p, .slice o1 n1 c1, .slice o2 n2 c2, .int .i64 st, .slice o3 n3 c3, .string b, .int .i64 t] 29) ∧ Holding qv2 (valsTo hd ys j) wr ∧ qv2 ≤ wr.heap.size)) (fun i _ => n2 - (intOf i).toNat)
    case atStart => exact ⟨0, Nat.zero_le _, rfl, ⟨hb7, HBv1_7.out, EH_7.out, Nat.le_trans HBS.out (by have := HM4.out; have := HM5.out; have := HM6.out; have := HM7.out; omega)⟩⟩
    case round =>
      obtain ⟨j, hj, rfl, HW⟩ := hrel
      by_cases hlt : (j : Int) < (n2 : Int)
      · obtain ⟨g, hog, hg, hc⟩ := (HV2.out wr HW.out.1).2 j (by omega)
        subst hog
        obtain ⟨x, hxx⟩ : ∃ x, x = textAt ys j := ⟨_, rfl⟩
        have hxs := HS2.out j (by omega)
        rw [← hxx] at hc hxs
        obtain ⟨ot, hot⟩ : ∃ x, x = valsTo hd ys j := ⟨_, rfl⟩
        have HN : Hid (ot ++ (x ++ ⟨#[10]⟩) = valsTo hd ys (j + 1)) := by show _ = _; rw [hot, hxx, valsTo, ByteArray.append_assoc]
        have zx : x.size ≤ 60 := by rw [hxx]; exact (HOK.out.2.2.2.2.2.2 _ (textAt_mem ys j (by rw [HL2.out]; omega))).2.1
        have hz : ot.size + (x ++ ⟨#[10]⟩).size ≤ 140737488355328 := by
          have h1 := HVZ.out j (by omega)
          rw [← hot] at h1
          have e1 : (⟨#[10]⟩ : ByteArray).size = 1 := rfl
          unfold maxLen at hxs
          rw [ByteArray.size_append]
          omega
        have HH0 : Hid (Holding qv2 ot wr) := by show Holding _ _ _; rw [hot]; exact HW.out.2.2.1
        clear hxx hot hxs
        go_wp2_with fail
        have hcall := write_any qv2 ot (x ++ ⟨#[10]⟩) wr HH0.out hz HW.out.2.2.2
        refine hcall.mono ?_
        clear hcall
        rintro e w90 ⟨rfl, hold, bm⟩
        rw [HN.out] at hold
        have HW2 : Hid (Below w.heap.size w w90 ∧ (w90).heap[qv1]? = some (.cells #[.string p, .slice o1 n1 c1, .slice (some ⟨g, 0, none⟩) n2 c2, .int .i64 st, .slice o3 n3 c3, .string b, .int .i64 t] 29) ∧ Holding qv2 (valsTo hd ys (j + 1)) w90 ∧ qv2 ≤ w90.heap.size) := ⟨HW.out.1.trans (bm.mono HGv2.out), (bm.block _ HLTv1v2.out).trans HW.out.2.1, hold, Nat.le_trans HW.out.2.2.2 bm.size⟩
        clear hold bm HH0 HW hc hz
        go_wp2_with fail
        go_roundw
        case rel => exact ⟨j + 1, by omega, by go_num, HW2⟩
        case measure => simp [intOf]; omega
      · obtain rfl : j = n2 := by omega
        obtain ⟨ot, hot⟩ : ∃ x, x = valsTo hd ys j := ⟨_, rfl⟩
        have HOT : Hid (objT p ys st fs b t = ot ++ respT st fs b) := by show _ = _; rw [hot]; exact HFIN.out
        have HZ : Hid (ot.size + (respT st fs b).size ≤ 140737488355328) := by
          show _ ≤ _
          have h1 := HVZ.out j (by omega)
          rw [← hot] at h1
          have h2 := resp_small HRP.out
          omega
        have HH : Hid (Holding qv2 ot wr) := by show Holding _ _ _; rw [hot]; exact HW.out.2.2.1
        have cc3 : wr.cell? ⟨qv1, 3, none⟩ = some (.int .i64 st) := (cell_of HW.out.2.1 3).trans rfl
        have cc4 : wr.cell? ⟨qv1, 4, none⟩ = some (.slice o3 n3 c3) := (cell_of HW.out.2.1 4).trans rfl
        have cc5 : wr.cell? ⟨qv1, 5, none⟩ = some (.string b) := (cell_of HW.out.2.1 5).trans rfl
        clear hot
        go_wp2_with fail
        refine (implRespText_any st _ b n3 base fs _ (HV3.out _ HW.out.1) (by omega) HS3.out HX.out (HTAB.out _ HW.out.1)).mono ?_
        rintro e w90 ⟨u, rfl, hu, _, bw⟩
        have HU : Hid (u = respT st fs b) := hu HRP.out
        have HW2 : Hid (Below w.heap.size w w90) := HW.out.1.trans (bw.mono HW.out.1.size)
        have HB2 : Hid (qv2 ≤ w90.heap.size) := Nat.le_trans HW.out.2.2.2 bw.size
        have HH2 : Hid (Holding qv2 ot w90) := HH.out.later bw
        clear bw hu cc3 cc4 cc5 HW HH
        go_wp2_with fail
        have hcall := write_any qv2 ot u w90 HH2.out (by rw [HU.out]; exact HZ.out) HB2.out
        refine hcall.mono ?_
        clear hcall
        rintro e w91 ⟨rfl, hold, bm⟩
        have HW3 : Hid (Below w.heap.size w w91) := HW2.out.trans (bm.mono HGv2.out)
        have HH3 : Hid (Holding qv2 (ot ++ u) w91) := hold
        have HB3 : Hid (qv2 ≤ w91.heap.size) := Nat.le_trans HB2.out bm.size
        clear hold bm HH2 HW2 HB2
        go_wp2_with fail
        have hcall := text_out qv2 (ot ++ u) w91 HH3.out HB3.out
        refine hcall.mono ?_
        clear hcall
        rintro e w92 ⟨rfl, bm⟩
        have HW4 : Hid (Below w.heap.size w w92) := HW3.out.trans (bm.mono HGv2.out)
        clear bm HH3 HB3 HW3
        go_wp2_with fail
        go_ret
        exact ⟨_, rfl, fun _ => by rw [HOT.out, HU.out], fun h => absurd HOK.out h, HW4.out⟩

end Go.Proofs.YtdlhicdfldecgaaGreatDoor

namespace Go.Proofs.YtdlhicdfldecgaaGreatDoor
open Go.RowKit
open Go.Lib hiding intOf

/-- What ObjRead tells: the object of which the text is, in memory of its own; or nothing. -/
def ObjIs (s : ByteArray) (w : World) (e : Ending) (w' : World) : Prop :=
  Below w.heap.size w w' ∧ ((∃ (p : ByteArray) (ys : List ByteArray) (st : Int) (fs : List (ByteArray × ByteArray)) (b : ByteArray) (t : Int) (v1 v2 v3 : Value), e = .returned (.tuple #[.agg #[.string p, v1, v2, .int .i64 st, v3, .string b, .int .i64 t], .bool true]) ∧ IsObj s p ys st fs b t ∧ ObjO w' w.heap.size v1 (varyP fs).length (varyP fs) v2 ys.length ys v3 fs.length fs) ∨
    (e = .returned (.tuple #[.agg #[.string ⟨#[]⟩, .slice none 0 0, .slice none 0 0, .int .i64 0, .slice none 0 0, .string ⟨#[]⟩, .int .i64 0], .bool false]) ∧ ∀ p ys st fs b t, ¬ IsObj s p ys st fs b t))
theorem objT_pos (p : ByteArray) (ys : List ByteArray) (st : Int) (fs : List (ByteArray × ByteArray)) (b : ByteArray) (t : Int) : 4 ≤ (objT p ys st fs b t).size := by
  rw [← bs_len, bs_objT, List.length_append]
  have : (bs objW).length = 4 := rfl
  omega
/-- What was read, step by step, is the object, where the text is one's. -/
theorem read_obj {s : ByteArray} {t n : Int} {k : Nat} {st : Int} {fs : List (ByteArray × ByteArray)} {bd : ByteArray} (ht : NumOk (cutA (objP1 s) blE) → t = valL (cutA (objP1 s) blE).data.toList) (hn : NumOk (cutA (objP2 s) nlE) → n = valL (cutA (objP2 s) nlE).data.toList) (hk : min n 4 = (k : Int)) (hr : ∀ st' fs' b', IsResp (lnTo (objP3 s) k).2 st' fs' b' → st = st' ∧ fs = fs' ∧ bd = b')
    {p' : ByteArray} {ys' : List ByteArray} {st' : Int} {fs' : List (ByteArray × ByteArray)} {b' : ByteArray} {t' : Int} (h : IsObj s p' ys' st' fs' b' t') :
    cutA (trimP s objW) blE = p' ∧ (lnTo (objP3 s) k).1 = ys' ∧ st = st' ∧ fs = fs' ∧ bd = b' ∧ t = t' := by
  obtain ⟨a1, a2, a3, a4, a5, a6⟩ := obj_read h
  have hT := h.1.2.2.1
  have e1 : t = t' := by
    have h1 := ht (by rw [a2]; exact num_ok _ (by omega))
    rw [a2, show (numText t'.toNat).data.toList = numL t'.toNat from rfl, numL_val _ (by omega)] at h1
    omega
  have e2 : n = (ys'.length : Int) := by
    have h1 := hn (by rw [a3]; exact num_ok _ (by omega))
    rw [a3, show (numText ys'.length).data.toList = numL ys'.length from rfl, numL_val _ (by omega)] at h1
    exact h1
  have e3 : k = ys'.length := by omega
  rw [e3] at hr ⊢
  obtain ⟨q1, q2, q3⟩ := hr st' fs' b' ⟨h.1.1, a5.symm⟩
  exact ⟨a1, a4, q1, q2, q3, e1⟩

/-- What stays while the steps read. -/
structure OSt (w : World) (R b g : Nat) (W : World) : Prop where
  bel : Below w.heap.size w W
  rc : W.heap[R]? = some (.cells #[.string ⟨#[]⟩, .slice none 0 0, .slice none 0 0, .int .i64 0, .slice none 0 0, .string ⟨#[]⟩, .int .i64 0] 29)
  steps : StepsAt W g
  glt : g < W.heap.size
theorem OSt.grown {w : World} {R b g : Nat} {W W' : World} (h : OSt w R b g W) (hg : W.grownBy W' (some b)) (hb : w.heap.size ≤ b) (hR : R ≠ b) (hgb : g ≠ b) : OSt w R b g W' := by
  have hc : ∀ j, W'.cell? ⟨g, j, none⟩ = W.cell? ⟨g, j, none⟩ := fun j => by
    unfold World.cell?
    rw [hg.block g h.glt (fun e => hgb (Option.some.inj e))]
  refine ⟨h.bel.trans (below_grown hg h.bel.size hb), ?_, ?_, Nat.lt_of_lt_of_le h.glt hg.size⟩
  · rw [hg.block R (Array.getElem?_eq_some_iff.1 h.rc).1 (fun e => hR (Option.some.inj e))]
    exact h.rc
  · obtain ⟨s0, s1, s2, s3, s4⟩ := h.steps
    exact ⟨(hc 0).trans s0, (hc 1).trans s1, (hc 2).trans s2, (hc 3).trans s3, (hc 4).trans s4⟩
theorem vary_small {fs : List (ByteArray × ByteArray)} (h : FldsOk fs) : (varyP fs).length ≤ 2000000 ∧ ∀ i, i < (varyP fs).length → (textAt (varyP fs) i).size ≤ maxLen := by
  have hle := splitL_le (getV fs varyName)
  have hg := getV_small h varyName
  unfold varyP
  refine ⟨by rw [List.length_map]; omega, fun i hi => ?_⟩
  rw [List.length_map] at hi
  unfold textAt
  rw [List.getD_eq_getElem?_getD, List.getElem?_map, List.getElem?_eq_getElem hi]
  have := hle.2 _ (List.getElem_mem hi)
  show (lowerOf _).size ≤ _
  rw [lower_size]
  unfold maxLen
  omega

set_option maxHeartbeats 8000000 in
set_option maxRecDepth 100000 in
theorem implObjRead_any (s : ByteArray) (w : World) (hs : s.size ≤ 3000000) (htab : TabOk w) (hlen : LenOk w) :
    Calls Tryz.prog 11 #[.string s] w fun e w' => ObjIs s w e w' := by
  have hlt := hlen.lt
  have HLEN : Hid (∀ W, Below w.heap.size w W → LenOk W) := fun W h => hlen.below h hlt
  have HTAB : Hid (∀ W, Below w.heap.size w W → TabOk W) := fun W h => htab.below h
  obtain ⟨R, hR⟩ : ∃ R, R = w.heap.size := ⟨_, rfl⟩
  obtain ⟨b, hb⟩ : ∃ b, b = w.heap.size + 1 := ⟨_, rfl⟩
  have HRG : Hid (w.heap.size ≤ R) := by show _ ≤ _; omega
  have HBG : Hid (w.heap.size ≤ b) := by show _ ≤ _; omega
  have HRB : Hid (R ≠ b) := by show _ ≠ _; omega
  obtain ⟨W1, hW1⟩ : ∃ W, W = (w.alloc (.cells #[.string ⟨#[]⟩, .slice none 0 0, .slice none 0 0, .int .i64 0, .slice none 0 0, .string ⟨#[]⟩, .int .i64 0] 29)).alloc (.cells #[.string s, .string ⟨#[]⟩, .slice none 0 0, .slice none 0 0, .int .i64 0, .slice none 0 0, .string ⟨#[]⟩, .int .i64 0, .int .i64 0, .string ⟨#[]⟩, .string ⟨#[]⟩, .string ⟨#[]⟩, .string ⟨#[]⟩] 68) := ⟨_, rfl⟩
  have hsz : W1.heap.size = w.heap.size + 2 := by rw [hW1]; simp
  have H1 : Hid (Below w.heap.size w W1) := by show Below _ _ _; rw [hW1]; exact ((Below.refl _ _).alloc (Nat.le_refl _) _).alloc (by simp) _
  have HR1 : Hid (W1.heap[R]? = some (.cells #[.string ⟨#[]⟩, .slice none 0 0, .slice none 0 0, .int .i64 0, .slice none 0 0, .string ⟨#[]⟩, .int .i64 0] 29)) := by
    show _ = _
    rw [hW1, hR, heap_alloc_old _ _ (by simp)]
    exact heap_alloc_new _ _
  have HX1 : Hid (RdX W1 b s [.string ⟨#[]⟩, .slice none 0 0, .slice none 0 0, .int .i64 0, .slice none 0 0, .string ⟨#[]⟩, .int .i64 0, .int .i64 0, .string ⟨#[]⟩, .string ⟨#[]⟩, .string ⟨#[]⟩, .string ⟨#[]⟩] 68) := by
    show _ = _
    have h := heap_alloc_new (w.alloc (.cells #[.string ⟨#[]⟩, .slice none 0 0, .slice none 0 0, .int .i64 0, .slice none 0 0, .string ⟨#[]⟩, .int .i64 0] 29)) (.cells #[.string s, .string ⟨#[]⟩, .slice none 0 0, .slice none 0 0, .int .i64 0, .slice none 0 0, .string ⟨#[]⟩, .int .i64 0, .int .i64 0, .string ⟨#[]⟩, .string ⟨#[]⟩, .string ⟨#[]⟩, .string ⟨#[]⟩] 68)
    rw [hW1, hb]
    simpa using h
  have HZ1 : Hid (s.size ≤ 3000000) := hs
  have hs1 : (objP1 s).size ≤ 3000000 := Nat.le_trans (objP1_size s) hs
  have hs2 : (objP2 s).size ≤ 3000000 := Nat.le_trans (objP2_size s) hs
  have hs3 : (objP3 s).size ≤ 3000000 := Nat.le_trans (objP3_size s) hs
  have HBS : Hid (b < W1.heap.size) := by show _ < _; omega
  go_enter Tryz.func11, Tryz.ntmps11
  go_upto_region 2 with fail
  rw [← hW1, ← hb, ← hR]
  clear hW1 hsz hb hR hlt hlen htab
  go_wp2_with fail
  refine (objectSteps_any _).mono ?_
  rintro e w2 ⟨g, rfl, hst, hg1, hg2, bw⟩
  have HGB : Hid (g ≠ b) := by have := HBS.out; show _ ≠ _; omega
  have O2 : Hid (OSt w R b g w2) := ⟨H1.out.trans (bw.mono H1.out.size), (bw.block R (Array.getElem?_eq_some_iff.1 HR1.out).1).trans HR1.out, hst, hg2⟩
  have X2 : Hid (RdX w2 b s [.string ⟨#[]⟩, .slice none 0 0, .slice none 0 0, .int .i64 0, .slice none 0 0, .string ⟨#[]⟩, .int .i64 0, .int .i64 0, .string ⟨#[]⟩, .string ⟨#[]⟩, .string ⟨#[]⟩, .string ⟨#[]⟩] 68) := HX1.out.below bw
  clear hst hg1 hg2 bw HX1 HR1 H1 HBS
  go_wp2_with fail
  refine wp_loop_rounds 6 ?_
  rw [rounds_succ]
  have sc := O2.out.steps.1
  go_wp2_with fail
  refine (readPath_any b s _ _ _ X2.out ⟨_, rfl⟩ (by have := HZ1.out; omega) (HLEN.out _ O2.out.bel)).mono ?_
  rintro e w3 ⟨rfl, x3, g3⟩
  have O3 : Hid (OSt w R b g w3) := O2.out.grown g3 HBG.out HRB.out HGB.out
  obtain ⟨P, hP⟩ : ∃ P, P = cutA (trimP s objW) blE := ⟨_, rfl⟩
  have HP : Hid (cutA (trimP s objW) blE = P) := hP.symm
  rw [← hP] at x3
  have X3 := (show Hid _ from x3)
  clear sc x3 g3 O2 X2 hP
  go_wp2_with fail
  rw [rounds_succ]
  have sc := O3.out.steps.2.1
  go_wp2_with fail
  refine (readTime_any b (objP1 s) _ _ _ _ _ _ _ _ _ X3.out (by omega) (HLEN.out _ O3.out.bel)).mono ?_
  rintro e w4 ⟨rfl, t, htb, htv, x4, g4⟩
  have O4 : Hid (OSt w R b g w4) := O3.out.grown g4 HBG.out HRB.out HGB.out
  have HTV : Hid (NumOk (cutA (objP1 s) blE) → t = valL (cutA (objP1 s) blE).data.toList) := htv
  have X4 := (show Hid _ from x4)
  clear sc x4 g4 O3 X3 htv
  go_wp2_with fail
  rw [rounds_succ]
  have sc := O4.out.steps.2.2.1
  go_wp2_with fail
  refine (readCount_any b (objP2 s) _ _ _ _ _ _ _ _ _ _ X4.out (by omega) (HLEN.out _ O4.out.bel)).mono ?_
  rintro e w5 ⟨rfl, n, hnb, hnv, x5, g5⟩
  have O5 : Hid (OSt w R b g w5) := O4.out.grown g5 HBG.out HRB.out HGB.out
  have HNV : Hid (NumOk (cutA (objP2 s) nlE) → n = valL (cutA (objP2 s) nlE).data.toList) := hnv
  have X5 := (show Hid _ from x5)
  obtain ⟨k, hk⟩ : ∃ k : Nat, min n 4 = (k : Int) := ⟨(min n 4).toNat, by omega⟩
  have HK : Hid (min n 4 = (k : Int)) := hk
  have hk4 : k ≤ 4 := by omega
  clear sc x5 g5 O4 X4 hnv hk
  go_wp2_with fail
  rw [rounds_succ]
  have sc := O5.out.steps.2.2.2.1
  go_wp2_with fail
  refine (readValues_any b (objP3 s) _ _ _ _ _ _ n k HK.out hnb _ _ _ _ _ X5.out (by omega) (HLEN.out _ O5.out.bel)).mono ?_
  rintro e w6 ⟨rfl, vV, vs, x6, own6, g6⟩
  have O6 : Hid (OSt w R b g w6) := O5.out.grown g6 HBG.out HRB.out HGB.out
  have X6 := (show Hid _ from x6)
  obtain ⟨oV, cV, rfl⟩ := slice_of_owns own6
  have V6 : Hid (w6.ownsRow w.heap.size 9 1 (.slice oV k cV) k ((lnTo (objP3 s) k).1.map Value.string)) := owns_wide own6 O5.out.bel.size
  have hs4 : (lnTo (objP3 s) k).2.size ≤ 3000000 := Nat.le_trans (lnTo_size (objP3 s) k).2.1 hs3
  clear sc x6 g6 O5 X5 own6 hnb
  go_wp2_with fail
  rw [rounds_succ]
  have sc := O6.out.steps.2.2.2.2
  go_wp2_with fail
  refine (readAnswer_any b (lnTo (objP3 s) k).2 _ _ _ _ _ _ _ _ X6.out hs4 (HLEN.out _ O6.out.bel) (HTAB.out _ O6.out.bel)).mono ?_
  rintro e w7 ⟨rfl, st, fs, bd, vF, vN, x7, ownF, ownN, hfo, hun, g7⟩
  have O7 : Hid (OSt w R b g w7) := O6.out.grown g7 HBG.out HRB.out HGB.out
  obtain ⟨oF, cF, rfl⟩ := slice_of_owns ownF
  obtain ⟨oN, cN, rfl⟩ := slice_of_owns ownN
  have F7 : Hid (w7.ownsRow w.heap.size 131 2 (.slice oF fs.length cF) fs.length (flatF fs)) := owns_wide ownF O6.out.bel.size
  have N7 : Hid (w7.ownsRow w.heap.size 9 1 (.slice oN (varyP fs).length cN) (varyP fs).length ((varyP fs).map Value.string)) := owns_wide ownN O6.out.bel.size
  have V7 : Hid (w7.ownsRow w.heap.size 9 1 (.slice oV k cV) k ((lnTo (objP3 s) k).1.map Value.string)) := owns_same V6.out (fun j hj => g7.block j (owns_lt V6.out hj) (fun e => own_ne V6.out X6.out (by decide) j hj (Option.some.inj e)))
  have HNE : Hid (∀ j, (Value.slice oN (varyP fs).length cN).ownBlock = some j → (Value.slice oV k cV).ownBlock ≠ some j) := fun j hj e => by
    have h1 := owns_ge ownN hj
    have h2 := owns_lt V6.out e
    omega
  have HFO : Hid (FldsOk fs ∧ bd.size ≤ 120) := hfo
  have HUN : Hid (∀ {p' : ByteArray} {ys' : List ByteArray} {st' : Int} {fs' : List (ByteArray × ByteArray)} {b' : ByteArray} {t' : Int}, IsObj s p' ys' st' fs' b' t' → P = p' ∧ (lnTo (objP3 s) k).1 = ys' ∧ st = st' ∧ fs = fs' ∧ bd = b' ∧ t = t') := fun h => by
    rw [← HP.out]
    exact read_obj HTV.out HNV.out HK.out hun h
  obtain ⟨ys, hys⟩ : ∃ ys, ys = (lnTo (objP3 s) k).1 := ⟨_, rfl⟩
  rw [← hys] at V7 HUN
  have HYL : Hid (ys.length = k ∧ ∀ y ∈ ys, y.size ≤ 3000000) := by
    show _ ∧ _
    rw [hys]
    exact ⟨(lnTo_size _ k).1, fun y hy => Nat.le_trans ((lnTo_size _ k).2.2 y hy) hs3⟩
  have HPZ : Hid (P.size ≤ maxLen) := by
    show _ ≤ _
    rw [← HP.out]
    have h1 := cutA_size (trimP s objW) blE
    have h2 := trimP_size s objW
    have h3 := HZ1.out
    unfold maxLen
    omega
  have X7 := (show Hid (RdX w7 b _ (.string P :: .slice oN (varyP fs).length cN :: .slice oV k cV :: .int .i64 st :: .slice oF fs.length cF :: .string bd :: .int .i64 t :: .int .i64 n :: vs) 68) from x7)
  clear sc x7 g7 O6 X6 V6 ownF ownN hfo hun HTV HNV HK HP hys hs1 hs2 hs3 hs4 htb
  go_wp2_with fail
  rw [rounds_succ]
  by_cases h0 : s.size = 0
  · have e0 := isEmpty_yes h0
    have hrc := O7.out.rc
    have hbe := O7.out.bel
    have HNO : Hid (∀ p ys st fs b t, ¬ IsObj s p ys st fs b t) := fun p ys st fs b t h => by
      have h1 := objT_pos p ys st fs b t
      rw [h.2] at h1
      omega
    have c0 : w7.cell? ⟨R, 0, none⟩ = some (.string ⟨#[]⟩) := (cell_of hrc 0).trans rfl
    have f0 : w7.frozen? ⟨R, 0, none⟩ = false := frozen_of hrc 0
    have c1 : w7.cell? ⟨R, 1, none⟩ = some (.slice none 0 0) := (cell_of hrc 1).trans rfl
    have f1 : w7.frozen? ⟨R, 1, none⟩ = false := frozen_of hrc 1
    have c2 : w7.cell? ⟨R, 2, none⟩ = some (.slice none 0 0) := (cell_of hrc 2).trans rfl
    have f2 : w7.frozen? ⟨R, 2, none⟩ = false := frozen_of hrc 2
    have c3 : w7.cell? ⟨R, 3, none⟩ = some (.int .i64 0) := (cell_of hrc 3).trans rfl
    have f3 : w7.frozen? ⟨R, 3, none⟩ = false := frozen_of hrc 3
    have c4 : w7.cell? ⟨R, 4, none⟩ = some (.slice none 0 0) := (cell_of hrc 4).trans rfl
    have f4 : w7.frozen? ⟨R, 4, none⟩ = false := frozen_of hrc 4
    have c5 : w7.cell? ⟨R, 5, none⟩ = some (.string ⟨#[]⟩) := (cell_of hrc 5).trans rfl
    have f5 : w7.frozen? ⟨R, 5, none⟩ = false := frozen_of hrc 5
    have c6 : w7.cell? ⟨R, 6, none⟩ = some (.int .i64 0) := (cell_of hrc 6).trans rfl
    have f6 : w7.frozen? ⟨R, 6, none⟩ = false := frozen_of hrc 6
    obtain ⟨WE, hWE⟩ : ∃ W, W = (((((((w7.setCell ⟨R, 0, none⟩ (.string ⟨#[]⟩)).setCell ⟨R, 1, none⟩ (.slice none 0 0)).setCell ⟨R, 2, none⟩ (.slice none 0 0)).setCell ⟨R, 3, none⟩ (.int .i64 0)).setCell ⟨R, 4, none⟩ (.slice none 0 0)).setCell ⟨R, 5, none⟩ (.string ⟨#[]⟩)).setCell ⟨R, 6, none⟩ (.int .i64 0)) := ⟨_, rfl⟩
    have HWE : Hid ((((((((w7.setCell ⟨R, 0, none⟩ (.string ⟨#[]⟩)).setCell ⟨R, 1, none⟩ (.slice none 0 0)).setCell ⟨R, 2, none⟩ (.slice none 0 0)).setCell ⟨R, 3, none⟩ (.int .i64 0)).setCell ⟨R, 4, none⟩ (.slice none 0 0)).setCell ⟨R, 5, none⟩ (.string ⟨#[]⟩)).setCell ⟨R, 6, none⟩ (.int .i64 0)) = WE) := hWE.symm
    have HBE : Hid (Below w.heap.size w WE) := by show Below _ _ _; rw [hWE]; exact (((((((hbe.setCell (p := ⟨R, 0, none⟩) HRG.out _).setCell (p := ⟨R, 1, none⟩) HRG.out _).setCell (p := ⟨R, 2, none⟩) HRG.out _).setCell (p := ⟨R, 3, none⟩) HRG.out _).setCell (p := ⟨R, 4, none⟩) HRG.out _).setCell (p := ⟨R, 5, none⟩) HRG.out _).setCell (p := ⟨R, 6, none⟩) HRG.out _)
    have hre : WE.heap[R]? = some (.cells #[.string ⟨#[]⟩, .slice none 0 0, .slice none 0 0, .int .i64 0, .slice none 0 0, .string ⟨#[]⟩, .int .i64 0] 29) := by rw [hWE]; have h := (heap_set _ R 6 _ _ _ (.int .i64 0) (heap_set _ R 5 _ _ _ (.string ⟨#[]⟩) (heap_set _ R 4 _ _ _ (.slice none 0 0) (heap_set _ R 3 _ _ _ (.int .i64 0) (heap_set _ R 2 _ _ _ (.slice none 0 0) (heap_set _ R 1 _ _ _ (.slice none 0 0) (heap_set _ R 0 _ _ _ (.string ⟨#[]⟩) hrc))))))); simpa using h
    have k0 : WE.cell? ⟨R, 0, none⟩ = some (.string ⟨#[]⟩) := (cell_of hre 0).trans rfl
    have k1 : WE.cell? ⟨R, 1, none⟩ = some (.slice none 0 0) := (cell_of hre 1).trans rfl
    have k2 : WE.cell? ⟨R, 2, none⟩ = some (.slice none 0 0) := (cell_of hre 2).trans rfl
    have k3 : WE.cell? ⟨R, 3, none⟩ = some (.int .i64 0) := (cell_of hre 3).trans rfl
    have k4 : WE.cell? ⟨R, 4, none⟩ = some (.slice none 0 0) := (cell_of hre 4).trans rfl
    have k5 : WE.cell? ⟨R, 5, none⟩ = some (.string ⟨#[]⟩) := (cell_of hre 5).trans rfl
    have k6 : WE.cell? ⟨R, 6, none⟩ = some (.int .i64 0) := (cell_of hre 6).trans rfl
    clear hWE hre hrc hbe
    clear h0 F7 N7 V7 X7 O7
    go_wp2_with fail
    simp only [HWE.out]
    exact bodyPost_ret (v := .tuple #[.agg #[.string ⟨#[]⟩, .slice none 0 0, .slice none 0 0, .int .i64 0, .slice none 0 0, .string ⟨#[]⟩, .int .i64 0], .bool false]) (by simp [results, Tryz.results11, go_sem, k0, k1, k2, k3, k4, k5, k6]) rfl ⟨HBE.out, .inr ⟨rfl, HNO.out⟩⟩
  · have e0 := isEmpty_no (s := s) (by omega)
    have d1 : w7.cell? ⟨b, 1, none⟩ = some (.string P) := (X7.out.at 0).trans rfl
    have d2 : w7.cell? ⟨b, 2, none⟩ = some (.slice oN (varyP fs).length cN) := (X7.out.at 1).trans rfl
    have d3 : w7.cell? ⟨b, 3, none⟩ = some (.slice oV k cV) := (X7.out.at 2).trans rfl
    have d4 : w7.cell? ⟨b, 4, none⟩ = some (.int .i64 st) := (X7.out.at 3).trans rfl
    have d5 : w7.cell? ⟨b, 5, none⟩ = some (.slice oF fs.length cF) := (X7.out.at 4).trans rfl
    have d6 : w7.cell? ⟨b, 6, none⟩ = some (.string bd) := (X7.out.at 5).trans rfl
    have d7 : w7.cell? ⟨b, 7, none⟩ = some (.int .i64 t) := (X7.out.at 6).trans rfl
    have H0 : Hid (¬ s.size = 0) := h0
    have hf8 := (flds_sizes HFO.out.1).1
    have hvs := vary_small HFO.out.1
    clear h0
    go_wp2_with fail
    have hcall := implObjText_any P oN (varyP fs).length cN (varyP fs) oV k cV ys st (.slice oF fs.length cF) fs.length w.heap.size fs bd t w7 (texts_view N7.out) (texts_view V7.out) (FieldsV.of_owns F7.out) hvs.1 (by omega) (by omega) hvs.2 (fun i hi => by have := HYL.out.2 _ (textAt_mem ys i (by rw [HYL.out.1]; exact hi)); unfold maxLen; omega) (walkF_small HFO.out.1) HPZ.out (by have := HFO.out.2; unfold maxLen; omega) (getV_small HFO.out.1 _) (copyF_small HFO.out.1) (HTAB.out _ O7.out.bel)
    refine hcall.mono ?_
    clear hcall
    rintro e w8 ⟨u, rfl, hu1, hu2, bw⟩
    have HU1 : Hid (ObjP P (varyP fs) ys st fs bd t → u = objT P ys st fs bd t) := hu1
    have HU2 : Hid (¬ ObjP P (varyP fs) ys st fs bd t → u = ⟨#[]⟩) := hu2
    have hrc := (bw.block R (Array.getElem?_eq_some_iff.1 O7.out.rc).1).trans O7.out.rc
    have hbe := O7.out.bel.trans (bw.mono O7.out.bel.size)
    have X8 := X7.out.below bw
    have F8 := owns_below F7.out bw (fun g hg => owns_lt F7.out hg)
    have N8 := owns_below N7.out bw (fun g hg => owns_lt N7.out hg)
    have V8 := owns_below V7.out bw (fun g hg => owns_lt V7.out hg)
    clear hu1 hu2 bw d1 d2 d3 d4 d5 d6 d7 F7 N7 V7 X7 O7 hvs
    by_cases hus : u = s
    · have HIS : Hid (IsObj s P ys st fs bd t) := by
        by_cases hp : ObjP P (varyP fs) ys st fs bd t
        · exact ⟨hp, by rw [← HU1.out hp]; exact hus⟩
        · exfalso
          have h1 := HU2.out hp
          exact H0.out (by rw [← hus, h1]; rfl)
      have hts : (u.toList == s.toList) = true := (text_beq _ _).2 hus
      have d1 : w8.cell? ⟨b, 1, none⟩ = some (.string P) := (X8.at 0).trans rfl
      have d2 : w8.cell? ⟨b, 2, none⟩ = some (.slice oN (varyP fs).length cN) := (X8.at 1).trans rfl
      have d3 : w8.cell? ⟨b, 3, none⟩ = some (.slice oV k cV) := (X8.at 2).trans rfl
      have d4 : w8.cell? ⟨b, 4, none⟩ = some (.int .i64 st) := (X8.at 3).trans rfl
      have d5 : w8.cell? ⟨b, 5, none⟩ = some (.slice oF fs.length cF) := (X8.at 4).trans rfl
      have d6 : w8.cell? ⟨b, 6, none⟩ = some (.string bd) := (X8.at 5).trans rfl
      have d7 : w8.cell? ⟨b, 7, none⟩ = some (.int .i64 t) := (X8.at 6).trans rfl
      have c0 : w8.cell? ⟨R, 0, none⟩ = some (.string ⟨#[]⟩) := (cell_of hrc 0).trans rfl
      have f0 : w8.frozen? ⟨R, 0, none⟩ = false := frozen_of hrc 0
      have c1 : w8.cell? ⟨R, 1, none⟩ = some (.slice none 0 0) := (cell_of hrc 1).trans rfl
      have f1 : w8.frozen? ⟨R, 1, none⟩ = false := frozen_of hrc 1
      have c2 : w8.cell? ⟨R, 2, none⟩ = some (.slice none 0 0) := (cell_of hrc 2).trans rfl
      have f2 : w8.frozen? ⟨R, 2, none⟩ = false := frozen_of hrc 2
      have c3 : w8.cell? ⟨R, 3, none⟩ = some (.int .i64 0) := (cell_of hrc 3).trans rfl
      have f3 : w8.frozen? ⟨R, 3, none⟩ = false := frozen_of hrc 3
      have c4 : w8.cell? ⟨R, 4, none⟩ = some (.slice none 0 0) := (cell_of hrc 4).trans rfl
      have f4 : w8.frozen? ⟨R, 4, none⟩ = false := frozen_of hrc 4
      have c5 : w8.cell? ⟨R, 5, none⟩ = some (.string ⟨#[]⟩) := (cell_of hrc 5).trans rfl
      have f5 : w8.frozen? ⟨R, 5, none⟩ = false := frozen_of hrc 5
      have c6 : w8.cell? ⟨R, 6, none⟩ = some (.int .i64 0) := (cell_of hrc 6).trans rfl
      have f6 : w8.frozen? ⟨R, 6, none⟩ = false := frozen_of hrc 6
      obtain ⟨WE, hWE⟩ : ∃ W, W = (((((((w8.setCell ⟨R, 0, none⟩ (.string P)).setCell ⟨R, 1, none⟩ (.slice oN (varyP fs).length cN)).setCell ⟨R, 2, none⟩ (.slice oV k cV)).setCell ⟨R, 3, none⟩ (.int .i64 st)).setCell ⟨R, 4, none⟩ (.slice oF fs.length cF)).setCell ⟨R, 5, none⟩ (.string bd)).setCell ⟨R, 6, none⟩ (.int .i64 t)) := ⟨_, rfl⟩
      have HWE : Hid ((((((((w8.setCell ⟨R, 0, none⟩ (.string P)).setCell ⟨R, 1, none⟩ (.slice oN (varyP fs).length cN)).setCell ⟨R, 2, none⟩ (.slice oV k cV)).setCell ⟨R, 3, none⟩ (.int .i64 st)).setCell ⟨R, 4, none⟩ (.slice oF fs.length cF)).setCell ⟨R, 5, none⟩ (.string bd)).setCell ⟨R, 6, none⟩ (.int .i64 t)) = WE) := hWE.symm
      have HBE : Hid (Below w.heap.size w WE) := by show Below _ _ _; rw [hWE]; exact (((((((hbe.setCell (p := ⟨R, 0, none⟩) HRG.out _).setCell (p := ⟨R, 1, none⟩) HRG.out _).setCell (p := ⟨R, 2, none⟩) HRG.out _).setCell (p := ⟨R, 3, none⟩) HRG.out _).setCell (p := ⟨R, 4, none⟩) HRG.out _).setCell (p := ⟨R, 5, none⟩) HRG.out _).setCell (p := ⟨R, 6, none⟩) HRG.out _)
      have hre : WE.heap[R]? = some (.cells #[.string P, .slice oN (varyP fs).length cN, .slice oV k cV, .int .i64 st, .slice oF fs.length cF, .string bd, .int .i64 t] 29) := by rw [hWE]; have h := (heap_set _ R 6 _ _ _ (.int .i64 t) (heap_set _ R 5 _ _ _ (.string bd) (heap_set _ R 4 _ _ _ (.slice oF fs.length cF) (heap_set _ R 3 _ _ _ (.int .i64 st) (heap_set _ R 2 _ _ _ (.slice oV k cV) (heap_set _ R 1 _ _ _ (.slice oN (varyP fs).length cN) (heap_set _ R 0 _ _ _ (.string P) hrc))))))); simpa using h
      have HFE : Hid (WE.ownsRow w.heap.size 131 2 (.slice oF fs.length cF) fs.length (flatF fs)) := by
        show World.ownsRow _ _ _ _ _ _ _
        rw [hWE]
        refine owns_same F8 (fun g hg => ?_)
        have hne := own_ne F8 hrc (by decide) g hg
        rw [heap_setCell_other _ _ g _ hne, heap_setCell_other _ _ g _ hne, heap_setCell_other _ _ g _ hne, heap_setCell_other _ _ g _ hne, heap_setCell_other _ _ g _ hne, heap_setCell_other _ _ g _ hne, heap_setCell_other _ _ g _ hne]
      have HNE2 : Hid (WE.ownsRow w.heap.size 9 1 (.slice oN (varyP fs).length cN) (varyP fs).length ((varyP fs).map Value.string)) := by
        show World.ownsRow _ _ _ _ _ _ _
        rw [hWE]
        refine owns_same N8 (fun g hg => ?_)
        have hne := own_ne N8 hrc (by decide) g hg
        rw [heap_setCell_other _ _ g _ hne, heap_setCell_other _ _ g _ hne, heap_setCell_other _ _ g _ hne, heap_setCell_other _ _ g _ hne, heap_setCell_other _ _ g _ hne, heap_setCell_other _ _ g _ hne, heap_setCell_other _ _ g _ hne]
      have HVE : Hid (WE.ownsRow w.heap.size 9 1 (.slice oV k cV) k (ys.map Value.string)) := by
        show World.ownsRow _ _ _ _ _ _ _
        rw [hWE]
        refine owns_same V8 (fun g hg => ?_)
        have hne := own_ne V8 hrc (by decide) g hg
        rw [heap_setCell_other _ _ g _ hne, heap_setCell_other _ _ g _ hne, heap_setCell_other _ _ g _ hne, heap_setCell_other _ _ g _ hne, heap_setCell_other _ _ g _ hne, heap_setCell_other _ _ g _ hne, heap_setCell_other _ _ g _ hne]
      have k0 : WE.cell? ⟨R, 0, none⟩ = some (.string P) := (cell_of hre 0).trans rfl
      have k1 : WE.cell? ⟨R, 1, none⟩ = some (.slice oN (varyP fs).length cN) := (cell_of hre 1).trans rfl
      have k2 : WE.cell? ⟨R, 2, none⟩ = some (.slice oV k cV) := (cell_of hre 2).trans rfl
      have k3 : WE.cell? ⟨R, 3, none⟩ = some (.int .i64 st) := (cell_of hre 3).trans rfl
      have k4 : WE.cell? ⟨R, 4, none⟩ = some (.slice oF fs.length cF) := (cell_of hre 4).trans rfl
      have k5 : WE.cell? ⟨R, 5, none⟩ = some (.string bd) := (cell_of hre 5).trans rfl
      have k6 : WE.cell? ⟨R, 6, none⟩ = some (.int .i64 t) := (cell_of hre 6).trans rfl
      clear hWE hre hrc hbe
      clear hus F8 N8 V8 X8
      go_wp2_with fail
      simp only [HWE.out]
      exact bodyPost_ret (v := .tuple #[.agg #[.string P, .slice oN (varyP fs).length cN, .slice oV k cV, .int .i64 st, .slice oF fs.length cF, .string bd, .int .i64 t], .bool true]) (by simp [results, Tryz.results11, go_sem, k0, k1, k2, k3, k4, k5, k6]) rfl ⟨HBE.out, .inl ⟨P, ys, st, fs, bd, t, _, _, _, rfl, HIS.out, ⟨HNE2.out, by rw [HYL.out.1]; exact HVE.out, HFE.out, HNE.out⟩⟩⟩
    · have HNO : Hid (∀ p ys st fs b t, ¬ IsObj s p ys st fs b t) := fun p' ys' st' fs' b' t' h => by
        obtain ⟨rfl, rfl, rfl, rfl, rfl, rfl⟩ := HUN.out h
        exact hus ((HU1.out h.1).trans h.2)
      have hts := text_beq_no hus
      have c0 : w8.cell? ⟨R, 0, none⟩ = some (.string ⟨#[]⟩) := (cell_of hrc 0).trans rfl
      have f0 : w8.frozen? ⟨R, 0, none⟩ = false := frozen_of hrc 0
      have c1 : w8.cell? ⟨R, 1, none⟩ = some (.slice none 0 0) := (cell_of hrc 1).trans rfl
      have f1 : w8.frozen? ⟨R, 1, none⟩ = false := frozen_of hrc 1
      have c2 : w8.cell? ⟨R, 2, none⟩ = some (.slice none 0 0) := (cell_of hrc 2).trans rfl
      have f2 : w8.frozen? ⟨R, 2, none⟩ = false := frozen_of hrc 2
      have c3 : w8.cell? ⟨R, 3, none⟩ = some (.int .i64 0) := (cell_of hrc 3).trans rfl
      have f3 : w8.frozen? ⟨R, 3, none⟩ = false := frozen_of hrc 3
      have c4 : w8.cell? ⟨R, 4, none⟩ = some (.slice none 0 0) := (cell_of hrc 4).trans rfl
      have f4 : w8.frozen? ⟨R, 4, none⟩ = false := frozen_of hrc 4
      have c5 : w8.cell? ⟨R, 5, none⟩ = some (.string ⟨#[]⟩) := (cell_of hrc 5).trans rfl
      have f5 : w8.frozen? ⟨R, 5, none⟩ = false := frozen_of hrc 5
      have c6 : w8.cell? ⟨R, 6, none⟩ = some (.int .i64 0) := (cell_of hrc 6).trans rfl
      have f6 : w8.frozen? ⟨R, 6, none⟩ = false := frozen_of hrc 6
      obtain ⟨WE, hWE⟩ : ∃ W, W = (((((((w8.setCell ⟨R, 0, none⟩ (.string ⟨#[]⟩)).setCell ⟨R, 1, none⟩ (.slice none 0 0)).setCell ⟨R, 2, none⟩ (.slice none 0 0)).setCell ⟨R, 3, none⟩ (.int .i64 0)).setCell ⟨R, 4, none⟩ (.slice none 0 0)).setCell ⟨R, 5, none⟩ (.string ⟨#[]⟩)).setCell ⟨R, 6, none⟩ (.int .i64 0)) := ⟨_, rfl⟩
      have HWE : Hid ((((((((w8.setCell ⟨R, 0, none⟩ (.string ⟨#[]⟩)).setCell ⟨R, 1, none⟩ (.slice none 0 0)).setCell ⟨R, 2, none⟩ (.slice none 0 0)).setCell ⟨R, 3, none⟩ (.int .i64 0)).setCell ⟨R, 4, none⟩ (.slice none 0 0)).setCell ⟨R, 5, none⟩ (.string ⟨#[]⟩)).setCell ⟨R, 6, none⟩ (.int .i64 0)) = WE) := hWE.symm
      have HBE : Hid (Below w.heap.size w WE) := by show Below _ _ _; rw [hWE]; exact (((((((hbe.setCell (p := ⟨R, 0, none⟩) HRG.out _).setCell (p := ⟨R, 1, none⟩) HRG.out _).setCell (p := ⟨R, 2, none⟩) HRG.out _).setCell (p := ⟨R, 3, none⟩) HRG.out _).setCell (p := ⟨R, 4, none⟩) HRG.out _).setCell (p := ⟨R, 5, none⟩) HRG.out _).setCell (p := ⟨R, 6, none⟩) HRG.out _)
      have hre : WE.heap[R]? = some (.cells #[.string ⟨#[]⟩, .slice none 0 0, .slice none 0 0, .int .i64 0, .slice none 0 0, .string ⟨#[]⟩, .int .i64 0] 29) := by rw [hWE]; have h := (heap_set _ R 6 _ _ _ (.int .i64 0) (heap_set _ R 5 _ _ _ (.string ⟨#[]⟩) (heap_set _ R 4 _ _ _ (.slice none 0 0) (heap_set _ R 3 _ _ _ (.int .i64 0) (heap_set _ R 2 _ _ _ (.slice none 0 0) (heap_set _ R 1 _ _ _ (.slice none 0 0) (heap_set _ R 0 _ _ _ (.string ⟨#[]⟩) hrc))))))); simpa using h
      have k0 : WE.cell? ⟨R, 0, none⟩ = some (.string ⟨#[]⟩) := (cell_of hre 0).trans rfl
      have k1 : WE.cell? ⟨R, 1, none⟩ = some (.slice none 0 0) := (cell_of hre 1).trans rfl
      have k2 : WE.cell? ⟨R, 2, none⟩ = some (.slice none 0 0) := (cell_of hre 2).trans rfl
      have k3 : WE.cell? ⟨R, 3, none⟩ = some (.int .i64 0) := (cell_of hre 3).trans rfl
      have k4 : WE.cell? ⟨R, 4, none⟩ = some (.slice none 0 0) := (cell_of hre 4).trans rfl
      have k5 : WE.cell? ⟨R, 5, none⟩ = some (.string ⟨#[]⟩) := (cell_of hre 5).trans rfl
      have k6 : WE.cell? ⟨R, 6, none⟩ = some (.int .i64 0) := (cell_of hre 6).trans rfl
      clear hWE hre hrc hbe
      clear hus F8 N8 V8 X8
      go_wp2_with fail
      simp only [HWE.out]
      exact bodyPost_ret (v := .tuple #[.agg #[.string ⟨#[]⟩, .slice none 0 0, .slice none 0 0, .int .i64 0, .slice none 0 0, .string ⟨#[]⟩, .int .i64 0], .bool false]) (by simp [results, Tryz.results11, go_sem, k0, k1, k2, k3, k4, k5, k6]) rfl ⟨HBE.out, .inr ⟨rfl, HNO.out⟩⟩

end Go.Proofs.YtdlhicdfldecgaaGreatDoor
