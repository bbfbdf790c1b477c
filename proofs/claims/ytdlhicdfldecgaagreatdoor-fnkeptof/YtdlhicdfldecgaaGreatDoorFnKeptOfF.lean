/- What the proof of FnKeptOf leans on: contracts of the program's and the specification's functions, and plain facts (part 6 of 7). -/
import Derived.Test.YtdlhicdfldecgaaGreatDoorFnKeptOfE
namespace Go.Proofs.YtdlhicdfldecgaaGreatDoor
open Go.RowKit
open Go.Lib hiding intOf

set_option maxHeartbeats 20000000 in
set_option maxRecDepth 100000 in
theorem implObjOk_any (p : ByteArray) (o1 : Option Addr) (n1 c1 : Nat) (xs : List ByteArray) (o2 : Option Addr) (n2 c2 : Nat) (ys : List ByteArray) (st : Int) (v3 : Value) (n3 base : Nat) (fs : List (ByteArray × ByteArray)) (b : ByteArray) (t : Int) (w : World) (h1 : TextsA w o1 n1 xs) (h2 : TextsA w o2 n2 ys) (h3 : FieldsV w base v3 n3 fs) (hn1 : n1 ≤ 2000000) (hn2 : n2 ≤ 2000000) (hn3 : n3 ≤ 2000000) (hs1 : ∀ i, i < n1 → (textAt xs i).size ≤ maxLen) (hs2 : ∀ i, i < n2 → (textAt ys i).size ≤ maxLen) (hs3 : WalkF n3 fs) (hc : CopyF fs) (hp : p.size ≤ maxLen) (hx : b.size ≤ maxLen) (hg : (getV fs varyName).size ≤ 1048576) :
    Calls Tryz.prog 10 #[.agg #[.string p, .slice o1 n1 c1, .slice o2 n2 c2, .int .i64 st, v3, .string b, .int .i64 t]] w fun e w' => BoolIs (ObjP p xs ys st fs b t) w e w' := by
  obtain ⟨o3, c3, rfl, _⟩ := h3.slice
  have HV1 : Hid (∀ W, Below w.heap.size w W → TextsA W o1 n1 xs) := fun W h => h1.below h
  have HV2 : Hid (∀ W, Below w.heap.size w W → TextsA W o2 n2 ys) := fun W h => h2.below h
  have HV3 : Hid (∀ W, Below w.heap.size w W → FieldsV W base (.slice o3 n3 c3) n3 fs) := fun W h => h3.below h
  have HL1 : Hid (xs.length = n1) := h1.1
  have HL2 : Hid (ys.length = n2) := h2.1
  have HS1 : Hid (∀ i, i < n1 → (textAt xs i).size ≤ maxLen) := hs1
  have HS2 : Hid (∀ i, i < n2 → (textAt ys i).size ≤ maxLen) := hs2
  have HS3 : Hid (WalkF n3 fs) := hs3
  have HC : Hid (CopyF fs) := hc
  have HPM : Hid (p.size ≤ maxLen) := hp
  have HX : Hid (b.size ≤ maxLen) := hx
  have HG : Hid ((getV fs varyName).size ≤ 1048576) := hg
  obtain ⟨vl, hvl⟩ : ∃ l, l = varyP fs := ⟨_, rfl⟩
  have HVL : Hid (varyP fs = vl) := hvl.symm
  have HVZ : Hid (vl.length ≤ 2000000) := by
    show _ ≤ _
    have hle := splitL_le (getV fs varyName)
    rw [hvl]
    unfold varyP
    rw [List.length_map]
    omega
  clear h1 h2 h3 hs1 hs2 hs3 hc hp hx hg hvl
  have hb0 : Below w.heap.size w w := Below.refl _ _
  go_enter Tryz.func10, Tryz.ntmps10
  go_upto_region 1 with fail
  obtain ⟨qv1, hqv1⟩ : ∃ q, q = (w).heap.size := ⟨_, rfl⟩
  obtain ⟨w1, hW1⟩ : ∃ W, W = (w).alloc (.cells #[.string p, .slice o1 n1 c1, .slice o2 n2 c2, .int .i64 st, .slice o3 n3 c3, .string b, .int .i64 t] 29) := ⟨_, rfl⟩
  have hz1 : (w).heap.size = qv1 := hqv1.symm
  first | rw [← hW1, ← hqv1] | rw [← hW1]
  have hs1 : w1.heap.size = qv1 + 1 := by rw [hW1, ← hz1]; simp
  have bw : Below (w).heap.size (w) w1 := by rw [hW1]; exact (Below.refl _ _).alloc (Nat.le_refl _) _
  have hb1 : Below w.heap.size w (w1) := hb0.trans (bw.mono hb0.size)
  have HM1 : Hid ((w).heap.size ≤ (w1).heap.size) := bw.size
  have HBv1_1 : Hid ((w1).heap[qv1]? = some (.cells #[.string p, .slice o1 n1 c1, .slice o2 n2 c2, .int .i64 st, .slice o3 n3 c3, .string b, .int .i64 t] 29)) := by show _ = _; rw [hW1, ← hz1]; exact heap_alloc_new _ _
  have HGv1 : Hid (w.heap.size ≤ qv1) := by show _ ≤ _; rw [← hz1]; exact hb0.size
  clear hb0 bw hW1 hz1
  clear hs1 hqv1
  have cv1_3 : (w1).cell? ⟨qv1, 3, none⟩ = some (.int .i64 st) := (cell_of HBv1_1.out 3).trans rfl
  have cv1_4 : (w1).cell? ⟨qv1, 4, none⟩ = some (.slice o3 n3 c3) := (cell_of HBv1_1.out 4).trans rfl
  have cv1_5 : (w1).cell? ⟨qv1, 5, none⟩ = some (.string b) := (cell_of HBv1_1.out 5).trans rfl
  go_wp2_with fail
  refine (implRespOk_any st _ b n3 base fs _ (HV3.out _ hb1) (by omega) HS3.out HX.out).mono ?_
  rintro e w2 ⟨u1, rfl, htu1, bw⟩
  have hb2 : Below w.heap.size w (w2) := hb1.trans (bw.mono hb1.size)
  have HM2 : Hid ((w1).heap.size ≤ (w2).heap.size) := bw.size
  have HBv1_2 : Hid ((w2).heap[qv1]? = some (.cells #[.string p, .slice o1 n1 c1, .slice o2 n2 c2, .int .i64 st, .slice o3 n3 c3, .string b, .int .i64 t] 29)) := blk_below HBv1_1.out bw
  clear hb1 HBv1_1 bw
  clear cv1_3 cv1_4 cv1_5
  cases u1 with
  | false =>
    have HF : Hid (¬ ObjP p xs ys st fs b t) := fun h => nomatch htu1.2 h.1
    clear htu1
    go_wp2_with fail
    go_ret
    exact BoolIs.no HF.out hb2
  | true =>
    have HR : Hid (RespP st fs b) := htu1.1 rfl
    clear htu1
    have cv1_0 : (w2).cell? ⟨qv1, 0, none⟩ = some (.string p) := (cell_of HBv1_2.out 0).trans rfl
    go_wp2_with fail
    refine (pathOk_any p _ HPM.out).mono ?_
    rintro e w3 ⟨u2, rfl, htu2, bw⟩
    have hb3 : Below w.heap.size w (w3) := hb2.trans (bw.mono hb2.size)
    have HM3 : Hid ((w2).heap.size ≤ (w3).heap.size) := bw.size
    have HBv1_3 : Hid ((w3).heap[qv1]? = some (.cells #[.string p, .slice o1 n1 c1, .slice o2 n2 c2, .int .i64 st, .slice o3 n3 c3, .string b, .int .i64 t] 29)) := blk_below HBv1_2.out bw
    clear hb2 HBv1_2 bw
    clear cv1_0
    cases u2 with
    | false =>
      have HF : Hid (¬ ObjP p xs ys st fs b t) := fun h => nomatch htu2.2 h.2.1
      clear htu2
      go_wp2_with fail
      go_ret
      exact BoolIs.no HF.out hb3
    | true =>
      have HP : Hid (PathOk p) := htu2.1 rfl
      clear htu2
      have cv1_6 : (w3).cell? ⟨qv1, 6, none⟩ = some (.int .i64 t) := (cell_of HBv1_3.out 6).trans rfl
      go_wp2_with fail
      refine (timeOk_any t _).mono ?_
      rintro e w4 ⟨rfl, hwe⟩
      have bw : Below (w3).heap.size (w3) w4 := by rw [hwe]; exact Below.refl _ _
      clear hwe
      obtain ⟨u3, hu3⟩ : ∃ u3, u3 = decide ((0 : Int) ≤ t ∧ t ≤ 1000000) := ⟨_, rfl⟩
      rw [← hu3]
      have hb4 : Below w.heap.size w (w4) := hb3.trans (bw.mono hb3.size)
      have HM4 : Hid ((w3).heap.size ≤ (w4).heap.size) := bw.size
      have HBv1_4 : Hid ((w4).heap[qv1]? = some (.cells #[.string p, .slice o1 n1 c1, .slice o2 n2 c2, .int .i64 st, .slice o3 n3 c3, .string b, .int .i64 t] 29)) := blk_below HBv1_3.out bw
      clear hb3 HBv1_3 bw
      clear cv1_6
      cases u3 with
      | false =>
        have HF : Hid (¬ ObjP p xs ys st fs b t) := fun h => absurd h.2.2.1 (of_decide_eq_false hu3.symm)
        clear hu3
        go_wp2_with fail
        go_ret
        exact BoolIs.no HF.out hb4
      | true =>
        have HT : Hid (0 ≤ t ∧ t ≤ 1000000) := (show 0 ≤ t ∧ t ≤ 1000000 from of_decide_eq_true hu3.symm)
        clear hu3
        go_upto_region 3 with fail
        refine wp_region_held_drew (S := fun W => W.heap[qv1]? = some (.cells #[.string p, .slice o1 n1 c1, .slice o2 n2 c2, .int .i64 st, .slice o3 n3 c3, .string b, .int .i64 t] 29)) (by kernel_rfl) HBv1_4.out (fun _ => ?_)
        obtain ⟨w5, hX⟩ : ∃ X, X = w4.drew := ⟨_, rfl⟩
        have bw : Below w4.heap.size w4 w5 := by rw [hX]; exact (Below.refl _ _).drew
        rw [← hX]
        have hb5 : Below w.heap.size w (w5) := hb4.trans (bw.mono hb4.size)
        have HM5 : Hid ((w4).heap.size ≤ (w5).heap.size) := bw.size
        have HBv1_5 : Hid ((w5).heap[qv1]? = some (.cells #[.string p, .slice o1 n1 c1, .slice o2 n2 c2, .int .i64 st, .slice o3 n3 c3, .string b, .int .i64 t] 29)) := blk_below HBv1_4.out bw
        have hS5 : w5.heap[qv1]? = some (.cells #[.string p, .slice o1 n1 c1, .slice o2 n2 c2, .int .i64 st, .slice o3 n3 c3, .string b, .int .i64 t] 29) := HBv1_5.out
        clear hb4 HBv1_4 bw hX
        refine wpAnyH_takeD (i := 0) (v := .pointer (some ⟨qv1, 1, none⟩)) (some 20) rfl rfl (by kernel_rfl) (by kernel_rfl) (by kernel_rfl) (fun _ _ _ h => h) (Or.inl ⟨by rfl, by intro W _; go_simp⟩) hS5 ?_
        simp only [Act.put, List.setIfInBounds_toArray, List.set_cons_zero, List.set_cons_succ]
        refine wpAnyH_takeD (i := 1) (v := .slice o1 n1 c1) (some 21) rfl rfl (by kernel_rfl) (by kernel_rfl) (by kernel_rfl) (fun _ _ _ h => h) (Or.inl ⟨by rfl, by intro W hW; have hhv1 := hW; have y1 := (cell_of hhv1 1).trans rfl; go_simp⟩) hS5 ?_
        simp only [Act.put, List.setIfInBounds_toArray, List.set_cons_zero, List.set_cons_succ]
        refine wpAnyH_takeD (i := 2) (v := .pointer (some ⟨qv1, 3, none⟩)) (some 22) rfl rfl (by kernel_rfl) (by kernel_rfl) (by kernel_rfl) (fun _ _ _ h => h) (Or.inl ⟨by rfl, by intro W _; go_simp⟩) hS5 ?_
        simp only [Act.put, List.setIfInBounds_toArray, List.set_cons_zero, List.set_cons_succ]
        refine wpAnyH_takeD (i := 3) (v := .pointer (some ⟨qv1, 4, none⟩)) (some 23) rfl rfl (by kernel_rfl) (by kernel_rfl) (by kernel_rfl) (fun _ _ _ h => h) (Or.inl ⟨by rfl, by intro W _; go_simp⟩) hS5 ?_
        simp only [Act.put, List.setIfInBounds_toArray, List.set_cons_zero, List.set_cons_succ]
        refine wpAnyH_takeD (i := 4) (v := .slice o3 n3 c3) (some 24) rfl rfl (by kernel_rfl) (by kernel_rfl) (by kernel_rfl) (fun _ _ _ h => h) (Or.inl ⟨by rfl, by intro W hW; have hhv1 := hW; have y4 := (cell_of hhv1 4).trans rfl; go_simp⟩) hS5 ?_
        simp only [Act.put, List.setIfInBounds_toArray, List.set_cons_zero, List.set_cons_succ]
        refine wpAnyH_ready (rs := [5]) (by kernel_rfl) (by simp) ?_
        refine AllReadyH.cons rfl (fun K hK => ?_) AllReadyH.nil
        go_simp
        refine (implVaryOf_any _ n3 base fs _ (HV3.out _ hb5) (by omega) HC.out HG.out).mono ?_
        rintro e w6 ⟨vv, rfl, ownY, bw⟩
        obtain ⟨oY, pY, rfl⟩ := slice_of_owns ownY
        rw [HVL.out] at ownY ⊢
        have hb6 : Below w.heap.size w (w6) := hb5.trans (bw.mono hb5.size)
        have HM6 : Hid ((w5).heap.size ≤ (w6).heap.size) := bw.size
        have HBv1_6 : Hid ((w6).heap[qv1]? = some (.cells #[.string p, .slice o1 n1 c1, .slice o2 n2 c2, .int .i64 st, .slice o3 n3 c3, .string b, .int .i64 t] 29)) := blk_below HBv1_5.out bw
        have HOY_6 : Hid ((w6).ownsRow w.heap.size 9 1 (.slice oY vl.length pY) vl.length (vl.map Value.string)) := owns_wide ownY hb5.size
        have LOY : Hid (∀ g, (Value.ownBlock (.slice oY vl.length pY)) = some g → (w5).heap.size ≤ g) := fun g hg => owns_ge ownY hg
        have HIY : Hid (∀ g, (Value.ownBlock (.slice oY vl.length pY)) = some g → g < (w6).heap.size) := fun g hg => owns_lt ownY hg
        clear ownY
        clear hb5 HBv1_5 bw
        have hS6 : w6.heap[qv1]? = some (.cells #[.string p, .slice o1 n1 c1, .slice o2 n2 c2, .int .i64 st, .slice o3 n3 c3, .string b, .int .i64 t] 29) := HBv1_6.out
        refine hK.out _ _ hS6 (fun _ => ?_)
        clear hK K hS5
        refine wpAnyH_ready (rs := [6]) (by kernel_rfl) (by simp) ?_
        refine AllReadyH.cons rfl (fun K hK => ?_) AllReadyH.nil
        go_simp
        refine (equalT_any _ _ _ _ _ _ xs vl _ (HV1.out _ hb6) (by omega) (texts_view HOY_6.out) HVZ.out).mono ?_
        rintro e w7 ⟨rfl, bw⟩
        obtain ⟨u5, hu5⟩ : ∃ u5, u5 = decide (xs = vl) := ⟨_, rfl⟩
        rw [← hu5]
        have hb7 : Below w.heap.size w (w7) := hb6.trans (bw.mono hb6.size)
        have HM7 : Hid ((w6).heap.size ≤ (w7).heap.size) := bw.size
        have HOY_7 : Hid ((w7).ownsRow w.heap.size 9 1 (.slice oY vl.length pY) vl.length (vl.map Value.string)) := owns_below HOY_6.out bw (fun g hg => owns_lt HOY_6.out hg)
        have HBv1_7 : Hid ((w7).heap[qv1]? = some (.cells #[.string p, .slice o1 n1 c1, .slice o2 n2 c2, .int .i64 st, .slice o3 n3 c3, .string b, .int .i64 t] 29)) := blk_below HBv1_6.out bw
        clear hb6 HOY_6 HBv1_6 bw
        have hS7 : w7.heap[qv1]? = some (.cells #[.string p, .slice o1 n1 c1, .slice o2 n2 c2, .int .i64 st, .slice o3 n3 c3, .string b, .int .i64 t] 29) := HBv1_7.out
        refine hK.out _ _ hS7 (fun _ => ?_)
        clear hK K hS6
        refine wpAnyH_takeD (i := 7) (v := .bool u5) (some 27) rfl rfl (by kernel_rfl) (by kernel_rfl) (by kernel_rfl) (fun _ _ _ h => h) (Or.inl ⟨by rfl, by intro W _; go_simp⟩) hS7 ?_
        simp only [Act.put, List.setIfInBounds_toArray, List.set_cons_zero, List.set_cons_succ]
        cases u5 with
        | false =>
          have HF : Hid (¬ ObjP p xs ys st fs b t) := fun h => absurd (h.2.2.2.2.1.trans HVL.out) (of_decide_eq_false hu5.symm)
          clear hu5
          refine wpAnyH_takeD (i := 8) (v := undef) (some 28) rfl rfl (by kernel_rfl) (by kernel_rfl) (by kernel_rfl) (fun _ _ _ h => h) (Or.inr ⟨by rfl, rfl⟩) hS7 ?_
          simp only [Act.put, List.setIfInBounds_toArray, List.set_cons_zero, List.set_cons_succ]
          refine wpAnyH_takeD (i := 9) (v := undef) (some 29) rfl rfl (by kernel_rfl) (by kernel_rfl) (by kernel_rfl) (fun _ _ _ h => h) (Or.inr ⟨by rfl, rfl⟩) hS7 ?_
          simp only [Act.put, List.setIfInBounds_toArray, List.set_cons_zero, List.set_cons_succ]
          refine wpAnyH_takeD (i := 10) (v := undef) (some 30) rfl rfl (by kernel_rfl) (by kernel_rfl) (by kernel_rfl) (fun _ _ _ h => h) (Or.inr ⟨by rfl, rfl⟩) hS7 ?_
          simp only [Act.put, List.setIfInBounds_toArray, List.set_cons_zero, List.set_cons_succ]
          refine wpAnyH_takeD (i := 11) (v := .bool false) (some 31) rfl rfl (by kernel_rfl) (by kernel_rfl) (by kernel_rfl) (fun _ _ _ h => h) (Or.inl ⟨by rfl, by intro W _; go_simp⟩) hS7 ?_
          simp only [Act.put, List.setIfInBounds_toArray, List.set_cons_zero, List.set_cons_succ]
          refine wpAnyH_takeD (i := 12) (v := .bool false) (some 3) rfl rfl (by kernel_rfl) (by kernel_rfl) (by kernel_rfl) (fun _ _ _ h => h) (Or.inl ⟨by rfl, by intro W _; go_simp⟩) hS7 ?_
          simp only [Act.put, List.setIfInBounds_toArray, List.set_cons_zero, List.set_cons_succ]
          clear hS7
          refine wpAnyH_done (by kernel_rfl) ?_ _
          go_wp2_with fail
          go_ret
          exact BoolIs.no HF.out hb7
        | true =>
          have HE : Hid (xs = vl) := (show xs = vl from of_decide_eq_true hu5.symm)
          clear hu5
          refine wpAnyH_takeD (i := 8) (v := .pointer (some ⟨qv1, 1, none⟩)) (some 28) rfl rfl (by kernel_rfl) (by kernel_rfl) (by kernel_rfl) (fun _ _ _ h => h) (Or.inl ⟨by rfl, by intro W _; go_simp⟩) hS7 ?_
          simp only [Act.put, List.setIfInBounds_toArray, List.set_cons_zero, List.set_cons_succ]
          refine wpAnyH_takeD (i := 9) (v := .slice o1 n1 c1) (some 29) rfl rfl (by kernel_rfl) (by kernel_rfl) (by kernel_rfl) (fun _ _ _ h => h) (Or.inl ⟨by rfl, by intro W hW; have hhv1 := hW; have y1 := (cell_of hhv1 1).trans rfl; go_simp⟩) hS7 ?_
          simp only [Act.put, List.setIfInBounds_toArray, List.set_cons_zero, List.set_cons_succ]
          refine wpAnyH_ready (rs := [10]) (by kernel_rfl) (by simp) ?_
          refine AllReadyH.cons rfl (fun K hK => ?_) AllReadyH.nil
          go_simp
          refine (namesOk_any _ _ _ xs _ (HV1.out _ hb7) (by omega) HS1.out).mono ?_
          rintro e w8 ⟨u4, rfl, htu4, bw⟩
          have hb8 : Below w.heap.size w (w8) := hb7.trans (bw.mono hb7.size)
          have HM8 : Hid ((w7).heap.size ≤ (w8).heap.size) := bw.size
          have HOY_8 : Hid ((w8).ownsRow w.heap.size 9 1 (.slice oY vl.length pY) vl.length (vl.map Value.string)) := owns_below HOY_7.out bw (fun g hg => owns_lt HOY_7.out hg)
          have HBv1_8 : Hid ((w8).heap[qv1]? = some (.cells #[.string p, .slice o1 n1 c1, .slice o2 n2 c2, .int .i64 st, .slice o3 n3 c3, .string b, .int .i64 t] 29)) := blk_below HBv1_7.out bw
          clear hb7 HOY_7 HBv1_7 bw
          have hS8 : w8.heap[qv1]? = some (.cells #[.string p, .slice o1 n1 c1, .slice o2 n2 c2, .int .i64 st, .slice o3 n3 c3, .string b, .int .i64 t] 29) := HBv1_8.out
          refine hK.out _ _ hS8 (fun _ => ?_)
          clear hK K hS7
          refine wpAnyH_takeD (i := 11) (v := .bool u4) (some 31) rfl rfl (by kernel_rfl) (by kernel_rfl) (by kernel_rfl) (fun _ _ _ h => h) (Or.inl ⟨by rfl, by intro W _; go_simp⟩) hS8 ?_
          simp only [Act.put, List.setIfInBounds_toArray, List.set_cons_zero, List.set_cons_succ]
          refine wpAnyH_takeD (i := 12) (v := .bool u4) (some 3) rfl rfl (by kernel_rfl) (by kernel_rfl) (by kernel_rfl) (fun _ _ _ h => h) (Or.inl ⟨by rfl, by intro W _; go_simp⟩) hS8 ?_
          simp only [Act.put, List.setIfInBounds_toArray, List.set_cons_zero, List.set_cons_succ]
          clear hS8
          refine wpAnyH_done (by kernel_rfl) ?_ _
          cases u4 with
          | false =>
            have HF : Hid (¬ ObjP p xs ys st fs b t) := fun h => nomatch htu4.2 h.2.2.2.1
            clear htu4
            go_wp2_with fail
            go_ret
            exact BoolIs.no HF.out hb8
          | true =>
            have HNM : Hid (NamesP xs) := htu4.1 rfl
            clear htu4
            by_cases hc1 : (n2 : Int) = (n1 : Int)
            · have hc1b : (((n2 : Int) : Int) == ((n1 : Int) : Int)) = true := by simpa using hc1
              have hc1n : (((n2 : Int) : Int) != ((n1 : Int) : Int)) = false := by simpa using hc1
              have HEQ : Hid ((n2 : Int) = (n1 : Int)) := hc1
              have hc1H : Hid ((n2 : Int) = (n1 : Int)) := hc1
              clear hc1
              have cv1_1 : (w8).cell? ⟨qv1, 1, none⟩ = some (.slice o1 n1 c1) := (cell_of HBv1_8.out 1).trans rfl
              have cv1_2 : (w8).cell? ⟨qv1, 2, none⟩ = some (.slice o2 n2 c2) := (cell_of HBv1_8.out 2).trans rfl
              go_wp2_with fail
              refine (valuesOk_any _ _ _ ys _ (HV2.out _ hb8) (by omega) HS2.out).mono ?_
              rintro e w9 ⟨u6, rfl, htu6, bw⟩
              have hb9 : Below w.heap.size w (w9) := hb8.trans (bw.mono hb8.size)
              have HM9 : Hid ((w8).heap.size ≤ (w9).heap.size) := bw.size
              have HOY_9 : Hid ((w9).ownsRow w.heap.size 9 1 (.slice oY vl.length pY) vl.length (vl.map Value.string)) := owns_below HOY_8.out bw (fun g hg => owns_lt HOY_8.out hg)
              have HBv1_9 : Hid ((w9).heap[qv1]? = some (.cells #[.string p, .slice o1 n1 c1, .slice o2 n2 c2, .int .i64 st, .slice o3 n3 c3, .string b, .int .i64 t] 29)) := blk_below HBv1_8.out bw
              clear hb8 HOY_8 HBv1_8 bw
              clear cv1_1 cv1_2
              go_wp2_with fail
              go_ret
              exact ⟨u6, rfl, ⟨fun h => ⟨HR.out, HP.out, HT.out, HNM.out, HE.out.trans HVL.out.symm, by have h1 := HL1.out; have h2 := HL2.out; have h3 := HEQ.out; omega, htu6.1 h⟩, fun h => htu6.2 h.2.2.2.2.2.2⟩, hb9⟩
            · have hc1b : (((n2 : Int) : Int) == ((n1 : Int) : Int)) = false := by simpa using hc1
              have hc1n : (((n2 : Int) : Int) != ((n1 : Int) : Int)) = true := by simpa using hc1
              have HF : Hid (¬ ObjP p xs ys st fs b t) := fun h => by have h1 := h.2.2.2.2.2.1; have h2 := HL1.out; have h3 := HL2.out; omega
              have hc1H : Hid (¬ ((n2 : Int) = (n1 : Int))) := hc1
              clear hc1
              have cv1_1 : (w8).cell? ⟨qv1, 1, none⟩ = some (.slice o1 n1 c1) := (cell_of HBv1_8.out 1).trans rfl
              have cv1_2 : (w8).cell? ⟨qv1, 2, none⟩ = some (.slice o2 n2 c2) := (cell_of HBv1_8.out 2).trans rfl
              go_wp2_with fail
              go_ret
              exact BoolIs.no HF.out hb8

end Go.Proofs.YtdlhicdfldecgaaGreatDoor

namespace Go.Proofs.YtdlhicdfldecgaaGreatDoor
open Go.RowKit
open Go.Lib hiding intOf

set_option maxHeartbeats 2000000 in
theorem saidByFlag_any (x : ByteArray) (w : World) :
    Calls Tryz.prog 163 #[.string x] w fun e w' => e = .returned (saidF x).v ∧ Below w.heap.size w w' := by
  have hR : CcAt (w.alloc (.cells #[.bool false, .bool false, .bool false, .bool false, .bool false, .int .i64 0] 101)) w.heap.size cc0 := heap_alloc_new w _
  have HB0 : Hid (Below w.heap.size w (w.alloc (.cells #[.bool false, .bool false, .bool false, .bool false, .bool false, .int .i64 0] 101))) := (Below.refl _ _).alloc (Nat.le_refl _) _
  obtain ⟨W1, hW1⟩ : ∃ W, W = w.alloc (.cells #[.bool false, .bool false, .bool false, .bool false, .bool false, .int .i64 0] 101) := ⟨_, rfl⟩
  have HW1 : Hid (w.alloc (.cells #[.bool false, .bool false, .bool false, .bool false, .bool false, .int .i64 0] 101) = W1) := hW1.symm
  rw [← hW1] at hR HB0
  obtain ⟨H, hH⟩ : ∃ H, H = w.heap.size := ⟨_, rfl⟩
  have HW : Hid (w.heap.size = H) := hH.symm
  rw [← hH] at hR HB0
  clear hW1
  obtain ⟨r0, r1, r2, r3, r4, r5⟩ := hR.cells
  have f0 := hR.frozen 0
  have f1 := hR.frozen 1
  have f2 := hR.frozen 2
  have f3 := hR.frozen 3
  have f4 := hR.frozen 4
  have f5 := hR.frozen 5
  obtain ⟨c, hc⟩ : ∃ c, c = saidF x := ⟨_, rfl⟩
  have HC : Hid (saidF x = c) := hc.symm
  obtain ⟨m0, m1, m2, m3, m4, m5⟩ := (hR.putAll c).cells
  have HB : Hid (Below H w (putCc W1 H c)) := below_putCc HB0.out (Nat.le_refl _) c
  unfold putCc at m0 m1 m2 m3 m4 m5 HB
  clear hR HB0
  unfold saidF at hc
  by_cases h0 : x = nsW
  · have t0 : (x.toList == nsW.toList) = true := (text_beq _ _).2 h0
    rw [nsW_list] at t0
    rw [if_pos h0] at hc
    subst hc
    clear h0 
    dsimp only at m0 m1 m2 m3 m4 m5 HB
    go_enter Tryz.func163, Tryz.ntmps163
    go_upto_region 1 with fail
    rw [HW1.out, ← hH]
    clear hH HW1
    go_wp2_with fail
    refine bodyPost_ret (v := (saidF x).v) (by rw [HC.out]; simp [results, Tryz.results163, go_sem, m0, m1, m2, m3, m4, m5, CcD.v]) rfl ?_
    exact ⟨rfl, by rw [HW.out]; exact HB.out⟩
  have t0 : (x.toList == nsW.toList) = false := text_beq_no h0
  rw [nsW_list] at t0
  by_cases h1 : x = ncW
  · have t1 : (x.toList == ncW.toList) = true := (text_beq _ _).2 h1
    rw [ncW_list] at t1
    rw [if_neg h0, if_pos h1] at hc
    subst hc
    clear h1 h0
    dsimp only at m0 m1 m2 m3 m4 m5 HB
    go_enter Tryz.func163, Tryz.ntmps163
    go_upto_region 1 with fail
    rw [HW1.out, ← hH]
    clear hH HW1
    go_wp2_with fail
    refine bodyPost_ret (v := (saidF x).v) (by rw [HC.out]; simp [results, Tryz.results163, go_sem, m0, m1, m2, m3, m4, m5, CcD.v]) rfl ?_
    exact ⟨rfl, by rw [HW.out]; exact HB.out⟩
  have t1 : (x.toList == ncW.toList) = false := text_beq_no h1
  rw [ncW_list] at t1
  by_cases h2 : x = prW
  · have t2 : (x.toList == prW.toList) = true := (text_beq _ _).2 h2
    rw [prW_list] at t2
    rw [if_neg h0, if_neg h1, if_pos h2] at hc
    subst hc
    clear h2 h0 h1
    dsimp only at m0 m1 m2 m3 m4 m5 HB
    go_enter Tryz.func163, Tryz.ntmps163
    go_upto_region 1 with fail
    rw [HW1.out, ← hH]
    clear hH HW1
    go_wp2_with fail
    refine bodyPost_ret (v := (saidF x).v) (by rw [HC.out]; simp [results, Tryz.results163, go_sem, m0, m1, m2, m3, m4, m5, CcD.v]) rfl ?_
    exact ⟨rfl, by rw [HW.out]; exact HB.out⟩
  have t2 : (x.toList == prW.toList) = false := text_beq_no h2
  rw [prW_list] at t2
  by_cases h4 : x = muW
  · have t3 : (x.toList == muW.toList) = true := (text_beq _ _).2 h4
    rw [muW_list] at t3
    rw [if_neg h0, if_neg h1, if_neg h2, if_pos h4] at hc
    subst hc
    clear h4 h0 h1 h2
    dsimp only at m0 m1 m2 m3 m4 m5 HB
    go_enter Tryz.func163, Tryz.ntmps163
    go_upto_region 1 with fail
    rw [HW1.out, ← hH]
    clear hH HW1
    go_wp2_with fail
    refine bodyPost_ret (v := (saidF x).v) (by rw [HC.out]; simp [results, Tryz.results163, go_sem, m0, m1, m2, m3, m4, m5, CcD.v]) rfl ?_
    exact ⟨rfl, by rw [HW.out]; exact HB.out⟩
  have t3 : (x.toList == muW.toList) = false := text_beq_no h4
  rw [muW_list] at t3
  rw [if_neg h0, if_neg h1, if_neg h2, if_neg h4] at hc
  subst hc
  clear h0 h1 h2 h4
  dsimp only [cc0] at m0 m1 m2 m3 m4 m5 HB
  go_enter Tryz.func163, Tryz.ntmps163
  go_upto_region 1 with fail
  rw [HW1.out, ← hH]
  clear hH HW1
  go_wp2_with fail
  refine bodyPost_ret (v := (saidF x).v) (by rw [HC.out]; simp [results, Tryz.results163, go_sem, m0, m1, m2, m3, m4, m5, CcD.v, cc0]) rfl ?_
  exact ⟨rfl, by rw [HW.out]; exact HB.out⟩

end Go.Proofs.YtdlhicdfldecgaaGreatDoor

namespace Go.Proofs.YtdlhicdfldecgaaGreatDoor
open Go.RowKit
open Go.Lib hiding intOf

theorem pre_age {x : ByteArray} (h : Lib.hasPrefix x.data.toList maW.data.toList = true) : ageOf x = some (numV ⟨(Lib.trimPrefix x.data.toList maW.data.toList).toArray⟩) := by
  unfold ageOf
  have e : (bs x).take 8 = bs maW := by
    have := List.isPrefixOf_iff_prefix.1 h
    obtain ⟨t, ht⟩ := this
    show x.data.toList.take 8 = _
    rw [← ht]
    rfl
  rw [if_pos e]
  unfold Lib.trimPrefix
  rw [if_pos h]
  rfl
theorem pre_none {x : ByteArray} (h : Lib.hasPrefix x.data.toList maW.data.toList = false) : ageOf x = none := by
  unfold ageOf
  rw [if_neg]
  intro e
  have : Lib.hasPrefix x.data.toList maW.data.toList = true := by
    refine List.isPrefixOf_iff_prefix.2 ⟨x.data.toList.drop 8, ?_⟩
    have e' : x.data.toList.take 8 = maW.data.toList := e
    rw [← e', List.take_append_drop]
  rw [this] at h
  cases h

set_option maxHeartbeats 2000000 in
theorem saidBy_any (x : ByteArray) (w : World) (hs : x.size ≤ 4000000) :
    Calls Tryz.prog 147 #[.string x] w fun e w' => e = .returned (saidB x).v ∧ Below w.heap.size w w' := by
  have HR0 : Hid (CcAt (w.alloc (.cells cc0.cs 101)) w.heap.size cc0) := heap_alloc_new w _
  have HB0 : Hid (Below w.heap.size w (w.alloc (.cells cc0.cs 101))) := (Below.refl _ _).alloc (Nat.le_refl _) _
  obtain ⟨W1, hW1⟩ : ∃ W, W = w.alloc (.cells cc0.cs 101) := ⟨_, rfl⟩
  have HW1 : Hid (w.alloc (.cells #[.bool false, .bool false, .bool false, .bool false, .bool false, .int .i64 0] 101) = W1) := hW1.symm
  rw [← hW1] at HR0 HB0
  obtain ⟨H, hH⟩ : ∃ H, H = w.heap.size := ⟨_, rfl⟩
  have HW : Hid (w.heap.size = H) := hH.symm
  rw [← hH] at HR0 HB0
  clear hW1
  cases hp : Lib.hasPrefix x.data.toList maW.data.toList with
  | true =>
    have HA : Hid _ := pre_age hp
    obtain ⟨t, ht⟩ : ∃ t : ByteArray, t = ⟨(Lib.trimPrefix x.data.toList maW.data.toList).toArray⟩ := ⟨_, rfl⟩
    have hts : t.size ≤ maxLen := by
      rw [ht]
      unfold Lib.trimPrefix maxLen
      rw [if_pos hp]
      show (List.toArray _).size ≤ _
      simp
      omega
    rw [← ht] at HA
    have HT : Hid (⟨(Lib.trimPrefix x.data.toList maW.data.toList).toArray⟩ = t) := ht.symm
    clear ht
    go_enter Tryz.func147, Tryz.ntmps147
    go_wp2_with fail
    rw [HW1.out, ← hH]
    refine (Tryz.strings_CutPrefix x maW _).mono ?_
    rintro e w1 ⟨rfl, rfl⟩
    rw [hp, HT.out]
    clear hp hH HW1
    go_wp2_with fail
    refine (implNumRead_any t _ hts).mono ?_
    rintro e w2 ⟨b, n, rfl, hb1, hb2, hb3, b2⟩
    have HV : Hid (numV t = n) := by
      show _ = _
      unfold numV
      cases b with
      | true => rw [if_pos (hb1.1 rfl), hb2 rfl]
      | false => rw [if_neg (fun h => nomatch hb1.2 h), hb3 rfl]
    obtain ⟨c, hc⟩ : ∃ c : CcD, c = ⟨false, false, false, false, true, n⟩ := ⟨_, rfl⟩
    have HC : Hid (saidB x = c) := by show _ = _; unfold saidB; rw [HA.out, HV.out, hc]
    have hR := HR0.out.same (b2.block _ HR0.out.lt)
    have HB : Hid (Below H w (putCc w2 H c)) := below_putCc (HB0.out.trans (b2.mono (Nat.le_of_lt HR0.out.lt))) (Nat.le_refl _) c
    obtain ⟨r0, r1, r2, r3, r4, r5⟩ := hR.cells
    have f0 := hR.frozen 0
    have f1 := hR.frozen 1
    have f2 := hR.frozen 2
    have f3 := hR.frozen 3
    have f4 := hR.frozen 4
    have f5 := hR.frozen 5
    obtain ⟨m0, m1, m2, m3, m4, m5⟩ := (hR.putAll c).cells
    unfold putCc at m0 m1 m2 m3 m4 m5 HB
    subst hc
    dsimp only at m0 m1 m2 m3 m4 m5 HB
    clear hb1 hb2 hb3 hR b2 HR0 HB0 HA
    go_wp2_with fail
    refine bodyPost_ret (v := CcD.v ⟨false, false, false, false, true, n⟩) (by simp [results, Tryz.results147, go_sem, m0, m1, m2, m3, m4, m5, CcD.v]) rfl ?_
    exact ⟨by rw [HC.out], by rw [HW.out]; exact HB.out⟩
  | false =>
    have HA : Hid (saidB x = saidF x) := by show _ = _; unfold saidB; rw [pre_none hp]
    go_enter Tryz.func147, Tryz.ntmps147
    go_wp2_with fail
    rw [HW1.out, ← hH]
    refine (Tryz.strings_CutPrefix x maW _).mono ?_
    rintro e w1 ⟨rfl, rfl⟩
    rw [hp]
    clear hp hH HW1
    go_wp2_with fail
    refine (saidByFlag_any x _).mono ?_
    rintro e w2 ⟨rfl, b2⟩
    obtain ⟨c, hc⟩ : ∃ c, c = saidF x := ⟨_, rfl⟩
    rw [← hc] at HA ⊢
    have hR := HR0.out.same (b2.block _ HR0.out.lt)
    have HB : Hid (Below H w (putCc w2 H c)) := below_putCc (HB0.out.trans (b2.mono (Nat.le_of_lt HR0.out.lt))) (Nat.le_refl _) c
    obtain ⟨r0, r1, r2, r3, r4, r5⟩ := hR.cells
    have f0 := hR.frozen 0
    have f1 := hR.frozen 1
    have f2 := hR.frozen 2
    have f3 := hR.frozen 3
    have f4 := hR.frozen 4
    have f5 := hR.frozen 5
    obtain ⟨m0, m1, m2, m3, m4, m5⟩ := (hR.putAll c).cells
    unfold putCc at m0 m1 m2 m3 m4 m5 HB
    clear hc hR b2 HR0 HB0
    unfold CcD.v
    go_wp2_with fail
    refine bodyPost_ret (v := c.v) (by simp [results, Tryz.results147, go_sem, m0, m1, m2, m3, m4, m5, CcD.v]) rfl ?_
    exact ⟨by rw [HA.out], by rw [HW.out]; exact HB.out⟩

/-- While words are read, here. -/
structure CiRd (w : World) (H : Nat) (c : CcD) (v : Value) (l : List ByteArray) (wr : World) : Prop where
  res : CcAt wr H cc0
  cur : CcAt wr (H + 1) c
  row : wr.ownsRow (H + 1 + 1) 9 1 v l.length (l.map Value.string)
  low : Below H w wr
theorem CiRd.later {w : World} {H : Nat} {c : CcD} {v : Value} {l : List ByteArray} {wr w' : World} (h : CiRd w H c v l wr) (hb : Below wr.heap.size wr w') : CiRd w H c v l w' :=
  ⟨h.res.same (hb.block _ h.res.lt), h.cur.same (hb.block _ h.cur.lt), owns_below h.row hb (fun _ hg => owns_lt h.row hg), h.low.trans (hb.mono (Nat.le_of_lt h.res.lt))⟩
theorem CiRd.putCc {w : World} {H : Nat} {c : CcD} {v : Value} {l : List ByteArray} {wr : World} (h : CiRd w H c v l wr) (d : CcD) : CiRd w H d v l (putCc wr (H + 1) d) :=
  ⟨h.res.same (putCc_other (by omega)), h.cur.putAll d, owns_same h.row (fun j hj => putCc_other (by have := (own_ltR h.row hj).1; omega)), below_putCc h.low (by omega) d⟩

set_option maxHeartbeats 4000000 in
set_option maxRecDepth 100000 in
theorem implCcRead_any (s : ByteArray) (w : World) (hs : s.size ≤ 1048576) :
    Calls Tryz.prog 116 #[.string s] w fun e w' => e = .returned (ccR s).v ∧ Below w.heap.size w w' := by
  obtain ⟨H, hH⟩ : ∃ H, H = w.heap.size := ⟨_, rfl⟩
  have HW : Hid (w.heap.size = H) := hH.symm
  obtain ⟨W0, hW0⟩ : ∃ W, W = (w.alloc (.cells cc0.cs 101)).alloc (.cells cc0.cs 101) := ⟨_, rfl⟩
  have HA : Hid (CcAt W0 H cc0 ∧ CcAt W0 (H + 1) cc0 ∧ Below H w W0 ∧ W0.heap.size = H + 1 + 1) := by
    have e1 := heap_alloc_new w (.cells cc0.cs 101)
    have e2 := heap_alloc_new (w.alloc (.cells cc0.cs 101)) (.cells cc0.cs 101)
    rw [World.size_alloc] at e2
    refine ⟨?_, ?_, ?_, ?_⟩
    · unfold CcAt; rw [hW0, hH, heap_alloc_old _ _ (by simp)]; exact e1
    · unfold CcAt; rw [hW0, hH]; exact e2
    · rw [hW0, hH]; exact ((Below.refl _ w).alloc (Nat.le_refl _) _).alloc (by simp) _
    · rw [hW0, hH]; simp
  have HW0 : Hid ((w.alloc (.cells #[.bool false, .bool false, .bool false, .bool false, .bool false, .int .i64 0] 101)).alloc (.cells #[.bool false, .bool false, .bool false, .bool false, .bool false, .int .i64 0] 101) = W0) := hW0.symm
  clear hW0
  go_enter Tryz.func116, Tryz.ntmps116
  go_wp2_with fail
  rw [HW0.out, ← hH]
  clear hH
  refine (implSplit_any s _ hs).mono ?_
  rintro e w0 ⟨v, rfl, hown, bb⟩
  rw [HA.out.2.2.2] at hown bb
  obtain ⟨l, hl⟩ : ∃ l, l = splitL s := ⟨_, rfl⟩
  rw [← hl] at hown
  have HLS : Hid (splitL s = l) := hl.symm
  have HLB : Hid (∀ x ∈ l, x.size ≤ 1048576) := fun x hx => by rw [hl] at hx; have := (splitL_le s).2 x hx; omega
  have hll : l.length ≤ 1048577 := by rw [hl]; have := (splitL_le s).1; omega
  have HS1 : Hid (CiRd w H (ccTo (l.take 0)) v l w0) := ⟨HA.out.1.same (bb.block _ (by omega)), HA.out.2.1.same (bb.block _ (by omega)), hown, HA.out.2.2.1.trans (bb.mono (by omega))⟩
  obtain ⟨oa, cp, rfl⟩ := slice_of_owns hown
  obtain ⟨n, hn⟩ : ∃ n, n = l.length := ⟨_, rfl⟩
  have HN : Hid (l.length = n) := hn.symm
  rw [← hn] at hll HS1 ⊢
  clear hown bb hl hn
  go_wp2_with fail
  go_loopw [9] (fun i wr => ∃ k : Nat, k ≤ n ∧ i = .int .i64 (k : Int) ∧ Hid (CiRd w H (ccTo (l.take k)) (.slice oa n cp) l wr)) (fun i _ => n - (intOf i).toNat)
  case atStart => exact ⟨0, Nat.zero_le _, rfl, HS1⟩
  case round =>
    obtain ⟨k, hk, rfl, HS⟩ := hrel
    by_cases hlt : (k : Int) < (n : Int)
    · have hkl : k < l.length := by have := HN.out; omega
      obtain ⟨g, rfl⟩ : ∃ g, oa = some ⟨g, 0, none⟩ := by
        rcases HS.out.row.2 with ⟨e, _⟩ | ⟨g, _, _, e, _⟩
        · injection e with _ e2 _; omega
        · injection e with e1 _ _; exact ⟨g, e1⟩
      obtain ⟨x, hx⟩ : ∃ x, x = l[k]'hkl := ⟨_, rfl⟩
      have hc0 : wr.cell? ⟨g, k, none⟩ = some (.string x) := by
        have hr := HS.out.row
        rw [HN.out] at hr
        exact (owns_cellC hr k (.string x) (by rw [List.getElem?_map, List.getElem?_eq_getElem hkl, hx]; rfl)).1
      have hxs : x.size ≤ 1048576 := by rw [hx]; exact HLB.out _ (List.getElem_mem hkl)
      obtain ⟨y, hy⟩ : ∃ y, y = lowerOf x := ⟨_, rfl⟩
      have hys : y.size ≤ 4000000 := by rw [hy, ccLow_size]; omega
      have HY : Hid (lowerOf x = y) := hy.symm
      obtain ⟨d, hd⟩ : ∃ d, d = ccTo (l.take (k + 1)) := ⟨_, rfl⟩
      obtain ⟨c, hc⟩ : ∃ c, c = ccTo (l.take k) := ⟨_, rfl⟩
      obtain ⟨u, hu⟩ : ∃ u, u = saidB y := ⟨_, rfl⟩
      have HSB : Hid (saidB y = u) := hu.symm
      have HTD : Hid (toge c u = d) := by
        show _ = _
        rw [hd, List.take_succ_eq_append_getElem hkl, ccTo_snoc, ← hx, ← hy, step_toge (ccTo_fit _), hc, hu]
      have HTG : Hid (∀ W, Calls Tryz.prog 146 #[.agg #[.bool c.ns, .bool c.nc, .bool c.pr, .bool c.mu, .bool c.ha, .int .i64 c.age], .agg #[.bool u.ns, .bool u.nc, .bool u.pr, .bool u.mu, .bool u.ha, .int .i64 u.age]] W fun e w' => e = .returned (toge c u).v ∧ Below W.heap.size W w') := fun W => together_any c u W
      have HD : Hid (∀ W, CiRd w H d (.slice (some ⟨g, 0, none⟩) n cp) l W → CiRd w H (ccTo (l.take (k + 1))) (.slice (some ⟨g, 0, none⟩) n cp) l W) := fun W h => by rw [← hd]; exact h
      rw [← hc] at HS
      clear hx hy hkl hc hd hu
      have HT1 : Hid (CiRd w H c (.slice (some ⟨g, 0, none⟩) n cp) l wr.drew) := HS.out.later (Below.refl _ _).drew
      go_upto_region 5 with fail
      clear hc0 HS
      refine wp_region_held_drew (S := fun _ => True) (by kernel_rfl) trivial (fun _ => ?_)
      refine wpAnyH_takeD (i := 1) (v := .string x) (some 14) rfl rfl (by kernel_rfl) (by kernel_rfl) (by kernel_rfl) (fun _ _ _ h => h) (Or.inl ⟨by rfl, by intro W _; go_simp⟩) trivial ?_
      simp only [Act.put, List.setIfInBounds_toArray, List.set_cons_zero, List.set_cons_succ]
      refine wpAnyH_ready (rs := [0, 2]) (by kernel_rfl) (by simp) ?_
      refine AllReadyH.cons rfl (fun K hK => ?_) (AllReadyH.cons rfl (fun K hK => ?_) AllReadyH.nil)
      · obtain ⟨q0, q1, q2, q3, q4, q5⟩ := HT1.out.cur.cells
        go_simp
        refine hK.out _ _ trivial (fun _ => ?_)
        clear hK K q0 q1 q2 q3 q4 q5
        refine wpAnyH_ready (rs := [2]) (by kernel_rfl) (by simp) ?_
        refine AllReadyH.cons rfl (fun K hK => ?_) AllReadyH.nil
        go_simp
        refine (implLower_any x _).mono ?_
        rintro e w2 ⟨rfl, hb2⟩
        rw [HY.out]
        have HT2 : Hid (CiRd w H c (.slice (some ⟨g, 0, none⟩) n cp) l w2) := HT1.out.later hb2
        clear hb2
        refine hK.out _ _ trivial (fun _ => ?_)
        clear hK K HT1
        refine wpAnyH_ready (rs := [3]) (by kernel_rfl) (by simp) ?_
        refine AllReadyH.cons rfl (fun K hK => ?_) AllReadyH.nil
        go_simp
        refine (saidBy_any y _ hys).mono ?_
        rintro e w3 ⟨rfl, hb3⟩
        rw [HSB.out]
        unfold CcD.v
        have HT3 : Hid (CiRd w H c (.slice (some ⟨g, 0, none⟩) n cp) l w3) := HT2.out.later hb3
        clear hb3
        refine hK.out _ _ trivial (fun _ => ?_)
        clear hK K HT2
        refine wpAnyH_ready (rs := [4]) (by kernel_rfl) (by simp) ?_
        refine AllReadyH.cons rfl (fun K hK => ?_) AllReadyH.nil
        go_simp
        refine (HTG.out _).mono ?_
        rintro e w4 ⟨rfl, hb4⟩
        rw [HTD.out]
        unfold CcD.v
        have HT4 : Hid (CiRd w H c (.slice (some ⟨g, 0, none⟩) n cp) l w4) := HT3.out.later hb4
        clear hb4
        refine hK.out _ _ trivial (fun _ => ?_)
        clear hK K HT3
        refine wpAnyH_ready (rs := [5]) (by kernel_rfl) (by simp) ?_
        refine AllReadyH.cons rfl (fun K hK => ?_) AllReadyH.nil
        have HZ : Hid (CiRd w H d (.slice (some ⟨g, 0, none⟩) n cp) l (putCc w4 (H + 1) d)) := HT4.out.putCc d
        obtain ⟨q0, q1, q2, q3, q4, q5⟩ := HT4.out.cur.cells
        have f0 := HT4.out.cur.frozen 0
        have f1 := HT4.out.cur.frozen 1
        have f2 := HT4.out.cur.frozen 2
        have f3 := HT4.out.cur.frozen 3
        have f4 := HT4.out.cur.frozen 4
        have f5 := HT4.out.cur.frozen 5
        unfold putCc at HZ
        clear HT4
        go_simp
        refine hK.out _ _ trivial (fun _ => ?_)
        clear hK K q0 q1 q2 q3 q4 q5 f0 f1 f2 f3 f4 f5
        refine wpAnyH_done (by kernel_rfl) ?_ _
        go_wp2_with fail
        go_roundw
        case rel => exact ⟨k + 1, by omega, by go_num, HD.out _ HZ.out⟩
        case measure => simp [intOf]; omega
      · go_simp
        refine (implLower_any x _).mono ?_
        rintro e w2 ⟨rfl, hb2⟩
        rw [HY.out]
        have HT2 : Hid (CiRd w H c (.slice (some ⟨g, 0, none⟩) n cp) l w2) := HT1.out.later hb2
        clear hb2
        refine hK.out _ _ trivial (fun _ => ?_)
        clear hK K HT1
        refine wpAnyH_ready (rs := [0, 3]) (by kernel_rfl) (by simp) ?_
        refine AllReadyH.cons rfl (fun K hK => ?_) (AllReadyH.cons rfl (fun K hK => ?_) AllReadyH.nil)
        · obtain ⟨q0, q1, q2, q3, q4, q5⟩ := HT2.out.cur.cells
          go_simp
          refine hK.out _ _ trivial (fun _ => ?_)
          clear hK K q0 q1 q2 q3 q4 q5
          refine wpAnyH_ready (rs := [3]) (by kernel_rfl) (by simp) ?_
          refine AllReadyH.cons rfl (fun K hK => ?_) AllReadyH.nil
          go_simp
          refine (saidBy_any y _ hys).mono ?_
          rintro e w3 ⟨rfl, hb3⟩
          rw [HSB.out]
          unfold CcD.v
          have HT3 : Hid (CiRd w H c (.slice (some ⟨g, 0, none⟩) n cp) l w3) := HT2.out.later hb3
          clear hb3
          refine hK.out _ _ trivial (fun _ => ?_)
          clear hK K HT2
          refine wpAnyH_ready (rs := [4]) (by kernel_rfl) (by simp) ?_
          refine AllReadyH.cons rfl (fun K hK => ?_) AllReadyH.nil
          go_simp
          refine (HTG.out _).mono ?_
          rintro e w4 ⟨rfl, hb4⟩
          rw [HTD.out]
          unfold CcD.v
          have HT4 : Hid (CiRd w H c (.slice (some ⟨g, 0, none⟩) n cp) l w4) := HT3.out.later hb4
          clear hb4
          refine hK.out _ _ trivial (fun _ => ?_)
          clear hK K HT3
          refine wpAnyH_ready (rs := [5]) (by kernel_rfl) (by simp) ?_
          refine AllReadyH.cons rfl (fun K hK => ?_) AllReadyH.nil
          have HZ : Hid (CiRd w H d (.slice (some ⟨g, 0, none⟩) n cp) l (putCc w4 (H + 1) d)) := HT4.out.putCc d
          obtain ⟨q0, q1, q2, q3, q4, q5⟩ := HT4.out.cur.cells
          have f0 := HT4.out.cur.frozen 0
          have f1 := HT4.out.cur.frozen 1
          have f2 := HT4.out.cur.frozen 2
          have f3 := HT4.out.cur.frozen 3
          have f4 := HT4.out.cur.frozen 4
          have f5 := HT4.out.cur.frozen 5
          unfold putCc at HZ
          clear HT4
          go_simp
          refine hK.out _ _ trivial (fun _ => ?_)
          clear hK K q0 q1 q2 q3 q4 q5 f0 f1 f2 f3 f4 f5
          refine wpAnyH_done (by kernel_rfl) ?_ _
          go_wp2_with fail
          go_roundw
          case rel => exact ⟨k + 1, by omega, by go_num, HD.out _ HZ.out⟩
          case measure => simp [intOf]; omega
        · go_simp
          refine (saidBy_any y _ hys).mono ?_
          rintro e w3 ⟨rfl, hb3⟩
          rw [HSB.out]
          unfold CcD.v
          have HT3 : Hid (CiRd w H c (.slice (some ⟨g, 0, none⟩) n cp) l w3) := HT2.out.later hb3
          clear hb3
          refine hK.out _ _ trivial (fun _ => ?_)
          clear hK K HT2
          refine wpAnyH_ready (rs := [0]) (by kernel_rfl) (by simp) ?_
          refine AllReadyH.cons rfl (fun K hK => ?_) AllReadyH.nil
          obtain ⟨q0, q1, q2, q3, q4, q5⟩ := HT3.out.cur.cells
          go_simp
          refine hK.out _ _ trivial (fun _ => ?_)
          clear hK K q0 q1 q2 q3 q4 q5
          refine wpAnyH_ready (rs := [4]) (by kernel_rfl) (by simp) ?_
          refine AllReadyH.cons rfl (fun K hK => ?_) AllReadyH.nil
          go_simp
          refine (HTG.out _).mono ?_
          rintro e w4 ⟨rfl, hb4⟩
          rw [HTD.out]
          unfold CcD.v
          have HT4 : Hid (CiRd w H c (.slice (some ⟨g, 0, none⟩) n cp) l w4) := HT3.out.later hb4
          clear hb4
          refine hK.out _ _ trivial (fun _ => ?_)
          clear hK K HT3
          refine wpAnyH_ready (rs := [5]) (by kernel_rfl) (by simp) ?_
          refine AllReadyH.cons rfl (fun K hK => ?_) AllReadyH.nil
          have HZ : Hid (CiRd w H d (.slice (some ⟨g, 0, none⟩) n cp) l (putCc w4 (H + 1) d)) := HT4.out.putCc d
          obtain ⟨q0, q1, q2, q3, q4, q5⟩ := HT4.out.cur.cells
          have f0 := HT4.out.cur.frozen 0
          have f1 := HT4.out.cur.frozen 1
          have f2 := HT4.out.cur.frozen 2
          have f3 := HT4.out.cur.frozen 3
          have f4 := HT4.out.cur.frozen 4
          have f5 := HT4.out.cur.frozen 5
          unfold putCc at HZ
          clear HT4
          go_simp
          refine hK.out _ _ trivial (fun _ => ?_)
          clear hK K q0 q1 q2 q3 q4 q5 f0 f1 f2 f3 f4 f5
          refine wpAnyH_done (by kernel_rfl) ?_ _
          go_wp2_with fail
          go_roundw
          case rel => exact ⟨k + 1, by omega, by go_num, HD.out _ HZ.out⟩
          case measure => simp [intOf]; omega
    · obtain rfl : k = n := by omega
      have HE : Hid (ccTo (l.take k) = ccR s) := by
        show _ = _
        rw [List.take_of_length_le (by rw [HN.out]; exact Nat.le_refl _)]
        unfold ccR
        rw [HLS.out]
      rw [HE.out] at HS
      obtain ⟨c, hc⟩ : ∃ c, c = ccR s := ⟨_, rfl⟩
      rw [← hc] at HS
      have HC : Hid (c = ccR s) := hc
      obtain ⟨q0, q1, q2, q3, q4, q5⟩ := HS.out.cur.cells
      obtain ⟨r0, r1, r2, r3, r4, r5⟩ := HS.out.res.cells
      have f0 := HS.out.res.frozen 0
      have f1 := HS.out.res.frozen 1
      have f2 := HS.out.res.frozen 2
      have f3 := HS.out.res.frozen 3
      have f4 := HS.out.res.frozen 4
      have f5 := HS.out.res.frozen 5
      obtain ⟨m0, m1, m2, m3, m4, m5⟩ := (HS.out.res.putAll c).cells
      have HB : Hid (Below H w (putCc wr H c)) := below_putCc HS.out.low (Nat.le_refl _) c
      clear hc HE
      unfold putCc at m0 m1 m2 m3 m4 m5 HB
      go_wp2_with fail
      refine bodyPost_ret (v := c.v) (by simp [results, Tryz.results116, go_sem, m0, m1, m2, m3, m4, m5, CcD.v]) rfl ?_
      exact ⟨by rw [HC.out], by rw [HW.out]; exact HB.out⟩

set_option maxHeartbeats 1000000 in
theorem implCcOf_any (v : Value) (n base : Nat) (fs : List (ByteArray × ByteArray)) (w : World) (hv : FieldsV w base v n fs) (hn : n ≤ 1073741824) (hcp : CopyF fs) (hsz : (getV fs ccName).size ≤ 1048576) :
    Calls Tryz.prog 62 #[v] w fun e w' => e = .returned (ccR (getV fs ccName)).v ∧ Below w.heap.size w w' := by
  have hv1 : FieldsV (w.alloc (.cells cc0.cs 101)) base v n fs := hv.below ((Below.refl _ _).alloc (Nat.le_refl _) _)
  have HR0 : Hid (CcAt (w.alloc (.cells cc0.cs 101)) w.heap.size cc0) := heap_alloc_new w _
  have HB0 : Hid (Below w.heap.size w (w.alloc (.cells cc0.cs 101))) := (Below.refl _ _).alloc (Nat.le_refl _) _
  obtain ⟨t, ht⟩ : ∃ t, t = getV fs ccName := ⟨_, rfl⟩
  have HT : Hid (getV fs ccName = t) := ht.symm
  rw [← ht] at hsz
  obtain ⟨c, hc⟩ : ∃ c, c = ccR t := ⟨_, rfl⟩
  have HC : Hid (ccR t = c) := hc.symm
  rw [← ht, ← hc]
  clear ht hc hv
  go_enter Tryz.func62, Tryz.ntmps62
  go_wp2_with fail
  refine (implGet_any v n base fs ccName _ hv1 hn hcp).mono ?_
  rintro e w1 ⟨rfl, b1⟩
  rw [HT.out]
  have HR1 : Hid (CcAt w1 w.heap.size cc0) := HR0.out.same (b1.block _ HR0.out.lt)
  have HB1 : Hid (Below w.heap.size w w1) := HB0.out.trans (b1.mono (Nat.le_of_lt HR0.out.lt))
  clear hv1 b1 HR0 HB0
  go_wp2_with fail
  refine (implCcRead_any t _ hsz).mono ?_
  rintro e w2 ⟨rfl, b2⟩
  rw [HC.out]
  have hR := HR1.out.same (b2.block _ HR1.out.lt)
  obtain ⟨r0, r1, r2, r3, r4, r5⟩ := hR.cells
  have f0 := hR.frozen 0
  have f1 := hR.frozen 1
  have f2 := hR.frozen 2
  have f3 := hR.frozen 3
  have f4 := hR.frozen 4
  have f5 := hR.frozen 5
  obtain ⟨m0, m1, m2, m3, m4, m5⟩ := (hR.putAll c).cells
  have HB : Hid (Below w.heap.size w (putCc w2 w.heap.size c)) := below_putCc (HB1.out.trans (b2.mono (Nat.le_of_lt HR1.out.lt))) (Nat.le_refl _) c
  unfold putCc at m0 m1 m2 m3 m4 m5 HB
  clear hR b2 HR1 HB1
  unfold CcD.v
  go_wp2_with fail
  refine bodyPost_ret (v := c.v) (by simp [results, Tryz.results62, go_sem, m0, m1, m2, m3, m4, m5, CcD.v]) rfl ?_
  exact ⟨rfl, HB.out⟩

end Go.Proofs.YtdlhicdfldecgaaGreatDoor

namespace Go.Proofs.YtdlhicdfldecgaaGreatDoor
open Go.RowKit
open Go.Lib hiding intOf

set_option maxHeartbeats 1000000 in
theorem isRightGet_any (m : Int) (p : ByteArray) (v : Value) (b : ByteArray) (n base : Nat) (fs : List (ByteArray × ByteArray)) (w : World) (hv : FieldsV w base v n fs) (hn : n ≤ 1073741824) (hsz : WalkF n fs) (hp : p.size ≤ maxLen) (hb : b.size ≤ maxLen) :
    Calls Tryz.prog 63 #[.agg #[.int .i64 m, .string p, v, .string b]] w fun e w' => BoolIs (ReqP m p fs b ∧ m = 1) w e w' := by
  obtain ⟨oa, cap, rfl, _⟩ := hv.slice
  obtain ⟨r, hr⟩ : ∃ r, r = w.heap.size := ⟨_, rfl⟩
  obtain ⟨W1, hW1⟩ : ∃ W, W = w.alloc (.cells #[.int .i64 m, .string p, .slice oa n cap, .string b] 39) := ⟨_, rfl⟩
  have HW1 : Hid (w.alloc (.cells #[.int .i64 m, .string p, .slice oa n cap, .string b] 39) = W1) := hW1.symm
  have H1 : Hid (W1.heap[r]? = some (.cells #[.int .i64 m, .string p, .slice oa n cap, .string b] 39)) := by show _ = _; rw [hW1, hr]; exact heap_alloc_new w _
  have HB1 : Hid (Below w.heap.size w W1) := by show Below _ _ _; rw [hW1]; exact (Below.refl _ _).alloc (Nat.le_refl _) _
  have hv1 := hv.below HB1.out
  obtain ⟨⟨c0, c1, c2, c3⟩, _⟩ := four_facts H1.out
  clear hW1 hv
  go_enter Tryz.func63, Tryz.ntmps63
  go_upto_region 1 with fail
  rw [HW1.out, ← hr]
  clear hr HW1
  go_wp2_with fail
  refine (implReqOk_any m p _ b n base fs _ hv1 hn hsz hp hb).mono ?_
  rintro e w2 ⟨t, rfl, ht, b2⟩
  have HB2 : Hid (Below w.heap.size w w2) := HB1.out.trans (b2.mono HB1.out.size)
  have H2 : Hid (w2.heap[r]? = some (.cells #[.int .i64 m, .string p, .slice oa n cap, .string b] 39)) := by show _ = _; rw [b2.block r (Array.getElem?_eq_some_iff.1 H1.out).1]; exact H1.out
  clear c0 c1 c2 c3 hv1 H1 HB1 b2
  cases t with
  | false =>
    have HF : Hid (¬ (ReqP m p fs b ∧ m = 1)) := fun h => nomatch ht.2 h.1
    clear ht
    go_wp2_with fail
    go_ret
    exact BoolIs.no HF.out HB2.out
  | true =>
    have HQ : Hid (ReqP m p fs b) := ht.1 rfl
    obtain ⟨⟨c0, _⟩, _⟩ := four_facts H2.out
    have HT : Hid ((m == 1) = true ↔ (ReqP m p fs b ∧ m = 1)) := by show _ ↔ _; simp [HQ.out]
    clear ht HQ H2
    go_wp2_with fail
    go_ret
    exact ⟨_, rfl, HT.out, HB2.out⟩

set_option maxHeartbeats 1000000 in
theorem isRightAnswer_any (st : Int) (v : Value) (b : ByteArray) (n base : Nat) (fs : List (ByteArray × ByteArray)) (w : World) (hv : FieldsV w base v n fs) (hn : n ≤ 1073741824) (hsz : WalkF n fs) (hb : b.size ≤ maxLen) :
    Calls Tryz.prog 64 #[.agg #[.int .i64 st, v, .string b]] w fun e w' => BoolIs (RespP st fs b ∧ st = 200) w e w' := by
  obtain ⟨oa, cap, rfl, _⟩ := hv.slice
  obtain ⟨r, hr⟩ : ∃ r, r = w.heap.size := ⟨_, rfl⟩
  obtain ⟨W1, hW1⟩ : ∃ W, W = w.alloc (.cells #[.int .i64 st, .slice oa n cap, .string b] 27) := ⟨_, rfl⟩
  have HW1 : Hid (w.alloc (.cells #[.int .i64 st, .slice oa n cap, .string b] 27) = W1) := hW1.symm
  have H1 : Hid (W1.heap[r]? = some (.cells #[.int .i64 st, .slice oa n cap, .string b] 27)) := by show _ = _; rw [hW1, hr]; exact heap_alloc_new w _
  have HB1 : Hid (Below w.heap.size w W1) := by show Below _ _ _; rw [hW1]; exact (Below.refl _ _).alloc (Nat.le_refl _) _
  have hv1 := hv.below HB1.out
  obtain ⟨⟨c0, c1, c2⟩, _⟩ := three_facts H1.out
  clear hW1 hv
  go_enter Tryz.func64, Tryz.ntmps64
  go_upto_region 1 with fail
  rw [HW1.out, ← hr]
  clear hr HW1
  go_wp2_with fail
  refine (implRespOk_any st _ b n base fs _ hv1 hn hsz hb).mono ?_
  rintro e w2 ⟨t, rfl, ht, b2⟩
  have HB2 : Hid (Below w.heap.size w w2) := HB1.out.trans (b2.mono HB1.out.size)
  have H2 : Hid (w2.heap[r]? = some (.cells #[.int .i64 st, .slice oa n cap, .string b] 27)) := by show _ = _; rw [b2.block r (Array.getElem?_eq_some_iff.1 H1.out).1]; exact H1.out
  clear c0 c1 c2 hv1 H1 HB1 b2
  cases t with
  | false =>
    have HF : Hid (¬ (RespP st fs b ∧ st = 200)) := fun h => nomatch ht.2 h.1
    clear ht
    go_wp2_with fail
    go_ret
    exact BoolIs.no HF.out HB2.out
  | true =>
    have HQ : Hid (RespP st fs b) := ht.1 rfl
    obtain ⟨⟨c0, _⟩, _⟩ := three_facts H2.out
    have HT : Hid ((st == 200) = true ↔ (RespP st fs b ∧ st = 200)) := by show _ ↔ _; simp [HQ.out]
    clear ht HQ H2
    go_wp2_with fail
    go_ret
    exact ⟨_, rfl, HT.out, HB2.out⟩

set_option maxHeartbeats 1000000 in
theorem nobodySaysNo_any (a b : CcD) (w : World) :
    Calls Tryz.prog 65 #[a.v, b.v] w fun e w' => e = .returned (.bool (!a.ns && (!b.ns && !b.pr))) ∧ Below w.heap.size w w' := by
  obtain ⟨a0, a1, a2, a3, a4, ax⟩ := a
  obtain ⟨b0, b1, b2, b3, b4, bx⟩ := b
  have HB : Hid (∀ o1 o2, Below w.heap.size w ((w.alloc o1).alloc o2)) := fun o1 o2 => ((Below.refl _ w).alloc (Nat.le_refl _) _).alloc (by simp) _
  show Calls _ _ #[.agg #[.bool a0, .bool a1, .bool a2, .bool a3, .bool a4, .int .i64 ax], .agg #[.bool b0, .bool b1, .bool b2, .bool b3, .bool b4, .int .i64 bx]] _ _
  cases a0 <;> cases b0 <;> cases b2 <;>
  · go_enter Tryz.func65, Tryz.ntmps65
    go_wp2
    go_ret
    exact ⟨rfl, HB.out _ _⟩

set_option maxHeartbeats 8000000 in
set_option maxRecDepth 100000 in
theorem implMayKeep_any (m : Int) (p : ByteArray) (v : Value) (b : ByteArray) (n base : Nat) (fs : List (ByteArray × ByteArray)) (st : Int) (u : Value) (c : ByteArray) (k base2 : Nat) (gs : List (ByteArray × ByteArray)) (w : World) (hv : FieldsV w base v n fs) (hn : n ≤ 1073741824) (hsz : WalkF n fs) (hp : p.size ≤ maxLen) (hb : b.size ≤ maxLen) (hu : FieldsV w base2 u k gs) (hk : k ≤ 1073741824) (hsz2 : WalkF k gs) (hc : c.size ≤ maxLen) (hg1 : (getV fs ccName).size ≤ 1048576) (hg2 : (getV gs ccName).size ≤ 1048576) (hg3 : (getV gs varyName).size ≤ 1048576) (hcp : CopyF fs) (hcg : CopyF gs) :
    Calls Tryz.prog 19 #[.agg #[.int .i64 m, .string p, v, .string b], .agg #[.int .i64 st, u, .string c]] w fun e w' => BoolIs (MayP m p fs b st gs c) w e w' := by
  obtain ⟨oa, cap, rfl, _⟩ := hv.slice
  obtain ⟨ob, cb, rfl, _⟩ := hu.slice
  obtain ⟨r, hr⟩ : ∃ r, r = w.heap.size := ⟨_, rfl⟩
  obtain ⟨W1, hW1⟩ : ∃ W, W = (w.alloc (.cells #[.int .i64 m, .string p, .slice oa n cap, .string b] 39)).alloc (.cells #[.int .i64 st, .slice ob k cb, .string c] 27) := ⟨_, rfl⟩
  have HW1 : Hid ((w.alloc (.cells #[.int .i64 m, .string p, .slice oa n cap, .string b] 39)).alloc (.cells #[.int .i64 st, .slice ob k cb, .string c] 27) = W1) := hW1.symm
  have HKEEP1 : Hid (∀ W, Below W1.heap.size W1 W → (W.heap[r]? = some (.cells #[.int .i64 m, .string p, .slice oa n cap, .string b] 39) ∧ W.heap[r + 1]? = some (.cells #[.int .i64 st, .slice ob k cb, .string c] 27)) ∧ FieldsV W base (.slice oa n cap) n fs ∧ FieldsV W base2 (.slice ob k cb) k gs ∧ Below w.heap.size w W) := by
    intro W hW
    have b1 : Below r w W1 := by rw [hW1, hr]; exact ((Below.refl _ w).alloc (Nat.le_refl _) _).alloc (by simp) _
    have s1 : (w.alloc (.cells #[.int .i64 m, .string p, .slice oa n cap, .string b] 39)).heap.size = r + 1 := by rw [hr]; simp
    have s2 : W1.heap.size = r + 1 + 1 := by rw [hW1, hr]; simp
    have e0 := heap_alloc_new w (.cells #[.int .i64 m, .string p, .slice oa n cap, .string b] 39)
    have e1 := heap_alloc_new (w.alloc (.cells #[.int .i64 m, .string p, .slice oa n cap, .string b] 39)) (.cells #[.int .i64 st, .slice ob k cb, .string c] 27)
    rw [← hr] at e0
    rw [s1, ← hW1] at e1
    have c1 : Below (r + 1) (w.alloc (.cells #[.int .i64 m, .string p, .slice oa n cap, .string b] 39)) W1 := by rw [hW1, ← s1]; exact (Below.refl _ _).alloc (Nat.le_refl _) _
    rw [s2] at hW
    have b2 : Below r w W := b1.trans (hW.mono (by omega))
    rw [hr] at b2
    exact ⟨⟨by rw [hW.block r (by omega), c1.block r (by omega)]; exact e0, by rw [hW.block (r + 1) (by omega)]; exact e1⟩, hv.below b2, hu.below b2, b2⟩
  have HSZ : Hid (WalkF n fs) := hsz
  have HSB : Hid (WalkF k gs) := hsz2
  have HPM : Hid (p.size ≤ maxLen) := hp
  have HBM : Hid (b.size ≤ maxLen) := hb
  have HCM : Hid (c.size ≤ maxLen) := hc
  have HG1 : Hid ((getV fs ccName).size ≤ 1048576) := hg1
  have HG2 : Hid ((getV gs ccName).size ≤ 1048576) := hg2
  have HG3 : Hid ((getV gs varyName).size ≤ 1048576) := hg3
  have HCF : Hid (CopyF fs) := hcp
  have HCG : Hid (CopyF gs) := hcg
  obtain ⟨tq, htq⟩ : ∃ t, t = getV fs ccName := ⟨_, rfl⟩
  obtain ⟨cq, hcq⟩ : ∃ t, t = ccR tq := ⟨_, rfl⟩
  obtain ⟨tr, htr⟩ : ∃ t, t = getV gs ccName := ⟨_, rfl⟩
  obtain ⟨cr, hcr⟩ : ∃ t, t = ccR tr := ⟨_, rfl⟩
  have HQ0 : Hid (MayP m p fs b st gs c ↔ (ReqP m p fs b ∧ RespP st gs c ∧ m = 1 ∧ st = 200) ∧ cq.ns = false ∧ cr.ns = false ∧ cr.pr = false ∧ cr.ha = true ∧ NamesP (varyP gs)) := by
    show _ ↔ _
    unfold MayP
    rw [← htq, ← htr, ← hcq, ← hcr]
  have HC1 : Hid (∀ W, FieldsV W base (.slice oa n cap) n fs → Calls Tryz.prog 62 #[.slice oa n cap] W fun e w' => e = .returned (.agg #[.bool cq.ns, .bool cq.nc, .bool cq.pr, .bool cq.mu, .bool cq.ha, .int .i64 cq.age]) ∧ Below W.heap.size W w') := fun W h => by
    have := implCcOf_any (.slice oa n cap) n base fs W h hn HCF.out HG1.out
    rw [← htq, ← hcq] at this
    exact this
  have HC2 : Hid (∀ W, FieldsV W base2 (.slice ob k cb) k gs → Calls Tryz.prog 62 #[.slice ob k cb] W fun e w' => e = .returned (.agg #[.bool cr.ns, .bool cr.nc, .bool cr.pr, .bool cr.mu, .bool cr.ha, .int .i64 cr.age]) ∧ Below W.heap.size W w') := fun W h => by
    have := implCcOf_any (.slice ob k cb) k base2 gs W h hk HCG.out HG2.out
    rw [← htr, ← hcr] at this
    exact this
  clear htq hcq htr hcr
  obtain ⟨q0, q1, q2, q3, q4, q5⟩ := cq
  obtain ⟨z0, z1, z2, z3, z4, z5⟩ := cr
  dsimp only at HQ0 HC1 HC2
  obtain ⟨vl, hvl⟩ : ∃ l, l = varyP gs := ⟨_, rfl⟩
  have HVL : Hid (varyP gs = vl) := hvl.symm
  have HVZ : Hid (vl.length ≤ 1048577 ∧ ∀ i, i < vl.length → (textAt vl i).size ≤ maxLen) := by
    show _ ∧ _
    rw [hvl]
    have hle := splitL_le (getV gs varyName)
    have hg := HG3.out
    unfold varyP
    refine ⟨by rw [List.length_map]; omega, fun i hi => ?_⟩
    rw [List.length_map] at hi
    unfold textAt
    rw [List.getD_eq_getElem?_getD, List.getElem?_map, List.getElem?_eq_getElem hi]
    have := hle.2 _ (List.getElem_mem hi)
    show (lowerOf _).size ≤ _
    rw [lower_size]
    unfold maxLen
    omega
  rw [hvl.symm] at HQ0
  obtain ⟨⟨_, h1⟩, _, hu1, _⟩ := HKEEP1.out W1 (Below.refl _ _)
  obtain ⟨⟨c0, c1, c2⟩, _⟩ := three_facts h1
  clear hW1 hv hu hsz hsz2 hp hb hc hg1 hg2 hg3 h1 hcp hcg hvl
  go_enter Tryz.func19, Tryz.ntmps19
  go_upto_region 1 with fail
  rw [HW1.out, ← hr]
  clear hr HW1
  go_wp2_with fail
  refine (HC2.out _ hu1).mono ?_
  rintro e w2 ⟨rfl, b2⟩
  obtain ⟨o, ho⟩ : ∃ o, o = w2.heap.size := ⟨_, rfl⟩
  obtain ⟨W2, hW2⟩ : ∃ W, W = w2.alloc (.cells #[.bool z0, .bool z1, .bool z2, .bool z3, .bool z4, .int .i64 z5] 101) := ⟨_, rfl⟩
  have HKEEP : Hid (∀ W, Below W2.heap.size W2 W → (W.heap[r]? = some (.cells #[.int .i64 m, .string p, .slice oa n cap, .string b] 39) ∧ W.heap[r + 1]? = some (.cells #[.int .i64 st, .slice ob k cb, .string c] 27) ∧ CcAt W o ⟨z0, z1, z2, z3, z4, z5⟩) ∧ FieldsV W base (.slice oa n cap) n fs ∧ FieldsV W base2 (.slice ob k cb) k gs ∧ Below w.heap.size w W) := by
    intro W hW
    have b3 : Below w2.heap.size w2 W2 := by rw [hW2]; exact (Below.refl _ _).alloc (Nat.le_refl _) _
    have b4 : Below W1.heap.size W1 W := (b2.trans (b3.mono b2.size)).trans (hW.mono (Nat.le_trans b2.size b3.size))
    obtain ⟨⟨k0, k1⟩, k2⟩ := HKEEP1.out W b4
    refine ⟨⟨k0, k1, ?_⟩, k2⟩
    have h3 : W2.heap[o]? = some (.cells #[.bool z0, .bool z1, .bool z2, .bool z3, .bool z4, .int .i64 z5] 101) := by rw [hW2, ho]; exact heap_alloc_new w2 _
    show W.heap[o]? = _
    rw [hW.block o (Array.getElem?_eq_some_iff.1 h3).1]
    exact h3
  have HSS : Hid (∀ W, Below W2.heap.size W2 W → W.heap[r]? = some (.cells #[.int .i64 m, .string p, .slice oa n cap, .string b] 39) ∧ W.heap[r + 1]? = some (.cells #[.int .i64 st, .slice ob k cb, .string c] 27) ∧ CcAt W o ⟨z0, z1, z2, z3, z4, z5⟩) := fun W h => (HKEEP.out W h).1
  go_upto_region 2 with fail
  rw [← hW2, ← ho]
  clear hW2 ho b2 c0 c1 c2 hu1 HKEEP1 HC2
  refine wp_region_held_drew (S := fun W => W.heap[r]? = some (.cells #[.int .i64 m, .string p, .slice oa n cap, .string b] 39) ∧ W.heap[r + 1]? = some (.cells #[.int .i64 st, .slice ob k cb, .string c] 27) ∧ CcAt W o ⟨z0, z1, z2, z3, z4, z5⟩) (by kernel_rfl) (HSS.out _ (Below.refl _ _).drew) (fun hS0 => ?_)
  have HX : Hid (Below W2.heap.size W2 W2.drew) := (Below.refl _ _).drew
  obtain ⟨X0, hX0⟩ : ∃ X, X = W2.drew := ⟨_, rfl⟩
  rw [← hX0] at HX ⊢
  clear hX0 hS0
  refine wpAnyH_takeD (i := 0) (v := .agg #[.int .i64 m, .string p, .slice oa n cap, .string b]) (some 9) rfl rfl (by kernel_rfl) (by kernel_rfl) (by kernel_rfl) (fun _ _ _ h => h) (Or.inl ⟨by rfl, by intro W hW; obtain ⟨h1, h2, h3⟩ := hW; obtain ⟨⟨s0, s1, s2, s3⟩, _⟩ := four_facts h1; obtain ⟨⟨t0, t1, t2⟩, _⟩ := three_facts h2; obtain ⟨y0, y1, y2, y3, y4, y5⟩ := h3.cells; dsimp only at y0 y1 y2 y3 y4 y5; go_simp⟩) (HSS.out _ HX.out) ?_
  simp only [Act.put, List.setIfInBounds_toArray, List.set_cons_zero, List.set_cons_succ]
  refine wpAnyH_ready (rs := [1]) (by kernel_rfl) (by simp) ?_
  refine AllReadyH.cons rfl (fun K hK => ?_) AllReadyH.nil
  go_simp
  refine (isRightGet_any m p _ b n base fs _ (HKEEP.out _ HX.out).2.1 hn HSZ.out HPM.out HBM.out).mono ?_
  rintro e X1 ⟨t1, rfl, ht1, bx⟩
  have HXN : Hid (Below W2.heap.size W2 X1) := HX.out.trans (bx.mono HX.out.size)
  refine hK.out _ _ (HSS.out _ HXN.out) (fun _ => ?_)
  clear hK K HX bx
  have HX := HXN
  clear HXN
  cases t1 with
  | false =>
    have HF : Hid (¬ MayP m p fs b st gs c) := fun h => nomatch ht1.2 ⟨h.1.1, h.1.2.2.1⟩
    clear ht1
    refine wpAnyH_takeD (i := 2) (v := .bool false) (some 11) rfl rfl (by kernel_rfl) (by kernel_rfl) (by kernel_rfl) (fun _ _ _ h => h) (Or.inl ⟨by rfl, by intro W _; go_simp⟩) (HSS.out _ HX.out) ?_
    simp only [Act.put, List.setIfInBounds_toArray, List.set_cons_zero, List.set_cons_succ]
    refine wpAnyH_takeD (i := 3) (v := undef) (some 12) rfl rfl (by kernel_rfl) (by kernel_rfl) (by kernel_rfl) (fun _ _ _ h => h) (Or.inr ⟨by rfl, rfl⟩) (HSS.out _ HX.out) ?_
    simp only [Act.put, List.setIfInBounds_toArray, List.set_cons_zero, List.set_cons_succ]
    refine wpAnyH_takeD (i := 4) (v := undef) (some 13) rfl rfl (by kernel_rfl) (by kernel_rfl) (by kernel_rfl) (fun _ _ _ h => h) (Or.inr ⟨by rfl, rfl⟩) (HSS.out _ HX.out) ?_
    simp only [Act.put, List.setIfInBounds_toArray, List.set_cons_zero, List.set_cons_succ]
    refine wpAnyH_takeD (i := 5) (v := .bool false) (some 14) rfl rfl (by kernel_rfl) (by kernel_rfl) (by kernel_rfl) (fun _ _ _ h => h) (Or.inl ⟨by rfl, by intro W _; go_simp⟩) (HSS.out _ HX.out) ?_
    simp only [Act.put, List.setIfInBounds_toArray, List.set_cons_zero, List.set_cons_succ]
    refine wpAnyH_takeD (i := 6) (v := .bool false) (some 15) rfl rfl (by kernel_rfl) (by kernel_rfl) (by kernel_rfl) (fun _ _ _ h => h) (Or.inl ⟨by rfl, by intro W _; go_simp⟩) (HSS.out _ HX.out) ?_
    simp only [Act.put, List.setIfInBounds_toArray, List.set_cons_zero, List.set_cons_succ]
    refine wpAnyH_takeD (i := 7) (v := undef) (some 16) rfl rfl (by kernel_rfl) (by kernel_rfl) (by kernel_rfl) (fun _ _ _ h => h) (Or.inr ⟨by rfl, rfl⟩) (HSS.out _ HX.out) ?_
    simp only [Act.put, List.setIfInBounds_toArray, List.set_cons_zero, List.set_cons_succ]
    refine wpAnyH_takeD (i := 8) (v := undef) (some 17) rfl rfl (by kernel_rfl) (by kernel_rfl) (by kernel_rfl) (fun _ _ _ h => h) (Or.inr ⟨by rfl, rfl⟩) (HSS.out _ HX.out) ?_
    simp only [Act.put, List.setIfInBounds_toArray, List.set_cons_zero, List.set_cons_succ]
    refine wpAnyH_takeD (i := 9) (v := undef) (some 18) rfl rfl (by kernel_rfl) (by kernel_rfl) (by kernel_rfl) (fun _ _ _ h => h) (Or.inr ⟨by rfl, rfl⟩) (HSS.out _ HX.out) ?_
    simp only [Act.put, List.setIfInBounds_toArray, List.set_cons_zero, List.set_cons_succ]
    refine wpAnyH_takeD (i := 10) (v := undef) (some 19) rfl rfl (by kernel_rfl) (by kernel_rfl) (by kernel_rfl) (fun _ _ _ h => h) (Or.inr ⟨by rfl, rfl⟩) (HSS.out _ HX.out) ?_
    simp only [Act.put, List.setIfInBounds_toArray, List.set_cons_zero, List.set_cons_succ]
    refine wpAnyH_takeD (i := 11) (v := undef) (some 20) rfl rfl (by kernel_rfl) (by kernel_rfl) (by kernel_rfl) (fun _ _ _ h => h) (Or.inr ⟨by rfl, rfl⟩) (HSS.out _ HX.out) ?_
    simp only [Act.put, List.setIfInBounds_toArray, List.set_cons_zero, List.set_cons_succ]
    refine wpAnyH_takeD (i := 12) (v := .bool false) (some 21) rfl rfl (by kernel_rfl) (by kernel_rfl) (by kernel_rfl) (fun _ _ _ h => h) (Or.inl ⟨by rfl, by intro W _; go_simp⟩) (HSS.out _ HX.out) ?_
    simp only [Act.put, List.setIfInBounds_toArray, List.set_cons_zero, List.set_cons_succ]
    refine wpAnyH_takeD (i := 13) (v := .bool false) (some 22) rfl rfl (by kernel_rfl) (by kernel_rfl) (by kernel_rfl) (fun _ _ _ h => h) (Or.inl ⟨by rfl, by intro W _; go_simp⟩) (HSS.out _ HX.out) ?_
    simp only [Act.put, List.setIfInBounds_toArray, List.set_cons_zero, List.set_cons_succ]
    refine wpAnyH_takeD (i := 14) (v := undef) (some 23) rfl rfl (by kernel_rfl) (by kernel_rfl) (by kernel_rfl) (fun _ _ _ h => h) (Or.inr ⟨by rfl, rfl⟩) (HSS.out _ HX.out) ?_
    simp only [Act.put, List.setIfInBounds_toArray, List.set_cons_zero, List.set_cons_succ]
    refine wpAnyH_takeD (i := 15) (v := undef) (some 24) rfl rfl (by kernel_rfl) (by kernel_rfl) (by kernel_rfl) (fun _ _ _ h => h) (Or.inr ⟨by rfl, rfl⟩) (HSS.out _ HX.out) ?_
    simp only [Act.put, List.setIfInBounds_toArray, List.set_cons_zero, List.set_cons_succ]
    refine wpAnyH_takeD (i := 16) (v := .bool false) (some 25) rfl rfl (by kernel_rfl) (by kernel_rfl) (by kernel_rfl) (fun _ _ _ h => h) (Or.inl ⟨by rfl, by intro W _; go_simp⟩) (HSS.out _ HX.out) ?_
    simp only [Act.put, List.setIfInBounds_toArray, List.set_cons_zero, List.set_cons_succ]
    refine wpAnyH_takeD (i := 17) (v := .bool false) (some 26) rfl rfl (by kernel_rfl) (by kernel_rfl) (by kernel_rfl) (fun _ _ _ h => h) (Or.inl ⟨by rfl, by intro W _; go_simp⟩) (HSS.out _ HX.out) ?_
    simp only [Act.put, List.setIfInBounds_toArray, List.set_cons_zero, List.set_cons_succ]
    refine wpAnyH_takeD (i := 18) (v := undef) (some 27) rfl rfl (by kernel_rfl) (by kernel_rfl) (by kernel_rfl) (fun _ _ _ h => h) (Or.inr ⟨by rfl, rfl⟩) (HSS.out _ HX.out) ?_
    simp only [Act.put, List.setIfInBounds_toArray, List.set_cons_zero, List.set_cons_succ]
    refine wpAnyH_takeD (i := 19) (v := undef) (some 28) rfl rfl (by kernel_rfl) (by kernel_rfl) (by kernel_rfl) (fun _ _ _ h => h) (Or.inr ⟨by rfl, rfl⟩) (HSS.out _ HX.out) ?_
    simp only [Act.put, List.setIfInBounds_toArray, List.set_cons_zero, List.set_cons_succ]
    refine wpAnyH_takeD (i := 20) (v := undef) (some 29) rfl rfl (by kernel_rfl) (by kernel_rfl) (by kernel_rfl) (fun _ _ _ h => h) (Or.inr ⟨by rfl, rfl⟩) (HSS.out _ HX.out) ?_
    simp only [Act.put, List.setIfInBounds_toArray, List.set_cons_zero, List.set_cons_succ]
    refine wpAnyH_takeD (i := 21) (v := undef) (some 30) rfl rfl (by kernel_rfl) (by kernel_rfl) (by kernel_rfl) (fun _ _ _ h => h) (Or.inr ⟨by rfl, rfl⟩) (HSS.out _ HX.out) ?_
    simp only [Act.put, List.setIfInBounds_toArray, List.set_cons_zero, List.set_cons_succ]
    refine wpAnyH_takeD (i := 22) (v := .bool false) (some 31) rfl rfl (by kernel_rfl) (by kernel_rfl) (by kernel_rfl) (fun _ _ _ h => h) (Or.inl ⟨by rfl, by intro W _; go_simp⟩) (HSS.out _ HX.out) ?_
    simp only [Act.put, List.setIfInBounds_toArray, List.set_cons_zero, List.set_cons_succ]
    refine wpAnyH_takeD (i := 23) (v := .bool false) (some 4) rfl rfl (by kernel_rfl) (by kernel_rfl) (by kernel_rfl) (fun _ _ _ h => h) (Or.inl ⟨by rfl, by intro W _; go_simp⟩) (HSS.out _ HX.out) ?_
    simp only [Act.put, List.setIfInBounds_toArray, List.set_cons_zero, List.set_cons_succ]
    refine wpAnyH_done (by kernel_rfl) ?_ _
    have HB : Hid (Below w.heap.size w X1) := (HKEEP.out _ HX.out).2.2.2
    clear HX HSS HKEEP
    go_wp2_with fail
    go_ret
    exact BoolIs.no HF.out HB.out
  | true =>
    have HRQ : Hid (ReqP m p fs b ∧ m = 1) := ht1.1 rfl
    clear ht1
    refine wpAnyH_takeD (i := 2) (v := .bool true) (some 11) rfl rfl (by kernel_rfl) (by kernel_rfl) (by kernel_rfl) (fun _ _ _ h => h) (Or.inl ⟨by rfl, by intro W _; go_simp⟩) (HSS.out _ HX.out) ?_
    simp only [Act.put, List.setIfInBounds_toArray, List.set_cons_zero, List.set_cons_succ]
    refine wpAnyH_takeD (i := 3) (v := .agg #[.int .i64 st, .slice ob k cb, .string c]) (some 12) rfl rfl (by kernel_rfl) (by kernel_rfl) (by kernel_rfl) (fun _ _ _ h => h) (Or.inl ⟨by rfl, by intro W hW; obtain ⟨h1, h2, h3⟩ := hW; obtain ⟨⟨s0, s1, s2, s3⟩, _⟩ := four_facts h1; obtain ⟨⟨t0, t1, t2⟩, _⟩ := three_facts h2; obtain ⟨y0, y1, y2, y3, y4, y5⟩ := h3.cells; dsimp only at y0 y1 y2 y3 y4 y5; go_simp⟩) (HSS.out _ HX.out) ?_
    simp only [Act.put, List.setIfInBounds_toArray, List.set_cons_zero, List.set_cons_succ]
    refine wpAnyH_ready (rs := [4]) (by kernel_rfl) (by simp) ?_
    refine AllReadyH.cons rfl (fun K hK => ?_) AllReadyH.nil
    go_simp
    refine (isRightAnswer_any st _ c k base2 gs _ (HKEEP.out _ HX.out).2.2.1 hk HSB.out HCM.out).mono ?_
    rintro e X2 ⟨t2, rfl, ht2, bx⟩
    have HXN : Hid (Below W2.heap.size W2 X2) := HX.out.trans (bx.mono HX.out.size)
    refine hK.out _ _ (HSS.out _ HXN.out) (fun _ => ?_)
    clear hK K HX bx
    have HX := HXN
    clear HXN
    cases t2 with
    | false =>
      have HF : Hid (¬ MayP m p fs b st gs c) := fun h => nomatch ht2.2 ⟨h.1.2.1, h.1.2.2.2⟩
      clear ht2
      refine wpAnyH_takeD (i := 5) (v := .bool false) (some 14) rfl rfl (by kernel_rfl) (by kernel_rfl) (by kernel_rfl) (fun _ _ _ h => h) (Or.inl ⟨by rfl, by intro W _; go_simp⟩) (HSS.out _ HX.out) ?_
      simp only [Act.put, List.setIfInBounds_toArray, List.set_cons_zero, List.set_cons_succ]
      refine wpAnyH_takeD (i := 6) (v := .bool false) (some 15) rfl rfl (by kernel_rfl) (by kernel_rfl) (by kernel_rfl) (fun _ _ _ h => h) (Or.inl ⟨by rfl, by intro W _; go_simp⟩) (HSS.out _ HX.out) ?_
      simp only [Act.put, List.setIfInBounds_toArray, List.set_cons_zero, List.set_cons_succ]
      refine wpAnyH_takeD (i := 7) (v := undef) (some 16) rfl rfl (by kernel_rfl) (by kernel_rfl) (by kernel_rfl) (fun _ _ _ h => h) (Or.inr ⟨by rfl, rfl⟩) (HSS.out _ HX.out) ?_
      simp only [Act.put, List.setIfInBounds_toArray, List.set_cons_zero, List.set_cons_succ]
      refine wpAnyH_takeD (i := 8) (v := undef) (some 17) rfl rfl (by kernel_rfl) (by kernel_rfl) (by kernel_rfl) (fun _ _ _ h => h) (Or.inr ⟨by rfl, rfl⟩) (HSS.out _ HX.out) ?_
      simp only [Act.put, List.setIfInBounds_toArray, List.set_cons_zero, List.set_cons_succ]
      refine wpAnyH_takeD (i := 9) (v := undef) (some 18) rfl rfl (by kernel_rfl) (by kernel_rfl) (by kernel_rfl) (fun _ _ _ h => h) (Or.inr ⟨by rfl, rfl⟩) (HSS.out _ HX.out) ?_
      simp only [Act.put, List.setIfInBounds_toArray, List.set_cons_zero, List.set_cons_succ]
      refine wpAnyH_takeD (i := 10) (v := undef) (some 19) rfl rfl (by kernel_rfl) (by kernel_rfl) (by kernel_rfl) (fun _ _ _ h => h) (Or.inr ⟨by rfl, rfl⟩) (HSS.out _ HX.out) ?_
      simp only [Act.put, List.setIfInBounds_toArray, List.set_cons_zero, List.set_cons_succ]
      refine wpAnyH_takeD (i := 11) (v := undef) (some 20) rfl rfl (by kernel_rfl) (by kernel_rfl) (by kernel_rfl) (fun _ _ _ h => h) (Or.inr ⟨by rfl, rfl⟩) (HSS.out _ HX.out) ?_
      simp only [Act.put, List.setIfInBounds_toArray, List.set_cons_zero, List.set_cons_succ]
      refine wpAnyH_takeD (i := 12) (v := .bool false) (some 21) rfl rfl (by kernel_rfl) (by kernel_rfl) (by kernel_rfl) (fun _ _ _ h => h) (Or.inl ⟨by rfl, by intro W _; go_simp⟩) (HSS.out _ HX.out) ?_
      simp only [Act.put, List.setIfInBounds_toArray, List.set_cons_zero, List.set_cons_succ]
      refine wpAnyH_takeD (i := 13) (v := .bool false) (some 22) rfl rfl (by kernel_rfl) (by kernel_rfl) (by kernel_rfl) (fun _ _ _ h => h) (Or.inl ⟨by rfl, by intro W _; go_simp⟩) (HSS.out _ HX.out) ?_
      simp only [Act.put, List.setIfInBounds_toArray, List.set_cons_zero, List.set_cons_succ]
      refine wpAnyH_takeD (i := 14) (v := undef) (some 23) rfl rfl (by kernel_rfl) (by kernel_rfl) (by kernel_rfl) (fun _ _ _ h => h) (Or.inr ⟨by rfl, rfl⟩) (HSS.out _ HX.out) ?_
      simp only [Act.put, List.setIfInBounds_toArray, List.set_cons_zero, List.set_cons_succ]
      refine wpAnyH_takeD (i := 15) (v := undef) (some 24) rfl rfl (by kernel_rfl) (by kernel_rfl) (by kernel_rfl) (fun _ _ _ h => h) (Or.inr ⟨by rfl, rfl⟩) (HSS.out _ HX.out) ?_
      simp only [Act.put, List.setIfInBounds_toArray, List.set_cons_zero, List.set_cons_succ]
      refine wpAnyH_takeD (i := 16) (v := .bool false) (some 25) rfl rfl (by kernel_rfl) (by kernel_rfl) (by kernel_rfl) (fun _ _ _ h => h) (Or.inl ⟨by rfl, by intro W _; go_simp⟩) (HSS.out _ HX.out) ?_
      simp only [Act.put, List.setIfInBounds_toArray, List.set_cons_zero, List.set_cons_succ]
      refine wpAnyH_takeD (i := 17) (v := .bool false) (some 26) rfl rfl (by kernel_rfl) (by kernel_rfl) (by kernel_rfl) (fun _ _ _ h => h) (Or.inl ⟨by rfl, by intro W _; go_simp⟩) (HSS.out _ HX.out) ?_
      simp only [Act.put, List.setIfInBounds_toArray, List.set_cons_zero, List.set_cons_succ]
      refine wpAnyH_takeD (i := 18) (v := undef) (some 27) rfl rfl (by kernel_rfl) (by kernel_rfl) (by kernel_rfl) (fun _ _ _ h => h) (Or.inr ⟨by rfl, rfl⟩) (HSS.out _ HX.out) ?_
      simp only [Act.put, List.setIfInBounds_toArray, List.set_cons_zero, List.set_cons_succ]
      refine wpAnyH_takeD (i := 19) (v := undef) (some 28) rfl rfl (by kernel_rfl) (by kernel_rfl) (by kernel_rfl) (fun _ _ _ h => h) (Or.inr ⟨by rfl, rfl⟩) (HSS.out _ HX.out) ?_
      simp only [Act.put, List.setIfInBounds_toArray, List.set_cons_zero, List.set_cons_succ]
      refine wpAnyH_takeD (i := 20) (v := undef) (some 29) rfl rfl (by kernel_rfl) (by kernel_rfl) (by kernel_rfl) (fun _ _ _ h => h) (Or.inr ⟨by rfl, rfl⟩) (HSS.out _ HX.out) ?_
      simp only [Act.put, List.setIfInBounds_toArray, List.set_cons_zero, List.set_cons_succ]
      refine wpAnyH_takeD (i := 21) (v := undef) (some 30) rfl rfl (by kernel_rfl) (by kernel_rfl) (by kernel_rfl) (fun _ _ _ h => h) (Or.inr ⟨by rfl, rfl⟩) (HSS.out _ HX.out) ?_
      simp only [Act.put, List.setIfInBounds_toArray, List.set_cons_zero, List.set_cons_succ]
      refine wpAnyH_takeD (i := 22) (v := .bool false) (some 31) rfl rfl (by kernel_rfl) (by kernel_rfl) (by kernel_rfl) (fun _ _ _ h => h) (Or.inl ⟨by rfl, by intro W _; go_simp⟩) (HSS.out _ HX.out) ?_
      simp only [Act.put, List.setIfInBounds_toArray, List.set_cons_zero, List.set_cons_succ]
      refine wpAnyH_takeD (i := 23) (v := .bool false) (some 4) rfl rfl (by kernel_rfl) (by kernel_rfl) (by kernel_rfl) (fun _ _ _ h => h) (Or.inl ⟨by rfl, by intro W _; go_simp⟩) (HSS.out _ HX.out) ?_
      simp only [Act.put, List.setIfInBounds_toArray, List.set_cons_zero, List.set_cons_succ]
      refine wpAnyH_done (by kernel_rfl) ?_ _
      have HB : Hid (Below w.heap.size w X2) := (HKEEP.out _ HX.out).2.2.2
      clear HX HSS HKEEP
      go_wp2_with fail
      go_ret
      exact BoolIs.no HF.out HB.out
    | true =>
      have HRP : Hid (RespP st gs c ∧ st = 200) := ht2.1 rfl
      clear ht2
      refine wpAnyH_takeD (i := 5) (v := .bool true) (some 14) rfl rfl (by kernel_rfl) (by kernel_rfl) (by kernel_rfl) (fun _ _ _ h => h) (Or.inl ⟨by rfl, by intro W _; go_simp⟩) (HSS.out _ HX.out) ?_
      simp only [Act.put, List.setIfInBounds_toArray, List.set_cons_zero, List.set_cons_succ]
      refine wpAnyH_takeD (i := 6) (v := .bool true) (some 15) rfl rfl (by kernel_rfl) (by kernel_rfl) (by kernel_rfl) (fun _ _ _ h => h) (Or.inl ⟨by rfl, by intro W _; go_simp⟩) (HSS.out _ HX.out) ?_
      simp only [Act.put, List.setIfInBounds_toArray, List.set_cons_zero, List.set_cons_succ]
      refine wpAnyH_takeD (i := 7) (v := .pointer (some ⟨r, 2, none⟩)) (some 16) rfl rfl (by kernel_rfl) (by kernel_rfl) (by kernel_rfl) (fun _ _ _ h => h) (Or.inl ⟨by rfl, by intro W _; go_simp⟩) (HSS.out _ HX.out) ?_
      simp only [Act.put, List.setIfInBounds_toArray, List.set_cons_zero, List.set_cons_succ]
      refine wpAnyH_takeD (i := 8) (v := .slice oa n cap) (some 17) rfl rfl (by kernel_rfl) (by kernel_rfl) (by kernel_rfl) (fun _ _ _ h => h) (Or.inl ⟨by rfl, by intro W hW; obtain ⟨h1, h2, h3⟩ := hW; obtain ⟨⟨s0, s1, s2, s3⟩, _⟩ := four_facts h1; obtain ⟨⟨t0, t1, t2⟩, _⟩ := three_facts h2; obtain ⟨y0, y1, y2, y3, y4, y5⟩ := h3.cells; dsimp only at y0 y1 y2 y3 y4 y5; go_simp⟩) (HSS.out _ HX.out) ?_
      simp only [Act.put, List.setIfInBounds_toArray, List.set_cons_zero, List.set_cons_succ]
      refine wpAnyH_takeD (i := 10) (v := .agg #[.bool z0, .bool z1, .bool z2, .bool z3, .bool z4, .int .i64 z5]) (some 19) rfl rfl (by kernel_rfl) (by kernel_rfl) (by kernel_rfl) (fun _ _ _ h => h) (Or.inl ⟨by rfl, by intro W hW; obtain ⟨h1, h2, h3⟩ := hW; obtain ⟨⟨s0, s1, s2, s3⟩, _⟩ := four_facts h1; obtain ⟨⟨t0, t1, t2⟩, _⟩ := three_facts h2; obtain ⟨y0, y1, y2, y3, y4, y5⟩ := h3.cells; dsimp only at y0 y1 y2 y3 y4 y5; go_simp⟩) (HSS.out _ HX.out) ?_
      simp only [Act.put, List.setIfInBounds_toArray, List.set_cons_zero, List.set_cons_succ]
      refine wpAnyH_ready (rs := [9]) (by kernel_rfl) (by simp) ?_
      refine AllReadyH.cons rfl (fun K hK => ?_) AllReadyH.nil
      go_simp
      refine (HC1.out _ (HKEEP.out _ HX.out).2.1).mono ?_
      rintro e X3 ⟨rfl, bx⟩
      have HXN : Hid (Below W2.heap.size W2 X3) := HX.out.trans (bx.mono HX.out.size)
      refine hK.out _ _ (HSS.out _ HXN.out) (fun _ => ?_)
      clear hK K HX bx
      have HX := HXN
      clear HXN
      refine wpAnyH_ready (rs := [11]) (by kernel_rfl) (by simp) ?_
      refine AllReadyH.cons rfl (fun K hK => ?_) AllReadyH.nil
      go_simp
      refine (nobodySaysNo_any ⟨q0, q1, q2, q3, q4, q5⟩ ⟨z0, z1, z2, z3, z4, z5⟩ _).mono ?_
      rintro e X4 ⟨rfl, bx⟩
      have HXN : Hid (Below W2.heap.size W2 X4) := HX.out.trans (bx.mono HX.out.size)
      refine hK.out _ _ (HSS.out _ HXN.out) (fun _ => ?_)
      clear hK K HX bx
      have HX := HXN
      clear HXN
      cases q0 with
      | true =>
        dsimp only [Bool.not_true, Bool.false_and]
        have HF : Hid (¬ MayP m p fs b st gs c) := fun h => nomatch ((HQ0.out.1 h).2).1
        refine wpAnyH_takeD (i := 12) (v := .bool false) (some 21) rfl rfl (by kernel_rfl) (by kernel_rfl) (by kernel_rfl) (fun _ _ _ h => h) (Or.inl ⟨by rfl, by intro W _; go_simp⟩) (HSS.out _ HX.out) ?_
        simp only [Act.put, List.setIfInBounds_toArray, List.set_cons_zero, List.set_cons_succ]
        refine wpAnyH_takeD (i := 13) (v := .bool false) (some 22) rfl rfl (by kernel_rfl) (by kernel_rfl) (by kernel_rfl) (fun _ _ _ h => h) (Or.inl ⟨by rfl, by intro W _; go_simp⟩) (HSS.out _ HX.out) ?_
        simp only [Act.put, List.setIfInBounds_toArray, List.set_cons_zero, List.set_cons_succ]
        refine wpAnyH_takeD (i := 14) (v := undef) (some 23) rfl rfl (by kernel_rfl) (by kernel_rfl) (by kernel_rfl) (fun _ _ _ h => h) (Or.inr ⟨by rfl, rfl⟩) (HSS.out _ HX.out) ?_
        simp only [Act.put, List.setIfInBounds_toArray, List.set_cons_zero, List.set_cons_succ]
        refine wpAnyH_takeD (i := 15) (v := undef) (some 24) rfl rfl (by kernel_rfl) (by kernel_rfl) (by kernel_rfl) (fun _ _ _ h => h) (Or.inr ⟨by rfl, rfl⟩) (HSS.out _ HX.out) ?_
        simp only [Act.put, List.setIfInBounds_toArray, List.set_cons_zero, List.set_cons_succ]
        refine wpAnyH_takeD (i := 16) (v := .bool false) (some 25) rfl rfl (by kernel_rfl) (by kernel_rfl) (by kernel_rfl) (fun _ _ _ h => h) (Or.inl ⟨by rfl, by intro W _; go_simp⟩) (HSS.out _ HX.out) ?_
        simp only [Act.put, List.setIfInBounds_toArray, List.set_cons_zero, List.set_cons_succ]
        refine wpAnyH_takeD (i := 17) (v := .bool false) (some 26) rfl rfl (by kernel_rfl) (by kernel_rfl) (by kernel_rfl) (fun _ _ _ h => h) (Or.inl ⟨by rfl, by intro W _; go_simp⟩) (HSS.out _ HX.out) ?_
        simp only [Act.put, List.setIfInBounds_toArray, List.set_cons_zero, List.set_cons_succ]
        refine wpAnyH_takeD (i := 18) (v := undef) (some 27) rfl rfl (by kernel_rfl) (by kernel_rfl) (by kernel_rfl) (fun _ _ _ h => h) (Or.inr ⟨by rfl, rfl⟩) (HSS.out _ HX.out) ?_
        simp only [Act.put, List.setIfInBounds_toArray, List.set_cons_zero, List.set_cons_succ]
        refine wpAnyH_takeD (i := 19) (v := undef) (some 28) rfl rfl (by kernel_rfl) (by kernel_rfl) (by kernel_rfl) (fun _ _ _ h => h) (Or.inr ⟨by rfl, rfl⟩) (HSS.out _ HX.out) ?_
        simp only [Act.put, List.setIfInBounds_toArray, List.set_cons_zero, List.set_cons_succ]
        refine wpAnyH_takeD (i := 20) (v := undef) (some 29) rfl rfl (by kernel_rfl) (by kernel_rfl) (by kernel_rfl) (fun _ _ _ h => h) (Or.inr ⟨by rfl, rfl⟩) (HSS.out _ HX.out) ?_
        simp only [Act.put, List.setIfInBounds_toArray, List.set_cons_zero, List.set_cons_succ]
        refine wpAnyH_takeD (i := 21) (v := undef) (some 30) rfl rfl (by kernel_rfl) (by kernel_rfl) (by kernel_rfl) (fun _ _ _ h => h) (Or.inr ⟨by rfl, rfl⟩) (HSS.out _ HX.out) ?_
        simp only [Act.put, List.setIfInBounds_toArray, List.set_cons_zero, List.set_cons_succ]
        refine wpAnyH_takeD (i := 22) (v := .bool false) (some 31) rfl rfl (by kernel_rfl) (by kernel_rfl) (by kernel_rfl) (fun _ _ _ h => h) (Or.inl ⟨by rfl, by intro W _; go_simp⟩) (HSS.out _ HX.out) ?_
        simp only [Act.put, List.setIfInBounds_toArray, List.set_cons_zero, List.set_cons_succ]
        refine wpAnyH_takeD (i := 23) (v := .bool false) (some 4) rfl rfl (by kernel_rfl) (by kernel_rfl) (by kernel_rfl) (fun _ _ _ h => h) (Or.inl ⟨by rfl, by intro W _; go_simp⟩) (HSS.out _ HX.out) ?_
        simp only [Act.put, List.setIfInBounds_toArray, List.set_cons_zero, List.set_cons_succ]
        refine wpAnyH_done (by kernel_rfl) ?_ _
        have HB : Hid (Below w.heap.size w X4) := (HKEEP.out _ HX.out).2.2.2
        clear HX HSS HKEEP
        go_wp2_with fail
        go_ret
        exact BoolIs.no HF.out HB.out
      | false =>
        cases z0 with
        | true =>
          dsimp only [Bool.not_true, Bool.not_false, Bool.false_and, Bool.true_and]
          have HF : Hid (¬ MayP m p fs b st gs c) := fun h => nomatch ((HQ0.out.1 h).2).2.1
          refine wpAnyH_takeD (i := 12) (v := .bool false) (some 21) rfl rfl (by kernel_rfl) (by kernel_rfl) (by kernel_rfl) (fun _ _ _ h => h) (Or.inl ⟨by rfl, by intro W _; go_simp⟩) (HSS.out _ HX.out) ?_
          simp only [Act.put, List.setIfInBounds_toArray, List.set_cons_zero, List.set_cons_succ]
          refine wpAnyH_takeD (i := 13) (v := .bool false) (some 22) rfl rfl (by kernel_rfl) (by kernel_rfl) (by kernel_rfl) (fun _ _ _ h => h) (Or.inl ⟨by rfl, by intro W _; go_simp⟩) (HSS.out _ HX.out) ?_
          simp only [Act.put, List.setIfInBounds_toArray, List.set_cons_zero, List.set_cons_succ]
          refine wpAnyH_takeD (i := 14) (v := undef) (some 23) rfl rfl (by kernel_rfl) (by kernel_rfl) (by kernel_rfl) (fun _ _ _ h => h) (Or.inr ⟨by rfl, rfl⟩) (HSS.out _ HX.out) ?_
          simp only [Act.put, List.setIfInBounds_toArray, List.set_cons_zero, List.set_cons_succ]
          refine wpAnyH_takeD (i := 15) (v := undef) (some 24) rfl rfl (by kernel_rfl) (by kernel_rfl) (by kernel_rfl) (fun _ _ _ h => h) (Or.inr ⟨by rfl, rfl⟩) (HSS.out _ HX.out) ?_
          simp only [Act.put, List.setIfInBounds_toArray, List.set_cons_zero, List.set_cons_succ]
          refine wpAnyH_takeD (i := 16) (v := .bool false) (some 25) rfl rfl (by kernel_rfl) (by kernel_rfl) (by kernel_rfl) (fun _ _ _ h => h) (Or.inl ⟨by rfl, by intro W _; go_simp⟩) (HSS.out _ HX.out) ?_
          simp only [Act.put, List.setIfInBounds_toArray, List.set_cons_zero, List.set_cons_succ]
          refine wpAnyH_takeD (i := 17) (v := .bool false) (some 26) rfl rfl (by kernel_rfl) (by kernel_rfl) (by kernel_rfl) (fun _ _ _ h => h) (Or.inl ⟨by rfl, by intro W _; go_simp⟩) (HSS.out _ HX.out) ?_
          simp only [Act.put, List.setIfInBounds_toArray, List.set_cons_zero, List.set_cons_succ]
          refine wpAnyH_takeD (i := 18) (v := undef) (some 27) rfl rfl (by kernel_rfl) (by kernel_rfl) (by kernel_rfl) (fun _ _ _ h => h) (Or.inr ⟨by rfl, rfl⟩) (HSS.out _ HX.out) ?_
          simp only [Act.put, List.setIfInBounds_toArray, List.set_cons_zero, List.set_cons_succ]
          refine wpAnyH_takeD (i := 19) (v := undef) (some 28) rfl rfl (by kernel_rfl) (by kernel_rfl) (by kernel_rfl) (fun _ _ _ h => h) (Or.inr ⟨by rfl, rfl⟩) (HSS.out _ HX.out) ?_
          simp only [Act.put, List.setIfInBounds_toArray, List.set_cons_zero, List.set_cons_succ]
          refine wpAnyH_takeD (i := 20) (v := undef) (some 29) rfl rfl (by kernel_rfl) (by kernel_rfl) (by kernel_rfl) (fun _ _ _ h => h) (Or.inr ⟨by rfl, rfl⟩) (HSS.out _ HX.out) ?_
          simp only [Act.put, List.setIfInBounds_toArray, List.set_cons_zero, List.set_cons_succ]
          refine wpAnyH_takeD (i := 21) (v := undef) (some 30) rfl rfl (by kernel_rfl) (by kernel_rfl) (by kernel_rfl) (fun _ _ _ h => h) (Or.inr ⟨by rfl, rfl⟩) (HSS.out _ HX.out) ?_
          simp only [Act.put, List.setIfInBounds_toArray, List.set_cons_zero, List.set_cons_succ]
          refine wpAnyH_takeD (i := 22) (v := .bool false) (some 31) rfl rfl (by kernel_rfl) (by kernel_rfl) (by kernel_rfl) (fun _ _ _ h => h) (Or.inl ⟨by rfl, by intro W _; go_simp⟩) (HSS.out _ HX.out) ?_
          simp only [Act.put, List.setIfInBounds_toArray, List.set_cons_zero, List.set_cons_succ]
          refine wpAnyH_takeD (i := 23) (v := .bool false) (some 4) rfl rfl (by kernel_rfl) (by kernel_rfl) (by kernel_rfl) (fun _ _ _ h => h) (Or.inl ⟨by rfl, by intro W _; go_simp⟩) (HSS.out _ HX.out) ?_
          simp only [Act.put, List.setIfInBounds_toArray, List.set_cons_zero, List.set_cons_succ]
          refine wpAnyH_done (by kernel_rfl) ?_ _
          have HB : Hid (Below w.heap.size w X4) := (HKEEP.out _ HX.out).2.2.2
          clear HX HSS HKEEP
          go_wp2_with fail
          go_ret
          exact BoolIs.no HF.out HB.out
        | false =>
          cases z2 with
          | true =>
            dsimp only [Bool.not_true, Bool.not_false, Bool.false_and, Bool.true_and]
            have HF : Hid (¬ MayP m p fs b st gs c) := fun h => nomatch ((HQ0.out.1 h).2).2.2.1
            refine wpAnyH_takeD (i := 12) (v := .bool false) (some 21) rfl rfl (by kernel_rfl) (by kernel_rfl) (by kernel_rfl) (fun _ _ _ h => h) (Or.inl ⟨by rfl, by intro W _; go_simp⟩) (HSS.out _ HX.out) ?_
            simp only [Act.put, List.setIfInBounds_toArray, List.set_cons_zero, List.set_cons_succ]
            refine wpAnyH_takeD (i := 13) (v := .bool false) (some 22) rfl rfl (by kernel_rfl) (by kernel_rfl) (by kernel_rfl) (fun _ _ _ h => h) (Or.inl ⟨by rfl, by intro W _; go_simp⟩) (HSS.out _ HX.out) ?_
            simp only [Act.put, List.setIfInBounds_toArray, List.set_cons_zero, List.set_cons_succ]
            refine wpAnyH_takeD (i := 14) (v := undef) (some 23) rfl rfl (by kernel_rfl) (by kernel_rfl) (by kernel_rfl) (fun _ _ _ h => h) (Or.inr ⟨by rfl, rfl⟩) (HSS.out _ HX.out) ?_
            simp only [Act.put, List.setIfInBounds_toArray, List.set_cons_zero, List.set_cons_succ]
            refine wpAnyH_takeD (i := 15) (v := undef) (some 24) rfl rfl (by kernel_rfl) (by kernel_rfl) (by kernel_rfl) (fun _ _ _ h => h) (Or.inr ⟨by rfl, rfl⟩) (HSS.out _ HX.out) ?_
            simp only [Act.put, List.setIfInBounds_toArray, List.set_cons_zero, List.set_cons_succ]
            refine wpAnyH_takeD (i := 16) (v := .bool false) (some 25) rfl rfl (by kernel_rfl) (by kernel_rfl) (by kernel_rfl) (fun _ _ _ h => h) (Or.inl ⟨by rfl, by intro W _; go_simp⟩) (HSS.out _ HX.out) ?_
            simp only [Act.put, List.setIfInBounds_toArray, List.set_cons_zero, List.set_cons_succ]
            refine wpAnyH_takeD (i := 17) (v := .bool false) (some 26) rfl rfl (by kernel_rfl) (by kernel_rfl) (by kernel_rfl) (fun _ _ _ h => h) (Or.inl ⟨by rfl, by intro W _; go_simp⟩) (HSS.out _ HX.out) ?_
            simp only [Act.put, List.setIfInBounds_toArray, List.set_cons_zero, List.set_cons_succ]
            refine wpAnyH_takeD (i := 18) (v := undef) (some 27) rfl rfl (by kernel_rfl) (by kernel_rfl) (by kernel_rfl) (fun _ _ _ h => h) (Or.inr ⟨by rfl, rfl⟩) (HSS.out _ HX.out) ?_
            simp only [Act.put, List.setIfInBounds_toArray, List.set_cons_zero, List.set_cons_succ]
            refine wpAnyH_takeD (i := 19) (v := undef) (some 28) rfl rfl (by kernel_rfl) (by kernel_rfl) (by kernel_rfl) (fun _ _ _ h => h) (Or.inr ⟨by rfl, rfl⟩) (HSS.out _ HX.out) ?_
            simp only [Act.put, List.setIfInBounds_toArray, List.set_cons_zero, List.set_cons_succ]
            refine wpAnyH_takeD (i := 20) (v := undef) (some 29) rfl rfl (by kernel_rfl) (by kernel_rfl) (by kernel_rfl) (fun _ _ _ h => h) (Or.inr ⟨by rfl, rfl⟩) (HSS.out _ HX.out) ?_
            simp only [Act.put, List.setIfInBounds_toArray, List.set_cons_zero, List.set_cons_succ]
            refine wpAnyH_takeD (i := 21) (v := undef) (some 30) rfl rfl (by kernel_rfl) (by kernel_rfl) (by kernel_rfl) (fun _ _ _ h => h) (Or.inr ⟨by rfl, rfl⟩) (HSS.out _ HX.out) ?_
            simp only [Act.put, List.setIfInBounds_toArray, List.set_cons_zero, List.set_cons_succ]
            refine wpAnyH_takeD (i := 22) (v := .bool false) (some 31) rfl rfl (by kernel_rfl) (by kernel_rfl) (by kernel_rfl) (fun _ _ _ h => h) (Or.inl ⟨by rfl, by intro W _; go_simp⟩) (HSS.out _ HX.out) ?_
            simp only [Act.put, List.setIfInBounds_toArray, List.set_cons_zero, List.set_cons_succ]
            refine wpAnyH_takeD (i := 23) (v := .bool false) (some 4) rfl rfl (by kernel_rfl) (by kernel_rfl) (by kernel_rfl) (fun _ _ _ h => h) (Or.inl ⟨by rfl, by intro W _; go_simp⟩) (HSS.out _ HX.out) ?_
            simp only [Act.put, List.setIfInBounds_toArray, List.set_cons_zero, List.set_cons_succ]
            refine wpAnyH_done (by kernel_rfl) ?_ _
            have HB : Hid (Below w.heap.size w X4) := (HKEEP.out _ HX.out).2.2.2
            clear HX HSS HKEEP
            go_wp2_with fail
            go_ret
            exact BoolIs.no HF.out HB.out
          | false =>
            dsimp only [Bool.not_true, Bool.not_false, Bool.false_and, Bool.true_and]
            refine wpAnyH_takeD (i := 12) (v := .bool true) (some 21) rfl rfl (by kernel_rfl) (by kernel_rfl) (by kernel_rfl) (fun _ _ _ h => h) (Or.inl ⟨by rfl, by intro W _; go_simp⟩) (HSS.out _ HX.out) ?_
            simp only [Act.put, List.setIfInBounds_toArray, List.set_cons_zero, List.set_cons_succ]
            refine wpAnyH_takeD (i := 13) (v := .bool true) (some 22) rfl rfl (by kernel_rfl) (by kernel_rfl) (by kernel_rfl) (fun _ _ _ h => h) (Or.inl ⟨by rfl, by intro W _; go_simp⟩) (HSS.out _ HX.out) ?_
            simp only [Act.put, List.setIfInBounds_toArray, List.set_cons_zero, List.set_cons_succ]
            refine wpAnyH_takeD (i := 14) (v := .pointer (some ⟨o, 4, none⟩)) (some 23) rfl rfl (by kernel_rfl) (by kernel_rfl) (by kernel_rfl) (fun _ _ _ h => h) (Or.inl ⟨by rfl, by intro W _; go_simp⟩) (HSS.out _ HX.out) ?_
            simp only [Act.put, List.setIfInBounds_toArray, List.set_cons_zero, List.set_cons_succ]
            refine wpAnyH_takeD (i := 15) (v := .bool z4) (some 24) rfl rfl (by kernel_rfl) (by kernel_rfl) (by kernel_rfl) (fun _ _ _ h => h) (Or.inl ⟨by rfl, by intro W hW; obtain ⟨h1, h2, h3⟩ := hW; obtain ⟨⟨s0, s1, s2, s3⟩, _⟩ := four_facts h1; obtain ⟨⟨t0, t1, t2⟩, _⟩ := three_facts h2; obtain ⟨y0, y1, y2, y3, y4, y5⟩ := h3.cells; dsimp only at y0 y1 y2 y3 y4 y5; go_simp⟩) (HSS.out _ HX.out) ?_
            simp only [Act.put, List.setIfInBounds_toArray, List.set_cons_zero, List.set_cons_succ]
            cases z4 with
            | false =>
              have HF : Hid (¬ MayP m p fs b st gs c) := fun h => nomatch ((HQ0.out.1 h).2).2.2.2.1
              refine wpAnyH_takeD (i := 16) (v := .bool false) (some 25) rfl rfl (by kernel_rfl) (by kernel_rfl) (by kernel_rfl) (fun _ _ _ h => h) (Or.inl ⟨by rfl, by intro W _; go_simp⟩) (HSS.out _ HX.out) ?_
              simp only [Act.put, List.setIfInBounds_toArray, List.set_cons_zero, List.set_cons_succ]
              refine wpAnyH_takeD (i := 17) (v := .bool false) (some 26) rfl rfl (by kernel_rfl) (by kernel_rfl) (by kernel_rfl) (fun _ _ _ h => h) (Or.inl ⟨by rfl, by intro W _; go_simp⟩) (HSS.out _ HX.out) ?_
              simp only [Act.put, List.setIfInBounds_toArray, List.set_cons_zero, List.set_cons_succ]
              refine wpAnyH_takeD (i := 18) (v := undef) (some 27) rfl rfl (by kernel_rfl) (by kernel_rfl) (by kernel_rfl) (fun _ _ _ h => h) (Or.inr ⟨by rfl, rfl⟩) (HSS.out _ HX.out) ?_
              simp only [Act.put, List.setIfInBounds_toArray, List.set_cons_zero, List.set_cons_succ]
              refine wpAnyH_takeD (i := 19) (v := undef) (some 28) rfl rfl (by kernel_rfl) (by kernel_rfl) (by kernel_rfl) (fun _ _ _ h => h) (Or.inr ⟨by rfl, rfl⟩) (HSS.out _ HX.out) ?_
              simp only [Act.put, List.setIfInBounds_toArray, List.set_cons_zero, List.set_cons_succ]
              refine wpAnyH_takeD (i := 20) (v := undef) (some 29) rfl rfl (by kernel_rfl) (by kernel_rfl) (by kernel_rfl) (fun _ _ _ h => h) (Or.inr ⟨by rfl, rfl⟩) (HSS.out _ HX.out) ?_
              simp only [Act.put, List.setIfInBounds_toArray, List.set_cons_zero, List.set_cons_succ]
              refine wpAnyH_takeD (i := 21) (v := undef) (some 30) rfl rfl (by kernel_rfl) (by kernel_rfl) (by kernel_rfl) (fun _ _ _ h => h) (Or.inr ⟨by rfl, rfl⟩) (HSS.out _ HX.out) ?_
              simp only [Act.put, List.setIfInBounds_toArray, List.set_cons_zero, List.set_cons_succ]
              refine wpAnyH_takeD (i := 22) (v := .bool false) (some 31) rfl rfl (by kernel_rfl) (by kernel_rfl) (by kernel_rfl) (fun _ _ _ h => h) (Or.inl ⟨by rfl, by intro W _; go_simp⟩) (HSS.out _ HX.out) ?_
              simp only [Act.put, List.setIfInBounds_toArray, List.set_cons_zero, List.set_cons_succ]
              refine wpAnyH_takeD (i := 23) (v := .bool false) (some 4) rfl rfl (by kernel_rfl) (by kernel_rfl) (by kernel_rfl) (fun _ _ _ h => h) (Or.inl ⟨by rfl, by intro W _; go_simp⟩) (HSS.out _ HX.out) ?_
              simp only [Act.put, List.setIfInBounds_toArray, List.set_cons_zero, List.set_cons_succ]
              refine wpAnyH_done (by kernel_rfl) ?_ _
              have HB : Hid (Below w.heap.size w X4) := (HKEEP.out _ HX.out).2.2.2
              clear HX HSS HKEEP
              go_wp2_with fail
              go_ret
              exact BoolIs.no HF.out HB.out
            | true =>
              refine wpAnyH_takeD (i := 16) (v := .bool true) (some 25) rfl rfl (by kernel_rfl) (by kernel_rfl) (by kernel_rfl) (fun _ _ _ h => h) (Or.inl ⟨by rfl, by intro W _; go_simp⟩) (HSS.out _ HX.out) ?_
              simp only [Act.put, List.setIfInBounds_toArray, List.set_cons_zero, List.set_cons_succ]
              refine wpAnyH_takeD (i := 17) (v := .bool true) (some 26) rfl rfl (by kernel_rfl) (by kernel_rfl) (by kernel_rfl) (fun _ _ _ h => h) (Or.inl ⟨by rfl, by intro W _; go_simp⟩) (HSS.out _ HX.out) ?_
              simp only [Act.put, List.setIfInBounds_toArray, List.set_cons_zero, List.set_cons_succ]
              refine wpAnyH_takeD (i := 18) (v := .pointer (some ⟨r + 1, 1, none⟩)) (some 27) rfl rfl (by kernel_rfl) (by kernel_rfl) (by kernel_rfl) (fun _ _ _ h => h) (Or.inl ⟨by rfl, by intro W _; go_simp⟩) (HSS.out _ HX.out) ?_
              simp only [Act.put, List.setIfInBounds_toArray, List.set_cons_zero, List.set_cons_succ]
              refine wpAnyH_takeD (i := 19) (v := .slice ob k cb) (some 28) rfl rfl (by kernel_rfl) (by kernel_rfl) (by kernel_rfl) (fun _ _ _ h => h) (Or.inl ⟨by rfl, by intro W hW; obtain ⟨h1, h2, h3⟩ := hW; obtain ⟨⟨s0, s1, s2, s3⟩, _⟩ := four_facts h1; obtain ⟨⟨t0, t1, t2⟩, _⟩ := three_facts h2; obtain ⟨y0, y1, y2, y3, y4, y5⟩ := h3.cells; dsimp only at y0 y1 y2 y3 y4 y5; go_simp⟩) (HSS.out _ HX.out) ?_
              simp only [Act.put, List.setIfInBounds_toArray, List.set_cons_zero, List.set_cons_succ]
              refine wpAnyH_ready (rs := [20]) (by kernel_rfl) (by simp) ?_
              refine AllReadyH.cons rfl (fun K hK => ?_) AllReadyH.nil
              go_simp
              refine (implVaryOf_any _ k base2 gs _ (HKEEP.out _ HX.out).2.2.1 hk HCG.out HG3.out).mono ?_
              rintro e X5 ⟨V, rfl, O, bx⟩
              have HXN : Hid (Below W2.heap.size W2 X5) := HX.out.trans (bx.mono HX.out.size)
              refine hK.out _ _ (HSS.out _ HXN.out) (fun _ => ?_)
              obtain ⟨ov, cv, rfl, hx⟩ := texts_own O
              have HXT : Hid (TextsA X5 ov (varyP gs).length (varyP gs)) := hx
              clear hK K HX bx O hx
              have HX := HXN
              clear HXN
              rw [HVL.out] at HXT ⊢
              refine wpAnyH_ready (rs := [21]) (by kernel_rfl) (by simp) ?_
              refine AllReadyH.cons rfl (fun K hK => ?_) AllReadyH.nil
              go_simp
              refine (namesOk_any ov vl.length cv vl _ HXT.out (by have := HVZ.out.1; omega) HVZ.out.2).mono ?_
              rintro e X6 ⟨t, rfl, ht, bx⟩
              have HXN : Hid (Below W2.heap.size W2 X6) := HX.out.trans (bx.mono HX.out.size)
              refine hK.out _ _ (HSS.out _ HXN.out) (fun _ => ?_)
              clear hK K HX bx
              have HX := HXN
              clear HXN
              refine wpAnyH_takeD (i := 22) (v := .bool t) (some 31) rfl rfl (by kernel_rfl) (by kernel_rfl) (by kernel_rfl) (fun _ _ _ h => h) (Or.inl ⟨by rfl, by intro W _; go_simp⟩) (HSS.out _ HX.out) ?_
              simp only [Act.put, List.setIfInBounds_toArray, List.set_cons_zero, List.set_cons_succ]
              refine wpAnyH_takeD (i := 23) (v := .bool t) (some 4) rfl rfl (by kernel_rfl) (by kernel_rfl) (by kernel_rfl) (fun _ _ _ h => h) (Or.inl ⟨by rfl, by intro W _; go_simp⟩) (HSS.out _ HX.out) ?_
              simp only [Act.put, List.setIfInBounds_toArray, List.set_cons_zero, List.set_cons_succ]
              refine wpAnyH_done (by kernel_rfl) ?_ _
              have HB : Hid (Below w.heap.size w X6) := (HKEEP.out _ HX.out).2.2.2
              have HT : Hid (t = true ↔ MayP m p fs b st gs c) := by
                show _ ↔ _
                rw [ht, HQ0.out]
                exact ⟨fun h => ⟨⟨HRQ.out.1, HRP.out.1, HRQ.out.2, HRP.out.2⟩, rfl, rfl, rfl, rfl, h⟩, fun h => h.2.2.2.2.2⟩
              clear HX HSS HKEEP ht HXT
              go_wp2_with fail
              go_ret
              exact ⟨t, rfl, HT.out, HB.out⟩

end Go.Proofs.YtdlhicdfldecgaaGreatDoor
