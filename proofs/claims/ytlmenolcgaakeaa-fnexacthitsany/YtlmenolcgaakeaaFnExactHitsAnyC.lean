/- What the proof of FnExactHitsAny leans on: contracts of the program's and the specification's functions, and plain facts (part 3 of 5). -/
import Derived.Test.YtlmenolcgaakeaaFnExactHitsAnyB
namespace Go.Proofs.Ytlmenolcgaakeaa
open Go.RowKit
open Go.Lib hiding intOf

set_option maxHeartbeats 20000000 in
set_option maxRecDepth 100000 in
theorem specObjOk_any (p : ByteArray) (o1 : Option Addr) (n1 c1 : Nat) (xs : List ByteArray) (o2 : Option Addr) (n2 c2 : Nat) (ys : List ByteArray) (st : Int) (v3 : Value) (n3 base : Nat) (fs : List (ByteArray × ByteArray)) (b : ByteArray) (t : Int) (w : World) (h1 : TextsA w o1 n1 xs) (h2 : TextsA w o2 n2 ys) (h3 : FieldsV w base v3 n3 fs) (hn1 : n1 ≤ 2000000) (hn2 : n2 ≤ 2000000) (hn3 : n3 ≤ 2000000) (hs1 : ∀ i, i < n1 → (textAt xs i).size ≤ maxLen) (hs2 : ∀ i, i < n2 → (textAt ys i).size ≤ maxLen) (hs3 : WalkF n3 fs) (hp : p.size ≤ maxLen) (hx : b.size ≤ maxLen) (hg : (getV fs varyName).size ≤ 1048576) :
    Calls Try.prog 29 #[.agg #[.string p, .slice o1 n1 c1, .slice o2 n2 c2, .int .i64 st, v3, .string b, .int .i64 t]] w fun e w' => BoolIs (ObjP p xs ys st fs b t) w e w' := by
  obtain ⟨o3, c3, rfl, _⟩ := h3.slice
  have HV1 : Hid (∀ W, Below w.heap.size w W → TextsA W o1 n1 xs) := fun W h => h1.below h
  have HV2 : Hid (∀ W, Below w.heap.size w W → TextsA W o2 n2 ys) := fun W h => h2.below h
  have HV3 : Hid (∀ W, Below w.heap.size w W → FieldsV W base (.slice o3 n3 c3) n3 fs) := fun W h => h3.below h
  have HL1 : Hid (xs.length = n1) := h1.1
  have HL2 : Hid (ys.length = n2) := h2.1
  have HS1 : Hid (∀ i, i < n1 → (textAt xs i).size ≤ maxLen) := hs1
  have HS2 : Hid (∀ i, i < n2 → (textAt ys i).size ≤ maxLen) := hs2
  have HS3 : Hid (WalkF n3 fs) := hs3
  have HPM : Hid (p.size ≤ maxLen) := hp
  have HX : Hid (b.size ≤ maxLen) := hx
  have HG : Hid ((getV fs varyName).size ≤ 1048576) := hg
  obtain ⟨vl, hvl⟩ : ∃ l, l = varyP fs := ⟨_, rfl⟩
  have HVL : Hid (varyP fs = vl) := hvl.symm
  clear h1 h2 h3 hs1 hs2 hs3 hp hx hg hvl
  have hb0 : Below w.heap.size w w := Below.refl _ _
  go_enter Try.func29, Try.ntmps29
  go_upto_region 1 with fail
  obtain ⟨qv1, hqv1⟩ : ∃ q, q = (w).heap.size := ⟨_, rfl⟩
  obtain ⟨w1, hW1⟩ : ∃ W, W = (w).alloc (.cells #[.string p, .slice o1 n1 c1, .slice o2 n2 c2, .int .i64 st, .slice o3 n3 c3, .string b, .int .i64 t] 41) := ⟨_, rfl⟩
  have hz1 : (w).heap.size = qv1 := hqv1.symm
  first | rw [← hW1, ← hqv1] | rw [← hW1]
  have hs1 : w1.heap.size = qv1 + 1 := by rw [hW1, ← hz1]; simp
  have bw : Below (w).heap.size (w) w1 := by rw [hW1]; exact (Below.refl _ _).alloc (Nat.le_refl _) _
  have hb1 : Below w.heap.size w (w1) := hb0.trans (bw.mono hb0.size)
  have HM1 : Hid ((w).heap.size ≤ (w1).heap.size) := bw.size
  have HBv1_1 : Hid ((w1).heap[qv1]? = some (.cells #[.string p, .slice o1 n1 c1, .slice o2 n2 c2, .int .i64 st, .slice o3 n3 c3, .string b, .int .i64 t] 41)) := by show _ = _; rw [hW1, ← hz1]; exact heap_alloc_new _ _
  have HGv1 : Hid (w.heap.size ≤ qv1) := by show _ ≤ _; rw [← hz1]; exact hb0.size
  clear hb0 bw hW1 hz1
  clear hs1 hqv1
  go_upto_region 1 with fail
  refine wp_region_held_drew (S := fun W => W.heap[qv1]? = some (.cells #[.string p, .slice o1 n1 c1, .slice o2 n2 c2, .int .i64 st, .slice o3 n3 c3, .string b, .int .i64 t] 41)) (by kernel_rfl) HBv1_1.out (fun _ => ?_)
  obtain ⟨w2, hX⟩ : ∃ X, X = w1.drew := ⟨_, rfl⟩
  have bw : Below w1.heap.size w1 w2 := by rw [hX]; exact (Below.refl _ _).drew
  rw [← hX]
  have hb2 : Below w.heap.size w (w2) := hb1.trans (bw.mono hb1.size)
  have HM2 : Hid ((w1).heap.size ≤ (w2).heap.size) := bw.size
  have HBv1_2 : Hid ((w2).heap[qv1]? = some (.cells #[.string p, .slice o1 n1 c1, .slice o2 n2 c2, .int .i64 st, .slice o3 n3 c3, .string b, .int .i64 t] 41)) := blk_below HBv1_1.out bw
  have hS2 : w2.heap[qv1]? = some (.cells #[.string p, .slice o1 n1 c1, .slice o2 n2 c2, .int .i64 st, .slice o3 n3 c3, .string b, .int .i64 t] 41) := HBv1_2.out
  clear hb1 HBv1_1 bw hX
  refine wpAnyH_takeD (i := 0) (v := .pointer (some ⟨qv1, 3, none⟩)) (some 4) rfl rfl (by kernel_rfl) (by kernel_rfl) (by kernel_rfl) (fun _ _ _ h => h) (Or.inl ⟨by rfl, by intro W _; go_simp⟩) hS2 ?_
  simp only [Act.put, List.setIfInBounds_toArray, List.set_cons_zero, List.set_cons_succ]
  refine wpAnyH_takeD (i := 1) (v := .agg #[.int .i64 st, .slice o3 n3 c3, .string b]) (some 5) rfl rfl (by kernel_rfl) (by kernel_rfl) (by kernel_rfl) (fun _ _ _ h => h) (Or.inl ⟨by rfl, by intro W hW; have hhv1 := hW; have y3 := (cell_of hhv1 3).trans rfl; have y4 := (cell_of hhv1 4).trans rfl; have y5 := (cell_of hhv1 5).trans rfl; go_simp⟩) hS2 ?_
  simp only [Act.put, List.setIfInBounds_toArray, List.set_cons_zero, List.set_cons_succ]
  refine wpAnyH_ready (rs := [2]) (by kernel_rfl) (by simp) ?_
  refine AllReadyH.cons rfl (fun K hK => ?_) AllReadyH.nil
  go_simp
  refine (specRespOk_any st _ b n3 base fs _ (HV3.out _ hb2) (by omega) HS3.out HX.out).mono ?_
  rintro e w3 ⟨u1, rfl, htu1, bw⟩
  have hb3 : Below w.heap.size w (w3) := hb2.trans (bw.mono hb2.size)
  have HM3 : Hid ((w2).heap.size ≤ (w3).heap.size) := bw.size
  have HBv1_3 : Hid ((w3).heap[qv1]? = some (.cells #[.string p, .slice o1 n1 c1, .slice o2 n2 c2, .int .i64 st, .slice o3 n3 c3, .string b, .int .i64 t] 41)) := blk_below HBv1_2.out bw
  clear hb2 HBv1_2 bw
  have hS3 : w3.heap[qv1]? = some (.cells #[.string p, .slice o1 n1 c1, .slice o2 n2 c2, .int .i64 st, .slice o3 n3 c3, .string b, .int .i64 t] 41) := HBv1_3.out
  refine hK.out _ _ hS3 (fun _ => ?_)
  clear hK K hS2
  cases u1 with
  | false =>
    have HF : Hid (¬ ObjP p xs ys st fs b t) := fun h => nomatch htu1.2 h.1
    clear htu1
    refine wpAnyH_takeD (i := 3) (v := .bool true) (some 7) rfl rfl (by kernel_rfl) (by kernel_rfl) (by kernel_rfl) (fun _ _ _ h => h) (Or.inl ⟨by rfl, by intro W _; go_simp⟩) hS3 ?_
    simp only [Act.put, List.setIfInBounds_toArray, List.set_cons_zero, List.set_cons_succ]
    refine wpAnyH_takeD (i := 4) (v := .bool true) (some 8) rfl rfl (by kernel_rfl) (by kernel_rfl) (by kernel_rfl) (fun _ _ _ h => h) (Or.inl ⟨by rfl, by intro W _; go_simp⟩) hS3 ?_
    simp only [Act.put, List.setIfInBounds_toArray, List.set_cons_zero, List.set_cons_succ]
    refine wpAnyH_takeD (i := 5) (v := undef) (some 9) rfl rfl (by kernel_rfl) (by kernel_rfl) (by kernel_rfl) (fun _ _ _ h => h) (Or.inr ⟨by rfl, rfl⟩) hS3 ?_
    simp only [Act.put, List.setIfInBounds_toArray, List.set_cons_zero, List.set_cons_succ]
    refine wpAnyH_takeD (i := 6) (v := undef) (some 10) rfl rfl (by kernel_rfl) (by kernel_rfl) (by kernel_rfl) (fun _ _ _ h => h) (Or.inr ⟨by rfl, rfl⟩) hS3 ?_
    simp only [Act.put, List.setIfInBounds_toArray, List.set_cons_zero, List.set_cons_succ]
    refine wpAnyH_takeD (i := 7) (v := undef) (some 11) rfl rfl (by kernel_rfl) (by kernel_rfl) (by kernel_rfl) (fun _ _ _ h => h) (Or.inr ⟨by rfl, rfl⟩) hS3 ?_
    simp only [Act.put, List.setIfInBounds_toArray, List.set_cons_zero, List.set_cons_succ]
    refine wpAnyH_takeD (i := 8) (v := undef) (some 12) rfl rfl (by kernel_rfl) (by kernel_rfl) (by kernel_rfl) (fun _ _ _ h => h) (Or.inr ⟨by rfl, rfl⟩) hS3 ?_
    simp only [Act.put, List.setIfInBounds_toArray, List.set_cons_zero, List.set_cons_succ]
    refine wpAnyH_takeD (i := 9) (v := .bool true) (some 13) rfl rfl (by kernel_rfl) (by kernel_rfl) (by kernel_rfl) (fun _ _ _ h => h) (Or.inl ⟨by rfl, by intro W _; go_simp⟩) hS3 ?_
    simp only [Act.put, List.setIfInBounds_toArray, List.set_cons_zero, List.set_cons_succ]
    refine wpAnyH_takeD (i := 10) (v := .bool true) (some 14) rfl rfl (by kernel_rfl) (by kernel_rfl) (by kernel_rfl) (fun _ _ _ h => h) (Or.inl ⟨by rfl, by intro W _; go_simp⟩) hS3 ?_
    simp only [Act.put, List.setIfInBounds_toArray, List.set_cons_zero, List.set_cons_succ]
    refine wpAnyH_takeD (i := 11) (v := undef) (some 15) rfl rfl (by kernel_rfl) (by kernel_rfl) (by kernel_rfl) (fun _ _ _ h => h) (Or.inr ⟨by rfl, rfl⟩) hS3 ?_
    simp only [Act.put, List.setIfInBounds_toArray, List.set_cons_zero, List.set_cons_succ]
    refine wpAnyH_takeD (i := 12) (v := undef) (some 16) rfl rfl (by kernel_rfl) (by kernel_rfl) (by kernel_rfl) (fun _ _ _ h => h) (Or.inr ⟨by rfl, rfl⟩) hS3 ?_
    simp only [Act.put, List.setIfInBounds_toArray, List.set_cons_zero, List.set_cons_succ]
    refine wpAnyH_takeD (i := 13) (v := undef) (some 17) rfl rfl (by kernel_rfl) (by kernel_rfl) (by kernel_rfl) (fun _ _ _ h => h) (Or.inr ⟨by rfl, rfl⟩) hS3 ?_
    simp only [Act.put, List.setIfInBounds_toArray, List.set_cons_zero, List.set_cons_succ]
    refine wpAnyH_takeD (i := 14) (v := undef) (some 18) rfl rfl (by kernel_rfl) (by kernel_rfl) (by kernel_rfl) (fun _ _ _ h => h) (Or.inr ⟨by rfl, rfl⟩) hS3 ?_
    simp only [Act.put, List.setIfInBounds_toArray, List.set_cons_zero, List.set_cons_succ]
    refine wpAnyH_takeD (i := 15) (v := .bool true) (some 19) rfl rfl (by kernel_rfl) (by kernel_rfl) (by kernel_rfl) (fun _ _ _ h => h) (Or.inl ⟨by rfl, by intro W _; go_simp⟩) hS3 ?_
    simp only [Act.put, List.setIfInBounds_toArray, List.set_cons_zero, List.set_cons_succ]
    refine wpAnyH_takeD (i := 16) (v := .bool true) (some 20) rfl rfl (by kernel_rfl) (by kernel_rfl) (by kernel_rfl) (fun _ _ _ h => h) (Or.inl ⟨by rfl, by intro W _; go_simp⟩) hS3 ?_
    simp only [Act.put, List.setIfInBounds_toArray, List.set_cons_zero, List.set_cons_succ]
    refine wpAnyH_takeD (i := 17) (v := undef) (some 21) rfl rfl (by kernel_rfl) (by kernel_rfl) (by kernel_rfl) (fun _ _ _ h => h) (Or.inr ⟨by rfl, rfl⟩) hS3 ?_
    simp only [Act.put, List.setIfInBounds_toArray, List.set_cons_zero, List.set_cons_succ]
    refine wpAnyH_takeD (i := 18) (v := undef) (some 22) rfl rfl (by kernel_rfl) (by kernel_rfl) (by kernel_rfl) (fun _ _ _ h => h) (Or.inr ⟨by rfl, rfl⟩) hS3 ?_
    simp only [Act.put, List.setIfInBounds_toArray, List.set_cons_zero, List.set_cons_succ]
    refine wpAnyH_takeD (i := 19) (v := undef) (some 23) rfl rfl (by kernel_rfl) (by kernel_rfl) (by kernel_rfl) (fun _ _ _ h => h) (Or.inr ⟨by rfl, rfl⟩) hS3 ?_
    simp only [Act.put, List.setIfInBounds_toArray, List.set_cons_zero, List.set_cons_succ]
    refine wpAnyH_takeD (i := 20) (v := undef) (some 24) rfl rfl (by kernel_rfl) (by kernel_rfl) (by kernel_rfl) (fun _ _ _ h => h) (Or.inr ⟨by rfl, rfl⟩) hS3 ?_
    simp only [Act.put, List.setIfInBounds_toArray, List.set_cons_zero, List.set_cons_succ]
    refine wpAnyH_takeD (i := 21) (v := .bool true) (some 25) rfl rfl (by kernel_rfl) (by kernel_rfl) (by kernel_rfl) (fun _ _ _ h => h) (Or.inl ⟨by rfl, by intro W _; go_simp⟩) hS3 ?_
    simp only [Act.put, List.setIfInBounds_toArray, List.set_cons_zero, List.set_cons_succ]
    refine wpAnyH_takeD (i := 22) (v := .bool true) (some 26) rfl rfl (by kernel_rfl) (by kernel_rfl) (by kernel_rfl) (fun _ _ _ h => h) (Or.inl ⟨by rfl, by intro W _; go_simp⟩) hS3 ?_
    simp only [Act.put, List.setIfInBounds_toArray, List.set_cons_zero, List.set_cons_succ]
    refine wpAnyH_takeD (i := 23) (v := undef) (some 27) rfl rfl (by kernel_rfl) (by kernel_rfl) (by kernel_rfl) (fun _ _ _ h => h) (Or.inr ⟨by rfl, rfl⟩) hS3 ?_
    simp only [Act.put, List.setIfInBounds_toArray, List.set_cons_zero, List.set_cons_succ]
    refine wpAnyH_takeD (i := 24) (v := undef) (some 28) rfl rfl (by kernel_rfl) (by kernel_rfl) (by kernel_rfl) (fun _ _ _ h => h) (Or.inr ⟨by rfl, rfl⟩) hS3 ?_
    simp only [Act.put, List.setIfInBounds_toArray, List.set_cons_zero, List.set_cons_succ]
    refine wpAnyH_takeD (i := 25) (v := undef) (some 29) rfl rfl (by kernel_rfl) (by kernel_rfl) (by kernel_rfl) (fun _ _ _ h => h) (Or.inr ⟨by rfl, rfl⟩) hS3 ?_
    simp only [Act.put, List.setIfInBounds_toArray, List.set_cons_zero, List.set_cons_succ]
    refine wpAnyH_takeD (i := 26) (v := undef) (some 30) rfl rfl (by kernel_rfl) (by kernel_rfl) (by kernel_rfl) (fun _ _ _ h => h) (Or.inr ⟨by rfl, rfl⟩) hS3 ?_
    simp only [Act.put, List.setIfInBounds_toArray, List.set_cons_zero, List.set_cons_succ]
    refine wpAnyH_takeD (i := 27) (v := undef) (some 31) rfl rfl (by kernel_rfl) (by kernel_rfl) (by kernel_rfl) (fun _ _ _ h => h) (Or.inr ⟨by rfl, rfl⟩) hS3 ?_
    simp only [Act.put, List.setIfInBounds_toArray, List.set_cons_zero, List.set_cons_succ]
    refine wpAnyH_takeD (i := 28) (v := undef) (some 32) rfl rfl (by kernel_rfl) (by kernel_rfl) (by kernel_rfl) (fun _ _ _ h => h) (Or.inr ⟨by rfl, rfl⟩) hS3 ?_
    simp only [Act.put, List.setIfInBounds_toArray, List.set_cons_zero, List.set_cons_succ]
    refine wpAnyH_takeD (i := 29) (v := undef) (some 33) rfl rfl (by kernel_rfl) (by kernel_rfl) (by kernel_rfl) (fun _ _ _ h => h) (Or.inr ⟨by rfl, rfl⟩) hS3 ?_
    simp only [Act.put, List.setIfInBounds_toArray, List.set_cons_zero, List.set_cons_succ]
    refine wpAnyH_takeD (i := 30) (v := undef) (some 34) rfl rfl (by kernel_rfl) (by kernel_rfl) (by kernel_rfl) (fun _ _ _ h => h) (Or.inr ⟨by rfl, rfl⟩) hS3 ?_
    simp only [Act.put, List.setIfInBounds_toArray, List.set_cons_zero, List.set_cons_succ]
    refine wpAnyH_takeD (i := 31) (v := .bool true) (some 35) rfl rfl (by kernel_rfl) (by kernel_rfl) (by kernel_rfl) (fun _ _ _ h => h) (Or.inl ⟨by rfl, by intro W _; go_simp⟩) hS3 ?_
    simp only [Act.put, List.setIfInBounds_toArray, List.set_cons_zero, List.set_cons_succ]
    refine wpAnyH_takeD (i := 32) (v := .bool true) (some 36) rfl rfl (by kernel_rfl) (by kernel_rfl) (by kernel_rfl) (fun _ _ _ h => h) (Or.inl ⟨by rfl, by intro W _; go_simp⟩) hS3 ?_
    simp only [Act.put, List.setIfInBounds_toArray, List.set_cons_zero, List.set_cons_succ]
    refine wpAnyH_takeD (i := 33) (v := undef) (some 37) rfl rfl (by kernel_rfl) (by kernel_rfl) (by kernel_rfl) (fun _ _ _ h => h) (Or.inr ⟨by rfl, rfl⟩) hS3 ?_
    simp only [Act.put, List.setIfInBounds_toArray, List.set_cons_zero, List.set_cons_succ]
    refine wpAnyH_takeD (i := 34) (v := undef) (some 38) rfl rfl (by kernel_rfl) (by kernel_rfl) (by kernel_rfl) (fun _ _ _ h => h) (Or.inr ⟨by rfl, rfl⟩) hS3 ?_
    simp only [Act.put, List.setIfInBounds_toArray, List.set_cons_zero, List.set_cons_succ]
    refine wpAnyH_takeD (i := 35) (v := undef) (some 39) rfl rfl (by kernel_rfl) (by kernel_rfl) (by kernel_rfl) (fun _ _ _ h => h) (Or.inr ⟨by rfl, rfl⟩) hS3 ?_
    simp only [Act.put, List.setIfInBounds_toArray, List.set_cons_zero, List.set_cons_succ]
    refine wpAnyH_takeD (i := 36) (v := undef) (some 40) rfl rfl (by kernel_rfl) (by kernel_rfl) (by kernel_rfl) (fun _ _ _ h => h) (Or.inr ⟨by rfl, rfl⟩) hS3 ?_
    simp only [Act.put, List.setIfInBounds_toArray, List.set_cons_zero, List.set_cons_succ]
    refine wpAnyH_takeD (i := 37) (v := undef) (some 41) rfl rfl (by kernel_rfl) (by kernel_rfl) (by kernel_rfl) (fun _ _ _ h => h) (Or.inr ⟨by rfl, rfl⟩) hS3 ?_
    simp only [Act.put, List.setIfInBounds_toArray, List.set_cons_zero, List.set_cons_succ]
    refine wpAnyH_takeD (i := 38) (v := undef) (some 42) rfl rfl (by kernel_rfl) (by kernel_rfl) (by kernel_rfl) (fun _ _ _ h => h) (Or.inr ⟨by rfl, rfl⟩) hS3 ?_
    simp only [Act.put, List.setIfInBounds_toArray, List.set_cons_zero, List.set_cons_succ]
    refine wpAnyH_takeD (i := 39) (v := undef) (some 43) rfl rfl (by kernel_rfl) (by kernel_rfl) (by kernel_rfl) (fun _ _ _ h => h) (Or.inr ⟨by rfl, rfl⟩) hS3 ?_
    simp only [Act.put, List.setIfInBounds_toArray, List.set_cons_zero, List.set_cons_succ]
    refine wpAnyH_takeD (i := 40) (v := .bool true) (some 44) rfl rfl (by kernel_rfl) (by kernel_rfl) (by kernel_rfl) (fun _ _ _ h => h) (Or.inl ⟨by rfl, by intro W _; go_simp⟩) hS3 ?_
    simp only [Act.put, List.setIfInBounds_toArray, List.set_cons_zero, List.set_cons_succ]
    clear hS3
    refine wpAnyH_done (by kernel_rfl) ?_ _
    go_wp2_with fail
    go_ret
    exact BoolIs.no HF.out hb3
  | true =>
    have HR : Hid (RespP st fs b) := htu1.1 rfl
    clear htu1
    refine wpAnyH_takeD (i := 3) (v := .bool false) (some 7) rfl rfl (by kernel_rfl) (by kernel_rfl) (by kernel_rfl) (fun _ _ _ h => h) (Or.inl ⟨by rfl, by intro W _; go_simp⟩) hS3 ?_
    simp only [Act.put, List.setIfInBounds_toArray, List.set_cons_zero, List.set_cons_succ]
    refine wpAnyH_takeD (i := 4) (v := .bool false) (some 8) rfl rfl (by kernel_rfl) (by kernel_rfl) (by kernel_rfl) (fun _ _ _ h => h) (Or.inl ⟨by rfl, by intro W _; go_simp⟩) hS3 ?_
    simp only [Act.put, List.setIfInBounds_toArray, List.set_cons_zero, List.set_cons_succ]
    refine wpAnyH_takeD (i := 5) (v := .pointer (some ⟨qv1, 0, none⟩)) (some 9) rfl rfl (by kernel_rfl) (by kernel_rfl) (by kernel_rfl) (fun _ _ _ h => h) (Or.inl ⟨by rfl, by intro W _; go_simp⟩) hS3 ?_
    simp only [Act.put, List.setIfInBounds_toArray, List.set_cons_zero, List.set_cons_succ]
    refine wpAnyH_takeD (i := 6) (v := .string p) (some 10) rfl rfl (by kernel_rfl) (by kernel_rfl) (by kernel_rfl) (fun _ _ _ h => h) (Or.inl ⟨by rfl, by intro W hW; have hhv1 := hW; have y0 := (cell_of hhv1 0).trans rfl; go_simp⟩) hS3 ?_
    simp only [Act.put, List.setIfInBounds_toArray, List.set_cons_zero, List.set_cons_succ]
    refine wpAnyH_ready (rs := [7]) (by kernel_rfl) (by simp) ?_
    refine AllReadyH.cons rfl (fun K hK => ?_) AllReadyH.nil
    go_simp
    refine (l3Path_any p _ HPM.out).mono ?_
    rintro e w4 ⟨u2, rfl, htu2, bw⟩
    have hb4 : Below w.heap.size w (w4) := hb3.trans (bw.mono hb3.size)
    have HM4 : Hid ((w3).heap.size ≤ (w4).heap.size) := bw.size
    have HBv1_4 : Hid ((w4).heap[qv1]? = some (.cells #[.string p, .slice o1 n1 c1, .slice o2 n2 c2, .int .i64 st, .slice o3 n3 c3, .string b, .int .i64 t] 41)) := blk_below HBv1_3.out bw
    clear hb3 HBv1_3 bw
    have hS4 : w4.heap[qv1]? = some (.cells #[.string p, .slice o1 n1 c1, .slice o2 n2 c2, .int .i64 st, .slice o3 n3 c3, .string b, .int .i64 t] 41) := HBv1_4.out
    refine hK.out _ _ hS4 (fun _ => ?_)
    clear hK K hS3
    cases u2 with
    | false =>
      have HF : Hid (¬ ObjP p xs ys st fs b t) := fun h => nomatch htu2.2 h.2.1
      clear htu2
      refine wpAnyH_takeD (i := 8) (v := .bool true) (some 12) rfl rfl (by kernel_rfl) (by kernel_rfl) (by kernel_rfl) (fun _ _ _ h => h) (Or.inl ⟨by rfl, by intro W _; go_simp⟩) hS4 ?_
      simp only [Act.put, List.setIfInBounds_toArray, List.set_cons_zero, List.set_cons_succ]
      refine wpAnyH_takeD (i := 9) (v := .bool true) (some 13) rfl rfl (by kernel_rfl) (by kernel_rfl) (by kernel_rfl) (fun _ _ _ h => h) (Or.inl ⟨by rfl, by intro W _; go_simp⟩) hS4 ?_
      simp only [Act.put, List.setIfInBounds_toArray, List.set_cons_zero, List.set_cons_succ]
      refine wpAnyH_takeD (i := 10) (v := .bool true) (some 14) rfl rfl (by kernel_rfl) (by kernel_rfl) (by kernel_rfl) (fun _ _ _ h => h) (Or.inl ⟨by rfl, by intro W _; go_simp⟩) hS4 ?_
      simp only [Act.put, List.setIfInBounds_toArray, List.set_cons_zero, List.set_cons_succ]
      refine wpAnyH_takeD (i := 11) (v := undef) (some 15) rfl rfl (by kernel_rfl) (by kernel_rfl) (by kernel_rfl) (fun _ _ _ h => h) (Or.inr ⟨by rfl, rfl⟩) hS4 ?_
      simp only [Act.put, List.setIfInBounds_toArray, List.set_cons_zero, List.set_cons_succ]
      refine wpAnyH_takeD (i := 12) (v := undef) (some 16) rfl rfl (by kernel_rfl) (by kernel_rfl) (by kernel_rfl) (fun _ _ _ h => h) (Or.inr ⟨by rfl, rfl⟩) hS4 ?_
      simp only [Act.put, List.setIfInBounds_toArray, List.set_cons_zero, List.set_cons_succ]
      refine wpAnyH_takeD (i := 13) (v := undef) (some 17) rfl rfl (by kernel_rfl) (by kernel_rfl) (by kernel_rfl) (fun _ _ _ h => h) (Or.inr ⟨by rfl, rfl⟩) hS4 ?_
      simp only [Act.put, List.setIfInBounds_toArray, List.set_cons_zero, List.set_cons_succ]
      refine wpAnyH_takeD (i := 14) (v := undef) (some 18) rfl rfl (by kernel_rfl) (by kernel_rfl) (by kernel_rfl) (fun _ _ _ h => h) (Or.inr ⟨by rfl, rfl⟩) hS4 ?_
      simp only [Act.put, List.setIfInBounds_toArray, List.set_cons_zero, List.set_cons_succ]
      refine wpAnyH_takeD (i := 15) (v := .bool true) (some 19) rfl rfl (by kernel_rfl) (by kernel_rfl) (by kernel_rfl) (fun _ _ _ h => h) (Or.inl ⟨by rfl, by intro W _; go_simp⟩) hS4 ?_
      simp only [Act.put, List.setIfInBounds_toArray, List.set_cons_zero, List.set_cons_succ]
      refine wpAnyH_takeD (i := 16) (v := .bool true) (some 20) rfl rfl (by kernel_rfl) (by kernel_rfl) (by kernel_rfl) (fun _ _ _ h => h) (Or.inl ⟨by rfl, by intro W _; go_simp⟩) hS4 ?_
      simp only [Act.put, List.setIfInBounds_toArray, List.set_cons_zero, List.set_cons_succ]
      refine wpAnyH_takeD (i := 17) (v := undef) (some 21) rfl rfl (by kernel_rfl) (by kernel_rfl) (by kernel_rfl) (fun _ _ _ h => h) (Or.inr ⟨by rfl, rfl⟩) hS4 ?_
      simp only [Act.put, List.setIfInBounds_toArray, List.set_cons_zero, List.set_cons_succ]
      refine wpAnyH_takeD (i := 18) (v := undef) (some 22) rfl rfl (by kernel_rfl) (by kernel_rfl) (by kernel_rfl) (fun _ _ _ h => h) (Or.inr ⟨by rfl, rfl⟩) hS4 ?_
      simp only [Act.put, List.setIfInBounds_toArray, List.set_cons_zero, List.set_cons_succ]
      refine wpAnyH_takeD (i := 19) (v := undef) (some 23) rfl rfl (by kernel_rfl) (by kernel_rfl) (by kernel_rfl) (fun _ _ _ h => h) (Or.inr ⟨by rfl, rfl⟩) hS4 ?_
      simp only [Act.put, List.setIfInBounds_toArray, List.set_cons_zero, List.set_cons_succ]
      refine wpAnyH_takeD (i := 20) (v := undef) (some 24) rfl rfl (by kernel_rfl) (by kernel_rfl) (by kernel_rfl) (fun _ _ _ h => h) (Or.inr ⟨by rfl, rfl⟩) hS4 ?_
      simp only [Act.put, List.setIfInBounds_toArray, List.set_cons_zero, List.set_cons_succ]
      refine wpAnyH_takeD (i := 21) (v := .bool true) (some 25) rfl rfl (by kernel_rfl) (by kernel_rfl) (by kernel_rfl) (fun _ _ _ h => h) (Or.inl ⟨by rfl, by intro W _; go_simp⟩) hS4 ?_
      simp only [Act.put, List.setIfInBounds_toArray, List.set_cons_zero, List.set_cons_succ]
      refine wpAnyH_takeD (i := 22) (v := .bool true) (some 26) rfl rfl (by kernel_rfl) (by kernel_rfl) (by kernel_rfl) (fun _ _ _ h => h) (Or.inl ⟨by rfl, by intro W _; go_simp⟩) hS4 ?_
      simp only [Act.put, List.setIfInBounds_toArray, List.set_cons_zero, List.set_cons_succ]
      refine wpAnyH_takeD (i := 23) (v := undef) (some 27) rfl rfl (by kernel_rfl) (by kernel_rfl) (by kernel_rfl) (fun _ _ _ h => h) (Or.inr ⟨by rfl, rfl⟩) hS4 ?_
      simp only [Act.put, List.setIfInBounds_toArray, List.set_cons_zero, List.set_cons_succ]
      refine wpAnyH_takeD (i := 24) (v := undef) (some 28) rfl rfl (by kernel_rfl) (by kernel_rfl) (by kernel_rfl) (fun _ _ _ h => h) (Or.inr ⟨by rfl, rfl⟩) hS4 ?_
      simp only [Act.put, List.setIfInBounds_toArray, List.set_cons_zero, List.set_cons_succ]
      refine wpAnyH_takeD (i := 25) (v := undef) (some 29) rfl rfl (by kernel_rfl) (by kernel_rfl) (by kernel_rfl) (fun _ _ _ h => h) (Or.inr ⟨by rfl, rfl⟩) hS4 ?_
      simp only [Act.put, List.setIfInBounds_toArray, List.set_cons_zero, List.set_cons_succ]
      refine wpAnyH_takeD (i := 26) (v := undef) (some 30) rfl rfl (by kernel_rfl) (by kernel_rfl) (by kernel_rfl) (fun _ _ _ h => h) (Or.inr ⟨by rfl, rfl⟩) hS4 ?_
      simp only [Act.put, List.setIfInBounds_toArray, List.set_cons_zero, List.set_cons_succ]
      refine wpAnyH_takeD (i := 27) (v := undef) (some 31) rfl rfl (by kernel_rfl) (by kernel_rfl) (by kernel_rfl) (fun _ _ _ h => h) (Or.inr ⟨by rfl, rfl⟩) hS4 ?_
      simp only [Act.put, List.setIfInBounds_toArray, List.set_cons_zero, List.set_cons_succ]
      refine wpAnyH_takeD (i := 28) (v := undef) (some 32) rfl rfl (by kernel_rfl) (by kernel_rfl) (by kernel_rfl) (fun _ _ _ h => h) (Or.inr ⟨by rfl, rfl⟩) hS4 ?_
      simp only [Act.put, List.setIfInBounds_toArray, List.set_cons_zero, List.set_cons_succ]
      refine wpAnyH_takeD (i := 29) (v := undef) (some 33) rfl rfl (by kernel_rfl) (by kernel_rfl) (by kernel_rfl) (fun _ _ _ h => h) (Or.inr ⟨by rfl, rfl⟩) hS4 ?_
      simp only [Act.put, List.setIfInBounds_toArray, List.set_cons_zero, List.set_cons_succ]
      refine wpAnyH_takeD (i := 30) (v := undef) (some 34) rfl rfl (by kernel_rfl) (by kernel_rfl) (by kernel_rfl) (fun _ _ _ h => h) (Or.inr ⟨by rfl, rfl⟩) hS4 ?_
      simp only [Act.put, List.setIfInBounds_toArray, List.set_cons_zero, List.set_cons_succ]
      refine wpAnyH_takeD (i := 31) (v := .bool true) (some 35) rfl rfl (by kernel_rfl) (by kernel_rfl) (by kernel_rfl) (fun _ _ _ h => h) (Or.inl ⟨by rfl, by intro W _; go_simp⟩) hS4 ?_
      simp only [Act.put, List.setIfInBounds_toArray, List.set_cons_zero, List.set_cons_succ]
      refine wpAnyH_takeD (i := 32) (v := .bool true) (some 36) rfl rfl (by kernel_rfl) (by kernel_rfl) (by kernel_rfl) (fun _ _ _ h => h) (Or.inl ⟨by rfl, by intro W _; go_simp⟩) hS4 ?_
      simp only [Act.put, List.setIfInBounds_toArray, List.set_cons_zero, List.set_cons_succ]
      refine wpAnyH_takeD (i := 33) (v := undef) (some 37) rfl rfl (by kernel_rfl) (by kernel_rfl) (by kernel_rfl) (fun _ _ _ h => h) (Or.inr ⟨by rfl, rfl⟩) hS4 ?_
      simp only [Act.put, List.setIfInBounds_toArray, List.set_cons_zero, List.set_cons_succ]
      refine wpAnyH_takeD (i := 34) (v := undef) (some 38) rfl rfl (by kernel_rfl) (by kernel_rfl) (by kernel_rfl) (fun _ _ _ h => h) (Or.inr ⟨by rfl, rfl⟩) hS4 ?_
      simp only [Act.put, List.setIfInBounds_toArray, List.set_cons_zero, List.set_cons_succ]
      refine wpAnyH_takeD (i := 35) (v := undef) (some 39) rfl rfl (by kernel_rfl) (by kernel_rfl) (by kernel_rfl) (fun _ _ _ h => h) (Or.inr ⟨by rfl, rfl⟩) hS4 ?_
      simp only [Act.put, List.setIfInBounds_toArray, List.set_cons_zero, List.set_cons_succ]
      refine wpAnyH_takeD (i := 36) (v := undef) (some 40) rfl rfl (by kernel_rfl) (by kernel_rfl) (by kernel_rfl) (fun _ _ _ h => h) (Or.inr ⟨by rfl, rfl⟩) hS4 ?_
      simp only [Act.put, List.setIfInBounds_toArray, List.set_cons_zero, List.set_cons_succ]
      refine wpAnyH_takeD (i := 37) (v := undef) (some 41) rfl rfl (by kernel_rfl) (by kernel_rfl) (by kernel_rfl) (fun _ _ _ h => h) (Or.inr ⟨by rfl, rfl⟩) hS4 ?_
      simp only [Act.put, List.setIfInBounds_toArray, List.set_cons_zero, List.set_cons_succ]
      refine wpAnyH_takeD (i := 38) (v := undef) (some 42) rfl rfl (by kernel_rfl) (by kernel_rfl) (by kernel_rfl) (fun _ _ _ h => h) (Or.inr ⟨by rfl, rfl⟩) hS4 ?_
      simp only [Act.put, List.setIfInBounds_toArray, List.set_cons_zero, List.set_cons_succ]
      refine wpAnyH_takeD (i := 39) (v := undef) (some 43) rfl rfl (by kernel_rfl) (by kernel_rfl) (by kernel_rfl) (fun _ _ _ h => h) (Or.inr ⟨by rfl, rfl⟩) hS4 ?_
      simp only [Act.put, List.setIfInBounds_toArray, List.set_cons_zero, List.set_cons_succ]
      refine wpAnyH_takeD (i := 40) (v := .bool true) (some 44) rfl rfl (by kernel_rfl) (by kernel_rfl) (by kernel_rfl) (fun _ _ _ h => h) (Or.inl ⟨by rfl, by intro W _; go_simp⟩) hS4 ?_
      simp only [Act.put, List.setIfInBounds_toArray, List.set_cons_zero, List.set_cons_succ]
      clear hS4
      refine wpAnyH_done (by kernel_rfl) ?_ _
      go_wp2_with fail
      go_ret
      exact BoolIs.no HF.out hb4
    | true =>
      have HP : Hid (PathOk p) := htu2.1 rfl
      clear htu2
      refine wpAnyH_takeD (i := 8) (v := .bool false) (some 12) rfl rfl (by kernel_rfl) (by kernel_rfl) (by kernel_rfl) (fun _ _ _ h => h) (Or.inl ⟨by rfl, by intro W _; go_simp⟩) hS4 ?_
      simp only [Act.put, List.setIfInBounds_toArray, List.set_cons_zero, List.set_cons_succ]
      refine wpAnyH_takeD (i := 9) (v := .bool false) (some 13) rfl rfl (by kernel_rfl) (by kernel_rfl) (by kernel_rfl) (fun _ _ _ h => h) (Or.inl ⟨by rfl, by intro W _; go_simp⟩) hS4 ?_
      simp only [Act.put, List.setIfInBounds_toArray, List.set_cons_zero, List.set_cons_succ]
      refine wpAnyH_takeD (i := 10) (v := .bool false) (some 14) rfl rfl (by kernel_rfl) (by kernel_rfl) (by kernel_rfl) (fun _ _ _ h => h) (Or.inl ⟨by rfl, by intro W _; go_simp⟩) hS4 ?_
      simp only [Act.put, List.setIfInBounds_toArray, List.set_cons_zero, List.set_cons_succ]
      refine wpAnyH_takeD (i := 11) (v := .pointer (some ⟨qv1, 6, none⟩)) (some 15) rfl rfl (by kernel_rfl) (by kernel_rfl) (by kernel_rfl) (fun _ _ _ h => h) (Or.inl ⟨by rfl, by intro W _; go_simp⟩) hS4 ?_
      simp only [Act.put, List.setIfInBounds_toArray, List.set_cons_zero, List.set_cons_succ]
      refine wpAnyH_takeD (i := 12) (v := .int .i64 t) (some 16) rfl rfl (by kernel_rfl) (by kernel_rfl) (by kernel_rfl) (fun _ _ _ h => h) (Or.inl ⟨by rfl, by intro W hW; have hhv1 := hW; have y6 := (cell_of hhv1 6).trans rfl; go_simp⟩) hS4 ?_
      simp only [Act.put, List.setIfInBounds_toArray, List.set_cons_zero, List.set_cons_succ]
      refine wpAnyH_ready (rs := [13]) (by kernel_rfl) (by simp) ?_
      refine AllReadyH.cons rfl (fun K hK => ?_) AllReadyH.nil
      go_simp
      refine (l1In_any t 0 1000000 _).mono ?_
      rintro e w5 ⟨rfl, hwe⟩
      have bw : Below (w4).heap.size (w4) w5 := by rw [hwe]; exact Below.refl _ _
      clear hwe
      obtain ⟨u3, hu3⟩ : ∃ u3, u3 = decide ((0 : Int) ≤ t ∧ t ≤ 1000000) := ⟨_, rfl⟩
      rw [← hu3]
      have hb5 : Below w.heap.size w (w5) := hb4.trans (bw.mono hb4.size)
      have HM5 : Hid ((w4).heap.size ≤ (w5).heap.size) := bw.size
      have HBv1_5 : Hid ((w5).heap[qv1]? = some (.cells #[.string p, .slice o1 n1 c1, .slice o2 n2 c2, .int .i64 st, .slice o3 n3 c3, .string b, .int .i64 t] 41)) := blk_below HBv1_4.out bw
      clear hb4 HBv1_4 bw
      have hS5 : w5.heap[qv1]? = some (.cells #[.string p, .slice o1 n1 c1, .slice o2 n2 c2, .int .i64 st, .slice o3 n3 c3, .string b, .int .i64 t] 41) := HBv1_5.out
      refine hK.out _ _ hS5 (fun _ => ?_)
      clear hK K hS4
      cases u3 with
      | false =>
        have HF : Hid (¬ ObjP p xs ys st fs b t) := fun h => absurd h.2.2.1 (of_decide_eq_false hu3.symm)
        clear hu3
        refine wpAnyH_takeD (i := 14) (v := .bool true) (some 18) rfl rfl (by kernel_rfl) (by kernel_rfl) (by kernel_rfl) (fun _ _ _ h => h) (Or.inl ⟨by rfl, by intro W _; go_simp⟩) hS5 ?_
        simp only [Act.put, List.setIfInBounds_toArray, List.set_cons_zero, List.set_cons_succ]
        refine wpAnyH_takeD (i := 15) (v := .bool true) (some 19) rfl rfl (by kernel_rfl) (by kernel_rfl) (by kernel_rfl) (fun _ _ _ h => h) (Or.inl ⟨by rfl, by intro W _; go_simp⟩) hS5 ?_
        simp only [Act.put, List.setIfInBounds_toArray, List.set_cons_zero, List.set_cons_succ]
        refine wpAnyH_takeD (i := 16) (v := .bool true) (some 20) rfl rfl (by kernel_rfl) (by kernel_rfl) (by kernel_rfl) (fun _ _ _ h => h) (Or.inl ⟨by rfl, by intro W _; go_simp⟩) hS5 ?_
        simp only [Act.put, List.setIfInBounds_toArray, List.set_cons_zero, List.set_cons_succ]
        refine wpAnyH_takeD (i := 17) (v := undef) (some 21) rfl rfl (by kernel_rfl) (by kernel_rfl) (by kernel_rfl) (fun _ _ _ h => h) (Or.inr ⟨by rfl, rfl⟩) hS5 ?_
        simp only [Act.put, List.setIfInBounds_toArray, List.set_cons_zero, List.set_cons_succ]
        refine wpAnyH_takeD (i := 18) (v := undef) (some 22) rfl rfl (by kernel_rfl) (by kernel_rfl) (by kernel_rfl) (fun _ _ _ h => h) (Or.inr ⟨by rfl, rfl⟩) hS5 ?_
        simp only [Act.put, List.setIfInBounds_toArray, List.set_cons_zero, List.set_cons_succ]
        refine wpAnyH_takeD (i := 19) (v := undef) (some 23) rfl rfl (by kernel_rfl) (by kernel_rfl) (by kernel_rfl) (fun _ _ _ h => h) (Or.inr ⟨by rfl, rfl⟩) hS5 ?_
        simp only [Act.put, List.setIfInBounds_toArray, List.set_cons_zero, List.set_cons_succ]
        refine wpAnyH_takeD (i := 20) (v := undef) (some 24) rfl rfl (by kernel_rfl) (by kernel_rfl) (by kernel_rfl) (fun _ _ _ h => h) (Or.inr ⟨by rfl, rfl⟩) hS5 ?_
        simp only [Act.put, List.setIfInBounds_toArray, List.set_cons_zero, List.set_cons_succ]
        refine wpAnyH_takeD (i := 21) (v := .bool true) (some 25) rfl rfl (by kernel_rfl) (by kernel_rfl) (by kernel_rfl) (fun _ _ _ h => h) (Or.inl ⟨by rfl, by intro W _; go_simp⟩) hS5 ?_
        simp only [Act.put, List.setIfInBounds_toArray, List.set_cons_zero, List.set_cons_succ]
        refine wpAnyH_takeD (i := 22) (v := .bool true) (some 26) rfl rfl (by kernel_rfl) (by kernel_rfl) (by kernel_rfl) (fun _ _ _ h => h) (Or.inl ⟨by rfl, by intro W _; go_simp⟩) hS5 ?_
        simp only [Act.put, List.setIfInBounds_toArray, List.set_cons_zero, List.set_cons_succ]
        refine wpAnyH_takeD (i := 23) (v := undef) (some 27) rfl rfl (by kernel_rfl) (by kernel_rfl) (by kernel_rfl) (fun _ _ _ h => h) (Or.inr ⟨by rfl, rfl⟩) hS5 ?_
        simp only [Act.put, List.setIfInBounds_toArray, List.set_cons_zero, List.set_cons_succ]
        refine wpAnyH_takeD (i := 24) (v := undef) (some 28) rfl rfl (by kernel_rfl) (by kernel_rfl) (by kernel_rfl) (fun _ _ _ h => h) (Or.inr ⟨by rfl, rfl⟩) hS5 ?_
        simp only [Act.put, List.setIfInBounds_toArray, List.set_cons_zero, List.set_cons_succ]
        refine wpAnyH_takeD (i := 25) (v := undef) (some 29) rfl rfl (by kernel_rfl) (by kernel_rfl) (by kernel_rfl) (fun _ _ _ h => h) (Or.inr ⟨by rfl, rfl⟩) hS5 ?_
        simp only [Act.put, List.setIfInBounds_toArray, List.set_cons_zero, List.set_cons_succ]
        refine wpAnyH_takeD (i := 26) (v := undef) (some 30) rfl rfl (by kernel_rfl) (by kernel_rfl) (by kernel_rfl) (fun _ _ _ h => h) (Or.inr ⟨by rfl, rfl⟩) hS5 ?_
        simp only [Act.put, List.setIfInBounds_toArray, List.set_cons_zero, List.set_cons_succ]
        refine wpAnyH_takeD (i := 27) (v := undef) (some 31) rfl rfl (by kernel_rfl) (by kernel_rfl) (by kernel_rfl) (fun _ _ _ h => h) (Or.inr ⟨by rfl, rfl⟩) hS5 ?_
        simp only [Act.put, List.setIfInBounds_toArray, List.set_cons_zero, List.set_cons_succ]
        refine wpAnyH_takeD (i := 28) (v := undef) (some 32) rfl rfl (by kernel_rfl) (by kernel_rfl) (by kernel_rfl) (fun _ _ _ h => h) (Or.inr ⟨by rfl, rfl⟩) hS5 ?_
        simp only [Act.put, List.setIfInBounds_toArray, List.set_cons_zero, List.set_cons_succ]
        refine wpAnyH_takeD (i := 29) (v := undef) (some 33) rfl rfl (by kernel_rfl) (by kernel_rfl) (by kernel_rfl) (fun _ _ _ h => h) (Or.inr ⟨by rfl, rfl⟩) hS5 ?_
        simp only [Act.put, List.setIfInBounds_toArray, List.set_cons_zero, List.set_cons_succ]
        refine wpAnyH_takeD (i := 30) (v := undef) (some 34) rfl rfl (by kernel_rfl) (by kernel_rfl) (by kernel_rfl) (fun _ _ _ h => h) (Or.inr ⟨by rfl, rfl⟩) hS5 ?_
        simp only [Act.put, List.setIfInBounds_toArray, List.set_cons_zero, List.set_cons_succ]
        refine wpAnyH_takeD (i := 31) (v := .bool true) (some 35) rfl rfl (by kernel_rfl) (by kernel_rfl) (by kernel_rfl) (fun _ _ _ h => h) (Or.inl ⟨by rfl, by intro W _; go_simp⟩) hS5 ?_
        simp only [Act.put, List.setIfInBounds_toArray, List.set_cons_zero, List.set_cons_succ]
        refine wpAnyH_takeD (i := 32) (v := .bool true) (some 36) rfl rfl (by kernel_rfl) (by kernel_rfl) (by kernel_rfl) (fun _ _ _ h => h) (Or.inl ⟨by rfl, by intro W _; go_simp⟩) hS5 ?_
        simp only [Act.put, List.setIfInBounds_toArray, List.set_cons_zero, List.set_cons_succ]
        refine wpAnyH_takeD (i := 33) (v := undef) (some 37) rfl rfl (by kernel_rfl) (by kernel_rfl) (by kernel_rfl) (fun _ _ _ h => h) (Or.inr ⟨by rfl, rfl⟩) hS5 ?_
        simp only [Act.put, List.setIfInBounds_toArray, List.set_cons_zero, List.set_cons_succ]
        refine wpAnyH_takeD (i := 34) (v := undef) (some 38) rfl rfl (by kernel_rfl) (by kernel_rfl) (by kernel_rfl) (fun _ _ _ h => h) (Or.inr ⟨by rfl, rfl⟩) hS5 ?_
        simp only [Act.put, List.setIfInBounds_toArray, List.set_cons_zero, List.set_cons_succ]
        refine wpAnyH_takeD (i := 35) (v := undef) (some 39) rfl rfl (by kernel_rfl) (by kernel_rfl) (by kernel_rfl) (fun _ _ _ h => h) (Or.inr ⟨by rfl, rfl⟩) hS5 ?_
        simp only [Act.put, List.setIfInBounds_toArray, List.set_cons_zero, List.set_cons_succ]
        refine wpAnyH_takeD (i := 36) (v := undef) (some 40) rfl rfl (by kernel_rfl) (by kernel_rfl) (by kernel_rfl) (fun _ _ _ h => h) (Or.inr ⟨by rfl, rfl⟩) hS5 ?_
        simp only [Act.put, List.setIfInBounds_toArray, List.set_cons_zero, List.set_cons_succ]
        refine wpAnyH_takeD (i := 37) (v := undef) (some 41) rfl rfl (by kernel_rfl) (by kernel_rfl) (by kernel_rfl) (fun _ _ _ h => h) (Or.inr ⟨by rfl, rfl⟩) hS5 ?_
        simp only [Act.put, List.setIfInBounds_toArray, List.set_cons_zero, List.set_cons_succ]
        refine wpAnyH_takeD (i := 38) (v := undef) (some 42) rfl rfl (by kernel_rfl) (by kernel_rfl) (by kernel_rfl) (fun _ _ _ h => h) (Or.inr ⟨by rfl, rfl⟩) hS5 ?_
        simp only [Act.put, List.setIfInBounds_toArray, List.set_cons_zero, List.set_cons_succ]
        refine wpAnyH_takeD (i := 39) (v := undef) (some 43) rfl rfl (by kernel_rfl) (by kernel_rfl) (by kernel_rfl) (fun _ _ _ h => h) (Or.inr ⟨by rfl, rfl⟩) hS5 ?_
        simp only [Act.put, List.setIfInBounds_toArray, List.set_cons_zero, List.set_cons_succ]
        refine wpAnyH_takeD (i := 40) (v := .bool true) (some 44) rfl rfl (by kernel_rfl) (by kernel_rfl) (by kernel_rfl) (fun _ _ _ h => h) (Or.inl ⟨by rfl, by intro W _; go_simp⟩) hS5 ?_
        simp only [Act.put, List.setIfInBounds_toArray, List.set_cons_zero, List.set_cons_succ]
        clear hS5
        refine wpAnyH_done (by kernel_rfl) ?_ _
        go_wp2_with fail
        go_ret
        exact BoolIs.no HF.out hb5
      | true =>
        have HT : Hid (0 ≤ t ∧ t ≤ 1000000) := (show 0 ≤ t ∧ t ≤ 1000000 from of_decide_eq_true hu3.symm)
        clear hu3
        refine wpAnyH_takeD (i := 14) (v := .bool false) (some 18) rfl rfl (by kernel_rfl) (by kernel_rfl) (by kernel_rfl) (fun _ _ _ h => h) (Or.inl ⟨by rfl, by intro W _; go_simp⟩) hS5 ?_
        simp only [Act.put, List.setIfInBounds_toArray, List.set_cons_zero, List.set_cons_succ]
        refine wpAnyH_takeD (i := 15) (v := .bool false) (some 19) rfl rfl (by kernel_rfl) (by kernel_rfl) (by kernel_rfl) (fun _ _ _ h => h) (Or.inl ⟨by rfl, by intro W _; go_simp⟩) hS5 ?_
        simp only [Act.put, List.setIfInBounds_toArray, List.set_cons_zero, List.set_cons_succ]
        refine wpAnyH_takeD (i := 16) (v := .bool false) (some 20) rfl rfl (by kernel_rfl) (by kernel_rfl) (by kernel_rfl) (fun _ _ _ h => h) (Or.inl ⟨by rfl, by intro W _; go_simp⟩) hS5 ?_
        simp only [Act.put, List.setIfInBounds_toArray, List.set_cons_zero, List.set_cons_succ]
        refine wpAnyH_takeD (i := 17) (v := .pointer (some ⟨qv1, 1, none⟩)) (some 21) rfl rfl (by kernel_rfl) (by kernel_rfl) (by kernel_rfl) (fun _ _ _ h => h) (Or.inl ⟨by rfl, by intro W _; go_simp⟩) hS5 ?_
        simp only [Act.put, List.setIfInBounds_toArray, List.set_cons_zero, List.set_cons_succ]
        refine wpAnyH_takeD (i := 18) (v := .slice o1 n1 c1) (some 22) rfl rfl (by kernel_rfl) (by kernel_rfl) (by kernel_rfl) (fun _ _ _ h => h) (Or.inl ⟨by rfl, by intro W hW; have hhv1 := hW; have y1 := (cell_of hhv1 1).trans rfl; go_simp⟩) hS5 ?_
        simp only [Act.put, List.setIfInBounds_toArray, List.set_cons_zero, List.set_cons_succ]
        refine wpAnyH_ready (rs := [19]) (by kernel_rfl) (by simp) ?_
        refine AllReadyH.cons rfl (fun K hK => ?_) AllReadyH.nil
        go_simp
        refine (l9Names_any _ _ _ xs _ (HV1.out _ hb5) (by omega) HS1.out).mono ?_
        rintro e w6 ⟨u4, rfl, htu4, bw⟩
        have hb6 : Below w.heap.size w (w6) := hb5.trans (bw.mono hb5.size)
        have HM6 : Hid ((w5).heap.size ≤ (w6).heap.size) := bw.size
        have HBv1_6 : Hid ((w6).heap[qv1]? = some (.cells #[.string p, .slice o1 n1 c1, .slice o2 n2 c2, .int .i64 st, .slice o3 n3 c3, .string b, .int .i64 t] 41)) := blk_below HBv1_5.out bw
        clear hb5 HBv1_5 bw
        have hS6 : w6.heap[qv1]? = some (.cells #[.string p, .slice o1 n1 c1, .slice o2 n2 c2, .int .i64 st, .slice o3 n3 c3, .string b, .int .i64 t] 41) := HBv1_6.out
        refine hK.out _ _ hS6 (fun _ => ?_)
        clear hK K hS5
        cases u4 with
        | false =>
          have HF : Hid (¬ ObjP p xs ys st fs b t) := fun h => nomatch htu4.2 h.2.2.2.1
          clear htu4
          refine wpAnyH_takeD (i := 20) (v := .bool true) (some 24) rfl rfl (by kernel_rfl) (by kernel_rfl) (by kernel_rfl) (fun _ _ _ h => h) (Or.inl ⟨by rfl, by intro W _; go_simp⟩) hS6 ?_
          simp only [Act.put, List.setIfInBounds_toArray, List.set_cons_zero, List.set_cons_succ]
          refine wpAnyH_takeD (i := 21) (v := .bool true) (some 25) rfl rfl (by kernel_rfl) (by kernel_rfl) (by kernel_rfl) (fun _ _ _ h => h) (Or.inl ⟨by rfl, by intro W _; go_simp⟩) hS6 ?_
          simp only [Act.put, List.setIfInBounds_toArray, List.set_cons_zero, List.set_cons_succ]
          refine wpAnyH_takeD (i := 22) (v := .bool true) (some 26) rfl rfl (by kernel_rfl) (by kernel_rfl) (by kernel_rfl) (fun _ _ _ h => h) (Or.inl ⟨by rfl, by intro W _; go_simp⟩) hS6 ?_
          simp only [Act.put, List.setIfInBounds_toArray, List.set_cons_zero, List.set_cons_succ]
          refine wpAnyH_takeD (i := 23) (v := undef) (some 27) rfl rfl (by kernel_rfl) (by kernel_rfl) (by kernel_rfl) (fun _ _ _ h => h) (Or.inr ⟨by rfl, rfl⟩) hS6 ?_
          simp only [Act.put, List.setIfInBounds_toArray, List.set_cons_zero, List.set_cons_succ]
          refine wpAnyH_takeD (i := 24) (v := undef) (some 28) rfl rfl (by kernel_rfl) (by kernel_rfl) (by kernel_rfl) (fun _ _ _ h => h) (Or.inr ⟨by rfl, rfl⟩) hS6 ?_
          simp only [Act.put, List.setIfInBounds_toArray, List.set_cons_zero, List.set_cons_succ]
          refine wpAnyH_takeD (i := 25) (v := undef) (some 29) rfl rfl (by kernel_rfl) (by kernel_rfl) (by kernel_rfl) (fun _ _ _ h => h) (Or.inr ⟨by rfl, rfl⟩) hS6 ?_
          simp only [Act.put, List.setIfInBounds_toArray, List.set_cons_zero, List.set_cons_succ]
          refine wpAnyH_takeD (i := 26) (v := undef) (some 30) rfl rfl (by kernel_rfl) (by kernel_rfl) (by kernel_rfl) (fun _ _ _ h => h) (Or.inr ⟨by rfl, rfl⟩) hS6 ?_
          simp only [Act.put, List.setIfInBounds_toArray, List.set_cons_zero, List.set_cons_succ]
          refine wpAnyH_takeD (i := 27) (v := undef) (some 31) rfl rfl (by kernel_rfl) (by kernel_rfl) (by kernel_rfl) (fun _ _ _ h => h) (Or.inr ⟨by rfl, rfl⟩) hS6 ?_
          simp only [Act.put, List.setIfInBounds_toArray, List.set_cons_zero, List.set_cons_succ]
          refine wpAnyH_takeD (i := 28) (v := undef) (some 32) rfl rfl (by kernel_rfl) (by kernel_rfl) (by kernel_rfl) (fun _ _ _ h => h) (Or.inr ⟨by rfl, rfl⟩) hS6 ?_
          simp only [Act.put, List.setIfInBounds_toArray, List.set_cons_zero, List.set_cons_succ]
          refine wpAnyH_takeD (i := 29) (v := undef) (some 33) rfl rfl (by kernel_rfl) (by kernel_rfl) (by kernel_rfl) (fun _ _ _ h => h) (Or.inr ⟨by rfl, rfl⟩) hS6 ?_
          simp only [Act.put, List.setIfInBounds_toArray, List.set_cons_zero, List.set_cons_succ]
          refine wpAnyH_takeD (i := 30) (v := undef) (some 34) rfl rfl (by kernel_rfl) (by kernel_rfl) (by kernel_rfl) (fun _ _ _ h => h) (Or.inr ⟨by rfl, rfl⟩) hS6 ?_
          simp only [Act.put, List.setIfInBounds_toArray, List.set_cons_zero, List.set_cons_succ]
          refine wpAnyH_takeD (i := 31) (v := .bool true) (some 35) rfl rfl (by kernel_rfl) (by kernel_rfl) (by kernel_rfl) (fun _ _ _ h => h) (Or.inl ⟨by rfl, by intro W _; go_simp⟩) hS6 ?_
          simp only [Act.put, List.setIfInBounds_toArray, List.set_cons_zero, List.set_cons_succ]
          refine wpAnyH_takeD (i := 32) (v := .bool true) (some 36) rfl rfl (by kernel_rfl) (by kernel_rfl) (by kernel_rfl) (fun _ _ _ h => h) (Or.inl ⟨by rfl, by intro W _; go_simp⟩) hS6 ?_
          simp only [Act.put, List.setIfInBounds_toArray, List.set_cons_zero, List.set_cons_succ]
          refine wpAnyH_takeD (i := 33) (v := undef) (some 37) rfl rfl (by kernel_rfl) (by kernel_rfl) (by kernel_rfl) (fun _ _ _ h => h) (Or.inr ⟨by rfl, rfl⟩) hS6 ?_
          simp only [Act.put, List.setIfInBounds_toArray, List.set_cons_zero, List.set_cons_succ]
          refine wpAnyH_takeD (i := 34) (v := undef) (some 38) rfl rfl (by kernel_rfl) (by kernel_rfl) (by kernel_rfl) (fun _ _ _ h => h) (Or.inr ⟨by rfl, rfl⟩) hS6 ?_
          simp only [Act.put, List.setIfInBounds_toArray, List.set_cons_zero, List.set_cons_succ]
          refine wpAnyH_takeD (i := 35) (v := undef) (some 39) rfl rfl (by kernel_rfl) (by kernel_rfl) (by kernel_rfl) (fun _ _ _ h => h) (Or.inr ⟨by rfl, rfl⟩) hS6 ?_
          simp only [Act.put, List.setIfInBounds_toArray, List.set_cons_zero, List.set_cons_succ]
          refine wpAnyH_takeD (i := 36) (v := undef) (some 40) rfl rfl (by kernel_rfl) (by kernel_rfl) (by kernel_rfl) (fun _ _ _ h => h) (Or.inr ⟨by rfl, rfl⟩) hS6 ?_
          simp only [Act.put, List.setIfInBounds_toArray, List.set_cons_zero, List.set_cons_succ]
          refine wpAnyH_takeD (i := 37) (v := undef) (some 41) rfl rfl (by kernel_rfl) (by kernel_rfl) (by kernel_rfl) (fun _ _ _ h => h) (Or.inr ⟨by rfl, rfl⟩) hS6 ?_
          simp only [Act.put, List.setIfInBounds_toArray, List.set_cons_zero, List.set_cons_succ]
          refine wpAnyH_takeD (i := 38) (v := undef) (some 42) rfl rfl (by kernel_rfl) (by kernel_rfl) (by kernel_rfl) (fun _ _ _ h => h) (Or.inr ⟨by rfl, rfl⟩) hS6 ?_
          simp only [Act.put, List.setIfInBounds_toArray, List.set_cons_zero, List.set_cons_succ]
          refine wpAnyH_takeD (i := 39) (v := undef) (some 43) rfl rfl (by kernel_rfl) (by kernel_rfl) (by kernel_rfl) (fun _ _ _ h => h) (Or.inr ⟨by rfl, rfl⟩) hS6 ?_
          simp only [Act.put, List.setIfInBounds_toArray, List.set_cons_zero, List.set_cons_succ]
          refine wpAnyH_takeD (i := 40) (v := .bool true) (some 44) rfl rfl (by kernel_rfl) (by kernel_rfl) (by kernel_rfl) (fun _ _ _ h => h) (Or.inl ⟨by rfl, by intro W _; go_simp⟩) hS6 ?_
          simp only [Act.put, List.setIfInBounds_toArray, List.set_cons_zero, List.set_cons_succ]
          clear hS6
          refine wpAnyH_done (by kernel_rfl) ?_ _
          go_wp2_with fail
          go_ret
          exact BoolIs.no HF.out hb6
        | true =>
          have HNM : Hid (NamesP xs) := htu4.1 rfl
          clear htu4
          refine wpAnyH_takeD (i := 20) (v := .bool false) (some 24) rfl rfl (by kernel_rfl) (by kernel_rfl) (by kernel_rfl) (fun _ _ _ h => h) (Or.inl ⟨by rfl, by intro W _; go_simp⟩) hS6 ?_
          simp only [Act.put, List.setIfInBounds_toArray, List.set_cons_zero, List.set_cons_succ]
          refine wpAnyH_takeD (i := 21) (v := .bool false) (some 25) rfl rfl (by kernel_rfl) (by kernel_rfl) (by kernel_rfl) (fun _ _ _ h => h) (Or.inl ⟨by rfl, by intro W _; go_simp⟩) hS6 ?_
          simp only [Act.put, List.setIfInBounds_toArray, List.set_cons_zero, List.set_cons_succ]
          refine wpAnyH_takeD (i := 22) (v := .bool false) (some 26) rfl rfl (by kernel_rfl) (by kernel_rfl) (by kernel_rfl) (fun _ _ _ h => h) (Or.inl ⟨by rfl, by intro W _; go_simp⟩) hS6 ?_
          simp only [Act.put, List.setIfInBounds_toArray, List.set_cons_zero, List.set_cons_succ]
          refine wpAnyH_takeD (i := 23) (v := .pointer (some ⟨qv1, 1, none⟩)) (some 27) rfl rfl (by kernel_rfl) (by kernel_rfl) (by kernel_rfl) (fun _ _ _ h => h) (Or.inl ⟨by rfl, by intro W _; go_simp⟩) hS6 ?_
          simp only [Act.put, List.setIfInBounds_toArray, List.set_cons_zero, List.set_cons_succ]
          refine wpAnyH_takeD (i := 24) (v := .slice o1 n1 c1) (some 28) rfl rfl (by kernel_rfl) (by kernel_rfl) (by kernel_rfl) (fun _ _ _ h => h) (Or.inl ⟨by rfl, by intro W hW; have hhv1 := hW; have y1 := (cell_of hhv1 1).trans rfl; go_simp⟩) hS6 ?_
          simp only [Act.put, List.setIfInBounds_toArray, List.set_cons_zero, List.set_cons_succ]
          refine wpAnyH_takeD (i := 25) (v := .pointer (some ⟨qv1, 3, none⟩)) (some 29) rfl rfl (by kernel_rfl) (by kernel_rfl) (by kernel_rfl) (fun _ _ _ h => h) (Or.inl ⟨by rfl, by intro W _; go_simp⟩) hS6 ?_
          simp only [Act.put, List.setIfInBounds_toArray, List.set_cons_zero, List.set_cons_succ]
          refine wpAnyH_takeD (i := 26) (v := .pointer (some ⟨qv1, 4, none⟩)) (some 30) rfl rfl (by kernel_rfl) (by kernel_rfl) (by kernel_rfl) (fun _ _ _ h => h) (Or.inl ⟨by rfl, by intro W _; go_simp⟩) hS6 ?_
          simp only [Act.put, List.setIfInBounds_toArray, List.set_cons_zero, List.set_cons_succ]
          refine wpAnyH_takeD (i := 27) (v := .slice o3 n3 c3) (some 31) rfl rfl (by kernel_rfl) (by kernel_rfl) (by kernel_rfl) (fun _ _ _ h => h) (Or.inl ⟨by rfl, by intro W hW; have hhv1 := hW; have y4 := (cell_of hhv1 4).trans rfl; go_simp⟩) hS6 ?_
          simp only [Act.put, List.setIfInBounds_toArray, List.set_cons_zero, List.set_cons_succ]
          refine wpAnyH_ready (rs := [28]) (by kernel_rfl) (by simp) ?_
          refine AllReadyH.cons rfl (fun K hK => ?_) AllReadyH.nil
          go_simp
          refine (specVaryOf_any _ n3 base fs _ (HV3.out _ hb6) (by omega) HG.out).mono ?_
          rintro e w7 ⟨vv, rfl, ownY, bw⟩
          obtain ⟨oY, pY, rfl⟩ := slice_of_owns ownY
          rw [HVL.out] at ownY ⊢
          have hb7 : Below w.heap.size w (w7) := hb6.trans (bw.mono hb6.size)
          have HM7 : Hid ((w6).heap.size ≤ (w7).heap.size) := bw.size
          have HBv1_7 : Hid ((w7).heap[qv1]? = some (.cells #[.string p, .slice o1 n1 c1, .slice o2 n2 c2, .int .i64 st, .slice o3 n3 c3, .string b, .int .i64 t] 41)) := blk_below HBv1_6.out bw
          have HOY_7 : Hid ((w7).ownsRow w.heap.size 9 1 (.slice oY vl.length pY) vl.length (vl.map Value.string)) := owns_wide ownY hb6.size
          have LOY : Hid (∀ g, (Value.ownBlock (.slice oY vl.length pY)) = some g → (w6).heap.size ≤ g) := fun g hg => owns_ge ownY hg
          have HIY : Hid (∀ g, (Value.ownBlock (.slice oY vl.length pY)) = some g → g < (w7).heap.size) := fun g hg => owns_lt ownY hg
          clear ownY
          clear hb6 HBv1_6 bw
          have hS7 : w7.heap[qv1]? = some (.cells #[.string p, .slice o1 n1 c1, .slice o2 n2 c2, .int .i64 st, .slice o3 n3 c3, .string b, .int .i64 t] 41) := HBv1_7.out
          refine hK.out _ _ hS7 (fun _ => ?_)
          clear hK K hS6
          refine wpAnyH_ready (rs := [29]) (by kernel_rfl) (by simp) ?_
          refine AllReadyH.cons rfl (fun K hK => ?_) AllReadyH.nil
          go_simp
          refine (l8Texts_any _ _ _ _ _ _ xs vl _ (HV1.out _ hb7) (texts_view HOY_7.out) (by omega)).mono ?_
          rintro e w8 ⟨rfl, bw⟩
          obtain ⟨u5, hu5⟩ : ∃ u5, u5 = decide (xs = vl) := ⟨_, rfl⟩
          rw [← hu5]
          have hb8 : Below w.heap.size w (w8) := hb7.trans (bw.mono hb7.size)
          have HM8 : Hid ((w7).heap.size ≤ (w8).heap.size) := bw.size
          have HOY_8 : Hid ((w8).ownsRow w.heap.size 9 1 (.slice oY vl.length pY) vl.length (vl.map Value.string)) := owns_below HOY_7.out bw (fun g hg => owns_lt HOY_7.out hg)
          have HBv1_8 : Hid ((w8).heap[qv1]? = some (.cells #[.string p, .slice o1 n1 c1, .slice o2 n2 c2, .int .i64 st, .slice o3 n3 c3, .string b, .int .i64 t] 41)) := blk_below HBv1_7.out bw
          clear hb7 HOY_7 HBv1_7 bw
          have hS8 : w8.heap[qv1]? = some (.cells #[.string p, .slice o1 n1 c1, .slice o2 n2 c2, .int .i64 st, .slice o3 n3 c3, .string b, .int .i64 t] 41) := HBv1_8.out
          refine hK.out _ _ hS8 (fun _ => ?_)
          clear hK K hS7
          cases u5 with
          | false =>
            have HF : Hid (¬ ObjP p xs ys st fs b t) := fun h => absurd (h.2.2.2.2.1.trans HVL.out) (of_decide_eq_false hu5.symm)
            clear hu5
            refine wpAnyH_takeD (i := 30) (v := .bool true) (some 34) rfl rfl (by kernel_rfl) (by kernel_rfl) (by kernel_rfl) (fun _ _ _ h => h) (Or.inl ⟨by rfl, by intro W _; go_simp⟩) hS8 ?_
            simp only [Act.put, List.setIfInBounds_toArray, List.set_cons_zero, List.set_cons_succ]
            refine wpAnyH_takeD (i := 31) (v := .bool true) (some 35) rfl rfl (by kernel_rfl) (by kernel_rfl) (by kernel_rfl) (fun _ _ _ h => h) (Or.inl ⟨by rfl, by intro W _; go_simp⟩) hS8 ?_
            simp only [Act.put, List.setIfInBounds_toArray, List.set_cons_zero, List.set_cons_succ]
            refine wpAnyH_takeD (i := 32) (v := .bool true) (some 36) rfl rfl (by kernel_rfl) (by kernel_rfl) (by kernel_rfl) (fun _ _ _ h => h) (Or.inl ⟨by rfl, by intro W _; go_simp⟩) hS8 ?_
            simp only [Act.put, List.setIfInBounds_toArray, List.set_cons_zero, List.set_cons_succ]
            refine wpAnyH_takeD (i := 33) (v := undef) (some 37) rfl rfl (by kernel_rfl) (by kernel_rfl) (by kernel_rfl) (fun _ _ _ h => h) (Or.inr ⟨by rfl, rfl⟩) hS8 ?_
            simp only [Act.put, List.setIfInBounds_toArray, List.set_cons_zero, List.set_cons_succ]
            refine wpAnyH_takeD (i := 34) (v := undef) (some 38) rfl rfl (by kernel_rfl) (by kernel_rfl) (by kernel_rfl) (fun _ _ _ h => h) (Or.inr ⟨by rfl, rfl⟩) hS8 ?_
            simp only [Act.put, List.setIfInBounds_toArray, List.set_cons_zero, List.set_cons_succ]
            refine wpAnyH_takeD (i := 35) (v := undef) (some 39) rfl rfl (by kernel_rfl) (by kernel_rfl) (by kernel_rfl) (fun _ _ _ h => h) (Or.inr ⟨by rfl, rfl⟩) hS8 ?_
            simp only [Act.put, List.setIfInBounds_toArray, List.set_cons_zero, List.set_cons_succ]
            refine wpAnyH_takeD (i := 36) (v := undef) (some 40) rfl rfl (by kernel_rfl) (by kernel_rfl) (by kernel_rfl) (fun _ _ _ h => h) (Or.inr ⟨by rfl, rfl⟩) hS8 ?_
            simp only [Act.put, List.setIfInBounds_toArray, List.set_cons_zero, List.set_cons_succ]
            refine wpAnyH_takeD (i := 37) (v := undef) (some 41) rfl rfl (by kernel_rfl) (by kernel_rfl) (by kernel_rfl) (fun _ _ _ h => h) (Or.inr ⟨by rfl, rfl⟩) hS8 ?_
            simp only [Act.put, List.setIfInBounds_toArray, List.set_cons_zero, List.set_cons_succ]
            refine wpAnyH_takeD (i := 38) (v := undef) (some 42) rfl rfl (by kernel_rfl) (by kernel_rfl) (by kernel_rfl) (fun _ _ _ h => h) (Or.inr ⟨by rfl, rfl⟩) hS8 ?_
            simp only [Act.put, List.setIfInBounds_toArray, List.set_cons_zero, List.set_cons_succ]
            refine wpAnyH_takeD (i := 39) (v := undef) (some 43) rfl rfl (by kernel_rfl) (by kernel_rfl) (by kernel_rfl) (fun _ _ _ h => h) (Or.inr ⟨by rfl, rfl⟩) hS8 ?_
            simp only [Act.put, List.setIfInBounds_toArray, List.set_cons_zero, List.set_cons_succ]
            refine wpAnyH_takeD (i := 40) (v := .bool true) (some 44) rfl rfl (by kernel_rfl) (by kernel_rfl) (by kernel_rfl) (fun _ _ _ h => h) (Or.inl ⟨by rfl, by intro W _; go_simp⟩) hS8 ?_
            simp only [Act.put, List.setIfInBounds_toArray, List.set_cons_zero, List.set_cons_succ]
            clear hS8
            refine wpAnyH_done (by kernel_rfl) ?_ _
            go_wp2_with fail
            go_ret
            exact BoolIs.no HF.out hb8
          | true =>
            have HE : Hid (xs = vl) := (show xs = vl from of_decide_eq_true hu5.symm)
            clear hu5
            refine wpAnyH_takeD (i := 30) (v := .bool false) (some 34) rfl rfl (by kernel_rfl) (by kernel_rfl) (by kernel_rfl) (fun _ _ _ h => h) (Or.inl ⟨by rfl, by intro W _; go_simp⟩) hS8 ?_
            simp only [Act.put, List.setIfInBounds_toArray, List.set_cons_zero, List.set_cons_succ]
            refine wpAnyH_takeD (i := 31) (v := .bool false) (some 35) rfl rfl (by kernel_rfl) (by kernel_rfl) (by kernel_rfl) (fun _ _ _ h => h) (Or.inl ⟨by rfl, by intro W _; go_simp⟩) hS8 ?_
            simp only [Act.put, List.setIfInBounds_toArray, List.set_cons_zero, List.set_cons_succ]
            refine wpAnyH_takeD (i := 32) (v := .bool false) (some 36) rfl rfl (by kernel_rfl) (by kernel_rfl) (by kernel_rfl) (fun _ _ _ h => h) (Or.inl ⟨by rfl, by intro W _; go_simp⟩) hS8 ?_
            simp only [Act.put, List.setIfInBounds_toArray, List.set_cons_zero, List.set_cons_succ]
            refine wpAnyH_takeD (i := 33) (v := .pointer (some ⟨qv1, 2, none⟩)) (some 37) rfl rfl (by kernel_rfl) (by kernel_rfl) (by kernel_rfl) (fun _ _ _ h => h) (Or.inl ⟨by rfl, by intro W _; go_simp⟩) hS8 ?_
            simp only [Act.put, List.setIfInBounds_toArray, List.set_cons_zero, List.set_cons_succ]
            refine wpAnyH_takeD (i := 34) (v := .slice o2 n2 c2) (some 38) rfl rfl (by kernel_rfl) (by kernel_rfl) (by kernel_rfl) (fun _ _ _ h => h) (Or.inl ⟨by rfl, by intro W hW; have hhv1 := hW; have y2 := (cell_of hhv1 2).trans rfl; go_simp⟩) hS8 ?_
            simp only [Act.put, List.setIfInBounds_toArray, List.set_cons_zero, List.set_cons_succ]
            refine wpAnyH_takeD (i := 35) (v := .int .i64 (n2 : Int)) (some 39) rfl rfl (by kernel_rfl) (by kernel_rfl) (by kernel_rfl) (fun _ _ _ h => h) (Or.inl ⟨by rfl, by intro W _; go_simp⟩) hS8 ?_
            simp only [Act.put, List.setIfInBounds_toArray, List.set_cons_zero, List.set_cons_succ]
            refine wpAnyH_takeD (i := 36) (v := .pointer (some ⟨qv1, 1, none⟩)) (some 40) rfl rfl (by kernel_rfl) (by kernel_rfl) (by kernel_rfl) (fun _ _ _ h => h) (Or.inl ⟨by rfl, by intro W _; go_simp⟩) hS8 ?_
            simp only [Act.put, List.setIfInBounds_toArray, List.set_cons_zero, List.set_cons_succ]
            refine wpAnyH_takeD (i := 37) (v := .slice o1 n1 c1) (some 41) rfl rfl (by kernel_rfl) (by kernel_rfl) (by kernel_rfl) (fun _ _ _ h => h) (Or.inl ⟨by rfl, by intro W hW; have hhv1 := hW; have y1 := (cell_of hhv1 1).trans rfl; go_simp⟩) hS8 ?_
            simp only [Act.put, List.setIfInBounds_toArray, List.set_cons_zero, List.set_cons_succ]
            refine wpAnyH_takeD (i := 38) (v := .int .i64 (n1 : Int)) (some 42) rfl rfl (by kernel_rfl) (by kernel_rfl) (by kernel_rfl) (fun _ _ _ h => h) (Or.inl ⟨by rfl, by intro W _; go_simp⟩) hS8 ?_
            simp only [Act.put, List.setIfInBounds_toArray, List.set_cons_zero, List.set_cons_succ]
            by_cases hc1 : (n2 : Int) = (n1 : Int)
            · have hc1b : (((n2 : Int) : Int) == ((n1 : Int) : Int)) = true := by simpa using hc1
              have hc1n : (((n2 : Int) : Int) != ((n1 : Int) : Int)) = false := by simpa using hc1
              have hc1H : Hid ((n2 : Int) = (n1 : Int)) := hc1
              clear hc1
              refine wpAnyH_takeD (i := 39) (v := .bool false) (some 43) rfl rfl (by kernel_rfl) (by kernel_rfl) (by kernel_rfl) (fun _ _ _ h => h) (Or.inl ⟨by rfl, by intro W _; go_simp⟩) hS8 ?_
              simp only [Act.put, List.setIfInBounds_toArray, List.set_cons_zero, List.set_cons_succ]
              refine wpAnyH_takeD (i := 40) (v := .bool false) (some 44) rfl rfl (by kernel_rfl) (by kernel_rfl) (by kernel_rfl) (fun _ _ _ h => h) (Or.inl ⟨by rfl, by intro W _; go_simp⟩) hS8 ?_
              simp only [Act.put, List.setIfInBounds_toArray, List.set_cons_zero, List.set_cons_succ]
              clear hS8
              refine wpAnyH_done (by kernel_rfl) ?_ _
              clear hc1b hc1n
              have HEQ := hc1H
              clear hc1H
              have HQ : Hid ((∀ y ∈ ys, ValOk y) ↔ ObjP p xs ys st fs b t) := ⟨fun h => ⟨HR.out, HP.out, HT.out, HNM.out, HE.out.trans HVL.out.symm, by have h1 := HL1.out; have h2 := HL2.out; have h3 := HEQ.out; omega, h⟩, fun h => h.2.2.2.2.2.2⟩
              go_wp2_with fail
              go_loopw [3] (fun i wr => ∃ j : Nat, j ≤ n2 ∧ i = .int .i64 (j : Int) ∧ Hid (Below w.heap.size w wr ∧ (wr).heap[qv1]? = some (.cells #[.string p, .slice o1 n1 c1, .slice o2 n2 c2, .int .i64 st, .slice o3 n3 c3, .string b, .int .i64 t] 41)) ∧ Hid (∀ x ∈ ys.take j, ValOk x)) (fun i _ => n2 - (intOf i).toNat)
              case atStart => exact ⟨0, Nat.zero_le _, rfl, ⟨hb8, HBv1_8.out⟩, fun x hx => by simp at hx⟩
              case round =>
                obtain ⟨j, hj, rfl, HW, HN⟩ := hrel
                have cc2 : wr.cell? ⟨qv1, 2, none⟩ = some (.slice o2 n2 c2) := (cell_of HW.out.2 2).trans rfl
                by_cases hlt : (j : Int) < (n2 : Int)
                · have hjx : j < ys.length := by rw [HL2.out]; omega
                  obtain ⟨g, hog, hg, hc⟩ := (HV2.out wr HW.out.1).2 j (by omega)
                  subst hog
                  have hs := HS2.out j (by omega)
                  obtain ⟨x, hxx⟩ : ∃ x, x = textAt ys j := ⟨_, rfl⟩
                  rw [← hxx] at hc hs
                  have HM : Hid (x ∈ ys) := by show _ ∈ _; rw [hxx]; exact textAt_mem ys j hjx
                  have HTK : Hid (ys.take (j + 1) = ys.take j ++ [x]) := by show _ = _; rw [take_textAt ys j hjx, hxx]
                  clear hxx hjx
                  go_wp2_with fail
                  refine (specValueOk_any x _ hs).mono ?_
                  rintro e w90 ⟨tx, rfl, htx, bw⟩
                  have HW2 : Hid (Below w.heap.size w w90 ∧ (w90).heap[qv1]? = some (.cells #[.string p, .slice o1 n1 c1, .slice (some ⟨g, 0, none⟩) n2 c2, .int .i64 st, .slice o3 n3 c3, .string b, .int .i64 t] 41)) := ⟨HW.out.1.trans (bw.mono HW.out.1.size), blk_below HW.out.2 bw⟩
                  clear bw cc2 hc HW
                  cases tx with
                  | false =>
                    have HF : Hid (¬ ObjP p xs ys st fs b t) := fun h => nomatch htx.2 (HQ.out.2 h x HM.out)
                    clear htx HN
                    go_wp2_with fail
                    go_ret
                    exact BoolIs.no HF.out HW2.out.1
                  | true =>
                    have HN2 : Hid (∀ y ∈ ys.take (j + 1), ValOk y) := by
                      intro y hy
                      rw [HTK.out] at hy
                      rcases List.mem_append.1 hy with hy | hy
                      · exact HN.out y hy
                      · rw [List.mem_singleton.1 hy]; exact htx.1 rfl
                    clear htx HN
                    go_wp2_with fail
                    go_roundw
                    case rel => exact ⟨j + 1, by omega, by go_num, HW2, HN2⟩
                    case measure => simp [intOf]; omega
                · have HA : Hid (ObjP p xs ys st fs b t) := HQ.out.1 (by
                    have h := HN.out
                    rw [List.take_of_length_le (by rw [HL2.out]; omega)] at h
                    exact h)
                  clear HN
                  go_wp2_with fail
                  go_ret
                  exact ⟨true, rfl, ⟨fun _ => HA.out, fun _ => rfl⟩, HW.out.1⟩
            · have hc1b : (((n2 : Int) : Int) == ((n1 : Int) : Int)) = false := by simpa using hc1
              have hc1n : (((n2 : Int) : Int) != ((n1 : Int) : Int)) = true := by simpa using hc1
              have HF : Hid (¬ ObjP p xs ys st fs b t) := fun h => by have h1 := h.2.2.2.2.2.1; have h2 := HL1.out; have h3 := HL2.out; omega
              have hc1H : Hid (¬ ((n2 : Int) = (n1 : Int))) := hc1
              clear hc1
              refine wpAnyH_takeD (i := 39) (v := .bool true) (some 43) rfl rfl (by kernel_rfl) (by kernel_rfl) (by kernel_rfl) (fun _ _ _ h => h) (Or.inl ⟨by rfl, by intro W _; go_simp⟩) hS8 ?_
              simp only [Act.put, List.setIfInBounds_toArray, List.set_cons_zero, List.set_cons_succ]
              refine wpAnyH_takeD (i := 40) (v := .bool true) (some 44) rfl rfl (by kernel_rfl) (by kernel_rfl) (by kernel_rfl) (fun _ _ _ h => h) (Or.inl ⟨by rfl, by intro W _; go_simp⟩) hS8 ?_
              simp only [Act.put, List.setIfInBounds_toArray, List.set_cons_zero, List.set_cons_succ]
              clear hS8
              refine wpAnyH_done (by kernel_rfl) ?_ _
              go_wp2_with fail
              go_ret
              exact BoolIs.no HF.out hb8

end Go.Proofs.Ytlmenolcgaakeaa

namespace Go.Proofs.Ytlmenolcgaakeaa
open Go.RowKit
open Go.Lib hiding intOf

set_option maxHeartbeats 8000000 in
set_option maxRecDepth 100000 in
theorem specHits_any (k : Int) (a b : ByteArray) (t : Int) (p : ByteArray) (o1 : Option Addr) (n1 c1 : Nat) (xs : List ByteArray) (o2 : Option Addr) (n2 c2 : Nat) (ys : List ByteArray) (st : Int) (v3 : Value) (n3 base : Nat) (fs : List (ByteArray × ByteArray)) (d : ByteArray) (u : Int) (w : World) (ha : a.size ≤ maxLen) (hb : b.size ≤ maxLen) (h1 : TextsA w o1 n1 xs) (h2 : TextsA w o2 n2 ys) (h3 : FieldsV w base v3 n3 fs) (hn1 : n1 ≤ 2000000) (hn2 : n2 ≤ 2000000) (hn3 : n3 ≤ 2000000) (hs1 : ∀ i, i < n1 → (textAt xs i).size ≤ maxLen) (hs2 : ∀ i, i < n2 → (textAt ys i).size ≤ maxLen) (hs3 : WalkF n3 fs) (hp : p.size ≤ maxLen) (hx : d.size ≤ maxLen) (hg : (getV fs varyName).size ≤ 1048576) :
    Calls Try.prog 11 #[.agg #[.int .i64 k, .string a, .string b, .int .i64 t], .agg #[.string p, .slice o1 n1 c1, .slice o2 n2 c2, .int .i64 st, v3, .string d, .int .i64 u]] w fun e w' => BoolIs (HitP k a b t p xs ys st fs d u) w e w' := by
  obtain ⟨o3, c3, rfl, _⟩ := h3.slice
  have HV1 : Hid (∀ W, Below w.heap.size w W → TextsA W o1 n1 xs) := fun W h => h1.below h
  have HV2 : Hid (∀ W, Below w.heap.size w W → TextsA W o2 n2 ys) := fun W h => h2.below h
  have HV3 : Hid (∀ W, Below w.heap.size w W → FieldsV W base (.slice o3 n3 c3) n3 fs) := fun W h => h3.below h
  have HS1 : Hid (∀ i, i < n1 → (textAt xs i).size ≤ maxLen) := hs1
  have HS2 : Hid (∀ i, i < n2 → (textAt ys i).size ≤ maxLen) := hs2
  have HS3 : Hid (WalkF n3 fs) := hs3
  have HPM : Hid (p.size ≤ maxLen) := hp
  have HX : Hid (d.size ≤ maxLen) := hx
  have HG : Hid ((getV fs varyName).size ≤ 1048576) := hg
  have HAM : Hid (a.size ≤ maxLen) := ha
  have HBM : Hid (b.size ≤ maxLen) := hb
  clear h1 h2 h3 hs1 hs2 hs3 hp hx hg ha hb
  have hb0 : Below w.heap.size w w := Below.refl _ _
  go_enter Try.func11, Try.ntmps11
  go_upto_region 1 with fail
  obtain ⟨qv1, hqv1⟩ : ∃ q, q = (w).heap.size := ⟨_, rfl⟩
  obtain ⟨w1, hW1⟩ : ∃ W, W = (w).alloc (.cells #[.int .i64 k, .string a, .string b, .int .i64 t] 26) := ⟨_, rfl⟩
  have hz1 : (w).heap.size = qv1 := hqv1.symm
  first | rw [← hW1, ← hqv1] | rw [← hW1]
  have hs1 : w1.heap.size = qv1 + 1 := by rw [hW1, ← hz1]; simp
  have bw : Below (w).heap.size (w) w1 := by rw [hW1]; exact (Below.refl _ _).alloc (Nat.le_refl _) _
  have hb1 : Below w.heap.size w (w1) := hb0.trans (bw.mono hb0.size)
  have HM1 : Hid ((w).heap.size ≤ (w1).heap.size) := bw.size
  have HBv1_1 : Hid ((w1).heap[qv1]? = some (.cells #[.int .i64 k, .string a, .string b, .int .i64 t] 26)) := by show _ = _; rw [hW1, ← hz1]; exact heap_alloc_new _ _
  have HGv1 : Hid (w.heap.size ≤ qv1) := by show _ ≤ _; rw [← hz1]; exact hb0.size
  clear hb0 bw hW1 hz1
  obtain ⟨qv2, hqv2⟩ : ∃ q, q = qv1 + 1 := ⟨_, rfl⟩
  obtain ⟨w2, hW2⟩ : ∃ W, W = (w1).alloc (.cells #[.string p, .slice o1 n1 c1, .slice o2 n2 c2, .int .i64 st, .slice o3 n3 c3, .string d, .int .i64 u] 41) := ⟨_, rfl⟩
  have hz2 : (w1).heap.size = qv2 := by rw [hqv2]; exact hs1
  first | rw [← hW2, ← hqv2] | rw [← hW2]
  have hs2 : w2.heap.size = qv2 + 1 := by rw [hW2, ← hz2]; simp
  have bw : Below (w1).heap.size (w1) w2 := by rw [hW2]; exact (Below.refl _ _).alloc (Nat.le_refl _) _
  have hb2 : Below w.heap.size w (w2) := hb1.trans (bw.mono hb1.size)
  have HM2 : Hid ((w1).heap.size ≤ (w2).heap.size) := bw.size
  have HBv1_2 : Hid ((w2).heap[qv1]? = some (.cells #[.int .i64 k, .string a, .string b, .int .i64 t] 26)) := blk_below HBv1_1.out bw
  have HNv1v2 : Hid (qv1 ≠ qv2) := fun e => by have h1 := (Array.getElem?_eq_some_iff.1 HBv1_1.out).1; omega
  have HBv2_2 : Hid ((w2).heap[qv2]? = some (.cells #[.string p, .slice o1 n1 c1, .slice o2 n2 c2, .int .i64 st, .slice o3 n3 c3, .string d, .int .i64 u] 41)) := by show _ = _; rw [hW2, ← hz2]; exact heap_alloc_new _ _
  have HGv2 : Hid (w.heap.size ≤ qv2) := by show _ ≤ _; rw [← hz2]; exact hb1.size
  clear hb1 HBv1_1 bw hW2 hz2
  clear hs2 hqv2 hs1 hqv1
  have cv1_0 : (w2).cell? ⟨qv1, 0, none⟩ = some (.int .i64 k) := (cell_of HBv1_2.out 0).trans rfl
  have cv1_1 : (w2).cell? ⟨qv1, 1, none⟩ = some (.string a) := (cell_of HBv1_2.out 1).trans rfl
  have cv1_2 : (w2).cell? ⟨qv1, 2, none⟩ = some (.string b) := (cell_of HBv1_2.out 2).trans rfl
  have cv1_3 : (w2).cell? ⟨qv1, 3, none⟩ = some (.int .i64 t) := (cell_of HBv1_2.out 3).trans rfl
  go_wp2_with fail
  refine (specBanOk_any k a b t _ HAM.out HBM.out).mono ?_
  rintro e w3 ⟨ub, rfl, htub, bw⟩
  have hb3 : Below w.heap.size w (w3) := hb2.trans (bw.mono hb2.size)
  have HM3 : Hid ((w2).heap.size ≤ (w3).heap.size) := bw.size
  have HBv1_3 : Hid ((w3).heap[qv1]? = some (.cells #[.int .i64 k, .string a, .string b, .int .i64 t] 26)) := blk_below HBv1_2.out bw
  have HBv2_3 : Hid ((w3).heap[qv2]? = some (.cells #[.string p, .slice o1 n1 c1, .slice o2 n2 c2, .int .i64 st, .slice o3 n3 c3, .string d, .int .i64 u] 41)) := blk_below HBv2_2.out bw
  clear hb2 HBv1_2 HBv2_2 bw
  clear cv1_0 cv1_1 cv1_2 cv1_3
  cases ub with
  | false =>
    have Hub : Hid (¬ BanP k a b t) := fun h => nomatch htub.2 h
    clear htub
    go_wp2_with fail
    go_ret
    refine ⟨false, rfl, ?_, hb3⟩
    have zHub := Hub.out
    constructor
    · intro h
      first
        | (cases h; done)
        | exact ⟨zHub, zHuo, by omega, .inl ⟨zHK1, zHPA⟩⟩
        | exact ⟨zHub, zHuo, by omega, .inr (.inl ⟨zHK2, (begins_iff a p).2 ⟨by omega, zHEX⟩⟩)⟩
        | exact ⟨zHub, zHuo, by omega, .inr (.inr ⟨by have := zHub.kinds; omega, zHug, zHGE.trans zHGV⟩)⟩
    · intro h
      first
        | rfl
        | (exfalso
           obtain ⟨h1, h2, h3, h4⟩ := h
           first
             | exact zHub h1
             | exact zHuo h2
             | omega
             | (rcases h4 with ⟨e1, e2⟩ | ⟨e1, e2⟩ | ⟨e1, e2, e3⟩
                all_goals first
                  | omega
                  | exact zHPA e2
                  | exact zHEX ((begins_iff a p).1 e2).2
                  | (have := ((begins_iff a p).1 e2).1; omega)
                  | exact zHug e2
                  | exact zHGV (zHGE.symm.trans e3)))
  | true =>
    have Hub : Hid (BanP k a b t) := htub.1 rfl
    clear htub
    have cv2_0 : (w3).cell? ⟨qv2, 0, none⟩ = some (.string p) := (cell_of HBv2_3.out 0).trans rfl
    have cv2_1 : (w3).cell? ⟨qv2, 1, none⟩ = some (.slice o1 n1 c1) := (cell_of HBv2_3.out 1).trans rfl
    have cv2_2 : (w3).cell? ⟨qv2, 2, none⟩ = some (.slice o2 n2 c2) := (cell_of HBv2_3.out 2).trans rfl
    have cv2_3 : (w3).cell? ⟨qv2, 3, none⟩ = some (.int .i64 st) := (cell_of HBv2_3.out 3).trans rfl
    have cv2_4 : (w3).cell? ⟨qv2, 4, none⟩ = some (.slice o3 n3 c3) := (cell_of HBv2_3.out 4).trans rfl
    have cv2_5 : (w3).cell? ⟨qv2, 5, none⟩ = some (.string d) := (cell_of HBv2_3.out 5).trans rfl
    have cv2_6 : (w3).cell? ⟨qv2, 6, none⟩ = some (.int .i64 u) := (cell_of HBv2_3.out 6).trans rfl
    go_wp2_with fail
    refine (specObjOk_any p _ n1 _ xs _ n2 _ ys st _ n3 base fs d u _ (HV1.out _ hb3) (HV2.out _ hb3) (HV3.out _ hb3) (by omega) (by omega) (by omega) HS1.out HS2.out HS3.out HPM.out HX.out HG.out).mono ?_
    rintro e w4 ⟨uo, rfl, htuo, bw⟩
    have hb4 : Below w.heap.size w (w4) := hb3.trans (bw.mono hb3.size)
    have HM4 : Hid ((w3).heap.size ≤ (w4).heap.size) := bw.size
    have HBv1_4 : Hid ((w4).heap[qv1]? = some (.cells #[.int .i64 k, .string a, .string b, .int .i64 t] 26)) := blk_below HBv1_3.out bw
    have HBv2_4 : Hid ((w4).heap[qv2]? = some (.cells #[.string p, .slice o1 n1 c1, .slice o2 n2 c2, .int .i64 st, .slice o3 n3 c3, .string d, .int .i64 u] 41)) := blk_below HBv2_3.out bw
    clear hb3 HBv1_3 HBv2_3 bw
    clear cv2_0 cv2_1 cv2_2 cv2_3 cv2_4 cv2_5 cv2_6
    cases uo with
    | false =>
      have Huo : Hid (¬ ObjP p xs ys st fs d u) := fun h => nomatch htuo.2 h
      clear htuo
      go_wp2_with fail
      go_ret
      refine ⟨false, rfl, ?_, hb4⟩
      have zHub := Hub.out
      have zHuo := Huo.out
      constructor
      · intro h
        first
          | (cases h; done)
          | exact ⟨zHub, zHuo, by omega, .inl ⟨zHK1, zHPA⟩⟩
          | exact ⟨zHub, zHuo, by omega, .inr (.inl ⟨zHK2, (begins_iff a p).2 ⟨by omega, zHEX⟩⟩)⟩
          | exact ⟨zHub, zHuo, by omega, .inr (.inr ⟨by have := zHub.kinds; omega, zHug, zHGE.trans zHGV⟩)⟩
      · intro h
        first
          | rfl
          | (exfalso
             obtain ⟨h1, h2, h3, h4⟩ := h
             first
               | exact zHub h1
               | exact zHuo h2
               | omega
               | (rcases h4 with ⟨e1, e2⟩ | ⟨e1, e2⟩ | ⟨e1, e2, e3⟩
                  all_goals first
                    | omega
                    | exact zHPA e2
                    | exact zHEX ((begins_iff a p).1 e2).2
                    | (have := ((begins_iff a p).1 e2).1; omega)
                    | exact zHug e2
                    | exact zHGV (zHGE.symm.trans e3)))
    | true =>
      have Huo : Hid (ObjP p xs ys st fs d u) := htuo.1 rfl
      clear htuo
      have cv1_3 : (w4).cell? ⟨qv1, 3, none⟩ = some (.int .i64 t) := (cell_of HBv1_4.out 3).trans rfl
      have cv2_6 : (w4).cell? ⟨qv2, 6, none⟩ = some (.int .i64 u) := (cell_of HBv2_4.out 6).trans rfl
      by_cases hc1 : t < u
      · have HGT : Hid (t < u) := hc1
        go_wp2_with fail
        go_ret
        refine ⟨false, rfl, ?_, hb4⟩
        have zHub := Hub.out
        have zHuo := Huo.out
        have zHGT := HGT.out
        constructor
        · intro h
          first
            | (cases h; done)
            | exact ⟨zHub, zHuo, by omega, .inl ⟨zHK1, zHPA⟩⟩
            | exact ⟨zHub, zHuo, by omega, .inr (.inl ⟨zHK2, (begins_iff a p).2 ⟨by omega, zHEX⟩⟩)⟩
            | exact ⟨zHub, zHuo, by omega, .inr (.inr ⟨by have := zHub.kinds; omega, zHug, zHGE.trans zHGV⟩)⟩
        · intro h
          first
            | rfl
            | (exfalso
               obtain ⟨h1, h2, h3, h4⟩ := h
               first
                 | exact zHub h1
                 | exact zHuo h2
                 | omega
                 | (rcases h4 with ⟨e1, e2⟩ | ⟨e1, e2⟩ | ⟨e1, e2, e3⟩
                    all_goals first
                      | omega
                      | exact zHPA e2
                      | exact zHEX ((begins_iff a p).1 e2).2
                      | (have := ((begins_iff a p).1 e2).1; omega)
                      | exact zHug e2
                      | exact zHGV (zHGE.symm.trans e3)))
      · have HGT : Hid (¬ (t < u)) := hc1
        have cv1_0 : (w4).cell? ⟨qv1, 0, none⟩ = some (.int .i64 k) := (cell_of HBv1_4.out 0).trans rfl
        by_cases hc2 : k = 1
        · have hc2b : ((k : Int) == (1 : Int)) = true := by simpa using hc2
          have hc2n : ((k : Int) != (1 : Int)) = false := by simpa using hc2
          have HK1 : Hid (k = 1) := hc2
          have hc2H : Hid (k = 1) := hc2
          clear hc2
          have cv1_1 : (w4).cell? ⟨qv1, 1, none⟩ = some (.string a) := (cell_of HBv1_4.out 1).trans rfl
          have cv2_0 : (w4).cell? ⟨qv2, 0, none⟩ = some (.string p) := (cell_of HBv2_4.out 0).trans rfl
          by_cases hc3 : p = a
          · have hc3b : ((p).toList == (a).toList) = true := (text_beq _ _).2 hc3
            have HPA : Hid (p = a) := hc3
            go_wp2_with fail
            go_ret
            refine ⟨true, rfl, ?_, hb4⟩
            have zHub := Hub.out
            have zHuo := Huo.out
            have zHGT := HGT.out
            have zHK1 := HK1.out
            have zHPA := HPA.out
            constructor
            · intro h
              first
                | (cases h; done)
                | exact ⟨zHub, zHuo, by omega, .inl ⟨zHK1, zHPA⟩⟩
                | exact ⟨zHub, zHuo, by omega, .inr (.inl ⟨zHK2, (begins_iff a p).2 ⟨by omega, zHEX⟩⟩)⟩
                | exact ⟨zHub, zHuo, by omega, .inr (.inr ⟨by have := zHub.kinds; omega, zHug, zHGE.trans zHGV⟩)⟩
            · intro h
              first
                | rfl
                | (exfalso
                   obtain ⟨h1, h2, h3, h4⟩ := h
                   first
                     | exact zHub h1
                     | exact zHuo h2
                     | omega
                     | (rcases h4 with ⟨e1, e2⟩ | ⟨e1, e2⟩ | ⟨e1, e2, e3⟩
                        all_goals first
                          | omega
                          | exact zHPA e2
                          | exact zHEX ((begins_iff a p).1 e2).2
                          | (have := ((begins_iff a p).1 e2).1; omega)
                          | exact zHug e2
                          | exact zHGV (zHGE.symm.trans e3)))
          · have hc3b : ((p).toList == (a).toList) = false := text_beq_no hc3
            have HPA : Hid (¬ (p = a)) := hc3
            go_wp2_with fail
            go_ret
            refine ⟨false, rfl, ?_, hb4⟩
            have zHub := Hub.out
            have zHuo := Huo.out
            have zHGT := HGT.out
            have zHK1 := HK1.out
            have zHPA := HPA.out
            constructor
            · intro h
              first
                | (cases h; done)
                | exact ⟨zHub, zHuo, by omega, .inl ⟨zHK1, zHPA⟩⟩
                | exact ⟨zHub, zHuo, by omega, .inr (.inl ⟨zHK2, (begins_iff a p).2 ⟨by omega, zHEX⟩⟩)⟩
                | exact ⟨zHub, zHuo, by omega, .inr (.inr ⟨by have := zHub.kinds; omega, zHug, zHGE.trans zHGV⟩)⟩
            · intro h
              first
                | rfl
                | (exfalso
                   obtain ⟨h1, h2, h3, h4⟩ := h
                   first
                     | exact zHub h1
                     | exact zHuo h2
                     | omega
                     | (rcases h4 with ⟨e1, e2⟩ | ⟨e1, e2⟩ | ⟨e1, e2, e3⟩
                        all_goals first
                          | omega
                          | exact zHPA e2
                          | exact zHEX ((begins_iff a p).1 e2).2
                          | (have := ((begins_iff a p).1 e2).1; omega)
                          | exact zHug e2
                          | exact zHGV (zHGE.symm.trans e3)))
        · have hc2b : ((k : Int) == (1 : Int)) = false := by simpa using hc2
          have hc2n : ((k : Int) != (1 : Int)) = true := by simpa using hc2
          have HK1 : Hid (¬ (k = 1)) := hc2
          have hc2H : Hid (¬ (k = 1)) := hc2
          clear hc2
          by_cases hc3 : k = 2
          · have hc3b : ((k : Int) == (2 : Int)) = true := by simpa using hc3
            have hc3n : ((k : Int) != (2 : Int)) = false := by simpa using hc3
            have HK2 : Hid (k = 2) := hc3
            have hc3H : Hid (k = 2) := hc3
            clear hc3
            go_upto_region 7 with fail
            clear cv1_3 cv2_6 cv1_0
            refine wp_region_held_drew (S := fun W => W.heap[qv2]? = some (.cells #[.string p, .slice o1 n1 c1, .slice o2 n2 c2, .int .i64 st, .slice o3 n3 c3, .string d, .int .i64 u] 41) ∧ W.heap[qv1]? = some (.cells #[.int .i64 k, .string a, .string b, .int .i64 t] 26)) (by kernel_rfl) ⟨HBv2_4.out, HBv1_4.out⟩ (fun _ => ?_)
            obtain ⟨w5, hX⟩ : ∃ X, X = w4.drew := ⟨_, rfl⟩
            have bw : Below w4.heap.size w4 w5 := by rw [hX]; exact (Below.refl _ _).drew
            rw [← hX]
            have hb5 : Below w.heap.size w (w5) := hb4.trans (bw.mono hb4.size)
            have HM5 : Hid ((w4).heap.size ≤ (w5).heap.size) := bw.size
            have HBv1_5 : Hid ((w5).heap[qv1]? = some (.cells #[.int .i64 k, .string a, .string b, .int .i64 t] 26)) := blk_below HBv1_4.out bw
            have HBv2_5 : Hid ((w5).heap[qv2]? = some (.cells #[.string p, .slice o1 n1 c1, .slice o2 n2 c2, .int .i64 st, .slice o3 n3 c3, .string d, .int .i64 u] 41)) := blk_below HBv2_4.out bw
            have hS5 : w5.heap[qv2]? = some (.cells #[.string p, .slice o1 n1 c1, .slice o2 n2 c2, .int .i64 st, .slice o3 n3 c3, .string d, .int .i64 u] 41) ∧ w5.heap[qv1]? = some (.cells #[.int .i64 k, .string a, .string b, .int .i64 t] 26) := ⟨HBv2_5.out, HBv1_5.out⟩
            clear hb4 HBv1_4 HBv2_4 bw hX
            refine wpAnyH_takeD (i := 0) (v := .pointer (some ⟨qv2, 0, none⟩)) (some 33) rfl rfl (by kernel_rfl) (by kernel_rfl) (by kernel_rfl) (fun _ _ _ h => h) (Or.inl ⟨by rfl, by intro W _; go_simp⟩) hS5 ?_
            simp only [Act.put, List.setIfInBounds_toArray, List.set_cons_zero, List.set_cons_succ]
            refine wpAnyH_takeD (i := 1) (v := .string p) (some 34) rfl rfl (by kernel_rfl) (by kernel_rfl) (by kernel_rfl) (fun _ _ _ h => h) (Or.inl ⟨by rfl, by intro W hW; obtain ⟨hhv2, hhv1⟩ := hW; have y0 := (cell_of hhv2 0).trans rfl; go_simp⟩) hS5 ?_
            simp only [Act.put, List.setIfInBounds_toArray, List.set_cons_zero, List.set_cons_succ]
            refine wpAnyH_takeD (i := 2) (v := .int .i64 (p.size : Int)) (some 35) rfl rfl (by kernel_rfl) (by kernel_rfl) (by kernel_rfl) (fun _ _ _ h => h) (Or.inl ⟨by rfl, by intro W _; go_simp⟩) hS5 ?_
            simp only [Act.put, List.setIfInBounds_toArray, List.set_cons_zero, List.set_cons_succ]
            refine wpAnyH_takeD (i := 3) (v := .pointer (some ⟨qv1, 1, none⟩)) (some 36) rfl rfl (by kernel_rfl) (by kernel_rfl) (by kernel_rfl) (fun _ _ _ h => h) (Or.inl ⟨by rfl, by intro W _; go_simp⟩) hS5 ?_
            simp only [Act.put, List.setIfInBounds_toArray, List.set_cons_zero, List.set_cons_succ]
            refine wpAnyH_takeD (i := 4) (v := .string a) (some 37) rfl rfl (by kernel_rfl) (by kernel_rfl) (by kernel_rfl) (fun _ _ _ h => h) (Or.inl ⟨by rfl, by intro W hW; obtain ⟨hhv2, hhv1⟩ := hW; have y1 := (cell_of hhv1 1).trans rfl; go_simp⟩) hS5 ?_
            simp only [Act.put, List.setIfInBounds_toArray, List.set_cons_zero, List.set_cons_succ]
            refine wpAnyH_takeD (i := 5) (v := .int .i64 (a.size : Int)) (some 38) rfl rfl (by kernel_rfl) (by kernel_rfl) (by kernel_rfl) (fun _ _ _ h => h) (Or.inl ⟨by rfl, by intro W _; go_simp⟩) hS5 ?_
            simp only [Act.put, List.setIfInBounds_toArray, List.set_cons_zero, List.set_cons_succ]
            by_cases hc4 : (a.size : Int) ≤ (p.size : Int)
            · have HLE : Hid ((a.size : Int) ≤ (p.size : Int)) := hc4
              refine wpAnyH_takeD (i := 6) (v := .bool true) (some 39) rfl rfl (by kernel_rfl) (by kernel_rfl) (by kernel_rfl) (fun _ _ _ h => h) (Or.inl ⟨by rfl, by intro W _; go_simp⟩) hS5 ?_
              simp only [Act.put, List.setIfInBounds_toArray, List.set_cons_zero, List.set_cons_succ]
              refine wpAnyH_takeD (i := 7) (v := .bool true) (some 40) rfl rfl (by kernel_rfl) (by kernel_rfl) (by kernel_rfl) (fun _ _ _ h => h) (Or.inl ⟨by rfl, by intro W _; go_simp⟩) hS5 ?_
              simp only [Act.put, List.setIfInBounds_toArray, List.set_cons_zero, List.set_cons_succ]
              refine wpAnyH_takeD (i := 8) (v := .pointer (some ⟨qv2, 0, none⟩)) (some 41) rfl rfl (by kernel_rfl) (by kernel_rfl) (by kernel_rfl) (fun _ _ _ h => h) (Or.inl ⟨by rfl, by intro W _; go_simp⟩) hS5 ?_
              simp only [Act.put, List.setIfInBounds_toArray, List.set_cons_zero, List.set_cons_succ]
              refine wpAnyH_takeD (i := 9) (v := .string p) (some 42) rfl rfl (by kernel_rfl) (by kernel_rfl) (by kernel_rfl) (fun _ _ _ h => h) (Or.inl ⟨by rfl, by intro W hW; obtain ⟨hhv2, hhv1⟩ := hW; have y0 := (cell_of hhv2 0).trans rfl; go_simp⟩) hS5 ?_
              simp only [Act.put, List.setIfInBounds_toArray, List.set_cons_zero, List.set_cons_succ]
              refine wpAnyH_takeD (i := 10) (v := .pointer (some ⟨qv1, 1, none⟩)) (some 43) rfl rfl (by kernel_rfl) (by kernel_rfl) (by kernel_rfl) (fun _ _ _ h => h) (Or.inl ⟨by rfl, by intro W _; go_simp⟩) hS5 ?_
              simp only [Act.put, List.setIfInBounds_toArray, List.set_cons_zero, List.set_cons_succ]
              refine wpAnyH_takeD (i := 11) (v := .string a) (some 44) rfl rfl (by kernel_rfl) (by kernel_rfl) (by kernel_rfl) (fun _ _ _ h => h) (Or.inl ⟨by rfl, by intro W hW; obtain ⟨hhv2, hhv1⟩ := hW; have y1 := (cell_of hhv1 1).trans rfl; go_simp⟩) hS5 ?_
              simp only [Act.put, List.setIfInBounds_toArray, List.set_cons_zero, List.set_cons_succ]
              refine wpAnyH_takeD (i := 12) (v := .int .i64 (a.size : Int)) (some 45) rfl rfl (by kernel_rfl) (by kernel_rfl) (by kernel_rfl) (fun _ _ _ h => h) (Or.inl ⟨by rfl, by intro W _; go_simp⟩) hS5 ?_
              simp only [Act.put, List.setIfInBounds_toArray, List.set_cons_zero, List.set_cons_succ]
              refine wpAnyH_takeD (i := 13) (v := .string (p.extract 0 a.size)) (some 46) rfl rfl (by kernel_rfl) (by kernel_rfl) (by kernel_rfl) (fun _ _ _ h => h) (Or.inl ⟨by rfl, by intro W _; go_simp⟩) hS5 ?_
              simp only [Act.put, List.setIfInBounds_toArray, List.set_cons_zero, List.set_cons_succ]
              refine wpAnyH_takeD (i := 14) (v := .pointer (some ⟨qv1, 1, none⟩)) (some 47) rfl rfl (by kernel_rfl) (by kernel_rfl) (by kernel_rfl) (fun _ _ _ h => h) (Or.inl ⟨by rfl, by intro W _; go_simp⟩) hS5 ?_
              simp only [Act.put, List.setIfInBounds_toArray, List.set_cons_zero, List.set_cons_succ]
              refine wpAnyH_takeD (i := 15) (v := .string a) (some 48) rfl rfl (by kernel_rfl) (by kernel_rfl) (by kernel_rfl) (fun _ _ _ h => h) (Or.inl ⟨by rfl, by intro W hW; obtain ⟨hhv2, hhv1⟩ := hW; have y1 := (cell_of hhv1 1).trans rfl; go_simp⟩) hS5 ?_
              simp only [Act.put, List.setIfInBounds_toArray, List.set_cons_zero, List.set_cons_succ]
              by_cases hc5 : (p.extract 0 a.size) = a
              · have hc5b : (((p.extract 0 a.size)).toList == (a).toList) = true := (text_beq _ _).2 hc5
                have HEX : Hid ((p.extract 0 a.size) = a) := hc5
                refine wpAnyH_takeD (i := 16) (v := .bool true) (some 49) rfl rfl (by kernel_rfl) (by kernel_rfl) (by kernel_rfl) (fun _ _ _ h => h) (Or.inl ⟨by rfl, by intro W _; go_simp⟩) hS5 ?_
                simp only [Act.put, List.setIfInBounds_toArray, List.set_cons_zero, List.set_cons_succ]
                refine wpAnyH_takeD (i := 17) (v := .bool true) (some 50) rfl rfl (by kernel_rfl) (by kernel_rfl) (by kernel_rfl) (fun _ _ _ h => h) (Or.inl ⟨by rfl, by intro W _; go_simp⟩) hS5 ?_
                simp only [Act.put, List.setIfInBounds_toArray, List.set_cons_zero, List.set_cons_succ]
                refine wpAnyH_takeD (i := 18) (v := .bool true) (some 4) rfl rfl (by kernel_rfl) (by kernel_rfl) (by kernel_rfl) (fun _ _ _ h => h) (Or.inl ⟨by rfl, by intro W _; go_simp⟩) hS5 ?_
                simp only [Act.put, List.setIfInBounds_toArray, List.set_cons_zero, List.set_cons_succ]
                clear hS5
                refine wpAnyH_done (by kernel_rfl) ?_ _
                go_wp2_with fail
                go_ret
                refine ⟨true, rfl, ?_, hb5⟩
                have zHub := Hub.out
                have zHuo := Huo.out
                have zHGT := HGT.out
                have zHK1 := HK1.out
                have zHK2 := HK2.out
                have zHLE := HLE.out
                have zHEX := HEX.out
                constructor
                · intro h
                  first
                    | (cases h; done)
                    | exact ⟨zHub, zHuo, by omega, .inl ⟨zHK1, zHPA⟩⟩
                    | exact ⟨zHub, zHuo, by omega, .inr (.inl ⟨zHK2, (begins_iff a p).2 ⟨by omega, zHEX⟩⟩)⟩
                    | exact ⟨zHub, zHuo, by omega, .inr (.inr ⟨by have := zHub.kinds; omega, zHug, zHGE.trans zHGV⟩)⟩
                · intro h
                  first
                    | rfl
                    | (exfalso
                       obtain ⟨h1, h2, h3, h4⟩ := h
                       first
                         | exact zHub h1
                         | exact zHuo h2
                         | omega
                         | (rcases h4 with ⟨e1, e2⟩ | ⟨e1, e2⟩ | ⟨e1, e2, e3⟩
                            all_goals first
                              | omega
                              | exact zHPA e2
                              | exact zHEX ((begins_iff a p).1 e2).2
                              | (have := ((begins_iff a p).1 e2).1; omega)
                              | exact zHug e2
                              | exact zHGV (zHGE.symm.trans e3)))
              · have hc5b : (((p.extract 0 a.size)).toList == (a).toList) = false := text_beq_no hc5
                have HEX : Hid (¬ ((p.extract 0 a.size) = a)) := hc5
                refine wpAnyH_takeD (i := 16) (v := .bool false) (some 49) rfl rfl (by kernel_rfl) (by kernel_rfl) (by kernel_rfl) (fun _ _ _ h => h) (Or.inl ⟨by rfl, by intro W _; go_simp⟩) hS5 ?_
                simp only [Act.put, List.setIfInBounds_toArray, List.set_cons_zero, List.set_cons_succ]
                refine wpAnyH_takeD (i := 17) (v := .bool false) (some 50) rfl rfl (by kernel_rfl) (by kernel_rfl) (by kernel_rfl) (fun _ _ _ h => h) (Or.inl ⟨by rfl, by intro W _; go_simp⟩) hS5 ?_
                simp only [Act.put, List.setIfInBounds_toArray, List.set_cons_zero, List.set_cons_succ]
                refine wpAnyH_takeD (i := 18) (v := .bool false) (some 4) rfl rfl (by kernel_rfl) (by kernel_rfl) (by kernel_rfl) (fun _ _ _ h => h) (Or.inl ⟨by rfl, by intro W _; go_simp⟩) hS5 ?_
                simp only [Act.put, List.setIfInBounds_toArray, List.set_cons_zero, List.set_cons_succ]
                clear hS5
                refine wpAnyH_done (by kernel_rfl) ?_ _
                go_wp2_with fail
                go_ret
                refine ⟨false, rfl, ?_, hb5⟩
                have zHub := Hub.out
                have zHuo := Huo.out
                have zHGT := HGT.out
                have zHK1 := HK1.out
                have zHK2 := HK2.out
                have zHLE := HLE.out
                have zHEX := HEX.out
                constructor
                · intro h
                  first
                    | (cases h; done)
                    | exact ⟨zHub, zHuo, by omega, .inl ⟨zHK1, zHPA⟩⟩
                    | exact ⟨zHub, zHuo, by omega, .inr (.inl ⟨zHK2, (begins_iff a p).2 ⟨by omega, zHEX⟩⟩)⟩
                    | exact ⟨zHub, zHuo, by omega, .inr (.inr ⟨by have := zHub.kinds; omega, zHug, zHGE.trans zHGV⟩)⟩
                · intro h
                  first
                    | rfl
                    | (exfalso
                       obtain ⟨h1, h2, h3, h4⟩ := h
                       first
                         | exact zHub h1
                         | exact zHuo h2
                         | omega
                         | (rcases h4 with ⟨e1, e2⟩ | ⟨e1, e2⟩ | ⟨e1, e2, e3⟩
                            all_goals first
                              | omega
                              | exact zHPA e2
                              | exact zHEX ((begins_iff a p).1 e2).2
                              | (have := ((begins_iff a p).1 e2).1; omega)
                              | exact zHug e2
                              | exact zHGV (zHGE.symm.trans e3)))
            · have HLE : Hid (¬ ((a.size : Int) ≤ (p.size : Int))) := hc4
              refine wpAnyH_takeD (i := 6) (v := .bool false) (some 39) rfl rfl (by kernel_rfl) (by kernel_rfl) (by kernel_rfl) (fun _ _ _ h => h) (Or.inl ⟨by rfl, by intro W _; go_simp⟩) hS5 ?_
              simp only [Act.put, List.setIfInBounds_toArray, List.set_cons_zero, List.set_cons_succ]
              refine wpAnyH_takeD (i := 7) (v := .bool false) (some 40) rfl rfl (by kernel_rfl) (by kernel_rfl) (by kernel_rfl) (fun _ _ _ h => h) (Or.inl ⟨by rfl, by intro W _; go_simp⟩) hS5 ?_
              simp only [Act.put, List.setIfInBounds_toArray, List.set_cons_zero, List.set_cons_succ]
              refine wpAnyH_takeD (i := 8) (v := undef) (some 41) rfl rfl (by kernel_rfl) (by kernel_rfl) (by kernel_rfl) (fun _ _ _ h => h) (Or.inr ⟨by rfl, rfl⟩) hS5 ?_
              simp only [Act.put, List.setIfInBounds_toArray, List.set_cons_zero, List.set_cons_succ]
              refine wpAnyH_takeD (i := 9) (v := undef) (some 42) rfl rfl (by kernel_rfl) (by kernel_rfl) (by kernel_rfl) (fun _ _ _ h => h) (Or.inr ⟨by rfl, rfl⟩) hS5 ?_
              simp only [Act.put, List.setIfInBounds_toArray, List.set_cons_zero, List.set_cons_succ]
              refine wpAnyH_takeD (i := 10) (v := undef) (some 43) rfl rfl (by kernel_rfl) (by kernel_rfl) (by kernel_rfl) (fun _ _ _ h => h) (Or.inr ⟨by rfl, rfl⟩) hS5 ?_
              simp only [Act.put, List.setIfInBounds_toArray, List.set_cons_zero, List.set_cons_succ]
              refine wpAnyH_takeD (i := 11) (v := undef) (some 44) rfl rfl (by kernel_rfl) (by kernel_rfl) (by kernel_rfl) (fun _ _ _ h => h) (Or.inr ⟨by rfl, rfl⟩) hS5 ?_
              simp only [Act.put, List.setIfInBounds_toArray, List.set_cons_zero, List.set_cons_succ]
              refine wpAnyH_takeD (i := 12) (v := undef) (some 45) rfl rfl (by kernel_rfl) (by kernel_rfl) (by kernel_rfl) (fun _ _ _ h => h) (Or.inr ⟨by rfl, rfl⟩) hS5 ?_
              simp only [Act.put, List.setIfInBounds_toArray, List.set_cons_zero, List.set_cons_succ]
              refine wpAnyH_takeD (i := 13) (v := undef) (some 46) rfl rfl (by kernel_rfl) (by kernel_rfl) (by kernel_rfl) (fun _ _ _ h => h) (Or.inr ⟨by rfl, rfl⟩) hS5 ?_
              simp only [Act.put, List.setIfInBounds_toArray, List.set_cons_zero, List.set_cons_succ]
              refine wpAnyH_takeD (i := 14) (v := undef) (some 47) rfl rfl (by kernel_rfl) (by kernel_rfl) (by kernel_rfl) (fun _ _ _ h => h) (Or.inr ⟨by rfl, rfl⟩) hS5 ?_
              simp only [Act.put, List.setIfInBounds_toArray, List.set_cons_zero, List.set_cons_succ]
              refine wpAnyH_takeD (i := 15) (v := undef) (some 48) rfl rfl (by kernel_rfl) (by kernel_rfl) (by kernel_rfl) (fun _ _ _ h => h) (Or.inr ⟨by rfl, rfl⟩) hS5 ?_
              simp only [Act.put, List.setIfInBounds_toArray, List.set_cons_zero, List.set_cons_succ]
              refine wpAnyH_takeD (i := 16) (v := undef) (some 49) rfl rfl (by kernel_rfl) (by kernel_rfl) (by kernel_rfl) (fun _ _ _ h => h) (Or.inr ⟨by rfl, rfl⟩) hS5 ?_
              simp only [Act.put, List.setIfInBounds_toArray, List.set_cons_zero, List.set_cons_succ]
              refine wpAnyH_takeD (i := 17) (v := .bool false) (some 50) rfl rfl (by kernel_rfl) (by kernel_rfl) (by kernel_rfl) (fun _ _ _ h => h) (Or.inl ⟨by rfl, by intro W _; go_simp⟩) hS5 ?_
              simp only [Act.put, List.setIfInBounds_toArray, List.set_cons_zero, List.set_cons_succ]
              refine wpAnyH_takeD (i := 18) (v := .bool false) (some 4) rfl rfl (by kernel_rfl) (by kernel_rfl) (by kernel_rfl) (fun _ _ _ h => h) (Or.inl ⟨by rfl, by intro W _; go_simp⟩) hS5 ?_
              simp only [Act.put, List.setIfInBounds_toArray, List.set_cons_zero, List.set_cons_succ]
              clear hS5
              refine wpAnyH_done (by kernel_rfl) ?_ _
              go_wp2_with fail
              go_ret
              refine ⟨false, rfl, ?_, hb5⟩
              have zHub := Hub.out
              have zHuo := Huo.out
              have zHGT := HGT.out
              have zHK1 := HK1.out
              have zHK2 := HK2.out
              have zHLE := HLE.out
              constructor
              · intro h
                first
                  | (cases h; done)
                  | exact ⟨zHub, zHuo, by omega, .inl ⟨zHK1, zHPA⟩⟩
                  | exact ⟨zHub, zHuo, by omega, .inr (.inl ⟨zHK2, (begins_iff a p).2 ⟨by omega, zHEX⟩⟩)⟩
                  | exact ⟨zHub, zHuo, by omega, .inr (.inr ⟨by have := zHub.kinds; omega, zHug, zHGE.trans zHGV⟩)⟩
              · intro h
                first
                  | rfl
                  | (exfalso
                     obtain ⟨h1, h2, h3, h4⟩ := h
                     first
                       | exact zHub h1
                       | exact zHuo h2
                       | omega
                       | (rcases h4 with ⟨e1, e2⟩ | ⟨e1, e2⟩ | ⟨e1, e2, e3⟩
                          all_goals first
                            | omega
                            | exact zHPA e2
                            | exact zHEX ((begins_iff a p).1 e2).2
                            | (have := ((begins_iff a p).1 e2).1; omega)
                            | exact zHug e2
                            | exact zHGV (zHGE.symm.trans e3)))
          · have hc3b : ((k : Int) == (2 : Int)) = false := by simpa using hc3
            have hc3n : ((k : Int) != (2 : Int)) = true := by simpa using hc3
            have HK2 : Hid (¬ (k = 2)) := hc3
            have hc3H : Hid (¬ (k = 2)) := hc3
            clear hc3
            have cv1_1 : (w4).cell? ⟨qv1, 1, none⟩ = some (.string a) := (cell_of HBv1_4.out 1).trans rfl
            have cv2_4 : (w4).cell? ⟨qv2, 4, none⟩ = some (.slice o3 n3 c3) := (cell_of HBv2_4.out 4).trans rfl
            go_wp2_with fail
            refine (specGet_any _ n3 base fs a _ (HV3.out _ hb4) (by omega)).mono ?_
            rintro e w5 ⟨rfl, hwe⟩
            have bw : Below (w4).heap.size (w4) w5 := by rw [hwe]; exact Below.refl _ _
            clear hwe
            obtain ⟨gv, hgv⟩ : ∃ x, x = getV fs a := ⟨_, rfl⟩
            obtain ⟨ug, hug⟩ : ∃ x, x = getB fs a := ⟨_, rfl⟩
            have HGE : Hid (getV fs a = gv) := hgv.symm
            rw [← hgv, ← hug]
            clear hgv
            have hb5 : Below w.heap.size w (w5) := hb4.trans (bw.mono hb4.size)
            have HM5 : Hid ((w4).heap.size ≤ (w5).heap.size) := bw.size
            have HBv1_5 : Hid ((w5).heap[qv1]? = some (.cells #[.int .i64 k, .string a, .string b, .int .i64 t] 26)) := blk_below HBv1_4.out bw
            have HBv2_5 : Hid ((w5).heap[qv2]? = some (.cells #[.string p, .slice o1 n1 c1, .slice o2 n2 c2, .int .i64 st, .slice o3 n3 c3, .string d, .int .i64 u] 41)) := blk_below HBv2_4.out bw
            clear hb4 HBv1_4 HBv2_4 bw
            clear cv1_3 cv2_6 cv1_0 cv1_1 cv2_4
            cases ug with
            | false =>
              have Hug : Hid (¬ getB fs a = true) := (by show ¬ _; rw [← hug]; decide)
              clear hug
              go_wp2_with fail
              go_ret
              refine ⟨false, rfl, ?_, hb5⟩
              have zHub := Hub.out
              have zHuo := Huo.out
              have zHGT := HGT.out
              have zHK1 := HK1.out
              have zHK2 := HK2.out
              have zHug := Hug.out
              have zHGE := HGE.out
              constructor
              · intro h
                first
                  | (cases h; done)
                  | exact ⟨zHub, zHuo, by omega, .inl ⟨zHK1, zHPA⟩⟩
                  | exact ⟨zHub, zHuo, by omega, .inr (.inl ⟨zHK2, (begins_iff a p).2 ⟨by omega, zHEX⟩⟩)⟩
                  | exact ⟨zHub, zHuo, by omega, .inr (.inr ⟨by have := zHub.kinds; omega, zHug, zHGE.trans zHGV⟩)⟩
              · intro h
                first
                  | rfl
                  | (exfalso
                     obtain ⟨h1, h2, h3, h4⟩ := h
                     first
                       | exact zHub h1
                       | exact zHuo h2
                       | omega
                       | (rcases h4 with ⟨e1, e2⟩ | ⟨e1, e2⟩ | ⟨e1, e2, e3⟩
                          all_goals first
                            | omega
                            | exact zHPA e2
                            | exact zHEX ((begins_iff a p).1 e2).2
                            | (have := ((begins_iff a p).1 e2).1; omega)
                            | exact zHug e2
                            | exact zHGV (zHGE.symm.trans e3)))
            | true =>
              have Hug : Hid (getB fs a = true) := hug.symm
              clear hug
              have cv1_2 : (w5).cell? ⟨qv1, 2, none⟩ = some (.string b) := (cell_of HBv1_5.out 2).trans rfl
              by_cases hc4 : gv = b
              · have hc4b : ((gv).toList == (b).toList) = true := (text_beq _ _).2 hc4
                have HGV : Hid (gv = b) := hc4
                go_wp2_with fail
                go_ret
                refine ⟨true, rfl, ?_, hb5⟩
                have zHub := Hub.out
                have zHuo := Huo.out
                have zHGT := HGT.out
                have zHK1 := HK1.out
                have zHK2 := HK2.out
                have zHug := Hug.out
                have zHGE := HGE.out
                have zHGV := HGV.out
                constructor
                · intro h
                  first
                    | (cases h; done)
                    | exact ⟨zHub, zHuo, by omega, .inl ⟨zHK1, zHPA⟩⟩
                    | exact ⟨zHub, zHuo, by omega, .inr (.inl ⟨zHK2, (begins_iff a p).2 ⟨by omega, zHEX⟩⟩)⟩
                    | exact ⟨zHub, zHuo, by omega, .inr (.inr ⟨by have := zHub.kinds; omega, zHug, zHGE.trans zHGV⟩)⟩
                · intro h
                  first
                    | rfl
                    | (exfalso
                       obtain ⟨h1, h2, h3, h4⟩ := h
                       first
                         | exact zHub h1
                         | exact zHuo h2
                         | omega
                         | (rcases h4 with ⟨e1, e2⟩ | ⟨e1, e2⟩ | ⟨e1, e2, e3⟩
                            all_goals first
                              | omega
                              | exact zHPA e2
                              | exact zHEX ((begins_iff a p).1 e2).2
                              | (have := ((begins_iff a p).1 e2).1; omega)
                              | exact zHug e2
                              | exact zHGV (zHGE.symm.trans e3)))
              · have hc4b : ((gv).toList == (b).toList) = false := text_beq_no hc4
                have HGV : Hid (¬ (gv = b)) := hc4
                go_wp2_with fail
                go_ret
                refine ⟨false, rfl, ?_, hb5⟩
                have zHub := Hub.out
                have zHuo := Huo.out
                have zHGT := HGT.out
                have zHK1 := HK1.out
                have zHK2 := HK2.out
                have zHug := Hug.out
                have zHGE := HGE.out
                have zHGV := HGV.out
                constructor
                · intro h
                  first
                    | (cases h; done)
                    | exact ⟨zHub, zHuo, by omega, .inl ⟨zHK1, zHPA⟩⟩
                    | exact ⟨zHub, zHuo, by omega, .inr (.inl ⟨zHK2, (begins_iff a p).2 ⟨by omega, zHEX⟩⟩)⟩
                    | exact ⟨zHub, zHuo, by omega, .inr (.inr ⟨by have := zHub.kinds; omega, zHug, zHGE.trans zHGV⟩)⟩
                · intro h
                  first
                    | rfl
                    | (exfalso
                       obtain ⟨h1, h2, h3, h4⟩ := h
                       first
                         | exact zHub h1
                         | exact zHuo h2
                         | omega
                         | (rcases h4 with ⟨e1, e2⟩ | ⟨e1, e2⟩ | ⟨e1, e2, e3⟩
                            all_goals first
                              | omega
                              | exact zHPA e2
                              | exact zHEX ((begins_iff a p).1 e2).2
                              | (have := ((begins_iff a p).1 e2).1; omega)
                              | exact zHug e2
                              | exact zHGV (zHGE.symm.trans e3)))

end Go.Proofs.Ytlmenolcgaakeaa

namespace Go.Proofs.Ytlmenolcgaakeaa
open Go.RowKit
open Go.Lib hiding intOf

/-- One of the bans hits. -/
def AnyP (l : List (Int × ByteArray × ByteArray × Int)) (p : ByteArray) (xs ys : List ByteArray) (st : Int) (fs : List (ByteArray × ByteArray)) (d : ByteArray) (u : Int) : Prop := ∃ x ∈ l, HitP x.1 x.2.1 x.2.2.1 x.2.2.2 p xs ys st fs d u

set_option maxHeartbeats 8000000 in
set_option maxRecDepth 100000 in
theorem specHitsAny_any (oa : Option Addr) (n cap : Nat) (l : List (Int × ByteArray × ByteArray × Int)) (p : ByteArray) (o1 : Option Addr) (n1 c1 : Nat) (xs : List ByteArray) (o2 : Option Addr) (n2 c2 : Nat) (ys : List ByteArray) (st : Int) (v3 : Value) (n3 base : Nat) (fs : List (ByteArray × ByteArray)) (d : ByteArray) (u : Int) (w : World) (hl : BanA w oa n l) (hn : n ≤ 2000000) (hlz : ∀ x ∈ l, x.2.1.size ≤ maxLen ∧ x.2.2.1.size ≤ maxLen) (h1 : TextsA w o1 n1 xs) (h2 : TextsA w o2 n2 ys) (h3 : FieldsV w base v3 n3 fs) (hn1 : n1 ≤ 2000000) (hn2 : n2 ≤ 2000000) (hn3 : n3 ≤ 2000000) (hs1 : ∀ i, i < n1 → (textAt xs i).size ≤ maxLen) (hs2 : ∀ i, i < n2 → (textAt ys i).size ≤ maxLen) (hs3 : WalkF n3 fs) (hp : p.size ≤ maxLen) (hx : d.size ≤ maxLen) (hg : (getV fs varyName).size ≤ 1048576) :
    Calls Try.prog 16 #[.slice oa n cap, .agg #[.string p, .slice o1 n1 c1, .slice o2 n2 c2, .int .i64 st, v3, .string d, .int .i64 u]] w fun e w' => BoolIs (AnyP l p xs ys st fs d u) w e w' := by
  obtain ⟨o3, c3, rfl, _⟩ := h3.slice
  have HL : Hid (∀ W, Below w.heap.size w W → BanA W oa n l) := fun W h => hl.below h
  have HLN : Hid (l.length = n) := hl.1
  have HC : Hid (∀ (k : Int) (a b : ByteArray) (t : Int) (W : World), Below w.heap.size w W → a.size ≤ maxLen → b.size ≤ maxLen → Calls Try.prog 11 #[.agg #[.int .i64 k, .string a, .string b, .int .i64 t], .agg #[.string p, .slice o1 n1 c1, .slice o2 n2 c2, .int .i64 st, .slice o3 n3 c3, .string d, .int .i64 u]] W fun e w' => BoolIs (HitP k a b t p xs ys st fs d u) W e w') := fun k a b t W h ha hb =>
    specHits_any k a b t p o1 n1 c1 xs o2 n2 c2 ys st _ n3 base fs d u W ha hb (h1.below h) (h2.below h) (h3.below h) hn1 hn2 hn3 hs1 hs2 hs3 hp hx hg
  have HLZ : Hid (∀ x ∈ l, x.2.1.size ≤ maxLen ∧ x.2.2.1.size ≤ maxLen) := hlz
  obtain ⟨q, hq⟩ : ∃ q, q = w.heap.size := ⟨_, rfl⟩
  obtain ⟨W1, hW1⟩ : ∃ W, W = w.alloc (.cells #[.string p, .slice o1 n1 c1, .slice o2 n2 c2, .int .i64 st, .slice o3 n3 c3, .string d, .int .i64 u] 41) := ⟨_, rfl⟩
  have H1 : Hid (Below w.heap.size w W1 ∧ W1.heap[q]? = some (.cells #[.string p, .slice o1 n1 c1, .slice o2 n2 c2, .int .i64 st, .slice o3 n3 c3, .string d, .int .i64 u] 41)) := ⟨by rw [hW1]; exact (Below.refl _ _).alloc (Nat.le_refl _) _, by rw [hW1, hq]; exact heap_alloc_new _ _⟩
  clear hl hlz h1 h2 h3 hs1 hs2 hs3 hp hx hg
  go_enter Try.func16, Try.ntmps16
  go_upto_region 1 with fail
  rw [← hW1, ← hq]
  clear hW1 hq
  go_wp2_with fail
  go_loopw [5] (fun i wr => ∃ j : Nat, j ≤ n ∧ i = .int .i64 (j : Int) ∧ Hid (Below w.heap.size w wr ∧ wr.heap[q]? = some (.cells #[.string p, .slice o1 n1 c1, .slice o2 n2 c2, .int .i64 st, .slice o3 n3 c3, .string d, .int .i64 u] 41)) ∧ Hid (∀ x ∈ l.take j, ¬ HitP x.1 x.2.1 x.2.2.1 x.2.2.2 p xs ys st fs d u)) (fun i _ => n - (intOf i).toNat)
  case atStart => exact ⟨0, Nat.zero_le _, rfl, H1, fun x hx => by simp at hx⟩
  case round =>
    obtain ⟨j, hj, rfl, HW, HN⟩ := hrel
    by_cases hlt : (j : Int) < (n : Int)
    · have hjx : j < l.length := by rw [HLN.out]; omega
      obtain ⟨g, hog, hgl, r1, r2, r3, r4⟩ := (HL.out wr HW.out.1).2 j (by omega)
      subst hog
      obtain ⟨y, hy⟩ : ∃ y, y = banAt l j := ⟨_, rfl⟩
      rw [← hy] at r1 r2 r3 r4
      have HM : Hid (y ∈ l) := by show _ ∈ _; rw [hy]; exact banAt_mem l j hjx
      have HTK : Hid (l.take (j + 1) = l.take j ++ [y]) := by show _ = _; rw [hy]; exact take_banAt l j hjx
      clear hy hjx
      obtain ⟨k, a, b, t⟩ := y
      dsimp only at r1 r2 r3 r4
      obtain ⟨za, zb⟩ := HLZ.out _ HM.out
      dsimp only at za zb
      have hob := HW.out.2
      have e0 : wr.cell? ⟨q, 0, none⟩ = some (.string p) := (cell_of hob 0).trans rfl
      have e1 : wr.cell? ⟨q, 1, none⟩ = some (.slice o1 n1 c1) := (cell_of hob 1).trans rfl
      have e2 : wr.cell? ⟨q, 2, none⟩ = some (.slice o2 n2 c2) := (cell_of hob 2).trans rfl
      have e3 : wr.cell? ⟨q, 3, none⟩ = some (.int .i64 st) := (cell_of hob 3).trans rfl
      have e4 : wr.cell? ⟨q, 4, none⟩ = some (.slice o3 n3 c3) := (cell_of hob 4).trans rfl
      have e5 : wr.cell? ⟨q, 5, none⟩ = some (.string d) := (cell_of hob 5).trans rfl
      have e6 : wr.cell? ⟨q, 6, none⟩ = some (.int .i64 u) := (cell_of hob 6).trans rfl
      have HSB : Hid (∀ W, Below wr.heap.size wr W → ((W.cell? ⟨g, j * 4, none⟩ = some (.int .i64 k) ∧ W.cell? ⟨g, j * 4 + 1, none⟩ = some (.string a) ∧ W.cell? ⟨g, j * 4 + 2, none⟩ = some (.string b) ∧ W.cell? ⟨g, j * 4 + 3, none⟩ = some (.int .i64 t)) ∧ (W.cell? ⟨q, 0, none⟩ = some (.string p) ∧ W.cell? ⟨q, 1, none⟩ = some (.slice o1 n1 c1) ∧ W.cell? ⟨q, 2, none⟩ = some (.slice o2 n2 c2) ∧ W.cell? ⟨q, 3, none⟩ = some (.int .i64 st) ∧ W.cell? ⟨q, 4, none⟩ = some (.slice o3 n3 c3) ∧ W.cell? ⟨q, 5, none⟩ = some (.string d) ∧ W.cell? ⟨q, 6, none⟩ = some (.int .i64 u))) ∧ W.heap[q]? = some (.cells #[.string p, .slice o1 n1 c1, .slice o2 n2 c2, .int .i64 st, .slice o3 n3 c3, .string d, .int .i64 u] 41)) := fun W h => by
        have hb2 := blk_below HW.out.2 h
        exact ⟨⟨⟨by rw [h.cell (p := ⟨g, j * 4, none⟩) hgl]; exact r1, by rw [h.cell (p := ⟨g, j * 4 + 1, none⟩) hgl]; exact r2, by rw [h.cell (p := ⟨g, j * 4 + 2, none⟩) hgl]; exact r3, by rw [h.cell (p := ⟨g, j * 4 + 3, none⟩) hgl]; exact r4⟩, (cell_of hb2 0).trans rfl, (cell_of hb2 1).trans rfl, (cell_of hb2 2).trans rfl, (cell_of hb2 3).trans rfl, (cell_of hb2 4).trans rfl, (cell_of hb2 5).trans rfl, (cell_of hb2 6).trans rfl⟩, hb2⟩
      have HBW : Hid (Below w.heap.size w wr) := HW.out.1
      clear hob HW
      go_wp2_with fail
      refine wp_region_held_drew (S := fun W => (W.cell? ⟨g, j * 4, none⟩ = some (.int .i64 k) ∧ W.cell? ⟨g, j * 4 + 1, none⟩ = some (.string a) ∧ W.cell? ⟨g, j * 4 + 2, none⟩ = some (.string b) ∧ W.cell? ⟨g, j * 4 + 3, none⟩ = some (.int .i64 t)) ∧ (W.cell? ⟨q, 0, none⟩ = some (.string p) ∧ W.cell? ⟨q, 1, none⟩ = some (.slice o1 n1 c1) ∧ W.cell? ⟨q, 2, none⟩ = some (.slice o2 n2 c2) ∧ W.cell? ⟨q, 3, none⟩ = some (.int .i64 st) ∧ W.cell? ⟨q, 4, none⟩ = some (.slice o3 n3 c3) ∧ W.cell? ⟨q, 5, none⟩ = some (.string d) ∧ W.cell? ⟨q, 6, none⟩ = some (.int .i64 u))) (by kernel_rfl) ⟨⟨r1, r2, r3, r4⟩, e0, e1, e2, e3, e4, e5, e6⟩ (fun hS0 => ?_)
      refine wpAnyH_takeD (i := 0) (v := .slice (some ⟨g, 0, none⟩) n cap) (some 12) rfl rfl (by kernel_rfl) (by kernel_rfl) (by kernel_rfl) (fun _ _ _ h => h) (Or.inl ⟨by rfl, by intro W _; go_simp⟩) hS0 ?_
      simp only [Act.put, List.setIfInBounds_toArray, List.set_cons_zero, List.set_cons_succ]
      refine wpAnyH_takeD (i := 1) (v := .int .i64 (j : Int)) (some 13) rfl rfl (by kernel_rfl) (by kernel_rfl) (by kernel_rfl) (fun _ _ _ h => h) (Or.inl ⟨by rfl, by intro W _; go_simp⟩) hS0 ?_
      simp only [Act.put, List.setIfInBounds_toArray, List.set_cons_zero, List.set_cons_succ]
      refine wpAnyH_takeD (i := 2) (v := .pointer (some ⟨g, j * 4, none⟩)) (some 14) rfl rfl (by kernel_rfl) (by kernel_rfl) (by kernel_rfl) (fun _ _ _ h => h) (Or.inl ⟨by rfl, by intro W _; go_simp⟩) hS0 ?_
      simp only [Act.put, List.setIfInBounds_toArray, List.set_cons_zero, List.set_cons_succ]
      refine wpAnyH_takeD (i := 3) (v := .agg #[.int .i64 k, .string a, .string b, .int .i64 t]) (some 15) rfl rfl (by kernel_rfl) (by kernel_rfl) (by kernel_rfl) (fun _ _ _ h => h) (Or.inl ⟨by rfl, by intro W hW; obtain ⟨⟨y0, y1, y2, y3⟩, _⟩ := hW; go_simp⟩) hS0 ?_
      simp only [Act.put, List.setIfInBounds_toArray, List.set_cons_zero, List.set_cons_succ]
      refine wpAnyH_takeD (i := 4) (v := .agg #[.string p, .slice o1 n1 c1, .slice o2 n2 c2, .int .i64 st, .slice o3 n3 c3, .string d, .int .i64 u]) (some 16) rfl rfl (by kernel_rfl) (by kernel_rfl) (by kernel_rfl) (fun _ _ _ h => h) (Or.inl ⟨by rfl, by intro W hW; obtain ⟨_, y0, y1, y2, y3, y4, y5, y6⟩ := hW; go_simp⟩) hS0 ?_
      simp only [Act.put, List.setIfInBounds_toArray, List.set_cons_zero, List.set_cons_succ]
      refine wpAnyH_ready (rs := [5]) (by kernel_rfl) (by simp) ?_
      refine AllReadyH.cons rfl (fun K hK => ?_) AllReadyH.nil
      go_simp
      refine (HC.out k a b t _ HBW.out.drew za zb).mono ?_
      rintro e w1 ⟨tx, rfl, htx, bw⟩
      have HB1 : Hid (Below wr.heap.size wr w1) := (Below.refl _ wr).drew.trans bw
      have HW1 : Hid (Below w.heap.size w w1 ∧ w1.heap[q]? = some (.cells #[.string p, .slice o1 n1 c1, .slice o2 n2 c2, .int .i64 st, .slice o3 n3 c3, .string d, .int .i64 u] 41)) := ⟨HBW.out.trans (HB1.out.mono HBW.out.size), (HSB.out w1 HB1.out).2⟩
      refine hK.out _ _ (HSB.out w1 HB1.out).1 (fun _ => ?_)
      refine wpAnyH_done (by kernel_rfl) ?_ _
      clear hK K hS0 r1 r2 r3 r4 e0 e1 e2 e3 e4 e5 e6 bw HSB HB1 HBW
      cases tx with
      | true =>
        have HA : Hid (AnyP l p xs ys st fs d u) := ⟨_, HM.out, htx.1 rfl⟩
        clear htx HN
        go_wp2_with fail
        go_ret
        exact ⟨true, rfl, ⟨fun _ => HA.out, fun _ => rfl⟩, HW1.out.1⟩
      | false =>
        have HN2 : Hid (∀ x ∈ l.take (j + 1), ¬ HitP x.1 x.2.1 x.2.2.1 x.2.2.2 p xs ys st fs d u) := by
          intro x hx
          rw [HTK.out] at hx
          rcases List.mem_append.1 hx with hx | hx
          · exact HN.out x hx
          · rw [List.mem_singleton.1 hx]; exact fun h => nomatch htx.2 h
        clear htx HN
        go_wp2_with fail
        go_roundw
        case rel => exact ⟨j + 1, by omega, by go_num, HW1, HN2⟩
        case measure => simp [intOf]; omega
    · have HA : Hid (¬ AnyP l p xs ys st fs d u) := by
        rintro ⟨x, hx, h⟩
        have h2 := HN.out
        rw [List.take_of_length_le (by rw [HLN.out]; omega)] at h2
        exact h2 x hx h
      clear HN
      go_wp2_with fail
      go_ret
      exact BoolIs.no HA.out HW.out.1

end Go.Proofs.Ytlmenolcgaakeaa

namespace Go.Proofs.Ytlmenolcgaakeaa
open Go.RowKit
open Go.Lib hiding intOf

set_option maxHeartbeats 1000000 in
theorem fieldOk_any (v : Value) (n base : Nat) (fs : List (ByteArray × ByteArray)) (k : Nat) (w : World) (hv : FieldsV w base v n fs) (hn : n ≤ 1073741824) (hk : k < n) (hs1 : (nameAt fs k).size ≤ maxLen) (hs2 : (valAt fs k).size ≤ maxLen) :
    Calls Try.prog 78 #[v, .int .i64 (k : Int)] w fun e w' => BoolIs (FldOk fs k) w e w' := by
  have HV : Hid (∀ W, Below w.heap.size w W → FieldsV W base v n fs) := fun W h => hv.below h
  obtain ⟨oa, cap, rfl, hrow⟩ := hv.slice
  obtain ⟨g, rfl, row⟩ := hrow k hk
  have hlt2 : (k : Int) < (n : Int) := by omega
  have hc1 := row.name k hk
  have hc2 := row.val k hk
  obtain ⟨nm, hnm⟩ : ∃ x, x = nameAt fs k := ⟨_, rfl⟩
  obtain ⟨vl, hvl⟩ : ∃ x, x = valAt fs k := ⟨_, rfl⟩
  have HO : Hid (FldOk fs k ↔ TokOk nm ∧ ValOk vl ∧ atF fs nm = k ∧ nm ≠ clen) := by rw [hnm, hvl]; exact Iff.rfl
  rw [← hnm] at hc1 hs1
  rw [← hvl] at hc2 hs2
  clear hv hrow row hnm hvl
  obtain ⟨r, hr⟩ : ∃ r, r = w.heap.size := ⟨_, rfl⟩
  have h0 : (w.alloc (.cells #[.string nm, .string vl] 83)).heap.size = w.heap.size + 1 := by simp
  have HB0 : Hid (Below w.heap.size w (w.alloc (.cells #[.string nm, .string vl] 83)) ∧ w.heap.size ≤ (w.alloc (.cells #[.string nm, .string vl] 83)).heap.size) := ⟨(Below.refl _ w).alloc (Nat.le_refl _) _, by omega⟩
  have HR : Hid (∀ W, Below (w.alloc (.cells #[.string nm, .string vl] 83)).heap.size (w.alloc (.cells #[.string nm, .string vl] 83)) W → W.cell? ⟨r, 0, none⟩ = some (.string nm) ∧ W.cell? ⟨r, 1, none⟩ = some (.string vl)) := fun W h => by
    have hh : W.heap[r]? = some (.cells #[.string nm, .string vl] 83) := by rw [hr, h.block _ (by omega)]; exact heap_alloc_new w _
    exact ⟨by simp [World.cell?, hh], by simp [World.cell?, hh]⟩
  go_enter Try.func78, Try.ntmps78
  go_wp2_with fail
  refine (implTokenOk_any nm _ hs1).mono ?_
  rintro e w1 ⟨b1, rfl, kb1, bb1⟩
  rw [← hr]
  have hb1 : Below w.heap.size w w1 := HB0.out.1.trans (bb1.mono HB0.out.2)
  obtain ⟨d1, d2⟩ := HR.out w1 bb1
  clear h0
  cases b1
  · have HF : Hid (¬ FldOk fs k) := fun h => by have := kb1.2 (HO.out.1 h).1; cases this
    clear kb1 hc1 hc2 bb1 hr
    go_wp2_with fail
    go_ret
    exact BoolIs.no HF.out hb1
  · have HT : Hid (TokOk nm) := kb1.1 rfl
    clear kb1 hc1 hc2 hr
    go_wp2_with fail
    refine (implValueOk_any vl _ hs2).mono ?_
    rintro e w2 ⟨b2, rfl, kb2, bb2⟩
    have bb2' := bb1.trans (bb2.mono bb1.size)
    have hb2 : Below w.heap.size w w2 := HB0.out.1.trans (bb2'.mono HB0.out.2)
    obtain ⟨d3, d4⟩ := HR.out w2 bb2'
    cases b2
    · have HF : Hid (¬ FldOk fs k) := fun h => by have := kb2.2 (HO.out.1 h).2.1; cases this
      clear kb2 bb1 bb2 bb2' hb1 d1 d2
      go_wp2_with fail
      go_ret
      exact BoolIs.no HF.out hb2
    · have HT2 : Hid (ValOk vl) := kb2.1 rfl
      clear kb2 bb1 bb2 bb2' hb1 d1 d2
      by_cases hcl : nm = clen
      · have ht := (text_beq _ _).2 hcl
        rw [clen_list] at ht
        have HF : Hid (¬ FldOk fs k) := fun h => (HO.out.1 h).2.2.2 hcl
        clear hcl
        go_wp2_with fail
        go_ret
        exact BoolIs.no HF.out hb2
      · have ht := text_beq_no hcl
        rw [clen_list] at ht
        have HC : Hid (nm ≠ clen) := hcl
        clear hcl
        go_wp2_with fail
        refine (place_any _ n base fs nm _ (HV.out w2 hb2) hn).mono ?_
        rintro e w3 ⟨rfl, rfl⟩
        by_cases hat : atF fs nm = k
        · have HY : Hid (FldOk fs k) := HO.out.2 ⟨HT.out, HT2.out, hat, HC.out⟩
          rw [hat]
          clear hat
          go_wp2
          go_ret
          exact BoolIs.yes HY.out hb2
        · have HF : Hid (¬ FldOk fs k) := fun h => hat (HO.out.1 h).2.2.1
          have hne : ((atF fs nm : Int) == (k : Int)) = false := by rw [beq_eq_false_iff_ne]; omega
          clear hat
          go_wp2
          go_ret
          exact BoolIs.no HF.out hb2

set_option maxHeartbeats 1000000 in
theorem ok_any (v : Value) (n base : Nat) (fs : List (ByteArray × ByteArray)) (w : World) (hv : FieldsV w base v n fs) (hn : n ≤ 1073741824) (hsz : ∀ i, i < n → (nameAt fs i).size ≤ maxLen ∧ (valAt fs i).size ≤ maxLen) :
    Calls Try.prog 74 #[v] w fun e w' => BoolIs (FldsOk fs) w e w' := by
  have hl := hv.len
  have HV : Hid (∀ W, Below w.heap.size w W → FieldsV W base v n fs) := fun W h => hv.below h
  have HS : Hid (∀ i, i < n → (nameAt fs i).size ≤ maxLen ∧ (valAt fs i).size ≤ maxLen) := hsz
  obtain ⟨oa, cap, rfl, hrow⟩ := hv.slice
  clear hv hrow hsz
  by_cases h8 : (8 : Int) < (n : Int)
  · have HF : Hid (¬ FldsOk fs) := fun h => by have := h.1; omega
    go_enter Try.func74, Try.ntmps74
    go_wp2
    go_ret
    exact BoolIs.no HF.out (Below.refl _ _)
  · go_enter Try.func74, Try.ntmps74
    go_wp2
    go_loopw [9] (fun i wr => ∃ k : Nat, k ≤ n ∧ i = .int .i64 (k : Int) ∧ Hid (∀ j, j < k → FldOk fs j) ∧ Below w.heap.size w wr) (fun i _ => n - (intOf i).toNat)
    case atStart => exact ⟨0, Nat.zero_le _, rfl, fun j h => absurd h (by omega), Below.refl _ _⟩
    case round =>
      obtain ⟨k, hk, rfl, hall, hbw⟩ := hrel
      by_cases hlt : k < n
      · have hlt2 : (k : Int) < (n : Int) := by omega
        obtain ⟨hs1, hs2⟩ := HS.out k hlt
        go_wp2_with fail
        refine (fieldOk_any _ n base fs k _ (HV.out wr hbw) hn hlt hs1 hs2).mono ?_
        rintro e w1 ⟨b1, rfl, kb1, bb1⟩
        have hb1 : Below w.heap.size w w1 := hbw.trans (bb1.mono hbw.size)
        cases b1
        · have HF : Hid (¬ FldsOk fs) := fun h => by have := kb1.2 (h.2 k (by omega)); cases this
          clear kb1 bb1
          go_wp2
          go_ret
          exact BoolIs.no HF.out hb1
        · have HY : Hid (FldOk fs k) := kb1.1 rfl
          clear kb1 bb1
          go_wp2
          go_roundw
          case rel =>
            refine ⟨k + 1, by omega, by go_num, ?_, hb1⟩
            intro j hj
            by_cases e : j = k
            · subst e; exact HY.out
            · exact hall.out j (by omega)
          case measure => simp [intOf]; omega
      · have HF : Hid (FldsOk fs) := ⟨by omega, fun i hi => hall.out i (by omega)⟩
        go_wp2
        go_ret
        exact BoolIs.yes HF.out hbw

end Go.Proofs.Ytlmenolcgaakeaa

namespace Go.Proofs.Ytlmenolcgaakeaa
open Go.RowKit
open Go.Lib hiding intOf

theorem path_cls (n : Int) : PathB n ↔ (cls n ≠ 4 ∧ cls n ≠ 7) := by
  have := cls_spec n
  unfold PathB
  constructor
  · intro h; omega
  · intro h; omega
theorem path_small {n : Int} (h : PathB n) : n < 128 := by unfold PathB at h; omega

set_option maxHeartbeats 400000 in
theorem isPathRune_any (r : Int) (w : World) :
    Calls Try.prog 60 #[.int .i32 r] w fun e w' => BoolIs (PathB r) w e w' := by
  have HP : Hid (PathB r ↔ (cls r ≠ 4 ∧ cls r ≠ 7)) := path_cls r
  go_enter Try.func60, Try.ntmps60
  go_wp2_with fail
  refine (classOf_any r _).mono ?_
  rintro e w1 ⟨rfl, hb⟩
  generalize cls r = c at HP ⊢
  by_cases h4 : c = 4
  · have HN : Hid (¬ PathB r) := fun h => (HP.out.1 h).1 h4
    subst h4
    go_wp2_with fail
    go_ret
    exact BoolIs.no HN.out hb
  · have h5 : (c != 4) = true := by rw [bne_iff_ne]; exact h4
    by_cases h7 : c = 7
    · have HN : Hid (¬ PathB r) := fun h => (HP.out.1 h).2 h7
      subst h7
      go_wp2_with fail
      go_ret
      exact BoolIs.no HN.out hb
    · have h8 : (c != 7) = true := by rw [bne_iff_ne]; exact h7
      have HY : Hid (PathB r) := HP.out.2 ⟨h4, h7⟩
      go_wp2_with fail
      go_ret
      exact BoolIs.yes HY.out hb

set_option maxHeartbeats 1000000 in
theorem allRunes_path (s : ByteArray) (w : World) :
    Calls Try.prog 59 #[.string s, .func (.func 60) #[] #[]] w fun e w' => BoolIs (AllB PathB s) w e w' := by
  go_enter Try.func59, Try.ntmps59
  go_wp2
  go_loopw [6] (fun _ wr => ∃ pos : Nat, wr.heap[w.heap.size]? = some (.stringIter s pos) ∧ Below w.heap.size w wr ∧ Hid (AllTo PathB s pos)) (fun _ wr => s.size - wr.iterPos w.heap.size)
  case atStart => exact ⟨0, World.iter_heap _ _ _, (Below.refl _ _).alloc (Nat.le_refl _) _, allTo_zero _ _⟩
  case round =>
    obtain ⟨pos, hh, hbw, hall⟩ := hrel
    by_cases hp : pos < s.size
    · have hnx := fun ty => run_next_any_at (P := Try.prog) wr w.heap.size s pos ty hh hp
      go_wp2_with (go_at_call 60; refine (isPathRune_any _ _).mono ?_; rintro e w1 ⟨b, rfl, hbt, hb1⟩)
      · have hbf : b = false := by simpa using ‹(!b) = true›
        have hno : ¬ PathB ((Utf8.decode s pos).1 : Int) := fun h => by rw [hbt.2 h] at hbf; cases hbf
        go_ret
        exact BoolIs.no (rune_no (fun _ => path_small) s pos hp hno) (iter_step hh hbw hb1).2
      · have hbf : b = true := by simpa using ‹(!b) = false›
        obtain ⟨hv, hone⟩ := rune_ok (fun _ => path_small) s pos hp (hbt.1 hbf)
        rw [hone] at hb1
        obtain ⟨h1, h2⟩ := iter_step hh hbw hb1
        exact ⟨⟨pos + 1, h1, h2, allTo_succ hall.out hp hv⟩, by rw [iterPos_of h1, iterPos_of hh]; omega⟩
    · have hnx := fun ty => run_next_end_at (P := Try.prog) wr w.heap.size s pos ty hh hp
      go_wp2
      go_ret
      exact BoolIs.yes (allTo_end hall.out hp) hbw

set_option maxHeartbeats 1000000 in
theorem pathOk_any (s : ByteArray) (w : World) (hs : s.size ≤ maxLen) :
    Calls Try.prog 46 #[.string s] w fun e w' => BoolIs (PathOk s) w e w' := by
  unfold maxLen at hs
  by_cases h1 : (1 : Int) ≤ (s.size : Int)
  · have h0 : 0 < s.size := by omega
    by_cases h2 : (s.size : Int) ≤ 60
    · by_cases h3 : ((s[0]'h0).toNat : Int) = 47
      · have h4 : (((s[0]'h0).toNat : Int) == 47) = true := by rw [beq_iff_eq]; exact h3
        have H3 : Hid ((s[0]'h0).toNat = 47) := by show _ = _; omega
        clear h3
        go_enter Try.func46, Try.ntmps46
        go_wp2_with fail
        refine (allRunes_path s _).mono ?_
        rintro e w1 ⟨b, rfl, hbt, hb1⟩
        cases b
        · have HN : Hid (¬ PathOk s) := fun h => by have := hbt.2 h.1; cases this
          clear hbt
          go_wp2_with fail
          go_ret
          exact BoolIs.no HN.out hb1
        · have HY : Hid (PathOk s) := ⟨hbt.1 rfl, by omega, by omega, h0, H3.out⟩
          clear hbt
          go_wp2_with fail
          go_ret
          exact BoolIs.yes HY.out hb1
      · have h4 : (((s[0]'h0).toNat : Int) == 47) = false := by rw [beq_eq_false_iff_ne]; exact h3
        have HN : Hid (¬ PathOk s) := fun h => by obtain ⟨_, _, _, _, h5⟩ := h; omega
        clear h3
        go_enter Try.func46, Try.ntmps46
        go_wp2_with fail
        go_ret
        exact BoolIs.no HN.out (Below.refl _ _)
    · have HN : Hid (¬ PathOk s) := fun h => by obtain ⟨_, _, h5, _⟩ := h; omega
      have hd : decide ((s.size : Int) ≤ 60) = false := by simpa using h2
      go_enter Try.func46, Try.ntmps46
      go_wp2_with fail
      go_ret
      exact BoolIs.no HN.out (Below.refl _ _)
  · have HN : Hid (¬ PathOk s) := fun h => by obtain ⟨_, h5, _⟩ := h; omega
    have hd : decide ((1 : Int) ≤ (s.size : Int)) = false := by simpa using h1
    go_enter Try.func46, Try.ntmps46
    go_wp2_with fail
    go_ret
    exact BoolIs.no HN.out (Below.refl _ _)

/-- What is right of what stands behind the first line. -/
def RestP (fs : List (ByteArray × ByteArray)) (b : ByteArray) : Prop := FldsOk fs ∧ b.size ≤ 120
set_option maxHeartbeats 1000000 in
theorem restOk_any (v : Value) (b : ByteArray) (n base : Nat) (fs : List (ByteArray × ByteArray)) (w : World) (hv : FieldsV w base v n fs) (hn : n ≤ 1073741824) (hsz : WalkF n fs) (hb : b.size ≤ maxLen) :
    Calls Try.prog 67 #[.agg #[v, .string b]] w fun e w' => BoolIs (RestP fs b) w e w' := by
  obtain ⟨oa, cap, rfl, _⟩ := hv.slice
  obtain ⟨r, hr⟩ : ∃ r, r = w.heap.size := ⟨_, rfl⟩
  have HR : Hid (∀ W, Below (w.alloc (.cells #[.slice oa n cap, .string b] 93)).heap.size (w.alloc (.cells #[.slice oa n cap, .string b] 93)) W → (W.cell? ⟨r, 0, none⟩ = some (.slice oa n cap) ∧ W.cell? ⟨r, 1, none⟩ = some (.string b)) ∧ FieldsV W base (.slice oa n cap) n fs ∧ Below w.heap.size w W) := fun W h => by
    have hh := kept_new h
    rw [← hr] at hh
    exact ⟨⟨by simp [World.cell?, hh], by simp [World.cell?, hh]⟩, hv.below (below_new h), below_new h⟩
  obtain ⟨_, hv0, _⟩ := HR.out _ (Below.refl _ _)
  unfold maxLen at hb
  go_enter Try.func67, Try.ntmps67
  go_wp2_with fail
  refine (ok_any _ n base fs _ hv0 hn hsz).mono ?_
  rintro e w1 ⟨b1, rfl, kb1, bb1⟩
  rw [← hr]
  obtain ⟨⟨c0, c1⟩, _, hbw1⟩ := HR.out w1 bb1
  clear hv hv0 hsz bb1 hr
  cases b1
  · have HF : Hid (¬ RestP fs b) := fun h => by have := kb1.2 h.1; cases this
    clear kb1
    go_wp2_with fail
    go_ret
    exact BoolIs.no HF.out hbw1
  · have HT : Hid (FldsOk fs) := kb1.1 rfl
    clear kb1
    by_cases h120 : (b.size : Int) ≤ 120
    · have HY : Hid (RestP fs b) := ⟨HT.out, by omega⟩
      go_wp2_with fail
      go_ret
      exact BoolIs.yes HY.out hbw1
    · have HF : Hid (¬ RestP fs b) := fun h => by have := h.2; omega
      have hd : decide ((b.size : Int) ≤ 120) = false := by simpa using h120
      go_wp2_with fail
      go_ret
      exact BoolIs.no HF.out hbw1

set_option maxHeartbeats 1000000 in
theorem respOk_any (st : Int) (v : Value) (b : ByteArray) (n base : Nat) (fs : List (ByteArray × ByteArray)) (w : World) (hv : FieldsV w base v n fs) (hn : n ≤ 1073741824) (hsz : WalkF n fs) (hb : b.size ≤ maxLen) :
    Calls Try.prog 58 #[.agg #[v, .string b, .int .i64 st]] w fun e w' => BoolIs (RespP st fs b) w e w' := by
  obtain ⟨oa, cap, rfl, _⟩ := hv.slice
  obtain ⟨r, hr⟩ : ∃ r, r = w.heap.size := ⟨_, rfl⟩
  have HR : Hid (∀ W, Below (w.alloc (.cells #[.slice oa n cap, .string b, .int .i64 st] 95)).heap.size (w.alloc (.cells #[.slice oa n cap, .string b, .int .i64 st] 95)) W → (W.cell? ⟨r, 0, none⟩ = some (.slice oa n cap) ∧ W.cell? ⟨r, 1, none⟩ = some (.string b) ∧ W.cell? ⟨r, 2, none⟩ = some (.int .i64 st)) ∧ FieldsV W base (.slice oa n cap) n fs ∧ Below w.heap.size w W) := fun W h => by
    have hh := kept_new h
    rw [← hr] at hh
    exact ⟨⟨by simp [World.cell?, hh], by simp [World.cell?, hh], by simp [World.cell?, hh]⟩, hv.below (below_new h), below_new h⟩
  obtain ⟨_, hv0, hbw0⟩ := HR.out _ (Below.refl _ _)
  have HV0 : Hid (FieldsV (w.alloc (.cells #[.slice oa n cap, .string b, .int .i64 st] 95)) base (.slice oa n cap) n fs) := hv0
  have HSZ : Hid (WalkF n fs) := hsz
  have HBS : Hid (b.size ≤ maxLen) := hb
  clear hv hv0 hsz hb
  by_cases h1 : 100 ≤ st
  · by_cases h2 : st ≤ 599
    · go_enter Try.func58, Try.ntmps58
      go_wp2_with fail
      refine (restOk_any _ b n base fs _ HV0.out hn HSZ.out HBS.out).mono ?_
      rintro e w3 ⟨b2, rfl, kb2, bb3⟩
      obtain ⟨_, _, hbw3⟩ := HR.out w3 bb3
      clear bb3 hbw0
      cases b2
      · have HF : Hid (¬ RespP st fs b) := fun h => by have := kb2.2 h.2; cases this
        clear kb2
        go_wp2_with fail
        go_ret
        exact BoolIs.no HF.out hbw3
      · have HY : Hid (RespP st fs b) := ⟨⟨h1, h2⟩, kb2.1 rfl⟩
        clear kb2
        go_wp2_with fail
        go_ret
        exact BoolIs.yes HY.out hbw3
    · have HF : Hid (¬ RespP st fs b) := fun h => h2 h.1.2
      have hd : decide (st ≤ 599) = false := by simpa using h2
      go_enter Try.func58, Try.ntmps58
      go_wp2_with fail
      go_ret
      exact BoolIs.no HF.out hbw0
  · have HF : Hid (¬ RespP st fs b) := fun h => h1 h.1.1
    have hd : decide (100 ≤ st) = false := by simpa using h1
    go_enter Try.func58, Try.ntmps58
    go_wp2_with fail
    go_ret
    exact BoolIs.no HF.out hbw0

set_option maxHeartbeats 400000 in
theorem answerOf_any (m : Int) (oa : Option Addr) (n cap : Nat) (b : ByteArray) (w : World) :
    Calls Try.prog 57 #[.agg #[.int .i64 m, .slice oa n cap, .string b]] w fun e w' => e = .returned (.agg #[.slice oa n cap, .string b, .int .i64 m]) ∧ Below w.heap.size w w' := by
  go_enter Try.func57, Try.ntmps57
  go_wp2
  exact bodyPost_ret (v := .agg #[.slice oa n cap, .string b, .int .i64 m]) (by simp [results, Try.results57, go_sem]) rfl ⟨rfl, ((Below.refl _ _).alloc (Nat.le_refl _) _).alloc (by simp) _⟩
set_option maxHeartbeats 400000 in
theorem implRespOk_any (m : Int) (v : Value) (b : ByteArray) (n base : Nat) (fs : List (ByteArray × ByteArray)) (w : World) (hv : FieldsV w base v n fs) (hn : n ≤ 1073741824) (hsz : WalkF n fs) (hb : b.size ≤ maxLen) :
    Calls Try.prog 45 #[.agg #[.int .i64 m, v, .string b]] w fun e w' => BoolIs (RespP m fs b) w e w' := by
  obtain ⟨oa, cap, rfl, _⟩ := hv.slice
  have hb0 : Below w.heap.size w (w.alloc (.cells #[.int .i64 m, .slice oa n cap, .string b] 39)) := (Below.refl _ _).alloc (Nat.le_refl _) _
  go_enter Try.func45, Try.ntmps45
  go_wp2_with fail
  refine (answerOf_any m oa n cap b _).mono ?_
  rintro e w1 ⟨rfl, bb1⟩
  have hb1 : Below w.heap.size w w1 := hb0.trans (bb1.mono hb0.size)
  have hv1 := hv.below hb1
  clear bb1 hb0 hv
  go_wp2_with fail
  refine (respOk_any m _ b n base fs _ hv1 hn hsz hb).mono ?_
  rintro e w2 ⟨b1, rfl, kb, bb2⟩
  have hb2 : Below w.heap.size w w2 := hb1.trans (bb2.mono hb1.size)
  have HK : Hid (b1 = true ↔ RespP m fs b) := kb
  clear hv1 hsz hb bb2 hb1 kb
  go_wp2_with fail
  go_ret
  exact ⟨b1, rfl, HK.out, hb2⟩

end Go.Proofs.Ytlmenolcgaakeaa

namespace Go.Proofs.Ytlmenolcgaakeaa
open Go.RowKit
open Go.Lib hiding intOf

set_option maxHeartbeats 8000000 in
set_option maxRecDepth 100000 in
theorem ruleOf_1 (a b : ByteArray) (t : Int) (w : World) :
    Calls Try.prog 24 #[.agg #[.int .i64 1, .string a, .string b, .int .i64 t]] w fun e w' => e = .returned (.iface 72 (.agg #[.string a])) ∧ Below w.heap.size w w' := by
  have hb0 : Below w.heap.size w w := Below.refl _ _
  go_enter Try.func24, Try.ntmps24
  go_upto_region 1 with fail
  obtain ⟨qv1, hqv1⟩ : ∃ q, q = (w).heap.size := ⟨_, rfl⟩
  obtain ⟨w1, hW1⟩ : ∃ W, W = (w).alloc (.cells #[.int .i64 1, .string a, .string b, .int .i64 t] 26) := ⟨_, rfl⟩
  have hz1 : (w).heap.size = qv1 := hqv1.symm
  first | rw [← hW1, ← hqv1] | rw [← hW1]
  have hs1 : w1.heap.size = qv1 + 1 := by rw [hW1, ← hz1]; simp
  have bw : Below (w).heap.size (w) w1 := by rw [hW1]; exact (Below.refl _ _).alloc (Nat.le_refl _) _
  have hb1 : Below w.heap.size w (w1) := hb0.trans (bw.mono hb0.size)
  have HM1 : Hid ((w).heap.size ≤ (w1).heap.size) := bw.size
  have HBv1_1 : Hid ((w1).heap[qv1]? = some (.cells #[.int .i64 1, .string a, .string b, .int .i64 t] 26)) := by show _ = _; rw [hW1, ← hz1]; exact heap_alloc_new _ _
  have HGv1 : Hid (w.heap.size ≤ qv1) := by show _ ≤ _; rw [← hz1]; exact hb0.size
  clear hb0 bw hW1 hz1
  clear hs1 hqv1
  have cv1_0 : (w1).cell? ⟨qv1, 0, none⟩ = some (.int .i64 1) := (cell_of HBv1_1.out 0).trans rfl
  have cv1_1 : (w1).cell? ⟨qv1, 1, none⟩ = some (.string a) := (cell_of HBv1_1.out 1).trans rfl
  go_wp2_with fail
  go_ret
  exact ⟨rfl, hb1⟩

set_option maxHeartbeats 8000000 in
set_option maxRecDepth 100000 in
theorem ruleOf_2 (a b : ByteArray) (t : Int) (w : World) :
    Calls Try.prog 24 #[.agg #[.int .i64 2, .string a, .string b, .int .i64 t]] w fun e w' => e = .returned (.iface 74 (.agg #[.string a])) ∧ Below w.heap.size w w' := by
  have hb0 : Below w.heap.size w w := Below.refl _ _
  go_enter Try.func24, Try.ntmps24
  go_upto_region 1 with fail
  obtain ⟨qv1, hqv1⟩ : ∃ q, q = (w).heap.size := ⟨_, rfl⟩
  obtain ⟨w1, hW1⟩ : ∃ W, W = (w).alloc (.cells #[.int .i64 2, .string a, .string b, .int .i64 t] 26) := ⟨_, rfl⟩
  have hz1 : (w).heap.size = qv1 := hqv1.symm
  first | rw [← hW1, ← hqv1] | rw [← hW1]
  have hs1 : w1.heap.size = qv1 + 1 := by rw [hW1, ← hz1]; simp
  have bw : Below (w).heap.size (w) w1 := by rw [hW1]; exact (Below.refl _ _).alloc (Nat.le_refl _) _
  have hb1 : Below w.heap.size w (w1) := hb0.trans (bw.mono hb0.size)
  have HM1 : Hid ((w).heap.size ≤ (w1).heap.size) := bw.size
  have HBv1_1 : Hid ((w1).heap[qv1]? = some (.cells #[.int .i64 2, .string a, .string b, .int .i64 t] 26)) := by show _ = _; rw [hW1, ← hz1]; exact heap_alloc_new _ _
  have HGv1 : Hid (w.heap.size ≤ qv1) := by show _ ≤ _; rw [← hz1]; exact hb0.size
  clear hb0 bw hW1 hz1
  clear hs1 hqv1
  have cv1_0 : (w1).cell? ⟨qv1, 0, none⟩ = some (.int .i64 2) := (cell_of HBv1_1.out 0).trans rfl
  have cv1_1 : (w1).cell? ⟨qv1, 1, none⟩ = some (.string a) := (cell_of HBv1_1.out 1).trans rfl
  go_wp2_with fail
  go_ret
  exact ⟨rfl, hb1⟩

set_option maxHeartbeats 8000000 in
set_option maxRecDepth 100000 in
theorem ruleOf_3 (a b : ByteArray) (t : Int) (w : World) :
    Calls Try.prog 24 #[.agg #[.int .i64 3, .string a, .string b, .int .i64 t]] w fun e w' => e = .returned (.iface 76 (.agg #[.string a, .string b])) ∧ Below w.heap.size w w' := by
  have hb0 : Below w.heap.size w w := Below.refl _ _
  go_enter Try.func24, Try.ntmps24
  go_upto_region 1 with fail
  obtain ⟨qv1, hqv1⟩ : ∃ q, q = (w).heap.size := ⟨_, rfl⟩
  obtain ⟨w1, hW1⟩ : ∃ W, W = (w).alloc (.cells #[.int .i64 3, .string a, .string b, .int .i64 t] 26) := ⟨_, rfl⟩
  have hz1 : (w).heap.size = qv1 := hqv1.symm
  first | rw [← hW1, ← hqv1] | rw [← hW1]
  have hs1 : w1.heap.size = qv1 + 1 := by rw [hW1, ← hz1]; simp
  have bw : Below (w).heap.size (w) w1 := by rw [hW1]; exact (Below.refl _ _).alloc (Nat.le_refl _) _
  have hb1 : Below w.heap.size w (w1) := hb0.trans (bw.mono hb0.size)
  have HM1 : Hid ((w).heap.size ≤ (w1).heap.size) := bw.size
  have HBv1_1 : Hid ((w1).heap[qv1]? = some (.cells #[.int .i64 3, .string a, .string b, .int .i64 t] 26)) := by show _ = _; rw [hW1, ← hz1]; exact heap_alloc_new _ _
  have HGv1 : Hid (w.heap.size ≤ qv1) := by show _ ≤ _; rw [← hz1]; exact hb0.size
  clear hb0 bw hW1 hz1
  clear hs1 hqv1
  have cv1_0 : (w1).cell? ⟨qv1, 0, none⟩ = some (.int .i64 3) := (cell_of HBv1_1.out 0).trans rfl
  have cv1_1 : (w1).cell? ⟨qv1, 1, none⟩ = some (.string a) := (cell_of HBv1_1.out 1).trans rfl
  have cv1_2 : (w1).cell? ⟨qv1, 2, none⟩ = some (.string b) := (cell_of HBv1_1.out 2).trans rfl
  go_wp2_with fail
  go_ret
  exact ⟨rfl, hb1⟩

set_option maxHeartbeats 8000000 in
set_option maxRecDepth 100000 in
theorem ruleOf_no (k : Int) (a b : ByteArray) (t : Int) (w : World) (h1 : ¬ k = 1) (h2 : ¬ k = 2) (h3 : ¬ k = 3) :
    Calls Try.prog 24 #[.agg #[.int .i64 k, .string a, .string b, .int .i64 t]] w fun e w' => e = .returned .nilIface ∧ Below w.heap.size w w' := by
  have hk1 : ((k : Int) == (1 : Int)) = false := by simpa using h1
  have hk2 : ((k : Int) == (2 : Int)) = false := by simpa using h2
  have hk3 : ((k : Int) == (3 : Int)) = false := by simpa using h3
  clear h1 h2 h3
  have hb0 : Below w.heap.size w w := Below.refl _ _
  go_enter Try.func24, Try.ntmps24
  go_upto_region 1 with fail
  obtain ⟨qv1, hqv1⟩ : ∃ q, q = (w).heap.size := ⟨_, rfl⟩
  obtain ⟨w1, hW1⟩ : ∃ W, W = (w).alloc (.cells #[.int .i64 k, .string a, .string b, .int .i64 t] 26) := ⟨_, rfl⟩
  have hz1 : (w).heap.size = qv1 := hqv1.symm
  first | rw [← hW1, ← hqv1] | rw [← hW1]
  have hs1 : w1.heap.size = qv1 + 1 := by rw [hW1, ← hz1]; simp
  have bw : Below (w).heap.size (w) w1 := by rw [hW1]; exact (Below.refl _ _).alloc (Nat.le_refl _) _
  have hb1 : Below w.heap.size w (w1) := hb0.trans (bw.mono hb0.size)
  have HM1 : Hid ((w).heap.size ≤ (w1).heap.size) := bw.size
  have HBv1_1 : Hid ((w1).heap[qv1]? = some (.cells #[.int .i64 k, .string a, .string b, .int .i64 t] 26)) := by show _ = _; rw [hW1, ← hz1]; exact heap_alloc_new _ _
  have HGv1 : Hid (w.heap.size ≤ qv1) := by show _ ≤ _; rw [← hz1]; exact hb0.size
  clear hb0 bw hW1 hz1
  clear hs1 hqv1
  have cv1_0 : (w1).cell? ⟨qv1, 0, none⟩ = some (.int .i64 k) := (cell_of HBv1_1.out 0).trans rfl
  go_wp2_with fail
  go_ret
  exact ⟨rfl, hb1⟩

set_option maxHeartbeats 8000000 in
set_option maxRecDepth 100000 in
theorem banOf_1 (a : ByteArray) (t : Int) (w : World) :
    Calls Try.prog 26 #[.iface 72 (.agg #[.string a]), .int .i64 t] w fun e w' => e = .returned (.agg #[.int .i64 1, .string a, .string ⟨#[]⟩, .int .i64 t]) ∧ Below w.heap.size w w' := by
  have hta1 : ∀ W : World, (Instr.typeAssert (.iface 72 (.agg #[.string a])) 55 72 true).run Try.prog W = .ok (.tuple #[.agg #[.string a], .bool true]) W := fun _ => by kernel_rfl
  have hta2 : ∀ W : World, (Instr.typeAssert (.iface 72 (.agg #[.string a])) 55 74 true).run Try.prog W = .ok (.tuple #[.agg #[.string ⟨#[]⟩], .bool false]) W := fun _ => by kernel_rfl
  have hta3 : ∀ W : World, (Instr.typeAssert (.iface 72 (.agg #[.string a])) 55 76 true).run Try.prog W = .ok (.tuple #[.agg #[.string ⟨#[]⟩, .string ⟨#[]⟩], .bool false]) W := fun _ => by kernel_rfl
  have hb0 : Below w.heap.size w w := Below.refl _ _
  go_enter Try.func26, Try.ntmps26
  go_upto_region 1 with fail
  obtain ⟨qv1, hqv1⟩ : ∃ q, q = (w).heap.size := ⟨_, rfl⟩
  obtain ⟨w1, hW1⟩ : ∃ W, W = (w).alloc (.cells #[.int .i64 0, .string ⟨#[]⟩, .string ⟨#[]⟩, .int .i64 0] 26) := ⟨_, rfl⟩
  have hz1 : (w).heap.size = qv1 := hqv1.symm
  first | rw [← hW1, ← hqv1] | rw [← hW1]
  have hs1 : w1.heap.size = qv1 + 1 := by rw [hW1, ← hz1]; simp
  have bw : Below (w).heap.size (w) w1 := by rw [hW1]; exact (Below.refl _ _).alloc (Nat.le_refl _) _
  have hb1 : Below w.heap.size w (w1) := hb0.trans (bw.mono hb0.size)
  have HM1 : Hid ((w).heap.size ≤ (w1).heap.size) := bw.size
  have HBv1_1 : Hid ((w1).heap[qv1]? = some (.cells #[.int .i64 0, .string ⟨#[]⟩, .string ⟨#[]⟩, .int .i64 0] 26)) := by show _ = _; rw [hW1, ← hz1]; exact heap_alloc_new _ _
  have HGv1 : Hid (w.heap.size ≤ qv1) := by show _ ≤ _; rw [← hz1]; exact hb0.size
  clear hb0 bw hW1 hz1
  clear hs1 hqv1
  go_upto_region 4 with fail
  obtain ⟨qv2, hqv2⟩ : ∃ q, q = (w1).heap.size := ⟨_, rfl⟩
  obtain ⟨w2, hW2⟩ : ∃ W, W = (w1).alloc (.cells #[.string a] 72) := ⟨_, rfl⟩
  have hz2 : (w1).heap.size = qv2 := hqv2.symm
  first | rw [← hW2, ← hqv2] | rw [← hW2]
  have hs2 : w2.heap.size = qv2 + 1 := by rw [hW2, ← hz2]; simp
  have bw : Below (w1).heap.size (w1) w2 := by rw [hW2]; exact (Below.refl _ _).alloc (Nat.le_refl _) _
  have hb2 : Below w.heap.size w (w2) := hb1.trans (bw.mono hb1.size)
  have HM2 : Hid ((w1).heap.size ≤ (w2).heap.size) := bw.size
  have HBv1_2 : Hid ((w2).heap[qv1]? = some (.cells #[.int .i64 0, .string ⟨#[]⟩, .string ⟨#[]⟩, .int .i64 0] 26)) := blk_below HBv1_1.out bw
  have HNv1v2 : Hid (qv1 ≠ qv2) := fun e => by have h1 := (Array.getElem?_eq_some_iff.1 HBv1_1.out).1; omega
  have HBv2_2 : Hid ((w2).heap[qv2]? = some (.cells #[.string a] 72)) := by show _ = _; rw [hW2, ← hz2]; exact heap_alloc_new _ _
  have HGv2 : Hid (w.heap.size ≤ qv2) := by show _ ≤ _; rw [← hz2]; exact hb1.size
  clear hb1 HBv1_1 bw hW2 hz2
  clear hs2 hqv2
  have cv1_0 : (w2).cell? ⟨qv1, 0, none⟩ = some (.int .i64 0) := (cell_of HBv1_2.out 0).trans rfl
  have fcv1_0 : (w2).frozen? ⟨qv1, 0, none⟩ = false := frozen_of HBv1_2.out 0
  have cv1_1 : (w2).cell? ⟨qv1, 1, none⟩ = some (.string ⟨#[]⟩) := (cell_of HBv1_2.out 1).trans rfl
  have fcv1_1 : (w2).frozen? ⟨qv1, 1, none⟩ = false := frozen_of HBv1_2.out 1
  have cv1_2 : (w2).cell? ⟨qv1, 2, none⟩ = some (.string ⟨#[]⟩) := (cell_of HBv1_2.out 2).trans rfl
  have fcv1_2 : (w2).frozen? ⟨qv1, 2, none⟩ = false := frozen_of HBv1_2.out 2
  have cv1_3 : (w2).cell? ⟨qv1, 3, none⟩ = some (.int .i64 0) := (cell_of HBv1_2.out 3).trans rfl
  have fcv1_3 : (w2).frozen? ⟨qv1, 3, none⟩ = false := frozen_of HBv1_2.out 3
  have cv2_0 : (w2).cell? ⟨qv2, 0, none⟩ = some (.string a) := (cell_of HBv2_2.out 0).trans rfl
  go_wp2_with fail
  obtain ⟨w3, hW3⟩ : ∃ W, W = (w2).setCell ⟨qv1, 0, none⟩ (.int .i64 1) := ⟨_, rfl⟩
  rw [← hW3]
  have hb3 : Below w.heap.size w (w3) := by rw [hW3]; exact (hb2.setCell (p := ⟨qv1, 0, none⟩) HGv1.out _)
  have HM3 : Hid ((w2).heap.size ≤ w3.heap.size) := by show _ ≤ _; rw [hW3]; simp
  have HBv2_3 : Hid ((w3).heap[qv2]? = some (.cells #[.string a] 72)) := by show _ = _; rw [hW3, heap_setCell_other _ _ _ _ HNv1v2.out.symm]; exact HBv2_2.out
  have HBv1_3 : Hid ((w3).heap[qv1]? = some (.cells #[.int .i64 1, .string ⟨#[]⟩, .string ⟨#[]⟩, .int .i64 0] 26)) := by show _ = _; rw [hW3]; have h := heap_set _ _ 0 _ _ _ (.int .i64 1) HBv1_2.out; simpa using h
  clear hb2 HBv1_2 HBv2_2 hW3
  obtain ⟨w4, hW4⟩ : ∃ W, W = (w3).setCell ⟨qv1, 1, none⟩ (.string a) := ⟨_, rfl⟩
  rw [← hW4]
  have hb4 : Below w.heap.size w (w4) := by rw [hW4]; exact (hb3.setCell (p := ⟨qv1, 1, none⟩) HGv1.out _)
  have HM4 : Hid ((w3).heap.size ≤ w4.heap.size) := by show _ ≤ _; rw [hW4]; simp
  have HBv2_4 : Hid ((w4).heap[qv2]? = some (.cells #[.string a] 72)) := by show _ = _; rw [hW4, heap_setCell_other _ _ _ _ HNv1v2.out.symm]; exact HBv2_3.out
  have HBv1_4 : Hid ((w4).heap[qv1]? = some (.cells #[.int .i64 1, .string a, .string ⟨#[]⟩, .int .i64 0] 26)) := by show _ = _; rw [hW4]; have h := heap_set _ _ 1 _ _ _ (.string a) HBv1_3.out; simpa using h
  clear hb3 HBv1_3 HBv2_3 hW4
  obtain ⟨w5, hW5⟩ : ∃ W, W = (w4).setCell ⟨qv1, 2, none⟩ (.string ⟨#[]⟩) := ⟨_, rfl⟩
  rw [← hW5]
  have hb5 : Below w.heap.size w (w5) := by rw [hW5]; exact (hb4.setCell (p := ⟨qv1, 2, none⟩) HGv1.out _)
  have HM5 : Hid ((w4).heap.size ≤ w5.heap.size) := by show _ ≤ _; rw [hW5]; simp
  have HBv2_5 : Hid ((w5).heap[qv2]? = some (.cells #[.string a] 72)) := by show _ = _; rw [hW5, heap_setCell_other _ _ _ _ HNv1v2.out.symm]; exact HBv2_4.out
  have HBv1_5 : Hid ((w5).heap[qv1]? = some (.cells #[.int .i64 1, .string a, .string ⟨#[]⟩, .int .i64 0] 26)) := by show _ = _; rw [hW5]; have h := heap_set _ _ 2 _ _ _ (.string ⟨#[]⟩) HBv1_4.out; simpa using h
  clear hb4 HBv1_4 HBv2_4 hW5
  obtain ⟨w6, hW6⟩ : ∃ W, W = (w5).setCell ⟨qv1, 3, none⟩ (.int .i64 t) := ⟨_, rfl⟩
  rw [← hW6]
  have hb6 : Below w.heap.size w (w6) := by rw [hW6]; exact (hb5.setCell (p := ⟨qv1, 3, none⟩) HGv1.out _)
  have HM6 : Hid ((w5).heap.size ≤ w6.heap.size) := by show _ ≤ _; rw [hW6]; simp
  have HBv2_6 : Hid ((w6).heap[qv2]? = some (.cells #[.string a] 72)) := by show _ = _; rw [hW6, heap_setCell_other _ _ _ _ HNv1v2.out.symm]; exact HBv2_5.out
  have HBv1_6 : Hid ((w6).heap[qv1]? = some (.cells #[.int .i64 1, .string a, .string ⟨#[]⟩, .int .i64 t] 26)) := by show _ = _; rw [hW6]; have h := heap_set _ _ 3 _ _ _ (.int .i64 t) HBv1_5.out; simpa using h
  clear hb5 HBv1_5 HBv2_5 hW6
  have kv1_0 : (w6).cell? ⟨qv1, 0, none⟩ = some (.int .i64 1) := (cell_of HBv1_6.out 0).trans rfl
  have kv1_1 : (w6).cell? ⟨qv1, 1, none⟩ = some (.string a) := (cell_of HBv1_6.out 1).trans rfl
  have kv1_2 : (w6).cell? ⟨qv1, 2, none⟩ = some (.string ⟨#[]⟩) := (cell_of HBv1_6.out 2).trans rfl
  have kv1_3 : (w6).cell? ⟨qv1, 3, none⟩ = some (.int .i64 t) := (cell_of HBv1_6.out 3).trans rfl
  refine bodyPost_ret (v := .agg #[.int .i64 1, .string a, .string ⟨#[]⟩, .int .i64 t]) (by simp [results, Try.results26, go_sem, kv1_0, kv1_1, kv1_2, kv1_3]) rfl ?_
  exact ⟨rfl, hb6⟩

set_option maxHeartbeats 8000000 in
set_option maxRecDepth 100000 in
theorem banOf_2 (a : ByteArray) (t : Int) (w : World) :
    Calls Try.prog 26 #[.iface 74 (.agg #[.string a]), .int .i64 t] w fun e w' => e = .returned (.agg #[.int .i64 2, .string a, .string ⟨#[]⟩, .int .i64 t]) ∧ Below w.heap.size w w' := by
  have hta1 : ∀ W : World, (Instr.typeAssert (.iface 74 (.agg #[.string a])) 55 72 true).run Try.prog W = .ok (.tuple #[.agg #[.string ⟨#[]⟩], .bool false]) W := fun _ => by kernel_rfl
  have hta2 : ∀ W : World, (Instr.typeAssert (.iface 74 (.agg #[.string a])) 55 74 true).run Try.prog W = .ok (.tuple #[.agg #[.string a], .bool true]) W := fun _ => by kernel_rfl
  have hta3 : ∀ W : World, (Instr.typeAssert (.iface 74 (.agg #[.string a])) 55 76 true).run Try.prog W = .ok (.tuple #[.agg #[.string ⟨#[]⟩, .string ⟨#[]⟩], .bool false]) W := fun _ => by kernel_rfl
  have hb0 : Below w.heap.size w w := Below.refl _ _
  go_enter Try.func26, Try.ntmps26
  go_upto_region 1 with fail
  obtain ⟨qv1, hqv1⟩ : ∃ q, q = (w).heap.size := ⟨_, rfl⟩
  obtain ⟨w1, hW1⟩ : ∃ W, W = (w).alloc (.cells #[.int .i64 0, .string ⟨#[]⟩, .string ⟨#[]⟩, .int .i64 0] 26) := ⟨_, rfl⟩
  have hz1 : (w).heap.size = qv1 := hqv1.symm
  first | rw [← hW1, ← hqv1] | rw [← hW1]
  have hs1 : w1.heap.size = qv1 + 1 := by rw [hW1, ← hz1]; simp
  have bw : Below (w).heap.size (w) w1 := by rw [hW1]; exact (Below.refl _ _).alloc (Nat.le_refl _) _
  have hb1 : Below w.heap.size w (w1) := hb0.trans (bw.mono hb0.size)
  have HM1 : Hid ((w).heap.size ≤ (w1).heap.size) := bw.size
  have HBv1_1 : Hid ((w1).heap[qv1]? = some (.cells #[.int .i64 0, .string ⟨#[]⟩, .string ⟨#[]⟩, .int .i64 0] 26)) := by show _ = _; rw [hW1, ← hz1]; exact heap_alloc_new _ _
  have HGv1 : Hid (w.heap.size ≤ qv1) := by show _ ≤ _; rw [← hz1]; exact hb0.size
  clear hb0 bw hW1 hz1
  clear hs1 hqv1
  go_upto_region 7 with fail
  obtain ⟨qv2, hqv2⟩ : ∃ q, q = (w1).heap.size := ⟨_, rfl⟩
  obtain ⟨w2, hW2⟩ : ∃ W, W = (w1).alloc (.cells #[.string a] 74) := ⟨_, rfl⟩
  have hz2 : (w1).heap.size = qv2 := hqv2.symm
  first | rw [← hW2, ← hqv2] | rw [← hW2]
  have hs2 : w2.heap.size = qv2 + 1 := by rw [hW2, ← hz2]; simp
  have bw : Below (w1).heap.size (w1) w2 := by rw [hW2]; exact (Below.refl _ _).alloc (Nat.le_refl _) _
  have hb2 : Below w.heap.size w (w2) := hb1.trans (bw.mono hb1.size)
  have HM2 : Hid ((w1).heap.size ≤ (w2).heap.size) := bw.size
  have HBv1_2 : Hid ((w2).heap[qv1]? = some (.cells #[.int .i64 0, .string ⟨#[]⟩, .string ⟨#[]⟩, .int .i64 0] 26)) := blk_below HBv1_1.out bw
  have HNv1v2 : Hid (qv1 ≠ qv2) := fun e => by have h1 := (Array.getElem?_eq_some_iff.1 HBv1_1.out).1; omega
  have HBv2_2 : Hid ((w2).heap[qv2]? = some (.cells #[.string a] 74)) := by show _ = _; rw [hW2, ← hz2]; exact heap_alloc_new _ _
  have HGv2 : Hid (w.heap.size ≤ qv2) := by show _ ≤ _; rw [← hz2]; exact hb1.size
  clear hb1 HBv1_1 bw hW2 hz2
  clear hs2 hqv2
  have cv1_0 : (w2).cell? ⟨qv1, 0, none⟩ = some (.int .i64 0) := (cell_of HBv1_2.out 0).trans rfl
  have fcv1_0 : (w2).frozen? ⟨qv1, 0, none⟩ = false := frozen_of HBv1_2.out 0
  have cv1_1 : (w2).cell? ⟨qv1, 1, none⟩ = some (.string ⟨#[]⟩) := (cell_of HBv1_2.out 1).trans rfl
  have fcv1_1 : (w2).frozen? ⟨qv1, 1, none⟩ = false := frozen_of HBv1_2.out 1
  have cv1_2 : (w2).cell? ⟨qv1, 2, none⟩ = some (.string ⟨#[]⟩) := (cell_of HBv1_2.out 2).trans rfl
  have fcv1_2 : (w2).frozen? ⟨qv1, 2, none⟩ = false := frozen_of HBv1_2.out 2
  have cv1_3 : (w2).cell? ⟨qv1, 3, none⟩ = some (.int .i64 0) := (cell_of HBv1_2.out 3).trans rfl
  have fcv1_3 : (w2).frozen? ⟨qv1, 3, none⟩ = false := frozen_of HBv1_2.out 3
  have cv2_0 : (w2).cell? ⟨qv2, 0, none⟩ = some (.string a) := (cell_of HBv2_2.out 0).trans rfl
  go_wp2_with fail
  obtain ⟨w3, hW3⟩ : ∃ W, W = (w2).setCell ⟨qv1, 0, none⟩ (.int .i64 2) := ⟨_, rfl⟩
  rw [← hW3]
  have hb3 : Below w.heap.size w (w3) := by rw [hW3]; exact (hb2.setCell (p := ⟨qv1, 0, none⟩) HGv1.out _)
  have HM3 : Hid ((w2).heap.size ≤ w3.heap.size) := by show _ ≤ _; rw [hW3]; simp
  have HBv2_3 : Hid ((w3).heap[qv2]? = some (.cells #[.string a] 74)) := by show _ = _; rw [hW3, heap_setCell_other _ _ _ _ HNv1v2.out.symm]; exact HBv2_2.out
  have HBv1_3 : Hid ((w3).heap[qv1]? = some (.cells #[.int .i64 2, .string ⟨#[]⟩, .string ⟨#[]⟩, .int .i64 0] 26)) := by show _ = _; rw [hW3]; have h := heap_set _ _ 0 _ _ _ (.int .i64 2) HBv1_2.out; simpa using h
  clear hb2 HBv1_2 HBv2_2 hW3
  obtain ⟨w4, hW4⟩ : ∃ W, W = (w3).setCell ⟨qv1, 1, none⟩ (.string a) := ⟨_, rfl⟩
  rw [← hW4]
  have hb4 : Below w.heap.size w (w4) := by rw [hW4]; exact (hb3.setCell (p := ⟨qv1, 1, none⟩) HGv1.out _)
  have HM4 : Hid ((w3).heap.size ≤ w4.heap.size) := by show _ ≤ _; rw [hW4]; simp
  have HBv2_4 : Hid ((w4).heap[qv2]? = some (.cells #[.string a] 74)) := by show _ = _; rw [hW4, heap_setCell_other _ _ _ _ HNv1v2.out.symm]; exact HBv2_3.out
  have HBv1_4 : Hid ((w4).heap[qv1]? = some (.cells #[.int .i64 2, .string a, .string ⟨#[]⟩, .int .i64 0] 26)) := by show _ = _; rw [hW4]; have h := heap_set _ _ 1 _ _ _ (.string a) HBv1_3.out; simpa using h
  clear hb3 HBv1_3 HBv2_3 hW4
  obtain ⟨w5, hW5⟩ : ∃ W, W = (w4).setCell ⟨qv1, 2, none⟩ (.string ⟨#[]⟩) := ⟨_, rfl⟩
  rw [← hW5]
  have hb5 : Below w.heap.size w (w5) := by rw [hW5]; exact (hb4.setCell (p := ⟨qv1, 2, none⟩) HGv1.out _)
  have HM5 : Hid ((w4).heap.size ≤ w5.heap.size) := by show _ ≤ _; rw [hW5]; simp
  have HBv2_5 : Hid ((w5).heap[qv2]? = some (.cells #[.string a] 74)) := by show _ = _; rw [hW5, heap_setCell_other _ _ _ _ HNv1v2.out.symm]; exact HBv2_4.out
  have HBv1_5 : Hid ((w5).heap[qv1]? = some (.cells #[.int .i64 2, .string a, .string ⟨#[]⟩, .int .i64 0] 26)) := by show _ = _; rw [hW5]; have h := heap_set _ _ 2 _ _ _ (.string ⟨#[]⟩) HBv1_4.out; simpa using h
  clear hb4 HBv1_4 HBv2_4 hW5
  obtain ⟨w6, hW6⟩ : ∃ W, W = (w5).setCell ⟨qv1, 3, none⟩ (.int .i64 t) := ⟨_, rfl⟩
  rw [← hW6]
  have hb6 : Below w.heap.size w (w6) := by rw [hW6]; exact (hb5.setCell (p := ⟨qv1, 3, none⟩) HGv1.out _)
  have HM6 : Hid ((w5).heap.size ≤ w6.heap.size) := by show _ ≤ _; rw [hW6]; simp
  have HBv2_6 : Hid ((w6).heap[qv2]? = some (.cells #[.string a] 74)) := by show _ = _; rw [hW6, heap_setCell_other _ _ _ _ HNv1v2.out.symm]; exact HBv2_5.out
  have HBv1_6 : Hid ((w6).heap[qv1]? = some (.cells #[.int .i64 2, .string a, .string ⟨#[]⟩, .int .i64 t] 26)) := by show _ = _; rw [hW6]; have h := heap_set _ _ 3 _ _ _ (.int .i64 t) HBv1_5.out; simpa using h
  clear hb5 HBv1_5 HBv2_5 hW6
  have kv1_0 : (w6).cell? ⟨qv1, 0, none⟩ = some (.int .i64 2) := (cell_of HBv1_6.out 0).trans rfl
  have kv1_1 : (w6).cell? ⟨qv1, 1, none⟩ = some (.string a) := (cell_of HBv1_6.out 1).trans rfl
  have kv1_2 : (w6).cell? ⟨qv1, 2, none⟩ = some (.string ⟨#[]⟩) := (cell_of HBv1_6.out 2).trans rfl
  have kv1_3 : (w6).cell? ⟨qv1, 3, none⟩ = some (.int .i64 t) := (cell_of HBv1_6.out 3).trans rfl
  refine bodyPost_ret (v := .agg #[.int .i64 2, .string a, .string ⟨#[]⟩, .int .i64 t]) (by simp [results, Try.results26, go_sem, kv1_0, kv1_1, kv1_2, kv1_3]) rfl ?_
  exact ⟨rfl, hb6⟩

set_option maxHeartbeats 8000000 in
set_option maxRecDepth 100000 in
theorem banOf_3 (a b : ByteArray) (t : Int) (w : World) :
    Calls Try.prog 26 #[.iface 76 (.agg #[.string a, .string b]), .int .i64 t] w fun e w' => e = .returned (.agg #[.int .i64 3, .string a, .string b, .int .i64 t]) ∧ Below w.heap.size w w' := by
  have hta1 : ∀ W : World, (Instr.typeAssert (.iface 76 (.agg #[.string a, .string b])) 55 72 true).run Try.prog W = .ok (.tuple #[.agg #[.string ⟨#[]⟩], .bool false]) W := fun _ => by kernel_rfl
  have hta2 : ∀ W : World, (Instr.typeAssert (.iface 76 (.agg #[.string a, .string b])) 55 74 true).run Try.prog W = .ok (.tuple #[.agg #[.string ⟨#[]⟩], .bool false]) W := fun _ => by kernel_rfl
  have hta3 : ∀ W : World, (Instr.typeAssert (.iface 76 (.agg #[.string a, .string b])) 55 76 true).run Try.prog W = .ok (.tuple #[.agg #[.string a, .string b], .bool true]) W := fun _ => by kernel_rfl
  have hb0 : Below w.heap.size w w := Below.refl _ _
  go_enter Try.func26, Try.ntmps26
  go_upto_region 1 with fail
  obtain ⟨qv1, hqv1⟩ : ∃ q, q = (w).heap.size := ⟨_, rfl⟩
  obtain ⟨w1, hW1⟩ : ∃ W, W = (w).alloc (.cells #[.int .i64 0, .string ⟨#[]⟩, .string ⟨#[]⟩, .int .i64 0] 26) := ⟨_, rfl⟩
  have hz1 : (w).heap.size = qv1 := hqv1.symm
  first | rw [← hW1, ← hqv1] | rw [← hW1]
  have hs1 : w1.heap.size = qv1 + 1 := by rw [hW1, ← hz1]; simp
  have bw : Below (w).heap.size (w) w1 := by rw [hW1]; exact (Below.refl _ _).alloc (Nat.le_refl _) _
  have hb1 : Below w.heap.size w (w1) := hb0.trans (bw.mono hb0.size)
  have HM1 : Hid ((w).heap.size ≤ (w1).heap.size) := bw.size
  have HBv1_1 : Hid ((w1).heap[qv1]? = some (.cells #[.int .i64 0, .string ⟨#[]⟩, .string ⟨#[]⟩, .int .i64 0] 26)) := by show _ = _; rw [hW1, ← hz1]; exact heap_alloc_new _ _
  have HGv1 : Hid (w.heap.size ≤ qv1) := by show _ ≤ _; rw [← hz1]; exact hb0.size
  clear hb0 bw hW1 hz1
  clear hs1 hqv1
  go_upto_region 10 with fail
  obtain ⟨qv2, hqv2⟩ : ∃ q, q = (w1).heap.size := ⟨_, rfl⟩
  obtain ⟨w2, hW2⟩ : ∃ W, W = (w1).alloc (.cells #[.string a, .string b] 76) := ⟨_, rfl⟩
  have hz2 : (w1).heap.size = qv2 := hqv2.symm
  first | rw [← hW2, ← hqv2] | rw [← hW2]
  have hs2 : w2.heap.size = qv2 + 1 := by rw [hW2, ← hz2]; simp
  have bw : Below (w1).heap.size (w1) w2 := by rw [hW2]; exact (Below.refl _ _).alloc (Nat.le_refl _) _
  have hb2 : Below w.heap.size w (w2) := hb1.trans (bw.mono hb1.size)
  have HM2 : Hid ((w1).heap.size ≤ (w2).heap.size) := bw.size
  have HBv1_2 : Hid ((w2).heap[qv1]? = some (.cells #[.int .i64 0, .string ⟨#[]⟩, .string ⟨#[]⟩, .int .i64 0] 26)) := blk_below HBv1_1.out bw
  have HNv1v2 : Hid (qv1 ≠ qv2) := fun e => by have h1 := (Array.getElem?_eq_some_iff.1 HBv1_1.out).1; omega
  have HBv2_2 : Hid ((w2).heap[qv2]? = some (.cells #[.string a, .string b] 76)) := by show _ = _; rw [hW2, ← hz2]; exact heap_alloc_new _ _
  have HGv2 : Hid (w.heap.size ≤ qv2) := by show _ ≤ _; rw [← hz2]; exact hb1.size
  clear hb1 HBv1_1 bw hW2 hz2
  clear hs2 hqv2
  have cv1_0 : (w2).cell? ⟨qv1, 0, none⟩ = some (.int .i64 0) := (cell_of HBv1_2.out 0).trans rfl
  have fcv1_0 : (w2).frozen? ⟨qv1, 0, none⟩ = false := frozen_of HBv1_2.out 0
  have cv1_1 : (w2).cell? ⟨qv1, 1, none⟩ = some (.string ⟨#[]⟩) := (cell_of HBv1_2.out 1).trans rfl
  have fcv1_1 : (w2).frozen? ⟨qv1, 1, none⟩ = false := frozen_of HBv1_2.out 1
  have cv1_2 : (w2).cell? ⟨qv1, 2, none⟩ = some (.string ⟨#[]⟩) := (cell_of HBv1_2.out 2).trans rfl
  have fcv1_2 : (w2).frozen? ⟨qv1, 2, none⟩ = false := frozen_of HBv1_2.out 2
  have cv1_3 : (w2).cell? ⟨qv1, 3, none⟩ = some (.int .i64 0) := (cell_of HBv1_2.out 3).trans rfl
  have fcv1_3 : (w2).frozen? ⟨qv1, 3, none⟩ = false := frozen_of HBv1_2.out 3
  have cv2_0 : (w2).cell? ⟨qv2, 0, none⟩ = some (.string a) := (cell_of HBv2_2.out 0).trans rfl
  have cv2_1 : (w2).cell? ⟨qv2, 1, none⟩ = some (.string b) := (cell_of HBv2_2.out 1).trans rfl
  go_wp2_with fail
  obtain ⟨w3, hW3⟩ : ∃ W, W = (w2).setCell ⟨qv1, 0, none⟩ (.int .i64 3) := ⟨_, rfl⟩
  rw [← hW3]
  have hb3 : Below w.heap.size w (w3) := by rw [hW3]; exact (hb2.setCell (p := ⟨qv1, 0, none⟩) HGv1.out _)
  have HM3 : Hid ((w2).heap.size ≤ w3.heap.size) := by show _ ≤ _; rw [hW3]; simp
  have HBv2_3 : Hid ((w3).heap[qv2]? = some (.cells #[.string a, .string b] 76)) := by show _ = _; rw [hW3, heap_setCell_other _ _ _ _ HNv1v2.out.symm]; exact HBv2_2.out
  have HBv1_3 : Hid ((w3).heap[qv1]? = some (.cells #[.int .i64 3, .string ⟨#[]⟩, .string ⟨#[]⟩, .int .i64 0] 26)) := by show _ = _; rw [hW3]; have h := heap_set _ _ 0 _ _ _ (.int .i64 3) HBv1_2.out; simpa using h
  clear hb2 HBv1_2 HBv2_2 hW3
  obtain ⟨w4, hW4⟩ : ∃ W, W = (w3).setCell ⟨qv1, 1, none⟩ (.string a) := ⟨_, rfl⟩
  rw [← hW4]
  have hb4 : Below w.heap.size w (w4) := by rw [hW4]; exact (hb3.setCell (p := ⟨qv1, 1, none⟩) HGv1.out _)
  have HM4 : Hid ((w3).heap.size ≤ w4.heap.size) := by show _ ≤ _; rw [hW4]; simp
  have HBv2_4 : Hid ((w4).heap[qv2]? = some (.cells #[.string a, .string b] 76)) := by show _ = _; rw [hW4, heap_setCell_other _ _ _ _ HNv1v2.out.symm]; exact HBv2_3.out
  have HBv1_4 : Hid ((w4).heap[qv1]? = some (.cells #[.int .i64 3, .string a, .string ⟨#[]⟩, .int .i64 0] 26)) := by show _ = _; rw [hW4]; have h := heap_set _ _ 1 _ _ _ (.string a) HBv1_3.out; simpa using h
  clear hb3 HBv1_3 HBv2_3 hW4
  obtain ⟨w5, hW5⟩ : ∃ W, W = (w4).setCell ⟨qv1, 2, none⟩ (.string b) := ⟨_, rfl⟩
  rw [← hW5]
  have hb5 : Below w.heap.size w (w5) := by rw [hW5]; exact (hb4.setCell (p := ⟨qv1, 2, none⟩) HGv1.out _)
  have HM5 : Hid ((w4).heap.size ≤ w5.heap.size) := by show _ ≤ _; rw [hW5]; simp
  have HBv2_5 : Hid ((w5).heap[qv2]? = some (.cells #[.string a, .string b] 76)) := by show _ = _; rw [hW5, heap_setCell_other _ _ _ _ HNv1v2.out.symm]; exact HBv2_4.out
  have HBv1_5 : Hid ((w5).heap[qv1]? = some (.cells #[.int .i64 3, .string a, .string b, .int .i64 0] 26)) := by show _ = _; rw [hW5]; have h := heap_set _ _ 2 _ _ _ (.string b) HBv1_4.out; simpa using h
  clear hb4 HBv1_4 HBv2_4 hW5
  obtain ⟨w6, hW6⟩ : ∃ W, W = (w5).setCell ⟨qv1, 3, none⟩ (.int .i64 t) := ⟨_, rfl⟩
  rw [← hW6]
  have hb6 : Below w.heap.size w (w6) := by rw [hW6]; exact (hb5.setCell (p := ⟨qv1, 3, none⟩) HGv1.out _)
  have HM6 : Hid ((w5).heap.size ≤ w6.heap.size) := by show _ ≤ _; rw [hW6]; simp
  have HBv2_6 : Hid ((w6).heap[qv2]? = some (.cells #[.string a, .string b] 76)) := by show _ = _; rw [hW6, heap_setCell_other _ _ _ _ HNv1v2.out.symm]; exact HBv2_5.out
  have HBv1_6 : Hid ((w6).heap[qv1]? = some (.cells #[.int .i64 3, .string a, .string b, .int .i64 t] 26)) := by show _ = _; rw [hW6]; have h := heap_set _ _ 3 _ _ _ (.int .i64 t) HBv1_5.out; simpa using h
  clear hb5 HBv1_5 HBv2_5 hW6
  have kv1_0 : (w6).cell? ⟨qv1, 0, none⟩ = some (.int .i64 3) := (cell_of HBv1_6.out 0).trans rfl
  have kv1_1 : (w6).cell? ⟨qv1, 1, none⟩ = some (.string a) := (cell_of HBv1_6.out 1).trans rfl
  have kv1_2 : (w6).cell? ⟨qv1, 2, none⟩ = some (.string b) := (cell_of HBv1_6.out 2).trans rfl
  have kv1_3 : (w6).cell? ⟨qv1, 3, none⟩ = some (.int .i64 t) := (cell_of HBv1_6.out 3).trans rfl
  refine bodyPost_ret (v := .agg #[.int .i64 3, .string a, .string b, .int .i64 t]) (by simp [results, Try.results26, go_sem, kv1_0, kv1_1, kv1_2, kv1_3]) rfl ?_
  exact ⟨rfl, hb6⟩

set_option maxHeartbeats 8000000 in
set_option maxRecDepth 100000 in
theorem right_1 (a : ByteArray) (w : World) (ha : a.size ≤ maxLen) :
    Calls Try.prog 102 #[.agg #[.string a]] w fun e w' => BoolIs (PathOk a) w e w' := by
  have HAM : Hid (a.size ≤ maxLen) := ha
  clear ha
  have hb0 : Below w.heap.size w w := Below.refl _ _
  go_enter Try.func102, Try.ntmps102
  go_upto_region 1 with fail
  obtain ⟨qv1, hqv1⟩ : ∃ q, q = (w).heap.size := ⟨_, rfl⟩
  obtain ⟨w1, hW1⟩ : ∃ W, W = (w).alloc (.cells #[.string a] 72) := ⟨_, rfl⟩
  have hz1 : (w).heap.size = qv1 := hqv1.symm
  first | rw [← hW1, ← hqv1] | rw [← hW1]
  have hs1 : w1.heap.size = qv1 + 1 := by rw [hW1, ← hz1]; simp
  have bw : Below (w).heap.size (w) w1 := by rw [hW1]; exact (Below.refl _ _).alloc (Nat.le_refl _) _
  have hb1 : Below w.heap.size w (w1) := hb0.trans (bw.mono hb0.size)
  have HM1 : Hid ((w).heap.size ≤ (w1).heap.size) := bw.size
  have HBv1_1 : Hid ((w1).heap[qv1]? = some (.cells #[.string a] 72)) := by show _ = _; rw [hW1, ← hz1]; exact heap_alloc_new _ _
  have HGv1 : Hid (w.heap.size ≤ qv1) := by show _ ≤ _; rw [← hz1]; exact hb0.size
  clear hb0 bw hW1 hz1
  clear hs1 hqv1
  have cv1_0 : (w1).cell? ⟨qv1, 0, none⟩ = some (.string a) := (cell_of HBv1_1.out 0).trans rfl
  go_wp2_with fail
  refine (pathOk_any a _ HAM.out).mono ?_
  rintro e w2 ⟨u, rfl, htu, bw⟩
  have hb2 : Below w.heap.size w (w2) := hb1.trans (bw.mono hb1.size)
  have HM2 : Hid ((w1).heap.size ≤ (w2).heap.size) := bw.size
  have HBv1_2 : Hid ((w2).heap[qv1]? = some (.cells #[.string a] 72)) := blk_below HBv1_1.out bw
  clear hb1 HBv1_1 bw
  clear cv1_0
  go_wp2_with fail
  go_ret
  exact ⟨u, rfl, htu, hb2⟩

set_option maxHeartbeats 8000000 in
set_option maxRecDepth 100000 in
theorem right_2 (a : ByteArray) (w : World) (ha : a.size ≤ maxLen) :
    Calls Try.prog 104 #[.agg #[.string a]] w fun e w' => BoolIs (PathOk a) w e w' := by
  have HAM : Hid (a.size ≤ maxLen) := ha
  clear ha
  have hb0 : Below w.heap.size w w := Below.refl _ _
  go_enter Try.func104, Try.ntmps104
  go_upto_region 1 with fail
  obtain ⟨qv1, hqv1⟩ : ∃ q, q = (w).heap.size := ⟨_, rfl⟩
  obtain ⟨w1, hW1⟩ : ∃ W, W = (w).alloc (.cells #[.string a] 74) := ⟨_, rfl⟩
  have hz1 : (w).heap.size = qv1 := hqv1.symm
  first | rw [← hW1, ← hqv1] | rw [← hW1]
  have hs1 : w1.heap.size = qv1 + 1 := by rw [hW1, ← hz1]; simp
  have bw : Below (w).heap.size (w) w1 := by rw [hW1]; exact (Below.refl _ _).alloc (Nat.le_refl _) _
  have hb1 : Below w.heap.size w (w1) := hb0.trans (bw.mono hb0.size)
  have HM1 : Hid ((w).heap.size ≤ (w1).heap.size) := bw.size
  have HBv1_1 : Hid ((w1).heap[qv1]? = some (.cells #[.string a] 74)) := by show _ = _; rw [hW1, ← hz1]; exact heap_alloc_new _ _
  have HGv1 : Hid (w.heap.size ≤ qv1) := by show _ ≤ _; rw [← hz1]; exact hb0.size
  clear hb0 bw hW1 hz1
  clear hs1 hqv1
  have cv1_0 : (w1).cell? ⟨qv1, 0, none⟩ = some (.string a) := (cell_of HBv1_1.out 0).trans rfl
  go_wp2_with fail
  refine (pathOk_any a _ HAM.out).mono ?_
  rintro e w2 ⟨u, rfl, htu, bw⟩
  have hb2 : Below w.heap.size w (w2) := hb1.trans (bw.mono hb1.size)
  have HM2 : Hid ((w1).heap.size ≤ (w2).heap.size) := bw.size
  have HBv1_2 : Hid ((w2).heap[qv1]? = some (.cells #[.string a] 74)) := blk_below HBv1_1.out bw
  clear hb1 HBv1_1 bw
  clear cv1_0
  go_wp2_with fail
  go_ret
  exact ⟨u, rfl, htu, hb2⟩

set_option maxHeartbeats 8000000 in
set_option maxRecDepth 100000 in
theorem right_3 (a b : ByteArray) (w : World) (ha : a.size ≤ maxLen) (hb : b.size ≤ maxLen) :
    Calls Try.prog 108 #[.agg #[.string a, .string b]] w fun e w' => BoolIs (TokOk a ∧ ValOk b) w e w' := by
  have HAM : Hid (a.size ≤ maxLen) := ha
  have HBM : Hid (b.size ≤ maxLen) := hb
  clear ha hb
  have hb0 : Below w.heap.size w w := Below.refl _ _
  go_enter Try.func108, Try.ntmps108
  go_upto_region 1 with fail
  obtain ⟨qv1, hqv1⟩ : ∃ q, q = (w).heap.size := ⟨_, rfl⟩
  obtain ⟨w1, hW1⟩ : ∃ W, W = (w).alloc (.cells #[.string a, .string b] 76) := ⟨_, rfl⟩
  have hz1 : (w).heap.size = qv1 := hqv1.symm
  first | rw [← hW1, ← hqv1] | rw [← hW1]
  have hs1 : w1.heap.size = qv1 + 1 := by rw [hW1, ← hz1]; simp
  have bw : Below (w).heap.size (w) w1 := by rw [hW1]; exact (Below.refl _ _).alloc (Nat.le_refl _) _
  have hb1 : Below w.heap.size w (w1) := hb0.trans (bw.mono hb0.size)
  have HM1 : Hid ((w).heap.size ≤ (w1).heap.size) := bw.size
  have HBv1_1 : Hid ((w1).heap[qv1]? = some (.cells #[.string a, .string b] 76)) := by show _ = _; rw [hW1, ← hz1]; exact heap_alloc_new _ _
  have HGv1 : Hid (w.heap.size ≤ qv1) := by show _ ≤ _; rw [← hz1]; exact hb0.size
  clear hb0 bw hW1 hz1
  clear hs1 hqv1
  have cv1_0 : (w1).cell? ⟨qv1, 0, none⟩ = some (.string a) := (cell_of HBv1_1.out 0).trans rfl
  go_wp2_with fail
  refine (implTokenOk_any a _ HAM.out).mono ?_
  rintro e w2 ⟨u, rfl, htu, bw⟩
  have hb2 : Below w.heap.size w (w2) := hb1.trans (bw.mono hb1.size)
  have HM2 : Hid ((w1).heap.size ≤ (w2).heap.size) := bw.size
  have HBv1_2 : Hid ((w2).heap[qv1]? = some (.cells #[.string a, .string b] 76)) := blk_below HBv1_1.out bw
  clear hb1 HBv1_1 bw
  clear cv1_0
  cases u with
  | false =>
    have HU : Hid (¬ TokOk a) := fun h => nomatch htu.2 h
    clear htu
    go_wp2_with fail
    go_ret
    exact ⟨false, rfl, ⟨fun h => (by cases h), fun h => absurd h.1 HU.out⟩, hb2⟩
  | true =>
    have HU : Hid (TokOk a) := htu.1 rfl
    clear htu
    have cv1_1 : (w2).cell? ⟨qv1, 1, none⟩ = some (.string b) := (cell_of HBv1_2.out 1).trans rfl
    go_wp2_with fail
    refine (implValueOk_any b _ HBM.out).mono ?_
    rintro e w3 ⟨v, rfl, htv, bw⟩
    have hb3 : Below w.heap.size w (w3) := hb2.trans (bw.mono hb2.size)
    have HM3 : Hid ((w2).heap.size ≤ (w3).heap.size) := bw.size
    have HBv1_3 : Hid ((w3).heap[qv1]? = some (.cells #[.string a, .string b] 76)) := blk_below HBv1_2.out bw
    clear hb2 HBv1_2 bw
    clear cv1_1
    go_wp2_with fail
    go_ret
    exact ⟨v, rfl, ⟨fun h => ⟨HU.out, htv.1 h⟩, fun h => htv.2 h.2⟩, hb3⟩

set_option maxHeartbeats 8000000 in
set_option maxRecDepth 100000 in
theorem bans_1 (a : ByteArray) (p : ByteArray) (v1 v2 : Value) (st : Int) (v3 : Value) (d : ByteArray) (u : Int) (w : World) :
    Calls Try.prog 101 #[.agg #[.string a], .agg #[.string p, v1, v2, .int .i64 st, v3, .string d, .int .i64 u]] w fun e w' => BoolIs (p = a) w e w' := by
  have hb0 : Below w.heap.size w w := Below.refl _ _
  go_enter Try.func101, Try.ntmps101
  go_upto_region 1 with fail
  obtain ⟨qv1, hqv1⟩ : ∃ q, q = (w).heap.size := ⟨_, rfl⟩
  obtain ⟨w1, hW1⟩ : ∃ W, W = (w).alloc (.cells #[.string a] 72) := ⟨_, rfl⟩
  have hz1 : (w).heap.size = qv1 := hqv1.symm
  first | rw [← hW1, ← hqv1] | rw [← hW1]
  have hs1 : w1.heap.size = qv1 + 1 := by rw [hW1, ← hz1]; simp
  have bw : Below (w).heap.size (w) w1 := by rw [hW1]; exact (Below.refl _ _).alloc (Nat.le_refl _) _
  have hb1 : Below w.heap.size w (w1) := hb0.trans (bw.mono hb0.size)
  have HM1 : Hid ((w).heap.size ≤ (w1).heap.size) := bw.size
  have HBv1_1 : Hid ((w1).heap[qv1]? = some (.cells #[.string a] 72)) := by show _ = _; rw [hW1, ← hz1]; exact heap_alloc_new _ _
  have HGv1 : Hid (w.heap.size ≤ qv1) := by show _ ≤ _; rw [← hz1]; exact hb0.size
  clear hb0 bw hW1 hz1
  obtain ⟨qv2, hqv2⟩ : ∃ q, q = qv1 + 1 := ⟨_, rfl⟩
  obtain ⟨w2, hW2⟩ : ∃ W, W = (w1).alloc (.cells #[.string p, v1, v2, .int .i64 st, v3, .string d, .int .i64 u] 41) := ⟨_, rfl⟩
  have hz2 : (w1).heap.size = qv2 := by rw [hqv2]; exact hs1
  first | rw [← hW2, ← hqv2] | rw [← hW2]
  have hs2 : w2.heap.size = qv2 + 1 := by rw [hW2, ← hz2]; simp
  have bw : Below (w1).heap.size (w1) w2 := by rw [hW2]; exact (Below.refl _ _).alloc (Nat.le_refl _) _
  have hb2 : Below w.heap.size w (w2) := hb1.trans (bw.mono hb1.size)
  have HM2 : Hid ((w1).heap.size ≤ (w2).heap.size) := bw.size
  have HBv1_2 : Hid ((w2).heap[qv1]? = some (.cells #[.string a] 72)) := blk_below HBv1_1.out bw
  have HNv1v2 : Hid (qv1 ≠ qv2) := fun e => by have h1 := (Array.getElem?_eq_some_iff.1 HBv1_1.out).1; omega
  have HBv2_2 : Hid ((w2).heap[qv2]? = some (.cells #[.string p, v1, v2, .int .i64 st, v3, .string d, .int .i64 u] 41)) := by show _ = _; rw [hW2, ← hz2]; exact heap_alloc_new _ _
  have HGv2 : Hid (w.heap.size ≤ qv2) := by show _ ≤ _; rw [← hz2]; exact hb1.size
  clear hb1 HBv1_1 bw hW2 hz2
  clear hs2 hqv2 hs1 hqv1
  have cv1_0 : (w2).cell? ⟨qv1, 0, none⟩ = some (.string a) := (cell_of HBv1_2.out 0).trans rfl
  have cv2_0 : (w2).cell? ⟨qv2, 0, none⟩ = some (.string p) := (cell_of HBv2_2.out 0).trans rfl
  by_cases hc1 : p = a
  · have hc1b : ((p).toList == (a).toList) = true := (text_beq _ _).2 hc1
    go_wp2_with fail
    go_ret
    exact ⟨true, rfl, by simpa using hc1, hb2⟩
  · have hc1b : ((p).toList == (a).toList) = false := text_beq_no hc1
    go_wp2_with fail
    go_ret
    exact ⟨false, rfl, by simpa using hc1, hb2⟩

theorem begins_prefix (a p : ByteArray) : (bs a).isPrefixOf (bs p) = true ↔ Begins a p := by
  rw [List.isPrefixOf_iff_prefix]
  constructor
  · rintro ⟨r, h⟩; exact ⟨r, h.symm⟩
  · rintro ⟨r, h⟩; exact ⟨r, h.symm⟩
set_option maxHeartbeats 8000000 in
set_option maxRecDepth 100000 in
theorem bans_2 (a : ByteArray) (p : ByteArray) (v1 v2 : Value) (st : Int) (v3 : Value) (d : ByteArray) (u : Int) (w : World) (hp : p.size ≤ maxLen) :
    Calls Try.prog 103 #[.agg #[.string a], .agg #[.string p, v1, v2, .int .i64 st, v3, .string d, .int .i64 u]] w fun e w' => BoolIs (Begins a p) w e w' := by
  have HPM : Hid (p.size ≤ maxLen) := hp
  clear hp
  have hb0 : Below w.heap.size w w := Below.refl _ _
  go_enter Try.func103, Try.ntmps103
  go_upto_region 1 with fail
  obtain ⟨qv1, hqv1⟩ : ∃ q, q = (w).heap.size := ⟨_, rfl⟩
  obtain ⟨w1, hW1⟩ : ∃ W, W = (w).alloc (.cells #[.string a] 74) := ⟨_, rfl⟩
  have hz1 : (w).heap.size = qv1 := hqv1.symm
  first | rw [← hW1, ← hqv1] | rw [← hW1]
  have hs1 : w1.heap.size = qv1 + 1 := by rw [hW1, ← hz1]; simp
  have bw : Below (w).heap.size (w) w1 := by rw [hW1]; exact (Below.refl _ _).alloc (Nat.le_refl _) _
  have hb1 : Below w.heap.size w (w1) := hb0.trans (bw.mono hb0.size)
  have HM1 : Hid ((w).heap.size ≤ (w1).heap.size) := bw.size
  have HBv1_1 : Hid ((w1).heap[qv1]? = some (.cells #[.string a] 74)) := by show _ = _; rw [hW1, ← hz1]; exact heap_alloc_new _ _
  have HGv1 : Hid (w.heap.size ≤ qv1) := by show _ ≤ _; rw [← hz1]; exact hb0.size
  clear hb0 bw hW1 hz1
  obtain ⟨qv2, hqv2⟩ : ∃ q, q = qv1 + 1 := ⟨_, rfl⟩
  obtain ⟨w2, hW2⟩ : ∃ W, W = (w1).alloc (.cells #[.string p, v1, v2, .int .i64 st, v3, .string d, .int .i64 u] 41) := ⟨_, rfl⟩
  have hz2 : (w1).heap.size = qv2 := by rw [hqv2]; exact hs1
  first | rw [← hW2, ← hqv2] | rw [← hW2]
  have hs2 : w2.heap.size = qv2 + 1 := by rw [hW2, ← hz2]; simp
  have bw : Below (w1).heap.size (w1) w2 := by rw [hW2]; exact (Below.refl _ _).alloc (Nat.le_refl _) _
  have hb2 : Below w.heap.size w (w2) := hb1.trans (bw.mono hb1.size)
  have HM2 : Hid ((w1).heap.size ≤ (w2).heap.size) := bw.size
  have HBv1_2 : Hid ((w2).heap[qv1]? = some (.cells #[.string a] 74)) := blk_below HBv1_1.out bw
  have HNv1v2 : Hid (qv1 ≠ qv2) := fun e => by have h1 := (Array.getElem?_eq_some_iff.1 HBv1_1.out).1; omega
  have HBv2_2 : Hid ((w2).heap[qv2]? = some (.cells #[.string p, v1, v2, .int .i64 st, v3, .string d, .int .i64 u] 41)) := by show _ = _; rw [hW2, ← hz2]; exact heap_alloc_new _ _
  have HGv2 : Hid (w.heap.size ≤ qv2) := by show _ ≤ _; rw [← hz2]; exact hb1.size
  clear hb1 HBv1_1 bw hW2 hz2
  clear hs2 hqv2 hs1 hqv1
  have cv1_0 : (w2).cell? ⟨qv1, 0, none⟩ = some (.string a) := (cell_of HBv1_2.out 0).trans rfl
  have cv2_0 : (w2).cell? ⟨qv2, 0, none⟩ = some (.string p) := (cell_of HBv2_2.out 0).trans rfl
  go_wp2_with fail
  refine (Try.strings_HasPrefix p a _).mono ?_
  rintro e w3 ⟨rfl, hwe⟩
  have bw : Below (w2).heap.size (w2) w3 := by rw [hwe]; exact Below.refl _ _
  clear hwe
  obtain ⟨u9, hu9⟩ : ∃ x, x = Lib.hasPrefix p.data.toList a.data.toList := ⟨_, rfl⟩
  rw [← hu9]
  have HU9 : Hid (u9 = Lib.hasPrefix p.data.toList a.data.toList) := hu9
  clear hu9
  have hb3 : Below w.heap.size w (w3) := hb2.trans (bw.mono hb2.size)
  have HM3 : Hid ((w2).heap.size ≤ (w3).heap.size) := bw.size
  have HBv1_3 : Hid ((w3).heap[qv1]? = some (.cells #[.string a] 74)) := blk_below HBv1_2.out bw
  have HBv2_3 : Hid ((w3).heap[qv2]? = some (.cells #[.string p, v1, v2, .int .i64 st, v3, .string d, .int .i64 u] 41)) := blk_below HBv2_2.out bw
  clear hb2 HBv1_2 HBv2_2 bw
  clear cv1_0 cv2_0
  go_wp2_with fail
  go_ret
  exact ⟨u9, rfl, by rw [HU9.out]; exact begins_prefix a p, hb3⟩

set_option maxHeartbeats 8000000 in
set_option maxRecDepth 100000 in
theorem bans_3 (a b : ByteArray) (p : ByteArray) (v1 v2 : Value) (st : Int) (v3 : Value) (d : ByteArray) (u : Int) (w : World) (n3 base : Nat) (fs : List (ByteArray × ByteArray)) (h3 : FieldsV w base v3 n3 fs) (hn3 : n3 ≤ 2000000) (hc : CopyF fs) :
    Calls Try.prog 107 #[.agg #[.string a, .string b], .agg #[.string p, v1, v2, .int .i64 st, v3, .string d, .int .i64 u]] w fun e w' => BoolIs (getB fs a = true ∧ getV fs a = b) w e w' := by
  have HV3 : Hid (∀ W, Below w.heap.size w W → FieldsV W base v3 n3 fs) := fun W h => h3.below h
  have HC : Hid (CopyF fs) := hc
  clear h3 hc
  have hb0 : Below w.heap.size w w := Below.refl _ _
  go_enter Try.func107, Try.ntmps107
  go_upto_region 1 with fail
  obtain ⟨qv1, hqv1⟩ : ∃ q, q = (w).heap.size := ⟨_, rfl⟩
  obtain ⟨w1, hW1⟩ : ∃ W, W = (w).alloc (.cells #[.string a, .string b] 76) := ⟨_, rfl⟩
  have hz1 : (w).heap.size = qv1 := hqv1.symm
  first | rw [← hW1, ← hqv1] | rw [← hW1]
  have hs1 : w1.heap.size = qv1 + 1 := by rw [hW1, ← hz1]; simp
  have bw : Below (w).heap.size (w) w1 := by rw [hW1]; exact (Below.refl _ _).alloc (Nat.le_refl _) _
  have hb1 : Below w.heap.size w (w1) := hb0.trans (bw.mono hb0.size)
  have HM1 : Hid ((w).heap.size ≤ (w1).heap.size) := bw.size
  have HBv1_1 : Hid ((w1).heap[qv1]? = some (.cells #[.string a, .string b] 76)) := by show _ = _; rw [hW1, ← hz1]; exact heap_alloc_new _ _
  have HGv1 : Hid (w.heap.size ≤ qv1) := by show _ ≤ _; rw [← hz1]; exact hb0.size
  clear hb0 bw hW1 hz1
  obtain ⟨qv2, hqv2⟩ : ∃ q, q = qv1 + 1 := ⟨_, rfl⟩
  obtain ⟨w2, hW2⟩ : ∃ W, W = (w1).alloc (.cells #[.string p, v1, v2, .int .i64 st, v3, .string d, .int .i64 u] 41) := ⟨_, rfl⟩
  have hz2 : (w1).heap.size = qv2 := by rw [hqv2]; exact hs1
  first | rw [← hW2, ← hqv2] | rw [← hW2]
  have hs2 : w2.heap.size = qv2 + 1 := by rw [hW2, ← hz2]; simp
  have bw : Below (w1).heap.size (w1) w2 := by rw [hW2]; exact (Below.refl _ _).alloc (Nat.le_refl _) _
  have hb2 : Below w.heap.size w (w2) := hb1.trans (bw.mono hb1.size)
  have HM2 : Hid ((w1).heap.size ≤ (w2).heap.size) := bw.size
  have HBv1_2 : Hid ((w2).heap[qv1]? = some (.cells #[.string a, .string b] 76)) := blk_below HBv1_1.out bw
  have HNv1v2 : Hid (qv1 ≠ qv2) := fun e => by have h1 := (Array.getElem?_eq_some_iff.1 HBv1_1.out).1; omega
  have HBv2_2 : Hid ((w2).heap[qv2]? = some (.cells #[.string p, v1, v2, .int .i64 st, v3, .string d, .int .i64 u] 41)) := by show _ = _; rw [hW2, ← hz2]; exact heap_alloc_new _ _
  have HGv2 : Hid (w.heap.size ≤ qv2) := by show _ ≤ _; rw [← hz2]; exact hb1.size
  clear hb1 HBv1_1 bw hW2 hz2
  clear hs2 hqv2 hs1 hqv1
  have cv1_0 : (w2).cell? ⟨qv1, 0, none⟩ = some (.string a) := (cell_of HBv1_2.out 0).trans rfl
  have cv2_4 : (w2).cell? ⟨qv2, 4, none⟩ = some (v3) := (cell_of HBv2_2.out 4).trans rfl
  go_wp2_with fail
  refine (implGet_any _ n3 base fs a _ (HV3.out _ hb2) (by omega) HC.out).mono ?_
  rintro e w3 ⟨rfl, bw⟩
  obtain ⟨gv, hgv⟩ : ∃ x, x = getV fs a := ⟨_, rfl⟩
  obtain ⟨ug, hug⟩ : ∃ x, x = getB fs a := ⟨_, rfl⟩
  have HGE : Hid (getV fs a = gv) := hgv.symm
  rw [← hgv, ← hug]
  clear hgv
  have hb3 : Below w.heap.size w (w3) := hb2.trans (bw.mono hb2.size)
  have HM3 : Hid ((w2).heap.size ≤ (w3).heap.size) := bw.size
  have HBv1_3 : Hid ((w3).heap[qv1]? = some (.cells #[.string a, .string b] 76)) := blk_below HBv1_2.out bw
  have HBv2_3 : Hid ((w3).heap[qv2]? = some (.cells #[.string p, v1, v2, .int .i64 st, v3, .string d, .int .i64 u] 41)) := blk_below HBv2_2.out bw
  clear hb2 HBv1_2 HBv2_2 bw
  clear cv1_0 cv2_4
  cases ug with
  | false =>
    have Hug : Hid (¬ getB fs a = true) := (by show ¬ _; rw [← hug]; decide)
    clear hug
    go_wp2_with fail
    go_ret
    refine ⟨false, rfl, ?_, hb3⟩
    have z1 := Hug.out
    have z2 := HGE.out
    first
      | (have z3 := HGV.out
         simp_all; done)
      | (simp_all; done)
  | true =>
    have Hug : Hid (getB fs a = true) := hug.symm
    clear hug
    have cv1_1 : (w3).cell? ⟨qv1, 1, none⟩ = some (.string b) := (cell_of HBv1_3.out 1).trans rfl
    by_cases hc1 : gv = b
    · have hc1b : ((gv).toList == (b).toList) = true := (text_beq _ _).2 hc1
      have HGV : Hid (gv = b) := hc1
      go_wp2_with fail
      go_ret
      refine ⟨true, rfl, ?_, hb3⟩
      have z1 := Hug.out
      have z2 := HGE.out
      first
        | (have z3 := HGV.out
           simp_all; done)
        | (simp_all; done)
    · have hc1b : ((gv).toList == (b).toList) = false := text_beq_no hc1
      have HGV : Hid (¬ gv = b) := hc1
      go_wp2_with fail
      go_ret
      refine ⟨false, rfl, ?_, hb3⟩
      have z1 := Hug.out
      have z2 := HGE.out
      first
        | (have z3 := HGV.out
           simp_all; done)
        | (simp_all; done)

end Go.Proofs.Ytlmenolcgaakeaa

namespace Go.Proofs.Ytlmenolcgaakeaa
open Go.RowKit
open Go.Lib hiding intOf

theorem timeOk_any (t : Int) (w : World) :
    Calls Try.prog 25 #[.int .i64 t] w fun e w' => e = .returned (.bool (decide ((0 : Int) ≤ t ∧ t ≤ 1000000))) ∧ w' = w := by
  obtain ⟨D, hD⟩ : ∃ D, D = decide ((0 : Int) ≤ t ∧ t ≤ 1000000) := ⟨_, rfl⟩
  rw [← hD]
  by_cases h1 : 0 ≤ t
  · by_cases h2 : t ≤ 1000000
    · have HD : Hid (D = true) := by show _ = _; rw [hD]; exact decide_eq_true ⟨h1, h2⟩
      clear hD
      go_enter Try.func25, Try.ntmps25
      go_wp2
      go_ret
      exact ⟨by rw [HD.out]; rfl, rfl⟩
    · have HD : Hid (D = false) := by show _ = _; rw [hD]; exact decide_eq_false (fun h => h2 h.2)
      clear hD
      go_enter Try.func25, Try.ntmps25
      go_wp2
      go_ret
      exact ⟨by rw [HD.out]; rfl, rfl⟩
  · have HD : Hid (D = false) := by show _ = _; rw [hD]; exact decide_eq_false (fun h => h1 h.1)
    clear hD
    go_enter Try.func25, Try.ntmps25
    go_wp2
    go_ret
    exact ⟨by rw [HD.out]; rfl, rfl⟩

set_option maxHeartbeats 1000000 in
theorem valuesOk_any (oa : Option Addr) (m cm : Nat) (xs : List ByteArray) (w : World) (hx : TextsA w oa m xs) (hm : m ≤ 2000000) (hsz : ∀ i, i < m → (textAt xs i).size ≤ maxLen) :
    Calls Try.prog 50 #[.slice oa m cm] w fun e w' => BoolIs (∀ y ∈ xs, ValOk y) w e w' := by
  have HV : Hid (∀ W, Below w.heap.size w W → TextsA W oa m xs) := fun W h => hx.below h
  have HL : Hid (xs.length = m) := hx.1
  have HS : Hid (∀ i, i < m → (textAt xs i).size ≤ maxLen) := hsz
  clear hx hsz
  go_enter Try.func50, Try.ntmps50
  go_wp2
  go_loopw [7] (fun i wr => ∃ j : Nat, j ≤ m ∧ i = .int .i64 (j : Int) ∧ Hid (Below w.heap.size w wr) ∧ Hid (∀ x ∈ xs.take j, ValOk x)) (fun i _ => m - (intOf i).toNat)
  case atStart => exact ⟨0, Nat.zero_le _, rfl, Below.refl _ _, fun x hx => by simp at hx⟩
  case round =>
    obtain ⟨j, hj, rfl, HW, HN⟩ := hrel
    by_cases hlt : (j : Int) < (m : Int)
    · have hjx : j < xs.length := by rw [HL.out]; omega
      obtain ⟨g, hog, hg, hc⟩ := (HV.out wr HW.out).2 j (by omega)
      subst hog
      have hs := HS.out j (by omega)
      obtain ⟨x, hxx⟩ : ∃ x, x = textAt xs j := ⟨_, rfl⟩
      rw [← hxx] at hc hs
      have HM : Hid (x ∈ xs) := by show _ ∈ _; rw [hxx]; exact textAt_mem xs j hjx
      have HTK : Hid (xs.take (j + 1) = xs.take j ++ [x]) := by show _ = _; rw [take_textAt xs j hjx, hxx]
      clear hxx hjx
      go_wp2_with fail
      refine (implValueOk_any x _ hs).mono ?_
      rintro e w90 ⟨tx, rfl, htx, bw⟩
      have HW2 : Hid (Below w.heap.size w w90) := HW.out.trans (bw.mono HW.out.size)
      clear bw hc HW
      cases tx with
      | false =>
        have HF : Hid (¬ ∀ y ∈ xs, ValOk y) := fun h => nomatch htx.2 (h x HM.out)
        clear htx HN
        go_wp2_with fail
        go_ret
        exact BoolIs.no HF.out HW2.out
      | true =>
        have HN2 : Hid (∀ y ∈ xs.take (j + 1), ValOk y) := by
          intro y hy
          rw [HTK.out] at hy
          rcases List.mem_append.1 hy with hy | hy
          · exact HN.out y hy
          · rw [List.mem_singleton.1 hy]; exact htx.1 rfl
        clear htx HN
        go_wp2_with fail
        go_roundw
        case rel => exact ⟨j + 1, by omega, by go_num, HW2, HN2⟩
        case measure => simp [intOf]; omega
    · have HA : Hid (∀ y ∈ xs, ValOk y) := by
        have h := HN.out
        rw [List.take_of_length_le (by rw [HL.out]; omega)] at h
        exact h
      clear HN
      go_wp2_with fail
      go_ret
      exact ⟨true, rfl, ⟨fun _ => HA.out, fun _ => rfl⟩, HW.out⟩

theorem equalT_any (oa ob : Option Addr) (m cm k ck : Nat) (xs ys : List ByteArray) (w : World) (hx : TextsA w oa m xs) (hm : m ≤ 2000000) (hy : TextsA w ob k ys) (hk : k ≤ 2000000) :
    Calls Try.prog 47 #[.slice oa m cm, .slice ob k ck] w fun e w' => e = .returned (.bool (decide (xs = ys))) ∧ Below w.heap.size w w' := by
  by_cases hmk : m = k
  · subst hmk
    by_cases h0 : m = 0
    · subst h0
      refine (Try.slices_Equal_string_empty oa ob cm 0 ck w (by omega)).mono ?_
      rintro e w1 ⟨rfl, rfl⟩
      refine ⟨?_, Below.refl _ _⟩
      rw [List.length_eq_zero_iff.1 hx.1, List.length_eq_zero_iff.1 hy.1]
      simp
    · obtain ⟨g, rfl, _, _⟩ := hx.2 0 (by omega)
      obtain ⟨q, rfl, _, _⟩ := hy.2 0 (by omega)
      refine (Try.slices_Equal_string g 0 m cm q 0 m ck xs ys w (by rw [hx.1]; exact Nat.le_refl _) (by rw [hy.1]; exact Nat.le_refl _) (by omega) (by omega) (fun j hj => ?_) (fun j hj => ?_)).mono ?_
      · obtain ⟨g2, e2, _, h3⟩ := hx.2 j (by rw [← hx.1]; exact hj)
        cases e2
        rw [Nat.zero_add]
        exact h3
      · obtain ⟨g2, e2, _, h3⟩ := hy.2 j (by rw [← hy.1]; exact hj)
        cases e2
        rw [Nat.zero_add]
        exact h3
      · rintro e w1 ⟨rfl, n, rfl⟩
        refine ⟨?_, ⟨rfl, rfl, rfl, Nat.le_refl _, fun _ _ => rfl⟩⟩
        rw [List.take_of_length_le (by rw [hx.1]; exact Nat.le_refl _), List.take_of_length_le (by rw [hy.1]; exact Nat.le_refl _)]
  · refine (Try.slices_Equal_string_lens oa ob m cm k ck w hmk).mono ?_
    rintro e w1 ⟨rfl, rfl⟩
    refine ⟨?_, Below.refl _ _⟩
    rw [decide_eq_false (fun h => hmk (by rw [← hx.1, ← hy.1, h]))]

end Go.Proofs.Ytlmenolcgaakeaa
