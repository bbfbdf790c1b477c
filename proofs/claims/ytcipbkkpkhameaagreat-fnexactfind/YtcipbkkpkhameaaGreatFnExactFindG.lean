/- What the proof of FnExactFind leans on: contracts of the program's and the specification's functions, and plain facts (part 7 of 8). -/
import Derived.Test.YtcipbkkpkhameaaGreatFnExactFindF
namespace Go.Proofs.YtcipbkkpkhameaaGreat
open Go.RowKit
open Go.Lib hiding intOf

set_option maxHeartbeats 8000000 in
set_option maxRecDepth 100000 in
theorem implHits_1 (a b : ByteArray) (t : Int) (p : ByteArray) (o1 : Option Addr) (n1 c1 : Nat) (xs : List ByteArray) (o2 : Option Addr) (n2 c2 : Nat) (ys : List ByteArray) (st : Int) (v3 : Value) (n3 base : Nat) (fs : List (ByteArray × ByteArray)) (d : ByteArray) (u : Int) (w : World) (ha : a.size ≤ maxLen) (hb : b.size ≤ maxLen) (h1 : TextsA w o1 n1 xs) (h2 : TextsA w o2 n2 ys) (h3 : FieldsV w base v3 n3 fs) (hn1 : n1 ≤ 2000000) (hn2 : n2 ≤ 2000000) (hn3 : n3 ≤ 2000000) (hs1 : ∀ i, i < n1 → (textAt xs i).size ≤ maxLen) (hs2 : ∀ i, i < n2 → (textAt ys i).size ≤ maxLen) (hs3 : WalkF n3 fs) (hc : CopyF fs) (hp : p.size ≤ maxLen) (hx : d.size ≤ maxLen) (hg : (getV fs varyName).size ≤ 1048576) :
    Calls Tryz.prog 89 #[.agg #[.int .i64 1, .string a, .string b, .int .i64 t], .agg #[.string p, .slice o1 n1 c1, .slice o2 n2 c2, .int .i64 st, v3, .string d, .int .i64 u]] w fun e w' => BoolIs (HitP 1 a b t p xs ys st fs d u) w e w' := by
  obtain ⟨o3, c3, rfl, _⟩ := h3.slice
  have HV1 : Hid (∀ W, Below w.heap.size w W → TextsA W o1 n1 xs) := fun W h => h1.below h
  have HV2 : Hid (∀ W, Below w.heap.size w W → TextsA W o2 n2 ys) := fun W h => h2.below h
  have HV3 : Hid (∀ W, Below w.heap.size w W → FieldsV W base (.slice o3 n3 c3) n3 fs) := fun W h => h3.below h
  have HS1 : Hid (∀ i, i < n1 → (textAt xs i).size ≤ maxLen) := hs1
  have HS2 : Hid (∀ i, i < n2 → (textAt ys i).size ≤ maxLen) := hs2
  have HS3 : Hid (WalkF n3 fs) := hs3
  have HC : Hid (CopyF fs) := hc
  have HPM : Hid (p.size ≤ maxLen) := hp
  have HX : Hid (d.size ≤ maxLen) := hx
  have HG : Hid ((getV fs varyName).size ≤ 1048576) := hg
  have HAM : Hid (a.size ≤ maxLen) := ha
  have HBM : Hid (b.size ≤ maxLen) := hb
  clear h1 h2 h3 hs1 hs2 hs3 hc hp hx hg ha hb
  have hna : ∀ W : World, (nilAhead 157 179 (.agg #[.string a]) "loop.example/g00239/impl.bans").run Tryz.prog W = .ok (some false) W := fun _ => by kernel_rfl
  have hmt : ∀ W : World, (method 157 179 (.agg #[.string a]) "loop.example/g00239/impl.bans").run Tryz.prog W = .ok (170, .agg #[.string a]) W := fun _ => by kernel_rfl
  have hb0 : Below w.heap.size w w := Below.refl _ _
  go_enter Tryz.func89, Tryz.ntmps89
  go_upto_region 1 with fail
  obtain ⟨qv1, hqv1⟩ : ∃ q, q = (w).heap.size := ⟨_, rfl⟩
  obtain ⟨w1, hW1⟩ : ∃ W, W = (w).alloc (.cells #[.int .i64 1, .string a, .string b, .int .i64 t] 69) := ⟨_, rfl⟩
  have hz1 : (w).heap.size = qv1 := hqv1.symm
  first | rw [← hW1, ← hqv1] | rw [← hW1]
  have hs1 : w1.heap.size = qv1 + 1 := by rw [hW1, ← hz1]; simp
  have bw : Below (w).heap.size (w) w1 := by rw [hW1]; exact (Below.refl _ _).alloc (Nat.le_refl _) _
  have hb1 := hbt hb0 bw
  have HBv1_1 : Hid ((w1).heap[qv1]? = some (.cells #[.int .i64 1, .string a, .string b, .int .i64 t] 69)) := by show _ = _; rw [hW1, ← hz1]; exact heap_alloc_new _ _
  clear hb0 bw hW1 hz1
  obtain ⟨qv2, hqv2⟩ : ∃ q, q = qv1 + 1 := ⟨_, rfl⟩
  obtain ⟨w2, hW2⟩ : ∃ W, W = (w1).alloc (.cells #[.string p, .slice o1 n1 c1, .slice o2 n2 c2, .int .i64 st, .slice o3 n3 c3, .string d, .int .i64 u] 50) := ⟨_, rfl⟩
  have hz2 : (w1).heap.size = qv2 := by rw [hqv2]; exact hs1
  first | rw [← hW2, ← hqv2] | rw [← hW2]
  have hs2 : w2.heap.size = qv2 + 1 := by rw [hW2, ← hz2]; simp
  have bw : Below (w1).heap.size (w1) w2 := by rw [hW2]; exact (Below.refl _ _).alloc (Nat.le_refl _) _
  have hb2 := hbt hb1 bw
  have HBv1_2 := hblk HBv1_1 bw
  have HBv2_2 : Hid ((w2).heap[qv2]? = some (.cells #[.string p, .slice o1 n1 c1, .slice o2 n2 c2, .int .i64 st, .slice o3 n3 c3, .string d, .int .i64 u] 50)) := by show _ = _; rw [hW2, ← hz2]; exact heap_alloc_new _ _
  clear hb1 HBv1_1 bw hW2 hz2
  clear hs2 hqv2 hs1 hqv1
  go_upto_region 1 with fail
  refine wp_region_held_drew (S := fun W => W.heap[qv1]? = some (.cells #[.int .i64 1, .string a, .string b, .int .i64 t] 69) ∧ W.heap[qv2]? = some (.cells #[.string p, .slice o1 n1 c1, .slice o2 n2 c2, .int .i64 st, .slice o3 n3 c3, .string d, .int .i64 u] 50)) (by kernel_rfl) ⟨HBv1_2.out, HBv2_2.out⟩ (fun _ => ?_)
  obtain ⟨w3, hX⟩ : ∃ X, X = w2.drew := ⟨_, rfl⟩
  have bw : Below w2.heap.size w2 w3 := by rw [hX]; exact (Below.refl _ _).drew
  rw [← hX]
  have hb3 := hbt hb2 bw
  have HBv1_3 := hblk HBv1_2 bw
  have HBv2_3 := hblk HBv2_2 bw
  have hS3 : w3.heap[qv1]? = some (.cells #[.int .i64 1, .string a, .string b, .int .i64 t] 69) ∧ w3.heap[qv2]? = some (.cells #[.string p, .slice o1 n1 c1, .slice o2 n2 c2, .int .i64 st, .slice o3 n3 c3, .string d, .int .i64 u] 50) := ⟨HBv1_3.out, HBv2_3.out⟩
  clear hb2 HBv1_2 HBv2_2 bw hX
  refine tkL 0 (.agg #[.int .i64 1, .string a, .string b, .int .i64 t]) 5 rfl rfl (Or.inl ⟨by rfl, by intro W hW; obtain ⟨hhv1, hhv2⟩ := hW; have y0 := (cell_of hhv1 0).trans rfl; have y1 := (cell_of hhv1 1).trans rfl; have y2 := (cell_of hhv1 2).trans rfl; have y3 := (cell_of hhv1 3).trans rfl; go_simp⟩) hS3 ?_
  go_frame
  refine wpAnyH_ready (rs := [1]) (by kernel_rfl) (by simp) ?_
  refine AllReadyH.cons rfl (fun K hK => ?_) AllReadyH.nil
  go_simp
  refine (implBanOk_any 1 a b t _ HAM.out HBM.out).mono ?_
  rintro e w4 ⟨ub, rfl, htub, bw⟩
  have hb4 := hbt hb3 bw
  have HBv1_4 := hblk HBv1_3 bw
  have HBv2_4 := hblk HBv2_3 bw
  clear hb3 HBv1_3 HBv2_3 bw
  have hS4 : w4.heap[qv1]? = some (.cells #[.int .i64 1, .string a, .string b, .int .i64 t] 69) ∧ w4.heap[qv2]? = some (.cells #[.string p, .slice o1 n1 c1, .slice o2 n2 c2, .int .i64 st, .slice o3 n3 c3, .string d, .int .i64 u] 50) := ⟨HBv1_4.out, HBv2_4.out⟩
  refine hK.out _ _ hS4 (fun _ => ?_)
  clear hK K hS3
  refine tkP 2 (.bool ub) 7 rfl rfl hS4 ?_
  go_frame
  cases ub with
  | false =>
    have Hub : Hid (¬ (BanP 1 a b t)) := fun h => nomatch htub.2 h
    clear htub
    refine tkN 3 8 rfl rfl hS4 ?_
    go_frame
    refine tkN 4 9 rfl rfl hS4 ?_
    go_frame
    refine tkP 5 (.bool false) 10 rfl rfl hS4 ?_
    go_frame
    refine tkP 6 (.bool false) 11 rfl rfl hS4 ?_
    go_frame
    refine tkN 7 12 rfl rfl hS4 ?_
    go_frame
    refine tkN 8 13 rfl rfl hS4 ?_
    go_frame
    refine tkN 9 14 rfl rfl hS4 ?_
    go_frame
    refine tkN 10 15 rfl rfl hS4 ?_
    go_frame
    refine tkN 11 16 rfl rfl hS4 ?_
    go_frame
    refine tkP 12 (.bool false) 17 rfl rfl hS4 ?_
    go_frame
    refine tkP 13 (.bool false) 18 rfl rfl hS4 ?_
    go_frame
    refine tkN 14 19 rfl rfl hS4 ?_
    go_frame
    refine tkN 15 20 rfl rfl hS4 ?_
    go_frame
    refine tkN 16 21 rfl rfl hS4 ?_
    go_frame
    refine tkN 17 22 rfl rfl hS4 ?_
    go_frame
    refine tkP 18 (.bool false) 23 rfl rfl hS4 ?_
    go_frame
    refine tkP 19 (.bool false) 4 rfl rfl hS4 ?_
    go_frame
    clear hS4
    refine wpAnyH_done (by kernel_rfl) ?_ _
    go_wp2_with fail
    go_ret
    refine ⟨false, rfl, ?_, hb4⟩
    have zHub := Hub.out
    refine ⟨fun h => (by cases h), fun h => ?_⟩
    exfalso
    obtain ⟨q1, q2, q3, q4⟩ := h
    first
      | exact zHub q1
      | exact zHuo q2
      | exact zHLE q3
      | (rcases q4 with ⟨e1, e2⟩ | ⟨e1, e2⟩ | ⟨e1, e2, e3⟩
         all_goals first
           | omega
           | exact zHuh e2
           | exact zHuh ⟨e2, e3⟩)
  | true =>
    have Hub : Hid (BanP 1 a b t) := htub.1 rfl
    clear htub
    refine tkL 3 (.agg #[.string p, .slice o1 n1 c1, .slice o2 n2 c2, .int .i64 st, .slice o3 n3 c3, .string d, .int .i64 u]) 8 rfl rfl (Or.inl ⟨by rfl, by intro W hW; obtain ⟨hhv1, hhv2⟩ := hW; have y0 := (cell_of hhv2 0).trans rfl; have y1 := (cell_of hhv2 1).trans rfl; have y2 := (cell_of hhv2 2).trans rfl; have y3 := (cell_of hhv2 3).trans rfl; have y4 := (cell_of hhv2 4).trans rfl; have y5 := (cell_of hhv2 5).trans rfl; have y6 := (cell_of hhv2 6).trans rfl; go_simp⟩) hS4 ?_
    go_frame
    refine wpAnyH_ready (rs := [4]) (by kernel_rfl) (by simp) ?_
    refine AllReadyH.cons rfl (fun K hK => ?_) AllReadyH.nil
    go_simp
    refine (implObjOk_any p _ n1 _ xs _ n2 _ ys st _ n3 base fs d u _ (HV1.out _ hb4) (HV2.out _ hb4) (HV3.out _ hb4) (by omega) (by omega) (by omega) HS1.out HS2.out HS3.out HC.out HPM.out HX.out HG.out).mono ?_
    rintro e w5 ⟨uo, rfl, htuo, bw⟩
    have hb5 := hbt hb4 bw
    have HBv1_5 := hblk HBv1_4 bw
    have HBv2_5 := hblk HBv2_4 bw
    clear hb4 HBv1_4 HBv2_4 bw
    have hS5 : w5.heap[qv1]? = some (.cells #[.int .i64 1, .string a, .string b, .int .i64 t] 69) ∧ w5.heap[qv2]? = some (.cells #[.string p, .slice o1 n1 c1, .slice o2 n2 c2, .int .i64 st, .slice o3 n3 c3, .string d, .int .i64 u] 50) := ⟨HBv1_5.out, HBv2_5.out⟩
    refine hK.out _ _ hS5 (fun _ => ?_)
    clear hK K hS4
    refine tkP 5 (.bool uo) 10 rfl rfl hS5 ?_
    go_frame
    refine tkP 6 (.bool uo) 11 rfl rfl hS5 ?_
    go_frame
    cases uo with
    | false =>
      have Huo : Hid (¬ (ObjP p xs ys st fs d u)) := fun h => nomatch htuo.2 h
      clear htuo
      refine tkN 7 12 rfl rfl hS5 ?_
      go_frame
      refine tkN 8 13 rfl rfl hS5 ?_
      go_frame
      refine tkN 9 14 rfl rfl hS5 ?_
      go_frame
      refine tkN 10 15 rfl rfl hS5 ?_
      go_frame
      refine tkN 11 16 rfl rfl hS5 ?_
      go_frame
      refine tkP 12 (.bool false) 17 rfl rfl hS5 ?_
      go_frame
      refine tkP 13 (.bool false) 18 rfl rfl hS5 ?_
      go_frame
      refine tkN 14 19 rfl rfl hS5 ?_
      go_frame
      refine tkN 15 20 rfl rfl hS5 ?_
      go_frame
      refine tkN 16 21 rfl rfl hS5 ?_
      go_frame
      refine tkN 17 22 rfl rfl hS5 ?_
      go_frame
      refine tkP 18 (.bool false) 23 rfl rfl hS5 ?_
      go_frame
      refine tkP 19 (.bool false) 4 rfl rfl hS5 ?_
      go_frame
      clear hS5
      refine wpAnyH_done (by kernel_rfl) ?_ _
      go_wp2_with fail
      go_ret
      refine ⟨false, rfl, ?_, hb5⟩
      have zHub := Hub.out
      have zHuo := Huo.out
      refine ⟨fun h => (by cases h), fun h => ?_⟩
      exfalso
      obtain ⟨q1, q2, q3, q4⟩ := h
      first
        | exact zHub q1
        | exact zHuo q2
        | exact zHLE q3
        | (rcases q4 with ⟨e1, e2⟩ | ⟨e1, e2⟩ | ⟨e1, e2, e3⟩
           all_goals first
             | omega
             | exact zHuh e2
             | exact zHuh ⟨e2, e3⟩)
    | true =>
      have Huo : Hid (ObjP p xs ys st fs d u) := htuo.1 rfl
      clear htuo
      refine tkP 7 (.pointer (some ⟨qv2, 6, none⟩)) 12 rfl rfl hS5 ?_
      go_frame
      refine tkL 8 (.int .i64 u) 13 rfl rfl (Or.inl ⟨by rfl, by intro W hW; obtain ⟨hhv1, hhv2⟩ := hW; have y6 := (cell_of hhv2 6).trans rfl; go_simp⟩) hS5 ?_
      go_frame
      refine tkP 9 (.pointer (some ⟨qv1, 3, none⟩)) 14 rfl rfl hS5 ?_
      go_frame
      refine tkL 10 (.int .i64 t) 15 rfl rfl (Or.inl ⟨by rfl, by intro W hW; obtain ⟨hhv1, hhv2⟩ := hW; have y3 := (cell_of hhv1 3).trans rfl; go_simp⟩) hS5 ?_
      go_frame
      by_cases hc1 : u ≤ t
      · have HLE : Hid (u ≤ t) := hc1
        refine tkP 11 (.bool true) 16 rfl rfl hS5 ?_
        go_frame
        refine tkP 12 (.bool true) 17 rfl rfl hS5 ?_
        go_frame
        refine tkP 13 (.bool true) 18 rfl rfl hS5 ?_
        go_frame
        refine tkL 14 (.agg #[.int .i64 1, .string a, .string b, .int .i64 t]) 19 rfl rfl (Or.inl ⟨by rfl, by intro W hW; obtain ⟨hhv1, hhv2⟩ := hW; have y0 := (cell_of hhv1 0).trans rfl; have y1 := (cell_of hhv1 1).trans rfl; have y2 := (cell_of hhv1 2).trans rfl; have y3 := (cell_of hhv1 3).trans rfl; go_simp⟩) hS5 ?_
        go_frame
        refine tkL 16 (.agg #[.string p, .slice o1 n1 c1, .slice o2 n2 c2, .int .i64 st, .slice o3 n3 c3, .string d, .int .i64 u]) 21 rfl rfl (Or.inl ⟨by rfl, by intro W hW; obtain ⟨hhv1, hhv2⟩ := hW; have y0 := (cell_of hhv2 0).trans rfl; have y1 := (cell_of hhv2 1).trans rfl; have y2 := (cell_of hhv2 2).trans rfl; have y3 := (cell_of hhv2 3).trans rfl; have y4 := (cell_of hhv2 4).trans rfl; have y5 := (cell_of hhv2 5).trans rfl; have y6 := (cell_of hhv2 6).trans rfl; go_simp⟩) hS5 ?_
        go_frame
        refine wpAnyH_ready (rs := [15]) (by kernel_rfl) (by simp) ?_
        refine AllReadyH.cons rfl (fun K hK => ?_) AllReadyH.nil
        go_simp
        refine (ruleOf_1 a b t _).mono ?_
        rintro e w6 ⟨rfl, bw⟩
        have hb6 := hbt hb5 bw
        have HBv1_6 := hblk HBv1_5 bw
        have HBv2_6 := hblk HBv2_5 bw
        clear hb5 HBv1_5 HBv2_5 bw
        have hS6 : w6.heap[qv1]? = some (.cells #[.int .i64 1, .string a, .string b, .int .i64 t] 69) ∧ w6.heap[qv2]? = some (.cells #[.string p, .slice o1 n1 c1, .slice o2 n2 c2, .int .i64 st, .slice o3 n3 c3, .string d, .int .i64 u] 50) := ⟨HBv1_6.out, HBv2_6.out⟩
        refine hK.out _ _ hS6 (fun _ => ?_)
        clear hK K hS5
        refine wpAnyH_ready (rs := [17]) (by kernel_rfl) (by simp) ?_
        refine AllReadyH.cons rfl (fun K hK => ?_) AllReadyH.nil
        go_simp
        refine (bans_1 a p _ _ st _ d u _).mono ?_
        rintro e w7 ⟨uh, rfl, htuh, bw⟩
        have hb7 := hbt hb6 bw
        have HBv1_7 := hblk HBv1_6 bw
        have HBv2_7 := hblk HBv2_6 bw
        clear hb6 HBv1_6 HBv2_6 bw
        have hS7 : w7.heap[qv1]? = some (.cells #[.int .i64 1, .string a, .string b, .int .i64 t] 69) ∧ w7.heap[qv2]? = some (.cells #[.string p, .slice o1 n1 c1, .slice o2 n2 c2, .int .i64 st, .slice o3 n3 c3, .string d, .int .i64 u] 50) := ⟨HBv1_7.out, HBv2_7.out⟩
        refine hK.out _ _ hS7 (fun _ => ?_)
        clear hK K hS6
        refine tkP 18 (.bool uh) 23 rfl rfl hS7 ?_
        go_frame
        refine tkP 19 (.bool uh) 4 rfl rfl hS7 ?_
        go_frame
        clear hS7
        refine wpAnyH_done (by kernel_rfl) ?_ _
        cases uh with
        | false =>
          have Huh : Hid (¬ (p = a)) := fun h => nomatch htuh.2 h
          clear htuh
          go_wp2_with fail
          go_ret
          refine ⟨false, rfl, ?_, hb7⟩
          have zHub := Hub.out
          have zHuo := Huo.out
          have zHLE := HLE.out
          have zHuh := Huh.out
          refine ⟨fun h => (by cases h), fun h => ?_⟩
          exfalso
          obtain ⟨q1, q2, q3, q4⟩ := h
          first
            | exact zHub q1
            | exact zHuo q2
            | exact zHLE q3
            | (rcases q4 with ⟨e1, e2⟩ | ⟨e1, e2⟩ | ⟨e1, e2, e3⟩
               all_goals first
                 | omega
                 | exact zHuh e2
                 | exact zHuh ⟨e2, e3⟩)
        | true =>
          have Huh : Hid (p = a) := htuh.1 rfl
          clear htuh
          go_wp2_with fail
          go_ret
          refine ⟨true, rfl, ?_, hb7⟩
          have zHub := Hub.out
          have zHuo := Huo.out
          have zHLE := HLE.out
          have zHuh := Huh.out
          exact ⟨fun _ => ⟨zHub, zHuo, zHLE, .inl ⟨rfl, zHuh⟩⟩, fun _ => rfl⟩
      · have HLE : Hid (¬ u ≤ t) := hc1
        refine tkP 11 (.bool false) 16 rfl rfl hS5 ?_
        go_frame
        refine tkP 12 (.bool false) 17 rfl rfl hS5 ?_
        go_frame
        refine tkP 13 (.bool false) 18 rfl rfl hS5 ?_
        go_frame
        refine tkN 14 19 rfl rfl hS5 ?_
        go_frame
        refine tkN 15 20 rfl rfl hS5 ?_
        go_frame
        refine tkN 16 21 rfl rfl hS5 ?_
        go_frame
        refine tkN 17 22 rfl rfl hS5 ?_
        go_frame
        refine tkP 18 (.bool false) 23 rfl rfl hS5 ?_
        go_frame
        refine tkP 19 (.bool false) 4 rfl rfl hS5 ?_
        go_frame
        clear hS5
        refine wpAnyH_done (by kernel_rfl) ?_ _
        go_wp2_with fail
        go_ret
        refine ⟨false, rfl, ?_, hb5⟩
        have zHub := Hub.out
        have zHuo := Huo.out
        have zHLE := HLE.out
        refine ⟨fun h => (by cases h), fun h => ?_⟩
        exfalso
        obtain ⟨q1, q2, q3, q4⟩ := h
        first
          | exact zHub q1
          | exact zHuo q2
          | exact zHLE q3
          | (rcases q4 with ⟨e1, e2⟩ | ⟨e1, e2⟩ | ⟨e1, e2, e3⟩
             all_goals first
               | omega
               | exact zHuh e2
               | exact zHuh ⟨e2, e3⟩)

set_option maxHeartbeats 8000000 in
set_option maxRecDepth 100000 in
theorem implHits_2 (a b : ByteArray) (t : Int) (p : ByteArray) (o1 : Option Addr) (n1 c1 : Nat) (xs : List ByteArray) (o2 : Option Addr) (n2 c2 : Nat) (ys : List ByteArray) (st : Int) (v3 : Value) (n3 base : Nat) (fs : List (ByteArray × ByteArray)) (d : ByteArray) (u : Int) (w : World) (ha : a.size ≤ maxLen) (hb : b.size ≤ maxLen) (h1 : TextsA w o1 n1 xs) (h2 : TextsA w o2 n2 ys) (h3 : FieldsV w base v3 n3 fs) (hn1 : n1 ≤ 2000000) (hn2 : n2 ≤ 2000000) (hn3 : n3 ≤ 2000000) (hs1 : ∀ i, i < n1 → (textAt xs i).size ≤ maxLen) (hs2 : ∀ i, i < n2 → (textAt ys i).size ≤ maxLen) (hs3 : WalkF n3 fs) (hc : CopyF fs) (hp : p.size ≤ maxLen) (hx : d.size ≤ maxLen) (hg : (getV fs varyName).size ≤ 1048576) :
    Calls Tryz.prog 89 #[.agg #[.int .i64 2, .string a, .string b, .int .i64 t], .agg #[.string p, .slice o1 n1 c1, .slice o2 n2 c2, .int .i64 st, v3, .string d, .int .i64 u]] w fun e w' => BoolIs (HitP 2 a b t p xs ys st fs d u) w e w' := by
  obtain ⟨o3, c3, rfl, _⟩ := h3.slice
  have HV1 : Hid (∀ W, Below w.heap.size w W → TextsA W o1 n1 xs) := fun W h => h1.below h
  have HV2 : Hid (∀ W, Below w.heap.size w W → TextsA W o2 n2 ys) := fun W h => h2.below h
  have HV3 : Hid (∀ W, Below w.heap.size w W → FieldsV W base (.slice o3 n3 c3) n3 fs) := fun W h => h3.below h
  have HS1 : Hid (∀ i, i < n1 → (textAt xs i).size ≤ maxLen) := hs1
  have HS2 : Hid (∀ i, i < n2 → (textAt ys i).size ≤ maxLen) := hs2
  have HS3 : Hid (WalkF n3 fs) := hs3
  have HC : Hid (CopyF fs) := hc
  have HPM : Hid (p.size ≤ maxLen) := hp
  have HX : Hid (d.size ≤ maxLen) := hx
  have HG : Hid ((getV fs varyName).size ≤ 1048576) := hg
  have HAM : Hid (a.size ≤ maxLen) := ha
  have HBM : Hid (b.size ≤ maxLen) := hb
  clear h1 h2 h3 hs1 hs2 hs3 hc hp hx hg ha hb
  have hna : ∀ W : World, (nilAhead 157 181 (.agg #[.string a]) "loop.example/g00239/impl.bans").run Tryz.prog W = .ok (some false) W := fun _ => by kernel_rfl
  have hmt : ∀ W : World, (method 157 181 (.agg #[.string a]) "loop.example/g00239/impl.bans").run Tryz.prog W = .ok (172, .agg #[.string a]) W := fun _ => by kernel_rfl
  have hb0 : Below w.heap.size w w := Below.refl _ _
  go_enter Tryz.func89, Tryz.ntmps89
  go_upto_region 1 with fail
  obtain ⟨qv1, hqv1⟩ : ∃ q, q = (w).heap.size := ⟨_, rfl⟩
  obtain ⟨w1, hW1⟩ : ∃ W, W = (w).alloc (.cells #[.int .i64 2, .string a, .string b, .int .i64 t] 69) := ⟨_, rfl⟩
  have hz1 : (w).heap.size = qv1 := hqv1.symm
  first | rw [← hW1, ← hqv1] | rw [← hW1]
  have hs1 : w1.heap.size = qv1 + 1 := by rw [hW1, ← hz1]; simp
  have bw : Below (w).heap.size (w) w1 := by rw [hW1]; exact (Below.refl _ _).alloc (Nat.le_refl _) _
  have hb1 := hbt hb0 bw
  have HBv1_1 : Hid ((w1).heap[qv1]? = some (.cells #[.int .i64 2, .string a, .string b, .int .i64 t] 69)) := by show _ = _; rw [hW1, ← hz1]; exact heap_alloc_new _ _
  clear hb0 bw hW1 hz1
  obtain ⟨qv2, hqv2⟩ : ∃ q, q = qv1 + 1 := ⟨_, rfl⟩
  obtain ⟨w2, hW2⟩ : ∃ W, W = (w1).alloc (.cells #[.string p, .slice o1 n1 c1, .slice o2 n2 c2, .int .i64 st, .slice o3 n3 c3, .string d, .int .i64 u] 50) := ⟨_, rfl⟩
  have hz2 : (w1).heap.size = qv2 := by rw [hqv2]; exact hs1
  first | rw [← hW2, ← hqv2] | rw [← hW2]
  have hs2 : w2.heap.size = qv2 + 1 := by rw [hW2, ← hz2]; simp
  have bw : Below (w1).heap.size (w1) w2 := by rw [hW2]; exact (Below.refl _ _).alloc (Nat.le_refl _) _
  have hb2 := hbt hb1 bw
  have HBv1_2 := hblk HBv1_1 bw
  have HBv2_2 : Hid ((w2).heap[qv2]? = some (.cells #[.string p, .slice o1 n1 c1, .slice o2 n2 c2, .int .i64 st, .slice o3 n3 c3, .string d, .int .i64 u] 50)) := by show _ = _; rw [hW2, ← hz2]; exact heap_alloc_new _ _
  clear hb1 HBv1_1 bw hW2 hz2
  clear hs2 hqv2 hs1 hqv1
  go_upto_region 1 with fail
  refine wp_region_held_drew (S := fun W => W.heap[qv1]? = some (.cells #[.int .i64 2, .string a, .string b, .int .i64 t] 69) ∧ W.heap[qv2]? = some (.cells #[.string p, .slice o1 n1 c1, .slice o2 n2 c2, .int .i64 st, .slice o3 n3 c3, .string d, .int .i64 u] 50)) (by kernel_rfl) ⟨HBv1_2.out, HBv2_2.out⟩ (fun _ => ?_)
  obtain ⟨w3, hX⟩ : ∃ X, X = w2.drew := ⟨_, rfl⟩
  have bw : Below w2.heap.size w2 w3 := by rw [hX]; exact (Below.refl _ _).drew
  rw [← hX]
  have hb3 := hbt hb2 bw
  have HBv1_3 := hblk HBv1_2 bw
  have HBv2_3 := hblk HBv2_2 bw
  have hS3 : w3.heap[qv1]? = some (.cells #[.int .i64 2, .string a, .string b, .int .i64 t] 69) ∧ w3.heap[qv2]? = some (.cells #[.string p, .slice o1 n1 c1, .slice o2 n2 c2, .int .i64 st, .slice o3 n3 c3, .string d, .int .i64 u] 50) := ⟨HBv1_3.out, HBv2_3.out⟩
  clear hb2 HBv1_2 HBv2_2 bw hX
  refine tkL 0 (.agg #[.int .i64 2, .string a, .string b, .int .i64 t]) 5 rfl rfl (Or.inl ⟨by rfl, by intro W hW; obtain ⟨hhv1, hhv2⟩ := hW; have y0 := (cell_of hhv1 0).trans rfl; have y1 := (cell_of hhv1 1).trans rfl; have y2 := (cell_of hhv1 2).trans rfl; have y3 := (cell_of hhv1 3).trans rfl; go_simp⟩) hS3 ?_
  go_frame
  refine wpAnyH_ready (rs := [1]) (by kernel_rfl) (by simp) ?_
  refine AllReadyH.cons rfl (fun K hK => ?_) AllReadyH.nil
  go_simp
  refine (implBanOk_any 2 a b t _ HAM.out HBM.out).mono ?_
  rintro e w4 ⟨ub, rfl, htub, bw⟩
  have hb4 := hbt hb3 bw
  have HBv1_4 := hblk HBv1_3 bw
  have HBv2_4 := hblk HBv2_3 bw
  clear hb3 HBv1_3 HBv2_3 bw
  have hS4 : w4.heap[qv1]? = some (.cells #[.int .i64 2, .string a, .string b, .int .i64 t] 69) ∧ w4.heap[qv2]? = some (.cells #[.string p, .slice o1 n1 c1, .slice o2 n2 c2, .int .i64 st, .slice o3 n3 c3, .string d, .int .i64 u] 50) := ⟨HBv1_4.out, HBv2_4.out⟩
  refine hK.out _ _ hS4 (fun _ => ?_)
  clear hK K hS3
  refine tkP 2 (.bool ub) 7 rfl rfl hS4 ?_
  go_frame
  cases ub with
  | false =>
    have Hub : Hid (¬ (BanP 2 a b t)) := fun h => nomatch htub.2 h
    clear htub
    refine tkN 3 8 rfl rfl hS4 ?_
    go_frame
    refine tkN 4 9 rfl rfl hS4 ?_
    go_frame
    refine tkP 5 (.bool false) 10 rfl rfl hS4 ?_
    go_frame
    refine tkP 6 (.bool false) 11 rfl rfl hS4 ?_
    go_frame
    refine tkN 7 12 rfl rfl hS4 ?_
    go_frame
    refine tkN 8 13 rfl rfl hS4 ?_
    go_frame
    refine tkN 9 14 rfl rfl hS4 ?_
    go_frame
    refine tkN 10 15 rfl rfl hS4 ?_
    go_frame
    refine tkN 11 16 rfl rfl hS4 ?_
    go_frame
    refine tkP 12 (.bool false) 17 rfl rfl hS4 ?_
    go_frame
    refine tkP 13 (.bool false) 18 rfl rfl hS4 ?_
    go_frame
    refine tkN 14 19 rfl rfl hS4 ?_
    go_frame
    refine tkN 15 20 rfl rfl hS4 ?_
    go_frame
    refine tkN 16 21 rfl rfl hS4 ?_
    go_frame
    refine tkN 17 22 rfl rfl hS4 ?_
    go_frame
    refine tkP 18 (.bool false) 23 rfl rfl hS4 ?_
    go_frame
    refine tkP 19 (.bool false) 4 rfl rfl hS4 ?_
    go_frame
    clear hS4
    refine wpAnyH_done (by kernel_rfl) ?_ _
    go_wp2_with fail
    go_ret
    refine ⟨false, rfl, ?_, hb4⟩
    have zHub := Hub.out
    refine ⟨fun h => (by cases h), fun h => ?_⟩
    exfalso
    obtain ⟨q1, q2, q3, q4⟩ := h
    first
      | exact zHub q1
      | exact zHuo q2
      | exact zHLE q3
      | (rcases q4 with ⟨e1, e2⟩ | ⟨e1, e2⟩ | ⟨e1, e2, e3⟩
         all_goals first
           | omega
           | exact zHuh e2
           | exact zHuh ⟨e2, e3⟩)
  | true =>
    have Hub : Hid (BanP 2 a b t) := htub.1 rfl
    clear htub
    refine tkL 3 (.agg #[.string p, .slice o1 n1 c1, .slice o2 n2 c2, .int .i64 st, .slice o3 n3 c3, .string d, .int .i64 u]) 8 rfl rfl (Or.inl ⟨by rfl, by intro W hW; obtain ⟨hhv1, hhv2⟩ := hW; have y0 := (cell_of hhv2 0).trans rfl; have y1 := (cell_of hhv2 1).trans rfl; have y2 := (cell_of hhv2 2).trans rfl; have y3 := (cell_of hhv2 3).trans rfl; have y4 := (cell_of hhv2 4).trans rfl; have y5 := (cell_of hhv2 5).trans rfl; have y6 := (cell_of hhv2 6).trans rfl; go_simp⟩) hS4 ?_
    go_frame
    refine wpAnyH_ready (rs := [4]) (by kernel_rfl) (by simp) ?_
    refine AllReadyH.cons rfl (fun K hK => ?_) AllReadyH.nil
    go_simp
    refine (implObjOk_any p _ n1 _ xs _ n2 _ ys st _ n3 base fs d u _ (HV1.out _ hb4) (HV2.out _ hb4) (HV3.out _ hb4) (by omega) (by omega) (by omega) HS1.out HS2.out HS3.out HC.out HPM.out HX.out HG.out).mono ?_
    rintro e w5 ⟨uo, rfl, htuo, bw⟩
    have hb5 := hbt hb4 bw
    have HBv1_5 := hblk HBv1_4 bw
    have HBv2_5 := hblk HBv2_4 bw
    clear hb4 HBv1_4 HBv2_4 bw
    have hS5 : w5.heap[qv1]? = some (.cells #[.int .i64 2, .string a, .string b, .int .i64 t] 69) ∧ w5.heap[qv2]? = some (.cells #[.string p, .slice o1 n1 c1, .slice o2 n2 c2, .int .i64 st, .slice o3 n3 c3, .string d, .int .i64 u] 50) := ⟨HBv1_5.out, HBv2_5.out⟩
    refine hK.out _ _ hS5 (fun _ => ?_)
    clear hK K hS4
    refine tkP 5 (.bool uo) 10 rfl rfl hS5 ?_
    go_frame
    refine tkP 6 (.bool uo) 11 rfl rfl hS5 ?_
    go_frame
    cases uo with
    | false =>
      have Huo : Hid (¬ (ObjP p xs ys st fs d u)) := fun h => nomatch htuo.2 h
      clear htuo
      refine tkN 7 12 rfl rfl hS5 ?_
      go_frame
      refine tkN 8 13 rfl rfl hS5 ?_
      go_frame
      refine tkN 9 14 rfl rfl hS5 ?_
      go_frame
      refine tkN 10 15 rfl rfl hS5 ?_
      go_frame
      refine tkN 11 16 rfl rfl hS5 ?_
      go_frame
      refine tkP 12 (.bool false) 17 rfl rfl hS5 ?_
      go_frame
      refine tkP 13 (.bool false) 18 rfl rfl hS5 ?_
      go_frame
      refine tkN 14 19 rfl rfl hS5 ?_
      go_frame
      refine tkN 15 20 rfl rfl hS5 ?_
      go_frame
      refine tkN 16 21 rfl rfl hS5 ?_
      go_frame
      refine tkN 17 22 rfl rfl hS5 ?_
      go_frame
      refine tkP 18 (.bool false) 23 rfl rfl hS5 ?_
      go_frame
      refine tkP 19 (.bool false) 4 rfl rfl hS5 ?_
      go_frame
      clear hS5
      refine wpAnyH_done (by kernel_rfl) ?_ _
      go_wp2_with fail
      go_ret
      refine ⟨false, rfl, ?_, hb5⟩
      have zHub := Hub.out
      have zHuo := Huo.out
      refine ⟨fun h => (by cases h), fun h => ?_⟩
      exfalso
      obtain ⟨q1, q2, q3, q4⟩ := h
      first
        | exact zHub q1
        | exact zHuo q2
        | exact zHLE q3
        | (rcases q4 with ⟨e1, e2⟩ | ⟨e1, e2⟩ | ⟨e1, e2, e3⟩
           all_goals first
             | omega
             | exact zHuh e2
             | exact zHuh ⟨e2, e3⟩)
    | true =>
      have Huo : Hid (ObjP p xs ys st fs d u) := htuo.1 rfl
      clear htuo
      refine tkP 7 (.pointer (some ⟨qv2, 6, none⟩)) 12 rfl rfl hS5 ?_
      go_frame
      refine tkL 8 (.int .i64 u) 13 rfl rfl (Or.inl ⟨by rfl, by intro W hW; obtain ⟨hhv1, hhv2⟩ := hW; have y6 := (cell_of hhv2 6).trans rfl; go_simp⟩) hS5 ?_
      go_frame
      refine tkP 9 (.pointer (some ⟨qv1, 3, none⟩)) 14 rfl rfl hS5 ?_
      go_frame
      refine tkL 10 (.int .i64 t) 15 rfl rfl (Or.inl ⟨by rfl, by intro W hW; obtain ⟨hhv1, hhv2⟩ := hW; have y3 := (cell_of hhv1 3).trans rfl; go_simp⟩) hS5 ?_
      go_frame
      by_cases hc1 : u ≤ t
      · have HLE : Hid (u ≤ t) := hc1
        refine tkP 11 (.bool true) 16 rfl rfl hS5 ?_
        go_frame
        refine tkP 12 (.bool true) 17 rfl rfl hS5 ?_
        go_frame
        refine tkP 13 (.bool true) 18 rfl rfl hS5 ?_
        go_frame
        refine tkL 14 (.agg #[.int .i64 2, .string a, .string b, .int .i64 t]) 19 rfl rfl (Or.inl ⟨by rfl, by intro W hW; obtain ⟨hhv1, hhv2⟩ := hW; have y0 := (cell_of hhv1 0).trans rfl; have y1 := (cell_of hhv1 1).trans rfl; have y2 := (cell_of hhv1 2).trans rfl; have y3 := (cell_of hhv1 3).trans rfl; go_simp⟩) hS5 ?_
        go_frame
        refine tkL 16 (.agg #[.string p, .slice o1 n1 c1, .slice o2 n2 c2, .int .i64 st, .slice o3 n3 c3, .string d, .int .i64 u]) 21 rfl rfl (Or.inl ⟨by rfl, by intro W hW; obtain ⟨hhv1, hhv2⟩ := hW; have y0 := (cell_of hhv2 0).trans rfl; have y1 := (cell_of hhv2 1).trans rfl; have y2 := (cell_of hhv2 2).trans rfl; have y3 := (cell_of hhv2 3).trans rfl; have y4 := (cell_of hhv2 4).trans rfl; have y5 := (cell_of hhv2 5).trans rfl; have y6 := (cell_of hhv2 6).trans rfl; go_simp⟩) hS5 ?_
        go_frame
        refine wpAnyH_ready (rs := [15]) (by kernel_rfl) (by simp) ?_
        refine AllReadyH.cons rfl (fun K hK => ?_) AllReadyH.nil
        go_simp
        refine (ruleOf_2 a b t _).mono ?_
        rintro e w6 ⟨rfl, bw⟩
        have hb6 := hbt hb5 bw
        have HBv1_6 := hblk HBv1_5 bw
        have HBv2_6 := hblk HBv2_5 bw
        clear hb5 HBv1_5 HBv2_5 bw
        have hS6 : w6.heap[qv1]? = some (.cells #[.int .i64 2, .string a, .string b, .int .i64 t] 69) ∧ w6.heap[qv2]? = some (.cells #[.string p, .slice o1 n1 c1, .slice o2 n2 c2, .int .i64 st, .slice o3 n3 c3, .string d, .int .i64 u] 50) := ⟨HBv1_6.out, HBv2_6.out⟩
        refine hK.out _ _ hS6 (fun _ => ?_)
        clear hK K hS5
        refine wpAnyH_ready (rs := [17]) (by kernel_rfl) (by simp) ?_
        refine AllReadyH.cons rfl (fun K hK => ?_) AllReadyH.nil
        go_simp
        refine (bans_2 a p _ _ st _ d u _ HPM.out).mono ?_
        rintro e w7 ⟨uh, rfl, htuh, bw⟩
        have hb7 := hbt hb6 bw
        have HBv1_7 := hblk HBv1_6 bw
        have HBv2_7 := hblk HBv2_6 bw
        clear hb6 HBv1_6 HBv2_6 bw
        have hS7 : w7.heap[qv1]? = some (.cells #[.int .i64 2, .string a, .string b, .int .i64 t] 69) ∧ w7.heap[qv2]? = some (.cells #[.string p, .slice o1 n1 c1, .slice o2 n2 c2, .int .i64 st, .slice o3 n3 c3, .string d, .int .i64 u] 50) := ⟨HBv1_7.out, HBv2_7.out⟩
        refine hK.out _ _ hS7 (fun _ => ?_)
        clear hK K hS6
        refine tkP 18 (.bool uh) 23 rfl rfl hS7 ?_
        go_frame
        refine tkP 19 (.bool uh) 4 rfl rfl hS7 ?_
        go_frame
        clear hS7
        refine wpAnyH_done (by kernel_rfl) ?_ _
        cases uh with
        | false =>
          have Huh : Hid (¬ (Begins a p)) := fun h => nomatch htuh.2 h
          clear htuh
          go_wp2_with fail
          go_ret
          refine ⟨false, rfl, ?_, hb7⟩
          have zHub := Hub.out
          have zHuo := Huo.out
          have zHLE := HLE.out
          have zHuh := Huh.out
          refine ⟨fun h => (by cases h), fun h => ?_⟩
          exfalso
          obtain ⟨q1, q2, q3, q4⟩ := h
          first
            | exact zHub q1
            | exact zHuo q2
            | exact zHLE q3
            | (rcases q4 with ⟨e1, e2⟩ | ⟨e1, e2⟩ | ⟨e1, e2, e3⟩
               all_goals first
                 | omega
                 | exact zHuh e2
                 | exact zHuh ⟨e2, e3⟩)
        | true =>
          have Huh : Hid (Begins a p) := htuh.1 rfl
          clear htuh
          go_wp2_with fail
          go_ret
          refine ⟨true, rfl, ?_, hb7⟩
          have zHub := Hub.out
          have zHuo := Huo.out
          have zHLE := HLE.out
          have zHuh := Huh.out
          exact ⟨fun _ => ⟨zHub, zHuo, zHLE, .inr (.inl ⟨rfl, zHuh⟩)⟩, fun _ => rfl⟩
      · have HLE : Hid (¬ u ≤ t) := hc1
        refine tkP 11 (.bool false) 16 rfl rfl hS5 ?_
        go_frame
        refine tkP 12 (.bool false) 17 rfl rfl hS5 ?_
        go_frame
        refine tkP 13 (.bool false) 18 rfl rfl hS5 ?_
        go_frame
        refine tkN 14 19 rfl rfl hS5 ?_
        go_frame
        refine tkN 15 20 rfl rfl hS5 ?_
        go_frame
        refine tkN 16 21 rfl rfl hS5 ?_
        go_frame
        refine tkN 17 22 rfl rfl hS5 ?_
        go_frame
        refine tkP 18 (.bool false) 23 rfl rfl hS5 ?_
        go_frame
        refine tkP 19 (.bool false) 4 rfl rfl hS5 ?_
        go_frame
        clear hS5
        refine wpAnyH_done (by kernel_rfl) ?_ _
        go_wp2_with fail
        go_ret
        refine ⟨false, rfl, ?_, hb5⟩
        have zHub := Hub.out
        have zHuo := Huo.out
        have zHLE := HLE.out
        refine ⟨fun h => (by cases h), fun h => ?_⟩
        exfalso
        obtain ⟨q1, q2, q3, q4⟩ := h
        first
          | exact zHub q1
          | exact zHuo q2
          | exact zHLE q3
          | (rcases q4 with ⟨e1, e2⟩ | ⟨e1, e2⟩ | ⟨e1, e2, e3⟩
             all_goals first
               | omega
               | exact zHuh e2
               | exact zHuh ⟨e2, e3⟩)

set_option maxHeartbeats 8000000 in
set_option maxRecDepth 100000 in
theorem implHits_3 (a b : ByteArray) (t : Int) (p : ByteArray) (o1 : Option Addr) (n1 c1 : Nat) (xs : List ByteArray) (o2 : Option Addr) (n2 c2 : Nat) (ys : List ByteArray) (st : Int) (v3 : Value) (n3 base : Nat) (fs : List (ByteArray × ByteArray)) (d : ByteArray) (u : Int) (w : World) (ha : a.size ≤ maxLen) (hb : b.size ≤ maxLen) (h1 : TextsA w o1 n1 xs) (h2 : TextsA w o2 n2 ys) (h3 : FieldsV w base v3 n3 fs) (hn1 : n1 ≤ 2000000) (hn2 : n2 ≤ 2000000) (hn3 : n3 ≤ 2000000) (hs1 : ∀ i, i < n1 → (textAt xs i).size ≤ maxLen) (hs2 : ∀ i, i < n2 → (textAt ys i).size ≤ maxLen) (hs3 : WalkF n3 fs) (hc : CopyF fs) (hp : p.size ≤ maxLen) (hx : d.size ≤ maxLen) (hg : (getV fs varyName).size ≤ 1048576) :
    Calls Tryz.prog 89 #[.agg #[.int .i64 3, .string a, .string b, .int .i64 t], .agg #[.string p, .slice o1 n1 c1, .slice o2 n2 c2, .int .i64 st, v3, .string d, .int .i64 u]] w fun e w' => BoolIs (HitP 3 a b t p xs ys st fs d u) w e w' := by
  obtain ⟨o3, c3, rfl, _⟩ := h3.slice
  have HV1 : Hid (∀ W, Below w.heap.size w W → TextsA W o1 n1 xs) := fun W h => h1.below h
  have HV2 : Hid (∀ W, Below w.heap.size w W → TextsA W o2 n2 ys) := fun W h => h2.below h
  have HV3 : Hid (∀ W, Below w.heap.size w W → FieldsV W base (.slice o3 n3 c3) n3 fs) := fun W h => h3.below h
  have HS1 : Hid (∀ i, i < n1 → (textAt xs i).size ≤ maxLen) := hs1
  have HS2 : Hid (∀ i, i < n2 → (textAt ys i).size ≤ maxLen) := hs2
  have HS3 : Hid (WalkF n3 fs) := hs3
  have HC : Hid (CopyF fs) := hc
  have HPM : Hid (p.size ≤ maxLen) := hp
  have HX : Hid (d.size ≤ maxLen) := hx
  have HG : Hid ((getV fs varyName).size ≤ 1048576) := hg
  have HAM : Hid (a.size ≤ maxLen) := ha
  have HBM : Hid (b.size ≤ maxLen) := hb
  clear h1 h2 h3 hs1 hs2 hs3 hc hp hx hg ha hb
  have hna : ∀ W : World, (nilAhead 157 183 (.agg #[.string a, .string b]) "loop.example/g00239/impl.bans").run Tryz.prog W = .ok (some false) W := fun _ => by kernel_rfl
  have hmt : ∀ W : World, (method 157 183 (.agg #[.string a, .string b]) "loop.example/g00239/impl.bans").run Tryz.prog W = .ok (176, .agg #[.string a, .string b]) W := fun _ => by kernel_rfl
  have hb0 : Below w.heap.size w w := Below.refl _ _
  go_enter Tryz.func89, Tryz.ntmps89
  go_upto_region 1 with fail
  obtain ⟨qv1, hqv1⟩ : ∃ q, q = (w).heap.size := ⟨_, rfl⟩
  obtain ⟨w1, hW1⟩ : ∃ W, W = (w).alloc (.cells #[.int .i64 3, .string a, .string b, .int .i64 t] 69) := ⟨_, rfl⟩
  have hz1 : (w).heap.size = qv1 := hqv1.symm
  first | rw [← hW1, ← hqv1] | rw [← hW1]
  have hs1 : w1.heap.size = qv1 + 1 := by rw [hW1, ← hz1]; simp
  have bw : Below (w).heap.size (w) w1 := by rw [hW1]; exact (Below.refl _ _).alloc (Nat.le_refl _) _
  have hb1 := hbt hb0 bw
  have HBv1_1 : Hid ((w1).heap[qv1]? = some (.cells #[.int .i64 3, .string a, .string b, .int .i64 t] 69)) := by show _ = _; rw [hW1, ← hz1]; exact heap_alloc_new _ _
  clear hb0 bw hW1 hz1
  obtain ⟨qv2, hqv2⟩ : ∃ q, q = qv1 + 1 := ⟨_, rfl⟩
  obtain ⟨w2, hW2⟩ : ∃ W, W = (w1).alloc (.cells #[.string p, .slice o1 n1 c1, .slice o2 n2 c2, .int .i64 st, .slice o3 n3 c3, .string d, .int .i64 u] 50) := ⟨_, rfl⟩
  have hz2 : (w1).heap.size = qv2 := by rw [hqv2]; exact hs1
  first | rw [← hW2, ← hqv2] | rw [← hW2]
  have hs2 : w2.heap.size = qv2 + 1 := by rw [hW2, ← hz2]; simp
  have bw : Below (w1).heap.size (w1) w2 := by rw [hW2]; exact (Below.refl _ _).alloc (Nat.le_refl _) _
  have hb2 := hbt hb1 bw
  have HBv1_2 := hblk HBv1_1 bw
  have HBv2_2 : Hid ((w2).heap[qv2]? = some (.cells #[.string p, .slice o1 n1 c1, .slice o2 n2 c2, .int .i64 st, .slice o3 n3 c3, .string d, .int .i64 u] 50)) := by show _ = _; rw [hW2, ← hz2]; exact heap_alloc_new _ _
  clear hb1 HBv1_1 bw hW2 hz2
  clear hs2 hqv2 hs1 hqv1
  go_upto_region 1 with fail
  refine wp_region_held_drew (S := fun W => W.heap[qv1]? = some (.cells #[.int .i64 3, .string a, .string b, .int .i64 t] 69) ∧ W.heap[qv2]? = some (.cells #[.string p, .slice o1 n1 c1, .slice o2 n2 c2, .int .i64 st, .slice o3 n3 c3, .string d, .int .i64 u] 50)) (by kernel_rfl) ⟨HBv1_2.out, HBv2_2.out⟩ (fun _ => ?_)
  obtain ⟨w3, hX⟩ : ∃ X, X = w2.drew := ⟨_, rfl⟩
  have bw : Below w2.heap.size w2 w3 := by rw [hX]; exact (Below.refl _ _).drew
  rw [← hX]
  have hb3 := hbt hb2 bw
  have HBv1_3 := hblk HBv1_2 bw
  have HBv2_3 := hblk HBv2_2 bw
  have hS3 : w3.heap[qv1]? = some (.cells #[.int .i64 3, .string a, .string b, .int .i64 t] 69) ∧ w3.heap[qv2]? = some (.cells #[.string p, .slice o1 n1 c1, .slice o2 n2 c2, .int .i64 st, .slice o3 n3 c3, .string d, .int .i64 u] 50) := ⟨HBv1_3.out, HBv2_3.out⟩
  clear hb2 HBv1_2 HBv2_2 bw hX
  refine tkL 0 (.agg #[.int .i64 3, .string a, .string b, .int .i64 t]) 5 rfl rfl (Or.inl ⟨by rfl, by intro W hW; obtain ⟨hhv1, hhv2⟩ := hW; have y0 := (cell_of hhv1 0).trans rfl; have y1 := (cell_of hhv1 1).trans rfl; have y2 := (cell_of hhv1 2).trans rfl; have y3 := (cell_of hhv1 3).trans rfl; go_simp⟩) hS3 ?_
  go_frame
  refine wpAnyH_ready (rs := [1]) (by kernel_rfl) (by simp) ?_
  refine AllReadyH.cons rfl (fun K hK => ?_) AllReadyH.nil
  go_simp
  refine (implBanOk_any 3 a b t _ HAM.out HBM.out).mono ?_
  rintro e w4 ⟨ub, rfl, htub, bw⟩
  have hb4 := hbt hb3 bw
  have HBv1_4 := hblk HBv1_3 bw
  have HBv2_4 := hblk HBv2_3 bw
  clear hb3 HBv1_3 HBv2_3 bw
  have hS4 : w4.heap[qv1]? = some (.cells #[.int .i64 3, .string a, .string b, .int .i64 t] 69) ∧ w4.heap[qv2]? = some (.cells #[.string p, .slice o1 n1 c1, .slice o2 n2 c2, .int .i64 st, .slice o3 n3 c3, .string d, .int .i64 u] 50) := ⟨HBv1_4.out, HBv2_4.out⟩
  refine hK.out _ _ hS4 (fun _ => ?_)
  clear hK K hS3
  refine tkP 2 (.bool ub) 7 rfl rfl hS4 ?_
  go_frame
  cases ub with
  | false =>
    have Hub : Hid (¬ (BanP 3 a b t)) := fun h => nomatch htub.2 h
    clear htub
    refine tkN 3 8 rfl rfl hS4 ?_
    go_frame
    refine tkN 4 9 rfl rfl hS4 ?_
    go_frame
    refine tkP 5 (.bool false) 10 rfl rfl hS4 ?_
    go_frame
    refine tkP 6 (.bool false) 11 rfl rfl hS4 ?_
    go_frame
    refine tkN 7 12 rfl rfl hS4 ?_
    go_frame
    refine tkN 8 13 rfl rfl hS4 ?_
    go_frame
    refine tkN 9 14 rfl rfl hS4 ?_
    go_frame
    refine tkN 10 15 rfl rfl hS4 ?_
    go_frame
    refine tkN 11 16 rfl rfl hS4 ?_
    go_frame
    refine tkP 12 (.bool false) 17 rfl rfl hS4 ?_
    go_frame
    refine tkP 13 (.bool false) 18 rfl rfl hS4 ?_
    go_frame
    refine tkN 14 19 rfl rfl hS4 ?_
    go_frame
    refine tkN 15 20 rfl rfl hS4 ?_
    go_frame
    refine tkN 16 21 rfl rfl hS4 ?_
    go_frame
    refine tkN 17 22 rfl rfl hS4 ?_
    go_frame
    refine tkP 18 (.bool false) 23 rfl rfl hS4 ?_
    go_frame
    refine tkP 19 (.bool false) 4 rfl rfl hS4 ?_
    go_frame
    clear hS4
    refine wpAnyH_done (by kernel_rfl) ?_ _
    go_wp2_with fail
    go_ret
    refine ⟨false, rfl, ?_, hb4⟩
    have zHub := Hub.out
    refine ⟨fun h => (by cases h), fun h => ?_⟩
    exfalso
    obtain ⟨q1, q2, q3, q4⟩ := h
    first
      | exact zHub q1
      | exact zHuo q2
      | exact zHLE q3
      | (rcases q4 with ⟨e1, e2⟩ | ⟨e1, e2⟩ | ⟨e1, e2, e3⟩
         all_goals first
           | omega
           | exact zHuh e2
           | exact zHuh ⟨e2, e3⟩)
  | true =>
    have Hub : Hid (BanP 3 a b t) := htub.1 rfl
    clear htub
    refine tkL 3 (.agg #[.string p, .slice o1 n1 c1, .slice o2 n2 c2, .int .i64 st, .slice o3 n3 c3, .string d, .int .i64 u]) 8 rfl rfl (Or.inl ⟨by rfl, by intro W hW; obtain ⟨hhv1, hhv2⟩ := hW; have y0 := (cell_of hhv2 0).trans rfl; have y1 := (cell_of hhv2 1).trans rfl; have y2 := (cell_of hhv2 2).trans rfl; have y3 := (cell_of hhv2 3).trans rfl; have y4 := (cell_of hhv2 4).trans rfl; have y5 := (cell_of hhv2 5).trans rfl; have y6 := (cell_of hhv2 6).trans rfl; go_simp⟩) hS4 ?_
    go_frame
    refine wpAnyH_ready (rs := [4]) (by kernel_rfl) (by simp) ?_
    refine AllReadyH.cons rfl (fun K hK => ?_) AllReadyH.nil
    go_simp
    refine (implObjOk_any p _ n1 _ xs _ n2 _ ys st _ n3 base fs d u _ (HV1.out _ hb4) (HV2.out _ hb4) (HV3.out _ hb4) (by omega) (by omega) (by omega) HS1.out HS2.out HS3.out HC.out HPM.out HX.out HG.out).mono ?_
    rintro e w5 ⟨uo, rfl, htuo, bw⟩
    have hb5 := hbt hb4 bw
    have HBv1_5 := hblk HBv1_4 bw
    have HBv2_5 := hblk HBv2_4 bw
    clear hb4 HBv1_4 HBv2_4 bw
    have hS5 : w5.heap[qv1]? = some (.cells #[.int .i64 3, .string a, .string b, .int .i64 t] 69) ∧ w5.heap[qv2]? = some (.cells #[.string p, .slice o1 n1 c1, .slice o2 n2 c2, .int .i64 st, .slice o3 n3 c3, .string d, .int .i64 u] 50) := ⟨HBv1_5.out, HBv2_5.out⟩
    refine hK.out _ _ hS5 (fun _ => ?_)
    clear hK K hS4
    refine tkP 5 (.bool uo) 10 rfl rfl hS5 ?_
    go_frame
    refine tkP 6 (.bool uo) 11 rfl rfl hS5 ?_
    go_frame
    cases uo with
    | false =>
      have Huo : Hid (¬ (ObjP p xs ys st fs d u)) := fun h => nomatch htuo.2 h
      clear htuo
      refine tkN 7 12 rfl rfl hS5 ?_
      go_frame
      refine tkN 8 13 rfl rfl hS5 ?_
      go_frame
      refine tkN 9 14 rfl rfl hS5 ?_
      go_frame
      refine tkN 10 15 rfl rfl hS5 ?_
      go_frame
      refine tkN 11 16 rfl rfl hS5 ?_
      go_frame
      refine tkP 12 (.bool false) 17 rfl rfl hS5 ?_
      go_frame
      refine tkP 13 (.bool false) 18 rfl rfl hS5 ?_
      go_frame
      refine tkN 14 19 rfl rfl hS5 ?_
      go_frame
      refine tkN 15 20 rfl rfl hS5 ?_
      go_frame
      refine tkN 16 21 rfl rfl hS5 ?_
      go_frame
      refine tkN 17 22 rfl rfl hS5 ?_
      go_frame
      refine tkP 18 (.bool false) 23 rfl rfl hS5 ?_
      go_frame
      refine tkP 19 (.bool false) 4 rfl rfl hS5 ?_
      go_frame
      clear hS5
      refine wpAnyH_done (by kernel_rfl) ?_ _
      go_wp2_with fail
      go_ret
      refine ⟨false, rfl, ?_, hb5⟩
      have zHub := Hub.out
      have zHuo := Huo.out
      refine ⟨fun h => (by cases h), fun h => ?_⟩
      exfalso
      obtain ⟨q1, q2, q3, q4⟩ := h
      first
        | exact zHub q1
        | exact zHuo q2
        | exact zHLE q3
        | (rcases q4 with ⟨e1, e2⟩ | ⟨e1, e2⟩ | ⟨e1, e2, e3⟩
           all_goals first
             | omega
             | exact zHuh e2
             | exact zHuh ⟨e2, e3⟩)
    | true =>
      have Huo : Hid (ObjP p xs ys st fs d u) := htuo.1 rfl
      clear htuo
      refine tkP 7 (.pointer (some ⟨qv2, 6, none⟩)) 12 rfl rfl hS5 ?_
      go_frame
      refine tkL 8 (.int .i64 u) 13 rfl rfl (Or.inl ⟨by rfl, by intro W hW; obtain ⟨hhv1, hhv2⟩ := hW; have y6 := (cell_of hhv2 6).trans rfl; go_simp⟩) hS5 ?_
      go_frame
      refine tkP 9 (.pointer (some ⟨qv1, 3, none⟩)) 14 rfl rfl hS5 ?_
      go_frame
      refine tkL 10 (.int .i64 t) 15 rfl rfl (Or.inl ⟨by rfl, by intro W hW; obtain ⟨hhv1, hhv2⟩ := hW; have y3 := (cell_of hhv1 3).trans rfl; go_simp⟩) hS5 ?_
      go_frame
      by_cases hc1 : u ≤ t
      · have HLE : Hid (u ≤ t) := hc1
        refine tkP 11 (.bool true) 16 rfl rfl hS5 ?_
        go_frame
        refine tkP 12 (.bool true) 17 rfl rfl hS5 ?_
        go_frame
        refine tkP 13 (.bool true) 18 rfl rfl hS5 ?_
        go_frame
        refine tkL 14 (.agg #[.int .i64 3, .string a, .string b, .int .i64 t]) 19 rfl rfl (Or.inl ⟨by rfl, by intro W hW; obtain ⟨hhv1, hhv2⟩ := hW; have y0 := (cell_of hhv1 0).trans rfl; have y1 := (cell_of hhv1 1).trans rfl; have y2 := (cell_of hhv1 2).trans rfl; have y3 := (cell_of hhv1 3).trans rfl; go_simp⟩) hS5 ?_
        go_frame
        refine tkL 16 (.agg #[.string p, .slice o1 n1 c1, .slice o2 n2 c2, .int .i64 st, .slice o3 n3 c3, .string d, .int .i64 u]) 21 rfl rfl (Or.inl ⟨by rfl, by intro W hW; obtain ⟨hhv1, hhv2⟩ := hW; have y0 := (cell_of hhv2 0).trans rfl; have y1 := (cell_of hhv2 1).trans rfl; have y2 := (cell_of hhv2 2).trans rfl; have y3 := (cell_of hhv2 3).trans rfl; have y4 := (cell_of hhv2 4).trans rfl; have y5 := (cell_of hhv2 5).trans rfl; have y6 := (cell_of hhv2 6).trans rfl; go_simp⟩) hS5 ?_
        go_frame
        refine wpAnyH_ready (rs := [15]) (by kernel_rfl) (by simp) ?_
        refine AllReadyH.cons rfl (fun K hK => ?_) AllReadyH.nil
        go_simp
        refine (ruleOf_3 a b t _).mono ?_
        rintro e w6 ⟨rfl, bw⟩
        have hb6 := hbt hb5 bw
        have HBv1_6 := hblk HBv1_5 bw
        have HBv2_6 := hblk HBv2_5 bw
        clear hb5 HBv1_5 HBv2_5 bw
        have hS6 : w6.heap[qv1]? = some (.cells #[.int .i64 3, .string a, .string b, .int .i64 t] 69) ∧ w6.heap[qv2]? = some (.cells #[.string p, .slice o1 n1 c1, .slice o2 n2 c2, .int .i64 st, .slice o3 n3 c3, .string d, .int .i64 u] 50) := ⟨HBv1_6.out, HBv2_6.out⟩
        refine hK.out _ _ hS6 (fun _ => ?_)
        clear hK K hS5
        refine wpAnyH_ready (rs := [17]) (by kernel_rfl) (by simp) ?_
        refine AllReadyH.cons rfl (fun K hK => ?_) AllReadyH.nil
        go_simp
        refine (bans_3 a b p _ _ st _ d u _ n3 base fs (HV3.out _ hb6) (by omega) HC.out).mono ?_
        rintro e w7 ⟨uh, rfl, htuh, bw⟩
        have hb7 := hbt hb6 bw
        have HBv1_7 := hblk HBv1_6 bw
        have HBv2_7 := hblk HBv2_6 bw
        clear hb6 HBv1_6 HBv2_6 bw
        have hS7 : w7.heap[qv1]? = some (.cells #[.int .i64 3, .string a, .string b, .int .i64 t] 69) ∧ w7.heap[qv2]? = some (.cells #[.string p, .slice o1 n1 c1, .slice o2 n2 c2, .int .i64 st, .slice o3 n3 c3, .string d, .int .i64 u] 50) := ⟨HBv1_7.out, HBv2_7.out⟩
        refine hK.out _ _ hS7 (fun _ => ?_)
        clear hK K hS6
        refine tkP 18 (.bool uh) 23 rfl rfl hS7 ?_
        go_frame
        refine tkP 19 (.bool uh) 4 rfl rfl hS7 ?_
        go_frame
        clear hS7
        refine wpAnyH_done (by kernel_rfl) ?_ _
        cases uh with
        | false =>
          have Huh : Hid (¬ (getB fs a = true ∧ getV fs a = b)) := fun h => nomatch htuh.2 h
          clear htuh
          go_wp2_with fail
          go_ret
          refine ⟨false, rfl, ?_, hb7⟩
          have zHub := Hub.out
          have zHuo := Huo.out
          have zHLE := HLE.out
          have zHuh := Huh.out
          refine ⟨fun h => (by cases h), fun h => ?_⟩
          exfalso
          obtain ⟨q1, q2, q3, q4⟩ := h
          first
            | exact zHub q1
            | exact zHuo q2
            | exact zHLE q3
            | (rcases q4 with ⟨e1, e2⟩ | ⟨e1, e2⟩ | ⟨e1, e2, e3⟩
               all_goals first
                 | omega
                 | exact zHuh e2
                 | exact zHuh ⟨e2, e3⟩)
        | true =>
          have Huh : Hid (getB fs a = true ∧ getV fs a = b) := htuh.1 rfl
          clear htuh
          go_wp2_with fail
          go_ret
          refine ⟨true, rfl, ?_, hb7⟩
          have zHub := Hub.out
          have zHuo := Huo.out
          have zHLE := HLE.out
          have zHuh := Huh.out
          exact ⟨fun _ => ⟨zHub, zHuo, zHLE, .inr (.inr ⟨rfl, zHuh.1, zHuh.2⟩)⟩, fun _ => rfl⟩
      · have HLE : Hid (¬ u ≤ t) := hc1
        refine tkP 11 (.bool false) 16 rfl rfl hS5 ?_
        go_frame
        refine tkP 12 (.bool false) 17 rfl rfl hS5 ?_
        go_frame
        refine tkP 13 (.bool false) 18 rfl rfl hS5 ?_
        go_frame
        refine tkN 14 19 rfl rfl hS5 ?_
        go_frame
        refine tkN 15 20 rfl rfl hS5 ?_
        go_frame
        refine tkN 16 21 rfl rfl hS5 ?_
        go_frame
        refine tkN 17 22 rfl rfl hS5 ?_
        go_frame
        refine tkP 18 (.bool false) 23 rfl rfl hS5 ?_
        go_frame
        refine tkP 19 (.bool false) 4 rfl rfl hS5 ?_
        go_frame
        clear hS5
        refine wpAnyH_done (by kernel_rfl) ?_ _
        go_wp2_with fail
        go_ret
        refine ⟨false, rfl, ?_, hb5⟩
        have zHub := Hub.out
        have zHuo := Huo.out
        have zHLE := HLE.out
        refine ⟨fun h => (by cases h), fun h => ?_⟩
        exfalso
        obtain ⟨q1, q2, q3, q4⟩ := h
        first
          | exact zHub q1
          | exact zHuo q2
          | exact zHLE q3
          | (rcases q4 with ⟨e1, e2⟩ | ⟨e1, e2⟩ | ⟨e1, e2, e3⟩
             all_goals first
               | omega
               | exact zHuh e2
               | exact zHuh ⟨e2, e3⟩)

set_option maxHeartbeats 8000000 in
set_option maxRecDepth 100000 in
theorem implHits_no (k : Int) (hk1 : ¬ k = 1) (hk2 : ¬ k = 2) (hk3 : ¬ k = 3) (a b : ByteArray) (t : Int) (p : ByteArray) (o1 : Option Addr) (n1 c1 : Nat) (xs : List ByteArray) (o2 : Option Addr) (n2 c2 : Nat) (ys : List ByteArray) (st : Int) (v3 : Value) (n3 base : Nat) (fs : List (ByteArray × ByteArray)) (d : ByteArray) (u : Int) (w : World) (ha : a.size ≤ maxLen) (hb : b.size ≤ maxLen) (h1 : TextsA w o1 n1 xs) (h2 : TextsA w o2 n2 ys) (h3 : FieldsV w base v3 n3 fs) (_hn1 : n1 ≤ 2000000) (_hn2 : n2 ≤ 2000000) (_hn3 : n3 ≤ 2000000) (hs1 : ∀ i, i < n1 → (textAt xs i).size ≤ maxLen) (hs2 : ∀ i, i < n2 → (textAt ys i).size ≤ maxLen) (hs3 : WalkF n3 fs) (hc : CopyF fs) (hp : p.size ≤ maxLen) (hx : d.size ≤ maxLen) (hg : (getV fs varyName).size ≤ 1048576) :
    Calls Tryz.prog 89 #[.agg #[.int .i64 k, .string a, .string b, .int .i64 t], .agg #[.string p, .slice o1 n1 c1, .slice o2 n2 c2, .int .i64 st, v3, .string d, .int .i64 u]] w fun e w' => BoolIs (HitP k a b t p xs ys st fs d u) w e w' := by
  obtain ⟨o3, c3, rfl, _⟩ := h3.slice
  have HV1 : Hid (∀ W, Below w.heap.size w W → TextsA W o1 n1 xs) := fun W h => h1.below h
  have HV2 : Hid (∀ W, Below w.heap.size w W → TextsA W o2 n2 ys) := fun W h => h2.below h
  have HV3 : Hid (∀ W, Below w.heap.size w W → FieldsV W base (.slice o3 n3 c3) n3 fs) := fun W h => h3.below h
  have HS1 : Hid (∀ i, i < n1 → (textAt xs i).size ≤ maxLen) := hs1
  have HS2 : Hid (∀ i, i < n2 → (textAt ys i).size ≤ maxLen) := hs2
  have HS3 : Hid (WalkF n3 fs) := hs3
  have HC : Hid (CopyF fs) := hc
  have HPM : Hid (p.size ≤ maxLen) := hp
  have HX : Hid (d.size ≤ maxLen) := hx
  have HG : Hid ((getV fs varyName).size ≤ 1048576) := hg
  have HAM : Hid (a.size ≤ maxLen) := ha
  have HBM : Hid (b.size ≤ maxLen) := hb
  clear h1 h2 h3 hs1 hs2 hs3 hc hp hx hg ha hb
  have HK1 : Hid (¬ k = 1) := hk1
  have HK2 : Hid (¬ k = 2) := hk2
  have HK3 : Hid (¬ k = 3) := hk3
  clear hk1 hk2 hk3
  have hb0 : Below w.heap.size w w := Below.refl _ _
  go_enter Tryz.func89, Tryz.ntmps89
  go_upto_region 1 with fail
  obtain ⟨qv1, hqv1⟩ : ∃ q, q = (w).heap.size := ⟨_, rfl⟩
  obtain ⟨w1, hW1⟩ : ∃ W, W = (w).alloc (.cells #[.int .i64 k, .string a, .string b, .int .i64 t] 69) := ⟨_, rfl⟩
  have hz1 : (w).heap.size = qv1 := hqv1.symm
  first | rw [← hW1, ← hqv1] | rw [← hW1]
  have hs1 : w1.heap.size = qv1 + 1 := by rw [hW1, ← hz1]; simp
  have bw : Below (w).heap.size (w) w1 := by rw [hW1]; exact (Below.refl _ _).alloc (Nat.le_refl _) _
  have hb1 := hbt hb0 bw
  have HBv1_1 : Hid ((w1).heap[qv1]? = some (.cells #[.int .i64 k, .string a, .string b, .int .i64 t] 69)) := by show _ = _; rw [hW1, ← hz1]; exact heap_alloc_new _ _
  clear hb0 bw hW1 hz1
  obtain ⟨qv2, hqv2⟩ : ∃ q, q = qv1 + 1 := ⟨_, rfl⟩
  obtain ⟨w2, hW2⟩ : ∃ W, W = (w1).alloc (.cells #[.string p, .slice o1 n1 c1, .slice o2 n2 c2, .int .i64 st, .slice o3 n3 c3, .string d, .int .i64 u] 50) := ⟨_, rfl⟩
  have hz2 : (w1).heap.size = qv2 := by rw [hqv2]; exact hs1
  first | rw [← hW2, ← hqv2] | rw [← hW2]
  have hs2 : w2.heap.size = qv2 + 1 := by rw [hW2, ← hz2]; simp
  have bw : Below (w1).heap.size (w1) w2 := by rw [hW2]; exact (Below.refl _ _).alloc (Nat.le_refl _) _
  have hb2 := hbt hb1 bw
  have HBv1_2 := hblk HBv1_1 bw
  have HBv2_2 : Hid ((w2).heap[qv2]? = some (.cells #[.string p, .slice o1 n1 c1, .slice o2 n2 c2, .int .i64 st, .slice o3 n3 c3, .string d, .int .i64 u] 50)) := by show _ = _; rw [hW2, ← hz2]; exact heap_alloc_new _ _
  clear hb1 HBv1_1 bw hW2 hz2
  clear hs2 hqv2 hs1 hqv1
  go_upto_region 1 with fail
  refine wp_region_held_drew (S := fun W => W.heap[qv1]? = some (.cells #[.int .i64 k, .string a, .string b, .int .i64 t] 69) ∧ W.heap[qv2]? = some (.cells #[.string p, .slice o1 n1 c1, .slice o2 n2 c2, .int .i64 st, .slice o3 n3 c3, .string d, .int .i64 u] 50)) (by kernel_rfl) ⟨HBv1_2.out, HBv2_2.out⟩ (fun _ => ?_)
  obtain ⟨w3, hX⟩ : ∃ X, X = w2.drew := ⟨_, rfl⟩
  have bw : Below w2.heap.size w2 w3 := by rw [hX]; exact (Below.refl _ _).drew
  rw [← hX]
  have hb3 := hbt hb2 bw
  have HBv1_3 := hblk HBv1_2 bw
  have HBv2_3 := hblk HBv2_2 bw
  have hS3 : w3.heap[qv1]? = some (.cells #[.int .i64 k, .string a, .string b, .int .i64 t] 69) ∧ w3.heap[qv2]? = some (.cells #[.string p, .slice o1 n1 c1, .slice o2 n2 c2, .int .i64 st, .slice o3 n3 c3, .string d, .int .i64 u] 50) := ⟨HBv1_3.out, HBv2_3.out⟩
  clear hb2 HBv1_2 HBv2_2 bw hX
  refine tkL 0 (.agg #[.int .i64 k, .string a, .string b, .int .i64 t]) 5 rfl rfl (Or.inl ⟨by rfl, by intro W hW; obtain ⟨hhv1, hhv2⟩ := hW; have y0 := (cell_of hhv1 0).trans rfl; have y1 := (cell_of hhv1 1).trans rfl; have y2 := (cell_of hhv1 2).trans rfl; have y3 := (cell_of hhv1 3).trans rfl; go_simp⟩) hS3 ?_
  go_frame
  refine wpAnyH_ready (rs := [1]) (by kernel_rfl) (by simp) ?_
  refine AllReadyH.cons rfl (fun K hK => ?_) AllReadyH.nil
  go_simp
  refine (implBanOk_any k a b t _ HAM.out HBM.out).mono ?_
  rintro e w4 ⟨ub, rfl, htub, bw⟩
  have HNB : Hid (¬ BanP k a b t) := fun h => h.kinds.elim HK1.out (fun h => h.elim HK2.out HK3.out)
  obtain rfl : ub = false := by
    cases ub with
    | false => rfl
    | true => exact absurd (htub.1 rfl) HNB.out
  clear htub
  have hb4 := hbt hb3 bw
  have HBv1_4 := hblk HBv1_3 bw
  have HBv2_4 := hblk HBv2_3 bw
  clear hb3 HBv1_3 HBv2_3 bw
  have hS4 : w4.heap[qv1]? = some (.cells #[.int .i64 k, .string a, .string b, .int .i64 t] 69) ∧ w4.heap[qv2]? = some (.cells #[.string p, .slice o1 n1 c1, .slice o2 n2 c2, .int .i64 st, .slice o3 n3 c3, .string d, .int .i64 u] 50) := ⟨HBv1_4.out, HBv2_4.out⟩
  refine hK.out _ _ hS4 (fun _ => ?_)
  clear hK K hS3
  refine tkP 2 (.bool false) 7 rfl rfl hS4 ?_
  go_frame
  refine tkN 3 8 rfl rfl hS4 ?_
  go_frame
  refine tkN 4 9 rfl rfl hS4 ?_
  go_frame
  refine tkP 5 (.bool false) 10 rfl rfl hS4 ?_
  go_frame
  refine tkP 6 (.bool false) 11 rfl rfl hS4 ?_
  go_frame
  refine tkN 7 12 rfl rfl hS4 ?_
  go_frame
  refine tkN 8 13 rfl rfl hS4 ?_
  go_frame
  refine tkN 9 14 rfl rfl hS4 ?_
  go_frame
  refine tkN 10 15 rfl rfl hS4 ?_
  go_frame
  refine tkN 11 16 rfl rfl hS4 ?_
  go_frame
  refine tkP 12 (.bool false) 17 rfl rfl hS4 ?_
  go_frame
  refine tkP 13 (.bool false) 18 rfl rfl hS4 ?_
  go_frame
  refine tkN 14 19 rfl rfl hS4 ?_
  go_frame
  refine tkN 15 20 rfl rfl hS4 ?_
  go_frame
  refine tkN 16 21 rfl rfl hS4 ?_
  go_frame
  refine tkN 17 22 rfl rfl hS4 ?_
  go_frame
  refine tkP 18 (.bool false) 23 rfl rfl hS4 ?_
  go_frame
  refine tkP 19 (.bool false) 4 rfl rfl hS4 ?_
  go_frame
  clear hS4
  refine wpAnyH_done (by kernel_rfl) ?_ _
  go_wp2_with fail
  go_ret
  exact BoolIs.no (fun h => HNB.out h.1) hb4

theorem implHits_any (k : Int) (a b : ByteArray) (t : Int) (p : ByteArray) (o1 : Option Addr) (n1 c1 : Nat) (xs : List ByteArray) (o2 : Option Addr) (n2 c2 : Nat) (ys : List ByteArray) (st : Int) (v3 : Value) (n3 base : Nat) (fs : List (ByteArray × ByteArray)) (d : ByteArray) (u : Int) (w : World) (ha : a.size ≤ maxLen) (hb : b.size ≤ maxLen) (h1 : TextsA w o1 n1 xs) (h2 : TextsA w o2 n2 ys) (h3 : FieldsV w base v3 n3 fs) (hn1 : n1 ≤ 2000000) (hn2 : n2 ≤ 2000000) (hn3 : n3 ≤ 2000000) (hs1 : ∀ i, i < n1 → (textAt xs i).size ≤ maxLen) (hs2 : ∀ i, i < n2 → (textAt ys i).size ≤ maxLen) (hs3 : WalkF n3 fs) (hc : CopyF fs) (hp : p.size ≤ maxLen) (hx : d.size ≤ maxLen) (hg : (getV fs varyName).size ≤ 1048576) :
    Calls Tryz.prog 89 #[.agg #[.int .i64 k, .string a, .string b, .int .i64 t], .agg #[.string p, .slice o1 n1 c1, .slice o2 n2 c2, .int .i64 st, v3, .string d, .int .i64 u]] w fun e w' => BoolIs (HitP k a b t p xs ys st fs d u) w e w' := by
  by_cases h1' : k = 1
  · subst h1'; exact implHits_1 a b t p o1 n1 c1 xs o2 n2 c2 ys st v3 n3 base fs d u w ha hb h1 h2 h3 hn1 hn2 hn3 hs1 hs2 hs3 hc hp hx hg
  · by_cases h2' : k = 2
    · subst h2'; exact implHits_2 a b t p o1 n1 c1 xs o2 n2 c2 ys st v3 n3 base fs d u w ha hb h1 h2 h3 hn1 hn2 hn3 hs1 hs2 hs3 hc hp hx hg
    · by_cases h3' : k = 3
      · subst h3'; exact implHits_3 a b t p o1 n1 c1 xs o2 n2 c2 ys st v3 n3 base fs d u w ha hb h1 h2 h3 hn1 hn2 hn3 hs1 hs2 hs3 hc hp hx hg
      · exact implHits_no k h1' h2' h3' a b t p o1 n1 c1 xs o2 n2 c2 ys st v3 n3 base fs d u w ha hb h1 h2 h3 hn1 hn2 hn3 hs1 hs2 hs3 hc hp hx hg

end Go.Proofs.YtcipbkkpkhameaaGreat

namespace Go.Proofs.YtcipbkkpkhameaaGreat
open Go.RowKit
open Go.Lib hiding intOf

set_option maxHeartbeats 8000000 in
set_option maxRecDepth 100000 in
theorem implHitsAny_any (oa : Option Addr) (n cap : Nat) (l : List (Int × ByteArray × ByteArray × Int)) (p : ByteArray) (o1 : Option Addr) (n1 c1 : Nat) (xs : List ByteArray) (o2 : Option Addr) (n2 c2 : Nat) (ys : List ByteArray) (st : Int) (v3 : Value) (n3 base : Nat) (fs : List (ByteArray × ByteArray)) (d : ByteArray) (u : Int) (w : World) (hl : BanA w oa n l) (hn : n ≤ 2000000) (hlz : ∀ x ∈ l, x.2.1.size ≤ maxLen ∧ x.2.2.1.size ≤ maxLen) (h1 : TextsA w o1 n1 xs) (h2 : TextsA w o2 n2 ys) (h3 : FieldsV w base v3 n3 fs) (hn1 : n1 ≤ 2000000) (hn2 : n2 ≤ 2000000) (hn3 : n3 ≤ 2000000) (hs1 : ∀ i, i < n1 → (textAt xs i).size ≤ maxLen) (hs2 : ∀ i, i < n2 → (textAt ys i).size ≤ maxLen) (hs3 : WalkF n3 fs) (hc : CopyF fs) (hp : p.size ≤ maxLen) (hx : d.size ≤ maxLen) (hg : (getV fs varyName).size ≤ 1048576) :
    Calls Tryz.prog 44 #[.slice oa n cap, .agg #[.string p, .slice o1 n1 c1, .slice o2 n2 c2, .int .i64 st, v3, .string d, .int .i64 u]] w fun e w' => BoolIs (AnyP l p xs ys st fs d u) w e w' := by
  obtain ⟨o3, c3, rfl, _⟩ := h3.slice
  have HL : Hid (∀ W, Below w.heap.size w W → BanA W oa n l) := fun W h => hl.below h
  have HLN : Hid (l.length = n) := hl.1
  have HC : Hid (∀ (k : Int) (a b : ByteArray) (t : Int) (W : World), Below w.heap.size w W → a.size ≤ maxLen → b.size ≤ maxLen → Calls Tryz.prog 89 #[.agg #[.int .i64 k, .string a, .string b, .int .i64 t], .agg #[.string p, .slice o1 n1 c1, .slice o2 n2 c2, .int .i64 st, .slice o3 n3 c3, .string d, .int .i64 u]] W fun e w' => BoolIs (HitP k a b t p xs ys st fs d u) W e w') := fun k a b t W h ha hb =>
    implHits_any k a b t p o1 n1 c1 xs o2 n2 c2 ys st _ n3 base fs d u W ha hb (h1.below h) (h2.below h) (h3.below h) hn1 hn2 hn3 hs1 hs2 hs3 hc hp hx hg
  have HLZ : Hid (∀ x ∈ l, x.2.1.size ≤ maxLen ∧ x.2.2.1.size ≤ maxLen) := hlz
  clear hl hlz h1 h2 h3 hs1 hs2 hs3 hc hp hx hg
  have hb0 : Below w.heap.size w w := Below.refl _ _
  go_enter Tryz.func44, Tryz.ntmps44
  go_upto_region 1 with fail
  obtain ⟨qv1, hqv1⟩ : ∃ q, q = (w).heap.size := ⟨_, rfl⟩
  obtain ⟨w1, hW1⟩ : ∃ W, W = (w).alloc (.cells #[.string p, .slice o1 n1 c1, .slice o2 n2 c2, .int .i64 st, .slice o3 n3 c3, .string d, .int .i64 u] 50) := ⟨_, rfl⟩
  have hz1 : (w).heap.size = qv1 := hqv1.symm
  first | rw [← hW1, ← hqv1] | rw [← hW1]
  have hs1 : w1.heap.size = qv1 + 1 := by rw [hW1, ← hz1]; simp
  have bw : Below (w).heap.size (w) w1 := by rw [hW1]; exact (Below.refl _ _).alloc (Nat.le_refl _) _
  have hb1 := hbt hb0 bw
  have HBv1_1 : Hid ((w1).heap[qv1]? = some (.cells #[.string p, .slice o1 n1 c1, .slice o2 n2 c2, .int .i64 st, .slice o3 n3 c3, .string d, .int .i64 u] 50)) := by show _ = _; rw [hW1, ← hz1]; exact heap_alloc_new _ _
  clear hb0 bw hW1 hz1
  clear hs1 hqv1
  go_wp2_with fail
  go_loopw [9] (fun i wr => ∃ j : Nat, j ≤ n ∧ i = .int .i64 (j : Int) ∧ Hid (Below w.heap.size w wr ∧ (wr).heap[qv1]? = some (.cells #[.string p, .slice o1 n1 c1, .slice o2 n2 c2, .int .i64 st, .slice o3 n3 c3, .string d, .int .i64 u] 50)) ∧ Hid (∀ x ∈ l.take j, ¬ HitP x.1 x.2.1 x.2.2.1 x.2.2.2 p xs ys st fs d u)) (fun i _ => n - (intOf i).toNat)
  case atStart => exact ⟨0, Nat.zero_le _, rfl, ⟨hb1, HBv1_1.out⟩, fun x hx => by simp at hx⟩
  case round =>
    obtain ⟨j, hj, rfl, HW, HN⟩ := hrel
    by_cases hlt : (j : Int) < (n : Int)
    · have hb2 := HW.out.1
      have HBv1_2 : Hid ((wr).heap[qv1]? = some (.cells #[.string p, .slice o1 n1 c1, .slice o2 n2 c2, .int .i64 st, .slice o3 n3 c3, .string d, .int .i64 u] 50)) := HW.out.2
      clear HW hb1 HBv1_1
      have hjx : j < l.length := by rw [HLN.out]; omega
      obtain ⟨g, hog, hgl, r0, r1, r2, r3⟩ := (HL.out wr hb2).2 j (by omega)
      subst hog
      obtain ⟨y, hy⟩ : ∃ y, y = banAt l j := ⟨_, rfl⟩
      rw [← hy] at r0 r1 r2 r3
      have HM : Hid (y ∈ l) := by show _ ∈ _; rw [hy]; exact banAt_mem l j hjx
      have HTK : Hid (l.take (j + 1) = l.take j ++ [y]) := by show _ = _; rw [hy]; exact take_banAt l j hjx
      have HZ : Hid (y.2.1.size ≤ maxLen ∧ y.2.2.1.size ≤ maxLen) := HLZ.out y HM.out
      clear hy hjx hgl
      obtain ⟨y0, y1, y2, y3⟩ := y
      go_upto_region 4 with fail
      obtain ⟨qv2, hqv2⟩ : ∃ q, q = (wr).heap.size := ⟨_, rfl⟩
      obtain ⟨w3, hW3⟩ : ∃ W, W = (wr).alloc (.cells #[.int .i64 y0, .string y1, .string y2, .int .i64 y3] 69) := ⟨_, rfl⟩
      have hz3 : (wr).heap.size = qv2 := hqv2.symm
      first | rw [← hW3, ← hqv2] | rw [← hW3]
      have hs3 : w3.heap.size = qv2 + 1 := by rw [hW3, ← hz3]; simp
      have bw : Below (wr).heap.size (wr) w3 := by rw [hW3]; exact (Below.refl _ _).alloc (Nat.le_refl _) _
      have hb3 := hbt hb2 bw
      have HBv1_3 := hblk HBv1_2 bw
      have HBv2_3 : Hid ((w3).heap[qv2]? = some (.cells #[.int .i64 y0, .string y1, .string y2, .int .i64 y3] 69)) := by show _ = _; rw [hW3, ← hz3]; exact heap_alloc_new _ _
      clear hb2 HBv1_2 bw hW3 hz3
      clear hs3 hqv2
      clear r0 r1 r2 r3
      have cv1_0 : (w3).cell? ⟨qv1, 0, none⟩ = some (.string p) := (cell_of HBv1_3.out 0).trans rfl
      have cv1_1 : (w3).cell? ⟨qv1, 1, none⟩ = some (.slice o1 n1 c1) := (cell_of HBv1_3.out 1).trans rfl
      have cv1_2 : (w3).cell? ⟨qv1, 2, none⟩ = some (.slice o2 n2 c2) := (cell_of HBv1_3.out 2).trans rfl
      have cv1_3 : (w3).cell? ⟨qv1, 3, none⟩ = some (.int .i64 st) := (cell_of HBv1_3.out 3).trans rfl
      have cv1_4 : (w3).cell? ⟨qv1, 4, none⟩ = some (.slice o3 n3 c3) := (cell_of HBv1_3.out 4).trans rfl
      have cv1_5 : (w3).cell? ⟨qv1, 5, none⟩ = some (.string d) := (cell_of HBv1_3.out 5).trans rfl
      have cv1_6 : (w3).cell? ⟨qv1, 6, none⟩ = some (.int .i64 u) := (cell_of HBv1_3.out 6).trans rfl
      have cv2_0 : (w3).cell? ⟨qv2, 0, none⟩ = some (.int .i64 y0) := (cell_of HBv2_3.out 0).trans rfl
      have cv2_1 : (w3).cell? ⟨qv2, 1, none⟩ = some (.string y1) := (cell_of HBv2_3.out 1).trans rfl
      have cv2_2 : (w3).cell? ⟨qv2, 2, none⟩ = some (.string y2) := (cell_of HBv2_3.out 2).trans rfl
      have cv2_3 : (w3).cell? ⟨qv2, 3, none⟩ = some (.int .i64 y3) := (cell_of HBv2_3.out 3).trans rfl
      go_wp2_with fail
      refine (HC.out y0 y1 y2 y3 _ hb3 HZ.out.1 HZ.out.2).mono ?_
      rintro e w4 ⟨uh, rfl, htuh, bw⟩
      have hb4 := hbt hb3 bw
      have HBv1_4 := hblk HBv1_3 bw
      have HBv2_4 := hblk HBv2_3 bw
      clear hb3 HBv1_3 HBv2_3 bw
      clear cv1_0 cv1_1 cv1_2 cv1_3 cv1_4 cv1_5 cv1_6 cv2_0 cv2_1 cv2_2 cv2_3
      cases uh with
      | false =>
        have HN2 : Hid (∀ x ∈ l.take (j + 1), ¬ HitP x.1 x.2.1 x.2.2.1 x.2.2.2 p xs ys st fs d u) := by
          intro x hx
          rw [HTK.out] at hx
          rcases List.mem_append.1 hx with hx | hx
          · exact HN.out x hx
          · rw [List.mem_singleton.1 hx]; exact fun h => nomatch htuh.2 h
        clear htuh HN
        go_wp2_with fail
        go_roundw
        case rel => exact ⟨j + 1, by omega, by go_num, ⟨hb4, HBv1_4.out⟩, HN2⟩
        case measure => simp [intOf]; omega
      | true =>
        have HA : Hid (AnyP l p xs ys st fs d u) := ⟨_, HM.out, htuh.1 rfl⟩
        clear htuh HN
        go_wp2_with fail
        go_ret
        exact ⟨true, rfl, ⟨fun _ => HA.out, fun _ => rfl⟩, hb4⟩
    · have hb2 := HW.out.1
      have HBv1_2 : Hid ((wr).heap[qv1]? = some (.cells #[.string p, .slice o1 n1 c1, .slice o2 n2 c2, .int .i64 st, .slice o3 n3 c3, .string d, .int .i64 u] 50)) := HW.out.2
      clear HW hb1 HBv1_1
      have HA : Hid (¬ AnyP l p xs ys st fs d u) := by
        rintro ⟨x, hx, h⟩
        have h2 := HN.out
        rw [List.take_of_length_le (by rw [HLN.out]; omega)] at h2
        exact h2 x hx h
      clear HN
      go_wp2_with fail
      go_ret
      exact BoolIs.no HA.out hb2

end Go.Proofs.YtcipbkkpkhameaaGreat

namespace Go.Proofs.YtcipbkkpkhameaaGreat
open Go.RowKit
open Go.Lib hiding intOf

/-- ObjOk of one that is kept. -/
theorem implObjOk_k (k : KpD) (v1 v2 v3 : Value) (w : World) (h : KpRead w k v1 v2 v3) (hs : KpSmall k) :
    Calls Tryz.prog 74 #[.agg #[.string k.p, v1, v2, .int .i64 k.st, v3, .string k.b, .int .i64 k.t]] w fun e w' => BoolIs (ObjK k) w e w' := by
  obtain ⟨B, h⟩ := h
  have ho : ObjO w B v1 k.xs.length k.xs v2 k.ys.length k.ys v3 k.fs.length k.fs := rows_objO h
  obtain ⟨o1, c1, rfl⟩ := slice_of_owns ho.names
  obtain ⟨o2, c2, rfl⟩ := slice_of_owns ho.vals
  exact implObjOk_any k.p o1 _ c1 k.xs o2 _ c2 k.ys k.st v3 _ B k.fs k.b k.t w (texts_view ho.names) (texts_view ho.vals) (FieldsV.of_owns ho.flds) (by have := hs.2.1.1; omega) (by have := hs.2.2.1.1; omega) (by have := hs.2.2.2.1; omega) (small_text hs.2.1.2) (small_text hs.2.2.1.2) (small_walk hs) (small_copy hs) (by have := hs.1.1; unfold maxLen; omega) (by have := hs.1.2; unfold maxLen; omega) (small_get hs _)
/-- HitsAny of one that is kept. -/
theorem implHitsAny_k (oa : Option Addr) (n cap : Nat) (l : List (Int × ByteArray × ByteArray × Int)) (k : KpD) (v1 v2 v3 : Value) (w : World) (hl : BanA w oa n l) (hn : n ≤ 2000000) (hlz : ∀ x ∈ l, x.2.1.size ≤ maxLen ∧ x.2.2.1.size ≤ maxLen) (h : KpRead w k v1 v2 v3) (hs : KpSmall k) :
    Calls Tryz.prog 44 #[.slice oa n cap, .agg #[.string k.p, v1, v2, .int .i64 k.st, v3, .string k.b, .int .i64 k.t]] w fun e w' => BoolIs (AnyK l k) w e w' := by
  obtain ⟨B, h⟩ := h
  have ho : ObjO w B v1 k.xs.length k.xs v2 k.ys.length k.ys v3 k.fs.length k.fs := rows_objO h
  obtain ⟨o1, c1, rfl⟩ := slice_of_owns ho.names
  obtain ⟨o2, c2, rfl⟩ := slice_of_owns ho.vals
  exact implHitsAny_any oa n cap l k.p o1 _ c1 k.xs o2 _ c2 k.ys k.st v3 _ B k.fs k.b k.t w hl hn hlz (texts_view ho.names) (texts_view ho.vals) (FieldsV.of_owns ho.flds) (by have := hs.2.1.1; omega) (by have := hs.2.2.1.1; omega) (by have := hs.2.2.2.1; omega) (small_text hs.2.1.2) (small_text hs.2.2.1.2) (small_walk hs) (small_copy hs) (by have := hs.1.1; unfold maxLen; omega) (by have := hs.1.2; unfold maxLen; omega) (small_get hs _)

end Go.Proofs.YtcipbkkpkhameaaGreat

namespace Go.Proofs.YtcipbkkpkhameaaGreat
open Go.RowKit
open Go.Lib hiding intOf

set_option maxHeartbeats 4000000 in
theorem implDiskOk_len (o1 : Option Addr) (n1 c1 : Nat) (v2 : Value) (n2 : Nat) (ws : List (Int × ByteArray)) (B : Nat) (w : World) (h : w.ownsRow B 110 2 v2 n2 (flatWrite ws)) (hn2 : n2 ≤ 2000000) :
    Calls Tryz.prog 30 #[.agg #[.slice o1 n1 c1, v2]] w fun e w' => BoolIs (DiskN n1 ws) w e w' := by
  obtain ⟨o2, c2, rfl⟩ := slice_of_owns h
  have HV : Hid (WriteA w o2 n2 ws) := write_view h
  have HLN : Hid (ws.length = n2) := write_len h
  clear h
  by_cases h1 : n1 = 20
  · subst h1
    by_cases h2 : n2 ≤ 16
    · have h3 : (n2 : Int) ≤ 16 := by omega
      go_enter Tryz.func30, Tryz.ntmps30
      go_wp2_with fail
      refine (allToCells_any o2 n2 c2 ws _ (HV.out.below ((Below.refl _ _).alloc (Nat.le_refl _) _)) hn2).mono ?_
      rintro e w1 ⟨b, rfl, hb, bw⟩
      have HB : Hid (b = true ↔ AllIn ws) := hb
      have HBW : Hid (Below w.heap.size w w1) := ((Below.refl _ _).alloc (Nat.le_refl _) _).trans (bw.mono (by simp))
      have HN : Hid (n2 ≤ 16) := h2
      clear hb bw
      go_wp2_with fail
      go_ret
      exact ⟨b, rfl, ⟨fun e => ⟨rfl, by rw [HLN.out]; exact HN.out, HB.out.1 e⟩, fun h => HB.out.2 h.2.2⟩, HBW.out⟩
    · have h3 : ¬ (n2 : Int) ≤ 16 := by omega
      have HNO : Hid (¬ ws.length ≤ 16) := by rw [HLN.out]; exact h2
      go_enter Tryz.func30, Tryz.ntmps30
      go_wp2_with fail
      go_ret
      exact BoolIs.no (fun h => HNO.out h.2.1) ((Below.refl _ _).alloc (Nat.le_refl _) _)
  · have h3 : ¬ (n1 : Int) = 20 := by omega
    have HNO : Hid (¬ n1 = 20) := h1
    go_enter Tryz.func30, Tryz.ntmps30
    go_wp2_with fail
    go_ret
    exact BoolIs.no (fun h => HNO.out h.1) ((Below.refl _ _).alloc (Nat.le_refl _) _)

theorem implDiskOk_any (v1 v2 : Value) (n1 : Nat) (cs : List ByteArray) (n2 : Nat) (ws : List (Int × ByteArray)) (B : Nat) (w : World) (h : DiskO w B v1 n1 cs v2 n2 ws) (_hn1 : n1 ≤ 2000000) (hn2 : n2 ≤ 2000000) :
    Calls Tryz.prog 30 #[.agg #[v1, v2]] w fun e w' => BoolIs (DiskP cs ws) w e w' := by
  obtain ⟨oCx, pCx, rfl⟩ := slice_of_owns h.cells
  have hl : cs.length = n1 := by have := h.cells.1; rw [List.length_map] at this; omega
  have h1 := implDiskOk_len oCx n1 pCx v2 n2 ws B w h.pend hn2
  rw [← hl] at h1
  rw [← hl]
  exact h1

end Go.Proofs.YtcipbkkpkhameaaGreat

namespace Go.Proofs.YtcipbkkpkhameaaGreat
open Go.RowKit
open Go.Lib hiding intOf

/-- At most five bans, each right. -/
def BansP (bl : List (Int × ByteArray × ByteArray × Int)) : Prop := bl.length ≤ 5 ∧ ∀ x ∈ bl, BanP x.1 x.2.1 x.2.2.1 x.2.2.2
/-- The number of the one ahead, or nought. -/
def lastQ (ks : List KpD) (i : Nat) : Int := if i = 0 then 0 else (kpAt ks (i - 1)).q
theorem lastQ_succ (ks : List KpD) (i : Nat) : lastQ ks (i + 1) = (kpAt ks i).q := by unfold lastQ; rw [if_neg (by omega), Nat.add_sub_cancel]
/-- Right, but for its cell's being another's. -/
def KpA (ks : List KpD) (sq : Int) (i : Nat) : Prop := ObjK (kpAt ks i) ∧ (5 ≤ (kpAt ks i).a ∧ (kpAt ks i).a ≤ 19) ∧ lastQ ks i < (kpAt ks i).q ∧ (kpAt ks i).q < sq
theorem lastQ_ge {ks : List KpD} {sq : Int} {n : Nat} (h : ∀ m, m < n → KpA ks sq m) : ∀ i, i ≤ n → 0 ≤ lastQ ks i
  | 0, _ => by simp [lastQ]
  | i + 1, hi => by
    have h1 := lastQ_ge h i (by omega)
    have h2 := (h i (by omega)).2.2.1
    rw [lastQ_succ]
    omega
theorem kpOk_A {ks : List KpD} {sq : Int} {i : Nat} (h : KpOk ks sq i) : KpA ks sq i := by
  obtain ⟨h1, h2, h3, h4, _⟩ := h
  refine ⟨h1, h2, ?_, by omega⟩
  unfold lastQ
  split
  · omega
  · exact h4 (by omega)
theorem kpA_Ok {ks : List KpD} {sq : Int} {n i : Nat} (h : ∀ m, m < n → KpA ks sq m) (hi : i < n) (ha : ∀ j, j < i → (kpAt ks j).a ≠ (kpAt ks i).a) : KpOk ks sq i := by
  obtain ⟨h1, h2, h3, h4⟩ := h i hi
  have h5 := lastQ_ge h i (by omega)
  refine ⟨h1, h2, by omega, fun h0 => ?_, ha⟩
  unfold lastQ at h3
  rw [if_neg (by omega)] at h3
  exact h3
theorem apart_at {kv : List (KpD × Value × Value × Value)} : ApartA kv ↔ ∀ i, i < kv.length → ∀ j, j < i → (kpAt (kv.map (·.1)) j).a ≠ (kpAt (kv.map (·.1)) i).a := by
  have e : ∀ i (hi : i < kv.length), kpAt (kv.map (·.1)) i = (kv[i]'hi).1 := fun i hi => by
    rw [← kpAt_get _ i (by rw [List.length_map]; exact hi)]
    simp
  unfold ApartA
  rw [List.pairwise_iff_getElem]
  constructor
  · intro h i hi j hj
    rw [e i hi, e j (by omega)]
    exact h j i (by omega) hi hj
  · intro h i j hi hj hij
    have h2 := h j hj i hij
    rw [e j hj, e i hi] at h2
    exact h2
set_option maxHeartbeats 8000000 in
set_option maxRecDepth 100000 in
theorem keptOk_any (V : Value) (kv : List (KpD × Value × Value × Value)) (sq : Int) (B : Nat) (w : World) (h : KeptsO w B V kv) (hn : kv.length ≤ 1048576) (hs : ∀ x ∈ kv, KpSmall x.1) :
    Calls Tryz.prog 32 #[V, .int .i64 sq] w fun e w' => BoolIs (∀ m, m < kv.length → KpOk (kv.map (·.1)) sq m) w e w' := by
  obtain ⟨o3, c3, e3⟩ := slice_of_owns h.row
  subst e3
  obtain ⟨n3, hn3⟩ : ∃ n, n = kv.length := ⟨_, rfl⟩
  rw [← hn3] at h ⊢
  obtain ⟨ks, hks⟩ : ∃ ks, ks = kv.map (·.1) := ⟨_, rfl⟩
  have HKS : Hid (kv.map (·.1) = ks) := hks.symm
  have HLK : Hid (kv.length = n3) := hn3.symm
  have bn3 : n3 ≤ 1048576 := by rw [hn3]; exact hn
  have HKP : Hid (∀ W, Below w.heap.size w W → KeptsO W B (.slice o3 n3 c3) kv) := fun W hb => KeptsO.below h hb
  clear hn3 hks h hn
  have HSM : Hid (∀ x ∈ kv, KpSmall x.1) := hs
  clear hs
  have hb0 : Below w.heap.size w w := Below.refl _ _
  go_enter Tryz.func32, Tryz.ntmps32
  go_wp2_with fail
  go_loopw [5, 10] (fun l i wr => ∃ i' : Nat, i' ≤ n3 ∧ l = .int .i64 (lastQ ks i') ∧ i = .int .i64 (i' : Int) ∧ Hid (Below w.heap.size w (wr)) ∧ Hid (∀ m, m < i' → KpA ks sq m)) (fun _ i _ => n3 - (intOf i).toNat)
  case atStart => exact ⟨0, Nat.zero_le _, rfl, rfl, hb0, fun m hm => absurd hm (by omega)⟩
  case round =>
    obtain ⟨i, hi, rfl, rfl, HW, HN⟩ := hrel
    by_cases hlt : (i : Int) < (n3 : Int)
    · have hb1 := HW.out
      clear HW hb0
      obtain ⟨g3, p3, hV, _, _⟩ := (HKP.out _ hb1).look i (by rw [HLK.out]; omega)
      rw [HLK.out] at hV
      injection hV with hV1 hV2 hV3
      subst hV1 hV3
      clear hV2
      obtain ⟨xX, hxX⟩ : ∃ x, x = kvAt kv i := ⟨_, rfl⟩
      have HMx : Hid (xX ∈ kv) := by show _ ∈ _; rw [hxX]; exact kvAt_mem kv i (by rw [HLK.out]; omega)
      have HEx : Hid (kpAt ks i = xX.1) := by show _ = _; rw [hxX, ← HKS.out]; exact (kvAt_fst kv i (by rw [HLK.out]; omega)).symm
      have HTKx : Hid (kv.take (i + 1) = kv.take i ++ [xX]) := by show _ = _; rw [hxX]; exact kvAt_take kv i (by rw [HLK.out]; omega)
      have HKx : Hid (∀ W, Below w.heap.size w W → KpAt W g3 i xX) := fun W hb => by
        obtain ⟨g', p', hV, _, hc⟩ := (HKP.out W hb).look i (by rw [HLK.out]; omega)
        injection hV with hV1 _ _
        cases hV1
        rw [hxX]
        exact hc
      clear hxX
      obtain ⟨x, kuv1, kuv2, kuv3⟩ := xX
      obtain ⟨ku1, kuc1, hu⟩ := slice_of_owns ((HKP.out _ hb1).names HMx.out)
      have hu' : kuv1 = .slice ku1 x.xs.length kuc1 := hu
      subst hu'
      clear hu
      obtain ⟨ku2, kuc2, hu⟩ := slice_of_owns ((HKP.out _ hb1).vals HMx.out)
      have hu' : kuv2 = .slice ku2 x.ys.length kuc2 := hu
      subst hu'
      clear hu
      obtain ⟨ku3, kuc3, hu⟩ := slice_of_owns ((HKP.out _ hb1).flds HMx.out)
      have hu' : kuv3 = .slice ku3 x.fs.length kuc3 := hu
      subst hu'
      clear hu
      have r0x := (HKx.out _ hb1).c0
      have r1x := (HKx.out _ hb1).c1
      have r2x := (HKx.out _ hb1).c2
      have r3x := (HKx.out _ hb1).c3
      have r4x := (HKx.out _ hb1).c4
      have r5x := (HKx.out _ hb1).c5
      have r6x := (HKx.out _ hb1).c6
      have r7x := (HKx.out _ hb1).c7
      have r8x := (HKx.out _ hb1).c8
      dsimp only at r0x r1x r2x r3x r4x r5x r6x r7x r8x
      go_upto_region 5 with fail
      obtain ⟨qv1, hqv1⟩ : ∃ q, q = (wr).heap.size := ⟨_, rfl⟩
      obtain ⟨w2, hW2⟩ : ∃ W, W = (wr).alloc (.cells #[.string x.p, .slice ku1 x.xs.length kuc1, .slice ku2 x.ys.length kuc2, .int .i64 x.st, .slice ku3 x.fs.length kuc3, .string x.b, .int .i64 x.t, .int .i64 x.a, .int .i64 x.q] 71) := ⟨_, rfl⟩
      have hz2 : (wr).heap.size = qv1 := hqv1.symm
      first | rw [← hW2, ← hqv1] | rw [← hW2]
      have hs2 : w2.heap.size = qv1 + 1 := by rw [hW2, ← hz2]; simp
      have bw : Below (wr).heap.size (wr) w2 := by rw [hW2]; exact (Below.refl _ _).alloc (Nat.le_refl _) _
      have hb2 := hbt hb1 bw
      have HM2 : Hid ((wr).heap.size ≤ (w2).heap.size) := bw.size
      have HBv1_2 : Hid ((w2).heap[qv1]? = some (.cells #[.string x.p, .slice ku1 x.xs.length kuc1, .slice ku2 x.ys.length kuc2, .int .i64 x.st, .slice ku3 x.fs.length kuc3, .string x.b, .int .i64 x.t, .int .i64 x.a, .int .i64 x.q] 71)) := by show _ = _; rw [hW2, ← hz2]; exact heap_alloc_new _ _
      clear hb1 bw hW2 hz2
      clear hs2 hqv1
      clear r0x r1x r2x r3x r4x r5x r6x r7x r8x
      have cv1_0 : (w2).cell? ⟨qv1, 0, none⟩ = some (.string x.p) := (cell_of HBv1_2.out 0).trans rfl
      have cv1_1 : (w2).cell? ⟨qv1, 1, none⟩ = some (.slice ku1 x.xs.length kuc1) := (cell_of HBv1_2.out 1).trans rfl
      have cv1_2 : (w2).cell? ⟨qv1, 2, none⟩ = some (.slice ku2 x.ys.length kuc2) := (cell_of HBv1_2.out 2).trans rfl
      have cv1_3 : (w2).cell? ⟨qv1, 3, none⟩ = some (.int .i64 x.st) := (cell_of HBv1_2.out 3).trans rfl
      have cv1_4 : (w2).cell? ⟨qv1, 4, none⟩ = some (.slice ku3 x.fs.length kuc3) := (cell_of HBv1_2.out 4).trans rfl
      have cv1_5 : (w2).cell? ⟨qv1, 5, none⟩ = some (.string x.b) := (cell_of HBv1_2.out 5).trans rfl
      have cv1_6 : (w2).cell? ⟨qv1, 6, none⟩ = some (.int .i64 x.t) := (cell_of HBv1_2.out 6).trans rfl
      go_wp2_with fail
      refine (implObjOk_k x _ _ _ _ ((HKP.out _ hb2).read HMx.out) (HSM.out _ HMx.out)).mono ?_
      rintro e w3 ⟨uo, rfl, huo, bw⟩
      have hb3 := hbt hb2 bw
      have HBv1_3 := hblk HBv1_2 bw
      clear hb2 HBv1_2 bw
      clear cv1_0 cv1_1 cv1_2 cv1_3 cv1_4 cv1_5 cv1_6
      cases uo with
      | false =>
        have HNuo : Hid (¬ (ObjK x)) := fun h => nomatch huo.2 h
        clear huo
        go_wp2_with fail
        go_ret
        exact BoolIs.no (fun h => by have hk := h i (by omega); rw [HKS.out] at hk; have hA := kpOk_A hk; unfold KpA at hA; rw [HEx.out] at hA; exact HNuo.out hA.1) hb3
      | true =>
        have HYuo : Hid (ObjK x) := huo.1 rfl
        clear huo
        have cv1_7 : (w3).cell? ⟨qv1, 7, none⟩ = some (.int .i64 x.a) := (cell_of HBv1_3.out 7).trans rfl
        go_wp2_with fail
        refine (isObjectCell_any x.a _).mono ?_
        rintro e w4 ⟨uka, rfl, huka, bw⟩
        have hb4 := hbt hb3 bw
        have HBv1_4 := hblk HBv1_3 bw
        clear hb3 HBv1_3 bw
        clear cv1_7
        cases uka with
        | false =>
          have HNuka : Hid (¬ (5 ≤ x.a ∧ x.a ≤ 19)) := fun h => nomatch huka.2 h
          clear huka
          go_wp2_with fail
          go_ret
          exact BoolIs.no (fun h => by have hk := h i (by omega); rw [HKS.out] at hk; have hA := kpOk_A hk; unfold KpA at hA; rw [HEx.out] at hA; exact HNuka.out hA.2.1) hb4
        | true =>
          have HYuka : Hid (5 ≤ x.a ∧ x.a ≤ 19) := huka.1 rfl
          clear huka
          by_cases hc1 : x.q ≤ (lastQ ks i)
          · have HLQ : Hid (x.q ≤ lastQ ks i) := hc1
            have cv1_8 : (w4).cell? ⟨qv1, 8, none⟩ = some (.int .i64 x.q) := (cell_of HBv1_4.out 8).trans rfl
            go_wp2_with fail
            go_ret
            exact BoolIs.no (fun h => by have hk := h i (by omega); rw [HKS.out] at hk; have hA := kpOk_A hk; unfold KpA at hA; rw [HEx.out] at hA; have h2 := HLQ.out; omega) hb4
          · have HLQ : Hid (¬ x.q ≤ lastQ ks i) := hc1
            have cv1_8 : (w4).cell? ⟨qv1, 8, none⟩ = some (.int .i64 x.q) := (cell_of HBv1_4.out 8).trans rfl
            by_cases hc2 : sq ≤ x.q
            · have HGQ : Hid (sq ≤ x.q) := hc2
              go_wp2_with fail
              go_ret
              exact BoolIs.no (fun h => by have hk := h i (by omega); rw [HKS.out] at hk; have hA := kpOk_A hk; unfold KpA at hA; rw [HEx.out] at hA; have h2 := HGQ.out; omega) hb4
            · have HGQ : Hid (¬ sq ≤ x.q) := hc2
              have HN2 : Hid (∀ m, m < i + 1 → KpA ks sq m) := fun m hm => by
                by_cases e : m = i
                · subst e
                  unfold KpA
                  rw [HEx.out]
                  have h1 := HLQ.out
                  have h2 := HGQ.out
                  exact ⟨HYuo.out, HYuka.out, by omega, by omega⟩
                · exact HN.out m (by omega)
              have HLS : Hid (x.q = lastQ ks (i + 1)) := by show _ = _; rw [lastQ_succ, HEx.out]
              go_wp2_with fail
              go_roundw
              case rel => exact ⟨i + 1, by omega, congrArg (Value.int .i64) HLS.out, by go_num, hb4, HN2⟩
              case measure => simp [intOf]; omega
    · have hb1 := HW.out
      clear HW hb0
      have HKA : Hid (∀ m, m < n3 → KpA ks sq m) := fun m hm => HN.out m (by omega)
      have HAB : Hid (∀ x ∈ kv, 0 ≤ x.1.a ∧ x.1.a ≤ 1000) := fun x hx => by
        obtain ⟨j, hj, e⟩ := List.getElem_of_mem hx
        have h2 := (HKA.out j (by rw [← HLK.out]; exact hj)).2.1
        rw [← HKS.out, ← kvAt_fst kv j hj, ← kvAt_get kv j hj, e] at h2
        omega
      clear HN
      go_wp2_with fail
      refine (knownOf_any _ kv B _ (HKP.out _ hb1) (by rw [HLK.out]; exact bn3) (fun x hx => HAB.out x hx)).mono ?_
      rintro e w2 ⟨bM, nM, D, rfl, hnM, hko, hmn, hbg, bw⟩
      have HBK : Hid (w.heap.size ≤ (wr).heap.size) := hb1.size
      have hb2 := hbt hb1 bw
      have HM2 : Hid ((wr).heap.size ≤ (w2).heap.size) := bw.size
      clear hb1 bw
      have EMmk_2 : Hid (KnownO w2 bM nM D) := hko
      have HMN : Hid (MapN D kv) := hmn
      clear hbg hko hmn
      by_cases hc1 : (Maps.size (D) : Int) = (n3 : Int)
      · have hc1b : (((Maps.size (D) : Int) : Int) == ((n3 : Int) : Int)) = true := by simpa using hc1
        have hc1n : (((Maps.size (D) : Int) : Int) != ((n3 : Int) : Int)) = false := by simpa using hc1
        have HSZ : Hid ((Maps.size D : Int) = (n3 : Int)) := hc1
        have hc1H : Hid ((Maps.size (D) : Int) = (n3 : Int)) := hc1
        clear hc1
        have hmp := EMmk_2.out
        unfold KnownO at hmp
        go_wp2_with (first | (at_len; refine wpList_len_own _ rfl _ 121 rfl 3 71 Tryz.underlying121 mpR bM nM (D) rfl hmp ?_) | go_in)
        go_ret
        refine BoolIs.yes (fun m hm => ?_) hb2
        have ha : ApartA kv := HMN.out.eq.1 (by have := HSZ.out; rw [HLK.out]; omega)
        rw [apart_at] at ha
        rw [HKS.out] at ha ⊢
        exact kpA_Ok (n := n3) HKA.out hm (ha m (by rw [HLK.out]; exact hm))
      · have hc1b : (((Maps.size (D) : Int) : Int) == ((n3 : Int) : Int)) = false := by simpa using hc1
        have hc1n : (((Maps.size (D) : Int) : Int) != ((n3 : Int) : Int)) = true := by simpa using hc1
        have HSZ : Hid (¬ (Maps.size D : Int) = (n3 : Int)) := hc1
        have hc1H : Hid (¬ ((Maps.size (D) : Int) = (n3 : Int))) := hc1
        clear hc1
        have hmp := EMmk_2.out
        unfold KnownO at hmp
        go_wp2_with (first | (at_len; refine wpList_len_own _ rfl _ 121 rfl 3 71 Tryz.underlying121 mpR bM nM (D) rfl hmp ?_) | go_in)
        go_ret
        refine BoolIs.no (fun h => ?_) hb2
        have hsz := HSZ.out
        have ha : ApartA kv := apart_at.2 (fun m hm => (h m (by rw [← HLK.out]; exact hm)).2.2.2.2)
        have h2 := HMN.out.eq.2 ha
        rw [HLK.out] at h2
        omega
set_option maxHeartbeats 8000000 in
set_option maxRecDepth 100000 in
theorem bansOk_any (VB : Value) (bl : List (Int × ByteArray × ByteArray × Int)) (B : Nat) (w : World) (h : w.ownsRow B 69 4 VB bl.length (flatBan bl)) (hn : bl.length ≤ 1048576) (hz : ∀ x ∈ bl, x.2.1.size ≤ maxLen ∧ x.2.2.1.size ≤ maxLen) :
    Calls Tryz.prog 33 #[VB] w fun e w' => BoolIs (BansP bl) w e w' := by
  obtain ⟨o4, c4, e4⟩ := slice_of_owns h
  subst e4
  obtain ⟨n4, hn4⟩ : ∃ n, n = bl.length := ⟨_, rfl⟩
  rw [← hn4] at h ⊢
  have HLB : Hid (bl.length = n4) := hn4.symm
  have bn4 : n4 ≤ 1048576 := by rw [hn4]; exact hn
  have HBN : Hid (∀ W, Below w.heap.size w W → W.ownsRow B 69 4 (.slice o4 n4 c4) n4 (flatBan bl)) := fun W hb => owns_below h hb (fun g hg => owns_lt h hg)
  have HBZ : Hid (∀ x ∈ bl, x.2.1.size ≤ maxLen ∧ x.2.2.1.size ≤ maxLen) := hz
  clear hn4 h hn hz
  have hb0 : Below w.heap.size w w := Below.refl _ _
  go_enter Tryz.func33, Tryz.ntmps33
  go_wp2_with fail
  go_loopw [7] (fun i wr => ∃ j : Nat, j ≤ n4 ∧ i = .int .i64 (j : Int) ∧ Hid (Below w.heap.size w (wr)) ∧ Hid (∀ x ∈ bl.take j, BanP x.1 x.2.1 x.2.2.1 x.2.2.2)) (fun i _ => n4 - (intOf i).toNat)
  case atStart => exact ⟨0, Nat.zero_le _, rfl, hb0, fun x hx => by simp at hx⟩
  case round =>
    obtain ⟨j, hj, rfl, HW, HN⟩ := hrel
    by_cases hlt : (j : Int) < (n4 : Int)
    · have hb1 := HW.out
      clear HW hb0
      have hbn := HBN.out _ hb1
      try rw [HLB.out] at hbn
      have hbv := ban_view hbn
      clear hbn
      obtain ⟨g4, hog, hgl, r1, r2, r3, r4⟩ := hbv.2 j (by first | omega | (rw [HLB.out]; omega))
      clear hbv
      subst hog
      obtain ⟨y, hy⟩ : ∃ y, y = banAt bl j := ⟨_, rfl⟩
      rw [← hy] at r1 r2 r3 r4
      have HM : Hid (y ∈ bl) := by show _ ∈ _; rw [hy]; exact banAt_mem bl j (by rw [HLB.out]; omega)
      have HTK : Hid (bl.take (j + 1) = bl.take j ++ [y]) := by show _ = _; rw [hy]; exact take_banAt bl j (by rw [HLB.out]; omega)
      clear hy hgl
      obtain ⟨y0, y1, y2, y3⟩ := y
      dsimp only at r1 r2 r3 r4
      go_upto_region 4 with fail
      obtain ⟨qv1, hqv1⟩ : ∃ q, q = (wr).heap.size := ⟨_, rfl⟩
      obtain ⟨w2, hW2⟩ : ∃ W, W = (wr).alloc (.cells #[.int .i64 y0, .string y1, .string y2, .int .i64 y3] 69) := ⟨_, rfl⟩
      have hz2 : (wr).heap.size = qv1 := hqv1.symm
      first | rw [← hW2, ← hqv1] | rw [← hW2]
      have hs2 : w2.heap.size = qv1 + 1 := by rw [hW2, ← hz2]; simp
      have bw : Below (wr).heap.size (wr) w2 := by rw [hW2]; exact (Below.refl _ _).alloc (Nat.le_refl _) _
      have hb2 := hbt hb1 bw
      have HBv1_2 : Hid ((w2).heap[qv1]? = some (.cells #[.int .i64 y0, .string y1, .string y2, .int .i64 y3] 69)) := by show _ = _; rw [hW2, ← hz2]; exact heap_alloc_new _ _
      clear hb1 bw hW2 hz2
      clear hs2 hqv1
      clear r1 r2 r3 r4
      have cv1_0 : (w2).cell? ⟨qv1, 0, none⟩ = some (.int .i64 y0) := (cell_of HBv1_2.out 0).trans rfl
      have cv1_1 : (w2).cell? ⟨qv1, 1, none⟩ = some (.string y1) := (cell_of HBv1_2.out 1).trans rfl
      have cv1_2 : (w2).cell? ⟨qv1, 2, none⟩ = some (.string y2) := (cell_of HBv1_2.out 2).trans rfl
      have cv1_3 : (w2).cell? ⟨qv1, 3, none⟩ = some (.int .i64 y3) := (cell_of HBv1_2.out 3).trans rfl
      go_wp2_with fail
      refine (implBanOk_any y0 y1 y2 y3 _ (HBZ.out _ HM.out).1 (HBZ.out _ HM.out).2).mono ?_
      rintro e w3 ⟨ub, rfl, hub, bw⟩
      have hb3 := hbt hb2 bw
      have HBv1_3 := hblk HBv1_2 bw
      clear hb2 HBv1_2 bw
      clear cv1_0 cv1_1 cv1_2 cv1_3
      cases ub with
      | false =>
        have HNub : Hid (¬ (BanP y0 y1 y2 y3)) := fun h => nomatch hub.2 h
        clear hub
        go_wp2_with fail
        go_ret
        exact BoolIs.no (fun h => HNub.out ((show BansP bl from h).2 _ HM.out)) hb3
      | true =>
        have HYub : Hid (BanP y0 y1 y2 y3) := hub.1 rfl
        clear hub
        have HN2 : Hid (∀ x ∈ bl.take (j + 1), BanP x.1 x.2.1 x.2.2.1 x.2.2.2) := fun x hx => by
          rw [HTK.out] at hx
          rcases List.mem_append.1 hx with hx | hx
          · exact HN.out x hx
          · rw [List.mem_singleton.1 hx]; exact HYub.out
        go_wp2_with fail
        go_roundw
        case rel => exact ⟨j + 1, by omega, by go_num, hb3, HN2⟩
        case measure => simp [intOf]; omega
    · have hb1 := HW.out
      clear HW hb0
      have HAL : Hid (∀ x ∈ bl, BanP x.1 x.2.1 x.2.2.1 x.2.2.2) := fun x hx => HN.out x (by rw [List.take_of_length_le (by rw [HLB.out]; omega)]; exact hx)
      clear HN
      by_cases hc1 : (n4 : Int) ≤ 5
      · have HB5 : Hid (n4 ≤ 5) := (by have := hc1; show _ ≤ _; omega)
        go_wp2_with fail
        go_ret
        exact BoolIs.yes (⟨by rw [HLB.out]; exact HB5.out, HAL.out⟩ : BansP bl) hb1
      · have HB5 : Hid (¬ n4 ≤ 5) := (by have := hc1; show ¬ _; omega)
        go_wp2_with fail
        go_ret
        exact BoolIs.no (fun h => by have h1 : bl.length ≤ 5 := h.1; have h5 := HB5.out; rw [HLB.out] at h1; omega) hb1
set_option maxHeartbeats 8000000 in
set_option maxRecDepth 100000 in
theorem implShelfOk_any (v1 v2 V VB : Value) (kv : List (KpD × Value × Value × Value)) (s : ShD) (B : Nat) (w : World) (h : ShelfO w B v1 v2 V VB kv s) (hz : ShSmall s) :
    Calls Tryz.prog 8 #[.agg #[v1, v2, V, VB, .int .i64 s.nx, .int .i64 s.sq]] w fun e w' => BoolIs (ShelfP s) w e w' := by
  obtain ⟨o1, c1, e1⟩ := slice_of_owns h.disk.cells
  obtain ⟨o2, c2, e2⟩ := slice_of_owns h.disk.pend
  obtain ⟨o3, c3, e3⟩ := slice_of_owns h.kept.row
  obtain ⟨o4, c4, e4⟩ := slice_of_owns h.bans
  subst e1 e2 e3 e4
  obtain ⟨n1, hn1⟩ : ∃ n, n = s.cs.length := ⟨_, rfl⟩
  obtain ⟨n2, hn2⟩ : ∃ n, n = s.ws.length := ⟨_, rfl⟩
  obtain ⟨n3, hn3⟩ : ∃ n, n = kv.length := ⟨_, rfl⟩
  obtain ⟨n4, hn4⟩ : ∃ n, n = s.bl.length := ⟨_, rfl⟩
  rw [← hn1, ← hn2, ← hn3, ← hn4] at h ⊢
  have HLN : Hid (s.cs.length = n1 ∧ s.ws.length = n2 ∧ kv.length = n3 ∧ s.bl.length = n4) := ⟨hn1.symm, hn2.symm, hn3.symm, hn4.symm⟩
  have HKS : Hid (kv.map (·.1) = s.ks) := h.2
  have HZ : Hid (ShSmall s) := hz
  have bn1 : n1 ≤ 1048576 := by rw [hn1]; exact hz.c
  have bn2 : n2 ≤ 1048576 := by rw [hn2]; exact hz.w
  have bn3 : n3 ≤ 1048576 := by rw [hn3, ← List.length_map (f := (·.1)), h.2]; exact hz.k
  have bn4 : n4 ≤ 1048576 := by rw [hn4]; exact hz.b
  have HSH : Hid (∀ W, Below w.heap.size w W → ShelfO W B (.slice o1 n1 c1) (.slice o2 n2 c2) (.slice o3 n3 c3) (.slice o4 n4 c4) kv s) := fun W hb => h.below hb
  have HKP : Hid (∀ W, Below w.heap.size w W → KeptsO W B (.slice o3 n3 c3) kv) := fun W hb => (h.below hb).kept
  have HLK : Hid (kv.length = n3) := hn3.symm
  clear hn1 hn2 hn3 hn4 h hz
  have hb0 : Below w.heap.size w w := Below.refl _ _
  go_enter Tryz.func8, Tryz.ntmps8
  go_upto_region 1 with fail
  obtain ⟨qv1, hqv1⟩ : ∃ q, q = (w).heap.size := ⟨_, rfl⟩
  obtain ⟨w1, hW1⟩ : ∃ W, W = (w).alloc (.cells #[.slice o1 n1 c1, .slice o2 n2 c2, .slice o3 n3 c3, .slice o4 n4 c4, .int .i64 s.nx, .int .i64 s.sq] 38) := ⟨_, rfl⟩
  have hz1 : (w).heap.size = qv1 := hqv1.symm
  first | rw [← hW1, ← hqv1] | rw [← hW1]
  have hs1 : w1.heap.size = qv1 + 1 := by rw [hW1, ← hz1]; simp
  have bw : Below (w).heap.size (w) w1 := by rw [hW1]; exact (Below.refl _ _).alloc (Nat.le_refl _) _
  have hb1 := hbt hb0 bw
  have HBv1_1 : Hid ((w1).heap[qv1]? = some (.cells #[.slice o1 n1 c1, .slice o2 n2 c2, .slice o3 n3 c3, .slice o4 n4 c4, .int .i64 s.nx, .int .i64 s.sq] 38)) := by show _ = _; rw [hW1, ← hz1]; exact heap_alloc_new _ _
  clear hb0 bw hW1 hz1
  clear hs1 hqv1
  have cv1_0 : (w1).cell? ⟨qv1, 0, none⟩ = some (.slice o1 n1 c1) := (cell_of HBv1_1.out 0).trans rfl
  have cv1_1 : (w1).cell? ⟨qv1, 1, none⟩ = some (.slice o2 n2 c2) := (cell_of HBv1_1.out 1).trans rfl
  go_wp2_with fail
  refine (implDiskOk_any _ _ n1 s.cs n2 s.ws B _ (by have hd := (HSH.out _ hb1).disk; rw [HLN.out.1, HLN.out.2.1] at hd; exact hd) (by omega) (by omega)).mono ?_
  rintro e w2 ⟨ud, rfl, hud, bw⟩
  have hb2 := hbt hb1 bw
  have HBv1_2 := hblk HBv1_1 bw
  clear hb1 HBv1_1 bw
  clear cv1_0 cv1_1
  cases ud with
  | false =>
    have HNud : Hid (¬ (DiskP s.cs s.ws)) := fun h => nomatch hud.2 h
    clear hud
    go_wp2_with fail
    go_ret
    exact BoolIs.no (fun h => HNud.out h.1) hb2
  | true =>
    have HYud : Hid (DiskP s.cs s.ws) := hud.1 rfl
    clear hud
    have cv1_4 : (w2).cell? ⟨qv1, 4, none⟩ = some (.int .i64 s.nx) := (cell_of HBv1_2.out 4).trans rfl
    go_wp2_with fail
    refine (isObjectCell_any s.nx _).mono ?_
    rintro e w3 ⟨unx, rfl, hunx, bw⟩
    have hb3 := hbt hb2 bw
    have HBv1_3 := hblk HBv1_2 bw
    clear hb2 HBv1_2 bw
    clear cv1_4
    cases unx with
    | false =>
      have HNunx : Hid (¬ (5 ≤ s.nx ∧ s.nx ≤ 19)) := fun h => nomatch hunx.2 h
      clear hunx
      go_wp2_with fail
      go_ret
      exact BoolIs.no (fun h => HNunx.out h.2.2.1) hb3
    | true =>
      have HYunx : Hid (5 ≤ s.nx ∧ s.nx ≤ 19) := hunx.1 rfl
      clear hunx
      by_cases hc1 : s.sq < 1
      · have HQ1 : Hid (s.sq < 1) := hc1
        have cv1_5 : (w3).cell? ⟨qv1, 5, none⟩ = some (.int .i64 s.sq) := (cell_of HBv1_3.out 5).trans rfl
        go_wp2_with fail
        go_ret
        exact BoolIs.no (fun h => by have h1 := HQ1.out; have h2 := h.2.2.2.1; omega) hb3
      · have HQ1 : Hid (¬ s.sq < 1) := hc1
        have cv1_5 : (w3).cell? ⟨qv1, 5, none⟩ = some (.int .i64 s.sq) := (cell_of HBv1_3.out 5).trans rfl
        by_cases hc2 : 100000 < s.sq
        · have HQ2 : Hid (100000 < s.sq) := hc2
          go_wp2_with fail
          go_ret
          exact BoolIs.no (fun h => by have h1 := HQ2.out; have h2 := h.2.2.2.1; omega) hb3
        · have HQ2 : Hid (¬ 100000 < s.sq) := hc2
          have cv1_2 : (w3).cell? ⟨qv1, 2, none⟩ = some (.slice o3 n3 c3) := (cell_of HBv1_3.out 2).trans rfl
          go_wp2_with fail
          refine (keptOk_any _ kv s.sq B _ (HKP.out _ hb3) (by rw [HLK.out]; exact bn3) (fun x hx => HZ.out.kv HKS.out hx)).mono ?_
          rintro e w4 ⟨uk, rfl, huk, bw⟩
          have hb4 := hbt hb3 bw
          have HBv1_4 := hblk HBv1_3 bw
          clear hb3 HBv1_3 bw
          clear cv1_5 cv1_2
          cases uk with
          | false =>
            have HNuk : Hid (¬ (∀ m, m < kv.length → KpOk (kv.map (·.1)) s.sq m)) := fun h => nomatch huk.2 h
            clear huk
            go_wp2_with fail
            go_ret
            exact BoolIs.no (fun h => HNuk.out (fun m hm => by rw [HKS.out]; exact h.2.2.2.2.2 m (by rw [← HKS.out, List.length_map]; exact hm))) hb4
          | true =>
            have HYuk : Hid (∀ m, m < kv.length → KpOk (kv.map (·.1)) s.sq m) := huk.1 rfl
            clear huk
            have cv1_3 : (w4).cell? ⟨qv1, 3, none⟩ = some (.slice o4 n4 c4) := (cell_of HBv1_4.out 3).trans rfl
            go_wp2_with fail
            refine (bansOk_any _ s.bl B _ (by have hd := (HSH.out _ hb4).bans; exact hd) HZ.out.b HZ.out.bm).mono ?_
            rintro e w5 ⟨ub, rfl, hub, bw⟩
            have hb5 := hbt hb4 bw
            have HBv1_5 := hblk HBv1_4 bw
            clear hb4 HBv1_4 bw
            clear cv1_3
            cases ub with
            | false =>
              have HNub : Hid (¬ (BansP s.bl)) := fun h => nomatch hub.2 h
              clear hub
              go_wp2_with fail
              go_ret
              exact BoolIs.no (fun h => HNub.out ⟨h.2.1, h.2.2.2.2.1⟩) hb5
            | true =>
              have HYub : Hid (BansP s.bl) := hub.1 rfl
              clear hub
              go_wp2_with fail
              go_ret
              exact BoolIs.yes ⟨HYud.out, HYub.out.1, HYunx.out, ⟨by have := HQ1.out; omega, by have := HQ2.out; omega⟩, HYub.out.2, fun i hi => by have hk := HYuk.out; rw [HKS.out] at hk; exact hk i (by rw [← HKS.out, List.length_map] at hi; exact hi)⟩ hb5

end Go.Proofs.YtcipbkkpkhameaaGreat

namespace Go.Proofs.YtcipbkkpkhameaaGreat
open Go.RowKit
open Go.Lib hiding intOf

set_option maxHeartbeats 8000000 in
set_option maxRecDepth 100000 in
theorem copiedResp_any (st : Int) (u : Value) (d : ByteArray) (k base : Nat) (gs : List (ByteArray × ByteArray)) (w : World) (hu : FieldsV w base u k gs) (hk : k ≤ 1999999) (hc2 : CopyF gs) (hd : d.size ≤ 281474976710656) :
    Calls Tryz.prog 92 #[.agg #[.int .i64 st, u, .string d]] w fun e w' => ∃ v, e = .returned (.agg #[.int .i64 st, v, .string d]) ∧ w'.ownsRow w.heap.size 132 2 v gs.length (flatF gs) ∧ Below w.heap.size w w' := by
  obtain ⟨ob, cb, rfl, _⟩ := hu.slice
  have HV2 : Hid (∀ W, Below w.heap.size w W → FieldsV W base (.slice ob k cb) k gs) := fun W h => hu.below h
  have HLG : Hid (gs.length = k) := hu.len
  have HC2 : Hid (CopyF gs) := hc2
  have HDM : Hid (d.size ≤ 281474976710656) := hd
  clear hu hc2 hd
  have hb0 : Below w.heap.size w w := Below.refl _ _
  go_enter Tryz.func92, Tryz.ntmps92
  go_upto_region 1 with fail
  obtain ⟨qv1, hqv1⟩ : ∃ q, q = (w).heap.size := ⟨_, rfl⟩
  obtain ⟨w1, hW1⟩ : ∃ W, W = (w).alloc (.cells #[.int .i64 st, .slice ob k cb, .string d] 48) := ⟨_, rfl⟩
  have hz1 : (w).heap.size = qv1 := hqv1.symm
  first | rw [← hW1, ← hqv1] | rw [← hW1]
  have hs1 : w1.heap.size = qv1 + 1 := by rw [hW1, ← hz1]; simp
  have bw : Below (w).heap.size (w) w1 := by rw [hW1]; exact (Below.refl _ _).alloc (Nat.le_refl _) _
  have hb1 := hbt hb0 bw
  have HBv1_1 : Hid ((w1).heap[qv1]? = some (.cells #[.int .i64 st, .slice ob k cb, .string d] 48)) := by show _ = _; rw [hW1, ← hz1]; exact heap_alloc_new _ _
  clear hb0 bw hW1 hz1
  obtain ⟨qv2, hqv2⟩ : ∃ q, q = qv1 + 1 := ⟨_, rfl⟩
  obtain ⟨w2, hW2⟩ : ∃ W, W = (w1).alloc (.cells #[.int .i64 0, .slice none 0 0, .string ⟨#[]⟩] 48) := ⟨_, rfl⟩
  have hz2 : (w1).heap.size = qv2 := by rw [hqv2]; exact hs1
  first | rw [← hW2, ← hqv2] | rw [← hW2]
  have hs2 : w2.heap.size = qv2 + 1 := by rw [hW2, ← hz2]; simp
  have bw : Below (w1).heap.size (w1) w2 := by rw [hW2]; exact (Below.refl _ _).alloc (Nat.le_refl _) _
  have hb2 := hbt hb1 bw
  have HBv1_2 := hblk HBv1_1 bw
  have HNv1v2 : Hid (qv1 ≠ qv2) := fun e => by have h1 := (Array.getElem?_eq_some_iff.1 HBv1_1.out).1; omega
  have HBv2_2 : Hid ((w2).heap[qv2]? = some (.cells #[.int .i64 0, .slice none 0 0, .string ⟨#[]⟩] 48)) := by show _ = _; rw [hW2, ← hz2]; exact heap_alloc_new _ _
  have HGv2 : Hid (w.heap.size ≤ qv2) := by show _ ≤ _; rw [← hz2]; exact hb1.size
  clear hb1 HBv1_1 bw hW2 hz2
  clear hs2 hqv2 hs1 hqv1
  go_upto_region 1 with fail
  refine wp_region_held_drew (S := fun W => W.heap[qv1]? = some (.cells #[.int .i64 st, .slice ob k cb, .string d] 48)) (by kernel_rfl) HBv1_2.out (fun _ => ?_)
  obtain ⟨w3, hX⟩ : ∃ X, X = w2.drew := ⟨_, rfl⟩
  have bw : Below w2.heap.size w2 w3 := by rw [hX]; exact (Below.refl _ _).drew
  rw [← hX]
  have hb3 := hbt hb2 bw
  have HBv1_3 := hblk HBv1_2 bw
  have HBv2_3 := hblk HBv2_2 bw
  have hS3 : w3.heap[qv1]? = some (.cells #[.int .i64 st, .slice ob k cb, .string d] 48) := HBv1_3.out
  clear hb2 HBv1_2 HBv2_2 bw hX
  refine tkP 0 (.pointer (some ⟨qv1, 0, none⟩)) 3 rfl rfl hS3 ?_
  go_frame
  refine tkL 1 (.int .i64 st) 4 rfl rfl (Or.inl ⟨by rfl, by intro W hW; have hhv1 := hW; have y0 := (cell_of hhv1 0).trans rfl; go_simp⟩) hS3 ?_
  go_frame
  refine tkP 2 (.pointer (some ⟨qv1, 1, none⟩)) 5 rfl rfl hS3 ?_
  go_frame
  refine tkL 3 (.slice ob k cb) 6 rfl rfl (Or.inl ⟨by rfl, by intro W hW; have hhv1 := hW; have y1 := (cell_of hhv1 1).trans rfl; go_simp⟩) hS3 ?_
  go_frame
  refine tkP 5 (.pointer (some ⟨qv1, 2, none⟩)) 8 rfl rfl hS3 ?_
  go_frame
  refine tkL 6 (.string d) 9 rfl rfl (Or.inl ⟨by rfl, by intro W hW; have hhv1 := hW; have y2 := (cell_of hhv1 2).trans rfl; go_simp⟩) hS3 ?_
  go_frame
  refine wpAnyH_ready (rs := [4]) (by kernel_rfl) (by simp) ?_
  refine AllReadyH.cons rfl (fun K hK => ?_) AllReadyH.nil
  go_simp
  refine (copied_any _ k base gs _ (HV2.out _ hb3) (by omega) HC2.out).mono ?_
  rintro e w4 ⟨vv, rfl, ownG, bw⟩
  obtain ⟨oG, pG, rfl⟩ := slice_of_owns ownG
  rw [HLG.out] at ownG ⊢
  have hb4 := hbt hb3 bw
  have HBv1_4 := hblk HBv1_3 bw
  have HBv2_4 := hblk HBv2_3 bw
  have HOG_4 : Hid ((w4).ownsRow w.heap.size 132 2 (.slice oG k pG) k (flatF gs)) := owns_wide ownG hb3.size
  clear ownG
  clear hb3 HBv1_3 HBv2_3 bw
  have hS4 : w4.heap[qv1]? = some (.cells #[.int .i64 st, .slice ob k cb, .string d] 48) := HBv1_4.out
  refine hK.out _ _ hS4 (fun _ => ?_)
  clear hK K hS3
  refine wpAnyH_ready (rs := [7]) (by kernel_rfl) (by simp) ?_
  refine AllReadyH.cons rfl (fun K hK => ?_) AllReadyH.nil
  go_simp
  refine (clone_any d _ HDM.out).mono ?_
  rintro e w5 ⟨rfl, bw⟩
  have hb5 := hbt hb4 bw
  have HOG_5 := hown HOG_4 bw
  have HBv1_5 := hblk HBv1_4 bw
  have HBv2_5 := hblk HBv2_4 bw
  clear hb4 HOG_4 HBv1_4 HBv2_4 bw
  have hS5 : w5.heap[qv1]? = some (.cells #[.int .i64 st, .slice ob k cb, .string d] 48) := HBv1_5.out
  refine hK.out _ _ hS5 (fun _ => ?_)
  clear hK K hS4
  refine tkP 8 (.agg #[.int .i64 st, .slice oG k pG, .string d]) 11 rfl rfl hS5 ?_
  go_frame
  refine wpAnyH_ready (rs := [9]) (by kernel_rfl) (by simp) ?_
  refine AllReadyH.cons rfl (fun K hK => ?_) AllReadyH.nil
  have ce0 : (w5).cell? ⟨qv2, 0, none⟩ = some (.int .i64 0) := (cell_of HBv2_5.out 0).trans rfl
  have fe0 : (w5).frozen? ⟨qv2, 0, none⟩ = false := frozen_of HBv2_5.out 0
  have ce1 : (w5).cell? ⟨qv2, 1, none⟩ = some (.slice none 0 0) := (cell_of HBv2_5.out 1).trans rfl
  have fe1 : (w5).frozen? ⟨qv2, 1, none⟩ = false := frozen_of HBv2_5.out 1
  have ce2 : (w5).cell? ⟨qv2, 2, none⟩ = some (.string ⟨#[]⟩) := (cell_of HBv2_5.out 2).trans rfl
  have fe2 : (w5).frozen? ⟨qv2, 2, none⟩ = false := frozen_of HBv2_5.out 2
  obtain ⟨w6, hY⟩ : ∃ Y, Y = (((w5.setCell ⟨qv2, 0, none⟩ (.int .i64 st)).setCell ⟨qv2, 1, none⟩ (.slice oG k pG)).setCell ⟨qv2, 2, none⟩ (.string d)) := ⟨_, rfl⟩
  have HY : Hid ((((w5.setCell ⟨qv2, 0, none⟩ (.int .i64 st)).setCell ⟨qv2, 1, none⟩ (.slice oG k pG)).setCell ⟨qv2, 2, none⟩ (.string d)) = w6) := hY.symm
  have hb6 : Below w.heap.size w (w6) := by rw [hY]; exact (((hb5.setCell (p := ⟨qv2, 0, none⟩) HGv2.out _).setCell (p := ⟨qv2, 1, none⟩) HGv2.out _).setCell (p := ⟨qv2, 2, none⟩) HGv2.out _)
  have HOG_6 : Hid ((w6).ownsRow w.heap.size 132 2 (.slice oG k pG) k (flatF gs)) := by show World.ownsRow _ _ _ _ _ _ _; rw [hY]; exact owns_same HOG_5.out (fun g hg => by have hne := own_ne HOG_5.out HBv2_5.out (by decide) g hg; rw [heap_setCell_other _ _ g _ hne, heap_setCell_other _ _ g _ hne, heap_setCell_other _ _ g _ hne])
  have HBv1_6 : Hid ((w6).heap[qv1]? = some (.cells #[.int .i64 st, .slice ob k cb, .string d] 48)) := by show _ = _; rw [hY, heap_setCell_other _ _ _ _ HNv1v2.out, heap_setCell_other _ _ _ _ HNv1v2.out, heap_setCell_other _ _ _ _ HNv1v2.out]; exact HBv1_5.out
  have HBv2_6 : Hid ((w6).heap[qv2]? = some (.cells #[.int .i64 st, .slice oG k pG, .string d] 48)) := by show _ = _; rw [hY]; have h := (heap_set _ qv2 2 _ _ _ (.string d) (heap_set _ qv2 1 _ _ _ (.slice oG k pG) (heap_set _ qv2 0 _ _ _ (.int .i64 st) HBv2_5.out))); simpa using h
  clear hY hb5 HOG_5 HBv1_5 HBv2_5
  go_simp
  rw [HY.out]
  have hS6 : w6.heap[qv1]? = some (.cells #[.int .i64 st, .slice ob k cb, .string d] 48) := HBv1_6.out
  refine hK.out _ _ hS6 (fun _ => ?_)
  clear hK K HY hS5 ce0 fe0 ce1 fe1 ce2 fe2
  clear hS6
  refine wpAnyH_done (by kernel_rfl) ?_ _
  go_wp2_with fail
  have kv2_0 : (w6).cell? ⟨qv2, 0, none⟩ = some (.int .i64 st) := (cell_of HBv2_6.out 0).trans rfl
  have kv2_1 : (w6).cell? ⟨qv2, 1, none⟩ = some (.slice oG k pG) := (cell_of HBv2_6.out 1).trans rfl
  have kv2_2 : (w6).cell? ⟨qv2, 2, none⟩ = some (.string d) := (cell_of HBv2_6.out 2).trans rfl
  refine bodyPost_ret (v := .agg #[.int .i64 st, .slice oG k pG, .string d]) (by simp [results, Tryz.results92, go_sem, kv2_0, kv2_1, kv2_2]) rfl ?_
  refine ⟨_, rfl, ?_, hb6⟩
  rw [HLG.out]
  exact HOG_6.out
set_option maxHeartbeats 8000000 in
set_option maxRecDepth 100000 in
/-- An object copied, into memory of its own. -/
theorem copiedObject_k (k : KpD) (v1 v2 v3 : Value) (w : World) (h : KpRead w k v1 v2 v3) (hs : KpSmall k) :
    Calls Tryz.prog 45 #[.agg #[.string k.p, v1, v2, .int .i64 k.st, v3, .string k.b, .int .i64 k.t]] w fun e w' => ∃ u1 u2 u3, e = .returned (.agg #[.string k.p, u1, u2, .int .i64 k.st, u3, .string k.b, .int .i64 k.t]) ∧ ObjO w' w.heap.size u1 k.xs.length k.xs u2 k.ys.length k.ys u3 k.fs.length k.fs ∧ Below w.heap.size w w' := by
  obtain ⟨B, h⟩ := h
  have ho : ObjO w B v1 k.xs.length k.xs v2 k.ys.length k.ys v3 k.fs.length k.fs := rows_objO h
  obtain ⟨o1, c1, rfl⟩ := slice_of_owns ho.names
  obtain ⟨o2, c2, rfl⟩ := slice_of_owns ho.vals
  obtain ⟨o3, c3, rfl⟩ := slice_of_owns ho.flds
  have HT1 : Hid (∀ W, Below w.heap.size w W → TextsA W o1 k.xs.length k.xs) := fun W hb => (texts_view ho.names).below hb
  have HT2 : Hid (∀ W, Below w.heap.size w W → TextsA W o2 k.ys.length k.ys) := fun W hb => (texts_view ho.vals).below hb
  have HV3 : Hid (∀ W, Below w.heap.size w W → FieldsV W B (.slice o3 k.fs.length c3) k.fs.length k.fs) := fun W hb => (FieldsV.of_owns ho.flds).below hb
  have HS : Hid (KpSmall k) := hs
  clear h ho hs
  have hb0 : Below w.heap.size w w := Below.refl _ _
  go_enter Tryz.func45, Tryz.ntmps45
  go_upto_region 1 with fail
  obtain ⟨qv1, hqv1⟩ : ∃ q, q = (w).heap.size := ⟨_, rfl⟩
  obtain ⟨w1, hW1⟩ : ∃ W, W = (w).alloc (.cells #[.string k.p, .slice o1 k.xs.length c1, .slice o2 k.ys.length c2, .int .i64 k.st, .slice o3 k.fs.length c3, .string k.b, .int .i64 k.t] 50) := ⟨_, rfl⟩
  have hz1 : (w).heap.size = qv1 := hqv1.symm
  first | rw [← hW1, ← hqv1] | rw [← hW1]
  have hs1 : w1.heap.size = qv1 + 1 := by rw [hW1, ← hz1]; simp
  have bw : Below (w).heap.size (w) w1 := by rw [hW1]; exact (Below.refl _ _).alloc (Nat.le_refl _) _
  have hb1 := hbt hb0 bw
  have HBv1_1 : Hid ((w1).heap[qv1]? = some (.cells #[.string k.p, .slice o1 k.xs.length c1, .slice o2 k.ys.length c2, .int .i64 k.st, .slice o3 k.fs.length c3, .string k.b, .int .i64 k.t] 50)) := by show _ = _; rw [hW1, ← hz1]; exact heap_alloc_new _ _
  clear hb0 bw hW1 hz1
  obtain ⟨qv2, hqv2⟩ : ∃ q, q = qv1 + 1 := ⟨_, rfl⟩
  obtain ⟨w2, hW2⟩ : ∃ W, W = (w1).alloc (.cells #[.string ⟨#[]⟩, .slice none 0 0, .slice none 0 0, .int .i64 0, .slice none 0 0, .string ⟨#[]⟩, .int .i64 0] 50) := ⟨_, rfl⟩
  have hz2 : (w1).heap.size = qv2 := by rw [hqv2]; exact hs1
  first | rw [← hW2, ← hqv2] | rw [← hW2]
  have hs2 : w2.heap.size = qv2 + 1 := by rw [hW2, ← hz2]; simp
  have bw : Below (w1).heap.size (w1) w2 := by rw [hW2]; exact (Below.refl _ _).alloc (Nat.le_refl _) _
  have hb2 := hbt hb1 bw
  have HBv1_2 := hblk HBv1_1 bw
  have HNv1v2 : Hid (qv1 ≠ qv2) := fun e => by have h1 := (Array.getElem?_eq_some_iff.1 HBv1_1.out).1; omega
  have HBv2_2 : Hid ((w2).heap[qv2]? = some (.cells #[.string ⟨#[]⟩, .slice none 0 0, .slice none 0 0, .int .i64 0, .slice none 0 0, .string ⟨#[]⟩, .int .i64 0] 50)) := by show _ = _; rw [hW2, ← hz2]; exact heap_alloc_new _ _
  have HGv2 : Hid (w.heap.size ≤ qv2) := by show _ ≤ _; rw [← hz2]; exact hb1.size
  clear hb1 HBv1_1 bw hW2 hz2
  clear hs2 hqv2 hs1 hqv1
  go_upto_region 1 with fail
  refine wp_region_held_drew (S := fun W => W.heap[qv1]? = some (.cells #[.string k.p, .slice o1 k.xs.length c1, .slice o2 k.ys.length c2, .int .i64 k.st, .slice o3 k.fs.length c3, .string k.b, .int .i64 k.t] 50)) (by kernel_rfl) HBv1_2.out (fun _ => ?_)
  obtain ⟨w3, hX⟩ : ∃ X, X = w2.drew := ⟨_, rfl⟩
  have bw : Below w2.heap.size w2 w3 := by rw [hX]; exact (Below.refl _ _).drew
  rw [← hX]
  have hb3 := hbt hb2 bw
  have HBv1_3 := hblk HBv1_2 bw
  have HBv2_3 := hblk HBv2_2 bw
  have hS3 : w3.heap[qv1]? = some (.cells #[.string k.p, .slice o1 k.xs.length c1, .slice o2 k.ys.length c2, .int .i64 k.st, .slice o3 k.fs.length c3, .string k.b, .int .i64 k.t] 50) := HBv1_3.out
  clear hb2 HBv1_2 HBv2_2 bw hX
  refine tkP 0 (.pointer (some ⟨qv1, 0, none⟩)) 3 rfl rfl hS3 ?_
  go_frame
  refine tkL 1 (.string k.p) 4 rfl rfl (Or.inl ⟨by rfl, by intro W hW; have hhv1 := hW; have y0 := (cell_of hhv1 0).trans rfl; go_simp⟩) hS3 ?_
  go_frame
  refine tkP 3 (.pointer (some ⟨qv1, 1, none⟩)) 6 rfl rfl hS3 ?_
  go_frame
  refine tkL 4 (.slice o1 k.xs.length c1) 7 rfl rfl (Or.inl ⟨by rfl, by intro W hW; have hhv1 := hW; have y1 := (cell_of hhv1 1).trans rfl; go_simp⟩) hS3 ?_
  go_frame
  refine tkP 6 (.pointer (some ⟨qv1, 2, none⟩)) 9 rfl rfl hS3 ?_
  go_frame
  refine tkL 7 (.slice o2 k.ys.length c2) 10 rfl rfl (Or.inl ⟨by rfl, by intro W hW; have hhv1 := hW; have y2 := (cell_of hhv1 2).trans rfl; go_simp⟩) hS3 ?_
  go_frame
  refine tkP 9 (.pointer (some ⟨qv1, 3, none⟩)) 12 rfl rfl hS3 ?_
  go_frame
  refine tkL 10 (.agg #[.int .i64 k.st, .slice o3 k.fs.length c3, .string k.b]) 13 rfl rfl (Or.inl ⟨by rfl, by intro W hW; have hhv1 := hW; have y3 := (cell_of hhv1 3).trans rfl; have y4 := (cell_of hhv1 4).trans rfl; have y5 := (cell_of hhv1 5).trans rfl; go_simp⟩) hS3 ?_
  go_frame
  refine tkP 12 (.pointer (some ⟨qv1, 6, none⟩)) 15 rfl rfl hS3 ?_
  go_frame
  refine tkL 13 (.int .i64 k.t) 16 rfl rfl (Or.inl ⟨by rfl, by intro W hW; have hhv1 := hW; have y6 := (cell_of hhv1 6).trans rfl; go_simp⟩) hS3 ?_
  go_frame
  refine wpAnyH_ready (rs := [2]) (by kernel_rfl) (by simp) ?_
  refine AllReadyH.cons rfl (fun K hK => ?_) AllReadyH.nil
  go_simp
  refine (clone_any k.p _ (by have := HS.out.1.1; omega)).mono ?_
  rintro e w4 ⟨rfl, bw⟩
  have hb4 := hbt hb3 bw
  have HBv1_4 := hblk HBv1_3 bw
  have HBv2_4 := hblk HBv2_3 bw
  clear hb3 HBv1_3 HBv2_3 bw
  have hS4 : w4.heap[qv1]? = some (.cells #[.string k.p, .slice o1 k.xs.length c1, .slice o2 k.ys.length c2, .int .i64 k.st, .slice o3 k.fs.length c3, .string k.b, .int .i64 k.t] 50) := HBv1_4.out
  refine hK.out _ _ hS4 (fun _ => ?_)
  clear hK K hS3
  refine wpAnyH_ready (rs := [5]) (by kernel_rfl) (by simp) ?_
  refine AllReadyH.cons rfl (fun K hK => ?_) AllReadyH.nil
  go_simp
  refine (copiedTexts_any _ _ _ k.xs _ (HT1.out _ hb4) (by have := HS.out.2.1.1; omega) HS.out.2.1.2).mono ?_
  rintro e w5 ⟨va, rfl, ownNN, bw⟩
  obtain ⟨oNN, pNN, rfl⟩ := slice_of_owns ownNN
  have hb5 := hbt hb4 bw
  have HBv1_5 := hblk HBv1_4 bw
  have HBv2_5 := hblk HBv2_4 bw
  have HONN_5 : Hid ((w5).ownsRow w.heap.size 9 1 (.slice oNN k.xs.length pNN) k.xs.length (k.xs.map Value.string)) := owns_wide ownNN hb4.size
  have HINN : Hid (∀ g, (Value.ownBlock (.slice oNN k.xs.length pNN)) = some g → g < (w5).heap.size) := fun g hg => owns_lt ownNN hg
  clear ownNN
  clear hb4 HBv1_4 HBv2_4 bw
  have hS5 : w5.heap[qv1]? = some (.cells #[.string k.p, .slice o1 k.xs.length c1, .slice o2 k.ys.length c2, .int .i64 k.st, .slice o3 k.fs.length c3, .string k.b, .int .i64 k.t] 50) := HBv1_5.out
  refine hK.out _ _ hS5 (fun _ => ?_)
  clear hK K hS4
  refine wpAnyH_ready (rs := [8]) (by kernel_rfl) (by simp) ?_
  refine AllReadyH.cons rfl (fun K hK => ?_) AllReadyH.nil
  go_simp
  refine (copiedTexts_any _ _ _ k.ys _ (HT2.out _ hb5) (by have := HS.out.2.2.1.1; omega) HS.out.2.2.1.2).mono ?_
  rintro e w6 ⟨va, rfl, ownVV, bw⟩
  obtain ⟨oVV, pVV, rfl⟩ := slice_of_owns ownVV
  have hb6 := hbt hb5 bw
  have HM6 : Hid ((w5).heap.size ≤ (w6).heap.size) := bw.size
  have HONN_6 := hown HONN_5 bw
  have HBv1_6 := hblk HBv1_5 bw
  have HBv2_6 := hblk HBv2_5 bw
  have HOVV_6 : Hid ((w6).ownsRow w.heap.size 9 1 (.slice oVV k.ys.length pVV) k.ys.length (k.ys.map Value.string)) := owns_wide ownVV hb5.size
  have LOVV : Hid (∀ g, (Value.ownBlock (.slice oVV k.ys.length pVV)) = some g → (w5).heap.size ≤ g) := fun g hg => owns_ge ownVV hg
  clear ownVV
  clear hb5 HONN_5 HBv1_5 HBv2_5 bw
  have hS6 : w6.heap[qv1]? = some (.cells #[.string k.p, .slice o1 k.xs.length c1, .slice o2 k.ys.length c2, .int .i64 k.st, .slice o3 k.fs.length c3, .string k.b, .int .i64 k.t] 50) := HBv1_6.out
  refine hK.out _ _ hS6 (fun _ => ?_)
  clear hK K hS5
  refine wpAnyH_ready (rs := [11]) (by kernel_rfl) (by simp) ?_
  refine AllReadyH.cons rfl (fun K hK => ?_) AllReadyH.nil
  go_simp
  refine (copiedResp_any k.st _ k.b _ B k.fs _ (HV3.out _ hb6) (by have := HS.out.2.2.2.1; omega) (small_copy HS.out) (by have := HS.out.1.2; omega)).mono ?_
  rintro e w7 ⟨va, rfl, ownFF, bw⟩
  obtain ⟨oFF, pFF, rfl⟩ := slice_of_owns ownFF
  have hb7 := hbt hb6 bw
  have HONN_7 := hown HONN_6 bw
  have HOVV_7 := hown HOVV_6 bw
  have HBv1_7 := hblk HBv1_6 bw
  have HBv2_7 := hblk HBv2_6 bw
  have HOFF_7 : Hid ((w7).ownsRow w.heap.size 132 2 (.slice oFF k.fs.length pFF) k.fs.length (flatF k.fs)) := owns_wide ownFF hb6.size
  clear ownFF
  clear hb6 HONN_6 HOVV_6 HBv1_6 HBv2_6 bw
  have hS7 : w7.heap[qv1]? = some (.cells #[.string k.p, .slice o1 k.xs.length c1, .slice o2 k.ys.length c2, .int .i64 k.st, .slice o3 k.fs.length c3, .string k.b, .int .i64 k.t] 50) := HBv1_7.out
  refine hK.out _ _ hS7 (fun _ => ?_)
  clear hK K hS6
  refine tkP 14 (.agg #[.string k.p, .slice oNN k.xs.length pNN, .slice oVV k.ys.length pVV, .int .i64 k.st, .slice oFF k.fs.length pFF, .string k.b, .int .i64 k.t]) 17 rfl rfl hS7 ?_
  go_frame
  refine wpAnyH_ready (rs := [15]) (by kernel_rfl) (by simp) ?_
  refine AllReadyH.cons rfl (fun K hK => ?_) AllReadyH.nil
  have ce0 : (w7).cell? ⟨qv2, 0, none⟩ = some (.string ⟨#[]⟩) := (cell_of HBv2_7.out 0).trans rfl
  have fe0 : (w7).frozen? ⟨qv2, 0, none⟩ = false := frozen_of HBv2_7.out 0
  have ce1 : (w7).cell? ⟨qv2, 1, none⟩ = some (.slice none 0 0) := (cell_of HBv2_7.out 1).trans rfl
  have fe1 : (w7).frozen? ⟨qv2, 1, none⟩ = false := frozen_of HBv2_7.out 1
  have ce2 : (w7).cell? ⟨qv2, 2, none⟩ = some (.slice none 0 0) := (cell_of HBv2_7.out 2).trans rfl
  have fe2 : (w7).frozen? ⟨qv2, 2, none⟩ = false := frozen_of HBv2_7.out 2
  have ce3 : (w7).cell? ⟨qv2, 3, none⟩ = some (.int .i64 0) := (cell_of HBv2_7.out 3).trans rfl
  have fe3 : (w7).frozen? ⟨qv2, 3, none⟩ = false := frozen_of HBv2_7.out 3
  have ce4 : (w7).cell? ⟨qv2, 4, none⟩ = some (.slice none 0 0) := (cell_of HBv2_7.out 4).trans rfl
  have fe4 : (w7).frozen? ⟨qv2, 4, none⟩ = false := frozen_of HBv2_7.out 4
  have ce5 : (w7).cell? ⟨qv2, 5, none⟩ = some (.string ⟨#[]⟩) := (cell_of HBv2_7.out 5).trans rfl
  have fe5 : (w7).frozen? ⟨qv2, 5, none⟩ = false := frozen_of HBv2_7.out 5
  have ce6 : (w7).cell? ⟨qv2, 6, none⟩ = some (.int .i64 0) := (cell_of HBv2_7.out 6).trans rfl
  have fe6 : (w7).frozen? ⟨qv2, 6, none⟩ = false := frozen_of HBv2_7.out 6
  obtain ⟨w8, hY⟩ : ∃ Y, Y = (((((((w7.setCell ⟨qv2, 0, none⟩ (.string k.p)).setCell ⟨qv2, 1, none⟩ (.slice oNN k.xs.length pNN)).setCell ⟨qv2, 2, none⟩ (.slice oVV k.ys.length pVV)).setCell ⟨qv2, 3, none⟩ (.int .i64 k.st)).setCell ⟨qv2, 4, none⟩ (.slice oFF k.fs.length pFF)).setCell ⟨qv2, 5, none⟩ (.string k.b)).setCell ⟨qv2, 6, none⟩ (.int .i64 k.t)) := ⟨_, rfl⟩
  have HY : Hid ((((((((w7.setCell ⟨qv2, 0, none⟩ (.string k.p)).setCell ⟨qv2, 1, none⟩ (.slice oNN k.xs.length pNN)).setCell ⟨qv2, 2, none⟩ (.slice oVV k.ys.length pVV)).setCell ⟨qv2, 3, none⟩ (.int .i64 k.st)).setCell ⟨qv2, 4, none⟩ (.slice oFF k.fs.length pFF)).setCell ⟨qv2, 5, none⟩ (.string k.b)).setCell ⟨qv2, 6, none⟩ (.int .i64 k.t)) = w8) := hY.symm
  have hb8 : Below w.heap.size w (w8) := by rw [hY]; exact (((((((hb7.setCell (p := ⟨qv2, 0, none⟩) HGv2.out _).setCell (p := ⟨qv2, 1, none⟩) HGv2.out _).setCell (p := ⟨qv2, 2, none⟩) HGv2.out _).setCell (p := ⟨qv2, 3, none⟩) HGv2.out _).setCell (p := ⟨qv2, 4, none⟩) HGv2.out _).setCell (p := ⟨qv2, 5, none⟩) HGv2.out _).setCell (p := ⟨qv2, 6, none⟩) HGv2.out _)
  have HONN_8 : Hid ((w8).ownsRow w.heap.size 9 1 (.slice oNN k.xs.length pNN) k.xs.length (k.xs.map Value.string)) := by show World.ownsRow _ _ _ _ _ _ _; rw [hY]; exact owns_same HONN_7.out (fun g hg => by have hne := own_ne HONN_7.out HBv2_7.out (by decide) g hg; rw [heap_setCell_other _ _ g _ hne, heap_setCell_other _ _ g _ hne, heap_setCell_other _ _ g _ hne, heap_setCell_other _ _ g _ hne, heap_setCell_other _ _ g _ hne, heap_setCell_other _ _ g _ hne, heap_setCell_other _ _ g _ hne])
  have HOVV_8 : Hid ((w8).ownsRow w.heap.size 9 1 (.slice oVV k.ys.length pVV) k.ys.length (k.ys.map Value.string)) := by show World.ownsRow _ _ _ _ _ _ _; rw [hY]; exact owns_same HOVV_7.out (fun g hg => by have hne := own_ne HOVV_7.out HBv2_7.out (by decide) g hg; rw [heap_setCell_other _ _ g _ hne, heap_setCell_other _ _ g _ hne, heap_setCell_other _ _ g _ hne, heap_setCell_other _ _ g _ hne, heap_setCell_other _ _ g _ hne, heap_setCell_other _ _ g _ hne, heap_setCell_other _ _ g _ hne])
  have HOFF_8 : Hid ((w8).ownsRow w.heap.size 132 2 (.slice oFF k.fs.length pFF) k.fs.length (flatF k.fs)) := by show World.ownsRow _ _ _ _ _ _ _; rw [hY]; exact owns_same HOFF_7.out (fun g hg => by have hne := own_ne HOFF_7.out HBv2_7.out (by decide) g hg; rw [heap_setCell_other _ _ g _ hne, heap_setCell_other _ _ g _ hne, heap_setCell_other _ _ g _ hne, heap_setCell_other _ _ g _ hne, heap_setCell_other _ _ g _ hne, heap_setCell_other _ _ g _ hne, heap_setCell_other _ _ g _ hne])
  have HBv1_8 : Hid ((w8).heap[qv1]? = some (.cells #[.string k.p, .slice o1 k.xs.length c1, .slice o2 k.ys.length c2, .int .i64 k.st, .slice o3 k.fs.length c3, .string k.b, .int .i64 k.t] 50)) := by show _ = _; rw [hY, heap_setCell_other _ _ _ _ HNv1v2.out, heap_setCell_other _ _ _ _ HNv1v2.out, heap_setCell_other _ _ _ _ HNv1v2.out, heap_setCell_other _ _ _ _ HNv1v2.out, heap_setCell_other _ _ _ _ HNv1v2.out, heap_setCell_other _ _ _ _ HNv1v2.out, heap_setCell_other _ _ _ _ HNv1v2.out]; exact HBv1_7.out
  have HBv2_8 : Hid ((w8).heap[qv2]? = some (.cells #[.string k.p, .slice oNN k.xs.length pNN, .slice oVV k.ys.length pVV, .int .i64 k.st, .slice oFF k.fs.length pFF, .string k.b, .int .i64 k.t] 50)) := by show _ = _; rw [hY]; have h := (heap_set _ qv2 6 _ _ _ (.int .i64 k.t) (heap_set _ qv2 5 _ _ _ (.string k.b) (heap_set _ qv2 4 _ _ _ (.slice oFF k.fs.length pFF) (heap_set _ qv2 3 _ _ _ (.int .i64 k.st) (heap_set _ qv2 2 _ _ _ (.slice oVV k.ys.length pVV) (heap_set _ qv2 1 _ _ _ (.slice oNN k.xs.length pNN) (heap_set _ qv2 0 _ _ _ (.string k.p) HBv2_7.out))))))); simpa using h
  clear hY hb7 HONN_7 HOVV_7 HOFF_7 HBv1_7 HBv2_7
  go_simp
  rw [HY.out]
  have hS8 : w8.heap[qv1]? = some (.cells #[.string k.p, .slice o1 k.xs.length c1, .slice o2 k.ys.length c2, .int .i64 k.st, .slice o3 k.fs.length c3, .string k.b, .int .i64 k.t] 50) := HBv1_8.out
  refine hK.out _ _ hS8 (fun _ => ?_)
  clear hK K HY hS7 ce0 fe0 ce1 fe1 ce2 fe2 ce3 fe3 ce4 fe4 ce5 fe5 ce6 fe6
  clear hS8
  refine wpAnyH_done (by kernel_rfl) ?_ _
  go_wp2_with fail
  have kv2_0 : (w8).cell? ⟨qv2, 0, none⟩ = some (.string k.p) := (cell_of HBv2_8.out 0).trans rfl
  have kv2_1 : (w8).cell? ⟨qv2, 1, none⟩ = some (.slice oNN k.xs.length pNN) := (cell_of HBv2_8.out 1).trans rfl
  have kv2_2 : (w8).cell? ⟨qv2, 2, none⟩ = some (.slice oVV k.ys.length pVV) := (cell_of HBv2_8.out 2).trans rfl
  have kv2_3 : (w8).cell? ⟨qv2, 3, none⟩ = some (.int .i64 k.st) := (cell_of HBv2_8.out 3).trans rfl
  have kv2_4 : (w8).cell? ⟨qv2, 4, none⟩ = some (.slice oFF k.fs.length pFF) := (cell_of HBv2_8.out 4).trans rfl
  have kv2_5 : (w8).cell? ⟨qv2, 5, none⟩ = some (.string k.b) := (cell_of HBv2_8.out 5).trans rfl
  have kv2_6 : (w8).cell? ⟨qv2, 6, none⟩ = some (.int .i64 k.t) := (cell_of HBv2_8.out 6).trans rfl
  refine bodyPost_ret (v := .agg #[.string k.p, .slice oNN k.xs.length pNN, .slice oVV k.ys.length pVV, .int .i64 k.st, .slice oFF k.fs.length pFF, .string k.b, .int .i64 k.t]) (by simp [results, Tryz.results45, go_sem, kv2_0, kv2_1, kv2_2, kv2_3, kv2_4, kv2_5, kv2_6]) rfl ?_
  exact ⟨_, _, _, rfl, ⟨HONN_8.out, HOVV_8.out, HOFF_8.out, fun g hg e => by have h1 := LOVV.out g e; have h2 := HINN.out g hg; have := HM6.out; omega⟩, hb8⟩

end Go.Proofs.YtcipbkkpkhameaaGreat

namespace Go.Proofs.YtcipbkkpkhameaaGreat
open Go.RowKit
open Go.Lib hiding intOf

attribute [local go_sem] Oper.semAt_some

set_option maxHeartbeats 1000000 in
theorem backward_any (o : Option Addr) (n c : Nat) (w : World) :
    Calls Tryz.prog 42 #[.slice o n c] w fun e w' => e = .returned (.func (.func 86) #[] #[.pointer (some ⟨w.heap.size, 0, none⟩)]) ∧ w' = w.alloc (.cells #[.slice o n c] 35) := by
  go_enter Tryz.func42, Tryz.ntmps42
  go_wp2_with fail
  go_ret
  exact ⟨rfl, rfl⟩

/-- What a round is handed: the place and the one that is kept there. -/
def backV (kv : List (KpD × Value × Value × Value)) (m : Nat) (j : Fin m) : Array Value := #[.int .i64 ((m - 1 - j.1 : Nat) : Int), kpX (kvAt kv (m - 1 - j.1))]
theorem fin_prefix {m : Nat} {pre : List (Fin m)} {x : Fin m} (h : (pre ++ [x]) <+: List.finRange m) (j : Fin m) (hj : j.1 < x.1) : j ∈ pre := by
  obtain ⟨t, ht⟩ := h
  have hx : (List.finRange m)[pre.length]? = some x := by rw [← ht, List.append_assoc, List.getElem?_append_right (Nat.le_refl _)]; simp
  have hl : pre.length < m := by
    have := (List.getElem?_eq_some_iff.1 hx).1
    simpa using this
  rw [List.getElem?_eq_getElem (by simpa using hl), List.getElem_finRange] at hx
  have hx2 : x.1 = pre.length := by
    have := Option.some.inj hx
    rw [← this]
    rfl
  have hj2 : j.1 < pre.length := by omega
  have hjv : (List.finRange m)[j.1]? = some j := by
    rw [List.getElem?_eq_getElem (by simp), List.getElem_finRange]
    rfl
  rw [← ht, List.append_assoc, List.getElem?_append_left hj2] at hjv
  exact List.mem_of_getElem? hjv

set_option maxRecDepth 100000 in
set_option maxHeartbeats 4000000 in
theorem back1_in (nn : Nat) (hnn : 1 ≤ nn) (l Bs n₀ : Nat) (o : Option Addr) (m c : Nat) (kv : List (KpD × Value × Value × Value)) (B : Nat) (w0 W : World)
    (hm : m ≤ 1048576) (hl : kv.length = m) (hn₀ : n₀ ≤ W.heap.size)
    (hX : ∀ W', Below n₀ w0 W' → KeptsO W' B (.slice o m c) kv)
    (hW : Below n₀ w0 W) (hBs : Boxed W Bs 35 (.slice o m c))
    (J Jx : List (Fin m) → World → Prop) (_hJ : AbidesFrom W.heap.size J)
    (hY : ∀ pre x W1, J pre W1 → pre.length < m → YieldAt Fence.wide (nn - 1) Tryz.prog l (backV kv m x) W1 fun e W' =>
      (e = .returned (.bool true) ∧ J (pre ++ [x]) W' ∧ KeepL n₀ Bs W1 W') ∨ (e = .returned (.bool false) ∧ Jx (pre ++ [x]) W'))
    (h0 : J [] W) :
    CallsIn Fence.wide nn Tryz.prog 86 #[.func (.yield l) #[] #[], .pointer (some ⟨Bs, 0, none⟩)] W fun e W' => (∃ u, e = .returned u) ∧
      ((∃ ys, ys = List.finRange m ∧ J ys W') ∨ (∃ pre, pre <+: List.finRange m ∧ Jx pre W')) := by
  have HX : Hid (∀ W', Below n₀ w0 W' → KeptsO W' B (.slice o m c) kv) := hX
  have HLEN : Hid (kv.length = m) := hl
  have HW : Hid (Below n₀ w0 W) := hW
  have HN : Hid (n₀ ≤ W.heap.size) := hn₀
  have HBS : Hid (Boxed W Bs 35 (.slice o m c)) := hBs
  have HY : Hid (∀ pre x W1, J pre W1 → pre.length < m → YieldAt Fence.wide (nn - 1) Tryz.prog l (backV kv m x) W1 fun e W' =>
      (e = .returned (.bool true) ∧ J (pre ++ [x]) W' ∧ KeepL n₀ Bs W1 W') ∨ (e = .returned (.bool false) ∧ Jx (pre ++ [x]) W')) := hY
  have hbs0 := hBs.cell
  clear hX hW hY hn₀ hl hBs
  refine callsIn_of_wp Tryz.func86 rfl trivial ?_ rfl
  simp only [Tryz.ntmps86, List.size_toArray, List.length_cons, List.length_nil, Nat.reduceAdd, Nat.reduceSub, Array.replicate_succ, Array.replicate_zero, List.push_toArray, List.append_toArray, List.nil_append, List.cons_append]
  gi_wp2
  clear hbs0
  gi_loopw [3] (fun i wr => ∃ k : Nat, k ≤ m ∧ i = .int .i64 ((k : Int) - 1) ∧ Hid (J ((List.finRange m).take (m - k)) wr) ∧ Hid (KeepL n₀ Bs W wr) ∧ W.heap.size ≤ wr.heap.size) (fun i _ => (intOf i + 1).toNat)
  case atStart => exact ⟨m, Nat.le_refl _, rfl, by rw [Nat.sub_self]; exact h0, ⟨Below.refl _ _, rfl⟩, Nat.le_refl _⟩
  case round =>
    obtain ⟨k, hk, rfl, HJs, HK, hsz⟩ := hrel
    by_cases hk0 : k = 0
    · subst hk0
      rw [show (((0 : Nat) : Int) - 1) = -1 from rfl]
      gi_wp2
      go_end0
      have hj := HJs.out
      rw [Nat.sub_zero, List.take_of_length_le (by simp)] at hj
      exact ⟨⟨_, rfl⟩, by first | exact .inl hj | exact .inl ⟨_, rfl, hj⟩⟩
    · obtain ⟨i, rfl⟩ : ∃ i, k = i + 1 := ⟨k - 1, by omega⟩
      rw [show (((i + 1 : Nat) : Int) - 1) = (i : Int) by omega]
      clear hk0
      have hlt : (i : Int) < (m : Int) := by omega
      have hge : (0 : Int) ≤ (i : Int) := by omega
      have hB : Below n₀ w0 wr := HW.out.trans HK.out.1
      have hkm : m - (i + 1) < m := by omega
      have HKX := HX.out wr hB
      obtain ⟨g, cp, hV, hg, hc⟩ := HKX.look i (by rw [HLEN.out]; omega)
      rw [HLEN.out] at hV
      injection hV with hV1 hV2 hV3
      subst hV1 hV3
      clear hV2 HKX
      have hbs : wr.cell? ⟨Bs, 0, none⟩ = some (.slice (some ⟨g, 0, none⟩) m c) := (show Boxed wr Bs 35 (.slice (some ⟨g, 0, none⟩) m c) from HK.out.2.trans HBS.out).cell
      have HTV : Hid (backV kv m ⟨m - (i + 1), hkm⟩ = #[.int .i64 (i : Int), kpX (kvAt kv i)]) := by
        show _ = _
        unfold backV
        rw [show m - 1 - (m - (i + 1)) = i by omega]
      obtain ⟨x, hx⟩ : ∃ x, x = kvAt kv i := ⟨_, rfl⟩
      rw [← hx] at hc HTV
      clear hx
      obtain ⟨x, u1, u2, u3⟩ := x
      have r0 := hc.c0
      have r1 := hc.c1
      have r2 := hc.c2
      have r3 := hc.c3
      have r4 := hc.c4
      have r5 := hc.c5
      have r6 := hc.c6
      have r7 := hc.c7
      have r8 := hc.c8
      dsimp only at r0 r1 r2 r3 r4 r5 r6 r7 r8
      have HTV2 : Hid (backV kv m ⟨m - (i + 1), hkm⟩ = #[.int .i64 (i : Int), .agg #[.string x.p, u1, u2, .int .i64 x.st, u3, .string x.b, .int .i64 x.t, .int .i64 x.a, .int .i64 x.q]]) := HTV.out
      obtain ⟨fn, tmps, assign, body, hy, hR⟩ := HY.out _ ⟨m - (i + 1), hkm⟩ wr HJs.out (by rw [fin_take_len m _ (by omega)]; exact hkm)
      rw [HTV2.out] at hy
      have hil : ¬ m ≤ i := by omega
      clear hc hB HTV HTV2
      gi_wp2
      refine hR.mono ?_
      rintro e W3 (⟨rfl, hJ3, hk3⟩ | ⟨rfl, hJx3⟩)
      · have HJ3 : Hid (J ((List.finRange m).take (m - i)) W3) := by show J _ _; rw [show m - i = (m - (i + 1)) + 1 by omega, fin_take m _ hkm]; exact hJ3
        have HK3 : Hid (KeepL n₀ Bs W W3) := HK.out.trans hk3
        have hsz3 : W.heap.size ≤ W3.heap.size := Nat.le_trans hsz hk3.1.size
        clear hJ3 hk3 hsz HK HJs hR r0 r1 r2 r3 r4 r5 r6 r7 r8 hbs
        gi_wp2
        go_roundw
        case rel => exact ⟨i, by omega, by go_num, HJ3, HK3, hsz3⟩
        case measure => simp [intOf]
      · have HJx : Hid (Jx ((List.finRange m).take (m - i)) W3) := by show Jx _ _; rw [show m - i = (m - (i + 1)) + 1 by omega, fin_take m _ hkm]; exact hJx3
        clear hJx3 HK HJs hsz hR r0 r1 r2 r3 r4 r5 r6 r7 r8 hbs
        gi_wp2
        refine bodyPost_ret (results_none rfl _ _ _) rfl ?_
        exact ⟨⟨_, rfl⟩, .inr ⟨_, List.take_prefix _ _, HJx.out⟩⟩

/-- What 'Backward' hands back tells them all, the last one first, or the first of these. -/
theorem back_stops (nn : Nat) (hnn : 1 ≤ nn) (Bs n₀ : Nat) (o : Option Addr) (m c : Nat) (kv : List (KpD × Value × Value × Value)) (B : Nat) (w0 w : World)
    (hm : m ≤ 1048576) (hl : kv.length = m) (hn₀ : n₀ ≤ w.heap.size) (hX : ∀ W', Below n₀ w0 W' → KeptsO W' B (.slice o m c) kv)
    (hW : Below n₀ w0 w) (hBs : Boxed w Bs 35 (.slice o m c)) :
    SeqStopsK Fence.wide nn Tryz.prog 86 #[.pointer (some ⟨Bs, 0, none⟩)] (backV kv m) (KeepL n₀ Bs) (fun ys => ys = List.finRange m) (fun pre => pre <+: List.finRange m) m w := fun l J Jx W hw hJ _ hY h0 => by
  have hbs : Boxed W Bs 35 (.slice o m c) := (hw.block Bs hBs.lt).trans hBs
  exact back1_in nn hnn l Bs n₀ o m c kv B w0 W hm hl (Nat.le_trans hn₀ hw.size) hX (hW.trans (hw.mono hn₀)) hbs J Jx hJ hY h0

end Go.Proofs.YtcipbkkpkhameaaGreat

namespace Go.Proofs.YtcipbkkpkhameaaGreat
open Go.RowKit
open Go.Lib hiding intOf

attribute [local go_sem] Oper.semAt_some

theorem implSuits_k (k : KpD) (v1 v2 v3 : Value) (v : Value) (n base : Nat) (gs : List (ByteArray × ByteArray)) (w : World) (h : KpRead w k v1 v2 v3) (hs : KpSmall k) (hv : FieldsV w base v n gs) (hn : n ≤ 1048576) (hc : CopyF gs) :
    Calls Tryz.prog 43 #[v1, v2, v] w fun e w' => BoolIs (suitsP k.xs k.ys gs = true) w e w' := by
  obtain ⟨B, h⟩ := h
  have ho : ObjO w B v1 k.xs.length k.xs v2 k.ys.length k.ys v3 k.fs.length k.fs := rows_objO h
  obtain ⟨o1, c1, rfl⟩ := slice_of_owns ho.names
  obtain ⟨o2, c2, rfl⟩ := slice_of_owns ho.vals
  refine (implSuits_any o1 o2 _ c1 _ c2 k.xs k.ys v n base gs w (texts_view ho.names) (by have := hs.2.1.1; omega) (texts_view ho.vals) hv (by omega) hc (by have := hs.2.2.1.1; omega)).mono ?_
  rintro e w1 ⟨rfl, hb⟩
  exact ⟨_, rfl, Iff.rfl, hb⟩
theorem blk_kept {W W' : World} {row : Option Nat} {q : Nat} {cs : Array Value} {T : TypeId} {fr : Nat × Nat} (h : W.heap[q]? = some (.cells cs T fr)) (hg : W.grownBy W' row) (hr : ∀ r, row = some r → ∃ o : Obj, W.heap[r]? = some o ∧ o.isCells = false) : W'.heap[q]? = some (.cells cs T fr) :=
  (hg.block q (Array.getElem?_eq_some_iff.1 h).1 (fun e => by
    obtain ⟨o, ho, hc⟩ := hr q e.symm
    rw [h] at ho
    cases ho
    cases hc)).trans h
theorem own_kept {W W' : World} {row : Option Nat} {base : Nat} {T : TypeId} {z n : Nat} {v : Value} {c : List Value} (h : W.ownsRow base T z v n c) (hg : W.grownBy W' row) (hr : ∀ r, row = some r → ∃ o : Obj, W.heap[r]? = some o ∧ o.isCells = false) : W'.ownsRow base T z v n c :=
  owns_same h (fun g hgv => by
    obtain ⟨cs, fr, hq⟩ := row_blk h hgv
    exact (blk_kept hq hg hr).trans hq.symm)
theorem objO_kept {W W' : World} {row : Option Nat} {base n1 n2 n3 : Nat} {v1 v2 v3 : Value} {xs ys : List ByteArray} {fs : List (ByteArray × ByteArray)} (h : ObjO W base v1 n1 xs v2 n2 ys v3 n3 fs) (hg : W.grownBy W' row) (hr : ∀ r, row = some r → ∃ o : Obj, W.heap[r]? = some o ∧ o.isCells = false) : ObjO W' base v1 n1 xs v2 n2 ys v3 n3 fs := ⟨own_kept h.names hg hr, own_kept h.vals hg hr, own_kept h.flds hg hr, h.ne⟩
theorem below_from {W W' : World} (h : Below W.heap.size W W') (B : Nat) : KeepsFrom B W W' := ⟨h.size, fun k _ _ hk _ => (h.block k (Array.getElem?_eq_some_iff.1 hk).1).trans hk⟩
theorem heap_alloc_old (w : World) (o : Obj) (g : Nat) (h : g < w.heap.size) : (w.alloc o).heap[g]? = w.heap[g]? := Below.heap_alloc w o g h
set_option maxHeartbeats 8000000 in
set_option maxRecDepth 100000 in
theorem implFind_any (v1 v2 V VB : Value) (kv : List (KpD × Value × Value × Value)) (s : ShD) (B : Nat) (w : World) (h : ShelfO w B v1 v2 V VB kv s) (hz : ShSmall s) (mt : Int) (p : ByteArray) (vQ : Value) (n5 base : Nat) (gs : List (ByteArray × ByteArray)) (bd : ByteArray) (hv : FieldsV w base vQ n5 gs) (bn5 : n5 ≤ 1048576) (hcq : CopyF gs) :
    Calls Tryz.prog 13 #[.agg #[v1, v2, V, VB, .int .i64 s.nx, .int .i64 s.sq], .agg #[.int .i64 mt, .string p, vQ, .string bd]] w fun e w' => FindIs s p gs w e w' := by
  obtain ⟨o1, c1, e1⟩ := slice_of_owns h.disk.cells
  obtain ⟨o2, c2, e2⟩ := slice_of_owns h.disk.pend
  obtain ⟨o3, c3, e3⟩ := slice_of_owns h.kept.row
  obtain ⟨o4, c4, e4⟩ := slice_of_owns h.bans
  subst e1 e2 e3 e4
  obtain ⟨n1, hn1⟩ : ∃ n, n = s.cs.length := ⟨_, rfl⟩
  obtain ⟨n2, hn2⟩ : ∃ n, n = s.ws.length := ⟨_, rfl⟩
  obtain ⟨n3, hn3⟩ : ∃ n, n = kv.length := ⟨_, rfl⟩
  obtain ⟨n4, hn4⟩ : ∃ n, n = s.bl.length := ⟨_, rfl⟩
  rw [← hn1, ← hn2, ← hn3, ← hn4] at h ⊢
  have HLN : Hid (s.cs.length = n1 ∧ s.ws.length = n2 ∧ kv.length = n3 ∧ s.bl.length = n4) := ⟨hn1.symm, hn2.symm, hn3.symm, hn4.symm⟩
  have HKS : Hid (kv.map (·.1) = s.ks) := h.2
  have HZ : Hid (ShSmall s) := hz
  have bn1 : n1 ≤ 1048576 := by rw [hn1]; exact hz.c
  have bn2 : n2 ≤ 1048576 := by rw [hn2]; exact hz.w
  have bn3 : n3 ≤ 1048576 := by rw [hn3, ← List.length_map (f := (·.1)), h.2]; exact hz.k
  have bn4 : n4 ≤ 1048576 := by rw [hn4]; exact hz.b
  have HSH : Hid (∀ W, Below w.heap.size w W → ShelfO W B (.slice o1 n1 c1) (.slice o2 n2 c2) (.slice o3 n3 c3) (.slice o4 n4 c4) kv s) := fun W hb => h.below hb
  have HKP : Hid (∀ W, Below w.heap.size w W → KeptsO W B (.slice o3 n3 c3) kv) := fun W hb => (h.below hb).kept
  have HLK : Hid (kv.length = n3) := hn3.symm
  clear hn1 hn2 hn3 hn4 h hz
  obtain ⟨oQ, cQ, hQ, _⟩ := hv.slice
  subst hQ
  have HFV : Hid (∀ W, Below w.heap.size w W → FieldsV W base (.slice oQ n5 cQ) n5 gs) := fun W hb => hv.below hb
  have HCQ : Hid (CopyF gs) := hcq
  clear hv hcq
  obtain ⟨W0, hW0⟩ : ∃ W, W = ((((w.alloc (.cells #[.slice o1 n1 c1, .slice o2 n2 c2, .slice o3 n3 c3, .slice o4 n4 c4, .int .i64 s.nx, .int .i64 s.sq] 38)).alloc (.cells #[.int .i64 mt, .string p, .slice oQ n5 cQ, .string bd] 54)).alloc (.cells #[.string ⟨#[]⟩, .slice none 0 0, .slice none 0 0, .int .i64 0, .slice none 0 0, .string ⟨#[]⟩, .int .i64 0] 50)).alloc (.cells #[.bool false] 4)) := ⟨_, rfl⟩
  obtain ⟨q0, hq0⟩ : ∃ q, q = w.heap.size := ⟨_, rfl⟩
  obtain ⟨q1, hq1⟩ : ∃ q, q = w.heap.size + 1 := ⟨_, rfl⟩
  obtain ⟨q2, hq2⟩ : ∃ q, q = w.heap.size + 1 + 1 := ⟨_, rfl⟩
  obtain ⟨q3, hq3⟩ : ∃ q, q = w.heap.size + 1 + 1 + 1 := ⟨_, rfl⟩
  have HB0 : Hid (Below w.heap.size w W0) := by rw [hW0]; exact ((((Below.refl _ w).alloc (Nat.le_refl _) _).alloc (by simp) _).alloc (by simp <;> omega) _).alloc (by simp <;> omega) _
  have HI0 : Hid (W0.heap[q0]? = some (.cells #[.slice o1 n1 c1, .slice o2 n2 c2, .slice o3 n3 c3, .slice o4 n4 c4, .int .i64 s.nx, .int .i64 s.sq] 38) ∧ W0.heap[q1]? = some (.cells #[.int .i64 mt, .string p, .slice oQ n5 cQ, .string bd] 54) ∧ W0.heap[q2]? = some (.cells #[.string ⟨#[]⟩, .slice none 0 0, .slice none 0 0, .int .i64 0, .slice none 0 0, .string ⟨#[]⟩, .int .i64 0] 50) ∧ W0.heap[q3]? = some (.cells #[.bool false] 4)) := by
    rw [hW0]
    refine ⟨?_, ?_, ?_, ?_⟩
    · rw [hq0, heap_alloc_old _ _ _ (by simp <;> omega), heap_alloc_old _ _ _ (by simp <;> omega), heap_alloc_old _ _ _ (by simp)]; exact heap_alloc_new _ _
    · rw [hq1, heap_alloc_old _ _ _ (by simp <;> omega), heap_alloc_old _ _ _ (by simp)]; have h := heap_alloc_new (w.alloc (.cells #[.slice o1 n1 c1, .slice o2 n2 c2, .slice o3 n3 c3, .slice o4 n4 c4, .int .i64 s.nx, .int .i64 s.sq] 38)) (.cells #[.int .i64 mt, .string p, .slice oQ n5 cQ, .string bd] 54); simpa using h
    · rw [hq2, heap_alloc_old _ _ _ (by simp)]; have h := heap_alloc_new ((w.alloc (.cells #[.slice o1 n1 c1, .slice o2 n2 c2, .slice o3 n3 c3, .slice o4 n4 c4, .int .i64 s.nx, .int .i64 s.sq] 38)).alloc (.cells #[.int .i64 mt, .string p, .slice oQ n5 cQ, .string bd] 54)) (.cells #[.string ⟨#[]⟩, .slice none 0 0, .slice none 0 0, .int .i64 0, .slice none 0 0, .string ⟨#[]⟩, .int .i64 0] 50); simpa using h
    · rw [hq3]; have h := heap_alloc_new (((w.alloc (.cells #[.slice o1 n1 c1, .slice o2 n2 c2, .slice o3 n3 c3, .slice o4 n4 c4, .int .i64 s.nx, .int .i64 s.sq] 38)).alloc (.cells #[.int .i64 mt, .string p, .slice oQ n5 cQ, .string bd] 54)).alloc (.cells #[.string ⟨#[]⟩, .slice none 0 0, .slice none 0 0, .int .i64 0, .slice none 0 0, .string ⟨#[]⟩, .int .i64 0] 50)) (.cells #[.bool false] 4); simpa using h
  have HS0 : Hid (W0.heap.size = w.heap.size + 4) := by show _ = _; rw [hW0]; simp
  have HQ : Hid (q0 = w.heap.size ∧ q1 = w.heap.size + 1 ∧ q2 = w.heap.size + 1 + 1 ∧ q3 = w.heap.size + 1 + 1 + 1) := ⟨hq0, hq1, hq2, hq3⟩
  have f0 := HI0.out.1
  refine (callsIn_wide (n := 4)).1 ?_
  refine callsIn_of_wp_marks Tryz.func13 rfl trivial ?_ rfl
  simp only [Tryz.ntmps13, List.size_toArray, List.length_cons, List.length_nil, Nat.reduceAdd, Nat.reduceSub, Array.replicate_succ, Array.replicate_zero, List.push_toArray, List.append_toArray, List.nil_append, List.cons_append]
  gi_wp2_with fail
  rw [← hW0, ← hq3, ← hq2, ← hq1, ← hq0]
  clear hW0 hq3 hq2 hq1 hq0 f0
  refine ⟨trivial, (callsIn_wide.2 (implShelfOk_any _ _ _ _ kv s B _ (HSH.out _ HB0.out) HZ.out)).mono ?_⟩
  rintro e w1 ⟨us, rfl, hus, bw⟩
  have HB1 : Hid (Below w.heap.size w w1) := HB0.out.trans (bw.mono HB0.out.size)
  have HI1 : Hid (w1.heap[q0]? = some (.cells #[.slice o1 n1 c1, .slice o2 n2 c2, .slice o3 n3 c3, .slice o4 n4 c4, .int .i64 s.nx, .int .i64 s.sq] 38) ∧ w1.heap[q1]? = some (.cells #[.int .i64 mt, .string p, .slice oQ n5 cQ, .string bd] 54) ∧ w1.heap[q2]? = some (.cells #[.string ⟨#[]⟩, .slice none 0 0, .slice none 0 0, .int .i64 0, .slice none 0 0, .string ⟨#[]⟩, .int .i64 0] 50) ∧ w1.heap[q3]? = some (.cells #[.bool false] 4)) := ⟨blk_below HI0.out.1 bw, blk_below HI0.out.2.1 bw, blk_below HI0.out.2.2.1 bw, blk_below HI0.out.2.2.2 bw⟩
  have HS1 : Hid (w.heap.size + 4 ≤ w1.heap.size) := by show _ ≤ _; have := HS0.out; have := bw.size; omega
  clear bw HB0 HI0 HS0
  cases us with
  | false =>
    have HNus : Hid (¬ ShelfP s) := fun h => nomatch hus.2 h
    clear hus
    have z0 : w1.cell? ⟨q2, 0, none⟩ = some (.string ⟨#[]⟩) := (cell_of HI1.out.2.2.1 0).trans rfl
    have z1 : w1.cell? ⟨q2, 1, none⟩ = some (.slice none 0 0) := (cell_of HI1.out.2.2.1 1).trans rfl
    have z2 : w1.cell? ⟨q2, 2, none⟩ = some (.slice none 0 0) := (cell_of HI1.out.2.2.1 2).trans rfl
    have z3 : w1.cell? ⟨q2, 3, none⟩ = some (.int .i64 0) := (cell_of HI1.out.2.2.1 3).trans rfl
    have z4 : w1.cell? ⟨q2, 4, none⟩ = some (.slice none 0 0) := (cell_of HI1.out.2.2.1 4).trans rfl
    have z5 : w1.cell? ⟨q2, 5, none⟩ = some (.string ⟨#[]⟩) := (cell_of HI1.out.2.2.1 5).trans rfl
    have z6 : w1.cell? ⟨q2, 6, none⟩ = some (.int .i64 0) := (cell_of HI1.out.2.2.1 6).trans rfl
    have fz0 : w1.frozen? ⟨q2, 0, none⟩ = false := frozen_of HI1.out.2.2.1 0
    have fz1 : w1.frozen? ⟨q2, 1, none⟩ = false := frozen_of HI1.out.2.2.1 1
    have fz2 : w1.frozen? ⟨q2, 2, none⟩ = false := frozen_of HI1.out.2.2.1 2
    have fz3 : w1.frozen? ⟨q2, 3, none⟩ = false := frozen_of HI1.out.2.2.1 3
    have fz4 : w1.frozen? ⟨q2, 4, none⟩ = false := frozen_of HI1.out.2.2.1 4
    have fz5 : w1.frozen? ⟨q2, 5, none⟩ = false := frozen_of HI1.out.2.2.1 5
    have fz6 : w1.frozen? ⟨q2, 6, none⟩ = false := frozen_of HI1.out.2.2.1 6
    have zb0 : w1.cell? ⟨q3, 0, none⟩ = some (.bool false) := (cell_of HI1.out.2.2.2 0).trans rfl
    have fzb0 : w1.frozen? ⟨q3, 0, none⟩ = false := frozen_of HI1.out.2.2.2 0
    have hQ2 : w.heap.size ≤ q2 := by have := HQ.out; omega
    have hQ3 : w.heap.size ≤ q3 := by have := HQ.out; omega
    have hQn : q2 ≠ q3 := by have := HQ.out; omega
    have HZ2 : Hid (((((((((w1.setCell ⟨q2, 0, none⟩ (.string ⟨#[]⟩)).setCell ⟨q2, 1, none⟩ (.slice none 0 0)).setCell ⟨q2, 2, none⟩ (.slice none 0 0)).setCell ⟨q2, 3, none⟩ (.int .i64 0)).setCell ⟨q2, 4, none⟩ (.slice none 0 0)).setCell ⟨q2, 5, none⟩ (.string ⟨#[]⟩)).setCell ⟨q2, 6, none⟩ (.int .i64 0)).setCell ⟨q3, 0, none⟩ (.bool false)).heap[q2]? = some (.cells #[.string ⟨#[]⟩, .slice none 0 0, .slice none 0 0, .int .i64 0, .slice none 0 0, .string ⟨#[]⟩, .int .i64 0] 50)) := by show _ = _; rw [heap_setCell_other _ _ _ _ hQn]; have h := (heap_set _ q2 6 _ _ _ (.int .i64 0) (heap_set _ q2 5 _ _ _ (.string ⟨#[]⟩) (heap_set _ q2 4 _ _ _ (.slice none 0 0) (heap_set _ q2 3 _ _ _ (.int .i64 0) (heap_set _ q2 2 _ _ _ (.slice none 0 0) (heap_set _ q2 1 _ _ _ (.slice none 0 0) (heap_set _ q2 0 _ _ _ (.string ⟨#[]⟩) HI1.out.2.2.1))))))); simpa using h
    have HZ3 : Hid (((((((((w1.setCell ⟨q2, 0, none⟩ (.string ⟨#[]⟩)).setCell ⟨q2, 1, none⟩ (.slice none 0 0)).setCell ⟨q2, 2, none⟩ (.slice none 0 0)).setCell ⟨q2, 3, none⟩ (.int .i64 0)).setCell ⟨q2, 4, none⟩ (.slice none 0 0)).setCell ⟨q2, 5, none⟩ (.string ⟨#[]⟩)).setCell ⟨q2, 6, none⟩ (.int .i64 0)).setCell ⟨q3, 0, none⟩ (.bool false)).heap[q3]? = some (.cells #[.bool false] 4)) := by
      have h0 : w1.heap[q3]? = some (.cells #[.bool false] 4) := HI1.out.2.2.2
      have h1 : ((((((((w1.setCell ⟨q2, 0, none⟩ (.string ⟨#[]⟩)).setCell ⟨q2, 1, none⟩ (.slice none 0 0)).setCell ⟨q2, 2, none⟩ (.slice none 0 0)).setCell ⟨q2, 3, none⟩ (.int .i64 0)).setCell ⟨q2, 4, none⟩ (.slice none 0 0)).setCell ⟨q2, 5, none⟩ (.string ⟨#[]⟩)).setCell ⟨q2, 6, none⟩ (.int .i64 0))).heap[q3]? = some (.cells #[.bool false] 4) := by rw [heap_setCell_other _ _ _ _ hQn.symm, heap_setCell_other _ _ _ _ hQn.symm, heap_setCell_other _ _ _ _ hQn.symm, heap_setCell_other _ _ _ _ hQn.symm, heap_setCell_other _ _ _ _ hQn.symm, heap_setCell_other _ _ _ _ hQn.symm, heap_setCell_other _ _ _ _ hQn.symm]; exact h0
      have h := heap_set _ q3 0 _ _ _ (.bool false) h1
      show _ = _
      simpa using h
    have HZB : Hid (Below w.heap.size w ((((((((w1.setCell ⟨q2, 0, none⟩ (.string ⟨#[]⟩)).setCell ⟨q2, 1, none⟩ (.slice none 0 0)).setCell ⟨q2, 2, none⟩ (.slice none 0 0)).setCell ⟨q2, 3, none⟩ (.int .i64 0)).setCell ⟨q2, 4, none⟩ (.slice none 0 0)).setCell ⟨q2, 5, none⟩ (.string ⟨#[]⟩)).setCell ⟨q2, 6, none⟩ (.int .i64 0)).setCell ⟨q3, 0, none⟩ (.bool false))) := ((((((((HB1.out.setCell (p := ⟨q2, 0, none⟩) hQ2 _).setCell (p := ⟨q2, 1, none⟩) hQ2 _).setCell (p := ⟨q2, 2, none⟩) hQ2 _).setCell (p := ⟨q2, 3, none⟩) hQ2 _).setCell (p := ⟨q2, 4, none⟩) hQ2 _).setCell (p := ⟨q2, 5, none⟩) hQ2 _).setCell (p := ⟨q2, 6, none⟩) hQ2 _).setCell (p := ⟨q3, 0, none⟩) hQ3 _)
    clear hQ2 hQ3
    gi_wp2
    clear z0 z1 z2 z3 z4 z5 z6 fz0 fz1 fz2 fz3 fz4 fz5 fz6 zb0 fzb0
    refine ⟨.tuple #[.agg #[.string ⟨#[]⟩, .slice none 0 0, .slice none 0 0, .int .i64 0, .slice none 0 0, .string ⟨#[]⟩, .int .i64 0], .bool false], ?_, .inr ⟨fun h => absurd h HNus.out, rfl, HZB.out⟩⟩
    have k0 : ((((((((w1.setCell ⟨q2, 0, none⟩ (.string ⟨#[]⟩)).setCell ⟨q2, 1, none⟩ (.slice none 0 0)).setCell ⟨q2, 2, none⟩ (.slice none 0 0)).setCell ⟨q2, 3, none⟩ (.int .i64 0)).setCell ⟨q2, 4, none⟩ (.slice none 0 0)).setCell ⟨q2, 5, none⟩ (.string ⟨#[]⟩)).setCell ⟨q2, 6, none⟩ (.int .i64 0)).setCell ⟨q3, 0, none⟩ (.bool false)).cell? ⟨q2, 0, none⟩ = some (.string ⟨#[]⟩) := (cell_of HZ2.out 0).trans rfl
    have k1 : ((((((((w1.setCell ⟨q2, 0, none⟩ (.string ⟨#[]⟩)).setCell ⟨q2, 1, none⟩ (.slice none 0 0)).setCell ⟨q2, 2, none⟩ (.slice none 0 0)).setCell ⟨q2, 3, none⟩ (.int .i64 0)).setCell ⟨q2, 4, none⟩ (.slice none 0 0)).setCell ⟨q2, 5, none⟩ (.string ⟨#[]⟩)).setCell ⟨q2, 6, none⟩ (.int .i64 0)).setCell ⟨q3, 0, none⟩ (.bool false)).cell? ⟨q2, 1, none⟩ = some (.slice none 0 0) := (cell_of HZ2.out 1).trans rfl
    have k2 : ((((((((w1.setCell ⟨q2, 0, none⟩ (.string ⟨#[]⟩)).setCell ⟨q2, 1, none⟩ (.slice none 0 0)).setCell ⟨q2, 2, none⟩ (.slice none 0 0)).setCell ⟨q2, 3, none⟩ (.int .i64 0)).setCell ⟨q2, 4, none⟩ (.slice none 0 0)).setCell ⟨q2, 5, none⟩ (.string ⟨#[]⟩)).setCell ⟨q2, 6, none⟩ (.int .i64 0)).setCell ⟨q3, 0, none⟩ (.bool false)).cell? ⟨q2, 2, none⟩ = some (.slice none 0 0) := (cell_of HZ2.out 2).trans rfl
    have k3 : ((((((((w1.setCell ⟨q2, 0, none⟩ (.string ⟨#[]⟩)).setCell ⟨q2, 1, none⟩ (.slice none 0 0)).setCell ⟨q2, 2, none⟩ (.slice none 0 0)).setCell ⟨q2, 3, none⟩ (.int .i64 0)).setCell ⟨q2, 4, none⟩ (.slice none 0 0)).setCell ⟨q2, 5, none⟩ (.string ⟨#[]⟩)).setCell ⟨q2, 6, none⟩ (.int .i64 0)).setCell ⟨q3, 0, none⟩ (.bool false)).cell? ⟨q2, 3, none⟩ = some (.int .i64 0) := (cell_of HZ2.out 3).trans rfl
    have k4 : ((((((((w1.setCell ⟨q2, 0, none⟩ (.string ⟨#[]⟩)).setCell ⟨q2, 1, none⟩ (.slice none 0 0)).setCell ⟨q2, 2, none⟩ (.slice none 0 0)).setCell ⟨q2, 3, none⟩ (.int .i64 0)).setCell ⟨q2, 4, none⟩ (.slice none 0 0)).setCell ⟨q2, 5, none⟩ (.string ⟨#[]⟩)).setCell ⟨q2, 6, none⟩ (.int .i64 0)).setCell ⟨q3, 0, none⟩ (.bool false)).cell? ⟨q2, 4, none⟩ = some (.slice none 0 0) := (cell_of HZ2.out 4).trans rfl
    have k5 : ((((((((w1.setCell ⟨q2, 0, none⟩ (.string ⟨#[]⟩)).setCell ⟨q2, 1, none⟩ (.slice none 0 0)).setCell ⟨q2, 2, none⟩ (.slice none 0 0)).setCell ⟨q2, 3, none⟩ (.int .i64 0)).setCell ⟨q2, 4, none⟩ (.slice none 0 0)).setCell ⟨q2, 5, none⟩ (.string ⟨#[]⟩)).setCell ⟨q2, 6, none⟩ (.int .i64 0)).setCell ⟨q3, 0, none⟩ (.bool false)).cell? ⟨q2, 5, none⟩ = some (.string ⟨#[]⟩) := (cell_of HZ2.out 5).trans rfl
    have k6 : ((((((((w1.setCell ⟨q2, 0, none⟩ (.string ⟨#[]⟩)).setCell ⟨q2, 1, none⟩ (.slice none 0 0)).setCell ⟨q2, 2, none⟩ (.slice none 0 0)).setCell ⟨q2, 3, none⟩ (.int .i64 0)).setCell ⟨q2, 4, none⟩ (.slice none 0 0)).setCell ⟨q2, 5, none⟩ (.string ⟨#[]⟩)).setCell ⟨q2, 6, none⟩ (.int .i64 0)).setCell ⟨q3, 0, none⟩ (.bool false)).cell? ⟨q2, 6, none⟩ = some (.int .i64 0) := (cell_of HZ2.out 6).trans rfl
    have kb0 : ((((((((w1.setCell ⟨q2, 0, none⟩ (.string ⟨#[]⟩)).setCell ⟨q2, 1, none⟩ (.slice none 0 0)).setCell ⟨q2, 2, none⟩ (.slice none 0 0)).setCell ⟨q2, 3, none⟩ (.int .i64 0)).setCell ⟨q2, 4, none⟩ (.slice none 0 0)).setCell ⟨q2, 5, none⟩ (.string ⟨#[]⟩)).setCell ⟨q2, 6, none⟩ (.int .i64 0)).setCell ⟨q3, 0, none⟩ (.bool false)).cell? ⟨q3, 0, none⟩ = some (.bool false) := (cell_of HZ3.out 0).trans rfl
    simp [results, Tryz.f13, go_sem, k0, k1, k2, k3, k4, k5, k6, kb0]
  | true =>
    have HYus : Hid (ShelfP s) := hus.1 rfl
    clear hus
    have cs1 : w1.cell? ⟨q0, 2, none⟩ = some (.slice o3 n3 c3) := (cell_of HI1.out.1 2).trans rfl
    gi_wp2_with fail
    refine ⟨trivial, (callsIn_wide.2 (backward_any o3 n3 c3 _)).mono ?_⟩
    rintro e w2 ⟨rfl, rfl⟩
    clear cs1
    gi_wp2_with fail
    obtain ⟨q4, hq4⟩ : ∃ q, q = w1.heap.size := ⟨_, rfl⟩
    obtain ⟨W4, hW4⟩ : ∃ W, W = w1.alloc (.cells #[.slice o3 n3 c3] 35) := ⟨_, rfl⟩
    rw [← hW4, ← hq4]
    have bA : Below w1.heap.size w1 W4 := by rw [hW4]; exact (Below.refl _ _).alloc (Nat.le_refl _) _
    have HB4 : Hid (Below w.heap.size w W4) := HB1.out.trans (bA.mono HB1.out.size)
    have HI4 : Hid (W4.heap[q0]? = some (.cells #[.slice o1 n1 c1, .slice o2 n2 c2, .slice o3 n3 c3, .slice o4 n4 c4, .int .i64 s.nx, .int .i64 s.sq] 38) ∧ W4.heap[q1]? = some (.cells #[.int .i64 mt, .string p, .slice oQ n5 cQ, .string bd] 54) ∧ W4.heap[q2]? = some (.cells #[.string ⟨#[]⟩, .slice none 0 0, .slice none 0 0, .int .i64 0, .slice none 0 0, .string ⟨#[]⟩, .int .i64 0] 50) ∧ W4.heap[q3]? = some (.cells #[.bool false] 4)) := ⟨blk_below HI1.out.1 bA, blk_below HI1.out.2.1 bA, blk_below HI1.out.2.2.1 bA, blk_below HI1.out.2.2.2 bA⟩
    have HX4 : Hid (Boxed W4 q4 35 (.slice o3 n3 c3)) := by show Boxed _ _ _ _; rw [hW4, hq4]; exact heap_alloc_new _ _
    have HS4 : Hid (w.heap.size + 4 ≤ q4 ∧ q4 < W4.heap.size) := ⟨by rw [hq4]; exact HS1.out, by rw [hW4, hq4]; simp⟩
    clear hW4 hq4 bA HB1 HI1 HS1
    refine wpIn_rangeFunc_ownH rfl (by omega) (gf := 86) (lb := #[.pointer (some ⟨q4, 0, none⟩)]) rfl trivial (enters_of Tryz.func86 (by kernel_rfl) rfl)
      (back_stops (4 - 1) (by omega) q4 w.heap.size o3 n3 c3 kv B w W4 bn3 HLK.out (by have := HS4.out; omega) HKP.out HB4.out HX4.out) KeepL.trans (keepL_b (by have := HS4.out; omega) HS4.out.2) (Below.refl _ _) (fun _ => rfl)
      (fun pre W => (((W.heap[q0]? = some (.cells #[.slice o1 n1 c1, .slice o2 n2 c2, .slice o3 n3 c3, .slice o4 n4 c4, .int .i64 s.nx, .int .i64 s.sq] 38) ∧ W.heap[q1]? = some (.cells #[.int .i64 mt, .string p, .slice oQ n5 cQ, .string bd] 54) ∧ W.heap[q2]? = some (.cells #[.string ⟨#[]⟩, .slice none 0 0, .slice none 0 0, .int .i64 0, .slice none 0 0, .string ⟨#[]⟩, .int .i64 0] 50) ∧ W.heap[q3]? = some (.cells #[.bool false] 4)) ∧ Boxed W q4 35 (.slice o3 n3 c3)) ∧ ∀ j ∈ pre, ¬ FindK s.bl p gs (kpAt s.ks (n3 - 1 - j.1))) ∧ Below w.heap.size w W)
      (fun c pq W => (∃ (pre : List (Fin n3)) (x : Fin n3), c = .ret ∧ pq = pre ++ [x] ∧ (∀ j ∈ pre, ¬ FindK s.bl p gs (kpAt s.ks (n3 - 1 - j.1))) ∧ FindK s.bl p gs (kpAt s.ks (n3 - 1 - x.1)) ∧ (∃ (k : KpD) (y1 y2 y3 : Value), kpAt s.ks (n3 - 1 - x.1) = k ∧ W.heap[q2]? = some (.cells #[.string k.p, y1, y2, .int .i64 k.st, y3, .string k.b, .int .i64 k.t] 50) ∧ W.heap[q3]? = some (.cells #[.bool true] 4) ∧ ObjO W w.heap.size y1 k.xs.length k.xs y2 k.ys.length k.ys y3 k.fs.length k.fs)) ∧ Below w.heap.size w W)
      (OwnFrom.and (fun _ _ _ _ hs hg hr => ⟨⟨⟨blk_kept hs.1.1.1 hg (fun r e => (hr r e).2), blk_kept hs.1.1.2.1 hg (fun r e => (hr r e).2), blk_kept hs.1.1.2.2.1 hg (fun r e => (hr r e).2), blk_kept hs.1.1.2.2.2 hg (fun r e => (hr r e).2)⟩, blk_kept hs.1.2 hg (fun r e => (hr r e).2)⟩, hs.2⟩) (ownFrom_below (Nat.le_refl _) (by have := HS4.out; omega)))
      (fun c => OwnFrom.and (fun _ _ _ _ hs hg hr => by
        obtain ⟨pre, x, h1, h2, h3, h4, k, y1, y2, y3, h5, h6, h7, h8⟩ := hs
        exact ⟨pre, x, h1, h2, h3, h4, k, y1, y2, y3, h5, blk_kept h6 hg (fun r e => (hr r e).2), blk_kept h7 hg (fun r e => (hr r e).2), objO_kept h8 hg (fun r e => (hr r e).2)⟩) (ownFrom_below (Nat.le_refl _) (by have := HS4.out; omega)))
      ⟨⟨⟨HI4.out, HX4.out⟩, fun j hj => by cases hj⟩, HB4.out⟩
      (fun x a' W => ∃ (q7 : Nat) (k : KpD) (u1 : Option Addr) (d1 : Nat) (u2 : Option Addr) (d2 : Nat) (u3 : Option Addr) (d3 : Nat), (a' = { tmps := #[.agg #[.slice o1 n1 c1, .slice o2 n2 c2, .slice o3 n3 c3, .slice o4 n4 c4, .int .i64 s.nx, .int .i64 s.sq], .agg #[.int .i64 mt, .string p, .slice oQ n5 cQ, .string bd], .pointer (some ⟨q0, 0, none⟩), .pointer (some ⟨q1, 0, none⟩), .pointer (some ⟨q2, 0, none⟩), .pointer (some ⟨q3, 0, none⟩), undef, .pointer (some ⟨q7, 0, none⟩), undef, .agg #[.slice o1 n1 c1, .slice o2 n2 c2, .slice o3 n3 c3, .slice o4 n4 c4, .int .i64 s.nx, .int .i64 s.sq], .bool true, .bool false, undef, .pointer (some ⟨q0, 2, none⟩), .slice o3 n3 c3, .func (.func 86) #[] #[.pointer (some ⟨q4, 0, none⟩)], .int .i64 ((n3 - 1 - x.1 : Nat) : Int), .agg #[.string k.p, .slice u1 k.xs.length d1, .slice u2 k.ys.length d2, .int .i64 k.st, .slice u3 k.fs.length d3, .string k.b, .int .i64 k.t, .int .i64 k.a, .int .i64 k.q], undef, undef, undef, undef, undef, undef, undef, undef, undef, undef, undef, undef, undef, undef, undef, undef, undef, undef, undef, undef, undef, undef, undef, undef, undef, undef], defers := [] } ∧ kvAt kv (n3 - 1 - x.1) = (k, .slice u1 k.xs.length d1, .slice u2 k.ys.length d2, .slice u3 k.fs.length d3)) ∧ W.heap[q7]? = some (.cells #[.string k.p, .slice u1 k.xs.length d1, .slice u2 k.ys.length d2, .int .i64 k.st, .slice u3 k.fs.length d3, .string k.b, .int .i64 k.t, .int .i64 k.a, .int .i64 k.q] 71))
      (fun x a' _ _ _ _ hs hg hr => by
        obtain ⟨q7, k, u1, d1, u2, d2, u3, d3, h1, h2⟩ := hs
        exact ⟨q7, k, u1, d1, u2, d2, u3, d3, h1, blk_kept h2 hg (fun r e => (hr r e).2)⟩) ?assign ?body ?done ?stop
    case assign =>
      intro l pre x W K hi hK
      obtain ⟨i, hxi⟩ : ∃ i, i = n3 - 1 - x.1 := ⟨_, rfl⟩
      have hil : i < kv.length := by rw [HLK.out]; have := x.2; omega
      obtain ⟨X, hX⟩ : ∃ X, X = kvAt kv i := ⟨_, rfl⟩
      have hM : X ∈ kv := by rw [hX]; exact kvAt_mem kv i hil
      obtain ⟨k, v1, v2, v3⟩ := X
      have hkp := HKP.out W hi.2
      obtain ⟨u1, d1, hu⟩ := slice_of_owns (hkp.names hM)
      have hu1 : v1 = .slice u1 k.xs.length d1 := hu
      obtain ⟨u2, d2, hu⟩ := slice_of_owns (hkp.vals hM)
      have hu2 : v2 = .slice u2 k.ys.length d2 := hu
      obtain ⟨u3, d3, hu⟩ := slice_of_owns (hkp.flds hM)
      have hu3 : v3 = .slice u3 k.fs.length d3 := hu
      subst hu1 hu2 hu3
      have hbv : backV kv n3 x = #[.int .i64 (i : Int), .agg #[.string k.p, .slice u1 k.xs.length d1, .slice u2 k.ys.length d2, .int .i64 k.st, .slice u3 k.fs.length d3, .string k.b, .int .i64 k.t, .int .i64 k.a, .int .i64 k.q]] := by
        unfold backV
        rw [← hxi, ← hX]
        rfl
      have HXV : Hid (kvAt kv (n3 - 1 - x.1) = (k, .slice u1 k.xs.length d1, .slice u2 k.ys.length d2, .slice u3 k.fs.length d3)) := by show _ = _; rw [← hxi, ← hX]
      have HII : Hid (i = n3 - 1 - x.1) := hxi
      have HI : Hid ((fun pre W => (((W.heap[q0]? = some (.cells #[.slice o1 n1 c1, .slice o2 n2 c2, .slice o3 n3 c3, .slice o4 n4 c4, .int .i64 s.nx, .int .i64 s.sq] 38) ∧ W.heap[q1]? = some (.cells #[.int .i64 mt, .string p, .slice oQ n5 cQ, .string bd] 54) ∧ W.heap[q2]? = some (.cells #[.string ⟨#[]⟩, .slice none 0 0, .slice none 0 0, .int .i64 0, .slice none 0 0, .string ⟨#[]⟩, .int .i64 0] 50) ∧ W.heap[q3]? = some (.cells #[.bool false] 4)) ∧ Boxed W q4 35 (.slice o3 n3 c3)) ∧ ∀ j ∈ pre, ¬ FindK s.bl p gs (kpAt s.ks (n3 - 1 - j.1))) ∧ Below w.heap.size w W) pre W) := hi
      rw [hbv]
      clear hbv hX hM hkp hu hxi hi hil
      gi_wp2
      have bA : Below W.heap.size W (W.alloc (.cells #[.string k.p, .slice u1 k.xs.length d1, .slice u2 k.ys.length d2, .int .i64 k.st, .slice u3 k.fs.length d3, .string k.b, .int .i64 k.t, .int .i64 k.a, .int .i64 k.q] 71)) := (Below.refl _ _).alloc (Nat.le_refl _) _
      have hi := HI.out
      refine hK _ _ (below_from bA _) ⟨bA.mono hi.2.size, bA.block q4 hi.1.1.2.lt⟩ ⟨⟨⟨⟨blk_below hi.1.1.1.1 bA, blk_below hi.1.1.1.2.1 bA, blk_below hi.1.1.1.2.2.1 bA, blk_below hi.1.1.1.2.2.2 bA⟩, blk_below hi.1.1.2 bA⟩, hi.1.2⟩, hi.2.trans (bA.mono hi.2.size)⟩ ⟨W.heap.size, k, u1, d1, u2, d2, u3, d3, ⟨?_, HXV.out⟩, heap_alloc_new _ _⟩
      rw [HII.out]
    case body =>
      intro l pre x a' W _ _ hi hax _
      obtain ⟨q7, k, u1, d1, u2, d2, u3, d3, ⟨rfl, hkv⟩, h7⟩ := hax
      obtain ⟨i, hxi⟩ : ∃ i, i = n3 - 1 - x.1 := ⟨_, rfl⟩
      have HIL : Hid (i < kv.length) := by show _ < _; rw [HLK.out]; have := x.2; omega
      rw [← hxi] at hkv ⊢
      have HM : Hid ((k, .slice u1 k.xs.length d1, .slice u2 k.ys.length d2, .slice u3 k.fs.length d3) ∈ kv) := by show _ ∈ _; rw [← hkv]; exact kvAt_mem kv i HIL.out
      have HEx : Hid (kpAt s.ks i = k) := by show _ = _; rw [← HKS.out, ← kvAt_fst kv i HIL.out, hkv]
      have HSMK : Hid (KpSmall k) := HZ.out.kv HKS.out HM.out
      have HIX : Hid (i = n3 - 1 - x.1) := hxi
      have HI : Hid ((W.heap[q0]? = some (.cells #[.slice o1 n1 c1, .slice o2 n2 c2, .slice o3 n3 c3, .slice o4 n4 c4, .int .i64 s.nx, .int .i64 s.sq] 38) ∧ W.heap[q1]? = some (.cells #[.int .i64 mt, .string p, .slice oQ n5 cQ, .string bd] 54) ∧ W.heap[q2]? = some (.cells #[.string ⟨#[]⟩, .slice none 0 0, .slice none 0 0, .int .i64 0, .slice none 0 0, .string ⟨#[]⟩, .int .i64 0] 50) ∧ W.heap[q3]? = some (.cells #[.bool false] 4)) ∧ Boxed W q4 35 (.slice o3 n3 c3)) := hi.1.1
      have HPRE : Hid (∀ j ∈ pre, ¬ FindK s.bl p gs (kpAt s.ks (n3 - 1 - j.1))) := hi.1.2
      have HBW : Hid (Below w.heap.size w W) := hi.2
      have H7 : Hid (W.heap[q7]? = some (.cells #[.string k.p, .slice u1 k.xs.length d1, .slice u2 k.ys.length d2, .int .i64 k.st, .slice u3 k.fs.length d3, .string k.b, .int .i64 k.t, .int .i64 k.a, .int .i64 k.q] 71)) := h7
      clear hkv hxi hi h7
      have HNO : Hid (¬ FindK s.bl p gs (kpAt s.ks i) → ∀ j ∈ pre ++ [x], ¬ FindK s.bl p gs (kpAt s.ks (n3 - 1 - j.1))) := fun hn j hj => by
        rcases List.mem_append.1 hj with h | h
        · exact HPRE.out j h
        · rw [List.mem_singleton.1 h, ← HIX.out]; exact hn
      have a0 : W.cell? ⟨q7, 0, none⟩ = some (.string k.p) := (cell_of H7.out 0).trans rfl
      have a1 : W.cell? ⟨q7, 1, none⟩ = some (.slice u1 k.xs.length d1) := (cell_of H7.out 1).trans rfl
      have a2 : W.cell? ⟨q7, 2, none⟩ = some (.slice u2 k.ys.length d2) := (cell_of H7.out 2).trans rfl
      have a3 : W.cell? ⟨q7, 3, none⟩ = some (.int .i64 k.st) := (cell_of H7.out 3).trans rfl
      have a4 : W.cell? ⟨q7, 4, none⟩ = some (.slice u3 k.fs.length d3) := (cell_of H7.out 4).trans rfl
      have a5 : W.cell? ⟨q7, 5, none⟩ = some (.string k.b) := (cell_of H7.out 5).trans rfl
      have a6 : W.cell? ⟨q7, 6, none⟩ = some (.int .i64 k.t) := (cell_of H7.out 6).trans rfl
      have e1 : W.cell? ⟨q1, 1, none⟩ = some (.string p) := (cell_of HI.out.1.2.1 1).trans rfl
      have bA : Below W.heap.size W (W.alloc (.cells #[.string k.p, .slice u1 k.xs.length d1, .slice u2 k.ys.length d2, .int .i64 k.st, .slice u3 k.fs.length d3, .string k.b, .int .i64 k.t] 50)) := (Below.refl _ _).alloc (Nat.le_refl _) _
      have e1b : (W.alloc (.cells #[.string k.p, .slice u1 k.xs.length d1, .slice u2 k.ys.length d2, .int .i64 k.st, .slice u3 k.fs.length d3, .string k.b, .int .i64 k.t] 50)).cell? ⟨q1, 1, none⟩ = some (.string p) := (cell_of (blk_below HI.out.1.2.1 bA) 1).trans rfl
      have HBA : Hid (Below W.heap.size W (W.alloc (.cells #[.string k.p, .slice u1 k.xs.length d1, .slice u2 k.ys.length d2, .int .i64 k.st, .slice u3 k.fs.length d3, .string k.b, .int .i64 k.t] 50))) := bA
      clear bA
      have HEND : Hid (∀ W2, Below W.heap.size W W2 → ¬ FindK s.bl p gs (kpAt s.ks i) → KeepsFrom W4.heap.size W W2 ∧ KeepL w.heap.size q4 W W2 ∧ (fun pre W => (((W.heap[q0]? = some (.cells #[.slice o1 n1 c1, .slice o2 n2 c2, .slice o3 n3 c3, .slice o4 n4 c4, .int .i64 s.nx, .int .i64 s.sq] 38) ∧ W.heap[q1]? = some (.cells #[.int .i64 mt, .string p, .slice oQ n5 cQ, .string bd] 54) ∧ W.heap[q2]? = some (.cells #[.string ⟨#[]⟩, .slice none 0 0, .slice none 0 0, .int .i64 0, .slice none 0 0, .string ⟨#[]⟩, .int .i64 0] 50) ∧ W.heap[q3]? = some (.cells #[.bool false] 4)) ∧ Boxed W q4 35 (.slice o3 n3 c3)) ∧ ∀ j ∈ pre, ¬ FindK s.bl p gs (kpAt s.ks (n3 - 1 - j.1))) ∧ Below w.heap.size w W) (pre ++ [x]) W2) := fun W2 b2 hn =>
        ⟨below_from b2 _, ⟨b2.mono HBW.out.size, b2.block q4 HI.out.2.lt⟩, ⟨⟨⟨blk_below HI.out.1.1 b2, blk_below HI.out.1.2.1 b2, blk_below HI.out.1.2.2.1 b2, blk_below HI.out.1.2.2.2 b2⟩, blk_below HI.out.2 b2⟩, HNO.out hn⟩, HBW.out.trans (b2.mono HBW.out.size)⟩
      by_cases hpt : k.p = p
      · have hcb : ((k.p).toList == (p).toList) = true := (text_beq _ _).2 hpt
        have HPT : Hid (k.p = p) := hpt
        clear hpt
        obtain ⟨W5, hW5⟩ : ∃ W', W' = W.alloc (.cells #[.string k.p, .slice u1 k.xs.length d1, .slice u2 k.ys.length d2, .int .i64 k.st, .slice u3 k.fs.length d3, .string k.b, .int .i64 k.t] 50) := ⟨_, rfl⟩
        obtain ⟨q8, hq8⟩ : ∃ q, q = W.heap.size := ⟨_, rfl⟩
        have HB5 : Hid (Below W.heap.size W W5) := by rw [hW5]; exact HBA.out
        have H8 : Hid (W5.heap[q8]? = some (.cells #[.string k.p, .slice u1 k.xs.length d1, .slice u2 k.ys.length d2, .int .i64 k.st, .slice u3 k.fs.length d3, .string k.b, .int .i64 k.t] 50)) := by show _ = _; rw [hW5, hq8]; exact heap_alloc_new _ _
        have e2b : (W.alloc (.cells #[.string k.p, .slice u1 k.xs.length d1, .slice u2 k.ys.length d2, .int .i64 k.st, .slice u3 k.fs.length d3, .string k.b, .int .i64 k.t] 50)).cell? ⟨q1, 2, none⟩ = some (.slice oQ n5 cQ) := (cell_of (blk_below HI.out.1.2.1 HBA.out) 2).trans rfl
        gi_wp2_with fail
        rw [← hW5]
        try rw [← hq8]
        clear a0 a1 a2 a3 a4 a5 a6 e1 e1b e2b hW5 HBA hcb
        have HBV5 : Hid (Below w.heap.size w W5) := HBW.out.trans (HB5.out.mono HBW.out.size)
        refine ⟨trivial, (callsIn_wide.2 (implSuits_k k _ _ _ _ n5 base gs _ ((HKP.out _ HBV5.out).read HM.out) HSMK.out (HFV.out _ HBV5.out) bn5 HCQ.out)).mono ?_⟩
        rintro e w6 ⟨uu, rfl, huu, bw⟩
        have HB6 : Hid (Below W.heap.size W w6) := HB5.out.trans (bw.mono HB5.out.size)
        have H86 : Hid (w6.heap[q8]? = some (.cells #[.string k.p, .slice u1 k.xs.length d1, .slice u2 k.ys.length d2, .int .i64 k.st, .slice u3 k.fs.length d3, .string k.b, .int .i64 k.t] 50)) := blk_below H8.out bw
        have HBV6 : Hid (Below w.heap.size w w6) := HBW.out.trans (HB6.out.mono HBW.out.size)
        clear bw HB5 H8 HBV5 hq8
        cases uu with
        | false =>
          have HN : Hid (¬ FindK s.bl p gs (kpAt s.ks i)) := fun h => by rw [HEx.out] at h; exact nomatch huu.2 h.2.1
          clear huu
          gi_wp2
          refine ⟨trivial, ?_⟩
          gi_wp2
          exact HEND.out _ HB6.out HN.out
        | true =>
          have HSU : Hid (suitsP k.xs k.ys gs = true) := huu.1 rfl
          clear huu
          have e4 : w6.cell? ⟨q0, 3, none⟩ = some (.slice o4 n4 c4) := (cell_of (blk_below HI.out.1.1 HB6.out) 3).trans rfl
          have g0 : w6.cell? ⟨q8, 0, none⟩ = some (.string k.p) := (cell_of H86.out 0).trans rfl
          have g1 : w6.cell? ⟨q8, 1, none⟩ = some (.slice u1 k.xs.length d1) := (cell_of H86.out 1).trans rfl
          have g2 : w6.cell? ⟨q8, 2, none⟩ = some (.slice u2 k.ys.length d2) := (cell_of H86.out 2).trans rfl
          have g3 : w6.cell? ⟨q8, 3, none⟩ = some (.int .i64 k.st) := (cell_of H86.out 3).trans rfl
          have g4 : w6.cell? ⟨q8, 4, none⟩ = some (.slice u3 k.fs.length d3) := (cell_of H86.out 4).trans rfl
          have g5 : w6.cell? ⟨q8, 5, none⟩ = some (.string k.b) := (cell_of H86.out 5).trans rfl
          have g6 : w6.cell? ⟨q8, 6, none⟩ = some (.int .i64 k.t) := (cell_of H86.out 6).trans rfl
          gi_wp2_with fail
          clear g0 g1 g2 g3 g4 g5 g6 e4
          refine ⟨trivial, (callsIn_wide.2 (implHitsAny_k _ n4 _ s.bl k _ _ _ _ (by have hd := (HSH.out _ HBV6.out).bans; rw [HLN.out.2.2.2] at hd; exact ban_view hd) (by omega) HZ.out.bm ((HKP.out _ HBV6.out).read HM.out) HSMK.out)).mono ?_⟩
          rintro e w7 ⟨uh, rfl, huh, bw⟩
          have HB7 : Hid (Below W.heap.size W w7) := HB6.out.trans (bw.mono HB6.out.size)
          have H87 : Hid (w7.heap[q8]? = some (.cells #[.string k.p, .slice u1 k.xs.length d1, .slice u2 k.ys.length d2, .int .i64 k.st, .slice u3 k.fs.length d3, .string k.b, .int .i64 k.t] 50)) := blk_below H86.out bw
          have HBV7 : Hid (Below w.heap.size w w7) := HBW.out.trans (HB7.out.mono HBW.out.size)
          clear bw HB6 H86 HBV6
          cases uh with
          | true =>
            have HN : Hid (¬ FindK s.bl p gs (kpAt s.ks i)) := fun h => by rw [HEx.out] at h; exact h.2.2 (huh.1 rfl)
            clear huh
            gi_wp2
            exact HEND.out _ HB7.out HN.out
          | false =>
            have HFK : Hid (FindK s.bl p gs (kpAt s.ks i)) := by rw [HEx.out]; exact ⟨HPT.out, HSU.out, fun h => nomatch huh.2 h⟩
            clear huh
            have g0 : w7.cell? ⟨q8, 0, none⟩ = some (.string k.p) := (cell_of H87.out 0).trans rfl
            have g1 : w7.cell? ⟨q8, 1, none⟩ = some (.slice u1 k.xs.length d1) := (cell_of H87.out 1).trans rfl
            have g2 : w7.cell? ⟨q8, 2, none⟩ = some (.slice u2 k.ys.length d2) := (cell_of H87.out 2).trans rfl
            have g3 : w7.cell? ⟨q8, 3, none⟩ = some (.int .i64 k.st) := (cell_of H87.out 3).trans rfl
            have g4 : w7.cell? ⟨q8, 4, none⟩ = some (.slice u3 k.fs.length d3) := (cell_of H87.out 4).trans rfl
            have g5 : w7.cell? ⟨q8, 5, none⟩ = some (.string k.b) := (cell_of H87.out 5).trans rfl
            have g6 : w7.cell? ⟨q8, 6, none⟩ = some (.int .i64 k.t) := (cell_of H87.out 6).trans rfl
            gi_wp2_with fail
            clear g0 g1 g2 g3 g4 g5 g6
            refine ⟨trivial, (callsIn_wide.2 (copiedObject_k k _ _ _ _ ((HKP.out _ HBV7.out).read HM.out) HSMK.out)).mono ?_⟩
            rintro e w8 ⟨va, vb, vc, rfl, hobj, bw⟩
            obtain ⟨y1, e1, rfl⟩ := slice_of_owns hobj.names
            obtain ⟨y2, e2, rfl⟩ := slice_of_owns hobj.vals
            obtain ⟨y3, e3, rfl⟩ := slice_of_owns hobj.flds
            have HB8 : Hid (Below W.heap.size W w8) := HB7.out.trans (bw.mono HB7.out.size)
            have HBV8 : Hid (Below w.heap.size w w8) := HBW.out.trans (HB8.out.mono HBW.out.size)
            have HI8 : Hid (w8.heap[q0]? = some (.cells #[.slice o1 n1 c1, .slice o2 n2 c2, .slice o3 n3 c3, .slice o4 n4 c4, .int .i64 s.nx, .int .i64 s.sq] 38) ∧ w8.heap[q1]? = some (.cells #[.int .i64 mt, .string p, .slice oQ n5 cQ, .string bd] 54) ∧ w8.heap[q2]? = some (.cells #[.string ⟨#[]⟩, .slice none 0 0, .slice none 0 0, .int .i64 0, .slice none 0 0, .string ⟨#[]⟩, .int .i64 0] 50) ∧ w8.heap[q3]? = some (.cells #[.bool false] 4)) := ⟨blk_below HI.out.1.1 HB8.out, blk_below HI.out.1.2.1 HB8.out, blk_below HI.out.1.2.2.1 HB8.out, blk_below HI.out.1.2.2.2 HB8.out⟩
            have HOB : Hid (ObjO w8 w7.heap.size (.slice y1 k.xs.length e1) k.xs.length k.xs (.slice y2 k.ys.length e2) k.ys.length k.ys (.slice y3 k.fs.length e3) k.fs.length k.fs) := hobj
            have HSZ7 : Hid (w.heap.size ≤ w7.heap.size) := HBV7.out.size
            clear bw hobj HB7 H87 HBV7
            have z0 : w8.cell? ⟨q2, 0, none⟩ = some (.string ⟨#[]⟩) := (cell_of HI8.out.2.2.1 0).trans rfl
            have z1 : w8.cell? ⟨q2, 1, none⟩ = some (.slice none 0 0) := (cell_of HI8.out.2.2.1 1).trans rfl
            have z2 : w8.cell? ⟨q2, 2, none⟩ = some (.slice none 0 0) := (cell_of HI8.out.2.2.1 2).trans rfl
            have z3 : w8.cell? ⟨q2, 3, none⟩ = some (.int .i64 0) := (cell_of HI8.out.2.2.1 3).trans rfl
            have z4 : w8.cell? ⟨q2, 4, none⟩ = some (.slice none 0 0) := (cell_of HI8.out.2.2.1 4).trans rfl
            have z5 : w8.cell? ⟨q2, 5, none⟩ = some (.string ⟨#[]⟩) := (cell_of HI8.out.2.2.1 5).trans rfl
            have z6 : w8.cell? ⟨q2, 6, none⟩ = some (.int .i64 0) := (cell_of HI8.out.2.2.1 6).trans rfl
            have fz0 : w8.frozen? ⟨q2, 0, none⟩ = false := frozen_of HI8.out.2.2.1 0
            have fz1 : w8.frozen? ⟨q2, 1, none⟩ = false := frozen_of HI8.out.2.2.1 1
            have fz2 : w8.frozen? ⟨q2, 2, none⟩ = false := frozen_of HI8.out.2.2.1 2
            have fz3 : w8.frozen? ⟨q2, 3, none⟩ = false := frozen_of HI8.out.2.2.1 3
            have fz4 : w8.frozen? ⟨q2, 4, none⟩ = false := frozen_of HI8.out.2.2.1 4
            have fz5 : w8.frozen? ⟨q2, 5, none⟩ = false := frozen_of HI8.out.2.2.1 5
            have fz6 : w8.frozen? ⟨q2, 6, none⟩ = false := frozen_of HI8.out.2.2.1 6
            have zb0 : w8.cell? ⟨q3, 0, none⟩ = some (.bool false) := (cell_of HI8.out.2.2.2 0).trans rfl
            have fzb0 : w8.frozen? ⟨q3, 0, none⟩ = false := frozen_of HI8.out.2.2.2 0
            have hQ2 : w.heap.size ≤ q2 := by have := HQ.out; omega
            have hQ3 : w.heap.size ≤ q3 := by have := HQ.out; omega
            have hQn : q2 ≠ q3 := by have := HQ.out; omega
            have HZ2 : Hid (((((((((w8.setCell ⟨q2, 0, none⟩ (.string k.p)).setCell ⟨q2, 1, none⟩ (.slice y1 k.xs.length e1)).setCell ⟨q2, 2, none⟩ (.slice y2 k.ys.length e2)).setCell ⟨q2, 3, none⟩ (.int .i64 k.st)).setCell ⟨q2, 4, none⟩ (.slice y3 k.fs.length e3)).setCell ⟨q2, 5, none⟩ (.string k.b)).setCell ⟨q2, 6, none⟩ (.int .i64 k.t)).setCell ⟨q3, 0, none⟩ (.bool true)).heap[q2]? = some (.cells #[.string k.p, .slice y1 k.xs.length e1, .slice y2 k.ys.length e2, .int .i64 k.st, .slice y3 k.fs.length e3, .string k.b, .int .i64 k.t] 50)) := by show _ = _; rw [heap_setCell_other _ _ _ _ hQn]; have h := (heap_set _ q2 6 _ _ _ (.int .i64 k.t) (heap_set _ q2 5 _ _ _ (.string k.b) (heap_set _ q2 4 _ _ _ (.slice y3 k.fs.length e3) (heap_set _ q2 3 _ _ _ (.int .i64 k.st) (heap_set _ q2 2 _ _ _ (.slice y2 k.ys.length e2) (heap_set _ q2 1 _ _ _ (.slice y1 k.xs.length e1) (heap_set _ q2 0 _ _ _ (.string k.p) HI8.out.2.2.1))))))); simpa using h
            have HZ3 : Hid (((((((((w8.setCell ⟨q2, 0, none⟩ (.string k.p)).setCell ⟨q2, 1, none⟩ (.slice y1 k.xs.length e1)).setCell ⟨q2, 2, none⟩ (.slice y2 k.ys.length e2)).setCell ⟨q2, 3, none⟩ (.int .i64 k.st)).setCell ⟨q2, 4, none⟩ (.slice y3 k.fs.length e3)).setCell ⟨q2, 5, none⟩ (.string k.b)).setCell ⟨q2, 6, none⟩ (.int .i64 k.t)).setCell ⟨q3, 0, none⟩ (.bool true)).heap[q3]? = some (.cells #[.bool true] 4)) := by
              have h0 : w8.heap[q3]? = some (.cells #[.bool false] 4) := HI8.out.2.2.2
              have h1 : ((((((((w8.setCell ⟨q2, 0, none⟩ (.string k.p)).setCell ⟨q2, 1, none⟩ (.slice y1 k.xs.length e1)).setCell ⟨q2, 2, none⟩ (.slice y2 k.ys.length e2)).setCell ⟨q2, 3, none⟩ (.int .i64 k.st)).setCell ⟨q2, 4, none⟩ (.slice y3 k.fs.length e3)).setCell ⟨q2, 5, none⟩ (.string k.b)).setCell ⟨q2, 6, none⟩ (.int .i64 k.t))).heap[q3]? = some (.cells #[.bool false] 4) := by rw [heap_setCell_other _ _ _ _ hQn.symm, heap_setCell_other _ _ _ _ hQn.symm, heap_setCell_other _ _ _ _ hQn.symm, heap_setCell_other _ _ _ _ hQn.symm, heap_setCell_other _ _ _ _ hQn.symm, heap_setCell_other _ _ _ _ hQn.symm, heap_setCell_other _ _ _ _ hQn.symm]; exact h0
              have h := heap_set _ q3 0 _ _ _ (.bool true) h1
              show _ = _
              simpa using h
            have HZB : Hid (Below w.heap.size w ((((((((w8.setCell ⟨q2, 0, none⟩ (.string k.p)).setCell ⟨q2, 1, none⟩ (.slice y1 k.xs.length e1)).setCell ⟨q2, 2, none⟩ (.slice y2 k.ys.length e2)).setCell ⟨q2, 3, none⟩ (.int .i64 k.st)).setCell ⟨q2, 4, none⟩ (.slice y3 k.fs.length e3)).setCell ⟨q2, 5, none⟩ (.string k.b)).setCell ⟨q2, 6, none⟩ (.int .i64 k.t)).setCell ⟨q3, 0, none⟩ (.bool true))) := ((((((((HBV8.out.setCell (p := ⟨q2, 0, none⟩) hQ2 _).setCell (p := ⟨q2, 1, none⟩) hQ2 _).setCell (p := ⟨q2, 2, none⟩) hQ2 _).setCell (p := ⟨q2, 3, none⟩) hQ2 _).setCell (p := ⟨q2, 4, none⟩) hQ2 _).setCell (p := ⟨q2, 5, none⟩) hQ2 _).setCell (p := ⟨q2, 6, none⟩) hQ2 _).setCell (p := ⟨q3, 0, none⟩) hQ3 _)
            have HZK : Hid (KeepsFrom W4.heap.size W ((((((((w8.setCell ⟨q2, 0, none⟩ (.string k.p)).setCell ⟨q2, 1, none⟩ (.slice y1 k.xs.length e1)).setCell ⟨q2, 2, none⟩ (.slice y2 k.ys.length e2)).setCell ⟨q2, 3, none⟩ (.int .i64 k.st)).setCell ⟨q2, 4, none⟩ (.slice y3 k.fs.length e3)).setCell ⟨q2, 5, none⟩ (.string k.b)).setCell ⟨q2, 6, none⟩ (.int .i64 k.t)).setCell ⟨q3, 0, none⟩ (.bool true))) := (((((((((below_from HB8.out _).trans ((KeepsOthers.setCell _ _ _).from _)).trans ((KeepsOthers.setCell _ _ _).from _)).trans ((KeepsOthers.setCell _ _ _).from _)).trans ((KeepsOthers.setCell _ _ _).from _)).trans ((KeepsOthers.setCell _ _ _).from _)).trans ((KeepsOthers.setCell _ _ _).from _)).trans ((KeepsOthers.setCell _ _ _).from _)).trans ((KeepsOthers.setCell _ _ _).from _))
            have HZO : Hid (ObjO ((((((((w8.setCell ⟨q2, 0, none⟩ (.string k.p)).setCell ⟨q2, 1, none⟩ (.slice y1 k.xs.length e1)).setCell ⟨q2, 2, none⟩ (.slice y2 k.ys.length e2)).setCell ⟨q2, 3, none⟩ (.int .i64 k.st)).setCell ⟨q2, 4, none⟩ (.slice y3 k.fs.length e3)).setCell ⟨q2, 5, none⟩ (.string k.b)).setCell ⟨q2, 6, none⟩ (.int .i64 k.t)).setCell ⟨q3, 0, none⟩ (.bool true)) w.heap.size (.slice y1 k.xs.length e1) k.xs.length k.xs (.slice y2 k.ys.length e2) k.ys.length k.ys (.slice y3 k.fs.length e3) k.fs.length k.fs) := by
              have hne : ∀ {T z n} {v : Value} {c : List Value} (ho : w8.ownsRow w7.heap.size T z v n c) (hT : T ≠ 50) (hT2 : T ≠ 4), (((((((((w8.setCell ⟨q2, 0, none⟩ (.string k.p)).setCell ⟨q2, 1, none⟩ (.slice y1 k.xs.length e1)).setCell ⟨q2, 2, none⟩ (.slice y2 k.ys.length e2)).setCell ⟨q2, 3, none⟩ (.int .i64 k.st)).setCell ⟨q2, 4, none⟩ (.slice y3 k.fs.length e3)).setCell ⟨q2, 5, none⟩ (.string k.b)).setCell ⟨q2, 6, none⟩ (.int .i64 k.t)).setCell ⟨q3, 0, none⟩ (.bool true))).ownsRow w.heap.size T z v n c := fun ho hT hT2 => owns_same (owns_wide ho HSZ7.out) (fun g hg => by
                have n2 : g ≠ q2 := own_ne ho HI8.out.2.2.1 hT.symm g hg
                have n3 : g ≠ q3 := own_ne ho HI8.out.2.2.2 hT2.symm g hg
                rw [heap_setCell_other _ _ _ _ n3, heap_setCell_other _ _ _ _ n2, heap_setCell_other _ _ _ _ n2, heap_setCell_other _ _ _ _ n2, heap_setCell_other _ _ _ _ n2, heap_setCell_other _ _ _ _ n2, heap_setCell_other _ _ _ _ n2, heap_setCell_other _ _ _ _ n2])
              exact ⟨hne HOB.out.names (by decide) (by decide), hne HOB.out.vals (by decide) (by decide), hne HOB.out.flds (by decide) (by decide), HOB.out.ne⟩
            clear hQ2 hQ3
            gi_wp2
            exact ⟨HZK.out, ⟨pre, x, rfl, rfl, HPRE.out, by rw [← HIX.out]; exact HFK.out, k, _, _, _, by rw [← HIX.out]; exact HEx.out, HZ2.out, HZ3.out, HZO.out⟩, HZB.out⟩
      · have hcb : ((k.p).toList == (p).toList) = false := text_beq_no hpt
        have HN : Hid (¬ FindK s.bl p gs (kpAt s.ks i)) := fun h => by rw [HEx.out] at h; exact hpt h.1
        clear hpt
        gi_wp2
        refine ⟨trivial, ?_⟩
        gi_wp2
        refine ⟨trivial, ?_⟩
        gi_wp2
        exact HEND.out _ HBA.out HN.out
    case done =>
      rintro D zs W hD rfl ⟨⟨⟨hI, hx⟩, hall⟩, hB⟩ hK
      have HNONE : Hid (∀ i, ¬ FoundAt s p gs i) := fun i hf => by
        have hl : s.ks.length = n3 := by rw [← HKS.out, List.length_map]; exact HLK.out
        have hi : i < n3 := by rw [← hl]; exact hf.1
        have h := hall ⟨n3 - 1 - i, by omega⟩ (List.mem_finRange _)
        dsimp only at h
        rw [show n3 - 1 - (n3 - 1 - i) = i by omega] at h
        exact h hf.2.1
      have HB5 : Hid (Below w.heap.size w W) := hB
      have HI5 : Hid (W.heap[q0]? = some (.cells #[.slice o1 n1 c1, .slice o2 n2 c2, .slice o3 n3 c3, .slice o4 n4 c4, .int .i64 s.nx, .int .i64 s.sq] 38) ∧ W.heap[q1]? = some (.cells #[.int .i64 mt, .string p, .slice oQ n5 cQ, .string bd] 54) ∧ W.heap[q2]? = some (.cells #[.string ⟨#[]⟩, .slice none 0 0, .slice none 0 0, .int .i64 0, .slice none 0 0, .string ⟨#[]⟩, .int .i64 0] 50) ∧ W.heap[q3]? = some (.cells #[.bool false] 4)) := hI
      have HK : Hid (W.heap[D]? = some (.deferred (some []))) := hK
      have HD : Hid (D ≠ q2 ∧ D ≠ q3) := ⟨by have := HQ.out; have := HS4.out; show ¬ _; omega, by have := HQ.out; have := HS4.out; show ¬ _; omega⟩
      have HD2 : Hid (w.heap.size ≤ D) := by have := HS4.out; show _ ≤ _; omega
      clear hall hB hK hx hI
      have z0 : W.cell? ⟨q2, 0, none⟩ = some (.string ⟨#[]⟩) := (cell_of HI5.out.2.2.1 0).trans rfl
      have z1 : W.cell? ⟨q2, 1, none⟩ = some (.slice none 0 0) := (cell_of HI5.out.2.2.1 1).trans rfl
      have z2 : W.cell? ⟨q2, 2, none⟩ = some (.slice none 0 0) := (cell_of HI5.out.2.2.1 2).trans rfl
      have z3 : W.cell? ⟨q2, 3, none⟩ = some (.int .i64 0) := (cell_of HI5.out.2.2.1 3).trans rfl
      have z4 : W.cell? ⟨q2, 4, none⟩ = some (.slice none 0 0) := (cell_of HI5.out.2.2.1 4).trans rfl
      have z5 : W.cell? ⟨q2, 5, none⟩ = some (.string ⟨#[]⟩) := (cell_of HI5.out.2.2.1 5).trans rfl
      have z6 : W.cell? ⟨q2, 6, none⟩ = some (.int .i64 0) := (cell_of HI5.out.2.2.1 6).trans rfl
      have fz0 : W.frozen? ⟨q2, 0, none⟩ = false := frozen_of HI5.out.2.2.1 0
      have fz1 : W.frozen? ⟨q2, 1, none⟩ = false := frozen_of HI5.out.2.2.1 1
      have fz2 : W.frozen? ⟨q2, 2, none⟩ = false := frozen_of HI5.out.2.2.1 2
      have fz3 : W.frozen? ⟨q2, 3, none⟩ = false := frozen_of HI5.out.2.2.1 3
      have fz4 : W.frozen? ⟨q2, 4, none⟩ = false := frozen_of HI5.out.2.2.1 4
      have fz5 : W.frozen? ⟨q2, 5, none⟩ = false := frozen_of HI5.out.2.2.1 5
      have fz6 : W.frozen? ⟨q2, 6, none⟩ = false := frozen_of HI5.out.2.2.1 6
      have zb0 : W.cell? ⟨q3, 0, none⟩ = some (.bool false) := (cell_of HI5.out.2.2.2 0).trans rfl
      have fzb0 : W.frozen? ⟨q3, 0, none⟩ = false := frozen_of HI5.out.2.2.2 0
      have hQ2 : w.heap.size ≤ q2 := by have := HQ.out; omega
      have hQ3 : w.heap.size ≤ q3 := by have := HQ.out; omega
      have hQn : q2 ≠ q3 := by have := HQ.out; omega
      have HZ2 : Hid (((((((((W.setCell ⟨q2, 0, none⟩ (.string ⟨#[]⟩)).setCell ⟨q2, 1, none⟩ (.slice none 0 0)).setCell ⟨q2, 2, none⟩ (.slice none 0 0)).setCell ⟨q2, 3, none⟩ (.int .i64 0)).setCell ⟨q2, 4, none⟩ (.slice none 0 0)).setCell ⟨q2, 5, none⟩ (.string ⟨#[]⟩)).setCell ⟨q2, 6, none⟩ (.int .i64 0)).setCell ⟨q3, 0, none⟩ (.bool false)).heap[q2]? = some (.cells #[.string ⟨#[]⟩, .slice none 0 0, .slice none 0 0, .int .i64 0, .slice none 0 0, .string ⟨#[]⟩, .int .i64 0] 50)) := by show _ = _; rw [heap_setCell_other _ _ _ _ hQn]; have h := (heap_set _ q2 6 _ _ _ (.int .i64 0) (heap_set _ q2 5 _ _ _ (.string ⟨#[]⟩) (heap_set _ q2 4 _ _ _ (.slice none 0 0) (heap_set _ q2 3 _ _ _ (.int .i64 0) (heap_set _ q2 2 _ _ _ (.slice none 0 0) (heap_set _ q2 1 _ _ _ (.slice none 0 0) (heap_set _ q2 0 _ _ _ (.string ⟨#[]⟩) HI5.out.2.2.1))))))); simpa using h
      have HZ3 : Hid (((((((((W.setCell ⟨q2, 0, none⟩ (.string ⟨#[]⟩)).setCell ⟨q2, 1, none⟩ (.slice none 0 0)).setCell ⟨q2, 2, none⟩ (.slice none 0 0)).setCell ⟨q2, 3, none⟩ (.int .i64 0)).setCell ⟨q2, 4, none⟩ (.slice none 0 0)).setCell ⟨q2, 5, none⟩ (.string ⟨#[]⟩)).setCell ⟨q2, 6, none⟩ (.int .i64 0)).setCell ⟨q3, 0, none⟩ (.bool false)).heap[q3]? = some (.cells #[.bool false] 4)) := by
        have h0 : W.heap[q3]? = some (.cells #[.bool false] 4) := HI5.out.2.2.2
        have h1 : ((((((((W.setCell ⟨q2, 0, none⟩ (.string ⟨#[]⟩)).setCell ⟨q2, 1, none⟩ (.slice none 0 0)).setCell ⟨q2, 2, none⟩ (.slice none 0 0)).setCell ⟨q2, 3, none⟩ (.int .i64 0)).setCell ⟨q2, 4, none⟩ (.slice none 0 0)).setCell ⟨q2, 5, none⟩ (.string ⟨#[]⟩)).setCell ⟨q2, 6, none⟩ (.int .i64 0))).heap[q3]? = some (.cells #[.bool false] 4) := by rw [heap_setCell_other _ _ _ _ hQn.symm, heap_setCell_other _ _ _ _ hQn.symm, heap_setCell_other _ _ _ _ hQn.symm, heap_setCell_other _ _ _ _ hQn.symm, heap_setCell_other _ _ _ _ hQn.symm, heap_setCell_other _ _ _ _ hQn.symm, heap_setCell_other _ _ _ _ hQn.symm]; exact h0
        have h := heap_set _ q3 0 _ _ _ (.bool false) h1
        show _ = _
        simpa using h
      have HZB : Hid (Below w.heap.size w ((((((((W.setCell ⟨q2, 0, none⟩ (.string ⟨#[]⟩)).setCell ⟨q2, 1, none⟩ (.slice none 0 0)).setCell ⟨q2, 2, none⟩ (.slice none 0 0)).setCell ⟨q2, 3, none⟩ (.int .i64 0)).setCell ⟨q2, 4, none⟩ (.slice none 0 0)).setCell ⟨q2, 5, none⟩ (.string ⟨#[]⟩)).setCell ⟨q2, 6, none⟩ (.int .i64 0)).setCell ⟨q3, 0, none⟩ (.bool false))) := ((((((((HB5.out.setCell (p := ⟨q2, 0, none⟩) hQ2 _).setCell (p := ⟨q2, 1, none⟩) hQ2 _).setCell (p := ⟨q2, 2, none⟩) hQ2 _).setCell (p := ⟨q2, 3, none⟩) hQ2 _).setCell (p := ⟨q2, 4, none⟩) hQ2 _).setCell (p := ⟨q2, 5, none⟩) hQ2 _).setCell (p := ⟨q2, 6, none⟩) hQ2 _).setCell (p := ⟨q3, 0, none⟩) hQ3 _)
      clear hQ2 hQ3
      gi_wp2
      clear z0 z1 z2 z3 z4 z5 z6 fz0 fz1 fz2 fz3 fz4 fz5 fz6 zb0 fzb0
      have hK' : (((((((((W.setCell ⟨q2, 0, none⟩ (.string ⟨#[]⟩)).setCell ⟨q2, 1, none⟩ (.slice none 0 0)).setCell ⟨q2, 2, none⟩ (.slice none 0 0)).setCell ⟨q2, 3, none⟩ (.int .i64 0)).setCell ⟨q2, 4, none⟩ (.slice none 0 0)).setCell ⟨q2, 5, none⟩ (.string ⟨#[]⟩)).setCell ⟨q2, 6, none⟩ (.int .i64 0)).setCell ⟨q3, 0, none⟩ (.bool false))).heap[D]? = some (.deferred (some [])) := by
        rw [heap_setCell_other _ _ _ _ HD.out.2, heap_setCell_other _ _ _ _ HD.out.1, heap_setCell_other _ _ _ _ HD.out.1, heap_setCell_other _ _ _ _ HD.out.1, heap_setCell_other _ _ _ _ HD.out.1, heap_setCell_other _ _ _ _ HD.out.1, heap_setCell_other _ _ _ _ HD.out.1, heap_setCell_other _ _ _ _ HD.out.1]
        exact HK.out
      refine ⟨by simp, .inl ⟨_, _, rfl, run_takeDeferred hK', ?_⟩⟩
      have g2 := blk_kept HZ2.out (grownBy_putObj' _ D (.deferred none)) (fun r e => by cases e; exact ⟨_, hK', rfl⟩)
      have g3 := blk_kept HZ3.out (grownBy_putObj' _ D (.deferred none)) (fun r e => by cases e; exact ⟨_, hK', rfl⟩)
      refine ⟨.tuple #[.agg #[.string ⟨#[]⟩, .slice none 0 0, .slice none 0 0, .int .i64 0, .slice none 0 0, .string ⟨#[]⟩, .int .i64 0], .bool false], ?_, .inr ⟨fun _ => HNONE.out, rfl, HZB.out.trans (belowK_b (w := w) (Nat.le_refl _) _ D _ _ HD2.out hK' rfl rfl)⟩⟩
      have k0 := (cell_of g2 0).trans rfl
      have k1 := (cell_of g2 1).trans rfl
      have k2 := (cell_of g2 2).trans rfl
      have k3 := (cell_of g2 3).trans rfl
      have k4 := (cell_of g2 4).trans rfl
      have k5 := (cell_of g2 5).trans rfl
      have k6 := (cell_of g2 6).trans rfl
      have kb0 := (cell_of g3 0).trans rfl
      simp [results, Tryz.f13, go_sem, k0, k1, k2, k3, k4, k5, k6, kb0]
    case stop =>
      rintro D c pq W hD hpq ⟨⟨pre, x, rfl, rfl, hpre, hfk, k, y1, y2, y3, hk, h2, h3, hob⟩, hB⟩ hK
      have HFA : Hid (FoundAt s p gs (n3 - 1 - x.1)) := by
        have hl : s.ks.length = n3 := by rw [← HKS.out, List.length_map]; exact HLK.out
        refine ⟨by rw [hl]; have := x.2; omega, hfk, fun j h1 h2 => ?_⟩
        rw [hl] at h2
        have hm := fin_prefix hpq ⟨n3 - 1 - j, by omega⟩ (by dsimp only; omega)
        have h := hpre _ hm
        dsimp only at h
        rw [show n3 - 1 - (n3 - 1 - j) = j by omega] at h
        exact h
      obtain ⟨i, hi⟩ : ∃ i, i = n3 - 1 - x.1 := ⟨_, rfl⟩
      rw [← hi] at HFA hk
      have HD2 : Hid (w.heap.size ≤ D) := by have := HS4.out; show _ ≤ _; omega
      obtain ⟨z1, e1, rfl⟩ := slice_of_owns hob.names
      obtain ⟨z2, e2, rfl⟩ := slice_of_owns hob.vals
      obtain ⟨z3, e3, rfl⟩ := slice_of_owns hob.flds
      clear hfk hpre hi hpq
      gi_wp2
      refine ⟨by simp, .inl ⟨_, _, rfl, run_takeDeferred hK, ?_⟩⟩
      have g2 := blk_kept h2 (grownBy_putObj' _ D (.deferred none)) (fun r e => by cases e; exact ⟨_, hK, rfl⟩)
      have g3 := blk_kept h3 (grownBy_putObj' _ D (.deferred none)) (fun r e => by cases e; exact ⟨_, hK, rfl⟩)
      have go := objO_kept hob (grownBy_putObj' _ D (.deferred none)) (fun r e => by cases e; exact ⟨_, hK, rfl⟩)
      have HE : Hid (FindIs s p gs w (.returned (.tuple #[.agg #[.string k.p, .slice z1 k.xs.length e1, .slice z2 k.ys.length e2, .int .i64 k.st, .slice z3 k.fs.length e3, .string k.b, .int .i64 k.t], .bool true])) (W.putObj D (.deferred none))) := by
        refine .inl ⟨i, .slice z1 k.xs.length e1, .slice z2 k.ys.length e2, .slice z3 k.fs.length e3, HYus.out, HFA.out, ?_⟩
        rw [hk]
        exact ⟨rfl, go, hB.trans (belowK_b (w := w) (Nat.le_refl _) _ D _ _ HD2.out hK rfl rfl)⟩
      refine ⟨.tuple #[.agg #[.string k.p, .slice z1 k.xs.length e1, .slice z2 k.ys.length e2, .int .i64 k.st, .slice z3 k.fs.length e3, .string k.b, .int .i64 k.t], .bool true], ?_, HE.out⟩
      have k0 := (cell_of g2 0).trans rfl
      have k1 := (cell_of g2 1).trans rfl
      have k2 := (cell_of g2 2).trans rfl
      have k3 := (cell_of g2 3).trans rfl
      have k4 := (cell_of g2 4).trans rfl
      have k5 := (cell_of g2 5).trans rfl
      have k6 := (cell_of g2 6).trans rfl
      have kb0 := (cell_of g3 0).trans rfl
      simp [results, Tryz.f13, go_sem, k0, k1, k2, k3, k4, k5, k6, kb0]

end Go.Proofs.YtcipbkkpkhameaaGreat

namespace Go.Proofs.YtcipbkkpkhameaaGreat
open Go.RowKit Go.WideShapes
open Go.Lib hiding intOf

set_option maxRecDepth 100000 in
/-- An object's seven cells among the arguments. -/
theorem objCells {H : Type} {enc : TypeId × Value → H} {W : World} {fuel : Nat} {d0 d1 d2 d3 d4 d5 d6 : Value} {x : DataW H × List MemPlace} (hf : DataW.trod enc Tryz.prog W 0 (fun _ => true) true fuel 104 [d0, d1, d2, d3, d4, d5, d6] = some x) :
    ∃ (p : ByteArray) (a1 : Option Addr) (n1 c1 : Nat) (xs : List ByteArray) (a2 : Option Addr) (n2 c2 : Nat) (ys : List ByteArray) (st : Int) (a3 : Option Addr) (n3 c3 : Nat) (fs : List (ByteArray × ByteArray)) (b : ByteArray) (t : Int), (d0 = .string p ∧ d1 = .slice a1 n1 c1 ∧ d2 = .slice a2 n2 c2 ∧ d3 = .int .i64 st ∧ d4 = .slice a3 n3 c3 ∧ d5 = .string b ∧ d6 = .int .i64 t) ∧ ArgT W W.heap.size a1 n1 xs ∧ ArgT W W.heap.size a2 n2 ys ∧ ArgF W W.heap.size a3 n3 fs ∧ n1 ≤ maxLen ∧ n2 ≤ maxLen ∧ n3 ≤ maxLen ∧ (∀ i, i < n1 → (textAt xs i).size ≤ maxLen) ∧ (∀ i, i < n2 → (textAt ys i).size ≤ maxLen) ∧ WalkF n3 fs ∧ p.size ≤ maxLen ∧ b.size ≤ maxLen := by
  obtain ⟨ys, q, _, _, _, hyl, hg⟩ := DataW.trod_struct Tryz.underlying104 hf
  have hcR : Tryz.prog.cellsOf 102 = 3 := by kernel_rfl
  have e3 : Tryz.prog.cellsOf 3 = 1 := by kernel_rfl
  have e9 : Tryz.prog.cellsOf 9 = 1 := by kernel_rfl
  have eL : Tryz.prog.cellsOf 42 = 1 := by kernel_rfl
  have eS : Tryz.prog.cellsOf 22 = 1 := by kernel_rfl
  have g0 := hg 0 _ rfl
  have g1 := hg 1 _ rfl
  have g2 := hg 2 _ rfl
  have g3 := hg 3 _ rfl
  have g4 := hg 4 _ rfl
  simp [e3, e9, eS, hcR] at g0 g1 g2 g3 g4
  have hy5 : ys.length = 5 := hyl
  rw [List.getElem?_eq_getElem (show 0 < ys.length by omega)] at g0
  rw [List.getElem?_eq_getElem (show 1 < ys.length by omega)] at g1
  rw [List.getElem?_eq_getElem (show 2 < ys.length by omega)] at g2
  rw [List.getElem?_eq_getElem (show 3 < ys.length by omega)] at g3
  rw [List.getElem?_eq_getElem (show 4 < ys.length by omega)] at g4
  obtain ⟨zs, q2, _, _, _, hzl, hk⟩ := DataW.trod_struct Tryz.underlying102 g3
  have k0 := hk 0 _ rfl
  have k1 := hk 1 _ rfl
  have k2 := hk 2 _ rfl
  simp [e3, e9, eL] at k0 k1 k2
  have hz3 : zs.length = 3 := hzl
  rw [List.getElem?_eq_getElem (show 0 < zs.length by omega)] at k0
  rw [List.getElem?_eq_getElem (show 1 < zs.length by omega)] at k1
  rw [List.getElem?_eq_getElem (show 2 < zs.length by omega)] at k2
  obtain ⟨p, hp, _, hps⟩ := DataW.trod_string Tryz.underlying9 g0
  obtain ⟨t, ht, _, _⟩ := DataW.trod_int Tryz.underlying3 g4
  obtain ⟨st, hst, _, _⟩ := DataW.trod_int Tryz.underlying3 k0
  obtain ⟨b, hb, _, hbs⟩ := DataW.trod_string Tryz.underlying9 k2
  obtain ⟨a1, n1, c1, rfl⟩ : ∃ a n cap, d1 = .slice a n cap := by
    rcases DataW.trod_slice Tryz.underlying22 g1 with ⟨h, _⟩ | ⟨a, n, cap, _, _, _, _, h, _⟩
    · exact ⟨none, 0, 0, by simpa using h⟩
    · exact ⟨_, n, cap, by simpa using h⟩
  obtain ⟨a2, n2, c2, rfl⟩ : ∃ a n cap, d2 = .slice a n cap := by
    rcases DataW.trod_slice Tryz.underlying22 g2 with ⟨h, _⟩ | ⟨a, n, cap, _, _, _, _, h, _⟩
    · exact ⟨none, 0, 0, by simpa using h⟩
    · exact ⟨_, n, cap, by simpa using h⟩
  obtain ⟨a3, n3, c3, rfl⟩ : ∃ a n cap, d4 = .slice a n cap := by
    rcases DataW.trod_slice Tryz.underlying42 k1 with ⟨h, _⟩ | ⟨a, n, cap, _, _, _, _, h, _⟩
    · exact ⟨none, 0, 0, by simpa using h⟩
    · exact ⟨_, n, cap, by simpa using h⟩
  obtain ⟨xs, x1, x2, x3⟩ := openTexts g1
  obtain ⟨ws, y1, y2, y3⟩ := openTexts g2
  obtain ⟨fs, z1, z2, z3⟩ := openFields k1
  simp only [List.cons.injEq, and_true] at hp ht hst hb
  subst hp ht hst hb
  exact ⟨p, a1, n1, c1, xs, a2, n2, c2, ws, st, a3, n3, c3, fs, b, t, ⟨rfl, rfl, rfl, rfl, rfl, rfl, rfl⟩, x1, y1, z1, x2, y2, z2, x3, y3, z3, hps, hbs⟩

set_option maxRecDepth 100000 in
/-- A list of what is kept among the arguments. -/
theorem openKeptS {H : Type} {enc : TypeId × Value → H} {W : World} {fuel : Nat} {a : Option Addr} {n cap : Nat} {x : DataW H × List MemPlace} (h : DataW.trod enc Tryz.prog W 0 (fun _ => true) true fuel 26 [.slice a n cap] = some x) :
    ∃ ks, ArgKept W W.heap.size a n ks ∧ n ≤ maxLen ∧ ∀ k ∈ ks, KpMax k := by
  rcases Go.Deep.open_slice Tryz.underlying26 h with ⟨hcs, _⟩ | ⟨ad, len, c, m, q, Dd, Pl, hcs, _, hl, hm, hmm, _, hx⟩
  · simp at hcs
    obtain ⟨rfl, rfl, rfl⟩ := hcs
    exact ⟨[], ⟨rfl, fun i hi => absurd hi (by omega)⟩, Nat.zero_le _, fun x hx => by simp at hx⟩
  · simp at hcs
    obtain ⟨rfl, rfl, rfl⟩ := hcs
    have hm2 : m = cap := by simpa using hmm
    have ce : Tryz.prog.cellsOf 106 = 9 := by kernel_rfl
    have co : Tryz.prog.cellsOf 104 = 7 := by kernel_rfl
    have ci : Tryz.prog.cellsOf 3 = 1 := by kernel_rfl
    have each : ∀ i, i < n → ∃ y : KpD, (∃ (a1 : Option Addr) (n1 c1 : Nat) (a2 : Option Addr) (n2 c2 : Nat) (a3 : Option Addr) (n3 c3 : Nat), (W.cell? (ad.add (i * 9 + 0)) = some (.string y.p) ∧ W.cell? (ad.add (i * 9 + 1)) = some (.slice a1 n1 c1) ∧ W.cell? (ad.add (i * 9 + 2)) = some (.slice a2 n2 c2) ∧ W.cell? (ad.add (i * 9 + 3)) = some (.int .i64 y.st) ∧ W.cell? (ad.add (i * 9 + 4)) = some (.slice a3 n3 c3) ∧ W.cell? (ad.add (i * 9 + 5)) = some (.string y.b) ∧ W.cell? (ad.add (i * 9 + 6)) = some (.int .i64 y.t) ∧ W.cell? (ad.add (i * 9 + 7)) = some (.int .i64 y.a) ∧ W.cell? (ad.add (i * 9 + 8)) = some (.int .i64 y.q)) ∧ ArgT W W.heap.size a1 n1 y.xs ∧ ArgT W W.heap.size a2 n2 y.ys ∧ ArgF W W.heap.size a3 n3 y.fs) ∧ KpMax y := by
      intro i hi
      obtain ⟨cs', h1, h2⟩ := hx i (by omega)
      rw [ce] at h1
      obtain ⟨_, hlen, hcell⟩ := World.cells?_some h1
      obtain ⟨xs, k, hk, hxy, _, hxl, hf⟩ := DataW.trod_struct Tryz.underlying106 h2
      match xs, hxl, cs', hlen with
      | [x0, x1, x2], _, [v0, v1, v2, v3, v4, v5, v6, v7, v8], _ =>
        have g0 := hf 0 _ rfl
        have g1 := hf 1 _ rfl
        have g2 := hf 2 _ rfl
        simp [ci, co] at g0 g1 g2
        obtain ⟨p, a1, n1, c1, xs, a2, n2, c2, ys, st, a3, n3, c3, fs, b, t, ⟨rfl, rfl, rfl, rfl, rfl, rfl, rfl⟩, w1, w2, w3, m1, m2, m3, s1, s2, s3, s4, s5⟩ := objCells g0
        obtain ⟨ka, e1, _, _⟩ := DataW.trod_int Tryz.underlying3 g1
        obtain ⟨kq, e2, _, _⟩ := DataW.trod_int Tryz.underlying3 g2
        simp only [List.cons.injEq, and_true] at e1 e2
        subst e1 e2
        have c0x := hcell 0 (by omega)
        have c1x := hcell 1 (by omega)
        have c2x := hcell 2 (by omega)
        have c3x := hcell 3 (by omega)
        have c4x := hcell 4 (by omega)
        have c5x := hcell 5 (by omega)
        have c6x := hcell 6 (by omega)
        have c7x := hcell 7 (by omega)
        have c8x := hcell 8 (by omega)
        rw [Go.Deep.add_add] at c0x c1x c2x c3x c4x c5x c6x c7x c8x
        refine ⟨⟨p, xs, ys, st, fs, b, t, ka, kq⟩, ⟨a1, n1, c1, a2, n2, c2, a3, n3, c3, ⟨by simpa using c0x, by simpa using c1x, by simpa using c2x, by simpa using c3x, by simpa using c4x, by simpa using c5x, by simpa using c6x, by simpa using c7x, by simpa using c8x⟩, w1, w2, w3⟩, ?_⟩
        unfold KpMax
        show xs.length ≤ maxLen ∧ ys.length ≤ maxLen ∧ fs.length ≤ maxLen ∧ (∀ i, i < xs.length → (textAt xs i).size ≤ maxLen) ∧ (∀ i, i < ys.length → (textAt ys i).size ≤ maxLen) ∧ WalkF fs.length fs ∧ p.size ≤ maxLen ∧ b.size ≤ maxLen
        rw [w1.len, w2.len, w3.len]
        exact ⟨m1, m2, m3, s1, s2, s3, s4, s5⟩
    haveI : Inhabited KpD := ⟨zeroK⟩
    obtain ⟨q, hq⟩ := Go.Deep.choose_lt each
    have hat : ∀ i, i < n → kpAt ((List.range n).map q) i = q i := fun i hi => by
      unfold kpAt
      rw [List.getD_eq_getElem?_getD, List.getElem?_map, List.getElem?_range hi]
      rfl
    refine ⟨(List.range n).map q, ⟨by simp, fun i hi => ?_⟩, by omega, fun x hx => ?_⟩
    · obtain ⟨⟨a1, n1, c1, a2, n2, c2, a3, n3, c3, cc, w1, w2, w3⟩, _⟩ := hq i hi
      have hsp : ad.spot = none := by
        obtain ⟨⟨_, _, _, _, _, _, _, _, _, c3, _⟩, _⟩ := hq 0 (by omega)
        have := World.cell?_spot c3.1
        simpa [Addr.add] using this
      obtain ⟨b, off, sp⟩ := ad
      simp only at hsp
      subst hsp
      simp only [addr_add] at cc
      rw [hat i hi]
      have hlt := World.block_lt_of_cell? W _ cc.1
      exact ⟨b, off, rfl, hlt, a1, n1, c1, a2, n2, c2, a3, n3, c3, ⟨by simpa [Nat.add_assoc] using cc.1, by simpa [Nat.add_assoc] using cc.2.1, by simpa [Nat.add_assoc] using cc.2.2.1, by simpa [Nat.add_assoc] using cc.2.2.2.1, by simpa [Nat.add_assoc] using cc.2.2.2.2.1, by simpa [Nat.add_assoc] using cc.2.2.2.2.2.1, by simpa [Nat.add_assoc] using cc.2.2.2.2.2.2.1, by simpa [Nat.add_assoc] using cc.2.2.2.2.2.2.2.1, by simpa [Nat.add_assoc] using cc.2.2.2.2.2.2.2.2⟩, w1, w2, w3⟩
    · obtain ⟨i, hi, rfl⟩ := List.mem_map.1 hx
      exact (hq i (List.mem_range.1 hi)).2

set_option maxRecDepth 100000 in
/-- A store among the arguments: what it holds. -/
theorem openShelf {H : Type} {enc : TypeId × Value → H} {W : World} {r : Reach} {b0 : Nat} {v : Value} {d : DataW H} {ps : List MemPlace} (hval : Value.okWide Tryz.prog W r b0 29 v) (h : DataW.Trod enc Tryz.prog W 0 (fun _ => true) true 29 v d ps) :
    ∃ (a1 : Option Addr) (n1 c1 : Nat) (cs : List ByteArray) (a2 : Option Addr) (n2 c2 : Nat) (ws : List (Int × ByteArray)) (a3 : Option Addr) (n3 c3 : Nat) (ks : List KpD) (a4 : Option Addr) (n4 c4 : Nat) (bl : List (Int × ByteArray × ByteArray × Int)) (nx sq : Int), v = .agg #[.slice a1 n1 c1, .slice a2 n2 c2, .slice a3 n3 c3, .slice a4 n4 c4, .int .i64 nx, .int .i64 sq] ∧ ArgT W W.heap.size a1 n1 cs ∧ ArgWrite W W.heap.size a2 n2 ws ∧ ArgKept W W.heap.size a3 n3 ks ∧ ArgBan W W.heap.size a4 n4 bl ∧ (n1 ≤ maxLen ∧ n2 ≤ maxLen ∧ n3 ≤ maxLen ∧ n4 ≤ maxLen ∧ (∀ i, i < n1 → (textAt cs i).size ≤ maxLen) ∧ (∀ x ∈ ws, (x.2).size ≤ maxLen) ∧ (∀ k ∈ ks, KpMax k) ∧ ∀ x ∈ bl, (x.2.1).size ≤ maxLen ∧ (x.2.2.1).size ≤ maxLen) := by
  obtain ⟨cs, rfl, hsz⟩ := okWide_struct Tryz.underlying29 hval
  obtain ⟨fuel, hf⟩ := h
  obtain ⟨ys, q, _, _, _, hyl, hg⟩ := DataW.trod_struct Tryz.underlying29 hf
  have hc6 : Tryz.prog.cellsOf 29 = 6 := by kernel_rfl
  have hcD : Tryz.prog.cellsOf 25 = 2 := by kernel_rfl
  have e3 : Tryz.prog.cellsOf 3 = 1 := by kernel_rfl
  have eK : Tryz.prog.cellsOf 26 = 1 := by kernel_rfl
  have eB : Tryz.prog.cellsOf 27 = 1 := by kernel_rfl
  have eS : Tryz.prog.cellsOf 22 = 1 := by kernel_rfl
  have eW : Tryz.prog.cellsOf 23 = 1 := by kernel_rfl
  rw [hc6] at hsz
  obtain ⟨l⟩ := cs
  obtain ⟨d0, d1, d2, d3, d4, d5, rfl⟩ : ∃ d0 d1 d2 d3 d4 d5, l = [d0, d1, d2, d3, d4, d5] := by
    match l, hsz with
    | [d0, d1, d2, d3, d4, d5], _ => exact ⟨d0, d1, d2, d3, d4, d5, rfl⟩
  have g0 := hg 0 _ rfl
  have g1 := hg 1 _ rfl
  have g2 := hg 2 _ rfl
  have g3 := hg 3 _ rfl
  have g4 := hg 4 _ rfl
  simp [Value.cells, e3, eK, eB, hcD] at g0 g1 g2 g3 g4
  have hy5 : ys.length = 5 := hyl
  rw [List.getElem?_eq_getElem (show 0 < ys.length by omega)] at g0
  rw [List.getElem?_eq_getElem (show 1 < ys.length by omega)] at g1
  rw [List.getElem?_eq_getElem (show 2 < ys.length by omega)] at g2
  rw [List.getElem?_eq_getElem (show 3 < ys.length by omega)] at g3
  rw [List.getElem?_eq_getElem (show 4 < ys.length by omega)] at g4
  obtain ⟨zs, q2, _, _, _, hzl, hk⟩ := DataW.trod_struct Tryz.underlying25 g0
  have k0 := hk 0 _ rfl
  have k1 := hk 1 _ rfl
  simp [eS, eW] at k0 k1
  have hz2 : zs.length = 2 := hzl
  rw [List.getElem?_eq_getElem (show 0 < zs.length by omega)] at k0
  rw [List.getElem?_eq_getElem (show 1 < zs.length by omega)] at k1
  obtain ⟨a1, n1, c1, rfl⟩ : ∃ a n cap, d0 = .slice a n cap := by
    rcases DataW.trod_slice Tryz.underlying22 k0 with ⟨h, _⟩ | ⟨a, n, cap, _, _, _, _, h, _⟩
    · exact ⟨none, 0, 0, by simpa using h⟩
    · exact ⟨_, n, cap, by simpa using h⟩
  obtain ⟨a2, n2, c2, rfl⟩ : ∃ a n cap, d1 = .slice a n cap := by
    rcases DataW.trod_slice Tryz.underlying23 k1 with ⟨h, _⟩ | ⟨a, n, cap, _, _, _, _, h, _⟩
    · exact ⟨none, 0, 0, by simpa using h⟩
    · exact ⟨_, n, cap, by simpa using h⟩
  obtain ⟨a3, n3, c3, rfl⟩ : ∃ a n cap, d2 = .slice a n cap := by
    rcases DataW.trod_slice Tryz.underlying26 g1 with ⟨h, _⟩ | ⟨a, n, cap, _, _, _, _, h, _⟩
    · exact ⟨none, 0, 0, by simpa using h⟩
    · exact ⟨_, n, cap, by simpa using h⟩
  obtain ⟨a4, n4, c4, rfl⟩ : ∃ a n cap, d3 = .slice a n cap := by
    rcases DataW.trod_slice Tryz.underlying27 g2 with ⟨h, _⟩ | ⟨a, n, cap, _, _, _, _, h, _⟩
    · exact ⟨none, 0, 0, by simpa using h⟩
    · exact ⟨_, n, cap, by simpa using h⟩
  obtain ⟨nx, h4, _, _⟩ := DataW.trod_int Tryz.underlying3 g3
  obtain ⟨sq, h5, _, _⟩ := DataW.trod_int Tryz.underlying3 g4
  obtain ⟨xs, x1, x2, x3⟩ := openTexts k0
  obtain ⟨ws, y1, y2, y3⟩ := openWriteS k1
  obtain ⟨ks, z1, z2, z3⟩ := openKeptS g1
  obtain ⟨bl, b1, b2, b3⟩ := openBanS g2
  simp only [List.cons.injEq, and_true] at h4 h5
  subst h4 h5
  exact ⟨a1, n1, c1, xs, a2, n2, c2, ws, a3, n3, c3, ks, a4, n4, c4, bl, nx, sq, rfl, x1, y1, z1, b1, x2, y2, z2, b2, x3, y3, z3, b3⟩

end Go.Proofs.YtcipbkkpkhameaaGreat
