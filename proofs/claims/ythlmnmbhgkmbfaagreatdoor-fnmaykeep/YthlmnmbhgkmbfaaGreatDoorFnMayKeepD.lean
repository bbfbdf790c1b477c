/- What the proof of FnMayKeep leans on: contracts of the program's and the specification's functions, and plain facts (part 4 of 5). -/
import Derived.Test.YthlmnmbhgkmbfaaGreatDoorFnMayKeepC
namespace Go.Proofs.YthlmnmbhgkmbfaaGreatDoor
open Go.RowKit
open Go.Lib hiding intOf

set_option maxHeartbeats 1000000 in
theorem isRightGet_any (m : Int) (p : ByteArray) (v : Value) (b : ByteArray) (n base : Nat) (fs : List (ByteArray × ByteArray)) (w : World) (hv : FieldsV w base v n fs) (hn : n ≤ 1073741824) (hsz : WalkF n fs) (hp : p.size ≤ maxLen) (hb : b.size ≤ maxLen) :
    Calls Tryz.prog 16 #[.agg #[.int .i64 m, .string p, v, .string b]] w fun e w' => BoolIs (ReqP m p fs b ∧ m = 1) w e w' := by
  obtain ⟨oa, cap, rfl, _⟩ := hv.slice
  obtain ⟨r, hr⟩ : ∃ r, r = w.heap.size := ⟨_, rfl⟩
  obtain ⟨W1, hW1⟩ : ∃ W, W = w.alloc (.cells #[.int .i64 m, .string p, .slice oa n cap, .string b] 26) := ⟨_, rfl⟩
  have HW1 : Hid (w.alloc (.cells #[.int .i64 m, .string p, .slice oa n cap, .string b] 26) = W1) := hW1.symm
  have H1 : Hid (W1.heap[r]? = some (.cells #[.int .i64 m, .string p, .slice oa n cap, .string b] 26)) := by show _ = _; rw [hW1, hr]; exact heap_alloc_new w _
  have HB1 : Hid (Below w.heap.size w W1) := by show Below _ _ _; rw [hW1]; exact (Below.refl _ _).alloc (Nat.le_refl _) _
  have hv1 := hv.below HB1.out
  obtain ⟨⟨c0, c1, c2, c3⟩, _⟩ := four_facts H1.out
  clear hW1 hv
  go_enter Tryz.func16, Tryz.ntmps16
  go_upto_region 1 with fail
  rw [HW1.out, ← hr]
  clear hr HW1
  go_wp2_with fail
  refine (implReqOk_any m p _ b n base fs _ hv1 hn hsz hp hb).mono ?_
  rintro e w2 ⟨t, rfl, ht, b2⟩
  have HB2 : Hid (Below w.heap.size w w2) := HB1.out.trans (b2.mono HB1.out.size)
  have H2 : Hid (w2.heap[r]? = some (.cells #[.int .i64 m, .string p, .slice oa n cap, .string b] 26)) := by show _ = _; rw [b2.block r (Array.getElem?_eq_some_iff.1 H1.out).1]; exact H1.out
  clear c0 c1 c2 c3 hv1 H1 HB1 b2
  cases t with
  | false =>
    have HF : Hid (¬ (ReqP m p fs b ∧ m = 1)) := fun h => nomatch ht.2 h.1
    clear ht
    go_wp2_with fail
    go_ret
    exact BoolIs.no HF.out HB2.out
  | true =>
    have HQ : Hid (ReqP m p fs b) := ht.1 rfl
    obtain ⟨⟨c0, _⟩, _⟩ := four_facts H2.out
    have HT : Hid ((m == 1) = true ↔ (ReqP m p fs b ∧ m = 1)) := by show _ ↔ _; simp [HQ.out]
    clear ht HQ H2
    go_wp2_with fail
    go_ret
    exact ⟨_, rfl, HT.out, HB2.out⟩

set_option maxHeartbeats 1000000 in
theorem isRightAnswer_any (st : Int) (v : Value) (b : ByteArray) (n base : Nat) (fs : List (ByteArray × ByteArray)) (w : World) (hv : FieldsV w base v n fs) (hn : n ≤ 1073741824) (hsz : WalkF n fs) (hb : b.size ≤ maxLen) :
    Calls Tryz.prog 17 #[.agg #[.int .i64 st, v, .string b]] w fun e w' => BoolIs (RespP st fs b ∧ st = 200) w e w' := by
  obtain ⟨oa, cap, rfl, _⟩ := hv.slice
  obtain ⟨r, hr⟩ : ∃ r, r = w.heap.size := ⟨_, rfl⟩
  obtain ⟨W1, hW1⟩ : ∃ W, W = w.alloc (.cells #[.int .i64 st, .slice oa n cap, .string b] 28) := ⟨_, rfl⟩
  have HW1 : Hid (w.alloc (.cells #[.int .i64 st, .slice oa n cap, .string b] 28) = W1) := hW1.symm
  have H1 : Hid (W1.heap[r]? = some (.cells #[.int .i64 st, .slice oa n cap, .string b] 28)) := by show _ = _; rw [hW1, hr]; exact heap_alloc_new w _
  have HB1 : Hid (Below w.heap.size w W1) := by show Below _ _ _; rw [hW1]; exact (Below.refl _ _).alloc (Nat.le_refl _) _
  have hv1 := hv.below HB1.out
  obtain ⟨⟨c0, c1, c2⟩, _⟩ := three_facts H1.out
  clear hW1 hv
  go_enter Tryz.func17, Tryz.ntmps17
  go_upto_region 1 with fail
  rw [HW1.out, ← hr]
  clear hr HW1
  go_wp2_with fail
  refine (implRespOk_any st _ b n base fs _ hv1 hn hsz hb).mono ?_
  rintro e w2 ⟨t, rfl, ht, b2⟩
  have HB2 : Hid (Below w.heap.size w w2) := HB1.out.trans (b2.mono HB1.out.size)
  have H2 : Hid (w2.heap[r]? = some (.cells #[.int .i64 st, .slice oa n cap, .string b] 28)) := by show _ = _; rw [b2.block r (Array.getElem?_eq_some_iff.1 H1.out).1]; exact H1.out
  clear c0 c1 c2 hv1 H1 HB1 b2
  cases t with
  | false =>
    have HF : Hid (¬ (RespP st fs b ∧ st = 200)) := fun h => nomatch ht.2 h.1
    clear ht
    go_wp2_with fail
    go_ret
    exact BoolIs.no HF.out HB2.out
  | true =>
    have HQ : Hid (RespP st fs b) := ht.1 rfl
    obtain ⟨⟨c0, _⟩, _⟩ := three_facts H2.out
    have HT : Hid ((st == 200) = true ↔ (RespP st fs b ∧ st = 200)) := by show _ ↔ _; simp [HQ.out]
    clear ht HQ H2
    go_wp2_with fail
    go_ret
    exact ⟨_, rfl, HT.out, HB2.out⟩

set_option maxHeartbeats 1000000 in
theorem nobodySaysNo_any (a b : CcD) (w : World) :
    Calls Tryz.prog 18 #[a.v, b.v] w fun e w' => e = .returned (.bool (!a.ns && (!b.ns && !b.pr))) ∧ Below w.heap.size w w' := by
  obtain ⟨a0, a1, a2, a3, a4, ax⟩ := a
  obtain ⟨b0, b1, b2, b3, b4, bx⟩ := b
  have HB : Hid (∀ o1 o2, Below w.heap.size w ((w.alloc o1).alloc o2)) := fun o1 o2 => ((Below.refl _ w).alloc (Nat.le_refl _) _).alloc (by simp) _
  show Calls _ _ #[.agg #[.bool a0, .bool a1, .bool a2, .bool a3, .bool a4, .int .i64 ax], .agg #[.bool b0, .bool b1, .bool b2, .bool b3, .bool b4, .int .i64 bx]] _ _
  cases a0 <;> cases b0 <;> cases b2 <;>
  · go_enter Tryz.func18, Tryz.ntmps18
    go_wp2
    go_ret
    exact ⟨rfl, HB.out _ _⟩

set_option maxHeartbeats 8000000 in
set_option maxRecDepth 100000 in
theorem implMayKeep_any (m : Int) (p : ByteArray) (v : Value) (b : ByteArray) (n base : Nat) (fs : List (ByteArray × ByteArray)) (st : Int) (u : Value) (c : ByteArray) (k base2 : Nat) (gs : List (ByteArray × ByteArray)) (w : World) (hv : FieldsV w base v n fs) (hn : n ≤ 1073741824) (hsz : WalkF n fs) (hp : p.size ≤ maxLen) (hb : b.size ≤ maxLen) (hu : FieldsV w base2 u k gs) (hk : k ≤ 1073741824) (hsz2 : WalkF k gs) (hc : c.size ≤ maxLen) (hg1 : (getV fs ccName).size ≤ 1048576) (hg2 : (getV gs ccName).size ≤ 1048576) (hg3 : (getV gs varyName).size ≤ 1048576) (hcp : CopyF fs) (hcg : CopyF gs) :
    Calls Tryz.prog 6 #[.agg #[.int .i64 m, .string p, v, .string b], .agg #[.int .i64 st, u, .string c]] w fun e w' => BoolIs (MayP m p fs b st gs c) w e w' := by
  obtain ⟨oa, cap, rfl, _⟩ := hv.slice
  obtain ⟨ob, cb, rfl, _⟩ := hu.slice
  obtain ⟨r, hr⟩ : ∃ r, r = w.heap.size := ⟨_, rfl⟩
  obtain ⟨W1, hW1⟩ : ∃ W, W = (w.alloc (.cells #[.int .i64 m, .string p, .slice oa n cap, .string b] 26)).alloc (.cells #[.int .i64 st, .slice ob k cb, .string c] 28) := ⟨_, rfl⟩
  have HW1 : Hid ((w.alloc (.cells #[.int .i64 m, .string p, .slice oa n cap, .string b] 26)).alloc (.cells #[.int .i64 st, .slice ob k cb, .string c] 28) = W1) := hW1.symm
  have HKEEP1 : Hid (∀ W, Below W1.heap.size W1 W → (W.heap[r]? = some (.cells #[.int .i64 m, .string p, .slice oa n cap, .string b] 26) ∧ W.heap[r + 1]? = some (.cells #[.int .i64 st, .slice ob k cb, .string c] 28)) ∧ FieldsV W base (.slice oa n cap) n fs ∧ FieldsV W base2 (.slice ob k cb) k gs ∧ Below w.heap.size w W) := by
    intro W hW
    have b1 : Below r w W1 := by rw [hW1, hr]; exact ((Below.refl _ w).alloc (Nat.le_refl _) _).alloc (by simp) _
    have s1 : (w.alloc (.cells #[.int .i64 m, .string p, .slice oa n cap, .string b] 26)).heap.size = r + 1 := by rw [hr]; simp
    have s2 : W1.heap.size = r + 1 + 1 := by rw [hW1, hr]; simp
    have e0 := heap_alloc_new w (.cells #[.int .i64 m, .string p, .slice oa n cap, .string b] 26)
    have e1 := heap_alloc_new (w.alloc (.cells #[.int .i64 m, .string p, .slice oa n cap, .string b] 26)) (.cells #[.int .i64 st, .slice ob k cb, .string c] 28)
    rw [← hr] at e0
    rw [s1, ← hW1] at e1
    have c1 : Below (r + 1) (w.alloc (.cells #[.int .i64 m, .string p, .slice oa n cap, .string b] 26)) W1 := by rw [hW1, ← s1]; exact (Below.refl _ _).alloc (Nat.le_refl _) _
    rw [s2] at hW
    have b2 : Below r w W := b1.trans (hW.mono (by omega))
    rw [hr] at b2
    exact ⟨⟨by rw [hW.block r (by omega), c1.block r (by omega)]; exact e0, by rw [hW.block (r + 1) (by omega)]; exact e1⟩, hv.below b2, hu.below b2, b2⟩
  have HSZ : Hid (WalkF n fs) := hsz
  have HSB : Hid (WalkF k gs) := hsz2
  have HPM : Hid (p.size ≤ maxLen) := hp
  have HBM : Hid (b.size ≤ maxLen) := hb
  have HCM : Hid (c.size ≤ maxLen) := hc
  have HG1 : Hid ((getV fs ccName).size ≤ 1048576) := hg1
  have HG2 : Hid ((getV gs ccName).size ≤ 1048576) := hg2
  have HG3 : Hid ((getV gs varyName).size ≤ 1048576) := hg3
  have HCF : Hid (CopyF fs) := hcp
  have HCG : Hid (CopyF gs) := hcg
  obtain ⟨tq, htq⟩ : ∃ t, t = getV fs ccName := ⟨_, rfl⟩
  obtain ⟨cq, hcq⟩ : ∃ t, t = ccR tq := ⟨_, rfl⟩
  obtain ⟨tr, htr⟩ : ∃ t, t = getV gs ccName := ⟨_, rfl⟩
  obtain ⟨cr, hcr⟩ : ∃ t, t = ccR tr := ⟨_, rfl⟩
  have HQ0 : Hid (MayP m p fs b st gs c ↔ (ReqP m p fs b ∧ RespP st gs c ∧ m = 1 ∧ st = 200) ∧ cq.ns = false ∧ cr.ns = false ∧ cr.pr = false ∧ cr.ha = true ∧ NamesP (varyP gs)) := by
    show _ ↔ _
    unfold MayP
    rw [← htq, ← htr, ← hcq, ← hcr]
  have HC1 : Hid (∀ W, FieldsV W base (.slice oa n cap) n fs → Calls Tryz.prog 8 #[.slice oa n cap] W fun e w' => e = .returned (.agg #[.bool cq.ns, .bool cq.nc, .bool cq.pr, .bool cq.mu, .bool cq.ha, .int .i64 cq.age]) ∧ Below W.heap.size W w') := fun W h => by
    have := implCcOf_any (.slice oa n cap) n base fs W h hn HCF.out HG1.out
    rw [← htq, ← hcq] at this
    exact this
  have HC2 : Hid (∀ W, FieldsV W base2 (.slice ob k cb) k gs → Calls Tryz.prog 8 #[.slice ob k cb] W fun e w' => e = .returned (.agg #[.bool cr.ns, .bool cr.nc, .bool cr.pr, .bool cr.mu, .bool cr.ha, .int .i64 cr.age]) ∧ Below W.heap.size W w') := fun W h => by
    have := implCcOf_any (.slice ob k cb) k base2 gs W h hk HCG.out HG2.out
    rw [← htr, ← hcr] at this
    exact this
  clear htq hcq htr hcr
  obtain ⟨q0, q1, q2, q3, q4, q5⟩ := cq
  obtain ⟨z0, z1, z2, z3, z4, z5⟩ := cr
  dsimp only at HQ0 HC1 HC2
  obtain ⟨vl, hvl⟩ : ∃ l, l = varyP gs := ⟨_, rfl⟩
  have HVL : Hid (varyP gs = vl) := hvl.symm
  have HVZ : Hid (vl.length ≤ 1048577 ∧ ∀ i, i < vl.length → (textAt vl i).size ≤ maxLen) := by
    show _ ∧ _
    rw [hvl]
    have hle := splitL_le (getV gs varyName)
    have hg := HG3.out
    unfold varyP
    refine ⟨by rw [List.length_map]; omega, fun i hi => ?_⟩
    rw [List.length_map] at hi
    unfold textAt
    rw [List.getD_eq_getElem?_getD, List.getElem?_map, List.getElem?_eq_getElem hi]
    have := hle.2 _ (List.getElem_mem hi)
    show (lowerOf _).size ≤ _
    rw [lower_size]
    unfold maxLen
    omega
  rw [hvl.symm] at HQ0
  obtain ⟨⟨_, h1⟩, _, hu1, _⟩ := HKEEP1.out W1 (Below.refl _ _)
  obtain ⟨⟨c0, c1, c2⟩, _⟩ := three_facts h1
  clear hW1 hv hu hsz hsz2 hp hb hc hg1 hg2 hg3 h1 hcp hcg hvl
  go_enter Tryz.func6, Tryz.ntmps6
  go_upto_region 1 with fail
  rw [HW1.out, ← hr]
  clear hr HW1
  go_wp2_with fail
  refine (HC2.out _ hu1).mono ?_
  rintro e w2 ⟨rfl, b2⟩
  obtain ⟨o, ho⟩ : ∃ o, o = w2.heap.size := ⟨_, rfl⟩
  obtain ⟨W2, hW2⟩ : ∃ W, W = w2.alloc (.cells #[.bool z0, .bool z1, .bool z2, .bool z3, .bool z4, .int .i64 z5] 33) := ⟨_, rfl⟩
  have HKEEP : Hid (∀ W, Below W2.heap.size W2 W → (W.heap[r]? = some (.cells #[.int .i64 m, .string p, .slice oa n cap, .string b] 26) ∧ W.heap[r + 1]? = some (.cells #[.int .i64 st, .slice ob k cb, .string c] 28) ∧ CcAt W o ⟨z0, z1, z2, z3, z4, z5⟩) ∧ FieldsV W base (.slice oa n cap) n fs ∧ FieldsV W base2 (.slice ob k cb) k gs ∧ Below w.heap.size w W) := by
    intro W hW
    have b3 : Below w2.heap.size w2 W2 := by rw [hW2]; exact (Below.refl _ _).alloc (Nat.le_refl _) _
    have b4 : Below W1.heap.size W1 W := (b2.trans (b3.mono b2.size)).trans (hW.mono (Nat.le_trans b2.size b3.size))
    obtain ⟨⟨k0, k1⟩, k2⟩ := HKEEP1.out W b4
    refine ⟨⟨k0, k1, ?_⟩, k2⟩
    have h3 : W2.heap[o]? = some (.cells #[.bool z0, .bool z1, .bool z2, .bool z3, .bool z4, .int .i64 z5] 33) := by rw [hW2, ho]; exact heap_alloc_new w2 _
    show W.heap[o]? = _
    rw [hW.block o (Array.getElem?_eq_some_iff.1 h3).1]
    exact h3
  have HSS : Hid (∀ W, Below W2.heap.size W2 W → W.heap[r]? = some (.cells #[.int .i64 m, .string p, .slice oa n cap, .string b] 26) ∧ W.heap[r + 1]? = some (.cells #[.int .i64 st, .slice ob k cb, .string c] 28) ∧ CcAt W o ⟨z0, z1, z2, z3, z4, z5⟩) := fun W h => (HKEEP.out W h).1
  go_upto_region 2 with fail
  rw [← hW2, ← ho]
  clear hW2 ho b2 c0 c1 c2 hu1 HKEEP1 HC2
  refine wp_region_held_drew (S := fun W => W.heap[r]? = some (.cells #[.int .i64 m, .string p, .slice oa n cap, .string b] 26) ∧ W.heap[r + 1]? = some (.cells #[.int .i64 st, .slice ob k cb, .string c] 28) ∧ CcAt W o ⟨z0, z1, z2, z3, z4, z5⟩) (by kernel_rfl) (HSS.out _ (Below.refl _ _).drew) (fun hS0 => ?_)
  have HX : Hid (Below W2.heap.size W2 W2.drew) := (Below.refl _ _).drew
  obtain ⟨X0, hX0⟩ : ∃ X, X = W2.drew := ⟨_, rfl⟩
  rw [← hX0] at HX ⊢
  clear hX0 hS0
  refine wpAnyH_takeD (i := 0) (v := .agg #[.int .i64 m, .string p, .slice oa n cap, .string b]) (some 9) rfl rfl (by kernel_rfl) (by kernel_rfl) (by kernel_rfl) (fun _ _ _ h => h) (Or.inl ⟨by rfl, by intro W hW; obtain ⟨h1, h2, h3⟩ := hW; obtain ⟨⟨s0, s1, s2, s3⟩, _⟩ := four_facts h1; obtain ⟨⟨t0, t1, t2⟩, _⟩ := three_facts h2; obtain ⟨y0, y1, y2, y3, y4, y5⟩ := h3.cells; dsimp only at y0 y1 y2 y3 y4 y5; go_simp⟩) (HSS.out _ HX.out) ?_
  simp only [Act.put, List.setIfInBounds_toArray, List.set_cons_zero, List.set_cons_succ]
  refine wpAnyH_ready (rs := [1]) (by kernel_rfl) (by simp) ?_
  refine AllReadyH.cons rfl (fun K hK => ?_) AllReadyH.nil
  go_simp
  refine (isRightGet_any m p _ b n base fs _ (HKEEP.out _ HX.out).2.1 hn HSZ.out HPM.out HBM.out).mono ?_
  rintro e X1 ⟨t1, rfl, ht1, bx⟩
  have HXN : Hid (Below W2.heap.size W2 X1) := HX.out.trans (bx.mono HX.out.size)
  refine hK.out _ _ (HSS.out _ HXN.out) (fun _ => ?_)
  clear hK K HX bx
  have HX := HXN
  clear HXN
  cases t1 with
  | false =>
    have HF : Hid (¬ MayP m p fs b st gs c) := fun h => nomatch ht1.2 ⟨h.1.1, h.1.2.2.1⟩
    clear ht1
    refine wpAnyH_takeD (i := 2) (v := .bool false) (some 11) rfl rfl (by kernel_rfl) (by kernel_rfl) (by kernel_rfl) (fun _ _ _ h => h) (Or.inl ⟨by rfl, by intro W _; go_simp⟩) (HSS.out _ HX.out) ?_
    simp only [Act.put, List.setIfInBounds_toArray, List.set_cons_zero, List.set_cons_succ]
    refine wpAnyH_takeD (i := 3) (v := undef) (some 12) rfl rfl (by kernel_rfl) (by kernel_rfl) (by kernel_rfl) (fun _ _ _ h => h) (Or.inr ⟨by rfl, rfl⟩) (HSS.out _ HX.out) ?_
    simp only [Act.put, List.setIfInBounds_toArray, List.set_cons_zero, List.set_cons_succ]
    refine wpAnyH_takeD (i := 4) (v := undef) (some 13) rfl rfl (by kernel_rfl) (by kernel_rfl) (by kernel_rfl) (fun _ _ _ h => h) (Or.inr ⟨by rfl, rfl⟩) (HSS.out _ HX.out) ?_
    simp only [Act.put, List.setIfInBounds_toArray, List.set_cons_zero, List.set_cons_succ]
    refine wpAnyH_takeD (i := 5) (v := .bool false) (some 14) rfl rfl (by kernel_rfl) (by kernel_rfl) (by kernel_rfl) (fun _ _ _ h => h) (Or.inl ⟨by rfl, by intro W _; go_simp⟩) (HSS.out _ HX.out) ?_
    simp only [Act.put, List.setIfInBounds_toArray, List.set_cons_zero, List.set_cons_succ]
    refine wpAnyH_takeD (i := 6) (v := .bool false) (some 15) rfl rfl (by kernel_rfl) (by kernel_rfl) (by kernel_rfl) (fun _ _ _ h => h) (Or.inl ⟨by rfl, by intro W _; go_simp⟩) (HSS.out _ HX.out) ?_
    simp only [Act.put, List.setIfInBounds_toArray, List.set_cons_zero, List.set_cons_succ]
    refine wpAnyH_takeD (i := 7) (v := undef) (some 16) rfl rfl (by kernel_rfl) (by kernel_rfl) (by kernel_rfl) (fun _ _ _ h => h) (Or.inr ⟨by rfl, rfl⟩) (HSS.out _ HX.out) ?_
    simp only [Act.put, List.setIfInBounds_toArray, List.set_cons_zero, List.set_cons_succ]
    refine wpAnyH_takeD (i := 8) (v := undef) (some 17) rfl rfl (by kernel_rfl) (by kernel_rfl) (by kernel_rfl) (fun _ _ _ h => h) (Or.inr ⟨by rfl, rfl⟩) (HSS.out _ HX.out) ?_
    simp only [Act.put, List.setIfInBounds_toArray, List.set_cons_zero, List.set_cons_succ]
    refine wpAnyH_takeD (i := 9) (v := undef) (some 18) rfl rfl (by kernel_rfl) (by kernel_rfl) (by kernel_rfl) (fun _ _ _ h => h) (Or.inr ⟨by rfl, rfl⟩) (HSS.out _ HX.out) ?_
    simp only [Act.put, List.setIfInBounds_toArray, List.set_cons_zero, List.set_cons_succ]
    refine wpAnyH_takeD (i := 10) (v := undef) (some 19) rfl rfl (by kernel_rfl) (by kernel_rfl) (by kernel_rfl) (fun _ _ _ h => h) (Or.inr ⟨by rfl, rfl⟩) (HSS.out _ HX.out) ?_
    simp only [Act.put, List.setIfInBounds_toArray, List.set_cons_zero, List.set_cons_succ]
    refine wpAnyH_takeD (i := 11) (v := undef) (some 20) rfl rfl (by kernel_rfl) (by kernel_rfl) (by kernel_rfl) (fun _ _ _ h => h) (Or.inr ⟨by rfl, rfl⟩) (HSS.out _ HX.out) ?_
    simp only [Act.put, List.setIfInBounds_toArray, List.set_cons_zero, List.set_cons_succ]
    refine wpAnyH_takeD (i := 12) (v := .bool false) (some 21) rfl rfl (by kernel_rfl) (by kernel_rfl) (by kernel_rfl) (fun _ _ _ h => h) (Or.inl ⟨by rfl, by intro W _; go_simp⟩) (HSS.out _ HX.out) ?_
    simp only [Act.put, List.setIfInBounds_toArray, List.set_cons_zero, List.set_cons_succ]
    refine wpAnyH_takeD (i := 13) (v := .bool false) (some 22) rfl rfl (by kernel_rfl) (by kernel_rfl) (by kernel_rfl) (fun _ _ _ h => h) (Or.inl ⟨by rfl, by intro W _; go_simp⟩) (HSS.out _ HX.out) ?_
    simp only [Act.put, List.setIfInBounds_toArray, List.set_cons_zero, List.set_cons_succ]
    refine wpAnyH_takeD (i := 14) (v := undef) (some 23) rfl rfl (by kernel_rfl) (by kernel_rfl) (by kernel_rfl) (fun _ _ _ h => h) (Or.inr ⟨by rfl, rfl⟩) (HSS.out _ HX.out) ?_
    simp only [Act.put, List.setIfInBounds_toArray, List.set_cons_zero, List.set_cons_succ]
    refine wpAnyH_takeD (i := 15) (v := undef) (some 24) rfl rfl (by kernel_rfl) (by kernel_rfl) (by kernel_rfl) (fun _ _ _ h => h) (Or.inr ⟨by rfl, rfl⟩) (HSS.out _ HX.out) ?_
    simp only [Act.put, List.setIfInBounds_toArray, List.set_cons_zero, List.set_cons_succ]
    refine wpAnyH_takeD (i := 16) (v := .bool false) (some 25) rfl rfl (by kernel_rfl) (by kernel_rfl) (by kernel_rfl) (fun _ _ _ h => h) (Or.inl ⟨by rfl, by intro W _; go_simp⟩) (HSS.out _ HX.out) ?_
    simp only [Act.put, List.setIfInBounds_toArray, List.set_cons_zero, List.set_cons_succ]
    refine wpAnyH_takeD (i := 17) (v := .bool false) (some 26) rfl rfl (by kernel_rfl) (by kernel_rfl) (by kernel_rfl) (fun _ _ _ h => h) (Or.inl ⟨by rfl, by intro W _; go_simp⟩) (HSS.out _ HX.out) ?_
    simp only [Act.put, List.setIfInBounds_toArray, List.set_cons_zero, List.set_cons_succ]
    refine wpAnyH_takeD (i := 18) (v := undef) (some 27) rfl rfl (by kernel_rfl) (by kernel_rfl) (by kernel_rfl) (fun _ _ _ h => h) (Or.inr ⟨by rfl, rfl⟩) (HSS.out _ HX.out) ?_
    simp only [Act.put, List.setIfInBounds_toArray, List.set_cons_zero, List.set_cons_succ]
    refine wpAnyH_takeD (i := 19) (v := undef) (some 28) rfl rfl (by kernel_rfl) (by kernel_rfl) (by kernel_rfl) (fun _ _ _ h => h) (Or.inr ⟨by rfl, rfl⟩) (HSS.out _ HX.out) ?_
    simp only [Act.put, List.setIfInBounds_toArray, List.set_cons_zero, List.set_cons_succ]
    refine wpAnyH_takeD (i := 20) (v := undef) (some 29) rfl rfl (by kernel_rfl) (by kernel_rfl) (by kernel_rfl) (fun _ _ _ h => h) (Or.inr ⟨by rfl, rfl⟩) (HSS.out _ HX.out) ?_
    simp only [Act.put, List.setIfInBounds_toArray, List.set_cons_zero, List.set_cons_succ]
    refine wpAnyH_takeD (i := 21) (v := undef) (some 30) rfl rfl (by kernel_rfl) (by kernel_rfl) (by kernel_rfl) (fun _ _ _ h => h) (Or.inr ⟨by rfl, rfl⟩) (HSS.out _ HX.out) ?_
    simp only [Act.put, List.setIfInBounds_toArray, List.set_cons_zero, List.set_cons_succ]
    refine wpAnyH_takeD (i := 22) (v := .bool false) (some 31) rfl rfl (by kernel_rfl) (by kernel_rfl) (by kernel_rfl) (fun _ _ _ h => h) (Or.inl ⟨by rfl, by intro W _; go_simp⟩) (HSS.out _ HX.out) ?_
    simp only [Act.put, List.setIfInBounds_toArray, List.set_cons_zero, List.set_cons_succ]
    refine wpAnyH_takeD (i := 23) (v := .bool false) (some 4) rfl rfl (by kernel_rfl) (by kernel_rfl) (by kernel_rfl) (fun _ _ _ h => h) (Or.inl ⟨by rfl, by intro W _; go_simp⟩) (HSS.out _ HX.out) ?_
    simp only [Act.put, List.setIfInBounds_toArray, List.set_cons_zero, List.set_cons_succ]
    refine wpAnyH_done (by kernel_rfl) ?_ _
    have HB : Hid (Below w.heap.size w X1) := (HKEEP.out _ HX.out).2.2.2
    clear HX HSS HKEEP
    go_wp2_with fail
    go_ret
    exact BoolIs.no HF.out HB.out
  | true =>
    have HRQ : Hid (ReqP m p fs b ∧ m = 1) := ht1.1 rfl
    clear ht1
    refine wpAnyH_takeD (i := 2) (v := .bool true) (some 11) rfl rfl (by kernel_rfl) (by kernel_rfl) (by kernel_rfl) (fun _ _ _ h => h) (Or.inl ⟨by rfl, by intro W _; go_simp⟩) (HSS.out _ HX.out) ?_
    simp only [Act.put, List.setIfInBounds_toArray, List.set_cons_zero, List.set_cons_succ]
    refine wpAnyH_takeD (i := 3) (v := .agg #[.int .i64 st, .slice ob k cb, .string c]) (some 12) rfl rfl (by kernel_rfl) (by kernel_rfl) (by kernel_rfl) (fun _ _ _ h => h) (Or.inl ⟨by rfl, by intro W hW; obtain ⟨h1, h2, h3⟩ := hW; obtain ⟨⟨s0, s1, s2, s3⟩, _⟩ := four_facts h1; obtain ⟨⟨t0, t1, t2⟩, _⟩ := three_facts h2; obtain ⟨y0, y1, y2, y3, y4, y5⟩ := h3.cells; dsimp only at y0 y1 y2 y3 y4 y5; go_simp⟩) (HSS.out _ HX.out) ?_
    simp only [Act.put, List.setIfInBounds_toArray, List.set_cons_zero, List.set_cons_succ]
    refine wpAnyH_ready (rs := [4]) (by kernel_rfl) (by simp) ?_
    refine AllReadyH.cons rfl (fun K hK => ?_) AllReadyH.nil
    go_simp
    refine (isRightAnswer_any st _ c k base2 gs _ (HKEEP.out _ HX.out).2.2.1 hk HSB.out HCM.out).mono ?_
    rintro e X2 ⟨t2, rfl, ht2, bx⟩
    have HXN : Hid (Below W2.heap.size W2 X2) := HX.out.trans (bx.mono HX.out.size)
    refine hK.out _ _ (HSS.out _ HXN.out) (fun _ => ?_)
    clear hK K HX bx
    have HX := HXN
    clear HXN
    cases t2 with
    | false =>
      have HF : Hid (¬ MayP m p fs b st gs c) := fun h => nomatch ht2.2 ⟨h.1.2.1, h.1.2.2.2⟩
      clear ht2
      refine wpAnyH_takeD (i := 5) (v := .bool false) (some 14) rfl rfl (by kernel_rfl) (by kernel_rfl) (by kernel_rfl) (fun _ _ _ h => h) (Or.inl ⟨by rfl, by intro W _; go_simp⟩) (HSS.out _ HX.out) ?_
      simp only [Act.put, List.setIfInBounds_toArray, List.set_cons_zero, List.set_cons_succ]
      refine wpAnyH_takeD (i := 6) (v := .bool false) (some 15) rfl rfl (by kernel_rfl) (by kernel_rfl) (by kernel_rfl) (fun _ _ _ h => h) (Or.inl ⟨by rfl, by intro W _; go_simp⟩) (HSS.out _ HX.out) ?_
      simp only [Act.put, List.setIfInBounds_toArray, List.set_cons_zero, List.set_cons_succ]
      refine wpAnyH_takeD (i := 7) (v := undef) (some 16) rfl rfl (by kernel_rfl) (by kernel_rfl) (by kernel_rfl) (fun _ _ _ h => h) (Or.inr ⟨by rfl, rfl⟩) (HSS.out _ HX.out) ?_
      simp only [Act.put, List.setIfInBounds_toArray, List.set_cons_zero, List.set_cons_succ]
      refine wpAnyH_takeD (i := 8) (v := undef) (some 17) rfl rfl (by kernel_rfl) (by kernel_rfl) (by kernel_rfl) (fun _ _ _ h => h) (Or.inr ⟨by rfl, rfl⟩) (HSS.out _ HX.out) ?_
      simp only [Act.put, List.setIfInBounds_toArray, List.set_cons_zero, List.set_cons_succ]
      refine wpAnyH_takeD (i := 9) (v := undef) (some 18) rfl rfl (by kernel_rfl) (by kernel_rfl) (by kernel_rfl) (fun _ _ _ h => h) (Or.inr ⟨by rfl, rfl⟩) (HSS.out _ HX.out) ?_
      simp only [Act.put, List.setIfInBounds_toArray, List.set_cons_zero, List.set_cons_succ]
      refine wpAnyH_takeD (i := 10) (v := undef) (some 19) rfl rfl (by kernel_rfl) (by kernel_rfl) (by kernel_rfl) (fun _ _ _ h => h) (Or.inr ⟨by rfl, rfl⟩) (HSS.out _ HX.out) ?_
      simp only [Act.put, List.setIfInBounds_toArray, List.set_cons_zero, List.set_cons_succ]
      refine wpAnyH_takeD (i := 11) (v := undef) (some 20) rfl rfl (by kernel_rfl) (by kernel_rfl) (by kernel_rfl) (fun _ _ _ h => h) (Or.inr ⟨by rfl, rfl⟩) (HSS.out _ HX.out) ?_
      simp only [Act.put, List.setIfInBounds_toArray, List.set_cons_zero, List.set_cons_succ]
      refine wpAnyH_takeD (i := 12) (v := .bool false) (some 21) rfl rfl (by kernel_rfl) (by kernel_rfl) (by kernel_rfl) (fun _ _ _ h => h) (Or.inl ⟨by rfl, by intro W _; go_simp⟩) (HSS.out _ HX.out) ?_
      simp only [Act.put, List.setIfInBounds_toArray, List.set_cons_zero, List.set_cons_succ]
      refine wpAnyH_takeD (i := 13) (v := .bool false) (some 22) rfl rfl (by kernel_rfl) (by kernel_rfl) (by kernel_rfl) (fun _ _ _ h => h) (Or.inl ⟨by rfl, by intro W _; go_simp⟩) (HSS.out _ HX.out) ?_
      simp only [Act.put, List.setIfInBounds_toArray, List.set_cons_zero, List.set_cons_succ]
      refine wpAnyH_takeD (i := 14) (v := undef) (some 23) rfl rfl (by kernel_rfl) (by kernel_rfl) (by kernel_rfl) (fun _ _ _ h => h) (Or.inr ⟨by rfl, rfl⟩) (HSS.out _ HX.out) ?_
      simp only [Act.put, List.setIfInBounds_toArray, List.set_cons_zero, List.set_cons_succ]
      refine wpAnyH_takeD (i := 15) (v := undef) (some 24) rfl rfl (by kernel_rfl) (by kernel_rfl) (by kernel_rfl) (fun _ _ _ h => h) (Or.inr ⟨by rfl, rfl⟩) (HSS.out _ HX.out) ?_
      simp only [Act.put, List.setIfInBounds_toArray, List.set_cons_zero, List.set_cons_succ]
      refine wpAnyH_takeD (i := 16) (v := .bool false) (some 25) rfl rfl (by kernel_rfl) (by kernel_rfl) (by kernel_rfl) (fun _ _ _ h => h) (Or.inl ⟨by rfl, by intro W _; go_simp⟩) (HSS.out _ HX.out) ?_
      simp only [Act.put, List.setIfInBounds_toArray, List.set_cons_zero, List.set_cons_succ]
      refine wpAnyH_takeD (i := 17) (v := .bool false) (some 26) rfl rfl (by kernel_rfl) (by kernel_rfl) (by kernel_rfl) (fun _ _ _ h => h) (Or.inl ⟨by rfl, by intro W _; go_simp⟩) (HSS.out _ HX.out) ?_
      simp only [Act.put, List.setIfInBounds_toArray, List.set_cons_zero, List.set_cons_succ]
      refine wpAnyH_takeD (i := 18) (v := undef) (some 27) rfl rfl (by kernel_rfl) (by kernel_rfl) (by kernel_rfl) (fun _ _ _ h => h) (Or.inr ⟨by rfl, rfl⟩) (HSS.out _ HX.out) ?_
      simp only [Act.put, List.setIfInBounds_toArray, List.set_cons_zero, List.set_cons_succ]
      refine wpAnyH_takeD (i := 19) (v := undef) (some 28) rfl rfl (by kernel_rfl) (by kernel_rfl) (by kernel_rfl) (fun _ _ _ h => h) (Or.inr ⟨by rfl, rfl⟩) (HSS.out _ HX.out) ?_
      simp only [Act.put, List.setIfInBounds_toArray, List.set_cons_zero, List.set_cons_succ]
      refine wpAnyH_takeD (i := 20) (v := undef) (some 29) rfl rfl (by kernel_rfl) (by kernel_rfl) (by kernel_rfl) (fun _ _ _ h => h) (Or.inr ⟨by rfl, rfl⟩) (HSS.out _ HX.out) ?_
      simp only [Act.put, List.setIfInBounds_toArray, List.set_cons_zero, List.set_cons_succ]
      refine wpAnyH_takeD (i := 21) (v := undef) (some 30) rfl rfl (by kernel_rfl) (by kernel_rfl) (by kernel_rfl) (fun _ _ _ h => h) (Or.inr ⟨by rfl, rfl⟩) (HSS.out _ HX.out) ?_
      simp only [Act.put, List.setIfInBounds_toArray, List.set_cons_zero, List.set_cons_succ]
      refine wpAnyH_takeD (i := 22) (v := .bool false) (some 31) rfl rfl (by kernel_rfl) (by kernel_rfl) (by kernel_rfl) (fun _ _ _ h => h) (Or.inl ⟨by rfl, by intro W _; go_simp⟩) (HSS.out _ HX.out) ?_
      simp only [Act.put, List.setIfInBounds_toArray, List.set_cons_zero, List.set_cons_succ]
      refine wpAnyH_takeD (i := 23) (v := .bool false) (some 4) rfl rfl (by kernel_rfl) (by kernel_rfl) (by kernel_rfl) (fun _ _ _ h => h) (Or.inl ⟨by rfl, by intro W _; go_simp⟩) (HSS.out _ HX.out) ?_
      simp only [Act.put, List.setIfInBounds_toArray, List.set_cons_zero, List.set_cons_succ]
      refine wpAnyH_done (by kernel_rfl) ?_ _
      have HB : Hid (Below w.heap.size w X2) := (HKEEP.out _ HX.out).2.2.2
      clear HX HSS HKEEP
      go_wp2_with fail
      go_ret
      exact BoolIs.no HF.out HB.out
    | true =>
      have HRP : Hid (RespP st gs c ∧ st = 200) := ht2.1 rfl
      clear ht2
      refine wpAnyH_takeD (i := 5) (v := .bool true) (some 14) rfl rfl (by kernel_rfl) (by kernel_rfl) (by kernel_rfl) (fun _ _ _ h => h) (Or.inl ⟨by rfl, by intro W _; go_simp⟩) (HSS.out _ HX.out) ?_
      simp only [Act.put, List.setIfInBounds_toArray, List.set_cons_zero, List.set_cons_succ]
      refine wpAnyH_takeD (i := 6) (v := .bool true) (some 15) rfl rfl (by kernel_rfl) (by kernel_rfl) (by kernel_rfl) (fun _ _ _ h => h) (Or.inl ⟨by rfl, by intro W _; go_simp⟩) (HSS.out _ HX.out) ?_
      simp only [Act.put, List.setIfInBounds_toArray, List.set_cons_zero, List.set_cons_succ]
      refine wpAnyH_takeD (i := 7) (v := .pointer (some ⟨r, 2, none⟩)) (some 16) rfl rfl (by kernel_rfl) (by kernel_rfl) (by kernel_rfl) (fun _ _ _ h => h) (Or.inl ⟨by rfl, by intro W _; go_simp⟩) (HSS.out _ HX.out) ?_
      simp only [Act.put, List.setIfInBounds_toArray, List.set_cons_zero, List.set_cons_succ]
      refine wpAnyH_takeD (i := 8) (v := .slice oa n cap) (some 17) rfl rfl (by kernel_rfl) (by kernel_rfl) (by kernel_rfl) (fun _ _ _ h => h) (Or.inl ⟨by rfl, by intro W hW; obtain ⟨h1, h2, h3⟩ := hW; obtain ⟨⟨s0, s1, s2, s3⟩, _⟩ := four_facts h1; obtain ⟨⟨t0, t1, t2⟩, _⟩ := three_facts h2; obtain ⟨y0, y1, y2, y3, y4, y5⟩ := h3.cells; dsimp only at y0 y1 y2 y3 y4 y5; go_simp⟩) (HSS.out _ HX.out) ?_
      simp only [Act.put, List.setIfInBounds_toArray, List.set_cons_zero, List.set_cons_succ]
      refine wpAnyH_takeD (i := 10) (v := .agg #[.bool z0, .bool z1, .bool z2, .bool z3, .bool z4, .int .i64 z5]) (some 19) rfl rfl (by kernel_rfl) (by kernel_rfl) (by kernel_rfl) (fun _ _ _ h => h) (Or.inl ⟨by rfl, by intro W hW; obtain ⟨h1, h2, h3⟩ := hW; obtain ⟨⟨s0, s1, s2, s3⟩, _⟩ := four_facts h1; obtain ⟨⟨t0, t1, t2⟩, _⟩ := three_facts h2; obtain ⟨y0, y1, y2, y3, y4, y5⟩ := h3.cells; dsimp only at y0 y1 y2 y3 y4 y5; go_simp⟩) (HSS.out _ HX.out) ?_
      simp only [Act.put, List.setIfInBounds_toArray, List.set_cons_zero, List.set_cons_succ]
      refine wpAnyH_ready (rs := [9]) (by kernel_rfl) (by simp) ?_
      refine AllReadyH.cons rfl (fun K hK => ?_) AllReadyH.nil
      go_simp
      refine (HC1.out _ (HKEEP.out _ HX.out).2.1).mono ?_
      rintro e X3 ⟨rfl, bx⟩
      have HXN : Hid (Below W2.heap.size W2 X3) := HX.out.trans (bx.mono HX.out.size)
      refine hK.out _ _ (HSS.out _ HXN.out) (fun _ => ?_)
      clear hK K HX bx
      have HX := HXN
      clear HXN
      refine wpAnyH_ready (rs := [11]) (by kernel_rfl) (by simp) ?_
      refine AllReadyH.cons rfl (fun K hK => ?_) AllReadyH.nil
      go_simp
      refine (nobodySaysNo_any ⟨q0, q1, q2, q3, q4, q5⟩ ⟨z0, z1, z2, z3, z4, z5⟩ _).mono ?_
      rintro e X4 ⟨rfl, bx⟩
      have HXN : Hid (Below W2.heap.size W2 X4) := HX.out.trans (bx.mono HX.out.size)
      refine hK.out _ _ (HSS.out _ HXN.out) (fun _ => ?_)
      clear hK K HX bx
      have HX := HXN
      clear HXN
      cases q0 with
      | true =>
        dsimp only [Bool.not_true, Bool.false_and]
        have HF : Hid (¬ MayP m p fs b st gs c) := fun h => nomatch ((HQ0.out.1 h).2).1
        refine wpAnyH_takeD (i := 12) (v := .bool false) (some 21) rfl rfl (by kernel_rfl) (by kernel_rfl) (by kernel_rfl) (fun _ _ _ h => h) (Or.inl ⟨by rfl, by intro W _; go_simp⟩) (HSS.out _ HX.out) ?_
        simp only [Act.put, List.setIfInBounds_toArray, List.set_cons_zero, List.set_cons_succ]
        refine wpAnyH_takeD (i := 13) (v := .bool false) (some 22) rfl rfl (by kernel_rfl) (by kernel_rfl) (by kernel_rfl) (fun _ _ _ h => h) (Or.inl ⟨by rfl, by intro W _; go_simp⟩) (HSS.out _ HX.out) ?_
        simp only [Act.put, List.setIfInBounds_toArray, List.set_cons_zero, List.set_cons_succ]
        refine wpAnyH_takeD (i := 14) (v := undef) (some 23) rfl rfl (by kernel_rfl) (by kernel_rfl) (by kernel_rfl) (fun _ _ _ h => h) (Or.inr ⟨by rfl, rfl⟩) (HSS.out _ HX.out) ?_
        simp only [Act.put, List.setIfInBounds_toArray, List.set_cons_zero, List.set_cons_succ]
        refine wpAnyH_takeD (i := 15) (v := undef) (some 24) rfl rfl (by kernel_rfl) (by kernel_rfl) (by kernel_rfl) (fun _ _ _ h => h) (Or.inr ⟨by rfl, rfl⟩) (HSS.out _ HX.out) ?_
        simp only [Act.put, List.setIfInBounds_toArray, List.set_cons_zero, List.set_cons_succ]
        refine wpAnyH_takeD (i := 16) (v := .bool false) (some 25) rfl rfl (by kernel_rfl) (by kernel_rfl) (by kernel_rfl) (fun _ _ _ h => h) (Or.inl ⟨by rfl, by intro W _; go_simp⟩) (HSS.out _ HX.out) ?_
        simp only [Act.put, List.setIfInBounds_toArray, List.set_cons_zero, List.set_cons_succ]
        refine wpAnyH_takeD (i := 17) (v := .bool false) (some 26) rfl rfl (by kernel_rfl) (by kernel_rfl) (by kernel_rfl) (fun _ _ _ h => h) (Or.inl ⟨by rfl, by intro W _; go_simp⟩) (HSS.out _ HX.out) ?_
        simp only [Act.put, List.setIfInBounds_toArray, List.set_cons_zero, List.set_cons_succ]
        refine wpAnyH_takeD (i := 18) (v := undef) (some 27) rfl rfl (by kernel_rfl) (by kernel_rfl) (by kernel_rfl) (fun _ _ _ h => h) (Or.inr ⟨by rfl, rfl⟩) (HSS.out _ HX.out) ?_
        simp only [Act.put, List.setIfInBounds_toArray, List.set_cons_zero, List.set_cons_succ]
        refine wpAnyH_takeD (i := 19) (v := undef) (some 28) rfl rfl (by kernel_rfl) (by kernel_rfl) (by kernel_rfl) (fun _ _ _ h => h) (Or.inr ⟨by rfl, rfl⟩) (HSS.out _ HX.out) ?_
        simp only [Act.put, List.setIfInBounds_toArray, List.set_cons_zero, List.set_cons_succ]
        refine wpAnyH_takeD (i := 20) (v := undef) (some 29) rfl rfl (by kernel_rfl) (by kernel_rfl) (by kernel_rfl) (fun _ _ _ h => h) (Or.inr ⟨by rfl, rfl⟩) (HSS.out _ HX.out) ?_
        simp only [Act.put, List.setIfInBounds_toArray, List.set_cons_zero, List.set_cons_succ]
        refine wpAnyH_takeD (i := 21) (v := undef) (some 30) rfl rfl (by kernel_rfl) (by kernel_rfl) (by kernel_rfl) (fun _ _ _ h => h) (Or.inr ⟨by rfl, rfl⟩) (HSS.out _ HX.out) ?_
        simp only [Act.put, List.setIfInBounds_toArray, List.set_cons_zero, List.set_cons_succ]
        refine wpAnyH_takeD (i := 22) (v := .bool false) (some 31) rfl rfl (by kernel_rfl) (by kernel_rfl) (by kernel_rfl) (fun _ _ _ h => h) (Or.inl ⟨by rfl, by intro W _; go_simp⟩) (HSS.out _ HX.out) ?_
        simp only [Act.put, List.setIfInBounds_toArray, List.set_cons_zero, List.set_cons_succ]
        refine wpAnyH_takeD (i := 23) (v := .bool false) (some 4) rfl rfl (by kernel_rfl) (by kernel_rfl) (by kernel_rfl) (fun _ _ _ h => h) (Or.inl ⟨by rfl, by intro W _; go_simp⟩) (HSS.out _ HX.out) ?_
        simp only [Act.put, List.setIfInBounds_toArray, List.set_cons_zero, List.set_cons_succ]
        refine wpAnyH_done (by kernel_rfl) ?_ _
        have HB : Hid (Below w.heap.size w X4) := (HKEEP.out _ HX.out).2.2.2
        clear HX HSS HKEEP
        go_wp2_with fail
        go_ret
        exact BoolIs.no HF.out HB.out
      | false =>
        cases z0 with
        | true =>
          dsimp only [Bool.not_true, Bool.not_false, Bool.false_and, Bool.true_and]
          have HF : Hid (¬ MayP m p fs b st gs c) := fun h => nomatch ((HQ0.out.1 h).2).2.1
          refine wpAnyH_takeD (i := 12) (v := .bool false) (some 21) rfl rfl (by kernel_rfl) (by kernel_rfl) (by kernel_rfl) (fun _ _ _ h => h) (Or.inl ⟨by rfl, by intro W _; go_simp⟩) (HSS.out _ HX.out) ?_
          simp only [Act.put, List.setIfInBounds_toArray, List.set_cons_zero, List.set_cons_succ]
          refine wpAnyH_takeD (i := 13) (v := .bool false) (some 22) rfl rfl (by kernel_rfl) (by kernel_rfl) (by kernel_rfl) (fun _ _ _ h => h) (Or.inl ⟨by rfl, by intro W _; go_simp⟩) (HSS.out _ HX.out) ?_
          simp only [Act.put, List.setIfInBounds_toArray, List.set_cons_zero, List.set_cons_succ]
          refine wpAnyH_takeD (i := 14) (v := undef) (some 23) rfl rfl (by kernel_rfl) (by kernel_rfl) (by kernel_rfl) (fun _ _ _ h => h) (Or.inr ⟨by rfl, rfl⟩) (HSS.out _ HX.out) ?_
          simp only [Act.put, List.setIfInBounds_toArray, List.set_cons_zero, List.set_cons_succ]
          refine wpAnyH_takeD (i := 15) (v := undef) (some 24) rfl rfl (by kernel_rfl) (by kernel_rfl) (by kernel_rfl) (fun _ _ _ h => h) (Or.inr ⟨by rfl, rfl⟩) (HSS.out _ HX.out) ?_
          simp only [Act.put, List.setIfInBounds_toArray, List.set_cons_zero, List.set_cons_succ]
          refine wpAnyH_takeD (i := 16) (v := .bool false) (some 25) rfl rfl (by kernel_rfl) (by kernel_rfl) (by kernel_rfl) (fun _ _ _ h => h) (Or.inl ⟨by rfl, by intro W _; go_simp⟩) (HSS.out _ HX.out) ?_
          simp only [Act.put, List.setIfInBounds_toArray, List.set_cons_zero, List.set_cons_succ]
          refine wpAnyH_takeD (i := 17) (v := .bool false) (some 26) rfl rfl (by kernel_rfl) (by kernel_rfl) (by kernel_rfl) (fun _ _ _ h => h) (Or.inl ⟨by rfl, by intro W _; go_simp⟩) (HSS.out _ HX.out) ?_
          simp only [Act.put, List.setIfInBounds_toArray, List.set_cons_zero, List.set_cons_succ]
          refine wpAnyH_takeD (i := 18) (v := undef) (some 27) rfl rfl (by kernel_rfl) (by kernel_rfl) (by kernel_rfl) (fun _ _ _ h => h) (Or.inr ⟨by rfl, rfl⟩) (HSS.out _ HX.out) ?_
          simp only [Act.put, List.setIfInBounds_toArray, List.set_cons_zero, List.set_cons_succ]
          refine wpAnyH_takeD (i := 19) (v := undef) (some 28) rfl rfl (by kernel_rfl) (by kernel_rfl) (by kernel_rfl) (fun _ _ _ h => h) (Or.inr ⟨by rfl, rfl⟩) (HSS.out _ HX.out) ?_
          simp only [Act.put, List.setIfInBounds_toArray, List.set_cons_zero, List.set_cons_succ]
          refine wpAnyH_takeD (i := 20) (v := undef) (some 29) rfl rfl (by kernel_rfl) (by kernel_rfl) (by kernel_rfl) (fun _ _ _ h => h) (Or.inr ⟨by rfl, rfl⟩) (HSS.out _ HX.out) ?_
          simp only [Act.put, List.setIfInBounds_toArray, List.set_cons_zero, List.set_cons_succ]
          refine wpAnyH_takeD (i := 21) (v := undef) (some 30) rfl rfl (by kernel_rfl) (by kernel_rfl) (by kernel_rfl) (fun _ _ _ h => h) (Or.inr ⟨by rfl, rfl⟩) (HSS.out _ HX.out) ?_
          simp only [Act.put, List.setIfInBounds_toArray, List.set_cons_zero, List.set_cons_succ]
          refine wpAnyH_takeD (i := 22) (v := .bool false) (some 31) rfl rfl (by kernel_rfl) (by kernel_rfl) (by kernel_rfl) (fun _ _ _ h => h) (Or.inl ⟨by rfl, by intro W _; go_simp⟩) (HSS.out _ HX.out) ?_
          simp only [Act.put, List.setIfInBounds_toArray, List.set_cons_zero, List.set_cons_succ]
          refine wpAnyH_takeD (i := 23) (v := .bool false) (some 4) rfl rfl (by kernel_rfl) (by kernel_rfl) (by kernel_rfl) (fun _ _ _ h => h) (Or.inl ⟨by rfl, by intro W _; go_simp⟩) (HSS.out _ HX.out) ?_
          simp only [Act.put, List.setIfInBounds_toArray, List.set_cons_zero, List.set_cons_succ]
          refine wpAnyH_done (by kernel_rfl) ?_ _
          have HB : Hid (Below w.heap.size w X4) := (HKEEP.out _ HX.out).2.2.2
          clear HX HSS HKEEP
          go_wp2_with fail
          go_ret
          exact BoolIs.no HF.out HB.out
        | false =>
          cases z2 with
          | true =>
            dsimp only [Bool.not_true, Bool.not_false, Bool.false_and, Bool.true_and]
            have HF : Hid (¬ MayP m p fs b st gs c) := fun h => nomatch ((HQ0.out.1 h).2).2.2.1
            refine wpAnyH_takeD (i := 12) (v := .bool false) (some 21) rfl rfl (by kernel_rfl) (by kernel_rfl) (by kernel_rfl) (fun _ _ _ h => h) (Or.inl ⟨by rfl, by intro W _; go_simp⟩) (HSS.out _ HX.out) ?_
            simp only [Act.put, List.setIfInBounds_toArray, List.set_cons_zero, List.set_cons_succ]
            refine wpAnyH_takeD (i := 13) (v := .bool false) (some 22) rfl rfl (by kernel_rfl) (by kernel_rfl) (by kernel_rfl) (fun _ _ _ h => h) (Or.inl ⟨by rfl, by intro W _; go_simp⟩) (HSS.out _ HX.out) ?_
            simp only [Act.put, List.setIfInBounds_toArray, List.set_cons_zero, List.set_cons_succ]
            refine wpAnyH_takeD (i := 14) (v := undef) (some 23) rfl rfl (by kernel_rfl) (by kernel_rfl) (by kernel_rfl) (fun _ _ _ h => h) (Or.inr ⟨by rfl, rfl⟩) (HSS.out _ HX.out) ?_
            simp only [Act.put, List.setIfInBounds_toArray, List.set_cons_zero, List.set_cons_succ]
            refine wpAnyH_takeD (i := 15) (v := undef) (some 24) rfl rfl (by kernel_rfl) (by kernel_rfl) (by kernel_rfl) (fun _ _ _ h => h) (Or.inr ⟨by rfl, rfl⟩) (HSS.out _ HX.out) ?_
            simp only [Act.put, List.setIfInBounds_toArray, List.set_cons_zero, List.set_cons_succ]
            refine wpAnyH_takeD (i := 16) (v := .bool false) (some 25) rfl rfl (by kernel_rfl) (by kernel_rfl) (by kernel_rfl) (fun _ _ _ h => h) (Or.inl ⟨by rfl, by intro W _; go_simp⟩) (HSS.out _ HX.out) ?_
            simp only [Act.put, List.setIfInBounds_toArray, List.set_cons_zero, List.set_cons_succ]
            refine wpAnyH_takeD (i := 17) (v := .bool false) (some 26) rfl rfl (by kernel_rfl) (by kernel_rfl) (by kernel_rfl) (fun _ _ _ h => h) (Or.inl ⟨by rfl, by intro W _; go_simp⟩) (HSS.out _ HX.out) ?_
            simp only [Act.put, List.setIfInBounds_toArray, List.set_cons_zero, List.set_cons_succ]
            refine wpAnyH_takeD (i := 18) (v := undef) (some 27) rfl rfl (by kernel_rfl) (by kernel_rfl) (by kernel_rfl) (fun _ _ _ h => h) (Or.inr ⟨by rfl, rfl⟩) (HSS.out _ HX.out) ?_
            simp only [Act.put, List.setIfInBounds_toArray, List.set_cons_zero, List.set_cons_succ]
            refine wpAnyH_takeD (i := 19) (v := undef) (some 28) rfl rfl (by kernel_rfl) (by kernel_rfl) (by kernel_rfl) (fun _ _ _ h => h) (Or.inr ⟨by rfl, rfl⟩) (HSS.out _ HX.out) ?_
            simp only [Act.put, List.setIfInBounds_toArray, List.set_cons_zero, List.set_cons_succ]
            refine wpAnyH_takeD (i := 20) (v := undef) (some 29) rfl rfl (by kernel_rfl) (by kernel_rfl) (by kernel_rfl) (fun _ _ _ h => h) (Or.inr ⟨by rfl, rfl⟩) (HSS.out _ HX.out) ?_
            simp only [Act.put, List.setIfInBounds_toArray, List.set_cons_zero, List.set_cons_succ]
            refine wpAnyH_takeD (i := 21) (v := undef) (some 30) rfl rfl (by kernel_rfl) (by kernel_rfl) (by kernel_rfl) (fun _ _ _ h => h) (Or.inr ⟨by rfl, rfl⟩) (HSS.out _ HX.out) ?_
            simp only [Act.put, List.setIfInBounds_toArray, List.set_cons_zero, List.set_cons_succ]
            refine wpAnyH_takeD (i := 22) (v := .bool false) (some 31) rfl rfl (by kernel_rfl) (by kernel_rfl) (by kernel_rfl) (fun _ _ _ h => h) (Or.inl ⟨by rfl, by intro W _; go_simp⟩) (HSS.out _ HX.out) ?_
            simp only [Act.put, List.setIfInBounds_toArray, List.set_cons_zero, List.set_cons_succ]
            refine wpAnyH_takeD (i := 23) (v := .bool false) (some 4) rfl rfl (by kernel_rfl) (by kernel_rfl) (by kernel_rfl) (fun _ _ _ h => h) (Or.inl ⟨by rfl, by intro W _; go_simp⟩) (HSS.out _ HX.out) ?_
            simp only [Act.put, List.setIfInBounds_toArray, List.set_cons_zero, List.set_cons_succ]
            refine wpAnyH_done (by kernel_rfl) ?_ _
            have HB : Hid (Below w.heap.size w X4) := (HKEEP.out _ HX.out).2.2.2
            clear HX HSS HKEEP
            go_wp2_with fail
            go_ret
            exact BoolIs.no HF.out HB.out
          | false =>
            dsimp only [Bool.not_true, Bool.not_false, Bool.false_and, Bool.true_and]
            refine wpAnyH_takeD (i := 12) (v := .bool true) (some 21) rfl rfl (by kernel_rfl) (by kernel_rfl) (by kernel_rfl) (fun _ _ _ h => h) (Or.inl ⟨by rfl, by intro W _; go_simp⟩) (HSS.out _ HX.out) ?_
            simp only [Act.put, List.setIfInBounds_toArray, List.set_cons_zero, List.set_cons_succ]
            refine wpAnyH_takeD (i := 13) (v := .bool true) (some 22) rfl rfl (by kernel_rfl) (by kernel_rfl) (by kernel_rfl) (fun _ _ _ h => h) (Or.inl ⟨by rfl, by intro W _; go_simp⟩) (HSS.out _ HX.out) ?_
            simp only [Act.put, List.setIfInBounds_toArray, List.set_cons_zero, List.set_cons_succ]
            refine wpAnyH_takeD (i := 14) (v := .pointer (some ⟨o, 4, none⟩)) (some 23) rfl rfl (by kernel_rfl) (by kernel_rfl) (by kernel_rfl) (fun _ _ _ h => h) (Or.inl ⟨by rfl, by intro W _; go_simp⟩) (HSS.out _ HX.out) ?_
            simp only [Act.put, List.setIfInBounds_toArray, List.set_cons_zero, List.set_cons_succ]
            refine wpAnyH_takeD (i := 15) (v := .bool z4) (some 24) rfl rfl (by kernel_rfl) (by kernel_rfl) (by kernel_rfl) (fun _ _ _ h => h) (Or.inl ⟨by rfl, by intro W hW; obtain ⟨h1, h2, h3⟩ := hW; obtain ⟨⟨s0, s1, s2, s3⟩, _⟩ := four_facts h1; obtain ⟨⟨t0, t1, t2⟩, _⟩ := three_facts h2; obtain ⟨y0, y1, y2, y3, y4, y5⟩ := h3.cells; dsimp only at y0 y1 y2 y3 y4 y5; go_simp⟩) (HSS.out _ HX.out) ?_
            simp only [Act.put, List.setIfInBounds_toArray, List.set_cons_zero, List.set_cons_succ]
            cases z4 with
            | false =>
              have HF : Hid (¬ MayP m p fs b st gs c) := fun h => nomatch ((HQ0.out.1 h).2).2.2.2.1
              refine wpAnyH_takeD (i := 16) (v := .bool false) (some 25) rfl rfl (by kernel_rfl) (by kernel_rfl) (by kernel_rfl) (fun _ _ _ h => h) (Or.inl ⟨by rfl, by intro W _; go_simp⟩) (HSS.out _ HX.out) ?_
              simp only [Act.put, List.setIfInBounds_toArray, List.set_cons_zero, List.set_cons_succ]
              refine wpAnyH_takeD (i := 17) (v := .bool false) (some 26) rfl rfl (by kernel_rfl) (by kernel_rfl) (by kernel_rfl) (fun _ _ _ h => h) (Or.inl ⟨by rfl, by intro W _; go_simp⟩) (HSS.out _ HX.out) ?_
              simp only [Act.put, List.setIfInBounds_toArray, List.set_cons_zero, List.set_cons_succ]
              refine wpAnyH_takeD (i := 18) (v := undef) (some 27) rfl rfl (by kernel_rfl) (by kernel_rfl) (by kernel_rfl) (fun _ _ _ h => h) (Or.inr ⟨by rfl, rfl⟩) (HSS.out _ HX.out) ?_
              simp only [Act.put, List.setIfInBounds_toArray, List.set_cons_zero, List.set_cons_succ]
              refine wpAnyH_takeD (i := 19) (v := undef) (some 28) rfl rfl (by kernel_rfl) (by kernel_rfl) (by kernel_rfl) (fun _ _ _ h => h) (Or.inr ⟨by rfl, rfl⟩) (HSS.out _ HX.out) ?_
              simp only [Act.put, List.setIfInBounds_toArray, List.set_cons_zero, List.set_cons_succ]
              refine wpAnyH_takeD (i := 20) (v := undef) (some 29) rfl rfl (by kernel_rfl) (by kernel_rfl) (by kernel_rfl) (fun _ _ _ h => h) (Or.inr ⟨by rfl, rfl⟩) (HSS.out _ HX.out) ?_
              simp only [Act.put, List.setIfInBounds_toArray, List.set_cons_zero, List.set_cons_succ]
              refine wpAnyH_takeD (i := 21) (v := undef) (some 30) rfl rfl (by kernel_rfl) (by kernel_rfl) (by kernel_rfl) (fun _ _ _ h => h) (Or.inr ⟨by rfl, rfl⟩) (HSS.out _ HX.out) ?_
              simp only [Act.put, List.setIfInBounds_toArray, List.set_cons_zero, List.set_cons_succ]
              refine wpAnyH_takeD (i := 22) (v := .bool false) (some 31) rfl rfl (by kernel_rfl) (by kernel_rfl) (by kernel_rfl) (fun _ _ _ h => h) (Or.inl ⟨by rfl, by intro W _; go_simp⟩) (HSS.out _ HX.out) ?_
              simp only [Act.put, List.setIfInBounds_toArray, List.set_cons_zero, List.set_cons_succ]
              refine wpAnyH_takeD (i := 23) (v := .bool false) (some 4) rfl rfl (by kernel_rfl) (by kernel_rfl) (by kernel_rfl) (fun _ _ _ h => h) (Or.inl ⟨by rfl, by intro W _; go_simp⟩) (HSS.out _ HX.out) ?_
              simp only [Act.put, List.setIfInBounds_toArray, List.set_cons_zero, List.set_cons_succ]
              refine wpAnyH_done (by kernel_rfl) ?_ _
              have HB : Hid (Below w.heap.size w X4) := (HKEEP.out _ HX.out).2.2.2
              clear HX HSS HKEEP
              go_wp2_with fail
              go_ret
              exact BoolIs.no HF.out HB.out
            | true =>
              refine wpAnyH_takeD (i := 16) (v := .bool true) (some 25) rfl rfl (by kernel_rfl) (by kernel_rfl) (by kernel_rfl) (fun _ _ _ h => h) (Or.inl ⟨by rfl, by intro W _; go_simp⟩) (HSS.out _ HX.out) ?_
              simp only [Act.put, List.setIfInBounds_toArray, List.set_cons_zero, List.set_cons_succ]
              refine wpAnyH_takeD (i := 17) (v := .bool true) (some 26) rfl rfl (by kernel_rfl) (by kernel_rfl) (by kernel_rfl) (fun _ _ _ h => h) (Or.inl ⟨by rfl, by intro W _; go_simp⟩) (HSS.out _ HX.out) ?_
              simp only [Act.put, List.setIfInBounds_toArray, List.set_cons_zero, List.set_cons_succ]
              refine wpAnyH_takeD (i := 18) (v := .pointer (some ⟨r + 1, 1, none⟩)) (some 27) rfl rfl (by kernel_rfl) (by kernel_rfl) (by kernel_rfl) (fun _ _ _ h => h) (Or.inl ⟨by rfl, by intro W _; go_simp⟩) (HSS.out _ HX.out) ?_
              simp only [Act.put, List.setIfInBounds_toArray, List.set_cons_zero, List.set_cons_succ]
              refine wpAnyH_takeD (i := 19) (v := .slice ob k cb) (some 28) rfl rfl (by kernel_rfl) (by kernel_rfl) (by kernel_rfl) (fun _ _ _ h => h) (Or.inl ⟨by rfl, by intro W hW; obtain ⟨h1, h2, h3⟩ := hW; obtain ⟨⟨s0, s1, s2, s3⟩, _⟩ := four_facts h1; obtain ⟨⟨t0, t1, t2⟩, _⟩ := three_facts h2; obtain ⟨y0, y1, y2, y3, y4, y5⟩ := h3.cells; dsimp only at y0 y1 y2 y3 y4 y5; go_simp⟩) (HSS.out _ HX.out) ?_
              simp only [Act.put, List.setIfInBounds_toArray, List.set_cons_zero, List.set_cons_succ]
              refine wpAnyH_ready (rs := [20]) (by kernel_rfl) (by simp) ?_
              refine AllReadyH.cons rfl (fun K hK => ?_) AllReadyH.nil
              go_simp
              refine (implVaryOf_any _ k base2 gs _ (HKEEP.out _ HX.out).2.2.1 hk HCG.out HG3.out).mono ?_
              rintro e X5 ⟨V, rfl, O, bx⟩
              have HXN : Hid (Below W2.heap.size W2 X5) := HX.out.trans (bx.mono HX.out.size)
              refine hK.out _ _ (HSS.out _ HXN.out) (fun _ => ?_)
              obtain ⟨ov, cv, rfl, hx⟩ := texts_own O
              have HXT : Hid (TextsA X5 ov (varyP gs).length (varyP gs)) := hx
              clear hK K HX bx O hx
              have HX := HXN
              clear HXN
              rw [HVL.out] at HXT ⊢
              refine wpAnyH_ready (rs := [21]) (by kernel_rfl) (by simp) ?_
              refine AllReadyH.cons rfl (fun K hK => ?_) AllReadyH.nil
              go_simp
              refine (namesOk_any ov vl.length cv vl _ HXT.out (by have := HVZ.out.1; omega) HVZ.out.2).mono ?_
              rintro e X6 ⟨t, rfl, ht, bx⟩
              have HXN : Hid (Below W2.heap.size W2 X6) := HX.out.trans (bx.mono HX.out.size)
              refine hK.out _ _ (HSS.out _ HXN.out) (fun _ => ?_)
              clear hK K HX bx
              have HX := HXN
              clear HXN
              refine wpAnyH_takeD (i := 22) (v := .bool t) (some 31) rfl rfl (by kernel_rfl) (by kernel_rfl) (by kernel_rfl) (fun _ _ _ h => h) (Or.inl ⟨by rfl, by intro W _; go_simp⟩) (HSS.out _ HX.out) ?_
              simp only [Act.put, List.setIfInBounds_toArray, List.set_cons_zero, List.set_cons_succ]
              refine wpAnyH_takeD (i := 23) (v := .bool t) (some 4) rfl rfl (by kernel_rfl) (by kernel_rfl) (by kernel_rfl) (fun _ _ _ h => h) (Or.inl ⟨by rfl, by intro W _; go_simp⟩) (HSS.out _ HX.out) ?_
              simp only [Act.put, List.setIfInBounds_toArray, List.set_cons_zero, List.set_cons_succ]
              refine wpAnyH_done (by kernel_rfl) ?_ _
              have HB : Hid (Below w.heap.size w X6) := (HKEEP.out _ HX.out).2.2.2
              have HT : Hid (t = true ↔ MayP m p fs b st gs c) := by
                show _ ↔ _
                rw [ht, HQ0.out]
                exact ⟨fun h => ⟨⟨HRQ.out.1, HRP.out.1, HRQ.out.2, HRP.out.2⟩, rfl, rfl, rfl, rfl, h⟩, fun h => h.2.2.2.2.2⟩
              clear HX HSS HKEEP ht HXT
              go_wp2_with fail
              go_ret
              exact ⟨t, rfl, HT.out, HB.out⟩

end Go.Proofs.YthlmnmbhgkmbfaaGreatDoor

namespace Go.Proofs.YthlmnmbhgkmbfaaGreatDoor
open Go.RowKit
open Go.Lib hiding intOf

/-- While it is asked: the argument, the answer's memory, the request that is made. -/
structure AskSt (w : World) (r : Nat) (m : Int) (p : ByteArray) (v : Value) (b : ByteArray) (z : Value) (W : World) : Prop where
  q0 : W.heap[r]? = some (.cells #[.int .i64 m, .string p, v, .string b] 26)
  q1 : W.heap[r + 1]? = some (.cells #[.int .i64 0, .string ⟨#[]⟩, .slice none 0 0, .string ⟨#[]⟩] 26)
  q2 : W.heap[r + 1 + 1]? = some (.cells #[.int .i64 m, .string p, z, .string b] 26)
  low : Below r w W
theorem AskSt.size {w : World} {r : Nat} {m : Int} {p : ByteArray} {v : Value} {b : ByteArray} {z : Value} {W : World} (h : AskSt w r m p v b z W) : r + 1 + 1 + 1 ≤ W.heap.size := (Array.getElem?_eq_some_iff.1 h.q2).1
theorem AskSt.below {w : World} {r : Nat} {m : Int} {p : ByteArray} {v : Value} {b : ByteArray} {z : Value} {W W' : World} (h : AskSt w r m p v b z W) (hb : Below W.heap.size W W') : AskSt w r m p v b z W' := by
  have hs := h.size
  exact ⟨by rw [hb.block _ (by omega)]; exact h.q0, by rw [hb.block _ (by omega)]; exact h.q1, by rw [hb.block _ (by omega)]; exact h.q2, h.low.trans (hb.mono (by omega))⟩
theorem AskSt.set {w : World} {r : Nat} {m : Int} {p : ByteArray} {v : Value} {b : ByteArray} {z : Value} {W : World} (h : AskSt w r m p v b z W) (y : Value) : AskSt w r m p v b y (W.setCell ⟨r + 1 + 1, 2, none⟩ y) := by
  refine ⟨by rw [heap_setCell_other _ _ r _ (by show r ≠ r + 1 + 1; omega)]; exact h.q0, by rw [heap_setCell_other _ _ (r + 1) _ (by show r + 1 ≠ r + 1 + 1; omega)]; exact h.q1, ?_, h.low.setCell (by show r ≤ r + 1 + 1; omega) _⟩
  have := heap_set W (r + 1 + 1) 2 _ _ _ y h.q2
  simpa using this

end Go.Proofs.YthlmnmbhgkmbfaaGreatDoor

namespace Go.Proofs.YthlmnmbhgkmbfaaGreatDoor
open Go.RowKit
open Go.Lib hiding intOf

/-- A variable's block may have been made, in this form; and a list of fields of one's own, which lies elsewhere. -/
structure MkSt (W1 : World) (ob : Obj) (a : Option Nat) (z : Option Value) (P : List (ByteArray × ByteArray)) (W : World) : Prop where
  low : Below W1.heap.size W1 W
  blk : ∀ o, a = some o → W.heap[o]? = some ob ∧ W1.heap.size ≤ o
  own : ∀ v, z = some v → W.ownsRow W1.heap.size 67 2 v P.length (flatF P)
  ne : ∀ o v j, a = some o → z = some v → v.ownBlock = some j → j ≠ o
theorem MkSt.below {W1 : World} {ob : Obj} {a : Option Nat} {z : Option Value} {P : List (ByteArray × ByteArray)} {W W' : World} (h : MkSt W1 ob a z P W) (hb : Below W.heap.size W W') : MkSt W1 ob a z P W' :=
  ⟨h.low.trans (hb.mono h.low.size), fun o ho => ⟨by rw [hb.block o (Array.getElem?_eq_some_iff.1 (h.blk o ho).1).1]; exact (h.blk o ho).1, (h.blk o ho).2⟩, fun v hv => owns_below (h.own v hv) hb (fun g hg => owns_lt (h.own v hv) hg), h.ne⟩
theorem MkSt.make {W1 : World} {ob : Obj} {z : Option Value} {P : List (ByteArray × ByteArray)} {W : World} (h : MkSt W1 ob none z P W) : MkSt W1 ob (some W.heap.size) z P (W.alloc ob) := by
  have h' := h.below ((Below.refl _ _).alloc (Nat.le_refl _) ob)
  exact ⟨h'.low, fun o ho => by cases ho; exact ⟨heap_alloc_new W _, h.low.size⟩, h'.own, fun o v j ho hv hj => by cases ho; have := owns_lt (h.own v hv) hj; omega⟩
theorem MkSt.put {W1 : World} {ob : Obj} {a : Option Nat} {P : List (ByteArray × ByteArray)} {W W' : World} {v : Value} (h : MkSt W1 ob a none P W) (hb : Below W.heap.size W W') (hv : W'.ownsRow W.heap.size 67 2 v P.length (flatF P)) : MkSt W1 ob a (some v) P W' := by
  have h' := h.below hb
  exact ⟨h'.low, h'.blk, fun u hu => by cases hu; exact owns_wide hv h.low.size, fun o u j ho hu hj => by
    cases hu
    have h1 := owns_ge hv hj
    have h2 := (Array.getElem?_eq_some_iff.1 (h.blk o ho).1).1
    omega⟩
theorem copy_walk {fs : List (ByteArray × ByteArray)} {n : Nat} (h : CopyF fs) (hl : fs.length = n) : WalkF n fs := fun i hi => by
  have := h i (by omega)
  unfold maxLen
  omega

theorem putAll_walk (fs gs : List (ByteArray × ByteArray)) (h : WalkF fs.length fs) (h2 : WalkF gs.length gs) : WalkF (putAll fs gs).length (putAll fs gs) := by
  have hm : ∀ k, k ≤ gs.length → WalkF (putAll fs (gs.take k)).length (putAll fs (gs.take k)) := by
    intro k
    induction k with
    | zero => intro _; simpa [putAll] using h
    | succ k ih =>
      intro hk
      rw [take_field gs k (by omega), putAll_snoc]
      exact put_walk _ _ _ (ih (by omega)) (h2 k (by omega)).1 (h2 k (by omega)).2
  have := hm gs.length (Nat.le_refl _)
  rw [List.take_length] at this
  exact this

/-- While it is asked: the argument, the answer's memory, the request that is made. -/
structure AkSt (w : World) (r o : Nat) (m : Int) (p : ByteArray) (v : Value) (b : ByteArray) (z : Value) (W : World) : Prop where
  q0 : W.heap[r]? = some (.cells #[.int .i64 m, .string p, v, .string b] 26)
  q1 : W.heap[r + 1]? = some (.cells #[.int .i64 0, .string ⟨#[]⟩, .slice none 0 0, .string ⟨#[]⟩] 26)
  q2 : W.heap[o]? = some (.cells #[.int .i64 m, .string p, z, .string b] 26)
  ge : r + 1 + 1 ≤ o
  low : Below r w W
theorem AkSt.size {w : World} {r o : Nat} {m : Int} {p : ByteArray} {v : Value} {b : ByteArray} {z : Value} {W : World} (h : AkSt w r o m p v b z W) : o < W.heap.size := (Array.getElem?_eq_some_iff.1 h.q2).1
theorem AkSt.below {w : World} {r o : Nat} {m : Int} {p : ByteArray} {v : Value} {b : ByteArray} {z : Value} {W W' : World} (h : AkSt w r o m p v b z W) (hb : Below W.heap.size W W') : AkSt w r o m p v b z W' := by
  have hs := h.size
  have hg := h.ge
  exact ⟨by rw [hb.block _ (by omega)]; exact h.q0, by rw [hb.block _ (by omega)]; exact h.q1, by rw [hb.block _ (by omega)]; exact h.q2, hg, h.low.trans (hb.mono (by omega))⟩
theorem AkSt.set {w : World} {r o : Nat} {m : Int} {p : ByteArray} {v : Value} {b : ByteArray} {z : Value} {W : World} (h : AkSt w r o m p v b z W) (y : Value) : AkSt w r o m p v b y (W.setCell ⟨o, 2, none⟩ y) := by
  have hg := h.ge
  refine ⟨by rw [heap_setCell_other _ _ r _ (by show r ≠ o; omega)]; exact h.q0, by rw [heap_setCell_other _ _ (r + 1) _ (by show r + 1 ≠ o; omega)]; exact h.q1, ?_, hg, h.low.setCell (by show r ≤ o; omega) _⟩
  have := heap_set W o 2 _ _ _ y h.q2
  simpa using this

set_option maxHeartbeats 4000000 in
set_option maxRecDepth 100000 in
theorem implMerge_any (st : Int) (v : Value) (b : ByteArray) (n base : Nat) (fs : List (ByteArray × ByteArray)) (st2 : Int) (u : Value) (c : ByteArray) (k base2 : Nat) (gs : List (ByteArray × ByteArray)) (w : World) (hv : FieldsV w base v n fs) (hb : b.size ≤ 281474976710656) (hu : FieldsV w base2 u k gs) (hnk : n + k ≤ 1999999) (hcp : CopyF fs) (hcg : CopyF gs) :
    Calls Tryz.prog 12 #[.agg #[.int .i64 st, v, .string b], .agg #[.int .i64 st2, u, .string c]] w fun e w' => RespRow st (mergeF st fs b gs) b w e w' := by
  have hl := hv.len
  have hl2 := hu.len
  obtain ⟨oa, cap, rfl, _⟩ := hv.slice
  obtain ⟨ob, cb, rfl, _⟩ := hu.slice
  obtain ⟨r, hr⟩ : ∃ r, r = w.heap.size := ⟨_, rfl⟩
  have HR : Hid (w.heap.size = r) := hr.symm
  obtain ⟨W1, hW1⟩ : ∃ W, W = ((w.alloc (.cells #[.int .i64 st, .slice oa n cap, .string b] 28)).alloc (.cells #[.int .i64 st2, .slice ob k cb, .string c] 28)).alloc (.cells #[.int .i64 0, .slice none 0 0, .string ⟨#[]⟩] 28) := ⟨_, rfl⟩
  have HW1 : Hid (((w.alloc (.cells #[.int .i64 st, .slice oa n cap, .string b] 28)).alloc (.cells #[.int .i64 st2, .slice ob k cb, .string c] 28)).alloc (.cells #[.int .i64 0, .slice none 0 0, .string ⟨#[]⟩] 28) = W1) := hW1.symm
  have HV : Hid (∀ W, Below r w W → FieldsV W base (.slice oa n cap) n fs) := fun W h => hv.below (by rw [hr] at h; exact h)
  have HU : Hid (∀ W, Below r w W → FieldsV W base2 (.slice ob k cb) k gs) := fun W h => hu.below (by rw [hr] at h; exact h)
  have s3 : W1.heap.size = r + 1 + 1 + 1 := by rw [hW1, hr]; simp
  have HK1 : Hid (∀ W, Below W1.heap.size W1 W → W.heap[r]? = some (.cells #[.int .i64 st, .slice oa n cap, .string b] 28) ∧ W.heap[r + 1]? = some (.cells #[.int .i64 st2, .slice ob k cb, .string c] 28) ∧ W.heap[r + 1 + 1]? = some (.cells #[.int .i64 0, .slice none 0 0, .string ⟨#[]⟩] 28) ∧ Below r w W) := by
    intro W hW
    have b1 : Below r w W1 := by rw [hW1, hr]; exact (((Below.refl _ w).alloc (Nat.le_refl _) _).alloc (by simp) _).alloc (by simp; omega) _
    have s1 : (w.alloc (.cells #[.int .i64 st, .slice oa n cap, .string b] 28)).heap.size = r + 1 := by rw [hr]; simp
    have s2 : ((w.alloc (.cells #[.int .i64 st, .slice oa n cap, .string b] 28)).alloc (.cells #[.int .i64 st2, .slice ob k cb, .string c] 28)).heap.size = r + 1 + 1 := by rw [hr]; simp
    have e0 := heap_alloc_new w (.cells #[.int .i64 st, .slice oa n cap, .string b] 28)
    have e1 := heap_alloc_new (w.alloc (.cells #[.int .i64 st, .slice oa n cap, .string b] 28)) (.cells #[.int .i64 st2, .slice ob k cb, .string c] 28)
    have e2 := heap_alloc_new ((w.alloc (.cells #[.int .i64 st, .slice oa n cap, .string b] 28)).alloc (.cells #[.int .i64 st2, .slice ob k cb, .string c] 28)) (.cells #[.int .i64 0, .slice none 0 0, .string ⟨#[]⟩] 28)
    rw [← hr] at e0
    rw [s1] at e1
    rw [s2, ← hW1] at e2
    have c1 : Below (r + 1) (w.alloc (.cells #[.int .i64 st, .slice oa n cap, .string b] 28)) W1 := by rw [hW1, ← s1]; exact ((Below.refl _ _).alloc (Nat.le_refl _) _).alloc (by simp) _
    have c2 : Below (r + 1 + 1) ((w.alloc (.cells #[.int .i64 st, .slice oa n cap, .string b] 28)).alloc (.cells #[.int .i64 st2, .slice ob k cb, .string c] 28)) W1 := by rw [hW1, ← s2]; exact (Below.refl _ _).alloc (Nat.le_refl _) _
    rw [s3] at hW
    exact ⟨by rw [hW.block r (by omega), c1.block r (by omega)]; exact e0, by rw [hW.block (r + 1) (by omega), c2.block (r + 1) (by omega)]; exact e1, by rw [hW.block (r + 1 + 1) (by omega)]; exact e2, b1.trans (hW.mono (by omega))⟩
  have HS3 : Hid (W1.heap.size = r + 1 + 1 + 1) := s3
  have HSS : Hid (∀ W, Below W1.heap.size W1 W → (W.cell? ⟨r, 0, none⟩ = some (.int .i64 st) ∧ W.cell? ⟨r, 1, none⟩ = some (.slice oa n cap) ∧ W.cell? ⟨r, 2, none⟩ = some (.string b)) ∧ W.cell? ⟨r + 1, 0, none⟩ = some (.int .i64 st2) ∧ W.cell? ⟨r + 1, 1, none⟩ = some (.slice ob k cb) ∧ W.cell? ⟨r + 1, 2, none⟩ = some (.string c)) := fun W h => ⟨(three_facts (HK1.out W h).1).1, (three_facts (HK1.out W h).2.1).1⟩
  have HCF : Hid (CopyF fs) := hcp
  have HCG : Hid (CopyF gs) := hcg
  have HBM : Hid (b.size ≤ 281474976710656) := hb
  obtain ⟨P, hP⟩ : ∃ x, x = putAll fs gs := ⟨_, rfl⟩
  have HPE : Hid (putAll fs gs = P) := hP.symm
  have HPL : Hid (P.length ≤ 1999999) := by show _ ≤ _; rw [hP]; have := putAll_le fs gs; omega
  have HPW : Hid (WalkF P.length P) := by
    show WalkF _ _
    rw [hP]
    exact putAll_walk fs gs (by rw [hl]; exact copy_walk hcp hl) (by rw [hl2]; exact copy_walk hcg hl2)
  have HYES : Hid (RespP st P b → mergeF st fs b gs = P) := fun h => by
    unfold mergeF
    rw [HPE.out]
    exact if_pos h
  have HNO : Hid (¬ RespP st P b → mergeF st fs b gs = fs) := fun h => by
    unfold mergeF
    rw [HPE.out]
    exact if_neg h
  clear hW1 hv hu hcp hcg hb hP s3 hl hl2
  go_enter Tryz.func12, Tryz.ntmps12
  go_upto_region 1 with fail
  rw [HW1.out, ← hr]
  clear hr HW1
  go_cut [5] (fun s5 wx => ∃ (o : Nat) (oz : Option Addr) (cz : Nat), s5 = .pointer (some ⟨o, 0, none⟩) ∧ Hid (Below W1.heap.size W1 wx ∧ wx.heap[o]? = some (.cells #[.int .i64 st, .slice oz P.length cz, .string b] 28) ∧ W1.heap.size ≤ o ∧ wx.ownsRow W1.heap.size 67 2 (.slice oz P.length cz) P.length (flatF P) ∧ ∀ j, (Value.slice oz P.length cz).ownBlock = some j → j ≠ o))
  case first =>
    refine wp_region_held_drew (S := fun W => (W.cell? ⟨r, 0, none⟩ = some (.int .i64 st) ∧ W.cell? ⟨r, 1, none⟩ = some (.slice oa n cap) ∧ W.cell? ⟨r, 2, none⟩ = some (.string b)) ∧ W.cell? ⟨r + 1, 0, none⟩ = some (.int .i64 st2) ∧ W.cell? ⟨r + 1, 1, none⟩ = some (.slice ob k cb) ∧ W.cell? ⟨r + 1, 2, none⟩ = some (.string c)) (by kernel_rfl) (HSS.out _ (Below.refl _ _).drew) (fun hS0 => ?_)
    have HST : Hid (MkSt W1 (.cells #[.int .i64 0, .slice none 0 0, .string ⟨#[]⟩] 28) none none P W1.drew) := ⟨(Below.refl _ _).drew, (fun o ho => by cases ho), (fun v hv => by cases hv), (fun o v j ho => by cases ho)⟩
    obtain ⟨X0, hX0⟩ : ∃ X, X = W1.drew := ⟨_, rfl⟩
    rw [← hX0] at hS0 HST ⊢
    clear hX0
    refine wpAnyH_takeD (i := 0) (v := .pointer (some ⟨r, 0, none⟩)) (some 6) rfl rfl (by kernel_rfl) (by kernel_rfl) (by kernel_rfl) (fun _ _ _ h => h) (Or.inl ⟨by rfl, by intro W _; go_simp⟩) hS0 ?_
    simp only [Act.put, List.setIfInBounds_toArray, List.set_cons_zero, List.set_cons_succ]
    refine wpAnyH_takeD (i := 1) (v := .int .i64 st) (some 7) rfl rfl (by kernel_rfl) (by kernel_rfl) (by kernel_rfl) (fun _ _ _ h => h) (Or.inl ⟨by rfl, by intro W hW; obtain ⟨⟨s0, s1, s2⟩, t0, t1, t2⟩ := hW; go_simp⟩) hS0 ?_
    simp only [Act.put, List.setIfInBounds_toArray, List.set_cons_zero, List.set_cons_succ]
    refine wpAnyH_takeD (i := 2) (v := .pointer (some ⟨r, 1, none⟩)) (some 8) rfl rfl (by kernel_rfl) (by kernel_rfl) (by kernel_rfl) (fun _ _ _ h => h) (Or.inl ⟨by rfl, by intro W _; go_simp⟩) hS0 ?_
    simp only [Act.put, List.setIfInBounds_toArray, List.set_cons_zero, List.set_cons_succ]
    refine wpAnyH_takeD (i := 3) (v := .slice oa n cap) (some 9) rfl rfl (by kernel_rfl) (by kernel_rfl) (by kernel_rfl) (fun _ _ _ h => h) (Or.inl ⟨by rfl, by intro W hW; obtain ⟨⟨s0, s1, s2⟩, t0, t1, t2⟩ := hW; go_simp⟩) hS0 ?_
    simp only [Act.put, List.setIfInBounds_toArray, List.set_cons_zero, List.set_cons_succ]
    refine wpAnyH_takeD (i := 4) (v := .pointer (some ⟨r + 1, 1, none⟩)) (some 10) rfl rfl (by kernel_rfl) (by kernel_rfl) (by kernel_rfl) (fun _ _ _ h => h) (Or.inl ⟨by rfl, by intro W _; go_simp⟩) hS0 ?_
    simp only [Act.put, List.setIfInBounds_toArray, List.set_cons_zero, List.set_cons_succ]
    refine wpAnyH_takeD (i := 5) (v := .slice ob k cb) (some 11) rfl rfl (by kernel_rfl) (by kernel_rfl) (by kernel_rfl) (fun _ _ _ h => h) (Or.inl ⟨by rfl, by intro W hW; obtain ⟨⟨s0, s1, s2⟩, t0, t1, t2⟩ := hW; go_simp⟩) hS0 ?_
    simp only [Act.put, List.setIfInBounds_toArray, List.set_cons_zero, List.set_cons_succ]
    refine wpAnyH_takeD (i := 7) (v := .pointer (some ⟨r, 2, none⟩)) (some 13) rfl rfl (by kernel_rfl) (by kernel_rfl) (by kernel_rfl) (fun _ _ _ h => h) (Or.inl ⟨by rfl, by intro W _; go_simp⟩) hS0 ?_
    simp only [Act.put, List.setIfInBounds_toArray, List.set_cons_zero, List.set_cons_succ]
    refine wpAnyH_takeD (i := 8) (v := .string b) (some 14) rfl rfl (by kernel_rfl) (by kernel_rfl) (by kernel_rfl) (fun _ _ _ h => h) (Or.inl ⟨by rfl, by intro W hW; obtain ⟨⟨s0, s1, s2⟩, t0, t1, t2⟩ := hW; go_simp⟩) hS0 ?_
    simp only [Act.put, List.setIfInBounds_toArray, List.set_cons_zero, List.set_cons_succ]
    refine wpAnyH_ready (rs := [6, 11]) (by kernel_rfl) (by simp) ?_
    refine AllReadyH.cons rfl (fun K hK => ?_) (AllReadyH.cons rfl (fun K hK => ?_) AllReadyH.nil)
    · go_simp
      refine (putTogether_any _ n base fs _ k base2 gs _ (HV.out _ (HK1.out _ HST.out.low).2.2.2) (HU.out _ (HK1.out _ HST.out.low).2.2.2) hnk HCF.out HCG.out).mono ?_
      rintro e X1 ⟨zv, rfl, ownz, bx⟩
      obtain ⟨oz, cz, rfl⟩ := slice_of_owns ownz
      rw [HPE.out] at ownz
      have HSN : Hid (MkSt W1 (.cells #[.int .i64 0, .slice none 0 0, .string ⟨#[]⟩] 28) none (some (.slice oz _ cz)) P X1) := HST.out.put bx ownz
      rw [HPE.out]
      clear ownz
      refine hK.out _ _ (HSS.out _ HSN.out.low) (fun _ => ?_)
      clear hK K HST bx
      have HST := HSN
      clear HSN
      refine wpAnyH_ready (rs := [9, 11]) (by kernel_rfl) (by simp) ?_
      refine AllReadyH.cons rfl (fun K hK => ?_) (AllReadyH.cons rfl (fun K hK => ?_) AllReadyH.nil)
      · go_simp
        refine (clone_any b _ HBM.out).mono ?_
        rintro e X2 ⟨rfl, bx⟩
        have HSN : Hid (MkSt W1 (.cells #[.int .i64 0, .slice none 0 0, .string ⟨#[]⟩] 28) none (some (.slice oz P.length cz)) P X2) := HST.out.below bx
        refine hK.out _ _ (HSS.out _ HSN.out.low) (fun _ => ?_)
        clear hK K HST bx
        have HST := HSN
        clear HSN
        refine wpAnyH_takeD (i := 10) (v := .agg #[.int .i64 st, .slice oz P.length cz, .string b]) (some 16) rfl rfl (by kernel_rfl) (by kernel_rfl) (by kernel_rfl) (fun _ _ _ h => h) (Or.inl ⟨by rfl, by intro W _; go_simp⟩) (HSS.out _ HST.out.low) ?_
        simp only [Act.put, List.setIfInBounds_toArray, List.set_cons_zero, List.set_cons_succ]
        refine wpAnyH_ready (rs := [11]) (by kernel_rfl) (by simp) ?_
        refine AllReadyH.cons rfl (fun K hK => ?_) AllReadyH.nil
        have HSN : Hid (MkSt W1 (.cells #[.int .i64 0, .slice none 0 0, .string ⟨#[]⟩] 28) (some X2.heap.size) (some (.slice oz P.length cz)) P (X2.alloc (.cells #[.int .i64 0, .slice none 0 0, .string ⟨#[]⟩] 28))) := HST.out.make
        go_simp
        refine hK.out _ _ (HSS.out _ HSN.out.low) (fun _ => ?_)
        clear hK K HST
        obtain ⟨pa, ho⟩ : ∃ o, o = X2.heap.size := ⟨_, rfl⟩
        obtain ⟨X3, hX⟩ : ∃ X, X = X2.alloc (.cells #[.int .i64 0, .slice none 0 0, .string ⟨#[]⟩] 28) := ⟨_, rfl⟩
        rw [← ho] at HSN ⊢
        rw [← hX] at HSN ⊢
        clear ho hX
        have HST := HSN
        clear HSN
        obtain ⟨Y, hY⟩ : ∃ Y, Y = threeSet X3 pa (.int .i64 st) (.slice oz P.length cz) (.string b) := ⟨_, rfl⟩
        have HY : Hid (threeSet X3 pa (.int .i64 st) (.slice oz P.length cz) (.string b) = Y) := hY.symm
        have HF : Hid (Below W1.heap.size W1 Y ∧ Y.heap[pa]? = some (.cells #[.int .i64 st, .slice oz P.length cz, .string b] 28) ∧ W1.heap.size ≤ pa ∧ Y.ownsRow W1.heap.size 67 2 (.slice oz P.length cz) P.length (flatF P) ∧ ∀ j, (Value.slice oz P.length cz).ownBlock = some j → j ≠ pa) := by
          show _ ∧ _ ∧ _ ∧ _ ∧ _
          rw [hY]
          exact ⟨below_three HST.out.low (HST.out.blk pa rfl).2, three_set (HST.out.blk pa rfl).1 _ _ _, (HST.out.blk pa rfl).2, owns_same (HST.out.own _ rfl) (fun j hj => three_other _ _ j _ _ _ (HST.out.ne pa _ j rfl rfl hj)), fun j hj => HST.out.ne pa _ j rfl rfl hj⟩
        obtain ⟨⟨e0, e1, e2⟩, g0, g1, g2⟩ := three_facts (HST.out.blk pa rfl).1
        have hs9 := HSS.out _ HF.out.1
        unfold threeSet at HY
        clear hY HST
        refine wpAnyH_ready (rs := [12]) (by kernel_rfl) (by simp) ?_
        refine AllReadyH.cons rfl (fun K hK => ?_) AllReadyH.nil
        go_simp
        rw [HY.out]
        refine hK.out _ _ hs9 (fun _ => ?_)
        clear hK K HY e0 e1 e2 g0 g1 g2 hs9
        refine wpAnyH_done (by kernel_rfl) ?_ _
        go_wp2_with fail
        go_meet
        exact ⟨pa, oz, cz, rfl, HF⟩
      · have HSN : Hid (MkSt W1 (.cells #[.int .i64 0, .slice none 0 0, .string ⟨#[]⟩] 28) (some X1.heap.size) (some (.slice oz P.length cz)) P (X1.alloc (.cells #[.int .i64 0, .slice none 0 0, .string ⟨#[]⟩] 28))) := HST.out.make
        go_simp
        refine hK.out _ _ (HSS.out _ HSN.out.low) (fun _ => ?_)
        clear hK K HST
        obtain ⟨pa, ho⟩ : ∃ o, o = X1.heap.size := ⟨_, rfl⟩
        obtain ⟨X2, hX⟩ : ∃ X, X = X1.alloc (.cells #[.int .i64 0, .slice none 0 0, .string ⟨#[]⟩] 28) := ⟨_, rfl⟩
        rw [← ho] at HSN ⊢
        rw [← hX] at HSN ⊢
        clear ho hX
        have HST := HSN
        clear HSN
        refine wpAnyH_ready (rs := [9]) (by kernel_rfl) (by simp) ?_
        refine AllReadyH.cons rfl (fun K hK => ?_) AllReadyH.nil
        go_simp
        refine (clone_any b _ HBM.out).mono ?_
        rintro e X3 ⟨rfl, bx⟩
        have HSN : Hid (MkSt W1 (.cells #[.int .i64 0, .slice none 0 0, .string ⟨#[]⟩] 28) (some pa) (some (.slice oz P.length cz)) P X3) := HST.out.below bx
        refine hK.out _ _ (HSS.out _ HSN.out.low) (fun _ => ?_)
        clear hK K HST bx
        have HST := HSN
        clear HSN
        refine wpAnyH_takeD (i := 10) (v := .agg #[.int .i64 st, .slice oz P.length cz, .string b]) (some 16) rfl rfl (by kernel_rfl) (by kernel_rfl) (by kernel_rfl) (fun _ _ _ h => h) (Or.inl ⟨by rfl, by intro W _; go_simp⟩) (HSS.out _ HST.out.low) ?_
        simp only [Act.put, List.setIfInBounds_toArray, List.set_cons_zero, List.set_cons_succ]
        obtain ⟨Y, hY⟩ : ∃ Y, Y = threeSet X3 pa (.int .i64 st) (.slice oz P.length cz) (.string b) := ⟨_, rfl⟩
        have HY : Hid (threeSet X3 pa (.int .i64 st) (.slice oz P.length cz) (.string b) = Y) := hY.symm
        have HF : Hid (Below W1.heap.size W1 Y ∧ Y.heap[pa]? = some (.cells #[.int .i64 st, .slice oz P.length cz, .string b] 28) ∧ W1.heap.size ≤ pa ∧ Y.ownsRow W1.heap.size 67 2 (.slice oz P.length cz) P.length (flatF P) ∧ ∀ j, (Value.slice oz P.length cz).ownBlock = some j → j ≠ pa) := by
          show _ ∧ _ ∧ _ ∧ _ ∧ _
          rw [hY]
          exact ⟨below_three HST.out.low (HST.out.blk pa rfl).2, three_set (HST.out.blk pa rfl).1 _ _ _, (HST.out.blk pa rfl).2, owns_same (HST.out.own _ rfl) (fun j hj => three_other _ _ j _ _ _ (HST.out.ne pa _ j rfl rfl hj)), fun j hj => HST.out.ne pa _ j rfl rfl hj⟩
        obtain ⟨⟨e0, e1, e2⟩, g0, g1, g2⟩ := three_facts (HST.out.blk pa rfl).1
        have hs9 := HSS.out _ HF.out.1
        unfold threeSet at HY
        clear hY HST
        refine wpAnyH_ready (rs := [12]) (by kernel_rfl) (by simp) ?_
        refine AllReadyH.cons rfl (fun K hK => ?_) AllReadyH.nil
        go_simp
        rw [HY.out]
        refine hK.out _ _ hs9 (fun _ => ?_)
        clear hK K HY e0 e1 e2 g0 g1 g2 hs9
        refine wpAnyH_done (by kernel_rfl) ?_ _
        go_wp2_with fail
        go_meet
        exact ⟨pa, oz, cz, rfl, HF⟩
    · have HSN : Hid (MkSt W1 (.cells #[.int .i64 0, .slice none 0 0, .string ⟨#[]⟩] 28) (some X0.heap.size) none P (X0.alloc (.cells #[.int .i64 0, .slice none 0 0, .string ⟨#[]⟩] 28))) := HST.out.make
      go_simp
      refine hK.out _ _ (HSS.out _ HSN.out.low) (fun _ => ?_)
      clear hK K HST
      obtain ⟨pa, ho⟩ : ∃ o, o = X0.heap.size := ⟨_, rfl⟩
      obtain ⟨X1, hX⟩ : ∃ X, X = X0.alloc (.cells #[.int .i64 0, .slice none 0 0, .string ⟨#[]⟩] 28) := ⟨_, rfl⟩
      rw [← ho] at HSN ⊢
      rw [← hX] at HSN ⊢
      clear ho hX
      have HST := HSN
      clear HSN
      refine wpAnyH_ready (rs := [6]) (by kernel_rfl) (by simp) ?_
      refine AllReadyH.cons rfl (fun K hK => ?_) AllReadyH.nil
      go_simp
      refine (putTogether_any _ n base fs _ k base2 gs _ (HV.out _ (HK1.out _ HST.out.low).2.2.2) (HU.out _ (HK1.out _ HST.out.low).2.2.2) hnk HCF.out HCG.out).mono ?_
      rintro e X2 ⟨zv, rfl, ownz, bx⟩
      obtain ⟨oz, cz, rfl⟩ := slice_of_owns ownz
      rw [HPE.out] at ownz
      have HSN : Hid (MkSt W1 (.cells #[.int .i64 0, .slice none 0 0, .string ⟨#[]⟩] 28) (some pa) (some (.slice oz _ cz)) P X2) := HST.out.put bx ownz
      rw [HPE.out]
      clear ownz
      refine hK.out _ _ (HSS.out _ HSN.out.low) (fun _ => ?_)
      clear hK K HST bx
      have HST := HSN
      clear HSN
      refine wpAnyH_ready (rs := [9]) (by kernel_rfl) (by simp) ?_
      refine AllReadyH.cons rfl (fun K hK => ?_) AllReadyH.nil
      go_simp
      refine (clone_any b _ HBM.out).mono ?_
      rintro e X3 ⟨rfl, bx⟩
      have HSN : Hid (MkSt W1 (.cells #[.int .i64 0, .slice none 0 0, .string ⟨#[]⟩] 28) (some pa) (some (.slice oz P.length cz)) P X3) := HST.out.below bx
      refine hK.out _ _ (HSS.out _ HSN.out.low) (fun _ => ?_)
      clear hK K HST bx
      have HST := HSN
      clear HSN
      refine wpAnyH_takeD (i := 10) (v := .agg #[.int .i64 st, .slice oz P.length cz, .string b]) (some 16) rfl rfl (by kernel_rfl) (by kernel_rfl) (by kernel_rfl) (fun _ _ _ h => h) (Or.inl ⟨by rfl, by intro W _; go_simp⟩) (HSS.out _ HST.out.low) ?_
      simp only [Act.put, List.setIfInBounds_toArray, List.set_cons_zero, List.set_cons_succ]
      obtain ⟨Y, hY⟩ : ∃ Y, Y = threeSet X3 pa (.int .i64 st) (.slice oz P.length cz) (.string b) := ⟨_, rfl⟩
      have HY : Hid (threeSet X3 pa (.int .i64 st) (.slice oz P.length cz) (.string b) = Y) := hY.symm
      have HF : Hid (Below W1.heap.size W1 Y ∧ Y.heap[pa]? = some (.cells #[.int .i64 st, .slice oz P.length cz, .string b] 28) ∧ W1.heap.size ≤ pa ∧ Y.ownsRow W1.heap.size 67 2 (.slice oz P.length cz) P.length (flatF P) ∧ ∀ j, (Value.slice oz P.length cz).ownBlock = some j → j ≠ pa) := by
        show _ ∧ _ ∧ _ ∧ _ ∧ _
        rw [hY]
        exact ⟨below_three HST.out.low (HST.out.blk pa rfl).2, three_set (HST.out.blk pa rfl).1 _ _ _, (HST.out.blk pa rfl).2, owns_same (HST.out.own _ rfl) (fun j hj => three_other _ _ j _ _ _ (HST.out.ne pa _ j rfl rfl hj)), fun j hj => HST.out.ne pa _ j rfl rfl hj⟩
      obtain ⟨⟨e0, e1, e2⟩, g0, g1, g2⟩ := three_facts (HST.out.blk pa rfl).1
      have hs9 := HSS.out _ HF.out.1
      unfold threeSet at HY
      clear hY HST
      refine wpAnyH_ready (rs := [12]) (by kernel_rfl) (by simp) ?_
      refine AllReadyH.cons rfl (fun K hK => ?_) AllReadyH.nil
      go_simp
      rw [HY.out]
      refine hK.out _ _ hs9 (fun _ => ?_)
      clear hK K HY e0 e1 e2 g0 g1 g2 hs9
      refine wpAnyH_done (by kernel_rfl) ?_ _
      go_wp2_with fail
      go_meet
      exact ⟨pa, oz, cz, rfl, HF⟩
  case rest =>
  obtain ⟨o, oz, cz, hs5, HF⟩ := hcut
  rw [hs5]
  obtain ⟨w2, hw2⟩ : ∃ W, W = wc := ⟨_, rfl⟩
  rw [← hw2] at HF ⊢
  clear hs5 hw2
  have HST : Hid (MgSt w r o st (.slice oa n cap) b st2 (.slice ob k cb) c (.slice oz P.length cz) P w2) := by
    obtain ⟨a0, a1, a2, a3⟩ := HK1.out _ HF.out.1
    obtain ⟨_, f1, f2, f3, f4⟩ := HF.out
    have h3 := HS3.out
    rw [h3] at f2 f3
    exact ⟨a0, a1, a2, f1, f3, f4, f2, a3⟩
  clear HF HSS HK1 HS3
  obtain ⟨ln, hln⟩ : ∃ x, x = P.length := ⟨_, rfl⟩
  have HVQ : Hid (FieldsV w2 (r + 1 + 1 + 1) (.slice oz ln cz) ln P) := by
    have h := FieldsV.of_owns HST.out.own
    rw [← hln] at h
    exact h
  rw [← hln] at HPL HPW HST
  clear hln
  obtain ⟨⟨d0, d1, d2⟩, _⟩ := three_facts HST.out.q3
  go_wp2_with fail
  refine (implRespOk_any st _ b ln _ P _ HVQ.out (by have := HPL.out; omega) HPW.out (by have := HBM.out; unfold maxLen; omega)).mono ?_
  rintro e w3 ⟨ok, rfl, hok, b3⟩
  have HST3 : Hid (MgSt w r o st (.slice oa n cap) b st2 (.slice ob k cb) c (.slice oz ln cz) P w3) := HST.out.below b3
  clear d0 d1 d2 HST HVQ b3
  cases ok with
  | true =>
    have HFE : Hid (mergeF st fs b gs = P) := HYES.out (hok.1 rfl)
    clear hok HYES HNO
    obtain ⟨⟨e0, e1, e2⟩, g0, g1, g2⟩ := three_facts HST3.out.q2
    obtain ⟨⟨d0, d1, d2⟩, _⟩ := three_facts HST3.out.q3
    have hset := three_set HST3.out.q2 (.int .i64 st) (.slice oz ln cz) (.string b)
    obtain ⟨⟨k0, k1, k2⟩, _⟩ := three_facts hset
    have HFB : Hid (Below r w (threeSet (w3) (r + 1 + 1) (.int .i64 st) (.slice oz ln cz) (.string b))) := below_three HST3.out.low (by omega)
    have HFO : Hid ((threeSet (w3) (r + 1 + 1) (.int .i64 st) (.slice oz ln cz) (.string b)).ownsRow r 67 2 (.slice oz ln cz) (mergeF st fs b gs).length (flatF (mergeF st fs b gs))) := by
      show World.ownsRow _ _ _ _ _ _ _
      rw [HFE.out]
      refine owns_same (owns_wide HST3.out.own (by omega)) (fun j hj => ?_)
      have hj2 := owns_ge HST3.out.own hj
      exact three_other _ _ j _ _ _ (by omega)
    unfold threeSet at k0 k1 k2 HFB HFO
    clear hset HST3
    go_wp2_with fail
    refine bodyPost_ret (v := .agg #[.int .i64 st, .slice oz ln cz, .string b]) (by simp [results, Tryz.results12, go_sem, k0, k1, k2]) rfl ?_
    exact ⟨_, rfl, by rw [HR.out]; exact HFO.out, by rw [HR.out]; exact HFB.out⟩
  | false =>
    have HFE : Hid (mergeF st fs b gs = fs) := HNO.out (fun h => nomatch hok.2 h)
    clear hok HYES HNO
    have hva := HV.out _ HST3.out.low
    obtain ⟨⟨_, q1, _⟩, _⟩ := three_facts HST3.out.q0
    have HNIL : Hid (FieldsV w3 0 (.slice none 0 0) 0 []) := .inl ⟨none, 0, rfl, fun _ => rfl, rfl, rfl⟩
    have HCN : Hid (CopyF []) := fun i hi => by cases hi
    go_wp2_with fail
    refine (putTogether_any _ n base fs _ 0 0 [] _ hva HNIL.out (by omega) HCF.out HCN.out).mono ?_
    rintro e w4 ⟨zv, rfl, ownz, b4⟩
    have HPN : Hid (putAll fs [] = fs) := rfl
    rw [HPN.out] at ownz
    obtain ⟨o4, c4, rfl⟩ := slice_of_owns ownz
    obtain ⟨⟨_, f1, _⟩, _, y1, _⟩ := three_facts (HST3.out.below b4).q3
    have HST5 : Hid (MgSt w r o st (.slice oa n cap) b st2 (.slice ob k cb) c (.slice o4 fs.length c4) fs (w4.setCell ⟨o, 1, none⟩ (.slice o4 fs.length c4))) := HST3.out.set b4 ownz
    clear HST3 b4 ownz hva q1 HNIL HCN
    go_upto_region 4 with fail
    obtain ⟨w5, hw5⟩ : ∃ W, W = w4.setCell ⟨o, 1, none⟩ (.slice o4 fs.length c4) := ⟨_, rfl⟩
    rw [← hw5] at HST5 ⊢
    clear hw5 f1 y1
    obtain ⟨lf, hlf⟩ : ∃ x, x = fs.length := ⟨_, rfl⟩
    rw [← hlf] at HST5 ⊢
    clear hlf
    obtain ⟨⟨e0, e1, e2⟩, g0, g1, g2⟩ := three_facts HST5.out.q2
    obtain ⟨⟨d0, d1, d2⟩, _⟩ := three_facts HST5.out.q3
    have hset := three_set HST5.out.q2 (.int .i64 st) (.slice o4 lf c4) (.string b)
    obtain ⟨⟨k0, k1, k2⟩, _⟩ := three_facts hset
    have HFB : Hid (Below r w (threeSet (w5) (r + 1 + 1) (.int .i64 st) (.slice o4 lf c4) (.string b))) := below_three HST5.out.low (by omega)
    have HFO : Hid ((threeSet (w5) (r + 1 + 1) (.int .i64 st) (.slice o4 lf c4) (.string b)).ownsRow r 67 2 (.slice o4 lf c4) (mergeF st fs b gs).length (flatF (mergeF st fs b gs))) := by
      show World.ownsRow _ _ _ _ _ _ _
      rw [HFE.out]
      refine owns_same (owns_wide HST5.out.own (by omega)) (fun j hj => ?_)
      have hj2 := owns_ge HST5.out.own hj
      exact three_other _ _ j _ _ _ (by omega)
    unfold threeSet at k0 k1 k2 HFB HFO
    clear hset HST5
    go_wp2_with fail
    refine bodyPost_ret (v := .agg #[.int .i64 st, .slice o4 lf c4, .string b]) (by simp [results, Tryz.results12, go_sem, k0, k1, k2]) rfl ?_
    exact ⟨_, rfl, by rw [HR.out]; exact HFO.out, by rw [HR.out]; exact HFB.out⟩


end Go.Proofs.YthlmnmbhgkmbfaaGreatDoor

namespace Go.Proofs.YthlmnmbhgkmbfaaGreatDoor
open Go.RowKit
open Go.Lib hiding intOf

/-- Fields of short texts. -/
def ShortF (fs : List (ByteArray × ByteArray)) : Prop := ∀ f ∈ fs, f.1.size ≤ 64 ∧ f.2.size ≤ 64
theorem ShortF.snoc {fs : List (ByteArray × ByteArray)} {nm vl : ByteArray} (h : ShortF fs) (h1 : nm.size ≤ 64) (h2 : vl.size ≤ 64) : ShortF (fs ++ [(nm, vl)]) := by
  intro f hf
  rcases List.mem_append.1 hf with hf | hf
  · exact h f hf
  · simp at hf; subst hf; exact ⟨h1, h2⟩
/-- A call on the cursor answers a list of at most m fields of short texts, in memory of its own, and turns the cursor alone of what was there. -/
def FieldsDrawn (m : Nat) (w : World) (c : Nat) (a : Option Addr) (len cap : Nat) (e : Ending) (w' : World) : Prop :=
  ∃ (v : Value) (fs : List (ByteArray × ByteArray)), e = .returned v ∧ w'.ownsRow w.heap.size 67 2 v fs.length (flatF fs) ∧ fs.length ≤ m ∧ ShortF fs ∧ CurAt w' c a len cap ∧ w.grownBy w' (some c)

set_option maxHeartbeats 2000000 in
set_option maxRecDepth 100000 in
theorem l2DrawRight_any (c B : Nat) (a : Option Addr) (len cap : Nat) (zs : List Int) (w : World) (hcur : CurAt w c a len cap) (hcode : CodeAt w B a len zs) (hB : B ≤ c) :
    Calls Tryz.prog 84 #[.pointer (some ⟨c, 0, none⟩)] w fun e w' => FieldsDrawn 5 w c a len cap e w' := by
  obtain ⟨i0, hi, hz0, hz1, hz2⟩ := info_parts info33
  have hcw := hcur.lt
  go_enter Tryz.func84, Tryz.ntmps84
  go_wp2
  go_loopw [3, 4] (fun v i wr => ∃ (k : Nat) (fs : List (ByteArray × ByteArray)), k ≤ 5 ∧ i = .int .i64 (k : Int) ∧ wr.ownsRow w.heap.size 67 2 v fs.length (flatF fs) ∧ fs.length ≤ k ∧ Hid (ShortF fs) ∧ CurAt wr c a len cap ∧ w.grownBy wr (some c)) (fun _ i _ => 5 - (intOf i).toNat)
  case atStart => exact ⟨0, [], Nat.zero_le _, rfl, ⟨rfl, .inr ⟨w.heap.size, 0, #[], rfl, Nat.le_refl _, heap_alloc_new w _, Nat.le_refl _, Nat.zero_le _, rfl, rfl⟩⟩, Nat.le_refl _, (fun f hf => by simp at hf), hcur.below ((Below.refl _ _).alloc (Nat.le_refl _) _) hcw, World.grownBy_alloc w _ _⟩
  case round =>
    obtain ⟨k, fs, hk, rfl, hown, hfl, hsh, hcu, hgw⟩ := hrel
    go_wp2_with fail
    refine (l1Below_any c B 5 a len cap zs _ hcu (hcode.grown hgw hB) hB (by omega) (by omega)).mono ?_
    rintro e w1 ⟨x, rfl, hx0, hx1, hcu1, hg1⟩
    have hown1 := owns_grown hown hg1 hcw
    have hgw1 := grownBy_trans hgw hg1
    clear hcu hown hg1 hgw
    by_cases hkx : (k : Int) < x
    · go_wp2_with fail
      refine (l2DrawField_any c B a len cap zs _ hcu1 (hcode.grown hgw1 hB) hB).mono ?_
      rintro e w2 ⟨nm, vl, rfl, hnm, hvl, hcu2, hg2⟩
      have hown2 := owns_grown hown1 hg2 hcw
      have hgw2 := grownBy_trans hgw1 hg2
      clear hcu1 hown1 hg2 hgw1
      go_wp2_with fail
      have hown3 := hown2.alloc (.cells #[.string nm, .string vl] 67)
      have hgw3 := grownBy_allocR hgw2 (.cells #[.string nm, .string vl] 67)
      have hcl2 := hcu2.lt
      have hcu3 := hcu2.below ((Below.refl _ _).alloc (Nat.le_refl _) (.cells #[.string nm, .string vl] 67)) hcl2
      have hc0 : (w2.alloc (.cells #[.string nm, .string vl] 67)).cell? ⟨w2.heap.size, 0, none⟩ = some (.string nm) := by rw [World.cell?_alloc_new]; rfl
      have hc1 : (w2.alloc (.cells #[.string nm, .string vl] 67)).cell? ⟨w2.heap.size, 1, none⟩ = some (.string vl) := by rw [World.cell?_alloc_new]; rfl
      have hs3 : w2.heap.size < (w2.alloc (.cells #[.string nm, .string vl] 67)).heap.size := by simp
      obtain ⟨r, hr⟩ : ∃ r, r = w2.heap.size := ⟨_, rfl⟩
      refine (l2At_any u3 fs.length w.heap.size fs nm _ (FieldsV.of_owns hown3) (by omega)).mono ?_
      rintro e w3 ⟨rfl, hw3⟩
      rw [← hw3] at hown3 hgw3 hcu3 hc0 hc1 hs3
      rw [← hr] at hc0 hc1 hs3
      rw [← hr]
      clear hown2 hgw2 hcu2 hw3 hr hcl2
      by_cases hin : atF fs nm < fs.length
      · have hI : Hid (atI fs nm = (atF fs nm : Int)) := by show _ = _; unfold atI; rw [if_pos hin]
        rw [hI.out]
        obtain ⟨p, hp⟩ : ∃ p, p = atF fs nm := ⟨_, rfl⟩
        rw [← hp]
        have hp0 : ¬ (p : Int) < 0 := by omega
        clear hI hin hp
        go_wp2
        go_roundw
        case rel => exact ⟨k + 1, fs, by omega, by go_num, hown3, by omega, hsh, hcu3, hgw3⟩
        case measure => simp [intOf]; omega
      · have hI : Hid (atI fs nm = -1) := by show _ = _; unfold atI; rw [if_neg hin]
        rw [hI.out]
        clear hI hin
        have h63 : fs.length + 1 ≤ maxLen := by unfold maxLen; omega
        have h47 : (fs.length + 1) * 32 ≤ 140737488355328 := by omega
        have hsw3 := hgw3.size
        have hcl3 := hcu3.lt
        have HBS : ∀ o, w.heap.size ≤ (w3.alloc o).heap.size := fun o => by simp; omega
        go_wp2_with (at_builtin; refine wpList_append_own _ rfl _ _ 24 rfl w.heap.size 67 i0 (.agg #[.string ⟨#[]⟩, .string ⟨#[]⟩]) 2 32 Tryz.underlying24 hi hz0 hz1 hz2 rfl (by decide) _ _ _ rfl (hown3.alloc _) ⟨w3.heap.size, 0, none⟩ 1 1 [.string nm, .string vl] rfl rfl (cell_two_new _ _ _ _) (two_text _ _) h63 h47 (HBS _) ?_)
        intro v1 w5 hown5 hgrow _
        have hgw5 : w.grownBy w5 (some c) := grown_later (grownBy_allocR hgw3 _) hgrow (fun g hg => owns_ge hown3 hg)
        have hcu5 : CurAt w5 c a len cap := (hcu3.below ((Below.refl _ _).alloc (Nat.le_refl _) _) hcl3).grown hgrow (fun e => by have := owns_ge hown3 e; omega)
        have hsh5 : Hid (ShortF (fs ++ [(nm, vl)])) := hsh.out.snoc hnm hvl
        clear hgrow hown3 hcu3 hgw3 HBS hc0 hc1
        go_wp2
        go_roundw
        case rel => exact ⟨k + 1, fs ++ [(nm, vl)], by omega, by go_num, by rw [flatF_append, flatF_one]; simpa using hown5, by simp; omega, hsh5, hcu5, hgw5⟩
        case measure => simp [intOf]; omega
    · go_wp2
      go_ret
      exact ⟨_, fs, rfl, hown1, by omega, hsh.out, hcu1, hgw1⟩

theorem owns_slice {w : World} {base : Nat} {t : TypeId} {size : Nat} {v : Value} {n : Nat} {xs : List Value} (h : w.ownsRow base t size v n xs) : ∃ oa cp, v = .slice oa n cp := by
  rcases h.2 with ⟨rfl, rfl⟩ | ⟨g, cap, cur, rfl, _⟩
  · exact ⟨none, 0, rfl⟩
  · exact ⟨_, _, rfl⟩
theorem grown_of_below {w w' : World} (hb : Below w.heap.size w w') : w.grownBy w' none := ⟨hb.os, hb.tape, hb.output, hb.size, fun k hk _ => hb.block k hk⟩
theorem numText_short : ∀ k, k ≤ 9 → (numText k).size ≤ 20 := by decide
def lenOf : Value → Nat
  | .slice _ n _ => n
  | _ => 0
theorem cell_four_new (w : World) (a b c d : Value) (t : TypeId) : ∀ j u, [a, b, c, d][j]? = some u → (w.alloc (.cells #[a, b, c, d] t)).cell? ((⟨w.heap.size, 0, none⟩ : Addr).add j) = some u := by
  intro j u h
  have e : (⟨w.heap.size, 0, none⟩ : Addr).add j = ⟨w.heap.size, j, none⟩ := by
    unfold Addr.add; split <;> simp_all
  rw [e, World.cell?_alloc_new]
  match j, h with
  | 0, h => simpa using h
  | 1, h => simpa using h
  | 2, h => simpa using h
  | 3, h => simpa using h
  | k + 4, h => simp at h
theorem four_text (a b c d : ByteArray) : ∀ u ∈ [Value.string a, Value.string b, Value.string c, Value.string d], u.oneCell' = true := by
  intro u hu
  simp at hu
  rcases hu with rfl | rfl | rfl | rfl <;> rfl

set_option maxHeartbeats 2000000 in
set_option maxRecDepth 100000 in
theorem l2Draw_any (c B : Nat) (a : Option Addr) (len cap : Nat) (zs : List Int) (w : World) (hcur : CurAt w c a len cap) (hcode : CodeAt w B a len zs) (hB : B ≤ c) :
    Calls Tryz.prog 60 #[.pointer (some ⟨c, 0, none⟩)] w fun e w' => FieldsDrawn 40 w c a len cap e w' := by
  obtain ⟨i0, hi, hz0, hz1, hz2⟩ := info_parts info33
  have hcw := hcur.lt
  go_enter Tryz.func60, Tryz.ntmps60
  go_wp2_with fail
  refine (l2DrawRight_any c B a len cap zs _ hcur hcode hB).mono ?_
  rintro e w1 ⟨v, fs, rfl, hown1, hfl, hsh, hcu1, hgw1⟩
  have HSH : Hid (ShortF fs) := hsh
  clear hsh
  go_wp2_with fail
  refine (l1Below_any c B 15 a len cap zs _ hcu1 (hcode.grown hgw1 hB) hB (by omega) (by omega)).mono ?_
  rintro e w2 ⟨x, rfl, hx0, hx1, hcu2, hg2⟩
  have hown2 := owns_grown hown1 hg2 hcw
  have hgw2 := grownBy_trans hgw1 hg2
  clear hcu1 hown1 hg2 hgw1
  by_cases h0 : x = 0
  · subst h0
    go_wp2_with fail
    refine (l2DrawField_any c B a len cap zs _ hcu2 (hcode.grown hgw2 hB) hB).mono ?_
    rintro e w3 ⟨nm, vl, rfl, hnm, hvl, hcu3, hg3⟩
    have hown3 := owns_grown hown2 hg3 hcw
    have hgw3 := grownBy_trans hgw2 hg3
    clear hcu2 hown2 hg3 hgw2
    go_wp2_with fail
    refine (l2DrawField_any c B a len cap zs _ hcu3 (hcode.grown hgw3 hB) hB).mono ?_
    rintro e w4 ⟨nm2, vl2, rfl, hnm2, hvl2, hcu4, hg4⟩
    have hown4 := owns_grown hown3 hg4 hcw
    have hgw4 := grownBy_trans hgw3 hg4
    clear hcu3 hown3 hg4 hgw3
    have h63 : fs.length + 2 ≤ maxLen := by unfold maxLen; omega
    have h47 : (fs.length + 2) * 32 ≤ 140737488355328 := by omega
    have hsw4 := hgw4.size
    have hcl4 := hcu4.lt
    have HBS : ∀ o, w.heap.size ≤ (w4.alloc o).heap.size := fun o => by simp; omega
    go_wp2_with (at_builtin; refine wpList_append_own _ rfl _ _ 24 rfl w.heap.size 67 i0 (.agg #[.string ⟨#[]⟩, .string ⟨#[]⟩]) 2 32 Tryz.underlying24 hi hz0 hz1 hz2 rfl (by decide) _ _ _ rfl (hown4.alloc _) ⟨w4.heap.size, 0, none⟩ 2 2 [.string nm, .string vl, .string nm2, .string vl2] rfl rfl (cell_four_new _ _ _ _ _ _) (four_text _ _ _ _) h63 h47 (HBS _) ?_)
    intro v1 w5 hown5 hgrow _
    have hgw5 : w.grownBy w5 (some c) := grown_later (grownBy_allocR hgw4 _) hgrow (fun g hg => owns_ge hown4 hg)
    have hcu5 : CurAt w5 c a len cap := (hcu4.below ((Below.refl _ _).alloc (Nat.le_refl _) _) hcl4).grown hgrow (fun e => by have := owns_ge hown4 e; omega)
    clear hgrow hown4 hcu4 hgw4 HBS
    go_wp2
    go_ret
    exact ⟨_, (fs ++ [(nm, vl)]) ++ [(nm2, vl2)], rfl, by rw [flatF_append, flatF_append, flatF_one, flatF_one]; simpa using hown5, by simp; omega, (HSH.out.snoc hnm hvl).snoc hnm2 hvl2, hcu5, hgw5⟩
  by_cases h1 : x = 1
  · subst h1
    go_wp2_with fail
    refine (pick_new c B [⟨#[]⟩, ⟨#[65]⟩, ⟨#[99, 111, 110, 116, 101, 110, 116, 45, 108, 101, 110, 103, 116, 104]⟩] 64 (by decide) a len cap zs w2 hcu2 (hcode.grown hgw2 hB) hB (by decide) (by decide)).mono ?_
    rintro e w3 ⟨nm, rfl, hnm, hcu3, hg3⟩
    have hown3 := owns_grown hown2 hg3 hcw
    have hgw3 := grownBy_trans hgw2 hg3
    clear hcu2 hown2 hg3 hgw2
    go_wp2_with fail
    refine (pick_new c B [⟨#[]⟩, ⟨#[32, 97]⟩, ⟨#[49]⟩] 64 (by decide) a len cap zs w3 hcu3 (hcode.grown hgw3 hB) hB (by decide) (by decide)).mono ?_
    rintro e w4 ⟨vl, rfl, hvl, hcu4, hg4⟩
    have hown4 := owns_grown hown3 hg4 hcw
    have hgw4 := grownBy_trans hgw3 hg4
    clear hcu3 hown3 hg4 hgw3
    have h63 : fs.length + 1 ≤ maxLen := by unfold maxLen; omega
    have h47 : (fs.length + 1) * 32 ≤ 140737488355328 := by omega
    have hsw4 := hgw4.size
    have hcl4 := hcu4.lt
    have HBS : ∀ o, w.heap.size ≤ (w4.alloc o).heap.size := fun o => by simp; omega
    go_wp2_with (at_builtin; refine wpList_append_own _ rfl _ _ 24 rfl w.heap.size 67 i0 (.agg #[.string ⟨#[]⟩, .string ⟨#[]⟩]) 2 32 Tryz.underlying24 hi hz0 hz1 hz2 rfl (by decide) _ _ _ rfl (hown4.alloc _) ⟨w4.heap.size, 0, none⟩ 1 1 [.string nm, .string vl] rfl rfl (cell_two_new _ _ _ _) (two_text _ _) h63 h47 (HBS _) ?_)
    intro v1 w5 hown5 hgrow _
    have hgw5 : w.grownBy w5 (some c) := grown_later (grownBy_allocR hgw4 _) hgrow (fun g hg => owns_ge hown4 hg)
    have hcu5 : CurAt w5 c a len cap := (hcu4.below ((Below.refl _ _).alloc (Nat.le_refl _) _) hcl4).grown hgrow (fun e => by have := owns_ge hown4 e; omega)
    clear hgrow hown4 hcu4 hgw4 HBS
    go_wp2
    go_ret
    exact ⟨_, fs ++ [(nm, vl)], rfl, by rw [flatF_append, flatF_one]; simpa using hown5, by simp; omega, HSH.out.snoc hnm hvl, hcu5, hgw5⟩
  by_cases h2 : x = 2
  · subst h2
    clear h0 h1
    go_wp2
    obtain ⟨oa, cp, rfl⟩ := owns_slice hown2
    go_loopw [3] (fun v wr => ∃ (oa : Option Addr) (cp : Nat) (fs : List (ByteArray × ByteArray)), v = .slice oa fs.length cp ∧ wr.ownsRow w.heap.size 67 2 (.slice oa fs.length cp) fs.length (flatF fs) ∧ fs.length ≤ 9 ∧ Hid (ShortF fs) ∧ CurAt wr c a len cap ∧ w.grownBy wr (some c)) (fun v _ => 9 - lenOf v)
    case atStart => exact ⟨oa, cp, fs, rfl, hown2, by omega, HSH, hcu2, hgw2⟩
    case round =>
      obtain ⟨oa, cp, fs, rfl, hown, hfl, hsh, hcu, hgw⟩ := hrel
      go_wp2_with fail
      refine (l1Below_any c B 2 a len cap zs _ hcu (hcode.grown hgw hB) hB (by omega) (by omega)).mono ?_
      rintro e w3 ⟨x, rfl, hx0, hx1, hcu3, hg3⟩
      have hown3 := owns_grown hown hg3 hcw
      have hgw3 := grownBy_trans hgw hg3
      clear hcu hown hg3 hgw
      by_cases hlt : (fs.length : Int) < 8 + x
      · go_wp2_with fail
        refine (specNumText_any fs.length _ (by omega)).mono ?_
        rintro e w4 ⟨rfl, hb4⟩
        obtain ⟨nt, hnt⟩ : ∃ nt, nt = numText fs.length := ⟨_, rfl⟩
        have hns : nt.size ≤ 20 := by rw [hnt]; exact numText_short _ (by omega)
        rw [← hnt]
        clear hnt
        have hown4 := owns_below hown3 hb4 (fun g hg => owns_lt hown3 hg)
        have hgw4 : w.grownBy w4 (some c) := grown_later hgw3 (grown_of_below hb4) (fun g e => by cases e)
        have hcu4 := hcu3.below hb4 hcu3.lt
        clear hown3 hgw3 hcu3 hb4
        obtain ⟨nm, hnm⟩ : ∃ nm, nm = (⟨#[110]⟩ : ByteArray) ++ nt := ⟨_, rfl⟩
        have hnz : nm.size ≤ 64 := by rw [hnm, ByteArray.size_append]; show 1 + nt.size ≤ 64; omega
        have hbig : ¬ 9223372036854775807 < 1 + nt.size := by omega
        have h63 : fs.length + 1 ≤ maxLen := by unfold maxLen; omega
        have h47 : (fs.length + 1) * 32 ≤ 140737488355328 := by omega
        have hsw4 := hgw4.size
        have hcl4 := hcu4.lt
        have HBS : ∀ o, w.heap.size ≤ (w4.alloc o).heap.size := fun o => by simp; omega
        have HNM : Hid (nm = (⟨#[110]⟩ : ByteArray) ++ nt) := hnm
        clear hnm
        go_wp2_with (at_builtin; rw [← HNM.out]; refine wpList_append_own _ rfl _ _ 24 rfl w.heap.size 67 i0 (.agg #[.string ⟨#[]⟩, .string ⟨#[]⟩]) 2 32 Tryz.underlying24 hi hz0 hz1 hz2 rfl (by decide) _ _ _ rfl (hown4.alloc _) ⟨w4.heap.size, 0, none⟩ 1 1 [.string nm, .string ⟨#[118]⟩] rfl rfl (cell_two_new _ _ _ _) (two_text _ _) h63 h47 (HBS _) ?_)
        intro v1 w5 hown5 hgrow _
        have hgw5 : w.grownBy w5 (some c) := grown_later (grownBy_allocR hgw4 _) hgrow (fun g hg => owns_ge hown4 hg)
        have hcu5 : CurAt w5 c a len cap := (hcu4.below ((Below.refl _ _).alloc (Nat.le_refl _) _) hcl4).grown hgrow (fun e => by have := owns_ge hown4 e; omega)
        clear hgrow hown4 hcu4 hgw4 HBS
        obtain ⟨oa1, cp1, rfl⟩ := owns_slice hown5
        go_wp2
        go_roundw
        case rel => exact ⟨oa1, cp1, fs ++ [(nm, ⟨#[118]⟩)], by simp, by rw [flatF_append, flatF_one]; simpa using hown5, by simp; omega, hsh.out.snoc hnz (by decide), hcu5, hgw5⟩
        case measure => simp [lenOf]; omega
      · go_wp2
        go_ret
        exact ⟨_, fs, rfl, hown3, by omega, hsh.out, hcu3, hgw3⟩
  · have e0 : (x == 0) = false := by simpa using h0
    have e1 : (x == 1) = false := by simpa using h1
    have e2 : (x == 2) = false := by simpa using h2
    clear h0 h1 h2
    go_wp2
    go_ret
    exact ⟨_, fs, rfl, hown2, by omega, HSH.out, hcu2, hgw2⟩

end Go.Proofs.YthlmnmbhgkmbfaaGreatDoor

namespace Go.Proofs.YthlmnmbhgkmbfaaGreatDoor
open Go.RowKit
open Go.Lib hiding intOf

theorem ShortF.name {fs : List (ByteArray × ByteArray)} (h : ShortF fs) (i : Nat) (hi : i < fs.length) : (nameAt fs i).size ≤ 64 ∧ (valAt fs i).size ≤ 64 := by
  have := h (nameAt fs i, valAt fs i) (by rw [pair_at fs i hi]; exact List.getElem_mem hi)
  exact this
theorem ShortF.put {fs : List (ByteArray × ByteArray)} (h : ShortF fs) {name value : ByteArray} (h1 : name.size ≤ 64) (h2 : value.size ≤ 64) : ShortF (putF fs name value) := by
  by_cases hin : atF fs name < fs.length
  · rw [putF_eq fs name value hin]
    intro f hf
    rcases List.mem_or_eq_of_mem_set hf with hf | hf
    · exact h f hf
    · subst hf; exact ⟨h1, h2⟩
  · have hp : putF fs name value = fs ++ [(name, value)] := by unfold putF; rw [if_neg hin]
    rw [hp]; exact h.snoc h1 h2
theorem ShortF.drop {fs : List (ByteArray × ByteArray)} (h : ShortF fs) (name : ByteArray) : ShortF (dropF fs name) := by
  rw [dropF_eq]
  split
  · intro f hf; exact h f (List.mem_of_mem_eraseIdx hf)
  · exact h
theorem ShortF.copy {fs : List (ByteArray × ByteArray)} (h : ShortF fs) : CopyF fs := fun i hi => by
  have := h.name i hi
  omega
end Go.Proofs.YthlmnmbhgkmbfaaGreatDoor

namespace Go.Proofs.YthlmnmbhgkmbfaaGreatDoor
open Go.RowKit
open Go.Lib hiding intOf

theorem shortWalk {fs : List (ByteArray × ByteArray)} (h : ShortF fs) : WalkF fs.length fs := fun i hi => by
  have := h.name i hi
  unfold maxLen
  omega
theorem short_get2 {fs : List (ByteArray × ByteArray)} (h : ShortF fs) (x : ByteArray) : (getV fs x).size ≤ 64 := by
  unfold getV
  split
  · rename_i hin; exact (h.name _ hin).2
  · decide

end Go.Proofs.YthlmnmbhgkmbfaaGreatDoor

namespace Go.Proofs.YthlmnmbhgkmbfaaGreatDoor
open Go.RowKit
open Go.Lib hiding intOf

def bodyL : List ByteArray := [⟨#[]⟩, ⟨#[104, 101, 108, 108, 111]⟩, ⟨#[13, 10, 13, 10]⟩, ⟨#[97, 0, 98]⟩, ⟨#[111, 110, 101, 32, 116, 119, 111]⟩]
set_option maxHeartbeats 1000000 in
set_option maxRecDepth 100000 in
theorem l3DrawBody_any (c B : Nat) (a : Option Addr) (len cap : Nat) (zs : List Int) (w : World) (hcur : CurAt w c a len cap) (hcode : CodeAt w B a len zs) (hB : B ≤ c) :
    Calls Tryz.prog 85 #[.pointer (some ⟨c, 0, none⟩)] w fun e w' => TextDrawn 14 w c a len cap e w' := by
  go_enter Tryz.func85, Tryz.ntmps85
  go_wp2_with fail
  refine (l1Once_any c B 2 a len cap zs _ hcur hcode hB (by omega) (by omega)).mono ?_
  rintro e w1 ⟨⟨b, rfl⟩, hcu1, hg1⟩
  have hco1 := hcode.grown hg1 hB
  clear hcur hcode
  cases b
  · go_wp2_with fail
    refine (l1DrawText_any c B a len cap zs _ hcu1 hco1 hB).mono ?_
    rintro e w2 ⟨t, rfl, ht, hcu2, hg2⟩
    have hg3 := grownBy_trans hg1 hg2
    clear hg1 hg2 hcu1 hco1
    go_wp2
    go_ret
    exact ⟨t, rfl, ht, hcu2, hg3⟩
  · go_wp2_with fail
    refine (pick_new c B bodyL 14 (by decide) a len cap zs w1 hcu1 hco1 hB (by decide) (by decide)).mono ?_
    rintro e w2 ⟨t, rfl, ht, hcu2, hg2⟩
    have hg3 := grownBy_trans hg1 hg2
    clear hg1 hg2 hcu1 hco1
    go_wp2
    go_ret
    exact ⟨t, rfl, ht, hcu2, hg3⟩

theorem ints_at (w : World) (xs : List Int) (j : Nat) (hj : j < xs.length) : (w.alloc (.cells (xs.map (Value.int .i64)).toArray 3)).cell? ⟨w.heap.size, j, none⟩ = some (.int .i64 (xs.getD j 0)) := by
  rw [World.cell?_alloc_new]
  simp [List.getD_eq_getElem?_getD, hj]
set_option maxHeartbeats 1000000 in
theorem pickInt_new (c B : Nat) (xs : List Int) (lo hi : Int) (hm : ∀ j, j < xs.length → lo ≤ xs.getD j 0 ∧ xs.getD j 0 ≤ hi) (a : Option Addr) (len cap : Nat) (zs : List Int) (w : World) (hcur : CurAt w c a len cap) (hcode : CodeAt w B a len zs) (hB : B ≤ c) (hn : 1 ≤ xs.length) (hn2 : xs.length ≤ 256) :
    Calls Tryz.prog 59 #[.pointer (some ⟨c, 0, none⟩), .slice (some ⟨w.heap.size, 0, none⟩) xs.length xs.length] (w.alloc (.cells (xs.map (Value.int .i64)).toArray 3)) fun e w' => ∃ n : Int, e = .returned (.int .i64 n) ∧ lo ≤ n ∧ n ≤ hi ∧ CurAt w' c a len cap ∧ w.grownBy w' (some c) := by
  have hc := hcur.lt
  have HL : Hid (∀ j, j < xs.length → (w.alloc (.cells (xs.map (Value.int .i64)).toArray 3)).cell? ⟨w.heap.size, j, none⟩ = some (.int .i64 (xs.getD j 0))) := ints_at w xs
  have HM : Hid (∀ j, j < xs.length → lo ≤ xs.getD j 0 ∧ xs.getD j 0 ≤ hi) := hm
  have hcu0 := hcur.below ((Below.refl _ w).alloc (Nat.le_refl _) (.cells (xs.map (Value.int .i64)).toArray 3)) hc
  have hg0 : w.grownBy (w.alloc (.cells (xs.map (Value.int .i64)).toArray 3)) (some c) := World.grownBy_alloc w _ _
  have hco0 := hcode.grown hg0 hB
  clear hm hcur hcode
  obtain ⟨w0, hw0⟩ : ∃ W, W = w.alloc (.cells (xs.map (Value.int .i64)).toArray 3) := ⟨_, rfl⟩
  rw [← hw0] at HL hcu0 hg0 hco0 ⊢
  obtain ⟨n, hnn⟩ : ∃ n, n = xs.length := ⟨_, rfl⟩
  rw [← hnn] at HL HM hn hn2 ⊢
  obtain ⟨g, hg⟩ : ∃ g, g = w.heap.size := ⟨_, rfl⟩
  have hgc : g ≠ c := by omega
  rw [← hg] at HL ⊢
  clear hw0 hnn hg
  go_enter Tryz.func59, Tryz.ntmps59
  go_wp2_with fail
  refine (l1Below_any c B n a len cap zs _ hcu0 hco0 hB (by omega) (by omega)).mono ?_
  rintro e w1 ⟨x, rfl, hx0, hx1, hcur1, hg1⟩
  obtain ⟨j, rfl⟩ := Int.eq_ofNat_of_zero_le hx0
  have hj : j < n := by omega
  have hcell : w1.cell? ⟨g, j, none⟩ = some (.int .i64 (xs.getD j 0)) := grown_cell hg1 (HL.out j hj) hgc
  have hjr := HM.out j hj
  have hg2 := grownBy_trans hg0 hg1
  clear hg0 hg1 hcu0 hco0
  go_wp2
  go_ret
  exact ⟨_, rfl, hjr.1, hjr.2, hcur1, hg2⟩

/-- A call on the cursor answers a request of short texts, in memory of its own, and turns the cursor alone of what was there. -/
def ReqDrawn (bmax : Nat) (w : World) (c : Nat) (a : Option Addr) (len cap : Nat) (e : Ending) (w' : World) : Prop :=
  ∃ (m : Int) (p : ByteArray) (v : Value) (fs : List (ByteArray × ByteArray)) (b : ByteArray), e = .returned (.agg #[.int .i64 m, .string p, v, .string b]) ∧ (-1000 ≤ m ∧ m ≤ 1000) ∧ p.size ≤ 64 ∧ w'.ownsRow w.heap.size 67 2 v fs.length (flatF fs) ∧ fs.length ≤ 40 ∧ ShortF fs ∧ b.size ≤ bmax ∧ CurAt w' c a len cap ∧ w.grownBy w' (some c)

theorem kind_list : (⟨#[107, 105, 110, 100]⟩ : ByteArray).toList = [107, 105, 110, 100] := by rw [ByteArray.toList_eq]
theorem cacheC_list : (⟨#[99, 97, 99, 104, 101, 45, 99, 111, 110, 116, 114, 111, 108]⟩ : ByteArray).toList = [99, 97, 99, 104, 101, 45, 99, 111, 110, 116, 114, 111, 108] := by rw [ByteArray.toList_eq]
theorem ifNone_list : (⟨#[105, 102, 45, 110, 111, 110, 101, 45, 109, 97, 116, 99, 104]⟩ : ByteArray).toList = [105, 102, 45, 110, 111, 110, 101, 45, 109, 97, 116, 99, 104] := by rw [ByteArray.toList_eq]
/-- A request that is being drawn: its memory, its fields, the cursor. -/
structure DReq (w : World) (c R r : Nat) (m : Int) (p : ByteArray) (fv : Value) (fs : List (ByteArray × ByteArray)) (b : ByteArray) (a : Option Addr) (len cap : Nat) (W : World) : Prop where
  hR : W.heap[R]? = some (.cells #[.int .i64 0, .string ⟨#[]⟩, .slice none 0 0, .string ⟨#[]⟩] 26)
  hr : W.heap[r]? = some (.cells #[.int .i64 m, .string p, fv, .string b] 26)
  own : W.ownsRow w.heap.size 67 2 fv fs.length (flatF fs)
  cur : CurAt W c a len cap
  grow : w.grownBy W (some c)
  apart : ∀ j, fv.ownBlock = some j → j ≠ R ∧ j ≠ r
theorem DReq.later {w : World} {c R r : Nat} {m : Int} {p : ByteArray} {fv : Value} {fs : List (ByteArray × ByteArray)} {b : ByteArray} {a : Option Addr} {len cap : Nat} {W W' : World} (h : DReq w c R r m p fv fs b a len cap W) (hcw : c < w.heap.size) (hRw : w.heap.size ≤ R) (hrw : w.heap.size ≤ r) (hcu : CurAt W' c a len cap) (hg : W.grownBy W' (some c)) : DReq w c R r m p fv fs b a len cap W' := by
  refine ⟨?_, ?_, ?_, hcu, grownBy_trans h.grow hg, h.apart⟩
  · rw [hg.block R ((Array.getElem?_eq_some_iff.1 h.hR).1) (fun e => by have := Option.some.inj e; omega)]; exact h.hR
  · rw [hg.block r ((Array.getElem?_eq_some_iff.1 h.hr).1) (fun e => by have := Option.some.inj e; omega)]; exact h.hr
  · exact h.own.kept hg (by cases h2 : fv.ownBlock <;> simp; exact fun e => by have h7 := owns_ge h.own h2; omega)

theorem owns_heap {w : World} {base : Nat} {t : TypeId} {size : Nat} {v : Value} {n : Nat} {xs : List Value} {j : Nat} (h : w.ownsRow base t size v n xs) (hj : v.ownBlock = some j) : ∃ cur, w.heap[j]? = some (.cells cur t (0, 0)) := by
  rcases h.2 with ⟨rfl, rfl⟩ | ⟨g, cap, cur, rfl, _, h1, _⟩
  · cases hj
  · cases hj; exact ⟨cur, h1⟩
/-- One field more. -/
theorem DReq.more {w : World} {c R r : Nat} {m : Int} {p : ByteArray} {fv : Value} {fs : List (ByteArray × ByteArray)} {b f v : ByteArray} {a : Option Addr} {len cap : Nat} {W W5 : World} {o : Obj} {v1 : Value} (h : DReq w c R r m p fv fs b a len cap W) (hcw : c < w.heap.size) (hRw : w.heap.size ≤ R) (hrw : w.heap.size ≤ r) (hrR : R ≠ r) (hg : (W.alloc o).grownBy W5 fv.ownBlock) (hown : W5.ownsRow w.heap.size 67 2 v1 (fs.length + 1) (flatF fs ++ [.string f, .string v])) :
    (W5.heap[r]? = some (.cells #[.int .i64 m, .string p, fv, .string b] 26)) ∧ DReq w c R r m p v1 (fs ++ [(f, v)]) b a len cap (W5.setCell ⟨r, 2, none⟩ v1) := by
  have hs : (W.alloc o).heap.size = W.heap.size + 1 := by simp
  have hRl := (Array.getElem?_eq_some_iff.1 h.hR).1
  have hrl := (Array.getElem?_eq_some_iff.1 h.hr).1
  have hcl := h.cur.lt
  have hR5 : W5.heap[R]? = some (.cells #[.int .i64 0, .string ⟨#[]⟩, .slice none 0 0, .string ⟨#[]⟩] 26) := by
    rw [hg.block R (by omega) (fun e => (h.apart R e.symm).1 rfl), heap_alloc_old _ _ hRl]; exact h.hR
  have hr5 : W5.heap[r]? = some (.cells #[.int .i64 m, .string p, fv, .string b] 26) := by
    rw [hg.block r (by omega) (fun e => (h.apart r e.symm).2 rfl), heap_alloc_old _ _ hrl]; exact h.hr
  have hap : ∀ j, v1.ownBlock = some j → j ≠ R ∧ j ≠ r := fun j hj => by
    obtain ⟨cur, hcj⟩ := owns_heap hown hj
    refine ⟨fun e => ?_, fun e => ?_⟩
    · rw [e, hR5] at hcj
      simp at hcj
    · rw [e, hr5] at hcj
      simp at hcj
  have hg5 : w.grownBy W5 (some c) := by
    have h1 := grownBy_trans h.grow (World.grownBy_alloc W o (some c))
    refine ⟨hg.os.trans h1.os, hg.tape.trans h1.tape, hg.output.trans h1.output, Nat.le_trans h1.size hg.size, fun i hi hne => ?_⟩
    rw [hg.block i (by have := h1.size; omega) (fun e => by have := owns_ge h.own e.symm; omega)]
    exact h1.block i hi hne
  refine ⟨hr5, ?_, ?_, ?_, ?_, grown_later hg5 (grown_set W5 r 2 v1) (fun g e => by cases e; exact hrw), hap⟩
  · rw [heap_setCell_other _ _ R _ (fun e => hrR e)]; exact hR5
  · have := heap_set W5 r 2 _ _ _ v1 hr5
    simpa using this
  · have h2 : (W5.setCell ⟨r, 2, none⟩ v1).ownsRow w.heap.size 67 2 v1 (fs.length + 1) (flatF fs ++ [.string f, .string v]) := hown.kept (grown_set W5 r 2 v1) (by cases h3 : v1.ownBlock <;> simp; exact (hap _ h3).2)
    rw [flatF_append, flatF_one]; simpa using h2
  · obtain ⟨i, hh, hi, h4⟩ := h.cur
    refine ⟨i, hh, hi, ?_⟩
    rw [heap_setCell_other _ _ c _ (fun e => by have e2 : c = r := e; omega), hg.block c (by omega) (fun e => by have := owns_ge h.own e.symm; omega), heap_alloc_old _ _ hcl]
    exact h4

/-- The body set. -/
theorem DReq.setBody {w : World} {c R r : Nat} {m : Int} {p : ByteArray} {fv : Value} {fs : List (ByteArray × ByteArray)} {b : ByteArray} {a : Option Addr} {len cap : Nat} {W : World} (h : DReq w c R r m p fv fs b a len cap W) (hcw : c < w.heap.size) (hrw : w.heap.size ≤ r) (hrR : R ≠ r) (b' : ByteArray) : DReq w c R r m p fv fs b' a len cap (W.setCell ⟨r, 3, none⟩ (.string b')) := by
  refine ⟨?_, ?_, ?_, ?_, grown_later h.grow (grown_set W r 3 _) (fun g e => by cases e; exact hrw), h.apart⟩
  · rw [heap_setCell_other _ _ R _ (fun e => hrR e)]; exact h.hR
  · have := heap_set W r 3 _ _ _ (.string b') h.hr
    simpa using this
  · exact h.own.kept (grown_set W r 3 _) (by cases h3 : fv.ownBlock <;> simp; exact (h.apart _ h3).2)
  · obtain ⟨i, hh, hi, h4⟩ := h.cur
    refine ⟨i, hh, hi, ?_⟩
    rw [heap_setCell_other _ _ c _ (fun e => by have e2 : c = r := e; omega)]
    exact h4
/-- The request handed back. -/
theorem DReq.fin {w : World} {c R r : Nat} {m : Int} {p : ByteArray} {fv : Value} {fs : List (ByteArray × ByteArray)} {b : ByteArray} {a : Option Addr} {len cap : Nat} {W : World} (h : DReq w c R r m p fv fs b a len cap W) (hcw : c < w.heap.size) (hRw : w.heap.size ≤ R) (hm : -1000 ≤ m ∧ m ≤ 1000) (hp : p.size ≤ 64) (hf : fs.length ≤ 40) (hsh : ShortF fs) {bmax : Nat} (hb : b.size ≤ bmax) :
    (fourSet W R (.int .i64 m) (.string p) fv (.string b)).heap[R]? = some (.cells #[.int .i64 m, .string p, fv, .string b] 26) ∧ ReqDrawn bmax w c a len cap (.returned (.agg #[.int .i64 m, .string p, fv, .string b])) (fourSet W R (.int .i64 m) (.string p) fv (.string b)) := by
  have hg : W.grownBy (fourSet W R (.int .i64 m) (.string p) fv (.string b)) (some R) := by
    unfold fourSet
    exact grown_then (grown_then (grown_then (grown_set _ _ _ _) (grown_set _ _ _ _)) (grown_set _ _ _ _)) (grown_set _ _ _ _)
  refine ⟨four_set h.hR _ _ _ _, m, p, fv, fs, b, rfl, hm, hp, ?_, hf, hsh, hb, ?_, grown_later h.grow hg (fun g e => by cases e; exact hRw)⟩
  · exact h.own.kept hg (by cases h3 : fv.ownBlock <;> simp; exact (h.apart _ h3).1)
  · obtain ⟨i, hh, hi, h4⟩ := h.cur
    refine ⟨i, hh, hi, ?_⟩
    rw [hg.block c (Array.getElem?_eq_some_iff.1 h4).1 (fun e => by have := Option.some.inj e; omega)]
    exact h4

set_option maxHeartbeats 1000000 in
set_option maxRecDepth 100000 in
theorem l3DrawReq_any (c B : Nat) (a : Option Addr) (len cap : Nat) (zs : List Int) (w : World) (hcur : CurAt w c a len cap) (hcode : CodeAt w B a len zs) (hB : B ≤ c) :
    Calls Tryz.prog 68 #[.pointer (some ⟨c, 0, none⟩)] w fun e w' => ReqDrawn 14 w c a len cap e w' := by
  obtain ⟨i0, hi, hz0, hz1, hz2⟩ := info_parts info33
  have hcw := hcur.lt
  have HCO : Hid (∀ W, w.grownBy W (some c) → CodeAt W B a len zs) := fun W h => hcode.grown h hB
  obtain ⟨R, hR⟩ : ∃ R, R = w.heap.size := ⟨_, rfl⟩
  have hg0 : w.grownBy (w.alloc (.cells #[.int .i64 0, .string ⟨#[]⟩, .slice none 0 0, .string ⟨#[]⟩] 26)) (some c) := World.grownBy_alloc w _ _
  have hcu0 := hcur.below ((Below.refl _ w).alloc (Nat.le_refl _) (.cells #[.int .i64 0, .string ⟨#[]⟩, .slice none 0 0, .string ⟨#[]⟩] 26)) hcw
  have hco0 := HCO.out _ hg0
  have hz0' : (w.alloc (.cells #[.int .i64 0, .string ⟨#[]⟩, .slice none 0 0, .string ⟨#[]⟩] 26)).heap[R]? = some (.cells #[.int .i64 0, .string ⟨#[]⟩, .slice none 0 0, .string ⟨#[]⟩] 26) := by rw [hR]; exact heap_alloc_new w _
  have hRlt : R < (w.alloc (.cells #[.int .i64 0, .string ⟨#[]⟩, .slice none 0 0, .string ⟨#[]⟩] 26)).heap.size := by rw [hR]; simp
  have hRc : R ≠ c := by omega
  have hRw : w.heap.size ≤ R := by omega
  have HRE : Hid (R = w.heap.size) := hR
  obtain ⟨w0, hw0⟩ : ∃ W, W = w.alloc (.cells #[.int .i64 0, .string ⟨#[]⟩, .slice none 0 0, .string ⟨#[]⟩] 26) := ⟨_, rfl⟩
  have HS0 : Hid (w0.heap.size = w.heap.size + 1) := by show _ = _; rw [hw0]; simp
  have HW0 : Hid (w0 = w.alloc (.cells #[.int .i64 0, .string ⟨#[]⟩, .slice none 0 0, .string ⟨#[]⟩] 26)) := hw0
  rw [← hw0] at hg0 hcu0 hco0 hz0' hRlt
  clear hcur hcode hR hw0
  go_enter Tryz.func68, Tryz.ntmps68
  go_wp2_with fail
  rw [← HW0.out, ← HS0.out]
  refine (pickInt_new c B [1, 1, 1, 1, 2, 3, 4] 1 4 (by decide) a len cap zs w0 hcu0 hco0 hB (by decide) (by decide)).mono ?_
  rintro e w1 ⟨m, rfl, hm1, hm2, hcu1, hg1⟩
  have hga1 := grownBy_trans hg0 hg1
  have hz1' : w1.heap[R]? = some (.cells #[.int .i64 0, .string ⟨#[]⟩, .slice none 0 0, .string ⟨#[]⟩] 26) := by rw [hg1.block R hRlt (fun e => hRc (Option.some.inj e))]; exact hz0'
  have hR1 : R < w1.heap.size := (Array.getElem?_eq_some_iff.1 hz1').1
  clear hg0 hg1 hcu0 hco0 hz0' hRlt
  go_wp2_with fail
  refine (pick_new c B [⟨#[47]⟩, ⟨#[47, 97]⟩, ⟨#[47, 97, 47, 98]⟩, ⟨#[47, 98]⟩] 64 (by decide) a len cap zs w1 hcu1 (HCO.out _ hga1) hB (by decide) (by decide)).mono ?_
  rintro e w2 ⟨p, rfl, hp, hcu2, hg2⟩
  have hga2 := grownBy_trans hga1 hg2
  have hz2' : w2.heap[R]? = some (.cells #[.int .i64 0, .string ⟨#[]⟩, .slice none 0 0, .string ⟨#[]⟩] 26) := by rw [hg2.block R hR1 (fun e => hRc (Option.some.inj e))]; exact hz1'
  have hR2 : R < w2.heap.size := (Array.getElem?_eq_some_iff.1 hz2').1
  rw [← HRE.out]
  clear hg2 hga1 hcu1 hz1' hR1
  obtain ⟨r, hr⟩ : ∃ r, r = w2.heap.size := ⟨_, rfl⟩
  have hrw : w.heap.size ≤ r := by rw [hr]; exact hga2.size
  have hrR : R ≠ r := by omega
  have HD0 : Hid (DReq w c R r m p (.slice none 0 0) [] ⟨#[]⟩ a len cap (w2.alloc (.cells #[.int .i64 m, .string p, .slice none 0 0, .string ⟨#[]⟩] 26))) := by
    have hgal : w2.grownBy (w2.alloc (.cells #[.int .i64 m, .string p, .slice none 0 0, .string ⟨#[]⟩] 26)) (some c) := World.grownBy_alloc w2 _ _
    refine ⟨?_, by rw [hr]; exact heap_alloc_new w2 _, ⟨rfl, .inl ⟨rfl, rfl⟩⟩, hcu2.below ((Below.refl _ w2).alloc (Nat.le_refl _) _) hcu2.lt, grownBy_trans hga2 hgal, fun j h => by cases h⟩
    rw [hgal.block R hR2 (fun e => hRc (Option.some.inj e))]; exact hz2'
  have HR' : Hid (r = w2.heap.size) := hr
  clear hr hz2' hR2 hcu2 hga2
  go_wp2_with fail
  rw [← HR'.out]
  go_loopw [4] (fun i wr => ∃ (k : Nat) (fs : List (ByteArray × ByteArray)) (fv : Value), k ≤ 4 ∧ fs.length ≤ k ∧ i = .int .i64 (k : Int) ∧ Hid (ShortF fs) ∧ Hid (DReq w c R r m p fv fs ⟨#[]⟩ a len cap wr)) (fun i _ => 4 - (intOf i).toNat)
  case atStart => exact ⟨0, [], _, by omega, Nat.le_refl _, rfl, (fun f hf => by cases hf), HD0⟩
  case round =>
    obtain ⟨k, fs, fv, hk, hfl, rfl, hsh, hd⟩ := hrel
    obtain ⟨fo, fc, rfl⟩ := slice_of_owns hd.out.own
    go_wp2_with fail
    refine (l1Below_any c B 4 a len cap zs _ hd.out.cur (HCO.out _ hd.out.grow) hB (by omega) (by omega)).mono ?_
    rintro e wa ⟨x, rfl, hx0, hx1, hcua, hgaa⟩
    have hda : Hid (DReq w c R r m p (.slice fo fs.length fc) fs ⟨#[]⟩ a len cap wa) := hd.out.later hcw hRw hrw hcua hgaa
    clear hcua hgaa hd
    by_cases hkx : (k : Int) < x
    · go_wp2_with fail
      refine (pick_new c B [⟨#[108, 97, 110, 103]⟩, ⟨#[107, 105, 110, 100]⟩, ⟨#[99, 97, 99, 104, 101, 45, 99, 111, 110, 116, 114, 111, 108]⟩, ⟨#[105, 102, 45, 110, 111, 110, 101, 45, 109, 97, 116, 99, 104]⟩, ⟨#[120, 45, 97]⟩] 64 (by decide) a len cap zs wa hda.out.cur (HCO.out _ hda.out.grow) hB (by decide) (by decide)).mono ?_
      rintro e wb ⟨f, rfl, hf, hcub, hgb⟩
      have hdb : Hid (DReq w c R r m p (.slice fo fs.length fc) fs ⟨#[]⟩ a len cap wb) := hda.out.later hcw hRw hrw hcub hgb
      obtain ⟨⟨c0, c1, c2, c3⟩, f0, f1, f2, f3⟩ := four_facts hdb.out.hr
      clear hcub hgb hda
      go_wp2_with fail
      refine (l2At_any _ fs.length _ fs f _ (FieldsV.of_owns hdb.out.own) (by omega)).mono ?_
      rintro e wc ⟨rfl, rfl⟩
      by_cases hat : atI fs f < 0
      · skip
        go_wp2_with fail
        refine (pick_new c B [⟨#[100, 101]⟩, ⟨#[101, 110]⟩] 64 (by decide) a len cap zs wc hdb.out.cur (HCO.out _ hdb.out.grow) hB (by decide) (by decide)).mono ?_
        rintro e wd ⟨v, rfl, hv, hcud, hgd⟩
        have hdd : Hid (DReq w c R r m p (.slice fo fs.length fc) fs ⟨#[]⟩ a len cap wd) := hdb.out.later hcw hRw hrw hcud hgd
        clear hcud hgd
        clear c0 c1 c2 c3 f0 f1 f2 f3
        by_cases e1 : f = ⟨#[107, 105, 110, 100]⟩
        · have ht := (text_beq _ _).2 e1
          rw [kind_list] at ht
          clear e1
          go_wp2_with fail
          refine (pick_new c B [⟨#[120]⟩, ⟨#[121]⟩] 64 (by decide) a len cap zs wd hdd.out.cur (HCO.out _ hdd.out.grow) hB (by decide) (by decide)).mono ?_
          rintro e we ⟨v2, rfl, hv2, hcue, hge⟩
          have hde : Hid (DReq w c R r m p (.slice fo fs.length fc) fs ⟨#[]⟩ a len cap we) := hdd.out.later hcw hRw hrw hcue hge
          clear hcue hge
          have h63 : fs.length + 1 ≤ maxLen := by unfold maxLen; omega
          have h47 : (fs.length + 1) * 32 ≤ 140737488355328 := by omega
          have HBS : ∀ o, w.heap.size ≤ (we.alloc o).heap.size := fun o => by have := hde.out.grow.size; simp; omega
          obtain ⟨⟨c0, c1, c2, c3⟩, f0, f1, f2, f3⟩ := four_facts hde.out.hr
          go_wp2_with (at_builtin; refine wpList_append_own _ rfl _ _ 24 rfl w.heap.size 67 i0 (.agg #[.string ⟨#[]⟩, .string ⟨#[]⟩]) 2 32 Tryz.underlying24 hi hz0 hz1 hz2 rfl (by decide) _ _ _ rfl (hde.out.own.alloc _) ⟨we.heap.size, 0, none⟩ 1 1 [.string f, .string v2] rfl rfl (cell_two_new _ _ _ _) (two_text _ _) h63 h47 (HBS _) ?_)
          intro v1 w5 hown5 hgrow _
          obtain ⟨fo1, fc1, rfl⟩ := slice_of_owns hown5
          obtain ⟨hr5, hd5⟩ := hde.out.more hcw hRw hrw hrR hgrow hown5
          have HD5 : Hid (DReq w c R r m p (.slice fo1 (fs.length + 1) fc1) (fs ++ [(f, v2)]) ⟨#[]⟩ a len cap (w5.setCell ⟨r, 2, none⟩ (.slice fo1 (fs.length + 1) fc1))) := hd5
          have HSH : Hid (ShortF (fs ++ [(f, v2)])) := hsh.out.snoc hf hv2
          clear c0 c1 c2 c3 f0 f1 f2 f3
          obtain ⟨⟨c0, c1, c2, c3⟩, f0, f1, f2, f3⟩ := four_facts hr5
          clear hr5 hd5 hgrow hown5 HBS
          go_wp2
          go_roundw
          case rel => exact ⟨k + 1, _, _, by omega, by simp; omega, by go_num, HSH, HD5⟩
          case measure => simp [intOf]; omega
        · have ht := text_beq_no e1
          rw [kind_list] at ht
          by_cases e2 : f = ⟨#[99, 97, 99, 104, 101, 45, 99, 111, 110, 116, 114, 111, 108]⟩
          · have ht2 := (text_beq _ _).2 e2
            rw [cacheC_list] at ht2
            clear e1 e2
            go_wp2_with fail
            refine (pick_new c B [⟨#[110, 111, 45, 99, 97, 99, 104, 101]⟩, ⟨#[110, 111, 45, 115, 116, 111, 114, 101]⟩, ⟨#[109, 97, 120, 45, 97, 103, 101, 61, 51]⟩] 64 (by decide) a len cap zs wd hdd.out.cur (HCO.out _ hdd.out.grow) hB (by decide) (by decide)).mono ?_
            rintro e we ⟨v2, rfl, hv2, hcue, hge⟩
            have hde : Hid (DReq w c R r m p (.slice fo fs.length fc) fs ⟨#[]⟩ a len cap we) := hdd.out.later hcw hRw hrw hcue hge
            clear hcue hge
            have h63 : fs.length + 1 ≤ maxLen := by unfold maxLen; omega
            have h47 : (fs.length + 1) * 32 ≤ 140737488355328 := by omega
            have HBS : ∀ o, w.heap.size ≤ (we.alloc o).heap.size := fun o => by have := hde.out.grow.size; simp; omega
            obtain ⟨⟨c0, c1, c2, c3⟩, f0, f1, f2, f3⟩ := four_facts hde.out.hr
            go_wp2_with (at_builtin; refine wpList_append_own _ rfl _ _ 24 rfl w.heap.size 67 i0 (.agg #[.string ⟨#[]⟩, .string ⟨#[]⟩]) 2 32 Tryz.underlying24 hi hz0 hz1 hz2 rfl (by decide) _ _ _ rfl (hde.out.own.alloc _) ⟨we.heap.size, 0, none⟩ 1 1 [.string f, .string v2] rfl rfl (cell_two_new _ _ _ _) (two_text _ _) h63 h47 (HBS _) ?_)
            intro v1 w5 hown5 hgrow _
            obtain ⟨fo1, fc1, rfl⟩ := slice_of_owns hown5
            obtain ⟨hr5, hd5⟩ := hde.out.more hcw hRw hrw hrR hgrow hown5
            have HD5 : Hid (DReq w c R r m p (.slice fo1 (fs.length + 1) fc1) (fs ++ [(f, v2)]) ⟨#[]⟩ a len cap (w5.setCell ⟨r, 2, none⟩ (.slice fo1 (fs.length + 1) fc1))) := hd5
            have HSH : Hid (ShortF (fs ++ [(f, v2)])) := hsh.out.snoc hf hv2
            clear c0 c1 c2 c3 f0 f1 f2 f3
            obtain ⟨⟨c0, c1, c2, c3⟩, f0, f1, f2, f3⟩ := four_facts hr5
            clear hr5 hd5 hgrow hown5 HBS
            go_wp2
            go_roundw
            case rel => exact ⟨k + 1, _, _, by omega, by simp; omega, by go_num, HSH, HD5⟩
            case measure => simp [intOf]; omega
          · have ht2 := text_beq_no e2
            rw [cacheC_list] at ht2
            by_cases e3 : f = ⟨#[105, 102, 45, 110, 111, 110, 101, 45, 109, 97, 116, 99, 104]⟩
            · have ht3 := (text_beq _ _).2 e3
              rw [ifNone_list] at ht3
              clear e1 e2 e3
              go_wp2_with fail
              refine (pick_new c B [⟨#[97]⟩, ⟨#[98]⟩] 64 (by decide) a len cap zs wd hdd.out.cur (HCO.out _ hdd.out.grow) hB (by decide) (by decide)).mono ?_
              rintro e we ⟨v2, rfl, hv2, hcue, hge⟩
              have hde : Hid (DReq w c R r m p (.slice fo fs.length fc) fs ⟨#[]⟩ a len cap we) := hdd.out.later hcw hRw hrw hcue hge
              clear hcue hge
              have h63 : fs.length + 1 ≤ maxLen := by unfold maxLen; omega
              have h47 : (fs.length + 1) * 32 ≤ 140737488355328 := by omega
              have HBS : ∀ o, w.heap.size ≤ (we.alloc o).heap.size := fun o => by have := hde.out.grow.size; simp; omega
              obtain ⟨⟨c0, c1, c2, c3⟩, f0, f1, f2, f3⟩ := four_facts hde.out.hr
              go_wp2_with (at_builtin; refine wpList_append_own _ rfl _ _ 24 rfl w.heap.size 67 i0 (.agg #[.string ⟨#[]⟩, .string ⟨#[]⟩]) 2 32 Tryz.underlying24 hi hz0 hz1 hz2 rfl (by decide) _ _ _ rfl (hde.out.own.alloc _) ⟨we.heap.size, 0, none⟩ 1 1 [.string f, .string v2] rfl rfl (cell_two_new _ _ _ _) (two_text _ _) h63 h47 (HBS _) ?_)
              intro v1 w5 hown5 hgrow _
              obtain ⟨fo1, fc1, rfl⟩ := slice_of_owns hown5
              obtain ⟨hr5, hd5⟩ := hde.out.more hcw hRw hrw hrR hgrow hown5
              have HD5 : Hid (DReq w c R r m p (.slice fo1 (fs.length + 1) fc1) (fs ++ [(f, v2)]) ⟨#[]⟩ a len cap (w5.setCell ⟨r, 2, none⟩ (.slice fo1 (fs.length + 1) fc1))) := hd5
              have HSH : Hid (ShortF (fs ++ [(f, v2)])) := hsh.out.snoc hf hv2
              clear c0 c1 c2 c3 f0 f1 f2 f3
              obtain ⟨⟨c0, c1, c2, c3⟩, f0, f1, f2, f3⟩ := four_facts hr5
              clear hr5 hd5 hgrow hown5 HBS
              go_wp2
              go_roundw
              case rel => exact ⟨k + 1, _, _, by omega, by simp; omega, by go_num, HSH, HD5⟩
              case measure => simp [intOf]; omega
            · have ht3 := text_beq_no e3
              rw [ifNone_list] at ht3
              clear e1 e2 e3
              have h63 : fs.length + 1 ≤ maxLen := by unfold maxLen; omega
              have h47 : (fs.length + 1) * 32 ≤ 140737488355328 := by omega
              have HBS : ∀ o, w.heap.size ≤ (wd.alloc o).heap.size := fun o => by have := hdd.out.grow.size; simp; omega
              obtain ⟨⟨c0, c1, c2, c3⟩, f0, f1, f2, f3⟩ := four_facts hdd.out.hr
              go_wp2_with (at_builtin; refine wpList_append_own _ rfl _ _ 24 rfl w.heap.size 67 i0 (.agg #[.string ⟨#[]⟩, .string ⟨#[]⟩]) 2 32 Tryz.underlying24 hi hz0 hz1 hz2 rfl (by decide) _ _ _ rfl (hdd.out.own.alloc _) ⟨wd.heap.size, 0, none⟩ 1 1 [.string f, .string v] rfl rfl (cell_two_new _ _ _ _) (two_text _ _) h63 h47 (HBS _) ?_)
              intro v1 w5 hown5 hgrow _
              obtain ⟨fo1, fc1, rfl⟩ := slice_of_owns hown5
              obtain ⟨hr5, hd5⟩ := hdd.out.more hcw hRw hrw hrR hgrow hown5
              have HD5 : Hid (DReq w c R r m p (.slice fo1 (fs.length + 1) fc1) (fs ++ [(f, v)]) ⟨#[]⟩ a len cap (w5.setCell ⟨r, 2, none⟩ (.slice fo1 (fs.length + 1) fc1))) := hd5
              have HSH : Hid (ShortF (fs ++ [(f, v)])) := hsh.out.snoc hf hv
              clear c0 c1 c2 c3 f0 f1 f2 f3
              obtain ⟨⟨c0, c1, c2, c3⟩, f0, f1, f2, f3⟩ := four_facts hr5
              clear hr5 hd5 hgrow hown5 HBS
              go_wp2
              go_roundw
              case rel => exact ⟨k + 1, _, _, by omega, by simp; omega, by go_num, HSH, HD5⟩
              case measure => simp [intOf]; omega
      · go_wp2
        go_roundw
        case rel => exact ⟨k + 1, fs, _, by omega, by omega, by go_num, hsh, hdb⟩
        case measure => simp [intOf]; omega
    · skip
      obtain ⟨⟨c0, c1, c2, c3⟩, f0, f1, f2, f3⟩ := four_facts hda.out.hr
      obtain ⟨⟨d0, d1, d2, d3⟩, g0, g1, g2, g3⟩ := four_facts hda.out.hR
      by_cases hm3 : m = 3
      · have hme : (m == 3) = true := by rw [beq_iff_eq]; exact hm3
        clear hm3
        go_wp2_with fail
        refine (l3DrawBody_any c B a len cap zs _ hda.out.cur (HCO.out _ hda.out.grow) hB).mono ?_
        rintro e wb ⟨b, rfl, hb, hcub, hgb⟩
        have hdb : Hid (DReq w c R r m p (.slice fo fs.length fc) fs ⟨#[]⟩ a len cap wb) := hda.out.later hcw hRw hrw hcub hgb
        clear c0 c1 c2 c3 f0 f1 f2 f3 d0 d1 d2 d3 g0 g1 g2 g3 hcub hgb hda
        obtain ⟨⟨c0, c1, c2, c3⟩, f0, f1, f2, f3⟩ := four_facts hdb.out.hr
        have hdc : Hid (DReq w c R r m p (.slice fo fs.length fc) fs b a len cap (wb.setCell ⟨r, 3, none⟩ (.string b))) := hdb.out.setBody hcw hrw hrR b
        obtain ⟨⟨i0', i1, i2, i3⟩, j0, j1, j2, j3⟩ := four_facts hdc.out.hr
        obtain ⟨⟨d0, d1, d2, d3⟩, g0, g1, g2, g3⟩ := four_facts hdc.out.hR
        obtain ⟨hh, hfin⟩ := hdc.out.fin (bmax := 14) hcw hRw ⟨by omega, by omega⟩ hp (by omega) hsh.out hb
        obtain ⟨⟨k0, k1, k2, k3⟩, _⟩ := four_facts hh
        have HFIN : Hid _ := hfin
        unfold fourSet at k0 k1 k2 k3
        clear hh hfin
        go_wp2_with fail
        exact bodyPost_ret (v := .agg #[.int .i64 m, .string p, .slice fo fs.length fc, .string b]) (by simp [results, Tryz.results68, go_sem, k0, k1, k2, k3]) rfl HFIN.out
      · have hme : (m == 3) = false := by rw [beq_eq_false_iff_ne]; exact hm3
        obtain ⟨hh, hfin⟩ := hda.out.fin (bmax := 14) hcw hRw ⟨by omega, by omega⟩ hp (by omega) hsh.out (by decide)
        obtain ⟨⟨k0, k1, k2, k3⟩, _⟩ := four_facts hh
        have HFIN : Hid _ := hfin
        unfold fourSet at k0 k1 k2 k3
        clear hh hfin
        go_wp2_with fail
        exact bodyPost_ret (v := .agg #[.int .i64 m, .string p, .slice fo fs.length fc, .string ⟨#[]⟩]) (by simp [results, Tryz.results68, go_sem, k0, k1, k2, k3]) rfl HFIN.out

end Go.Proofs.YthlmnmbhgkmbfaaGreatDoor

namespace Go.Proofs.YthlmnmbhgkmbfaaGreatDoor
open Go.RowKit
open Go.Lib hiding intOf

theorem DReq.setMethod {w : World} {c R r : Nat} {m : Int} {p : ByteArray} {fv : Value} {fs : List (ByteArray × ByteArray)} {b : ByteArray} {a : Option Addr} {len cap : Nat} {W : World} (h : DReq w c R r m p fv fs b a len cap W) (hcw : c < w.heap.size) (hrw : w.heap.size ≤ r) (hrR : R ≠ r) (m' : Int) : DReq w c R r m' p fv fs b a len cap (W.setCell ⟨r, 0, none⟩ (.int .i64 m')) := by
  refine ⟨?_, ?_, ?_, ?_, grown_later h.grow (grown_set W r 0 _) (fun g e => by cases e; exact hrw), h.apart⟩
  · rw [heap_setCell_other _ _ R _ (fun e => hrR e)]; exact h.hR
  · have := heap_set W r 0 _ _ _ (.int .i64 m') h.hr
    simpa using this
  · exact h.own.kept (grown_set W r 0 _) (by cases h3 : fv.ownBlock <;> simp; exact (h.apart _ h3).2)
  · obtain ⟨i, hh, hi, h4⟩ := h.cur
    refine ⟨i, hh, hi, ?_⟩
    rw [heap_setCell_other _ _ c _ (fun e => by have e2 : c = r := e; omega)]
    exact h4
theorem DReq.setPath {w : World} {c R r : Nat} {m : Int} {p : ByteArray} {fv : Value} {fs : List (ByteArray × ByteArray)} {b : ByteArray} {a : Option Addr} {len cap : Nat} {W : World} (h : DReq w c R r m p fv fs b a len cap W) (hcw : c < w.heap.size) (hrw : w.heap.size ≤ r) (hrR : R ≠ r) (p' : ByteArray) : DReq w c R r m p' fv fs b a len cap (W.setCell ⟨r, 1, none⟩ (.string p')) := by
  refine ⟨?_, ?_, ?_, ?_, grown_later h.grow (grown_set W r 1 _) (fun g e => by cases e; exact hrw), h.apart⟩
  · rw [heap_setCell_other _ _ R _ (fun e => hrR e)]; exact h.hR
  · have := heap_set W r 1 _ _ _ (.string p') h.hr
    simpa using this
  · exact h.own.kept (grown_set W r 1 _) (by cases h3 : fv.ownBlock <;> simp; exact (h.apart _ h3).2)
  · obtain ⟨i, hh, hi, h4⟩ := h.cur
    refine ⟨i, hh, hi, ?_⟩
    rw [heap_setCell_other _ _ c _ (fun e => by have e2 : c = r := e; omega)]
    exact h4
theorem DReq.setFields {w : World} {c R r : Nat} {m : Int} {p : ByteArray} {fv : Value} {fs : List (ByteArray × ByteArray)} {b : ByteArray} {a : Option Addr} {len cap : Nat} {W : World} {gv : Value} {gs : List (ByteArray × ByteArray)} (h : DReq w c R r m p fv fs b a len cap W) (hcw : c < w.heap.size) (hrw : w.heap.size ≤ r) (hrR : R ≠ r) (hown : W.ownsRow w.heap.size 67 2 gv gs.length (flatF gs)) : DReq w c R r m p gv gs b a len cap (W.setCell ⟨r, 2, none⟩ gv) := by
  have hap : ∀ j, gv.ownBlock = some j → j ≠ R ∧ j ≠ r := fun j hj => by
    obtain ⟨cur, hcj⟩ := owns_heap hown hj
    refine ⟨fun e => ?_, fun e => ?_⟩
    · rw [e, h.hR] at hcj
      simp at hcj
    · rw [e, h.hr] at hcj
      simp at hcj
  refine ⟨?_, ?_, ?_, ?_, grown_later h.grow (grown_set W r 2 _) (fun g e => by cases e; exact hrw), hap⟩
  · rw [heap_setCell_other _ _ R _ (fun e => hrR e)]; exact h.hR
  · have := heap_set W r 2 _ _ _ gv h.hr
    simpa using this
  · exact hown.kept (grown_set W r 2 _) (by cases h3 : gv.ownBlock <;> simp; exact (hap _ h3).2)
  · obtain ⟨i, hh, hi, h4⟩ := h.cur
    refine ⟨i, hh, hi, ?_⟩
    rw [heap_setCell_other _ _ c _ (fun e => by have e2 : c = r := e; omega)]
    exact h4

/-- How long the body is that lies there. -/
def bodyLen (r : Nat) (W : World) : Nat := match W.cell? ⟨r, 3, none⟩ with | some (.string t) => t.size | _ => 0

set_option maxHeartbeats 4000000 in
set_option maxRecDepth 100000 in
theorem l3DrawBadReq_any (c B : Nat) (a : Option Addr) (len cap : Nat) (zs : List Int) (w : World) (hcur : CurAt w c a len cap) (hcode : CodeAt w B a len zs) (hB : B ≤ c) :
    Calls Tryz.prog 39 #[.pointer (some ⟨c, 0, none⟩)] w fun e w' => ReqDrawn 140 w c a len cap e w' := by
  have hcw := hcur.lt
  have HCO : Hid (∀ W, w.grownBy W (some c) → CodeAt W B a len zs) := fun W h => hcode.grown h hB
  obtain ⟨R, hR⟩ : ∃ R, R = w.heap.size := ⟨_, rfl⟩
  have hg0 : w.grownBy (w.alloc (.cells #[.int .i64 0, .string ⟨#[]⟩, .slice none 0 0, .string ⟨#[]⟩] 26)) (some c) := World.grownBy_alloc w _ _
  have hcu0 := hcur.below ((Below.refl _ w).alloc (Nat.le_refl _) (.cells #[.int .i64 0, .string ⟨#[]⟩, .slice none 0 0, .string ⟨#[]⟩] 26)) hcw
  have hco0 := HCO.out _ hg0
  have hz0' : (w.alloc (.cells #[.int .i64 0, .string ⟨#[]⟩, .slice none 0 0, .string ⟨#[]⟩] 26)).heap[R]? = some (.cells #[.int .i64 0, .string ⟨#[]⟩, .slice none 0 0, .string ⟨#[]⟩] 26) := by rw [hR]; exact heap_alloc_new w _
  have hRlt : R < (w.alloc (.cells #[.int .i64 0, .string ⟨#[]⟩, .slice none 0 0, .string ⟨#[]⟩] 26)).heap.size := by rw [hR]; simp
  have hRc : R ≠ c := by omega
  have hRw : w.heap.size ≤ R := by omega
  have HRE : Hid (R = w.heap.size) := hR
  obtain ⟨w0, hw0⟩ : ∃ W, W = w.alloc (.cells #[.int .i64 0, .string ⟨#[]⟩, .slice none 0 0, .string ⟨#[]⟩] 26) := ⟨_, rfl⟩
  have HW0 : Hid (w0 = w.alloc (.cells #[.int .i64 0, .string ⟨#[]⟩, .slice none 0 0, .string ⟨#[]⟩] 26)) := hw0
  rw [← hw0] at hg0 hcu0 hco0 hz0' hRlt
  clear hcur hcode hR hw0
  go_enter Tryz.func39, Tryz.ntmps39
  go_wp2_with fail
  rw [← HW0.out]
  refine (l3DrawReq_any c B a len cap zs _ hcu0 hco0 hB).mono ?_
  rintro e w1 ⟨m, p, fv, fs, b, rfl, hm, hp, hown, hfl, hsh, hb, hcu1, hg1⟩
  obtain ⟨fo, fc, rfl⟩ := slice_of_owns hown
  have hz1' : w1.heap[R]? = some (.cells #[.int .i64 0, .string ⟨#[]⟩, .slice none 0 0, .string ⟨#[]⟩] 26) := by rw [hg1.block R hRlt (fun e => hRc (Option.some.inj e))]; exact hz0'
  have hR1 : R < w1.heap.size := (Array.getElem?_eq_some_iff.1 hz1').1
  obtain ⟨r, hr⟩ : ∃ r, r = w1.heap.size := ⟨_, rfl⟩
  have hga1 := grownBy_trans hg0 hg1
  have hrw : w.heap.size ≤ r := by rw [hr]; exact hga1.size
  have hrR : R ≠ r := by omega
  have HD0 : Hid (DReq w c R r m p (.slice fo fs.length fc) fs b a len cap (w1.alloc (.cells #[.int .i64 m, .string p, .slice fo fs.length fc, .string b] 26))) := by
    have hgal : w1.grownBy (w1.alloc (.cells #[.int .i64 m, .string p, .slice fo fs.length fc, .string b] 26)) (some c) := World.grownBy_alloc w1 _ _
    have how : w1.ownsRow w.heap.size 67 2 (.slice fo fs.length fc) fs.length (flatF fs) := by
      refine ⟨hown.1, ?_⟩
      rcases hown.2 with h6 | ⟨g6, cap6, cur6, h7, h8, h9⟩
      · exact .inl h6
      · exact .inr ⟨g6, cap6, cur6, h7, by have := hg0.size; omega, h9⟩
    refine ⟨?_, by rw [hr]; exact heap_alloc_new w1 _, how.alloc _, hcu1.below ((Below.refl _ w1).alloc (Nat.le_refl _) _) hcu1.lt, grownBy_trans hga1 hgal, fun j hj => ⟨by have := owns_ge hown hj; omega, by have := owns_lt hown hj; omega⟩⟩
    rw [hgal.block R hR1 (fun e => hRc (Option.some.inj e))]; exact hz1'
  have HR' : Hid (r = w1.heap.size) := hr
  obtain ⟨w2, hw2⟩ : ∃ W, W = w1.alloc (.cells #[.int .i64 m, .string p, .slice fo fs.length fc, .string b] 26) := ⟨_, rfl⟩
  have HW2 : Hid (w2 = w1.alloc (.cells #[.int .i64 m, .string p, .slice fo fs.length fc, .string b] 26)) := hw2
  rw [← hw2] at HD0
  rw [← HRE.out]
  clear hr hz1' hR1 hcu1 hga1 hw2 hown hg1 hg0 hcu0 hco0 hz0' hRlt
  go_wp2_with fail
  rw [← HR'.out, ← HW2.out]
  refine (l1Below_any c B 20 a len cap zs _ HD0.out.cur (HCO.out _ HD0.out.grow) hB (by omega) (by omega)).mono ?_
  rintro e wa ⟨x, rfl, hx0, hx1, hcua, hgaa⟩
  have hda : Hid (DReq w c R r m p (.slice fo fs.length fc) fs b a len cap wa) := HD0.out.later hcw hRw hrw hcua hgaa
  clear hcua hgaa HD0
  obtain ⟨⟨c0, c1, c2, c3⟩, f0, f1, f2, f3⟩ := four_facts hda.out.hr
  obtain ⟨⟨d0, d1, d2, d3⟩, g0, g1, g2, g3⟩ := four_facts hda.out.hR
  by_cases x0 : x = 0
  · subst x0
    go_wp2_with fail
    refine (l1Below_any c B 7 a len cap zs _ hda.out.cur (HCO.out _ hda.out.grow) hB (by omega) (by omega)).mono ?_
    rintro e wb ⟨y, rfl, hy0, hy1, hcub, hgb⟩
    have hdb : Hid (DReq w c R r m p (.slice fo fs.length fc) fs b a len cap wb) := hda.out.later hcw hRw hrw hcub hgb
    have hdc : Hid (DReq w c R r (y - 1) p (.slice fo fs.length fc) fs b a len cap (wb.setCell ⟨r, 0, none⟩ (.int .i64 (y - 1)))) := hdb.out.setMethod hcw hrw hrR (y - 1)
    clear c0 c1 c2 c3 f0 f1 f2 f3 d0 d1 d2 d3 g0 g1 g2 g3 hcub hgb hda
    obtain ⟨⟨c0, c1, c2, c3⟩, f0, f1, f2, f3⟩ := four_facts hdb.out.hr
    obtain ⟨⟨i0, i1, i2, i3⟩, j0, j1, j2, j3⟩ := four_facts hdc.out.hr
    obtain ⟨⟨d0, d1, d2, d3⟩, g0, g1, g2, g3⟩ := four_facts hdc.out.hR
    obtain ⟨hh, hfin⟩ := hdc.out.fin (bmax := 140) hcw hRw ⟨by omega, by omega⟩ hp hfl hsh (by omega)
    obtain ⟨⟨k0, k1, k2, k3⟩, _⟩ := four_facts hh
    have HFIN : Hid _ := hfin
    unfold fourSet at k0 k1 k2 k3
    clear hh hfin
    go_wp2_with fail
    exact bodyPost_ret (v := .agg #[.int .i64 (y - 1), .string p, (.slice fo fs.length fc), .string b]) (by simp [results, Tryz.results39, go_sem, k0, k1, k2, k3]) rfl HFIN.out
  · by_cases x1 : x = 1
    · subst x1
      go_wp2_with fail
      refine (pick_new c B [⟨#[]⟩, ⟨#[97]⟩, ⟨#[47, 32, 98]⟩, ⟨#[47, 127]⟩, ⟨#[47, 48, 49, 50, 51, 52, 53, 54, 55, 56, 57, 48, 49, 50, 51, 52, 53, 54, 55, 56, 57, 48, 49, 50, 51, 52, 53, 54, 55, 56, 57, 48, 49, 50, 51, 52, 53, 54, 55, 56, 57, 48, 49, 50, 51, 52, 53, 54, 55, 56, 57, 48, 49, 50, 51, 52, 53, 54, 55, 56, 57]⟩] 64 (by decide) a len cap zs wa hda.out.cur (HCO.out _ hda.out.grow) hB (by decide) (by decide)).mono ?_
      rintro e wb ⟨q, rfl, hq, hcub, hgb⟩
      have hdb : Hid (DReq w c R r m p (.slice fo fs.length fc) fs b a len cap wb) := hda.out.later hcw hRw hrw hcub hgb
      have hdc : Hid (DReq w c R r m q (.slice fo fs.length fc) fs b a len cap (wb.setCell ⟨r, 1, none⟩ (.string q))) := hdb.out.setPath hcw hrw hrR q
      clear c0 c1 c2 c3 f0 f1 f2 f3 d0 d1 d2 d3 g0 g1 g2 g3 hcub hgb hda
      obtain ⟨⟨c0, c1, c2, c3⟩, f0, f1, f2, f3⟩ := four_facts hdb.out.hr
      obtain ⟨⟨i0, i1, i2, i3⟩, j0, j1, j2, j3⟩ := four_facts hdc.out.hr
      obtain ⟨⟨d0, d1, d2, d3⟩, g0, g1, g2, g3⟩ := four_facts hdc.out.hR
      obtain ⟨hh, hfin⟩ := hdc.out.fin (bmax := 140) hcw hRw hm hq hfl hsh (by omega)
      obtain ⟨⟨k0, k1, k2, k3⟩, _⟩ := four_facts hh
      have HFIN : Hid _ := hfin
      unfold fourSet at k0 k1 k2 k3
      clear hh hfin
      go_wp2_with fail
      exact bodyPost_ret (v := .agg #[.int .i64 m, .string q, (.slice fo fs.length fc), .string b]) (by simp [results, Tryz.results39, go_sem, k0, k1, k2, k3]) rfl HFIN.out
    · by_cases x2 : x = 2
      · subst x2
        go_wp2_with fail
        refine (l2Draw_any c B a len cap zs _ hda.out.cur (HCO.out _ hda.out.grow) hB).mono ?_
        rintro e wb ⟨gv, gs, rfl, howng, hgl, hgsh, hcub, hgb⟩
        obtain ⟨go, gc, rfl⟩ := slice_of_owns howng
        have hdb : Hid (DReq w c R r m p (.slice fo fs.length fc) fs b a len cap wb) := hda.out.later hcw hRw hrw hcub hgb
        have hwid : wb.ownsRow w.heap.size 67 2 (.slice go gs.length gc) gs.length (flatF gs) := by
          refine ⟨howng.1, ?_⟩
          rcases howng.2 with h6 | ⟨g6, cap6, cur6, h7, h8, h9⟩
          · exact .inl h6
          · exact .inr ⟨g6, cap6, cur6, h7, by have := hda.out.grow.size; omega, h9⟩
        have hdc : Hid (DReq w c R r m p (.slice go gs.length gc) gs b a len cap (wb.setCell ⟨r, 2, none⟩ (.slice go gs.length gc))) := hdb.out.setFields hcw hrw hrR hwid
        clear c0 c1 c2 c3 f0 f1 f2 f3 d0 d1 d2 d3 g0 g1 g2 g3 hcub hgb hda howng hwid
        obtain ⟨⟨c0, c1, c2, c3⟩, f0, f1, f2, f3⟩ := four_facts hdb.out.hr
        obtain ⟨⟨i0, i1, i2, i3⟩, j0, j1, j2, j3⟩ := four_facts hdc.out.hr
        obtain ⟨⟨d0, d1, d2, d3⟩, g0, g1, g2, g3⟩ := four_facts hdc.out.hR
        obtain ⟨hh, hfin⟩ := hdc.out.fin (bmax := 140) hcw hRw hm hp hgl hgsh (by omega)
        obtain ⟨⟨k0, k1, k2, k3⟩, _⟩ := four_facts hh
        have HFIN : Hid _ := hfin
        unfold fourSet at k0 k1 k2 k3
        clear hh hfin
        go_wp2_with fail
        exact bodyPost_ret (v := .agg #[.int .i64 m, .string p, .slice go gs.length gc, .string b]) (by simp [results, Tryz.results39, go_sem, k0, k1, k2, k3]) rfl HFIN.out
      · by_cases x3 : x = 3
        · subst x3
          clear c0 c1 c2 c3 f0 f1 f2 f3 d0 d1 d2 d3 g0 g1 g2 g3
          go_wp2_with fail
          go_loopw [] (fun wr => ∃ b2 : ByteArray, b2.size ≤ 121 ∧ Hid (DReq w c R r m p (.slice fo fs.length fc) fs b2 a len cap wr)) (fun wr => 122 - bodyLen r wr)
          case atStart => exact ⟨b, by omega, hda⟩
          case round =>
            obtain ⟨b2, hb2, hdr⟩ := hrel
            have hdw : Hid (DReq w c R r m p (.slice fo fs.length fc) fs b2 a len cap wr.drew) := hdr.out.later hcw hRw hrw hdr.out.cur (grown_below ((Below.refl _ wr).drew) _)
            obtain ⟨⟨c0, c1, c2, c3⟩, f0, f1, f2, f3⟩ := four_facts hdr.out.hr
            have HL0 : Hid (bodyLen r wr = b2.size) := by show _ = _; unfold bodyLen; rw [c3]
            have HA : Hid (∀ wb, CurAt wb c a len cap → wr.drew.grownBy wb (some c) → wb.cell? ⟨r, 3, none⟩ = some (.string b2) ∧ Hid (DReq w c R r m p (.slice fo fs.length fc) fs b2 a len cap wb)) := fun wb h1 h2 => by
              have h3 := hdw.out.later hcw hRw hrw h1 h2
              exact ⟨(four_facts h3.hr).1.2.2.2, h3⟩
            clear c0 c1 c2 f0 f1 f2 f3
            go_wp2_with fail
            go_region_held3 (fun W => W.cell? ⟨r, 3, none⟩ = some (.string b2)) (first | assumption | go_keep) (first | (go_at_call 58; refine (l1Below_any c B 2 a len cap zs _ hdw.out.cur (HCO.out _ hdw.out.grow) hB (by omega) (by omega)).mono ?_; rintro e wb ⟨y, rfl, hy0, hy1, hcub, hgb⟩; obtain ⟨hcb, hdb⟩ := HA.out wb hcub hgb; have hwy : IntKind.i64.wrap (120 + y) = 120 + y := by rw [IntKind.wrap_i64]; omega))
            clear hcub hgb hdw HA c3
            have hdc : Hid (DReq w c R r m p (.slice fo fs.length fc) fs (b2 ++ ⟨#[98]⟩) a len cap (wb.setCell ⟨r, 3, none⟩ (.string (b2 ++ ⟨#[98]⟩)))) := hdb.out.setBody hcw hrw hrR _
            obtain ⟨⟨c0, c1, c2, c3⟩, f0, f1, f2, f3⟩ := four_facts hdb.out.hr
            obtain ⟨⟨d0, d1, d2, d3⟩, g0, g1, g2, g3⟩ := four_facts hdb.out.hR
            have e98 : (⟨#[98]⟩ : ByteArray).size = 1 := rfl
            by_cases hlt : (b2.size : Int) < 120 + y
            · have HL1 : Hid (bodyLen r (wb.setCell ⟨r, 3, none⟩ (.string (b2 ++ ⟨#[98]⟩))) = b2.size + 1) := by
                show _ = _
                have := (four_facts hdc.out.hr).1.2.2.2
                unfold bodyLen; rw [this]; simp only [ByteArray.size_append]; omega
              have q1 : ¬ 9223372036854775807 < b2.size + 1 := by omega
              clear d0 d1 d2 d3 g0 g1 g2 g3
              go_wp2
              go_roundw
              case rel => exact ⟨_, by simp only [ByteArray.size_append]; omega, hdc⟩
              case measure => rw [HL1.out, HL0.out]; omega
            · have hdec : decide ((b2.size : Int) < 120 + y) = false := by simpa using hlt
              clear hdc hdr hda HL0
              obtain ⟨hh, hfin⟩ := hdb.out.fin (bmax := 140) hcw hRw hm hp hfl hsh (by omega)
              obtain ⟨⟨k0, k1, k2, k3⟩, _⟩ := four_facts hh
              have HFIN : Hid _ := hfin
              unfold fourSet at k0 k1 k2 k3
              clear hh hfin
              go_wp2_with fail
              exact bodyPost_ret (v := .agg #[.int .i64 m, .string p, (.slice fo fs.length fc), .string b2]) (by simp [results, Tryz.results39, go_sem, k0, k1, k2, k3]) rfl HFIN.out
        · have e0 : (x == 0) = false := by rw [beq_eq_false_iff_ne]; exact x0
          have e1 : (x == 1) = false := by rw [beq_eq_false_iff_ne]; exact x1
          have e2 : (x == 2) = false := by rw [beq_eq_false_iff_ne]; exact x2
          have e3 : (x == 3) = false := by rw [beq_eq_false_iff_ne]; exact x3
          obtain ⟨hh, hfin⟩ := hda.out.fin (bmax := 140) hcw hRw hm hp hfl hsh (by omega)
          obtain ⟨⟨k0, k1, k2, k3⟩, _⟩ := four_facts hh
          have HFIN : Hid _ := hfin
          unfold fourSet at k0 k1 k2 k3
          clear hh hfin
          go_wp2_with fail
          exact bodyPost_ret (v := .agg #[.int .i64 m, .string p, (.slice fo fs.length fc), .string b]) (by simp [results, Tryz.results39, go_sem, k0, k1, k2, k3]) rfl HFIN.out

end Go.Proofs.YthlmnmbhgkmbfaaGreatDoor

namespace Go.Proofs.YthlmnmbhgkmbfaaGreatDoor
open Go.RowKit
open Go.Lib hiding intOf

theorem putL_len (fs : List (ByteArray × ByteArray)) (name value : ByteArray) : (putF fs name value).length ≤ fs.length + 1 := by
  unfold putF
  split
  · rw [List.length_set]; omega
  · rw [List.length_append]; simp
theorem putL_short {fs : List (ByteArray × ByteArray)} (h : ShortF fs) {name value : ByteArray} (h1 : name.size ≤ 64) (h2 : value.size ≤ 64) : ShortF (putF fs name value) := by
  by_cases hin : atF fs name < fs.length
  · unfold putF
    rw [if_pos hin]
    intro f hf
    rcases List.mem_or_eq_of_mem_set hf with hf | hf
    · exact h f hf
    · subst hf
      refine ⟨?_, h2⟩
      first
        | exact h1
        | (unfold nameAt
           rw [List.getD_eq_getElem?_getD, List.getElem?_eq_getElem hin]
           exact (h _ (List.getElem_mem hin)).1)
  · unfold putF
    rw [if_neg hin]
    exact h.snoc h1 h2

/-- While they are drawn. -/
structure FtSt (w : World) (c : Nat) (a : Option Addr) (len cap : Nat) (v : Value) (fs : List (ByteArray × ByteArray)) (wr : World) : Prop where
  own : wr.ownsRow (c + 1) 67 2 v fs.length (flatF fs)
  le : fs.length ≤ 41
  short : ShortF fs
  cur : CurAt wr c a len cap
  low : Below c w wr
theorem FtSt.grown {w : World} {c : Nat} {a : Option Addr} {len cap : Nat} {v : Value} {fs : List (ByteArray × ByteArray)} {wr W : World} (h : FtSt w c a len cap v fs wr) (hg : wr.grownBy W (some c)) (hcu : CurAt W c a len cap) : FtSt w c a len cap v fs W :=
  ⟨owns_same h.own (fun j hj => hg.block j (own_ltR h.own hj).2 (fun e => by cases e; have := (own_ltR h.own hj).1; omega)), h.le, h.short, hcu, h.low.grown hg (by have := h.cur.lt; omega) (by intro k hk; cases hk; exact Nat.le_refl _)⟩
end Go.Proofs.YthlmnmbhgkmbfaaGreatDoor

namespace Go.Proofs.YthlmnmbhgkmbfaaGreatDoor
open Go.RowKit
open Go.Lib hiding intOf

/-- A call on the cursor answers an answer. -/
def RespDrawn (bmax : Nat) (w : World) (c : Nat) (a : Option Addr) (len cap : Nat) (e : Ending) (w' : World) : Prop :=
  ∃ (m : Int) (v : Value) (fs : List (ByteArray × ByteArray)) (b : ByteArray), e = .returned (.agg #[.int .i64 m, v, .string b]) ∧ (-1000 ≤ m ∧ m ≤ 1000) ∧ w'.ownsRow w.heap.size 67 2 v fs.length (flatF fs) ∧ fs.length ≤ 40 ∧ ShortF fs ∧ b.size ≤ bmax ∧ CurAt w' c a len cap ∧ w.grownBy w' (some c)
/-- While it is drawn: the answer's memory R, the variable r. -/
structure DResp (w : World) (c R r : Nat) (m : Int) (fv : Value) (fs : List (ByteArray × ByteArray)) (b : ByteArray) (a : Option Addr) (len cap : Nat) (W : World) : Prop where
  hR : W.heap[R]? = some (.cells #[.int .i64 0, .slice none 0 0, .string ⟨#[]⟩] 28)
  hr : W.heap[r]? = some (.cells #[.int .i64 m, fv, .string b] 28)
  own : W.ownsRow w.heap.size 67 2 fv fs.length (flatF fs)
  cur : CurAt W c a len cap
  grow : w.grownBy W (some c)
  apart : ∀ j, fv.ownBlock = some j → j ≠ R ∧ j ≠ r
theorem DResp.later {w : World} {c R r : Nat} {m : Int} {fv : Value} {fs : List (ByteArray × ByteArray)} {b : ByteArray} {a : Option Addr} {len cap : Nat} {W : World} {W' : World} (h : DResp w c R r m fv fs b a len cap W) (hcw : c < w.heap.size) (hRw : w.heap.size ≤ R) (hrw : w.heap.size ≤ r) (hcu : CurAt W' c a len cap) (hg : W.grownBy W' (some c)) : DResp w c R r m fv fs b a len cap W' := by
  refine ⟨?_, ?_, ?_, hcu, grownBy_trans h.grow hg, h.apart⟩
  · rw [hg.block R ((Array.getElem?_eq_some_iff.1 h.hR).1) (fun e => by have := Option.some.inj e; omega)]; exact h.hR
  · rw [hg.block r ((Array.getElem?_eq_some_iff.1 h.hr).1) (fun e => by have := Option.some.inj e; omega)]; exact h.hr
  · exact h.own.kept hg (by cases h2 : fv.ownBlock <;> simp; exact fun e => by have h7 := owns_ge h.own h2; omega)
theorem DResp.setStatus {w : World} {c R r : Nat} {m : Int} {fv : Value} {fs : List (ByteArray × ByteArray)} {b : ByteArray} {a : Option Addr} {len cap : Nat} {W : World} {m' : Int} (h : DResp w c R r m fv fs b a len cap W) (hcw : c < w.heap.size) (hrw : w.heap.size ≤ r) (hrR : R ≠ r) : DResp w c R r m' fv fs b a len cap (W.setCell ⟨r, 0, none⟩ (.int .i64 m')) := by
  refine ⟨?_, ?_, ?_, ?_, grown_later h.grow (grown_set W r 0 _) (fun g e => by cases e; exact hrw), h.apart⟩
  · rw [heap_setCell_other _ _ R _ (fun e => hrR e)]; exact h.hR
  · have := heap_set W r 0 _ _ _ (.int .i64 m') h.hr
    simpa using this
  · exact h.own.kept (grown_set W r 0 _) (by cases h3 : fv.ownBlock <;> simp; exact (h.apart _ h3).2)
  · obtain ⟨i, hh, hi, h4⟩ := h.cur
    refine ⟨i, hh, hi, ?_⟩
    rw [heap_setCell_other _ _ c _ (fun e => by have e2 : c = r := e; omega)]
    exact h4
theorem DResp.setFields {w : World} {c R r : Nat} {m : Int} {fv : Value} {fs : List (ByteArray × ByteArray)} {b : ByteArray} {a : Option Addr} {len cap : Nat} {W : World} {gv : Value} {gs : List (ByteArray × ByteArray)} (h : DResp w c R r m fv fs b a len cap W) (hcw : c < w.heap.size) (hrw : w.heap.size ≤ r) (hrR : R ≠ r) (hown : W.ownsRow w.heap.size 67 2 gv gs.length (flatF gs)) : DResp w c R r m gv gs b a len cap (W.setCell ⟨r, 1, none⟩ (gv)) := by
  have hap : ∀ j, gv.ownBlock = some j → j ≠ R ∧ j ≠ r := fun j hj => by
    obtain ⟨cur, hcj⟩ := owns_heap hown hj
    refine ⟨fun e => ?_, fun e => ?_⟩
    · rw [e, h.hR] at hcj
      simp at hcj
    · rw [e, h.hr] at hcj
      simp at hcj
  refine ⟨?_, ?_, ?_, ?_, grown_later h.grow (grown_set W r 1 _) (fun g e => by cases e; exact hrw), hap⟩
  · rw [heap_setCell_other _ _ R _ (fun e => hrR e)]; exact h.hR
  · have := heap_set W r 1 _ _ _ (gv) h.hr
    simpa using this
  · exact hown.kept (grown_set W r 1 _) (by cases h3 : gv.ownBlock <;> simp; exact (hap _ h3).2)
  · obtain ⟨i, hh, hi, h4⟩ := h.cur
    refine ⟨i, hh, hi, ?_⟩
    rw [heap_setCell_other _ _ c _ (fun e => by have e2 : c = r := e; omega)]
    exact h4
theorem DResp.setBody {w : World} {c R r : Nat} {m : Int} {fv : Value} {fs : List (ByteArray × ByteArray)} {b : ByteArray} {a : Option Addr} {len cap : Nat} {W : World} {b' : ByteArray} (h : DResp w c R r m fv fs b a len cap W) (hcw : c < w.heap.size) (hrw : w.heap.size ≤ r) (hrR : R ≠ r) : DResp w c R r m fv fs b' a len cap (W.setCell ⟨r, 2, none⟩ (.string b')) := by
  refine ⟨?_, ?_, ?_, ?_, grown_later h.grow (grown_set W r 2 _) (fun g e => by cases e; exact hrw), h.apart⟩
  · rw [heap_setCell_other _ _ R _ (fun e => hrR e)]; exact h.hR
  · have := heap_set W r 2 _ _ _ (.string b') h.hr
    simpa using this
  · exact h.own.kept (grown_set W r 2 _) (by cases h3 : fv.ownBlock <;> simp; exact (h.apart _ h3).2)
  · obtain ⟨i, hh, hi, h4⟩ := h.cur
    refine ⟨i, hh, hi, ?_⟩
    rw [heap_setCell_other _ _ c _ (fun e => by have e2 : c = r := e; omega)]
    exact h4
/-- The answer handed back. -/
theorem DResp.fin {w : World} {c R r : Nat} {m : Int} {fv : Value} {fs : List (ByteArray × ByteArray)} {b : ByteArray} {a : Option Addr} {len cap : Nat} {W : World} (h : DResp w c R r m fv fs b a len cap W) (hcw : c < w.heap.size) (hRw : w.heap.size ≤ R) (hm : -1000 ≤ m ∧ m ≤ 1000) (hf : fs.length ≤ 40) (hsh : ShortF fs) {bmax : Nat} (hb : b.size ≤ bmax) :
    (threeSet W R (.int .i64 m) fv (.string b)).heap[R]? = some (.cells #[.int .i64 m, fv, .string b] 28) ∧ RespDrawn bmax w c a len cap (.returned (.agg #[.int .i64 m, fv, .string b])) (threeSet W R (.int .i64 m) fv (.string b)) := by
  have hg : W.grownBy (threeSet W R (.int .i64 m) fv (.string b)) (some R) := by
    unfold threeSet
    exact grown_then (grown_then (grown_set _ _ _ _) (grown_set _ _ _ _)) (grown_set _ _ _ _)
  refine ⟨three_set h.hR _ _ _, m, fv, fs, b, rfl, hm, ?_, hf, hsh, hb, ?_, grown_later h.grow hg (fun g e => by cases e; exact hRw)⟩
  · exact h.own.kept hg (by cases h3 : fv.ownBlock <;> simp; exact (h.apart _ h3).1)
  · obtain ⟨i, hh, hi, h4⟩ := h.cur
    refine ⟨i, hh, hi, ?_⟩
    rw [hg.block c (Array.getElem?_eq_some_iff.1 h4).1 (fun e => by have := Option.some.inj e; omega)]
    exact h4
/-- How long the body is that lies there. -/
def bodyLenP (r : Nat) (W : World) : Nat := match W.cell? ⟨r, 2, none⟩ with | some (.string t) => t.size | _ => 0

set_option maxHeartbeats 4000000 in
set_option maxRecDepth 100000 in
theorem l3DrawResp_any (c B : Nat) (a : Option Addr) (len cap : Nat) (zs : List Int) (w : World) (hcur : CurAt w c a len cap) (hcode : CodeAt w B a len zs) (hB : B ≤ c) :
    Calls Tryz.prog 57 #[.pointer (some ⟨c, 0, none⟩)] w fun e w' => RespDrawn 14 w c a len cap e w' := by
  have hcw := hcur.lt
  have HCO : Hid (∀ W, w.grownBy W (some c) → CodeAt W B a len zs) := fun W h => hcode.grown h hB
  obtain ⟨R, hR⟩ : ∃ R, R = w.heap.size := ⟨_, rfl⟩
  have hg0 : w.grownBy (w.alloc (.cells #[.int .i64 0, .slice none 0 0, .string ⟨#[]⟩] 28)) (some c) := World.grownBy_alloc w _ _
  have hcu0 := hcur.below ((Below.refl _ w).alloc (Nat.le_refl _) (.cells #[.int .i64 0, .slice none 0 0, .string ⟨#[]⟩] 28)) hcw
  have hco0 := HCO.out _ hg0
  have hz0' : (w.alloc (.cells #[.int .i64 0, .slice none 0 0, .string ⟨#[]⟩] 28)).heap[R]? = some (.cells #[.int .i64 0, .slice none 0 0, .string ⟨#[]⟩] 28) := by rw [hR]; exact heap_alloc_new w _
  have hRlt : R < (w.alloc (.cells #[.int .i64 0, .slice none 0 0, .string ⟨#[]⟩] 28)).heap.size := by rw [hR]; simp
  have hRc : R ≠ c := by omega
  have hRw : w.heap.size ≤ R := by omega
  have HRE : Hid (R = w.heap.size) := hR
  obtain ⟨w0, hw0⟩ : ∃ W, W = w.alloc (.cells #[.int .i64 0, .slice none 0 0, .string ⟨#[]⟩] 28) := ⟨_, rfl⟩
  have HW0 : Hid (w0 = w.alloc (.cells #[.int .i64 0, .slice none 0 0, .string ⟨#[]⟩] 28)) := hw0
  have HS0 : Hid (w0.heap.size = w.heap.size + 1) := by show _ = _; rw [hw0]; simp
  rw [← hw0] at hg0 hcu0 hco0 hz0' hRlt
  clear hcur hcode hR hw0
  go_enter Tryz.func57, Tryz.ntmps57
  go_wp2_with fail
  rw [← HW0.out, ← HS0.out]
  refine (pickInt_new c B [200, 200, 200, 200, 404, 500, 304] 200 500 (by decide) a len cap zs w0 hcu0 hco0 hB (by decide) (by decide)).mono ?_
  rintro e w1 ⟨m, rfl, hm1, hm2, hcu1, hg1⟩
  have hm : -1000 ≤ m ∧ m ≤ 1000 := by omega
  have hga1 := grownBy_trans hg0 hg1
  have hz1' : w1.heap[R]? = some (.cells #[.int .i64 0, .slice none 0 0, .string ⟨#[]⟩] 28) := by rw [hg1.block R hRlt (fun e => hRc (Option.some.inj e))]; exact hz0'
  have hR1 : R < w1.heap.size := (Array.getElem?_eq_some_iff.1 hz1').1
  clear hg0 hg1 hcu0 hco0 hz0' hRlt
  go_wp2_with fail
  refine (l2DrawRight_any c B a len cap zs _ hcu1 (HCO.out _ hga1) hB).mono ?_
  rintro e w2 ⟨fv, fs, rfl, hown, hfl, hsh, hcu2, hg2⟩
  obtain ⟨fo, fc, rfl⟩ := slice_of_owns hown
  have hga2 := grownBy_trans hga1 hg2
  have hz2' : w2.heap[R]? = some (.cells #[.int .i64 0, .slice none 0 0, .string ⟨#[]⟩] 28) := by rw [hg2.block R hR1 (fun e => hRc (Option.some.inj e))]; exact hz1'
  have hR2 : R < w2.heap.size := (Array.getElem?_eq_some_iff.1 hz2').1
  have HOWN : Hid (w2.ownsRow w1.heap.size 67 2 (.slice fo fs.length fc) fs.length (flatF fs)) := hown
  have HSZ1 : Hid (w.heap.size ≤ w1.heap.size ∧ R < w1.heap.size ∧ c < w1.heap.size) := ⟨hga1.size, hR1, hcu1.lt⟩
  clear hg2 hga1 hcu1 hz1' hR1 hown
  go_wp2_with fail
  refine (l3DrawBody_any c B a len cap zs _ hcu2 (HCO.out _ hga2) hB).mono ?_
  rintro e w3 ⟨b, rfl, hb, hcu3, hg3⟩
  have hga3 := grownBy_trans hga2 hg3
  have hz3' : w3.heap[R]? = some (.cells #[.int .i64 0, .slice none 0 0, .string ⟨#[]⟩] 28) := by rw [hg3.block R hR2 (fun e => hRc (Option.some.inj e))]; exact hz2'
  have hR3 : R < w3.heap.size := (Array.getElem?_eq_some_iff.1 hz3').1
  have HOWN3 : Hid (w3.ownsRow w1.heap.size 67 2 (.slice fo fs.length fc) fs.length (flatF fs)) := owns_grown HOWN.out hg3 HSZ1.out.2.2
  rw [← HRE.out]
  have hs1 := HSZ1.out
  clear hg3 hga2 hcu2 hz2' hR2 HOWN
  obtain ⟨r, hr⟩ : ∃ r, r = w3.heap.size := ⟨_, rfl⟩
  have hrw : w.heap.size ≤ r := by rw [hr]; exact hga3.size
  have hrR : R ≠ r := by omega
  have HD0 : Hid (DResp w c R r m (.slice fo fs.length fc) fs b a len cap (w3.alloc (.cells #[.int .i64 m, .slice fo fs.length fc, .string b] 28))) := by
    have hgal : w3.grownBy (w3.alloc (.cells #[.int .i64 m, .slice fo fs.length fc, .string b] 28)) (some c) := World.grownBy_alloc w3 _ _
    refine ⟨?_, by rw [hr]; exact heap_alloc_new w3 _, (owns_wide HOWN3.out (by omega)).alloc _, hcu3.below ((Below.refl _ w3).alloc (Nat.le_refl _) _) hcu3.lt, grownBy_trans hga3 hgal, fun j hj => ⟨by have := owns_ge HOWN3.out hj; omega, by have := owns_lt HOWN3.out hj; omega⟩⟩
    rw [hgal.block R hR3 (fun e => hRc (Option.some.inj e))]; exact hz3'
  have HR' : Hid (r = w3.heap.size) := hr
  obtain ⟨wv, hwv⟩ : ∃ W, W = w3.alloc (.cells #[.int .i64 m, .slice fo fs.length fc, .string b] 28) := ⟨_, rfl⟩
  have HWV : Hid (wv = w3.alloc (.cells #[.int .i64 m, .slice fo fs.length fc, .string b] 28)) := hwv
  rw [← hwv] at HD0
  clear hr hz3' hR3 hcu3 hga3 hwv HOWN3 HSZ1 hs1
  go_upto_region 2 with fail
  rw [← HR'.out, ← HWV.out]
  go_wp2_with fail
  refine (l1Once_any c B 2 a len cap zs _ HD0.out.cur (HCO.out _ HD0.out.grow) hB (by omega) (by omega)).mono ?_
  rintro e wx ⟨hbb, hcux, hgx⟩
  obtain ⟨bb, rfl⟩ := hbb.out
  have HDX0 : Hid (DResp w c R r m (.slice fo fs.length fc) fs b a len cap wx) := HD0.out.later hcw hRw hrw hcux hgx
  clear hbb hcux hgx HD0 HWV HR' HW0 HS0 HRE
  cases bb with
  | false =>
    obtain ⟨⟨c0, c1, c2⟩, f0, f1, f2⟩ := three_facts HDX0.out.hr
    obtain ⟨⟨d0, d1, d2⟩, g0, g1, g2⟩ := three_facts HDX0.out.hR
    obtain ⟨hh, hfin⟩ := HDX0.out.fin (bmax := 14) hcw hRw hm (by omega) hsh (by omega)
    obtain ⟨⟨k0, k1, k2⟩, _⟩ := three_facts hh
    have HFIN : Hid _ := hfin
    unfold threeSet at k0 k1 k2
    clear hh hfin
    go_wp2_with fail
    exact bodyPost_ret (v := .agg #[.int .i64 m, (.slice fo fs.length fc), .string b]) (by simp [results, Tryz.results57, go_sem, k0, k1, k2]) rfl HFIN.out
  | true =>
    have HDX : Hid (DResp w c R r m (.slice fo fs.length fc) fs b a len cap wx.drew) := HDX0.out.later hcw hRw hrw HDX0.out.cur (grown_below ((Below.refl _ wx).drew) _)
    clear HDX0
    go_upto_region 3 with fail
    obtain ⟨wy, hwy⟩ : ∃ W, W = wx.drew := ⟨_, rfl⟩
    refine wp_region_held_drew (S := fun _ => True) (by kernel_rfl) trivial (fun _ => ?_)
    rw [← hwy]
    rw [← hwy] at HDX
    clear hwy
    refine wpAnyH_takeD (i := 0) (v := .pointer (some ⟨r, 1, none⟩)) (some 14) rfl rfl (by kernel_rfl) (by kernel_rfl) (by kernel_rfl) (fun _ _ _ h => h) (Or.inl ⟨by rfl, by intro W _; go_simp⟩) trivial ?_
    simp only [Act.put, List.setIfInBounds_toArray, List.set_cons_zero, List.set_cons_succ]
    refine wpAnyH_takeD (i := 2) (v := .pointer (some ⟨c, 0, none⟩)) (some 16) rfl rfl (by kernel_rfl) (by kernel_rfl) (by kernel_rfl) (fun _ _ _ h => h) (Or.inl ⟨by rfl, by intro W _; go_simp⟩) trivial ?_
    simp only [Act.put, List.setIfInBounds_toArray, List.set_cons_zero, List.set_cons_succ]
    refine wpAnyH_ready (rs := [1, 3]) (by kernel_rfl) (by simp) ?_
    refine AllReadyH.cons rfl (fun K hK => ?_) (AllReadyH.cons rfl (fun K hK => ?_) AllReadyH.nil)
    · obtain ⟨⟨c0, c1, c2⟩, f0, f1, f2⟩ := three_facts HDX.out.hr
      go_simp
      refine hK.out _ _ trivial (fun _ => ?_)
      clear hK K c0 c1 c2 f0 f1 f2
      refine wpAnyH_ready (rs := [3]) (by kernel_rfl) (by simp) ?_
      refine AllReadyH.cons rfl (fun K hK => ?_) AllReadyH.nil
      go_simp
      refine hK.out _ _ trivial (fun _ => ?_)
      clear hK K
      refine wpAnyH_ready (rs := [4]) (by kernel_rfl) (by simp) ?_
      refine AllReadyH.cons rfl (fun K hK => ?_) AllReadyH.nil
      go_simp
      refine (pick_new c B [⟨#[109, 97, 120, 45, 97, 103, 101, 61, 53]⟩, ⟨#[109, 97, 120, 45, 97, 103, 101, 61, 50, 48]⟩, ⟨#[109, 97, 120, 45, 97, 103, 101, 61, 57]⟩] 10 (by decide) a len cap zs wy HDX.out.cur (HCO.out _ HDX.out.grow) hB (by decide) (by decide)).mono ?_
      rintro e wb ⟨t, rfl, hts, hcub, hgb⟩
      have HDB : Hid (DResp w c R r m (.slice fo fs.length fc) fs b a len cap wb) := HDX.out.later hcw hRw hrw hcub hgb
      refine hK.out _ _ trivial (fun _ => ?_)
      clear hK K hcub hgb
      obtain ⟨⟨c0, c1, c2⟩, f0, f1, f2⟩ := three_facts HDB.out.hr
      refine wpAnyH_ready (rs := [5]) (by kernel_rfl) (by simp) ?_
      refine AllReadyH.cons rfl (fun K hK => ?_) AllReadyH.nil
      go_simp
      refine (specPut_any _ fs.length w.heap.size fs ⟨#[99, 97, 99, 104, 101, 45, 99, 111, 110, 116, 114, 111, 108]⟩ t _ (FieldsV.of_owns HDB.out.own) (by omega)).mono ?_
      rintro e wd ⟨zv, rfl, ownz, bd⟩
      obtain ⟨oz, cz, rfl⟩ := slice_of_owns ownz
      have HDD : Hid (DResp w c R r m (.slice fo fs.length fc) fs b a len cap wd) := HDB.out.later hcw hRw hrw (HDB.out.cur.below bd HDB.out.cur.lt) (grown_below bd _)
      have HDE : Hid (DResp w c R r m (.slice oz (putF fs ⟨#[99, 97, 99, 104, 101, 45, 99, 111, 110, 116, 114, 111, 108]⟩ t).length cz) (putF fs ⟨#[99, 97, 99, 104, 101, 45, 99, 111, 110, 116, 114, 111, 108]⟩ t) b a len cap (wd.setCell ⟨r, 1, none⟩ (.slice oz (putF fs ⟨#[99, 97, 99, 104, 101, 45, 99, 111, 110, 116, 114, 111, 108]⟩ t).length cz))) := HDD.out.setFields hcw hrw hrR (owns_wide ownz (by have := HDB.out.grow.size; omega))
      refine hK.out _ _ trivial (fun _ => ?_)
      clear hK K c0 c1 c2 f0 f1 f2 ownz bd HDB
      obtain ⟨⟨c0, c1, c2⟩, f0, f1, f2⟩ := three_facts HDD.out.hr
      refine wpAnyH_takeD (i := 6) (v := .pointer (some ⟨r, 1, none⟩)) (some 20) rfl rfl (by kernel_rfl) (by kernel_rfl) (by kernel_rfl) (fun _ _ _ h => h) (Or.inl ⟨by rfl, by intro W _; go_simp⟩) trivial ?_
      simp only [Act.put, List.setIfInBounds_toArray, List.set_cons_zero, List.set_cons_succ]
      refine wpAnyH_ready (rs := [7]) (by kernel_rfl) (by simp) ?_
      refine AllReadyH.cons rfl (fun K hK => ?_) AllReadyH.nil
      go_simp
      refine hK.out _ _ trivial (fun _ => ?_)
      clear hK K c0 c1 c2 f0 f1 f2 HDD
      refine wpAnyH_done (by kernel_rfl) ?_ _
      have hpl : (putF fs ⟨#[99, 97, 99, 104, 101, 45, 99, 111, 110, 116, 114, 111, 108]⟩ t).length ≤ 40 := by have := putL_len fs ⟨#[99, 97, 99, 104, 101, 45, 99, 111, 110, 116, 114, 111, 108]⟩ t; omega
      have hps : ShortF (putF fs ⟨#[99, 97, 99, 104, 101, 45, 99, 111, 110, 116, 114, 111, 108]⟩ t) := putL_short hsh (by decide) (by omega)
      obtain ⟨PF, hPF⟩ : ∃ P, P = putF fs ⟨#[99, 97, 99, 104, 101, 45, 99, 111, 110, 116, 114, 111, 108]⟩ t := ⟨_, rfl⟩
      rw [← hPF] at hpl hps HDE ⊢
      obtain ⟨np, hnp⟩ : ∃ k, k = PF.length := ⟨_, rfl⟩
      rw [← hnp] at HDE ⊢
      clear hPF hnp
      obtain ⟨⟨c0, c1, c2⟩, f0, f1, f2⟩ := three_facts HDE.out.hr
      obtain ⟨⟨d0, d1, d2⟩, g0, g1, g2⟩ := three_facts HDE.out.hR
      obtain ⟨hh, hfin⟩ := HDE.out.fin (bmax := 14) hcw hRw hm hpl hps (by omega)
      obtain ⟨⟨k0, k1, k2⟩, _⟩ := three_facts hh
      have HFIN : Hid _ := hfin
      unfold threeSet at k0 k1 k2
      clear hh hfin
      go_wp2_with fail
      exact bodyPost_ret (v := .agg #[.int .i64 m, (.slice oz np cz), .string b]) (by simp [results, Tryz.results57, go_sem, k0, k1, k2]) rfl HFIN.out
    · go_simp
      refine hK.out _ _ trivial (fun _ => ?_)
      clear hK K
      refine wpAnyH_ready (rs := [1, 4]) (by kernel_rfl) (by simp) ?_
      refine AllReadyH.cons rfl (fun K hK => ?_) (AllReadyH.cons rfl (fun K hK => ?_) AllReadyH.nil)
      · have c1a : (wy.alloc (.cells #[.string ⟨#[109, 97, 120, 45, 97, 103, 101, 61, 53]⟩, .string ⟨#[109, 97, 120, 45, 97, 103, 101, 61, 50, 48]⟩, .string ⟨#[109, 97, 120, 45, 97, 103, 101, 61, 57]⟩] 9)).cell? ⟨r, 1, none⟩ = some (.slice fo fs.length fc) := (((Below.refl _ wy).alloc (Nat.le_refl _) (.cells #[.string ⟨#[109, 97, 120, 45, 97, 103, 101, 61, 53]⟩, .string ⟨#[109, 97, 120, 45, 97, 103, 101, 61, 50, 48]⟩, .string ⟨#[109, 97, 120, 45, 97, 103, 101, 61, 57]⟩] 9)).cell (p := ⟨r, 1, none⟩) (Array.getElem?_eq_some_iff.1 HDX.out.hr).1).trans (three_facts HDX.out.hr).1.2.1
        go_simp
        refine hK.out _ _ trivial (fun _ => ?_)
        clear hK K c1a
        refine wpAnyH_ready (rs := [4]) (by kernel_rfl) (by simp) ?_
        refine AllReadyH.cons rfl (fun K hK => ?_) AllReadyH.nil
        go_simp
        refine (pick_new c B [⟨#[109, 97, 120, 45, 97, 103, 101, 61, 53]⟩, ⟨#[109, 97, 120, 45, 97, 103, 101, 61, 50, 48]⟩, ⟨#[109, 97, 120, 45, 97, 103, 101, 61, 57]⟩] 10 (by decide) a len cap zs wy HDX.out.cur (HCO.out _ HDX.out.grow) hB (by decide) (by decide)).mono ?_
        rintro e wb ⟨t, rfl, hts, hcub, hgb⟩
        have HDB : Hid (DResp w c R r m (.slice fo fs.length fc) fs b a len cap wb) := HDX.out.later hcw hRw hrw hcub hgb
        refine hK.out _ _ trivial (fun _ => ?_)
        clear hK K hcub hgb
        obtain ⟨⟨c0, c1, c2⟩, f0, f1, f2⟩ := three_facts HDB.out.hr
        refine wpAnyH_ready (rs := [5]) (by kernel_rfl) (by simp) ?_
        refine AllReadyH.cons rfl (fun K hK => ?_) AllReadyH.nil
        go_simp
        refine (specPut_any _ fs.length w.heap.size fs ⟨#[99, 97, 99, 104, 101, 45, 99, 111, 110, 116, 114, 111, 108]⟩ t _ (FieldsV.of_owns HDB.out.own) (by omega)).mono ?_
        rintro e wd ⟨zv, rfl, ownz, bd⟩
        obtain ⟨oz, cz, rfl⟩ := slice_of_owns ownz
        have HDD : Hid (DResp w c R r m (.slice fo fs.length fc) fs b a len cap wd) := HDB.out.later hcw hRw hrw (HDB.out.cur.below bd HDB.out.cur.lt) (grown_below bd _)
        have HDE : Hid (DResp w c R r m (.slice oz (putF fs ⟨#[99, 97, 99, 104, 101, 45, 99, 111, 110, 116, 114, 111, 108]⟩ t).length cz) (putF fs ⟨#[99, 97, 99, 104, 101, 45, 99, 111, 110, 116, 114, 111, 108]⟩ t) b a len cap (wd.setCell ⟨r, 1, none⟩ (.slice oz (putF fs ⟨#[99, 97, 99, 104, 101, 45, 99, 111, 110, 116, 114, 111, 108]⟩ t).length cz))) := HDD.out.setFields hcw hrw hrR (owns_wide ownz (by have := HDB.out.grow.size; omega))
        refine hK.out _ _ trivial (fun _ => ?_)
        clear hK K c0 c1 c2 f0 f1 f2 ownz bd HDB
        obtain ⟨⟨c0, c1, c2⟩, f0, f1, f2⟩ := three_facts HDD.out.hr
        refine wpAnyH_takeD (i := 6) (v := .pointer (some ⟨r, 1, none⟩)) (some 20) rfl rfl (by kernel_rfl) (by kernel_rfl) (by kernel_rfl) (fun _ _ _ h => h) (Or.inl ⟨by rfl, by intro W _; go_simp⟩) trivial ?_
        simp only [Act.put, List.setIfInBounds_toArray, List.set_cons_zero, List.set_cons_succ]
        refine wpAnyH_ready (rs := [7]) (by kernel_rfl) (by simp) ?_
        refine AllReadyH.cons rfl (fun K hK => ?_) AllReadyH.nil
        go_simp
        refine hK.out _ _ trivial (fun _ => ?_)
        clear hK K c0 c1 c2 f0 f1 f2 HDD
        refine wpAnyH_done (by kernel_rfl) ?_ _
        have hpl : (putF fs ⟨#[99, 97, 99, 104, 101, 45, 99, 111, 110, 116, 114, 111, 108]⟩ t).length ≤ 40 := by have := putL_len fs ⟨#[99, 97, 99, 104, 101, 45, 99, 111, 110, 116, 114, 111, 108]⟩ t; omega
        have hps : ShortF (putF fs ⟨#[99, 97, 99, 104, 101, 45, 99, 111, 110, 116, 114, 111, 108]⟩ t) := putL_short hsh (by decide) (by omega)
        obtain ⟨PF, hPF⟩ : ∃ P, P = putF fs ⟨#[99, 97, 99, 104, 101, 45, 99, 111, 110, 116, 114, 111, 108]⟩ t := ⟨_, rfl⟩
        rw [← hPF] at hpl hps HDE ⊢
        obtain ⟨np, hnp⟩ : ∃ k, k = PF.length := ⟨_, rfl⟩
        rw [← hnp] at HDE ⊢
        clear hPF hnp
        obtain ⟨⟨c0, c1, c2⟩, f0, f1, f2⟩ := three_facts HDE.out.hr
        obtain ⟨⟨d0, d1, d2⟩, g0, g1, g2⟩ := three_facts HDE.out.hR
        obtain ⟨hh, hfin⟩ := HDE.out.fin (bmax := 14) hcw hRw hm hpl hps (by omega)
        obtain ⟨⟨k0, k1, k2⟩, _⟩ := three_facts hh
        have HFIN : Hid _ := hfin
        unfold threeSet at k0 k1 k2
        clear hh hfin
        go_wp2_with fail
        exact bodyPost_ret (v := .agg #[.int .i64 m, (.slice oz np cz), .string b]) (by simp [results, Tryz.results57, go_sem, k0, k1, k2]) rfl HFIN.out
      · go_simp
        refine (pick_new c B [⟨#[109, 97, 120, 45, 97, 103, 101, 61, 53]⟩, ⟨#[109, 97, 120, 45, 97, 103, 101, 61, 50, 48]⟩, ⟨#[109, 97, 120, 45, 97, 103, 101, 61, 57]⟩] 10 (by decide) a len cap zs wy HDX.out.cur (HCO.out _ HDX.out.grow) hB (by decide) (by decide)).mono ?_
        rintro e wb ⟨t, rfl, hts, hcub, hgb⟩
        have HDB : Hid (DResp w c R r m (.slice fo fs.length fc) fs b a len cap wb) := HDX.out.later hcw hRw hrw hcub hgb
        refine hK.out _ _ trivial (fun _ => ?_)
        clear hK K hcub hgb
        obtain ⟨⟨c0, c1, c2⟩, f0, f1, f2⟩ := three_facts HDB.out.hr
        refine wpAnyH_ready (rs := [1]) (by kernel_rfl) (by simp) ?_
        refine AllReadyH.cons rfl (fun K hK => ?_) AllReadyH.nil
        go_simp
        refine hK.out _ _ trivial (fun _ => ?_)
        clear hK K
        refine wpAnyH_ready (rs := [5]) (by kernel_rfl) (by simp) ?_
        refine AllReadyH.cons rfl (fun K hK => ?_) AllReadyH.nil
        go_simp
        refine (specPut_any _ fs.length w.heap.size fs ⟨#[99, 97, 99, 104, 101, 45, 99, 111, 110, 116, 114, 111, 108]⟩ t _ (FieldsV.of_owns HDB.out.own) (by omega)).mono ?_
        rintro e wd ⟨zv, rfl, ownz, bd⟩
        obtain ⟨oz, cz, rfl⟩ := slice_of_owns ownz
        have HDD : Hid (DResp w c R r m (.slice fo fs.length fc) fs b a len cap wd) := HDB.out.later hcw hRw hrw (HDB.out.cur.below bd HDB.out.cur.lt) (grown_below bd _)
        have HDE : Hid (DResp w c R r m (.slice oz (putF fs ⟨#[99, 97, 99, 104, 101, 45, 99, 111, 110, 116, 114, 111, 108]⟩ t).length cz) (putF fs ⟨#[99, 97, 99, 104, 101, 45, 99, 111, 110, 116, 114, 111, 108]⟩ t) b a len cap (wd.setCell ⟨r, 1, none⟩ (.slice oz (putF fs ⟨#[99, 97, 99, 104, 101, 45, 99, 111, 110, 116, 114, 111, 108]⟩ t).length cz))) := HDD.out.setFields hcw hrw hrR (owns_wide ownz (by have := HDB.out.grow.size; omega))
        refine hK.out _ _ trivial (fun _ => ?_)
        clear hK K c0 c1 c2 f0 f1 f2 ownz bd HDB
        obtain ⟨⟨c0, c1, c2⟩, f0, f1, f2⟩ := three_facts HDD.out.hr
        refine wpAnyH_takeD (i := 6) (v := .pointer (some ⟨r, 1, none⟩)) (some 20) rfl rfl (by kernel_rfl) (by kernel_rfl) (by kernel_rfl) (fun _ _ _ h => h) (Or.inl ⟨by rfl, by intro W _; go_simp⟩) trivial ?_
        simp only [Act.put, List.setIfInBounds_toArray, List.set_cons_zero, List.set_cons_succ]
        refine wpAnyH_ready (rs := [7]) (by kernel_rfl) (by simp) ?_
        refine AllReadyH.cons rfl (fun K hK => ?_) AllReadyH.nil
        go_simp
        refine hK.out _ _ trivial (fun _ => ?_)
        clear hK K c0 c1 c2 f0 f1 f2 HDD
        refine wpAnyH_done (by kernel_rfl) ?_ _
        have hpl : (putF fs ⟨#[99, 97, 99, 104, 101, 45, 99, 111, 110, 116, 114, 111, 108]⟩ t).length ≤ 40 := by have := putL_len fs ⟨#[99, 97, 99, 104, 101, 45, 99, 111, 110, 116, 114, 111, 108]⟩ t; omega
        have hps : ShortF (putF fs ⟨#[99, 97, 99, 104, 101, 45, 99, 111, 110, 116, 114, 111, 108]⟩ t) := putL_short hsh (by decide) (by omega)
        obtain ⟨PF, hPF⟩ : ∃ P, P = putF fs ⟨#[99, 97, 99, 104, 101, 45, 99, 111, 110, 116, 114, 111, 108]⟩ t := ⟨_, rfl⟩
        rw [← hPF] at hpl hps HDE ⊢
        obtain ⟨np, hnp⟩ : ∃ k, k = PF.length := ⟨_, rfl⟩
        rw [← hnp] at HDE ⊢
        clear hPF hnp
        obtain ⟨⟨c0, c1, c2⟩, f0, f1, f2⟩ := three_facts HDE.out.hr
        obtain ⟨⟨d0, d1, d2⟩, g0, g1, g2⟩ := three_facts HDE.out.hR
        obtain ⟨hh, hfin⟩ := HDE.out.fin (bmax := 14) hcw hRw hm hpl hps (by omega)
        obtain ⟨⟨k0, k1, k2⟩, _⟩ := three_facts hh
        have HFIN : Hid _ := hfin
        unfold threeSet at k0 k1 k2
        clear hh hfin
        go_wp2_with fail
        exact bodyPost_ret (v := .agg #[.int .i64 m, (.slice oz np cz), .string b]) (by simp [results, Tryz.results57, go_sem, k0, k1, k2]) rfl HFIN.out


set_option maxHeartbeats 4000000 in
set_option maxRecDepth 100000 in
theorem l3DrawBadResp_any (c B : Nat) (a : Option Addr) (len cap : Nat) (zs : List Int) (w : World) (hcur : CurAt w c a len cap) (hcode : CodeAt w B a len zs) (hB : B ≤ c) :
    Calls Tryz.prog 33 #[.pointer (some ⟨c, 0, none⟩)] w fun e w' => RespDrawn 140 w c a len cap e w' := by
  have hcw := hcur.lt
  have HCO : Hid (∀ W, w.grownBy W (some c) → CodeAt W B a len zs) := fun W h => hcode.grown h hB
  obtain ⟨R, hR⟩ : ∃ R, R = w.heap.size := ⟨_, rfl⟩
  have hg0 : w.grownBy (w.alloc (.cells #[.int .i64 0, .slice none 0 0, .string ⟨#[]⟩] 28)) (some c) := World.grownBy_alloc w _ _
  have hcu0 := hcur.below ((Below.refl _ w).alloc (Nat.le_refl _) (.cells #[.int .i64 0, .slice none 0 0, .string ⟨#[]⟩] 28)) hcw
  have hco0 := HCO.out _ hg0
  have hz0' : (w.alloc (.cells #[.int .i64 0, .slice none 0 0, .string ⟨#[]⟩] 28)).heap[R]? = some (.cells #[.int .i64 0, .slice none 0 0, .string ⟨#[]⟩] 28) := by rw [hR]; exact heap_alloc_new w _
  have hRlt : R < (w.alloc (.cells #[.int .i64 0, .slice none 0 0, .string ⟨#[]⟩] 28)).heap.size := by rw [hR]; simp
  have hRc : R ≠ c := by omega
  have hRw : w.heap.size ≤ R := by omega
  have HRE : Hid (R = w.heap.size) := hR
  obtain ⟨w0, hw0⟩ : ∃ W, W = w.alloc (.cells #[.int .i64 0, .slice none 0 0, .string ⟨#[]⟩] 28) := ⟨_, rfl⟩
  have HW0 : Hid (w0 = w.alloc (.cells #[.int .i64 0, .slice none 0 0, .string ⟨#[]⟩] 28)) := hw0
  have HS0 : Hid (w0.heap.size = w.heap.size + 1) := by show _ = _; rw [hw0]; simp
  rw [← hw0] at hg0 hcu0 hco0 hz0' hRlt
  clear hcur hcode hR hw0
  go_enter Tryz.func33, Tryz.ntmps33
  go_wp2_with fail
  rw [← HW0.out]
  refine (l3DrawResp_any c B a len cap zs _ hcu0 hco0 hB).mono ?_
  rintro e w1 ⟨m, fv, fs, b, rfl, hm, hown, hfl, hsh, hb, hcu1, hg1⟩
  obtain ⟨fo, fc, rfl⟩ := slice_of_owns hown
  have hz1' : w1.heap[R]? = some (.cells #[.int .i64 0, .slice none 0 0, .string ⟨#[]⟩] 28) := by rw [hg1.block R hRlt (fun e => hRc (Option.some.inj e))]; exact hz0'
  have hR1 : R < w1.heap.size := (Array.getElem?_eq_some_iff.1 hz1').1
  have hga1 := grownBy_trans hg0 hg1
  have hs0 := HS0.out
  obtain ⟨r, hr⟩ : ∃ r, r = w1.heap.size := ⟨_, rfl⟩
  have hrw : w.heap.size ≤ r := by rw [hr]; exact hga1.size
  have hrR : R ≠ r := by omega
  have HD0 : Hid (DResp w c R r m (.slice fo fs.length fc) fs b a len cap (w1.alloc (.cells #[.int .i64 m, .slice fo fs.length fc, .string b] 28))) := by
    have hgal : w1.grownBy (w1.alloc (.cells #[.int .i64 m, .slice fo fs.length fc, .string b] 28)) (some c) := World.grownBy_alloc w1 _ _
    refine ⟨?_, by rw [hr]; exact heap_alloc_new w1 _, (owns_wide hown (by omega)).alloc _, hcu1.below ((Below.refl _ w1).alloc (Nat.le_refl _) _) hcu1.lt, grownBy_trans hga1 hgal, fun j hj => ⟨by have := owns_ge hown hj; omega, by have := owns_lt hown hj; omega⟩⟩
    rw [hgal.block R hR1 (fun e => hRc (Option.some.inj e))]; exact hz1'
  have HR' : Hid (r = w1.heap.size) := hr
  obtain ⟨wv, hwv⟩ : ∃ W, W = w1.alloc (.cells #[.int .i64 m, .slice fo fs.length fc, .string b] 28) := ⟨_, rfl⟩
  have HWV : Hid (wv = w1.alloc (.cells #[.int .i64 m, .slice fo fs.length fc, .string b] 28)) := hwv
  rw [← hwv] at HD0
  rw [← HRE.out]
  clear hr hz1' hR1 hcu1 hga1 hwv hown hg1 hg0 hcu0 hco0 hz0' hRlt hs0
  go_wp2_with fail
  rw [← HR'.out, ← HWV.out]
  refine (l1Below_any c B 20 a len cap zs _ HD0.out.cur (HCO.out _ HD0.out.grow) hB (by omega) (by omega)).mono ?_
  rintro e wa ⟨x, rfl, hx0, hx1, hcua, hgaa⟩
  have hda : Hid (DResp w c R r m (.slice fo fs.length fc) fs b a len cap wa) := HD0.out.later hcw hRw hrw hcua hgaa
  clear hcua hgaa HD0 HWV HR' HW0 HS0 HRE
  obtain ⟨⟨c0, c1, c2⟩, f0, f1, f2⟩ := three_facts hda.out.hr
  obtain ⟨⟨d0, d1, d2⟩, g0, g1, g2⟩ := three_facts hda.out.hR
  by_cases x0 : x = 0
  · subst x0
    have hwas : wa.heap.size = wa.heap.size := rfl
    go_wp2_with fail
    refine (pickInt_new c B [99, 100, 599, 600, -1] (-1) 600 (by decide) a len cap zs wa hda.out.cur (HCO.out _ hda.out.grow) hB (by decide) (by decide)).mono ?_
    rintro e wb ⟨y, rfl, hy0, hy1, hcub, hgb⟩
    have hdb : Hid (DResp w c R r m (.slice fo fs.length fc) fs b a len cap wb) := hda.out.later hcw hRw hrw hcub hgb
    have hdc : Hid (DResp w c R r y (.slice fo fs.length fc) fs b a len cap (wb.setCell ⟨r, 0, none⟩ (.int .i64 y))) := hdb.out.setStatus (m' := y) hcw hrw hrR
    clear c0 c1 c2 f0 f1 f2 d0 d1 d2 g0 g1 g2 hcub hgb hda hwas
    obtain ⟨⟨c0, c1, c2⟩, f0, f1, f2⟩ := three_facts hdb.out.hr
    obtain ⟨⟨i0, i1, i2⟩, j0, j1, j2⟩ := three_facts hdc.out.hr
    obtain ⟨⟨d0, d1, d2⟩, g0, g1, g2⟩ := three_facts hdc.out.hR
    obtain ⟨hh, hfin⟩ := hdc.out.fin (bmax := 140) hcw hRw ⟨by omega, by omega⟩ hfl hsh (by omega)
    obtain ⟨⟨k0, k1, k2⟩, _⟩ := three_facts hh
    have HFIN : Hid _ := hfin
    unfold threeSet at k0 k1 k2
    clear hh hfin
    go_wp2_with fail
    exact bodyPost_ret (v := .agg #[.int .i64 y, (.slice fo fs.length fc), .string b]) (by simp [results, Tryz.results33, go_sem, k0, k1, k2]) rfl HFIN.out
  · by_cases x1 : x = 1
    · subst x1
      go_wp2_with fail
      refine (l2Draw_any c B a len cap zs _ hda.out.cur (HCO.out _ hda.out.grow) hB).mono ?_
      rintro e wb ⟨gv, gs, rfl, howng, hgl, hgsh, hcub, hgb⟩
      obtain ⟨go, gc, rfl⟩ := slice_of_owns howng
      have hdb : Hid (DResp w c R r m (.slice fo fs.length fc) fs b a len cap wb) := hda.out.later hcw hRw hrw hcub hgb
      have hdc : Hid (DResp w c R r m (.slice go gs.length gc) gs b a len cap (wb.setCell ⟨r, 1, none⟩ (.slice go gs.length gc))) := hdb.out.setFields hcw hrw hrR (owns_wide howng (by have := hda.out.grow.size; omega))
      clear c0 c1 c2 f0 f1 f2 d0 d1 d2 g0 g1 g2 hcub hgb hda howng
      obtain ⟨⟨c0, c1, c2⟩, f0, f1, f2⟩ := three_facts hdb.out.hr
      obtain ⟨⟨i0, i1, i2⟩, j0, j1, j2⟩ := three_facts hdc.out.hr
      obtain ⟨⟨d0, d1, d2⟩, g0, g1, g2⟩ := three_facts hdc.out.hR
      obtain ⟨hh, hfin⟩ := hdc.out.fin (bmax := 140) hcw hRw hm hgl hgsh (by omega)
      obtain ⟨⟨k0, k1, k2⟩, _⟩ := three_facts hh
      have HFIN : Hid _ := hfin
      unfold threeSet at k0 k1 k2
      clear hh hfin
      go_wp2_with fail
      exact bodyPost_ret (v := .agg #[.int .i64 m, (.slice go gs.length gc), .string b]) (by simp [results, Tryz.results33, go_sem, k0, k1, k2]) rfl HFIN.out
    · by_cases x2 : x = 2
      · subst x2
        clear c0 c1 c2 f0 f1 f2 d0 d1 d2 g0 g1 g2
        go_wp2_with fail
        go_loopw [] (fun wr => ∃ b2 : ByteArray, b2.size ≤ 121 ∧ Hid (DResp w c R r m (.slice fo fs.length fc) fs b2 a len cap wr)) (fun wr => 122 - bodyLenP r wr)
        case atStart => exact ⟨b, by omega, hda⟩
        case round =>
          obtain ⟨b2, hb2, hdr⟩ := hrel
          have hdw : Hid (DResp w c R r m (.slice fo fs.length fc) fs b2 a len cap wr.drew) := hdr.out.later hcw hRw hrw hdr.out.cur (grown_below ((Below.refl _ wr).drew) _)
          obtain ⟨⟨c0, c1, c2⟩, f0, f1, f2⟩ := three_facts hdr.out.hr
          have HL0 : Hid (bodyLenP r wr = b2.size) := by show _ = _; unfold bodyLenP; rw [c2]
          have HA : Hid (∀ wb, CurAt wb c a len cap → wr.drew.grownBy wb (some c) → wb.cell? ⟨r, 2, none⟩ = some (.string b2) ∧ Hid (DResp w c R r m (.slice fo fs.length fc) fs b2 a len cap wb)) := fun wb h1 h2 => by
            have h3 := hdw.out.later hcw hRw hrw h1 h2
            exact ⟨(three_facts h3.hr).1.2.2, h3⟩
          clear c0 c1 f0 f1 f2
          go_wp2_with fail
          go_region_held3 (fun W => W.cell? ⟨r, 2, none⟩ = some (.string b2)) (first | assumption | go_keep) (first | (go_at_call 58; refine (l1Below_any c B 2 a len cap zs _ hdw.out.cur (HCO.out _ hdw.out.grow) hB (by omega) (by omega)).mono ?_; rintro e wb ⟨y, rfl, hy0, hy1, hcub, hgb⟩; obtain ⟨hcb3, hdb⟩ := HA.out wb hcub hgb; have hwy : IntKind.i64.wrap (120 + y) = 120 + y := by rw [IntKind.wrap_i64]; omega))
          clear hcub hgb hdw HA c2
          have hdc : Hid (DResp w c R r m (.slice fo fs.length fc) fs (b2 ++ ⟨#[98]⟩) a len cap (wb.setCell ⟨r, 2, none⟩ (.string (b2 ++ ⟨#[98]⟩)))) := hdb.out.setBody (b' := b2 ++ (⟨#[98]⟩ : ByteArray)) hcw hrw hrR
          obtain ⟨⟨c0, c1, c2⟩, f0, f1, f2⟩ := three_facts hdb.out.hr
          obtain ⟨⟨d0, d1, d2⟩, g0, g1, g2⟩ := three_facts hdb.out.hR
          have e98 : (⟨#[98]⟩ : ByteArray).size = 1 := rfl
          by_cases hlt : (b2.size : Int) < 120 + y
          · have HL1 : Hid (bodyLenP r (wb.setCell ⟨r, 2, none⟩ (.string (b2 ++ ⟨#[98]⟩))) = b2.size + 1) := by
              show _ = _
              have := (three_facts hdc.out.hr).1.2.2
              unfold bodyLenP; rw [this]; simp only [ByteArray.size_append]; omega
            have q1 : ¬ 9223372036854775807 < b2.size + 1 := by omega
            clear d0 d1 d2 g0 g1 g2
            go_wp2
            go_roundw
            case rel => exact ⟨_, by simp only [ByteArray.size_append]; omega, hdc⟩
            case measure => rw [HL1.out, HL0.out]; omega
          · have hdec : decide ((b2.size : Int) < 120 + y) = false := by simpa using hlt
            clear hdc hdr hda HL0
            obtain ⟨hh, hfin⟩ := hdb.out.fin (bmax := 140) hcw hRw hm hfl hsh (by omega)
            obtain ⟨⟨k0, k1, k2⟩, _⟩ := three_facts hh
            have HFIN : Hid _ := hfin
            unfold threeSet at k0 k1 k2
            clear hh hfin
            go_wp2_with fail
            exact bodyPost_ret (v := .agg #[.int .i64 m, (.slice fo fs.length fc), .string b2]) (by simp [results, Tryz.results33, go_sem, k0, k1, k2]) rfl HFIN.out
      · have e0 : (x == 0) = false := by rw [beq_eq_false_iff_ne]; exact x0
        have e1 : (x == 1) = false := by rw [beq_eq_false_iff_ne]; exact x1
        have e2 : (x == 2) = false := by rw [beq_eq_false_iff_ne]; exact x2
        obtain ⟨hh, hfin⟩ := hda.out.fin (bmax := 140) hcw hRw hm hfl hsh (by omega)
        obtain ⟨⟨k0, k1, k2⟩, _⟩ := three_facts hh
        have HFIN : Hid _ := hfin
        unfold threeSet at k0 k1 k2
        clear hh hfin
        go_wp2_with fail
        exact bodyPost_ret (v := .agg #[.int .i64 m, (.slice fo fs.length fc), .string b]) (by simp [results, Tryz.results33, go_sem, k0, k1, k2]) rfl HFIN.out


end Go.Proofs.YthlmnmbhgkmbfaaGreatDoor

namespace Go.Proofs.YthlmnmbhgkmbfaaGreatDoor
open Go.RowKit
open Go.Lib hiding intOf

/-- A request and an answer are drawn. -/
def DrawnQP (w : World) (e : Ending) (w' : World) : Prop :=
  ∃ (m : Int) (p : ByteArray) (v : Value) (fs : List (ByteArray × ByteArray)) (b : ByteArray) (st : Int) (u : Value) (gs : List (ByteArray × ByteArray)) (d : ByteArray),
    e = .returned (.tuple #[.agg #[.int .i64 m, .string p, v, .string b], .agg #[.int .i64 st, u, .string d]]) ∧ (-1000 ≤ m ∧ m ≤ 1000) ∧ p.size ≤ 64 ∧ w'.ownsRow w.heap.size 67 2 v fs.length (flatF fs) ∧ fs.length ≤ 40 ∧ ShortF fs ∧ b.size ≤ 140 ∧
    (-1000 ≤ st ∧ st ≤ 1000) ∧ w'.ownsRow w.heap.size 67 2 u gs.length (flatF gs) ∧ gs.length ≤ 40 ∧ ShortF gs ∧ d.size ≤ 140 ∧ (∀ j, v.ownBlock = some j → u.ownBlock ≠ some j) ∧ Below w.heap.size w w'

theorem four_other (W : World) (r j : Nat) (a b c d : Value) (h : j ≠ r) : (fourSet W r a b c d).heap[j]? = W.heap[j]? := by
  unfold fourSet
  rw [heap_setCell_other _ _ j _ h, heap_setCell_other _ _ j _ h, heap_setCell_other _ _ j _ h, heap_setCell_other _ _ j _ h]
theorem three_otherD (W : World) (r j : Nat) (a b c : Value) (h : j ≠ r) : (threeSet W r a b c).heap[j]? = W.heap[j]? := by
  unfold threeSet
  rw [heap_setCell_other _ _ j _ h, heap_setCell_other _ _ j _ h, heap_setCell_other _ _ j _ h]

set_option maxHeartbeats 2000000 in
set_option maxRecDepth 100000 in
theorem l9Draw_any (a : Option Addr) (len cap : Nat) (zs : List Int) (w : World) (hcode : CodeAt w w.heap.size a len zs) :
    Calls Tryz.prog 15 #[.slice a len cap] w fun e w' => DrawnQP w e w' := by
  obtain ⟨R, hR⟩ : ∃ R, R = w.heap.size := ⟨_, rfl⟩
  have HRE : Hid (w.heap.size = R) := hR.symm
  obtain ⟨W0, hW0⟩ : ∃ W, W = (w.alloc (.cells #[.int .i64 0, .string ⟨#[]⟩, .slice none 0 0, .string ⟨#[]⟩] 26)).alloc (.cells #[.int .i64 0, .slice none 0 0, .string ⟨#[]⟩] 28) := ⟨_, rfl⟩
  have HW0 : Hid ((w.alloc (.cells #[.int .i64 0, .string ⟨#[]⟩, .slice none 0 0, .string ⟨#[]⟩] 26)).alloc (.cells #[.int .i64 0, .slice none 0 0, .string ⟨#[]⟩] 28) = W0) := hW0.symm
  have hs0 : W0.heap.size = R + 1 + 1 := by rw [hW0, hR]; simp
  have b0 : Below R w W0 := by rw [hW0, hR]; exact ((Below.refl _ w).alloc (Nat.le_refl _) _).alloc (by simp) _
  have H0 : Hid (W0.heap[R]? = some (.cells #[.int .i64 0, .string ⟨#[]⟩, .slice none 0 0, .string ⟨#[]⟩] 26) ∧ W0.heap[R + 1]? = some (.cells #[.int .i64 0, .slice none 0 0, .string ⟨#[]⟩] 28)) := by
    have s1 : (w.alloc (.cells #[.int .i64 0, .string ⟨#[]⟩, .slice none 0 0, .string ⟨#[]⟩] 26)).heap.size = R + 1 := by rw [hR]; simp
    have e0 := heap_alloc_new w (.cells #[.int .i64 0, .string ⟨#[]⟩, .slice none 0 0, .string ⟨#[]⟩] 26)
    have e1 := heap_alloc_new (w.alloc (.cells #[.int .i64 0, .string ⟨#[]⟩, .slice none 0 0, .string ⟨#[]⟩] 26)) (.cells #[.int .i64 0, .slice none 0 0, .string ⟨#[]⟩] 28)
    rw [← hR] at e0
    rw [s1, ← hW0] at e1
    have c1 : Below (R + 1) (w.alloc (.cells #[.int .i64 0, .string ⟨#[]⟩, .slice none 0 0, .string ⟨#[]⟩] 26)) W0 := by rw [hW0, ← s1]; exact (Below.refl _ _).alloc (Nat.le_refl _) _
    exact ⟨by rw [c1.block R (by omega)]; exact e0, e1⟩
  have HCO : Hid (∀ W, Below R w W → CodeAt W R a len zs) := by rw [hR]; exact fun W h => hcode.below h
  obtain ⟨c, hc⟩ : ∃ c, c = W0.heap.size := ⟨_, rfl⟩
  have hcR : R + 1 < c := by omega
  have hco0 := HCO.out W0 b0
  have HB0 : Hid (Below R w W0) := b0
  clear hW0 hcode b0 hs0
  go_enter Tryz.func15, Tryz.ntmps15
  go_upto_region 1 with fail
  rw [HW0.out, ← hR]
  clear hR HW0
  go_wp2_with fail
  refine (l1New_any R a len cap zs _ hco0).mono ?_
  rintro e w1 ⟨rfl, hcu1, b1⟩
  rw [← hc] at hcu1 b1 ⊢
  have HB1 : Hid (Below R w w1) := HB0.out.trans (b1.mono (by omega))
  have H1 : Hid (w1.heap[R]? = some (.cells #[.int .i64 0, .string ⟨#[]⟩, .slice none 0 0, .string ⟨#[]⟩] 26) ∧ w1.heap[R + 1]? = some (.cells #[.int .i64 0, .slice none 0 0, .string ⟨#[]⟩] 28)) := ⟨by rw [b1.block R (by omega)]; exact H0.out.1, by rw [b1.block (R + 1) (by omega)]; exact H0.out.2⟩
  have hl1 := hcu1.lt
  clear b1 H0 HB0 hco0 hc
  go_wp2_with fail
  refine (l3DrawBadReq_any c R a len cap zs _ hcu1 (HCO.out _ HB1.out) (by omega)).mono ?_
  rintro e w2 ⟨m, p, fv, fs, b, rfl, hm, hp, hown, hfl, hsh, hb, hcu2, hg2⟩
  obtain ⟨fo, fc, rfl⟩ := slice_of_owns hown
  have hl2 := hg2.size
  have HB2 : Hid (Below R w w2) := HB1.out.grown hg2 (by omega) (by intro k hk; cases hk; omega)
  have H2 : Hid (w2.heap[R]? = some (.cells #[.int .i64 0, .string ⟨#[]⟩, .slice none 0 0, .string ⟨#[]⟩] 26) ∧ w2.heap[R + 1]? = some (.cells #[.int .i64 0, .slice none 0 0, .string ⟨#[]⟩] 28)) := ⟨by rw [hg2.block R (by omega) (fun e => by have := Option.some.inj e; omega)]; exact H1.out.1, by rw [hg2.block (R + 1) (by omega) (fun e => by have := Option.some.inj e; omega)]; exact H1.out.2⟩
  obtain ⟨r, hr⟩ : ∃ r, r = w2.heap.size := ⟨_, rfl⟩
  obtain ⟨s1, hs1⟩ : ∃ s, s = w1.heap.size := ⟨_, rfl⟩
  rw [← hs1] at hown hl1 hl2
  obtain ⟨w3, hw3⟩ : ∃ W, W = w2.alloc (.cells #[.int .i64 m, .string p, .slice fo fs.length fc, .string b] 26) := ⟨_, rfl⟩
  have HW3 : Hid (w2.alloc (.cells #[.int .i64 m, .string p, .slice fo fs.length fc, .string b] 26) = w3) := hw3.symm
  have b3 : Below w2.heap.size w2 w3 := by rw [hw3]; exact (Below.refl _ _).alloc (Nat.le_refl _) _
  have HQ3 : Hid (w3.heap[r]? = some (.cells #[.int .i64 m, .string p, .slice fo fs.length fc, .string b] 26)) := by show _ = _; rw [hw3, hr]; exact heap_alloc_new w2 _
  have HO3 : Hid (w3.ownsRow s1 67 2 (.slice fo fs.length fc) fs.length (flatF fs)) := owns_same hown (fun j hj => b3.block j (owns_lt hown hj))
  have HHI : Hid (∀ j, (Value.slice fo fs.length fc).ownBlock = some j → j < r) := fun j hj => by rw [hr]; exact owns_lt hown hj
  have HB3 : Hid (Below R w w3) := HB2.out.trans (b3.mono (by omega))
  have H3 : Hid (w3.heap[R]? = some (.cells #[.int .i64 0, .string ⟨#[]⟩, .slice none 0 0, .string ⟨#[]⟩] 26) ∧ w3.heap[R + 1]? = some (.cells #[.int .i64 0, .slice none 0 0, .string ⟨#[]⟩] 28)) := ⟨by rw [b3.block R (by omega)]; exact H2.out.1, by rw [b3.block (R + 1) (by omega)]; exact H2.out.2⟩
  have hcu3 := hcu2.below b3 (by have := hcu2.lt; omega)
  have hrs : s1 ≤ r := by omega
  obtain ⟨⟨c0, c1, c2, c3⟩, _⟩ := four_facts HQ3.out
  clear hcu1 hcu2 hg2 hown H1 H2 HB1 HB2 hw3 b3 hs1
  go_upto_region 3 with fail
  rw [HW3.out, ← hr]
  clear hr HW3
  refine wp_region_held_drew (S := fun W => W.cell? ⟨r, 0, none⟩ = some (.int .i64 m) ∧ W.cell? ⟨r, 1, none⟩ = some (.string p) ∧ W.cell? ⟨r, 2, none⟩ = some (.slice fo fs.length fc) ∧ W.cell? ⟨r, 3, none⟩ = some (.string b)) (by kernel_rfl) ⟨c0, c1, c2, c3⟩ (fun hS0 => ?_)
  refine wpAnyH_takeD (i := 0) (v := .agg #[.int .i64 m, .string p, .slice fo fs.length fc, .string b]) (some 10) rfl rfl (by kernel_rfl) (by kernel_rfl) (by kernel_rfl) (fun _ _ _ h => h) (Or.inl ⟨by rfl, by intro W hW; obtain ⟨h1, h2, h3, h4⟩ := hW; go_simp⟩) hS0 ?_
  simp only [Act.put, List.setIfInBounds_toArray, List.set_cons_zero, List.set_cons_succ]
  refine wpAnyH_takeD (i := 1) (v := .pointer (some ⟨c, 0, none⟩)) (some 11) rfl rfl (by kernel_rfl) (by kernel_rfl) (by kernel_rfl) (fun _ _ _ h => h) (Or.inl ⟨by rfl, by intro W _; go_simp⟩) hS0 ?_
  simp only [Act.put, List.setIfInBounds_toArray, List.set_cons_zero, List.set_cons_succ]
  refine wpAnyH_ready (rs := [2]) (by kernel_rfl) (by simp) ?_
  refine AllReadyH.cons rfl (fun K hK => ?_) AllReadyH.nil
  go_simp
  refine (l3DrawBadResp_any c R a len cap zs _ (hcu3.below (Below.refl _ w3).drew hcu3.lt) (HCO.out _ HB3.out.drew) (by omega)).mono ?_
  rintro e w4 ⟨st, gv, gs, d, rfl, hst, hown4, hgl, hgsh, hd, _, hg4⟩
  obtain ⟨go, gc, rfl⟩ := slice_of_owns hown4
  have hl3 := hcu3.lt
  have hq3 : r < w3.heap.size := (Array.getElem?_eq_some_iff.1 HQ3.out).1
  have hzs : w3.drew.heap.size = w3.heap.size := rfl
  have HQ4 : Hid (w4.heap[r]? = some (.cells #[.int .i64 m, .string p, .slice fo fs.length fc, .string b] 26)) := by show _ = _; rw [hg4.block r (by omega) (fun e => by have := Option.some.inj e; omega)]; exact HQ3.out
  have H4 : Hid (w4.heap[R]? = some (.cells #[.int .i64 0, .string ⟨#[]⟩, .slice none 0 0, .string ⟨#[]⟩] 26) ∧ w4.heap[R + 1]? = some (.cells #[.int .i64 0, .slice none 0 0, .string ⟨#[]⟩] 28)) := ⟨by rw [hg4.block R (by omega) (fun e => by have := Option.some.inj e; omega)]; exact H3.out.1, by rw [hg4.block (R + 1) (by omega) (fun e => by have := Option.some.inj e; omega)]; exact H3.out.2⟩
  have HO4 : Hid (w4.ownsRow s1 67 2 (.slice fo fs.length fc) fs.length (flatF fs)) := owns_grown (owns_same (w' := w3.drew) HO3.out (fun j hj => rfl)) hg4 (by omega)
  have HP4 : Hid (w4.ownsRow w3.heap.size 67 2 (.slice go gs.length gc) gs.length (flatF gs)) := hown4
  have HB4 : Hid (Below R w w4) := HB3.out.drew.grown hg4 (by omega) (by intro k hk; cases hk; omega)
  have HRS : Hid (R + 1 < s1 ∧ r < w3.heap.size ∧ s1 ≤ r) := ⟨by omega, hq3, hrs⟩
  obtain ⟨Y, hY⟩ : ∃ Y, Y = fourSet w4 R (.int .i64 m) (.string p) (.slice fo fs.length fc) (.string b) := ⟨_, rfl⟩
  have HY : Hid (((((w4.setCell ⟨R, 0, none⟩ (.int .i64 m)).setCell ⟨R, 1, none⟩ (.string p)).setCell ⟨R, 2, none⟩ (.slice fo fs.length fc)).setCell ⟨R, 3, none⟩ (.string b)) = Y) := hY.symm
  have HYZ : Hid (Y.heap[R + 1]? = some (.cells #[.int .i64 0, .slice none 0 0, .string ⟨#[]⟩] 28)) := by show _ = _; rw [hY, four_other _ _ _ _ _ _ _ (by omega)]; exact H4.out.2
  have HYR : Hid (Y.heap[R]? = some (.cells #[.int .i64 m, .string p, (.slice fo fs.length fc), .string b] 26)) := by show _ = _; rw [hY]; exact four_set H4.out.1 _ _ _ _
  have HYQ : Hid (Y.heap[r]? = some (.cells #[.int .i64 m, .string p, (.slice fo fs.length fc), .string b] 26)) := by show _ = _; rw [hY, four_other _ _ _ _ _ _ _ (by omega)]; exact HQ4.out
  obtain ⟨U, hU⟩ : ∃ U, U = threeSet Y (R + 1) (.int .i64 st) (.slice go gs.length gc) (.string d) := ⟨_, rfl⟩
  have HU : Hid ((((Y.setCell ⟨R + 1, 0, none⟩ (.int .i64 st)).setCell ⟨R + 1, 1, none⟩ (.slice go gs.length gc)).setCell ⟨R + 1, 2, none⟩ (.string d)) = U) := hU.symm
  have HUR : Hid (U.heap[R]? = some (.cells #[.int .i64 m, .string p, (.slice fo fs.length fc), .string b] 26)) := by show _ = _; rw [hU, three_otherD _ _ _ _ _ _ (by omega)]; exact HYR.out
  have HUP : Hid (U.heap[R + 1]? = some (.cells #[.int .i64 st, (.slice go gs.length gc), .string d] 28)) := by show _ = _; rw [hU]; exact three_set HYZ.out _ _ _
  have HUQ : Hid (U.heap[r]? = some (.cells #[.int .i64 m, .string p, (.slice fo fs.length fc), .string b] 26)) := by show _ = _; rw [hU, three_otherD _ _ _ _ _ _ (by omega)]; exact HYQ.out
  have HFB : Hid (Below R w U) := by show Below _ _ _; rw [hU, hY]; exact below_three (below_four HB4.out (Nat.le_refl _)) (by omega)
  have HUO : Hid (∀ j, j ≠ R → j ≠ R + 1 → U.heap[j]? = w4.heap[j]?) := fun j h1 h2 => by rw [hU, three_otherD _ _ _ _ _ _ h2, hY, four_other _ _ _ _ _ _ _ h1]
  have HFIN : Hid (DrawnQP w (.returned (.tuple #[.agg #[.int .i64 m, .string p, (.slice fo fs.length fc), .string b], .agg #[.int .i64 st, (.slice go gs.length gc), .string d]])) U) := by
    obtain ⟨z1, z2, z3⟩ := HRS.out
    refine ⟨m, p, _, fs, b, st, _, gs, d, rfl, hm, hp, ?_, hfl, hsh, hb, hst, ?_, hgl, hgsh, hd, ?_, by rw [HRE.out]; exact HFB.out⟩
    · rw [HRE.out]
      refine owns_same (owns_wide HO4.out (by omega)) (fun j hj => ?_)
      have := owns_ge HO4.out hj
      exact HUO.out j (by omega) (by omega)
    · rw [HRE.out]
      refine owns_same (owns_wide HP4.out (by omega)) (fun j hj => ?_)
      have := owns_ge HP4.out hj
      exact HUO.out j (by omega) (by omega)
    · intro j hj e
      have h1 := HHI.out j hj
      have h2 := owns_ge HP4.out e
      omega
  have hS4 := (four_facts HQ4.out).1
  have hSY := (four_facts HYQ.out).1
  have hSU := (four_facts HUQ.out).1
  refine hK.out _ _ hS4 (fun _ => ?_)
  clear hK K c0 c1 c2 c3 hS0 hY hU HO3 HO4 HP4 HB3 HB4 HQ3 HQ4 HYQ HUQ hown4 hg4 hcu3 hzs HUO HFB HHI HRS HCO H3
  refine wpAnyH_ready (rs := [3]) (by kernel_rfl) (by simp) ?_
  refine AllReadyH.cons rfl (fun K hK => ?_) AllReadyH.nil
  obtain ⟨⟨x0, x1, x2, x3⟩, y0, y1, y2, y3⟩ := four_facts H4.out.1
  go_simp
  rw [HY.out]
  refine hK.out _ _ hSY (fun _ => ?_)
  clear hK K x0 x1 x2 x3 y0 y1 y2 y3 H4 hS4 HY
  refine wpAnyH_ready (rs := [4]) (by kernel_rfl) (by simp) ?_
  refine AllReadyH.cons rfl (fun K hK => ?_) AllReadyH.nil
  obtain ⟨⟨x0, x1, x2⟩, y0, y1, y2⟩ := three_facts HYZ.out
  go_simp
  rw [HU.out]
  refine hK.out _ _ hSU (fun _ => ?_)
  clear hK K x0 x1 x2 y0 y1 y2 hSY hSU HU HYZ HYR
  refine wpAnyH_done (by kernel_rfl) ?_ _
  obtain ⟨⟨k0, k1, k2, k3⟩, _⟩ := four_facts HUR.out
  obtain ⟨⟨k4, k5, k6⟩, _⟩ := three_facts HUP.out
  go_wp2_with fail
  exact bodyPost_ret (v := .tuple #[.agg #[.int .i64 m, .string p, (.slice fo fs.length fc), .string b], .agg #[.int .i64 st, (.slice go gs.length gc), .string d]]) (by simp [results, Tryz.results15, go_sem, k0, k1, k2, k3, k4, k5, k6]) rfl HFIN.out

end Go.Proofs.YthlmnmbhgkmbfaaGreatDoor
