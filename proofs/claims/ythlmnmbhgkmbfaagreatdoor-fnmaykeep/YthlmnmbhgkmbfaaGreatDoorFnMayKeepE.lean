/- What the proof of FnMayKeep leans on: contracts of the program's and the specification's functions, and plain facts (part 5 of 5). -/
import Derived.Test.YthlmnmbhgkmbfaaGreatDoorFnMayKeepD
namespace Go.Proofs.YthlmnmbhgkmbfaaGreatDoor
open Go.RowKit
open Go.Lib hiding intOf

/-- Two answers are drawn. -/
def DrawnPP (w : World) (e : Ending) (w' : World) : Prop :=
  ∃ (m : Int) (v : Value) (fs : List (ByteArray × ByteArray)) (b : ByteArray) (st : Int) (u : Value) (gs : List (ByteArray × ByteArray)) (d : ByteArray),
    e = .returned (.tuple #[.agg #[.int .i64 m, v, .string b], .agg #[.int .i64 st, u, .string d]]) ∧ (-1000 ≤ m ∧ m ≤ 1000) ∧ w'.ownsRow w.heap.size 67 2 v fs.length (flatF fs) ∧ fs.length ≤ 40 ∧ ShortF fs ∧ b.size ≤ 140 ∧
    (-1000 ≤ st ∧ st ≤ 1000) ∧ w'.ownsRow w.heap.size 67 2 u gs.length (flatF gs) ∧ gs.length ≤ 40 ∧ ShortF gs ∧ d.size ≤ 140 ∧ (∀ j, v.ownBlock = some j → u.ownBlock ≠ some j) ∧ Below w.heap.size w w'

set_option maxHeartbeats 2000000 in
set_option maxRecDepth 100000 in
theorem drawMerge_any (a : Option Addr) (len cap : Nat) (zs : List Int) (w : World) (hcode : CodeAt w w.heap.size a len zs) :
    Calls Tryz.prog 11 #[.slice a len cap] w fun e w' => DrawnPP w e w' := by
  obtain ⟨R, hR⟩ : ∃ R, R = w.heap.size := ⟨_, rfl⟩
  have HRE : Hid (w.heap.size = R) := hR.symm
  obtain ⟨W0, hW0⟩ : ∃ W, W = (w.alloc (.cells #[.int .i64 0, .slice none 0 0, .string ⟨#[]⟩] 28)).alloc (.cells #[.int .i64 0, .slice none 0 0, .string ⟨#[]⟩] 28) := ⟨_, rfl⟩
  have HW0 : Hid ((w.alloc (.cells #[.int .i64 0, .slice none 0 0, .string ⟨#[]⟩] 28)).alloc (.cells #[.int .i64 0, .slice none 0 0, .string ⟨#[]⟩] 28) = W0) := hW0.symm
  have hs0 : W0.heap.size = R + 1 + 1 := by rw [hW0, hR]; simp
  have b0 : Below R w W0 := by rw [hW0, hR]; exact ((Below.refl _ w).alloc (Nat.le_refl _) _).alloc (by simp) _
  have H0 : Hid (W0.heap[R]? = some (.cells #[.int .i64 0, .slice none 0 0, .string ⟨#[]⟩] 28) ∧ W0.heap[R + 1]? = some (.cells #[.int .i64 0, .slice none 0 0, .string ⟨#[]⟩] 28)) := by
    have s1 : (w.alloc (.cells #[.int .i64 0, .slice none 0 0, .string ⟨#[]⟩] 28)).heap.size = R + 1 := by rw [hR]; simp
    have e0 := heap_alloc_new w (.cells #[.int .i64 0, .slice none 0 0, .string ⟨#[]⟩] 28)
    have e1 := heap_alloc_new (w.alloc (.cells #[.int .i64 0, .slice none 0 0, .string ⟨#[]⟩] 28)) (.cells #[.int .i64 0, .slice none 0 0, .string ⟨#[]⟩] 28)
    rw [← hR] at e0
    rw [s1, ← hW0] at e1
    have c1 : Below (R + 1) (w.alloc (.cells #[.int .i64 0, .slice none 0 0, .string ⟨#[]⟩] 28)) W0 := by rw [hW0, ← s1]; exact (Below.refl _ _).alloc (Nat.le_refl _) _
    exact ⟨by rw [c1.block R (by omega)]; exact e0, e1⟩
  have HCO : Hid (∀ W, Below R w W → CodeAt W R a len zs) := by rw [hR]; exact fun W h => hcode.below h
  obtain ⟨c, hc⟩ : ∃ c, c = W0.heap.size := ⟨_, rfl⟩
  have hcR : R + 1 < c := by omega
  have hco0 := HCO.out W0 b0
  have HB0 : Hid (Below R w W0) := b0
  clear hW0 hcode b0 hs0
  go_enter Tryz.func11, Tryz.ntmps11
  go_upto_region 1 with fail
  rw [HW0.out, ← hR]
  clear hR HW0
  go_wp2_with fail
  refine (l1New_any R a len cap zs _ hco0).mono ?_
  rintro e w1 ⟨rfl, hcu1, b1⟩
  rw [← hc] at hcu1 b1 ⊢
  have HB1 : Hid (Below R w w1) := HB0.out.trans (b1.mono (by omega))
  have H1 : Hid (w1.heap[R]? = some (.cells #[.int .i64 0, .slice none 0 0, .string ⟨#[]⟩] 28) ∧ w1.heap[R + 1]? = some (.cells #[.int .i64 0, .slice none 0 0, .string ⟨#[]⟩] 28)) := ⟨by rw [b1.block R (by omega)]; exact H0.out.1, by rw [b1.block (R + 1) (by omega)]; exact H0.out.2⟩
  have hl1 := hcu1.lt
  clear b1 H0 HB0 hco0 hc
  go_wp2_with fail
  refine (l3DrawBadResp_any c R a len cap zs _ hcu1 (HCO.out _ HB1.out) (by omega)).mono ?_
  rintro e w2 ⟨m, fv, fs, b, rfl, hm, hown, hfl, hsh, hb, hcu2, hg2⟩
  obtain ⟨fo, fc, rfl⟩ := slice_of_owns hown
  have hl2 := hg2.size
  have HB2 : Hid (Below R w w2) := HB1.out.grown hg2 (by omega) (by intro k hk; cases hk; omega)
  have H2 : Hid (w2.heap[R]? = some (.cells #[.int .i64 0, .slice none 0 0, .string ⟨#[]⟩] 28) ∧ w2.heap[R + 1]? = some (.cells #[.int .i64 0, .slice none 0 0, .string ⟨#[]⟩] 28)) := ⟨by rw [hg2.block R (by omega) (fun e => by have := Option.some.inj e; omega)]; exact H1.out.1, by rw [hg2.block (R + 1) (by omega) (fun e => by have := Option.some.inj e; omega)]; exact H1.out.2⟩
  obtain ⟨r, hr⟩ : ∃ r, r = w2.heap.size := ⟨_, rfl⟩
  obtain ⟨s1, hs1⟩ : ∃ s, s = w1.heap.size := ⟨_, rfl⟩
  rw [← hs1] at hown hl1 hl2
  obtain ⟨w3, hw3⟩ : ∃ W, W = w2.alloc (.cells #[.int .i64 m, .slice fo fs.length fc, .string b] 28) := ⟨_, rfl⟩
  have HW3 : Hid (w2.alloc (.cells #[.int .i64 m, .slice fo fs.length fc, .string b] 28) = w3) := hw3.symm
  have b3 : Below w2.heap.size w2 w3 := by rw [hw3]; exact (Below.refl _ _).alloc (Nat.le_refl _) _
  have HQ3 : Hid (w3.heap[r]? = some (.cells #[.int .i64 m, .slice fo fs.length fc, .string b] 28)) := by show _ = _; rw [hw3, hr]; exact heap_alloc_new w2 _
  have HO3 : Hid (w3.ownsRow s1 67 2 (.slice fo fs.length fc) fs.length (flatF fs)) := owns_same hown (fun j hj => b3.block j (owns_lt hown hj))
  have HHI : Hid (∀ j, (Value.slice fo fs.length fc).ownBlock = some j → j < r) := fun j hj => by rw [hr]; exact owns_lt hown hj
  have HB3 : Hid (Below R w w3) := HB2.out.trans (b3.mono (by omega))
  have H3 : Hid (w3.heap[R]? = some (.cells #[.int .i64 0, .slice none 0 0, .string ⟨#[]⟩] 28) ∧ w3.heap[R + 1]? = some (.cells #[.int .i64 0, .slice none 0 0, .string ⟨#[]⟩] 28)) := ⟨by rw [b3.block R (by omega)]; exact H2.out.1, by rw [b3.block (R + 1) (by omega)]; exact H2.out.2⟩
  have hcu3 := hcu2.below b3 (by have := hcu2.lt; omega)
  have hrs : s1 ≤ r := by omega
  obtain ⟨⟨c0, c1, c2⟩, _⟩ := three_facts HQ3.out
  clear hcu1 hcu2 hg2 hown H1 H2 HB1 HB2 hw3 b3 hs1
  go_upto_region 3 with fail
  rw [HW3.out, ← hr]
  clear hr HW3
  refine wp_region_held_drew (S := fun W => W.cell? ⟨r, 0, none⟩ = some (.int .i64 m) ∧ W.cell? ⟨r, 1, none⟩ = some (.slice fo fs.length fc) ∧ W.cell? ⟨r, 2, none⟩ = some (.string b)) (by kernel_rfl) ⟨c0, c1, c2⟩ (fun hS0 => ?_)
  refine wpAnyH_takeD (i := 0) (v := .agg #[.int .i64 m, .slice fo fs.length fc, .string b]) (some 10) rfl rfl (by kernel_rfl) (by kernel_rfl) (by kernel_rfl) (fun _ _ _ h => h) (Or.inl ⟨by rfl, by intro W hW; obtain ⟨h1, h2, h3⟩ := hW; go_simp⟩) hS0 ?_
  simp only [Act.put, List.setIfInBounds_toArray, List.set_cons_zero, List.set_cons_succ]
  refine wpAnyH_takeD (i := 1) (v := .pointer (some ⟨c, 0, none⟩)) (some 11) rfl rfl (by kernel_rfl) (by kernel_rfl) (by kernel_rfl) (fun _ _ _ h => h) (Or.inl ⟨by rfl, by intro W _; go_simp⟩) hS0 ?_
  simp only [Act.put, List.setIfInBounds_toArray, List.set_cons_zero, List.set_cons_succ]
  refine wpAnyH_ready (rs := [2]) (by kernel_rfl) (by simp) ?_
  refine AllReadyH.cons rfl (fun K hK => ?_) AllReadyH.nil
  go_simp
  refine (l3DrawBadResp_any c R a len cap zs _ (hcu3.below (Below.refl _ w3).drew hcu3.lt) (HCO.out _ HB3.out.drew) (by omega)).mono ?_
  rintro e w4 ⟨st, gv, gs, d, rfl, hst, hown4, hgl, hgsh, hd, _, hg4⟩
  obtain ⟨go, gc, rfl⟩ := slice_of_owns hown4
  have hl3 := hcu3.lt
  have hq3 : r < w3.heap.size := (Array.getElem?_eq_some_iff.1 HQ3.out).1
  have hzs : w3.drew.heap.size = w3.heap.size := rfl
  have HQ4 : Hid (w4.heap[r]? = some (.cells #[.int .i64 m, .slice fo fs.length fc, .string b] 28)) := by show _ = _; rw [hg4.block r (by omega) (fun e => by have := Option.some.inj e; omega)]; exact HQ3.out
  have H4 : Hid (w4.heap[R]? = some (.cells #[.int .i64 0, .slice none 0 0, .string ⟨#[]⟩] 28) ∧ w4.heap[R + 1]? = some (.cells #[.int .i64 0, .slice none 0 0, .string ⟨#[]⟩] 28)) := ⟨by rw [hg4.block R (by omega) (fun e => by have := Option.some.inj e; omega)]; exact H3.out.1, by rw [hg4.block (R + 1) (by omega) (fun e => by have := Option.some.inj e; omega)]; exact H3.out.2⟩
  have HO4 : Hid (w4.ownsRow s1 67 2 (.slice fo fs.length fc) fs.length (flatF fs)) := owns_grown (owns_same (w' := w3.drew) HO3.out (fun j hj => rfl)) hg4 (by omega)
  have HP4 : Hid (w4.ownsRow w3.heap.size 67 2 (.slice go gs.length gc) gs.length (flatF gs)) := hown4
  have HB4 : Hid (Below R w w4) := HB3.out.drew.grown hg4 (by omega) (by intro k hk; cases hk; omega)
  have HRS : Hid (R + 1 < s1 ∧ r < w3.heap.size ∧ s1 ≤ r) := ⟨by omega, hq3, hrs⟩
  obtain ⟨Y, hY⟩ : ∃ Y, Y = threeSet w4 R (.int .i64 m) (.slice fo fs.length fc) (.string b) := ⟨_, rfl⟩
  have HY : Hid ((((w4.setCell ⟨R, 0, none⟩ (.int .i64 m)).setCell ⟨R, 1, none⟩ (.slice fo fs.length fc)).setCell ⟨R, 2, none⟩ (.string b)) = Y) := hY.symm
  have HYZ : Hid (Y.heap[R + 1]? = some (.cells #[.int .i64 0, .slice none 0 0, .string ⟨#[]⟩] 28)) := by show _ = _; rw [hY, three_otherD _ _ _ _ _ _ (by omega)]; exact H4.out.2
  have HYR : Hid (Y.heap[R]? = some (.cells #[.int .i64 m, (.slice fo fs.length fc), .string b] 28)) := by show _ = _; rw [hY]; exact three_set H4.out.1 _ _ _
  have HYQ : Hid (Y.heap[r]? = some (.cells #[.int .i64 m, (.slice fo fs.length fc), .string b] 28)) := by show _ = _; rw [hY, three_otherD _ _ _ _ _ _ (by omega)]; exact HQ4.out
  obtain ⟨U, hU⟩ : ∃ U, U = threeSet Y (R + 1) (.int .i64 st) (.slice go gs.length gc) (.string d) := ⟨_, rfl⟩
  have HU : Hid ((((Y.setCell ⟨R + 1, 0, none⟩ (.int .i64 st)).setCell ⟨R + 1, 1, none⟩ (.slice go gs.length gc)).setCell ⟨R + 1, 2, none⟩ (.string d)) = U) := hU.symm
  have HUR : Hid (U.heap[R]? = some (.cells #[.int .i64 m, (.slice fo fs.length fc), .string b] 28)) := by show _ = _; rw [hU, three_otherD _ _ _ _ _ _ (by omega)]; exact HYR.out
  have HUP : Hid (U.heap[R + 1]? = some (.cells #[.int .i64 st, (.slice go gs.length gc), .string d] 28)) := by show _ = _; rw [hU]; exact three_set HYZ.out _ _ _
  have HUQ : Hid (U.heap[r]? = some (.cells #[.int .i64 m, (.slice fo fs.length fc), .string b] 28)) := by show _ = _; rw [hU, three_otherD _ _ _ _ _ _ (by omega)]; exact HYQ.out
  have HFB : Hid (Below R w U) := by show Below _ _ _; rw [hU, hY]; exact below_three (below_three HB4.out (Nat.le_refl _)) (by omega)
  have HUO : Hid (∀ j, j ≠ R → j ≠ R + 1 → U.heap[j]? = w4.heap[j]?) := fun j h1 h2 => by rw [hU, three_otherD _ _ _ _ _ _ h2, hY, three_otherD _ _ _ _ _ _ h1]
  have HFIN : Hid (DrawnPP w (.returned (.tuple #[.agg #[.int .i64 m, (.slice fo fs.length fc), .string b], .agg #[.int .i64 st, (.slice go gs.length gc), .string d]])) U) := by
    obtain ⟨z1, z2, z3⟩ := HRS.out
    refine ⟨m, _, fs, b, st, _, gs, d, rfl, hm, ?_, hfl, hsh, hb, hst, ?_, hgl, hgsh, hd, ?_, by rw [HRE.out]; exact HFB.out⟩
    · rw [HRE.out]
      refine owns_same (owns_wide HO4.out (by omega)) (fun j hj => ?_)
      have := owns_ge HO4.out hj
      exact HUO.out j (by omega) (by omega)
    · rw [HRE.out]
      refine owns_same (owns_wide HP4.out (by omega)) (fun j hj => ?_)
      have := owns_ge HP4.out hj
      exact HUO.out j (by omega) (by omega)
    · intro j hj e
      have h1 := HHI.out j hj
      have h2 := owns_ge HP4.out e
      omega
  have hS4 := (three_facts HQ4.out).1
  have hSY := (three_facts HYQ.out).1
  have hSU := (three_facts HUQ.out).1
  refine hK.out _ _ hS4 (fun _ => ?_)
  clear hK K c0 c1 c2 hS0 hY hU HO3 HO4 HP4 HB3 HB4 HQ3 HQ4 HYQ HUQ hown4 hg4 hcu3 hzs HUO HFB HHI HRS HCO H3
  refine wpAnyH_ready (rs := [3]) (by kernel_rfl) (by simp) ?_
  refine AllReadyH.cons rfl (fun K hK => ?_) AllReadyH.nil
  obtain ⟨⟨x0, x1, x2⟩, y0, y1, y2⟩ := three_facts H4.out.1
  go_simp
  rw [HY.out]
  refine hK.out _ _ hSY (fun _ => ?_)
  clear hK K x0 x1 x2 y0 y1 y2 H4 hS4 HY
  refine wpAnyH_ready (rs := [4]) (by kernel_rfl) (by simp) ?_
  refine AllReadyH.cons rfl (fun K hK => ?_) AllReadyH.nil
  obtain ⟨⟨x0, x1, x2⟩, y0, y1, y2⟩ := three_facts HYZ.out
  go_simp
  rw [HU.out]
  refine hK.out _ _ hSU (fun _ => ?_)
  clear hK K x0 x1 x2 y0 y1 y2 hSY hSU HU HYZ HYR
  refine wpAnyH_done (by kernel_rfl) ?_ _
  obtain ⟨⟨k0, k1, k2⟩, _⟩ := three_facts HUR.out
  obtain ⟨⟨k4, k5, k6⟩, _⟩ := three_facts HUP.out
  go_wp2_with fail
  exact bodyPost_ret (v := .tuple #[.agg #[.int .i64 m, (.slice fo fs.length fc), .string b], .agg #[.int .i64 st, (.slice go gs.length gc), .string d]]) (by simp [results, Tryz.results11, go_sem, k0, k1, k2, k4, k5, k6]) rfl HFIN.out

end Go.Proofs.YthlmnmbhgkmbfaaGreatDoor

namespace Go.Proofs.YthlmnmbhgkmbfaaGreatDoor
open Go.RowKit
open Go.Lib hiding intOf

set_option maxHeartbeats 2000000 in
set_option maxRecDepth 100000 in
theorem drawMayKeep_any (a : Option Addr) (len cap : Nat) (zs : List Int) (w : World) (hcode : CodeAt w w.heap.size a len zs) :
    Calls Tryz.prog 5 #[.slice a len cap] w fun e w' => DrawnQP w e w' := by
  obtain ⟨R, hR⟩ : ∃ R, R = w.heap.size := ⟨_, rfl⟩
  have HRE : Hid (w.heap.size = R) := hR.symm
  obtain ⟨W0, hW0⟩ : ∃ W, W = (w.alloc (.cells #[.int .i64 0, .string ⟨#[]⟩, .slice none 0 0, .string ⟨#[]⟩] 26)).alloc (.cells #[.int .i64 0, .slice none 0 0, .string ⟨#[]⟩] 28) := ⟨_, rfl⟩
  have HW0 : Hid ((w.alloc (.cells #[.int .i64 0, .string ⟨#[]⟩, .slice none 0 0, .string ⟨#[]⟩] 26)).alloc (.cells #[.int .i64 0, .slice none 0 0, .string ⟨#[]⟩] 28) = W0) := hW0.symm
  have HB0 : Hid (Below R w W0) := by show Below _ _ _; rw [hW0, hR]; exact ((Below.refl _ w).alloc (Nat.le_refl _) _).alloc (by simp) _
  have HS0 : Hid (W0.heap.size = R + 1 + 1) := by show _ = _; rw [hW0, hR]; simp
  have H0 : Hid (W0.heap[R]? = some (.cells #[.int .i64 0, .string ⟨#[]⟩, .slice none 0 0, .string ⟨#[]⟩] 26) ∧ W0.heap[R + 1]? = some (.cells #[.int .i64 0, .slice none 0 0, .string ⟨#[]⟩] 28)) := by
    have s1 : (w.alloc (.cells #[.int .i64 0, .string ⟨#[]⟩, .slice none 0 0, .string ⟨#[]⟩] 26)).heap.size = R + 1 := by rw [hR]; simp
    have e0 := heap_alloc_new w (.cells #[.int .i64 0, .string ⟨#[]⟩, .slice none 0 0, .string ⟨#[]⟩] 26)
    have e1 := heap_alloc_new (w.alloc (.cells #[.int .i64 0, .string ⟨#[]⟩, .slice none 0 0, .string ⟨#[]⟩] 26)) (.cells #[.int .i64 0, .slice none 0 0, .string ⟨#[]⟩] 28)
    rw [← hR] at e0
    rw [s1, ← hW0] at e1
    exact ⟨by rw [hW0, Below.heap_alloc _ _ _ (by rw [s1]; omega)]; exact e0, e1⟩
  have hco0 : CodeAt W0 W0.heap.size a len zs := (hcode.below (by rw [← hR]; exact HB0.out)).upTo HB0.out.size
  clear hW0 hcode
  go_enter Tryz.func5, Tryz.ntmps5
  go_upto_region 1 with fail
  rw [HW0.out, ← hR]
  clear hR HW0
  go_wp2_with fail
  refine (l9Draw_any a len cap zs _ hco0).mono ?_
  rintro e w1 ⟨m, p, fv, fs, b, st, gv, gs, d, rfl, hm, hp, own1, hfl, hsh, hbb, hst, own2, hgl, hgsh, hd, hne, b1⟩
  obtain ⟨fo, fc, rfl⟩ := slice_of_owns own1
  obtain ⟨go, gc, rfl⟩ := slice_of_owns own2
  obtain ⟨q, hq⟩ : ∃ q, q = w1.heap.size := ⟨_, rfl⟩
  obtain ⟨W2, hW2⟩ : ∃ W, W = (w1.alloc (.cells #[.int .i64 m, .string p, .slice fo fs.length fc, .string b] 26)).alloc (.cells #[.int .i64 st, .slice go gs.length gc, .string d] 28) := ⟨_, rfl⟩
  have hs0 := HS0.out
  rw [hs0] at own1 own2 b1
  have HQ : Hid (W2.drew.heap[R]? = some (.cells #[.int .i64 0, .string ⟨#[]⟩, .slice none 0 0, .string ⟨#[]⟩] 26) ∧ W2.drew.heap[R + 1]? = some (.cells #[.int .i64 0, .slice none 0 0, .string ⟨#[]⟩] 28) ∧ W2.drew.heap[q]? = some (.cells #[.int .i64 m, .string p, .slice fo fs.length fc, .string b] 26) ∧ W2.drew.heap[q + 1]? = some (.cells #[.int .i64 st, .slice go gs.length gc, .string d] 28) ∧ Below R w W2.drew ∧ R + 1 + 1 ≤ q ∧ W2.drew.ownsRow (R + 1 + 1) 67 2 (.slice fo fs.length fc) fs.length (flatF fs) ∧ W2.drew.ownsRow (R + 1 + 1) 67 2 (.slice go gs.length gc) gs.length (flatF gs)) := by
    have s1 : (w1.alloc (.cells #[.int .i64 m, .string p, .slice fo fs.length fc, .string b] 26)).heap.size = q + 1 := by rw [hq]; simp
    have e0 := heap_alloc_new w1 (.cells #[.int .i64 m, .string p, .slice fo fs.length fc, .string b] 26)
    have e1 := heap_alloc_new (w1.alloc (.cells #[.int .i64 m, .string p, .slice fo fs.length fc, .string b] 26)) (.cells #[.int .i64 st, .slice go gs.length gc, .string d] 28)
    rw [← hq] at e0
    rw [s1, ← hW2] at e1
    have c2 : Below w1.heap.size w1 W2 := by rw [hW2]; exact ((Below.refl _ _).alloc (Nat.le_refl _) _).alloc (by simp) _
    have hz1 := b1.size
    rw [hs0] at hz1
    have c0 := b1.trans (c2.mono (by omega))
    have k0 : W2.heap[R]? = some (.cells #[.int .i64 0, .string ⟨#[]⟩, .slice none 0 0, .string ⟨#[]⟩] 26) := by rw [c0.block R (by omega)]; exact H0.out.1
    have k1 : W2.heap[R + 1]? = some (.cells #[.int .i64 0, .slice none 0 0, .string ⟨#[]⟩] 28) := by rw [c0.block (R + 1) (by omega)]; exact H0.out.2
    have k2 : W2.heap[q]? = some (.cells #[.int .i64 m, .string p, .slice fo fs.length fc, .string b] 26) := by rw [hW2, Below.heap_alloc _ _ _ (by rw [s1]; omega)]; exact e0
    exact ⟨k0, k1, k2, e1, (HB0.out.trans (c0.mono (by omega))).drew, by omega, owns_same own1 (fun j hj => c2.block j (owns_lt own1 hj)), owns_same own2 (fun j hj => c2.block j (owns_lt own2 hj))⟩
  have HB5 : Hid ((-1000 ≤ m ∧ m ≤ 1000) ∧ (-1000 ≤ st ∧ st ≤ 1000)) := ⟨hm, hst⟩
  go_upto_region 2 with fail
  rw [← hW2, ← hq]
  clear hW2 hq own1 own2 b1 H0 HS0 HB0 hco0 hs0 hm hst
  have hS0 : (W2.drew.cell? ⟨q, 0, none⟩ = some (.int .i64 m) ∧ W2.drew.cell? ⟨q, 1, none⟩ = some (.string p) ∧ W2.drew.cell? ⟨q, 2, none⟩ = some (.slice fo fs.length fc) ∧ W2.drew.cell? ⟨q, 3, none⟩ = some (.string b)) ∧ (W2.drew.cell? ⟨q + 1, 0, none⟩ = some (.int .i64 st) ∧ W2.drew.cell? ⟨q + 1, 1, none⟩ = some (.slice go gs.length gc) ∧ W2.drew.cell? ⟨q + 1, 2, none⟩ = some (.string d)) := ⟨(four_facts HQ.out.2.2.1).1, (three_facts HQ.out.2.2.2.1).1⟩
  refine wp_region_held_drew (S := fun W => (W.cell? ⟨q, 0, none⟩ = some (.int .i64 m) ∧ W.cell? ⟨q, 1, none⟩ = some (.string p) ∧ W.cell? ⟨q, 2, none⟩ = some (.slice fo fs.length fc) ∧ W.cell? ⟨q, 3, none⟩ = some (.string b)) ∧ (W.cell? ⟨q + 1, 0, none⟩ = some (.int .i64 st) ∧ W.cell? ⟨q + 1, 1, none⟩ = some (.slice go gs.length gc) ∧ W.cell? ⟨q + 1, 2, none⟩ = some (.string d))) (by kernel_rfl) hS0 (fun _ => ?_)
  obtain ⟨X0, hX0⟩ : ∃ X, X = W2.drew := ⟨_, rfl⟩
  rw [← hX0] at HQ hS0 ⊢
  clear hX0
  obtain ⟨Y, hY⟩ : ∃ Y, Y = fourSet X0 R (.int .i64 m) (.string p) (.slice fo fs.length fc) (.string b) := ⟨_, rfl⟩
  have HY : Hid (((((X0.setCell ⟨R, 0, none⟩ (.int .i64 m)).setCell ⟨R, 1, none⟩ (.string p)).setCell ⟨R, 2, none⟩ (.slice fo fs.length fc)).setCell ⟨R, 3, none⟩ (.string b)) = Y) := hY.symm
  obtain ⟨U, hU⟩ : ∃ U, U = threeSet Y (R + 1) (.int .i64 st) (.slice go gs.length gc) (.string d) := ⟨_, rfl⟩
  have HU : Hid ((((Y.setCell ⟨R + 1, 0, none⟩ (.int .i64 st)).setCell ⟨R + 1, 1, none⟩ (.slice go gs.length gc)).setCell ⟨R + 1, 2, none⟩ (.string d)) = U) := hU.symm
  have HYZ : Hid (Y.heap[R + 1]? = some (.cells #[.int .i64 0, .slice none 0 0, .string ⟨#[]⟩] 28)) := by show _ = _; rw [hY, four_other _ _ _ _ _ _ _ (by omega)]; exact HQ.out.2.1
  have HYR : Hid (Y.heap[R]? = some (.cells #[.int .i64 m, .string p, .slice fo fs.length fc, .string b] 26)) := by show _ = _; rw [hY]; exact four_set HQ.out.1 _ _ _ _
  have HUR : Hid (U.heap[R]? = some (.cells #[.int .i64 m, .string p, .slice fo fs.length fc, .string b] 26)) := by show _ = _; rw [hU, three_otherD _ _ _ _ _ _ (by omega)]; exact HYR.out
  have HUP : Hid (U.heap[R + 1]? = some (.cells #[.int .i64 st, .slice go gs.length gc, .string d] 28)) := by show _ = _; rw [hU]; exact three_set HYZ.out _ _ _
  have HYO : Hid (∀ j, j ≠ R → Y.heap[j]? = X0.heap[j]?) := fun j h1 => by rw [hY, four_other _ _ _ _ _ _ _ h1]
  have HUO : Hid (∀ j, j ≠ R → j ≠ R + 1 → U.heap[j]? = X0.heap[j]?) := fun j h1 h2 => by rw [hU, three_otherD _ _ _ _ _ _ h2]; exact HYO.out j h1
  have HUB : Hid (Below R w U) := by show Below _ _ _; rw [hU, hY]; exact below_three (below_four HQ.out.2.2.2.2.1 (Nat.le_refl _)) (by omega)
  have HFIN : Hid (DrawnQP w (.returned (.tuple #[.agg #[.int .i64 m, .string p, .slice fo fs.length fc, .string b], .agg #[.int .i64 st, .slice go gs.length gc, .string d]])) U) := by
    obtain ⟨_, _, _, _, _, hg, o1, o2⟩ := HQ.out
    refine ⟨m, p, _, fs, b, st, _, gs, d, rfl, HB5.out.1, hp, ?_, hfl, hsh, hbb, HB5.out.2, ?_, hgl, hgsh, hd, hne, by rw [HRE.out]; exact HUB.out⟩
    · rw [HRE.out]
      refine owns_same (owns_wide o1 (by omega)) (fun j hj => ?_)
      have := owns_ge o1 hj
      exact HUO.out j (by omega) (by omega)
    · rw [HRE.out]
      refine owns_same (owns_wide o2 (by omega)) (fun j hj => ?_)
      have := owns_ge o2 hj
      exact HUO.out j (by omega) (by omega)
  have hSY : (Y.cell? ⟨q, 0, none⟩ = some (.int .i64 m) ∧ Y.cell? ⟨q, 1, none⟩ = some (.string p) ∧ Y.cell? ⟨q, 2, none⟩ = some (.slice fo fs.length fc) ∧ Y.cell? ⟨q, 3, none⟩ = some (.string b)) ∧ (Y.cell? ⟨q + 1, 0, none⟩ = some (.int .i64 st) ∧ Y.cell? ⟨q + 1, 1, none⟩ = some (.slice go gs.length gc) ∧ Y.cell? ⟨q + 1, 2, none⟩ = some (.string d)) := by
    obtain ⟨_, _, k2, k3, _, hg, _⟩ := HQ.out
    exact ⟨(four_facts ((HYO.out q (by omega)).trans k2)).1, (three_facts ((HYO.out (q + 1) (by omega)).trans k3)).1⟩
  have hSU : (U.cell? ⟨q, 0, none⟩ = some (.int .i64 m) ∧ U.cell? ⟨q, 1, none⟩ = some (.string p) ∧ U.cell? ⟨q, 2, none⟩ = some (.slice fo fs.length fc) ∧ U.cell? ⟨q, 3, none⟩ = some (.string b)) ∧ (U.cell? ⟨q + 1, 0, none⟩ = some (.int .i64 st) ∧ U.cell? ⟨q + 1, 1, none⟩ = some (.slice go gs.length gc) ∧ U.cell? ⟨q + 1, 2, none⟩ = some (.string d)) := by
    obtain ⟨_, _, k2, k3, _, hg, _⟩ := HQ.out
    exact ⟨(four_facts ((HUO.out q (by omega) (by omega)).trans k2)).1, (three_facts ((HUO.out (q + 1) (by omega) (by omega)).trans k3)).1⟩
  have HZ0 : Hid (X0.heap[R]? = some (.cells #[.int .i64 0, .string ⟨#[]⟩, .slice none 0 0, .string ⟨#[]⟩] 26)) := HQ.out.1
  clear hY hU HQ HYO HUO HUB HB5
  refine wpAnyH_takeD (i := 0) (v := .agg #[.int .i64 m, .string p, .slice fo fs.length fc, .string b]) (some 11) rfl rfl (by kernel_rfl) (by kernel_rfl) (by kernel_rfl) (fun _ _ _ h => h) (Or.inl ⟨by rfl, by intro W hW; obtain ⟨⟨s0, s1, s2, s3⟩, ⟨s4, s5, s6⟩⟩ := hW; go_simp⟩) hS0 ?_
  simp only [Act.put, List.setIfInBounds_toArray, List.set_cons_zero, List.set_cons_succ]
  refine wpAnyH_takeD (i := 1) (v := .agg #[.int .i64 st, .slice go gs.length gc, .string d]) (some 12) rfl rfl (by kernel_rfl) (by kernel_rfl) (by kernel_rfl) (fun _ _ _ h => h) (Or.inl ⟨by rfl, by intro W hW; obtain ⟨⟨s0, s1, s2, s3⟩, ⟨s4, s5, s6⟩⟩ := hW; go_simp⟩) hS0 ?_
  simp only [Act.put, List.setIfInBounds_toArray, List.set_cons_zero, List.set_cons_succ]
  refine wpAnyH_ready (rs := [2]) (by kernel_rfl) (by simp) ?_
  refine AllReadyH.cons rfl (fun K hK => ?_) AllReadyH.nil
  obtain ⟨⟨x0, x1, x2, x3⟩, y0, y1, y2, y3⟩ := four_facts HZ0.out
  go_simp
  rw [HY.out]
  refine hK.out _ _ hSY (fun _ => ?_)
  clear hK K x0 x1 x2 x3 y0 y1 y2 y3 HZ0 HY hS0
  refine wpAnyH_ready (rs := [3]) (by kernel_rfl) (by simp) ?_
  refine AllReadyH.cons rfl (fun K hK => ?_) AllReadyH.nil
  obtain ⟨⟨x0, x1, x2⟩, y0, y1, y2⟩ := three_facts HYZ.out
  go_simp
  rw [HU.out]
  refine hK.out _ _ hSU (fun _ => ?_)
  clear hK K x0 x1 x2 y0 y1 y2 hSY hSU HU HYZ HYR
  refine wpAnyH_done (by kernel_rfl) ?_ _
  obtain ⟨⟨k0, k1, k2, k3⟩, _⟩ := four_facts HUR.out
  obtain ⟨⟨k4, k5, k6⟩, _⟩ := three_facts HUP.out
  go_wp2_with fail
  exact bodyPost_ret (v := .tuple #[.agg #[.int .i64 m, .string p, .slice fo fs.length fc, .string b], .agg #[.int .i64 st, .slice go gs.length gc, .string d]]) (by simp [results, Tryz.results5, go_sem, k0, k1, k2, k3, k4, k5, k6]) rfl HFIN.out

end Go.Proofs.YthlmnmbhgkmbfaaGreatDoor

namespace Go.Proofs
open Go.Shelf
def Tryz.lays166_ren : Go.Shelf.Ren := ⟨fun | 166 => 99 | 240 => 111 | 276 => 117 | n => n, fun | 0 => 0 | 3 => 3 | 4 => 4 | 5 => 5 | 9 => 9 | 20 => 20 | 37 => 22 | 70 => 107 | 72 => 109 | 75 => 111 | 80 => 63 | 164 => 122 | n => n, fun | n => n⟩
theorem Tryz.lays166 : Go.Proofs.Lays.n166 Tryz.prog Tryz.lays166_ren := {
  mixed := by kernel_rfl
  f166 := Tryz.func99.trans (congrArg some (by kernel_rfl))
  f240 := Tryz.func111.trans (congrArg some (by kernel_rfl))
  f276 := Tryz.func117.trans (congrArg some (by kernel_rfl))
  t0 := Tryz.underlying0
  a0 := Tryz.isAgg0
  z0 := Tryz.sizeOf0
  v0 := Tryz.zeroValue0
  t3 := Tryz.underlying3
  a3 := Tryz.isAgg3
  z3 := Tryz.sizeOf3
  v3 := Tryz.zeroValue3
  t4 := Tryz.underlying4
  a4 := Tryz.isAgg4
  z4 := Tryz.sizeOf4
  v4 := Tryz.zeroValue4
  t9 := Tryz.underlying9
  a9 := Tryz.isAgg9
  z9 := Tryz.sizeOf9
  v9 := Tryz.zeroValue9
  t20 := Tryz.underlying20
  a20 := Tryz.isAgg20
  z20 := Tryz.sizeOf20
  v20 := Tryz.zeroValue20
  t37 := Tryz.underlying22
  a37 := Tryz.isAgg22
  z37 := Tryz.sizeOf22
  v37 := Tryz.zeroValue22
  t70 := Tryz.underlying107
  a70 := Tryz.isAgg107
  z70 := Tryz.sizeOf107
  v70 := Tryz.zeroValue107
  t72 := Tryz.underlying109
  a72 := Tryz.isAgg109
  z72 := Tryz.sizeOf109
  v72 := Tryz.zeroValue109
  t75 := Tryz.underlying111
  a75 := Tryz.isAgg111
  z75 := Tryz.sizeOf111
  v75 := Tryz.zeroValue111
  t164 := Tryz.underlying122
  a164 := Tryz.isAgg122
  z164 := Tryz.sizeOf122
  v164 := Tryz.zeroValue122 }
theorem Tryz.Builder_Extra_166 : Builder.Extra Tryz.prog Tryz.lays166_ren := {
  sizeBuilder := by kernel_rfl
  liesBuilder := by kernel_rfl
  t5 := Tryz.underlying5
  a5 := Tryz.isAgg5
  z5 := Tryz.sizeOf5
  v5 := Tryz.zeroValue5
  infoByte := by kernel_rfl
  cellsByte := by kernel_rfl
  sizeByte := by kernel_rfl
  neB5 := by decide }
open Go.RowKit in
theorem Tryz.Builder_WriteString (B b : Nat) (bs : List Value) (s : ByteArray) (w : World) (h : Lib.IsBuilder 109 5 B b bs w) (hlen : bs.length + s.size ≤ 140737488355328) (hBw : B ≤ w.heap.size) :
    Calls Tryz.prog 99 #[.pointer (some ⟨b, 0, none⟩), .string s] w fun e w' => e = .returned (.tuple #[.int .i64 s.size, .nilIface]) ∧ (Lib.BuilderAt 109 5 B b (.pointer (some ⟨b, 0, none⟩)) (bs ++ Lib.strCells s) w' ∧ Below B w w') := Any.Builder_WriteString Tryz.lays166 Tryz.Builder_Extra_166 B b bs s w h hlen hBw
end Go.Proofs
namespace Go.Proofs.YthlmnmbhgkmbfaaGreatDoor
open Go.RowKit
open Go.Lib hiding intOf

theorem strCells_append (a b : ByteArray) : strCells (a ++ b) = strCells a ++ strCells b := by simp [strCells]
/-- A builder of the call's own that holds this text. -/
def Holding (B : Nat) (t : ByteArray) (w : World) : Prop := IsBuilder 109 5 B B (strCells t) w

set_option maxHeartbeats 1000000 in
theorem write_any (B : Nat) (t s : ByteArray) (w : World) (h : Holding B t w) (hlen : t.size + s.size ≤ 140737488355328) (hBw : B ≤ w.heap.size) :
    Calls Tryz.prog 99 #[.pointer (some ⟨B, 0, none⟩), .string s] w fun e w' => e = .returned (.tuple #[.int .i64 s.size, .nilIface]) ∧ Holding B (t ++ s) w' ∧ Below B w w' := by
  refine (Tryz.Builder_WriteString B B _ s w h (by rw [strCells_length]; exact hlen) hBw).mono ?_
  rintro e w' ⟨rfl, h1, h2⟩
  exact ⟨rfl, .inr (by rw [strCells_append]; exact h1), h2⟩
theorem text_out (B : Nat) (t : ByteArray) (w : World) (h : Holding B t w) (hBw : B ≤ w.heap.size) :
    Calls Tryz.prog 100 #[.pointer (some ⟨B, 0, none⟩)] w fun e w' => e = .returned (.string t) ∧ Below B w w' :=
  Tryz.Builder_String_any B B t.data.toList w h hBw

set_option maxHeartbeats 2000000 in
theorem text_any (v : Value) (n base : Nat) (fs : List (ByteArray × ByteArray)) (w : World) (hv : FieldsV w base v n fs) (hn : n ≤ 1073741824) (hsz : (fieldsText fs).size ≤ 1099511627776) :
    Calls Tryz.prog 91 #[v] w fun e w' => TextIs (fieldsText fs) w e w' := by
  have hl := hv.len
  obtain ⟨oa, cap, rfl, hrow⟩ := hv.slice
  have HROW : Hid (∀ k, k < n → ∃ g, oa = some ⟨g, 0, none⟩ ∧ FieldRow base w g n cap fs) := hrow
  have HZ : Hid (∀ k, k < n → (ftTo fs (k + 1)).size ≤ 1099511627776) := fun k hk => by
    have := ftTo_mono fs (k + 1) (fs.length - (k + 1))
    rw [show k + 1 + (fs.length - (k + 1)) = fs.length by omega] at this
    exact Nat.le_trans this hsz
  have HF : Hid (fieldsText fs = ftTo fs n) := by show _ = _; unfold fieldsText; rw [hl]
  have H0 : Hid (Holding w.heap.size ⟨#[]⟩ (w.alloc (.cells #[.pointer none, .slice none 0 0] 109))) := fresh_isBuilder 109 5 w
  clear hsz hv hrow
  go_enter Tryz.func91, Tryz.ntmps91
  go_wp2
  go_loopw [7] (fun i wr => ∃ k : Nat, k ≤ n ∧ i = .int .i64 (k : Int) ∧ Hid (Holding w.heap.size (ftTo fs k) wr) ∧ Below w.heap.size w wr) (fun i _ => n - (intOf i).toNat)
  case atStart => exact ⟨0, Nat.zero_le _, rfl, H0, (Below.refl _ _).alloc (Nat.le_refl _) _⟩
  case round =>
    obtain ⟨k, hk, rfl, hI, hbw⟩ := hrel
    by_cases hlt : k < n
    · have hlt2 : (k : Int) < (n : Int) := by omega
      obtain ⟨g, rfl, row⟩ := HROW.out k hlt
      obtain ⟨nm, hnm⟩ : ∃ x, x = nameAt fs k := ⟨_, rfl⟩
      obtain ⟨vl, hvl⟩ : ∃ x, x = valAt fs k := ⟨_, rfl⟩
      obtain ⟨out, hout⟩ : ∃ x, x = ftTo fs k := ⟨_, rfl⟩
      have HR : Hid (∀ W, Below w.heap.size w W → W.cell? ⟨g, k * 2, none⟩ = some (.string nm) ∧ W.cell? ⟨g, k * 2 + 1, none⟩ = some (.string vl)) := fun W h => by
        rw [hnm, hvl]; exact ⟨(row.below h row.lt).name k hlt, (row.below h row.lt).val k hlt⟩
      have hz := HZ.out k hlt
      rw [ftTo_size] at hz
      have HN : Hid (out ++ nm ++ ⟨#[58, 32]⟩ ++ vl ++ ⟨#[13, 10]⟩ = ftTo fs (k + 1)) := by
        show _ = _
        rw [ftTo, ← hout, hnm, hvl]
      rw [← hout, ← hnm, ← hvl] at hz
      rw [← hout] at hI
      have e1 : (⟨#[58, 32]⟩ : ByteArray).size = 2 := rfl
      have e2 : (⟨#[13, 10]⟩ : ByteArray).size = 2 := rfl
      have q1 : out.size + nm.size ≤ 140737488355328 := by omega
      have q2 : (out ++ nm).size + (⟨#[58, 32]⟩ : ByteArray).size ≤ 140737488355328 := by rw [ByteArray.size_append]; omega
      have q3 : (out ++ nm ++ ⟨#[58, 32]⟩).size + vl.size ≤ 140737488355328 := by rw [ByteArray.size_append, ByteArray.size_append]; omega
      have q4 : (out ++ nm ++ ⟨#[58, 32]⟩ ++ vl).size + (⟨#[13, 10]⟩ : ByteArray).size ≤ 140737488355328 := by rw [ByteArray.size_append, ByteArray.size_append, ByteArray.size_append]; omega
      obtain ⟨c1, c2⟩ := HR.out wr hbw
      clear hnm hvl hout hz row
      go_wp2_with fail
      refine (write_any w.heap.size out nm _ hI.out q1 hbw.size).mono ?_
      rintro e w1 ⟨rfl, hI1, hb1⟩
      have hbw1 := hbw.trans hb1
      have HI1 : Hid (Holding w.heap.size (out ++ nm) w1) := hI1
      obtain ⟨c1a, c2a⟩ := HR.out w1 hbw1
      clear c1 c2 hb1 hI1 hI hbw
      go_wp2_with fail
      refine (write_any w.heap.size (out ++ nm) ⟨#[58, 32]⟩ _ HI1.out q2 hbw1.size).mono ?_
      rintro e w2 ⟨rfl, hI2, hb2⟩
      have hbw2 := hbw1.trans hb2
      have HI2 : Hid (Holding w.heap.size (out ++ nm ++ ⟨#[58, 32]⟩) w2) := hI2
      obtain ⟨c1b, c2b⟩ := HR.out w2 hbw2
      clear c1a c2a hb2 hI2 HI1 hbw1
      go_wp2_with fail
      refine (write_any w.heap.size (out ++ nm ++ ⟨#[58, 32]⟩) vl _ HI2.out q3 hbw2.size).mono ?_
      rintro e w3 ⟨rfl, hI3, hb3⟩
      have hbw3 := hbw2.trans hb3
      have HI3 : Hid (Holding w.heap.size (out ++ nm ++ ⟨#[58, 32]⟩ ++ vl) w3) := hI3
      clear c1b c2b hb3 hI3 HI2 hbw2
      go_wp2_with fail
      refine (write_any w.heap.size (out ++ nm ++ ⟨#[58, 32]⟩ ++ vl) ⟨#[13, 10]⟩ _ HI3.out q4 hbw3.size).mono ?_
      rintro e w4 ⟨rfl, hI4, hb4⟩
      have hbw4 := hbw3.trans hb4
      rw [HN.out] at hI4
      have HI4 : Hid (Holding w.heap.size (ftTo fs (k + 1)) w4) := hI4
      clear hb4 hI4 HI3 hbw3
      go_wp2
      go_roundw
      case rel => exact ⟨k + 1, by omega, by go_num, HI4, hbw4⟩
      case measure => simp [intOf]; omega
    · obtain rfl : k = n := by omega
      go_wp2_with fail
      refine (text_out w.heap.size _ _ hI.out hbw.size).mono ?_
      rintro e w1 ⟨rfl, hb1⟩
      have hbw1 := hbw.trans hb1
      clear hb1 hbw hI
      go_wp2
      go_ret
      exact TextIs.of HF.out.symm hbw1

end Go.Proofs.YthlmnmbhgkmbfaaGreatDoor

namespace Go.Proofs.YthlmnmbhgkmbfaaGreatDoor
open Go.RowKit
open Go.Lib hiding intOf

/-- What a message's text is behind its first line. -/
def restT (tell : Bool) (fs : List (ByteArray × ByteArray)) (b : ByteArray) : ByteArray :=
  (if tell = true then fieldsText fs ++ (⟨#[]⟩ ++ clen ++ ⟨#[58, 32]⟩ ++ numText b.size ++ ⟨#[13, 10]⟩) else fieldsText fs) ++ ⟨#[13, 10]⟩ ++ b
theorem field_text (a b : ByteArray) : fieldsText [(a, b)] = ⟨#[]⟩ ++ a ++ ⟨#[58, 32]⟩ ++ b ++ ⟨#[13, 10]⟩ := rfl
theorem one_row {w W : World} {base : Nat} {a b : ByteArray} (h : W.heap[w.heap.size]? = some (.cells #[.string a, .string b] 67)) (hb : base ≤ w.heap.size) (hl : w.heap.size < W.heap.size) : FieldsV W base (.slice (some ⟨w.heap.size, 0, none⟩) 1 1) 1 [(a, b)] := by
  refine .inr ⟨w.heap.size, 1, rfl, by omega, ⟨rfl, hb, hl, Nat.le_refl _, by unfold maxLen; omega, _, h, rfl, ?_⟩⟩
  intro i hi
  obtain rfl : i = 0 := by omega
  exact ⟨rfl, rfl⟩
theorem rest_resp (st : Int) (fs : List (ByteArray × ByteArray)) (b : ByteArray) : ⟨#[72, 84, 84, 80, 47, 49, 46, 49, 32]⟩ ++ numText st.toNat ++ ⟨#[32]⟩ ++ ⟨#[46]⟩ ++ ⟨#[13, 10]⟩ ++ restT true fs b = respT st fs b := by
  apply bs_inj
  unfold respT restT
  simp [bs, httpAhead, dotEnd, lnE2, clenK, clen]
theorem restT_size (tell : Bool) {fs : List (ByteArray × ByteArray)} (hf : FldsOk fs) {b : ByteArray} (hb : b.size ≤ 120) : (restT tell fs b).size ≤ 1000 := by
  have h1 := ft_small hf
  have h2 := numText_size b.size
  have e1 : (⟨#[]⟩ : ByteArray).size = 0 := rfl
  have e2 : clen.size = 14 := rfl
  have e3 : (⟨#[58, 32]⟩ : ByteArray).size = 2 := rfl
  have e4 : (⟨#[13, 10]⟩ : ByteArray).size = 2 := rfl
  unfold restT
  cases tell
  · rw [if_neg (by decide)]; simp only [ByteArray.size_append]; omega
  · rw [if_pos rfl]; simp only [ByteArray.size_append]; omega

set_option maxHeartbeats 1000000 in
theorem restText_any (v : Value) (b : ByteArray) (tell : Bool) (n base : Nat) (fs : List (ByteArray × ByteArray)) (w : World) (hv : FieldsV w base v n fs) (hn : n ≤ 1073741824) (hf : FldsOk fs) (hb : b.size ≤ 120) (htab : TabOk w) :
    Calls Tryz.prog 65 #[.agg #[v, .string b], .bool tell] w fun e w' => TextIs (restT tell fs b) w e w' := by
  obtain ⟨oa, cap, rfl, _⟩ := hv.slice
  obtain ⟨r, hr⟩ : ∃ r, r = w.heap.size := ⟨_, rfl⟩
  have HR : Hid (∀ W, Below (w.alloc (.cells #[.slice oa n cap, .string b] 50)).heap.size (w.alloc (.cells #[.slice oa n cap, .string b] 50)) W → (W.cell? ⟨r, 0, none⟩ = some (.slice oa n cap) ∧ W.cell? ⟨r, 1, none⟩ = some (.string b)) ∧ FieldsV W base (.slice oa n cap) n fs ∧ Below w.heap.size w W) := fun W h => by
    have hh := kept_new h
    rw [← hr] at hh
    exact ⟨⟨by simp [World.cell?, hh], by simp [World.cell?, hh]⟩, hv.below (below_new h), below_new h⟩
  obtain ⟨_, hv0, _⟩ := HR.out _ (Below.refl _ _)
  have hfs := ft_small hf
  have HT : Hid ((fieldsText fs).size ≤ 1099511627776) := by show _ ≤ _; omega
  have HTAB : Hid (TabOk w) := htab
  go_enter Tryz.func65, Tryz.ntmps65
  go_wp2_with fail
  refine (text_any _ n base fs _ hv0 hn HT.out).mono ?_
  rintro e w1 ⟨rfl, bb1⟩
  rw [← hr]
  obtain ⟨⟨c0, c1⟩, _, hbw1⟩ := HR.out w1 bb1
  have HB1 : Hid (Below (w.alloc (.cells #[.slice oa n cap, .string b] 50)).heap.size (w.alloc (.cells #[.slice oa n cap, .string b] 50)) w1) := bb1
  obtain ⟨ft, hft⟩ : ∃ x, x = fieldsText fs := ⟨_, rfl⟩
  rw [← hft] at hfs ⊢
  have HFT : Hid (fieldsText fs = ft) := hft.symm
  clear hv hv0 bb1 hr hf htab hft HT
  have e2 : (⟨#[13, 10]⟩ : ByteArray).size = 2 := rfl
  cases tell
  · have HE : Hid (ft ++ ⟨#[13, 10]⟩ ++ b = restT false fs b) := by
      show _ = _
      unfold restT
      rw [if_neg (by decide), HFT.out]
    have q1 : ¬ 9223372036854775807 < ft.size + 2 := by omega
    have q2 : ¬ 9223372036854775807 < ft.size + 2 + b.size := by omega
    go_wp2_with fail
    go_ret
    exact TextIs.of HE.out hbw1
  · have hT1 : TabOk w1 := HTAB.out.below hbw1
    have hns := numText_size b.size
    obtain ⟨nt, hnt⟩ : ∃ x, x = numText b.size := ⟨_, rfl⟩
    have HNI : Hid (numTextI (b.size : Int) = nt) := by
      show _ = _
      unfold numTextI
      rw [if_neg (by omega), hnt]
      rfl
    rw [← hnt] at hns
    obtain ⟨lt, hlt⟩ : ∃ x, x = fieldsText [((⟨#[99, 111, 110, 116, 101, 110, 116, 45, 108, 101, 110, 103, 116, 104]⟩ : ByteArray), nt)] := ⟨_, rfl⟩
    have hls : lt.size ≤ 40 := by
      rw [hlt, field_text]
      have k1 : (⟨#[]⟩ : ByteArray).size = 0 := rfl
      have k2 : (⟨#[99, 111, 110, 116, 101, 110, 116, 45, 108, 101, 110, 103, 116, 104]⟩ : ByteArray).size = 14 := rfl
      have k3 : (⟨#[58, 32]⟩ : ByteArray).size = 2 := rfl
      simp only [ByteArray.size_append]
      omega
    have HLT : Hid (fieldsText [((⟨#[99, 111, 110, 116, 101, 110, 116, 45, 108, 101, 110, 103, 116, 104]⟩ : ByteArray), nt)] = lt) := hlt.symm
    have HLS : Hid ((fieldsText [((⟨#[99, 111, 110, 116, 101, 110, 116, 45, 108, 101, 110, 103, 116, 104]⟩ : ByteArray), nt)]).size ≤ 1099511627776) := by show _ ≤ _; rw [← hlt]; omega
    have HE : Hid (ft ++ lt ++ ⟨#[13, 10]⟩ ++ b = restT true fs b) := by
      show _ = _
      unfold restT
      rw [if_pos rfl, HFT.out, ← hnt, hlt, field_text]
      rfl
    clear hnt hlt
    go_wp2_with fail
    refine (implNumText_any (b.size : Int) _ (by omega) (by omega) hT1).mono ?_
    rintro e w2 ⟨rfl, bb2⟩
    rw [HNI.out]
    clear c0 c1 hT1
    have HB2 : Hid (Below (w.alloc (.cells #[.slice oa n cap, .string b] 50)).heap.size (w.alloc (.cells #[.slice oa n cap, .string b] 50)) w2) := HB1.out.trans (bb2.mono HB1.out.size)
    clear bb2 hbw1
    obtain ⟨h3, hh3⟩ : ∃ x, x = w2.heap.size := ⟨_, rfl⟩
    have hv3 : FieldsV (w2.alloc (.cells #[.string ⟨#[99, 111, 110, 116, 101, 110, 116, 45, 108, 101, 110, 103, 116, 104]⟩, .string nt] 67)) w2.heap.size (.slice (some ⟨w2.heap.size, 0, none⟩) 1 1) 1 [(⟨#[99, 111, 110, 116, 101, 110, 116, 45, 108, 101, 110, 103, 116, 104]⟩, nt)] := one_row (heap_alloc_new w2 _) (Nat.le_refl _) (by simp)
    have HB3 : Hid (Below (w.alloc (.cells #[.slice oa n cap, .string b] 50)).heap.size (w.alloc (.cells #[.slice oa n cap, .string b] 50)) (w2.alloc (.cells #[.string ⟨#[99, 111, 110, 116, 101, 110, 116, 45, 108, 101, 110, 103, 116, 104]⟩, .string nt] 67))) := HB2.out.alloc HB2.out.size _
    go_wp2_with fail
    refine (text_any _ 1 w2.heap.size [(⟨#[99, 111, 110, 116, 101, 110, 116, 45, 108, 101, 110, 103, 116, 104]⟩, nt)] _ hv3 (by omega) HLS.out).mono ?_
    rintro e w4 ⟨rfl, bb4⟩
    rw [HLT.out]
    obtain ⟨⟨d0, d1⟩, _, hbw4⟩ := HR.out w4 (HB3.out.trans (bb4.mono HB3.out.size))
    clear hv3 bb4 hh3
    have q1 : ¬ 9223372036854775807 < ft.size + lt.size := by omega
    have q2 : ¬ 9223372036854775807 < ft.size + lt.size + 2 := by omega
    have q3 : ¬ 9223372036854775807 < ft.size + lt.size + 2 + b.size := by omega
    go_wp2_with fail
    go_ret
    exact TextIs.of HE.out hbw4

set_option maxHeartbeats 1000000 in
set_option maxRecDepth 100000 in
theorem respText_any (st : Int) (v : Value) (b : ByteArray) (n base : Nat) (fs : List (ByteArray × ByteArray)) (w : World) (hv : FieldsV w base v n fs) (hn : n ≤ 1073741824) (hsz : WalkF n fs) (hb : b.size ≤ maxLen) (htab : TabOk w) :
    Calls Tryz.prog 36 #[.agg #[v, .string b, .int .i64 st]] w fun e w' => TextOf (RespP st fs b) (respT st fs b) w e w' := by
  obtain ⟨oa, cap, rfl, _⟩ := hv.slice
  obtain ⟨r, hr⟩ : ∃ r, r = w.heap.size := ⟨_, rfl⟩
  have HR : Hid (∀ W, Below (w.alloc (.cells #[.slice oa n cap, .string b, .int .i64 st] 56)).heap.size (w.alloc (.cells #[.slice oa n cap, .string b, .int .i64 st] 56)) W → (W.cell? ⟨r, 0, none⟩ = some (.slice oa n cap) ∧ W.cell? ⟨r, 1, none⟩ = some (.string b) ∧ W.cell? ⟨r, 2, none⟩ = some (.int .i64 st)) ∧ FieldsV W base (.slice oa n cap) n fs ∧ Below w.heap.size w W) := fun W h => by
    have hh := kept_new h
    rw [← hr] at hh
    exact ⟨⟨by simp [World.cell?, hh], by simp [World.cell?, hh], by simp [World.cell?, hh]⟩, hv.below (below_new h), below_new h⟩
  obtain ⟨_, hv0, _⟩ := HR.out _ (Below.refl _ _)
  have HTAB : Hid (TabOk w) := htab
  go_enter Tryz.func36, Tryz.ntmps36
  go_wp2_with fail
  refine (respOk_any st _ b n base fs _ hv0 hn hsz hb).mono ?_
  rintro e w1 ⟨b1, rfl, kb1, bb1⟩
  rw [← hr]
  obtain ⟨⟨c0, c1, c2⟩, _, hbw1⟩ := HR.out w1 bb1
  clear hv hv0 hsz hb htab hr
  cases b1
  · have HF : Hid (¬ RespP st fs b) := fun h => by have := kb1.2 h; cases this
    clear kb1 bb1
    go_wp2_with fail
    go_ret
    exact ⟨_, rfl, fun h => absurd h HF.out, fun _ => rfl, hbw1⟩
  · have HY : Hid (RespP st fs b) := kb1.1 rfl
    have hst := HY.out.1
    have hbs : b.size ≤ 120 := HY.out.2.2
    have hns := numText_size st.toNat
    obtain ⟨nk, hnk⟩ : ∃ x, x = numText st.toNat := ⟨_, rfl⟩
    rw [← hnk] at hns
    have HNI : Hid (numTextI st = nk) := by
      show _ = _
      unfold numTextI
      rw [if_neg (by omega), hnk]
    have hrs := restT_size true HY.out.2.1 hbs
    obtain ⟨rt, hrt⟩ : ∃ x, x = restT true fs b := ⟨_, rfl⟩
    rw [← hrt] at hrs
    have HRT : Hid (restT true fs b = rt) := hrt.symm
    have HE : Hid (⟨#[72, 84, 84, 80, 47, 49, 46, 49, 32]⟩ ++ nk ++ ⟨#[32]⟩ ++ ⟨#[46]⟩ ++ ⟨#[13, 10]⟩ ++ rt = respT st fs b) := by
      show _ = _
      rw [hnk, ← HRT.out]
      exact rest_resp st fs b
    have HB1 : Hid (Below (w.alloc (.cells #[.slice oa n cap, .string b, .int .i64 st] 56)).heap.size (w.alloc (.cells #[.slice oa n cap, .string b, .int .i64 st] 56)) w1) := bb1
    have hT1 : TabOk w1 := HTAB.out.below hbw1
    clear kb1 bb1 hnk hrt hbw1
    have e1 : (⟨#[32]⟩ : ByteArray).size = 1 := rfl
    have e2 : (⟨#[72, 84, 84, 80, 47, 49, 46, 49, 32]⟩ : ByteArray).size = 9 := rfl
    have e3 : (⟨#[13, 10]⟩ : ByteArray).size = 2 := rfl
    have e4 : (⟨#[46]⟩ : ByteArray).size = 1 := rfl
    have q1 : ¬ 9223372036854775807 < 9 + nk.size := by omega
    have q2 : ¬ 9223372036854775807 < 9 + nk.size + 1 := by omega
    have q3 : ¬ 9223372036854775807 < 9 + nk.size + 1 + 1 := by omega
    have q4 : ¬ 9223372036854775807 < 9 + nk.size + 1 + 1 + 2 := by omega
    have q5 : ¬ 9223372036854775807 < 9 + nk.size + 1 + 1 + 2 + rt.size := by omega
    go_wp2_with fail
    refine (implNumText_any st _ (by omega) (by omega) hT1).mono ?_
    rintro e w2 ⟨rfl, bb2⟩
    rw [HNI.out]
    have HB2 : Hid (Below (w.alloc (.cells #[.slice oa n cap, .string b, .int .i64 st] 56)).heap.size (w.alloc (.cells #[.slice oa n cap, .string b, .int .i64 st] 56)) w2) := HB1.out.trans (bb2.mono HB1.out.size)
    obtain ⟨⟨d0, d1, d2⟩, hv2, hbw2⟩ := HR.out w2 HB2.out
    have hT2 : TabOk w2 := HTAB.out.below hbw2
    have hF := HY.out.2.1
    clear c0 c1 c2 HB1 bb2 hT1 hbw2
    go_wp2_with fail
    refine (restText_any _ _ true n base fs _ hv2 hn hF hbs hT2).mono ?_
    rintro e w3 ⟨rfl, bb3⟩
    rw [HRT.out]
    obtain ⟨_, _, hbw3⟩ := HR.out w3 (HB2.out.trans (bb3.mono HB2.out.size))
    clear bb3 hv2 hT2 d0 d1 d2 hF
    go_wp2_with fail
    go_ret
    exact ⟨_, rfl, fun _ => HE.out, fun h => absurd HY.out h, hbw3⟩

set_option maxHeartbeats 400000 in
theorem implRespText_any (m : Int) (v : Value) (b : ByteArray) (n base : Nat) (fs : List (ByteArray × ByteArray)) (w : World) (hv : FieldsV w base v n fs) (hn : n ≤ 1073741824) (hsz : WalkF n fs) (hb : b.size ≤ maxLen) (htab : TabOk w) :
    Calls Tryz.prog 13 #[.agg #[.int .i64 m, v, .string b]] w fun e w' => TextOf (RespP m fs b) (respT m fs b) w e w' := by
  obtain ⟨oa, cap, rfl, _⟩ := hv.slice
  have hb0 : Below w.heap.size w (w.alloc (.cells #[.int .i64 m, .slice oa n cap, .string b] 28)) := (Below.refl _ _).alloc (Nat.le_refl _) _
  have HTAB : Hid (TabOk w) := htab
  clear htab
  go_enter Tryz.func13, Tryz.ntmps13
  go_wp2_with fail
  refine (answerOf_any m oa n cap b _).mono ?_
  rintro e w1 ⟨rfl, bb1⟩
  have hb1 : Below w.heap.size w w1 := hb0.trans (bb1.mono hb0.size)
  have hv1 := hv.below hb1
  clear bb1 hb0 hv
  go_wp2_with fail
  refine (respText_any m _ b n base fs _ hv1 hn hsz hb (HTAB.out.below hb1)).mono ?_
  rintro e w2 ⟨u, rfl, ku, kn, bb2⟩
  have hb2 : Below w.heap.size w w2 := hb1.trans (bb2.mono hb1.size)
  have HK : Hid ((RespP m fs b) → u = respT m fs b) := ku
  have HN : Hid (¬ (RespP m fs b) → u = ⟨#[]⟩) := kn
  clear hv1 hsz hb bb2 hb1 ku kn
  go_wp2_with fail
  go_ret
  exact ⟨u, rfl, HK.out, HN.out, hb2⟩

end Go.Proofs.YthlmnmbhgkmbfaaGreatDoor

namespace Go.Proofs.YthlmnmbhgkmbfaaGreatDoor
open Go.RowKit
open Go.Lib hiding intOf

/-- A block's content behind a call. -/
theorem blk_below {W W' : World} {r : Nat} {o : Obj} (h : W.heap[r]? = some o) (b : Below W.heap.size W W') : W'.heap[r]? = some o := by
  rw [b.block r (Array.getElem?_eq_some_iff.1 h).1]; exact h
theorem blk_alloc {W : World} {r : Nat} {o : Obj} (h : W.heap[r]? = some o) (x : Obj) : (W.alloc x).heap[r]? = some o := by
  rw [Below.heap_alloc _ _ _ (Array.getElem?_eq_some_iff.1 h).1]; exact h
end Go.Proofs.YthlmnmbhgkmbfaaGreatDoor

namespace Go.Proofs.YthlmnmbhgkmbfaaGreatDoor
open Go.ChangeShapes Go.WideShapes Go.ChangeAt Go.RowKit

theorem gTabType : (Tryz.prog.globals[0]?).map (·.type) = some 126 := by kernel_rfl
theorem cells62 : Tryz.prog.cellsOf 126 = 20 := by kernel_rfl
theorem cells55 : Tryz.prog.cellsOf 117 = 1 := by kernel_rfl
theorem table {W : World} (h : laidMetH Tryz.prog Rows.fnMayKeepRow.laid W) : TabOk W := by
  have h1 : laidMet Tryz.prog Rows.fnMayKeepRow.laid W := h
  obtain ⟨ps, hl, _⟩ := h1
  obtain ⟨g1, t1, cs1, f1, p1, q1, _, _, _, _, hr1, _⟩ := hl
  obtain ⟨g2, t2, cs2, f2, p2, q2, _, _, _, _, hr2, _⟩ := hr1
  obtain ⟨g3, t3, cs3, f3, p3, q3, hg, ht, hvar, hd, _, _⟩ := hr2
  obtain rfl := Option.some.inj (gTab.symm.trans hg)
  obtain rfl := Option.some.inj (gTabType.symm.trans ht)
  unfold TabOk Lib.TabIs
  rw [hvar, ← Lib.cells_of_tab (zs := Lib.pow10Tab) Tryz.underlying126 Tryz.underlying117 cells55 cells62 hd]

/-- A world with the three tables as their initialisers lay them. -/
def withTables (w : World) : World :=
  { w with heap := ((w.heap.modify 0 fun
      | .cells _ t frozen => .cells #[.int .u64 1, .int .u64 10, .int .u64 100, .int .u64 1000, .int .u64 10000, .int .u64 100000, .int .u64 1000000, .int .u64 10000000, .int .u64 100000000, .int .u64 1000000000, .int .u64 10000000000, .int .u64 100000000000, .int .u64 1000000000000, .int .u64 10000000000000, .int .u64 100000000000000, .int .u64 1000000000000000, .int .u64 10000000000000000, .int .u64 100000000000000000, .int .u64 1000000000000000000, .int .u64 10000000000000000000] t frozen
      | o => o).modify 1 fun
      | .cells _ t frozen => .cells #[.int .u8 0, .int .u8 1, .int .u8 28, .int .u8 2, .int .u8 29, .int .u8 14, .int .u8 24, .int .u8 3, .int .u8 30, .int .u8 22, .int .u8 20, .int .u8 15, .int .u8 25, .int .u8 17, .int .u8 4, .int .u8 8, .int .u8 31, .int .u8 27, .int .u8 13, .int .u8 23, .int .u8 21, .int .u8 19, .int .u8 16, .int .u8 7, .int .u8 26, .int .u8 12, .int .u8 18, .int .u8 6, .int .u8 11, .int .u8 5, .int .u8 10, .int .u8 9] t frozen
      | o => o).modify 2 fun
      | .cells _ t frozen => .cells #[.int .u8 0, .int .u8 1, .int .u8 56, .int .u8 2, .int .u8 57, .int .u8 49, .int .u8 28, .int .u8 3, .int .u8 61, .int .u8 58, .int .u8 42, .int .u8 50, .int .u8 38, .int .u8 29, .int .u8 17, .int .u8 4, .int .u8 62, .int .u8 47, .int .u8 59, .int .u8 36, .int .u8 45, .int .u8 43, .int .u8 51, .int .u8 22, .int .u8 53, .int .u8 39, .int .u8 33, .int .u8 30, .int .u8 24, .int .u8 18, .int .u8 12, .int .u8 5, .int .u8 63, .int .u8 55, .int .u8 48, .int .u8 27, .int .u8 60, .int .u8 41, .int .u8 37, .int .u8 16, .int .u8 46, .int .u8 35, .int .u8 44, .int .u8 21, .int .u8 52, .int .u8 32, .int .u8 23, .int .u8 11, .int .u8 54, .int .u8 26, .int .u8 40, .int .u8 15, .int .u8 34, .int .u8 20, .int .u8 31, .int .u8 10, .int .u8 25, .int .u8 14, .int .u8 19, .int .u8 9, .int .u8 13, .int .u8 8, .int .u8 7, .int .u8 6] t frozen
      | o => o }
end Go.Proofs.YthlmnmbhgkmbfaaGreatDoor
