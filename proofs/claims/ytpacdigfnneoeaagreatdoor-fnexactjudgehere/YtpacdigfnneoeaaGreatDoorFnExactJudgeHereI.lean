/- What the proof of FnExactJudgeHere leans on: contracts of the program's and the specification's functions, and plain facts (part 9 of 11). -/
import Derived.Test.YtpacdigfnneoeaaGreatDoorFnExactJudgeHereH
set_option maxHeartbeats 16000000
set_option maxRecDepth 100000
namespace Go.Proofs.YtpacdigfnneoeaaGreatDoor
open Go.RowKit
open Go.Lib hiding intOf
structure MkSt (W1 : World) (ob : Obj) (a : Option Nat) (z : Option Value) (P : Fs) (W : World) : Prop where
 low : Below W1.heap.size W1 W
 blk : ∀ o, a = some o → W.heap[o]? = some ob ∧ W1.heap.size ≤ o
 own : ∀ v, z = some v → W.ownsRow W1.heap.size 185 2 v P.length (flatF P)
 ne : ∀ o v j, a = some o → z = some v → v.ownBlock = some j → j ≠ o
theorem MkSt.below {W1 : World} {ob : Obj} {a : Option Nat} {z : Option Value} {P : Fs} {W W' : World} (h : MkSt W1 ob a z P W) (hb : Below W.heap.size W W') : MkSt W1 ob a z P W' :=
 ⟨h.low.trans (hb.mono h.low.size), fun o ho => ⟨by rw [hb.block o (Array.getElem?_eq_some_iff.1 (h.blk o ho).1).1]; exact (h.blk o ho).1, (h.blk o ho).2⟩, fun v hv => owns_below (h.own v hv) hb (fun g hg => owns_lt (h.own v hv) hg), h.ne⟩
theorem MkSt.make {W1 : World} {ob : Obj} {z : Option Value} {P : Fs} {W : World} (h : MkSt W1 ob none z P W) : MkSt W1 ob (some W.heap.size) z P (W.alloc ob) := by
 have h' := h.below ((Below.refl _ _).alloc (Nat.le_refl _) ob)
 exact ⟨h'.low, fun o ho => by cases ho; exact ⟨heap_alloc_new W _, h.low.size⟩, h'.own, fun o v j ho hv hj => by cases ho; have := owns_lt (h.own v hv) hj; omega⟩
theorem MkSt.put {W1 : World} {ob : Obj} {a : Option Nat} {P : Fs} {W W' : World} {v : Value} (h : MkSt W1 ob a none P W) (hb : Below W.heap.size W W') (hv : W'.ownsRow W.heap.size 185 2 v P.length (flatF P)) : MkSt W1 ob a (some v) P W' := by
 have h' := h.below hb
 exact ⟨h'.low, h'.blk, fun u hu => by cases hu; exact owns_wide hv h.low.size, fun o u j ho hu hj => by
  cases hu
  have h1 := owns_ge hv hj
  have h2 := (Array.getElem?_eq_some_iff.1 (h.blk o ho).1).1
  omega⟩
theorem copy_one {nm vl : ByteArray} (h1 : nm.size ≤ 281474976710656) (h2 : vl.size ≤ 281474976710656) : CopyF [(nm, vl)] := fun i hi => by
 obtain rfl : i = 0 := by simpa using hi
 exact ⟨h1, h2⟩
theorem copy_walk {fs : Fs} {n : Nat} (h : CopyF fs) (hl : fs.length = n) : WalkF n fs := fun i hi => by
 have := h i (by omega)
 unfold maxLen
 omega
theorem putAll_walk (fs gs : Fs) (h : WalkF fs.length fs) (h2 : WalkF gs.length gs) : WalkF (putAll fs gs).length (putAll fs gs) := by
 have hm : ∀ k, k ≤ gs.length → WalkF (putAll fs (gs.take k)).length (putAll fs (gs.take k)) := by
  intro k
  induction k with
  | zero => intro _; simpa [putAll] using h
  | succ k ih =>
   intro hk
   rw [take_field gs k (by omega), putAll_snoc]
   exact put_walk _ _ _ (ih (by omega)) (h2 k (by omega)).1 (h2 k (by omega)).2
 have := hm gs.length (Nat.le_refl _)
 rw [List.take_length] at this
 exact this
theorem implMerge_any (st : Int) (v : Value) (b : Tx) (n base : Nat) (fs : Fs) (st2 : Int) (u : Value) (c : Tx) (k base2 : Nat) (gs : Fs) (w : World) (hv : FieldsV w base v n fs) (hb : b.size ≤ 281474976710656) (hu : FieldsV w base2 u k gs) (hnk : n + k ≤ 1999999) (hcp : CopyF fs) (hcg : CopyF gs) :
  Calls Tryz.prog 141 #[.agg #[.int .i64 st, v, .string b], .agg #[.int .i64 st2, u, .string c]] w fun e w' => RespRow st (mergeF st fs b gs) b w e w' := by
 have hl := hv.len
 have hl2 := hu.len
 obtain ⟨oa, cap, rfl, _⟩ := hv.slice
 obtain ⟨ob, cb, rfl, _⟩ := hu.slice
 obtain ⟨r, hr⟩ := exq (w.heap.size)
 have HR : Hid (w.heap.size = r) := hr.symm
 obtain ⟨W1, hW1⟩ := exq (((w.alloc (.cells #[.int .i64 st, .slice oa n cap, .string b] 60)).alloc (.cells #[.int .i64 st2, .slice ob k cb, .string c] 60)).alloc (.cells #[.int .i64 0, .slice none 0 0, .string ⟨#[]⟩] 60))
 have HW1 := hsy hW1
 have HV : Hid (∀ W, Below r w W → FieldsV W base (.slice oa n cap) n fs) := fun W h => hv.below (by rw [hr] at h; exact h)
 have HU : Hid (∀ W, Below r w W → FieldsV W base2 (.slice ob k cb) k gs) := fun W h => hu.below (by rw [hr] at h; exact h)
 have s3 : W1.heap.size = r + 1 + 1 + 1 := by rw [hW1, hr]; simp
 have HK1 : Hid (∀ W, Below W1.heap.size W1 W → W.heap[r]? = some (.cells #[.int .i64 st, .slice oa n cap, .string b] 60) ∧ W.heap[r + 1]? = some (.cells #[.int .i64 st2, .slice ob k cb, .string c] 60) ∧ W.heap[r + 1 + 1]? = some (.cells #[.int .i64 0, .slice none 0 0, .string ⟨#[]⟩] 60) ∧ Below r w W) := by
  intro W hW
  have b1 : Below r w W1 := by rw [hW1, hr]; exact (((Below.refl _ w).alloc (Nat.le_refl _) _).alloc (by simp) _).alloc (by simp; omega) _
  have s1 : (w.alloc (.cells #[.int .i64 st, .slice oa n cap, .string b] 60)).heap.size = r + 1 := by rw [hr]; simp
  have s2 : ((w.alloc (.cells #[.int .i64 st, .slice oa n cap, .string b] 60)).alloc (.cells #[.int .i64 st2, .slice ob k cb, .string c] 60)).heap.size = r + 1 + 1 := by rw [hr]; simp
  have e0 := heap_alloc_new w (.cells #[.int .i64 st, .slice oa n cap, .string b] 60)
  have e1 := heap_alloc_new (w.alloc (.cells #[.int .i64 st, .slice oa n cap, .string b] 60)) (.cells #[.int .i64 st2, .slice ob k cb, .string c] 60)
  have e2 := heap_alloc_new ((w.alloc (.cells #[.int .i64 st, .slice oa n cap, .string b] 60)).alloc (.cells #[.int .i64 st2, .slice ob k cb, .string c] 60)) (.cells #[.int .i64 0, .slice none 0 0, .string ⟨#[]⟩] 60)
  rw [← hr] at e0
  rw [s1] at e1
  rw [s2, ← hW1] at e2
  have c1 : Below (r + 1) (w.alloc (.cells #[.int .i64 st, .slice oa n cap, .string b] 60)) W1 := by rw [hW1, ← s1]; exact ((Below.refl _ _).alloc (Nat.le_refl _) _).alloc (by simp) _
  have c2 : Below (r + 1 + 1) ((w.alloc (.cells #[.int .i64 st, .slice oa n cap, .string b] 60)).alloc (.cells #[.int .i64 st2, .slice ob k cb, .string c] 60)) W1 := by rw [hW1, ← s2]; exact (Below.refl _ _).alloc (Nat.le_refl _) _
  rw [s3] at hW
  exact ⟨by rw [hW.block r (by omega), c1.block r (by omega)]; exact e0, by rw [hW.block (r + 1) (by omega), c2.block (r + 1) (by omega)]; exact e1, by rw [hW.block (r + 1 + 1) (by omega)]; exact e2, b1.trans (hW.mono (by omega))⟩
 have HS3 : Hid (W1.heap.size = r + 1 + 1 + 1) := s3
 have HSS : Hid (∀ W, Below W1.heap.size W1 W → (W.cell? ⟨r, 0, none⟩ = some (.int .i64 st) ∧ W.cell? ⟨r, 1, none⟩ = some (.slice oa n cap) ∧ W.cell? ⟨r, 2, none⟩ = some (.string b)) ∧ W.cell? ⟨r + 1, 0, none⟩ = some (.int .i64 st2) ∧ W.cell? ⟨r + 1, 1, none⟩ = some (.slice ob k cb) ∧ W.cell? ⟨r + 1, 2, none⟩ = some (.string c)) := fun W h => ⟨(three_facts (HK1.out W h).1).1, (three_facts (HK1.out W h).2.1).1⟩
 have HCF := hid hcp
 have HCG := hid hcg
 have HBM := hid hb
 obtain ⟨P, hP⟩ := exq (putAll fs gs)
 have HPE : Hid (putAll fs gs = P) := hP.symm
 have HPL : Hid (P.length ≤ 1999999) := by show _ ≤ _; rw [hP]; have := putAll_le fs gs; omega
 have HPW : Hid (WalkF P.length P) := by
  show WalkF _ _
  rw [hP]
  exact putAll_walk fs gs (by rw [hl]; exact copy_walk hcp hl) (by rw [hl2]; exact copy_walk hcg hl2)
 have HYES : Hid (RespP st P b → mergeF st fs b gs = P) := fun h => by
  unfold mergeF
  rw [HPE.out]
  exact if_pos h
 have HNO : Hid (¬ RespP st P b → mergeF st fs b gs = fs) := fun h => by
  unfold mergeF
  rw [HPE.out]
  exact if_neg h
 clear hW1 hv hu hcp hcg hb hP s3 hl hl2
 go_enter Tryz.func141, Tryz.ntmps141
 go_upto_region 1 with fail
 rw [HW1.out, ← hr]
 clear hr HW1
 go_cut [5] (fun s5 wx => ∃ (o : Nat) (oz : Oa) (cz : Nat), s5 = .pointer (some ⟨o, 0, none⟩) ∧ Hid (Below W1.heap.size W1 wx ∧ wx.heap[o]? = some (.cells #[.int .i64 st, .slice oz P.length cz, .string b] 60) ∧ W1.heap.size ≤ o ∧ wx.ownsRow W1.heap.size 185 2 (.slice oz P.length cz) P.length (flatF P) ∧ ∀ j, (Value.slice oz P.length cz).ownBlock = some j → j ≠ o))
 case first =>
  refine wp_region_held_drew (S := fun W => (W.cell? ⟨r, 0, none⟩ = some (.int .i64 st) ∧ W.cell? ⟨r, 1, none⟩ = some (.slice oa n cap) ∧ W.cell? ⟨r, 2, none⟩ = some (.string b)) ∧ W.cell? ⟨r + 1, 0, none⟩ = some (.int .i64 st2) ∧ W.cell? ⟨r + 1, 1, none⟩ = some (.slice ob k cb) ∧ W.cell? ⟨r + 1, 2, none⟩ = some (.string c)) (by kernel_rfl) (HSS.out _ (Below.refl _ _).drew) (fun hS0 => ?_)
  have HST : Hid (MkSt W1 (.cells #[.int .i64 0, .slice none 0 0, .string ⟨#[]⟩] 60) none none P W1.drew) := ⟨(Below.refl _ _).drew, (fun o ho => by cases ho), (fun v hv => by cases hv), (fun o v j ho => by cases ho)⟩
  obtain ⟨X0, hX0⟩ := exq W1.drew
  rw [← hX0] at hS0 HST ⊢
  clear hX0
  refine tkP 0 (.pointer (some ⟨r, 0, none⟩)) 6 rfl rfl hS0 ?_
  go_frame
  refine tkL 1 (.int .i64 st) 7 rfl rfl (Or.inl ⟨by rfl, by intro W hW; obtain ⟨⟨s0, s1, s2⟩, t0, t1, t2⟩ := hW; go_simp⟩) hS0 ?_
  go_frame
  refine tkP 2 (.pointer (some ⟨r, 1, none⟩)) 8 rfl rfl hS0 ?_
  go_frame
  refine tkL 3 (.slice oa n cap) 9 rfl rfl (Or.inl ⟨by rfl, by intro W hW; obtain ⟨⟨s0, s1, s2⟩, t0, t1, t2⟩ := hW; go_simp⟩) hS0 ?_
  go_frame
  refine tkP 4 (.pointer (some ⟨r + 1, 1, none⟩)) 10 rfl rfl hS0 ?_
  go_frame
  refine tkL 5 (.slice ob k cb) 11 rfl rfl (Or.inl ⟨by rfl, by intro W hW; obtain ⟨⟨s0, s1, s2⟩, t0, t1, t2⟩ := hW; go_simp⟩) hS0 ?_
  go_frame
  refine tkP 7 (.pointer (some ⟨r, 2, none⟩)) 13 rfl rfl hS0 ?_
  go_frame
  refine tkL 8 (.string b) 14 rfl rfl (Or.inl ⟨by rfl, by intro W hW; obtain ⟨⟨s0, s1, s2⟩, t0, t1, t2⟩ := hW; go_simp⟩) hS0 ?_
  go_frame
  refine wpAnyH_ready (rs := [6, 11]) (by kernel_rfl) (by simp) ?_
  refine AllReadyH.cons rfl (fun K hK => ?_) (AllReadyH.cons rfl (fun K hK => ?_) AllReadyH.nil)
  ·go_simp
   refine (putTogether_any _ n base fs _ k base2 gs _ (HV.out _ (HK1.out _ HST.out.low).2.2.2) (HU.out _ (HK1.out _ HST.out.low).2.2.2) hnk HCF.out HCG.out).mono ?_
   rintro e X1 ⟨zv, rfl, ownz, bx⟩
   obtain ⟨oz, cz, rfl⟩ := slice_of_owns ownz
   rw [HPE.out] at ownz
   have HSN : Hid (MkSt W1 (.cells #[.int .i64 0, .slice none 0 0, .string ⟨#[]⟩] 60) none (some (.slice oz _ cz)) P X1) := HST.out.put bx ownz
   rw [HPE.out]
   clear ownz
   refine hK.out _ _ (HSS.out _ HSN.out.low) (fun _ => ?_)
   clear hK K HST bx
   have HST := HSN
   clear HSN
   refine wpAnyH_ready (rs := [9, 11]) (by kernel_rfl) (by simp) ?_
   refine AllReadyH.cons rfl (fun K hK => ?_) (AllReadyH.cons rfl (fun K hK => ?_) AllReadyH.nil)
   ·go_simp
    refine (clone_any b _ HBM.out).mono ?_
    rintro e X2 ⟨rfl, bx⟩
    have HSN : Hid (MkSt W1 (.cells #[.int .i64 0, .slice none 0 0, .string ⟨#[]⟩] 60) none (some (.slice oz P.length cz)) P X2) := HST.out.below bx
    refine hK.out _ _ (HSS.out _ HSN.out.low) (fun _ => ?_)
    clear hK K HST bx
    have HST := HSN
    clear HSN
    refine wpAnyH_takeD (i := 10) (v := .agg #[.int .i64 st, .slice oz P.length cz, .string b]) (some 16) rfl rfl (by kernel_rfl) (by kernel_rfl) (by kernel_rfl) (fun _ _ _ h => h) (Or.inl ⟨by rfl, by intro W _; go_simp⟩) (HSS.out _ HST.out.low) ?_
    go_frame
    refine rd1 11 rfl (fun K hK => ?_)
    have HSN : Hid (MkSt W1 (.cells #[.int .i64 0, .slice none 0 0, .string ⟨#[]⟩] 60) (some X2.heap.size) (some (.slice oz P.length cz)) P (X2.alloc (.cells #[.int .i64 0, .slice none 0 0, .string ⟨#[]⟩] 60))) := HST.out.make
    go_simp
    refine hK.out _ _ (HSS.out _ HSN.out.low) (fun _ => ?_)
    clear hK K HST
    obtain ⟨pa, ho⟩ := exq (X2.heap.size)
    obtain ⟨X3, hX⟩ := exq (X2.alloc (.cells #[.int .i64 0, .slice none 0 0, .string ⟨#[]⟩] 60))
    rw [← ho] at HSN ⊢
    rw [← hX] at HSN ⊢
    clear ho hX
    have HST := HSN
    clear HSN
    obtain ⟨Y, hY⟩ := exq (threeSet X3 pa (.int .i64 st) (.slice oz P.length cz) (.string b))
    have HY := hsy hY
    have HF : Hid (Below W1.heap.size W1 Y ∧ Y.heap[pa]? = some (.cells #[.int .i64 st, .slice oz P.length cz, .string b] 60) ∧ W1.heap.size ≤ pa ∧ Y.ownsRow W1.heap.size 185 2 (.slice oz P.length cz) P.length (flatF P) ∧ ∀ j, (Value.slice oz P.length cz).ownBlock = some j → j ≠ pa) := by
     show _ ∧ _ ∧ _ ∧ _ ∧ _
     rw [hY]
     exact ⟨below_three HST.out.low (HST.out.blk pa rfl).2, three_set (HST.out.blk pa rfl).1 _ _ _, (HST.out.blk pa rfl).2, owns_same (HST.out.own _ rfl) (fun j hj => three_other _ _ j _ _ _ (HST.out.ne pa _ j rfl rfl hj)), fun j hj => HST.out.ne pa _ j rfl rfl hj⟩
    obtain ⟨⟨e0, e1, e2⟩, g0, g1, g2⟩ := three_facts (HST.out.blk pa rfl).1
    have hs9 := HSS.out _ HF.out.1
    unfold threeSet at HY
    clear hY HST
    refine rd1 12 rfl (fun K hK => ?_)
    go_simp
    rw [HY.out]
    refine hK.out _ _ hs9 (fun _ => ?_)
    clear hK K HY e0 e1 e2 g0 g1 g2 hs9
    refine wdn ?_
    go_wp2_with fail
    go_meet
    exact ⟨pa, oz, cz, rfl, HF⟩
   ·have HSN : Hid (MkSt W1 (.cells #[.int .i64 0, .slice none 0 0, .string ⟨#[]⟩] 60) (some X1.heap.size) (some (.slice oz P.length cz)) P (X1.alloc (.cells #[.int .i64 0, .slice none 0 0, .string ⟨#[]⟩] 60))) := HST.out.make
    go_simp
    refine hK.out _ _ (HSS.out _ HSN.out.low) (fun _ => ?_)
    clear hK K HST
    obtain ⟨pa, ho⟩ := exq (X1.heap.size)
    obtain ⟨X2, hX⟩ := exq (X1.alloc (.cells #[.int .i64 0, .slice none 0 0, .string ⟨#[]⟩] 60))
    rw [← ho] at HSN ⊢
    rw [← hX] at HSN ⊢
    clear ho hX
    have HST := HSN
    clear HSN
    refine rd1 9 rfl (fun K hK => ?_)
    go_simp
    refine (clone_any b _ HBM.out).mono ?_
    rintro e X3 ⟨rfl, bx⟩
    have HSN : Hid (MkSt W1 (.cells #[.int .i64 0, .slice none 0 0, .string ⟨#[]⟩] 60) (some pa) (some (.slice oz P.length cz)) P X3) := HST.out.below bx
    refine hK.out _ _ (HSS.out _ HSN.out.low) (fun _ => ?_)
    clear hK K HST bx
    have HST := HSN
    clear HSN
    refine wpAnyH_takeD (i := 10) (v := .agg #[.int .i64 st, .slice oz P.length cz, .string b]) (some 16) rfl rfl (by kernel_rfl) (by kernel_rfl) (by kernel_rfl) (fun _ _ _ h => h) (Or.inl ⟨by rfl, by intro W _; go_simp⟩) (HSS.out _ HST.out.low) ?_
    go_frame
    obtain ⟨Y, hY⟩ := exq (threeSet X3 pa (.int .i64 st) (.slice oz P.length cz) (.string b))
    have HY := hsy hY
    have HF : Hid (Below W1.heap.size W1 Y ∧ Y.heap[pa]? = some (.cells #[.int .i64 st, .slice oz P.length cz, .string b] 60) ∧ W1.heap.size ≤ pa ∧ Y.ownsRow W1.heap.size 185 2 (.slice oz P.length cz) P.length (flatF P) ∧ ∀ j, (Value.slice oz P.length cz).ownBlock = some j → j ≠ pa) := by
     show _ ∧ _ ∧ _ ∧ _ ∧ _
     rw [hY]
     exact ⟨below_three HST.out.low (HST.out.blk pa rfl).2, three_set (HST.out.blk pa rfl).1 _ _ _, (HST.out.blk pa rfl).2, owns_same (HST.out.own _ rfl) (fun j hj => three_other _ _ j _ _ _ (HST.out.ne pa _ j rfl rfl hj)), fun j hj => HST.out.ne pa _ j rfl rfl hj⟩
    obtain ⟨⟨e0, e1, e2⟩, g0, g1, g2⟩ := three_facts (HST.out.blk pa rfl).1
    have hs9 := HSS.out _ HF.out.1
    unfold threeSet at HY
    clear hY HST
    refine rd1 12 rfl (fun K hK => ?_)
    go_simp
    rw [HY.out]
    refine hK.out _ _ hs9 (fun _ => ?_)
    clear hK K HY e0 e1 e2 g0 g1 g2 hs9
    refine wdn ?_
    go_wp2_with fail
    go_meet
    exact ⟨pa, oz, cz, rfl, HF⟩
  ·have HSN : Hid (MkSt W1 (.cells #[.int .i64 0, .slice none 0 0, .string ⟨#[]⟩] 60) (some X0.heap.size) none P (X0.alloc (.cells #[.int .i64 0, .slice none 0 0, .string ⟨#[]⟩] 60))) := HST.out.make
   go_simp
   refine hK.out _ _ (HSS.out _ HSN.out.low) (fun _ => ?_)
   clear hK K HST
   obtain ⟨pa, ho⟩ := exq (X0.heap.size)
   obtain ⟨X1, hX⟩ := exq (X0.alloc (.cells #[.int .i64 0, .slice none 0 0, .string ⟨#[]⟩] 60))
   rw [← ho] at HSN ⊢
   rw [← hX] at HSN ⊢
   clear ho hX
   have HST := HSN
   clear HSN
   refine rd1 6 rfl (fun K hK => ?_)
   go_simp
   refine (putTogether_any _ n base fs _ k base2 gs _ (HV.out _ (HK1.out _ HST.out.low).2.2.2) (HU.out _ (HK1.out _ HST.out.low).2.2.2) hnk HCF.out HCG.out).mono ?_
   rintro e X2 ⟨zv, rfl, ownz, bx⟩
   obtain ⟨oz, cz, rfl⟩ := slice_of_owns ownz
   rw [HPE.out] at ownz
   have HSN : Hid (MkSt W1 (.cells #[.int .i64 0, .slice none 0 0, .string ⟨#[]⟩] 60) (some pa) (some (.slice oz _ cz)) P X2) := HST.out.put bx ownz
   rw [HPE.out]
   clear ownz
   refine hK.out _ _ (HSS.out _ HSN.out.low) (fun _ => ?_)
   clear hK K HST bx
   have HST := HSN
   clear HSN
   refine rd1 9 rfl (fun K hK => ?_)
   go_simp
   refine (clone_any b _ HBM.out).mono ?_
   rintro e X3 ⟨rfl, bx⟩
   have HSN : Hid (MkSt W1 (.cells #[.int .i64 0, .slice none 0 0, .string ⟨#[]⟩] 60) (some pa) (some (.slice oz P.length cz)) P X3) := HST.out.below bx
   refine hK.out _ _ (HSS.out _ HSN.out.low) (fun _ => ?_)
   clear hK K HST bx
   have HST := HSN
   clear HSN
   refine wpAnyH_takeD (i := 10) (v := .agg #[.int .i64 st, .slice oz P.length cz, .string b]) (some 16) rfl rfl (by kernel_rfl) (by kernel_rfl) (by kernel_rfl) (fun _ _ _ h => h) (Or.inl ⟨by rfl, by intro W _; go_simp⟩) (HSS.out _ HST.out.low) ?_
   go_frame
   obtain ⟨Y, hY⟩ := exq (threeSet X3 pa (.int .i64 st) (.slice oz P.length cz) (.string b))
   have HY := hsy hY
   have HF : Hid (Below W1.heap.size W1 Y ∧ Y.heap[pa]? = some (.cells #[.int .i64 st, .slice oz P.length cz, .string b] 60) ∧ W1.heap.size ≤ pa ∧ Y.ownsRow W1.heap.size 185 2 (.slice oz P.length cz) P.length (flatF P) ∧ ∀ j, (Value.slice oz P.length cz).ownBlock = some j → j ≠ pa) := by
    show _ ∧ _ ∧ _ ∧ _ ∧ _
    rw [hY]
    exact ⟨below_three HST.out.low (HST.out.blk pa rfl).2, three_set (HST.out.blk pa rfl).1 _ _ _, (HST.out.blk pa rfl).2, owns_same (HST.out.own _ rfl) (fun j hj => three_other _ _ j _ _ _ (HST.out.ne pa _ j rfl rfl hj)), fun j hj => HST.out.ne pa _ j rfl rfl hj⟩
   obtain ⟨⟨e0, e1, e2⟩, g0, g1, g2⟩ := three_facts (HST.out.blk pa rfl).1
   have hs9 := HSS.out _ HF.out.1
   unfold threeSet at HY
   clear hY HST
   refine rd1 12 rfl (fun K hK => ?_)
   go_simp
   rw [HY.out]
   refine hK.out _ _ hs9 (fun _ => ?_)
   clear hK K HY e0 e1 e2 g0 g1 g2 hs9
   refine wdn ?_
   go_wp2_with fail
   go_meet
   exact ⟨pa, oz, cz, rfl, HF⟩
 case rest =>
 obtain ⟨o, oz, cz, hs5, HF⟩ := hcut
 rw [hs5]
 obtain ⟨w2, hw2⟩ := exq wc
 rw [← hw2] at HF ⊢
 clear hs5 hw2
 have HST : Hid (MgSt w r o st (.slice oa n cap) b st2 (.slice ob k cb) c (.slice oz P.length cz) P w2) := by
  obtain ⟨a0, a1, a2, a3⟩ := HK1.out _ HF.out.1
  obtain ⟨_, f1, f2, f3, f4⟩ := HF.out
  have h3 := HS3.out
  rw [h3] at f2 f3
  exact ⟨a0, a1, a2, f1, f3, f4, f2, a3⟩
 clear HF HSS HK1 HS3
 obtain ⟨ln, hln⟩ := exq P.length
 have HVQ : Hid (FieldsV w2 (r + 1 + 1 + 1) (.slice oz ln cz) ln P) := by
  have h := FieldsV.of_owns HST.out.own
  rw [← hln] at h
  exact h
 rw [← hln] at HPL HPW HST
 clear hln
 obtain ⟨⟨d0, d1, d2⟩, _⟩ := three_facts HST.out.q3
 go_wp2_with fail
 refine (implRespOk_any st _ b ln _ P _ HVQ.out (by have := HPL.out; omega) HPW.out (by have := HBM.out; unfold maxLen; omega)).mono ?_
 rintro e w3 ⟨ok, rfl, hok, b3⟩
 have HST3 : Hid (MgSt w r o st (.slice oa n cap) b st2 (.slice ob k cb) c (.slice oz ln cz) P w3) := HST.out.below b3
 clear d0 d1 d2 HST HVQ b3
 cases ok with
 | true =>
  have HFE : Hid (mergeF st fs b gs = P) := HYES.out (hok.1 rfl)
  clear hok HYES HNO
  obtain ⟨⟨e0, e1, e2⟩, g0, g1, g2⟩ := three_facts HST3.out.q2
  obtain ⟨⟨d0, d1, d2⟩, _⟩ := three_facts HST3.out.q3
  have hset := three_set HST3.out.q2 (.int .i64 st) (.slice oz ln cz) (.string b)
  obtain ⟨⟨k0, k1, k2⟩, _⟩ := three_facts hset
  have HFB : Hid (Below r w (threeSet (w3) (r + 1 + 1) (.int .i64 st) (.slice oz ln cz) (.string b))) := below_three HST3.out.low (by omega)
  have HFO : Hid ((threeSet (w3) (r + 1 + 1) (.int .i64 st) (.slice oz ln cz) (.string b)).ownsRow r 185 2 (.slice oz ln cz) (mergeF st fs b gs).length (flatF (mergeF st fs b gs))) := by
   show World.ownsRow _ _ _ _ _ _ _
   rw [HFE.out]
   refine owns_same (owns_wide HST3.out.own (by omega)) (fun j hj => ?_)
   have hj2 := owns_ge HST3.out.own hj
   exact three_other _ _ j _ _ _ (by omega)
  unfold threeSet at k0 k1 k2 HFB HFO
  clear hset HST3
  go_wp2_with fail
  refine bodyPost_ret (v := .agg #[.int .i64 st, .slice oz ln cz, .string b]) (by simp [results, Tryz.results141, go_sem, k0, k1, k2]) rfl ?_
  exact ⟨_, rfl, by rw [HR.out]; exact HFO.out, by show Below _ _ _; rw [HR.out]; exact HFB.out⟩
 | false =>
  have HFE : Hid (mergeF st fs b gs = fs) := HNO.out (fun h => nomatch hok.2 h)
  clear hok HYES HNO
  have hva := HV.out _ HST3.out.low
  obtain ⟨⟨_, q1, _⟩, _⟩ := three_facts HST3.out.q0
  have HNIL : Hid (FieldsV w3 0 (.slice none 0 0) 0 []) := .inl ⟨none, 0, rfl, fun _ => rfl, rfl, rfl⟩
  have HCN : Hid (CopyF []) := fun i hi => by cases hi
  go_wp2_with fail
  refine (putTogether_any _ n base fs _ 0 0 [] _ hva HNIL.out (by omega) HCF.out HCN.out).mono ?_
  rintro e w4 ⟨zv, rfl, ownz, b4⟩
  have HPN : Hid (putAll fs [] = fs) := rfl
  rw [HPN.out] at ownz
  obtain ⟨o4, c4, rfl⟩ := slice_of_owns ownz
  obtain ⟨⟨_, f1, _⟩, _, y1, _⟩ := three_facts (HST3.out.below b4).q3
  have HST5 : Hid (MgSt w r o st (.slice oa n cap) b st2 (.slice ob k cb) c (.slice o4 fs.length c4) fs (w4.setCell ⟨o, 1, none⟩ (.slice o4 fs.length c4))) := HST3.out.set b4 ownz
  clear HST3 b4 ownz hva q1 HNIL HCN
  go_upto_region 4 with fail
  obtain ⟨w5, hw5⟩ := exq (w4.setCell ⟨o, 1, none⟩ (.slice o4 fs.length c4))
  rw [← hw5] at HST5 ⊢
  clear hw5 f1 y1
  obtain ⟨lf, hlf⟩ := exq fs.length
  rw [← hlf] at HST5 ⊢
  clear hlf
  obtain ⟨⟨e0, e1, e2⟩, g0, g1, g2⟩ := three_facts HST5.out.q2
  obtain ⟨⟨d0, d1, d2⟩, _⟩ := three_facts HST5.out.q3
  have hset := three_set HST5.out.q2 (.int .i64 st) (.slice o4 lf c4) (.string b)
  obtain ⟨⟨k0, k1, k2⟩, _⟩ := three_facts hset
  have HFB : Hid (Below r w (threeSet (w5) (r + 1 + 1) (.int .i64 st) (.slice o4 lf c4) (.string b))) := below_three HST5.out.low (by omega)
  have HFO : Hid ((threeSet (w5) (r + 1 + 1) (.int .i64 st) (.slice o4 lf c4) (.string b)).ownsRow r 185 2 (.slice o4 lf c4) (mergeF st fs b gs).length (flatF (mergeF st fs b gs))) := by
   show World.ownsRow _ _ _ _ _ _ _
   rw [HFE.out]
   refine owns_same (owns_wide HST5.out.own (by omega)) (fun j hj => ?_)
   have hj2 := owns_ge HST5.out.own hj
   exact three_other _ _ j _ _ _ (by omega)
  unfold threeSet at k0 k1 k2 HFB HFO
  clear hset HST5
  go_wp2_with fail
  refine bodyPost_ret (v := .agg #[.int .i64 st, .slice o4 lf c4, .string b]) (by simp [results, Tryz.results141, go_sem, k0, k1, k2]) rfl ?_
  exact ⟨_, rfl, by rw [HR.out]; exact HFO.out, by show Below _ _ _; rw [HR.out]; exact HFB.out⟩
theorem withinTime_any (n : Int) (w : World) :
  Calls Tryz.prog 185 #[.int .i64 n] w fun e w' => e = .returned (.int .i64 (min (max n 0) 1000000)) ∧ w' = w := by
 go_enter Tryz.func185, Tryz.ntmps185
 go_wp2
 go_ret
 exact ⟨rfl, rfl⟩
theorem implPlus_any (a b : Int) (w : World) :
  Calls Tryz.prog 162 #[.int .i64 a, .int .i64 b] w fun e w' => e = .returned (.int .i64 (plusI a b)) ∧ w' = w := by
 have u1 : 0 ≤ min (max a 0) 1000000 ∧ min (max a 0) 1000000 ≤ 1000000 := by omega
 have u2 : 0 ≤ min (max b 0) 1000000 ∧ min (max b 0) 1000000 ≤ 1000000 := by omega
 have HP : Hid (plusI a b = min (min (max a 0) 1000000 + min (max b 0) 1000000) 1000000) := rfl
 obtain ⟨x, hx⟩ := exq (min (max a 0) 1000000)
 obtain ⟨y, hy⟩ := exq (min (max b 0) 1000000)
 rw [← hx, ← hy] at HP
 rw [← hx] at u1
 rw [← hy] at u2
 have HX : Hid (min (max a 0) 1000000 = x) := hx.symm
 have HY : Hid (min (max b 0) 1000000 = y) := hy.symm
 clear hx hy
 go_enter Tryz.func162, Tryz.ntmps162
 go_wp2_with fail
 refine (withinTime_any _ _).mono ?_
 rintro e w1 ⟨rfl, rfl⟩
 rw [HX.out]
 go_wp2_with fail
 refine (withinTime_any _ _).mono ?_
 rintro e w2 ⟨rfl, rfl⟩
 rw [HY.out]
 go_wp2_with fail
 refine (withinTime_any _ _).mono ?_
 rintro e w3 ⟨rfl, rfl⟩
 go_wp2_with fail
 go_ret
 exact ⟨by rw [HP.out, Int.max_eq_left (by omega : (0 : Int) ≤ x + y)]; rfl, rfl⟩
theorem wrapU (n : Int) : IntKind.u64.wrap n = n % 18446744073709551616 := by simp [IntKind.wrap, IntKind.signed, IntKind.bits]
theorem clock_any (b : Nat) (t now : Int) (w : World) (h0 : -9223372036854775808 ≤ t) (h1 : now ≤ 9223372036854775807) (hc : w.cell? ⟨b, 0, none⟩ = some (.int .i64 t)) :
  Calls Tryz.prog 184 #[.int .i64 now, .pointer (some ⟨b, 0, none⟩)] w fun e w' => e = .returned (.int .i64 (sinceI t now)) ∧ w' = w := by
 by_cases hle : now ≤ t
 ·have HE : Hid (sinceI t now = 0) := by show _ = _; unfold sinceI; rw [if_pos hle]
  go_enter Tryz.func184, Tryz.ntmps184
  go_wp2
  go_ret
  exact ⟨by rw [HE.out]; rfl, rfl⟩
 have HE : Hid (sinceI t now = wrap64 (min (IntKind.u64.wrap (IntKind.u64.wrap now - IntKind.u64.wrap t)) 1000000)) := by
  show _ = _
  unfold sinceI
  rw [if_neg hle]
  rw [wrapU, wrapU, wrapU]
  unfold wrap64
  omega
 go_enter Tryz.func184, Tryz.ntmps184
 go_wp2
 go_ret
 exact ⟨by rw [HE.out]; rfl, rfl⟩
theorem clockFrom_any (t : Int) (w : World) :
  Calls Tryz.prog 161 #[.int .i64 t] w fun e w' => e = .returned (.func (.func 184) #[] #[.pointer (some ⟨w.heap.size, 0, none⟩)]) ∧ w' = w.alloc (.cells #[.int .i64 t] 3) := by
 have hmf : ∀ (fn : Fn) (first cap : Array Value) (w : World), (Instr.makeFunc fn first cap).run Tryz.prog w = .ok (.func fn first cap) w := fun _ _ _ _ => rfl
 go_enter Tryz.func161, Tryz.ntmps161
 go_wp2
 go_ret
 exact ⟨rfl, rfl⟩
theorem numV_none (fs : Fs) (name : Tx) (h : getB fs name = false) : numV (getV fs name) = 0 := by
 unfold getB at h
 unfold getV numV
 rw [if_neg (of_decide_eq_false h)]
 exact if_neg (fun hk => absurd hk.1 (by decide))
theorem statedAge_any (v : Value) (n base : Nat) (fs : Fs) (w : World) (hv : FieldsV w base v n fs) (hn : n ≤ 1073741824) (hcp : CopyF fs) (hsz : (getV fs ageName).size ≤ maxLen) :
  Calls Tryz.prog 163 #[v] w fun e w' => e = .returned (.int .i64 (ageN fs)) ∧ Below w.heap.size w w' := by
 have HN : Hid (getB fs ageName = false → numV (getV fs ageName) = 0) := numV_none fs ageName
 obtain ⟨s, hs⟩ := exq (getV fs ageName)
 obtain ⟨th, hth⟩ := exq (getB fs ageName)
 have HS : Hid (getV fs ageName = s) := hs.symm
 have HT : Hid (getB fs ageName = th) := hth.symm
 rw [← hs] at hsz
 clear hs hth
 go_enter Tryz.func163, Tryz.ntmps163
 go_wp2_with fail
 refine (implGet_any v n base fs ageName _ hv hn hcp).mono ?_
 rintro e w1 ⟨rfl, b1⟩
 rw [HS.out, HT.out]
 clear hv
 cases th
 ·have HE : Hid (ageN fs = 0) := by
   show _ = _
   unfold ageN
   rw [if_neg (fun h => absurd (HT.out.symm.trans h.1) (by decide))]
   exact HN.out HT.out
  go_wp2_with fail
  go_ret
  exact ⟨by rw [HE.out]; rfl, b1⟩
 go_wp2_with fail
 refine (implNumRead_any s _ hsz).mono ?_
 rintro e w2 ⟨b, x, rfl, hb1, hb2, hb3, b2⟩
 have HB : Hid (Below w.heap.size w w2) := b1.trans (b2.mono b1.size)
 cases b with
 | true =>
  have HE : Hid (ageN fs = x) := by
   show _ = _
   unfold ageN
   rw [HS.out, if_neg (fun h => h.2 (hb1.1 rfl))]
   unfold numV
   rw [if_pos (hb1.1 rfl), hb2 rfl]
  clear hb1 hb2 hb3 b2 b1
  go_wp2_with fail
  go_ret
  exact ⟨by rw [HE.out]; rfl, HB.out⟩
 | false =>
  have HE : Hid (ageN fs = 1000000) := by
   show _ = _
   unfold ageN
   rw [HS.out, if_pos ⟨HT.out, fun h => nomatch hb1.2 h⟩]
  clear hb1 hb2 hb3 b2 b1
  go_wp2_with fail
  go_ret
  exact ⟨by rw [HE.out]; rfl, HB.out⟩
theorem implAgeAt_any (v : Value) (n base : Nat) (fs : Fs) (t now : Int) (w : World) (hv : FieldsV w base v n fs) (hn : n ≤ 1073741824) (hcp : CopyF fs) (hsz : (getV fs ageName).size ≤ maxLen) (h0 : -9223372036854775808 ≤ t) (h1 : now ≤ 9223372036854775807) :
  Calls Tryz.prog 134 #[v, .int .i64 t, .int .i64 now] w fun e w' => e = .returned (.int .i64 (ageAt fs t now)) ∧ Below w.heap.size w w' := by
 have HE : Hid (ageAt fs t now = plusI (ageN fs) (sinceI t now)) := rfl
 have b0 : Below w.heap.size w (w.alloc (.cells #[.int .i64 t] 3)) := (Below.refl _ w).alloc (Nat.le_refl _) _
 have hc : (w.alloc (.cells #[.int .i64 t] 3)).cell? ⟨w.heap.size, 0, none⟩ = some (.int .i64 t) := by simp [go_sem]
 have hz : w.heap.size < (w.alloc (.cells #[.int .i64 t] 3)).heap.size := by simp
 have HV : Hid (FieldsV (w.alloc (.cells #[.int .i64 t] 3)) base v n fs) := hv.below b0
 have HC : Hid (∀ w1, Below (w.alloc (.cells #[.int .i64 t] 3)).heap.size (w.alloc (.cells #[.int .i64 t] 3)) w1 → w1.cell? ⟨w.heap.size, 0, none⟩ = some (.int .i64 t) ∧ Below w.heap.size w w1) := fun w1 hb => ⟨(hb.cell hz).trans hc, b0.trans (hb.mono b0.size)⟩
 clear b0 hc hz hv
 go_enter Tryz.func134, Tryz.ntmps134
 go_wp2_with fail
 refine (clockFrom_any t _).mono ?_
 rintro e w1 ⟨rfl, rfl⟩
 go_wp2_with fail
 refine (statedAge_any v n base fs _ HV.out hn hcp hsz).mono ?_
 rintro e w2 ⟨rfl, b2⟩
 obtain ⟨hc, hb⟩ := HC.out w2 b2
 have HB := hid hb
 have HC2 := hid hc
 obtain ⟨x, hx⟩ := exq (ageN fs)
 rw [← hx] at HE ⊢
 clear hb hc b2 hx HV HC
 go_wp2_with fail
 refine (clock_any _ t now _ h0 h1 HC2.out).mono ?_
 rintro e w3 ⟨rfl, rfl⟩
 go_wp2_with fail
 refine (implPlus_any _ _ _).mono ?_
 rintro e w4 ⟨rfl, rfl⟩
 go_wp2_with fail
 go_ret
 exact ⟨by rw [HE.out]; rfl, HB.out⟩
theorem implLife_any (v : Value) (n base : Nat) (fs : Fs) (w : World) (hv : FieldsV w base v n fs) (hn : n ≤ 1073741824) (hcp : CopyF fs) (hsz : (getV fs ccName).size ≤ 1048576) :
  Calls Tryz.prog 135 #[v] w fun e w' => e = .returned (.int .i64 (lifeOf fs)) ∧ Below w.heap.size w w' := by
 have HE : Hid (lifeOf fs = (ccR (getV fs ccName)).age) := rfl
 have HF : Hid ((ccR (getV fs ccName)).ha = false → (ccR (getV fs ccName)).age = 0) := (ccR_fit _).2.2
 go_enter Tryz.func135, Tryz.ntmps135
 go_wp2_with fail
 refine (implCcOf_any v n base fs _ hv hn hcp hsz).mono ?_
 rintro e w1 ⟨rfl, b1⟩
 obtain ⟨c, hc⟩ := exq (ccR (getV fs ccName))
 rw [← hc] at HE HF ⊢
 clear hc hv
 obtain ⟨c0, c1, c2, c3, c4, c5⟩ := c
 rw [show (⟨c0, c1, c2, c3, c4, c5⟩ : CcD).v = .agg #[.bool c0, .bool c1, .bool c2, .bool c3, .bool c4, .int .i64 c5] from rfl]
 cases c4 with
 | true =>
  go_wp2_with fail
  go_ret
  exact ⟨by rw [HE.out]; rfl, b1.alloc b1.size _⟩
 | false =>
  have HZ : Hid (c5 = 0) := HF.out rfl
  go_wp2_with fail
  go_ret
  exact ⟨by rw [HE.out, HZ.out]; rfl, b1.alloc b1.size _⟩
theorem implFresh_any (v : Value) (n base : Nat) (fs : Fs) (t now : Int) (w : World) (hv : FieldsV w base v n fs) (hn : n ≤ 1073741824) (hcp : CopyF fs) (hsz : (getV fs ageName).size ≤ maxLen) (hsz2 : (getV fs ccName).size ≤ 1048576) (h0 : -9223372036854775808 ≤ t) (h1 : now ≤ 9223372036854775807) :
  Calls Tryz.prog 98 #[v, .int .i64 t, .int .i64 now] w fun e w' => e = .returned (.bool (freshOf fs t now)) ∧ Below w.heap.size w w' := by
 have HV : Hid (∀ W, Below w.heap.size w W → FieldsV W base v n fs) := fun W h => hv.below h
 obtain ⟨x, hx⟩ := exq (ageAt fs t now)
 obtain ⟨y, hy⟩ := exq (lifeOf fs)
 obtain ⟨c, hc⟩ := exq (ccR (getV fs ccName))
 obtain ⟨r, hr⟩ := exq (freshOf fs t now)
 have HR : Hid (r = (decide (x < y) && !c.nc)) := by show _ = _; rw [hr, hx, hy, hc]; rfl
 have HX : Hid (ageAt fs t now = x) := hx.symm
 have HY : Hid (lifeOf fs = y) := hy.symm
 have HC : Hid (ccR (getV fs ccName) = c) := hc.symm
 rw [← hr]
 clear hx hy hc hr
 obtain ⟨c0, c1, c2, c3, c4, c5⟩ := c
 have hf := cc_nc c0 c1 c2 c3 c4 c5
 go_enter Tryz.func98, Tryz.ntmps98
 go_wp2_with fail
 refine (implAgeAt_any v n base fs t now _ hv hn hcp hsz h0 h1).mono ?_
 rintro e w1 ⟨rfl, b1⟩
 rw [HX.out]
 have HB1 : Hid (Below w.heap.size w w1) := b1
 clear b1 hv
 go_wp2_with fail
 refine (implLife_any v n base fs _ (HV.out _ HB1.out) hn hcp hsz2).mono ?_
 rintro e w2 ⟨rfl, b2⟩
 rw [HY.out]
 have HB2 : Hid (Below w.heap.size w w2) := HB1.out.trans (b2.mono HB1.out.size)
 clear b2
 by_cases hlt : x < y
 rotate_left
 ·have HE2 : Hid (r = false) := by show _ = _; rw [HR.out, decide_eq_false hlt, Bool.false_and]
  clear hf HX HY HC HR HV hsz hsz2
  go_wp2_with fail
  go_ret
  exact ⟨by rw [HE2.out]; rfl, HB2.out⟩
 have HE2 : Hid (r = !c1) := by show _ = _; rw [HR.out, decide_eq_true hlt, Bool.true_and]
 go_wp2_with fail
 refine (implCcOf_any v n base fs _ (HV.out _ HB2.out) hn hcp hsz2).mono ?_
 rintro e w3 ⟨rfl, b3⟩
 rw [HC.out, show (⟨c0, c1, c2, c3, c4, c5⟩ : CcD).v = .agg #[.bool c0, .bool c1, .bool c2, .bool c3, .bool c4, .int .i64 c5] from rfl]
 have HB3 : Hid (Below w.heap.size w w3) := HB2.out.trans (b3.mono HB2.out.size)
 clear b3
 go_wp2_with fail
 go_ret
 exact ⟨by rw [HE2.out]; rfl, HB3.out⟩
theorem implAnswer_any (ma : Int) (pa : Tx) (va : Value) (ba : Tx) (na basea : Nat) (fsa : Fs) (op : Tx) (o1 o2 : Oa) (n1 c1 n2 c2 : Nat) (st : Int) (u : Value) (d : Tx) (t : Int) (k baseo : Nat) (gs : Fs) (now : Int) (w : World) (hva : FieldsV w basea va na fsa) (hna : na ≤ 1048576) (hsa : WalkF na fsa) (hpa : pa.size ≤ maxLen) (hba : ba.size ≤ maxLen) (hga : ∀ x, (getV fsa x).size ≤ 1048576) (hca : CopyF fsa) (hu : FieldsV w baseo u k gs) (hk : k ≤ 1048576) (hso : WalkF k gs) (hd : d.size ≤ maxLen) (hgo : ∀ x, (getV gs x).size ≤ 1048576) (ht : -9223372036854775808 ≤ t) (hnow : now ≤ 9223372036854775807) (hco : CopyF gs) (hdz : d.size ≤ 281474976710656) (htab : TabOk w) :
  Calls Tryz.prog 101 #[.agg #[.int .i64 ma, .string pa, va, .string ba], .agg #[.string op, .slice o1 n1 c1, .slice o2 n2 c2, .int .i64 st, u, .string d, .int .i64 t], .int .i64 now] w fun e w' => RespRow (ansS fsa gs st) (ansF fsa gs st d t now) (ansB fsa gs d) w e w' := by
 obtain ⟨oa, ca, hsl, _⟩ := hva.slice
 subst hsl
 have HVa : Hid (∀ W, Below w.heap.size w W → FieldsV W basea (.slice oa na ca) na fsa) := fun W h => hva.below h
 have HLFa : Hid (fsa.length = na) := hva.len
 have HSa := hid hsa
 have HPMa := hid hpa
 have HBMa := hid hba
 have HQVa := hid hga
 have HCa := hid hca
 clear hva hsa hpa hba hga hca
 obtain ⟨o3, c3, hsl, _⟩ := hu.slice
 subst hsl
 have HVo : Hid (∀ W, Below w.heap.size w W → FieldsV W baseo (.slice o3 k c3) k gs) := fun W h => hu.below h
 have HLo : Hid (gs.length = k) := hu.len
 have HSo := hid hso
 have HDM := hid hd
 have HGo := hid hgo
 have HTN : Hid (-9223372036854775808 ≤ t ∧ now ≤ 9223372036854775807) := ⟨ht, hnow⟩
 have HCo := hid hco
 have HDZ := hid hdz
 have HT : Hid (∀ W, Below w.heap.size w W → TabOk W) := fun W h => htab.below h
 clear hco hdz htab
 clear hu hso hd hgo ht hnow
 obtain ⟨sg, hsg⟩ := exq (shortF gs)
 have HSG : Hid (shortF gs = sg) := hsg.symm
 have HSL : Hid (sg.length ≤ k) := by show _ ≤ _; rw [hsg, ← HLo.out]; exact shortF_le gs
 have bsl : sg.length ≤ 1048576 := by have := HSL.out; omega
 have HSW : Hid (WalkF sg.length sg) := by show WalkF _ _; rw [hsg]; exact walk_short HLo.out HSo.out
 have HSC : Hid (CopyF sg) := by show CopyF _; rw [hsg]; exact copy_short HCo.out
 clear hsg
 obtain ⟨ag, hag⟩ := exq (ageAt gs t now)
 have HAG : Hid (ageAt gs t now = ag) := hag.symm
 have HAB : Hid (0 ≤ ag ∧ ag ≤ 1000000) := by show _ ∧ _; rw [hag]; exact ageAt_in gs t now
 have hab0 : -9223372036854775808 ≤ ag := by have := HAB.out.1; omega
 have hab1 : ag ≤ 9223372036854775807 := by have := HAB.out.2; omega
 clear hag
 obtain ⟨tx, htx⟩ := exq (numTextI ag)
 have HTX : Hid (numTextI ag = tx) := htx.symm
 have HAT : Hid (ageT gs t now = tx) := by show _ = _; rw [htx, ← HAG.out]; rfl
 have HTZ : Hid (tx.size ≤ 8) := by show _ ≤ _; rw [← HAT.out]; exact ageT_size gs t now
 clear htx
 have hb0 := Below.refl w.heap.size w
 go_enter Tryz.func101, Tryz.ntmps101
 go_upto_region 1 with fail
 obtain ⟨q1, hq1⟩ := exq (w.heap.size)
 obtain ⟨w1, hW1⟩ := exq (w.alloc (.cells #[.int .i64 ma, .string pa, .slice oa na ca, .string ba] 58))
 have hz1 := hq1.symm
 rw [← hW1]; try rw [← hq1]
 have hs1 := hsa hW1 hz1
 have bw := bal hW1
 have hb1 := hbt hb0 bw
 have B1_1 := hnew hW1 hz1
 clear hb0 bw hW1 hz1
 obtain ⟨q2, hq2⟩ := exq (q1 + 1)
 obtain ⟨w2, hW2⟩ := exq (w1.alloc (.cells #[.string op, .slice o1 n1 c1, .slice o2 n2 c2, .int .i64 st, .slice o3 k c3, .string d, .int .i64 t] 62))
 have hz2 : w1.heap.size = q2 := by rw [hq2]; exact hs1
 rw [← hW2]; try rw [← hq2]
 have hs2 := hsa hW2 hz2
 have bw := bal hW2
 have hb2 := hbt hb1 bw
 have B1_2 := hblk B1_1 bw
 have B2_2 := hnew hW2 hz2
 clear hb1 bw hW2 hz2
 obtain ⟨q3, hq3⟩ := exq (q2 + 1)
 obtain ⟨w3, hW3⟩ := exq (w2.alloc (.cells #[.int .i64 0, .slice none 0 0, .string ⟨#[]⟩] 60))
 have hz3 : w2.heap.size = q3 := by rw [hq3]; exact hs2
 rw [← hW3]; try rw [← hq3]
 have hs3 := hsa hW3 hz3
 have bw := bal hW3
 have hb3 := hbt hb2 bw
 have B1_3 := hblk B1_2 bw
 have B2_3 := hblk B2_2 bw
 have Nv1v3 := hnq B1_2 hz3
 have Nv2v3 := hnq B2_2 hz3
 have B3_3 := hnew hW3 hz3
 have Gv3 := hge hz3 hb2
 clear hb2 bw hW3 hz3
 clear hs3 hq3 hs2 hq2 hs1 hq1
 have c2_3 := (k7c B2_3).2.2.2.1
 have Acv2_3 := hca B2_3 3 rfl
 have Afcv2_3 := hfa B2_3 3
 have c2_4 := (k7c B2_3).2.2.2.2.1
 have Acv2_4 := hca B2_3 4 rfl
 have Afcv2_4 := hfa B2_3 4
 have c2_5 := (k7c B2_3).2.2.2.2.2.1
 have Acv2_5 := hca B2_3 5 rfl
 have Afcv2_5 := hfa B2_3 5
 go_upto_region 2 with fail
 obtain ⟨q4, hq4⟩ := exq (w3.heap.size)
 obtain ⟨w4, hW4⟩ := exq (w3.alloc (.cells #[.int .i64 st, .slice o3 k c3, .string d] 60))
 have hz4 := hq4.symm
 rw [← hW4]; try rw [← hq4]
 have hs4 := hsa hW4 hz4
 have bw := bal hW4
 have hb4 := hbt hb3 bw
 have B1_4 := hblk B1_3 bw
 have B2_4 := hblk B2_3 bw
 have B3_4 := hblk B3_3 bw
 have Nv1v4 := hnq B1_3 hz4
 have Nv2v4 := hnq B2_3 hz4
 have Nv3v4 := hnq B3_3 hz4
 have B4_4 := hnew hW4 hz4
 have Gv4 := hge hz4 hb3
 clear hb3 bw hW4 hz4
 clear hs4 hq4
 clear c2_3 Acv2_3 Afcv2_3 c2_4 Acv2_4 Afcv2_4 c2_5 Acv2_5 Afcv2_5
 have c1_0 := (k4c B1_4).1
 have c1_1 := (k4c B1_4).2.1
 have c1_2 := (k4c B1_4).2.2.1
 have c1_3 := (k4c B1_4).2.2.2
 have c4_1 := (k3c B4_4).2.1
 go_wp2_with fail
 refine (implSame_any ma pa _ ba na basea fsa _ k baseo gs _ (HVa.out _ hb4) (by omega) (HVo.out _ hb4) (by omega) HCa.out HCo.out).mono ?_
 rintro e w5 ⟨sm, rfl, hsm, bw⟩
 have hb5 := hbt hb4 bw
 have B1_5 := hblk B1_4 bw
 have B2_5 := hblk B2_4 bw
 have B3_5 := hblk B3_4 bw
 have B4_5 := hblk B4_4 bw
 clear hb4 bw
 clear c1_0 c1_1 c1_2 c1_3 c4_1
 cases sm
 ·have HNsm : Hid (¬ (SameP fsa gs)) := fun h => nomatch hsm.2 h
  clear hsm
  have c2_4 := (k7c B2_5).2.2.2.2.1
  have c2_6 := (k7c B2_5).2.2.2.2.2.2
  go_wp2_with fail
  refine (implAgeAt_any _ k baseo gs t now _ (HVo.out _ hb5) (by omega) HCo.out (by have := HGo.out ageName; unfold maxLen; omega) HTN.out.1 HTN.out.2).mono ?_
  rintro e w6 ⟨rfl, bw⟩
  rw [HAG.out]
  have hb6 := hbt hb5 bw
  have HM6 := hsz bw
  have B1_6 := hblk B1_5 bw
  have B2_6 := hblk B2_5 bw
  have B3_6 := hblk B3_5 bw
  have B4_6 := hblk B4_5 bw
  clear hb5 bw
  clear c2_4 c2_6
  go_wp2_with fail
  refine (implNumText_any ag _ hab0 hab1 (HT.out _ hb6)).mono ?_
  rintro e w7 ⟨rfl, bw⟩
  rw [HTX.out]
  have hb7 := hbt hb6 bw
  have HM7 := hsz bw
  have B1_7 := hblk B1_6 bw
  have B2_7 := hblk B2_6 bw
  have B3_7 := hblk B3_6 bw
  have B4_7 := hblk B4_6 bw
  clear hb6 bw
  have c4_0 := (k3c B4_7).1
  have Acv4_0 := hca B4_7 0 rfl
  have Afcv4_0 := hfa B4_7 0
  have c4_1 := (k3c B4_7).2.1
  have Acv4_1 := hca B4_7 1 rfl
  have Afcv4_1 := hfa B4_7 1
  have c4_2 := (k3c B4_7).2.2
  have Acv4_2 := hca B4_7 2 rfl
  have Afcv4_2 := hfa B4_7 2
  go_wp2_with fail
  obtain ⟨q5, hq5⟩ := exq (w7.heap.size)
  obtain ⟨w8, hW8⟩ := exq (w7.alloc (.cells #[.string ⟨#[97, 103, 101]⟩, .string tx] 185))
  have hz8 := hq5.symm
  rw [← hW8]; try rw [← hq5]
  have hs8 := hsa hW8 hz8
  have bw := bal hW8
  have hb8 := hbt hb7 bw
  have HM8 := hsz bw
  have B1_8 := hblk B1_7 bw
  have B2_8 := hblk B2_7 bw
  have B3_8 := hblk B3_7 bw
  have B4_8 := hblk B4_7 bw
  have Nv1v5 := hnq B1_7 hz8
  have Nv2v5 := hnq B2_7 hz8
  have Nv3v5 := hnq B3_7 hz8
  have Nv4v5 := hnq B4_7 hz8
  have B5_8 := hnew hW8 hz8
  have Gv5 := hge hz8 hb7
  clear hb7 bw hW8 hz8
  clear hs8 hq5
  have HFA : Hid (w8.ownsRow w.heap.size 185 2 (.slice (some ⟨q5, 0, none⟩) 1 1) 1 (flatF [(ageName, tx)])) := ⟨rfl, .inr ⟨_, 1, #[.string ageName, .string tx], rfl, Gv5.out, B5_8.out, Nat.le_refl _, by decide, rfl, rfl⟩⟩
  refine (implMerge_any st _ d k _ gs 0 _ ⟨#[]⟩ 1 _ [(ageName, tx)] _ (HVo.out _ hb8) HDZ.out (FieldsV.of_owns HFA.out) (by omega) HCo.out (copy_one (by decide) (by have := HTZ.out; omega))).mono ?_
  rintro e w9 ⟨vv, rfl, ownPG, bw⟩
  obtain ⟨pg, hpg⟩ := exq (mergeF st gs d [(ageName, tx)])
  have HPG : Hid (mergeF st gs d [(ageName, tx)] = pg) := hpg.symm
  rw [← hpg] at ownPG
  clear hpg HFA
  obtain ⟨oPG, pPG, rfl⟩ := slice_of_owns ownPG
  have hb9 := hbt hb8 bw
  have HM9 := hsz bw
  have B1_9 := hblk B1_8 bw
  have B2_9 := hblk B2_8 bw
  have B3_9 := hblk B3_8 bw
  have B4_9 := hblk B4_8 bw
  have B5_9 := hblk B5_8 bw
  have HOPG_9 := hwd ownPG hb8.size
  have LOPG := hlo ownPG
  have HIPG := hhi ownPG
  clear ownPG
  have HRPGv5 : Hid (∀ g, (Value.ownBlock (.slice oPG pg.length pPG)) = some g → g ≠ q5) := fun g hg e => by have h1 := LOPG.out g hg; have h2 := (blt B5_8.out); omega
  clear hb8 bw
  clear c4_0 Acv4_0 Afcv4_0 c4_1 Acv4_1 Afcv4_1 c4_2 Acv4_2 Afcv4_2
  have c3_0 := (k3c B3_9).1
  have f3_0 := hfz B3_9 0
  have c3_1 := (k3c B3_9).2.1
  have f3_1 := hfz B3_9 1
  have c3_2 := (k3c B3_9).2.2
  have f3_2 := hfz B3_9 2
  go_wp2_with fail
  obtain ⟨w10, hW10⟩ := exq (w9.setCell ⟨q3, 0, none⟩ (.int .i64 st))
  rw [← hW10]
  have hb10 := hbS hW10 hb9 Gv3
  have HM10 : Hid (w9.heap.size ≤ w10.heap.size) := by show _ ≤ _; rw [hW10]; simp
  have HOPG_10 := hsetR hW10 (own_ne HOPG_9.out B3_9.out (by decide)) HOPG_9
  have B1_10 := hset hW10 Nv1v3.out B1_9
  have B2_10 := hset hW10 Nv2v3.out B2_9
  have B4_10 := hset hW10 Nv3v4.out.symm B4_9
  have B5_10 := hset hW10 Nv3v5.out.symm B5_9
  have B3_10 := hput hW10 B3_9
  clear hb9 hW10
  obtain ⟨w11, hW11⟩ := exq (w10.setCell ⟨q3, 1, none⟩ (.slice oPG pg.length pPG))
  rw [← hW11]
  have hb11 := hbS hW11 hb10 Gv3
  have HM11 : Hid (w10.heap.size ≤ w11.heap.size) := by show _ ≤ _; rw [hW11]; simp
  have HOPG_11 := hsetR hW11 (own_ne HOPG_10.out B3_10.out (by decide)) HOPG_10
  have B1_11 := hset hW11 Nv1v3.out B1_10
  have B2_11 := hset hW11 Nv2v3.out B2_10
  have B4_11 := hset hW11 Nv3v4.out.symm B4_10
  have B5_11 := hset hW11 Nv3v5.out.symm B5_10
  have B3_11 := hput hW11 B3_10
  clear hb10 hW11
  obtain ⟨w12, hW12⟩ := exq (w11.setCell ⟨q3, 2, none⟩ (.string d))
  rw [← hW12]
  have hb12 := hbS hW12 hb11 Gv3
  have HM12 : Hid (w11.heap.size ≤ w12.heap.size) := by show _ ≤ _; rw [hW12]; simp
  have HOPG_12 := hsetR hW12 (own_ne HOPG_11.out B3_11.out (by decide)) HOPG_11
  have B1_12 := hset hW12 Nv1v3.out B1_11
  have B2_12 := hset hW12 Nv2v3.out B2_11
  have B4_12 := hset hW12 Nv3v4.out.symm B4_11
  have B5_12 := hset hW12 Nv3v5.out.symm B5_11
  have B3_12 := hput hW12 B3_11
  clear hb11 hW12
  have kv3_0 := (k3c B3_12).1
  have kv3_1 := (k3c B3_12).2.1
  have kv3_2 := (k3c B3_12).2.2
  refine bodyPost_ret (v := .agg #[.int .i64 st, .slice oPG pg.length pPG, .string d]) (by simp [results, Tryz.results101, go_sem, kv3_0, kv3_1, kv3_2]) rfl ?_
  unfold ansF
  rw [ansS_no HNsm.out, ansB_no HNsm.out, ansG_no HNsm.out, HAT.out, HPG.out]
  exact ⟨_, rfl, HOPG_12.out, hb12⟩
 have HYsm : Hid (SameP fsa gs) := hsm.1 rfl
 clear hsm
 have c4_0 := (k3c B4_5).1
 have c4_1 := (k3c B4_5).2.1
 have c4_2 := (k3c B4_5).2.2
 go_wp2_with fail
 refine (implShort_any st _ d k baseo gs _ (HVo.out _ hb5) (by omega) HCo.out).mono ?_
 rintro e w6 ⟨vv, rfl, ownSG, bw⟩
 rw [HSG.out] at ownSG
 obtain ⟨oSG, pSG, rfl⟩ := slice_of_owns ownSG
 have hb6 := hbt hb5 bw
 have HM6 := hsz bw
 have B1_6 := hblk B1_5 bw
 have B2_6 := hblk B2_5 bw
 have B3_6 := hblk B3_5 bw
 have B4_6 := hblk B4_5 bw
 have HOSG_6 := hwd ownSG hb5.size
 clear ownSG
 clear hb5 bw
 clear c4_0 c4_1 c4_2
 have c4_0 := (k3c B4_6).1
 have f4_0 := hfz B4_6 0
 have c4_1 := (k3c B4_6).2.1
 have f4_1 := hfz B4_6 1
 have c4_2 := (k3c B4_6).2.2
 have f4_2 := hfz B4_6 2
 go_upto_region 4 with fail
 obtain ⟨w7, hW7⟩ := exq (w6.setCell ⟨q4, 0, none⟩ (.int .i64 304))
 rw [← hW7]
 have hb7 := hbS hW7 hb6 Gv4
 have HM7 : Hid (w6.heap.size ≤ w7.heap.size) := by show _ ≤ _; rw [hW7]; simp
 have HOSG_7 := hsetR hW7 (own_ne HOSG_6.out B4_6.out (by decide)) HOSG_6
 have B1_7 := hset hW7 Nv1v4.out B1_6
 have B2_7 := hset hW7 Nv2v4.out B2_6
 have B3_7 := hset hW7 Nv3v4.out B3_6
 have B4_7 := hput hW7 B4_6
 clear hb6 hW7
 obtain ⟨w8, hW8⟩ := exq (w7.setCell ⟨q4, 1, none⟩ (.slice oSG sg.length pSG))
 rw [← hW8]
 have hb8 := hbS hW8 hb7 Gv4
 have HM8 : Hid (w7.heap.size ≤ w8.heap.size) := by show _ ≤ _; rw [hW8]; simp
 have HOSG_8 := hsetR hW8 (own_ne HOSG_7.out B4_7.out (by decide)) HOSG_7
 have B1_8 := hset hW8 Nv1v4.out B1_7
 have B2_8 := hset hW8 Nv2v4.out B2_7
 have B3_8 := hset hW8 Nv3v4.out B3_7
 have B4_8 := hput hW8 B4_7
 clear hb7 hW8
 obtain ⟨w9, hW9⟩ := exq (w8.setCell ⟨q4, 2, none⟩ (.string ⟨#[]⟩))
 rw [← hW9]
 have hb9 := hbS hW9 hb8 Gv4
 have HM9 : Hid (w8.heap.size ≤ w9.heap.size) := by show _ ≤ _; rw [hW9]; simp
 have HOSG_9 := hsetR hW9 (own_ne HOSG_8.out B4_8.out (by decide)) HOSG_8
 have B1_9 := hset hW9 Nv1v4.out B1_8
 have B2_9 := hset hW9 Nv2v4.out B2_8
 have B3_9 := hset hW9 Nv3v4.out B3_8
 have B4_9 := hput hW9 B4_8
 clear hb8 hW9
 clear c4_0 f4_0 c4_1 f4_1 c4_2 f4_2
 have c2_4 := (k7c B2_9).2.2.2.2.1
 have c2_6 := (k7c B2_9).2.2.2.2.2.2
 go_wp2_with fail
 refine (implAgeAt_any _ k baseo gs t now _ (HVo.out _ hb9) (by omega) HCo.out (by have := HGo.out ageName; unfold maxLen; omega) HTN.out.1 HTN.out.2).mono ?_
 rintro e w10 ⟨rfl, bw⟩
 rw [HAG.out]
 have hb10 := hbt hb9 bw
 have HM10 := hsz bw
 have HOSG_10 := hown HOSG_9 bw
 have B1_10 := hblk B1_9 bw
 have B2_10 := hblk B2_9 bw
 have B3_10 := hblk B3_9 bw
 have B4_10 := hblk B4_9 bw
 clear hb9 bw
 clear c2_4 c2_6
 go_wp2_with fail
 refine (implNumText_any ag _ hab0 hab1 (HT.out _ hb10)).mono ?_
 rintro e w11 ⟨rfl, bw⟩
 rw [HTX.out]
 have hb11 := hbt hb10 bw
 have HM11 := hsz bw
 have HOSG_11 := hown HOSG_10 bw
 have B1_11 := hblk B1_10 bw
 have B2_11 := hblk B2_10 bw
 have B3_11 := hblk B3_10 bw
 have B4_11 := hblk B4_10 bw
 clear hb10 bw
 have c4_0 := (k3c B4_11).1
 have Acv4_0 := hca B4_11 0 rfl
 have Afcv4_0 := hfa B4_11 0
 have c4_1 := (k3c B4_11).2.1
 have Acv4_1 := hca B4_11 1 rfl
 have Afcv4_1 := hfa B4_11 1
 have c4_2 := (k3c B4_11).2.2
 have Acv4_2 := hca B4_11 2 rfl
 have Afcv4_2 := hfa B4_11 2
 go_wp2_with fail
 obtain ⟨q5, hq5⟩ := exq (w11.heap.size)
 obtain ⟨w12, hW12⟩ := exq (w11.alloc (.cells #[.string ⟨#[97, 103, 101]⟩, .string tx] 185))
 have hz12 := hq5.symm
 rw [← hW12]; try rw [← hq5]
 have hs12 := hsa hW12 hz12
 have bw := bal hW12
 have hb12 := hbt hb11 bw
 have HM12 := hsz bw
 have HOSG_12 := hown HOSG_11 bw
 have B1_12 := hblk B1_11 bw
 have B2_12 := hblk B2_11 bw
 have B3_12 := hblk B3_11 bw
 have B4_12 := hblk B4_11 bw
 have Nv1v5 := hnq B1_11 hz12
 have Nv2v5 := hnq B2_11 hz12
 have Nv3v5 := hnq B3_11 hz12
 have Nv4v5 := hnq B4_11 hz12
 have B5_12 := hnew hW12 hz12
 have Gv5 := hge hz12 hb11
 clear hb11 bw hW12 hz12
 clear hs12 hq5
 have HFA : Hid (w12.ownsRow w.heap.size 185 2 (.slice (some ⟨q5, 0, none⟩) 1 1) 1 (flatF [(ageName, tx)])) := ⟨rfl, .inr ⟨_, 1, #[.string ageName, .string tx], rfl, Gv5.out, B5_12.out, Nat.le_refl _, by decide, rfl, rfl⟩⟩
 refine (implMerge_any 304 _ ⟨#[]⟩ sg.length _ sg 0 _ ⟨#[]⟩ 1 _ [(ageName, tx)] _ (FieldsV.of_owns HOSG_12.out) (by decide) (FieldsV.of_owns HFA.out) (by omega) HSC.out (copy_one (by decide) (by have := HTZ.out; omega))).mono ?_
 rintro e w13 ⟨vv, rfl, ownPG, bw⟩
 obtain ⟨pg, hpg⟩ := exq (mergeF 304 sg ⟨#[]⟩ [(ageName, tx)])
 have HPG : Hid (mergeF 304 sg ⟨#[]⟩ [(ageName, tx)] = pg) := hpg.symm
 rw [← hpg] at ownPG
 clear hpg HFA
 obtain ⟨oPG, pPG, rfl⟩ := slice_of_owns ownPG
 have hb13 := hbt hb12 bw
 have HOSG_13 := hown HOSG_12 bw
 have B1_13 := hblk B1_12 bw
 have B2_13 := hblk B2_12 bw
 have B3_13 := hblk B3_12 bw
 have B4_13 := hblk B4_12 bw
 have B5_13 := hblk B5_12 bw
 have HOPG_13 := hwd ownPG hb12.size
 have LOPG := hlo ownPG
 have HIPG := hhi ownPG
 clear ownPG
 have HRPGv5 : Hid (∀ g, (Value.ownBlock (.slice oPG pg.length pPG)) = some g → g ≠ q5) := fun g hg e => by have h1 := LOPG.out g hg; have h2 := (blt B5_12.out); omega
 clear hb12 bw
 clear c4_0 Acv4_0 Afcv4_0 c4_1 Acv4_1 Afcv4_1 c4_2 Acv4_2 Afcv4_2
 have c3_0 := (k3c B3_13).1
 have f3_0 := hfz B3_13 0
 have c3_1 := (k3c B3_13).2.1
 have f3_1 := hfz B3_13 1
 have c3_2 := (k3c B3_13).2.2
 have f3_2 := hfz B3_13 2
 go_wp2_with fail
 obtain ⟨w14, hW14⟩ := exq (w13.setCell ⟨q3, 0, none⟩ (.int .i64 304))
 rw [← hW14]
 have hb14 := hbS hW14 hb13 Gv3
 have HOSG_14 := hsetR hW14 (own_ne HOSG_13.out B3_13.out (by decide)) HOSG_13
 have HOPG_14 := hsetR hW14 (own_ne HOPG_13.out B3_13.out (by decide)) HOPG_13
 have B1_14 := hset hW14 Nv1v3.out B1_13
 have B2_14 := hset hW14 Nv2v3.out B2_13
 have B4_14 := hset hW14 Nv3v4.out.symm B4_13
 have B5_14 := hset hW14 Nv3v5.out.symm B5_13
 have B3_14 := hput hW14 B3_13
 clear hb13 hW14
 obtain ⟨w15, hW15⟩ := exq (w14.setCell ⟨q3, 1, none⟩ (.slice oPG pg.length pPG))
 rw [← hW15]
 have hb15 := hbS hW15 hb14 Gv3
 have HOSG_15 := hsetR hW15 (own_ne HOSG_14.out B3_14.out (by decide)) HOSG_14
 have HOPG_15 := hsetR hW15 (own_ne HOPG_14.out B3_14.out (by decide)) HOPG_14
 have B1_15 := hset hW15 Nv1v3.out B1_14
 have B2_15 := hset hW15 Nv2v3.out B2_14
 have B4_15 := hset hW15 Nv3v4.out.symm B4_14
 have B5_15 := hset hW15 Nv3v5.out.symm B5_14
 have B3_15 := hput hW15 B3_14
 clear hb14 hW15
 obtain ⟨w16, hW16⟩ := exq (w15.setCell ⟨q3, 2, none⟩ (.string ⟨#[]⟩))
 rw [← hW16]
 have hb16 := hbS hW16 hb15 Gv3
 have HOSG_16 := hsetR hW16 (own_ne HOSG_15.out B3_15.out (by decide)) HOSG_15
 have HOPG_16 := hsetR hW16 (own_ne HOPG_15.out B3_15.out (by decide)) HOPG_15
 have B1_16 := hset hW16 Nv1v3.out B1_15
 have B2_16 := hset hW16 Nv2v3.out B2_15
 have B4_16 := hset hW16 Nv3v4.out.symm B4_15
 have B5_16 := hset hW16 Nv3v5.out.symm B5_15
 have B3_16 := hput hW16 B3_15
 clear hb15 hW16
 have kv3_0 := (k3c B3_16).1
 have kv3_1 := (k3c B3_16).2.1
 have kv3_2 := (k3c B3_16).2.2
 refine bodyPost_ret (v := .agg #[.int .i64 304, .slice oPG pg.length pPG, .string ⟨#[]⟩]) (by simp [results, Tryz.results101, go_sem, kv3_0, kv3_1, kv3_2]) rfl ?_
 unfold ansF
 rw [ansS_yes HYsm.out, ansB_yes HYsm.out, ansG_yes HYsm.out, HAT.out, HSG.out, HPG.out]
 exact ⟨_, rfl, HOPG_16.out, hb16⟩
def SameRP (st : Int) (fs : Fs) (b : Tx) (st' : Int) (fs' : Fs) (b' : Tx) : Prop := st = st' ∧ fs = fs' ∧ b = b'
def AsksP (m : Int) (fs : Fs) : Prop := m = 1 ∧ (ccR (getV fs ccName)).nc = false ∧ (ccR (getV fs ccName)).ns = false
def AnsweredP (a : RpD) : Prop := SameRP a.rst a.rfs a.rbd (ansS a.qfs a.ofs a.ost) (ansF a.qfs a.ofs a.ost a.obd a.otm a.tim) (ansB a.qfs a.ofs a.obd)
def GivenP (se : List SeD) (a : RpD) : Prop := ∃ j, j < se.length ∧ CameP (seAt se j) a
def HereRP (c : CaD) (a : RpD) : Prop := freshOf a.ofs a.otm a.tim = true ∧ a.opa = a.qpa ∧ suitsP a.oxs a.oys a.qfs = true ∧ AsksP a.qmt a.qfs ∧ AnsweredP a ∧ GivenP c.se a
def JHereP (c : CaD) : Prop := CacheP c ∧ True ∧ EachHere (HereRP c) c.sn
def TimesR (a : RpD) : Prop := -9223372036854775808 ≤ a.otm ∧ a.tim ≤ 9223372036854775807
def TimesOk (c : CaD) : Prop := ∀ a ∈ c.sn, TimesR a
theorem LastIs.given {se : List SeD} {a : RpD} {r : Int} (h : LastIs se a se.length r) : 0 ≤ r ↔ GivenP se a := by
 rcases h with ⟨h1, h2⟩ | ⟨j, h1, h2, h3, _⟩
 · exact ⟨fun h => absurd h (by omega), fun ⟨j, hj, hc⟩ => absurd hc (h2 j hj)⟩
 · exact ⟨fun _ => ⟨j, h1, h3⟩, fun _ => by omega⟩
theorem LastIs.givenNe {se : List SeD} {a : RpD} {r : Int} (h : LastIs se a se.length r) : ¬ r = -1 ↔ GivenP se a := by
 rcases h with ⟨h1, h2⟩ | ⟨j, h1, h2, h3, _⟩
 · exact ⟨fun h => absurd h1 h, fun ⟨j, hj, hc⟩ => absurd hc (h2 j hj)⟩
 · exact ⟨fun _ => ⟨j, h1, h3⟩, fun _ => by omega⟩
theorem rpR_q {w : World} {B : Nat} {a : RpD} {t3 t6 t11 t12 t14 : Value} (h : RowsO w B (rpR (⟨a, t3, t6, t11, t12, t14⟩ : RpV))) : FieldsV w B t3 a.qfs.length a.qfs := FieldsV.of_owns (h.own (⟨185, 2, t3, a.qfs.length, flatF a.qfs⟩ : Rw) (by simp [rpR]))
theorem rpR_r {w : World} {B : Nat} {a : RpD} {t3 t6 t11 t12 t14 : Value} (h : RowsO w B (rpR (⟨a, t3, t6, t11, t12, t14⟩ : RpV))) : FieldsV w B t6 a.rfs.length a.rfs := FieldsV.of_owns (h.own (⟨185, 2, t6, a.rfs.length, flatF a.rfs⟩ : Rw) (by simp [rpR]))
theorem rpR_f {w : World} {B : Nat} {a : RpD} {t3 t6 t11 t12 t14 : Value} (h : RowsO w B (rpR (⟨a, t3, t6, t11, t12, t14⟩ : RpV))) : FieldsV w B t14 a.ofs.length a.ofs := FieldsV.of_owns (h.own (⟨185, 2, t14, a.ofs.length, flatF a.ofs⟩ : Rw) (by simp [rpR]))
theorem specFresh_r (a : RpD) (t3 t6 t11 t12 t14 : Value) (C : Nat) (w : World) (h : RowsO w C (rpR (⟨a, t3, t6, t11, t12, t14⟩ : RpV))) (hs : RpSmall a) (ht : TimesR a) :
  Calls Tryz.prog 37 #[t14, .int .i64 a.otm, .int .i64 a.tim] w fun e w' => BoolIs (freshOf a.ofs a.otm a.tim = true) w e w' :=
 (specFresh_any t14 _ C a.ofs a.otm a.tim w (rpR_f h) (ltd hs.ofs.1) (Nat.le_trans (fs_get hs.ofs.2 _) (by decide)) (fs_get hs.ofs.2 _) ht.1 ht.2).mono fun e w' ⟨h1, h2⟩ => ⟨_, h1, Iff.rfl, h2⟩
theorem specCcOf_r (a : RpD) (t3 t6 t11 t12 t14 : Value) (C : Nat) (w : World) (h : RowsO w C (rpR (⟨a, t3, t6, t11, t12, t14⟩ : RpV))) (hs : RpSmall a) :
  Calls Tryz.prog 36 #[t3] w fun e w' => e = .returned (ccR (getV a.qfs ccName)).v ∧ Below w.heap.size w w' :=
 specCcOf_any t3 _ C a.qfs w (rpR_q h) (ltd hs.qfs.1) (fs_get hs.qfs.2 _)
theorem specSuits_r (a : RpD) (t3 t6 t11 t12 t14 : Value) (C : Nat) (w : World) (h : RowsO w C (rpR (⟨a, t3, t6, t11, t12, t14⟩ : RpV))) (hs : RpSmall a) :
  Calls Tryz.prog 38 #[t11, t12, t3] w fun e w' => BoolIs (suitsP a.oxs a.oys a.qfs = true) w e w' := by
 have ho := rpR_objJ h
 obtain ⟨o1, c1, rfl⟩ := slice_of_owns ho.names
 obtain ⟨o2, c2, rfl⟩ := slice_of_owns ho.vals
 exact (specSuits_any o1 o2 _ c1 _ c2 a.oxs a.oys t3 _ C a.qfs w (texts_view ho.names) (ltd hs.oxs.1) (texts_view ho.vals) (rpR_q h) (ltd hs.qfs.1)).mono fun e w' ⟨h1, h2⟩ => ⟨_, h1, Iff.rfl, h2⟩
theorem specAnswer_r (a : RpD) (t3 t6 t11 t12 t14 : Value) (C : Nat) (w : World) (h : RowsO w C (rpR (⟨a, t3, t6, t11, t12, t14⟩ : RpV))) (hs : RpSmall a) (ht : TimesR a) :
  Calls Tryz.prog 40 #[.agg #[.int .i64 a.qmt, .string a.qpa, t3, .string a.qbd], .agg #[.string a.opa, t11, t12, .int .i64 a.ost, t14, .string a.obd, .int .i64 a.otm], .int .i64 a.tim] w fun e w' => RespRow (ansS a.qfs a.ofs a.ost) (ansF a.qfs a.ofs a.ost a.obd a.otm a.tim) (ansB a.qfs a.ofs a.obd) w e w' := by
 have ho := rpR_objJ h
 obtain ⟨o1, c1, rfl⟩ := slice_of_owns ho.names
 obtain ⟨o2, c2, rfl⟩ := slice_of_owns ho.vals
 exact specAnswer_any a.qmt a.qpa t3 a.qbd _ C a.qfs a.opa o1 o2 _ c1 _ c2 a.ost t14 a.obd a.otm _ C a.ofs a.tim w (rpR_q h) hs.qfs.1 (fs_walk hs.qfs.2) (ltd hs.qpa) (ltd hs.qbd) (fs_get hs.qfs.2) (rpR_f h) hs.ofs.1 (fs_walk hs.ofs.2) (ltd hs.obd) (fs_get hs.ofs.2) ht.1 ht.2
theorem implFresh_r (a : RpD) (t3 t6 t11 t12 t14 : Value) (C : Nat) (w : World) (h : RowsO w C (rpR (⟨a, t3, t6, t11, t12, t14⟩ : RpV))) (hs : RpSmall a) (ht : TimesR a) :
  Calls Tryz.prog 98 #[t14, .int .i64 a.otm, .int .i64 a.tim] w fun e w' => BoolIs (freshOf a.ofs a.otm a.tim = true) w e w' :=
 (implFresh_any t14 _ C a.ofs a.otm a.tim w (rpR_f h) (ltd hs.ofs.1) (fs_copy hs.ofs.2) (Nat.le_trans (fs_get hs.ofs.2 _) (by decide)) (fs_get hs.ofs.2 _) ht.1 ht.2).mono fun e w' ⟨h1, h2⟩ => ⟨_, h1, Iff.rfl, h2⟩
theorem implSuits_r (a : RpD) (t3 t6 t11 t12 t14 : Value) (C : Nat) (w : World) (h : RowsO w C (rpR (⟨a, t3, t6, t11, t12, t14⟩ : RpV))) (hs : RpSmall a) :
  Calls Tryz.prog 97 #[t11, t12, t3] w fun e w' => BoolIs (suitsP a.oxs a.oys a.qfs = true) w e w' := by
 have ho := rpR_objJ h
 obtain ⟨o1, c1, rfl⟩ := slice_of_owns ho.names
 obtain ⟨o2, c2, rfl⟩ := slice_of_owns ho.vals
 exact (implSuits_any o1 o2 _ c1 _ c2 a.oxs a.oys t3 _ C a.qfs w (texts_view ho.names) (ltd hs.oxs.1) (texts_view ho.vals) (rpR_q h) (ltd hs.qfs.1) (fs_copy hs.qfs.2) (ltd hs.oys.1)).mono fun e w' ⟨h1, h2⟩ => ⟨_, h1, Iff.rfl, h2⟩
theorem implAnswer_r (a : RpD) (t3 t6 t11 t12 t14 : Value) (C : Nat) (w : World) (h : RowsO w C (rpR (⟨a, t3, t6, t11, t12, t14⟩ : RpV))) (hs : RpSmall a) (ht : TimesR a) (hT : TabOk w) :
  Calls Tryz.prog 101 #[.agg #[.int .i64 a.qmt, .string a.qpa, t3, .string a.qbd], .agg #[.string a.opa, t11, t12, .int .i64 a.ost, t14, .string a.obd, .int .i64 a.otm], .int .i64 a.tim] w fun e w' => RespRow (ansS a.qfs a.ofs a.ost) (ansF a.qfs a.ofs a.ost a.obd a.otm a.tim) (ansB a.qfs a.ofs a.obd) w e w' := by
 have ho := rpR_objJ h
 obtain ⟨o1, c1, rfl⟩ := slice_of_owns ho.names
 obtain ⟨o2, c2, rfl⟩ := slice_of_owns ho.vals
 exact implAnswer_any a.qmt a.qpa t3 a.qbd _ C a.qfs a.opa o1 o2 _ c1 _ c2 a.ost t14 a.obd a.otm _ C a.ofs a.tim w (rpR_q h) hs.qfs.1 (fs_walk hs.qfs.2) (ltd hs.qpa) (ltd hs.qbd) (fs_get hs.qfs.2) (fs_copy hs.qfs.2) (rpR_f h) hs.ofs.1 (fs_walk hs.ofs.2) (ltd hs.obd) (fs_get hs.ofs.2) ht.1 ht.2 (fs_copy hs.ofs.2) (ltd hs.obd) hT
def kpX (x : KpD × Value × Value × Value) : Value := .agg #[.string x.1.p, x.2.1, x.2.2.1, .int .i64 x.1.st, x.2.2.2, .string x.1.b, .int .i64 x.1.t, .int .i64 x.1.a, .int .i64 x.1.q]
def mpR (v : Value) : Option (DataW Value × List MemPlace) := some (.held v, [])
def ApartA (kv : Ks) : Prop := kv.Pairwise (fun x y => x.1.a ≠ y.1.a)
def MapIs (D : DataW Value) (kv : Ks) : Prop := (∀ a : Int, Maps.has D (.int .i64 a) = true ↔ ∃ x ∈ kv, x.1.a = a) ∧ ∀ x ∈ kv, ∀ z, D.atKey (.int .i64 x.1.a) z = .held (kpX x)
theorem lit_ne {a b : Int} (h : a ≠ b) : (Lit.int .i64 a) ≠ Lit.int .i64 b := fun e => h (by injection e)
theorem MapIs.nil : MapIs (.map []) [] := ⟨fun a => by simp [Maps.has], fun x hx => by simp at hx⟩
theorem has_put_int {D : DataW Value} (hD : Maps.IsMap D) (a b : Int) (d : DataW Value) : Maps.has (D.put (.int .i64 b) d) (.int .i64 a) = (decide (a = b) || Maps.has D (.int .i64 a)) := by
 by_cases h : a = b
 rotate_left
 ·rw [Maps.has_put_other (lit_ne h), decide_eq_false h]
  rfl
 subst h
 rw [Maps.has_put_same hD (show WideAt.IsKeyLit (.int .i64 _) from trivial)]
 simp
theorem MapIs.put {D : DataW Value} {kv : Ks} (h : MapIs D kv) (hD : Maps.IsMap D) (y : KpD × Value × Value × Value) (hy : ∀ x ∈ kv, x.1.a ≠ y.1.a) : MapIs (D.put (.int .i64 y.1.a) (.held (kpX y))) (kv ++ [y]) := by
 refine ⟨fun a => ?_, fun x hx z => ?_⟩
 ·rw [has_put_int hD, Bool.or_eq_true, decide_eq_true_iff, h.1 a]
  constructor
  ·rintro (rfl | ⟨x, hx, e⟩)
   · exact ⟨y, by simp, rfl⟩
   · exact ⟨x, by simp [hx], e⟩
  ·rintro ⟨x, hx, e⟩
   rcases List.mem_append.1 hx with hx | hx
   · exact .inr ⟨x, hx, e⟩
   ·rw [List.mem_singleton.1 hx] at e
    exact .inl e.symm
 ·rcases List.mem_append.1 hx with hx | hx
  ·rw [Maps.atKey_put_other (lit_ne (hy x hx))]
   exact h.2 x hx z
  ·rw [List.mem_singleton.1 hx]
   exact Maps.atKey_put_same hD (show WideAt.IsKeyLit (.int .i64 _) from trivial) _ _
structure MapN (D : DataW Value) (kv : Ks) : Prop where
 tidy : Maps.Tidy D
 has : ∀ a : Int, Maps.has D (.int .i64 a) = true ↔ ∃ x ∈ kv, x.1.a = a
 le : Maps.size D ≤ kv.length
 eq : Maps.size D = kv.length ↔ ApartA kv
 is : ApartA kv → MapIs D kv
theorem MapN.nil : MapN (.map []) [] := ⟨Maps.tidy_empty, MapIs.nil.1, Nat.le_refl _, ⟨fun _ => List.Pairwise.nil, fun _ => rfl⟩, fun _ => MapIs.nil⟩
theorem apart_snoc {kv : Ks} {y : KpD × Value × Value × Value} : ApartA (kv ++ [y]) ↔ ApartA kv ∧ ∀ x ∈ kv, x.1.a ≠ y.1.a := by
 unfold ApartA
 rw [List.pairwise_append]
 simp
theorem MapN.put {D : DataW Value} {kv : Ks} (h : MapN D kv) (y : KpD × Value × Value × Value) : MapN (D.put (.int .i64 y.1.a) (.held (kpX y))) (kv ++ [y]) := by
 have hD := h.tidy.isMap
 have hs := Maps.size_put (k := .int .i64 y.1.a) h.tidy (.held (kpX y))
 have hle := h.le
 refine ⟨h.tidy.put (show WideAt.IsKeyLit (.int .i64 _) from trivial) _, fun a => ?_, ?_, ?_, fun ha => ?_⟩
 ·rw [has_put_int hD, Bool.or_eq_true, decide_eq_true_iff, h.has a]
  constructor
  ·rintro (rfl | ⟨x, hx, e⟩)
   · exact ⟨y, by simp, rfl⟩
   · exact ⟨x, by simp [hx], e⟩
  ·rintro ⟨x, hx, e⟩
   rcases List.mem_append.1 hx with hx | hx
   · exact .inr ⟨x, hx, e⟩
   ·rw [List.mem_singleton.1 hx] at e
    exact .inl e.symm
 ·rw [hs, List.length_append, List.length_singleton]
  split <;> omega
 ·rw [hs, List.length_append, List.length_singleton, apart_snoc, ← h.eq]
  by_cases e : Maps.has D (.int .i64 y.1.a) = true
  rotate_left
  ·rw [if_neg e]
   constructor
   · intro h1; exact ⟨by omega, fun x hx ex => e ((h.has _).2 ⟨x, hx, ex⟩)⟩
   · rintro ⟨h1, _⟩; omega
  rw [if_pos e]
  obtain ⟨x, hx, ex⟩ := (h.has _).1 e
  constructor
  · intro h1; omega
  · rintro ⟨_, h2⟩; exact absurd ex (h2 x hx)
 ·obtain ⟨h1, h2⟩ := apart_snoc.1 ha
  exact (h.is h1).put hD y h2
theorem run_makeMap_hint {P : Program} {t k e : TypeId} (hu : P.underlying t = some (.map k e)) (n : Int) (w : World) : (Instr.makeMap t (some (.int .i64 n))).run P w = .ok (.map (some w.heap.size)) (w.alloc (.map #[] 0)) := by
 simp [Instr.makeMap, run_underlying hu, asInt, asIntOf, Result.andThen]
theorem map_below {P : Program} {k : TypeId} {R : Value → Option (DataW Value × List MemPlace)} {w w' : World} {b n : Nat} {D : DataW Value} (h : w.ownsMap P k R b n D) (hb : Below w.heap.size w w') : w'.ownsMap P k R b n D := by
 have hlt := h.lt
 obtain ⟨es, clock, h1, h2⟩ := h
 exact ⟨es, clock, (hb.block b hlt).trans h1, h2⟩
theorem map_ne {P : Program} {k : TypeId} {R : Value → Option (DataW Value × List MemPlace)} {w : World} {b n q : Nat} {D : DataW Value} {cs : Array Value} {T : TypeId} {fr : Nat × Nat} (h : w.ownsMap P k R b n D) (hq : w.heap[q]? = some (.cells cs T fr)) : b ≠ q := by
 obtain ⟨es, clock, h1, _⟩ := h
 intro e
 subst e
 rw [h1] at hq
 cases hq
theorem map_blk {P : Program} {k : TypeId} {R : Value → Option (DataW Value × List MemPlace)} {w w' : World} {b n q : Nat} {D : DataW Value} {cs : Array Value} {T : TypeId} {fr : Nat × Nat} (h : w.ownsMap P k R b n D) (hq : w.heap[q]? = some (.cells cs T fr)) (hg : w.grownBy w' (some b)) : w'.heap[q]? = some (.cells cs T fr) :=
 (hg.block q (blt hq) (fun e => map_ne h hq (Option.some.inj e).symm)).trans hq
theorem keyInt : Maps.Keyed Tryz.prog 3 := Maps.int_keyed Tryz.underlying3
theorem key_wf {a : Int} (h0 : 0 ≤ a) (h1 : a ≤ 1000) : keyOf Tryz.prog 3 (.int .i64 a) = some (.int .i64 a) := Maps.keyOf_int_mk Tryz.underlying3 (WalkArith.wf_i64 (by omega))
def KnownO (w : World) (b n : Nat) (D : DataW Value) : Prop := w.ownsMap Tryz.prog 3 mpR b n D
def KnownIs (kv : Ks) (w : World) (e : Ending) (w' : World) : Prop := ∃ (b n : Nat) (D : DataW Value), e = .returned (.map (some b)) ∧ n ≤ kv.length ∧ KnownO w' b n D ∧ MapN D kv ∧ w.heap.size ≤ b ∧ Below w.heap.size w w'
attribute [local go_sem] Oper.semAt_some
theorem backwardS_any (o : Oa) (n c : Nat) (w : World) :
  Calls Tryz.prog 142 #[.slice o n c] w fun e w' => e = .returned (.func (.func 171) #[] #[.pointer (some ⟨w.heap.size, 0, none⟩)]) ∧ w' = w.alloc (.cells #[.slice o n c] 45) := by
 go_enter Tryz.func142, Tryz.ntmps142
 go_wp2_with fail
 go_ret
 exact ⟨rfl, rfl⟩
def seX (x : SeV) : Value := .agg #[.int .i64 x.d.qmt, .string x.d.qpa, x.v2, .string x.d.qbd, .int .i64 x.d.rst, x.v5, .string x.d.rbd, .int .i64 x.d.tim]
def backSV (kv : List SeV) (m : Nat) (j : Fin m) : Array Value := #[.int .i64 ((m - 1 - j.1 : Nat) : Int), seX (sevAt kv (m - 1 - j.1))]
theorem fin_prefixS {m : Nat} {pre : List (Fin m)} {x : Fin m} (h : (pre ++ [x]) <+: List.finRange m) (j : Fin m) (hj : j.1 < x.1) : j ∈ pre := by
 obtain ⟨t, ht⟩ := h
 have hx : (List.finRange m)[pre.length]? = some x := by rw [← ht, List.append_assoc, List.getElem?_append_right (Nat.le_refl _)]; simp
 have hl : pre.length < m := by
  have := (List.getElem?_eq_some_iff.1 hx).1
  simpa using this
 rw [List.getElem?_eq_getElem (by simpa using hl), List.getElem_finRange] at hx
 have hx2 : x.1 = pre.length := by
  have := Option.some.inj hx
  rw [← this]
  rfl
 have hj2 : j.1 < pre.length := by omega
 have hjv : (List.finRange m)[j.1]? = some j := by
  rw [List.getElem?_eq_getElem (by simp), List.getElem_finRange]
  rfl
 rw [← ht, List.append_assoc, List.getElem?_append_left hj2] at hjv
 exact List.mem_of_getElem? hjv
theorem backS1_in (nn : Nat) (hnn : 1 ≤ nn) (l Bs n₀ : Nat) (o : Oa) (m c : Nat) (kv : List SeV) (B : Nat) (w0 W : World)
  (hm : m ≤ 1048576) (hl : kv.length = m) (hn₀ : n₀ ≤ W.heap.size)
  (hX : ∀ W', Below n₀ w0 W' → SesO W' B (.slice o m c) kv)
  (hW : Below n₀ w0 W) (hBs : Boxed W Bs 45 (.slice o m c))
  (J Jx : List (Fin m) → World → Prop) (_hJ : AbidesFrom W.heap.size J)
  (hY : ∀ pre x W1, J pre W1 → pre.length < m → YieldAt Fence.wide (nn - 1) Tryz.prog l (backSV kv m x) W1 fun e W' =>
   (e = .returned (.bool true) ∧ J (pre ++ [x]) W' ∧ KeepL n₀ Bs W1 W') ∨ (e = .returned (.bool false) ∧ Jx (pre ++ [x]) W'))
  (h0 : J [] W) :
  CallsIn Fence.wide nn Tryz.prog 171 #[.func (.yield l) #[] #[], .pointer (some ⟨Bs, 0, none⟩)] W fun e W' => (∃ u, e = .returned u) ∧
   ((∃ ys, ys = List.finRange m ∧ J ys W') ∨ (∃ pre, pre <+: List.finRange m ∧ Jx pre W')) := by
 have HX := hid hX
 have HLEN := hid hl
 have HW := hid hW
 have HN := hid hn₀
 have HBS := hid hBs
 have HY : Hid (∀ pre x W1, J pre W1 → pre.length < m → YieldAt Fence.wide (nn - 1) Tryz.prog l (backSV kv m x) W1 fun e W' =>
   (e = .returned (.bool true) ∧ J (pre ++ [x]) W' ∧ KeepL n₀ Bs W1 W') ∨ (e = .returned (.bool false) ∧ Jx (pre ++ [x]) W')) := hY
 have hbs0 := hBs.cell
 clear hX hW hY hn₀ hl hBs
 refine callsIn_of_wp Tryz.func171 rfl trivial ?_ rfl
 simp only [Tryz.ntmps171, List.size_toArray, List.length_cons, List.length_nil, Nat.reduceAdd, Nat.reduceSub, Array.replicate_succ, Array.replicate_zero, List.push_toArray, List.append_toArray, List.nil_append, List.cons_append]
 gi_wp2
 clear hbs0
 gi_loopw [3] (fun i wr => ∃ k : Nat, k ≤ m ∧ i = .int .i64 ((k : Int) - 1) ∧ Hid (J ((List.finRange m).take (m - k)) wr) ∧ Hid (KeepL n₀ Bs W wr) ∧ W.heap.size ≤ wr.heap.size) (fun i _ => (intOf i + 1).toNat)
 case atStart => exact ⟨m, Nat.le_refl _, rfl, by rw [Nat.sub_self]; exact h0, ⟨Below.refl _ _, rfl⟩, Nat.le_refl _⟩
 case round =>
  obtain ⟨k, hk, rfl, HJs, HK, hsz⟩ := hrel
  by_cases hk0 : k = 0
  ·subst hk0
   rw [show (((0 : Nat) : Int) - 1) = -1 from rfl]
   gi_wp2
   go_end0
   have hj := HJs.out
   rw [Nat.sub_zero, List.take_of_length_le (by simp)] at hj
   exact ⟨⟨_, rfl⟩, by first | exact .inl hj | exact .inl ⟨_, rfl, hj⟩⟩
  ·obtain ⟨i, rfl⟩ : ∃ i, k = i + 1 := ⟨k - 1, by omega⟩
   rw [show (((i + 1 : Nat) : Int) - 1) = (i : Int) by omega]
   clear hk0
   have hlt : (i : Int) < (m : Int) := by omega
   have hge : (0 : Int) ≤ (i : Int) := by omega
   have hB : Below n₀ w0 wr := HW.out.trans HK.out.1
   have hkm : m - (i + 1) < m := by omega
   have HKX := HX.out wr hB
   obtain ⟨g, cp, hV, hg, hc⟩ := HKX.look i (by rw [HLEN.out]; omega)
   rw [HLEN.out] at hV
   injection hV with hV1 hV2 hV3
   subst hV1 hV3
   clear hV2 HKX
   have hbs : wr.cell? ⟨Bs, 0, none⟩ = some (.slice (some ⟨g, 0, none⟩) m c) := (show Boxed wr Bs 45 (.slice (some ⟨g, 0, none⟩) m c) from HK.out.2.trans HBS.out).cell
   have HTV : Hid (backSV kv m ⟨m - (i + 1), hkm⟩ = #[.int .i64 (i : Int), seX (sevAt kv i)]) := by
    show _ = _
    unfold backSV
    rw [show m - 1 - (m - (i + 1)) = i by omega]
   obtain ⟨x, hx⟩ := exq (sevAt kv i)
   rw [← hx] at hc HTV
   clear hx
   obtain ⟨x, kz2, kz5⟩ := x
   have r0 := hc.c0
   have r1 := hc.c1
   have r2 := hc.c2
   have r3 := hc.c3
   have r4 := hc.c4
   have r5 := hc.c5
   have r6 := hc.c6
   have r7 := hc.c7
   dsimp only at r0 r1 r2 r3 r4 r5 r6 r7
   have HTV2 : Hid (backSV kv m ⟨m - (i + 1), hkm⟩ = #[.int .i64 (i : Int), .agg #[.int .i64 x.qmt, .string x.qpa, kz2, .string x.qbd, .int .i64 x.rst, kz5, .string x.rbd, .int .i64 x.tim]]) := HTV.out
   obtain ⟨fn, tmps, assign, body, hy, hR⟩ := HY.out _ ⟨m - (i + 1), hkm⟩ wr HJs.out (by rw [fin_take_len m _ (by omega)]; exact hkm)
   rw [HTV2.out] at hy
   have hil : ¬ m ≤ i := by omega
   clear hc hB HTV HTV2
   gi_wp2
   refine hR.mono ?_
   rintro e W3 (⟨rfl, hJ3, hk3⟩ | ⟨rfl, hJx3⟩)
   ·have HJ3 : Hid (J ((List.finRange m).take (m - i)) W3) := by show J _ _; rw [show m - i = (m - (i + 1)) + 1 by omega, fin_take m _ hkm]; exact hJ3
    have HK3 : Hid (KeepL n₀ Bs W W3) := HK.out.trans hk3
    have hsz3 : W.heap.size ≤ W3.heap.size := Nat.le_trans hsz hk3.1.size
    clear hJ3 hk3 hsz HK HJs hR r0 r1 r2 r3 r4 r5 r6 r7 hbs
    gi_wp2
    go_roundw
    case rel => exact ⟨i, by omega, by go_num, HJ3, HK3, hsz3⟩
    case measure => simp [intOf]
   ·have HJx : Hid (Jx ((List.finRange m).take (m - i)) W3) := by show Jx _ _; rw [show m - i = (m - (i + 1)) + 1 by omega, fin_take m _ hkm]; exact hJx3
    clear hJx3 HK HJs hsz hR r0 r1 r2 r3 r4 r5 r6 r7 hbs
    gi_wp2
    refine bodyPost_ret (results_none rfl _ _ _) rfl ?_
    exact ⟨⟨_, rfl⟩, .inr ⟨_, List.take_prefix _ _, HJx.out⟩⟩
theorem backS_stops (nn : Nat) (hnn : 1 ≤ nn) (Bs n₀ : Nat) (o : Oa) (m c : Nat) (kv : List SeV) (B : Nat) (w0 w : World)
  (hm : m ≤ 1048576) (hl : kv.length = m) (hn₀ : n₀ ≤ w.heap.size) (hX : ∀ W', Below n₀ w0 W' → SesO W' B (.slice o m c) kv)
  (hW : Below n₀ w0 w) (hBs : Boxed w Bs 45 (.slice o m c)) :
  SeqStopsK Fence.wide nn Tryz.prog 171 #[.pointer (some ⟨Bs, 0, none⟩)] (backSV kv m) (KeepL n₀ Bs) (fun ys => ys = List.finRange m) (fun pre => pre <+: List.finRange m) m w := fun l J Jx W hw hJ _ hY h0 => by
 have hbs : Boxed W Bs 45 (.slice o m c) := (hw.block Bs hBs.lt).trans hBs
 exact backS1_in nn hnn l Bs n₀ o m c kv B w0 W hm hl (Nat.le_trans hn₀ hw.size) hX (hW.trans (hw.mono hn₀)) hbs J Jx hJ hY h0
attribute [local go_sem] Oper.semAt_some
theorem blk_keptS {W W' : World} {row : Option Nat} {q : Nat} {cs : Array Value} {T : TypeId} {fr : Nat × Nat} (h : W.heap[q]? = some (.cells cs T fr)) (hg : W.grownBy W' row) (hr : ∀ r, row = some r → ∃ o : Obj, W.heap[r]? = some o ∧ o.isCells = false) : W'.heap[q]? = some (.cells cs T fr) :=
 (hg.block q (blt h) (fun e => by
  obtain ⟨o, ho, hc⟩ := hr q e.symm
  rw [h] at ho
  cases ho
  cases hc)).trans h
theorem below_fromS {W W' : World} (h : Below W.heap.size W W') (B : Nat) : KeepsFrom B W W' := ⟨h.size, fun k _ _ hk _ => (h.block k (blt hk)).trans hk⟩
theorem gave_any (d : SeD) (u2 u5 : Value) (B : Nat) (a : RpD) (t3 t6 t11 t12 t14 : Value) (C : Nat) (w : World) (hd : RowsO w B (seR (⟨d, u2, u5⟩ : SeV))) (hsd : SeSmall d) (hr : RowsO w C (rpR (⟨a, t3, t6, t11, t12, t14⟩ : RpV))) (ha : RpSmall a) :
  Calls Tryz.prog 143 #[.agg #[.int .i64 d.qmt, .string d.qpa, u2, .string d.qbd, .int .i64 d.rst, u5, .string d.rbd, .int .i64 d.tim], .agg #[.string a.opa, t11, t12, .int .i64 a.ost, t14, .string a.obd, .int .i64 a.otm]] w fun e w' => BoolIs (CameP d a) w e w' := by
 obtain ⟨ka3, kac3, hu⟩ := slice_of_owns (hr.own (⟨185, 2, t3, a.qfs.length, flatF a.qfs⟩ : Rw) (by simp [rpR]))
 obtain rfl : t3 = .slice ka3 a.qfs.length kac3 := hu
 obtain ⟨ka6, kac6, hu⟩ := slice_of_owns (hr.own (⟨185, 2, t6, a.rfs.length, flatF a.rfs⟩ : Rw) (by simp [rpR]))
 obtain rfl : t6 = .slice ka6 a.rfs.length kac6 := hu
 obtain ⟨ka11, kac11, hu⟩ := slice_of_owns (hr.own (⟨9, 1, t11, a.oxs.length, a.oxs.map Value.string⟩ : Rw) (by simp [rpR]))
 obtain rfl : t11 = .slice ka11 a.oxs.length kac11 := hu
 obtain ⟨ka12, kac12, hu⟩ := slice_of_owns (hr.own (⟨9, 1, t12, a.oys.length, a.oys.map Value.string⟩ : Rw) (by simp [rpR]))
 obtain rfl : t12 = .slice ka12 a.oys.length kac12 := hu
 obtain ⟨ka14, kac14, hu⟩ := slice_of_owns (hr.own (⟨185, 2, t14, a.ofs.length, flatF a.ofs⟩ : Rw) (by simp [rpR]))
 obtain rfl : t14 = .slice ka14 a.ofs.length kac14 := hu
 have HRa : Hid (∀ W, Below w.heap.size w W → RowsO W C (rpR (⟨a, .slice ka3 a.qfs.length kac3, .slice ka6 a.rfs.length kac6, .slice ka11 a.oxs.length kac11, .slice ka12 a.oys.length kac12, .slice ka14 a.ofs.length kac14⟩ : RpV))) := fun W hb => hr.below hb
 have HSa := hid ha
 obtain ⟨ku2, kc2, hu⟩ := slice_of_owns (hd.own (⟨185, 2, u2, d.qfs.length, flatF d.qfs⟩ : Rw) (by simp [seR]))
 obtain rfl : u2 = .slice ku2 d.qfs.length kc2 := hu
 obtain ⟨ku5, kc5, hu⟩ := slice_of_owns (hd.own (⟨185, 2, u5, d.rfs.length, flatF d.rfs⟩ : Rw) (by simp [seR]))
 obtain rfl : u5 = .slice ku5 d.rfs.length kc5 := hu
 have HRd : Hid (∀ W, Below w.heap.size w W → RowsO W B (seR (⟨d, .slice ku2 d.qfs.length kc2, .slice ku5 d.rfs.length kc5⟩ : SeV))) := fun W hb => hd.below hb
 have HSd := hid hsd
 clear hr ha hd hsd
 have hb0 := Below.refl w.heap.size w
 go_enter Tryz.func143, Tryz.ntmps143
 go_upto_region 1 with fail
 obtain ⟨q1, hq1⟩ := exq (w.heap.size)
 obtain ⟨w1, hW1⟩ := exq (w.alloc (.cells #[.int .i64 d.qmt, .string d.qpa, .slice ku2 d.qfs.length kc2, .string d.qbd, .int .i64 d.rst, .slice ku5 d.rfs.length kc5, .string d.rbd, .int .i64 d.tim] 118))
 have hz1 := hq1.symm
 rw [← hW1]; try rw [← hq1]
 have hs1 := hsa hW1 hz1
 have bw := bal hW1
 have hb1 := hbt hb0 bw
 have B1_1 := hnew hW1 hz1
 clear hb0 bw hW1 hz1
 obtain ⟨q2, hq2⟩ := exq (q1 + 1)
 obtain ⟨w2, hW2⟩ := exq (w1.alloc (.cells #[.string a.opa, .slice ka11 a.oxs.length kac11, .slice ka12 a.oys.length kac12, .int .i64 a.ost, .slice ka14 a.ofs.length kac14, .string a.obd, .int .i64 a.otm] 62))
 have hz2 : w1.heap.size = q2 := by rw [hq2]; exact hs1
 rw [← hW2]; try rw [← hq2]
 have hs2 := hsa hW2 hz2
 have bw := bal hW2
 have hb2 := hbt hb1 bw
 have B1_2 := hblk B1_1 bw
 have B2_2 := hnew hW2 hz2
 clear hb1 bw hW2 hz2
 clear hs2 hq2 hs1 hq1
 by_cases hc1 : d.rst = 200
 rotate_left
 ·have hc1b : ((d.rst : Int) == (200 : Int)) = false := by simpa using hc1
  have hc1n : ((d.rst : Int) != (200 : Int)) = true := by simpa using hc1
  have HCst := hid hc1
  have hc1H := hid hc1
  clear hc1
  have c1_4 := (k8c B1_2).2.2.2.2.1
  go_wp2_with fail
  go_ret
  exact BoolIs.no (fun h => HCst.out h.1) hb2
 have hc1b : ((d.rst : Int) == (200 : Int)) = true := by simpa using hc1
 have hc1n : ((d.rst : Int) != (200 : Int)) = false := by simpa using hc1
 have HCst := hid hc1
 have hc1H := hid hc1
 clear hc1
 by_cases hc2 : d.tim ≤ a.otm
 rotate_left
 ·have HCtm := hid hc2
  have c1_4 := (k8c B1_2).2.2.2.2.1
  have c1_7 := (k8c B1_2).2.2.2.2.2.2.2
  have c2_6 := (k7c B2_2).2.2.2.2.2.2
  go_wp2_with fail
  go_ret
  exact BoolIs.no (fun h => absurd h.2.1 (by have h2 := HCtm.out; omega)) hb2
 have HCtm := hid hc2
 have c1_4 := (k8c B1_2).2.2.2.2.1
 have c1_6 := (k8c B1_2).2.2.2.2.2.2.1
 have c1_7 := (k8c B1_2).2.2.2.2.2.2.2
 have c2_5 := (k7c B2_2).2.2.2.2.2.1
 have c2_6 := (k7c B2_2).2.2.2.2.2.2
 by_cases hc3 : d.rbd = a.obd
 rotate_left
 ·have hc3b : ((d.rbd).toList == (a.obd).toList) = false := text_beq_no hc3
  have HCbd := hid hc3
  clear hc3
  go_wp2_with fail
  go_ret
  exact BoolIs.no (fun h => HCbd.out h.2.2.2.2.1) hb2
 have hc3b : ((d.rbd).toList == (a.obd).toList) = true := (text_beq _ _).2 hc3
 have HCbd := hid hc3
 clear hc3
 by_cases hc4 : d.qmt = 1
 rotate_left
 ·have hc4b : ((d.qmt : Int) == (1 : Int)) = false := by simpa using hc4
  have hc4n : ((d.qmt : Int) != (1 : Int)) = true := by simpa using hc4
  have HCmt := hid hc4
  have hc4H := hid hc4
  clear hc4
  have c1_0 := (k8c B1_2).1
  go_wp2_with fail
  go_ret
  exact BoolIs.no (fun h => HCmt.out h.2.2.1) hb2
 have hc4b : ((d.qmt : Int) == (1 : Int)) = true := by simpa using hc4
 have hc4n : ((d.qmt : Int) != (1 : Int)) = false := by simpa using hc4
 have HCmt := hid hc4
 have hc4H := hid hc4
 clear hc4
 by_cases hc5 : d.qpa = a.opa
 rotate_left
 ·have hc5b : ((d.qpa).toList == (a.opa).toList) = false := text_beq_no hc5
  have HCpa := hid hc5
  clear hc5
  have c1_0 := (k8c B1_2).1
  have c1_1 := (k8c B1_2).2.1
  have c2_0 := (k7c B2_2).1
  go_wp2_with fail
  go_ret
  exact BoolIs.no (fun h => HCpa.out h.2.2.2.1) hb2
 have hc5b : ((d.qpa).toList == (a.opa).toList) = true := (text_beq _ _).2 hc5
 have HCpa := hid hc5
 clear hc5
 have c1_0 := (k8c B1_2).1
 have c1_1 := (k8c B1_2).2.1
 have c1_2 := (k8c B1_2).2.2.1
 have c2_0 := (k7c B2_2).1
 have c2_1 := (k7c B2_2).2.1
 have c2_2 := (k7c B2_2).2.2.1
 go_wp2_with fail
 refine ((implSuits_any _ _ _ _ _ _ a.oxs a.oys _ _ B d.qfs _ (texts_view (rpR_objJ (HRa.out _ hb2)).names) (Nat.le_trans HSa.out.oxs.1 (by decide)) (texts_view (rpR_objJ (HRa.out _ hb2)).vals) (FieldsV.of_owns ((HRd.out _ hb2).own (⟨185, 2, (.slice ku2 d.qfs.length kc2), d.qfs.length, flatF d.qfs⟩ : Rw) (by simp [seR]))) (Nat.le_trans HSd.out.qfs.1 (by decide)) (fs_copy HSd.out.qfs.2) (Nat.le_trans HSa.out.oys.1 (by decide))).mono (fun e w' h => (⟨_, h.1, Iff.rfl, h.2⟩ : BoolIs (suitsP a.oxs a.oys d.qfs = true) _ e w'))).mono ?_
 rintro e w3 ⟨us, rfl, hus, bw⟩
 have hb3 := hbt hb2 bw
 have B1_3 := hblk B1_2 bw
 have B2_3 := hblk B2_2 bw
 clear hb2 bw
 clear c1_4 c1_6 c1_7 c2_5 c2_6 c1_0 c1_1 c1_2 c2_0 c2_1 c2_2
 cases us
 ·have HNus : Hid (¬ (suitsP a.oxs a.oys d.qfs = true)) := fun h => nomatch hus.2 h
  clear hus
  go_wp2_with fail
  go_ret
  exact BoolIs.no (fun h => HNus.out h.2.2.2.2.2) hb3
 have HYus : Hid (suitsP a.oxs a.oys d.qfs = true) := hus.1 rfl
 clear hus
 go_wp2_with fail
 go_ret
 exact BoolIs.yes ⟨HCst.out, HCtm.out, HCmt.out, HCpa.out, HCbd.out, HYus.out⟩ hb3
theorem lastGiven_any (E : Value) (ev : List SeV) (se : List SeD) (B : Nat) (a : RpD) (t3 t6 t11 t12 t14 : Value) (C : Nat) (w : World) (h : SesO w B E ev) (hed : ev.map (·.d) = se) (hes : ∀ x ∈ ev, SeSmall x.d) (hn : ev.length ≤ 1048576) (hr : RowsO w C (rpR (⟨a, t3, t6, t11, t12, t14⟩ : RpV))) (ha : RpSmall a) :
  Calls Tryz.prog 102 #[E, .agg #[.string a.opa, t11, t12, .int .i64 a.ost, t14, .string a.obd, .int .i64 a.otm]] w fun e w' => ComesIs se a w e w' := by
 obtain ⟨o6, c6, rfl⟩ := h.len
 obtain ⟨n6, hn6⟩ := exq ev.length
 rw [← hn6] at h hn ⊢
 have HLE : Hid (ev.length = n6) := hn6.symm
 have HED := hid hed
 have HES := hid hes
 have bn6 : n6 ≤ 1048576 := hn
 have HSE : Hid (∀ W, Below w.heap.size w W → SesO W B (.slice o6 n6 c6) ev) := fun W hb => h.below hb
 obtain ⟨ka3, kac3, hu⟩ := slice_of_owns (hr.own (⟨185, 2, t3, a.qfs.length, flatF a.qfs⟩ : Rw) (by simp [rpR]))
 obtain rfl : t3 = .slice ka3 a.qfs.length kac3 := hu
 obtain ⟨ka6, kac6, hu⟩ := slice_of_owns (hr.own (⟨185, 2, t6, a.rfs.length, flatF a.rfs⟩ : Rw) (by simp [rpR]))
 obtain rfl : t6 = .slice ka6 a.rfs.length kac6 := hu
 obtain ⟨ka11, kac11, hu⟩ := slice_of_owns (hr.own (⟨9, 1, t11, a.oxs.length, a.oxs.map Value.string⟩ : Rw) (by simp [rpR]))
 obtain rfl : t11 = .slice ka11 a.oxs.length kac11 := hu
 obtain ⟨ka12, kac12, hu⟩ := slice_of_owns (hr.own (⟨9, 1, t12, a.oys.length, a.oys.map Value.string⟩ : Rw) (by simp [rpR]))
 obtain rfl : t12 = .slice ka12 a.oys.length kac12 := hu
 obtain ⟨ka14, kac14, hu⟩ := slice_of_owns (hr.own (⟨185, 2, t14, a.ofs.length, flatF a.ofs⟩ : Rw) (by simp [rpR]))
 obtain rfl : t14 = .slice ka14 a.ofs.length kac14 := hu
 have HRa : Hid (∀ W, Below w.heap.size w W → RowsO W C (rpR (⟨a, .slice ka3 a.qfs.length kac3, .slice ka6 a.rfs.length kac6, .slice ka11 a.oxs.length kac11, .slice ka12 a.oys.length kac12, .slice ka14 a.ofs.length kac14⟩ : RpV))) := fun W hb => hr.below hb
 have HSa := hid ha
 clear hn6 h hed hes hn hr ha
 obtain ⟨W0, hW0⟩ := exq (((w.alloc (.cells #[.string a.opa, .slice ka11 a.oxs.length kac11, .slice ka12 a.oys.length kac12, .int .i64 a.ost, .slice ka14 a.ofs.length kac14, .string a.obd, .int .i64 a.otm] 62)).alloc (.cells #[.int .i64 0] 3)))
 obtain ⟨q0, hq0⟩ := exq (w.heap.size)
 obtain ⟨q1, hq1⟩ := exq (w.heap.size + 1)
 have HB0 : Hid (Below w.heap.size w W0) := by rw [hW0]; exact ((Below.refl _ w).alloc (Nat.le_refl _) _).alloc (by simp) _
 have HI0 : Hid (W0.heap[q0]? = some (.cells #[.string a.opa, .slice ka11 a.oxs.length kac11, .slice ka12 a.oys.length kac12, .int .i64 a.ost, .slice ka14 a.ofs.length kac14, .string a.obd, .int .i64 a.otm] 62) ∧ W0.heap[q1]? = some (.cells #[.int .i64 0] 3)) := by
  rw [hW0]
  refine ⟨?_, ?_⟩
  · rw [hq0, Below.heap_alloc _ _ _ (by simp)]; exact heap_alloc_new _ _
  · rw [hq1]; have h := heap_alloc_new (w.alloc (.cells #[.string a.opa, .slice ka11 a.oxs.length kac11, .slice ka12 a.oys.length kac12, .int .i64 a.ost, .slice ka14 a.ofs.length kac14, .string a.obd, .int .i64 a.otm] 62)) (.cells #[.int .i64 0] 3); simpa using h
 have HS0 : Hid (W0.heap.size = w.heap.size + 2) := by show _ = _; rw [hW0]; simp
 have HQ : Hid (q0 = w.heap.size ∧ q1 = w.heap.size + 1) := ⟨hq0, hq1⟩
 refine (callsIn_wide (n := 4)).1 ?_
 refine callsIn_of_wp_marks Tryz.func102 rfl trivial ?_ rfl
 simp only [Tryz.ntmps102, List.size_toArray, List.length_cons, List.length_nil, Nat.reduceAdd, Nat.reduceSub, Array.replicate_succ, Array.replicate_zero, List.push_toArray, List.append_toArray, List.nil_append, List.cons_append]
 gi_wp2_with fail
 rw [← hW0, ← hq1, ← hq0]
 clear hW0 hq1 hq0
 refine ⟨trivial, (callsIn_wide.2 (backwardS_any o6 n6 c6 _)).mono ?_⟩
 rintro e w2 ⟨rfl, rfl⟩
 gi_wp2_with fail
 obtain ⟨q4, hq4⟩ := exq (W0.heap.size)
 obtain ⟨W4, hW4⟩ := exq (W0.alloc (.cells #[.slice o6 n6 c6] 45))
 rw [← hW4, ← hq4]
 have bA : Below W0.heap.size W0 W4 := by rw [hW4]; exact (Below.refl _ _).alloc (Nat.le_refl _) _
 have HB4 : Hid (Below w.heap.size w W4) := HB0.out.trans (bA.mono HB0.out.size)
 have HI4 : Hid (W4.heap[q0]? = some (.cells #[.string a.opa, .slice ka11 a.oxs.length kac11, .slice ka12 a.oys.length kac12, .int .i64 a.ost, .slice ka14 a.ofs.length kac14, .string a.obd, .int .i64 a.otm] 62) ∧ W4.heap[q1]? = some (.cells #[.int .i64 0] 3)) := ⟨blk_below HI0.out.1 bA, blk_below HI0.out.2 bA⟩
 have HX4 : Hid (Boxed W4 q4 45 (.slice o6 n6 c6)) := by show Boxed _ _ _ _; rw [hW4, hq4]; exact heap_alloc_new _ _
 have HS4 : Hid (w.heap.size + 2 ≤ q4 ∧ q4 < W4.heap.size) := ⟨by rw [hq4, HS0.out]; exact Nat.le_refl _, by rw [hW4, hq4]; simp⟩
 clear hW4 hq4 bA HB0 HI0 HS0
 refine wpIn_rangeFunc_ownH rfl (by omega) (gf := 171) (lb := #[.pointer (some ⟨q4, 0, none⟩)]) rfl trivial (enters_of Tryz.func171 (by kernel_rfl) rfl)
  (backS_stops (4 - 1) (by omega) q4 w.heap.size o6 n6 c6 ev B w W4 bn6 HLE.out (by have := HS4.out; omega) HSE.out HB4.out HX4.out) KeepL.trans (keepL_b (by have := HS4.out; omega) HS4.out.2) (Below.refl _ _) (fun _ => rfl)
  (fun pre W => (((W.heap[q0]? = some (.cells #[.string a.opa, .slice ka11 a.oxs.length kac11, .slice ka12 a.oys.length kac12, .int .i64 a.ost, .slice ka14 a.ofs.length kac14, .string a.obd, .int .i64 a.otm] 62) ∧ W.heap[q1]? = some (.cells #[.int .i64 0] 3)) ∧ Boxed W q4 45 (.slice o6 n6 c6)) ∧ ∀ j ∈ pre, ¬ CameP (seAt se (n6 - 1 - j.1)) a) ∧ Below w.heap.size w W)
  (fun c pq W => (∃ (pre : List (Fin n6)) (x : Fin n6), c = .ret ∧ pq = pre ++ [x] ∧ (∀ j ∈ pre, ¬ CameP (seAt se (n6 - 1 - j.1)) a) ∧ CameP (seAt se (n6 - 1 - x.1)) a ∧ W.heap[q1]? = some (.cells #[.int .i64 ((n6 - 1 - x.1 : Nat) : Int)] 3)) ∧ Below w.heap.size w W)
  (OwnFrom.and (fun _ _ _ _ hs hg hr => ⟨⟨⟨blk_keptS hs.1.1.1 hg (fun r e => (hr r e).2), blk_keptS hs.1.1.2 hg (fun r e => (hr r e).2)⟩, blk_keptS hs.1.2 hg (fun r e => (hr r e).2)⟩, hs.2⟩) (ownFrom_below (Nat.le_refl _) (by have := HS4.out; omega)))
  (fun c => OwnFrom.and (fun _ _ _ _ hs hg hr => by
   obtain ⟨pre, x, h1, h2, h3, h4, h5⟩ := hs
   exact ⟨pre, x, h1, h2, h3, h4, blk_keptS h5 hg (fun r e => (hr r e).2)⟩) (ownFrom_below (Nat.le_refl _) (by have := HS4.out; omega)))
  ⟨⟨⟨HI4.out, HX4.out⟩, fun j hj => by cases hj⟩, HB4.out⟩
  (fun x a' W => ∃ (q7 : Nat) (d : SeD) (ku2 : Oa) (kc2 : Nat) (ku5 : Oa) (kc5 : Nat), (a' = { tmps := #[.slice o6 n6 c6, .agg #[.string a.opa, .slice ka11 a.oxs.length kac11, .slice ka12 a.oys.length kac12, .int .i64 a.ost, .slice ka14 a.ofs.length kac14, .string a.obd, .int .i64 a.otm], undef, .pointer (some ⟨q0, 0, none⟩), .pointer (some ⟨q1, 0, none⟩), .int .i64 ((n6 - 1 - x.1 : Nat) : Int), .pointer (some ⟨q7, 0, none⟩), .slice o6 n6 c6, .func (.func 171) #[] #[.pointer (some ⟨q4, 0, none⟩)], .int .i64 ((n6 - 1 - x.1 : Nat) : Int), .agg #[.int .i64 d.qmt, .string d.qpa, .slice ku2 d.qfs.length kc2, .string d.qbd, .int .i64 d.rst, .slice ku5 d.rfs.length kc5, .string d.rbd, .int .i64 d.tim], undef, undef, undef, undef], defers := [] } ∧ sevAt ev (n6 - 1 - x.1) = (⟨d, .slice ku2 d.qfs.length kc2, .slice ku5 d.rfs.length kc5⟩ : SeV)) ∧ W.heap[q7]? = some (.cells #[.int .i64 d.qmt, .string d.qpa, .slice ku2 d.qfs.length kc2, .string d.qbd, .int .i64 d.rst, .slice ku5 d.rfs.length kc5, .string d.rbd, .int .i64 d.tim] 118))
  (fun x a' _ _ _ _ hs hg hr => by
   obtain ⟨q7, d, ku2, kc2, ku5, kc5, h1, h2⟩ := hs
   exact ⟨q7, d, ku2, kc2, ku5, kc5, h1, blk_keptS h2 hg (fun r e => (hr r e).2)⟩) ?assign ?body ?done ?stop
 case assign =>
  intro l pre x W K hi hK
  obtain ⟨i, hxi⟩ := exq (n6 - 1 - x.1)
  have hil : i < ev.length := by rw [HLE.out]; have := x.2; omega
  obtain ⟨X, hX⟩ := exq (sevAt ev i)
  have hM : X ∈ ev := by rw [hX]; exact getD_mem0 _ ev i hil
  obtain ⟨d, v2, v5⟩ := X
  have hse := HSE.out W hi.2
  obtain ⟨ku2, kc2, hu⟩ := slice_of_owns ((hse.item hM).own (⟨185, 2, v2, d.qfs.length, flatF d.qfs⟩ : Rw) (by simp [seR]))
  have hu2 : v2 = .slice ku2 d.qfs.length kc2 := hu
  obtain ⟨ku5, kc5, hu⟩ := slice_of_owns ((hse.item hM).own (⟨185, 2, v5, d.rfs.length, flatF d.rfs⟩ : Rw) (by simp [seR]))
  have hu5 : v5 = .slice ku5 d.rfs.length kc5 := hu
  subst hu2 hu5
  have hbv : backSV ev n6 x = #[.int .i64 (i : Int), .agg #[.int .i64 d.qmt, .string d.qpa, .slice ku2 d.qfs.length kc2, .string d.qbd, .int .i64 d.rst, .slice ku5 d.rfs.length kc5, .string d.rbd, .int .i64 d.tim]] := by
   unfold backSV
   rw [← hxi, ← hX]
   rfl
  have HXV : Hid (sevAt ev (n6 - 1 - x.1) = (⟨d, .slice ku2 d.qfs.length kc2, .slice ku5 d.rfs.length kc5⟩ : SeV)) := by show _ = _; rw [← hxi, ← hX]
  have HII := hid hxi
  have HI := hid hi
  rw [hbv]
  clear hbv hX hM hse hu hxi hi hil
  gi_wp2
  have bA : Below W.heap.size W (W.alloc (.cells #[.int .i64 d.qmt, .string d.qpa, .slice ku2 d.qfs.length kc2, .string d.qbd, .int .i64 d.rst, .slice ku5 d.rfs.length kc5, .string d.rbd, .int .i64 d.tim] 118)) := (Below.refl _ _).alloc (Nat.le_refl _) _
  have hi := HI.out
  refine hK _ _ (below_fromS bA _) ⟨bA.mono hi.2.size, bA.block q4 hi.1.1.2.lt⟩ ⟨⟨⟨⟨blk_below hi.1.1.1.1 bA, blk_below hi.1.1.1.2 bA⟩, blk_below hi.1.1.2 bA⟩, hi.1.2⟩, hi.2.trans (bA.mono hi.2.size)⟩ ⟨W.heap.size, d, ku2, kc2, ku5, kc5, ⟨?_, HXV.out⟩, heap_alloc_new _ _⟩
  rw [HII.out]
 case body =>
  intro l pre x a' W _ _ hi hax _
  obtain ⟨q7, d, ku2, kc2, ku5, kc5, ⟨rfl, hkv⟩, h7⟩ := hax
  obtain ⟨i, hxi⟩ := exq (n6 - 1 - x.1)
  have HIL : Hid (i < ev.length) := by show _ < _; rw [HLE.out]; have := x.2; omega
  rw [← hxi] at hkv ⊢
  have HM : Hid ((⟨d, .slice ku2 d.qfs.length kc2, .slice ku5 d.rfs.length kc5⟩ : SeV) ∈ ev) := by show _ ∈ _; rw [← hkv]; exact getD_mem0 _ ev i HIL.out
  have HEx : Hid (seAt se i = d) := by
   show _ = _
   rw [← HED.out]
   have h1 : seAt (ev.map (·.d)) i = (sevAt ev i).d := getD_map0 _ _ _ ev i HIL.out
   rw [h1, hkv]
  have HSD : Hid (SeSmall d) := HES.out _ HM.out
  have HIX := hid hxi
  have HI : Hid ((W.heap[q0]? = some (.cells #[.string a.opa, .slice ka11 a.oxs.length kac11, .slice ka12 a.oys.length kac12, .int .i64 a.ost, .slice ka14 a.ofs.length kac14, .string a.obd, .int .i64 a.otm] 62) ∧ W.heap[q1]? = some (.cells #[.int .i64 0] 3)) ∧ Boxed W q4 45 (.slice o6 n6 c6)) := hi.1.1
  have HPRE : Hid (∀ j ∈ pre, ¬ CameP (seAt se (n6 - 1 - j.1)) a) := hi.1.2
  have HBW : Hid (Below w.heap.size w W) := hi.2
  have H7 := hid h7
  clear hkv hxi hi h7
  have HNO : Hid (¬ CameP (seAt se i) a → ∀ j ∈ pre ++ [x], ¬ CameP (seAt se (n6 - 1 - j.1)) a) := fun hn j hj => by
   rcases List.mem_append.1 hj with h | h
   · exact HPRE.out j h
   · rw [List.mem_singleton.1 h, ← HIX.out]; exact hn
  have a0 : W.cell? ⟨q7, 0, none⟩ = some (.int .i64 d.qmt) := (cell_of H7.out 0).trans rfl
  have a1 : W.cell? ⟨q7, 1, none⟩ = some (.string d.qpa) := (cell_of H7.out 1).trans rfl
  have a2 : W.cell? ⟨q7, 2, none⟩ = some (.slice ku2 d.qfs.length kc2) := (cell_of H7.out 2).trans rfl
  have a3 : W.cell? ⟨q7, 3, none⟩ = some (.string d.qbd) := (cell_of H7.out 3).trans rfl
  have a4 : W.cell? ⟨q7, 4, none⟩ = some (.int .i64 d.rst) := (cell_of H7.out 4).trans rfl
  have a5 : W.cell? ⟨q7, 5, none⟩ = some (.slice ku5 d.rfs.length kc5) := (cell_of H7.out 5).trans rfl
  have a6 : W.cell? ⟨q7, 6, none⟩ = some (.string d.rbd) := (cell_of H7.out 6).trans rfl
  have a7 : W.cell? ⟨q7, 7, none⟩ = some (.int .i64 d.tim) := (cell_of H7.out 7).trans rfl
  have b0 : W.cell? ⟨q0, 0, none⟩ = some (.string a.opa) := (cell_of HI.out.1.1 0).trans rfl
  have b1 : W.cell? ⟨q0, 1, none⟩ = some (.slice ka11 a.oxs.length kac11) := (cell_of HI.out.1.1 1).trans rfl
  have b2 : W.cell? ⟨q0, 2, none⟩ = some (.slice ka12 a.oys.length kac12) := (cell_of HI.out.1.1 2).trans rfl
  have b3 : W.cell? ⟨q0, 3, none⟩ = some (.int .i64 a.ost) := (cell_of HI.out.1.1 3).trans rfl
  have b4 : W.cell? ⟨q0, 4, none⟩ = some (.slice ka14 a.ofs.length kac14) := (cell_of HI.out.1.1 4).trans rfl
  have b5 : W.cell? ⟨q0, 5, none⟩ = some (.string a.obd) := (cell_of HI.out.1.1 5).trans rfl
  have b6 : W.cell? ⟨q0, 6, none⟩ = some (.int .i64 a.otm) := (cell_of HI.out.1.1 6).trans rfl
  have HEND : Hid (∀ W2, Below W.heap.size W W2 → ¬ CameP (seAt se i) a → KeepsFrom W4.heap.size W W2 ∧ KeepL w.heap.size q4 W W2 ∧ (fun pre W => (((W.heap[q0]? = some (.cells #[.string a.opa, .slice ka11 a.oxs.length kac11, .slice ka12 a.oys.length kac12, .int .i64 a.ost, .slice ka14 a.ofs.length kac14, .string a.obd, .int .i64 a.otm] 62) ∧ W.heap[q1]? = some (.cells #[.int .i64 0] 3)) ∧ Boxed W q4 45 (.slice o6 n6 c6)) ∧ ∀ j ∈ pre, ¬ CameP (seAt se (n6 - 1 - j.1)) a) ∧ Below w.heap.size w W) (pre ++ [x]) W2) := fun W2 b2 hn =>
   ⟨below_fromS b2 _, ⟨b2.mono HBW.out.size, b2.block q4 HI.out.2.lt⟩, ⟨⟨⟨blk_below HI.out.1.1 b2, blk_below HI.out.1.2 b2⟩, blk_below HI.out.2 b2⟩, HNO.out hn⟩, HBW.out.trans (b2.mono HBW.out.size)⟩
  gi_wp2_with fail
  clear a0 a1 a2 a3 a4 a5 a6 a7 b0 b1 b2 b3 b4 b5 b6
  refine ⟨trivial, (callsIn_wide.2 (gave_any d _ _ B a _ _ _ _ _ C _ ((HSE.out _ HBW.out).item HM.out) HSD.out (HRa.out _ HBW.out) HSa.out)).mono ?_⟩
  rintro e w6 ⟨uu, rfl, huu, bw⟩
  have HB6 : Hid (Below W.heap.size W w6) := bw
  clear bw
  cases uu
  ·have HN : Hid (¬ CameP (seAt se i) a) := fun h => by rw [HEx.out] at h; exact nomatch huu.2 h
   clear huu
   gi_wp2
   exact HEND.out _ HB6.out HN.out
  have HFK : Hid (CameP (seAt se i) a) := by rw [HEx.out]; exact huu.1 rfl
  clear huu
  have HI6 : Hid (w6.heap[q0]? = some (.cells #[.string a.opa, .slice ka11 a.oxs.length kac11, .slice ka12 a.oys.length kac12, .int .i64 a.ost, .slice ka14 a.ofs.length kac14, .string a.obd, .int .i64 a.otm] 62) ∧ w6.heap[q1]? = some (.cells #[.int .i64 0] 3)) := ⟨blk_below HI.out.1.1 HB6.out, blk_below HI.out.1.2 HB6.out⟩
  have HBV6 : Hid (Below w.heap.size w w6) := HBW.out.trans (HB6.out.mono HBW.out.size)
  have z0 : w6.cell? ⟨q1, 0, none⟩ = some (.int .i64 0) := (cell_of HI6.out.2 0).trans rfl
  have fz0 : w6.frozen? ⟨q1, 0, none⟩ = false := frozen_of HI6.out.2 0
  have hQ1 : w.heap.size ≤ q1 := by have := HQ.out; omega
  have HZ1 : Hid ((w6.setCell ⟨q1, 0, none⟩ (.int .i64 (i : Int))).heap[q1]? = some (.cells #[.int .i64 (i : Int)] 3)) := by show _ = _; have h := heap_set _ q1 0 _ _ _ (.int .i64 (i : Int)) HI6.out.2; simpa using h
  have HZB : Hid (Below w.heap.size w (w6.setCell ⟨q1, 0, none⟩ (.int .i64 (i : Int)))) := HBV6.out.setCell (p := ⟨q1, 0, none⟩) hQ1 _
  have HZK : Hid (KeepsFrom W4.heap.size W (w6.setCell ⟨q1, 0, none⟩ (.int .i64 (i : Int)))) := (below_fromS HB6.out _).trans ((KeepsOthers.setCell _ _ _).from _)
  clear hQ1
  gi_wp2
  exact ⟨HZK.out, ⟨pre, x, rfl, rfl, HPRE.out, by rw [← HIX.out]; exact HFK.out, by rw [← HIX.out]; exact HZ1.out⟩, HZB.out⟩
 case done =>
  rintro D zs W hD rfl ⟨⟨⟨hI, hx⟩, hall⟩, hB⟩ hK
  have HLI : Hid (LastIs se a se.length (-1)) := .inl ⟨rfl, fun i hi => by
   have hl : se.length = n6 := by rw [← HED.out, List.length_map]; exact HLE.out
   rw [hl] at hi
   have h := hall ⟨n6 - 1 - i, by omega⟩ (List.mem_finRange _)
   dsimp only at h
   rw [show n6 - 1 - (n6 - 1 - i) = i by omega] at h
   exact h⟩
  have HB5 := hid hB
  have HI5 := hid hI
  have HK := hid hK
  have HD : Hid (D ≠ q1) := by have := HQ.out; have := HS4.out; show ¬ _; omega
  have HD2 : Hid (w.heap.size ≤ D) := by have := HS4.out; show _ ≤ _; omega
  clear hall hB hK hx hI
  have z0 : W.cell? ⟨q1, 0, none⟩ = some (.int .i64 0) := (cell_of HI5.out.2 0).trans rfl
  have fz0 : W.frozen? ⟨q1, 0, none⟩ = false := frozen_of HI5.out.2 0
  have hQ1 : w.heap.size ≤ q1 := by have := HQ.out; omega
  have HZ1 : Hid ((W.setCell ⟨q1, 0, none⟩ (.int .i64 (-1))).heap[q1]? = some (.cells #[.int .i64 (-1)] 3)) := by show _ = _; have h := heap_set _ q1 0 _ _ _ (.int .i64 (-1)) HI5.out.2; simpa using h
  have HZB : Hid (Below w.heap.size w (W.setCell ⟨q1, 0, none⟩ (.int .i64 (-1)))) := HB5.out.setCell (p := ⟨q1, 0, none⟩) hQ1 _
  clear hQ1
  gi_wp2
  clear z0 fz0
  have hK' : (W.setCell ⟨q1, 0, none⟩ (.int .i64 (-1))).heap[D]? = some (.deferred (some [])) := by
   rw [heap_setCell_other _ _ _ _ HD.out]
   exact HK.out
  refine ⟨by simp, .inl ⟨_, _, rfl, run_takeDeferred hK', ?_⟩⟩
  have g1 := blk_keptS HZ1.out (grownBy_putObj' _ D (.deferred none)) (fun r e => by cases e; exact ⟨_, hK', rfl⟩)
  refine ⟨.int .i64 (-1), ?_, ⟨-1, rfl, HLI.out, HZB.out.trans (belowK_b (w := w) (Nat.le_refl _) _ D _ _ HD2.out hK' rfl rfl)⟩⟩
  have k0 := (cell_of g1 0).trans rfl
  simp [results, Tryz.f102, go_sem, k0]
 case stop =>
  rintro D c pq W hD hpq ⟨⟨pre, x, rfl, rfl, hpre, hfk, h1⟩, hB⟩ hK
  have hl : se.length = n6 := by rw [← HED.out, List.length_map]; exact HLE.out
  have HLI : Hid (LastIs se a se.length ((n6 - 1 - x.1 : Nat) : Int)) := .inr ⟨n6 - 1 - x.1, by rw [hl]; have := x.2; omega, rfl, hfk, fun j j1 j2 => by
   rw [hl] at j2
   have hm := fin_prefixS hpq ⟨n6 - 1 - j, by omega⟩ (by dsimp only; omega)
   have h := hpre _ hm
   dsimp only at h
   rw [show n6 - 1 - (n6 - 1 - j) = j by omega] at h
   exact h⟩
  obtain ⟨i, hi⟩ := exq (n6 - 1 - x.1)
  rw [← hi] at HLI h1
  have HD2 : Hid (w.heap.size ≤ D) := by have := HS4.out; show _ ≤ _; omega
  clear hfk hpre hi hpq
  gi_wp2
  refine ⟨by simp, .inl ⟨_, _, rfl, run_takeDeferred hK, ?_⟩⟩
  have g1 := blk_keptS h1 (grownBy_putObj' _ D (.deferred none)) (fun r e => by cases e; exact ⟨_, hK, rfl⟩)
  refine ⟨.int .i64 (i : Int), ?_, ⟨(i : Int), rfl, HLI.out, hB.trans (belowK_b (w := w) (Nat.le_refl _) _ D _ _ HD2.out hK rfl rfl)⟩⟩
  have k0 := (cell_of g1 0).trans rfl
  simp [results, Tryz.f102, go_sem, k0]
theorem sameAnswer_any (s1 s2 : Int) (v1 v2 : Value) (n1 n2 B1 B2 : Nat) (f1 f2 : Fs) (b1 b2 : Tx) (w : World) (h1 : FieldsV w B1 v1 n1 f1) (h2 : FieldsV w B2 v2 n2 f2) (hn1 : n1 ≤ 1048577) (hn2 : n2 ≤ 1048577) :
  Calls Tryz.prog 100 #[.agg #[.int .i64 s1, v1, .string b1], .agg #[.int .i64 s2, v2, .string b2]] w fun e w' => BoolIs (SameRP s1 f1 b1 s2 f2 b2) w e w' := by
 obtain ⟨o1, c1, hsl, _⟩ := h1.slice
 subst hsl
 obtain ⟨o2, c2, hsl, _⟩ := h2.slice
 subst hsl
 have HV1 : Hid (∀ W, Below w.heap.size w W → FieldsV W B1 (.slice o1 n1 c1) n1 f1) := fun W h => h1.below h
 have HV2 : Hid (∀ W, Below w.heap.size w W → FieldsV W B2 (.slice o2 n2 c2) n2 f2) := fun W h => h2.below h
 clear h1 h2
 have hb0 := Below.refl w.heap.size w
 go_enter Tryz.func100, Tryz.ntmps100
 go_upto_region 1 with fail
 obtain ⟨q1, hq1⟩ := exq (w.heap.size)
 obtain ⟨w1, hW1⟩ := exq (w.alloc (.cells #[.int .i64 s1, .slice o1 n1 c1, .string b1] 60))
 have hz1 := hq1.symm
 rw [← hW1]; try rw [← hq1]
 have hs1 := hsa hW1 hz1
 have bw := bal hW1
 have hb1 := hbt hb0 bw
 have B1_1 := hnew hW1 hz1
 clear hb0 bw hW1 hz1
 obtain ⟨q2, hq2⟩ := exq (q1 + 1)
 obtain ⟨w2, hW2⟩ := exq (w1.alloc (.cells #[.int .i64 s2, .slice o2 n2 c2, .string b2] 60))
 have hz2 : w1.heap.size = q2 := by rw [hq2]; exact hs1
 rw [← hW2]; try rw [← hq2]
 have hs2 := hsa hW2 hz2
 have bw := bal hW2
 have hb2 := hbt hb1 bw
 have B1_2 := hblk B1_1 bw
 have B2_2 := hnew hW2 hz2
 clear hb1 bw hW2 hz2
 clear hs2 hq2 hs1 hq1
 by_cases hc1 : s1 = s2
 rotate_left
 ·have hc1b : ((s1 : Int) == (s2 : Int)) = false := by simpa using hc1
  have hc1n : ((s1 : Int) != (s2 : Int)) = true := by simpa using hc1
  have HES := hid hc1
  have hc1H := hid hc1
  clear hc1
  have c1_0 := (k3c B1_2).1
  have c2_0 := (k3c B2_2).1
  go_wp2_with fail
  go_ret
  exact BoolIs.no (fun h => HES.out h.1) hb2
 have hc1b : ((s1 : Int) == (s2 : Int)) = true := by simpa using hc1
 have hc1n : ((s1 : Int) != (s2 : Int)) = false := by simpa using hc1
 have HES := hid hc1
 have hc1H := hid hc1
 clear hc1
 have c1_0 := (k3c B1_2).1
 have c1_1 := (k3c B1_2).2.1
 have c2_0 := (k3c B2_2).1
 have c2_1 := (k3c B2_2).2.1
 go_wp2_with fail
 refine (equalFld_any _ _ n1 n2 B1 B2 f1 f2 _ (HV1.out _ hb2) (HV2.out _ hb2) (by omega) (by omega)).mono ?_
 rintro e w3 ⟨uf, rfl, huf, bw⟩
 have hb3 := hbt hb2 bw
 have B1_3 := hblk B1_2 bw
 have B2_3 := hblk B2_2 bw
 clear hb2 bw
 clear c1_0 c1_1 c2_0 c2_1
 cases uf
 ·have HNuf : Hid (¬ (f1 = f2)) := fun h => nomatch huf.2 h
  clear huf
  go_wp2_with fail
  go_ret
  exact BoolIs.no (fun h => HNuf.out h.2.1) hb3
 have HYuf : Hid (f1 = f2) := huf.1 rfl
 clear huf
 have c1_2 := (k3c B1_3).2.2
 have c2_2 := (k3c B2_3).2.2
 by_cases hc2 : b1 = b2
 rotate_left
 ·have hc2b : ((b1).toList == (b2).toList) = false := text_beq_no hc2
  have HEB := hid hc2
  clear hc2
  go_wp2_with fail
  go_ret
  exact BoolIs.no (fun h => HEB.out h.2.2) hb3
 have hc2b : ((b1).toList == (b2).toList) = true := (text_beq _ _).2 hc2
 have HEB := hid hc2
 clear hc2
 go_wp2_with fail
 go_ret
 exact BoolIs.yes ⟨HES.out, HYuf.out, HEB.out⟩ hb3
theorem asksForKept_any (m : Int) (p : Tx) (v : Value) (b : Tx) (n1 B : Nat) (fs : Fs) (w : World) (h1 : FieldsV w B v n1 fs) (hn : n1 ≤ 1048576) (hc : CopyF fs) (hg : (getV fs ccName).size ≤ 1048576) :
  Calls Tryz.prog 99 #[.agg #[.int .i64 m, .string p, v, .string b]] w fun e w' => BoolIs (AsksP m fs) w e w' := by
 obtain ⟨o1, c1, hsl, _⟩ := h1.slice
 subst hsl
 have HV : Hid (∀ W, Below w.heap.size w W → FieldsV W B (.slice o1 n1 c1) n1 fs) := fun W h => h1.below h
 have HCP := hid hc
 have HGV := hid hg
 obtain ⟨kc, hkc⟩ := exq (ccR (getV fs ccName))
 have HCK : Hid (ccR (getV fs ccName) = kc) := hkc.symm
 obtain ⟨x0, x1, x2, x3, x4, x5⟩ := kc
 clear h1 hc hg hkc
 have hb0 := Below.refl w.heap.size w
 go_enter Tryz.func99, Tryz.ntmps99
 go_upto_region 1 with fail
 obtain ⟨q1, hq1⟩ := exq (w.heap.size)
 obtain ⟨w1, hW1⟩ := exq (w.alloc (.cells #[.int .i64 m, .string p, .slice o1 n1 c1, .string b] 58))
 have hz1 := hq1.symm
 rw [← hW1]; try rw [← hq1]
 have hs1 := hsa hW1 hz1
 have bw := bal hW1
 have hb1 := hbt hb0 bw
 have B1_1 := hnew hW1 hz1
 clear hb0 bw hW1 hz1
 clear hs1 hq1
 have c1_2 := (k4c B1_1).2.2.1
 go_wp2_with fail
 refine (implCcOf_any _ n1 B fs _ (HV.out _ hb1) (by omega) HCP.out HGV.out).mono ?_
 rintro e w2 ⟨rfl, bw⟩
 rw [HCK.out]
 unfold CcD.v
 dsimp only
 have hb2 := hbt hb1 bw
 have B1_2 := hblk B1_1 bw
 clear hb1 bw
 clear c1_2
 go_upto_region 2 with fail
 obtain ⟨q2, hq2⟩ := exq (w2.heap.size)
 obtain ⟨w3, hW3⟩ := exq (w2.alloc (.cells #[.bool x0, .bool x1, .bool x2, .bool x3, .bool x4, .int .i64 x5] 106))
 have hz3 := hq2.symm
 rw [← hW3]; try rw [← hq2]
 have hs3 := hsa hW3 hz3
 have bw := bal hW3
 have hb3 := hbt hb2 bw
 have B1_3 := hblk B1_2 bw
 have B2_3 := hnew hW3 hz3
 clear hb2 bw hW3 hz3
 clear hs3 hq2
 by_cases hc1 : m = 1
 rotate_left
 ·have hc1b : ((m : Int) == (1 : Int)) = false := by simpa using hc1
  have hc1n : ((m : Int) != (1 : Int)) = true := by simpa using hc1
  have HME := hid hc1
  have hc1H := hid hc1
  clear hc1
  have c1_0 := (k4c B1_3).1
  go_wp2_with fail
  go_ret
  exact BoolIs.no (fun h => HME.out h.1) hb3
 have hc1b : ((m : Int) == (1 : Int)) = true := by simpa using hc1
 have hc1n : ((m : Int) != (1 : Int)) = false := by simpa using hc1
 have HME := hid hc1
 have hc1H : Hid (m = 1) := hc1
 clear hc1
 cases x1
 rotate_left
 ·have HX1 : Hid ((ccR (getV fs ccName)).nc = true) := by show _ = _; rw [HCK.out]
  have c1_0 := (k4c B1_3).1
  have c2_1 := (k6c B2_3).2.1
  go_wp2_with fail
  go_ret
  exact BoolIs.no (fun h => by have h1 := h.2.1; rw [HX1.out] at h1; cases h1) hb3
 have HX1 : Hid ((ccR (getV fs ccName)).nc = false) := by show _ = _; rw [HCK.out]
 have c1_0 := (k4c B1_3).1
 have c2_0 := (k6c B2_3).1
 have c2_1 := (k6c B2_3).2.1
 cases x0
 ·have HX0 : Hid ((ccR (getV fs ccName)).ns = false) := by show _ = _; rw [HCK.out]
  go_wp2_with fail
  go_ret
  exact BoolIs.yes ⟨HME.out, HX1.out, HX0.out⟩ hb3
 have HX0 : Hid ((ccR (getV fs ccName)).ns = true) := by show _ = _; rw [HCK.out]
 go_wp2_with fail
 go_ret
 exact BoolIs.no (fun h => by have h1 := h.2.2; rw [HX0.out] at h1; cases h1) hb3
theorem isRightFromHere_any (v1 v2 V VB F E R : Value) (kv : Ks) (fv : List FlV) (ev : List SeV) (rv : List RpV) (c : CaD) (B : Nat) (w : World) (h : CacheO w B v1 v2 V VB F E R kv fv ev rv c) (hz : CaSmall c) (a : RpD) (t3 t6 t11 t12 t14 : Value) (C : Nat) (hr : RowsO w C (rpR (⟨a, t3, t6, t11, t12, t14⟩ : RpV))) (ha : RpSmall a) (ht : TimesR a) (hT : TabOk w) :
  Calls Tryz.prog 50 #[.agg #[v1, v2, V, VB, .int .i64 c.s.nx, .int .i64 c.s.sq, F, .int .i64 c.now, E, R], .agg #[.int .i64 a.cli, .int .i64 a.qmt, .string a.qpa, t3, .string a.qbd, .int .i64 a.rst, t6, .string a.rbd, .int .i64 a.knd, .int .i64 a.tim, .string a.opa, t11, t12, .int .i64 a.ost, t14, .string a.obd, .int .i64 a.otm, .int .i64 a.bns]] w fun e w' => BoolIs (HereRP c a) w e w' := by
 obtain ⟨o1, c1, rfl⟩ := slice_of_owns h.shelf.disk.cells
 obtain ⟨o2, c2, rfl⟩ := slice_of_owns h.shelf.disk.pend
 obtain ⟨o3, c3, rfl⟩ := h.shelf.kept.len
 obtain ⟨o4, c4, rfl⟩ := slice_of_owns h.shelf.bans
 obtain ⟨o5, c5, rfl⟩ := h.fls.len
 obtain ⟨o6, c6, rfl⟩ := h.ses.len
 obtain ⟨o7, c7, rfl⟩ := h.rps.len
 obtain ⟨n3, hn3⟩ := exq kv.length
 obtain ⟨n4, hn4⟩ := exq (c.s.bl.length)
 obtain ⟨n5, hn5⟩ := exq fv.length
 obtain ⟨n6, hn6⟩ := exq ev.length
 obtain ⟨n7, hn7⟩ := exq rv.length
 rw [← hn3, ← hn4, ← hn5, ← hn6, ← hn7] at h ⊢
 have HLK : Hid (kv.length = n3) := hn3.symm
 have HLB : Hid (c.s.bl.length = n4) := hn4.symm
 have HLF : Hid (fv.length = n5) := hn5.symm
 have HLE : Hid (ev.length = n6) := hn6.symm
 have HLR : Hid (rv.length = n7) := hn7.symm
 have HLC : Hid (c.fl.length = n5 ∧ c.se.length = n6 ∧ c.sn.length = n7 ∧ c.s.ks.length = n3) := ⟨by rw [← h.hf, List.length_map, hn5], by rw [← h.he, List.length_map, hn6], by rw [← h.hr, List.length_map, hn7], by rw [← h.hk, List.length_map, hn3]⟩
 have HFD : Hid (fv.map (·.d) = c.fl) := h.hf
 have HED : Hid (ev.map (·.d) = c.se) := h.he
 have HKS : Hid (kv.map (·.1) = c.s.ks) := h.hk
 have HZ := hid hz
 have bn3 : n3 ≤ 1048576 := by rw [← HLC.out.2.2.2]; exact hz.s.k
 have bn4 : n4 ≤ 1048576 := by rw [← HLB.out]; exact hz.s.b
 have bn5 : n5 ≤ 1048576 := by rw [← HLC.out.1]; exact hz.nf
 have bn6 : n6 ≤ 1048576 := by rw [← HLC.out.2.1]; exact hz.ne
 have bn7 : n7 ≤ 1048576 := by rw [← HLC.out.2.2.1]; exact hz.nr
 have HCA : Hid (∀ W, Below w.heap.size w W → CacheO W B (.slice o1 c.s.cs.length c1) (.slice o2 c.s.ws.length c2) (.slice o3 n3 c3) (.slice o4 n4 c4) (.slice o5 n5 c5) (.slice o6 n6 c6) (.slice o7 n7 c7) kv fv ev rv c) := fun W hb => h.below hb
 have HKP : Hid (∀ W, Below w.heap.size w W → KeptsO W B (.slice o3 n3 c3) kv) := fun W hb => (h.below hb).shelf.kept
 have HBN : Hid (∀ W, Below w.heap.size w W → BanA W o4 n4 c.s.bl) := fun W hb => by
  have h1 := (h.below hb).shelf.bans
  rw [HLB.out] at h1
  exact ban_view h1
 have HC4 : Hid (n4 ≤ c4) := by
  have h1 := h.shelf.bans
  rw [HLB.out] at h1
  exact owns_cap h1
 clear hn3 hn4 hn5 hn6 hn7 h hz
 obtain ⟨ka3, kac3, hu⟩ := slice_of_owns (hr.own (⟨185, 2, t3, a.qfs.length, flatF a.qfs⟩ : Rw) (by simp [rpR]))
 obtain rfl : t3 = .slice ka3 a.qfs.length kac3 := hu
 obtain ⟨ka6, kac6, hu⟩ := slice_of_owns (hr.own (⟨185, 2, t6, a.rfs.length, flatF a.rfs⟩ : Rw) (by simp [rpR]))
 obtain rfl : t6 = .slice ka6 a.rfs.length kac6 := hu
 obtain ⟨ka11, kac11, hu⟩ := slice_of_owns (hr.own (⟨9, 1, t11, a.oxs.length, a.oxs.map Value.string⟩ : Rw) (by simp [rpR]))
 obtain rfl : t11 = .slice ka11 a.oxs.length kac11 := hu
 obtain ⟨ka12, kac12, hu⟩ := slice_of_owns (hr.own (⟨9, 1, t12, a.oys.length, a.oys.map Value.string⟩ : Rw) (by simp [rpR]))
 obtain rfl : t12 = .slice ka12 a.oys.length kac12 := hu
 obtain ⟨ka14, kac14, hu⟩ := slice_of_owns (hr.own (⟨185, 2, t14, a.ofs.length, flatF a.ofs⟩ : Rw) (by simp [rpR]))
 obtain rfl : t14 = .slice ka14 a.ofs.length kac14 := hu
 have HRa : Hid (∀ W, Below w.heap.size w W → RowsO W C (rpR (⟨a, .slice ka3 a.qfs.length kac3, .slice ka6 a.rfs.length kac6, .slice ka11 a.oxs.length kac11, .slice ka12 a.oys.length kac12, .slice ka14 a.ofs.length kac14⟩ : RpV))) := fun W hb => hr.below hb
 have HSa := hid ha
 have HTa := hid ht
 have ban : a.rfs.length ≤ 1048576 := ha.rfs.1
 obtain ⟨rS, hrS⟩ := exq (ansS a.qfs a.ofs a.ost)
 obtain ⟨rF, hrF⟩ := exq (ansF a.qfs a.ofs a.ost a.obd a.otm a.tim)
 obtain ⟨rB, hrB⟩ := exq (ansB a.qfs a.ofs a.obd)
 obtain ⟨nF, hnF⟩ := exq rF.length
 have bnF : nF ≤ 1048577 := by
  rw [hnF, hrF]
  have h1 := ansF_le a.qfs a.ofs a.ost a.obd a.otm a.tim
  have h2 := ha.ofs.1
  omega
 have HNF : Hid (rF.length = nF) := hnF.symm
 have HANS : Hid (AnsweredP a ↔ SameRP a.rst a.rfs a.rbd rS rF rB) := by show _ ↔ _; rw [hrS, hrF, hrB]; exact Iff.rfl
 have HAE : Hid (ansS a.qfs a.ofs a.ost = rS ∧ ansF a.qfs a.ofs a.ost a.obd a.otm a.tim = rF ∧ ansB a.qfs a.ofs a.obd = rB) := ⟨hrS.symm, hrF.symm, hrB.symm⟩
 clear hr ha ht hrS hrF hrB hnF
 have HT : Hid (∀ W, Below w.heap.size w W → TabOk W) := fun W hb => hT.below hb
 clear hT
 have hb0 := Below.refl w.heap.size w
 go_enter Tryz.func50, Tryz.ntmps50
 go_upto_region 1 with fail
 obtain ⟨q1, hq1⟩ := exq (w.heap.size)
 obtain ⟨w1, hW1⟩ := exq (w.alloc (.cells #[.slice o1 c.s.cs.length c1, .slice o2 c.s.ws.length c2, .slice o3 n3 c3, .slice o4 n4 c4, .int .i64 c.s.nx, .int .i64 c.s.sq, .slice o5 n5 c5, .int .i64 c.now, .slice o6 n6 c6, .slice o7 n7 c7] 48))
 have hz1 := hq1.symm
 rw [← hW1]; try rw [← hq1]
 have hs1 := hsa hW1 hz1
 have bw := bal hW1
 have hb1 := hbt hb0 bw
 have B1_1 := hnew hW1 hz1
 clear hb0 bw hW1 hz1
 obtain ⟨q2, hq2⟩ := exq (q1 + 1)
 obtain ⟨w2, hW2⟩ := exq (w1.alloc (.cells #[.int .i64 a.cli, .int .i64 a.qmt, .string a.qpa, .slice ka3 a.qfs.length kac3, .string a.qbd, .int .i64 a.rst, .slice ka6 a.rfs.length kac6, .string a.rbd, .int .i64 a.knd, .int .i64 a.tim, .string a.opa, .slice ka11 a.oxs.length kac11, .slice ka12 a.oys.length kac12, .int .i64 a.ost, .slice ka14 a.ofs.length kac14, .string a.obd, .int .i64 a.otm, .int .i64 a.bns] 64))
 have hz2 : w1.heap.size = q2 := by rw [hq2]; exact hs1
 rw [← hW2]; try rw [← hq2]
 have hs2 := hsa hW2 hz2
 have bw := bal hW2
 have hb2 := hbt hb1 bw
 have B1_2 := hblk B1_1 bw
 have B2_2 := hnew hW2 hz2
 clear hb1 bw hW2 hz2
 clear hs2 hq2 hs1 hq1
 have c2_10 := hcl B2_2 10 rfl
 have Acv2_10 := hca B2_2 10 rfl
 have Afcv2_10 := hfa B2_2 10
 have c2_11 := hcl B2_2 11 rfl
 have Acv2_11 := hca B2_2 11 rfl
 have Afcv2_11 := hfa B2_2 11
 have c2_12 := hcl B2_2 12 rfl
 have Acv2_12 := hca B2_2 12 rfl
 have Afcv2_12 := hfa B2_2 12
 have c2_13 := hcl B2_2 13 rfl
 have Acv2_13 := hca B2_2 13 rfl
 have Afcv2_13 := hfa B2_2 13
 have c2_14 := hcl B2_2 14 rfl
 have Acv2_14 := hca B2_2 14 rfl
 have Afcv2_14 := hfa B2_2 14
 have c2_15 := hcl B2_2 15 rfl
 have Acv2_15 := hca B2_2 15 rfl
 have Afcv2_15 := hfa B2_2 15
 have c2_16 := hcl B2_2 16 rfl
 have Acv2_16 := hca B2_2 16 rfl
 have Afcv2_16 := hfa B2_2 16
 go_upto_region 2 with fail
 obtain ⟨q3, hq3⟩ := exq (w2.heap.size)
 obtain ⟨w3, hW3⟩ := exq (w2.alloc (.cells #[.string a.opa, .slice ka11 a.oxs.length kac11, .slice ka12 a.oys.length kac12, .int .i64 a.ost, .slice ka14 a.ofs.length kac14, .string a.obd, .int .i64 a.otm] 62))
 have hz3 := hq3.symm
 rw [← hW3]; try rw [← hq3]
 have hs3 := hsa hW3 hz3
 have bw := bal hW3
 have hb3 := hbt hb2 bw
 have B1_3 := hblk B1_2 bw
 have B2_3 := hblk B2_2 bw
 have B3_3 := hnew hW3 hz3
 clear hb2 bw hW3 hz3
 clear hs3 hq3
 clear c2_10 Acv2_10 Afcv2_10 c2_11 Acv2_11 Afcv2_11 c2_12 Acv2_12 Afcv2_12 c2_13 Acv2_13 Afcv2_13 c2_14 Acv2_14 Afcv2_14 c2_15 Acv2_15 Afcv2_15 c2_16 Acv2_16 Afcv2_16
 by_cases hc1 : a.opa = a.qpa
 rotate_left
 ·have hc1b : ((a.opa).toList == (a.qpa).toList) = false := text_beq_no hc1
  have HPE := hid hc1
  clear hc1
  have c2_2 := hcl B2_3 2 rfl
  have c3_0 := (k7c B3_3).1
  go_upto_region 3 with fail
  clear c2_2 c3_0
  refine wp_region_held_drew (S := fun W => W.heap[q2]? = some (.cells #[.int .i64 a.cli, .int .i64 a.qmt, .string a.qpa, .slice ka3 a.qfs.length kac3, .string a.qbd, .int .i64 a.rst, .slice ka6 a.rfs.length kac6, .string a.rbd, .int .i64 a.knd, .int .i64 a.tim, .string a.opa, .slice ka11 a.oxs.length kac11, .slice ka12 a.oys.length kac12, .int .i64 a.ost, .slice ka14 a.ofs.length kac14, .string a.obd, .int .i64 a.otm, .int .i64 a.bns] 64) ∧ W.heap[q3]? = some (.cells #[.string a.opa, .slice ka11 a.oxs.length kac11, .slice ka12 a.oys.length kac12, .int .i64 a.ost, .slice ka14 a.ofs.length kac14, .string a.obd, .int .i64 a.otm] 62) ∧ W.heap[q1]? = some (.cells #[.slice o1 c.s.cs.length c1, .slice o2 c.s.ws.length c2, .slice o3 n3 c3, .slice o4 n4 c4, .int .i64 c.s.nx, .int .i64 c.s.sq, .slice o5 n5 c5, .int .i64 c.now, .slice o6 n6 c6, .slice o7 n7 c7] 48)) (by kernel_rfl) ⟨B2_3.out, B3_3.out, B1_3.out⟩ (fun _ => ?_)
  obtain ⟨w4, hX⟩ := exq w3.drew
  have bw := bdr hX
  rw [← hX]
  have hb4 := hbt hb3 bw
  have HM4 := hsz bw
  have B1_4 := hblk B1_3 bw
  have B2_4 := hblk B2_3 bw
  have B3_4 := hblk B3_3 bw
  have hS4 := And.intro B2_4.out (And.intro B3_4.out B1_4.out)
  clear hb3 bw hX
  refine tkP 0 (.bool false) 35 rfl rfl hS4 (tkP 1 (.bool false) 36 rfl rfl hS4 (tkN 2 37 rfl rfl hS4 ?_))
  go_frame
  refine tkN 3 38 rfl rfl hS4 (tkN 4 39 rfl rfl hS4 (tkP 5 (.bool false) 40 rfl rfl hS4 ?_))
  go_frame
  refine tkP 6 (.bool false) 41 rfl rfl hS4 (tkN 7 42 rfl rfl hS4 (tkN 8 43 rfl rfl hS4 ?_))
  go_frame
  refine tkN 9 44 rfl rfl hS4 (tkN 10 45 rfl rfl hS4 (tkN 11 46 rfl rfl hS4 ?_))
  go_frame
  refine tkN 12 47 rfl rfl hS4 (tkN 13 48 rfl rfl hS4 (tkN 14 49 rfl rfl hS4 ?_))
  go_frame
  refine tkN 15 50 rfl rfl hS4 (tkP 16 (.bool false) 51 rfl rfl hS4 (tkP 17 (.bool false) 52 rfl rfl hS4 ?_))
  go_frame
  refine tkN 18 53 rfl rfl hS4 (tkN 19 54 rfl rfl hS4 (tkN 20 55 rfl rfl hS4 ?_))
  go_frame
  refine tkN 21 56 rfl rfl hS4 (tkN 22 57 rfl rfl hS4 (tkP 23 (.bool false) 58 rfl rfl hS4 ?_))
  go_frame
  refine tkP 24 (.bool false) 4 rfl rfl hS4 ?_
  go_frame
  clear hS4
  refine wdn ?_
  go_wp2_with fail
  go_ret
  exact BoolIs.no (fun h => HPE.out h.2.1) hb4
 have hc1b : ((a.opa).toList == (a.qpa).toList) = true := (text_beq _ _).2 hc1
 have HPE := hid hc1
 clear hc1
 have c2_2 := hcl B2_3 2 rfl
 have c2_3 := hcl B2_3 3 rfl
 have c3_0 := (k7c B3_3).1
 have c3_1 := (k7c B3_3).2.1
 have c3_2 := (k7c B3_3).2.2.1
 go_wp2_with fail
 refine (implSuits_r a _ _ _ _ _ C _ (HRa.out _ hb3) HSa.out).mono ?_
 rintro e w4 ⟨su, rfl, hsu, bw⟩
 have hb4 := hbt hb3 bw
 have HM4 := hsz bw
 have B1_4 := hblk B1_3 bw
 have B2_4 := hblk B2_3 bw
 have B3_4 := hblk B3_3 bw
 clear hb3 bw
 clear c2_2 c2_3 c3_0 c3_1 c3_2
 cases su
 ·have HNsu : Hid (¬ (suitsP a.oxs a.oys a.qfs = true)) := fun h => nomatch hsu.2 h
  clear hsu
  go_upto_region 3 with fail
  refine wp_region_held_drew (S := fun W => W.heap[q2]? = some (.cells #[.int .i64 a.cli, .int .i64 a.qmt, .string a.qpa, .slice ka3 a.qfs.length kac3, .string a.qbd, .int .i64 a.rst, .slice ka6 a.rfs.length kac6, .string a.rbd, .int .i64 a.knd, .int .i64 a.tim, .string a.opa, .slice ka11 a.oxs.length kac11, .slice ka12 a.oys.length kac12, .int .i64 a.ost, .slice ka14 a.ofs.length kac14, .string a.obd, .int .i64 a.otm, .int .i64 a.bns] 64) ∧ W.heap[q3]? = some (.cells #[.string a.opa, .slice ka11 a.oxs.length kac11, .slice ka12 a.oys.length kac12, .int .i64 a.ost, .slice ka14 a.ofs.length kac14, .string a.obd, .int .i64 a.otm] 62) ∧ W.heap[q1]? = some (.cells #[.slice o1 c.s.cs.length c1, .slice o2 c.s.ws.length c2, .slice o3 n3 c3, .slice o4 n4 c4, .int .i64 c.s.nx, .int .i64 c.s.sq, .slice o5 n5 c5, .int .i64 c.now, .slice o6 n6 c6, .slice o7 n7 c7] 48)) (by kernel_rfl) ⟨B2_4.out, B3_4.out, B1_4.out⟩ (fun _ => ?_)
  obtain ⟨w5, hX⟩ := exq w4.drew
  have bw := bdr hX
  rw [← hX]
  have hb5 := hbt hb4 bw
  have HM5 := hsz bw
  have B1_5 := hblk B1_4 bw
  have B2_5 := hblk B2_4 bw
  have B3_5 := hblk B3_4 bw
  have hS5 := And.intro B2_5.out (And.intro B3_5.out B1_5.out)
  clear hb4 bw hX
  refine tkP 0 (.bool false) 35 rfl rfl hS5 (tkP 1 (.bool false) 36 rfl rfl hS5 (tkN 2 37 rfl rfl hS5 ?_))
  go_frame
  refine tkN 3 38 rfl rfl hS5 (tkN 4 39 rfl rfl hS5 (tkP 5 (.bool false) 40 rfl rfl hS5 ?_))
  go_frame
  refine tkP 6 (.bool false) 41 rfl rfl hS5 (tkN 7 42 rfl rfl hS5 (tkN 8 43 rfl rfl hS5 ?_))
  go_frame
  refine tkN 9 44 rfl rfl hS5 (tkN 10 45 rfl rfl hS5 (tkN 11 46 rfl rfl hS5 ?_))
  go_frame
  refine tkN 12 47 rfl rfl hS5 (tkN 13 48 rfl rfl hS5 (tkN 14 49 rfl rfl hS5 ?_))
  go_frame
  refine tkN 15 50 rfl rfl hS5 (tkP 16 (.bool false) 51 rfl rfl hS5 (tkP 17 (.bool false) 52 rfl rfl hS5 ?_))
  go_frame
  refine tkN 18 53 rfl rfl hS5 (tkN 19 54 rfl rfl hS5 (tkN 20 55 rfl rfl hS5 ?_))
  go_frame
  refine tkN 21 56 rfl rfl hS5 (tkN 22 57 rfl rfl hS5 (tkP 23 (.bool false) 58 rfl rfl hS5 ?_))
  go_frame
  refine tkP 24 (.bool false) 4 rfl rfl hS5 ?_
  go_frame
  clear hS5
  refine wdn ?_
  go_wp2_with fail
  go_ret
  exact BoolIs.no (fun h => HNsu.out h.2.2.1) hb5
 have HYsu : Hid (suitsP a.oxs a.oys a.qfs = true) := hsu.1 rfl
 clear hsu
 have c2_9 := hcl B2_4 9 rfl
 have c3_4 := (k7c B3_4).2.2.2.2.1
 have c3_6 := (k7c B3_4).2.2.2.2.2.2
 go_wp2_with fail
 refine (implFresh_r a _ _ _ _ _ C _ (HRa.out _ hb4) HSa.out HTa.out).mono ?_
 rintro e w5 ⟨ff, rfl, hff, bw⟩
 have hb5 := hbt hb4 bw
 have HM5 := hsz bw
 have B1_5 := hblk B1_4 bw
 have B2_5 := hblk B2_4 bw
 have B3_5 := hblk B3_4 bw
 clear hb4 bw
 clear c2_9 c3_4 c3_6
 go_upto_region 3 with fail
 refine wp_region_held_drew (S := fun W => W.heap[q2]? = some (.cells #[.int .i64 a.cli, .int .i64 a.qmt, .string a.qpa, .slice ka3 a.qfs.length kac3, .string a.qbd, .int .i64 a.rst, .slice ka6 a.rfs.length kac6, .string a.rbd, .int .i64 a.knd, .int .i64 a.tim, .string a.opa, .slice ka11 a.oxs.length kac11, .slice ka12 a.oys.length kac12, .int .i64 a.ost, .slice ka14 a.ofs.length kac14, .string a.obd, .int .i64 a.otm, .int .i64 a.bns] 64) ∧ W.heap[q3]? = some (.cells #[.string a.opa, .slice ka11 a.oxs.length kac11, .slice ka12 a.oys.length kac12, .int .i64 a.ost, .slice ka14 a.ofs.length kac14, .string a.obd, .int .i64 a.otm] 62) ∧ W.heap[q1]? = some (.cells #[.slice o1 c.s.cs.length c1, .slice o2 c.s.ws.length c2, .slice o3 n3 c3, .slice o4 n4 c4, .int .i64 c.s.nx, .int .i64 c.s.sq, .slice o5 n5 c5, .int .i64 c.now, .slice o6 n6 c6, .slice o7 n7 c7] 48)) (by kernel_rfl) ⟨B2_5.out, B3_5.out, B1_5.out⟩ (fun _ => ?_)
 obtain ⟨w6, hX⟩ := exq w5.drew
 have bw := bdr hX
 rw [← hX]
 have hb6 := hbt hb5 bw
 have B1_6 := hblk B1_5 bw
 have B2_6 := hblk B2_5 bw
 have B3_6 := hblk B3_5 bw
 have hS6 := And.intro B2_6.out (And.intro B3_6.out B1_6.out)
 clear hb5 bw hX
 refine tkP 0 (.bool ff) 35 rfl rfl hS6 (tkP 1 (.bool ff) 36 rfl rfl hS6 ?_)
 go_frame
 cases ff
 ·have HNff : Hid (¬ (freshOf a.ofs a.otm a.tim = true)) := fun h => nomatch hff.2 h
  clear hff
  refine tkN 2 37 rfl rfl hS6 (tkN 3 38 rfl rfl hS6 (tkN 4 39 rfl rfl hS6 ?_))
  go_frame
  refine tkP 5 (.bool false) 40 rfl rfl hS6 (tkP 6 (.bool false) 41 rfl rfl hS6 (tkN 7 42 rfl rfl hS6 ?_))
  go_frame
  refine tkN 8 43 rfl rfl hS6 (tkN 9 44 rfl rfl hS6 (tkN 10 45 rfl rfl hS6 ?_))
  go_frame
  refine tkN 11 46 rfl rfl hS6 (tkN 12 47 rfl rfl hS6 (tkN 13 48 rfl rfl hS6 ?_))
  go_frame
  refine tkN 14 49 rfl rfl hS6 (tkN 15 50 rfl rfl hS6 (tkP 16 (.bool false) 51 rfl rfl hS6 ?_))
  go_frame
  refine tkP 17 (.bool false) 52 rfl rfl hS6 (tkN 18 53 rfl rfl hS6 (tkN 19 54 rfl rfl hS6 ?_))
  go_frame
  refine tkN 20 55 rfl rfl hS6 (tkN 21 56 rfl rfl hS6 (tkN 22 57 rfl rfl hS6 ?_))
  go_frame
  refine tkP 23 (.bool false) 58 rfl rfl hS6 (tkP 24 (.bool false) 4 rfl rfl hS6 ?_)
  go_frame
  clear hS6
  refine wdn ?_
  go_wp2_with fail
  go_ret
  exact BoolIs.no (fun h => HNff.out h.1) hb6
 have HYff : Hid (freshOf a.ofs a.otm a.tim = true) := hff.1 rfl
 clear hff
 refine tkP 2 (.pointer (some ⟨q2, 1, none⟩)) 37 rfl rfl hS6 ?_
 go_frame
 refine tkL 3 (.agg #[.int .i64 a.qmt, .string a.qpa, .slice ka3 a.qfs.length kac3, .string a.qbd]) 38 rfl rfl (Or.inl ⟨by rfl, by intro W hW; obtain ⟨hhv2, hhv3, hhv1⟩ := hW; have y1 := (cell_of hhv2 1).trans rfl; have y2 := (cell_of hhv2 2).trans rfl; have y3 := (cell_of hhv2 3).trans rfl; have y4 := (cell_of hhv2 4).trans rfl; go_simp⟩) hS6 ?_
 go_frame
 refine rd1 4 rfl (fun K hK => ?_)
 go_simp
 refine (asksForKept_any a.qmt a.qpa _ a.qbd _ C a.qfs _ (rpR_q (HRa.out _ hb6)) HSa.out.qfs.1 (fs_copy HSa.out.qfs.2) (fs_get HSa.out.qfs.2 _)).mono ?_
 rintro e w7 ⟨uk, rfl, huk, bw⟩
 have hb7 := hbt hb6 bw
 have B1_7 := hblk B1_6 bw
 have B2_7 := hblk B2_6 bw
 have B3_7 := hblk B3_6 bw
 clear hb6 bw
 have hS7 := And.intro B2_7.out (And.intro B3_7.out B1_7.out)
 refine hK.out _ _ hS7 (fun _ => ?_)
 clear hK K hS6
 refine tkP 5 (.bool uk) 40 rfl rfl hS7 (tkP 6 (.bool uk) 41 rfl rfl hS7 ?_)
 go_frame
 cases uk
 ·have HNuk : Hid (¬ (AsksP a.qmt a.qfs)) := fun h => nomatch huk.2 h
  clear huk
  refine tkN 7 42 rfl rfl hS7 (tkN 8 43 rfl rfl hS7 (tkN 9 44 rfl rfl hS7 ?_))
  go_frame
  refine tkN 10 45 rfl rfl hS7 (tkN 11 46 rfl rfl hS7 (tkN 12 47 rfl rfl hS7 ?_))
  go_frame
  refine tkN 13 48 rfl rfl hS7 (tkN 14 49 rfl rfl hS7 (tkN 15 50 rfl rfl hS7 ?_))
  go_frame
  refine tkP 16 (.bool false) 51 rfl rfl hS7 (tkP 17 (.bool false) 52 rfl rfl hS7 (tkN 18 53 rfl rfl hS7 ?_))
  go_frame
  refine tkN 19 54 rfl rfl hS7 (tkN 20 55 rfl rfl hS7 (tkN 21 56 rfl rfl hS7 ?_))
  go_frame
  refine tkN 22 57 rfl rfl hS7 (tkP 23 (.bool false) 58 rfl rfl hS7 (tkP 24 (.bool false) 4 rfl rfl hS7 ?_))
  go_frame
  clear hS7
  refine wdn ?_
  go_wp2_with fail
  go_ret
  exact BoolIs.no (fun h => HNuk.out h.2.2.2.1) hb7
 have HYuk : Hid (AsksP a.qmt a.qfs) := huk.1 rfl
 clear huk
 refine tkP 7 (.pointer (some ⟨q2, 5, none⟩)) 42 rfl rfl hS7 ?_
 go_frame
 refine tkL 8 (.agg #[.int .i64 a.rst, .slice ka6 a.rfs.length kac6, .string a.rbd]) 43 rfl rfl (Or.inl ⟨by rfl, by intro W hW; obtain ⟨hhv2, hhv3, hhv1⟩ := hW; have y5 := (cell_of hhv2 5).trans rfl; have y6 := (cell_of hhv2 6).trans rfl; have y7 := (cell_of hhv2 7).trans rfl; go_simp⟩) hS7 ?_
 go_frame
 refine tkP 9 (.pointer (some ⟨q2, 1, none⟩)) 44 rfl rfl hS7 ?_
 go_frame
 refine tkL 10 (.agg #[.int .i64 a.qmt, .string a.qpa, .slice ka3 a.qfs.length kac3, .string a.qbd]) 45 rfl rfl (Or.inl ⟨by rfl, by intro W hW; obtain ⟨hhv2, hhv3, hhv1⟩ := hW; have y1 := (cell_of hhv2 1).trans rfl; have y2 := (cell_of hhv2 2).trans rfl; have y3 := (cell_of hhv2 3).trans rfl; have y4 := (cell_of hhv2 4).trans rfl; go_simp⟩) hS7 ?_
 go_frame
 refine tkL 11 (.agg #[.string a.opa, .slice ka11 a.oxs.length kac11, .slice ka12 a.oys.length kac12, .int .i64 a.ost, .slice ka14 a.ofs.length kac14, .string a.obd, .int .i64 a.otm]) 46 rfl rfl (Or.inl ⟨by rfl, by intro W hW; obtain ⟨hhv2, hhv3, hhv1⟩ := hW; have y0 := (cell_of hhv3 0).trans rfl; have y1 := (cell_of hhv3 1).trans rfl; have y2 := (cell_of hhv3 2).trans rfl; have y3 := (cell_of hhv3 3).trans rfl; have y4 := (cell_of hhv3 4).trans rfl; have y5 := (cell_of hhv3 5).trans rfl; have y6 := (cell_of hhv3 6).trans rfl; go_simp⟩) hS7 ?_
 go_frame
 refine tkP 12 (.pointer (some ⟨q2, 9, none⟩)) 47 rfl rfl hS7 ?_
 go_frame
 refine tkL 13 (.int .i64 a.tim) 48 rfl rfl (Or.inl ⟨by rfl, by intro W hW; obtain ⟨hhv2, hhv3, hhv1⟩ := hW; have y9 := (cell_of hhv2 9).trans rfl; go_simp⟩) hS7 ?_
 go_frame
 refine rd1 14 rfl (fun K hK => ?_)
 go_simp
 refine (implAnswer_r a _ _ _ _ _ C _ (HRa.out _ hb7) HSa.out HTa.out (HT.out _ hb7)).mono ?_
 rintro e w8 ⟨vv, rfl, ownAN, bw⟩
 rw [HAE.out.2.1] at ownAN
 rw [HAE.out.1, HAE.out.2.2]
 obtain ⟨oAN, pAN, rfl⟩ := slice_of_owns ownAN
 rw [HNF.out] at ownAN ⊢
 have hb8 := hbt hb7 bw
 have B1_8 := hblk B1_7 bw
 have B2_8 := hblk B2_7 bw
 have B3_8 := hblk B3_7 bw
 have HOAN_8 := hwd ownAN hb7.size
 clear ownAN
 clear hb7 bw
 have hS8 := And.intro B2_8.out (And.intro B3_8.out B1_8.out)
 refine hK.out _ _ hS8 (fun _ => ?_)
 clear hK K hS7
 refine rd1 15 rfl (fun K hK => ?_)
 go_simp
 refine (sameAnswer_any a.rst rS _ _ _ nF C w.heap.size a.rfs rF a.rbd rB _ (rpR_r (HRa.out _ hb8)) (FieldsV.of_owns (show World.ownsRow _ _ _ _ _ rF.length _ by rw [HNF.out]; exact HOAN_8.out) |> (fun h => by rw [HNF.out] at h; exact h)) (by omega) bnF).mono ?_
 rintro e w9 ⟨ur, rfl, hur, bw⟩
 have hb9 := hbt hb8 bw
 have HOAN_9 := hown HOAN_8 bw
 have B1_9 := hblk B1_8 bw
 have B2_9 := hblk B2_8 bw
 have B3_9 := hblk B3_8 bw
 clear hb8 bw
 have hS9 := And.intro B2_9.out (And.intro B3_9.out B1_9.out)
 refine hK.out _ _ hS9 (fun _ => ?_)
 clear hK K hS8
 refine tkP 16 (.bool ur) 51 rfl rfl hS9 (tkP 17 (.bool ur) 52 rfl rfl hS9 ?_)
 go_frame
 cases ur
 ·have HNur : Hid (¬ (SameRP a.rst a.rfs a.rbd rS rF rB)) := fun h => nomatch hur.2 h
  clear hur
  refine tkN 18 53 rfl rfl hS9 (tkN 19 54 rfl rfl hS9 (tkN 20 55 rfl rfl hS9 ?_))
  go_frame
  refine tkN 21 56 rfl rfl hS9 (tkN 22 57 rfl rfl hS9 (tkP 23 (.bool false) 58 rfl rfl hS9 ?_))
  go_frame
  refine tkP 24 (.bool false) 4 rfl rfl hS9 ?_
  go_frame
  clear hS9
  refine wdn ?_
  go_wp2_with fail
  go_ret
  exact BoolIs.no (fun h => HNur.out (HANS.out.1 h.2.2.2.2.1)) hb9
 have HYur : Hid (SameRP a.rst a.rfs a.rbd rS rF rB) := hur.1 rfl
 clear hur
 refine tkP 18 (.pointer (some ⟨q1, 8, none⟩)) 53 rfl rfl hS9 ?_
 go_frame
 refine tkL 19 (.slice o6 n6 c6) 54 rfl rfl (Or.inl ⟨by rfl, by intro W hW; obtain ⟨hhv2, hhv3, hhv1⟩ := hW; have y8 := (cell_of hhv1 8).trans rfl; go_simp⟩) hS9 ?_
 go_frame
 refine tkL 20 (.agg #[.string a.opa, .slice ka11 a.oxs.length kac11, .slice ka12 a.oys.length kac12, .int .i64 a.ost, .slice ka14 a.ofs.length kac14, .string a.obd, .int .i64 a.otm]) 55 rfl rfl (Or.inl ⟨by rfl, by intro W hW; obtain ⟨hhv2, hhv3, hhv1⟩ := hW; have y0 := (cell_of hhv3 0).trans rfl; have y1 := (cell_of hhv3 1).trans rfl; have y2 := (cell_of hhv3 2).trans rfl; have y3 := (cell_of hhv3 3).trans rfl; have y4 := (cell_of hhv3 4).trans rfl; have y5 := (cell_of hhv3 5).trans rfl; have y6 := (cell_of hhv3 6).trans rfl; go_simp⟩) hS9 ?_
 go_frame
 refine rd1 21 rfl (fun K hK => ?_)
 go_simp
 refine (lastGiven_any _ ev c.se B a _ _ _ _ _ C _ (HCA.out _ hb9).ses HED.out (fun x hx => HZ.out.se _ (by rw [← HED.out]; exact List.mem_map.2 ⟨x, hx, rfl⟩)) (by rw [HLE.out]; exact bn6) (HRa.out _ hb9) HSa.out).mono ?_
 rintro e w10 ⟨rr, rfl, hla, bw⟩
 have HLA : Hid (¬ rr = -1 ↔ GivenP c.se a) := hla.givenNe
 clear hla
 have hb10 := hbt hb9 bw
 have HOAN_10 := hown HOAN_9 bw
 have B1_10 := hblk B1_9 bw
 have B2_10 := hblk B2_9 bw
 have B3_10 := hblk B3_9 bw
 clear hb9 bw
 have hS10 := And.intro B2_10.out (And.intro B3_10.out B1_10.out)
 refine hK.out _ _ hS10 (fun _ => ?_)
 clear hK K hS9
 by_cases hc2 : rr = (-1)
 ·have hc2b : ((rr : Int) == ((-1) : Int)) = true := by simpa using hc2
  have hc2n : ((rr : Int) != ((-1) : Int)) = false := by simpa using hc2
  have HRR := hid hc2
  have hc2H := hid hc2
  clear hc2
  refine tkP 22 (.bool false) 57 rfl rfl hS10 (tkP 23 (.bool false) 58 rfl rfl hS10 (tkP 24 (.bool false) 4 rfl rfl hS10 ?_))
  go_frame
  clear hS10
  refine wdn ?_
  go_wp2_with fail
  go_ret
  exact BoolIs.no (fun h => HLA.out.2 h.2.2.2.2.2 HRR.out) hb10
 have hc2b : ((rr : Int) == ((-1) : Int)) = false := by simpa using hc2
 have hc2n : ((rr : Int) != ((-1) : Int)) = true := by simpa using hc2
 have HRR := hid hc2
 have hc2H := hid hc2
 clear hc2
 refine tkP 22 (.bool true) 57 rfl rfl hS10 (tkP 23 (.bool true) 58 rfl rfl hS10 (tkP 24 (.bool true) 4 rfl rfl hS10 ?_))
 go_frame
 clear hS10
 refine wdn ?_
 go_wp2_with fail
 go_ret
 exact BoolIs.yes ⟨HYff.out, HPE.out, HYsu.out, HYuk.out, HANS.out.2 HYur.out, HLA.out.1 HRR.out⟩ hb10
theorem flightOk_any (d : FlD) (u2 u4 u6 u7 u9 : Value) (B : Nat) (w : World) (h : RowsO w B (flR (⟨d, u2, u4, u6, u7, u9⟩ : FlV))) (hs : FlSmall d) :
  Calls Tryz.prog 130 #[.agg #[.int .i64 d.qmt, .string d.qpa, u2, .string d.qbd, u4, .string d.opa, u6, u7, .int .i64 d.ost, u9, .string d.obd, .int .i64 d.otm, .bool d.has]] w fun e w' => BoolIs (FlOk d) w e w' := by
 obtain ⟨ku2, kc2, hu⟩ := slice_of_owns (h.own (⟨185, 2, u2, d.qfs.length, flatF d.qfs⟩ : Rw) (by simp [flR]))
 obtain rfl : u2 = .slice ku2 d.qfs.length kc2 := hu
 obtain ⟨ku4, kc4, hu⟩ := slice_of_owns (h.own (⟨3, 1, u4, d.who.length, d.who.map (Value.int .i64)⟩ : Rw) (by simp [flR]))
 obtain rfl : u4 = .slice ku4 d.who.length kc4 := hu
 obtain ⟨ku6, kc6, hu⟩ := slice_of_owns (h.own (⟨9, 1, u6, d.oxs.length, d.oxs.map Value.string⟩ : Rw) (by simp [flR]))
 obtain rfl : u6 = .slice ku6 d.oxs.length kc6 := hu
 obtain ⟨ku7, kc7, hu⟩ := slice_of_owns (h.own (⟨9, 1, u7, d.oys.length, d.oys.map Value.string⟩ : Rw) (by simp [flR]))
 obtain rfl : u7 = .slice ku7 d.oys.length kc7 := hu
 obtain ⟨ku9, kc9, hu⟩ := slice_of_owns (h.own (⟨185, 2, u9, d.ofs.length, flatF d.ofs⟩ : Rw) (by simp [flR]))
 obtain rfl : u9 = .slice ku9 d.ofs.length kc9 := hu
 have HRd : Hid (∀ W, Below w.heap.size w W → RowsO W B (flR (⟨d, .slice ku2 d.qfs.length kc2, .slice ku4 d.who.length kc4, .slice ku6 d.oxs.length kc6, .slice ku7 d.oys.length kc7, .slice ku9 d.ofs.length kc9⟩ : FlV))) := fun W hb => h.below hb
 have HSd := hid hs
 have bwho : d.who.length ≤ 1048576 := hs.who
 clear h hs
 obtain ⟨hs, hhs⟩ := exq d.has
 rw [← hhs]
 have HHhs := hid hhs
 clear hhs
 have hb0 := Below.refl w.heap.size w
 go_enter Tryz.func130, Tryz.ntmps130
 go_upto_region 1 with fail
 obtain ⟨q1, hq1⟩ := exq (w.heap.size)
 obtain ⟨w1, hW1⟩ := exq (w.alloc (.cells #[.int .i64 d.qmt, .string d.qpa, .slice ku2 d.qfs.length kc2, .string d.qbd, .slice ku4 d.who.length kc4, .string d.opa, .slice ku6 d.oxs.length kc6, .slice ku7 d.oys.length kc7, .int .i64 d.ost, .slice ku9 d.ofs.length kc9, .string d.obd, .int .i64 d.otm, .bool hs] 101))
 have hz1 := hq1.symm
 rw [← hW1]; try rw [← hq1]
 have hs1 := hsa hW1 hz1
 have bw := bal hW1
 have hb1 := hbt hb0 bw
 have B1_1 := hnew hW1 hz1
 clear hb0 bw hW1 hz1
 clear hs1 hq1
 have c1_0 := hcl B1_1 0 rfl
 have c1_1 := hcl B1_1 1 rfl
 have c1_2 := hcl B1_1 2 rfl
 have c1_3 := hcl B1_1 3 rfl
 go_wp2_with fail
 refine (implReqOk_f d _ _ _ _ _ B _ (HRd.out _ hb1) HSd.out).mono ?_
 rintro e w2 ⟨ur, rfl, hur, bw⟩
 have hb2 := hbt hb1 bw
 have B1_2 := hblk B1_1 bw
 clear hb1 bw
 clear c1_0 c1_1 c1_2 c1_3
 cases ur
 ·have HNur : Hid (¬ (ReqF d)) := fun h => nomatch hur.2 h
  clear hur
  go_wp2_with fail
  go_ret
  exact BoolIs.no (fun h => HNur.out h.1) hb2
 have HYur : Hid (ReqF d) := hur.1 rfl
 clear hur
 by_cases hc1 : 1 ≤ (d.who.length : Int)
 rotate_left
 ·have Hlo := hid hc1
  have c1_4 := hcl B1_2 4 rfl
  go_wp2_with fail
  go_ret
  exact BoolIs.no (fun h => absurd h.2.1.1 (by have := Hlo.out; omega)) hb2
 have Hlo := hid hc1
 by_cases hc2 : (d.who.length : Int) ≤ 5
 rotate_left
 ·have Hhi := hid hc2
  have c1_4 := hcl B1_2 4 rfl
  go_wp2_with fail
  go_ret
  exact BoolIs.no (fun h => absurd h.2.1.2 (by have := Hhi.out; omega)) hb2
 have Hhi := hid hc2
 cases hs
 ·have c1_4 := hcl B1_2 4 rfl
  have c1_12 := hcl B1_2 12 rfl
  go_wp2_with fail
  go_ret
  exact BoolIs.yes ⟨HYur.out, ⟨Hlo.out, Hhi.out⟩, fun h => by have e := HHhs.out; rw [h] at e; cases e⟩ hb2
 have c1_4 := hcl B1_2 4 rfl
 have c1_5 := hcl B1_2 5 rfl
 have c1_6 := hcl B1_2 6 rfl
 have c1_7 := hcl B1_2 7 rfl
 have c1_8 := hcl B1_2 8 rfl
 have c1_9 := hcl B1_2 9 rfl
 have c1_10 := hcl B1_2 10 rfl
 have c1_11 := hcl B1_2 11 rfl
 have c1_12 := hcl B1_2 12 rfl
 go_wp2_with fail
 refine (implObjOk_f d _ _ _ _ _ B _ (HRd.out _ hb2) HSd.out).mono ?_
 rintro e w3 ⟨uo, rfl, huo, bw⟩
 have hb3 := hbt hb2 bw
 have B1_3 := hblk B1_2 bw
 clear hb2 bw
 clear c1_4 c1_5 c1_6 c1_7 c1_8 c1_9 c1_10 c1_11 c1_12
 go_wp2_with fail
 go_ret
 exact ⟨uo, rfl, ⟨fun h => ⟨HYur.out, ⟨Hlo.out, Hhi.out⟩, fun _ => huo.1 h⟩, fun h => huo.2 (h.2.2 HHhs.out.symm)⟩, hb3⟩
theorem alike1_any (d e : FlD) (u2 u4 u6 u7 u9 t2 t4 t6 t7 t9 : Value) (B C q : Nat) (w : World) (h : RowsO w B (flR (⟨d, u2, u4, u6, u7, u9⟩ : FlV))) (h2 : RowsO w C (flR (⟨e, t2, t4, t6, t7, t9⟩ : FlV))) (hd : FlSmall d) (he : FlSmall e) (hq : w.heap[q]? = some (.cells #[.int .i64 e.qmt, .string e.qpa, t2, .string e.qbd] 58)) :
  Calls Tryz.prog 156 #[.agg #[.int .i64 d.qmt, .string d.qpa, u2, .string d.qbd, u4, .string d.opa, u6, u7, .int .i64 d.ost, u9, .string d.obd, .int .i64 d.otm, .bool d.has], .pointer (some ⟨q, 0, none⟩)] w fun e' w' => BoolIs (AlikeF d e) w e' w' := by
 go_enter Tryz.func156, Tryz.ntmps156
 go_upto_region 1 with fail
 obtain ⟨q1, hq1⟩ := exq (w.heap.size)
 obtain ⟨w1, hw1⟩ := exq (w.alloc (.cells #[.int .i64 d.qmt, .string d.qpa, u2, .string d.qbd, u4, .string d.opa, u6, u7, .int .i64 d.ost, u9, .string d.obd, .int .i64 d.otm, .bool d.has] 101))
 rw [← hw1, ← hq1]
 have HX1 : Hid (w1.heap[q1]? = some (.cells #[.int .i64 d.qmt, .string d.qpa, u2, .string d.qbd, u4, .string d.opa, u6, u7, .int .i64 d.ost, u9, .string d.obd, .int .i64 d.otm, .bool d.has] 101)) := by show _ = _; rw [hw1, hq1]; exact heap_alloc_new _ _
 have bw1 : Below w.heap.size w w1 := by rw [hw1]; exact (Below.refl _ _).alloc (Nat.le_refl _) _
 have HQ1 : Hid (w1.heap[q]? = some (.cells #[.int .i64 e.qmt, .string e.qpa, t2, .string e.qbd] 58)) := blk_below hq bw1
 have H1 : Hid (RowsO w1 B (flR (⟨d, u2, u4, u6, u7, u9⟩ : FlV))) := h.below bw1
 have H2 : Hid (RowsO w1 C (flR (⟨e, t2, t4, t6, t7, t9⟩ : FlV))) := h2.below bw1
 have HB1 : Hid (Below w.heap.size w w1) := bw1
 clear hw1 bw1 hq1 hq h h2
 have c0 : w1.cell? ⟨q1, 0, none⟩ = some (.int .i64 d.qmt) := (cell_of HX1.out 0).trans rfl
 have c1 : w1.cell? ⟨q1, 1, none⟩ = some (.string d.qpa) := (cell_of HX1.out 1).trans rfl
 have c2 : w1.cell? ⟨q1, 2, none⟩ = some u2 := (cell_of HX1.out 2).trans rfl
 have c3 : w1.cell? ⟨q1, 3, none⟩ = some (.string d.qbd) := (cell_of HX1.out 3).trans rfl
 have k0 : w1.cell? ⟨q, 0, none⟩ = some (.int .i64 e.qmt) := (cell_of HQ1.out 0).trans rfl
 have k1 : w1.cell? ⟨q, 1, none⟩ = some (.string e.qpa) := (cell_of HQ1.out 1).trans rfl
 have k2 : w1.cell? ⟨q, 2, none⟩ = some t2 := (cell_of HQ1.out 2).trans rfl
 have k3 : w1.cell? ⟨q, 3, none⟩ = some (.string e.qbd) := (cell_of HQ1.out 3).trans rfl
 go_wp2_with fail
 refine (implAlike_f d e u2 u4 u6 u7 u9 t2 t4 t6 t7 t9 B C _ H1.out H2.out hd he).mono ?_
 rintro e' w2 ⟨b, rfl, hb, bw⟩
 have HB2 : Hid (Below w.heap.size w w2) := HB1.out.trans (bw.mono HB1.out.size)
 have HBB := hid hb
 clear c0 c1 c2 c3 k0 k1 k2 k3 HX1 HQ1 H1 H2 HB1 bw hb
 go_wp2_with fail
 go_ret
 exact ⟨b, rfl, HBB.out, HB2.out⟩
def PlaceIs (fl : List FlD) (m : Nat) (e : FlD) (w : World) (e' : Ending) (w' : World) : Prop := ∃ r : Int, e' = .returned (.int .i64 r) ∧ (0 ≤ r ↔ ∃ k, k < m ∧ AlikeF (flAt fl k) e) ∧ Below w.heap.size w w'
theorem indexFl_any (V : Value) (fv : List FlV) (fl : List FlD) (o5 : Oa) (m cp q : Nat) (e : FlD) (t2 t4 t6 t7 t9 : Value) (B C : Nat) (w : World) (hV : ∃ c, V = .slice o5 fv.length c) (h : FlsO w B V fv) (hfd : fv.map (·.d) = fl) (hs : ∀ x ∈ fv, FlSmall x.d) (hm : m ≤ fv.length) (hm2 : m ≤ 1048576) (h2 : RowsO w C (flR (⟨e, t2, t4, t6, t7, t9⟩ : FlV))) (he : FlSmall e) (hq : w.heap[q]? = some (.cells #[.int .i64 e.qmt, .string e.qpa, t2, .string e.qbd] 58)) :
  Calls Tryz.prog 155 #[.slice o5 m cp, .func (.func 156) #[] #[.pointer (some ⟨q, 0, none⟩)]] w fun e' w' => PlaceIs fl m e w e' w' := by
 have hcf : ∀ (args : Array Value) (W : World), (callFunc 156 args).run Tryz.prog W = .ok (.enter 156 args) W := enters_of Tryz.func156 (by kernel_rfl) rfl
 have HFL : Hid (∀ W, Below w.heap.size w W → FlsO W B V fv) := fun W hb => h.below hb
 have HFD := hid hfd
 have HFS := hid hs
 have HM := hid hm
 have HV := hid hV
 have HR2 : Hid (∀ W, Below w.heap.size w W → RowsO W C (flR (⟨e, t2, t4, t6, t7, t9⟩ : FlV))) := fun W hb => h2.below hb
 have HQ : Hid (∀ W, Below w.heap.size w W → W.heap[q]? = some (.cells #[.int .i64 e.qmt, .string e.qpa, t2, .string e.qbd] 58)) := fun W hb => blk_below hq hb
 clear h hfd hs hm hV h2 hq
 go_enter Tryz.func155, Tryz.ntmps155
 go_wp2
 go_loopw [8] (fun i wr => ∃ k : Nat, k ≤ m ∧ i = .int .i64 (k : Int) ∧ Hid (∀ j, j < k → ¬ AlikeF (flAt fl j) e) ∧ Hid (Below w.heap.size w wr)) (fun i _ => m - (intOf i).toNat)
 case atStart => exact ⟨0, Nat.zero_le _, rfl, fun j hj => absurd hj (by omega), Below.refl _ _⟩
 case round =>
  obtain ⟨k, hk, rfl, HN, HBW⟩ := hrel
  by_cases hlt : k < m
  rotate_left
  ·obtain rfl : k = m := by omega
   go_wp2_with fail
   go_ret
   exact ⟨-1, rfl, ⟨fun h => absurd h (by omega), fun ⟨j, hj, hA⟩ => absurd hA (HN.out j hj)⟩, HBW.out⟩
  have hlt2 : (k : Int) < (m : Int) := by omega
  obtain ⟨g5, p5, hV, _, hat⟩ := (HFL.out wr HBW.out).look k (Nat.lt_of_lt_of_le hlt HM.out)
  obtain ⟨cc, hcc⟩ := HV.out
  rw [hcc] at hV
  injection hV with hV1 _ _
  subst hV1
  obtain ⟨x, hx⟩ := exq (flvAt fv k)
  have HMx : Hid (x ∈ fv) := by show _ ∈ _; rw [hx]; exact getD_mem0 _ fv k (Nat.lt_of_lt_of_le hlt HM.out)
  have HEx : Hid (flAt fl k = x.d) := by show _ = _; rw [hx, ← HFD.out]; exact getD_map0 _ _ _ fv k (Nat.lt_of_lt_of_le hlt HM.out)
  rw [← hx] at hat
  have HRx : Hid (∀ W, Below w.heap.size w W → RowsO W B (flR x)) := fun W hb => (HFL.out W hb).item HMx.out
  have HSx : Hid (FlSmall x.d) := HFS.out _ HMx.out
  clear hx hcc
  obtain ⟨d, u2v, u4v, u6v, u7v, u9v⟩ := x
  have r0 := hat.c0
  have r1 := hat.c1
  have r2 := hat.c2
  have r3 := hat.c3
  have r4 := hat.c4
  have r5 := hat.c5
  have r6 := hat.c6
  have r7 := hat.c7
  have r8 := hat.c8
  have r9 := hat.c9
  have r10 := hat.c10
  have r11 := hat.c11
  have r12 := hat.c12
  dsimp only at r0 r1 r2 r3 r4 r5 r6 r7 r8 r9 r10 r11 r12 HEx HSx
  clear hat
  go_wp2_with fail
  refine (alike1_any d e u2v u4v u6v u7v u9v t2 t4 t6 t7 t9 B C q _ (HRx.out _ HBW.out) (HR2.out _ HBW.out) HSx.out he (HQ.out _ HBW.out)).mono ?_
  rintro e' w1 ⟨b, rfl, hb, bw⟩
  have HB2 : Hid (Below w.heap.size w w1) := HBW.out.trans (bw.mono HBW.out.size)
  have HBB := hid hb
  clear r0 r1 r2 r3 r4 r5 r6 r7 r8 r9 r10 r11 r12 bw hb
  cases b with
  | true =>
   have HY : Hid (∃ k, k < m ∧ AlikeF (flAt fl k) e) := ⟨k, hlt, by rw [HEx.out]; exact HBB.out.1 rfl⟩
   go_wp2_with fail
   go_ret
   exact ⟨(k : Int), rfl, ⟨fun _ => HY.out, fun _ => by omega⟩, HB2.out⟩
  | false =>
   have HN2 : Hid (∀ j, j < k + 1 → ¬ AlikeF (flAt fl j) e) := fun j hj => by
    by_cases ej : j = k
    ·subst ej
     rw [HEx.out]
     exact fun h => nomatch HBB.out.2 h
    · exact HN.out j (by omega)
   go_wp2_with fail
   go_roundw
   case rel => exact ⟨k + 1, by omega, by go_num, HN2, HB2⟩
   case measure => simp [intOf]; omega
theorem alikePlace_any (V : Value) (fv : List FlV) (fl : List FlD) (o5 : Oa) (m cp : Nat) (e : FlD) (t2 t4 t6 t7 t9 : Value) (B C : Nat) (w : World) (hV : ∃ c, V = .slice o5 fv.length c) (h : FlsO w B V fv) (hfd : fv.map (·.d) = fl) (hs : ∀ x ∈ fv, FlSmall x.d) (hm : m ≤ fv.length) (hm2 : m ≤ 1048576) (h2 : RowsO w C (flR (⟨e, t2, t4, t6, t7, t9⟩ : FlV))) (he : FlSmall e) :
  Calls Tryz.prog 131 #[.slice o5 m cp, .agg #[.int .i64 e.qmt, .string e.qpa, t2, .string e.qbd]] w fun e' w' => PlaceIs fl m e w e' w' := by
 go_enter Tryz.func131, Tryz.ntmps131
 go_upto_region 1 with fail
 obtain ⟨q1, hq1⟩ := exq (w.heap.size)
 obtain ⟨w1, hw1⟩ := exq (w.alloc (.cells #[.int .i64 e.qmt, .string e.qpa, t2, .string e.qbd] 58))
 rw [← hw1, ← hq1]
 have HX1 : Hid (w1.heap[q1]? = some (.cells #[.int .i64 e.qmt, .string e.qpa, t2, .string e.qbd] 58)) := by show _ = _; rw [hw1, hq1]; exact heap_alloc_new _ _
 have HB1 : Hid (Below w.heap.size w w1) := by show Below _ _ _; rw [hw1]; exact (Below.refl _ _).alloc (Nat.le_refl _) _
 have H1 : Hid (FlsO w1 B V fv) := h.below HB1.out
 have H2 : Hid (RowsO w1 C (flR (⟨e, t2, t4, t6, t7, t9⟩ : FlV))) := h2.below HB1.out
 clear hw1 hq1 h h2
 go_wp2_with fail
 refine (indexFl_any V fv fl o5 m cp q1 e t2 t4 t6 t7 t9 B C _ hV H1.out hfd hs hm hm2 H2.out he HX1.out).mono ?_
 rintro e' w2 ⟨r, rfl, hr, bw⟩
 have HB2 : Hid (Below w.heap.size w w2) := HB1.out.trans (bw.mono HB1.out.size)
 have HRR := hid hr
 clear HX1 HB1 H1 H2 bw hr hV hfd hs
 go_wp2_with fail
 go_ret
 exact ⟨r, rfl, HRR.out, HB2.out⟩
def cellsA (l : Ts) : Array Value := (l.map Value.string).toArray
def noneA : Ts := List.replicate 20 ⟨#[]⟩
def withP (l : Ts) (x : Int) (t : Tx) : Ts := if 0 ≤ x ∧ x < 20 then l.set x.toNat t else l
def ArrIs (l : Ts) (w : World) (e : Ending) (w' : World) : Prop := e = .returned (.agg (cellsA l)) ∧ Below w.heap.size w w'
theorem cellsA_size (l : Ts) : (cellsA l).size = l.length := by simp [cellsA]
theorem cellsA_at (l : Ts) (i : Nat) (h : i < l.length) : (cellsA l)[i]? = some (.string (textAt l i)) := by
 unfold cellsA
 rw [List.getElem?_toArray, List.getElem?_map, getElem_textAt l i h]
 rfl
theorem cellsA_set (l : Ts) (i : Nat) (t : Tx) : (cellsA l).setIfInBounds i (.string t) = cellsA (l.set i t) := by
 unfold cellsA
 rw [List.setIfInBounds_toArray, List.map_set]
theorem noneA_len : noneA.length = 20 := rfl
theorem noneA_cells : cellsA noneA = #[.string ⟨#[]⟩, .string ⟨#[]⟩, .string ⟨#[]⟩, .string ⟨#[]⟩, .string ⟨#[]⟩, .string ⟨#[]⟩, .string ⟨#[]⟩, .string ⟨#[]⟩, .string ⟨#[]⟩, .string ⟨#[]⟩, .string ⟨#[]⟩, .string ⟨#[]⟩, .string ⟨#[]⟩, .string ⟨#[]⟩, .string ⟨#[]⟩, .string ⟨#[]⟩, .string ⟨#[]⟩, .string ⟨#[]⟩, .string ⟨#[]⟩, .string ⟨#[]⟩] := rfl
theorem withP_len (l : Ts) (x : Int) (t : Tx) : (withP l x t).length = l.length := by
 unfold withP
 split
 · exact List.length_set
 · rfl
theorem infoA {l : Ts} (h : l.length = 20) : (Tryz.prog.info? 229).map (·.size) = some (cellsA l).size := by
 rw [cellsA_size, h]
 kernel_rfl
theorem cellsA_one (l : Ts) : (cellsA l).all (·.oneCell') = true := by
 unfold cellsA
 rw [List.all_toArray, List.all_eq_true]
 intro v hv
 obtain ⟨a, _, rfl⟩ := List.mem_map.1 hv
 rfl
theorem below_setRow {B : Nat} {a w : World} (h : Below B a w) (g : Nat) (cs : Array Value) (hg : B ≤ g) : Below B a (w.setRow g cs) :=
 h.trans ⟨rfl, rfl, rfl, by simp, fun k hk => setRow_other w g k cs (by omega)⟩
theorem new1 {w : World} {A B C : Obj} : (((w.alloc A).alloc B).alloc C).heap[w.heap.size]? = some A := blk_alloc (blk_alloc (heap_alloc_new w A) B) C
theorem new2 {w : World} {A B C : Obj} : (((w.alloc A).alloc B).alloc C).heap[w.heap.size + 1]? = some B := blk_alloc (heap_alloc2_new w A B) C
theorem new3 {w : World} {A B C : Obj} : (((w.alloc A).alloc B).alloc C).heap[w.heap.size + 1 + 1]? = some C := by
 have h := heap_alloc_new ((w.alloc A).alloc B) C
 have e : ((w.alloc A).alloc B).heap.size = w.heap.size + 1 + 1 := by simp
 rwa [e] at h
theorem new_below {w : World} {A B C : Obj} : Below w.heap.size w (((w.alloc A).alloc B).alloc C) :=
 (((Below.refl _ _).alloc (Nat.le_refl _) _).alloc (by simp) _).alloc (by simp; omega) _
theorem with_any (l : Ts) (hl : l.length = 20) (x : Int) (t : Tx) (w : World) :
  Calls Tryz.prog 173 #[.agg (cellsA l), .agg #[.int .i64 x, .string t]] w fun e w' => ArrIs (withP l x t) w e w' := by
 have HL := hid hl
 have HLW : Hid ((withP l x t).length = 20) := (withP_len l x t).trans hl
 clear hl
 go_enter Tryz.func173, Tryz.ntmps173
 go_upto_region 1 with fail
 obtain ⟨w3, hw3⟩ := exq (((w.alloc (.cells (cellsA l) 229)).alloc (.cells #[.int .i64 x, .string t] 183)).alloc (.cells #[.string ⟨#[]⟩, .string ⟨#[]⟩, .string ⟨#[]⟩, .string ⟨#[]⟩, .string ⟨#[]⟩, .string ⟨#[]⟩, .string ⟨#[]⟩, .string ⟨#[]⟩, .string ⟨#[]⟩, .string ⟨#[]⟩, .string ⟨#[]⟩, .string ⟨#[]⟩, .string ⟨#[]⟩, .string ⟨#[]⟩, .string ⟨#[]⟩, .string ⟨#[]⟩, .string ⟨#[]⟩, .string ⟨#[]⟩, .string ⟨#[]⟩, .string ⟨#[]⟩] 229))
 rw [← hw3]
 have HBW : Hid (Below w.heap.size w w3) := by rw [hw3]; exact new_below
 have hA : w3.heap[w.heap.size]? = some (.cells (cellsA l) 229) := by rw [hw3]; exact new1
 have hB : w3.heap[w.heap.size + 1]? = some (.cells #[.int .i64 x, .string t] 183) := by rw [hw3]; exact new2
 have hC : w3.heap[w.heap.size + 1 + 1]? = some (.cells (cellsA noneA) 229) := by rw [hw3]; exact new3
 obtain ⟨q, hq⟩ := exq (w.heap.size)
 have HQ : Hid (w.heap.size ≤ q) := by rw [hq]; exact Nat.le_refl _
 rw [← hq] at hA hB hC
 rw [← hq]
 have HA := hid hA
 have HC := hid hC
 have c0 := (cell_of hB 0)
 have c1 := (cell_of hB 1)
 simp only [List.getElem?_toArray, List.getElem?_cons_zero, List.getElem?_cons_succ] at c0 c1
 clear hw3 hA hB hC hq
 by_cases h0 : 0 ≤ x
 rotate_left
 ·have HE : Hid (withP l x t = l) := by unfold withP; rw [Hid, if_neg (fun h => h0 h.1)]
  go_upto_region 3 with fail
  clear c0 c1 h0
  rw [← HE.out] at HA
  go_wp2_with (first | refine wpList_load_row rfl 229 _ rfl q rfl 229 _ (0, 0) _ HA.out Tryz.underlying229 rfl (infoA HLW.out) ?_ | refine wpList_store_row rfl 229 _ _ rfl (q + 1 + 1) _ rfl rfl 229 _ HC.out (infoA HLW.out) (by rw [cellsA_size, cellsA_size, HLW.out, noneA_len]) (cellsA_one _) ?_)
  exact bodyPost_ret (v := .agg (cellsA (withP l x t))) (results_cell_row Tryz.results173 _ _ (q + 1 + 1) 229 _ (0, 0) _ rfl (setRow_heap _ _ _ _ _ _ HC.out) Tryz.underlying229 rfl (infoA HLW.out)) rfl ⟨rfl, below_setRow HBW.out _ _ (Nat.le_trans HQ.out (by omega))⟩
 by_cases h1 : x < 20
 rotate_left
 ·have HE : Hid (withP l x t = l) := by unfold withP; rw [Hid, if_neg (fun h => h1 h.2)]
  go_upto_region 3 with fail
  clear c0 c1 h0 h1
  rw [← HE.out] at HA
  go_wp2_with (first | refine wpList_load_row rfl 229 _ rfl q rfl 229 _ (0, 0) _ HA.out Tryz.underlying229 rfl (infoA HLW.out) ?_ | refine wpList_store_row rfl 229 _ _ rfl (q + 1 + 1) _ rfl rfl 229 _ HC.out (infoA HLW.out) (by rw [cellsA_size, cellsA_size, HLW.out, noneA_len]) (cellsA_one _) ?_)
  exact bodyPost_ret (v := .agg (cellsA (withP l x t))) (results_cell_row Tryz.results173 _ _ (q + 1 + 1) 229 _ (0, 0) _ rfl (setRow_heap _ _ _ _ _ _ HC.out) Tryz.underlying229 rfl (infoA HLW.out)) rfl ⟨rfl, below_setRow HBW.out _ _ (Nat.le_trans HQ.out (by omega))⟩
 have HE : Hid (withP l x t = l.set x.toNat t) := by unfold withP; rw [Hid, if_pos ⟨h0, h1⟩]
 have c2 : w3.cell? ⟨q, x.toNat, none⟩ = some (.string (textAt l x.toNat)) := (cell_of HA.out _).trans (cellsA_at l _ (by rw [HL.out]; omega))
 have c3 := frozen_of HA.out x.toNat
 go_upto_region 3 with fail
 obtain ⟨w4, hw4⟩ := exq (w3.setCell ⟨q, x.toNat, none⟩ (.string t))
 rw [← hw4]
 have HA4 : Hid (w4.heap[q]? = some (.cells (cellsA (withP l x t)) 229)) := by
  rw [Hid, hw4, HE.out, ← cellsA_set]
  exact heap_setCell_same w3 q _ _ 229 _ HA.out
 have HC4 : Hid (w4.heap[q + 1 + 1]? = some (.cells (cellsA noneA) 229)) := by
  rw [Hid, hw4, heap_setCell_other w3 _ _ _ (by simp; omega)]
  exact HC.out
 have HB4 : Hid (Below w.heap.size w w4) := by rw [hw4]; exact HBW.out.setCell HQ.out _
 clear hw4 HA HC HBW c0 c1 c2 c3 h0 h1
 go_wp2_with (first | refine wpList_load_row rfl 229 _ rfl q rfl 229 _ (0, 0) _ HA4.out Tryz.underlying229 rfl (infoA HLW.out) ?_ | refine wpList_store_row rfl 229 _ _ rfl (q + 1 + 1) _ rfl rfl 229 _ HC4.out (infoA HLW.out) (by rw [cellsA_size, cellsA_size, HLW.out, noneA_len]) (cellsA_one _) ?_)
 exact bodyPost_ret (v := .agg (cellsA (withP l x t))) (results_cell_row Tryz.results173 _ _ (q + 1 + 1) 229 _ (0, 0) _ rfl (setRow_heap _ _ _ _ _ _ HC4.out) Tryz.underlying229 rfl (infoA HLW.out)) rfl ⟨rfl, below_setRow HB4.out _ _ (Nat.le_trans HQ.out (by omega))⟩
end Go.Proofs.YtpacdigfnneoeaaGreatDoor
