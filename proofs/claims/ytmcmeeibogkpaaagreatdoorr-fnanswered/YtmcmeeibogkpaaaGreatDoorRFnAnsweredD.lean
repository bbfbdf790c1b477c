/- What the proof of FnAnswered leans on: contracts of the program's and the specification's functions, and plain facts (part 4 of 9). -/
import Derived.Test.YtmcmeeibogkpaaaGreatDoorRFnAnsweredC
set_option maxHeartbeats 16000000
set_option maxRecDepth 100000
namespace Go.Proofs.YtmcmeeibogkpaaaGreatDoorR
open Go.RowKit
open Go.Lib hiding intOf
/-- A call answers an answer with these fields, in memory of its own. -/
def RespRow (st : Int) (fs : List (ByteArray × ByteArray)) (b : ByteArray) (w : World) (e : Ending) (w' : World) : Prop :=
 ∃ v, e = .returned (.agg #[.int .i64 st, v, .string b]) ∧ w'.ownsRow w.heap.size 74 2 v fs.length (flatF fs) ∧ Below w.heap.size w w'
theorem three_other (W : World) (r j : Nat) (a b c : Value) (h : j ≠ r) : (threeSet W r a b c).heap[j]? = W.heap[j]? := by
 unfold threeSet
 rw [heap_setCell_other _ _ j _ h, heap_setCell_other _ _ j _ h, heap_setCell_other _ _ j _ h]
theorem l9Resp_any (st : Int) (v : Value) (b : ByteArray) (n base : Nat) (fs : List (ByteArray × ByteArray)) (w : World) (hv : FieldsV w base v n fs) (hn : n ≤ 2000000) :
  Calls Tryz.prog 44 #[.agg #[.int .i64 st, v, .string b]] w fun e w' => RespRow st fs b w e w' := by
 obtain ⟨oa, cap, rfl, _⟩ := hv.slice
 obtain ⟨r, hr⟩ := exq (w.heap.size)
 have HR : Hid (w.heap.size = r) := hr.symm
 obtain ⟨W1, hW1⟩ := exq ((w.alloc (.cells #[.int .i64 st, .slice oa n cap, .string b] 29)).alloc (.cells #[.int .i64 0, .slice none 0 0, .string ⟨#[]⟩] 29))
 have HW1 : Hid ((w.alloc (.cells #[.int .i64 st, .slice oa n cap, .string b] 29)).alloc (.cells #[.int .i64 0, .slice none 0 0, .string ⟨#[]⟩] 29) = W1) := hW1.symm
 have b1 : Below r w W1 := by rw [hW1, hr]; exact ((Below.refl _ w).alloc (Nat.le_refl _) _).alloc (by simp) _
 have hv1 := hv.below (by rw [hr] at b1; exact b1)
 have s1 : (w.alloc (.cells #[.int .i64 st, .slice oa n cap, .string b] 29)).heap.size = r + 1 := by rw [hr]; simp
 have s2 : W1.heap.size = r + 1 + 1 := by rw [hW1, hr]; simp
 have H0 : Hid (W1.heap[r]? = some (.cells #[.int .i64 st, .slice oa n cap, .string b] 29) ∧ W1.heap[r + 1]? = some (.cells #[.int .i64 0, .slice none 0 0, .string ⟨#[]⟩] 29) ∧ Below r w W1) := by
  have e0 := heap_alloc_new w (.cells #[.int .i64 st, .slice oa n cap, .string b] 29)
  have e1 := heap_alloc_new (w.alloc (.cells #[.int .i64 st, .slice oa n cap, .string b] 29)) (.cells #[.int .i64 0, .slice none 0 0, .string ⟨#[]⟩] 29)
  rw [← hr] at e0
  rw [s1, ← hW1] at e1
  have c1 : Below (r + 1) (w.alloc (.cells #[.int .i64 st, .slice oa n cap, .string b] 29)) W1 := by rw [hW1, ← s1]; exact (Below.refl _ _).alloc (Nat.le_refl _) _
  exact ⟨by rw [c1.block r (by omega)]; exact e0, e1, b1⟩
 obtain ⟨⟨_, c1, _⟩, _⟩ := three_facts H0.out.1
 have HS2 : Hid (W1.heap.size = r + 1 + 1) := s2
 have HL : Hid (fs.length = n) := hv.len
 clear hW1 hv b1 s1 s2
 go_enter Tryz.func44, Tryz.ntmps44
 go_upto_region 1 with fail
 rw [HW1.out, ← hr]
 clear hr HW1
 go_wp2_with fail
 refine (l9Copy_any _ n base fs _ hv1 hn).mono ?_
 rintro e w2 ⟨z, rfl, own, b2⟩
 obtain ⟨oz, cz, rfl⟩ := slice_of_owns own
 rw [HL.out] at own ⊢
 have hs2 := HS2.out
 rw [hs2] at own b2
 have H2 : Hid (w2.heap[r]? = some (.cells #[.int .i64 st, .slice oa n cap, .string b] 29) ∧ w2.heap[r + 1]? = some (.cells #[.int .i64 0, .slice none 0 0, .string ⟨#[]⟩] 29) ∧ Below r w w2) :=
  ⟨by rw [b2.block r (by omega)]; exact H0.out.1, by rw [b2.block (r + 1) (by omega)]; exact H0.out.2.1, H0.out.2.2.trans (b2.mono (by omega))⟩
 have HO2 : Hid (w2.ownsRow (r + 1 + 1) 74 2 (.slice oz n cz) n (flatF fs)) := own
 obtain ⟨⟨_, d1, _⟩, _, y1, _⟩ := three_facts H2.out.1
 clear own b2 hs2 c1 hv1 H0 HS2
 have H3 : Hid ((w2.setCell ⟨r, 1, none⟩ (.slice oz n cz)).heap[r]? = some (.cells #[.int .i64 st, .slice oz n cz, .string b] 29) ∧ (w2.setCell ⟨r, 1, none⟩ (.slice oz n cz)).heap[r + 1]? = some (.cells #[.int .i64 0, .slice none 0 0, .string ⟨#[]⟩] 29)) := by
  refine ⟨?_, by rw [heap_setCell_other _ _ (r + 1) _ (by show r + 1 ≠ r; omega)]; exact H2.out.2.1⟩
  have := heap_set w2 r 1 _ _ _ (.slice oz n cz) H2.out.1
  simpa using this
 obtain ⟨⟨f0, f1, f2⟩, _⟩ := three_facts H3.out.1
 obtain ⟨⟨g0, g1, g2⟩, x0, x1, x2⟩ := three_facts H3.out.2
 have hset := three_set H3.out.2 (.int .i64 st) (.slice oz n cz) (.string b)
 obtain ⟨⟨k0, k1, k2⟩, _⟩ := three_facts hset
 have HFB : Hid (Below r w (threeSet (w2.setCell ⟨r, 1, none⟩ (.slice oz n cz)) (r + 1) (.int .i64 st) (.slice oz n cz) (.string b))) := below_three (H2.out.2.2.setCell (Nat.le_refl _) _) (by omega)
 have HFO : Hid ((threeSet (w2.setCell ⟨r, 1, none⟩ (.slice oz n cz)) (r + 1) (.int .i64 st) (.slice oz n cz) (.string b)).ownsRow r 74 2 (.slice oz n cz) fs.length (flatF fs)) := by
  show World.ownsRow _ _ _ _ _ _ _
  rw [HL.out]
  refine owns_same (owns_wide HO2.out (by omega)) (fun j hj => ?_)
  have hj2 := owns_ge HO2.out hj
  rw [three_other _ _ j _ _ _ (by omega), heap_setCell_other _ _ j _ (by show j ≠ r; omega)]
 unfold threeSet at k0 k1 k2 HFB HFO
 clear hset H2 H3 HO2
 go_wp2_with fail
 refine bodyPost_ret (v := .agg #[.int .i64 st, .slice oz n cz, .string b]) (by simp [results, Tryz.results44, go_sem, k0, k1, k2]) rfl ?_
 exact ⟨_, rfl, by rw [HR.out]; exact HFO.out, by rw [HR.out]; exact HFB.out⟩
/-- While answers are merged: both arguments, the answer's memory, the answer that is made and its fields. -/
structure MgSt (w : World) (r o : Nat) (st : Int) (va : Value) (b : ByteArray) (st2 : Int) (vb : Value) (c : ByteArray) (z : Value) (P : List (ByteArray × ByteArray)) (W : World) : Prop where
 q0 : W.heap[r]? = some (.cells #[.int .i64 st, va, .string b] 29)
 q1 : W.heap[r + 1]? = some (.cells #[.int .i64 st2, vb, .string c] 29)
 q2 : W.heap[r + 1 + 1]? = some (.cells #[.int .i64 0, .slice none 0 0, .string ⟨#[]⟩] 29)
 q3 : W.heap[o]? = some (.cells #[.int .i64 st, z, .string b] 29)
 own : W.ownsRow (r + 1 + 1 + 1) 74 2 z P.length (flatF P)
 ne : ∀ j, z.ownBlock = some j → j ≠ o
 ge : r + 1 + 1 + 1 ≤ o
 low : Below r w W
theorem MgSt.lt {w : World} {r o : Nat} {st : Int} {va : Value} {b : ByteArray} {st2 : Int} {vb : Value} {c : ByteArray} {z : Value} {P : List (ByteArray × ByteArray)} {W : World} (h : MgSt w r o st va b st2 vb c z P W) : o < W.heap.size := (Array.getElem?_eq_some_iff.1 h.q3).1
theorem MgSt.below {w : World} {r o : Nat} {st : Int} {va : Value} {b : ByteArray} {st2 : Int} {vb : Value} {c : ByteArray} {z : Value} {P : List (ByteArray × ByteArray)} {W : World} {W' : World} (h : MgSt w r o st va b st2 vb c z P W) (hb : Below W.heap.size W W') : MgSt w r o st va b st2 vb c z P W' := by
 have hs := h.lt
 have hg := h.ge
 exact ⟨by rw [hb.block _ (by omega)]; exact h.q0, by rw [hb.block _ (by omega)]; exact h.q1, by rw [hb.block _ (by omega)]; exact h.q2, by rw [hb.block _ hs]; exact h.q3, owns_same h.own (fun j hj => hb.block j (owns_lt h.own hj)), h.ne, hg, h.low.trans (hb.mono (by omega))⟩
theorem MgSt.set {w : World} {r o : Nat} {st : Int} {va : Value} {b : ByteArray} {st2 : Int} {vb : Value} {c : ByteArray} {z : Value} {P : List (ByteArray × ByteArray)} {W : World} {W' : World} (h : MgSt w r o st va b st2 vb c z P W) (hb : Below W.heap.size W W') {y : Value} {Q : List (ByteArray × ByteArray)} (hy : W'.ownsRow W.heap.size 74 2 y Q.length (flatF Q)) : MgSt w r o st va b st2 vb c y Q (W'.setCell ⟨o, 1, none⟩ y) := by
 have h' := h.below hb
 have hs := h.lt
 have hg := h.ge
 have hne : ∀ j, y.ownBlock = some j → j ≠ o := fun j hj => by have := owns_ge hy hj; omega
 refine ⟨by rw [heap_setCell_other _ _ r _ (by show r ≠ o; omega)]; exact h'.q0, by rw [heap_setCell_other _ _ (r + 1) _ (by show r + 1 ≠ o; omega)]; exact h'.q1, by rw [heap_setCell_other _ _ (r + 1 + 1) _ (by show r + 1 + 1 ≠ o; omega)]; exact h'.q2, ?_, owns_same (owns_wide hy (by omega)) (fun j hj => heap_setCell_other _ _ j _ (hne j hj)), hne, hg, h'.low.setCell (by show r ≤ o; omega) _⟩
 have := heap_set W' o 1 _ _ _ y h'.q3
 simpa using this
end Go.Proofs.YtmcmeeibogkpaaaGreatDoorR
namespace Go.Proofs.YtmcmeeibogkpaaaGreatDoorR
open Go.RowKit
open Go.Lib hiding intOf
/-- While both keepings are read: which of the two variables are made, in which blocks. -/
structure CkSt (W1 : World) (a1 a2 : Option Nat) (W : World) : Prop where
 low : Below W1.heap.size W1 W
 b1 : ∀ o, a1 = some o → CcAt W o cc0 ∧ W1.heap.size ≤ o
 b2 : ∀ o, a2 = some o → CcAt W o cc0 ∧ W1.heap.size ≤ o
 ne : ∀ o, a1 = some o → a2 ≠ some o
theorem CkSt.below {W1 W W' : World} {a1 a2 : Option Nat} (h : CkSt W1 a1 a2 W) (hb : Below W.heap.size W W') : CkSt W1 a1 a2 W' :=
 ⟨h.low.trans (hb.mono h.low.size), fun o ho => ⟨(h.b1 o ho).1.same (hb.block o (h.b1 o ho).1.lt), (h.b1 o ho).2⟩, fun o ho => ⟨(h.b2 o ho).1.same (hb.block o (h.b2 o ho).1.lt), (h.b2 o ho).2⟩, h.ne⟩
theorem CkSt.make1 {W1 W : World} {a2 : Option Nat} (h : CkSt W1 none a2 W) : CkSt W1 (some W.heap.size) a2 (W.alloc (.cells cc0.cs 89)) := by
 have h' := h.below ((Below.refl _ _).alloc (Nat.le_refl _) (.cells cc0.cs 89))
 exact ⟨h'.low, fun o ho => by cases ho; exact ⟨heap_alloc_new W _, h.low.size⟩, h'.b2, fun o ho e => by cases ho; have := (h.b2 _ e).1.lt; omega⟩
theorem CkSt.make2 {W1 W : World} {a1 : Option Nat} (h : CkSt W1 a1 none W) : CkSt W1 a1 (some W.heap.size) (W.alloc (.cells cc0.cs 89)) := by
 have h' := h.below ((Below.refl _ _).alloc (Nat.le_refl _) (.cells cc0.cs 89))
 exact ⟨h'.low, h'.b1, fun o ho => by cases ho; exact ⟨heap_alloc_new W _, h.low.size⟩, fun o ho e => by cases e; have := (h.b1 _ ho).1.lt; omega⟩
theorem lower_size (s : ByteArray) : (lowerOf s).size = s.size := by unfold lowerOf; rw [strOfNums_size, lowXs_len]
theorem putCcO (W : World) (g j : Nat) (d : CcD) (h : j ≠ g) : (putCc W g d).heap[j]? = W.heap[j]? := by
 unfold putCc
 rw [heap_setCell_other _ _ j _ h, heap_setCell_other _ _ j _ h, heap_setCell_other _ _ j _ h, heap_setCell_other _ _ j _ h, heap_setCell_other _ _ j _ h, heap_setCell_other _ _ j _ h]
theorem specMayKeep_any (m : Int) (p : ByteArray) (v : Value) (b : ByteArray) (n base : Nat) (fs : List (ByteArray × ByteArray)) (st : Int) (u : Value) (c : ByteArray) (k base2 : Nat) (gs : List (ByteArray × ByteArray)) (w : World) (hv : FieldsV w base v n fs) (hn : n ≤ 1073741824) (hsz : WalkF n fs) (hp : p.size ≤ maxLen) (hb : b.size ≤ maxLen) (hu : FieldsV w base2 u k gs) (hk : k ≤ 1073741824) (hsz2 : WalkF k gs) (hc : c.size ≤ maxLen) (hg1 : (getV fs ccName).size ≤ 1048576) (hg2 : (getV gs ccName).size ≤ 1048576) (hg3 : (getV gs varyName).size ≤ 1048576) :
  Calls Tryz.prog 145 #[.agg #[.int .i64 m, .string p, v, .string b], .agg #[.int .i64 st, u, .string c]] w fun e w' => BoolIs (MayP m p fs b st gs c) w e w' := by
 obtain ⟨oa, cap, rfl, _⟩ := hv.slice
 obtain ⟨ob, cb, rfl, _⟩ := hu.slice
 obtain ⟨r, hr⟩ := exq (w.heap.size)
 have HR : Hid (w.heap.size = r) := hr.symm
 obtain ⟨W1, hW1⟩ := exq ((w.alloc (.cells #[.int .i64 m, .string p, .slice oa n cap, .string b] 26)).alloc (.cells #[.int .i64 st, .slice ob k cb, .string c] 29))
 have HW1 : Hid ((w.alloc (.cells #[.int .i64 m, .string p, .slice oa n cap, .string b] 26)).alloc (.cells #[.int .i64 st, .slice ob k cb, .string c] 29) = W1) := hW1.symm
 have HKEEP : Hid (∀ W, Below W1.heap.size W1 W → (W.heap[r]? = some (.cells #[.int .i64 m, .string p, .slice oa n cap, .string b] 26) ∧ W.heap[r + 1]? = some (.cells #[.int .i64 st, .slice ob k cb, .string c] 29)) ∧ FieldsV W base (.slice oa n cap) n fs ∧ FieldsV W base2 (.slice ob k cb) k gs ∧ Below w.heap.size w W) := by
  intro W hW
  have b1 : Below r w W1 := by rw [hW1, hr]; exact ((Below.refl _ w).alloc (Nat.le_refl _) _).alloc (by simp) _
  have s1 : (w.alloc (.cells #[.int .i64 m, .string p, .slice oa n cap, .string b] 26)).heap.size = r + 1 := by rw [hr]; simp
  have s2 : W1.heap.size = r + 1 + 1 := by rw [hW1, hr]; simp
  have e0 := heap_alloc_new w (.cells #[.int .i64 m, .string p, .slice oa n cap, .string b] 26)
  have e1 := heap_alloc_new (w.alloc (.cells #[.int .i64 m, .string p, .slice oa n cap, .string b] 26)) (.cells #[.int .i64 st, .slice ob k cb, .string c] 29)
  rw [← hr] at e0
  rw [s1, ← hW1] at e1
  have c1 : Below (r + 1) (w.alloc (.cells #[.int .i64 m, .string p, .slice oa n cap, .string b] 26)) W1 := by rw [hW1, ← s1]; exact (Below.refl _ _).alloc (Nat.le_refl _) _
  rw [s2] at hW
  have b2 : Below r w W := b1.trans (hW.mono (by omega))
  rw [hr] at b2
  exact ⟨⟨by rw [hW.block r (by omega), c1.block r (by omega)]; exact e0, by rw [hW.block (r + 1) (by omega)]; exact e1⟩, hv.below b2, hu.below b2, b2⟩
 have HSZ : Hid (WalkF n fs) := hsz
 have HSB : Hid (WalkF k gs) := hsz2
 have HPM : Hid (p.size ≤ maxLen) := hp
 have HBM : Hid (b.size ≤ maxLen) := hb
 have HCM : Hid (c.size ≤ maxLen) := hc
 have HG1 : Hid ((getV fs ccName).size ≤ 1048576) := hg1
 have HG2 : Hid ((getV gs ccName).size ≤ 1048576) := hg2
 have HG3 : Hid ((getV gs varyName).size ≤ 1048576) := hg3
 obtain ⟨⟨h0, h1⟩, hv1, hu1, _⟩ := HKEEP.out W1 (Below.refl _ _)
 obtain ⟨⟨c0, c1, c2, c3⟩, _⟩ := four_facts h0
 clear hW1 hv hu hsz hsz2 hp hb hc hg1 hg2 hg3 h0 h1 hu1
 go_enter Tryz.func145, Tryz.ntmps145
 go_upto_region 1 with fail
 rw [HW1.out, ← hr]
 clear hr HW1
 go_wp2_with fail
 refine (specReqOk_any m p _ b n base fs _ hv1 hn HSZ.out HPM.out HBM.out).mono ?_
 rintro e w2 ⟨okq, rfl, hokq, b2⟩
 have HB2 : Hid (Below W1.heap.size W1 w2) := b2
 clear c0 c1 c2 c3 hv1 b2
 obtain ⟨⟨h0, h1⟩, _, hu2, hb2⟩ := HKEEP.out w2 HB2.out
 have HB : Hid (Below w.heap.size w w2) := hb2
 cases okq with
 | false =>
  clear h0 h1 hu2 hb2
  have HF : Hid (¬ MayP m p fs b st gs c) := fun h => nomatch hokq.2 h.1.1
  clear hokq
  go_wp2_with fail
  go_ret
  exact BoolIs.no HF.out HB.out
 | true =>
  have HRQ : Hid (ReqP m p fs b) := hokq.1 rfl
  obtain ⟨⟨d0, d1, d2⟩, _⟩ := three_facts h1
  clear h0 h1 hb2 hokq HB
  go_wp2_with fail
  refine (specRespOk_any st _ c k base2 gs _ hu2 hk HSB.out HCM.out).mono ?_
  rintro e w3 ⟨okr, rfl, hokr, b3⟩
  have HB3 : Hid (Below W1.heap.size W1 w3) := HB2.out.trans (b3.mono HB2.out.size)
  clear d0 d1 d2 hu2 b3 HB2
  obtain ⟨⟨h0, h1⟩, _, _, hb3⟩ := HKEEP.out w3 HB3.out
  have HB : Hid (Below w.heap.size w w3) := hb3
  cases okr with
  | false =>
   clear h0 h1 hb3
   have HF : Hid (¬ MayP m p fs b st gs c) := fun h => nomatch hokr.2 h.1.2.1
   clear hokr
   go_wp2_with fail
   go_ret
   exact BoolIs.no HF.out HB.out
  | true =>
   have HRP : Hid (RespP st gs c) := hokr.1 rfl
   obtain ⟨⟨c0, c1, c2, c3⟩, _⟩ := four_facts h0
   obtain ⟨⟨d0, d1, d2⟩, _⟩ := three_facts h1
   clear h0 h1 hb3 hokr
   by_cases hm : m = 1
   ·
    by_cases hst : st = 200
    ·
     subst hm hst
     obtain ⟨tq, htq⟩ := exq (getV fs ccName)
     obtain ⟨cq, hcq⟩ := exq (ccR tq)
     obtain ⟨tr, htr⟩ := exq (getV gs ccName)
     obtain ⟨cr, hcr⟩ := exq (ccR tr)
     have HQ : Hid (MayP 1 p fs b 200 gs c ↔ cq.ns = false ∧ cr.ns = false ∧ cr.pr = false ∧ cr.ha = true ∧ NamesP (varyP gs)) := by
      show _ ↔ _
      unfold MayP
      rw [← htq, ← htr, ← hcq, ← hcr]
      exact ⟨fun h => h.2, fun h => ⟨⟨HRQ.out, HRP.out, rfl, rfl⟩, h⟩⟩
     have HC1 : Hid (∀ W, Below W1.heap.size W1 W → Calls Tryz.prog 56 #[.slice oa n cap] W fun e w' => e = .returned (.agg #[.bool cq.ns, .bool cq.nc, .bool cq.pr, .bool cq.mu, .bool cq.ha, .int .i64 cq.age]) ∧ Below W.heap.size W w') := fun W h => by
      have := specCcOf_any (.slice oa n cap) n base fs W (HKEEP.out W h).2.1 hn HG1.out
      rw [← htq, ← hcq] at this
      exact this
     have HC2 : Hid (∀ W, Below W1.heap.size W1 W → Calls Tryz.prog 56 #[.slice ob k cb] W fun e w' => e = .returned (.agg #[.bool cr.ns, .bool cr.nc, .bool cr.pr, .bool cr.mu, .bool cr.ha, .int .i64 cr.age]) ∧ Below W.heap.size W w') := fun W h => by
      have := specCcOf_any (.slice ob k cb) k base2 gs W (HKEEP.out W h).2.2.1 hk HG2.out
      rw [← htr, ← hcr] at this
      exact this
     have HSS : Hid (∀ W, Below W1.heap.size W1 W → W.cell? ⟨r, 2, none⟩ = some (.slice oa n cap) ∧ W.cell? ⟨r + 1, 1, none⟩ = some (.slice ob k cb)) := fun W h => by
      obtain ⟨⟨h0, h1⟩, _⟩ := HKEEP.out W h
      exact ⟨(four_facts h0).1.2.2.1, (three_facts h1).1.2.1⟩
     clear htq hcq htr hcr
     obtain ⟨q0, q1, q2, q3, q4, q5⟩ := cq
     obtain ⟨z0, z1, z2, z3, z4, z5⟩ := cr
     dsimp only at HQ HC1 HC2
     have HST0 : Hid (CkSt W1 none none w3.drew) := ⟨HB3.out.drew, (fun o ho => by cases ho), (fun o ho => by cases ho), (fun o ho => by cases ho)⟩
     clear HB3 HB HRQ HRP
     go_upto_region 3 with fail
     clear c0 c1 c3 d0 d2
     go_cut [5, 6] (fun s5 s6 wx => ∃ o1 o2 : Nat, s5 = .pointer (some ⟨o1, 0, none⟩) ∧ s6 = .pointer (some ⟨o2, 0, none⟩) ∧ Hid (Below W1.heap.size W1 wx ∧ CcAt wx o1 ⟨q0, q1, q2, q3, q4, q5⟩ ∧ CcAt wx o2 ⟨z0, z1, z2, z3, z4, z5⟩))
     case first =>
      refine wp_region_held_drew (S := fun W => W.cell? ⟨r, 2, none⟩ = some (.slice oa n cap) ∧ W.cell? ⟨r + 1, 1, none⟩ = some (.slice ob k cb)) (by kernel_rfl) ⟨c2, d1⟩ (fun hS0 => ?_)
      obtain ⟨X0, hX0⟩ := exq w3.drew
      rw [← hX0] at hS0 HST0 ⊢
      clear hX0 c2 d1
      have HST := HST0
      clear HST0
      refine tkP 0 (.pointer (some ⟨r, 2, none⟩)) 25 rfl rfl hS0 ?_
      go_frame
      refine tkL 1 (.slice oa n cap) 26 rfl rfl (Or.inl ⟨by rfl, by intro W hW; obtain ⟨h1, h2⟩ := hW; go_simp⟩) hS0 ?_
      go_frame
      refine tkP 3 (.pointer (some ⟨r + 1, 1, none⟩)) 28 rfl rfl hS0 ?_
      go_frame
      refine tkL 4 (.slice ob k cb) 29 rfl rfl (Or.inl ⟨by rfl, by intro W hW; obtain ⟨h1, h2⟩ := hW; go_simp⟩) hS0 ?_
      go_frame
      refine wpAnyH_ready (rs := [2, 6, 7]) (by kernel_rfl) (by simp) ?_
      refine AllReadyH.cons rfl (fun K hK => ?_) (AllReadyH.cons rfl (fun K hK => ?_) (AllReadyH.cons rfl (fun K hK => ?_) AllReadyH.nil))
      ·
       go_simp
       refine (HC1.out _ HST.out.low).mono ?_
       rintro e X1 ⟨rfl, bx⟩
       have HSN : Hid (CkSt W1 none none X1) := HST.out.below bx
       refine hK.out _ _ (HSS.out _ HSN.out.low) (fun _ => ?_)
       clear hK K HST bx
       have HST := HSN
       clear HSN
       refine wpAnyH_ready (rs := [5, 6, 7]) (by kernel_rfl) (by simp) ?_
       refine AllReadyH.cons rfl (fun K hK => ?_) (AllReadyH.cons rfl (fun K hK => ?_) (AllReadyH.cons rfl (fun K hK => ?_) AllReadyH.nil))
       ·
        go_simp
        refine (HC2.out _ HST.out.low).mono ?_
        rintro e X2 ⟨rfl, bx⟩
        have HSN : Hid (CkSt W1 none none X2) := HST.out.below bx
        refine hK.out _ _ (HSS.out _ HSN.out.low) (fun _ => ?_)
        clear hK K HST bx
        have HST := HSN
        clear HSN
        refine wpAnyH_ready (rs := [6, 7]) (by kernel_rfl) (by simp) ?_
        refine AllReadyH.cons rfl (fun K hK => ?_) (AllReadyH.cons rfl (fun K hK => ?_) AllReadyH.nil)
        ·
         have HSN : Hid (CkSt W1 (some X2.heap.size) none (X2.alloc (.cells #[.bool false, .bool false, .bool false, .bool false, .bool false, .int .i64 0] 89))) := HST.out.make1
         go_simp
         refine hK.out _ _ (HSS.out _ HSN.out.low) (fun _ => ?_)
         clear hK K HST
         obtain ⟨p6, ho⟩ := exq (X2.heap.size)
         obtain ⟨X3, hX⟩ := exq (X2.alloc (.cells #[.bool false, .bool false, .bool false, .bool false, .bool false, .int .i64 0] 89))
         rw [← ho] at HSN ⊢
         rw [← hX] at HSN ⊢
         clear ho hX
         have HST := HSN
         clear HSN
         refine rd1 7 rfl (fun K hK => ?_)
         have HSN : Hid (CkSt W1 (some p6) (some X3.heap.size) (X3.alloc (.cells #[.bool false, .bool false, .bool false, .bool false, .bool false, .int .i64 0] 89))) := HST.out.make2
         go_simp
         refine hK.out _ _ (HSS.out _ HSN.out.low) (fun _ => ?_)
         clear hK K HST
         obtain ⟨p7, ho⟩ := exq (X3.heap.size)
         obtain ⟨X4, hX⟩ := exq (X3.alloc (.cells #[.bool false, .bool false, .bool false, .bool false, .bool false, .int .i64 0] 89))
         rw [← ho] at HSN ⊢
         rw [← hX] at HSN ⊢
         clear ho hX
         have HST := HSN
         clear HSN
         have hne : p6 ≠ p7 := fun e => HST.out.ne p6 rfl (by rw [e])
         obtain ⟨Y, hY⟩ := exq (((((((X4.setCell ⟨p6, 0, none⟩ (.bool q0)).setCell ⟨p6, 1, none⟩ (.bool q1)).setCell ⟨p6, 2, none⟩ (.bool q2)).setCell ⟨p6, 3, none⟩ (.bool q3)).setCell ⟨p6, 4, none⟩ (.bool q4)).setCell ⟨p6, 5, none⟩ (.int .i64 q5)))
         have HY := hsy hY
         have HR1 : Hid (CcAt X4 p6 cc0) := (HST.out.b1 p6 rfl).1
         have HYL : Hid (Below W1.heap.size W1 Y) := by show Below _ _ _; rw [hY]; exact below_putCc HST.out.low (HST.out.b1 p6 rfl).2 ⟨q0, q1, q2, q3, q4, q5⟩
         have HR2 : Hid (CcAt Y p7 cc0) := by show CcAt _ _ _; rw [hY]; exact (HST.out.b2 p7 rfl).1.same (putCcO _ _ _ ⟨q0, q1, q2, q3, q4, q5⟩ (fun e => hne e.symm))
         have HR3 : Hid (CcAt Y p6 ⟨q0, q1, q2, q3, q4, q5⟩) := by show CcAt _ _ _; rw [hY]; exact HR1.out.putAll ⟨q0, q1, q2, q3, q4, q5⟩
         obtain ⟨U, hU⟩ := exq (((((((Y.setCell ⟨p7, 0, none⟩ (.bool z0)).setCell ⟨p7, 1, none⟩ (.bool z1)).setCell ⟨p7, 2, none⟩ (.bool z2)).setCell ⟨p7, 3, none⟩ (.bool z3)).setCell ⟨p7, 4, none⟩ (.bool z4)).setCell ⟨p7, 5, none⟩ (.int .i64 z5)))
         have HU : Hid (((((((Y.setCell ⟨p7, 0, none⟩ (.bool z0)).setCell ⟨p7, 1, none⟩ (.bool z1)).setCell ⟨p7, 2, none⟩ (.bool z2)).setCell ⟨p7, 3, none⟩ (.bool z3)).setCell ⟨p7, 4, none⟩ (.bool z4)).setCell ⟨p7, 5, none⟩ (.int .i64 z5)) = U) := hU.symm
         have HF : Hid (Below W1.heap.size W1 U ∧ CcAt U p6 ⟨q0, q1, q2, q3, q4, q5⟩ ∧ CcAt U p7 ⟨z0, z1, z2, z3, z4, z5⟩) := by
          show _ ∧ _ ∧ _
          rw [hU]
          exact ⟨below_putCc HYL.out (HST.out.b2 p7 rfl).2 ⟨z0, z1, z2, z3, z4, z5⟩, HR3.out.same (putCcO _ _ _ ⟨z0, z1, z2, z3, z4, z5⟩ hne), HR2.out.putAll ⟨z0, z1, z2, z3, z4, z5⟩⟩
         have hs8 := HSS.out _ HYL.out
         have hs9 := HSS.out _ HF.out.1
         clear hY hU hne
         refine rd1 8 rfl (fun K hK => ?_)
         obtain ⟨x0, x1, x2, x3, x4, x5⟩ := HR1.out.cells
         have y0 := HR1.out.frozen 0
         have y1 := HR1.out.frozen 1
         have y2 := HR1.out.frozen 2
         have y3 := HR1.out.frozen 3
         have y4 := HR1.out.frozen 4
         have y5 := HR1.out.frozen 5
         clear HST HR1 HR3 HYL
         go_simp
         rw [HY.out]
         refine hK.out _ _ hs8 (fun _ => ?_)
         clear hK K x0 x1 x2 x3 x4 x5 y0 y1 y2 y3 y4 y5 HY
         refine rd1 9 rfl (fun K hK => ?_)
         obtain ⟨x0, x1, x2, x3, x4, x5⟩ := HR2.out.cells
         have y0 := HR2.out.frozen 0
         have y1 := HR2.out.frozen 1
         have y2 := HR2.out.frozen 2
         have y3 := HR2.out.frozen 3
         have y4 := HR2.out.frozen 4
         have y5 := HR2.out.frozen 5
         clear HR2
         go_simp
         rw [HU.out]
         refine hK.out _ _ hs9 (fun _ => ?_)
         clear hK K x0 x1 x2 x3 x4 x5 y0 y1 y2 y3 y4 y5 hs8 hs9 HU
         refine wpAnyH_done (by kernel_rfl) ?_ _
         go_wp2_with fail
         go_meet
         exact ⟨p6, p7, rfl, rfl, HF⟩
        ·
         have HSN : Hid (CkSt W1 none (some X2.heap.size) (X2.alloc (.cells #[.bool false, .bool false, .bool false, .bool false, .bool false, .int .i64 0] 89))) := HST.out.make2
         go_simp
         refine hK.out _ _ (HSS.out _ HSN.out.low) (fun _ => ?_)
         clear hK K HST
         obtain ⟨p7, ho⟩ := exq (X2.heap.size)
         obtain ⟨X3, hX⟩ := exq (X2.alloc (.cells #[.bool false, .bool false, .bool false, .bool false, .bool false, .int .i64 0] 89))
         rw [← ho] at HSN ⊢
         rw [← hX] at HSN ⊢
         clear ho hX
         have HST := HSN
         clear HSN
         refine rd1 6 rfl (fun K hK => ?_)
         have HSN : Hid (CkSt W1 (some X3.heap.size) (some p7) (X3.alloc (.cells #[.bool false, .bool false, .bool false, .bool false, .bool false, .int .i64 0] 89))) := HST.out.make1
         go_simp
         refine hK.out _ _ (HSS.out _ HSN.out.low) (fun _ => ?_)
         clear hK K HST
         obtain ⟨p6, ho⟩ := exq (X3.heap.size)
         obtain ⟨X4, hX⟩ := exq (X3.alloc (.cells #[.bool false, .bool false, .bool false, .bool false, .bool false, .int .i64 0] 89))
         rw [← ho] at HSN ⊢
         rw [← hX] at HSN ⊢
         clear ho hX
         have HST := HSN
         clear HSN
         have hne : p6 ≠ p7 := fun e => HST.out.ne p6 rfl (by rw [e])
         obtain ⟨Y, hY⟩ := exq (((((((X4.setCell ⟨p6, 0, none⟩ (.bool q0)).setCell ⟨p6, 1, none⟩ (.bool q1)).setCell ⟨p6, 2, none⟩ (.bool q2)).setCell ⟨p6, 3, none⟩ (.bool q3)).setCell ⟨p6, 4, none⟩ (.bool q4)).setCell ⟨p6, 5, none⟩ (.int .i64 q5)))
         have HY := hsy hY
         have HR1 : Hid (CcAt X4 p6 cc0) := (HST.out.b1 p6 rfl).1
         have HYL : Hid (Below W1.heap.size W1 Y) := by show Below _ _ _; rw [hY]; exact below_putCc HST.out.low (HST.out.b1 p6 rfl).2 ⟨q0, q1, q2, q3, q4, q5⟩
         have HR2 : Hid (CcAt Y p7 cc0) := by show CcAt _ _ _; rw [hY]; exact (HST.out.b2 p7 rfl).1.same (putCcO _ _ _ ⟨q0, q1, q2, q3, q4, q5⟩ (fun e => hne e.symm))
         have HR3 : Hid (CcAt Y p6 ⟨q0, q1, q2, q3, q4, q5⟩) := by show CcAt _ _ _; rw [hY]; exact HR1.out.putAll ⟨q0, q1, q2, q3, q4, q5⟩
         obtain ⟨U, hU⟩ := exq (((((((Y.setCell ⟨p7, 0, none⟩ (.bool z0)).setCell ⟨p7, 1, none⟩ (.bool z1)).setCell ⟨p7, 2, none⟩ (.bool z2)).setCell ⟨p7, 3, none⟩ (.bool z3)).setCell ⟨p7, 4, none⟩ (.bool z4)).setCell ⟨p7, 5, none⟩ (.int .i64 z5)))
         have HU : Hid (((((((Y.setCell ⟨p7, 0, none⟩ (.bool z0)).setCell ⟨p7, 1, none⟩ (.bool z1)).setCell ⟨p7, 2, none⟩ (.bool z2)).setCell ⟨p7, 3, none⟩ (.bool z3)).setCell ⟨p7, 4, none⟩ (.bool z4)).setCell ⟨p7, 5, none⟩ (.int .i64 z5)) = U) := hU.symm
         have HF : Hid (Below W1.heap.size W1 U ∧ CcAt U p6 ⟨q0, q1, q2, q3, q4, q5⟩ ∧ CcAt U p7 ⟨z0, z1, z2, z3, z4, z5⟩) := by
          show _ ∧ _ ∧ _
          rw [hU]
          exact ⟨below_putCc HYL.out (HST.out.b2 p7 rfl).2 ⟨z0, z1, z2, z3, z4, z5⟩, HR3.out.same (putCcO _ _ _ ⟨z0, z1, z2, z3, z4, z5⟩ hne), HR2.out.putAll ⟨z0, z1, z2, z3, z4, z5⟩⟩
         have hs8 := HSS.out _ HYL.out
         have hs9 := HSS.out _ HF.out.1
         clear hY hU hne
         refine rd1 8 rfl (fun K hK => ?_)
         obtain ⟨x0, x1, x2, x3, x4, x5⟩ := HR1.out.cells
         have y0 := HR1.out.frozen 0
         have y1 := HR1.out.frozen 1
         have y2 := HR1.out.frozen 2
         have y3 := HR1.out.frozen 3
         have y4 := HR1.out.frozen 4
         have y5 := HR1.out.frozen 5
         clear HST HR1 HR3 HYL
         go_simp
         rw [HY.out]
         refine hK.out _ _ hs8 (fun _ => ?_)
         clear hK K x0 x1 x2 x3 x4 x5 y0 y1 y2 y3 y4 y5 HY
         refine rd1 9 rfl (fun K hK => ?_)
         obtain ⟨x0, x1, x2, x3, x4, x5⟩ := HR2.out.cells
         have y0 := HR2.out.frozen 0
         have y1 := HR2.out.frozen 1
         have y2 := HR2.out.frozen 2
         have y3 := HR2.out.frozen 3
         have y4 := HR2.out.frozen 4
         have y5 := HR2.out.frozen 5
         clear HR2
         go_simp
         rw [HU.out]
         refine hK.out _ _ hs9 (fun _ => ?_)
         clear hK K x0 x1 x2 x3 x4 x5 y0 y1 y2 y3 y4 y5 hs8 hs9 HU
         refine wpAnyH_done (by kernel_rfl) ?_ _
         go_wp2_with fail
         go_meet
         exact ⟨p6, p7, rfl, rfl, HF⟩
       ·
        have HSN : Hid (CkSt W1 (some X1.heap.size) none (X1.alloc (.cells #[.bool false, .bool false, .bool false, .bool false, .bool false, .int .i64 0] 89))) := HST.out.make1
        go_simp
        refine hK.out _ _ (HSS.out _ HSN.out.low) (fun _ => ?_)
        clear hK K HST
        obtain ⟨p6, ho⟩ := exq (X1.heap.size)
        obtain ⟨X2, hX⟩ := exq (X1.alloc (.cells #[.bool false, .bool false, .bool false, .bool false, .bool false, .int .i64 0] 89))
        rw [← ho] at HSN ⊢
        rw [← hX] at HSN ⊢
        clear ho hX
        have HST := HSN
        clear HSN
        refine wpAnyH_ready (rs := [5, 7]) (by kernel_rfl) (by simp) ?_
        refine AllReadyH.cons rfl (fun K hK => ?_) (AllReadyH.cons rfl (fun K hK => ?_) AllReadyH.nil)
        ·
         go_simp
         refine (HC2.out _ HST.out.low).mono ?_
         rintro e X3 ⟨rfl, bx⟩
         have HSN : Hid (CkSt W1 (some p6) none X3) := HST.out.below bx
         refine hK.out _ _ (HSS.out _ HSN.out.low) (fun _ => ?_)
         clear hK K HST bx
         have HST := HSN
         clear HSN
         refine rd1 7 rfl (fun K hK => ?_)
         have HSN : Hid (CkSt W1 (some p6) (some X3.heap.size) (X3.alloc (.cells #[.bool false, .bool false, .bool false, .bool false, .bool false, .int .i64 0] 89))) := HST.out.make2
         go_simp
         refine hK.out _ _ (HSS.out _ HSN.out.low) (fun _ => ?_)
         clear hK K HST
         obtain ⟨p7, ho⟩ := exq (X3.heap.size)
         obtain ⟨X4, hX⟩ := exq (X3.alloc (.cells #[.bool false, .bool false, .bool false, .bool false, .bool false, .int .i64 0] 89))
         rw [← ho] at HSN ⊢
         rw [← hX] at HSN ⊢
         clear ho hX
         have HST := HSN
         clear HSN
         have hne : p6 ≠ p7 := fun e => HST.out.ne p6 rfl (by rw [e])
         obtain ⟨Y, hY⟩ := exq (((((((X4.setCell ⟨p6, 0, none⟩ (.bool q0)).setCell ⟨p6, 1, none⟩ (.bool q1)).setCell ⟨p6, 2, none⟩ (.bool q2)).setCell ⟨p6, 3, none⟩ (.bool q3)).setCell ⟨p6, 4, none⟩ (.bool q4)).setCell ⟨p6, 5, none⟩ (.int .i64 q5)))
         have HY := hsy hY
         have HR1 : Hid (CcAt X4 p6 cc0) := (HST.out.b1 p6 rfl).1
         have HYL : Hid (Below W1.heap.size W1 Y) := by show Below _ _ _; rw [hY]; exact below_putCc HST.out.low (HST.out.b1 p6 rfl).2 ⟨q0, q1, q2, q3, q4, q5⟩
         have HR2 : Hid (CcAt Y p7 cc0) := by show CcAt _ _ _; rw [hY]; exact (HST.out.b2 p7 rfl).1.same (putCcO _ _ _ ⟨q0, q1, q2, q3, q4, q5⟩ (fun e => hne e.symm))
         have HR3 : Hid (CcAt Y p6 ⟨q0, q1, q2, q3, q4, q5⟩) := by show CcAt _ _ _; rw [hY]; exact HR1.out.putAll ⟨q0, q1, q2, q3, q4, q5⟩
         obtain ⟨U, hU⟩ := exq (((((((Y.setCell ⟨p7, 0, none⟩ (.bool z0)).setCell ⟨p7, 1, none⟩ (.bool z1)).setCell ⟨p7, 2, none⟩ (.bool z2)).setCell ⟨p7, 3, none⟩ (.bool z3)).setCell ⟨p7, 4, none⟩ (.bool z4)).setCell ⟨p7, 5, none⟩ (.int .i64 z5)))
         have HU : Hid (((((((Y.setCell ⟨p7, 0, none⟩ (.bool z0)).setCell ⟨p7, 1, none⟩ (.bool z1)).setCell ⟨p7, 2, none⟩ (.bool z2)).setCell ⟨p7, 3, none⟩ (.bool z3)).setCell ⟨p7, 4, none⟩ (.bool z4)).setCell ⟨p7, 5, none⟩ (.int .i64 z5)) = U) := hU.symm
         have HF : Hid (Below W1.heap.size W1 U ∧ CcAt U p6 ⟨q0, q1, q2, q3, q4, q5⟩ ∧ CcAt U p7 ⟨z0, z1, z2, z3, z4, z5⟩) := by
          show _ ∧ _ ∧ _
          rw [hU]
          exact ⟨below_putCc HYL.out (HST.out.b2 p7 rfl).2 ⟨z0, z1, z2, z3, z4, z5⟩, HR3.out.same (putCcO _ _ _ ⟨z0, z1, z2, z3, z4, z5⟩ hne), HR2.out.putAll ⟨z0, z1, z2, z3, z4, z5⟩⟩
         have hs8 := HSS.out _ HYL.out
         have hs9 := HSS.out _ HF.out.1
         clear hY hU hne
         refine rd1 8 rfl (fun K hK => ?_)
         obtain ⟨x0, x1, x2, x3, x4, x5⟩ := HR1.out.cells
         have y0 := HR1.out.frozen 0
         have y1 := HR1.out.frozen 1
         have y2 := HR1.out.frozen 2
         have y3 := HR1.out.frozen 3
         have y4 := HR1.out.frozen 4
         have y5 := HR1.out.frozen 5
         clear HST HR1 HR3 HYL
         go_simp
         rw [HY.out]
         refine hK.out _ _ hs8 (fun _ => ?_)
         clear hK K x0 x1 x2 x3 x4 x5 y0 y1 y2 y3 y4 y5 HY
         refine rd1 9 rfl (fun K hK => ?_)
         obtain ⟨x0, x1, x2, x3, x4, x5⟩ := HR2.out.cells
         have y0 := HR2.out.frozen 0
         have y1 := HR2.out.frozen 1
         have y2 := HR2.out.frozen 2
         have y3 := HR2.out.frozen 3
         have y4 := HR2.out.frozen 4
         have y5 := HR2.out.frozen 5
         clear HR2
         go_simp
         rw [HU.out]
         refine hK.out _ _ hs9 (fun _ => ?_)
         clear hK K x0 x1 x2 x3 x4 x5 y0 y1 y2 y3 y4 y5 hs8 hs9 HU
         refine wpAnyH_done (by kernel_rfl) ?_ _
         go_wp2_with fail
         go_meet
         exact ⟨p6, p7, rfl, rfl, HF⟩
        ·
         have HSN : Hid (CkSt W1 (some p6) (some X2.heap.size) (X2.alloc (.cells #[.bool false, .bool false, .bool false, .bool false, .bool false, .int .i64 0] 89))) := HST.out.make2
         go_simp
         refine hK.out _ _ (HSS.out _ HSN.out.low) (fun _ => ?_)
         clear hK K HST
         obtain ⟨p7, ho⟩ := exq (X2.heap.size)
         obtain ⟨X3, hX⟩ := exq (X2.alloc (.cells #[.bool false, .bool false, .bool false, .bool false, .bool false, .int .i64 0] 89))
         rw [← ho] at HSN ⊢
         rw [← hX] at HSN ⊢
         clear ho hX
         have HST := HSN
         clear HSN
         refine rd1 5 rfl (fun K hK => ?_)
         go_simp
         refine (HC2.out _ HST.out.low).mono ?_
         rintro e X4 ⟨rfl, bx⟩
         have HSN : Hid (CkSt W1 (some p6) (some p7) X4) := HST.out.below bx
         refine hK.out _ _ (HSS.out _ HSN.out.low) (fun _ => ?_)
         clear hK K HST bx
         have HST := HSN
         clear HSN
         have hne : p6 ≠ p7 := fun e => HST.out.ne p6 rfl (by rw [e])
         obtain ⟨Y, hY⟩ := exq (((((((X4.setCell ⟨p6, 0, none⟩ (.bool q0)).setCell ⟨p6, 1, none⟩ (.bool q1)).setCell ⟨p6, 2, none⟩ (.bool q2)).setCell ⟨p6, 3, none⟩ (.bool q3)).setCell ⟨p6, 4, none⟩ (.bool q4)).setCell ⟨p6, 5, none⟩ (.int .i64 q5)))
         have HY := hsy hY
         have HR1 : Hid (CcAt X4 p6 cc0) := (HST.out.b1 p6 rfl).1
         have HYL : Hid (Below W1.heap.size W1 Y) := by show Below _ _ _; rw [hY]; exact below_putCc HST.out.low (HST.out.b1 p6 rfl).2 ⟨q0, q1, q2, q3, q4, q5⟩
         have HR2 : Hid (CcAt Y p7 cc0) := by show CcAt _ _ _; rw [hY]; exact (HST.out.b2 p7 rfl).1.same (putCcO _ _ _ ⟨q0, q1, q2, q3, q4, q5⟩ (fun e => hne e.symm))
         have HR3 : Hid (CcAt Y p6 ⟨q0, q1, q2, q3, q4, q5⟩) := by show CcAt _ _ _; rw [hY]; exact HR1.out.putAll ⟨q0, q1, q2, q3, q4, q5⟩
         obtain ⟨U, hU⟩ := exq (((((((Y.setCell ⟨p7, 0, none⟩ (.bool z0)).setCell ⟨p7, 1, none⟩ (.bool z1)).setCell ⟨p7, 2, none⟩ (.bool z2)).setCell ⟨p7, 3, none⟩ (.bool z3)).setCell ⟨p7, 4, none⟩ (.bool z4)).setCell ⟨p7, 5, none⟩ (.int .i64 z5)))
         have HU : Hid (((((((Y.setCell ⟨p7, 0, none⟩ (.bool z0)).setCell ⟨p7, 1, none⟩ (.bool z1)).setCell ⟨p7, 2, none⟩ (.bool z2)).setCell ⟨p7, 3, none⟩ (.bool z3)).setCell ⟨p7, 4, none⟩ (.bool z4)).setCell ⟨p7, 5, none⟩ (.int .i64 z5)) = U) := hU.symm
         have HF : Hid (Below W1.heap.size W1 U ∧ CcAt U p6 ⟨q0, q1, q2, q3, q4, q5⟩ ∧ CcAt U p7 ⟨z0, z1, z2, z3, z4, z5⟩) := by
          show _ ∧ _ ∧ _
          rw [hU]
          exact ⟨below_putCc HYL.out (HST.out.b2 p7 rfl).2 ⟨z0, z1, z2, z3, z4, z5⟩, HR3.out.same (putCcO _ _ _ ⟨z0, z1, z2, z3, z4, z5⟩ hne), HR2.out.putAll ⟨z0, z1, z2, z3, z4, z5⟩⟩
         have hs8 := HSS.out _ HYL.out
         have hs9 := HSS.out _ HF.out.1
         clear hY hU hne
         refine rd1 8 rfl (fun K hK => ?_)
         obtain ⟨x0, x1, x2, x3, x4, x5⟩ := HR1.out.cells
         have y0 := HR1.out.frozen 0
         have y1 := HR1.out.frozen 1
         have y2 := HR1.out.frozen 2
         have y3 := HR1.out.frozen 3
         have y4 := HR1.out.frozen 4
         have y5 := HR1.out.frozen 5
         clear HST HR1 HR3 HYL
         go_simp
         rw [HY.out]
         refine hK.out _ _ hs8 (fun _ => ?_)
         clear hK K x0 x1 x2 x3 x4 x5 y0 y1 y2 y3 y4 y5 HY
         refine rd1 9 rfl (fun K hK => ?_)
         obtain ⟨x0, x1, x2, x3, x4, x5⟩ := HR2.out.cells
         have y0 := HR2.out.frozen 0
         have y1 := HR2.out.frozen 1
         have y2 := HR2.out.frozen 2
         have y3 := HR2.out.frozen 3
         have y4 := HR2.out.frozen 4
         have y5 := HR2.out.frozen 5
         clear HR2
         go_simp
         rw [HU.out]
         refine hK.out _ _ hs9 (fun _ => ?_)
         clear hK K x0 x1 x2 x3 x4 x5 y0 y1 y2 y3 y4 y5 hs8 hs9 HU
         refine wpAnyH_done (by kernel_rfl) ?_ _
         go_wp2_with fail
         go_meet
         exact ⟨p6, p7, rfl, rfl, HF⟩
       ·
        have HSN : Hid (CkSt W1 none (some X1.heap.size) (X1.alloc (.cells #[.bool false, .bool false, .bool false, .bool false, .bool false, .int .i64 0] 89))) := HST.out.make2
        go_simp
        refine hK.out _ _ (HSS.out _ HSN.out.low) (fun _ => ?_)
        clear hK K HST
        obtain ⟨p7, ho⟩ := exq (X1.heap.size)
        obtain ⟨X2, hX⟩ := exq (X1.alloc (.cells #[.bool false, .bool false, .bool false, .bool false, .bool false, .int .i64 0] 89))
        rw [← ho] at HSN ⊢
        rw [← hX] at HSN ⊢
        clear ho hX
        have HST := HSN
        clear HSN
        refine wpAnyH_ready (rs := [5, 6]) (by kernel_rfl) (by simp) ?_
        refine AllReadyH.cons rfl (fun K hK => ?_) (AllReadyH.cons rfl (fun K hK => ?_) AllReadyH.nil)
        ·
         go_simp
         refine (HC2.out _ HST.out.low).mono ?_
         rintro e X3 ⟨rfl, bx⟩
         have HSN : Hid (CkSt W1 none (some p7) X3) := HST.out.below bx
         refine hK.out _ _ (HSS.out _ HSN.out.low) (fun _ => ?_)
         clear hK K HST bx
         have HST := HSN
         clear HSN
         refine rd1 6 rfl (fun K hK => ?_)
         have HSN : Hid (CkSt W1 (some X3.heap.size) (some p7) (X3.alloc (.cells #[.bool false, .bool false, .bool false, .bool false, .bool false, .int .i64 0] 89))) := HST.out.make1
         go_simp
         refine hK.out _ _ (HSS.out _ HSN.out.low) (fun _ => ?_)
         clear hK K HST
         obtain ⟨p6, ho⟩ := exq (X3.heap.size)
         obtain ⟨X4, hX⟩ := exq (X3.alloc (.cells #[.bool false, .bool false, .bool false, .bool false, .bool false, .int .i64 0] 89))
         rw [← ho] at HSN ⊢
         rw [← hX] at HSN ⊢
         clear ho hX
         have HST := HSN
         clear HSN
         have hne : p6 ≠ p7 := fun e => HST.out.ne p6 rfl (by rw [e])
         obtain ⟨Y, hY⟩ := exq (((((((X4.setCell ⟨p6, 0, none⟩ (.bool q0)).setCell ⟨p6, 1, none⟩ (.bool q1)).setCell ⟨p6, 2, none⟩ (.bool q2)).setCell ⟨p6, 3, none⟩ (.bool q3)).setCell ⟨p6, 4, none⟩ (.bool q4)).setCell ⟨p6, 5, none⟩ (.int .i64 q5)))
         have HY := hsy hY
         have HR1 : Hid (CcAt X4 p6 cc0) := (HST.out.b1 p6 rfl).1
         have HYL : Hid (Below W1.heap.size W1 Y) := by show Below _ _ _; rw [hY]; exact below_putCc HST.out.low (HST.out.b1 p6 rfl).2 ⟨q0, q1, q2, q3, q4, q5⟩
         have HR2 : Hid (CcAt Y p7 cc0) := by show CcAt _ _ _; rw [hY]; exact (HST.out.b2 p7 rfl).1.same (putCcO _ _ _ ⟨q0, q1, q2, q3, q4, q5⟩ (fun e => hne e.symm))
         have HR3 : Hid (CcAt Y p6 ⟨q0, q1, q2, q3, q4, q5⟩) := by show CcAt _ _ _; rw [hY]; exact HR1.out.putAll ⟨q0, q1, q2, q3, q4, q5⟩
         obtain ⟨U, hU⟩ := exq (((((((Y.setCell ⟨p7, 0, none⟩ (.bool z0)).setCell ⟨p7, 1, none⟩ (.bool z1)).setCell ⟨p7, 2, none⟩ (.bool z2)).setCell ⟨p7, 3, none⟩ (.bool z3)).setCell ⟨p7, 4, none⟩ (.bool z4)).setCell ⟨p7, 5, none⟩ (.int .i64 z5)))
         have HU : Hid (((((((Y.setCell ⟨p7, 0, none⟩ (.bool z0)).setCell ⟨p7, 1, none⟩ (.bool z1)).setCell ⟨p7, 2, none⟩ (.bool z2)).setCell ⟨p7, 3, none⟩ (.bool z3)).setCell ⟨p7, 4, none⟩ (.bool z4)).setCell ⟨p7, 5, none⟩ (.int .i64 z5)) = U) := hU.symm
         have HF : Hid (Below W1.heap.size W1 U ∧ CcAt U p6 ⟨q0, q1, q2, q3, q4, q5⟩ ∧ CcAt U p7 ⟨z0, z1, z2, z3, z4, z5⟩) := by
          show _ ∧ _ ∧ _
          rw [hU]
          exact ⟨below_putCc HYL.out (HST.out.b2 p7 rfl).2 ⟨z0, z1, z2, z3, z4, z5⟩, HR3.out.same (putCcO _ _ _ ⟨z0, z1, z2, z3, z4, z5⟩ hne), HR2.out.putAll ⟨z0, z1, z2, z3, z4, z5⟩⟩
         have hs8 := HSS.out _ HYL.out
         have hs9 := HSS.out _ HF.out.1
         clear hY hU hne
         refine rd1 8 rfl (fun K hK => ?_)
         obtain ⟨x0, x1, x2, x3, x4, x5⟩ := HR1.out.cells
         have y0 := HR1.out.frozen 0
         have y1 := HR1.out.frozen 1
         have y2 := HR1.out.frozen 2
         have y3 := HR1.out.frozen 3
         have y4 := HR1.out.frozen 4
         have y5 := HR1.out.frozen 5
         clear HST HR1 HR3 HYL
         go_simp
         rw [HY.out]
         refine hK.out _ _ hs8 (fun _ => ?_)
         clear hK K x0 x1 x2 x3 x4 x5 y0 y1 y2 y3 y4 y5 HY
         refine rd1 9 rfl (fun K hK => ?_)
         obtain ⟨x0, x1, x2, x3, x4, x5⟩ := HR2.out.cells
         have y0 := HR2.out.frozen 0
         have y1 := HR2.out.frozen 1
         have y2 := HR2.out.frozen 2
         have y3 := HR2.out.frozen 3
         have y4 := HR2.out.frozen 4
         have y5 := HR2.out.frozen 5
         clear HR2
         go_simp
         rw [HU.out]
         refine hK.out _ _ hs9 (fun _ => ?_)
         clear hK K x0 x1 x2 x3 x4 x5 y0 y1 y2 y3 y4 y5 hs8 hs9 HU
         refine wpAnyH_done (by kernel_rfl) ?_ _
         go_wp2_with fail
         go_meet
         exact ⟨p6, p7, rfl, rfl, HF⟩
        ·
         have HSN : Hid (CkSt W1 (some X2.heap.size) (some p7) (X2.alloc (.cells #[.bool false, .bool false, .bool false, .bool false, .bool false, .int .i64 0] 89))) := HST.out.make1
         go_simp
         refine hK.out _ _ (HSS.out _ HSN.out.low) (fun _ => ?_)
         clear hK K HST
         obtain ⟨p6, ho⟩ := exq (X2.heap.size)
         obtain ⟨X3, hX⟩ := exq (X2.alloc (.cells #[.bool false, .bool false, .bool false, .bool false, .bool false, .int .i64 0] 89))
         rw [← ho] at HSN ⊢
         rw [← hX] at HSN ⊢
         clear ho hX
         have HST := HSN
         clear HSN
         refine rd1 5 rfl (fun K hK => ?_)
         go_simp
         refine (HC2.out _ HST.out.low).mono ?_
         rintro e X4 ⟨rfl, bx⟩
         have HSN : Hid (CkSt W1 (some p6) (some p7) X4) := HST.out.below bx
         refine hK.out _ _ (HSS.out _ HSN.out.low) (fun _ => ?_)
         clear hK K HST bx
         have HST := HSN
         clear HSN
         have hne : p6 ≠ p7 := fun e => HST.out.ne p6 rfl (by rw [e])
         obtain ⟨Y, hY⟩ := exq (((((((X4.setCell ⟨p6, 0, none⟩ (.bool q0)).setCell ⟨p6, 1, none⟩ (.bool q1)).setCell ⟨p6, 2, none⟩ (.bool q2)).setCell ⟨p6, 3, none⟩ (.bool q3)).setCell ⟨p6, 4, none⟩ (.bool q4)).setCell ⟨p6, 5, none⟩ (.int .i64 q5)))
         have HY := hsy hY
         have HR1 : Hid (CcAt X4 p6 cc0) := (HST.out.b1 p6 rfl).1
         have HYL : Hid (Below W1.heap.size W1 Y) := by show Below _ _ _; rw [hY]; exact below_putCc HST.out.low (HST.out.b1 p6 rfl).2 ⟨q0, q1, q2, q3, q4, q5⟩
         have HR2 : Hid (CcAt Y p7 cc0) := by show CcAt _ _ _; rw [hY]; exact (HST.out.b2 p7 rfl).1.same (putCcO _ _ _ ⟨q0, q1, q2, q3, q4, q5⟩ (fun e => hne e.symm))
         have HR3 : Hid (CcAt Y p6 ⟨q0, q1, q2, q3, q4, q5⟩) := by show CcAt _ _ _; rw [hY]; exact HR1.out.putAll ⟨q0, q1, q2, q3, q4, q5⟩
         obtain ⟨U, hU⟩ := exq (((((((Y.setCell ⟨p7, 0, none⟩ (.bool z0)).setCell ⟨p7, 1, none⟩ (.bool z1)).setCell ⟨p7, 2, none⟩ (.bool z2)).setCell ⟨p7, 3, none⟩ (.bool z3)).setCell ⟨p7, 4, none⟩ (.bool z4)).setCell ⟨p7, 5, none⟩ (.int .i64 z5)))
         have HU : Hid (((((((Y.setCell ⟨p7, 0, none⟩ (.bool z0)).setCell ⟨p7, 1, none⟩ (.bool z1)).setCell ⟨p7, 2, none⟩ (.bool z2)).setCell ⟨p7, 3, none⟩ (.bool z3)).setCell ⟨p7, 4, none⟩ (.bool z4)).setCell ⟨p7, 5, none⟩ (.int .i64 z5)) = U) := hU.symm
         have HF : Hid (Below W1.heap.size W1 U ∧ CcAt U p6 ⟨q0, q1, q2, q3, q4, q5⟩ ∧ CcAt U p7 ⟨z0, z1, z2, z3, z4, z5⟩) := by
          show _ ∧ _ ∧ _
          rw [hU]
          exact ⟨below_putCc HYL.out (HST.out.b2 p7 rfl).2 ⟨z0, z1, z2, z3, z4, z5⟩, HR3.out.same (putCcO _ _ _ ⟨z0, z1, z2, z3, z4, z5⟩ hne), HR2.out.putAll ⟨z0, z1, z2, z3, z4, z5⟩⟩
         have hs8 := HSS.out _ HYL.out
         have hs9 := HSS.out _ HF.out.1
         clear hY hU hne
         refine rd1 8 rfl (fun K hK => ?_)
         obtain ⟨x0, x1, x2, x3, x4, x5⟩ := HR1.out.cells
         have y0 := HR1.out.frozen 0
         have y1 := HR1.out.frozen 1
         have y2 := HR1.out.frozen 2
         have y3 := HR1.out.frozen 3
         have y4 := HR1.out.frozen 4
         have y5 := HR1.out.frozen 5
         clear HST HR1 HR3 HYL
         go_simp
         rw [HY.out]
         refine hK.out _ _ hs8 (fun _ => ?_)
         clear hK K x0 x1 x2 x3 x4 x5 y0 y1 y2 y3 y4 y5 HY
         refine rd1 9 rfl (fun K hK => ?_)
         obtain ⟨x0, x1, x2, x3, x4, x5⟩ := HR2.out.cells
         have y0 := HR2.out.frozen 0
         have y1 := HR2.out.frozen 1
         have y2 := HR2.out.frozen 2
         have y3 := HR2.out.frozen 3
         have y4 := HR2.out.frozen 4
         have y5 := HR2.out.frozen 5
         clear HR2
         go_simp
         rw [HU.out]
         refine hK.out _ _ hs9 (fun _ => ?_)
         clear hK K x0 x1 x2 x3 x4 x5 y0 y1 y2 y3 y4 y5 hs8 hs9 HU
         refine wpAnyH_done (by kernel_rfl) ?_ _
         go_wp2_with fail
         go_meet
         exact ⟨p6, p7, rfl, rfl, HF⟩
      ·
       have HSN : Hid (CkSt W1 (some X0.heap.size) none (X0.alloc (.cells #[.bool false, .bool false, .bool false, .bool false, .bool false, .int .i64 0] 89))) := HST.out.make1
       go_simp
       refine hK.out _ _ (HSS.out _ HSN.out.low) (fun _ => ?_)
       clear hK K HST
       obtain ⟨p6, ho⟩ := exq (X0.heap.size)
       obtain ⟨X1, hX⟩ := exq (X0.alloc (.cells #[.bool false, .bool false, .bool false, .bool false, .bool false, .int .i64 0] 89))
       rw [← ho] at HSN ⊢
       rw [← hX] at HSN ⊢
       clear ho hX
       have HST := HSN
       clear HSN
       refine wpAnyH_ready (rs := [2, 7]) (by kernel_rfl) (by simp) ?_
       refine AllReadyH.cons rfl (fun K hK => ?_) (AllReadyH.cons rfl (fun K hK => ?_) AllReadyH.nil)
       ·
        go_simp
        refine (HC1.out _ HST.out.low).mono ?_
        rintro e X2 ⟨rfl, bx⟩
        have HSN : Hid (CkSt W1 (some p6) none X2) := HST.out.below bx
        refine hK.out _ _ (HSS.out _ HSN.out.low) (fun _ => ?_)
        clear hK K HST bx
        have HST := HSN
        clear HSN
        refine wpAnyH_ready (rs := [5, 7]) (by kernel_rfl) (by simp) ?_
        refine AllReadyH.cons rfl (fun K hK => ?_) (AllReadyH.cons rfl (fun K hK => ?_) AllReadyH.nil)
        ·
         go_simp
         refine (HC2.out _ HST.out.low).mono ?_
         rintro e X3 ⟨rfl, bx⟩
         have HSN : Hid (CkSt W1 (some p6) none X3) := HST.out.below bx
         refine hK.out _ _ (HSS.out _ HSN.out.low) (fun _ => ?_)
         clear hK K HST bx
         have HST := HSN
         clear HSN
         refine rd1 7 rfl (fun K hK => ?_)
         have HSN : Hid (CkSt W1 (some p6) (some X3.heap.size) (X3.alloc (.cells #[.bool false, .bool false, .bool false, .bool false, .bool false, .int .i64 0] 89))) := HST.out.make2
         go_simp
         refine hK.out _ _ (HSS.out _ HSN.out.low) (fun _ => ?_)
         clear hK K HST
         obtain ⟨p7, ho⟩ := exq (X3.heap.size)
         obtain ⟨X4, hX⟩ := exq (X3.alloc (.cells #[.bool false, .bool false, .bool false, .bool false, .bool false, .int .i64 0] 89))
         rw [← ho] at HSN ⊢
         rw [← hX] at HSN ⊢
         clear ho hX
         have HST := HSN
         clear HSN
         have hne : p6 ≠ p7 := fun e => HST.out.ne p6 rfl (by rw [e])
         obtain ⟨Y, hY⟩ := exq (((((((X4.setCell ⟨p6, 0, none⟩ (.bool q0)).setCell ⟨p6, 1, none⟩ (.bool q1)).setCell ⟨p6, 2, none⟩ (.bool q2)).setCell ⟨p6, 3, none⟩ (.bool q3)).setCell ⟨p6, 4, none⟩ (.bool q4)).setCell ⟨p6, 5, none⟩ (.int .i64 q5)))
         have HY := hsy hY
         have HR1 : Hid (CcAt X4 p6 cc0) := (HST.out.b1 p6 rfl).1
         have HYL : Hid (Below W1.heap.size W1 Y) := by show Below _ _ _; rw [hY]; exact below_putCc HST.out.low (HST.out.b1 p6 rfl).2 ⟨q0, q1, q2, q3, q4, q5⟩
         have HR2 : Hid (CcAt Y p7 cc0) := by show CcAt _ _ _; rw [hY]; exact (HST.out.b2 p7 rfl).1.same (putCcO _ _ _ ⟨q0, q1, q2, q3, q4, q5⟩ (fun e => hne e.symm))
         have HR3 : Hid (CcAt Y p6 ⟨q0, q1, q2, q3, q4, q5⟩) := by show CcAt _ _ _; rw [hY]; exact HR1.out.putAll ⟨q0, q1, q2, q3, q4, q5⟩
         obtain ⟨U, hU⟩ := exq (((((((Y.setCell ⟨p7, 0, none⟩ (.bool z0)).setCell ⟨p7, 1, none⟩ (.bool z1)).setCell ⟨p7, 2, none⟩ (.bool z2)).setCell ⟨p7, 3, none⟩ (.bool z3)).setCell ⟨p7, 4, none⟩ (.bool z4)).setCell ⟨p7, 5, none⟩ (.int .i64 z5)))
         have HU : Hid (((((((Y.setCell ⟨p7, 0, none⟩ (.bool z0)).setCell ⟨p7, 1, none⟩ (.bool z1)).setCell ⟨p7, 2, none⟩ (.bool z2)).setCell ⟨p7, 3, none⟩ (.bool z3)).setCell ⟨p7, 4, none⟩ (.bool z4)).setCell ⟨p7, 5, none⟩ (.int .i64 z5)) = U) := hU.symm
         have HF : Hid (Below W1.heap.size W1 U ∧ CcAt U p6 ⟨q0, q1, q2, q3, q4, q5⟩ ∧ CcAt U p7 ⟨z0, z1, z2, z3, z4, z5⟩) := by
          show _ ∧ _ ∧ _
          rw [hU]
          exact ⟨below_putCc HYL.out (HST.out.b2 p7 rfl).2 ⟨z0, z1, z2, z3, z4, z5⟩, HR3.out.same (putCcO _ _ _ ⟨z0, z1, z2, z3, z4, z5⟩ hne), HR2.out.putAll ⟨z0, z1, z2, z3, z4, z5⟩⟩
         have hs8 := HSS.out _ HYL.out
         have hs9 := HSS.out _ HF.out.1
         clear hY hU hne
         refine rd1 8 rfl (fun K hK => ?_)
         obtain ⟨x0, x1, x2, x3, x4, x5⟩ := HR1.out.cells
         have y0 := HR1.out.frozen 0
         have y1 := HR1.out.frozen 1
         have y2 := HR1.out.frozen 2
         have y3 := HR1.out.frozen 3
         have y4 := HR1.out.frozen 4
         have y5 := HR1.out.frozen 5
         clear HST HR1 HR3 HYL
         go_simp
         rw [HY.out]
         refine hK.out _ _ hs8 (fun _ => ?_)
         clear hK K x0 x1 x2 x3 x4 x5 y0 y1 y2 y3 y4 y5 HY
         refine rd1 9 rfl (fun K hK => ?_)
         obtain ⟨x0, x1, x2, x3, x4, x5⟩ := HR2.out.cells
         have y0 := HR2.out.frozen 0
         have y1 := HR2.out.frozen 1
         have y2 := HR2.out.frozen 2
         have y3 := HR2.out.frozen 3
         have y4 := HR2.out.frozen 4
         have y5 := HR2.out.frozen 5
         clear HR2
         go_simp
         rw [HU.out]
         refine hK.out _ _ hs9 (fun _ => ?_)
         clear hK K x0 x1 x2 x3 x4 x5 y0 y1 y2 y3 y4 y5 hs8 hs9 HU
         refine wpAnyH_done (by kernel_rfl) ?_ _
         go_wp2_with fail
         go_meet
         exact ⟨p6, p7, rfl, rfl, HF⟩
        ·
         have HSN : Hid (CkSt W1 (some p6) (some X2.heap.size) (X2.alloc (.cells #[.bool false, .bool false, .bool false, .bool false, .bool false, .int .i64 0] 89))) := HST.out.make2
         go_simp
         refine hK.out _ _ (HSS.out _ HSN.out.low) (fun _ => ?_)
         clear hK K HST
         obtain ⟨p7, ho⟩ := exq (X2.heap.size)
         obtain ⟨X3, hX⟩ := exq (X2.alloc (.cells #[.bool false, .bool false, .bool false, .bool false, .bool false, .int .i64 0] 89))
         rw [← ho] at HSN ⊢
         rw [← hX] at HSN ⊢
         clear ho hX
         have HST := HSN
         clear HSN
         refine rd1 5 rfl (fun K hK => ?_)
         go_simp
         refine (HC2.out _ HST.out.low).mono ?_
         rintro e X4 ⟨rfl, bx⟩
         have HSN : Hid (CkSt W1 (some p6) (some p7) X4) := HST.out.below bx
         refine hK.out _ _ (HSS.out _ HSN.out.low) (fun _ => ?_)
         clear hK K HST bx
         have HST := HSN
         clear HSN
         have hne : p6 ≠ p7 := fun e => HST.out.ne p6 rfl (by rw [e])
         obtain ⟨Y, hY⟩ := exq (((((((X4.setCell ⟨p6, 0, none⟩ (.bool q0)).setCell ⟨p6, 1, none⟩ (.bool q1)).setCell ⟨p6, 2, none⟩ (.bool q2)).setCell ⟨p6, 3, none⟩ (.bool q3)).setCell ⟨p6, 4, none⟩ (.bool q4)).setCell ⟨p6, 5, none⟩ (.int .i64 q5)))
         have HY := hsy hY
         have HR1 : Hid (CcAt X4 p6 cc0) := (HST.out.b1 p6 rfl).1
         have HYL : Hid (Below W1.heap.size W1 Y) := by show Below _ _ _; rw [hY]; exact below_putCc HST.out.low (HST.out.b1 p6 rfl).2 ⟨q0, q1, q2, q3, q4, q5⟩
         have HR2 : Hid (CcAt Y p7 cc0) := by show CcAt _ _ _; rw [hY]; exact (HST.out.b2 p7 rfl).1.same (putCcO _ _ _ ⟨q0, q1, q2, q3, q4, q5⟩ (fun e => hne e.symm))
         have HR3 : Hid (CcAt Y p6 ⟨q0, q1, q2, q3, q4, q5⟩) := by show CcAt _ _ _; rw [hY]; exact HR1.out.putAll ⟨q0, q1, q2, q3, q4, q5⟩
         obtain ⟨U, hU⟩ := exq (((((((Y.setCell ⟨p7, 0, none⟩ (.bool z0)).setCell ⟨p7, 1, none⟩ (.bool z1)).setCell ⟨p7, 2, none⟩ (.bool z2)).setCell ⟨p7, 3, none⟩ (.bool z3)).setCell ⟨p7, 4, none⟩ (.bool z4)).setCell ⟨p7, 5, none⟩ (.int .i64 z5)))
         have HU : Hid (((((((Y.setCell ⟨p7, 0, none⟩ (.bool z0)).setCell ⟨p7, 1, none⟩ (.bool z1)).setCell ⟨p7, 2, none⟩ (.bool z2)).setCell ⟨p7, 3, none⟩ (.bool z3)).setCell ⟨p7, 4, none⟩ (.bool z4)).setCell ⟨p7, 5, none⟩ (.int .i64 z5)) = U) := hU.symm
         have HF : Hid (Below W1.heap.size W1 U ∧ CcAt U p6 ⟨q0, q1, q2, q3, q4, q5⟩ ∧ CcAt U p7 ⟨z0, z1, z2, z3, z4, z5⟩) := by
          show _ ∧ _ ∧ _
          rw [hU]
          exact ⟨below_putCc HYL.out (HST.out.b2 p7 rfl).2 ⟨z0, z1, z2, z3, z4, z5⟩, HR3.out.same (putCcO _ _ _ ⟨z0, z1, z2, z3, z4, z5⟩ hne), HR2.out.putAll ⟨z0, z1, z2, z3, z4, z5⟩⟩
         have hs8 := HSS.out _ HYL.out
         have hs9 := HSS.out _ HF.out.1
         clear hY hU hne
         refine rd1 8 rfl (fun K hK => ?_)
         obtain ⟨x0, x1, x2, x3, x4, x5⟩ := HR1.out.cells
         have y0 := HR1.out.frozen 0
         have y1 := HR1.out.frozen 1
         have y2 := HR1.out.frozen 2
         have y3 := HR1.out.frozen 3
         have y4 := HR1.out.frozen 4
         have y5 := HR1.out.frozen 5
         clear HST HR1 HR3 HYL
         go_simp
         rw [HY.out]
         refine hK.out _ _ hs8 (fun _ => ?_)
         clear hK K x0 x1 x2 x3 x4 x5 y0 y1 y2 y3 y4 y5 HY
         refine rd1 9 rfl (fun K hK => ?_)
         obtain ⟨x0, x1, x2, x3, x4, x5⟩ := HR2.out.cells
         have y0 := HR2.out.frozen 0
         have y1 := HR2.out.frozen 1
         have y2 := HR2.out.frozen 2
         have y3 := HR2.out.frozen 3
         have y4 := HR2.out.frozen 4
         have y5 := HR2.out.frozen 5
         clear HR2
         go_simp
         rw [HU.out]
         refine hK.out _ _ hs9 (fun _ => ?_)
         clear hK K x0 x1 x2 x3 x4 x5 y0 y1 y2 y3 y4 y5 hs8 hs9 HU
         refine wpAnyH_done (by kernel_rfl) ?_ _
         go_wp2_with fail
         go_meet
         exact ⟨p6, p7, rfl, rfl, HF⟩
       ·
        have HSN : Hid (CkSt W1 (some p6) (some X1.heap.size) (X1.alloc (.cells #[.bool false, .bool false, .bool false, .bool false, .bool false, .int .i64 0] 89))) := HST.out.make2
        go_simp
        refine hK.out _ _ (HSS.out _ HSN.out.low) (fun _ => ?_)
        clear hK K HST
        obtain ⟨p7, ho⟩ := exq (X1.heap.size)
        obtain ⟨X2, hX⟩ := exq (X1.alloc (.cells #[.bool false, .bool false, .bool false, .bool false, .bool false, .int .i64 0] 89))
        rw [← ho] at HSN ⊢
        rw [← hX] at HSN ⊢
        clear ho hX
        have HST := HSN
        clear HSN
        refine rd1 2 rfl (fun K hK => ?_)
        go_simp
        refine (HC1.out _ HST.out.low).mono ?_
        rintro e X3 ⟨rfl, bx⟩
        have HSN : Hid (CkSt W1 (some p6) (some p7) X3) := HST.out.below bx
        refine hK.out _ _ (HSS.out _ HSN.out.low) (fun _ => ?_)
        clear hK K HST bx
        have HST := HSN
        clear HSN
        refine rd1 5 rfl (fun K hK => ?_)
        go_simp
        refine (HC2.out _ HST.out.low).mono ?_
        rintro e X4 ⟨rfl, bx⟩
        have HSN : Hid (CkSt W1 (some p6) (some p7) X4) := HST.out.below bx
        refine hK.out _ _ (HSS.out _ HSN.out.low) (fun _ => ?_)
        clear hK K HST bx
        have HST := HSN
        clear HSN
        have hne : p6 ≠ p7 := fun e => HST.out.ne p6 rfl (by rw [e])
        obtain ⟨Y, hY⟩ := exq (((((((X4.setCell ⟨p6, 0, none⟩ (.bool q0)).setCell ⟨p6, 1, none⟩ (.bool q1)).setCell ⟨p6, 2, none⟩ (.bool q2)).setCell ⟨p6, 3, none⟩ (.bool q3)).setCell ⟨p6, 4, none⟩ (.bool q4)).setCell ⟨p6, 5, none⟩ (.int .i64 q5)))
        have HY := hsy hY
        have HR1 : Hid (CcAt X4 p6 cc0) := (HST.out.b1 p6 rfl).1
        have HYL : Hid (Below W1.heap.size W1 Y) := by show Below _ _ _; rw [hY]; exact below_putCc HST.out.low (HST.out.b1 p6 rfl).2 ⟨q0, q1, q2, q3, q4, q5⟩
        have HR2 : Hid (CcAt Y p7 cc0) := by show CcAt _ _ _; rw [hY]; exact (HST.out.b2 p7 rfl).1.same (putCcO _ _ _ ⟨q0, q1, q2, q3, q4, q5⟩ (fun e => hne e.symm))
        have HR3 : Hid (CcAt Y p6 ⟨q0, q1, q2, q3, q4, q5⟩) := by show CcAt _ _ _; rw [hY]; exact HR1.out.putAll ⟨q0, q1, q2, q3, q4, q5⟩
        obtain ⟨U, hU⟩ := exq (((((((Y.setCell ⟨p7, 0, none⟩ (.bool z0)).setCell ⟨p7, 1, none⟩ (.bool z1)).setCell ⟨p7, 2, none⟩ (.bool z2)).setCell ⟨p7, 3, none⟩ (.bool z3)).setCell ⟨p7, 4, none⟩ (.bool z4)).setCell ⟨p7, 5, none⟩ (.int .i64 z5)))
        have HU : Hid (((((((Y.setCell ⟨p7, 0, none⟩ (.bool z0)).setCell ⟨p7, 1, none⟩ (.bool z1)).setCell ⟨p7, 2, none⟩ (.bool z2)).setCell ⟨p7, 3, none⟩ (.bool z3)).setCell ⟨p7, 4, none⟩ (.bool z4)).setCell ⟨p7, 5, none⟩ (.int .i64 z5)) = U) := hU.symm
        have HF : Hid (Below W1.heap.size W1 U ∧ CcAt U p6 ⟨q0, q1, q2, q3, q4, q5⟩ ∧ CcAt U p7 ⟨z0, z1, z2, z3, z4, z5⟩) := by
         show _ ∧ _ ∧ _
         rw [hU]
         exact ⟨below_putCc HYL.out (HST.out.b2 p7 rfl).2 ⟨z0, z1, z2, z3, z4, z5⟩, HR3.out.same (putCcO _ _ _ ⟨z0, z1, z2, z3, z4, z5⟩ hne), HR2.out.putAll ⟨z0, z1, z2, z3, z4, z5⟩⟩
        have hs8 := HSS.out _ HYL.out
        have hs9 := HSS.out _ HF.out.1
        clear hY hU hne
        refine rd1 8 rfl (fun K hK => ?_)
        obtain ⟨x0, x1, x2, x3, x4, x5⟩ := HR1.out.cells
        have y0 := HR1.out.frozen 0
        have y1 := HR1.out.frozen 1
        have y2 := HR1.out.frozen 2
        have y3 := HR1.out.frozen 3
        have y4 := HR1.out.frozen 4
        have y5 := HR1.out.frozen 5
        clear HST HR1 HR3 HYL
        go_simp
        rw [HY.out]
        refine hK.out _ _ hs8 (fun _ => ?_)
        clear hK K x0 x1 x2 x3 x4 x5 y0 y1 y2 y3 y4 y5 HY
        refine rd1 9 rfl (fun K hK => ?_)
        obtain ⟨x0, x1, x2, x3, x4, x5⟩ := HR2.out.cells
        have y0 := HR2.out.frozen 0
        have y1 := HR2.out.frozen 1
        have y2 := HR2.out.frozen 2
        have y3 := HR2.out.frozen 3
        have y4 := HR2.out.frozen 4
        have y5 := HR2.out.frozen 5
        clear HR2
        go_simp
        rw [HU.out]
        refine hK.out _ _ hs9 (fun _ => ?_)
        clear hK K x0 x1 x2 x3 x4 x5 y0 y1 y2 y3 y4 y5 hs8 hs9 HU
        refine wpAnyH_done (by kernel_rfl) ?_ _
        go_wp2_with fail
        go_meet
        exact ⟨p6, p7, rfl, rfl, HF⟩
      ·
       have HSN : Hid (CkSt W1 none (some X0.heap.size) (X0.alloc (.cells #[.bool false, .bool false, .bool false, .bool false, .bool false, .int .i64 0] 89))) := HST.out.make2
       go_simp
       refine hK.out _ _ (HSS.out _ HSN.out.low) (fun _ => ?_)
       clear hK K HST
       obtain ⟨p7, ho⟩ := exq (X0.heap.size)
       obtain ⟨X1, hX⟩ := exq (X0.alloc (.cells #[.bool false, .bool false, .bool false, .bool false, .bool false, .int .i64 0] 89))
       rw [← ho] at HSN ⊢
       rw [← hX] at HSN ⊢
       clear ho hX
       have HST := HSN
       clear HSN
       refine wpAnyH_ready (rs := [2, 6]) (by kernel_rfl) (by simp) ?_
       refine AllReadyH.cons rfl (fun K hK => ?_) (AllReadyH.cons rfl (fun K hK => ?_) AllReadyH.nil)
       ·
        go_simp
        refine (HC1.out _ HST.out.low).mono ?_
        rintro e X2 ⟨rfl, bx⟩
        have HSN : Hid (CkSt W1 none (some p7) X2) := HST.out.below bx
        refine hK.out _ _ (HSS.out _ HSN.out.low) (fun _ => ?_)
        clear hK K HST bx
        have HST := HSN
        clear HSN
        refine wpAnyH_ready (rs := [5, 6]) (by kernel_rfl) (by simp) ?_
        refine AllReadyH.cons rfl (fun K hK => ?_) (AllReadyH.cons rfl (fun K hK => ?_) AllReadyH.nil)
        ·
         go_simp
         refine (HC2.out _ HST.out.low).mono ?_
         rintro e X3 ⟨rfl, bx⟩
         have HSN : Hid (CkSt W1 none (some p7) X3) := HST.out.below bx
         refine hK.out _ _ (HSS.out _ HSN.out.low) (fun _ => ?_)
         clear hK K HST bx
         have HST := HSN
         clear HSN
         refine rd1 6 rfl (fun K hK => ?_)
         have HSN : Hid (CkSt W1 (some X3.heap.size) (some p7) (X3.alloc (.cells #[.bool false, .bool false, .bool false, .bool false, .bool false, .int .i64 0] 89))) := HST.out.make1
         go_simp
         refine hK.out _ _ (HSS.out _ HSN.out.low) (fun _ => ?_)
         clear hK K HST
         obtain ⟨p6, ho⟩ := exq (X3.heap.size)
         obtain ⟨X4, hX⟩ := exq (X3.alloc (.cells #[.bool false, .bool false, .bool false, .bool false, .bool false, .int .i64 0] 89))
         rw [← ho] at HSN ⊢
         rw [← hX] at HSN ⊢
         clear ho hX
         have HST := HSN
         clear HSN
         have hne : p6 ≠ p7 := fun e => HST.out.ne p6 rfl (by rw [e])
         obtain ⟨Y, hY⟩ := exq (((((((X4.setCell ⟨p6, 0, none⟩ (.bool q0)).setCell ⟨p6, 1, none⟩ (.bool q1)).setCell ⟨p6, 2, none⟩ (.bool q2)).setCell ⟨p6, 3, none⟩ (.bool q3)).setCell ⟨p6, 4, none⟩ (.bool q4)).setCell ⟨p6, 5, none⟩ (.int .i64 q5)))
         have HY := hsy hY
         have HR1 : Hid (CcAt X4 p6 cc0) := (HST.out.b1 p6 rfl).1
         have HYL : Hid (Below W1.heap.size W1 Y) := by show Below _ _ _; rw [hY]; exact below_putCc HST.out.low (HST.out.b1 p6 rfl).2 ⟨q0, q1, q2, q3, q4, q5⟩
         have HR2 : Hid (CcAt Y p7 cc0) := by show CcAt _ _ _; rw [hY]; exact (HST.out.b2 p7 rfl).1.same (putCcO _ _ _ ⟨q0, q1, q2, q3, q4, q5⟩ (fun e => hne e.symm))
         have HR3 : Hid (CcAt Y p6 ⟨q0, q1, q2, q3, q4, q5⟩) := by show CcAt _ _ _; rw [hY]; exact HR1.out.putAll ⟨q0, q1, q2, q3, q4, q5⟩
         obtain ⟨U, hU⟩ := exq (((((((Y.setCell ⟨p7, 0, none⟩ (.bool z0)).setCell ⟨p7, 1, none⟩ (.bool z1)).setCell ⟨p7, 2, none⟩ (.bool z2)).setCell ⟨p7, 3, none⟩ (.bool z3)).setCell ⟨p7, 4, none⟩ (.bool z4)).setCell ⟨p7, 5, none⟩ (.int .i64 z5)))
         have HU : Hid (((((((Y.setCell ⟨p7, 0, none⟩ (.bool z0)).setCell ⟨p7, 1, none⟩ (.bool z1)).setCell ⟨p7, 2, none⟩ (.bool z2)).setCell ⟨p7, 3, none⟩ (.bool z3)).setCell ⟨p7, 4, none⟩ (.bool z4)).setCell ⟨p7, 5, none⟩ (.int .i64 z5)) = U) := hU.symm
         have HF : Hid (Below W1.heap.size W1 U ∧ CcAt U p6 ⟨q0, q1, q2, q3, q4, q5⟩ ∧ CcAt U p7 ⟨z0, z1, z2, z3, z4, z5⟩) := by
          show _ ∧ _ ∧ _
          rw [hU]
          exact ⟨below_putCc HYL.out (HST.out.b2 p7 rfl).2 ⟨z0, z1, z2, z3, z4, z5⟩, HR3.out.same (putCcO _ _ _ ⟨z0, z1, z2, z3, z4, z5⟩ hne), HR2.out.putAll ⟨z0, z1, z2, z3, z4, z5⟩⟩
         have hs8 := HSS.out _ HYL.out
         have hs9 := HSS.out _ HF.out.1
         clear hY hU hne
         refine rd1 8 rfl (fun K hK => ?_)
         obtain ⟨x0, x1, x2, x3, x4, x5⟩ := HR1.out.cells
         have y0 := HR1.out.frozen 0
         have y1 := HR1.out.frozen 1
         have y2 := HR1.out.frozen 2
         have y3 := HR1.out.frozen 3
         have y4 := HR1.out.frozen 4
         have y5 := HR1.out.frozen 5
         clear HST HR1 HR3 HYL
         go_simp
         rw [HY.out]
         refine hK.out _ _ hs8 (fun _ => ?_)
         clear hK K x0 x1 x2 x3 x4 x5 y0 y1 y2 y3 y4 y5 HY
         refine rd1 9 rfl (fun K hK => ?_)
         obtain ⟨x0, x1, x2, x3, x4, x5⟩ := HR2.out.cells
         have y0 := HR2.out.frozen 0
         have y1 := HR2.out.frozen 1
         have y2 := HR2.out.frozen 2
         have y3 := HR2.out.frozen 3
         have y4 := HR2.out.frozen 4
         have y5 := HR2.out.frozen 5
         clear HR2
         go_simp
         rw [HU.out]
         refine hK.out _ _ hs9 (fun _ => ?_)
         clear hK K x0 x1 x2 x3 x4 x5 y0 y1 y2 y3 y4 y5 hs8 hs9 HU
         refine wpAnyH_done (by kernel_rfl) ?_ _
         go_wp2_with fail
         go_meet
         exact ⟨p6, p7, rfl, rfl, HF⟩
        ·
         have HSN : Hid (CkSt W1 (some X2.heap.size) (some p7) (X2.alloc (.cells #[.bool false, .bool false, .bool false, .bool false, .bool false, .int .i64 0] 89))) := HST.out.make1
         go_simp
         refine hK.out _ _ (HSS.out _ HSN.out.low) (fun _ => ?_)
         clear hK K HST
         obtain ⟨p6, ho⟩ := exq (X2.heap.size)
         obtain ⟨X3, hX⟩ := exq (X2.alloc (.cells #[.bool false, .bool false, .bool false, .bool false, .bool false, .int .i64 0] 89))
         rw [← ho] at HSN ⊢
         rw [← hX] at HSN ⊢
         clear ho hX
         have HST := HSN
         clear HSN
         refine rd1 5 rfl (fun K hK => ?_)
         go_simp
         refine (HC2.out _ HST.out.low).mono ?_
         rintro e X4 ⟨rfl, bx⟩
         have HSN : Hid (CkSt W1 (some p6) (some p7) X4) := HST.out.below bx
         refine hK.out _ _ (HSS.out _ HSN.out.low) (fun _ => ?_)
         clear hK K HST bx
         have HST := HSN
         clear HSN
         have hne : p6 ≠ p7 := fun e => HST.out.ne p6 rfl (by rw [e])
         obtain ⟨Y, hY⟩ := exq (((((((X4.setCell ⟨p6, 0, none⟩ (.bool q0)).setCell ⟨p6, 1, none⟩ (.bool q1)).setCell ⟨p6, 2, none⟩ (.bool q2)).setCell ⟨p6, 3, none⟩ (.bool q3)).setCell ⟨p6, 4, none⟩ (.bool q4)).setCell ⟨p6, 5, none⟩ (.int .i64 q5)))
         have HY := hsy hY
         have HR1 : Hid (CcAt X4 p6 cc0) := (HST.out.b1 p6 rfl).1
         have HYL : Hid (Below W1.heap.size W1 Y) := by show Below _ _ _; rw [hY]; exact below_putCc HST.out.low (HST.out.b1 p6 rfl).2 ⟨q0, q1, q2, q3, q4, q5⟩
         have HR2 : Hid (CcAt Y p7 cc0) := by show CcAt _ _ _; rw [hY]; exact (HST.out.b2 p7 rfl).1.same (putCcO _ _ _ ⟨q0, q1, q2, q3, q4, q5⟩ (fun e => hne e.symm))
         have HR3 : Hid (CcAt Y p6 ⟨q0, q1, q2, q3, q4, q5⟩) := by show CcAt _ _ _; rw [hY]; exact HR1.out.putAll ⟨q0, q1, q2, q3, q4, q5⟩
         obtain ⟨U, hU⟩ := exq (((((((Y.setCell ⟨p7, 0, none⟩ (.bool z0)).setCell ⟨p7, 1, none⟩ (.bool z1)).setCell ⟨p7, 2, none⟩ (.bool z2)).setCell ⟨p7, 3, none⟩ (.bool z3)).setCell ⟨p7, 4, none⟩ (.bool z4)).setCell ⟨p7, 5, none⟩ (.int .i64 z5)))
         have HU : Hid (((((((Y.setCell ⟨p7, 0, none⟩ (.bool z0)).setCell ⟨p7, 1, none⟩ (.bool z1)).setCell ⟨p7, 2, none⟩ (.bool z2)).setCell ⟨p7, 3, none⟩ (.bool z3)).setCell ⟨p7, 4, none⟩ (.bool z4)).setCell ⟨p7, 5, none⟩ (.int .i64 z5)) = U) := hU.symm
         have HF : Hid (Below W1.heap.size W1 U ∧ CcAt U p6 ⟨q0, q1, q2, q3, q4, q5⟩ ∧ CcAt U p7 ⟨z0, z1, z2, z3, z4, z5⟩) := by
          show _ ∧ _ ∧ _
          rw [hU]
          exact ⟨below_putCc HYL.out (HST.out.b2 p7 rfl).2 ⟨z0, z1, z2, z3, z4, z5⟩, HR3.out.same (putCcO _ _ _ ⟨z0, z1, z2, z3, z4, z5⟩ hne), HR2.out.putAll ⟨z0, z1, z2, z3, z4, z5⟩⟩
         have hs8 := HSS.out _ HYL.out
         have hs9 := HSS.out _ HF.out.1
         clear hY hU hne
         refine rd1 8 rfl (fun K hK => ?_)
         obtain ⟨x0, x1, x2, x3, x4, x5⟩ := HR1.out.cells
         have y0 := HR1.out.frozen 0
         have y1 := HR1.out.frozen 1
         have y2 := HR1.out.frozen 2
         have y3 := HR1.out.frozen 3
         have y4 := HR1.out.frozen 4
         have y5 := HR1.out.frozen 5
         clear HST HR1 HR3 HYL
         go_simp
         rw [HY.out]
         refine hK.out _ _ hs8 (fun _ => ?_)
         clear hK K x0 x1 x2 x3 x4 x5 y0 y1 y2 y3 y4 y5 HY
         refine rd1 9 rfl (fun K hK => ?_)
         obtain ⟨x0, x1, x2, x3, x4, x5⟩ := HR2.out.cells
         have y0 := HR2.out.frozen 0
         have y1 := HR2.out.frozen 1
         have y2 := HR2.out.frozen 2
         have y3 := HR2.out.frozen 3
         have y4 := HR2.out.frozen 4
         have y5 := HR2.out.frozen 5
         clear HR2
         go_simp
         rw [HU.out]
         refine hK.out _ _ hs9 (fun _ => ?_)
         clear hK K x0 x1 x2 x3 x4 x5 y0 y1 y2 y3 y4 y5 hs8 hs9 HU
         refine wpAnyH_done (by kernel_rfl) ?_ _
         go_wp2_with fail
         go_meet
         exact ⟨p6, p7, rfl, rfl, HF⟩
       ·
        have HSN : Hid (CkSt W1 (some X1.heap.size) (some p7) (X1.alloc (.cells #[.bool false, .bool false, .bool false, .bool false, .bool false, .int .i64 0] 89))) := HST.out.make1
        go_simp
        refine hK.out _ _ (HSS.out _ HSN.out.low) (fun _ => ?_)
        clear hK K HST
        obtain ⟨p6, ho⟩ := exq (X1.heap.size)
        obtain ⟨X2, hX⟩ := exq (X1.alloc (.cells #[.bool false, .bool false, .bool false, .bool false, .bool false, .int .i64 0] 89))
        rw [← ho] at HSN ⊢
        rw [← hX] at HSN ⊢
        clear ho hX
        have HST := HSN
        clear HSN
        refine rd1 2 rfl (fun K hK => ?_)
        go_simp
        refine (HC1.out _ HST.out.low).mono ?_
        rintro e X3 ⟨rfl, bx⟩
        have HSN : Hid (CkSt W1 (some p6) (some p7) X3) := HST.out.below bx
        refine hK.out _ _ (HSS.out _ HSN.out.low) (fun _ => ?_)
        clear hK K HST bx
        have HST := HSN
        clear HSN
        refine rd1 5 rfl (fun K hK => ?_)
        go_simp
        refine (HC2.out _ HST.out.low).mono ?_
        rintro e X4 ⟨rfl, bx⟩
        have HSN : Hid (CkSt W1 (some p6) (some p7) X4) := HST.out.below bx
        refine hK.out _ _ (HSS.out _ HSN.out.low) (fun _ => ?_)
        clear hK K HST bx
        have HST := HSN
        clear HSN
        have hne : p6 ≠ p7 := fun e => HST.out.ne p6 rfl (by rw [e])
        obtain ⟨Y, hY⟩ := exq (((((((X4.setCell ⟨p6, 0, none⟩ (.bool q0)).setCell ⟨p6, 1, none⟩ (.bool q1)).setCell ⟨p6, 2, none⟩ (.bool q2)).setCell ⟨p6, 3, none⟩ (.bool q3)).setCell ⟨p6, 4, none⟩ (.bool q4)).setCell ⟨p6, 5, none⟩ (.int .i64 q5)))
        have HY := hsy hY
        have HR1 : Hid (CcAt X4 p6 cc0) := (HST.out.b1 p6 rfl).1
        have HYL : Hid (Below W1.heap.size W1 Y) := by show Below _ _ _; rw [hY]; exact below_putCc HST.out.low (HST.out.b1 p6 rfl).2 ⟨q0, q1, q2, q3, q4, q5⟩
        have HR2 : Hid (CcAt Y p7 cc0) := by show CcAt _ _ _; rw [hY]; exact (HST.out.b2 p7 rfl).1.same (putCcO _ _ _ ⟨q0, q1, q2, q3, q4, q5⟩ (fun e => hne e.symm))
        have HR3 : Hid (CcAt Y p6 ⟨q0, q1, q2, q3, q4, q5⟩) := by show CcAt _ _ _; rw [hY]; exact HR1.out.putAll ⟨q0, q1, q2, q3, q4, q5⟩
        obtain ⟨U, hU⟩ := exq (((((((Y.setCell ⟨p7, 0, none⟩ (.bool z0)).setCell ⟨p7, 1, none⟩ (.bool z1)).setCell ⟨p7, 2, none⟩ (.bool z2)).setCell ⟨p7, 3, none⟩ (.bool z3)).setCell ⟨p7, 4, none⟩ (.bool z4)).setCell ⟨p7, 5, none⟩ (.int .i64 z5)))
        have HU : Hid (((((((Y.setCell ⟨p7, 0, none⟩ (.bool z0)).setCell ⟨p7, 1, none⟩ (.bool z1)).setCell ⟨p7, 2, none⟩ (.bool z2)).setCell ⟨p7, 3, none⟩ (.bool z3)).setCell ⟨p7, 4, none⟩ (.bool z4)).setCell ⟨p7, 5, none⟩ (.int .i64 z5)) = U) := hU.symm
        have HF : Hid (Below W1.heap.size W1 U ∧ CcAt U p6 ⟨q0, q1, q2, q3, q4, q5⟩ ∧ CcAt U p7 ⟨z0, z1, z2, z3, z4, z5⟩) := by
         show _ ∧ _ ∧ _
         rw [hU]
         exact ⟨below_putCc HYL.out (HST.out.b2 p7 rfl).2 ⟨z0, z1, z2, z3, z4, z5⟩, HR3.out.same (putCcO _ _ _ ⟨z0, z1, z2, z3, z4, z5⟩ hne), HR2.out.putAll ⟨z0, z1, z2, z3, z4, z5⟩⟩
        have hs8 := HSS.out _ HYL.out
        have hs9 := HSS.out _ HF.out.1
        clear hY hU hne
        refine rd1 8 rfl (fun K hK => ?_)
        obtain ⟨x0, x1, x2, x3, x4, x5⟩ := HR1.out.cells
        have y0 := HR1.out.frozen 0
        have y1 := HR1.out.frozen 1
        have y2 := HR1.out.frozen 2
        have y3 := HR1.out.frozen 3
        have y4 := HR1.out.frozen 4
        have y5 := HR1.out.frozen 5
        clear HST HR1 HR3 HYL
        go_simp
        rw [HY.out]
        refine hK.out _ _ hs8 (fun _ => ?_)
        clear hK K x0 x1 x2 x3 x4 x5 y0 y1 y2 y3 y4 y5 HY
        refine rd1 9 rfl (fun K hK => ?_)
        obtain ⟨x0, x1, x2, x3, x4, x5⟩ := HR2.out.cells
        have y0 := HR2.out.frozen 0
        have y1 := HR2.out.frozen 1
        have y2 := HR2.out.frozen 2
        have y3 := HR2.out.frozen 3
        have y4 := HR2.out.frozen 4
        have y5 := HR2.out.frozen 5
        clear HR2
        go_simp
        rw [HU.out]
        refine hK.out _ _ hs9 (fun _ => ?_)
        clear hK K x0 x1 x2 x3 x4 x5 y0 y1 y2 y3 y4 y5 hs8 hs9 HU
        refine wpAnyH_done (by kernel_rfl) ?_ _
        go_wp2_with fail
        go_meet
        exact ⟨p6, p7, rfl, rfl, HF⟩
     case rest =>
     obtain ⟨o1, o2, hs5, hs6, HF⟩ := hcut
     rw [hs5, hs6]
     obtain ⟨w5, hw5⟩ := exq wc
     rw [← hw5] at HF ⊢
     clear hs5 hs6 hw5 c2 d1 HST0
     have HB : Hid (Below w.heap.size w w5) := (HKEEP.out w5 HF.out.1).2.2.2
     obtain ⟨x0, _, _, _, _, _⟩ := HF.out.2.1.cells
     obtain ⟨y0, _, y2, _, y4, _⟩ := HF.out.2.2.cells
     dsimp only at x0 y0 y2 y4
     cases q0 with
     | true =>
      have HF : Hid (¬ MayP 1 p fs b 200 gs c) := fun h => nomatch (HQ.out.1 h).1
      go_wp2_with fail
      go_ret
      exact BoolIs.no HF.out HB.out
     | false =>
      cases z0 with
      | true =>
       have HF : Hid (¬ MayP 1 p fs b 200 gs c) := fun h => nomatch (HQ.out.1 h).2.1
       go_wp2_with fail
       go_ret
       exact BoolIs.no HF.out HB.out
      | false =>
       cases z2 with
       | true =>
        have HF : Hid (¬ MayP 1 p fs b 200 gs c) := fun h => nomatch (HQ.out.1 h).2.2.1
        go_wp2_with fail
        go_ret
        exact BoolIs.no HF.out HB.out
       | false =>
        cases z4 with
        | false =>
         have HF : Hid (¬ MayP 1 p fs b 200 gs c) := fun h => nomatch (HQ.out.1 h).2.2.2.1
         go_wp2_with fail
         go_ret
         exact BoolIs.no HF.out HB.out
        | true =>
         obtain ⟨_, k1⟩ := HSS.out w5 HF.out.1
         have hu5 := (HKEEP.out w5 HF.out.1).2.2.1
         have HF1 : Hid (Below W1.heap.size W1 w5) := HF.out.1
         clear HC1 HC2
         go_wp2_with fail
         refine (specVaryOf_any _ k base2 gs _ hu5 hk HG3.out).mono ?_
         rintro e w6 ⟨V, rfl, O, b6⟩
         obtain ⟨ov, cv, rfl, hx⟩ := texts_own O
         have HX : Hid (TextsA w6 ov (varyP gs).length (varyP gs)) := hx
         have HB6 : Hid (Below w.heap.size w w6) := (HKEEP.out w6 (HF1.out.trans (b6.mono HF1.out.size))).2.2.2
         obtain ⟨vl, hvl⟩ := exq (varyP gs)
         have HVZ : Hid (vl.length ≤ 1048577 ∧ ∀ i, i < vl.length → (textAt vl i).size ≤ maxLen) := by
          show _ ∧ _
          rw [hvl]
          have hle := splitL_le (getV gs varyName)
          have hg := HG3.out
          unfold varyP
          refine ⟨by rw [List.length_map]; omega, fun i hi => ?_⟩
          rw [List.length_map] at hi
          unfold textAt
          rw [List.getD_eq_getElem?_getD, List.getElem?_map, List.getElem?_eq_getElem hi]
          have := hle.2 _ (List.getElem_mem hi)
          show (lowerOf _).size ≤ _
          rw [lower_size]
          unfold maxLen
          omega
         rw [← hvl] at HX HQ ⊢
         clear O b6 hx hu5 k1 x0 y0 y2 y4 HF hvl
         go_wp2_with fail
         refine (l9Names_any ov vl.length cv vl _ HX.out (by have := HVZ.out.1; omega) HVZ.out.2).mono ?_
         rintro e w7 ⟨t, rfl, ht, b7⟩
         have HB7 : Hid (Below w.heap.size w w7) := HB6.out.trans (b7.mono HB6.out.size)
         have HT : Hid (t = true ↔ MayP 1 p fs b 200 gs c) := by
          show _ ↔ _
          rw [ht, HQ.out]
          simp
         clear b7 ht
         go_wp2_with fail
         go_ret
         exact ⟨t, rfl, HT.out, HB7.out⟩
    ·
     have hst2 : (st != 200) = true := by simpa using hst
     have HF : Hid (¬ MayP m p fs b st gs c) := fun h => hst h.1.2.2.2
     go_wp2_with fail
     go_ret
     exact BoolIs.no HF.out HB.out
   ·
    have hm2 : (m != 1) = true := by simpa using hm
    have HF : Hid (¬ MayP m p fs b st gs c) := fun h => hm h.1.2.2.1
    go_wp2_with fail
    go_ret
    exact BoolIs.no HF.out HB.out
end Go.Proofs.YtmcmeeibogkpaaaGreatDoorR
namespace Go.Proofs.YtmcmeeibogkpaaaGreatDoorR
open Go.RowKit
open Go.Lib hiding intOf
/-- What is kept: an object in memory of its own, or nothing. -/
def ObjOfIs (m : Int) (p : ByteArray) (fs : List (ByteArray × ByteArray)) (b : ByteArray) (st : Int) (gs : List (ByteArray × ByteArray)) (d : ByteArray) (t : Int) (vl yl : List ByteArray) (k : Nat) (w : World) (e : Ending) (w' : World) : Prop :=
 Below w.heap.size w w' ∧ (((MayP m p fs b st gs d ∧ ObjP p vl yl st gs d t) ∧ ∃ v1 v2 v3, e = .returned (.tuple #[.agg #[.string p, v1, v2, .int .i64 st, v3, .string d, .int .i64 t], .bool true]) ∧ ObjO w' w.heap.size v1 vl.length vl v2 yl.length yl v3 k gs) ∨ (¬ (MayP m p fs b st gs d ∧ ObjP p vl yl st gs d t) ∧ e = .returned (.tuple #[.agg #[.string ⟨#[]⟩, .slice none 0 0, .slice none 0 0, .int .i64 0, .slice none 0 0, .string ⟨#[]⟩, .int .i64 0], .bool false])))
theorem valOf_size {fs : List (ByteArray × ByteArray)} {n : Nat} (h : WalkF n fs) (hl : fs.length = n) (x : ByteArray) : (valOf fs x).size ≤ maxLen := by
 unfold valOf
 split
 ·
  unfold getV
  split
  · rename_i hin; exact (h _ (by omega)).2
  · unfold maxLen; decide
 · unfold maxLen; decide
theorem specObjOf_any (m : Int) (p : ByteArray) (v : Value) (b : ByteArray) (n base : Nat) (fs : List (ByteArray × ByteArray)) (st : Int) (u : Value) (d : ByteArray) (k base2 : Nat) (gs : List (ByteArray × ByteArray)) (t : Int) (vl yl : List ByteArray) (w : World) (hv : FieldsV w base v n fs) (hn : n ≤ 1999999) (hs1 : WalkF n fs) (hlf : fs.length = n) (hp : p.size ≤ maxLen) (hb : b.size ≤ maxLen) (hu : FieldsV w base2 u k gs) (hk : k ≤ 1999999) (hs2 : WalkF k gs) (hd : d.size ≤ maxLen) (hg1 : (getV fs ccName).size ≤ 1048576) (hg2 : (getV gs ccName).size ≤ 1048576) (hg3 : (getV gs varyName).size ≤ 1048576) (hvl : vl = varyP gs) (hyl : yl = valsP vl fs) :
  Calls Tryz.prog 124 #[.agg #[.int .i64 m, .string p, v, .string b], .agg #[.int .i64 st, u, .string d], .int .i64 t] w fun e w' => ObjOfIs m p fs b st gs d t vl yl k w e w' := by
 obtain ⟨oa, cap, rfl, _⟩ := hv.slice
 obtain ⟨ob, cb, rfl, _⟩ := hu.slice
 have HV1 : Hid (∀ W, Below w.heap.size w W → FieldsV W base (.slice oa n cap) n fs) := fun W h => hv.below h
 have HV2 : Hid (∀ W, Below w.heap.size w W → FieldsV W base2 (.slice ob k cb) k gs) := fun W h => hu.below h
 have HLG : Hid (gs.length = k) := hu.len
 have HS1 : Hid (WalkF n fs) := hs1
 have HS2 : Hid (WalkF k gs) := hs2
 have HPM : Hid (p.size ≤ maxLen) := hp
 have HBM : Hid (b.size ≤ maxLen) := hb
 have HDM : Hid (d.size ≤ maxLen) := hd
 have HG1 : Hid ((getV fs ccName).size ≤ 1048576) := hg1
 have HG2 : Hid ((getV gs ccName).size ≤ 1048576) := hg2
 have HG3 : Hid ((getV gs varyName).size ≤ 1048576) := hg3
 have HVL : Hid (varyP gs = vl) := hvl.symm
 have HYL : Hid (valsP vl fs = yl) := hyl.symm
 have HVZ : Hid (vl.length ≤ 1048577 ∧ ∀ i, i < vl.length → (textAt vl i).size ≤ maxLen) := by
  show _ ∧ _
  rw [hvl]
  have hle := splitL_le (getV gs varyName)
  have hg := HG3.out
  unfold varyP
  refine ⟨by rw [List.length_map]; omega, fun i hi => ?_⟩
  rw [List.length_map] at hi
  unfold textAt
  rw [List.getD_eq_getElem?_getD, List.getElem?_map, List.getElem?_eq_getElem hi]
  have := hle.2 _ (List.getElem_mem hi)
  show (lowerOf _).size ≤ _
  rw [lower_size]
  unfold maxLen
  omega
 have HYZ : Hid (yl.length = vl.length ∧ ∀ i, i < yl.length → (textAt yl i).size ≤ maxLen) := by
  show _ ∧ _
  rw [hyl]
  refine ⟨valsP_len vl fs, fun i hi => ?_⟩
  rw [valsP_len] at hi
  unfold textAt valsP
  rw [List.getD_eq_getElem?_getD, List.getElem?_map, List.getElem?_eq_getElem hi]
  exact valOf_size hs1 hlf _
 clear hv hu hs1 hs2 hp hb hd hg1 hg2 hg3 hvl hyl hlf
 have hb0 : Below w.heap.size w w := Below.refl _ _
 go_enter Tryz.func124, Tryz.ntmps124
 go_upto_region 1 with fail
 obtain ⟨qv1, hqv1⟩ := exq ((w).heap.size)
 obtain ⟨w1, hW1⟩ := exq ((w).alloc (.cells #[.int .i64 m, .string p, .slice oa n cap, .string b] 26))
 have hz1 : (w).heap.size = qv1 := hqv1.symm
 first | rw [← hW1, ← hqv1] | rw [← hW1]
 have hs1 := hsa hW1 hz1
 have bw := bal hW1
 have hb1 := hbt hb0 bw
 have HBv1_1 := hnew hW1 hz1
 clear hb0 bw hW1 hz1
 obtain ⟨qv2, hqv2⟩ := exq (qv1 + 1)
 obtain ⟨w2, hW2⟩ := exq ((w1).alloc (.cells #[.int .i64 st, .slice ob k cb, .string d] 29))
 have hz2 : (w1).heap.size = qv2 := by rw [hqv2]; exact hs1
 first | rw [← hW2, ← hqv2] | rw [← hW2]
 have hs2 := hsa hW2 hz2
 have bw := bal hW2
 have hb2 := hbt hb1 bw
 have HBv1_2 := hblk HBv1_1 bw
 have HBv2_2 := hnew hW2 hz2
 clear hb1 HBv1_1 bw hW2 hz2
 obtain ⟨qv3, hqv3⟩ := exq (qv2 + 1)
 obtain ⟨w3, hW3⟩ := exq ((w2).alloc (.cells #[.string ⟨#[]⟩, .slice none 0 0, .slice none 0 0, .int .i64 0, .slice none 0 0, .string ⟨#[]⟩, .int .i64 0] 31))
 have hz3 : (w2).heap.size = qv3 := by rw [hqv3]; exact hs2
 first | rw [← hW3, ← hqv3] | rw [← hW3]
 have hs3 := hsa hW3 hz3
 have bw := bal hW3
 have hb3 := hbt hb2 bw
 have HBv1_3 := hblk HBv1_2 bw
 have HBv2_3 := hblk HBv2_2 bw
 have HNv1v3 : Hid (qv1 ≠ qv3) := fun e => by have h1 := (Array.getElem?_eq_some_iff.1 HBv1_2.out).1; omega
 have HNv2v3 : Hid (qv2 ≠ qv3) := fun e => by have h1 := (Array.getElem?_eq_some_iff.1 HBv2_2.out).1; omega
 have HBv3_3 := hnew hW3 hz3
 have HGv3 := hge hz3 hb2
 clear hb2 HBv1_2 HBv2_2 bw hW3 hz3
 clear hs3 hqv3 hs2 hqv2 hs1 hqv1
 have cv1_0 := (k4c HBv1_3).1
 have cv1_1 := (k4c HBv1_3).2.1
 have cv1_2 := (k4c HBv1_3).2.2.1
 have cv1_3 := (k4c HBv1_3).2.2.2
 have cv2_0 := (k3c HBv2_3).1
 have cv2_1 := (k3c HBv2_3).2.1
 have cv2_2 := (k3c HBv2_3).2.2
 go_wp2_with fail
 refine (specMayKeep_any m p _ b n base fs st _ d k base2 gs _ (HV1.out _ hb3) (by omega) HS1.out HPM.out HBM.out (HV2.out _ hb3) (by omega) HS2.out HDM.out HG1.out HG2.out HG3.out).mono ?_
 rintro e w4 ⟨u1, rfl, htu1, bw⟩
 have hb4 := hbt hb3 bw
 have HBv1_4 := hblk HBv1_3 bw
 have HBv2_4 := hblk HBv2_3 bw
 have HBv3_4 := hblk HBv3_3 bw
 clear hb3 HBv1_3 HBv2_3 HBv3_3 bw
 clear cv1_0 cv1_1 cv1_2 cv1_3 cv2_0 cv2_1 cv2_2
 cases u1 with
 | false =>
  have HF : Hid (¬ (MayP m p fs b st gs d ∧ ObjP p vl yl st gs d t)) := fun h => nomatch htu1.2 h.1
  clear htu1
  have cv3_0 := (k7c HBv3_4).1
  have fcv3_0 := hfz HBv3_4 0
  have cv3_1 := (k7c HBv3_4).2.1
  have fcv3_1 := hfz HBv3_4 1
  have cv3_2 := (k7c HBv3_4).2.2.1
  have fcv3_2 := hfz HBv3_4 2
  have cv3_3 := (k7c HBv3_4).2.2.2.1
  have fcv3_3 := hfz HBv3_4 3
  have cv3_4 := (k7c HBv3_4).2.2.2.2.1
  have fcv3_4 := hfz HBv3_4 4
  have cv3_5 := (k7c HBv3_4).2.2.2.2.2.1
  have fcv3_5 := hfz HBv3_4 5
  have cv3_6 := (k7c HBv3_4).2.2.2.2.2.2
  have fcv3_6 := hfz HBv3_4 6
  go_wp2_with fail
  obtain ⟨w5, hW5⟩ := exq ((w4).setCell ⟨qv3, 0, none⟩ (.string ⟨#[]⟩))
  rw [← hW5]
  have hb5 : Below w.heap.size w (w5) := by rw [hW5]; exact (hb4.setCell (p := ⟨qv3, 0, none⟩) HGv3.out _)
  have HM5 : Hid ((w4).heap.size ≤ w5.heap.size) := by show _ ≤ _; rw [hW5]; simp
  have HBv1_5 := hset hW5 HNv1v3.out HBv1_4
  have HBv2_5 := hset hW5 HNv2v3.out HBv2_4
  have HBv3_5 : Hid ((w5).heap[qv3]? = some (.cells #[.string ⟨#[]⟩, .slice none 0 0, .slice none 0 0, .int .i64 0, .slice none 0 0, .string ⟨#[]⟩, .int .i64 0] 31)) := by show _ = _; rw [hW5]; have h := heap_set _ _ 0 _ _ _ (.string ⟨#[]⟩) HBv3_4.out; simpa using h
  clear hb4 HBv1_4 HBv2_4 HBv3_4 hW5
  obtain ⟨w6, hW6⟩ := exq ((w5).setCell ⟨qv3, 1, none⟩ (.slice none 0 0))
  rw [← hW6]
  have hb6 : Below w.heap.size w (w6) := by rw [hW6]; exact (hb5.setCell (p := ⟨qv3, 1, none⟩) HGv3.out _)
  have HM6 : Hid ((w5).heap.size ≤ w6.heap.size) := by show _ ≤ _; rw [hW6]; simp
  have HBv1_6 := hset hW6 HNv1v3.out HBv1_5
  have HBv2_6 := hset hW6 HNv2v3.out HBv2_5
  have HBv3_6 : Hid ((w6).heap[qv3]? = some (.cells #[.string ⟨#[]⟩, .slice none 0 0, .slice none 0 0, .int .i64 0, .slice none 0 0, .string ⟨#[]⟩, .int .i64 0] 31)) := by show _ = _; rw [hW6]; have h := heap_set _ _ 1 _ _ _ (.slice none 0 0) HBv3_5.out; simpa using h
  clear hb5 HBv1_5 HBv2_5 HBv3_5 hW6
  obtain ⟨w7, hW7⟩ := exq ((w6).setCell ⟨qv3, 2, none⟩ (.slice none 0 0))
  rw [← hW7]
  have hb7 : Below w.heap.size w (w7) := by rw [hW7]; exact (hb6.setCell (p := ⟨qv3, 2, none⟩) HGv3.out _)
  have HM7 : Hid ((w6).heap.size ≤ w7.heap.size) := by show _ ≤ _; rw [hW7]; simp
  have HBv1_7 := hset hW7 HNv1v3.out HBv1_6
  have HBv2_7 := hset hW7 HNv2v3.out HBv2_6
  have HBv3_7 : Hid ((w7).heap[qv3]? = some (.cells #[.string ⟨#[]⟩, .slice none 0 0, .slice none 0 0, .int .i64 0, .slice none 0 0, .string ⟨#[]⟩, .int .i64 0] 31)) := by show _ = _; rw [hW7]; have h := heap_set _ _ 2 _ _ _ (.slice none 0 0) HBv3_6.out; simpa using h
  clear hb6 HBv1_6 HBv2_6 HBv3_6 hW7
  obtain ⟨w8, hW8⟩ := exq ((w7).setCell ⟨qv3, 3, none⟩ (.int .i64 0))
  rw [← hW8]
  have hb8 : Below w.heap.size w (w8) := by rw [hW8]; exact (hb7.setCell (p := ⟨qv3, 3, none⟩) HGv3.out _)
  have HM8 : Hid ((w7).heap.size ≤ w8.heap.size) := by show _ ≤ _; rw [hW8]; simp
  have HBv1_8 := hset hW8 HNv1v3.out HBv1_7
  have HBv2_8 := hset hW8 HNv2v3.out HBv2_7
  have HBv3_8 : Hid ((w8).heap[qv3]? = some (.cells #[.string ⟨#[]⟩, .slice none 0 0, .slice none 0 0, .int .i64 0, .slice none 0 0, .string ⟨#[]⟩, .int .i64 0] 31)) := by show _ = _; rw [hW8]; have h := heap_set _ _ 3 _ _ _ (.int .i64 0) HBv3_7.out; simpa using h
  clear hb7 HBv1_7 HBv2_7 HBv3_7 hW8
  obtain ⟨w9, hW9⟩ := exq ((w8).setCell ⟨qv3, 4, none⟩ (.slice none 0 0))
  rw [← hW9]
  have hb9 : Below w.heap.size w (w9) := by rw [hW9]; exact (hb8.setCell (p := ⟨qv3, 4, none⟩) HGv3.out _)
  have HM9 : Hid ((w8).heap.size ≤ w9.heap.size) := by show _ ≤ _; rw [hW9]; simp
  have HBv1_9 := hset hW9 HNv1v3.out HBv1_8
  have HBv2_9 := hset hW9 HNv2v3.out HBv2_8
  have HBv3_9 : Hid ((w9).heap[qv3]? = some (.cells #[.string ⟨#[]⟩, .slice none 0 0, .slice none 0 0, .int .i64 0, .slice none 0 0, .string ⟨#[]⟩, .int .i64 0] 31)) := by show _ = _; rw [hW9]; have h := heap_set _ _ 4 _ _ _ (.slice none 0 0) HBv3_8.out; simpa using h
  clear hb8 HBv1_8 HBv2_8 HBv3_8 hW9
  obtain ⟨w10, hW10⟩ := exq ((w9).setCell ⟨qv3, 5, none⟩ (.string ⟨#[]⟩))
  rw [← hW10]
  have hb10 : Below w.heap.size w (w10) := by rw [hW10]; exact (hb9.setCell (p := ⟨qv3, 5, none⟩) HGv3.out _)
  have HM10 : Hid ((w9).heap.size ≤ w10.heap.size) := by show _ ≤ _; rw [hW10]; simp
  have HBv1_10 := hset hW10 HNv1v3.out HBv1_9
  have HBv2_10 := hset hW10 HNv2v3.out HBv2_9
  have HBv3_10 : Hid ((w10).heap[qv3]? = some (.cells #[.string ⟨#[]⟩, .slice none 0 0, .slice none 0 0, .int .i64 0, .slice none 0 0, .string ⟨#[]⟩, .int .i64 0] 31)) := by show _ = _; rw [hW10]; have h := heap_set _ _ 5 _ _ _ (.string ⟨#[]⟩) HBv3_9.out; simpa using h
  clear hb9 HBv1_9 HBv2_9 HBv3_9 hW10
  obtain ⟨w11, hW11⟩ := exq ((w10).setCell ⟨qv3, 6, none⟩ (.int .i64 0))
  rw [← hW11]
  have hb11 : Below w.heap.size w (w11) := by rw [hW11]; exact (hb10.setCell (p := ⟨qv3, 6, none⟩) HGv3.out _)
  have HM11 : Hid ((w10).heap.size ≤ w11.heap.size) := by show _ ≤ _; rw [hW11]; simp
  have HBv1_11 := hset hW11 HNv1v3.out HBv1_10
  have HBv2_11 := hset hW11 HNv2v3.out HBv2_10
  have HBv3_11 : Hid ((w11).heap[qv3]? = some (.cells #[.string ⟨#[]⟩, .slice none 0 0, .slice none 0 0, .int .i64 0, .slice none 0 0, .string ⟨#[]⟩, .int .i64 0] 31)) := by show _ = _; rw [hW11]; have h := heap_set _ _ 6 _ _ _ (.int .i64 0) HBv3_10.out; simpa using h
  clear hb10 HBv1_10 HBv2_10 HBv3_10 hW11
  have kv3_0 := (k7c HBv3_11).1
  have kv3_1 := (k7c HBv3_11).2.1
  have kv3_2 := (k7c HBv3_11).2.2.1
  have kv3_3 := (k7c HBv3_11).2.2.2.1
  have kv3_4 := (k7c HBv3_11).2.2.2.2.1
  have kv3_5 := (k7c HBv3_11).2.2.2.2.2.1
  have kv3_6 := (k7c HBv3_11).2.2.2.2.2.2
  refine bodyPost_ret (v := .tuple #[.agg #[.string ⟨#[]⟩, .slice none 0 0, .slice none 0 0, .int .i64 0, .slice none 0 0, .string ⟨#[]⟩, .int .i64 0], .bool false]) (by simp [results, Tryz.results124, go_sem, kv3_0, kv3_1, kv3_2, kv3_3, kv3_4, kv3_5, kv3_6]) rfl ?_
  exact ⟨hb11, .inr ⟨HF.out, rfl⟩⟩
 | true =>
  have HMK : Hid (MayP m p fs b st gs d) := htu1.1 rfl
  clear htu1
  have cv2_1 := (k3c HBv2_4).2.1
  go_wp2_with fail
  refine (specVaryOf_any _ k base2 gs _ (HV2.out _ hb4) (by omega) HG3.out).mono ?_
  rintro e w5 ⟨vv, rfl, ownX, bw⟩
  obtain ⟨oX, pX, rfl⟩ := slice_of_owns ownX
  rw [HVL.out] at ownX ⊢
  have hb5 := hbt hb4 bw
  have HM5 := hsz bw
  have HBv1_5 := hblk HBv1_4 bw
  have HBv2_5 := hblk HBv2_4 bw
  have HBv3_5 := hblk HBv3_4 bw
  have HOX_5 := hwd ownX hb4.size
  have HIX := hhi ownX
  clear ownX
  clear hb4 HBv1_4 HBv2_4 HBv3_4 bw
  clear cv2_1
  go_upto_region 4 with fail
  have HSS : Hid (∀ W, Below w5.heap.size w5 W → W.heap[qv1]? = some (.cells #[.int .i64 m, .string p, .slice oa n cap, .string b] 26) ∧ W.heap[qv2]? = some (.cells #[.int .i64 st, .slice ob k cb, .string d] 29)) := fun W h => ⟨blk_below HBv1_5.out h, blk_below HBv2_5.out h⟩
  go_cut [9] (fun sx wx => ∃ (q : Nat) (oY : Option Addr) (pY : Nat) (oG : Option Addr) (pG : Nat), sx = .pointer (some ⟨q, 0, none⟩) ∧ Hid (Below w5.heap.size w5 wx ∧ wx.heap[q]? = some (.cells #[.string p, .slice oX vl.length pX, .slice oY yl.length pY, .int .i64 st, .slice oG k pG, .string d, .int .i64 t] 31) ∧ w5.heap.size ≤ q ∧ (wx).ownsRow w5.heap.size 9 1 (.slice oY yl.length pY) yl.length (yl.map Value.string) ∧ (wx).ownsRow w5.heap.size 74 2 (.slice oG k pG) k (flatF gs)))
  case first =>
   refine wp_region_held_drew (S := fun W => W.heap[qv1]? = some (.cells #[.int .i64 m, .string p, .slice oa n cap, .string b] 26) ∧ W.heap[qv2]? = some (.cells #[.int .i64 st, .slice ob k cb, .string d] 29)) (by kernel_rfl) (HSS.out _ (Below.refl _ _).drew) (fun _ => ?_)
   obtain ⟨w6, hX⟩ := exq w5.drew
   have bw := bdr hX
   rw [← hX]
   have hb6 := hbt hb5 bw
   have HM6 := hsz bw
   have HOX_6 := hown HOX_5 bw
   have HBv1_6 := hblk HBv1_5 bw
   have HBv2_6 := hblk HBv2_5 bw
   have HBv3_6 := hblk HBv3_5 bw
   have HX_6 := hid bw
   clear bw hX
   refine tkP 0 (.pointer (some ⟨qv1, 1, none⟩)) 18 rfl rfl (HSS.out _ HX_6.out) ?_
   go_frame
   refine tkL 1 (.string p) 19 rfl rfl (Or.inl ⟨by rfl, by intro W hW; obtain ⟨hhv1, hhv2⟩ := hW; have y1 := (cell_of hhv1 1).trans rfl; go_simp⟩) (HSS.out _ HX_6.out) ?_
   go_frame
   refine tkP 2 (.slice oX vl.length pX) 20 rfl rfl (HSS.out _ HX_6.out) ?_
   go_frame
   refine tkP 3 (.slice oX vl.length pX) 21 rfl rfl (HSS.out _ HX_6.out) ?_
   go_frame
   refine tkP 4 (.pointer (some ⟨qv1, 2, none⟩)) 22 rfl rfl (HSS.out _ HX_6.out) ?_
   go_frame
   refine tkL 5 (.slice oa n cap) 23 rfl rfl (Or.inl ⟨by rfl, by intro W hW; obtain ⟨hhv1, hhv2⟩ := hW; have y2 := (cell_of hhv1 2).trans rfl; go_simp⟩) (HSS.out _ HX_6.out) ?_
   go_frame
   refine tkL 7 (.agg #[.int .i64 st, .slice ob k cb, .string d]) 25 rfl rfl (Or.inl ⟨by rfl, by intro W hW; obtain ⟨hhv1, hhv2⟩ := hW; have y0 := (cell_of hhv2 0).trans rfl; have y1 := (cell_of hhv2 1).trans rfl; have y2 := (cell_of hhv2 2).trans rfl; go_simp⟩) (HSS.out _ HX_6.out) ?_
   go_frame
   refine tkP 9 (.int .i64 t) 27 rfl rfl (HSS.out _ HX_6.out) ?_
   go_frame
   refine wpAnyH_ready (rs := [6, 11]) (by kernel_rfl) (by simp) ?_
   refine AllReadyH.cons rfl (fun K hK => ?_) (AllReadyH.cons rfl (fun K hK => ?_) AllReadyH.nil)
   ·
    go_simp
    refine (specValuesOf_any _ _ _ vl _ n base fs _ (texts_view HOX_6.out) HVZ.out.1 (HV1.out _ hb6) (by omega)).mono ?_
    rintro e w7 ⟨vv, rfl, ownY, bw⟩
    obtain ⟨oY, pY, rfl⟩ := slice_of_owns ownY
    rw [HYL.out] at ownY ⊢
    have hb7 := hbt hb6 bw
    have HM7 := hsz bw
    have HOX_7 := hown HOX_6 bw
    have HBv1_7 := hblk HBv1_6 bw
    have HBv2_7 := hblk HBv2_6 bw
    have HBv3_7 := hblk HBv3_6 bw
    have HOY_7 := hwd ownY hb6.size
    have LOY := hlo ownY
    have HIY := hhi ownY
    clear ownY
    clear hb6 HOX_6 HBv1_6 HBv2_6 HBv3_6
    have HX_7 := hxt HX_6 bw
    have HRXY_7 : Hid ((w7).ownsRow w5.heap.size 9 1 (.slice oY yl.length pY) yl.length (yl.map Value.string)) := owns_lift HOY_7.out (fun g hg => Nat.le_trans HX_6.out.size (LOY.out g hg))
    refine hK.out _ _ (HSS.out _ HX_7.out) (fun _ => ?_)
    clear hK K bw HX_6
    refine wpAnyH_ready (rs := [8, 11]) (by kernel_rfl) (by simp) ?_
    refine AllReadyH.cons rfl (fun K hK => ?_) (AllReadyH.cons rfl (fun K hK => ?_) AllReadyH.nil)
    ·
     go_simp
     refine (l9Resp_any st _ d k base2 gs _ (HV2.out _ hb7) (by omega)).mono ?_
     rintro e w8 ⟨vv, rfl, ownG, bw⟩
     obtain ⟨oG, pG, rfl⟩ := slice_of_owns ownG
     rw [HLG.out] at ownG ⊢
     have hb8 := hbt hb7 bw
     have HM8 := hsz bw
     have HOX_8 := hown HOX_7 bw
     have HOY_8 := hown HOY_7 bw
     have HBv1_8 := hblk HBv1_7 bw
     have HBv2_8 := hblk HBv2_7 bw
     have HBv3_8 := hblk HBv3_7 bw
     have HOG_8 := hwd ownG hb7.size
     have LOG := hlo ownG
     have HIG := hhi ownG
     clear ownG
     clear hb7 HOX_7 HOY_7 HBv1_7 HBv2_7 HBv3_7
     have HX_8 := hxt HX_7 bw
     have HRXY_8 := hown HRXY_7 bw
     have HRXG_8 : Hid ((w8).ownsRow w5.heap.size 74 2 (.slice oG k pG) k (flatF gs)) := owns_lift HOG_8.out (fun g hg => Nat.le_trans HX_7.out.size (LOG.out g hg))
     refine hK.out _ _ (HSS.out _ HX_8.out) (fun _ => ?_)
     clear hK K bw HX_7
     refine tkP 10 (.agg #[.string p, .slice oX vl.length pX, .slice oY yl.length pY, .int .i64 st, .slice oG k pG, .string d, .int .i64 t]) 28 rfl rfl (HSS.out _ HX_8.out) ?_
     go_frame
     refine rd1 11 rfl (fun K hK => ?_)
     go_simp
     have HXA : Hid (Below w5.heap.size w5 (w8.alloc (.cells #[.string ⟨#[]⟩, .slice none 0 0, .slice none 0 0, .int .i64 0, .slice none 0 0, .string ⟨#[]⟩, .int .i64 0] 31))) := HX_8.out.alloc HX_8.out.size _
     refine hK.out _ _ (HSS.out _ HXA.out) (fun _ => ?_)
     clear hK K HXA
     obtain ⟨pa, ho⟩ := exq (w8.heap.size)
     obtain ⟨w9, hXj⟩ := exq (w8.alloc (.cells #[.string ⟨#[]⟩, .slice none 0 0, .slice none 0 0, .int .i64 0, .slice none 0 0, .string ⟨#[]⟩, .int .i64 0] 31))
     rw [← ho, ← hXj]
     have HGA : Hid (w5.heap.size ≤ pa) := by show _ ≤ _; rw [ho]; exact HX_8.out.size
     have bw := bal hXj
     have hb9 := hbt hb8 bw
     have HM9 := hsz bw
     have HOX_9 := hown HOX_8 bw
     have HOY_9 := hown HOY_8 bw
     have HOG_9 := hown HOG_8 bw
     have HBv1_9 := hblk HBv1_8 bw
     have HBv2_9 := hblk HBv2_8 bw
     have HBv3_9 := hblk HBv3_8 bw
     have HX_9 := hxt HX_8 bw
     have HRXY_9 := hown HRXY_8 bw
     have HRXG_9 := hown HRXG_8 bw
     have HPA_9 : Hid (w9.heap[pa]? = some (.cells #[.string ⟨#[]⟩, .slice none 0 0, .slice none 0 0, .int .i64 0, .slice none 0 0, .string ⟨#[]⟩, .int .i64 0] 31)) := by show _ = _; rw [hXj, ho]; exact heap_alloc_new _ _
     clear hb8 HOX_8 HOY_8 HOG_8 HBv1_8 HBv2_8 HBv3_8 bw ho hXj HX_8
     refine rd1 12 rfl (fun K hK => ?_)
     have ce0 := (k7c HPA_9).1
     have fe0 := hfz HPA_9 0
     have ce1 := (k7c HPA_9).2.1
     have fe1 := hfz HPA_9 1
     have ce2 := (k7c HPA_9).2.2.1
     have fe2 := hfz HPA_9 2
     have ce3 := (k7c HPA_9).2.2.2.1
     have fe3 := hfz HPA_9 3
     have ce4 := (k7c HPA_9).2.2.2.2.1
     have fe4 := hfz HPA_9 4
     have ce5 := (k7c HPA_9).2.2.2.2.2.1
     have fe5 := hfz HPA_9 5
     have ce6 := (k7c HPA_9).2.2.2.2.2.2
     have fe6 := hfz HPA_9 6
     obtain ⟨w10, hY⟩ := exq ((((((((w9.setCell ⟨pa, 0, none⟩ (.string p)).setCell ⟨pa, 1, none⟩ (.slice oX vl.length pX)).setCell ⟨pa, 2, none⟩ (.slice oY yl.length pY)).setCell ⟨pa, 3, none⟩ (.int .i64 st)).setCell ⟨pa, 4, none⟩ (.slice oG k pG)).setCell ⟨pa, 5, none⟩ (.string d)).setCell ⟨pa, 6, none⟩ (.int .i64 t)))
     have HY := hsy hY
     have HX_10 : Hid (Below w5.heap.size w5 w10) := by show Below _ _ _; rw [hY]; exact (((((((HX_9.out.setCell (p := ⟨pa, 0, none⟩) HGA.out _).setCell (p := ⟨pa, 1, none⟩) HGA.out _).setCell (p := ⟨pa, 2, none⟩) HGA.out _).setCell (p := ⟨pa, 3, none⟩) HGA.out _).setCell (p := ⟨pa, 4, none⟩) HGA.out _).setCell (p := ⟨pa, 5, none⟩) HGA.out _).setCell (p := ⟨pa, 6, none⟩) HGA.out _)
     have HPA_10 : Hid (w10.heap[pa]? = some (.cells #[.string p, .slice oX vl.length pX, .slice oY yl.length pY, .int .i64 st, .slice oG k pG, .string d, .int .i64 t] 31)) := by show _ = _; rw [hY]; have h := (heap_set _ pa 6 _ _ _ (.int .i64 t) (heap_set _ pa 5 _ _ _ (.string d) (heap_set _ pa 4 _ _ _ (.slice oG k pG) (heap_set _ pa 3 _ _ _ (.int .i64 st) (heap_set _ pa 2 _ _ _ (.slice oY yl.length pY) (heap_set _ pa 1 _ _ _ (.slice oX vl.length pX) (heap_set _ pa 0 _ _ _ (.string p) HPA_9.out))))))); simpa using h
     have HRXY_10 : Hid ((w10).ownsRow w5.heap.size 9 1 (.slice oY yl.length pY) yl.length (yl.map Value.string)) := by show World.ownsRow _ _ _ _ _ _ _; rw [hY]; exact owns_same HRXY_9.out (fun g hg => by have hne := own_ne HRXY_9.out HPA_9.out (by decide) g hg; rw [heap_setCell_other _ _ g _ hne, heap_setCell_other _ _ g _ hne, heap_setCell_other _ _ g _ hne, heap_setCell_other _ _ g _ hne, heap_setCell_other _ _ g _ hne, heap_setCell_other _ _ g _ hne, heap_setCell_other _ _ g _ hne])
     have HRXG_10 : Hid ((w10).ownsRow w5.heap.size 74 2 (.slice oG k pG) k (flatF gs)) := by show World.ownsRow _ _ _ _ _ _ _; rw [hY]; exact owns_same HRXG_9.out (fun g hg => by have hne := own_ne HRXG_9.out HPA_9.out (by decide) g hg; rw [heap_setCell_other _ _ g _ hne, heap_setCell_other _ _ g _ hne, heap_setCell_other _ _ g _ hne, heap_setCell_other _ _ g _ hne, heap_setCell_other _ _ g _ hne, heap_setCell_other _ _ g _ hne, heap_setCell_other _ _ g _ hne])
     clear hY hb9 HOX_9 HOY_9 HOG_9 HBv1_9 HBv2_9 HBv3_9
     go_simp
     rw [HY.out]
     refine hK.out _ _ (HSS.out _ HX_10.out) (fun _ => ?_)
     clear hK K HY ce0 fe0 ce1 fe1 ce2 fe2 ce3 fe3 ce4 fe4 ce5 fe5 ce6 fe6
     refine wpAnyH_done (by kernel_rfl) ?_ _
     go_wp2_with fail
     go_meet
     exact ⟨pa, oY, pY, oG, pG, rfl, ⟨HX_10.out, HPA_10.out, HGA.out, HRXY_10.out, HRXG_10.out⟩⟩
    ·
     go_simp
     have HXA : Hid (Below w5.heap.size w5 (w7.alloc (.cells #[.string ⟨#[]⟩, .slice none 0 0, .slice none 0 0, .int .i64 0, .slice none 0 0, .string ⟨#[]⟩, .int .i64 0] 31))) := HX_7.out.alloc HX_7.out.size _
     refine hK.out _ _ (HSS.out _ HXA.out) (fun _ => ?_)
     clear hK K HXA
     obtain ⟨pa, ho⟩ := exq (w7.heap.size)
     obtain ⟨w8, hXj⟩ := exq (w7.alloc (.cells #[.string ⟨#[]⟩, .slice none 0 0, .slice none 0 0, .int .i64 0, .slice none 0 0, .string ⟨#[]⟩, .int .i64 0] 31))
     rw [← ho, ← hXj]
     have HGA : Hid (w5.heap.size ≤ pa) := by show _ ≤ _; rw [ho]; exact HX_7.out.size
     have bw := bal hXj
     have hb8 := hbt hb7 bw
     have HM8 := hsz bw
     have HOX_8 := hown HOX_7 bw
     have HOY_8 := hown HOY_7 bw
     have HBv1_8 := hblk HBv1_7 bw
     have HBv2_8 := hblk HBv2_7 bw
     have HBv3_8 := hblk HBv3_7 bw
     have HX_8 := hxt HX_7 bw
     have HRXY_8 := hown HRXY_7 bw
     have HPA_8 : Hid (w8.heap[pa]? = some (.cells #[.string ⟨#[]⟩, .slice none 0 0, .slice none 0 0, .int .i64 0, .slice none 0 0, .string ⟨#[]⟩, .int .i64 0] 31)) := by show _ = _; rw [hXj, ho]; exact heap_alloc_new _ _
     clear hb7 HOX_7 HOY_7 HBv1_7 HBv2_7 HBv3_7 bw ho hXj HX_7
     refine rd1 8 rfl (fun K hK => ?_)
     go_simp
     refine (l9Resp_any st _ d k base2 gs _ (HV2.out _ hb8) (by omega)).mono ?_
     rintro e w9 ⟨vv, rfl, ownG, bw⟩
     obtain ⟨oG, pG, rfl⟩ := slice_of_owns ownG
     rw [HLG.out] at ownG ⊢
     have hb9 := hbt hb8 bw
     have HM9 := hsz bw
     have HOX_9 := hown HOX_8 bw
     have HOY_9 := hown HOY_8 bw
     have HBv1_9 := hblk HBv1_8 bw
     have HBv2_9 := hblk HBv2_8 bw
     have HBv3_9 := hblk HBv3_8 bw
     have HOG_9 := hwd ownG hb8.size
     have LOG := hlo ownG
     have HIG := hhi ownG
     clear ownG
     clear hb8 HOX_8 HOY_8 HBv1_8 HBv2_8 HBv3_8
     have HX_9 := hxt HX_8 bw
     have HPA_9 := hblk HPA_8 bw
     have HRXY_9 := hown HRXY_8 bw
     have HRXG_9 : Hid ((w9).ownsRow w5.heap.size 74 2 (.slice oG k pG) k (flatF gs)) := owns_lift HOG_9.out (fun g hg => Nat.le_trans HX_8.out.size (LOG.out g hg))
     refine hK.out _ _ (HSS.out _ HX_9.out) (fun _ => ?_)
     clear hK K bw HX_8
     refine tkP 10 (.agg #[.string p, .slice oX vl.length pX, .slice oY yl.length pY, .int .i64 st, .slice oG k pG, .string d, .int .i64 t]) 28 rfl rfl (HSS.out _ HX_9.out) ?_
     go_frame
     refine rd1 12 rfl (fun K hK => ?_)
     have ce0 := (k7c HPA_9).1
     have fe0 := hfz HPA_9 0
     have ce1 := (k7c HPA_9).2.1
     have fe1 := hfz HPA_9 1
     have ce2 := (k7c HPA_9).2.2.1
     have fe2 := hfz HPA_9 2
     have ce3 := (k7c HPA_9).2.2.2.1
     have fe3 := hfz HPA_9 3
     have ce4 := (k7c HPA_9).2.2.2.2.1
     have fe4 := hfz HPA_9 4
     have ce5 := (k7c HPA_9).2.2.2.2.2.1
     have fe5 := hfz HPA_9 5
     have ce6 := (k7c HPA_9).2.2.2.2.2.2
     have fe6 := hfz HPA_9 6
     obtain ⟨w10, hY⟩ := exq ((((((((w9.setCell ⟨pa, 0, none⟩ (.string p)).setCell ⟨pa, 1, none⟩ (.slice oX vl.length pX)).setCell ⟨pa, 2, none⟩ (.slice oY yl.length pY)).setCell ⟨pa, 3, none⟩ (.int .i64 st)).setCell ⟨pa, 4, none⟩ (.slice oG k pG)).setCell ⟨pa, 5, none⟩ (.string d)).setCell ⟨pa, 6, none⟩ (.int .i64 t)))
     have HY := hsy hY
     have HX_10 : Hid (Below w5.heap.size w5 w10) := by show Below _ _ _; rw [hY]; exact (((((((HX_9.out.setCell (p := ⟨pa, 0, none⟩) HGA.out _).setCell (p := ⟨pa, 1, none⟩) HGA.out _).setCell (p := ⟨pa, 2, none⟩) HGA.out _).setCell (p := ⟨pa, 3, none⟩) HGA.out _).setCell (p := ⟨pa, 4, none⟩) HGA.out _).setCell (p := ⟨pa, 5, none⟩) HGA.out _).setCell (p := ⟨pa, 6, none⟩) HGA.out _)
     have HPA_10 : Hid (w10.heap[pa]? = some (.cells #[.string p, .slice oX vl.length pX, .slice oY yl.length pY, .int .i64 st, .slice oG k pG, .string d, .int .i64 t] 31)) := by show _ = _; rw [hY]; have h := (heap_set _ pa 6 _ _ _ (.int .i64 t) (heap_set _ pa 5 _ _ _ (.string d) (heap_set _ pa 4 _ _ _ (.slice oG k pG) (heap_set _ pa 3 _ _ _ (.int .i64 st) (heap_set _ pa 2 _ _ _ (.slice oY yl.length pY) (heap_set _ pa 1 _ _ _ (.slice oX vl.length pX) (heap_set _ pa 0 _ _ _ (.string p) HPA_9.out))))))); simpa using h
     have HRXY_10 : Hid ((w10).ownsRow w5.heap.size 9 1 (.slice oY yl.length pY) yl.length (yl.map Value.string)) := by show World.ownsRow _ _ _ _ _ _ _; rw [hY]; exact owns_same HRXY_9.out (fun g hg => by have hne := own_ne HRXY_9.out HPA_9.out (by decide) g hg; rw [heap_setCell_other _ _ g _ hne, heap_setCell_other _ _ g _ hne, heap_setCell_other _ _ g _ hne, heap_setCell_other _ _ g _ hne, heap_setCell_other _ _ g _ hne, heap_setCell_other _ _ g _ hne, heap_setCell_other _ _ g _ hne])
     have HRXG_10 : Hid ((w10).ownsRow w5.heap.size 74 2 (.slice oG k pG) k (flatF gs)) := by show World.ownsRow _ _ _ _ _ _ _; rw [hY]; exact owns_same HRXG_9.out (fun g hg => by have hne := own_ne HRXG_9.out HPA_9.out (by decide) g hg; rw [heap_setCell_other _ _ g _ hne, heap_setCell_other _ _ g _ hne, heap_setCell_other _ _ g _ hne, heap_setCell_other _ _ g _ hne, heap_setCell_other _ _ g _ hne, heap_setCell_other _ _ g _ hne, heap_setCell_other _ _ g _ hne])
     clear hY hb9 HOX_9 HOY_9 HOG_9 HBv1_9 HBv2_9 HBv3_9
     go_simp
     rw [HY.out]
     refine hK.out _ _ (HSS.out _ HX_10.out) (fun _ => ?_)
     clear hK K HY ce0 fe0 ce1 fe1 ce2 fe2 ce3 fe3 ce4 fe4 ce5 fe5 ce6 fe6
     refine wpAnyH_done (by kernel_rfl) ?_ _
     go_wp2_with fail
     go_meet
     exact ⟨pa, oY, pY, oG, pG, rfl, ⟨HX_10.out, HPA_10.out, HGA.out, HRXY_10.out, HRXG_10.out⟩⟩
   ·
    go_simp
    have HXA : Hid (Below w5.heap.size w5 (w6.alloc (.cells #[.string ⟨#[]⟩, .slice none 0 0, .slice none 0 0, .int .i64 0, .slice none 0 0, .string ⟨#[]⟩, .int .i64 0] 31))) := HX_6.out.alloc HX_6.out.size _
    refine hK.out _ _ (HSS.out _ HXA.out) (fun _ => ?_)
    clear hK K HXA
    obtain ⟨pa, ho⟩ := exq (w6.heap.size)
    obtain ⟨w7, hXj⟩ := exq (w6.alloc (.cells #[.string ⟨#[]⟩, .slice none 0 0, .slice none 0 0, .int .i64 0, .slice none 0 0, .string ⟨#[]⟩, .int .i64 0] 31))
    rw [← ho, ← hXj]
    have HGA : Hid (w5.heap.size ≤ pa) := by show _ ≤ _; rw [ho]; exact HX_6.out.size
    have bw := bal hXj
    have hb7 := hbt hb6 bw
    have HM7 := hsz bw
    have HOX_7 := hown HOX_6 bw
    have HBv1_7 := hblk HBv1_6 bw
    have HBv2_7 := hblk HBv2_6 bw
    have HBv3_7 := hblk HBv3_6 bw
    have HX_7 := hxt HX_6 bw
    have HPA_7 : Hid (w7.heap[pa]? = some (.cells #[.string ⟨#[]⟩, .slice none 0 0, .slice none 0 0, .int .i64 0, .slice none 0 0, .string ⟨#[]⟩, .int .i64 0] 31)) := by show _ = _; rw [hXj, ho]; exact heap_alloc_new _ _
    clear hb6 HOX_6 HBv1_6 HBv2_6 HBv3_6 bw ho hXj HX_6
    refine rd1 6 rfl (fun K hK => ?_)
    go_simp
    refine (specValuesOf_any _ _ _ vl _ n base fs _ (texts_view HOX_7.out) HVZ.out.1 (HV1.out _ hb7) (by omega)).mono ?_
    rintro e w8 ⟨vv, rfl, ownY, bw⟩
    obtain ⟨oY, pY, rfl⟩ := slice_of_owns ownY
    rw [HYL.out] at ownY ⊢
    have hb8 := hbt hb7 bw
    have HM8 := hsz bw
    have HOX_8 := hown HOX_7 bw
    have HBv1_8 := hblk HBv1_7 bw
    have HBv2_8 := hblk HBv2_7 bw
    have HBv3_8 := hblk HBv3_7 bw
    have HOY_8 := hwd ownY hb7.size
    have LOY := hlo ownY
    have HIY := hhi ownY
    clear ownY
    clear hb7 HOX_7 HBv1_7 HBv2_7 HBv3_7
    have HX_8 := hxt HX_7 bw
    have HPA_8 := hblk HPA_7 bw
    have HRXY_8 : Hid ((w8).ownsRow w5.heap.size 9 1 (.slice oY yl.length pY) yl.length (yl.map Value.string)) := owns_lift HOY_8.out (fun g hg => Nat.le_trans HX_7.out.size (LOY.out g hg))
    refine hK.out _ _ (HSS.out _ HX_8.out) (fun _ => ?_)
    clear hK K bw HX_7
    refine rd1 8 rfl (fun K hK => ?_)
    go_simp
    refine (l9Resp_any st _ d k base2 gs _ (HV2.out _ hb8) (by omega)).mono ?_
    rintro e w9 ⟨vv, rfl, ownG, bw⟩
    obtain ⟨oG, pG, rfl⟩ := slice_of_owns ownG
    rw [HLG.out] at ownG ⊢
    have hb9 := hbt hb8 bw
    have HM9 := hsz bw
    have HOX_9 := hown HOX_8 bw
    have HOY_9 := hown HOY_8 bw
    have HBv1_9 := hblk HBv1_8 bw
    have HBv2_9 := hblk HBv2_8 bw
    have HBv3_9 := hblk HBv3_8 bw
    have HOG_9 := hwd ownG hb8.size
    have LOG := hlo ownG
    have HIG := hhi ownG
    clear ownG
    clear hb8 HOX_8 HOY_8 HBv1_8 HBv2_8 HBv3_8
    have HX_9 := hxt HX_8 bw
    have HPA_9 := hblk HPA_8 bw
    have HRXY_9 := hown HRXY_8 bw
    have HRXG_9 : Hid ((w9).ownsRow w5.heap.size 74 2 (.slice oG k pG) k (flatF gs)) := owns_lift HOG_9.out (fun g hg => Nat.le_trans HX_8.out.size (LOG.out g hg))
    refine hK.out _ _ (HSS.out _ HX_9.out) (fun _ => ?_)
    clear hK K bw HX_8
    refine tkP 10 (.agg #[.string p, .slice oX vl.length pX, .slice oY yl.length pY, .int .i64 st, .slice oG k pG, .string d, .int .i64 t]) 28 rfl rfl (HSS.out _ HX_9.out) ?_
    go_frame
    refine rd1 12 rfl (fun K hK => ?_)
    have ce0 := (k7c HPA_9).1
    have fe0 := hfz HPA_9 0
    have ce1 := (k7c HPA_9).2.1
    have fe1 := hfz HPA_9 1
    have ce2 := (k7c HPA_9).2.2.1
    have fe2 := hfz HPA_9 2
    have ce3 := (k7c HPA_9).2.2.2.1
    have fe3 := hfz HPA_9 3
    have ce4 := (k7c HPA_9).2.2.2.2.1
    have fe4 := hfz HPA_9 4
    have ce5 := (k7c HPA_9).2.2.2.2.2.1
    have fe5 := hfz HPA_9 5
    have ce6 := (k7c HPA_9).2.2.2.2.2.2
    have fe6 := hfz HPA_9 6
    obtain ⟨w10, hY⟩ := exq ((((((((w9.setCell ⟨pa, 0, none⟩ (.string p)).setCell ⟨pa, 1, none⟩ (.slice oX vl.length pX)).setCell ⟨pa, 2, none⟩ (.slice oY yl.length pY)).setCell ⟨pa, 3, none⟩ (.int .i64 st)).setCell ⟨pa, 4, none⟩ (.slice oG k pG)).setCell ⟨pa, 5, none⟩ (.string d)).setCell ⟨pa, 6, none⟩ (.int .i64 t)))
    have HY := hsy hY
    have HX_10 : Hid (Below w5.heap.size w5 w10) := by show Below _ _ _; rw [hY]; exact (((((((HX_9.out.setCell (p := ⟨pa, 0, none⟩) HGA.out _).setCell (p := ⟨pa, 1, none⟩) HGA.out _).setCell (p := ⟨pa, 2, none⟩) HGA.out _).setCell (p := ⟨pa, 3, none⟩) HGA.out _).setCell (p := ⟨pa, 4, none⟩) HGA.out _).setCell (p := ⟨pa, 5, none⟩) HGA.out _).setCell (p := ⟨pa, 6, none⟩) HGA.out _)
    have HPA_10 : Hid (w10.heap[pa]? = some (.cells #[.string p, .slice oX vl.length pX, .slice oY yl.length pY, .int .i64 st, .slice oG k pG, .string d, .int .i64 t] 31)) := by show _ = _; rw [hY]; have h := (heap_set _ pa 6 _ _ _ (.int .i64 t) (heap_set _ pa 5 _ _ _ (.string d) (heap_set _ pa 4 _ _ _ (.slice oG k pG) (heap_set _ pa 3 _ _ _ (.int .i64 st) (heap_set _ pa 2 _ _ _ (.slice oY yl.length pY) (heap_set _ pa 1 _ _ _ (.slice oX vl.length pX) (heap_set _ pa 0 _ _ _ (.string p) HPA_9.out))))))); simpa using h
    have HRXY_10 : Hid ((w10).ownsRow w5.heap.size 9 1 (.slice oY yl.length pY) yl.length (yl.map Value.string)) := by show World.ownsRow _ _ _ _ _ _ _; rw [hY]; exact owns_same HRXY_9.out (fun g hg => by have hne := own_ne HRXY_9.out HPA_9.out (by decide) g hg; rw [heap_setCell_other _ _ g _ hne, heap_setCell_other _ _ g _ hne, heap_setCell_other _ _ g _ hne, heap_setCell_other _ _ g _ hne, heap_setCell_other _ _ g _ hne, heap_setCell_other _ _ g _ hne, heap_setCell_other _ _ g _ hne])
    have HRXG_10 : Hid ((w10).ownsRow w5.heap.size 74 2 (.slice oG k pG) k (flatF gs)) := by show World.ownsRow _ _ _ _ _ _ _; rw [hY]; exact owns_same HRXG_9.out (fun g hg => by have hne := own_ne HRXG_9.out HPA_9.out (by decide) g hg; rw [heap_setCell_other _ _ g _ hne, heap_setCell_other _ _ g _ hne, heap_setCell_other _ _ g _ hne, heap_setCell_other _ _ g _ hne, heap_setCell_other _ _ g _ hne, heap_setCell_other _ _ g _ hne, heap_setCell_other _ _ g _ hne])
    clear hY hb9 HOX_9 HOY_9 HOG_9 HBv1_9 HBv2_9 HBv3_9
    go_simp
    rw [HY.out]
    refine hK.out _ _ (HSS.out _ HX_10.out) (fun _ => ?_)
    clear hK K HY ce0 fe0 ce1 fe1 ce2 fe2 ce3 fe3 ce4 fe4 ce5 fe5 ce6 fe6
    refine wpAnyH_done (by kernel_rfl) ?_ _
    go_wp2_with fail
    go_meet
    exact ⟨pa, oY, pY, oG, pG, rfl, ⟨HX_10.out, HPA_10.out, HGA.out, HRXY_10.out, HRXG_10.out⟩⟩
  case rest =>
  obtain ⟨qv4, oY, pY, oG, pG, hsx, HF⟩ := hcut
  rw [hsx]
  obtain ⟨w6, hwj⟩ := exq wc
  rw [← hwj] at HF ⊢
  clear hsx hwj HSS
  obtain ⟨bw, hcell, hga, ownY, ownG⟩ := HF.out
  have HNv3v4 : Hid (qv3 ≠ qv4) := fun e => by have h1 := (Array.getElem?_eq_some_iff.1 HBv3_5.out).1; omega
  have hb6 := hbt hb5 bw
  have HM6 := hsz bw
  have HOX_6 := hown HOX_5 bw
  have HBv1_6 := hblk HBv1_5 bw
  have HBv2_6 := hblk HBv2_5 bw
  have HBv3_6 := hblk HBv3_5 bw
  have HOY_6 := hwd ownY hb5.size
  have LOY := hlo ownY
  have HIY := hhi ownY
  have HOG_6 := hwd ownG hb5.size
  have LOG := hlo ownG
  have HIG := hhi ownG
  have HBv4_6 : Hid ((w6).heap[qv4]? = some (.cells #[.string p, .slice oX vl.length pX, .slice oY yl.length pY, .int .i64 st, .slice oG k pG, .string d, .int .i64 t] 31)) := hcell
  clear hb5 HOX_5 HBv1_5 HBv2_5 HBv3_5 bw hcell hga HF ownY ownG
  have cv4_0 := (k7c HBv4_6).1
  have cv4_1 := (k7c HBv4_6).2.1
  have cv4_2 := (k7c HBv4_6).2.2.1
  have cv4_3 := (k7c HBv4_6).2.2.2.1
  have cv4_4 := (k7c HBv4_6).2.2.2.2.1
  have cv4_5 := (k7c HBv4_6).2.2.2.2.2.1
  have cv4_6 := (k7c HBv4_6).2.2.2.2.2.2
  go_wp2_with fail
  refine (specObjOk_any p _ vl.length _ vl _ yl.length _ yl st _ k _ gs d t _ (texts_view HOX_6.out) (texts_view HOY_6.out) (FieldsV.of_owns HOG_6.out) (by have := HVZ.out.1; omega) (by have := HVZ.out.1; have := HYZ.out.1; omega) (by omega) HVZ.out.2 HYZ.out.2 HS2.out HPM.out HDM.out HG3.out).mono ?_
  rintro e w7 ⟨u2, rfl, htu2, bw⟩
  have hb7 := hbt hb6 bw
  have HM7 := hsz bw
  have HOX_7 := hown HOX_6 bw
  have HOY_7 := hown HOY_6 bw
  have HOG_7 := hown HOG_6 bw
  have HBv1_7 := hblk HBv1_6 bw
  have HBv2_7 := hblk HBv2_6 bw
  have HBv3_7 := hblk HBv3_6 bw
  have HBv4_7 := hblk HBv4_6 bw
  clear hb6 HOX_6 HOY_6 HOG_6 HBv1_6 HBv2_6 HBv3_6 HBv4_6 bw
  clear cv4_0 cv4_1 cv4_2 cv4_3 cv4_4 cv4_5 cv4_6
  cases u2 with
  | false =>
   have HF : Hid (¬ (MayP m p fs b st gs d ∧ ObjP p vl yl st gs d t)) := fun h => nomatch htu2.2 h.2
   clear htu2
   have cv3_0 := (k7c HBv3_7).1
   have fcv3_0 := hfz HBv3_7 0
   have cv3_1 := (k7c HBv3_7).2.1
   have fcv3_1 := hfz HBv3_7 1
   have cv3_2 := (k7c HBv3_7).2.2.1
   have fcv3_2 := hfz HBv3_7 2
   have cv3_3 := (k7c HBv3_7).2.2.2.1
   have fcv3_3 := hfz HBv3_7 3
   have cv3_4 := (k7c HBv3_7).2.2.2.2.1
   have fcv3_4 := hfz HBv3_7 4
   have cv3_5 := (k7c HBv3_7).2.2.2.2.2.1
   have fcv3_5 := hfz HBv3_7 5
   have cv3_6 := (k7c HBv3_7).2.2.2.2.2.2
   have fcv3_6 := hfz HBv3_7 6
   go_wp2_with fail
   obtain ⟨w8, hW8⟩ := exq ((w7).setCell ⟨qv3, 0, none⟩ (.string ⟨#[]⟩))
   rw [← hW8]
   have hb8 : Below w.heap.size w (w8) := by rw [hW8]; exact (hb7.setCell (p := ⟨qv3, 0, none⟩) HGv3.out _)
   have HM8 : Hid ((w7).heap.size ≤ w8.heap.size) := by show _ ≤ _; rw [hW8]; simp
   have HOX_8 := hsetR hW8 (own_ne HOX_7.out HBv3_7.out (by decide)) HOX_7
   have HOY_8 := hsetR hW8 (own_ne HOY_7.out HBv3_7.out (by decide)) HOY_7
   have HOG_8 := hsetR hW8 (own_ne HOG_7.out HBv3_7.out (by decide)) HOG_7
   have HBv1_8 := hset hW8 HNv1v3.out HBv1_7
   have HBv2_8 := hset hW8 HNv2v3.out HBv2_7
   have HBv4_8 := hset hW8 HNv3v4.out.symm HBv4_7
   have HBv3_8 : Hid ((w8).heap[qv3]? = some (.cells #[.string ⟨#[]⟩, .slice none 0 0, .slice none 0 0, .int .i64 0, .slice none 0 0, .string ⟨#[]⟩, .int .i64 0] 31)) := by show _ = _; rw [hW8]; have h := heap_set _ _ 0 _ _ _ (.string ⟨#[]⟩) HBv3_7.out; simpa using h
   clear hb7 HOX_7 HOY_7 HOG_7 HBv1_7 HBv2_7 HBv3_7 HBv4_7 hW8
   obtain ⟨w9, hW9⟩ := exq ((w8).setCell ⟨qv3, 1, none⟩ (.slice none 0 0))
   rw [← hW9]
   have hb9 : Below w.heap.size w (w9) := by rw [hW9]; exact (hb8.setCell (p := ⟨qv3, 1, none⟩) HGv3.out _)
   have HM9 : Hid ((w8).heap.size ≤ w9.heap.size) := by show _ ≤ _; rw [hW9]; simp
   have HOX_9 := hsetR hW9 (own_ne HOX_8.out HBv3_8.out (by decide)) HOX_8
   have HOY_9 := hsetR hW9 (own_ne HOY_8.out HBv3_8.out (by decide)) HOY_8
   have HOG_9 := hsetR hW9 (own_ne HOG_8.out HBv3_8.out (by decide)) HOG_8
   have HBv1_9 := hset hW9 HNv1v3.out HBv1_8
   have HBv2_9 := hset hW9 HNv2v3.out HBv2_8
   have HBv4_9 := hset hW9 HNv3v4.out.symm HBv4_8
   have HBv3_9 : Hid ((w9).heap[qv3]? = some (.cells #[.string ⟨#[]⟩, .slice none 0 0, .slice none 0 0, .int .i64 0, .slice none 0 0, .string ⟨#[]⟩, .int .i64 0] 31)) := by show _ = _; rw [hW9]; have h := heap_set _ _ 1 _ _ _ (.slice none 0 0) HBv3_8.out; simpa using h
   clear hb8 HOX_8 HOY_8 HOG_8 HBv1_8 HBv2_8 HBv3_8 HBv4_8 hW9
   obtain ⟨w10, hW10⟩ := exq ((w9).setCell ⟨qv3, 2, none⟩ (.slice none 0 0))
   rw [← hW10]
   have hb10 : Below w.heap.size w (w10) := by rw [hW10]; exact (hb9.setCell (p := ⟨qv3, 2, none⟩) HGv3.out _)
   have HM10 : Hid ((w9).heap.size ≤ w10.heap.size) := by show _ ≤ _; rw [hW10]; simp
   have HOX_10 := hsetR hW10 (own_ne HOX_9.out HBv3_9.out (by decide)) HOX_9
   have HOY_10 := hsetR hW10 (own_ne HOY_9.out HBv3_9.out (by decide)) HOY_9
   have HOG_10 := hsetR hW10 (own_ne HOG_9.out HBv3_9.out (by decide)) HOG_9
   have HBv1_10 := hset hW10 HNv1v3.out HBv1_9
   have HBv2_10 := hset hW10 HNv2v3.out HBv2_9
   have HBv4_10 := hset hW10 HNv3v4.out.symm HBv4_9
   have HBv3_10 : Hid ((w10).heap[qv3]? = some (.cells #[.string ⟨#[]⟩, .slice none 0 0, .slice none 0 0, .int .i64 0, .slice none 0 0, .string ⟨#[]⟩, .int .i64 0] 31)) := by show _ = _; rw [hW10]; have h := heap_set _ _ 2 _ _ _ (.slice none 0 0) HBv3_9.out; simpa using h
   clear hb9 HOX_9 HOY_9 HOG_9 HBv1_9 HBv2_9 HBv3_9 HBv4_9 hW10
   obtain ⟨w11, hW11⟩ := exq ((w10).setCell ⟨qv3, 3, none⟩ (.int .i64 0))
   rw [← hW11]
   have hb11 : Below w.heap.size w (w11) := by rw [hW11]; exact (hb10.setCell (p := ⟨qv3, 3, none⟩) HGv3.out _)
   have HM11 : Hid ((w10).heap.size ≤ w11.heap.size) := by show _ ≤ _; rw [hW11]; simp
   have HOX_11 := hsetR hW11 (own_ne HOX_10.out HBv3_10.out (by decide)) HOX_10
   have HOY_11 := hsetR hW11 (own_ne HOY_10.out HBv3_10.out (by decide)) HOY_10
   have HOG_11 := hsetR hW11 (own_ne HOG_10.out HBv3_10.out (by decide)) HOG_10
   have HBv1_11 := hset hW11 HNv1v3.out HBv1_10
   have HBv2_11 := hset hW11 HNv2v3.out HBv2_10
   have HBv4_11 := hset hW11 HNv3v4.out.symm HBv4_10
   have HBv3_11 : Hid ((w11).heap[qv3]? = some (.cells #[.string ⟨#[]⟩, .slice none 0 0, .slice none 0 0, .int .i64 0, .slice none 0 0, .string ⟨#[]⟩, .int .i64 0] 31)) := by show _ = _; rw [hW11]; have h := heap_set _ _ 3 _ _ _ (.int .i64 0) HBv3_10.out; simpa using h
   clear hb10 HOX_10 HOY_10 HOG_10 HBv1_10 HBv2_10 HBv3_10 HBv4_10 hW11
   obtain ⟨w12, hW12⟩ := exq ((w11).setCell ⟨qv3, 4, none⟩ (.slice none 0 0))
   rw [← hW12]
   have hb12 : Below w.heap.size w (w12) := by rw [hW12]; exact (hb11.setCell (p := ⟨qv3, 4, none⟩) HGv3.out _)
   have HM12 : Hid ((w11).heap.size ≤ w12.heap.size) := by show _ ≤ _; rw [hW12]; simp
   have HOX_12 := hsetR hW12 (own_ne HOX_11.out HBv3_11.out (by decide)) HOX_11
   have HOY_12 := hsetR hW12 (own_ne HOY_11.out HBv3_11.out (by decide)) HOY_11
   have HOG_12 := hsetR hW12 (own_ne HOG_11.out HBv3_11.out (by decide)) HOG_11
   have HBv1_12 := hset hW12 HNv1v3.out HBv1_11
   have HBv2_12 := hset hW12 HNv2v3.out HBv2_11
   have HBv4_12 := hset hW12 HNv3v4.out.symm HBv4_11
   have HBv3_12 : Hid ((w12).heap[qv3]? = some (.cells #[.string ⟨#[]⟩, .slice none 0 0, .slice none 0 0, .int .i64 0, .slice none 0 0, .string ⟨#[]⟩, .int .i64 0] 31)) := by show _ = _; rw [hW12]; have h := heap_set _ _ 4 _ _ _ (.slice none 0 0) HBv3_11.out; simpa using h
   clear hb11 HOX_11 HOY_11 HOG_11 HBv1_11 HBv2_11 HBv3_11 HBv4_11 hW12
   obtain ⟨w13, hW13⟩ := exq ((w12).setCell ⟨qv3, 5, none⟩ (.string ⟨#[]⟩))
   rw [← hW13]
   have hb13 : Below w.heap.size w (w13) := by rw [hW13]; exact (hb12.setCell (p := ⟨qv3, 5, none⟩) HGv3.out _)
   have HM13 : Hid ((w12).heap.size ≤ w13.heap.size) := by show _ ≤ _; rw [hW13]; simp
   have HOX_13 := hsetR hW13 (own_ne HOX_12.out HBv3_12.out (by decide)) HOX_12
   have HOY_13 := hsetR hW13 (own_ne HOY_12.out HBv3_12.out (by decide)) HOY_12
   have HOG_13 := hsetR hW13 (own_ne HOG_12.out HBv3_12.out (by decide)) HOG_12
   have HBv1_13 := hset hW13 HNv1v3.out HBv1_12
   have HBv2_13 := hset hW13 HNv2v3.out HBv2_12
   have HBv4_13 := hset hW13 HNv3v4.out.symm HBv4_12
   have HBv3_13 : Hid ((w13).heap[qv3]? = some (.cells #[.string ⟨#[]⟩, .slice none 0 0, .slice none 0 0, .int .i64 0, .slice none 0 0, .string ⟨#[]⟩, .int .i64 0] 31)) := by show _ = _; rw [hW13]; have h := heap_set _ _ 5 _ _ _ (.string ⟨#[]⟩) HBv3_12.out; simpa using h
   clear hb12 HOX_12 HOY_12 HOG_12 HBv1_12 HBv2_12 HBv3_12 HBv4_12 hW13
   obtain ⟨w14, hW14⟩ := exq ((w13).setCell ⟨qv3, 6, none⟩ (.int .i64 0))
   rw [← hW14]
   have hb14 : Below w.heap.size w (w14) := by rw [hW14]; exact (hb13.setCell (p := ⟨qv3, 6, none⟩) HGv3.out _)
   have HM14 : Hid ((w13).heap.size ≤ w14.heap.size) := by show _ ≤ _; rw [hW14]; simp
   have HOX_14 := hsetR hW14 (own_ne HOX_13.out HBv3_13.out (by decide)) HOX_13
   have HOY_14 := hsetR hW14 (own_ne HOY_13.out HBv3_13.out (by decide)) HOY_13
   have HOG_14 := hsetR hW14 (own_ne HOG_13.out HBv3_13.out (by decide)) HOG_13
   have HBv1_14 := hset hW14 HNv1v3.out HBv1_13
   have HBv2_14 := hset hW14 HNv2v3.out HBv2_13
   have HBv4_14 := hset hW14 HNv3v4.out.symm HBv4_13
   have HBv3_14 : Hid ((w14).heap[qv3]? = some (.cells #[.string ⟨#[]⟩, .slice none 0 0, .slice none 0 0, .int .i64 0, .slice none 0 0, .string ⟨#[]⟩, .int .i64 0] 31)) := by show _ = _; rw [hW14]; have h := heap_set _ _ 6 _ _ _ (.int .i64 0) HBv3_13.out; simpa using h
   clear hb13 HOX_13 HOY_13 HOG_13 HBv1_13 HBv2_13 HBv3_13 HBv4_13 hW14
   have kv3_0 := (k7c HBv3_14).1
   have kv3_1 := (k7c HBv3_14).2.1
   have kv3_2 := (k7c HBv3_14).2.2.1
   have kv3_3 := (k7c HBv3_14).2.2.2.1
   have kv3_4 := (k7c HBv3_14).2.2.2.2.1
   have kv3_5 := (k7c HBv3_14).2.2.2.2.2.1
   have kv3_6 := (k7c HBv3_14).2.2.2.2.2.2
   refine bodyPost_ret (v := .tuple #[.agg #[.string ⟨#[]⟩, .slice none 0 0, .slice none 0 0, .int .i64 0, .slice none 0 0, .string ⟨#[]⟩, .int .i64 0], .bool false]) (by simp [results, Tryz.results124, go_sem, kv3_0, kv3_1, kv3_2, kv3_3, kv3_4, kv3_5, kv3_6]) rfl ?_
   exact ⟨hb14, .inr ⟨HF.out, rfl⟩⟩
  | true =>
   have HOK : Hid (ObjP p vl yl st gs d t) := htu2.1 rfl
   clear htu2
   have cv3_0 := (k7c HBv3_7).1
   have fcv3_0 := hfz HBv3_7 0
   have cv3_1 := (k7c HBv3_7).2.1
   have fcv3_1 := hfz HBv3_7 1
   have cv3_2 := (k7c HBv3_7).2.2.1
   have fcv3_2 := hfz HBv3_7 2
   have cv3_3 := (k7c HBv3_7).2.2.2.1
   have fcv3_3 := hfz HBv3_7 3
   have cv3_4 := (k7c HBv3_7).2.2.2.2.1
   have fcv3_4 := hfz HBv3_7 4
   have cv3_5 := (k7c HBv3_7).2.2.2.2.2.1
   have fcv3_5 := hfz HBv3_7 5
   have cv3_6 := (k7c HBv3_7).2.2.2.2.2.2
   have fcv3_6 := hfz HBv3_7 6
   have cv4_0 := (k7c HBv4_7).1
   have cv4_1 := (k7c HBv4_7).2.1
   have cv4_2 := (k7c HBv4_7).2.2.1
   have cv4_3 := (k7c HBv4_7).2.2.2.1
   have cv4_4 := (k7c HBv4_7).2.2.2.2.1
   have cv4_5 := (k7c HBv4_7).2.2.2.2.2.1
   have cv4_6 := (k7c HBv4_7).2.2.2.2.2.2
   go_wp2_with fail
   obtain ⟨w8, hW8⟩ := exq ((w7).setCell ⟨qv3, 0, none⟩ (.string p))
   rw [← hW8]
   have hb8 : Below w.heap.size w (w8) := by rw [hW8]; exact (hb7.setCell (p := ⟨qv3, 0, none⟩) HGv3.out _)
   have HM8 : Hid ((w7).heap.size ≤ w8.heap.size) := by show _ ≤ _; rw [hW8]; simp
   have HOX_8 := hsetR hW8 (own_ne HOX_7.out HBv3_7.out (by decide)) HOX_7
   have HOY_8 := hsetR hW8 (own_ne HOY_7.out HBv3_7.out (by decide)) HOY_7
   have HOG_8 := hsetR hW8 (own_ne HOG_7.out HBv3_7.out (by decide)) HOG_7
   have HBv1_8 := hset hW8 HNv1v3.out HBv1_7
   have HBv2_8 := hset hW8 HNv2v3.out HBv2_7
   have HBv4_8 := hset hW8 HNv3v4.out.symm HBv4_7
   have HBv3_8 : Hid ((w8).heap[qv3]? = some (.cells #[.string p, .slice none 0 0, .slice none 0 0, .int .i64 0, .slice none 0 0, .string ⟨#[]⟩, .int .i64 0] 31)) := by show _ = _; rw [hW8]; have h := heap_set _ _ 0 _ _ _ (.string p) HBv3_7.out; simpa using h
   clear hb7 HOX_7 HOY_7 HOG_7 HBv1_7 HBv2_7 HBv3_7 HBv4_7 hW8
   obtain ⟨w9, hW9⟩ := exq ((w8).setCell ⟨qv3, 1, none⟩ (.slice oX vl.length pX))
   rw [← hW9]
   have hb9 : Below w.heap.size w (w9) := by rw [hW9]; exact (hb8.setCell (p := ⟨qv3, 1, none⟩) HGv3.out _)
   have HM9 : Hid ((w8).heap.size ≤ w9.heap.size) := by show _ ≤ _; rw [hW9]; simp
   have HOX_9 := hsetR hW9 (own_ne HOX_8.out HBv3_8.out (by decide)) HOX_8
   have HOY_9 := hsetR hW9 (own_ne HOY_8.out HBv3_8.out (by decide)) HOY_8
   have HOG_9 := hsetR hW9 (own_ne HOG_8.out HBv3_8.out (by decide)) HOG_8
   have HBv1_9 := hset hW9 HNv1v3.out HBv1_8
   have HBv2_9 := hset hW9 HNv2v3.out HBv2_8
   have HBv4_9 := hset hW9 HNv3v4.out.symm HBv4_8
   have HBv3_9 : Hid ((w9).heap[qv3]? = some (.cells #[.string p, .slice oX vl.length pX, .slice none 0 0, .int .i64 0, .slice none 0 0, .string ⟨#[]⟩, .int .i64 0] 31)) := by show _ = _; rw [hW9]; have h := heap_set _ _ 1 _ _ _ (.slice oX vl.length pX) HBv3_8.out; simpa using h
   clear hb8 HOX_8 HOY_8 HOG_8 HBv1_8 HBv2_8 HBv3_8 HBv4_8 hW9
   obtain ⟨w10, hW10⟩ := exq ((w9).setCell ⟨qv3, 2, none⟩ (.slice oY yl.length pY))
   rw [← hW10]
   have hb10 : Below w.heap.size w (w10) := by rw [hW10]; exact (hb9.setCell (p := ⟨qv3, 2, none⟩) HGv3.out _)
   have HM10 : Hid ((w9).heap.size ≤ w10.heap.size) := by show _ ≤ _; rw [hW10]; simp
   have HOX_10 := hsetR hW10 (own_ne HOX_9.out HBv3_9.out (by decide)) HOX_9
   have HOY_10 := hsetR hW10 (own_ne HOY_9.out HBv3_9.out (by decide)) HOY_9
   have HOG_10 := hsetR hW10 (own_ne HOG_9.out HBv3_9.out (by decide)) HOG_9
   have HBv1_10 := hset hW10 HNv1v3.out HBv1_9
   have HBv2_10 := hset hW10 HNv2v3.out HBv2_9
   have HBv4_10 := hset hW10 HNv3v4.out.symm HBv4_9
   have HBv3_10 : Hid ((w10).heap[qv3]? = some (.cells #[.string p, .slice oX vl.length pX, .slice oY yl.length pY, .int .i64 0, .slice none 0 0, .string ⟨#[]⟩, .int .i64 0] 31)) := by show _ = _; rw [hW10]; have h := heap_set _ _ 2 _ _ _ (.slice oY yl.length pY) HBv3_9.out; simpa using h
   clear hb9 HOX_9 HOY_9 HOG_9 HBv1_9 HBv2_9 HBv3_9 HBv4_9 hW10
   obtain ⟨w11, hW11⟩ := exq ((w10).setCell ⟨qv3, 3, none⟩ (.int .i64 st))
   rw [← hW11]
   have hb11 : Below w.heap.size w (w11) := by rw [hW11]; exact (hb10.setCell (p := ⟨qv3, 3, none⟩) HGv3.out _)
   have HM11 : Hid ((w10).heap.size ≤ w11.heap.size) := by show _ ≤ _; rw [hW11]; simp
   have HOX_11 := hsetR hW11 (own_ne HOX_10.out HBv3_10.out (by decide)) HOX_10
   have HOY_11 := hsetR hW11 (own_ne HOY_10.out HBv3_10.out (by decide)) HOY_10
   have HOG_11 := hsetR hW11 (own_ne HOG_10.out HBv3_10.out (by decide)) HOG_10
   have HBv1_11 := hset hW11 HNv1v3.out HBv1_10
   have HBv2_11 := hset hW11 HNv2v3.out HBv2_10
   have HBv4_11 := hset hW11 HNv3v4.out.symm HBv4_10
   have HBv3_11 : Hid ((w11).heap[qv3]? = some (.cells #[.string p, .slice oX vl.length pX, .slice oY yl.length pY, .int .i64 st, .slice none 0 0, .string ⟨#[]⟩, .int .i64 0] 31)) := by show _ = _; rw [hW11]; have h := heap_set _ _ 3 _ _ _ (.int .i64 st) HBv3_10.out; simpa using h
   clear hb10 HOX_10 HOY_10 HOG_10 HBv1_10 HBv2_10 HBv3_10 HBv4_10 hW11
   obtain ⟨w12, hW12⟩ := exq ((w11).setCell ⟨qv3, 4, none⟩ (.slice oG k pG))
   rw [← hW12]
   have hb12 : Below w.heap.size w (w12) := by rw [hW12]; exact (hb11.setCell (p := ⟨qv3, 4, none⟩) HGv3.out _)
   have HM12 : Hid ((w11).heap.size ≤ w12.heap.size) := by show _ ≤ _; rw [hW12]; simp
   have HOX_12 := hsetR hW12 (own_ne HOX_11.out HBv3_11.out (by decide)) HOX_11
   have HOY_12 := hsetR hW12 (own_ne HOY_11.out HBv3_11.out (by decide)) HOY_11
   have HOG_12 := hsetR hW12 (own_ne HOG_11.out HBv3_11.out (by decide)) HOG_11
   have HBv1_12 := hset hW12 HNv1v3.out HBv1_11
   have HBv2_12 := hset hW12 HNv2v3.out HBv2_11
   have HBv4_12 := hset hW12 HNv3v4.out.symm HBv4_11
   have HBv3_12 : Hid ((w12).heap[qv3]? = some (.cells #[.string p, .slice oX vl.length pX, .slice oY yl.length pY, .int .i64 st, .slice oG k pG, .string ⟨#[]⟩, .int .i64 0] 31)) := by show _ = _; rw [hW12]; have h := heap_set _ _ 4 _ _ _ (.slice oG k pG) HBv3_11.out; simpa using h
   clear hb11 HOX_11 HOY_11 HOG_11 HBv1_11 HBv2_11 HBv3_11 HBv4_11 hW12
   obtain ⟨w13, hW13⟩ := exq ((w12).setCell ⟨qv3, 5, none⟩ (.string d))
   rw [← hW13]
   have hb13 : Below w.heap.size w (w13) := by rw [hW13]; exact (hb12.setCell (p := ⟨qv3, 5, none⟩) HGv3.out _)
   have HM13 : Hid ((w12).heap.size ≤ w13.heap.size) := by show _ ≤ _; rw [hW13]; simp
   have HOX_13 := hsetR hW13 (own_ne HOX_12.out HBv3_12.out (by decide)) HOX_12
   have HOY_13 := hsetR hW13 (own_ne HOY_12.out HBv3_12.out (by decide)) HOY_12
   have HOG_13 := hsetR hW13 (own_ne HOG_12.out HBv3_12.out (by decide)) HOG_12
   have HBv1_13 := hset hW13 HNv1v3.out HBv1_12
   have HBv2_13 := hset hW13 HNv2v3.out HBv2_12
   have HBv4_13 := hset hW13 HNv3v4.out.symm HBv4_12
   have HBv3_13 : Hid ((w13).heap[qv3]? = some (.cells #[.string p, .slice oX vl.length pX, .slice oY yl.length pY, .int .i64 st, .slice oG k pG, .string d, .int .i64 0] 31)) := by show _ = _; rw [hW13]; have h := heap_set _ _ 5 _ _ _ (.string d) HBv3_12.out; simpa using h
   clear hb12 HOX_12 HOY_12 HOG_12 HBv1_12 HBv2_12 HBv3_12 HBv4_12 hW13
   obtain ⟨w14, hW14⟩ := exq ((w13).setCell ⟨qv3, 6, none⟩ (.int .i64 t))
   rw [← hW14]
   have hb14 : Below w.heap.size w (w14) := by rw [hW14]; exact (hb13.setCell (p := ⟨qv3, 6, none⟩) HGv3.out _)
   have HM14 : Hid ((w13).heap.size ≤ w14.heap.size) := by show _ ≤ _; rw [hW14]; simp
   have HOX_14 := hsetR hW14 (own_ne HOX_13.out HBv3_13.out (by decide)) HOX_13
   have HOY_14 := hsetR hW14 (own_ne HOY_13.out HBv3_13.out (by decide)) HOY_13
   have HOG_14 := hsetR hW14 (own_ne HOG_13.out HBv3_13.out (by decide)) HOG_13
   have HBv1_14 := hset hW14 HNv1v3.out HBv1_13
   have HBv2_14 := hset hW14 HNv2v3.out HBv2_13
   have HBv4_14 := hset hW14 HNv3v4.out.symm HBv4_13
   have HBv3_14 : Hid ((w14).heap[qv3]? = some (.cells #[.string p, .slice oX vl.length pX, .slice oY yl.length pY, .int .i64 st, .slice oG k pG, .string d, .int .i64 t] 31)) := by show _ = _; rw [hW14]; have h := heap_set _ _ 6 _ _ _ (.int .i64 t) HBv3_13.out; simpa using h
   clear hb13 HOX_13 HOY_13 HOG_13 HBv1_13 HBv2_13 HBv3_13 HBv4_13 hW14
   have kv3_0 := (k7c HBv3_14).1
   have kv3_1 := (k7c HBv3_14).2.1
   have kv3_2 := (k7c HBv3_14).2.2.1
   have kv3_3 := (k7c HBv3_14).2.2.2.1
   have kv3_4 := (k7c HBv3_14).2.2.2.2.1
   have kv3_5 := (k7c HBv3_14).2.2.2.2.2.1
   have kv3_6 := (k7c HBv3_14).2.2.2.2.2.2
   refine bodyPost_ret (v := .tuple #[.agg #[.string p, .slice oX vl.length pX, .slice oY yl.length pY, .int .i64 st, .slice oG k pG, .string d, .int .i64 t], .bool true]) (by simp [results, Tryz.results124, go_sem, kv3_0, kv3_1, kv3_2, kv3_3, kv3_4, kv3_5, kv3_6]) rfl ?_
   exact ⟨hb14, .inl ⟨⟨HMK.out, HOK.out⟩, _, _, _, rfl, ⟨HOX_14.out, HOY_14.out, HOG_14.out, fun g hg e => by have h1 := LOY.out g e; have h2 := HIX.out g hg; have := HM6.out; omega⟩⟩⟩
end Go.Proofs.YtmcmeeibogkpaaaGreatDoorR
namespace Go.Proofs.YtmcmeeibogkpaaaGreatDoorR
open Go.RowKit
open Go.Lib hiding intOf
theorem fieldOk_any (v : Value) (n base : Nat) (fs : List (ByteArray × ByteArray)) (k : Nat) (w : World) (hv : FieldsV w base v n fs) (hn : n ≤ 1073741824) (hk : k < n) (hs1 : (nameAt fs k).size ≤ maxLen) (hs2 : (valAt fs k).size ≤ maxLen) :
  Calls Tryz.prog 157 #[v, .int .i64 (k : Int)] w fun e w' => BoolIs (FldOk fs k) w e w' := by
 have HV : Hid (∀ W, Below w.heap.size w W → FieldsV W base v n fs) := fun W h => hv.below h
 obtain ⟨oa, cap, rfl, hrow⟩ := hv.slice
 obtain ⟨g, rfl, row⟩ := hrow k hk
 have hlt2 : (k : Int) < (n : Int) := by omega
 have hc1 := row.name k hk
 have hc2 := row.val k hk
 obtain ⟨nm, hnm⟩ := exq (nameAt fs k)
 obtain ⟨vl, hvl⟩ := exq (valAt fs k)
 have HO : Hid (FldOk fs k ↔ TokOk nm ∧ ValOk vl ∧ atF fs nm = k ∧ nm ≠ clen) := by rw [hnm, hvl]; exact Iff.rfl
 rw [← hnm] at hc1 hs1
 rw [← hvl] at hc2 hs2
 clear hv hrow row hnm hvl
 obtain ⟨r, hr⟩ := exq (w.heap.size)
 have h0 : (w.alloc (.cells #[.string nm, .string vl] 74)).heap.size = w.heap.size + 1 := by simp
 have HB0 : Hid (Below w.heap.size w (w.alloc (.cells #[.string nm, .string vl] 74)) ∧ w.heap.size ≤ (w.alloc (.cells #[.string nm, .string vl] 74)).heap.size) := ⟨(Below.refl _ w).alloc (Nat.le_refl _) _, by omega⟩
 have HR : Hid (∀ W, Below (w.alloc (.cells #[.string nm, .string vl] 74)).heap.size (w.alloc (.cells #[.string nm, .string vl] 74)) W → W.cell? ⟨r, 0, none⟩ = some (.string nm) ∧ W.cell? ⟨r, 1, none⟩ = some (.string vl)) := fun W h => by
  have hh : W.heap[r]? = some (.cells #[.string nm, .string vl] 74) := by rw [hr, h.block _ (by omega)]; exact heap_alloc_new w _
  exact ⟨by simp [World.cell?, hh], by simp [World.cell?, hh]⟩
 go_enter Tryz.func157, Tryz.ntmps157
 go_wp2_with fail
 refine (implTokenOk_any nm _ hs1).mono ?_
 rintro e w1 ⟨b1, rfl, kb1, bb1⟩
 rw [← hr]
 have hb1 : Below w.heap.size w w1 := HB0.out.1.trans (bb1.mono HB0.out.2)
 obtain ⟨d1, d2⟩ := HR.out w1 bb1
 clear h0
 cases b1
 ·
  have HF : Hid (¬ FldOk fs k) := fun h => by have := kb1.2 (HO.out.1 h).1; cases this
  clear kb1 hc1 hc2 bb1 hr
  go_wp2_with fail
  go_ret
  exact BoolIs.no HF.out hb1
 ·
  have HT : Hid (TokOk nm) := kb1.1 rfl
  clear kb1 hc1 hc2 hr
  go_wp2_with fail
  refine (implValueOk_any vl _ hs2).mono ?_
  rintro e w2 ⟨b2, rfl, kb2, bb2⟩
  have bb2' := bb1.trans (bb2.mono bb1.size)
  have hb2 : Below w.heap.size w w2 := HB0.out.1.trans (bb2'.mono HB0.out.2)
  obtain ⟨d3, d4⟩ := HR.out w2 bb2'
  cases b2
  ·
   have HF : Hid (¬ FldOk fs k) := fun h => by have := kb2.2 (HO.out.1 h).2.1; cases this
   clear kb2 bb1 bb2 bb2' hb1 d1 d2
   go_wp2_with fail
   go_ret
   exact BoolIs.no HF.out hb2
  ·
   have HT2 : Hid (ValOk vl) := kb2.1 rfl
   clear kb2 bb1 bb2 bb2' hb1 d1 d2
   by_cases hcl : nm = clen
   ·
    have ht := (text_beq _ _).2 hcl
    rw [clen_list] at ht
    have HF : Hid (¬ FldOk fs k) := fun h => (HO.out.1 h).2.2.2 hcl
    clear hcl
    go_wp2_with fail
    go_ret
    exact BoolIs.no HF.out hb2
   ·
    have ht := text_beq_no hcl
    rw [clen_list] at ht
    have HC : Hid (nm ≠ clen) := hcl
    clear hcl
    go_wp2_with fail
    refine (place_any _ n base fs nm _ (HV.out w2 hb2) hn).mono ?_
    rintro e w3 ⟨rfl, rfl⟩
    by_cases hat : atF fs nm = k
    ·
     have HY : Hid (FldOk fs k) := HO.out.2 ⟨HT.out, HT2.out, hat, HC.out⟩
     rw [hat]
     clear hat
     go_wp2
     go_ret
     exact BoolIs.yes HY.out hb2
    ·
     have HF : Hid (¬ FldOk fs k) := fun h => hat (HO.out.1 h).2.2.1
     have hne : ((atF fs nm : Int) == (k : Int)) = false := by rw [beq_eq_false_iff_ne]; omega
     clear hat
     go_wp2
     go_ret
     exact BoolIs.no HF.out hb2
theorem ok_any (v : Value) (n base : Nat) (fs : List (ByteArray × ByteArray)) (w : World) (hv : FieldsV w base v n fs) (hn : n ≤ 1073741824) (hsz : ∀ i, i < n → (nameAt fs i).size ≤ maxLen ∧ (valAt fs i).size ≤ maxLen) :
  Calls Tryz.prog 144 #[v] w fun e w' => BoolIs (FldsOk fs) w e w' := by
 have hl := hv.len
 have HV : Hid (∀ W, Below w.heap.size w W → FieldsV W base v n fs) := fun W h => hv.below h
 have HS : Hid (∀ i, i < n → (nameAt fs i).size ≤ maxLen ∧ (valAt fs i).size ≤ maxLen) := hsz
 obtain ⟨oa, cap, rfl, hrow⟩ := hv.slice
 clear hv hrow hsz
 by_cases h8 : (8 : Int) < (n : Int)
 ·
  have HF : Hid (¬ FldsOk fs) := fun h => by have := h.1; omega
  go_enter Tryz.func144, Tryz.ntmps144
  go_wp2
  go_ret
  exact BoolIs.no HF.out (Below.refl _ _)
 ·
  go_enter Tryz.func144, Tryz.ntmps144
  go_wp2
  go_loopw [9] (fun i wr => ∃ k : Nat, k ≤ n ∧ i = .int .i64 (k : Int) ∧ Hid (∀ j, j < k → FldOk fs j) ∧ Below w.heap.size w wr) (fun i _ => n - (intOf i).toNat)
  case atStart => exact ⟨0, Nat.zero_le _, rfl, fun j h => absurd h (by omega), Below.refl _ _⟩
  case round =>
   obtain ⟨k, hk, rfl, hall, hbw⟩ := hrel
   by_cases hlt : k < n
   ·
    have hlt2 : (k : Int) < (n : Int) := by omega
    obtain ⟨hs1, hs2⟩ := HS.out k hlt
    go_wp2_with fail
    refine (fieldOk_any _ n base fs k _ (HV.out wr hbw) hn hlt hs1 hs2).mono ?_
    rintro e w1 ⟨b1, rfl, kb1, bb1⟩
    have hb1 : Below w.heap.size w w1 := hbw.trans (bb1.mono hbw.size)
    cases b1
    ·
     have HF : Hid (¬ FldsOk fs) := fun h => by have := kb1.2 (h.2 k (by omega)); cases this
     clear kb1 bb1
     go_wp2
     go_ret
     exact BoolIs.no HF.out hb1
    ·
     have HY : Hid (FldOk fs k) := kb1.1 rfl
     clear kb1 bb1
     go_wp2
     go_roundw
     case rel =>
      refine ⟨k + 1, by omega, by go_num, ?_, hb1⟩
      intro j hj
      by_cases e : j = k
      · subst e; exact HY.out
      · exact hall.out j (by omega)
     case measure => simp [intOf]; omega
   ·
    have HF : Hid (FldsOk fs) := ⟨by omega, fun i hi => hall.out i (by omega)⟩
    go_wp2
    go_ret
    exact BoolIs.yes HF.out hbw
end Go.Proofs.YtmcmeeibogkpaaaGreatDoorR
