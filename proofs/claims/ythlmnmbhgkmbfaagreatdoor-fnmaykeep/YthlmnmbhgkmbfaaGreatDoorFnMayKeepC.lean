/- What the proof of FnMayKeep leans on: contracts of the program's and the specification's functions, and plain facts (part 3 of 5). -/
import Derived.Test.YthlmnmbhgkmbfaaGreatDoorFnMayKeepB
namespace Go.Proofs.YthlmnmbhgkmbfaaGreatDoor
open Go.RowKit
open Go.Lib hiding intOf

/-- A call answers an answer with these fields, in memory of its own. -/
def RespRow (st : Int) (fs : List (ByteArray × ByteArray)) (b : ByteArray) (w : World) (e : Ending) (w' : World) : Prop :=
  ∃ v, e = .returned (.agg #[.int .i64 st, v, .string b]) ∧ w'.ownsRow w.heap.size 67 2 v fs.length (flatF fs) ∧ Below w.heap.size w w'
theorem three_other (W : World) (r j : Nat) (a b c : Value) (h : j ≠ r) : (threeSet W r a b c).heap[j]? = W.heap[j]? := by
  unfold threeSet
  rw [heap_setCell_other _ _ j _ h, heap_setCell_other _ _ j _ h, heap_setCell_other _ _ j _ h]

set_option maxHeartbeats 1000000 in
set_option maxRecDepth 100000 in
theorem l9Resp_any (st : Int) (v : Value) (b : ByteArray) (n base : Nat) (fs : List (ByteArray × ByteArray)) (w : World) (hv : FieldsV w base v n fs) (hn : n ≤ 2000000) :
    Calls Tryz.prog 37 #[.agg #[.int .i64 st, v, .string b]] w fun e w' => RespRow st fs b w e w' := by
  obtain ⟨oa, cap, rfl, _⟩ := hv.slice
  obtain ⟨r, hr⟩ : ∃ r, r = w.heap.size := ⟨_, rfl⟩
  have HR : Hid (w.heap.size = r) := hr.symm
  obtain ⟨W1, hW1⟩ : ∃ W, W = (w.alloc (.cells #[.int .i64 st, .slice oa n cap, .string b] 28)).alloc (.cells #[.int .i64 0, .slice none 0 0, .string ⟨#[]⟩] 28) := ⟨_, rfl⟩
  have HW1 : Hid ((w.alloc (.cells #[.int .i64 st, .slice oa n cap, .string b] 28)).alloc (.cells #[.int .i64 0, .slice none 0 0, .string ⟨#[]⟩] 28) = W1) := hW1.symm
  have b1 : Below r w W1 := by rw [hW1, hr]; exact ((Below.refl _ w).alloc (Nat.le_refl _) _).alloc (by simp) _
  have hv1 := hv.below (by rw [hr] at b1; exact b1)
  have s1 : (w.alloc (.cells #[.int .i64 st, .slice oa n cap, .string b] 28)).heap.size = r + 1 := by rw [hr]; simp
  have s2 : W1.heap.size = r + 1 + 1 := by rw [hW1, hr]; simp
  have H0 : Hid (W1.heap[r]? = some (.cells #[.int .i64 st, .slice oa n cap, .string b] 28) ∧ W1.heap[r + 1]? = some (.cells #[.int .i64 0, .slice none 0 0, .string ⟨#[]⟩] 28) ∧ Below r w W1) := by
    have e0 := heap_alloc_new w (.cells #[.int .i64 st, .slice oa n cap, .string b] 28)
    have e1 := heap_alloc_new (w.alloc (.cells #[.int .i64 st, .slice oa n cap, .string b] 28)) (.cells #[.int .i64 0, .slice none 0 0, .string ⟨#[]⟩] 28)
    rw [← hr] at e0
    rw [s1, ← hW1] at e1
    have c1 : Below (r + 1) (w.alloc (.cells #[.int .i64 st, .slice oa n cap, .string b] 28)) W1 := by rw [hW1, ← s1]; exact (Below.refl _ _).alloc (Nat.le_refl _) _
    exact ⟨by rw [c1.block r (by omega)]; exact e0, e1, b1⟩
  obtain ⟨⟨_, c1, _⟩, _⟩ := three_facts H0.out.1
  have HS2 : Hid (W1.heap.size = r + 1 + 1) := s2
  have HL : Hid (fs.length = n) := hv.len
  clear hW1 hv b1 s1 s2
  go_enter Tryz.func37, Tryz.ntmps37
  go_upto_region 1 with fail
  rw [HW1.out, ← hr]
  clear hr HW1
  go_wp2_with fail
  refine (l9Copy_any _ n base fs _ hv1 hn).mono ?_
  rintro e w2 ⟨z, rfl, own, b2⟩
  obtain ⟨oz, cz, rfl⟩ := slice_of_owns own
  rw [HL.out] at own ⊢
  have hs2 := HS2.out
  rw [hs2] at own b2
  have H2 : Hid (w2.heap[r]? = some (.cells #[.int .i64 st, .slice oa n cap, .string b] 28) ∧ w2.heap[r + 1]? = some (.cells #[.int .i64 0, .slice none 0 0, .string ⟨#[]⟩] 28) ∧ Below r w w2) :=
    ⟨by rw [b2.block r (by omega)]; exact H0.out.1, by rw [b2.block (r + 1) (by omega)]; exact H0.out.2.1, H0.out.2.2.trans (b2.mono (by omega))⟩
  have HO2 : Hid (w2.ownsRow (r + 1 + 1) 67 2 (.slice oz n cz) n (flatF fs)) := own
  obtain ⟨⟨_, d1, _⟩, _, y1, _⟩ := three_facts H2.out.1
  clear own b2 hs2 c1 hv1 H0 HS2
  have H3 : Hid ((w2.setCell ⟨r, 1, none⟩ (.slice oz n cz)).heap[r]? = some (.cells #[.int .i64 st, .slice oz n cz, .string b] 28) ∧ (w2.setCell ⟨r, 1, none⟩ (.slice oz n cz)).heap[r + 1]? = some (.cells #[.int .i64 0, .slice none 0 0, .string ⟨#[]⟩] 28)) := by
    refine ⟨?_, by rw [heap_setCell_other _ _ (r + 1) _ (by show r + 1 ≠ r; omega)]; exact H2.out.2.1⟩
    have := heap_set w2 r 1 _ _ _ (.slice oz n cz) H2.out.1
    simpa using this
  obtain ⟨⟨f0, f1, f2⟩, _⟩ := three_facts H3.out.1
  obtain ⟨⟨g0, g1, g2⟩, x0, x1, x2⟩ := three_facts H3.out.2
  have hset := three_set H3.out.2 (.int .i64 st) (.slice oz n cz) (.string b)
  obtain ⟨⟨k0, k1, k2⟩, _⟩ := three_facts hset
  have HFB : Hid (Below r w (threeSet (w2.setCell ⟨r, 1, none⟩ (.slice oz n cz)) (r + 1) (.int .i64 st) (.slice oz n cz) (.string b))) := below_three (H2.out.2.2.setCell (Nat.le_refl _) _) (by omega)
  have HFO : Hid ((threeSet (w2.setCell ⟨r, 1, none⟩ (.slice oz n cz)) (r + 1) (.int .i64 st) (.slice oz n cz) (.string b)).ownsRow r 67 2 (.slice oz n cz) fs.length (flatF fs)) := by
    show World.ownsRow _ _ _ _ _ _ _
    rw [HL.out]
    refine owns_same (owns_wide HO2.out (by omega)) (fun j hj => ?_)
    have hj2 := owns_ge HO2.out hj
    rw [three_other _ _ j _ _ _ (by omega), heap_setCell_other _ _ j _ (by show j ≠ r; omega)]
  unfold threeSet at k0 k1 k2 HFB HFO
  clear hset H2 H3 HO2
  go_wp2_with fail
  refine bodyPost_ret (v := .agg #[.int .i64 st, .slice oz n cz, .string b]) (by simp [results, Tryz.results37, go_sem, k0, k1, k2]) rfl ?_
  exact ⟨_, rfl, by rw [HR.out]; exact HFO.out, by rw [HR.out]; exact HFB.out⟩

/-- While answers are merged: both arguments, the answer's memory, the answer that is made and its fields. -/
structure MgSt (w : World) (r o : Nat) (st : Int) (va : Value) (b : ByteArray) (st2 : Int) (vb : Value) (c : ByteArray) (z : Value) (P : List (ByteArray × ByteArray)) (W : World) : Prop where
  q0 : W.heap[r]? = some (.cells #[.int .i64 st, va, .string b] 28)
  q1 : W.heap[r + 1]? = some (.cells #[.int .i64 st2, vb, .string c] 28)
  q2 : W.heap[r + 1 + 1]? = some (.cells #[.int .i64 0, .slice none 0 0, .string ⟨#[]⟩] 28)
  q3 : W.heap[o]? = some (.cells #[.int .i64 st, z, .string b] 28)
  own : W.ownsRow (r + 1 + 1 + 1) 67 2 z P.length (flatF P)
  ne : ∀ j, z.ownBlock = some j → j ≠ o
  ge : r + 1 + 1 + 1 ≤ o
  low : Below r w W
theorem MgSt.lt {w : World} {r o : Nat} {st : Int} {va : Value} {b : ByteArray} {st2 : Int} {vb : Value} {c : ByteArray} {z : Value} {P : List (ByteArray × ByteArray)} {W : World} (h : MgSt w r o st va b st2 vb c z P W) : o < W.heap.size := (Array.getElem?_eq_some_iff.1 h.q3).1
theorem MgSt.below {w : World} {r o : Nat} {st : Int} {va : Value} {b : ByteArray} {st2 : Int} {vb : Value} {c : ByteArray} {z : Value} {P : List (ByteArray × ByteArray)} {W : World} {W' : World} (h : MgSt w r o st va b st2 vb c z P W) (hb : Below W.heap.size W W') : MgSt w r o st va b st2 vb c z P W' := by
  have hs := h.lt
  have hg := h.ge
  exact ⟨by rw [hb.block _ (by omega)]; exact h.q0, by rw [hb.block _ (by omega)]; exact h.q1, by rw [hb.block _ (by omega)]; exact h.q2, by rw [hb.block _ hs]; exact h.q3, owns_same h.own (fun j hj => hb.block j (owns_lt h.own hj)), h.ne, hg, h.low.trans (hb.mono (by omega))⟩
theorem MgSt.set {w : World} {r o : Nat} {st : Int} {va : Value} {b : ByteArray} {st2 : Int} {vb : Value} {c : ByteArray} {z : Value} {P : List (ByteArray × ByteArray)} {W : World} {W' : World} (h : MgSt w r o st va b st2 vb c z P W) (hb : Below W.heap.size W W') {y : Value} {Q : List (ByteArray × ByteArray)} (hy : W'.ownsRow W.heap.size 67 2 y Q.length (flatF Q)) : MgSt w r o st va b st2 vb c y Q (W'.setCell ⟨o, 1, none⟩ y) := by
  have h' := h.below hb
  have hs := h.lt
  have hg := h.ge
  have hne : ∀ j, y.ownBlock = some j → j ≠ o := fun j hj => by have := owns_ge hy hj; omega
  refine ⟨by rw [heap_setCell_other _ _ r _ (by show r ≠ o; omega)]; exact h'.q0, by rw [heap_setCell_other _ _ (r + 1) _ (by show r + 1 ≠ o; omega)]; exact h'.q1, by rw [heap_setCell_other _ _ (r + 1 + 1) _ (by show r + 1 + 1 ≠ o; omega)]; exact h'.q2, ?_, owns_same (owns_wide hy (by omega)) (fun j hj => heap_setCell_other _ _ j _ (hne j hj)), hne, hg, h'.low.setCell (by show r ≤ o; omega) _⟩
  have := heap_set W' o 1 _ _ _ y h'.q3
  simpa using this

set_option maxHeartbeats 2000000 in
set_option maxRecDepth 100000 in
theorem specMerge_any (st : Int) (v : Value) (b : ByteArray) (n base : Nat) (fs : List (ByteArray × ByteArray)) (st2 : Int) (u : Value) (c : ByteArray) (k base2 : Nat) (gs : List (ByteArray × ByteArray)) (w : World) (hv : FieldsV w base v n fs) (hsz : WalkF n fs) (hb : b.size ≤ maxLen) (hu : FieldsV w base2 u k gs) (hnk : n + k ≤ 1999999) (hsz2 : WalkF k gs) :
    Calls Tryz.prog 14 #[.agg #[.int .i64 st, v, .string b], .agg #[.int .i64 st2, u, .string c]] w fun e w' => RespRow st (mergeF st fs b gs) b w e w' := by
  obtain ⟨oa, cap, rfl, _⟩ := hv.slice
  obtain ⟨ob, cb, rfl, hrowb⟩ := hu.slice
  have HLA : Hid (fs.length = n) := hv.len
  have HLB : Hid (gs.length = k) := hu.len
  obtain ⟨r, hr⟩ : ∃ r, r = w.heap.size := ⟨_, rfl⟩
  have HR : Hid (w.heap.size = r) := hr.symm
  have HGR : Hid (∀ j, j < k → ∃ g, ob = some ⟨g, 0, none⟩ ∧ g < r) := fun j hj => by obtain ⟨g, h1, h2⟩ := hrowb j hj; exact ⟨g, h1, by rw [hr]; exact h2.lt⟩
  clear hrowb
  obtain ⟨W1, hW1⟩ : ∃ W, W = ((w.alloc (.cells #[.int .i64 st, .slice oa n cap, .string b] 28)).alloc (.cells #[.int .i64 st2, .slice ob k cb, .string c] 28)).alloc (.cells #[.int .i64 0, .slice none 0 0, .string ⟨#[]⟩] 28) := ⟨_, rfl⟩
  have HW1 : Hid (((w.alloc (.cells #[.int .i64 st, .slice oa n cap, .string b] 28)).alloc (.cells #[.int .i64 st2, .slice ob k cb, .string c] 28)).alloc (.cells #[.int .i64 0, .slice none 0 0, .string ⟨#[]⟩] 28) = W1) := hW1.symm
  have HVA : Hid (∀ W, Below r w W → FieldsV W base (.slice oa n cap) n fs) := fun W h => hv.below (by rw [hr] at h; exact h)
  have HVB : Hid (∀ W, Below r w W → FieldsV W base2 (.slice ob k cb) k gs) := fun W h => hu.below (by rw [hr] at h; exact h)
  have H1 : Hid (W1.heap[r]? = some (.cells #[.int .i64 st, .slice oa n cap, .string b] 28) ∧ W1.heap[r + 1]? = some (.cells #[.int .i64 st2, .slice ob k cb, .string c] 28) ∧ W1.heap[r + 1 + 1]? = some (.cells #[.int .i64 0, .slice none 0 0, .string ⟨#[]⟩] 28) ∧ Below r w W1 ∧ W1.heap.size = r + 1 + 1 + 1) := by
    have b1 : Below r w W1 := by rw [hW1, hr]; exact (((Below.refl _ w).alloc (Nat.le_refl _) _).alloc (by simp) _).alloc (by simp; omega) _
    have s1 : (w.alloc (.cells #[.int .i64 st, .slice oa n cap, .string b] 28)).heap.size = r + 1 := by rw [hr]; simp
    have s2 : ((w.alloc (.cells #[.int .i64 st, .slice oa n cap, .string b] 28)).alloc (.cells #[.int .i64 st2, .slice ob k cb, .string c] 28)).heap.size = r + 1 + 1 := by rw [hr]; simp
    have s3 : W1.heap.size = r + 1 + 1 + 1 := by rw [hW1, hr]; simp
    have e0 := heap_alloc_new w (.cells #[.int .i64 st, .slice oa n cap, .string b] 28)
    have e1 := heap_alloc_new (w.alloc (.cells #[.int .i64 st, .slice oa n cap, .string b] 28)) (.cells #[.int .i64 st2, .slice ob k cb, .string c] 28)
    have e2 := heap_alloc_new ((w.alloc (.cells #[.int .i64 st, .slice oa n cap, .string b] 28)).alloc (.cells #[.int .i64 st2, .slice ob k cb, .string c] 28)) (.cells #[.int .i64 0, .slice none 0 0, .string ⟨#[]⟩] 28)
    rw [← hr] at e0
    rw [s1] at e1
    rw [s2, ← hW1] at e2
    have c1 : Below (r + 1) (w.alloc (.cells #[.int .i64 st, .slice oa n cap, .string b] 28)) W1 := by rw [hW1, ← s1]; exact ((Below.refl _ _).alloc (Nat.le_refl _) _).alloc (by simp) _
    have c2 : Below (r + 1 + 1) ((w.alloc (.cells #[.int .i64 st, .slice oa n cap, .string b] 28)).alloc (.cells #[.int .i64 st2, .slice ob k cb, .string c] 28)) W1 := by rw [hW1, ← s2]; exact (Below.refl _ _).alloc (Nat.le_refl _) _
    exact ⟨by rw [c1.block r (by omega)]; exact e0, by rw [c2.block (r + 1) (by omega)]; exact e1, e2, b1, s3⟩
  have HSZ : Hid (WalkF n fs) := hsz
  have HSB : Hid (WalkF k gs) := hsz2
  have HBM : Hid (b.size ≤ maxLen) := hb
  obtain ⟨⟨c0, c1, c2⟩, _⟩ := three_facts H1.out.1
  have hv1 := HVA.out W1 H1.out.2.2.2.1
  clear hW1 hv hu hsz hsz2 hb
  go_enter Tryz.func14, Tryz.ntmps14
  go_upto_region 1 with fail
  rw [HW1.out, ← hr]
  clear hr HW1
  go_wp2_with fail
  refine (l9Resp_any st _ b n base fs _ hv1 (by omega)).mono ?_
  rintro e w2 ⟨z, rfl, own, b2⟩
  obtain ⟨oz, cz, rfl⟩ := slice_of_owns own
  obtain ⟨o, ho⟩ : ∃ o, o = w2.heap.size := ⟨_, rfl⟩
  have HS0 : Hid (MgSt w r o st (.slice oa n cap) b st2 (.slice ob k cb) c (.slice oz fs.length cz) fs (w2.alloc (.cells #[.int .i64 st, .slice oz fs.length cz, .string b] 28))) := by
    obtain ⟨a0, a1, a2, a3, a4⟩ := H1.out
    have b3 : Below w2.heap.size w2 (w2.alloc (.cells #[.int .i64 st, .slice oz fs.length cz, .string b] 28)) := (Below.refl _ _).alloc (Nat.le_refl _) _
    have b4 := b2.trans (b3.mono b2.size)
    rw [a4] at own b2 b4
    have hs2 := b2.size
    rw [a4] at hs2
    have e3 := heap_alloc_new w2 (.cells #[.int .i64 st, .slice oz fs.length cz, .string b] 28)
    rw [← ho] at e3
    exact ⟨by rw [b4.block r (by omega)]; exact a0, by rw [b4.block (r + 1) (by omega)]; exact a1, by rw [b4.block (r + 1 + 1) (by omega)]; exact a2, e3, owns_same own (fun j hj => b3.block j (owns_lt own hj)), fun j hj => by have := owns_lt own hj; omega, by omega, a3.trans (b4.mono (by omega))⟩
  clear own b2 c0 c1 c2 hv1
  go_upto_region 2 with fail
  rw [← ho]
  obtain ⟨W3, hW3⟩ : ∃ W, W = w2.alloc (.cells #[.int .i64 st, .slice oz fs.length cz, .string b] 28) := ⟨_, rfl⟩
  rw [← hW3] at HS0 ⊢
  clear hW3 ho H1
  go_wp2_with fail
  go_loopw [6] (fun i wr => ∃ (j : Nat) (z : Value) (P : List (ByteArray × ByteArray)), j ≤ k ∧ i = .int .i64 (j : Int) ∧ Hid (MgSt w r o st (.slice oa n cap) b st2 (.slice ob k cb) c z P wr) ∧ Hid (P = putAll fs (gs.take j)) ∧ Hid (WalkF P.length P)) (fun i _ => k - (intOf i).toNat)
  case atStart => exact ⟨0, _, fs, Nat.zero_le _, rfl, HS0, by show _ = _; simp [putAll], by show WalkF _ _; rw [HLA.out]; exact HSZ.out⟩
  case round =>
    obtain ⟨j, z, P, hj, rfl, HS, HP, HW⟩ := hrel
    obtain ⟨oz, cz, rfl⟩ := slice_of_owns HS.out.own
    obtain ⟨⟨_, t1, _⟩, _⟩ := three_facts HS.out.q1
    have HPL : Hid (P.length ≤ 1999999) := by
      show _ ≤ _
      rw [HP.out]
      have h1 := putAll_le fs (gs.take j)
      have h2 := HLA.out
      rw [List.length_take] at h1
      omega
    by_cases hlt : (j : Int) < (k : Int)
    · have hjg : j < gs.length := by rw [HLB.out]; omega
      obtain ⟨_, _, hsl, hrow⟩ := (HVB.out wr HS.out.low).slice
      cases hsl
      obtain ⟨g, rfl, row⟩ := hrow j (by omega)
      have n1 := row.name j (by omega)
      have n2 := row.val j (by omega)
      obtain ⟨w1, w2'⟩ := HSB.out j (by omega)
      obtain ⟨x, hx⟩ : ∃ x, x = nameAt gs j := ⟨_, rfl⟩
      obtain ⟨y, hy⟩ : ∃ y, y = valAt gs j := ⟨_, rfl⟩
      rw [← hx] at n1 w1
      rw [← hy] at n2 w2'
      have HP2 : Hid (putF P x y = putAll fs (gs.take (j + 1))) := by show _ = _; rw [take_field gs j hjg, putAll_snoc, HP.out, hx, hy]
      have HW2 : Hid (WalkF (putF P x y).length (putF P x y)) := put_walk P x y HW.out w1 w2'
      obtain ⟨⟨_, u1, _⟩, _, yf1, _⟩ := three_facts HS.out.q3
      clear hx hy row w1 w2' hjg
      have HVP : Hid (FieldsV wr.drew (r + 1 + 1 + 1) (.slice oz P.length cz) P.length P) := FieldsV.of_owns (HS.out.below (Below.refl _ _).drew).own
      have HAF : Hid (∀ W1, Below wr.drew.heap.size wr.drew W1 → ∀ z2, W1.ownsRow wr.drew.heap.size 67 2 z2 (putF P x y).length (flatF (putF P x y)) → (W1.cell? ⟨r + 1, 1, none⟩ = some (.slice (some ⟨g, 0, none⟩) k cb) ∧ W1.cell? ⟨g, j * 2, none⟩ = some (.string x) ∧ W1.cell? ⟨g, j * 2 + 1, none⟩ = some (.string y)) ∧ ((W1.setCell ⟨o, 1, none⟩ z2).cell? ⟨r + 1, 1, none⟩ = some (.slice (some ⟨g, 0, none⟩) k cb) ∧ (W1.setCell ⟨o, 1, none⟩ z2).cell? ⟨g, j * 2, none⟩ = some (.string x) ∧ (W1.setCell ⟨o, 1, none⟩ z2).cell? ⟨g, j * 2 + 1, none⟩ = some (.string y)) ∧ (∃ q, W1.cell? ⟨o, 1, none⟩ = some q) ∧ W1.frozen? ⟨o, 1, none⟩ = false ∧ MgSt w r o st (.slice oa n cap) b st2 (.slice (some ⟨g, 0, none⟩) k cb) c z2 (putF P x y) (W1.setCell ⟨o, 1, none⟩ z2)) := by
        intro W1 b1 z2 own2
        have b1' : Below wr.heap.size wr W1 := (Below.refl _ wr).drew.trans (b1.mono (Nat.le_refl _))
        have h1 := HS.out.below b1'
        obtain ⟨⟨_, a1, _⟩, _⟩ := three_facts h1.q1
        obtain ⟨⟨_, a2, _⟩, _, a3, _⟩ := three_facts h1.q3
        have hge := HS.out.ge
        obtain ⟨g', hg1, hg2⟩ := HGR.out j (by omega)
        cases hg1
        have hgw : g < wr.heap.size := by have := HS.out.lt; omega
        have m1 : W1.cell? ⟨g, j * 2, none⟩ = some (.string x) := by rw [b1'.cell (p := ⟨g, j * 2, none⟩) hgw]; exact n1
        have m2 : W1.cell? ⟨g, j * 2 + 1, none⟩ = some (.string y) := by rw [b1'.cell (p := ⟨g, j * 2 + 1, none⟩) hgw]; exact n2
        exact ⟨⟨a1, m1, m2⟩, ⟨by rw [cell_set_other _ _ _ _ _ _ (by omega)]; exact a1, by rw [cell_set_other _ _ _ _ _ _ (by omega)]; exact m1, by rw [cell_set_other _ _ _ _ _ _ (by omega)]; exact m2⟩, ⟨_, a2⟩, a3, HS.out.set b1' own2⟩
      go_upto_region 5 with fail
      refine wp_region_held_drew (S := fun W => W.cell? ⟨r + 1, 1, none⟩ = some (.slice (some ⟨g, 0, none⟩) k cb) ∧ W.cell? ⟨g, j * 2, none⟩ = some (.string x) ∧ W.cell? ⟨g, j * 2 + 1, none⟩ = some (.string y)) (by kernel_rfl) ⟨t1, n1, n2⟩ (fun hS0 => ?_)
      refine wpAnyH_takeD (i := 0) (v := .pointer (some ⟨o, 1, none⟩)) (some 16) rfl rfl (by kernel_rfl) (by kernel_rfl) (by kernel_rfl) (fun _ _ _ h => h) (Or.inl ⟨by rfl, by intro W _; go_simp⟩) hS0 ?_
      simp only [Act.put, List.setIfInBounds_toArray, List.set_cons_zero, List.set_cons_succ]
      refine wpAnyH_takeD (i := 2) (v := .pointer (some ⟨r + 1, 1, none⟩)) (some 18) rfl rfl (by kernel_rfl) (by kernel_rfl) (by kernel_rfl) (fun _ _ _ h => h) (Or.inl ⟨by rfl, by intro W _; go_simp⟩) hS0 ?_
      simp only [Act.put, List.setIfInBounds_toArray, List.set_cons_zero, List.set_cons_succ]
      refine wpAnyH_takeD (i := 3) (v := .slice (some ⟨g, 0, none⟩) k cb) (some 19) rfl rfl (by kernel_rfl) (by kernel_rfl) (by kernel_rfl) (fun _ _ _ h => h) (Or.inl ⟨by rfl, by intro W hW; obtain ⟨h1, h2, h3⟩ := hW; go_simp⟩) hS0 ?_
      simp only [Act.put, List.setIfInBounds_toArray, List.set_cons_zero, List.set_cons_succ]
      refine wpAnyH_takeD (i := 4) (v := .int .i64 (j : Int)) (some 20) rfl rfl (by kernel_rfl) (by kernel_rfl) (by kernel_rfl) (fun _ _ _ h => h) (Or.inl ⟨by rfl, by intro W _; go_simp⟩) hS0 ?_
      simp only [Act.put, List.setIfInBounds_toArray, List.set_cons_zero, List.set_cons_succ]
      refine wpAnyH_takeD (i := 5) (v := .pointer (some ⟨g, j * 2, none⟩)) (some 21) rfl rfl (by kernel_rfl) (by kernel_rfl) (by kernel_rfl) (fun _ _ _ h => h) (Or.inl ⟨by rfl, by intro W _; go_simp⟩) hS0 ?_
      simp only [Act.put, List.setIfInBounds_toArray, List.set_cons_zero, List.set_cons_succ]
      refine wpAnyH_takeD (i := 6) (v := .pointer (some ⟨g, j * 2, none⟩)) (some 22) rfl rfl (by kernel_rfl) (by kernel_rfl) (by kernel_rfl) (fun _ _ _ h => h) (Or.inl ⟨by rfl, by intro W _; go_simp⟩) hS0 ?_
      simp only [Act.put, List.setIfInBounds_toArray, List.set_cons_zero, List.set_cons_succ]
      refine wpAnyH_takeD (i := 7) (v := .string x) (some 23) rfl rfl (by kernel_rfl) (by kernel_rfl) (by kernel_rfl) (fun _ _ _ h => h) (Or.inl ⟨by rfl, by intro W hW; obtain ⟨h1, h2, h3⟩ := hW; go_simp⟩) hS0 ?_
      simp only [Act.put, List.setIfInBounds_toArray, List.set_cons_zero, List.set_cons_succ]
      refine wpAnyH_takeD (i := 8) (v := .pointer (some ⟨r + 1, 1, none⟩)) (some 24) rfl rfl (by kernel_rfl) (by kernel_rfl) (by kernel_rfl) (fun _ _ _ h => h) (Or.inl ⟨by rfl, by intro W _; go_simp⟩) hS0 ?_
      simp only [Act.put, List.setIfInBounds_toArray, List.set_cons_zero, List.set_cons_succ]
      refine wpAnyH_takeD (i := 9) (v := .slice (some ⟨g, 0, none⟩) k cb) (some 25) rfl rfl (by kernel_rfl) (by kernel_rfl) (by kernel_rfl) (fun _ _ _ h => h) (Or.inl ⟨by rfl, by intro W hW; obtain ⟨h1, h2, h3⟩ := hW; go_simp⟩) hS0 ?_
      simp only [Act.put, List.setIfInBounds_toArray, List.set_cons_zero, List.set_cons_succ]
      refine wpAnyH_takeD (i := 10) (v := .int .i64 (j : Int)) (some 26) rfl rfl (by kernel_rfl) (by kernel_rfl) (by kernel_rfl) (fun _ _ _ h => h) (Or.inl ⟨by rfl, by intro W _; go_simp⟩) hS0 ?_
      simp only [Act.put, List.setIfInBounds_toArray, List.set_cons_zero, List.set_cons_succ]
      refine wpAnyH_takeD (i := 11) (v := .pointer (some ⟨g, j * 2, none⟩)) (some 27) rfl rfl (by kernel_rfl) (by kernel_rfl) (by kernel_rfl) (fun _ _ _ h => h) (Or.inl ⟨by rfl, by intro W _; go_simp⟩) hS0 ?_
      simp only [Act.put, List.setIfInBounds_toArray, List.set_cons_zero, List.set_cons_succ]
      refine wpAnyH_takeD (i := 12) (v := .pointer (some ⟨g, j * 2 + 1, none⟩)) (some 28) rfl rfl (by kernel_rfl) (by kernel_rfl) (by kernel_rfl) (fun _ _ _ h => h) (Or.inl ⟨by rfl, by intro W _; go_simp⟩) hS0 ?_
      simp only [Act.put, List.setIfInBounds_toArray, List.set_cons_zero, List.set_cons_succ]
      refine wpAnyH_takeD (i := 13) (v := .string y) (some 29) rfl rfl (by kernel_rfl) (by kernel_rfl) (by kernel_rfl) (fun _ _ _ h => h) (Or.inl ⟨by rfl, by intro W hW; obtain ⟨h1, h2, h3⟩ := hW; go_simp⟩) hS0 ?_
      simp only [Act.put, List.setIfInBounds_toArray, List.set_cons_zero, List.set_cons_succ]
      refine wpAnyH_ready (rs := [1]) (by kernel_rfl) (by simp) ?_
      refine AllReadyH.cons rfl (fun K hK => ?_) AllReadyH.nil
      go_simp
      refine hK.out _ _ hS0 (fun hS1 => ?_)
      clear hK K
      refine wpAnyH_ready (rs := [14]) (by kernel_rfl) (by simp) ?_
      refine AllReadyH.cons rfl (fun K hK => ?_) AllReadyH.nil
      go_simp
      refine (specPut_any _ P.length _ P x y _ HVP.out (by have := HPL.out; omega)).mono ?_
      rintro e w5 ⟨z5, rfl, own5, b5⟩
      obtain ⟨o5, c5, rfl⟩ := slice_of_owns own5
      obtain ⟨hS5, hS6, ⟨q5, hq5⟩, f5, hM5⟩ := HAF.out w5 b5 _ own5
      have HM5 : Hid (MgSt w r o st (.slice oa n cap) b st2 (.slice (some ⟨g, 0, none⟩) k cb) c (.slice o5 (putF P x y).length c5) (putF P x y) (w5.setCell ⟨o, 1, none⟩ (.slice o5 (putF P x y).length c5))) := hM5
      refine hK.out _ _ hS5 (fun _ => ?_)
      clear hK K own5 b5 hM5 hS0 hS1 t1 n1 n2 u1 yf1 HVP HAF HS
      refine wpAnyH_takeD (i := 15) (v := .pointer (some ⟨o, 1, none⟩)) (some 31) rfl rfl (by kernel_rfl) (by kernel_rfl) (by kernel_rfl) (fun _ _ _ h => h) (Or.inl ⟨by rfl, by intro W _; go_simp⟩) hS5 ?_
      simp only [Act.put, List.setIfInBounds_toArray, List.set_cons_zero, List.set_cons_succ]
      refine wpAnyH_ready (rs := [16]) (by kernel_rfl) (by simp) ?_
      refine AllReadyH.cons rfl (fun K hK => ?_) AllReadyH.nil
      go_simp
      refine hK.out _ _ hS6 (fun _ => ?_)
      clear hK K hq5 f5 hS5 hS6
      refine wpAnyH_done (by kernel_rfl) ?_ _
      go_wp2_with fail
      go_roundw
      case rel => exact ⟨j + 1, _, putF P x y, by omega, by go_num, HM5, HP2, HW2⟩
      case measure => simp [intOf]; omega
    · obtain rfl : j = k := by omega
      have HPE : Hid (P = putAll fs gs) := by
        have h := HP.out
        rw [List.take_of_length_le (by rw [HLB.out]; exact Nat.le_refl _)] at h
        exact h
      have HVP : Hid (FieldsV wr (r + 1 + 1 + 1) (.slice oz P.length cz) P.length P) := FieldsV.of_owns HS.out.own
      obtain ⟨⟨u0, u1, u2⟩, _⟩ := three_facts HS.out.q3
      clear HP
      go_wp2_with fail
      refine (specRespOk_any st _ b P.length _ P _ HVP.out (by have := HPL.out; omega) HW.out HBM.out).mono ?_
      rintro e w5 ⟨ok, rfl, hok, b5⟩
      have HS5 : Hid (MgSt w r o st (.slice oa n cap) b st2 (.slice ob j cb) c (.slice oz P.length cz) P w5) := HS.out.below b5
      clear b5 HVP u0 u1 u2 t1 HS
      cases ok with
      | true =>
        have HFE : Hid (mergeF st fs b gs = P) := by
          show _ = _
          unfold mergeF
          rw [← HPE.out]
          exact if_pos (hok.1 rfl)
        clear hok
        obtain ⟨⟨d0, d1, d2⟩, _⟩ := three_facts HS5.out.q3
        obtain ⟨⟨e0, e1, e2⟩, g0, g1, g2⟩ := three_facts HS5.out.q2
        have hset := three_set HS5.out.q2 (.int .i64 st) (.slice oz P.length cz) (.string b)
        obtain ⟨⟨k0, k1, k2⟩, _⟩ := three_facts hset
        have HFB : Hid (Below r w (threeSet w5 (r + 1 + 1) (.int .i64 st) (.slice oz P.length cz) (.string b))) := below_three HS5.out.low (by omega)
        have HFO : Hid ((threeSet w5 (r + 1 + 1) (.int .i64 st) (.slice oz P.length cz) (.string b)).ownsRow r 67 2 (.slice oz P.length cz) (mergeF st fs b gs).length (flatF (mergeF st fs b gs))) := by
          show World.ownsRow _ _ _ _ _ _ _
          rw [HFE.out]
          refine owns_same (owns_wide HS5.out.own (by omega)) (fun j hj => ?_)
          have hj2 := owns_ge HS5.out.own hj
          rw [three_other _ _ j _ _ _ (by omega)]
        unfold threeSet at k0 k1 k2 HFB HFO
        clear hset HS5
        go_wp2_with fail
        refine bodyPost_ret (v := .agg #[.int .i64 st, .slice oz P.length cz, .string b]) (by simp [results, Tryz.results14, go_sem, k0, k1, k2]) rfl ?_
        exact ⟨_, rfl, by rw [HR.out]; exact HFO.out, by rw [HR.out]; exact HFB.out⟩
      | false =>
        have HFE : Hid (mergeF st fs b gs = fs) := by
          show _ = _
          unfold mergeF
          rw [← HPE.out]
          exact if_neg (fun h => nomatch hok.2 h)
        obtain ⟨⟨u0, u1, u2⟩, _⟩ := three_facts HS5.out.q0
        have hva := HVA.out w5 HS5.out.low
        clear hok
        go_wp2_with fail
        refine (l9Resp_any st _ b n base fs _ hva (by omega)).mono ?_
        rintro e w6 ⟨z6, rfl, own6, b6⟩
        obtain ⟨o6, c6, rfl⟩ := slice_of_owns own6
        have H6 : Hid (w6.heap[r + 1 + 1]? = some (.cells #[.int .i64 0, .slice none 0 0, .string ⟨#[]⟩] 28) ∧ Below r w w6) := ⟨by rw [b6.block _ (by have := HS5.out.lt; have := HS5.out.ge; omega)]; exact HS5.out.q2, (HS5.out.below b6).low⟩
        have HO6 : Hid (w6.ownsRow (r + 1 + 1 + 1) 67 2 (.slice o6 fs.length c6) fs.length (flatF fs)) := owns_wide own6 (by have := HS5.out.lt; have := HS5.out.ge; omega)
        clear own6 b6 u0 u1 u2 hva HS5
        obtain ⟨⟨e0, e1, e2⟩, g0, g1, g2⟩ := three_facts H6.out.1
        have hset := three_set H6.out.1 (.int .i64 st) (.slice o6 fs.length c6) (.string b)
        obtain ⟨⟨k0, k1, k2⟩, _⟩ := three_facts hset
        have HFB : Hid (Below r w (threeSet w6 (r + 1 + 1) (.int .i64 st) (.slice o6 fs.length c6) (.string b))) := below_three H6.out.2 (by omega)
        have HFO : Hid ((threeSet w6 (r + 1 + 1) (.int .i64 st) (.slice o6 fs.length c6) (.string b)).ownsRow r 67 2 (.slice o6 fs.length c6) (mergeF st fs b gs).length (flatF (mergeF st fs b gs))) := by
          show World.ownsRow _ _ _ _ _ _ _
          rw [HFE.out]
          refine owns_same (owns_wide HO6.out (by omega)) (fun j hj => ?_)
          have hj2 := owns_ge HO6.out hj
          rw [three_other _ _ j _ _ _ (by omega)]
        unfold threeSet at k0 k1 k2 HFB HFO
        clear hset H6 HO6
        go_wp2_with fail
        refine bodyPost_ret (v := .agg #[.int .i64 st, .slice o6 fs.length c6, .string b]) (by simp [results, Tryz.results14, go_sem, k0, k1, k2]) rfl ?_
        exact ⟨_, rfl, by rw [HR.out]; exact HFO.out, by rw [HR.out]; exact HFB.out⟩

end Go.Proofs.YthlmnmbhgkmbfaaGreatDoor

namespace Go.Proofs.YthlmnmbhgkmbfaaGreatDoor
open Go.RowKit
open Go.Lib hiding intOf

/-- While both keepings are read: which of the two variables are made, in which blocks. -/
structure CkSt (W1 : World) (a1 a2 : Option Nat) (W : World) : Prop where
  low : Below W1.heap.size W1 W
  b1 : ∀ o, a1 = some o → CcAt W o cc0 ∧ W1.heap.size ≤ o
  b2 : ∀ o, a2 = some o → CcAt W o cc0 ∧ W1.heap.size ≤ o
  ne : ∀ o, a1 = some o → a2 ≠ some o
theorem CkSt.below {W1 W W' : World} {a1 a2 : Option Nat} (h : CkSt W1 a1 a2 W) (hb : Below W.heap.size W W') : CkSt W1 a1 a2 W' :=
  ⟨h.low.trans (hb.mono h.low.size), fun o ho => ⟨(h.b1 o ho).1.same (hb.block o (h.b1 o ho).1.lt), (h.b1 o ho).2⟩, fun o ho => ⟨(h.b2 o ho).1.same (hb.block o (h.b2 o ho).1.lt), (h.b2 o ho).2⟩, h.ne⟩
theorem CkSt.make1 {W1 W : World} {a2 : Option Nat} (h : CkSt W1 none a2 W) : CkSt W1 (some W.heap.size) a2 (W.alloc (.cells cc0.cs 33)) := by
  have h' := h.below ((Below.refl _ _).alloc (Nat.le_refl _) (.cells cc0.cs 33))
  exact ⟨h'.low, fun o ho => by cases ho; exact ⟨heap_alloc_new W _, h.low.size⟩, h'.b2, fun o ho e => by cases ho; have := (h.b2 _ e).1.lt; omega⟩
theorem CkSt.make2 {W1 W : World} {a1 : Option Nat} (h : CkSt W1 a1 none W) : CkSt W1 a1 (some W.heap.size) (W.alloc (.cells cc0.cs 33)) := by
  have h' := h.below ((Below.refl _ _).alloc (Nat.le_refl _) (.cells cc0.cs 33))
  exact ⟨h'.low, h'.b1, fun o ho => by cases ho; exact ⟨heap_alloc_new W _, h.low.size⟩, fun o ho e => by cases e; have := (h.b1 _ ho).1.lt; omega⟩
theorem lower_size (s : ByteArray) : (lowerOf s).size = s.size := by unfold lowerOf; rw [strOfNums_size, lowXs_len]
theorem putCcO (W : World) (g j : Nat) (d : CcD) (h : j ≠ g) : (putCc W g d).heap[j]? = W.heap[j]? := by
  unfold putCc
  rw [heap_setCell_other _ _ j _ h, heap_setCell_other _ _ j _ h, heap_setCell_other _ _ j _ h, heap_setCell_other _ _ j _ h, heap_setCell_other _ _ j _ h, heap_setCell_other _ _ j _ h]

set_option maxHeartbeats 8000000 in
set_option maxRecDepth 100000 in
theorem specMayKeep_any (m : Int) (p : ByteArray) (v : Value) (b : ByteArray) (n base : Nat) (fs : List (ByteArray × ByteArray)) (st : Int) (u : Value) (c : ByteArray) (k base2 : Nat) (gs : List (ByteArray × ByteArray)) (w : World) (hv : FieldsV w base v n fs) (hn : n ≤ 1073741824) (hsz : WalkF n fs) (hp : p.size ≤ maxLen) (hb : b.size ≤ maxLen) (hu : FieldsV w base2 u k gs) (hk : k ≤ 1073741824) (hsz2 : WalkF k gs) (hc : c.size ≤ maxLen) (hg1 : (getV fs ccName).size ≤ 1048576) (hg2 : (getV gs ccName).size ≤ 1048576) (hg3 : (getV gs varyName).size ≤ 1048576) :
    Calls Tryz.prog 7 #[.agg #[.int .i64 m, .string p, v, .string b], .agg #[.int .i64 st, u, .string c]] w fun e w' => BoolIs (MayP m p fs b st gs c) w e w' := by
  obtain ⟨oa, cap, rfl, _⟩ := hv.slice
  obtain ⟨ob, cb, rfl, _⟩ := hu.slice
  obtain ⟨r, hr⟩ : ∃ r, r = w.heap.size := ⟨_, rfl⟩
  have HR : Hid (w.heap.size = r) := hr.symm
  obtain ⟨W1, hW1⟩ : ∃ W, W = (w.alloc (.cells #[.int .i64 m, .string p, .slice oa n cap, .string b] 26)).alloc (.cells #[.int .i64 st, .slice ob k cb, .string c] 28) := ⟨_, rfl⟩
  have HW1 : Hid ((w.alloc (.cells #[.int .i64 m, .string p, .slice oa n cap, .string b] 26)).alloc (.cells #[.int .i64 st, .slice ob k cb, .string c] 28) = W1) := hW1.symm
  have HKEEP : Hid (∀ W, Below W1.heap.size W1 W → (W.heap[r]? = some (.cells #[.int .i64 m, .string p, .slice oa n cap, .string b] 26) ∧ W.heap[r + 1]? = some (.cells #[.int .i64 st, .slice ob k cb, .string c] 28)) ∧ FieldsV W base (.slice oa n cap) n fs ∧ FieldsV W base2 (.slice ob k cb) k gs ∧ Below w.heap.size w W) := by
    intro W hW
    have b1 : Below r w W1 := by rw [hW1, hr]; exact ((Below.refl _ w).alloc (Nat.le_refl _) _).alloc (by simp) _
    have s1 : (w.alloc (.cells #[.int .i64 m, .string p, .slice oa n cap, .string b] 26)).heap.size = r + 1 := by rw [hr]; simp
    have s2 : W1.heap.size = r + 1 + 1 := by rw [hW1, hr]; simp
    have e0 := heap_alloc_new w (.cells #[.int .i64 m, .string p, .slice oa n cap, .string b] 26)
    have e1 := heap_alloc_new (w.alloc (.cells #[.int .i64 m, .string p, .slice oa n cap, .string b] 26)) (.cells #[.int .i64 st, .slice ob k cb, .string c] 28)
    rw [← hr] at e0
    rw [s1, ← hW1] at e1
    have c1 : Below (r + 1) (w.alloc (.cells #[.int .i64 m, .string p, .slice oa n cap, .string b] 26)) W1 := by rw [hW1, ← s1]; exact (Below.refl _ _).alloc (Nat.le_refl _) _
    rw [s2] at hW
    have b2 : Below r w W := b1.trans (hW.mono (by omega))
    rw [hr] at b2
    exact ⟨⟨by rw [hW.block r (by omega), c1.block r (by omega)]; exact e0, by rw [hW.block (r + 1) (by omega)]; exact e1⟩, hv.below b2, hu.below b2, b2⟩
  have HSZ : Hid (WalkF n fs) := hsz
  have HSB : Hid (WalkF k gs) := hsz2
  have HPM : Hid (p.size ≤ maxLen) := hp
  have HBM : Hid (b.size ≤ maxLen) := hb
  have HCM : Hid (c.size ≤ maxLen) := hc
  have HG1 : Hid ((getV fs ccName).size ≤ 1048576) := hg1
  have HG2 : Hid ((getV gs ccName).size ≤ 1048576) := hg2
  have HG3 : Hid ((getV gs varyName).size ≤ 1048576) := hg3
  obtain ⟨⟨h0, h1⟩, hv1, hu1, _⟩ := HKEEP.out W1 (Below.refl _ _)
  obtain ⟨⟨c0, c1, c2, c3⟩, _⟩ := four_facts h0
  clear hW1 hv hu hsz hsz2 hp hb hc hg1 hg2 hg3 h0 h1 hu1
  go_enter Tryz.func7, Tryz.ntmps7
  go_upto_region 1 with fail
  rw [HW1.out, ← hr]
  clear hr HW1
  go_wp2_with fail
  refine (specReqOk_any m p _ b n base fs _ hv1 hn HSZ.out HPM.out HBM.out).mono ?_
  rintro e w2 ⟨okq, rfl, hokq, b2⟩
  have HB2 : Hid (Below W1.heap.size W1 w2) := b2
  clear c0 c1 c2 c3 hv1 b2
  obtain ⟨⟨h0, h1⟩, _, hu2, hb2⟩ := HKEEP.out w2 HB2.out
  have HB : Hid (Below w.heap.size w w2) := hb2
  cases okq with
  | false =>
    clear h0 h1 hu2 hb2
    have HF : Hid (¬ MayP m p fs b st gs c) := fun h => nomatch hokq.2 h.1.1
    clear hokq
    go_wp2_with fail
    go_ret
    exact BoolIs.no HF.out HB.out
  | true =>
    have HRQ : Hid (ReqP m p fs b) := hokq.1 rfl
    obtain ⟨⟨d0, d1, d2⟩, _⟩ := three_facts h1
    clear h0 h1 hb2 hokq HB
    go_wp2_with fail
    refine (specRespOk_any st _ c k base2 gs _ hu2 hk HSB.out HCM.out).mono ?_
    rintro e w3 ⟨okr, rfl, hokr, b3⟩
    have HB3 : Hid (Below W1.heap.size W1 w3) := HB2.out.trans (b3.mono HB2.out.size)
    clear d0 d1 d2 hu2 b3 HB2
    obtain ⟨⟨h0, h1⟩, _, _, hb3⟩ := HKEEP.out w3 HB3.out
    have HB : Hid (Below w.heap.size w w3) := hb3
    cases okr with
    | false =>
      clear h0 h1 hb3
      have HF : Hid (¬ MayP m p fs b st gs c) := fun h => nomatch hokr.2 h.1.2.1
      clear hokr
      go_wp2_with fail
      go_ret
      exact BoolIs.no HF.out HB.out
    | true =>
      have HRP : Hid (RespP st gs c) := hokr.1 rfl
      obtain ⟨⟨c0, c1, c2, c3⟩, _⟩ := four_facts h0
      obtain ⟨⟨d0, d1, d2⟩, _⟩ := three_facts h1
      clear h0 h1 hb3 hokr
      by_cases hm : m = 1
      · by_cases hst : st = 200
        · subst hm hst
          obtain ⟨tq, htq⟩ : ∃ t, t = getV fs ccName := ⟨_, rfl⟩
          obtain ⟨cq, hcq⟩ : ∃ t, t = ccR tq := ⟨_, rfl⟩
          obtain ⟨tr, htr⟩ : ∃ t, t = getV gs ccName := ⟨_, rfl⟩
          obtain ⟨cr, hcr⟩ : ∃ t, t = ccR tr := ⟨_, rfl⟩
          have HQ : Hid (MayP 1 p fs b 200 gs c ↔ cq.ns = false ∧ cr.ns = false ∧ cr.pr = false ∧ cr.ha = true ∧ NamesP (varyP gs)) := by
            show _ ↔ _
            unfold MayP
            rw [← htq, ← htr, ← hcq, ← hcr]
            exact ⟨fun h => h.2, fun h => ⟨⟨HRQ.out, HRP.out, rfl, rfl⟩, h⟩⟩
          have HC1 : Hid (∀ W, Below W1.heap.size W1 W → Calls Tryz.prog 23 #[.slice oa n cap] W fun e w' => e = .returned (.agg #[.bool cq.ns, .bool cq.nc, .bool cq.pr, .bool cq.mu, .bool cq.ha, .int .i64 cq.age]) ∧ Below W.heap.size W w') := fun W h => by
            have := specCcOf_any (.slice oa n cap) n base fs W (HKEEP.out W h).2.1 hn HG1.out
            rw [← htq, ← hcq] at this
            exact this
          have HC2 : Hid (∀ W, Below W1.heap.size W1 W → Calls Tryz.prog 23 #[.slice ob k cb] W fun e w' => e = .returned (.agg #[.bool cr.ns, .bool cr.nc, .bool cr.pr, .bool cr.mu, .bool cr.ha, .int .i64 cr.age]) ∧ Below W.heap.size W w') := fun W h => by
            have := specCcOf_any (.slice ob k cb) k base2 gs W (HKEEP.out W h).2.2.1 hk HG2.out
            rw [← htr, ← hcr] at this
            exact this
          have HSS : Hid (∀ W, Below W1.heap.size W1 W → W.cell? ⟨r, 2, none⟩ = some (.slice oa n cap) ∧ W.cell? ⟨r + 1, 1, none⟩ = some (.slice ob k cb)) := fun W h => by
            obtain ⟨⟨h0, h1⟩, _⟩ := HKEEP.out W h
            exact ⟨(four_facts h0).1.2.2.1, (three_facts h1).1.2.1⟩
          clear htq hcq htr hcr
          obtain ⟨q0, q1, q2, q3, q4, q5⟩ := cq
          obtain ⟨z0, z1, z2, z3, z4, z5⟩ := cr
          dsimp only at HQ HC1 HC2
          have HST0 : Hid (CkSt W1 none none w3.drew) := ⟨HB3.out.drew, (fun o ho => by cases ho), (fun o ho => by cases ho), (fun o ho => by cases ho)⟩
          clear HB3 HB HRQ HRP
          go_upto_region 3 with fail
          clear c0 c1 c3 d0 d2
          go_cut [5, 6] (fun s5 s6 wx => ∃ o1 o2 : Nat, s5 = .pointer (some ⟨o1, 0, none⟩) ∧ s6 = .pointer (some ⟨o2, 0, none⟩) ∧ Hid (Below W1.heap.size W1 wx ∧ CcAt wx o1 ⟨q0, q1, q2, q3, q4, q5⟩ ∧ CcAt wx o2 ⟨z0, z1, z2, z3, z4, z5⟩))
          case first =>
            refine wp_region_held_drew (S := fun W => W.cell? ⟨r, 2, none⟩ = some (.slice oa n cap) ∧ W.cell? ⟨r + 1, 1, none⟩ = some (.slice ob k cb)) (by kernel_rfl) ⟨c2, d1⟩ (fun hS0 => ?_)
            obtain ⟨X0, hX0⟩ : ∃ X, X = w3.drew := ⟨_, rfl⟩
            rw [← hX0] at hS0 HST0 ⊢
            clear hX0 c2 d1
            have HST := HST0
            clear HST0
            refine wpAnyH_takeD (i := 0) (v := .pointer (some ⟨r, 2, none⟩)) (some 25) rfl rfl (by kernel_rfl) (by kernel_rfl) (by kernel_rfl) (fun _ _ _ h => h) (Or.inl ⟨by rfl, by intro W _; go_simp⟩) hS0 ?_
            simp only [Act.put, List.setIfInBounds_toArray, List.set_cons_zero, List.set_cons_succ]
            refine wpAnyH_takeD (i := 1) (v := .slice oa n cap) (some 26) rfl rfl (by kernel_rfl) (by kernel_rfl) (by kernel_rfl) (fun _ _ _ h => h) (Or.inl ⟨by rfl, by intro W hW; obtain ⟨h1, h2⟩ := hW; go_simp⟩) hS0 ?_
            simp only [Act.put, List.setIfInBounds_toArray, List.set_cons_zero, List.set_cons_succ]
            refine wpAnyH_takeD (i := 3) (v := .pointer (some ⟨r + 1, 1, none⟩)) (some 28) rfl rfl (by kernel_rfl) (by kernel_rfl) (by kernel_rfl) (fun _ _ _ h => h) (Or.inl ⟨by rfl, by intro W _; go_simp⟩) hS0 ?_
            simp only [Act.put, List.setIfInBounds_toArray, List.set_cons_zero, List.set_cons_succ]
            refine wpAnyH_takeD (i := 4) (v := .slice ob k cb) (some 29) rfl rfl (by kernel_rfl) (by kernel_rfl) (by kernel_rfl) (fun _ _ _ h => h) (Or.inl ⟨by rfl, by intro W hW; obtain ⟨h1, h2⟩ := hW; go_simp⟩) hS0 ?_
            simp only [Act.put, List.setIfInBounds_toArray, List.set_cons_zero, List.set_cons_succ]
            refine wpAnyH_ready (rs := [2, 6, 7]) (by kernel_rfl) (by simp) ?_
            refine AllReadyH.cons rfl (fun K hK => ?_) (AllReadyH.cons rfl (fun K hK => ?_) (AllReadyH.cons rfl (fun K hK => ?_) AllReadyH.nil))
            · go_simp
              refine (HC1.out _ HST.out.low).mono ?_
              rintro e X1 ⟨rfl, bx⟩
              have HSN : Hid (CkSt W1 none none X1) := HST.out.below bx
              refine hK.out _ _ (HSS.out _ HSN.out.low) (fun _ => ?_)
              clear hK K HST bx
              have HST := HSN
              clear HSN
              refine wpAnyH_ready (rs := [5, 6, 7]) (by kernel_rfl) (by simp) ?_
              refine AllReadyH.cons rfl (fun K hK => ?_) (AllReadyH.cons rfl (fun K hK => ?_) (AllReadyH.cons rfl (fun K hK => ?_) AllReadyH.nil))
              · go_simp
                refine (HC2.out _ HST.out.low).mono ?_
                rintro e X2 ⟨rfl, bx⟩
                have HSN : Hid (CkSt W1 none none X2) := HST.out.below bx
                refine hK.out _ _ (HSS.out _ HSN.out.low) (fun _ => ?_)
                clear hK K HST bx
                have HST := HSN
                clear HSN
                refine wpAnyH_ready (rs := [6, 7]) (by kernel_rfl) (by simp) ?_
                refine AllReadyH.cons rfl (fun K hK => ?_) (AllReadyH.cons rfl (fun K hK => ?_) AllReadyH.nil)
                · have HSN : Hid (CkSt W1 (some X2.heap.size) none (X2.alloc (.cells #[.bool false, .bool false, .bool false, .bool false, .bool false, .int .i64 0] 33))) := HST.out.make1
                  go_simp
                  refine hK.out _ _ (HSS.out _ HSN.out.low) (fun _ => ?_)
                  clear hK K HST
                  obtain ⟨p6, ho⟩ : ∃ o, o = X2.heap.size := ⟨_, rfl⟩
                  obtain ⟨X3, hX⟩ : ∃ X, X = X2.alloc (.cells #[.bool false, .bool false, .bool false, .bool false, .bool false, .int .i64 0] 33) := ⟨_, rfl⟩
                  rw [← ho] at HSN ⊢
                  rw [← hX] at HSN ⊢
                  clear ho hX
                  have HST := HSN
                  clear HSN
                  refine wpAnyH_ready (rs := [7]) (by kernel_rfl) (by simp) ?_
                  refine AllReadyH.cons rfl (fun K hK => ?_) AllReadyH.nil
                  have HSN : Hid (CkSt W1 (some p6) (some X3.heap.size) (X3.alloc (.cells #[.bool false, .bool false, .bool false, .bool false, .bool false, .int .i64 0] 33))) := HST.out.make2
                  go_simp
                  refine hK.out _ _ (HSS.out _ HSN.out.low) (fun _ => ?_)
                  clear hK K HST
                  obtain ⟨p7, ho⟩ : ∃ o, o = X3.heap.size := ⟨_, rfl⟩
                  obtain ⟨X4, hX⟩ : ∃ X, X = X3.alloc (.cells #[.bool false, .bool false, .bool false, .bool false, .bool false, .int .i64 0] 33) := ⟨_, rfl⟩
                  rw [← ho] at HSN ⊢
                  rw [← hX] at HSN ⊢
                  clear ho hX
                  have HST := HSN
                  clear HSN
                  have hne : p6 ≠ p7 := fun e => HST.out.ne p6 rfl (by rw [e])
                  obtain ⟨Y, hY⟩ : ∃ Y, Y = ((((((X4.setCell ⟨p6, 0, none⟩ (.bool q0)).setCell ⟨p6, 1, none⟩ (.bool q1)).setCell ⟨p6, 2, none⟩ (.bool q2)).setCell ⟨p6, 3, none⟩ (.bool q3)).setCell ⟨p6, 4, none⟩ (.bool q4)).setCell ⟨p6, 5, none⟩ (.int .i64 q5)) := ⟨_, rfl⟩
                  have HY : Hid (((((((X4.setCell ⟨p6, 0, none⟩ (.bool q0)).setCell ⟨p6, 1, none⟩ (.bool q1)).setCell ⟨p6, 2, none⟩ (.bool q2)).setCell ⟨p6, 3, none⟩ (.bool q3)).setCell ⟨p6, 4, none⟩ (.bool q4)).setCell ⟨p6, 5, none⟩ (.int .i64 q5)) = Y) := hY.symm
                  have HR1 : Hid (CcAt X4 p6 cc0) := (HST.out.b1 p6 rfl).1
                  have HYL : Hid (Below W1.heap.size W1 Y) := by show Below _ _ _; rw [hY]; exact below_putCc HST.out.low (HST.out.b1 p6 rfl).2 ⟨q0, q1, q2, q3, q4, q5⟩
                  have HR2 : Hid (CcAt Y p7 cc0) := by show CcAt _ _ _; rw [hY]; exact (HST.out.b2 p7 rfl).1.same (putCcO _ _ _ ⟨q0, q1, q2, q3, q4, q5⟩ (fun e => hne e.symm))
                  have HR3 : Hid (CcAt Y p6 ⟨q0, q1, q2, q3, q4, q5⟩) := by show CcAt _ _ _; rw [hY]; exact HR1.out.putAll ⟨q0, q1, q2, q3, q4, q5⟩
                  obtain ⟨U, hU⟩ : ∃ U, U = ((((((Y.setCell ⟨p7, 0, none⟩ (.bool z0)).setCell ⟨p7, 1, none⟩ (.bool z1)).setCell ⟨p7, 2, none⟩ (.bool z2)).setCell ⟨p7, 3, none⟩ (.bool z3)).setCell ⟨p7, 4, none⟩ (.bool z4)).setCell ⟨p7, 5, none⟩ (.int .i64 z5)) := ⟨_, rfl⟩
                  have HU : Hid (((((((Y.setCell ⟨p7, 0, none⟩ (.bool z0)).setCell ⟨p7, 1, none⟩ (.bool z1)).setCell ⟨p7, 2, none⟩ (.bool z2)).setCell ⟨p7, 3, none⟩ (.bool z3)).setCell ⟨p7, 4, none⟩ (.bool z4)).setCell ⟨p7, 5, none⟩ (.int .i64 z5)) = U) := hU.symm
                  have HF : Hid (Below W1.heap.size W1 U ∧ CcAt U p6 ⟨q0, q1, q2, q3, q4, q5⟩ ∧ CcAt U p7 ⟨z0, z1, z2, z3, z4, z5⟩) := by
                    show _ ∧ _ ∧ _
                    rw [hU]
                    exact ⟨below_putCc HYL.out (HST.out.b2 p7 rfl).2 ⟨z0, z1, z2, z3, z4, z5⟩, HR3.out.same (putCcO _ _ _ ⟨z0, z1, z2, z3, z4, z5⟩ hne), HR2.out.putAll ⟨z0, z1, z2, z3, z4, z5⟩⟩
                  have hs8 := HSS.out _ HYL.out
                  have hs9 := HSS.out _ HF.out.1
                  clear hY hU hne
                  refine wpAnyH_ready (rs := [8]) (by kernel_rfl) (by simp) ?_
                  refine AllReadyH.cons rfl (fun K hK => ?_) AllReadyH.nil
                  obtain ⟨x0, x1, x2, x3, x4, x5⟩ := HR1.out.cells
                  have y0 := HR1.out.frozen 0
                  have y1 := HR1.out.frozen 1
                  have y2 := HR1.out.frozen 2
                  have y3 := HR1.out.frozen 3
                  have y4 := HR1.out.frozen 4
                  have y5 := HR1.out.frozen 5
                  clear HST HR1 HR3 HYL
                  go_simp
                  rw [HY.out]
                  refine hK.out _ _ hs8 (fun _ => ?_)
                  clear hK K x0 x1 x2 x3 x4 x5 y0 y1 y2 y3 y4 y5 HY
                  refine wpAnyH_ready (rs := [9]) (by kernel_rfl) (by simp) ?_
                  refine AllReadyH.cons rfl (fun K hK => ?_) AllReadyH.nil
                  obtain ⟨x0, x1, x2, x3, x4, x5⟩ := HR2.out.cells
                  have y0 := HR2.out.frozen 0
                  have y1 := HR2.out.frozen 1
                  have y2 := HR2.out.frozen 2
                  have y3 := HR2.out.frozen 3
                  have y4 := HR2.out.frozen 4
                  have y5 := HR2.out.frozen 5
                  clear HR2
                  go_simp
                  rw [HU.out]
                  refine hK.out _ _ hs9 (fun _ => ?_)
                  clear hK K x0 x1 x2 x3 x4 x5 y0 y1 y2 y3 y4 y5 hs8 hs9 HU
                  refine wpAnyH_done (by kernel_rfl) ?_ _
                  go_wp2_with fail
                  go_meet
                  exact ⟨p6, p7, rfl, rfl, HF⟩
                · have HSN : Hid (CkSt W1 none (some X2.heap.size) (X2.alloc (.cells #[.bool false, .bool false, .bool false, .bool false, .bool false, .int .i64 0] 33))) := HST.out.make2
                  go_simp
                  refine hK.out _ _ (HSS.out _ HSN.out.low) (fun _ => ?_)
                  clear hK K HST
                  obtain ⟨p7, ho⟩ : ∃ o, o = X2.heap.size := ⟨_, rfl⟩
                  obtain ⟨X3, hX⟩ : ∃ X, X = X2.alloc (.cells #[.bool false, .bool false, .bool false, .bool false, .bool false, .int .i64 0] 33) := ⟨_, rfl⟩
                  rw [← ho] at HSN ⊢
                  rw [← hX] at HSN ⊢
                  clear ho hX
                  have HST := HSN
                  clear HSN
                  refine wpAnyH_ready (rs := [6]) (by kernel_rfl) (by simp) ?_
                  refine AllReadyH.cons rfl (fun K hK => ?_) AllReadyH.nil
                  have HSN : Hid (CkSt W1 (some X3.heap.size) (some p7) (X3.alloc (.cells #[.bool false, .bool false, .bool false, .bool false, .bool false, .int .i64 0] 33))) := HST.out.make1
                  go_simp
                  refine hK.out _ _ (HSS.out _ HSN.out.low) (fun _ => ?_)
                  clear hK K HST
                  obtain ⟨p6, ho⟩ : ∃ o, o = X3.heap.size := ⟨_, rfl⟩
                  obtain ⟨X4, hX⟩ : ∃ X, X = X3.alloc (.cells #[.bool false, .bool false, .bool false, .bool false, .bool false, .int .i64 0] 33) := ⟨_, rfl⟩
                  rw [← ho] at HSN ⊢
                  rw [← hX] at HSN ⊢
                  clear ho hX
                  have HST := HSN
                  clear HSN
                  have hne : p6 ≠ p7 := fun e => HST.out.ne p6 rfl (by rw [e])
                  obtain ⟨Y, hY⟩ : ∃ Y, Y = ((((((X4.setCell ⟨p6, 0, none⟩ (.bool q0)).setCell ⟨p6, 1, none⟩ (.bool q1)).setCell ⟨p6, 2, none⟩ (.bool q2)).setCell ⟨p6, 3, none⟩ (.bool q3)).setCell ⟨p6, 4, none⟩ (.bool q4)).setCell ⟨p6, 5, none⟩ (.int .i64 q5)) := ⟨_, rfl⟩
                  have HY : Hid (((((((X4.setCell ⟨p6, 0, none⟩ (.bool q0)).setCell ⟨p6, 1, none⟩ (.bool q1)).setCell ⟨p6, 2, none⟩ (.bool q2)).setCell ⟨p6, 3, none⟩ (.bool q3)).setCell ⟨p6, 4, none⟩ (.bool q4)).setCell ⟨p6, 5, none⟩ (.int .i64 q5)) = Y) := hY.symm
                  have HR1 : Hid (CcAt X4 p6 cc0) := (HST.out.b1 p6 rfl).1
                  have HYL : Hid (Below W1.heap.size W1 Y) := by show Below _ _ _; rw [hY]; exact below_putCc HST.out.low (HST.out.b1 p6 rfl).2 ⟨q0, q1, q2, q3, q4, q5⟩
                  have HR2 : Hid (CcAt Y p7 cc0) := by show CcAt _ _ _; rw [hY]; exact (HST.out.b2 p7 rfl).1.same (putCcO _ _ _ ⟨q0, q1, q2, q3, q4, q5⟩ (fun e => hne e.symm))
                  have HR3 : Hid (CcAt Y p6 ⟨q0, q1, q2, q3, q4, q5⟩) := by show CcAt _ _ _; rw [hY]; exact HR1.out.putAll ⟨q0, q1, q2, q3, q4, q5⟩
                  obtain ⟨U, hU⟩ : ∃ U, U = ((((((Y.setCell ⟨p7, 0, none⟩ (.bool z0)).setCell ⟨p7, 1, none⟩ (.bool z1)).setCell ⟨p7, 2, none⟩ (.bool z2)).setCell ⟨p7, 3, none⟩ (.bool z3)).setCell ⟨p7, 4, none⟩ (.bool z4)).setCell ⟨p7, 5, none⟩ (.int .i64 z5)) := ⟨_, rfl⟩
                  have HU : Hid (((((((Y.setCell ⟨p7, 0, none⟩ (.bool z0)).setCell ⟨p7, 1, none⟩ (.bool z1)).setCell ⟨p7, 2, none⟩ (.bool z2)).setCell ⟨p7, 3, none⟩ (.bool z3)).setCell ⟨p7, 4, none⟩ (.bool z4)).setCell ⟨p7, 5, none⟩ (.int .i64 z5)) = U) := hU.symm
                  have HF : Hid (Below W1.heap.size W1 U ∧ CcAt U p6 ⟨q0, q1, q2, q3, q4, q5⟩ ∧ CcAt U p7 ⟨z0, z1, z2, z3, z4, z5⟩) := by
                    show _ ∧ _ ∧ _
                    rw [hU]
                    exact ⟨below_putCc HYL.out (HST.out.b2 p7 rfl).2 ⟨z0, z1, z2, z3, z4, z5⟩, HR3.out.same (putCcO _ _ _ ⟨z0, z1, z2, z3, z4, z5⟩ hne), HR2.out.putAll ⟨z0, z1, z2, z3, z4, z5⟩⟩
                  have hs8 := HSS.out _ HYL.out
                  have hs9 := HSS.out _ HF.out.1
                  clear hY hU hne
                  refine wpAnyH_ready (rs := [8]) (by kernel_rfl) (by simp) ?_
                  refine AllReadyH.cons rfl (fun K hK => ?_) AllReadyH.nil
                  obtain ⟨x0, x1, x2, x3, x4, x5⟩ := HR1.out.cells
                  have y0 := HR1.out.frozen 0
                  have y1 := HR1.out.frozen 1
                  have y2 := HR1.out.frozen 2
                  have y3 := HR1.out.frozen 3
                  have y4 := HR1.out.frozen 4
                  have y5 := HR1.out.frozen 5
                  clear HST HR1 HR3 HYL
                  go_simp
                  rw [HY.out]
                  refine hK.out _ _ hs8 (fun _ => ?_)
                  clear hK K x0 x1 x2 x3 x4 x5 y0 y1 y2 y3 y4 y5 HY
                  refine wpAnyH_ready (rs := [9]) (by kernel_rfl) (by simp) ?_
                  refine AllReadyH.cons rfl (fun K hK => ?_) AllReadyH.nil
                  obtain ⟨x0, x1, x2, x3, x4, x5⟩ := HR2.out.cells
                  have y0 := HR2.out.frozen 0
                  have y1 := HR2.out.frozen 1
                  have y2 := HR2.out.frozen 2
                  have y3 := HR2.out.frozen 3
                  have y4 := HR2.out.frozen 4
                  have y5 := HR2.out.frozen 5
                  clear HR2
                  go_simp
                  rw [HU.out]
                  refine hK.out _ _ hs9 (fun _ => ?_)
                  clear hK K x0 x1 x2 x3 x4 x5 y0 y1 y2 y3 y4 y5 hs8 hs9 HU
                  refine wpAnyH_done (by kernel_rfl) ?_ _
                  go_wp2_with fail
                  go_meet
                  exact ⟨p6, p7, rfl, rfl, HF⟩
              · have HSN : Hid (CkSt W1 (some X1.heap.size) none (X1.alloc (.cells #[.bool false, .bool false, .bool false, .bool false, .bool false, .int .i64 0] 33))) := HST.out.make1
                go_simp
                refine hK.out _ _ (HSS.out _ HSN.out.low) (fun _ => ?_)
                clear hK K HST
                obtain ⟨p6, ho⟩ : ∃ o, o = X1.heap.size := ⟨_, rfl⟩
                obtain ⟨X2, hX⟩ : ∃ X, X = X1.alloc (.cells #[.bool false, .bool false, .bool false, .bool false, .bool false, .int .i64 0] 33) := ⟨_, rfl⟩
                rw [← ho] at HSN ⊢
                rw [← hX] at HSN ⊢
                clear ho hX
                have HST := HSN
                clear HSN
                refine wpAnyH_ready (rs := [5, 7]) (by kernel_rfl) (by simp) ?_
                refine AllReadyH.cons rfl (fun K hK => ?_) (AllReadyH.cons rfl (fun K hK => ?_) AllReadyH.nil)
                · go_simp
                  refine (HC2.out _ HST.out.low).mono ?_
                  rintro e X3 ⟨rfl, bx⟩
                  have HSN : Hid (CkSt W1 (some p6) none X3) := HST.out.below bx
                  refine hK.out _ _ (HSS.out _ HSN.out.low) (fun _ => ?_)
                  clear hK K HST bx
                  have HST := HSN
                  clear HSN
                  refine wpAnyH_ready (rs := [7]) (by kernel_rfl) (by simp) ?_
                  refine AllReadyH.cons rfl (fun K hK => ?_) AllReadyH.nil
                  have HSN : Hid (CkSt W1 (some p6) (some X3.heap.size) (X3.alloc (.cells #[.bool false, .bool false, .bool false, .bool false, .bool false, .int .i64 0] 33))) := HST.out.make2
                  go_simp
                  refine hK.out _ _ (HSS.out _ HSN.out.low) (fun _ => ?_)
                  clear hK K HST
                  obtain ⟨p7, ho⟩ : ∃ o, o = X3.heap.size := ⟨_, rfl⟩
                  obtain ⟨X4, hX⟩ : ∃ X, X = X3.alloc (.cells #[.bool false, .bool false, .bool false, .bool false, .bool false, .int .i64 0] 33) := ⟨_, rfl⟩
                  rw [← ho] at HSN ⊢
                  rw [← hX] at HSN ⊢
                  clear ho hX
                  have HST := HSN
                  clear HSN
                  have hne : p6 ≠ p7 := fun e => HST.out.ne p6 rfl (by rw [e])
                  obtain ⟨Y, hY⟩ : ∃ Y, Y = ((((((X4.setCell ⟨p6, 0, none⟩ (.bool q0)).setCell ⟨p6, 1, none⟩ (.bool q1)).setCell ⟨p6, 2, none⟩ (.bool q2)).setCell ⟨p6, 3, none⟩ (.bool q3)).setCell ⟨p6, 4, none⟩ (.bool q4)).setCell ⟨p6, 5, none⟩ (.int .i64 q5)) := ⟨_, rfl⟩
                  have HY : Hid (((((((X4.setCell ⟨p6, 0, none⟩ (.bool q0)).setCell ⟨p6, 1, none⟩ (.bool q1)).setCell ⟨p6, 2, none⟩ (.bool q2)).setCell ⟨p6, 3, none⟩ (.bool q3)).setCell ⟨p6, 4, none⟩ (.bool q4)).setCell ⟨p6, 5, none⟩ (.int .i64 q5)) = Y) := hY.symm
                  have HR1 : Hid (CcAt X4 p6 cc0) := (HST.out.b1 p6 rfl).1
                  have HYL : Hid (Below W1.heap.size W1 Y) := by show Below _ _ _; rw [hY]; exact below_putCc HST.out.low (HST.out.b1 p6 rfl).2 ⟨q0, q1, q2, q3, q4, q5⟩
                  have HR2 : Hid (CcAt Y p7 cc0) := by show CcAt _ _ _; rw [hY]; exact (HST.out.b2 p7 rfl).1.same (putCcO _ _ _ ⟨q0, q1, q2, q3, q4, q5⟩ (fun e => hne e.symm))
                  have HR3 : Hid (CcAt Y p6 ⟨q0, q1, q2, q3, q4, q5⟩) := by show CcAt _ _ _; rw [hY]; exact HR1.out.putAll ⟨q0, q1, q2, q3, q4, q5⟩
                  obtain ⟨U, hU⟩ : ∃ U, U = ((((((Y.setCell ⟨p7, 0, none⟩ (.bool z0)).setCell ⟨p7, 1, none⟩ (.bool z1)).setCell ⟨p7, 2, none⟩ (.bool z2)).setCell ⟨p7, 3, none⟩ (.bool z3)).setCell ⟨p7, 4, none⟩ (.bool z4)).setCell ⟨p7, 5, none⟩ (.int .i64 z5)) := ⟨_, rfl⟩
                  have HU : Hid (((((((Y.setCell ⟨p7, 0, none⟩ (.bool z0)).setCell ⟨p7, 1, none⟩ (.bool z1)).setCell ⟨p7, 2, none⟩ (.bool z2)).setCell ⟨p7, 3, none⟩ (.bool z3)).setCell ⟨p7, 4, none⟩ (.bool z4)).setCell ⟨p7, 5, none⟩ (.int .i64 z5)) = U) := hU.symm
                  have HF : Hid (Below W1.heap.size W1 U ∧ CcAt U p6 ⟨q0, q1, q2, q3, q4, q5⟩ ∧ CcAt U p7 ⟨z0, z1, z2, z3, z4, z5⟩) := by
                    show _ ∧ _ ∧ _
                    rw [hU]
                    exact ⟨below_putCc HYL.out (HST.out.b2 p7 rfl).2 ⟨z0, z1, z2, z3, z4, z5⟩, HR3.out.same (putCcO _ _ _ ⟨z0, z1, z2, z3, z4, z5⟩ hne), HR2.out.putAll ⟨z0, z1, z2, z3, z4, z5⟩⟩
                  have hs8 := HSS.out _ HYL.out
                  have hs9 := HSS.out _ HF.out.1
                  clear hY hU hne
                  refine wpAnyH_ready (rs := [8]) (by kernel_rfl) (by simp) ?_
                  refine AllReadyH.cons rfl (fun K hK => ?_) AllReadyH.nil
                  obtain ⟨x0, x1, x2, x3, x4, x5⟩ := HR1.out.cells
                  have y0 := HR1.out.frozen 0
                  have y1 := HR1.out.frozen 1
                  have y2 := HR1.out.frozen 2
                  have y3 := HR1.out.frozen 3
                  have y4 := HR1.out.frozen 4
                  have y5 := HR1.out.frozen 5
                  clear HST HR1 HR3 HYL
                  go_simp
                  rw [HY.out]
                  refine hK.out _ _ hs8 (fun _ => ?_)
                  clear hK K x0 x1 x2 x3 x4 x5 y0 y1 y2 y3 y4 y5 HY
                  refine wpAnyH_ready (rs := [9]) (by kernel_rfl) (by simp) ?_
                  refine AllReadyH.cons rfl (fun K hK => ?_) AllReadyH.nil
                  obtain ⟨x0, x1, x2, x3, x4, x5⟩ := HR2.out.cells
                  have y0 := HR2.out.frozen 0
                  have y1 := HR2.out.frozen 1
                  have y2 := HR2.out.frozen 2
                  have y3 := HR2.out.frozen 3
                  have y4 := HR2.out.frozen 4
                  have y5 := HR2.out.frozen 5
                  clear HR2
                  go_simp
                  rw [HU.out]
                  refine hK.out _ _ hs9 (fun _ => ?_)
                  clear hK K x0 x1 x2 x3 x4 x5 y0 y1 y2 y3 y4 y5 hs8 hs9 HU
                  refine wpAnyH_done (by kernel_rfl) ?_ _
                  go_wp2_with fail
                  go_meet
                  exact ⟨p6, p7, rfl, rfl, HF⟩
                · have HSN : Hid (CkSt W1 (some p6) (some X2.heap.size) (X2.alloc (.cells #[.bool false, .bool false, .bool false, .bool false, .bool false, .int .i64 0] 33))) := HST.out.make2
                  go_simp
                  refine hK.out _ _ (HSS.out _ HSN.out.low) (fun _ => ?_)
                  clear hK K HST
                  obtain ⟨p7, ho⟩ : ∃ o, o = X2.heap.size := ⟨_, rfl⟩
                  obtain ⟨X3, hX⟩ : ∃ X, X = X2.alloc (.cells #[.bool false, .bool false, .bool false, .bool false, .bool false, .int .i64 0] 33) := ⟨_, rfl⟩
                  rw [← ho] at HSN ⊢
                  rw [← hX] at HSN ⊢
                  clear ho hX
                  have HST := HSN
                  clear HSN
                  refine wpAnyH_ready (rs := [5]) (by kernel_rfl) (by simp) ?_
                  refine AllReadyH.cons rfl (fun K hK => ?_) AllReadyH.nil
                  go_simp
                  refine (HC2.out _ HST.out.low).mono ?_
                  rintro e X4 ⟨rfl, bx⟩
                  have HSN : Hid (CkSt W1 (some p6) (some p7) X4) := HST.out.below bx
                  refine hK.out _ _ (HSS.out _ HSN.out.low) (fun _ => ?_)
                  clear hK K HST bx
                  have HST := HSN
                  clear HSN
                  have hne : p6 ≠ p7 := fun e => HST.out.ne p6 rfl (by rw [e])
                  obtain ⟨Y, hY⟩ : ∃ Y, Y = ((((((X4.setCell ⟨p6, 0, none⟩ (.bool q0)).setCell ⟨p6, 1, none⟩ (.bool q1)).setCell ⟨p6, 2, none⟩ (.bool q2)).setCell ⟨p6, 3, none⟩ (.bool q3)).setCell ⟨p6, 4, none⟩ (.bool q4)).setCell ⟨p6, 5, none⟩ (.int .i64 q5)) := ⟨_, rfl⟩
                  have HY : Hid (((((((X4.setCell ⟨p6, 0, none⟩ (.bool q0)).setCell ⟨p6, 1, none⟩ (.bool q1)).setCell ⟨p6, 2, none⟩ (.bool q2)).setCell ⟨p6, 3, none⟩ (.bool q3)).setCell ⟨p6, 4, none⟩ (.bool q4)).setCell ⟨p6, 5, none⟩ (.int .i64 q5)) = Y) := hY.symm
                  have HR1 : Hid (CcAt X4 p6 cc0) := (HST.out.b1 p6 rfl).1
                  have HYL : Hid (Below W1.heap.size W1 Y) := by show Below _ _ _; rw [hY]; exact below_putCc HST.out.low (HST.out.b1 p6 rfl).2 ⟨q0, q1, q2, q3, q4, q5⟩
                  have HR2 : Hid (CcAt Y p7 cc0) := by show CcAt _ _ _; rw [hY]; exact (HST.out.b2 p7 rfl).1.same (putCcO _ _ _ ⟨q0, q1, q2, q3, q4, q5⟩ (fun e => hne e.symm))
                  have HR3 : Hid (CcAt Y p6 ⟨q0, q1, q2, q3, q4, q5⟩) := by show CcAt _ _ _; rw [hY]; exact HR1.out.putAll ⟨q0, q1, q2, q3, q4, q5⟩
                  obtain ⟨U, hU⟩ : ∃ U, U = ((((((Y.setCell ⟨p7, 0, none⟩ (.bool z0)).setCell ⟨p7, 1, none⟩ (.bool z1)).setCell ⟨p7, 2, none⟩ (.bool z2)).setCell ⟨p7, 3, none⟩ (.bool z3)).setCell ⟨p7, 4, none⟩ (.bool z4)).setCell ⟨p7, 5, none⟩ (.int .i64 z5)) := ⟨_, rfl⟩
                  have HU : Hid (((((((Y.setCell ⟨p7, 0, none⟩ (.bool z0)).setCell ⟨p7, 1, none⟩ (.bool z1)).setCell ⟨p7, 2, none⟩ (.bool z2)).setCell ⟨p7, 3, none⟩ (.bool z3)).setCell ⟨p7, 4, none⟩ (.bool z4)).setCell ⟨p7, 5, none⟩ (.int .i64 z5)) = U) := hU.symm
                  have HF : Hid (Below W1.heap.size W1 U ∧ CcAt U p6 ⟨q0, q1, q2, q3, q4, q5⟩ ∧ CcAt U p7 ⟨z0, z1, z2, z3, z4, z5⟩) := by
                    show _ ∧ _ ∧ _
                    rw [hU]
                    exact ⟨below_putCc HYL.out (HST.out.b2 p7 rfl).2 ⟨z0, z1, z2, z3, z4, z5⟩, HR3.out.same (putCcO _ _ _ ⟨z0, z1, z2, z3, z4, z5⟩ hne), HR2.out.putAll ⟨z0, z1, z2, z3, z4, z5⟩⟩
                  have hs8 := HSS.out _ HYL.out
                  have hs9 := HSS.out _ HF.out.1
                  clear hY hU hne
                  refine wpAnyH_ready (rs := [8]) (by kernel_rfl) (by simp) ?_
                  refine AllReadyH.cons rfl (fun K hK => ?_) AllReadyH.nil
                  obtain ⟨x0, x1, x2, x3, x4, x5⟩ := HR1.out.cells
                  have y0 := HR1.out.frozen 0
                  have y1 := HR1.out.frozen 1
                  have y2 := HR1.out.frozen 2
                  have y3 := HR1.out.frozen 3
                  have y4 := HR1.out.frozen 4
                  have y5 := HR1.out.frozen 5
                  clear HST HR1 HR3 HYL
                  go_simp
                  rw [HY.out]
                  refine hK.out _ _ hs8 (fun _ => ?_)
                  clear hK K x0 x1 x2 x3 x4 x5 y0 y1 y2 y3 y4 y5 HY
                  refine wpAnyH_ready (rs := [9]) (by kernel_rfl) (by simp) ?_
                  refine AllReadyH.cons rfl (fun K hK => ?_) AllReadyH.nil
                  obtain ⟨x0, x1, x2, x3, x4, x5⟩ := HR2.out.cells
                  have y0 := HR2.out.frozen 0
                  have y1 := HR2.out.frozen 1
                  have y2 := HR2.out.frozen 2
                  have y3 := HR2.out.frozen 3
                  have y4 := HR2.out.frozen 4
                  have y5 := HR2.out.frozen 5
                  clear HR2
                  go_simp
                  rw [HU.out]
                  refine hK.out _ _ hs9 (fun _ => ?_)
                  clear hK K x0 x1 x2 x3 x4 x5 y0 y1 y2 y3 y4 y5 hs8 hs9 HU
                  refine wpAnyH_done (by kernel_rfl) ?_ _
                  go_wp2_with fail
                  go_meet
                  exact ⟨p6, p7, rfl, rfl, HF⟩
              · have HSN : Hid (CkSt W1 none (some X1.heap.size) (X1.alloc (.cells #[.bool false, .bool false, .bool false, .bool false, .bool false, .int .i64 0] 33))) := HST.out.make2
                go_simp
                refine hK.out _ _ (HSS.out _ HSN.out.low) (fun _ => ?_)
                clear hK K HST
                obtain ⟨p7, ho⟩ : ∃ o, o = X1.heap.size := ⟨_, rfl⟩
                obtain ⟨X2, hX⟩ : ∃ X, X = X1.alloc (.cells #[.bool false, .bool false, .bool false, .bool false, .bool false, .int .i64 0] 33) := ⟨_, rfl⟩
                rw [← ho] at HSN ⊢
                rw [← hX] at HSN ⊢
                clear ho hX
                have HST := HSN
                clear HSN
                refine wpAnyH_ready (rs := [5, 6]) (by kernel_rfl) (by simp) ?_
                refine AllReadyH.cons rfl (fun K hK => ?_) (AllReadyH.cons rfl (fun K hK => ?_) AllReadyH.nil)
                · go_simp
                  refine (HC2.out _ HST.out.low).mono ?_
                  rintro e X3 ⟨rfl, bx⟩
                  have HSN : Hid (CkSt W1 none (some p7) X3) := HST.out.below bx
                  refine hK.out _ _ (HSS.out _ HSN.out.low) (fun _ => ?_)
                  clear hK K HST bx
                  have HST := HSN
                  clear HSN
                  refine wpAnyH_ready (rs := [6]) (by kernel_rfl) (by simp) ?_
                  refine AllReadyH.cons rfl (fun K hK => ?_) AllReadyH.nil
                  have HSN : Hid (CkSt W1 (some X3.heap.size) (some p7) (X3.alloc (.cells #[.bool false, .bool false, .bool false, .bool false, .bool false, .int .i64 0] 33))) := HST.out.make1
                  go_simp
                  refine hK.out _ _ (HSS.out _ HSN.out.low) (fun _ => ?_)
                  clear hK K HST
                  obtain ⟨p6, ho⟩ : ∃ o, o = X3.heap.size := ⟨_, rfl⟩
                  obtain ⟨X4, hX⟩ : ∃ X, X = X3.alloc (.cells #[.bool false, .bool false, .bool false, .bool false, .bool false, .int .i64 0] 33) := ⟨_, rfl⟩
                  rw [← ho] at HSN ⊢
                  rw [← hX] at HSN ⊢
                  clear ho hX
                  have HST := HSN
                  clear HSN
                  have hne : p6 ≠ p7 := fun e => HST.out.ne p6 rfl (by rw [e])
                  obtain ⟨Y, hY⟩ : ∃ Y, Y = ((((((X4.setCell ⟨p6, 0, none⟩ (.bool q0)).setCell ⟨p6, 1, none⟩ (.bool q1)).setCell ⟨p6, 2, none⟩ (.bool q2)).setCell ⟨p6, 3, none⟩ (.bool q3)).setCell ⟨p6, 4, none⟩ (.bool q4)).setCell ⟨p6, 5, none⟩ (.int .i64 q5)) := ⟨_, rfl⟩
                  have HY : Hid (((((((X4.setCell ⟨p6, 0, none⟩ (.bool q0)).setCell ⟨p6, 1, none⟩ (.bool q1)).setCell ⟨p6, 2, none⟩ (.bool q2)).setCell ⟨p6, 3, none⟩ (.bool q3)).setCell ⟨p6, 4, none⟩ (.bool q4)).setCell ⟨p6, 5, none⟩ (.int .i64 q5)) = Y) := hY.symm
                  have HR1 : Hid (CcAt X4 p6 cc0) := (HST.out.b1 p6 rfl).1
                  have HYL : Hid (Below W1.heap.size W1 Y) := by show Below _ _ _; rw [hY]; exact below_putCc HST.out.low (HST.out.b1 p6 rfl).2 ⟨q0, q1, q2, q3, q4, q5⟩
                  have HR2 : Hid (CcAt Y p7 cc0) := by show CcAt _ _ _; rw [hY]; exact (HST.out.b2 p7 rfl).1.same (putCcO _ _ _ ⟨q0, q1, q2, q3, q4, q5⟩ (fun e => hne e.symm))
                  have HR3 : Hid (CcAt Y p6 ⟨q0, q1, q2, q3, q4, q5⟩) := by show CcAt _ _ _; rw [hY]; exact HR1.out.putAll ⟨q0, q1, q2, q3, q4, q5⟩
                  obtain ⟨U, hU⟩ : ∃ U, U = ((((((Y.setCell ⟨p7, 0, none⟩ (.bool z0)).setCell ⟨p7, 1, none⟩ (.bool z1)).setCell ⟨p7, 2, none⟩ (.bool z2)).setCell ⟨p7, 3, none⟩ (.bool z3)).setCell ⟨p7, 4, none⟩ (.bool z4)).setCell ⟨p7, 5, none⟩ (.int .i64 z5)) := ⟨_, rfl⟩
                  have HU : Hid (((((((Y.setCell ⟨p7, 0, none⟩ (.bool z0)).setCell ⟨p7, 1, none⟩ (.bool z1)).setCell ⟨p7, 2, none⟩ (.bool z2)).setCell ⟨p7, 3, none⟩ (.bool z3)).setCell ⟨p7, 4, none⟩ (.bool z4)).setCell ⟨p7, 5, none⟩ (.int .i64 z5)) = U) := hU.symm
                  have HF : Hid (Below W1.heap.size W1 U ∧ CcAt U p6 ⟨q0, q1, q2, q3, q4, q5⟩ ∧ CcAt U p7 ⟨z0, z1, z2, z3, z4, z5⟩) := by
                    show _ ∧ _ ∧ _
                    rw [hU]
                    exact ⟨below_putCc HYL.out (HST.out.b2 p7 rfl).2 ⟨z0, z1, z2, z3, z4, z5⟩, HR3.out.same (putCcO _ _ _ ⟨z0, z1, z2, z3, z4, z5⟩ hne), HR2.out.putAll ⟨z0, z1, z2, z3, z4, z5⟩⟩
                  have hs8 := HSS.out _ HYL.out
                  have hs9 := HSS.out _ HF.out.1
                  clear hY hU hne
                  refine wpAnyH_ready (rs := [8]) (by kernel_rfl) (by simp) ?_
                  refine AllReadyH.cons rfl (fun K hK => ?_) AllReadyH.nil
                  obtain ⟨x0, x1, x2, x3, x4, x5⟩ := HR1.out.cells
                  have y0 := HR1.out.frozen 0
                  have y1 := HR1.out.frozen 1
                  have y2 := HR1.out.frozen 2
                  have y3 := HR1.out.frozen 3
                  have y4 := HR1.out.frozen 4
                  have y5 := HR1.out.frozen 5
                  clear HST HR1 HR3 HYL
                  go_simp
                  rw [HY.out]
                  refine hK.out _ _ hs8 (fun _ => ?_)
                  clear hK K x0 x1 x2 x3 x4 x5 y0 y1 y2 y3 y4 y5 HY
                  refine wpAnyH_ready (rs := [9]) (by kernel_rfl) (by simp) ?_
                  refine AllReadyH.cons rfl (fun K hK => ?_) AllReadyH.nil
                  obtain ⟨x0, x1, x2, x3, x4, x5⟩ := HR2.out.cells
                  have y0 := HR2.out.frozen 0
                  have y1 := HR2.out.frozen 1
                  have y2 := HR2.out.frozen 2
                  have y3 := HR2.out.frozen 3
                  have y4 := HR2.out.frozen 4
                  have y5 := HR2.out.frozen 5
                  clear HR2
                  go_simp
                  rw [HU.out]
                  refine hK.out _ _ hs9 (fun _ => ?_)
                  clear hK K x0 x1 x2 x3 x4 x5 y0 y1 y2 y3 y4 y5 hs8 hs9 HU
                  refine wpAnyH_done (by kernel_rfl) ?_ _
                  go_wp2_with fail
                  go_meet
                  exact ⟨p6, p7, rfl, rfl, HF⟩
                · have HSN : Hid (CkSt W1 (some X2.heap.size) (some p7) (X2.alloc (.cells #[.bool false, .bool false, .bool false, .bool false, .bool false, .int .i64 0] 33))) := HST.out.make1
                  go_simp
                  refine hK.out _ _ (HSS.out _ HSN.out.low) (fun _ => ?_)
                  clear hK K HST
                  obtain ⟨p6, ho⟩ : ∃ o, o = X2.heap.size := ⟨_, rfl⟩
                  obtain ⟨X3, hX⟩ : ∃ X, X = X2.alloc (.cells #[.bool false, .bool false, .bool false, .bool false, .bool false, .int .i64 0] 33) := ⟨_, rfl⟩
                  rw [← ho] at HSN ⊢
                  rw [← hX] at HSN ⊢
                  clear ho hX
                  have HST := HSN
                  clear HSN
                  refine wpAnyH_ready (rs := [5]) (by kernel_rfl) (by simp) ?_
                  refine AllReadyH.cons rfl (fun K hK => ?_) AllReadyH.nil
                  go_simp
                  refine (HC2.out _ HST.out.low).mono ?_
                  rintro e X4 ⟨rfl, bx⟩
                  have HSN : Hid (CkSt W1 (some p6) (some p7) X4) := HST.out.below bx
                  refine hK.out _ _ (HSS.out _ HSN.out.low) (fun _ => ?_)
                  clear hK K HST bx
                  have HST := HSN
                  clear HSN
                  have hne : p6 ≠ p7 := fun e => HST.out.ne p6 rfl (by rw [e])
                  obtain ⟨Y, hY⟩ : ∃ Y, Y = ((((((X4.setCell ⟨p6, 0, none⟩ (.bool q0)).setCell ⟨p6, 1, none⟩ (.bool q1)).setCell ⟨p6, 2, none⟩ (.bool q2)).setCell ⟨p6, 3, none⟩ (.bool q3)).setCell ⟨p6, 4, none⟩ (.bool q4)).setCell ⟨p6, 5, none⟩ (.int .i64 q5)) := ⟨_, rfl⟩
                  have HY : Hid (((((((X4.setCell ⟨p6, 0, none⟩ (.bool q0)).setCell ⟨p6, 1, none⟩ (.bool q1)).setCell ⟨p6, 2, none⟩ (.bool q2)).setCell ⟨p6, 3, none⟩ (.bool q3)).setCell ⟨p6, 4, none⟩ (.bool q4)).setCell ⟨p6, 5, none⟩ (.int .i64 q5)) = Y) := hY.symm
                  have HR1 : Hid (CcAt X4 p6 cc0) := (HST.out.b1 p6 rfl).1
                  have HYL : Hid (Below W1.heap.size W1 Y) := by show Below _ _ _; rw [hY]; exact below_putCc HST.out.low (HST.out.b1 p6 rfl).2 ⟨q0, q1, q2, q3, q4, q5⟩
                  have HR2 : Hid (CcAt Y p7 cc0) := by show CcAt _ _ _; rw [hY]; exact (HST.out.b2 p7 rfl).1.same (putCcO _ _ _ ⟨q0, q1, q2, q3, q4, q5⟩ (fun e => hne e.symm))
                  have HR3 : Hid (CcAt Y p6 ⟨q0, q1, q2, q3, q4, q5⟩) := by show CcAt _ _ _; rw [hY]; exact HR1.out.putAll ⟨q0, q1, q2, q3, q4, q5⟩
                  obtain ⟨U, hU⟩ : ∃ U, U = ((((((Y.setCell ⟨p7, 0, none⟩ (.bool z0)).setCell ⟨p7, 1, none⟩ (.bool z1)).setCell ⟨p7, 2, none⟩ (.bool z2)).setCell ⟨p7, 3, none⟩ (.bool z3)).setCell ⟨p7, 4, none⟩ (.bool z4)).setCell ⟨p7, 5, none⟩ (.int .i64 z5)) := ⟨_, rfl⟩
                  have HU : Hid (((((((Y.setCell ⟨p7, 0, none⟩ (.bool z0)).setCell ⟨p7, 1, none⟩ (.bool z1)).setCell ⟨p7, 2, none⟩ (.bool z2)).setCell ⟨p7, 3, none⟩ (.bool z3)).setCell ⟨p7, 4, none⟩ (.bool z4)).setCell ⟨p7, 5, none⟩ (.int .i64 z5)) = U) := hU.symm
                  have HF : Hid (Below W1.heap.size W1 U ∧ CcAt U p6 ⟨q0, q1, q2, q3, q4, q5⟩ ∧ CcAt U p7 ⟨z0, z1, z2, z3, z4, z5⟩) := by
                    show _ ∧ _ ∧ _
                    rw [hU]
                    exact ⟨below_putCc HYL.out (HST.out.b2 p7 rfl).2 ⟨z0, z1, z2, z3, z4, z5⟩, HR3.out.same (putCcO _ _ _ ⟨z0, z1, z2, z3, z4, z5⟩ hne), HR2.out.putAll ⟨z0, z1, z2, z3, z4, z5⟩⟩
                  have hs8 := HSS.out _ HYL.out
                  have hs9 := HSS.out _ HF.out.1
                  clear hY hU hne
                  refine wpAnyH_ready (rs := [8]) (by kernel_rfl) (by simp) ?_
                  refine AllReadyH.cons rfl (fun K hK => ?_) AllReadyH.nil
                  obtain ⟨x0, x1, x2, x3, x4, x5⟩ := HR1.out.cells
                  have y0 := HR1.out.frozen 0
                  have y1 := HR1.out.frozen 1
                  have y2 := HR1.out.frozen 2
                  have y3 := HR1.out.frozen 3
                  have y4 := HR1.out.frozen 4
                  have y5 := HR1.out.frozen 5
                  clear HST HR1 HR3 HYL
                  go_simp
                  rw [HY.out]
                  refine hK.out _ _ hs8 (fun _ => ?_)
                  clear hK K x0 x1 x2 x3 x4 x5 y0 y1 y2 y3 y4 y5 HY
                  refine wpAnyH_ready (rs := [9]) (by kernel_rfl) (by simp) ?_
                  refine AllReadyH.cons rfl (fun K hK => ?_) AllReadyH.nil
                  obtain ⟨x0, x1, x2, x3, x4, x5⟩ := HR2.out.cells
                  have y0 := HR2.out.frozen 0
                  have y1 := HR2.out.frozen 1
                  have y2 := HR2.out.frozen 2
                  have y3 := HR2.out.frozen 3
                  have y4 := HR2.out.frozen 4
                  have y5 := HR2.out.frozen 5
                  clear HR2
                  go_simp
                  rw [HU.out]
                  refine hK.out _ _ hs9 (fun _ => ?_)
                  clear hK K x0 x1 x2 x3 x4 x5 y0 y1 y2 y3 y4 y5 hs8 hs9 HU
                  refine wpAnyH_done (by kernel_rfl) ?_ _
                  go_wp2_with fail
                  go_meet
                  exact ⟨p6, p7, rfl, rfl, HF⟩
            · have HSN : Hid (CkSt W1 (some X0.heap.size) none (X0.alloc (.cells #[.bool false, .bool false, .bool false, .bool false, .bool false, .int .i64 0] 33))) := HST.out.make1
              go_simp
              refine hK.out _ _ (HSS.out _ HSN.out.low) (fun _ => ?_)
              clear hK K HST
              obtain ⟨p6, ho⟩ : ∃ o, o = X0.heap.size := ⟨_, rfl⟩
              obtain ⟨X1, hX⟩ : ∃ X, X = X0.alloc (.cells #[.bool false, .bool false, .bool false, .bool false, .bool false, .int .i64 0] 33) := ⟨_, rfl⟩
              rw [← ho] at HSN ⊢
              rw [← hX] at HSN ⊢
              clear ho hX
              have HST := HSN
              clear HSN
              refine wpAnyH_ready (rs := [2, 7]) (by kernel_rfl) (by simp) ?_
              refine AllReadyH.cons rfl (fun K hK => ?_) (AllReadyH.cons rfl (fun K hK => ?_) AllReadyH.nil)
              · go_simp
                refine (HC1.out _ HST.out.low).mono ?_
                rintro e X2 ⟨rfl, bx⟩
                have HSN : Hid (CkSt W1 (some p6) none X2) := HST.out.below bx
                refine hK.out _ _ (HSS.out _ HSN.out.low) (fun _ => ?_)
                clear hK K HST bx
                have HST := HSN
                clear HSN
                refine wpAnyH_ready (rs := [5, 7]) (by kernel_rfl) (by simp) ?_
                refine AllReadyH.cons rfl (fun K hK => ?_) (AllReadyH.cons rfl (fun K hK => ?_) AllReadyH.nil)
                · go_simp
                  refine (HC2.out _ HST.out.low).mono ?_
                  rintro e X3 ⟨rfl, bx⟩
                  have HSN : Hid (CkSt W1 (some p6) none X3) := HST.out.below bx
                  refine hK.out _ _ (HSS.out _ HSN.out.low) (fun _ => ?_)
                  clear hK K HST bx
                  have HST := HSN
                  clear HSN
                  refine wpAnyH_ready (rs := [7]) (by kernel_rfl) (by simp) ?_
                  refine AllReadyH.cons rfl (fun K hK => ?_) AllReadyH.nil
                  have HSN : Hid (CkSt W1 (some p6) (some X3.heap.size) (X3.alloc (.cells #[.bool false, .bool false, .bool false, .bool false, .bool false, .int .i64 0] 33))) := HST.out.make2
                  go_simp
                  refine hK.out _ _ (HSS.out _ HSN.out.low) (fun _ => ?_)
                  clear hK K HST
                  obtain ⟨p7, ho⟩ : ∃ o, o = X3.heap.size := ⟨_, rfl⟩
                  obtain ⟨X4, hX⟩ : ∃ X, X = X3.alloc (.cells #[.bool false, .bool false, .bool false, .bool false, .bool false, .int .i64 0] 33) := ⟨_, rfl⟩
                  rw [← ho] at HSN ⊢
                  rw [← hX] at HSN ⊢
                  clear ho hX
                  have HST := HSN
                  clear HSN
                  have hne : p6 ≠ p7 := fun e => HST.out.ne p6 rfl (by rw [e])
                  obtain ⟨Y, hY⟩ : ∃ Y, Y = ((((((X4.setCell ⟨p6, 0, none⟩ (.bool q0)).setCell ⟨p6, 1, none⟩ (.bool q1)).setCell ⟨p6, 2, none⟩ (.bool q2)).setCell ⟨p6, 3, none⟩ (.bool q3)).setCell ⟨p6, 4, none⟩ (.bool q4)).setCell ⟨p6, 5, none⟩ (.int .i64 q5)) := ⟨_, rfl⟩
                  have HY : Hid (((((((X4.setCell ⟨p6, 0, none⟩ (.bool q0)).setCell ⟨p6, 1, none⟩ (.bool q1)).setCell ⟨p6, 2, none⟩ (.bool q2)).setCell ⟨p6, 3, none⟩ (.bool q3)).setCell ⟨p6, 4, none⟩ (.bool q4)).setCell ⟨p6, 5, none⟩ (.int .i64 q5)) = Y) := hY.symm
                  have HR1 : Hid (CcAt X4 p6 cc0) := (HST.out.b1 p6 rfl).1
                  have HYL : Hid (Below W1.heap.size W1 Y) := by show Below _ _ _; rw [hY]; exact below_putCc HST.out.low (HST.out.b1 p6 rfl).2 ⟨q0, q1, q2, q3, q4, q5⟩
                  have HR2 : Hid (CcAt Y p7 cc0) := by show CcAt _ _ _; rw [hY]; exact (HST.out.b2 p7 rfl).1.same (putCcO _ _ _ ⟨q0, q1, q2, q3, q4, q5⟩ (fun e => hne e.symm))
                  have HR3 : Hid (CcAt Y p6 ⟨q0, q1, q2, q3, q4, q5⟩) := by show CcAt _ _ _; rw [hY]; exact HR1.out.putAll ⟨q0, q1, q2, q3, q4, q5⟩
                  obtain ⟨U, hU⟩ : ∃ U, U = ((((((Y.setCell ⟨p7, 0, none⟩ (.bool z0)).setCell ⟨p7, 1, none⟩ (.bool z1)).setCell ⟨p7, 2, none⟩ (.bool z2)).setCell ⟨p7, 3, none⟩ (.bool z3)).setCell ⟨p7, 4, none⟩ (.bool z4)).setCell ⟨p7, 5, none⟩ (.int .i64 z5)) := ⟨_, rfl⟩
                  have HU : Hid (((((((Y.setCell ⟨p7, 0, none⟩ (.bool z0)).setCell ⟨p7, 1, none⟩ (.bool z1)).setCell ⟨p7, 2, none⟩ (.bool z2)).setCell ⟨p7, 3, none⟩ (.bool z3)).setCell ⟨p7, 4, none⟩ (.bool z4)).setCell ⟨p7, 5, none⟩ (.int .i64 z5)) = U) := hU.symm
                  have HF : Hid (Below W1.heap.size W1 U ∧ CcAt U p6 ⟨q0, q1, q2, q3, q4, q5⟩ ∧ CcAt U p7 ⟨z0, z1, z2, z3, z4, z5⟩) := by
                    show _ ∧ _ ∧ _
                    rw [hU]
                    exact ⟨below_putCc HYL.out (HST.out.b2 p7 rfl).2 ⟨z0, z1, z2, z3, z4, z5⟩, HR3.out.same (putCcO _ _ _ ⟨z0, z1, z2, z3, z4, z5⟩ hne), HR2.out.putAll ⟨z0, z1, z2, z3, z4, z5⟩⟩
                  have hs8 := HSS.out _ HYL.out
                  have hs9 := HSS.out _ HF.out.1
                  clear hY hU hne
                  refine wpAnyH_ready (rs := [8]) (by kernel_rfl) (by simp) ?_
                  refine AllReadyH.cons rfl (fun K hK => ?_) AllReadyH.nil
                  obtain ⟨x0, x1, x2, x3, x4, x5⟩ := HR1.out.cells
                  have y0 := HR1.out.frozen 0
                  have y1 := HR1.out.frozen 1
                  have y2 := HR1.out.frozen 2
                  have y3 := HR1.out.frozen 3
                  have y4 := HR1.out.frozen 4
                  have y5 := HR1.out.frozen 5
                  clear HST HR1 HR3 HYL
                  go_simp
                  rw [HY.out]
                  refine hK.out _ _ hs8 (fun _ => ?_)
                  clear hK K x0 x1 x2 x3 x4 x5 y0 y1 y2 y3 y4 y5 HY
                  refine wpAnyH_ready (rs := [9]) (by kernel_rfl) (by simp) ?_
                  refine AllReadyH.cons rfl (fun K hK => ?_) AllReadyH.nil
                  obtain ⟨x0, x1, x2, x3, x4, x5⟩ := HR2.out.cells
                  have y0 := HR2.out.frozen 0
                  have y1 := HR2.out.frozen 1
                  have y2 := HR2.out.frozen 2
                  have y3 := HR2.out.frozen 3
                  have y4 := HR2.out.frozen 4
                  have y5 := HR2.out.frozen 5
                  clear HR2
                  go_simp
                  rw [HU.out]
                  refine hK.out _ _ hs9 (fun _ => ?_)
                  clear hK K x0 x1 x2 x3 x4 x5 y0 y1 y2 y3 y4 y5 hs8 hs9 HU
                  refine wpAnyH_done (by kernel_rfl) ?_ _
                  go_wp2_with fail
                  go_meet
                  exact ⟨p6, p7, rfl, rfl, HF⟩
                · have HSN : Hid (CkSt W1 (some p6) (some X2.heap.size) (X2.alloc (.cells #[.bool false, .bool false, .bool false, .bool false, .bool false, .int .i64 0] 33))) := HST.out.make2
                  go_simp
                  refine hK.out _ _ (HSS.out _ HSN.out.low) (fun _ => ?_)
                  clear hK K HST
                  obtain ⟨p7, ho⟩ : ∃ o, o = X2.heap.size := ⟨_, rfl⟩
                  obtain ⟨X3, hX⟩ : ∃ X, X = X2.alloc (.cells #[.bool false, .bool false, .bool false, .bool false, .bool false, .int .i64 0] 33) := ⟨_, rfl⟩
                  rw [← ho] at HSN ⊢
                  rw [← hX] at HSN ⊢
                  clear ho hX
                  have HST := HSN
                  clear HSN
                  refine wpAnyH_ready (rs := [5]) (by kernel_rfl) (by simp) ?_
                  refine AllReadyH.cons rfl (fun K hK => ?_) AllReadyH.nil
                  go_simp
                  refine (HC2.out _ HST.out.low).mono ?_
                  rintro e X4 ⟨rfl, bx⟩
                  have HSN : Hid (CkSt W1 (some p6) (some p7) X4) := HST.out.below bx
                  refine hK.out _ _ (HSS.out _ HSN.out.low) (fun _ => ?_)
                  clear hK K HST bx
                  have HST := HSN
                  clear HSN
                  have hne : p6 ≠ p7 := fun e => HST.out.ne p6 rfl (by rw [e])
                  obtain ⟨Y, hY⟩ : ∃ Y, Y = ((((((X4.setCell ⟨p6, 0, none⟩ (.bool q0)).setCell ⟨p6, 1, none⟩ (.bool q1)).setCell ⟨p6, 2, none⟩ (.bool q2)).setCell ⟨p6, 3, none⟩ (.bool q3)).setCell ⟨p6, 4, none⟩ (.bool q4)).setCell ⟨p6, 5, none⟩ (.int .i64 q5)) := ⟨_, rfl⟩
                  have HY : Hid (((((((X4.setCell ⟨p6, 0, none⟩ (.bool q0)).setCell ⟨p6, 1, none⟩ (.bool q1)).setCell ⟨p6, 2, none⟩ (.bool q2)).setCell ⟨p6, 3, none⟩ (.bool q3)).setCell ⟨p6, 4, none⟩ (.bool q4)).setCell ⟨p6, 5, none⟩ (.int .i64 q5)) = Y) := hY.symm
                  have HR1 : Hid (CcAt X4 p6 cc0) := (HST.out.b1 p6 rfl).1
                  have HYL : Hid (Below W1.heap.size W1 Y) := by show Below _ _ _; rw [hY]; exact below_putCc HST.out.low (HST.out.b1 p6 rfl).2 ⟨q0, q1, q2, q3, q4, q5⟩
                  have HR2 : Hid (CcAt Y p7 cc0) := by show CcAt _ _ _; rw [hY]; exact (HST.out.b2 p7 rfl).1.same (putCcO _ _ _ ⟨q0, q1, q2, q3, q4, q5⟩ (fun e => hne e.symm))
                  have HR3 : Hid (CcAt Y p6 ⟨q0, q1, q2, q3, q4, q5⟩) := by show CcAt _ _ _; rw [hY]; exact HR1.out.putAll ⟨q0, q1, q2, q3, q4, q5⟩
                  obtain ⟨U, hU⟩ : ∃ U, U = ((((((Y.setCell ⟨p7, 0, none⟩ (.bool z0)).setCell ⟨p7, 1, none⟩ (.bool z1)).setCell ⟨p7, 2, none⟩ (.bool z2)).setCell ⟨p7, 3, none⟩ (.bool z3)).setCell ⟨p7, 4, none⟩ (.bool z4)).setCell ⟨p7, 5, none⟩ (.int .i64 z5)) := ⟨_, rfl⟩
                  have HU : Hid (((((((Y.setCell ⟨p7, 0, none⟩ (.bool z0)).setCell ⟨p7, 1, none⟩ (.bool z1)).setCell ⟨p7, 2, none⟩ (.bool z2)).setCell ⟨p7, 3, none⟩ (.bool z3)).setCell ⟨p7, 4, none⟩ (.bool z4)).setCell ⟨p7, 5, none⟩ (.int .i64 z5)) = U) := hU.symm
                  have HF : Hid (Below W1.heap.size W1 U ∧ CcAt U p6 ⟨q0, q1, q2, q3, q4, q5⟩ ∧ CcAt U p7 ⟨z0, z1, z2, z3, z4, z5⟩) := by
                    show _ ∧ _ ∧ _
                    rw [hU]
                    exact ⟨below_putCc HYL.out (HST.out.b2 p7 rfl).2 ⟨z0, z1, z2, z3, z4, z5⟩, HR3.out.same (putCcO _ _ _ ⟨z0, z1, z2, z3, z4, z5⟩ hne), HR2.out.putAll ⟨z0, z1, z2, z3, z4, z5⟩⟩
                  have hs8 := HSS.out _ HYL.out
                  have hs9 := HSS.out _ HF.out.1
                  clear hY hU hne
                  refine wpAnyH_ready (rs := [8]) (by kernel_rfl) (by simp) ?_
                  refine AllReadyH.cons rfl (fun K hK => ?_) AllReadyH.nil
                  obtain ⟨x0, x1, x2, x3, x4, x5⟩ := HR1.out.cells
                  have y0 := HR1.out.frozen 0
                  have y1 := HR1.out.frozen 1
                  have y2 := HR1.out.frozen 2
                  have y3 := HR1.out.frozen 3
                  have y4 := HR1.out.frozen 4
                  have y5 := HR1.out.frozen 5
                  clear HST HR1 HR3 HYL
                  go_simp
                  rw [HY.out]
                  refine hK.out _ _ hs8 (fun _ => ?_)
                  clear hK K x0 x1 x2 x3 x4 x5 y0 y1 y2 y3 y4 y5 HY
                  refine wpAnyH_ready (rs := [9]) (by kernel_rfl) (by simp) ?_
                  refine AllReadyH.cons rfl (fun K hK => ?_) AllReadyH.nil
                  obtain ⟨x0, x1, x2, x3, x4, x5⟩ := HR2.out.cells
                  have y0 := HR2.out.frozen 0
                  have y1 := HR2.out.frozen 1
                  have y2 := HR2.out.frozen 2
                  have y3 := HR2.out.frozen 3
                  have y4 := HR2.out.frozen 4
                  have y5 := HR2.out.frozen 5
                  clear HR2
                  go_simp
                  rw [HU.out]
                  refine hK.out _ _ hs9 (fun _ => ?_)
                  clear hK K x0 x1 x2 x3 x4 x5 y0 y1 y2 y3 y4 y5 hs8 hs9 HU
                  refine wpAnyH_done (by kernel_rfl) ?_ _
                  go_wp2_with fail
                  go_meet
                  exact ⟨p6, p7, rfl, rfl, HF⟩
              · have HSN : Hid (CkSt W1 (some p6) (some X1.heap.size) (X1.alloc (.cells #[.bool false, .bool false, .bool false, .bool false, .bool false, .int .i64 0] 33))) := HST.out.make2
                go_simp
                refine hK.out _ _ (HSS.out _ HSN.out.low) (fun _ => ?_)
                clear hK K HST
                obtain ⟨p7, ho⟩ : ∃ o, o = X1.heap.size := ⟨_, rfl⟩
                obtain ⟨X2, hX⟩ : ∃ X, X = X1.alloc (.cells #[.bool false, .bool false, .bool false, .bool false, .bool false, .int .i64 0] 33) := ⟨_, rfl⟩
                rw [← ho] at HSN ⊢
                rw [← hX] at HSN ⊢
                clear ho hX
                have HST := HSN
                clear HSN
                refine wpAnyH_ready (rs := [2]) (by kernel_rfl) (by simp) ?_
                refine AllReadyH.cons rfl (fun K hK => ?_) AllReadyH.nil
                go_simp
                refine (HC1.out _ HST.out.low).mono ?_
                rintro e X3 ⟨rfl, bx⟩
                have HSN : Hid (CkSt W1 (some p6) (some p7) X3) := HST.out.below bx
                refine hK.out _ _ (HSS.out _ HSN.out.low) (fun _ => ?_)
                clear hK K HST bx
                have HST := HSN
                clear HSN
                refine wpAnyH_ready (rs := [5]) (by kernel_rfl) (by simp) ?_
                refine AllReadyH.cons rfl (fun K hK => ?_) AllReadyH.nil
                go_simp
                refine (HC2.out _ HST.out.low).mono ?_
                rintro e X4 ⟨rfl, bx⟩
                have HSN : Hid (CkSt W1 (some p6) (some p7) X4) := HST.out.below bx
                refine hK.out _ _ (HSS.out _ HSN.out.low) (fun _ => ?_)
                clear hK K HST bx
                have HST := HSN
                clear HSN
                have hne : p6 ≠ p7 := fun e => HST.out.ne p6 rfl (by rw [e])
                obtain ⟨Y, hY⟩ : ∃ Y, Y = ((((((X4.setCell ⟨p6, 0, none⟩ (.bool q0)).setCell ⟨p6, 1, none⟩ (.bool q1)).setCell ⟨p6, 2, none⟩ (.bool q2)).setCell ⟨p6, 3, none⟩ (.bool q3)).setCell ⟨p6, 4, none⟩ (.bool q4)).setCell ⟨p6, 5, none⟩ (.int .i64 q5)) := ⟨_, rfl⟩
                have HY : Hid (((((((X4.setCell ⟨p6, 0, none⟩ (.bool q0)).setCell ⟨p6, 1, none⟩ (.bool q1)).setCell ⟨p6, 2, none⟩ (.bool q2)).setCell ⟨p6, 3, none⟩ (.bool q3)).setCell ⟨p6, 4, none⟩ (.bool q4)).setCell ⟨p6, 5, none⟩ (.int .i64 q5)) = Y) := hY.symm
                have HR1 : Hid (CcAt X4 p6 cc0) := (HST.out.b1 p6 rfl).1
                have HYL : Hid (Below W1.heap.size W1 Y) := by show Below _ _ _; rw [hY]; exact below_putCc HST.out.low (HST.out.b1 p6 rfl).2 ⟨q0, q1, q2, q3, q4, q5⟩
                have HR2 : Hid (CcAt Y p7 cc0) := by show CcAt _ _ _; rw [hY]; exact (HST.out.b2 p7 rfl).1.same (putCcO _ _ _ ⟨q0, q1, q2, q3, q4, q5⟩ (fun e => hne e.symm))
                have HR3 : Hid (CcAt Y p6 ⟨q0, q1, q2, q3, q4, q5⟩) := by show CcAt _ _ _; rw [hY]; exact HR1.out.putAll ⟨q0, q1, q2, q3, q4, q5⟩
                obtain ⟨U, hU⟩ : ∃ U, U = ((((((Y.setCell ⟨p7, 0, none⟩ (.bool z0)).setCell ⟨p7, 1, none⟩ (.bool z1)).setCell ⟨p7, 2, none⟩ (.bool z2)).setCell ⟨p7, 3, none⟩ (.bool z3)).setCell ⟨p7, 4, none⟩ (.bool z4)).setCell ⟨p7, 5, none⟩ (.int .i64 z5)) := ⟨_, rfl⟩
                have HU : Hid (((((((Y.setCell ⟨p7, 0, none⟩ (.bool z0)).setCell ⟨p7, 1, none⟩ (.bool z1)).setCell ⟨p7, 2, none⟩ (.bool z2)).setCell ⟨p7, 3, none⟩ (.bool z3)).setCell ⟨p7, 4, none⟩ (.bool z4)).setCell ⟨p7, 5, none⟩ (.int .i64 z5)) = U) := hU.symm
                have HF : Hid (Below W1.heap.size W1 U ∧ CcAt U p6 ⟨q0, q1, q2, q3, q4, q5⟩ ∧ CcAt U p7 ⟨z0, z1, z2, z3, z4, z5⟩) := by
                  show _ ∧ _ ∧ _
                  rw [hU]
                  exact ⟨below_putCc HYL.out (HST.out.b2 p7 rfl).2 ⟨z0, z1, z2, z3, z4, z5⟩, HR3.out.same (putCcO _ _ _ ⟨z0, z1, z2, z3, z4, z5⟩ hne), HR2.out.putAll ⟨z0, z1, z2, z3, z4, z5⟩⟩
                have hs8 := HSS.out _ HYL.out
                have hs9 := HSS.out _ HF.out.1
                clear hY hU hne
                refine wpAnyH_ready (rs := [8]) (by kernel_rfl) (by simp) ?_
                refine AllReadyH.cons rfl (fun K hK => ?_) AllReadyH.nil
                obtain ⟨x0, x1, x2, x3, x4, x5⟩ := HR1.out.cells
                have y0 := HR1.out.frozen 0
                have y1 := HR1.out.frozen 1
                have y2 := HR1.out.frozen 2
                have y3 := HR1.out.frozen 3
                have y4 := HR1.out.frozen 4
                have y5 := HR1.out.frozen 5
                clear HST HR1 HR3 HYL
                go_simp
                rw [HY.out]
                refine hK.out _ _ hs8 (fun _ => ?_)
                clear hK K x0 x1 x2 x3 x4 x5 y0 y1 y2 y3 y4 y5 HY
                refine wpAnyH_ready (rs := [9]) (by kernel_rfl) (by simp) ?_
                refine AllReadyH.cons rfl (fun K hK => ?_) AllReadyH.nil
                obtain ⟨x0, x1, x2, x3, x4, x5⟩ := HR2.out.cells
                have y0 := HR2.out.frozen 0
                have y1 := HR2.out.frozen 1
                have y2 := HR2.out.frozen 2
                have y3 := HR2.out.frozen 3
                have y4 := HR2.out.frozen 4
                have y5 := HR2.out.frozen 5
                clear HR2
                go_simp
                rw [HU.out]
                refine hK.out _ _ hs9 (fun _ => ?_)
                clear hK K x0 x1 x2 x3 x4 x5 y0 y1 y2 y3 y4 y5 hs8 hs9 HU
                refine wpAnyH_done (by kernel_rfl) ?_ _
                go_wp2_with fail
                go_meet
                exact ⟨p6, p7, rfl, rfl, HF⟩
            · have HSN : Hid (CkSt W1 none (some X0.heap.size) (X0.alloc (.cells #[.bool false, .bool false, .bool false, .bool false, .bool false, .int .i64 0] 33))) := HST.out.make2
              go_simp
              refine hK.out _ _ (HSS.out _ HSN.out.low) (fun _ => ?_)
              clear hK K HST
              obtain ⟨p7, ho⟩ : ∃ o, o = X0.heap.size := ⟨_, rfl⟩
              obtain ⟨X1, hX⟩ : ∃ X, X = X0.alloc (.cells #[.bool false, .bool false, .bool false, .bool false, .bool false, .int .i64 0] 33) := ⟨_, rfl⟩
              rw [← ho] at HSN ⊢
              rw [← hX] at HSN ⊢
              clear ho hX
              have HST := HSN
              clear HSN
              refine wpAnyH_ready (rs := [2, 6]) (by kernel_rfl) (by simp) ?_
              refine AllReadyH.cons rfl (fun K hK => ?_) (AllReadyH.cons rfl (fun K hK => ?_) AllReadyH.nil)
              · go_simp
                refine (HC1.out _ HST.out.low).mono ?_
                rintro e X2 ⟨rfl, bx⟩
                have HSN : Hid (CkSt W1 none (some p7) X2) := HST.out.below bx
                refine hK.out _ _ (HSS.out _ HSN.out.low) (fun _ => ?_)
                clear hK K HST bx
                have HST := HSN
                clear HSN
                refine wpAnyH_ready (rs := [5, 6]) (by kernel_rfl) (by simp) ?_
                refine AllReadyH.cons rfl (fun K hK => ?_) (AllReadyH.cons rfl (fun K hK => ?_) AllReadyH.nil)
                · go_simp
                  refine (HC2.out _ HST.out.low).mono ?_
                  rintro e X3 ⟨rfl, bx⟩
                  have HSN : Hid (CkSt W1 none (some p7) X3) := HST.out.below bx
                  refine hK.out _ _ (HSS.out _ HSN.out.low) (fun _ => ?_)
                  clear hK K HST bx
                  have HST := HSN
                  clear HSN
                  refine wpAnyH_ready (rs := [6]) (by kernel_rfl) (by simp) ?_
                  refine AllReadyH.cons rfl (fun K hK => ?_) AllReadyH.nil
                  have HSN : Hid (CkSt W1 (some X3.heap.size) (some p7) (X3.alloc (.cells #[.bool false, .bool false, .bool false, .bool false, .bool false, .int .i64 0] 33))) := HST.out.make1
                  go_simp
                  refine hK.out _ _ (HSS.out _ HSN.out.low) (fun _ => ?_)
                  clear hK K HST
                  obtain ⟨p6, ho⟩ : ∃ o, o = X3.heap.size := ⟨_, rfl⟩
                  obtain ⟨X4, hX⟩ : ∃ X, X = X3.alloc (.cells #[.bool false, .bool false, .bool false, .bool false, .bool false, .int .i64 0] 33) := ⟨_, rfl⟩
                  rw [← ho] at HSN ⊢
                  rw [← hX] at HSN ⊢
                  clear ho hX
                  have HST := HSN
                  clear HSN
                  have hne : p6 ≠ p7 := fun e => HST.out.ne p6 rfl (by rw [e])
                  obtain ⟨Y, hY⟩ : ∃ Y, Y = ((((((X4.setCell ⟨p6, 0, none⟩ (.bool q0)).setCell ⟨p6, 1, none⟩ (.bool q1)).setCell ⟨p6, 2, none⟩ (.bool q2)).setCell ⟨p6, 3, none⟩ (.bool q3)).setCell ⟨p6, 4, none⟩ (.bool q4)).setCell ⟨p6, 5, none⟩ (.int .i64 q5)) := ⟨_, rfl⟩
                  have HY : Hid (((((((X4.setCell ⟨p6, 0, none⟩ (.bool q0)).setCell ⟨p6, 1, none⟩ (.bool q1)).setCell ⟨p6, 2, none⟩ (.bool q2)).setCell ⟨p6, 3, none⟩ (.bool q3)).setCell ⟨p6, 4, none⟩ (.bool q4)).setCell ⟨p6, 5, none⟩ (.int .i64 q5)) = Y) := hY.symm
                  have HR1 : Hid (CcAt X4 p6 cc0) := (HST.out.b1 p6 rfl).1
                  have HYL : Hid (Below W1.heap.size W1 Y) := by show Below _ _ _; rw [hY]; exact below_putCc HST.out.low (HST.out.b1 p6 rfl).2 ⟨q0, q1, q2, q3, q4, q5⟩
                  have HR2 : Hid (CcAt Y p7 cc0) := by show CcAt _ _ _; rw [hY]; exact (HST.out.b2 p7 rfl).1.same (putCcO _ _ _ ⟨q0, q1, q2, q3, q4, q5⟩ (fun e => hne e.symm))
                  have HR3 : Hid (CcAt Y p6 ⟨q0, q1, q2, q3, q4, q5⟩) := by show CcAt _ _ _; rw [hY]; exact HR1.out.putAll ⟨q0, q1, q2, q3, q4, q5⟩
                  obtain ⟨U, hU⟩ : ∃ U, U = ((((((Y.setCell ⟨p7, 0, none⟩ (.bool z0)).setCell ⟨p7, 1, none⟩ (.bool z1)).setCell ⟨p7, 2, none⟩ (.bool z2)).setCell ⟨p7, 3, none⟩ (.bool z3)).setCell ⟨p7, 4, none⟩ (.bool z4)).setCell ⟨p7, 5, none⟩ (.int .i64 z5)) := ⟨_, rfl⟩
                  have HU : Hid (((((((Y.setCell ⟨p7, 0, none⟩ (.bool z0)).setCell ⟨p7, 1, none⟩ (.bool z1)).setCell ⟨p7, 2, none⟩ (.bool z2)).setCell ⟨p7, 3, none⟩ (.bool z3)).setCell ⟨p7, 4, none⟩ (.bool z4)).setCell ⟨p7, 5, none⟩ (.int .i64 z5)) = U) := hU.symm
                  have HF : Hid (Below W1.heap.size W1 U ∧ CcAt U p6 ⟨q0, q1, q2, q3, q4, q5⟩ ∧ CcAt U p7 ⟨z0, z1, z2, z3, z4, z5⟩) := by
                    show _ ∧ _ ∧ _
                    rw [hU]
                    exact ⟨below_putCc HYL.out (HST.out.b2 p7 rfl).2 ⟨z0, z1, z2, z3, z4, z5⟩, HR3.out.same (putCcO _ _ _ ⟨z0, z1, z2, z3, z4, z5⟩ hne), HR2.out.putAll ⟨z0, z1, z2, z3, z4, z5⟩⟩
                  have hs8 := HSS.out _ HYL.out
                  have hs9 := HSS.out _ HF.out.1
                  clear hY hU hne
                  refine wpAnyH_ready (rs := [8]) (by kernel_rfl) (by simp) ?_
                  refine AllReadyH.cons rfl (fun K hK => ?_) AllReadyH.nil
                  obtain ⟨x0, x1, x2, x3, x4, x5⟩ := HR1.out.cells
                  have y0 := HR1.out.frozen 0
                  have y1 := HR1.out.frozen 1
                  have y2 := HR1.out.frozen 2
                  have y3 := HR1.out.frozen 3
                  have y4 := HR1.out.frozen 4
                  have y5 := HR1.out.frozen 5
                  clear HST HR1 HR3 HYL
                  go_simp
                  rw [HY.out]
                  refine hK.out _ _ hs8 (fun _ => ?_)
                  clear hK K x0 x1 x2 x3 x4 x5 y0 y1 y2 y3 y4 y5 HY
                  refine wpAnyH_ready (rs := [9]) (by kernel_rfl) (by simp) ?_
                  refine AllReadyH.cons rfl (fun K hK => ?_) AllReadyH.nil
                  obtain ⟨x0, x1, x2, x3, x4, x5⟩ := HR2.out.cells
                  have y0 := HR2.out.frozen 0
                  have y1 := HR2.out.frozen 1
                  have y2 := HR2.out.frozen 2
                  have y3 := HR2.out.frozen 3
                  have y4 := HR2.out.frozen 4
                  have y5 := HR2.out.frozen 5
                  clear HR2
                  go_simp
                  rw [HU.out]
                  refine hK.out _ _ hs9 (fun _ => ?_)
                  clear hK K x0 x1 x2 x3 x4 x5 y0 y1 y2 y3 y4 y5 hs8 hs9 HU
                  refine wpAnyH_done (by kernel_rfl) ?_ _
                  go_wp2_with fail
                  go_meet
                  exact ⟨p6, p7, rfl, rfl, HF⟩
                · have HSN : Hid (CkSt W1 (some X2.heap.size) (some p7) (X2.alloc (.cells #[.bool false, .bool false, .bool false, .bool false, .bool false, .int .i64 0] 33))) := HST.out.make1
                  go_simp
                  refine hK.out _ _ (HSS.out _ HSN.out.low) (fun _ => ?_)
                  clear hK K HST
                  obtain ⟨p6, ho⟩ : ∃ o, o = X2.heap.size := ⟨_, rfl⟩
                  obtain ⟨X3, hX⟩ : ∃ X, X = X2.alloc (.cells #[.bool false, .bool false, .bool false, .bool false, .bool false, .int .i64 0] 33) := ⟨_, rfl⟩
                  rw [← ho] at HSN ⊢
                  rw [← hX] at HSN ⊢
                  clear ho hX
                  have HST := HSN
                  clear HSN
                  refine wpAnyH_ready (rs := [5]) (by kernel_rfl) (by simp) ?_
                  refine AllReadyH.cons rfl (fun K hK => ?_) AllReadyH.nil
                  go_simp
                  refine (HC2.out _ HST.out.low).mono ?_
                  rintro e X4 ⟨rfl, bx⟩
                  have HSN : Hid (CkSt W1 (some p6) (some p7) X4) := HST.out.below bx
                  refine hK.out _ _ (HSS.out _ HSN.out.low) (fun _ => ?_)
                  clear hK K HST bx
                  have HST := HSN
                  clear HSN
                  have hne : p6 ≠ p7 := fun e => HST.out.ne p6 rfl (by rw [e])
                  obtain ⟨Y, hY⟩ : ∃ Y, Y = ((((((X4.setCell ⟨p6, 0, none⟩ (.bool q0)).setCell ⟨p6, 1, none⟩ (.bool q1)).setCell ⟨p6, 2, none⟩ (.bool q2)).setCell ⟨p6, 3, none⟩ (.bool q3)).setCell ⟨p6, 4, none⟩ (.bool q4)).setCell ⟨p6, 5, none⟩ (.int .i64 q5)) := ⟨_, rfl⟩
                  have HY : Hid (((((((X4.setCell ⟨p6, 0, none⟩ (.bool q0)).setCell ⟨p6, 1, none⟩ (.bool q1)).setCell ⟨p6, 2, none⟩ (.bool q2)).setCell ⟨p6, 3, none⟩ (.bool q3)).setCell ⟨p6, 4, none⟩ (.bool q4)).setCell ⟨p6, 5, none⟩ (.int .i64 q5)) = Y) := hY.symm
                  have HR1 : Hid (CcAt X4 p6 cc0) := (HST.out.b1 p6 rfl).1
                  have HYL : Hid (Below W1.heap.size W1 Y) := by show Below _ _ _; rw [hY]; exact below_putCc HST.out.low (HST.out.b1 p6 rfl).2 ⟨q0, q1, q2, q3, q4, q5⟩
                  have HR2 : Hid (CcAt Y p7 cc0) := by show CcAt _ _ _; rw [hY]; exact (HST.out.b2 p7 rfl).1.same (putCcO _ _ _ ⟨q0, q1, q2, q3, q4, q5⟩ (fun e => hne e.symm))
                  have HR3 : Hid (CcAt Y p6 ⟨q0, q1, q2, q3, q4, q5⟩) := by show CcAt _ _ _; rw [hY]; exact HR1.out.putAll ⟨q0, q1, q2, q3, q4, q5⟩
                  obtain ⟨U, hU⟩ : ∃ U, U = ((((((Y.setCell ⟨p7, 0, none⟩ (.bool z0)).setCell ⟨p7, 1, none⟩ (.bool z1)).setCell ⟨p7, 2, none⟩ (.bool z2)).setCell ⟨p7, 3, none⟩ (.bool z3)).setCell ⟨p7, 4, none⟩ (.bool z4)).setCell ⟨p7, 5, none⟩ (.int .i64 z5)) := ⟨_, rfl⟩
                  have HU : Hid (((((((Y.setCell ⟨p7, 0, none⟩ (.bool z0)).setCell ⟨p7, 1, none⟩ (.bool z1)).setCell ⟨p7, 2, none⟩ (.bool z2)).setCell ⟨p7, 3, none⟩ (.bool z3)).setCell ⟨p7, 4, none⟩ (.bool z4)).setCell ⟨p7, 5, none⟩ (.int .i64 z5)) = U) := hU.symm
                  have HF : Hid (Below W1.heap.size W1 U ∧ CcAt U p6 ⟨q0, q1, q2, q3, q4, q5⟩ ∧ CcAt U p7 ⟨z0, z1, z2, z3, z4, z5⟩) := by
                    show _ ∧ _ ∧ _
                    rw [hU]
                    exact ⟨below_putCc HYL.out (HST.out.b2 p7 rfl).2 ⟨z0, z1, z2, z3, z4, z5⟩, HR3.out.same (putCcO _ _ _ ⟨z0, z1, z2, z3, z4, z5⟩ hne), HR2.out.putAll ⟨z0, z1, z2, z3, z4, z5⟩⟩
                  have hs8 := HSS.out _ HYL.out
                  have hs9 := HSS.out _ HF.out.1
                  clear hY hU hne
                  refine wpAnyH_ready (rs := [8]) (by kernel_rfl) (by simp) ?_
                  refine AllReadyH.cons rfl (fun K hK => ?_) AllReadyH.nil
                  obtain ⟨x0, x1, x2, x3, x4, x5⟩ := HR1.out.cells
                  have y0 := HR1.out.frozen 0
                  have y1 := HR1.out.frozen 1
                  have y2 := HR1.out.frozen 2
                  have y3 := HR1.out.frozen 3
                  have y4 := HR1.out.frozen 4
                  have y5 := HR1.out.frozen 5
                  clear HST HR1 HR3 HYL
                  go_simp
                  rw [HY.out]
                  refine hK.out _ _ hs8 (fun _ => ?_)
                  clear hK K x0 x1 x2 x3 x4 x5 y0 y1 y2 y3 y4 y5 HY
                  refine wpAnyH_ready (rs := [9]) (by kernel_rfl) (by simp) ?_
                  refine AllReadyH.cons rfl (fun K hK => ?_) AllReadyH.nil
                  obtain ⟨x0, x1, x2, x3, x4, x5⟩ := HR2.out.cells
                  have y0 := HR2.out.frozen 0
                  have y1 := HR2.out.frozen 1
                  have y2 := HR2.out.frozen 2
                  have y3 := HR2.out.frozen 3
                  have y4 := HR2.out.frozen 4
                  have y5 := HR2.out.frozen 5
                  clear HR2
                  go_simp
                  rw [HU.out]
                  refine hK.out _ _ hs9 (fun _ => ?_)
                  clear hK K x0 x1 x2 x3 x4 x5 y0 y1 y2 y3 y4 y5 hs8 hs9 HU
                  refine wpAnyH_done (by kernel_rfl) ?_ _
                  go_wp2_with fail
                  go_meet
                  exact ⟨p6, p7, rfl, rfl, HF⟩
              · have HSN : Hid (CkSt W1 (some X1.heap.size) (some p7) (X1.alloc (.cells #[.bool false, .bool false, .bool false, .bool false, .bool false, .int .i64 0] 33))) := HST.out.make1
                go_simp
                refine hK.out _ _ (HSS.out _ HSN.out.low) (fun _ => ?_)
                clear hK K HST
                obtain ⟨p6, ho⟩ : ∃ o, o = X1.heap.size := ⟨_, rfl⟩
                obtain ⟨X2, hX⟩ : ∃ X, X = X1.alloc (.cells #[.bool false, .bool false, .bool false, .bool false, .bool false, .int .i64 0] 33) := ⟨_, rfl⟩
                rw [← ho] at HSN ⊢
                rw [← hX] at HSN ⊢
                clear ho hX
                have HST := HSN
                clear HSN
                refine wpAnyH_ready (rs := [2]) (by kernel_rfl) (by simp) ?_
                refine AllReadyH.cons rfl (fun K hK => ?_) AllReadyH.nil
                go_simp
                refine (HC1.out _ HST.out.low).mono ?_
                rintro e X3 ⟨rfl, bx⟩
                have HSN : Hid (CkSt W1 (some p6) (some p7) X3) := HST.out.below bx
                refine hK.out _ _ (HSS.out _ HSN.out.low) (fun _ => ?_)
                clear hK K HST bx
                have HST := HSN
                clear HSN
                refine wpAnyH_ready (rs := [5]) (by kernel_rfl) (by simp) ?_
                refine AllReadyH.cons rfl (fun K hK => ?_) AllReadyH.nil
                go_simp
                refine (HC2.out _ HST.out.low).mono ?_
                rintro e X4 ⟨rfl, bx⟩
                have HSN : Hid (CkSt W1 (some p6) (some p7) X4) := HST.out.below bx
                refine hK.out _ _ (HSS.out _ HSN.out.low) (fun _ => ?_)
                clear hK K HST bx
                have HST := HSN
                clear HSN
                have hne : p6 ≠ p7 := fun e => HST.out.ne p6 rfl (by rw [e])
                obtain ⟨Y, hY⟩ : ∃ Y, Y = ((((((X4.setCell ⟨p6, 0, none⟩ (.bool q0)).setCell ⟨p6, 1, none⟩ (.bool q1)).setCell ⟨p6, 2, none⟩ (.bool q2)).setCell ⟨p6, 3, none⟩ (.bool q3)).setCell ⟨p6, 4, none⟩ (.bool q4)).setCell ⟨p6, 5, none⟩ (.int .i64 q5)) := ⟨_, rfl⟩
                have HY : Hid (((((((X4.setCell ⟨p6, 0, none⟩ (.bool q0)).setCell ⟨p6, 1, none⟩ (.bool q1)).setCell ⟨p6, 2, none⟩ (.bool q2)).setCell ⟨p6, 3, none⟩ (.bool q3)).setCell ⟨p6, 4, none⟩ (.bool q4)).setCell ⟨p6, 5, none⟩ (.int .i64 q5)) = Y) := hY.symm
                have HR1 : Hid (CcAt X4 p6 cc0) := (HST.out.b1 p6 rfl).1
                have HYL : Hid (Below W1.heap.size W1 Y) := by show Below _ _ _; rw [hY]; exact below_putCc HST.out.low (HST.out.b1 p6 rfl).2 ⟨q0, q1, q2, q3, q4, q5⟩
                have HR2 : Hid (CcAt Y p7 cc0) := by show CcAt _ _ _; rw [hY]; exact (HST.out.b2 p7 rfl).1.same (putCcO _ _ _ ⟨q0, q1, q2, q3, q4, q5⟩ (fun e => hne e.symm))
                have HR3 : Hid (CcAt Y p6 ⟨q0, q1, q2, q3, q4, q5⟩) := by show CcAt _ _ _; rw [hY]; exact HR1.out.putAll ⟨q0, q1, q2, q3, q4, q5⟩
                obtain ⟨U, hU⟩ : ∃ U, U = ((((((Y.setCell ⟨p7, 0, none⟩ (.bool z0)).setCell ⟨p7, 1, none⟩ (.bool z1)).setCell ⟨p7, 2, none⟩ (.bool z2)).setCell ⟨p7, 3, none⟩ (.bool z3)).setCell ⟨p7, 4, none⟩ (.bool z4)).setCell ⟨p7, 5, none⟩ (.int .i64 z5)) := ⟨_, rfl⟩
                have HU : Hid (((((((Y.setCell ⟨p7, 0, none⟩ (.bool z0)).setCell ⟨p7, 1, none⟩ (.bool z1)).setCell ⟨p7, 2, none⟩ (.bool z2)).setCell ⟨p7, 3, none⟩ (.bool z3)).setCell ⟨p7, 4, none⟩ (.bool z4)).setCell ⟨p7, 5, none⟩ (.int .i64 z5)) = U) := hU.symm
                have HF : Hid (Below W1.heap.size W1 U ∧ CcAt U p6 ⟨q0, q1, q2, q3, q4, q5⟩ ∧ CcAt U p7 ⟨z0, z1, z2, z3, z4, z5⟩) := by
                  show _ ∧ _ ∧ _
                  rw [hU]
                  exact ⟨below_putCc HYL.out (HST.out.b2 p7 rfl).2 ⟨z0, z1, z2, z3, z4, z5⟩, HR3.out.same (putCcO _ _ _ ⟨z0, z1, z2, z3, z4, z5⟩ hne), HR2.out.putAll ⟨z0, z1, z2, z3, z4, z5⟩⟩
                have hs8 := HSS.out _ HYL.out
                have hs9 := HSS.out _ HF.out.1
                clear hY hU hne
                refine wpAnyH_ready (rs := [8]) (by kernel_rfl) (by simp) ?_
                refine AllReadyH.cons rfl (fun K hK => ?_) AllReadyH.nil
                obtain ⟨x0, x1, x2, x3, x4, x5⟩ := HR1.out.cells
                have y0 := HR1.out.frozen 0
                have y1 := HR1.out.frozen 1
                have y2 := HR1.out.frozen 2
                have y3 := HR1.out.frozen 3
                have y4 := HR1.out.frozen 4
                have y5 := HR1.out.frozen 5
                clear HST HR1 HR3 HYL
                go_simp
                rw [HY.out]
                refine hK.out _ _ hs8 (fun _ => ?_)
                clear hK K x0 x1 x2 x3 x4 x5 y0 y1 y2 y3 y4 y5 HY
                refine wpAnyH_ready (rs := [9]) (by kernel_rfl) (by simp) ?_
                refine AllReadyH.cons rfl (fun K hK => ?_) AllReadyH.nil
                obtain ⟨x0, x1, x2, x3, x4, x5⟩ := HR2.out.cells
                have y0 := HR2.out.frozen 0
                have y1 := HR2.out.frozen 1
                have y2 := HR2.out.frozen 2
                have y3 := HR2.out.frozen 3
                have y4 := HR2.out.frozen 4
                have y5 := HR2.out.frozen 5
                clear HR2
                go_simp
                rw [HU.out]
                refine hK.out _ _ hs9 (fun _ => ?_)
                clear hK K x0 x1 x2 x3 x4 x5 y0 y1 y2 y3 y4 y5 hs8 hs9 HU
                refine wpAnyH_done (by kernel_rfl) ?_ _
                go_wp2_with fail
                go_meet
                exact ⟨p6, p7, rfl, rfl, HF⟩
          case rest =>
          obtain ⟨o1, o2, hs5, hs6, HF⟩ := hcut
          rw [hs5, hs6]
          obtain ⟨w5, hw5⟩ : ∃ W, W = wc := ⟨_, rfl⟩
          rw [← hw5] at HF ⊢
          clear hs5 hs6 hw5 c2 d1 HST0
          have HB : Hid (Below w.heap.size w w5) := (HKEEP.out w5 HF.out.1).2.2.2
          obtain ⟨x0, _, _, _, _, _⟩ := HF.out.2.1.cells
          obtain ⟨y0, _, y2, _, y4, _⟩ := HF.out.2.2.cells
          dsimp only at x0 y0 y2 y4
          cases q0 with
          | true =>
            have HF : Hid (¬ MayP 1 p fs b 200 gs c) := fun h => nomatch (HQ.out.1 h).1
            go_wp2_with fail
            go_ret
            exact BoolIs.no HF.out HB.out
          | false =>
            cases z0 with
            | true =>
              have HF : Hid (¬ MayP 1 p fs b 200 gs c) := fun h => nomatch (HQ.out.1 h).2.1
              go_wp2_with fail
              go_ret
              exact BoolIs.no HF.out HB.out
            | false =>
              cases z2 with
              | true =>
                have HF : Hid (¬ MayP 1 p fs b 200 gs c) := fun h => nomatch (HQ.out.1 h).2.2.1
                go_wp2_with fail
                go_ret
                exact BoolIs.no HF.out HB.out
              | false =>
                cases z4 with
                | false =>
                  have HF : Hid (¬ MayP 1 p fs b 200 gs c) := fun h => nomatch (HQ.out.1 h).2.2.2.1
                  go_wp2_with fail
                  go_ret
                  exact BoolIs.no HF.out HB.out
                | true =>
                  obtain ⟨_, k1⟩ := HSS.out w5 HF.out.1
                  have hu5 := (HKEEP.out w5 HF.out.1).2.2.1
                  have HF1 : Hid (Below W1.heap.size W1 w5) := HF.out.1
                  clear HC1 HC2
                  go_wp2_with fail
                  refine (specVaryOf_any _ k base2 gs _ hu5 hk HG3.out).mono ?_
                  rintro e w6 ⟨V, rfl, O, b6⟩
                  obtain ⟨ov, cv, rfl, hx⟩ := texts_own O
                  have HX : Hid (TextsA w6 ov (varyP gs).length (varyP gs)) := hx
                  have HB6 : Hid (Below w.heap.size w w6) := (HKEEP.out w6 (HF1.out.trans (b6.mono HF1.out.size))).2.2.2
                  obtain ⟨vl, hvl⟩ : ∃ l, l = varyP gs := ⟨_, rfl⟩
                  have HVZ : Hid (vl.length ≤ 1048577 ∧ ∀ i, i < vl.length → (textAt vl i).size ≤ maxLen) := by
                    show _ ∧ _
                    rw [hvl]
                    have hle := splitL_le (getV gs varyName)
                    have hg := HG3.out
                    unfold varyP
                    refine ⟨by rw [List.length_map]; omega, fun i hi => ?_⟩
                    rw [List.length_map] at hi
                    unfold textAt
                    rw [List.getD_eq_getElem?_getD, List.getElem?_map, List.getElem?_eq_getElem hi]
                    have := hle.2 _ (List.getElem_mem hi)
                    show (lowerOf _).size ≤ _
                    rw [lower_size]
                    unfold maxLen
                    omega
                  rw [← hvl] at HX HQ ⊢
                  clear O b6 hx hu5 k1 x0 y0 y2 y4 HF hvl
                  go_wp2_with fail
                  refine (l9Names_any ov vl.length cv vl _ HX.out (by have := HVZ.out.1; omega) HVZ.out.2).mono ?_
                  rintro e w7 ⟨t, rfl, ht, b7⟩
                  have HB7 : Hid (Below w.heap.size w w7) := HB6.out.trans (b7.mono HB6.out.size)
                  have HT : Hid (t = true ↔ MayP 1 p fs b 200 gs c) := by
                    show _ ↔ _
                    rw [ht, HQ.out]
                    simp
                  clear b7 ht
                  go_wp2_with fail
                  go_ret
                  exact ⟨t, rfl, HT.out, HB7.out⟩
        · have hst2 : (st != 200) = true := by simpa using hst
          have HF : Hid (¬ MayP m p fs b st gs c) := fun h => hst h.1.2.2.2
          go_wp2_with fail
          go_ret
          exact BoolIs.no HF.out HB.out
      · have hm2 : (m != 1) = true := by simpa using hm
        have HF : Hid (¬ MayP m p fs b st gs c) := fun h => hm h.1.2.2.1
        go_wp2_with fail
        go_ret
        exact BoolIs.no HF.out HB.out

end Go.Proofs.YthlmnmbhgkmbfaaGreatDoor

namespace Go.Proofs.YthlmnmbhgkmbfaaGreatDoor
open Go.RowKit
open Go.Lib hiding intOf

set_option maxHeartbeats 2000000 in
theorem saidByFlag_any (x : ByteArray) (w : World) :
    Calls Tryz.prog 80 #[.string x] w fun e w' => e = .returned (saidF x).v ∧ Below w.heap.size w w' := by
  have hR : CcAt (w.alloc (.cells #[.bool false, .bool false, .bool false, .bool false, .bool false, .int .i64 0] 33)) w.heap.size cc0 := heap_alloc_new w _
  have HB0 : Hid (Below w.heap.size w (w.alloc (.cells #[.bool false, .bool false, .bool false, .bool false, .bool false, .int .i64 0] 33))) := (Below.refl _ _).alloc (Nat.le_refl _) _
  obtain ⟨W1, hW1⟩ : ∃ W, W = w.alloc (.cells #[.bool false, .bool false, .bool false, .bool false, .bool false, .int .i64 0] 33) := ⟨_, rfl⟩
  have HW1 : Hid (w.alloc (.cells #[.bool false, .bool false, .bool false, .bool false, .bool false, .int .i64 0] 33) = W1) := hW1.symm
  rw [← hW1] at hR HB0
  obtain ⟨H, hH⟩ : ∃ H, H = w.heap.size := ⟨_, rfl⟩
  have HW : Hid (w.heap.size = H) := hH.symm
  rw [← hH] at hR HB0
  clear hW1
  obtain ⟨r0, r1, r2, r3, r4, r5⟩ := hR.cells
  have f0 := hR.frozen 0
  have f1 := hR.frozen 1
  have f2 := hR.frozen 2
  have f3 := hR.frozen 3
  have f4 := hR.frozen 4
  have f5 := hR.frozen 5
  obtain ⟨c, hc⟩ : ∃ c, c = saidF x := ⟨_, rfl⟩
  have HC : Hid (saidF x = c) := hc.symm
  obtain ⟨m0, m1, m2, m3, m4, m5⟩ := (hR.putAll c).cells
  have HB : Hid (Below H w (putCc W1 H c)) := below_putCc HB0.out (Nat.le_refl _) c
  unfold putCc at m0 m1 m2 m3 m4 m5 HB
  clear hR HB0
  unfold saidF at hc
  by_cases h0 : x = nsW
  · have t0 : (x.toList == nsW.toList) = true := (text_beq _ _).2 h0
    rw [nsW_list] at t0
    rw [if_pos h0] at hc
    subst hc
    clear h0 
    dsimp only at m0 m1 m2 m3 m4 m5 HB
    go_enter Tryz.func80, Tryz.ntmps80
    go_upto_region 1 with fail
    rw [HW1.out, ← hH]
    clear hH HW1
    go_wp2_with fail
    refine bodyPost_ret (v := (saidF x).v) (by rw [HC.out]; simp [results, Tryz.results80, go_sem, m0, m1, m2, m3, m4, m5, CcD.v]) rfl ?_
    exact ⟨rfl, by rw [HW.out]; exact HB.out⟩
  have t0 : (x.toList == nsW.toList) = false := text_beq_no h0
  rw [nsW_list] at t0
  by_cases h1 : x = ncW
  · have t1 : (x.toList == ncW.toList) = true := (text_beq _ _).2 h1
    rw [ncW_list] at t1
    rw [if_neg h0, if_pos h1] at hc
    subst hc
    clear h1 h0
    dsimp only at m0 m1 m2 m3 m4 m5 HB
    go_enter Tryz.func80, Tryz.ntmps80
    go_upto_region 1 with fail
    rw [HW1.out, ← hH]
    clear hH HW1
    go_wp2_with fail
    refine bodyPost_ret (v := (saidF x).v) (by rw [HC.out]; simp [results, Tryz.results80, go_sem, m0, m1, m2, m3, m4, m5, CcD.v]) rfl ?_
    exact ⟨rfl, by rw [HW.out]; exact HB.out⟩
  have t1 : (x.toList == ncW.toList) = false := text_beq_no h1
  rw [ncW_list] at t1
  by_cases h2 : x = prW
  · have t2 : (x.toList == prW.toList) = true := (text_beq _ _).2 h2
    rw [prW_list] at t2
    rw [if_neg h0, if_neg h1, if_pos h2] at hc
    subst hc
    clear h2 h0 h1
    dsimp only at m0 m1 m2 m3 m4 m5 HB
    go_enter Tryz.func80, Tryz.ntmps80
    go_upto_region 1 with fail
    rw [HW1.out, ← hH]
    clear hH HW1
    go_wp2_with fail
    refine bodyPost_ret (v := (saidF x).v) (by rw [HC.out]; simp [results, Tryz.results80, go_sem, m0, m1, m2, m3, m4, m5, CcD.v]) rfl ?_
    exact ⟨rfl, by rw [HW.out]; exact HB.out⟩
  have t2 : (x.toList == prW.toList) = false := text_beq_no h2
  rw [prW_list] at t2
  by_cases h4 : x = muW
  · have t3 : (x.toList == muW.toList) = true := (text_beq _ _).2 h4
    rw [muW_list] at t3
    rw [if_neg h0, if_neg h1, if_neg h2, if_pos h4] at hc
    subst hc
    clear h4 h0 h1 h2
    dsimp only at m0 m1 m2 m3 m4 m5 HB
    go_enter Tryz.func80, Tryz.ntmps80
    go_upto_region 1 with fail
    rw [HW1.out, ← hH]
    clear hH HW1
    go_wp2_with fail
    refine bodyPost_ret (v := (saidF x).v) (by rw [HC.out]; simp [results, Tryz.results80, go_sem, m0, m1, m2, m3, m4, m5, CcD.v]) rfl ?_
    exact ⟨rfl, by rw [HW.out]; exact HB.out⟩
  have t3 : (x.toList == muW.toList) = false := text_beq_no h4
  rw [muW_list] at t3
  rw [if_neg h0, if_neg h1, if_neg h2, if_neg h4] at hc
  subst hc
  clear h0 h1 h2 h4
  dsimp only [cc0] at m0 m1 m2 m3 m4 m5 HB
  go_enter Tryz.func80, Tryz.ntmps80
  go_upto_region 1 with fail
  rw [HW1.out, ← hH]
  clear hH HW1
  go_wp2_with fail
  refine bodyPost_ret (v := (saidF x).v) (by rw [HC.out]; simp [results, Tryz.results80, go_sem, m0, m1, m2, m3, m4, m5, CcD.v, cc0]) rfl ?_
  exact ⟨rfl, by rw [HW.out]; exact HB.out⟩

end Go.Proofs.YthlmnmbhgkmbfaaGreatDoor

namespace Go.Proofs.YthlmnmbhgkmbfaaGreatDoor
open Go.RowKit
open Go.Lib hiding intOf

theorem pre_age {x : ByteArray} (h : Lib.hasPrefix x.data.toList maW.data.toList = true) : ageOf x = some (numV ⟨(Lib.trimPrefix x.data.toList maW.data.toList).toArray⟩) := by
  unfold ageOf
  have e : (bs x).take 8 = bs maW := by
    have := List.isPrefixOf_iff_prefix.1 h
    obtain ⟨t, ht⟩ := this
    show x.data.toList.take 8 = _
    rw [← ht]
    rfl
  rw [if_pos e]
  unfold Lib.trimPrefix
  rw [if_pos h]
  rfl
theorem pre_none {x : ByteArray} (h : Lib.hasPrefix x.data.toList maW.data.toList = false) : ageOf x = none := by
  unfold ageOf
  rw [if_neg]
  intro e
  have : Lib.hasPrefix x.data.toList maW.data.toList = true := by
    refine List.isPrefixOf_iff_prefix.2 ⟨x.data.toList.drop 8, ?_⟩
    have e' : x.data.toList.take 8 = maW.data.toList := e
    rw [← e', List.take_append_drop]
  rw [this] at h
  cases h

set_option maxHeartbeats 2000000 in
theorem saidBy_any (x : ByteArray) (w : World) (hs : x.size ≤ 4000000) :
    Calls Tryz.prog 53 #[.string x] w fun e w' => e = .returned (saidB x).v ∧ Below w.heap.size w w' := by
  have HR0 : Hid (CcAt (w.alloc (.cells cc0.cs 33)) w.heap.size cc0) := heap_alloc_new w _
  have HB0 : Hid (Below w.heap.size w (w.alloc (.cells cc0.cs 33))) := (Below.refl _ _).alloc (Nat.le_refl _) _
  obtain ⟨W1, hW1⟩ : ∃ W, W = w.alloc (.cells cc0.cs 33) := ⟨_, rfl⟩
  have HW1 : Hid (w.alloc (.cells #[.bool false, .bool false, .bool false, .bool false, .bool false, .int .i64 0] 33) = W1) := hW1.symm
  rw [← hW1] at HR0 HB0
  obtain ⟨H, hH⟩ : ∃ H, H = w.heap.size := ⟨_, rfl⟩
  have HW : Hid (w.heap.size = H) := hH.symm
  rw [← hH] at HR0 HB0
  clear hW1
  cases hp : Lib.hasPrefix x.data.toList maW.data.toList with
  | true =>
    have HA : Hid _ := pre_age hp
    obtain ⟨t, ht⟩ : ∃ t : ByteArray, t = ⟨(Lib.trimPrefix x.data.toList maW.data.toList).toArray⟩ := ⟨_, rfl⟩
    have hts : t.size ≤ maxLen := by
      rw [ht]
      unfold Lib.trimPrefix maxLen
      rw [if_pos hp]
      show (List.toArray _).size ≤ _
      simp
      omega
    rw [← ht] at HA
    have HT : Hid (⟨(Lib.trimPrefix x.data.toList maW.data.toList).toArray⟩ = t) := ht.symm
    clear ht
    go_enter Tryz.func53, Tryz.ntmps53
    go_wp2_with fail
    rw [HW1.out, ← hH]
    refine (Tryz.strings_CutPrefix x maW _).mono ?_
    rintro e w1 ⟨rfl, rfl⟩
    rw [hp, HT.out]
    clear hp hH HW1
    go_wp2_with fail
    refine (implNumRead_any t _ hts).mono ?_
    rintro e w2 ⟨b, n, rfl, hb1, hb2, hb3, b2⟩
    have HV : Hid (numV t = n) := by
      show _ = _
      unfold numV
      cases b with
      | true => rw [if_pos (hb1.1 rfl), hb2 rfl]
      | false => rw [if_neg (fun h => nomatch hb1.2 h), hb3 rfl]
    obtain ⟨c, hc⟩ : ∃ c : CcD, c = ⟨false, false, false, false, true, n⟩ := ⟨_, rfl⟩
    have HC : Hid (saidB x = c) := by show _ = _; unfold saidB; rw [HA.out, HV.out, hc]
    have hR := HR0.out.same (b2.block _ HR0.out.lt)
    have HB : Hid (Below H w (putCc w2 H c)) := below_putCc (HB0.out.trans (b2.mono (Nat.le_of_lt HR0.out.lt))) (Nat.le_refl _) c
    obtain ⟨r0, r1, r2, r3, r4, r5⟩ := hR.cells
    have f0 := hR.frozen 0
    have f1 := hR.frozen 1
    have f2 := hR.frozen 2
    have f3 := hR.frozen 3
    have f4 := hR.frozen 4
    have f5 := hR.frozen 5
    obtain ⟨m0, m1, m2, m3, m4, m5⟩ := (hR.putAll c).cells
    unfold putCc at m0 m1 m2 m3 m4 m5 HB
    subst hc
    dsimp only at m0 m1 m2 m3 m4 m5 HB
    clear hb1 hb2 hb3 hR b2 HR0 HB0 HA
    go_wp2_with fail
    refine bodyPost_ret (v := CcD.v ⟨false, false, false, false, true, n⟩) (by simp [results, Tryz.results53, go_sem, m0, m1, m2, m3, m4, m5, CcD.v]) rfl ?_
    exact ⟨by rw [HC.out], by rw [HW.out]; exact HB.out⟩
  | false =>
    have HA : Hid (saidB x = saidF x) := by show _ = _; unfold saidB; rw [pre_none hp]
    go_enter Tryz.func53, Tryz.ntmps53
    go_wp2_with fail
    rw [HW1.out, ← hH]
    refine (Tryz.strings_CutPrefix x maW _).mono ?_
    rintro e w1 ⟨rfl, rfl⟩
    rw [hp]
    clear hp hH HW1
    go_wp2_with fail
    refine (saidByFlag_any x _).mono ?_
    rintro e w2 ⟨rfl, b2⟩
    obtain ⟨c, hc⟩ : ∃ c, c = saidF x := ⟨_, rfl⟩
    rw [← hc] at HA ⊢
    have hR := HR0.out.same (b2.block _ HR0.out.lt)
    have HB : Hid (Below H w (putCc w2 H c)) := below_putCc (HB0.out.trans (b2.mono (Nat.le_of_lt HR0.out.lt))) (Nat.le_refl _) c
    obtain ⟨r0, r1, r2, r3, r4, r5⟩ := hR.cells
    have f0 := hR.frozen 0
    have f1 := hR.frozen 1
    have f2 := hR.frozen 2
    have f3 := hR.frozen 3
    have f4 := hR.frozen 4
    have f5 := hR.frozen 5
    obtain ⟨m0, m1, m2, m3, m4, m5⟩ := (hR.putAll c).cells
    unfold putCc at m0 m1 m2 m3 m4 m5 HB
    clear hc hR b2 HR0 HB0
    unfold CcD.v
    go_wp2_with fail
    refine bodyPost_ret (v := c.v) (by simp [results, Tryz.results53, go_sem, m0, m1, m2, m3, m4, m5, CcD.v]) rfl ?_
    exact ⟨by rw [HA.out], by rw [HW.out]; exact HB.out⟩

/-- While words are read, here. -/
structure CiRd (w : World) (H : Nat) (c : CcD) (v : Value) (l : List ByteArray) (wr : World) : Prop where
  res : CcAt wr H cc0
  cur : CcAt wr (H + 1) c
  row : wr.ownsRow (H + 1 + 1) 9 1 v l.length (l.map Value.string)
  low : Below H w wr
theorem CiRd.later {w : World} {H : Nat} {c : CcD} {v : Value} {l : List ByteArray} {wr w' : World} (h : CiRd w H c v l wr) (hb : Below wr.heap.size wr w') : CiRd w H c v l w' :=
  ⟨h.res.same (hb.block _ h.res.lt), h.cur.same (hb.block _ h.cur.lt), owns_below h.row hb (fun _ hg => owns_lt h.row hg), h.low.trans (hb.mono (Nat.le_of_lt h.res.lt))⟩
theorem CiRd.putCc {w : World} {H : Nat} {c : CcD} {v : Value} {l : List ByteArray} {wr : World} (h : CiRd w H c v l wr) (d : CcD) : CiRd w H d v l (putCc wr (H + 1) d) :=
  ⟨h.res.same (putCc_other (by omega)), h.cur.putAll d, owns_same h.row (fun j hj => putCc_other (by have := (own_ltR h.row hj).1; omega)), below_putCc h.low (by omega) d⟩

set_option maxHeartbeats 4000000 in
set_option maxRecDepth 100000 in
theorem implCcRead_any (s : ByteArray) (w : World) (hs : s.size ≤ 1048576) :
    Calls Tryz.prog 27 #[.string s] w fun e w' => e = .returned (ccR s).v ∧ Below w.heap.size w w' := by
  obtain ⟨H, hH⟩ : ∃ H, H = w.heap.size := ⟨_, rfl⟩
  have HW : Hid (w.heap.size = H) := hH.symm
  obtain ⟨W0, hW0⟩ : ∃ W, W = (w.alloc (.cells cc0.cs 33)).alloc (.cells cc0.cs 33) := ⟨_, rfl⟩
  have HA : Hid (CcAt W0 H cc0 ∧ CcAt W0 (H + 1) cc0 ∧ Below H w W0 ∧ W0.heap.size = H + 1 + 1) := by
    have e1 := heap_alloc_new w (.cells cc0.cs 33)
    have e2 := heap_alloc_new (w.alloc (.cells cc0.cs 33)) (.cells cc0.cs 33)
    rw [World.size_alloc] at e2
    refine ⟨?_, ?_, ?_, ?_⟩
    · unfold CcAt; rw [hW0, hH, heap_alloc_old _ _ (by simp)]; exact e1
    · unfold CcAt; rw [hW0, hH]; exact e2
    · rw [hW0, hH]; exact ((Below.refl _ w).alloc (Nat.le_refl _) _).alloc (by simp) _
    · rw [hW0, hH]; simp
  have HW0 : Hid ((w.alloc (.cells #[.bool false, .bool false, .bool false, .bool false, .bool false, .int .i64 0] 33)).alloc (.cells #[.bool false, .bool false, .bool false, .bool false, .bool false, .int .i64 0] 33) = W0) := hW0.symm
  clear hW0
  go_enter Tryz.func27, Tryz.ntmps27
  go_wp2_with fail
  rw [HW0.out, ← hH]
  clear hH
  refine (implSplit_any s _ hs).mono ?_
  rintro e w0 ⟨v, rfl, hown, bb⟩
  rw [HA.out.2.2.2] at hown bb
  obtain ⟨l, hl⟩ : ∃ l, l = splitL s := ⟨_, rfl⟩
  rw [← hl] at hown
  have HLS : Hid (splitL s = l) := hl.symm
  have HLB : Hid (∀ x ∈ l, x.size ≤ 1048576) := fun x hx => by rw [hl] at hx; have := (splitL_le s).2 x hx; omega
  have hll : l.length ≤ 1048577 := by rw [hl]; have := (splitL_le s).1; omega
  have HS1 : Hid (CiRd w H (ccTo (l.take 0)) v l w0) := ⟨HA.out.1.same (bb.block _ (by omega)), HA.out.2.1.same (bb.block _ (by omega)), hown, HA.out.2.2.1.trans (bb.mono (by omega))⟩
  obtain ⟨oa, cp, rfl⟩ := slice_of_owns hown
  obtain ⟨n, hn⟩ : ∃ n, n = l.length := ⟨_, rfl⟩
  have HN : Hid (l.length = n) := hn.symm
  rw [← hn] at hll HS1 ⊢
  clear hown bb hl hn
  go_wp2_with fail
  go_loopw [9] (fun i wr => ∃ k : Nat, k ≤ n ∧ i = .int .i64 (k : Int) ∧ Hid (CiRd w H (ccTo (l.take k)) (.slice oa n cp) l wr)) (fun i _ => n - (intOf i).toNat)
  case atStart => exact ⟨0, Nat.zero_le _, rfl, HS1⟩
  case round =>
    obtain ⟨k, hk, rfl, HS⟩ := hrel
    by_cases hlt : (k : Int) < (n : Int)
    · have hkl : k < l.length := by have := HN.out; omega
      obtain ⟨g, rfl⟩ : ∃ g, oa = some ⟨g, 0, none⟩ := by
        rcases HS.out.row.2 with ⟨e, _⟩ | ⟨g, _, _, e, _⟩
        · injection e with _ e2 _; omega
        · injection e with e1 _ _; exact ⟨g, e1⟩
      obtain ⟨x, hx⟩ : ∃ x, x = l[k]'hkl := ⟨_, rfl⟩
      have hc0 : wr.cell? ⟨g, k, none⟩ = some (.string x) := by
        have hr := HS.out.row
        rw [HN.out] at hr
        exact (owns_cellC hr k (.string x) (by rw [List.getElem?_map, List.getElem?_eq_getElem hkl, hx]; rfl)).1
      have hxs : x.size ≤ 1048576 := by rw [hx]; exact HLB.out _ (List.getElem_mem hkl)
      obtain ⟨y, hy⟩ : ∃ y, y = lowerOf x := ⟨_, rfl⟩
      have hys : y.size ≤ 4000000 := by rw [hy, ccLow_size]; omega
      have HY : Hid (lowerOf x = y) := hy.symm
      obtain ⟨d, hd⟩ : ∃ d, d = ccTo (l.take (k + 1)) := ⟨_, rfl⟩
      obtain ⟨c, hc⟩ : ∃ c, c = ccTo (l.take k) := ⟨_, rfl⟩
      obtain ⟨u, hu⟩ : ∃ u, u = saidB y := ⟨_, rfl⟩
      have HSB : Hid (saidB y = u) := hu.symm
      have HTD : Hid (toge c u = d) := by
        show _ = _
        rw [hd, List.take_succ_eq_append_getElem hkl, ccTo_snoc, ← hx, ← hy, step_toge (ccTo_fit _), hc, hu]
      have HTG : Hid (∀ W, Calls Tryz.prog 52 #[.agg #[.bool c.ns, .bool c.nc, .bool c.pr, .bool c.mu, .bool c.ha, .int .i64 c.age], .agg #[.bool u.ns, .bool u.nc, .bool u.pr, .bool u.mu, .bool u.ha, .int .i64 u.age]] W fun e w' => e = .returned (toge c u).v ∧ Below W.heap.size W w') := fun W => together_any c u W
      have HD : Hid (∀ W, CiRd w H d (.slice (some ⟨g, 0, none⟩) n cp) l W → CiRd w H (ccTo (l.take (k + 1))) (.slice (some ⟨g, 0, none⟩) n cp) l W) := fun W h => by rw [← hd]; exact h
      rw [← hc] at HS
      clear hx hy hkl hc hd hu
      have HT1 : Hid (CiRd w H c (.slice (some ⟨g, 0, none⟩) n cp) l wr.drew) := HS.out.later (Below.refl _ _).drew
      go_upto_region 5 with fail
      clear hc0 HS
      refine wp_region_held_drew (S := fun _ => True) (by kernel_rfl) trivial (fun _ => ?_)
      refine wpAnyH_takeD (i := 1) (v := .string x) (some 14) rfl rfl (by kernel_rfl) (by kernel_rfl) (by kernel_rfl) (fun _ _ _ h => h) (Or.inl ⟨by rfl, by intro W _; go_simp⟩) trivial ?_
      simp only [Act.put, List.setIfInBounds_toArray, List.set_cons_zero, List.set_cons_succ]
      refine wpAnyH_ready (rs := [0, 2]) (by kernel_rfl) (by simp) ?_
      refine AllReadyH.cons rfl (fun K hK => ?_) (AllReadyH.cons rfl (fun K hK => ?_) AllReadyH.nil)
      · obtain ⟨q0, q1, q2, q3, q4, q5⟩ := HT1.out.cur.cells
        go_simp
        refine hK.out _ _ trivial (fun _ => ?_)
        clear hK K q0 q1 q2 q3 q4 q5
        refine wpAnyH_ready (rs := [2]) (by kernel_rfl) (by simp) ?_
        refine AllReadyH.cons rfl (fun K hK => ?_) AllReadyH.nil
        go_simp
        refine (implLower_any x _).mono ?_
        rintro e w2 ⟨rfl, hb2⟩
        rw [HY.out]
        have HT2 : Hid (CiRd w H c (.slice (some ⟨g, 0, none⟩) n cp) l w2) := HT1.out.later hb2
        clear hb2
        refine hK.out _ _ trivial (fun _ => ?_)
        clear hK K HT1
        refine wpAnyH_ready (rs := [3]) (by kernel_rfl) (by simp) ?_
        refine AllReadyH.cons rfl (fun K hK => ?_) AllReadyH.nil
        go_simp
        refine (saidBy_any y _ hys).mono ?_
        rintro e w3 ⟨rfl, hb3⟩
        rw [HSB.out]
        unfold CcD.v
        have HT3 : Hid (CiRd w H c (.slice (some ⟨g, 0, none⟩) n cp) l w3) := HT2.out.later hb3
        clear hb3
        refine hK.out _ _ trivial (fun _ => ?_)
        clear hK K HT2
        refine wpAnyH_ready (rs := [4]) (by kernel_rfl) (by simp) ?_
        refine AllReadyH.cons rfl (fun K hK => ?_) AllReadyH.nil
        go_simp
        refine (HTG.out _).mono ?_
        rintro e w4 ⟨rfl, hb4⟩
        rw [HTD.out]
        unfold CcD.v
        have HT4 : Hid (CiRd w H c (.slice (some ⟨g, 0, none⟩) n cp) l w4) := HT3.out.later hb4
        clear hb4
        refine hK.out _ _ trivial (fun _ => ?_)
        clear hK K HT3
        refine wpAnyH_ready (rs := [5]) (by kernel_rfl) (by simp) ?_
        refine AllReadyH.cons rfl (fun K hK => ?_) AllReadyH.nil
        have HZ : Hid (CiRd w H d (.slice (some ⟨g, 0, none⟩) n cp) l (putCc w4 (H + 1) d)) := HT4.out.putCc d
        obtain ⟨q0, q1, q2, q3, q4, q5⟩ := HT4.out.cur.cells
        have f0 := HT4.out.cur.frozen 0
        have f1 := HT4.out.cur.frozen 1
        have f2 := HT4.out.cur.frozen 2
        have f3 := HT4.out.cur.frozen 3
        have f4 := HT4.out.cur.frozen 4
        have f5 := HT4.out.cur.frozen 5
        unfold putCc at HZ
        clear HT4
        go_simp
        refine hK.out _ _ trivial (fun _ => ?_)
        clear hK K q0 q1 q2 q3 q4 q5 f0 f1 f2 f3 f4 f5
        refine wpAnyH_done (by kernel_rfl) ?_ _
        go_wp2_with fail
        go_roundw
        case rel => exact ⟨k + 1, by omega, by go_num, HD.out _ HZ.out⟩
        case measure => simp [intOf]; omega
      · go_simp
        refine (implLower_any x _).mono ?_
        rintro e w2 ⟨rfl, hb2⟩
        rw [HY.out]
        have HT2 : Hid (CiRd w H c (.slice (some ⟨g, 0, none⟩) n cp) l w2) := HT1.out.later hb2
        clear hb2
        refine hK.out _ _ trivial (fun _ => ?_)
        clear hK K HT1
        refine wpAnyH_ready (rs := [0, 3]) (by kernel_rfl) (by simp) ?_
        refine AllReadyH.cons rfl (fun K hK => ?_) (AllReadyH.cons rfl (fun K hK => ?_) AllReadyH.nil)
        · obtain ⟨q0, q1, q2, q3, q4, q5⟩ := HT2.out.cur.cells
          go_simp
          refine hK.out _ _ trivial (fun _ => ?_)
          clear hK K q0 q1 q2 q3 q4 q5
          refine wpAnyH_ready (rs := [3]) (by kernel_rfl) (by simp) ?_
          refine AllReadyH.cons rfl (fun K hK => ?_) AllReadyH.nil
          go_simp
          refine (saidBy_any y _ hys).mono ?_
          rintro e w3 ⟨rfl, hb3⟩
          rw [HSB.out]
          unfold CcD.v
          have HT3 : Hid (CiRd w H c (.slice (some ⟨g, 0, none⟩) n cp) l w3) := HT2.out.later hb3
          clear hb3
          refine hK.out _ _ trivial (fun _ => ?_)
          clear hK K HT2
          refine wpAnyH_ready (rs := [4]) (by kernel_rfl) (by simp) ?_
          refine AllReadyH.cons rfl (fun K hK => ?_) AllReadyH.nil
          go_simp
          refine (HTG.out _).mono ?_
          rintro e w4 ⟨rfl, hb4⟩
          rw [HTD.out]
          unfold CcD.v
          have HT4 : Hid (CiRd w H c (.slice (some ⟨g, 0, none⟩) n cp) l w4) := HT3.out.later hb4
          clear hb4
          refine hK.out _ _ trivial (fun _ => ?_)
          clear hK K HT3
          refine wpAnyH_ready (rs := [5]) (by kernel_rfl) (by simp) ?_
          refine AllReadyH.cons rfl (fun K hK => ?_) AllReadyH.nil
          have HZ : Hid (CiRd w H d (.slice (some ⟨g, 0, none⟩) n cp) l (putCc w4 (H + 1) d)) := HT4.out.putCc d
          obtain ⟨q0, q1, q2, q3, q4, q5⟩ := HT4.out.cur.cells
          have f0 := HT4.out.cur.frozen 0
          have f1 := HT4.out.cur.frozen 1
          have f2 := HT4.out.cur.frozen 2
          have f3 := HT4.out.cur.frozen 3
          have f4 := HT4.out.cur.frozen 4
          have f5 := HT4.out.cur.frozen 5
          unfold putCc at HZ
          clear HT4
          go_simp
          refine hK.out _ _ trivial (fun _ => ?_)
          clear hK K q0 q1 q2 q3 q4 q5 f0 f1 f2 f3 f4 f5
          refine wpAnyH_done (by kernel_rfl) ?_ _
          go_wp2_with fail
          go_roundw
          case rel => exact ⟨k + 1, by omega, by go_num, HD.out _ HZ.out⟩
          case measure => simp [intOf]; omega
        · go_simp
          refine (saidBy_any y _ hys).mono ?_
          rintro e w3 ⟨rfl, hb3⟩
          rw [HSB.out]
          unfold CcD.v
          have HT3 : Hid (CiRd w H c (.slice (some ⟨g, 0, none⟩) n cp) l w3) := HT2.out.later hb3
          clear hb3
          refine hK.out _ _ trivial (fun _ => ?_)
          clear hK K HT2
          refine wpAnyH_ready (rs := [0]) (by kernel_rfl) (by simp) ?_
          refine AllReadyH.cons rfl (fun K hK => ?_) AllReadyH.nil
          obtain ⟨q0, q1, q2, q3, q4, q5⟩ := HT3.out.cur.cells
          go_simp
          refine hK.out _ _ trivial (fun _ => ?_)
          clear hK K q0 q1 q2 q3 q4 q5
          refine wpAnyH_ready (rs := [4]) (by kernel_rfl) (by simp) ?_
          refine AllReadyH.cons rfl (fun K hK => ?_) AllReadyH.nil
          go_simp
          refine (HTG.out _).mono ?_
          rintro e w4 ⟨rfl, hb4⟩
          rw [HTD.out]
          unfold CcD.v
          have HT4 : Hid (CiRd w H c (.slice (some ⟨g, 0, none⟩) n cp) l w4) := HT3.out.later hb4
          clear hb4
          refine hK.out _ _ trivial (fun _ => ?_)
          clear hK K HT3
          refine wpAnyH_ready (rs := [5]) (by kernel_rfl) (by simp) ?_
          refine AllReadyH.cons rfl (fun K hK => ?_) AllReadyH.nil
          have HZ : Hid (CiRd w H d (.slice (some ⟨g, 0, none⟩) n cp) l (putCc w4 (H + 1) d)) := HT4.out.putCc d
          obtain ⟨q0, q1, q2, q3, q4, q5⟩ := HT4.out.cur.cells
          have f0 := HT4.out.cur.frozen 0
          have f1 := HT4.out.cur.frozen 1
          have f2 := HT4.out.cur.frozen 2
          have f3 := HT4.out.cur.frozen 3
          have f4 := HT4.out.cur.frozen 4
          have f5 := HT4.out.cur.frozen 5
          unfold putCc at HZ
          clear HT4
          go_simp
          refine hK.out _ _ trivial (fun _ => ?_)
          clear hK K q0 q1 q2 q3 q4 q5 f0 f1 f2 f3 f4 f5
          refine wpAnyH_done (by kernel_rfl) ?_ _
          go_wp2_with fail
          go_roundw
          case rel => exact ⟨k + 1, by omega, by go_num, HD.out _ HZ.out⟩
          case measure => simp [intOf]; omega
    · obtain rfl : k = n := by omega
      have HE : Hid (ccTo (l.take k) = ccR s) := by
        show _ = _
        rw [List.take_of_length_le (by rw [HN.out]; exact Nat.le_refl _)]
        unfold ccR
        rw [HLS.out]
      rw [HE.out] at HS
      obtain ⟨c, hc⟩ : ∃ c, c = ccR s := ⟨_, rfl⟩
      rw [← hc] at HS
      have HC : Hid (c = ccR s) := hc
      obtain ⟨q0, q1, q2, q3, q4, q5⟩ := HS.out.cur.cells
      obtain ⟨r0, r1, r2, r3, r4, r5⟩ := HS.out.res.cells
      have f0 := HS.out.res.frozen 0
      have f1 := HS.out.res.frozen 1
      have f2 := HS.out.res.frozen 2
      have f3 := HS.out.res.frozen 3
      have f4 := HS.out.res.frozen 4
      have f5 := HS.out.res.frozen 5
      obtain ⟨m0, m1, m2, m3, m4, m5⟩ := (HS.out.res.putAll c).cells
      have HB : Hid (Below H w (putCc wr H c)) := below_putCc HS.out.low (Nat.le_refl _) c
      clear hc HE
      unfold putCc at m0 m1 m2 m3 m4 m5 HB
      go_wp2_with fail
      refine bodyPost_ret (v := c.v) (by simp [results, Tryz.results27, go_sem, m0, m1, m2, m3, m4, m5, CcD.v]) rfl ?_
      exact ⟨by rw [HC.out], by rw [HW.out]; exact HB.out⟩

set_option maxHeartbeats 1000000 in
theorem implCcOf_any (v : Value) (n base : Nat) (fs : List (ByteArray × ByteArray)) (w : World) (hv : FieldsV w base v n fs) (hn : n ≤ 1073741824) (hcp : CopyF fs) (hsz : (getV fs ccName).size ≤ 1048576) :
    Calls Tryz.prog 8 #[v] w fun e w' => e = .returned (ccR (getV fs ccName)).v ∧ Below w.heap.size w w' := by
  have hv1 : FieldsV (w.alloc (.cells cc0.cs 33)) base v n fs := hv.below ((Below.refl _ _).alloc (Nat.le_refl _) _)
  have HR0 : Hid (CcAt (w.alloc (.cells cc0.cs 33)) w.heap.size cc0) := heap_alloc_new w _
  have HB0 : Hid (Below w.heap.size w (w.alloc (.cells cc0.cs 33))) := (Below.refl _ _).alloc (Nat.le_refl _) _
  obtain ⟨t, ht⟩ : ∃ t, t = getV fs ccName := ⟨_, rfl⟩
  have HT : Hid (getV fs ccName = t) := ht.symm
  rw [← ht] at hsz
  obtain ⟨c, hc⟩ : ∃ c, c = ccR t := ⟨_, rfl⟩
  have HC : Hid (ccR t = c) := hc.symm
  rw [← ht, ← hc]
  clear ht hc hv
  go_enter Tryz.func8, Tryz.ntmps8
  go_wp2_with fail
  refine (implGet_any v n base fs ccName _ hv1 hn hcp).mono ?_
  rintro e w1 ⟨rfl, b1⟩
  rw [HT.out]
  have HR1 : Hid (CcAt w1 w.heap.size cc0) := HR0.out.same (b1.block _ HR0.out.lt)
  have HB1 : Hid (Below w.heap.size w w1) := HB0.out.trans (b1.mono (Nat.le_of_lt HR0.out.lt))
  clear hv1 b1 HR0 HB0
  go_wp2_with fail
  refine (implCcRead_any t _ hsz).mono ?_
  rintro e w2 ⟨rfl, b2⟩
  rw [HC.out]
  have hR := HR1.out.same (b2.block _ HR1.out.lt)
  obtain ⟨r0, r1, r2, r3, r4, r5⟩ := hR.cells
  have f0 := hR.frozen 0
  have f1 := hR.frozen 1
  have f2 := hR.frozen 2
  have f3 := hR.frozen 3
  have f4 := hR.frozen 4
  have f5 := hR.frozen 5
  obtain ⟨m0, m1, m2, m3, m4, m5⟩ := (hR.putAll c).cells
  have HB : Hid (Below w.heap.size w (putCc w2 w.heap.size c)) := below_putCc (HB1.out.trans (b2.mono (Nat.le_of_lt HR1.out.lt))) (Nat.le_refl _) c
  unfold putCc at m0 m1 m2 m3 m4 m5 HB
  clear hR b2 HR1 HB1
  unfold CcD.v
  go_wp2_with fail
  refine bodyPost_ret (v := c.v) (by simp [results, Tryz.results8, go_sem, m0, m1, m2, m3, m4, m5, CcD.v]) rfl ?_
  exact ⟨rfl, HB.out⟩

end Go.Proofs.YthlmnmbhgkmbfaaGreatDoor

namespace Go.Proofs.YthlmnmbhgkmbfaaGreatDoor
open Go.RowKit
open Go.Lib hiding intOf

set_option maxHeartbeats 1000000 in
theorem fieldOk_any (v : Value) (n base : Nat) (fs : List (ByteArray × ByteArray)) (k : Nat) (w : World) (hv : FieldsV w base v n fs) (hn : n ≤ 1073741824) (hk : k < n) (hs1 : (nameAt fs k).size ≤ maxLen) (hs2 : (valAt fs k).size ≤ maxLen) :
    Calls Tryz.prog 96 #[v, .int .i64 (k : Int)] w fun e w' => BoolIs (FldOk fs k) w e w' := by
  have HV : Hid (∀ W, Below w.heap.size w W → FieldsV W base v n fs) := fun W h => hv.below h
  obtain ⟨oa, cap, rfl, hrow⟩ := hv.slice
  obtain ⟨g, rfl, row⟩ := hrow k hk
  have hlt2 : (k : Int) < (n : Int) := by omega
  have hc1 := row.name k hk
  have hc2 := row.val k hk
  obtain ⟨nm, hnm⟩ : ∃ x, x = nameAt fs k := ⟨_, rfl⟩
  obtain ⟨vl, hvl⟩ : ∃ x, x = valAt fs k := ⟨_, rfl⟩
  have HO : Hid (FldOk fs k ↔ TokOk nm ∧ ValOk vl ∧ atF fs nm = k ∧ nm ≠ clen) := by rw [hnm, hvl]; exact Iff.rfl
  rw [← hnm] at hc1 hs1
  rw [← hvl] at hc2 hs2
  clear hv hrow row hnm hvl
  obtain ⟨r, hr⟩ : ∃ r, r = w.heap.size := ⟨_, rfl⟩
  have h0 : (w.alloc (.cells #[.string nm, .string vl] 67)).heap.size = w.heap.size + 1 := by simp
  have HB0 : Hid (Below w.heap.size w (w.alloc (.cells #[.string nm, .string vl] 67)) ∧ w.heap.size ≤ (w.alloc (.cells #[.string nm, .string vl] 67)).heap.size) := ⟨(Below.refl _ w).alloc (Nat.le_refl _) _, by omega⟩
  have HR : Hid (∀ W, Below (w.alloc (.cells #[.string nm, .string vl] 67)).heap.size (w.alloc (.cells #[.string nm, .string vl] 67)) W → W.cell? ⟨r, 0, none⟩ = some (.string nm) ∧ W.cell? ⟨r, 1, none⟩ = some (.string vl)) := fun W h => by
    have hh : W.heap[r]? = some (.cells #[.string nm, .string vl] 67) := by rw [hr, h.block _ (by omega)]; exact heap_alloc_new w _
    exact ⟨by simp [World.cell?, hh], by simp [World.cell?, hh]⟩
  go_enter Tryz.func96, Tryz.ntmps96
  go_wp2_with fail
  refine (implTokenOk_any nm _ hs1).mono ?_
  rintro e w1 ⟨b1, rfl, kb1, bb1⟩
  rw [← hr]
  have hb1 : Below w.heap.size w w1 := HB0.out.1.trans (bb1.mono HB0.out.2)
  obtain ⟨d1, d2⟩ := HR.out w1 bb1
  clear h0
  cases b1
  · have HF : Hid (¬ FldOk fs k) := fun h => by have := kb1.2 (HO.out.1 h).1; cases this
    clear kb1 hc1 hc2 bb1 hr
    go_wp2_with fail
    go_ret
    exact BoolIs.no HF.out hb1
  · have HT : Hid (TokOk nm) := kb1.1 rfl
    clear kb1 hc1 hc2 hr
    go_wp2_with fail
    refine (implValueOk_any vl _ hs2).mono ?_
    rintro e w2 ⟨b2, rfl, kb2, bb2⟩
    have bb2' := bb1.trans (bb2.mono bb1.size)
    have hb2 : Below w.heap.size w w2 := HB0.out.1.trans (bb2'.mono HB0.out.2)
    obtain ⟨d3, d4⟩ := HR.out w2 bb2'
    cases b2
    · have HF : Hid (¬ FldOk fs k) := fun h => by have := kb2.2 (HO.out.1 h).2.1; cases this
      clear kb2 bb1 bb2 bb2' hb1 d1 d2
      go_wp2_with fail
      go_ret
      exact BoolIs.no HF.out hb2
    · have HT2 : Hid (ValOk vl) := kb2.1 rfl
      clear kb2 bb1 bb2 bb2' hb1 d1 d2
      by_cases hcl : nm = clen
      · have ht := (text_beq _ _).2 hcl
        rw [clen_list] at ht
        have HF : Hid (¬ FldOk fs k) := fun h => (HO.out.1 h).2.2.2 hcl
        clear hcl
        go_wp2_with fail
        go_ret
        exact BoolIs.no HF.out hb2
      · have ht := text_beq_no hcl
        rw [clen_list] at ht
        have HC : Hid (nm ≠ clen) := hcl
        clear hcl
        go_wp2_with fail
        refine (place_any _ n base fs nm _ (HV.out w2 hb2) hn).mono ?_
        rintro e w3 ⟨rfl, rfl⟩
        by_cases hat : atF fs nm = k
        · have HY : Hid (FldOk fs k) := HO.out.2 ⟨HT.out, HT2.out, hat, HC.out⟩
          rw [hat]
          clear hat
          go_wp2
          go_ret
          exact BoolIs.yes HY.out hb2
        · have HF : Hid (¬ FldOk fs k) := fun h => hat (HO.out.1 h).2.2.1
          have hne : ((atF fs nm : Int) == (k : Int)) = false := by rw [beq_eq_false_iff_ne]; omega
          clear hat
          go_wp2
          go_ret
          exact BoolIs.no HF.out hb2

set_option maxHeartbeats 1000000 in
theorem ok_any (v : Value) (n base : Nat) (fs : List (ByteArray × ByteArray)) (w : World) (hv : FieldsV w base v n fs) (hn : n ≤ 1073741824) (hsz : ∀ i, i < n → (nameAt fs i).size ≤ maxLen ∧ (valAt fs i).size ≤ maxLen) :
    Calls Tryz.prog 83 #[v] w fun e w' => BoolIs (FldsOk fs) w e w' := by
  have hl := hv.len
  have HV : Hid (∀ W, Below w.heap.size w W → FieldsV W base v n fs) := fun W h => hv.below h
  have HS : Hid (∀ i, i < n → (nameAt fs i).size ≤ maxLen ∧ (valAt fs i).size ≤ maxLen) := hsz
  obtain ⟨oa, cap, rfl, hrow⟩ := hv.slice
  clear hv hrow hsz
  by_cases h8 : (8 : Int) < (n : Int)
  · have HF : Hid (¬ FldsOk fs) := fun h => by have := h.1; omega
    go_enter Tryz.func83, Tryz.ntmps83
    go_wp2
    go_ret
    exact BoolIs.no HF.out (Below.refl _ _)
  · go_enter Tryz.func83, Tryz.ntmps83
    go_wp2
    go_loopw [9] (fun i wr => ∃ k : Nat, k ≤ n ∧ i = .int .i64 (k : Int) ∧ Hid (∀ j, j < k → FldOk fs j) ∧ Below w.heap.size w wr) (fun i _ => n - (intOf i).toNat)
    case atStart => exact ⟨0, Nat.zero_le _, rfl, fun j h => absurd h (by omega), Below.refl _ _⟩
    case round =>
      obtain ⟨k, hk, rfl, hall, hbw⟩ := hrel
      by_cases hlt : k < n
      · have hlt2 : (k : Int) < (n : Int) := by omega
        obtain ⟨hs1, hs2⟩ := HS.out k hlt
        go_wp2_with fail
        refine (fieldOk_any _ n base fs k _ (HV.out wr hbw) hn hlt hs1 hs2).mono ?_
        rintro e w1 ⟨b1, rfl, kb1, bb1⟩
        have hb1 : Below w.heap.size w w1 := hbw.trans (bb1.mono hbw.size)
        cases b1
        · have HF : Hid (¬ FldsOk fs) := fun h => by have := kb1.2 (h.2 k (by omega)); cases this
          clear kb1 bb1
          go_wp2
          go_ret
          exact BoolIs.no HF.out hb1
        · have HY : Hid (FldOk fs k) := kb1.1 rfl
          clear kb1 bb1
          go_wp2
          go_roundw
          case rel =>
            refine ⟨k + 1, by omega, by go_num, ?_, hb1⟩
            intro j hj
            by_cases e : j = k
            · subst e; exact HY.out
            · exact hall.out j (by omega)
          case measure => simp [intOf]; omega
      · have HF : Hid (FldsOk fs) := ⟨by omega, fun i hi => hall.out i (by omega)⟩
        go_wp2
        go_ret
        exact BoolIs.yes HF.out hbw

end Go.Proofs.YthlmnmbhgkmbfaaGreatDoor

namespace Go.Proofs.YthlmnmbhgkmbfaaGreatDoor
open Go.RowKit
open Go.Lib hiding intOf

theorem path_cls (n : Int) : PathB n ↔ (cls n ≠ 4 ∧ cls n ≠ 7) := by
  have := cls_spec n
  unfold PathB
  constructor
  · intro h; omega
  · intro h; omega
theorem path_small {n : Int} (h : PathB n) : n < 128 := by unfold PathB at h; omega

set_option maxHeartbeats 400000 in
theorem isPathRune_any (r : Int) (w : World) :
    Calls Tryz.prog 82 #[.int .i32 r] w fun e w' => BoolIs (PathB r) w e w' := by
  have HP : Hid (PathB r ↔ (cls r ≠ 4 ∧ cls r ≠ 7)) := path_cls r
  go_enter Tryz.func82, Tryz.ntmps82
  go_wp2_with fail
  refine (classOf_any r _).mono ?_
  rintro e w1 ⟨rfl, hb⟩
  generalize cls r = c at HP ⊢
  by_cases h4 : c = 4
  · have HN : Hid (¬ PathB r) := fun h => (HP.out.1 h).1 h4
    subst h4
    go_wp2_with fail
    go_ret
    exact BoolIs.no HN.out hb
  · have h5 : (c != 4) = true := by rw [bne_iff_ne]; exact h4
    by_cases h7 : c = 7
    · have HN : Hid (¬ PathB r) := fun h => (HP.out.1 h).2 h7
      subst h7
      go_wp2_with fail
      go_ret
      exact BoolIs.no HN.out hb
    · have h8 : (c != 7) = true := by rw [bne_iff_ne]; exact h7
      have HY : Hid (PathB r) := HP.out.2 ⟨h4, h7⟩
      go_wp2_with fail
      go_ret
      exact BoolIs.yes HY.out hb

set_option maxHeartbeats 1000000 in
theorem allRunes_path (s : ByteArray) (w : World) :
    Calls Tryz.prog 70 #[.string s, .func (.func 82) #[] #[]] w fun e w' => BoolIs (AllB PathB s) w e w' := by
  go_enter Tryz.func70, Tryz.ntmps70
  go_wp2
  go_loopw [6] (fun _ wr => ∃ pos : Nat, wr.heap[w.heap.size]? = some (.stringIter s pos) ∧ Below w.heap.size w wr ∧ Hid (AllTo PathB s pos)) (fun _ wr => s.size - wr.iterPos w.heap.size)
  case atStart => exact ⟨0, World.iter_heap _ _ _, (Below.refl _ _).alloc (Nat.le_refl _) _, allTo_zero _ _⟩
  case round =>
    obtain ⟨pos, hh, hbw, hall⟩ := hrel
    by_cases hp : pos < s.size
    · have hnx := fun ty => run_next_any_at (P := Tryz.prog) wr w.heap.size s pos ty hh hp
      go_wp2_with (go_at_call 82; refine (isPathRune_any _ _).mono ?_; rintro e w1 ⟨b, rfl, hbt, hb1⟩)
      · have hbf : b = false := by simpa using ‹(!b) = true›
        have hno : ¬ PathB ((Utf8.decode s pos).1 : Int) := fun h => by rw [hbt.2 h] at hbf; cases hbf
        go_ret
        exact BoolIs.no (rune_no (fun _ => path_small) s pos hp hno) (iter_step hh hbw hb1).2
      · have hbf : b = true := by simpa using ‹(!b) = false›
        obtain ⟨hv, hone⟩ := rune_ok (fun _ => path_small) s pos hp (hbt.1 hbf)
        rw [hone] at hb1
        obtain ⟨h1, h2⟩ := iter_step hh hbw hb1
        exact ⟨⟨pos + 1, h1, h2, allTo_succ hall.out hp hv⟩, by rw [iterPos_of h1, iterPos_of hh]; omega⟩
    · have hnx := fun ty => run_next_end_at (P := Tryz.prog) wr w.heap.size s pos ty hh hp
      go_wp2
      go_ret
      exact BoolIs.yes (allTo_end hall.out hp) hbw

set_option maxHeartbeats 1000000 in
theorem pathOk_any (s : ByteArray) (w : World) (hs : s.size ≤ maxLen) :
    Calls Tryz.prog 55 #[.string s] w fun e w' => BoolIs (PathOk s) w e w' := by
  unfold maxLen at hs
  by_cases h1 : (1 : Int) ≤ (s.size : Int)
  · have h0 : 0 < s.size := by omega
    by_cases h2 : (s.size : Int) ≤ 60
    · by_cases h3 : ((s[0]'h0).toNat : Int) = 47
      · have h4 : (((s[0]'h0).toNat : Int) == 47) = true := by rw [beq_iff_eq]; exact h3
        have H3 : Hid ((s[0]'h0).toNat = 47) := by show _ = _; omega
        clear h3
        go_enter Tryz.func55, Tryz.ntmps55
        go_wp2_with fail
        refine (allRunes_path s _).mono ?_
        rintro e w1 ⟨b, rfl, hbt, hb1⟩
        cases b
        · have HN : Hid (¬ PathOk s) := fun h => by have := hbt.2 h.1; cases this
          clear hbt
          go_wp2_with fail
          go_ret
          exact BoolIs.no HN.out hb1
        · have HY : Hid (PathOk s) := ⟨hbt.1 rfl, by omega, by omega, h0, H3.out⟩
          clear hbt
          go_wp2_with fail
          go_ret
          exact BoolIs.yes HY.out hb1
      · have h4 : (((s[0]'h0).toNat : Int) == 47) = false := by rw [beq_eq_false_iff_ne]; exact h3
        have HN : Hid (¬ PathOk s) := fun h => by obtain ⟨_, _, _, _, h5⟩ := h; omega
        clear h3
        go_enter Tryz.func55, Tryz.ntmps55
        go_wp2_with fail
        go_ret
        exact BoolIs.no HN.out (Below.refl _ _)
    · have HN : Hid (¬ PathOk s) := fun h => by obtain ⟨_, _, h5, _⟩ := h; omega
      have hd : decide ((s.size : Int) ≤ 60) = false := by simpa using h2
      go_enter Tryz.func55, Tryz.ntmps55
      go_wp2_with fail
      go_ret
      exact BoolIs.no HN.out (Below.refl _ _)
  · have HN : Hid (¬ PathOk s) := fun h => by obtain ⟨_, h5, _⟩ := h; omega
    have hd : decide ((1 : Int) ≤ (s.size : Int)) = false := by simpa using h1
    go_enter Tryz.func55, Tryz.ntmps55
    go_wp2_with fail
    go_ret
    exact BoolIs.no HN.out (Below.refl _ _)

theorem methB_none {m : Int} (h : ¬ (1 ≤ m ∧ m ≤ 4)) : methB m = ⟨#[]⟩ := by
  unfold methB
  rw [if_neg (by omega), if_neg (by omega), if_neg (by omega), if_neg (by omega)]
set_option maxHeartbeats 400000 in
theorem methodName_any (m : Int) (w : World) :
    Calls Tryz.prog 54 #[.int .i64 m] w fun e w' => e = .returned (.string (methB m)) ∧ w' = w := by
  by_cases h1 : m = 1
  · subst h1
    go_enter Tryz.func54, Tryz.ntmps54
    go_wp2
    go_ret
    exact ⟨rfl, rfl⟩
  · by_cases h2 : m = 2
    · subst h2
      go_enter Tryz.func54, Tryz.ntmps54
      go_wp2
      go_ret
      exact ⟨rfl, rfl⟩
    · by_cases h3 : m = 3
      · subst h3
        go_enter Tryz.func54, Tryz.ntmps54
        go_wp2
        go_ret
        exact ⟨rfl, rfl⟩
      · by_cases h4 : m = 4
        · subst h4
          go_enter Tryz.func54, Tryz.ntmps54
          go_wp2
          go_ret
          exact ⟨rfl, rfl⟩
        · have HE : Hid (methB m = ⟨#[]⟩) := methB_none (by omega)
          have e1 : (m == 1) = false := by rw [beq_eq_false_iff_ne]; exact h1
          have e2 : (m == 2) = false := by rw [beq_eq_false_iff_ne]; exact h2
          have e3 : (m == 3) = false := by rw [beq_eq_false_iff_ne]; exact h3
          have e4 : (m == 4) = false := by rw [beq_eq_false_iff_ne]; exact h4
          go_enter Tryz.func54, Tryz.ntmps54
          go_wp2
          go_ret
          exact ⟨by rw [HE.out]; rfl, rfl⟩

/-- What is right of what stands behind the first line. -/
def RestP (fs : List (ByteArray × ByteArray)) (b : ByteArray) : Prop := FldsOk fs ∧ b.size ≤ 120
set_option maxHeartbeats 1000000 in
theorem restOk_any (v : Value) (b : ByteArray) (n base : Nat) (fs : List (ByteArray × ByteArray)) (w : World) (hv : FieldsV w base v n fs) (hn : n ≤ 1073741824) (hsz : WalkF n fs) (hb : b.size ≤ maxLen) :
    Calls Tryz.prog 56 #[.agg #[v, .string b]] w fun e w' => BoolIs (RestP fs b) w e w' := by
  obtain ⟨oa, cap, rfl, _⟩ := hv.slice
  obtain ⟨r, hr⟩ : ∃ r, r = w.heap.size := ⟨_, rfl⟩
  have HR : Hid (∀ W, Below (w.alloc (.cells #[.slice oa n cap, .string b] 50)).heap.size (w.alloc (.cells #[.slice oa n cap, .string b] 50)) W → (W.cell? ⟨r, 0, none⟩ = some (.slice oa n cap) ∧ W.cell? ⟨r, 1, none⟩ = some (.string b)) ∧ FieldsV W base (.slice oa n cap) n fs ∧ Below w.heap.size w W) := fun W h => by
    have hh := kept_new h
    rw [← hr] at hh
    exact ⟨⟨by simp [World.cell?, hh], by simp [World.cell?, hh]⟩, hv.below (below_new h), below_new h⟩
  obtain ⟨_, hv0, _⟩ := HR.out _ (Below.refl _ _)
  unfold maxLen at hb
  go_enter Tryz.func56, Tryz.ntmps56
  go_wp2_with fail
  refine (ok_any _ n base fs _ hv0 hn hsz).mono ?_
  rintro e w1 ⟨b1, rfl, kb1, bb1⟩
  rw [← hr]
  obtain ⟨⟨c0, c1⟩, _, hbw1⟩ := HR.out w1 bb1
  clear hv hv0 hsz bb1 hr
  cases b1
  · have HF : Hid (¬ RestP fs b) := fun h => by have := kb1.2 h.1; cases this
    clear kb1
    go_wp2_with fail
    go_ret
    exact BoolIs.no HF.out hbw1
  · have HT : Hid (FldsOk fs) := kb1.1 rfl
    clear kb1
    by_cases h120 : (b.size : Int) ≤ 120
    · have HY : Hid (RestP fs b) := ⟨HT.out, by omega⟩
      go_wp2_with fail
      go_ret
      exact BoolIs.yes HY.out hbw1
    · have HF : Hid (¬ RestP fs b) := fun h => by have := h.2; omega
      have hd : decide ((b.size : Int) ≤ 120) = false := by simpa using h120
      go_wp2_with fail
      go_ret
      exact BoolIs.no HF.out hbw1

theorem meth_empty {m : Int} (h : 1 ≤ m ∧ m ≤ 4) : (methB m).toList.isEmpty = false := by
  refine isEmpty_no ?_
  rcases meth_cases h with rfl | rfl | rfl | rfl <;> decide
set_option maxHeartbeats 1000000 in
theorem reqOk_any (m : Int) (p : ByteArray) (v : Value) (b : ByteArray) (n base : Nat) (fs : List (ByteArray × ByteArray)) (w : World) (hv : FieldsV w base v n fs) (hn : n ≤ 1073741824) (hsz : WalkF n fs) (hp : p.size ≤ maxLen) (hb : b.size ≤ maxLen) :
    Calls Tryz.prog 29 #[.agg #[v, .string b, .int .i64 m, .string p]] w fun e w' => BoolIs (ReqP m p fs b) w e w' := by
  obtain ⟨oa, cap, rfl, _⟩ := hv.slice
  obtain ⟨r, hr⟩ : ∃ r, r = w.heap.size := ⟨_, rfl⟩
  have HR : Hid (∀ W, Below (w.alloc (.cells #[.slice oa n cap, .string b, .int .i64 m, .string p] 52)).heap.size (w.alloc (.cells #[.slice oa n cap, .string b, .int .i64 m, .string p] 52)) W → (W.cell? ⟨r, 0, none⟩ = some (.slice oa n cap) ∧ W.cell? ⟨r, 1, none⟩ = some (.string b) ∧ W.cell? ⟨r, 2, none⟩ = some (.int .i64 m) ∧ W.cell? ⟨r, 3, none⟩ = some (.string p)) ∧ FieldsV W base (.slice oa n cap) n fs ∧ Below w.heap.size w W) := fun W h => by
    have hh := kept_new h
    rw [← hr] at hh
    exact ⟨⟨by simp [World.cell?, hh], by simp [World.cell?, hh], by simp [World.cell?, hh], by simp [World.cell?, hh]⟩, hv.below (below_new h), below_new h⟩
  have HSZ : Hid (WalkF n fs) := hsz
  have HP : Hid (p.size ≤ maxLen) := hp
  have HBS : Hid (b.size ≤ maxLen) := hb
  clear hv hsz hp hb
  go_enter Tryz.func29, Tryz.ntmps29
  go_wp2_with fail
  refine (methodName_any m _).mono ?_
  rintro e w1 ⟨rfl, hw1⟩
  have hb1 : Below (w.alloc (.cells #[.slice oa n cap, .string b, .int .i64 m, .string p] 52)).heap.size (w.alloc (.cells #[.slice oa n cap, .string b, .int .i64 m, .string p] 52)) w1 := by rw [hw1]; exact Below.refl _ _
  clear hw1
  rw [← hr]
  obtain ⟨⟨c0, c1, c2, c3⟩, _, hbw1⟩ := HR.out w1 hb1
  by_cases hm : 1 ≤ m ∧ m ≤ 4
  · have e1 := meth_empty hm
    have HM : Hid (1 ≤ m ∧ m ≤ 4) := hm
    generalize methB m = mt at e1 ⊢
    clear hr hm
    go_wp2_with fail
    refine (pathOk_any p _ HP.out).mono ?_
    rintro e w2 ⟨b1, rfl, kb1, bb2⟩
    have hb2 := hb1.trans (bb2.mono hb1.size)
    clear c0 c1 c2 c3 bb2 hb1 hbw1
    obtain ⟨⟨c0, c1, c2, c3⟩, hv2, hbw2⟩ := HR.out w2 hb2
    have HV2 : Hid (FieldsV w2 base (.slice oa n cap) n fs) := hv2
    clear hv2
    cases b1
    · have HF : Hid (¬ ReqP m p fs b) := fun h => by have := kb1.2 h.2.1; cases this
      clear kb1
      go_wp2_with fail
      go_ret
      exact BoolIs.no HF.out hbw2
    · have HT : Hid (PathOk p) := kb1.1 rfl
      clear kb1
      go_wp2_with fail
      refine (restOk_any _ b n base fs _ HV2.out hn HSZ.out HBS.out).mono ?_
      rintro e w3 ⟨b2, rfl, kb2, bb3⟩
      have hb3 := hb2.trans (bb3.mono hb2.size)
      clear c0 c1 c2 c3 bb3 hb2 hbw2
      obtain ⟨_, _, hbw3⟩ := HR.out w3 hb3
      cases b2
      · have HF : Hid (¬ ReqP m p fs b) := fun h => by have := kb2.2 h.2.2; cases this
        clear kb2
        go_wp2_with fail
        go_ret
        exact BoolIs.no HF.out hbw3
      · have HY : Hid (ReqP m p fs b) := ⟨HM.out, HT.out, kb2.1 rfl⟩
        clear kb2
        go_wp2_with fail
        go_ret
        exact BoolIs.yes HY.out hbw3
  · have HF : Hid (¬ ReqP m p fs b) := fun h => hm h.1
    rw [methB_none hm]
    clear hr hm
    go_wp2_with fail
    go_ret
    exact BoolIs.no HF.out hbw1

set_option maxHeartbeats 1000000 in
theorem respOk_any (st : Int) (v : Value) (b : ByteArray) (n base : Nat) (fs : List (ByteArray × ByteArray)) (w : World) (hv : FieldsV w base v n fs) (hn : n ≤ 1073741824) (hsz : WalkF n fs) (hb : b.size ≤ maxLen) :
    Calls Tryz.prog 31 #[.agg #[v, .string b, .int .i64 st]] w fun e w' => BoolIs (RespP st fs b) w e w' := by
  obtain ⟨oa, cap, rfl, _⟩ := hv.slice
  obtain ⟨r, hr⟩ : ∃ r, r = w.heap.size := ⟨_, rfl⟩
  have HR : Hid (∀ W, Below (w.alloc (.cells #[.slice oa n cap, .string b, .int .i64 st] 56)).heap.size (w.alloc (.cells #[.slice oa n cap, .string b, .int .i64 st] 56)) W → (W.cell? ⟨r, 0, none⟩ = some (.slice oa n cap) ∧ W.cell? ⟨r, 1, none⟩ = some (.string b) ∧ W.cell? ⟨r, 2, none⟩ = some (.int .i64 st)) ∧ FieldsV W base (.slice oa n cap) n fs ∧ Below w.heap.size w W) := fun W h => by
    have hh := kept_new h
    rw [← hr] at hh
    exact ⟨⟨by simp [World.cell?, hh], by simp [World.cell?, hh], by simp [World.cell?, hh]⟩, hv.below (below_new h), below_new h⟩
  obtain ⟨_, hv0, hbw0⟩ := HR.out _ (Below.refl _ _)
  have HV0 : Hid (FieldsV (w.alloc (.cells #[.slice oa n cap, .string b, .int .i64 st] 56)) base (.slice oa n cap) n fs) := hv0
  have HSZ : Hid (WalkF n fs) := hsz
  have HBS : Hid (b.size ≤ maxLen) := hb
  clear hv hv0 hsz hb
  by_cases h1 : 100 ≤ st
  · by_cases h2 : st ≤ 599
    · go_enter Tryz.func31, Tryz.ntmps31
      go_wp2_with fail
      refine (restOk_any _ b n base fs _ HV0.out hn HSZ.out HBS.out).mono ?_
      rintro e w3 ⟨b2, rfl, kb2, bb3⟩
      obtain ⟨_, _, hbw3⟩ := HR.out w3 bb3
      clear bb3 hbw0
      cases b2
      · have HF : Hid (¬ RespP st fs b) := fun h => by have := kb2.2 h.2; cases this
        clear kb2
        go_wp2_with fail
        go_ret
        exact BoolIs.no HF.out hbw3
      · have HY : Hid (RespP st fs b) := ⟨⟨h1, h2⟩, kb2.1 rfl⟩
        clear kb2
        go_wp2_with fail
        go_ret
        exact BoolIs.yes HY.out hbw3
    · have HF : Hid (¬ RespP st fs b) := fun h => h2 h.1.2
      have hd : decide (st ≤ 599) = false := by simpa using h2
      go_enter Tryz.func31, Tryz.ntmps31
      go_wp2_with fail
      go_ret
      exact BoolIs.no HF.out hbw0
  · have HF : Hid (¬ RespP st fs b) := fun h => h1 h.1.1
    have hd : decide (100 ≤ st) = false := by simpa using h1
    go_enter Tryz.func31, Tryz.ntmps31
    go_wp2_with fail
    go_ret
    exact BoolIs.no HF.out hbw0

set_option maxHeartbeats 400000 in
theorem requestOf_any (m : Int) (p : ByteArray) (oa : Option Addr) (n cap : Nat) (b : ByteArray) (w : World) :
    Calls Tryz.prog 28 #[.agg #[.int .i64 m, .string p, .slice oa n cap, .string b]] w fun e w' => e = .returned (.agg #[.slice oa n cap, .string b, .int .i64 m, .string p]) ∧ Below w.heap.size w w' := by
  go_enter Tryz.func28, Tryz.ntmps28
  go_wp2
  exact bodyPost_ret (v := .agg #[.slice oa n cap, .string b, .int .i64 m, .string p]) (by simp [results, Tryz.results28, go_sem]) rfl ⟨rfl, ((Below.refl _ _).alloc (Nat.le_refl _) _).alloc (by simp) _⟩
set_option maxHeartbeats 400000 in
theorem answerOf_any (m : Int) (oa : Option Addr) (n cap : Nat) (b : ByteArray) (w : World) :
    Calls Tryz.prog 30 #[.agg #[.int .i64 m, .slice oa n cap, .string b]] w fun e w' => e = .returned (.agg #[.slice oa n cap, .string b, .int .i64 m]) ∧ Below w.heap.size w w' := by
  go_enter Tryz.func30, Tryz.ntmps30
  go_wp2
  exact bodyPost_ret (v := .agg #[.slice oa n cap, .string b, .int .i64 m]) (by simp [results, Tryz.results30, go_sem]) rfl ⟨rfl, ((Below.refl _ _).alloc (Nat.le_refl _) _).alloc (by simp) _⟩
set_option maxHeartbeats 400000 in
theorem implReqOk_any (m : Int) (p : ByteArray) (v : Value) (b : ByteArray) (n base : Nat) (fs : List (ByteArray × ByteArray)) (w : World) (hv : FieldsV w base v n fs) (hn : n ≤ 1073741824) (hsz : WalkF n fs) (hp : p.size ≤ maxLen) (hb : b.size ≤ maxLen) :
    Calls Tryz.prog 9 #[.agg #[.int .i64 m, .string p, v, .string b]] w fun e w' => BoolIs (ReqP m p fs b) w e w' := by
  obtain ⟨oa, cap, rfl, _⟩ := hv.slice
  have hb0 : Below w.heap.size w (w.alloc (.cells #[.int .i64 m, .string p, .slice oa n cap, .string b] 26)) := (Below.refl _ _).alloc (Nat.le_refl _) _
  go_enter Tryz.func9, Tryz.ntmps9
  go_wp2_with fail
  refine (requestOf_any m p oa n cap b _).mono ?_
  rintro e w1 ⟨rfl, bb1⟩
  have hb1 : Below w.heap.size w w1 := hb0.trans (bb1.mono hb0.size)
  have hv1 := hv.below hb1
  clear bb1 hb0 hv
  go_wp2_with fail
  refine (reqOk_any m p _ b n base fs _ hv1 hn hsz hp hb).mono ?_
  rintro e w2 ⟨b1, rfl, kb, bb2⟩
  have hb2 : Below w.heap.size w w2 := hb1.trans (bb2.mono hb1.size)
  have HK : Hid (b1 = true ↔ ReqP m p fs b) := kb
  clear hv1 hsz hb bb2 hb1 kb hp
  go_wp2_with fail
  go_ret
  exact ⟨b1, rfl, HK.out, hb2⟩

set_option maxHeartbeats 400000 in
theorem implRespOk_any (m : Int) (v : Value) (b : ByteArray) (n base : Nat) (fs : List (ByteArray × ByteArray)) (w : World) (hv : FieldsV w base v n fs) (hn : n ≤ 1073741824) (hsz : WalkF n fs) (hb : b.size ≤ maxLen) :
    Calls Tryz.prog 10 #[.agg #[.int .i64 m, v, .string b]] w fun e w' => BoolIs (RespP m fs b) w e w' := by
  obtain ⟨oa, cap, rfl, _⟩ := hv.slice
  have hb0 : Below w.heap.size w (w.alloc (.cells #[.int .i64 m, .slice oa n cap, .string b] 28)) := (Below.refl _ _).alloc (Nat.le_refl _) _
  go_enter Tryz.func10, Tryz.ntmps10
  go_wp2_with fail
  refine (answerOf_any m oa n cap b _).mono ?_
  rintro e w1 ⟨rfl, bb1⟩
  have hb1 : Below w.heap.size w w1 := hb0.trans (bb1.mono hb0.size)
  have hv1 := hv.below hb1
  clear bb1 hb0 hv
  go_wp2_with fail
  refine (respOk_any m _ b n base fs _ hv1 hn hsz hb).mono ?_
  rintro e w2 ⟨b1, rfl, kb, bb2⟩
  have hb2 : Below w.heap.size w w2 := hb1.trans (bb2.mono hb1.size)
  have HK : Hid (b1 = true ↔ RespP m fs b) := kb
  clear hv1 hsz hb bb2 hb1 kb
  go_wp2_with fail
  go_ret
  exact ⟨b1, rfl, HK.out, hb2⟩

end Go.Proofs.YthlmnmbhgkmbfaaGreatDoor
