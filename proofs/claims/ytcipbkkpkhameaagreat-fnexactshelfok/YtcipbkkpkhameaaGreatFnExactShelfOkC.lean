/- What the proof of FnExactShelfOk leans on: contracts of the program's and the specification's functions, and plain facts (part 3 of 6). -/
import Derived.Test.YtcipbkkpkhameaaGreatFnExactShelfOkB
namespace Go.Proofs.YtcipbkkpkhameaaGreat
open Go.RowKit
open Go.Lib hiding intOf

/-- An object's three lists, in memory of one's own, no two in one block. -/
structure ObjO (W : World) (base : Nat) (v1 : Value) (n1 : Nat) (xs : List ByteArray) (v2 : Value) (n2 : Nat) (ys : List ByteArray) (v3 : Value) (n3 : Nat) (fs : List (ByteArray × ByteArray)) : Prop where
  names : W.ownsRow base 9 1 v1 n1 (xs.map Value.string)
  vals : W.ownsRow base 9 1 v2 n2 (ys.map Value.string)
  flds : W.ownsRow base 132 2 v3 n3 (flatF fs)
  ne : ∀ j, v1.ownBlock = some j → v2.ownBlock ≠ some j


set_option maxHeartbeats 4000000 in
set_option maxRecDepth 100000 in
theorem toObj_any (p : ByteArray) (a1 : Option Addr) (n1 c1 : Nat) (xs : List ByteArray) (a2 : Option Addr) (n2 c2 : Nat) (ys : List ByteArray) (st : Int) (a3 : Option Addr) (n3 c3 : Nat) (fs : List (ByteArray × ByteArray)) (b : ByteArray) (t : Int) (B : Nat) (w : World) (h1 : ArgT w B a1 n1 xs) (h2 : ArgT w B a2 n2 ys) (h3 : ArgF w B a3 n3 fs) (hB : B ≤ w.heap.size) (hn1 : n1 ≤ 1048576) (hn2 : n2 ≤ 1048576) (hn3 : n3 ≤ 1048576) :
    Calls Tryz.prog 105 #[.agg #[.string p, .slice a1 n1 c1, .slice a2 n2 c2, .int .i64 st, .slice a3 n3 c3, .string b, .int .i64 t]] w fun e w' => ∃ v1 v2 v3, e = .returned (.agg #[.string p, v1, v2, .int .i64 st, v3, .string b, .int .i64 t]) ∧ ObjO w' w.heap.size v1 n1 xs v2 n2 ys v3 n3 fs ∧ Below w.heap.size w w' := by
  have HA1 : Hid (∀ W, Below w.heap.size w W → ArgT W B a1 n1 xs) := fun W h => h1.below (h.mono hB)
  have HA2 : Hid (∀ W, Below w.heap.size w W → ArgT W B a2 n2 ys) := fun W h => h2.below (h.mono hB)
  have HA3 : Hid (∀ W, Below w.heap.size w W → ArgF W B a3 n3 fs) := fun W h => h3.below (h.mono hB)
  have HBB : Hid (∀ W, Below w.heap.size w W → B ≤ W.heap.size) := fun W h => Nat.le_trans hB h.size
  clear h1 h2 h3
  have hb0 : Below w.heap.size w w := Below.refl _ _
  go_enter Tryz.func105, Tryz.ntmps105
  go_upto_region 1 with fail
  obtain ⟨qv1, hqv1⟩ : ∃ q, q = (w).heap.size := ⟨_, rfl⟩
  obtain ⟨w1, hW1⟩ : ∃ W, W = (w).alloc (.cells #[.string p, .slice a1 n1 c1, .slice a2 n2 c2, .int .i64 st, .slice a3 n3 c3, .string b, .int .i64 t] 104) := ⟨_, rfl⟩
  have hz1 : (w).heap.size = qv1 := hqv1.symm
  first | rw [← hW1, ← hqv1] | rw [← hW1]
  have hs1 : w1.heap.size = qv1 + 1 := by rw [hW1, ← hz1]; simp
  have bw : Below (w).heap.size (w) w1 := by rw [hW1]; exact (Below.refl _ _).alloc (Nat.le_refl _) _
  have hb1 : Below w.heap.size w (w1) := hb0.trans (bw.mono hb0.size)
  have HBv1_1 : Hid ((w1).heap[qv1]? = some (.cells #[.string p, .slice a1 n1 c1, .slice a2 n2 c2, .int .i64 st, .slice a3 n3 c3, .string b, .int .i64 t] 104)) := by show _ = _; rw [hW1, ← hz1]; exact heap_alloc_new _ _
  clear hb0 bw hW1 hz1
  obtain ⟨qv2, hqv2⟩ : ∃ q, q = qv1 + 1 := ⟨_, rfl⟩
  obtain ⟨w2, hW2⟩ : ∃ W, W = (w1).alloc (.cells #[.string ⟨#[]⟩, .slice none 0 0, .slice none 0 0, .int .i64 0, .slice none 0 0, .string ⟨#[]⟩, .int .i64 0] 50) := ⟨_, rfl⟩
  have hz2 : (w1).heap.size = qv2 := by rw [hqv2]; exact hs1
  first | rw [← hW2, ← hqv2] | rw [← hW2]
  have hs2 : w2.heap.size = qv2 + 1 := by rw [hW2, ← hz2]; simp
  have bw : Below (w1).heap.size (w1) w2 := by rw [hW2]; exact (Below.refl _ _).alloc (Nat.le_refl _) _
  have hb2 : Below w.heap.size w (w2) := hb1.trans (bw.mono hb1.size)
  have HBv1_2 : Hid ((w2).heap[qv1]? = some (.cells #[.string p, .slice a1 n1 c1, .slice a2 n2 c2, .int .i64 st, .slice a3 n3 c3, .string b, .int .i64 t] 104)) := blk_below HBv1_1.out bw
  have HNv1v2 : Hid (qv1 ≠ qv2) := fun e => by have h1 := (Array.getElem?_eq_some_iff.1 HBv1_1.out).1; omega
  have HBv2_2 : Hid ((w2).heap[qv2]? = some (.cells #[.string ⟨#[]⟩, .slice none 0 0, .slice none 0 0, .int .i64 0, .slice none 0 0, .string ⟨#[]⟩, .int .i64 0] 50)) := by show _ = _; rw [hW2, ← hz2]; exact heap_alloc_new _ _
  have HGv2 : Hid (w.heap.size ≤ qv2) := by show _ ≤ _; rw [← hz2]; exact hb1.size
  clear hb1 HBv1_1 bw hW2 hz2
  clear hs2 hqv2 hs1 hqv1
  go_upto_region 2 with fail
  obtain ⟨qv3, hqv3⟩ : ∃ q, q = (w2).heap.size := ⟨_, rfl⟩
  obtain ⟨w3, hW3⟩ : ∃ W, W = (w2).alloc (.cells #[.string ⟨#[]⟩, .slice none 0 0, .slice none 0 0, .int .i64 0, .slice none 0 0, .string ⟨#[]⟩, .int .i64 0] 50) := ⟨_, rfl⟩
  have hz3 : (w2).heap.size = qv3 := hqv3.symm
  first | rw [← hW3, ← hqv3] | rw [← hW3]
  have hs3 : w3.heap.size = qv3 + 1 := by rw [hW3, ← hz3]; simp
  have bw : Below (w2).heap.size (w2) w3 := by rw [hW3]; exact (Below.refl _ _).alloc (Nat.le_refl _) _
  have hb3 : Below w.heap.size w (w3) := hb2.trans (bw.mono hb2.size)
  have HBv1_3 : Hid ((w3).heap[qv1]? = some (.cells #[.string p, .slice a1 n1 c1, .slice a2 n2 c2, .int .i64 st, .slice a3 n3 c3, .string b, .int .i64 t] 104)) := blk_below HBv1_2.out bw
  have HBv2_3 : Hid ((w3).heap[qv2]? = some (.cells #[.string ⟨#[]⟩, .slice none 0 0, .slice none 0 0, .int .i64 0, .slice none 0 0, .string ⟨#[]⟩, .int .i64 0] 50)) := blk_below HBv2_2.out bw
  have HNv1v3 : Hid (qv1 ≠ qv3) := fun e => by have h1 := (Array.getElem?_eq_some_iff.1 HBv1_2.out).1; omega
  have HNv2v3 : Hid (qv2 ≠ qv3) := fun e => by have h1 := (Array.getElem?_eq_some_iff.1 HBv2_2.out).1; omega
  have HBv3_3 : Hid ((w3).heap[qv3]? = some (.cells #[.string ⟨#[]⟩, .slice none 0 0, .slice none 0 0, .int .i64 0, .slice none 0 0, .string ⟨#[]⟩, .int .i64 0] 50)) := by show _ = _; rw [hW3, ← hz3]; exact heap_alloc_new _ _
  have HGv3 : Hid (w.heap.size ≤ qv3) := by show _ ≤ _; rw [← hz3]; exact hb2.size
  clear hb2 HBv1_2 HBv2_2 bw hW3 hz3
  clear hs3 hqv3
  have cv1_0 : (w3).cell? ⟨qv1, 0, none⟩ = some (.string p) := (cell_of HBv1_3.out 0).trans rfl
  have cv3_0 : (w3).cell? ⟨qv3, 0, none⟩ = some (.string ⟨#[]⟩) := (cell_of HBv3_3.out 0).trans rfl
  have fcv3_0 : (w3).frozen? ⟨qv3, 0, none⟩ = false := frozen_of HBv3_3.out 0
  go_upto_region 3 with fail
  obtain ⟨w4, hW4⟩ : ∃ W, W = (w3).setCell ⟨qv3, 0, none⟩ (.string p) := ⟨_, rfl⟩
  rw [← hW4]
  have hb4 : Below w.heap.size w (w4) := by rw [hW4]; exact (hb3.setCell (p := ⟨qv3, 0, none⟩) HGv3.out _)
  have HBv1_4 : Hid ((w4).heap[qv1]? = some (.cells #[.string p, .slice a1 n1 c1, .slice a2 n2 c2, .int .i64 st, .slice a3 n3 c3, .string b, .int .i64 t] 104)) := by show _ = _; rw [hW4, heap_setCell_other _ _ _ _ HNv1v3.out]; exact HBv1_3.out
  have HBv2_4 : Hid ((w4).heap[qv2]? = some (.cells #[.string ⟨#[]⟩, .slice none 0 0, .slice none 0 0, .int .i64 0, .slice none 0 0, .string ⟨#[]⟩, .int .i64 0] 50)) := by show _ = _; rw [hW4, heap_setCell_other _ _ _ _ HNv2v3.out]; exact HBv2_3.out
  have HBv3_4 : Hid ((w4).heap[qv3]? = some (.cells #[.string p, .slice none 0 0, .slice none 0 0, .int .i64 0, .slice none 0 0, .string ⟨#[]⟩, .int .i64 0] 50)) := by show _ = _; rw [hW4]; have h := heap_set _ _ 0 _ _ _ (.string p) HBv3_3.out; simpa using h
  clear hb3 HBv1_3 HBv2_3 HBv3_3 hW4
  clear cv1_0 cv3_0 fcv3_0
  have cv1_1 : (w4).cell? ⟨qv1, 1, none⟩ = some (.slice a1 n1 c1) := (cell_of HBv1_4.out 1).trans rfl
  go_wp2_with fail
  refine (toStringS_any B a1 n1 c1 xs _ (HA1.out _ hb4) (HBB.out _ hb4) hn1).mono ?_
  rintro e w5 ⟨vv, rfl, ownN, bw⟩
  obtain ⟨oN, pN, rfl⟩ := slice_of_owns ownN
  have hb5 : Below w.heap.size w (w5) := hb4.trans (bw.mono hb4.size)
  have HBv1_5 : Hid ((w5).heap[qv1]? = some (.cells #[.string p, .slice a1 n1 c1, .slice a2 n2 c2, .int .i64 st, .slice a3 n3 c3, .string b, .int .i64 t] 104)) := blk_below HBv1_4.out bw
  have HBv2_5 : Hid ((w5).heap[qv2]? = some (.cells #[.string ⟨#[]⟩, .slice none 0 0, .slice none 0 0, .int .i64 0, .slice none 0 0, .string ⟨#[]⟩, .int .i64 0] 50)) := blk_below HBv2_4.out bw
  have HBv3_5 : Hid ((w5).heap[qv3]? = some (.cells #[.string p, .slice none 0 0, .slice none 0 0, .int .i64 0, .slice none 0 0, .string ⟨#[]⟩, .int .i64 0] 50)) := blk_below HBv3_4.out bw
  have HON_5 : Hid ((w5).ownsRow w.heap.size 9 1 (.slice oN n1 pN) n1 (xs.map Value.string)) := owns_wide ownN hb4.size
  have HIN : Hid (∀ g, (Value.ownBlock (.slice oN n1 pN)) = some g → g < (w5).heap.size) := fun g hg => owns_lt ownN hg
  clear ownN
  clear hb4 HBv1_4 HBv2_4 HBv3_4 bw
  clear cv1_1
  have cv3_1 : (w5).cell? ⟨qv3, 1, none⟩ = some (.slice none 0 0) := (cell_of HBv3_5.out 1).trans rfl
  have fcv3_1 : (w5).frozen? ⟨qv3, 1, none⟩ = false := frozen_of HBv3_5.out 1
  go_upto_region 4 with fail
  obtain ⟨w6, hW6⟩ : ∃ W, W = (w5).setCell ⟨qv3, 1, none⟩ (.slice oN n1 pN) := ⟨_, rfl⟩
  rw [← hW6]
  have hb6 : Below w.heap.size w (w6) := by rw [hW6]; exact (hb5.setCell (p := ⟨qv3, 1, none⟩) HGv3.out _)
  have HM6 : Hid ((w5).heap.size ≤ w6.heap.size) := by show _ ≤ _; rw [hW6]; simp
  have HON_6 : Hid ((w6).ownsRow w.heap.size 9 1 (.slice oN n1 pN) n1 (xs.map Value.string)) := by show World.ownsRow _ _ _ _ _ _ _; rw [hW6]; exact owns_same HON_5.out (fun g hg => heap_setCell_other _ _ g _ (own_ne HON_5.out HBv3_5.out (by decide) g hg))
  have HBv1_6 : Hid ((w6).heap[qv1]? = some (.cells #[.string p, .slice a1 n1 c1, .slice a2 n2 c2, .int .i64 st, .slice a3 n3 c3, .string b, .int .i64 t] 104)) := by show _ = _; rw [hW6, heap_setCell_other _ _ _ _ HNv1v3.out]; exact HBv1_5.out
  have HBv2_6 : Hid ((w6).heap[qv2]? = some (.cells #[.string ⟨#[]⟩, .slice none 0 0, .slice none 0 0, .int .i64 0, .slice none 0 0, .string ⟨#[]⟩, .int .i64 0] 50)) := by show _ = _; rw [hW6, heap_setCell_other _ _ _ _ HNv2v3.out]; exact HBv2_5.out
  have HBv3_6 : Hid ((w6).heap[qv3]? = some (.cells #[.string p, .slice oN n1 pN, .slice none 0 0, .int .i64 0, .slice none 0 0, .string ⟨#[]⟩, .int .i64 0] 50)) := by show _ = _; rw [hW6]; have h := heap_set _ _ 1 _ _ _ (.slice oN n1 pN) HBv3_5.out; simpa using h
  clear hb5 HON_5 HBv1_5 HBv2_5 HBv3_5 hW6
  clear cv3_1 fcv3_1
  have cv1_2 : (w6).cell? ⟨qv1, 2, none⟩ = some (.slice a2 n2 c2) := (cell_of HBv1_6.out 2).trans rfl
  go_wp2_with fail
  refine (toStringS_any B a2 n2 c2 ys _ (HA2.out _ hb6) (HBB.out _ hb6) hn2).mono ?_
  rintro e w7 ⟨vv, rfl, ownV, bw⟩
  obtain ⟨oV, pV, rfl⟩ := slice_of_owns ownV
  have hb7 : Below w.heap.size w (w7) := hb6.trans (bw.mono hb6.size)
  have HM7 : Hid ((w6).heap.size ≤ (w7).heap.size) := bw.size
  have HON_7 : Hid ((w7).ownsRow w.heap.size 9 1 (.slice oN n1 pN) n1 (xs.map Value.string)) := owns_below HON_6.out bw (fun g hg => owns_lt HON_6.out hg)
  have HBv1_7 : Hid ((w7).heap[qv1]? = some (.cells #[.string p, .slice a1 n1 c1, .slice a2 n2 c2, .int .i64 st, .slice a3 n3 c3, .string b, .int .i64 t] 104)) := blk_below HBv1_6.out bw
  have HBv2_7 : Hid ((w7).heap[qv2]? = some (.cells #[.string ⟨#[]⟩, .slice none 0 0, .slice none 0 0, .int .i64 0, .slice none 0 0, .string ⟨#[]⟩, .int .i64 0] 50)) := blk_below HBv2_6.out bw
  have HBv3_7 : Hid ((w7).heap[qv3]? = some (.cells #[.string p, .slice oN n1 pN, .slice none 0 0, .int .i64 0, .slice none 0 0, .string ⟨#[]⟩, .int .i64 0] 50)) := blk_below HBv3_6.out bw
  have HOV_7 : Hid ((w7).ownsRow w.heap.size 9 1 (.slice oV n2 pV) n2 (ys.map Value.string)) := owns_wide ownV hb6.size
  have LOV : Hid (∀ g, (Value.ownBlock (.slice oV n2 pV)) = some g → (w6).heap.size ≤ g) := fun g hg => owns_ge ownV hg
  clear ownV
  clear hb6 HON_6 HBv1_6 HBv2_6 HBv3_6 bw
  clear cv1_2
  have cv3_2 : (w7).cell? ⟨qv3, 2, none⟩ = some (.slice none 0 0) := (cell_of HBv3_7.out 2).trans rfl
  have fcv3_2 : (w7).frozen? ⟨qv3, 2, none⟩ = false := frozen_of HBv3_7.out 2
  go_upto_region 5 with fail
  obtain ⟨w8, hW8⟩ : ∃ W, W = (w7).setCell ⟨qv3, 2, none⟩ (.slice oV n2 pV) := ⟨_, rfl⟩
  rw [← hW8]
  have hb8 : Below w.heap.size w (w8) := by rw [hW8]; exact (hb7.setCell (p := ⟨qv3, 2, none⟩) HGv3.out _)
  have HON_8 : Hid ((w8).ownsRow w.heap.size 9 1 (.slice oN n1 pN) n1 (xs.map Value.string)) := by show World.ownsRow _ _ _ _ _ _ _; rw [hW8]; exact owns_same HON_7.out (fun g hg => heap_setCell_other _ _ g _ (own_ne HON_7.out HBv3_7.out (by decide) g hg))
  have HOV_8 : Hid ((w8).ownsRow w.heap.size 9 1 (.slice oV n2 pV) n2 (ys.map Value.string)) := by show World.ownsRow _ _ _ _ _ _ _; rw [hW8]; exact owns_same HOV_7.out (fun g hg => heap_setCell_other _ _ g _ (own_ne HOV_7.out HBv3_7.out (by decide) g hg))
  have HBv1_8 : Hid ((w8).heap[qv1]? = some (.cells #[.string p, .slice a1 n1 c1, .slice a2 n2 c2, .int .i64 st, .slice a3 n3 c3, .string b, .int .i64 t] 104)) := by show _ = _; rw [hW8, heap_setCell_other _ _ _ _ HNv1v3.out]; exact HBv1_7.out
  have HBv2_8 : Hid ((w8).heap[qv2]? = some (.cells #[.string ⟨#[]⟩, .slice none 0 0, .slice none 0 0, .int .i64 0, .slice none 0 0, .string ⟨#[]⟩, .int .i64 0] 50)) := by show _ = _; rw [hW8, heap_setCell_other _ _ _ _ HNv2v3.out]; exact HBv2_7.out
  have HBv3_8 : Hid ((w8).heap[qv3]? = some (.cells #[.string p, .slice oN n1 pN, .slice oV n2 pV, .int .i64 0, .slice none 0 0, .string ⟨#[]⟩, .int .i64 0] 50)) := by show _ = _; rw [hW8]; have h := heap_set _ _ 2 _ _ _ (.slice oV n2 pV) HBv3_7.out; simpa using h
  clear hb7 HON_7 HOV_7 HBv1_7 HBv2_7 HBv3_7 hW8
  clear cv3_2 fcv3_2
  have cv1_3 : (w8).cell? ⟨qv1, 3, none⟩ = some (.int .i64 st) := (cell_of HBv1_8.out 3).trans rfl
  have cv1_4 : (w8).cell? ⟨qv1, 4, none⟩ = some (.slice a3 n3 c3) := (cell_of HBv1_8.out 4).trans rfl
  have cv1_5 : (w8).cell? ⟨qv1, 5, none⟩ = some (.string b) := (cell_of HBv1_8.out 5).trans rfl
  go_wp2_with fail
  refine (toResp_any st a3 n3 c3 b fs B _ (HA3.out _ hb8) (HBB.out _ hb8) hn3).mono ?_
  rintro e w9 ⟨vv, rfl, ownF, bw⟩
  obtain ⟨oF, pF, rfl⟩ := slice_of_owns ownF
  have hb9 : Below w.heap.size w (w9) := hb8.trans (bw.mono hb8.size)
  have HON_9 : Hid ((w9).ownsRow w.heap.size 9 1 (.slice oN n1 pN) n1 (xs.map Value.string)) := owns_below HON_8.out bw (fun g hg => owns_lt HON_8.out hg)
  have HOV_9 : Hid ((w9).ownsRow w.heap.size 9 1 (.slice oV n2 pV) n2 (ys.map Value.string)) := owns_below HOV_8.out bw (fun g hg => owns_lt HOV_8.out hg)
  have HBv1_9 : Hid ((w9).heap[qv1]? = some (.cells #[.string p, .slice a1 n1 c1, .slice a2 n2 c2, .int .i64 st, .slice a3 n3 c3, .string b, .int .i64 t] 104)) := blk_below HBv1_8.out bw
  have HBv2_9 : Hid ((w9).heap[qv2]? = some (.cells #[.string ⟨#[]⟩, .slice none 0 0, .slice none 0 0, .int .i64 0, .slice none 0 0, .string ⟨#[]⟩, .int .i64 0] 50)) := blk_below HBv2_8.out bw
  have HBv3_9 : Hid ((w9).heap[qv3]? = some (.cells #[.string p, .slice oN n1 pN, .slice oV n2 pV, .int .i64 0, .slice none 0 0, .string ⟨#[]⟩, .int .i64 0] 50)) := blk_below HBv3_8.out bw
  have HOF_9 : Hid ((w9).ownsRow w.heap.size 132 2 (.slice oF n3 pF) n3 (flatF fs)) := owns_wide ownF hb8.size
  clear ownF
  clear hb8 HON_8 HOV_8 HBv1_8 HBv2_8 HBv3_8 bw
  clear cv1_3 cv1_4 cv1_5
  have cv3_3 : (w9).cell? ⟨qv3, 3, none⟩ = some (.int .i64 0) := (cell_of HBv3_9.out 3).trans rfl
  have fcv3_3 : (w9).frozen? ⟨qv3, 3, none⟩ = false := frozen_of HBv3_9.out 3
  have cv3_4 : (w9).cell? ⟨qv3, 4, none⟩ = some (.slice none 0 0) := (cell_of HBv3_9.out 4).trans rfl
  have fcv3_4 : (w9).frozen? ⟨qv3, 4, none⟩ = false := frozen_of HBv3_9.out 4
  have cv3_5 : (w9).cell? ⟨qv3, 5, none⟩ = some (.string ⟨#[]⟩) := (cell_of HBv3_9.out 5).trans rfl
  have fcv3_5 : (w9).frozen? ⟨qv3, 5, none⟩ = false := frozen_of HBv3_9.out 5
  go_upto_region 6 with fail
  obtain ⟨w10, hW10⟩ : ∃ W, W = (w9).setCell ⟨qv3, 3, none⟩ (.int .i64 st) := ⟨_, rfl⟩
  rw [← hW10]
  have hb10 : Below w.heap.size w (w10) := by rw [hW10]; exact (hb9.setCell (p := ⟨qv3, 3, none⟩) HGv3.out _)
  have HON_10 : Hid ((w10).ownsRow w.heap.size 9 1 (.slice oN n1 pN) n1 (xs.map Value.string)) := by show World.ownsRow _ _ _ _ _ _ _; rw [hW10]; exact owns_same HON_9.out (fun g hg => heap_setCell_other _ _ g _ (own_ne HON_9.out HBv3_9.out (by decide) g hg))
  have HOV_10 : Hid ((w10).ownsRow w.heap.size 9 1 (.slice oV n2 pV) n2 (ys.map Value.string)) := by show World.ownsRow _ _ _ _ _ _ _; rw [hW10]; exact owns_same HOV_9.out (fun g hg => heap_setCell_other _ _ g _ (own_ne HOV_9.out HBv3_9.out (by decide) g hg))
  have HOF_10 : Hid ((w10).ownsRow w.heap.size 132 2 (.slice oF n3 pF) n3 (flatF fs)) := by show World.ownsRow _ _ _ _ _ _ _; rw [hW10]; exact owns_same HOF_9.out (fun g hg => heap_setCell_other _ _ g _ (own_ne HOF_9.out HBv3_9.out (by decide) g hg))
  have HBv1_10 : Hid ((w10).heap[qv1]? = some (.cells #[.string p, .slice a1 n1 c1, .slice a2 n2 c2, .int .i64 st, .slice a3 n3 c3, .string b, .int .i64 t] 104)) := by show _ = _; rw [hW10, heap_setCell_other _ _ _ _ HNv1v3.out]; exact HBv1_9.out
  have HBv2_10 : Hid ((w10).heap[qv2]? = some (.cells #[.string ⟨#[]⟩, .slice none 0 0, .slice none 0 0, .int .i64 0, .slice none 0 0, .string ⟨#[]⟩, .int .i64 0] 50)) := by show _ = _; rw [hW10, heap_setCell_other _ _ _ _ HNv2v3.out]; exact HBv2_9.out
  have HBv3_10 : Hid ((w10).heap[qv3]? = some (.cells #[.string p, .slice oN n1 pN, .slice oV n2 pV, .int .i64 st, .slice none 0 0, .string ⟨#[]⟩, .int .i64 0] 50)) := by show _ = _; rw [hW10]; have h := heap_set _ _ 3 _ _ _ (.int .i64 st) HBv3_9.out; simpa using h
  clear hb9 HON_9 HOV_9 HOF_9 HBv1_9 HBv2_9 HBv3_9 hW10
  obtain ⟨w11, hW11⟩ : ∃ W, W = (w10).setCell ⟨qv3, 4, none⟩ (.slice oF n3 pF) := ⟨_, rfl⟩
  rw [← hW11]
  have hb11 : Below w.heap.size w (w11) := by rw [hW11]; exact (hb10.setCell (p := ⟨qv3, 4, none⟩) HGv3.out _)
  have HON_11 : Hid ((w11).ownsRow w.heap.size 9 1 (.slice oN n1 pN) n1 (xs.map Value.string)) := by show World.ownsRow _ _ _ _ _ _ _; rw [hW11]; exact owns_same HON_10.out (fun g hg => heap_setCell_other _ _ g _ (own_ne HON_10.out HBv3_10.out (by decide) g hg))
  have HOV_11 : Hid ((w11).ownsRow w.heap.size 9 1 (.slice oV n2 pV) n2 (ys.map Value.string)) := by show World.ownsRow _ _ _ _ _ _ _; rw [hW11]; exact owns_same HOV_10.out (fun g hg => heap_setCell_other _ _ g _ (own_ne HOV_10.out HBv3_10.out (by decide) g hg))
  have HOF_11 : Hid ((w11).ownsRow w.heap.size 132 2 (.slice oF n3 pF) n3 (flatF fs)) := by show World.ownsRow _ _ _ _ _ _ _; rw [hW11]; exact owns_same HOF_10.out (fun g hg => heap_setCell_other _ _ g _ (own_ne HOF_10.out HBv3_10.out (by decide) g hg))
  have HBv1_11 : Hid ((w11).heap[qv1]? = some (.cells #[.string p, .slice a1 n1 c1, .slice a2 n2 c2, .int .i64 st, .slice a3 n3 c3, .string b, .int .i64 t] 104)) := by show _ = _; rw [hW11, heap_setCell_other _ _ _ _ HNv1v3.out]; exact HBv1_10.out
  have HBv2_11 : Hid ((w11).heap[qv2]? = some (.cells #[.string ⟨#[]⟩, .slice none 0 0, .slice none 0 0, .int .i64 0, .slice none 0 0, .string ⟨#[]⟩, .int .i64 0] 50)) := by show _ = _; rw [hW11, heap_setCell_other _ _ _ _ HNv2v3.out]; exact HBv2_10.out
  have HBv3_11 : Hid ((w11).heap[qv3]? = some (.cells #[.string p, .slice oN n1 pN, .slice oV n2 pV, .int .i64 st, .slice oF n3 pF, .string ⟨#[]⟩, .int .i64 0] 50)) := by show _ = _; rw [hW11]; have h := heap_set _ _ 4 _ _ _ (.slice oF n3 pF) HBv3_10.out; simpa using h
  clear hb10 HON_10 HOV_10 HOF_10 HBv1_10 HBv2_10 HBv3_10 hW11
  obtain ⟨w12, hW12⟩ : ∃ W, W = (w11).setCell ⟨qv3, 5, none⟩ (.string b) := ⟨_, rfl⟩
  rw [← hW12]
  have hb12 : Below w.heap.size w (w12) := by rw [hW12]; exact (hb11.setCell (p := ⟨qv3, 5, none⟩) HGv3.out _)
  have HON_12 : Hid ((w12).ownsRow w.heap.size 9 1 (.slice oN n1 pN) n1 (xs.map Value.string)) := by show World.ownsRow _ _ _ _ _ _ _; rw [hW12]; exact owns_same HON_11.out (fun g hg => heap_setCell_other _ _ g _ (own_ne HON_11.out HBv3_11.out (by decide) g hg))
  have HOV_12 : Hid ((w12).ownsRow w.heap.size 9 1 (.slice oV n2 pV) n2 (ys.map Value.string)) := by show World.ownsRow _ _ _ _ _ _ _; rw [hW12]; exact owns_same HOV_11.out (fun g hg => heap_setCell_other _ _ g _ (own_ne HOV_11.out HBv3_11.out (by decide) g hg))
  have HOF_12 : Hid ((w12).ownsRow w.heap.size 132 2 (.slice oF n3 pF) n3 (flatF fs)) := by show World.ownsRow _ _ _ _ _ _ _; rw [hW12]; exact owns_same HOF_11.out (fun g hg => heap_setCell_other _ _ g _ (own_ne HOF_11.out HBv3_11.out (by decide) g hg))
  have HBv1_12 : Hid ((w12).heap[qv1]? = some (.cells #[.string p, .slice a1 n1 c1, .slice a2 n2 c2, .int .i64 st, .slice a3 n3 c3, .string b, .int .i64 t] 104)) := by show _ = _; rw [hW12, heap_setCell_other _ _ _ _ HNv1v3.out]; exact HBv1_11.out
  have HBv2_12 : Hid ((w12).heap[qv2]? = some (.cells #[.string ⟨#[]⟩, .slice none 0 0, .slice none 0 0, .int .i64 0, .slice none 0 0, .string ⟨#[]⟩, .int .i64 0] 50)) := by show _ = _; rw [hW12, heap_setCell_other _ _ _ _ HNv2v3.out]; exact HBv2_11.out
  have HBv3_12 : Hid ((w12).heap[qv3]? = some (.cells #[.string p, .slice oN n1 pN, .slice oV n2 pV, .int .i64 st, .slice oF n3 pF, .string b, .int .i64 0] 50)) := by show _ = _; rw [hW12]; have h := heap_set _ _ 5 _ _ _ (.string b) HBv3_11.out; simpa using h
  clear hb11 HON_11 HOV_11 HOF_11 HBv1_11 HBv2_11 HBv3_11 hW12
  clear cv3_3 fcv3_3 cv3_4 fcv3_4 cv3_5 fcv3_5
  have cv1_6 : (w12).cell? ⟨qv1, 6, none⟩ = some (.int .i64 t) := (cell_of HBv1_12.out 6).trans rfl
  have cv3_6 : (w12).cell? ⟨qv3, 6, none⟩ = some (.int .i64 0) := (cell_of HBv3_12.out 6).trans rfl
  have fcv3_6 : (w12).frozen? ⟨qv3, 6, none⟩ = false := frozen_of HBv3_12.out 6
  go_upto_region 7 with fail
  obtain ⟨w13, hW13⟩ : ∃ W, W = (w12).setCell ⟨qv3, 6, none⟩ (.int .i64 t) := ⟨_, rfl⟩
  rw [← hW13]
  have hb13 : Below w.heap.size w (w13) := by rw [hW13]; exact (hb12.setCell (p := ⟨qv3, 6, none⟩) HGv3.out _)
  have HON_13 : Hid ((w13).ownsRow w.heap.size 9 1 (.slice oN n1 pN) n1 (xs.map Value.string)) := by show World.ownsRow _ _ _ _ _ _ _; rw [hW13]; exact owns_same HON_12.out (fun g hg => heap_setCell_other _ _ g _ (own_ne HON_12.out HBv3_12.out (by decide) g hg))
  have HOV_13 : Hid ((w13).ownsRow w.heap.size 9 1 (.slice oV n2 pV) n2 (ys.map Value.string)) := by show World.ownsRow _ _ _ _ _ _ _; rw [hW13]; exact owns_same HOV_12.out (fun g hg => heap_setCell_other _ _ g _ (own_ne HOV_12.out HBv3_12.out (by decide) g hg))
  have HOF_13 : Hid ((w13).ownsRow w.heap.size 132 2 (.slice oF n3 pF) n3 (flatF fs)) := by show World.ownsRow _ _ _ _ _ _ _; rw [hW13]; exact owns_same HOF_12.out (fun g hg => heap_setCell_other _ _ g _ (own_ne HOF_12.out HBv3_12.out (by decide) g hg))
  have HBv1_13 : Hid ((w13).heap[qv1]? = some (.cells #[.string p, .slice a1 n1 c1, .slice a2 n2 c2, .int .i64 st, .slice a3 n3 c3, .string b, .int .i64 t] 104)) := by show _ = _; rw [hW13, heap_setCell_other _ _ _ _ HNv1v3.out]; exact HBv1_12.out
  have HBv2_13 : Hid ((w13).heap[qv2]? = some (.cells #[.string ⟨#[]⟩, .slice none 0 0, .slice none 0 0, .int .i64 0, .slice none 0 0, .string ⟨#[]⟩, .int .i64 0] 50)) := by show _ = _; rw [hW13, heap_setCell_other _ _ _ _ HNv2v3.out]; exact HBv2_12.out
  have HBv3_13 : Hid ((w13).heap[qv3]? = some (.cells #[.string p, .slice oN n1 pN, .slice oV n2 pV, .int .i64 st, .slice oF n3 pF, .string b, .int .i64 t] 50)) := by show _ = _; rw [hW13]; have h := heap_set _ _ 6 _ _ _ (.int .i64 t) HBv3_12.out; simpa using h
  clear hb12 HON_12 HOV_12 HOF_12 HBv1_12 HBv2_12 HBv3_12 hW13
  clear cv1_6 cv3_6 fcv3_6
  have cv2_0 : (w13).cell? ⟨qv2, 0, none⟩ = some (.string ⟨#[]⟩) := (cell_of HBv2_13.out 0).trans rfl
  have fcv2_0 : (w13).frozen? ⟨qv2, 0, none⟩ = false := frozen_of HBv2_13.out 0
  have cv2_1 : (w13).cell? ⟨qv2, 1, none⟩ = some (.slice none 0 0) := (cell_of HBv2_13.out 1).trans rfl
  have fcv2_1 : (w13).frozen? ⟨qv2, 1, none⟩ = false := frozen_of HBv2_13.out 1
  have cv2_2 : (w13).cell? ⟨qv2, 2, none⟩ = some (.slice none 0 0) := (cell_of HBv2_13.out 2).trans rfl
  have fcv2_2 : (w13).frozen? ⟨qv2, 2, none⟩ = false := frozen_of HBv2_13.out 2
  have cv2_3 : (w13).cell? ⟨qv2, 3, none⟩ = some (.int .i64 0) := (cell_of HBv2_13.out 3).trans rfl
  have fcv2_3 : (w13).frozen? ⟨qv2, 3, none⟩ = false := frozen_of HBv2_13.out 3
  have cv2_4 : (w13).cell? ⟨qv2, 4, none⟩ = some (.slice none 0 0) := (cell_of HBv2_13.out 4).trans rfl
  have fcv2_4 : (w13).frozen? ⟨qv2, 4, none⟩ = false := frozen_of HBv2_13.out 4
  have cv2_5 : (w13).cell? ⟨qv2, 5, none⟩ = some (.string ⟨#[]⟩) := (cell_of HBv2_13.out 5).trans rfl
  have fcv2_5 : (w13).frozen? ⟨qv2, 5, none⟩ = false := frozen_of HBv2_13.out 5
  have cv2_6 : (w13).cell? ⟨qv2, 6, none⟩ = some (.int .i64 0) := (cell_of HBv2_13.out 6).trans rfl
  have fcv2_6 : (w13).frozen? ⟨qv2, 6, none⟩ = false := frozen_of HBv2_13.out 6
  have cv3_0 : (w13).cell? ⟨qv3, 0, none⟩ = some (.string p) := (cell_of HBv3_13.out 0).trans rfl
  have cv3_1 : (w13).cell? ⟨qv3, 1, none⟩ = some (.slice oN n1 pN) := (cell_of HBv3_13.out 1).trans rfl
  have cv3_2 : (w13).cell? ⟨qv3, 2, none⟩ = some (.slice oV n2 pV) := (cell_of HBv3_13.out 2).trans rfl
  have cv3_3 : (w13).cell? ⟨qv3, 3, none⟩ = some (.int .i64 st) := (cell_of HBv3_13.out 3).trans rfl
  have cv3_4 : (w13).cell? ⟨qv3, 4, none⟩ = some (.slice oF n3 pF) := (cell_of HBv3_13.out 4).trans rfl
  have cv3_5 : (w13).cell? ⟨qv3, 5, none⟩ = some (.string b) := (cell_of HBv3_13.out 5).trans rfl
  have cv3_6 : (w13).cell? ⟨qv3, 6, none⟩ = some (.int .i64 t) := (cell_of HBv3_13.out 6).trans rfl
  go_wp2_with fail
  obtain ⟨w14, hW14⟩ : ∃ W, W = (w13).setCell ⟨qv2, 0, none⟩ (.string p) := ⟨_, rfl⟩
  rw [← hW14]
  have hb14 : Below w.heap.size w (w14) := by rw [hW14]; exact (hb13.setCell (p := ⟨qv2, 0, none⟩) HGv2.out _)
  have HON_14 : Hid ((w14).ownsRow w.heap.size 9 1 (.slice oN n1 pN) n1 (xs.map Value.string)) := by show World.ownsRow _ _ _ _ _ _ _; rw [hW14]; exact owns_same HON_13.out (fun g hg => heap_setCell_other _ _ g _ (own_ne HON_13.out HBv2_13.out (by decide) g hg))
  have HOV_14 : Hid ((w14).ownsRow w.heap.size 9 1 (.slice oV n2 pV) n2 (ys.map Value.string)) := by show World.ownsRow _ _ _ _ _ _ _; rw [hW14]; exact owns_same HOV_13.out (fun g hg => heap_setCell_other _ _ g _ (own_ne HOV_13.out HBv2_13.out (by decide) g hg))
  have HOF_14 : Hid ((w14).ownsRow w.heap.size 132 2 (.slice oF n3 pF) n3 (flatF fs)) := by show World.ownsRow _ _ _ _ _ _ _; rw [hW14]; exact owns_same HOF_13.out (fun g hg => heap_setCell_other _ _ g _ (own_ne HOF_13.out HBv2_13.out (by decide) g hg))
  have HBv1_14 : Hid ((w14).heap[qv1]? = some (.cells #[.string p, .slice a1 n1 c1, .slice a2 n2 c2, .int .i64 st, .slice a3 n3 c3, .string b, .int .i64 t] 104)) := by show _ = _; rw [hW14, heap_setCell_other _ _ _ _ HNv1v2.out]; exact HBv1_13.out
  have HBv3_14 : Hid ((w14).heap[qv3]? = some (.cells #[.string p, .slice oN n1 pN, .slice oV n2 pV, .int .i64 st, .slice oF n3 pF, .string b, .int .i64 t] 50)) := by show _ = _; rw [hW14, heap_setCell_other _ _ _ _ HNv2v3.out.symm]; exact HBv3_13.out
  have HBv2_14 : Hid ((w14).heap[qv2]? = some (.cells #[.string p, .slice none 0 0, .slice none 0 0, .int .i64 0, .slice none 0 0, .string ⟨#[]⟩, .int .i64 0] 50)) := by show _ = _; rw [hW14]; have h := heap_set _ _ 0 _ _ _ (.string p) HBv2_13.out; simpa using h
  clear hb13 HON_13 HOV_13 HOF_13 HBv1_13 HBv2_13 HBv3_13 hW14
  obtain ⟨w15, hW15⟩ : ∃ W, W = (w14).setCell ⟨qv2, 1, none⟩ (.slice oN n1 pN) := ⟨_, rfl⟩
  rw [← hW15]
  have hb15 : Below w.heap.size w (w15) := by rw [hW15]; exact (hb14.setCell (p := ⟨qv2, 1, none⟩) HGv2.out _)
  have HON_15 : Hid ((w15).ownsRow w.heap.size 9 1 (.slice oN n1 pN) n1 (xs.map Value.string)) := by show World.ownsRow _ _ _ _ _ _ _; rw [hW15]; exact owns_same HON_14.out (fun g hg => heap_setCell_other _ _ g _ (own_ne HON_14.out HBv2_14.out (by decide) g hg))
  have HOV_15 : Hid ((w15).ownsRow w.heap.size 9 1 (.slice oV n2 pV) n2 (ys.map Value.string)) := by show World.ownsRow _ _ _ _ _ _ _; rw [hW15]; exact owns_same HOV_14.out (fun g hg => heap_setCell_other _ _ g _ (own_ne HOV_14.out HBv2_14.out (by decide) g hg))
  have HOF_15 : Hid ((w15).ownsRow w.heap.size 132 2 (.slice oF n3 pF) n3 (flatF fs)) := by show World.ownsRow _ _ _ _ _ _ _; rw [hW15]; exact owns_same HOF_14.out (fun g hg => heap_setCell_other _ _ g _ (own_ne HOF_14.out HBv2_14.out (by decide) g hg))
  have HBv1_15 : Hid ((w15).heap[qv1]? = some (.cells #[.string p, .slice a1 n1 c1, .slice a2 n2 c2, .int .i64 st, .slice a3 n3 c3, .string b, .int .i64 t] 104)) := by show _ = _; rw [hW15, heap_setCell_other _ _ _ _ HNv1v2.out]; exact HBv1_14.out
  have HBv3_15 : Hid ((w15).heap[qv3]? = some (.cells #[.string p, .slice oN n1 pN, .slice oV n2 pV, .int .i64 st, .slice oF n3 pF, .string b, .int .i64 t] 50)) := by show _ = _; rw [hW15, heap_setCell_other _ _ _ _ HNv2v3.out.symm]; exact HBv3_14.out
  have HBv2_15 : Hid ((w15).heap[qv2]? = some (.cells #[.string p, .slice oN n1 pN, .slice none 0 0, .int .i64 0, .slice none 0 0, .string ⟨#[]⟩, .int .i64 0] 50)) := by show _ = _; rw [hW15]; have h := heap_set _ _ 1 _ _ _ (.slice oN n1 pN) HBv2_14.out; simpa using h
  clear hb14 HON_14 HOV_14 HOF_14 HBv1_14 HBv2_14 HBv3_14 hW15
  obtain ⟨w16, hW16⟩ : ∃ W, W = (w15).setCell ⟨qv2, 2, none⟩ (.slice oV n2 pV) := ⟨_, rfl⟩
  rw [← hW16]
  have hb16 : Below w.heap.size w (w16) := by rw [hW16]; exact (hb15.setCell (p := ⟨qv2, 2, none⟩) HGv2.out _)
  have HON_16 : Hid ((w16).ownsRow w.heap.size 9 1 (.slice oN n1 pN) n1 (xs.map Value.string)) := by show World.ownsRow _ _ _ _ _ _ _; rw [hW16]; exact owns_same HON_15.out (fun g hg => heap_setCell_other _ _ g _ (own_ne HON_15.out HBv2_15.out (by decide) g hg))
  have HOV_16 : Hid ((w16).ownsRow w.heap.size 9 1 (.slice oV n2 pV) n2 (ys.map Value.string)) := by show World.ownsRow _ _ _ _ _ _ _; rw [hW16]; exact owns_same HOV_15.out (fun g hg => heap_setCell_other _ _ g _ (own_ne HOV_15.out HBv2_15.out (by decide) g hg))
  have HOF_16 : Hid ((w16).ownsRow w.heap.size 132 2 (.slice oF n3 pF) n3 (flatF fs)) := by show World.ownsRow _ _ _ _ _ _ _; rw [hW16]; exact owns_same HOF_15.out (fun g hg => heap_setCell_other _ _ g _ (own_ne HOF_15.out HBv2_15.out (by decide) g hg))
  have HBv1_16 : Hid ((w16).heap[qv1]? = some (.cells #[.string p, .slice a1 n1 c1, .slice a2 n2 c2, .int .i64 st, .slice a3 n3 c3, .string b, .int .i64 t] 104)) := by show _ = _; rw [hW16, heap_setCell_other _ _ _ _ HNv1v2.out]; exact HBv1_15.out
  have HBv3_16 : Hid ((w16).heap[qv3]? = some (.cells #[.string p, .slice oN n1 pN, .slice oV n2 pV, .int .i64 st, .slice oF n3 pF, .string b, .int .i64 t] 50)) := by show _ = _; rw [hW16, heap_setCell_other _ _ _ _ HNv2v3.out.symm]; exact HBv3_15.out
  have HBv2_16 : Hid ((w16).heap[qv2]? = some (.cells #[.string p, .slice oN n1 pN, .slice oV n2 pV, .int .i64 0, .slice none 0 0, .string ⟨#[]⟩, .int .i64 0] 50)) := by show _ = _; rw [hW16]; have h := heap_set _ _ 2 _ _ _ (.slice oV n2 pV) HBv2_15.out; simpa using h
  clear hb15 HON_15 HOV_15 HOF_15 HBv1_15 HBv2_15 HBv3_15 hW16
  obtain ⟨w17, hW17⟩ : ∃ W, W = (w16).setCell ⟨qv2, 3, none⟩ (.int .i64 st) := ⟨_, rfl⟩
  rw [← hW17]
  have hb17 : Below w.heap.size w (w17) := by rw [hW17]; exact (hb16.setCell (p := ⟨qv2, 3, none⟩) HGv2.out _)
  have HON_17 : Hid ((w17).ownsRow w.heap.size 9 1 (.slice oN n1 pN) n1 (xs.map Value.string)) := by show World.ownsRow _ _ _ _ _ _ _; rw [hW17]; exact owns_same HON_16.out (fun g hg => heap_setCell_other _ _ g _ (own_ne HON_16.out HBv2_16.out (by decide) g hg))
  have HOV_17 : Hid ((w17).ownsRow w.heap.size 9 1 (.slice oV n2 pV) n2 (ys.map Value.string)) := by show World.ownsRow _ _ _ _ _ _ _; rw [hW17]; exact owns_same HOV_16.out (fun g hg => heap_setCell_other _ _ g _ (own_ne HOV_16.out HBv2_16.out (by decide) g hg))
  have HOF_17 : Hid ((w17).ownsRow w.heap.size 132 2 (.slice oF n3 pF) n3 (flatF fs)) := by show World.ownsRow _ _ _ _ _ _ _; rw [hW17]; exact owns_same HOF_16.out (fun g hg => heap_setCell_other _ _ g _ (own_ne HOF_16.out HBv2_16.out (by decide) g hg))
  have HBv1_17 : Hid ((w17).heap[qv1]? = some (.cells #[.string p, .slice a1 n1 c1, .slice a2 n2 c2, .int .i64 st, .slice a3 n3 c3, .string b, .int .i64 t] 104)) := by show _ = _; rw [hW17, heap_setCell_other _ _ _ _ HNv1v2.out]; exact HBv1_16.out
  have HBv3_17 : Hid ((w17).heap[qv3]? = some (.cells #[.string p, .slice oN n1 pN, .slice oV n2 pV, .int .i64 st, .slice oF n3 pF, .string b, .int .i64 t] 50)) := by show _ = _; rw [hW17, heap_setCell_other _ _ _ _ HNv2v3.out.symm]; exact HBv3_16.out
  have HBv2_17 : Hid ((w17).heap[qv2]? = some (.cells #[.string p, .slice oN n1 pN, .slice oV n2 pV, .int .i64 st, .slice none 0 0, .string ⟨#[]⟩, .int .i64 0] 50)) := by show _ = _; rw [hW17]; have h := heap_set _ _ 3 _ _ _ (.int .i64 st) HBv2_16.out; simpa using h
  clear hb16 HON_16 HOV_16 HOF_16 HBv1_16 HBv2_16 HBv3_16 hW17
  obtain ⟨w18, hW18⟩ : ∃ W, W = (w17).setCell ⟨qv2, 4, none⟩ (.slice oF n3 pF) := ⟨_, rfl⟩
  rw [← hW18]
  have hb18 : Below w.heap.size w (w18) := by rw [hW18]; exact (hb17.setCell (p := ⟨qv2, 4, none⟩) HGv2.out _)
  have HON_18 : Hid ((w18).ownsRow w.heap.size 9 1 (.slice oN n1 pN) n1 (xs.map Value.string)) := by show World.ownsRow _ _ _ _ _ _ _; rw [hW18]; exact owns_same HON_17.out (fun g hg => heap_setCell_other _ _ g _ (own_ne HON_17.out HBv2_17.out (by decide) g hg))
  have HOV_18 : Hid ((w18).ownsRow w.heap.size 9 1 (.slice oV n2 pV) n2 (ys.map Value.string)) := by show World.ownsRow _ _ _ _ _ _ _; rw [hW18]; exact owns_same HOV_17.out (fun g hg => heap_setCell_other _ _ g _ (own_ne HOV_17.out HBv2_17.out (by decide) g hg))
  have HOF_18 : Hid ((w18).ownsRow w.heap.size 132 2 (.slice oF n3 pF) n3 (flatF fs)) := by show World.ownsRow _ _ _ _ _ _ _; rw [hW18]; exact owns_same HOF_17.out (fun g hg => heap_setCell_other _ _ g _ (own_ne HOF_17.out HBv2_17.out (by decide) g hg))
  have HBv1_18 : Hid ((w18).heap[qv1]? = some (.cells #[.string p, .slice a1 n1 c1, .slice a2 n2 c2, .int .i64 st, .slice a3 n3 c3, .string b, .int .i64 t] 104)) := by show _ = _; rw [hW18, heap_setCell_other _ _ _ _ HNv1v2.out]; exact HBv1_17.out
  have HBv3_18 : Hid ((w18).heap[qv3]? = some (.cells #[.string p, .slice oN n1 pN, .slice oV n2 pV, .int .i64 st, .slice oF n3 pF, .string b, .int .i64 t] 50)) := by show _ = _; rw [hW18, heap_setCell_other _ _ _ _ HNv2v3.out.symm]; exact HBv3_17.out
  have HBv2_18 : Hid ((w18).heap[qv2]? = some (.cells #[.string p, .slice oN n1 pN, .slice oV n2 pV, .int .i64 st, .slice oF n3 pF, .string ⟨#[]⟩, .int .i64 0] 50)) := by show _ = _; rw [hW18]; have h := heap_set _ _ 4 _ _ _ (.slice oF n3 pF) HBv2_17.out; simpa using h
  clear hb17 HON_17 HOV_17 HOF_17 HBv1_17 HBv2_17 HBv3_17 hW18
  obtain ⟨w19, hW19⟩ : ∃ W, W = (w18).setCell ⟨qv2, 5, none⟩ (.string b) := ⟨_, rfl⟩
  rw [← hW19]
  have hb19 : Below w.heap.size w (w19) := by rw [hW19]; exact (hb18.setCell (p := ⟨qv2, 5, none⟩) HGv2.out _)
  have HON_19 : Hid ((w19).ownsRow w.heap.size 9 1 (.slice oN n1 pN) n1 (xs.map Value.string)) := by show World.ownsRow _ _ _ _ _ _ _; rw [hW19]; exact owns_same HON_18.out (fun g hg => heap_setCell_other _ _ g _ (own_ne HON_18.out HBv2_18.out (by decide) g hg))
  have HOV_19 : Hid ((w19).ownsRow w.heap.size 9 1 (.slice oV n2 pV) n2 (ys.map Value.string)) := by show World.ownsRow _ _ _ _ _ _ _; rw [hW19]; exact owns_same HOV_18.out (fun g hg => heap_setCell_other _ _ g _ (own_ne HOV_18.out HBv2_18.out (by decide) g hg))
  have HOF_19 : Hid ((w19).ownsRow w.heap.size 132 2 (.slice oF n3 pF) n3 (flatF fs)) := by show World.ownsRow _ _ _ _ _ _ _; rw [hW19]; exact owns_same HOF_18.out (fun g hg => heap_setCell_other _ _ g _ (own_ne HOF_18.out HBv2_18.out (by decide) g hg))
  have HBv1_19 : Hid ((w19).heap[qv1]? = some (.cells #[.string p, .slice a1 n1 c1, .slice a2 n2 c2, .int .i64 st, .slice a3 n3 c3, .string b, .int .i64 t] 104)) := by show _ = _; rw [hW19, heap_setCell_other _ _ _ _ HNv1v2.out]; exact HBv1_18.out
  have HBv3_19 : Hid ((w19).heap[qv3]? = some (.cells #[.string p, .slice oN n1 pN, .slice oV n2 pV, .int .i64 st, .slice oF n3 pF, .string b, .int .i64 t] 50)) := by show _ = _; rw [hW19, heap_setCell_other _ _ _ _ HNv2v3.out.symm]; exact HBv3_18.out
  have HBv2_19 : Hid ((w19).heap[qv2]? = some (.cells #[.string p, .slice oN n1 pN, .slice oV n2 pV, .int .i64 st, .slice oF n3 pF, .string b, .int .i64 0] 50)) := by show _ = _; rw [hW19]; have h := heap_set _ _ 5 _ _ _ (.string b) HBv2_18.out; simpa using h
  clear hb18 HON_18 HOV_18 HOF_18 HBv1_18 HBv2_18 HBv3_18 hW19
  obtain ⟨w20, hW20⟩ : ∃ W, W = (w19).setCell ⟨qv2, 6, none⟩ (.int .i64 t) := ⟨_, rfl⟩
  rw [← hW20]
  have hb20 : Below w.heap.size w (w20) := by rw [hW20]; exact (hb19.setCell (p := ⟨qv2, 6, none⟩) HGv2.out _)
  have HON_20 : Hid ((w20).ownsRow w.heap.size 9 1 (.slice oN n1 pN) n1 (xs.map Value.string)) := by show World.ownsRow _ _ _ _ _ _ _; rw [hW20]; exact owns_same HON_19.out (fun g hg => heap_setCell_other _ _ g _ (own_ne HON_19.out HBv2_19.out (by decide) g hg))
  have HOV_20 : Hid ((w20).ownsRow w.heap.size 9 1 (.slice oV n2 pV) n2 (ys.map Value.string)) := by show World.ownsRow _ _ _ _ _ _ _; rw [hW20]; exact owns_same HOV_19.out (fun g hg => heap_setCell_other _ _ g _ (own_ne HOV_19.out HBv2_19.out (by decide) g hg))
  have HOF_20 : Hid ((w20).ownsRow w.heap.size 132 2 (.slice oF n3 pF) n3 (flatF fs)) := by show World.ownsRow _ _ _ _ _ _ _; rw [hW20]; exact owns_same HOF_19.out (fun g hg => heap_setCell_other _ _ g _ (own_ne HOF_19.out HBv2_19.out (by decide) g hg))
  have HBv1_20 : Hid ((w20).heap[qv1]? = some (.cells #[.string p, .slice a1 n1 c1, .slice a2 n2 c2, .int .i64 st, .slice a3 n3 c3, .string b, .int .i64 t] 104)) := by show _ = _; rw [hW20, heap_setCell_other _ _ _ _ HNv1v2.out]; exact HBv1_19.out
  have HBv3_20 : Hid ((w20).heap[qv3]? = some (.cells #[.string p, .slice oN n1 pN, .slice oV n2 pV, .int .i64 st, .slice oF n3 pF, .string b, .int .i64 t] 50)) := by show _ = _; rw [hW20, heap_setCell_other _ _ _ _ HNv2v3.out.symm]; exact HBv3_19.out
  have HBv2_20 : Hid ((w20).heap[qv2]? = some (.cells #[.string p, .slice oN n1 pN, .slice oV n2 pV, .int .i64 st, .slice oF n3 pF, .string b, .int .i64 t] 50)) := by show _ = _; rw [hW20]; have h := heap_set _ _ 6 _ _ _ (.int .i64 t) HBv2_19.out; simpa using h
  clear hb19 HON_19 HOV_19 HOF_19 HBv1_19 HBv2_19 HBv3_19 hW20
  have kv2_0 : (w20).cell? ⟨qv2, 0, none⟩ = some (.string p) := (cell_of HBv2_20.out 0).trans rfl
  have kv2_1 : (w20).cell? ⟨qv2, 1, none⟩ = some (.slice oN n1 pN) := (cell_of HBv2_20.out 1).trans rfl
  have kv2_2 : (w20).cell? ⟨qv2, 2, none⟩ = some (.slice oV n2 pV) := (cell_of HBv2_20.out 2).trans rfl
  have kv2_3 : (w20).cell? ⟨qv2, 3, none⟩ = some (.int .i64 st) := (cell_of HBv2_20.out 3).trans rfl
  have kv2_4 : (w20).cell? ⟨qv2, 4, none⟩ = some (.slice oF n3 pF) := (cell_of HBv2_20.out 4).trans rfl
  have kv2_5 : (w20).cell? ⟨qv2, 5, none⟩ = some (.string b) := (cell_of HBv2_20.out 5).trans rfl
  have kv2_6 : (w20).cell? ⟨qv2, 6, none⟩ = some (.int .i64 t) := (cell_of HBv2_20.out 6).trans rfl
  refine bodyPost_ret (v := .agg #[.string p, .slice oN n1 pN, .slice oV n2 pV, .int .i64 st, .slice oF n3 pF, .string b, .int .i64 t]) (by simp [results, Tryz.results105, go_sem, kv2_0, kv2_1, kv2_2, kv2_3, kv2_4, kv2_5, kv2_6]) rfl ?_
  exact ⟨_, _, _, rfl, ⟨HON_20.out, HOV_20.out, HOF_20.out, fun g hg e => by have h1 := LOV.out g e; have h2 := HIN.out g hg; have := HM6.out; have := HM7.out; omega⟩, hb20⟩

theorem argUp {w : World} {B B' : Nat} {a : Option Addr} {n : Nat} {fs : List (ByteArray × ByteArray)} (h : ArgF w B a n fs) (hB : B ≤ B') : ArgF w B' a n fs :=
  ⟨h.len, fun i hi => by
    obtain ⟨b, off, h1, h2, h3⟩ := h.get i hi
    exact ⟨b, off, h1, Nat.lt_of_lt_of_le h2 hB, h3⟩⟩
/-- An object's measure: negative, or the room that is left of L. -/
def SzObj (L : Int) (p : ByteArray) (n1 : Nat) (xs : List ByteArray) (n2 : Nat) (ys : List ByteArray) (n3 : Nat) (fs : List (ByteArray × ByteArray)) (b : ByteArray) (w : World) (e : Ending) (w' : World) : Prop :=
  ∃ r : Int, e = .returned (.int .i64 r) ∧ r ≤ L ∧ (0 ≤ r → r + (n1 : Int) + (n2 : Int) + (n3 : Int) ≤ L ∧ (p.size ≤ 1048576 ∧ b.size ≤ 1048576) ∧ (n1 ≤ 1048576 ∧ ∀ i, i < n1 → (textAt xs i).size ≤ 1048576) ∧ (n2 ≤ 1048576 ∧ ∀ i, i < n2 → (textAt ys i).size ≤ 1048576) ∧ n3 ≤ 1048576 ∧ szTo fs n3 ≤ 1048576) ∧ Below w.heap.size w w'

set_option maxHeartbeats 4000000 in
set_option maxRecDepth 100000 in
theorem szObj_any (L : Int) (hL0 : 0 ≤ L) (hL1 : L ≤ 1048576) (p : ByteArray) (a1 : Option Addr) (n1 c1 : Nat) (xs : List ByteArray) (a2 : Option Addr) (n2 c2 : Nat) (ys : List ByteArray) (st : Int) (a3 : Option Addr) (n3 c3 : Nat) (fs : List (ByteArray × ByteArray)) (b : ByteArray) (t : Int) (B : Nat) (w : World) (h1 : ArgT w B a1 n1 xs) (h2 : ArgT w B a2 n2 ys) (h3 : ArgF w B a3 n3 fs) (hB : B ≤ w.heap.size) (hn1 : n1 ≤ maxLen) (hn2 : n2 ≤ maxLen) (hn3 : n3 ≤ maxLen) (hs1 : ∀ i, i < n1 → (textAt xs i).size ≤ maxLen) (hs2 : ∀ i, i < n2 → (textAt ys i).size ≤ maxLen) (hs3 : WalkF n3 fs) (hp : p.size ≤ maxLen) (hx : b.size ≤ maxLen) :
    Calls Tryz.prog 98 #[.agg #[.string p, .slice a1 n1 c1, .slice a2 n2 c2, .int .i64 st, .slice a3 n3 c3, .string b, .int .i64 t], .int .i64 L] w fun e w' => SzObj L p n1 xs n2 ys n3 fs b w e w' := by
  have HA1 : Hid (∀ W, Below w.heap.size w W → ArgT W B a1 n1 xs) := fun W h => h1.below (h.mono hB)
  have HA2 : Hid (∀ W, Below w.heap.size w W → ArgT W B a2 n2 ys) := fun W h => h2.below (h.mono hB)
  have HA3 : Hid (∀ W, Below w.heap.size w W → ArgF W B a3 n3 fs) := fun W h => h3.below (h.mono hB)
  have HBB : Hid (∀ W, Below w.heap.size w W → B ≤ W.heap.size) := fun W h => Nat.le_trans hB h.size
  clear h1 h2 h3
  have HN1 : Hid (n1 ≤ maxLen) := hn1
  have HN2 : Hid (n2 ≤ maxLen) := hn2
  have HN3 : Hid (n3 ≤ maxLen) := hn3
  have HS1 : Hid (∀ i, i < n1 → (textAt xs i).size ≤ maxLen) := hs1
  have HS2 : Hid (∀ i, i < n2 → (textAt ys i).size ≤ maxLen) := hs2
  have HS3 : Hid (WalkF n3 fs) := hs3
  have HX : Hid (b.size ≤ maxLen) := hx
  unfold maxLen at hp
  clear hs1 hs2 hs3 hn1 hn2 hn3 hx
  have hb0 : Below w.heap.size w w := Below.refl _ _
  go_enter Tryz.func98, Tryz.ntmps98
  go_upto_region 1 with fail
  obtain ⟨qv1, hqv1⟩ : ∃ q, q = (w).heap.size := ⟨_, rfl⟩
  obtain ⟨w1, hW1⟩ : ∃ W, W = (w).alloc (.cells #[.string p, .slice a1 n1 c1, .slice a2 n2 c2, .int .i64 st, .slice a3 n3 c3, .string b, .int .i64 t] 104) := ⟨_, rfl⟩
  have hz1 : (w).heap.size = qv1 := hqv1.symm
  first | rw [← hW1, ← hqv1] | rw [← hW1]
  have hs1 : w1.heap.size = qv1 + 1 := by rw [hW1, ← hz1]; simp
  have bw : Below (w).heap.size (w) w1 := by rw [hW1]; exact (Below.refl _ _).alloc (Nat.le_refl _) _
  have hb1 : Below w.heap.size w (w1) := hb0.trans (bw.mono hb0.size)
  have HBv1_1 : Hid ((w1).heap[qv1]? = some (.cells #[.string p, .slice a1 n1 c1, .slice a2 n2 c2, .int .i64 st, .slice a3 n3 c3, .string b, .int .i64 t] 104)) := by show _ = _; rw [hW1, ← hz1]; exact heap_alloc_new _ _
  clear hb0 bw hW1 hz1
  clear hs1 hqv1
  have cv1_0 : (w1).cell? ⟨qv1, 0, none⟩ = some (.string p) := (cell_of HBv1_1.out 0).trans rfl
  by_cases hc1 : (L - (p.size : Int)) < 0
  · go_wp2_with fail
    go_ret
    exact ⟨-1, rfl, by omega, fun h => absurd h (by omega), hb1⟩
  · have cv1_1 : (w1).cell? ⟨qv1, 1, none⟩ = some (.slice a1 n1 c1) := (cell_of HBv1_1.out 1).trans rfl
    go_wp2_with fail
    refine (szStringS_exact (L - (p.size : Int)) (by omega) (by omega) B a1 n1 c1 xs _ (HA1.out _ hb1) (HBB.out _ hb1) HN1.out HS1.out).mono ?_
    rintro e w2 ⟨r2, rfl, hlr2, hrr2, bw⟩
    have hb2 : Below w.heap.size w (w2) := hb1.trans (bw.mono hb1.size)
    have HBv1_2 : Hid ((w2).heap[qv1]? = some (.cells #[.string p, .slice a1 n1 c1, .slice a2 n2 c2, .int .i64 st, .slice a3 n3 c3, .string b, .int .i64 t] 104)) := blk_below HBv1_1.out bw
    clear hb1 HBv1_1 bw
    clear cv1_0 cv1_1
    by_cases hc3 : r2 < 0
    · clear hrr2
      go_wp2_with fail
      go_ret
      exact ⟨-1, rfl, by omega, fun h => absurd h (by omega), hb2⟩
    · obtain ⟨her2, hnr2, hzr2⟩ := hrr2 (by omega)
      have HZr2 := (show Hid _ from hzr2)
      clear hrr2 hzr2
      have cv1_2 : (w2).cell? ⟨qv1, 2, none⟩ = some (.slice a2 n2 c2) := (cell_of HBv1_2.out 2).trans rfl
      go_wp2_with fail
      refine (szStringS_exact r2 (by omega) (by omega) B a2 n2 c2 ys _ (HA2.out _ hb2) (HBB.out _ hb2) HN2.out HS2.out).mono ?_
      rintro e w3 ⟨r4, rfl, hlr4, hrr4, bw⟩
      have hb3 : Below w.heap.size w (w3) := hb2.trans (bw.mono hb2.size)
      have HBv1_3 : Hid ((w3).heap[qv1]? = some (.cells #[.string p, .slice a1 n1 c1, .slice a2 n2 c2, .int .i64 st, .slice a3 n3 c3, .string b, .int .i64 t] 104)) := blk_below HBv1_2.out bw
      clear hb2 HBv1_2 bw
      clear cv1_2
      by_cases hc5 : r4 < 0
      · clear hrr4
        go_wp2_with fail
        go_ret
        exact ⟨-1, rfl, by omega, fun h => absurd h (by omega), hb3⟩
      · obtain ⟨her4, hnr4, hzr4⟩ := hrr4 (by omega)
        have HZr4 := (show Hid _ from hzr4)
        clear hrr4 hzr4
        have cv1_3 : (w3).cell? ⟨qv1, 3, none⟩ = some (.int .i64 st) := (cell_of HBv1_3.out 3).trans rfl
        have cv1_4 : (w3).cell? ⟨qv1, 4, none⟩ = some (.slice a3 n3 c3) := (cell_of HBv1_3.out 4).trans rfl
        have cv1_5 : (w3).cell? ⟨qv1, 5, none⟩ = some (.string b) := (cell_of HBv1_3.out 5).trans rfl
        go_wp2_with fail
        refine (szResp_room r4 (by omega) (by omega) st a3 n3 c3 b fs _ (argUp (HA3.out _ hb3) (HBB.out _ hb3)) HN3.out HS3.out HX.out).mono ?_
        rintro e w4 ⟨r6, rfl, hlr6, hrr6, bw⟩
        have hb4 : Below w.heap.size w (w4) := hb3.trans (bw.mono hb3.size)
        have HBv1_4 : Hid ((w4).heap[qv1]? = some (.cells #[.string p, .slice a1 n1 c1, .slice a2 n2 c2, .int .i64 st, .slice a3 n3 c3, .string b, .int .i64 t] 104)) := blk_below HBv1_3.out bw
        clear hb3 HBv1_3 bw
        clear cv1_3 cv1_4 cv1_5
        by_cases hc7 : r6 < 0
        · clear hrr6
          go_wp2_with fail
          go_ret
          exact ⟨-1, rfl, by omega, fun h => absurd h (by omega), hb4⟩
        · obtain ⟨her6, hxr6, hnr6, hzr6⟩ := hrr6 (by omega)
          clear hrr6
          go_wp2_with fail
          go_ret
          exact ⟨_, rfl, by omega, fun _ => ⟨by omega, ⟨by omega, by omega⟩, ⟨by omega, HZr2.out⟩, ⟨by omega, HZr4.out⟩, by omega, by omega⟩, hb4⟩

set_option maxHeartbeats 4000000 in
set_option maxRecDepth 100000 in
theorem eqObj_any (p : ByteArray) (n1 : Nat) (xs : List ByteArray) (n2 : Nat) (ys : List ByteArray) (st : Int) (n3 : Nat) (fs : List (ByteArray × ByteArray)) (b : ByteArray) (t : Int) (v1 v2 v3 u1 u2 u3 : Value) (B1 B2 : Nat) (w : World) (hx : ObjO w B1 v1 n1 xs v2 n2 ys v3 n3 fs) (hy : ObjO w B2 u1 n1 xs u2 n2 ys u3 n3 fs) (hn1 : n1 ≤ 2000000) (hn2 : n2 ≤ 2000000) (hn3 : n3 ≤ 2000000) :
    Calls Tryz.prog 14 #[.agg #[.string p, v1, v2, .int .i64 st, v3, .string b, .int .i64 t], .agg #[.string p, u1, u2, .int .i64 st, u3, .string b, .int .i64 t]] w fun e w' => e = .returned (.bool true) ∧ Below w.heap.size w w' := by
  obtain ⟨oNx, pNx, rfl⟩ := slice_of_owns hx.names
  obtain ⟨oVx, pVx, rfl⟩ := slice_of_owns hx.vals
  obtain ⟨oFx, pFx, rfl⟩ := slice_of_owns hx.flds
  have HONx_0 : Hid ((w).ownsRow B1 9 1 (.slice oNx n1 pNx) n1 (xs.map Value.string)) := hx.names
  have HOVx_0 : Hid ((w).ownsRow B1 9 1 (.slice oVx n2 pVx) n2 (ys.map Value.string)) := hx.vals
  have HOFx_0 : Hid ((w).ownsRow B1 132 2 (.slice oFx n3 pFx) n3 (flatF fs)) := hx.flds
  clear hx
  obtain ⟨oNy, pNy, rfl⟩ := slice_of_owns hy.names
  obtain ⟨oVy, pVy, rfl⟩ := slice_of_owns hy.vals
  obtain ⟨oFy, pFy, rfl⟩ := slice_of_owns hy.flds
  have HONy_0 : Hid ((w).ownsRow B2 9 1 (.slice oNy n1 pNy) n1 (xs.map Value.string)) := hy.names
  have HOVy_0 : Hid ((w).ownsRow B2 9 1 (.slice oVy n2 pVy) n2 (ys.map Value.string)) := hy.vals
  have HOFy_0 : Hid ((w).ownsRow B2 132 2 (.slice oFy n3 pFy) n3 (flatF fs)) := hy.flds
  clear hy
  have hpp : (p.toList != p.toList) = false := by simp
  have htt : (t != t) = false := by simp
  have hb0 : Below w.heap.size w w := Below.refl _ _
  go_enter Tryz.func14, Tryz.ntmps14
  go_upto_region 1 with fail
  obtain ⟨qv1, hqv1⟩ : ∃ q, q = (w).heap.size := ⟨_, rfl⟩
  obtain ⟨w1, hW1⟩ : ∃ W, W = (w).alloc (.cells #[.string p, .slice oNx n1 pNx, .slice oVx n2 pVx, .int .i64 st, .slice oFx n3 pFx, .string b, .int .i64 t] 50) := ⟨_, rfl⟩
  have hz1 : (w).heap.size = qv1 := hqv1.symm
  first | rw [← hW1, ← hqv1] | rw [← hW1]
  have hs1 : w1.heap.size = qv1 + 1 := by rw [hW1, ← hz1]; simp
  have bw : Below (w).heap.size (w) w1 := by rw [hW1]; exact (Below.refl _ _).alloc (Nat.le_refl _) _
  have hb1 : Below w.heap.size w (w1) := hb0.trans (bw.mono hb0.size)
  have HONx_1 : Hid ((w1).ownsRow B1 9 1 (.slice oNx n1 pNx) n1 (xs.map Value.string)) := owns_below HONx_0.out bw (fun g hg => owns_lt HONx_0.out hg)
  have HOVx_1 : Hid ((w1).ownsRow B1 9 1 (.slice oVx n2 pVx) n2 (ys.map Value.string)) := owns_below HOVx_0.out bw (fun g hg => owns_lt HOVx_0.out hg)
  have HOFx_1 : Hid ((w1).ownsRow B1 132 2 (.slice oFx n3 pFx) n3 (flatF fs)) := owns_below HOFx_0.out bw (fun g hg => owns_lt HOFx_0.out hg)
  have HONy_1 : Hid ((w1).ownsRow B2 9 1 (.slice oNy n1 pNy) n1 (xs.map Value.string)) := owns_below HONy_0.out bw (fun g hg => owns_lt HONy_0.out hg)
  have HOVy_1 : Hid ((w1).ownsRow B2 9 1 (.slice oVy n2 pVy) n2 (ys.map Value.string)) := owns_below HOVy_0.out bw (fun g hg => owns_lt HOVy_0.out hg)
  have HOFy_1 : Hid ((w1).ownsRow B2 132 2 (.slice oFy n3 pFy) n3 (flatF fs)) := owns_below HOFy_0.out bw (fun g hg => owns_lt HOFy_0.out hg)
  have HBv1_1 : Hid ((w1).heap[qv1]? = some (.cells #[.string p, .slice oNx n1 pNx, .slice oVx n2 pVx, .int .i64 st, .slice oFx n3 pFx, .string b, .int .i64 t] 50)) := by show _ = _; rw [hW1, ← hz1]; exact heap_alloc_new _ _
  clear hb0 HONx_0 HOVx_0 HOFx_0 HONy_0 HOVy_0 HOFy_0 bw hW1 hz1
  obtain ⟨qv2, hqv2⟩ : ∃ q, q = qv1 + 1 := ⟨_, rfl⟩
  obtain ⟨w2, hW2⟩ : ∃ W, W = (w1).alloc (.cells #[.string p, .slice oNy n1 pNy, .slice oVy n2 pVy, .int .i64 st, .slice oFy n3 pFy, .string b, .int .i64 t] 50) := ⟨_, rfl⟩
  have hz2 : (w1).heap.size = qv2 := by rw [hqv2]; exact hs1
  first | rw [← hW2, ← hqv2] | rw [← hW2]
  have hs2 : w2.heap.size = qv2 + 1 := by rw [hW2, ← hz2]; simp
  have bw : Below (w1).heap.size (w1) w2 := by rw [hW2]; exact (Below.refl _ _).alloc (Nat.le_refl _) _
  have hb2 : Below w.heap.size w (w2) := hb1.trans (bw.mono hb1.size)
  have HONx_2 : Hid ((w2).ownsRow B1 9 1 (.slice oNx n1 pNx) n1 (xs.map Value.string)) := owns_below HONx_1.out bw (fun g hg => owns_lt HONx_1.out hg)
  have HOVx_2 : Hid ((w2).ownsRow B1 9 1 (.slice oVx n2 pVx) n2 (ys.map Value.string)) := owns_below HOVx_1.out bw (fun g hg => owns_lt HOVx_1.out hg)
  have HOFx_2 : Hid ((w2).ownsRow B1 132 2 (.slice oFx n3 pFx) n3 (flatF fs)) := owns_below HOFx_1.out bw (fun g hg => owns_lt HOFx_1.out hg)
  have HONy_2 : Hid ((w2).ownsRow B2 9 1 (.slice oNy n1 pNy) n1 (xs.map Value.string)) := owns_below HONy_1.out bw (fun g hg => owns_lt HONy_1.out hg)
  have HOVy_2 : Hid ((w2).ownsRow B2 9 1 (.slice oVy n2 pVy) n2 (ys.map Value.string)) := owns_below HOVy_1.out bw (fun g hg => owns_lt HOVy_1.out hg)
  have HOFy_2 : Hid ((w2).ownsRow B2 132 2 (.slice oFy n3 pFy) n3 (flatF fs)) := owns_below HOFy_1.out bw (fun g hg => owns_lt HOFy_1.out hg)
  have HBv1_2 : Hid ((w2).heap[qv1]? = some (.cells #[.string p, .slice oNx n1 pNx, .slice oVx n2 pVx, .int .i64 st, .slice oFx n3 pFx, .string b, .int .i64 t] 50)) := blk_below HBv1_1.out bw
  have HBv2_2 : Hid ((w2).heap[qv2]? = some (.cells #[.string p, .slice oNy n1 pNy, .slice oVy n2 pVy, .int .i64 st, .slice oFy n3 pFy, .string b, .int .i64 t] 50)) := by show _ = _; rw [hW2, ← hz2]; exact heap_alloc_new _ _
  clear hb1 HONx_1 HOVx_1 HOFx_1 HONy_1 HOVy_1 HOFy_1 HBv1_1 bw hW2 hz2
  clear hs2 hqv2 hs1 hqv1
  have cv1_0 : (w2).cell? ⟨qv1, 0, none⟩ = some (.string p) := (cell_of HBv1_2.out 0).trans rfl
  have cv2_0 : (w2).cell? ⟨qv2, 0, none⟩ = some (.string p) := (cell_of HBv2_2.out 0).trans rfl
  have cv1_1 : (w2).cell? ⟨qv1, 1, none⟩ = some (.slice oNx n1 pNx) := (cell_of HBv1_2.out 1).trans rfl
  have cv2_1 : (w2).cell? ⟨qv2, 1, none⟩ = some (.slice oNy n1 pNy) := (cell_of HBv2_2.out 1).trans rfl
  go_wp2_with fail
  refine (eqS_any _ _ n1 _ _ xs _ HONx_2.out HONy_2.out (by omega)).mono ?_
  rintro e w3 ⟨rfl, bw⟩
  have hb3 : Below w.heap.size w (w3) := hb2.trans (bw.mono hb2.size)
  have HONx_3 : Hid ((w3).ownsRow B1 9 1 (.slice oNx n1 pNx) n1 (xs.map Value.string)) := owns_below HONx_2.out bw (fun g hg => owns_lt HONx_2.out hg)
  have HOVx_3 : Hid ((w3).ownsRow B1 9 1 (.slice oVx n2 pVx) n2 (ys.map Value.string)) := owns_below HOVx_2.out bw (fun g hg => owns_lt HOVx_2.out hg)
  have HOFx_3 : Hid ((w3).ownsRow B1 132 2 (.slice oFx n3 pFx) n3 (flatF fs)) := owns_below HOFx_2.out bw (fun g hg => owns_lt HOFx_2.out hg)
  have HONy_3 : Hid ((w3).ownsRow B2 9 1 (.slice oNy n1 pNy) n1 (xs.map Value.string)) := owns_below HONy_2.out bw (fun g hg => owns_lt HONy_2.out hg)
  have HOVy_3 : Hid ((w3).ownsRow B2 9 1 (.slice oVy n2 pVy) n2 (ys.map Value.string)) := owns_below HOVy_2.out bw (fun g hg => owns_lt HOVy_2.out hg)
  have HOFy_3 : Hid ((w3).ownsRow B2 132 2 (.slice oFy n3 pFy) n3 (flatF fs)) := owns_below HOFy_2.out bw (fun g hg => owns_lt HOFy_2.out hg)
  have HBv1_3 : Hid ((w3).heap[qv1]? = some (.cells #[.string p, .slice oNx n1 pNx, .slice oVx n2 pVx, .int .i64 st, .slice oFx n3 pFx, .string b, .int .i64 t] 50)) := blk_below HBv1_2.out bw
  have HBv2_3 : Hid ((w3).heap[qv2]? = some (.cells #[.string p, .slice oNy n1 pNy, .slice oVy n2 pVy, .int .i64 st, .slice oFy n3 pFy, .string b, .int .i64 t] 50)) := blk_below HBv2_2.out bw
  clear hb2 HONx_2 HOVx_2 HOFx_2 HONy_2 HOVy_2 HOFy_2 HBv1_2 HBv2_2 bw
  clear cv1_0 cv2_0 cv1_1 cv2_1
  have cv1_2 : (w3).cell? ⟨qv1, 2, none⟩ = some (.slice oVx n2 pVx) := (cell_of HBv1_3.out 2).trans rfl
  have cv2_2 : (w3).cell? ⟨qv2, 2, none⟩ = some (.slice oVy n2 pVy) := (cell_of HBv2_3.out 2).trans rfl
  go_wp2_with fail
  refine (eqS_any _ _ n2 _ _ ys _ HOVx_3.out HOVy_3.out (by omega)).mono ?_
  rintro e w4 ⟨rfl, bw⟩
  have hb4 : Below w.heap.size w (w4) := hb3.trans (bw.mono hb3.size)
  have HONx_4 : Hid ((w4).ownsRow B1 9 1 (.slice oNx n1 pNx) n1 (xs.map Value.string)) := owns_below HONx_3.out bw (fun g hg => owns_lt HONx_3.out hg)
  have HOVx_4 : Hid ((w4).ownsRow B1 9 1 (.slice oVx n2 pVx) n2 (ys.map Value.string)) := owns_below HOVx_3.out bw (fun g hg => owns_lt HOVx_3.out hg)
  have HOFx_4 : Hid ((w4).ownsRow B1 132 2 (.slice oFx n3 pFx) n3 (flatF fs)) := owns_below HOFx_3.out bw (fun g hg => owns_lt HOFx_3.out hg)
  have HONy_4 : Hid ((w4).ownsRow B2 9 1 (.slice oNy n1 pNy) n1 (xs.map Value.string)) := owns_below HONy_3.out bw (fun g hg => owns_lt HONy_3.out hg)
  have HOVy_4 : Hid ((w4).ownsRow B2 9 1 (.slice oVy n2 pVy) n2 (ys.map Value.string)) := owns_below HOVy_3.out bw (fun g hg => owns_lt HOVy_3.out hg)
  have HOFy_4 : Hid ((w4).ownsRow B2 132 2 (.slice oFy n3 pFy) n3 (flatF fs)) := owns_below HOFy_3.out bw (fun g hg => owns_lt HOFy_3.out hg)
  have HBv1_4 : Hid ((w4).heap[qv1]? = some (.cells #[.string p, .slice oNx n1 pNx, .slice oVx n2 pVx, .int .i64 st, .slice oFx n3 pFx, .string b, .int .i64 t] 50)) := blk_below HBv1_3.out bw
  have HBv2_4 : Hid ((w4).heap[qv2]? = some (.cells #[.string p, .slice oNy n1 pNy, .slice oVy n2 pVy, .int .i64 st, .slice oFy n3 pFy, .string b, .int .i64 t] 50)) := blk_below HBv2_3.out bw
  clear hb3 HONx_3 HOVx_3 HOFx_3 HONy_3 HOVy_3 HOFy_3 HBv1_3 HBv2_3 bw
  clear cv1_2 cv2_2
  have cv1_3 : (w4).cell? ⟨qv1, 3, none⟩ = some (.int .i64 st) := (cell_of HBv1_4.out 3).trans rfl
  have cv1_4 : (w4).cell? ⟨qv1, 4, none⟩ = some (.slice oFx n3 pFx) := (cell_of HBv1_4.out 4).trans rfl
  have cv1_5 : (w4).cell? ⟨qv1, 5, none⟩ = some (.string b) := (cell_of HBv1_4.out 5).trans rfl
  have cv2_3 : (w4).cell? ⟨qv2, 3, none⟩ = some (.int .i64 st) := (cell_of HBv2_4.out 3).trans rfl
  have cv2_4 : (w4).cell? ⟨qv2, 4, none⟩ = some (.slice oFy n3 pFy) := (cell_of HBv2_4.out 4).trans rfl
  have cv2_5 : (w4).cell? ⟨qv2, 5, none⟩ = some (.string b) := (cell_of HBv2_4.out 5).trans rfl
  go_wp2_with fail
  refine (eqResp_any st _ _ b n3 _ _ fs _ (FieldsV.of_owns HOFx_4.out) (FieldsV.of_owns HOFy_4.out) (by omega)).mono ?_
  rintro e w5 ⟨rfl, bw⟩
  have hb5 : Below w.heap.size w (w5) := hb4.trans (bw.mono hb4.size)
  have HONx_5 : Hid ((w5).ownsRow B1 9 1 (.slice oNx n1 pNx) n1 (xs.map Value.string)) := owns_below HONx_4.out bw (fun g hg => owns_lt HONx_4.out hg)
  have HOVx_5 : Hid ((w5).ownsRow B1 9 1 (.slice oVx n2 pVx) n2 (ys.map Value.string)) := owns_below HOVx_4.out bw (fun g hg => owns_lt HOVx_4.out hg)
  have HOFx_5 : Hid ((w5).ownsRow B1 132 2 (.slice oFx n3 pFx) n3 (flatF fs)) := owns_below HOFx_4.out bw (fun g hg => owns_lt HOFx_4.out hg)
  have HONy_5 : Hid ((w5).ownsRow B2 9 1 (.slice oNy n1 pNy) n1 (xs.map Value.string)) := owns_below HONy_4.out bw (fun g hg => owns_lt HONy_4.out hg)
  have HOVy_5 : Hid ((w5).ownsRow B2 9 1 (.slice oVy n2 pVy) n2 (ys.map Value.string)) := owns_below HOVy_4.out bw (fun g hg => owns_lt HOVy_4.out hg)
  have HOFy_5 : Hid ((w5).ownsRow B2 132 2 (.slice oFy n3 pFy) n3 (flatF fs)) := owns_below HOFy_4.out bw (fun g hg => owns_lt HOFy_4.out hg)
  have HBv1_5 : Hid ((w5).heap[qv1]? = some (.cells #[.string p, .slice oNx n1 pNx, .slice oVx n2 pVx, .int .i64 st, .slice oFx n3 pFx, .string b, .int .i64 t] 50)) := blk_below HBv1_4.out bw
  have HBv2_5 : Hid ((w5).heap[qv2]? = some (.cells #[.string p, .slice oNy n1 pNy, .slice oVy n2 pVy, .int .i64 st, .slice oFy n3 pFy, .string b, .int .i64 t] 50)) := blk_below HBv2_4.out bw
  clear hb4 HONx_4 HOVx_4 HOFx_4 HONy_4 HOVy_4 HOFy_4 HBv1_4 HBv2_4 bw
  clear cv1_3 cv1_4 cv1_5 cv2_3 cv2_4 cv2_5
  have cv1_6 : (w5).cell? ⟨qv1, 6, none⟩ = some (.int .i64 t) := (cell_of HBv1_5.out 6).trans rfl
  have cv2_6 : (w5).cell? ⟨qv2, 6, none⟩ = some (.int .i64 t) := (cell_of HBv2_5.out 6).trans rfl
  go_wp2_with fail
  go_ret
  exact ⟨rfl, hb5⟩

end Go.Proofs.YtcipbkkpkhameaaGreat

namespace Go.Proofs.YtcipbkkpkhameaaGreat
open Go.RowKit
open Go.Lib hiding intOf

set_option maxHeartbeats 8000000 in
set_option maxRecDepth 100000 in
theorem toKept_any (p : ByteArray) (a1 : Option Addr) (n1 c1 : Nat) (xs : List ByteArray) (a2 : Option Addr) (n2 c2 : Nat) (ys : List ByteArray) (st : Int) (a3 : Option Addr) (n3 c3 : Nat) (fs : List (ByteArray × ByteArray)) (b : ByteArray) (t ka kq : Int) (B : Nat) (w : World) (h1 : ArgT w B a1 n1 xs) (h2 : ArgT w B a2 n2 ys) (h3 : ArgF w B a3 n3 fs) (hB : B ≤ w.heap.size) (hn1 : n1 ≤ 1048576) (hn2 : n2 ≤ 1048576) (hn3 : n3 ≤ 1048576) :
    Calls Tryz.prog 70 #[.agg #[.string p, .slice a1 n1 c1, .slice a2 n2 c2, .int .i64 st, .slice a3 n3 c3, .string b, .int .i64 t, .int .i64 ka, .int .i64 kq]] w fun e w' => ∃ v1 v2 v3, e = .returned (.agg #[.string p, v1, v2, .int .i64 st, v3, .string b, .int .i64 t, .int .i64 ka, .int .i64 kq]) ∧ ObjO w' w.heap.size v1 n1 xs v2 n2 ys v3 n3 fs ∧ Below w.heap.size w w' := by
  have HA1 : Hid (∀ W, Below w.heap.size w W → ArgT W B a1 n1 xs) := fun W h => h1.below (h.mono hB)
  have HA2 : Hid (∀ W, Below w.heap.size w W → ArgT W B a2 n2 ys) := fun W h => h2.below (h.mono hB)
  have HA3 : Hid (∀ W, Below w.heap.size w W → ArgF W B a3 n3 fs) := fun W h => h3.below (h.mono hB)
  have HBB : Hid (∀ W, Below w.heap.size w W → B ≤ W.heap.size) := fun W h => Nat.le_trans hB h.size
  clear h1 h2 h3
  have hb0 : Below w.heap.size w w := Below.refl _ _
  go_enter Tryz.func70, Tryz.ntmps70
  go_upto_region 1 with fail
  obtain ⟨qv1, hqv1⟩ : ∃ q, q = (w).heap.size := ⟨_, rfl⟩
  obtain ⟨w1, hW1⟩ : ∃ W, W = (w).alloc (.cells #[.string p, .slice a1 n1 c1, .slice a2 n2 c2, .int .i64 st, .slice a3 n3 c3, .string b, .int .i64 t, .int .i64 ka, .int .i64 kq] 106) := ⟨_, rfl⟩
  have hz1 : (w).heap.size = qv1 := hqv1.symm
  first | rw [← hW1, ← hqv1] | rw [← hW1]
  have hs1 : w1.heap.size = qv1 + 1 := by rw [hW1, ← hz1]; simp
  have bw : Below (w).heap.size (w) w1 := by rw [hW1]; exact (Below.refl _ _).alloc (Nat.le_refl _) _
  have hb1 : Below w.heap.size w (w1) := hb0.trans (bw.mono hb0.size)
  have HBv1_1 : Hid ((w1).heap[qv1]? = some (.cells #[.string p, .slice a1 n1 c1, .slice a2 n2 c2, .int .i64 st, .slice a3 n3 c3, .string b, .int .i64 t, .int .i64 ka, .int .i64 kq] 106)) := by show _ = _; rw [hW1, ← hz1]; exact heap_alloc_new _ _
  clear hb0 bw hW1 hz1
  obtain ⟨qv2, hqv2⟩ : ∃ q, q = qv1 + 1 := ⟨_, rfl⟩
  obtain ⟨w2, hW2⟩ : ∃ W, W = (w1).alloc (.cells #[.string ⟨#[]⟩, .slice none 0 0, .slice none 0 0, .int .i64 0, .slice none 0 0, .string ⟨#[]⟩, .int .i64 0, .int .i64 0, .int .i64 0] 71) := ⟨_, rfl⟩
  have hz2 : (w1).heap.size = qv2 := by rw [hqv2]; exact hs1
  first | rw [← hW2, ← hqv2] | rw [← hW2]
  have hs2 : w2.heap.size = qv2 + 1 := by rw [hW2, ← hz2]; simp
  have bw : Below (w1).heap.size (w1) w2 := by rw [hW2]; exact (Below.refl _ _).alloc (Nat.le_refl _) _
  have hb2 : Below w.heap.size w (w2) := hb1.trans (bw.mono hb1.size)
  have HBv1_2 : Hid ((w2).heap[qv1]? = some (.cells #[.string p, .slice a1 n1 c1, .slice a2 n2 c2, .int .i64 st, .slice a3 n3 c3, .string b, .int .i64 t, .int .i64 ka, .int .i64 kq] 106)) := blk_below HBv1_1.out bw
  have HNv1v2 : Hid (qv1 ≠ qv2) := fun e => by have h1 := (Array.getElem?_eq_some_iff.1 HBv1_1.out).1; omega
  have HBv2_2 : Hid ((w2).heap[qv2]? = some (.cells #[.string ⟨#[]⟩, .slice none 0 0, .slice none 0 0, .int .i64 0, .slice none 0 0, .string ⟨#[]⟩, .int .i64 0, .int .i64 0, .int .i64 0] 71)) := by show _ = _; rw [hW2, ← hz2]; exact heap_alloc_new _ _
  have HGv2 : Hid (w.heap.size ≤ qv2) := by show _ ≤ _; rw [← hz2]; exact hb1.size
  clear hb1 HBv1_1 bw hW2 hz2
  clear hs2 hqv2 hs1 hqv1
  go_upto_region 2 with fail
  obtain ⟨qv3, hqv3⟩ : ∃ q, q = (w2).heap.size := ⟨_, rfl⟩
  obtain ⟨w3, hW3⟩ : ∃ W, W = (w2).alloc (.cells #[.string ⟨#[]⟩, .slice none 0 0, .slice none 0 0, .int .i64 0, .slice none 0 0, .string ⟨#[]⟩, .int .i64 0, .int .i64 0, .int .i64 0] 71) := ⟨_, rfl⟩
  have hz3 : (w2).heap.size = qv3 := hqv3.symm
  first | rw [← hW3, ← hqv3] | rw [← hW3]
  have hs3 : w3.heap.size = qv3 + 1 := by rw [hW3, ← hz3]; simp
  have bw : Below (w2).heap.size (w2) w3 := by rw [hW3]; exact (Below.refl _ _).alloc (Nat.le_refl _) _
  have hb3 : Below w.heap.size w (w3) := hb2.trans (bw.mono hb2.size)
  have HBv1_3 : Hid ((w3).heap[qv1]? = some (.cells #[.string p, .slice a1 n1 c1, .slice a2 n2 c2, .int .i64 st, .slice a3 n3 c3, .string b, .int .i64 t, .int .i64 ka, .int .i64 kq] 106)) := blk_below HBv1_2.out bw
  have HBv2_3 : Hid ((w3).heap[qv2]? = some (.cells #[.string ⟨#[]⟩, .slice none 0 0, .slice none 0 0, .int .i64 0, .slice none 0 0, .string ⟨#[]⟩, .int .i64 0, .int .i64 0, .int .i64 0] 71)) := blk_below HBv2_2.out bw
  have HNv1v3 : Hid (qv1 ≠ qv3) := fun e => by have h1 := (Array.getElem?_eq_some_iff.1 HBv1_2.out).1; omega
  have HNv2v3 : Hid (qv2 ≠ qv3) := fun e => by have h1 := (Array.getElem?_eq_some_iff.1 HBv2_2.out).1; omega
  have HBv3_3 : Hid ((w3).heap[qv3]? = some (.cells #[.string ⟨#[]⟩, .slice none 0 0, .slice none 0 0, .int .i64 0, .slice none 0 0, .string ⟨#[]⟩, .int .i64 0, .int .i64 0, .int .i64 0] 71)) := by show _ = _; rw [hW3, ← hz3]; exact heap_alloc_new _ _
  have HGv3 : Hid (w.heap.size ≤ qv3) := by show _ ≤ _; rw [← hz3]; exact hb2.size
  clear hb2 HBv1_2 HBv2_2 bw hW3 hz3
  clear hs3 hqv3
  have cv1_0 : (w3).cell? ⟨qv1, 0, none⟩ = some (.string p) := (cell_of HBv1_3.out 0).trans rfl
  have cv1_1 : (w3).cell? ⟨qv1, 1, none⟩ = some (.slice a1 n1 c1) := (cell_of HBv1_3.out 1).trans rfl
  have cv1_2 : (w3).cell? ⟨qv1, 2, none⟩ = some (.slice a2 n2 c2) := (cell_of HBv1_3.out 2).trans rfl
  have cv1_3 : (w3).cell? ⟨qv1, 3, none⟩ = some (.int .i64 st) := (cell_of HBv1_3.out 3).trans rfl
  have cv1_4 : (w3).cell? ⟨qv1, 4, none⟩ = some (.slice a3 n3 c3) := (cell_of HBv1_3.out 4).trans rfl
  have cv1_5 : (w3).cell? ⟨qv1, 5, none⟩ = some (.string b) := (cell_of HBv1_3.out 5).trans rfl
  have cv1_6 : (w3).cell? ⟨qv1, 6, none⟩ = some (.int .i64 t) := (cell_of HBv1_3.out 6).trans rfl
  go_wp2_with fail
  refine (toObj_any p a1 n1 c1 xs a2 n2 c2 ys st a3 n3 c3 fs b t B _ (HA1.out _ hb3) (HA2.out _ hb3) (HA3.out _ hb3) (HBB.out _ hb3) hn1 hn2 hn3).mono ?_
  rintro e w4 ⟨vv1, vv2, vv3, rfl, ⟨ownN, ownV, ownF, neX⟩, bw⟩
  obtain ⟨oN, pN, rfl⟩ := slice_of_owns ownN
  obtain ⟨oV, pV, rfl⟩ := slice_of_owns ownV
  obtain ⟨oF, pF, rfl⟩ := slice_of_owns ownF
  have APX : Hid (∀ j, (Value.slice oN n1 pN).ownBlock = some j → (Value.slice oV n2 pV).ownBlock ≠ some j) := neX
  clear neX
  have hb4 : Below w.heap.size w (w4) := hb3.trans (bw.mono hb3.size)
  have HBv1_4 : Hid ((w4).heap[qv1]? = some (.cells #[.string p, .slice a1 n1 c1, .slice a2 n2 c2, .int .i64 st, .slice a3 n3 c3, .string b, .int .i64 t, .int .i64 ka, .int .i64 kq] 106)) := blk_below HBv1_3.out bw
  have HBv2_4 : Hid ((w4).heap[qv2]? = some (.cells #[.string ⟨#[]⟩, .slice none 0 0, .slice none 0 0, .int .i64 0, .slice none 0 0, .string ⟨#[]⟩, .int .i64 0, .int .i64 0, .int .i64 0] 71)) := blk_below HBv2_3.out bw
  have HBv3_4 : Hid ((w4).heap[qv3]? = some (.cells #[.string ⟨#[]⟩, .slice none 0 0, .slice none 0 0, .int .i64 0, .slice none 0 0, .string ⟨#[]⟩, .int .i64 0, .int .i64 0, .int .i64 0] 71)) := blk_below HBv3_3.out bw
  have HON_4 : Hid ((w4).ownsRow w.heap.size 9 1 (.slice oN n1 pN) n1 (xs.map Value.string)) := owns_wide ownN hb3.size
  clear ownN
  have HOV_4 : Hid ((w4).ownsRow w.heap.size 9 1 (.slice oV n2 pV) n2 (ys.map Value.string)) := owns_wide ownV hb3.size
  clear ownV
  have HOF_4 : Hid ((w4).ownsRow w.heap.size 132 2 (.slice oF n3 pF) n3 (flatF fs)) := owns_wide ownF hb3.size
  clear ownF
  clear hb3 HBv1_3 HBv2_3 HBv3_3 bw
  clear cv1_0 cv1_1 cv1_2 cv1_3 cv1_4 cv1_5 cv1_6
  have cv3_0 : (w4).cell? ⟨qv3, 0, none⟩ = some (.string ⟨#[]⟩) := (cell_of HBv3_4.out 0).trans rfl
  have fcv3_0 : (w4).frozen? ⟨qv3, 0, none⟩ = false := frozen_of HBv3_4.out 0
  have cv3_1 : (w4).cell? ⟨qv3, 1, none⟩ = some (.slice none 0 0) := (cell_of HBv3_4.out 1).trans rfl
  have fcv3_1 : (w4).frozen? ⟨qv3, 1, none⟩ = false := frozen_of HBv3_4.out 1
  have cv3_2 : (w4).cell? ⟨qv3, 2, none⟩ = some (.slice none 0 0) := (cell_of HBv3_4.out 2).trans rfl
  have fcv3_2 : (w4).frozen? ⟨qv3, 2, none⟩ = false := frozen_of HBv3_4.out 2
  have cv3_3 : (w4).cell? ⟨qv3, 3, none⟩ = some (.int .i64 0) := (cell_of HBv3_4.out 3).trans rfl
  have fcv3_3 : (w4).frozen? ⟨qv3, 3, none⟩ = false := frozen_of HBv3_4.out 3
  have cv3_4 : (w4).cell? ⟨qv3, 4, none⟩ = some (.slice none 0 0) := (cell_of HBv3_4.out 4).trans rfl
  have fcv3_4 : (w4).frozen? ⟨qv3, 4, none⟩ = false := frozen_of HBv3_4.out 4
  have cv3_5 : (w4).cell? ⟨qv3, 5, none⟩ = some (.string ⟨#[]⟩) := (cell_of HBv3_4.out 5).trans rfl
  have fcv3_5 : (w4).frozen? ⟨qv3, 5, none⟩ = false := frozen_of HBv3_4.out 5
  have cv3_6 : (w4).cell? ⟨qv3, 6, none⟩ = some (.int .i64 0) := (cell_of HBv3_4.out 6).trans rfl
  have fcv3_6 : (w4).frozen? ⟨qv3, 6, none⟩ = false := frozen_of HBv3_4.out 6
  go_upto_region 3 with fail
  obtain ⟨w5, hW5⟩ : ∃ W, W = (w4).setCell ⟨qv3, 0, none⟩ (.string p) := ⟨_, rfl⟩
  rw [← hW5]
  have hb5 : Below w.heap.size w (w5) := by rw [hW5]; exact (hb4.setCell (p := ⟨qv3, 0, none⟩) HGv3.out _)
  have HON_5 : Hid ((w5).ownsRow w.heap.size 9 1 (.slice oN n1 pN) n1 (xs.map Value.string)) := by show World.ownsRow _ _ _ _ _ _ _; rw [hW5]; exact owns_same HON_4.out (fun g hg => heap_setCell_other _ _ g _ (own_ne HON_4.out HBv3_4.out (by decide) g hg))
  have HOV_5 : Hid ((w5).ownsRow w.heap.size 9 1 (.slice oV n2 pV) n2 (ys.map Value.string)) := by show World.ownsRow _ _ _ _ _ _ _; rw [hW5]; exact owns_same HOV_4.out (fun g hg => heap_setCell_other _ _ g _ (own_ne HOV_4.out HBv3_4.out (by decide) g hg))
  have HOF_5 : Hid ((w5).ownsRow w.heap.size 132 2 (.slice oF n3 pF) n3 (flatF fs)) := by show World.ownsRow _ _ _ _ _ _ _; rw [hW5]; exact owns_same HOF_4.out (fun g hg => heap_setCell_other _ _ g _ (own_ne HOF_4.out HBv3_4.out (by decide) g hg))
  have HBv1_5 : Hid ((w5).heap[qv1]? = some (.cells #[.string p, .slice a1 n1 c1, .slice a2 n2 c2, .int .i64 st, .slice a3 n3 c3, .string b, .int .i64 t, .int .i64 ka, .int .i64 kq] 106)) := by show _ = _; rw [hW5, heap_setCell_other _ _ _ _ HNv1v3.out]; exact HBv1_4.out
  have HBv2_5 : Hid ((w5).heap[qv2]? = some (.cells #[.string ⟨#[]⟩, .slice none 0 0, .slice none 0 0, .int .i64 0, .slice none 0 0, .string ⟨#[]⟩, .int .i64 0, .int .i64 0, .int .i64 0] 71)) := by show _ = _; rw [hW5, heap_setCell_other _ _ _ _ HNv2v3.out]; exact HBv2_4.out
  have HBv3_5 : Hid ((w5).heap[qv3]? = some (.cells #[.string p, .slice none 0 0, .slice none 0 0, .int .i64 0, .slice none 0 0, .string ⟨#[]⟩, .int .i64 0, .int .i64 0, .int .i64 0] 71)) := by show _ = _; rw [hW5]; have h := heap_set _ _ 0 _ _ _ (.string p) HBv3_4.out; simpa using h
  clear hb4 HON_4 HOV_4 HOF_4 HBv1_4 HBv2_4 HBv3_4 hW5
  obtain ⟨w6, hW6⟩ : ∃ W, W = (w5).setCell ⟨qv3, 1, none⟩ (.slice oN n1 pN) := ⟨_, rfl⟩
  rw [← hW6]
  have hb6 : Below w.heap.size w (w6) := by rw [hW6]; exact (hb5.setCell (p := ⟨qv3, 1, none⟩) HGv3.out _)
  have HON_6 : Hid ((w6).ownsRow w.heap.size 9 1 (.slice oN n1 pN) n1 (xs.map Value.string)) := by show World.ownsRow _ _ _ _ _ _ _; rw [hW6]; exact owns_same HON_5.out (fun g hg => heap_setCell_other _ _ g _ (own_ne HON_5.out HBv3_5.out (by decide) g hg))
  have HOV_6 : Hid ((w6).ownsRow w.heap.size 9 1 (.slice oV n2 pV) n2 (ys.map Value.string)) := by show World.ownsRow _ _ _ _ _ _ _; rw [hW6]; exact owns_same HOV_5.out (fun g hg => heap_setCell_other _ _ g _ (own_ne HOV_5.out HBv3_5.out (by decide) g hg))
  have HOF_6 : Hid ((w6).ownsRow w.heap.size 132 2 (.slice oF n3 pF) n3 (flatF fs)) := by show World.ownsRow _ _ _ _ _ _ _; rw [hW6]; exact owns_same HOF_5.out (fun g hg => heap_setCell_other _ _ g _ (own_ne HOF_5.out HBv3_5.out (by decide) g hg))
  have HBv1_6 : Hid ((w6).heap[qv1]? = some (.cells #[.string p, .slice a1 n1 c1, .slice a2 n2 c2, .int .i64 st, .slice a3 n3 c3, .string b, .int .i64 t, .int .i64 ka, .int .i64 kq] 106)) := by show _ = _; rw [hW6, heap_setCell_other _ _ _ _ HNv1v3.out]; exact HBv1_5.out
  have HBv2_6 : Hid ((w6).heap[qv2]? = some (.cells #[.string ⟨#[]⟩, .slice none 0 0, .slice none 0 0, .int .i64 0, .slice none 0 0, .string ⟨#[]⟩, .int .i64 0, .int .i64 0, .int .i64 0] 71)) := by show _ = _; rw [hW6, heap_setCell_other _ _ _ _ HNv2v3.out]; exact HBv2_5.out
  have HBv3_6 : Hid ((w6).heap[qv3]? = some (.cells #[.string p, .slice oN n1 pN, .slice none 0 0, .int .i64 0, .slice none 0 0, .string ⟨#[]⟩, .int .i64 0, .int .i64 0, .int .i64 0] 71)) := by show _ = _; rw [hW6]; have h := heap_set _ _ 1 _ _ _ (.slice oN n1 pN) HBv3_5.out; simpa using h
  clear hb5 HON_5 HOV_5 HOF_5 HBv1_5 HBv2_5 HBv3_5 hW6
  obtain ⟨w7, hW7⟩ : ∃ W, W = (w6).setCell ⟨qv3, 2, none⟩ (.slice oV n2 pV) := ⟨_, rfl⟩
  rw [← hW7]
  have hb7 : Below w.heap.size w (w7) := by rw [hW7]; exact (hb6.setCell (p := ⟨qv3, 2, none⟩) HGv3.out _)
  have HON_7 : Hid ((w7).ownsRow w.heap.size 9 1 (.slice oN n1 pN) n1 (xs.map Value.string)) := by show World.ownsRow _ _ _ _ _ _ _; rw [hW7]; exact owns_same HON_6.out (fun g hg => heap_setCell_other _ _ g _ (own_ne HON_6.out HBv3_6.out (by decide) g hg))
  have HOV_7 : Hid ((w7).ownsRow w.heap.size 9 1 (.slice oV n2 pV) n2 (ys.map Value.string)) := by show World.ownsRow _ _ _ _ _ _ _; rw [hW7]; exact owns_same HOV_6.out (fun g hg => heap_setCell_other _ _ g _ (own_ne HOV_6.out HBv3_6.out (by decide) g hg))
  have HOF_7 : Hid ((w7).ownsRow w.heap.size 132 2 (.slice oF n3 pF) n3 (flatF fs)) := by show World.ownsRow _ _ _ _ _ _ _; rw [hW7]; exact owns_same HOF_6.out (fun g hg => heap_setCell_other _ _ g _ (own_ne HOF_6.out HBv3_6.out (by decide) g hg))
  have HBv1_7 : Hid ((w7).heap[qv1]? = some (.cells #[.string p, .slice a1 n1 c1, .slice a2 n2 c2, .int .i64 st, .slice a3 n3 c3, .string b, .int .i64 t, .int .i64 ka, .int .i64 kq] 106)) := by show _ = _; rw [hW7, heap_setCell_other _ _ _ _ HNv1v3.out]; exact HBv1_6.out
  have HBv2_7 : Hid ((w7).heap[qv2]? = some (.cells #[.string ⟨#[]⟩, .slice none 0 0, .slice none 0 0, .int .i64 0, .slice none 0 0, .string ⟨#[]⟩, .int .i64 0, .int .i64 0, .int .i64 0] 71)) := by show _ = _; rw [hW7, heap_setCell_other _ _ _ _ HNv2v3.out]; exact HBv2_6.out
  have HBv3_7 : Hid ((w7).heap[qv3]? = some (.cells #[.string p, .slice oN n1 pN, .slice oV n2 pV, .int .i64 0, .slice none 0 0, .string ⟨#[]⟩, .int .i64 0, .int .i64 0, .int .i64 0] 71)) := by show _ = _; rw [hW7]; have h := heap_set _ _ 2 _ _ _ (.slice oV n2 pV) HBv3_6.out; simpa using h
  clear hb6 HON_6 HOV_6 HOF_6 HBv1_6 HBv2_6 HBv3_6 hW7
  obtain ⟨w8, hW8⟩ : ∃ W, W = (w7).setCell ⟨qv3, 3, none⟩ (.int .i64 st) := ⟨_, rfl⟩
  rw [← hW8]
  have hb8 : Below w.heap.size w (w8) := by rw [hW8]; exact (hb7.setCell (p := ⟨qv3, 3, none⟩) HGv3.out _)
  have HON_8 : Hid ((w8).ownsRow w.heap.size 9 1 (.slice oN n1 pN) n1 (xs.map Value.string)) := by show World.ownsRow _ _ _ _ _ _ _; rw [hW8]; exact owns_same HON_7.out (fun g hg => heap_setCell_other _ _ g _ (own_ne HON_7.out HBv3_7.out (by decide) g hg))
  have HOV_8 : Hid ((w8).ownsRow w.heap.size 9 1 (.slice oV n2 pV) n2 (ys.map Value.string)) := by show World.ownsRow _ _ _ _ _ _ _; rw [hW8]; exact owns_same HOV_7.out (fun g hg => heap_setCell_other _ _ g _ (own_ne HOV_7.out HBv3_7.out (by decide) g hg))
  have HOF_8 : Hid ((w8).ownsRow w.heap.size 132 2 (.slice oF n3 pF) n3 (flatF fs)) := by show World.ownsRow _ _ _ _ _ _ _; rw [hW8]; exact owns_same HOF_7.out (fun g hg => heap_setCell_other _ _ g _ (own_ne HOF_7.out HBv3_7.out (by decide) g hg))
  have HBv1_8 : Hid ((w8).heap[qv1]? = some (.cells #[.string p, .slice a1 n1 c1, .slice a2 n2 c2, .int .i64 st, .slice a3 n3 c3, .string b, .int .i64 t, .int .i64 ka, .int .i64 kq] 106)) := by show _ = _; rw [hW8, heap_setCell_other _ _ _ _ HNv1v3.out]; exact HBv1_7.out
  have HBv2_8 : Hid ((w8).heap[qv2]? = some (.cells #[.string ⟨#[]⟩, .slice none 0 0, .slice none 0 0, .int .i64 0, .slice none 0 0, .string ⟨#[]⟩, .int .i64 0, .int .i64 0, .int .i64 0] 71)) := by show _ = _; rw [hW8, heap_setCell_other _ _ _ _ HNv2v3.out]; exact HBv2_7.out
  have HBv3_8 : Hid ((w8).heap[qv3]? = some (.cells #[.string p, .slice oN n1 pN, .slice oV n2 pV, .int .i64 st, .slice none 0 0, .string ⟨#[]⟩, .int .i64 0, .int .i64 0, .int .i64 0] 71)) := by show _ = _; rw [hW8]; have h := heap_set _ _ 3 _ _ _ (.int .i64 st) HBv3_7.out; simpa using h
  clear hb7 HON_7 HOV_7 HOF_7 HBv1_7 HBv2_7 HBv3_7 hW8
  obtain ⟨w9, hW9⟩ : ∃ W, W = (w8).setCell ⟨qv3, 4, none⟩ (.slice oF n3 pF) := ⟨_, rfl⟩
  rw [← hW9]
  have hb9 : Below w.heap.size w (w9) := by rw [hW9]; exact (hb8.setCell (p := ⟨qv3, 4, none⟩) HGv3.out _)
  have HON_9 : Hid ((w9).ownsRow w.heap.size 9 1 (.slice oN n1 pN) n1 (xs.map Value.string)) := by show World.ownsRow _ _ _ _ _ _ _; rw [hW9]; exact owns_same HON_8.out (fun g hg => heap_setCell_other _ _ g _ (own_ne HON_8.out HBv3_8.out (by decide) g hg))
  have HOV_9 : Hid ((w9).ownsRow w.heap.size 9 1 (.slice oV n2 pV) n2 (ys.map Value.string)) := by show World.ownsRow _ _ _ _ _ _ _; rw [hW9]; exact owns_same HOV_8.out (fun g hg => heap_setCell_other _ _ g _ (own_ne HOV_8.out HBv3_8.out (by decide) g hg))
  have HOF_9 : Hid ((w9).ownsRow w.heap.size 132 2 (.slice oF n3 pF) n3 (flatF fs)) := by show World.ownsRow _ _ _ _ _ _ _; rw [hW9]; exact owns_same HOF_8.out (fun g hg => heap_setCell_other _ _ g _ (own_ne HOF_8.out HBv3_8.out (by decide) g hg))
  have HBv1_9 : Hid ((w9).heap[qv1]? = some (.cells #[.string p, .slice a1 n1 c1, .slice a2 n2 c2, .int .i64 st, .slice a3 n3 c3, .string b, .int .i64 t, .int .i64 ka, .int .i64 kq] 106)) := by show _ = _; rw [hW9, heap_setCell_other _ _ _ _ HNv1v3.out]; exact HBv1_8.out
  have HBv2_9 : Hid ((w9).heap[qv2]? = some (.cells #[.string ⟨#[]⟩, .slice none 0 0, .slice none 0 0, .int .i64 0, .slice none 0 0, .string ⟨#[]⟩, .int .i64 0, .int .i64 0, .int .i64 0] 71)) := by show _ = _; rw [hW9, heap_setCell_other _ _ _ _ HNv2v3.out]; exact HBv2_8.out
  have HBv3_9 : Hid ((w9).heap[qv3]? = some (.cells #[.string p, .slice oN n1 pN, .slice oV n2 pV, .int .i64 st, .slice oF n3 pF, .string ⟨#[]⟩, .int .i64 0, .int .i64 0, .int .i64 0] 71)) := by show _ = _; rw [hW9]; have h := heap_set _ _ 4 _ _ _ (.slice oF n3 pF) HBv3_8.out; simpa using h
  clear hb8 HON_8 HOV_8 HOF_8 HBv1_8 HBv2_8 HBv3_8 hW9
  obtain ⟨w10, hW10⟩ : ∃ W, W = (w9).setCell ⟨qv3, 5, none⟩ (.string b) := ⟨_, rfl⟩
  rw [← hW10]
  have hb10 : Below w.heap.size w (w10) := by rw [hW10]; exact (hb9.setCell (p := ⟨qv3, 5, none⟩) HGv3.out _)
  have HON_10 : Hid ((w10).ownsRow w.heap.size 9 1 (.slice oN n1 pN) n1 (xs.map Value.string)) := by show World.ownsRow _ _ _ _ _ _ _; rw [hW10]; exact owns_same HON_9.out (fun g hg => heap_setCell_other _ _ g _ (own_ne HON_9.out HBv3_9.out (by decide) g hg))
  have HOV_10 : Hid ((w10).ownsRow w.heap.size 9 1 (.slice oV n2 pV) n2 (ys.map Value.string)) := by show World.ownsRow _ _ _ _ _ _ _; rw [hW10]; exact owns_same HOV_9.out (fun g hg => heap_setCell_other _ _ g _ (own_ne HOV_9.out HBv3_9.out (by decide) g hg))
  have HOF_10 : Hid ((w10).ownsRow w.heap.size 132 2 (.slice oF n3 pF) n3 (flatF fs)) := by show World.ownsRow _ _ _ _ _ _ _; rw [hW10]; exact owns_same HOF_9.out (fun g hg => heap_setCell_other _ _ g _ (own_ne HOF_9.out HBv3_9.out (by decide) g hg))
  have HBv1_10 : Hid ((w10).heap[qv1]? = some (.cells #[.string p, .slice a1 n1 c1, .slice a2 n2 c2, .int .i64 st, .slice a3 n3 c3, .string b, .int .i64 t, .int .i64 ka, .int .i64 kq] 106)) := by show _ = _; rw [hW10, heap_setCell_other _ _ _ _ HNv1v3.out]; exact HBv1_9.out
  have HBv2_10 : Hid ((w10).heap[qv2]? = some (.cells #[.string ⟨#[]⟩, .slice none 0 0, .slice none 0 0, .int .i64 0, .slice none 0 0, .string ⟨#[]⟩, .int .i64 0, .int .i64 0, .int .i64 0] 71)) := by show _ = _; rw [hW10, heap_setCell_other _ _ _ _ HNv2v3.out]; exact HBv2_9.out
  have HBv3_10 : Hid ((w10).heap[qv3]? = some (.cells #[.string p, .slice oN n1 pN, .slice oV n2 pV, .int .i64 st, .slice oF n3 pF, .string b, .int .i64 0, .int .i64 0, .int .i64 0] 71)) := by show _ = _; rw [hW10]; have h := heap_set _ _ 5 _ _ _ (.string b) HBv3_9.out; simpa using h
  clear hb9 HON_9 HOV_9 HOF_9 HBv1_9 HBv2_9 HBv3_9 hW10
  obtain ⟨w11, hW11⟩ : ∃ W, W = (w10).setCell ⟨qv3, 6, none⟩ (.int .i64 t) := ⟨_, rfl⟩
  rw [← hW11]
  have hb11 : Below w.heap.size w (w11) := by rw [hW11]; exact (hb10.setCell (p := ⟨qv3, 6, none⟩) HGv3.out _)
  have HON_11 : Hid ((w11).ownsRow w.heap.size 9 1 (.slice oN n1 pN) n1 (xs.map Value.string)) := by show World.ownsRow _ _ _ _ _ _ _; rw [hW11]; exact owns_same HON_10.out (fun g hg => heap_setCell_other _ _ g _ (own_ne HON_10.out HBv3_10.out (by decide) g hg))
  have HOV_11 : Hid ((w11).ownsRow w.heap.size 9 1 (.slice oV n2 pV) n2 (ys.map Value.string)) := by show World.ownsRow _ _ _ _ _ _ _; rw [hW11]; exact owns_same HOV_10.out (fun g hg => heap_setCell_other _ _ g _ (own_ne HOV_10.out HBv3_10.out (by decide) g hg))
  have HOF_11 : Hid ((w11).ownsRow w.heap.size 132 2 (.slice oF n3 pF) n3 (flatF fs)) := by show World.ownsRow _ _ _ _ _ _ _; rw [hW11]; exact owns_same HOF_10.out (fun g hg => heap_setCell_other _ _ g _ (own_ne HOF_10.out HBv3_10.out (by decide) g hg))
  have HBv1_11 : Hid ((w11).heap[qv1]? = some (.cells #[.string p, .slice a1 n1 c1, .slice a2 n2 c2, .int .i64 st, .slice a3 n3 c3, .string b, .int .i64 t, .int .i64 ka, .int .i64 kq] 106)) := by show _ = _; rw [hW11, heap_setCell_other _ _ _ _ HNv1v3.out]; exact HBv1_10.out
  have HBv2_11 : Hid ((w11).heap[qv2]? = some (.cells #[.string ⟨#[]⟩, .slice none 0 0, .slice none 0 0, .int .i64 0, .slice none 0 0, .string ⟨#[]⟩, .int .i64 0, .int .i64 0, .int .i64 0] 71)) := by show _ = _; rw [hW11, heap_setCell_other _ _ _ _ HNv2v3.out]; exact HBv2_10.out
  have HBv3_11 : Hid ((w11).heap[qv3]? = some (.cells #[.string p, .slice oN n1 pN, .slice oV n2 pV, .int .i64 st, .slice oF n3 pF, .string b, .int .i64 t, .int .i64 0, .int .i64 0] 71)) := by show _ = _; rw [hW11]; have h := heap_set _ _ 6 _ _ _ (.int .i64 t) HBv3_10.out; simpa using h
  clear hb10 HON_10 HOV_10 HOF_10 HBv1_10 HBv2_10 HBv3_10 hW11
  clear cv3_0 fcv3_0 cv3_1 fcv3_1 cv3_2 fcv3_2 cv3_3 fcv3_3 cv3_4 fcv3_4 cv3_5 fcv3_5 cv3_6 fcv3_6
  have cv1_7 : (w11).cell? ⟨qv1, 7, none⟩ = some (.int .i64 ka) := (cell_of HBv1_11.out 7).trans rfl
  have cv3_7 : (w11).cell? ⟨qv3, 7, none⟩ = some (.int .i64 0) := (cell_of HBv3_11.out 7).trans rfl
  have fcv3_7 : (w11).frozen? ⟨qv3, 7, none⟩ = false := frozen_of HBv3_11.out 7
  go_upto_region 4 with fail
  obtain ⟨w12, hW12⟩ : ∃ W, W = (w11).setCell ⟨qv3, 7, none⟩ (.int .i64 ka) := ⟨_, rfl⟩
  rw [← hW12]
  have hb12 : Below w.heap.size w (w12) := by rw [hW12]; exact (hb11.setCell (p := ⟨qv3, 7, none⟩) HGv3.out _)
  have HON_12 : Hid ((w12).ownsRow w.heap.size 9 1 (.slice oN n1 pN) n1 (xs.map Value.string)) := by show World.ownsRow _ _ _ _ _ _ _; rw [hW12]; exact owns_same HON_11.out (fun g hg => heap_setCell_other _ _ g _ (own_ne HON_11.out HBv3_11.out (by decide) g hg))
  have HOV_12 : Hid ((w12).ownsRow w.heap.size 9 1 (.slice oV n2 pV) n2 (ys.map Value.string)) := by show World.ownsRow _ _ _ _ _ _ _; rw [hW12]; exact owns_same HOV_11.out (fun g hg => heap_setCell_other _ _ g _ (own_ne HOV_11.out HBv3_11.out (by decide) g hg))
  have HOF_12 : Hid ((w12).ownsRow w.heap.size 132 2 (.slice oF n3 pF) n3 (flatF fs)) := by show World.ownsRow _ _ _ _ _ _ _; rw [hW12]; exact owns_same HOF_11.out (fun g hg => heap_setCell_other _ _ g _ (own_ne HOF_11.out HBv3_11.out (by decide) g hg))
  have HBv1_12 : Hid ((w12).heap[qv1]? = some (.cells #[.string p, .slice a1 n1 c1, .slice a2 n2 c2, .int .i64 st, .slice a3 n3 c3, .string b, .int .i64 t, .int .i64 ka, .int .i64 kq] 106)) := by show _ = _; rw [hW12, heap_setCell_other _ _ _ _ HNv1v3.out]; exact HBv1_11.out
  have HBv2_12 : Hid ((w12).heap[qv2]? = some (.cells #[.string ⟨#[]⟩, .slice none 0 0, .slice none 0 0, .int .i64 0, .slice none 0 0, .string ⟨#[]⟩, .int .i64 0, .int .i64 0, .int .i64 0] 71)) := by show _ = _; rw [hW12, heap_setCell_other _ _ _ _ HNv2v3.out]; exact HBv2_11.out
  have HBv3_12 : Hid ((w12).heap[qv3]? = some (.cells #[.string p, .slice oN n1 pN, .slice oV n2 pV, .int .i64 st, .slice oF n3 pF, .string b, .int .i64 t, .int .i64 ka, .int .i64 0] 71)) := by show _ = _; rw [hW12]; have h := heap_set _ _ 7 _ _ _ (.int .i64 ka) HBv3_11.out; simpa using h
  clear hb11 HON_11 HOV_11 HOF_11 HBv1_11 HBv2_11 HBv3_11 hW12
  clear cv1_7 cv3_7 fcv3_7
  have cv1_8 : (w12).cell? ⟨qv1, 8, none⟩ = some (.int .i64 kq) := (cell_of HBv1_12.out 8).trans rfl
  have cv3_8 : (w12).cell? ⟨qv3, 8, none⟩ = some (.int .i64 0) := (cell_of HBv3_12.out 8).trans rfl
  have fcv3_8 : (w12).frozen? ⟨qv3, 8, none⟩ = false := frozen_of HBv3_12.out 8
  go_upto_region 5 with fail
  obtain ⟨w13, hW13⟩ : ∃ W, W = (w12).setCell ⟨qv3, 8, none⟩ (.int .i64 kq) := ⟨_, rfl⟩
  rw [← hW13]
  have hb13 : Below w.heap.size w (w13) := by rw [hW13]; exact (hb12.setCell (p := ⟨qv3, 8, none⟩) HGv3.out _)
  have HON_13 : Hid ((w13).ownsRow w.heap.size 9 1 (.slice oN n1 pN) n1 (xs.map Value.string)) := by show World.ownsRow _ _ _ _ _ _ _; rw [hW13]; exact owns_same HON_12.out (fun g hg => heap_setCell_other _ _ g _ (own_ne HON_12.out HBv3_12.out (by decide) g hg))
  have HOV_13 : Hid ((w13).ownsRow w.heap.size 9 1 (.slice oV n2 pV) n2 (ys.map Value.string)) := by show World.ownsRow _ _ _ _ _ _ _; rw [hW13]; exact owns_same HOV_12.out (fun g hg => heap_setCell_other _ _ g _ (own_ne HOV_12.out HBv3_12.out (by decide) g hg))
  have HOF_13 : Hid ((w13).ownsRow w.heap.size 132 2 (.slice oF n3 pF) n3 (flatF fs)) := by show World.ownsRow _ _ _ _ _ _ _; rw [hW13]; exact owns_same HOF_12.out (fun g hg => heap_setCell_other _ _ g _ (own_ne HOF_12.out HBv3_12.out (by decide) g hg))
  have HBv1_13 : Hid ((w13).heap[qv1]? = some (.cells #[.string p, .slice a1 n1 c1, .slice a2 n2 c2, .int .i64 st, .slice a3 n3 c3, .string b, .int .i64 t, .int .i64 ka, .int .i64 kq] 106)) := by show _ = _; rw [hW13, heap_setCell_other _ _ _ _ HNv1v3.out]; exact HBv1_12.out
  have HBv2_13 : Hid ((w13).heap[qv2]? = some (.cells #[.string ⟨#[]⟩, .slice none 0 0, .slice none 0 0, .int .i64 0, .slice none 0 0, .string ⟨#[]⟩, .int .i64 0, .int .i64 0, .int .i64 0] 71)) := by show _ = _; rw [hW13, heap_setCell_other _ _ _ _ HNv2v3.out]; exact HBv2_12.out
  have HBv3_13 : Hid ((w13).heap[qv3]? = some (.cells #[.string p, .slice oN n1 pN, .slice oV n2 pV, .int .i64 st, .slice oF n3 pF, .string b, .int .i64 t, .int .i64 ka, .int .i64 kq] 71)) := by show _ = _; rw [hW13]; have h := heap_set _ _ 8 _ _ _ (.int .i64 kq) HBv3_12.out; simpa using h
  clear hb12 HON_12 HOV_12 HOF_12 HBv1_12 HBv2_12 HBv3_12 hW13
  clear cv1_8 cv3_8 fcv3_8
  have cv2_0 : (w13).cell? ⟨qv2, 0, none⟩ = some (.string ⟨#[]⟩) := (cell_of HBv2_13.out 0).trans rfl
  have fcv2_0 : (w13).frozen? ⟨qv2, 0, none⟩ = false := frozen_of HBv2_13.out 0
  have cv2_1 : (w13).cell? ⟨qv2, 1, none⟩ = some (.slice none 0 0) := (cell_of HBv2_13.out 1).trans rfl
  have fcv2_1 : (w13).frozen? ⟨qv2, 1, none⟩ = false := frozen_of HBv2_13.out 1
  have cv2_2 : (w13).cell? ⟨qv2, 2, none⟩ = some (.slice none 0 0) := (cell_of HBv2_13.out 2).trans rfl
  have fcv2_2 : (w13).frozen? ⟨qv2, 2, none⟩ = false := frozen_of HBv2_13.out 2
  have cv2_3 : (w13).cell? ⟨qv2, 3, none⟩ = some (.int .i64 0) := (cell_of HBv2_13.out 3).trans rfl
  have fcv2_3 : (w13).frozen? ⟨qv2, 3, none⟩ = false := frozen_of HBv2_13.out 3
  have cv2_4 : (w13).cell? ⟨qv2, 4, none⟩ = some (.slice none 0 0) := (cell_of HBv2_13.out 4).trans rfl
  have fcv2_4 : (w13).frozen? ⟨qv2, 4, none⟩ = false := frozen_of HBv2_13.out 4
  have cv2_5 : (w13).cell? ⟨qv2, 5, none⟩ = some (.string ⟨#[]⟩) := (cell_of HBv2_13.out 5).trans rfl
  have fcv2_5 : (w13).frozen? ⟨qv2, 5, none⟩ = false := frozen_of HBv2_13.out 5
  have cv2_6 : (w13).cell? ⟨qv2, 6, none⟩ = some (.int .i64 0) := (cell_of HBv2_13.out 6).trans rfl
  have fcv2_6 : (w13).frozen? ⟨qv2, 6, none⟩ = false := frozen_of HBv2_13.out 6
  have cv2_7 : (w13).cell? ⟨qv2, 7, none⟩ = some (.int .i64 0) := (cell_of HBv2_13.out 7).trans rfl
  have fcv2_7 : (w13).frozen? ⟨qv2, 7, none⟩ = false := frozen_of HBv2_13.out 7
  have cv2_8 : (w13).cell? ⟨qv2, 8, none⟩ = some (.int .i64 0) := (cell_of HBv2_13.out 8).trans rfl
  have fcv2_8 : (w13).frozen? ⟨qv2, 8, none⟩ = false := frozen_of HBv2_13.out 8
  have cv3_0 : (w13).cell? ⟨qv3, 0, none⟩ = some (.string p) := (cell_of HBv3_13.out 0).trans rfl
  have cv3_1 : (w13).cell? ⟨qv3, 1, none⟩ = some (.slice oN n1 pN) := (cell_of HBv3_13.out 1).trans rfl
  have cv3_2 : (w13).cell? ⟨qv3, 2, none⟩ = some (.slice oV n2 pV) := (cell_of HBv3_13.out 2).trans rfl
  have cv3_3 : (w13).cell? ⟨qv3, 3, none⟩ = some (.int .i64 st) := (cell_of HBv3_13.out 3).trans rfl
  have cv3_4 : (w13).cell? ⟨qv3, 4, none⟩ = some (.slice oF n3 pF) := (cell_of HBv3_13.out 4).trans rfl
  have cv3_5 : (w13).cell? ⟨qv3, 5, none⟩ = some (.string b) := (cell_of HBv3_13.out 5).trans rfl
  have cv3_6 : (w13).cell? ⟨qv3, 6, none⟩ = some (.int .i64 t) := (cell_of HBv3_13.out 6).trans rfl
  have cv3_7 : (w13).cell? ⟨qv3, 7, none⟩ = some (.int .i64 ka) := (cell_of HBv3_13.out 7).trans rfl
  have cv3_8 : (w13).cell? ⟨qv3, 8, none⟩ = some (.int .i64 kq) := (cell_of HBv3_13.out 8).trans rfl
  go_wp2_with fail
  obtain ⟨w14, hW14⟩ : ∃ W, W = (w13).setCell ⟨qv2, 0, none⟩ (.string p) := ⟨_, rfl⟩
  rw [← hW14]
  have hb14 : Below w.heap.size w (w14) := by rw [hW14]; exact (hb13.setCell (p := ⟨qv2, 0, none⟩) HGv2.out _)
  have HON_14 : Hid ((w14).ownsRow w.heap.size 9 1 (.slice oN n1 pN) n1 (xs.map Value.string)) := by show World.ownsRow _ _ _ _ _ _ _; rw [hW14]; exact owns_same HON_13.out (fun g hg => heap_setCell_other _ _ g _ (own_ne HON_13.out HBv2_13.out (by decide) g hg))
  have HOV_14 : Hid ((w14).ownsRow w.heap.size 9 1 (.slice oV n2 pV) n2 (ys.map Value.string)) := by show World.ownsRow _ _ _ _ _ _ _; rw [hW14]; exact owns_same HOV_13.out (fun g hg => heap_setCell_other _ _ g _ (own_ne HOV_13.out HBv2_13.out (by decide) g hg))
  have HOF_14 : Hid ((w14).ownsRow w.heap.size 132 2 (.slice oF n3 pF) n3 (flatF fs)) := by show World.ownsRow _ _ _ _ _ _ _; rw [hW14]; exact owns_same HOF_13.out (fun g hg => heap_setCell_other _ _ g _ (own_ne HOF_13.out HBv2_13.out (by decide) g hg))
  have HBv1_14 : Hid ((w14).heap[qv1]? = some (.cells #[.string p, .slice a1 n1 c1, .slice a2 n2 c2, .int .i64 st, .slice a3 n3 c3, .string b, .int .i64 t, .int .i64 ka, .int .i64 kq] 106)) := by show _ = _; rw [hW14, heap_setCell_other _ _ _ _ HNv1v2.out]; exact HBv1_13.out
  have HBv3_14 : Hid ((w14).heap[qv3]? = some (.cells #[.string p, .slice oN n1 pN, .slice oV n2 pV, .int .i64 st, .slice oF n3 pF, .string b, .int .i64 t, .int .i64 ka, .int .i64 kq] 71)) := by show _ = _; rw [hW14, heap_setCell_other _ _ _ _ HNv2v3.out.symm]; exact HBv3_13.out
  have HBv2_14 : Hid ((w14).heap[qv2]? = some (.cells #[.string p, .slice none 0 0, .slice none 0 0, .int .i64 0, .slice none 0 0, .string ⟨#[]⟩, .int .i64 0, .int .i64 0, .int .i64 0] 71)) := by show _ = _; rw [hW14]; have h := heap_set _ _ 0 _ _ _ (.string p) HBv2_13.out; simpa using h
  clear hb13 HON_13 HOV_13 HOF_13 HBv1_13 HBv2_13 HBv3_13 hW14
  obtain ⟨w15, hW15⟩ : ∃ W, W = (w14).setCell ⟨qv2, 1, none⟩ (.slice oN n1 pN) := ⟨_, rfl⟩
  rw [← hW15]
  have hb15 : Below w.heap.size w (w15) := by rw [hW15]; exact (hb14.setCell (p := ⟨qv2, 1, none⟩) HGv2.out _)
  have HON_15 : Hid ((w15).ownsRow w.heap.size 9 1 (.slice oN n1 pN) n1 (xs.map Value.string)) := by show World.ownsRow _ _ _ _ _ _ _; rw [hW15]; exact owns_same HON_14.out (fun g hg => heap_setCell_other _ _ g _ (own_ne HON_14.out HBv2_14.out (by decide) g hg))
  have HOV_15 : Hid ((w15).ownsRow w.heap.size 9 1 (.slice oV n2 pV) n2 (ys.map Value.string)) := by show World.ownsRow _ _ _ _ _ _ _; rw [hW15]; exact owns_same HOV_14.out (fun g hg => heap_setCell_other _ _ g _ (own_ne HOV_14.out HBv2_14.out (by decide) g hg))
  have HOF_15 : Hid ((w15).ownsRow w.heap.size 132 2 (.slice oF n3 pF) n3 (flatF fs)) := by show World.ownsRow _ _ _ _ _ _ _; rw [hW15]; exact owns_same HOF_14.out (fun g hg => heap_setCell_other _ _ g _ (own_ne HOF_14.out HBv2_14.out (by decide) g hg))
  have HBv1_15 : Hid ((w15).heap[qv1]? = some (.cells #[.string p, .slice a1 n1 c1, .slice a2 n2 c2, .int .i64 st, .slice a3 n3 c3, .string b, .int .i64 t, .int .i64 ka, .int .i64 kq] 106)) := by show _ = _; rw [hW15, heap_setCell_other _ _ _ _ HNv1v2.out]; exact HBv1_14.out
  have HBv3_15 : Hid ((w15).heap[qv3]? = some (.cells #[.string p, .slice oN n1 pN, .slice oV n2 pV, .int .i64 st, .slice oF n3 pF, .string b, .int .i64 t, .int .i64 ka, .int .i64 kq] 71)) := by show _ = _; rw [hW15, heap_setCell_other _ _ _ _ HNv2v3.out.symm]; exact HBv3_14.out
  have HBv2_15 : Hid ((w15).heap[qv2]? = some (.cells #[.string p, .slice oN n1 pN, .slice none 0 0, .int .i64 0, .slice none 0 0, .string ⟨#[]⟩, .int .i64 0, .int .i64 0, .int .i64 0] 71)) := by show _ = _; rw [hW15]; have h := heap_set _ _ 1 _ _ _ (.slice oN n1 pN) HBv2_14.out; simpa using h
  clear hb14 HON_14 HOV_14 HOF_14 HBv1_14 HBv2_14 HBv3_14 hW15
  obtain ⟨w16, hW16⟩ : ∃ W, W = (w15).setCell ⟨qv2, 2, none⟩ (.slice oV n2 pV) := ⟨_, rfl⟩
  rw [← hW16]
  have hb16 : Below w.heap.size w (w16) := by rw [hW16]; exact (hb15.setCell (p := ⟨qv2, 2, none⟩) HGv2.out _)
  have HON_16 : Hid ((w16).ownsRow w.heap.size 9 1 (.slice oN n1 pN) n1 (xs.map Value.string)) := by show World.ownsRow _ _ _ _ _ _ _; rw [hW16]; exact owns_same HON_15.out (fun g hg => heap_setCell_other _ _ g _ (own_ne HON_15.out HBv2_15.out (by decide) g hg))
  have HOV_16 : Hid ((w16).ownsRow w.heap.size 9 1 (.slice oV n2 pV) n2 (ys.map Value.string)) := by show World.ownsRow _ _ _ _ _ _ _; rw [hW16]; exact owns_same HOV_15.out (fun g hg => heap_setCell_other _ _ g _ (own_ne HOV_15.out HBv2_15.out (by decide) g hg))
  have HOF_16 : Hid ((w16).ownsRow w.heap.size 132 2 (.slice oF n3 pF) n3 (flatF fs)) := by show World.ownsRow _ _ _ _ _ _ _; rw [hW16]; exact owns_same HOF_15.out (fun g hg => heap_setCell_other _ _ g _ (own_ne HOF_15.out HBv2_15.out (by decide) g hg))
  have HBv1_16 : Hid ((w16).heap[qv1]? = some (.cells #[.string p, .slice a1 n1 c1, .slice a2 n2 c2, .int .i64 st, .slice a3 n3 c3, .string b, .int .i64 t, .int .i64 ka, .int .i64 kq] 106)) := by show _ = _; rw [hW16, heap_setCell_other _ _ _ _ HNv1v2.out]; exact HBv1_15.out
  have HBv3_16 : Hid ((w16).heap[qv3]? = some (.cells #[.string p, .slice oN n1 pN, .slice oV n2 pV, .int .i64 st, .slice oF n3 pF, .string b, .int .i64 t, .int .i64 ka, .int .i64 kq] 71)) := by show _ = _; rw [hW16, heap_setCell_other _ _ _ _ HNv2v3.out.symm]; exact HBv3_15.out
  have HBv2_16 : Hid ((w16).heap[qv2]? = some (.cells #[.string p, .slice oN n1 pN, .slice oV n2 pV, .int .i64 0, .slice none 0 0, .string ⟨#[]⟩, .int .i64 0, .int .i64 0, .int .i64 0] 71)) := by show _ = _; rw [hW16]; have h := heap_set _ _ 2 _ _ _ (.slice oV n2 pV) HBv2_15.out; simpa using h
  clear hb15 HON_15 HOV_15 HOF_15 HBv1_15 HBv2_15 HBv3_15 hW16
  obtain ⟨w17, hW17⟩ : ∃ W, W = (w16).setCell ⟨qv2, 3, none⟩ (.int .i64 st) := ⟨_, rfl⟩
  rw [← hW17]
  have hb17 : Below w.heap.size w (w17) := by rw [hW17]; exact (hb16.setCell (p := ⟨qv2, 3, none⟩) HGv2.out _)
  have HON_17 : Hid ((w17).ownsRow w.heap.size 9 1 (.slice oN n1 pN) n1 (xs.map Value.string)) := by show World.ownsRow _ _ _ _ _ _ _; rw [hW17]; exact owns_same HON_16.out (fun g hg => heap_setCell_other _ _ g _ (own_ne HON_16.out HBv2_16.out (by decide) g hg))
  have HOV_17 : Hid ((w17).ownsRow w.heap.size 9 1 (.slice oV n2 pV) n2 (ys.map Value.string)) := by show World.ownsRow _ _ _ _ _ _ _; rw [hW17]; exact owns_same HOV_16.out (fun g hg => heap_setCell_other _ _ g _ (own_ne HOV_16.out HBv2_16.out (by decide) g hg))
  have HOF_17 : Hid ((w17).ownsRow w.heap.size 132 2 (.slice oF n3 pF) n3 (flatF fs)) := by show World.ownsRow _ _ _ _ _ _ _; rw [hW17]; exact owns_same HOF_16.out (fun g hg => heap_setCell_other _ _ g _ (own_ne HOF_16.out HBv2_16.out (by decide) g hg))
  have HBv1_17 : Hid ((w17).heap[qv1]? = some (.cells #[.string p, .slice a1 n1 c1, .slice a2 n2 c2, .int .i64 st, .slice a3 n3 c3, .string b, .int .i64 t, .int .i64 ka, .int .i64 kq] 106)) := by show _ = _; rw [hW17, heap_setCell_other _ _ _ _ HNv1v2.out]; exact HBv1_16.out
  have HBv3_17 : Hid ((w17).heap[qv3]? = some (.cells #[.string p, .slice oN n1 pN, .slice oV n2 pV, .int .i64 st, .slice oF n3 pF, .string b, .int .i64 t, .int .i64 ka, .int .i64 kq] 71)) := by show _ = _; rw [hW17, heap_setCell_other _ _ _ _ HNv2v3.out.symm]; exact HBv3_16.out
  have HBv2_17 : Hid ((w17).heap[qv2]? = some (.cells #[.string p, .slice oN n1 pN, .slice oV n2 pV, .int .i64 st, .slice none 0 0, .string ⟨#[]⟩, .int .i64 0, .int .i64 0, .int .i64 0] 71)) := by show _ = _; rw [hW17]; have h := heap_set _ _ 3 _ _ _ (.int .i64 st) HBv2_16.out; simpa using h
  clear hb16 HON_16 HOV_16 HOF_16 HBv1_16 HBv2_16 HBv3_16 hW17
  obtain ⟨w18, hW18⟩ : ∃ W, W = (w17).setCell ⟨qv2, 4, none⟩ (.slice oF n3 pF) := ⟨_, rfl⟩
  rw [← hW18]
  have hb18 : Below w.heap.size w (w18) := by rw [hW18]; exact (hb17.setCell (p := ⟨qv2, 4, none⟩) HGv2.out _)
  have HON_18 : Hid ((w18).ownsRow w.heap.size 9 1 (.slice oN n1 pN) n1 (xs.map Value.string)) := by show World.ownsRow _ _ _ _ _ _ _; rw [hW18]; exact owns_same HON_17.out (fun g hg => heap_setCell_other _ _ g _ (own_ne HON_17.out HBv2_17.out (by decide) g hg))
  have HOV_18 : Hid ((w18).ownsRow w.heap.size 9 1 (.slice oV n2 pV) n2 (ys.map Value.string)) := by show World.ownsRow _ _ _ _ _ _ _; rw [hW18]; exact owns_same HOV_17.out (fun g hg => heap_setCell_other _ _ g _ (own_ne HOV_17.out HBv2_17.out (by decide) g hg))
  have HOF_18 : Hid ((w18).ownsRow w.heap.size 132 2 (.slice oF n3 pF) n3 (flatF fs)) := by show World.ownsRow _ _ _ _ _ _ _; rw [hW18]; exact owns_same HOF_17.out (fun g hg => heap_setCell_other _ _ g _ (own_ne HOF_17.out HBv2_17.out (by decide) g hg))
  have HBv1_18 : Hid ((w18).heap[qv1]? = some (.cells #[.string p, .slice a1 n1 c1, .slice a2 n2 c2, .int .i64 st, .slice a3 n3 c3, .string b, .int .i64 t, .int .i64 ka, .int .i64 kq] 106)) := by show _ = _; rw [hW18, heap_setCell_other _ _ _ _ HNv1v2.out]; exact HBv1_17.out
  have HBv3_18 : Hid ((w18).heap[qv3]? = some (.cells #[.string p, .slice oN n1 pN, .slice oV n2 pV, .int .i64 st, .slice oF n3 pF, .string b, .int .i64 t, .int .i64 ka, .int .i64 kq] 71)) := by show _ = _; rw [hW18, heap_setCell_other _ _ _ _ HNv2v3.out.symm]; exact HBv3_17.out
  have HBv2_18 : Hid ((w18).heap[qv2]? = some (.cells #[.string p, .slice oN n1 pN, .slice oV n2 pV, .int .i64 st, .slice oF n3 pF, .string ⟨#[]⟩, .int .i64 0, .int .i64 0, .int .i64 0] 71)) := by show _ = _; rw [hW18]; have h := heap_set _ _ 4 _ _ _ (.slice oF n3 pF) HBv2_17.out; simpa using h
  clear hb17 HON_17 HOV_17 HOF_17 HBv1_17 HBv2_17 HBv3_17 hW18
  obtain ⟨w19, hW19⟩ : ∃ W, W = (w18).setCell ⟨qv2, 5, none⟩ (.string b) := ⟨_, rfl⟩
  rw [← hW19]
  have hb19 : Below w.heap.size w (w19) := by rw [hW19]; exact (hb18.setCell (p := ⟨qv2, 5, none⟩) HGv2.out _)
  have HON_19 : Hid ((w19).ownsRow w.heap.size 9 1 (.slice oN n1 pN) n1 (xs.map Value.string)) := by show World.ownsRow _ _ _ _ _ _ _; rw [hW19]; exact owns_same HON_18.out (fun g hg => heap_setCell_other _ _ g _ (own_ne HON_18.out HBv2_18.out (by decide) g hg))
  have HOV_19 : Hid ((w19).ownsRow w.heap.size 9 1 (.slice oV n2 pV) n2 (ys.map Value.string)) := by show World.ownsRow _ _ _ _ _ _ _; rw [hW19]; exact owns_same HOV_18.out (fun g hg => heap_setCell_other _ _ g _ (own_ne HOV_18.out HBv2_18.out (by decide) g hg))
  have HOF_19 : Hid ((w19).ownsRow w.heap.size 132 2 (.slice oF n3 pF) n3 (flatF fs)) := by show World.ownsRow _ _ _ _ _ _ _; rw [hW19]; exact owns_same HOF_18.out (fun g hg => heap_setCell_other _ _ g _ (own_ne HOF_18.out HBv2_18.out (by decide) g hg))
  have HBv1_19 : Hid ((w19).heap[qv1]? = some (.cells #[.string p, .slice a1 n1 c1, .slice a2 n2 c2, .int .i64 st, .slice a3 n3 c3, .string b, .int .i64 t, .int .i64 ka, .int .i64 kq] 106)) := by show _ = _; rw [hW19, heap_setCell_other _ _ _ _ HNv1v2.out]; exact HBv1_18.out
  have HBv3_19 : Hid ((w19).heap[qv3]? = some (.cells #[.string p, .slice oN n1 pN, .slice oV n2 pV, .int .i64 st, .slice oF n3 pF, .string b, .int .i64 t, .int .i64 ka, .int .i64 kq] 71)) := by show _ = _; rw [hW19, heap_setCell_other _ _ _ _ HNv2v3.out.symm]; exact HBv3_18.out
  have HBv2_19 : Hid ((w19).heap[qv2]? = some (.cells #[.string p, .slice oN n1 pN, .slice oV n2 pV, .int .i64 st, .slice oF n3 pF, .string b, .int .i64 0, .int .i64 0, .int .i64 0] 71)) := by show _ = _; rw [hW19]; have h := heap_set _ _ 5 _ _ _ (.string b) HBv2_18.out; simpa using h
  clear hb18 HON_18 HOV_18 HOF_18 HBv1_18 HBv2_18 HBv3_18 hW19
  obtain ⟨w20, hW20⟩ : ∃ W, W = (w19).setCell ⟨qv2, 6, none⟩ (.int .i64 t) := ⟨_, rfl⟩
  rw [← hW20]
  have hb20 : Below w.heap.size w (w20) := by rw [hW20]; exact (hb19.setCell (p := ⟨qv2, 6, none⟩) HGv2.out _)
  have HON_20 : Hid ((w20).ownsRow w.heap.size 9 1 (.slice oN n1 pN) n1 (xs.map Value.string)) := by show World.ownsRow _ _ _ _ _ _ _; rw [hW20]; exact owns_same HON_19.out (fun g hg => heap_setCell_other _ _ g _ (own_ne HON_19.out HBv2_19.out (by decide) g hg))
  have HOV_20 : Hid ((w20).ownsRow w.heap.size 9 1 (.slice oV n2 pV) n2 (ys.map Value.string)) := by show World.ownsRow _ _ _ _ _ _ _; rw [hW20]; exact owns_same HOV_19.out (fun g hg => heap_setCell_other _ _ g _ (own_ne HOV_19.out HBv2_19.out (by decide) g hg))
  have HOF_20 : Hid ((w20).ownsRow w.heap.size 132 2 (.slice oF n3 pF) n3 (flatF fs)) := by show World.ownsRow _ _ _ _ _ _ _; rw [hW20]; exact owns_same HOF_19.out (fun g hg => heap_setCell_other _ _ g _ (own_ne HOF_19.out HBv2_19.out (by decide) g hg))
  have HBv1_20 : Hid ((w20).heap[qv1]? = some (.cells #[.string p, .slice a1 n1 c1, .slice a2 n2 c2, .int .i64 st, .slice a3 n3 c3, .string b, .int .i64 t, .int .i64 ka, .int .i64 kq] 106)) := by show _ = _; rw [hW20, heap_setCell_other _ _ _ _ HNv1v2.out]; exact HBv1_19.out
  have HBv3_20 : Hid ((w20).heap[qv3]? = some (.cells #[.string p, .slice oN n1 pN, .slice oV n2 pV, .int .i64 st, .slice oF n3 pF, .string b, .int .i64 t, .int .i64 ka, .int .i64 kq] 71)) := by show _ = _; rw [hW20, heap_setCell_other _ _ _ _ HNv2v3.out.symm]; exact HBv3_19.out
  have HBv2_20 : Hid ((w20).heap[qv2]? = some (.cells #[.string p, .slice oN n1 pN, .slice oV n2 pV, .int .i64 st, .slice oF n3 pF, .string b, .int .i64 t, .int .i64 0, .int .i64 0] 71)) := by show _ = _; rw [hW20]; have h := heap_set _ _ 6 _ _ _ (.int .i64 t) HBv2_19.out; simpa using h
  clear hb19 HON_19 HOV_19 HOF_19 HBv1_19 HBv2_19 HBv3_19 hW20
  obtain ⟨w21, hW21⟩ : ∃ W, W = (w20).setCell ⟨qv2, 7, none⟩ (.int .i64 ka) := ⟨_, rfl⟩
  rw [← hW21]
  have hb21 : Below w.heap.size w (w21) := by rw [hW21]; exact (hb20.setCell (p := ⟨qv2, 7, none⟩) HGv2.out _)
  have HON_21 : Hid ((w21).ownsRow w.heap.size 9 1 (.slice oN n1 pN) n1 (xs.map Value.string)) := by show World.ownsRow _ _ _ _ _ _ _; rw [hW21]; exact owns_same HON_20.out (fun g hg => heap_setCell_other _ _ g _ (own_ne HON_20.out HBv2_20.out (by decide) g hg))
  have HOV_21 : Hid ((w21).ownsRow w.heap.size 9 1 (.slice oV n2 pV) n2 (ys.map Value.string)) := by show World.ownsRow _ _ _ _ _ _ _; rw [hW21]; exact owns_same HOV_20.out (fun g hg => heap_setCell_other _ _ g _ (own_ne HOV_20.out HBv2_20.out (by decide) g hg))
  have HOF_21 : Hid ((w21).ownsRow w.heap.size 132 2 (.slice oF n3 pF) n3 (flatF fs)) := by show World.ownsRow _ _ _ _ _ _ _; rw [hW21]; exact owns_same HOF_20.out (fun g hg => heap_setCell_other _ _ g _ (own_ne HOF_20.out HBv2_20.out (by decide) g hg))
  have HBv1_21 : Hid ((w21).heap[qv1]? = some (.cells #[.string p, .slice a1 n1 c1, .slice a2 n2 c2, .int .i64 st, .slice a3 n3 c3, .string b, .int .i64 t, .int .i64 ka, .int .i64 kq] 106)) := by show _ = _; rw [hW21, heap_setCell_other _ _ _ _ HNv1v2.out]; exact HBv1_20.out
  have HBv3_21 : Hid ((w21).heap[qv3]? = some (.cells #[.string p, .slice oN n1 pN, .slice oV n2 pV, .int .i64 st, .slice oF n3 pF, .string b, .int .i64 t, .int .i64 ka, .int .i64 kq] 71)) := by show _ = _; rw [hW21, heap_setCell_other _ _ _ _ HNv2v3.out.symm]; exact HBv3_20.out
  have HBv2_21 : Hid ((w21).heap[qv2]? = some (.cells #[.string p, .slice oN n1 pN, .slice oV n2 pV, .int .i64 st, .slice oF n3 pF, .string b, .int .i64 t, .int .i64 ka, .int .i64 0] 71)) := by show _ = _; rw [hW21]; have h := heap_set _ _ 7 _ _ _ (.int .i64 ka) HBv2_20.out; simpa using h
  clear hb20 HON_20 HOV_20 HOF_20 HBv1_20 HBv2_20 HBv3_20 hW21
  obtain ⟨w22, hW22⟩ : ∃ W, W = (w21).setCell ⟨qv2, 8, none⟩ (.int .i64 kq) := ⟨_, rfl⟩
  rw [← hW22]
  have hb22 : Below w.heap.size w (w22) := by rw [hW22]; exact (hb21.setCell (p := ⟨qv2, 8, none⟩) HGv2.out _)
  have HON_22 : Hid ((w22).ownsRow w.heap.size 9 1 (.slice oN n1 pN) n1 (xs.map Value.string)) := by show World.ownsRow _ _ _ _ _ _ _; rw [hW22]; exact owns_same HON_21.out (fun g hg => heap_setCell_other _ _ g _ (own_ne HON_21.out HBv2_21.out (by decide) g hg))
  have HOV_22 : Hid ((w22).ownsRow w.heap.size 9 1 (.slice oV n2 pV) n2 (ys.map Value.string)) := by show World.ownsRow _ _ _ _ _ _ _; rw [hW22]; exact owns_same HOV_21.out (fun g hg => heap_setCell_other _ _ g _ (own_ne HOV_21.out HBv2_21.out (by decide) g hg))
  have HOF_22 : Hid ((w22).ownsRow w.heap.size 132 2 (.slice oF n3 pF) n3 (flatF fs)) := by show World.ownsRow _ _ _ _ _ _ _; rw [hW22]; exact owns_same HOF_21.out (fun g hg => heap_setCell_other _ _ g _ (own_ne HOF_21.out HBv2_21.out (by decide) g hg))
  have HBv1_22 : Hid ((w22).heap[qv1]? = some (.cells #[.string p, .slice a1 n1 c1, .slice a2 n2 c2, .int .i64 st, .slice a3 n3 c3, .string b, .int .i64 t, .int .i64 ka, .int .i64 kq] 106)) := by show _ = _; rw [hW22, heap_setCell_other _ _ _ _ HNv1v2.out]; exact HBv1_21.out
  have HBv3_22 : Hid ((w22).heap[qv3]? = some (.cells #[.string p, .slice oN n1 pN, .slice oV n2 pV, .int .i64 st, .slice oF n3 pF, .string b, .int .i64 t, .int .i64 ka, .int .i64 kq] 71)) := by show _ = _; rw [hW22, heap_setCell_other _ _ _ _ HNv2v3.out.symm]; exact HBv3_21.out
  have HBv2_22 : Hid ((w22).heap[qv2]? = some (.cells #[.string p, .slice oN n1 pN, .slice oV n2 pV, .int .i64 st, .slice oF n3 pF, .string b, .int .i64 t, .int .i64 ka, .int .i64 kq] 71)) := by show _ = _; rw [hW22]; have h := heap_set _ _ 8 _ _ _ (.int .i64 kq) HBv2_21.out; simpa using h
  clear hb21 HON_21 HOV_21 HOF_21 HBv1_21 HBv2_21 HBv3_21 hW22
  have kv2_0 : (w22).cell? ⟨qv2, 0, none⟩ = some (.string p) := (cell_of HBv2_22.out 0).trans rfl
  have kv2_1 : (w22).cell? ⟨qv2, 1, none⟩ = some (.slice oN n1 pN) := (cell_of HBv2_22.out 1).trans rfl
  have kv2_2 : (w22).cell? ⟨qv2, 2, none⟩ = some (.slice oV n2 pV) := (cell_of HBv2_22.out 2).trans rfl
  have kv2_3 : (w22).cell? ⟨qv2, 3, none⟩ = some (.int .i64 st) := (cell_of HBv2_22.out 3).trans rfl
  have kv2_4 : (w22).cell? ⟨qv2, 4, none⟩ = some (.slice oF n3 pF) := (cell_of HBv2_22.out 4).trans rfl
  have kv2_5 : (w22).cell? ⟨qv2, 5, none⟩ = some (.string b) := (cell_of HBv2_22.out 5).trans rfl
  have kv2_6 : (w22).cell? ⟨qv2, 6, none⟩ = some (.int .i64 t) := (cell_of HBv2_22.out 6).trans rfl
  have kv2_7 : (w22).cell? ⟨qv2, 7, none⟩ = some (.int .i64 ka) := (cell_of HBv2_22.out 7).trans rfl
  have kv2_8 : (w22).cell? ⟨qv2, 8, none⟩ = some (.int .i64 kq) := (cell_of HBv2_22.out 8).trans rfl
  refine bodyPost_ret (v := .agg #[.string p, .slice oN n1 pN, .slice oV n2 pV, .int .i64 st, .slice oF n3 pF, .string b, .int .i64 t, .int .i64 ka, .int .i64 kq]) (by simp [results, Tryz.results70, go_sem, kv2_0, kv2_1, kv2_2, kv2_3, kv2_4, kv2_5, kv2_6, kv2_7, kv2_8]) rfl ?_
  exact ⟨_, _, _, rfl, ⟨HON_22.out, HOV_22.out, HOF_22.out, APX.out⟩, hb22⟩

set_option maxHeartbeats 8000000 in
set_option maxRecDepth 100000 in
theorem szKept_any (L : Int) (hL0 : 0 ≤ L) (hL1 : L ≤ 1048576) (p : ByteArray) (a1 : Option Addr) (n1 c1 : Nat) (xs : List ByteArray) (a2 : Option Addr) (n2 c2 : Nat) (ys : List ByteArray) (st : Int) (a3 : Option Addr) (n3 c3 : Nat) (fs : List (ByteArray × ByteArray)) (b : ByteArray) (t ka kq : Int) (B : Nat) (w : World) (h1 : ArgT w B a1 n1 xs) (h2 : ArgT w B a2 n2 ys) (h3 : ArgF w B a3 n3 fs) (hB : B ≤ w.heap.size) (hn1 : n1 ≤ maxLen) (hn2 : n2 ≤ maxLen) (hn3 : n3 ≤ maxLen) (hs1 : ∀ i, i < n1 → (textAt xs i).size ≤ maxLen) (hs2 : ∀ i, i < n2 → (textAt ys i).size ≤ maxLen) (hs3 : WalkF n3 fs) (hp : p.size ≤ maxLen) (hx : b.size ≤ maxLen) :
    Calls Tryz.prog 59 #[.agg #[.string p, .slice a1 n1 c1, .slice a2 n2 c2, .int .i64 st, .slice a3 n3 c3, .string b, .int .i64 t, .int .i64 ka, .int .i64 kq], .int .i64 L] w fun e w' => SzObj L p n1 xs n2 ys n3 fs b w e w' := by
  have HA1 : Hid (∀ W, Below w.heap.size w W → ArgT W B a1 n1 xs) := fun W h => h1.below (h.mono hB)
  have HA2 : Hid (∀ W, Below w.heap.size w W → ArgT W B a2 n2 ys) := fun W h => h2.below (h.mono hB)
  have HA3 : Hid (∀ W, Below w.heap.size w W → ArgF W B a3 n3 fs) := fun W h => h3.below (h.mono hB)
  have HBB : Hid (∀ W, Below w.heap.size w W → B ≤ W.heap.size) := fun W h => Nat.le_trans hB h.size
  clear h1 h2 h3
  have HQ : Hid (n1 ≤ maxLen ∧ n2 ≤ maxLen ∧ n3 ≤ maxLen ∧ (∀ i, i < n1 → (textAt xs i).size ≤ maxLen) ∧ (∀ i, i < n2 → (textAt ys i).size ≤ maxLen) ∧ WalkF n3 fs ∧ p.size ≤ maxLen ∧ b.size ≤ maxLen) := ⟨hn1, hn2, hn3, hs1, hs2, hs3, hp, hx⟩
  clear hn1 hn2 hn3 hs1 hs2 hs3 hp hx
  have hb0 : Below w.heap.size w w := Below.refl _ _
  go_enter Tryz.func59, Tryz.ntmps59
  go_upto_region 1 with fail
  obtain ⟨qv1, hqv1⟩ : ∃ q, q = (w).heap.size := ⟨_, rfl⟩
  obtain ⟨w1, hW1⟩ : ∃ W, W = (w).alloc (.cells #[.string p, .slice a1 n1 c1, .slice a2 n2 c2, .int .i64 st, .slice a3 n3 c3, .string b, .int .i64 t, .int .i64 ka, .int .i64 kq] 106) := ⟨_, rfl⟩
  have hz1 : (w).heap.size = qv1 := hqv1.symm
  first | rw [← hW1, ← hqv1] | rw [← hW1]
  have hs1 : w1.heap.size = qv1 + 1 := by rw [hW1, ← hz1]; simp
  have bw : Below (w).heap.size (w) w1 := by rw [hW1]; exact (Below.refl _ _).alloc (Nat.le_refl _) _
  have hb1 : Below w.heap.size w (w1) := hb0.trans (bw.mono hb0.size)
  have HBv1_1 : Hid ((w1).heap[qv1]? = some (.cells #[.string p, .slice a1 n1 c1, .slice a2 n2 c2, .int .i64 st, .slice a3 n3 c3, .string b, .int .i64 t, .int .i64 ka, .int .i64 kq] 106)) := by show _ = _; rw [hW1, ← hz1]; exact heap_alloc_new _ _
  clear hb0 bw hW1 hz1
  clear hs1 hqv1
  have cv1_0 : (w1).cell? ⟨qv1, 0, none⟩ = some (.string p) := (cell_of HBv1_1.out 0).trans rfl
  have cv1_1 : (w1).cell? ⟨qv1, 1, none⟩ = some (.slice a1 n1 c1) := (cell_of HBv1_1.out 1).trans rfl
  have cv1_2 : (w1).cell? ⟨qv1, 2, none⟩ = some (.slice a2 n2 c2) := (cell_of HBv1_1.out 2).trans rfl
  have cv1_3 : (w1).cell? ⟨qv1, 3, none⟩ = some (.int .i64 st) := (cell_of HBv1_1.out 3).trans rfl
  have cv1_4 : (w1).cell? ⟨qv1, 4, none⟩ = some (.slice a3 n3 c3) := (cell_of HBv1_1.out 4).trans rfl
  have cv1_5 : (w1).cell? ⟨qv1, 5, none⟩ = some (.string b) := (cell_of HBv1_1.out 5).trans rfl
  have cv1_6 : (w1).cell? ⟨qv1, 6, none⟩ = some (.int .i64 t) := (cell_of HBv1_1.out 6).trans rfl
  go_wp2_with fail
  refine (szObj_any L (by omega) (by omega) p a1 n1 c1 xs a2 n2 c2 ys st a3 n3 c3 fs b t B _ (HA1.out _ hb1) (HA2.out _ hb1) (HA3.out _ hb1) (HBB.out _ hb1) HQ.out.1 HQ.out.2.1 HQ.out.2.2.1 HQ.out.2.2.2.1 HQ.out.2.2.2.2.1 HQ.out.2.2.2.2.2.1 HQ.out.2.2.2.2.2.2.1 HQ.out.2.2.2.2.2.2.2).mono ?_
  rintro e w2 ⟨r1, rfl, hl1, hr1, bw⟩
  have HR1 : Hid (0 ≤ r1 → _) := hr1
  clear hr1
  have hb2 : Below w.heap.size w (w2) := hb1.trans (bw.mono hb1.size)
  have HBv1_2 : Hid ((w2).heap[qv1]? = some (.cells #[.string p, .slice a1 n1 c1, .slice a2 n2 c2, .int .i64 st, .slice a3 n3 c3, .string b, .int .i64 t, .int .i64 ka, .int .i64 kq] 106)) := blk_below HBv1_1.out bw
  clear hb1 HBv1_1 bw
  clear cv1_0 cv1_1 cv1_2 cv1_3 cv1_4 cv1_5 cv1_6
  by_cases hc1 : r1 < 0
  · go_wp2_with fail
    go_ret
    exact ⟨-1, rfl, by omega, fun h => absurd h (by omega), hb2⟩
  · go_wp2_with fail
    go_ret
    exact ⟨r1, rfl, by omega, HR1.out, hb2⟩

set_option maxHeartbeats 8000000 in
set_option maxRecDepth 100000 in
theorem eqKept_any (p : ByteArray) (n1 : Nat) (xs : List ByteArray) (n2 : Nat) (ys : List ByteArray) (st : Int) (n3 : Nat) (fs : List (ByteArray × ByteArray)) (b : ByteArray) (t ka kq : Int) (v1 v2 v3 u1 u2 u3 : Value) (B1 B2 : Nat) (w : World) (hx : ObjO w B1 v1 n1 xs v2 n2 ys v3 n3 fs) (hy : ObjO w B2 u1 n1 xs u2 n2 ys u3 n3 fs) (hn1 : n1 ≤ 2000000) (hn2 : n2 ≤ 2000000) (hn3 : n3 ≤ 2000000) :
    Calls Tryz.prog 78 #[.agg #[.string p, v1, v2, .int .i64 st, v3, .string b, .int .i64 t, .int .i64 ka, .int .i64 kq], .agg #[.string p, u1, u2, .int .i64 st, u3, .string b, .int .i64 t, .int .i64 ka, .int .i64 kq]] w fun e w' => e = .returned (.bool true) ∧ Below w.heap.size w w' := by
  obtain ⟨oNx, pNx, rfl⟩ := slice_of_owns hx.names
  obtain ⟨oVx, pVx, rfl⟩ := slice_of_owns hx.vals
  obtain ⟨oFx, pFx, rfl⟩ := slice_of_owns hx.flds
  have HONx_0 : Hid ((w).ownsRow B1 9 1 (.slice oNx n1 pNx) n1 (xs.map Value.string)) := hx.names
  have HOVx_0 : Hid ((w).ownsRow B1 9 1 (.slice oVx n2 pVx) n2 (ys.map Value.string)) := hx.vals
  have HOFx_0 : Hid ((w).ownsRow B1 132 2 (.slice oFx n3 pFx) n3 (flatF fs)) := hx.flds
  have APx : Hid (∀ j, (Value.slice oNx n1 pNx).ownBlock = some j → (Value.slice oVx n2 pVx).ownBlock ≠ some j) := hx.ne
  clear hx
  obtain ⟨oNy, pNy, rfl⟩ := slice_of_owns hy.names
  obtain ⟨oVy, pVy, rfl⟩ := slice_of_owns hy.vals
  obtain ⟨oFy, pFy, rfl⟩ := slice_of_owns hy.flds
  have HONy_0 : Hid ((w).ownsRow B2 9 1 (.slice oNy n1 pNy) n1 (xs.map Value.string)) := hy.names
  have HOVy_0 : Hid ((w).ownsRow B2 9 1 (.slice oVy n2 pVy) n2 (ys.map Value.string)) := hy.vals
  have HOFy_0 : Hid ((w).ownsRow B2 132 2 (.slice oFy n3 pFy) n3 (flatF fs)) := hy.flds
  have APy : Hid (∀ j, (Value.slice oNy n1 pNy).ownBlock = some j → (Value.slice oVy n2 pVy).ownBlock ≠ some j) := hy.ne
  clear hy
  have hka : (ka != ka) = false := by simp
  have hkq : (kq != kq) = false := by simp
  have hb0 : Below w.heap.size w w := Below.refl _ _
  go_enter Tryz.func78, Tryz.ntmps78
  go_upto_region 1 with fail
  obtain ⟨qv1, hqv1⟩ : ∃ q, q = (w).heap.size := ⟨_, rfl⟩
  obtain ⟨w1, hW1⟩ : ∃ W, W = (w).alloc (.cells #[.string p, .slice oNx n1 pNx, .slice oVx n2 pVx, .int .i64 st, .slice oFx n3 pFx, .string b, .int .i64 t, .int .i64 ka, .int .i64 kq] 71) := ⟨_, rfl⟩
  have hz1 : (w).heap.size = qv1 := hqv1.symm
  first | rw [← hW1, ← hqv1] | rw [← hW1]
  have hs1 : w1.heap.size = qv1 + 1 := by rw [hW1, ← hz1]; simp
  have bw : Below (w).heap.size (w) w1 := by rw [hW1]; exact (Below.refl _ _).alloc (Nat.le_refl _) _
  have hb1 : Below w.heap.size w (w1) := hb0.trans (bw.mono hb0.size)
  have HONx_1 : Hid ((w1).ownsRow B1 9 1 (.slice oNx n1 pNx) n1 (xs.map Value.string)) := owns_below HONx_0.out bw (fun g hg => owns_lt HONx_0.out hg)
  have HOVx_1 : Hid ((w1).ownsRow B1 9 1 (.slice oVx n2 pVx) n2 (ys.map Value.string)) := owns_below HOVx_0.out bw (fun g hg => owns_lt HOVx_0.out hg)
  have HOFx_1 : Hid ((w1).ownsRow B1 132 2 (.slice oFx n3 pFx) n3 (flatF fs)) := owns_below HOFx_0.out bw (fun g hg => owns_lt HOFx_0.out hg)
  have HONy_1 : Hid ((w1).ownsRow B2 9 1 (.slice oNy n1 pNy) n1 (xs.map Value.string)) := owns_below HONy_0.out bw (fun g hg => owns_lt HONy_0.out hg)
  have HOVy_1 : Hid ((w1).ownsRow B2 9 1 (.slice oVy n2 pVy) n2 (ys.map Value.string)) := owns_below HOVy_0.out bw (fun g hg => owns_lt HOVy_0.out hg)
  have HOFy_1 : Hid ((w1).ownsRow B2 132 2 (.slice oFy n3 pFy) n3 (flatF fs)) := owns_below HOFy_0.out bw (fun g hg => owns_lt HOFy_0.out hg)
  have HBv1_1 : Hid ((w1).heap[qv1]? = some (.cells #[.string p, .slice oNx n1 pNx, .slice oVx n2 pVx, .int .i64 st, .slice oFx n3 pFx, .string b, .int .i64 t, .int .i64 ka, .int .i64 kq] 71)) := by show _ = _; rw [hW1, ← hz1]; exact heap_alloc_new _ _
  clear hb0 HONx_0 HOVx_0 HOFx_0 HONy_0 HOVy_0 HOFy_0 bw hW1 hz1
  obtain ⟨qv2, hqv2⟩ : ∃ q, q = qv1 + 1 := ⟨_, rfl⟩
  obtain ⟨w2, hW2⟩ : ∃ W, W = (w1).alloc (.cells #[.string p, .slice oNy n1 pNy, .slice oVy n2 pVy, .int .i64 st, .slice oFy n3 pFy, .string b, .int .i64 t, .int .i64 ka, .int .i64 kq] 71) := ⟨_, rfl⟩
  have hz2 : (w1).heap.size = qv2 := by rw [hqv2]; exact hs1
  first | rw [← hW2, ← hqv2] | rw [← hW2]
  have hs2 : w2.heap.size = qv2 + 1 := by rw [hW2, ← hz2]; simp
  have bw : Below (w1).heap.size (w1) w2 := by rw [hW2]; exact (Below.refl _ _).alloc (Nat.le_refl _) _
  have hb2 : Below w.heap.size w (w2) := hb1.trans (bw.mono hb1.size)
  have HONx_2 : Hid ((w2).ownsRow B1 9 1 (.slice oNx n1 pNx) n1 (xs.map Value.string)) := owns_below HONx_1.out bw (fun g hg => owns_lt HONx_1.out hg)
  have HOVx_2 : Hid ((w2).ownsRow B1 9 1 (.slice oVx n2 pVx) n2 (ys.map Value.string)) := owns_below HOVx_1.out bw (fun g hg => owns_lt HOVx_1.out hg)
  have HOFx_2 : Hid ((w2).ownsRow B1 132 2 (.slice oFx n3 pFx) n3 (flatF fs)) := owns_below HOFx_1.out bw (fun g hg => owns_lt HOFx_1.out hg)
  have HONy_2 : Hid ((w2).ownsRow B2 9 1 (.slice oNy n1 pNy) n1 (xs.map Value.string)) := owns_below HONy_1.out bw (fun g hg => owns_lt HONy_1.out hg)
  have HOVy_2 : Hid ((w2).ownsRow B2 9 1 (.slice oVy n2 pVy) n2 (ys.map Value.string)) := owns_below HOVy_1.out bw (fun g hg => owns_lt HOVy_1.out hg)
  have HOFy_2 : Hid ((w2).ownsRow B2 132 2 (.slice oFy n3 pFy) n3 (flatF fs)) := owns_below HOFy_1.out bw (fun g hg => owns_lt HOFy_1.out hg)
  have HBv1_2 : Hid ((w2).heap[qv1]? = some (.cells #[.string p, .slice oNx n1 pNx, .slice oVx n2 pVx, .int .i64 st, .slice oFx n3 pFx, .string b, .int .i64 t, .int .i64 ka, .int .i64 kq] 71)) := blk_below HBv1_1.out bw
  have HBv2_2 : Hid ((w2).heap[qv2]? = some (.cells #[.string p, .slice oNy n1 pNy, .slice oVy n2 pVy, .int .i64 st, .slice oFy n3 pFy, .string b, .int .i64 t, .int .i64 ka, .int .i64 kq] 71)) := by show _ = _; rw [hW2, ← hz2]; exact heap_alloc_new _ _
  clear hb1 HONx_1 HOVx_1 HOFx_1 HONy_1 HOVy_1 HOFy_1 HBv1_1 bw hW2 hz2
  clear hs2 hqv2 hs1 hqv1
  have cv1_0 : (w2).cell? ⟨qv1, 0, none⟩ = some (.string p) := (cell_of HBv1_2.out 0).trans rfl
  have cv1_1 : (w2).cell? ⟨qv1, 1, none⟩ = some (.slice oNx n1 pNx) := (cell_of HBv1_2.out 1).trans rfl
  have cv1_2 : (w2).cell? ⟨qv1, 2, none⟩ = some (.slice oVx n2 pVx) := (cell_of HBv1_2.out 2).trans rfl
  have cv1_3 : (w2).cell? ⟨qv1, 3, none⟩ = some (.int .i64 st) := (cell_of HBv1_2.out 3).trans rfl
  have cv1_4 : (w2).cell? ⟨qv1, 4, none⟩ = some (.slice oFx n3 pFx) := (cell_of HBv1_2.out 4).trans rfl
  have cv1_5 : (w2).cell? ⟨qv1, 5, none⟩ = some (.string b) := (cell_of HBv1_2.out 5).trans rfl
  have cv1_6 : (w2).cell? ⟨qv1, 6, none⟩ = some (.int .i64 t) := (cell_of HBv1_2.out 6).trans rfl
  have cv2_0 : (w2).cell? ⟨qv2, 0, none⟩ = some (.string p) := (cell_of HBv2_2.out 0).trans rfl
  have cv2_1 : (w2).cell? ⟨qv2, 1, none⟩ = some (.slice oNy n1 pNy) := (cell_of HBv2_2.out 1).trans rfl
  have cv2_2 : (w2).cell? ⟨qv2, 2, none⟩ = some (.slice oVy n2 pVy) := (cell_of HBv2_2.out 2).trans rfl
  have cv2_3 : (w2).cell? ⟨qv2, 3, none⟩ = some (.int .i64 st) := (cell_of HBv2_2.out 3).trans rfl
  have cv2_4 : (w2).cell? ⟨qv2, 4, none⟩ = some (.slice oFy n3 pFy) := (cell_of HBv2_2.out 4).trans rfl
  have cv2_5 : (w2).cell? ⟨qv2, 5, none⟩ = some (.string b) := (cell_of HBv2_2.out 5).trans rfl
  have cv2_6 : (w2).cell? ⟨qv2, 6, none⟩ = some (.int .i64 t) := (cell_of HBv2_2.out 6).trans rfl
  go_wp2_with fail
  refine (eqObj_any p n1 xs n2 ys st n3 fs b t _ _ _ _ _ _ _ _ _ ⟨HONx_2.out, HOVx_2.out, HOFx_2.out, APx.out⟩ ⟨HONy_2.out, HOVy_2.out, HOFy_2.out, APy.out⟩ hn1 hn2 hn3).mono ?_
  rintro e w3 ⟨rfl, bw⟩
  have hb3 : Below w.heap.size w (w3) := hb2.trans (bw.mono hb2.size)
  have HONx_3 : Hid ((w3).ownsRow B1 9 1 (.slice oNx n1 pNx) n1 (xs.map Value.string)) := owns_below HONx_2.out bw (fun g hg => owns_lt HONx_2.out hg)
  have HOVx_3 : Hid ((w3).ownsRow B1 9 1 (.slice oVx n2 pVx) n2 (ys.map Value.string)) := owns_below HOVx_2.out bw (fun g hg => owns_lt HOVx_2.out hg)
  have HOFx_3 : Hid ((w3).ownsRow B1 132 2 (.slice oFx n3 pFx) n3 (flatF fs)) := owns_below HOFx_2.out bw (fun g hg => owns_lt HOFx_2.out hg)
  have HONy_3 : Hid ((w3).ownsRow B2 9 1 (.slice oNy n1 pNy) n1 (xs.map Value.string)) := owns_below HONy_2.out bw (fun g hg => owns_lt HONy_2.out hg)
  have HOVy_3 : Hid ((w3).ownsRow B2 9 1 (.slice oVy n2 pVy) n2 (ys.map Value.string)) := owns_below HOVy_2.out bw (fun g hg => owns_lt HOVy_2.out hg)
  have HOFy_3 : Hid ((w3).ownsRow B2 132 2 (.slice oFy n3 pFy) n3 (flatF fs)) := owns_below HOFy_2.out bw (fun g hg => owns_lt HOFy_2.out hg)
  have HBv1_3 : Hid ((w3).heap[qv1]? = some (.cells #[.string p, .slice oNx n1 pNx, .slice oVx n2 pVx, .int .i64 st, .slice oFx n3 pFx, .string b, .int .i64 t, .int .i64 ka, .int .i64 kq] 71)) := blk_below HBv1_2.out bw
  have HBv2_3 : Hid ((w3).heap[qv2]? = some (.cells #[.string p, .slice oNy n1 pNy, .slice oVy n2 pVy, .int .i64 st, .slice oFy n3 pFy, .string b, .int .i64 t, .int .i64 ka, .int .i64 kq] 71)) := blk_below HBv2_2.out bw
  clear hb2 HONx_2 HOVx_2 HOFx_2 HONy_2 HOVy_2 HOFy_2 HBv1_2 HBv2_2 bw
  clear cv1_0 cv1_1 cv1_2 cv1_3 cv1_4 cv1_5 cv1_6 cv2_0 cv2_1 cv2_2 cv2_3 cv2_4 cv2_5 cv2_6
  have cv1_7 : (w3).cell? ⟨qv1, 7, none⟩ = some (.int .i64 ka) := (cell_of HBv1_3.out 7).trans rfl
  have cv2_7 : (w3).cell? ⟨qv2, 7, none⟩ = some (.int .i64 ka) := (cell_of HBv2_3.out 7).trans rfl
  have cv1_8 : (w3).cell? ⟨qv1, 8, none⟩ = some (.int .i64 kq) := (cell_of HBv1_3.out 8).trans rfl
  have cv2_8 : (w3).cell? ⟨qv2, 8, none⟩ = some (.int .i64 kq) := (cell_of HBv2_3.out 8).trans rfl
  go_wp2_with fail
  go_ret
  exact ⟨rfl, hb3⟩

/-- One of a list that came in: its cells, and its three lists. -/
def KpArg (w : World) (B b off i : Nat) (k : KpD) : Prop :=
  ∃ (a1 : Option Addr) (n1 c1 : Nat) (a2 : Option Addr) (n2 c2 : Nat) (a3 : Option Addr) (n3 c3 : Nat), (w.cell? ⟨b, off + i * 9, none⟩ = some (.string k.p) ∧ w.cell? ⟨b, off + i * 9 + 1, none⟩ = some (.slice a1 n1 c1) ∧ w.cell? ⟨b, off + i * 9 + 2, none⟩ = some (.slice a2 n2 c2) ∧ w.cell? ⟨b, off + i * 9 + 3, none⟩ = some (.int .i64 k.st) ∧ w.cell? ⟨b, off + i * 9 + 4, none⟩ = some (.slice a3 n3 c3) ∧ w.cell? ⟨b, off + i * 9 + 5, none⟩ = some (.string k.b) ∧ w.cell? ⟨b, off + i * 9 + 6, none⟩ = some (.int .i64 k.t) ∧ w.cell? ⟨b, off + i * 9 + 7, none⟩ = some (.int .i64 k.a) ∧ w.cell? ⟨b, off + i * 9 + 8, none⟩ = some (.int .i64 k.q)) ∧ ArgT w B a1 n1 k.xs ∧ ArgT w B a2 n2 k.ys ∧ ArgF w B a3 n3 k.fs
/-- A list that came in, in blocks below B. -/
def ArgKept (w : World) (B : Nat) (a : Option Addr) (n : Nat) (ks : List KpD) : Prop :=
  ks.length = n ∧ ∀ i, i < n → ∃ b off, a = some ⟨b, off, none⟩ ∧ b < B ∧ KpArg w B b off i (kpAt ks i)
theorem ArgKept.below {w w' : World} {B : Nat} {a : Option Addr} {n : Nat} {ks : List KpD} (h : ArgKept w B a n ks) (hb : Below B w w') : ArgKept w' B a n ks :=
  ⟨h.1, fun i hi => by
    obtain ⟨b, off, h1, h2, a1, n1, c1, a2, n2, c2, a3, n3, c3, ⟨r0, r1, r2, r3, r4, r5, r6, r7, r8⟩, g1, g2, g3⟩ := h.2 i hi
    exact ⟨b, off, h1, h2, a1, n1, c1, a2, n2, c2, a3, n3, c3, ⟨by rw [hb.cell (p := ⟨b, off + i * 9, none⟩) h2]; exact r0, by rw [hb.cell (p := ⟨b, off + i * 9 + 1, none⟩) h2]; exact r1, by rw [hb.cell (p := ⟨b, off + i * 9 + 2, none⟩) h2]; exact r2, by rw [hb.cell (p := ⟨b, off + i * 9 + 3, none⟩) h2]; exact r3, by rw [hb.cell (p := ⟨b, off + i * 9 + 4, none⟩) h2]; exact r4, by rw [hb.cell (p := ⟨b, off + i * 9 + 5, none⟩) h2]; exact r5, by rw [hb.cell (p := ⟨b, off + i * 9 + 6, none⟩) h2]; exact r6, by rw [hb.cell (p := ⟨b, off + i * 9 + 7, none⟩) h2]; exact r7, by rw [hb.cell (p := ⟨b, off + i * 9 + 8, none⟩) h2]; exact r8⟩, g1.below hb, g2.below hb, g3.below hb⟩⟩
/-- No greater than may be. -/
def KpMax (k : KpD) : Prop := k.xs.length ≤ maxLen ∧ k.ys.length ≤ maxLen ∧ k.fs.length ≤ maxLen ∧ (∀ i, i < k.xs.length → (textAt k.xs i).size ≤ maxLen) ∧ (∀ i, i < k.ys.length → (textAt k.ys i).size ≤ maxLen) ∧ WalkF k.fs.length k.fs ∧ k.p.size ≤ maxLen ∧ k.b.size ≤ maxLen
/-- Small enough to be measured. -/
def KpSmall (k : KpD) : Prop := (k.p.size ≤ 1048576 ∧ k.b.size ≤ 1048576) ∧ (k.xs.length ≤ 1048576 ∧ ∀ i, i < k.xs.length → (textAt k.xs i).size ≤ 1048576) ∧ (k.ys.length ≤ 1048576 ∧ ∀ i, i < k.ys.length → (textAt k.ys i).size ≤ 1048576) ∧ k.fs.length ≤ 1048576 ∧ szTo k.fs k.fs.length ≤ 1048576
/-- How many there are, lists and their elements together. -/
def wtK : List KpD → Nat
  | [] => 0
  | k :: r => 1 + k.xs.length + k.ys.length + k.fs.length + wtK r
theorem wtK_snoc (k : KpD) : ∀ l : List KpD, wtK (l ++ [k]) = wtK l + (1 + k.xs.length + k.ys.length + k.fs.length)
  | [] => by simp [wtK]
  | x :: l => by rw [List.cons_append, wtK, wtK_snoc k l, wtK]; omega
theorem objO_rows {w : World} {B : Nat} {v1 v2 v3 : Value} {k : KpD} (h : ObjO w B v1 k.xs.length k.xs v2 k.ys.length k.ys v3 k.fs.length k.fs) : RowsO w B (kpR (k, v1, v2, v3)) := by
  refine ⟨fun r hr => ?_, ?_⟩
  · simp only [kpR, List.mem_cons, List.not_mem_nil, or_false] at hr
    rcases hr with rfl | rfl | rfl
    · exact h.names
    · exact h.vals
    · exact h.flds
  · unfold kpR
    refine List.pairwise_cons.2 ⟨fun r hr => ?_, List.pairwise_cons.2 ⟨fun r hr => ?_, List.pairwise_singleton _ _⟩⟩
    · simp only [List.mem_cons, List.not_mem_nil, or_false] at hr
      rcases hr with rfl | rfl
      · exact fun g hg => h.ne g hg
      · exact fun g hg => own_two h.names h.flds (by decide) hg
    · rw [List.mem_singleton.1 hr]
      exact fun g hg => own_two h.vals h.flds (by decide) hg
theorem rows_objO {w : World} {B : Nat} {x : KpD × Value × Value × Value} (h : RowsO w B (kpR x)) : ObjO w B x.2.1 x.1.xs.length x.1.xs x.2.2.1 x.1.ys.length x.1.ys x.2.2.2 x.1.fs.length x.1.fs := by
  have hp := h.apart
  unfold kpR at hp
  exact ⟨h.own (kpN x) (by simp [kpR]), h.own (kpV x) (by simp [kpR]), h.own (kpF x) (by simp [kpR]), fun g hg => (List.pairwise_cons.1 hp).1 (kpV x) (by simp) g hg⟩
/-- The measure is negative, or what is left of L. -/
def SzKeptS (L : Int) (ks : List KpD) (w : World) (e : Ending) (w' : World) : Prop :=
  ∃ r : Int, e = .returned (.int .i64 r) ∧ r ≤ L ∧ (0 ≤ r → r + (wtK ks : Int) ≤ L ∧ ∀ k ∈ ks, KpSmall k) ∧ Below w.heap.size w w'

set_option maxHeartbeats 8000000 in
set_option maxRecDepth 100000 in
theorem szKeptS_any (L : Int) (hL0 : 0 ≤ L) (hL1 : L ≤ 1048576) (B : Nat) (a : Option Addr) (n cap : Nat) (ks : List KpD) (w : World) (harg : ArgKept w B a n ks) (hB : B ≤ w.heap.size) (hn : n ≤ maxLen) (hsz : ∀ k ∈ ks, KpMax k) :
    Calls Tryz.prog 21 #[.slice a n cap, .int .i64 L] w fun e w' => SzKeptS L ks w e w' := by
  unfold maxLen at hn
  have HS : Hid (∀ k ∈ ks, KpMax k) := hsz
  have HLN : Hid (ks.length = n) := harg.1
  have HA : Hid (∀ W, Below w.heap.size w W → ArgKept W B a n ks) := fun W h => harg.below (h.mono hB)
  have HBB : Hid (∀ W, Below w.heap.size w W → B ≤ W.heap.size) := fun W h => Nat.le_trans hB h.size
  clear hsz harg hB
  by_cases c1 : L - (n : Int) < 0
  · go_enter Tryz.func21, Tryz.ntmps21
    go_wp2
    go_ret
    exact ⟨-1, rfl, by omega, fun h => absurd h (by omega), Below.refl _ _⟩
  · go_enter Tryz.func21, Tryz.ntmps21
    go_wp2
    go_loopw [1, 5] (fun lf i wr => ∃ (k : Nat) (x : Int), k ≤ n ∧ i = .int .i64 (k : Int) ∧ lf = .int .i64 x ∧ 0 ≤ x ∧ x ≤ L ∧ Hid (x + (wtK (ks.take k) : Int) + ((n : Int) - (k : Int)) ≤ L ∧ ∀ y ∈ ks.take k, KpSmall y) ∧ Hid (Below w.heap.size w wr)) (fun _ i _ => n - (intOf i).toNat)
    case atStart => exact ⟨0, _, Nat.zero_le _, rfl, rfl, by omega, by omega, ⟨by simp [wtK], fun x hx => by simp at hx⟩, Below.refl _ _⟩
    case round =>
      obtain ⟨k, x, hk, rfl, rfl, hx0, hx1, HX, HBW⟩ := hrel
      by_cases hlt : k < n
      · have hlt2 : (k : Int) < (n : Int) := by omega
        obtain ⟨b, off, rfl, hbB, a1, n1, c1, a2, n2, c2, a3, n3, c3, ⟨r0, r1, r2, r3, r4, r5, r6, r7, r8⟩, g1, g2, g3⟩ := (HA.out wr HBW.out).2 k hlt
        obtain ⟨y, hy⟩ : ∃ y, y = kpAt ks k := ⟨_, rfl⟩
        have HM : Hid (y ∈ ks) := by show _ ∈ _; rw [hy]; exact kpAt_mem ks k (by rw [HLN.out]; exact hlt)
        have HTK : Hid (ks.take (k + 1) = ks.take k ++ [y]) := by show _ = _; rw [hy]; exact kpAt_take ks k (by rw [HLN.out]; exact hlt)
        rw [← hy] at r0 r3 r5 r6 r7 r8 g1 g2 g3
        have HG1 : Hid (ArgT wr B a1 n1 y.xs) := g1
        have HG2 : Hid (ArgT wr B a2 n2 y.ys) := g2
        have HG3 : Hid (ArgF wr B a3 n3 y.fs) := g3
        clear hy g1 g2 g3
        go_wp2_with fail
        refine (szKept_any x hx0 (by omega) y.p a1 n1 c1 y.xs a2 n2 c2 y.ys y.st a3 n3 c3 y.fs y.b y.t y.a y.q B _ HG1.out HG2.out HG3.out (HBB.out _ HBW.out) (by rw [← HG1.out.len]; exact (HS.out y HM.out).1) (by rw [← HG2.out.len]; exact (HS.out y HM.out).2.1) (by rw [← HG3.out.len]; exact (HS.out y HM.out).2.2.1) (by rw [← HG1.out.len]; exact (HS.out y HM.out).2.2.2.1) (by rw [← HG2.out.len]; exact (HS.out y HM.out).2.2.2.2.1) (by rw [← HG3.out.len]; exact (HS.out y HM.out).2.2.2.2.2.1) (HS.out y HM.out).2.2.2.2.2.2.1 (HS.out y HM.out).2.2.2.2.2.2.2).mono ?_
        rintro e w1 ⟨r, rfl, hr1, hr2, bw⟩
        have HB2 : Hid (Below w.heap.size w w1) := HBW.out.trans (bw.mono HBW.out.size)
        clear r0 r1 r2 r3 r4 r5 r6 r7 r8 bw
        by_cases d1 : r < 0
        · clear hr2
          go_wp2
          go_ret
          exact ⟨-1, rfl, by omega, fun h => absurd h (by omega), HB2.out⟩
        · have HX2 : Hid (r + (wtK (ks.take (k + 1)) : Int) + ((n : Int) - ((k + 1 : Nat) : Int)) ≤ L ∧ ∀ y ∈ ks.take (k + 1), KpSmall y) := by
            obtain ⟨q1, q2, q3, q4, q5, q6⟩ := hr2 (by omega)
            obtain ⟨m1, m2⟩ := HX.out
            rw [← HG1.out.len] at q1 q3
            rw [← HG2.out.len] at q1 q4
            rw [← HG3.out.len] at q1 q5 q6
            refine ⟨?_, fun z hz => ?_⟩
            · rw [HTK.out, wtK_snoc]
              omega
            · rw [HTK.out] at hz
              rcases List.mem_append.1 hz with hz | hz
              · exact m2 z hz
              · rw [List.mem_singleton.1 hz]; exact ⟨q2, q3, q4, q5, q6⟩
          clear hr2
          go_wp2
          go_roundw
          case rel => exact ⟨k + 1, r, by omega, by go_num, rfl, by omega, by omega, HX2, HB2⟩
          case measure => simp [intOf]; omega
      · have HF : Hid (x + (wtK ks : Int) ≤ L ∧ ∀ k ∈ ks, KpSmall k) := by
          obtain ⟨m1, m2⟩ := HX.out
          rw [List.take_of_length_le (by rw [HLN.out]; omega)] at m1 m2
          exact ⟨by omega, m2⟩
        go_wp2
        go_ret
        exact ⟨x, rfl, by omega, fun _ => HF.out, HBW.out⟩

theorem infoKept : (Tryz.prog.info? 71).map (fun i => (i.zero, i.size, i.bytes)) = some (some (.agg #[.string ⟨#[]⟩, .slice none 0 0, .slice none 0 0, .int .i64 0, .slice none 0 0, .string ⟨#[]⟩, .int .i64 0, .int .i64 0, .int .i64 0]), 9, 136) := by kernel_rfl
/-- A call answers a list of these, of its own. -/
def KeptIs (ks : List KpD) (w : World) (e : Ending) (w' : World) : Prop := ∃ (V : Value) (kv : List (KpD × Value × Value × Value)), e = .returned V ∧ kv.map (·.1) = ks ∧ KeptsO w' w.heap.size V kv ∧ Below w.heap.size w w'
theorem KeptsO.obj {w : World} {base : Nat} {V : Value} {kv : List (KpD × Value × Value × Value)} (h : KeptsO w base V kv) {x : KpD × Value × Value × Value} (hx : x ∈ kv) : RowsO w base (kpR x) := by
  obtain ⟨s, t, e⟩ := List.append_of_mem hx
  refine RowsO.sub h ?_
  unfold kpAll
  rw [e, List.flatMap_append, List.flatMap_cons]
  exact ((List.sublist_append_left _ _).trans (List.sublist_append_right _ _)).trans (List.sublist_cons_self _ _)
/-- Told item by item, and the items' own lists behind the row: a list of one's own. -/
theorem parts_kept {w : World} {g n base : Nat} {kv : List (KpD × Value × Value × Value)} (hp : PartO kpC 9 71 w g n kv) (hl : kv.length = n) (hm : n ≤ maxLen) (hb : base ≤ g) (hr : RowsO w (g + 1) (kv.flatMap kpR)) : KeptsO w base (.slice (some ⟨g, 0, none⟩) n n) kv := by
  have hrow : (kpRow (.slice (some ⟨g, 0, none⟩) n n) kv).own w base := by
    have h := hp.owns kpC_len (by decide) hl hm hb
    unfold Rw.own kpRow
    rw [hl]
    exact h
  refine ⟨fun r h => ?_, List.pairwise_cons.2 ⟨fun r h g' h1 h2 => ?_, hr.apart⟩⟩
  · rcases List.mem_cons.1 h with h | h
    · rw [h]; exact hrow
    · exact owns_wide (hr.own r h) (by omega)
  · have e1 : some g = some g' := h1
    have e2 := hr.ge h h2
    have e3 := Option.some.inj e1
    omega

set_option maxHeartbeats 8000000 in
set_option maxRecDepth 100000 in
theorem toKeptS_any (B : Nat) (a : Option Addr) (n cap : Nat) (ks : List KpD) (w : World) (harg : ArgKept w B a n ks) (hB : B ≤ w.heap.size) (hn : n ≤ 1048576) (hsm : ∀ k ∈ ks, k.xs.length ≤ 1048576 ∧ k.ys.length ≤ 1048576 ∧ k.fs.length ≤ 1048576) :
    Calls Tryz.prog 28 #[.slice a n cap] w fun e w' => KeptIs ks w e w' := by
  obtain ⟨i0, hi, hz0, hz1, hz2⟩ := info_parts infoKept
  obtain ⟨M, hM⟩ : ∃ M, M = madeCells (Value.agg #[.string ⟨#[]⟩, .slice none 0 0, .slice none 0 0, .int .i64 0, .slice none 0 0, .string ⟨#[]⟩, .int .i64 0, .int .i64 0, .int .i64 0]).cells (((n : Nat) : Int).toNat * i0.size) := ⟨_, rfl⟩
  have hmk : ∀ W : World, (Instr.makeSlice 35 (.int .i64 (n : Int)) (.int .i64 (n : Int))).run Tryz.prog W = .ok (.slice (some ⟨W.heap.size, 0, none⟩) n n) (W.alloc (.cells M 71)) := fun W => by
    have h := run_make (P := Tryz.prog) W 35 71 i0 (.agg #[.string ⟨#[]⟩, .slice none 0 0, .slice none 0 0, .int .i64 0, .slice none 0 0, .string ⟨#[]⟩, .int .i64 0, .int .i64 0, .int .i64 0]) Tryz.underlying35 hi hz0 .i64 .i64 (n : Int) (n : Int) (by omega) (by omega) (by rw [hz2]; omega) (by omega)
    rw [← hM] at h
    simpa using h
  have hMs : M.size = n * 9 := by rw [hM, size_madeCells, hz1]; simp
  have HLN : Hid (ks.length = n) := harg.1
  have HSM : Hid (∀ k ∈ ks, k.xs.length ≤ 1048576 ∧ k.ys.length ≤ 1048576 ∧ k.fs.length ≤ 1048576) := hsm
  have HA : Hid (∀ W, Below w.heap.size w W → ArgKept W B a n ks) := fun W h => harg.below (h.mono hB)
  have HBB : Hid (∀ W, Below w.heap.size w W → B ≤ W.heap.size) := fun W h => Nat.le_trans hB h.size
  clear hM harg hsm hB
  obtain ⟨g, hg⟩ : ∃ g, g = w.heap.size := ⟨_, rfl⟩
  have HG : Hid (w.heap.size = g) := hg.symm
  have HP : Hid (([] : List (KpD × Value × Value × Value)).length = 0 ∧ ([] : List (KpD × Value × Value × Value)).map (·.1) = ks.take 0 ∧ PartO kpC 9 71 (w.alloc (.cells M 71)) g n [] ∧ RowsO (w.alloc (.cells M 71)) (g + 1) (([] : List (KpD × Value × Value × Value)).flatMap kpR)) := ⟨rfl, by simp, ⟨M, by rw [hg]; exact heap_alloc_new w _, hMs, fun i h => absurd h (by simp)⟩, RowsO.nil _ _⟩
  have HPB : Hid (Below w.heap.size w (w.alloc (.cells M 71))) := (Below.refl _ _).alloc (Nat.le_refl _) _
  go_enter Tryz.func28, Tryz.ntmps28
  go_wp2
  rw [HG.out]
  clear hg hMs
  go_loopw [4] (fun i wr => ∃ (k : Nat) (kv : List (KpD × Value × Value × Value)), k ≤ n ∧ i = .int .i64 (k : Int) ∧ Hid (kv.length = k ∧ kv.map (·.1) = ks.take k ∧ PartO kpC 9 71 wr g n kv ∧ RowsO wr (g + 1) (kv.flatMap kpR)) ∧ Hid (Below w.heap.size w wr)) (fun i _ => n - (intOf i).toNat)
  case atStart => exact ⟨0, [], Nat.zero_le _, rfl, HP, HPB⟩
  case round =>
    obtain ⟨k, kv, hk, rfl, hpr, HBW⟩ := hrel
    by_cases hlt : k < n
    · have hlt2 : (k : Int) < (n : Int) := by omega
      obtain ⟨b, off, rfl, hbB, a1, n1, c1, a2, n2, c2, a3, n3, c3, ⟨r0, r1, r2, r3, r4, r5, r6, r7, r8⟩, g1, g2, g3⟩ := (HA.out wr HBW.out).2 k hlt
      obtain ⟨y, hy⟩ : ∃ y, y = kpAt ks k := ⟨_, rfl⟩
      have HM : Hid (y ∈ ks) := by show _ ∈ _; rw [hy]; exact kpAt_mem ks k (by rw [HLN.out]; exact hlt)
      have HTK : Hid (ks.take (k + 1) = ks.take k ++ [y]) := by show _ = _; rw [hy]; exact kpAt_take ks k (by rw [HLN.out]; exact hlt)
      rw [← hy] at r0 r3 r5 r6 r7 r8 g1 g2 g3
      have HG1 : Hid (ArgT wr B a1 n1 y.xs) := g1
      have HG2 : Hid (ArgT wr B a2 n2 y.ys) := g2
      have HG3 : Hid (ArgF wr B a3 n3 y.fs) := g3
      clear hy g1 g2 g3
      go_wp2_with fail
      refine (toKept_any y.p a1 n1 c1 y.xs a2 n2 c2 y.ys y.st a3 n3 c3 y.fs y.b y.t y.a y.q B _ HG1.out HG2.out HG3.out (HBB.out _ HBW.out) (by rw [← HG1.out.len]; exact (HSM.out y HM.out).1) (by rw [← HG2.out.len]; exact (HSM.out y HM.out).2.1) (by rw [← HG3.out.len]; exact (HSM.out y HM.out).2.2)).mono ?_
      rintro e w1 ⟨v1, v2, v3, rfl, hobj, bw⟩
      clear r0 r1 r2 r3 r4 r5 r6 r7 r8
      obtain ⟨o1, p1, rfl⟩ := slice_of_owns hobj.names
      obtain ⟨o2, p2, rfl⟩ := slice_of_owns hobj.vals
      obtain ⟨o3, p3, rfl⟩ := slice_of_owns hobj.flds
      obtain ⟨q1, q2, q3, q4⟩ := hpr.out
      have hgl : g < wr.heap.size := q3.lt
      have HB2 : Hid (Below w.heap.size w w1) := HBW.out.trans (bw.mono HBW.out.size)
      have hpr1 := q3.below bw
      obtain ⟨x, hx⟩ : ∃ x : KpD × Value × Value × Value, x = (y, .slice o1 n1 p1, .slice o2 n2 p2, .slice o3 n3 p3) := ⟨_, rfl⟩
      have hnew : RowsO w1 wr.heap.size (kpR x) := by
        rw [hx]
        apply objO_rows
        rw [HG1.out.len, HG2.out.len, HG3.out.len]
        exact hobj
      have hall : RowsO w1 (g + 1) (kv.flatMap kpR ++ kpR x) := q4.more bw hnew (Nat.le_refl _) hgl
      have HALL : Hid ((kv ++ [x]).length = k + 1 ∧ (kv ++ [x]).map (·.1) = ks.take (k + 1) ∧ PartO kpC 9 71 (setW w1 g (k * 9) (kpC x)) g n (kv ++ [x]) ∧ RowsO (setW w1 g (k * 9) (kpC x)) (g + 1) ((kv ++ [x]).flatMap kpR)) := by
        refine ⟨by rw [List.length_append, q1]; rfl, by rw [List.map_append, q2, HTK.out, hx]; rfl, ?_, ?_⟩
        · have h := hpr1.put kpC_len x (by omega)
          rw [q1] at h
          exact h
        · rw [List.flatMap_append]
          have h2 : RowsO (setW w1 g (k * 9) (kpC x)) (g + 1) (kv.flatMap kpR ++ kpR x) := hall.same (fun r hr j hj => setW_other g j (by have := hall.ge hr hj; omega) _ _ _)
          simpa using h2
      have HBE : Hid (Below w.heap.size w (setW w1 g (k * 9) (kpC x))) := setW_below (by rw [HG.out]; exact Nat.le_refl _) _ _ _ _ HB2.out
      rw [hx] at HALL HBE
      obtain ⟨u0, hu0⟩ := hpr1.cell (k * 9) (by omega)
      have f0 := hpr1.frozen (k * 9)
      obtain ⟨u1, hu1⟩ := hpr1.cell (k * 9 + 1) (by omega)
      have f1 := hpr1.frozen (k * 9 + 1)
      obtain ⟨u2, hu2⟩ := hpr1.cell (k * 9 + 2) (by omega)
      have f2 := hpr1.frozen (k * 9 + 2)
      obtain ⟨u3, hu3⟩ := hpr1.cell (k * 9 + 3) (by omega)
      have f3 := hpr1.frozen (k * 9 + 3)
      obtain ⟨u4, hu4⟩ := hpr1.cell (k * 9 + 4) (by omega)
      have f4 := hpr1.frozen (k * 9 + 4)
      obtain ⟨u5, hu5⟩ := hpr1.cell (k * 9 + 5) (by omega)
      have f5 := hpr1.frozen (k * 9 + 5)
      obtain ⟨u6, hu6⟩ := hpr1.cell (k * 9 + 6) (by omega)
      have f6 := hpr1.frozen (k * 9 + 6)
      obtain ⟨u7, hu7⟩ := hpr1.cell (k * 9 + 7) (by omega)
      have f7 := hpr1.frozen (k * 9 + 7)
      obtain ⟨u8, hu8⟩ := hpr1.cell (k * 9 + 8) (by omega)
      have f8 := hpr1.frozen (k * 9 + 8)
      clear hpr1 hall hnew hx q1 q2 q3 q4 hobj bw hpr
      go_wp2
      go_roundw
      case rel => exact ⟨k + 1, _, by omega, by go_num, HALL, HBE⟩
      case measure => simp [intOf]; omega
    · obtain rfl : k = n := by omega
      obtain ⟨q1, q2, q3, q4⟩ := hpr.out
      have HF : Hid (kv.map (·.1) = ks ∧ KeptsO wr w.heap.size (.slice (some ⟨g, 0, none⟩) k k) kv) := by
        refine ⟨?_, parts_kept q3 q1 (by unfold maxLen; omega) (by rw [HG.out]; exact Nat.le_refl _) q4⟩
        rw [q2, List.take_of_length_le (by rw [HLN.out]; exact Nat.le_refl _)]
      clear q1 q2 q3 q4
      go_wp2
      go_ret
      exact ⟨_, kv, rfl, HF.out.1, HF.out.2, HBW.out⟩

end Go.Proofs.YtcipbkkpkhameaaGreat

namespace Go.Proofs.YtcipbkkpkhameaaGreat
open Go.RowKit
open Go.Lib hiding intOf

/-- One of a list, with its slices. -/
def kvAt (kv : List (KpD × Value × Value × Value)) (i : Nat) : KpD × Value × Value × Value := kv.getD i (zeroK, .slice none 0 0, .slice none 0 0, .slice none 0 0)
theorem kvAt_get (kv : List (KpD × Value × Value × Value)) (i : Nat) (h : i < kv.length) : kv[i]'h = kvAt kv i := by
  unfold kvAt
  rw [List.getD_eq_getElem?_getD, List.getElem?_eq_getElem h]
  rfl
theorem kvAt_mem (kv : List (KpD × Value × Value × Value)) (i : Nat) (h : i < kv.length) : kvAt kv i ∈ kv := by rw [← kvAt_get kv i h]; exact List.getElem_mem h
theorem kvAt_take (kv : List (KpD × Value × Value × Value)) (i : Nat) (h : i < kv.length) : kv.take (i + 1) = kv.take i ++ [kvAt kv i] := by rw [← kvAt_get kv i h, List.take_succ_eq_append_getElem h]
theorem kvAt_fst (kv : List (KpD × Value × Value × Value)) (i : Nat) (h : i < kv.length) : (kvAt kv i).1 = kpAt (kv.map (·.1)) i := by
  rw [← kvAt_get kv i h, ← kpAt_get _ i (by rw [List.length_map]; exact h)]
  simp
/-- One that is kept can be read. -/
def KpRead (w : World) (k : KpD) (v1 v2 v3 : Value) : Prop := ∃ B, RowsO w B (kpR (k, v1, v2, v3))
theorem KeptsO.read {w : World} {base : Nat} {V : Value} {kv : List (KpD × Value × Value × Value)} (h : KeptsO w base V kv) {k : KpD} {v1 v2 v3 : Value} (hx : (k, v1, v2, v3) ∈ kv) : KpRead w k v1 v2 v3 := ⟨base, h.obj hx⟩
theorem KeptsO.look {w : World} {base : Nat} {V : Value} {kv : List (KpD × Value × Value × Value)} (h : KeptsO w base V kv) (i : Nat) (hi : i < kv.length) : ∃ g cap, V = .slice (some ⟨g, 0, none⟩) kv.length cap ∧ g < w.heap.size ∧ KpAt w g i (kvAt kv i) := by
  rw [← kvAt_get kv i hi]
  exact h.at i hi
theorem small_get {k : KpD} (h : KpSmall k) (x : ByteArray) : (getV k.fs x).size ≤ 1048576 := by
  unfold getV
  split
  · rename_i hx
    have := szTo_get k.fs k.fs.length (atF k.fs x) hx
    have := h.2.2.2.2
    omega
  · decide
theorem small_copy {k : KpD} (h : KpSmall k) : CopyF k.fs := fun i hi => by
  have := szTo_get k.fs k.fs.length i hi
  have := h.2.2.2.2
  omega
theorem small_walk {k : KpD} (h : KpSmall k) : WalkF k.fs.length k.fs := fun i hi => by
  have := szTo_get k.fs k.fs.length i hi
  have := h.2.2.2.2
  unfold maxLen
  omega
theorem small_text {xs : List ByteArray} (h : ∀ i, i < xs.length → (textAt xs i).size ≤ 1048576) : ∀ i, i < xs.length → (textAt xs i).size ≤ maxLen := fun i hi => Nat.le_trans (h i hi) (by decide)
/-- ObjOk of one that is kept. -/
theorem specObjOk_k (k : KpD) (v1 v2 v3 : Value) (w : World) (h : KpRead w k v1 v2 v3) (hs : KpSmall k) :
    Calls Tryz.prog 26 #[.agg #[.string k.p, v1, v2, .int .i64 k.st, v3, .string k.b, .int .i64 k.t]] w fun e w' => BoolIs (ObjK k) w e w' := by
  obtain ⟨B, h⟩ := h
  have ho : ObjO w B v1 k.xs.length k.xs v2 k.ys.length k.ys v3 k.fs.length k.fs := rows_objO h
  obtain ⟨o1, c1, rfl⟩ := slice_of_owns ho.names
  obtain ⟨o2, c2, rfl⟩ := slice_of_owns ho.vals
  exact specObjOk_any k.p o1 _ c1 k.xs o2 _ c2 k.ys k.st v3 _ B k.fs k.b k.t w (texts_view ho.names) (texts_view ho.vals) (FieldsV.of_owns ho.flds) (by have := hs.2.1.1; omega) (by have := hs.2.2.1.1; omega) (by have := hs.2.2.2.1; omega) (small_text hs.2.1.2) (small_text hs.2.2.1.2) (small_walk hs) (by have := hs.1.1; unfold maxLen; omega) (by have := hs.1.2; unfold maxLen; omega) (small_get hs _)
end Go.Proofs.YtcipbkkpkhameaaGreat

namespace Go.Proofs.YtcipbkkpkhameaaGreat
open Go.RowKit
open Go.Lib hiding intOf

/-- One that is known, as a value. -/
def kpX (x : KpD × Value × Value × Value) : Value := .agg #[.string x.1.p, x.2.1, x.2.2.1, .int .i64 x.1.st, x.2.2.2, .string x.1.b, .int .i64 x.1.t, .int .i64 x.1.a, .int .i64 x.1.q]
/-- An element of the map is told as itself. -/
def mpR (v : Value) : Option (DataW Value × List MemPlace) := some (.held v, [])
/-- No two in one cell. -/
def ApartA (kv : List (KpD × Value × Value × Value)) : Prop := kv.Pairwise (fun x y => x.1.a ≠ y.1.a)
/-- The map holds just these, each at its cell. -/
def MapIs (D : DataW Value) (kv : List (KpD × Value × Value × Value)) : Prop := (∀ a : Int, Maps.has D (.int .i64 a) = true ↔ ∃ x ∈ kv, x.1.a = a) ∧ ∀ x ∈ kv, ∀ z, D.atKey (.int .i64 x.1.a) z = .held (kpX x)
theorem lit_ne {a b : Int} (h : a ≠ b) : (Lit.int .i64 a) ≠ Lit.int .i64 b := fun e => h (by injection e)
theorem MapIs.nil : MapIs (.map []) [] := ⟨fun a => by simp [Maps.has], fun x hx => by simp at hx⟩
theorem has_put_int {D : DataW Value} (hD : Maps.IsMap D) (a b : Int) (d : DataW Value) : Maps.has (D.put (.int .i64 b) d) (.int .i64 a) = (decide (a = b) || Maps.has D (.int .i64 a)) := by
  by_cases h : a = b
  · subst h
    rw [Maps.has_put_same hD (show WideAt.IsKeyLit (.int .i64 _) from trivial)]
    simp
  · rw [Maps.has_put_other (lit_ne h), decide_eq_false h]
    rfl
/-- One more at a cell that is free. -/
theorem MapIs.put {D : DataW Value} {kv : List (KpD × Value × Value × Value)} (h : MapIs D kv) (hD : Maps.IsMap D) (y : KpD × Value × Value × Value) (hy : ∀ x ∈ kv, x.1.a ≠ y.1.a) : MapIs (D.put (.int .i64 y.1.a) (.held (kpX y))) (kv ++ [y]) := by
  refine ⟨fun a => ?_, fun x hx z => ?_⟩
  · rw [has_put_int hD, Bool.or_eq_true, decide_eq_true_iff, h.1 a]
    constructor
    · rintro (rfl | ⟨x, hx, e⟩)
      · exact ⟨y, by simp, rfl⟩
      · exact ⟨x, by simp [hx], e⟩
    · rintro ⟨x, hx, e⟩
      rcases List.mem_append.1 hx with hx | hx
      · exact .inr ⟨x, hx, e⟩
      · rw [List.mem_singleton.1 hx] at e
        exact .inl e.symm
  · rcases List.mem_append.1 hx with hx | hx
    · rw [Maps.atKey_put_other (lit_ne (hy x hx))]
      exact h.2 x hx z
    · rw [List.mem_singleton.1 hx]
      exact Maps.atKey_put_same hD (show WideAt.IsKeyLit (.int .i64 _) from trivial) _ _
/-- What a map tells of how many there are. -/
structure MapN (D : DataW Value) (kv : List (KpD × Value × Value × Value)) : Prop where
  tidy : Maps.Tidy D
  has : ∀ a : Int, Maps.has D (.int .i64 a) = true ↔ ∃ x ∈ kv, x.1.a = a
  le : Maps.size D ≤ kv.length
  eq : Maps.size D = kv.length ↔ ApartA kv
  is : ApartA kv → MapIs D kv
theorem MapN.nil : MapN (.map []) [] := ⟨Maps.tidy_empty, MapIs.nil.1, Nat.le_refl _, ⟨fun _ => List.Pairwise.nil, fun _ => rfl⟩, fun _ => MapIs.nil⟩
theorem apart_snoc {kv : List (KpD × Value × Value × Value)} {y : KpD × Value × Value × Value} : ApartA (kv ++ [y]) ↔ ApartA kv ∧ ∀ x ∈ kv, x.1.a ≠ y.1.a := by
  unfold ApartA
  rw [List.pairwise_append]
  simp
theorem MapN.put {D : DataW Value} {kv : List (KpD × Value × Value × Value)} (h : MapN D kv) (y : KpD × Value × Value × Value) : MapN (D.put (.int .i64 y.1.a) (.held (kpX y))) (kv ++ [y]) := by
  have hD := h.tidy.isMap
  have hs := Maps.size_put (k := .int .i64 y.1.a) h.tidy (.held (kpX y))
  have hle := h.le
  refine ⟨h.tidy.put (show WideAt.IsKeyLit (.int .i64 _) from trivial) _, fun a => ?_, ?_, ?_, fun ha => ?_⟩
  · rw [has_put_int hD, Bool.or_eq_true, decide_eq_true_iff, h.has a]
    constructor
    · rintro (rfl | ⟨x, hx, e⟩)
      · exact ⟨y, by simp, rfl⟩
      · exact ⟨x, by simp [hx], e⟩
    · rintro ⟨x, hx, e⟩
      rcases List.mem_append.1 hx with hx | hx
      · exact .inr ⟨x, hx, e⟩
      · rw [List.mem_singleton.1 hx] at e
        exact .inl e.symm
  · rw [hs, List.length_append, List.length_singleton]
    split <;> omega
  · rw [hs, List.length_append, List.length_singleton, apart_snoc, ← h.eq]
    by_cases e : Maps.has D (.int .i64 y.1.a) = true
    · rw [if_pos e]
      obtain ⟨x, hx, ex⟩ := (h.has _).1 e
      constructor
      · intro h1; omega
      · rintro ⟨_, h2⟩; exact absurd ex (h2 x hx)
    · rw [if_neg e]
      constructor
      · intro h1; exact ⟨by omega, fun x hx ex => e ((h.has _).2 ⟨x, hx, ex⟩)⟩
      · rintro ⟨h1, _⟩; omega
  · obtain ⟨h1, h2⟩ := apart_snoc.1 ha
    exact (h.is h1).put hD y h2
theorem run_makeMap_hint {P : Program} {t k e : TypeId} (hu : P.underlying t = some (.map k e)) (n : Int) (w : World) : (Instr.makeMap t (some (.int .i64 n))).run P w = .ok (.map (some w.heap.size)) (w.alloc (.map #[] 0)) := by
  simp [Instr.makeMap, run_underlying hu, asInt, asIntOf, Result.andThen]
theorem map_below {P : Program} {k : TypeId} {R : Value → Option (DataW Value × List MemPlace)} {w w' : World} {b n : Nat} {D : DataW Value} (h : w.ownsMap P k R b n D) (hb : Below w.heap.size w w') : w'.ownsMap P k R b n D := by
  have hlt := h.lt
  obtain ⟨es, clock, h1, h2⟩ := h
  exact ⟨es, clock, (hb.block b hlt).trans h1, h2⟩
theorem map_ne {P : Program} {k : TypeId} {R : Value → Option (DataW Value × List MemPlace)} {w : World} {b n q : Nat} {D : DataW Value} {cs : Array Value} {T : TypeId} {fr : Nat × Nat} (h : w.ownsMap P k R b n D) (hq : w.heap[q]? = some (.cells cs T fr)) : b ≠ q := by
  obtain ⟨es, clock, h1, _⟩ := h
  intro e
  subst e
  rw [h1] at hq
  cases hq
theorem map_blk {P : Program} {k : TypeId} {R : Value → Option (DataW Value × List MemPlace)} {w w' : World} {b n q : Nat} {D : DataW Value} {cs : Array Value} {T : TypeId} {fr : Nat × Nat} (h : w.ownsMap P k R b n D) (hq : w.heap[q]? = some (.cells cs T fr)) (hg : w.grownBy w' (some b)) : w'.heap[q]? = some (.cells cs T fr) :=
  (hg.block q (Array.getElem?_eq_some_iff.1 hq).1 (fun e => map_ne h hq (Option.some.inj e).symm)).trans hq
/-- The keys' type. -/
theorem keyInt : Maps.Keyed Tryz.prog 3 := Maps.int_keyed Tryz.underlying3
theorem key_wf {a : Int} (h0 : 0 ≤ a) (h1 : a ≤ 1000) : keyOf Tryz.prog 3 (.int .i64 a) = some (.int .i64 a) := Maps.keyOf_int_mk Tryz.underlying3 (WalkArith.wf_i64 (by omega))
/-- A map of what is known, in a block of one's own. -/
def KnownO (w : World) (b n : Nat) (D : DataW Value) : Prop := w.ownsMap Tryz.prog 3 mpR b n D
/-- A call answers a map of its own that holds these. -/
def KnownIs (kv : List (KpD × Value × Value × Value)) (w : World) (e : Ending) (w' : World) : Prop := ∃ (b n : Nat) (D : DataW Value), e = .returned (.map (some b)) ∧ n ≤ kv.length ∧ KnownO w' b n D ∧ MapN D kv ∧ w.heap.size ≤ b ∧ Below w.heap.size w w'

end Go.Proofs.YtcipbkkpkhameaaGreat

namespace Go.Proofs.YtcipbkkpkhameaaGreat
open Go.RowKit
open Go.Lib hiding intOf

/-- Texts as an array's cells. -/
def cellsA (l : List ByteArray) : Array Value := (l.map Value.string).toArray
/-- Twenty empty texts. -/
def noneA : List ByteArray := List.replicate 20 ⟨#[]⟩
/-- The cells with one written. -/
def withP (l : List ByteArray) (x : Int) (t : ByteArray) : List ByteArray := if 0 ≤ x ∧ x < 20 then l.set x.toNat t else l
/-- A call answers an array of texts. -/
def ArrIs (l : List ByteArray) (w : World) (e : Ending) (w' : World) : Prop := e = .returned (.agg (cellsA l)) ∧ Below w.heap.size w w'
theorem cellsA_size (l : List ByteArray) : (cellsA l).size = l.length := by simp [cellsA]
theorem cellsA_at (l : List ByteArray) (i : Nat) (h : i < l.length) : (cellsA l)[i]? = some (.string (textAt l i)) := by
  unfold cellsA
  rw [List.getElem?_toArray, List.getElem?_map, getElem_textAt l i h]
  rfl
theorem cellsA_set (l : List ByteArray) (i : Nat) (t : ByteArray) : (cellsA l).setIfInBounds i (.string t) = cellsA (l.set i t) := by
  unfold cellsA
  rw [List.setIfInBounds_toArray, List.map_set]
theorem noneA_len : noneA.length = 20 := rfl
theorem noneA_cells : cellsA noneA = #[.string ⟨#[]⟩, .string ⟨#[]⟩, .string ⟨#[]⟩, .string ⟨#[]⟩, .string ⟨#[]⟩, .string ⟨#[]⟩, .string ⟨#[]⟩, .string ⟨#[]⟩, .string ⟨#[]⟩, .string ⟨#[]⟩, .string ⟨#[]⟩, .string ⟨#[]⟩, .string ⟨#[]⟩, .string ⟨#[]⟩, .string ⟨#[]⟩, .string ⟨#[]⟩, .string ⟨#[]⟩, .string ⟨#[]⟩, .string ⟨#[]⟩, .string ⟨#[]⟩] := rfl
theorem withP_len (l : List ByteArray) (x : Int) (t : ByteArray) : (withP l x t).length = l.length := by
  unfold withP
  split
  · exact List.length_set
  · rfl
theorem infoA {l : List ByteArray} (h : l.length = 20) : (Tryz.prog.info? 153).map (·.size) = some (cellsA l).size := by
  rw [cellsA_size, h]
  kernel_rfl
theorem cellsA_one (l : List ByteArray) : (cellsA l).all (·.oneCell') = true := by
  unfold cellsA
  rw [List.all_toArray, List.all_eq_true]
  intro v hv
  obtain ⟨a, _, rfl⟩ := List.mem_map.1 hv
  rfl
theorem below_setRow {B : Nat} {a w : World} (h : Below B a w) (g : Nat) (cs : Array Value) (hg : B ≤ g) : Below B a (w.setRow g cs) :=
  h.trans ⟨rfl, rfl, rfl, by simp, fun k hk => setRow_other w g k cs (by omega)⟩
theorem new1 {w : World} {A B C : Obj} : (((w.alloc A).alloc B).alloc C).heap[w.heap.size]? = some A := blk_alloc (blk_alloc (heap_alloc_new w A) B) C
theorem new2 {w : World} {A B C : Obj} : (((w.alloc A).alloc B).alloc C).heap[w.heap.size + 1]? = some B := blk_alloc (heap_alloc2_new w A B) C
theorem new3 {w : World} {A B C : Obj} : (((w.alloc A).alloc B).alloc C).heap[w.heap.size + 1 + 1]? = some C := by
  have h := heap_alloc_new ((w.alloc A).alloc B) C
  have e : ((w.alloc A).alloc B).heap.size = w.heap.size + 1 + 1 := by simp
  rwa [e] at h
theorem new_below {w : World} {A B C : Obj} : Below w.heap.size w (((w.alloc A).alloc B).alloc C) :=
  (((Below.refl _ _).alloc (Nat.le_refl _) _).alloc (by simp) _).alloc (by simp; omega) _

set_option maxHeartbeats 4000000 in
theorem with_any (l : List ByteArray) (hl : l.length = 20) (x : Int) (t : ByteArray) (w : World) :
    Calls Tryz.prog 106 #[.agg (cellsA l), .agg #[.int .i64 x, .string t]] w fun e w' => ArrIs (withP l x t) w e w' := by
  have HL : Hid (l.length = 20) := hl
  have HLW : Hid ((withP l x t).length = 20) := (withP_len l x t).trans hl
  clear hl
  go_enter Tryz.func106, Tryz.ntmps106
  go_upto_region 1 with fail
  obtain ⟨w3, hw3⟩ : ∃ W, W = ((w.alloc (.cells (cellsA l) 153)).alloc (.cells #[.int .i64 x, .string t] 110)).alloc (.cells #[.string ⟨#[]⟩, .string ⟨#[]⟩, .string ⟨#[]⟩, .string ⟨#[]⟩, .string ⟨#[]⟩, .string ⟨#[]⟩, .string ⟨#[]⟩, .string ⟨#[]⟩, .string ⟨#[]⟩, .string ⟨#[]⟩, .string ⟨#[]⟩, .string ⟨#[]⟩, .string ⟨#[]⟩, .string ⟨#[]⟩, .string ⟨#[]⟩, .string ⟨#[]⟩, .string ⟨#[]⟩, .string ⟨#[]⟩, .string ⟨#[]⟩, .string ⟨#[]⟩] 153) := ⟨_, rfl⟩
  rw [← hw3]
  have HBW : Hid (Below w.heap.size w w3) := by rw [hw3]; exact new_below
  have hA : w3.heap[w.heap.size]? = some (.cells (cellsA l) 153) := by rw [hw3]; exact new1
  have hB : w3.heap[w.heap.size + 1]? = some (.cells #[.int .i64 x, .string t] 110) := by rw [hw3]; exact new2
  have hC : w3.heap[w.heap.size + 1 + 1]? = some (.cells (cellsA noneA) 153) := by rw [hw3]; exact new3
  obtain ⟨q, hq⟩ : ∃ q, q = w.heap.size := ⟨_, rfl⟩
  have HQ : Hid (w.heap.size ≤ q) := by rw [hq]; exact Nat.le_refl _
  rw [← hq] at hA hB hC
  rw [← hq]
  have HA : Hid (w3.heap[q]? = some (.cells (cellsA l) 153)) := hA
  have HC : Hid (w3.heap[q + 1 + 1]? = some (.cells (cellsA noneA) 153)) := hC
  have c0 := (cell_of hB 0)
  have c1 := (cell_of hB 1)
  simp only [List.getElem?_toArray, List.getElem?_cons_zero, List.getElem?_cons_succ] at c0 c1
  clear hw3 hA hB hC hq
  by_cases h0 : 0 ≤ x
  · by_cases h1 : x < 20
    · have HE : Hid (withP l x t = l.set x.toNat t) := by unfold withP; rw [Hid, if_pos ⟨h0, h1⟩]
      have c2 : w3.cell? ⟨q, x.toNat, none⟩ = some (.string (textAt l x.toNat)) := (cell_of HA.out _).trans (cellsA_at l _ (by rw [HL.out]; omega))
      have c3 := frozen_of HA.out x.toNat
      go_upto_region 3 with fail
      obtain ⟨w4, hw4⟩ : ∃ W, W = w3.setCell ⟨q, x.toNat, none⟩ (.string t) := ⟨_, rfl⟩
      rw [← hw4]
      have HA4 : Hid (w4.heap[q]? = some (.cells (cellsA (withP l x t)) 153)) := by
        rw [Hid, hw4, HE.out, ← cellsA_set]
        exact heap_setCell_same w3 q _ _ 153 _ HA.out
      have HC4 : Hid (w4.heap[q + 1 + 1]? = some (.cells (cellsA noneA) 153)) := by
        rw [Hid, hw4, heap_setCell_other w3 _ _ _ (by simp; omega)]
        exact HC.out
      have HB4 : Hid (Below w.heap.size w w4) := by rw [hw4]; exact HBW.out.setCell HQ.out _
      clear hw4 HA HC HBW c0 c1 c2 c3 h0 h1
      go_wp2_with (first | refine wpList_load_row rfl 153 _ rfl q rfl 153 _ (0, 0) _ HA4.out Tryz.underlying153 rfl (infoA HLW.out) ?_ | refine wpList_store_row rfl 153 _ _ rfl (q + 1 + 1) _ rfl rfl 153 _ HC4.out (infoA HLW.out) (by rw [cellsA_size, cellsA_size, HLW.out, noneA_len]) (cellsA_one _) ?_)
      exact bodyPost_ret (v := .agg (cellsA (withP l x t))) (results_cell_row Tryz.results106 _ _ (q + 1 + 1) 153 _ (0, 0) _ rfl (setRow_heap _ _ _ _ _ _ HC4.out) Tryz.underlying153 rfl (infoA HLW.out)) rfl ⟨rfl, below_setRow HB4.out _ _ (Nat.le_trans HQ.out (by omega))⟩
    · have HE : Hid (withP l x t = l) := by unfold withP; rw [Hid, if_neg (fun h => h1 h.2)]
      go_upto_region 3 with fail
      clear c0 c1 h0 h1
      rw [← HE.out] at HA
      go_wp2_with (first | refine wpList_load_row rfl 153 _ rfl q rfl 153 _ (0, 0) _ HA.out Tryz.underlying153 rfl (infoA HLW.out) ?_ | refine wpList_store_row rfl 153 _ _ rfl (q + 1 + 1) _ rfl rfl 153 _ HC.out (infoA HLW.out) (by rw [cellsA_size, cellsA_size, HLW.out, noneA_len]) (cellsA_one _) ?_)
      exact bodyPost_ret (v := .agg (cellsA (withP l x t))) (results_cell_row Tryz.results106 _ _ (q + 1 + 1) 153 _ (0, 0) _ rfl (setRow_heap _ _ _ _ _ _ HC.out) Tryz.underlying153 rfl (infoA HLW.out)) rfl ⟨rfl, below_setRow HBW.out _ _ (Nat.le_trans HQ.out (by omega))⟩
  · have HE : Hid (withP l x t = l) := by unfold withP; rw [Hid, if_neg (fun h => h0 h.1)]
    go_upto_region 3 with fail
    clear c0 c1 h0
    rw [← HE.out] at HA
    go_wp2_with (first | refine wpList_load_row rfl 153 _ rfl q rfl 153 _ (0, 0) _ HA.out Tryz.underlying153 rfl (infoA HLW.out) ?_ | refine wpList_store_row rfl 153 _ _ rfl (q + 1 + 1) _ rfl rfl 153 _ HC.out (infoA HLW.out) (by rw [cellsA_size, cellsA_size, HLW.out, noneA_len]) (cellsA_one _) ?_)
    exact bodyPost_ret (v := .agg (cellsA (withP l x t))) (results_cell_row Tryz.results106 _ _ (q + 1 + 1) 153 _ (0, 0) _ rfl (setRow_heap _ _ _ _ _ _ HC.out) Tryz.underlying153 rfl (infoA HLW.out)) rfl ⟨rfl, below_setRow HBW.out _ _ (Nat.le_trans HQ.out (by omega))⟩

end Go.Proofs.YtcipbkkpkhameaaGreat

namespace Go.Proofs.YtcipbkkpkhameaaGreat
open Go.RowKit
open Go.Lib hiding intOf

/-- Every write is to a cell. -/
def AllIn (ws : List (Int × ByteArray)) : Prop := ∀ x ∈ ws, 0 ≤ x.1 ∧ x.1 ≤ 19
theorem guardA : Tryz.prog.eqGuardType Tryz.prog.depth 153 = false := by kernel_rfl
theorem equalA (xs ys : List ByteArray) (hx : xs.length = 20) (hy : ys.length = 20) (w : World) :
    (Op.equalIn 10000 153 (.agg (cellsA xs)) (.agg (cellsA ys))).run Tryz.prog w = .ok ((List.range' 0 20 1).all (fun i => (textAt xs i).toList == (textAt ys i).toList)) w := by
  rw [show (10000 : Nat) = 9999 + 1 from rfl, Op.equalIn]
  simp only [Sem.run_bind, run_underlying Tryz.underlying153, Result.andThen_ok, Tryz.sizeOf9, Std.Legacy.Range.forIn_eq_forIn_range', Std.Legacy.Range.size, Nat.sub_zero, Nat.add_sub_cancel, Nat.div_one]
  have hl : ∀ i ∈ List.range' 0 20 1, i < 20 := fun i hi => by simpa using (List.mem_range'_1.1 hi).2
  generalize List.range' 0 20 1 = l at hl ⊢
  induction l with
  | nil => simp
  | cons i l ih =>
    have hi : i < 20 := hl i (by simp)
    have px : ∀ zs : List ByteArray, zs.length = 20 → (part 9 (cellsA zs) (i * 1)).run Tryz.prog w = .ok (.string (textAt zs i)) w := fun zs hz => by
      simp [part, Tryz.isAgg9, cellsA_at zs i (by omega)]
    have pe : (Op.equalIn 9999 9 (.string (textAt xs i)) (.string (textAt ys i))).run Tryz.prog w = .ok ((textAt xs i).toList == (textAt ys i).toList) w := run_equalIn_string w 9998 9 _ _ Tryz.underlying9
    simp only [List.forIn_cons, Sem.run_bind, px xs hx, px ys hy, pe, Result.andThen_ok, List.all_cons]
    cases hb : ((textAt xs i).toList == (textAt ys i).toList)
    · simp
    · simp only [Bool.not_true, Bool.false_eq_true, if_false, Sem.run_pure, Result.andThen_ok, Bool.true_and]
      exact ih fun j hj => hl j (by simp [hj])
theorem neqA (xs ys : List ByteArray) (hx : xs.length = 20) (hy : ys.length = 20) (w : World) :
    (binOp .neq 153 (.agg (cellsA xs)) (.agg (cellsA ys))).run Tryz.prog w = .ok (.bool (!((List.range' 0 20 1).all (fun i => (textAt xs i).toList == (textAt ys i).toList)))) w := by
  rw [run_neq_struct, equalA xs ys hx hy]
  rfl
theorem neq_in (x : Int) (h : 0 ≤ x ∧ x ≤ 19) (w : World) : (binOp .neq 153 (.agg (cellsA (withP noneA x ⟨#[120]⟩))) (.agg #[.string ⟨#[]⟩, .string ⟨#[]⟩, .string ⟨#[]⟩, .string ⟨#[]⟩, .string ⟨#[]⟩, .string ⟨#[]⟩, .string ⟨#[]⟩, .string ⟨#[]⟩, .string ⟨#[]⟩, .string ⟨#[]⟩, .string ⟨#[]⟩, .string ⟨#[]⟩, .string ⟨#[]⟩, .string ⟨#[]⟩, .string ⟨#[]⟩, .string ⟨#[]⟩, .string ⟨#[]⟩, .string ⟨#[]⟩, .string ⟨#[]⟩, .string ⟨#[]⟩])).run Tryz.prog w = .ok (.bool true) w := by
  have h1 := neqA (withP noneA x ⟨#[120]⟩) noneA (withP_len _ _ _) rfl w
  rw [noneA_cells] at h1
  rw [h1]
  have h2 : textAt (withP noneA x ⟨#[120]⟩) x.toNat = ⟨#[120]⟩ := by
    unfold withP
    rw [if_pos ⟨h.1, by omega⟩, textAt_set, if_pos ⟨rfl, by rw [noneA_len]; omega⟩]
  have h3 : textAt noneA x.toNat = ⟨#[]⟩ := by
    unfold textAt noneA
    rw [List.getD_eq_getElem?_getD, List.getElem?_replicate, if_pos (by omega)]
    rfl
  have h4 : ((List.range' 0 20 1).all (fun i => (textAt (withP noneA x ⟨#[120]⟩) i).toList == (textAt noneA i).toList)) = false := by
    rw [List.all_eq_false]
    refine ⟨x.toNat, List.mem_range'_1.2 ⟨by omega, by omega⟩, ?_⟩
    rw [h2, h3, ← beq_toListBytes]
    decide
  rw [h4]
  rfl
theorem neq_out (x : Int) (h : ¬ (0 ≤ x ∧ x ≤ 19)) (w : World) : (binOp .neq 153 (.agg (cellsA (withP noneA x ⟨#[120]⟩))) (.agg #[.string ⟨#[]⟩, .string ⟨#[]⟩, .string ⟨#[]⟩, .string ⟨#[]⟩, .string ⟨#[]⟩, .string ⟨#[]⟩, .string ⟨#[]⟩, .string ⟨#[]⟩, .string ⟨#[]⟩, .string ⟨#[]⟩, .string ⟨#[]⟩, .string ⟨#[]⟩, .string ⟨#[]⟩, .string ⟨#[]⟩, .string ⟨#[]⟩, .string ⟨#[]⟩, .string ⟨#[]⟩, .string ⟨#[]⟩, .string ⟨#[]⟩, .string ⟨#[]⟩])).run Tryz.prog w = .ok (.bool false) w := by
  have e : withP noneA x ⟨#[120]⟩ = noneA := by unfold withP; rw [if_neg (fun h2 => h ⟨h2.1, by omega⟩)]
  have h1 := neqA noneA noneA rfl rfl w
  rw [e]
  rw [noneA_cells] at h1 ⊢
  rw [h1]
  have h4 : ((List.range' 0 20 1).all (fun i => (textAt noneA i).toList == (textAt noneA i).toList)) = true := by
    rw [List.all_eq_true]
    exact fun i _ => by simp
  rw [h4]
  rfl

set_option maxHeartbeats 4000000 in
theorem isCell_any (x : Int) (w : World) :
    Calls Tryz.prog 73 #[.int .i64 x] w fun e w' => BoolIs (0 ≤ x ∧ x ≤ 19) w e w' := by
  have hgb := guardA
  by_cases h : 0 ≤ x ∧ x ≤ 19
  · have hqe := neq_in x h
    have HH : Hid (0 ≤ x ∧ x ≤ 19) := h
    clear h
    go_enter Tryz.func73, Tryz.ntmps73
    go_wp2_with fail
    refine (with_any noneA rfl x ⟨#[120]⟩ _).mono ?_
    rintro e w1 ⟨rfl, bw⟩
    have HBW : Hid (Below w.heap.size w w1) := bw
    clear bw
    go_wp2_with fail
    go_ret
    exact ⟨true, rfl, ⟨fun _ => HH.out, fun _ => rfl⟩, HBW.out⟩
  · have hqe := neq_out x h
    have HH : Hid (¬ (0 ≤ x ∧ x ≤ 19)) := h
    clear h
    go_enter Tryz.func73, Tryz.ntmps73
    go_wp2_with fail
    refine (with_any noneA rfl x ⟨#[120]⟩ _).mono ?_
    rintro e w1 ⟨rfl, bw⟩
    have HBW : Hid (Below w.heap.size w w1) := bw
    clear bw
    go_wp2_with fail
    go_ret
    exact BoolIs.no HH.out HBW.out

set_option maxHeartbeats 4000000 in
theorem allToCells_any (o : Option Addr) (n c : Nat) (ws : List (Int × ByteArray)) (w : World) (h : WriteA w o n ws) (hn : n ≤ 2000000) :
    Calls Tryz.prog 72 #[.slice o n c] w fun e w' => BoolIs (AllIn ws) w e w' := by
  have HW : Hid (WriteA w o n ws) := h
  clear h
  go_enter Tryz.func72, Tryz.ntmps72
  go_wp2_with fail
  go_loopw [7] (fun i wr => ∃ j : Nat, j ≤ n ∧ i = .int .i64 (j : Int) ∧ Hid (Below w.heap.size w wr) ∧ Hid (∀ x ∈ ws.take j, 0 ≤ x.1 ∧ x.1 ≤ 19)) (fun i _ => n - (intOf i).toNat)
  case atStart => exact ⟨0, Nat.zero_le _, rfl, Below.refl _ _, fun x hx => by simp at hx⟩
  case round =>
    obtain ⟨j, hj, rfl, HB, HN⟩ := hrel
    by_cases hlt : (j : Int) < (n : Int)
    · have hjx : j < ws.length := by rw [HW.out.1]; omega
      obtain ⟨g, rfl, hg, r0, r1⟩ := (HW.out.below HB.out).2 j (by omega)
      obtain ⟨y, hy⟩ : ∃ y, y = writeAt ws j := ⟨_, rfl⟩
      have HM : Hid (y ∈ ws) := by show _ ∈ _; rw [hy]; exact writeAt_mem ws j hjx
      have HTK : Hid (ws.take (j + 1) = ws.take j ++ [y]) := by show _ = _; rw [hy]; exact take_writeAt ws j hjx
      rw [← hy] at r0 r1
      obtain ⟨y0, y1⟩ := y
      simp only at r0 r1
      clear hy hjx
      go_wp2_with fail
      refine (isCell_any y0 _).mono ?_
      rintro e w4 ⟨b, rfl, hb, bw⟩
      have HBW : Hid (Below w.heap.size w w4) := (HB.out.alloc HB.out.size _).trans (bw.mono (Nat.le_trans HB.out.size (by simp)))
      clear bw r0 r1
      cases b with
      | true =>
        have HY : Hid (0 ≤ y0 ∧ y0 ≤ 19) := hb.1 rfl
        clear hb
        go_wp2_with fail
        go_roundw
        case rel =>
          refine ⟨j + 1, by omega, by go_num, HBW, fun x hx => ?_⟩
          rw [HTK.out] at hx
          rcases List.mem_append.1 hx with hx | hx
          · exact HN.out x hx
          · rw [List.mem_singleton.1 hx]; exact HY.out
        case measure => simp [intOf]; omega
      | false =>
        have HY : Hid (¬ (0 ≤ y0 ∧ y0 ≤ 19)) := fun h => nomatch hb.2 h
        clear hb
        go_wp2_with fail
        go_ret
        exact BoolIs.no (fun h => HY.out (h _ HM.out)) HBW.out
    · have HAL : Hid (AllIn ws) := fun x hx => HN.out x (by rw [List.take_of_length_le (by rw [HW.out.1]; omega)]; exact hx)
      clear HN
      go_wp2_with fail
      go_ret
      exact ⟨true, rfl, ⟨fun _ => HAL.out, fun _ => rfl⟩, HB.out⟩

end Go.Proofs.YtcipbkkpkhameaaGreat

namespace Go.Proofs.YtcipbkkpkhameaaGreat
open Go.RowKit
open Go.Lib hiding intOf

set_option maxHeartbeats 8000000 in
set_option maxRecDepth 100000 in
theorem isObjectCell_any (x : Int) (w : World) :
    Calls Tryz.prog 31 #[.int .i64 x] w fun e w' => BoolIs (5 ≤ x ∧ x ≤ 19) w e w' := by
  have hb0 : Below w.heap.size w w := Below.refl _ _
  go_enter Tryz.func31, Tryz.ntmps31
  by_cases hc1 : 5 ≤ x
  · have H5 : Hid (5 ≤ x) := hc1
    go_wp2_with fail
    refine (isCell_any x _).mono ?_
    rintro e w1 ⟨uc, rfl, huc, bw⟩
    have hb1 : Below w.heap.size w (w1) := hb0.trans (bw.mono hb0.size)
    clear hb0 bw
    go_wp2_with fail
    go_ret
    cases uc with
    | true => exact BoolIs.yes ⟨H5.out, (huc.1 rfl).2⟩ hb1
    | false => exact BoolIs.no (fun h => nomatch huc.2 ⟨by omega, h.2⟩) hb1
  · have H5 : Hid (¬ 5 ≤ x) := hc1
    go_wp2_with fail
    go_ret
    exact BoolIs.no (fun h => by have h5 := H5.out; omega) hb0
set_option maxHeartbeats 8000000 in
set_option maxRecDepth 100000 in
theorem knownOf_any (V : Value) (kv : List (KpD × Value × Value × Value)) (B : Nat) (w : World) (h : KeptsO w B V kv) (hn : kv.length ≤ 1048576) (ha : ∀ x ∈ kv, 0 ≤ x.1.a ∧ x.1.a ≤ 1000) :
    Calls Tryz.prog 75 #[V] w fun e w' => KnownIs kv w e w' := by
  obtain ⟨o3, c3, e3⟩ := slice_of_owns h.row
  subst e3
  obtain ⟨n3, hn3⟩ : ∃ n, n = kv.length := ⟨_, rfl⟩
  rw [← hn3] at h ⊢
  obtain ⟨ks, hks⟩ : ∃ ks, ks = kv.map (·.1) := ⟨_, rfl⟩
  have HKS : Hid (kv.map (·.1) = ks) := hks.symm
  have HLK : Hid (kv.length = n3) := hn3.symm
  have bn3 : n3 ≤ 1048576 := by rw [hn3]; exact hn
  have HKP : Hid (∀ W, Below w.heap.size w W → KeptsO W B (.slice o3 n3 c3) kv) := fun W hb => KeptsO.below h hb
  clear hn3 hks h hn
  have HAB : Hid (∀ x ∈ kv, 0 ≤ x.1.a ∧ x.1.a ≤ 1000) := ha
  clear ha
  have hmm : ∀ W : World, (Instr.makeMap 121 (some (.int .i64 (n3 : Int)))).run Tryz.prog W = .ok (.map (some W.heap.size)) (W.alloc (.map #[] 0)) := fun W => run_makeMap_hint Tryz.underlying121 _ W
  have hb0 : Below w.heap.size w w := Below.refl _ _
  go_enter Tryz.func75, Tryz.ntmps75
  go_upto_region 2 with fail
  obtain ⟨qm1, hqm1⟩ : ∃ q, q = (w).heap.size := ⟨_, rfl⟩
  obtain ⟨w1, hW1⟩ : ∃ W, W = (w).alloc (.map #[] 0) := ⟨_, rfl⟩
  first | rw [← hW1, ← hqm1] | rw [← hW1]
  have bw : Below (w).heap.size (w) w1 := by rw [hW1]; exact (Below.refl _ _).alloc (Nat.le_refl _) _
  have hb1 : Below w.heap.size w (w1) := hb0.trans (bw.mono hb0.size)
  have HGm1 : Hid (w.heap.size ≤ qm1) := by show _ ≤ _; rw [hqm1]; exact hb0.size
  have EMm1_1 : Hid (KnownO w1 qm1 0 (.map [])) := by unfold KnownO; show World.ownsMap _ _ _ _ _ _ _; rw [hW1, hqm1]; exact World.ownsMap_made _ _ _ _
  clear bw hW1 hqm1 hb0
  go_wp2_with fail
  go_loopw [11] (fun i wr => ∃ (j : Nat) (D : DataW Value), j ≤ n3 ∧ i = .int .i64 (j : Int) ∧ Hid (KnownO wr qm1 j D ∧ MapN D (kv.take j) ∧ Below w.heap.size w (wr))) (fun i _ => n3 - (intOf i).toNat)
  case atStart => exact ⟨0, .map [], Nat.zero_le _, rfl, EMm1_1.out, by rw [List.take_zero]; exact MapN.nil, hb1⟩
  case round =>
    obtain ⟨j, D, hj, rfl, HW⟩ := hrel
    by_cases hlt : (j : Int) < (n3 : Int)
    · have hb2 := HW.out.2.2
      have HMN := HW.out.2.1
      have HMNH : Hid (MapN D (kv.take j)) := HMN
      clear HMN
      have EMm1_2 : Hid (KnownO wr qm1 j D) := HW.out.1
      clear HW hb1 EMm1_1
      obtain ⟨g3, p3, hV, _, _⟩ := (HKP.out _ hb2).look j (by rw [HLK.out]; omega)
      rw [HLK.out] at hV
      injection hV with hV1 hV2 hV3
      subst hV1 hV3
      clear hV2
      obtain ⟨xX, hxX⟩ : ∃ x, x = kvAt kv j := ⟨_, rfl⟩
      have HMx : Hid (xX ∈ kv) := by show _ ∈ _; rw [hxX]; exact kvAt_mem kv j (by rw [HLK.out]; omega)
      have HEx : Hid (kpAt ks j = xX.1) := by show _ = _; rw [hxX, ← HKS.out]; exact (kvAt_fst kv j (by rw [HLK.out]; omega)).symm
      have HTKx : Hid (kv.take (j + 1) = kv.take j ++ [xX]) := by show _ = _; rw [hxX]; exact kvAt_take kv j (by rw [HLK.out]; omega)
      have HKx : Hid (∀ W, Below w.heap.size w W → KpAt W g3 j xX) := fun W hb => by
        obtain ⟨g', p', hV, _, hc⟩ := (HKP.out W hb).look j (by rw [HLK.out]; omega)
        injection hV with hV1 _ _
        cases hV1
        rw [hxX]
        exact hc
      clear hxX
      obtain ⟨x, kuv1, kuv2, kuv3⟩ := xX
      obtain ⟨ku1, kuc1, hu⟩ := slice_of_owns ((HKP.out _ hb2).names HMx.out)
      have hu' : kuv1 = .slice ku1 x.xs.length kuc1 := hu
      subst hu'
      clear hu
      obtain ⟨ku2, kuc2, hu⟩ := slice_of_owns ((HKP.out _ hb2).vals HMx.out)
      have hu' : kuv2 = .slice ku2 x.ys.length kuc2 := hu
      subst hu'
      clear hu
      obtain ⟨ku3, kuc3, hu⟩ := slice_of_owns ((HKP.out _ hb2).flds HMx.out)
      have hu' : kuv3 = .slice ku3 x.fs.length kuc3 := hu
      subst hu'
      clear hu
      have r0x := (HKx.out _ hb2).c0
      have r1x := (HKx.out _ hb2).c1
      have r2x := (HKx.out _ hb2).c2
      have r3x := (HKx.out _ hb2).c3
      have r4x := (HKx.out _ hb2).c4
      have r5x := (HKx.out _ hb2).c5
      have r6x := (HKx.out _ hb2).c6
      have r7x := (HKx.out _ hb2).c7
      have r8x := (HKx.out _ hb2).c8
      dsimp only at r0x r1x r2x r3x r4x r5x r6x r7x r8x
      go_upto_region 5 with fail
      obtain ⟨qv1, hqv1⟩ : ∃ q, q = (wr).heap.size := ⟨_, rfl⟩
      obtain ⟨w3, hW3⟩ : ∃ W, W = (wr).alloc (.cells #[.string x.p, .slice ku1 x.xs.length kuc1, .slice ku2 x.ys.length kuc2, .int .i64 x.st, .slice ku3 x.fs.length kuc3, .string x.b, .int .i64 x.t, .int .i64 x.a, .int .i64 x.q] 71) := ⟨_, rfl⟩
      have hz3 : (wr).heap.size = qv1 := hqv1.symm
      first | rw [← hW3, ← hqv1] | rw [← hW3]
      have hs3 : w3.heap.size = qv1 + 1 := by rw [hW3, ← hz3]; simp
      have bw : Below (wr).heap.size (wr) w3 := by rw [hW3]; exact (Below.refl _ _).alloc (Nat.le_refl _) _
      have hb3 : Below w.heap.size w (w3) := hb2.trans (bw.mono hb2.size)
      have EMm1_3 : Hid (KnownO w3 qm1 j (D)) := map_below EMm1_2.out bw
      have HBv1_3 : Hid ((w3).heap[qv1]? = some (.cells #[.string x.p, .slice ku1 x.xs.length kuc1, .slice ku2 x.ys.length kuc2, .int .i64 x.st, .slice ku3 x.fs.length kuc3, .string x.b, .int .i64 x.t, .int .i64 x.a, .int .i64 x.q] 71)) := by show _ = _; rw [hW3, ← hz3]; exact heap_alloc_new _ _
      clear hb2 EMm1_2 bw hW3 hz3
      clear hs3 hqv1
      clear r0x r1x r2x r3x r4x r5x r6x r7x r8x
      have cv1_0 : (w3).cell? ⟨qv1, 0, none⟩ = some (.string x.p) := (cell_of HBv1_3.out 0).trans rfl
      have cv1_1 : (w3).cell? ⟨qv1, 1, none⟩ = some (.slice ku1 x.xs.length kuc1) := (cell_of HBv1_3.out 1).trans rfl
      have cv1_2 : (w3).cell? ⟨qv1, 2, none⟩ = some (.slice ku2 x.ys.length kuc2) := (cell_of HBv1_3.out 2).trans rfl
      have cv1_3 : (w3).cell? ⟨qv1, 3, none⟩ = some (.int .i64 x.st) := (cell_of HBv1_3.out 3).trans rfl
      have cv1_4 : (w3).cell? ⟨qv1, 4, none⟩ = some (.slice ku3 x.fs.length kuc3) := (cell_of HBv1_3.out 4).trans rfl
      have cv1_5 : (w3).cell? ⟨qv1, 5, none⟩ = some (.string x.b) := (cell_of HBv1_3.out 5).trans rfl
      have cv1_6 : (w3).cell? ⟨qv1, 6, none⟩ = some (.int .i64 x.t) := (cell_of HBv1_3.out 6).trans rfl
      have cv1_7 : (w3).cell? ⟨qv1, 7, none⟩ = some (.int .i64 x.a) := (cell_of HBv1_3.out 7).trans rfl
      have cv1_8 : (w3).cell? ⟨qv1, 8, none⟩ = some (.int .i64 x.q) := (cell_of HBv1_3.out 8).trans rfl
      have hmp := EMm1_3.out
      unfold KnownO at hmp
      go_wp2_with (first | (at_mapUpdate; refine wpList_mapUpdate_own _ rfl _ _ _ 121 rfl 3 71 keyInt Tryz.underlying121 mpR qm1 (j) (D) rfl hmp (by unfold maxLen; omega) _ _ (.int .i64 x.a) rfl rfl (key_wf (HAB.out _ HMx.out).1 (HAB.out _ HMx.out).2) (.held (.agg #[.string x.p, .slice ku1 x.xs.length kuc1, .slice ku2 x.ys.length kuc2, .int .i64 x.st, .slice ku3 x.fs.length kuc3, .string x.b, .int .i64 x.t, .int .i64 x.a, .int .i64 x.q])) [] rfl ?_) | go_in)
      intro w4 hown1 hgrow
      clear cv1_0 cv1_1 cv1_2 cv1_3 cv1_4 cv1_5 cv1_6 cv1_7 cv1_8
      have hb4 : Below w.heap.size w (w4) := hb3.grown hgrow hb3.size (by intro g hg; cases hg; exact HGm1.out)
      have HBv1_4 : Hid ((w4).heap[qv1]? = some (.cells #[.string x.p, .slice ku1 x.xs.length kuc1, .slice ku2 x.ys.length kuc2, .int .i64 x.st, .slice ku3 x.fs.length kuc3, .string x.b, .int .i64 x.t, .int .i64 x.a, .int .i64 x.q] 71)) := map_blk hmp HBv1_3.out hgrow
      have EMm1_4 : Hid (KnownO w4 qm1 (j + 1) (((D).put (.int .i64 x.a) (.held (.agg #[.string x.p, .slice ku1 x.xs.length kuc1, .slice ku2 x.ys.length kuc2, .int .i64 x.st, .slice ku3 x.fs.length kuc3, .string x.b, .int .i64 x.t, .int .i64 x.a, .int .i64 x.q]))))) := hown1
      clear hown1 hgrow hmp hb3 HBv1_3 EMm1_3
      have HN2 : Hid (MapN (D.put (.int .i64 x.a) (.held (kpX (x, .slice ku1 x.xs.length kuc1, .slice ku2 x.ys.length kuc2, .slice ku3 x.fs.length kuc3)))) (kv.take (j + 1))) := by
        show MapN _ _
        rw [HTKx.out]
        exact HMNH.out.put (x, .slice ku1 x.xs.length kuc1, .slice ku2 x.ys.length kuc2, .slice ku3 x.fs.length kuc3)
      go_wp2_with fail
      go_roundw
      case rel => exact ⟨j + 1, _, by omega, by go_num, EMm1_4.out, HN2.out, hb4⟩
      case measure => simp [intOf]; omega
    · have hb2 := HW.out.2.2
      have HMN := HW.out.2.1
      have HMNH : Hid (MapN D (kv.take j)) := HMN
      clear HMN
      have EMm1_2 : Hid (KnownO wr qm1 j D) := HW.out.1
      clear HW hb1 EMm1_1
      go_wp2_with fail
      go_ret
      have HMN2 : MapN D kv := by
        have h := HMNH.out
        rw [List.take_of_length_le (by rw [HLK.out]; omega)] at h
        exact h
      exact ⟨qm1, j, D, rfl, by rw [HLK.out]; omega, EMm1_2.out, HMN2, HGm1.out, hb2⟩

end Go.Proofs.YtcipbkkpkhameaaGreat

namespace Go.Proofs.YtcipbkkpkhameaaGreat
open Go.RowKit
open Go.Lib hiding intOf

theorem timeOk_any (t : Int) (w : World) :
    Calls Tryz.prog 109 #[.int .i64 t] w fun e w' => e = .returned (.bool (decide ((0 : Int) ≤ t ∧ t ≤ 1000000))) ∧ w' = w := by
  obtain ⟨D, hD⟩ : ∃ D, D = decide ((0 : Int) ≤ t ∧ t ≤ 1000000) := ⟨_, rfl⟩
  rw [← hD]
  by_cases h1 : 0 ≤ t
  · by_cases h2 : t ≤ 1000000
    · have HD : Hid (D = true) := by show _ = _; rw [hD]; exact decide_eq_true ⟨h1, h2⟩
      clear hD
      go_enter Tryz.func109, Tryz.ntmps109
      go_wp2
      go_ret
      exact ⟨by rw [HD.out]; rfl, rfl⟩
    · have HD : Hid (D = false) := by show _ = _; rw [hD]; exact decide_eq_false (fun h => h2 h.2)
      clear hD
      go_enter Tryz.func109, Tryz.ntmps109
      go_wp2
      go_ret
      exact ⟨by rw [HD.out]; rfl, rfl⟩
  · have HD : Hid (D = false) := by show _ = _; rw [hD]; exact decide_eq_false (fun h => h1 h.1)
    clear hD
    go_enter Tryz.func109, Tryz.ntmps109
    go_wp2
    go_ret
    exact ⟨by rw [HD.out]; rfl, rfl⟩

set_option maxHeartbeats 1000000 in
theorem valuesOk_any (oa : Option Addr) (m cm : Nat) (xs : List ByteArray) (w : World) (hx : TextsA w oa m xs) (hm : m ≤ 2000000) (hsz : ∀ i, i < m → (textAt xs i).size ≤ maxLen) :
    Calls Tryz.prog 113 #[.slice oa m cm] w fun e w' => BoolIs (∀ y ∈ xs, ValOk y) w e w' := by
  have HV : Hid (∀ W, Below w.heap.size w W → TextsA W oa m xs) := fun W h => hx.below h
  have HL : Hid (xs.length = m) := hx.1
  have HS : Hid (∀ i, i < m → (textAt xs i).size ≤ maxLen) := hsz
  clear hx hsz
  go_enter Tryz.func113, Tryz.ntmps113
  go_wp2
  go_loopw [7] (fun i wr => ∃ j : Nat, j ≤ m ∧ i = .int .i64 (j : Int) ∧ Hid (Below w.heap.size w wr) ∧ Hid (∀ x ∈ xs.take j, ValOk x)) (fun i _ => m - (intOf i).toNat)
  case atStart => exact ⟨0, Nat.zero_le _, rfl, Below.refl _ _, fun x hx => by simp at hx⟩
  case round =>
    obtain ⟨j, hj, rfl, HW, HN⟩ := hrel
    by_cases hlt : (j : Int) < (m : Int)
    · have hjx : j < xs.length := by rw [HL.out]; omega
      obtain ⟨g, hog, hg, hc⟩ := (HV.out wr HW.out).2 j (by omega)
      subst hog
      have hs := HS.out j (by omega)
      obtain ⟨x, hxx⟩ : ∃ x, x = textAt xs j := ⟨_, rfl⟩
      rw [← hxx] at hc hs
      have HM : Hid (x ∈ xs) := by show _ ∈ _; rw [hxx]; exact textAt_mem xs j hjx
      have HTK : Hid (xs.take (j + 1) = xs.take j ++ [x]) := by show _ = _; rw [take_textAt xs j hjx, hxx]
      clear hxx hjx
      go_wp2_with fail
      refine (implValueOk_any x _ hs).mono ?_
      rintro e w90 ⟨tx, rfl, htx, bw⟩
      have HW2 : Hid (Below w.heap.size w w90) := HW.out.trans (bw.mono HW.out.size)
      clear bw hc HW
      cases tx with
      | false =>
        have HF : Hid (¬ ∀ y ∈ xs, ValOk y) := fun h => nomatch htx.2 (h x HM.out)
        clear htx HN
        go_wp2_with fail
        go_ret
        exact BoolIs.no HF.out HW2.out
      | true =>
        have HN2 : Hid (∀ y ∈ xs.take (j + 1), ValOk y) := by
          intro y hy
          rw [HTK.out] at hy
          rcases List.mem_append.1 hy with hy | hy
          · exact HN.out y hy
          · rw [List.mem_singleton.1 hy]; exact htx.1 rfl
        clear htx HN
        go_wp2_with fail
        go_roundw
        case rel => exact ⟨j + 1, by omega, by go_num, HW2, HN2⟩
        case measure => simp [intOf]; omega
    · have HA : Hid (∀ y ∈ xs, ValOk y) := by
        have h := HN.out
        rw [List.take_of_length_le (by rw [HL.out]; omega)] at h
        exact h
      clear HN
      go_wp2_with fail
      go_ret
      exact ⟨true, rfl, ⟨fun _ => HA.out, fun _ => rfl⟩, HW.out⟩

theorem equalT_any (oa ob : Option Addr) (m cm k ck : Nat) (xs ys : List ByteArray) (w : World) (hx : TextsA w oa m xs) (hm : m ≤ 2000000) (hy : TextsA w ob k ys) (hk : k ≤ 2000000) :
    Calls Tryz.prog 110 #[.slice oa m cm, .slice ob k ck] w fun e w' => e = .returned (.bool (decide (xs = ys))) ∧ Below w.heap.size w w' := by
  by_cases hmk : m = k
  · subst hmk
    by_cases h0 : m = 0
    · subst h0
      refine (Tryz.slices_Equal_string_empty oa ob cm 0 ck w (by omega)).mono ?_
      rintro e w1 ⟨rfl, rfl⟩
      refine ⟨?_, Below.refl _ _⟩
      rw [List.length_eq_zero_iff.1 hx.1, List.length_eq_zero_iff.1 hy.1]
      simp
    · obtain ⟨g, rfl, _, _⟩ := hx.2 0 (by omega)
      obtain ⟨q, rfl, _, _⟩ := hy.2 0 (by omega)
      refine (Tryz.slices_Equal_string g 0 m cm q 0 m ck xs ys w (by rw [hx.1]; exact Nat.le_refl _) (by rw [hy.1]; exact Nat.le_refl _) (by omega) (by omega) (fun j hj => ?_) (fun j hj => ?_)).mono ?_
      · obtain ⟨g2, e2, _, h3⟩ := hx.2 j (by rw [← hx.1]; exact hj)
        cases e2
        rw [Nat.zero_add]
        exact h3
      · obtain ⟨g2, e2, _, h3⟩ := hy.2 j (by rw [← hy.1]; exact hj)
        cases e2
        rw [Nat.zero_add]
        exact h3
      · rintro e w1 ⟨rfl, n, rfl⟩
        refine ⟨?_, ⟨rfl, rfl, rfl, Nat.le_refl _, fun _ _ => rfl⟩⟩
        rw [List.take_of_length_le (by rw [hx.1]; exact Nat.le_refl _), List.take_of_length_le (by rw [hy.1]; exact Nat.le_refl _)]
  · refine (Tryz.slices_Equal_string_lens oa ob m cm k ck w hmk).mono ?_
    rintro e w1 ⟨rfl, rfl⟩
    refine ⟨?_, Below.refl _ _⟩
    rw [decide_eq_false (fun h => hmk (by rw [← hx.1, ← hy.1, h]))]

end Go.Proofs.YtcipbkkpkhameaaGreat

namespace Go.Proofs.YtcipbkkpkhameaaGreat
open Go.RowKit
open Go.Lib hiding intOf

attribute [local go_sem] Oper.semAt_some

set_option maxHeartbeats 1000000 in
set_option maxRecDepth 100000 in
theorem implVaryOf_any (v : Value) (n base : Nat) (fs : List (ByteArray × ByteArray)) (w : World) (hv : FieldsV w base v n fs) (hn : n ≤ 1073741824) (hcp : CopyF fs) (hsz : (getV fs varyName).size ≤ 1048576) :
    Calls Tryz.prog 111 #[v] w fun e w' => RowIs w.heap.size (varyP fs) w e w' := by
  obtain ⟨s, hs⟩ : ∃ s, s = getV fs varyName := ⟨_, rfl⟩
  have HS : Hid (getV fs varyName = s) := hs.symm
  have HE : Hid (varyP fs = (splitL s).map lowerOf) := by show _ = _; unfold varyP; rw [HS.out]
  rw [← hs] at hsz
  have hl1 := (splitL_le s).1
  clear hs
  go_enter Tryz.func111, Tryz.ntmps111
  go_wp2_with fail
  refine (implGet_any v n base fs varyName _ hv hn hcp).mono ?_
  rintro e w1 ⟨rfl, b1⟩
  rw [HS.out]
  clear hv
  go_wp2_with fail
  refine (implSplit_any s _ hsz).mono ?_
  rintro e w2 ⟨V, rfl, O, b2⟩
  obtain ⟨xs, hxs⟩ : ∃ xs, xs = splitL s := ⟨_, rfl⟩
  rw [← hxs] at hl1 O HE
  obtain ⟨m, hm⟩ : ∃ m, m = xs.length := ⟨_, rfl⟩
  rw [← hm] at hl1 O
  have HM : Hid (xs.length = m) := hm.symm
  have O := owns_base O b1.size
  have b2 : Below w.heap.size w w2 := b1.trans (b2.mono b1.size)
  clear hxs hm b1
  rcases row_form O with ⟨oa, ca, rfl, h0, h1⟩ | ⟨g, cap, rfl, hp, r1⟩
  · subst h0 h1
    go_wp2_with fail
    refine wp_loop_rounds 1 ?_
    rw [rounds_succ]
    go_wp2_with fail
    go_ret
    exact RowIs.of (by rw [HE.out]; rfl) rfl O b2
  · clear O
    have HB2 : Hid (Below w.heap.size w w2) := b2
    have HR1 : Hid (TextRow w.heap.size w2 g m cap (loTo xs 0)) := by show TextRow _ _ _ _ _ _; rw [loTo_zero]; exact r1
    clear b2 r1
    go_wp2_with fail
    go_loopw [17] (fun i wr => ∃ j : Nat, j ≤ m ∧ i = .int .i64 (j : Int) ∧ Hid (Below w.heap.size w wr) ∧ Hid (TextRow w.heap.size wr g m cap (loTo xs j))) (fun i _ => m - (intOf i).toNat)
    case atStart => exact ⟨0, Nat.zero_le _, rfl, HB2, HR1⟩
    case round =>
      obtain ⟨j, hj, rfl, HB, HR⟩ := hrel
      by_cases hlt : j < m
      · have hlt2 : (j : Int) < (m : Int) := by omega
        obtain ⟨x, hx⟩ : ∃ x, x = textAt xs j := ⟨_, rfl⟩
        have hc := HR.out.cell j hlt
        rw [loTo_at, ← hx] at hc
        have HST : Hid ((loTo xs j).set j (lowerOf x) = loTo xs (j + 1)) := by show _ = _; rw [hx]; exact loTo_step xs j (by rw [HM.out]; exact hlt)
        clear hx
        go_wp2_with fail
        refine (implLower_any x _).mono ?_
        rintro e w3 ⟨rfl, hb3⟩
        have hrow := HR.out.below hb3 HR.out.lt
        have hc3 := hrow.cell j hlt
        have hf3 := hrow.frozen j
        have HB3 : Hid (Below w.heap.size w (w3.setCell ⟨g, j, none⟩ (.string (lowerOf x)))) := (HB.out.trans (hb3.mono HB.out.size)).setCell HR.out.base _
        have HR3 : Hid (TextRow w.heap.size (w3.setCell ⟨g, j, none⟩ (.string (lowerOf x))) g m cap (loTo xs (j + 1))) := by
          show TextRow _ _ _ _ _ _
          rw [← HST.out]
          exact hrow.set j hlt _
        clear hb3 hrow HB HR HST hc
        go_wp2_with fail
        go_roundw
        case rel => exact ⟨j + 1, by omega, by go_num, HB3, HR3⟩
        case measure => simp [intOf]; omega
      · obtain rfl : j = m := by omega
        go_wp2_with fail
        go_ret
        exact RowIs.of (by rw [HE.out, loTo_all xs j (by rw [HM.out]; exact Nat.le_refl _)]) (by rw [loTo_all xs j (by rw [HM.out]; exact Nat.le_refl _), List.length_map, HM.out]) HR.out.owns HB.out

end Go.Proofs.YtcipbkkpkhameaaGreat

namespace Go.Proofs.YtcipbkkpkhameaaGreat
open Go.RowKit
open Go.Lib hiding intOf

set_option maxHeartbeats 1000000 in
theorem namesOk_any (oa : Option Addr) (m cm : Nat) (xs : List ByteArray) (w : World) (hx : TextsA w oa m xs) (hm : m ≤ 2000000) (hsz : ∀ i, i < m → (textAt xs i).size ≤ maxLen) :
    Calls Tryz.prog 112 #[.slice oa m cm] w fun e w' => BoolIs (NamesP xs) w e w' := by
  by_cases h4 : (4 : Int) < (m : Int)
  · have HF : Hid (¬ NamesP xs) := fun h => by have := h.2; rw [hx.1] at this; omega
    clear hx hsz
    go_enter Tryz.func112, Tryz.ntmps112
    go_wp2_with fail
    go_ret
    exact BoolIs.no HF.out (Below.refl _ _)
  have HX : Hid (∀ W, Below w.heap.size w W → TextsA W oa m xs) := fun W h => hx.below h
  have HL : Hid (xs.length = m) := hx.1
  have HS : Hid (∀ i, i < m → (textAt xs i).size ≤ maxLen) := hsz
  clear hx hsz
  go_enter Tryz.func112, Tryz.ntmps112
  go_wp2_with fail
  go_loopw [10] (fun i wr => ∃ j : Nat, j ≤ m ∧ i = .int .i64 (j : Int) ∧ Below w.heap.size w wr ∧ Hid (∀ x ∈ xs.take j, TokOk x)) (fun i _ => m - (intOf i).toNat)
  case atStart => exact ⟨0, Nat.zero_le _, rfl, Below.refl _ _, fun x hx => by simp at hx⟩
  case round =>
    obtain ⟨j, hj, rfl, hbw, HN⟩ := hrel
    by_cases hlt : (j : Int) < (m : Int)
    · have hjx : j < xs.length := by rw [HL.out]; omega
      obtain ⟨g, rfl, hg, hc⟩ := (HX.out wr hbw).2 j (by omega)
      have hs := HS.out j (by omega)
      obtain ⟨x, hxx⟩ : ∃ x, x = textAt xs j := ⟨_, rfl⟩
      rw [← hxx] at hc hs
      have HM : Hid (x ∈ xs) := by show _ ∈ _; rw [hxx]; exact textAt_mem xs j hjx
      have HT : Hid (xs.take (j + 1) = xs.take j ++ [x]) := by show _ = _; rw [take_textAt xs j hjx, hxx]
      clear hxx hjx
      go_wp2_with fail
      refine (implTokenOk_any x _ hs).mono ?_
      rintro e w1 ⟨t, rfl, ht, b1⟩
      have hb1 : Below w.heap.size w w1 := hbw.trans (b1.mono hbw.size)
      clear b1 hbw hc
      cases t with
      | false =>
        have HF : Hid (¬ NamesP xs) := fun h => nomatch ht.2 (h.1 x HM.out)
        clear ht HN
        go_wp2_with fail
        go_ret
        exact BoolIs.no HF.out hb1
      | true =>
        have HN2 : Hid (∀ y ∈ xs.take (j + 1), TokOk y) := by
          intro y hy
          rw [HT.out] at hy
          rcases List.mem_append.1 hy with hy | hy
          · exact HN.out y hy
          · rw [List.mem_singleton.1 hy]; exact ht.1 rfl
        clear ht HN
        go_wp2_with fail
        go_roundw
        case rel => exact ⟨j + 1, by omega, by go_num, hb1, HN2⟩
        case measure => simp [intOf]; omega
    · have HQ : Hid (NamesP xs) := ⟨by
        have h := HN.out
        rw [List.take_of_length_le (by rw [HL.out]; omega)] at h
        exact h, by rw [HL.out]; omega⟩
      clear HN
      go_wp2_with fail
      go_ret
      exact ⟨true, rfl, ⟨fun _ => HQ.out, fun _ => rfl⟩, hbw⟩

end Go.Proofs.YtcipbkkpkhameaaGreat

namespace Go.Proofs.YtcipbkkpkhameaaGreat
open Go.RowKit
open Go.Lib hiding intOf

set_option maxHeartbeats 1000000 in
theorem fieldOk_any (v : Value) (n base : Nat) (fs : List (ByteArray × ByteArray)) (k : Nat) (w : World) (hv : FieldsV w base v n fs) (hn : n ≤ 1073741824) (hk : k < n) (hs1 : (nameAt fs k).size ≤ maxLen) (hs2 : (valAt fs k).size ≤ maxLen) :
    Calls Tryz.prog 145 #[v, .int .i64 (k : Int)] w fun e w' => BoolIs (FldOk fs k) w e w' := by
  have HV : Hid (∀ W, Below w.heap.size w W → FieldsV W base v n fs) := fun W h => hv.below h
  obtain ⟨oa, cap, rfl, hrow⟩ := hv.slice
  obtain ⟨g, rfl, row⟩ := hrow k hk
  have hlt2 : (k : Int) < (n : Int) := by omega
  have hc1 := row.name k hk
  have hc2 := row.val k hk
  obtain ⟨nm, hnm⟩ : ∃ x, x = nameAt fs k := ⟨_, rfl⟩
  obtain ⟨vl, hvl⟩ : ∃ x, x = valAt fs k := ⟨_, rfl⟩
  have HO : Hid (FldOk fs k ↔ TokOk nm ∧ ValOk vl ∧ atF fs nm = k ∧ nm ≠ clen) := by rw [hnm, hvl]; exact Iff.rfl
  rw [← hnm] at hc1 hs1
  rw [← hvl] at hc2 hs2
  clear hv hrow row hnm hvl
  obtain ⟨r, hr⟩ : ∃ r, r = w.heap.size := ⟨_, rfl⟩
  have h0 : (w.alloc (.cells #[.string nm, .string vl] 132)).heap.size = w.heap.size + 1 := by simp
  have HB0 : Hid (Below w.heap.size w (w.alloc (.cells #[.string nm, .string vl] 132)) ∧ w.heap.size ≤ (w.alloc (.cells #[.string nm, .string vl] 132)).heap.size) := ⟨(Below.refl _ w).alloc (Nat.le_refl _) _, by omega⟩
  have HR : Hid (∀ W, Below (w.alloc (.cells #[.string nm, .string vl] 132)).heap.size (w.alloc (.cells #[.string nm, .string vl] 132)) W → W.cell? ⟨r, 0, none⟩ = some (.string nm) ∧ W.cell? ⟨r, 1, none⟩ = some (.string vl)) := fun W h => by
    have hh : W.heap[r]? = some (.cells #[.string nm, .string vl] 132) := by rw [hr, h.block _ (by omega)]; exact heap_alloc_new w _
    exact ⟨by simp [World.cell?, hh], by simp [World.cell?, hh]⟩
  go_enter Tryz.func145, Tryz.ntmps145
  go_wp2_with fail
  refine (implTokenOk_any nm _ hs1).mono ?_
  rintro e w1 ⟨b1, rfl, kb1, bb1⟩
  rw [← hr]
  have hb1 : Below w.heap.size w w1 := HB0.out.1.trans (bb1.mono HB0.out.2)
  obtain ⟨d1, d2⟩ := HR.out w1 bb1
  clear h0
  cases b1
  · have HF : Hid (¬ FldOk fs k) := fun h => by have := kb1.2 (HO.out.1 h).1; cases this
    clear kb1 hc1 hc2 bb1 hr
    go_wp2_with fail
    go_ret
    exact BoolIs.no HF.out hb1
  · have HT : Hid (TokOk nm) := kb1.1 rfl
    clear kb1 hc1 hc2 hr
    go_wp2_with fail
    refine (implValueOk_any vl _ hs2).mono ?_
    rintro e w2 ⟨b2, rfl, kb2, bb2⟩
    have bb2' := bb1.trans (bb2.mono bb1.size)
    have hb2 : Below w.heap.size w w2 := HB0.out.1.trans (bb2'.mono HB0.out.2)
    obtain ⟨d3, d4⟩ := HR.out w2 bb2'
    cases b2
    · have HF : Hid (¬ FldOk fs k) := fun h => by have := kb2.2 (HO.out.1 h).2.1; cases this
      clear kb2 bb1 bb2 bb2' hb1 d1 d2
      go_wp2_with fail
      go_ret
      exact BoolIs.no HF.out hb2
    · have HT2 : Hid (ValOk vl) := kb2.1 rfl
      clear kb2 bb1 bb2 bb2' hb1 d1 d2
      by_cases hcl : nm = clen
      · have ht := (text_beq _ _).2 hcl
        rw [clen_list] at ht
        have HF : Hid (¬ FldOk fs k) := fun h => (HO.out.1 h).2.2.2 hcl
        clear hcl
        go_wp2_with fail
        go_ret
        exact BoolIs.no HF.out hb2
      · have ht := text_beq_no hcl
        rw [clen_list] at ht
        have HC : Hid (nm ≠ clen) := hcl
        clear hcl
        go_wp2_with fail
        refine (place_any _ n base fs nm _ (HV.out w2 hb2) hn).mono ?_
        rintro e w3 ⟨rfl, rfl⟩
        by_cases hat : atF fs nm = k
        · have HY : Hid (FldOk fs k) := HO.out.2 ⟨HT.out, HT2.out, hat, HC.out⟩
          rw [hat]
          clear hat
          go_wp2
          go_ret
          exact BoolIs.yes HY.out hb2
        · have HF : Hid (¬ FldOk fs k) := fun h => hat (HO.out.1 h).2.2.1
          have hne : ((atF fs nm : Int) == (k : Int)) = false := by rw [beq_eq_false_iff_ne]; omega
          clear hat
          go_wp2
          go_ret
          exact BoolIs.no HF.out hb2

set_option maxHeartbeats 1000000 in
theorem ok_any (v : Value) (n base : Nat) (fs : List (ByteArray × ByteArray)) (w : World) (hv : FieldsV w base v n fs) (hn : n ≤ 1073741824) (hsz : ∀ i, i < n → (nameAt fs i).size ≤ maxLen ∧ (valAt fs i).size ≤ maxLen) :
    Calls Tryz.prog 142 #[v] w fun e w' => BoolIs (FldsOk fs) w e w' := by
  have hl := hv.len
  have HV : Hid (∀ W, Below w.heap.size w W → FieldsV W base v n fs) := fun W h => hv.below h
  have HS : Hid (∀ i, i < n → (nameAt fs i).size ≤ maxLen ∧ (valAt fs i).size ≤ maxLen) := hsz
  obtain ⟨oa, cap, rfl, hrow⟩ := hv.slice
  clear hv hrow hsz
  by_cases h8 : (8 : Int) < (n : Int)
  · have HF : Hid (¬ FldsOk fs) := fun h => by have := h.1; omega
    go_enter Tryz.func142, Tryz.ntmps142
    go_wp2
    go_ret
    exact BoolIs.no HF.out (Below.refl _ _)
  · go_enter Tryz.func142, Tryz.ntmps142
    go_wp2
    go_loopw [9] (fun i wr => ∃ k : Nat, k ≤ n ∧ i = .int .i64 (k : Int) ∧ Hid (∀ j, j < k → FldOk fs j) ∧ Below w.heap.size w wr) (fun i _ => n - (intOf i).toNat)
    case atStart => exact ⟨0, Nat.zero_le _, rfl, fun j h => absurd h (by omega), Below.refl _ _⟩
    case round =>
      obtain ⟨k, hk, rfl, hall, hbw⟩ := hrel
      by_cases hlt : k < n
      · have hlt2 : (k : Int) < (n : Int) := by omega
        obtain ⟨hs1, hs2⟩ := HS.out k hlt
        go_wp2_with fail
        refine (fieldOk_any _ n base fs k _ (HV.out wr hbw) hn hlt hs1 hs2).mono ?_
        rintro e w1 ⟨b1, rfl, kb1, bb1⟩
        have hb1 : Below w.heap.size w w1 := hbw.trans (bb1.mono hbw.size)
        cases b1
        · have HF : Hid (¬ FldsOk fs) := fun h => by have := kb1.2 (h.2 k (by omega)); cases this
          clear kb1 bb1
          go_wp2
          go_ret
          exact BoolIs.no HF.out hb1
        · have HY : Hid (FldOk fs k) := kb1.1 rfl
          clear kb1 bb1
          go_wp2
          go_roundw
          case rel =>
            refine ⟨k + 1, by omega, by go_num, ?_, hb1⟩
            intro j hj
            by_cases e : j = k
            · subst e; exact HY.out
            · exact hall.out j (by omega)
          case measure => simp [intOf]; omega
      · have HF : Hid (FldsOk fs) := ⟨by omega, fun i hi => hall.out i (by omega)⟩
        go_wp2
        go_ret
        exact BoolIs.yes HF.out hbw

end Go.Proofs.YtcipbkkpkhameaaGreat
