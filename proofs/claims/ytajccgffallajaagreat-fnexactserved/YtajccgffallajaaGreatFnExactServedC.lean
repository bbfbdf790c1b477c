/- What the proof of FnExactServed leans on: contracts of the program's and the specification's functions, and plain facts (part 3 of 7). -/
import Derived.Test.YtajccgffallajaaGreatFnExactServedB
namespace Go.Proofs.YtajccgffallajaaGreat
open Go.RowKit
open Go.Lib hiding intOf

set_option maxHeartbeats 8000000 in
set_option maxRecDepth 100000 in
theorem toKept_any (p : ByteArray) (a1 : Option Addr) (n1 c1 : Nat) (xs : List ByteArray) (a2 : Option Addr) (n2 c2 : Nat) (ys : List ByteArray) (st : Int) (a3 : Option Addr) (n3 c3 : Nat) (fs : List (ByteArray × ByteArray)) (b : ByteArray) (t ka kq : Int) (B : Nat) (w : World) (h1 : ArgT w B a1 n1 xs) (h2 : ArgT w B a2 n2 ys) (h3 : ArgF w B a3 n3 fs) (hB : B ≤ w.heap.size) (hn1 : n1 ≤ 1048576) (hn2 : n2 ≤ 1048576) (hn3 : n3 ≤ 1048576) :
    Calls Tryz.prog 77 #[.agg #[.string p, .slice a1 n1 c1, .slice a2 n2 c2, .int .i64 st, .slice a3 n3 c3, .string b, .int .i64 t, .int .i64 ka, .int .i64 kq]] w fun e w' => ∃ v1 v2 v3, e = .returned (.agg #[.string p, v1, v2, .int .i64 st, v3, .string b, .int .i64 t, .int .i64 ka, .int .i64 kq]) ∧ ObjO w' w.heap.size v1 n1 xs v2 n2 ys v3 n3 fs ∧ Below w.heap.size w w' := by
  have HA1 : Hid (∀ W, Below w.heap.size w W → ArgT W B a1 n1 xs) := fun W h => h1.below (h.mono hB)
  have HA2 : Hid (∀ W, Below w.heap.size w W → ArgT W B a2 n2 ys) := fun W h => h2.below (h.mono hB)
  have HA3 : Hid (∀ W, Below w.heap.size w W → ArgF W B a3 n3 fs) := fun W h => h3.below (h.mono hB)
  have HBB : Hid (∀ W, Below w.heap.size w W → B ≤ W.heap.size) := fun W h => Nat.le_trans hB h.size
  clear h1 h2 h3
  have hb0 : Below w.heap.size w w := Below.refl _ _
  go_enter Tryz.func77, Tryz.ntmps77
  go_upto_region 1 with fail
  obtain ⟨qv1, hqv1⟩ : ∃ q, q = (w).heap.size := ⟨_, rfl⟩
  obtain ⟨w1, hW1⟩ : ∃ W, W = (w).alloc (.cells #[.string p, .slice a1 n1 c1, .slice a2 n2 c2, .int .i64 st, .slice a3 n3 c3, .string b, .int .i64 t, .int .i64 ka, .int .i64 kq] 151) := ⟨_, rfl⟩
  have hz1 : (w).heap.size = qv1 := hqv1.symm
  first | rw [← hW1, ← hqv1] | rw [← hW1]
  have hs1 : w1.heap.size = qv1 + 1 := by rw [hW1, ← hz1]; simp
  have bw : Below (w).heap.size (w) w1 := by rw [hW1]; exact (Below.refl _ _).alloc (Nat.le_refl _) _
  have hb1 : Below w.heap.size w (w1) := hb0.trans (bw.mono hb0.size)
  have HBv1_1 : Hid ((w1).heap[qv1]? = some (.cells #[.string p, .slice a1 n1 c1, .slice a2 n2 c2, .int .i64 st, .slice a3 n3 c3, .string b, .int .i64 t, .int .i64 ka, .int .i64 kq] 151)) := by show _ = _; rw [hW1, ← hz1]; exact heap_alloc_new _ _
  clear hb0 bw hW1 hz1
  obtain ⟨qv2, hqv2⟩ : ∃ q, q = qv1 + 1 := ⟨_, rfl⟩
  obtain ⟨w2, hW2⟩ : ∃ W, W = (w1).alloc (.cells #[.string ⟨#[]⟩, .slice none 0 0, .slice none 0 0, .int .i64 0, .slice none 0 0, .string ⟨#[]⟩, .int .i64 0, .int .i64 0, .int .i64 0] 161) := ⟨_, rfl⟩
  have hz2 : (w1).heap.size = qv2 := by rw [hqv2]; exact hs1
  first | rw [← hW2, ← hqv2] | rw [← hW2]
  have hs2 : w2.heap.size = qv2 + 1 := by rw [hW2, ← hz2]; simp
  have bw : Below (w1).heap.size (w1) w2 := by rw [hW2]; exact (Below.refl _ _).alloc (Nat.le_refl _) _
  have hb2 : Below w.heap.size w (w2) := hb1.trans (bw.mono hb1.size)
  have HBv1_2 : Hid ((w2).heap[qv1]? = some (.cells #[.string p, .slice a1 n1 c1, .slice a2 n2 c2, .int .i64 st, .slice a3 n3 c3, .string b, .int .i64 t, .int .i64 ka, .int .i64 kq] 151)) := blk_below HBv1_1.out bw
  have HNv1v2 : Hid (qv1 ≠ qv2) := fun e => by have h1 := (Array.getElem?_eq_some_iff.1 HBv1_1.out).1; omega
  have HBv2_2 : Hid ((w2).heap[qv2]? = some (.cells #[.string ⟨#[]⟩, .slice none 0 0, .slice none 0 0, .int .i64 0, .slice none 0 0, .string ⟨#[]⟩, .int .i64 0, .int .i64 0, .int .i64 0] 161)) := by show _ = _; rw [hW2, ← hz2]; exact heap_alloc_new _ _
  have HGv2 : Hid (w.heap.size ≤ qv2) := by show _ ≤ _; rw [← hz2]; exact hb1.size
  clear hb1 HBv1_1 bw hW2 hz2
  clear hs2 hqv2 hs1 hqv1
  go_upto_region 2 with fail
  obtain ⟨qv3, hqv3⟩ : ∃ q, q = (w2).heap.size := ⟨_, rfl⟩
  obtain ⟨w3, hW3⟩ : ∃ W, W = (w2).alloc (.cells #[.string ⟨#[]⟩, .slice none 0 0, .slice none 0 0, .int .i64 0, .slice none 0 0, .string ⟨#[]⟩, .int .i64 0, .int .i64 0, .int .i64 0] 161) := ⟨_, rfl⟩
  have hz3 : (w2).heap.size = qv3 := hqv3.symm
  first | rw [← hW3, ← hqv3] | rw [← hW3]
  have hs3 : w3.heap.size = qv3 + 1 := by rw [hW3, ← hz3]; simp
  have bw : Below (w2).heap.size (w2) w3 := by rw [hW3]; exact (Below.refl _ _).alloc (Nat.le_refl _) _
  have hb3 : Below w.heap.size w (w3) := hb2.trans (bw.mono hb2.size)
  have HBv1_3 : Hid ((w3).heap[qv1]? = some (.cells #[.string p, .slice a1 n1 c1, .slice a2 n2 c2, .int .i64 st, .slice a3 n3 c3, .string b, .int .i64 t, .int .i64 ka, .int .i64 kq] 151)) := blk_below HBv1_2.out bw
  have HBv2_3 : Hid ((w3).heap[qv2]? = some (.cells #[.string ⟨#[]⟩, .slice none 0 0, .slice none 0 0, .int .i64 0, .slice none 0 0, .string ⟨#[]⟩, .int .i64 0, .int .i64 0, .int .i64 0] 161)) := blk_below HBv2_2.out bw
  have HNv1v3 : Hid (qv1 ≠ qv3) := fun e => by have h1 := (Array.getElem?_eq_some_iff.1 HBv1_2.out).1; omega
  have HNv2v3 : Hid (qv2 ≠ qv3) := fun e => by have h1 := (Array.getElem?_eq_some_iff.1 HBv2_2.out).1; omega
  have HBv3_3 : Hid ((w3).heap[qv3]? = some (.cells #[.string ⟨#[]⟩, .slice none 0 0, .slice none 0 0, .int .i64 0, .slice none 0 0, .string ⟨#[]⟩, .int .i64 0, .int .i64 0, .int .i64 0] 161)) := by show _ = _; rw [hW3, ← hz3]; exact heap_alloc_new _ _
  have HGv3 : Hid (w.heap.size ≤ qv3) := by show _ ≤ _; rw [← hz3]; exact hb2.size
  clear hb2 HBv1_2 HBv2_2 bw hW3 hz3
  clear hs3 hqv3
  have cv1_0 : (w3).cell? ⟨qv1, 0, none⟩ = some (.string p) := (cell_of HBv1_3.out 0).trans rfl
  have cv1_1 : (w3).cell? ⟨qv1, 1, none⟩ = some (.slice a1 n1 c1) := (cell_of HBv1_3.out 1).trans rfl
  have cv1_2 : (w3).cell? ⟨qv1, 2, none⟩ = some (.slice a2 n2 c2) := (cell_of HBv1_3.out 2).trans rfl
  have cv1_3 : (w3).cell? ⟨qv1, 3, none⟩ = some (.int .i64 st) := (cell_of HBv1_3.out 3).trans rfl
  have cv1_4 : (w3).cell? ⟨qv1, 4, none⟩ = some (.slice a3 n3 c3) := (cell_of HBv1_3.out 4).trans rfl
  have cv1_5 : (w3).cell? ⟨qv1, 5, none⟩ = some (.string b) := (cell_of HBv1_3.out 5).trans rfl
  have cv1_6 : (w3).cell? ⟨qv1, 6, none⟩ = some (.int .i64 t) := (cell_of HBv1_3.out 6).trans rfl
  go_wp2_with fail
  refine (toObj_any p a1 n1 c1 xs a2 n2 c2 ys st a3 n3 c3 fs b t B _ (HA1.out _ hb3) (HA2.out _ hb3) (HA3.out _ hb3) (HBB.out _ hb3) hn1 hn2 hn3).mono ?_
  rintro e w4 ⟨vv1, vv2, vv3, rfl, ⟨ownN, ownV, ownF, neX⟩, bw⟩
  obtain ⟨oN, pN, rfl⟩ := slice_of_owns ownN
  obtain ⟨oV, pV, rfl⟩ := slice_of_owns ownV
  obtain ⟨oF, pF, rfl⟩ := slice_of_owns ownF
  have APX : Hid (∀ j, (Value.slice oN n1 pN).ownBlock = some j → (Value.slice oV n2 pV).ownBlock ≠ some j) := neX
  clear neX
  have hb4 : Below w.heap.size w (w4) := hb3.trans (bw.mono hb3.size)
  have HBv1_4 : Hid ((w4).heap[qv1]? = some (.cells #[.string p, .slice a1 n1 c1, .slice a2 n2 c2, .int .i64 st, .slice a3 n3 c3, .string b, .int .i64 t, .int .i64 ka, .int .i64 kq] 151)) := blk_below HBv1_3.out bw
  have HBv2_4 : Hid ((w4).heap[qv2]? = some (.cells #[.string ⟨#[]⟩, .slice none 0 0, .slice none 0 0, .int .i64 0, .slice none 0 0, .string ⟨#[]⟩, .int .i64 0, .int .i64 0, .int .i64 0] 161)) := blk_below HBv2_3.out bw
  have HBv3_4 : Hid ((w4).heap[qv3]? = some (.cells #[.string ⟨#[]⟩, .slice none 0 0, .slice none 0 0, .int .i64 0, .slice none 0 0, .string ⟨#[]⟩, .int .i64 0, .int .i64 0, .int .i64 0] 161)) := blk_below HBv3_3.out bw
  have HON_4 : Hid ((w4).ownsRow w.heap.size 9 1 (.slice oN n1 pN) n1 (xs.map Value.string)) := owns_wide ownN hb3.size
  clear ownN
  have HOV_4 : Hid ((w4).ownsRow w.heap.size 9 1 (.slice oV n2 pV) n2 (ys.map Value.string)) := owns_wide ownV hb3.size
  clear ownV
  have HOF_4 : Hid ((w4).ownsRow w.heap.size 135 2 (.slice oF n3 pF) n3 (flatF fs)) := owns_wide ownF hb3.size
  clear ownF
  clear hb3 HBv1_3 HBv2_3 HBv3_3 bw
  clear cv1_0 cv1_1 cv1_2 cv1_3 cv1_4 cv1_5 cv1_6
  have cv3_0 : (w4).cell? ⟨qv3, 0, none⟩ = some (.string ⟨#[]⟩) := (cell_of HBv3_4.out 0).trans rfl
  have fcv3_0 : (w4).frozen? ⟨qv3, 0, none⟩ = false := frozen_of HBv3_4.out 0
  have cv3_1 : (w4).cell? ⟨qv3, 1, none⟩ = some (.slice none 0 0) := (cell_of HBv3_4.out 1).trans rfl
  have fcv3_1 : (w4).frozen? ⟨qv3, 1, none⟩ = false := frozen_of HBv3_4.out 1
  have cv3_2 : (w4).cell? ⟨qv3, 2, none⟩ = some (.slice none 0 0) := (cell_of HBv3_4.out 2).trans rfl
  have fcv3_2 : (w4).frozen? ⟨qv3, 2, none⟩ = false := frozen_of HBv3_4.out 2
  have cv3_3 : (w4).cell? ⟨qv3, 3, none⟩ = some (.int .i64 0) := (cell_of HBv3_4.out 3).trans rfl
  have fcv3_3 : (w4).frozen? ⟨qv3, 3, none⟩ = false := frozen_of HBv3_4.out 3
  have cv3_4 : (w4).cell? ⟨qv3, 4, none⟩ = some (.slice none 0 0) := (cell_of HBv3_4.out 4).trans rfl
  have fcv3_4 : (w4).frozen? ⟨qv3, 4, none⟩ = false := frozen_of HBv3_4.out 4
  have cv3_5 : (w4).cell? ⟨qv3, 5, none⟩ = some (.string ⟨#[]⟩) := (cell_of HBv3_4.out 5).trans rfl
  have fcv3_5 : (w4).frozen? ⟨qv3, 5, none⟩ = false := frozen_of HBv3_4.out 5
  have cv3_6 : (w4).cell? ⟨qv3, 6, none⟩ = some (.int .i64 0) := (cell_of HBv3_4.out 6).trans rfl
  have fcv3_6 : (w4).frozen? ⟨qv3, 6, none⟩ = false := frozen_of HBv3_4.out 6
  go_upto_region 3 with fail
  obtain ⟨w5, hW5⟩ : ∃ W, W = (w4).setCell ⟨qv3, 0, none⟩ (.string p) := ⟨_, rfl⟩
  rw [← hW5]
  have hb5 : Below w.heap.size w (w5) := by rw [hW5]; exact (hb4.setCell (p := ⟨qv3, 0, none⟩) HGv3.out _)
  have HON_5 : Hid ((w5).ownsRow w.heap.size 9 1 (.slice oN n1 pN) n1 (xs.map Value.string)) := by show World.ownsRow _ _ _ _ _ _ _; rw [hW5]; exact owns_same HON_4.out (fun g hg => heap_setCell_other _ _ g _ (own_ne HON_4.out HBv3_4.out (by decide) g hg))
  have HOV_5 : Hid ((w5).ownsRow w.heap.size 9 1 (.slice oV n2 pV) n2 (ys.map Value.string)) := by show World.ownsRow _ _ _ _ _ _ _; rw [hW5]; exact owns_same HOV_4.out (fun g hg => heap_setCell_other _ _ g _ (own_ne HOV_4.out HBv3_4.out (by decide) g hg))
  have HOF_5 : Hid ((w5).ownsRow w.heap.size 135 2 (.slice oF n3 pF) n3 (flatF fs)) := by show World.ownsRow _ _ _ _ _ _ _; rw [hW5]; exact owns_same HOF_4.out (fun g hg => heap_setCell_other _ _ g _ (own_ne HOF_4.out HBv3_4.out (by decide) g hg))
  have HBv1_5 : Hid ((w5).heap[qv1]? = some (.cells #[.string p, .slice a1 n1 c1, .slice a2 n2 c2, .int .i64 st, .slice a3 n3 c3, .string b, .int .i64 t, .int .i64 ka, .int .i64 kq] 151)) := by show _ = _; rw [hW5, heap_setCell_other _ _ _ _ HNv1v3.out]; exact HBv1_4.out
  have HBv2_5 : Hid ((w5).heap[qv2]? = some (.cells #[.string ⟨#[]⟩, .slice none 0 0, .slice none 0 0, .int .i64 0, .slice none 0 0, .string ⟨#[]⟩, .int .i64 0, .int .i64 0, .int .i64 0] 161)) := by show _ = _; rw [hW5, heap_setCell_other _ _ _ _ HNv2v3.out]; exact HBv2_4.out
  have HBv3_5 : Hid ((w5).heap[qv3]? = some (.cells #[.string p, .slice none 0 0, .slice none 0 0, .int .i64 0, .slice none 0 0, .string ⟨#[]⟩, .int .i64 0, .int .i64 0, .int .i64 0] 161)) := by show _ = _; rw [hW5]; have h := heap_set _ _ 0 _ _ _ (.string p) HBv3_4.out; simpa using h
  clear hb4 HON_4 HOV_4 HOF_4 HBv1_4 HBv2_4 HBv3_4 hW5
  obtain ⟨w6, hW6⟩ : ∃ W, W = (w5).setCell ⟨qv3, 1, none⟩ (.slice oN n1 pN) := ⟨_, rfl⟩
  rw [← hW6]
  have hb6 : Below w.heap.size w (w6) := by rw [hW6]; exact (hb5.setCell (p := ⟨qv3, 1, none⟩) HGv3.out _)
  have HON_6 : Hid ((w6).ownsRow w.heap.size 9 1 (.slice oN n1 pN) n1 (xs.map Value.string)) := by show World.ownsRow _ _ _ _ _ _ _; rw [hW6]; exact owns_same HON_5.out (fun g hg => heap_setCell_other _ _ g _ (own_ne HON_5.out HBv3_5.out (by decide) g hg))
  have HOV_6 : Hid ((w6).ownsRow w.heap.size 9 1 (.slice oV n2 pV) n2 (ys.map Value.string)) := by show World.ownsRow _ _ _ _ _ _ _; rw [hW6]; exact owns_same HOV_5.out (fun g hg => heap_setCell_other _ _ g _ (own_ne HOV_5.out HBv3_5.out (by decide) g hg))
  have HOF_6 : Hid ((w6).ownsRow w.heap.size 135 2 (.slice oF n3 pF) n3 (flatF fs)) := by show World.ownsRow _ _ _ _ _ _ _; rw [hW6]; exact owns_same HOF_5.out (fun g hg => heap_setCell_other _ _ g _ (own_ne HOF_5.out HBv3_5.out (by decide) g hg))
  have HBv1_6 : Hid ((w6).heap[qv1]? = some (.cells #[.string p, .slice a1 n1 c1, .slice a2 n2 c2, .int .i64 st, .slice a3 n3 c3, .string b, .int .i64 t, .int .i64 ka, .int .i64 kq] 151)) := by show _ = _; rw [hW6, heap_setCell_other _ _ _ _ HNv1v3.out]; exact HBv1_5.out
  have HBv2_6 : Hid ((w6).heap[qv2]? = some (.cells #[.string ⟨#[]⟩, .slice none 0 0, .slice none 0 0, .int .i64 0, .slice none 0 0, .string ⟨#[]⟩, .int .i64 0, .int .i64 0, .int .i64 0] 161)) := by show _ = _; rw [hW6, heap_setCell_other _ _ _ _ HNv2v3.out]; exact HBv2_5.out
  have HBv3_6 : Hid ((w6).heap[qv3]? = some (.cells #[.string p, .slice oN n1 pN, .slice none 0 0, .int .i64 0, .slice none 0 0, .string ⟨#[]⟩, .int .i64 0, .int .i64 0, .int .i64 0] 161)) := by show _ = _; rw [hW6]; have h := heap_set _ _ 1 _ _ _ (.slice oN n1 pN) HBv3_5.out; simpa using h
  clear hb5 HON_5 HOV_5 HOF_5 HBv1_5 HBv2_5 HBv3_5 hW6
  obtain ⟨w7, hW7⟩ : ∃ W, W = (w6).setCell ⟨qv3, 2, none⟩ (.slice oV n2 pV) := ⟨_, rfl⟩
  rw [← hW7]
  have hb7 : Below w.heap.size w (w7) := by rw [hW7]; exact (hb6.setCell (p := ⟨qv3, 2, none⟩) HGv3.out _)
  have HON_7 : Hid ((w7).ownsRow w.heap.size 9 1 (.slice oN n1 pN) n1 (xs.map Value.string)) := by show World.ownsRow _ _ _ _ _ _ _; rw [hW7]; exact owns_same HON_6.out (fun g hg => heap_setCell_other _ _ g _ (own_ne HON_6.out HBv3_6.out (by decide) g hg))
  have HOV_7 : Hid ((w7).ownsRow w.heap.size 9 1 (.slice oV n2 pV) n2 (ys.map Value.string)) := by show World.ownsRow _ _ _ _ _ _ _; rw [hW7]; exact owns_same HOV_6.out (fun g hg => heap_setCell_other _ _ g _ (own_ne HOV_6.out HBv3_6.out (by decide) g hg))
  have HOF_7 : Hid ((w7).ownsRow w.heap.size 135 2 (.slice oF n3 pF) n3 (flatF fs)) := by show World.ownsRow _ _ _ _ _ _ _; rw [hW7]; exact owns_same HOF_6.out (fun g hg => heap_setCell_other _ _ g _ (own_ne HOF_6.out HBv3_6.out (by decide) g hg))
  have HBv1_7 : Hid ((w7).heap[qv1]? = some (.cells #[.string p, .slice a1 n1 c1, .slice a2 n2 c2, .int .i64 st, .slice a3 n3 c3, .string b, .int .i64 t, .int .i64 ka, .int .i64 kq] 151)) := by show _ = _; rw [hW7, heap_setCell_other _ _ _ _ HNv1v3.out]; exact HBv1_6.out
  have HBv2_7 : Hid ((w7).heap[qv2]? = some (.cells #[.string ⟨#[]⟩, .slice none 0 0, .slice none 0 0, .int .i64 0, .slice none 0 0, .string ⟨#[]⟩, .int .i64 0, .int .i64 0, .int .i64 0] 161)) := by show _ = _; rw [hW7, heap_setCell_other _ _ _ _ HNv2v3.out]; exact HBv2_6.out
  have HBv3_7 : Hid ((w7).heap[qv3]? = some (.cells #[.string p, .slice oN n1 pN, .slice oV n2 pV, .int .i64 0, .slice none 0 0, .string ⟨#[]⟩, .int .i64 0, .int .i64 0, .int .i64 0] 161)) := by show _ = _; rw [hW7]; have h := heap_set _ _ 2 _ _ _ (.slice oV n2 pV) HBv3_6.out; simpa using h
  clear hb6 HON_6 HOV_6 HOF_6 HBv1_6 HBv2_6 HBv3_6 hW7
  obtain ⟨w8, hW8⟩ : ∃ W, W = (w7).setCell ⟨qv3, 3, none⟩ (.int .i64 st) := ⟨_, rfl⟩
  rw [← hW8]
  have hb8 : Below w.heap.size w (w8) := by rw [hW8]; exact (hb7.setCell (p := ⟨qv3, 3, none⟩) HGv3.out _)
  have HON_8 : Hid ((w8).ownsRow w.heap.size 9 1 (.slice oN n1 pN) n1 (xs.map Value.string)) := by show World.ownsRow _ _ _ _ _ _ _; rw [hW8]; exact owns_same HON_7.out (fun g hg => heap_setCell_other _ _ g _ (own_ne HON_7.out HBv3_7.out (by decide) g hg))
  have HOV_8 : Hid ((w8).ownsRow w.heap.size 9 1 (.slice oV n2 pV) n2 (ys.map Value.string)) := by show World.ownsRow _ _ _ _ _ _ _; rw [hW8]; exact owns_same HOV_7.out (fun g hg => heap_setCell_other _ _ g _ (own_ne HOV_7.out HBv3_7.out (by decide) g hg))
  have HOF_8 : Hid ((w8).ownsRow w.heap.size 135 2 (.slice oF n3 pF) n3 (flatF fs)) := by show World.ownsRow _ _ _ _ _ _ _; rw [hW8]; exact owns_same HOF_7.out (fun g hg => heap_setCell_other _ _ g _ (own_ne HOF_7.out HBv3_7.out (by decide) g hg))
  have HBv1_8 : Hid ((w8).heap[qv1]? = some (.cells #[.string p, .slice a1 n1 c1, .slice a2 n2 c2, .int .i64 st, .slice a3 n3 c3, .string b, .int .i64 t, .int .i64 ka, .int .i64 kq] 151)) := by show _ = _; rw [hW8, heap_setCell_other _ _ _ _ HNv1v3.out]; exact HBv1_7.out
  have HBv2_8 : Hid ((w8).heap[qv2]? = some (.cells #[.string ⟨#[]⟩, .slice none 0 0, .slice none 0 0, .int .i64 0, .slice none 0 0, .string ⟨#[]⟩, .int .i64 0, .int .i64 0, .int .i64 0] 161)) := by show _ = _; rw [hW8, heap_setCell_other _ _ _ _ HNv2v3.out]; exact HBv2_7.out
  have HBv3_8 : Hid ((w8).heap[qv3]? = some (.cells #[.string p, .slice oN n1 pN, .slice oV n2 pV, .int .i64 st, .slice none 0 0, .string ⟨#[]⟩, .int .i64 0, .int .i64 0, .int .i64 0] 161)) := by show _ = _; rw [hW8]; have h := heap_set _ _ 3 _ _ _ (.int .i64 st) HBv3_7.out; simpa using h
  clear hb7 HON_7 HOV_7 HOF_7 HBv1_7 HBv2_7 HBv3_7 hW8
  obtain ⟨w9, hW9⟩ : ∃ W, W = (w8).setCell ⟨qv3, 4, none⟩ (.slice oF n3 pF) := ⟨_, rfl⟩
  rw [← hW9]
  have hb9 : Below w.heap.size w (w9) := by rw [hW9]; exact (hb8.setCell (p := ⟨qv3, 4, none⟩) HGv3.out _)
  have HON_9 : Hid ((w9).ownsRow w.heap.size 9 1 (.slice oN n1 pN) n1 (xs.map Value.string)) := by show World.ownsRow _ _ _ _ _ _ _; rw [hW9]; exact owns_same HON_8.out (fun g hg => heap_setCell_other _ _ g _ (own_ne HON_8.out HBv3_8.out (by decide) g hg))
  have HOV_9 : Hid ((w9).ownsRow w.heap.size 9 1 (.slice oV n2 pV) n2 (ys.map Value.string)) := by show World.ownsRow _ _ _ _ _ _ _; rw [hW9]; exact owns_same HOV_8.out (fun g hg => heap_setCell_other _ _ g _ (own_ne HOV_8.out HBv3_8.out (by decide) g hg))
  have HOF_9 : Hid ((w9).ownsRow w.heap.size 135 2 (.slice oF n3 pF) n3 (flatF fs)) := by show World.ownsRow _ _ _ _ _ _ _; rw [hW9]; exact owns_same HOF_8.out (fun g hg => heap_setCell_other _ _ g _ (own_ne HOF_8.out HBv3_8.out (by decide) g hg))
  have HBv1_9 : Hid ((w9).heap[qv1]? = some (.cells #[.string p, .slice a1 n1 c1, .slice a2 n2 c2, .int .i64 st, .slice a3 n3 c3, .string b, .int .i64 t, .int .i64 ka, .int .i64 kq] 151)) := by show _ = _; rw [hW9, heap_setCell_other _ _ _ _ HNv1v3.out]; exact HBv1_8.out
  have HBv2_9 : Hid ((w9).heap[qv2]? = some (.cells #[.string ⟨#[]⟩, .slice none 0 0, .slice none 0 0, .int .i64 0, .slice none 0 0, .string ⟨#[]⟩, .int .i64 0, .int .i64 0, .int .i64 0] 161)) := by show _ = _; rw [hW9, heap_setCell_other _ _ _ _ HNv2v3.out]; exact HBv2_8.out
  have HBv3_9 : Hid ((w9).heap[qv3]? = some (.cells #[.string p, .slice oN n1 pN, .slice oV n2 pV, .int .i64 st, .slice oF n3 pF, .string ⟨#[]⟩, .int .i64 0, .int .i64 0, .int .i64 0] 161)) := by show _ = _; rw [hW9]; have h := heap_set _ _ 4 _ _ _ (.slice oF n3 pF) HBv3_8.out; simpa using h
  clear hb8 HON_8 HOV_8 HOF_8 HBv1_8 HBv2_8 HBv3_8 hW9
  obtain ⟨w10, hW10⟩ : ∃ W, W = (w9).setCell ⟨qv3, 5, none⟩ (.string b) := ⟨_, rfl⟩
  rw [← hW10]
  have hb10 : Below w.heap.size w (w10) := by rw [hW10]; exact (hb9.setCell (p := ⟨qv3, 5, none⟩) HGv3.out _)
  have HON_10 : Hid ((w10).ownsRow w.heap.size 9 1 (.slice oN n1 pN) n1 (xs.map Value.string)) := by show World.ownsRow _ _ _ _ _ _ _; rw [hW10]; exact owns_same HON_9.out (fun g hg => heap_setCell_other _ _ g _ (own_ne HON_9.out HBv3_9.out (by decide) g hg))
  have HOV_10 : Hid ((w10).ownsRow w.heap.size 9 1 (.slice oV n2 pV) n2 (ys.map Value.string)) := by show World.ownsRow _ _ _ _ _ _ _; rw [hW10]; exact owns_same HOV_9.out (fun g hg => heap_setCell_other _ _ g _ (own_ne HOV_9.out HBv3_9.out (by decide) g hg))
  have HOF_10 : Hid ((w10).ownsRow w.heap.size 135 2 (.slice oF n3 pF) n3 (flatF fs)) := by show World.ownsRow _ _ _ _ _ _ _; rw [hW10]; exact owns_same HOF_9.out (fun g hg => heap_setCell_other _ _ g _ (own_ne HOF_9.out HBv3_9.out (by decide) g hg))
  have HBv1_10 : Hid ((w10).heap[qv1]? = some (.cells #[.string p, .slice a1 n1 c1, .slice a2 n2 c2, .int .i64 st, .slice a3 n3 c3, .string b, .int .i64 t, .int .i64 ka, .int .i64 kq] 151)) := by show _ = _; rw [hW10, heap_setCell_other _ _ _ _ HNv1v3.out]; exact HBv1_9.out
  have HBv2_10 : Hid ((w10).heap[qv2]? = some (.cells #[.string ⟨#[]⟩, .slice none 0 0, .slice none 0 0, .int .i64 0, .slice none 0 0, .string ⟨#[]⟩, .int .i64 0, .int .i64 0, .int .i64 0] 161)) := by show _ = _; rw [hW10, heap_setCell_other _ _ _ _ HNv2v3.out]; exact HBv2_9.out
  have HBv3_10 : Hid ((w10).heap[qv3]? = some (.cells #[.string p, .slice oN n1 pN, .slice oV n2 pV, .int .i64 st, .slice oF n3 pF, .string b, .int .i64 0, .int .i64 0, .int .i64 0] 161)) := by show _ = _; rw [hW10]; have h := heap_set _ _ 5 _ _ _ (.string b) HBv3_9.out; simpa using h
  clear hb9 HON_9 HOV_9 HOF_9 HBv1_9 HBv2_9 HBv3_9 hW10
  obtain ⟨w11, hW11⟩ : ∃ W, W = (w10).setCell ⟨qv3, 6, none⟩ (.int .i64 t) := ⟨_, rfl⟩
  rw [← hW11]
  have hb11 : Below w.heap.size w (w11) := by rw [hW11]; exact (hb10.setCell (p := ⟨qv3, 6, none⟩) HGv3.out _)
  have HON_11 : Hid ((w11).ownsRow w.heap.size 9 1 (.slice oN n1 pN) n1 (xs.map Value.string)) := by show World.ownsRow _ _ _ _ _ _ _; rw [hW11]; exact owns_same HON_10.out (fun g hg => heap_setCell_other _ _ g _ (own_ne HON_10.out HBv3_10.out (by decide) g hg))
  have HOV_11 : Hid ((w11).ownsRow w.heap.size 9 1 (.slice oV n2 pV) n2 (ys.map Value.string)) := by show World.ownsRow _ _ _ _ _ _ _; rw [hW11]; exact owns_same HOV_10.out (fun g hg => heap_setCell_other _ _ g _ (own_ne HOV_10.out HBv3_10.out (by decide) g hg))
  have HOF_11 : Hid ((w11).ownsRow w.heap.size 135 2 (.slice oF n3 pF) n3 (flatF fs)) := by show World.ownsRow _ _ _ _ _ _ _; rw [hW11]; exact owns_same HOF_10.out (fun g hg => heap_setCell_other _ _ g _ (own_ne HOF_10.out HBv3_10.out (by decide) g hg))
  have HBv1_11 : Hid ((w11).heap[qv1]? = some (.cells #[.string p, .slice a1 n1 c1, .slice a2 n2 c2, .int .i64 st, .slice a3 n3 c3, .string b, .int .i64 t, .int .i64 ka, .int .i64 kq] 151)) := by show _ = _; rw [hW11, heap_setCell_other _ _ _ _ HNv1v3.out]; exact HBv1_10.out
  have HBv2_11 : Hid ((w11).heap[qv2]? = some (.cells #[.string ⟨#[]⟩, .slice none 0 0, .slice none 0 0, .int .i64 0, .slice none 0 0, .string ⟨#[]⟩, .int .i64 0, .int .i64 0, .int .i64 0] 161)) := by show _ = _; rw [hW11, heap_setCell_other _ _ _ _ HNv2v3.out]; exact HBv2_10.out
  have HBv3_11 : Hid ((w11).heap[qv3]? = some (.cells #[.string p, .slice oN n1 pN, .slice oV n2 pV, .int .i64 st, .slice oF n3 pF, .string b, .int .i64 t, .int .i64 0, .int .i64 0] 161)) := by show _ = _; rw [hW11]; have h := heap_set _ _ 6 _ _ _ (.int .i64 t) HBv3_10.out; simpa using h
  clear hb10 HON_10 HOV_10 HOF_10 HBv1_10 HBv2_10 HBv3_10 hW11
  clear cv3_0 fcv3_0 cv3_1 fcv3_1 cv3_2 fcv3_2 cv3_3 fcv3_3 cv3_4 fcv3_4 cv3_5 fcv3_5 cv3_6 fcv3_6
  have cv1_7 : (w11).cell? ⟨qv1, 7, none⟩ = some (.int .i64 ka) := (cell_of HBv1_11.out 7).trans rfl
  have cv3_7 : (w11).cell? ⟨qv3, 7, none⟩ = some (.int .i64 0) := (cell_of HBv3_11.out 7).trans rfl
  have fcv3_7 : (w11).frozen? ⟨qv3, 7, none⟩ = false := frozen_of HBv3_11.out 7
  go_upto_region 4 with fail
  obtain ⟨w12, hW12⟩ : ∃ W, W = (w11).setCell ⟨qv3, 7, none⟩ (.int .i64 ka) := ⟨_, rfl⟩
  rw [← hW12]
  have hb12 : Below w.heap.size w (w12) := by rw [hW12]; exact (hb11.setCell (p := ⟨qv3, 7, none⟩) HGv3.out _)
  have HON_12 : Hid ((w12).ownsRow w.heap.size 9 1 (.slice oN n1 pN) n1 (xs.map Value.string)) := by show World.ownsRow _ _ _ _ _ _ _; rw [hW12]; exact owns_same HON_11.out (fun g hg => heap_setCell_other _ _ g _ (own_ne HON_11.out HBv3_11.out (by decide) g hg))
  have HOV_12 : Hid ((w12).ownsRow w.heap.size 9 1 (.slice oV n2 pV) n2 (ys.map Value.string)) := by show World.ownsRow _ _ _ _ _ _ _; rw [hW12]; exact owns_same HOV_11.out (fun g hg => heap_setCell_other _ _ g _ (own_ne HOV_11.out HBv3_11.out (by decide) g hg))
  have HOF_12 : Hid ((w12).ownsRow w.heap.size 135 2 (.slice oF n3 pF) n3 (flatF fs)) := by show World.ownsRow _ _ _ _ _ _ _; rw [hW12]; exact owns_same HOF_11.out (fun g hg => heap_setCell_other _ _ g _ (own_ne HOF_11.out HBv3_11.out (by decide) g hg))
  have HBv1_12 : Hid ((w12).heap[qv1]? = some (.cells #[.string p, .slice a1 n1 c1, .slice a2 n2 c2, .int .i64 st, .slice a3 n3 c3, .string b, .int .i64 t, .int .i64 ka, .int .i64 kq] 151)) := by show _ = _; rw [hW12, heap_setCell_other _ _ _ _ HNv1v3.out]; exact HBv1_11.out
  have HBv2_12 : Hid ((w12).heap[qv2]? = some (.cells #[.string ⟨#[]⟩, .slice none 0 0, .slice none 0 0, .int .i64 0, .slice none 0 0, .string ⟨#[]⟩, .int .i64 0, .int .i64 0, .int .i64 0] 161)) := by show _ = _; rw [hW12, heap_setCell_other _ _ _ _ HNv2v3.out]; exact HBv2_11.out
  have HBv3_12 : Hid ((w12).heap[qv3]? = some (.cells #[.string p, .slice oN n1 pN, .slice oV n2 pV, .int .i64 st, .slice oF n3 pF, .string b, .int .i64 t, .int .i64 ka, .int .i64 0] 161)) := by show _ = _; rw [hW12]; have h := heap_set _ _ 7 _ _ _ (.int .i64 ka) HBv3_11.out; simpa using h
  clear hb11 HON_11 HOV_11 HOF_11 HBv1_11 HBv2_11 HBv3_11 hW12
  clear cv1_7 cv3_7 fcv3_7
  have cv1_8 : (w12).cell? ⟨qv1, 8, none⟩ = some (.int .i64 kq) := (cell_of HBv1_12.out 8).trans rfl
  have cv3_8 : (w12).cell? ⟨qv3, 8, none⟩ = some (.int .i64 0) := (cell_of HBv3_12.out 8).trans rfl
  have fcv3_8 : (w12).frozen? ⟨qv3, 8, none⟩ = false := frozen_of HBv3_12.out 8
  go_upto_region 5 with fail
  obtain ⟨w13, hW13⟩ : ∃ W, W = (w12).setCell ⟨qv3, 8, none⟩ (.int .i64 kq) := ⟨_, rfl⟩
  rw [← hW13]
  have hb13 : Below w.heap.size w (w13) := by rw [hW13]; exact (hb12.setCell (p := ⟨qv3, 8, none⟩) HGv3.out _)
  have HON_13 : Hid ((w13).ownsRow w.heap.size 9 1 (.slice oN n1 pN) n1 (xs.map Value.string)) := by show World.ownsRow _ _ _ _ _ _ _; rw [hW13]; exact owns_same HON_12.out (fun g hg => heap_setCell_other _ _ g _ (own_ne HON_12.out HBv3_12.out (by decide) g hg))
  have HOV_13 : Hid ((w13).ownsRow w.heap.size 9 1 (.slice oV n2 pV) n2 (ys.map Value.string)) := by show World.ownsRow _ _ _ _ _ _ _; rw [hW13]; exact owns_same HOV_12.out (fun g hg => heap_setCell_other _ _ g _ (own_ne HOV_12.out HBv3_12.out (by decide) g hg))
  have HOF_13 : Hid ((w13).ownsRow w.heap.size 135 2 (.slice oF n3 pF) n3 (flatF fs)) := by show World.ownsRow _ _ _ _ _ _ _; rw [hW13]; exact owns_same HOF_12.out (fun g hg => heap_setCell_other _ _ g _ (own_ne HOF_12.out HBv3_12.out (by decide) g hg))
  have HBv1_13 : Hid ((w13).heap[qv1]? = some (.cells #[.string p, .slice a1 n1 c1, .slice a2 n2 c2, .int .i64 st, .slice a3 n3 c3, .string b, .int .i64 t, .int .i64 ka, .int .i64 kq] 151)) := by show _ = _; rw [hW13, heap_setCell_other _ _ _ _ HNv1v3.out]; exact HBv1_12.out
  have HBv2_13 : Hid ((w13).heap[qv2]? = some (.cells #[.string ⟨#[]⟩, .slice none 0 0, .slice none 0 0, .int .i64 0, .slice none 0 0, .string ⟨#[]⟩, .int .i64 0, .int .i64 0, .int .i64 0] 161)) := by show _ = _; rw [hW13, heap_setCell_other _ _ _ _ HNv2v3.out]; exact HBv2_12.out
  have HBv3_13 : Hid ((w13).heap[qv3]? = some (.cells #[.string p, .slice oN n1 pN, .slice oV n2 pV, .int .i64 st, .slice oF n3 pF, .string b, .int .i64 t, .int .i64 ka, .int .i64 kq] 161)) := by show _ = _; rw [hW13]; have h := heap_set _ _ 8 _ _ _ (.int .i64 kq) HBv3_12.out; simpa using h
  clear hb12 HON_12 HOV_12 HOF_12 HBv1_12 HBv2_12 HBv3_12 hW13
  clear cv1_8 cv3_8 fcv3_8
  have cv2_0 : (w13).cell? ⟨qv2, 0, none⟩ = some (.string ⟨#[]⟩) := (cell_of HBv2_13.out 0).trans rfl
  have fcv2_0 : (w13).frozen? ⟨qv2, 0, none⟩ = false := frozen_of HBv2_13.out 0
  have cv2_1 : (w13).cell? ⟨qv2, 1, none⟩ = some (.slice none 0 0) := (cell_of HBv2_13.out 1).trans rfl
  have fcv2_1 : (w13).frozen? ⟨qv2, 1, none⟩ = false := frozen_of HBv2_13.out 1
  have cv2_2 : (w13).cell? ⟨qv2, 2, none⟩ = some (.slice none 0 0) := (cell_of HBv2_13.out 2).trans rfl
  have fcv2_2 : (w13).frozen? ⟨qv2, 2, none⟩ = false := frozen_of HBv2_13.out 2
  have cv2_3 : (w13).cell? ⟨qv2, 3, none⟩ = some (.int .i64 0) := (cell_of HBv2_13.out 3).trans rfl
  have fcv2_3 : (w13).frozen? ⟨qv2, 3, none⟩ = false := frozen_of HBv2_13.out 3
  have cv2_4 : (w13).cell? ⟨qv2, 4, none⟩ = some (.slice none 0 0) := (cell_of HBv2_13.out 4).trans rfl
  have fcv2_4 : (w13).frozen? ⟨qv2, 4, none⟩ = false := frozen_of HBv2_13.out 4
  have cv2_5 : (w13).cell? ⟨qv2, 5, none⟩ = some (.string ⟨#[]⟩) := (cell_of HBv2_13.out 5).trans rfl
  have fcv2_5 : (w13).frozen? ⟨qv2, 5, none⟩ = false := frozen_of HBv2_13.out 5
  have cv2_6 : (w13).cell? ⟨qv2, 6, none⟩ = some (.int .i64 0) := (cell_of HBv2_13.out 6).trans rfl
  have fcv2_6 : (w13).frozen? ⟨qv2, 6, none⟩ = false := frozen_of HBv2_13.out 6
  have cv2_7 : (w13).cell? ⟨qv2, 7, none⟩ = some (.int .i64 0) := (cell_of HBv2_13.out 7).trans rfl
  have fcv2_7 : (w13).frozen? ⟨qv2, 7, none⟩ = false := frozen_of HBv2_13.out 7
  have cv2_8 : (w13).cell? ⟨qv2, 8, none⟩ = some (.int .i64 0) := (cell_of HBv2_13.out 8).trans rfl
  have fcv2_8 : (w13).frozen? ⟨qv2, 8, none⟩ = false := frozen_of HBv2_13.out 8
  have cv3_0 : (w13).cell? ⟨qv3, 0, none⟩ = some (.string p) := (cell_of HBv3_13.out 0).trans rfl
  have cv3_1 : (w13).cell? ⟨qv3, 1, none⟩ = some (.slice oN n1 pN) := (cell_of HBv3_13.out 1).trans rfl
  have cv3_2 : (w13).cell? ⟨qv3, 2, none⟩ = some (.slice oV n2 pV) := (cell_of HBv3_13.out 2).trans rfl
  have cv3_3 : (w13).cell? ⟨qv3, 3, none⟩ = some (.int .i64 st) := (cell_of HBv3_13.out 3).trans rfl
  have cv3_4 : (w13).cell? ⟨qv3, 4, none⟩ = some (.slice oF n3 pF) := (cell_of HBv3_13.out 4).trans rfl
  have cv3_5 : (w13).cell? ⟨qv3, 5, none⟩ = some (.string b) := (cell_of HBv3_13.out 5).trans rfl
  have cv3_6 : (w13).cell? ⟨qv3, 6, none⟩ = some (.int .i64 t) := (cell_of HBv3_13.out 6).trans rfl
  have cv3_7 : (w13).cell? ⟨qv3, 7, none⟩ = some (.int .i64 ka) := (cell_of HBv3_13.out 7).trans rfl
  have cv3_8 : (w13).cell? ⟨qv3, 8, none⟩ = some (.int .i64 kq) := (cell_of HBv3_13.out 8).trans rfl
  go_wp2_with fail
  obtain ⟨w14, hW14⟩ : ∃ W, W = (w13).setCell ⟨qv2, 0, none⟩ (.string p) := ⟨_, rfl⟩
  rw [← hW14]
  have hb14 : Below w.heap.size w (w14) := by rw [hW14]; exact (hb13.setCell (p := ⟨qv2, 0, none⟩) HGv2.out _)
  have HON_14 : Hid ((w14).ownsRow w.heap.size 9 1 (.slice oN n1 pN) n1 (xs.map Value.string)) := by show World.ownsRow _ _ _ _ _ _ _; rw [hW14]; exact owns_same HON_13.out (fun g hg => heap_setCell_other _ _ g _ (own_ne HON_13.out HBv2_13.out (by decide) g hg))
  have HOV_14 : Hid ((w14).ownsRow w.heap.size 9 1 (.slice oV n2 pV) n2 (ys.map Value.string)) := by show World.ownsRow _ _ _ _ _ _ _; rw [hW14]; exact owns_same HOV_13.out (fun g hg => heap_setCell_other _ _ g _ (own_ne HOV_13.out HBv2_13.out (by decide) g hg))
  have HOF_14 : Hid ((w14).ownsRow w.heap.size 135 2 (.slice oF n3 pF) n3 (flatF fs)) := by show World.ownsRow _ _ _ _ _ _ _; rw [hW14]; exact owns_same HOF_13.out (fun g hg => heap_setCell_other _ _ g _ (own_ne HOF_13.out HBv2_13.out (by decide) g hg))
  have HBv1_14 : Hid ((w14).heap[qv1]? = some (.cells #[.string p, .slice a1 n1 c1, .slice a2 n2 c2, .int .i64 st, .slice a3 n3 c3, .string b, .int .i64 t, .int .i64 ka, .int .i64 kq] 151)) := by show _ = _; rw [hW14, heap_setCell_other _ _ _ _ HNv1v2.out]; exact HBv1_13.out
  have HBv3_14 : Hid ((w14).heap[qv3]? = some (.cells #[.string p, .slice oN n1 pN, .slice oV n2 pV, .int .i64 st, .slice oF n3 pF, .string b, .int .i64 t, .int .i64 ka, .int .i64 kq] 161)) := by show _ = _; rw [hW14, heap_setCell_other _ _ _ _ HNv2v3.out.symm]; exact HBv3_13.out
  have HBv2_14 : Hid ((w14).heap[qv2]? = some (.cells #[.string p, .slice none 0 0, .slice none 0 0, .int .i64 0, .slice none 0 0, .string ⟨#[]⟩, .int .i64 0, .int .i64 0, .int .i64 0] 161)) := by show _ = _; rw [hW14]; have h := heap_set _ _ 0 _ _ _ (.string p) HBv2_13.out; simpa using h
  clear hb13 HON_13 HOV_13 HOF_13 HBv1_13 HBv2_13 HBv3_13 hW14
  obtain ⟨w15, hW15⟩ : ∃ W, W = (w14).setCell ⟨qv2, 1, none⟩ (.slice oN n1 pN) := ⟨_, rfl⟩
  rw [← hW15]
  have hb15 : Below w.heap.size w (w15) := by rw [hW15]; exact (hb14.setCell (p := ⟨qv2, 1, none⟩) HGv2.out _)
  have HON_15 : Hid ((w15).ownsRow w.heap.size 9 1 (.slice oN n1 pN) n1 (xs.map Value.string)) := by show World.ownsRow _ _ _ _ _ _ _; rw [hW15]; exact owns_same HON_14.out (fun g hg => heap_setCell_other _ _ g _ (own_ne HON_14.out HBv2_14.out (by decide) g hg))
  have HOV_15 : Hid ((w15).ownsRow w.heap.size 9 1 (.slice oV n2 pV) n2 (ys.map Value.string)) := by show World.ownsRow _ _ _ _ _ _ _; rw [hW15]; exact owns_same HOV_14.out (fun g hg => heap_setCell_other _ _ g _ (own_ne HOV_14.out HBv2_14.out (by decide) g hg))
  have HOF_15 : Hid ((w15).ownsRow w.heap.size 135 2 (.slice oF n3 pF) n3 (flatF fs)) := by show World.ownsRow _ _ _ _ _ _ _; rw [hW15]; exact owns_same HOF_14.out (fun g hg => heap_setCell_other _ _ g _ (own_ne HOF_14.out HBv2_14.out (by decide) g hg))
  have HBv1_15 : Hid ((w15).heap[qv1]? = some (.cells #[.string p, .slice a1 n1 c1, .slice a2 n2 c2, .int .i64 st, .slice a3 n3 c3, .string b, .int .i64 t, .int .i64 ka, .int .i64 kq] 151)) := by show _ = _; rw [hW15, heap_setCell_other _ _ _ _ HNv1v2.out]; exact HBv1_14.out
  have HBv3_15 : Hid ((w15).heap[qv3]? = some (.cells #[.string p, .slice oN n1 pN, .slice oV n2 pV, .int .i64 st, .slice oF n3 pF, .string b, .int .i64 t, .int .i64 ka, .int .i64 kq] 161)) := by show _ = _; rw [hW15, heap_setCell_other _ _ _ _ HNv2v3.out.symm]; exact HBv3_14.out
  have HBv2_15 : Hid ((w15).heap[qv2]? = some (.cells #[.string p, .slice oN n1 pN, .slice none 0 0, .int .i64 0, .slice none 0 0, .string ⟨#[]⟩, .int .i64 0, .int .i64 0, .int .i64 0] 161)) := by show _ = _; rw [hW15]; have h := heap_set _ _ 1 _ _ _ (.slice oN n1 pN) HBv2_14.out; simpa using h
  clear hb14 HON_14 HOV_14 HOF_14 HBv1_14 HBv2_14 HBv3_14 hW15
  obtain ⟨w16, hW16⟩ : ∃ W, W = (w15).setCell ⟨qv2, 2, none⟩ (.slice oV n2 pV) := ⟨_, rfl⟩
  rw [← hW16]
  have hb16 : Below w.heap.size w (w16) := by rw [hW16]; exact (hb15.setCell (p := ⟨qv2, 2, none⟩) HGv2.out _)
  have HON_16 : Hid ((w16).ownsRow w.heap.size 9 1 (.slice oN n1 pN) n1 (xs.map Value.string)) := by show World.ownsRow _ _ _ _ _ _ _; rw [hW16]; exact owns_same HON_15.out (fun g hg => heap_setCell_other _ _ g _ (own_ne HON_15.out HBv2_15.out (by decide) g hg))
  have HOV_16 : Hid ((w16).ownsRow w.heap.size 9 1 (.slice oV n2 pV) n2 (ys.map Value.string)) := by show World.ownsRow _ _ _ _ _ _ _; rw [hW16]; exact owns_same HOV_15.out (fun g hg => heap_setCell_other _ _ g _ (own_ne HOV_15.out HBv2_15.out (by decide) g hg))
  have HOF_16 : Hid ((w16).ownsRow w.heap.size 135 2 (.slice oF n3 pF) n3 (flatF fs)) := by show World.ownsRow _ _ _ _ _ _ _; rw [hW16]; exact owns_same HOF_15.out (fun g hg => heap_setCell_other _ _ g _ (own_ne HOF_15.out HBv2_15.out (by decide) g hg))
  have HBv1_16 : Hid ((w16).heap[qv1]? = some (.cells #[.string p, .slice a1 n1 c1, .slice a2 n2 c2, .int .i64 st, .slice a3 n3 c3, .string b, .int .i64 t, .int .i64 ka, .int .i64 kq] 151)) := by show _ = _; rw [hW16, heap_setCell_other _ _ _ _ HNv1v2.out]; exact HBv1_15.out
  have HBv3_16 : Hid ((w16).heap[qv3]? = some (.cells #[.string p, .slice oN n1 pN, .slice oV n2 pV, .int .i64 st, .slice oF n3 pF, .string b, .int .i64 t, .int .i64 ka, .int .i64 kq] 161)) := by show _ = _; rw [hW16, heap_setCell_other _ _ _ _ HNv2v3.out.symm]; exact HBv3_15.out
  have HBv2_16 : Hid ((w16).heap[qv2]? = some (.cells #[.string p, .slice oN n1 pN, .slice oV n2 pV, .int .i64 0, .slice none 0 0, .string ⟨#[]⟩, .int .i64 0, .int .i64 0, .int .i64 0] 161)) := by show _ = _; rw [hW16]; have h := heap_set _ _ 2 _ _ _ (.slice oV n2 pV) HBv2_15.out; simpa using h
  clear hb15 HON_15 HOV_15 HOF_15 HBv1_15 HBv2_15 HBv3_15 hW16
  obtain ⟨w17, hW17⟩ : ∃ W, W = (w16).setCell ⟨qv2, 3, none⟩ (.int .i64 st) := ⟨_, rfl⟩
  rw [← hW17]
  have hb17 : Below w.heap.size w (w17) := by rw [hW17]; exact (hb16.setCell (p := ⟨qv2, 3, none⟩) HGv2.out _)
  have HON_17 : Hid ((w17).ownsRow w.heap.size 9 1 (.slice oN n1 pN) n1 (xs.map Value.string)) := by show World.ownsRow _ _ _ _ _ _ _; rw [hW17]; exact owns_same HON_16.out (fun g hg => heap_setCell_other _ _ g _ (own_ne HON_16.out HBv2_16.out (by decide) g hg))
  have HOV_17 : Hid ((w17).ownsRow w.heap.size 9 1 (.slice oV n2 pV) n2 (ys.map Value.string)) := by show World.ownsRow _ _ _ _ _ _ _; rw [hW17]; exact owns_same HOV_16.out (fun g hg => heap_setCell_other _ _ g _ (own_ne HOV_16.out HBv2_16.out (by decide) g hg))
  have HOF_17 : Hid ((w17).ownsRow w.heap.size 135 2 (.slice oF n3 pF) n3 (flatF fs)) := by show World.ownsRow _ _ _ _ _ _ _; rw [hW17]; exact owns_same HOF_16.out (fun g hg => heap_setCell_other _ _ g _ (own_ne HOF_16.out HBv2_16.out (by decide) g hg))
  have HBv1_17 : Hid ((w17).heap[qv1]? = some (.cells #[.string p, .slice a1 n1 c1, .slice a2 n2 c2, .int .i64 st, .slice a3 n3 c3, .string b, .int .i64 t, .int .i64 ka, .int .i64 kq] 151)) := by show _ = _; rw [hW17, heap_setCell_other _ _ _ _ HNv1v2.out]; exact HBv1_16.out
  have HBv3_17 : Hid ((w17).heap[qv3]? = some (.cells #[.string p, .slice oN n1 pN, .slice oV n2 pV, .int .i64 st, .slice oF n3 pF, .string b, .int .i64 t, .int .i64 ka, .int .i64 kq] 161)) := by show _ = _; rw [hW17, heap_setCell_other _ _ _ _ HNv2v3.out.symm]; exact HBv3_16.out
  have HBv2_17 : Hid ((w17).heap[qv2]? = some (.cells #[.string p, .slice oN n1 pN, .slice oV n2 pV, .int .i64 st, .slice none 0 0, .string ⟨#[]⟩, .int .i64 0, .int .i64 0, .int .i64 0] 161)) := by show _ = _; rw [hW17]; have h := heap_set _ _ 3 _ _ _ (.int .i64 st) HBv2_16.out; simpa using h
  clear hb16 HON_16 HOV_16 HOF_16 HBv1_16 HBv2_16 HBv3_16 hW17
  obtain ⟨w18, hW18⟩ : ∃ W, W = (w17).setCell ⟨qv2, 4, none⟩ (.slice oF n3 pF) := ⟨_, rfl⟩
  rw [← hW18]
  have hb18 : Below w.heap.size w (w18) := by rw [hW18]; exact (hb17.setCell (p := ⟨qv2, 4, none⟩) HGv2.out _)
  have HON_18 : Hid ((w18).ownsRow w.heap.size 9 1 (.slice oN n1 pN) n1 (xs.map Value.string)) := by show World.ownsRow _ _ _ _ _ _ _; rw [hW18]; exact owns_same HON_17.out (fun g hg => heap_setCell_other _ _ g _ (own_ne HON_17.out HBv2_17.out (by decide) g hg))
  have HOV_18 : Hid ((w18).ownsRow w.heap.size 9 1 (.slice oV n2 pV) n2 (ys.map Value.string)) := by show World.ownsRow _ _ _ _ _ _ _; rw [hW18]; exact owns_same HOV_17.out (fun g hg => heap_setCell_other _ _ g _ (own_ne HOV_17.out HBv2_17.out (by decide) g hg))
  have HOF_18 : Hid ((w18).ownsRow w.heap.size 135 2 (.slice oF n3 pF) n3 (flatF fs)) := by show World.ownsRow _ _ _ _ _ _ _; rw [hW18]; exact owns_same HOF_17.out (fun g hg => heap_setCell_other _ _ g _ (own_ne HOF_17.out HBv2_17.out (by decide) g hg))
  have HBv1_18 : Hid ((w18).heap[qv1]? = some (.cells #[.string p, .slice a1 n1 c1, .slice a2 n2 c2, .int .i64 st, .slice a3 n3 c3, .string b, .int .i64 t, .int .i64 ka, .int .i64 kq] 151)) := by show _ = _; rw [hW18, heap_setCell_other _ _ _ _ HNv1v2.out]; exact HBv1_17.out
  have HBv3_18 : Hid ((w18).heap[qv3]? = some (.cells #[.string p, .slice oN n1 pN, .slice oV n2 pV, .int .i64 st, .slice oF n3 pF, .string b, .int .i64 t, .int .i64 ka, .int .i64 kq] 161)) := by show _ = _; rw [hW18, heap_setCell_other _ _ _ _ HNv2v3.out.symm]; exact HBv3_17.out
  have HBv2_18 : Hid ((w18).heap[qv2]? = some (.cells #[.string p, .slice oN n1 pN, .slice oV n2 pV, .int .i64 st, .slice oF n3 pF, .string ⟨#[]⟩, .int .i64 0, .int .i64 0, .int .i64 0] 161)) := by show _ = _; rw [hW18]; have h := heap_set _ _ 4 _ _ _ (.slice oF n3 pF) HBv2_17.out; simpa using h
  clear hb17 HON_17 HOV_17 HOF_17 HBv1_17 HBv2_17 HBv3_17 hW18
  obtain ⟨w19, hW19⟩ : ∃ W, W = (w18).setCell ⟨qv2, 5, none⟩ (.string b) := ⟨_, rfl⟩
  rw [← hW19]
  have hb19 : Below w.heap.size w (w19) := by rw [hW19]; exact (hb18.setCell (p := ⟨qv2, 5, none⟩) HGv2.out _)
  have HON_19 : Hid ((w19).ownsRow w.heap.size 9 1 (.slice oN n1 pN) n1 (xs.map Value.string)) := by show World.ownsRow _ _ _ _ _ _ _; rw [hW19]; exact owns_same HON_18.out (fun g hg => heap_setCell_other _ _ g _ (own_ne HON_18.out HBv2_18.out (by decide) g hg))
  have HOV_19 : Hid ((w19).ownsRow w.heap.size 9 1 (.slice oV n2 pV) n2 (ys.map Value.string)) := by show World.ownsRow _ _ _ _ _ _ _; rw [hW19]; exact owns_same HOV_18.out (fun g hg => heap_setCell_other _ _ g _ (own_ne HOV_18.out HBv2_18.out (by decide) g hg))
  have HOF_19 : Hid ((w19).ownsRow w.heap.size 135 2 (.slice oF n3 pF) n3 (flatF fs)) := by show World.ownsRow _ _ _ _ _ _ _; rw [hW19]; exact owns_same HOF_18.out (fun g hg => heap_setCell_other _ _ g _ (own_ne HOF_18.out HBv2_18.out (by decide) g hg))
  have HBv1_19 : Hid ((w19).heap[qv1]? = some (.cells #[.string p, .slice a1 n1 c1, .slice a2 n2 c2, .int .i64 st, .slice a3 n3 c3, .string b, .int .i64 t, .int .i64 ka, .int .i64 kq] 151)) := by show _ = _; rw [hW19, heap_setCell_other _ _ _ _ HNv1v2.out]; exact HBv1_18.out
  have HBv3_19 : Hid ((w19).heap[qv3]? = some (.cells #[.string p, .slice oN n1 pN, .slice oV n2 pV, .int .i64 st, .slice oF n3 pF, .string b, .int .i64 t, .int .i64 ka, .int .i64 kq] 161)) := by show _ = _; rw [hW19, heap_setCell_other _ _ _ _ HNv2v3.out.symm]; exact HBv3_18.out
  have HBv2_19 : Hid ((w19).heap[qv2]? = some (.cells #[.string p, .slice oN n1 pN, .slice oV n2 pV, .int .i64 st, .slice oF n3 pF, .string b, .int .i64 0, .int .i64 0, .int .i64 0] 161)) := by show _ = _; rw [hW19]; have h := heap_set _ _ 5 _ _ _ (.string b) HBv2_18.out; simpa using h
  clear hb18 HON_18 HOV_18 HOF_18 HBv1_18 HBv2_18 HBv3_18 hW19
  obtain ⟨w20, hW20⟩ : ∃ W, W = (w19).setCell ⟨qv2, 6, none⟩ (.int .i64 t) := ⟨_, rfl⟩
  rw [← hW20]
  have hb20 : Below w.heap.size w (w20) := by rw [hW20]; exact (hb19.setCell (p := ⟨qv2, 6, none⟩) HGv2.out _)
  have HON_20 : Hid ((w20).ownsRow w.heap.size 9 1 (.slice oN n1 pN) n1 (xs.map Value.string)) := by show World.ownsRow _ _ _ _ _ _ _; rw [hW20]; exact owns_same HON_19.out (fun g hg => heap_setCell_other _ _ g _ (own_ne HON_19.out HBv2_19.out (by decide) g hg))
  have HOV_20 : Hid ((w20).ownsRow w.heap.size 9 1 (.slice oV n2 pV) n2 (ys.map Value.string)) := by show World.ownsRow _ _ _ _ _ _ _; rw [hW20]; exact owns_same HOV_19.out (fun g hg => heap_setCell_other _ _ g _ (own_ne HOV_19.out HBv2_19.out (by decide) g hg))
  have HOF_20 : Hid ((w20).ownsRow w.heap.size 135 2 (.slice oF n3 pF) n3 (flatF fs)) := by show World.ownsRow _ _ _ _ _ _ _; rw [hW20]; exact owns_same HOF_19.out (fun g hg => heap_setCell_other _ _ g _ (own_ne HOF_19.out HBv2_19.out (by decide) g hg))
  have HBv1_20 : Hid ((w20).heap[qv1]? = some (.cells #[.string p, .slice a1 n1 c1, .slice a2 n2 c2, .int .i64 st, .slice a3 n3 c3, .string b, .int .i64 t, .int .i64 ka, .int .i64 kq] 151)) := by show _ = _; rw [hW20, heap_setCell_other _ _ _ _ HNv1v2.out]; exact HBv1_19.out
  have HBv3_20 : Hid ((w20).heap[qv3]? = some (.cells #[.string p, .slice oN n1 pN, .slice oV n2 pV, .int .i64 st, .slice oF n3 pF, .string b, .int .i64 t, .int .i64 ka, .int .i64 kq] 161)) := by show _ = _; rw [hW20, heap_setCell_other _ _ _ _ HNv2v3.out.symm]; exact HBv3_19.out
  have HBv2_20 : Hid ((w20).heap[qv2]? = some (.cells #[.string p, .slice oN n1 pN, .slice oV n2 pV, .int .i64 st, .slice oF n3 pF, .string b, .int .i64 t, .int .i64 0, .int .i64 0] 161)) := by show _ = _; rw [hW20]; have h := heap_set _ _ 6 _ _ _ (.int .i64 t) HBv2_19.out; simpa using h
  clear hb19 HON_19 HOV_19 HOF_19 HBv1_19 HBv2_19 HBv3_19 hW20
  obtain ⟨w21, hW21⟩ : ∃ W, W = (w20).setCell ⟨qv2, 7, none⟩ (.int .i64 ka) := ⟨_, rfl⟩
  rw [← hW21]
  have hb21 : Below w.heap.size w (w21) := by rw [hW21]; exact (hb20.setCell (p := ⟨qv2, 7, none⟩) HGv2.out _)
  have HON_21 : Hid ((w21).ownsRow w.heap.size 9 1 (.slice oN n1 pN) n1 (xs.map Value.string)) := by show World.ownsRow _ _ _ _ _ _ _; rw [hW21]; exact owns_same HON_20.out (fun g hg => heap_setCell_other _ _ g _ (own_ne HON_20.out HBv2_20.out (by decide) g hg))
  have HOV_21 : Hid ((w21).ownsRow w.heap.size 9 1 (.slice oV n2 pV) n2 (ys.map Value.string)) := by show World.ownsRow _ _ _ _ _ _ _; rw [hW21]; exact owns_same HOV_20.out (fun g hg => heap_setCell_other _ _ g _ (own_ne HOV_20.out HBv2_20.out (by decide) g hg))
  have HOF_21 : Hid ((w21).ownsRow w.heap.size 135 2 (.slice oF n3 pF) n3 (flatF fs)) := by show World.ownsRow _ _ _ _ _ _ _; rw [hW21]; exact owns_same HOF_20.out (fun g hg => heap_setCell_other _ _ g _ (own_ne HOF_20.out HBv2_20.out (by decide) g hg))
  have HBv1_21 : Hid ((w21).heap[qv1]? = some (.cells #[.string p, .slice a1 n1 c1, .slice a2 n2 c2, .int .i64 st, .slice a3 n3 c3, .string b, .int .i64 t, .int .i64 ka, .int .i64 kq] 151)) := by show _ = _; rw [hW21, heap_setCell_other _ _ _ _ HNv1v2.out]; exact HBv1_20.out
  have HBv3_21 : Hid ((w21).heap[qv3]? = some (.cells #[.string p, .slice oN n1 pN, .slice oV n2 pV, .int .i64 st, .slice oF n3 pF, .string b, .int .i64 t, .int .i64 ka, .int .i64 kq] 161)) := by show _ = _; rw [hW21, heap_setCell_other _ _ _ _ HNv2v3.out.symm]; exact HBv3_20.out
  have HBv2_21 : Hid ((w21).heap[qv2]? = some (.cells #[.string p, .slice oN n1 pN, .slice oV n2 pV, .int .i64 st, .slice oF n3 pF, .string b, .int .i64 t, .int .i64 ka, .int .i64 0] 161)) := by show _ = _; rw [hW21]; have h := heap_set _ _ 7 _ _ _ (.int .i64 ka) HBv2_20.out; simpa using h
  clear hb20 HON_20 HOV_20 HOF_20 HBv1_20 HBv2_20 HBv3_20 hW21
  obtain ⟨w22, hW22⟩ : ∃ W, W = (w21).setCell ⟨qv2, 8, none⟩ (.int .i64 kq) := ⟨_, rfl⟩
  rw [← hW22]
  have hb22 : Below w.heap.size w (w22) := by rw [hW22]; exact (hb21.setCell (p := ⟨qv2, 8, none⟩) HGv2.out _)
  have HON_22 : Hid ((w22).ownsRow w.heap.size 9 1 (.slice oN n1 pN) n1 (xs.map Value.string)) := by show World.ownsRow _ _ _ _ _ _ _; rw [hW22]; exact owns_same HON_21.out (fun g hg => heap_setCell_other _ _ g _ (own_ne HON_21.out HBv2_21.out (by decide) g hg))
  have HOV_22 : Hid ((w22).ownsRow w.heap.size 9 1 (.slice oV n2 pV) n2 (ys.map Value.string)) := by show World.ownsRow _ _ _ _ _ _ _; rw [hW22]; exact owns_same HOV_21.out (fun g hg => heap_setCell_other _ _ g _ (own_ne HOV_21.out HBv2_21.out (by decide) g hg))
  have HOF_22 : Hid ((w22).ownsRow w.heap.size 135 2 (.slice oF n3 pF) n3 (flatF fs)) := by show World.ownsRow _ _ _ _ _ _ _; rw [hW22]; exact owns_same HOF_21.out (fun g hg => heap_setCell_other _ _ g _ (own_ne HOF_21.out HBv2_21.out (by decide) g hg))
  have HBv1_22 : Hid ((w22).heap[qv1]? = some (.cells #[.string p, .slice a1 n1 c1, .slice a2 n2 c2, .int .i64 st, .slice a3 n3 c3, .string b, .int .i64 t, .int .i64 ka, .int .i64 kq] 151)) := by show _ = _; rw [hW22, heap_setCell_other _ _ _ _ HNv1v2.out]; exact HBv1_21.out
  have HBv3_22 : Hid ((w22).heap[qv3]? = some (.cells #[.string p, .slice oN n1 pN, .slice oV n2 pV, .int .i64 st, .slice oF n3 pF, .string b, .int .i64 t, .int .i64 ka, .int .i64 kq] 161)) := by show _ = _; rw [hW22, heap_setCell_other _ _ _ _ HNv2v3.out.symm]; exact HBv3_21.out
  have HBv2_22 : Hid ((w22).heap[qv2]? = some (.cells #[.string p, .slice oN n1 pN, .slice oV n2 pV, .int .i64 st, .slice oF n3 pF, .string b, .int .i64 t, .int .i64 ka, .int .i64 kq] 161)) := by show _ = _; rw [hW22]; have h := heap_set _ _ 8 _ _ _ (.int .i64 kq) HBv2_21.out; simpa using h
  clear hb21 HON_21 HOV_21 HOF_21 HBv1_21 HBv2_21 HBv3_21 hW22
  have kv2_0 : (w22).cell? ⟨qv2, 0, none⟩ = some (.string p) := (cell_of HBv2_22.out 0).trans rfl
  have kv2_1 : (w22).cell? ⟨qv2, 1, none⟩ = some (.slice oN n1 pN) := (cell_of HBv2_22.out 1).trans rfl
  have kv2_2 : (w22).cell? ⟨qv2, 2, none⟩ = some (.slice oV n2 pV) := (cell_of HBv2_22.out 2).trans rfl
  have kv2_3 : (w22).cell? ⟨qv2, 3, none⟩ = some (.int .i64 st) := (cell_of HBv2_22.out 3).trans rfl
  have kv2_4 : (w22).cell? ⟨qv2, 4, none⟩ = some (.slice oF n3 pF) := (cell_of HBv2_22.out 4).trans rfl
  have kv2_5 : (w22).cell? ⟨qv2, 5, none⟩ = some (.string b) := (cell_of HBv2_22.out 5).trans rfl
  have kv2_6 : (w22).cell? ⟨qv2, 6, none⟩ = some (.int .i64 t) := (cell_of HBv2_22.out 6).trans rfl
  have kv2_7 : (w22).cell? ⟨qv2, 7, none⟩ = some (.int .i64 ka) := (cell_of HBv2_22.out 7).trans rfl
  have kv2_8 : (w22).cell? ⟨qv2, 8, none⟩ = some (.int .i64 kq) := (cell_of HBv2_22.out 8).trans rfl
  refine bodyPost_ret (v := .agg #[.string p, .slice oN n1 pN, .slice oV n2 pV, .int .i64 st, .slice oF n3 pF, .string b, .int .i64 t, .int .i64 ka, .int .i64 kq]) (by simp [results, Tryz.results77, go_sem, kv2_0, kv2_1, kv2_2, kv2_3, kv2_4, kv2_5, kv2_6, kv2_7, kv2_8]) rfl ?_
  exact ⟨_, _, _, rfl, ⟨HON_22.out, HOV_22.out, HOF_22.out, APX.out⟩, hb22⟩

set_option maxHeartbeats 8000000 in
set_option maxRecDepth 100000 in
theorem szKept_any (L : Int) (hL0 : 0 ≤ L) (hL1 : L ≤ 1048576) (p : ByteArray) (a1 : Option Addr) (n1 c1 : Nat) (xs : List ByteArray) (a2 : Option Addr) (n2 c2 : Nat) (ys : List ByteArray) (st : Int) (a3 : Option Addr) (n3 c3 : Nat) (fs : List (ByteArray × ByteArray)) (b : ByteArray) (t ka kq : Int) (B : Nat) (w : World) (h1 : ArgT w B a1 n1 xs) (h2 : ArgT w B a2 n2 ys) (h3 : ArgF w B a3 n3 fs) (hB : B ≤ w.heap.size) (hn1 : n1 ≤ maxLen) (hn2 : n2 ≤ maxLen) (hn3 : n3 ≤ maxLen) (hs1 : ∀ i, i < n1 → (textAt xs i).size ≤ maxLen) (hs2 : ∀ i, i < n2 → (textAt ys i).size ≤ maxLen) (hs3 : WalkF n3 fs) (hp : p.size ≤ maxLen) (hx : b.size ≤ maxLen) :
    Calls Tryz.prog 69 #[.agg #[.string p, .slice a1 n1 c1, .slice a2 n2 c2, .int .i64 st, .slice a3 n3 c3, .string b, .int .i64 t, .int .i64 ka, .int .i64 kq], .int .i64 L] w fun e w' => SzObj L p n1 xs n2 ys n3 fs b w e w' := by
  have HA1 : Hid (∀ W, Below w.heap.size w W → ArgT W B a1 n1 xs) := fun W h => h1.below (h.mono hB)
  have HA2 : Hid (∀ W, Below w.heap.size w W → ArgT W B a2 n2 ys) := fun W h => h2.below (h.mono hB)
  have HA3 : Hid (∀ W, Below w.heap.size w W → ArgF W B a3 n3 fs) := fun W h => h3.below (h.mono hB)
  have HBB : Hid (∀ W, Below w.heap.size w W → B ≤ W.heap.size) := fun W h => Nat.le_trans hB h.size
  clear h1 h2 h3
  have HQ : Hid (n1 ≤ maxLen ∧ n2 ≤ maxLen ∧ n3 ≤ maxLen ∧ (∀ i, i < n1 → (textAt xs i).size ≤ maxLen) ∧ (∀ i, i < n2 → (textAt ys i).size ≤ maxLen) ∧ WalkF n3 fs ∧ p.size ≤ maxLen ∧ b.size ≤ maxLen) := ⟨hn1, hn2, hn3, hs1, hs2, hs3, hp, hx⟩
  clear hn1 hn2 hn3 hs1 hs2 hs3 hp hx
  have hb0 : Below w.heap.size w w := Below.refl _ _
  go_enter Tryz.func69, Tryz.ntmps69
  go_upto_region 1 with fail
  obtain ⟨qv1, hqv1⟩ : ∃ q, q = (w).heap.size := ⟨_, rfl⟩
  obtain ⟨w1, hW1⟩ : ∃ W, W = (w).alloc (.cells #[.string p, .slice a1 n1 c1, .slice a2 n2 c2, .int .i64 st, .slice a3 n3 c3, .string b, .int .i64 t, .int .i64 ka, .int .i64 kq] 151) := ⟨_, rfl⟩
  have hz1 : (w).heap.size = qv1 := hqv1.symm
  first | rw [← hW1, ← hqv1] | rw [← hW1]
  have hs1 : w1.heap.size = qv1 + 1 := by rw [hW1, ← hz1]; simp
  have bw : Below (w).heap.size (w) w1 := by rw [hW1]; exact (Below.refl _ _).alloc (Nat.le_refl _) _
  have hb1 : Below w.heap.size w (w1) := hb0.trans (bw.mono hb0.size)
  have HBv1_1 : Hid ((w1).heap[qv1]? = some (.cells #[.string p, .slice a1 n1 c1, .slice a2 n2 c2, .int .i64 st, .slice a3 n3 c3, .string b, .int .i64 t, .int .i64 ka, .int .i64 kq] 151)) := by show _ = _; rw [hW1, ← hz1]; exact heap_alloc_new _ _
  clear hb0 bw hW1 hz1
  clear hs1 hqv1
  have cv1_0 : (w1).cell? ⟨qv1, 0, none⟩ = some (.string p) := (cell_of HBv1_1.out 0).trans rfl
  have cv1_1 : (w1).cell? ⟨qv1, 1, none⟩ = some (.slice a1 n1 c1) := (cell_of HBv1_1.out 1).trans rfl
  have cv1_2 : (w1).cell? ⟨qv1, 2, none⟩ = some (.slice a2 n2 c2) := (cell_of HBv1_1.out 2).trans rfl
  have cv1_3 : (w1).cell? ⟨qv1, 3, none⟩ = some (.int .i64 st) := (cell_of HBv1_1.out 3).trans rfl
  have cv1_4 : (w1).cell? ⟨qv1, 4, none⟩ = some (.slice a3 n3 c3) := (cell_of HBv1_1.out 4).trans rfl
  have cv1_5 : (w1).cell? ⟨qv1, 5, none⟩ = some (.string b) := (cell_of HBv1_1.out 5).trans rfl
  have cv1_6 : (w1).cell? ⟨qv1, 6, none⟩ = some (.int .i64 t) := (cell_of HBv1_1.out 6).trans rfl
  go_wp2_with fail
  refine (szObj_any L (by omega) (by omega) p a1 n1 c1 xs a2 n2 c2 ys st a3 n3 c3 fs b t B _ (HA1.out _ hb1) (HA2.out _ hb1) (HA3.out _ hb1) (HBB.out _ hb1) HQ.out.1 HQ.out.2.1 HQ.out.2.2.1 HQ.out.2.2.2.1 HQ.out.2.2.2.2.1 HQ.out.2.2.2.2.2.1 HQ.out.2.2.2.2.2.2.1 HQ.out.2.2.2.2.2.2.2).mono ?_
  rintro e w2 ⟨r1, rfl, hl1, hr1, bw⟩
  have HR1 : Hid (0 ≤ r1 → _) := hr1
  clear hr1
  have hb2 : Below w.heap.size w (w2) := hb1.trans (bw.mono hb1.size)
  have HBv1_2 : Hid ((w2).heap[qv1]? = some (.cells #[.string p, .slice a1 n1 c1, .slice a2 n2 c2, .int .i64 st, .slice a3 n3 c3, .string b, .int .i64 t, .int .i64 ka, .int .i64 kq] 151)) := blk_below HBv1_1.out bw
  clear hb1 HBv1_1 bw
  clear cv1_0 cv1_1 cv1_2 cv1_3 cv1_4 cv1_5 cv1_6
  by_cases hc1 : r1 < 0
  · go_wp2_with fail
    go_ret
    exact ⟨-1, rfl, by omega, fun h => absurd h (by omega), hb2⟩
  · go_wp2_with fail
    go_ret
    exact ⟨r1, rfl, by omega, HR1.out, hb2⟩

set_option maxHeartbeats 8000000 in
set_option maxRecDepth 100000 in
theorem eqKept_any (p : ByteArray) (n1 : Nat) (xs : List ByteArray) (n2 : Nat) (ys : List ByteArray) (st : Int) (n3 : Nat) (fs : List (ByteArray × ByteArray)) (b : ByteArray) (t ka kq : Int) (v1 v2 v3 u1 u2 u3 : Value) (B1 B2 : Nat) (w : World) (hx : ObjO w B1 v1 n1 xs v2 n2 ys v3 n3 fs) (hy : ObjO w B2 u1 n1 xs u2 n2 ys u3 n3 fs) (hn1 : n1 ≤ 2000000) (hn2 : n2 ≤ 2000000) (hn3 : n3 ≤ 2000000) :
    Calls Tryz.prog 89 #[.agg #[.string p, v1, v2, .int .i64 st, v3, .string b, .int .i64 t, .int .i64 ka, .int .i64 kq], .agg #[.string p, u1, u2, .int .i64 st, u3, .string b, .int .i64 t, .int .i64 ka, .int .i64 kq]] w fun e w' => e = .returned (.bool true) ∧ Below w.heap.size w w' := by
  obtain ⟨oNx, pNx, rfl⟩ := slice_of_owns hx.names
  obtain ⟨oVx, pVx, rfl⟩ := slice_of_owns hx.vals
  obtain ⟨oFx, pFx, rfl⟩ := slice_of_owns hx.flds
  have HONx_0 : Hid ((w).ownsRow B1 9 1 (.slice oNx n1 pNx) n1 (xs.map Value.string)) := hx.names
  have HOVx_0 : Hid ((w).ownsRow B1 9 1 (.slice oVx n2 pVx) n2 (ys.map Value.string)) := hx.vals
  have HOFx_0 : Hid ((w).ownsRow B1 135 2 (.slice oFx n3 pFx) n3 (flatF fs)) := hx.flds
  have APx : Hid (∀ j, (Value.slice oNx n1 pNx).ownBlock = some j → (Value.slice oVx n2 pVx).ownBlock ≠ some j) := hx.ne
  clear hx
  obtain ⟨oNy, pNy, rfl⟩ := slice_of_owns hy.names
  obtain ⟨oVy, pVy, rfl⟩ := slice_of_owns hy.vals
  obtain ⟨oFy, pFy, rfl⟩ := slice_of_owns hy.flds
  have HONy_0 : Hid ((w).ownsRow B2 9 1 (.slice oNy n1 pNy) n1 (xs.map Value.string)) := hy.names
  have HOVy_0 : Hid ((w).ownsRow B2 9 1 (.slice oVy n2 pVy) n2 (ys.map Value.string)) := hy.vals
  have HOFy_0 : Hid ((w).ownsRow B2 135 2 (.slice oFy n3 pFy) n3 (flatF fs)) := hy.flds
  have APy : Hid (∀ j, (Value.slice oNy n1 pNy).ownBlock = some j → (Value.slice oVy n2 pVy).ownBlock ≠ some j) := hy.ne
  clear hy
  have hka : (ka != ka) = false := by simp
  have hkq : (kq != kq) = false := by simp
  have hb0 : Below w.heap.size w w := Below.refl _ _
  go_enter Tryz.func89, Tryz.ntmps89
  go_upto_region 1 with fail
  obtain ⟨qv1, hqv1⟩ : ∃ q, q = (w).heap.size := ⟨_, rfl⟩
  obtain ⟨w1, hW1⟩ : ∃ W, W = (w).alloc (.cells #[.string p, .slice oNx n1 pNx, .slice oVx n2 pVx, .int .i64 st, .slice oFx n3 pFx, .string b, .int .i64 t, .int .i64 ka, .int .i64 kq] 161) := ⟨_, rfl⟩
  have hz1 : (w).heap.size = qv1 := hqv1.symm
  first | rw [← hW1, ← hqv1] | rw [← hW1]
  have hs1 : w1.heap.size = qv1 + 1 := by rw [hW1, ← hz1]; simp
  have bw : Below (w).heap.size (w) w1 := by rw [hW1]; exact (Below.refl _ _).alloc (Nat.le_refl _) _
  have hb1 : Below w.heap.size w (w1) := hb0.trans (bw.mono hb0.size)
  have HONx_1 : Hid ((w1).ownsRow B1 9 1 (.slice oNx n1 pNx) n1 (xs.map Value.string)) := owns_below HONx_0.out bw (fun g hg => owns_lt HONx_0.out hg)
  have HOVx_1 : Hid ((w1).ownsRow B1 9 1 (.slice oVx n2 pVx) n2 (ys.map Value.string)) := owns_below HOVx_0.out bw (fun g hg => owns_lt HOVx_0.out hg)
  have HOFx_1 : Hid ((w1).ownsRow B1 135 2 (.slice oFx n3 pFx) n3 (flatF fs)) := owns_below HOFx_0.out bw (fun g hg => owns_lt HOFx_0.out hg)
  have HONy_1 : Hid ((w1).ownsRow B2 9 1 (.slice oNy n1 pNy) n1 (xs.map Value.string)) := owns_below HONy_0.out bw (fun g hg => owns_lt HONy_0.out hg)
  have HOVy_1 : Hid ((w1).ownsRow B2 9 1 (.slice oVy n2 pVy) n2 (ys.map Value.string)) := owns_below HOVy_0.out bw (fun g hg => owns_lt HOVy_0.out hg)
  have HOFy_1 : Hid ((w1).ownsRow B2 135 2 (.slice oFy n3 pFy) n3 (flatF fs)) := owns_below HOFy_0.out bw (fun g hg => owns_lt HOFy_0.out hg)
  have HBv1_1 : Hid ((w1).heap[qv1]? = some (.cells #[.string p, .slice oNx n1 pNx, .slice oVx n2 pVx, .int .i64 st, .slice oFx n3 pFx, .string b, .int .i64 t, .int .i64 ka, .int .i64 kq] 161)) := by show _ = _; rw [hW1, ← hz1]; exact heap_alloc_new _ _
  clear hb0 HONx_0 HOVx_0 HOFx_0 HONy_0 HOVy_0 HOFy_0 bw hW1 hz1
  obtain ⟨qv2, hqv2⟩ : ∃ q, q = qv1 + 1 := ⟨_, rfl⟩
  obtain ⟨w2, hW2⟩ : ∃ W, W = (w1).alloc (.cells #[.string p, .slice oNy n1 pNy, .slice oVy n2 pVy, .int .i64 st, .slice oFy n3 pFy, .string b, .int .i64 t, .int .i64 ka, .int .i64 kq] 161) := ⟨_, rfl⟩
  have hz2 : (w1).heap.size = qv2 := by rw [hqv2]; exact hs1
  first | rw [← hW2, ← hqv2] | rw [← hW2]
  have hs2 : w2.heap.size = qv2 + 1 := by rw [hW2, ← hz2]; simp
  have bw : Below (w1).heap.size (w1) w2 := by rw [hW2]; exact (Below.refl _ _).alloc (Nat.le_refl _) _
  have hb2 : Below w.heap.size w (w2) := hb1.trans (bw.mono hb1.size)
  have HONx_2 : Hid ((w2).ownsRow B1 9 1 (.slice oNx n1 pNx) n1 (xs.map Value.string)) := owns_below HONx_1.out bw (fun g hg => owns_lt HONx_1.out hg)
  have HOVx_2 : Hid ((w2).ownsRow B1 9 1 (.slice oVx n2 pVx) n2 (ys.map Value.string)) := owns_below HOVx_1.out bw (fun g hg => owns_lt HOVx_1.out hg)
  have HOFx_2 : Hid ((w2).ownsRow B1 135 2 (.slice oFx n3 pFx) n3 (flatF fs)) := owns_below HOFx_1.out bw (fun g hg => owns_lt HOFx_1.out hg)
  have HONy_2 : Hid ((w2).ownsRow B2 9 1 (.slice oNy n1 pNy) n1 (xs.map Value.string)) := owns_below HONy_1.out bw (fun g hg => owns_lt HONy_1.out hg)
  have HOVy_2 : Hid ((w2).ownsRow B2 9 1 (.slice oVy n2 pVy) n2 (ys.map Value.string)) := owns_below HOVy_1.out bw (fun g hg => owns_lt HOVy_1.out hg)
  have HOFy_2 : Hid ((w2).ownsRow B2 135 2 (.slice oFy n3 pFy) n3 (flatF fs)) := owns_below HOFy_1.out bw (fun g hg => owns_lt HOFy_1.out hg)
  have HBv1_2 : Hid ((w2).heap[qv1]? = some (.cells #[.string p, .slice oNx n1 pNx, .slice oVx n2 pVx, .int .i64 st, .slice oFx n3 pFx, .string b, .int .i64 t, .int .i64 ka, .int .i64 kq] 161)) := blk_below HBv1_1.out bw
  have HBv2_2 : Hid ((w2).heap[qv2]? = some (.cells #[.string p, .slice oNy n1 pNy, .slice oVy n2 pVy, .int .i64 st, .slice oFy n3 pFy, .string b, .int .i64 t, .int .i64 ka, .int .i64 kq] 161)) := by show _ = _; rw [hW2, ← hz2]; exact heap_alloc_new _ _
  clear hb1 HONx_1 HOVx_1 HOFx_1 HONy_1 HOVy_1 HOFy_1 HBv1_1 bw hW2 hz2
  clear hs2 hqv2 hs1 hqv1
  have cv1_0 : (w2).cell? ⟨qv1, 0, none⟩ = some (.string p) := (cell_of HBv1_2.out 0).trans rfl
  have cv1_1 : (w2).cell? ⟨qv1, 1, none⟩ = some (.slice oNx n1 pNx) := (cell_of HBv1_2.out 1).trans rfl
  have cv1_2 : (w2).cell? ⟨qv1, 2, none⟩ = some (.slice oVx n2 pVx) := (cell_of HBv1_2.out 2).trans rfl
  have cv1_3 : (w2).cell? ⟨qv1, 3, none⟩ = some (.int .i64 st) := (cell_of HBv1_2.out 3).trans rfl
  have cv1_4 : (w2).cell? ⟨qv1, 4, none⟩ = some (.slice oFx n3 pFx) := (cell_of HBv1_2.out 4).trans rfl
  have cv1_5 : (w2).cell? ⟨qv1, 5, none⟩ = some (.string b) := (cell_of HBv1_2.out 5).trans rfl
  have cv1_6 : (w2).cell? ⟨qv1, 6, none⟩ = some (.int .i64 t) := (cell_of HBv1_2.out 6).trans rfl
  have cv2_0 : (w2).cell? ⟨qv2, 0, none⟩ = some (.string p) := (cell_of HBv2_2.out 0).trans rfl
  have cv2_1 : (w2).cell? ⟨qv2, 1, none⟩ = some (.slice oNy n1 pNy) := (cell_of HBv2_2.out 1).trans rfl
  have cv2_2 : (w2).cell? ⟨qv2, 2, none⟩ = some (.slice oVy n2 pVy) := (cell_of HBv2_2.out 2).trans rfl
  have cv2_3 : (w2).cell? ⟨qv2, 3, none⟩ = some (.int .i64 st) := (cell_of HBv2_2.out 3).trans rfl
  have cv2_4 : (w2).cell? ⟨qv2, 4, none⟩ = some (.slice oFy n3 pFy) := (cell_of HBv2_2.out 4).trans rfl
  have cv2_5 : (w2).cell? ⟨qv2, 5, none⟩ = some (.string b) := (cell_of HBv2_2.out 5).trans rfl
  have cv2_6 : (w2).cell? ⟨qv2, 6, none⟩ = some (.int .i64 t) := (cell_of HBv2_2.out 6).trans rfl
  go_wp2_with fail
  refine (eqObj_any p n1 xs n2 ys st n3 fs b t _ _ _ _ _ _ _ _ _ ⟨HONx_2.out, HOVx_2.out, HOFx_2.out, APx.out⟩ ⟨HONy_2.out, HOVy_2.out, HOFy_2.out, APy.out⟩ hn1 hn2 hn3).mono ?_
  rintro e w3 ⟨rfl, bw⟩
  have hb3 : Below w.heap.size w (w3) := hb2.trans (bw.mono hb2.size)
  have HONx_3 : Hid ((w3).ownsRow B1 9 1 (.slice oNx n1 pNx) n1 (xs.map Value.string)) := owns_below HONx_2.out bw (fun g hg => owns_lt HONx_2.out hg)
  have HOVx_3 : Hid ((w3).ownsRow B1 9 1 (.slice oVx n2 pVx) n2 (ys.map Value.string)) := owns_below HOVx_2.out bw (fun g hg => owns_lt HOVx_2.out hg)
  have HOFx_3 : Hid ((w3).ownsRow B1 135 2 (.slice oFx n3 pFx) n3 (flatF fs)) := owns_below HOFx_2.out bw (fun g hg => owns_lt HOFx_2.out hg)
  have HONy_3 : Hid ((w3).ownsRow B2 9 1 (.slice oNy n1 pNy) n1 (xs.map Value.string)) := owns_below HONy_2.out bw (fun g hg => owns_lt HONy_2.out hg)
  have HOVy_3 : Hid ((w3).ownsRow B2 9 1 (.slice oVy n2 pVy) n2 (ys.map Value.string)) := owns_below HOVy_2.out bw (fun g hg => owns_lt HOVy_2.out hg)
  have HOFy_3 : Hid ((w3).ownsRow B2 135 2 (.slice oFy n3 pFy) n3 (flatF fs)) := owns_below HOFy_2.out bw (fun g hg => owns_lt HOFy_2.out hg)
  have HBv1_3 : Hid ((w3).heap[qv1]? = some (.cells #[.string p, .slice oNx n1 pNx, .slice oVx n2 pVx, .int .i64 st, .slice oFx n3 pFx, .string b, .int .i64 t, .int .i64 ka, .int .i64 kq] 161)) := blk_below HBv1_2.out bw
  have HBv2_3 : Hid ((w3).heap[qv2]? = some (.cells #[.string p, .slice oNy n1 pNy, .slice oVy n2 pVy, .int .i64 st, .slice oFy n3 pFy, .string b, .int .i64 t, .int .i64 ka, .int .i64 kq] 161)) := blk_below HBv2_2.out bw
  clear hb2 HONx_2 HOVx_2 HOFx_2 HONy_2 HOVy_2 HOFy_2 HBv1_2 HBv2_2 bw
  clear cv1_0 cv1_1 cv1_2 cv1_3 cv1_4 cv1_5 cv1_6 cv2_0 cv2_1 cv2_2 cv2_3 cv2_4 cv2_5 cv2_6
  have cv1_7 : (w3).cell? ⟨qv1, 7, none⟩ = some (.int .i64 ka) := (cell_of HBv1_3.out 7).trans rfl
  have cv2_7 : (w3).cell? ⟨qv2, 7, none⟩ = some (.int .i64 ka) := (cell_of HBv2_3.out 7).trans rfl
  have cv1_8 : (w3).cell? ⟨qv1, 8, none⟩ = some (.int .i64 kq) := (cell_of HBv1_3.out 8).trans rfl
  have cv2_8 : (w3).cell? ⟨qv2, 8, none⟩ = some (.int .i64 kq) := (cell_of HBv2_3.out 8).trans rfl
  go_wp2_with fail
  go_ret
  exact ⟨rfl, hb3⟩

/-- One of a list that came in: its cells, and its three lists. -/
def KpArg (w : World) (B b off i : Nat) (k : KpD) : Prop :=
  ∃ (a1 : Option Addr) (n1 c1 : Nat) (a2 : Option Addr) (n2 c2 : Nat) (a3 : Option Addr) (n3 c3 : Nat), (w.cell? ⟨b, off + i * 9, none⟩ = some (.string k.p) ∧ w.cell? ⟨b, off + i * 9 + 1, none⟩ = some (.slice a1 n1 c1) ∧ w.cell? ⟨b, off + i * 9 + 2, none⟩ = some (.slice a2 n2 c2) ∧ w.cell? ⟨b, off + i * 9 + 3, none⟩ = some (.int .i64 k.st) ∧ w.cell? ⟨b, off + i * 9 + 4, none⟩ = some (.slice a3 n3 c3) ∧ w.cell? ⟨b, off + i * 9 + 5, none⟩ = some (.string k.b) ∧ w.cell? ⟨b, off + i * 9 + 6, none⟩ = some (.int .i64 k.t) ∧ w.cell? ⟨b, off + i * 9 + 7, none⟩ = some (.int .i64 k.a) ∧ w.cell? ⟨b, off + i * 9 + 8, none⟩ = some (.int .i64 k.q)) ∧ ArgT w B a1 n1 k.xs ∧ ArgT w B a2 n2 k.ys ∧ ArgF w B a3 n3 k.fs
/-- A list that came in, in blocks below B. -/
def ArgKept (w : World) (B : Nat) (a : Option Addr) (n : Nat) (ks : List KpD) : Prop :=
  ks.length = n ∧ ∀ i, i < n → ∃ b off, a = some ⟨b, off, none⟩ ∧ b < B ∧ KpArg w B b off i (kpAt ks i)
theorem ArgKept.below {w w' : World} {B : Nat} {a : Option Addr} {n : Nat} {ks : List KpD} (h : ArgKept w B a n ks) (hb : Below B w w') : ArgKept w' B a n ks :=
  ⟨h.1, fun i hi => by
    obtain ⟨b, off, h1, h2, a1, n1, c1, a2, n2, c2, a3, n3, c3, ⟨r0, r1, r2, r3, r4, r5, r6, r7, r8⟩, g1, g2, g3⟩ := h.2 i hi
    exact ⟨b, off, h1, h2, a1, n1, c1, a2, n2, c2, a3, n3, c3, ⟨by rw [hb.cell (p := ⟨b, off + i * 9, none⟩) h2]; exact r0, by rw [hb.cell (p := ⟨b, off + i * 9 + 1, none⟩) h2]; exact r1, by rw [hb.cell (p := ⟨b, off + i * 9 + 2, none⟩) h2]; exact r2, by rw [hb.cell (p := ⟨b, off + i * 9 + 3, none⟩) h2]; exact r3, by rw [hb.cell (p := ⟨b, off + i * 9 + 4, none⟩) h2]; exact r4, by rw [hb.cell (p := ⟨b, off + i * 9 + 5, none⟩) h2]; exact r5, by rw [hb.cell (p := ⟨b, off + i * 9 + 6, none⟩) h2]; exact r6, by rw [hb.cell (p := ⟨b, off + i * 9 + 7, none⟩) h2]; exact r7, by rw [hb.cell (p := ⟨b, off + i * 9 + 8, none⟩) h2]; exact r8⟩, g1.below hb, g2.below hb, g3.below hb⟩⟩
/-- No greater than may be. -/
def KpMax (k : KpD) : Prop := k.xs.length ≤ maxLen ∧ k.ys.length ≤ maxLen ∧ k.fs.length ≤ maxLen ∧ (∀ i, i < k.xs.length → (textAt k.xs i).size ≤ maxLen) ∧ (∀ i, i < k.ys.length → (textAt k.ys i).size ≤ maxLen) ∧ WalkF k.fs.length k.fs ∧ k.p.size ≤ maxLen ∧ k.b.size ≤ maxLen
/-- Small enough to be measured. -/
def KpSmall (k : KpD) : Prop := (k.p.size ≤ 1048576 ∧ k.b.size ≤ 1048576) ∧ (k.xs.length ≤ 1048576 ∧ ∀ i, i < k.xs.length → (textAt k.xs i).size ≤ 1048576) ∧ (k.ys.length ≤ 1048576 ∧ ∀ i, i < k.ys.length → (textAt k.ys i).size ≤ 1048576) ∧ k.fs.length ≤ 1048576 ∧ szTo k.fs k.fs.length ≤ 1048576
/-- How many there are, lists and their elements together. -/
def wtK : List KpD → Nat
  | [] => 0
  | k :: r => 1 + k.xs.length + k.ys.length + k.fs.length + wtK r
theorem wtK_snoc (k : KpD) : ∀ l : List KpD, wtK (l ++ [k]) = wtK l + (1 + k.xs.length + k.ys.length + k.fs.length)
  | [] => by simp [wtK]
  | x :: l => by rw [List.cons_append, wtK, wtK_snoc k l, wtK]; omega
theorem objO_rows {w : World} {B : Nat} {v1 v2 v3 : Value} {k : KpD} (h : ObjO w B v1 k.xs.length k.xs v2 k.ys.length k.ys v3 k.fs.length k.fs) : RowsO w B (kpR (k, v1, v2, v3)) := by
  refine ⟨fun r hr => ?_, ?_⟩
  · simp only [kpR, List.mem_cons, List.not_mem_nil, or_false] at hr
    rcases hr with rfl | rfl | rfl
    · exact h.names
    · exact h.vals
    · exact h.flds
  · unfold kpR
    refine List.pairwise_cons.2 ⟨fun r hr => ?_, List.pairwise_cons.2 ⟨fun r hr => ?_, List.pairwise_singleton _ _⟩⟩
    · simp only [List.mem_cons, List.not_mem_nil, or_false] at hr
      rcases hr with rfl | rfl
      · exact fun g hg => h.ne g hg
      · exact fun g hg => own_two h.names h.flds (by decide) hg
    · rw [List.mem_singleton.1 hr]
      exact fun g hg => own_two h.vals h.flds (by decide) hg
theorem rows_objO {w : World} {B : Nat} {x : KpD × Value × Value × Value} (h : RowsO w B (kpR x)) : ObjO w B x.2.1 x.1.xs.length x.1.xs x.2.2.1 x.1.ys.length x.1.ys x.2.2.2 x.1.fs.length x.1.fs := by
  have hp := h.apart
  unfold kpR at hp
  exact ⟨h.own (kpN x) (by simp [kpR]), h.own (kpV x) (by simp [kpR]), h.own (kpF x) (by simp [kpR]), fun g hg => (List.pairwise_cons.1 hp).1 (kpV x) (by simp) g hg⟩
/-- The measure is negative, or what is left of L. -/
def SzKeptS (L : Int) (ks : List KpD) (w : World) (e : Ending) (w' : World) : Prop :=
  ∃ r : Int, e = .returned (.int .i64 r) ∧ r ≤ L ∧ (0 ≤ r → r + (wtK ks : Int) ≤ L ∧ ∀ k ∈ ks, KpSmall k) ∧ Below w.heap.size w w'

set_option maxHeartbeats 8000000 in
set_option maxRecDepth 100000 in
theorem szKeptS_any (L : Int) (hL0 : 0 ≤ L) (hL1 : L ≤ 1048576) (B : Nat) (a : Option Addr) (n cap : Nat) (ks : List KpD) (w : World) (harg : ArgKept w B a n ks) (hB : B ≤ w.heap.size) (hn : n ≤ maxLen) (hsz : ∀ k ∈ ks, KpMax k) :
    Calls Tryz.prog 37 #[.slice a n cap, .int .i64 L] w fun e w' => SzKeptS L ks w e w' := by
  unfold maxLen at hn
  have HS : Hid (∀ k ∈ ks, KpMax k) := hsz
  have HLN : Hid (ks.length = n) := harg.1
  have HA : Hid (∀ W, Below w.heap.size w W → ArgKept W B a n ks) := fun W h => harg.below (h.mono hB)
  have HBB : Hid (∀ W, Below w.heap.size w W → B ≤ W.heap.size) := fun W h => Nat.le_trans hB h.size
  clear hsz harg hB
  by_cases c1 : L - (n : Int) < 0
  · go_enter Tryz.func37, Tryz.ntmps37
    go_wp2
    go_ret
    exact ⟨-1, rfl, by omega, fun h => absurd h (by omega), Below.refl _ _⟩
  · go_enter Tryz.func37, Tryz.ntmps37
    go_wp2
    go_loopw [1, 5] (fun lf i wr => ∃ (k : Nat) (x : Int), k ≤ n ∧ i = .int .i64 (k : Int) ∧ lf = .int .i64 x ∧ 0 ≤ x ∧ x ≤ L ∧ Hid (x + (wtK (ks.take k) : Int) + ((n : Int) - (k : Int)) ≤ L ∧ ∀ y ∈ ks.take k, KpSmall y) ∧ Hid (Below w.heap.size w wr)) (fun _ i _ => n - (intOf i).toNat)
    case atStart => exact ⟨0, _, Nat.zero_le _, rfl, rfl, by omega, by omega, ⟨by simp [wtK], fun x hx => by simp at hx⟩, Below.refl _ _⟩
    case round =>
      obtain ⟨k, x, hk, rfl, rfl, hx0, hx1, HX, HBW⟩ := hrel
      by_cases hlt : k < n
      · have hlt2 : (k : Int) < (n : Int) := by omega
        obtain ⟨b, off, rfl, hbB, a1, n1, c1, a2, n2, c2, a3, n3, c3, ⟨r0, r1, r2, r3, r4, r5, r6, r7, r8⟩, g1, g2, g3⟩ := (HA.out wr HBW.out).2 k hlt
        obtain ⟨y, hy⟩ : ∃ y, y = kpAt ks k := ⟨_, rfl⟩
        have HM : Hid (y ∈ ks) := by show _ ∈ _; rw [hy]; exact kpAt_mem ks k (by rw [HLN.out]; exact hlt)
        have HTK : Hid (ks.take (k + 1) = ks.take k ++ [y]) := by show _ = _; rw [hy]; exact kpAt_take ks k (by rw [HLN.out]; exact hlt)
        rw [← hy] at r0 r3 r5 r6 r7 r8 g1 g2 g3
        have HG1 : Hid (ArgT wr B a1 n1 y.xs) := g1
        have HG2 : Hid (ArgT wr B a2 n2 y.ys) := g2
        have HG3 : Hid (ArgF wr B a3 n3 y.fs) := g3
        clear hy g1 g2 g3
        go_wp2_with fail
        refine (szKept_any x hx0 (by omega) y.p a1 n1 c1 y.xs a2 n2 c2 y.ys y.st a3 n3 c3 y.fs y.b y.t y.a y.q B _ HG1.out HG2.out HG3.out (HBB.out _ HBW.out) (by rw [← HG1.out.len]; exact (HS.out y HM.out).1) (by rw [← HG2.out.len]; exact (HS.out y HM.out).2.1) (by rw [← HG3.out.len]; exact (HS.out y HM.out).2.2.1) (by rw [← HG1.out.len]; exact (HS.out y HM.out).2.2.2.1) (by rw [← HG2.out.len]; exact (HS.out y HM.out).2.2.2.2.1) (by rw [← HG3.out.len]; exact (HS.out y HM.out).2.2.2.2.2.1) (HS.out y HM.out).2.2.2.2.2.2.1 (HS.out y HM.out).2.2.2.2.2.2.2).mono ?_
        rintro e w1 ⟨r, rfl, hr1, hr2, bw⟩
        have HB2 : Hid (Below w.heap.size w w1) := HBW.out.trans (bw.mono HBW.out.size)
        clear r0 r1 r2 r3 r4 r5 r6 r7 r8 bw
        by_cases d1 : r < 0
        · clear hr2
          go_wp2
          go_ret
          exact ⟨-1, rfl, by omega, fun h => absurd h (by omega), HB2.out⟩
        · have HX2 : Hid (r + (wtK (ks.take (k + 1)) : Int) + ((n : Int) - ((k + 1 : Nat) : Int)) ≤ L ∧ ∀ y ∈ ks.take (k + 1), KpSmall y) := by
            obtain ⟨q1, q2, q3, q4, q5, q6⟩ := hr2 (by omega)
            obtain ⟨m1, m2⟩ := HX.out
            rw [← HG1.out.len] at q1 q3
            rw [← HG2.out.len] at q1 q4
            rw [← HG3.out.len] at q1 q5 q6
            refine ⟨?_, fun z hz => ?_⟩
            · rw [HTK.out, wtK_snoc]
              omega
            · rw [HTK.out] at hz
              rcases List.mem_append.1 hz with hz | hz
              · exact m2 z hz
              · rw [List.mem_singleton.1 hz]; exact ⟨q2, q3, q4, q5, q6⟩
          clear hr2
          go_wp2
          go_roundw
          case rel => exact ⟨k + 1, r, by omega, by go_num, rfl, by omega, by omega, HX2, HB2⟩
          case measure => simp [intOf]; omega
      · have HF : Hid (x + (wtK ks : Int) ≤ L ∧ ∀ k ∈ ks, KpSmall k) := by
          obtain ⟨m1, m2⟩ := HX.out
          rw [List.take_of_length_le (by rw [HLN.out]; omega)] at m1 m2
          exact ⟨by omega, m2⟩
        go_wp2
        go_ret
        exact ⟨x, rfl, by omega, fun _ => HF.out, HBW.out⟩

theorem infoKept : (Tryz.prog.info? 161).map (fun i => (i.zero, i.size, i.bytes)) = some (some (.agg #[.string ⟨#[]⟩, .slice none 0 0, .slice none 0 0, .int .i64 0, .slice none 0 0, .string ⟨#[]⟩, .int .i64 0, .int .i64 0, .int .i64 0]), 9, 136) := by kernel_rfl
/-- A call answers a list of these, of its own. -/
def KeptIs (ks : List KpD) (w : World) (e : Ending) (w' : World) : Prop := ∃ (V : Value) (kv : List (KpD × Value × Value × Value)), e = .returned V ∧ kv.map (·.1) = ks ∧ KeptsO w' w.heap.size V kv ∧ Below w.heap.size w w'
theorem KeptsO.obj {w : World} {base : Nat} {V : Value} {kv : List (KpD × Value × Value × Value)} (h : KeptsO w base V kv) {x : KpD × Value × Value × Value} (hx : x ∈ kv) : RowsO w base (kpR x) := by
  obtain ⟨s, t, e⟩ := List.append_of_mem hx
  refine RowsO.sub h ?_
  unfold kpAll
  rw [e, List.flatMap_append, List.flatMap_cons]
  exact ((List.sublist_append_left _ _).trans (List.sublist_append_right _ _)).trans (List.sublist_cons_self _ _)
/-- Told item by item, and the items' own lists behind the row: a list of one's own. -/
theorem parts_kept {w : World} {g n base : Nat} {kv : List (KpD × Value × Value × Value)} (hp : PartO kpC 9 161 w g n kv) (hl : kv.length = n) (hm : n ≤ maxLen) (hb : base ≤ g) (hr : RowsO w (g + 1) (kv.flatMap kpR)) : KeptsO w base (.slice (some ⟨g, 0, none⟩) n n) kv := by
  have hrow : (kpRow (.slice (some ⟨g, 0, none⟩) n n) kv).own w base := by
    have h := hp.owns kpC_len (by decide) hl hm hb
    unfold Rw.own kpRow
    rw [hl]
    exact h
  refine ⟨fun r h => ?_, List.pairwise_cons.2 ⟨fun r h g' h1 h2 => ?_, hr.apart⟩⟩
  · rcases List.mem_cons.1 h with h | h
    · rw [h]; exact hrow
    · exact owns_wide (hr.own r h) (by omega)
  · have e1 : some g = some g' := h1
    have e2 := hr.ge h h2
    have e3 := Option.some.inj e1
    omega

set_option maxHeartbeats 8000000 in
set_option maxRecDepth 100000 in
theorem toKeptS_any (B : Nat) (a : Option Addr) (n cap : Nat) (ks : List KpD) (w : World) (harg : ArgKept w B a n ks) (hB : B ≤ w.heap.size) (hn : n ≤ 1048576) (hsm : ∀ k ∈ ks, k.xs.length ≤ 1048576 ∧ k.ys.length ≤ 1048576 ∧ k.fs.length ≤ 1048576) :
    Calls Tryz.prog 44 #[.slice a n cap] w fun e w' => KeptIs ks w e w' := by
  obtain ⟨i0, hi, hz0, hz1, hz2⟩ := info_parts infoKept
  obtain ⟨M, hM⟩ : ∃ M, M = madeCells (Value.agg #[.string ⟨#[]⟩, .slice none 0 0, .slice none 0 0, .int .i64 0, .slice none 0 0, .string ⟨#[]⟩, .int .i64 0, .int .i64 0, .int .i64 0]).cells (((n : Nat) : Int).toNat * i0.size) := ⟨_, rfl⟩
  have hmk : ∀ W : World, (Instr.makeSlice 44 (.int .i64 (n : Int)) (.int .i64 (n : Int))).run Tryz.prog W = .ok (.slice (some ⟨W.heap.size, 0, none⟩) n n) (W.alloc (.cells M 161)) := fun W => by
    have h := run_make (P := Tryz.prog) W 44 161 i0 (.agg #[.string ⟨#[]⟩, .slice none 0 0, .slice none 0 0, .int .i64 0, .slice none 0 0, .string ⟨#[]⟩, .int .i64 0, .int .i64 0, .int .i64 0]) Tryz.underlying44 hi hz0 .i64 .i64 (n : Int) (n : Int) (by omega) (by omega) (by rw [hz2]; omega) (by omega)
    rw [← hM] at h
    simpa using h
  have hMs : M.size = n * 9 := by rw [hM, size_madeCells, hz1]; simp
  have HLN : Hid (ks.length = n) := harg.1
  have HSM : Hid (∀ k ∈ ks, k.xs.length ≤ 1048576 ∧ k.ys.length ≤ 1048576 ∧ k.fs.length ≤ 1048576) := hsm
  have HA : Hid (∀ W, Below w.heap.size w W → ArgKept W B a n ks) := fun W h => harg.below (h.mono hB)
  have HBB : Hid (∀ W, Below w.heap.size w W → B ≤ W.heap.size) := fun W h => Nat.le_trans hB h.size
  clear hM harg hsm hB
  obtain ⟨g, hg⟩ : ∃ g, g = w.heap.size := ⟨_, rfl⟩
  have HG : Hid (w.heap.size = g) := hg.symm
  have HP : Hid (([] : List (KpD × Value × Value × Value)).length = 0 ∧ ([] : List (KpD × Value × Value × Value)).map (·.1) = ks.take 0 ∧ PartO kpC 9 161 (w.alloc (.cells M 161)) g n [] ∧ RowsO (w.alloc (.cells M 161)) (g + 1) (([] : List (KpD × Value × Value × Value)).flatMap kpR)) := ⟨rfl, by simp, ⟨M, by rw [hg]; exact heap_alloc_new w _, hMs, fun i h => absurd h (by simp)⟩, RowsO.nil _ _⟩
  have HPB : Hid (Below w.heap.size w (w.alloc (.cells M 161))) := (Below.refl _ _).alloc (Nat.le_refl _) _
  go_enter Tryz.func44, Tryz.ntmps44
  go_wp2
  rw [HG.out]
  clear hg hMs
  go_loopw [4] (fun i wr => ∃ (k : Nat) (kv : List (KpD × Value × Value × Value)), k ≤ n ∧ i = .int .i64 (k : Int) ∧ Hid (kv.length = k ∧ kv.map (·.1) = ks.take k ∧ PartO kpC 9 161 wr g n kv ∧ RowsO wr (g + 1) (kv.flatMap kpR)) ∧ Hid (Below w.heap.size w wr)) (fun i _ => n - (intOf i).toNat)
  case atStart => exact ⟨0, [], Nat.zero_le _, rfl, HP, HPB⟩
  case round =>
    obtain ⟨k, kv, hk, rfl, hpr, HBW⟩ := hrel
    by_cases hlt : k < n
    · have hlt2 : (k : Int) < (n : Int) := by omega
      obtain ⟨b, off, rfl, hbB, a1, n1, c1, a2, n2, c2, a3, n3, c3, ⟨r0, r1, r2, r3, r4, r5, r6, r7, r8⟩, g1, g2, g3⟩ := (HA.out wr HBW.out).2 k hlt
      obtain ⟨y, hy⟩ : ∃ y, y = kpAt ks k := ⟨_, rfl⟩
      have HM : Hid (y ∈ ks) := by show _ ∈ _; rw [hy]; exact kpAt_mem ks k (by rw [HLN.out]; exact hlt)
      have HTK : Hid (ks.take (k + 1) = ks.take k ++ [y]) := by show _ = _; rw [hy]; exact kpAt_take ks k (by rw [HLN.out]; exact hlt)
      rw [← hy] at r0 r3 r5 r6 r7 r8 g1 g2 g3
      have HG1 : Hid (ArgT wr B a1 n1 y.xs) := g1
      have HG2 : Hid (ArgT wr B a2 n2 y.ys) := g2
      have HG3 : Hid (ArgF wr B a3 n3 y.fs) := g3
      clear hy g1 g2 g3
      go_wp2_with fail
      refine (toKept_any y.p a1 n1 c1 y.xs a2 n2 c2 y.ys y.st a3 n3 c3 y.fs y.b y.t y.a y.q B _ HG1.out HG2.out HG3.out (HBB.out _ HBW.out) (by rw [← HG1.out.len]; exact (HSM.out y HM.out).1) (by rw [← HG2.out.len]; exact (HSM.out y HM.out).2.1) (by rw [← HG3.out.len]; exact (HSM.out y HM.out).2.2)).mono ?_
      rintro e w1 ⟨v1, v2, v3, rfl, hobj, bw⟩
      clear r0 r1 r2 r3 r4 r5 r6 r7 r8
      obtain ⟨o1, p1, rfl⟩ := slice_of_owns hobj.names
      obtain ⟨o2, p2, rfl⟩ := slice_of_owns hobj.vals
      obtain ⟨o3, p3, rfl⟩ := slice_of_owns hobj.flds
      obtain ⟨q1, q2, q3, q4⟩ := hpr.out
      have hgl : g < wr.heap.size := q3.lt
      have HB2 : Hid (Below w.heap.size w w1) := HBW.out.trans (bw.mono HBW.out.size)
      have hpr1 := q3.below bw
      obtain ⟨x, hx⟩ : ∃ x : KpD × Value × Value × Value, x = (y, .slice o1 n1 p1, .slice o2 n2 p2, .slice o3 n3 p3) := ⟨_, rfl⟩
      have hnew : RowsO w1 wr.heap.size (kpR x) := by
        rw [hx]
        apply objO_rows
        rw [HG1.out.len, HG2.out.len, HG3.out.len]
        exact hobj
      have hall : RowsO w1 (g + 1) (kv.flatMap kpR ++ kpR x) := q4.more bw hnew (Nat.le_refl _) hgl
      have HALL : Hid ((kv ++ [x]).length = k + 1 ∧ (kv ++ [x]).map (·.1) = ks.take (k + 1) ∧ PartO kpC 9 161 (setW w1 g (k * 9) (kpC x)) g n (kv ++ [x]) ∧ RowsO (setW w1 g (k * 9) (kpC x)) (g + 1) ((kv ++ [x]).flatMap kpR)) := by
        refine ⟨by rw [List.length_append, q1]; rfl, by rw [List.map_append, q2, HTK.out, hx]; rfl, ?_, ?_⟩
        · have h := hpr1.put kpC_len x (by omega)
          rw [q1] at h
          exact h
        · rw [List.flatMap_append]
          have h2 : RowsO (setW w1 g (k * 9) (kpC x)) (g + 1) (kv.flatMap kpR ++ kpR x) := hall.same (fun r hr j hj => setW_other g j (by have := hall.ge hr hj; omega) _ _ _)
          simpa using h2
      have HBE : Hid (Below w.heap.size w (setW w1 g (k * 9) (kpC x))) := setW_below (by rw [HG.out]; exact Nat.le_refl _) _ _ _ _ HB2.out
      rw [hx] at HALL HBE
      obtain ⟨u0, hu0⟩ := hpr1.cell (k * 9) (by omega)
      have f0 := hpr1.frozen (k * 9)
      obtain ⟨u1, hu1⟩ := hpr1.cell (k * 9 + 1) (by omega)
      have f1 := hpr1.frozen (k * 9 + 1)
      obtain ⟨u2, hu2⟩ := hpr1.cell (k * 9 + 2) (by omega)
      have f2 := hpr1.frozen (k * 9 + 2)
      obtain ⟨u3, hu3⟩ := hpr1.cell (k * 9 + 3) (by omega)
      have f3 := hpr1.frozen (k * 9 + 3)
      obtain ⟨u4, hu4⟩ := hpr1.cell (k * 9 + 4) (by omega)
      have f4 := hpr1.frozen (k * 9 + 4)
      obtain ⟨u5, hu5⟩ := hpr1.cell (k * 9 + 5) (by omega)
      have f5 := hpr1.frozen (k * 9 + 5)
      obtain ⟨u6, hu6⟩ := hpr1.cell (k * 9 + 6) (by omega)
      have f6 := hpr1.frozen (k * 9 + 6)
      obtain ⟨u7, hu7⟩ := hpr1.cell (k * 9 + 7) (by omega)
      have f7 := hpr1.frozen (k * 9 + 7)
      obtain ⟨u8, hu8⟩ := hpr1.cell (k * 9 + 8) (by omega)
      have f8 := hpr1.frozen (k * 9 + 8)
      clear hpr1 hall hnew hx q1 q2 q3 q4 hobj bw hpr
      go_wp2
      go_roundw
      case rel => exact ⟨k + 1, _, by omega, by go_num, HALL, HBE⟩
      case measure => simp [intOf]; omega
    · obtain rfl : k = n := by omega
      obtain ⟨q1, q2, q3, q4⟩ := hpr.out
      have HF : Hid (kv.map (·.1) = ks ∧ KeptsO wr w.heap.size (.slice (some ⟨g, 0, none⟩) k k) kv) := by
        refine ⟨?_, parts_kept q3 q1 (by unfold maxLen; omega) (by rw [HG.out]; exact Nat.le_refl _) q4⟩
        rw [q2, List.take_of_length_le (by rw [HLN.out]; exact Nat.le_refl _)]
      clear q1 q2 q3 q4
      go_wp2
      go_ret
      exact ⟨_, kv, rfl, HF.out.1, HF.out.2, HBW.out⟩

end Go.Proofs.YtajccgffallajaaGreat

namespace Go.Proofs.YtajccgffallajaaGreat
open Go.RowKit
open Go.Lib hiding intOf

set_option maxHeartbeats 8000000 in
set_option maxRecDepth 100000 in
theorem eqKeptS_any (V1 V2 : Value) (kv1 kv2 : List (KpD × Value × Value × Value)) (B1 B2 : Nat) (w : World) (he : kv1.map (·.1) = kv2.map (·.1)) (h1 : KeptsO w B1 V1 kv1) (h2 : KeptsO w B2 V2 kv2) (hn : kv1.length ≤ 2000000) (hs : ∀ x ∈ kv1, x.1.xs.length ≤ 2000000 ∧ x.1.ys.length ≤ 2000000 ∧ x.1.fs.length ≤ 2000000) :
    Calls Tryz.prog 56 #[V1, V2] w fun e w' => e = .returned (.bool true) ∧ Below w.heap.size w w' := by
  have hlen : kv2.length = kv1.length := by have := congrArg List.length he; simpa using this.symm
  obtain ⟨n, hnn⟩ : ∃ n, n = kv1.length := ⟨_, rfl⟩
  obtain ⟨o1, c1, e1⟩ := h1.len
  obtain ⟨o2, c2, e2⟩ := h2.len
  rw [← hnn] at e1 hn
  rw [hlen, ← hnn] at e2
  subst e1 e2
  have HL1 : Hid (kv1.length = n) := hnn.symm
  have HL2 : Hid (kv2.length = n) := hlen.trans hnn.symm
  have HE : Hid (kv1.map (·.1) = kv2.map (·.1)) := he
  have HS : Hid (∀ x ∈ kv1, x.1.xs.length ≤ 2000000 ∧ x.1.ys.length ≤ 2000000 ∧ x.1.fs.length ≤ 2000000) := hs
  have H1 : Hid (∀ W, Below w.heap.size w W → KeptsO W B1 (.slice o1 n c1) kv1) := fun W h => h1.below h
  have H2 : Hid (∀ W, Below w.heap.size w W → KeptsO W B2 (.slice o2 n c2) kv2) := fun W h => h2.below h
  clear h1 h2 hlen hnn he hs
  go_enter Tryz.func56, Tryz.ntmps56
  go_wp2
  go_loopw [5] (fun i wr => ∃ k : Nat, k ≤ n ∧ i = .int .i64 (k : Int) ∧ Hid (Below w.heap.size w wr)) (fun i _ => n - (intOf i).toNat)
  case atStart => exact ⟨0, Nat.zero_le _, rfl, Below.refl _ _⟩
  case round =>
    obtain ⟨k, hk, rfl, HBW⟩ := hrel
    by_cases hlt : k < n
    · have hlt2 : (k : Int) < (n : Int) := by omega
      obtain ⟨g1, cp1, ev1, hg1, at1⟩ := (H1.out wr HBW.out).at k (by rw [HL1.out]; exact hlt)
      obtain ⟨g2, cp2, ev2, hg2, at2⟩ := (H2.out wr HBW.out).at k (by rw [HL2.out]; exact hlt)
      obtain rfl : o1 = some ⟨g1, 0, none⟩ := (Value.slice.inj ev1).1
      obtain rfl : o2 = some ⟨g2, 0, none⟩ := (Value.slice.inj ev2).1
      have exy : (kv1[k]'(by rw [HL1.out]; exact hlt)).1 = (kv2[k]'(by rw [HL2.out]; exact hlt)).1 := by
        have h := congrArg (fun l : List KpD => l[k]?) HE.out
        simpa [List.getElem?_map, List.getElem?_eq_getElem (show k < kv1.length by rw [HL1.out]; exact hlt), List.getElem?_eq_getElem (show k < kv2.length by rw [HL2.out]; exact hlt)] using h
      have m1 : kv1[k]'(by rw [HL1.out]; exact hlt) ∈ kv1 := List.getElem_mem _
      have m2 : kv2[k]'(by rw [HL2.out]; exact hlt) ∈ kv2 := List.getElem_mem _
      generalize kv1[k]'(by rw [HL1.out]; exact hlt) = x at at1 exy m1
      generalize kv2[k]'(by rw [HL2.out]; exact hlt) = y at at2 exy m2
      obtain ⟨d, v1, v2, v3⟩ := x
      obtain ⟨d', u1, u2, u3⟩ := y
      obtain rfl : d = d' := exy
      have HO1 : Hid (∀ W, Below wr.heap.size wr W → ObjO W B1 v1 d.xs.length d.xs v2 d.ys.length d.ys v3 d.fs.length d.fs) := fun W h => rows_objO (((H1.out wr HBW.out).below h).obj m1)
      have HO2 : Hid (∀ W, Below wr.heap.size wr W → ObjO W B2 u1 d.xs.length d.xs u2 d.ys.length d.ys u3 d.fs.length d.fs) := fun W h => rows_objO (((H2.out wr HBW.out).below h).obj m2)
      have HSZ : Hid (d.xs.length ≤ 2000000 ∧ d.ys.length ≤ 2000000 ∧ d.fs.length ≤ 2000000) := HS.out _ m1
      have a0 : wr.cell? ⟨g1, k * 9, none⟩ = some (.string d.p) := at1.c0
      have a1 : wr.cell? ⟨g1, k * 9 + 1, none⟩ = some (v1) := at1.c1
      have a2 : wr.cell? ⟨g1, k * 9 + 2, none⟩ = some (v2) := at1.c2
      have a3 : wr.cell? ⟨g1, k * 9 + 3, none⟩ = some (.int .i64 d.st) := at1.c3
      have a4 : wr.cell? ⟨g1, k * 9 + 4, none⟩ = some (v3) := at1.c4
      have a5 : wr.cell? ⟨g1, k * 9 + 5, none⟩ = some (.string d.b) := at1.c5
      have a6 : wr.cell? ⟨g1, k * 9 + 6, none⟩ = some (.int .i64 d.t) := at1.c6
      have a7 : wr.cell? ⟨g1, k * 9 + 7, none⟩ = some (.int .i64 d.a) := at1.c7
      have a8 : wr.cell? ⟨g1, k * 9 + 8, none⟩ = some (.int .i64 d.q) := at1.c8
      have b0 : wr.cell? ⟨g2, k * 9, none⟩ = some (.string d.p) := at2.c0
      have b1 : wr.cell? ⟨g2, k * 9 + 1, none⟩ = some (u1) := at2.c1
      have b2 : wr.cell? ⟨g2, k * 9 + 2, none⟩ = some (u2) := at2.c2
      have b3 : wr.cell? ⟨g2, k * 9 + 3, none⟩ = some (.int .i64 d.st) := at2.c3
      have b4 : wr.cell? ⟨g2, k * 9 + 4, none⟩ = some (u3) := at2.c4
      have b5 : wr.cell? ⟨g2, k * 9 + 5, none⟩ = some (.string d.b) := at2.c5
      have b6 : wr.cell? ⟨g2, k * 9 + 6, none⟩ = some (.int .i64 d.t) := at2.c6
      have b7 : wr.cell? ⟨g2, k * 9 + 7, none⟩ = some (.int .i64 d.a) := at2.c7
      have b8 : wr.cell? ⟨g2, k * 9 + 8, none⟩ = some (.int .i64 d.q) := at2.c8
      clear at1 at2 m1 m2 ev1 ev2
      have HA : Hid (∀ w0 w1, Below wr.heap.size wr w0 → Below w0.heap.size w0 w1 → (w1.cell? ⟨g1, k * 9, none⟩ = some (.string d.p) ∧ w1.cell? ⟨g1, k * 9 + 1, none⟩ = some (v1) ∧ w1.cell? ⟨g1, k * 9 + 2, none⟩ = some (v2) ∧ w1.cell? ⟨g1, k * 9 + 3, none⟩ = some (.int .i64 d.st) ∧ w1.cell? ⟨g1, k * 9 + 4, none⟩ = some (v3) ∧ w1.cell? ⟨g1, k * 9 + 5, none⟩ = some (.string d.b) ∧ w1.cell? ⟨g1, k * 9 + 6, none⟩ = some (.int .i64 d.t) ∧ w1.cell? ⟨g1, k * 9 + 7, none⟩ = some (.int .i64 d.a) ∧ w1.cell? ⟨g1, k * 9 + 8, none⟩ = some (.int .i64 d.q) ∧ w1.cell? ⟨g2, k * 9, none⟩ = some (.string d.p) ∧ w1.cell? ⟨g2, k * 9 + 1, none⟩ = some (u1) ∧ w1.cell? ⟨g2, k * 9 + 2, none⟩ = some (u2) ∧ w1.cell? ⟨g2, k * 9 + 3, none⟩ = some (.int .i64 d.st) ∧ w1.cell? ⟨g2, k * 9 + 4, none⟩ = some (u3) ∧ w1.cell? ⟨g2, k * 9 + 5, none⟩ = some (.string d.b) ∧ w1.cell? ⟨g2, k * 9 + 6, none⟩ = some (.int .i64 d.t) ∧ w1.cell? ⟨g2, k * 9 + 7, none⟩ = some (.int .i64 d.a) ∧ w1.cell? ⟨g2, k * 9 + 8, none⟩ = some (.int .i64 d.q)) ∧ Below wr.heap.size wr w1) := fun w0 w1 h h' => by
        have hx := h.trans (h'.mono h.size)
        exact ⟨⟨by rw [hx.cell (p := ⟨g1, k * 9, none⟩) hg1]; exact a0, by rw [hx.cell (p := ⟨g1, k * 9 + 1, none⟩) hg1]; exact a1, by rw [hx.cell (p := ⟨g1, k * 9 + 2, none⟩) hg1]; exact a2, by rw [hx.cell (p := ⟨g1, k * 9 + 3, none⟩) hg1]; exact a3, by rw [hx.cell (p := ⟨g1, k * 9 + 4, none⟩) hg1]; exact a4, by rw [hx.cell (p := ⟨g1, k * 9 + 5, none⟩) hg1]; exact a5, by rw [hx.cell (p := ⟨g1, k * 9 + 6, none⟩) hg1]; exact a6, by rw [hx.cell (p := ⟨g1, k * 9 + 7, none⟩) hg1]; exact a7, by rw [hx.cell (p := ⟨g1, k * 9 + 8, none⟩) hg1]; exact a8, by rw [hx.cell (p := ⟨g2, k * 9, none⟩) hg2]; exact b0, by rw [hx.cell (p := ⟨g2, k * 9 + 1, none⟩) hg2]; exact b1, by rw [hx.cell (p := ⟨g2, k * 9 + 2, none⟩) hg2]; exact b2, by rw [hx.cell (p := ⟨g2, k * 9 + 3, none⟩) hg2]; exact b3, by rw [hx.cell (p := ⟨g2, k * 9 + 4, none⟩) hg2]; exact b4, by rw [hx.cell (p := ⟨g2, k * 9 + 5, none⟩) hg2]; exact b5, by rw [hx.cell (p := ⟨g2, k * 9 + 6, none⟩) hg2]; exact b6, by rw [hx.cell (p := ⟨g2, k * 9 + 7, none⟩) hg2]; exact b7, by rw [hx.cell (p := ⟨g2, k * 9 + 8, none⟩) hg2]; exact b8⟩, hx⟩
      go_wp2
      go_region_held3 (fun w' => w'.cell? ⟨g1, k * 9, none⟩ = some (.string d.p) ∧ w'.cell? ⟨g1, k * 9 + 1, none⟩ = some (v1) ∧ w'.cell? ⟨g1, k * 9 + 2, none⟩ = some (v2) ∧ w'.cell? ⟨g1, k * 9 + 3, none⟩ = some (.int .i64 d.st) ∧ w'.cell? ⟨g1, k * 9 + 4, none⟩ = some (v3) ∧ w'.cell? ⟨g1, k * 9 + 5, none⟩ = some (.string d.b) ∧ w'.cell? ⟨g1, k * 9 + 6, none⟩ = some (.int .i64 d.t) ∧ w'.cell? ⟨g1, k * 9 + 7, none⟩ = some (.int .i64 d.a) ∧ w'.cell? ⟨g1, k * 9 + 8, none⟩ = some (.int .i64 d.q) ∧ w'.cell? ⟨g2, k * 9, none⟩ = some (.string d.p) ∧ w'.cell? ⟨g2, k * 9 + 1, none⟩ = some (u1) ∧ w'.cell? ⟨g2, k * 9 + 2, none⟩ = some (u2) ∧ w'.cell? ⟨g2, k * 9 + 3, none⟩ = some (.int .i64 d.st) ∧ w'.cell? ⟨g2, k * 9 + 4, none⟩ = some (u3) ∧ w'.cell? ⟨g2, k * 9 + 5, none⟩ = some (.string d.b) ∧ w'.cell? ⟨g2, k * 9 + 6, none⟩ = some (.int .i64 d.t) ∧ w'.cell? ⟨g2, k * 9 + 7, none⟩ = some (.int .i64 d.a) ∧ w'.cell? ⟨g2, k * 9 + 8, none⟩ = some (.int .i64 d.q)) (first | assumption | go_keep) (first | (go_at_call 89; refine (eqKept_any d.p d.xs.length d.xs d.ys.length d.ys d.st d.fs.length d.fs d.b d.t d.a d.q _ _ _ _ _ _ B1 B2 _ (HO1.out _ ((Below.refl _ wr).drew)) (HO2.out _ ((Below.refl _ wr).drew)) HSZ.out.1 HSZ.out.2.1 HSZ.out.2.2).mono ?_; rintro e w1 ⟨rfl, hb1⟩; obtain ⟨hcc, hbx⟩ := HA.out _ w1 ((Below.refl _ wr).drew) hb1))
      go_wp2
      go_roundw
      case rel => exact ⟨k + 1, by omega, by go_num, HBW.out.trans (hbx.mono HBW.out.size)⟩
      case measure => simp [intOf]; omega
    · go_wp2
      go_ret
      exact ⟨rfl, HBW.out⟩

end Go.Proofs.YtajccgffallajaaGreat

namespace Go.Proofs.YtajccgffallajaaGreat
open Go.RowKit
open Go.Lib hiding intOf

/-- What is no row's stays. -/
def FarR (rs : List Rw) (w W : World) : Prop := ∀ j, j < w.heap.size → (∀ r ∈ rs, r.v.ownBlock ≠ some j) → W.heap[j]? = w.heap[j]?
/-- One of a list, by what stands ahead of it and behind it: its cells can be read and written. -/
theorem kept_at {W : World} {base g n cap k : Nat} {pre post : List (KpD × Value × Value × Value)} {x : KpD × Value × Value × Value} (h : KeptsO W base (.slice (some ⟨g, 0, none⟩) n cap) (pre ++ x :: post)) (hn : (pre ++ x :: post).length = n) (hk : pre.length = k) (j : Nat) (hj : j < 9) (u : Value) (hu : (kpC x)[j]? = some u) : W.cell? ⟨g, k * 9 + j, none⟩ = some u ∧ W.frozen? ⟨g, k * 9 + j, none⟩ = false := by
  have hr := h.row
  rw [hn] at hr
  refine owns_cellC hr (k * 9 + j) u ?_
  rw [← hk, items_at kpC 9 kpC_len (pre ++ x :: post) pre.length j (by simp) hj]
  simpa using hu
theorem kept_cell {W : World} {base g n cap k : Nat} {pre post : List (KpD × Value × Value × Value)} {x x' : KpD × Value × Value × Value} (h : KeptsO W base (.slice (some ⟨g, 0, none⟩) n cap) (pre ++ x :: post)) (hn : (pre ++ x :: post).length = n) (hk : pre.length = k) (j : Nat) (hj : j < 9) (u : Value) (hc : kpC x' = (kpC x).set j u) (hr : kpR x' = kpR x) : KeptsO (W.setCell ⟨g, k * 9 + j, none⟩ u) base (.slice (some ⟨g, 0, none⟩) n cap) (pre ++ x' :: post) := by
  have hrow := h.row
  rw [hn] at hrow
  have h1 := owns_setC hrow (k * 9 + j) u
  have e1 : ((pre ++ x :: post).flatMap kpC).set (k * 9 + j) u = (pre ++ x' :: post).flatMap kpC := by
    rw [List.flatMap_append, List.flatMap_cons, List.flatMap_append, List.flatMap_cons, List.set_append_right _ _ (by rw [items_len kpC 9 kpC_len, hk]; omega), items_len kpC 9 kpC_len, hk, Nat.add_sub_cancel_left, List.set_append_left _ _ (by rw [kpC_len]; exact hj), ← hc]
  rw [e1] at h1
  have e2 : (pre ++ x' :: post).flatMap kpR = (pre ++ x :: post).flatMap kpR := by rw [List.flatMap_append, List.flatMap_cons, List.flatMap_append, List.flatMap_cons, hr]
  have hl : (pre ++ x' :: post).length = n := by rw [← hn]; simp
  have h2 : RowsO W base ([] ++ kpRow (.slice (some ⟨g, 0, none⟩) n cap) (pre ++ x :: post) :: (pre ++ x :: post).flatMap kpR) := h
  have hown : (kpRow (.slice (some ⟨g, 0, none⟩) n cap) (pre ++ x' :: post)).own (W.setCell ⟨g, k * 9 + j, none⟩ u) base := by
    unfold Rw.own kpRow
    rw [hl]
    exact h1
  have h3 := h2.turn (r' := kpRow (.slice (some ⟨g, 0, none⟩) n cap) (pre ++ x' :: post)) rfl hown (fun j' _ hne => heap_setCell_other _ _ j' _ (fun e => hne (by rw [e]; rfl)))
  unfold KeptsO kpAll
  rw [e2]
  exact h3
theorem kept_row {W W' : World} {base : Nat} {V : Value} {pre post : List (KpD × Value × Value × Value)} {x x' : KpD × Value × Value × Value} (h : KeptsO W base V (pre ++ x :: post)) {r r' : Rw} {a b : List Rw} (ha : kpR x = a ++ r :: b) (hb : kpR x' = a ++ r' :: b) (hc : kpC x' = kpC x) (hv : r'.v = r.v) (ho : r'.own W' base) (hs : ∀ j, j < W.heap.size → r.v.ownBlock ≠ some j → W'.heap[j]? = W.heap[j]?) : KeptsO W' base V (pre ++ x' :: post) := by
  have e1 : kpAll V (pre ++ x :: post) = (kpRow V (pre ++ x :: post) :: (pre.flatMap kpR ++ a)) ++ r :: (b ++ post.flatMap kpR) := by
    unfold kpAll
    rw [List.flatMap_append, List.flatMap_cons, ha]
    simp
  have e2 : kpAll V (pre ++ x' :: post) = (kpRow V (pre ++ x :: post) :: (pre.flatMap kpR ++ a)) ++ r' :: (b ++ post.flatMap kpR) := by
    have e3 : kpRow V (pre ++ x' :: post) = kpRow V (pre ++ x :: post) := by
      unfold kpRow
      rw [List.flatMap_append, List.flatMap_cons, List.flatMap_append, List.flatMap_cons, hc]
      simp
    unfold kpAll
    rw [e3, List.flatMap_append, List.flatMap_cons, hb]
    simp
  have h1 : RowsO W base ((kpRow V (pre ++ x :: post) :: (pre.flatMap kpR ++ a)) ++ r :: (b ++ post.flatMap kpR)) := by rw [← e1]; exact h
  have h2 := h1.turn hv ho hs
  unfold KeptsO
  rw [e2]
  exact h2
/-- How many numbers one takes. -/
def wm1 (d : KpD) : Nat := 6 + d.xs.length + d.ys.length + 2 * d.fs.length
def wms : List (KpD × Value × Value × Value) → Nat
  | [] => 0
  | x :: r => wm1 x.1 + wms r
theorem wms_snoc (x : KpD × Value × Value × Value) : ∀ l : List (KpD × Value × Value × Value), wms (l ++ [x]) = wms l + wm1 x.1
  | [] => by simp [wms]
  | y :: l => by rw [List.cons_append, wms, wms_snoc x l, wms]; omega
theorem wms_append : ∀ (l m : List (KpD × Value × Value × Value)), wms (l ++ m) = wms l + wms m
  | [], m => by simp [wms]
  | y :: l, m => by rw [List.cons_append, wms, wms_append l m, wms]; omega
/-- One marked from k on. -/
def mkD (k : Nat) (d : KpD) : KpD := ⟨markOf k, mkT (k + 1) d.xs d.xs.length, mkT (k + 1 + d.xs.length) d.ys d.ys.length, ((k + 1 + d.xs.length + d.ys.length : Nat) : Int), mkG (k + 2 + d.xs.length + d.ys.length) d.fs d.fs.length, markOf (k + 2 + d.xs.length + d.ys.length + 2 * d.fs.length), ((k + 3 + d.xs.length + d.ys.length + 2 * d.fs.length : Nat) : Int), ((k + 4 + d.xs.length + d.ys.length + 2 * d.fs.length : Nat) : Int), ((k + 5 + d.xs.length + d.ys.length + 2 * d.fs.length : Nat) : Int)⟩
def mkKs (k : Nat) : List (KpD × Value × Value × Value) → List (KpD × Value × Value × Value)
  | [] => []
  | x :: r => (mkD k x.1, x.2) :: mkKs (k + wm1 x.1) r
theorem mkKs_len : ∀ (k : Nat) (l : List (KpD × Value × Value × Value)), (mkKs k l).length = l.length
  | _, [] => rfl
  | k, x :: r => by rw [mkKs, List.length_cons, mkKs_len _ r, List.length_cons]
theorem mkKs_snoc (x : KpD × Value × Value × Value) : ∀ (k : Nat) (l : List (KpD × Value × Value × Value)), mkKs k (l ++ [x]) = mkKs k l ++ [(mkD (k + wms l) x.1, x.2)]
  | _, [] => by simp [mkKs, wms]
  | k, y :: l => by rw [List.cons_append, mkKs, mkKs_snoc x _ l, mkKs, wms]; simp [Nat.add_assoc]

set_option maxHeartbeats 8000000 in
set_option maxRecDepth 100000 in
theorem markKeptS_any (V : Value) (kv : List (KpD × Value × Value × Value)) (base : Nat) (w : World) (h1 : KeptsO w base V kv) (hb : base ≤ w.heap.size) (k0 : Nat) (hk0 : 1 ≤ k0) (hn : k0 + wms kv ≤ 99999998) (hm : kv.length ≤ 2000000) :
    Calls Tryz.prog 62 #[V, .int .i64 (k0 : Int)] w fun e w' => e = .returned (.int .i64 ((k0 + wms kv : Nat) : Int)) ∧ KeptsO w' base V (mkKs k0 kv) ∧ Below base w w' ∧ FarR (kpAll V kv) w w' := by
  obtain ⟨n, hnn⟩ : ∃ n, n = kv.length := ⟨_, rfl⟩
  obtain ⟨oa, cap, e1⟩ := h1.len
  rw [← hnn] at e1 hm
  subst e1
  have HLN : Hid (kv.length = n) := hnn.symm
  have H1 : Hid (KeptsO w base (.slice oa n cap) kv) := h1
  obtain ⟨TW, hTW⟩ : ∃ m, m = wms kv := ⟨_, rfl⟩
  have HTW : Hid (TW = wms kv) := hTW
  rw [← hTW] at hn ⊢
  clear h1 hnn hTW
  go_enter Tryz.func62, Tryz.ntmps62
  go_wp2
  go_loopw [1, 5] (fun q i wr => ∃ (k K : Nat), k ≤ n ∧ i = .int .i64 (k : Int) ∧ q = .int .i64 (K : Int) ∧ 1 ≤ K ∧ Hid (K = k0 + wms (kv.take k)) ∧ Hid (Below base w wr) ∧ Hid (KeptsO wr base (.slice oa n cap) (mkKs k0 (kv.take k) ++ kv.drop k)) ∧ Hid (FarR (kpAll (.slice oa n cap) kv) w wr)) (fun _ i _ => n - (intOf i).toNat)
  case atStart => exact ⟨0, k0, Nat.zero_le _, rfl, rfl, hk0, by simp [Hid, wms], Below.refl _ _, by simpa [Hid, mkKs] using H1.out, fun _ _ _ => rfl⟩
  case round =>
    obtain ⟨k, K, hk, rfl, rfl, hK1, HKE, HB0, HK0', HF0⟩ := hrel
    by_cases hlt : k < n
    · have hlt2 : (k : Int) < (n : Int) := by omega
      have hkl : k < kv.length := by rw [HLN.out]; exact hlt
      obtain ⟨x0, hx0⟩ : ∃ x, x = kv[k]'hkl := ⟨_, rfl⟩
      have HX : Hid (x0 ∈ kv) := by show _ ∈ _; rw [hx0]; exact List.getElem_mem hkl
      have hdrop : kv.drop k = x0 :: kv.drop (k + 1) := by rw [hx0]; exact List.drop_eq_getElem_cons hkl
      have htake : kv.take (k + 1) = kv.take k ++ [x0] := by rw [hx0]; exact List.take_succ_eq_append_getElem hkl
      have hww : wms kv = wms (kv.take k) + (wm1 x0.1 + wms (kv.drop (k + 1))) := by
        have e := wms_append (kv.take k) (kv.drop k)
        rw [List.take_append_drop, hdrop, wms] at e
        exact e
      have hbd : K + wm1 x0.1 ≤ 99999998 := by have := HKE.out; have := HTW.out; omega
      obtain ⟨pre, hpre⟩ : ∃ l, l = mkKs k0 (kv.take k) := ⟨_, rfl⟩
      obtain ⟨post, hpost⟩ : ∃ l, l = kv.drop (k + 1) := ⟨_, rfl⟩
      have HPL : Hid (pre.length = k) := by show _ = _; rw [hpre, mkKs_len, List.length_take, Nat.min_eq_left (Nat.le_of_lt hkl)]
      have HNL0 : Hid (∀ y : KpD × Value × Value × Value, (pre ++ y :: post).length = n) := fun y => by rw [List.length_append, List.length_cons, HPL.out, hpost, List.length_drop, HLN.out]; omega
      have HKE2 : Hid (k0 + wms (kv.take (k + 1)) = K + wm1 x0.1) := by show _ = _; have h := HKE.out; rw [htake, wms_snoc]; omega
      have HEND : Hid (mkKs k0 (kv.take (k + 1)) ++ kv.drop (k + 1) = pre ++ (mkD K x0.1, x0.2) :: post) := by show _ = _; rw [htake, mkKs_snoc, ← HKE.out, hpre, hpost]; simp
      have HK00 : Hid (KeptsO wr base (.slice oa n cap) (pre ++ x0 :: post)) := by
        have h := HK0'.out
        rw [hdrop, ← hpre, ← hpost] at h
        exact h
      obtain ⟨g, rfl⟩ := owns_some (by have h := HK00.out.row; rw [HNL0.out] at h; exact h) (by omega)
      have HGB : Hid (base ≤ g) := owns_ge HK00.out.row rfl
      clear hx0 hdrop htake hww hpre hpost HK0' hkl
      obtain ⟨x1, hx1⟩ : ∃ x, x = x0 := ⟨_, rfl⟩
      obtain ⟨d, v1, v2, v3⟩ := x1
      have HX0 : Hid (x0 = (d, v1, v2, v3)) := hx1.symm
      have HNL : ∀ {y : KpD × Value × Value × Value}, Hid ((pre ++ y :: post).length = n) := fun {y} => HNL0.out y
      have hbd2 : K + 6 + d.xs.length + d.ys.length + 2 * d.fs.length ≤ 99999998 := by have h : K + wm1 d ≤ 99999998 := (by have h := hbd; rw [HX0.out] at h; exact h); unfold wm1 at h; omega
      have HK0 : Hid (KeptsO wr base (.slice (some ⟨g, 0, none⟩) n cap) (pre ++ ((⟨d.p, d.xs, d.ys, d.st, d.fs, d.b, d.t, d.a, d.q⟩ : KpD), v1, v2, v3) :: post)) := by
        have h := HK00.out
        rw [HX0.out] at h
        exact h
      have HINN : Hid (kpN (d, v1, v2, v3) ∈ kpAll (.slice (some ⟨g, 0, none⟩) n cap) kv) := List.mem_cons_of_mem _ (List.mem_flatMap.2 ⟨(d, v1, v2, v3), (by have h := HX.out; rw [HX0.out] at h; exact h), by simp [kpR]⟩)
      have HINV : Hid (kpV (d, v1, v2, v3) ∈ kpAll (.slice (some ⟨g, 0, none⟩) n cap) kv) := List.mem_cons_of_mem _ (List.mem_flatMap.2 ⟨(d, v1, v2, v3), (by have h := HX.out; rw [HX0.out] at h; exact h), by simp [kpR]⟩)
      have HINF : Hid (kpF (d, v1, v2, v3) ∈ kpAll (.slice (some ⟨g, 0, none⟩) n cap) kv) := List.mem_cons_of_mem _ (List.mem_flatMap.2 ⟨(d, v1, v2, v3), (by have h := HX.out; rw [HX0.out] at h; exact h), by simp [kpR]⟩)
      clear hx1 hbd HK00 HX
      obtain ⟨K1, hK1⟩ : ∃ m : Nat, m = K + 1 := ⟨_, rfl⟩
      have HQ1 : Hid (K1 = K + 1) := hK1
      obtain ⟨K2, hK2⟩ : ∃ m : Nat, m = K + 1 + d.xs.length := ⟨_, rfl⟩
      have HQ2 : Hid (K2 = K + 1 + d.xs.length) := hK2
      obtain ⟨K3, hK3⟩ : ∃ m : Nat, m = K + 1 + d.xs.length + d.ys.length := ⟨_, rfl⟩
      have HQ3 : Hid (K3 = K + 1 + d.xs.length + d.ys.length) := hK3
      obtain ⟨K4, hK4⟩ : ∃ m : Nat, m = K + 2 + d.xs.length + d.ys.length := ⟨_, rfl⟩
      have HQ4 : Hid (K4 = K + 2 + d.xs.length + d.ys.length) := hK4
      obtain ⟨K5, hK5⟩ : ∃ m : Nat, m = K + 2 + d.xs.length + d.ys.length + 2 * d.fs.length := ⟨_, rfl⟩
      have HQ5 : Hid (K5 = K + 2 + d.xs.length + d.ys.length + 2 * d.fs.length) := hK5
      obtain ⟨K6, hK6⟩ : ∃ m : Nat, m = K + 3 + d.xs.length + d.ys.length + 2 * d.fs.length := ⟨_, rfl⟩
      have HQ6 : Hid (K6 = K + 3 + d.xs.length + d.ys.length + 2 * d.fs.length) := hK6
      obtain ⟨K7, hK7⟩ : ∃ m : Nat, m = K + 4 + d.xs.length + d.ys.length + 2 * d.fs.length := ⟨_, rfl⟩
      have HQ7 : Hid (K7 = K + 4 + d.xs.length + d.ys.length + 2 * d.fs.length) := hK7
      obtain ⟨K8, hK8⟩ : ∃ m : Nat, m = K + 5 + d.xs.length + d.ys.length + 2 * d.fs.length := ⟨_, rfl⟩
      have HQ8 : Hid (K8 = K + 5 + d.xs.length + d.ys.length + 2 * d.fs.length) := hK8
      obtain ⟨K9, hK9⟩ : ∃ m : Nat, m = K + 6 + d.xs.length + d.ys.length + 2 * d.fs.length := ⟨_, rfl⟩
      have HQ9 : Hid (K9 = K + 6 + d.xs.length + d.ys.length + 2 * d.fs.length) := hK9
      have E1 : Hid ((K : Int) + 1 = (K1 : Int)) := by show _ = _; omega
      have E2 : Hid ((K1 : Int) + (d.xs.length : Int) = (K2 : Int)) := by show _ = _; omega
      have E3 : Hid ((K2 : Int) + (d.ys.length : Int) = (K3 : Int)) := by show _ = _; omega
      have E4 : Hid ((K3 : Int) + 1 = (K4 : Int)) := by show _ = _; omega
      have E5 : Hid ((K4 : Int) + 2 * (d.fs.length : Int) = (K5 : Int)) := by show _ = _; omega
      have E6 : (K5 : Int) + 1 = (K6 : Int) := by omega
      have E7 : (K6 : Int) + 1 = (K7 : Int) := by omega
      have E8 : (K7 : Int) + 1 = (K8 : Int) := by omega
      have E9 : (K8 : Int) + 1 = (K9 : Int) := by omega
      have b1 : 1 ≤ K1 ∧ K1 + d.xs.length ≤ 99999998 := by omega
      have b2 : 1 ≤ K2 ∧ K2 + d.ys.length ≤ 99999998 := by omega
      have b4 : 1 ≤ K4 ∧ K4 + 2 * d.fs.length ≤ 99999999 := by omega
      have b5 : 1 ≤ K5 ∧ K5 ≤ 99999999 := by omega
      have b9 : 1 ≤ K9 := by omega
      have bb3 : K3 ≤ 99999999 := by omega
      have bb5 : K5 ≤ 99999999 := by omega
      have bb6 : K6 ≤ 99999999 := by omega
      have bb7 : K7 ≤ 99999999 := by omega
      have bb8 : K8 ≤ 99999999 := by omega
      clear hK1 hK2 hK3 hK4 hK5 hK6 hK7 hK8 hK9
      go_wp2_with fail
      refine (markText_any K _ (by omega) (by omega)).mono ?_
      rintro e u1 ⟨rfl, bw⟩
      have HKu1 : Hid (KeptsO u1 base (.slice (some ⟨g, 0, none⟩) n cap) (pre ++ ((⟨d.p, d.xs, d.ys, d.st, d.fs, d.b, d.t, d.a, d.q⟩ : KpD), v1, v2, v3) :: post)) := HK0.out.below bw
      have HBu1 : Hid (Below base w u1) := HB0.out.trans (bw.mono (Nat.le_trans hb HB0.out.size))
      have HFu1 : Hid (FarR (kpAll (.slice (some ⟨g, 0, none⟩) n cap) kv) w u1) := fun j hj hne => (bw.block j (Nat.lt_of_lt_of_le hj HB0.out.size)).trans (HF0.out j hj hne)
      clear bw
      obtain ⟨c0, f0⟩ := kept_at HKu1.out HNL.out HPL.out 0 (by decide) _ rfl
      rw [Nat.add_zero] at c0 f0
      have HKs0 : Hid (KeptsO ((u1).setCell ⟨g, k * 9, none⟩ (.string (markOf K))) base (.slice (some ⟨g, 0, none⟩) n cap) (pre ++ ((⟨markOf K, d.xs, d.ys, d.st, d.fs, d.b, d.t, d.a, d.q⟩ : KpD), v1, v2, v3) :: post)) := kept_cell HKu1.out HNL.out HPL.out 0 (by decide) _ rfl rfl
      have HBs0 : Hid (Below base w ((u1).setCell ⟨g, k * 9, none⟩ (.string (markOf K)))) := HBu1.out.setCell (p := ⟨g, k * 9, none⟩) HGB.out _
      have HFs0 : Hid (FarR (kpAll (.slice (some ⟨g, 0, none⟩) n cap) kv) w ((u1).setCell ⟨g, k * 9, none⟩ (.string (markOf K)))) := fun j hj hne => (heap_setCell_other _ _ j _ (fun e => hne (kpRow (.slice (some ⟨g, 0, none⟩) n cap) kv) (by simp [kpAll]) (by rw [e]; rfl))).trans (HFu1.out j hj hne)
      obtain ⟨c1, f1⟩ := kept_at HKs0.out HNL.out HPL.out 1 (by decide) _ rfl
      go_wp2_with fail
      rw [E1.out]
      refine (markTFrom_any v1 d.xs.length base d.xs _ (HKs0.out.names (x := ((⟨markOf K, d.xs, d.ys, d.st, d.fs, d.b, d.t, d.a, d.q⟩ : KpD), v1, v2, v3)) (List.mem_append_right _ List.mem_cons_self)) (Nat.le_trans hb HBs0.out.size) K1 b1.1 b1.2).mono ?_
      rintro e u2 ⟨rfl, mk, bm, far⟩
      have HKu2 : Hid (KeptsO u2 base (.slice (some ⟨g, 0, none⟩) n cap) (pre ++ ((⟨markOf K, mkT K1 d.xs d.xs.length, d.ys, d.st, d.fs, d.b, d.t, d.a, d.q⟩ : KpD), v1, v2, v3) :: post)) := kept_row (r := kpN ((⟨markOf K, d.xs, d.ys, d.st, d.fs, d.b, d.t, d.a, d.q⟩ : KpD), v1, v2, v3)) (r' := kpN ((⟨markOf K, mkT K1 d.xs d.xs.length, d.ys, d.st, d.fs, d.b, d.t, d.a, d.q⟩ : KpD), v1, v2, v3)) (a := []) (b := [kpV ((⟨markOf K, mkT K1 d.xs d.xs.length, d.ys, d.st, d.fs, d.b, d.t, d.a, d.q⟩ : KpD), v1, v2, v3), kpF ((⟨markOf K, mkT K1 d.xs d.xs.length, d.ys, d.st, d.fs, d.b, d.t, d.a, d.q⟩ : KpD), v1, v2, v3)]) HKs0.out rfl (by first | rfl | simp [kpR]) rfl rfl (by first | exact mk | (unfold Rw.own kpN; simp only [mkT_len]; exact mk)) far
      have HBu2 : Hid (Below base w u2) := HBs0.out.trans bm
      have HFu2 : Hid (FarR (kpAll (.slice (some ⟨g, 0, none⟩) n cap) kv) w u2) := fun j hj hne => (far j (Nat.lt_of_lt_of_le hj HBs0.out.size) (hne (kpN (d, v1, v2, v3)) (HINN.out))).trans (HFs0.out j hj hne)
      clear mk bm far c0 f0 c1 f1
      rw [E2.out]
      obtain ⟨c2, f2⟩ := kept_at HKu2.out HNL.out HPL.out 2 (by decide) _ rfl
      go_wp2_with fail
      refine (markTFrom_any v2 d.ys.length base d.ys _ (HKu2.out.vals (x := ((⟨markOf K, mkT K1 d.xs d.xs.length, d.ys, d.st, d.fs, d.b, d.t, d.a, d.q⟩ : KpD), v1, v2, v3)) (List.mem_append_right _ List.mem_cons_self)) (Nat.le_trans hb HBu2.out.size) K2 b2.1 b2.2).mono ?_
      rintro e u3 ⟨rfl, mk, bm, far⟩
      have HKu3 : Hid (KeptsO u3 base (.slice (some ⟨g, 0, none⟩) n cap) (pre ++ ((⟨markOf K, mkT K1 d.xs d.xs.length, mkT K2 d.ys d.ys.length, d.st, d.fs, d.b, d.t, d.a, d.q⟩ : KpD), v1, v2, v3) :: post)) := kept_row (r := kpV ((⟨markOf K, mkT K1 d.xs d.xs.length, d.ys, d.st, d.fs, d.b, d.t, d.a, d.q⟩ : KpD), v1, v2, v3)) (r' := kpV ((⟨markOf K, mkT K1 d.xs d.xs.length, mkT K2 d.ys d.ys.length, d.st, d.fs, d.b, d.t, d.a, d.q⟩ : KpD), v1, v2, v3)) (a := [kpN ((⟨markOf K, mkT K1 d.xs d.xs.length, mkT K2 d.ys d.ys.length, d.st, d.fs, d.b, d.t, d.a, d.q⟩ : KpD), v1, v2, v3)]) (b := [kpF ((⟨markOf K, mkT K1 d.xs d.xs.length, mkT K2 d.ys d.ys.length, d.st, d.fs, d.b, d.t, d.a, d.q⟩ : KpD), v1, v2, v3)]) HKu2.out rfl (by first | rfl | simp [kpR]) rfl rfl (by first | exact mk | (unfold Rw.own kpV; simp only [mkT_len]; exact mk)) far
      have HBu3 : Hid (Below base w u3) := HBu2.out.trans bm
      have HFu3 : Hid (FarR (kpAll (.slice (some ⟨g, 0, none⟩) n cap) kv) w u3) := fun j hj hne => (far j (Nat.lt_of_lt_of_le hj HBu2.out.size) (hne (kpV (d, v1, v2, v3)) (HINV.out))).trans (HFu2.out j hj hne)
      clear mk bm far c2 f2
      rw [E3.out]
      obtain ⟨c3, f3⟩ := kept_at HKu3.out HNL.out HPL.out 3 (by decide) _ rfl
      have HKs3 : Hid (KeptsO ((u3).setCell ⟨g, k * 9 + 3, none⟩ (.int .i64 (K3 : Int))) base (.slice (some ⟨g, 0, none⟩) n cap) (pre ++ ((⟨markOf K, mkT K1 d.xs d.xs.length, mkT K2 d.ys d.ys.length, (K3 : Int), d.fs, d.b, d.t, d.a, d.q⟩ : KpD), v1, v2, v3) :: post)) := kept_cell HKu3.out HNL.out HPL.out 3 (by decide) _ rfl rfl
      have HBs3 : Hid (Below base w ((u3).setCell ⟨g, k * 9 + 3, none⟩ (.int .i64 (K3 : Int)))) := HBu3.out.setCell (p := ⟨g, k * 9 + 3, none⟩) HGB.out _
      have HFs3 : Hid (FarR (kpAll (.slice (some ⟨g, 0, none⟩) n cap) kv) w ((u3).setCell ⟨g, k * 9 + 3, none⟩ (.int .i64 (K3 : Int)))) := fun j hj hne => (heap_setCell_other _ _ j _ (fun e => hne (kpRow (.slice (some ⟨g, 0, none⟩) n cap) kv) (by simp [kpAll]) (by rw [e]; rfl))).trans (HFu3.out j hj hne)
      obtain ⟨c4, f4⟩ := kept_at HKs3.out HNL.out HPL.out 4 (by decide) _ rfl
      go_wp2_with fail
      rw [E4.out]
      refine (markFrom_any v3 d.fs.length base d.fs _ (HKs3.out.flds (x := ((⟨markOf K, mkT K1 d.xs d.xs.length, mkT K2 d.ys d.ys.length, (K3 : Int), d.fs, d.b, d.t, d.a, d.q⟩ : KpD), v1, v2, v3)) (List.mem_append_right _ List.mem_cons_self)) (Nat.le_trans hb HBs3.out.size) K4 b4.1 b4.2).mono ?_
      rintro e u4 ⟨rfl, mk, bm, far⟩
      have HKu4 : Hid (KeptsO u4 base (.slice (some ⟨g, 0, none⟩) n cap) (pre ++ ((⟨markOf K, mkT K1 d.xs d.xs.length, mkT K2 d.ys d.ys.length, (K3 : Int), mkG K4 d.fs d.fs.length, d.b, d.t, d.a, d.q⟩ : KpD), v1, v2, v3) :: post)) := kept_row (r := kpF ((⟨markOf K, mkT K1 d.xs d.xs.length, mkT K2 d.ys d.ys.length, (K3 : Int), d.fs, d.b, d.t, d.a, d.q⟩ : KpD), v1, v2, v3)) (r' := kpF ((⟨markOf K, mkT K1 d.xs d.xs.length, mkT K2 d.ys d.ys.length, (K3 : Int), mkG K4 d.fs d.fs.length, d.b, d.t, d.a, d.q⟩ : KpD), v1, v2, v3)) (a := [kpN ((⟨markOf K, mkT K1 d.xs d.xs.length, mkT K2 d.ys d.ys.length, (K3 : Int), mkG K4 d.fs d.fs.length, d.b, d.t, d.a, d.q⟩ : KpD), v1, v2, v3), kpV ((⟨markOf K, mkT K1 d.xs d.xs.length, mkT K2 d.ys d.ys.length, (K3 : Int), mkG K4 d.fs d.fs.length, d.b, d.t, d.a, d.q⟩ : KpD), v1, v2, v3)]) (b := []) HKs3.out rfl (by first | rfl | simp [kpR]) rfl rfl (by first | exact mk | (unfold Rw.own kpF; simp only [mkG_len]; exact mk)) far
      have HBu4 : Hid (Below base w u4) := HBs3.out.trans bm
      have HFu4 : Hid (FarR (kpAll (.slice (some ⟨g, 0, none⟩) n cap) kv) w u4) := fun j hj hne => (far j (Nat.lt_of_lt_of_le hj HBs3.out.size) (hne (kpF (d, v1, v2, v3)) (HINF.out))).trans (HFs3.out j hj hne)
      clear mk bm far c3 f3 c4 f4
      rw [E5.out]
      go_wp2_with fail
      refine (markText_any K5 _ b5.1 b5.2).mono ?_
      rintro e u5 ⟨rfl, bw⟩
      have HKu5 : Hid (KeptsO u5 base (.slice (some ⟨g, 0, none⟩) n cap) (pre ++ ((⟨markOf K, mkT K1 d.xs d.xs.length, mkT K2 d.ys d.ys.length, (K3 : Int), mkG K4 d.fs d.fs.length, d.b, d.t, d.a, d.q⟩ : KpD), v1, v2, v3) :: post)) := HKu4.out.below bw
      have HBu5 : Hid (Below base w u5) := HBu4.out.trans (bw.mono (Nat.le_trans hb HBu4.out.size))
      have HFu5 : Hid (FarR (kpAll (.slice (some ⟨g, 0, none⟩) n cap) kv) w u5) := fun j hj hne => (bw.block j (Nat.lt_of_lt_of_le hj HBu4.out.size)).trans (HFu4.out j hj hne)
      clear bw
      obtain ⟨c5, f5⟩ := kept_at HKu5.out HNL.out HPL.out 5 (by decide) _ rfl
      have HKs5 : Hid (KeptsO ((u5).setCell ⟨g, k * 9 + 5, none⟩ (.string (markOf K5))) base (.slice (some ⟨g, 0, none⟩) n cap) (pre ++ ((⟨markOf K, mkT K1 d.xs d.xs.length, mkT K2 d.ys d.ys.length, (K3 : Int), mkG K4 d.fs d.fs.length, markOf K5, d.t, d.a, d.q⟩ : KpD), v1, v2, v3) :: post)) := kept_cell HKu5.out HNL.out HPL.out 5 (by decide) _ rfl rfl
      have HBs5 : Hid (Below base w ((u5).setCell ⟨g, k * 9 + 5, none⟩ (.string (markOf K5)))) := HBu5.out.setCell (p := ⟨g, k * 9 + 5, none⟩) HGB.out _
      have HFs5 : Hid (FarR (kpAll (.slice (some ⟨g, 0, none⟩) n cap) kv) w ((u5).setCell ⟨g, k * 9 + 5, none⟩ (.string (markOf K5)))) := fun j hj hne => (heap_setCell_other _ _ j _ (fun e => hne (kpRow (.slice (some ⟨g, 0, none⟩) n cap) kv) (by simp [kpAll]) (by rw [e]; rfl))).trans (HFu5.out j hj hne)
      obtain ⟨c6, f6⟩ := kept_at HKs5.out HNL.out HPL.out 6 (by decide) _ rfl
      have HKs6 : Hid (KeptsO ((((u5).setCell ⟨g, k * 9 + 5, none⟩ (.string (markOf K5)))).setCell ⟨g, k * 9 + 6, none⟩ (.int .i64 (K6 : Int))) base (.slice (some ⟨g, 0, none⟩) n cap) (pre ++ ((⟨markOf K, mkT K1 d.xs d.xs.length, mkT K2 d.ys d.ys.length, (K3 : Int), mkG K4 d.fs d.fs.length, markOf K5, (K6 : Int), d.a, d.q⟩ : KpD), v1, v2, v3) :: post)) := kept_cell HKs5.out HNL.out HPL.out 6 (by decide) _ rfl rfl
      have HBs6 : Hid (Below base w ((((u5).setCell ⟨g, k * 9 + 5, none⟩ (.string (markOf K5)))).setCell ⟨g, k * 9 + 6, none⟩ (.int .i64 (K6 : Int)))) := HBs5.out.setCell (p := ⟨g, k * 9 + 6, none⟩) HGB.out _
      have HFs6 : Hid (FarR (kpAll (.slice (some ⟨g, 0, none⟩) n cap) kv) w ((((u5).setCell ⟨g, k * 9 + 5, none⟩ (.string (markOf K5)))).setCell ⟨g, k * 9 + 6, none⟩ (.int .i64 (K6 : Int)))) := fun j hj hne => (heap_setCell_other _ _ j _ (fun e => hne (kpRow (.slice (some ⟨g, 0, none⟩) n cap) kv) (by simp [kpAll]) (by rw [e]; rfl))).trans (HFs5.out j hj hne)
      obtain ⟨c7, f7⟩ := kept_at HKs6.out HNL.out HPL.out 7 (by decide) _ rfl
      have HKs7 : Hid (KeptsO ((((((u5).setCell ⟨g, k * 9 + 5, none⟩ (.string (markOf K5)))).setCell ⟨g, k * 9 + 6, none⟩ (.int .i64 (K6 : Int)))).setCell ⟨g, k * 9 + 7, none⟩ (.int .i64 (K7 : Int))) base (.slice (some ⟨g, 0, none⟩) n cap) (pre ++ ((⟨markOf K, mkT K1 d.xs d.xs.length, mkT K2 d.ys d.ys.length, (K3 : Int), mkG K4 d.fs d.fs.length, markOf K5, (K6 : Int), (K7 : Int), d.q⟩ : KpD), v1, v2, v3) :: post)) := kept_cell HKs6.out HNL.out HPL.out 7 (by decide) _ rfl rfl
      have HBs7 : Hid (Below base w ((((((u5).setCell ⟨g, k * 9 + 5, none⟩ (.string (markOf K5)))).setCell ⟨g, k * 9 + 6, none⟩ (.int .i64 (K6 : Int)))).setCell ⟨g, k * 9 + 7, none⟩ (.int .i64 (K7 : Int)))) := HBs6.out.setCell (p := ⟨g, k * 9 + 7, none⟩) HGB.out _
      have HFs7 : Hid (FarR (kpAll (.slice (some ⟨g, 0, none⟩) n cap) kv) w ((((((u5).setCell ⟨g, k * 9 + 5, none⟩ (.string (markOf K5)))).setCell ⟨g, k * 9 + 6, none⟩ (.int .i64 (K6 : Int)))).setCell ⟨g, k * 9 + 7, none⟩ (.int .i64 (K7 : Int)))) := fun j hj hne => (heap_setCell_other _ _ j _ (fun e => hne (kpRow (.slice (some ⟨g, 0, none⟩) n cap) kv) (by simp [kpAll]) (by rw [e]; rfl))).trans (HFs6.out j hj hne)
      obtain ⟨c8, f8⟩ := kept_at HKs7.out HNL.out HPL.out 8 (by decide) _ rfl
      have HKs8 : Hid (KeptsO ((((((((u5).setCell ⟨g, k * 9 + 5, none⟩ (.string (markOf K5)))).setCell ⟨g, k * 9 + 6, none⟩ (.int .i64 (K6 : Int)))).setCell ⟨g, k * 9 + 7, none⟩ (.int .i64 (K7 : Int)))).setCell ⟨g, k * 9 + 8, none⟩ (.int .i64 (K8 : Int))) base (.slice (some ⟨g, 0, none⟩) n cap) (pre ++ ((⟨markOf K, mkT K1 d.xs d.xs.length, mkT K2 d.ys d.ys.length, (K3 : Int), mkG K4 d.fs d.fs.length, markOf K5, (K6 : Int), (K7 : Int), (K8 : Int)⟩ : KpD), v1, v2, v3) :: post)) := kept_cell HKs7.out HNL.out HPL.out 8 (by decide) _ rfl rfl
      have HBs8 : Hid (Below base w ((((((((u5).setCell ⟨g, k * 9 + 5, none⟩ (.string (markOf K5)))).setCell ⟨g, k * 9 + 6, none⟩ (.int .i64 (K6 : Int)))).setCell ⟨g, k * 9 + 7, none⟩ (.int .i64 (K7 : Int)))).setCell ⟨g, k * 9 + 8, none⟩ (.int .i64 (K8 : Int)))) := HBs7.out.setCell (p := ⟨g, k * 9 + 8, none⟩) HGB.out _
      have HFs8 : Hid (FarR (kpAll (.slice (some ⟨g, 0, none⟩) n cap) kv) w ((((((((u5).setCell ⟨g, k * 9 + 5, none⟩ (.string (markOf K5)))).setCell ⟨g, k * 9 + 6, none⟩ (.int .i64 (K6 : Int)))).setCell ⟨g, k * 9 + 7, none⟩ (.int .i64 (K7 : Int)))).setCell ⟨g, k * 9 + 8, none⟩ (.int .i64 (K8 : Int)))) := fun j hj hne => (heap_setCell_other _ _ j _ (fun e => hne (kpRow (.slice (some ⟨g, 0, none⟩) n cap) kv) (by simp [kpAll]) (by rw [e]; rfl))).trans (HFs7.out j hj hne)
      have HFIN : Hid ((mkD K x0.1, x0.2) = ((⟨markOf K, mkT K1 d.xs d.xs.length, mkT K2 d.ys d.ys.length, (K3 : Int), mkG K4 d.fs d.fs.length, markOf K5, (K6 : Int), (K7 : Int), (K8 : Int)⟩ : KpD), v1, v2, v3)) := by
        show _ = _
        rw [HX0.out]
        unfold mkD
        rw [HQ1.out, HQ2.out, HQ3.out, HQ4.out, HQ5.out, HQ6.out, HQ7.out, HQ8.out]
      have HKN : Hid (K9 = k0 + wms (kv.take (k + 1))) := by
        have h1 : k0 + wms (kv.take (k + 1)) = K + wm1 d := by have h := HKE2.out; rw [HX0.out] at h; exact h
        have h2 : wm1 d = 6 + d.xs.length + d.ys.length + 2 * d.fs.length := rfl
        have h3 := HQ9.out
        show _ = _
        omega
      go_wp2
      go_roundw
      case rel => exact ⟨k + 1, K9, by omega, by go_num, rfl, b9, HKN, HBs8, by show KeptsO _ _ _ _; rw [HEND.out, HFIN.out]; exact HKs8.out, HFs8⟩
      case measure => simp [intOf]; omega
    · have HE : Hid (k0 + TW = K ∧ KeptsO wr base (.slice oa n cap) (mkKs k0 kv)) := by
        have e1 := HKE.out
        have e2 := HK0'.out
        rw [List.take_of_length_le (by rw [HLN.out]; omega)] at e1 e2
        rw [List.drop_eq_nil_of_le (by rw [HLN.out]; omega), List.append_nil] at e2
        exact ⟨by rw [HTW.out, e1], e2⟩
      go_wp2
      go_ret
      exact ⟨by rw [HE.out.1]; rfl, HE.out.2, HB0.out, HF0.out⟩

end Go.Proofs.YtajccgffallajaaGreat

namespace Go.Proofs.YtajccgffallajaaGreat
open Go.RowKit
open Go.Lib hiding intOf

/-- A store's cells are none of the rows': they stay. -/
theorem RowsO.other {W : World} {base q o : Nat} {rs : List Rw} {cs : Array Value} {T : TypeId} {fr : Nat × Nat} {u : Value} (h : RowsO W base rs) (hq : W.heap[q]? = some (.cells cs T fr)) (hT : ∀ r ∈ rs, T ≠ r.T) : RowsO (W.setCell ⟨q, o, none⟩ u) base rs :=
  h.same (fun r hr g hg => heap_setCell_other _ _ g _ (fun e => own_noR (h.own r hr) (hT r hr) hq (by have e' : g = q := e; rw [← e']; exact hg)))
theorem kpAll_T {V : Value} {kv : List (KpD × Value × Value × Value)} {r : Rw} (h : r ∈ kpAll V kv) : r.T = 161 ∨ r.T = 9 ∨ r.T = 135 := by
  rcases List.mem_cons.1 h with h | h
  · exact .inl (by rw [h]; rfl)
  · obtain ⟨x, _, hx⟩ := List.mem_flatMap.1 h
    simp only [kpR, List.mem_cons, List.not_mem_nil, or_false] at hx
    rcases hx with rfl | rfl | rfl
    · exact .inr (.inl rfl)
    · exact .inr (.inl rfl)
    · exact .inr (.inr rfl)
theorem disk_rows {W : World} {base : Nat} {v1 v2 : Value} {n1 n2 : Nat} {cs : List ByteArray} {ws : List (Int × ByteArray)} (h : DiskO W base v1 n1 cs v2 n2 ws) : RowsO W base [(⟨9, 1, v1, n1, cs.map Value.string⟩ : Rw), (⟨184, 2, v2, n2, flatWrite ws⟩ : Rw)] := by
  refine ⟨fun r hr => ?_, List.pairwise_cons.2 ⟨fun r hr => ?_, List.pairwise_singleton _ _⟩⟩
  · simp only [List.mem_cons, List.not_mem_nil, or_false] at hr
    rcases hr with rfl | rfl
    · exact h.cells
    · exact h.pend
  · rw [List.mem_singleton.1 hr]
    exact fun g hg => own_two h.cells h.pend (by decide) hg
/-- All rows of a store. -/
def shAll (v1 v2 V VB : Value) (kv : List (KpD × Value × Value × Value)) (cs : List ByteArray) (ws : List (Int × ByteArray)) (bl : List (Int × ByteArray × ByteArray × Int)) : List Rw := ([(⟨9, 1, v1, cs.length, cs.map Value.string⟩ : Rw), (⟨184, 2, v2, ws.length, flatWrite ws⟩ : Rw)] ++ kpAll V kv) ++ [(⟨163, 4, VB, bl.length, flatBan bl⟩ : Rw)]
/-- A store of one's own. -/
def ShelfO (w : World) (base : Nat) (v1 v2 V VB : Value) (kv : List (KpD × Value × Value × Value)) (s : ShD) : Prop := RowsO w base (shAll v1 v2 V VB kv s.cs s.ws s.bl) ∧ kv.map (·.1) = s.ks
theorem ShelfO.disk {w : World} {base : Nat} {v1 v2 V VB : Value} {kv : List (KpD × Value × Value × Value)} {s : ShD} (h : ShelfO w base v1 v2 V VB kv s) : DiskO w base v1 s.cs.length s.cs v2 s.ws.length s.ws := ⟨h.1.own (⟨9, 1, v1, s.cs.length, s.cs.map Value.string⟩ : Rw) (by simp [shAll]), h.1.own (⟨184, 2, v2, s.ws.length, flatWrite s.ws⟩ : Rw) (by simp [shAll])⟩
theorem ShelfO.kept {w : World} {base : Nat} {v1 v2 V VB : Value} {kv : List (KpD × Value × Value × Value)} {s : ShD} (h : ShelfO w base v1 v2 V VB kv s) : KeptsO w base V kv := RowsO.sub h.1 ((List.sublist_append_right _ _).trans (List.sublist_append_left _ _))
theorem ShelfO.bans {w : World} {base : Nat} {v1 v2 V VB : Value} {kv : List (KpD × Value × Value × Value)} {s : ShD} (h : ShelfO w base v1 v2 V VB kv s) : w.ownsRow base 163 4 VB s.bl.length (flatBan s.bl) := h.1.own (⟨163, 4, VB, s.bl.length, flatBan s.bl⟩ : Rw) (by simp [shAll])
theorem ShelfO.below {w w' : World} {base : Nat} {v1 v2 V VB : Value} {kv : List (KpD × Value × Value × Value)} {s : ShD} (h : ShelfO w base v1 v2 V VB kv s) (hb : Below w.heap.size w w') : ShelfO w' base v1 v2 V VB kv s := ⟨h.1.below hb, h.2⟩
/-- A call answers a store of its own. -/
def ShelfIs (s : ShD) (w : World) (e : Ending) (w' : World) : Prop := ∃ (v1 v2 V VB : Value) (kv : List (KpD × Value × Value × Value)), e = .returned (.agg #[v1, v2, V, VB, .int .i64 s.nx, .int .i64 s.sq]) ∧ ShelfO w' w.heap.size v1 v2 V VB kv s ∧ Below w.heap.size w w'

set_option maxHeartbeats 8000000 in
set_option maxRecDepth 100000 in
theorem toShelf_any (a1 : Option Addr) (n1 c1 : Nat) (cs : List ByteArray) (a2 : Option Addr) (n2 c2 : Nat) (ws : List (Int × ByteArray)) (a3 : Option Addr) (n3 c3 : Nat) (ks : List KpD) (a4 : Option Addr) (n4 c4 : Nat) (bl : List (Int × ByteArray × ByteArray × Int)) (nx sq : Int) (B : Nat) (w : World) (h1 : ArgT w B a1 n1 cs) (h2 : ArgWrite w B a2 n2 ws) (h3 : ArgKept w B a3 n3 ks) (h4 : ArgBan w B a4 n4 bl) (hB : B ≤ w.heap.size) (hn1 : n1 ≤ 1048576) (hn2 : n2 ≤ 1048576) (hn3 : n3 ≤ 1048576) (hn4 : n4 ≤ 1048576) (hsm : ∀ k ∈ ks, k.xs.length ≤ 1048576 ∧ k.ys.length ≤ 1048576 ∧ k.fs.length ≤ 1048576) :
    Calls Tryz.prog 18 #[.agg #[.slice a1 n1 c1, .slice a2 n2 c2, .slice a3 n3 c3, .slice a4 n4 c4, .int .i64 nx, .int .i64 sq]] w fun e w' => ShelfIs ⟨cs, ws, ks, bl, nx, sq⟩ w e w' := by
  have HA1 : Hid (∀ W, Below w.heap.size w W → ArgT W B a1 n1 cs) := fun W h => h1.below (h.mono hB)
  have HA2 : Hid (∀ W, Below w.heap.size w W → ArgWrite W B a2 n2 ws) := fun W h => h2.below (h.mono hB)
  have HA3 : Hid (∀ W, Below w.heap.size w W → ArgKept W B a3 n3 ks) := fun W h => h3.below (h.mono hB)
  have HA4 : Hid (∀ W, Below w.heap.size w W → ArgBan W B a4 n4 bl) := fun W h => h4.below (h.mono hB)
  have HBB : Hid (∀ W, Below w.heap.size w W → B ≤ W.heap.size) := fun W h => Nat.le_trans hB h.size
  have HN : Hid (n1 ≤ 1048576 ∧ n2 ≤ 1048576 ∧ n3 ≤ 1048576 ∧ n4 ≤ 1048576) := ⟨hn1, hn2, hn3, hn4⟩
  have HSM : Hid (∀ k ∈ ks, k.xs.length ≤ 1048576 ∧ k.ys.length ≤ 1048576 ∧ k.fs.length ≤ 1048576) := hsm
  have HL : Hid (cs.length = n1 ∧ ws.length = n2 ∧ ks.length = n3 ∧ bl.length = n4) := ⟨h1.len, h2.1, h3.1, h4.1⟩
  clear h1 h2 h3 h4 hn1 hn2 hn3 hn4 hsm hB
  have hb0 : Below w.heap.size w w := Below.refl _ _
  go_enter Tryz.func18, Tryz.ntmps18
  go_upto_region 1 with fail
  obtain ⟨qv1, hqv1⟩ : ∃ q, q = (w).heap.size := ⟨_, rfl⟩
  obtain ⟨w1, hW1⟩ : ∃ W, W = (w).alloc (.cells #[.slice a1 n1 c1, .slice a2 n2 c2, .slice a3 n3 c3, .slice a4 n4 c4, .int .i64 nx, .int .i64 sq] 29) := ⟨_, rfl⟩
  have hz1 : (w).heap.size = qv1 := hqv1.symm
  first | rw [← hW1, ← hqv1] | rw [← hW1]
  have hs1 : w1.heap.size = qv1 + 1 := by rw [hW1, ← hz1]; simp
  have bw : Below (w).heap.size (w) w1 := by rw [hW1]; exact (Below.refl _ _).alloc (Nat.le_refl _) _
  have hb1 : Below w.heap.size w (w1) := hb0.trans (bw.mono hb0.size)
  have HBv1_1 : Hid ((w1).heap[qv1]? = some (.cells #[.slice a1 n1 c1, .slice a2 n2 c2, .slice a3 n3 c3, .slice a4 n4 c4, .int .i64 nx, .int .i64 sq] 29)) := by show _ = _; rw [hW1, ← hz1]; exact heap_alloc_new _ _
  clear hb0 bw hW1 hz1
  obtain ⟨qv2, hqv2⟩ : ∃ q, q = qv1 + 1 := ⟨_, rfl⟩
  obtain ⟨w2, hW2⟩ : ∃ W, W = (w1).alloc (.cells #[.slice none 0 0, .slice none 0 0, .slice none 0 0, .slice none 0 0, .int .i64 0, .int .i64 0] 47) := ⟨_, rfl⟩
  have hz2 : (w1).heap.size = qv2 := by rw [hqv2]; exact hs1
  first | rw [← hW2, ← hqv2] | rw [← hW2]
  have hs2 : w2.heap.size = qv2 + 1 := by rw [hW2, ← hz2]; simp
  have bw : Below (w1).heap.size (w1) w2 := by rw [hW2]; exact (Below.refl _ _).alloc (Nat.le_refl _) _
  have hb2 : Below w.heap.size w (w2) := hb1.trans (bw.mono hb1.size)
  have HBv1_2 : Hid ((w2).heap[qv1]? = some (.cells #[.slice a1 n1 c1, .slice a2 n2 c2, .slice a3 n3 c3, .slice a4 n4 c4, .int .i64 nx, .int .i64 sq] 29)) := blk_below HBv1_1.out bw
  have HNv1v2 : Hid (qv1 ≠ qv2) := fun e => by have h1 := (Array.getElem?_eq_some_iff.1 HBv1_1.out).1; omega
  have HBv2_2 : Hid ((w2).heap[qv2]? = some (.cells #[.slice none 0 0, .slice none 0 0, .slice none 0 0, .slice none 0 0, .int .i64 0, .int .i64 0] 47)) := by show _ = _; rw [hW2, ← hz2]; exact heap_alloc_new _ _
  have HGv2 : Hid (w.heap.size ≤ qv2) := by show _ ≤ _; rw [← hz2]; exact hb1.size
  clear hb1 HBv1_1 bw hW2 hz2
  clear hs2 hqv2 hs1 hqv1
  go_upto_region 2 with fail
  obtain ⟨qv3, hqv3⟩ : ∃ q, q = (w2).heap.size := ⟨_, rfl⟩
  obtain ⟨w3, hW3⟩ : ∃ W, W = (w2).alloc (.cells #[.slice none 0 0, .slice none 0 0, .slice none 0 0, .slice none 0 0, .int .i64 0, .int .i64 0] 47) := ⟨_, rfl⟩
  have hz3 : (w2).heap.size = qv3 := hqv3.symm
  first | rw [← hW3, ← hqv3] | rw [← hW3]
  have hs3 : w3.heap.size = qv3 + 1 := by rw [hW3, ← hz3]; simp
  have bw : Below (w2).heap.size (w2) w3 := by rw [hW3]; exact (Below.refl _ _).alloc (Nat.le_refl _) _
  have hb3 : Below w.heap.size w (w3) := hb2.trans (bw.mono hb2.size)
  have HBv1_3 : Hid ((w3).heap[qv1]? = some (.cells #[.slice a1 n1 c1, .slice a2 n2 c2, .slice a3 n3 c3, .slice a4 n4 c4, .int .i64 nx, .int .i64 sq] 29)) := blk_below HBv1_2.out bw
  have HBv2_3 : Hid ((w3).heap[qv2]? = some (.cells #[.slice none 0 0, .slice none 0 0, .slice none 0 0, .slice none 0 0, .int .i64 0, .int .i64 0] 47)) := blk_below HBv2_2.out bw
  have HNv1v3 : Hid (qv1 ≠ qv3) := fun e => by have h1 := (Array.getElem?_eq_some_iff.1 HBv1_2.out).1; omega
  have HNv2v3 : Hid (qv2 ≠ qv3) := fun e => by have h1 := (Array.getElem?_eq_some_iff.1 HBv2_2.out).1; omega
  have HBv3_3 : Hid ((w3).heap[qv3]? = some (.cells #[.slice none 0 0, .slice none 0 0, .slice none 0 0, .slice none 0 0, .int .i64 0, .int .i64 0] 47)) := by show _ = _; rw [hW3, ← hz3]; exact heap_alloc_new _ _
  have HGv3 : Hid (w.heap.size ≤ qv3) := by show _ ≤ _; rw [← hz3]; exact hb2.size
  clear hb2 HBv1_2 HBv2_2 bw hW3 hz3
  clear hs3 hqv3
  have cv1_0 : (w3).cell? ⟨qv1, 0, none⟩ = some (.slice a1 n1 c1) := (cell_of HBv1_3.out 0).trans rfl
  have cv1_1 : (w3).cell? ⟨qv1, 1, none⟩ = some (.slice a2 n2 c2) := (cell_of HBv1_3.out 1).trans rfl
  go_wp2_with fail
  refine (toDisk_any a1 n1 c1 cs a2 n2 c2 ws B _ (HA1.out _ hb3) (HA2.out _ hb3) (HBB.out _ hb3) HN.out.1 HN.out.2.1).mono ?_
  rintro e w4 ⟨vv1, vv2, rfl, hdk, bw⟩
  obtain ⟨oC, pC, rfl⟩ := slice_of_owns hdk.cells
  obtain ⟨oP, pP, rfl⟩ := slice_of_owns hdk.pend
  have HRN0 : Hid (RowsO w4 w.heap.size ([(⟨9, 1, (.slice oC n1 pC), n1, cs.map Value.string⟩ : Rw), (⟨184, 2, (.slice oP n2 pP), n2, flatWrite ws⟩ : Rw)])) := (disk_rows hdk).wide hb3.size
  have HT0 : Hid (∀ r ∈ ([(⟨9, 1, (.slice oC n1 pC), n1, cs.map Value.string⟩ : Rw), (⟨184, 2, (.slice oP n2 pP), n2, flatWrite ws⟩ : Rw)]), 47 ≠ r.T) := by
    intro r hr
    simp only [List.mem_cons, List.not_mem_nil, or_false] at hr
    rcases hr with rfl | rfl
    · exact (by decide : (47 : TypeId) ≠ 9)
    · exact (by decide : (47 : TypeId) ≠ 184)
  clear hdk
  have hb4 : Below w.heap.size w (w4) := hb3.trans (bw.mono hb3.size)
  have HBv1_4 : Hid ((w4).heap[qv1]? = some (.cells #[.slice a1 n1 c1, .slice a2 n2 c2, .slice a3 n3 c3, .slice a4 n4 c4, .int .i64 nx, .int .i64 sq] 29)) := blk_below HBv1_3.out bw
  have HBv2_4 : Hid ((w4).heap[qv2]? = some (.cells #[.slice none 0 0, .slice none 0 0, .slice none 0 0, .slice none 0 0, .int .i64 0, .int .i64 0] 47)) := blk_below HBv2_3.out bw
  have HBv3_4 : Hid ((w4).heap[qv3]? = some (.cells #[.slice none 0 0, .slice none 0 0, .slice none 0 0, .slice none 0 0, .int .i64 0, .int .i64 0] 47)) := blk_below HBv3_3.out bw
  clear hb3 HBv1_3 HBv2_3 HBv3_3 bw
  have ER_4 : Hid (RowsO (w4) w.heap.size ([(⟨9, 1, (.slice oC n1 pC), n1, cs.map Value.string⟩ : Rw), (⟨184, 2, (.slice oP n2 pP), n2, flatWrite ws⟩ : Rw)])) := HRN0.out
  clear HRN0
  clear cv1_0 cv1_1
  have cv3_0 : (w4).cell? ⟨qv3, 0, none⟩ = some (.slice none 0 0) := (cell_of HBv3_4.out 0).trans rfl
  have fcv3_0 : (w4).frozen? ⟨qv3, 0, none⟩ = false := frozen_of HBv3_4.out 0
  have cv3_1 : (w4).cell? ⟨qv3, 1, none⟩ = some (.slice none 0 0) := (cell_of HBv3_4.out 1).trans rfl
  have fcv3_1 : (w4).frozen? ⟨qv3, 1, none⟩ = false := frozen_of HBv3_4.out 1
  go_upto_region 3 with fail
  obtain ⟨w5, hW5⟩ : ∃ W, W = (w4).setCell ⟨qv3, 0, none⟩ (.slice oC n1 pC) := ⟨_, rfl⟩
  rw [← hW5]
  have hb5 : Below w.heap.size w (w5) := by rw [hW5]; exact (hb4.setCell (p := ⟨qv3, 0, none⟩) HGv3.out _)
  have HBv1_5 : Hid ((w5).heap[qv1]? = some (.cells #[.slice a1 n1 c1, .slice a2 n2 c2, .slice a3 n3 c3, .slice a4 n4 c4, .int .i64 nx, .int .i64 sq] 29)) := by show _ = _; rw [hW5, heap_setCell_other _ _ _ _ HNv1v3.out]; exact HBv1_4.out
  have HBv2_5 : Hid ((w5).heap[qv2]? = some (.cells #[.slice none 0 0, .slice none 0 0, .slice none 0 0, .slice none 0 0, .int .i64 0, .int .i64 0] 47)) := by show _ = _; rw [hW5, heap_setCell_other _ _ _ _ HNv2v3.out]; exact HBv2_4.out
  have ER_5 : Hid (RowsO (w5) w.heap.size ([(⟨9, 1, (.slice oC n1 pC), n1, cs.map Value.string⟩ : Rw), (⟨184, 2, (.slice oP n2 pP), n2, flatWrite ws⟩ : Rw)])) := by show RowsO _ _ _; rw [hW5]; exact RowsO.other ER_4.out HBv3_4.out HT0.out
  have HBv3_5 : Hid ((w5).heap[qv3]? = some (.cells #[.slice oC n1 pC, .slice none 0 0, .slice none 0 0, .slice none 0 0, .int .i64 0, .int .i64 0] 47)) := by show _ = _; rw [hW5]; have h := heap_set _ _ 0 _ _ _ (.slice oC n1 pC) HBv3_4.out; simpa using h
  clear hb4 HBv1_4 HBv2_4 HBv3_4 ER_4 hW5
  obtain ⟨w6, hW6⟩ : ∃ W, W = (w5).setCell ⟨qv3, 1, none⟩ (.slice oP n2 pP) := ⟨_, rfl⟩
  rw [← hW6]
  have hb6 : Below w.heap.size w (w6) := by rw [hW6]; exact (hb5.setCell (p := ⟨qv3, 1, none⟩) HGv3.out _)
  have HBv1_6 : Hid ((w6).heap[qv1]? = some (.cells #[.slice a1 n1 c1, .slice a2 n2 c2, .slice a3 n3 c3, .slice a4 n4 c4, .int .i64 nx, .int .i64 sq] 29)) := by show _ = _; rw [hW6, heap_setCell_other _ _ _ _ HNv1v3.out]; exact HBv1_5.out
  have HBv2_6 : Hid ((w6).heap[qv2]? = some (.cells #[.slice none 0 0, .slice none 0 0, .slice none 0 0, .slice none 0 0, .int .i64 0, .int .i64 0] 47)) := by show _ = _; rw [hW6, heap_setCell_other _ _ _ _ HNv2v3.out]; exact HBv2_5.out
  have ER_6 : Hid (RowsO (w6) w.heap.size ([(⟨9, 1, (.slice oC n1 pC), n1, cs.map Value.string⟩ : Rw), (⟨184, 2, (.slice oP n2 pP), n2, flatWrite ws⟩ : Rw)])) := by show RowsO _ _ _; rw [hW6]; exact RowsO.other ER_5.out HBv3_5.out HT0.out
  have HBv3_6 : Hid ((w6).heap[qv3]? = some (.cells #[.slice oC n1 pC, .slice oP n2 pP, .slice none 0 0, .slice none 0 0, .int .i64 0, .int .i64 0] 47)) := by show _ = _; rw [hW6]; have h := heap_set _ _ 1 _ _ _ (.slice oP n2 pP) HBv3_5.out; simpa using h
  clear hb5 HBv1_5 HBv2_5 HBv3_5 ER_5 hW6
  clear cv3_0 fcv3_0 cv3_1 fcv3_1
  have cv1_2 : (w6).cell? ⟨qv1, 2, none⟩ = some (.slice a3 n3 c3) := (cell_of HBv1_6.out 2).trans rfl
  go_wp2_with fail
  refine (toKeptS_any B a3 n3 c3 ks _ (HA3.out _ hb6) (HBB.out _ hb6) HN.out.2.2.1 HSM.out).mono ?_
  rintro e w7 ⟨VK, kv, rfl, hkm, hko, bw⟩
  have HKM : Hid (kv.map (·.1) = ks) := hkm
  obtain ⟨oK, pK, hVK⟩ := hko.len
  rw [show kv.length = n3 from by rw [← HL.out.2.2.1, ← hkm, List.length_map]] at hVK
  subst hVK
  have HRN1 : Hid (RowsO w7 w.heap.size ([(⟨9, 1, (.slice oC n1 pC), n1, cs.map Value.string⟩ : Rw), (⟨184, 2, (.slice oP n2 pP), n2, flatWrite ws⟩ : Rw)] ++ kpAll (.slice oK n3 pK) kv)) := ER_6.out.more bw hko (Nat.le_refl _) hb6.size
  have HT1 : Hid (∀ r ∈ ([(⟨9, 1, (.slice oC n1 pC), n1, cs.map Value.string⟩ : Rw), (⟨184, 2, (.slice oP n2 pP), n2, flatWrite ws⟩ : Rw)] ++ kpAll (.slice oK n3 pK) kv), 47 ≠ r.T) := by
    intro r hr
    rcases List.mem_append.1 hr with hr | hr
    · exact HT0.out r hr
    · rcases kpAll_T hr with e | e | e <;> rw [e] <;> decide
  clear hkm hko
  have hb7 : Below w.heap.size w (w7) := hb6.trans (bw.mono hb6.size)
  have HBv1_7 : Hid ((w7).heap[qv1]? = some (.cells #[.slice a1 n1 c1, .slice a2 n2 c2, .slice a3 n3 c3, .slice a4 n4 c4, .int .i64 nx, .int .i64 sq] 29)) := blk_below HBv1_6.out bw
  have HBv2_7 : Hid ((w7).heap[qv2]? = some (.cells #[.slice none 0 0, .slice none 0 0, .slice none 0 0, .slice none 0 0, .int .i64 0, .int .i64 0] 47)) := blk_below HBv2_6.out bw
  have HBv3_7 : Hid ((w7).heap[qv3]? = some (.cells #[.slice oC n1 pC, .slice oP n2 pP, .slice none 0 0, .slice none 0 0, .int .i64 0, .int .i64 0] 47)) := blk_below HBv3_6.out bw
  have ER_7 : Hid (RowsO (w7) w.heap.size ([(⟨9, 1, (.slice oC n1 pC), n1, cs.map Value.string⟩ : Rw), (⟨184, 2, (.slice oP n2 pP), n2, flatWrite ws⟩ : Rw)])) := ER_6.out.below bw
  clear hb6 HBv1_6 HBv2_6 HBv3_6 ER_6 bw
  clear ER_7
  have ER_7 : Hid (RowsO (w7) w.heap.size ([(⟨9, 1, (.slice oC n1 pC), n1, cs.map Value.string⟩ : Rw), (⟨184, 2, (.slice oP n2 pP), n2, flatWrite ws⟩ : Rw)] ++ kpAll (.slice oK n3 pK) kv)) := HRN1.out
  clear HRN1
  clear cv1_2
  have cv3_2 : (w7).cell? ⟨qv3, 2, none⟩ = some (.slice none 0 0) := (cell_of HBv3_7.out 2).trans rfl
  have fcv3_2 : (w7).frozen? ⟨qv3, 2, none⟩ = false := frozen_of HBv3_7.out 2
  go_upto_region 4 with fail
  obtain ⟨w8, hW8⟩ : ∃ W, W = (w7).setCell ⟨qv3, 2, none⟩ (.slice oK n3 pK) := ⟨_, rfl⟩
  rw [← hW8]
  have hb8 : Below w.heap.size w (w8) := by rw [hW8]; exact (hb7.setCell (p := ⟨qv3, 2, none⟩) HGv3.out _)
  have HBv1_8 : Hid ((w8).heap[qv1]? = some (.cells #[.slice a1 n1 c1, .slice a2 n2 c2, .slice a3 n3 c3, .slice a4 n4 c4, .int .i64 nx, .int .i64 sq] 29)) := by show _ = _; rw [hW8, heap_setCell_other _ _ _ _ HNv1v3.out]; exact HBv1_7.out
  have HBv2_8 : Hid ((w8).heap[qv2]? = some (.cells #[.slice none 0 0, .slice none 0 0, .slice none 0 0, .slice none 0 0, .int .i64 0, .int .i64 0] 47)) := by show _ = _; rw [hW8, heap_setCell_other _ _ _ _ HNv2v3.out]; exact HBv2_7.out
  have ER_8 : Hid (RowsO (w8) w.heap.size ([(⟨9, 1, (.slice oC n1 pC), n1, cs.map Value.string⟩ : Rw), (⟨184, 2, (.slice oP n2 pP), n2, flatWrite ws⟩ : Rw)] ++ kpAll (.slice oK n3 pK) kv)) := by show RowsO _ _ _; rw [hW8]; exact RowsO.other ER_7.out HBv3_7.out HT1.out
  have HBv3_8 : Hid ((w8).heap[qv3]? = some (.cells #[.slice oC n1 pC, .slice oP n2 pP, .slice oK n3 pK, .slice none 0 0, .int .i64 0, .int .i64 0] 47)) := by show _ = _; rw [hW8]; have h := heap_set _ _ 2 _ _ _ (.slice oK n3 pK) HBv3_7.out; simpa using h
  clear hb7 HBv1_7 HBv2_7 HBv3_7 ER_7 hW8
  clear cv3_2 fcv3_2
  have cv1_3 : (w8).cell? ⟨qv1, 3, none⟩ = some (.slice a4 n4 c4) := (cell_of HBv1_8.out 3).trans rfl
  go_wp2_with fail
  refine (toBanS_any B a4 n4 c4 bl _ (HA4.out _ hb8) (HBB.out _ hb8) HN.out.2.2.2).mono ?_
  rintro e w9 ⟨vb, rfl, hbo, bw⟩
  obtain ⟨oB, pB, rfl⟩ := slice_of_owns hbo
  have HRN2 : Hid (RowsO w9 w.heap.size (([(⟨9, 1, (.slice oC n1 pC), n1, cs.map Value.string⟩ : Rw), (⟨184, 2, (.slice oP n2 pP), n2, flatWrite ws⟩ : Rw)] ++ kpAll (.slice oK n3 pK) kv) ++ [(⟨163, 4, (.slice oB n4 pB), n4, flatBan bl⟩ : Rw)])) := ER_8.out.more bw (RowsO.one (r := (⟨163, 4, (.slice oB n4 pB), n4, flatBan bl⟩ : Rw)) hbo) (Nat.le_refl _) hb8.size
  have HT2 : Hid (∀ r ∈ (([(⟨9, 1, (.slice oC n1 pC), n1, cs.map Value.string⟩ : Rw), (⟨184, 2, (.slice oP n2 pP), n2, flatWrite ws⟩ : Rw)] ++ kpAll (.slice oK n3 pK) kv) ++ [(⟨163, 4, (.slice oB n4 pB), n4, flatBan bl⟩ : Rw)]), 47 ≠ r.T) := by
    intro r hr
    rcases List.mem_append.1 hr with hr | hr
    · exact HT1.out r hr
    · rw [List.mem_singleton.1 hr]
      exact (by decide : (47 : TypeId) ≠ 163)
  clear hbo
  have hb9 : Below w.heap.size w (w9) := hb8.trans (bw.mono hb8.size)
  have HBv1_9 : Hid ((w9).heap[qv1]? = some (.cells #[.slice a1 n1 c1, .slice a2 n2 c2, .slice a3 n3 c3, .slice a4 n4 c4, .int .i64 nx, .int .i64 sq] 29)) := blk_below HBv1_8.out bw
  have HBv2_9 : Hid ((w9).heap[qv2]? = some (.cells #[.slice none 0 0, .slice none 0 0, .slice none 0 0, .slice none 0 0, .int .i64 0, .int .i64 0] 47)) := blk_below HBv2_8.out bw
  have HBv3_9 : Hid ((w9).heap[qv3]? = some (.cells #[.slice oC n1 pC, .slice oP n2 pP, .slice oK n3 pK, .slice none 0 0, .int .i64 0, .int .i64 0] 47)) := blk_below HBv3_8.out bw
  have ER_9 : Hid (RowsO (w9) w.heap.size ([(⟨9, 1, (.slice oC n1 pC), n1, cs.map Value.string⟩ : Rw), (⟨184, 2, (.slice oP n2 pP), n2, flatWrite ws⟩ : Rw)] ++ kpAll (.slice oK n3 pK) kv)) := ER_8.out.below bw
  clear hb8 HBv1_8 HBv2_8 HBv3_8 ER_8 bw
  clear ER_9
  have ER_9 : Hid (RowsO (w9) w.heap.size (([(⟨9, 1, (.slice oC n1 pC), n1, cs.map Value.string⟩ : Rw), (⟨184, 2, (.slice oP n2 pP), n2, flatWrite ws⟩ : Rw)] ++ kpAll (.slice oK n3 pK) kv) ++ [(⟨163, 4, (.slice oB n4 pB), n4, flatBan bl⟩ : Rw)])) := HRN2.out
  clear HRN2
  clear cv1_3
  have cv3_3 : (w9).cell? ⟨qv3, 3, none⟩ = some (.slice none 0 0) := (cell_of HBv3_9.out 3).trans rfl
  have fcv3_3 : (w9).frozen? ⟨qv3, 3, none⟩ = false := frozen_of HBv3_9.out 3
  go_upto_region 5 with fail
  obtain ⟨w10, hW10⟩ : ∃ W, W = (w9).setCell ⟨qv3, 3, none⟩ (.slice oB n4 pB) := ⟨_, rfl⟩
  rw [← hW10]
  have hb10 : Below w.heap.size w (w10) := by rw [hW10]; exact (hb9.setCell (p := ⟨qv3, 3, none⟩) HGv3.out _)
  have HBv1_10 : Hid ((w10).heap[qv1]? = some (.cells #[.slice a1 n1 c1, .slice a2 n2 c2, .slice a3 n3 c3, .slice a4 n4 c4, .int .i64 nx, .int .i64 sq] 29)) := by show _ = _; rw [hW10, heap_setCell_other _ _ _ _ HNv1v3.out]; exact HBv1_9.out
  have HBv2_10 : Hid ((w10).heap[qv2]? = some (.cells #[.slice none 0 0, .slice none 0 0, .slice none 0 0, .slice none 0 0, .int .i64 0, .int .i64 0] 47)) := by show _ = _; rw [hW10, heap_setCell_other _ _ _ _ HNv2v3.out]; exact HBv2_9.out
  have ER_10 : Hid (RowsO (w10) w.heap.size (([(⟨9, 1, (.slice oC n1 pC), n1, cs.map Value.string⟩ : Rw), (⟨184, 2, (.slice oP n2 pP), n2, flatWrite ws⟩ : Rw)] ++ kpAll (.slice oK n3 pK) kv) ++ [(⟨163, 4, (.slice oB n4 pB), n4, flatBan bl⟩ : Rw)])) := by show RowsO _ _ _; rw [hW10]; exact RowsO.other ER_9.out HBv3_9.out HT2.out
  have HBv3_10 : Hid ((w10).heap[qv3]? = some (.cells #[.slice oC n1 pC, .slice oP n2 pP, .slice oK n3 pK, .slice oB n4 pB, .int .i64 0, .int .i64 0] 47)) := by show _ = _; rw [hW10]; have h := heap_set _ _ 3 _ _ _ (.slice oB n4 pB) HBv3_9.out; simpa using h
  clear hb9 HBv1_9 HBv2_9 HBv3_9 ER_9 hW10
  clear cv3_3 fcv3_3
  have cv1_4 : (w10).cell? ⟨qv1, 4, none⟩ = some (.int .i64 nx) := (cell_of HBv1_10.out 4).trans rfl
  have cv3_4 : (w10).cell? ⟨qv3, 4, none⟩ = some (.int .i64 0) := (cell_of HBv3_10.out 4).trans rfl
  have fcv3_4 : (w10).frozen? ⟨qv3, 4, none⟩ = false := frozen_of HBv3_10.out 4
  go_upto_region 6 with fail
  obtain ⟨w11, hW11⟩ : ∃ W, W = (w10).setCell ⟨qv3, 4, none⟩ (.int .i64 nx) := ⟨_, rfl⟩
  rw [← hW11]
  have hb11 : Below w.heap.size w (w11) := by rw [hW11]; exact (hb10.setCell (p := ⟨qv3, 4, none⟩) HGv3.out _)
  have HBv1_11 : Hid ((w11).heap[qv1]? = some (.cells #[.slice a1 n1 c1, .slice a2 n2 c2, .slice a3 n3 c3, .slice a4 n4 c4, .int .i64 nx, .int .i64 sq] 29)) := by show _ = _; rw [hW11, heap_setCell_other _ _ _ _ HNv1v3.out]; exact HBv1_10.out
  have HBv2_11 : Hid ((w11).heap[qv2]? = some (.cells #[.slice none 0 0, .slice none 0 0, .slice none 0 0, .slice none 0 0, .int .i64 0, .int .i64 0] 47)) := by show _ = _; rw [hW11, heap_setCell_other _ _ _ _ HNv2v3.out]; exact HBv2_10.out
  have ER_11 : Hid (RowsO (w11) w.heap.size (([(⟨9, 1, (.slice oC n1 pC), n1, cs.map Value.string⟩ : Rw), (⟨184, 2, (.slice oP n2 pP), n2, flatWrite ws⟩ : Rw)] ++ kpAll (.slice oK n3 pK) kv) ++ [(⟨163, 4, (.slice oB n4 pB), n4, flatBan bl⟩ : Rw)])) := by show RowsO _ _ _; rw [hW11]; exact RowsO.other ER_10.out HBv3_10.out HT2.out
  have HBv3_11 : Hid ((w11).heap[qv3]? = some (.cells #[.slice oC n1 pC, .slice oP n2 pP, .slice oK n3 pK, .slice oB n4 pB, .int .i64 nx, .int .i64 0] 47)) := by show _ = _; rw [hW11]; have h := heap_set _ _ 4 _ _ _ (.int .i64 nx) HBv3_10.out; simpa using h
  clear hb10 HBv1_10 HBv2_10 HBv3_10 ER_10 hW11
  clear cv1_4 cv3_4 fcv3_4
  have cv1_5 : (w11).cell? ⟨qv1, 5, none⟩ = some (.int .i64 sq) := (cell_of HBv1_11.out 5).trans rfl
  have cv3_5 : (w11).cell? ⟨qv3, 5, none⟩ = some (.int .i64 0) := (cell_of HBv3_11.out 5).trans rfl
  have fcv3_5 : (w11).frozen? ⟨qv3, 5, none⟩ = false := frozen_of HBv3_11.out 5
  go_upto_region 7 with fail
  obtain ⟨w12, hW12⟩ : ∃ W, W = (w11).setCell ⟨qv3, 5, none⟩ (.int .i64 sq) := ⟨_, rfl⟩
  rw [← hW12]
  have hb12 : Below w.heap.size w (w12) := by rw [hW12]; exact (hb11.setCell (p := ⟨qv3, 5, none⟩) HGv3.out _)
  have HBv1_12 : Hid ((w12).heap[qv1]? = some (.cells #[.slice a1 n1 c1, .slice a2 n2 c2, .slice a3 n3 c3, .slice a4 n4 c4, .int .i64 nx, .int .i64 sq] 29)) := by show _ = _; rw [hW12, heap_setCell_other _ _ _ _ HNv1v3.out]; exact HBv1_11.out
  have HBv2_12 : Hid ((w12).heap[qv2]? = some (.cells #[.slice none 0 0, .slice none 0 0, .slice none 0 0, .slice none 0 0, .int .i64 0, .int .i64 0] 47)) := by show _ = _; rw [hW12, heap_setCell_other _ _ _ _ HNv2v3.out]; exact HBv2_11.out
  have ER_12 : Hid (RowsO (w12) w.heap.size (([(⟨9, 1, (.slice oC n1 pC), n1, cs.map Value.string⟩ : Rw), (⟨184, 2, (.slice oP n2 pP), n2, flatWrite ws⟩ : Rw)] ++ kpAll (.slice oK n3 pK) kv) ++ [(⟨163, 4, (.slice oB n4 pB), n4, flatBan bl⟩ : Rw)])) := by show RowsO _ _ _; rw [hW12]; exact RowsO.other ER_11.out HBv3_11.out HT2.out
  have HBv3_12 : Hid ((w12).heap[qv3]? = some (.cells #[.slice oC n1 pC, .slice oP n2 pP, .slice oK n3 pK, .slice oB n4 pB, .int .i64 nx, .int .i64 sq] 47)) := by show _ = _; rw [hW12]; have h := heap_set _ _ 5 _ _ _ (.int .i64 sq) HBv3_11.out; simpa using h
  clear hb11 HBv1_11 HBv2_11 HBv3_11 ER_11 hW12
  clear cv1_5 cv3_5 fcv3_5
  have cv2_0 : (w12).cell? ⟨qv2, 0, none⟩ = some (.slice none 0 0) := (cell_of HBv2_12.out 0).trans rfl
  have fcv2_0 : (w12).frozen? ⟨qv2, 0, none⟩ = false := frozen_of HBv2_12.out 0
  have cv2_1 : (w12).cell? ⟨qv2, 1, none⟩ = some (.slice none 0 0) := (cell_of HBv2_12.out 1).trans rfl
  have fcv2_1 : (w12).frozen? ⟨qv2, 1, none⟩ = false := frozen_of HBv2_12.out 1
  have cv2_2 : (w12).cell? ⟨qv2, 2, none⟩ = some (.slice none 0 0) := (cell_of HBv2_12.out 2).trans rfl
  have fcv2_2 : (w12).frozen? ⟨qv2, 2, none⟩ = false := frozen_of HBv2_12.out 2
  have cv2_3 : (w12).cell? ⟨qv2, 3, none⟩ = some (.slice none 0 0) := (cell_of HBv2_12.out 3).trans rfl
  have fcv2_3 : (w12).frozen? ⟨qv2, 3, none⟩ = false := frozen_of HBv2_12.out 3
  have cv2_4 : (w12).cell? ⟨qv2, 4, none⟩ = some (.int .i64 0) := (cell_of HBv2_12.out 4).trans rfl
  have fcv2_4 : (w12).frozen? ⟨qv2, 4, none⟩ = false := frozen_of HBv2_12.out 4
  have cv2_5 : (w12).cell? ⟨qv2, 5, none⟩ = some (.int .i64 0) := (cell_of HBv2_12.out 5).trans rfl
  have fcv2_5 : (w12).frozen? ⟨qv2, 5, none⟩ = false := frozen_of HBv2_12.out 5
  have cv3_0 : (w12).cell? ⟨qv3, 0, none⟩ = some (.slice oC n1 pC) := (cell_of HBv3_12.out 0).trans rfl
  have cv3_1 : (w12).cell? ⟨qv3, 1, none⟩ = some (.slice oP n2 pP) := (cell_of HBv3_12.out 1).trans rfl
  have cv3_2 : (w12).cell? ⟨qv3, 2, none⟩ = some (.slice oK n3 pK) := (cell_of HBv3_12.out 2).trans rfl
  have cv3_3 : (w12).cell? ⟨qv3, 3, none⟩ = some (.slice oB n4 pB) := (cell_of HBv3_12.out 3).trans rfl
  have cv3_4 : (w12).cell? ⟨qv3, 4, none⟩ = some (.int .i64 nx) := (cell_of HBv3_12.out 4).trans rfl
  have cv3_5 : (w12).cell? ⟨qv3, 5, none⟩ = some (.int .i64 sq) := (cell_of HBv3_12.out 5).trans rfl
  go_wp2_with fail
  obtain ⟨w13, hW13⟩ : ∃ W, W = (w12).setCell ⟨qv2, 0, none⟩ (.slice oC n1 pC) := ⟨_, rfl⟩
  rw [← hW13]
  have hb13 : Below w.heap.size w (w13) := by rw [hW13]; exact (hb12.setCell (p := ⟨qv2, 0, none⟩) HGv2.out _)
  have HBv1_13 : Hid ((w13).heap[qv1]? = some (.cells #[.slice a1 n1 c1, .slice a2 n2 c2, .slice a3 n3 c3, .slice a4 n4 c4, .int .i64 nx, .int .i64 sq] 29)) := by show _ = _; rw [hW13, heap_setCell_other _ _ _ _ HNv1v2.out]; exact HBv1_12.out
  have HBv3_13 : Hid ((w13).heap[qv3]? = some (.cells #[.slice oC n1 pC, .slice oP n2 pP, .slice oK n3 pK, .slice oB n4 pB, .int .i64 nx, .int .i64 sq] 47)) := by show _ = _; rw [hW13, heap_setCell_other _ _ _ _ HNv2v3.out.symm]; exact HBv3_12.out
  have ER_13 : Hid (RowsO (w13) w.heap.size (([(⟨9, 1, (.slice oC n1 pC), n1, cs.map Value.string⟩ : Rw), (⟨184, 2, (.slice oP n2 pP), n2, flatWrite ws⟩ : Rw)] ++ kpAll (.slice oK n3 pK) kv) ++ [(⟨163, 4, (.slice oB n4 pB), n4, flatBan bl⟩ : Rw)])) := by show RowsO _ _ _; rw [hW13]; exact RowsO.other ER_12.out HBv2_12.out HT2.out
  have HBv2_13 : Hid ((w13).heap[qv2]? = some (.cells #[.slice oC n1 pC, .slice none 0 0, .slice none 0 0, .slice none 0 0, .int .i64 0, .int .i64 0] 47)) := by show _ = _; rw [hW13]; have h := heap_set _ _ 0 _ _ _ (.slice oC n1 pC) HBv2_12.out; simpa using h
  clear hb12 HBv1_12 HBv2_12 HBv3_12 ER_12 hW13
  obtain ⟨w14, hW14⟩ : ∃ W, W = (w13).setCell ⟨qv2, 1, none⟩ (.slice oP n2 pP) := ⟨_, rfl⟩
  rw [← hW14]
  have hb14 : Below w.heap.size w (w14) := by rw [hW14]; exact (hb13.setCell (p := ⟨qv2, 1, none⟩) HGv2.out _)
  have HBv1_14 : Hid ((w14).heap[qv1]? = some (.cells #[.slice a1 n1 c1, .slice a2 n2 c2, .slice a3 n3 c3, .slice a4 n4 c4, .int .i64 nx, .int .i64 sq] 29)) := by show _ = _; rw [hW14, heap_setCell_other _ _ _ _ HNv1v2.out]; exact HBv1_13.out
  have HBv3_14 : Hid ((w14).heap[qv3]? = some (.cells #[.slice oC n1 pC, .slice oP n2 pP, .slice oK n3 pK, .slice oB n4 pB, .int .i64 nx, .int .i64 sq] 47)) := by show _ = _; rw [hW14, heap_setCell_other _ _ _ _ HNv2v3.out.symm]; exact HBv3_13.out
  have ER_14 : Hid (RowsO (w14) w.heap.size (([(⟨9, 1, (.slice oC n1 pC), n1, cs.map Value.string⟩ : Rw), (⟨184, 2, (.slice oP n2 pP), n2, flatWrite ws⟩ : Rw)] ++ kpAll (.slice oK n3 pK) kv) ++ [(⟨163, 4, (.slice oB n4 pB), n4, flatBan bl⟩ : Rw)])) := by show RowsO _ _ _; rw [hW14]; exact RowsO.other ER_13.out HBv2_13.out HT2.out
  have HBv2_14 : Hid ((w14).heap[qv2]? = some (.cells #[.slice oC n1 pC, .slice oP n2 pP, .slice none 0 0, .slice none 0 0, .int .i64 0, .int .i64 0] 47)) := by show _ = _; rw [hW14]; have h := heap_set _ _ 1 _ _ _ (.slice oP n2 pP) HBv2_13.out; simpa using h
  clear hb13 HBv1_13 HBv2_13 HBv3_13 ER_13 hW14
  obtain ⟨w15, hW15⟩ : ∃ W, W = (w14).setCell ⟨qv2, 2, none⟩ (.slice oK n3 pK) := ⟨_, rfl⟩
  rw [← hW15]
  have hb15 : Below w.heap.size w (w15) := by rw [hW15]; exact (hb14.setCell (p := ⟨qv2, 2, none⟩) HGv2.out _)
  have HBv1_15 : Hid ((w15).heap[qv1]? = some (.cells #[.slice a1 n1 c1, .slice a2 n2 c2, .slice a3 n3 c3, .slice a4 n4 c4, .int .i64 nx, .int .i64 sq] 29)) := by show _ = _; rw [hW15, heap_setCell_other _ _ _ _ HNv1v2.out]; exact HBv1_14.out
  have HBv3_15 : Hid ((w15).heap[qv3]? = some (.cells #[.slice oC n1 pC, .slice oP n2 pP, .slice oK n3 pK, .slice oB n4 pB, .int .i64 nx, .int .i64 sq] 47)) := by show _ = _; rw [hW15, heap_setCell_other _ _ _ _ HNv2v3.out.symm]; exact HBv3_14.out
  have ER_15 : Hid (RowsO (w15) w.heap.size (([(⟨9, 1, (.slice oC n1 pC), n1, cs.map Value.string⟩ : Rw), (⟨184, 2, (.slice oP n2 pP), n2, flatWrite ws⟩ : Rw)] ++ kpAll (.slice oK n3 pK) kv) ++ [(⟨163, 4, (.slice oB n4 pB), n4, flatBan bl⟩ : Rw)])) := by show RowsO _ _ _; rw [hW15]; exact RowsO.other ER_14.out HBv2_14.out HT2.out
  have HBv2_15 : Hid ((w15).heap[qv2]? = some (.cells #[.slice oC n1 pC, .slice oP n2 pP, .slice oK n3 pK, .slice none 0 0, .int .i64 0, .int .i64 0] 47)) := by show _ = _; rw [hW15]; have h := heap_set _ _ 2 _ _ _ (.slice oK n3 pK) HBv2_14.out; simpa using h
  clear hb14 HBv1_14 HBv2_14 HBv3_14 ER_14 hW15
  obtain ⟨w16, hW16⟩ : ∃ W, W = (w15).setCell ⟨qv2, 3, none⟩ (.slice oB n4 pB) := ⟨_, rfl⟩
  rw [← hW16]
  have hb16 : Below w.heap.size w (w16) := by rw [hW16]; exact (hb15.setCell (p := ⟨qv2, 3, none⟩) HGv2.out _)
  have HBv1_16 : Hid ((w16).heap[qv1]? = some (.cells #[.slice a1 n1 c1, .slice a2 n2 c2, .slice a3 n3 c3, .slice a4 n4 c4, .int .i64 nx, .int .i64 sq] 29)) := by show _ = _; rw [hW16, heap_setCell_other _ _ _ _ HNv1v2.out]; exact HBv1_15.out
  have HBv3_16 : Hid ((w16).heap[qv3]? = some (.cells #[.slice oC n1 pC, .slice oP n2 pP, .slice oK n3 pK, .slice oB n4 pB, .int .i64 nx, .int .i64 sq] 47)) := by show _ = _; rw [hW16, heap_setCell_other _ _ _ _ HNv2v3.out.symm]; exact HBv3_15.out
  have ER_16 : Hid (RowsO (w16) w.heap.size (([(⟨9, 1, (.slice oC n1 pC), n1, cs.map Value.string⟩ : Rw), (⟨184, 2, (.slice oP n2 pP), n2, flatWrite ws⟩ : Rw)] ++ kpAll (.slice oK n3 pK) kv) ++ [(⟨163, 4, (.slice oB n4 pB), n4, flatBan bl⟩ : Rw)])) := by show RowsO _ _ _; rw [hW16]; exact RowsO.other ER_15.out HBv2_15.out HT2.out
  have HBv2_16 : Hid ((w16).heap[qv2]? = some (.cells #[.slice oC n1 pC, .slice oP n2 pP, .slice oK n3 pK, .slice oB n4 pB, .int .i64 0, .int .i64 0] 47)) := by show _ = _; rw [hW16]; have h := heap_set _ _ 3 _ _ _ (.slice oB n4 pB) HBv2_15.out; simpa using h
  clear hb15 HBv1_15 HBv2_15 HBv3_15 ER_15 hW16
  obtain ⟨w17, hW17⟩ : ∃ W, W = (w16).setCell ⟨qv2, 4, none⟩ (.int .i64 nx) := ⟨_, rfl⟩
  rw [← hW17]
  have hb17 : Below w.heap.size w (w17) := by rw [hW17]; exact (hb16.setCell (p := ⟨qv2, 4, none⟩) HGv2.out _)
  have HBv1_17 : Hid ((w17).heap[qv1]? = some (.cells #[.slice a1 n1 c1, .slice a2 n2 c2, .slice a3 n3 c3, .slice a4 n4 c4, .int .i64 nx, .int .i64 sq] 29)) := by show _ = _; rw [hW17, heap_setCell_other _ _ _ _ HNv1v2.out]; exact HBv1_16.out
  have HBv3_17 : Hid ((w17).heap[qv3]? = some (.cells #[.slice oC n1 pC, .slice oP n2 pP, .slice oK n3 pK, .slice oB n4 pB, .int .i64 nx, .int .i64 sq] 47)) := by show _ = _; rw [hW17, heap_setCell_other _ _ _ _ HNv2v3.out.symm]; exact HBv3_16.out
  have ER_17 : Hid (RowsO (w17) w.heap.size (([(⟨9, 1, (.slice oC n1 pC), n1, cs.map Value.string⟩ : Rw), (⟨184, 2, (.slice oP n2 pP), n2, flatWrite ws⟩ : Rw)] ++ kpAll (.slice oK n3 pK) kv) ++ [(⟨163, 4, (.slice oB n4 pB), n4, flatBan bl⟩ : Rw)])) := by show RowsO _ _ _; rw [hW17]; exact RowsO.other ER_16.out HBv2_16.out HT2.out
  have HBv2_17 : Hid ((w17).heap[qv2]? = some (.cells #[.slice oC n1 pC, .slice oP n2 pP, .slice oK n3 pK, .slice oB n4 pB, .int .i64 nx, .int .i64 0] 47)) := by show _ = _; rw [hW17]; have h := heap_set _ _ 4 _ _ _ (.int .i64 nx) HBv2_16.out; simpa using h
  clear hb16 HBv1_16 HBv2_16 HBv3_16 ER_16 hW17
  obtain ⟨w18, hW18⟩ : ∃ W, W = (w17).setCell ⟨qv2, 5, none⟩ (.int .i64 sq) := ⟨_, rfl⟩
  rw [← hW18]
  have hb18 : Below w.heap.size w (w18) := by rw [hW18]; exact (hb17.setCell (p := ⟨qv2, 5, none⟩) HGv2.out _)
  have HBv1_18 : Hid ((w18).heap[qv1]? = some (.cells #[.slice a1 n1 c1, .slice a2 n2 c2, .slice a3 n3 c3, .slice a4 n4 c4, .int .i64 nx, .int .i64 sq] 29)) := by show _ = _; rw [hW18, heap_setCell_other _ _ _ _ HNv1v2.out]; exact HBv1_17.out
  have HBv3_18 : Hid ((w18).heap[qv3]? = some (.cells #[.slice oC n1 pC, .slice oP n2 pP, .slice oK n3 pK, .slice oB n4 pB, .int .i64 nx, .int .i64 sq] 47)) := by show _ = _; rw [hW18, heap_setCell_other _ _ _ _ HNv2v3.out.symm]; exact HBv3_17.out
  have ER_18 : Hid (RowsO (w18) w.heap.size (([(⟨9, 1, (.slice oC n1 pC), n1, cs.map Value.string⟩ : Rw), (⟨184, 2, (.slice oP n2 pP), n2, flatWrite ws⟩ : Rw)] ++ kpAll (.slice oK n3 pK) kv) ++ [(⟨163, 4, (.slice oB n4 pB), n4, flatBan bl⟩ : Rw)])) := by show RowsO _ _ _; rw [hW18]; exact RowsO.other ER_17.out HBv2_17.out HT2.out
  have HBv2_18 : Hid ((w18).heap[qv2]? = some (.cells #[.slice oC n1 pC, .slice oP n2 pP, .slice oK n3 pK, .slice oB n4 pB, .int .i64 nx, .int .i64 sq] 47)) := by show _ = _; rw [hW18]; have h := heap_set _ _ 5 _ _ _ (.int .i64 sq) HBv2_17.out; simpa using h
  clear hb17 HBv1_17 HBv2_17 HBv3_17 ER_17 hW18
  have kv2_0 : (w18).cell? ⟨qv2, 0, none⟩ = some (.slice oC n1 pC) := (cell_of HBv2_18.out 0).trans rfl
  have kv2_1 : (w18).cell? ⟨qv2, 1, none⟩ = some (.slice oP n2 pP) := (cell_of HBv2_18.out 1).trans rfl
  have kv2_2 : (w18).cell? ⟨qv2, 2, none⟩ = some (.slice oK n3 pK) := (cell_of HBv2_18.out 2).trans rfl
  have kv2_3 : (w18).cell? ⟨qv2, 3, none⟩ = some (.slice oB n4 pB) := (cell_of HBv2_18.out 3).trans rfl
  have kv2_4 : (w18).cell? ⟨qv2, 4, none⟩ = some (.int .i64 nx) := (cell_of HBv2_18.out 4).trans rfl
  have kv2_5 : (w18).cell? ⟨qv2, 5, none⟩ = some (.int .i64 sq) := (cell_of HBv2_18.out 5).trans rfl
  refine bodyPost_ret (v := .agg #[.slice oC n1 pC, .slice oP n2 pP, .slice oK n3 pK, .slice oB n4 pB, .int .i64 nx, .int .i64 sq]) (by simp [results, Tryz.results18, go_sem, kv2_0, kv2_1, kv2_2, kv2_3, kv2_4, kv2_5]) rfl ?_
  refine ⟨.slice oC n1 pC, .slice oP n2 pP, .slice oK n3 pK, .slice oB n4 pB, kv, rfl, ⟨?_, HKM.out⟩, hb18⟩
  have h := ER_18.out
  unfold shAll
  rw [HL.out.1, HL.out.2.1, HL.out.2.2.2]
  exact h

end Go.Proofs.YtajccgffallajaaGreat
