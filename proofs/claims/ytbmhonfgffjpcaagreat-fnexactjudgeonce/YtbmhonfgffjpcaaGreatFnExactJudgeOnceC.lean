/- What the proof of FnExactJudgeOnce leans on: contracts of the program's and the specification's functions, and plain facts (part 3 of 11). -/
import Derived.Test.YtbmhonfgffjpcaaGreatFnExactJudgeOnceB
set_option maxHeartbeats 16000000
set_option maxRecDepth 100000
namespace Go.Proofs.YtbmhonfgffjpcaaGreat
open Go.RowKit
open Go.Lib hiding intOf
theorem toWrite_any (y0 : Int) (y1 : ByteArray) (w : World) :
  Calls Tryz.prog 130 #[.agg #[.int .i64 y0, .string y1]] w fun e w' => e = .returned (.agg #[.int .i64 y0, .string y1]) ∧ Below w.heap.size w w' := by
 have hb0 : Below w.heap.size w w := Below.refl _ _
 go_enter Tryz.func130, Tryz.ntmps130
 go_upto_region 1 with fail
 obtain ⟨qv1, hqv1⟩ := exq ((w).heap.size)
 obtain ⟨w1, hW1⟩ := exq ((w).alloc (.cells #[.int .i64 y0, .string y1] 197))
 have hz1 : (w).heap.size = qv1 := hqv1.symm
 first | rw [← hW1, ← hqv1] | rw [← hW1]
 have hs1 := hsa hW1 hz1
 have bw := bal hW1
 have hb1 := hbt hb0 bw
 have HBv1_1 := hnew hW1 hz1
 clear hb0 bw hW1 hz1
 obtain ⟨qv2, hqv2⟩ := exq (qv1 + 1)
 obtain ⟨w2, hW2⟩ := exq ((w1).alloc (.cells #[.int .i64 0, .string ⟨#[]⟩] 199))
 have hz2 : (w1).heap.size = qv2 := by rw [hqv2]; exact hs1
 first | rw [← hW2, ← hqv2] | rw [← hW2]
 have hs2 := hsa hW2 hz2
 have bw := bal hW2
 have hb2 := hbt hb1 bw
 have HBv1_2 := hblk HBv1_1 bw
 have HNv1v2 : Hid (qv1 ≠ qv2) := fun e => by have h1 := (Array.getElem?_eq_some_iff.1 HBv1_1.out).1; omega
 have HBv2_2 := hnew hW2 hz2
 have HGv2 := hge hz2 hb1
 clear hb1 HBv1_1 bw hW2 hz2
 clear hs2 hqv2 hs1 hqv1
 go_upto_region 2 with fail
 obtain ⟨qv3, hqv3⟩ := exq ((w2).heap.size)
 obtain ⟨w3, hW3⟩ := exq ((w2).alloc (.cells #[.int .i64 0, .string ⟨#[]⟩] 199))
 have hz3 : (w2).heap.size = qv3 := hqv3.symm
 first | rw [← hW3, ← hqv3] | rw [← hW3]
 have hs3 := hsa hW3 hz3
 have bw := bal hW3
 have hb3 := hbt hb2 bw
 have HBv1_3 := hblk HBv1_2 bw
 have HBv2_3 := hblk HBv2_2 bw
 have HNv1v3 : Hid (qv1 ≠ qv3) := fun e => by have h1 := (Array.getElem?_eq_some_iff.1 HBv1_2.out).1; omega
 have HNv2v3 : Hid (qv2 ≠ qv3) := fun e => by have h1 := (Array.getElem?_eq_some_iff.1 HBv2_2.out).1; omega
 have HBv3_3 := hnew hW3 hz3
 have HGv3 := hge hz3 hb2
 clear hb2 HBv1_2 HBv2_2 bw hW3 hz3
 clear hs3 hqv3
 have cv1_0 := (k2c HBv1_3).1
 have cv3_0 := (k2c HBv3_3).1
 have fcv3_0 := hfz HBv3_3 0
 go_upto_region 3 with fail
 obtain ⟨w4, hW4⟩ := exq ((w3).setCell ⟨qv3, 0, none⟩ (.int .i64 y0))
 rw [← hW4]
 have hb4 := hbS hW4 hb3 HGv3
 have HBv1_4 := hset hW4 HNv1v3.out HBv1_3
 have HBv2_4 := hset hW4 HNv2v3.out HBv2_3
 have HBv3_4 : Hid ((w4).heap[qv3]? = some (.cells #[.int .i64 y0, .string ⟨#[]⟩] 199)) := by show _ = _; rw [hW4]; have h := heap_set _ _ 0 _ _ _ (.int .i64 y0) HBv3_3.out; simpa using h
 clear hb3 HBv1_3 HBv2_3 HBv3_3 hW4
 clear cv1_0 cv3_0 fcv3_0
 have cv1_1 := (k2c HBv1_4).2
 have cv3_1 := (k2c HBv3_4).2
 have fcv3_1 := hfz HBv3_4 1
 go_upto_region 4 with fail
 obtain ⟨w5, hW5⟩ := exq ((w4).setCell ⟨qv3, 1, none⟩ (.string y1))
 rw [← hW5]
 have hb5 := hbS hW5 hb4 HGv3
 have HBv1_5 := hset hW5 HNv1v3.out HBv1_4
 have HBv2_5 := hset hW5 HNv2v3.out HBv2_4
 have HBv3_5 : Hid ((w5).heap[qv3]? = some (.cells #[.int .i64 y0, .string y1] 199)) := by show _ = _; rw [hW5]; have h := heap_set _ _ 1 _ _ _ (.string y1) HBv3_4.out; simpa using h
 clear hb4 HBv1_4 HBv2_4 HBv3_4 hW5
 clear cv1_1 cv3_1 fcv3_1
 have cv2_0 := (k2c HBv2_5).1
 have fcv2_0 := hfz HBv2_5 0
 have cv2_1 := (k2c HBv2_5).2
 have fcv2_1 := hfz HBv2_5 1
 have cv3_0 := (k2c HBv3_5).1
 have cv3_1 := (k2c HBv3_5).2
 go_wp2_with fail
 obtain ⟨w6, hW6⟩ := exq ((w5).setCell ⟨qv2, 0, none⟩ (.int .i64 y0))
 rw [← hW6]
 have hb6 := hbS hW6 hb5 HGv2
 have HBv1_6 := hset hW6 HNv1v2.out HBv1_5
 have HBv3_6 := hset hW6 HNv2v3.out.symm HBv3_5
 have HBv2_6 : Hid ((w6).heap[qv2]? = some (.cells #[.int .i64 y0, .string ⟨#[]⟩] 199)) := by show _ = _; rw [hW6]; have h := heap_set _ _ 0 _ _ _ (.int .i64 y0) HBv2_5.out; simpa using h
 clear hb5 HBv1_5 HBv2_5 HBv3_5 hW6
 obtain ⟨w7, hW7⟩ := exq ((w6).setCell ⟨qv2, 1, none⟩ (.string y1))
 rw [← hW7]
 have hb7 := hbS hW7 hb6 HGv2
 have HBv1_7 := hset hW7 HNv1v2.out HBv1_6
 have HBv3_7 := hset hW7 HNv2v3.out.symm HBv3_6
 have HBv2_7 : Hid ((w7).heap[qv2]? = some (.cells #[.int .i64 y0, .string y1] 199)) := by show _ = _; rw [hW7]; have h := heap_set _ _ 1 _ _ _ (.string y1) HBv2_6.out; simpa using h
 clear hb6 HBv1_6 HBv2_6 HBv3_6 hW7
 have kv2_0 := (k2c HBv2_7).1
 have kv2_1 := (k2c HBv2_7).2
 refine bodyPost_ret (v := .agg #[.int .i64 y0, .string y1]) (by simp [results, Tryz.results130, go_sem, kv2_0, kv2_1]) rfl ?_
 exact ⟨rfl, hb7⟩
/-- The measure: negative, or the room that is left of L. -/
def SzWrite (L : Int) (y1 : ByteArray) (w : World) (e : Ending) (w' : World) : Prop := ∃ r : Int, e = .returned (.int .i64 r) ∧ r ≤ L ∧ (0 ≤ r → y1.size ≤ 1048576) ∧ Below w.heap.size w w'
theorem szWrite_any (L : Int) (hL0 : 0 ≤ L) (hL1 : L ≤ 1048576) (y0 : Int) (y1 : ByteArray) (w : World) (hy1 : y1.size ≤ maxLen) :
  Calls Tryz.prog 128 #[.agg #[.int .i64 y0, .string y1], .int .i64 L] w fun e w' => SzWrite L y1 w e w' := by
 unfold maxLen at hy1
 have hb0 : Below w.heap.size w w := Below.refl _ _
 go_enter Tryz.func128, Tryz.ntmps128
 go_upto_region 1 with fail
 obtain ⟨qv1, hqv1⟩ := exq ((w).heap.size)
 obtain ⟨w1, hW1⟩ := exq ((w).alloc (.cells #[.int .i64 y0, .string y1] 197))
 have hz1 : (w).heap.size = qv1 := hqv1.symm
 first | rw [← hW1, ← hqv1] | rw [← hW1]
 have hs1 := hsa hW1 hz1
 have bw := bal hW1
 have hb1 := hbt hb0 bw
 have HBv1_1 := hnew hW1 hz1
 clear hb0 bw hW1 hz1
 clear hs1 hqv1
 have cv1_1 := (k2c HBv1_1).2
 by_cases hc1 : (L - (y1.size : Int)) < 0
 ·
  go_wp2_with fail
  go_ret
  exact ⟨-1, rfl, by omega, fun h => absurd h (by omega), hb1⟩
 ·
  go_wp2_with fail
  go_ret
  exact ⟨_, rfl, by omega, fun _ => (by omega), hb1⟩
theorem eqWrite_any (y0 : Int) (y1 : ByteArray) (w : World) :
  Calls Tryz.prog 142 #[.agg #[.int .i64 y0, .string y1], .agg #[.int .i64 y0, .string y1]] w fun e w' => e = .returned (.bool true) ∧ Below w.heap.size w w' := by
 have hhy0 : (y0 != y0) = false := by simp
 have hhy1 : (y1.toList != y1.toList) = false := by simp
 have hb0 : Below w.heap.size w w := Below.refl _ _
 go_enter Tryz.func142, Tryz.ntmps142
 go_upto_region 1 with fail
 obtain ⟨qv1, hqv1⟩ := exq ((w).heap.size)
 obtain ⟨w1, hW1⟩ := exq ((w).alloc (.cells #[.int .i64 y0, .string y1] 199))
 have hz1 : (w).heap.size = qv1 := hqv1.symm
 first | rw [← hW1, ← hqv1] | rw [← hW1]
 have hs1 := hsa hW1 hz1
 have bw := bal hW1
 have hb1 := hbt hb0 bw
 have HBv1_1 := hnew hW1 hz1
 clear hb0 bw hW1 hz1
 obtain ⟨qv2, hqv2⟩ := exq (qv1 + 1)
 obtain ⟨w2, hW2⟩ := exq ((w1).alloc (.cells #[.int .i64 y0, .string y1] 199))
 have hz2 : (w1).heap.size = qv2 := by rw [hqv2]; exact hs1
 first | rw [← hW2, ← hqv2] | rw [← hW2]
 have hs2 := hsa hW2 hz2
 have bw := bal hW2
 have hb2 := hbt hb1 bw
 have HBv1_2 := hblk HBv1_1 bw
 have HBv2_2 := hnew hW2 hz2
 clear hb1 HBv1_1 bw hW2 hz2
 clear hs2 hqv2 hs1 hqv1
 have cv1_0 := (k2c HBv1_2).1
 have cv2_0 := (k2c HBv2_2).1
 have cv1_1 := (k2c HBv1_2).2
 have cv2_1 := (k2c HBv2_2).2
 go_wp2_with fail
 go_ret
 exact ⟨rfl, hb2⟩
end Go.Proofs.YtbmhonfgffjpcaaGreat
namespace Go.Proofs.YtbmhonfgffjpcaaGreat
open Go.RowKit
open Go.Lib hiding intOf
theorem owns_some {w : World} {base : Nat} {t : TypeId} {size n cap : Nat} {oa : Option Addr} {xs : List Value} (h : w.ownsRow base t size (.slice oa n cap) n xs) (hn : 0 < n) : ∃ g, oa = some ⟨g, 0, none⟩ := by
 rcases h.2 with ⟨e, h0⟩ | ⟨g, cap', cur, e, _⟩
 · omega
 · cases e; exact ⟨g, rfl⟩
end Go.Proofs.YtbmhonfgffjpcaaGreat
namespace Go.Proofs.YtbmhonfgffjpcaaGreat
open Go.RowKit
open Go.Lib hiding intOf
/-- The i-th of a list. -/
def writeAt (l : List (Int × ByteArray)) (i : Nat) : (Int × ByteArray) := l.getD i (0, ⟨#[]⟩)
/-- Its cells. -/
def writeEnc (x : (Int × ByteArray)) : List Value := [.int .i64 x.1, .string x.2]
def flatWrite (l : List (Int × ByteArray)) : List Value := l.flatMap writeEnc
theorem flatWrite_len (l : List (Int × ByteArray)) : (flatWrite l).length = l.length * 2 := by
 induction l with
 | nil => rfl
 | cons f r ih => simp only [flatWrite, writeEnc, List.flatMap_cons, List.length_append, List.length_cons, List.length_nil] at ih ⊢; omega
theorem flatWrite_get : ∀ (l : List (Int × ByteArray)) (i : Nat), i < l.length → (flatWrite l)[i * 2]? = some (.int .i64 ((writeAt l i).1)) ∧ (flatWrite l)[i * 2 + 1]? = some (.string ((writeAt l i).2))
 | [], i, h => by simp at h
 | f :: r, 0, _ => by simp [flatWrite, writeEnc, writeAt]
 | f :: r, i + 1, h => by
  have ih := flatWrite_get r i (by simpa using h)
  have e : flatWrite (f :: r) = writeEnc f ++ flatWrite r := rfl
  have hl : (writeEnc f).length = 2 := rfl
  have h2 : writeAt (f :: r) (i + 1) = writeAt r i := by simp [writeAt]
  have key : ∀ j, (flatWrite (f :: r))[i * 2 + 2 + j]? = (flatWrite r)[i * 2 + j]? := fun j => by
   rw [e, List.getElem?_append_right (by rw [hl]; omega), hl]; congr 1; omega
  rw [h2]
  refine ⟨(by rw [show (i + 1) * 2 = i * 2 + 2 + 0 by omega, key]; exact ih.1), (by rw [show (i + 1) * 2 + 1 = i * 2 + 2 + 1 by omega, key]; exact ih.2)⟩
theorem writeAt_mem (l : List (Int × ByteArray)) (i : Nat) (h : i < l.length) : writeAt l i ∈ l := by
 unfold writeAt
 rw [List.getD_eq_getElem?_getD, List.getElem?_eq_getElem h]
 exact List.getElem_mem h
theorem take_writeAt (l : List (Int × ByteArray)) (i : Nat) (h : i < l.length) : l.take (i + 1) = l.take i ++ [writeAt l i] := by
 unfold writeAt
 rw [List.getD_eq_getElem?_getD, List.getElem?_eq_getElem h, List.take_succ_eq_append_getElem h]
 rfl
/-- A list that is read: its cells in a block that is there. -/
def WriteA (w : World) (oa : Option Addr) (n : Nat) (l : List (Int × ByteArray)) : Prop :=
 l.length = n ∧ ∀ i, i < n → ∃ g, oa = some ⟨g, 0, none⟩ ∧ g < w.heap.size ∧ w.cell? ⟨g, i * 2, none⟩ = some (.int .i64 ((writeAt l i).1)) ∧ w.cell? ⟨g, i * 2 + 1, none⟩ = some (.string ((writeAt l i).2))
theorem WriteA.below {w W : World} {oa : Option Addr} {n : Nat} {l : List (Int × ByteArray)} (h : WriteA w oa n l) (hb : Below w.heap.size w W) : WriteA W oa n l :=
 ⟨h.1, fun i hi => by
  obtain ⟨g, h1, h2, r0, r1⟩ := h.2 i hi
  exact ⟨g, h1, Nat.lt_of_lt_of_le h2 hb.size, by rw [hb.cell (p := ⟨g, i * 2, none⟩) h2]; exact r0, by rw [hb.cell (p := ⟨g, i * 2 + 1, none⟩) h2]; exact r1⟩⟩
/-- A list that came in, in blocks below B. -/
def ArgWrite (w : World) (B : Nat) (a : Option Addr) (n : Nat) (l : List (Int × ByteArray)) : Prop :=
 l.length = n ∧ ∀ i, i < n → ∃ b off, a = some ⟨b, off, none⟩ ∧ b < B ∧ w.cell? ⟨b, off + i * 2, none⟩ = some (.int .i64 ((writeAt l i).1)) ∧ w.cell? ⟨b, off + i * 2 + 1, none⟩ = some (.string ((writeAt l i).2))
theorem ArgWrite.below {w w' : World} {B : Nat} {a : Option Addr} {n : Nat} {l : List (Int × ByteArray)} (h : ArgWrite w B a n l) (hb : Below B w w') : ArgWrite w' B a n l :=
 ⟨h.1, fun i hi => by
  obtain ⟨b, off, h1, h2, r0, r1⟩ := h.2 i hi
  exact ⟨b, off, h1, h2, by rw [hb.cell (p := ⟨b, off + i * 2, none⟩) h2]; exact r0, by rw [hb.cell (p := ⟨b, off + i * 2 + 1, none⟩) h2]; exact r1⟩⟩
/-- The first k of a row of 2 n cells are told. -/
def PartWrite (w : World) (g n k : Nat) (l : List (Int × ByteArray)) : Prop :=
 ∃ cur, w.heap[g]? = some (.cells cur 199 (0, 0)) ∧ cur.size = n * 2 ∧ ∀ i, i < k → cur[i * 2]? = some (.int .i64 ((writeAt l i).1)) ∧ cur[i * 2 + 1]? = some (.string ((writeAt l i).2))
theorem PartWrite.below {w w' : World} {g n k B : Nat} {l : List (Int × ByteArray)} (h : PartWrite w g n k l) (hb : Below B w w') (hB : g < B) : PartWrite w' g n k l := by
 obtain ⟨cur, h1, h2⟩ := h
 exact ⟨cur, by rw [hb.block g hB]; exact h1, h2⟩
theorem PartWrite.lt {w : World} {g n k : Nat} {l : List (Int × ByteArray)} (h : PartWrite w g n k l) : g < w.heap.size := by
 obtain ⟨cur, h1, _⟩ := h
 exact (Array.getElem?_eq_some_iff.1 h1).1
theorem PartWrite.cell {w : World} {g n k : Nat} {l : List (Int × ByteArray)} (h : PartWrite w g n k l) (j : Nat) (hj : j < n * 2) : ∃ u, w.cell? ⟨g, j, none⟩ = some u := by
 obtain ⟨cur, h1, h2, _⟩ := h
 refine ⟨cur[j]'(by omega), ?_⟩
 simp only [World.cell?, h1]
 simp [show j < cur.size by omega]
theorem PartWrite.frozen {w : World} {g n k : Nat} {l : List (Int × ByteArray)} (h : PartWrite w g n k l) (j : Nat) : w.frozen? ⟨g, j, none⟩ = false := by
 obtain ⟨cur, h1, _⟩ := h
 simp [World.frozen?, h1]
theorem PartWrite.put {w : World} {g n k : Nat} {l : List (Int × ByteArray)} (h : PartWrite w g n k l) (hk : k < n) : PartWrite ((w.setCell ⟨g, k * 2, none⟩ (.int .i64 (writeAt l k).1)).setCell ⟨g, k * 2 + 1, none⟩ (.string (writeAt l k).2)) g n (k + 1) l := by
 obtain ⟨cur, h1, h2, h3⟩ := h
 refine ⟨_, heap_set _ g (k * 2 + 1) _ _ _ _ (heap_set _ g (k * 2) _ _ _ _ h1), by simpa using h2, ?_⟩
 intro i hi
 by_cases e : i = k
 ·
  subst e
  exact ⟨by rw [Array.getElem?_setIfInBounds_ne (by omega), Array.getElem?_setIfInBounds_self_of_lt (by first | omega | (simp; omega))], by rw [Array.getElem?_setIfInBounds_self_of_lt (by first | omega | (simp; omega))]⟩
 ·
  have := h3 i (by omega)
  exact ⟨by rw [Array.getElem?_setIfInBounds_ne (by omega), Array.getElem?_setIfInBounds_ne (by omega)]; exact this.1, by rw [Array.getElem?_setIfInBounds_ne (by omega), Array.getElem?_setIfInBounds_ne (by omega)]; exact this.2⟩
theorem PartWrite.owns {w : World} {g n : Nat} {l : List (Int × ByteArray)} (h : PartWrite w g n n l) (hl : l.length = n) (hm : n ≤ maxLen) {base : Nat} (hb : base ≤ g) : w.ownsRow base 199 2 (.slice (some ⟨g, 0, none⟩) n n) n (flatWrite l) := by
 obtain ⟨cur, hg, hs, hc⟩ := h
 refine ⟨by rw [flatWrite_len, hl], .inr ⟨g, n, cur, rfl, hb, hg, Nat.le_refl _, hm, hs, ?_⟩⟩
 apply List.ext_getElem?
 intro j
 rw [List.getElem?_take]
 by_cases hj : j < n * 2
 ·
  rw [if_pos hj]
  have hf := flatWrite_get l (j / 2) (by omega)
  have hcc := hc (j / 2) (by omega)
  have hr : j = (j / 2) * 2 ∨ j = (j / 2) * 2 + 1 := by omega
  rcases hr with e | e
  ·
   have e2 := hf.1
   have e3 := hcc.1
   rw [← e] at e2 e3
   rw [e2]; simpa using e3
  ·
   have e2 := hf.2
   have e3 := hcc.2
   rw [← e] at e2 e3
   rw [e2]; simpa using e3
 · rw [if_neg hj, List.getElem?_eq_none (by rw [flatWrite_len]; omega)]
/-- An owned list can be read. -/
theorem write_view {w : World} {base n cap : Nat} {oa : Option Addr} {l : List (Int × ByteArray)} (h : w.ownsRow base 199 2 (.slice oa n cap) n (flatWrite l)) : WriteA w oa n l := by
 obtain ⟨hl, hv⟩ := h
 rw [flatWrite_len] at hl
 refine ⟨by omega, fun i hi => ?_⟩
 rcases hv with ⟨e, h0⟩ | ⟨g, cap, cur, e, hb, hg, hn, hm, hcs, htk⟩
 · omega
 ·
  cases e
  have hf := flatWrite_get l i (by omega)
  rw [← htk] at hf
  simp only [List.getElem?_take] at hf
  rw [if_pos (by omega), if_pos (by omega)] at hf
  refine ⟨g, rfl, (Array.getElem?_eq_some_iff.1 hg).1, by simp only [World.cell?, hg]; simpa using hf.1, by simp only [World.cell?, hg]; simpa using hf.2⟩
theorem write_len {w : World} {base n : Nat} {v : Value} {l : List (Int × ByteArray)} (h : w.ownsRow base 199 2 v n (flatWrite l)) : l.length = n := by
 have := h.1
 rw [flatWrite_len] at this
 omega
theorem infoWrite : (Tryz.prog.info? 199).map (fun i => (i.zero, i.size, i.bytes)) = some (some (.agg #[.int .i64 0, .string ⟨#[]⟩]), 2, 24) := by kernel_rfl
/-- The measure is negative, or what is left of L. -/
def SzWriteR (L : Int) (n : Nat) (l : List (Int × ByteArray)) (w : World) (e : Ending) (w' : World) : Prop :=
 ∃ r : Int, e = .returned (.int .i64 r) ∧ r ≤ L ∧ (0 ≤ r → r + (n : Int) ≤ L ∧ n ≤ 1048576 ∧ ∀ x ∈ l, (x.2).size ≤ 1048576) ∧ Below w.heap.size w w'
theorem szWriteS_room (L : Int) (hL0 : 0 ≤ L) (hL1 : L ≤ 1048576) (B : Nat) (a : Option Addr) (n cap : Nat) (l : List (Int × ByteArray)) (w : World) (harg : ArgWrite w B a n l) (hB : B ≤ w.heap.size) (hn : n ≤ maxLen) (hsz : ∀ x ∈ l, (x.2).size ≤ maxLen) :
  Calls Tryz.prog 89 #[.slice a n cap, .int .i64 L] w fun e w' => SzWriteR L n l w e w' := by
 unfold maxLen at hn
 have HS : Hid (∀ x ∈ l, (x.2).size ≤ maxLen) := hsz
 have HLN : Hid (l.length = n) := harg.1
 have HA : Hid (∀ W, Below w.heap.size w W → ArgWrite W B a n l) := fun W h => harg.below (h.mono hB)
 clear hsz harg
 by_cases c1 : L - (n : Int) < 0
 ·
  go_enter Tryz.func89, Tryz.ntmps89
  go_wp2
  go_ret
  exact ⟨-1, rfl, by omega, fun h => absurd h (by omega), Below.refl _ _⟩
 ·
  go_enter Tryz.func89, Tryz.ntmps89
  go_wp2
  go_loopw [1, 5] (fun lf i wr => ∃ (k : Nat) (x : Int), k ≤ n ∧ i = .int .i64 (k : Int) ∧ lf = .int .i64 x ∧ 0 ≤ x ∧ x + (n : Int) ≤ L ∧ Hid (∀ x ∈ l.take k, (x.2).size ≤ 1048576) ∧ Hid (Below w.heap.size w wr)) (fun _ i _ => n - (intOf i).toNat)
  case atStart => exact ⟨0, _, Nat.zero_le _, rfl, rfl, by omega, by omega, fun x hx => by simp at hx, Below.refl _ _⟩
  case round =>
   obtain ⟨k, x, hk, rfl, rfl, hx0, hx1, HX, HBW⟩ := hrel
   by_cases hlt : k < n
   ·
    have hlt2 : (k : Int) < (n : Int) := by omega
    obtain ⟨b, off, rfl, hbB, r0, r1⟩ := (HA.out wr HBW.out).2 k hlt
    obtain ⟨y, hy⟩ := exq (writeAt l k)
    have HM : Hid (y ∈ l) := by show _ ∈ _; rw [hy]; exact writeAt_mem l k (by rw [HLN.out]; exact hlt)
    have HTK : Hid (l.take (k + 1) = l.take k ++ [y]) := by show _ = _; rw [hy]; exact take_writeAt l k (by rw [HLN.out]; exact hlt)
    have s1 := HS.out y HM.out
    rw [← hy] at r0 r1
    clear hy
    obtain ⟨y0, y1⟩ := y
    go_wp2_with fail
    refine (szWrite_any x hx0 (by omega) y0 y1 _ s1).mono ?_
    rintro e w1 ⟨r, rfl, hr1, hr2, bw⟩
    have HB2 : Hid (Below w.heap.size w w1) := HBW.out.trans (bw.mono HBW.out.size)
    clear r0 r1 bw
    by_cases d1 : r < 0
    ·
     clear hr2
     go_wp2
     go_ret
     exact ⟨-1, rfl, by omega, fun h => absurd h (by omega), HB2.out⟩
    ·
     have HX2 : Hid (∀ x ∈ l.take (k + 1), (x.2).size ≤ 1048576) := fun x hx => by
      rw [HTK.out] at hx
      rcases List.mem_append.1 hx with hx | hx
      · exact HX.out x hx
      · rw [List.mem_singleton.1 hx]; exact hr2 (by omega)
     clear hr2
     go_wp2
     go_roundw
     case rel => exact ⟨k + 1, r, by omega, by go_num, rfl, by omega, by omega, HX2, HB2⟩
     case measure => simp [intOf]; omega
   ·
    have HF : Hid (n ≤ 1048576 ∧ ∀ x ∈ l, (x.2).size ≤ 1048576) := ⟨by omega, fun x hx => HX.out x (by rw [List.take_of_length_le (by rw [HLN.out]; omega)]; exact hx)⟩
    go_wp2
    go_ret
    exact ⟨x, rfl, by omega, fun _ => ⟨by omega, HF.out⟩, HBW.out⟩
theorem toWriteS_any (B : Nat) (a : Option Addr) (n cap : Nat) (l : List (Int × ByteArray)) (w : World) (harg : ArgWrite w B a n l) (hB : B ≤ w.heap.size) (hn : n ≤ 1048576) :
  Calls Tryz.prog 95 #[.slice a n cap] w fun e w' => ∃ v, e = .returned v ∧ w'.ownsRow w.heap.size 199 2 v n (flatWrite l) ∧ Below w.heap.size w w' := by
 obtain ⟨i0, hi, hz0, hz1, hz2⟩ := info_parts infoWrite
 obtain ⟨M, hM⟩ : ∃ M, M = madeCells (Value.agg #[.int .i64 0, .string ⟨#[]⟩]).cells (((n : Nat) : Int).toNat * i0.size) := ⟨_, rfl⟩
 have hmk : ∀ W : World, (Instr.makeSlice 47 (.int .i64 (n : Int)) (.int .i64 (n : Int))).run Tryz.prog W = .ok (.slice (some ⟨W.heap.size, 0, none⟩) n n) (W.alloc (.cells M 199)) := fun W => by
  have h := run_make (P := Tryz.prog) W 47 199 i0 (.agg #[.int .i64 0, .string ⟨#[]⟩]) Tryz.underlying47 hi hz0 .i64 .i64 (n : Int) (n : Int) (by omega) (by omega) (by rw [hz2]; omega) (by omega)
  rw [← hM] at h
  simpa using h
 have hMs : M.size = n * 2 := by rw [hM, size_madeCells, hz1]; simp
 have HLN : Hid (l.length = n) := harg.1
 have HA : Hid (∀ W, Below w.heap.size w W → ArgWrite W B a n l) := fun W h => harg.below (h.mono hB)
 clear hM harg
 have HP : Hid (PartWrite (w.alloc (.cells M 199)) w.heap.size n 0 l) := ⟨M, heap_alloc_new w _, hMs, fun i h => absurd h (by omega)⟩
 go_enter Tryz.func95, Tryz.ntmps95
 go_wp2
 go_loopw [4] (fun i wr => ∃ k : Nat, k ≤ n ∧ i = .int .i64 (k : Int) ∧ Hid (PartWrite wr w.heap.size n k l) ∧ Hid (Below w.heap.size w wr)) (fun i _ => n - (intOf i).toNat)
 case atStart => exact ⟨0, Nat.zero_le _, rfl, HP, (Below.refl _ _).alloc (Nat.le_refl _) _⟩
 case round =>
  obtain ⟨k, hk, rfl, hpr, HBW⟩ := hrel
  by_cases hlt : k < n
  ·
   have hlt2 : (k : Int) < (n : Int) := by omega
   obtain ⟨b, off, rfl, hbB, r0, r1⟩ := (HA.out wr HBW.out).2 k hlt
   obtain ⟨y, hy⟩ := exq (writeAt l k)
   rw [← hy] at r0 r1
   have HY : Hid (writeAt l k = y) := hy.symm
   clear hy
   obtain ⟨y0, y1⟩ := y
   go_wp2_with fail
   refine (toWrite_any y0 y1 _).mono ?_
   rintro e w1 ⟨rfl, bw⟩
   have hpr1 := hpr.out.below bw hpr.out.lt
   have HB2 : Hid (Below w.heap.size w w1) := HBW.out.trans (bw.mono HBW.out.size)
   obtain ⟨u0, hu0⟩ := hpr1.cell (k * 2) (by omega)
   have f0 := hpr1.frozen (k * 2)
   obtain ⟨u1, hu1⟩ := hpr1.cell (k * 2 + 1) (by omega)
   have f1 := hpr1.frozen (k * 2 + 1)
   have hput := hpr1.put hlt
   rw [HY.out] at hput
   have HPUT : Hid _ := hput
   clear hput r0 r1 bw
   go_wp2
   go_roundw
   case rel => exact ⟨k + 1, by omega, by go_num, HPUT, (HB2.out.setCell (Nat.le_refl _) _).setCell (Nat.le_refl _) _⟩
   case measure => simp [intOf]; omega
  ·
   obtain rfl : k = n := by omega
   go_wp2
   go_ret
   exact ⟨_, rfl, hpr.out.owns HLN.out (by unfold maxLen; omega) (Nat.le_refl _), HBW.out⟩
theorem eqWriteS_any (o1 o2 : Option Addr) (n c1 c2 : Nat) (l : List (Int × ByteArray)) (w : World) (h1 : WriteA w o1 n l) (h2 : WriteA w o2 n l) (hn : n ≤ 2000000) :
  Calls Tryz.prog 108 #[.slice o1 n c1, .slice o2 n c2] w fun e w' => e = .returned (.bool true) ∧ Below w.heap.size w w' := by
 have H1 : Hid (∀ W, Below w.heap.size w W → WriteA W o1 n l) := fun W h => h1.below h
 have H2 : Hid (∀ W, Below w.heap.size w W → WriteA W o2 n l) := fun W h => h2.below h
 clear h1 h2
 go_enter Tryz.func108, Tryz.ntmps108
 go_wp2
 go_loopw [5] (fun i wr => ∃ k : Nat, k ≤ n ∧ i = .int .i64 (k : Int) ∧ Hid (Below w.heap.size w wr)) (fun i _ => n - (intOf i).toNat)
 case atStart => exact ⟨0, Nat.zero_le _, rfl, Below.refl _ _⟩
 case round =>
  obtain ⟨k, hk, rfl, HBW⟩ := hrel
  by_cases hlt : k < n
  ·
   have hlt2 : (k : Int) < (n : Int) := by omega
   obtain ⟨y, hy⟩ := exq (writeAt l k)
   obtain ⟨g1, rfl, hg1, a0, a1⟩ := (H1.out wr HBW.out).2 k hlt
   obtain ⟨g2, rfl, hg2, b0, b1⟩ := (H2.out wr HBW.out).2 k hlt
   rw [← hy] at a0 b0 a1 b1
   clear hy
   obtain ⟨y0, y1⟩ := y
   have HA : Hid (∀ w0 w1, Below wr.heap.size wr w0 → Below w0.heap.size w0 w1 → (w1.cell? ⟨g1, k * 2, none⟩ = some (.int .i64 y0) ∧ w1.cell? ⟨g1, k * 2 + 1, none⟩ = some (.string y1) ∧ w1.cell? ⟨g2, k * 2, none⟩ = some (.int .i64 y0) ∧ w1.cell? ⟨g2, k * 2 + 1, none⟩ = some (.string y1)) ∧ Below wr.heap.size wr w1) := fun w0 w1 h h' => by
    have hx := h.trans (h'.mono h.size)
    exact ⟨⟨by rw [hx.cell (p := ⟨g1, k * 2, none⟩) hg1]; exact a0, by rw [hx.cell (p := ⟨g1, k * 2 + 1, none⟩) hg1]; exact a1, by rw [hx.cell (p := ⟨g2, k * 2, none⟩) hg2]; exact b0, by rw [hx.cell (p := ⟨g2, k * 2 + 1, none⟩) hg2]; exact b1⟩, hx⟩
   go_wp2
   go_region_held3 (fun w' => w'.cell? ⟨g1, k * 2, none⟩ = some (.int .i64 y0) ∧ w'.cell? ⟨g1, k * 2 + 1, none⟩ = some (.string y1) ∧ w'.cell? ⟨g2, k * 2, none⟩ = some (.int .i64 y0) ∧ w'.cell? ⟨g2, k * 2 + 1, none⟩ = some (.string y1)) (first | assumption | go_keep) (first | (go_at_call 142; refine (eqWrite_any _ _ _).mono ?_; rintro e w1 ⟨rfl, hb1⟩; obtain ⟨hcc, hbx⟩ := HA.out _ w1 ((Below.refl _ wr).drew) hb1))
   go_wp2
   go_roundw
   case rel => exact ⟨k + 1, by omega, by go_num, HBW.out.trans (hbx.mono HBW.out.size)⟩
   case measure => simp [intOf]; omega
  ·
   go_wp2
   go_ret
   exact ⟨rfl, HBW.out⟩
/-- A list among the arguments: what it holds. -/
theorem openWriteS {H : Type} {enc : TypeId × Value → H} {W : World} {fuel : Nat} {a : Option Addr} {n cap : Nat} {x : DataW H × List MemPlace} (h : DataW.trod enc Tryz.prog W 0 (fun _ => true) true fuel 23 [.slice a n cap] = some x) :
  ∃ l, ArgWrite W W.heap.size a n l ∧ n ≤ maxLen ∧ ∀ x ∈ l, (x.2).size ≤ maxLen := by
 rcases Go.Deep.open_slice Tryz.underlying23 h with ⟨hcs, _⟩ | ⟨ad, len, c, m, q, Dd, Pl, hcs, _, hl, hm, hmm, _, hx⟩
 ·
  simp at hcs
  obtain ⟨rfl, rfl, rfl⟩ := hcs
  exact ⟨[], ⟨rfl, fun i hi => absurd hi (by omega)⟩, Nat.zero_le _, fun x hx => by simp at hx⟩
 ·
  simp at hcs
  obtain ⟨rfl, rfl, rfl⟩ := hcs
  have hm2 : m = cap := by simpa using hmm
  have ce : Tryz.prog.cellsOf 197 = 2 := by kernel_rfl
  have ci : Tryz.prog.cellsOf 3 = 1 := by kernel_rfl
  have cs : Tryz.prog.cellsOf 9 = 1 := by kernel_rfl
  have each : ∀ i, i < n → ∃ y : (Int × ByteArray), (W.cell? (ad.add (i * 2 + 0)) = some (.int .i64 (y.1)) ∧ W.cell? (ad.add (i * 2 + 1)) = some (.string (y.2))) ∧ (y.2).size ≤ maxLen := by
   intro i hi
   obtain ⟨cs', h1, h2⟩ := hx i (by omega)
   rw [ce] at h1
   obtain ⟨_, hlen, hcell⟩ := World.cells?_some h1
   obtain ⟨xs, k, hk, hxy, _, hxl, hf⟩ := DataW.trod_struct Tryz.underlying197 h2
   match xs, hxl, cs', hlen with
   | [x0, x1], _, [v0, v1], _ =>
    have g0 := hf 0 _ rfl
    have g1 := hf 1 _ rfl
    simp [ci, cs] at g0 g1
    obtain ⟨s0, e0, _, _⟩ := DataW.trod_int Tryz.underlying3 g0
    obtain ⟨s1, e1, _, z1⟩ := DataW.trod_string Tryz.underlying9 g1
    simp only [List.cons.injEq, and_true] at e0 e1
    subst e0 e1
    have c0 := hcell 0 (by omega)
    have c1 := hcell 1 (by omega)
    rw [Go.Deep.add_add] at c0 c1
    exact ⟨(s0, s1), ⟨by simpa using c0, by simpa using c1⟩, z1⟩
  obtain ⟨q, hq⟩ := Go.Deep.choose_lt each
  have hat : ∀ i, i < n → writeAt ((List.range n).map q) i = q i := fun i hi => by
   unfold writeAt
   rw [List.getD_eq_getElem?_getD, List.getElem?_map, List.getElem?_range hi]
   rfl
  refine ⟨(List.range n).map q, ⟨by simp, fun i hi => ?_⟩, by omega, fun x hx => ?_⟩
  ·
   obtain ⟨c0, _⟩ := hq i hi
   obtain ⟨c3, _⟩ := hq 0 (by omega)
   have hsp : ad.spot = none := by
    have := World.cell?_spot c3.1
    simpa [Addr.add] using this
   clear c3
   obtain ⟨b, off, sp⟩ := ad
   simp only at hsp
   subst hsp
   simp only [addr_add] at c0
   rw [hat i hi]
   have hlt := World.block_lt_of_cell? W _ c0.1
   exact ⟨b, off, rfl, hlt, by simpa [Nat.add_assoc] using c0.1, by simpa [Nat.add_assoc] using c0.2⟩
  ·
   obtain ⟨i, hi, rfl⟩ := List.mem_map.1 hx
   exact (hq i (List.mem_range.1 hi)).2
end Go.Proofs.YtbmhonfgffjpcaaGreat
namespace Go.Proofs.YtbmhonfgffjpcaaGreat
open Go.RowKit
open Go.Lib hiding intOf
/-- A disk's two lists, in memory of one's own. -/
structure DiskO (W : World) (base : Nat) (v1 : Value) (n1 : Nat) (cs : List ByteArray) (v2 : Value) (n2 : Nat) (ws : List (Int × ByteArray)) : Prop where
 cells : W.ownsRow base 9 1 v1 n1 (cs.map Value.string)
 pend : W.ownsRow base 199 2 v2 n2 (flatWrite ws)
theorem toDisk_any (a1 : Option Addr) (n1 c1 : Nat) (cs : List ByteArray) (a2 : Option Addr) (n2 c2 : Nat) (ws : List (Int × ByteArray)) (B : Nat) (w : World) (h1 : ArgT w B a1 n1 cs) (h2 : ArgWrite w B a2 n2 ws) (hB : B ≤ w.heap.size) (hn1 : n1 ≤ 1048576) (hn2 : n2 ≤ 1048576) :
  Calls Tryz.prog 60 #[.agg #[.slice a1 n1 c1, .slice a2 n2 c2]] w fun e w' => ∃ v1 v2, e = .returned (.agg #[v1, v2]) ∧ DiskO w' w.heap.size v1 n1 cs v2 n2 ws ∧ Below w.heap.size w w' := by
 have HA1 : Hid (∀ W, Below w.heap.size w W → ArgT W B a1 n1 cs) := fun W h => h1.below (h.mono hB)
 have HA2 : Hid (∀ W, Below w.heap.size w W → ArgWrite W B a2 n2 ws) := fun W h => h2.below (h.mono hB)
 have HBB : Hid (∀ W, Below w.heap.size w W → B ≤ W.heap.size) := fun W h => Nat.le_trans hB h.size
 clear h1 h2 hB
 have hb0 : Below w.heap.size w w := Below.refl _ _
 go_enter Tryz.func60, Tryz.ntmps60
 go_upto_region 1 with fail
 obtain ⟨qv1, hqv1⟩ := exq ((w).heap.size)
 obtain ⟨w1, hW1⟩ := exq ((w).alloc (.cells #[.slice a1 n1 c1, .slice a2 n2 c2] 25))
 have hz1 : (w).heap.size = qv1 := hqv1.symm
 first | rw [← hW1, ← hqv1] | rw [← hW1]
 have hs1 := hsa hW1 hz1
 have bw := bal hW1
 have hb1 := hbt hb0 bw
 have HBv1_1 := hnew hW1 hz1
 clear hb0 bw hW1 hz1
 obtain ⟨qv2, hqv2⟩ := exq (qv1 + 1)
 obtain ⟨w2, hW2⟩ := exq ((w1).alloc (.cells #[.slice none 0 0, .slice none 0 0] 49))
 have hz2 : (w1).heap.size = qv2 := by rw [hqv2]; exact hs1
 first | rw [← hW2, ← hqv2] | rw [← hW2]
 have hs2 := hsa hW2 hz2
 have bw := bal hW2
 have hb2 := hbt hb1 bw
 have HBv1_2 := hblk HBv1_1 bw
 have HNv1v2 : Hid (qv1 ≠ qv2) := fun e => by have h1 := (Array.getElem?_eq_some_iff.1 HBv1_1.out).1; omega
 have HBv2_2 := hnew hW2 hz2
 have HGv2 := hge hz2 hb1
 clear hb1 HBv1_1 bw hW2 hz2
 clear hs2 hqv2 hs1 hqv1
 go_upto_region 2 with fail
 obtain ⟨qv3, hqv3⟩ := exq ((w2).heap.size)
 obtain ⟨w3, hW3⟩ := exq ((w2).alloc (.cells #[.slice none 0 0, .slice none 0 0] 49))
 have hz3 : (w2).heap.size = qv3 := hqv3.symm
 first | rw [← hW3, ← hqv3] | rw [← hW3]
 have hs3 := hsa hW3 hz3
 have bw := bal hW3
 have hb3 := hbt hb2 bw
 have HBv1_3 := hblk HBv1_2 bw
 have HBv2_3 := hblk HBv2_2 bw
 have HNv1v3 : Hid (qv1 ≠ qv3) := fun e => by have h1 := (Array.getElem?_eq_some_iff.1 HBv1_2.out).1; omega
 have HNv2v3 : Hid (qv2 ≠ qv3) := fun e => by have h1 := (Array.getElem?_eq_some_iff.1 HBv2_2.out).1; omega
 have HBv3_3 := hnew hW3 hz3
 have HGv3 := hge hz3 hb2
 clear hb2 HBv1_2 HBv2_2 bw hW3 hz3
 clear hs3 hqv3
 have cv1_0 := (k2c HBv1_3).1
 go_wp2_with fail
 refine (toStringS_any B a1 n1 c1 cs _ (HA1.out _ hb3) (HBB.out _ hb3) hn1).mono ?_
 rintro e w4 ⟨vv, rfl, ownC, bw⟩
 obtain ⟨oC, pC, rfl⟩ := slice_of_owns ownC
 have hb4 := hbt hb3 bw
 have HBv1_4 := hblk HBv1_3 bw
 have HBv2_4 := hblk HBv2_3 bw
 have HBv3_4 := hblk HBv3_3 bw
 have HOC_4 := hwd ownC hb3.size
 clear ownC
 clear hb3 HBv1_3 HBv2_3 HBv3_3 bw
 clear cv1_0
 have cv3_0 := (k2c HBv3_4).1
 have fcv3_0 := hfz HBv3_4 0
 go_upto_region 3 with fail
 obtain ⟨w5, hW5⟩ := exq ((w4).setCell ⟨qv3, 0, none⟩ (.slice oC n1 pC))
 rw [← hW5]
 have hb5 := hbS hW5 hb4 HGv3
 have HOC_5 := hsetR hW5 (own_ne HOC_4.out HBv3_4.out (by decide)) HOC_4
 have HBv1_5 := hset hW5 HNv1v3.out HBv1_4
 have HBv2_5 := hset hW5 HNv2v3.out HBv2_4
 have HBv3_5 : Hid ((w5).heap[qv3]? = some (.cells #[.slice oC n1 pC, .slice none 0 0] 49)) := by show _ = _; rw [hW5]; have h := heap_set _ _ 0 _ _ _ (.slice oC n1 pC) HBv3_4.out; simpa using h
 clear hb4 HOC_4 HBv1_4 HBv2_4 HBv3_4 hW5
 clear cv3_0 fcv3_0
 have cv1_1 := (k2c HBv1_5).2
 go_wp2_with fail
 refine (toWriteS_any B a2 n2 c2 ws _ (HA2.out _ hb5) (HBB.out _ hb5) hn2).mono ?_
 rintro e w6 ⟨vv, rfl, ownP, bw⟩
 obtain ⟨oP, pP, rfl⟩ := slice_of_owns ownP
 have hb6 := hbt hb5 bw
 have HOC_6 := hown HOC_5 bw
 have HBv1_6 := hblk HBv1_5 bw
 have HBv2_6 := hblk HBv2_5 bw
 have HBv3_6 := hblk HBv3_5 bw
 have HOP_6 := hwd ownP hb5.size
 clear ownP
 clear hb5 HOC_5 HBv1_5 HBv2_5 HBv3_5 bw
 clear cv1_1
 have cv3_1 := (k2c HBv3_6).2
 have fcv3_1 := hfz HBv3_6 1
 go_upto_region 4 with fail
 obtain ⟨w7, hW7⟩ := exq ((w6).setCell ⟨qv3, 1, none⟩ (.slice oP n2 pP))
 rw [← hW7]
 have hb7 := hbS hW7 hb6 HGv3
 have HOC_7 := hsetR hW7 (own_ne HOC_6.out HBv3_6.out (by decide)) HOC_6
 have HOP_7 := hsetR hW7 (own_ne HOP_6.out HBv3_6.out (by decide)) HOP_6
 have HBv1_7 := hset hW7 HNv1v3.out HBv1_6
 have HBv2_7 := hset hW7 HNv2v3.out HBv2_6
 have HBv3_7 : Hid ((w7).heap[qv3]? = some (.cells #[.slice oC n1 pC, .slice oP n2 pP] 49)) := by show _ = _; rw [hW7]; have h := heap_set _ _ 1 _ _ _ (.slice oP n2 pP) HBv3_6.out; simpa using h
 clear hb6 HOC_6 HOP_6 HBv1_6 HBv2_6 HBv3_6 hW7
 clear cv3_1 fcv3_1
 have cv2_0 := (k2c HBv2_7).1
 have fcv2_0 := hfz HBv2_7 0
 have cv2_1 := (k2c HBv2_7).2
 have fcv2_1 := hfz HBv2_7 1
 have cv3_0 := (k2c HBv3_7).1
 have cv3_1 := (k2c HBv3_7).2
 go_wp2_with fail
 obtain ⟨w8, hW8⟩ := exq ((w7).setCell ⟨qv2, 0, none⟩ (.slice oC n1 pC))
 rw [← hW8]
 have hb8 := hbS hW8 hb7 HGv2
 have HOC_8 := hsetR hW8 (own_ne HOC_7.out HBv2_7.out (by decide)) HOC_7
 have HOP_8 := hsetR hW8 (own_ne HOP_7.out HBv2_7.out (by decide)) HOP_7
 have HBv1_8 := hset hW8 HNv1v2.out HBv1_7
 have HBv3_8 := hset hW8 HNv2v3.out.symm HBv3_7
 have HBv2_8 : Hid ((w8).heap[qv2]? = some (.cells #[.slice oC n1 pC, .slice none 0 0] 49)) := by show _ = _; rw [hW8]; have h := heap_set _ _ 0 _ _ _ (.slice oC n1 pC) HBv2_7.out; simpa using h
 clear hb7 HOC_7 HOP_7 HBv1_7 HBv2_7 HBv3_7 hW8
 obtain ⟨w9, hW9⟩ := exq ((w8).setCell ⟨qv2, 1, none⟩ (.slice oP n2 pP))
 rw [← hW9]
 have hb9 := hbS hW9 hb8 HGv2
 have HOC_9 := hsetR hW9 (own_ne HOC_8.out HBv2_8.out (by decide)) HOC_8
 have HOP_9 := hsetR hW9 (own_ne HOP_8.out HBv2_8.out (by decide)) HOP_8
 have HBv1_9 := hset hW9 HNv1v2.out HBv1_8
 have HBv3_9 := hset hW9 HNv2v3.out.symm HBv3_8
 have HBv2_9 : Hid ((w9).heap[qv2]? = some (.cells #[.slice oC n1 pC, .slice oP n2 pP] 49)) := by show _ = _; rw [hW9]; have h := heap_set _ _ 1 _ _ _ (.slice oP n2 pP) HBv2_8.out; simpa using h
 clear hb8 HOC_8 HOP_8 HBv1_8 HBv2_8 HBv3_8 hW9
 have kv2_0 := (k2c HBv2_9).1
 have kv2_1 := (k2c HBv2_9).2
 refine bodyPost_ret (v := .agg #[.slice oC n1 pC, .slice oP n2 pP]) (by simp [results, Tryz.results60, go_sem, kv2_0, kv2_1]) rfl ?_
 exact ⟨_, _, rfl, ⟨HOC_9.out, HOP_9.out⟩, hb9⟩
/-- A disk's measure: negative, or what is left of L. -/
def SzDiskR (L : Int) (n1 : Nat) (cs : List ByteArray) (n2 : Nat) (ws : List (Int × ByteArray)) (w : World) (e : Ending) (w' : World) : Prop :=
 ∃ r : Int, e = .returned (.int .i64 r) ∧ r ≤ L ∧ (0 ≤ r → r + (n1 : Int) + (n2 : Int) ≤ L ∧ (n1 ≤ 1048576 ∧ ∀ i, i < n1 → (textAt cs i).size ≤ 1048576) ∧ n2 ≤ 1048576 ∧ ∀ x ∈ ws, (x.2).size ≤ 1048576) ∧ Below w.heap.size w w'
theorem szDisk_room (L : Int) (hL0 : 0 ≤ L) (hL1 : L ≤ 1048576) (a1 : Option Addr) (n1 c1 : Nat) (cs : List ByteArray) (a2 : Option Addr) (n2 c2 : Nat) (ws : List (Int × ByteArray)) (B : Nat) (w : World) (h1 : ArgT w B a1 n1 cs) (h2 : ArgWrite w B a2 n2 ws) (hB : B ≤ w.heap.size) (hn1 : n1 ≤ maxLen) (hn2 : n2 ≤ maxLen) (hs1 : ∀ i, i < n1 → (textAt cs i).size ≤ maxLen) (hs2 : ∀ x ∈ ws, (x.2).size ≤ maxLen) :
  Calls Tryz.prog 50 #[.agg #[.slice a1 n1 c1, .slice a2 n2 c2], .int .i64 L] w fun e w' => SzDiskR L n1 cs n2 ws w e w' := by
 have HA1 : Hid (∀ W, Below w.heap.size w W → ArgT W B a1 n1 cs) := fun W h => h1.below (h.mono hB)
 have HA2 : Hid (∀ W, Below w.heap.size w W → ArgWrite W B a2 n2 ws) := fun W h => h2.below (h.mono hB)
 have HBB : Hid (∀ W, Below w.heap.size w W → B ≤ W.heap.size) := fun W h => Nat.le_trans hB h.size
 clear h1 h2 hB
 have HN1 : Hid (n1 ≤ maxLen) := hn1
 have HN2 : Hid (n2 ≤ maxLen) := hn2
 have HS1 : Hid (∀ i, i < n1 → (textAt cs i).size ≤ maxLen) := hs1
 have HS2 : Hid (∀ x ∈ ws, (x.2).size ≤ maxLen) := hs2
 clear hs1 hs2 hn1 hn2
 have hb0 : Below w.heap.size w w := Below.refl _ _
 go_enter Tryz.func50, Tryz.ntmps50
 go_upto_region 1 with fail
 obtain ⟨qv1, hqv1⟩ := exq ((w).heap.size)
 obtain ⟨w1, hW1⟩ := exq ((w).alloc (.cells #[.slice a1 n1 c1, .slice a2 n2 c2] 25))
 have hz1 : (w).heap.size = qv1 := hqv1.symm
 first | rw [← hW1, ← hqv1] | rw [← hW1]
 have hs1 := hsa hW1 hz1
 have bw := bal hW1
 have hb1 := hbt hb0 bw
 have HBv1_1 := hnew hW1 hz1
 clear hb0 bw hW1 hz1
 clear hs1 hqv1
 have cv1_0 := (k2c HBv1_1).1
 go_wp2_with fail
 refine (szStringS_exact L (by omega) (by omega) B a1 n1 c1 cs _ (HA1.out _ hb1) (HBB.out _ hb1) HN1.out HS1.out).mono ?_
 rintro e w2 ⟨r1, rfl, hl1, hr1, bw⟩
 have hb2 := hbt hb1 bw
 have HBv1_2 := hblk HBv1_1 bw
 clear hb1 HBv1_1 bw
 clear cv1_0
 by_cases hc1 : r1 < 0
 ·
  clear hr1
  go_wp2_with fail
  go_ret
  exact ⟨-1, rfl, by omega, fun h => absurd h (by omega), hb2⟩
 ·
  obtain ⟨he1, hm1, hz1⟩ := hr1 (by omega)
  have HZ1 : Hid _ := hz1
  clear hr1 hz1
  have cv1_1 := (k2c HBv1_2).2
  go_wp2_with fail
  refine (szWriteS_room r1 (by omega) (by omega) B a2 n2 c2 ws _ (HA2.out _ hb2) (HBB.out _ hb2) HN2.out HS2.out).mono ?_
  rintro e w3 ⟨r2, rfl, hl2, hr2, bw⟩
  have hb3 := hbt hb2 bw
  have HBv1_3 := hblk HBv1_2 bw
  clear hb2 HBv1_2 bw
  clear cv1_1
  by_cases hc2 : r2 < 0
  ·
   clear hr2
   go_wp2_with fail
   go_ret
   exact ⟨-1, rfl, by omega, fun h => absurd h (by omega), hb3⟩
  ·
   obtain ⟨he2, hm2, hz2⟩ := hr2 (by omega)
   have HZ2 : Hid _ := hz2
   clear hr2 hz2
   go_wp2_with fail
   go_ret
   exact ⟨_, rfl, by omega, fun _ => ⟨by omega, ⟨by omega, HZ1.out⟩, by omega, HZ2.out⟩, hb3⟩
theorem eqDisk_any (n1 : Nat) (cs : List ByteArray) (n2 : Nat) (ws : List (Int × ByteArray)) (v1 v2 u1 u2 : Value) (B1 B2 : Nat) (w : World) (hx : DiskO w B1 v1 n1 cs v2 n2 ws) (hy : DiskO w B2 u1 n1 cs u2 n2 ws) (hn1 : n1 ≤ 2000000) (hn2 : n2 ≤ 2000000) :
  Calls Tryz.prog 72 #[.agg #[v1, v2], .agg #[u1, u2]] w fun e w' => e = .returned (.bool true) ∧ Below w.heap.size w w' := by
 obtain ⟨oCx, pCx, rfl⟩ := slice_of_owns hx.cells
 have HOCx_0 : Hid ((w).ownsRow B1 9 1 (.slice oCx n1 pCx) n1 (cs.map Value.string)) := hx.cells
 obtain ⟨oPx, pPx, rfl⟩ := slice_of_owns hx.pend
 have HOPx_0 : Hid ((w).ownsRow B1 199 2 (.slice oPx n2 pPx) n2 (flatWrite ws)) := hx.pend
 clear hx
 obtain ⟨oCy, pCy, rfl⟩ := slice_of_owns hy.cells
 have HOCy_0 : Hid ((w).ownsRow B2 9 1 (.slice oCy n1 pCy) n1 (cs.map Value.string)) := hy.cells
 obtain ⟨oPy, pPy, rfl⟩ := slice_of_owns hy.pend
 have HOPy_0 : Hid ((w).ownsRow B2 199 2 (.slice oPy n2 pPy) n2 (flatWrite ws)) := hy.pend
 clear hy
 have hb0 : Below w.heap.size w w := Below.refl _ _
 go_enter Tryz.func72, Tryz.ntmps72
 go_upto_region 1 with fail
 obtain ⟨qv1, hqv1⟩ := exq ((w).heap.size)
 obtain ⟨w1, hW1⟩ := exq ((w).alloc (.cells #[.slice oCx n1 pCx, .slice oPx n2 pPx] 49))
 have hz1 : (w).heap.size = qv1 := hqv1.symm
 first | rw [← hW1, ← hqv1] | rw [← hW1]
 have hs1 := hsa hW1 hz1
 have bw := bal hW1
 have hb1 := hbt hb0 bw
 have HOCx_1 := hown HOCx_0 bw
 have HOPx_1 := hown HOPx_0 bw
 have HOCy_1 := hown HOCy_0 bw
 have HOPy_1 := hown HOPy_0 bw
 have HBv1_1 := hnew hW1 hz1
 clear hb0 HOCx_0 HOPx_0 HOCy_0 HOPy_0 bw hW1 hz1
 obtain ⟨qv2, hqv2⟩ := exq (qv1 + 1)
 obtain ⟨w2, hW2⟩ := exq ((w1).alloc (.cells #[.slice oCy n1 pCy, .slice oPy n2 pPy] 49))
 have hz2 : (w1).heap.size = qv2 := by rw [hqv2]; exact hs1
 first | rw [← hW2, ← hqv2] | rw [← hW2]
 have hs2 := hsa hW2 hz2
 have bw := bal hW2
 have hb2 := hbt hb1 bw
 have HOCx_2 := hown HOCx_1 bw
 have HOPx_2 := hown HOPx_1 bw
 have HOCy_2 := hown HOCy_1 bw
 have HOPy_2 := hown HOPy_1 bw
 have HBv1_2 := hblk HBv1_1 bw
 have HBv2_2 := hnew hW2 hz2
 clear hb1 HOCx_1 HOPx_1 HOCy_1 HOPy_1 HBv1_1 bw hW2 hz2
 clear hs2 hqv2 hs1 hqv1
 have cv1_0 := (k2c HBv1_2).1
 have cv2_0 := (k2c HBv2_2).1
 go_wp2_with fail
 refine (eqS_any _ _ n1 _ _ cs _ HOCx_2.out HOCy_2.out (by omega)).mono ?_
 rintro e w3 ⟨rfl, bw⟩
 have hb3 := hbt hb2 bw
 have HOCx_3 := hown HOCx_2 bw
 have HOPx_3 := hown HOPx_2 bw
 have HOCy_3 := hown HOCy_2 bw
 have HOPy_3 := hown HOPy_2 bw
 have HBv1_3 := hblk HBv1_2 bw
 have HBv2_3 := hblk HBv2_2 bw
 clear hb2 HOCx_2 HOPx_2 HOCy_2 HOPy_2 HBv1_2 HBv2_2 bw
 clear cv1_0 cv2_0
 have cv1_1 := (k2c HBv1_3).2
 have cv2_1 := (k2c HBv2_3).2
 go_wp2_with fail
 refine (eqWriteS_any _ _ n2 _ _ ws _ (write_view HOPx_3.out) (write_view HOPy_3.out) (by omega)).mono ?_
 rintro e w4 ⟨rfl, bw⟩
 have hb4 := hbt hb3 bw
 have HOCx_4 := hown HOCx_3 bw
 have HOPx_4 := hown HOPx_3 bw
 have HOCy_4 := hown HOCy_3 bw
 have HOPy_4 := hown HOPy_3 bw
 have HBv1_4 := hblk HBv1_3 bw
 have HBv2_4 := hblk HBv2_3 bw
 clear hb3 HOCx_3 HOPx_3 HOCy_3 HOPy_3 HBv1_3 HBv2_3 bw
 clear cv1_1 cv2_1
 go_wp2_with fail
 go_ret
 exact ⟨rfl, hb4⟩
end Go.Proofs.YtbmhonfgffjpcaaGreat
namespace Go.Proofs.YtbmhonfgffjpcaaGreat
open Go.RowKit
open Go.Lib hiding intOf
/-- A disk of so many cells is right. -/
def DiskN (n : Nat) (ws : List (Int × ByteArray)) : Prop := n = 20 ∧ ws.length ≤ 16 ∧ ∀ x ∈ ws, 0 ≤ x.1 ∧ x.1 ≤ 19
/-- A disk is right. -/
def DiskP (cs : List ByteArray) (ws : List (Int × ByteArray)) : Prop := cs.length = 20 ∧ ws.length ≤ 16 ∧ ∀ x ∈ ws, 0 ≤ x.1 ∧ x.1 ≤ 19
theorem getElem_textAt (l : List ByteArray) (i : Nat) (h : i < l.length) : l[i]? = some (textAt l i) := by
 unfold textAt
 rw [List.getD_eq_getElem?_getD, List.getElem?_eq_getElem h]
 rfl
theorem textAt_set (l : List ByteArray) (k j : Nat) (x : ByteArray) : textAt (l.set k x) j = if j = k ∧ k < l.length then x else textAt l j := by
 unfold textAt
 rw [List.getD_eq_getElem?_getD, List.getElem?_set, List.getD_eq_getElem?_getD]
 by_cases h : j = k
 ·
  subst h
  by_cases h2 : j < l.length
  · simp [h2]
  · rw [if_pos rfl, if_neg h2, if_neg (fun e => h2 e.2), List.getElem?_eq_none (by omega)]
 · rw [if_neg (fun e => h e.symm), if_neg (fun e => h e.1)]
end Go.Proofs.YtbmhonfgffjpcaaGreat
namespace Go.Proofs.YtbmhonfgffjpcaaGreat
open Go.RowKit
open Go.Lib hiding intOf
theorem maW_list : maW.toList = [109, 97, 120, 45, 97, 103, 101, 61] := by rw [ByteArray.toList_eq]; rfl
theorem nsW_list : nsW.toList = [110, 111, 45, 115, 116, 111, 114, 101] := by rw [ByteArray.toList_eq]; rfl
theorem ncW_list : ncW.toList = [110, 111, 45, 99, 97, 99, 104, 101] := by rw [ByteArray.toList_eq]; rfl
theorem prW_list : prW.toList = [112, 114, 105, 118, 97, 116, 101] := by rw [ByteArray.toList_eq]; rfl
theorem muW_list : muW.toList = [109, 117, 115, 116, 45, 114, 101, 118, 97, 108, 105, 100, 97, 116, 101] := by rw [ByteArray.toList_eq]; rfl
theorem ageOf_short {s : ByteArray} (h : s.size < 8) : ageOf s = none := by
 unfold ageOf
 rw [if_neg]
 intro e
 have := congrArg List.length e
 rw [List.length_take, bs_len] at this
 have h8 : (bs maW).length = 8 := rfl
 omega
theorem ageOf_yes {s : ByteArray} (h : s.extract 0 8 = maW) : ageOf s = some (numV (s.extract 8 s.size)) := by
 have e : (bs s).take 8 = bs maW := by rw [← h, bs_extract, List.drop_zero]
 have d : (⟨((bs s).drop 8).toArray⟩ : ByteArray) = s.extract 8 s.size := by
  rw [← text_bs (s.extract 8 s.size), bs_extract, List.take_of_length_le (by rw [bs_len]; exact Nat.le_refl _)]
 unfold ageOf
 rw [if_pos e, d]
theorem ageOf_no {s : ByteArray} (h : s.extract 0 8 ≠ maW) : ageOf s = none := by
 unfold ageOf
 rw [if_neg]
 intro e
 apply h
 rw [← text_bs (s.extract 0 8), bs_extract, List.drop_zero, e, text_bs]
/-- What l6Age answers. -/
def AgeIs (s : ByteArray) (w : World) (e : Ending) (w' : World) : Prop :=
 ∃ (n : Int) (b : Bool), e = .returned (.tuple #[.int .i64 n, .bool b]) ∧ (b = true → ageOf s = some n) ∧ (b = false → ageOf s = none) ∧ Below w.heap.size w w'
theorem l6Age_any (s : ByteArray) (w : World) (hs : s.size ≤ 4000000) :
  Calls Tryz.prog 168 #[.string s] w fun e w' => AgeIs s w e w' := by
 by_cases h8 : s.size < 8
 ·
  have HN : Hid (ageOf s = none) := ageOf_short h8
  have h8' : (s.size : Int) < 8 := by omega
  clear h8
  go_enter Tryz.func168, Tryz.ntmps168
  go_wp2_with fail
  refine bodyPost_ret (v := .tuple #[.int .i64 0, .bool false]) (by simp [results, Tryz.results168, go_sem]) rfl ?_
  exact ⟨0, false, rfl, nofun, fun _ => HN.out, Below.refl _ _⟩
 ·
  have h8' : ¬ (s.size : Int) < 8 := by omega
  have h8'' : (8 : Int) ≤ (s.size : Int) := by omega
  by_cases hp : s.extract 0 8 = maW
  ·
   have ht : ((s.extract 0 8).toList == maW.toList) = true := (text_beq _ _).2 hp
   rw [maW_list] at ht
   have HY : Hid (ageOf s = some (numV (s.extract 8 s.size))) := ageOf_yes hp
   have hes : (s.extract 8 s.size).size ≤ maxLen := by rw [ByteArray.size_extract]; unfold maxLen; omega
   clear hp h8
   go_enter Tryz.func168, Tryz.ntmps168
   go_wp2_with fail
   refine (specNumRead_any (s.extract 8 s.size) _ hes).mono ?_
   rintro e w1 ⟨b, n, rfl, hb1, hb2, hb3, b1⟩
   have HV : Hid (numV (s.extract 8 s.size) = n) := by
    show _ = _
    unfold numV
    cases b with
    | true => rw [if_pos (hb1.1 rfl), hb2 rfl]
    | false => rw [if_neg (fun h => nomatch hb1.2 h), hb3 rfl]
   clear hb1 hb2 hb3
   go_wp2_with fail
   refine bodyPost_ret (v := .tuple #[.int .i64 n, .bool true]) (by simp [results, Tryz.results168, go_sem]) rfl ?_
   exact ⟨n, true, rfl, fun _ => by rw [HY.out, HV.out], nofun, b1⟩
  ·
   have ht : ((s.extract 0 8).toList == maW.toList) = false := text_beq_no hp
   rw [maW_list] at ht
   have HN : Hid (ageOf s = none) := ageOf_no hp
   clear hp h8
   go_enter Tryz.func168, Tryz.ntmps168
   go_wp2_with fail
   refine bodyPost_ret (v := .tuple #[.int .i64 0, .bool false]) (by simp [results, Tryz.results168, go_sem]) rfl ?_
   exact ⟨0, false, rfl, nofun, fun _ => HN.out, Below.refl _ _⟩
theorem ccLow_size (s : ByteArray) : (lowerOf s).size = s.size := by unfold lowerOf; rw [strOfNums_size, lowXs_len]
/-- The cells of it. -/
def CcD.cs (c : CcD) : Array Value := #[.bool c.ns, .bool c.nc, .bool c.pr, .bool c.mu, .bool c.ha, .int .i64 c.age]
/-- A block that holds it. -/
def CcAt (w : World) (g : Nat) (c : CcD) : Prop := w.heap[g]? = some (.cells c.cs 190)
theorem CcAt.cells {w : World} {g : Nat} {c : CcD} (h : CcAt w g c) : w.cell? ⟨g, 0, none⟩ = some (.bool c.ns) ∧ w.cell? ⟨g, 1, none⟩ = some (.bool c.nc) ∧ w.cell? ⟨g, 2, none⟩ = some (.bool c.pr) ∧ w.cell? ⟨g, 3, none⟩ = some (.bool c.mu) ∧ w.cell? ⟨g, 4, none⟩ = some (.bool c.ha) ∧ w.cell? ⟨g, 5, none⟩ = some (.int .i64 c.age) := by
 unfold CcAt CcD.cs at h
 refine ⟨?_, ?_, ?_, ?_, ?_, ?_⟩ <;> simp [World.cell?, h]
theorem CcAt.frozen {w : World} {g : Nat} {c : CcD} (h : CcAt w g c) (o : Nat) : w.frozen? ⟨g, o, none⟩ = false := by
 unfold CcAt at h
 simp [World.frozen?, h]
theorem CcAt.lt {w : World} {g : Nat} {c : CcD} (h : CcAt w g c) : g < w.heap.size := (Array.getElem?_eq_some_iff.1 h).1
theorem CcAt.same {w w' : World} {g : Nat} {c : CcD} (h : CcAt w g c) (hs : w'.heap[g]? = w.heap[g]?) : CcAt w' g c := by unfold CcAt; rw [hs]; exact h
theorem CcAt.put0 {w : World} {g : Nat} {c : CcD} (h : CcAt w g c) (x : Bool) : CcAt (w.setCell ⟨g, 0, none⟩ (.bool x)) g { c with ns := x } := by unfold CcAt at *; rw [heap_set _ _ _ _ _ _ _ h]; rfl
theorem CcAt.put1 {w : World} {g : Nat} {c : CcD} (h : CcAt w g c) (x : Bool) : CcAt (w.setCell ⟨g, 1, none⟩ (.bool x)) g { c with nc := x } := by unfold CcAt at *; rw [heap_set _ _ _ _ _ _ _ h]; rfl
theorem CcAt.put2 {w : World} {g : Nat} {c : CcD} (h : CcAt w g c) (x : Bool) : CcAt (w.setCell ⟨g, 2, none⟩ (.bool x)) g { c with pr := x } := by unfold CcAt at *; rw [heap_set _ _ _ _ _ _ _ h]; rfl
theorem CcAt.put3 {w : World} {g : Nat} {c : CcD} (h : CcAt w g c) (x : Bool) : CcAt (w.setCell ⟨g, 3, none⟩ (.bool x)) g { c with mu := x } := by unfold CcAt at *; rw [heap_set _ _ _ _ _ _ _ h]; rfl
theorem CcAt.put4 {w : World} {g : Nat} {c : CcD} (h : CcAt w g c) (x : Bool) : CcAt (w.setCell ⟨g, 4, none⟩ (.bool x)) g { c with ha := x } := by unfold CcAt at *; rw [heap_set _ _ _ _ _ _ _ h]; rfl
theorem CcAt.put5 {w : World} {g : Nat} {c : CcD} (h : CcAt w g c) (x : Int) : CcAt (w.setCell ⟨g, 5, none⟩ (.int .i64 x)) g { c with age := x } := by unfold CcAt at *; rw [heap_set _ _ _ _ _ _ _ h]; rfl
/-- All six cells of a block are stored. -/
def putCc (w : World) (g : Nat) (d : CcD) : World := (((((w.setCell ⟨g, 0, none⟩ (.bool d.ns)).setCell ⟨g, 1, none⟩ (.bool d.nc)).setCell ⟨g, 2, none⟩ (.bool d.pr)).setCell ⟨g, 3, none⟩ (.bool d.mu)).setCell ⟨g, 4, none⟩ (.bool d.ha)).setCell ⟨g, 5, none⟩ (.int .i64 d.age)
theorem CcAt.putAll {w : World} {g : Nat} {c : CcD} (h : CcAt w g c) (d : CcD) : CcAt (putCc w g d) g d :=
 (((((h.put0 d.ns).put1 d.nc).put2 d.pr).put3 d.mu).put4 d.ha).put5 d.age
theorem below_putCc {B : Nat} {a w : World} (h : Below B a w) {g : Nat} (hg : B ≤ g) (d : CcD) : Below B a (putCc w g d) :=
 (((((h.setCell hg _).setCell hg _).setCell hg _).setCell hg _).setCell hg _).setCell hg _
/-- The name of the field that says it. -/
def ccName : ByteArray := ⟨#[99, 97, 99, 104, 101, 45, 99, 111, 110, 116, 114, 111, 108]⟩
/-- While words are read. -/
structure CcSt (w : World) (H : Nat) (c : CcD) (v : Value) (l : List ByteArray) (wr : World) : Prop where
 res : CcAt wr H cc0
 cur : CcAt wr (H + 1) c
 row : wr.ownsRow (H + 1 + 1) 9 1 v l.length (l.map Value.string)
 low : Below H w wr
theorem CcSt.later {w : World} {H : Nat} {c : CcD} {v : Value} {l : List ByteArray} {wr w' : World} (h : CcSt w H c v l wr) (hb : Below wr.heap.size wr w') : CcSt w H c v l w' :=
 ⟨h.res.same (hb.block _ h.res.lt), h.cur.same (hb.block _ h.cur.lt), owns_below h.row hb (fun _ hg => owns_lt h.row hg), h.low.trans (hb.mono (Nat.le_of_lt h.res.lt))⟩
theorem CcSt.put {w : World} {H : Nat} {c d : CcD} {v : Value} {l : List ByteArray} {wr : World} (h : CcSt w H c v l wr) {o : Nat} {x : Value} (hd : CcAt (wr.setCell ⟨H + 1, o, none⟩ x) (H + 1) d) : CcSt w H d v l (wr.setCell ⟨H + 1, o, none⟩ x) :=
 ⟨h.res.same (heap_setCell_other _ _ H _ (by show H ≠ H + 1; omega)), hd, owns_same h.row (fun j hj => heap_setCell_other _ _ j _ (by show j ≠ H + 1; have := (own_ltR h.row hj).1; omega)), h.low.setCell (by show H ≤ H + 1; omega) _⟩
theorem specCcRead_any (s : ByteArray) (w : World) (hs : s.size ≤ 1048576) :
  Calls Tryz.prog 147 #[.string s] w fun e w' => e = .returned (ccR s).v ∧ Below w.heap.size w w' := by
 obtain ⟨H, hH⟩ := exq (w.heap.size)
 have HW : Hid (w.heap.size = H) := hH.symm
 obtain ⟨W0, hW0⟩ := exq ((w.alloc (.cells cc0.cs 190)).alloc (.cells cc0.cs 190))
 have HA : Hid (CcAt W0 H cc0 ∧ CcAt W0 (H + 1) cc0 ∧ Below H w W0 ∧ W0.heap.size = H + 1 + 1) := by
  have e1 := heap_alloc_new w (.cells cc0.cs 190)
  have e2 := heap_alloc_new (w.alloc (.cells cc0.cs 190)) (.cells cc0.cs 190)
  rw [World.size_alloc] at e2
  refine ⟨?_, ?_, ?_, ?_⟩
  · unfold CcAt; rw [hW0, hH, heap_alloc_old _ _ (by simp)]; exact e1
  · unfold CcAt; rw [hW0, hH]; exact e2
  · rw [hW0, hH]; exact ((Below.refl _ w).alloc (Nat.le_refl _) _).alloc (by simp) _
  · rw [hW0, hH]; simp
 have HW0 : Hid ((w.alloc (.cells #[.bool false, .bool false, .bool false, .bool false, .bool false, .int .i64 0] 190)).alloc (.cells #[.bool false, .bool false, .bool false, .bool false, .bool false, .int .i64 0] 190) = W0) := hW0.symm
 clear hW0
 go_enter Tryz.func147, Tryz.ntmps147
 go_wp2_with fail
 rw [HW0.out, ← hH]
 clear hH
 refine (specSplit_any s _ hs).mono ?_
 rintro e w1 ⟨v, rfl, hown, b1⟩
 rw [HA.out.2.2.2] at hown b1
 obtain ⟨l, hl⟩ := exq (splitL s)
 rw [← hl] at hown
 have HLS : Hid (splitL s = l) := hl.symm
 have HLB : Hid (∀ x ∈ l, x.size ≤ 1048576) := fun x hx => by rw [hl] at hx; have := (splitL_le s).2 x hx; omega
 have hll : l.length ≤ 1048577 := by rw [hl]; have := (splitL_le s).1; omega
 have HS1 : Hid (CcSt w H (ccTo (l.take 0)) v l w1) := ⟨HA.out.1.same (b1.block _ (by omega)), HA.out.2.1.same (b1.block _ (by omega)), hown, HA.out.2.2.1.trans (b1.mono (by omega))⟩
 obtain ⟨oa, cp, rfl⟩ := slice_of_owns hown
 obtain ⟨n, hn⟩ := exq l.length
 have HN : Hid (l.length = n) := hn.symm
 rw [← hn] at hll HS1
 rw [← hn]
 clear hown b1 hl hn
 go_wp2_with fail
 go_loopw [5] (fun i wr => ∃ k : Nat, k ≤ n ∧ i = .int .i64 (k : Int) ∧ Hid (CcSt w H (ccTo (l.take k)) (.slice oa n cp) l wr)) (fun i _ => n - (intOf i).toNat)
 case atStart => exact ⟨0, Nat.zero_le _, rfl, HS1⟩
 case round =>
  obtain ⟨k, hk, rfl, HS⟩ := hrel
  by_cases hlt : (k : Int) < (n : Int)
  ·
   have hkl : k < l.length := by have := HN.out; omega
   obtain ⟨g, rfl⟩ : ∃ g, oa = some ⟨g, 0, none⟩ := by
    rcases HS.out.row.2 with ⟨e, _⟩ | ⟨g, _, _, e, _⟩
    · injection e with _ e2 _; omega
    · injection e with e1 _ _; exact ⟨g, e1⟩
   obtain ⟨x, hx⟩ := exq (l[k]'hkl)
   have hc0 : wr.cell? ⟨g, k, none⟩ = some (.string x) := by
    have hr := HS.out.row
    rw [HN.out] at hr
    exact (owns_cellC hr k (.string x) (by rw [List.getElem?_map, List.getElem?_eq_getElem hkl, hx]; rfl)).1
   have hxs : x.size ≤ 1048576 := by rw [hx]; exact HLB.out _ (List.getElem_mem hkl)
   obtain ⟨y, hy⟩ := exq (lowerOf x)
   have hys : y.size ≤ 4000000 := by rw [hy, ccLow_size]; omega
   have HY : Hid (lowerOf x = y) := hy.symm
   have HST : Hid (ccTo (l.take (k + 1)) = ccStep (ccTo (l.take k)) y) := by
    show _ = _
    rw [List.take_succ_eq_append_getElem hkl, ccTo_snoc, ← hx, hy]
   clear hx hy hkl
   obtain ⟨c, hc⟩ := exq (ccTo (l.take k))
   rw [← hc] at HS HST
   obtain ⟨d, hd⟩ := exq (ccTo (l.take (k + 1)))
   rw [← hd] at HST
   have HD : Hid (ccTo (l.take (k + 1)) = d) := hd.symm
   clear hc hd
   go_wp2_with fail
   refine (specLower_any x _ hxs).mono ?_
   rintro e w2 ⟨rfl, b2⟩
   rw [HY.out]
   have HS2 : Hid (CcSt w H c (.slice (some ⟨g, 0, none⟩) n cp) l w2) := HS.out.later b2
   clear b2 hc0
   go_wp2_with fail
   refine (l6Age_any y _ hys).mono ?_
   rintro e w3 ⟨na, ba, rfl, hb1, hb2, b3⟩
   have HS3 : Hid (CcSt w H c (.slice (some ⟨g, 0, none⟩) n cp) l w3) := HS2.out.later b3
   obtain ⟨q0, q1, q2, q3, q4, q5⟩ := HS3.out.cur.cells
   have f0 := HS3.out.cur.frozen 0
   have f1 := HS3.out.cur.frozen 1
   have f2 := HS3.out.cur.frozen 2
   have f3 := HS3.out.cur.frozen 3
   have f4 := HS3.out.cur.frozen 4
   have f5 := HS3.out.cur.frozen 5
   clear b3 HS HS2
   by_cases h0 : y = nsW
   ·
    have t0 : (y.toList == nsW.toList) = true := (text_beq _ _).2 h0
    rw [nsW_list] at t0
    have HS4 : Hid (CcSt w H d (.slice (some ⟨g, 0, none⟩) n cp) l (w3.setCell ⟨H + 1, 0, none⟩ (.bool true))) := by
     show CcSt _ _ _ _ _ _
     have e : d = { c with ns := true } := by rw [HST.out]; unfold ccStep; rw [if_pos h0]
     rw [e]
     exact HS3.out.put (HS3.out.cur.put0 true)
    clear h0 hb1 hb2
    go_wp2_with fail
    go_roundw
    case rel => exact ⟨k + 1, by omega, by go_num, by rw [HD.out]; exact HS4⟩
    case measure => simp [intOf]; omega
   have t0 : (y.toList == nsW.toList) = false := text_beq_no h0
   rw [nsW_list] at t0
   by_cases h1 : y = ncW
   ·
    have t1 : (y.toList == ncW.toList) = true := (text_beq _ _).2 h1
    rw [ncW_list] at t1
    have HS4 : Hid (CcSt w H d (.slice (some ⟨g, 0, none⟩) n cp) l (w3.setCell ⟨H + 1, 1, none⟩ (.bool true))) := by
     show CcSt _ _ _ _ _ _
     have e : d = { c with nc := true } := by rw [HST.out]; unfold ccStep; rw [if_neg h0, if_pos h1]
     rw [e]
     exact HS3.out.put (HS3.out.cur.put1 true)
    clear h0 h1 hb1 hb2
    go_wp2_with fail
    go_roundw
    case rel => exact ⟨k + 1, by omega, by go_num, by rw [HD.out]; exact HS4⟩
    case measure => simp [intOf]; omega
   have t1 : (y.toList == ncW.toList) = false := text_beq_no h1
   rw [ncW_list] at t1
   by_cases h2 : y = prW
   ·
    have t2 : (y.toList == prW.toList) = true := (text_beq _ _).2 h2
    rw [prW_list] at t2
    have HS4 : Hid (CcSt w H d (.slice (some ⟨g, 0, none⟩) n cp) l (w3.setCell ⟨H + 1, 2, none⟩ (.bool true))) := by
     show CcSt _ _ _ _ _ _
     have e : d = { c with pr := true } := by rw [HST.out]; unfold ccStep; rw [if_neg h0, if_neg h1, if_pos h2]
     rw [e]
     exact HS3.out.put (HS3.out.cur.put2 true)
    clear h0 h1 h2 hb1 hb2
    go_wp2_with fail
    go_roundw
    case rel => exact ⟨k + 1, by omega, by go_num, by rw [HD.out]; exact HS4⟩
    case measure => simp [intOf]; omega
   have t2 : (y.toList == prW.toList) = false := text_beq_no h2
   rw [prW_list] at t2
   by_cases h3 : y = muW
   ·
    have t3 : (y.toList == muW.toList) = true := (text_beq _ _).2 h3
    rw [muW_list] at t3
    have HS4 : Hid (CcSt w H d (.slice (some ⟨g, 0, none⟩) n cp) l (w3.setCell ⟨H + 1, 3, none⟩ (.bool true))) := by
     show CcSt _ _ _ _ _ _
     have e : d = { c with mu := true } := by rw [HST.out]; unfold ccStep; rw [if_neg h0, if_neg h1, if_neg h2, if_pos h3]
     rw [e]
     exact HS3.out.put (HS3.out.cur.put3 true)
    clear h0 h1 h2 h3 hb1 hb2
    go_wp2_with fail
    go_roundw
    case rel => exact ⟨k + 1, by omega, by go_num, by rw [HD.out]; exact HS4⟩
    case measure => simp [intOf]; omega
   have t3 : (y.toList == muW.toList) = false := text_beq_no h3
   rw [muW_list] at t3
   have HRE : Hid (ccStep c y = match ageOf y with | none => c | some n => if c.ha = true then { c with age := min c.age n } else { c with ha := true, age := n }) := by
    show _ = _
    unfold ccStep
    rw [if_neg h0, if_neg h1, if_neg h2, if_neg h3] <;> rfl
   clear h0 h1 h2 h3
   cases ba with
   | false =>
    have HS4 : Hid (CcSt w H d (.slice (some ⟨g, 0, none⟩) n cp) l w3) := by
     show CcSt _ _ _ _ _ _
     have e : d = c := by rw [HST.out, HRE.out, hb2 rfl]
     rw [e]
     exact HS3.out
    clear hb1 hb2
    go_wp2_with fail
    go_roundw
    case rel => exact ⟨k + 1, by omega, by go_num, by rw [HD.out]; exact HS4⟩
    case measure => simp [intOf]; omega
   | true =>
    cases hha : c.ha with
    | true =>
     have HS4 : Hid (CcSt w H d (.slice (some ⟨g, 0, none⟩) n cp) l (w3.setCell ⟨H + 1, 5, none⟩ (.int .i64 (min c.age na)))) := by
      show CcSt _ _ _ _ _ _
      have e : d = { c with age := min c.age na } := by rw [HST.out, HRE.out, hb1 rfl]; dsimp only; rw [if_pos hha]
      rw [e]
      exact HS3.out.put (HS3.out.cur.put5 _)
     rw [hha] at q4
     clear hb1 hb2 hha
     go_wp2_with fail
     refine (l1Min_any _ _ _).mono ?_
     rintro e w4 ⟨rfl, rfl⟩
     go_wp2_with fail
     go_roundw
     case rel => exact ⟨k + 1, by omega, by go_num, by rw [HD.out]; exact HS4⟩
     case measure => simp [intOf]; omega
    | false =>
     have HS4a : CcSt w H { c with ha := true } (.slice (some ⟨g, 0, none⟩) n cp) l (w3.setCell ⟨H + 1, 4, none⟩ (.bool true)) := HS3.out.put (HS3.out.cur.put4 true)
     have HS4 : Hid (CcSt w H d (.slice (some ⟨g, 0, none⟩) n cp) l ((w3.setCell ⟨H + 1, 4, none⟩ (.bool true)).setCell ⟨H + 1, 5, none⟩ (.int .i64 na))) := by
      show CcSt _ _ _ _ _ _
      have e : d = { c with ha := true, age := na } := by rw [HST.out, HRE.out, hb1 rfl]; dsimp only; rw [if_neg (by rw [hha]; decide)]
      rw [e]
      exact HS4a.put (HS4a.cur.put5 _)
     have q5a := HS4a.cur.cells.2.2.2.2.2
     have f5a := HS4a.cur.frozen 5
     rw [hha] at q4
     clear hb1 hb2 hha HS4a
     go_wp2_with fail
     go_roundw
     case rel => exact ⟨k + 1, by omega, by go_num, by rw [HD.out]; exact HS4⟩
     case measure => simp [intOf]; omega
  ·
   obtain rfl : k = n := by omega
   have HE : Hid (ccTo (l.take k) = ccR s) := by
    show _ = _
    rw [List.take_of_length_le (by rw [HN.out]; exact Nat.le_refl _)]
    unfold ccR
    rw [HLS.out]
   rw [HE.out] at HS
   obtain ⟨c, hc⟩ := exq (ccR s)
   rw [← hc] at HS
   have HC : Hid (c = ccR s) := hc
   obtain ⟨q0, q1, q2, q3, q4, q5⟩ := HS.out.cur.cells
   obtain ⟨r0, r1, r2, r3, r4, r5⟩ := HS.out.res.cells
   have f0 := HS.out.res.frozen 0
   have f1 := HS.out.res.frozen 1
   have f2 := HS.out.res.frozen 2
   have f3 := HS.out.res.frozen 3
   have f4 := HS.out.res.frozen 4
   have f5 := HS.out.res.frozen 5
   obtain ⟨m0, m1, m2, m3, m4, m5⟩ := (HS.out.res.putAll c).cells
   have HB : Hid (Below H w (putCc wr H c)) := below_putCc HS.out.low (Nat.le_refl _) c
   clear hc HE
   unfold putCc at m0 m1 m2 m3 m4 m5 HB
   go_wp2_with fail
   refine bodyPost_ret (v := c.v) (by simp [results, Tryz.results147, go_sem, m0, m1, m2, m3, m4, m5, CcD.v]) rfl ?_
   exact ⟨by rw [HC.out], by rw [HW.out]; exact HB.out⟩
theorem specCcOf_any (v : Value) (n base : Nat) (fs : List (ByteArray × ByteArray)) (w : World) (hv : FieldsV w base v n fs) (hn : n ≤ 1073741824) (hsz : (getV fs ccName).size ≤ 1048576) :
  Calls Tryz.prog 122 #[v] w fun e w' => e = .returned (ccR (getV fs ccName)).v ∧ Below w.heap.size w w' := by
 have hv1 : FieldsV (w.alloc (.cells cc0.cs 190)) base v n fs := hv.below ((Below.refl _ _).alloc (Nat.le_refl _) _)
 have HR0 : Hid (CcAt (w.alloc (.cells cc0.cs 190)) w.heap.size cc0) := heap_alloc_new w _
 obtain ⟨t, ht⟩ := exq (getV fs ccName)
 have HT : Hid (getV fs ccName = t) := ht.symm
 rw [← ht] at hsz
 obtain ⟨c, hc⟩ := exq (ccR t)
 have HC : Hid (ccR t = c) := hc.symm
 rw [← ht, ← hc]
 clear ht hc hv
 go_enter Tryz.func122, Tryz.ntmps122
 go_wp2_with fail
 refine (specGet_any v n base fs ccName _ hv1 hn).mono ?_
 rintro e w1 ⟨rfl, rfl⟩
 rw [HT.out]
 clear hv1
 go_wp2_with fail
 refine (specCcRead_any t _ hsz).mono ?_
 rintro e w2 ⟨rfl, b2⟩
 rw [HC.out]
 have hR := HR0.out.same (b2.block _ HR0.out.lt)
 obtain ⟨r0, r1, r2, r3, r4, r5⟩ := hR.cells
 have f0 := hR.frozen 0
 have f1 := hR.frozen 1
 have f2 := hR.frozen 2
 have f3 := hR.frozen 3
 have f4 := hR.frozen 4
 have f5 := hR.frozen 5
 obtain ⟨m0, m1, m2, m3, m4, m5⟩ := (hR.putAll c).cells
 have HB : Hid (Below w.heap.size w (putCc w2 w.heap.size c)) := below_putCc (((Below.refl _ w).alloc (Nat.le_refl _) _).trans (b2.mono (by simp))) (Nat.le_refl _) c
 unfold putCc at m0 m1 m2 m3 m4 m5 HB
 clear hR b2 HR0
 unfold CcD.v
 go_wp2_with fail
 refine bodyPost_ret (v := c.v) (by simp [results, Tryz.results122, go_sem, m0, m1, m2, m3, m4, m5, CcD.v]) rfl ?_
 exact ⟨rfl, HB.out⟩
end Go.Proofs.YtbmhonfgffjpcaaGreat
namespace Go.Proofs.YtbmhonfgffjpcaaGreat
open Go.RowKit
open Go.Lib hiding intOf
/-- Names are right: at most four words. -/
def NamesP (xs : List ByteArray) : Prop := (∀ x ∈ xs, TokOk x) ∧ xs.length ≤ 4
end Go.Proofs.YtbmhonfgffjpcaaGreat
namespace Go.Proofs.YtbmhonfgffjpcaaGreat
open Go.RowKit
open Go.Lib hiding intOf
theorem textAt_mem (xs : List ByteArray) (j : Nat) (h : j < xs.length) : textAt xs j ∈ xs := by
 unfold textAt
 rw [List.getD_eq_getElem?_getD, List.getElem?_eq_getElem h]
 exact List.getElem_mem _
theorem take_textAt (xs : List ByteArray) (j : Nat) (h : j < xs.length) : xs.take (j + 1) = xs.take j ++ [textAt xs j] := by
 rw [List.take_add_one, List.getElem?_eq_getElem h]
 unfold textAt
 rw [List.getD_eq_getElem?_getD, List.getElem?_eq_getElem h]
 rfl
open Classical in
theorem l8Texts_any (oa ob : Option Addr) (m cm n cn : Nat) (xs ys : List ByteArray) (w : World) (hx : TextsA w oa m xs) (hy : TextsA w ob n ys) (hm : m ≤ 2000000) :
  Calls Tryz.prog 58 #[.slice oa m cm, .slice ob n cn] w fun e w' => e = .returned (.bool (decide (xs = ys))) ∧ Below w.heap.size w w' := by
 have HX : Hid (∀ W, Below w.heap.size w W → TextsA W oa m xs) := fun W h => hx.below h
 have HY : Hid (∀ W, Below w.heap.size w W → TextsA W ob n ys) := fun W h => hy.below h
 have HLX : Hid (xs.length = m) := hx.1
 have HLY : Hid (ys.length = n) := hy.1
 clear hx hy
 go_enter Tryz.func58, Tryz.ntmps58
 go_wp2_with fail
 go_loopw [5] (fun i wr => ∃ j : Nat, j ≤ m ∧ j ≤ n ∧ i = .int .i64 (j : Int) ∧ Below w.heap.size w wr ∧ Hid (xs.take j = ys.take j)) (fun i _ => m - (intOf i).toNat)
 case atStart => exact ⟨0, Nat.zero_le _, Nat.zero_le _, rfl, Below.refl _ _, by show _ = _; simp⟩
 case round =>
  obtain ⟨j, hj, hj2, rfl, hbw, HN⟩ := hrel
  by_cases hlt : (j : Int) < (m : Int)
  ·
   by_cases hlt2 : (j : Int) < (n : Int)
   ·
    have hjx : j < xs.length := by rw [HLX.out]; omega
    have hjy : j < ys.length := by rw [HLY.out]; omega
    obtain ⟨g, rfl, hg, hc⟩ := (HX.out wr hbw).2 j (by omega)
    obtain ⟨g2, rfl, hg2, hc2⟩ := (HY.out wr hbw).2 j (by omega)
    obtain ⟨x, hxx⟩ := exq (textAt xs j)
    obtain ⟨y, hyy⟩ := exq (textAt ys j)
    rw [← hxx] at hc
    rw [← hyy] at hc2
    by_cases he : x = y
    ·
     have HN2 : Hid (xs.take (j + 1) = ys.take (j + 1)) := by
      show _ = _
      rw [take_textAt xs j hjx, take_textAt ys j hjy, ← hxx, ← hyy, HN.out, he]
     subst he
     clear hxx hyy hjx hjy HN
     go_wp2_with fail
     go_quiet (fail)
     go_wp2
     go_roundw
     case rel => exact ⟨j + 1, by omega, by omega, by go_num, below_drewN hbw _, HN2⟩
     case measure => simp [intOf]; omega
    ·
     have t0 : (x.toList == y.toList) = false := text_beq_no he
     have t1 : (x.toList != y.toList) = true := by rw [bne, t0]; rfl
     have HE : Hid (decide (xs = ys) = false) := decide_eq_false (fun h => he (by rw [hxx, hyy, h]))
     clear he hxx hyy hjx hjy HN
     go_wp2_with fail
     go_quiet (fail)
     go_wp2
     go_ret
     exact ⟨by rw [HE.out]; rfl, below_drewN hbw _⟩
   ·
    have HE : Hid (decide (xs = ys) = decide ((m : Int) = (n : Int))) := by
     show _ = _
     rw [decide_eq_decide]
     constructor
     · intro h; have h1 := HLX.out; have h2 := HLY.out; rw [h] at h1; omega
     · intro h; omega
    clear HN
    go_wp2_with fail
    go_ret
    exact ⟨by rw [HE.out]; rfl, hbw⟩
  ·
   have HE : Hid (decide (xs = ys) = decide ((m : Int) = (n : Int))) := by
    show _ = _
    rw [decide_eq_decide]
    constructor
    · intro h; have h1 := HLX.out; have h2 := HLY.out; rw [h] at h1; omega
    ·
     intro h
     have h1 := HN.out
     rw [List.take_of_length_le (by rw [HLX.out]; omega), List.take_of_length_le (by rw [HLY.out]; omega)] at h1
     exact h1
   clear HN
   go_wp2_with fail
   go_ret
   exact ⟨by rw [HE.out]; rfl, hbw⟩
end Go.Proofs.YtbmhonfgffjpcaaGreat
namespace Go.Proofs.YtbmhonfgffjpcaaGreat
open Go.RowKit
open Go.Lib hiding intOf
/-- An object is right. -/
def ObjP (p : ByteArray) (xs ys : List ByteArray) (st : Int) (fs : List (ByteArray × ByteArray)) (b : ByteArray) (t : Int) : Prop :=
 RespP st fs b ∧ PathOk p ∧ (0 ≤ t ∧ t ≤ 1000000) ∧ NamesP xs ∧ xs = varyP fs ∧ ys.length = xs.length ∧ ∀ y ∈ ys, ValOk y
theorem texts_view {w : World} {base n p : Nat} {o : Option Addr} {xs : List ByteArray} (h : w.ownsRow base 9 1 (.slice o n p) n (xs.map Value.string)) : TextsA w o n xs := by
 obtain ⟨oa, ca, he, hx⟩ := texts_own h
 cases he
 exact hx
end Go.Proofs.YtbmhonfgffjpcaaGreat
namespace Go.Proofs.YtbmhonfgffjpcaaGreat
open Go.RowKit
open Go.Lib hiding intOf
/-- A ban is right. -/
def BanP (k : Int) (a b : ByteArray) (t : Int) : Prop := (0 ≤ t ∧ t ≤ 1000000) ∧ (((k = 1 ∨ k = 2) ∧ PathOk a ∧ b = ⟨#[]⟩) ∨ (k = 3 ∧ TokOk a ∧ ValOk b))
theorem BanP.kinds {k : Int} {a b : ByteArray} {t : Int} (h : BanP k a b t) : k = 1 ∨ k = 2 ∨ k = 3 := by
 rcases h.2 with ⟨h1 | h1, _⟩ | ⟨h1, _⟩
 · exact .inl h1
 · exact .inr (.inl h1)
 · exact .inr (.inr h1)
end Go.Proofs.YtbmhonfgffjpcaaGreat
namespace Go.Proofs.YtbmhonfgffjpcaaGreat
open Go.RowKit
open Go.Lib hiding intOf
theorem specBanOk_any (k : Int) (a b : ByteArray) (t : Int) (w : World) (ha : a.size ≤ maxLen) (hb : b.size ≤ maxLen) :
    Calls Tryz.prog 114 #[.agg #[.int .i64 k, .string a, .string b, .int .i64 t]] w fun e w' => BoolIs (BanP k a b t) w e w' := by
  have HAM : Hid (a.size ≤ maxLen) := ha
  have HBM : Hid (b.size ≤ maxLen) := hb
  clear ha hb
  have hb0 : Below w.heap.size w w := Below.refl _ _
  go_enter Tryz.func114, Tryz.ntmps114
  go_upto_region 1 with fail
  obtain ⟨qv1, hqv1⟩ := exq ((w).heap.size)
  obtain ⟨w1, hW1⟩ := exq ((w).alloc (.cells #[.int .i64 k, .string a, .string b, .int .i64 t] 152))
  have hz1 : (w).heap.size = qv1 := hqv1.symm
  first | rw [← hW1, ← hqv1] | rw [← hW1]
  have hs1 := hsa hW1 hz1
  have bw := bal hW1
  have hb1 := hbt hb0 bw
  have HBv1_1 := hnew hW1 hz1
  clear hb0 bw hW1 hz1
  clear hs1 hqv1
  have cv1_3 := (k4c HBv1_1).2.2.2
  go_wp2_with fail
  refine (l1In_any t 0 1000000 _).mono ?_
  rintro e w2 ⟨rfl, hwe⟩
  have bw : Below (w1).heap.size (w1) w2 := by rw [hwe]; exact Below.refl _ _
  clear hwe
  obtain ⟨ut, hut⟩ : ∃ u, u = decide ((0 : Int) ≤ t ∧ t ≤ 1000000) := ⟨_, rfl⟩
  rw [← hut]
  have hb2 := hbt hb1 bw
  have HBv1_2 := hblk HBv1_1 bw
  clear hb1 HBv1_1 bw
  clear cv1_3
  cases ut with
  | false =>
    have Hut : Hid (¬ (0 ≤ t ∧ t ≤ 1000000)) := (show ¬ (0 ≤ t ∧ t ≤ 1000000) from of_decide_eq_false hut.symm)
    clear hut
    go_wp2_with fail
    go_ret
    refine ⟨false, rfl, ?_, hb2⟩
    have zHut := Hut.out
    unfold BanP
    first
      | (simp_all; done)
      | (constructor
         · intro h
           first
             | (cases h; done)
             | exact ⟨zHut, .inl ⟨.inl zHK1, zHup, zHBE⟩⟩
             | exact ⟨zHut, .inl ⟨.inr zHK2, zHup, zHBE⟩⟩
             | exact ⟨zHut, .inr ⟨zHK3, zHuk, zv.1 h⟩⟩
             | exact ⟨zHut, .inr ⟨zHK3, zHuk, zHuv⟩⟩
         · rintro ⟨h1, (⟨h2 | h2, h3, h4⟩ | ⟨h2, h3, h4⟩)⟩
           all_goals first
             | rfl
             | exact zv.2 h4
             | (exfalso; first | exact zHut h1 | exact zHup h3 | exact zHuk h3 | exact zHBE h4 | exact zHuv h4 | omega))
  | true =>
    have Hut : Hid (0 ≤ t ∧ t ≤ 1000000) := (show 0 ≤ t ∧ t ≤ 1000000 from of_decide_eq_true hut.symm)
    clear hut
    have cv1_0 := (k4c HBv1_2).1
    by_cases hc1 : k = 1
    · have hc1b : ((k : Int) == (1 : Int)) = true := by simpa using hc1
      have hc1n : ((k : Int) != (1 : Int)) = false := by simpa using hc1
      have HK1 : Hid (k = 1) := hc1
      have hc1H : Hid (k = 1) := hc1
      clear hc1
      have cv1_1 := (k4c HBv1_2).2.1
      go_wp2_with fail
      refine (l3Path_any a _ HAM.out).mono ?_
      rintro e w3 ⟨up, rfl, htup, bw⟩
      have hb3 := hbt hb2 bw
      have HM3 := hsz bw
      have HBv1_3 := hblk HBv1_2 bw
      clear hb2 HBv1_2 bw
      clear cv1_0 cv1_1
      cases up with
      | false =>
        have Hup : Hid (¬ PathOk a) := fun h => nomatch htup.2 h
        clear htup
        go_wp2_with fail
        go_ret
        refine ⟨false, rfl, ?_, hb3⟩
        have zHut := Hut.out
        have zHK1 := HK1.out
        have zHup := Hup.out
        unfold BanP
        first
          | (simp_all; done)
          | (constructor
             · intro h
               first
                 | (cases h; done)
                 | exact ⟨zHut, .inl ⟨.inl zHK1, zHup, zHBE⟩⟩
                 | exact ⟨zHut, .inl ⟨.inr zHK2, zHup, zHBE⟩⟩
                 | exact ⟨zHut, .inr ⟨zHK3, zHuk, zv.1 h⟩⟩
                 | exact ⟨zHut, .inr ⟨zHK3, zHuk, zHuv⟩⟩
             · rintro ⟨h1, (⟨h2 | h2, h3, h4⟩ | ⟨h2, h3, h4⟩)⟩
               all_goals first
                 | rfl
                 | exact zv.2 h4
                 | (exfalso; first | exact zHut h1 | exact zHup h3 | exact zHuk h3 | exact zHBE h4 | exact zHuv h4 | omega))
      | true =>
        have Hup : Hid (PathOk a) := htup.1 rfl
        clear htup
        have cv1_2 := (k4c HBv1_3).2.2.1
        by_cases hc2 : b = ⟨#[]⟩
        · have hc2b : (b).toList.isEmpty = true := isEmpty_yes (by rw [hc2]; rfl)
          have HBE : Hid (b = ⟨#[]⟩) := hc2
          go_wp2_with fail
          go_ret
          refine ⟨true, rfl, ?_, hb3⟩
          have zHut := Hut.out
          have zHK1 := HK1.out
          have zHup := Hup.out
          have zHBE := HBE.out
          unfold BanP
          first
            | (simp_all; done)
            | (constructor
               · intro h
                 first
                   | (cases h; done)
                   | exact ⟨zHut, .inl ⟨.inl zHK1, zHup, zHBE⟩⟩
                   | exact ⟨zHut, .inl ⟨.inr zHK2, zHup, zHBE⟩⟩
                   | exact ⟨zHut, .inr ⟨zHK3, zHuk, zv.1 h⟩⟩
                   | exact ⟨zHut, .inr ⟨zHK3, zHuk, zHuv⟩⟩
               · rintro ⟨h1, (⟨h2 | h2, h3, h4⟩ | ⟨h2, h3, h4⟩)⟩
                 all_goals first
                   | rfl
                   | exact zv.2 h4
                   | (exfalso; first | exact zHut h1 | exact zHup h3 | exact zHuk h3 | exact zHBE h4 | exact zHuv h4 | omega))
        · have hc2b : (b).toList.isEmpty = false := isEmpty_no (Nat.pos_of_ne_zero (fun e => hc2 (empty_text e)))
          have HBE : Hid (¬ b = ⟨#[]⟩) := hc2
          go_wp2_with fail
          go_ret
          refine ⟨false, rfl, ?_, hb3⟩
          have zHut := Hut.out
          have zHK1 := HK1.out
          have zHup := Hup.out
          have zHBE := HBE.out
          unfold BanP
          first
            | (simp_all; done)
            | (constructor
               · intro h
                 first
                   | (cases h; done)
                   | exact ⟨zHut, .inl ⟨.inl zHK1, zHup, zHBE⟩⟩
                   | exact ⟨zHut, .inl ⟨.inr zHK2, zHup, zHBE⟩⟩
                   | exact ⟨zHut, .inr ⟨zHK3, zHuk, zv.1 h⟩⟩
                   | exact ⟨zHut, .inr ⟨zHK3, zHuk, zHuv⟩⟩
               · rintro ⟨h1, (⟨h2 | h2, h3, h4⟩ | ⟨h2, h3, h4⟩)⟩
                 all_goals first
                   | rfl
                   | exact zv.2 h4
                   | (exfalso; first | exact zHut h1 | exact zHup h3 | exact zHuk h3 | exact zHBE h4 | exact zHuv h4 | omega))
    · have hc1b : ((k : Int) == (1 : Int)) = false := by simpa using hc1
      have hc1n : ((k : Int) != (1 : Int)) = true := by simpa using hc1
      have HK1 : Hid (¬ k = 1) := hc1
      have hc1H : Hid (¬ (k = 1)) := hc1
      clear hc1
      by_cases hc2 : k = 2
      · have hc2b : ((k : Int) == (2 : Int)) = true := by simpa using hc2
        have hc2n : ((k : Int) != (2 : Int)) = false := by simpa using hc2
        have HK2 : Hid (k = 2) := hc2
        have hc2H : Hid (k = 2) := hc2
        clear hc2
        have cv1_1 := (k4c HBv1_2).2.1
        go_wp2_with fail
        refine (l3Path_any a _ HAM.out).mono ?_
        rintro e w3 ⟨up, rfl, htup, bw⟩
        have hb3 := hbt hb2 bw
        have HM3 := hsz bw
        have HBv1_3 := hblk HBv1_2 bw
        clear hb2 HBv1_2 bw
        clear cv1_0 cv1_1
        cases up with
        | false =>
          have Hup : Hid (¬ PathOk a) := fun h => nomatch htup.2 h
          clear htup
          go_wp2_with fail
          go_ret
          refine ⟨false, rfl, ?_, hb3⟩
          have zHut := Hut.out
          have zHK1 := HK1.out
          have zHK2 := HK2.out
          have zHup := Hup.out
          unfold BanP
          first
            | (simp_all; done)
            | (constructor
               · intro h
                 first
                   | (cases h; done)
                   | exact ⟨zHut, .inl ⟨.inl zHK1, zHup, zHBE⟩⟩
                   | exact ⟨zHut, .inl ⟨.inr zHK2, zHup, zHBE⟩⟩
                   | exact ⟨zHut, .inr ⟨zHK3, zHuk, zv.1 h⟩⟩
                   | exact ⟨zHut, .inr ⟨zHK3, zHuk, zHuv⟩⟩
               · rintro ⟨h1, (⟨h2 | h2, h3, h4⟩ | ⟨h2, h3, h4⟩)⟩
                 all_goals first
                   | rfl
                   | exact zv.2 h4
                   | (exfalso; first | exact zHut h1 | exact zHup h3 | exact zHuk h3 | exact zHBE h4 | exact zHuv h4 | omega))
        | true =>
          have Hup : Hid (PathOk a) := htup.1 rfl
          clear htup
          have cv1_2 := (k4c HBv1_3).2.2.1
          by_cases hc3 : b = ⟨#[]⟩
          · have hc3b : (b).toList.isEmpty = true := isEmpty_yes (by rw [hc3]; rfl)
            have HBE : Hid (b = ⟨#[]⟩) := hc3
            go_wp2_with fail
            go_ret
            refine ⟨true, rfl, ?_, hb3⟩
            have zHut := Hut.out
            have zHK1 := HK1.out
            have zHK2 := HK2.out
            have zHup := Hup.out
            have zHBE := HBE.out
            unfold BanP
            first
              | (simp_all; done)
              | (constructor
                 · intro h
                   first
                     | (cases h; done)
                     | exact ⟨zHut, .inl ⟨.inl zHK1, zHup, zHBE⟩⟩
                     | exact ⟨zHut, .inl ⟨.inr zHK2, zHup, zHBE⟩⟩
                     | exact ⟨zHut, .inr ⟨zHK3, zHuk, zv.1 h⟩⟩
                     | exact ⟨zHut, .inr ⟨zHK3, zHuk, zHuv⟩⟩
                 · rintro ⟨h1, (⟨h2 | h2, h3, h4⟩ | ⟨h2, h3, h4⟩)⟩
                   all_goals first
                     | rfl
                     | exact zv.2 h4
                     | (exfalso; first | exact zHut h1 | exact zHup h3 | exact zHuk h3 | exact zHBE h4 | exact zHuv h4 | omega))
          · have hc3b : (b).toList.isEmpty = false := isEmpty_no (Nat.pos_of_ne_zero (fun e => hc3 (empty_text e)))
            have HBE : Hid (¬ b = ⟨#[]⟩) := hc3
            go_wp2_with fail
            go_ret
            refine ⟨false, rfl, ?_, hb3⟩
            have zHut := Hut.out
            have zHK1 := HK1.out
            have zHK2 := HK2.out
            have zHup := Hup.out
            have zHBE := HBE.out
            unfold BanP
            first
              | (simp_all; done)
              | (constructor
                 · intro h
                   first
                     | (cases h; done)
                     | exact ⟨zHut, .inl ⟨.inl zHK1, zHup, zHBE⟩⟩
                     | exact ⟨zHut, .inl ⟨.inr zHK2, zHup, zHBE⟩⟩
                     | exact ⟨zHut, .inr ⟨zHK3, zHuk, zv.1 h⟩⟩
                     | exact ⟨zHut, .inr ⟨zHK3, zHuk, zHuv⟩⟩
                 · rintro ⟨h1, (⟨h2 | h2, h3, h4⟩ | ⟨h2, h3, h4⟩)⟩
                   all_goals first
                     | rfl
                     | exact zv.2 h4
                     | (exfalso; first | exact zHut h1 | exact zHup h3 | exact zHuk h3 | exact zHBE h4 | exact zHuv h4 | omega))
      · have hc2b : ((k : Int) == (2 : Int)) = false := by simpa using hc2
        have hc2n : ((k : Int) != (2 : Int)) = true := by simpa using hc2
        have HK2 : Hid (¬ k = 2) := hc2
        have hc2H : Hid (¬ (k = 2)) := hc2
        clear hc2
        by_cases hc3 : k = 3
        · have hc3b : ((k : Int) == (3 : Int)) = true := by simpa using hc3
          have hc3n : ((k : Int) != (3 : Int)) = false := by simpa using hc3
          have HK3 : Hid (k = 3) := hc3
          have hc3H : Hid (k = 3) := hc3
          clear hc3
          have cv1_1 := (k4c HBv1_2).2.1
          go_wp2_with fail
          refine (specTokenOk_any a _ HAM.out).mono ?_
          rintro e w3 ⟨uk, rfl, htuk, bw⟩
          have hb3 := hbt hb2 bw
          have HM3 := hsz bw
          have HBv1_3 := hblk HBv1_2 bw
          clear hb2 HBv1_2 bw
          clear cv1_0 cv1_1
          cases uk with
          | false =>
            have Huk : Hid (¬ TokOk a) := fun h => nomatch htuk.2 h
            clear htuk
            go_wp2_with fail
            go_ret
            refine ⟨false, rfl, ?_, hb3⟩
            have zHut := Hut.out
            have zHK1 := HK1.out
            have zHK2 := HK2.out
            have zHK3 := HK3.out
            have zHuk := Huk.out
            unfold BanP
            first
              | (simp_all; done)
              | (constructor
                 · intro h
                   first
                     | (cases h; done)
                     | exact ⟨zHut, .inl ⟨.inl zHK1, zHup, zHBE⟩⟩
                     | exact ⟨zHut, .inl ⟨.inr zHK2, zHup, zHBE⟩⟩
                     | exact ⟨zHut, .inr ⟨zHK3, zHuk, zv.1 h⟩⟩
                     | exact ⟨zHut, .inr ⟨zHK3, zHuk, zHuv⟩⟩
                 · rintro ⟨h1, (⟨h2 | h2, h3, h4⟩ | ⟨h2, h3, h4⟩)⟩
                   all_goals first
                     | rfl
                     | exact zv.2 h4
                     | (exfalso; first | exact zHut h1 | exact zHup h3 | exact zHuk h3 | exact zHBE h4 | exact zHuv h4 | omega))
          | true =>
            have Huk : Hid (TokOk a) := htuk.1 rfl
            clear htuk
            have cv1_2 := (k4c HBv1_3).2.2.1
            go_wp2_with fail
            refine (specValueOk_any b _ HBM.out).mono ?_
            rintro e w4 ⟨uv, rfl, htuv, bw⟩
            have hb4 := hbt hb3 bw
            have HBv1_4 := hblk HBv1_3 bw
            clear hb3 HBv1_3 bw
            clear cv1_2
            go_wp2_with fail
            go_ret
            refine ⟨uv, rfl, ?_, hb4⟩
            have zHut := Hut.out
            have zHK1 := HK1.out
            have zHK2 := HK2.out
            have zHK3 := HK3.out
            have zHuk := Huk.out
            have zv := htuv
            unfold BanP
            first
              | (simp_all; done)
              | (constructor
                 · intro h
                   first
                     | (cases h; done)
                     | exact ⟨zHut, .inl ⟨.inl zHK1, zHup, zHBE⟩⟩
                     | exact ⟨zHut, .inl ⟨.inr zHK2, zHup, zHBE⟩⟩
                     | exact ⟨zHut, .inr ⟨zHK3, zHuk, zv.1 h⟩⟩
                     | exact ⟨zHut, .inr ⟨zHK3, zHuk, zHuv⟩⟩
                 · rintro ⟨h1, (⟨h2 | h2, h3, h4⟩ | ⟨h2, h3, h4⟩)⟩
                   all_goals first
                     | rfl
                     | exact zv.2 h4
                     | (exfalso; first | exact zHut h1 | exact zHup h3 | exact zHuk h3 | exact zHBE h4 | exact zHuv h4 | omega))
        · have hc3b : ((k : Int) == (3 : Int)) = false := by simpa using hc3
          have hc3n : ((k : Int) != (3 : Int)) = true := by simpa using hc3
          have HK3 : Hid (¬ k = 3) := hc3
          have hc3H : Hid (¬ (k = 3)) := hc3
          clear hc3
          go_wp2_with fail
          go_ret
          refine ⟨false, rfl, ?_, hb2⟩
          have zHut := Hut.out
          have zHK1 := HK1.out
          have zHK2 := HK2.out
          have zHK3 := HK3.out
          unfold BanP
          first
            | (simp_all; done)
            | (constructor
               · intro h
                 first
                   | (cases h; done)
                   | exact ⟨zHut, .inl ⟨.inl zHK1, zHup, zHBE⟩⟩
                   | exact ⟨zHut, .inl ⟨.inr zHK2, zHup, zHBE⟩⟩
                   | exact ⟨zHut, .inr ⟨zHK3, zHuk, zv.1 h⟩⟩
                   | exact ⟨zHut, .inr ⟨zHK3, zHuk, zHuv⟩⟩
               · rintro ⟨h1, (⟨h2 | h2, h3, h4⟩ | ⟨h2, h3, h4⟩)⟩
                 all_goals first
                   | rfl
                   | exact zv.2 h4
                   | (exfalso; first | exact zHut h1 | exact zHup h3 | exact zHuk h3 | exact zHBE h4 | exact zHuv h4 | omega))
end Go.Proofs.YtbmhonfgffjpcaaGreat
namespace Go.Proofs.YtbmhonfgffjpcaaGreat
open Go.RowKit
open Go.Lib hiding intOf
theorem l9Names_any (oa : Option Addr) (m cm : Nat) (xs : List ByteArray) (w : World) (hx : TextsA w oa m xs) (hm : m ≤ 2000000) (hsz : ∀ i, i < m → (textAt xs i).size ≤ maxLen) :
  Calls Tryz.prog 118 #[.slice oa m cm] w fun e w' => BoolIs (NamesP xs) w e w' := by
 have HX : Hid (∀ W, Below w.heap.size w W → TextsA W oa m xs) := fun W h => hx.below h
 have HL : Hid (xs.length = m) := hx.1
 have HS : Hid (∀ i, i < m → (textAt xs i).size ≤ maxLen) := hsz
 clear hx hsz
 go_enter Tryz.func118, Tryz.ntmps118
 go_wp2_with fail
 go_loopw [3] (fun i wr => ∃ j : Nat, j ≤ m ∧ i = .int .i64 (j : Int) ∧ Below w.heap.size w wr ∧ Hid (∀ x ∈ xs.take j, TokOk x)) (fun i _ => m - (intOf i).toNat)
 case atStart => exact ⟨0, Nat.zero_le _, rfl, Below.refl _ _, fun x hx => by simp at hx⟩
 case round =>
  obtain ⟨j, hj, rfl, hbw, HN⟩ := hrel
  by_cases hlt : (j : Int) < (m : Int)
  ·
   have hjx : j < xs.length := by rw [HL.out]; omega
   obtain ⟨g, rfl, hg, hc⟩ := (HX.out wr hbw).2 j (by omega)
   have hs := HS.out j (by omega)
   obtain ⟨x, hxx⟩ := exq (textAt xs j)
   rw [← hxx] at hc hs
   have HM : Hid (x ∈ xs) := by show _ ∈ _; rw [hxx]; exact textAt_mem xs j hjx
   have HT : Hid (xs.take (j + 1) = xs.take j ++ [x]) := by show _ = _; rw [take_textAt xs j hjx, hxx]
   clear hxx hjx
   go_wp2_with fail
   refine (specTokenOk_any x _ hs).mono ?_
   rintro e w1 ⟨t, rfl, ht, b1⟩
   have hb1 : Below w.heap.size w w1 := hbw.trans (b1.mono hbw.size)
   clear b1 hbw hc
   cases t with
   | false =>
    have HF : Hid (¬ NamesP xs) := fun h => nomatch ht.2 (h.1 x HM.out)
    clear ht HN
    go_wp2_with fail
    go_ret
    exact BoolIs.no HF.out hb1
   | true =>
    have HN2 : Hid (∀ y ∈ xs.take (j + 1), TokOk y) := by
     intro y hy
     rw [HT.out] at hy
     rcases List.mem_append.1 hy with hy | hy
     · exact HN.out y hy
     · rw [List.mem_singleton.1 hy]; exact ht.1 rfl
    clear ht HN
    go_wp2_with fail
    go_roundw
    case rel => exact ⟨j + 1, by omega, by go_num, hb1, HN2⟩
    case measure => simp [intOf]; omega
  ·
   have HA : Hid (∀ x ∈ xs, TokOk x) := by
    have h := HN.out
    rw [List.take_of_length_le (by rw [HL.out]; omega)] at h
    exact h
   have HQ : Hid (((m : Int) ≤ 4) ↔ NamesP xs) := ⟨fun h => ⟨HA.out, by rw [HL.out]; omega⟩, fun h => by have := h.2; rw [HL.out] at this; omega⟩
   clear HN
   go_wp2_with fail
   go_ret
   exact ⟨decide ((m : Int) ≤ 4), rfl, by rw [decide_eq_true_iff]; exact HQ.out, hbw⟩
end Go.Proofs.YtbmhonfgffjpcaaGreat
namespace Go.Proofs.YtbmhonfgffjpcaaGreat
open Go.RowKit
open Go.Lib hiding intOf
theorem place_any (v : Value) (n base : Nat) (fs : List (ByteArray × ByteArray)) (name : ByteArray) (w : World) (hv : FieldsV w base v n fs) (hn : n ≤ 1073741824) :
  Calls Tryz.prog 201 #[v, .string name] w fun e w' => e = .returned (.int .i64 (atF fs name : Int)) ∧ w' = w := by
 have hl := hv.len
 obtain ⟨oa, cap, rfl, hrow⟩ := hv.slice
 clear hv
 go_enter Tryz.func201, Tryz.ntmps201
 go_wp2
 go_loop [8] (fun i => ∃ k : Nat, k ≤ n ∧ i = .int .i64 (k : Int) ∧ Hid (∀ j, j < k → nameAt fs j ≠ name)) (fun i => n - (intOf i).toNat)
 case atStart => exact ⟨0, Nat.zero_le _, rfl, fun j h => absurd h (by omega)⟩
 case round =>
  obtain ⟨k, hk, rfl, hb⟩ := hrel
  by_cases hlt : k < n
  ·
   obtain ⟨g, rfl, row⟩ := hrow k hlt
   have hc := row.name k hlt
   have hlt2 : (k : Int) < (n : Int) := by omega
   clear hrow row
   by_cases he : nameAt fs k = name
   ·
    have hT : Hid (atF fs name = k) := atF_uniq (by omega) hb.out he
    have ht : ((nameAt fs k).toList == name.toList) = true := (text_beq _ _).2 he
    clear he
    go_wp2
    go_ret
    exact ⟨by rw [hT.out]; rfl, rfl⟩
   ·
    have ht := text_beq_no he
    have HE : Hid (nameAt fs k ≠ name) := he
    clear he
    go_wp2
    go_round
    case rel =>
     refine ⟨k + 1, by omega, by go_num, ?_⟩
     intro j hj
     by_cases e : j = k
     · subst e; exact HE.out
     · exact hb.out j (by omega)
    case measure => simp [intOf]; omega
  ·
   have hT : Hid (atF fs name = n) := by
    have := atF_none (fs := fs) (name := name) (fun j hj => hb.out j (by omega))
    show _ = _
    omega
   clear hrow
   go_wp2
   go_ret
   exact ⟨by rw [hT.out]; rfl, rfl⟩
/-- Every text of the fields is short enough to be copied. -/
def CopyF (fs : List (ByteArray × ByteArray)) : Prop := ∀ i, i < fs.length → (nameAt fs i).size ≤ 281474976710656 ∧ (valAt fs i).size ≤ 281474976710656
theorem implGet_any (v : Value) (n base : Nat) (fs : List (ByteArray × ByteArray)) (name : ByteArray) (w : World) (hv : FieldsV w base v n fs) (hn : n ≤ 1073741824) (hsz : CopyF fs) :
  Calls Tryz.prog 184 #[v, .string name] w fun e w' => e = .returned (.tuple #[.string (getV fs name), .bool (getB fs name)]) ∧ Below w.heap.size w w' := by
 have hl := hv.len
 have hv0 := hv
 obtain ⟨oa, cap, rfl, hrow⟩ := hv0.slice
 clear hv0
 obtain ⟨k, hk⟩ := exq (atF fs name)
 have hle := atF_le fs name
 by_cases hin : atF fs name < fs.length
 ·
  have hV : Hid (getV fs name = valAt fs k) := by show _ = _; unfold getV; rw [if_pos hin, hk]
  have hB : Hid (getB fs name = true) := by show _ = _; unfold getB; simpa using hin
  obtain ⟨g, rfl, row⟩ := hrow k (by omega)
  have hc := row.val k (by omega)
  have hlt : (k : Int) < (n : Int) := by omega
  have hne : ((k : Int) == (n : Int)) = false := by rw [beq_eq_false_iff_ne]; omega
  obtain ⟨_, hz⟩ := hsz k (by omega)
  obtain ⟨vl, hvl⟩ := exq (valAt fs k)
  rw [← hvl] at hV hc hz
  go_enter Tryz.func184, Tryz.ntmps184
  go_wp2_with fail
  refine (place_any _ n base fs name _ hv hn).mono ?_
  rintro e w1 ⟨rfl, rfl⟩
  rw [← hk]
  clear hv hrow row hk hvl hle hin hsz
  go_wp2_with fail
  refine (clone_any vl _ hz).mono ?_
  rintro e w2 ⟨rfl, hb2⟩
  go_wp2
  go_ret2
  exact ⟨by rw [hV.out, hB.out]; rfl, hb2⟩
 ·
  have hV : Hid (getV fs name = ⟨#[]⟩) := by show _ = _; unfold getV; rw [if_neg hin]
  have hB : Hid (getB fs name = false) := by show _ = _; unfold getB; simpa using hin
  have hkn : k = n := by omega
  go_enter Tryz.func184, Tryz.ntmps184
  go_wp2_with fail
  refine (place_any _ n base fs name _ hv hn).mono ?_
  rintro e w1 ⟨rfl, rfl⟩
  rw [← hk, hkn]
  clear hv hrow hk hle hin hsz hkn
  go_wp2
  go_ret2
  exact ⟨by rw [hV.out, hB.out]; rfl, Below.refl _ _⟩
end Go.Proofs.YtbmhonfgffjpcaaGreat
namespace Go.Proofs.YtbmhonfgffjpcaaGreat
open Go.RowKit
open Go.Lib hiding intOf
/-- What one word says that is no age. -/
def saidF (x : ByteArray) : CcD := if x = nsW then ⟨true, false, false, false, false, 0⟩ else if x = ncW then ⟨false, true, false, false, false, 0⟩ else if x = prW then ⟨false, false, true, false, false, 0⟩ else if x = muW then ⟨false, false, false, true, false, 0⟩ else cc0
/-- What one word says. -/
noncomputable def saidB (x : ByteArray) : CcD := match ageOf x with
 | some n => ⟨false, false, false, false, true, n⟩
 | none => saidF x
def leastA (a b : CcD) : Int := if a.ha = false then b.age else if b.ha = false then a.age else min a.age b.age
def toge (a b : CcD) : CcD := ⟨a.ns || b.ns, a.nc || b.nc, a.pr || b.pr, a.mu || b.mu, a.ha || b.ha, leastA a b⟩
theorem ageOf_word {x : ByteArray} (h : x = nsW ∨ x = ncW ∨ x = prW ∨ x = muW) : ageOf x = none := by
 unfold ageOf
 rw [if_neg]
 rcases h with rfl | rfl | rfl | rfl <;> decide
theorem step_toge {c : CcD} (h : c.fit) (x : ByteArray) : ccStep c x = toge c (saidB x) := by
 obtain ⟨a0, a1, a2, a3, a4, ax⟩ := c
 have h3 : a4 = false → ax = 0 := h.2.2
 unfold ccStep saidB
 by_cases h0 : x = nsW
 ·
  rw [if_pos h0, ageOf_word (.inl h0)]
  unfold saidF
  rw [if_pos h0]
  cases a4 <;> simp [toge, leastA] <;> exact h3 rfl
 rw [if_neg h0]
 by_cases h1 : x = ncW
 ·
  rw [if_pos h1, ageOf_word (.inr (.inl h1))]
  unfold saidF
  rw [if_neg h0, if_pos h1]
  cases a4 <;> simp [toge, leastA] <;> exact h3 rfl
 rw [if_neg h1]
 by_cases h2 : x = prW
 ·
  rw [if_pos h2, ageOf_word (.inr (.inr (.inl h2)))]
  unfold saidF
  rw [if_neg h0, if_neg h1, if_pos h2]
  cases a4 <;> simp [toge, leastA] <;> exact h3 rfl
 rw [if_neg h2]
 by_cases h4 : x = muW
 ·
  rw [if_pos h4, ageOf_word (.inr (.inr (.inr h4)))]
  unfold saidF
  rw [if_neg h0, if_neg h1, if_neg h2, if_pos h4]
  cases a4 <;> simp [toge, leastA] <;> exact h3 rfl
 rw [if_neg h4]
 cases ageOf x with
 | none =>
  dsimp only
  unfold saidF
  rw [if_neg h0, if_neg h1, if_neg h2, if_neg h4]
  cases a4 <;> simp [toge, leastA, cc0] <;> exact h3 rfl
 | some n => cases a4 <;> simp [toge, leastA]
theorem putCc_other {w : World} {g j : Nat} {d : CcD} (h : j ≠ g) : (putCc w g d).heap[j]? = w.heap[j]? := by
 unfold putCc
 rw [heap_setCell_other _ _ j _ h, heap_setCell_other _ _ j _ h, heap_setCell_other _ _ j _ h, heap_setCell_other _ _ j _ h, heap_setCell_other _ _ j _ h, heap_setCell_other _ _ j _ h]
/-- 'wpAnyH_take', its place named. -/
theorem wpAnyH_takeD {P : Program} {ops : Array Oper} {Q : Exit → Act → World → Prop} {md : Region.Mode} {S : World → Prop} {i : Nat} {oi : Oper} {v : Value} {fuel : Nat} {listed : Array Bool} {a : Act} {w : World} (d : Option Tmp) (hi : ops[i]? = some oi) (hd : oi.dst = d)
  (hs : Region.noSelect ops = true) (hf : Region.free md ops listed i = true) (hr : (Region.ready md ops listed).contains i = true)
  (hQ : ∀ c a w, Q (.panic c) (a.put oi.dst v) w → Q (.panic c) a w) (hy : YieldsIf P ops S oi v a) (hS : S w)
  (h : wpAnyH P md ops Q S fuel (listed.setIfInBounds i true) (a.put d v) w) : wpAnyH P md ops Q S (fuel + 1) listed a w :=
 wpAnyH_take hi hs hf hr hQ hy hS (hd ▸ h)
theorem yieldsIf_guard {P : Program} {ops : Array Oper} {S : World → Prop} {o : Oper} {v : Value} {a : Act} (g : Bool) (hw : Region.wanted o (yielded ops a.tmps) = g) (hv : g = true → ∀ w, S w → (execOp a.eval o).run P w = .ok (.value v) w) : YieldsIf P ops S o (if g = true then v else undef) a := by
 cases g with
 | true => exact Or.inl ⟨hw, by simpa using hv rfl⟩
 | false => exact Or.inr ⟨hw, by simp⟩
theorem leastAge_any (a b : CcD) (w : World) :
  Calls Tryz.prog 223 #[a.v, b.v] w fun e w' => e = .returned (.int .i64 (leastA a b)) ∧ Below w.heap.size w w' := by
 obtain ⟨a0, a1, a2, a3, a4, ax⟩ := a
 obtain ⟨b0, b1, b2, b3, b4, bx⟩ := b
 have HB : Hid (∀ o1 o2, Below w.heap.size w ((w.alloc o1).alloc o2)) := fun o1 o2 => ((Below.refl _ w).alloc (Nat.le_refl _) _).alloc (by simp) _
 have HE : Hid (leastA ⟨a0, a1, a2, a3, a4, ax⟩ ⟨b0, b1, b2, b3, b4, bx⟩ = if a4 = false then bx else if b4 = false then ax else min ax bx) := rfl
 show Calls _ _ #[.agg #[.bool a0, .bool a1, .bool a2, .bool a3, .bool a4, .int .i64 ax], .agg #[.bool b0, .bool b1, .bool b2, .bool b3, .bool b4, .int .i64 bx]] _ _
 cases a4 with
 | false =>
  go_enter Tryz.func223, Tryz.ntmps223
  go_wp2
  go_ret
  exact ⟨by rw [HE.out]; rfl, HB.out _ _⟩
 | true =>
  cases b4 with
  | false =>
   go_enter Tryz.func223, Tryz.ntmps223
   go_wp2
   go_ret
   exact ⟨by rw [HE.out]; rfl, HB.out _ _⟩
  | true =>
   go_enter Tryz.func223, Tryz.ntmps223
   go_wp2
   go_ret
   exact ⟨by rw [HE.out]; rfl, HB.out _ _⟩
theorem together_any (a b : CcD) (w : World) :
  Calls Tryz.prog 214 #[a.v, b.v] w fun e w' => e = .returned (toge a b).v ∧ Below w.heap.size w w' := by
 obtain ⟨a0, a1, a2, a3, a4, ax⟩ := a
 obtain ⟨b0, b1, b2, b3, b4, bx⟩ := b
 show Calls _ _ #[.agg #[.bool a0, .bool a1, .bool a2, .bool a3, .bool a4, .int .i64 ax], .agg #[.bool b0, .bool b1, .bool b2, .bool b3, .bool b4, .int .i64 bx]] _ _
 obtain ⟨H, hH⟩ := exq (w.heap.size)
 have HW : Hid (w.heap.size = H) := hH.symm
 obtain ⟨W1, hW1⟩ := exq (((w.alloc (.cells #[.bool a0, .bool a1, .bool a2, .bool a3, .bool a4, .int .i64 ax] 190)).alloc (.cells #[.bool b0, .bool b1, .bool b2, .bool b3, .bool b4, .int .i64 bx] 190)).alloc (.cells #[.bool false, .bool false, .bool false, .bool false, .bool false, .int .i64 0] 190))
 have HS1 : CcAt W1 H (⟨a0, a1, a2, a3, a4, ax⟩ : CcD) ∧ CcAt W1 (H + 1) (⟨b0, b1, b2, b3, b4, bx⟩ : CcD) ∧ CcAt W1 (H + 1 + 1) cc0 ∧ Below H w W1 := by
  have e1 := heap_alloc_new w (.cells #[.bool a0, .bool a1, .bool a2, .bool a3, .bool a4, .int .i64 ax] 190)
  have e2 := heap_alloc_new (w.alloc (.cells #[.bool a0, .bool a1, .bool a2, .bool a3, .bool a4, .int .i64 ax] 190)) (.cells #[.bool b0, .bool b1, .bool b2, .bool b3, .bool b4, .int .i64 bx] 190)
  have e3 := heap_alloc_new ((w.alloc (.cells #[.bool a0, .bool a1, .bool a2, .bool a3, .bool a4, .int .i64 ax] 190)).alloc (.cells #[.bool b0, .bool b1, .bool b2, .bool b3, .bool b4, .int .i64 bx] 190)) (.cells #[.bool false, .bool false, .bool false, .bool false, .bool false, .int .i64 0] 190)
  rw [World.size_alloc] at e2
  rw [World.size_alloc, World.size_alloc] at e3
  refine ⟨?_, ?_, ?_, ?_⟩
  · unfold CcAt; rw [hW1, hH, heap_alloc_old _ _ (by simp; omega), heap_alloc_old _ _ (by simp)]; exact e1
  · unfold CcAt; rw [hW1, hH, heap_alloc_old _ _ (by simp)]; exact e2
  · unfold CcAt; rw [hW1, hH]; exact e3
  · rw [hW1, hH]; exact (((Below.refl _ w).alloc (Nat.le_refl _) _).alloc (by simp) _).alloc (by simp; omega) _
 have HW1 : Hid (((w.alloc (.cells #[.bool a0, .bool a1, .bool a2, .bool a3, .bool a4, .int .i64 ax] 190)).alloc (.cells #[.bool b0, .bool b1, .bool b2, .bool b3, .bool b4, .int .i64 bx] 190)).alloc (.cells #[.bool false, .bool false, .bool false, .bool false, .bool false, .int .i64 0] 190) = W1) := hW1.symm
 have HL := leastAge_any (⟨a0, a1, a2, a3, a4, ax⟩ : CcD) (⟨b0, b1, b2, b3, b4, bx⟩ : CcD)
 dsimp only [CcD.v] at HL
 obtain ⟨m, hm⟩ : ∃ m, m = leastA (⟨a0, a1, a2, a3, a4, ax⟩ : CcD) (⟨b0, b1, b2, b3, b4, bx⟩ : CcD) := ⟨_, rfl⟩
 rw [← hm] at HL
 have HLL : Hid _ := HL
 have HM : Hid (m = leastA (⟨a0, a1, a2, a3, a4, ax⟩ : CcD) (⟨b0, b1, b2, b3, b4, bx⟩ : CcD)) := hm
 clear hW1 HL hm
 go_enter Tryz.func214, Tryz.ntmps214
 go_upto_region 1 with fail
 rw [HW1.out, ← hH]
 clear hH HW1
 refine wp_region_held_drew (S := fun W => CcAt W H (⟨a0, a1, a2, a3, a4, ax⟩ : CcD) ∧ CcAt W (H + 1) (⟨b0, b1, b2, b3, b4, bx⟩ : CcD) ∧ (∃ c, CcAt W (H + 1 + 1) c) ∧ Below H w W) (by kernel_rfl) ⟨HS1.1, HS1.2.1, ⟨_, HS1.2.2.1⟩, HS1.2.2.2.drew⟩ (fun hHeld => ?_)
 clear HS1
 refine wpAnyH_takeD (i := 0) (v := .pointer (some ⟨H, 0, none⟩)) (some 5) rfl rfl (by kernel_rfl) (by kernel_rfl) (by kernel_rfl) (fun _ _ _ h => h) (Or.inl ⟨by rfl, by intro W hSW; obtain ⟨⟨p0, p1, p2, p3, p4, p5⟩, ⟨r0, r1, r2, r3, r4, r5⟩⟩ := And.intro hSW.1.cells hSW.2.1.cells; dsimp only at p0 p1 p2 p3 p4 p5 r0 r1 r2 r3 r4 r5; go_simp⟩) (by assumption) ?_
 go_frame
 refine wpAnyH_takeD (i := 1) (v := .bool a0) (some 6) rfl rfl (by kernel_rfl) (by kernel_rfl) (by kernel_rfl) (fun _ _ _ h => h) (Or.inl ⟨by rfl, by intro W hSW; obtain ⟨⟨p0, p1, p2, p3, p4, p5⟩, ⟨r0, r1, r2, r3, r4, r5⟩⟩ := And.intro hSW.1.cells hSW.2.1.cells; dsimp only at p0 p1 p2 p3 p4 p5 r0 r1 r2 r3 r4 r5; go_simp⟩) (by assumption) ?_
 go_frame
 refine wpAnyH_takeD (i := 2) (v := .bool a0) (some 7) rfl rfl (by kernel_rfl) (by kernel_rfl) (by kernel_rfl) (fun _ _ _ h => h) (Or.inl ⟨by rfl, by intro W hSW; obtain ⟨⟨p0, p1, p2, p3, p4, p5⟩, ⟨r0, r1, r2, r3, r4, r5⟩⟩ := And.intro hSW.1.cells hSW.2.1.cells; dsimp only at p0 p1 p2 p3 p4 p5 r0 r1 r2 r3 r4 r5; go_simp⟩) (by assumption) ?_
 go_frame
 refine wpAnyH_takeD (i := 3) (v := if (!a0) = true then .pointer (some ⟨H + 1, 0, none⟩) else undef) (some 8) rfl rfl (by kernel_rfl) (by kernel_rfl) (by kernel_rfl) (fun _ _ _ h => h) (yieldsIf_guard (!a0) (by cases a0 <;> rfl) (fun hg => by cases a0 with | true => cases hg | false => (intro W hSW; obtain ⟨⟨p0, p1, p2, p3, p4, p5⟩, ⟨r0, r1, r2, r3, r4, r5⟩⟩ := And.intro hSW.1.cells hSW.2.1.cells; dsimp only at p0 p1 p2 p3 p4 p5 r0 r1 r2 r3 r4 r5; go_simp))) (by assumption) ?_
 go_frame
 refine wpAnyH_takeD (i := 4) (v := if (!a0) = true then .bool b0 else undef) (some 9) rfl rfl (by kernel_rfl) (by kernel_rfl) (by kernel_rfl) (fun _ _ _ h => h) (yieldsIf_guard (!a0) (by cases a0 <;> rfl) (fun hg => by cases a0 with | true => cases hg | false => (intro W hSW; obtain ⟨⟨p0, p1, p2, p3, p4, p5⟩, ⟨r0, r1, r2, r3, r4, r5⟩⟩ := And.intro hSW.1.cells hSW.2.1.cells; dsimp only at p0 p1 p2 p3 p4 p5 r0 r1 r2 r3 r4 r5; go_simp))) (by assumption) ?_
 go_frame
 refine wpAnyH_takeD (i := 5) (v := .bool (a0 || b0)) (some 10) rfl rfl (by kernel_rfl) (by kernel_rfl) (by kernel_rfl) (fun _ _ _ h => h) (Or.inl ⟨by rfl, by intro W hSW; cases a0 <;> go_simp⟩) (by assumption) ?_
 go_frame
 generalize (if (!a0) = true then Value.pointer (some ⟨H + 1, 0, none⟩) else undef) = z0
 generalize (if (!a0) = true then Value.bool b0 else undef) = y0
 refine wpAnyH_takeD (i := 6) (v := .pointer (some ⟨H, 1, none⟩)) (some 11) rfl rfl (by kernel_rfl) (by kernel_rfl) (by kernel_rfl) (fun _ _ _ h => h) (Or.inl ⟨by rfl, by intro W hSW; obtain ⟨⟨p0, p1, p2, p3, p4, p5⟩, ⟨r0, r1, r2, r3, r4, r5⟩⟩ := And.intro hSW.1.cells hSW.2.1.cells; dsimp only at p0 p1 p2 p3 p4 p5 r0 r1 r2 r3 r4 r5; go_simp⟩) (by assumption) ?_
 go_frame
 refine wpAnyH_takeD (i := 7) (v := .bool a1) (some 12) rfl rfl (by kernel_rfl) (by kernel_rfl) (by kernel_rfl) (fun _ _ _ h => h) (Or.inl ⟨by rfl, by intro W hSW; obtain ⟨⟨p0, p1, p2, p3, p4, p5⟩, ⟨r0, r1, r2, r3, r4, r5⟩⟩ := And.intro hSW.1.cells hSW.2.1.cells; dsimp only at p0 p1 p2 p3 p4 p5 r0 r1 r2 r3 r4 r5; go_simp⟩) (by assumption) ?_
 go_frame
 refine wpAnyH_takeD (i := 8) (v := .bool a1) (some 13) rfl rfl (by kernel_rfl) (by kernel_rfl) (by kernel_rfl) (fun _ _ _ h => h) (Or.inl ⟨by rfl, by intro W hSW; obtain ⟨⟨p0, p1, p2, p3, p4, p5⟩, ⟨r0, r1, r2, r3, r4, r5⟩⟩ := And.intro hSW.1.cells hSW.2.1.cells; dsimp only at p0 p1 p2 p3 p4 p5 r0 r1 r2 r3 r4 r5; go_simp⟩) (by assumption) ?_
 go_frame
 refine wpAnyH_takeD (i := 9) (v := if (!a1) = true then .pointer (some ⟨H + 1, 1, none⟩) else undef) (some 14) rfl rfl (by kernel_rfl) (by kernel_rfl) (by kernel_rfl) (fun _ _ _ h => h) (yieldsIf_guard (!a1) (by cases a1 <;> rfl) (fun hg => by cases a1 with | true => cases hg | false => (intro W hSW; obtain ⟨⟨p0, p1, p2, p3, p4, p5⟩, ⟨r0, r1, r2, r3, r4, r5⟩⟩ := And.intro hSW.1.cells hSW.2.1.cells; dsimp only at p0 p1 p2 p3 p4 p5 r0 r1 r2 r3 r4 r5; go_simp))) (by assumption) ?_
 go_frame
 refine wpAnyH_takeD (i := 10) (v := if (!a1) = true then .bool b1 else undef) (some 15) rfl rfl (by kernel_rfl) (by kernel_rfl) (by kernel_rfl) (fun _ _ _ h => h) (yieldsIf_guard (!a1) (by cases a1 <;> rfl) (fun hg => by cases a1 with | true => cases hg | false => (intro W hSW; obtain ⟨⟨p0, p1, p2, p3, p4, p5⟩, ⟨r0, r1, r2, r3, r4, r5⟩⟩ := And.intro hSW.1.cells hSW.2.1.cells; dsimp only at p0 p1 p2 p3 p4 p5 r0 r1 r2 r3 r4 r5; go_simp))) (by assumption) ?_
 go_frame
 refine wpAnyH_takeD (i := 11) (v := .bool (a1 || b1)) (some 16) rfl rfl (by kernel_rfl) (by kernel_rfl) (by kernel_rfl) (fun _ _ _ h => h) (Or.inl ⟨by rfl, by intro W hSW; cases a1 <;> go_simp⟩) (by assumption) ?_
 go_frame
 generalize (if (!a1) = true then Value.pointer (some ⟨H + 1, 1, none⟩) else undef) = z1
 generalize (if (!a1) = true then Value.bool b1 else undef) = y1
 refine wpAnyH_takeD (i := 12) (v := .pointer (some ⟨H, 2, none⟩)) (some 17) rfl rfl (by kernel_rfl) (by kernel_rfl) (by kernel_rfl) (fun _ _ _ h => h) (Or.inl ⟨by rfl, by intro W hSW; obtain ⟨⟨p0, p1, p2, p3, p4, p5⟩, ⟨r0, r1, r2, r3, r4, r5⟩⟩ := And.intro hSW.1.cells hSW.2.1.cells; dsimp only at p0 p1 p2 p3 p4 p5 r0 r1 r2 r3 r4 r5; go_simp⟩) (by assumption) ?_
 go_frame
 refine wpAnyH_takeD (i := 13) (v := .bool a2) (some 18) rfl rfl (by kernel_rfl) (by kernel_rfl) (by kernel_rfl) (fun _ _ _ h => h) (Or.inl ⟨by rfl, by intro W hSW; obtain ⟨⟨p0, p1, p2, p3, p4, p5⟩, ⟨r0, r1, r2, r3, r4, r5⟩⟩ := And.intro hSW.1.cells hSW.2.1.cells; dsimp only at p0 p1 p2 p3 p4 p5 r0 r1 r2 r3 r4 r5; go_simp⟩) (by assumption) ?_
 go_frame
 refine wpAnyH_takeD (i := 14) (v := .bool a2) (some 19) rfl rfl (by kernel_rfl) (by kernel_rfl) (by kernel_rfl) (fun _ _ _ h => h) (Or.inl ⟨by rfl, by intro W hSW; obtain ⟨⟨p0, p1, p2, p3, p4, p5⟩, ⟨r0, r1, r2, r3, r4, r5⟩⟩ := And.intro hSW.1.cells hSW.2.1.cells; dsimp only at p0 p1 p2 p3 p4 p5 r0 r1 r2 r3 r4 r5; go_simp⟩) (by assumption) ?_
 go_frame
 refine wpAnyH_takeD (i := 15) (v := if (!a2) = true then .pointer (some ⟨H + 1, 2, none⟩) else undef) (some 20) rfl rfl (by kernel_rfl) (by kernel_rfl) (by kernel_rfl) (fun _ _ _ h => h) (yieldsIf_guard (!a2) (by cases a2 <;> rfl) (fun hg => by cases a2 with | true => cases hg | false => (intro W hSW; obtain ⟨⟨p0, p1, p2, p3, p4, p5⟩, ⟨r0, r1, r2, r3, r4, r5⟩⟩ := And.intro hSW.1.cells hSW.2.1.cells; dsimp only at p0 p1 p2 p3 p4 p5 r0 r1 r2 r3 r4 r5; go_simp))) (by assumption) ?_
 go_frame
 refine wpAnyH_takeD (i := 16) (v := if (!a2) = true then .bool b2 else undef) (some 21) rfl rfl (by kernel_rfl) (by kernel_rfl) (by kernel_rfl) (fun _ _ _ h => h) (yieldsIf_guard (!a2) (by cases a2 <;> rfl) (fun hg => by cases a2 with | true => cases hg | false => (intro W hSW; obtain ⟨⟨p0, p1, p2, p3, p4, p5⟩, ⟨r0, r1, r2, r3, r4, r5⟩⟩ := And.intro hSW.1.cells hSW.2.1.cells; dsimp only at p0 p1 p2 p3 p4 p5 r0 r1 r2 r3 r4 r5; go_simp))) (by assumption) ?_
 go_frame
 refine wpAnyH_takeD (i := 17) (v := .bool (a2 || b2)) (some 22) rfl rfl (by kernel_rfl) (by kernel_rfl) (by kernel_rfl) (fun _ _ _ h => h) (Or.inl ⟨by rfl, by intro W hSW; cases a2 <;> go_simp⟩) (by assumption) ?_
 go_frame
 generalize (if (!a2) = true then Value.pointer (some ⟨H + 1, 2, none⟩) else undef) = z2
 generalize (if (!a2) = true then Value.bool b2 else undef) = y2
 refine wpAnyH_takeD (i := 18) (v := .pointer (some ⟨H, 3, none⟩)) (some 23) rfl rfl (by kernel_rfl) (by kernel_rfl) (by kernel_rfl) (fun _ _ _ h => h) (Or.inl ⟨by rfl, by intro W hSW; obtain ⟨⟨p0, p1, p2, p3, p4, p5⟩, ⟨r0, r1, r2, r3, r4, r5⟩⟩ := And.intro hSW.1.cells hSW.2.1.cells; dsimp only at p0 p1 p2 p3 p4 p5 r0 r1 r2 r3 r4 r5; go_simp⟩) (by assumption) ?_
 go_frame
 refine wpAnyH_takeD (i := 19) (v := .bool a3) (some 24) rfl rfl (by kernel_rfl) (by kernel_rfl) (by kernel_rfl) (fun _ _ _ h => h) (Or.inl ⟨by rfl, by intro W hSW; obtain ⟨⟨p0, p1, p2, p3, p4, p5⟩, ⟨r0, r1, r2, r3, r4, r5⟩⟩ := And.intro hSW.1.cells hSW.2.1.cells; dsimp only at p0 p1 p2 p3 p4 p5 r0 r1 r2 r3 r4 r5; go_simp⟩) (by assumption) ?_
 go_frame
 refine wpAnyH_takeD (i := 20) (v := .bool a3) (some 25) rfl rfl (by kernel_rfl) (by kernel_rfl) (by kernel_rfl) (fun _ _ _ h => h) (Or.inl ⟨by rfl, by intro W hSW; obtain ⟨⟨p0, p1, p2, p3, p4, p5⟩, ⟨r0, r1, r2, r3, r4, r5⟩⟩ := And.intro hSW.1.cells hSW.2.1.cells; dsimp only at p0 p1 p2 p3 p4 p5 r0 r1 r2 r3 r4 r5; go_simp⟩) (by assumption) ?_
 go_frame
 refine wpAnyH_takeD (i := 21) (v := if (!a3) = true then .pointer (some ⟨H + 1, 3, none⟩) else undef) (some 26) rfl rfl (by kernel_rfl) (by kernel_rfl) (by kernel_rfl) (fun _ _ _ h => h) (yieldsIf_guard (!a3) (by cases a3 <;> rfl) (fun hg => by cases a3 with | true => cases hg | false => (intro W hSW; obtain ⟨⟨p0, p1, p2, p3, p4, p5⟩, ⟨r0, r1, r2, r3, r4, r5⟩⟩ := And.intro hSW.1.cells hSW.2.1.cells; dsimp only at p0 p1 p2 p3 p4 p5 r0 r1 r2 r3 r4 r5; go_simp))) (by assumption) ?_
 go_frame
 refine wpAnyH_takeD (i := 22) (v := if (!a3) = true then .bool b3 else undef) (some 27) rfl rfl (by kernel_rfl) (by kernel_rfl) (by kernel_rfl) (fun _ _ _ h => h) (yieldsIf_guard (!a3) (by cases a3 <;> rfl) (fun hg => by cases a3 with | true => cases hg | false => (intro W hSW; obtain ⟨⟨p0, p1, p2, p3, p4, p5⟩, ⟨r0, r1, r2, r3, r4, r5⟩⟩ := And.intro hSW.1.cells hSW.2.1.cells; dsimp only at p0 p1 p2 p3 p4 p5 r0 r1 r2 r3 r4 r5; go_simp))) (by assumption) ?_
 go_frame
 refine wpAnyH_takeD (i := 23) (v := .bool (a3 || b3)) (some 28) rfl rfl (by kernel_rfl) (by kernel_rfl) (by kernel_rfl) (fun _ _ _ h => h) (Or.inl ⟨by rfl, by intro W hSW; cases a3 <;> go_simp⟩) (by assumption) ?_
 go_frame
 generalize (if (!a3) = true then Value.pointer (some ⟨H + 1, 3, none⟩) else undef) = z3
 generalize (if (!a3) = true then Value.bool b3 else undef) = y3
 refine wpAnyH_takeD (i := 24) (v := .pointer (some ⟨H, 4, none⟩)) (some 29) rfl rfl (by kernel_rfl) (by kernel_rfl) (by kernel_rfl) (fun _ _ _ h => h) (Or.inl ⟨by rfl, by intro W hSW; obtain ⟨⟨p0, p1, p2, p3, p4, p5⟩, ⟨r0, r1, r2, r3, r4, r5⟩⟩ := And.intro hSW.1.cells hSW.2.1.cells; dsimp only at p0 p1 p2 p3 p4 p5 r0 r1 r2 r3 r4 r5; go_simp⟩) (by assumption) ?_
 go_frame
 refine wpAnyH_takeD (i := 25) (v := .bool a4) (some 30) rfl rfl (by kernel_rfl) (by kernel_rfl) (by kernel_rfl) (fun _ _ _ h => h) (Or.inl ⟨by rfl, by intro W hSW; obtain ⟨⟨p0, p1, p2, p3, p4, p5⟩, ⟨r0, r1, r2, r3, r4, r5⟩⟩ := And.intro hSW.1.cells hSW.2.1.cells; dsimp only at p0 p1 p2 p3 p4 p5 r0 r1 r2 r3 r4 r5; go_simp⟩) (by assumption) ?_
 go_frame
 refine wpAnyH_takeD (i := 26) (v := .bool a4) (some 31) rfl rfl (by kernel_rfl) (by kernel_rfl) (by kernel_rfl) (fun _ _ _ h => h) (Or.inl ⟨by rfl, by intro W hSW; obtain ⟨⟨p0, p1, p2, p3, p4, p5⟩, ⟨r0, r1, r2, r3, r4, r5⟩⟩ := And.intro hSW.1.cells hSW.2.1.cells; dsimp only at p0 p1 p2 p3 p4 p5 r0 r1 r2 r3 r4 r5; go_simp⟩) (by assumption) ?_
 go_frame
 refine wpAnyH_takeD (i := 27) (v := if (!a4) = true then .pointer (some ⟨H + 1, 4, none⟩) else undef) (some 32) rfl rfl (by kernel_rfl) (by kernel_rfl) (by kernel_rfl) (fun _ _ _ h => h) (yieldsIf_guard (!a4) (by cases a4 <;> rfl) (fun hg => by cases a4 with | true => cases hg | false => (intro W hSW; obtain ⟨⟨p0, p1, p2, p3, p4, p5⟩, ⟨r0, r1, r2, r3, r4, r5⟩⟩ := And.intro hSW.1.cells hSW.2.1.cells; dsimp only at p0 p1 p2 p3 p4 p5 r0 r1 r2 r3 r4 r5; go_simp))) (by assumption) ?_
 go_frame
 refine wpAnyH_takeD (i := 28) (v := if (!a4) = true then .bool b4 else undef) (some 33) rfl rfl (by kernel_rfl) (by kernel_rfl) (by kernel_rfl) (fun _ _ _ h => h) (yieldsIf_guard (!a4) (by cases a4 <;> rfl) (fun hg => by cases a4 with | true => cases hg | false => (intro W hSW; obtain ⟨⟨p0, p1, p2, p3, p4, p5⟩, ⟨r0, r1, r2, r3, r4, r5⟩⟩ := And.intro hSW.1.cells hSW.2.1.cells; dsimp only at p0 p1 p2 p3 p4 p5 r0 r1 r2 r3 r4 r5; go_simp))) (by assumption) ?_
 go_frame
 refine wpAnyH_takeD (i := 29) (v := .bool (a4 || b4)) (some 34) rfl rfl (by kernel_rfl) (by kernel_rfl) (by kernel_rfl) (fun _ _ _ h => h) (Or.inl ⟨by rfl, by intro W hSW; cases a4 <;> go_simp⟩) (by assumption) ?_
 go_frame
 generalize (if (!a4) = true then Value.pointer (some ⟨H + 1, 4, none⟩) else undef) = z4
 generalize (if (!a4) = true then Value.bool b4 else undef) = y4
 refine wpAnyH_takeD (i := 30) (v := .agg #[.bool a0, .bool a1, .bool a2, .bool a3, .bool a4, .int .i64 ax]) (some 35) rfl rfl (by kernel_rfl) (by kernel_rfl) (by kernel_rfl) (fun _ _ _ h => h) (Or.inl ⟨by rfl, by intro W hSW; obtain ⟨⟨p0, p1, p2, p3, p4, p5⟩, ⟨r0, r1, r2, r3, r4, r5⟩⟩ := And.intro hSW.1.cells hSW.2.1.cells; dsimp only at p0 p1 p2 p3 p4 p5 r0 r1 r2 r3 r4 r5; go_simp⟩) (by assumption) ?_
 go_frame
 refine wpAnyH_takeD (i := 31) (v := .agg #[.bool b0, .bool b1, .bool b2, .bool b3, .bool b4, .int .i64 bx]) (some 36) rfl rfl (by kernel_rfl) (by kernel_rfl) (by kernel_rfl) (fun _ _ _ h => h) (Or.inl ⟨by rfl, by intro W hSW; obtain ⟨⟨p0, p1, p2, p3, p4, p5⟩, ⟨r0, r1, r2, r3, r4, r5⟩⟩ := And.intro hSW.1.cells hSW.2.1.cells; dsimp only at p0 p1 p2 p3 p4 p5 r0 r1 r2 r3 r4 r5; go_simp⟩) (by assumption) ?_
 go_frame
 refine rd1 32 rfl (fun K hK => ?_)
 go_simp
 refine (HLL.out _).mono ?_
 rintro e w2 ⟨rfl, bt⟩
 have hS2 : CcAt w2 H (⟨a0, a1, a2, a3, a4, ax⟩ : CcD) ∧ CcAt w2 (H + 1) (⟨b0, b1, b2, b3, b4, bx⟩ : CcD) ∧ (∃ c, CcAt w2 (H + 1 + 1) c) ∧ Below H w w2 :=
  ⟨hHeld.1.same (bt.block _ hHeld.1.lt), hHeld.2.1.same (bt.block _ hHeld.2.1.lt), hHeld.2.2.1.imp fun _ h => h.same (bt.block _ h.lt), hHeld.2.2.2.trans (bt.mono (Nat.le_of_lt hHeld.1.lt))⟩
 refine hK.out _ _ hS2 (fun hHeld2 => ?_)
 clear hK K hHeld bt hHeld2
 refine tkL 33 (.agg #[.bool (a0 || b0), .bool (a1 || b1), .bool (a2 || b2), .bool (a3 || b3), .bool (a4 || b4), .int .i64 m]) 38 rfl rfl (Or.inl ⟨by rfl, by intro W hSW; clear hSW; go_simp⟩) hS2 ?_
 go_frame
 refine rd1 34 rfl (fun K hK => ?_)
 obtain ⟨z, hz⟩ := hS2.2.2.1
 obtain ⟨r0, r1, r2, r3, r4, r5⟩ := hz.cells
 have f0 := hz.frozen 0
 have f1 := hz.frozen 1
 have f2 := hz.frozen 2
 have f3 := hz.frozen 3
 have f4 := hz.frozen 4
 have f5 := hz.frozen 5
 obtain ⟨c, hc⟩ : ∃ c : CcD, c = ⟨a0 || b0, a1 || b1, a2 || b2, a3 || b3, a4 || b4, m⟩ := ⟨_, rfl⟩
 have HC : Hid (c = toge (⟨a0, a1, a2, a3, a4, ax⟩ : CcD) (⟨b0, b1, b2, b3, b4, bx⟩ : CcD)) := by show _ = _; rw [hc, HM.out]; rfl
 have HP : Hid (CcAt (putCc w2 (H + 1 + 1) c) (H + 1 + 1) c) := hz.putAll c
 have HB : Hid (Below H w (putCc w2 (H + 1 + 1) c)) := below_putCc hS2.2.2.2 (by omega) c
 have HS3 : Hid (CcAt (putCc w2 (H + 1 + 1) c) H (⟨a0, a1, a2, a3, a4, ax⟩ : CcD) ∧ CcAt (putCc w2 (H + 1 + 1) c) (H + 1) (⟨b0, b1, b2, b3, b4, bx⟩ : CcD)) :=
  ⟨hS2.1.same (putCc_other (by omega)), hS2.2.1.same (putCc_other (by omega))⟩
 have HPC : Hid (putCc w2 (H + 1 + 1) c = (((((w2.setCell ⟨H + 1 + 1, 0, none⟩ (.bool (a0 || b0))).setCell ⟨H + 1 + 1, 1, none⟩ (.bool (a1 || b1))).setCell ⟨H + 1 + 1, 2, none⟩ (.bool (a2 || b2))).setCell ⟨H + 1 + 1, 3, none⟩ (.bool (a3 || b3))).setCell ⟨H + 1 + 1, 4, none⟩ (.bool (a4 || b4))).setCell ⟨H + 1 + 1, 5, none⟩ (.int .i64 m)) := by show _ = _; rw [hc]; rfl
 clear hS2 hz hc
 go_simp
 rw [← HPC.out]
 obtain ⟨w3, hw3⟩ := exq (putCc w2 (H + 1 + 1) c)
 rw [← hw3] at HP HB HS3 ⊢
 clear hw3 HPC r0 r1 r2 r3 r4 r5 f0 f1 f2 f3 f4 f5
 refine hK.out _ _ ⟨HS3.out.1, HS3.out.2, ⟨_, HP.out⟩, HB.out⟩ (fun _ => ?_)
 clear hK K
 refine wpAnyH_done (by kernel_rfl) ?_ _
 obtain ⟨m0, m1, m2, m3, m4, m5⟩ := HP.out.cells
 go_wp2_with fail
 refine bodyPost_ret (v := c.v) (by simp [results, Tryz.results214, go_sem, m0, m1, m2, m3, m4, m5, CcD.v]) rfl ?_
 exact ⟨by rw [HC.out], by rw [HW.out]; exact HB.out⟩
end Go.Proofs.YtbmhonfgffjpcaaGreat
namespace Go.Proofs.YtbmhonfgffjpcaaGreat
open Go.RowKit
open Go.Lib hiding intOf
theorem specObjOk_any (p : ByteArray) (o1 : Option Addr) (n1 c1 : Nat) (xs : List ByteArray) (o2 : Option Addr) (n2 c2 : Nat) (ys : List ByteArray) (st : Int) (v3 : Value) (n3 base : Nat) (fs : List (ByteArray × ByteArray)) (b : ByteArray) (t : Int) (w : World) (h1 : TextsA w o1 n1 xs) (h2 : TextsA w o2 n2 ys) (h3 : FieldsV w base v3 n3 fs) (hn1 : n1 ≤ 2000000) (hn2 : n2 ≤ 2000000) (hn3 : n3 ≤ 2000000) (hs1 : ∀ i, i < n1 → (textAt xs i).size ≤ maxLen) (hs2 : ∀ i, i < n2 → (textAt ys i).size ≤ maxLen) (hs3 : WalkF n3 fs) (hp : p.size ≤ maxLen) (hx : b.size ≤ maxLen) (hg : (getV fs varyName).size ≤ 1048576) :
  Calls Tryz.prog 82 #[.agg #[.string p, .slice o1 n1 c1, .slice o2 n2 c2, .int .i64 st, v3, .string b, .int .i64 t]] w fun e w' => BoolIs (ObjP p xs ys st fs b t) w e w' := by
 obtain ⟨o3, c3, rfl, _⟩ := h3.slice
 have HV1 : Hid (∀ W, Below w.heap.size w W → TextsA W o1 n1 xs) := fun W h => h1.below h
 have HV2 : Hid (∀ W, Below w.heap.size w W → TextsA W o2 n2 ys) := fun W h => h2.below h
 have HV3 : Hid (∀ W, Below w.heap.size w W → FieldsV W base (.slice o3 n3 c3) n3 fs) := fun W h => h3.below h
 have HL1 : Hid (xs.length = n1) := h1.1
 have HL2 : Hid (ys.length = n2) := h2.1
 have HS1 : Hid (∀ i, i < n1 → (textAt xs i).size ≤ maxLen) := hs1
 have HS2 : Hid (∀ i, i < n2 → (textAt ys i).size ≤ maxLen) := hs2
 have HS3 : Hid (WalkF n3 fs) := hs3
 have HPM : Hid (p.size ≤ maxLen) := hp
 have HX : Hid (b.size ≤ maxLen) := hx
 have HG : Hid ((getV fs varyName).size ≤ 1048576) := hg
 obtain ⟨vl, hvl⟩ := exq (varyP fs)
 have HVL : Hid (varyP fs = vl) := hvl.symm
 clear h1 h2 h3 hs1 hs2 hs3 hp hx hg hvl
 have hb0 : Below w.heap.size w w := Below.refl _ _
 go_enter Tryz.func82, Tryz.ntmps82
 go_upto_region 1 with fail
 obtain ⟨qv1, hqv1⟩ := exq ((w).heap.size)
 obtain ⟨w1, hW1⟩ := exq ((w).alloc (.cells #[.string p, .slice o1 n1 c1, .slice o2 n2 c2, .int .i64 st, .slice o3 n3 c3, .string b, .int .i64 t] 66))
 have hz1 : (w).heap.size = qv1 := hqv1.symm
 first | rw [← hW1, ← hqv1] | rw [← hW1]
 have hs1 := hsa hW1 hz1
 have bw := bal hW1
 have hb1 := hbt hb0 bw
 have HBv1_1 := hnew hW1 hz1
 clear hb0 bw hW1 hz1
 clear hs1 hqv1
 go_upto_region 1 with fail
 refine wp_region_held_drew (S := fun W => W.heap[qv1]? = some (.cells #[.string p, .slice o1 n1 c1, .slice o2 n2 c2, .int .i64 st, .slice o3 n3 c3, .string b, .int .i64 t] 66)) (by kernel_rfl) HBv1_1.out (fun _ => ?_)
 obtain ⟨w2, hX⟩ := exq w1.drew
 have bw := bdr hX
 rw [← hX]
 have hb2 := hbt hb1 bw
 have HBv1_2 := hblk HBv1_1 bw
 have hS2 := HBv1_2.out
 clear hb1 HBv1_1 bw hX
 refine tkP 0 (.pointer (some ⟨qv1, 3, none⟩)) 4 rfl rfl hS2 ?_
 go_frame
 refine tkL 1 (.agg #[.int .i64 st, .slice o3 n3 c3, .string b]) 5 rfl rfl (Or.inl ⟨by rfl, by intro W hW; have hhv1 := hW; have y3 := (cell_of hhv1 3).trans rfl; have y4 := (cell_of hhv1 4).trans rfl; have y5 := (cell_of hhv1 5).trans rfl; go_simp⟩) hS2 ?_
 go_frame
 refine rd1 2 rfl (fun K hK => ?_)
 go_simp
 refine (specRespOk_any st _ b n3 base fs _ (HV3.out _ hb2) (by omega) HS3.out HX.out).mono ?_
 rintro e w3 ⟨u1, rfl, htu1, bw⟩
 have hb3 := hbt hb2 bw
 have HBv1_3 := hblk HBv1_2 bw
 clear hb2 HBv1_2 bw
 have hS3 := HBv1_3.out
 refine hK.out _ _ hS3 (fun _ => ?_)
 clear hK K hS2
 cases u1 with
 | false =>
  have HF : Hid (¬ ObjP p xs ys st fs b t) := fun h => nomatch htu1.2 h.1
  clear htu1
  refine tkP 3 (.bool true) 7 rfl rfl hS3 ?_
  go_frame
  refine tkP 4 (.bool true) 8 rfl rfl hS3 ?_
  go_frame
  refine tkN 5 9 rfl rfl hS3 ?_
  go_frame
  refine tkN 6 10 rfl rfl hS3 ?_
  go_frame
  refine tkN 7 11 rfl rfl hS3 ?_
  go_frame
  refine tkN 8 12 rfl rfl hS3 ?_
  go_frame
  refine tkP 9 (.bool true) 13 rfl rfl hS3 ?_
  go_frame
  refine tkP 10 (.bool true) 14 rfl rfl hS3 ?_
  go_frame
  refine tkN 11 15 rfl rfl hS3 ?_
  go_frame
  refine tkN 12 16 rfl rfl hS3 ?_
  go_frame
  refine tkN 13 17 rfl rfl hS3 ?_
  go_frame
  refine tkN 14 18 rfl rfl hS3 ?_
  go_frame
  refine tkP 15 (.bool true) 19 rfl rfl hS3 ?_
  go_frame
  refine tkP 16 (.bool true) 20 rfl rfl hS3 ?_
  go_frame
  refine tkN 17 21 rfl rfl hS3 ?_
  go_frame
  refine tkN 18 22 rfl rfl hS3 ?_
  go_frame
  refine tkN 19 23 rfl rfl hS3 ?_
  go_frame
  refine tkN 20 24 rfl rfl hS3 ?_
  go_frame
  refine tkP 21 (.bool true) 25 rfl rfl hS3 ?_
  go_frame
  refine tkP 22 (.bool true) 26 rfl rfl hS3 ?_
  go_frame
  refine tkN 23 27 rfl rfl hS3 ?_
  go_frame
  refine tkN 24 28 rfl rfl hS3 ?_
  go_frame
  refine tkN 25 29 rfl rfl hS3 ?_
  go_frame
  refine tkN 26 30 rfl rfl hS3 ?_
  go_frame
  refine tkN 27 31 rfl rfl hS3 ?_
  go_frame
  refine tkN 28 32 rfl rfl hS3 ?_
  go_frame
  refine tkN 29 33 rfl rfl hS3 ?_
  go_frame
  refine tkN 30 34 rfl rfl hS3 ?_
  go_frame
  refine tkP 31 (.bool true) 35 rfl rfl hS3 ?_
  go_frame
  refine tkP 32 (.bool true) 36 rfl rfl hS3 ?_
  go_frame
  refine tkN 33 37 rfl rfl hS3 ?_
  go_frame
  refine tkN 34 38 rfl rfl hS3 ?_
  go_frame
  refine tkN 35 39 rfl rfl hS3 ?_
  go_frame
  refine tkN 36 40 rfl rfl hS3 ?_
  go_frame
  refine tkN 37 41 rfl rfl hS3 ?_
  go_frame
  refine tkN 38 42 rfl rfl hS3 ?_
  go_frame
  refine tkN 39 43 rfl rfl hS3 ?_
  go_frame
  refine tkP 40 (.bool true) 44 rfl rfl hS3 ?_
  go_frame
  clear hS3
  refine wpAnyH_done (by kernel_rfl) ?_ _
  go_wp2_with fail
  go_ret
  exact BoolIs.no HF.out hb3
 | true =>
  have HR : Hid (RespP st fs b) := htu1.1 rfl
  clear htu1
  refine tkP 3 (.bool false) 7 rfl rfl hS3 ?_
  go_frame
  refine tkP 4 (.bool false) 8 rfl rfl hS3 ?_
  go_frame
  refine tkP 5 (.pointer (some ⟨qv1, 0, none⟩)) 9 rfl rfl hS3 ?_
  go_frame
  refine tkL 6 (.string p) 10 rfl rfl (Or.inl ⟨by rfl, by intro W hW; have hhv1 := hW; have y0 := (cell_of hhv1 0).trans rfl; go_simp⟩) hS3 ?_
  go_frame
  refine rd1 7 rfl (fun K hK => ?_)
  go_simp
  refine (l3Path_any p _ HPM.out).mono ?_
  rintro e w4 ⟨u2, rfl, htu2, bw⟩
  have hb4 := hbt hb3 bw
  have HBv1_4 := hblk HBv1_3 bw
  clear hb3 HBv1_3 bw
  have hS4 := HBv1_4.out
  refine hK.out _ _ hS4 (fun _ => ?_)
  clear hK K hS3
  cases u2 with
  | false =>
   have HF : Hid (¬ ObjP p xs ys st fs b t) := fun h => nomatch htu2.2 h.2.1
   clear htu2
   refine tkP 8 (.bool true) 12 rfl rfl hS4 ?_
   go_frame
   refine tkP 9 (.bool true) 13 rfl rfl hS4 ?_
   go_frame
   refine tkP 10 (.bool true) 14 rfl rfl hS4 ?_
   go_frame
   refine tkN 11 15 rfl rfl hS4 ?_
   go_frame
   refine tkN 12 16 rfl rfl hS4 ?_
   go_frame
   refine tkN 13 17 rfl rfl hS4 ?_
   go_frame
   refine tkN 14 18 rfl rfl hS4 ?_
   go_frame
   refine tkP 15 (.bool true) 19 rfl rfl hS4 ?_
   go_frame
   refine tkP 16 (.bool true) 20 rfl rfl hS4 ?_
   go_frame
   refine tkN 17 21 rfl rfl hS4 ?_
   go_frame
   refine tkN 18 22 rfl rfl hS4 ?_
   go_frame
   refine tkN 19 23 rfl rfl hS4 ?_
   go_frame
   refine tkN 20 24 rfl rfl hS4 ?_
   go_frame
   refine tkP 21 (.bool true) 25 rfl rfl hS4 ?_
   go_frame
   refine tkP 22 (.bool true) 26 rfl rfl hS4 ?_
   go_frame
   refine tkN 23 27 rfl rfl hS4 ?_
   go_frame
   refine tkN 24 28 rfl rfl hS4 ?_
   go_frame
   refine tkN 25 29 rfl rfl hS4 ?_
   go_frame
   refine tkN 26 30 rfl rfl hS4 ?_
   go_frame
   refine tkN 27 31 rfl rfl hS4 ?_
   go_frame
   refine tkN 28 32 rfl rfl hS4 ?_
   go_frame
   refine tkN 29 33 rfl rfl hS4 ?_
   go_frame
   refine tkN 30 34 rfl rfl hS4 ?_
   go_frame
   refine tkP 31 (.bool true) 35 rfl rfl hS4 ?_
   go_frame
   refine tkP 32 (.bool true) 36 rfl rfl hS4 ?_
   go_frame
   refine tkN 33 37 rfl rfl hS4 ?_
   go_frame
   refine tkN 34 38 rfl rfl hS4 ?_
   go_frame
   refine tkN 35 39 rfl rfl hS4 ?_
   go_frame
   refine tkN 36 40 rfl rfl hS4 ?_
   go_frame
   refine tkN 37 41 rfl rfl hS4 ?_
   go_frame
   refine tkN 38 42 rfl rfl hS4 ?_
   go_frame
   refine tkN 39 43 rfl rfl hS4 ?_
   go_frame
   refine tkP 40 (.bool true) 44 rfl rfl hS4 ?_
   go_frame
   clear hS4
   refine wpAnyH_done (by kernel_rfl) ?_ _
   go_wp2_with fail
   go_ret
   exact BoolIs.no HF.out hb4
  | true =>
   have HP : Hid (PathOk p) := htu2.1 rfl
   clear htu2
   refine tkP 8 (.bool false) 12 rfl rfl hS4 ?_
   go_frame
   refine tkP 9 (.bool false) 13 rfl rfl hS4 ?_
   go_frame
   refine tkP 10 (.bool false) 14 rfl rfl hS4 ?_
   go_frame
   refine tkP 11 (.pointer (some ⟨qv1, 6, none⟩)) 15 rfl rfl hS4 ?_
   go_frame
   refine tkL 12 (.int .i64 t) 16 rfl rfl (Or.inl ⟨by rfl, by intro W hW; have hhv1 := hW; have y6 := (cell_of hhv1 6).trans rfl; go_simp⟩) hS4 ?_
   go_frame
   refine rd1 13 rfl (fun K hK => ?_)
   go_simp
   refine (l1In_any t 0 1000000 _).mono ?_
   rintro e w5 ⟨rfl, hwe⟩
   have bw : Below (w4).heap.size (w4) w5 := by rw [hwe]; exact Below.refl _ _
   clear hwe
   obtain ⟨u3, hu3⟩ : ∃ u3, u3 = decide ((0 : Int) ≤ t ∧ t ≤ 1000000) := ⟨_, rfl⟩
   rw [← hu3]
   have hb5 := hbt hb4 bw
   have HBv1_5 := hblk HBv1_4 bw
   clear hb4 HBv1_4 bw
   have hS5 := HBv1_5.out
   refine hK.out _ _ hS5 (fun _ => ?_)
   clear hK K hS4
   cases u3 with
   | false =>
    have HF : Hid (¬ ObjP p xs ys st fs b t) := fun h => absurd h.2.2.1 (of_decide_eq_false hu3.symm)
    clear hu3
    refine tkP 14 (.bool true) 18 rfl rfl hS5 ?_
    go_frame
    refine tkP 15 (.bool true) 19 rfl rfl hS5 ?_
    go_frame
    refine tkP 16 (.bool true) 20 rfl rfl hS5 ?_
    go_frame
    refine tkN 17 21 rfl rfl hS5 ?_
    go_frame
    refine tkN 18 22 rfl rfl hS5 ?_
    go_frame
    refine tkN 19 23 rfl rfl hS5 ?_
    go_frame
    refine tkN 20 24 rfl rfl hS5 ?_
    go_frame
    refine tkP 21 (.bool true) 25 rfl rfl hS5 ?_
    go_frame
    refine tkP 22 (.bool true) 26 rfl rfl hS5 ?_
    go_frame
    refine tkN 23 27 rfl rfl hS5 ?_
    go_frame
    refine tkN 24 28 rfl rfl hS5 ?_
    go_frame
    refine tkN 25 29 rfl rfl hS5 ?_
    go_frame
    refine tkN 26 30 rfl rfl hS5 ?_
    go_frame
    refine tkN 27 31 rfl rfl hS5 ?_
    go_frame
    refine tkN 28 32 rfl rfl hS5 ?_
    go_frame
    refine tkN 29 33 rfl rfl hS5 ?_
    go_frame
    refine tkN 30 34 rfl rfl hS5 ?_
    go_frame
    refine tkP 31 (.bool true) 35 rfl rfl hS5 ?_
    go_frame
    refine tkP 32 (.bool true) 36 rfl rfl hS5 ?_
    go_frame
    refine tkN 33 37 rfl rfl hS5 ?_
    go_frame
    refine tkN 34 38 rfl rfl hS5 ?_
    go_frame
    refine tkN 35 39 rfl rfl hS5 ?_
    go_frame
    refine tkN 36 40 rfl rfl hS5 ?_
    go_frame
    refine tkN 37 41 rfl rfl hS5 ?_
    go_frame
    refine tkN 38 42 rfl rfl hS5 ?_
    go_frame
    refine tkN 39 43 rfl rfl hS5 ?_
    go_frame
    refine tkP 40 (.bool true) 44 rfl rfl hS5 ?_
    go_frame
    clear hS5
    refine wpAnyH_done (by kernel_rfl) ?_ _
    go_wp2_with fail
    go_ret
    exact BoolIs.no HF.out hb5
   | true =>
    have HT : Hid (0 ≤ t ∧ t ≤ 1000000) := (show 0 ≤ t ∧ t ≤ 1000000 from of_decide_eq_true hu3.symm)
    clear hu3
    refine tkP 14 (.bool false) 18 rfl rfl hS5 ?_
    go_frame
    refine tkP 15 (.bool false) 19 rfl rfl hS5 ?_
    go_frame
    refine tkP 16 (.bool false) 20 rfl rfl hS5 ?_
    go_frame
    refine tkP 17 (.pointer (some ⟨qv1, 1, none⟩)) 21 rfl rfl hS5 ?_
    go_frame
    refine tkL 18 (.slice o1 n1 c1) 22 rfl rfl (Or.inl ⟨by rfl, by intro W hW; have hhv1 := hW; have y1 := (cell_of hhv1 1).trans rfl; go_simp⟩) hS5 ?_
    go_frame
    refine rd1 19 rfl (fun K hK => ?_)
    go_simp
    refine (l9Names_any _ _ _ xs _ (HV1.out _ hb5) (by omega) HS1.out).mono ?_
    rintro e w6 ⟨u4, rfl, htu4, bw⟩
    have hb6 := hbt hb5 bw
    have HBv1_6 := hblk HBv1_5 bw
    clear hb5 HBv1_5 bw
    have hS6 := HBv1_6.out
    refine hK.out _ _ hS6 (fun _ => ?_)
    clear hK K hS5
    cases u4 with
    | false =>
     have HF : Hid (¬ ObjP p xs ys st fs b t) := fun h => nomatch htu4.2 h.2.2.2.1
     clear htu4
     refine tkP 20 (.bool true) 24 rfl rfl hS6 ?_
     go_frame
     refine tkP 21 (.bool true) 25 rfl rfl hS6 ?_
     go_frame
     refine tkP 22 (.bool true) 26 rfl rfl hS6 ?_
     go_frame
     refine tkN 23 27 rfl rfl hS6 ?_
     go_frame
     refine tkN 24 28 rfl rfl hS6 ?_
     go_frame
     refine tkN 25 29 rfl rfl hS6 ?_
     go_frame
     refine tkN 26 30 rfl rfl hS6 ?_
     go_frame
     refine tkN 27 31 rfl rfl hS6 ?_
     go_frame
     refine tkN 28 32 rfl rfl hS6 ?_
     go_frame
     refine tkN 29 33 rfl rfl hS6 ?_
     go_frame
     refine tkN 30 34 rfl rfl hS6 ?_
     go_frame
     refine tkP 31 (.bool true) 35 rfl rfl hS6 ?_
     go_frame
     refine tkP 32 (.bool true) 36 rfl rfl hS6 ?_
     go_frame
     refine tkN 33 37 rfl rfl hS6 ?_
     go_frame
     refine tkN 34 38 rfl rfl hS6 ?_
     go_frame
     refine tkN 35 39 rfl rfl hS6 ?_
     go_frame
     refine tkN 36 40 rfl rfl hS6 ?_
     go_frame
     refine tkN 37 41 rfl rfl hS6 ?_
     go_frame
     refine tkN 38 42 rfl rfl hS6 ?_
     go_frame
     refine tkN 39 43 rfl rfl hS6 ?_
     go_frame
     refine tkP 40 (.bool true) 44 rfl rfl hS6 ?_
     go_frame
     clear hS6
     refine wpAnyH_done (by kernel_rfl) ?_ _
     go_wp2_with fail
     go_ret
     exact BoolIs.no HF.out hb6
    | true =>
     have HNM : Hid (NamesP xs) := htu4.1 rfl
     clear htu4
     refine tkP 20 (.bool false) 24 rfl rfl hS6 ?_
     go_frame
     refine tkP 21 (.bool false) 25 rfl rfl hS6 ?_
     go_frame
     refine tkP 22 (.bool false) 26 rfl rfl hS6 ?_
     go_frame
     refine tkP 23 (.pointer (some ⟨qv1, 1, none⟩)) 27 rfl rfl hS6 ?_
     go_frame
     refine tkL 24 (.slice o1 n1 c1) 28 rfl rfl (Or.inl ⟨by rfl, by intro W hW; have hhv1 := hW; have y1 := (cell_of hhv1 1).trans rfl; go_simp⟩) hS6 ?_
     go_frame
     refine tkP 25 (.pointer (some ⟨qv1, 3, none⟩)) 29 rfl rfl hS6 ?_
     go_frame
     refine tkP 26 (.pointer (some ⟨qv1, 4, none⟩)) 30 rfl rfl hS6 ?_
     go_frame
     refine tkL 27 (.slice o3 n3 c3) 31 rfl rfl (Or.inl ⟨by rfl, by intro W hW; have hhv1 := hW; have y4 := (cell_of hhv1 4).trans rfl; go_simp⟩) hS6 ?_
     go_frame
     refine rd1 28 rfl (fun K hK => ?_)
     go_simp
     refine (specVaryOf_any _ n3 base fs _ (HV3.out _ hb6) (by omega) HG.out).mono ?_
     rintro e w7 ⟨vv, rfl, ownY, bw⟩
     obtain ⟨oY, pY, rfl⟩ := slice_of_owns ownY
     rw [HVL.out] at ownY ⊢
     have hb7 := hbt hb6 bw
     have HBv1_7 := hblk HBv1_6 bw
     have HOY_7 := hwd ownY hb6.size
     clear ownY
     clear hb6 HBv1_6 bw
     have hS7 := HBv1_7.out
     refine hK.out _ _ hS7 (fun _ => ?_)
     clear hK K hS6
     refine rd1 29 rfl (fun K hK => ?_)
     go_simp
     refine (l8Texts_any _ _ _ _ _ _ xs vl _ (HV1.out _ hb7) (texts_view HOY_7.out) (by omega)).mono ?_
     rintro e w8 ⟨rfl, bw⟩
     obtain ⟨u5, hu5⟩ := exq (decide (xs = vl))
     rw [← hu5]
     have hb8 := hbt hb7 bw
     have HOY_8 := hown HOY_7 bw
     have HBv1_8 := hblk HBv1_7 bw
     clear hb7 HOY_7 HBv1_7 bw
     have hS8 := HBv1_8.out
     refine hK.out _ _ hS8 (fun _ => ?_)
     clear hK K hS7
     cases u5 with
     | false =>
      have HF : Hid (¬ ObjP p xs ys st fs b t) := fun h => absurd (h.2.2.2.2.1.trans HVL.out) (of_decide_eq_false hu5.symm)
      clear hu5
      refine tkP 30 (.bool true) 34 rfl rfl hS8 ?_
      go_frame
      refine tkP 31 (.bool true) 35 rfl rfl hS8 ?_
      go_frame
      refine tkP 32 (.bool true) 36 rfl rfl hS8 ?_
      go_frame
      refine tkN 33 37 rfl rfl hS8 ?_
      go_frame
      refine tkN 34 38 rfl rfl hS8 ?_
      go_frame
      refine tkN 35 39 rfl rfl hS8 ?_
      go_frame
      refine tkN 36 40 rfl rfl hS8 ?_
      go_frame
      refine tkN 37 41 rfl rfl hS8 ?_
      go_frame
      refine tkN 38 42 rfl rfl hS8 ?_
      go_frame
      refine tkN 39 43 rfl rfl hS8 ?_
      go_frame
      refine tkP 40 (.bool true) 44 rfl rfl hS8 ?_
      go_frame
      clear hS8
      refine wpAnyH_done (by kernel_rfl) ?_ _
      go_wp2_with fail
      go_ret
      exact BoolIs.no HF.out hb8
     | true =>
      have HE : Hid (xs = vl) := (show xs = vl from of_decide_eq_true hu5.symm)
      clear hu5
      refine tkP 30 (.bool false) 34 rfl rfl hS8 ?_
      go_frame
      refine tkP 31 (.bool false) 35 rfl rfl hS8 ?_
      go_frame
      refine tkP 32 (.bool false) 36 rfl rfl hS8 ?_
      go_frame
      refine tkP 33 (.pointer (some ⟨qv1, 2, none⟩)) 37 rfl rfl hS8 ?_
      go_frame
      refine tkL 34 (.slice o2 n2 c2) 38 rfl rfl (Or.inl ⟨by rfl, by intro W hW; have hhv1 := hW; have y2 := (cell_of hhv1 2).trans rfl; go_simp⟩) hS8 ?_
      go_frame
      refine tkP 35 (.int .i64 (n2 : Int)) 39 rfl rfl hS8 ?_
      go_frame
      refine tkP 36 (.pointer (some ⟨qv1, 1, none⟩)) 40 rfl rfl hS8 ?_
      go_frame
      refine tkL 37 (.slice o1 n1 c1) 41 rfl rfl (Or.inl ⟨by rfl, by intro W hW; have hhv1 := hW; have y1 := (cell_of hhv1 1).trans rfl; go_simp⟩) hS8 ?_
      go_frame
      refine tkP 38 (.int .i64 (n1 : Int)) 42 rfl rfl hS8 ?_
      go_frame
      by_cases hc1 : (n2 : Int) = (n1 : Int)
      ·
       have hc1b : (((n2 : Int) : Int) == ((n1 : Int) : Int)) = true := by simpa using hc1
       have hc1n : (((n2 : Int) : Int) != ((n1 : Int) : Int)) = false := by simpa using hc1
       have hc1H : Hid ((n2 : Int) = (n1 : Int)) := hc1
       clear hc1
       refine tkP 39 (.bool false) 43 rfl rfl hS8 ?_
       go_frame
       refine tkP 40 (.bool false) 44 rfl rfl hS8 ?_
       go_frame
       clear hS8
       refine wpAnyH_done (by kernel_rfl) ?_ _
       clear hc1b hc1n
       have HEQ := hc1H
       clear hc1H
       have HQ : Hid ((∀ y ∈ ys, ValOk y) ↔ ObjP p xs ys st fs b t) := ⟨fun h => ⟨HR.out, HP.out, HT.out, HNM.out, HE.out.trans HVL.out.symm, by have h1 := HL1.out; have h2 := HL2.out; have h3 := HEQ.out; omega, h⟩, fun h => h.2.2.2.2.2.2⟩
       go_wp2_with fail
       go_loopw [3] (fun i wr => ∃ j : Nat, j ≤ n2 ∧ i = .int .i64 (j : Int) ∧ Hid (Below w.heap.size w wr ∧ (wr).heap[qv1]? = some (.cells #[.string p, .slice o1 n1 c1, .slice o2 n2 c2, .int .i64 st, .slice o3 n3 c3, .string b, .int .i64 t] 66)) ∧ Hid (∀ x ∈ ys.take j, ValOk x)) (fun i _ => n2 - (intOf i).toNat)
       case atStart => exact ⟨0, Nat.zero_le _, rfl, ⟨hb8, HBv1_8.out⟩, fun x hx => by simp at hx⟩
       case round =>
        obtain ⟨j, hj, rfl, HW, HN⟩ := hrel
        have cc2 : wr.cell? ⟨qv1, 2, none⟩ = some (.slice o2 n2 c2) := (cell_of HW.out.2 2).trans rfl
        by_cases hlt : (j : Int) < (n2 : Int)
        ·
         have hjx : j < ys.length := by rw [HL2.out]; omega
         obtain ⟨g, hog, hg, hc⟩ := (HV2.out wr HW.out.1).2 j (by omega)
         subst hog
         have hs := HS2.out j (by omega)
         obtain ⟨x, hxx⟩ := exq (textAt ys j)
         rw [← hxx] at hc hs
         have HM : Hid (x ∈ ys) := by show _ ∈ _; rw [hxx]; exact textAt_mem ys j hjx
         have HTK : Hid (ys.take (j + 1) = ys.take j ++ [x]) := by show _ = _; rw [take_textAt ys j hjx, hxx]
         clear hxx hjx
         go_wp2_with fail
         refine (specValueOk_any x _ hs).mono ?_
         rintro e w90 ⟨tx, rfl, htx, bw⟩
         have HW2 : Hid (Below w.heap.size w w90 ∧ (w90).heap[qv1]? = some (.cells #[.string p, .slice o1 n1 c1, .slice (some ⟨g, 0, none⟩) n2 c2, .int .i64 st, .slice o3 n3 c3, .string b, .int .i64 t] 66)) := ⟨HW.out.1.trans (bw.mono HW.out.1.size), blk_below HW.out.2 bw⟩
         clear bw cc2 hc HW
         cases tx with
         | false =>
          have HF : Hid (¬ ObjP p xs ys st fs b t) := fun h => nomatch htx.2 (HQ.out.2 h x HM.out)
          clear htx HN
          go_wp2_with fail
          go_ret
          exact BoolIs.no HF.out HW2.out.1
         | true =>
          have HN2 : Hid (∀ y ∈ ys.take (j + 1), ValOk y) := by
           intro y hy
           rw [HTK.out] at hy
           rcases List.mem_append.1 hy with hy | hy
           · exact HN.out y hy
           · rw [List.mem_singleton.1 hy]; exact htx.1 rfl
          clear htx HN
          go_wp2_with fail
          go_roundw
          case rel => exact ⟨j + 1, by omega, by go_num, HW2, HN2⟩
          case measure => simp [intOf]; omega
        ·
         have HA : Hid (ObjP p xs ys st fs b t) := HQ.out.1 (by
          have h := HN.out
          rw [List.take_of_length_le (by rw [HL2.out]; omega)] at h
          exact h)
         clear HN
         go_wp2_with fail
         go_ret
         exact ⟨true, rfl, ⟨fun _ => HA.out, fun _ => rfl⟩, HW.out.1⟩
      ·
       have hc1b : (((n2 : Int) : Int) == ((n1 : Int) : Int)) = false := by simpa using hc1
       have hc1n : (((n2 : Int) : Int) != ((n1 : Int) : Int)) = true := by simpa using hc1
       have HF : Hid (¬ ObjP p xs ys st fs b t) := fun h => by have h1 := h.2.2.2.2.2.1; have h2 := HL1.out; have h3 := HL2.out; omega
       have hc1H : Hid (¬ ((n2 : Int) = (n1 : Int))) := hc1
       clear hc1
       refine tkP 39 (.bool true) 43 rfl rfl hS8 ?_
       go_frame
       refine tkP 40 (.bool true) 44 rfl rfl hS8 ?_
       go_frame
       clear hS8
       refine wpAnyH_done (by kernel_rfl) ?_ _
       go_wp2_with fail
       go_ret
       exact BoolIs.no HF.out hb8
end Go.Proofs.YtbmhonfgffjpcaaGreat
namespace Go.Proofs.YtbmhonfgffjpcaaGreat
open Go.RowKit
open Go.Lib hiding intOf
theorem toBan_any (k : Int) (a b : ByteArray) (t : Int) (w : World) :
  Calls Tryz.prog 97 #[.agg #[.int .i64 k, .string a, .string b, .int .i64 t]] w fun e w' => e = .returned (.agg #[.int .i64 k, .string a, .string b, .int .i64 t]) ∧ Below w.heap.size w w' := by
 have hb0 : Below w.heap.size w w := Below.refl _ _
 go_enter Tryz.func97, Tryz.ntmps97
 go_upto_region 1 with fail
 obtain ⟨qv1, hqv1⟩ := exq ((w).heap.size)
 obtain ⟨w1, hW1⟩ := exq ((w).alloc (.cells #[.int .i64 k, .string a, .string b, .int .i64 t] 160))
 have hz1 : (w).heap.size = qv1 := hqv1.symm
 first | rw [← hW1, ← hqv1] | rw [← hW1]
 have hs1 := hsa hW1 hz1
 have bw := bal hW1
 have hb1 := hbt hb0 bw
 have HBv1_1 := hnew hW1 hz1
 clear hb0 bw hW1 hz1
 obtain ⟨qv2, hqv2⟩ := exq (qv1 + 1)
 obtain ⟨w2, hW2⟩ := exq ((w1).alloc (.cells #[.int .i64 0, .string ⟨#[]⟩, .string ⟨#[]⟩, .int .i64 0] 152))
 have hz2 : (w1).heap.size = qv2 := by rw [hqv2]; exact hs1
 first | rw [← hW2, ← hqv2] | rw [← hW2]
 have hs2 := hsa hW2 hz2
 have bw := bal hW2
 have hb2 := hbt hb1 bw
 have HBv1_2 := hblk HBv1_1 bw
 have HNv1v2 : Hid (qv1 ≠ qv2) := fun e => by have h1 := (Array.getElem?_eq_some_iff.1 HBv1_1.out).1; omega
 have HBv2_2 := hnew hW2 hz2
 have HGv2 := hge hz2 hb1
 clear hb1 HBv1_1 bw hW2 hz2
 clear hs2 hqv2 hs1 hqv1
 go_upto_region 2 with fail
 obtain ⟨qv3, hqv3⟩ := exq ((w2).heap.size)
 obtain ⟨w3, hW3⟩ := exq ((w2).alloc (.cells #[.int .i64 0, .string ⟨#[]⟩, .string ⟨#[]⟩, .int .i64 0] 152))
 have hz3 : (w2).heap.size = qv3 := hqv3.symm
 first | rw [← hW3, ← hqv3] | rw [← hW3]
 have hs3 := hsa hW3 hz3
 have bw := bal hW3
 have hb3 := hbt hb2 bw
 have HBv1_3 := hblk HBv1_2 bw
 have HBv2_3 := hblk HBv2_2 bw
 have HNv1v3 : Hid (qv1 ≠ qv3) := fun e => by have h1 := (Array.getElem?_eq_some_iff.1 HBv1_2.out).1; omega
 have HNv2v3 : Hid (qv2 ≠ qv3) := fun e => by have h1 := (Array.getElem?_eq_some_iff.1 HBv2_2.out).1; omega
 have HBv3_3 := hnew hW3 hz3
 have HGv3 := hge hz3 hb2
 clear hb2 HBv1_2 HBv2_2 bw hW3 hz3
 clear hs3 hqv3
 have cv1_0 := (k4c HBv1_3).1
 have cv3_0 := (k4c HBv3_3).1
 have fcv3_0 := hfz HBv3_3 0
 go_upto_region 3 with fail
 obtain ⟨w4, hW4⟩ := exq ((w3).setCell ⟨qv3, 0, none⟩ (.int .i64 k))
 rw [← hW4]
 have hb4 := hbS hW4 hb3 HGv3
 have HBv1_4 := hset hW4 HNv1v3.out HBv1_3
 have HBv2_4 := hset hW4 HNv2v3.out HBv2_3
 have HBv3_4 : Hid ((w4).heap[qv3]? = some (.cells #[.int .i64 k, .string ⟨#[]⟩, .string ⟨#[]⟩, .int .i64 0] 152)) := by show _ = _; rw [hW4]; have h := heap_set _ _ 0 _ _ _ (.int .i64 k) HBv3_3.out; simpa using h
 clear hb3 HBv1_3 HBv2_3 HBv3_3 hW4
 clear cv1_0 cv3_0 fcv3_0
 have cv1_1 := (k4c HBv1_4).2.1
 have cv3_1 := (k4c HBv3_4).2.1
 have fcv3_1 := hfz HBv3_4 1
 go_upto_region 4 with fail
 obtain ⟨w5, hW5⟩ := exq ((w4).setCell ⟨qv3, 1, none⟩ (.string a))
 rw [← hW5]
 have hb5 := hbS hW5 hb4 HGv3
 have HBv1_5 := hset hW5 HNv1v3.out HBv1_4
 have HBv2_5 := hset hW5 HNv2v3.out HBv2_4
 have HBv3_5 : Hid ((w5).heap[qv3]? = some (.cells #[.int .i64 k, .string a, .string ⟨#[]⟩, .int .i64 0] 152)) := by show _ = _; rw [hW5]; have h := heap_set _ _ 1 _ _ _ (.string a) HBv3_4.out; simpa using h
 clear hb4 HBv1_4 HBv2_4 HBv3_4 hW5
 clear cv1_1 cv3_1 fcv3_1
 have cv1_2 := (k4c HBv1_5).2.2.1
 have cv3_2 := (k4c HBv3_5).2.2.1
 have fcv3_2 := hfz HBv3_5 2
 go_upto_region 5 with fail
 obtain ⟨w6, hW6⟩ := exq ((w5).setCell ⟨qv3, 2, none⟩ (.string b))
 rw [← hW6]
 have hb6 := hbS hW6 hb5 HGv3
 have HBv1_6 := hset hW6 HNv1v3.out HBv1_5
 have HBv2_6 := hset hW6 HNv2v3.out HBv2_5
 have HBv3_6 : Hid ((w6).heap[qv3]? = some (.cells #[.int .i64 k, .string a, .string b, .int .i64 0] 152)) := by show _ = _; rw [hW6]; have h := heap_set _ _ 2 _ _ _ (.string b) HBv3_5.out; simpa using h
 clear hb5 HBv1_5 HBv2_5 HBv3_5 hW6
 clear cv1_2 cv3_2 fcv3_2
 have cv1_3 := (k4c HBv1_6).2.2.2
 have cv3_3 := (k4c HBv3_6).2.2.2
 have fcv3_3 := hfz HBv3_6 3
 go_upto_region 6 with fail
 obtain ⟨w7, hW7⟩ := exq ((w6).setCell ⟨qv3, 3, none⟩ (.int .i64 t))
 rw [← hW7]
 have hb7 := hbS hW7 hb6 HGv3
 have HBv1_7 := hset hW7 HNv1v3.out HBv1_6
 have HBv2_7 := hset hW7 HNv2v3.out HBv2_6
 have HBv3_7 : Hid ((w7).heap[qv3]? = some (.cells #[.int .i64 k, .string a, .string b, .int .i64 t] 152)) := by show _ = _; rw [hW7]; have h := heap_set _ _ 3 _ _ _ (.int .i64 t) HBv3_6.out; simpa using h
 clear hb6 HBv1_6 HBv2_6 HBv3_6 hW7
 clear cv1_3 cv3_3 fcv3_3
 have cv2_0 := (k4c HBv2_7).1
 have fcv2_0 := hfz HBv2_7 0
 have cv2_1 := (k4c HBv2_7).2.1
 have fcv2_1 := hfz HBv2_7 1
 have cv2_2 := (k4c HBv2_7).2.2.1
 have fcv2_2 := hfz HBv2_7 2
 have cv2_3 := (k4c HBv2_7).2.2.2
 have fcv2_3 := hfz HBv2_7 3
 have cv3_0 := (k4c HBv3_7).1
 have cv3_1 := (k4c HBv3_7).2.1
 have cv3_2 := (k4c HBv3_7).2.2.1
 have cv3_3 := (k4c HBv3_7).2.2.2
 go_wp2_with fail
 obtain ⟨w8, hW8⟩ := exq ((w7).setCell ⟨qv2, 0, none⟩ (.int .i64 k))
 rw [← hW8]
 have hb8 := hbS hW8 hb7 HGv2
 have HBv1_8 := hset hW8 HNv1v2.out HBv1_7
 have HBv3_8 := hset hW8 HNv2v3.out.symm HBv3_7
 have HBv2_8 : Hid ((w8).heap[qv2]? = some (.cells #[.int .i64 k, .string ⟨#[]⟩, .string ⟨#[]⟩, .int .i64 0] 152)) := by show _ = _; rw [hW8]; have h := heap_set _ _ 0 _ _ _ (.int .i64 k) HBv2_7.out; simpa using h
 clear hb7 HBv1_7 HBv2_7 HBv3_7 hW8
 obtain ⟨w9, hW9⟩ := exq ((w8).setCell ⟨qv2, 1, none⟩ (.string a))
 rw [← hW9]
 have hb9 := hbS hW9 hb8 HGv2
 have HBv1_9 := hset hW9 HNv1v2.out HBv1_8
 have HBv3_9 := hset hW9 HNv2v3.out.symm HBv3_8
 have HBv2_9 : Hid ((w9).heap[qv2]? = some (.cells #[.int .i64 k, .string a, .string ⟨#[]⟩, .int .i64 0] 152)) := by show _ = _; rw [hW9]; have h := heap_set _ _ 1 _ _ _ (.string a) HBv2_8.out; simpa using h
 clear hb8 HBv1_8 HBv2_8 HBv3_8 hW9
 obtain ⟨w10, hW10⟩ := exq ((w9).setCell ⟨qv2, 2, none⟩ (.string b))
 rw [← hW10]
 have hb10 := hbS hW10 hb9 HGv2
 have HBv1_10 := hset hW10 HNv1v2.out HBv1_9
 have HBv3_10 := hset hW10 HNv2v3.out.symm HBv3_9
 have HBv2_10 : Hid ((w10).heap[qv2]? = some (.cells #[.int .i64 k, .string a, .string b, .int .i64 0] 152)) := by show _ = _; rw [hW10]; have h := heap_set _ _ 2 _ _ _ (.string b) HBv2_9.out; simpa using h
 clear hb9 HBv1_9 HBv2_9 HBv3_9 hW10
 obtain ⟨w11, hW11⟩ := exq ((w10).setCell ⟨qv2, 3, none⟩ (.int .i64 t))
 rw [← hW11]
 have hb11 := hbS hW11 hb10 HGv2
 have HBv1_11 := hset hW11 HNv1v2.out HBv1_10
 have HBv3_11 := hset hW11 HNv2v3.out.symm HBv3_10
 have HBv2_11 : Hid ((w11).heap[qv2]? = some (.cells #[.int .i64 k, .string a, .string b, .int .i64 t] 152)) := by show _ = _; rw [hW11]; have h := heap_set _ _ 3 _ _ _ (.int .i64 t) HBv2_10.out; simpa using h
 clear hb10 HBv1_10 HBv2_10 HBv3_10 hW11
 have kv2_0 := (k4c HBv2_11).1
 have kv2_1 := (k4c HBv2_11).2.1
 have kv2_2 := (k4c HBv2_11).2.2.1
 have kv2_3 := (k4c HBv2_11).2.2.2
 refine bodyPost_ret (v := .agg #[.int .i64 k, .string a, .string b, .int .i64 t]) (by simp [results, Tryz.results97, go_sem, kv2_0, kv2_1, kv2_2, kv2_3]) rfl ?_
 exact ⟨rfl, hb11⟩
/-- A ban's measure: negative, or the room that is left of L. -/
def SzBan (L : Int) (a b : ByteArray) (w : World) (e : Ending) (w' : World) : Prop := ∃ r : Int, e = .returned (.int .i64 r) ∧ r ≤ L ∧ (0 ≤ r → a.size ≤ 1048576 ∧ b.size ≤ 1048576) ∧ Below w.heap.size w w'
theorem szBan_any (L : Int) (hL0 : 0 ≤ L) (hL1 : L ≤ 1048576) (k : Int) (a b : ByteArray) (t : Int) (w : World) (ha : a.size ≤ maxLen) (hb : b.size ≤ maxLen) :
  Calls Tryz.prog 91 #[.agg #[.int .i64 k, .string a, .string b, .int .i64 t], .int .i64 L] w fun e w' => SzBan L a b w e w' := by
 unfold maxLen at ha hb
 have hb0 : Below w.heap.size w w := Below.refl _ _
 go_enter Tryz.func91, Tryz.ntmps91
 go_upto_region 1 with fail
 obtain ⟨qv1, hqv1⟩ := exq ((w).heap.size)
 obtain ⟨w1, hW1⟩ := exq ((w).alloc (.cells #[.int .i64 k, .string a, .string b, .int .i64 t] 160))
 have hz1 : (w).heap.size = qv1 := hqv1.symm
 first | rw [← hW1, ← hqv1] | rw [← hW1]
 have hs1 := hsa hW1 hz1
 have bw := bal hW1
 have hb1 := hbt hb0 bw
 have HBv1_1 := hnew hW1 hz1
 clear hb0 bw hW1 hz1
 clear hs1 hqv1
 have cv1_1 := (k4c HBv1_1).2.1
 by_cases hc1 : (L - (a.size : Int)) < 0
 ·
  go_wp2_with fail
  go_ret
  exact ⟨-1, rfl, by omega, fun h => absurd h (by omega), hb1⟩
 ·
  have cv1_2 := (k4c HBv1_1).2.2.1
  by_cases hc2 : ((L - (a.size : Int)) - (b.size : Int)) < 0
  ·
   go_wp2_with fail
   go_ret
   exact ⟨-1, rfl, by omega, fun h => absurd h (by omega), hb1⟩
  ·
   go_wp2_with fail
   go_ret
   exact ⟨_, rfl, by omega, fun _ => ⟨by omega, by omega⟩, hb1⟩
theorem eqBan_any (k : Int) (a b : ByteArray) (t : Int) (w : World) :
  Calls Tryz.prog 110 #[.agg #[.int .i64 k, .string a, .string b, .int .i64 t], .agg #[.int .i64 k, .string a, .string b, .int .i64 t]] w fun e w' => e = .returned (.bool true) ∧ Below w.heap.size w w' := by
 have hkk : (k != k) = false := by simp
 have haa : (a.toList != a.toList) = false := by simp
 have hbb : (b.toList != b.toList) = false := by simp
 have htt : (t != t) = false := by simp
 have hb0 : Below w.heap.size w w := Below.refl _ _
 go_enter Tryz.func110, Tryz.ntmps110
 go_upto_region 1 with fail
 obtain ⟨qv1, hqv1⟩ := exq ((w).heap.size)
 obtain ⟨w1, hW1⟩ := exq ((w).alloc (.cells #[.int .i64 k, .string a, .string b, .int .i64 t] 152))
 have hz1 : (w).heap.size = qv1 := hqv1.symm
 first | rw [← hW1, ← hqv1] | rw [← hW1]
 have hs1 := hsa hW1 hz1
 have bw := bal hW1
 have hb1 := hbt hb0 bw
 have HBv1_1 := hnew hW1 hz1
 clear hb0 bw hW1 hz1
 obtain ⟨qv2, hqv2⟩ := exq (qv1 + 1)
 obtain ⟨w2, hW2⟩ := exq ((w1).alloc (.cells #[.int .i64 k, .string a, .string b, .int .i64 t] 152))
 have hz2 : (w1).heap.size = qv2 := by rw [hqv2]; exact hs1
 first | rw [← hW2, ← hqv2] | rw [← hW2]
 have hs2 := hsa hW2 hz2
 have bw := bal hW2
 have hb2 := hbt hb1 bw
 have HBv1_2 := hblk HBv1_1 bw
 have HBv2_2 := hnew hW2 hz2
 clear hb1 HBv1_1 bw hW2 hz2
 clear hs2 hqv2 hs1 hqv1
 have cv1_0 := (k4c HBv1_2).1
 have cv2_0 := (k4c HBv2_2).1
 have cv1_1 := (k4c HBv1_2).2.1
 have cv2_1 := (k4c HBv2_2).2.1
 have cv1_2 := (k4c HBv1_2).2.2.1
 have cv2_2 := (k4c HBv2_2).2.2.1
 have cv1_3 := (k4c HBv1_2).2.2.2
 have cv2_3 := (k4c HBv2_2).2.2.2
 go_wp2_with fail
 go_ret
 exact ⟨rfl, hb2⟩
end Go.Proofs.YtbmhonfgffjpcaaGreat
