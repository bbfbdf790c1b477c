/- What the proof of FnHits leans on: contracts of the program's and the specification's functions, and plain facts (part 3 of 9). -/
import Derived.Test.YtlmenolcgaakeaaGreatFnHitsB
namespace Go.Proofs.YtlmenolcgaakeaaGreat
open Go.RowKit
open Go.Lib hiding intOf

/-- A drawn ban of short texts; the cursor alone was turned. -/
def BanDrawn (w : World) (c : Nat) (a : Option Addr) (len cap : Nat) (e : Ending) (w' : World) : Prop :=
  ∃ (k : Int) (p b : ByteArray) (t : Int), e = .returned (.agg #[.int .i64 k, .string p, .string b, .int .i64 t]) ∧ (-10 ≤ k ∧ k ≤ 10) ∧ p.size ≤ 64 ∧ b.size ≤ 64 ∧ (-9223372036854775808 ≤ t ∧ t ≤ 9223372036854775807) ∧ CurAt w' c a len cap ∧ w.grownBy w' (some c)
set_option maxHeartbeats 8000000 in
set_option maxRecDepth 100000 in
theorem l11DrawRight_any (t : Int) (ht : -9223372036854775808 ≤ t ∧ t ≤ 9223372036854775807) (c B : Nat) (a : Option Addr) (len cap : Nat) (zs : List Int) (w : World) (hcur : CurAt w c a len cap) (hcode : CodeAt w B a len zs) (hB : B ≤ c) :
    Calls Tryz.prog 29 #[.pointer (some ⟨c, 0, none⟩), .int .i64 t] w fun e w' => BanDrawn w c a len cap e w' := by
  have HCO : Hid (∀ W, w.grownBy W (some c) → CodeAt W B a len zs) := fun W h => hcode.grown h hB
  have HBC : Hid (B ≤ c) := hB
  have EU_0 : Hid (CurAt w c a len cap) := hcur
  clear hcode hB hcur
  have HTT : Hid (-9223372036854775808 ≤ t ∧ t ≤ 9223372036854775807) := ht
  clear ht
  have hb0 : w.grownBy w (some c) := World.grownBy.refl _ _
  go_enter Tryz.func29, Tryz.ntmps29
  go_upto_region 1 with fail
  obtain ⟨qv1, hqv1⟩ : ∃ q, q = (w).heap.size := ⟨_, rfl⟩
  obtain ⟨w1, hW1⟩ : ∃ W, W = (w).alloc (.cells #[.int .i64 0, .string ⟨#[]⟩, .string ⟨#[]⟩, .int .i64 0] 25) := ⟨_, rfl⟩
  have hz1 : (w).heap.size = qv1 := hqv1.symm
  first | rw [← hW1, ← hqv1] | rw [← hW1]
  have hs1 : w1.heap.size = qv1 + 1 := by rw [hW1, ← hz1]; simp
  have bw : Below (w).heap.size (w) w1 := by rw [hW1]; exact (Below.refl _ _).alloc (Nat.le_refl _) _
  have hb1 : w.grownBy w1 (some c) := grown_then hb0 (grown_below bw _)
  have EU_1 : Hid (CurAt w1 c a len cap) := EU_0.out.below bw EU_0.out.lt
  have HBv1_1 : Hid ((w1).heap[qv1]? = some (.cells #[.int .i64 0, .string ⟨#[]⟩, .string ⟨#[]⟩, .int .i64 0] 25)) := by show _ = _; rw [hW1, ← hz1]; exact heap_alloc_new _ _
  have HGv1 : Hid (w.heap.size ≤ qv1) := by show _ ≤ _; rw [← hz1]; exact hb0.size
  have HNCv1 : Hid (qv1 ≠ c) := fun e => by have h1 := EU_0.out.lt; omega
  clear hb0 EU_0 bw hW1 hz1
  clear hs1 hqv1
  go_wp2_with fail
  refine (l1Below_any c B 3 a len cap zs _ EU_1.out (HCO.out _ hb1) HBC.out (by decide) (by decide)).mono ?_
  rintro e w2 ⟨n1, rfl, hn01, hn11, hcu, hg⟩
  have hb2 : w.grownBy w2 (some c) := grown_then hb1 hg
  have HBv1_2 : Hid ((w2).heap[qv1]? = some (.cells #[.int .i64 0, .string ⟨#[]⟩, .string ⟨#[]⟩, .int .i64 0] 25)) := (hg.block _ (Array.getElem?_eq_some_iff.1 HBv1_1.out).1 (fun e => HNCv1.out (Option.some.inj e))).trans HBv1_1.out
  have EU_2 : Hid (CurAt w2 c a len cap) := hcu
  clear hb1 HBv1_1 EU_1 hg hcu
  by_cases hc1 : n1 = 0
  · have hc1b : ((n1 : Int) == (0 : Int)) = true := by simpa using hc1
    have hc1n : ((n1 : Int) != (0 : Int)) = false := by simpa using hc1
    have hc1H : Hid (n1 = 0) := hc1
    clear hc1
    go_wp2_with fail
    obtain ⟨qv2, hqv2⟩ : ∃ q, q = (w2).heap.size := ⟨_, rfl⟩
    obtain ⟨w3, hW3⟩ : ∃ W, W = (w2).alloc (.cells #[.string ⟨#[47]⟩, .string ⟨#[47, 97]⟩, .string ⟨#[47, 97, 47, 98]⟩, .string ⟨#[47, 98]⟩] 9) := ⟨_, rfl⟩
    have hz3 : (w2).heap.size = qv2 := hqv2.symm
    first | rw [← hW3, ← hqv2] | rw [← hW3]
    have hs3 : w3.heap.size = qv2 + 1 := by rw [hW3, ← hz3]; simp
    have bw : Below (w2).heap.size (w2) w3 := by rw [hW3]; exact (Below.refl _ _).alloc (Nat.le_refl _) _
    have hb3 : w.grownBy w3 (some c) := grown_then hb2 (grown_below bw _)
    have HM3 : Hid ((w2).heap.size ≤ (w3).heap.size) := bw.size
    have HBv1_3 : Hid ((w3).heap[qv1]? = some (.cells #[.int .i64 0, .string ⟨#[]⟩, .string ⟨#[]⟩, .int .i64 0] 25)) := blk_below HBv1_2.out bw
    have EU_3 : Hid (CurAt w3 c a len cap) := EU_2.out.below bw EU_2.out.lt
    have HNv1v2 : Hid (qv1 ≠ qv2) := fun e => by have h1 := (Array.getElem?_eq_some_iff.1 HBv1_2.out).1; omega
    have HBv2_3 : Hid ((w3).heap[qv2]? = some (.cells #[.string ⟨#[47]⟩, .string ⟨#[47, 97]⟩, .string ⟨#[47, 97, 47, 98]⟩, .string ⟨#[47, 98]⟩] 9)) := by show _ = _; rw [hW3, ← hz3]; exact heap_alloc_new _ _
    have HGv2 : Hid (w.heap.size ≤ qv2) := by show _ ≤ _; rw [← hz3]; exact hb2.size
    have HNCv2 : Hid (qv2 ≠ c) := fun e => by have h1 := EU_2.out.lt; omega
    clear hb2 HBv1_2 EU_2 bw hW3 hz3
    clear hs3 hqv2
    have HLS : Hid (ListAt w3 qv2 4 (textAt [⟨#[47]⟩, ⟨#[47, 97]⟩, ⟨#[47, 97, 47, 98]⟩, ⟨#[47, 98]⟩])) := by
      intro j hj
      match j, hj with
      | 0, _ => exact (cell_of HBv2_3.out 0).trans rfl
      | 1, _ => exact (cell_of HBv2_3.out 1).trans rfl
      | 2, _ => exact (cell_of HBv2_3.out 2).trans rfl
      | 3, _ => exact (cell_of HBv2_3.out 3).trans rfl
    refine (l1Pick_any c B qv2 4 (textAt [⟨#[47]⟩, ⟨#[47, 97]⟩, ⟨#[47, 97, 47, 98]⟩, ⟨#[47, 98]⟩]) a len cap zs _ EU_3.out (HCO.out _ hb3) HBC.out (by decide) (by decide) HLS.out HNCv2.out).mono ?_
    rintro e w4 ⟨jx, hjx, rfl, hcu, hg⟩
    obtain ⟨x2, hx2⟩ : ∃ x, x = textAt [⟨#[47]⟩, ⟨#[47, 97]⟩, ⟨#[47, 97, 47, 98]⟩, ⟨#[47, 98]⟩] jx := ⟨_, rfl⟩
    rw [← hx2]
    have HXx2 : Hid (x2.size ≤ 64) := by show _ ≤ _; rw [hx2]; exact (show ∀ j, j < 4 → (textAt [⟨#[47]⟩, ⟨#[47, 97]⟩, ⟨#[47, 97, 47, 98]⟩, ⟨#[47, 98]⟩] j).size ≤ 64 by decide) jx hjx
    clear hx2 hjx HLS
    have hb4 : w.grownBy w4 (some c) := grown_then hb3 hg
    have HM4 : Hid ((w3).heap.size ≤ (w4).heap.size) := hg.size
    have HBv1_4 : Hid ((w4).heap[qv1]? = some (.cells #[.int .i64 0, .string ⟨#[]⟩, .string ⟨#[]⟩, .int .i64 0] 25)) := (hg.block _ (Array.getElem?_eq_some_iff.1 HBv1_3.out).1 (fun e => HNCv1.out (Option.some.inj e))).trans HBv1_3.out
    have HBv2_4 : Hid ((w4).heap[qv2]? = some (.cells #[.string ⟨#[47]⟩, .string ⟨#[47, 97]⟩, .string ⟨#[47, 97, 47, 98]⟩, .string ⟨#[47, 98]⟩] 9)) := (hg.block _ (Array.getElem?_eq_some_iff.1 HBv2_3.out).1 (fun e => HNCv2.out (Option.some.inj e))).trans HBv2_3.out
    have EU_4 : Hid (CurAt w4 c a len cap) := hcu
    clear hb3 HBv1_3 HBv2_3 EU_3 hg hcu
    clear HBv2_4
    have cv1_0 : (w4).cell? ⟨qv1, 0, none⟩ = some (.int .i64 0) := (cell_of HBv1_4.out 0).trans rfl
    have fcv1_0 : (w4).frozen? ⟨qv1, 0, none⟩ = false := frozen_of HBv1_4.out 0
    have cv1_1 : (w4).cell? ⟨qv1, 1, none⟩ = some (.string ⟨#[]⟩) := (cell_of HBv1_4.out 1).trans rfl
    have fcv1_1 : (w4).frozen? ⟨qv1, 1, none⟩ = false := frozen_of HBv1_4.out 1
    have cv1_2 : (w4).cell? ⟨qv1, 2, none⟩ = some (.string ⟨#[]⟩) := (cell_of HBv1_4.out 2).trans rfl
    have fcv1_2 : (w4).frozen? ⟨qv1, 2, none⟩ = false := frozen_of HBv1_4.out 2
    have cv1_3 : (w4).cell? ⟨qv1, 3, none⟩ = some (.int .i64 0) := (cell_of HBv1_4.out 3).trans rfl
    have fcv1_3 : (w4).frozen? ⟨qv1, 3, none⟩ = false := frozen_of HBv1_4.out 3
    go_wp2_with fail
    obtain ⟨w5, hW5⟩ : ∃ W, W = (w4).setCell ⟨qv1, 0, none⟩ (.int .i64 1) := ⟨_, rfl⟩
    rw [← hW5]
    have hb5 : w.grownBy w5 (some c) := by rw [hW5]; exact (grown_own hb4 HGv1.out 0 _)
    have HM5 : Hid ((w4).heap.size ≤ w5.heap.size) := by show _ ≤ _; rw [hW5]; simp
    have EU_5 : Hid (CurAt w5 c a len cap) := by show CurAt _ _ _ _ _; rw [hW5]; exact cur_set EU_4.out HNCv1.out _ _
    have HBv1_5 : Hid ((w5).heap[qv1]? = some (.cells #[.int .i64 1, .string ⟨#[]⟩, .string ⟨#[]⟩, .int .i64 0] 25)) := by show _ = _; rw [hW5]; have h := heap_set _ _ 0 _ _ _ (.int .i64 1) HBv1_4.out; simpa using h
    clear hb4 HBv1_4 EU_4 hW5
    obtain ⟨w6, hW6⟩ : ∃ W, W = (w5).setCell ⟨qv1, 1, none⟩ (.string x2) := ⟨_, rfl⟩
    rw [← hW6]
    have hb6 : w.grownBy w6 (some c) := by rw [hW6]; exact (grown_own hb5 HGv1.out 1 _)
    have HM6 : Hid ((w5).heap.size ≤ w6.heap.size) := by show _ ≤ _; rw [hW6]; simp
    have EU_6 : Hid (CurAt w6 c a len cap) := by show CurAt _ _ _ _ _; rw [hW6]; exact cur_set EU_5.out HNCv1.out _ _
    have HBv1_6 : Hid ((w6).heap[qv1]? = some (.cells #[.int .i64 1, .string x2, .string ⟨#[]⟩, .int .i64 0] 25)) := by show _ = _; rw [hW6]; have h := heap_set _ _ 1 _ _ _ (.string x2) HBv1_5.out; simpa using h
    clear hb5 HBv1_5 EU_5 hW6
    obtain ⟨w7, hW7⟩ : ∃ W, W = (w6).setCell ⟨qv1, 2, none⟩ (.string ⟨#[]⟩) := ⟨_, rfl⟩
    rw [← hW7]
    have hb7 : w.grownBy w7 (some c) := by rw [hW7]; exact (grown_own hb6 HGv1.out 2 _)
    have HM7 : Hid ((w6).heap.size ≤ w7.heap.size) := by show _ ≤ _; rw [hW7]; simp
    have EU_7 : Hid (CurAt w7 c a len cap) := by show CurAt _ _ _ _ _; rw [hW7]; exact cur_set EU_6.out HNCv1.out _ _
    have HBv1_7 : Hid ((w7).heap[qv1]? = some (.cells #[.int .i64 1, .string x2, .string ⟨#[]⟩, .int .i64 0] 25)) := by show _ = _; rw [hW7]; have h := heap_set _ _ 2 _ _ _ (.string ⟨#[]⟩) HBv1_6.out; simpa using h
    clear hb6 HBv1_6 EU_6 hW7
    obtain ⟨w8, hW8⟩ : ∃ W, W = (w7).setCell ⟨qv1, 3, none⟩ (.int .i64 t) := ⟨_, rfl⟩
    rw [← hW8]
    have hb8 : w.grownBy w8 (some c) := by rw [hW8]; exact (grown_own hb7 HGv1.out 3 _)
    have HM8 : Hid ((w7).heap.size ≤ w8.heap.size) := by show _ ≤ _; rw [hW8]; simp
    have EU_8 : Hid (CurAt w8 c a len cap) := by show CurAt _ _ _ _ _; rw [hW8]; exact cur_set EU_7.out HNCv1.out _ _
    have HBv1_8 : Hid ((w8).heap[qv1]? = some (.cells #[.int .i64 1, .string x2, .string ⟨#[]⟩, .int .i64 t] 25)) := by show _ = _; rw [hW8]; have h := heap_set _ _ 3 _ _ _ (.int .i64 t) HBv1_7.out; simpa using h
    clear hb7 HBv1_7 EU_7 hW8
    have kv1_0 : (w8).cell? ⟨qv1, 0, none⟩ = some (.int .i64 1) := (cell_of HBv1_8.out 0).trans rfl
    have kv1_1 : (w8).cell? ⟨qv1, 1, none⟩ = some (.string x2) := (cell_of HBv1_8.out 1).trans rfl
    have kv1_2 : (w8).cell? ⟨qv1, 2, none⟩ = some (.string ⟨#[]⟩) := (cell_of HBv1_8.out 2).trans rfl
    have kv1_3 : (w8).cell? ⟨qv1, 3, none⟩ = some (.int .i64 t) := (cell_of HBv1_8.out 3).trans rfl
    refine bodyPost_ret (v := .agg #[.int .i64 1, .string x2, .string ⟨#[]⟩, .int .i64 t]) (by simp [results, Tryz.results29, go_sem, kv1_0, kv1_1, kv1_2, kv1_3]) rfl ?_
    exact ⟨_, _, _, _, rfl, (by constructor <;> omega), HXx2.out, (by decide), HTT.out, EU_8.out, hb8⟩
  · have hc1b : ((n1 : Int) == (0 : Int)) = false := by simpa using hc1
    have hc1n : ((n1 : Int) != (0 : Int)) = true := by simpa using hc1
    have hc1H : Hid (¬ (n1 = 0)) := hc1
    clear hc1
    by_cases hc2 : n1 = 1
    · have hc2b : ((n1 : Int) == (1 : Int)) = true := by simpa using hc2
      have hc2n : ((n1 : Int) != (1 : Int)) = false := by simpa using hc2
      have hc2H : Hid (n1 = 1) := hc2
      clear hc2
      go_wp2_with fail
      obtain ⟨qv2, hqv2⟩ : ∃ q, q = (w2).heap.size := ⟨_, rfl⟩
      obtain ⟨w3, hW3⟩ : ∃ W, W = (w2).alloc (.cells #[.string ⟨#[47]⟩, .string ⟨#[47, 97]⟩, .string ⟨#[47, 98, 47, 99]⟩] 9) := ⟨_, rfl⟩
      have hz3 : (w2).heap.size = qv2 := hqv2.symm
      first | rw [← hW3, ← hqv2] | rw [← hW3]
      have hs3 : w3.heap.size = qv2 + 1 := by rw [hW3, ← hz3]; simp
      have bw : Below (w2).heap.size (w2) w3 := by rw [hW3]; exact (Below.refl _ _).alloc (Nat.le_refl _) _
      have hb3 : w.grownBy w3 (some c) := grown_then hb2 (grown_below bw _)
      have HM3 : Hid ((w2).heap.size ≤ (w3).heap.size) := bw.size
      have HBv1_3 : Hid ((w3).heap[qv1]? = some (.cells #[.int .i64 0, .string ⟨#[]⟩, .string ⟨#[]⟩, .int .i64 0] 25)) := blk_below HBv1_2.out bw
      have EU_3 : Hid (CurAt w3 c a len cap) := EU_2.out.below bw EU_2.out.lt
      have HNv1v2 : Hid (qv1 ≠ qv2) := fun e => by have h1 := (Array.getElem?_eq_some_iff.1 HBv1_2.out).1; omega
      have HBv2_3 : Hid ((w3).heap[qv2]? = some (.cells #[.string ⟨#[47]⟩, .string ⟨#[47, 97]⟩, .string ⟨#[47, 98, 47, 99]⟩] 9)) := by show _ = _; rw [hW3, ← hz3]; exact heap_alloc_new _ _
      have HGv2 : Hid (w.heap.size ≤ qv2) := by show _ ≤ _; rw [← hz3]; exact hb2.size
      have HNCv2 : Hid (qv2 ≠ c) := fun e => by have h1 := EU_2.out.lt; omega
      clear hb2 HBv1_2 EU_2 bw hW3 hz3
      clear hs3 hqv2
      have HLS : Hid (ListAt w3 qv2 3 (textAt [⟨#[47]⟩, ⟨#[47, 97]⟩, ⟨#[47, 98, 47, 99]⟩])) := by
        intro j hj
        match j, hj with
        | 0, _ => exact (cell_of HBv2_3.out 0).trans rfl
        | 1, _ => exact (cell_of HBv2_3.out 1).trans rfl
        | 2, _ => exact (cell_of HBv2_3.out 2).trans rfl
      refine (l1Pick_any c B qv2 3 (textAt [⟨#[47]⟩, ⟨#[47, 97]⟩, ⟨#[47, 98, 47, 99]⟩]) a len cap zs _ EU_3.out (HCO.out _ hb3) HBC.out (by decide) (by decide) HLS.out HNCv2.out).mono ?_
      rintro e w4 ⟨jx, hjx, rfl, hcu, hg⟩
      obtain ⟨x2, hx2⟩ : ∃ x, x = textAt [⟨#[47]⟩, ⟨#[47, 97]⟩, ⟨#[47, 98, 47, 99]⟩] jx := ⟨_, rfl⟩
      rw [← hx2]
      have HXx2 : Hid (x2.size ≤ 64) := by show _ ≤ _; rw [hx2]; exact (show ∀ j, j < 3 → (textAt [⟨#[47]⟩, ⟨#[47, 97]⟩, ⟨#[47, 98, 47, 99]⟩] j).size ≤ 64 by decide) jx hjx
      clear hx2 hjx HLS
      have hb4 : w.grownBy w4 (some c) := grown_then hb3 hg
      have HM4 : Hid ((w3).heap.size ≤ (w4).heap.size) := hg.size
      have HBv1_4 : Hid ((w4).heap[qv1]? = some (.cells #[.int .i64 0, .string ⟨#[]⟩, .string ⟨#[]⟩, .int .i64 0] 25)) := (hg.block _ (Array.getElem?_eq_some_iff.1 HBv1_3.out).1 (fun e => HNCv1.out (Option.some.inj e))).trans HBv1_3.out
      have HBv2_4 : Hid ((w4).heap[qv2]? = some (.cells #[.string ⟨#[47]⟩, .string ⟨#[47, 97]⟩, .string ⟨#[47, 98, 47, 99]⟩] 9)) := (hg.block _ (Array.getElem?_eq_some_iff.1 HBv2_3.out).1 (fun e => HNCv2.out (Option.some.inj e))).trans HBv2_3.out
      have EU_4 : Hid (CurAt w4 c a len cap) := hcu
      clear hb3 HBv1_3 HBv2_3 EU_3 hg hcu
      clear HBv2_4
      have cv1_0 : (w4).cell? ⟨qv1, 0, none⟩ = some (.int .i64 0) := (cell_of HBv1_4.out 0).trans rfl
      have fcv1_0 : (w4).frozen? ⟨qv1, 0, none⟩ = false := frozen_of HBv1_4.out 0
      have cv1_1 : (w4).cell? ⟨qv1, 1, none⟩ = some (.string ⟨#[]⟩) := (cell_of HBv1_4.out 1).trans rfl
      have fcv1_1 : (w4).frozen? ⟨qv1, 1, none⟩ = false := frozen_of HBv1_4.out 1
      have cv1_2 : (w4).cell? ⟨qv1, 2, none⟩ = some (.string ⟨#[]⟩) := (cell_of HBv1_4.out 2).trans rfl
      have fcv1_2 : (w4).frozen? ⟨qv1, 2, none⟩ = false := frozen_of HBv1_4.out 2
      have cv1_3 : (w4).cell? ⟨qv1, 3, none⟩ = some (.int .i64 0) := (cell_of HBv1_4.out 3).trans rfl
      have fcv1_3 : (w4).frozen? ⟨qv1, 3, none⟩ = false := frozen_of HBv1_4.out 3
      go_wp2_with fail
      obtain ⟨w5, hW5⟩ : ∃ W, W = (w4).setCell ⟨qv1, 0, none⟩ (.int .i64 2) := ⟨_, rfl⟩
      rw [← hW5]
      have hb5 : w.grownBy w5 (some c) := by rw [hW5]; exact (grown_own hb4 HGv1.out 0 _)
      have HM5 : Hid ((w4).heap.size ≤ w5.heap.size) := by show _ ≤ _; rw [hW5]; simp
      have EU_5 : Hid (CurAt w5 c a len cap) := by show CurAt _ _ _ _ _; rw [hW5]; exact cur_set EU_4.out HNCv1.out _ _
      have HBv1_5 : Hid ((w5).heap[qv1]? = some (.cells #[.int .i64 2, .string ⟨#[]⟩, .string ⟨#[]⟩, .int .i64 0] 25)) := by show _ = _; rw [hW5]; have h := heap_set _ _ 0 _ _ _ (.int .i64 2) HBv1_4.out; simpa using h
      clear hb4 HBv1_4 EU_4 hW5
      obtain ⟨w6, hW6⟩ : ∃ W, W = (w5).setCell ⟨qv1, 1, none⟩ (.string x2) := ⟨_, rfl⟩
      rw [← hW6]
      have hb6 : w.grownBy w6 (some c) := by rw [hW6]; exact (grown_own hb5 HGv1.out 1 _)
      have HM6 : Hid ((w5).heap.size ≤ w6.heap.size) := by show _ ≤ _; rw [hW6]; simp
      have EU_6 : Hid (CurAt w6 c a len cap) := by show CurAt _ _ _ _ _; rw [hW6]; exact cur_set EU_5.out HNCv1.out _ _
      have HBv1_6 : Hid ((w6).heap[qv1]? = some (.cells #[.int .i64 2, .string x2, .string ⟨#[]⟩, .int .i64 0] 25)) := by show _ = _; rw [hW6]; have h := heap_set _ _ 1 _ _ _ (.string x2) HBv1_5.out; simpa using h
      clear hb5 HBv1_5 EU_5 hW6
      obtain ⟨w7, hW7⟩ : ∃ W, W = (w6).setCell ⟨qv1, 2, none⟩ (.string ⟨#[]⟩) := ⟨_, rfl⟩
      rw [← hW7]
      have hb7 : w.grownBy w7 (some c) := by rw [hW7]; exact (grown_own hb6 HGv1.out 2 _)
      have HM7 : Hid ((w6).heap.size ≤ w7.heap.size) := by show _ ≤ _; rw [hW7]; simp
      have EU_7 : Hid (CurAt w7 c a len cap) := by show CurAt _ _ _ _ _; rw [hW7]; exact cur_set EU_6.out HNCv1.out _ _
      have HBv1_7 : Hid ((w7).heap[qv1]? = some (.cells #[.int .i64 2, .string x2, .string ⟨#[]⟩, .int .i64 0] 25)) := by show _ = _; rw [hW7]; have h := heap_set _ _ 2 _ _ _ (.string ⟨#[]⟩) HBv1_6.out; simpa using h
      clear hb6 HBv1_6 EU_6 hW7
      obtain ⟨w8, hW8⟩ : ∃ W, W = (w7).setCell ⟨qv1, 3, none⟩ (.int .i64 t) := ⟨_, rfl⟩
      rw [← hW8]
      have hb8 : w.grownBy w8 (some c) := by rw [hW8]; exact (grown_own hb7 HGv1.out 3 _)
      have HM8 : Hid ((w7).heap.size ≤ w8.heap.size) := by show _ ≤ _; rw [hW8]; simp
      have EU_8 : Hid (CurAt w8 c a len cap) := by show CurAt _ _ _ _ _; rw [hW8]; exact cur_set EU_7.out HNCv1.out _ _
      have HBv1_8 : Hid ((w8).heap[qv1]? = some (.cells #[.int .i64 2, .string x2, .string ⟨#[]⟩, .int .i64 t] 25)) := by show _ = _; rw [hW8]; have h := heap_set _ _ 3 _ _ _ (.int .i64 t) HBv1_7.out; simpa using h
      clear hb7 HBv1_7 EU_7 hW8
      have kv1_0 : (w8).cell? ⟨qv1, 0, none⟩ = some (.int .i64 2) := (cell_of HBv1_8.out 0).trans rfl
      have kv1_1 : (w8).cell? ⟨qv1, 1, none⟩ = some (.string x2) := (cell_of HBv1_8.out 1).trans rfl
      have kv1_2 : (w8).cell? ⟨qv1, 2, none⟩ = some (.string ⟨#[]⟩) := (cell_of HBv1_8.out 2).trans rfl
      have kv1_3 : (w8).cell? ⟨qv1, 3, none⟩ = some (.int .i64 t) := (cell_of HBv1_8.out 3).trans rfl
      refine bodyPost_ret (v := .agg #[.int .i64 2, .string x2, .string ⟨#[]⟩, .int .i64 t]) (by simp [results, Tryz.results29, go_sem, kv1_0, kv1_1, kv1_2, kv1_3]) rfl ?_
      exact ⟨_, _, _, _, rfl, (by constructor <;> omega), HXx2.out, (by decide), HTT.out, EU_8.out, hb8⟩
    · have hc2b : ((n1 : Int) == (1 : Int)) = false := by simpa using hc2
      have hc2n : ((n1 : Int) != (1 : Int)) = true := by simpa using hc2
      have hc2H : Hid (¬ (n1 = 1)) := hc2
      clear hc2
      go_wp2_with fail
      obtain ⟨qv2, hqv2⟩ : ∃ q, q = (w2).heap.size := ⟨_, rfl⟩
      obtain ⟨w3, hW3⟩ : ∃ W, W = (w2).alloc (.cells #[.string ⟨#[101, 116, 97, 103]⟩, .string ⟨#[120, 45, 97]⟩] 9) := ⟨_, rfl⟩
      have hz3 : (w2).heap.size = qv2 := hqv2.symm
      first | rw [← hW3, ← hqv2] | rw [← hW3]
      have hs3 : w3.heap.size = qv2 + 1 := by rw [hW3, ← hz3]; simp
      have bw : Below (w2).heap.size (w2) w3 := by rw [hW3]; exact (Below.refl _ _).alloc (Nat.le_refl _) _
      have hb3 : w.grownBy w3 (some c) := grown_then hb2 (grown_below bw _)
      have HM3 : Hid ((w2).heap.size ≤ (w3).heap.size) := bw.size
      have HBv1_3 : Hid ((w3).heap[qv1]? = some (.cells #[.int .i64 0, .string ⟨#[]⟩, .string ⟨#[]⟩, .int .i64 0] 25)) := blk_below HBv1_2.out bw
      have EU_3 : Hid (CurAt w3 c a len cap) := EU_2.out.below bw EU_2.out.lt
      have HNv1v2 : Hid (qv1 ≠ qv2) := fun e => by have h1 := (Array.getElem?_eq_some_iff.1 HBv1_2.out).1; omega
      have HBv2_3 : Hid ((w3).heap[qv2]? = some (.cells #[.string ⟨#[101, 116, 97, 103]⟩, .string ⟨#[120, 45, 97]⟩] 9)) := by show _ = _; rw [hW3, ← hz3]; exact heap_alloc_new _ _
      have HGv2 : Hid (w.heap.size ≤ qv2) := by show _ ≤ _; rw [← hz3]; exact hb2.size
      have HNCv2 : Hid (qv2 ≠ c) := fun e => by have h1 := EU_2.out.lt; omega
      clear hb2 HBv1_2 EU_2 bw hW3 hz3
      clear hs3 hqv2
      have HLS : Hid (ListAt w3 qv2 2 (textAt [⟨#[101, 116, 97, 103]⟩, ⟨#[120, 45, 97]⟩])) := by
        intro j hj
        match j, hj with
        | 0, _ => exact (cell_of HBv2_3.out 0).trans rfl
        | 1, _ => exact (cell_of HBv2_3.out 1).trans rfl
      refine (l1Pick_any c B qv2 2 (textAt [⟨#[101, 116, 97, 103]⟩, ⟨#[120, 45, 97]⟩]) a len cap zs _ EU_3.out (HCO.out _ hb3) HBC.out (by decide) (by decide) HLS.out HNCv2.out).mono ?_
      rintro e w4 ⟨jx, hjx, rfl, hcu, hg⟩
      obtain ⟨x2, hx2⟩ : ∃ x, x = textAt [⟨#[101, 116, 97, 103]⟩, ⟨#[120, 45, 97]⟩] jx := ⟨_, rfl⟩
      rw [← hx2]
      have HXx2 : Hid (x2.size ≤ 64) := by show _ ≤ _; rw [hx2]; exact (show ∀ j, j < 2 → (textAt [⟨#[101, 116, 97, 103]⟩, ⟨#[120, 45, 97]⟩] j).size ≤ 64 by decide) jx hjx
      clear hx2 hjx HLS
      have hb4 : w.grownBy w4 (some c) := grown_then hb3 hg
      have HM4 : Hid ((w3).heap.size ≤ (w4).heap.size) := hg.size
      have HBv1_4 : Hid ((w4).heap[qv1]? = some (.cells #[.int .i64 0, .string ⟨#[]⟩, .string ⟨#[]⟩, .int .i64 0] 25)) := (hg.block _ (Array.getElem?_eq_some_iff.1 HBv1_3.out).1 (fun e => HNCv1.out (Option.some.inj e))).trans HBv1_3.out
      have HBv2_4 : Hid ((w4).heap[qv2]? = some (.cells #[.string ⟨#[101, 116, 97, 103]⟩, .string ⟨#[120, 45, 97]⟩] 9)) := (hg.block _ (Array.getElem?_eq_some_iff.1 HBv2_3.out).1 (fun e => HNCv2.out (Option.some.inj e))).trans HBv2_3.out
      have EU_4 : Hid (CurAt w4 c a len cap) := hcu
      clear hb3 HBv1_3 HBv2_3 EU_3 hg hcu
      clear HBv2_4
      go_wp2_with fail
      obtain ⟨qv3, hqv3⟩ : ∃ q, q = (w4).heap.size := ⟨_, rfl⟩
      obtain ⟨w5, hW5⟩ : ∃ W, W = (w4).alloc (.cells #[.string ⟨#[97]⟩, .string ⟨#[98]⟩, .string ⟨#[49]⟩] 9) := ⟨_, rfl⟩
      have hz5 : (w4).heap.size = qv3 := hqv3.symm
      first | rw [← hW5, ← hqv3] | rw [← hW5]
      have hs5 : w5.heap.size = qv3 + 1 := by rw [hW5, ← hz5]; simp
      have bw : Below (w4).heap.size (w4) w5 := by rw [hW5]; exact (Below.refl _ _).alloc (Nat.le_refl _) _
      have hb5 : w.grownBy w5 (some c) := grown_then hb4 (grown_below bw _)
      have HM5 : Hid ((w4).heap.size ≤ (w5).heap.size) := bw.size
      have HBv1_5 : Hid ((w5).heap[qv1]? = some (.cells #[.int .i64 0, .string ⟨#[]⟩, .string ⟨#[]⟩, .int .i64 0] 25)) := blk_below HBv1_4.out bw
      have EU_5 : Hid (CurAt w5 c a len cap) := EU_4.out.below bw EU_4.out.lt
      have HBv3_5 : Hid ((w5).heap[qv3]? = some (.cells #[.string ⟨#[97]⟩, .string ⟨#[98]⟩, .string ⟨#[49]⟩] 9)) := by show _ = _; rw [hW5, ← hz5]; exact heap_alloc_new _ _
      have HNCv3 : Hid (qv3 ≠ c) := fun e => by have h1 := EU_4.out.lt; omega
      clear hb4 HBv1_4 EU_4 bw hW5 hz5
      clear hs5 hqv3
      have HLS : Hid (ListAt w5 qv3 3 (textAt [⟨#[97]⟩, ⟨#[98]⟩, ⟨#[49]⟩])) := by
        intro j hj
        match j, hj with
        | 0, _ => exact (cell_of HBv3_5.out 0).trans rfl
        | 1, _ => exact (cell_of HBv3_5.out 1).trans rfl
        | 2, _ => exact (cell_of HBv3_5.out 2).trans rfl
      refine (l1Pick_any c B qv3 3 (textAt [⟨#[97]⟩, ⟨#[98]⟩, ⟨#[49]⟩]) a len cap zs _ EU_5.out (HCO.out _ hb5) HBC.out (by decide) (by decide) HLS.out HNCv3.out).mono ?_
      rintro e w6 ⟨jx, hjx, rfl, hcu, hg⟩
      obtain ⟨x3, hx3⟩ : ∃ x, x = textAt [⟨#[97]⟩, ⟨#[98]⟩, ⟨#[49]⟩] jx := ⟨_, rfl⟩
      rw [← hx3]
      have HXx3 : Hid (x3.size ≤ 64) := by show _ ≤ _; rw [hx3]; exact (show ∀ j, j < 3 → (textAt [⟨#[97]⟩, ⟨#[98]⟩, ⟨#[49]⟩] j).size ≤ 64 by decide) jx hjx
      clear hx3 hjx HLS
      have hb6 : w.grownBy w6 (some c) := grown_then hb5 hg
      have HM6 : Hid ((w5).heap.size ≤ (w6).heap.size) := hg.size
      have HBv1_6 : Hid ((w6).heap[qv1]? = some (.cells #[.int .i64 0, .string ⟨#[]⟩, .string ⟨#[]⟩, .int .i64 0] 25)) := (hg.block _ (Array.getElem?_eq_some_iff.1 HBv1_5.out).1 (fun e => HNCv1.out (Option.some.inj e))).trans HBv1_5.out
      have HBv3_6 : Hid ((w6).heap[qv3]? = some (.cells #[.string ⟨#[97]⟩, .string ⟨#[98]⟩, .string ⟨#[49]⟩] 9)) := (hg.block _ (Array.getElem?_eq_some_iff.1 HBv3_5.out).1 (fun e => HNCv3.out (Option.some.inj e))).trans HBv3_5.out
      have EU_6 : Hid (CurAt w6 c a len cap) := hcu
      clear hb5 HBv1_5 HBv3_5 EU_5 hg hcu
      clear HBv3_6
      have cv1_0 : (w6).cell? ⟨qv1, 0, none⟩ = some (.int .i64 0) := (cell_of HBv1_6.out 0).trans rfl
      have fcv1_0 : (w6).frozen? ⟨qv1, 0, none⟩ = false := frozen_of HBv1_6.out 0
      have cv1_1 : (w6).cell? ⟨qv1, 1, none⟩ = some (.string ⟨#[]⟩) := (cell_of HBv1_6.out 1).trans rfl
      have fcv1_1 : (w6).frozen? ⟨qv1, 1, none⟩ = false := frozen_of HBv1_6.out 1
      have cv1_2 : (w6).cell? ⟨qv1, 2, none⟩ = some (.string ⟨#[]⟩) := (cell_of HBv1_6.out 2).trans rfl
      have fcv1_2 : (w6).frozen? ⟨qv1, 2, none⟩ = false := frozen_of HBv1_6.out 2
      have cv1_3 : (w6).cell? ⟨qv1, 3, none⟩ = some (.int .i64 0) := (cell_of HBv1_6.out 3).trans rfl
      have fcv1_3 : (w6).frozen? ⟨qv1, 3, none⟩ = false := frozen_of HBv1_6.out 3
      go_wp2_with fail
      obtain ⟨w7, hW7⟩ : ∃ W, W = (w6).setCell ⟨qv1, 0, none⟩ (.int .i64 3) := ⟨_, rfl⟩
      rw [← hW7]
      have hb7 : w.grownBy w7 (some c) := by rw [hW7]; exact (grown_own hb6 HGv1.out 0 _)
      have HM7 : Hid ((w6).heap.size ≤ w7.heap.size) := by show _ ≤ _; rw [hW7]; simp
      have EU_7 : Hid (CurAt w7 c a len cap) := by show CurAt _ _ _ _ _; rw [hW7]; exact cur_set EU_6.out HNCv1.out _ _
      have HBv1_7 : Hid ((w7).heap[qv1]? = some (.cells #[.int .i64 3, .string ⟨#[]⟩, .string ⟨#[]⟩, .int .i64 0] 25)) := by show _ = _; rw [hW7]; have h := heap_set _ _ 0 _ _ _ (.int .i64 3) HBv1_6.out; simpa using h
      clear hb6 HBv1_6 EU_6 hW7
      obtain ⟨w8, hW8⟩ : ∃ W, W = (w7).setCell ⟨qv1, 1, none⟩ (.string x2) := ⟨_, rfl⟩
      rw [← hW8]
      have hb8 : w.grownBy w8 (some c) := by rw [hW8]; exact (grown_own hb7 HGv1.out 1 _)
      have HM8 : Hid ((w7).heap.size ≤ w8.heap.size) := by show _ ≤ _; rw [hW8]; simp
      have EU_8 : Hid (CurAt w8 c a len cap) := by show CurAt _ _ _ _ _; rw [hW8]; exact cur_set EU_7.out HNCv1.out _ _
      have HBv1_8 : Hid ((w8).heap[qv1]? = some (.cells #[.int .i64 3, .string x2, .string ⟨#[]⟩, .int .i64 0] 25)) := by show _ = _; rw [hW8]; have h := heap_set _ _ 1 _ _ _ (.string x2) HBv1_7.out; simpa using h
      clear hb7 HBv1_7 EU_7 hW8
      obtain ⟨w9, hW9⟩ : ∃ W, W = (w8).setCell ⟨qv1, 2, none⟩ (.string x3) := ⟨_, rfl⟩
      rw [← hW9]
      have hb9 : w.grownBy w9 (some c) := by rw [hW9]; exact (grown_own hb8 HGv1.out 2 _)
      have EU_9 : Hid (CurAt w9 c a len cap) := by show CurAt _ _ _ _ _; rw [hW9]; exact cur_set EU_8.out HNCv1.out _ _
      have HBv1_9 : Hid ((w9).heap[qv1]? = some (.cells #[.int .i64 3, .string x2, .string x3, .int .i64 0] 25)) := by show _ = _; rw [hW9]; have h := heap_set _ _ 2 _ _ _ (.string x3) HBv1_8.out; simpa using h
      clear hb8 HBv1_8 EU_8 hW9
      obtain ⟨w10, hW10⟩ : ∃ W, W = (w9).setCell ⟨qv1, 3, none⟩ (.int .i64 t) := ⟨_, rfl⟩
      rw [← hW10]
      have hb10 : w.grownBy w10 (some c) := by rw [hW10]; exact (grown_own hb9 HGv1.out 3 _)
      have EU_10 : Hid (CurAt w10 c a len cap) := by show CurAt _ _ _ _ _; rw [hW10]; exact cur_set EU_9.out HNCv1.out _ _
      have HBv1_10 : Hid ((w10).heap[qv1]? = some (.cells #[.int .i64 3, .string x2, .string x3, .int .i64 t] 25)) := by show _ = _; rw [hW10]; have h := heap_set _ _ 3 _ _ _ (.int .i64 t) HBv1_9.out; simpa using h
      clear hb9 HBv1_9 EU_9 hW10
      have kv1_0 : (w10).cell? ⟨qv1, 0, none⟩ = some (.int .i64 3) := (cell_of HBv1_10.out 0).trans rfl
      have kv1_1 : (w10).cell? ⟨qv1, 1, none⟩ = some (.string x2) := (cell_of HBv1_10.out 1).trans rfl
      have kv1_2 : (w10).cell? ⟨qv1, 2, none⟩ = some (.string x3) := (cell_of HBv1_10.out 2).trans rfl
      have kv1_3 : (w10).cell? ⟨qv1, 3, none⟩ = some (.int .i64 t) := (cell_of HBv1_10.out 3).trans rfl
      refine bodyPost_ret (v := .agg #[.int .i64 3, .string x2, .string x3, .int .i64 t]) (by simp [results, Tryz.results29, go_sem, kv1_0, kv1_1, kv1_2, kv1_3]) rfl ?_
      exact ⟨_, _, _, _, rfl, (by constructor <;> omega), HXx2.out, HXx3.out, HTT.out, EU_10.out, hb10⟩

set_option maxHeartbeats 8000000 in
set_option maxRecDepth 100000 in
theorem l11Draw_any (c B : Nat) (a : Option Addr) (len cap : Nat) (zs : List Int) (w : World) (hcur : CurAt w c a len cap) (hcode : CodeAt w B a len zs) (hB : B ≤ c) :
    Calls Tryz.prog 14 #[.pointer (some ⟨c, 0, none⟩)] w fun e w' => BanDrawn w c a len cap e w' := by
  have HCO : Hid (∀ W, w.grownBy W (some c) → CodeAt W B a len zs) := fun W h => hcode.grown h hB
  have HBC : Hid (B ≤ c) := hB
  have EU_0 : Hid (CurAt w c a len cap) := hcur
  clear hcode hB hcur
  have hb0 : w.grownBy w (some c) := World.grownBy.refl _ _
  go_enter Tryz.func14, Tryz.ntmps14
  go_upto_region 1 with fail
  obtain ⟨qv1, hqv1⟩ : ∃ q, q = (w).heap.size := ⟨_, rfl⟩
  obtain ⟨w1, hW1⟩ : ∃ W, W = (w).alloc (.cells #[.int .i64 0, .string ⟨#[]⟩, .string ⟨#[]⟩, .int .i64 0] 25) := ⟨_, rfl⟩
  have hz1 : (w).heap.size = qv1 := hqv1.symm
  first | rw [← hW1, ← hqv1] | rw [← hW1]
  have hs1 : w1.heap.size = qv1 + 1 := by rw [hW1, ← hz1]; simp
  have bw : Below (w).heap.size (w) w1 := by rw [hW1]; exact (Below.refl _ _).alloc (Nat.le_refl _) _
  have hb1 : w.grownBy w1 (some c) := grown_then hb0 (grown_below bw _)
  have EU_1 : Hid (CurAt w1 c a len cap) := EU_0.out.below bw EU_0.out.lt
  have HBv1_1 : Hid ((w1).heap[qv1]? = some (.cells #[.int .i64 0, .string ⟨#[]⟩, .string ⟨#[]⟩, .int .i64 0] 25)) := by show _ = _; rw [hW1, ← hz1]; exact heap_alloc_new _ _
  have HGv1 : Hid (w.heap.size ≤ qv1) := by show _ ≤ _; rw [← hz1]; exact hb0.size
  have HNCv1 : Hid (qv1 ≠ c) := fun e => by have h1 := EU_0.out.lt; omega
  clear hb0 EU_0 bw hW1 hz1
  clear hs1 hqv1
  go_wp2_with fail
  refine (l1Below_any c B 40 a len cap zs _ EU_1.out (HCO.out _ hb1) HBC.out (by decide) (by decide)).mono ?_
  rintro e w2 ⟨n1, rfl, hn01, hn11, hcu, hg⟩
  have hb2 : w.grownBy w2 (some c) := grown_then hb1 hg
  have HBv1_2 : Hid ((w2).heap[qv1]? = some (.cells #[.int .i64 0, .string ⟨#[]⟩, .string ⟨#[]⟩, .int .i64 0] 25)) := (hg.block _ (Array.getElem?_eq_some_iff.1 HBv1_1.out).1 (fun e => HNCv1.out (Option.some.inj e))).trans HBv1_1.out
  have EU_2 : Hid (CurAt w2 c a len cap) := hcu
  clear hb1 HBv1_1 EU_1 hg hcu
  go_wp2_with fail
  refine (l11DrawRight_any n1 (by omega) c B a len cap zs _ EU_2.out (HCO.out _ hb2) HBC.out).mono ?_
  rintro e w3 ⟨k2, p2, b2, t2, rfl, hk2, hp2, hb2z, ht2, hcu, hg⟩
  have HKK : Hid (-10 ≤ k2 ∧ k2 ≤ 10) := hk2
  have HZp2 : Hid (p2.size ≤ 64) := hp2
  have HZb2 : Hid (b2.size ≤ 64) := hb2z
  have HTT2 : Hid (-9223372036854775808 ≤ t2 ∧ t2 ≤ 9223372036854775807) := ht2
  clear hk2 hp2 hb2z ht2
  have hb3 : w.grownBy w3 (some c) := grown_then hb2 hg
  have HBv1_3 : Hid ((w3).heap[qv1]? = some (.cells #[.int .i64 0, .string ⟨#[]⟩, .string ⟨#[]⟩, .int .i64 0] 25)) := (hg.block _ (Array.getElem?_eq_some_iff.1 HBv1_2.out).1 (fun e => HNCv1.out (Option.some.inj e))).trans HBv1_2.out
  have EU_3 : Hid (CurAt w3 c a len cap) := hcu
  clear hb2 HBv1_2 EU_2 hg hcu
  go_upto_region 2 with fail
  obtain ⟨qv2, hqv2⟩ : ∃ q, q = (w3).heap.size := ⟨_, rfl⟩
  obtain ⟨w4, hW4⟩ : ∃ W, W = (w3).alloc (.cells #[.int .i64 k2, .string p2, .string b2, .int .i64 t2] 25) := ⟨_, rfl⟩
  have hz4 : (w3).heap.size = qv2 := hqv2.symm
  first | rw [← hW4, ← hqv2] | rw [← hW4]
  have hs4 : w4.heap.size = qv2 + 1 := by rw [hW4, ← hz4]; simp
  have bw : Below (w3).heap.size (w3) w4 := by rw [hW4]; exact (Below.refl _ _).alloc (Nat.le_refl _) _
  have hb4 : w.grownBy w4 (some c) := grown_then hb3 (grown_below bw _)
  have HBv1_4 : Hid ((w4).heap[qv1]? = some (.cells #[.int .i64 0, .string ⟨#[]⟩, .string ⟨#[]⟩, .int .i64 0] 25)) := blk_below HBv1_3.out bw
  have EU_4 : Hid (CurAt w4 c a len cap) := EU_3.out.below bw EU_3.out.lt
  have HNv1v2 : Hid (qv1 ≠ qv2) := fun e => by have h1 := (Array.getElem?_eq_some_iff.1 HBv1_3.out).1; omega
  have HBv2_4 : Hid ((w4).heap[qv2]? = some (.cells #[.int .i64 k2, .string p2, .string b2, .int .i64 t2] 25)) := by show _ = _; rw [hW4, ← hz4]; exact heap_alloc_new _ _
  have HGv2 : Hid (w.heap.size ≤ qv2) := by show _ ≤ _; rw [← hz4]; exact hb3.size
  have HNCv2 : Hid (qv2 ≠ c) := fun e => by have h1 := EU_3.out.lt; omega
  clear hb3 HBv1_3 EU_3 bw hW4 hz4
  clear hs4 hqv2
  go_wp2_with fail
  refine (l1Below_any c B 15 a len cap zs _ EU_4.out (HCO.out _ hb4) HBC.out (by decide) (by decide)).mono ?_
  rintro e w5 ⟨n3, rfl, hn03, hn13, hcu, hg⟩
  have hb5 : w.grownBy w5 (some c) := grown_then hb4 hg
  have HBv1_5 : Hid ((w5).heap[qv1]? = some (.cells #[.int .i64 0, .string ⟨#[]⟩, .string ⟨#[]⟩, .int .i64 0] 25)) := (hg.block _ (Array.getElem?_eq_some_iff.1 HBv1_4.out).1 (fun e => HNCv1.out (Option.some.inj e))).trans HBv1_4.out
  have HBv2_5 : Hid ((w5).heap[qv2]? = some (.cells #[.int .i64 k2, .string p2, .string b2, .int .i64 t2] 25)) := (hg.block _ (Array.getElem?_eq_some_iff.1 HBv2_4.out).1 (fun e => HNCv2.out (Option.some.inj e))).trans HBv2_4.out
  have EU_5 : Hid (CurAt w5 c a len cap) := hcu
  clear hb4 HBv1_4 HBv2_4 EU_4 hg hcu
  by_cases hc1 : n3 = 0
  · have hc1b : ((n3 : Int) == (0 : Int)) = true := by simpa using hc1
    have hc1n : ((n3 : Int) != (0 : Int)) = false := by simpa using hc1
    have hc1H : Hid (n3 = 0) := hc1
    clear hc1
    go_wp2_with fail
    refine (l1Below_any c B 6 a len cap zs _ EU_5.out (HCO.out _ hb5) HBC.out (by decide) (by decide)).mono ?_
    rintro e w6 ⟨n4, rfl, hn04, hn14, hcu, hg⟩
    have hb6 : w.grownBy w6 (some c) := grown_then hb5 hg
    have HM6 : Hid ((w5).heap.size ≤ (w6).heap.size) := hg.size
    have HBv1_6 : Hid ((w6).heap[qv1]? = some (.cells #[.int .i64 0, .string ⟨#[]⟩, .string ⟨#[]⟩, .int .i64 0] 25)) := (hg.block _ (Array.getElem?_eq_some_iff.1 HBv1_5.out).1 (fun e => HNCv1.out (Option.some.inj e))).trans HBv1_5.out
    have HBv2_6 : Hid ((w6).heap[qv2]? = some (.cells #[.int .i64 k2, .string p2, .string b2, .int .i64 t2] 25)) := (hg.block _ (Array.getElem?_eq_some_iff.1 HBv2_5.out).1 (fun e => HNCv2.out (Option.some.inj e))).trans HBv2_5.out
    have EU_6 : Hid (CurAt w6 c a len cap) := hcu
    clear hb5 HBv1_5 HBv2_5 EU_5 hg hcu
    have cv2_0 : (w6).cell? ⟨qv2, 0, none⟩ = some (.int .i64 k2) := (cell_of HBv2_6.out 0).trans rfl
    have fcv2_0 : (w6).frozen? ⟨qv2, 0, none⟩ = false := frozen_of HBv2_6.out 0
    go_upto_region 11 with fail
    obtain ⟨w7, hW7⟩ : ∃ W, W = (w6).setCell ⟨qv2, 0, none⟩ (.int .i64 (n4 - 1)) := ⟨_, rfl⟩
    rw [← hW7]
    have hb7 : w.grownBy w7 (some c) := by rw [hW7]; exact (grown_own hb6 HGv2.out 0 _)
    have HM7 : Hid ((w6).heap.size ≤ w7.heap.size) := by show _ ≤ _; rw [hW7]; simp
    have HBv1_7 : Hid ((w7).heap[qv1]? = some (.cells #[.int .i64 0, .string ⟨#[]⟩, .string ⟨#[]⟩, .int .i64 0] 25)) := by show _ = _; rw [hW7, heap_setCell_other _ _ _ _ HNv1v2.out]; exact HBv1_6.out
    have EU_7 : Hid (CurAt w7 c a len cap) := by show CurAt _ _ _ _ _; rw [hW7]; exact cur_set EU_6.out HNCv2.out _ _
    have HBv2_7 : Hid ((w7).heap[qv2]? = some (.cells #[.int .i64 (n4 - 1), .string p2, .string b2, .int .i64 t2] 25)) := by show _ = _; rw [hW7]; have h := heap_set _ _ 0 _ _ _ (.int .i64 (n4 - 1)) HBv2_6.out; simpa using h
    clear hb6 HBv1_6 HBv2_6 EU_6 hW7
    clear cv2_0 fcv2_0
    have cv1_0 : (w7).cell? ⟨qv1, 0, none⟩ = some (.int .i64 0) := (cell_of HBv1_7.out 0).trans rfl
    have fcv1_0 : (w7).frozen? ⟨qv1, 0, none⟩ = false := frozen_of HBv1_7.out 0
    have cv1_1 : (w7).cell? ⟨qv1, 1, none⟩ = some (.string ⟨#[]⟩) := (cell_of HBv1_7.out 1).trans rfl
    have fcv1_1 : (w7).frozen? ⟨qv1, 1, none⟩ = false := frozen_of HBv1_7.out 1
    have cv1_2 : (w7).cell? ⟨qv1, 2, none⟩ = some (.string ⟨#[]⟩) := (cell_of HBv1_7.out 2).trans rfl
    have fcv1_2 : (w7).frozen? ⟨qv1, 2, none⟩ = false := frozen_of HBv1_7.out 2
    have cv1_3 : (w7).cell? ⟨qv1, 3, none⟩ = some (.int .i64 0) := (cell_of HBv1_7.out 3).trans rfl
    have fcv1_3 : (w7).frozen? ⟨qv1, 3, none⟩ = false := frozen_of HBv1_7.out 3
    have cv2_0 : (w7).cell? ⟨qv2, 0, none⟩ = some (.int .i64 (n4 - 1)) := (cell_of HBv2_7.out 0).trans rfl
    have cv2_1 : (w7).cell? ⟨qv2, 1, none⟩ = some (.string p2) := (cell_of HBv2_7.out 1).trans rfl
    have cv2_2 : (w7).cell? ⟨qv2, 2, none⟩ = some (.string b2) := (cell_of HBv2_7.out 2).trans rfl
    have cv2_3 : (w7).cell? ⟨qv2, 3, none⟩ = some (.int .i64 t2) := (cell_of HBv2_7.out 3).trans rfl
    go_wp2_with fail
    obtain ⟨w8, hW8⟩ : ∃ W, W = (w7).setCell ⟨qv1, 0, none⟩ (.int .i64 (n4 - 1)) := ⟨_, rfl⟩
    rw [← hW8]
    have hb8 : w.grownBy w8 (some c) := by rw [hW8]; exact (grown_own hb7 HGv1.out 0 _)
    have HM8 : Hid ((w7).heap.size ≤ w8.heap.size) := by show _ ≤ _; rw [hW8]; simp
    have HBv2_8 : Hid ((w8).heap[qv2]? = some (.cells #[.int .i64 (n4 - 1), .string p2, .string b2, .int .i64 t2] 25)) := by show _ = _; rw [hW8, heap_setCell_other _ _ _ _ HNv1v2.out.symm]; exact HBv2_7.out
    have EU_8 : Hid (CurAt w8 c a len cap) := by show CurAt _ _ _ _ _; rw [hW8]; exact cur_set EU_7.out HNCv1.out _ _
    have HBv1_8 : Hid ((w8).heap[qv1]? = some (.cells #[.int .i64 (n4 - 1), .string ⟨#[]⟩, .string ⟨#[]⟩, .int .i64 0] 25)) := by show _ = _; rw [hW8]; have h := heap_set _ _ 0 _ _ _ (.int .i64 (n4 - 1)) HBv1_7.out; simpa using h
    clear hb7 HBv1_7 HBv2_7 EU_7 hW8
    obtain ⟨w9, hW9⟩ : ∃ W, W = (w8).setCell ⟨qv1, 1, none⟩ (.string p2) := ⟨_, rfl⟩
    rw [← hW9]
    have hb9 : w.grownBy w9 (some c) := by rw [hW9]; exact (grown_own hb8 HGv1.out 1 _)
    have HM9 : Hid ((w8).heap.size ≤ w9.heap.size) := by show _ ≤ _; rw [hW9]; simp
    have HBv2_9 : Hid ((w9).heap[qv2]? = some (.cells #[.int .i64 (n4 - 1), .string p2, .string b2, .int .i64 t2] 25)) := by show _ = _; rw [hW9, heap_setCell_other _ _ _ _ HNv1v2.out.symm]; exact HBv2_8.out
    have EU_9 : Hid (CurAt w9 c a len cap) := by show CurAt _ _ _ _ _; rw [hW9]; exact cur_set EU_8.out HNCv1.out _ _
    have HBv1_9 : Hid ((w9).heap[qv1]? = some (.cells #[.int .i64 (n4 - 1), .string p2, .string ⟨#[]⟩, .int .i64 0] 25)) := by show _ = _; rw [hW9]; have h := heap_set _ _ 1 _ _ _ (.string p2) HBv1_8.out; simpa using h
    clear hb8 HBv1_8 HBv2_8 EU_8 hW9
    obtain ⟨w10, hW10⟩ : ∃ W, W = (w9).setCell ⟨qv1, 2, none⟩ (.string b2) := ⟨_, rfl⟩
    rw [← hW10]
    have hb10 : w.grownBy w10 (some c) := by rw [hW10]; exact (grown_own hb9 HGv1.out 2 _)
    have HM10 : Hid ((w9).heap.size ≤ w10.heap.size) := by show _ ≤ _; rw [hW10]; simp
    have HBv2_10 : Hid ((w10).heap[qv2]? = some (.cells #[.int .i64 (n4 - 1), .string p2, .string b2, .int .i64 t2] 25)) := by show _ = _; rw [hW10, heap_setCell_other _ _ _ _ HNv1v2.out.symm]; exact HBv2_9.out
    have EU_10 : Hid (CurAt w10 c a len cap) := by show CurAt _ _ _ _ _; rw [hW10]; exact cur_set EU_9.out HNCv1.out _ _
    have HBv1_10 : Hid ((w10).heap[qv1]? = some (.cells #[.int .i64 (n4 - 1), .string p2, .string b2, .int .i64 0] 25)) := by show _ = _; rw [hW10]; have h := heap_set _ _ 2 _ _ _ (.string b2) HBv1_9.out; simpa using h
    clear hb9 HBv1_9 HBv2_9 EU_9 hW10
    obtain ⟨w11, hW11⟩ : ∃ W, W = (w10).setCell ⟨qv1, 3, none⟩ (.int .i64 t2) := ⟨_, rfl⟩
    rw [← hW11]
    have hb11 : w.grownBy w11 (some c) := by rw [hW11]; exact (grown_own hb10 HGv1.out 3 _)
    have HM11 : Hid ((w10).heap.size ≤ w11.heap.size) := by show _ ≤ _; rw [hW11]; simp
    have HBv2_11 : Hid ((w11).heap[qv2]? = some (.cells #[.int .i64 (n4 - 1), .string p2, .string b2, .int .i64 t2] 25)) := by show _ = _; rw [hW11, heap_setCell_other _ _ _ _ HNv1v2.out.symm]; exact HBv2_10.out
    have EU_11 : Hid (CurAt w11 c a len cap) := by show CurAt _ _ _ _ _; rw [hW11]; exact cur_set EU_10.out HNCv1.out _ _
    have HBv1_11 : Hid ((w11).heap[qv1]? = some (.cells #[.int .i64 (n4 - 1), .string p2, .string b2, .int .i64 t2] 25)) := by show _ = _; rw [hW11]; have h := heap_set _ _ 3 _ _ _ (.int .i64 t2) HBv1_10.out; simpa using h
    clear hb10 HBv1_10 HBv2_10 EU_10 hW11
    have kv1_0 : (w11).cell? ⟨qv1, 0, none⟩ = some (.int .i64 (n4 - 1)) := (cell_of HBv1_11.out 0).trans rfl
    have kv1_1 : (w11).cell? ⟨qv1, 1, none⟩ = some (.string p2) := (cell_of HBv1_11.out 1).trans rfl
    have kv1_2 : (w11).cell? ⟨qv1, 2, none⟩ = some (.string b2) := (cell_of HBv1_11.out 2).trans rfl
    have kv1_3 : (w11).cell? ⟨qv1, 3, none⟩ = some (.int .i64 t2) := (cell_of HBv1_11.out 3).trans rfl
    refine bodyPost_ret (v := .agg #[.int .i64 (n4 - 1), .string p2, .string b2, .int .i64 t2]) (by simp [results, Tryz.results14, go_sem, kv1_0, kv1_1, kv1_2, kv1_3]) rfl ?_
    exact ⟨_, _, _, _, rfl, (by constructor <;> omega), HZp2.out, HZb2.out, HTT2.out, EU_11.out, hb11⟩
  · have hc1b : ((n3 : Int) == (0 : Int)) = false := by simpa using hc1
    have hc1n : ((n3 : Int) != (0 : Int)) = true := by simpa using hc1
    have hc1H : Hid (¬ (n3 = 0)) := hc1
    clear hc1
    by_cases hc2 : n3 = 1
    · have hc2b : ((n3 : Int) == (1 : Int)) = true := by simpa using hc2
      have hc2n : ((n3 : Int) != (1 : Int)) = false := by simpa using hc2
      have hc2H : Hid (n3 = 1) := hc2
      clear hc2
      go_wp2_with fail
      refine (l7DrawTime_any c B a len cap zs _ EU_5.out (HCO.out _ hb5) HBC.out).mono ?_
      rintro e w6 ⟨tm4, rfl, ht04, ht14, hcu, hg⟩
      have HTM4 : Hid (-9223372036854775808 ≤ tm4 ∧ tm4 ≤ 9223372036854775807) := ⟨ht04, ht14⟩
      clear ht04 ht14
      have hb6 : w.grownBy w6 (some c) := grown_then hb5 hg
      have HM6 : Hid ((w5).heap.size ≤ (w6).heap.size) := hg.size
      have HBv1_6 : Hid ((w6).heap[qv1]? = some (.cells #[.int .i64 0, .string ⟨#[]⟩, .string ⟨#[]⟩, .int .i64 0] 25)) := (hg.block _ (Array.getElem?_eq_some_iff.1 HBv1_5.out).1 (fun e => HNCv1.out (Option.some.inj e))).trans HBv1_5.out
      have HBv2_6 : Hid ((w6).heap[qv2]? = some (.cells #[.int .i64 k2, .string p2, .string b2, .int .i64 t2] 25)) := (hg.block _ (Array.getElem?_eq_some_iff.1 HBv2_5.out).1 (fun e => HNCv2.out (Option.some.inj e))).trans HBv2_5.out
      have EU_6 : Hid (CurAt w6 c a len cap) := hcu
      clear hb5 HBv1_5 HBv2_5 EU_5 hg hcu
      have cv2_3 : (w6).cell? ⟨qv2, 3, none⟩ = some (.int .i64 t2) := (cell_of HBv2_6.out 3).trans rfl
      have fcv2_3 : (w6).frozen? ⟨qv2, 3, none⟩ = false := frozen_of HBv2_6.out 3
      go_upto_region 11 with fail
      obtain ⟨w7, hW7⟩ : ∃ W, W = (w6).setCell ⟨qv2, 3, none⟩ (.int .i64 tm4) := ⟨_, rfl⟩
      rw [← hW7]
      have hb7 : w.grownBy w7 (some c) := by rw [hW7]; exact (grown_own hb6 HGv2.out 3 _)
      have HM7 : Hid ((w6).heap.size ≤ w7.heap.size) := by show _ ≤ _; rw [hW7]; simp
      have HBv1_7 : Hid ((w7).heap[qv1]? = some (.cells #[.int .i64 0, .string ⟨#[]⟩, .string ⟨#[]⟩, .int .i64 0] 25)) := by show _ = _; rw [hW7, heap_setCell_other _ _ _ _ HNv1v2.out]; exact HBv1_6.out
      have EU_7 : Hid (CurAt w7 c a len cap) := by show CurAt _ _ _ _ _; rw [hW7]; exact cur_set EU_6.out HNCv2.out _ _
      have HBv2_7 : Hid ((w7).heap[qv2]? = some (.cells #[.int .i64 k2, .string p2, .string b2, .int .i64 tm4] 25)) := by show _ = _; rw [hW7]; have h := heap_set _ _ 3 _ _ _ (.int .i64 tm4) HBv2_6.out; simpa using h
      clear hb6 HBv1_6 HBv2_6 EU_6 hW7
      clear cv2_3 fcv2_3
      have cv1_0 : (w7).cell? ⟨qv1, 0, none⟩ = some (.int .i64 0) := (cell_of HBv1_7.out 0).trans rfl
      have fcv1_0 : (w7).frozen? ⟨qv1, 0, none⟩ = false := frozen_of HBv1_7.out 0
      have cv1_1 : (w7).cell? ⟨qv1, 1, none⟩ = some (.string ⟨#[]⟩) := (cell_of HBv1_7.out 1).trans rfl
      have fcv1_1 : (w7).frozen? ⟨qv1, 1, none⟩ = false := frozen_of HBv1_7.out 1
      have cv1_2 : (w7).cell? ⟨qv1, 2, none⟩ = some (.string ⟨#[]⟩) := (cell_of HBv1_7.out 2).trans rfl
      have fcv1_2 : (w7).frozen? ⟨qv1, 2, none⟩ = false := frozen_of HBv1_7.out 2
      have cv1_3 : (w7).cell? ⟨qv1, 3, none⟩ = some (.int .i64 0) := (cell_of HBv1_7.out 3).trans rfl
      have fcv1_3 : (w7).frozen? ⟨qv1, 3, none⟩ = false := frozen_of HBv1_7.out 3
      have cv2_0 : (w7).cell? ⟨qv2, 0, none⟩ = some (.int .i64 k2) := (cell_of HBv2_7.out 0).trans rfl
      have cv2_1 : (w7).cell? ⟨qv2, 1, none⟩ = some (.string p2) := (cell_of HBv2_7.out 1).trans rfl
      have cv2_2 : (w7).cell? ⟨qv2, 2, none⟩ = some (.string b2) := (cell_of HBv2_7.out 2).trans rfl
      have cv2_3 : (w7).cell? ⟨qv2, 3, none⟩ = some (.int .i64 tm4) := (cell_of HBv2_7.out 3).trans rfl
      go_wp2_with fail
      obtain ⟨w8, hW8⟩ : ∃ W, W = (w7).setCell ⟨qv1, 0, none⟩ (.int .i64 k2) := ⟨_, rfl⟩
      rw [← hW8]
      have hb8 : w.grownBy w8 (some c) := by rw [hW8]; exact (grown_own hb7 HGv1.out 0 _)
      have HM8 : Hid ((w7).heap.size ≤ w8.heap.size) := by show _ ≤ _; rw [hW8]; simp
      have HBv2_8 : Hid ((w8).heap[qv2]? = some (.cells #[.int .i64 k2, .string p2, .string b2, .int .i64 tm4] 25)) := by show _ = _; rw [hW8, heap_setCell_other _ _ _ _ HNv1v2.out.symm]; exact HBv2_7.out
      have EU_8 : Hid (CurAt w8 c a len cap) := by show CurAt _ _ _ _ _; rw [hW8]; exact cur_set EU_7.out HNCv1.out _ _
      have HBv1_8 : Hid ((w8).heap[qv1]? = some (.cells #[.int .i64 k2, .string ⟨#[]⟩, .string ⟨#[]⟩, .int .i64 0] 25)) := by show _ = _; rw [hW8]; have h := heap_set _ _ 0 _ _ _ (.int .i64 k2) HBv1_7.out; simpa using h
      clear hb7 HBv1_7 HBv2_7 EU_7 hW8
      obtain ⟨w9, hW9⟩ : ∃ W, W = (w8).setCell ⟨qv1, 1, none⟩ (.string p2) := ⟨_, rfl⟩
      rw [← hW9]
      have hb9 : w.grownBy w9 (some c) := by rw [hW9]; exact (grown_own hb8 HGv1.out 1 _)
      have HM9 : Hid ((w8).heap.size ≤ w9.heap.size) := by show _ ≤ _; rw [hW9]; simp
      have HBv2_9 : Hid ((w9).heap[qv2]? = some (.cells #[.int .i64 k2, .string p2, .string b2, .int .i64 tm4] 25)) := by show _ = _; rw [hW9, heap_setCell_other _ _ _ _ HNv1v2.out.symm]; exact HBv2_8.out
      have EU_9 : Hid (CurAt w9 c a len cap) := by show CurAt _ _ _ _ _; rw [hW9]; exact cur_set EU_8.out HNCv1.out _ _
      have HBv1_9 : Hid ((w9).heap[qv1]? = some (.cells #[.int .i64 k2, .string p2, .string ⟨#[]⟩, .int .i64 0] 25)) := by show _ = _; rw [hW9]; have h := heap_set _ _ 1 _ _ _ (.string p2) HBv1_8.out; simpa using h
      clear hb8 HBv1_8 HBv2_8 EU_8 hW9
      obtain ⟨w10, hW10⟩ : ∃ W, W = (w9).setCell ⟨qv1, 2, none⟩ (.string b2) := ⟨_, rfl⟩
      rw [← hW10]
      have hb10 : w.grownBy w10 (some c) := by rw [hW10]; exact (grown_own hb9 HGv1.out 2 _)
      have HM10 : Hid ((w9).heap.size ≤ w10.heap.size) := by show _ ≤ _; rw [hW10]; simp
      have HBv2_10 : Hid ((w10).heap[qv2]? = some (.cells #[.int .i64 k2, .string p2, .string b2, .int .i64 tm4] 25)) := by show _ = _; rw [hW10, heap_setCell_other _ _ _ _ HNv1v2.out.symm]; exact HBv2_9.out
      have EU_10 : Hid (CurAt w10 c a len cap) := by show CurAt _ _ _ _ _; rw [hW10]; exact cur_set EU_9.out HNCv1.out _ _
      have HBv1_10 : Hid ((w10).heap[qv1]? = some (.cells #[.int .i64 k2, .string p2, .string b2, .int .i64 0] 25)) := by show _ = _; rw [hW10]; have h := heap_set _ _ 2 _ _ _ (.string b2) HBv1_9.out; simpa using h
      clear hb9 HBv1_9 HBv2_9 EU_9 hW10
      obtain ⟨w11, hW11⟩ : ∃ W, W = (w10).setCell ⟨qv1, 3, none⟩ (.int .i64 tm4) := ⟨_, rfl⟩
      rw [← hW11]
      have hb11 : w.grownBy w11 (some c) := by rw [hW11]; exact (grown_own hb10 HGv1.out 3 _)
      have HM11 : Hid ((w10).heap.size ≤ w11.heap.size) := by show _ ≤ _; rw [hW11]; simp
      have HBv2_11 : Hid ((w11).heap[qv2]? = some (.cells #[.int .i64 k2, .string p2, .string b2, .int .i64 tm4] 25)) := by show _ = _; rw [hW11, heap_setCell_other _ _ _ _ HNv1v2.out.symm]; exact HBv2_10.out
      have EU_11 : Hid (CurAt w11 c a len cap) := by show CurAt _ _ _ _ _; rw [hW11]; exact cur_set EU_10.out HNCv1.out _ _
      have HBv1_11 : Hid ((w11).heap[qv1]? = some (.cells #[.int .i64 k2, .string p2, .string b2, .int .i64 tm4] 25)) := by show _ = _; rw [hW11]; have h := heap_set _ _ 3 _ _ _ (.int .i64 tm4) HBv1_10.out; simpa using h
      clear hb10 HBv1_10 HBv2_10 EU_10 hW11
      have kv1_0 : (w11).cell? ⟨qv1, 0, none⟩ = some (.int .i64 k2) := (cell_of HBv1_11.out 0).trans rfl
      have kv1_1 : (w11).cell? ⟨qv1, 1, none⟩ = some (.string p2) := (cell_of HBv1_11.out 1).trans rfl
      have kv1_2 : (w11).cell? ⟨qv1, 2, none⟩ = some (.string b2) := (cell_of HBv1_11.out 2).trans rfl
      have kv1_3 : (w11).cell? ⟨qv1, 3, none⟩ = some (.int .i64 tm4) := (cell_of HBv1_11.out 3).trans rfl
      refine bodyPost_ret (v := .agg #[.int .i64 k2, .string p2, .string b2, .int .i64 tm4]) (by simp [results, Tryz.results14, go_sem, kv1_0, kv1_1, kv1_2, kv1_3]) rfl ?_
      exact ⟨_, _, _, _, rfl, HKK.out, HZp2.out, HZb2.out, HTM4.out, EU_11.out, hb11⟩
    · have hc2b : ((n3 : Int) == (1 : Int)) = false := by simpa using hc2
      have hc2n : ((n3 : Int) != (1 : Int)) = true := by simpa using hc2
      have hc2H : Hid (¬ (n3 = 1)) := hc2
      clear hc2
      by_cases hc3 : n3 = 2
      · have hc3b : ((n3 : Int) == (2 : Int)) = true := by simpa using hc3
        have hc3n : ((n3 : Int) != (2 : Int)) = false := by simpa using hc3
        have hc3H : Hid (n3 = 2) := hc3
        clear hc3
        go_wp2_with fail
        obtain ⟨qv3, hqv3⟩ : ∃ q, q = (w5).heap.size := ⟨_, rfl⟩
        obtain ⟨w6, hW6⟩ : ∃ W, W = (w5).alloc (.cells #[.string ⟨#[]⟩, .string ⟨#[65]⟩, .string ⟨#[47, 32]⟩] 9) := ⟨_, rfl⟩
        have hz6 : (w5).heap.size = qv3 := hqv3.symm
        first | rw [← hW6, ← hqv3] | rw [← hW6]
        have hs6 : w6.heap.size = qv3 + 1 := by rw [hW6, ← hz6]; simp
        have bw : Below (w5).heap.size (w5) w6 := by rw [hW6]; exact (Below.refl _ _).alloc (Nat.le_refl _) _
        have hb6 : w.grownBy w6 (some c) := grown_then hb5 (grown_below bw _)
        have HM6 : Hid ((w5).heap.size ≤ (w6).heap.size) := bw.size
        have HBv1_6 : Hid ((w6).heap[qv1]? = some (.cells #[.int .i64 0, .string ⟨#[]⟩, .string ⟨#[]⟩, .int .i64 0] 25)) := blk_below HBv1_5.out bw
        have HBv2_6 : Hid ((w6).heap[qv2]? = some (.cells #[.int .i64 k2, .string p2, .string b2, .int .i64 t2] 25)) := blk_below HBv2_5.out bw
        have EU_6 : Hid (CurAt w6 c a len cap) := EU_5.out.below bw EU_5.out.lt
        have HNv1v3 : Hid (qv1 ≠ qv3) := fun e => by have h1 := (Array.getElem?_eq_some_iff.1 HBv1_5.out).1; omega
        have HNv2v3 : Hid (qv2 ≠ qv3) := fun e => by have h1 := (Array.getElem?_eq_some_iff.1 HBv2_5.out).1; omega
        have HBv3_6 : Hid ((w6).heap[qv3]? = some (.cells #[.string ⟨#[]⟩, .string ⟨#[65]⟩, .string ⟨#[47, 32]⟩] 9)) := by show _ = _; rw [hW6, ← hz6]; exact heap_alloc_new _ _
        have HGv3 : Hid (w.heap.size ≤ qv3) := by show _ ≤ _; rw [← hz6]; exact hb5.size
        have HNCv3 : Hid (qv3 ≠ c) := fun e => by have h1 := EU_5.out.lt; omega
        clear hb5 HBv1_5 HBv2_5 EU_5 bw hW6 hz6
        clear hs6 hqv3
        have HLS : Hid (ListAt w6 qv3 3 (textAt [⟨#[]⟩, ⟨#[65]⟩, ⟨#[47, 32]⟩])) := by
          intro j hj
          match j, hj with
          | 0, _ => exact (cell_of HBv3_6.out 0).trans rfl
          | 1, _ => exact (cell_of HBv3_6.out 1).trans rfl
          | 2, _ => exact (cell_of HBv3_6.out 2).trans rfl
        refine (l1Pick_any c B qv3 3 (textAt [⟨#[]⟩, ⟨#[65]⟩, ⟨#[47, 32]⟩]) a len cap zs _ EU_6.out (HCO.out _ hb6) HBC.out (by decide) (by decide) HLS.out HNCv3.out).mono ?_
        rintro e w7 ⟨jx, hjx, rfl, hcu, hg⟩
        obtain ⟨x4, hx4⟩ : ∃ x, x = textAt [⟨#[]⟩, ⟨#[65]⟩, ⟨#[47, 32]⟩] jx := ⟨_, rfl⟩
        rw [← hx4]
        have HXx4 : Hid (x4.size ≤ 64) := by show _ ≤ _; rw [hx4]; exact (show ∀ j, j < 3 → (textAt [⟨#[]⟩, ⟨#[65]⟩, ⟨#[47, 32]⟩] j).size ≤ 64 by decide) jx hjx
        clear hx4 hjx HLS
        have hb7 : w.grownBy w7 (some c) := grown_then hb6 hg
        have HM7 : Hid ((w6).heap.size ≤ (w7).heap.size) := hg.size
        have HBv1_7 : Hid ((w7).heap[qv1]? = some (.cells #[.int .i64 0, .string ⟨#[]⟩, .string ⟨#[]⟩, .int .i64 0] 25)) := (hg.block _ (Array.getElem?_eq_some_iff.1 HBv1_6.out).1 (fun e => HNCv1.out (Option.some.inj e))).trans HBv1_6.out
        have HBv2_7 : Hid ((w7).heap[qv2]? = some (.cells #[.int .i64 k2, .string p2, .string b2, .int .i64 t2] 25)) := (hg.block _ (Array.getElem?_eq_some_iff.1 HBv2_6.out).1 (fun e => HNCv2.out (Option.some.inj e))).trans HBv2_6.out
        have HBv3_7 : Hid ((w7).heap[qv3]? = some (.cells #[.string ⟨#[]⟩, .string ⟨#[65]⟩, .string ⟨#[47, 32]⟩] 9)) := (hg.block _ (Array.getElem?_eq_some_iff.1 HBv3_6.out).1 (fun e => HNCv3.out (Option.some.inj e))).trans HBv3_6.out
        have EU_7 : Hid (CurAt w7 c a len cap) := hcu
        clear hb6 HBv1_6 HBv2_6 HBv3_6 EU_6 hg hcu
        clear HBv3_7
        have cv2_1 : (w7).cell? ⟨qv2, 1, none⟩ = some (.string p2) := (cell_of HBv2_7.out 1).trans rfl
        have fcv2_1 : (w7).frozen? ⟨qv2, 1, none⟩ = false := frozen_of HBv2_7.out 1
        go_upto_region 11 with fail
        obtain ⟨w8, hW8⟩ : ∃ W, W = (w7).setCell ⟨qv2, 1, none⟩ (.string x4) := ⟨_, rfl⟩
        rw [← hW8]
        have hb8 : w.grownBy w8 (some c) := by rw [hW8]; exact (grown_own hb7 HGv2.out 1 _)
        have HM8 : Hid ((w7).heap.size ≤ w8.heap.size) := by show _ ≤ _; rw [hW8]; simp
        have HBv1_8 : Hid ((w8).heap[qv1]? = some (.cells #[.int .i64 0, .string ⟨#[]⟩, .string ⟨#[]⟩, .int .i64 0] 25)) := by show _ = _; rw [hW8, heap_setCell_other _ _ _ _ HNv1v2.out]; exact HBv1_7.out
        have EU_8 : Hid (CurAt w8 c a len cap) := by show CurAt _ _ _ _ _; rw [hW8]; exact cur_set EU_7.out HNCv2.out _ _
        have HBv2_8 : Hid ((w8).heap[qv2]? = some (.cells #[.int .i64 k2, .string x4, .string b2, .int .i64 t2] 25)) := by show _ = _; rw [hW8]; have h := heap_set _ _ 1 _ _ _ (.string x4) HBv2_7.out; simpa using h
        clear hb7 HBv1_7 HBv2_7 EU_7 hW8
        clear cv2_1 fcv2_1
        have cv1_0 : (w8).cell? ⟨qv1, 0, none⟩ = some (.int .i64 0) := (cell_of HBv1_8.out 0).trans rfl
        have fcv1_0 : (w8).frozen? ⟨qv1, 0, none⟩ = false := frozen_of HBv1_8.out 0
        have cv1_1 : (w8).cell? ⟨qv1, 1, none⟩ = some (.string ⟨#[]⟩) := (cell_of HBv1_8.out 1).trans rfl
        have fcv1_1 : (w8).frozen? ⟨qv1, 1, none⟩ = false := frozen_of HBv1_8.out 1
        have cv1_2 : (w8).cell? ⟨qv1, 2, none⟩ = some (.string ⟨#[]⟩) := (cell_of HBv1_8.out 2).trans rfl
        have fcv1_2 : (w8).frozen? ⟨qv1, 2, none⟩ = false := frozen_of HBv1_8.out 2
        have cv1_3 : (w8).cell? ⟨qv1, 3, none⟩ = some (.int .i64 0) := (cell_of HBv1_8.out 3).trans rfl
        have fcv1_3 : (w8).frozen? ⟨qv1, 3, none⟩ = false := frozen_of HBv1_8.out 3
        have cv2_0 : (w8).cell? ⟨qv2, 0, none⟩ = some (.int .i64 k2) := (cell_of HBv2_8.out 0).trans rfl
        have cv2_1 : (w8).cell? ⟨qv2, 1, none⟩ = some (.string x4) := (cell_of HBv2_8.out 1).trans rfl
        have cv2_2 : (w8).cell? ⟨qv2, 2, none⟩ = some (.string b2) := (cell_of HBv2_8.out 2).trans rfl
        have cv2_3 : (w8).cell? ⟨qv2, 3, none⟩ = some (.int .i64 t2) := (cell_of HBv2_8.out 3).trans rfl
        go_wp2_with fail
        obtain ⟨w9, hW9⟩ : ∃ W, W = (w8).setCell ⟨qv1, 0, none⟩ (.int .i64 k2) := ⟨_, rfl⟩
        rw [← hW9]
        have hb9 : w.grownBy w9 (some c) := by rw [hW9]; exact (grown_own hb8 HGv1.out 0 _)
        have HM9 : Hid ((w8).heap.size ≤ w9.heap.size) := by show _ ≤ _; rw [hW9]; simp
        have HBv2_9 : Hid ((w9).heap[qv2]? = some (.cells #[.int .i64 k2, .string x4, .string b2, .int .i64 t2] 25)) := by show _ = _; rw [hW9, heap_setCell_other _ _ _ _ HNv1v2.out.symm]; exact HBv2_8.out
        have EU_9 : Hid (CurAt w9 c a len cap) := by show CurAt _ _ _ _ _; rw [hW9]; exact cur_set EU_8.out HNCv1.out _ _
        have HBv1_9 : Hid ((w9).heap[qv1]? = some (.cells #[.int .i64 k2, .string ⟨#[]⟩, .string ⟨#[]⟩, .int .i64 0] 25)) := by show _ = _; rw [hW9]; have h := heap_set _ _ 0 _ _ _ (.int .i64 k2) HBv1_8.out; simpa using h
        clear hb8 HBv1_8 HBv2_8 EU_8 hW9
        obtain ⟨w10, hW10⟩ : ∃ W, W = (w9).setCell ⟨qv1, 1, none⟩ (.string x4) := ⟨_, rfl⟩
        rw [← hW10]
        have hb10 : w.grownBy w10 (some c) := by rw [hW10]; exact (grown_own hb9 HGv1.out 1 _)
        have HM10 : Hid ((w9).heap.size ≤ w10.heap.size) := by show _ ≤ _; rw [hW10]; simp
        have HBv2_10 : Hid ((w10).heap[qv2]? = some (.cells #[.int .i64 k2, .string x4, .string b2, .int .i64 t2] 25)) := by show _ = _; rw [hW10, heap_setCell_other _ _ _ _ HNv1v2.out.symm]; exact HBv2_9.out
        have EU_10 : Hid (CurAt w10 c a len cap) := by show CurAt _ _ _ _ _; rw [hW10]; exact cur_set EU_9.out HNCv1.out _ _
        have HBv1_10 : Hid ((w10).heap[qv1]? = some (.cells #[.int .i64 k2, .string x4, .string ⟨#[]⟩, .int .i64 0] 25)) := by show _ = _; rw [hW10]; have h := heap_set _ _ 1 _ _ _ (.string x4) HBv1_9.out; simpa using h
        clear hb9 HBv1_9 HBv2_9 EU_9 hW10
        obtain ⟨w11, hW11⟩ : ∃ W, W = (w10).setCell ⟨qv1, 2, none⟩ (.string b2) := ⟨_, rfl⟩
        rw [← hW11]
        have hb11 : w.grownBy w11 (some c) := by rw [hW11]; exact (grown_own hb10 HGv1.out 2 _)
        have HM11 : Hid ((w10).heap.size ≤ w11.heap.size) := by show _ ≤ _; rw [hW11]; simp
        have HBv2_11 : Hid ((w11).heap[qv2]? = some (.cells #[.int .i64 k2, .string x4, .string b2, .int .i64 t2] 25)) := by show _ = _; rw [hW11, heap_setCell_other _ _ _ _ HNv1v2.out.symm]; exact HBv2_10.out
        have EU_11 : Hid (CurAt w11 c a len cap) := by show CurAt _ _ _ _ _; rw [hW11]; exact cur_set EU_10.out HNCv1.out _ _
        have HBv1_11 : Hid ((w11).heap[qv1]? = some (.cells #[.int .i64 k2, .string x4, .string b2, .int .i64 0] 25)) := by show _ = _; rw [hW11]; have h := heap_set _ _ 2 _ _ _ (.string b2) HBv1_10.out; simpa using h
        clear hb10 HBv1_10 HBv2_10 EU_10 hW11
        obtain ⟨w12, hW12⟩ : ∃ W, W = (w11).setCell ⟨qv1, 3, none⟩ (.int .i64 t2) := ⟨_, rfl⟩
        rw [← hW12]
        have hb12 : w.grownBy w12 (some c) := by rw [hW12]; exact (grown_own hb11 HGv1.out 3 _)
        have HM12 : Hid ((w11).heap.size ≤ w12.heap.size) := by show _ ≤ _; rw [hW12]; simp
        have HBv2_12 : Hid ((w12).heap[qv2]? = some (.cells #[.int .i64 k2, .string x4, .string b2, .int .i64 t2] 25)) := by show _ = _; rw [hW12, heap_setCell_other _ _ _ _ HNv1v2.out.symm]; exact HBv2_11.out
        have EU_12 : Hid (CurAt w12 c a len cap) := by show CurAt _ _ _ _ _; rw [hW12]; exact cur_set EU_11.out HNCv1.out _ _
        have HBv1_12 : Hid ((w12).heap[qv1]? = some (.cells #[.int .i64 k2, .string x4, .string b2, .int .i64 t2] 25)) := by show _ = _; rw [hW12]; have h := heap_set _ _ 3 _ _ _ (.int .i64 t2) HBv1_11.out; simpa using h
        clear hb11 HBv1_11 HBv2_11 EU_11 hW12
        have kv1_0 : (w12).cell? ⟨qv1, 0, none⟩ = some (.int .i64 k2) := (cell_of HBv1_12.out 0).trans rfl
        have kv1_1 : (w12).cell? ⟨qv1, 1, none⟩ = some (.string x4) := (cell_of HBv1_12.out 1).trans rfl
        have kv1_2 : (w12).cell? ⟨qv1, 2, none⟩ = some (.string b2) := (cell_of HBv1_12.out 2).trans rfl
        have kv1_3 : (w12).cell? ⟨qv1, 3, none⟩ = some (.int .i64 t2) := (cell_of HBv1_12.out 3).trans rfl
        refine bodyPost_ret (v := .agg #[.int .i64 k2, .string x4, .string b2, .int .i64 t2]) (by simp [results, Tryz.results14, go_sem, kv1_0, kv1_1, kv1_2, kv1_3]) rfl ?_
        exact ⟨_, _, _, _, rfl, HKK.out, HXx4.out, HZb2.out, HTT2.out, EU_12.out, hb12⟩
      · have hc3b : ((n3 : Int) == (2 : Int)) = false := by simpa using hc3
        have hc3n : ((n3 : Int) != (2 : Int)) = true := by simpa using hc3
        have hc3H : Hid (¬ (n3 = 2)) := hc3
        clear hc3
        by_cases hc4 : n3 = 3
        · have hc4b : ((n3 : Int) == (3 : Int)) = true := by simpa using hc4
          have hc4n : ((n3 : Int) != (3 : Int)) = false := by simpa using hc4
          have hc4H : Hid (n3 = 3) := hc4
          clear hc4
          go_wp2_with fail
          obtain ⟨qv3, hqv3⟩ : ∃ q, q = (w5).heap.size := ⟨_, rfl⟩
          obtain ⟨w6, hW6⟩ : ∃ W, W = (w5).alloc (.cells #[.string ⟨#[]⟩, .string ⟨#[113]⟩, .string ⟨#[32, 113]⟩] 9) := ⟨_, rfl⟩
          have hz6 : (w5).heap.size = qv3 := hqv3.symm
          first | rw [← hW6, ← hqv3] | rw [← hW6]
          have hs6 : w6.heap.size = qv3 + 1 := by rw [hW6, ← hz6]; simp
          have bw : Below (w5).heap.size (w5) w6 := by rw [hW6]; exact (Below.refl _ _).alloc (Nat.le_refl _) _
          have hb6 : w.grownBy w6 (some c) := grown_then hb5 (grown_below bw _)
          have HM6 : Hid ((w5).heap.size ≤ (w6).heap.size) := bw.size
          have HBv1_6 : Hid ((w6).heap[qv1]? = some (.cells #[.int .i64 0, .string ⟨#[]⟩, .string ⟨#[]⟩, .int .i64 0] 25)) := blk_below HBv1_5.out bw
          have HBv2_6 : Hid ((w6).heap[qv2]? = some (.cells #[.int .i64 k2, .string p2, .string b2, .int .i64 t2] 25)) := blk_below HBv2_5.out bw
          have EU_6 : Hid (CurAt w6 c a len cap) := EU_5.out.below bw EU_5.out.lt
          have HNv1v3 : Hid (qv1 ≠ qv3) := fun e => by have h1 := (Array.getElem?_eq_some_iff.1 HBv1_5.out).1; omega
          have HNv2v3 : Hid (qv2 ≠ qv3) := fun e => by have h1 := (Array.getElem?_eq_some_iff.1 HBv2_5.out).1; omega
          have HBv3_6 : Hid ((w6).heap[qv3]? = some (.cells #[.string ⟨#[]⟩, .string ⟨#[113]⟩, .string ⟨#[32, 113]⟩] 9)) := by show _ = _; rw [hW6, ← hz6]; exact heap_alloc_new _ _
          have HGv3 : Hid (w.heap.size ≤ qv3) := by show _ ≤ _; rw [← hz6]; exact hb5.size
          have HNCv3 : Hid (qv3 ≠ c) := fun e => by have h1 := EU_5.out.lt; omega
          clear hb5 HBv1_5 HBv2_5 EU_5 bw hW6 hz6
          clear hs6 hqv3
          have HLS : Hid (ListAt w6 qv3 3 (textAt [⟨#[]⟩, ⟨#[113]⟩, ⟨#[32, 113]⟩])) := by
            intro j hj
            match j, hj with
            | 0, _ => exact (cell_of HBv3_6.out 0).trans rfl
            | 1, _ => exact (cell_of HBv3_6.out 1).trans rfl
            | 2, _ => exact (cell_of HBv3_6.out 2).trans rfl
          refine (l1Pick_any c B qv3 3 (textAt [⟨#[]⟩, ⟨#[113]⟩, ⟨#[32, 113]⟩]) a len cap zs _ EU_6.out (HCO.out _ hb6) HBC.out (by decide) (by decide) HLS.out HNCv3.out).mono ?_
          rintro e w7 ⟨jx, hjx, rfl, hcu, hg⟩
          obtain ⟨x4, hx4⟩ : ∃ x, x = textAt [⟨#[]⟩, ⟨#[113]⟩, ⟨#[32, 113]⟩] jx := ⟨_, rfl⟩
          rw [← hx4]
          have HXx4 : Hid (x4.size ≤ 64) := by show _ ≤ _; rw [hx4]; exact (show ∀ j, j < 3 → (textAt [⟨#[]⟩, ⟨#[113]⟩, ⟨#[32, 113]⟩] j).size ≤ 64 by decide) jx hjx
          clear hx4 hjx HLS
          have hb7 : w.grownBy w7 (some c) := grown_then hb6 hg
          have HM7 : Hid ((w6).heap.size ≤ (w7).heap.size) := hg.size
          have HBv1_7 : Hid ((w7).heap[qv1]? = some (.cells #[.int .i64 0, .string ⟨#[]⟩, .string ⟨#[]⟩, .int .i64 0] 25)) := (hg.block _ (Array.getElem?_eq_some_iff.1 HBv1_6.out).1 (fun e => HNCv1.out (Option.some.inj e))).trans HBv1_6.out
          have HBv2_7 : Hid ((w7).heap[qv2]? = some (.cells #[.int .i64 k2, .string p2, .string b2, .int .i64 t2] 25)) := (hg.block _ (Array.getElem?_eq_some_iff.1 HBv2_6.out).1 (fun e => HNCv2.out (Option.some.inj e))).trans HBv2_6.out
          have HBv3_7 : Hid ((w7).heap[qv3]? = some (.cells #[.string ⟨#[]⟩, .string ⟨#[113]⟩, .string ⟨#[32, 113]⟩] 9)) := (hg.block _ (Array.getElem?_eq_some_iff.1 HBv3_6.out).1 (fun e => HNCv3.out (Option.some.inj e))).trans HBv3_6.out
          have EU_7 : Hid (CurAt w7 c a len cap) := hcu
          clear hb6 HBv1_6 HBv2_6 HBv3_6 EU_6 hg hcu
          clear HBv3_7
          have cv2_2 : (w7).cell? ⟨qv2, 2, none⟩ = some (.string b2) := (cell_of HBv2_7.out 2).trans rfl
          have fcv2_2 : (w7).frozen? ⟨qv2, 2, none⟩ = false := frozen_of HBv2_7.out 2
          go_upto_region 11 with fail
          obtain ⟨w8, hW8⟩ : ∃ W, W = (w7).setCell ⟨qv2, 2, none⟩ (.string x4) := ⟨_, rfl⟩
          rw [← hW8]
          have hb8 : w.grownBy w8 (some c) := by rw [hW8]; exact (grown_own hb7 HGv2.out 2 _)
          have HM8 : Hid ((w7).heap.size ≤ w8.heap.size) := by show _ ≤ _; rw [hW8]; simp
          have HBv1_8 : Hid ((w8).heap[qv1]? = some (.cells #[.int .i64 0, .string ⟨#[]⟩, .string ⟨#[]⟩, .int .i64 0] 25)) := by show _ = _; rw [hW8, heap_setCell_other _ _ _ _ HNv1v2.out]; exact HBv1_7.out
          have EU_8 : Hid (CurAt w8 c a len cap) := by show CurAt _ _ _ _ _; rw [hW8]; exact cur_set EU_7.out HNCv2.out _ _
          have HBv2_8 : Hid ((w8).heap[qv2]? = some (.cells #[.int .i64 k2, .string p2, .string x4, .int .i64 t2] 25)) := by show _ = _; rw [hW8]; have h := heap_set _ _ 2 _ _ _ (.string x4) HBv2_7.out; simpa using h
          clear hb7 HBv1_7 HBv2_7 EU_7 hW8
          clear cv2_2 fcv2_2
          have cv1_0 : (w8).cell? ⟨qv1, 0, none⟩ = some (.int .i64 0) := (cell_of HBv1_8.out 0).trans rfl
          have fcv1_0 : (w8).frozen? ⟨qv1, 0, none⟩ = false := frozen_of HBv1_8.out 0
          have cv1_1 : (w8).cell? ⟨qv1, 1, none⟩ = some (.string ⟨#[]⟩) := (cell_of HBv1_8.out 1).trans rfl
          have fcv1_1 : (w8).frozen? ⟨qv1, 1, none⟩ = false := frozen_of HBv1_8.out 1
          have cv1_2 : (w8).cell? ⟨qv1, 2, none⟩ = some (.string ⟨#[]⟩) := (cell_of HBv1_8.out 2).trans rfl
          have fcv1_2 : (w8).frozen? ⟨qv1, 2, none⟩ = false := frozen_of HBv1_8.out 2
          have cv1_3 : (w8).cell? ⟨qv1, 3, none⟩ = some (.int .i64 0) := (cell_of HBv1_8.out 3).trans rfl
          have fcv1_3 : (w8).frozen? ⟨qv1, 3, none⟩ = false := frozen_of HBv1_8.out 3
          have cv2_0 : (w8).cell? ⟨qv2, 0, none⟩ = some (.int .i64 k2) := (cell_of HBv2_8.out 0).trans rfl
          have cv2_1 : (w8).cell? ⟨qv2, 1, none⟩ = some (.string p2) := (cell_of HBv2_8.out 1).trans rfl
          have cv2_2 : (w8).cell? ⟨qv2, 2, none⟩ = some (.string x4) := (cell_of HBv2_8.out 2).trans rfl
          have cv2_3 : (w8).cell? ⟨qv2, 3, none⟩ = some (.int .i64 t2) := (cell_of HBv2_8.out 3).trans rfl
          go_wp2_with fail
          obtain ⟨w9, hW9⟩ : ∃ W, W = (w8).setCell ⟨qv1, 0, none⟩ (.int .i64 k2) := ⟨_, rfl⟩
          rw [← hW9]
          have hb9 : w.grownBy w9 (some c) := by rw [hW9]; exact (grown_own hb8 HGv1.out 0 _)
          have HM9 : Hid ((w8).heap.size ≤ w9.heap.size) := by show _ ≤ _; rw [hW9]; simp
          have HBv2_9 : Hid ((w9).heap[qv2]? = some (.cells #[.int .i64 k2, .string p2, .string x4, .int .i64 t2] 25)) := by show _ = _; rw [hW9, heap_setCell_other _ _ _ _ HNv1v2.out.symm]; exact HBv2_8.out
          have EU_9 : Hid (CurAt w9 c a len cap) := by show CurAt _ _ _ _ _; rw [hW9]; exact cur_set EU_8.out HNCv1.out _ _
          have HBv1_9 : Hid ((w9).heap[qv1]? = some (.cells #[.int .i64 k2, .string ⟨#[]⟩, .string ⟨#[]⟩, .int .i64 0] 25)) := by show _ = _; rw [hW9]; have h := heap_set _ _ 0 _ _ _ (.int .i64 k2) HBv1_8.out; simpa using h
          clear hb8 HBv1_8 HBv2_8 EU_8 hW9
          obtain ⟨w10, hW10⟩ : ∃ W, W = (w9).setCell ⟨qv1, 1, none⟩ (.string p2) := ⟨_, rfl⟩
          rw [← hW10]
          have hb10 : w.grownBy w10 (some c) := by rw [hW10]; exact (grown_own hb9 HGv1.out 1 _)
          have HM10 : Hid ((w9).heap.size ≤ w10.heap.size) := by show _ ≤ _; rw [hW10]; simp
          have HBv2_10 : Hid ((w10).heap[qv2]? = some (.cells #[.int .i64 k2, .string p2, .string x4, .int .i64 t2] 25)) := by show _ = _; rw [hW10, heap_setCell_other _ _ _ _ HNv1v2.out.symm]; exact HBv2_9.out
          have EU_10 : Hid (CurAt w10 c a len cap) := by show CurAt _ _ _ _ _; rw [hW10]; exact cur_set EU_9.out HNCv1.out _ _
          have HBv1_10 : Hid ((w10).heap[qv1]? = some (.cells #[.int .i64 k2, .string p2, .string ⟨#[]⟩, .int .i64 0] 25)) := by show _ = _; rw [hW10]; have h := heap_set _ _ 1 _ _ _ (.string p2) HBv1_9.out; simpa using h
          clear hb9 HBv1_9 HBv2_9 EU_9 hW10
          obtain ⟨w11, hW11⟩ : ∃ W, W = (w10).setCell ⟨qv1, 2, none⟩ (.string x4) := ⟨_, rfl⟩
          rw [← hW11]
          have hb11 : w.grownBy w11 (some c) := by rw [hW11]; exact (grown_own hb10 HGv1.out 2 _)
          have HM11 : Hid ((w10).heap.size ≤ w11.heap.size) := by show _ ≤ _; rw [hW11]; simp
          have HBv2_11 : Hid ((w11).heap[qv2]? = some (.cells #[.int .i64 k2, .string p2, .string x4, .int .i64 t2] 25)) := by show _ = _; rw [hW11, heap_setCell_other _ _ _ _ HNv1v2.out.symm]; exact HBv2_10.out
          have EU_11 : Hid (CurAt w11 c a len cap) := by show CurAt _ _ _ _ _; rw [hW11]; exact cur_set EU_10.out HNCv1.out _ _
          have HBv1_11 : Hid ((w11).heap[qv1]? = some (.cells #[.int .i64 k2, .string p2, .string x4, .int .i64 0] 25)) := by show _ = _; rw [hW11]; have h := heap_set _ _ 2 _ _ _ (.string x4) HBv1_10.out; simpa using h
          clear hb10 HBv1_10 HBv2_10 EU_10 hW11
          obtain ⟨w12, hW12⟩ : ∃ W, W = (w11).setCell ⟨qv1, 3, none⟩ (.int .i64 t2) := ⟨_, rfl⟩
          rw [← hW12]
          have hb12 : w.grownBy w12 (some c) := by rw [hW12]; exact (grown_own hb11 HGv1.out 3 _)
          have HM12 : Hid ((w11).heap.size ≤ w12.heap.size) := by show _ ≤ _; rw [hW12]; simp
          have HBv2_12 : Hid ((w12).heap[qv2]? = some (.cells #[.int .i64 k2, .string p2, .string x4, .int .i64 t2] 25)) := by show _ = _; rw [hW12, heap_setCell_other _ _ _ _ HNv1v2.out.symm]; exact HBv2_11.out
          have EU_12 : Hid (CurAt w12 c a len cap) := by show CurAt _ _ _ _ _; rw [hW12]; exact cur_set EU_11.out HNCv1.out _ _
          have HBv1_12 : Hid ((w12).heap[qv1]? = some (.cells #[.int .i64 k2, .string p2, .string x4, .int .i64 t2] 25)) := by show _ = _; rw [hW12]; have h := heap_set _ _ 3 _ _ _ (.int .i64 t2) HBv1_11.out; simpa using h
          clear hb11 HBv1_11 HBv2_11 EU_11 hW12
          have kv1_0 : (w12).cell? ⟨qv1, 0, none⟩ = some (.int .i64 k2) := (cell_of HBv1_12.out 0).trans rfl
          have kv1_1 : (w12).cell? ⟨qv1, 1, none⟩ = some (.string p2) := (cell_of HBv1_12.out 1).trans rfl
          have kv1_2 : (w12).cell? ⟨qv1, 2, none⟩ = some (.string x4) := (cell_of HBv1_12.out 2).trans rfl
          have kv1_3 : (w12).cell? ⟨qv1, 3, none⟩ = some (.int .i64 t2) := (cell_of HBv1_12.out 3).trans rfl
          refine bodyPost_ret (v := .agg #[.int .i64 k2, .string p2, .string x4, .int .i64 t2]) (by simp [results, Tryz.results14, go_sem, kv1_0, kv1_1, kv1_2, kv1_3]) rfl ?_
          exact ⟨_, _, _, _, rfl, HKK.out, HZp2.out, HXx4.out, HTT2.out, EU_12.out, hb12⟩
        · have hc4b : ((n3 : Int) == (3 : Int)) = false := by simpa using hc4
          have hc4n : ((n3 : Int) != (3 : Int)) = true := by simpa using hc4
          have hc4H : Hid (¬ (n3 = 3)) := hc4
          clear hc4
          have cv1_0 : (w5).cell? ⟨qv1, 0, none⟩ = some (.int .i64 0) := (cell_of HBv1_5.out 0).trans rfl
          have fcv1_0 : (w5).frozen? ⟨qv1, 0, none⟩ = false := frozen_of HBv1_5.out 0
          have cv1_1 : (w5).cell? ⟨qv1, 1, none⟩ = some (.string ⟨#[]⟩) := (cell_of HBv1_5.out 1).trans rfl
          have fcv1_1 : (w5).frozen? ⟨qv1, 1, none⟩ = false := frozen_of HBv1_5.out 1
          have cv1_2 : (w5).cell? ⟨qv1, 2, none⟩ = some (.string ⟨#[]⟩) := (cell_of HBv1_5.out 2).trans rfl
          have fcv1_2 : (w5).frozen? ⟨qv1, 2, none⟩ = false := frozen_of HBv1_5.out 2
          have cv1_3 : (w5).cell? ⟨qv1, 3, none⟩ = some (.int .i64 0) := (cell_of HBv1_5.out 3).trans rfl
          have fcv1_3 : (w5).frozen? ⟨qv1, 3, none⟩ = false := frozen_of HBv1_5.out 3
          have cv2_0 : (w5).cell? ⟨qv2, 0, none⟩ = some (.int .i64 k2) := (cell_of HBv2_5.out 0).trans rfl
          have cv2_1 : (w5).cell? ⟨qv2, 1, none⟩ = some (.string p2) := (cell_of HBv2_5.out 1).trans rfl
          have cv2_2 : (w5).cell? ⟨qv2, 2, none⟩ = some (.string b2) := (cell_of HBv2_5.out 2).trans rfl
          have cv2_3 : (w5).cell? ⟨qv2, 3, none⟩ = some (.int .i64 t2) := (cell_of HBv2_5.out 3).trans rfl
          go_wp2_with fail
          obtain ⟨w6, hW6⟩ : ∃ W, W = (w5).setCell ⟨qv1, 0, none⟩ (.int .i64 k2) := ⟨_, rfl⟩
          rw [← hW6]
          have hb6 : w.grownBy w6 (some c) := by rw [hW6]; exact (grown_own hb5 HGv1.out 0 _)
          have HM6 : Hid ((w5).heap.size ≤ w6.heap.size) := by show _ ≤ _; rw [hW6]; simp
          have HBv2_6 : Hid ((w6).heap[qv2]? = some (.cells #[.int .i64 k2, .string p2, .string b2, .int .i64 t2] 25)) := by show _ = _; rw [hW6, heap_setCell_other _ _ _ _ HNv1v2.out.symm]; exact HBv2_5.out
          have EU_6 : Hid (CurAt w6 c a len cap) := by show CurAt _ _ _ _ _; rw [hW6]; exact cur_set EU_5.out HNCv1.out _ _
          have HBv1_6 : Hid ((w6).heap[qv1]? = some (.cells #[.int .i64 k2, .string ⟨#[]⟩, .string ⟨#[]⟩, .int .i64 0] 25)) := by show _ = _; rw [hW6]; have h := heap_set _ _ 0 _ _ _ (.int .i64 k2) HBv1_5.out; simpa using h
          clear hb5 HBv1_5 HBv2_5 EU_5 hW6
          obtain ⟨w7, hW7⟩ : ∃ W, W = (w6).setCell ⟨qv1, 1, none⟩ (.string p2) := ⟨_, rfl⟩
          rw [← hW7]
          have hb7 : w.grownBy w7 (some c) := by rw [hW7]; exact (grown_own hb6 HGv1.out 1 _)
          have HM7 : Hid ((w6).heap.size ≤ w7.heap.size) := by show _ ≤ _; rw [hW7]; simp
          have HBv2_7 : Hid ((w7).heap[qv2]? = some (.cells #[.int .i64 k2, .string p2, .string b2, .int .i64 t2] 25)) := by show _ = _; rw [hW7, heap_setCell_other _ _ _ _ HNv1v2.out.symm]; exact HBv2_6.out
          have EU_7 : Hid (CurAt w7 c a len cap) := by show CurAt _ _ _ _ _; rw [hW7]; exact cur_set EU_6.out HNCv1.out _ _
          have HBv1_7 : Hid ((w7).heap[qv1]? = some (.cells #[.int .i64 k2, .string p2, .string ⟨#[]⟩, .int .i64 0] 25)) := by show _ = _; rw [hW7]; have h := heap_set _ _ 1 _ _ _ (.string p2) HBv1_6.out; simpa using h
          clear hb6 HBv1_6 HBv2_6 EU_6 hW7
          obtain ⟨w8, hW8⟩ : ∃ W, W = (w7).setCell ⟨qv1, 2, none⟩ (.string b2) := ⟨_, rfl⟩
          rw [← hW8]
          have hb8 : w.grownBy w8 (some c) := by rw [hW8]; exact (grown_own hb7 HGv1.out 2 _)
          have HM8 : Hid ((w7).heap.size ≤ w8.heap.size) := by show _ ≤ _; rw [hW8]; simp
          have HBv2_8 : Hid ((w8).heap[qv2]? = some (.cells #[.int .i64 k2, .string p2, .string b2, .int .i64 t2] 25)) := by show _ = _; rw [hW8, heap_setCell_other _ _ _ _ HNv1v2.out.symm]; exact HBv2_7.out
          have EU_8 : Hid (CurAt w8 c a len cap) := by show CurAt _ _ _ _ _; rw [hW8]; exact cur_set EU_7.out HNCv1.out _ _
          have HBv1_8 : Hid ((w8).heap[qv1]? = some (.cells #[.int .i64 k2, .string p2, .string b2, .int .i64 0] 25)) := by show _ = _; rw [hW8]; have h := heap_set _ _ 2 _ _ _ (.string b2) HBv1_7.out; simpa using h
          clear hb7 HBv1_7 HBv2_7 EU_7 hW8
          obtain ⟨w9, hW9⟩ : ∃ W, W = (w8).setCell ⟨qv1, 3, none⟩ (.int .i64 t2) := ⟨_, rfl⟩
          rw [← hW9]
          have hb9 : w.grownBy w9 (some c) := by rw [hW9]; exact (grown_own hb8 HGv1.out 3 _)
          have HM9 : Hid ((w8).heap.size ≤ w9.heap.size) := by show _ ≤ _; rw [hW9]; simp
          have HBv2_9 : Hid ((w9).heap[qv2]? = some (.cells #[.int .i64 k2, .string p2, .string b2, .int .i64 t2] 25)) := by show _ = _; rw [hW9, heap_setCell_other _ _ _ _ HNv1v2.out.symm]; exact HBv2_8.out
          have EU_9 : Hid (CurAt w9 c a len cap) := by show CurAt _ _ _ _ _; rw [hW9]; exact cur_set EU_8.out HNCv1.out _ _
          have HBv1_9 : Hid ((w9).heap[qv1]? = some (.cells #[.int .i64 k2, .string p2, .string b2, .int .i64 t2] 25)) := by show _ = _; rw [hW9]; have h := heap_set _ _ 3 _ _ _ (.int .i64 t2) HBv1_8.out; simpa using h
          clear hb8 HBv1_8 HBv2_8 EU_8 hW9
          have kv1_0 : (w9).cell? ⟨qv1, 0, none⟩ = some (.int .i64 k2) := (cell_of HBv1_9.out 0).trans rfl
          have kv1_1 : (w9).cell? ⟨qv1, 1, none⟩ = some (.string p2) := (cell_of HBv1_9.out 1).trans rfl
          have kv1_2 : (w9).cell? ⟨qv1, 2, none⟩ = some (.string b2) := (cell_of HBv1_9.out 2).trans rfl
          have kv1_3 : (w9).cell? ⟨qv1, 3, none⟩ = some (.int .i64 t2) := (cell_of HBv1_9.out 3).trans rfl
          refine bodyPost_ret (v := .agg #[.int .i64 k2, .string p2, .string b2, .int .i64 t2]) (by simp [results, Tryz.results14, go_sem, kv1_0, kv1_1, kv1_2, kv1_3]) rfl ?_
          exact ⟨_, _, _, _, rfl, HKK.out, HZp2.out, HZb2.out, HTT2.out, EU_9.out, hb9⟩

end Go.Proofs.YtlmenolcgaakeaaGreat

namespace Go.Proofs.YtlmenolcgaakeaaGreat
open Go.RowKit
open Go.Lib hiding intOf

/-- An object's three lists, in memory of one's own, no two in one block. -/
structure ObjO (W : World) (base : Nat) (v1 : Value) (n1 : Nat) (xs : List ByteArray) (v2 : Value) (n2 : Nat) (ys : List ByteArray) (v3 : Value) (n3 : Nat) (fs : List (ByteArray × ByteArray)) : Prop where
  names : W.ownsRow base 9 1 v1 n1 (xs.map Value.string)
  vals : W.ownsRow base 9 1 v2 n2 (ys.map Value.string)
  flds : W.ownsRow base 75 2 v3 n3 (flatF fs)
  ne : ∀ j, v1.ownBlock = some j → v2.ownBlock ≠ some j


end Go.Proofs.YtlmenolcgaakeaaGreat

namespace Go.Proofs.YtlmenolcgaakeaaGreat
open Go.RowKit
open Go.Lib hiding intOf

/-- Names are right: at most four words. -/
def NamesP (xs : List ByteArray) : Prop := (∀ x ∈ xs, TokOk x) ∧ xs.length ≤ 4
def MayP (m : Int) (p : ByteArray) (fs : List (ByteArray × ByteArray)) (b : ByteArray) (st : Int) (gs : List (ByteArray × ByteArray)) (c : ByteArray) : Prop :=
  (ReqP m p fs b ∧ RespP st gs c ∧ m = 1 ∧ st = 200) ∧ (ccR (getV fs ccName)).ns = false ∧ (ccR (getV gs ccName)).ns = false ∧ (ccR (getV gs ccName)).pr = false ∧ (ccR (getV gs ccName)).ha = true ∧ NamesP (varyP gs)
end Go.Proofs.YtlmenolcgaakeaaGreat

namespace Go.Proofs.YtlmenolcgaakeaaGreat
open Go.RowKit
open Go.Lib hiding intOf

theorem textAt_mem (xs : List ByteArray) (j : Nat) (h : j < xs.length) : textAt xs j ∈ xs := by
  unfold textAt
  rw [List.getD_eq_getElem?_getD, List.getElem?_eq_getElem h]
  exact List.getElem_mem _
theorem take_textAt (xs : List ByteArray) (j : Nat) (h : j < xs.length) : xs.take (j + 1) = xs.take j ++ [textAt xs j] := by
  rw [List.take_add_one, List.getElem?_eq_getElem h]
  unfold textAt
  rw [List.getD_eq_getElem?_getD, List.getElem?_eq_getElem h]
  rfl

open Classical in
set_option maxHeartbeats 1000000 in
theorem l8Texts_any (oa ob : Option Addr) (m cm n cn : Nat) (xs ys : List ByteArray) (w : World) (hx : TextsA w oa m xs) (hy : TextsA w ob n ys) (hm : m ≤ 2000000) :
    Calls Tryz.prog 40 #[.slice oa m cm, .slice ob n cn] w fun e w' => e = .returned (.bool (decide (xs = ys))) ∧ Below w.heap.size w w' := by
  have HX : Hid (∀ W, Below w.heap.size w W → TextsA W oa m xs) := fun W h => hx.below h
  have HY : Hid (∀ W, Below w.heap.size w W → TextsA W ob n ys) := fun W h => hy.below h
  have HLX : Hid (xs.length = m) := hx.1
  have HLY : Hid (ys.length = n) := hy.1
  clear hx hy
  go_enter Tryz.func40, Tryz.ntmps40
  go_wp2_with fail
  go_loopw [5] (fun i wr => ∃ j : Nat, j ≤ m ∧ j ≤ n ∧ i = .int .i64 (j : Int) ∧ Below w.heap.size w wr ∧ Hid (xs.take j = ys.take j)) (fun i _ => m - (intOf i).toNat)
  case atStart => exact ⟨0, Nat.zero_le _, Nat.zero_le _, rfl, Below.refl _ _, by show _ = _; simp⟩
  case round =>
    obtain ⟨j, hj, hj2, rfl, hbw, HN⟩ := hrel
    by_cases hlt : (j : Int) < (m : Int)
    · by_cases hlt2 : (j : Int) < (n : Int)
      · have hjx : j < xs.length := by rw [HLX.out]; omega
        have hjy : j < ys.length := by rw [HLY.out]; omega
        obtain ⟨g, rfl, hg, hc⟩ := (HX.out wr hbw).2 j (by omega)
        obtain ⟨g2, rfl, hg2, hc2⟩ := (HY.out wr hbw).2 j (by omega)
        obtain ⟨x, hxx⟩ : ∃ x, x = textAt xs j := ⟨_, rfl⟩
        obtain ⟨y, hyy⟩ : ∃ y, y = textAt ys j := ⟨_, rfl⟩
        rw [← hxx] at hc
        rw [← hyy] at hc2
        by_cases he : x = y
        · have HN2 : Hid (xs.take (j + 1) = ys.take (j + 1)) := by
            show _ = _
            rw [take_textAt xs j hjx, take_textAt ys j hjy, ← hxx, ← hyy, HN.out, he]
          subst he
          clear hxx hyy hjx hjy HN
          go_wp2_with fail
          go_quiet (fail)
          go_wp2
          go_roundw
          case rel => exact ⟨j + 1, by omega, by omega, by go_num, below_drewN hbw _, HN2⟩
          case measure => simp [intOf]; omega
        · have t0 : (x.toList == y.toList) = false := text_beq_no he
          have t1 : (x.toList != y.toList) = true := by rw [bne, t0]; rfl
          have HE : Hid (decide (xs = ys) = false) := decide_eq_false (fun h => he (by rw [hxx, hyy, h]))
          clear he hxx hyy hjx hjy HN
          go_wp2_with fail
          go_quiet (fail)
          go_wp2
          go_ret
          exact ⟨by rw [HE.out]; rfl, below_drewN hbw _⟩
      · have HE : Hid (decide (xs = ys) = decide ((m : Int) = (n : Int))) := by
          show _ = _
          rw [decide_eq_decide]
          constructor
          · intro h; have h1 := HLX.out; have h2 := HLY.out; rw [h] at h1; omega
          · intro h; omega
        clear HN
        go_wp2_with fail
        go_ret
        exact ⟨by rw [HE.out]; rfl, hbw⟩
    · have HE : Hid (decide (xs = ys) = decide ((m : Int) = (n : Int))) := by
        show _ = _
        rw [decide_eq_decide]
        constructor
        · intro h; have h1 := HLX.out; have h2 := HLY.out; rw [h] at h1; omega
        · intro h
          have h1 := HN.out
          rw [List.take_of_length_le (by rw [HLX.out]; omega), List.take_of_length_le (by rw [HLY.out]; omega)] at h1
          exact h1
      clear HN
      go_wp2_with fail
      go_ret
      exact ⟨by rw [HE.out]; rfl, hbw⟩

end Go.Proofs.YtlmenolcgaakeaaGreat

namespace Go.Proofs.YtlmenolcgaakeaaGreat
open Go.RowKit
open Go.Lib hiding intOf

/-- An object is right. -/
def ObjP (p : ByteArray) (xs ys : List ByteArray) (st : Int) (fs : List (ByteArray × ByteArray)) (b : ByteArray) (t : Int) : Prop :=
  RespP st fs b ∧ PathOk p ∧ (0 ≤ t ∧ t ≤ 1000000) ∧ NamesP xs ∧ xs = varyP fs ∧ ys.length = xs.length ∧ ∀ y ∈ ys, ValOk y
theorem texts_view {w : World} {base n p : Nat} {o : Option Addr} {xs : List ByteArray} (h : w.ownsRow base 9 1 (.slice o n p) n (xs.map Value.string)) : TextsA w o n xs := by
  obtain ⟨oa, ca, he, hx⟩ := texts_own h
  cases he
  exact hx

end Go.Proofs.YtlmenolcgaakeaaGreat

namespace Go.Proofs.YtlmenolcgaakeaaGreat
open Go.RowKit
open Go.Lib hiding intOf

set_option maxHeartbeats 1000000 in
theorem l9Names_any (oa : Option Addr) (m cm : Nat) (xs : List ByteArray) (w : World) (hx : TextsA w oa m xs) (hm : m ≤ 2000000) (hsz : ∀ i, i < m → (textAt xs i).size ≤ maxLen) :
    Calls Tryz.prog 39 #[.slice oa m cm] w fun e w' => BoolIs (NamesP xs) w e w' := by
  have HX : Hid (∀ W, Below w.heap.size w W → TextsA W oa m xs) := fun W h => hx.below h
  have HL : Hid (xs.length = m) := hx.1
  have HS : Hid (∀ i, i < m → (textAt xs i).size ≤ maxLen) := hsz
  clear hx hsz
  go_enter Tryz.func39, Tryz.ntmps39
  go_wp2_with fail
  go_loopw [3] (fun i wr => ∃ j : Nat, j ≤ m ∧ i = .int .i64 (j : Int) ∧ Below w.heap.size w wr ∧ Hid (∀ x ∈ xs.take j, TokOk x)) (fun i _ => m - (intOf i).toNat)
  case atStart => exact ⟨0, Nat.zero_le _, rfl, Below.refl _ _, fun x hx => by simp at hx⟩
  case round =>
    obtain ⟨j, hj, rfl, hbw, HN⟩ := hrel
    by_cases hlt : (j : Int) < (m : Int)
    · have hjx : j < xs.length := by rw [HL.out]; omega
      obtain ⟨g, rfl, hg, hc⟩ := (HX.out wr hbw).2 j (by omega)
      have hs := HS.out j (by omega)
      obtain ⟨x, hxx⟩ : ∃ x, x = textAt xs j := ⟨_, rfl⟩
      rw [← hxx] at hc hs
      have HM : Hid (x ∈ xs) := by show _ ∈ _; rw [hxx]; exact textAt_mem xs j hjx
      have HT : Hid (xs.take (j + 1) = xs.take j ++ [x]) := by show _ = _; rw [take_textAt xs j hjx, hxx]
      clear hxx hjx
      go_wp2_with fail
      refine (specTokenOk_any x _ hs).mono ?_
      rintro e w1 ⟨t, rfl, ht, b1⟩
      have hb1 : Below w.heap.size w w1 := hbw.trans (b1.mono hbw.size)
      clear b1 hbw hc
      cases t with
      | false =>
        have HF : Hid (¬ NamesP xs) := fun h => nomatch ht.2 (h.1 x HM.out)
        clear ht HN
        go_wp2_with fail
        go_ret
        exact BoolIs.no HF.out hb1
      | true =>
        have HN2 : Hid (∀ y ∈ xs.take (j + 1), TokOk y) := by
          intro y hy
          rw [HT.out] at hy
          rcases List.mem_append.1 hy with hy | hy
          · exact HN.out y hy
          · rw [List.mem_singleton.1 hy]; exact ht.1 rfl
        clear ht HN
        go_wp2_with fail
        go_roundw
        case rel => exact ⟨j + 1, by omega, by go_num, hb1, HN2⟩
        case measure => simp [intOf]; omega
    · have HA : Hid (∀ x ∈ xs, TokOk x) := by
        have h := HN.out
        rw [List.take_of_length_le (by rw [HL.out]; omega)] at h
        exact h
      have HQ : Hid (((m : Int) ≤ 4) ↔ NamesP xs) := ⟨fun h => ⟨HA.out, by rw [HL.out]; omega⟩, fun h => by have := h.2; rw [HL.out] at this; omega⟩
      clear HN
      go_wp2_with fail
      go_ret
      exact ⟨decide ((m : Int) ≤ 4), rfl, by rw [decide_eq_true_iff]; exact HQ.out, hbw⟩

set_option maxHeartbeats 1000000 in
set_option maxRecDepth 100000 in
theorem l9Copy_any (v : Value) (n base : Nat) (fs : List (ByteArray × ByteArray)) (w : World) (hv : FieldsV w base v n fs) (hn : n ≤ 2000000) :
    Calls Tryz.prog 86 #[v] w fun e w' => RowF fs w e w' := by
  obtain ⟨i0, hi, hz0, hz1, hz2⟩ := info_parts info33
  have hl := hv.len
  have h63a : 0 + n ≤ maxLen := by unfold maxLen; omega
  have h47a : (0 + n) * 32 ≤ 140737488355328 := by omega
  have hown0 : (w.alloc (.cells #[] 75)).ownsRow w.heap.size 75 2 (.slice (some ⟨w.heap.size, 0, none⟩) 0 0) 0 [] := ⟨rfl, .inr ⟨w.heap.size, 0, #[], rfl, Nat.le_refl _, heap_alloc_new w _, Nat.le_refl _, Nat.zero_le _, rfl, rfl⟩⟩
  have hbs0 : w.heap.size ≤ (w.alloc (.cells #[] 75)).heap.size := by simp
  have hv1 := hv.below ((Below.refl _ w).alloc (Nat.le_refl _) (.cells #[] 75))
  rcases hv1.src with ⟨rfl, rfl, rfl⟩ | ⟨ad, cap, rfl, hcs⟩
  · have hb2 : Below w.heap.size w (w.alloc (.cells #[] 75)) := (Below.refl _ w).alloc (Nat.le_refl _) _
    clear hv
    go_enter Tryz.func86, Tryz.ntmps86
    go_wp2_with (at_builtin; refine wpList_append_own_none rfl _ _ 27 rfl w.heap.size 75 i0 2 Tryz.underlying27 hi _ _ _ rfl hown0 rfl ?_)
    go_wp2
    go_ret
    exact ⟨_, rfl, hown0, hb2⟩
  · have hnl : (flatF fs).length = n * 2 := by rw [flatF_len, hl]
    go_enter Tryz.func86, Tryz.ntmps86
    go_wp2_with (at_builtin; refine wpList_append_own _ rfl _ _ 27 rfl w.heap.size 75 i0 (.agg #[.string ⟨#[]⟩, .string ⟨#[]⟩]) 2 32 Tryz.underlying27 hi hz0 hz1 hz2 rfl (by decide) _ _ _ rfl hown0 ad n cap (flatF fs) rfl hnl hcs (flat_one _) h63a h47a hbs0 ?_)
    intro v1 w2 hown1 hgrow _
    have hb2 : Below w.heap.size w w2 := ((Below.refl _ w).alloc (Nat.le_refl _) _).grown hgrow hbs0 (fun g hg => owns_ge hown0 hg)
    have hown2 : w2.ownsRow w.heap.size 75 2 v1 fs.length (flatF fs) := by rw [hl]; simpa using hown1
    clear hgrow hown1 hown0 hbs0 hv1 hcs hv
    go_wp2
    go_ret
    exact ⟨_, rfl, hown2, hb2⟩

end Go.Proofs.YtlmenolcgaakeaaGreat

namespace Go.Proofs.YtlmenolcgaakeaaGreat
open Go.RowKit
open Go.Lib hiding intOf

set_option maxHeartbeats 20000000 in
set_option maxRecDepth 100000 in
theorem specObjOk_any (p : ByteArray) (o1 : Option Addr) (n1 c1 : Nat) (xs : List ByteArray) (o2 : Option Addr) (n2 c2 : Nat) (ys : List ByteArray) (st : Int) (v3 : Value) (n3 base : Nat) (fs : List (ByteArray × ByteArray)) (b : ByteArray) (t : Int) (w : World) (h1 : TextsA w o1 n1 xs) (h2 : TextsA w o2 n2 ys) (h3 : FieldsV w base v3 n3 fs) (hn1 : n1 ≤ 2000000) (hn2 : n2 ≤ 2000000) (hn3 : n3 ≤ 2000000) (hs1 : ∀ i, i < n1 → (textAt xs i).size ≤ maxLen) (hs2 : ∀ i, i < n2 → (textAt ys i).size ≤ maxLen) (hs3 : WalkF n3 fs) (hp : p.size ≤ maxLen) (hx : b.size ≤ maxLen) (hg : (getV fs varyName).size ≤ 1048576) :
    Calls Tryz.prog 18 #[.agg #[.string p, .slice o1 n1 c1, .slice o2 n2 c2, .int .i64 st, v3, .string b, .int .i64 t]] w fun e w' => BoolIs (ObjP p xs ys st fs b t) w e w' := by
  obtain ⟨o3, c3, rfl, _⟩ := h3.slice
  have HV1 : Hid (∀ W, Below w.heap.size w W → TextsA W o1 n1 xs) := fun W h => h1.below h
  have HV2 : Hid (∀ W, Below w.heap.size w W → TextsA W o2 n2 ys) := fun W h => h2.below h
  have HV3 : Hid (∀ W, Below w.heap.size w W → FieldsV W base (.slice o3 n3 c3) n3 fs) := fun W h => h3.below h
  have HL1 : Hid (xs.length = n1) := h1.1
  have HL2 : Hid (ys.length = n2) := h2.1
  have HS1 : Hid (∀ i, i < n1 → (textAt xs i).size ≤ maxLen) := hs1
  have HS2 : Hid (∀ i, i < n2 → (textAt ys i).size ≤ maxLen) := hs2
  have HS3 : Hid (WalkF n3 fs) := hs3
  have HPM : Hid (p.size ≤ maxLen) := hp
  have HX : Hid (b.size ≤ maxLen) := hx
  have HG : Hid ((getV fs varyName).size ≤ 1048576) := hg
  obtain ⟨vl, hvl⟩ : ∃ l, l = varyP fs := ⟨_, rfl⟩
  have HVL : Hid (varyP fs = vl) := hvl.symm
  clear h1 h2 h3 hs1 hs2 hs3 hp hx hg hvl
  have hb0 : Below w.heap.size w w := Below.refl _ _
  go_enter Tryz.func18, Tryz.ntmps18
  go_upto_region 1 with fail
  obtain ⟨qv1, hqv1⟩ : ∃ q, q = (w).heap.size := ⟨_, rfl⟩
  obtain ⟨w1, hW1⟩ : ∃ W, W = (w).alloc (.cells #[.string p, .slice o1 n1 c1, .slice o2 n2 c2, .int .i64 st, .slice o3 n3 c3, .string b, .int .i64 t] 31) := ⟨_, rfl⟩
  have hz1 : (w).heap.size = qv1 := hqv1.symm
  first | rw [← hW1, ← hqv1] | rw [← hW1]
  have hs1 : w1.heap.size = qv1 + 1 := by rw [hW1, ← hz1]; simp
  have bw : Below (w).heap.size (w) w1 := by rw [hW1]; exact (Below.refl _ _).alloc (Nat.le_refl _) _
  have hb1 : Below w.heap.size w (w1) := hb0.trans (bw.mono hb0.size)
  have HBv1_1 : Hid ((w1).heap[qv1]? = some (.cells #[.string p, .slice o1 n1 c1, .slice o2 n2 c2, .int .i64 st, .slice o3 n3 c3, .string b, .int .i64 t] 31)) := by show _ = _; rw [hW1, ← hz1]; exact heap_alloc_new _ _
  clear hb0 bw hW1 hz1
  clear hs1 hqv1
  go_upto_region 1 with fail
  refine wp_region_held_drew (S := fun W => W.heap[qv1]? = some (.cells #[.string p, .slice o1 n1 c1, .slice o2 n2 c2, .int .i64 st, .slice o3 n3 c3, .string b, .int .i64 t] 31)) (by kernel_rfl) HBv1_1.out (fun _ => ?_)
  obtain ⟨w2, hX⟩ : ∃ X, X = w1.drew := ⟨_, rfl⟩
  have bw : Below w1.heap.size w1 w2 := by rw [hX]; exact (Below.refl _ _).drew
  rw [← hX]
  have hb2 : Below w.heap.size w (w2) := hb1.trans (bw.mono hb1.size)
  have HBv1_2 : Hid ((w2).heap[qv1]? = some (.cells #[.string p, .slice o1 n1 c1, .slice o2 n2 c2, .int .i64 st, .slice o3 n3 c3, .string b, .int .i64 t] 31)) := blk_below HBv1_1.out bw
  have hS2 : w2.heap[qv1]? = some (.cells #[.string p, .slice o1 n1 c1, .slice o2 n2 c2, .int .i64 st, .slice o3 n3 c3, .string b, .int .i64 t] 31) := HBv1_2.out
  clear hb1 HBv1_1 bw hX
  refine wpAnyH_takeD (i := 0) (v := .pointer (some ⟨qv1, 3, none⟩)) (some 4) rfl rfl (by kernel_rfl) (by kernel_rfl) (by kernel_rfl) (fun _ _ _ h => h) (Or.inl ⟨by rfl, by intro W _; go_simp⟩) hS2 ?_
  simp only [Act.put, List.setIfInBounds_toArray, List.set_cons_zero, List.set_cons_succ]
  refine wpAnyH_takeD (i := 1) (v := .agg #[.int .i64 st, .slice o3 n3 c3, .string b]) (some 5) rfl rfl (by kernel_rfl) (by kernel_rfl) (by kernel_rfl) (fun _ _ _ h => h) (Or.inl ⟨by rfl, by intro W hW; have hhv1 := hW; have y3 := (cell_of hhv1 3).trans rfl; have y4 := (cell_of hhv1 4).trans rfl; have y5 := (cell_of hhv1 5).trans rfl; go_simp⟩) hS2 ?_
  simp only [Act.put, List.setIfInBounds_toArray, List.set_cons_zero, List.set_cons_succ]
  refine wpAnyH_ready (rs := [2]) (by kernel_rfl) (by simp) ?_
  refine AllReadyH.cons rfl (fun K hK => ?_) AllReadyH.nil
  go_simp
  refine (specRespOk_any st _ b n3 base fs _ (HV3.out _ hb2) (by omega) HS3.out HX.out).mono ?_
  rintro e w3 ⟨u1, rfl, htu1, bw⟩
  have hb3 : Below w.heap.size w (w3) := hb2.trans (bw.mono hb2.size)
  have HBv1_3 : Hid ((w3).heap[qv1]? = some (.cells #[.string p, .slice o1 n1 c1, .slice o2 n2 c2, .int .i64 st, .slice o3 n3 c3, .string b, .int .i64 t] 31)) := blk_below HBv1_2.out bw
  clear hb2 HBv1_2 bw
  have hS3 : w3.heap[qv1]? = some (.cells #[.string p, .slice o1 n1 c1, .slice o2 n2 c2, .int .i64 st, .slice o3 n3 c3, .string b, .int .i64 t] 31) := HBv1_3.out
  refine hK.out _ _ hS3 (fun _ => ?_)
  clear hK K hS2
  cases u1 with
  | false =>
    have HF : Hid (¬ ObjP p xs ys st fs b t) := fun h => nomatch htu1.2 h.1
    clear htu1
    refine wpAnyH_takeD (i := 3) (v := .bool true) (some 7) rfl rfl (by kernel_rfl) (by kernel_rfl) (by kernel_rfl) (fun _ _ _ h => h) (Or.inl ⟨by rfl, by intro W _; go_simp⟩) hS3 ?_
    simp only [Act.put, List.setIfInBounds_toArray, List.set_cons_zero, List.set_cons_succ]
    refine wpAnyH_takeD (i := 4) (v := .bool true) (some 8) rfl rfl (by kernel_rfl) (by kernel_rfl) (by kernel_rfl) (fun _ _ _ h => h) (Or.inl ⟨by rfl, by intro W _; go_simp⟩) hS3 ?_
    simp only [Act.put, List.setIfInBounds_toArray, List.set_cons_zero, List.set_cons_succ]
    refine wpAnyH_takeD (i := 5) (v := undef) (some 9) rfl rfl (by kernel_rfl) (by kernel_rfl) (by kernel_rfl) (fun _ _ _ h => h) (Or.inr ⟨by rfl, rfl⟩) hS3 ?_
    simp only [Act.put, List.setIfInBounds_toArray, List.set_cons_zero, List.set_cons_succ]
    refine wpAnyH_takeD (i := 6) (v := undef) (some 10) rfl rfl (by kernel_rfl) (by kernel_rfl) (by kernel_rfl) (fun _ _ _ h => h) (Or.inr ⟨by rfl, rfl⟩) hS3 ?_
    simp only [Act.put, List.setIfInBounds_toArray, List.set_cons_zero, List.set_cons_succ]
    refine wpAnyH_takeD (i := 7) (v := undef) (some 11) rfl rfl (by kernel_rfl) (by kernel_rfl) (by kernel_rfl) (fun _ _ _ h => h) (Or.inr ⟨by rfl, rfl⟩) hS3 ?_
    simp only [Act.put, List.setIfInBounds_toArray, List.set_cons_zero, List.set_cons_succ]
    refine wpAnyH_takeD (i := 8) (v := undef) (some 12) rfl rfl (by kernel_rfl) (by kernel_rfl) (by kernel_rfl) (fun _ _ _ h => h) (Or.inr ⟨by rfl, rfl⟩) hS3 ?_
    simp only [Act.put, List.setIfInBounds_toArray, List.set_cons_zero, List.set_cons_succ]
    refine wpAnyH_takeD (i := 9) (v := .bool true) (some 13) rfl rfl (by kernel_rfl) (by kernel_rfl) (by kernel_rfl) (fun _ _ _ h => h) (Or.inl ⟨by rfl, by intro W _; go_simp⟩) hS3 ?_
    simp only [Act.put, List.setIfInBounds_toArray, List.set_cons_zero, List.set_cons_succ]
    refine wpAnyH_takeD (i := 10) (v := .bool true) (some 14) rfl rfl (by kernel_rfl) (by kernel_rfl) (by kernel_rfl) (fun _ _ _ h => h) (Or.inl ⟨by rfl, by intro W _; go_simp⟩) hS3 ?_
    simp only [Act.put, List.setIfInBounds_toArray, List.set_cons_zero, List.set_cons_succ]
    refine wpAnyH_takeD (i := 11) (v := undef) (some 15) rfl rfl (by kernel_rfl) (by kernel_rfl) (by kernel_rfl) (fun _ _ _ h => h) (Or.inr ⟨by rfl, rfl⟩) hS3 ?_
    simp only [Act.put, List.setIfInBounds_toArray, List.set_cons_zero, List.set_cons_succ]
    refine wpAnyH_takeD (i := 12) (v := undef) (some 16) rfl rfl (by kernel_rfl) (by kernel_rfl) (by kernel_rfl) (fun _ _ _ h => h) (Or.inr ⟨by rfl, rfl⟩) hS3 ?_
    simp only [Act.put, List.setIfInBounds_toArray, List.set_cons_zero, List.set_cons_succ]
    refine wpAnyH_takeD (i := 13) (v := undef) (some 17) rfl rfl (by kernel_rfl) (by kernel_rfl) (by kernel_rfl) (fun _ _ _ h => h) (Or.inr ⟨by rfl, rfl⟩) hS3 ?_
    simp only [Act.put, List.setIfInBounds_toArray, List.set_cons_zero, List.set_cons_succ]
    refine wpAnyH_takeD (i := 14) (v := undef) (some 18) rfl rfl (by kernel_rfl) (by kernel_rfl) (by kernel_rfl) (fun _ _ _ h => h) (Or.inr ⟨by rfl, rfl⟩) hS3 ?_
    simp only [Act.put, List.setIfInBounds_toArray, List.set_cons_zero, List.set_cons_succ]
    refine wpAnyH_takeD (i := 15) (v := .bool true) (some 19) rfl rfl (by kernel_rfl) (by kernel_rfl) (by kernel_rfl) (fun _ _ _ h => h) (Or.inl ⟨by rfl, by intro W _; go_simp⟩) hS3 ?_
    simp only [Act.put, List.setIfInBounds_toArray, List.set_cons_zero, List.set_cons_succ]
    refine wpAnyH_takeD (i := 16) (v := .bool true) (some 20) rfl rfl (by kernel_rfl) (by kernel_rfl) (by kernel_rfl) (fun _ _ _ h => h) (Or.inl ⟨by rfl, by intro W _; go_simp⟩) hS3 ?_
    simp only [Act.put, List.setIfInBounds_toArray, List.set_cons_zero, List.set_cons_succ]
    refine wpAnyH_takeD (i := 17) (v := undef) (some 21) rfl rfl (by kernel_rfl) (by kernel_rfl) (by kernel_rfl) (fun _ _ _ h => h) (Or.inr ⟨by rfl, rfl⟩) hS3 ?_
    simp only [Act.put, List.setIfInBounds_toArray, List.set_cons_zero, List.set_cons_succ]
    refine wpAnyH_takeD (i := 18) (v := undef) (some 22) rfl rfl (by kernel_rfl) (by kernel_rfl) (by kernel_rfl) (fun _ _ _ h => h) (Or.inr ⟨by rfl, rfl⟩) hS3 ?_
    simp only [Act.put, List.setIfInBounds_toArray, List.set_cons_zero, List.set_cons_succ]
    refine wpAnyH_takeD (i := 19) (v := undef) (some 23) rfl rfl (by kernel_rfl) (by kernel_rfl) (by kernel_rfl) (fun _ _ _ h => h) (Or.inr ⟨by rfl, rfl⟩) hS3 ?_
    simp only [Act.put, List.setIfInBounds_toArray, List.set_cons_zero, List.set_cons_succ]
    refine wpAnyH_takeD (i := 20) (v := undef) (some 24) rfl rfl (by kernel_rfl) (by kernel_rfl) (by kernel_rfl) (fun _ _ _ h => h) (Or.inr ⟨by rfl, rfl⟩) hS3 ?_
    simp only [Act.put, List.setIfInBounds_toArray, List.set_cons_zero, List.set_cons_succ]
    refine wpAnyH_takeD (i := 21) (v := .bool true) (some 25) rfl rfl (by kernel_rfl) (by kernel_rfl) (by kernel_rfl) (fun _ _ _ h => h) (Or.inl ⟨by rfl, by intro W _; go_simp⟩) hS3 ?_
    simp only [Act.put, List.setIfInBounds_toArray, List.set_cons_zero, List.set_cons_succ]
    refine wpAnyH_takeD (i := 22) (v := .bool true) (some 26) rfl rfl (by kernel_rfl) (by kernel_rfl) (by kernel_rfl) (fun _ _ _ h => h) (Or.inl ⟨by rfl, by intro W _; go_simp⟩) hS3 ?_
    simp only [Act.put, List.setIfInBounds_toArray, List.set_cons_zero, List.set_cons_succ]
    refine wpAnyH_takeD (i := 23) (v := undef) (some 27) rfl rfl (by kernel_rfl) (by kernel_rfl) (by kernel_rfl) (fun _ _ _ h => h) (Or.inr ⟨by rfl, rfl⟩) hS3 ?_
    simp only [Act.put, List.setIfInBounds_toArray, List.set_cons_zero, List.set_cons_succ]
    refine wpAnyH_takeD (i := 24) (v := undef) (some 28) rfl rfl (by kernel_rfl) (by kernel_rfl) (by kernel_rfl) (fun _ _ _ h => h) (Or.inr ⟨by rfl, rfl⟩) hS3 ?_
    simp only [Act.put, List.setIfInBounds_toArray, List.set_cons_zero, List.set_cons_succ]
    refine wpAnyH_takeD (i := 25) (v := undef) (some 29) rfl rfl (by kernel_rfl) (by kernel_rfl) (by kernel_rfl) (fun _ _ _ h => h) (Or.inr ⟨by rfl, rfl⟩) hS3 ?_
    simp only [Act.put, List.setIfInBounds_toArray, List.set_cons_zero, List.set_cons_succ]
    refine wpAnyH_takeD (i := 26) (v := undef) (some 30) rfl rfl (by kernel_rfl) (by kernel_rfl) (by kernel_rfl) (fun _ _ _ h => h) (Or.inr ⟨by rfl, rfl⟩) hS3 ?_
    simp only [Act.put, List.setIfInBounds_toArray, List.set_cons_zero, List.set_cons_succ]
    refine wpAnyH_takeD (i := 27) (v := undef) (some 31) rfl rfl (by kernel_rfl) (by kernel_rfl) (by kernel_rfl) (fun _ _ _ h => h) (Or.inr ⟨by rfl, rfl⟩) hS3 ?_
    simp only [Act.put, List.setIfInBounds_toArray, List.set_cons_zero, List.set_cons_succ]
    refine wpAnyH_takeD (i := 28) (v := undef) (some 32) rfl rfl (by kernel_rfl) (by kernel_rfl) (by kernel_rfl) (fun _ _ _ h => h) (Or.inr ⟨by rfl, rfl⟩) hS3 ?_
    simp only [Act.put, List.setIfInBounds_toArray, List.set_cons_zero, List.set_cons_succ]
    refine wpAnyH_takeD (i := 29) (v := undef) (some 33) rfl rfl (by kernel_rfl) (by kernel_rfl) (by kernel_rfl) (fun _ _ _ h => h) (Or.inr ⟨by rfl, rfl⟩) hS3 ?_
    simp only [Act.put, List.setIfInBounds_toArray, List.set_cons_zero, List.set_cons_succ]
    refine wpAnyH_takeD (i := 30) (v := undef) (some 34) rfl rfl (by kernel_rfl) (by kernel_rfl) (by kernel_rfl) (fun _ _ _ h => h) (Or.inr ⟨by rfl, rfl⟩) hS3 ?_
    simp only [Act.put, List.setIfInBounds_toArray, List.set_cons_zero, List.set_cons_succ]
    refine wpAnyH_takeD (i := 31) (v := .bool true) (some 35) rfl rfl (by kernel_rfl) (by kernel_rfl) (by kernel_rfl) (fun _ _ _ h => h) (Or.inl ⟨by rfl, by intro W _; go_simp⟩) hS3 ?_
    simp only [Act.put, List.setIfInBounds_toArray, List.set_cons_zero, List.set_cons_succ]
    refine wpAnyH_takeD (i := 32) (v := .bool true) (some 36) rfl rfl (by kernel_rfl) (by kernel_rfl) (by kernel_rfl) (fun _ _ _ h => h) (Or.inl ⟨by rfl, by intro W _; go_simp⟩) hS3 ?_
    simp only [Act.put, List.setIfInBounds_toArray, List.set_cons_zero, List.set_cons_succ]
    refine wpAnyH_takeD (i := 33) (v := undef) (some 37) rfl rfl (by kernel_rfl) (by kernel_rfl) (by kernel_rfl) (fun _ _ _ h => h) (Or.inr ⟨by rfl, rfl⟩) hS3 ?_
    simp only [Act.put, List.setIfInBounds_toArray, List.set_cons_zero, List.set_cons_succ]
    refine wpAnyH_takeD (i := 34) (v := undef) (some 38) rfl rfl (by kernel_rfl) (by kernel_rfl) (by kernel_rfl) (fun _ _ _ h => h) (Or.inr ⟨by rfl, rfl⟩) hS3 ?_
    simp only [Act.put, List.setIfInBounds_toArray, List.set_cons_zero, List.set_cons_succ]
    refine wpAnyH_takeD (i := 35) (v := undef) (some 39) rfl rfl (by kernel_rfl) (by kernel_rfl) (by kernel_rfl) (fun _ _ _ h => h) (Or.inr ⟨by rfl, rfl⟩) hS3 ?_
    simp only [Act.put, List.setIfInBounds_toArray, List.set_cons_zero, List.set_cons_succ]
    refine wpAnyH_takeD (i := 36) (v := undef) (some 40) rfl rfl (by kernel_rfl) (by kernel_rfl) (by kernel_rfl) (fun _ _ _ h => h) (Or.inr ⟨by rfl, rfl⟩) hS3 ?_
    simp only [Act.put, List.setIfInBounds_toArray, List.set_cons_zero, List.set_cons_succ]
    refine wpAnyH_takeD (i := 37) (v := undef) (some 41) rfl rfl (by kernel_rfl) (by kernel_rfl) (by kernel_rfl) (fun _ _ _ h => h) (Or.inr ⟨by rfl, rfl⟩) hS3 ?_
    simp only [Act.put, List.setIfInBounds_toArray, List.set_cons_zero, List.set_cons_succ]
    refine wpAnyH_takeD (i := 38) (v := undef) (some 42) rfl rfl (by kernel_rfl) (by kernel_rfl) (by kernel_rfl) (fun _ _ _ h => h) (Or.inr ⟨by rfl, rfl⟩) hS3 ?_
    simp only [Act.put, List.setIfInBounds_toArray, List.set_cons_zero, List.set_cons_succ]
    refine wpAnyH_takeD (i := 39) (v := undef) (some 43) rfl rfl (by kernel_rfl) (by kernel_rfl) (by kernel_rfl) (fun _ _ _ h => h) (Or.inr ⟨by rfl, rfl⟩) hS3 ?_
    simp only [Act.put, List.setIfInBounds_toArray, List.set_cons_zero, List.set_cons_succ]
    refine wpAnyH_takeD (i := 40) (v := .bool true) (some 44) rfl rfl (by kernel_rfl) (by kernel_rfl) (by kernel_rfl) (fun _ _ _ h => h) (Or.inl ⟨by rfl, by intro W _; go_simp⟩) hS3 ?_
    simp only [Act.put, List.setIfInBounds_toArray, List.set_cons_zero, List.set_cons_succ]
    clear hS3
    refine wpAnyH_done (by kernel_rfl) ?_ _
    go_wp2_with fail
    go_ret
    exact BoolIs.no HF.out hb3
  | true =>
    have HR : Hid (RespP st fs b) := htu1.1 rfl
    clear htu1
    refine wpAnyH_takeD (i := 3) (v := .bool false) (some 7) rfl rfl (by kernel_rfl) (by kernel_rfl) (by kernel_rfl) (fun _ _ _ h => h) (Or.inl ⟨by rfl, by intro W _; go_simp⟩) hS3 ?_
    simp only [Act.put, List.setIfInBounds_toArray, List.set_cons_zero, List.set_cons_succ]
    refine wpAnyH_takeD (i := 4) (v := .bool false) (some 8) rfl rfl (by kernel_rfl) (by kernel_rfl) (by kernel_rfl) (fun _ _ _ h => h) (Or.inl ⟨by rfl, by intro W _; go_simp⟩) hS3 ?_
    simp only [Act.put, List.setIfInBounds_toArray, List.set_cons_zero, List.set_cons_succ]
    refine wpAnyH_takeD (i := 5) (v := .pointer (some ⟨qv1, 0, none⟩)) (some 9) rfl rfl (by kernel_rfl) (by kernel_rfl) (by kernel_rfl) (fun _ _ _ h => h) (Or.inl ⟨by rfl, by intro W _; go_simp⟩) hS3 ?_
    simp only [Act.put, List.setIfInBounds_toArray, List.set_cons_zero, List.set_cons_succ]
    refine wpAnyH_takeD (i := 6) (v := .string p) (some 10) rfl rfl (by kernel_rfl) (by kernel_rfl) (by kernel_rfl) (fun _ _ _ h => h) (Or.inl ⟨by rfl, by intro W hW; have hhv1 := hW; have y0 := (cell_of hhv1 0).trans rfl; go_simp⟩) hS3 ?_
    simp only [Act.put, List.setIfInBounds_toArray, List.set_cons_zero, List.set_cons_succ]
    refine wpAnyH_ready (rs := [7]) (by kernel_rfl) (by simp) ?_
    refine AllReadyH.cons rfl (fun K hK => ?_) AllReadyH.nil
    go_simp
    refine (l3Path_any p _ HPM.out).mono ?_
    rintro e w4 ⟨u2, rfl, htu2, bw⟩
    have hb4 : Below w.heap.size w (w4) := hb3.trans (bw.mono hb3.size)
    have HBv1_4 : Hid ((w4).heap[qv1]? = some (.cells #[.string p, .slice o1 n1 c1, .slice o2 n2 c2, .int .i64 st, .slice o3 n3 c3, .string b, .int .i64 t] 31)) := blk_below HBv1_3.out bw
    clear hb3 HBv1_3 bw
    have hS4 : w4.heap[qv1]? = some (.cells #[.string p, .slice o1 n1 c1, .slice o2 n2 c2, .int .i64 st, .slice o3 n3 c3, .string b, .int .i64 t] 31) := HBv1_4.out
    refine hK.out _ _ hS4 (fun _ => ?_)
    clear hK K hS3
    cases u2 with
    | false =>
      have HF : Hid (¬ ObjP p xs ys st fs b t) := fun h => nomatch htu2.2 h.2.1
      clear htu2
      refine wpAnyH_takeD (i := 8) (v := .bool true) (some 12) rfl rfl (by kernel_rfl) (by kernel_rfl) (by kernel_rfl) (fun _ _ _ h => h) (Or.inl ⟨by rfl, by intro W _; go_simp⟩) hS4 ?_
      simp only [Act.put, List.setIfInBounds_toArray, List.set_cons_zero, List.set_cons_succ]
      refine wpAnyH_takeD (i := 9) (v := .bool true) (some 13) rfl rfl (by kernel_rfl) (by kernel_rfl) (by kernel_rfl) (fun _ _ _ h => h) (Or.inl ⟨by rfl, by intro W _; go_simp⟩) hS4 ?_
      simp only [Act.put, List.setIfInBounds_toArray, List.set_cons_zero, List.set_cons_succ]
      refine wpAnyH_takeD (i := 10) (v := .bool true) (some 14) rfl rfl (by kernel_rfl) (by kernel_rfl) (by kernel_rfl) (fun _ _ _ h => h) (Or.inl ⟨by rfl, by intro W _; go_simp⟩) hS4 ?_
      simp only [Act.put, List.setIfInBounds_toArray, List.set_cons_zero, List.set_cons_succ]
      refine wpAnyH_takeD (i := 11) (v := undef) (some 15) rfl rfl (by kernel_rfl) (by kernel_rfl) (by kernel_rfl) (fun _ _ _ h => h) (Or.inr ⟨by rfl, rfl⟩) hS4 ?_
      simp only [Act.put, List.setIfInBounds_toArray, List.set_cons_zero, List.set_cons_succ]
      refine wpAnyH_takeD (i := 12) (v := undef) (some 16) rfl rfl (by kernel_rfl) (by kernel_rfl) (by kernel_rfl) (fun _ _ _ h => h) (Or.inr ⟨by rfl, rfl⟩) hS4 ?_
      simp only [Act.put, List.setIfInBounds_toArray, List.set_cons_zero, List.set_cons_succ]
      refine wpAnyH_takeD (i := 13) (v := undef) (some 17) rfl rfl (by kernel_rfl) (by kernel_rfl) (by kernel_rfl) (fun _ _ _ h => h) (Or.inr ⟨by rfl, rfl⟩) hS4 ?_
      simp only [Act.put, List.setIfInBounds_toArray, List.set_cons_zero, List.set_cons_succ]
      refine wpAnyH_takeD (i := 14) (v := undef) (some 18) rfl rfl (by kernel_rfl) (by kernel_rfl) (by kernel_rfl) (fun _ _ _ h => h) (Or.inr ⟨by rfl, rfl⟩) hS4 ?_
      simp only [Act.put, List.setIfInBounds_toArray, List.set_cons_zero, List.set_cons_succ]
      refine wpAnyH_takeD (i := 15) (v := .bool true) (some 19) rfl rfl (by kernel_rfl) (by kernel_rfl) (by kernel_rfl) (fun _ _ _ h => h) (Or.inl ⟨by rfl, by intro W _; go_simp⟩) hS4 ?_
      simp only [Act.put, List.setIfInBounds_toArray, List.set_cons_zero, List.set_cons_succ]
      refine wpAnyH_takeD (i := 16) (v := .bool true) (some 20) rfl rfl (by kernel_rfl) (by kernel_rfl) (by kernel_rfl) (fun _ _ _ h => h) (Or.inl ⟨by rfl, by intro W _; go_simp⟩) hS4 ?_
      simp only [Act.put, List.setIfInBounds_toArray, List.set_cons_zero, List.set_cons_succ]
      refine wpAnyH_takeD (i := 17) (v := undef) (some 21) rfl rfl (by kernel_rfl) (by kernel_rfl) (by kernel_rfl) (fun _ _ _ h => h) (Or.inr ⟨by rfl, rfl⟩) hS4 ?_
      simp only [Act.put, List.setIfInBounds_toArray, List.set_cons_zero, List.set_cons_succ]
      refine wpAnyH_takeD (i := 18) (v := undef) (some 22) rfl rfl (by kernel_rfl) (by kernel_rfl) (by kernel_rfl) (fun _ _ _ h => h) (Or.inr ⟨by rfl, rfl⟩) hS4 ?_
      simp only [Act.put, List.setIfInBounds_toArray, List.set_cons_zero, List.set_cons_succ]
      refine wpAnyH_takeD (i := 19) (v := undef) (some 23) rfl rfl (by kernel_rfl) (by kernel_rfl) (by kernel_rfl) (fun _ _ _ h => h) (Or.inr ⟨by rfl, rfl⟩) hS4 ?_
      simp only [Act.put, List.setIfInBounds_toArray, List.set_cons_zero, List.set_cons_succ]
      refine wpAnyH_takeD (i := 20) (v := undef) (some 24) rfl rfl (by kernel_rfl) (by kernel_rfl) (by kernel_rfl) (fun _ _ _ h => h) (Or.inr ⟨by rfl, rfl⟩) hS4 ?_
      simp only [Act.put, List.setIfInBounds_toArray, List.set_cons_zero, List.set_cons_succ]
      refine wpAnyH_takeD (i := 21) (v := .bool true) (some 25) rfl rfl (by kernel_rfl) (by kernel_rfl) (by kernel_rfl) (fun _ _ _ h => h) (Or.inl ⟨by rfl, by intro W _; go_simp⟩) hS4 ?_
      simp only [Act.put, List.setIfInBounds_toArray, List.set_cons_zero, List.set_cons_succ]
      refine wpAnyH_takeD (i := 22) (v := .bool true) (some 26) rfl rfl (by kernel_rfl) (by kernel_rfl) (by kernel_rfl) (fun _ _ _ h => h) (Or.inl ⟨by rfl, by intro W _; go_simp⟩) hS4 ?_
      simp only [Act.put, List.setIfInBounds_toArray, List.set_cons_zero, List.set_cons_succ]
      refine wpAnyH_takeD (i := 23) (v := undef) (some 27) rfl rfl (by kernel_rfl) (by kernel_rfl) (by kernel_rfl) (fun _ _ _ h => h) (Or.inr ⟨by rfl, rfl⟩) hS4 ?_
      simp only [Act.put, List.setIfInBounds_toArray, List.set_cons_zero, List.set_cons_succ]
      refine wpAnyH_takeD (i := 24) (v := undef) (some 28) rfl rfl (by kernel_rfl) (by kernel_rfl) (by kernel_rfl) (fun _ _ _ h => h) (Or.inr ⟨by rfl, rfl⟩) hS4 ?_
      simp only [Act.put, List.setIfInBounds_toArray, List.set_cons_zero, List.set_cons_succ]
      refine wpAnyH_takeD (i := 25) (v := undef) (some 29) rfl rfl (by kernel_rfl) (by kernel_rfl) (by kernel_rfl) (fun _ _ _ h => h) (Or.inr ⟨by rfl, rfl⟩) hS4 ?_
      simp only [Act.put, List.setIfInBounds_toArray, List.set_cons_zero, List.set_cons_succ]
      refine wpAnyH_takeD (i := 26) (v := undef) (some 30) rfl rfl (by kernel_rfl) (by kernel_rfl) (by kernel_rfl) (fun _ _ _ h => h) (Or.inr ⟨by rfl, rfl⟩) hS4 ?_
      simp only [Act.put, List.setIfInBounds_toArray, List.set_cons_zero, List.set_cons_succ]
      refine wpAnyH_takeD (i := 27) (v := undef) (some 31) rfl rfl (by kernel_rfl) (by kernel_rfl) (by kernel_rfl) (fun _ _ _ h => h) (Or.inr ⟨by rfl, rfl⟩) hS4 ?_
      simp only [Act.put, List.setIfInBounds_toArray, List.set_cons_zero, List.set_cons_succ]
      refine wpAnyH_takeD (i := 28) (v := undef) (some 32) rfl rfl (by kernel_rfl) (by kernel_rfl) (by kernel_rfl) (fun _ _ _ h => h) (Or.inr ⟨by rfl, rfl⟩) hS4 ?_
      simp only [Act.put, List.setIfInBounds_toArray, List.set_cons_zero, List.set_cons_succ]
      refine wpAnyH_takeD (i := 29) (v := undef) (some 33) rfl rfl (by kernel_rfl) (by kernel_rfl) (by kernel_rfl) (fun _ _ _ h => h) (Or.inr ⟨by rfl, rfl⟩) hS4 ?_
      simp only [Act.put, List.setIfInBounds_toArray, List.set_cons_zero, List.set_cons_succ]
      refine wpAnyH_takeD (i := 30) (v := undef) (some 34) rfl rfl (by kernel_rfl) (by kernel_rfl) (by kernel_rfl) (fun _ _ _ h => h) (Or.inr ⟨by rfl, rfl⟩) hS4 ?_
      simp only [Act.put, List.setIfInBounds_toArray, List.set_cons_zero, List.set_cons_succ]
      refine wpAnyH_takeD (i := 31) (v := .bool true) (some 35) rfl rfl (by kernel_rfl) (by kernel_rfl) (by kernel_rfl) (fun _ _ _ h => h) (Or.inl ⟨by rfl, by intro W _; go_simp⟩) hS4 ?_
      simp only [Act.put, List.setIfInBounds_toArray, List.set_cons_zero, List.set_cons_succ]
      refine wpAnyH_takeD (i := 32) (v := .bool true) (some 36) rfl rfl (by kernel_rfl) (by kernel_rfl) (by kernel_rfl) (fun _ _ _ h => h) (Or.inl ⟨by rfl, by intro W _; go_simp⟩) hS4 ?_
      simp only [Act.put, List.setIfInBounds_toArray, List.set_cons_zero, List.set_cons_succ]
      refine wpAnyH_takeD (i := 33) (v := undef) (some 37) rfl rfl (by kernel_rfl) (by kernel_rfl) (by kernel_rfl) (fun _ _ _ h => h) (Or.inr ⟨by rfl, rfl⟩) hS4 ?_
      simp only [Act.put, List.setIfInBounds_toArray, List.set_cons_zero, List.set_cons_succ]
      refine wpAnyH_takeD (i := 34) (v := undef) (some 38) rfl rfl (by kernel_rfl) (by kernel_rfl) (by kernel_rfl) (fun _ _ _ h => h) (Or.inr ⟨by rfl, rfl⟩) hS4 ?_
      simp only [Act.put, List.setIfInBounds_toArray, List.set_cons_zero, List.set_cons_succ]
      refine wpAnyH_takeD (i := 35) (v := undef) (some 39) rfl rfl (by kernel_rfl) (by kernel_rfl) (by kernel_rfl) (fun _ _ _ h => h) (Or.inr ⟨by rfl, rfl⟩) hS4 ?_
      simp only [Act.put, List.setIfInBounds_toArray, List.set_cons_zero, List.set_cons_succ]
      refine wpAnyH_takeD (i := 36) (v := undef) (some 40) rfl rfl (by kernel_rfl) (by kernel_rfl) (by kernel_rfl) (fun _ _ _ h => h) (Or.inr ⟨by rfl, rfl⟩) hS4 ?_
      simp only [Act.put, List.setIfInBounds_toArray, List.set_cons_zero, List.set_cons_succ]
      refine wpAnyH_takeD (i := 37) (v := undef) (some 41) rfl rfl (by kernel_rfl) (by kernel_rfl) (by kernel_rfl) (fun _ _ _ h => h) (Or.inr ⟨by rfl, rfl⟩) hS4 ?_
      simp only [Act.put, List.setIfInBounds_toArray, List.set_cons_zero, List.set_cons_succ]
      refine wpAnyH_takeD (i := 38) (v := undef) (some 42) rfl rfl (by kernel_rfl) (by kernel_rfl) (by kernel_rfl) (fun _ _ _ h => h) (Or.inr ⟨by rfl, rfl⟩) hS4 ?_
      simp only [Act.put, List.setIfInBounds_toArray, List.set_cons_zero, List.set_cons_succ]
      refine wpAnyH_takeD (i := 39) (v := undef) (some 43) rfl rfl (by kernel_rfl) (by kernel_rfl) (by kernel_rfl) (fun _ _ _ h => h) (Or.inr ⟨by rfl, rfl⟩) hS4 ?_
      simp only [Act.put, List.setIfInBounds_toArray, List.set_cons_zero, List.set_cons_succ]
      refine wpAnyH_takeD (i := 40) (v := .bool true) (some 44) rfl rfl (by kernel_rfl) (by kernel_rfl) (by kernel_rfl) (fun _ _ _ h => h) (Or.inl ⟨by rfl, by intro W _; go_simp⟩) hS4 ?_
      simp only [Act.put, List.setIfInBounds_toArray, List.set_cons_zero, List.set_cons_succ]
      clear hS4
      refine wpAnyH_done (by kernel_rfl) ?_ _
      go_wp2_with fail
      go_ret
      exact BoolIs.no HF.out hb4
    | true =>
      have HP : Hid (PathOk p) := htu2.1 rfl
      clear htu2
      refine wpAnyH_takeD (i := 8) (v := .bool false) (some 12) rfl rfl (by kernel_rfl) (by kernel_rfl) (by kernel_rfl) (fun _ _ _ h => h) (Or.inl ⟨by rfl, by intro W _; go_simp⟩) hS4 ?_
      simp only [Act.put, List.setIfInBounds_toArray, List.set_cons_zero, List.set_cons_succ]
      refine wpAnyH_takeD (i := 9) (v := .bool false) (some 13) rfl rfl (by kernel_rfl) (by kernel_rfl) (by kernel_rfl) (fun _ _ _ h => h) (Or.inl ⟨by rfl, by intro W _; go_simp⟩) hS4 ?_
      simp only [Act.put, List.setIfInBounds_toArray, List.set_cons_zero, List.set_cons_succ]
      refine wpAnyH_takeD (i := 10) (v := .bool false) (some 14) rfl rfl (by kernel_rfl) (by kernel_rfl) (by kernel_rfl) (fun _ _ _ h => h) (Or.inl ⟨by rfl, by intro W _; go_simp⟩) hS4 ?_
      simp only [Act.put, List.setIfInBounds_toArray, List.set_cons_zero, List.set_cons_succ]
      refine wpAnyH_takeD (i := 11) (v := .pointer (some ⟨qv1, 6, none⟩)) (some 15) rfl rfl (by kernel_rfl) (by kernel_rfl) (by kernel_rfl) (fun _ _ _ h => h) (Or.inl ⟨by rfl, by intro W _; go_simp⟩) hS4 ?_
      simp only [Act.put, List.setIfInBounds_toArray, List.set_cons_zero, List.set_cons_succ]
      refine wpAnyH_takeD (i := 12) (v := .int .i64 t) (some 16) rfl rfl (by kernel_rfl) (by kernel_rfl) (by kernel_rfl) (fun _ _ _ h => h) (Or.inl ⟨by rfl, by intro W hW; have hhv1 := hW; have y6 := (cell_of hhv1 6).trans rfl; go_simp⟩) hS4 ?_
      simp only [Act.put, List.setIfInBounds_toArray, List.set_cons_zero, List.set_cons_succ]
      refine wpAnyH_ready (rs := [13]) (by kernel_rfl) (by simp) ?_
      refine AllReadyH.cons rfl (fun K hK => ?_) AllReadyH.nil
      go_simp
      refine (l1In_any t 0 1000000 _).mono ?_
      rintro e w5 ⟨rfl, hwe⟩
      have bw : Below (w4).heap.size (w4) w5 := by rw [hwe]; exact Below.refl _ _
      clear hwe
      obtain ⟨u3, hu3⟩ : ∃ u3, u3 = decide ((0 : Int) ≤ t ∧ t ≤ 1000000) := ⟨_, rfl⟩
      rw [← hu3]
      have hb5 : Below w.heap.size w (w5) := hb4.trans (bw.mono hb4.size)
      have HBv1_5 : Hid ((w5).heap[qv1]? = some (.cells #[.string p, .slice o1 n1 c1, .slice o2 n2 c2, .int .i64 st, .slice o3 n3 c3, .string b, .int .i64 t] 31)) := blk_below HBv1_4.out bw
      clear hb4 HBv1_4 bw
      have hS5 : w5.heap[qv1]? = some (.cells #[.string p, .slice o1 n1 c1, .slice o2 n2 c2, .int .i64 st, .slice o3 n3 c3, .string b, .int .i64 t] 31) := HBv1_5.out
      refine hK.out _ _ hS5 (fun _ => ?_)
      clear hK K hS4
      cases u3 with
      | false =>
        have HF : Hid (¬ ObjP p xs ys st fs b t) := fun h => absurd h.2.2.1 (of_decide_eq_false hu3.symm)
        clear hu3
        refine wpAnyH_takeD (i := 14) (v := .bool true) (some 18) rfl rfl (by kernel_rfl) (by kernel_rfl) (by kernel_rfl) (fun _ _ _ h => h) (Or.inl ⟨by rfl, by intro W _; go_simp⟩) hS5 ?_
        simp only [Act.put, List.setIfInBounds_toArray, List.set_cons_zero, List.set_cons_succ]
        refine wpAnyH_takeD (i := 15) (v := .bool true) (some 19) rfl rfl (by kernel_rfl) (by kernel_rfl) (by kernel_rfl) (fun _ _ _ h => h) (Or.inl ⟨by rfl, by intro W _; go_simp⟩) hS5 ?_
        simp only [Act.put, List.setIfInBounds_toArray, List.set_cons_zero, List.set_cons_succ]
        refine wpAnyH_takeD (i := 16) (v := .bool true) (some 20) rfl rfl (by kernel_rfl) (by kernel_rfl) (by kernel_rfl) (fun _ _ _ h => h) (Or.inl ⟨by rfl, by intro W _; go_simp⟩) hS5 ?_
        simp only [Act.put, List.setIfInBounds_toArray, List.set_cons_zero, List.set_cons_succ]
        refine wpAnyH_takeD (i := 17) (v := undef) (some 21) rfl rfl (by kernel_rfl) (by kernel_rfl) (by kernel_rfl) (fun _ _ _ h => h) (Or.inr ⟨by rfl, rfl⟩) hS5 ?_
        simp only [Act.put, List.setIfInBounds_toArray, List.set_cons_zero, List.set_cons_succ]
        refine wpAnyH_takeD (i := 18) (v := undef) (some 22) rfl rfl (by kernel_rfl) (by kernel_rfl) (by kernel_rfl) (fun _ _ _ h => h) (Or.inr ⟨by rfl, rfl⟩) hS5 ?_
        simp only [Act.put, List.setIfInBounds_toArray, List.set_cons_zero, List.set_cons_succ]
        refine wpAnyH_takeD (i := 19) (v := undef) (some 23) rfl rfl (by kernel_rfl) (by kernel_rfl) (by kernel_rfl) (fun _ _ _ h => h) (Or.inr ⟨by rfl, rfl⟩) hS5 ?_
        simp only [Act.put, List.setIfInBounds_toArray, List.set_cons_zero, List.set_cons_succ]
        refine wpAnyH_takeD (i := 20) (v := undef) (some 24) rfl rfl (by kernel_rfl) (by kernel_rfl) (by kernel_rfl) (fun _ _ _ h => h) (Or.inr ⟨by rfl, rfl⟩) hS5 ?_
        simp only [Act.put, List.setIfInBounds_toArray, List.set_cons_zero, List.set_cons_succ]
        refine wpAnyH_takeD (i := 21) (v := .bool true) (some 25) rfl rfl (by kernel_rfl) (by kernel_rfl) (by kernel_rfl) (fun _ _ _ h => h) (Or.inl ⟨by rfl, by intro W _; go_simp⟩) hS5 ?_
        simp only [Act.put, List.setIfInBounds_toArray, List.set_cons_zero, List.set_cons_succ]
        refine wpAnyH_takeD (i := 22) (v := .bool true) (some 26) rfl rfl (by kernel_rfl) (by kernel_rfl) (by kernel_rfl) (fun _ _ _ h => h) (Or.inl ⟨by rfl, by intro W _; go_simp⟩) hS5 ?_
        simp only [Act.put, List.setIfInBounds_toArray, List.set_cons_zero, List.set_cons_succ]
        refine wpAnyH_takeD (i := 23) (v := undef) (some 27) rfl rfl (by kernel_rfl) (by kernel_rfl) (by kernel_rfl) (fun _ _ _ h => h) (Or.inr ⟨by rfl, rfl⟩) hS5 ?_
        simp only [Act.put, List.setIfInBounds_toArray, List.set_cons_zero, List.set_cons_succ]
        refine wpAnyH_takeD (i := 24) (v := undef) (some 28) rfl rfl (by kernel_rfl) (by kernel_rfl) (by kernel_rfl) (fun _ _ _ h => h) (Or.inr ⟨by rfl, rfl⟩) hS5 ?_
        simp only [Act.put, List.setIfInBounds_toArray, List.set_cons_zero, List.set_cons_succ]
        refine wpAnyH_takeD (i := 25) (v := undef) (some 29) rfl rfl (by kernel_rfl) (by kernel_rfl) (by kernel_rfl) (fun _ _ _ h => h) (Or.inr ⟨by rfl, rfl⟩) hS5 ?_
        simp only [Act.put, List.setIfInBounds_toArray, List.set_cons_zero, List.set_cons_succ]
        refine wpAnyH_takeD (i := 26) (v := undef) (some 30) rfl rfl (by kernel_rfl) (by kernel_rfl) (by kernel_rfl) (fun _ _ _ h => h) (Or.inr ⟨by rfl, rfl⟩) hS5 ?_
        simp only [Act.put, List.setIfInBounds_toArray, List.set_cons_zero, List.set_cons_succ]
        refine wpAnyH_takeD (i := 27) (v := undef) (some 31) rfl rfl (by kernel_rfl) (by kernel_rfl) (by kernel_rfl) (fun _ _ _ h => h) (Or.inr ⟨by rfl, rfl⟩) hS5 ?_
        simp only [Act.put, List.setIfInBounds_toArray, List.set_cons_zero, List.set_cons_succ]
        refine wpAnyH_takeD (i := 28) (v := undef) (some 32) rfl rfl (by kernel_rfl) (by kernel_rfl) (by kernel_rfl) (fun _ _ _ h => h) (Or.inr ⟨by rfl, rfl⟩) hS5 ?_
        simp only [Act.put, List.setIfInBounds_toArray, List.set_cons_zero, List.set_cons_succ]
        refine wpAnyH_takeD (i := 29) (v := undef) (some 33) rfl rfl (by kernel_rfl) (by kernel_rfl) (by kernel_rfl) (fun _ _ _ h => h) (Or.inr ⟨by rfl, rfl⟩) hS5 ?_
        simp only [Act.put, List.setIfInBounds_toArray, List.set_cons_zero, List.set_cons_succ]
        refine wpAnyH_takeD (i := 30) (v := undef) (some 34) rfl rfl (by kernel_rfl) (by kernel_rfl) (by kernel_rfl) (fun _ _ _ h => h) (Or.inr ⟨by rfl, rfl⟩) hS5 ?_
        simp only [Act.put, List.setIfInBounds_toArray, List.set_cons_zero, List.set_cons_succ]
        refine wpAnyH_takeD (i := 31) (v := .bool true) (some 35) rfl rfl (by kernel_rfl) (by kernel_rfl) (by kernel_rfl) (fun _ _ _ h => h) (Or.inl ⟨by rfl, by intro W _; go_simp⟩) hS5 ?_
        simp only [Act.put, List.setIfInBounds_toArray, List.set_cons_zero, List.set_cons_succ]
        refine wpAnyH_takeD (i := 32) (v := .bool true) (some 36) rfl rfl (by kernel_rfl) (by kernel_rfl) (by kernel_rfl) (fun _ _ _ h => h) (Or.inl ⟨by rfl, by intro W _; go_simp⟩) hS5 ?_
        simp only [Act.put, List.setIfInBounds_toArray, List.set_cons_zero, List.set_cons_succ]
        refine wpAnyH_takeD (i := 33) (v := undef) (some 37) rfl rfl (by kernel_rfl) (by kernel_rfl) (by kernel_rfl) (fun _ _ _ h => h) (Or.inr ⟨by rfl, rfl⟩) hS5 ?_
        simp only [Act.put, List.setIfInBounds_toArray, List.set_cons_zero, List.set_cons_succ]
        refine wpAnyH_takeD (i := 34) (v := undef) (some 38) rfl rfl (by kernel_rfl) (by kernel_rfl) (by kernel_rfl) (fun _ _ _ h => h) (Or.inr ⟨by rfl, rfl⟩) hS5 ?_
        simp only [Act.put, List.setIfInBounds_toArray, List.set_cons_zero, List.set_cons_succ]
        refine wpAnyH_takeD (i := 35) (v := undef) (some 39) rfl rfl (by kernel_rfl) (by kernel_rfl) (by kernel_rfl) (fun _ _ _ h => h) (Or.inr ⟨by rfl, rfl⟩) hS5 ?_
        simp only [Act.put, List.setIfInBounds_toArray, List.set_cons_zero, List.set_cons_succ]
        refine wpAnyH_takeD (i := 36) (v := undef) (some 40) rfl rfl (by kernel_rfl) (by kernel_rfl) (by kernel_rfl) (fun _ _ _ h => h) (Or.inr ⟨by rfl, rfl⟩) hS5 ?_
        simp only [Act.put, List.setIfInBounds_toArray, List.set_cons_zero, List.set_cons_succ]
        refine wpAnyH_takeD (i := 37) (v := undef) (some 41) rfl rfl (by kernel_rfl) (by kernel_rfl) (by kernel_rfl) (fun _ _ _ h => h) (Or.inr ⟨by rfl, rfl⟩) hS5 ?_
        simp only [Act.put, List.setIfInBounds_toArray, List.set_cons_zero, List.set_cons_succ]
        refine wpAnyH_takeD (i := 38) (v := undef) (some 42) rfl rfl (by kernel_rfl) (by kernel_rfl) (by kernel_rfl) (fun _ _ _ h => h) (Or.inr ⟨by rfl, rfl⟩) hS5 ?_
        simp only [Act.put, List.setIfInBounds_toArray, List.set_cons_zero, List.set_cons_succ]
        refine wpAnyH_takeD (i := 39) (v := undef) (some 43) rfl rfl (by kernel_rfl) (by kernel_rfl) (by kernel_rfl) (fun _ _ _ h => h) (Or.inr ⟨by rfl, rfl⟩) hS5 ?_
        simp only [Act.put, List.setIfInBounds_toArray, List.set_cons_zero, List.set_cons_succ]
        refine wpAnyH_takeD (i := 40) (v := .bool true) (some 44) rfl rfl (by kernel_rfl) (by kernel_rfl) (by kernel_rfl) (fun _ _ _ h => h) (Or.inl ⟨by rfl, by intro W _; go_simp⟩) hS5 ?_
        simp only [Act.put, List.setIfInBounds_toArray, List.set_cons_zero, List.set_cons_succ]
        clear hS5
        refine wpAnyH_done (by kernel_rfl) ?_ _
        go_wp2_with fail
        go_ret
        exact BoolIs.no HF.out hb5
      | true =>
        have HT : Hid (0 ≤ t ∧ t ≤ 1000000) := (show 0 ≤ t ∧ t ≤ 1000000 from of_decide_eq_true hu3.symm)
        clear hu3
        refine wpAnyH_takeD (i := 14) (v := .bool false) (some 18) rfl rfl (by kernel_rfl) (by kernel_rfl) (by kernel_rfl) (fun _ _ _ h => h) (Or.inl ⟨by rfl, by intro W _; go_simp⟩) hS5 ?_
        simp only [Act.put, List.setIfInBounds_toArray, List.set_cons_zero, List.set_cons_succ]
        refine wpAnyH_takeD (i := 15) (v := .bool false) (some 19) rfl rfl (by kernel_rfl) (by kernel_rfl) (by kernel_rfl) (fun _ _ _ h => h) (Or.inl ⟨by rfl, by intro W _; go_simp⟩) hS5 ?_
        simp only [Act.put, List.setIfInBounds_toArray, List.set_cons_zero, List.set_cons_succ]
        refine wpAnyH_takeD (i := 16) (v := .bool false) (some 20) rfl rfl (by kernel_rfl) (by kernel_rfl) (by kernel_rfl) (fun _ _ _ h => h) (Or.inl ⟨by rfl, by intro W _; go_simp⟩) hS5 ?_
        simp only [Act.put, List.setIfInBounds_toArray, List.set_cons_zero, List.set_cons_succ]
        refine wpAnyH_takeD (i := 17) (v := .pointer (some ⟨qv1, 1, none⟩)) (some 21) rfl rfl (by kernel_rfl) (by kernel_rfl) (by kernel_rfl) (fun _ _ _ h => h) (Or.inl ⟨by rfl, by intro W _; go_simp⟩) hS5 ?_
        simp only [Act.put, List.setIfInBounds_toArray, List.set_cons_zero, List.set_cons_succ]
        refine wpAnyH_takeD (i := 18) (v := .slice o1 n1 c1) (some 22) rfl rfl (by kernel_rfl) (by kernel_rfl) (by kernel_rfl) (fun _ _ _ h => h) (Or.inl ⟨by rfl, by intro W hW; have hhv1 := hW; have y1 := (cell_of hhv1 1).trans rfl; go_simp⟩) hS5 ?_
        simp only [Act.put, List.setIfInBounds_toArray, List.set_cons_zero, List.set_cons_succ]
        refine wpAnyH_ready (rs := [19]) (by kernel_rfl) (by simp) ?_
        refine AllReadyH.cons rfl (fun K hK => ?_) AllReadyH.nil
        go_simp
        refine (l9Names_any _ _ _ xs _ (HV1.out _ hb5) (by omega) HS1.out).mono ?_
        rintro e w6 ⟨u4, rfl, htu4, bw⟩
        have hb6 : Below w.heap.size w (w6) := hb5.trans (bw.mono hb5.size)
        have HBv1_6 : Hid ((w6).heap[qv1]? = some (.cells #[.string p, .slice o1 n1 c1, .slice o2 n2 c2, .int .i64 st, .slice o3 n3 c3, .string b, .int .i64 t] 31)) := blk_below HBv1_5.out bw
        clear hb5 HBv1_5 bw
        have hS6 : w6.heap[qv1]? = some (.cells #[.string p, .slice o1 n1 c1, .slice o2 n2 c2, .int .i64 st, .slice o3 n3 c3, .string b, .int .i64 t] 31) := HBv1_6.out
        refine hK.out _ _ hS6 (fun _ => ?_)
        clear hK K hS5
        cases u4 with
        | false =>
          have HF : Hid (¬ ObjP p xs ys st fs b t) := fun h => nomatch htu4.2 h.2.2.2.1
          clear htu4
          refine wpAnyH_takeD (i := 20) (v := .bool true) (some 24) rfl rfl (by kernel_rfl) (by kernel_rfl) (by kernel_rfl) (fun _ _ _ h => h) (Or.inl ⟨by rfl, by intro W _; go_simp⟩) hS6 ?_
          simp only [Act.put, List.setIfInBounds_toArray, List.set_cons_zero, List.set_cons_succ]
          refine wpAnyH_takeD (i := 21) (v := .bool true) (some 25) rfl rfl (by kernel_rfl) (by kernel_rfl) (by kernel_rfl) (fun _ _ _ h => h) (Or.inl ⟨by rfl, by intro W _; go_simp⟩) hS6 ?_
          simp only [Act.put, List.setIfInBounds_toArray, List.set_cons_zero, List.set_cons_succ]
          refine wpAnyH_takeD (i := 22) (v := .bool true) (some 26) rfl rfl (by kernel_rfl) (by kernel_rfl) (by kernel_rfl) (fun _ _ _ h => h) (Or.inl ⟨by rfl, by intro W _; go_simp⟩) hS6 ?_
          simp only [Act.put, List.setIfInBounds_toArray, List.set_cons_zero, List.set_cons_succ]
          refine wpAnyH_takeD (i := 23) (v := undef) (some 27) rfl rfl (by kernel_rfl) (by kernel_rfl) (by kernel_rfl) (fun _ _ _ h => h) (Or.inr ⟨by rfl, rfl⟩) hS6 ?_
          simp only [Act.put, List.setIfInBounds_toArray, List.set_cons_zero, List.set_cons_succ]
          refine wpAnyH_takeD (i := 24) (v := undef) (some 28) rfl rfl (by kernel_rfl) (by kernel_rfl) (by kernel_rfl) (fun _ _ _ h => h) (Or.inr ⟨by rfl, rfl⟩) hS6 ?_
          simp only [Act.put, List.setIfInBounds_toArray, List.set_cons_zero, List.set_cons_succ]
          refine wpAnyH_takeD (i := 25) (v := undef) (some 29) rfl rfl (by kernel_rfl) (by kernel_rfl) (by kernel_rfl) (fun _ _ _ h => h) (Or.inr ⟨by rfl, rfl⟩) hS6 ?_
          simp only [Act.put, List.setIfInBounds_toArray, List.set_cons_zero, List.set_cons_succ]
          refine wpAnyH_takeD (i := 26) (v := undef) (some 30) rfl rfl (by kernel_rfl) (by kernel_rfl) (by kernel_rfl) (fun _ _ _ h => h) (Or.inr ⟨by rfl, rfl⟩) hS6 ?_
          simp only [Act.put, List.setIfInBounds_toArray, List.set_cons_zero, List.set_cons_succ]
          refine wpAnyH_takeD (i := 27) (v := undef) (some 31) rfl rfl (by kernel_rfl) (by kernel_rfl) (by kernel_rfl) (fun _ _ _ h => h) (Or.inr ⟨by rfl, rfl⟩) hS6 ?_
          simp only [Act.put, List.setIfInBounds_toArray, List.set_cons_zero, List.set_cons_succ]
          refine wpAnyH_takeD (i := 28) (v := undef) (some 32) rfl rfl (by kernel_rfl) (by kernel_rfl) (by kernel_rfl) (fun _ _ _ h => h) (Or.inr ⟨by rfl, rfl⟩) hS6 ?_
          simp only [Act.put, List.setIfInBounds_toArray, List.set_cons_zero, List.set_cons_succ]
          refine wpAnyH_takeD (i := 29) (v := undef) (some 33) rfl rfl (by kernel_rfl) (by kernel_rfl) (by kernel_rfl) (fun _ _ _ h => h) (Or.inr ⟨by rfl, rfl⟩) hS6 ?_
          simp only [Act.put, List.setIfInBounds_toArray, List.set_cons_zero, List.set_cons_succ]
          refine wpAnyH_takeD (i := 30) (v := undef) (some 34) rfl rfl (by kernel_rfl) (by kernel_rfl) (by kernel_rfl) (fun _ _ _ h => h) (Or.inr ⟨by rfl, rfl⟩) hS6 ?_
          simp only [Act.put, List.setIfInBounds_toArray, List.set_cons_zero, List.set_cons_succ]
          refine wpAnyH_takeD (i := 31) (v := .bool true) (some 35) rfl rfl (by kernel_rfl) (by kernel_rfl) (by kernel_rfl) (fun _ _ _ h => h) (Or.inl ⟨by rfl, by intro W _; go_simp⟩) hS6 ?_
          simp only [Act.put, List.setIfInBounds_toArray, List.set_cons_zero, List.set_cons_succ]
          refine wpAnyH_takeD (i := 32) (v := .bool true) (some 36) rfl rfl (by kernel_rfl) (by kernel_rfl) (by kernel_rfl) (fun _ _ _ h => h) (Or.inl ⟨by rfl, by intro W _; go_simp⟩) hS6 ?_
          simp only [Act.put, List.setIfInBounds_toArray, List.set_cons_zero, List.set_cons_succ]
          refine wpAnyH_takeD (i := 33) (v := undef) (some 37) rfl rfl (by kernel_rfl) (by kernel_rfl) (by kernel_rfl) (fun _ _ _ h => h) (Or.inr ⟨by rfl, rfl⟩) hS6 ?_
          simp only [Act.put, List.setIfInBounds_toArray, List.set_cons_zero, List.set_cons_succ]
          refine wpAnyH_takeD (i := 34) (v := undef) (some 38) rfl rfl (by kernel_rfl) (by kernel_rfl) (by kernel_rfl) (fun _ _ _ h => h) (Or.inr ⟨by rfl, rfl⟩) hS6 ?_
          simp only [Act.put, List.setIfInBounds_toArray, List.set_cons_zero, List.set_cons_succ]
          refine wpAnyH_takeD (i := 35) (v := undef) (some 39) rfl rfl (by kernel_rfl) (by kernel_rfl) (by kernel_rfl) (fun _ _ _ h => h) (Or.inr ⟨by rfl, rfl⟩) hS6 ?_
          simp only [Act.put, List.setIfInBounds_toArray, List.set_cons_zero, List.set_cons_succ]
          refine wpAnyH_takeD (i := 36) (v := undef) (some 40) rfl rfl (by kernel_rfl) (by kernel_rfl) (by kernel_rfl) (fun _ _ _ h => h) (Or.inr ⟨by rfl, rfl⟩) hS6 ?_
          simp only [Act.put, List.setIfInBounds_toArray, List.set_cons_zero, List.set_cons_succ]
          refine wpAnyH_takeD (i := 37) (v := undef) (some 41) rfl rfl (by kernel_rfl) (by kernel_rfl) (by kernel_rfl) (fun _ _ _ h => h) (Or.inr ⟨by rfl, rfl⟩) hS6 ?_
          simp only [Act.put, List.setIfInBounds_toArray, List.set_cons_zero, List.set_cons_succ]
          refine wpAnyH_takeD (i := 38) (v := undef) (some 42) rfl rfl (by kernel_rfl) (by kernel_rfl) (by kernel_rfl) (fun _ _ _ h => h) (Or.inr ⟨by rfl, rfl⟩) hS6 ?_
          simp only [Act.put, List.setIfInBounds_toArray, List.set_cons_zero, List.set_cons_succ]
          refine wpAnyH_takeD (i := 39) (v := undef) (some 43) rfl rfl (by kernel_rfl) (by kernel_rfl) (by kernel_rfl) (fun _ _ _ h => h) (Or.inr ⟨by rfl, rfl⟩) hS6 ?_
          simp only [Act.put, List.setIfInBounds_toArray, List.set_cons_zero, List.set_cons_succ]
          refine wpAnyH_takeD (i := 40) (v := .bool true) (some 44) rfl rfl (by kernel_rfl) (by kernel_rfl) (by kernel_rfl) (fun _ _ _ h => h) (Or.inl ⟨by rfl, by intro W _; go_simp⟩) hS6 ?_
          simp only [Act.put, List.setIfInBounds_toArray, List.set_cons_zero, List.set_cons_succ]
          clear hS6
          refine wpAnyH_done (by kernel_rfl) ?_ _
          go_wp2_with fail
          go_ret
          exact BoolIs.no HF.out hb6
        | true =>
          have HNM : Hid (NamesP xs) := htu4.1 rfl
          clear htu4
          refine wpAnyH_takeD (i := 20) (v := .bool false) (some 24) rfl rfl (by kernel_rfl) (by kernel_rfl) (by kernel_rfl) (fun _ _ _ h => h) (Or.inl ⟨by rfl, by intro W _; go_simp⟩) hS6 ?_
          simp only [Act.put, List.setIfInBounds_toArray, List.set_cons_zero, List.set_cons_succ]
          refine wpAnyH_takeD (i := 21) (v := .bool false) (some 25) rfl rfl (by kernel_rfl) (by kernel_rfl) (by kernel_rfl) (fun _ _ _ h => h) (Or.inl ⟨by rfl, by intro W _; go_simp⟩) hS6 ?_
          simp only [Act.put, List.setIfInBounds_toArray, List.set_cons_zero, List.set_cons_succ]
          refine wpAnyH_takeD (i := 22) (v := .bool false) (some 26) rfl rfl (by kernel_rfl) (by kernel_rfl) (by kernel_rfl) (fun _ _ _ h => h) (Or.inl ⟨by rfl, by intro W _; go_simp⟩) hS6 ?_
          simp only [Act.put, List.setIfInBounds_toArray, List.set_cons_zero, List.set_cons_succ]
          refine wpAnyH_takeD (i := 23) (v := .pointer (some ⟨qv1, 1, none⟩)) (some 27) rfl rfl (by kernel_rfl) (by kernel_rfl) (by kernel_rfl) (fun _ _ _ h => h) (Or.inl ⟨by rfl, by intro W _; go_simp⟩) hS6 ?_
          simp only [Act.put, List.setIfInBounds_toArray, List.set_cons_zero, List.set_cons_succ]
          refine wpAnyH_takeD (i := 24) (v := .slice o1 n1 c1) (some 28) rfl rfl (by kernel_rfl) (by kernel_rfl) (by kernel_rfl) (fun _ _ _ h => h) (Or.inl ⟨by rfl, by intro W hW; have hhv1 := hW; have y1 := (cell_of hhv1 1).trans rfl; go_simp⟩) hS6 ?_
          simp only [Act.put, List.setIfInBounds_toArray, List.set_cons_zero, List.set_cons_succ]
          refine wpAnyH_takeD (i := 25) (v := .pointer (some ⟨qv1, 3, none⟩)) (some 29) rfl rfl (by kernel_rfl) (by kernel_rfl) (by kernel_rfl) (fun _ _ _ h => h) (Or.inl ⟨by rfl, by intro W _; go_simp⟩) hS6 ?_
          simp only [Act.put, List.setIfInBounds_toArray, List.set_cons_zero, List.set_cons_succ]
          refine wpAnyH_takeD (i := 26) (v := .pointer (some ⟨qv1, 4, none⟩)) (some 30) rfl rfl (by kernel_rfl) (by kernel_rfl) (by kernel_rfl) (fun _ _ _ h => h) (Or.inl ⟨by rfl, by intro W _; go_simp⟩) hS6 ?_
          simp only [Act.put, List.setIfInBounds_toArray, List.set_cons_zero, List.set_cons_succ]
          refine wpAnyH_takeD (i := 27) (v := .slice o3 n3 c3) (some 31) rfl rfl (by kernel_rfl) (by kernel_rfl) (by kernel_rfl) (fun _ _ _ h => h) (Or.inl ⟨by rfl, by intro W hW; have hhv1 := hW; have y4 := (cell_of hhv1 4).trans rfl; go_simp⟩) hS6 ?_
          simp only [Act.put, List.setIfInBounds_toArray, List.set_cons_zero, List.set_cons_succ]
          refine wpAnyH_ready (rs := [28]) (by kernel_rfl) (by simp) ?_
          refine AllReadyH.cons rfl (fun K hK => ?_) AllReadyH.nil
          go_simp
          refine (specVaryOf_any _ n3 base fs _ (HV3.out _ hb6) (by omega) HG.out).mono ?_
          rintro e w7 ⟨vv, rfl, ownY, bw⟩
          obtain ⟨oY, pY, rfl⟩ := slice_of_owns ownY
          rw [HVL.out] at ownY ⊢
          have hb7 : Below w.heap.size w (w7) := hb6.trans (bw.mono hb6.size)
          have HBv1_7 : Hid ((w7).heap[qv1]? = some (.cells #[.string p, .slice o1 n1 c1, .slice o2 n2 c2, .int .i64 st, .slice o3 n3 c3, .string b, .int .i64 t] 31)) := blk_below HBv1_6.out bw
          have HOY_7 : Hid ((w7).ownsRow w.heap.size 9 1 (.slice oY vl.length pY) vl.length (vl.map Value.string)) := owns_wide ownY hb6.size
          clear ownY
          clear hb6 HBv1_6 bw
          have hS7 : w7.heap[qv1]? = some (.cells #[.string p, .slice o1 n1 c1, .slice o2 n2 c2, .int .i64 st, .slice o3 n3 c3, .string b, .int .i64 t] 31) := HBv1_7.out
          refine hK.out _ _ hS7 (fun _ => ?_)
          clear hK K hS6
          refine wpAnyH_ready (rs := [29]) (by kernel_rfl) (by simp) ?_
          refine AllReadyH.cons rfl (fun K hK => ?_) AllReadyH.nil
          go_simp
          refine (l8Texts_any _ _ _ _ _ _ xs vl _ (HV1.out _ hb7) (texts_view HOY_7.out) (by omega)).mono ?_
          rintro e w8 ⟨rfl, bw⟩
          obtain ⟨u5, hu5⟩ : ∃ u5, u5 = decide (xs = vl) := ⟨_, rfl⟩
          rw [← hu5]
          have hb8 : Below w.heap.size w (w8) := hb7.trans (bw.mono hb7.size)
          have HOY_8 : Hid ((w8).ownsRow w.heap.size 9 1 (.slice oY vl.length pY) vl.length (vl.map Value.string)) := owns_below HOY_7.out bw (fun g hg => owns_lt HOY_7.out hg)
          have HBv1_8 : Hid ((w8).heap[qv1]? = some (.cells #[.string p, .slice o1 n1 c1, .slice o2 n2 c2, .int .i64 st, .slice o3 n3 c3, .string b, .int .i64 t] 31)) := blk_below HBv1_7.out bw
          clear hb7 HOY_7 HBv1_7 bw
          have hS8 : w8.heap[qv1]? = some (.cells #[.string p, .slice o1 n1 c1, .slice o2 n2 c2, .int .i64 st, .slice o3 n3 c3, .string b, .int .i64 t] 31) := HBv1_8.out
          refine hK.out _ _ hS8 (fun _ => ?_)
          clear hK K hS7
          cases u5 with
          | false =>
            have HF : Hid (¬ ObjP p xs ys st fs b t) := fun h => absurd (h.2.2.2.2.1.trans HVL.out) (of_decide_eq_false hu5.symm)
            clear hu5
            refine wpAnyH_takeD (i := 30) (v := .bool true) (some 34) rfl rfl (by kernel_rfl) (by kernel_rfl) (by kernel_rfl) (fun _ _ _ h => h) (Or.inl ⟨by rfl, by intro W _; go_simp⟩) hS8 ?_
            simp only [Act.put, List.setIfInBounds_toArray, List.set_cons_zero, List.set_cons_succ]
            refine wpAnyH_takeD (i := 31) (v := .bool true) (some 35) rfl rfl (by kernel_rfl) (by kernel_rfl) (by kernel_rfl) (fun _ _ _ h => h) (Or.inl ⟨by rfl, by intro W _; go_simp⟩) hS8 ?_
            simp only [Act.put, List.setIfInBounds_toArray, List.set_cons_zero, List.set_cons_succ]
            refine wpAnyH_takeD (i := 32) (v := .bool true) (some 36) rfl rfl (by kernel_rfl) (by kernel_rfl) (by kernel_rfl) (fun _ _ _ h => h) (Or.inl ⟨by rfl, by intro W _; go_simp⟩) hS8 ?_
            simp only [Act.put, List.setIfInBounds_toArray, List.set_cons_zero, List.set_cons_succ]
            refine wpAnyH_takeD (i := 33) (v := undef) (some 37) rfl rfl (by kernel_rfl) (by kernel_rfl) (by kernel_rfl) (fun _ _ _ h => h) (Or.inr ⟨by rfl, rfl⟩) hS8 ?_
            simp only [Act.put, List.setIfInBounds_toArray, List.set_cons_zero, List.set_cons_succ]
            refine wpAnyH_takeD (i := 34) (v := undef) (some 38) rfl rfl (by kernel_rfl) (by kernel_rfl) (by kernel_rfl) (fun _ _ _ h => h) (Or.inr ⟨by rfl, rfl⟩) hS8 ?_
            simp only [Act.put, List.setIfInBounds_toArray, List.set_cons_zero, List.set_cons_succ]
            refine wpAnyH_takeD (i := 35) (v := undef) (some 39) rfl rfl (by kernel_rfl) (by kernel_rfl) (by kernel_rfl) (fun _ _ _ h => h) (Or.inr ⟨by rfl, rfl⟩) hS8 ?_
            simp only [Act.put, List.setIfInBounds_toArray, List.set_cons_zero, List.set_cons_succ]
            refine wpAnyH_takeD (i := 36) (v := undef) (some 40) rfl rfl (by kernel_rfl) (by kernel_rfl) (by kernel_rfl) (fun _ _ _ h => h) (Or.inr ⟨by rfl, rfl⟩) hS8 ?_
            simp only [Act.put, List.setIfInBounds_toArray, List.set_cons_zero, List.set_cons_succ]
            refine wpAnyH_takeD (i := 37) (v := undef) (some 41) rfl rfl (by kernel_rfl) (by kernel_rfl) (by kernel_rfl) (fun _ _ _ h => h) (Or.inr ⟨by rfl, rfl⟩) hS8 ?_
            simp only [Act.put, List.setIfInBounds_toArray, List.set_cons_zero, List.set_cons_succ]
            refine wpAnyH_takeD (i := 38) (v := undef) (some 42) rfl rfl (by kernel_rfl) (by kernel_rfl) (by kernel_rfl) (fun _ _ _ h => h) (Or.inr ⟨by rfl, rfl⟩) hS8 ?_
            simp only [Act.put, List.setIfInBounds_toArray, List.set_cons_zero, List.set_cons_succ]
            refine wpAnyH_takeD (i := 39) (v := undef) (some 43) rfl rfl (by kernel_rfl) (by kernel_rfl) (by kernel_rfl) (fun _ _ _ h => h) (Or.inr ⟨by rfl, rfl⟩) hS8 ?_
            simp only [Act.put, List.setIfInBounds_toArray, List.set_cons_zero, List.set_cons_succ]
            refine wpAnyH_takeD (i := 40) (v := .bool true) (some 44) rfl rfl (by kernel_rfl) (by kernel_rfl) (by kernel_rfl) (fun _ _ _ h => h) (Or.inl ⟨by rfl, by intro W _; go_simp⟩) hS8 ?_
            simp only [Act.put, List.setIfInBounds_toArray, List.set_cons_zero, List.set_cons_succ]
            clear hS8
            refine wpAnyH_done (by kernel_rfl) ?_ _
            go_wp2_with fail
            go_ret
            exact BoolIs.no HF.out hb8
          | true =>
            have HE : Hid (xs = vl) := (show xs = vl from of_decide_eq_true hu5.symm)
            clear hu5
            refine wpAnyH_takeD (i := 30) (v := .bool false) (some 34) rfl rfl (by kernel_rfl) (by kernel_rfl) (by kernel_rfl) (fun _ _ _ h => h) (Or.inl ⟨by rfl, by intro W _; go_simp⟩) hS8 ?_
            simp only [Act.put, List.setIfInBounds_toArray, List.set_cons_zero, List.set_cons_succ]
            refine wpAnyH_takeD (i := 31) (v := .bool false) (some 35) rfl rfl (by kernel_rfl) (by kernel_rfl) (by kernel_rfl) (fun _ _ _ h => h) (Or.inl ⟨by rfl, by intro W _; go_simp⟩) hS8 ?_
            simp only [Act.put, List.setIfInBounds_toArray, List.set_cons_zero, List.set_cons_succ]
            refine wpAnyH_takeD (i := 32) (v := .bool false) (some 36) rfl rfl (by kernel_rfl) (by kernel_rfl) (by kernel_rfl) (fun _ _ _ h => h) (Or.inl ⟨by rfl, by intro W _; go_simp⟩) hS8 ?_
            simp only [Act.put, List.setIfInBounds_toArray, List.set_cons_zero, List.set_cons_succ]
            refine wpAnyH_takeD (i := 33) (v := .pointer (some ⟨qv1, 2, none⟩)) (some 37) rfl rfl (by kernel_rfl) (by kernel_rfl) (by kernel_rfl) (fun _ _ _ h => h) (Or.inl ⟨by rfl, by intro W _; go_simp⟩) hS8 ?_
            simp only [Act.put, List.setIfInBounds_toArray, List.set_cons_zero, List.set_cons_succ]
            refine wpAnyH_takeD (i := 34) (v := .slice o2 n2 c2) (some 38) rfl rfl (by kernel_rfl) (by kernel_rfl) (by kernel_rfl) (fun _ _ _ h => h) (Or.inl ⟨by rfl, by intro W hW; have hhv1 := hW; have y2 := (cell_of hhv1 2).trans rfl; go_simp⟩) hS8 ?_
            simp only [Act.put, List.setIfInBounds_toArray, List.set_cons_zero, List.set_cons_succ]
            refine wpAnyH_takeD (i := 35) (v := .int .i64 (n2 : Int)) (some 39) rfl rfl (by kernel_rfl) (by kernel_rfl) (by kernel_rfl) (fun _ _ _ h => h) (Or.inl ⟨by rfl, by intro W _; go_simp⟩) hS8 ?_
            simp only [Act.put, List.setIfInBounds_toArray, List.set_cons_zero, List.set_cons_succ]
            refine wpAnyH_takeD (i := 36) (v := .pointer (some ⟨qv1, 1, none⟩)) (some 40) rfl rfl (by kernel_rfl) (by kernel_rfl) (by kernel_rfl) (fun _ _ _ h => h) (Or.inl ⟨by rfl, by intro W _; go_simp⟩) hS8 ?_
            simp only [Act.put, List.setIfInBounds_toArray, List.set_cons_zero, List.set_cons_succ]
            refine wpAnyH_takeD (i := 37) (v := .slice o1 n1 c1) (some 41) rfl rfl (by kernel_rfl) (by kernel_rfl) (by kernel_rfl) (fun _ _ _ h => h) (Or.inl ⟨by rfl, by intro W hW; have hhv1 := hW; have y1 := (cell_of hhv1 1).trans rfl; go_simp⟩) hS8 ?_
            simp only [Act.put, List.setIfInBounds_toArray, List.set_cons_zero, List.set_cons_succ]
            refine wpAnyH_takeD (i := 38) (v := .int .i64 (n1 : Int)) (some 42) rfl rfl (by kernel_rfl) (by kernel_rfl) (by kernel_rfl) (fun _ _ _ h => h) (Or.inl ⟨by rfl, by intro W _; go_simp⟩) hS8 ?_
            simp only [Act.put, List.setIfInBounds_toArray, List.set_cons_zero, List.set_cons_succ]
            by_cases hc1 : (n2 : Int) = (n1 : Int)
            · have hc1b : (((n2 : Int) : Int) == ((n1 : Int) : Int)) = true := by simpa using hc1
              have hc1n : (((n2 : Int) : Int) != ((n1 : Int) : Int)) = false := by simpa using hc1
              have hc1H : Hid ((n2 : Int) = (n1 : Int)) := hc1
              clear hc1
              refine wpAnyH_takeD (i := 39) (v := .bool false) (some 43) rfl rfl (by kernel_rfl) (by kernel_rfl) (by kernel_rfl) (fun _ _ _ h => h) (Or.inl ⟨by rfl, by intro W _; go_simp⟩) hS8 ?_
              simp only [Act.put, List.setIfInBounds_toArray, List.set_cons_zero, List.set_cons_succ]
              refine wpAnyH_takeD (i := 40) (v := .bool false) (some 44) rfl rfl (by kernel_rfl) (by kernel_rfl) (by kernel_rfl) (fun _ _ _ h => h) (Or.inl ⟨by rfl, by intro W _; go_simp⟩) hS8 ?_
              simp only [Act.put, List.setIfInBounds_toArray, List.set_cons_zero, List.set_cons_succ]
              clear hS8
              refine wpAnyH_done (by kernel_rfl) ?_ _
              clear hc1b hc1n
              have HEQ := hc1H
              clear hc1H
              have HQ : Hid ((∀ y ∈ ys, ValOk y) ↔ ObjP p xs ys st fs b t) := ⟨fun h => ⟨HR.out, HP.out, HT.out, HNM.out, HE.out.trans HVL.out.symm, by have h1 := HL1.out; have h2 := HL2.out; have h3 := HEQ.out; omega, h⟩, fun h => h.2.2.2.2.2.2⟩
              go_wp2_with fail
              go_loopw [3] (fun i wr => ∃ j : Nat, j ≤ n2 ∧ i = .int .i64 (j : Int) ∧ Hid (Below w.heap.size w wr ∧ (wr).heap[qv1]? = some (.cells #[.string p, .slice o1 n1 c1, .slice o2 n2 c2, .int .i64 st, .slice o3 n3 c3, .string b, .int .i64 t] 31)) ∧ Hid (∀ x ∈ ys.take j, ValOk x)) (fun i _ => n2 - (intOf i).toNat)
              case atStart => exact ⟨0, Nat.zero_le _, rfl, ⟨hb8, HBv1_8.out⟩, fun x hx => by simp at hx⟩
              case round =>
                obtain ⟨j, hj, rfl, HW, HN⟩ := hrel
                have cc2 : wr.cell? ⟨qv1, 2, none⟩ = some (.slice o2 n2 c2) := (cell_of HW.out.2 2).trans rfl
                by_cases hlt : (j : Int) < (n2 : Int)
                · have hjx : j < ys.length := by rw [HL2.out]; omega
                  obtain ⟨g, hog, hg, hc⟩ := (HV2.out wr HW.out.1).2 j (by omega)
                  subst hog
                  have hs := HS2.out j (by omega)
                  obtain ⟨x, hxx⟩ : ∃ x, x = textAt ys j := ⟨_, rfl⟩
                  rw [← hxx] at hc hs
                  have HM : Hid (x ∈ ys) := by show _ ∈ _; rw [hxx]; exact textAt_mem ys j hjx
                  have HTK : Hid (ys.take (j + 1) = ys.take j ++ [x]) := by show _ = _; rw [take_textAt ys j hjx, hxx]
                  clear hxx hjx
                  go_wp2_with fail
                  refine (specValueOk_any x _ hs).mono ?_
                  rintro e w90 ⟨tx, rfl, htx, bw⟩
                  have HW2 : Hid (Below w.heap.size w w90 ∧ (w90).heap[qv1]? = some (.cells #[.string p, .slice o1 n1 c1, .slice (some ⟨g, 0, none⟩) n2 c2, .int .i64 st, .slice o3 n3 c3, .string b, .int .i64 t] 31)) := ⟨HW.out.1.trans (bw.mono HW.out.1.size), blk_below HW.out.2 bw⟩
                  clear bw cc2 hc HW
                  cases tx with
                  | false =>
                    have HF : Hid (¬ ObjP p xs ys st fs b t) := fun h => nomatch htx.2 (HQ.out.2 h x HM.out)
                    clear htx HN
                    go_wp2_with fail
                    go_ret
                    exact BoolIs.no HF.out HW2.out.1
                  | true =>
                    have HN2 : Hid (∀ y ∈ ys.take (j + 1), ValOk y) := by
                      intro y hy
                      rw [HTK.out] at hy
                      rcases List.mem_append.1 hy with hy | hy
                      · exact HN.out y hy
                      · rw [List.mem_singleton.1 hy]; exact htx.1 rfl
                    clear htx HN
                    go_wp2_with fail
                    go_roundw
                    case rel => exact ⟨j + 1, by omega, by go_num, HW2, HN2⟩
                    case measure => simp [intOf]; omega
                · have HA : Hid (ObjP p xs ys st fs b t) := HQ.out.1 (by
                    have h := HN.out
                    rw [List.take_of_length_le (by rw [HL2.out]; omega)] at h
                    exact h)
                  clear HN
                  go_wp2_with fail
                  go_ret
                  exact ⟨true, rfl, ⟨fun _ => HA.out, fun _ => rfl⟩, HW.out.1⟩
            · have hc1b : (((n2 : Int) : Int) == ((n1 : Int) : Int)) = false := by simpa using hc1
              have hc1n : (((n2 : Int) : Int) != ((n1 : Int) : Int)) = true := by simpa using hc1
              have HF : Hid (¬ ObjP p xs ys st fs b t) := fun h => by have h1 := h.2.2.2.2.2.1; have h2 := HL1.out; have h3 := HL2.out; omega
              have hc1H : Hid (¬ ((n2 : Int) = (n1 : Int))) := hc1
              clear hc1
              refine wpAnyH_takeD (i := 39) (v := .bool true) (some 43) rfl rfl (by kernel_rfl) (by kernel_rfl) (by kernel_rfl) (fun _ _ _ h => h) (Or.inl ⟨by rfl, by intro W _; go_simp⟩) hS8 ?_
              simp only [Act.put, List.setIfInBounds_toArray, List.set_cons_zero, List.set_cons_succ]
              refine wpAnyH_takeD (i := 40) (v := .bool true) (some 44) rfl rfl (by kernel_rfl) (by kernel_rfl) (by kernel_rfl) (fun _ _ _ h => h) (Or.inl ⟨by rfl, by intro W _; go_simp⟩) hS8 ?_
              simp only [Act.put, List.setIfInBounds_toArray, List.set_cons_zero, List.set_cons_succ]
              clear hS8
              refine wpAnyH_done (by kernel_rfl) ?_ _
              go_wp2_with fail
              go_ret
              exact BoolIs.no HF.out hb8

end Go.Proofs.YtlmenolcgaakeaaGreat

namespace Go.Proofs.YtlmenolcgaakeaaGreat
open Go.RowKit
open Go.Lib hiding intOf

/-- A call answers an answer with these fields, in memory of its own. -/
def RespRow (st : Int) (fs : List (ByteArray × ByteArray)) (b : ByteArray) (w : World) (e : Ending) (w' : World) : Prop :=
  ∃ v, e = .returned (.agg #[.int .i64 st, v, .string b]) ∧ w'.ownsRow w.heap.size 75 2 v fs.length (flatF fs) ∧ Below w.heap.size w w'
theorem three_other (W : World) (r j : Nat) (a b c : Value) (h : j ≠ r) : (threeSet W r a b c).heap[j]? = W.heap[j]? := by
  unfold threeSet
  rw [heap_setCell_other _ _ j _ h, heap_setCell_other _ _ j _ h, heap_setCell_other _ _ j _ h]

set_option maxHeartbeats 1000000 in
set_option maxRecDepth 100000 in
theorem l9Resp_any (st : Int) (v : Value) (b : ByteArray) (n base : Nat) (fs : List (ByteArray × ByteArray)) (w : World) (hv : FieldsV w base v n fs) (hn : n ≤ 2000000) :
    Calls Tryz.prog 76 #[.agg #[.int .i64 st, v, .string b]] w fun e w' => RespRow st fs b w e w' := by
  obtain ⟨oa, cap, rfl, _⟩ := hv.slice
  obtain ⟨r, hr⟩ : ∃ r, r = w.heap.size := ⟨_, rfl⟩
  have HR : Hid (w.heap.size = r) := hr.symm
  obtain ⟨W1, hW1⟩ : ∃ W, W = (w.alloc (.cells #[.int .i64 st, .slice oa n cap, .string b] 29)).alloc (.cells #[.int .i64 0, .slice none 0 0, .string ⟨#[]⟩] 29) := ⟨_, rfl⟩
  have HW1 : Hid ((w.alloc (.cells #[.int .i64 st, .slice oa n cap, .string b] 29)).alloc (.cells #[.int .i64 0, .slice none 0 0, .string ⟨#[]⟩] 29) = W1) := hW1.symm
  have b1 : Below r w W1 := by rw [hW1, hr]; exact ((Below.refl _ w).alloc (Nat.le_refl _) _).alloc (by simp) _
  have hv1 := hv.below (by rw [hr] at b1; exact b1)
  have s1 : (w.alloc (.cells #[.int .i64 st, .slice oa n cap, .string b] 29)).heap.size = r + 1 := by rw [hr]; simp
  have s2 : W1.heap.size = r + 1 + 1 := by rw [hW1, hr]; simp
  have H0 : Hid (W1.heap[r]? = some (.cells #[.int .i64 st, .slice oa n cap, .string b] 29) ∧ W1.heap[r + 1]? = some (.cells #[.int .i64 0, .slice none 0 0, .string ⟨#[]⟩] 29) ∧ Below r w W1) := by
    have e0 := heap_alloc_new w (.cells #[.int .i64 st, .slice oa n cap, .string b] 29)
    have e1 := heap_alloc_new (w.alloc (.cells #[.int .i64 st, .slice oa n cap, .string b] 29)) (.cells #[.int .i64 0, .slice none 0 0, .string ⟨#[]⟩] 29)
    rw [← hr] at e0
    rw [s1, ← hW1] at e1
    have c1 : Below (r + 1) (w.alloc (.cells #[.int .i64 st, .slice oa n cap, .string b] 29)) W1 := by rw [hW1, ← s1]; exact (Below.refl _ _).alloc (Nat.le_refl _) _
    exact ⟨by rw [c1.block r (by omega)]; exact e0, e1, b1⟩
  obtain ⟨⟨_, c1, _⟩, _⟩ := three_facts H0.out.1
  have HS2 : Hid (W1.heap.size = r + 1 + 1) := s2
  have HL : Hid (fs.length = n) := hv.len
  clear hW1 hv b1 s1 s2
  go_enter Tryz.func76, Tryz.ntmps76
  go_upto_region 1 with fail
  rw [HW1.out, ← hr]
  clear hr HW1
  go_wp2_with fail
  refine (l9Copy_any _ n base fs _ hv1 hn).mono ?_
  rintro e w2 ⟨z, rfl, own, b2⟩
  obtain ⟨oz, cz, rfl⟩ := slice_of_owns own
  rw [HL.out] at own ⊢
  have hs2 := HS2.out
  rw [hs2] at own b2
  have H2 : Hid (w2.heap[r]? = some (.cells #[.int .i64 st, .slice oa n cap, .string b] 29) ∧ w2.heap[r + 1]? = some (.cells #[.int .i64 0, .slice none 0 0, .string ⟨#[]⟩] 29) ∧ Below r w w2) :=
    ⟨by rw [b2.block r (by omega)]; exact H0.out.1, by rw [b2.block (r + 1) (by omega)]; exact H0.out.2.1, H0.out.2.2.trans (b2.mono (by omega))⟩
  have HO2 : Hid (w2.ownsRow (r + 1 + 1) 75 2 (.slice oz n cz) n (flatF fs)) := own
  obtain ⟨⟨_, d1, _⟩, _, y1, _⟩ := three_facts H2.out.1
  clear own b2 hs2 c1 hv1 H0 HS2
  have H3 : Hid ((w2.setCell ⟨r, 1, none⟩ (.slice oz n cz)).heap[r]? = some (.cells #[.int .i64 st, .slice oz n cz, .string b] 29) ∧ (w2.setCell ⟨r, 1, none⟩ (.slice oz n cz)).heap[r + 1]? = some (.cells #[.int .i64 0, .slice none 0 0, .string ⟨#[]⟩] 29)) := by
    refine ⟨?_, by rw [heap_setCell_other _ _ (r + 1) _ (by show r + 1 ≠ r; omega)]; exact H2.out.2.1⟩
    have := heap_set w2 r 1 _ _ _ (.slice oz n cz) H2.out.1
    simpa using this
  obtain ⟨⟨f0, f1, f2⟩, _⟩ := three_facts H3.out.1
  obtain ⟨⟨g0, g1, g2⟩, x0, x1, x2⟩ := three_facts H3.out.2
  have hset := three_set H3.out.2 (.int .i64 st) (.slice oz n cz) (.string b)
  obtain ⟨⟨k0, k1, k2⟩, _⟩ := three_facts hset
  have HFB : Hid (Below r w (threeSet (w2.setCell ⟨r, 1, none⟩ (.slice oz n cz)) (r + 1) (.int .i64 st) (.slice oz n cz) (.string b))) := below_three (H2.out.2.2.setCell (Nat.le_refl _) _) (by omega)
  have HFO : Hid ((threeSet (w2.setCell ⟨r, 1, none⟩ (.slice oz n cz)) (r + 1) (.int .i64 st) (.slice oz n cz) (.string b)).ownsRow r 75 2 (.slice oz n cz) fs.length (flatF fs)) := by
    show World.ownsRow _ _ _ _ _ _ _
    rw [HL.out]
    refine owns_same (owns_wide HO2.out (by omega)) (fun j hj => ?_)
    have hj2 := owns_ge HO2.out hj
    rw [three_other _ _ j _ _ _ (by omega), heap_setCell_other _ _ j _ (by show j ≠ r; omega)]
  unfold threeSet at k0 k1 k2 HFB HFO
  clear hset H2 H3 HO2
  go_wp2_with fail
  refine bodyPost_ret (v := .agg #[.int .i64 st, .slice oz n cz, .string b]) (by simp [results, Tryz.results76, go_sem, k0, k1, k2]) rfl ?_
  exact ⟨_, rfl, by rw [HR.out]; exact HFO.out, by rw [HR.out]; exact HFB.out⟩

end Go.Proofs.YtlmenolcgaakeaaGreat
