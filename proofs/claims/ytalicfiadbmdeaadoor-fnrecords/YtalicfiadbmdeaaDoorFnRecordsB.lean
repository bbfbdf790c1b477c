/- What the proof of FnRecords leans on: contracts of the program's and the specification's functions, and plain facts (part 2 of 2). -/
import Derived.Test.YtalicfiadbmdeaaDoorFnRecordsA
namespace Go.Proofs.YtalicfiadbmdeaaDoor
open Go.RowKit
open Go.Lib hiding intOf

/-- A call says whether a text is that of a record: nothing where it is, an error of its own where it is not. -/
def HeldIs (s : ByteArray) (q : Int) (b : ByteArray) (w : World) (e : Ending) (w' : World) : Prop :=
  ∃ ev : Value, e = .returned ev ∧ Below w.heap.size w w' ∧ ((IsRec s q b ∧ ev = .nilIface) ∨ (¬ IsRec s q b ∧ ∃ n : Int, ev = .iface 51 (.agg #[.int .i64 n])))

set_option maxHeartbeats 8000000 in
set_option maxRecDepth 100000 in
theorem held_any (q : Int) (b s : ByteArray) (w : World) (hs : s.size ≤ 3000000) (hT : TabOk w) :
    Calls Tryd.prog 39 #[.agg #[.int .i64 q, .string b], .string s] w fun e w' => HeldIs s q b w e w' := by
  have HZS : Hid (s.size ≤ 3000000) := hs
  have HTB : Hid (∀ W, Below w.heap.size w W → TabOk W) := fun W h => hT.below h
  obtain ⟨tt, htt⟩ : ∃ x, x = recI q b := ⟨_, rfl⟩
  have HTT : Hid (recI q b = tt) := htt.symm
  have HZT : Hid (tt.size ≤ 4000000) := by show _ ≤ _; rw [htt]; have := recI_size q b; omega
  clear hs hT htt
  have hb0 : Below w.heap.size w w := Below.refl _ _
  go_enter Tryd.func39, Tryd.ntmps39
  go_upto_region 1 with fail
  obtain ⟨qv1, hqv1⟩ : ∃ q, q = (w).heap.size := ⟨_, rfl⟩
  obtain ⟨w1, hW1⟩ : ∃ W, W = (w).alloc (.cells #[.int .i64 q, .string b] 42) := ⟨_, rfl⟩
  have hz1 : (w).heap.size = qv1 := hqv1.symm
  first | rw [← hW1, ← hqv1] | rw [← hW1]
  have hs1 : w1.heap.size = qv1 + 1 := by rw [hW1, ← hz1]; simp
  have bw : Below (w).heap.size (w) w1 := by rw [hW1]; exact (Below.refl _ _).alloc (Nat.le_refl _) _
  have hb1 : Below w.heap.size w (w1) := hb0.trans (bw.mono hb0.size)
  have HBv1_1 : Hid ((w1).heap[qv1]? = some (.cells #[.int .i64 q, .string b] 42)) := by show _ = _; rw [hW1, ← hz1]; exact heap_alloc_new _ _
  clear hb0 bw hW1 hz1
  clear hs1 hqv1
  have cv1_0 : (w1).cell? ⟨qv1, 0, none⟩ = some (.int .i64 q) := (cell_of HBv1_1.out 0).trans rfl
  have cv1_1 : (w1).cell? ⟨qv1, 1, none⟩ = some (.string b) := (cell_of HBv1_1.out 1).trans rfl
  go_wp2_with fail
  refine (textRec_any q b _ (HTB.out _ hb1)).mono ?_
  rintro e w2 ⟨rfl, bw⟩
  rw [HTT.out]
  have hb2 : Below w.heap.size w (w2) := hb1.trans (bw.mono hb1.size)
  have HBv1_2 : Hid ((w2).heap[qv1]? = some (.cells #[.int .i64 q, .string b] 42)) := blk_below HBv1_1.out bw
  clear hb1 HBv1_1 bw
  clear cv1_0 cv1_1
  by_cases hc1 : tt = ⟨#[]⟩
  · have hc1b : (tt).toList.isEmpty = true := isEmpty_yes (by rw [hc1]; rfl)
    have HE : Hid (tt = ⟨#[]⟩) := hc1
    clear hc1
    go_wp2_with fail
    refine (parting_any tt s _ HZT.out (by have := HZS.out; omega)).mono ?_
    rintro e w3 ⟨pn, rfl, bw⟩
    have hb3 : Below w.heap.size w (w3) := hb2.trans (bw.mono hb2.size)
    have HM3 : Hid ((w2).heap.size ≤ (w3).heap.size) := bw.size
    have HBv1_3 : Hid ((w3).heap[qv1]? = some (.cells #[.int .i64 q, .string b] 42)) := blk_below HBv1_2.out bw
    clear hb2 HBv1_2 bw
    go_wp2_with fail
    go_ret
    exact ⟨_, rfl, hb3, .inr ⟨fun h => (rec_iff.2 h).1 ((rec_iff.2 h).2.symm.trans (HTT.out.trans HE.out)), _, rfl⟩⟩
  · have hc1b : (tt).toList.isEmpty = false := isEmpty_no (Nat.pos_of_ne_zero (fun e => hc1 (empty_text e)))
    have HE : Hid (¬ tt = ⟨#[]⟩) := hc1
    clear hc1
    by_cases hc2 : tt = s
    · have hc2b : ((tt).toList == (s).toList) = true := (text_beq _ _).2 hc2
      have HU : Hid (tt = s) := hc2
      clear hc2
      go_wp2_with fail
      go_ret
      exact ⟨_, rfl, hb2, .inl ⟨rec_iff.1 ⟨fun e => HE.out (HU.out.trans e), HTT.out.trans HU.out⟩, rfl⟩⟩
    · have hc2b : ((tt).toList == (s).toList) = false := text_beq_no hc2
      have HU : Hid (¬ tt = s) := hc2
      clear hc2
      go_wp2_with fail
      refine (parting_any tt s _ HZT.out (by have := HZS.out; omega)).mono ?_
      rintro e w3 ⟨pn, rfl, bw⟩
      have hb3 : Below w.heap.size w (w3) := hb2.trans (bw.mono hb2.size)
      have HM3 : Hid ((w2).heap.size ≤ (w3).heap.size) := bw.size
      have HBv1_3 : Hid ((w3).heap[qv1]? = some (.cells #[.int .i64 q, .string b] 42)) := blk_below HBv1_2.out bw
      clear hb2 HBv1_2 bw
      go_wp2_with fail
      go_ret
      exact ⟨_, rfl, hb3, .inr ⟨fun h => HU.out (HTT.out.symm.trans (rec_iff.2 h).2), _, rfl⟩⟩

theorem rec_steps {s : ByteArray} {q : Int} {b : ByteArray} (h : IsRec s q b) {l1 x2 l2 l3 : ByteArray} (h1 : l1 = cutB s ⟨#[32]⟩) (h2 : x2 = cutA l1 ⟨#[32]⟩) (h3 : l2 = cutB l1 ⟨#[32]⟩) (h4 : l3 = cutB l2 ⟨#[10]⟩) : x2 = numText q.toNat ∧ l3 = b := by
  have hq := h.1.2.1
  have e0 : bs s = Lib.decDigits (sumP (recR q.toNat b)) ++ ((32 :: []) ++ (Lib.decDigits q.toNat ++ ((32 :: []) ++ (Lib.decDigits b.size ++ ((10 :: []) ++ bs b))))) := by
    rw [← h.2, bs_recT, bs_recR]
    simp
  obtain ⟨_, e1⟩ := cut_of (sep := ⟨#[32]⟩) e0 rfl (fun x hx => (dec_no _ x hx).1)
  rw [← h1] at e1
  obtain ⟨e2, e3⟩ := cut_of (sep := ⟨#[32]⟩) e1 rfl (fun x hx => (dec_no _ x hx).1)
  rw [← h2] at e2
  rw [← h3] at e3
  obtain ⟨_, e4⟩ := cut_of (sep := ⟨#[10]⟩) e3 rfl (fun x hx => (dec_no _ x hx).2)
  rw [← h4] at e4
  exact ⟨by rw [← dec_num _ (by omega)]; exact bs_inj (by rw [e2, bs_decT]), bs_inj e4⟩
/-- What is read of a text, and whether it is that of a record. -/
def GotRec (s : ByteArray) (w : World) (e : Ending) (w' : World) : Prop :=
  ∃ (q : Int) (b : ByteArray) (ev : Value), e = .returned (.tuple #[.agg #[.int .i64 q, .string b], ev]) ∧ b.size ≤ 3000000 ∧ Below w.heap.size w w' ∧ ((IsRec s q b ∧ ev = .nilIface) ∨ ((∀ q' b', ¬ IsRec s q' b') ∧ ∃ n : Int, ev = .iface 51 (.agg #[.int .i64 n])))

set_option maxHeartbeats 8000000 in
set_option maxRecDepth 100000 in
theorem readRecord_any (s : ByteArray) (w : World) (hs : s.size ≤ 3000000) (hT : TabOk w) (hLN : LenOk w) :
    Calls Tryd.prog 25 #[.string s] w fun e w' => GotRec s w e w' := by
  have HZs : Hid (s.size ≤ 3000000) := hs
  have HTB : Hid (∀ W, Below w.heap.size w W → TabOk W) := fun W h => hT.below h
  have HLB : Hid (∀ W, Below w.heap.size w W → LenOk W) := fun W h => hLN.below h hLN.lt
  clear hs hT hLN
  have hb0 : Below w.heap.size w w := Below.refl _ _
  go_enter Tryd.func25, Tryd.ntmps25
  go_upto_region 1 with fail
  obtain ⟨qv1, hqv1⟩ : ∃ q, q = (w).heap.size := ⟨_, rfl⟩
  obtain ⟨w1, hW1⟩ : ∃ W, W = (w).alloc (.cells #[.int .i64 0, .string ⟨#[]⟩] 42) := ⟨_, rfl⟩
  have hz1 : (w).heap.size = qv1 := hqv1.symm
  first | rw [← hW1, ← hqv1] | rw [← hW1]
  have hs1 : w1.heap.size = qv1 + 1 := by rw [hW1, ← hz1]; simp
  have bw : Below (w).heap.size (w) w1 := by rw [hW1]; exact (Below.refl _ _).alloc (Nat.le_refl _) _
  have hb1 : Below w.heap.size w (w1) := hb0.trans (bw.mono hb0.size)
  have HBv1_1 : Hid ((w1).heap[qv1]? = some (.cells #[.int .i64 0, .string ⟨#[]⟩] 42)) := by show _ = _; rw [hW1, ← hz1]; exact heap_alloc_new _ _
  have HGv1 : Hid (w.heap.size ≤ qv1) := by show _ ≤ _; rw [← hz1]; exact hb0.size
  clear hb0 bw hW1 hz1
  clear hs1 hqv1
  go_upto_region 2 with fail
  obtain ⟨qv2, hqv2⟩ : ∃ q, q = (w1).heap.size := ⟨_, rfl⟩
  obtain ⟨w2, hW2⟩ : ∃ W, W = (w1).alloc (.cells #[.string s] 68) := ⟨_, rfl⟩
  have hz2 : (w1).heap.size = qv2 := hqv2.symm
  first | rw [← hW2, ← hqv2] | rw [← hW2]
  have hs2 : w2.heap.size = qv2 + 1 := by rw [hW2, ← hz2]; simp
  have bw : Below (w1).heap.size (w1) w2 := by rw [hW2]; exact (Below.refl _ _).alloc (Nat.le_refl _) _
  have hb2 : Below w.heap.size w (w2) := hb1.trans (bw.mono hb1.size)
  have HBv1_2 : Hid ((w2).heap[qv1]? = some (.cells #[.int .i64 0, .string ⟨#[]⟩] 42)) := blk_below HBv1_1.out bw
  have HNv1v2 : Hid (qv1 ≠ qv2) := fun e => by have h1 := (Array.getElem?_eq_some_iff.1 HBv1_1.out).1; omega
  have HBv2_2 : Hid ((w2).heap[qv2]? = some (.cells #[.string s] 68)) := by show _ = _; rw [hW2, ← hz2]; exact heap_alloc_new _ _
  have HGv2 : Hid (w.heap.size ≤ qv2) := by show _ ≤ _; rw [← hz2]; exact hb1.size
  clear hb1 HBv1_1 bw hW2 hz2
  clear hs2 hqv2
  go_wp2_with fail
  refine (upTo_any _ s ⟨#[32]⟩ _ HBv2_2.out (by have := HZs.out; omega) (HLB.out _ hb2)).mono ?_
  rintro e w3 ⟨rfl, hrd, hg⟩
  obtain ⟨l1, hl1⟩ : ∃ x, x = cutB s ⟨#[32]⟩ := ⟨_, rfl⟩
  obtain ⟨x1, hx1⟩ : ∃ x, x = cutA s ⟨#[32]⟩ := ⟨_, rfl⟩
  rw [← hl1] at hrd
  try rw [← hx1]
  have HL1 : Hid (l1 = cutB s ⟨#[32]⟩) := hl1
  have HX1 : Hid (x1 = cutA s ⟨#[32]⟩) := hx1
  have HZl1 : Hid (l1.size ≤ 3000000) := by show _ ≤ _; rw [hl1]; exact Nat.le_trans (cutB_size _ _) HZs.out
  have HZx1 : Hid (x1.size ≤ 3000000) := by show _ ≤ _; rw [hx1]; exact Nat.le_trans (cutA_size _ _) HZs.out
  clear hl1 hx1
  have hb3 : Below w.heap.size w (w3) := hb2.grown hg hb2.size (by intro k hk; cases hk; exact HGv2.out)
  have HBv1_3 : Hid ((w3).heap[qv1]? = some (.cells #[.int .i64 0, .string ⟨#[]⟩] 42)) := (hg.block _ (Array.getElem?_eq_some_iff.1 HBv1_2.out).1 (fun e => HNv1v2.out (Option.some.inj e))).trans HBv1_2.out
  have HBv2_3 : Hid ((w3).heap[qv2]? = some (.cells #[.string l1] 68)) := hrd
  clear hb2 HBv1_2 HBv2_2 hg hrd
  go_wp2_with fail
  refine (upTo_any _ l1 ⟨#[32]⟩ _ HBv2_3.out (by have := HZl1.out; omega) (HLB.out _ hb3)).mono ?_
  rintro e w4 ⟨rfl, hrd, hg⟩
  obtain ⟨l2, hl2⟩ : ∃ x, x = cutB l1 ⟨#[32]⟩ := ⟨_, rfl⟩
  obtain ⟨x2, hx2⟩ : ∃ x, x = cutA l1 ⟨#[32]⟩ := ⟨_, rfl⟩
  rw [← hl2] at hrd
  try rw [← hx2]
  have HL2 : Hid (l2 = cutB l1 ⟨#[32]⟩) := hl2
  have HX2 : Hid (x2 = cutA l1 ⟨#[32]⟩) := hx2
  have HZl2 : Hid (l2.size ≤ 3000000) := by show _ ≤ _; rw [hl2]; exact Nat.le_trans (cutB_size _ _) HZl1.out
  have HZx2 : Hid (x2.size ≤ 3000000) := by show _ ≤ _; rw [hx2]; exact Nat.le_trans (cutA_size _ _) HZl1.out
  clear hl2 hx2
  have hb4 : Below w.heap.size w (w4) := hb3.grown hg hb3.size (by intro k hk; cases hk; exact HGv2.out)
  have HBv1_4 : Hid ((w4).heap[qv1]? = some (.cells #[.int .i64 0, .string ⟨#[]⟩] 42)) := (hg.block _ (Array.getElem?_eq_some_iff.1 HBv1_3.out).1 (fun e => HNv1v2.out (Option.some.inj e))).trans HBv1_3.out
  have HBv2_4 : Hid ((w4).heap[qv2]? = some (.cells #[.string l2] 68)) := hrd
  clear hb3 HBv1_3 HBv2_3 hg hrd
  go_wp2_with fail
  refine (implNumRead_any x2 _ (by have := HZx2.out; unfold maxLen; omega)).mono ?_
  rintro e w5 ⟨bo, tt, rfl, hn1, hn2, hn3, bw⟩
  have HTV : Hid (NumOk x2 → tt = valL x2.data.toList) := fun h => hn2 (hn1.2 h)
  clear hn1 hn2 hn3
  have hb5 : Below w.heap.size w (w5) := hb4.trans (bw.mono hb4.size)
  have HBv1_5 : Hid ((w5).heap[qv1]? = some (.cells #[.int .i64 0, .string ⟨#[]⟩] 42)) := blk_below HBv1_4.out bw
  have HBv2_5 : Hid ((w5).heap[qv2]? = some (.cells #[.string l2] 68)) := blk_below HBv2_4.out bw
  clear hb4 HBv1_4 HBv2_4 bw
  go_wp2_with fail
  refine (upTo_any _ l2 ⟨#[10]⟩ _ HBv2_5.out (by have := HZl2.out; omega) (HLB.out _ hb5)).mono ?_
  rintro e w6 ⟨rfl, hrd, hg⟩
  obtain ⟨l3, hl3⟩ : ∃ x, x = cutB l2 ⟨#[10]⟩ := ⟨_, rfl⟩
  obtain ⟨x3, hx3⟩ : ∃ x, x = cutA l2 ⟨#[10]⟩ := ⟨_, rfl⟩
  rw [← hl3] at hrd
  try rw [← hx3]
  have HL3 : Hid (l3 = cutB l2 ⟨#[10]⟩) := hl3
  have HX3 : Hid (x3 = cutA l2 ⟨#[10]⟩) := hx3
  have HZl3 : Hid (l3.size ≤ 3000000) := by show _ ≤ _; rw [hl3]; exact Nat.le_trans (cutB_size _ _) HZl2.out
  have HZx3 : Hid (x3.size ≤ 3000000) := by show _ ≤ _; rw [hx3]; exact Nat.le_trans (cutA_size _ _) HZl2.out
  clear hl3 hx3
  have hb6 : Below w.heap.size w (w6) := hb5.grown hg hb5.size (by intro k hk; cases hk; exact HGv2.out)
  have HBv1_6 : Hid ((w6).heap[qv1]? = some (.cells #[.int .i64 0, .string ⟨#[]⟩] 42)) := (hg.block _ (Array.getElem?_eq_some_iff.1 HBv1_5.out).1 (fun e => HNv1v2.out (Option.some.inj e))).trans HBv1_5.out
  have HBv2_6 : Hid ((w6).heap[qv2]? = some (.cells #[.string l3] 68)) := hrd
  clear hb5 HBv1_5 HBv2_5 hg hrd
  have cv2_0 : (w6).cell? ⟨qv2, 0, none⟩ = some (.string l3) := (cell_of HBv2_6.out 0).trans rfl
  have Acv2_0 : ∀ o, ((w6).alloc o).cell? ⟨qv2, 0, none⟩ = some (.string l3) := fun o => (cell_of (blk_below HBv2_6.out ((Below.refl _ _).alloc (Nat.le_refl _) o)) 0).trans rfl
  have Afcv2_0 : ∀ o, ((w6).alloc o).frozen? ⟨qv2, 0, none⟩ = false := fun o => frozen_of (blk_below HBv2_6.out ((Below.refl _ _).alloc (Nat.le_refl _) o)) 0
  go_upto_region 6 with fail
  obtain ⟨qv3, hqv3⟩ : ∃ q, q = (w6).heap.size := ⟨_, rfl⟩
  obtain ⟨w7, hW7⟩ : ∃ W, W = (w6).alloc (.cells #[.int .i64 tt, .string l3] 42) := ⟨_, rfl⟩
  have hz7 : (w6).heap.size = qv3 := hqv3.symm
  first | rw [← hW7, ← hqv3] | rw [← hW7]
  have hs7 : w7.heap.size = qv3 + 1 := by rw [hW7, ← hz7]; simp
  have bw : Below (w6).heap.size (w6) w7 := by rw [hW7]; exact (Below.refl _ _).alloc (Nat.le_refl _) _
  have hb7 : Below w.heap.size w (w7) := hb6.trans (bw.mono hb6.size)
  have HBv1_7 : Hid ((w7).heap[qv1]? = some (.cells #[.int .i64 0, .string ⟨#[]⟩] 42)) := blk_below HBv1_6.out bw
  have HBv2_7 : Hid ((w7).heap[qv2]? = some (.cells #[.string l3] 68)) := blk_below HBv2_6.out bw
  have HNv1v3 : Hid (qv1 ≠ qv3) := fun e => by have h1 := (Array.getElem?_eq_some_iff.1 HBv1_6.out).1; omega
  have HBv3_7 : Hid ((w7).heap[qv3]? = some (.cells #[.int .i64 tt, .string l3] 42)) := by show _ = _; rw [hW7, ← hz7]; exact heap_alloc_new _ _
  clear hb6 HBv1_6 HBv2_6 bw hW7 hz7
  clear hs7 hqv3
  clear cv2_0 Acv2_0 Afcv2_0
  go_upto_region 6 with fail
  refine wp_region_held_drew (S := fun W => W.heap[qv3]? = some (.cells #[.int .i64 tt, .string l3] 42)) (by kernel_rfl) HBv3_7.out (fun _ => ?_)
  obtain ⟨w8, hX⟩ : ∃ X, X = w7.drew := ⟨_, rfl⟩
  have bw : Below w7.heap.size w7 w8 := by rw [hX]; exact (Below.refl _ _).drew
  rw [← hX]
  have hb8 : Below w.heap.size w (w8) := hb7.trans (bw.mono hb7.size)
  have HBv1_8 : Hid ((w8).heap[qv1]? = some (.cells #[.int .i64 0, .string ⟨#[]⟩] 42)) := blk_below HBv1_7.out bw
  have HBv2_8 : Hid ((w8).heap[qv2]? = some (.cells #[.string l3] 68)) := blk_below HBv2_7.out bw
  have HBv3_8 : Hid ((w8).heap[qv3]? = some (.cells #[.int .i64 tt, .string l3] 42)) := blk_below HBv3_7.out bw
  have hS8 : w8.heap[qv3]? = some (.cells #[.int .i64 tt, .string l3] 42) := HBv3_8.out
  clear hb7 HBv1_7 HBv2_7 HBv3_7 bw hX
  refine wpAnyH_takeD (i := 0) (v := .agg #[.int .i64 tt, .string l3]) (some 21) rfl rfl (by kernel_rfl) (by kernel_rfl) (by kernel_rfl) (fun _ _ _ h => h) (Or.inl ⟨by rfl, by intro W hW; have hhv3 := hW; have y0 := (cell_of hhv3 0).trans rfl; have y1 := (cell_of hhv3 1).trans rfl; go_simp⟩) hS8 ?_
  simp only [Act.put, List.setIfInBounds_toArray, List.set_cons_zero, List.set_cons_succ]
  refine wpAnyH_takeD (i := 1) (v := .agg #[.int .i64 tt, .string l3]) (some 22) rfl rfl (by kernel_rfl) (by kernel_rfl) (by kernel_rfl) (fun _ _ _ h => h) (Or.inl ⟨by rfl, by intro W hW; have hhv3 := hW; have y0 := (cell_of hhv3 0).trans rfl; have y1 := (cell_of hhv3 1).trans rfl; go_simp⟩) hS8 ?_
  simp only [Act.put, List.setIfInBounds_toArray, List.set_cons_zero, List.set_cons_succ]
  refine wpAnyH_takeD (i := 2) (v := .string s) (some 23) rfl rfl (by kernel_rfl) (by kernel_rfl) (by kernel_rfl) (fun _ _ _ h => h) (Or.inl ⟨by rfl, by intro W _; go_simp⟩) hS8 ?_
  simp only [Act.put, List.setIfInBounds_toArray, List.set_cons_zero, List.set_cons_succ]
  refine wpAnyH_ready (rs := [3]) (by kernel_rfl) (by simp) ?_
  refine AllReadyH.cons rfl (fun K hK => ?_) AllReadyH.nil
  go_simp
  refine (held_any tt l3 s _ HZs.out (HTB.out _ hb8)).mono ?_
  rintro e w9 ⟨ev, rfl, bw, hev⟩
  have HEV : Hid ((IsRec s tt l3 ∧ ev = .nilIface) ∨ (¬ IsRec s tt l3 ∧ ∃ n : Int, ev = .iface 51 (.agg #[.int .i64 n]))) := hev
  clear hev
  have hb9 : Below w.heap.size w (w9) := hb8.trans (bw.mono hb8.size)
  have HBv1_9 : Hid ((w9).heap[qv1]? = some (.cells #[.int .i64 0, .string ⟨#[]⟩] 42)) := blk_below HBv1_8.out bw
  have HBv2_9 : Hid ((w9).heap[qv2]? = some (.cells #[.string l3] 68)) := blk_below HBv2_8.out bw
  have HBv3_9 : Hid ((w9).heap[qv3]? = some (.cells #[.int .i64 tt, .string l3] 42)) := blk_below HBv3_8.out bw
  clear hb8 HBv1_8 HBv2_8 HBv3_8 bw
  have hS9 : w9.heap[qv3]? = some (.cells #[.int .i64 tt, .string l3] 42) := HBv3_9.out
  refine hK.out _ _ hS9 (fun _ => ?_)
  clear hK K hS8
  refine wpAnyH_ready (rs := [4]) (by kernel_rfl) (by simp) ?_
  refine AllReadyH.cons rfl (fun K hK => ?_) AllReadyH.nil
  have ce0 : (w9).cell? ⟨qv1, 0, none⟩ = some (.int .i64 0) := (cell_of HBv1_9.out 0).trans rfl
  have fe0 : (w9).frozen? ⟨qv1, 0, none⟩ = false := frozen_of HBv1_9.out 0
  have ce1 : (w9).cell? ⟨qv1, 1, none⟩ = some (.string ⟨#[]⟩) := (cell_of HBv1_9.out 1).trans rfl
  have fe1 : (w9).frozen? ⟨qv1, 1, none⟩ = false := frozen_of HBv1_9.out 1
  obtain ⟨w10, hY⟩ : ∃ Y, Y = ((w9.setCell ⟨qv1, 0, none⟩ (.int .i64 tt)).setCell ⟨qv1, 1, none⟩ (.string l3)) := ⟨_, rfl⟩
  have HY : Hid (((w9.setCell ⟨qv1, 0, none⟩ (.int .i64 tt)).setCell ⟨qv1, 1, none⟩ (.string l3)) = w10) := hY.symm
  have hb10 : Below w.heap.size w (w10) := by rw [hY]; exact ((hb9.setCell (p := ⟨qv1, 0, none⟩) HGv1.out _).setCell (p := ⟨qv1, 1, none⟩) HGv1.out _)
  have HBv2_10 : Hid ((w10).heap[qv2]? = some (.cells #[.string l3] 68)) := by show _ = _; rw [hY, heap_setCell_other _ _ _ _ HNv1v2.out.symm, heap_setCell_other _ _ _ _ HNv1v2.out.symm]; exact HBv2_9.out
  have HBv3_10 : Hid ((w10).heap[qv3]? = some (.cells #[.int .i64 tt, .string l3] 42)) := by show _ = _; rw [hY, heap_setCell_other _ _ _ _ HNv1v3.out.symm, heap_setCell_other _ _ _ _ HNv1v3.out.symm]; exact HBv3_9.out
  have HBv1_10 : Hid ((w10).heap[qv1]? = some (.cells #[.int .i64 tt, .string l3] 42)) := by show _ = _; rw [hY]; have h := (heap_set _ qv1 1 _ _ _ (.string l3) (heap_set _ qv1 0 _ _ _ (.int .i64 tt) HBv1_9.out)); simpa using h
  clear hY hb9 HBv1_9 HBv2_9 HBv3_9
  go_simp
  rw [HY.out]
  have hS10 : w10.heap[qv3]? = some (.cells #[.int .i64 tt, .string l3] 42) := HBv3_10.out
  refine hK.out _ _ hS10 (fun _ => ?_)
  clear hK K HY hS9 ce0 fe0 ce1 fe1
  refine wpAnyH_takeD (i := 5) (v := ev) (some 3) rfl rfl (by kernel_rfl) (by kernel_rfl) (by kernel_rfl) (fun _ _ _ h => h) (Or.inl ⟨by rfl, by intro W _; go_simp⟩) hS10 ?_
  simp only [Act.put, List.setIfInBounds_toArray, List.set_cons_zero, List.set_cons_succ]
  clear hS10
  refine wpAnyH_done (by kernel_rfl) ?_ _
  go_wp2_with fail
  have kv1_0 : (w10).cell? ⟨qv1, 0, none⟩ = some (.int .i64 tt) := (cell_of HBv1_10.out 0).trans rfl
  have kv1_1 : (w10).cell? ⟨qv1, 1, none⟩ = some (.string l3) := (cell_of HBv1_10.out 1).trans rfl
  refine bodyPost_ret (v := .tuple #[.agg #[.int .i64 tt, .string l3], ev]) (by simp [results, Tryd.results25, go_sem, kv1_0, kv1_1]) rfl ?_
  refine ⟨_, _, _, rfl, HZl3.out, hb10, ?_⟩
  rcases HEV.out with ⟨h1, h2⟩ | ⟨h1, h2⟩
  · exact .inl ⟨h1, h2⟩
  · refine .inr ⟨fun q' b' h => h1 ?_, h2⟩
    obtain ⟨g1, g2⟩ := rec_steps h HL1.out HX2.out HL2.out HL3.out
    have hq := h.1.2.1
    have hq1 := h.1.1
    have g3 := num_of_text (by omega) g1 HTV.out
    have g4 : tt = q' := by omega
    rw [g4, g2]
    exact h

theorem asHit_any (e : Int) (t : Nat) (old : Int) (w : World) (hH : HandOk w) (hb : w.heap[t]? = some (.cells #[.int .i64 old] 51)) :
    Calls Tryd.prog 26 #[.iface 51 (.agg #[.int .i64 e]), .iface 53 (.pointer (some ⟨t, 0, none⟩))] w fun ev w' => ev = .returned (.bool true) ∧ w'.heap[t]? = some (.cells #[.int .i64 e] 51) ∧ w.grownBy w' (some t) := by
  have hlt : t < w.heap.size := (Array.getElem?_eq_some_iff.1 hb).1
  refine (as_hit e ⟨t, 0, none⟩ (.int .i64 old) w hH ((cell_of hb 0).trans rfl) (frozen_of hb 0)).mono ?_
  rintro ev w' ⟨rfl, rfl⟩
  refine ⟨rfl, ?_, ?_⟩
  · refine (heap_set _ t 0 _ _ _ (.int .i64 e) (blk_alloc (blk_alloc (blk_alloc (blk_alloc hb _) _) _) _)).trans ?_
    simp
  · exact grown_then (grown_below (((((Below.refl _ _).alloc (Nat.le_refl _) _).alloc (by simp) _).alloc (by simp; omega) _).alloc (by simp; omega) _) _) (grown_set _ _ _ _)

set_option maxHeartbeats 8000000 in
set_option maxRecDepth 100000 in
theorem implRecRead_any (s : ByteArray) (w : World) (hs : s.size ≤ 3000000) (hT : TabOk w) (hLN : LenOk w) (hH : HandOk w) :
    Calls Tryd.prog 10 #[.string s] w fun e w' => RecIs s w e w' := by
  have HZs : Hid (s.size ≤ 3000000) := hs
  have HTB : Hid (∀ W, Below w.heap.size w W → TabOk W) := fun W h => hT.below h
  have HLB : Hid (∀ W, Below w.heap.size w W → LenOk W) := fun W h => hLN.below h hLN.lt
  have HHB : Hid (∀ W, Below w.heap.size w W → HandOk W) := fun W h => hH.below h
  clear hs hT hLN hH
  have hb0 : Below w.heap.size w w := Below.refl _ _
  go_enter Tryd.func10, Tryd.ntmps10
  go_wp2_with fail
  refine (readRecord_any s _ HZs.out (HTB.out _ hb0) (HLB.out _ hb0)).mono ?_
  rintro e w1 ⟨qq, bb, ev, rfl, hzb, bw, hev⟩
  have HZb : Hid (bb.size ≤ 3000000) := hzb
  have HEV : Hid ((IsRec s qq bb ∧ ev = .nilIface) ∨ ((∀ q b, ¬ IsRec s q b) ∧ ∃ n : Int, ev = .iface 51 (.agg #[.int .i64 n]))) := hev
  clear hzb hev
  have hb1 : Below w.heap.size w (w1) := hb0.trans (bw.mono hb0.size)
  clear hb0 bw
  go_upto_region 2 with fail
  obtain ⟨qv1, hqv1⟩ : ∃ q, q = (w1).heap.size := ⟨_, rfl⟩
  obtain ⟨w2, hW2⟩ : ∃ W, W = (w1).alloc (.cells #[.int .i64 qq, .string bb] 42) := ⟨_, rfl⟩
  have hz2 : (w1).heap.size = qv1 := hqv1.symm
  first | rw [← hW2, ← hqv1] | rw [← hW2]
  have hs2 : w2.heap.size = qv1 + 1 := by rw [hW2, ← hz2]; simp
  have bw : Below (w1).heap.size (w1) w2 := by rw [hW2]; exact (Below.refl _ _).alloc (Nat.le_refl _) _
  have hb2 : Below w.heap.size w (w2) := hb1.trans (bw.mono hb1.size)
  have HBv1_2 : Hid ((w2).heap[qv1]? = some (.cells #[.int .i64 qq, .string bb] 42)) := by show _ = _; rw [hW2, ← hz2]; exact heap_alloc_new _ _
  clear hb1 bw hW2 hz2
  clear hs2 hqv1
  go_upto_region 3 with fail
  obtain ⟨qv2, hqv2⟩ : ∃ q, q = (w2).heap.size := ⟨_, rfl⟩
  obtain ⟨w3, hW3⟩ : ∃ W, W = (w2).alloc (.cells #[.int .i64 0] 51) := ⟨_, rfl⟩
  have hz3 : (w2).heap.size = qv2 := hqv2.symm
  first | rw [← hW3, ← hqv2] | rw [← hW3]
  have hs3 : w3.heap.size = qv2 + 1 := by rw [hW3, ← hz3]; simp
  have bw : Below (w2).heap.size (w2) w3 := by rw [hW3]; exact (Below.refl _ _).alloc (Nat.le_refl _) _
  have hb3 : Below w.heap.size w (w3) := hb2.trans (bw.mono hb2.size)
  have HBv1_3 : Hid ((w3).heap[qv1]? = some (.cells #[.int .i64 qq, .string bb] 42)) := blk_below HBv1_2.out bw
  have HNv1v2 : Hid (qv1 ≠ qv2) := fun e => by have h1 := (Array.getElem?_eq_some_iff.1 HBv1_2.out).1; omega
  have HBv2_3 : Hid ((w3).heap[qv2]? = some (.cells #[.int .i64 0] 51)) := by show _ = _; rw [hW3, ← hz3]; exact heap_alloc_new _ _
  have HGv2 : Hid (w.heap.size ≤ qv2) := by show _ ≤ _; rw [← hz3]; exact hb2.size
  clear hb2 HBv1_2 bw hW3 hz3
  clear hs3 hqv2
  rcases HEV.out with ⟨hK, rfl⟩ | ⟨hK, pn, rfl⟩
  · have HK : Hid (IsRec s qq bb) := hK
    clear hK HEV
    go_wp2_with fail
    refine (as_nil _ _).mono ?_
    rintro e w4 ⟨rfl, hwe⟩
    have bw : Below (w3).heap.size (w3) w4 := by rw [hwe]; exact Below.refl _ _
    clear hwe
    have hb4 : Below w.heap.size w (w4) := hb3.trans (bw.mono hb3.size)
    have HM4 : Hid ((w3).heap.size ≤ (w4).heap.size) := bw.size
    have HBv1_4 : Hid ((w4).heap[qv1]? = some (.cells #[.int .i64 qq, .string bb] 42)) := blk_below HBv1_3.out bw
    have HBv2_4 : Hid ((w4).heap[qv2]? = some (.cells #[.int .i64 0] 51)) := blk_below HBv2_3.out bw
    clear hb3 HBv1_3 HBv2_3 bw
    go_upto_region 5 with fail
    refine wp_region_held_drew (S := fun W => W.heap[qv1]? = some (.cells #[.int .i64 qq, .string bb] 42)) (by kernel_rfl) HBv1_4.out (fun _ => ?_)
    obtain ⟨w5, hX⟩ : ∃ X, X = w4.drew := ⟨_, rfl⟩
    have bw : Below w4.heap.size w4 w5 := by rw [hX]; exact (Below.refl _ _).drew
    rw [← hX]
    have hb5 : Below w.heap.size w (w5) := hb4.trans (bw.mono hb4.size)
    have HBv1_5 : Hid ((w5).heap[qv1]? = some (.cells #[.int .i64 qq, .string bb] 42)) := blk_below HBv1_4.out bw
    have HBv2_5 : Hid ((w5).heap[qv2]? = some (.cells #[.int .i64 0] 51)) := blk_below HBv2_4.out bw
    have hS5 : w5.heap[qv1]? = some (.cells #[.int .i64 qq, .string bb] 42) := HBv1_5.out
    clear hb4 HBv1_4 HBv2_4 bw hX
    refine wpAnyH_takeD (i := 0) (v := .pointer (some ⟨qv1, 0, none⟩)) (some 16) rfl rfl (by kernel_rfl) (by kernel_rfl) (by kernel_rfl) (fun _ _ _ h => h) (Or.inl ⟨by rfl, by intro W _; go_simp⟩) hS5 ?_
    simp only [Act.put, List.setIfInBounds_toArray, List.set_cons_zero, List.set_cons_succ]
    refine wpAnyH_takeD (i := 1) (v := .int .i64 qq) (some 17) rfl rfl (by kernel_rfl) (by kernel_rfl) (by kernel_rfl) (fun _ _ _ h => h) (Or.inl ⟨by rfl, by intro W hW; have hhv1 := hW; have y0 := (cell_of hhv1 0).trans rfl; go_simp⟩) hS5 ?_
    simp only [Act.put, List.setIfInBounds_toArray, List.set_cons_zero, List.set_cons_succ]
    refine wpAnyH_takeD (i := 2) (v := .pointer (some ⟨qv1, 1, none⟩)) (some 18) rfl rfl (by kernel_rfl) (by kernel_rfl) (by kernel_rfl) (fun _ _ _ h => h) (Or.inl ⟨by rfl, by intro W _; go_simp⟩) hS5 ?_
    simp only [Act.put, List.setIfInBounds_toArray, List.set_cons_zero, List.set_cons_succ]
    refine wpAnyH_takeD (i := 3) (v := .string bb) (some 19) rfl rfl (by kernel_rfl) (by kernel_rfl) (by kernel_rfl) (fun _ _ _ h => h) (Or.inl ⟨by rfl, by intro W hW; have hhv1 := hW; have y1 := (cell_of hhv1 1).trans rfl; go_simp⟩) hS5 ?_
    simp only [Act.put, List.setIfInBounds_toArray, List.set_cons_zero, List.set_cons_succ]
    refine wpAnyH_ready (rs := [4]) (by kernel_rfl) (by simp) ?_
    refine AllReadyH.cons rfl (fun K hK => ?_) AllReadyH.nil
    go_simp
    refine (clone_any bb _ (by have := HZb.out; omega)).mono ?_
    rintro e w6 ⟨rfl, bw⟩
    have hb6 : Below w.heap.size w (w6) := hb5.trans (bw.mono hb5.size)
    have HBv1_6 : Hid ((w6).heap[qv1]? = some (.cells #[.int .i64 qq, .string bb] 42)) := blk_below HBv1_5.out bw
    have HBv2_6 : Hid ((w6).heap[qv2]? = some (.cells #[.int .i64 0] 51)) := blk_below HBv2_5.out bw
    clear hb5 HBv1_5 HBv2_5 bw
    have hS6 : w6.heap[qv1]? = some (.cells #[.int .i64 qq, .string bb] 42) := HBv1_6.out
    refine hK.out _ _ hS6 (fun _ => ?_)
    clear hK K hS5
    refine wpAnyH_takeD (i := 5) (v := .int .i64 qq) (some 2) rfl rfl (by kernel_rfl) (by kernel_rfl) (by kernel_rfl) (fun _ _ _ h => h) (Or.inl ⟨by rfl, by intro W _; go_simp⟩) hS6 ?_
    simp only [Act.put, List.setIfInBounds_toArray, List.set_cons_zero, List.set_cons_succ]
    refine wpAnyH_takeD (i := 6) (v := .string bb) (some 3) rfl rfl (by kernel_rfl) (by kernel_rfl) (by kernel_rfl) (fun _ _ _ h => h) (Or.inl ⟨by rfl, by intro W _; go_simp⟩) hS6 ?_
    simp only [Act.put, List.setIfInBounds_toArray, List.set_cons_zero, List.set_cons_succ]
    refine wpAnyH_takeD (i := 7) (v := .bool true) (some 4) rfl rfl (by kernel_rfl) (by kernel_rfl) (by kernel_rfl) (fun _ _ _ h => h) (Or.inl ⟨by rfl, by intro W _; go_simp⟩) hS6 ?_
    simp only [Act.put, List.setIfInBounds_toArray, List.set_cons_zero, List.set_cons_succ]
    clear hS6
    refine wpAnyH_done (by kernel_rfl) ?_ _
    go_wp2_with fail
    refine bodyPost_ret (v := .tuple #[.int .i64 qq, .string bb, .bool true]) (by simp [results, Tryd.results10, go_sem]) rfl ?_
    exact ⟨hb6, .inl ⟨_, _, HK.out, rfl⟩⟩
  · have HK : Hid (∀ q b, ¬ IsRec s q b) := hK
    clear hK HEV
    go_wp2_with fail
    refine (asHit_any pn _ 0 _ (HHB.out _ hb3) HBv2_3.out).mono ?_
    rintro e w4 ⟨rfl, hrd, hg⟩
    have hb4 : Below w.heap.size w (w4) := hb3.grown hg hb3.size (by intro k hk; cases hk; exact HGv2.out)
    have HM4 : Hid ((w3).heap.size ≤ (w4).heap.size) := hg.size
    have HBv1_4 : Hid ((w4).heap[qv1]? = some (.cells #[.int .i64 qq, .string bb] 42)) := (hg.block _ (Array.getElem?_eq_some_iff.1 HBv1_3.out).1 (fun e => HNv1v2.out (Option.some.inj e))).trans HBv1_3.out
    have HBv2_4 : Hid ((w4).heap[qv2]? = some (.cells #[.int .i64 pn] 51)) := hrd
    clear hb3 HBv1_3 HBv2_3 hg hrd
    go_wp2_with fail
    refine bodyPost_ret (v := .tuple #[.int .i64 0, .string ⟨#[]⟩, .bool false]) (by simp [results, Tryd.results10, go_sem]) rfl ?_
    exact ⟨hb4, .inr ⟨HK.out, rfl⟩⟩

end Go.Proofs.YtalicfiadbmdeaaDoor
