/- What the proof of FnExactServed leans on: contracts of the program's and the specification's functions, and plain facts (part 4 of 7). -/
import Derived.Test.YtajccgffallajaaGreatFnExactServedC
namespace Go.Proofs.YtajccgffallajaaGreat
open Go.RowKit
open Go.Lib hiding intOf

/-- Short enough to be copied. -/
structure FlLen (d : FlD) : Prop where
  qfs : d.qfs.length ≤ 1048576
  who : d.who.length ≤ 1048576
  oxs : d.oxs.length ≤ 1048576
  oys : d.oys.length ≤ 1048576
  ofs : d.ofs.length ≤ 1048576

set_option maxHeartbeats 8000000 in
set_option maxRecDepth 100000 in
theorem toFlight_any (d : FlD) (a2 : Option Addr) (c2 : Nat) (a4 : Option Addr) (c4 : Nat) (a6 : Option Addr) (c6 : Nat) (a7 : Option Addr) (c7 : Nat) (a9 : Option Addr) (c9 : Nat) (B : Nat) (w : World) (h2 : ArgF w B a2 d.qfs.length d.qfs) (h4 : ArgI w B a4 d.who.length d.who) (h6 : ArgT w B a6 d.oxs.length d.oxs) (h7 : ArgT w B a7 d.oys.length d.oys) (h9 : ArgF w B a9 d.ofs.length d.ofs) (hB : B ≤ w.heap.size) (hn : FlLen d) :
    Calls Tryz.prog 46 #[.agg #[.int .i64 d.qmt, .string d.qpa, .slice a2 d.qfs.length c2, .string d.qbd, .slice a4 d.who.length c4, .string d.opa, .slice a6 d.oxs.length c6, .slice a7 d.oys.length c7, .int .i64 d.ost, .slice a9 d.ofs.length c9, .string d.obd, .int .i64 d.otm, .bool d.has]] w fun e w' => ∃ x : FlV, e = .returned (.agg #[.int .i64 x.d.qmt, .string x.d.qpa, x.v2, .string x.d.qbd, x.v4, .string x.d.opa, x.v6, x.v7, .int .i64 x.d.ost, x.v9, .string x.d.obd, .int .i64 x.d.otm, .bool x.d.has]) ∧ x.d = d ∧ RowsO w' w.heap.size (flR x) ∧ Below w.heap.size w w' := by
  have HA2 : Hid (∀ W, Below w.heap.size w W → ArgF W B a2 d.qfs.length d.qfs) := fun W h => h2.below (h.mono hB)
  have HA4 : Hid (∀ W, Below w.heap.size w W → ArgI W B a4 d.who.length d.who) := fun W h => h4.below (h.mono hB)
  have HA6 : Hid (∀ W, Below w.heap.size w W → ArgT W B a6 d.oxs.length d.oxs) := fun W h => h6.below (h.mono hB)
  have HA7 : Hid (∀ W, Below w.heap.size w W → ArgT W B a7 d.oys.length d.oys) := fun W h => h7.below (h.mono hB)
  have HA9 : Hid (∀ W, Below w.heap.size w W → ArgF W B a9 d.ofs.length d.ofs) := fun W h => h9.below (h.mono hB)
  have HBB : Hid (∀ W, Below w.heap.size w W → B ≤ W.heap.size) := fun W h => Nat.le_trans hB h.size
  clear h2 h4 h6 h7 h9
  have hb0 : Below w.heap.size w w := Below.refl _ _
  go_enter Tryz.func46, Tryz.ntmps46
  go_upto_region 1 with fail
  obtain ⟨qv1, hqv1⟩ : ∃ q, q = (w).heap.size := ⟨_, rfl⟩
  obtain ⟨w1, hW1⟩ : ∃ W, W = (w).alloc (.cells #[.int .i64 d.qmt, .string d.qpa, .slice a2 d.qfs.length c2, .string d.qbd, .slice a4 d.who.length c4, .string d.opa, .slice a6 d.oxs.length c6, .slice a7 d.oys.length c7, .int .i64 d.ost, .slice a9 d.ofs.length c9, .string d.obd, .int .i64 d.otm, .bool d.has] 101) := ⟨_, rfl⟩
  have hz1 : (w).heap.size = qv1 := hqv1.symm
  first | rw [← hW1, ← hqv1] | rw [← hW1]
  have hs1 : w1.heap.size = qv1 + 1 := by rw [hW1, ← hz1]; simp
  have bw : Below (w).heap.size (w) w1 := by rw [hW1]; exact (Below.refl _ _).alloc (Nat.le_refl _) _
  have hb1 : Below w.heap.size w (w1) := hb0.trans (bw.mono hb0.size)
  have HBv1_1 : Hid ((w1).heap[qv1]? = some (.cells #[.int .i64 d.qmt, .string d.qpa, .slice a2 d.qfs.length c2, .string d.qbd, .slice a4 d.who.length c4, .string d.opa, .slice a6 d.oxs.length c6, .slice a7 d.oys.length c7, .int .i64 d.ost, .slice a9 d.ofs.length c9, .string d.obd, .int .i64 d.otm, .bool d.has] 101)) := by show _ = _; rw [hW1, ← hz1]; exact heap_alloc_new _ _
  clear hb0 bw hW1 hz1
  obtain ⟨qv2, hqv2⟩ : ∃ q, q = qv1 + 1 := ⟨_, rfl⟩
  obtain ⟨w2, hW2⟩ : ∃ W, W = (w1).alloc (.cells #[.int .i64 0, .string ⟨#[]⟩, .slice none 0 0, .string ⟨#[]⟩, .slice none 0 0, .string ⟨#[]⟩, .slice none 0 0, .slice none 0 0, .int .i64 0, .slice none 0 0, .string ⟨#[]⟩, .int .i64 0, .bool false] 113) := ⟨_, rfl⟩
  have hz2 : (w1).heap.size = qv2 := by rw [hqv2]; exact hs1
  first | rw [← hW2, ← hqv2] | rw [← hW2]
  have hs2 : w2.heap.size = qv2 + 1 := by rw [hW2, ← hz2]; simp
  have bw : Below (w1).heap.size (w1) w2 := by rw [hW2]; exact (Below.refl _ _).alloc (Nat.le_refl _) _
  have hb2 : Below w.heap.size w (w2) := hb1.trans (bw.mono hb1.size)
  have HBv1_2 : Hid ((w2).heap[qv1]? = some (.cells #[.int .i64 d.qmt, .string d.qpa, .slice a2 d.qfs.length c2, .string d.qbd, .slice a4 d.who.length c4, .string d.opa, .slice a6 d.oxs.length c6, .slice a7 d.oys.length c7, .int .i64 d.ost, .slice a9 d.ofs.length c9, .string d.obd, .int .i64 d.otm, .bool d.has] 101)) := blk_below HBv1_1.out bw
  have HNv1v2 : Hid (qv1 ≠ qv2) := fun e => by have h1 := (Array.getElem?_eq_some_iff.1 HBv1_1.out).1; omega
  have HBv2_2 : Hid ((w2).heap[qv2]? = some (.cells #[.int .i64 0, .string ⟨#[]⟩, .slice none 0 0, .string ⟨#[]⟩, .slice none 0 0, .string ⟨#[]⟩, .slice none 0 0, .slice none 0 0, .int .i64 0, .slice none 0 0, .string ⟨#[]⟩, .int .i64 0, .bool false] 113)) := by show _ = _; rw [hW2, ← hz2]; exact heap_alloc_new _ _
  have HGv2 : Hid (w.heap.size ≤ qv2) := by show _ ≤ _; rw [← hz2]; exact hb1.size
  clear hb1 HBv1_1 bw hW2 hz2
  clear hs2 hqv2 hs1 hqv1
  go_upto_region 2 with fail
  obtain ⟨qv3, hqv3⟩ : ∃ q, q = (w2).heap.size := ⟨_, rfl⟩
  obtain ⟨w3, hW3⟩ : ∃ W, W = (w2).alloc (.cells #[.int .i64 0, .string ⟨#[]⟩, .slice none 0 0, .string ⟨#[]⟩, .slice none 0 0, .string ⟨#[]⟩, .slice none 0 0, .slice none 0 0, .int .i64 0, .slice none 0 0, .string ⟨#[]⟩, .int .i64 0, .bool false] 113) := ⟨_, rfl⟩
  have hz3 : (w2).heap.size = qv3 := hqv3.symm
  first | rw [← hW3, ← hqv3] | rw [← hW3]
  have hs3 : w3.heap.size = qv3 + 1 := by rw [hW3, ← hz3]; simp
  have bw : Below (w2).heap.size (w2) w3 := by rw [hW3]; exact (Below.refl _ _).alloc (Nat.le_refl _) _
  have hb3 : Below w.heap.size w (w3) := hb2.trans (bw.mono hb2.size)
  have HBv1_3 : Hid ((w3).heap[qv1]? = some (.cells #[.int .i64 d.qmt, .string d.qpa, .slice a2 d.qfs.length c2, .string d.qbd, .slice a4 d.who.length c4, .string d.opa, .slice a6 d.oxs.length c6, .slice a7 d.oys.length c7, .int .i64 d.ost, .slice a9 d.ofs.length c9, .string d.obd, .int .i64 d.otm, .bool d.has] 101)) := blk_below HBv1_2.out bw
  have HBv2_3 : Hid ((w3).heap[qv2]? = some (.cells #[.int .i64 0, .string ⟨#[]⟩, .slice none 0 0, .string ⟨#[]⟩, .slice none 0 0, .string ⟨#[]⟩, .slice none 0 0, .slice none 0 0, .int .i64 0, .slice none 0 0, .string ⟨#[]⟩, .int .i64 0, .bool false] 113)) := blk_below HBv2_2.out bw
  have HNv1v3 : Hid (qv1 ≠ qv3) := fun e => by have h1 := (Array.getElem?_eq_some_iff.1 HBv1_2.out).1; omega
  have HNv2v3 : Hid (qv2 ≠ qv3) := fun e => by have h1 := (Array.getElem?_eq_some_iff.1 HBv2_2.out).1; omega
  have HBv3_3 : Hid ((w3).heap[qv3]? = some (.cells #[.int .i64 0, .string ⟨#[]⟩, .slice none 0 0, .string ⟨#[]⟩, .slice none 0 0, .string ⟨#[]⟩, .slice none 0 0, .slice none 0 0, .int .i64 0, .slice none 0 0, .string ⟨#[]⟩, .int .i64 0, .bool false] 113)) := by show _ = _; rw [hW3, ← hz3]; exact heap_alloc_new _ _
  have HGv3 : Hid (w.heap.size ≤ qv3) := by show _ ≤ _; rw [← hz3]; exact hb2.size
  clear hb2 HBv1_2 HBv2_2 bw hW3 hz3
  clear hs3 hqv3
  have cv1_0 : (w3).cell? ⟨qv1, 0, none⟩ = some (.int .i64 d.qmt) := (cell_of HBv1_3.out 0).trans rfl
  have cv1_1 : (w3).cell? ⟨qv1, 1, none⟩ = some (.string d.qpa) := (cell_of HBv1_3.out 1).trans rfl
  have cv1_2 : (w3).cell? ⟨qv1, 2, none⟩ = some (.slice a2 d.qfs.length c2) := (cell_of HBv1_3.out 2).trans rfl
  have cv1_3 : (w3).cell? ⟨qv1, 3, none⟩ = some (.string d.qbd) := (cell_of HBv1_3.out 3).trans rfl
  go_wp2_with fail
  refine (toReq_any d.qmt d.qpa a2 d.qfs.length c2 d.qbd d.qfs B _ (HA2.out _ hb3) (HBB.out _ hb3) hn.qfs).mono ?_
  rintro e w4 ⟨vv, rfl, hown, bw⟩
  obtain ⟨o2, p2, rfl⟩ := slice_of_owns hown
  have HRN : Hid (RowsO w4 w.heap.size ([(⟨135, 2, (.slice o2 d.qfs.length p2), d.qfs.length, flatF d.qfs⟩ : Rw)])) := RowsO.wide (RowsO.one (r := (⟨135, 2, (.slice o2 d.qfs.length p2), d.qfs.length, flatF d.qfs⟩ : Rw)) hown) hb3.size
  have HT1 : Hid (∀ r ∈ ([(⟨135, 2, (.slice o2 d.qfs.length p2), d.qfs.length, flatF d.qfs⟩ : Rw)]), 113 ≠ r.T) := by
    intro r hr
    simp only [List.mem_cons, List.not_mem_nil, or_false] at hr
    rcases hr with rfl
    · exact (by decide : (113 : TypeId) ≠ 135)
  clear hown
  have hb4 : Below w.heap.size w (w4) := hb3.trans (bw.mono hb3.size)
  have HBv1_4 : Hid ((w4).heap[qv1]? = some (.cells #[.int .i64 d.qmt, .string d.qpa, .slice a2 d.qfs.length c2, .string d.qbd, .slice a4 d.who.length c4, .string d.opa, .slice a6 d.oxs.length c6, .slice a7 d.oys.length c7, .int .i64 d.ost, .slice a9 d.ofs.length c9, .string d.obd, .int .i64 d.otm, .bool d.has] 101)) := blk_below HBv1_3.out bw
  have HBv2_4 : Hid ((w4).heap[qv2]? = some (.cells #[.int .i64 0, .string ⟨#[]⟩, .slice none 0 0, .string ⟨#[]⟩, .slice none 0 0, .string ⟨#[]⟩, .slice none 0 0, .slice none 0 0, .int .i64 0, .slice none 0 0, .string ⟨#[]⟩, .int .i64 0, .bool false] 113)) := blk_below HBv2_3.out bw
  have HBv3_4 : Hid ((w4).heap[qv3]? = some (.cells #[.int .i64 0, .string ⟨#[]⟩, .slice none 0 0, .string ⟨#[]⟩, .slice none 0 0, .string ⟨#[]⟩, .slice none 0 0, .slice none 0 0, .int .i64 0, .slice none 0 0, .string ⟨#[]⟩, .int .i64 0, .bool false] 113)) := blk_below HBv3_3.out bw
  clear hb3 HBv1_3 HBv2_3 HBv3_3 bw
  have ER_4 : Hid (RowsO (w4) w.heap.size ([(⟨135, 2, (.slice o2 d.qfs.length p2), d.qfs.length, flatF d.qfs⟩ : Rw)])) := HRN.out
  clear HRN
  clear cv1_0 cv1_1 cv1_2 cv1_3
  have cv3_0 : (w4).cell? ⟨qv3, 0, none⟩ = some (.int .i64 0) := (cell_of HBv3_4.out 0).trans rfl
  have fcv3_0 : (w4).frozen? ⟨qv3, 0, none⟩ = false := frozen_of HBv3_4.out 0
  have cv3_1 : (w4).cell? ⟨qv3, 1, none⟩ = some (.string ⟨#[]⟩) := (cell_of HBv3_4.out 1).trans rfl
  have fcv3_1 : (w4).frozen? ⟨qv3, 1, none⟩ = false := frozen_of HBv3_4.out 1
  have cv3_2 : (w4).cell? ⟨qv3, 2, none⟩ = some (.slice none 0 0) := (cell_of HBv3_4.out 2).trans rfl
  have fcv3_2 : (w4).frozen? ⟨qv3, 2, none⟩ = false := frozen_of HBv3_4.out 2
  have cv3_3 : (w4).cell? ⟨qv3, 3, none⟩ = some (.string ⟨#[]⟩) := (cell_of HBv3_4.out 3).trans rfl
  have fcv3_3 : (w4).frozen? ⟨qv3, 3, none⟩ = false := frozen_of HBv3_4.out 3
  go_upto_region 3 with fail
  obtain ⟨w5, hW5⟩ : ∃ W, W = (w4).setCell ⟨qv3, 0, none⟩ (.int .i64 d.qmt) := ⟨_, rfl⟩
  rw [← hW5]
  have hb5 : Below w.heap.size w (w5) := by rw [hW5]; exact (hb4.setCell (p := ⟨qv3, 0, none⟩) HGv3.out _)
  have HBv1_5 : Hid ((w5).heap[qv1]? = some (.cells #[.int .i64 d.qmt, .string d.qpa, .slice a2 d.qfs.length c2, .string d.qbd, .slice a4 d.who.length c4, .string d.opa, .slice a6 d.oxs.length c6, .slice a7 d.oys.length c7, .int .i64 d.ost, .slice a9 d.ofs.length c9, .string d.obd, .int .i64 d.otm, .bool d.has] 101)) := by show _ = _; rw [hW5, heap_setCell_other _ _ _ _ HNv1v3.out]; exact HBv1_4.out
  have HBv2_5 : Hid ((w5).heap[qv2]? = some (.cells #[.int .i64 0, .string ⟨#[]⟩, .slice none 0 0, .string ⟨#[]⟩, .slice none 0 0, .string ⟨#[]⟩, .slice none 0 0, .slice none 0 0, .int .i64 0, .slice none 0 0, .string ⟨#[]⟩, .int .i64 0, .bool false] 113)) := by show _ = _; rw [hW5, heap_setCell_other _ _ _ _ HNv2v3.out]; exact HBv2_4.out
  have ER_5 : Hid (RowsO (w5) w.heap.size ([(⟨135, 2, (.slice o2 d.qfs.length p2), d.qfs.length, flatF d.qfs⟩ : Rw)])) := by show RowsO _ _ _; rw [hW5]; exact RowsO.other ER_4.out HBv3_4.out HT1.out
  have HBv3_5 : Hid ((w5).heap[qv3]? = some (.cells #[.int .i64 d.qmt, .string ⟨#[]⟩, .slice none 0 0, .string ⟨#[]⟩, .slice none 0 0, .string ⟨#[]⟩, .slice none 0 0, .slice none 0 0, .int .i64 0, .slice none 0 0, .string ⟨#[]⟩, .int .i64 0, .bool false] 113)) := by show _ = _; rw [hW5]; have h := heap_set _ _ 0 _ _ _ (.int .i64 d.qmt) HBv3_4.out; simpa using h
  clear hb4 HBv1_4 HBv2_4 HBv3_4 ER_4 hW5
  obtain ⟨w6, hW6⟩ : ∃ W, W = (w5).setCell ⟨qv3, 1, none⟩ (.string d.qpa) := ⟨_, rfl⟩
  rw [← hW6]
  have hb6 : Below w.heap.size w (w6) := by rw [hW6]; exact (hb5.setCell (p := ⟨qv3, 1, none⟩) HGv3.out _)
  have HBv1_6 : Hid ((w6).heap[qv1]? = some (.cells #[.int .i64 d.qmt, .string d.qpa, .slice a2 d.qfs.length c2, .string d.qbd, .slice a4 d.who.length c4, .string d.opa, .slice a6 d.oxs.length c6, .slice a7 d.oys.length c7, .int .i64 d.ost, .slice a9 d.ofs.length c9, .string d.obd, .int .i64 d.otm, .bool d.has] 101)) := by show _ = _; rw [hW6, heap_setCell_other _ _ _ _ HNv1v3.out]; exact HBv1_5.out
  have HBv2_6 : Hid ((w6).heap[qv2]? = some (.cells #[.int .i64 0, .string ⟨#[]⟩, .slice none 0 0, .string ⟨#[]⟩, .slice none 0 0, .string ⟨#[]⟩, .slice none 0 0, .slice none 0 0, .int .i64 0, .slice none 0 0, .string ⟨#[]⟩, .int .i64 0, .bool false] 113)) := by show _ = _; rw [hW6, heap_setCell_other _ _ _ _ HNv2v3.out]; exact HBv2_5.out
  have ER_6 : Hid (RowsO (w6) w.heap.size ([(⟨135, 2, (.slice o2 d.qfs.length p2), d.qfs.length, flatF d.qfs⟩ : Rw)])) := by show RowsO _ _ _; rw [hW6]; exact RowsO.other ER_5.out HBv3_5.out HT1.out
  have HBv3_6 : Hid ((w6).heap[qv3]? = some (.cells #[.int .i64 d.qmt, .string d.qpa, .slice none 0 0, .string ⟨#[]⟩, .slice none 0 0, .string ⟨#[]⟩, .slice none 0 0, .slice none 0 0, .int .i64 0, .slice none 0 0, .string ⟨#[]⟩, .int .i64 0, .bool false] 113)) := by show _ = _; rw [hW6]; have h := heap_set _ _ 1 _ _ _ (.string d.qpa) HBv3_5.out; simpa using h
  clear hb5 HBv1_5 HBv2_5 HBv3_5 ER_5 hW6
  obtain ⟨w7, hW7⟩ : ∃ W, W = (w6).setCell ⟨qv3, 2, none⟩ (.slice o2 d.qfs.length p2) := ⟨_, rfl⟩
  rw [← hW7]
  have hb7 : Below w.heap.size w (w7) := by rw [hW7]; exact (hb6.setCell (p := ⟨qv3, 2, none⟩) HGv3.out _)
  have HBv1_7 : Hid ((w7).heap[qv1]? = some (.cells #[.int .i64 d.qmt, .string d.qpa, .slice a2 d.qfs.length c2, .string d.qbd, .slice a4 d.who.length c4, .string d.opa, .slice a6 d.oxs.length c6, .slice a7 d.oys.length c7, .int .i64 d.ost, .slice a9 d.ofs.length c9, .string d.obd, .int .i64 d.otm, .bool d.has] 101)) := by show _ = _; rw [hW7, heap_setCell_other _ _ _ _ HNv1v3.out]; exact HBv1_6.out
  have HBv2_7 : Hid ((w7).heap[qv2]? = some (.cells #[.int .i64 0, .string ⟨#[]⟩, .slice none 0 0, .string ⟨#[]⟩, .slice none 0 0, .string ⟨#[]⟩, .slice none 0 0, .slice none 0 0, .int .i64 0, .slice none 0 0, .string ⟨#[]⟩, .int .i64 0, .bool false] 113)) := by show _ = _; rw [hW7, heap_setCell_other _ _ _ _ HNv2v3.out]; exact HBv2_6.out
  have ER_7 : Hid (RowsO (w7) w.heap.size ([(⟨135, 2, (.slice o2 d.qfs.length p2), d.qfs.length, flatF d.qfs⟩ : Rw)])) := by show RowsO _ _ _; rw [hW7]; exact RowsO.other ER_6.out HBv3_6.out HT1.out
  have HBv3_7 : Hid ((w7).heap[qv3]? = some (.cells #[.int .i64 d.qmt, .string d.qpa, .slice o2 d.qfs.length p2, .string ⟨#[]⟩, .slice none 0 0, .string ⟨#[]⟩, .slice none 0 0, .slice none 0 0, .int .i64 0, .slice none 0 0, .string ⟨#[]⟩, .int .i64 0, .bool false] 113)) := by show _ = _; rw [hW7]; have h := heap_set _ _ 2 _ _ _ (.slice o2 d.qfs.length p2) HBv3_6.out; simpa using h
  clear hb6 HBv1_6 HBv2_6 HBv3_6 ER_6 hW7
  obtain ⟨w8, hW8⟩ : ∃ W, W = (w7).setCell ⟨qv3, 3, none⟩ (.string d.qbd) := ⟨_, rfl⟩
  rw [← hW8]
  have hb8 : Below w.heap.size w (w8) := by rw [hW8]; exact (hb7.setCell (p := ⟨qv3, 3, none⟩) HGv3.out _)
  have HBv1_8 : Hid ((w8).heap[qv1]? = some (.cells #[.int .i64 d.qmt, .string d.qpa, .slice a2 d.qfs.length c2, .string d.qbd, .slice a4 d.who.length c4, .string d.opa, .slice a6 d.oxs.length c6, .slice a7 d.oys.length c7, .int .i64 d.ost, .slice a9 d.ofs.length c9, .string d.obd, .int .i64 d.otm, .bool d.has] 101)) := by show _ = _; rw [hW8, heap_setCell_other _ _ _ _ HNv1v3.out]; exact HBv1_7.out
  have HBv2_8 : Hid ((w8).heap[qv2]? = some (.cells #[.int .i64 0, .string ⟨#[]⟩, .slice none 0 0, .string ⟨#[]⟩, .slice none 0 0, .string ⟨#[]⟩, .slice none 0 0, .slice none 0 0, .int .i64 0, .slice none 0 0, .string ⟨#[]⟩, .int .i64 0, .bool false] 113)) := by show _ = _; rw [hW8, heap_setCell_other _ _ _ _ HNv2v3.out]; exact HBv2_7.out
  have ER_8 : Hid (RowsO (w8) w.heap.size ([(⟨135, 2, (.slice o2 d.qfs.length p2), d.qfs.length, flatF d.qfs⟩ : Rw)])) := by show RowsO _ _ _; rw [hW8]; exact RowsO.other ER_7.out HBv3_7.out HT1.out
  have HBv3_8 : Hid ((w8).heap[qv3]? = some (.cells #[.int .i64 d.qmt, .string d.qpa, .slice o2 d.qfs.length p2, .string d.qbd, .slice none 0 0, .string ⟨#[]⟩, .slice none 0 0, .slice none 0 0, .int .i64 0, .slice none 0 0, .string ⟨#[]⟩, .int .i64 0, .bool false] 113)) := by show _ = _; rw [hW8]; have h := heap_set _ _ 3 _ _ _ (.string d.qbd) HBv3_7.out; simpa using h
  clear hb7 HBv1_7 HBv2_7 HBv3_7 ER_7 hW8
  clear cv3_0 fcv3_0 cv3_1 fcv3_1 cv3_2 fcv3_2 cv3_3 fcv3_3
  have cv1_4 : (w8).cell? ⟨qv1, 4, none⟩ = some (.slice a4 d.who.length c4) := (cell_of HBv1_8.out 4).trans rfl
  go_wp2_with fail
  refine (toIntSO_any B a4 d.who.length c4 d.who _ (HA4.out _ hb8) (HBB.out _ hb8) hn.who).mono ?_
  rintro e w9 ⟨rfl, hprt, bw⟩
  have hown := part_ints hprt rfl (Nat.le_trans hn.who (by decide)) (Nat.le_refl _)
  clear hprt
  obtain ⟨o4, ho4⟩ : ∃ o : Option Addr, o = some ⟨(w8).heap.size, 0, none⟩ := ⟨_, rfl⟩
  obtain ⟨p4, hp4⟩ : ∃ p : Nat, p = d.who.length := ⟨_, rfl⟩
  have hvv : Value.slice (some ⟨(w8).heap.size, 0, none⟩) d.who.length d.who.length = .slice o4 d.who.length p4 := by rw [ho4, hp4]
  rw [hvv] at hown ⊢
  clear hvv ho4 hp4
  have HRN : Hid (RowsO w9 w.heap.size ([(⟨135, 2, (.slice o2 d.qfs.length p2), d.qfs.length, flatF d.qfs⟩ : Rw), (⟨3, 1, (.slice o4 d.who.length p4), d.who.length, d.who.map (Value.int .i64)⟩ : Rw)])) := ER_8.out.more bw (RowsO.one (r := (⟨3, 1, (.slice o4 d.who.length p4), d.who.length, d.who.map (Value.int .i64)⟩ : Rw)) hown) (Nat.le_refl _) hb8.size
  have HT2 : Hid (∀ r ∈ ([(⟨135, 2, (.slice o2 d.qfs.length p2), d.qfs.length, flatF d.qfs⟩ : Rw), (⟨3, 1, (.slice o4 d.who.length p4), d.who.length, d.who.map (Value.int .i64)⟩ : Rw)]), 113 ≠ r.T) := by
    intro r hr
    simp only [List.mem_cons, List.not_mem_nil, or_false] at hr
    rcases hr with rfl | rfl
    · exact (by decide : (113 : TypeId) ≠ 135)
    · exact (by decide : (113 : TypeId) ≠ 3)
  clear hown
  have hb9 : Below w.heap.size w (w9) := hb8.trans (bw.mono hb8.size)
  have HBv1_9 : Hid ((w9).heap[qv1]? = some (.cells #[.int .i64 d.qmt, .string d.qpa, .slice a2 d.qfs.length c2, .string d.qbd, .slice a4 d.who.length c4, .string d.opa, .slice a6 d.oxs.length c6, .slice a7 d.oys.length c7, .int .i64 d.ost, .slice a9 d.ofs.length c9, .string d.obd, .int .i64 d.otm, .bool d.has] 101)) := blk_below HBv1_8.out bw
  have HBv2_9 : Hid ((w9).heap[qv2]? = some (.cells #[.int .i64 0, .string ⟨#[]⟩, .slice none 0 0, .string ⟨#[]⟩, .slice none 0 0, .string ⟨#[]⟩, .slice none 0 0, .slice none 0 0, .int .i64 0, .slice none 0 0, .string ⟨#[]⟩, .int .i64 0, .bool false] 113)) := blk_below HBv2_8.out bw
  have HBv3_9 : Hid ((w9).heap[qv3]? = some (.cells #[.int .i64 d.qmt, .string d.qpa, .slice o2 d.qfs.length p2, .string d.qbd, .slice none 0 0, .string ⟨#[]⟩, .slice none 0 0, .slice none 0 0, .int .i64 0, .slice none 0 0, .string ⟨#[]⟩, .int .i64 0, .bool false] 113)) := blk_below HBv3_8.out bw
  have ER_9 : Hid (RowsO (w9) w.heap.size ([(⟨135, 2, (.slice o2 d.qfs.length p2), d.qfs.length, flatF d.qfs⟩ : Rw)])) := ER_8.out.below bw
  clear hb8 HBv1_8 HBv2_8 HBv3_8 ER_8 bw
  clear ER_9
  have ER_9 : Hid (RowsO (w9) w.heap.size ([(⟨135, 2, (.slice o2 d.qfs.length p2), d.qfs.length, flatF d.qfs⟩ : Rw), (⟨3, 1, (.slice o4 d.who.length p4), d.who.length, d.who.map (Value.int .i64)⟩ : Rw)])) := HRN.out
  clear HRN
  clear cv1_4
  have cv3_4 : (w9).cell? ⟨qv3, 4, none⟩ = some (.slice none 0 0) := (cell_of HBv3_9.out 4).trans rfl
  have fcv3_4 : (w9).frozen? ⟨qv3, 4, none⟩ = false := frozen_of HBv3_9.out 4
  go_upto_region 4 with fail
  obtain ⟨w10, hW10⟩ : ∃ W, W = (w9).setCell ⟨qv3, 4, none⟩ (.slice o4 d.who.length p4) := ⟨_, rfl⟩
  rw [← hW10]
  have hb10 : Below w.heap.size w (w10) := by rw [hW10]; exact (hb9.setCell (p := ⟨qv3, 4, none⟩) HGv3.out _)
  have HBv1_10 : Hid ((w10).heap[qv1]? = some (.cells #[.int .i64 d.qmt, .string d.qpa, .slice a2 d.qfs.length c2, .string d.qbd, .slice a4 d.who.length c4, .string d.opa, .slice a6 d.oxs.length c6, .slice a7 d.oys.length c7, .int .i64 d.ost, .slice a9 d.ofs.length c9, .string d.obd, .int .i64 d.otm, .bool d.has] 101)) := by show _ = _; rw [hW10, heap_setCell_other _ _ _ _ HNv1v3.out]; exact HBv1_9.out
  have HBv2_10 : Hid ((w10).heap[qv2]? = some (.cells #[.int .i64 0, .string ⟨#[]⟩, .slice none 0 0, .string ⟨#[]⟩, .slice none 0 0, .string ⟨#[]⟩, .slice none 0 0, .slice none 0 0, .int .i64 0, .slice none 0 0, .string ⟨#[]⟩, .int .i64 0, .bool false] 113)) := by show _ = _; rw [hW10, heap_setCell_other _ _ _ _ HNv2v3.out]; exact HBv2_9.out
  have ER_10 : Hid (RowsO (w10) w.heap.size ([(⟨135, 2, (.slice o2 d.qfs.length p2), d.qfs.length, flatF d.qfs⟩ : Rw), (⟨3, 1, (.slice o4 d.who.length p4), d.who.length, d.who.map (Value.int .i64)⟩ : Rw)])) := by show RowsO _ _ _; rw [hW10]; exact RowsO.other ER_9.out HBv3_9.out HT2.out
  have HBv3_10 : Hid ((w10).heap[qv3]? = some (.cells #[.int .i64 d.qmt, .string d.qpa, .slice o2 d.qfs.length p2, .string d.qbd, .slice o4 d.who.length p4, .string ⟨#[]⟩, .slice none 0 0, .slice none 0 0, .int .i64 0, .slice none 0 0, .string ⟨#[]⟩, .int .i64 0, .bool false] 113)) := by show _ = _; rw [hW10]; have h := heap_set _ _ 4 _ _ _ (.slice o4 d.who.length p4) HBv3_9.out; simpa using h
  clear hb9 HBv1_9 HBv2_9 HBv3_9 ER_9 hW10
  clear cv3_4 fcv3_4
  have cv1_5 : (w10).cell? ⟨qv1, 5, none⟩ = some (.string d.opa) := (cell_of HBv1_10.out 5).trans rfl
  have cv1_6 : (w10).cell? ⟨qv1, 6, none⟩ = some (.slice a6 d.oxs.length c6) := (cell_of HBv1_10.out 6).trans rfl
  have cv1_7 : (w10).cell? ⟨qv1, 7, none⟩ = some (.slice a7 d.oys.length c7) := (cell_of HBv1_10.out 7).trans rfl
  have cv1_8 : (w10).cell? ⟨qv1, 8, none⟩ = some (.int .i64 d.ost) := (cell_of HBv1_10.out 8).trans rfl
  have cv1_9 : (w10).cell? ⟨qv1, 9, none⟩ = some (.slice a9 d.ofs.length c9) := (cell_of HBv1_10.out 9).trans rfl
  have cv1_10 : (w10).cell? ⟨qv1, 10, none⟩ = some (.string d.obd) := (cell_of HBv1_10.out 10).trans rfl
  have cv1_11 : (w10).cell? ⟨qv1, 11, none⟩ = some (.int .i64 d.otm) := (cell_of HBv1_10.out 11).trans rfl
  go_wp2_with fail
  refine (toObj_any d.opa a6 d.oxs.length c6 d.oxs a7 d.oys.length c7 d.oys d.ost a9 d.ofs.length c9 d.ofs d.obd d.otm B _ (HA6.out _ hb10) (HA7.out _ hb10) (HA9.out _ hb10) (HBB.out _ hb10) hn.oxs hn.oys hn.ofs).mono ?_
  rintro e w11 ⟨vv1, vv2, vv3, rfl, hobj, bw⟩
  obtain ⟨o6, p6, rfl⟩ := slice_of_owns hobj.names
  obtain ⟨o7, p7, rfl⟩ := slice_of_owns hobj.vals
  obtain ⟨o9, p9, rfl⟩ := slice_of_owns hobj.flds
  have HRN : Hid (RowsO w11 w.heap.size ([(⟨135, 2, (.slice o2 d.qfs.length p2), d.qfs.length, flatF d.qfs⟩ : Rw), (⟨3, 1, (.slice o4 d.who.length p4), d.who.length, d.who.map (Value.int .i64)⟩ : Rw), (⟨9, 1, (.slice o6 d.oxs.length p6), d.oxs.length, d.oxs.map Value.string⟩ : Rw), (⟨9, 1, (.slice o7 d.oys.length p7), d.oys.length, d.oys.map Value.string⟩ : Rw), (⟨135, 2, (.slice o9 d.ofs.length p9), d.ofs.length, flatF d.ofs⟩ : Rw)])) := ER_10.out.more bw (obj_rows3 hobj) (Nat.le_refl _) hb10.size
  have HT5 : Hid (∀ r ∈ ([(⟨135, 2, (.slice o2 d.qfs.length p2), d.qfs.length, flatF d.qfs⟩ : Rw), (⟨3, 1, (.slice o4 d.who.length p4), d.who.length, d.who.map (Value.int .i64)⟩ : Rw), (⟨9, 1, (.slice o6 d.oxs.length p6), d.oxs.length, d.oxs.map Value.string⟩ : Rw), (⟨9, 1, (.slice o7 d.oys.length p7), d.oys.length, d.oys.map Value.string⟩ : Rw), (⟨135, 2, (.slice o9 d.ofs.length p9), d.ofs.length, flatF d.ofs⟩ : Rw)]), 113 ≠ r.T) := by
    intro r hr
    simp only [List.mem_cons, List.not_mem_nil, or_false] at hr
    rcases hr with rfl | rfl | rfl | rfl | rfl
    · exact (by decide : (113 : TypeId) ≠ 135)
    · exact (by decide : (113 : TypeId) ≠ 3)
    · exact (by decide : (113 : TypeId) ≠ 9)
    · exact (by decide : (113 : TypeId) ≠ 9)
    · exact (by decide : (113 : TypeId) ≠ 135)
  clear hobj
  have hb11 : Below w.heap.size w (w11) := hb10.trans (bw.mono hb10.size)
  have HBv1_11 : Hid ((w11).heap[qv1]? = some (.cells #[.int .i64 d.qmt, .string d.qpa, .slice a2 d.qfs.length c2, .string d.qbd, .slice a4 d.who.length c4, .string d.opa, .slice a6 d.oxs.length c6, .slice a7 d.oys.length c7, .int .i64 d.ost, .slice a9 d.ofs.length c9, .string d.obd, .int .i64 d.otm, .bool d.has] 101)) := blk_below HBv1_10.out bw
  have HBv2_11 : Hid ((w11).heap[qv2]? = some (.cells #[.int .i64 0, .string ⟨#[]⟩, .slice none 0 0, .string ⟨#[]⟩, .slice none 0 0, .string ⟨#[]⟩, .slice none 0 0, .slice none 0 0, .int .i64 0, .slice none 0 0, .string ⟨#[]⟩, .int .i64 0, .bool false] 113)) := blk_below HBv2_10.out bw
  have HBv3_11 : Hid ((w11).heap[qv3]? = some (.cells #[.int .i64 d.qmt, .string d.qpa, .slice o2 d.qfs.length p2, .string d.qbd, .slice o4 d.who.length p4, .string ⟨#[]⟩, .slice none 0 0, .slice none 0 0, .int .i64 0, .slice none 0 0, .string ⟨#[]⟩, .int .i64 0, .bool false] 113)) := blk_below HBv3_10.out bw
  have ER_11 : Hid (RowsO (w11) w.heap.size ([(⟨135, 2, (.slice o2 d.qfs.length p2), d.qfs.length, flatF d.qfs⟩ : Rw), (⟨3, 1, (.slice o4 d.who.length p4), d.who.length, d.who.map (Value.int .i64)⟩ : Rw)])) := ER_10.out.below bw
  clear hb10 HBv1_10 HBv2_10 HBv3_10 ER_10 bw
  clear ER_11
  have ER_11 : Hid (RowsO (w11) w.heap.size ([(⟨135, 2, (.slice o2 d.qfs.length p2), d.qfs.length, flatF d.qfs⟩ : Rw), (⟨3, 1, (.slice o4 d.who.length p4), d.who.length, d.who.map (Value.int .i64)⟩ : Rw), (⟨9, 1, (.slice o6 d.oxs.length p6), d.oxs.length, d.oxs.map Value.string⟩ : Rw), (⟨9, 1, (.slice o7 d.oys.length p7), d.oys.length, d.oys.map Value.string⟩ : Rw), (⟨135, 2, (.slice o9 d.ofs.length p9), d.ofs.length, flatF d.ofs⟩ : Rw)])) := HRN.out
  clear HRN
  clear cv1_5 cv1_6 cv1_7 cv1_8 cv1_9 cv1_10 cv1_11
  have cv3_5 : (w11).cell? ⟨qv3, 5, none⟩ = some (.string ⟨#[]⟩) := (cell_of HBv3_11.out 5).trans rfl
  have fcv3_5 : (w11).frozen? ⟨qv3, 5, none⟩ = false := frozen_of HBv3_11.out 5
  have cv3_6 : (w11).cell? ⟨qv3, 6, none⟩ = some (.slice none 0 0) := (cell_of HBv3_11.out 6).trans rfl
  have fcv3_6 : (w11).frozen? ⟨qv3, 6, none⟩ = false := frozen_of HBv3_11.out 6
  have cv3_7 : (w11).cell? ⟨qv3, 7, none⟩ = some (.slice none 0 0) := (cell_of HBv3_11.out 7).trans rfl
  have fcv3_7 : (w11).frozen? ⟨qv3, 7, none⟩ = false := frozen_of HBv3_11.out 7
  have cv3_8 : (w11).cell? ⟨qv3, 8, none⟩ = some (.int .i64 0) := (cell_of HBv3_11.out 8).trans rfl
  have fcv3_8 : (w11).frozen? ⟨qv3, 8, none⟩ = false := frozen_of HBv3_11.out 8
  have cv3_9 : (w11).cell? ⟨qv3, 9, none⟩ = some (.slice none 0 0) := (cell_of HBv3_11.out 9).trans rfl
  have fcv3_9 : (w11).frozen? ⟨qv3, 9, none⟩ = false := frozen_of HBv3_11.out 9
  have cv3_10 : (w11).cell? ⟨qv3, 10, none⟩ = some (.string ⟨#[]⟩) := (cell_of HBv3_11.out 10).trans rfl
  have fcv3_10 : (w11).frozen? ⟨qv3, 10, none⟩ = false := frozen_of HBv3_11.out 10
  have cv3_11 : (w11).cell? ⟨qv3, 11, none⟩ = some (.int .i64 0) := (cell_of HBv3_11.out 11).trans rfl
  have fcv3_11 : (w11).frozen? ⟨qv3, 11, none⟩ = false := frozen_of HBv3_11.out 11
  go_upto_region 5 with fail
  obtain ⟨w12, hW12⟩ : ∃ W, W = (w11).setCell ⟨qv3, 5, none⟩ (.string d.opa) := ⟨_, rfl⟩
  rw [← hW12]
  have hb12 : Below w.heap.size w (w12) := by rw [hW12]; exact (hb11.setCell (p := ⟨qv3, 5, none⟩) HGv3.out _)
  have HBv1_12 : Hid ((w12).heap[qv1]? = some (.cells #[.int .i64 d.qmt, .string d.qpa, .slice a2 d.qfs.length c2, .string d.qbd, .slice a4 d.who.length c4, .string d.opa, .slice a6 d.oxs.length c6, .slice a7 d.oys.length c7, .int .i64 d.ost, .slice a9 d.ofs.length c9, .string d.obd, .int .i64 d.otm, .bool d.has] 101)) := by show _ = _; rw [hW12, heap_setCell_other _ _ _ _ HNv1v3.out]; exact HBv1_11.out
  have HBv2_12 : Hid ((w12).heap[qv2]? = some (.cells #[.int .i64 0, .string ⟨#[]⟩, .slice none 0 0, .string ⟨#[]⟩, .slice none 0 0, .string ⟨#[]⟩, .slice none 0 0, .slice none 0 0, .int .i64 0, .slice none 0 0, .string ⟨#[]⟩, .int .i64 0, .bool false] 113)) := by show _ = _; rw [hW12, heap_setCell_other _ _ _ _ HNv2v3.out]; exact HBv2_11.out
  have ER_12 : Hid (RowsO (w12) w.heap.size ([(⟨135, 2, (.slice o2 d.qfs.length p2), d.qfs.length, flatF d.qfs⟩ : Rw), (⟨3, 1, (.slice o4 d.who.length p4), d.who.length, d.who.map (Value.int .i64)⟩ : Rw), (⟨9, 1, (.slice o6 d.oxs.length p6), d.oxs.length, d.oxs.map Value.string⟩ : Rw), (⟨9, 1, (.slice o7 d.oys.length p7), d.oys.length, d.oys.map Value.string⟩ : Rw), (⟨135, 2, (.slice o9 d.ofs.length p9), d.ofs.length, flatF d.ofs⟩ : Rw)])) := by show RowsO _ _ _; rw [hW12]; exact RowsO.other ER_11.out HBv3_11.out HT5.out
  have HBv3_12 : Hid ((w12).heap[qv3]? = some (.cells #[.int .i64 d.qmt, .string d.qpa, .slice o2 d.qfs.length p2, .string d.qbd, .slice o4 d.who.length p4, .string d.opa, .slice none 0 0, .slice none 0 0, .int .i64 0, .slice none 0 0, .string ⟨#[]⟩, .int .i64 0, .bool false] 113)) := by show _ = _; rw [hW12]; have h := heap_set _ _ 5 _ _ _ (.string d.opa) HBv3_11.out; simpa using h
  clear hb11 HBv1_11 HBv2_11 HBv3_11 ER_11 hW12
  obtain ⟨w13, hW13⟩ : ∃ W, W = (w12).setCell ⟨qv3, 6, none⟩ (.slice o6 d.oxs.length p6) := ⟨_, rfl⟩
  rw [← hW13]
  have hb13 : Below w.heap.size w (w13) := by rw [hW13]; exact (hb12.setCell (p := ⟨qv3, 6, none⟩) HGv3.out _)
  have HBv1_13 : Hid ((w13).heap[qv1]? = some (.cells #[.int .i64 d.qmt, .string d.qpa, .slice a2 d.qfs.length c2, .string d.qbd, .slice a4 d.who.length c4, .string d.opa, .slice a6 d.oxs.length c6, .slice a7 d.oys.length c7, .int .i64 d.ost, .slice a9 d.ofs.length c9, .string d.obd, .int .i64 d.otm, .bool d.has] 101)) := by show _ = _; rw [hW13, heap_setCell_other _ _ _ _ HNv1v3.out]; exact HBv1_12.out
  have HBv2_13 : Hid ((w13).heap[qv2]? = some (.cells #[.int .i64 0, .string ⟨#[]⟩, .slice none 0 0, .string ⟨#[]⟩, .slice none 0 0, .string ⟨#[]⟩, .slice none 0 0, .slice none 0 0, .int .i64 0, .slice none 0 0, .string ⟨#[]⟩, .int .i64 0, .bool false] 113)) := by show _ = _; rw [hW13, heap_setCell_other _ _ _ _ HNv2v3.out]; exact HBv2_12.out
  have ER_13 : Hid (RowsO (w13) w.heap.size ([(⟨135, 2, (.slice o2 d.qfs.length p2), d.qfs.length, flatF d.qfs⟩ : Rw), (⟨3, 1, (.slice o4 d.who.length p4), d.who.length, d.who.map (Value.int .i64)⟩ : Rw), (⟨9, 1, (.slice o6 d.oxs.length p6), d.oxs.length, d.oxs.map Value.string⟩ : Rw), (⟨9, 1, (.slice o7 d.oys.length p7), d.oys.length, d.oys.map Value.string⟩ : Rw), (⟨135, 2, (.slice o9 d.ofs.length p9), d.ofs.length, flatF d.ofs⟩ : Rw)])) := by show RowsO _ _ _; rw [hW13]; exact RowsO.other ER_12.out HBv3_12.out HT5.out
  have HBv3_13 : Hid ((w13).heap[qv3]? = some (.cells #[.int .i64 d.qmt, .string d.qpa, .slice o2 d.qfs.length p2, .string d.qbd, .slice o4 d.who.length p4, .string d.opa, .slice o6 d.oxs.length p6, .slice none 0 0, .int .i64 0, .slice none 0 0, .string ⟨#[]⟩, .int .i64 0, .bool false] 113)) := by show _ = _; rw [hW13]; have h := heap_set _ _ 6 _ _ _ (.slice o6 d.oxs.length p6) HBv3_12.out; simpa using h
  clear hb12 HBv1_12 HBv2_12 HBv3_12 ER_12 hW13
  obtain ⟨w14, hW14⟩ : ∃ W, W = (w13).setCell ⟨qv3, 7, none⟩ (.slice o7 d.oys.length p7) := ⟨_, rfl⟩
  rw [← hW14]
  have hb14 : Below w.heap.size w (w14) := by rw [hW14]; exact (hb13.setCell (p := ⟨qv3, 7, none⟩) HGv3.out _)
  have HBv1_14 : Hid ((w14).heap[qv1]? = some (.cells #[.int .i64 d.qmt, .string d.qpa, .slice a2 d.qfs.length c2, .string d.qbd, .slice a4 d.who.length c4, .string d.opa, .slice a6 d.oxs.length c6, .slice a7 d.oys.length c7, .int .i64 d.ost, .slice a9 d.ofs.length c9, .string d.obd, .int .i64 d.otm, .bool d.has] 101)) := by show _ = _; rw [hW14, heap_setCell_other _ _ _ _ HNv1v3.out]; exact HBv1_13.out
  have HBv2_14 : Hid ((w14).heap[qv2]? = some (.cells #[.int .i64 0, .string ⟨#[]⟩, .slice none 0 0, .string ⟨#[]⟩, .slice none 0 0, .string ⟨#[]⟩, .slice none 0 0, .slice none 0 0, .int .i64 0, .slice none 0 0, .string ⟨#[]⟩, .int .i64 0, .bool false] 113)) := by show _ = _; rw [hW14, heap_setCell_other _ _ _ _ HNv2v3.out]; exact HBv2_13.out
  have ER_14 : Hid (RowsO (w14) w.heap.size ([(⟨135, 2, (.slice o2 d.qfs.length p2), d.qfs.length, flatF d.qfs⟩ : Rw), (⟨3, 1, (.slice o4 d.who.length p4), d.who.length, d.who.map (Value.int .i64)⟩ : Rw), (⟨9, 1, (.slice o6 d.oxs.length p6), d.oxs.length, d.oxs.map Value.string⟩ : Rw), (⟨9, 1, (.slice o7 d.oys.length p7), d.oys.length, d.oys.map Value.string⟩ : Rw), (⟨135, 2, (.slice o9 d.ofs.length p9), d.ofs.length, flatF d.ofs⟩ : Rw)])) := by show RowsO _ _ _; rw [hW14]; exact RowsO.other ER_13.out HBv3_13.out HT5.out
  have HBv3_14 : Hid ((w14).heap[qv3]? = some (.cells #[.int .i64 d.qmt, .string d.qpa, .slice o2 d.qfs.length p2, .string d.qbd, .slice o4 d.who.length p4, .string d.opa, .slice o6 d.oxs.length p6, .slice o7 d.oys.length p7, .int .i64 0, .slice none 0 0, .string ⟨#[]⟩, .int .i64 0, .bool false] 113)) := by show _ = _; rw [hW14]; have h := heap_set _ _ 7 _ _ _ (.slice o7 d.oys.length p7) HBv3_13.out; simpa using h
  clear hb13 HBv1_13 HBv2_13 HBv3_13 ER_13 hW14
  obtain ⟨w15, hW15⟩ : ∃ W, W = (w14).setCell ⟨qv3, 8, none⟩ (.int .i64 d.ost) := ⟨_, rfl⟩
  rw [← hW15]
  have hb15 : Below w.heap.size w (w15) := by rw [hW15]; exact (hb14.setCell (p := ⟨qv3, 8, none⟩) HGv3.out _)
  have HBv1_15 : Hid ((w15).heap[qv1]? = some (.cells #[.int .i64 d.qmt, .string d.qpa, .slice a2 d.qfs.length c2, .string d.qbd, .slice a4 d.who.length c4, .string d.opa, .slice a6 d.oxs.length c6, .slice a7 d.oys.length c7, .int .i64 d.ost, .slice a9 d.ofs.length c9, .string d.obd, .int .i64 d.otm, .bool d.has] 101)) := by show _ = _; rw [hW15, heap_setCell_other _ _ _ _ HNv1v3.out]; exact HBv1_14.out
  have HBv2_15 : Hid ((w15).heap[qv2]? = some (.cells #[.int .i64 0, .string ⟨#[]⟩, .slice none 0 0, .string ⟨#[]⟩, .slice none 0 0, .string ⟨#[]⟩, .slice none 0 0, .slice none 0 0, .int .i64 0, .slice none 0 0, .string ⟨#[]⟩, .int .i64 0, .bool false] 113)) := by show _ = _; rw [hW15, heap_setCell_other _ _ _ _ HNv2v3.out]; exact HBv2_14.out
  have ER_15 : Hid (RowsO (w15) w.heap.size ([(⟨135, 2, (.slice o2 d.qfs.length p2), d.qfs.length, flatF d.qfs⟩ : Rw), (⟨3, 1, (.slice o4 d.who.length p4), d.who.length, d.who.map (Value.int .i64)⟩ : Rw), (⟨9, 1, (.slice o6 d.oxs.length p6), d.oxs.length, d.oxs.map Value.string⟩ : Rw), (⟨9, 1, (.slice o7 d.oys.length p7), d.oys.length, d.oys.map Value.string⟩ : Rw), (⟨135, 2, (.slice o9 d.ofs.length p9), d.ofs.length, flatF d.ofs⟩ : Rw)])) := by show RowsO _ _ _; rw [hW15]; exact RowsO.other ER_14.out HBv3_14.out HT5.out
  have HBv3_15 : Hid ((w15).heap[qv3]? = some (.cells #[.int .i64 d.qmt, .string d.qpa, .slice o2 d.qfs.length p2, .string d.qbd, .slice o4 d.who.length p4, .string d.opa, .slice o6 d.oxs.length p6, .slice o7 d.oys.length p7, .int .i64 d.ost, .slice none 0 0, .string ⟨#[]⟩, .int .i64 0, .bool false] 113)) := by show _ = _; rw [hW15]; have h := heap_set _ _ 8 _ _ _ (.int .i64 d.ost) HBv3_14.out; simpa using h
  clear hb14 HBv1_14 HBv2_14 HBv3_14 ER_14 hW15
  obtain ⟨w16, hW16⟩ : ∃ W, W = (w15).setCell ⟨qv3, 9, none⟩ (.slice o9 d.ofs.length p9) := ⟨_, rfl⟩
  rw [← hW16]
  have hb16 : Below w.heap.size w (w16) := by rw [hW16]; exact (hb15.setCell (p := ⟨qv3, 9, none⟩) HGv3.out _)
  have HBv1_16 : Hid ((w16).heap[qv1]? = some (.cells #[.int .i64 d.qmt, .string d.qpa, .slice a2 d.qfs.length c2, .string d.qbd, .slice a4 d.who.length c4, .string d.opa, .slice a6 d.oxs.length c6, .slice a7 d.oys.length c7, .int .i64 d.ost, .slice a9 d.ofs.length c9, .string d.obd, .int .i64 d.otm, .bool d.has] 101)) := by show _ = _; rw [hW16, heap_setCell_other _ _ _ _ HNv1v3.out]; exact HBv1_15.out
  have HBv2_16 : Hid ((w16).heap[qv2]? = some (.cells #[.int .i64 0, .string ⟨#[]⟩, .slice none 0 0, .string ⟨#[]⟩, .slice none 0 0, .string ⟨#[]⟩, .slice none 0 0, .slice none 0 0, .int .i64 0, .slice none 0 0, .string ⟨#[]⟩, .int .i64 0, .bool false] 113)) := by show _ = _; rw [hW16, heap_setCell_other _ _ _ _ HNv2v3.out]; exact HBv2_15.out
  have ER_16 : Hid (RowsO (w16) w.heap.size ([(⟨135, 2, (.slice o2 d.qfs.length p2), d.qfs.length, flatF d.qfs⟩ : Rw), (⟨3, 1, (.slice o4 d.who.length p4), d.who.length, d.who.map (Value.int .i64)⟩ : Rw), (⟨9, 1, (.slice o6 d.oxs.length p6), d.oxs.length, d.oxs.map Value.string⟩ : Rw), (⟨9, 1, (.slice o7 d.oys.length p7), d.oys.length, d.oys.map Value.string⟩ : Rw), (⟨135, 2, (.slice o9 d.ofs.length p9), d.ofs.length, flatF d.ofs⟩ : Rw)])) := by show RowsO _ _ _; rw [hW16]; exact RowsO.other ER_15.out HBv3_15.out HT5.out
  have HBv3_16 : Hid ((w16).heap[qv3]? = some (.cells #[.int .i64 d.qmt, .string d.qpa, .slice o2 d.qfs.length p2, .string d.qbd, .slice o4 d.who.length p4, .string d.opa, .slice o6 d.oxs.length p6, .slice o7 d.oys.length p7, .int .i64 d.ost, .slice o9 d.ofs.length p9, .string ⟨#[]⟩, .int .i64 0, .bool false] 113)) := by show _ = _; rw [hW16]; have h := heap_set _ _ 9 _ _ _ (.slice o9 d.ofs.length p9) HBv3_15.out; simpa using h
  clear hb15 HBv1_15 HBv2_15 HBv3_15 ER_15 hW16
  obtain ⟨w17, hW17⟩ : ∃ W, W = (w16).setCell ⟨qv3, 10, none⟩ (.string d.obd) := ⟨_, rfl⟩
  rw [← hW17]
  have hb17 : Below w.heap.size w (w17) := by rw [hW17]; exact (hb16.setCell (p := ⟨qv3, 10, none⟩) HGv3.out _)
  have HBv1_17 : Hid ((w17).heap[qv1]? = some (.cells #[.int .i64 d.qmt, .string d.qpa, .slice a2 d.qfs.length c2, .string d.qbd, .slice a4 d.who.length c4, .string d.opa, .slice a6 d.oxs.length c6, .slice a7 d.oys.length c7, .int .i64 d.ost, .slice a9 d.ofs.length c9, .string d.obd, .int .i64 d.otm, .bool d.has] 101)) := by show _ = _; rw [hW17, heap_setCell_other _ _ _ _ HNv1v3.out]; exact HBv1_16.out
  have HBv2_17 : Hid ((w17).heap[qv2]? = some (.cells #[.int .i64 0, .string ⟨#[]⟩, .slice none 0 0, .string ⟨#[]⟩, .slice none 0 0, .string ⟨#[]⟩, .slice none 0 0, .slice none 0 0, .int .i64 0, .slice none 0 0, .string ⟨#[]⟩, .int .i64 0, .bool false] 113)) := by show _ = _; rw [hW17, heap_setCell_other _ _ _ _ HNv2v3.out]; exact HBv2_16.out
  have ER_17 : Hid (RowsO (w17) w.heap.size ([(⟨135, 2, (.slice o2 d.qfs.length p2), d.qfs.length, flatF d.qfs⟩ : Rw), (⟨3, 1, (.slice o4 d.who.length p4), d.who.length, d.who.map (Value.int .i64)⟩ : Rw), (⟨9, 1, (.slice o6 d.oxs.length p6), d.oxs.length, d.oxs.map Value.string⟩ : Rw), (⟨9, 1, (.slice o7 d.oys.length p7), d.oys.length, d.oys.map Value.string⟩ : Rw), (⟨135, 2, (.slice o9 d.ofs.length p9), d.ofs.length, flatF d.ofs⟩ : Rw)])) := by show RowsO _ _ _; rw [hW17]; exact RowsO.other ER_16.out HBv3_16.out HT5.out
  have HBv3_17 : Hid ((w17).heap[qv3]? = some (.cells #[.int .i64 d.qmt, .string d.qpa, .slice o2 d.qfs.length p2, .string d.qbd, .slice o4 d.who.length p4, .string d.opa, .slice o6 d.oxs.length p6, .slice o7 d.oys.length p7, .int .i64 d.ost, .slice o9 d.ofs.length p9, .string d.obd, .int .i64 0, .bool false] 113)) := by show _ = _; rw [hW17]; have h := heap_set _ _ 10 _ _ _ (.string d.obd) HBv3_16.out; simpa using h
  clear hb16 HBv1_16 HBv2_16 HBv3_16 ER_16 hW17
  obtain ⟨w18, hW18⟩ : ∃ W, W = (w17).setCell ⟨qv3, 11, none⟩ (.int .i64 d.otm) := ⟨_, rfl⟩
  rw [← hW18]
  have hb18 : Below w.heap.size w (w18) := by rw [hW18]; exact (hb17.setCell (p := ⟨qv3, 11, none⟩) HGv3.out _)
  have HBv1_18 : Hid ((w18).heap[qv1]? = some (.cells #[.int .i64 d.qmt, .string d.qpa, .slice a2 d.qfs.length c2, .string d.qbd, .slice a4 d.who.length c4, .string d.opa, .slice a6 d.oxs.length c6, .slice a7 d.oys.length c7, .int .i64 d.ost, .slice a9 d.ofs.length c9, .string d.obd, .int .i64 d.otm, .bool d.has] 101)) := by show _ = _; rw [hW18, heap_setCell_other _ _ _ _ HNv1v3.out]; exact HBv1_17.out
  have HBv2_18 : Hid ((w18).heap[qv2]? = some (.cells #[.int .i64 0, .string ⟨#[]⟩, .slice none 0 0, .string ⟨#[]⟩, .slice none 0 0, .string ⟨#[]⟩, .slice none 0 0, .slice none 0 0, .int .i64 0, .slice none 0 0, .string ⟨#[]⟩, .int .i64 0, .bool false] 113)) := by show _ = _; rw [hW18, heap_setCell_other _ _ _ _ HNv2v3.out]; exact HBv2_17.out
  have ER_18 : Hid (RowsO (w18) w.heap.size ([(⟨135, 2, (.slice o2 d.qfs.length p2), d.qfs.length, flatF d.qfs⟩ : Rw), (⟨3, 1, (.slice o4 d.who.length p4), d.who.length, d.who.map (Value.int .i64)⟩ : Rw), (⟨9, 1, (.slice o6 d.oxs.length p6), d.oxs.length, d.oxs.map Value.string⟩ : Rw), (⟨9, 1, (.slice o7 d.oys.length p7), d.oys.length, d.oys.map Value.string⟩ : Rw), (⟨135, 2, (.slice o9 d.ofs.length p9), d.ofs.length, flatF d.ofs⟩ : Rw)])) := by show RowsO _ _ _; rw [hW18]; exact RowsO.other ER_17.out HBv3_17.out HT5.out
  have HBv3_18 : Hid ((w18).heap[qv3]? = some (.cells #[.int .i64 d.qmt, .string d.qpa, .slice o2 d.qfs.length p2, .string d.qbd, .slice o4 d.who.length p4, .string d.opa, .slice o6 d.oxs.length p6, .slice o7 d.oys.length p7, .int .i64 d.ost, .slice o9 d.ofs.length p9, .string d.obd, .int .i64 d.otm, .bool false] 113)) := by show _ = _; rw [hW18]; have h := heap_set _ _ 11 _ _ _ (.int .i64 d.otm) HBv3_17.out; simpa using h
  clear hb17 HBv1_17 HBv2_17 HBv3_17 ER_17 hW18
  clear cv3_5 fcv3_5 cv3_6 fcv3_6 cv3_7 fcv3_7 cv3_8 fcv3_8 cv3_9 fcv3_9 cv3_10 fcv3_10 cv3_11 fcv3_11
  have cv1_12 : (w18).cell? ⟨qv1, 12, none⟩ = some (.bool d.has) := (cell_of HBv1_18.out 12).trans rfl
  have cv3_12 : (w18).cell? ⟨qv3, 12, none⟩ = some (.bool false) := (cell_of HBv3_18.out 12).trans rfl
  have fcv3_12 : (w18).frozen? ⟨qv3, 12, none⟩ = false := frozen_of HBv3_18.out 12
  go_upto_region 6 with fail
  obtain ⟨w19, hW19⟩ : ∃ W, W = (w18).setCell ⟨qv3, 12, none⟩ (.bool d.has) := ⟨_, rfl⟩
  rw [← hW19]
  have hb19 : Below w.heap.size w (w19) := by rw [hW19]; exact (hb18.setCell (p := ⟨qv3, 12, none⟩) HGv3.out _)
  have HBv1_19 : Hid ((w19).heap[qv1]? = some (.cells #[.int .i64 d.qmt, .string d.qpa, .slice a2 d.qfs.length c2, .string d.qbd, .slice a4 d.who.length c4, .string d.opa, .slice a6 d.oxs.length c6, .slice a7 d.oys.length c7, .int .i64 d.ost, .slice a9 d.ofs.length c9, .string d.obd, .int .i64 d.otm, .bool d.has] 101)) := by show _ = _; rw [hW19, heap_setCell_other _ _ _ _ HNv1v3.out]; exact HBv1_18.out
  have HBv2_19 : Hid ((w19).heap[qv2]? = some (.cells #[.int .i64 0, .string ⟨#[]⟩, .slice none 0 0, .string ⟨#[]⟩, .slice none 0 0, .string ⟨#[]⟩, .slice none 0 0, .slice none 0 0, .int .i64 0, .slice none 0 0, .string ⟨#[]⟩, .int .i64 0, .bool false] 113)) := by show _ = _; rw [hW19, heap_setCell_other _ _ _ _ HNv2v3.out]; exact HBv2_18.out
  have ER_19 : Hid (RowsO (w19) w.heap.size ([(⟨135, 2, (.slice o2 d.qfs.length p2), d.qfs.length, flatF d.qfs⟩ : Rw), (⟨3, 1, (.slice o4 d.who.length p4), d.who.length, d.who.map (Value.int .i64)⟩ : Rw), (⟨9, 1, (.slice o6 d.oxs.length p6), d.oxs.length, d.oxs.map Value.string⟩ : Rw), (⟨9, 1, (.slice o7 d.oys.length p7), d.oys.length, d.oys.map Value.string⟩ : Rw), (⟨135, 2, (.slice o9 d.ofs.length p9), d.ofs.length, flatF d.ofs⟩ : Rw)])) := by show RowsO _ _ _; rw [hW19]; exact RowsO.other ER_18.out HBv3_18.out HT5.out
  have HBv3_19 : Hid ((w19).heap[qv3]? = some (.cells #[.int .i64 d.qmt, .string d.qpa, .slice o2 d.qfs.length p2, .string d.qbd, .slice o4 d.who.length p4, .string d.opa, .slice o6 d.oxs.length p6, .slice o7 d.oys.length p7, .int .i64 d.ost, .slice o9 d.ofs.length p9, .string d.obd, .int .i64 d.otm, .bool d.has] 113)) := by show _ = _; rw [hW19]; have h := heap_set _ _ 12 _ _ _ (.bool d.has) HBv3_18.out; simpa using h
  clear hb18 HBv1_18 HBv2_18 HBv3_18 ER_18 hW19
  clear cv1_12 cv3_12 fcv3_12
  have cv2_0 : (w19).cell? ⟨qv2, 0, none⟩ = some (.int .i64 0) := (cell_of HBv2_19.out 0).trans rfl
  have fcv2_0 : (w19).frozen? ⟨qv2, 0, none⟩ = false := frozen_of HBv2_19.out 0
  have cv2_1 : (w19).cell? ⟨qv2, 1, none⟩ = some (.string ⟨#[]⟩) := (cell_of HBv2_19.out 1).trans rfl
  have fcv2_1 : (w19).frozen? ⟨qv2, 1, none⟩ = false := frozen_of HBv2_19.out 1
  have cv2_2 : (w19).cell? ⟨qv2, 2, none⟩ = some (.slice none 0 0) := (cell_of HBv2_19.out 2).trans rfl
  have fcv2_2 : (w19).frozen? ⟨qv2, 2, none⟩ = false := frozen_of HBv2_19.out 2
  have cv2_3 : (w19).cell? ⟨qv2, 3, none⟩ = some (.string ⟨#[]⟩) := (cell_of HBv2_19.out 3).trans rfl
  have fcv2_3 : (w19).frozen? ⟨qv2, 3, none⟩ = false := frozen_of HBv2_19.out 3
  have cv2_4 : (w19).cell? ⟨qv2, 4, none⟩ = some (.slice none 0 0) := (cell_of HBv2_19.out 4).trans rfl
  have fcv2_4 : (w19).frozen? ⟨qv2, 4, none⟩ = false := frozen_of HBv2_19.out 4
  have cv2_5 : (w19).cell? ⟨qv2, 5, none⟩ = some (.string ⟨#[]⟩) := (cell_of HBv2_19.out 5).trans rfl
  have fcv2_5 : (w19).frozen? ⟨qv2, 5, none⟩ = false := frozen_of HBv2_19.out 5
  have cv2_6 : (w19).cell? ⟨qv2, 6, none⟩ = some (.slice none 0 0) := (cell_of HBv2_19.out 6).trans rfl
  have fcv2_6 : (w19).frozen? ⟨qv2, 6, none⟩ = false := frozen_of HBv2_19.out 6
  have cv2_7 : (w19).cell? ⟨qv2, 7, none⟩ = some (.slice none 0 0) := (cell_of HBv2_19.out 7).trans rfl
  have fcv2_7 : (w19).frozen? ⟨qv2, 7, none⟩ = false := frozen_of HBv2_19.out 7
  have cv2_8 : (w19).cell? ⟨qv2, 8, none⟩ = some (.int .i64 0) := (cell_of HBv2_19.out 8).trans rfl
  have fcv2_8 : (w19).frozen? ⟨qv2, 8, none⟩ = false := frozen_of HBv2_19.out 8
  have cv2_9 : (w19).cell? ⟨qv2, 9, none⟩ = some (.slice none 0 0) := (cell_of HBv2_19.out 9).trans rfl
  have fcv2_9 : (w19).frozen? ⟨qv2, 9, none⟩ = false := frozen_of HBv2_19.out 9
  have cv2_10 : (w19).cell? ⟨qv2, 10, none⟩ = some (.string ⟨#[]⟩) := (cell_of HBv2_19.out 10).trans rfl
  have fcv2_10 : (w19).frozen? ⟨qv2, 10, none⟩ = false := frozen_of HBv2_19.out 10
  have cv2_11 : (w19).cell? ⟨qv2, 11, none⟩ = some (.int .i64 0) := (cell_of HBv2_19.out 11).trans rfl
  have fcv2_11 : (w19).frozen? ⟨qv2, 11, none⟩ = false := frozen_of HBv2_19.out 11
  have cv2_12 : (w19).cell? ⟨qv2, 12, none⟩ = some (.bool false) := (cell_of HBv2_19.out 12).trans rfl
  have fcv2_12 : (w19).frozen? ⟨qv2, 12, none⟩ = false := frozen_of HBv2_19.out 12
  have cv3_0 : (w19).cell? ⟨qv3, 0, none⟩ = some (.int .i64 d.qmt) := (cell_of HBv3_19.out 0).trans rfl
  have cv3_1 : (w19).cell? ⟨qv3, 1, none⟩ = some (.string d.qpa) := (cell_of HBv3_19.out 1).trans rfl
  have cv3_2 : (w19).cell? ⟨qv3, 2, none⟩ = some (.slice o2 d.qfs.length p2) := (cell_of HBv3_19.out 2).trans rfl
  have cv3_3 : (w19).cell? ⟨qv3, 3, none⟩ = some (.string d.qbd) := (cell_of HBv3_19.out 3).trans rfl
  have cv3_4 : (w19).cell? ⟨qv3, 4, none⟩ = some (.slice o4 d.who.length p4) := (cell_of HBv3_19.out 4).trans rfl
  have cv3_5 : (w19).cell? ⟨qv3, 5, none⟩ = some (.string d.opa) := (cell_of HBv3_19.out 5).trans rfl
  have cv3_6 : (w19).cell? ⟨qv3, 6, none⟩ = some (.slice o6 d.oxs.length p6) := (cell_of HBv3_19.out 6).trans rfl
  have cv3_7 : (w19).cell? ⟨qv3, 7, none⟩ = some (.slice o7 d.oys.length p7) := (cell_of HBv3_19.out 7).trans rfl
  have cv3_8 : (w19).cell? ⟨qv3, 8, none⟩ = some (.int .i64 d.ost) := (cell_of HBv3_19.out 8).trans rfl
  have cv3_9 : (w19).cell? ⟨qv3, 9, none⟩ = some (.slice o9 d.ofs.length p9) := (cell_of HBv3_19.out 9).trans rfl
  have cv3_10 : (w19).cell? ⟨qv3, 10, none⟩ = some (.string d.obd) := (cell_of HBv3_19.out 10).trans rfl
  have cv3_11 : (w19).cell? ⟨qv3, 11, none⟩ = some (.int .i64 d.otm) := (cell_of HBv3_19.out 11).trans rfl
  have cv3_12 : (w19).cell? ⟨qv3, 12, none⟩ = some (.bool d.has) := (cell_of HBv3_19.out 12).trans rfl
  go_wp2_with fail
  obtain ⟨w20, hW20⟩ : ∃ W, W = (w19).setCell ⟨qv2, 0, none⟩ (.int .i64 d.qmt) := ⟨_, rfl⟩
  rw [← hW20]
  have hb20 : Below w.heap.size w (w20) := by rw [hW20]; exact (hb19.setCell (p := ⟨qv2, 0, none⟩) HGv2.out _)
  have HBv1_20 : Hid ((w20).heap[qv1]? = some (.cells #[.int .i64 d.qmt, .string d.qpa, .slice a2 d.qfs.length c2, .string d.qbd, .slice a4 d.who.length c4, .string d.opa, .slice a6 d.oxs.length c6, .slice a7 d.oys.length c7, .int .i64 d.ost, .slice a9 d.ofs.length c9, .string d.obd, .int .i64 d.otm, .bool d.has] 101)) := by show _ = _; rw [hW20, heap_setCell_other _ _ _ _ HNv1v2.out]; exact HBv1_19.out
  have HBv3_20 : Hid ((w20).heap[qv3]? = some (.cells #[.int .i64 d.qmt, .string d.qpa, .slice o2 d.qfs.length p2, .string d.qbd, .slice o4 d.who.length p4, .string d.opa, .slice o6 d.oxs.length p6, .slice o7 d.oys.length p7, .int .i64 d.ost, .slice o9 d.ofs.length p9, .string d.obd, .int .i64 d.otm, .bool d.has] 113)) := by show _ = _; rw [hW20, heap_setCell_other _ _ _ _ HNv2v3.out.symm]; exact HBv3_19.out
  have ER_20 : Hid (RowsO (w20) w.heap.size ([(⟨135, 2, (.slice o2 d.qfs.length p2), d.qfs.length, flatF d.qfs⟩ : Rw), (⟨3, 1, (.slice o4 d.who.length p4), d.who.length, d.who.map (Value.int .i64)⟩ : Rw), (⟨9, 1, (.slice o6 d.oxs.length p6), d.oxs.length, d.oxs.map Value.string⟩ : Rw), (⟨9, 1, (.slice o7 d.oys.length p7), d.oys.length, d.oys.map Value.string⟩ : Rw), (⟨135, 2, (.slice o9 d.ofs.length p9), d.ofs.length, flatF d.ofs⟩ : Rw)])) := by show RowsO _ _ _; rw [hW20]; exact RowsO.other ER_19.out HBv2_19.out HT5.out
  have HBv2_20 : Hid ((w20).heap[qv2]? = some (.cells #[.int .i64 d.qmt, .string ⟨#[]⟩, .slice none 0 0, .string ⟨#[]⟩, .slice none 0 0, .string ⟨#[]⟩, .slice none 0 0, .slice none 0 0, .int .i64 0, .slice none 0 0, .string ⟨#[]⟩, .int .i64 0, .bool false] 113)) := by show _ = _; rw [hW20]; have h := heap_set _ _ 0 _ _ _ (.int .i64 d.qmt) HBv2_19.out; simpa using h
  clear hb19 HBv1_19 HBv2_19 HBv3_19 ER_19 hW20
  obtain ⟨w21, hW21⟩ : ∃ W, W = (w20).setCell ⟨qv2, 1, none⟩ (.string d.qpa) := ⟨_, rfl⟩
  rw [← hW21]
  have hb21 : Below w.heap.size w (w21) := by rw [hW21]; exact (hb20.setCell (p := ⟨qv2, 1, none⟩) HGv2.out _)
  have HBv1_21 : Hid ((w21).heap[qv1]? = some (.cells #[.int .i64 d.qmt, .string d.qpa, .slice a2 d.qfs.length c2, .string d.qbd, .slice a4 d.who.length c4, .string d.opa, .slice a6 d.oxs.length c6, .slice a7 d.oys.length c7, .int .i64 d.ost, .slice a9 d.ofs.length c9, .string d.obd, .int .i64 d.otm, .bool d.has] 101)) := by show _ = _; rw [hW21, heap_setCell_other _ _ _ _ HNv1v2.out]; exact HBv1_20.out
  have HBv3_21 : Hid ((w21).heap[qv3]? = some (.cells #[.int .i64 d.qmt, .string d.qpa, .slice o2 d.qfs.length p2, .string d.qbd, .slice o4 d.who.length p4, .string d.opa, .slice o6 d.oxs.length p6, .slice o7 d.oys.length p7, .int .i64 d.ost, .slice o9 d.ofs.length p9, .string d.obd, .int .i64 d.otm, .bool d.has] 113)) := by show _ = _; rw [hW21, heap_setCell_other _ _ _ _ HNv2v3.out.symm]; exact HBv3_20.out
  have ER_21 : Hid (RowsO (w21) w.heap.size ([(⟨135, 2, (.slice o2 d.qfs.length p2), d.qfs.length, flatF d.qfs⟩ : Rw), (⟨3, 1, (.slice o4 d.who.length p4), d.who.length, d.who.map (Value.int .i64)⟩ : Rw), (⟨9, 1, (.slice o6 d.oxs.length p6), d.oxs.length, d.oxs.map Value.string⟩ : Rw), (⟨9, 1, (.slice o7 d.oys.length p7), d.oys.length, d.oys.map Value.string⟩ : Rw), (⟨135, 2, (.slice o9 d.ofs.length p9), d.ofs.length, flatF d.ofs⟩ : Rw)])) := by show RowsO _ _ _; rw [hW21]; exact RowsO.other ER_20.out HBv2_20.out HT5.out
  have HBv2_21 : Hid ((w21).heap[qv2]? = some (.cells #[.int .i64 d.qmt, .string d.qpa, .slice none 0 0, .string ⟨#[]⟩, .slice none 0 0, .string ⟨#[]⟩, .slice none 0 0, .slice none 0 0, .int .i64 0, .slice none 0 0, .string ⟨#[]⟩, .int .i64 0, .bool false] 113)) := by show _ = _; rw [hW21]; have h := heap_set _ _ 1 _ _ _ (.string d.qpa) HBv2_20.out; simpa using h
  clear hb20 HBv1_20 HBv2_20 HBv3_20 ER_20 hW21
  obtain ⟨w22, hW22⟩ : ∃ W, W = (w21).setCell ⟨qv2, 2, none⟩ (.slice o2 d.qfs.length p2) := ⟨_, rfl⟩
  rw [← hW22]
  have hb22 : Below w.heap.size w (w22) := by rw [hW22]; exact (hb21.setCell (p := ⟨qv2, 2, none⟩) HGv2.out _)
  have HBv1_22 : Hid ((w22).heap[qv1]? = some (.cells #[.int .i64 d.qmt, .string d.qpa, .slice a2 d.qfs.length c2, .string d.qbd, .slice a4 d.who.length c4, .string d.opa, .slice a6 d.oxs.length c6, .slice a7 d.oys.length c7, .int .i64 d.ost, .slice a9 d.ofs.length c9, .string d.obd, .int .i64 d.otm, .bool d.has] 101)) := by show _ = _; rw [hW22, heap_setCell_other _ _ _ _ HNv1v2.out]; exact HBv1_21.out
  have HBv3_22 : Hid ((w22).heap[qv3]? = some (.cells #[.int .i64 d.qmt, .string d.qpa, .slice o2 d.qfs.length p2, .string d.qbd, .slice o4 d.who.length p4, .string d.opa, .slice o6 d.oxs.length p6, .slice o7 d.oys.length p7, .int .i64 d.ost, .slice o9 d.ofs.length p9, .string d.obd, .int .i64 d.otm, .bool d.has] 113)) := by show _ = _; rw [hW22, heap_setCell_other _ _ _ _ HNv2v3.out.symm]; exact HBv3_21.out
  have ER_22 : Hid (RowsO (w22) w.heap.size ([(⟨135, 2, (.slice o2 d.qfs.length p2), d.qfs.length, flatF d.qfs⟩ : Rw), (⟨3, 1, (.slice o4 d.who.length p4), d.who.length, d.who.map (Value.int .i64)⟩ : Rw), (⟨9, 1, (.slice o6 d.oxs.length p6), d.oxs.length, d.oxs.map Value.string⟩ : Rw), (⟨9, 1, (.slice o7 d.oys.length p7), d.oys.length, d.oys.map Value.string⟩ : Rw), (⟨135, 2, (.slice o9 d.ofs.length p9), d.ofs.length, flatF d.ofs⟩ : Rw)])) := by show RowsO _ _ _; rw [hW22]; exact RowsO.other ER_21.out HBv2_21.out HT5.out
  have HBv2_22 : Hid ((w22).heap[qv2]? = some (.cells #[.int .i64 d.qmt, .string d.qpa, .slice o2 d.qfs.length p2, .string ⟨#[]⟩, .slice none 0 0, .string ⟨#[]⟩, .slice none 0 0, .slice none 0 0, .int .i64 0, .slice none 0 0, .string ⟨#[]⟩, .int .i64 0, .bool false] 113)) := by show _ = _; rw [hW22]; have h := heap_set _ _ 2 _ _ _ (.slice o2 d.qfs.length p2) HBv2_21.out; simpa using h
  clear hb21 HBv1_21 HBv2_21 HBv3_21 ER_21 hW22
  obtain ⟨w23, hW23⟩ : ∃ W, W = (w22).setCell ⟨qv2, 3, none⟩ (.string d.qbd) := ⟨_, rfl⟩
  rw [← hW23]
  have hb23 : Below w.heap.size w (w23) := by rw [hW23]; exact (hb22.setCell (p := ⟨qv2, 3, none⟩) HGv2.out _)
  have HBv1_23 : Hid ((w23).heap[qv1]? = some (.cells #[.int .i64 d.qmt, .string d.qpa, .slice a2 d.qfs.length c2, .string d.qbd, .slice a4 d.who.length c4, .string d.opa, .slice a6 d.oxs.length c6, .slice a7 d.oys.length c7, .int .i64 d.ost, .slice a9 d.ofs.length c9, .string d.obd, .int .i64 d.otm, .bool d.has] 101)) := by show _ = _; rw [hW23, heap_setCell_other _ _ _ _ HNv1v2.out]; exact HBv1_22.out
  have HBv3_23 : Hid ((w23).heap[qv3]? = some (.cells #[.int .i64 d.qmt, .string d.qpa, .slice o2 d.qfs.length p2, .string d.qbd, .slice o4 d.who.length p4, .string d.opa, .slice o6 d.oxs.length p6, .slice o7 d.oys.length p7, .int .i64 d.ost, .slice o9 d.ofs.length p9, .string d.obd, .int .i64 d.otm, .bool d.has] 113)) := by show _ = _; rw [hW23, heap_setCell_other _ _ _ _ HNv2v3.out.symm]; exact HBv3_22.out
  have ER_23 : Hid (RowsO (w23) w.heap.size ([(⟨135, 2, (.slice o2 d.qfs.length p2), d.qfs.length, flatF d.qfs⟩ : Rw), (⟨3, 1, (.slice o4 d.who.length p4), d.who.length, d.who.map (Value.int .i64)⟩ : Rw), (⟨9, 1, (.slice o6 d.oxs.length p6), d.oxs.length, d.oxs.map Value.string⟩ : Rw), (⟨9, 1, (.slice o7 d.oys.length p7), d.oys.length, d.oys.map Value.string⟩ : Rw), (⟨135, 2, (.slice o9 d.ofs.length p9), d.ofs.length, flatF d.ofs⟩ : Rw)])) := by show RowsO _ _ _; rw [hW23]; exact RowsO.other ER_22.out HBv2_22.out HT5.out
  have HBv2_23 : Hid ((w23).heap[qv2]? = some (.cells #[.int .i64 d.qmt, .string d.qpa, .slice o2 d.qfs.length p2, .string d.qbd, .slice none 0 0, .string ⟨#[]⟩, .slice none 0 0, .slice none 0 0, .int .i64 0, .slice none 0 0, .string ⟨#[]⟩, .int .i64 0, .bool false] 113)) := by show _ = _; rw [hW23]; have h := heap_set _ _ 3 _ _ _ (.string d.qbd) HBv2_22.out; simpa using h
  clear hb22 HBv1_22 HBv2_22 HBv3_22 ER_22 hW23
  obtain ⟨w24, hW24⟩ : ∃ W, W = (w23).setCell ⟨qv2, 4, none⟩ (.slice o4 d.who.length p4) := ⟨_, rfl⟩
  rw [← hW24]
  have hb24 : Below w.heap.size w (w24) := by rw [hW24]; exact (hb23.setCell (p := ⟨qv2, 4, none⟩) HGv2.out _)
  have HBv1_24 : Hid ((w24).heap[qv1]? = some (.cells #[.int .i64 d.qmt, .string d.qpa, .slice a2 d.qfs.length c2, .string d.qbd, .slice a4 d.who.length c4, .string d.opa, .slice a6 d.oxs.length c6, .slice a7 d.oys.length c7, .int .i64 d.ost, .slice a9 d.ofs.length c9, .string d.obd, .int .i64 d.otm, .bool d.has] 101)) := by show _ = _; rw [hW24, heap_setCell_other _ _ _ _ HNv1v2.out]; exact HBv1_23.out
  have HBv3_24 : Hid ((w24).heap[qv3]? = some (.cells #[.int .i64 d.qmt, .string d.qpa, .slice o2 d.qfs.length p2, .string d.qbd, .slice o4 d.who.length p4, .string d.opa, .slice o6 d.oxs.length p6, .slice o7 d.oys.length p7, .int .i64 d.ost, .slice o9 d.ofs.length p9, .string d.obd, .int .i64 d.otm, .bool d.has] 113)) := by show _ = _; rw [hW24, heap_setCell_other _ _ _ _ HNv2v3.out.symm]; exact HBv3_23.out
  have ER_24 : Hid (RowsO (w24) w.heap.size ([(⟨135, 2, (.slice o2 d.qfs.length p2), d.qfs.length, flatF d.qfs⟩ : Rw), (⟨3, 1, (.slice o4 d.who.length p4), d.who.length, d.who.map (Value.int .i64)⟩ : Rw), (⟨9, 1, (.slice o6 d.oxs.length p6), d.oxs.length, d.oxs.map Value.string⟩ : Rw), (⟨9, 1, (.slice o7 d.oys.length p7), d.oys.length, d.oys.map Value.string⟩ : Rw), (⟨135, 2, (.slice o9 d.ofs.length p9), d.ofs.length, flatF d.ofs⟩ : Rw)])) := by show RowsO _ _ _; rw [hW24]; exact RowsO.other ER_23.out HBv2_23.out HT5.out
  have HBv2_24 : Hid ((w24).heap[qv2]? = some (.cells #[.int .i64 d.qmt, .string d.qpa, .slice o2 d.qfs.length p2, .string d.qbd, .slice o4 d.who.length p4, .string ⟨#[]⟩, .slice none 0 0, .slice none 0 0, .int .i64 0, .slice none 0 0, .string ⟨#[]⟩, .int .i64 0, .bool false] 113)) := by show _ = _; rw [hW24]; have h := heap_set _ _ 4 _ _ _ (.slice o4 d.who.length p4) HBv2_23.out; simpa using h
  clear hb23 HBv1_23 HBv2_23 HBv3_23 ER_23 hW24
  obtain ⟨w25, hW25⟩ : ∃ W, W = (w24).setCell ⟨qv2, 5, none⟩ (.string d.opa) := ⟨_, rfl⟩
  rw [← hW25]
  have hb25 : Below w.heap.size w (w25) := by rw [hW25]; exact (hb24.setCell (p := ⟨qv2, 5, none⟩) HGv2.out _)
  have HBv1_25 : Hid ((w25).heap[qv1]? = some (.cells #[.int .i64 d.qmt, .string d.qpa, .slice a2 d.qfs.length c2, .string d.qbd, .slice a4 d.who.length c4, .string d.opa, .slice a6 d.oxs.length c6, .slice a7 d.oys.length c7, .int .i64 d.ost, .slice a9 d.ofs.length c9, .string d.obd, .int .i64 d.otm, .bool d.has] 101)) := by show _ = _; rw [hW25, heap_setCell_other _ _ _ _ HNv1v2.out]; exact HBv1_24.out
  have HBv3_25 : Hid ((w25).heap[qv3]? = some (.cells #[.int .i64 d.qmt, .string d.qpa, .slice o2 d.qfs.length p2, .string d.qbd, .slice o4 d.who.length p4, .string d.opa, .slice o6 d.oxs.length p6, .slice o7 d.oys.length p7, .int .i64 d.ost, .slice o9 d.ofs.length p9, .string d.obd, .int .i64 d.otm, .bool d.has] 113)) := by show _ = _; rw [hW25, heap_setCell_other _ _ _ _ HNv2v3.out.symm]; exact HBv3_24.out
  have ER_25 : Hid (RowsO (w25) w.heap.size ([(⟨135, 2, (.slice o2 d.qfs.length p2), d.qfs.length, flatF d.qfs⟩ : Rw), (⟨3, 1, (.slice o4 d.who.length p4), d.who.length, d.who.map (Value.int .i64)⟩ : Rw), (⟨9, 1, (.slice o6 d.oxs.length p6), d.oxs.length, d.oxs.map Value.string⟩ : Rw), (⟨9, 1, (.slice o7 d.oys.length p7), d.oys.length, d.oys.map Value.string⟩ : Rw), (⟨135, 2, (.slice o9 d.ofs.length p9), d.ofs.length, flatF d.ofs⟩ : Rw)])) := by show RowsO _ _ _; rw [hW25]; exact RowsO.other ER_24.out HBv2_24.out HT5.out
  have HBv2_25 : Hid ((w25).heap[qv2]? = some (.cells #[.int .i64 d.qmt, .string d.qpa, .slice o2 d.qfs.length p2, .string d.qbd, .slice o4 d.who.length p4, .string d.opa, .slice none 0 0, .slice none 0 0, .int .i64 0, .slice none 0 0, .string ⟨#[]⟩, .int .i64 0, .bool false] 113)) := by show _ = _; rw [hW25]; have h := heap_set _ _ 5 _ _ _ (.string d.opa) HBv2_24.out; simpa using h
  clear hb24 HBv1_24 HBv2_24 HBv3_24 ER_24 hW25
  obtain ⟨w26, hW26⟩ : ∃ W, W = (w25).setCell ⟨qv2, 6, none⟩ (.slice o6 d.oxs.length p6) := ⟨_, rfl⟩
  rw [← hW26]
  have hb26 : Below w.heap.size w (w26) := by rw [hW26]; exact (hb25.setCell (p := ⟨qv2, 6, none⟩) HGv2.out _)
  have HBv1_26 : Hid ((w26).heap[qv1]? = some (.cells #[.int .i64 d.qmt, .string d.qpa, .slice a2 d.qfs.length c2, .string d.qbd, .slice a4 d.who.length c4, .string d.opa, .slice a6 d.oxs.length c6, .slice a7 d.oys.length c7, .int .i64 d.ost, .slice a9 d.ofs.length c9, .string d.obd, .int .i64 d.otm, .bool d.has] 101)) := by show _ = _; rw [hW26, heap_setCell_other _ _ _ _ HNv1v2.out]; exact HBv1_25.out
  have HBv3_26 : Hid ((w26).heap[qv3]? = some (.cells #[.int .i64 d.qmt, .string d.qpa, .slice o2 d.qfs.length p2, .string d.qbd, .slice o4 d.who.length p4, .string d.opa, .slice o6 d.oxs.length p6, .slice o7 d.oys.length p7, .int .i64 d.ost, .slice o9 d.ofs.length p9, .string d.obd, .int .i64 d.otm, .bool d.has] 113)) := by show _ = _; rw [hW26, heap_setCell_other _ _ _ _ HNv2v3.out.symm]; exact HBv3_25.out
  have ER_26 : Hid (RowsO (w26) w.heap.size ([(⟨135, 2, (.slice o2 d.qfs.length p2), d.qfs.length, flatF d.qfs⟩ : Rw), (⟨3, 1, (.slice o4 d.who.length p4), d.who.length, d.who.map (Value.int .i64)⟩ : Rw), (⟨9, 1, (.slice o6 d.oxs.length p6), d.oxs.length, d.oxs.map Value.string⟩ : Rw), (⟨9, 1, (.slice o7 d.oys.length p7), d.oys.length, d.oys.map Value.string⟩ : Rw), (⟨135, 2, (.slice o9 d.ofs.length p9), d.ofs.length, flatF d.ofs⟩ : Rw)])) := by show RowsO _ _ _; rw [hW26]; exact RowsO.other ER_25.out HBv2_25.out HT5.out
  have HBv2_26 : Hid ((w26).heap[qv2]? = some (.cells #[.int .i64 d.qmt, .string d.qpa, .slice o2 d.qfs.length p2, .string d.qbd, .slice o4 d.who.length p4, .string d.opa, .slice o6 d.oxs.length p6, .slice none 0 0, .int .i64 0, .slice none 0 0, .string ⟨#[]⟩, .int .i64 0, .bool false] 113)) := by show _ = _; rw [hW26]; have h := heap_set _ _ 6 _ _ _ (.slice o6 d.oxs.length p6) HBv2_25.out; simpa using h
  clear hb25 HBv1_25 HBv2_25 HBv3_25 ER_25 hW26
  obtain ⟨w27, hW27⟩ : ∃ W, W = (w26).setCell ⟨qv2, 7, none⟩ (.slice o7 d.oys.length p7) := ⟨_, rfl⟩
  rw [← hW27]
  have hb27 : Below w.heap.size w (w27) := by rw [hW27]; exact (hb26.setCell (p := ⟨qv2, 7, none⟩) HGv2.out _)
  have HBv1_27 : Hid ((w27).heap[qv1]? = some (.cells #[.int .i64 d.qmt, .string d.qpa, .slice a2 d.qfs.length c2, .string d.qbd, .slice a4 d.who.length c4, .string d.opa, .slice a6 d.oxs.length c6, .slice a7 d.oys.length c7, .int .i64 d.ost, .slice a9 d.ofs.length c9, .string d.obd, .int .i64 d.otm, .bool d.has] 101)) := by show _ = _; rw [hW27, heap_setCell_other _ _ _ _ HNv1v2.out]; exact HBv1_26.out
  have HBv3_27 : Hid ((w27).heap[qv3]? = some (.cells #[.int .i64 d.qmt, .string d.qpa, .slice o2 d.qfs.length p2, .string d.qbd, .slice o4 d.who.length p4, .string d.opa, .slice o6 d.oxs.length p6, .slice o7 d.oys.length p7, .int .i64 d.ost, .slice o9 d.ofs.length p9, .string d.obd, .int .i64 d.otm, .bool d.has] 113)) := by show _ = _; rw [hW27, heap_setCell_other _ _ _ _ HNv2v3.out.symm]; exact HBv3_26.out
  have ER_27 : Hid (RowsO (w27) w.heap.size ([(⟨135, 2, (.slice o2 d.qfs.length p2), d.qfs.length, flatF d.qfs⟩ : Rw), (⟨3, 1, (.slice o4 d.who.length p4), d.who.length, d.who.map (Value.int .i64)⟩ : Rw), (⟨9, 1, (.slice o6 d.oxs.length p6), d.oxs.length, d.oxs.map Value.string⟩ : Rw), (⟨9, 1, (.slice o7 d.oys.length p7), d.oys.length, d.oys.map Value.string⟩ : Rw), (⟨135, 2, (.slice o9 d.ofs.length p9), d.ofs.length, flatF d.ofs⟩ : Rw)])) := by show RowsO _ _ _; rw [hW27]; exact RowsO.other ER_26.out HBv2_26.out HT5.out
  have HBv2_27 : Hid ((w27).heap[qv2]? = some (.cells #[.int .i64 d.qmt, .string d.qpa, .slice o2 d.qfs.length p2, .string d.qbd, .slice o4 d.who.length p4, .string d.opa, .slice o6 d.oxs.length p6, .slice o7 d.oys.length p7, .int .i64 0, .slice none 0 0, .string ⟨#[]⟩, .int .i64 0, .bool false] 113)) := by show _ = _; rw [hW27]; have h := heap_set _ _ 7 _ _ _ (.slice o7 d.oys.length p7) HBv2_26.out; simpa using h
  clear hb26 HBv1_26 HBv2_26 HBv3_26 ER_26 hW27
  obtain ⟨w28, hW28⟩ : ∃ W, W = (w27).setCell ⟨qv2, 8, none⟩ (.int .i64 d.ost) := ⟨_, rfl⟩
  rw [← hW28]
  have hb28 : Below w.heap.size w (w28) := by rw [hW28]; exact (hb27.setCell (p := ⟨qv2, 8, none⟩) HGv2.out _)
  have HBv1_28 : Hid ((w28).heap[qv1]? = some (.cells #[.int .i64 d.qmt, .string d.qpa, .slice a2 d.qfs.length c2, .string d.qbd, .slice a4 d.who.length c4, .string d.opa, .slice a6 d.oxs.length c6, .slice a7 d.oys.length c7, .int .i64 d.ost, .slice a9 d.ofs.length c9, .string d.obd, .int .i64 d.otm, .bool d.has] 101)) := by show _ = _; rw [hW28, heap_setCell_other _ _ _ _ HNv1v2.out]; exact HBv1_27.out
  have HBv3_28 : Hid ((w28).heap[qv3]? = some (.cells #[.int .i64 d.qmt, .string d.qpa, .slice o2 d.qfs.length p2, .string d.qbd, .slice o4 d.who.length p4, .string d.opa, .slice o6 d.oxs.length p6, .slice o7 d.oys.length p7, .int .i64 d.ost, .slice o9 d.ofs.length p9, .string d.obd, .int .i64 d.otm, .bool d.has] 113)) := by show _ = _; rw [hW28, heap_setCell_other _ _ _ _ HNv2v3.out.symm]; exact HBv3_27.out
  have ER_28 : Hid (RowsO (w28) w.heap.size ([(⟨135, 2, (.slice o2 d.qfs.length p2), d.qfs.length, flatF d.qfs⟩ : Rw), (⟨3, 1, (.slice o4 d.who.length p4), d.who.length, d.who.map (Value.int .i64)⟩ : Rw), (⟨9, 1, (.slice o6 d.oxs.length p6), d.oxs.length, d.oxs.map Value.string⟩ : Rw), (⟨9, 1, (.slice o7 d.oys.length p7), d.oys.length, d.oys.map Value.string⟩ : Rw), (⟨135, 2, (.slice o9 d.ofs.length p9), d.ofs.length, flatF d.ofs⟩ : Rw)])) := by show RowsO _ _ _; rw [hW28]; exact RowsO.other ER_27.out HBv2_27.out HT5.out
  have HBv2_28 : Hid ((w28).heap[qv2]? = some (.cells #[.int .i64 d.qmt, .string d.qpa, .slice o2 d.qfs.length p2, .string d.qbd, .slice o4 d.who.length p4, .string d.opa, .slice o6 d.oxs.length p6, .slice o7 d.oys.length p7, .int .i64 d.ost, .slice none 0 0, .string ⟨#[]⟩, .int .i64 0, .bool false] 113)) := by show _ = _; rw [hW28]; have h := heap_set _ _ 8 _ _ _ (.int .i64 d.ost) HBv2_27.out; simpa using h
  clear hb27 HBv1_27 HBv2_27 HBv3_27 ER_27 hW28
  obtain ⟨w29, hW29⟩ : ∃ W, W = (w28).setCell ⟨qv2, 9, none⟩ (.slice o9 d.ofs.length p9) := ⟨_, rfl⟩
  rw [← hW29]
  have hb29 : Below w.heap.size w (w29) := by rw [hW29]; exact (hb28.setCell (p := ⟨qv2, 9, none⟩) HGv2.out _)
  have HBv1_29 : Hid ((w29).heap[qv1]? = some (.cells #[.int .i64 d.qmt, .string d.qpa, .slice a2 d.qfs.length c2, .string d.qbd, .slice a4 d.who.length c4, .string d.opa, .slice a6 d.oxs.length c6, .slice a7 d.oys.length c7, .int .i64 d.ost, .slice a9 d.ofs.length c9, .string d.obd, .int .i64 d.otm, .bool d.has] 101)) := by show _ = _; rw [hW29, heap_setCell_other _ _ _ _ HNv1v2.out]; exact HBv1_28.out
  have HBv3_29 : Hid ((w29).heap[qv3]? = some (.cells #[.int .i64 d.qmt, .string d.qpa, .slice o2 d.qfs.length p2, .string d.qbd, .slice o4 d.who.length p4, .string d.opa, .slice o6 d.oxs.length p6, .slice o7 d.oys.length p7, .int .i64 d.ost, .slice o9 d.ofs.length p9, .string d.obd, .int .i64 d.otm, .bool d.has] 113)) := by show _ = _; rw [hW29, heap_setCell_other _ _ _ _ HNv2v3.out.symm]; exact HBv3_28.out
  have ER_29 : Hid (RowsO (w29) w.heap.size ([(⟨135, 2, (.slice o2 d.qfs.length p2), d.qfs.length, flatF d.qfs⟩ : Rw), (⟨3, 1, (.slice o4 d.who.length p4), d.who.length, d.who.map (Value.int .i64)⟩ : Rw), (⟨9, 1, (.slice o6 d.oxs.length p6), d.oxs.length, d.oxs.map Value.string⟩ : Rw), (⟨9, 1, (.slice o7 d.oys.length p7), d.oys.length, d.oys.map Value.string⟩ : Rw), (⟨135, 2, (.slice o9 d.ofs.length p9), d.ofs.length, flatF d.ofs⟩ : Rw)])) := by show RowsO _ _ _; rw [hW29]; exact RowsO.other ER_28.out HBv2_28.out HT5.out
  have HBv2_29 : Hid ((w29).heap[qv2]? = some (.cells #[.int .i64 d.qmt, .string d.qpa, .slice o2 d.qfs.length p2, .string d.qbd, .slice o4 d.who.length p4, .string d.opa, .slice o6 d.oxs.length p6, .slice o7 d.oys.length p7, .int .i64 d.ost, .slice o9 d.ofs.length p9, .string ⟨#[]⟩, .int .i64 0, .bool false] 113)) := by show _ = _; rw [hW29]; have h := heap_set _ _ 9 _ _ _ (.slice o9 d.ofs.length p9) HBv2_28.out; simpa using h
  clear hb28 HBv1_28 HBv2_28 HBv3_28 ER_28 hW29
  obtain ⟨w30, hW30⟩ : ∃ W, W = (w29).setCell ⟨qv2, 10, none⟩ (.string d.obd) := ⟨_, rfl⟩
  rw [← hW30]
  have hb30 : Below w.heap.size w (w30) := by rw [hW30]; exact (hb29.setCell (p := ⟨qv2, 10, none⟩) HGv2.out _)
  have HBv1_30 : Hid ((w30).heap[qv1]? = some (.cells #[.int .i64 d.qmt, .string d.qpa, .slice a2 d.qfs.length c2, .string d.qbd, .slice a4 d.who.length c4, .string d.opa, .slice a6 d.oxs.length c6, .slice a7 d.oys.length c7, .int .i64 d.ost, .slice a9 d.ofs.length c9, .string d.obd, .int .i64 d.otm, .bool d.has] 101)) := by show _ = _; rw [hW30, heap_setCell_other _ _ _ _ HNv1v2.out]; exact HBv1_29.out
  have HBv3_30 : Hid ((w30).heap[qv3]? = some (.cells #[.int .i64 d.qmt, .string d.qpa, .slice o2 d.qfs.length p2, .string d.qbd, .slice o4 d.who.length p4, .string d.opa, .slice o6 d.oxs.length p6, .slice o7 d.oys.length p7, .int .i64 d.ost, .slice o9 d.ofs.length p9, .string d.obd, .int .i64 d.otm, .bool d.has] 113)) := by show _ = _; rw [hW30, heap_setCell_other _ _ _ _ HNv2v3.out.symm]; exact HBv3_29.out
  have ER_30 : Hid (RowsO (w30) w.heap.size ([(⟨135, 2, (.slice o2 d.qfs.length p2), d.qfs.length, flatF d.qfs⟩ : Rw), (⟨3, 1, (.slice o4 d.who.length p4), d.who.length, d.who.map (Value.int .i64)⟩ : Rw), (⟨9, 1, (.slice o6 d.oxs.length p6), d.oxs.length, d.oxs.map Value.string⟩ : Rw), (⟨9, 1, (.slice o7 d.oys.length p7), d.oys.length, d.oys.map Value.string⟩ : Rw), (⟨135, 2, (.slice o9 d.ofs.length p9), d.ofs.length, flatF d.ofs⟩ : Rw)])) := by show RowsO _ _ _; rw [hW30]; exact RowsO.other ER_29.out HBv2_29.out HT5.out
  have HBv2_30 : Hid ((w30).heap[qv2]? = some (.cells #[.int .i64 d.qmt, .string d.qpa, .slice o2 d.qfs.length p2, .string d.qbd, .slice o4 d.who.length p4, .string d.opa, .slice o6 d.oxs.length p6, .slice o7 d.oys.length p7, .int .i64 d.ost, .slice o9 d.ofs.length p9, .string d.obd, .int .i64 0, .bool false] 113)) := by show _ = _; rw [hW30]; have h := heap_set _ _ 10 _ _ _ (.string d.obd) HBv2_29.out; simpa using h
  clear hb29 HBv1_29 HBv2_29 HBv3_29 ER_29 hW30
  obtain ⟨w31, hW31⟩ : ∃ W, W = (w30).setCell ⟨qv2, 11, none⟩ (.int .i64 d.otm) := ⟨_, rfl⟩
  rw [← hW31]
  have hb31 : Below w.heap.size w (w31) := by rw [hW31]; exact (hb30.setCell (p := ⟨qv2, 11, none⟩) HGv2.out _)
  have HBv1_31 : Hid ((w31).heap[qv1]? = some (.cells #[.int .i64 d.qmt, .string d.qpa, .slice a2 d.qfs.length c2, .string d.qbd, .slice a4 d.who.length c4, .string d.opa, .slice a6 d.oxs.length c6, .slice a7 d.oys.length c7, .int .i64 d.ost, .slice a9 d.ofs.length c9, .string d.obd, .int .i64 d.otm, .bool d.has] 101)) := by show _ = _; rw [hW31, heap_setCell_other _ _ _ _ HNv1v2.out]; exact HBv1_30.out
  have HBv3_31 : Hid ((w31).heap[qv3]? = some (.cells #[.int .i64 d.qmt, .string d.qpa, .slice o2 d.qfs.length p2, .string d.qbd, .slice o4 d.who.length p4, .string d.opa, .slice o6 d.oxs.length p6, .slice o7 d.oys.length p7, .int .i64 d.ost, .slice o9 d.ofs.length p9, .string d.obd, .int .i64 d.otm, .bool d.has] 113)) := by show _ = _; rw [hW31, heap_setCell_other _ _ _ _ HNv2v3.out.symm]; exact HBv3_30.out
  have ER_31 : Hid (RowsO (w31) w.heap.size ([(⟨135, 2, (.slice o2 d.qfs.length p2), d.qfs.length, flatF d.qfs⟩ : Rw), (⟨3, 1, (.slice o4 d.who.length p4), d.who.length, d.who.map (Value.int .i64)⟩ : Rw), (⟨9, 1, (.slice o6 d.oxs.length p6), d.oxs.length, d.oxs.map Value.string⟩ : Rw), (⟨9, 1, (.slice o7 d.oys.length p7), d.oys.length, d.oys.map Value.string⟩ : Rw), (⟨135, 2, (.slice o9 d.ofs.length p9), d.ofs.length, flatF d.ofs⟩ : Rw)])) := by show RowsO _ _ _; rw [hW31]; exact RowsO.other ER_30.out HBv2_30.out HT5.out
  have HBv2_31 : Hid ((w31).heap[qv2]? = some (.cells #[.int .i64 d.qmt, .string d.qpa, .slice o2 d.qfs.length p2, .string d.qbd, .slice o4 d.who.length p4, .string d.opa, .slice o6 d.oxs.length p6, .slice o7 d.oys.length p7, .int .i64 d.ost, .slice o9 d.ofs.length p9, .string d.obd, .int .i64 d.otm, .bool false] 113)) := by show _ = _; rw [hW31]; have h := heap_set _ _ 11 _ _ _ (.int .i64 d.otm) HBv2_30.out; simpa using h
  clear hb30 HBv1_30 HBv2_30 HBv3_30 ER_30 hW31
  obtain ⟨w32, hW32⟩ : ∃ W, W = (w31).setCell ⟨qv2, 12, none⟩ (.bool d.has) := ⟨_, rfl⟩
  rw [← hW32]
  have hb32 : Below w.heap.size w (w32) := by rw [hW32]; exact (hb31.setCell (p := ⟨qv2, 12, none⟩) HGv2.out _)
  have HBv1_32 : Hid ((w32).heap[qv1]? = some (.cells #[.int .i64 d.qmt, .string d.qpa, .slice a2 d.qfs.length c2, .string d.qbd, .slice a4 d.who.length c4, .string d.opa, .slice a6 d.oxs.length c6, .slice a7 d.oys.length c7, .int .i64 d.ost, .slice a9 d.ofs.length c9, .string d.obd, .int .i64 d.otm, .bool d.has] 101)) := by show _ = _; rw [hW32, heap_setCell_other _ _ _ _ HNv1v2.out]; exact HBv1_31.out
  have HBv3_32 : Hid ((w32).heap[qv3]? = some (.cells #[.int .i64 d.qmt, .string d.qpa, .slice o2 d.qfs.length p2, .string d.qbd, .slice o4 d.who.length p4, .string d.opa, .slice o6 d.oxs.length p6, .slice o7 d.oys.length p7, .int .i64 d.ost, .slice o9 d.ofs.length p9, .string d.obd, .int .i64 d.otm, .bool d.has] 113)) := by show _ = _; rw [hW32, heap_setCell_other _ _ _ _ HNv2v3.out.symm]; exact HBv3_31.out
  have ER_32 : Hid (RowsO (w32) w.heap.size ([(⟨135, 2, (.slice o2 d.qfs.length p2), d.qfs.length, flatF d.qfs⟩ : Rw), (⟨3, 1, (.slice o4 d.who.length p4), d.who.length, d.who.map (Value.int .i64)⟩ : Rw), (⟨9, 1, (.slice o6 d.oxs.length p6), d.oxs.length, d.oxs.map Value.string⟩ : Rw), (⟨9, 1, (.slice o7 d.oys.length p7), d.oys.length, d.oys.map Value.string⟩ : Rw), (⟨135, 2, (.slice o9 d.ofs.length p9), d.ofs.length, flatF d.ofs⟩ : Rw)])) := by show RowsO _ _ _; rw [hW32]; exact RowsO.other ER_31.out HBv2_31.out HT5.out
  have HBv2_32 : Hid ((w32).heap[qv2]? = some (.cells #[.int .i64 d.qmt, .string d.qpa, .slice o2 d.qfs.length p2, .string d.qbd, .slice o4 d.who.length p4, .string d.opa, .slice o6 d.oxs.length p6, .slice o7 d.oys.length p7, .int .i64 d.ost, .slice o9 d.ofs.length p9, .string d.obd, .int .i64 d.otm, .bool d.has] 113)) := by show _ = _; rw [hW32]; have h := heap_set _ _ 12 _ _ _ (.bool d.has) HBv2_31.out; simpa using h
  clear hb31 HBv1_31 HBv2_31 HBv3_31 ER_31 hW32
  have kv2_0 : (w32).cell? ⟨qv2, 0, none⟩ = some (.int .i64 d.qmt) := (cell_of HBv2_32.out 0).trans rfl
  have kv2_1 : (w32).cell? ⟨qv2, 1, none⟩ = some (.string d.qpa) := (cell_of HBv2_32.out 1).trans rfl
  have kv2_2 : (w32).cell? ⟨qv2, 2, none⟩ = some (.slice o2 d.qfs.length p2) := (cell_of HBv2_32.out 2).trans rfl
  have kv2_3 : (w32).cell? ⟨qv2, 3, none⟩ = some (.string d.qbd) := (cell_of HBv2_32.out 3).trans rfl
  have kv2_4 : (w32).cell? ⟨qv2, 4, none⟩ = some (.slice o4 d.who.length p4) := (cell_of HBv2_32.out 4).trans rfl
  have kv2_5 : (w32).cell? ⟨qv2, 5, none⟩ = some (.string d.opa) := (cell_of HBv2_32.out 5).trans rfl
  have kv2_6 : (w32).cell? ⟨qv2, 6, none⟩ = some (.slice o6 d.oxs.length p6) := (cell_of HBv2_32.out 6).trans rfl
  have kv2_7 : (w32).cell? ⟨qv2, 7, none⟩ = some (.slice o7 d.oys.length p7) := (cell_of HBv2_32.out 7).trans rfl
  have kv2_8 : (w32).cell? ⟨qv2, 8, none⟩ = some (.int .i64 d.ost) := (cell_of HBv2_32.out 8).trans rfl
  have kv2_9 : (w32).cell? ⟨qv2, 9, none⟩ = some (.slice o9 d.ofs.length p9) := (cell_of HBv2_32.out 9).trans rfl
  have kv2_10 : (w32).cell? ⟨qv2, 10, none⟩ = some (.string d.obd) := (cell_of HBv2_32.out 10).trans rfl
  have kv2_11 : (w32).cell? ⟨qv2, 11, none⟩ = some (.int .i64 d.otm) := (cell_of HBv2_32.out 11).trans rfl
  have kv2_12 : (w32).cell? ⟨qv2, 12, none⟩ = some (.bool d.has) := (cell_of HBv2_32.out 12).trans rfl
  refine bodyPost_ret (v := .agg #[.int .i64 d.qmt, .string d.qpa, .slice o2 d.qfs.length p2, .string d.qbd, .slice o4 d.who.length p4, .string d.opa, .slice o6 d.oxs.length p6, .slice o7 d.oys.length p7, .int .i64 d.ost, .slice o9 d.ofs.length p9, .string d.obd, .int .i64 d.otm, .bool d.has]) (by simp [results, Tryz.results46, go_sem, kv2_0, kv2_1, kv2_2, kv2_3, kv2_4, kv2_5, kv2_6, kv2_7, kv2_8, kv2_9, kv2_10, kv2_11, kv2_12]) rfl ?_
  exact ⟨⟨d, .slice o2 d.qfs.length p2, .slice o4 d.who.length p4, .slice o6 d.oxs.length p6, .slice o7 d.oys.length p7, .slice o9 d.ofs.length p9⟩, rfl, rfl, ER_32.out, hb32⟩

/-- No greater than may be. -/
structure FlMax (d : FlD) : Prop where
  qpa : d.qpa.size ≤ maxLen
  qfs : d.qfs.length ≤ maxLen ∧ WalkF d.qfs.length d.qfs
  qbd : d.qbd.size ≤ maxLen
  who : d.who.length ≤ maxLen
  opa : d.opa.size ≤ maxLen
  oxs : d.oxs.length ≤ maxLen ∧ ∀ i, i < d.oxs.length → (textAt d.oxs i).size ≤ maxLen
  oys : d.oys.length ≤ maxLen ∧ ∀ i, i < d.oys.length → (textAt d.oys i).size ≤ maxLen
  ofs : d.ofs.length ≤ maxLen ∧ WalkF d.ofs.length d.ofs
  obd : d.obd.size ≤ maxLen
/-- Small enough to be measured. -/
structure FlSmall (d : FlD) : Prop where
  qpa : d.qpa.size ≤ 1048576
  qfs : d.qfs.length ≤ 1048576 ∧ szTo d.qfs d.qfs.length ≤ 1048576
  qbd : d.qbd.size ≤ 1048576
  who : d.who.length ≤ 1048576
  opa : d.opa.size ≤ 1048576
  oxs : d.oxs.length ≤ 1048576 ∧ ∀ i, i < d.oxs.length → (textAt d.oxs i).size ≤ 1048576
  oys : d.oys.length ≤ 1048576 ∧ ∀ i, i < d.oys.length → (textAt d.oys i).size ≤ 1048576
  ofs : d.ofs.length ≤ 1048576 ∧ szTo d.ofs d.ofs.length ≤ 1048576
  obd : d.obd.size ≤ 1048576
theorem FlSmall.lens {d : FlD} (h : FlSmall d) : FlLen d := ⟨h.qfs.1, h.who, h.oxs.1, h.oys.1, h.ofs.1⟩
/-- How many there are, lists and their elements together. -/
def wtFl : List FlD → Nat
  | [] => 0
  | d :: r => 1 + (d.qfs.length + d.who.length + d.oxs.length + d.oys.length + d.ofs.length) + wtFl r
theorem wtFl_snoc (d : FlD) : ∀ l : List FlD, wtFl (l ++ [d]) = wtFl l + (1 + (d.qfs.length + d.who.length + d.oxs.length + d.oys.length + d.ofs.length))
  | [] => by simp [wtFl]
  | x :: l => by rw [List.cons_append, wtFl, wtFl_snoc d l, wtFl]; omega
theorem wtFl_ge : ∀ l : List FlD, l.length ≤ wtFl l
  | [] => Nat.le_refl _
  | x :: l => by rw [wtFl, List.length_cons]; have := wtFl_ge l; omega
def SzFl (L : Int) (d : FlD) (w : World) (e : Ending) (w' : World) : Prop :=
  ∃ r : Int, e = .returned (.int .i64 r) ∧ r ≤ L ∧ (0 ≤ r → r + ((d.qfs.length + d.who.length + d.oxs.length + d.oys.length + d.ofs.length : Nat) : Int) ≤ L ∧ FlSmall d) ∧ Below w.heap.size w w'

set_option maxHeartbeats 8000000 in
set_option maxRecDepth 100000 in
theorem szFlight_any (L : Int) (hL0 : 0 ≤ L) (hL1 : L ≤ 1048576) (d : FlD) (a2 : Option Addr) (c2 : Nat) (a4 : Option Addr) (c4 : Nat) (a6 : Option Addr) (c6 : Nat) (a7 : Option Addr) (c7 : Nat) (a9 : Option Addr) (c9 : Nat) (B : Nat) (w : World) (h2 : ArgF w B a2 d.qfs.length d.qfs) (h4 : ArgI w B a4 d.who.length d.who) (h6 : ArgT w B a6 d.oxs.length d.oxs) (h7 : ArgT w B a7 d.oys.length d.oys) (h9 : ArgF w B a9 d.ofs.length d.ofs) (hB : B ≤ w.heap.size) (hm : FlMax d) :
    Calls Tryz.prog 39 #[.agg #[.int .i64 d.qmt, .string d.qpa, .slice a2 d.qfs.length c2, .string d.qbd, .slice a4 d.who.length c4, .string d.opa, .slice a6 d.oxs.length c6, .slice a7 d.oys.length c7, .int .i64 d.ost, .slice a9 d.ofs.length c9, .string d.obd, .int .i64 d.otm, .bool d.has], .int .i64 L] w fun e w' => SzFl L d w e w' := by
  have HA2 : Hid (∀ W, Below w.heap.size w W → ArgF W B a2 d.qfs.length d.qfs) := fun W h => h2.below (h.mono hB)
  have HA4 : Hid (∀ W, Below w.heap.size w W → ArgI W B a4 d.who.length d.who) := fun W h => h4.below (h.mono hB)
  have HA6 : Hid (∀ W, Below w.heap.size w W → ArgT W B a6 d.oxs.length d.oxs) := fun W h => h6.below (h.mono hB)
  have HA7 : Hid (∀ W, Below w.heap.size w W → ArgT W B a7 d.oys.length d.oys) := fun W h => h7.below (h.mono hB)
  have HA9 : Hid (∀ W, Below w.heap.size w W → ArgF W B a9 d.ofs.length d.ofs) := fun W h => h9.below (h.mono hB)
  have HBB : Hid (∀ W, Below w.heap.size w W → B ≤ W.heap.size) := fun W h => Nat.le_trans hB h.size
  clear h2 h4 h6 h7 h9
  have HMX : Hid (FlMax d) := hm
  clear hm
  have hb0 : Below w.heap.size w w := Below.refl _ _
  go_enter Tryz.func39, Tryz.ntmps39
  go_upto_region 1 with fail
  obtain ⟨qv1, hqv1⟩ : ∃ q, q = (w).heap.size := ⟨_, rfl⟩
  obtain ⟨w1, hW1⟩ : ∃ W, W = (w).alloc (.cells #[.int .i64 d.qmt, .string d.qpa, .slice a2 d.qfs.length c2, .string d.qbd, .slice a4 d.who.length c4, .string d.opa, .slice a6 d.oxs.length c6, .slice a7 d.oys.length c7, .int .i64 d.ost, .slice a9 d.ofs.length c9, .string d.obd, .int .i64 d.otm, .bool d.has] 101) := ⟨_, rfl⟩
  have hz1 : (w).heap.size = qv1 := hqv1.symm
  first | rw [← hW1, ← hqv1] | rw [← hW1]
  have hs1 : w1.heap.size = qv1 + 1 := by rw [hW1, ← hz1]; simp
  have bw : Below (w).heap.size (w) w1 := by rw [hW1]; exact (Below.refl _ _).alloc (Nat.le_refl _) _
  have hb1 : Below w.heap.size w (w1) := hb0.trans (bw.mono hb0.size)
  have HBv1_1 : Hid ((w1).heap[qv1]? = some (.cells #[.int .i64 d.qmt, .string d.qpa, .slice a2 d.qfs.length c2, .string d.qbd, .slice a4 d.who.length c4, .string d.opa, .slice a6 d.oxs.length c6, .slice a7 d.oys.length c7, .int .i64 d.ost, .slice a9 d.ofs.length c9, .string d.obd, .int .i64 d.otm, .bool d.has] 101)) := by show _ = _; rw [hW1, ← hz1]; exact heap_alloc_new _ _
  clear hb0 bw hW1 hz1
  clear hs1 hqv1
  have cv1_0 : (w1).cell? ⟨qv1, 0, none⟩ = some (.int .i64 d.qmt) := (cell_of HBv1_1.out 0).trans rfl
  have cv1_1 : (w1).cell? ⟨qv1, 1, none⟩ = some (.string d.qpa) := (cell_of HBv1_1.out 1).trans rfl
  have cv1_2 : (w1).cell? ⟨qv1, 2, none⟩ = some (.slice a2 d.qfs.length c2) := (cell_of HBv1_1.out 2).trans rfl
  have cv1_3 : (w1).cell? ⟨qv1, 3, none⟩ = some (.string d.qbd) := (cell_of HBv1_1.out 3).trans rfl
  go_wp2_with fail
  refine (szReq_room L (by omega) (by omega) d.qmt d.qpa a2 d.qfs.length c2 d.qbd d.qfs _ (argUpF (HA2.out _ hb1) (HBB.out _ hb1)) HMX.out.qfs.1 HMX.out.qfs.2 HMX.out.qpa HMX.out.qbd).mono ?_
  rintro e w2 ⟨r1, rfl, hl1, hr1, bw⟩
  have hb2 : Below w.heap.size w (w2) := hb1.trans (bw.mono hb1.size)
  have HBv1_2 : Hid ((w2).heap[qv1]? = some (.cells #[.int .i64 d.qmt, .string d.qpa, .slice a2 d.qfs.length c2, .string d.qbd, .slice a4 d.who.length c4, .string d.opa, .slice a6 d.oxs.length c6, .slice a7 d.oys.length c7, .int .i64 d.ost, .slice a9 d.ofs.length c9, .string d.obd, .int .i64 d.otm, .bool d.has] 101)) := blk_below HBv1_1.out bw
  clear hb1 HBv1_1 bw
  clear cv1_0 cv1_1 cv1_2 cv1_3
  by_cases hc1 : r1 < 0
  · clear hr1
    go_wp2_with fail
    go_ret
    exact ⟨-1, rfl, by omega, fun h => absurd h (by omega), hb2⟩
  · have HR1 : Hid _ := hr1 (by omega)
    clear hr1
    have mr1 := HR1.out.1
    have cv1_4 : (w2).cell? ⟨qv1, 4, none⟩ = some (.slice a4 d.who.length c4) := (cell_of HBv1_2.out 4).trans rfl
    go_wp2_with fail
    refine (szIntS_room r1 (by omega) (by omega) a4 d.who.length c4 _ HMX.out.who).mono ?_
    rintro e w3 ⟨r2, rfl, hl2, hr2, bw⟩
    have hb3 : Below w.heap.size w (w3) := hb2.trans (bw.mono hb2.size)
    have HBv1_3 : Hid ((w3).heap[qv1]? = some (.cells #[.int .i64 d.qmt, .string d.qpa, .slice a2 d.qfs.length c2, .string d.qbd, .slice a4 d.who.length c4, .string d.opa, .slice a6 d.oxs.length c6, .slice a7 d.oys.length c7, .int .i64 d.ost, .slice a9 d.ofs.length c9, .string d.obd, .int .i64 d.otm, .bool d.has] 101)) := blk_below HBv1_2.out bw
    clear hb2 HBv1_2 bw
    clear cv1_4
    by_cases hc2 : r2 < 0
    · clear hr2
      go_wp2_with fail
      go_ret
      exact ⟨-1, rfl, by omega, fun h => absurd h (by omega), hb3⟩
    · have HR2 : Hid _ := hr2 (by omega)
      clear hr2
      have mr2 := HR2.out.1
      have cv1_5 : (w3).cell? ⟨qv1, 5, none⟩ = some (.string d.opa) := (cell_of HBv1_3.out 5).trans rfl
      have cv1_6 : (w3).cell? ⟨qv1, 6, none⟩ = some (.slice a6 d.oxs.length c6) := (cell_of HBv1_3.out 6).trans rfl
      have cv1_7 : (w3).cell? ⟨qv1, 7, none⟩ = some (.slice a7 d.oys.length c7) := (cell_of HBv1_3.out 7).trans rfl
      have cv1_8 : (w3).cell? ⟨qv1, 8, none⟩ = some (.int .i64 d.ost) := (cell_of HBv1_3.out 8).trans rfl
      have cv1_9 : (w3).cell? ⟨qv1, 9, none⟩ = some (.slice a9 d.ofs.length c9) := (cell_of HBv1_3.out 9).trans rfl
      have cv1_10 : (w3).cell? ⟨qv1, 10, none⟩ = some (.string d.obd) := (cell_of HBv1_3.out 10).trans rfl
      have cv1_11 : (w3).cell? ⟨qv1, 11, none⟩ = some (.int .i64 d.otm) := (cell_of HBv1_3.out 11).trans rfl
      go_wp2_with fail
      refine (szObj_any r2 (by omega) (by omega) d.opa a6 d.oxs.length c6 d.oxs a7 d.oys.length c7 d.oys d.ost a9 d.ofs.length c9 d.ofs d.obd d.otm B _ (HA6.out _ hb3) (HA7.out _ hb3) (HA9.out _ hb3) (HBB.out _ hb3) HMX.out.oxs.1 HMX.out.oys.1 HMX.out.ofs.1 HMX.out.oxs.2 HMX.out.oys.2 HMX.out.ofs.2 HMX.out.opa HMX.out.obd).mono ?_
      rintro e w4 ⟨r3, rfl, hl3, hr3, bw⟩
      have hb4 : Below w.heap.size w (w4) := hb3.trans (bw.mono hb3.size)
      have HBv1_4 : Hid ((w4).heap[qv1]? = some (.cells #[.int .i64 d.qmt, .string d.qpa, .slice a2 d.qfs.length c2, .string d.qbd, .slice a4 d.who.length c4, .string d.opa, .slice a6 d.oxs.length c6, .slice a7 d.oys.length c7, .int .i64 d.ost, .slice a9 d.ofs.length c9, .string d.obd, .int .i64 d.otm, .bool d.has] 101)) := blk_below HBv1_3.out bw
      clear hb3 HBv1_3 bw
      clear cv1_5 cv1_6 cv1_7 cv1_8 cv1_9 cv1_10 cv1_11
      by_cases hc3 : r3 < 0
      · clear hr3
        go_wp2_with fail
        go_ret
        exact ⟨-1, rfl, by omega, fun h => absurd h (by omega), hb4⟩
      · have HR3 : Hid _ := hr3 (by omega)
        clear hr3
        have mr3 := HR3.out.1
        go_wp2_with fail
        go_ret
        exact ⟨r3, rfl, by omega, fun _ => ⟨by omega, ⟨HR1.out.2.1.1, ⟨HR1.out.2.2.1, HR1.out.2.2.2⟩, HR1.out.2.1.2, HR2.out.2, HR3.out.2.1.1, HR3.out.2.2.1, HR3.out.2.2.2.1, ⟨HR3.out.2.2.2.2.1, HR3.out.2.2.2.2.2⟩, HR3.out.2.1.2⟩⟩, hb4⟩

/-- Lengths that may be compared. -/
structure FlLim (d : FlD) : Prop where
  qfs : d.qfs.length ≤ 2000000
  who : d.who.length ≤ 2000000
  oxs : d.oxs.length ≤ 2000000
  oys : d.oys.length ≤ 2000000
  ofs : d.ofs.length ≤ 2000000
theorem FlLen.lim {d : FlD} (h : FlLen d) : FlLim d := ⟨Nat.le_trans h.qfs (by decide), Nat.le_trans h.who (by decide), Nat.le_trans h.oxs (by decide), Nat.le_trans h.oys (by decide), Nat.le_trans h.ofs (by decide)⟩

theorem eqIntS_any2 {B1 B2 : Nat} (v u : Value) (zs : List Int) (w : World) (h1 : w.ownsRow B1 3 1 v zs.length (zs.map (Value.int .i64))) (h2 : w.ownsRow B2 3 1 u zs.length (zs.map (Value.int .i64))) (hn : zs.length ≤ 2000000) :
    Calls Tryz.prog 92 #[v, u] w fun e w' => e = .returned (.bool true) ∧ Below w.heap.size w w' := by
  obtain ⟨o1, c1, rfl, i1⟩ := ints_view h1
  obtain ⟨o2, c2, rfl, i2⟩ := ints_view h2
  exact eqIntS_any o1 o2 zs.length c1 c2 zs w i1 i2 hn

set_option maxHeartbeats 8000000 in
set_option maxRecDepth 100000 in
theorem eqFlight_any (d : FlD) (x y : FlV) (B1 B2 : Nat) (w : World) (hxd : x.d = d) (hyd : y.d = d) (hx : RowsO w B1 (flR x)) (hy : RowsO w B2 (flR y)) (hn : FlLim d) :
    Calls Tryz.prog 58 #[.agg #[.int .i64 x.d.qmt, .string x.d.qpa, x.v2, .string x.d.qbd, x.v4, .string x.d.opa, x.v6, x.v7, .int .i64 x.d.ost, x.v9, .string x.d.obd, .int .i64 x.d.otm, .bool x.d.has], .agg #[.int .i64 y.d.qmt, .string y.d.qpa, y.v2, .string y.d.qbd, y.v4, .string y.d.opa, y.v6, y.v7, .int .i64 y.d.ost, y.v9, .string y.d.obd, .int .i64 y.d.otm, .bool y.d.has]] w fun e w' => e = .returned (.bool true) ∧ Below w.heap.size w w' := by
  have hd : y.d = d := hyd
  have hd2 : x.d = d := hxd
  have HxO2 : Hid (∀ W : World, RowsO W B1 (flR x) → W.ownsRow B1 135 2 x.v2 d.qfs.length (flatF d.qfs)) := fun W h => by
    have h2 := h.own (⟨135, 2, x.v2, x.d.qfs.length, flatF x.d.qfs⟩ : Rw) (by simp [flR])
    unfold Rw.own at h2
    dsimp only at h2
    rw [hxd] at h2
    exact h2
  have HxO4 : Hid (∀ W : World, RowsO W B1 (flR x) → W.ownsRow B1 3 1 x.v4 d.who.length (d.who.map (Value.int .i64))) := fun W h => by
    have h2 := h.own (⟨3, 1, x.v4, x.d.who.length, x.d.who.map (Value.int .i64)⟩ : Rw) (by simp [flR])
    unfold Rw.own at h2
    dsimp only at h2
    rw [hxd] at h2
    exact h2
  have HxO6 : Hid (∀ W : World, RowsO W B1 (flR x) → W.ownsRow B1 9 1 x.v6 d.oxs.length (d.oxs.map Value.string)) := fun W h => by
    have h2 := h.own (⟨9, 1, x.v6, x.d.oxs.length, x.d.oxs.map Value.string⟩ : Rw) (by simp [flR])
    unfold Rw.own at h2
    dsimp only at h2
    rw [hxd] at h2
    exact h2
  have HxO7 : Hid (∀ W : World, RowsO W B1 (flR x) → W.ownsRow B1 9 1 x.v7 d.oys.length (d.oys.map Value.string)) := fun W h => by
    have h2 := h.own (⟨9, 1, x.v7, x.d.oys.length, x.d.oys.map Value.string⟩ : Rw) (by simp [flR])
    unfold Rw.own at h2
    dsimp only at h2
    rw [hxd] at h2
    exact h2
  have HxO9 : Hid (∀ W : World, RowsO W B1 (flR x) → W.ownsRow B1 135 2 x.v9 d.ofs.length (flatF d.ofs)) := fun W h => by
    have h2 := h.own (⟨135, 2, x.v9, x.d.ofs.length, flatF x.d.ofs⟩ : Rw) (by simp [flR])
    unfold Rw.own at h2
    dsimp only at h2
    rw [hxd] at h2
    exact h2
  have HxOO : Hid (∀ W : World, RowsO W B1 (flR x) → ObjO W B1 x.v6 d.oxs.length d.oxs x.v7 d.oys.length d.oys x.v9 d.ofs.length d.ofs) := fun W h => by
    have h2 : RowsO W B1 [(⟨9, 1, x.v6, x.d.oxs.length, x.d.oxs.map Value.string⟩ : Rw), (⟨9, 1, x.v7, x.d.oys.length, x.d.oys.map Value.string⟩ : Rw), (⟨135, 2, x.v9, x.d.ofs.length, flatF x.d.ofs⟩ : Rw)] := RowsO.sub h (by unfold flR; apply List.Sublist.cons; apply List.Sublist.cons; exact List.Sublist.refl _)
    have h3 := rows_obj3 h2
    rw [hxd] at h3
    exact h3
  have HyO2 : Hid (∀ W : World, RowsO W B2 (flR y) → W.ownsRow B2 135 2 y.v2 d.qfs.length (flatF d.qfs)) := fun W h => by
    have h2 := h.own (⟨135, 2, y.v2, y.d.qfs.length, flatF y.d.qfs⟩ : Rw) (by simp [flR])
    unfold Rw.own at h2
    dsimp only at h2
    rw [hyd] at h2
    exact h2
  have HyO4 : Hid (∀ W : World, RowsO W B2 (flR y) → W.ownsRow B2 3 1 y.v4 d.who.length (d.who.map (Value.int .i64))) := fun W h => by
    have h2 := h.own (⟨3, 1, y.v4, y.d.who.length, y.d.who.map (Value.int .i64)⟩ : Rw) (by simp [flR])
    unfold Rw.own at h2
    dsimp only at h2
    rw [hyd] at h2
    exact h2
  have HyO6 : Hid (∀ W : World, RowsO W B2 (flR y) → W.ownsRow B2 9 1 y.v6 d.oxs.length (d.oxs.map Value.string)) := fun W h => by
    have h2 := h.own (⟨9, 1, y.v6, y.d.oxs.length, y.d.oxs.map Value.string⟩ : Rw) (by simp [flR])
    unfold Rw.own at h2
    dsimp only at h2
    rw [hyd] at h2
    exact h2
  have HyO7 : Hid (∀ W : World, RowsO W B2 (flR y) → W.ownsRow B2 9 1 y.v7 d.oys.length (d.oys.map Value.string)) := fun W h => by
    have h2 := h.own (⟨9, 1, y.v7, y.d.oys.length, y.d.oys.map Value.string⟩ : Rw) (by simp [flR])
    unfold Rw.own at h2
    dsimp only at h2
    rw [hyd] at h2
    exact h2
  have HyO9 : Hid (∀ W : World, RowsO W B2 (flR y) → W.ownsRow B2 135 2 y.v9 d.ofs.length (flatF d.ofs)) := fun W h => by
    have h2 := h.own (⟨135, 2, y.v9, y.d.ofs.length, flatF y.d.ofs⟩ : Rw) (by simp [flR])
    unfold Rw.own at h2
    dsimp only at h2
    rw [hyd] at h2
    exact h2
  have HyOO : Hid (∀ W : World, RowsO W B2 (flR y) → ObjO W B2 y.v6 d.oxs.length d.oxs y.v7 d.oys.length d.oys y.v9 d.ofs.length d.ofs) := fun W h => by
    have h2 : RowsO W B2 [(⟨9, 1, y.v6, y.d.oxs.length, y.d.oxs.map Value.string⟩ : Rw), (⟨9, 1, y.v7, y.d.oys.length, y.d.oys.map Value.string⟩ : Rw), (⟨135, 2, y.v9, y.d.ofs.length, flatF y.d.ofs⟩ : Rw)] := RowsO.sub h (by unfold flR; apply List.Sublist.cons; apply List.Sublist.cons; exact List.Sublist.refl _)
    have h3 := rows_obj3 h2
    rw [hyd] at h3
    exact h3
  have eqmt : (d.qmt != d.qmt) = false := by simp
  have eost : (d.ost != d.ost) = false := by simp
  have eotm : (d.otm != d.otm) = false := by simp
  have ehas : (d.has != d.has) = false := by simp
  have Ex_0 : Hid (RowsO w B1 (flR x)) := hx
  have Ey_0 : Hid (RowsO w B2 (flR y)) := hy
  rw [hxd, hyd]
  clear hx hy hd hd2 hxd hyd
  have hb0 : Below w.heap.size w w := Below.refl _ _
  go_enter Tryz.func58, Tryz.ntmps58
  go_upto_region 1 with fail
  obtain ⟨qv1, hqv1⟩ : ∃ q, q = (w).heap.size := ⟨_, rfl⟩
  obtain ⟨w1, hW1⟩ : ∃ W, W = (w).alloc (.cells #[.int .i64 d.qmt, .string d.qpa, x.v2, .string d.qbd, x.v4, .string d.opa, x.v6, x.v7, .int .i64 d.ost, x.v9, .string d.obd, .int .i64 d.otm, .bool d.has] 113) := ⟨_, rfl⟩
  have hz1 : (w).heap.size = qv1 := hqv1.symm
  first | rw [← hW1, ← hqv1] | rw [← hW1]
  have hs1 : w1.heap.size = qv1 + 1 := by rw [hW1, ← hz1]; simp
  have bw : Below (w).heap.size (w) w1 := by rw [hW1]; exact (Below.refl _ _).alloc (Nat.le_refl _) _
  have hb1 : Below w.heap.size w (w1) := hb0.trans (bw.mono hb0.size)
  have Ex_1 : Hid (RowsO (w1) B1 (flR x)) := Ex_0.out.below bw
  have Ey_1 : Hid (RowsO (w1) B2 (flR y)) := Ey_0.out.below bw
  have HBv1_1 : Hid ((w1).heap[qv1]? = some (.cells #[.int .i64 d.qmt, .string d.qpa, x.v2, .string d.qbd, x.v4, .string d.opa, x.v6, x.v7, .int .i64 d.ost, x.v9, .string d.obd, .int .i64 d.otm, .bool d.has] 113)) := by show _ = _; rw [hW1, ← hz1]; exact heap_alloc_new _ _
  clear hb0 Ex_0 Ey_0 bw hW1 hz1
  obtain ⟨qv2, hqv2⟩ : ∃ q, q = qv1 + 1 := ⟨_, rfl⟩
  obtain ⟨w2, hW2⟩ : ∃ W, W = (w1).alloc (.cells #[.int .i64 d.qmt, .string d.qpa, y.v2, .string d.qbd, y.v4, .string d.opa, y.v6, y.v7, .int .i64 d.ost, y.v9, .string d.obd, .int .i64 d.otm, .bool d.has] 113) := ⟨_, rfl⟩
  have hz2 : (w1).heap.size = qv2 := by rw [hqv2]; exact hs1
  first | rw [← hW2, ← hqv2] | rw [← hW2]
  have hs2 : w2.heap.size = qv2 + 1 := by rw [hW2, ← hz2]; simp
  have bw : Below (w1).heap.size (w1) w2 := by rw [hW2]; exact (Below.refl _ _).alloc (Nat.le_refl _) _
  have hb2 : Below w.heap.size w (w2) := hb1.trans (bw.mono hb1.size)
  have HBv1_2 : Hid ((w2).heap[qv1]? = some (.cells #[.int .i64 d.qmt, .string d.qpa, x.v2, .string d.qbd, x.v4, .string d.opa, x.v6, x.v7, .int .i64 d.ost, x.v9, .string d.obd, .int .i64 d.otm, .bool d.has] 113)) := blk_below HBv1_1.out bw
  have Ex_2 : Hid (RowsO (w2) B1 (flR x)) := Ex_1.out.below bw
  have Ey_2 : Hid (RowsO (w2) B2 (flR y)) := Ey_1.out.below bw
  have HBv2_2 : Hid ((w2).heap[qv2]? = some (.cells #[.int .i64 d.qmt, .string d.qpa, y.v2, .string d.qbd, y.v4, .string d.opa, y.v6, y.v7, .int .i64 d.ost, y.v9, .string d.obd, .int .i64 d.otm, .bool d.has] 113)) := by show _ = _; rw [hW2, ← hz2]; exact heap_alloc_new _ _
  clear hb1 HBv1_1 Ex_1 Ey_1 bw hW2 hz2
  clear hs2 hqv2 hs1 hqv1
  have cv1_0 : (w2).cell? ⟨qv1, 0, none⟩ = some (.int .i64 d.qmt) := (cell_of HBv1_2.out 0).trans rfl
  have cv1_1 : (w2).cell? ⟨qv1, 1, none⟩ = some (.string d.qpa) := (cell_of HBv1_2.out 1).trans rfl
  have cv1_2 : (w2).cell? ⟨qv1, 2, none⟩ = some (x.v2) := (cell_of HBv1_2.out 2).trans rfl
  have cv1_3 : (w2).cell? ⟨qv1, 3, none⟩ = some (.string d.qbd) := (cell_of HBv1_2.out 3).trans rfl
  have cv2_0 : (w2).cell? ⟨qv2, 0, none⟩ = some (.int .i64 d.qmt) := (cell_of HBv2_2.out 0).trans rfl
  have cv2_1 : (w2).cell? ⟨qv2, 1, none⟩ = some (.string d.qpa) := (cell_of HBv2_2.out 1).trans rfl
  have cv2_2 : (w2).cell? ⟨qv2, 2, none⟩ = some (y.v2) := (cell_of HBv2_2.out 2).trans rfl
  have cv2_3 : (w2).cell? ⟨qv2, 3, none⟩ = some (.string d.qbd) := (cell_of HBv2_2.out 3).trans rfl
  go_wp2_with fail
  refine (eqReq_any d.qmt d.qpa _ _ d.qbd d.qfs.length _ _ d.qfs _ (FieldsV.of_owns (show World.ownsRow _ B1 135 2 x.v2 d.qfs.length _ from HxO2.out _ Ex_2.out)) (FieldsV.of_owns (show World.ownsRow _ B2 135 2 y.v2 d.qfs.length _ from HyO2.out _ Ey_2.out)) hn.qfs).mono ?_
  rintro e w3 ⟨rfl, bw⟩
  have hb3 : Below w.heap.size w (w3) := hb2.trans (bw.mono hb2.size)
  have HBv1_3 : Hid ((w3).heap[qv1]? = some (.cells #[.int .i64 d.qmt, .string d.qpa, x.v2, .string d.qbd, x.v4, .string d.opa, x.v6, x.v7, .int .i64 d.ost, x.v9, .string d.obd, .int .i64 d.otm, .bool d.has] 113)) := blk_below HBv1_2.out bw
  have HBv2_3 : Hid ((w3).heap[qv2]? = some (.cells #[.int .i64 d.qmt, .string d.qpa, y.v2, .string d.qbd, y.v4, .string d.opa, y.v6, y.v7, .int .i64 d.ost, y.v9, .string d.obd, .int .i64 d.otm, .bool d.has] 113)) := blk_below HBv2_2.out bw
  have Ex_3 : Hid (RowsO (w3) B1 (flR x)) := Ex_2.out.below bw
  have Ey_3 : Hid (RowsO (w3) B2 (flR y)) := Ey_2.out.below bw
  clear hb2 HBv1_2 HBv2_2 Ex_2 Ey_2 bw
  clear cv1_0 cv1_1 cv1_2 cv1_3 cv2_0 cv2_1 cv2_2 cv2_3
  have cv1_4 : (w3).cell? ⟨qv1, 4, none⟩ = some (x.v4) := (cell_of HBv1_3.out 4).trans rfl
  have cv2_4 : (w3).cell? ⟨qv2, 4, none⟩ = some (y.v4) := (cell_of HBv2_3.out 4).trans rfl
  go_wp2_with fail
  refine (eqIntS_any2 _ _ d.who _ (show World.ownsRow _ B1 3 1 x.v4 d.who.length _ from HxO4.out _ Ex_3.out) (show World.ownsRow _ B2 3 1 y.v4 d.who.length _ from HyO4.out _ Ey_3.out) hn.who).mono ?_
  rintro e w4 ⟨rfl, bw⟩
  have hb4 : Below w.heap.size w (w4) := hb3.trans (bw.mono hb3.size)
  have HBv1_4 : Hid ((w4).heap[qv1]? = some (.cells #[.int .i64 d.qmt, .string d.qpa, x.v2, .string d.qbd, x.v4, .string d.opa, x.v6, x.v7, .int .i64 d.ost, x.v9, .string d.obd, .int .i64 d.otm, .bool d.has] 113)) := blk_below HBv1_3.out bw
  have HBv2_4 : Hid ((w4).heap[qv2]? = some (.cells #[.int .i64 d.qmt, .string d.qpa, y.v2, .string d.qbd, y.v4, .string d.opa, y.v6, y.v7, .int .i64 d.ost, y.v9, .string d.obd, .int .i64 d.otm, .bool d.has] 113)) := blk_below HBv2_3.out bw
  have Ex_4 : Hid (RowsO (w4) B1 (flR x)) := Ex_3.out.below bw
  have Ey_4 : Hid (RowsO (w4) B2 (flR y)) := Ey_3.out.below bw
  clear hb3 HBv1_3 HBv2_3 Ex_3 Ey_3 bw
  clear cv1_4 cv2_4
  have cv1_5 : (w4).cell? ⟨qv1, 5, none⟩ = some (.string d.opa) := (cell_of HBv1_4.out 5).trans rfl
  have cv1_6 : (w4).cell? ⟨qv1, 6, none⟩ = some (x.v6) := (cell_of HBv1_4.out 6).trans rfl
  have cv1_7 : (w4).cell? ⟨qv1, 7, none⟩ = some (x.v7) := (cell_of HBv1_4.out 7).trans rfl
  have cv1_8 : (w4).cell? ⟨qv1, 8, none⟩ = some (.int .i64 d.ost) := (cell_of HBv1_4.out 8).trans rfl
  have cv1_9 : (w4).cell? ⟨qv1, 9, none⟩ = some (x.v9) := (cell_of HBv1_4.out 9).trans rfl
  have cv1_10 : (w4).cell? ⟨qv1, 10, none⟩ = some (.string d.obd) := (cell_of HBv1_4.out 10).trans rfl
  have cv1_11 : (w4).cell? ⟨qv1, 11, none⟩ = some (.int .i64 d.otm) := (cell_of HBv1_4.out 11).trans rfl
  have cv2_5 : (w4).cell? ⟨qv2, 5, none⟩ = some (.string d.opa) := (cell_of HBv2_4.out 5).trans rfl
  have cv2_6 : (w4).cell? ⟨qv2, 6, none⟩ = some (y.v6) := (cell_of HBv2_4.out 6).trans rfl
  have cv2_7 : (w4).cell? ⟨qv2, 7, none⟩ = some (y.v7) := (cell_of HBv2_4.out 7).trans rfl
  have cv2_8 : (w4).cell? ⟨qv2, 8, none⟩ = some (.int .i64 d.ost) := (cell_of HBv2_4.out 8).trans rfl
  have cv2_9 : (w4).cell? ⟨qv2, 9, none⟩ = some (y.v9) := (cell_of HBv2_4.out 9).trans rfl
  have cv2_10 : (w4).cell? ⟨qv2, 10, none⟩ = some (.string d.obd) := (cell_of HBv2_4.out 10).trans rfl
  have cv2_11 : (w4).cell? ⟨qv2, 11, none⟩ = some (.int .i64 d.otm) := (cell_of HBv2_4.out 11).trans rfl
  go_wp2_with fail
  refine (eqObj_any d.opa d.oxs.length d.oxs d.oys.length d.oys d.ost d.ofs.length d.ofs d.obd d.otm _ _ _ _ _ _ _ _ _ (HxOO.out _ Ex_4.out) (HyOO.out _ Ey_4.out) hn.oxs hn.oys hn.ofs).mono ?_
  rintro e w5 ⟨rfl, bw⟩
  have hb5 : Below w.heap.size w (w5) := hb4.trans (bw.mono hb4.size)
  have HBv1_5 : Hid ((w5).heap[qv1]? = some (.cells #[.int .i64 d.qmt, .string d.qpa, x.v2, .string d.qbd, x.v4, .string d.opa, x.v6, x.v7, .int .i64 d.ost, x.v9, .string d.obd, .int .i64 d.otm, .bool d.has] 113)) := blk_below HBv1_4.out bw
  have HBv2_5 : Hid ((w5).heap[qv2]? = some (.cells #[.int .i64 d.qmt, .string d.qpa, y.v2, .string d.qbd, y.v4, .string d.opa, y.v6, y.v7, .int .i64 d.ost, y.v9, .string d.obd, .int .i64 d.otm, .bool d.has] 113)) := blk_below HBv2_4.out bw
  have Ex_5 : Hid (RowsO (w5) B1 (flR x)) := Ex_4.out.below bw
  have Ey_5 : Hid (RowsO (w5) B2 (flR y)) := Ey_4.out.below bw
  clear hb4 HBv1_4 HBv2_4 Ex_4 Ey_4 bw
  clear cv1_5 cv1_6 cv1_7 cv1_8 cv1_9 cv1_10 cv1_11 cv2_5 cv2_6 cv2_7 cv2_8 cv2_9 cv2_10 cv2_11
  have cv1_12 : (w5).cell? ⟨qv1, 12, none⟩ = some (.bool d.has) := (cell_of HBv1_5.out 12).trans rfl
  have cv2_12 : (w5).cell? ⟨qv2, 12, none⟩ = some (.bool d.has) := (cell_of HBv2_5.out 12).trans rfl
  go_wp2_with fail
  go_ret
  exact ⟨rfl, hb5⟩

end Go.Proofs.YtajccgffallajaaGreat

namespace Go.Proofs.YtajccgffallajaaGreat
open Go.RowKit
open Go.Lib hiding intOf

/-- One of a list that came in: its cells, and its lists. -/
def FlArg (w : World) (B b off i : Nat) (d : FlD) : Prop :=
  ∃ (a2 : Option Addr) (c2 : Nat) (a4 : Option Addr) (c4 : Nat) (a6 : Option Addr) (c6 : Nat) (a7 : Option Addr) (c7 : Nat) (a9 : Option Addr) (c9 : Nat), (w.cell? ⟨b, off + i * 13, none⟩ = some (.int .i64 d.qmt) ∧ w.cell? ⟨b, off + i * 13 + 1, none⟩ = some (.string d.qpa) ∧ w.cell? ⟨b, off + i * 13 + 2, none⟩ = some (.slice a2 d.qfs.length c2) ∧ w.cell? ⟨b, off + i * 13 + 3, none⟩ = some (.string d.qbd) ∧ w.cell? ⟨b, off + i * 13 + 4, none⟩ = some (.slice a4 d.who.length c4) ∧ w.cell? ⟨b, off + i * 13 + 5, none⟩ = some (.string d.opa) ∧ w.cell? ⟨b, off + i * 13 + 6, none⟩ = some (.slice a6 d.oxs.length c6) ∧ w.cell? ⟨b, off + i * 13 + 7, none⟩ = some (.slice a7 d.oys.length c7) ∧ w.cell? ⟨b, off + i * 13 + 8, none⟩ = some (.int .i64 d.ost) ∧ w.cell? ⟨b, off + i * 13 + 9, none⟩ = some (.slice a9 d.ofs.length c9) ∧ w.cell? ⟨b, off + i * 13 + 10, none⟩ = some (.string d.obd) ∧ w.cell? ⟨b, off + i * 13 + 11, none⟩ = some (.int .i64 d.otm) ∧ w.cell? ⟨b, off + i * 13 + 12, none⟩ = some (.bool d.has)) ∧ ArgF w B a2 d.qfs.length d.qfs ∧ ArgI w B a4 d.who.length d.who ∧ ArgT w B a6 d.oxs.length d.oxs ∧ ArgT w B a7 d.oys.length d.oys ∧ ArgF w B a9 d.ofs.length d.ofs
/-- A list that came in, in blocks below B. -/
def ArgFlight (w : World) (B : Nat) (a : Option Addr) (n : Nat) (ks : List FlD) : Prop :=
  ks.length = n ∧ ∀ i, i < n → ∃ b off, a = some ⟨b, off, none⟩ ∧ b < B ∧ FlArg w B b off i (flAt ks i)
theorem ArgFlight.below {w w' : World} {B : Nat} {a : Option Addr} {n : Nat} {ks : List FlD} (h : ArgFlight w B a n ks) (hb : Below B w w') : ArgFlight w' B a n ks :=
  ⟨h.1, fun i hi => by
    obtain ⟨b, off, h1, h2, a2, c2, a4, c4, a6, c6, a7, c7, a9, c9, ⟨r0, r1, r2, r3, r4, r5, r6, r7, r8, r9, r10, r11, r12⟩, g2, g4, g6, g7, g9⟩ := h.2 i hi
    exact ⟨b, off, h1, h2, a2, c2, a4, c4, a6, c6, a7, c7, a9, c9, ⟨by rw [hb.cell (p := ⟨b, off + i * 13, none⟩) h2]; exact r0, by rw [hb.cell (p := ⟨b, off + i * 13 + 1, none⟩) h2]; exact r1, by rw [hb.cell (p := ⟨b, off + i * 13 + 2, none⟩) h2]; exact r2, by rw [hb.cell (p := ⟨b, off + i * 13 + 3, none⟩) h2]; exact r3, by rw [hb.cell (p := ⟨b, off + i * 13 + 4, none⟩) h2]; exact r4, by rw [hb.cell (p := ⟨b, off + i * 13 + 5, none⟩) h2]; exact r5, by rw [hb.cell (p := ⟨b, off + i * 13 + 6, none⟩) h2]; exact r6, by rw [hb.cell (p := ⟨b, off + i * 13 + 7, none⟩) h2]; exact r7, by rw [hb.cell (p := ⟨b, off + i * 13 + 8, none⟩) h2]; exact r8, by rw [hb.cell (p := ⟨b, off + i * 13 + 9, none⟩) h2]; exact r9, by rw [hb.cell (p := ⟨b, off + i * 13 + 10, none⟩) h2]; exact r10, by rw [hb.cell (p := ⟨b, off + i * 13 + 11, none⟩) h2]; exact r11, by rw [hb.cell (p := ⟨b, off + i * 13 + 12, none⟩) h2]; exact r12⟩, g2.below hb, g4.below hb, g6.below hb, g7.below hb, g9.below hb⟩⟩
/-- The measure is negative, or what is left of L. -/
def SzFlightS (L : Int) (ks : List FlD) (w : World) (e : Ending) (w' : World) : Prop :=
  ∃ r : Int, e = .returned (.int .i64 r) ∧ r ≤ L ∧ (0 ≤ r → r + (wtFl ks : Int) ≤ L ∧ ∀ k ∈ ks, FlSmall k) ∧ Below w.heap.size w w'

set_option maxHeartbeats 8000000 in
set_option maxRecDepth 100000 in
theorem szFlightS_any (L : Int) (hL0 : 0 ≤ L) (hL1 : L ≤ 1048576) (B : Nat) (a : Option Addr) (n cap : Nat) (ks : List FlD) (w : World) (harg : ArgFlight w B a n ks) (hB : B ≤ w.heap.size) (hn : n ≤ maxLen) (hsz : ∀ k ∈ ks, FlMax k) :
    Calls Tryz.prog 14 #[.slice a n cap, .int .i64 L] w fun e w' => SzFlightS L ks w e w' := by
  unfold maxLen at hn
  have HS : Hid (∀ k ∈ ks, FlMax k) := hsz
  have HLN : Hid (ks.length = n) := harg.1
  have HA : Hid (∀ W, Below w.heap.size w W → ArgFlight W B a n ks) := fun W h => harg.below (h.mono hB)
  have HBB : Hid (∀ W, Below w.heap.size w W → B ≤ W.heap.size) := fun W h => Nat.le_trans hB h.size
  clear hsz harg hB
  by_cases c1 : L - (n : Int) < 0
  · go_enter Tryz.func14, Tryz.ntmps14
    go_wp2
    go_ret
    exact ⟨-1, rfl, by omega, fun h => absurd h (by omega), Below.refl _ _⟩
  · go_enter Tryz.func14, Tryz.ntmps14
    go_wp2
    go_loopw [1, 5] (fun lf i wr => ∃ (k : Nat) (x : Int), k ≤ n ∧ i = .int .i64 (k : Int) ∧ lf = .int .i64 x ∧ 0 ≤ x ∧ x ≤ L ∧ Hid (x + (wtFl (ks.take k) : Int) + ((n : Int) - (k : Int)) ≤ L ∧ ∀ y ∈ ks.take k, FlSmall y) ∧ Hid (Below w.heap.size w wr)) (fun _ i _ => n - (intOf i).toNat)
    case atStart => exact ⟨0, _, Nat.zero_le _, rfl, rfl, by omega, by omega, ⟨by simp [wtFl], fun x hx => by simp at hx⟩, Below.refl _ _⟩
    case round =>
      obtain ⟨k, x, hk, rfl, rfl, hx0, hx1, HX, HBW⟩ := hrel
      by_cases hlt : k < n
      · have hlt2 : (k : Int) < (n : Int) := by omega
        obtain ⟨b, off, rfl, hbB, a2, c2, a4, c4, a6, c6, a7, c7, a9, c9, ⟨r0, r1, r2, r3, r4, r5, r6, r7, r8, r9, r10, r11, r12⟩, g2, g4, g6, g7, g9⟩ := (HA.out wr HBW.out).2 k hlt
        obtain ⟨y, hy⟩ : ∃ y, y = flAt ks k := ⟨_, rfl⟩
        have HM : Hid (y ∈ ks) := by show _ ∈ _; rw [hy]; exact getD_mem0 _ ks k (by rw [HLN.out]; exact hlt)
        have HTK : Hid (ks.take (k + 1) = ks.take k ++ [y]) := by show _ = _; rw [hy]; exact getD_take0 _ ks k (by rw [HLN.out]; exact hlt)
        rw [← hy] at r0 r1 r2 r3 r4 r5 r6 r7 r8 r9 r10 r11 r12 g2 g4 g6 g7 g9
        have HG2 : Hid (ArgF wr B a2 y.qfs.length y.qfs) := g2
        have HG4 : Hid (ArgI wr B a4 y.who.length y.who) := g4
        have HG6 : Hid (ArgT wr B a6 y.oxs.length y.oxs) := g6
        have HG7 : Hid (ArgT wr B a7 y.oys.length y.oys) := g7
        have HG9 : Hid (ArgF wr B a9 y.ofs.length y.ofs) := g9
        clear hy g2 g4 g6 g7 g9
        go_wp2_with fail
        skip
        refine (szFlight_any x hx0 (by omega) y a2 c2 a4 c4 a6 c6 a7 c7 a9 c9 B _ HG2.out HG4.out HG6.out HG7.out HG9.out (HBB.out _ HBW.out) (HS.out y HM.out)).mono ?_
        rintro e w1 ⟨r, rfl, hr1, hr2, bw⟩
        have HB2 : Hid (Below w.heap.size w w1) := HBW.out.trans (bw.mono HBW.out.size)
        clear r0 r1 r2 r3 r4 r5 r6 r7 r8 r9 r10 r11 r12 bw
        by_cases d1 : r < 0
        · clear hr2
          go_wp2
          go_ret
          exact ⟨-1, rfl, by omega, fun h => absurd h (by omega), HB2.out⟩
        · have HX2 : Hid (r + (wtFl (ks.take (k + 1)) : Int) + ((n : Int) - ((k + 1 : Nat) : Int)) ≤ L ∧ ∀ y ∈ ks.take (k + 1), FlSmall y) := by
            obtain ⟨q1, q2⟩ := hr2 (by omega)
            obtain ⟨m1, m2⟩ := HX.out
            refine ⟨?_, fun z hz => ?_⟩
            · rw [HTK.out, wtFl_snoc]
              omega
            · rw [HTK.out] at hz
              rcases List.mem_append.1 hz with hz | hz
              · exact m2 z hz
              · rw [List.mem_singleton.1 hz]; exact q2
          clear hr2
          go_wp2
          go_roundw
          case rel => exact ⟨k + 1, r, by omega, by go_num, rfl, by omega, by omega, HX2, HB2⟩
          case measure => simp [intOf]; omega
      · have HF : Hid (x + (wtFl ks : Int) ≤ L ∧ ∀ k ∈ ks, FlSmall k) := by
          obtain ⟨m1, m2⟩ := HX.out
          rw [List.take_of_length_le (by rw [HLN.out]; omega)] at m1 m2
          exact ⟨by omega, m2⟩
        go_wp2
        go_ret
        exact ⟨x, rfl, by omega, fun _ => HF.out, HBW.out⟩

theorem infoFlight : (Tryz.prog.info? 113).map (fun i => (i.zero, i.size, i.bytes)) = some (some (.agg #[.int .i64 0, .string ⟨#[]⟩, .slice none 0 0, .string ⟨#[]⟩, .slice none 0 0, .string ⟨#[]⟩, .slice none 0 0, .slice none 0 0, .int .i64 0, .slice none 0 0, .string ⟨#[]⟩, .int .i64 0, .bool false]), 13, 216) := by kernel_rfl
/-- A call answers a list of these, of its own. -/
def FlightIs (ks : List FlD) (w : World) (e : Ending) (w' : World) : Prop := ∃ (V : Value) (kv : List FlV), e = .returned V ∧ kv.map (·.d) = ks ∧ FlsO w' w.heap.size V kv ∧ Below w.heap.size w w'
/-- Told item by item, and the items' own lists behind the row: a list of one's own. -/
theorem parts_Flight {w : World} {g n base : Nat} {kv : List FlV} (hp : PartO flC 13 113 w g n kv) (hl : kv.length = n) (hm : n ≤ maxLen) (hb : base ≤ g) (hr : RowsO w (g + 1) (kv.flatMap flR)) : FlsO w base (.slice (some ⟨g, 0, none⟩) n n) kv := by
  have hrow : (flRow (.slice (some ⟨g, 0, none⟩) n n) kv).own w base := by
    have h := hp.owns flC_len (by decide) hl hm hb
    unfold Rw.own flRow
    rw [hl]
    exact h
  refine ⟨fun r h => ?_, List.pairwise_cons.2 ⟨fun r h g' h1 h2 => ?_, hr.apart⟩⟩
  · rcases List.mem_cons.1 h with h | h
    · rw [h]; exact hrow
    · exact owns_wide (hr.own r h) (by omega)
  · have e1 : some g = some g' := h1
    have e2 := hr.ge h h2
    have e3 := Option.some.inj e1
    omega

set_option maxHeartbeats 8000000 in
set_option maxRecDepth 100000 in
theorem toFlightS_any (B : Nat) (a : Option Addr) (n cap : Nat) (ks : List FlD) (w : World) (harg : ArgFlight w B a n ks) (hB : B ≤ w.heap.size) (hn : n ≤ 1048576) (hsm : ∀ k ∈ ks, FlLen k) :
    Calls Tryz.prog 19 #[.slice a n cap] w fun e w' => FlightIs ks w e w' := by
  obtain ⟨i0, hi, hz0, hz1, hz2⟩ := info_parts infoFlight
  obtain ⟨M, hM⟩ : ∃ M, M = madeCells (Value.agg #[.int .i64 0, .string ⟨#[]⟩, .slice none 0 0, .string ⟨#[]⟩, .slice none 0 0, .string ⟨#[]⟩, .slice none 0 0, .slice none 0 0, .int .i64 0, .slice none 0 0, .string ⟨#[]⟩, .int .i64 0, .bool false]).cells (((n : Nat) : Int).toNat * i0.size) := ⟨_, rfl⟩
  have hmk : ∀ W : World, (Instr.makeSlice 48 (.int .i64 (n : Int)) (.int .i64 (n : Int))).run Tryz.prog W = .ok (.slice (some ⟨W.heap.size, 0, none⟩) n n) (W.alloc (.cells M 113)) := fun W => by
    have h := run_make (P := Tryz.prog) W 48 113 i0 (.agg #[.int .i64 0, .string ⟨#[]⟩, .slice none 0 0, .string ⟨#[]⟩, .slice none 0 0, .string ⟨#[]⟩, .slice none 0 0, .slice none 0 0, .int .i64 0, .slice none 0 0, .string ⟨#[]⟩, .int .i64 0, .bool false]) Tryz.underlying48 hi hz0 .i64 .i64 (n : Int) (n : Int) (by omega) (by omega) (by rw [hz2]; omega) (by omega)
    rw [← hM] at h
    simpa using h
  have hMs : M.size = n * 13 := by rw [hM, size_madeCells, hz1]; simp
  have HLN : Hid (ks.length = n) := harg.1
  have HSM : Hid (∀ k ∈ ks, FlLen k) := hsm
  have HA : Hid (∀ W, Below w.heap.size w W → ArgFlight W B a n ks) := fun W h => harg.below (h.mono hB)
  have HBB : Hid (∀ W, Below w.heap.size w W → B ≤ W.heap.size) := fun W h => Nat.le_trans hB h.size
  clear hM harg hsm hB
  obtain ⟨g, hg⟩ : ∃ g, g = w.heap.size := ⟨_, rfl⟩
  have HG : Hid (w.heap.size = g) := hg.symm
  have HP : Hid (([] : List FlV).length = 0 ∧ ([] : List FlV).map (·.d) = ks.take 0 ∧ PartO flC 13 113 (w.alloc (.cells M 113)) g n [] ∧ RowsO (w.alloc (.cells M 113)) (g + 1) (([] : List FlV).flatMap flR)) := ⟨rfl, by simp, ⟨M, by rw [hg]; exact heap_alloc_new w _, hMs, fun i h => absurd h (by simp)⟩, RowsO.nil _ _⟩
  have HPB : Hid (Below w.heap.size w (w.alloc (.cells M 113))) := (Below.refl _ _).alloc (Nat.le_refl _) _
  go_enter Tryz.func19, Tryz.ntmps19
  go_wp2
  rw [HG.out]
  clear hg hMs
  go_loopw [4] (fun i wr => ∃ (k : Nat) (kv : List FlV), k ≤ n ∧ i = .int .i64 (k : Int) ∧ Hid (kv.length = k ∧ kv.map (·.d) = ks.take k ∧ PartO flC 13 113 wr g n kv ∧ RowsO wr (g + 1) (kv.flatMap flR)) ∧ Hid (Below w.heap.size w wr)) (fun i _ => n - (intOf i).toNat)
  case atStart => exact ⟨0, [], Nat.zero_le _, rfl, HP, HPB⟩
  case round =>
    obtain ⟨k, kv, hk, rfl, hpr, HBW⟩ := hrel
    by_cases hlt : k < n
    · have hlt2 : (k : Int) < (n : Int) := by omega
      obtain ⟨b, off, rfl, hbB, a2, c2, a4, c4, a6, c6, a7, c7, a9, c9, ⟨r0, r1, r2, r3, r4, r5, r6, r7, r8, r9, r10, r11, r12⟩, g2, g4, g6, g7, g9⟩ := (HA.out wr HBW.out).2 k hlt
      obtain ⟨y, hy⟩ : ∃ y, y = flAt ks k := ⟨_, rfl⟩
      have HM : Hid (y ∈ ks) := by show _ ∈ _; rw [hy]; exact getD_mem0 _ ks k (by rw [HLN.out]; exact hlt)
      have HTK : Hid (ks.take (k + 1) = ks.take k ++ [y]) := by show _ = _; rw [hy]; exact getD_take0 _ ks k (by rw [HLN.out]; exact hlt)
      rw [← hy] at r0 r1 r2 r3 r4 r5 r6 r7 r8 r9 r10 r11 r12 g2 g4 g6 g7 g9
      have HG2 : Hid (ArgF wr B a2 y.qfs.length y.qfs) := g2
      have HG4 : Hid (ArgI wr B a4 y.who.length y.who) := g4
      have HG6 : Hid (ArgT wr B a6 y.oxs.length y.oxs) := g6
      have HG7 : Hid (ArgT wr B a7 y.oys.length y.oys) := g7
      have HG9 : Hid (ArgF wr B a9 y.ofs.length y.ofs) := g9
      clear hy g2 g4 g6 g7 g9
      go_wp2_with fail
      skip
      refine (toFlight_any y a2 c2 a4 c4 a6 c6 a7 c7 a9 c9 B _ HG2.out HG4.out HG6.out HG7.out HG9.out (HBB.out _ HBW.out) (HSM.out y HM.out)).mono ?_
      rintro e w1 ⟨⟨xd, v2, v4, v6, v7, v9⟩, rfl, hxd, hrows, bw⟩
      clear r0 r1 r2 r3 r4 r5 r6 r7 r8 r9 r10 r11 r12
      obtain rfl : xd = y := hxd
      obtain ⟨o2, p2, hv⟩ := slice_of_owns (hrows.own (⟨135, 2, v2, xd.qfs.length, flatF xd.qfs⟩ : Rw) (by simp [flR]))
      obtain rfl : v2 = .slice o2 xd.qfs.length p2 := hv
      obtain ⟨o4, p4, hv⟩ := slice_of_owns (hrows.own (⟨3, 1, v4, xd.who.length, xd.who.map (Value.int .i64)⟩ : Rw) (by simp [flR]))
      obtain rfl : v4 = .slice o4 xd.who.length p4 := hv
      obtain ⟨o6, p6, hv⟩ := slice_of_owns (hrows.own (⟨9, 1, v6, xd.oxs.length, xd.oxs.map Value.string⟩ : Rw) (by simp [flR]))
      obtain rfl : v6 = .slice o6 xd.oxs.length p6 := hv
      obtain ⟨o7, p7, hv⟩ := slice_of_owns (hrows.own (⟨9, 1, v7, xd.oys.length, xd.oys.map Value.string⟩ : Rw) (by simp [flR]))
      obtain rfl : v7 = .slice o7 xd.oys.length p7 := hv
      obtain ⟨o9, p9, hv⟩ := slice_of_owns (hrows.own (⟨135, 2, v9, xd.ofs.length, flatF xd.ofs⟩ : Rw) (by simp [flR]))
      obtain rfl : v9 = .slice o9 xd.ofs.length p9 := hv
      obtain ⟨x, hx⟩ : ∃ x : FlV, x = ⟨xd, .slice o2 xd.qfs.length p2, .slice o4 xd.who.length p4, .slice o6 xd.oxs.length p6, .slice o7 xd.oys.length p7, .slice o9 xd.ofs.length p9⟩ := ⟨_, rfl⟩
      rw [← hx] at hrows
      obtain ⟨q1, q2, q3, q4⟩ := hpr.out
      have hgl : g < wr.heap.size := q3.lt
      have HB2 : Hid (Below w.heap.size w w1) := HBW.out.trans (bw.mono HBW.out.size)
      have hpr1 := q3.below bw
      have hall : RowsO w1 (g + 1) (kv.flatMap flR ++ flR x) := q4.more bw hrows (Nat.le_refl _) hgl
      have HALL : Hid ((kv ++ [x]).length = k + 1 ∧ (kv ++ [x]).map (·.d) = ks.take (k + 1) ∧ PartO flC 13 113 (setW w1 g (k * 13) (flC x)) g n (kv ++ [x]) ∧ RowsO (setW w1 g (k * 13) (flC x)) (g + 1) ((kv ++ [x]).flatMap flR)) := by
        refine ⟨by rw [List.length_append, q1]; rfl, by rw [List.map_append, q2, HTK.out, hx]; rfl, ?_, ?_⟩
        · have h := hpr1.put flC_len x (by omega)
          rw [q1] at h
          exact h
        · rw [List.flatMap_append]
          have h2 : RowsO (setW w1 g (k * 13) (flC x)) (g + 1) (kv.flatMap flR ++ flR x) := hall.same (fun r hr j hj => setW_other g j (by have := hall.ge hr hj; omega) _ _ _)
          simpa using h2
      have HBE : Hid (Below w.heap.size w (setW w1 g (k * 13) (flC x))) := setW_below (by rw [HG.out]; exact Nat.le_refl _) _ _ _ _ HB2.out
      rw [hx] at HALL HBE
      obtain ⟨u0, hu0⟩ := hpr1.cell (k * 13) (by omega)
      have f0 := hpr1.frozen (k * 13)
      obtain ⟨u1, hu1⟩ := hpr1.cell (k * 13 + 1) (by omega)
      have f1 := hpr1.frozen (k * 13 + 1)
      obtain ⟨u2, hu2⟩ := hpr1.cell (k * 13 + 2) (by omega)
      have f2 := hpr1.frozen (k * 13 + 2)
      obtain ⟨u3, hu3⟩ := hpr1.cell (k * 13 + 3) (by omega)
      have f3 := hpr1.frozen (k * 13 + 3)
      obtain ⟨u4, hu4⟩ := hpr1.cell (k * 13 + 4) (by omega)
      have f4 := hpr1.frozen (k * 13 + 4)
      obtain ⟨u5, hu5⟩ := hpr1.cell (k * 13 + 5) (by omega)
      have f5 := hpr1.frozen (k * 13 + 5)
      obtain ⟨u6, hu6⟩ := hpr1.cell (k * 13 + 6) (by omega)
      have f6 := hpr1.frozen (k * 13 + 6)
      obtain ⟨u7, hu7⟩ := hpr1.cell (k * 13 + 7) (by omega)
      have f7 := hpr1.frozen (k * 13 + 7)
      obtain ⟨u8, hu8⟩ := hpr1.cell (k * 13 + 8) (by omega)
      have f8 := hpr1.frozen (k * 13 + 8)
      obtain ⟨u9, hu9⟩ := hpr1.cell (k * 13 + 9) (by omega)
      have f9 := hpr1.frozen (k * 13 + 9)
      obtain ⟨u10, hu10⟩ := hpr1.cell (k * 13 + 10) (by omega)
      have f10 := hpr1.frozen (k * 13 + 10)
      obtain ⟨u11, hu11⟩ := hpr1.cell (k * 13 + 11) (by omega)
      have f11 := hpr1.frozen (k * 13 + 11)
      obtain ⟨u12, hu12⟩ := hpr1.cell (k * 13 + 12) (by omega)
      have f12 := hpr1.frozen (k * 13 + 12)
      clear hpr1 hall hrows hx q1 q2 q3 q4 bw hpr
      go_wp2
      go_roundw
      case rel => exact ⟨k + 1, _, by omega, by go_num, HALL, HBE⟩
      case measure => simp [intOf]; omega
    · obtain rfl : k = n := by omega
      obtain ⟨q1, q2, q3, q4⟩ := hpr.out
      have HF : Hid (kv.map (·.d) = ks ∧ FlsO wr w.heap.size (.slice (some ⟨g, 0, none⟩) k k) kv) := by
        refine ⟨?_, parts_Flight q3 q1 (by unfold maxLen; omega) (by rw [HG.out]; exact Nat.le_refl _) q4⟩
        rw [q2, List.take_of_length_le (by rw [HLN.out]; exact Nat.le_refl _)]
      clear q1 q2 q3 q4
      go_wp2
      go_ret
      exact ⟨_, kv, rfl, HF.out.1, HF.out.2, HBW.out⟩

end Go.Proofs.YtajccgffallajaaGreat

namespace Go.Proofs.YtajccgffallajaaGreat
open Go.RowKit
open Go.Lib hiding intOf

set_option maxHeartbeats 8000000 in
set_option maxRecDepth 100000 in
theorem eqFlightS_any (V1 V2 : Value) (kv1 kv2 : List FlV) (B1 B2 : Nat) (w : World) (he : kv1.map (·.d) = kv2.map (·.d)) (h1 : FlsO w B1 V1 kv1) (h2 : FlsO w B2 V2 kv2) (hn : kv1.length ≤ 2000000) (hs : ∀ x ∈ kv1, FlLim x.d) :
    Calls Tryz.prog 27 #[V1, V2] w fun e w' => e = .returned (.bool true) ∧ Below w.heap.size w w' := by
  have hlen : kv2.length = kv1.length := by have := congrArg List.length he; simpa using this.symm
  obtain ⟨n, hnn⟩ : ∃ n, n = kv1.length := ⟨_, rfl⟩
  obtain ⟨o1, c1, e1⟩ := h1.len
  obtain ⟨o2, c2, e2⟩ := h2.len
  rw [← hnn] at e1 hn
  rw [hlen, ← hnn] at e2
  subst e1 e2
  have HL1 : Hid (kv1.length = n) := hnn.symm
  have HL2 : Hid (kv2.length = n) := hlen.trans hnn.symm
  have HE : Hid (kv1.map (·.d) = kv2.map (·.d)) := he
  have HS : Hid (∀ x ∈ kv1, FlLim x.d) := hs
  have H1 : Hid (∀ W, Below w.heap.size w W → FlsO W B1 (.slice o1 n c1) kv1) := fun W h => h1.below h
  have H2 : Hid (∀ W, Below w.heap.size w W → FlsO W B2 (.slice o2 n c2) kv2) := fun W h => h2.below h
  clear h1 h2 hlen hnn he hs
  go_enter Tryz.func27, Tryz.ntmps27
  go_wp2
  go_loopw [5] (fun i wr => ∃ k : Nat, k ≤ n ∧ i = .int .i64 (k : Int) ∧ Hid (Below w.heap.size w wr)) (fun i _ => n - (intOf i).toNat)
  case atStart => exact ⟨0, Nat.zero_le _, rfl, Below.refl _ _⟩
  case round =>
    obtain ⟨k, hk, rfl, HBW⟩ := hrel
    by_cases hlt : k < n
    · have hlt2 : (k : Int) < (n : Int) := by omega
      obtain ⟨g1, cp1, ev1, hg1, at1⟩ := (H1.out wr HBW.out).at k (by rw [HL1.out]; exact hlt)
      obtain ⟨g2, cp2, ev2, hg2, at2⟩ := (H2.out wr HBW.out).at k (by rw [HL2.out]; exact hlt)
      obtain rfl : o1 = some ⟨g1, 0, none⟩ := (Value.slice.inj ev1).1
      obtain rfl : o2 = some ⟨g2, 0, none⟩ := (Value.slice.inj ev2).1
      have exy : (kv1[k]'(by rw [HL1.out]; exact hlt)).d = (kv2[k]'(by rw [HL2.out]; exact hlt)).d := by
        have h := congrArg (fun l : List FlD => l[k]?) HE.out
        simpa [List.getElem?_map, List.getElem?_eq_getElem (show k < kv1.length by rw [HL1.out]; exact hlt), List.getElem?_eq_getElem (show k < kv2.length by rw [HL2.out]; exact hlt)] using h
      have m1 : kv1[k]'(by rw [HL1.out]; exact hlt) ∈ kv1 := List.getElem_mem _
      have m2 : kv2[k]'(by rw [HL2.out]; exact hlt) ∈ kv2 := List.getElem_mem _
      generalize kv1[k]'(by rw [HL1.out]; exact hlt) = x at at1 exy m1
      generalize kv2[k]'(by rw [HL2.out]; exact hlt) = y at at2 exy m2
      have HXY : Hid (x.d = y.d) := exy
      have HO1 : Hid (∀ W, Below wr.heap.size wr W → RowsO W B1 (flR x)) := fun W h => ((H1.out wr HBW.out).below h).item m1
      have HO2 : Hid (∀ W, Below wr.heap.size wr W → RowsO W B2 (flR y)) := fun W h => ((H2.out wr HBW.out).below h).item m2
      have HSZ : Hid (FlLim x.d) := HS.out _ m1
      have a0 : wr.cell? ⟨g1, k * 13, none⟩ = some (.int .i64 x.d.qmt) := at1.c0
      have a1 : wr.cell? ⟨g1, k * 13 + 1, none⟩ = some (.string x.d.qpa) := at1.c1
      have a2 : wr.cell? ⟨g1, k * 13 + 2, none⟩ = some (x.v2) := at1.c2
      have a3 : wr.cell? ⟨g1, k * 13 + 3, none⟩ = some (.string x.d.qbd) := at1.c3
      have a4 : wr.cell? ⟨g1, k * 13 + 4, none⟩ = some (x.v4) := at1.c4
      have a5 : wr.cell? ⟨g1, k * 13 + 5, none⟩ = some (.string x.d.opa) := at1.c5
      have a6 : wr.cell? ⟨g1, k * 13 + 6, none⟩ = some (x.v6) := at1.c6
      have a7 : wr.cell? ⟨g1, k * 13 + 7, none⟩ = some (x.v7) := at1.c7
      have a8 : wr.cell? ⟨g1, k * 13 + 8, none⟩ = some (.int .i64 x.d.ost) := at1.c8
      have a9 : wr.cell? ⟨g1, k * 13 + 9, none⟩ = some (x.v9) := at1.c9
      have a10 : wr.cell? ⟨g1, k * 13 + 10, none⟩ = some (.string x.d.obd) := at1.c10
      have a11 : wr.cell? ⟨g1, k * 13 + 11, none⟩ = some (.int .i64 x.d.otm) := at1.c11
      have a12 : wr.cell? ⟨g1, k * 13 + 12, none⟩ = some (.bool x.d.has) := at1.c12
      have b0 : wr.cell? ⟨g2, k * 13, none⟩ = some (.int .i64 y.d.qmt) := at2.c0
      have b1 : wr.cell? ⟨g2, k * 13 + 1, none⟩ = some (.string y.d.qpa) := at2.c1
      have b2 : wr.cell? ⟨g2, k * 13 + 2, none⟩ = some (y.v2) := at2.c2
      have b3 : wr.cell? ⟨g2, k * 13 + 3, none⟩ = some (.string y.d.qbd) := at2.c3
      have b4 : wr.cell? ⟨g2, k * 13 + 4, none⟩ = some (y.v4) := at2.c4
      have b5 : wr.cell? ⟨g2, k * 13 + 5, none⟩ = some (.string y.d.opa) := at2.c5
      have b6 : wr.cell? ⟨g2, k * 13 + 6, none⟩ = some (y.v6) := at2.c6
      have b7 : wr.cell? ⟨g2, k * 13 + 7, none⟩ = some (y.v7) := at2.c7
      have b8 : wr.cell? ⟨g2, k * 13 + 8, none⟩ = some (.int .i64 y.d.ost) := at2.c8
      have b9 : wr.cell? ⟨g2, k * 13 + 9, none⟩ = some (y.v9) := at2.c9
      have b10 : wr.cell? ⟨g2, k * 13 + 10, none⟩ = some (.string y.d.obd) := at2.c10
      have b11 : wr.cell? ⟨g2, k * 13 + 11, none⟩ = some (.int .i64 y.d.otm) := at2.c11
      have b12 : wr.cell? ⟨g2, k * 13 + 12, none⟩ = some (.bool y.d.has) := at2.c12
      clear at1 at2 m1 m2 ev1 ev2 exy
      have HA : Hid (∀ w0 w1, Below wr.heap.size wr w0 → Below w0.heap.size w0 w1 → (w1.cell? ⟨g1, k * 13, none⟩ = some (.int .i64 x.d.qmt) ∧ w1.cell? ⟨g1, k * 13 + 1, none⟩ = some (.string x.d.qpa) ∧ w1.cell? ⟨g1, k * 13 + 2, none⟩ = some (x.v2) ∧ w1.cell? ⟨g1, k * 13 + 3, none⟩ = some (.string x.d.qbd) ∧ w1.cell? ⟨g1, k * 13 + 4, none⟩ = some (x.v4) ∧ w1.cell? ⟨g1, k * 13 + 5, none⟩ = some (.string x.d.opa) ∧ w1.cell? ⟨g1, k * 13 + 6, none⟩ = some (x.v6) ∧ w1.cell? ⟨g1, k * 13 + 7, none⟩ = some (x.v7) ∧ w1.cell? ⟨g1, k * 13 + 8, none⟩ = some (.int .i64 x.d.ost) ∧ w1.cell? ⟨g1, k * 13 + 9, none⟩ = some (x.v9) ∧ w1.cell? ⟨g1, k * 13 + 10, none⟩ = some (.string x.d.obd) ∧ w1.cell? ⟨g1, k * 13 + 11, none⟩ = some (.int .i64 x.d.otm) ∧ w1.cell? ⟨g1, k * 13 + 12, none⟩ = some (.bool x.d.has) ∧ w1.cell? ⟨g2, k * 13, none⟩ = some (.int .i64 y.d.qmt) ∧ w1.cell? ⟨g2, k * 13 + 1, none⟩ = some (.string y.d.qpa) ∧ w1.cell? ⟨g2, k * 13 + 2, none⟩ = some (y.v2) ∧ w1.cell? ⟨g2, k * 13 + 3, none⟩ = some (.string y.d.qbd) ∧ w1.cell? ⟨g2, k * 13 + 4, none⟩ = some (y.v4) ∧ w1.cell? ⟨g2, k * 13 + 5, none⟩ = some (.string y.d.opa) ∧ w1.cell? ⟨g2, k * 13 + 6, none⟩ = some (y.v6) ∧ w1.cell? ⟨g2, k * 13 + 7, none⟩ = some (y.v7) ∧ w1.cell? ⟨g2, k * 13 + 8, none⟩ = some (.int .i64 y.d.ost) ∧ w1.cell? ⟨g2, k * 13 + 9, none⟩ = some (y.v9) ∧ w1.cell? ⟨g2, k * 13 + 10, none⟩ = some (.string y.d.obd) ∧ w1.cell? ⟨g2, k * 13 + 11, none⟩ = some (.int .i64 y.d.otm) ∧ w1.cell? ⟨g2, k * 13 + 12, none⟩ = some (.bool y.d.has)) ∧ Below wr.heap.size wr w1) := fun w0 w1 h h' => by
        have hx := h.trans (h'.mono h.size)
        exact ⟨⟨by rw [hx.cell (p := ⟨g1, k * 13, none⟩) hg1]; exact a0, by rw [hx.cell (p := ⟨g1, k * 13 + 1, none⟩) hg1]; exact a1, by rw [hx.cell (p := ⟨g1, k * 13 + 2, none⟩) hg1]; exact a2, by rw [hx.cell (p := ⟨g1, k * 13 + 3, none⟩) hg1]; exact a3, by rw [hx.cell (p := ⟨g1, k * 13 + 4, none⟩) hg1]; exact a4, by rw [hx.cell (p := ⟨g1, k * 13 + 5, none⟩) hg1]; exact a5, by rw [hx.cell (p := ⟨g1, k * 13 + 6, none⟩) hg1]; exact a6, by rw [hx.cell (p := ⟨g1, k * 13 + 7, none⟩) hg1]; exact a7, by rw [hx.cell (p := ⟨g1, k * 13 + 8, none⟩) hg1]; exact a8, by rw [hx.cell (p := ⟨g1, k * 13 + 9, none⟩) hg1]; exact a9, by rw [hx.cell (p := ⟨g1, k * 13 + 10, none⟩) hg1]; exact a10, by rw [hx.cell (p := ⟨g1, k * 13 + 11, none⟩) hg1]; exact a11, by rw [hx.cell (p := ⟨g1, k * 13 + 12, none⟩) hg1]; exact a12, by rw [hx.cell (p := ⟨g2, k * 13, none⟩) hg2]; exact b0, by rw [hx.cell (p := ⟨g2, k * 13 + 1, none⟩) hg2]; exact b1, by rw [hx.cell (p := ⟨g2, k * 13 + 2, none⟩) hg2]; exact b2, by rw [hx.cell (p := ⟨g2, k * 13 + 3, none⟩) hg2]; exact b3, by rw [hx.cell (p := ⟨g2, k * 13 + 4, none⟩) hg2]; exact b4, by rw [hx.cell (p := ⟨g2, k * 13 + 5, none⟩) hg2]; exact b5, by rw [hx.cell (p := ⟨g2, k * 13 + 6, none⟩) hg2]; exact b6, by rw [hx.cell (p := ⟨g2, k * 13 + 7, none⟩) hg2]; exact b7, by rw [hx.cell (p := ⟨g2, k * 13 + 8, none⟩) hg2]; exact b8, by rw [hx.cell (p := ⟨g2, k * 13 + 9, none⟩) hg2]; exact b9, by rw [hx.cell (p := ⟨g2, k * 13 + 10, none⟩) hg2]; exact b10, by rw [hx.cell (p := ⟨g2, k * 13 + 11, none⟩) hg2]; exact b11, by rw [hx.cell (p := ⟨g2, k * 13 + 12, none⟩) hg2]; exact b12⟩, hx⟩
      go_wp2
      go_region_held3 (fun w' => w'.cell? ⟨g1, k * 13, none⟩ = some (.int .i64 x.d.qmt) ∧ w'.cell? ⟨g1, k * 13 + 1, none⟩ = some (.string x.d.qpa) ∧ w'.cell? ⟨g1, k * 13 + 2, none⟩ = some (x.v2) ∧ w'.cell? ⟨g1, k * 13 + 3, none⟩ = some (.string x.d.qbd) ∧ w'.cell? ⟨g1, k * 13 + 4, none⟩ = some (x.v4) ∧ w'.cell? ⟨g1, k * 13 + 5, none⟩ = some (.string x.d.opa) ∧ w'.cell? ⟨g1, k * 13 + 6, none⟩ = some (x.v6) ∧ w'.cell? ⟨g1, k * 13 + 7, none⟩ = some (x.v7) ∧ w'.cell? ⟨g1, k * 13 + 8, none⟩ = some (.int .i64 x.d.ost) ∧ w'.cell? ⟨g1, k * 13 + 9, none⟩ = some (x.v9) ∧ w'.cell? ⟨g1, k * 13 + 10, none⟩ = some (.string x.d.obd) ∧ w'.cell? ⟨g1, k * 13 + 11, none⟩ = some (.int .i64 x.d.otm) ∧ w'.cell? ⟨g1, k * 13 + 12, none⟩ = some (.bool x.d.has) ∧ w'.cell? ⟨g2, k * 13, none⟩ = some (.int .i64 y.d.qmt) ∧ w'.cell? ⟨g2, k * 13 + 1, none⟩ = some (.string y.d.qpa) ∧ w'.cell? ⟨g2, k * 13 + 2, none⟩ = some (y.v2) ∧ w'.cell? ⟨g2, k * 13 + 3, none⟩ = some (.string y.d.qbd) ∧ w'.cell? ⟨g2, k * 13 + 4, none⟩ = some (y.v4) ∧ w'.cell? ⟨g2, k * 13 + 5, none⟩ = some (.string y.d.opa) ∧ w'.cell? ⟨g2, k * 13 + 6, none⟩ = some (y.v6) ∧ w'.cell? ⟨g2, k * 13 + 7, none⟩ = some (y.v7) ∧ w'.cell? ⟨g2, k * 13 + 8, none⟩ = some (.int .i64 y.d.ost) ∧ w'.cell? ⟨g2, k * 13 + 9, none⟩ = some (y.v9) ∧ w'.cell? ⟨g2, k * 13 + 10, none⟩ = some (.string y.d.obd) ∧ w'.cell? ⟨g2, k * 13 + 11, none⟩ = some (.int .i64 y.d.otm) ∧ w'.cell? ⟨g2, k * 13 + 12, none⟩ = some (.bool y.d.has)) (first | assumption | go_keep) (first | (go_at_call 58; refine (eqFlight_any x.d x y B1 B2 _ rfl HXY.out.symm (HO1.out _ ((Below.refl _ wr).drew)) (HO2.out _ ((Below.refl _ wr).drew)) HSZ.out).mono ?_; rintro e w1 ⟨rfl, hb1⟩; obtain ⟨hcc, hbx⟩ := HA.out _ w1 ((Below.refl _ wr).drew) hb1))
      go_wp2
      go_roundw
      case rel => exact ⟨k + 1, by omega, by go_num, HBW.out.trans (hbx.mono HBW.out.size)⟩
      case measure => simp [intOf]; omega
    · go_wp2
      go_ret
      exact ⟨rfl, HBW.out⟩

end Go.Proofs.YtajccgffallajaaGreat

namespace Go.Proofs.YtajccgffallajaaGreat
open Go.RowKit
open Go.Lib hiding intOf

/-- What a Seen tells. -/
structure SeD where
  qmt : Int
  qpa : ByteArray
  qfs : List (ByteArray × ByteArray)
  qbd : ByteArray
  rst : Int
  rfs : List (ByteArray × ByteArray)
  rbd : ByteArray
  tim : Int
/-- And its lists' slices. -/
structure SeV where
  d : SeD
  v2 : Value
  v5 : Value
def zeroSe : SeD := ⟨0, ⟨#[]⟩, [], ⟨#[]⟩, 0, [], ⟨#[]⟩, 0⟩
def seAt (ks : List SeD) (i : Nat) : SeD := ks.getD i zeroSe
/-- Its cells. -/
def seC (x : SeV) : List Value := [.int .i64 x.d.qmt, .string x.d.qpa, x.v2, .string x.d.qbd, .int .i64 x.d.rst, x.v5, .string x.d.rbd, .int .i64 x.d.tim]
theorem seC_len (x : SeV) : (seC x).length = 8 := rfl
/-- Its rows. -/
def seR (x : SeV) : List Rw := [(⟨135, 2, x.v2, x.d.qfs.length, flatF x.d.qfs⟩ : Rw), (⟨135, 2, x.v5, x.d.rfs.length, flatF x.d.rfs⟩ : Rw)]
def seRow (V : Value) (kv : List SeV) : Rw := ⟨116, 8, V, kv.length, kv.flatMap seC⟩
def seAll (V : Value) (kv : List SeV) : List Rw := seRow V kv :: kv.flatMap seR
/-- A list of them, of one's own. -/
def SesO (w : World) (base : Nat) (V : Value) (kv : List SeV) : Prop := RowsO w base (seAll V kv)
theorem SesO.row {w : World} {base : Nat} {V : Value} {kv : List SeV} (h : SesO w base V kv) : w.ownsRow base 116 8 V kv.length (kv.flatMap seC) := h.own (seRow V kv) (by simp [seAll])
theorem SesO.len {w : World} {base : Nat} {V : Value} {kv : List SeV} (h : SesO w base V kv) : ∃ oa cp, V = .slice oa kv.length cp := slice_of_owns h.row
theorem SesO.below {w w' : World} {base : Nat} {V : Value} {kv : List SeV} (h : SesO w base V kv) (hb : Below w.heap.size w w') : SesO w' base V kv := RowsO.below h hb
theorem SesO.item {w : World} {base : Nat} {V : Value} {kv : List SeV} (h : SesO w base V kv) {x : SeV} (hx : x ∈ kv) : RowsO w base (seR x) := by
  obtain ⟨s, t, e⟩ := List.append_of_mem hx
  refine RowsO.sub h ?_
  unfold seAll
  rw [e, List.flatMap_append, List.flatMap_cons]
  exact ((List.sublist_append_left _ _).trans (List.sublist_append_right _ _)).trans (List.sublist_cons_self _ _)
theorem seR_T {x : SeV} {r : Rw} (h : r ∈ seR x) : r.T = 135 := by
  simp only [seR, List.mem_cons, List.not_mem_nil, or_false] at h
  rcases h with rfl | rfl <;> simp
/-- One of the list, cell by cell. -/
structure SeAt (w : World) (g i : Nat) (x : SeV) : Prop where
  c0 : w.cell? ⟨g, i * 8, none⟩ = some (.int .i64 x.d.qmt)
  c1 : w.cell? ⟨g, i * 8 + 1, none⟩ = some (.string x.d.qpa)
  c2 : w.cell? ⟨g, i * 8 + 2, none⟩ = some (x.v2)
  c3 : w.cell? ⟨g, i * 8 + 3, none⟩ = some (.string x.d.qbd)
  c4 : w.cell? ⟨g, i * 8 + 4, none⟩ = some (.int .i64 x.d.rst)
  c5 : w.cell? ⟨g, i * 8 + 5, none⟩ = some (x.v5)
  c6 : w.cell? ⟨g, i * 8 + 6, none⟩ = some (.string x.d.rbd)
  c7 : w.cell? ⟨g, i * 8 + 7, none⟩ = some (.int .i64 x.d.tim)
theorem SesO.at {w : World} {base : Nat} {V : Value} {kv : List SeV} (h : SesO w base V kv) (i : Nat) (hi : i < kv.length) : ∃ g cap, V = .slice (some ⟨g, 0, none⟩) kv.length cap ∧ g < w.heap.size ∧ SeAt w g i (kv[i]'hi) := by
  have hr := h.row
  rcases hr.2 with ⟨_, h0⟩ | ⟨g, cap, cur, rfl, _, h1, _⟩
  · omega
  · have key : ∀ j, j < 8 → ∀ u, (seC (kv[i]'hi))[j]? = some u → w.cell? ⟨g, i * 8 + j, none⟩ = some u := fun j hj u hu => (owns_cellC hr (i * 8 + j) u (by rw [items_at seC 8 seC_len kv i j hi hj]; exact hu)).1
    exact ⟨g, cap, rfl, (Array.getElem?_eq_some_iff.1 h1).1, ⟨key 0 (by decide) _ rfl, key 1 (by decide) _ rfl, key 2 (by decide) _ rfl, key 3 (by decide) _ rfl, key 4 (by decide) _ rfl, key 5 (by decide) _ rfl, key 6 (by decide) _ rfl, key 7 (by decide) _ rfl⟩⟩
end Go.Proofs.YtajccgffallajaaGreat

namespace Go.Proofs.YtajccgffallajaaGreat
open Go.RowKit
open Go.Lib hiding intOf

/-- Short enough to be copied. -/
structure SeLen (d : SeD) : Prop where
  qfs : d.qfs.length ≤ 1048576
  rfs : d.rfs.length ≤ 1048576

set_option maxHeartbeats 8000000 in
set_option maxRecDepth 100000 in
theorem toSeen_any (d : SeD) (a2 : Option Addr) (c2 : Nat) (a5 : Option Addr) (c5 : Nat) (B : Nat) (w : World) (h2 : ArgF w B a2 d.qfs.length d.qfs) (h5 : ArgF w B a5 d.rfs.length d.rfs) (hB : B ≤ w.heap.size) (hn : SeLen d) :
    Calls Tryz.prog 47 #[.agg #[.int .i64 d.qmt, .string d.qpa, .slice a2 d.qfs.length c2, .string d.qbd, .int .i64 d.rst, .slice a5 d.rfs.length c5, .string d.rbd, .int .i64 d.tim]] w fun e w' => ∃ x : SeV, e = .returned (.agg #[.int .i64 x.d.qmt, .string x.d.qpa, x.v2, .string x.d.qbd, .int .i64 x.d.rst, x.v5, .string x.d.rbd, .int .i64 x.d.tim]) ∧ x.d = d ∧ RowsO w' w.heap.size (seR x) ∧ Below w.heap.size w w' := by
  have HA2 : Hid (∀ W, Below w.heap.size w W → ArgF W B a2 d.qfs.length d.qfs) := fun W h => h2.below (h.mono hB)
  have HA5 : Hid (∀ W, Below w.heap.size w W → ArgF W B a5 d.rfs.length d.rfs) := fun W h => h5.below (h.mono hB)
  have HBB : Hid (∀ W, Below w.heap.size w W → B ≤ W.heap.size) := fun W h => Nat.le_trans hB h.size
  clear h2 h5
  have hb0 : Below w.heap.size w w := Below.refl _ _
  go_enter Tryz.func47, Tryz.ntmps47
  go_upto_region 1 with fail
  obtain ⟨qv1, hqv1⟩ : ∃ q, q = (w).heap.size := ⟨_, rfl⟩
  obtain ⟨w1, hW1⟩ : ∃ W, W = (w).alloc (.cells #[.int .i64 d.qmt, .string d.qpa, .slice a2 d.qfs.length c2, .string d.qbd, .int .i64 d.rst, .slice a5 d.rfs.length c5, .string d.rbd, .int .i64 d.tim] 104) := ⟨_, rfl⟩
  have hz1 : (w).heap.size = qv1 := hqv1.symm
  first | rw [← hW1, ← hqv1] | rw [← hW1]
  have hs1 : w1.heap.size = qv1 + 1 := by rw [hW1, ← hz1]; simp
  have bw : Below (w).heap.size (w) w1 := by rw [hW1]; exact (Below.refl _ _).alloc (Nat.le_refl _) _
  have hb1 : Below w.heap.size w (w1) := hb0.trans (bw.mono hb0.size)
  have HBv1_1 : Hid ((w1).heap[qv1]? = some (.cells #[.int .i64 d.qmt, .string d.qpa, .slice a2 d.qfs.length c2, .string d.qbd, .int .i64 d.rst, .slice a5 d.rfs.length c5, .string d.rbd, .int .i64 d.tim] 104)) := by show _ = _; rw [hW1, ← hz1]; exact heap_alloc_new _ _
  clear hb0 bw hW1 hz1
  obtain ⟨qv2, hqv2⟩ : ∃ q, q = qv1 + 1 := ⟨_, rfl⟩
  obtain ⟨w2, hW2⟩ : ∃ W, W = (w1).alloc (.cells #[.int .i64 0, .string ⟨#[]⟩, .slice none 0 0, .string ⟨#[]⟩, .int .i64 0, .slice none 0 0, .string ⟨#[]⟩, .int .i64 0] 116) := ⟨_, rfl⟩
  have hz2 : (w1).heap.size = qv2 := by rw [hqv2]; exact hs1
  first | rw [← hW2, ← hqv2] | rw [← hW2]
  have hs2 : w2.heap.size = qv2 + 1 := by rw [hW2, ← hz2]; simp
  have bw : Below (w1).heap.size (w1) w2 := by rw [hW2]; exact (Below.refl _ _).alloc (Nat.le_refl _) _
  have hb2 : Below w.heap.size w (w2) := hb1.trans (bw.mono hb1.size)
  have HBv1_2 : Hid ((w2).heap[qv1]? = some (.cells #[.int .i64 d.qmt, .string d.qpa, .slice a2 d.qfs.length c2, .string d.qbd, .int .i64 d.rst, .slice a5 d.rfs.length c5, .string d.rbd, .int .i64 d.tim] 104)) := blk_below HBv1_1.out bw
  have HNv1v2 : Hid (qv1 ≠ qv2) := fun e => by have h1 := (Array.getElem?_eq_some_iff.1 HBv1_1.out).1; omega
  have HBv2_2 : Hid ((w2).heap[qv2]? = some (.cells #[.int .i64 0, .string ⟨#[]⟩, .slice none 0 0, .string ⟨#[]⟩, .int .i64 0, .slice none 0 0, .string ⟨#[]⟩, .int .i64 0] 116)) := by show _ = _; rw [hW2, ← hz2]; exact heap_alloc_new _ _
  have HGv2 : Hid (w.heap.size ≤ qv2) := by show _ ≤ _; rw [← hz2]; exact hb1.size
  clear hb1 HBv1_1 bw hW2 hz2
  clear hs2 hqv2 hs1 hqv1
  go_upto_region 2 with fail
  obtain ⟨qv3, hqv3⟩ : ∃ q, q = (w2).heap.size := ⟨_, rfl⟩
  obtain ⟨w3, hW3⟩ : ∃ W, W = (w2).alloc (.cells #[.int .i64 0, .string ⟨#[]⟩, .slice none 0 0, .string ⟨#[]⟩, .int .i64 0, .slice none 0 0, .string ⟨#[]⟩, .int .i64 0] 116) := ⟨_, rfl⟩
  have hz3 : (w2).heap.size = qv3 := hqv3.symm
  first | rw [← hW3, ← hqv3] | rw [← hW3]
  have hs3 : w3.heap.size = qv3 + 1 := by rw [hW3, ← hz3]; simp
  have bw : Below (w2).heap.size (w2) w3 := by rw [hW3]; exact (Below.refl _ _).alloc (Nat.le_refl _) _
  have hb3 : Below w.heap.size w (w3) := hb2.trans (bw.mono hb2.size)
  have HBv1_3 : Hid ((w3).heap[qv1]? = some (.cells #[.int .i64 d.qmt, .string d.qpa, .slice a2 d.qfs.length c2, .string d.qbd, .int .i64 d.rst, .slice a5 d.rfs.length c5, .string d.rbd, .int .i64 d.tim] 104)) := blk_below HBv1_2.out bw
  have HBv2_3 : Hid ((w3).heap[qv2]? = some (.cells #[.int .i64 0, .string ⟨#[]⟩, .slice none 0 0, .string ⟨#[]⟩, .int .i64 0, .slice none 0 0, .string ⟨#[]⟩, .int .i64 0] 116)) := blk_below HBv2_2.out bw
  have HNv1v3 : Hid (qv1 ≠ qv3) := fun e => by have h1 := (Array.getElem?_eq_some_iff.1 HBv1_2.out).1; omega
  have HNv2v3 : Hid (qv2 ≠ qv3) := fun e => by have h1 := (Array.getElem?_eq_some_iff.1 HBv2_2.out).1; omega
  have HBv3_3 : Hid ((w3).heap[qv3]? = some (.cells #[.int .i64 0, .string ⟨#[]⟩, .slice none 0 0, .string ⟨#[]⟩, .int .i64 0, .slice none 0 0, .string ⟨#[]⟩, .int .i64 0] 116)) := by show _ = _; rw [hW3, ← hz3]; exact heap_alloc_new _ _
  have HGv3 : Hid (w.heap.size ≤ qv3) := by show _ ≤ _; rw [← hz3]; exact hb2.size
  clear hb2 HBv1_2 HBv2_2 bw hW3 hz3
  clear hs3 hqv3
  have cv1_0 : (w3).cell? ⟨qv1, 0, none⟩ = some (.int .i64 d.qmt) := (cell_of HBv1_3.out 0).trans rfl
  have cv1_1 : (w3).cell? ⟨qv1, 1, none⟩ = some (.string d.qpa) := (cell_of HBv1_3.out 1).trans rfl
  have cv1_2 : (w3).cell? ⟨qv1, 2, none⟩ = some (.slice a2 d.qfs.length c2) := (cell_of HBv1_3.out 2).trans rfl
  have cv1_3 : (w3).cell? ⟨qv1, 3, none⟩ = some (.string d.qbd) := (cell_of HBv1_3.out 3).trans rfl
  go_wp2_with fail
  refine (toReq_any d.qmt d.qpa a2 d.qfs.length c2 d.qbd d.qfs B _ (HA2.out _ hb3) (HBB.out _ hb3) hn.qfs).mono ?_
  rintro e w4 ⟨vv, rfl, hown, bw⟩
  obtain ⟨o2, p2, rfl⟩ := slice_of_owns hown
  have HRN : Hid (RowsO w4 w.heap.size ([(⟨135, 2, (.slice o2 d.qfs.length p2), d.qfs.length, flatF d.qfs⟩ : Rw)])) := RowsO.wide (RowsO.one (r := (⟨135, 2, (.slice o2 d.qfs.length p2), d.qfs.length, flatF d.qfs⟩ : Rw)) hown) hb3.size
  have HT1 : Hid (∀ r ∈ ([(⟨135, 2, (.slice o2 d.qfs.length p2), d.qfs.length, flatF d.qfs⟩ : Rw)]), 116 ≠ r.T) := by
    intro r hr
    simp only [List.mem_cons, List.not_mem_nil, or_false] at hr
    rcases hr with rfl
    · exact (by decide : (116 : TypeId) ≠ 135)
  clear hown
  have hb4 : Below w.heap.size w (w4) := hb3.trans (bw.mono hb3.size)
  have HBv1_4 : Hid ((w4).heap[qv1]? = some (.cells #[.int .i64 d.qmt, .string d.qpa, .slice a2 d.qfs.length c2, .string d.qbd, .int .i64 d.rst, .slice a5 d.rfs.length c5, .string d.rbd, .int .i64 d.tim] 104)) := blk_below HBv1_3.out bw
  have HBv2_4 : Hid ((w4).heap[qv2]? = some (.cells #[.int .i64 0, .string ⟨#[]⟩, .slice none 0 0, .string ⟨#[]⟩, .int .i64 0, .slice none 0 0, .string ⟨#[]⟩, .int .i64 0] 116)) := blk_below HBv2_3.out bw
  have HBv3_4 : Hid ((w4).heap[qv3]? = some (.cells #[.int .i64 0, .string ⟨#[]⟩, .slice none 0 0, .string ⟨#[]⟩, .int .i64 0, .slice none 0 0, .string ⟨#[]⟩, .int .i64 0] 116)) := blk_below HBv3_3.out bw
  clear hb3 HBv1_3 HBv2_3 HBv3_3 bw
  have ER_4 : Hid (RowsO (w4) w.heap.size ([(⟨135, 2, (.slice o2 d.qfs.length p2), d.qfs.length, flatF d.qfs⟩ : Rw)])) := HRN.out
  clear HRN
  clear cv1_0 cv1_1 cv1_2 cv1_3
  have cv3_0 : (w4).cell? ⟨qv3, 0, none⟩ = some (.int .i64 0) := (cell_of HBv3_4.out 0).trans rfl
  have fcv3_0 : (w4).frozen? ⟨qv3, 0, none⟩ = false := frozen_of HBv3_4.out 0
  have cv3_1 : (w4).cell? ⟨qv3, 1, none⟩ = some (.string ⟨#[]⟩) := (cell_of HBv3_4.out 1).trans rfl
  have fcv3_1 : (w4).frozen? ⟨qv3, 1, none⟩ = false := frozen_of HBv3_4.out 1
  have cv3_2 : (w4).cell? ⟨qv3, 2, none⟩ = some (.slice none 0 0) := (cell_of HBv3_4.out 2).trans rfl
  have fcv3_2 : (w4).frozen? ⟨qv3, 2, none⟩ = false := frozen_of HBv3_4.out 2
  have cv3_3 : (w4).cell? ⟨qv3, 3, none⟩ = some (.string ⟨#[]⟩) := (cell_of HBv3_4.out 3).trans rfl
  have fcv3_3 : (w4).frozen? ⟨qv3, 3, none⟩ = false := frozen_of HBv3_4.out 3
  go_upto_region 3 with fail
  obtain ⟨w5, hW5⟩ : ∃ W, W = (w4).setCell ⟨qv3, 0, none⟩ (.int .i64 d.qmt) := ⟨_, rfl⟩
  rw [← hW5]
  have hb5 : Below w.heap.size w (w5) := by rw [hW5]; exact (hb4.setCell (p := ⟨qv3, 0, none⟩) HGv3.out _)
  have HBv1_5 : Hid ((w5).heap[qv1]? = some (.cells #[.int .i64 d.qmt, .string d.qpa, .slice a2 d.qfs.length c2, .string d.qbd, .int .i64 d.rst, .slice a5 d.rfs.length c5, .string d.rbd, .int .i64 d.tim] 104)) := by show _ = _; rw [hW5, heap_setCell_other _ _ _ _ HNv1v3.out]; exact HBv1_4.out
  have HBv2_5 : Hid ((w5).heap[qv2]? = some (.cells #[.int .i64 0, .string ⟨#[]⟩, .slice none 0 0, .string ⟨#[]⟩, .int .i64 0, .slice none 0 0, .string ⟨#[]⟩, .int .i64 0] 116)) := by show _ = _; rw [hW5, heap_setCell_other _ _ _ _ HNv2v3.out]; exact HBv2_4.out
  have ER_5 : Hid (RowsO (w5) w.heap.size ([(⟨135, 2, (.slice o2 d.qfs.length p2), d.qfs.length, flatF d.qfs⟩ : Rw)])) := by show RowsO _ _ _; rw [hW5]; exact RowsO.other ER_4.out HBv3_4.out HT1.out
  have HBv3_5 : Hid ((w5).heap[qv3]? = some (.cells #[.int .i64 d.qmt, .string ⟨#[]⟩, .slice none 0 0, .string ⟨#[]⟩, .int .i64 0, .slice none 0 0, .string ⟨#[]⟩, .int .i64 0] 116)) := by show _ = _; rw [hW5]; have h := heap_set _ _ 0 _ _ _ (.int .i64 d.qmt) HBv3_4.out; simpa using h
  clear hb4 HBv1_4 HBv2_4 HBv3_4 ER_4 hW5
  obtain ⟨w6, hW6⟩ : ∃ W, W = (w5).setCell ⟨qv3, 1, none⟩ (.string d.qpa) := ⟨_, rfl⟩
  rw [← hW6]
  have hb6 : Below w.heap.size w (w6) := by rw [hW6]; exact (hb5.setCell (p := ⟨qv3, 1, none⟩) HGv3.out _)
  have HBv1_6 : Hid ((w6).heap[qv1]? = some (.cells #[.int .i64 d.qmt, .string d.qpa, .slice a2 d.qfs.length c2, .string d.qbd, .int .i64 d.rst, .slice a5 d.rfs.length c5, .string d.rbd, .int .i64 d.tim] 104)) := by show _ = _; rw [hW6, heap_setCell_other _ _ _ _ HNv1v3.out]; exact HBv1_5.out
  have HBv2_6 : Hid ((w6).heap[qv2]? = some (.cells #[.int .i64 0, .string ⟨#[]⟩, .slice none 0 0, .string ⟨#[]⟩, .int .i64 0, .slice none 0 0, .string ⟨#[]⟩, .int .i64 0] 116)) := by show _ = _; rw [hW6, heap_setCell_other _ _ _ _ HNv2v3.out]; exact HBv2_5.out
  have ER_6 : Hid (RowsO (w6) w.heap.size ([(⟨135, 2, (.slice o2 d.qfs.length p2), d.qfs.length, flatF d.qfs⟩ : Rw)])) := by show RowsO _ _ _; rw [hW6]; exact RowsO.other ER_5.out HBv3_5.out HT1.out
  have HBv3_6 : Hid ((w6).heap[qv3]? = some (.cells #[.int .i64 d.qmt, .string d.qpa, .slice none 0 0, .string ⟨#[]⟩, .int .i64 0, .slice none 0 0, .string ⟨#[]⟩, .int .i64 0] 116)) := by show _ = _; rw [hW6]; have h := heap_set _ _ 1 _ _ _ (.string d.qpa) HBv3_5.out; simpa using h
  clear hb5 HBv1_5 HBv2_5 HBv3_5 ER_5 hW6
  obtain ⟨w7, hW7⟩ : ∃ W, W = (w6).setCell ⟨qv3, 2, none⟩ (.slice o2 d.qfs.length p2) := ⟨_, rfl⟩
  rw [← hW7]
  have hb7 : Below w.heap.size w (w7) := by rw [hW7]; exact (hb6.setCell (p := ⟨qv3, 2, none⟩) HGv3.out _)
  have HBv1_7 : Hid ((w7).heap[qv1]? = some (.cells #[.int .i64 d.qmt, .string d.qpa, .slice a2 d.qfs.length c2, .string d.qbd, .int .i64 d.rst, .slice a5 d.rfs.length c5, .string d.rbd, .int .i64 d.tim] 104)) := by show _ = _; rw [hW7, heap_setCell_other _ _ _ _ HNv1v3.out]; exact HBv1_6.out
  have HBv2_7 : Hid ((w7).heap[qv2]? = some (.cells #[.int .i64 0, .string ⟨#[]⟩, .slice none 0 0, .string ⟨#[]⟩, .int .i64 0, .slice none 0 0, .string ⟨#[]⟩, .int .i64 0] 116)) := by show _ = _; rw [hW7, heap_setCell_other _ _ _ _ HNv2v3.out]; exact HBv2_6.out
  have ER_7 : Hid (RowsO (w7) w.heap.size ([(⟨135, 2, (.slice o2 d.qfs.length p2), d.qfs.length, flatF d.qfs⟩ : Rw)])) := by show RowsO _ _ _; rw [hW7]; exact RowsO.other ER_6.out HBv3_6.out HT1.out
  have HBv3_7 : Hid ((w7).heap[qv3]? = some (.cells #[.int .i64 d.qmt, .string d.qpa, .slice o2 d.qfs.length p2, .string ⟨#[]⟩, .int .i64 0, .slice none 0 0, .string ⟨#[]⟩, .int .i64 0] 116)) := by show _ = _; rw [hW7]; have h := heap_set _ _ 2 _ _ _ (.slice o2 d.qfs.length p2) HBv3_6.out; simpa using h
  clear hb6 HBv1_6 HBv2_6 HBv3_6 ER_6 hW7
  obtain ⟨w8, hW8⟩ : ∃ W, W = (w7).setCell ⟨qv3, 3, none⟩ (.string d.qbd) := ⟨_, rfl⟩
  rw [← hW8]
  have hb8 : Below w.heap.size w (w8) := by rw [hW8]; exact (hb7.setCell (p := ⟨qv3, 3, none⟩) HGv3.out _)
  have HBv1_8 : Hid ((w8).heap[qv1]? = some (.cells #[.int .i64 d.qmt, .string d.qpa, .slice a2 d.qfs.length c2, .string d.qbd, .int .i64 d.rst, .slice a5 d.rfs.length c5, .string d.rbd, .int .i64 d.tim] 104)) := by show _ = _; rw [hW8, heap_setCell_other _ _ _ _ HNv1v3.out]; exact HBv1_7.out
  have HBv2_8 : Hid ((w8).heap[qv2]? = some (.cells #[.int .i64 0, .string ⟨#[]⟩, .slice none 0 0, .string ⟨#[]⟩, .int .i64 0, .slice none 0 0, .string ⟨#[]⟩, .int .i64 0] 116)) := by show _ = _; rw [hW8, heap_setCell_other _ _ _ _ HNv2v3.out]; exact HBv2_7.out
  have ER_8 : Hid (RowsO (w8) w.heap.size ([(⟨135, 2, (.slice o2 d.qfs.length p2), d.qfs.length, flatF d.qfs⟩ : Rw)])) := by show RowsO _ _ _; rw [hW8]; exact RowsO.other ER_7.out HBv3_7.out HT1.out
  have HBv3_8 : Hid ((w8).heap[qv3]? = some (.cells #[.int .i64 d.qmt, .string d.qpa, .slice o2 d.qfs.length p2, .string d.qbd, .int .i64 0, .slice none 0 0, .string ⟨#[]⟩, .int .i64 0] 116)) := by show _ = _; rw [hW8]; have h := heap_set _ _ 3 _ _ _ (.string d.qbd) HBv3_7.out; simpa using h
  clear hb7 HBv1_7 HBv2_7 HBv3_7 ER_7 hW8
  clear cv3_0 fcv3_0 cv3_1 fcv3_1 cv3_2 fcv3_2 cv3_3 fcv3_3
  have cv1_4 : (w8).cell? ⟨qv1, 4, none⟩ = some (.int .i64 d.rst) := (cell_of HBv1_8.out 4).trans rfl
  have cv1_5 : (w8).cell? ⟨qv1, 5, none⟩ = some (.slice a5 d.rfs.length c5) := (cell_of HBv1_8.out 5).trans rfl
  have cv1_6 : (w8).cell? ⟨qv1, 6, none⟩ = some (.string d.rbd) := (cell_of HBv1_8.out 6).trans rfl
  go_wp2_with fail
  refine (toResp_any d.rst a5 d.rfs.length c5 d.rbd d.rfs B _ (HA5.out _ hb8) (HBB.out _ hb8) hn.rfs).mono ?_
  rintro e w9 ⟨vv, rfl, hown, bw⟩
  obtain ⟨o5, p5, rfl⟩ := slice_of_owns hown
  have HRN : Hid (RowsO w9 w.heap.size ([(⟨135, 2, (.slice o2 d.qfs.length p2), d.qfs.length, flatF d.qfs⟩ : Rw), (⟨135, 2, (.slice o5 d.rfs.length p5), d.rfs.length, flatF d.rfs⟩ : Rw)])) := ER_8.out.more bw (RowsO.one (r := (⟨135, 2, (.slice o5 d.rfs.length p5), d.rfs.length, flatF d.rfs⟩ : Rw)) hown) (Nat.le_refl _) hb8.size
  have HT2 : Hid (∀ r ∈ ([(⟨135, 2, (.slice o2 d.qfs.length p2), d.qfs.length, flatF d.qfs⟩ : Rw), (⟨135, 2, (.slice o5 d.rfs.length p5), d.rfs.length, flatF d.rfs⟩ : Rw)]), 116 ≠ r.T) := by
    intro r hr
    simp only [List.mem_cons, List.not_mem_nil, or_false] at hr
    rcases hr with rfl | rfl
    · exact (by decide : (116 : TypeId) ≠ 135)
    · exact (by decide : (116 : TypeId) ≠ 135)
  clear hown
  have hb9 : Below w.heap.size w (w9) := hb8.trans (bw.mono hb8.size)
  have HBv1_9 : Hid ((w9).heap[qv1]? = some (.cells #[.int .i64 d.qmt, .string d.qpa, .slice a2 d.qfs.length c2, .string d.qbd, .int .i64 d.rst, .slice a5 d.rfs.length c5, .string d.rbd, .int .i64 d.tim] 104)) := blk_below HBv1_8.out bw
  have HBv2_9 : Hid ((w9).heap[qv2]? = some (.cells #[.int .i64 0, .string ⟨#[]⟩, .slice none 0 0, .string ⟨#[]⟩, .int .i64 0, .slice none 0 0, .string ⟨#[]⟩, .int .i64 0] 116)) := blk_below HBv2_8.out bw
  have HBv3_9 : Hid ((w9).heap[qv3]? = some (.cells #[.int .i64 d.qmt, .string d.qpa, .slice o2 d.qfs.length p2, .string d.qbd, .int .i64 0, .slice none 0 0, .string ⟨#[]⟩, .int .i64 0] 116)) := blk_below HBv3_8.out bw
  have ER_9 : Hid (RowsO (w9) w.heap.size ([(⟨135, 2, (.slice o2 d.qfs.length p2), d.qfs.length, flatF d.qfs⟩ : Rw)])) := ER_8.out.below bw
  clear hb8 HBv1_8 HBv2_8 HBv3_8 ER_8 bw
  clear ER_9
  have ER_9 : Hid (RowsO (w9) w.heap.size ([(⟨135, 2, (.slice o2 d.qfs.length p2), d.qfs.length, flatF d.qfs⟩ : Rw), (⟨135, 2, (.slice o5 d.rfs.length p5), d.rfs.length, flatF d.rfs⟩ : Rw)])) := HRN.out
  clear HRN
  clear cv1_4 cv1_5 cv1_6
  have cv3_4 : (w9).cell? ⟨qv3, 4, none⟩ = some (.int .i64 0) := (cell_of HBv3_9.out 4).trans rfl
  have fcv3_4 : (w9).frozen? ⟨qv3, 4, none⟩ = false := frozen_of HBv3_9.out 4
  have cv3_5 : (w9).cell? ⟨qv3, 5, none⟩ = some (.slice none 0 0) := (cell_of HBv3_9.out 5).trans rfl
  have fcv3_5 : (w9).frozen? ⟨qv3, 5, none⟩ = false := frozen_of HBv3_9.out 5
  have cv3_6 : (w9).cell? ⟨qv3, 6, none⟩ = some (.string ⟨#[]⟩) := (cell_of HBv3_9.out 6).trans rfl
  have fcv3_6 : (w9).frozen? ⟨qv3, 6, none⟩ = false := frozen_of HBv3_9.out 6
  go_upto_region 4 with fail
  obtain ⟨w10, hW10⟩ : ∃ W, W = (w9).setCell ⟨qv3, 4, none⟩ (.int .i64 d.rst) := ⟨_, rfl⟩
  rw [← hW10]
  have hb10 : Below w.heap.size w (w10) := by rw [hW10]; exact (hb9.setCell (p := ⟨qv3, 4, none⟩) HGv3.out _)
  have HBv1_10 : Hid ((w10).heap[qv1]? = some (.cells #[.int .i64 d.qmt, .string d.qpa, .slice a2 d.qfs.length c2, .string d.qbd, .int .i64 d.rst, .slice a5 d.rfs.length c5, .string d.rbd, .int .i64 d.tim] 104)) := by show _ = _; rw [hW10, heap_setCell_other _ _ _ _ HNv1v3.out]; exact HBv1_9.out
  have HBv2_10 : Hid ((w10).heap[qv2]? = some (.cells #[.int .i64 0, .string ⟨#[]⟩, .slice none 0 0, .string ⟨#[]⟩, .int .i64 0, .slice none 0 0, .string ⟨#[]⟩, .int .i64 0] 116)) := by show _ = _; rw [hW10, heap_setCell_other _ _ _ _ HNv2v3.out]; exact HBv2_9.out
  have ER_10 : Hid (RowsO (w10) w.heap.size ([(⟨135, 2, (.slice o2 d.qfs.length p2), d.qfs.length, flatF d.qfs⟩ : Rw), (⟨135, 2, (.slice o5 d.rfs.length p5), d.rfs.length, flatF d.rfs⟩ : Rw)])) := by show RowsO _ _ _; rw [hW10]; exact RowsO.other ER_9.out HBv3_9.out HT2.out
  have HBv3_10 : Hid ((w10).heap[qv3]? = some (.cells #[.int .i64 d.qmt, .string d.qpa, .slice o2 d.qfs.length p2, .string d.qbd, .int .i64 d.rst, .slice none 0 0, .string ⟨#[]⟩, .int .i64 0] 116)) := by show _ = _; rw [hW10]; have h := heap_set _ _ 4 _ _ _ (.int .i64 d.rst) HBv3_9.out; simpa using h
  clear hb9 HBv1_9 HBv2_9 HBv3_9 ER_9 hW10
  obtain ⟨w11, hW11⟩ : ∃ W, W = (w10).setCell ⟨qv3, 5, none⟩ (.slice o5 d.rfs.length p5) := ⟨_, rfl⟩
  rw [← hW11]
  have hb11 : Below w.heap.size w (w11) := by rw [hW11]; exact (hb10.setCell (p := ⟨qv3, 5, none⟩) HGv3.out _)
  have HBv1_11 : Hid ((w11).heap[qv1]? = some (.cells #[.int .i64 d.qmt, .string d.qpa, .slice a2 d.qfs.length c2, .string d.qbd, .int .i64 d.rst, .slice a5 d.rfs.length c5, .string d.rbd, .int .i64 d.tim] 104)) := by show _ = _; rw [hW11, heap_setCell_other _ _ _ _ HNv1v3.out]; exact HBv1_10.out
  have HBv2_11 : Hid ((w11).heap[qv2]? = some (.cells #[.int .i64 0, .string ⟨#[]⟩, .slice none 0 0, .string ⟨#[]⟩, .int .i64 0, .slice none 0 0, .string ⟨#[]⟩, .int .i64 0] 116)) := by show _ = _; rw [hW11, heap_setCell_other _ _ _ _ HNv2v3.out]; exact HBv2_10.out
  have ER_11 : Hid (RowsO (w11) w.heap.size ([(⟨135, 2, (.slice o2 d.qfs.length p2), d.qfs.length, flatF d.qfs⟩ : Rw), (⟨135, 2, (.slice o5 d.rfs.length p5), d.rfs.length, flatF d.rfs⟩ : Rw)])) := by show RowsO _ _ _; rw [hW11]; exact RowsO.other ER_10.out HBv3_10.out HT2.out
  have HBv3_11 : Hid ((w11).heap[qv3]? = some (.cells #[.int .i64 d.qmt, .string d.qpa, .slice o2 d.qfs.length p2, .string d.qbd, .int .i64 d.rst, .slice o5 d.rfs.length p5, .string ⟨#[]⟩, .int .i64 0] 116)) := by show _ = _; rw [hW11]; have h := heap_set _ _ 5 _ _ _ (.slice o5 d.rfs.length p5) HBv3_10.out; simpa using h
  clear hb10 HBv1_10 HBv2_10 HBv3_10 ER_10 hW11
  obtain ⟨w12, hW12⟩ : ∃ W, W = (w11).setCell ⟨qv3, 6, none⟩ (.string d.rbd) := ⟨_, rfl⟩
  rw [← hW12]
  have hb12 : Below w.heap.size w (w12) := by rw [hW12]; exact (hb11.setCell (p := ⟨qv3, 6, none⟩) HGv3.out _)
  have HBv1_12 : Hid ((w12).heap[qv1]? = some (.cells #[.int .i64 d.qmt, .string d.qpa, .slice a2 d.qfs.length c2, .string d.qbd, .int .i64 d.rst, .slice a5 d.rfs.length c5, .string d.rbd, .int .i64 d.tim] 104)) := by show _ = _; rw [hW12, heap_setCell_other _ _ _ _ HNv1v3.out]; exact HBv1_11.out
  have HBv2_12 : Hid ((w12).heap[qv2]? = some (.cells #[.int .i64 0, .string ⟨#[]⟩, .slice none 0 0, .string ⟨#[]⟩, .int .i64 0, .slice none 0 0, .string ⟨#[]⟩, .int .i64 0] 116)) := by show _ = _; rw [hW12, heap_setCell_other _ _ _ _ HNv2v3.out]; exact HBv2_11.out
  have ER_12 : Hid (RowsO (w12) w.heap.size ([(⟨135, 2, (.slice o2 d.qfs.length p2), d.qfs.length, flatF d.qfs⟩ : Rw), (⟨135, 2, (.slice o5 d.rfs.length p5), d.rfs.length, flatF d.rfs⟩ : Rw)])) := by show RowsO _ _ _; rw [hW12]; exact RowsO.other ER_11.out HBv3_11.out HT2.out
  have HBv3_12 : Hid ((w12).heap[qv3]? = some (.cells #[.int .i64 d.qmt, .string d.qpa, .slice o2 d.qfs.length p2, .string d.qbd, .int .i64 d.rst, .slice o5 d.rfs.length p5, .string d.rbd, .int .i64 0] 116)) := by show _ = _; rw [hW12]; have h := heap_set _ _ 6 _ _ _ (.string d.rbd) HBv3_11.out; simpa using h
  clear hb11 HBv1_11 HBv2_11 HBv3_11 ER_11 hW12
  clear cv3_4 fcv3_4 cv3_5 fcv3_5 cv3_6 fcv3_6
  have cv1_7 : (w12).cell? ⟨qv1, 7, none⟩ = some (.int .i64 d.tim) := (cell_of HBv1_12.out 7).trans rfl
  have cv3_7 : (w12).cell? ⟨qv3, 7, none⟩ = some (.int .i64 0) := (cell_of HBv3_12.out 7).trans rfl
  have fcv3_7 : (w12).frozen? ⟨qv3, 7, none⟩ = false := frozen_of HBv3_12.out 7
  go_upto_region 5 with fail
  obtain ⟨w13, hW13⟩ : ∃ W, W = (w12).setCell ⟨qv3, 7, none⟩ (.int .i64 d.tim) := ⟨_, rfl⟩
  rw [← hW13]
  have hb13 : Below w.heap.size w (w13) := by rw [hW13]; exact (hb12.setCell (p := ⟨qv3, 7, none⟩) HGv3.out _)
  have HBv1_13 : Hid ((w13).heap[qv1]? = some (.cells #[.int .i64 d.qmt, .string d.qpa, .slice a2 d.qfs.length c2, .string d.qbd, .int .i64 d.rst, .slice a5 d.rfs.length c5, .string d.rbd, .int .i64 d.tim] 104)) := by show _ = _; rw [hW13, heap_setCell_other _ _ _ _ HNv1v3.out]; exact HBv1_12.out
  have HBv2_13 : Hid ((w13).heap[qv2]? = some (.cells #[.int .i64 0, .string ⟨#[]⟩, .slice none 0 0, .string ⟨#[]⟩, .int .i64 0, .slice none 0 0, .string ⟨#[]⟩, .int .i64 0] 116)) := by show _ = _; rw [hW13, heap_setCell_other _ _ _ _ HNv2v3.out]; exact HBv2_12.out
  have ER_13 : Hid (RowsO (w13) w.heap.size ([(⟨135, 2, (.slice o2 d.qfs.length p2), d.qfs.length, flatF d.qfs⟩ : Rw), (⟨135, 2, (.slice o5 d.rfs.length p5), d.rfs.length, flatF d.rfs⟩ : Rw)])) := by show RowsO _ _ _; rw [hW13]; exact RowsO.other ER_12.out HBv3_12.out HT2.out
  have HBv3_13 : Hid ((w13).heap[qv3]? = some (.cells #[.int .i64 d.qmt, .string d.qpa, .slice o2 d.qfs.length p2, .string d.qbd, .int .i64 d.rst, .slice o5 d.rfs.length p5, .string d.rbd, .int .i64 d.tim] 116)) := by show _ = _; rw [hW13]; have h := heap_set _ _ 7 _ _ _ (.int .i64 d.tim) HBv3_12.out; simpa using h
  clear hb12 HBv1_12 HBv2_12 HBv3_12 ER_12 hW13
  clear cv1_7 cv3_7 fcv3_7
  have cv2_0 : (w13).cell? ⟨qv2, 0, none⟩ = some (.int .i64 0) := (cell_of HBv2_13.out 0).trans rfl
  have fcv2_0 : (w13).frozen? ⟨qv2, 0, none⟩ = false := frozen_of HBv2_13.out 0
  have cv2_1 : (w13).cell? ⟨qv2, 1, none⟩ = some (.string ⟨#[]⟩) := (cell_of HBv2_13.out 1).trans rfl
  have fcv2_1 : (w13).frozen? ⟨qv2, 1, none⟩ = false := frozen_of HBv2_13.out 1
  have cv2_2 : (w13).cell? ⟨qv2, 2, none⟩ = some (.slice none 0 0) := (cell_of HBv2_13.out 2).trans rfl
  have fcv2_2 : (w13).frozen? ⟨qv2, 2, none⟩ = false := frozen_of HBv2_13.out 2
  have cv2_3 : (w13).cell? ⟨qv2, 3, none⟩ = some (.string ⟨#[]⟩) := (cell_of HBv2_13.out 3).trans rfl
  have fcv2_3 : (w13).frozen? ⟨qv2, 3, none⟩ = false := frozen_of HBv2_13.out 3
  have cv2_4 : (w13).cell? ⟨qv2, 4, none⟩ = some (.int .i64 0) := (cell_of HBv2_13.out 4).trans rfl
  have fcv2_4 : (w13).frozen? ⟨qv2, 4, none⟩ = false := frozen_of HBv2_13.out 4
  have cv2_5 : (w13).cell? ⟨qv2, 5, none⟩ = some (.slice none 0 0) := (cell_of HBv2_13.out 5).trans rfl
  have fcv2_5 : (w13).frozen? ⟨qv2, 5, none⟩ = false := frozen_of HBv2_13.out 5
  have cv2_6 : (w13).cell? ⟨qv2, 6, none⟩ = some (.string ⟨#[]⟩) := (cell_of HBv2_13.out 6).trans rfl
  have fcv2_6 : (w13).frozen? ⟨qv2, 6, none⟩ = false := frozen_of HBv2_13.out 6
  have cv2_7 : (w13).cell? ⟨qv2, 7, none⟩ = some (.int .i64 0) := (cell_of HBv2_13.out 7).trans rfl
  have fcv2_7 : (w13).frozen? ⟨qv2, 7, none⟩ = false := frozen_of HBv2_13.out 7
  have cv3_0 : (w13).cell? ⟨qv3, 0, none⟩ = some (.int .i64 d.qmt) := (cell_of HBv3_13.out 0).trans rfl
  have cv3_1 : (w13).cell? ⟨qv3, 1, none⟩ = some (.string d.qpa) := (cell_of HBv3_13.out 1).trans rfl
  have cv3_2 : (w13).cell? ⟨qv3, 2, none⟩ = some (.slice o2 d.qfs.length p2) := (cell_of HBv3_13.out 2).trans rfl
  have cv3_3 : (w13).cell? ⟨qv3, 3, none⟩ = some (.string d.qbd) := (cell_of HBv3_13.out 3).trans rfl
  have cv3_4 : (w13).cell? ⟨qv3, 4, none⟩ = some (.int .i64 d.rst) := (cell_of HBv3_13.out 4).trans rfl
  have cv3_5 : (w13).cell? ⟨qv3, 5, none⟩ = some (.slice o5 d.rfs.length p5) := (cell_of HBv3_13.out 5).trans rfl
  have cv3_6 : (w13).cell? ⟨qv3, 6, none⟩ = some (.string d.rbd) := (cell_of HBv3_13.out 6).trans rfl
  have cv3_7 : (w13).cell? ⟨qv3, 7, none⟩ = some (.int .i64 d.tim) := (cell_of HBv3_13.out 7).trans rfl
  go_wp2_with fail
  obtain ⟨w14, hW14⟩ : ∃ W, W = (w13).setCell ⟨qv2, 0, none⟩ (.int .i64 d.qmt) := ⟨_, rfl⟩
  rw [← hW14]
  have hb14 : Below w.heap.size w (w14) := by rw [hW14]; exact (hb13.setCell (p := ⟨qv2, 0, none⟩) HGv2.out _)
  have HBv1_14 : Hid ((w14).heap[qv1]? = some (.cells #[.int .i64 d.qmt, .string d.qpa, .slice a2 d.qfs.length c2, .string d.qbd, .int .i64 d.rst, .slice a5 d.rfs.length c5, .string d.rbd, .int .i64 d.tim] 104)) := by show _ = _; rw [hW14, heap_setCell_other _ _ _ _ HNv1v2.out]; exact HBv1_13.out
  have HBv3_14 : Hid ((w14).heap[qv3]? = some (.cells #[.int .i64 d.qmt, .string d.qpa, .slice o2 d.qfs.length p2, .string d.qbd, .int .i64 d.rst, .slice o5 d.rfs.length p5, .string d.rbd, .int .i64 d.tim] 116)) := by show _ = _; rw [hW14, heap_setCell_other _ _ _ _ HNv2v3.out.symm]; exact HBv3_13.out
  have ER_14 : Hid (RowsO (w14) w.heap.size ([(⟨135, 2, (.slice o2 d.qfs.length p2), d.qfs.length, flatF d.qfs⟩ : Rw), (⟨135, 2, (.slice o5 d.rfs.length p5), d.rfs.length, flatF d.rfs⟩ : Rw)])) := by show RowsO _ _ _; rw [hW14]; exact RowsO.other ER_13.out HBv2_13.out HT2.out
  have HBv2_14 : Hid ((w14).heap[qv2]? = some (.cells #[.int .i64 d.qmt, .string ⟨#[]⟩, .slice none 0 0, .string ⟨#[]⟩, .int .i64 0, .slice none 0 0, .string ⟨#[]⟩, .int .i64 0] 116)) := by show _ = _; rw [hW14]; have h := heap_set _ _ 0 _ _ _ (.int .i64 d.qmt) HBv2_13.out; simpa using h
  clear hb13 HBv1_13 HBv2_13 HBv3_13 ER_13 hW14
  obtain ⟨w15, hW15⟩ : ∃ W, W = (w14).setCell ⟨qv2, 1, none⟩ (.string d.qpa) := ⟨_, rfl⟩
  rw [← hW15]
  have hb15 : Below w.heap.size w (w15) := by rw [hW15]; exact (hb14.setCell (p := ⟨qv2, 1, none⟩) HGv2.out _)
  have HBv1_15 : Hid ((w15).heap[qv1]? = some (.cells #[.int .i64 d.qmt, .string d.qpa, .slice a2 d.qfs.length c2, .string d.qbd, .int .i64 d.rst, .slice a5 d.rfs.length c5, .string d.rbd, .int .i64 d.tim] 104)) := by show _ = _; rw [hW15, heap_setCell_other _ _ _ _ HNv1v2.out]; exact HBv1_14.out
  have HBv3_15 : Hid ((w15).heap[qv3]? = some (.cells #[.int .i64 d.qmt, .string d.qpa, .slice o2 d.qfs.length p2, .string d.qbd, .int .i64 d.rst, .slice o5 d.rfs.length p5, .string d.rbd, .int .i64 d.tim] 116)) := by show _ = _; rw [hW15, heap_setCell_other _ _ _ _ HNv2v3.out.symm]; exact HBv3_14.out
  have ER_15 : Hid (RowsO (w15) w.heap.size ([(⟨135, 2, (.slice o2 d.qfs.length p2), d.qfs.length, flatF d.qfs⟩ : Rw), (⟨135, 2, (.slice o5 d.rfs.length p5), d.rfs.length, flatF d.rfs⟩ : Rw)])) := by show RowsO _ _ _; rw [hW15]; exact RowsO.other ER_14.out HBv2_14.out HT2.out
  have HBv2_15 : Hid ((w15).heap[qv2]? = some (.cells #[.int .i64 d.qmt, .string d.qpa, .slice none 0 0, .string ⟨#[]⟩, .int .i64 0, .slice none 0 0, .string ⟨#[]⟩, .int .i64 0] 116)) := by show _ = _; rw [hW15]; have h := heap_set _ _ 1 _ _ _ (.string d.qpa) HBv2_14.out; simpa using h
  clear hb14 HBv1_14 HBv2_14 HBv3_14 ER_14 hW15
  obtain ⟨w16, hW16⟩ : ∃ W, W = (w15).setCell ⟨qv2, 2, none⟩ (.slice o2 d.qfs.length p2) := ⟨_, rfl⟩
  rw [← hW16]
  have hb16 : Below w.heap.size w (w16) := by rw [hW16]; exact (hb15.setCell (p := ⟨qv2, 2, none⟩) HGv2.out _)
  have HBv1_16 : Hid ((w16).heap[qv1]? = some (.cells #[.int .i64 d.qmt, .string d.qpa, .slice a2 d.qfs.length c2, .string d.qbd, .int .i64 d.rst, .slice a5 d.rfs.length c5, .string d.rbd, .int .i64 d.tim] 104)) := by show _ = _; rw [hW16, heap_setCell_other _ _ _ _ HNv1v2.out]; exact HBv1_15.out
  have HBv3_16 : Hid ((w16).heap[qv3]? = some (.cells #[.int .i64 d.qmt, .string d.qpa, .slice o2 d.qfs.length p2, .string d.qbd, .int .i64 d.rst, .slice o5 d.rfs.length p5, .string d.rbd, .int .i64 d.tim] 116)) := by show _ = _; rw [hW16, heap_setCell_other _ _ _ _ HNv2v3.out.symm]; exact HBv3_15.out
  have ER_16 : Hid (RowsO (w16) w.heap.size ([(⟨135, 2, (.slice o2 d.qfs.length p2), d.qfs.length, flatF d.qfs⟩ : Rw), (⟨135, 2, (.slice o5 d.rfs.length p5), d.rfs.length, flatF d.rfs⟩ : Rw)])) := by show RowsO _ _ _; rw [hW16]; exact RowsO.other ER_15.out HBv2_15.out HT2.out
  have HBv2_16 : Hid ((w16).heap[qv2]? = some (.cells #[.int .i64 d.qmt, .string d.qpa, .slice o2 d.qfs.length p2, .string ⟨#[]⟩, .int .i64 0, .slice none 0 0, .string ⟨#[]⟩, .int .i64 0] 116)) := by show _ = _; rw [hW16]; have h := heap_set _ _ 2 _ _ _ (.slice o2 d.qfs.length p2) HBv2_15.out; simpa using h
  clear hb15 HBv1_15 HBv2_15 HBv3_15 ER_15 hW16
  obtain ⟨w17, hW17⟩ : ∃ W, W = (w16).setCell ⟨qv2, 3, none⟩ (.string d.qbd) := ⟨_, rfl⟩
  rw [← hW17]
  have hb17 : Below w.heap.size w (w17) := by rw [hW17]; exact (hb16.setCell (p := ⟨qv2, 3, none⟩) HGv2.out _)
  have HBv1_17 : Hid ((w17).heap[qv1]? = some (.cells #[.int .i64 d.qmt, .string d.qpa, .slice a2 d.qfs.length c2, .string d.qbd, .int .i64 d.rst, .slice a5 d.rfs.length c5, .string d.rbd, .int .i64 d.tim] 104)) := by show _ = _; rw [hW17, heap_setCell_other _ _ _ _ HNv1v2.out]; exact HBv1_16.out
  have HBv3_17 : Hid ((w17).heap[qv3]? = some (.cells #[.int .i64 d.qmt, .string d.qpa, .slice o2 d.qfs.length p2, .string d.qbd, .int .i64 d.rst, .slice o5 d.rfs.length p5, .string d.rbd, .int .i64 d.tim] 116)) := by show _ = _; rw [hW17, heap_setCell_other _ _ _ _ HNv2v3.out.symm]; exact HBv3_16.out
  have ER_17 : Hid (RowsO (w17) w.heap.size ([(⟨135, 2, (.slice o2 d.qfs.length p2), d.qfs.length, flatF d.qfs⟩ : Rw), (⟨135, 2, (.slice o5 d.rfs.length p5), d.rfs.length, flatF d.rfs⟩ : Rw)])) := by show RowsO _ _ _; rw [hW17]; exact RowsO.other ER_16.out HBv2_16.out HT2.out
  have HBv2_17 : Hid ((w17).heap[qv2]? = some (.cells #[.int .i64 d.qmt, .string d.qpa, .slice o2 d.qfs.length p2, .string d.qbd, .int .i64 0, .slice none 0 0, .string ⟨#[]⟩, .int .i64 0] 116)) := by show _ = _; rw [hW17]; have h := heap_set _ _ 3 _ _ _ (.string d.qbd) HBv2_16.out; simpa using h
  clear hb16 HBv1_16 HBv2_16 HBv3_16 ER_16 hW17
  obtain ⟨w18, hW18⟩ : ∃ W, W = (w17).setCell ⟨qv2, 4, none⟩ (.int .i64 d.rst) := ⟨_, rfl⟩
  rw [← hW18]
  have hb18 : Below w.heap.size w (w18) := by rw [hW18]; exact (hb17.setCell (p := ⟨qv2, 4, none⟩) HGv2.out _)
  have HBv1_18 : Hid ((w18).heap[qv1]? = some (.cells #[.int .i64 d.qmt, .string d.qpa, .slice a2 d.qfs.length c2, .string d.qbd, .int .i64 d.rst, .slice a5 d.rfs.length c5, .string d.rbd, .int .i64 d.tim] 104)) := by show _ = _; rw [hW18, heap_setCell_other _ _ _ _ HNv1v2.out]; exact HBv1_17.out
  have HBv3_18 : Hid ((w18).heap[qv3]? = some (.cells #[.int .i64 d.qmt, .string d.qpa, .slice o2 d.qfs.length p2, .string d.qbd, .int .i64 d.rst, .slice o5 d.rfs.length p5, .string d.rbd, .int .i64 d.tim] 116)) := by show _ = _; rw [hW18, heap_setCell_other _ _ _ _ HNv2v3.out.symm]; exact HBv3_17.out
  have ER_18 : Hid (RowsO (w18) w.heap.size ([(⟨135, 2, (.slice o2 d.qfs.length p2), d.qfs.length, flatF d.qfs⟩ : Rw), (⟨135, 2, (.slice o5 d.rfs.length p5), d.rfs.length, flatF d.rfs⟩ : Rw)])) := by show RowsO _ _ _; rw [hW18]; exact RowsO.other ER_17.out HBv2_17.out HT2.out
  have HBv2_18 : Hid ((w18).heap[qv2]? = some (.cells #[.int .i64 d.qmt, .string d.qpa, .slice o2 d.qfs.length p2, .string d.qbd, .int .i64 d.rst, .slice none 0 0, .string ⟨#[]⟩, .int .i64 0] 116)) := by show _ = _; rw [hW18]; have h := heap_set _ _ 4 _ _ _ (.int .i64 d.rst) HBv2_17.out; simpa using h
  clear hb17 HBv1_17 HBv2_17 HBv3_17 ER_17 hW18
  obtain ⟨w19, hW19⟩ : ∃ W, W = (w18).setCell ⟨qv2, 5, none⟩ (.slice o5 d.rfs.length p5) := ⟨_, rfl⟩
  rw [← hW19]
  have hb19 : Below w.heap.size w (w19) := by rw [hW19]; exact (hb18.setCell (p := ⟨qv2, 5, none⟩) HGv2.out _)
  have HBv1_19 : Hid ((w19).heap[qv1]? = some (.cells #[.int .i64 d.qmt, .string d.qpa, .slice a2 d.qfs.length c2, .string d.qbd, .int .i64 d.rst, .slice a5 d.rfs.length c5, .string d.rbd, .int .i64 d.tim] 104)) := by show _ = _; rw [hW19, heap_setCell_other _ _ _ _ HNv1v2.out]; exact HBv1_18.out
  have HBv3_19 : Hid ((w19).heap[qv3]? = some (.cells #[.int .i64 d.qmt, .string d.qpa, .slice o2 d.qfs.length p2, .string d.qbd, .int .i64 d.rst, .slice o5 d.rfs.length p5, .string d.rbd, .int .i64 d.tim] 116)) := by show _ = _; rw [hW19, heap_setCell_other _ _ _ _ HNv2v3.out.symm]; exact HBv3_18.out
  have ER_19 : Hid (RowsO (w19) w.heap.size ([(⟨135, 2, (.slice o2 d.qfs.length p2), d.qfs.length, flatF d.qfs⟩ : Rw), (⟨135, 2, (.slice o5 d.rfs.length p5), d.rfs.length, flatF d.rfs⟩ : Rw)])) := by show RowsO _ _ _; rw [hW19]; exact RowsO.other ER_18.out HBv2_18.out HT2.out
  have HBv2_19 : Hid ((w19).heap[qv2]? = some (.cells #[.int .i64 d.qmt, .string d.qpa, .slice o2 d.qfs.length p2, .string d.qbd, .int .i64 d.rst, .slice o5 d.rfs.length p5, .string ⟨#[]⟩, .int .i64 0] 116)) := by show _ = _; rw [hW19]; have h := heap_set _ _ 5 _ _ _ (.slice o5 d.rfs.length p5) HBv2_18.out; simpa using h
  clear hb18 HBv1_18 HBv2_18 HBv3_18 ER_18 hW19
  obtain ⟨w20, hW20⟩ : ∃ W, W = (w19).setCell ⟨qv2, 6, none⟩ (.string d.rbd) := ⟨_, rfl⟩
  rw [← hW20]
  have hb20 : Below w.heap.size w (w20) := by rw [hW20]; exact (hb19.setCell (p := ⟨qv2, 6, none⟩) HGv2.out _)
  have HBv1_20 : Hid ((w20).heap[qv1]? = some (.cells #[.int .i64 d.qmt, .string d.qpa, .slice a2 d.qfs.length c2, .string d.qbd, .int .i64 d.rst, .slice a5 d.rfs.length c5, .string d.rbd, .int .i64 d.tim] 104)) := by show _ = _; rw [hW20, heap_setCell_other _ _ _ _ HNv1v2.out]; exact HBv1_19.out
  have HBv3_20 : Hid ((w20).heap[qv3]? = some (.cells #[.int .i64 d.qmt, .string d.qpa, .slice o2 d.qfs.length p2, .string d.qbd, .int .i64 d.rst, .slice o5 d.rfs.length p5, .string d.rbd, .int .i64 d.tim] 116)) := by show _ = _; rw [hW20, heap_setCell_other _ _ _ _ HNv2v3.out.symm]; exact HBv3_19.out
  have ER_20 : Hid (RowsO (w20) w.heap.size ([(⟨135, 2, (.slice o2 d.qfs.length p2), d.qfs.length, flatF d.qfs⟩ : Rw), (⟨135, 2, (.slice o5 d.rfs.length p5), d.rfs.length, flatF d.rfs⟩ : Rw)])) := by show RowsO _ _ _; rw [hW20]; exact RowsO.other ER_19.out HBv2_19.out HT2.out
  have HBv2_20 : Hid ((w20).heap[qv2]? = some (.cells #[.int .i64 d.qmt, .string d.qpa, .slice o2 d.qfs.length p2, .string d.qbd, .int .i64 d.rst, .slice o5 d.rfs.length p5, .string d.rbd, .int .i64 0] 116)) := by show _ = _; rw [hW20]; have h := heap_set _ _ 6 _ _ _ (.string d.rbd) HBv2_19.out; simpa using h
  clear hb19 HBv1_19 HBv2_19 HBv3_19 ER_19 hW20
  obtain ⟨w21, hW21⟩ : ∃ W, W = (w20).setCell ⟨qv2, 7, none⟩ (.int .i64 d.tim) := ⟨_, rfl⟩
  rw [← hW21]
  have hb21 : Below w.heap.size w (w21) := by rw [hW21]; exact (hb20.setCell (p := ⟨qv2, 7, none⟩) HGv2.out _)
  have HBv1_21 : Hid ((w21).heap[qv1]? = some (.cells #[.int .i64 d.qmt, .string d.qpa, .slice a2 d.qfs.length c2, .string d.qbd, .int .i64 d.rst, .slice a5 d.rfs.length c5, .string d.rbd, .int .i64 d.tim] 104)) := by show _ = _; rw [hW21, heap_setCell_other _ _ _ _ HNv1v2.out]; exact HBv1_20.out
  have HBv3_21 : Hid ((w21).heap[qv3]? = some (.cells #[.int .i64 d.qmt, .string d.qpa, .slice o2 d.qfs.length p2, .string d.qbd, .int .i64 d.rst, .slice o5 d.rfs.length p5, .string d.rbd, .int .i64 d.tim] 116)) := by show _ = _; rw [hW21, heap_setCell_other _ _ _ _ HNv2v3.out.symm]; exact HBv3_20.out
  have ER_21 : Hid (RowsO (w21) w.heap.size ([(⟨135, 2, (.slice o2 d.qfs.length p2), d.qfs.length, flatF d.qfs⟩ : Rw), (⟨135, 2, (.slice o5 d.rfs.length p5), d.rfs.length, flatF d.rfs⟩ : Rw)])) := by show RowsO _ _ _; rw [hW21]; exact RowsO.other ER_20.out HBv2_20.out HT2.out
  have HBv2_21 : Hid ((w21).heap[qv2]? = some (.cells #[.int .i64 d.qmt, .string d.qpa, .slice o2 d.qfs.length p2, .string d.qbd, .int .i64 d.rst, .slice o5 d.rfs.length p5, .string d.rbd, .int .i64 d.tim] 116)) := by show _ = _; rw [hW21]; have h := heap_set _ _ 7 _ _ _ (.int .i64 d.tim) HBv2_20.out; simpa using h
  clear hb20 HBv1_20 HBv2_20 HBv3_20 ER_20 hW21
  have kv2_0 : (w21).cell? ⟨qv2, 0, none⟩ = some (.int .i64 d.qmt) := (cell_of HBv2_21.out 0).trans rfl
  have kv2_1 : (w21).cell? ⟨qv2, 1, none⟩ = some (.string d.qpa) := (cell_of HBv2_21.out 1).trans rfl
  have kv2_2 : (w21).cell? ⟨qv2, 2, none⟩ = some (.slice o2 d.qfs.length p2) := (cell_of HBv2_21.out 2).trans rfl
  have kv2_3 : (w21).cell? ⟨qv2, 3, none⟩ = some (.string d.qbd) := (cell_of HBv2_21.out 3).trans rfl
  have kv2_4 : (w21).cell? ⟨qv2, 4, none⟩ = some (.int .i64 d.rst) := (cell_of HBv2_21.out 4).trans rfl
  have kv2_5 : (w21).cell? ⟨qv2, 5, none⟩ = some (.slice o5 d.rfs.length p5) := (cell_of HBv2_21.out 5).trans rfl
  have kv2_6 : (w21).cell? ⟨qv2, 6, none⟩ = some (.string d.rbd) := (cell_of HBv2_21.out 6).trans rfl
  have kv2_7 : (w21).cell? ⟨qv2, 7, none⟩ = some (.int .i64 d.tim) := (cell_of HBv2_21.out 7).trans rfl
  refine bodyPost_ret (v := .agg #[.int .i64 d.qmt, .string d.qpa, .slice o2 d.qfs.length p2, .string d.qbd, .int .i64 d.rst, .slice o5 d.rfs.length p5, .string d.rbd, .int .i64 d.tim]) (by simp [results, Tryz.results47, go_sem, kv2_0, kv2_1, kv2_2, kv2_3, kv2_4, kv2_5, kv2_6, kv2_7]) rfl ?_
  exact ⟨⟨d, .slice o2 d.qfs.length p2, .slice o5 d.rfs.length p5⟩, rfl, rfl, ER_21.out, hb21⟩

/-- No greater than may be. -/
structure SeMax (d : SeD) : Prop where
  qpa : d.qpa.size ≤ maxLen
  qfs : d.qfs.length ≤ maxLen ∧ WalkF d.qfs.length d.qfs
  qbd : d.qbd.size ≤ maxLen
  rfs : d.rfs.length ≤ maxLen ∧ WalkF d.rfs.length d.rfs
  rbd : d.rbd.size ≤ maxLen
/-- Small enough to be measured. -/
structure SeSmall (d : SeD) : Prop where
  qpa : d.qpa.size ≤ 1048576
  qfs : d.qfs.length ≤ 1048576 ∧ szTo d.qfs d.qfs.length ≤ 1048576
  qbd : d.qbd.size ≤ 1048576
  rfs : d.rfs.length ≤ 1048576 ∧ szTo d.rfs d.rfs.length ≤ 1048576
  rbd : d.rbd.size ≤ 1048576
theorem SeSmall.lens {d : SeD} (h : SeSmall d) : SeLen d := ⟨h.qfs.1, h.rfs.1⟩
/-- How many there are, lists and their elements together. -/
def wtSe : List SeD → Nat
  | [] => 0
  | d :: r => 1 + (d.qfs.length + d.rfs.length) + wtSe r
theorem wtSe_snoc (d : SeD) : ∀ l : List SeD, wtSe (l ++ [d]) = wtSe l + (1 + (d.qfs.length + d.rfs.length))
  | [] => by simp [wtSe]
  | x :: l => by rw [List.cons_append, wtSe, wtSe_snoc d l, wtSe]; omega
theorem wtSe_ge : ∀ l : List SeD, l.length ≤ wtSe l
  | [] => Nat.le_refl _
  | x :: l => by rw [wtSe, List.length_cons]; have := wtSe_ge l; omega
def SzSe (L : Int) (d : SeD) (w : World) (e : Ending) (w' : World) : Prop :=
  ∃ r : Int, e = .returned (.int .i64 r) ∧ r ≤ L ∧ (0 ≤ r → r + ((d.qfs.length + d.rfs.length : Nat) : Int) ≤ L ∧ SeSmall d) ∧ Below w.heap.size w w'

set_option maxHeartbeats 8000000 in
set_option maxRecDepth 100000 in
theorem szSeen_any (L : Int) (hL0 : 0 ≤ L) (hL1 : L ≤ 1048576) (d : SeD) (a2 : Option Addr) (c2 : Nat) (a5 : Option Addr) (c5 : Nat) (B : Nat) (w : World) (h2 : ArgF w B a2 d.qfs.length d.qfs) (h5 : ArgF w B a5 d.rfs.length d.rfs) (hB : B ≤ w.heap.size) (hm : SeMax d) :
    Calls Tryz.prog 40 #[.agg #[.int .i64 d.qmt, .string d.qpa, .slice a2 d.qfs.length c2, .string d.qbd, .int .i64 d.rst, .slice a5 d.rfs.length c5, .string d.rbd, .int .i64 d.tim], .int .i64 L] w fun e w' => SzSe L d w e w' := by
  have HA2 : Hid (∀ W, Below w.heap.size w W → ArgF W B a2 d.qfs.length d.qfs) := fun W h => h2.below (h.mono hB)
  have HA5 : Hid (∀ W, Below w.heap.size w W → ArgF W B a5 d.rfs.length d.rfs) := fun W h => h5.below (h.mono hB)
  have HBB : Hid (∀ W, Below w.heap.size w W → B ≤ W.heap.size) := fun W h => Nat.le_trans hB h.size
  clear h2 h5
  have HMX : Hid (SeMax d) := hm
  clear hm
  have hb0 : Below w.heap.size w w := Below.refl _ _
  go_enter Tryz.func40, Tryz.ntmps40
  go_upto_region 1 with fail
  obtain ⟨qv1, hqv1⟩ : ∃ q, q = (w).heap.size := ⟨_, rfl⟩
  obtain ⟨w1, hW1⟩ : ∃ W, W = (w).alloc (.cells #[.int .i64 d.qmt, .string d.qpa, .slice a2 d.qfs.length c2, .string d.qbd, .int .i64 d.rst, .slice a5 d.rfs.length c5, .string d.rbd, .int .i64 d.tim] 104) := ⟨_, rfl⟩
  have hz1 : (w).heap.size = qv1 := hqv1.symm
  first | rw [← hW1, ← hqv1] | rw [← hW1]
  have hs1 : w1.heap.size = qv1 + 1 := by rw [hW1, ← hz1]; simp
  have bw : Below (w).heap.size (w) w1 := by rw [hW1]; exact (Below.refl _ _).alloc (Nat.le_refl _) _
  have hb1 : Below w.heap.size w (w1) := hb0.trans (bw.mono hb0.size)
  have HBv1_1 : Hid ((w1).heap[qv1]? = some (.cells #[.int .i64 d.qmt, .string d.qpa, .slice a2 d.qfs.length c2, .string d.qbd, .int .i64 d.rst, .slice a5 d.rfs.length c5, .string d.rbd, .int .i64 d.tim] 104)) := by show _ = _; rw [hW1, ← hz1]; exact heap_alloc_new _ _
  clear hb0 bw hW1 hz1
  clear hs1 hqv1
  have cv1_0 : (w1).cell? ⟨qv1, 0, none⟩ = some (.int .i64 d.qmt) := (cell_of HBv1_1.out 0).trans rfl
  have cv1_1 : (w1).cell? ⟨qv1, 1, none⟩ = some (.string d.qpa) := (cell_of HBv1_1.out 1).trans rfl
  have cv1_2 : (w1).cell? ⟨qv1, 2, none⟩ = some (.slice a2 d.qfs.length c2) := (cell_of HBv1_1.out 2).trans rfl
  have cv1_3 : (w1).cell? ⟨qv1, 3, none⟩ = some (.string d.qbd) := (cell_of HBv1_1.out 3).trans rfl
  go_wp2_with fail
  refine (szReq_room L (by omega) (by omega) d.qmt d.qpa a2 d.qfs.length c2 d.qbd d.qfs _ (argUpF (HA2.out _ hb1) (HBB.out _ hb1)) HMX.out.qfs.1 HMX.out.qfs.2 HMX.out.qpa HMX.out.qbd).mono ?_
  rintro e w2 ⟨r1, rfl, hl1, hr1, bw⟩
  have hb2 : Below w.heap.size w (w2) := hb1.trans (bw.mono hb1.size)
  have HBv1_2 : Hid ((w2).heap[qv1]? = some (.cells #[.int .i64 d.qmt, .string d.qpa, .slice a2 d.qfs.length c2, .string d.qbd, .int .i64 d.rst, .slice a5 d.rfs.length c5, .string d.rbd, .int .i64 d.tim] 104)) := blk_below HBv1_1.out bw
  clear hb1 HBv1_1 bw
  clear cv1_0 cv1_1 cv1_2 cv1_3
  by_cases hc1 : r1 < 0
  · clear hr1
    go_wp2_with fail
    go_ret
    exact ⟨-1, rfl, by omega, fun h => absurd h (by omega), hb2⟩
  · have HR1 : Hid _ := hr1 (by omega)
    clear hr1
    have mr1 := HR1.out.1
    have cv1_4 : (w2).cell? ⟨qv1, 4, none⟩ = some (.int .i64 d.rst) := (cell_of HBv1_2.out 4).trans rfl
    have cv1_5 : (w2).cell? ⟨qv1, 5, none⟩ = some (.slice a5 d.rfs.length c5) := (cell_of HBv1_2.out 5).trans rfl
    have cv1_6 : (w2).cell? ⟨qv1, 6, none⟩ = some (.string d.rbd) := (cell_of HBv1_2.out 6).trans rfl
    go_wp2_with fail
    refine (szResp_room r1 (by omega) (by omega) d.rst a5 d.rfs.length c5 d.rbd d.rfs _ (argUpF (HA5.out _ hb2) (HBB.out _ hb2)) HMX.out.rfs.1 HMX.out.rfs.2 HMX.out.rbd).mono ?_
    rintro e w3 ⟨r2, rfl, hl2, hr2, bw⟩
    have hb3 : Below w.heap.size w (w3) := hb2.trans (bw.mono hb2.size)
    have HBv1_3 : Hid ((w3).heap[qv1]? = some (.cells #[.int .i64 d.qmt, .string d.qpa, .slice a2 d.qfs.length c2, .string d.qbd, .int .i64 d.rst, .slice a5 d.rfs.length c5, .string d.rbd, .int .i64 d.tim] 104)) := blk_below HBv1_2.out bw
    clear hb2 HBv1_2 bw
    clear cv1_4 cv1_5 cv1_6
    by_cases hc2 : r2 < 0
    · clear hr2
      go_wp2_with fail
      go_ret
      exact ⟨-1, rfl, by omega, fun h => absurd h (by omega), hb3⟩
    · have HR2 : Hid _ := hr2 (by omega)
      clear hr2
      have mr2 := HR2.out.1
      go_wp2_with fail
      go_ret
      exact ⟨r2, rfl, by omega, fun _ => ⟨by omega, ⟨HR1.out.2.1.1, ⟨HR1.out.2.2.1, HR1.out.2.2.2⟩, HR1.out.2.1.2, ⟨HR2.out.2.2.1, HR2.out.2.2.2⟩, HR2.out.2.1⟩⟩, hb3⟩

/-- Lengths that may be compared. -/
structure SeLim (d : SeD) : Prop where
  qfs : d.qfs.length ≤ 2000000
  rfs : d.rfs.length ≤ 2000000
theorem SeLen.lim {d : SeD} (h : SeLen d) : SeLim d := ⟨Nat.le_trans h.qfs (by decide), Nat.le_trans h.rfs (by decide)⟩

set_option maxHeartbeats 8000000 in
set_option maxRecDepth 100000 in
theorem eqSeen_any (d : SeD) (x y : SeV) (B1 B2 : Nat) (w : World) (hxd : x.d = d) (hyd : y.d = d) (hx : RowsO w B1 (seR x)) (hy : RowsO w B2 (seR y)) (hn : SeLim d) :
    Calls Tryz.prog 59 #[.agg #[.int .i64 x.d.qmt, .string x.d.qpa, x.v2, .string x.d.qbd, .int .i64 x.d.rst, x.v5, .string x.d.rbd, .int .i64 x.d.tim], .agg #[.int .i64 y.d.qmt, .string y.d.qpa, y.v2, .string y.d.qbd, .int .i64 y.d.rst, y.v5, .string y.d.rbd, .int .i64 y.d.tim]] w fun e w' => e = .returned (.bool true) ∧ Below w.heap.size w w' := by
  have hd : y.d = d := hyd
  have hd2 : x.d = d := hxd
  have HxO2 : Hid (∀ W : World, RowsO W B1 (seR x) → W.ownsRow B1 135 2 x.v2 d.qfs.length (flatF d.qfs)) := fun W h => by
    have h2 := h.own (⟨135, 2, x.v2, x.d.qfs.length, flatF x.d.qfs⟩ : Rw) (by simp [seR])
    unfold Rw.own at h2
    dsimp only at h2
    rw [hxd] at h2
    exact h2
  have HxO5 : Hid (∀ W : World, RowsO W B1 (seR x) → W.ownsRow B1 135 2 x.v5 d.rfs.length (flatF d.rfs)) := fun W h => by
    have h2 := h.own (⟨135, 2, x.v5, x.d.rfs.length, flatF x.d.rfs⟩ : Rw) (by simp [seR])
    unfold Rw.own at h2
    dsimp only at h2
    rw [hxd] at h2
    exact h2
  have HyO2 : Hid (∀ W : World, RowsO W B2 (seR y) → W.ownsRow B2 135 2 y.v2 d.qfs.length (flatF d.qfs)) := fun W h => by
    have h2 := h.own (⟨135, 2, y.v2, y.d.qfs.length, flatF y.d.qfs⟩ : Rw) (by simp [seR])
    unfold Rw.own at h2
    dsimp only at h2
    rw [hyd] at h2
    exact h2
  have HyO5 : Hid (∀ W : World, RowsO W B2 (seR y) → W.ownsRow B2 135 2 y.v5 d.rfs.length (flatF d.rfs)) := fun W h => by
    have h2 := h.own (⟨135, 2, y.v5, y.d.rfs.length, flatF y.d.rfs⟩ : Rw) (by simp [seR])
    unfold Rw.own at h2
    dsimp only at h2
    rw [hyd] at h2
    exact h2
  have eqmt : (d.qmt != d.qmt) = false := by simp
  have erst : (d.rst != d.rst) = false := by simp
  have etim : (d.tim != d.tim) = false := by simp
  have Ex_0 : Hid (RowsO w B1 (seR x)) := hx
  have Ey_0 : Hid (RowsO w B2 (seR y)) := hy
  rw [hxd, hyd]
  clear hx hy hd hd2 hxd hyd
  have hb0 : Below w.heap.size w w := Below.refl _ _
  go_enter Tryz.func59, Tryz.ntmps59
  go_upto_region 1 with fail
  obtain ⟨qv1, hqv1⟩ : ∃ q, q = (w).heap.size := ⟨_, rfl⟩
  obtain ⟨w1, hW1⟩ : ∃ W, W = (w).alloc (.cells #[.int .i64 d.qmt, .string d.qpa, x.v2, .string d.qbd, .int .i64 d.rst, x.v5, .string d.rbd, .int .i64 d.tim] 116) := ⟨_, rfl⟩
  have hz1 : (w).heap.size = qv1 := hqv1.symm
  first | rw [← hW1, ← hqv1] | rw [← hW1]
  have hs1 : w1.heap.size = qv1 + 1 := by rw [hW1, ← hz1]; simp
  have bw : Below (w).heap.size (w) w1 := by rw [hW1]; exact (Below.refl _ _).alloc (Nat.le_refl _) _
  have hb1 : Below w.heap.size w (w1) := hb0.trans (bw.mono hb0.size)
  have Ex_1 : Hid (RowsO (w1) B1 (seR x)) := Ex_0.out.below bw
  have Ey_1 : Hid (RowsO (w1) B2 (seR y)) := Ey_0.out.below bw
  have HBv1_1 : Hid ((w1).heap[qv1]? = some (.cells #[.int .i64 d.qmt, .string d.qpa, x.v2, .string d.qbd, .int .i64 d.rst, x.v5, .string d.rbd, .int .i64 d.tim] 116)) := by show _ = _; rw [hW1, ← hz1]; exact heap_alloc_new _ _
  clear hb0 Ex_0 Ey_0 bw hW1 hz1
  obtain ⟨qv2, hqv2⟩ : ∃ q, q = qv1 + 1 := ⟨_, rfl⟩
  obtain ⟨w2, hW2⟩ : ∃ W, W = (w1).alloc (.cells #[.int .i64 d.qmt, .string d.qpa, y.v2, .string d.qbd, .int .i64 d.rst, y.v5, .string d.rbd, .int .i64 d.tim] 116) := ⟨_, rfl⟩
  have hz2 : (w1).heap.size = qv2 := by rw [hqv2]; exact hs1
  first | rw [← hW2, ← hqv2] | rw [← hW2]
  have hs2 : w2.heap.size = qv2 + 1 := by rw [hW2, ← hz2]; simp
  have bw : Below (w1).heap.size (w1) w2 := by rw [hW2]; exact (Below.refl _ _).alloc (Nat.le_refl _) _
  have hb2 : Below w.heap.size w (w2) := hb1.trans (bw.mono hb1.size)
  have HBv1_2 : Hid ((w2).heap[qv1]? = some (.cells #[.int .i64 d.qmt, .string d.qpa, x.v2, .string d.qbd, .int .i64 d.rst, x.v5, .string d.rbd, .int .i64 d.tim] 116)) := blk_below HBv1_1.out bw
  have Ex_2 : Hid (RowsO (w2) B1 (seR x)) := Ex_1.out.below bw
  have Ey_2 : Hid (RowsO (w2) B2 (seR y)) := Ey_1.out.below bw
  have HBv2_2 : Hid ((w2).heap[qv2]? = some (.cells #[.int .i64 d.qmt, .string d.qpa, y.v2, .string d.qbd, .int .i64 d.rst, y.v5, .string d.rbd, .int .i64 d.tim] 116)) := by show _ = _; rw [hW2, ← hz2]; exact heap_alloc_new _ _
  clear hb1 HBv1_1 Ex_1 Ey_1 bw hW2 hz2
  clear hs2 hqv2 hs1 hqv1
  have cv1_0 : (w2).cell? ⟨qv1, 0, none⟩ = some (.int .i64 d.qmt) := (cell_of HBv1_2.out 0).trans rfl
  have cv1_1 : (w2).cell? ⟨qv1, 1, none⟩ = some (.string d.qpa) := (cell_of HBv1_2.out 1).trans rfl
  have cv1_2 : (w2).cell? ⟨qv1, 2, none⟩ = some (x.v2) := (cell_of HBv1_2.out 2).trans rfl
  have cv1_3 : (w2).cell? ⟨qv1, 3, none⟩ = some (.string d.qbd) := (cell_of HBv1_2.out 3).trans rfl
  have cv2_0 : (w2).cell? ⟨qv2, 0, none⟩ = some (.int .i64 d.qmt) := (cell_of HBv2_2.out 0).trans rfl
  have cv2_1 : (w2).cell? ⟨qv2, 1, none⟩ = some (.string d.qpa) := (cell_of HBv2_2.out 1).trans rfl
  have cv2_2 : (w2).cell? ⟨qv2, 2, none⟩ = some (y.v2) := (cell_of HBv2_2.out 2).trans rfl
  have cv2_3 : (w2).cell? ⟨qv2, 3, none⟩ = some (.string d.qbd) := (cell_of HBv2_2.out 3).trans rfl
  go_wp2_with fail
  refine (eqReq_any d.qmt d.qpa _ _ d.qbd d.qfs.length _ _ d.qfs _ (FieldsV.of_owns (show World.ownsRow _ B1 135 2 x.v2 d.qfs.length _ from HxO2.out _ Ex_2.out)) (FieldsV.of_owns (show World.ownsRow _ B2 135 2 y.v2 d.qfs.length _ from HyO2.out _ Ey_2.out)) hn.qfs).mono ?_
  rintro e w3 ⟨rfl, bw⟩
  have hb3 : Below w.heap.size w (w3) := hb2.trans (bw.mono hb2.size)
  have HBv1_3 : Hid ((w3).heap[qv1]? = some (.cells #[.int .i64 d.qmt, .string d.qpa, x.v2, .string d.qbd, .int .i64 d.rst, x.v5, .string d.rbd, .int .i64 d.tim] 116)) := blk_below HBv1_2.out bw
  have HBv2_3 : Hid ((w3).heap[qv2]? = some (.cells #[.int .i64 d.qmt, .string d.qpa, y.v2, .string d.qbd, .int .i64 d.rst, y.v5, .string d.rbd, .int .i64 d.tim] 116)) := blk_below HBv2_2.out bw
  have Ex_3 : Hid (RowsO (w3) B1 (seR x)) := Ex_2.out.below bw
  have Ey_3 : Hid (RowsO (w3) B2 (seR y)) := Ey_2.out.below bw
  clear hb2 HBv1_2 HBv2_2 Ex_2 Ey_2 bw
  clear cv1_0 cv1_1 cv1_2 cv1_3 cv2_0 cv2_1 cv2_2 cv2_3
  have cv1_4 : (w3).cell? ⟨qv1, 4, none⟩ = some (.int .i64 d.rst) := (cell_of HBv1_3.out 4).trans rfl
  have cv1_5 : (w3).cell? ⟨qv1, 5, none⟩ = some (x.v5) := (cell_of HBv1_3.out 5).trans rfl
  have cv1_6 : (w3).cell? ⟨qv1, 6, none⟩ = some (.string d.rbd) := (cell_of HBv1_3.out 6).trans rfl
  have cv2_4 : (w3).cell? ⟨qv2, 4, none⟩ = some (.int .i64 d.rst) := (cell_of HBv2_3.out 4).trans rfl
  have cv2_5 : (w3).cell? ⟨qv2, 5, none⟩ = some (y.v5) := (cell_of HBv2_3.out 5).trans rfl
  have cv2_6 : (w3).cell? ⟨qv2, 6, none⟩ = some (.string d.rbd) := (cell_of HBv2_3.out 6).trans rfl
  go_wp2_with fail
  refine (eqResp_any d.rst _ _ d.rbd d.rfs.length _ _ d.rfs _ (FieldsV.of_owns (show World.ownsRow _ B1 135 2 x.v5 d.rfs.length _ from HxO5.out _ Ex_3.out)) (FieldsV.of_owns (show World.ownsRow _ B2 135 2 y.v5 d.rfs.length _ from HyO5.out _ Ey_3.out)) hn.rfs).mono ?_
  rintro e w4 ⟨rfl, bw⟩
  have hb4 : Below w.heap.size w (w4) := hb3.trans (bw.mono hb3.size)
  have HBv1_4 : Hid ((w4).heap[qv1]? = some (.cells #[.int .i64 d.qmt, .string d.qpa, x.v2, .string d.qbd, .int .i64 d.rst, x.v5, .string d.rbd, .int .i64 d.tim] 116)) := blk_below HBv1_3.out bw
  have HBv2_4 : Hid ((w4).heap[qv2]? = some (.cells #[.int .i64 d.qmt, .string d.qpa, y.v2, .string d.qbd, .int .i64 d.rst, y.v5, .string d.rbd, .int .i64 d.tim] 116)) := blk_below HBv2_3.out bw
  have Ex_4 : Hid (RowsO (w4) B1 (seR x)) := Ex_3.out.below bw
  have Ey_4 : Hid (RowsO (w4) B2 (seR y)) := Ey_3.out.below bw
  clear hb3 HBv1_3 HBv2_3 Ex_3 Ey_3 bw
  clear cv1_4 cv1_5 cv1_6 cv2_4 cv2_5 cv2_6
  have cv1_7 : (w4).cell? ⟨qv1, 7, none⟩ = some (.int .i64 d.tim) := (cell_of HBv1_4.out 7).trans rfl
  have cv2_7 : (w4).cell? ⟨qv2, 7, none⟩ = some (.int .i64 d.tim) := (cell_of HBv2_4.out 7).trans rfl
  go_wp2_with fail
  go_ret
  exact ⟨rfl, hb4⟩

end Go.Proofs.YtajccgffallajaaGreat
