/- What the proof of FnExactReplyText leans on: contracts of the program's and the specification's functions, and plain facts (part 2 of 2). -/
import Derived.Test.YtopeegjmpphjnaaDoorFnExactReplyTextA
namespace Go.Proofs.YtopeegjmpphjnaaDoor
open Go.RowKit
open Go.Lib hiding intOf

/-- Short enough to be copied. -/
structure RpLen (d : RpD) : Prop where
  qfs : d.qfs.length ≤ 1048576
  rfs : d.rfs.length ≤ 1048576
  oxs : d.oxs.length ≤ 1048576
  oys : d.oys.length ≤ 1048576
  ofs : d.ofs.length ≤ 1048576

set_option maxHeartbeats 8000000 in
set_option maxRecDepth 100000 in
theorem toReply_any (d : RpD) (a3 : Option Addr) (c3 : Nat) (a6 : Option Addr) (c6 : Nat) (a11 : Option Addr) (c11 : Nat) (a12 : Option Addr) (c12 : Nat) (a14 : Option Addr) (c14 : Nat) (B : Nat) (w : World) (h3 : ArgF w B a3 d.qfs.length d.qfs) (h6 : ArgF w B a6 d.rfs.length d.rfs) (h11 : ArgT w B a11 d.oxs.length d.oxs) (h12 : ArgT w B a12 d.oys.length d.oys) (h14 : ArgF w B a14 d.ofs.length d.ofs) (hB : B ≤ w.heap.size) (hn : RpLen d) :
    Calls Tryd.prog 6 #[.agg #[.int .i64 d.cli, .int .i64 d.qmt, .string d.qpa, .slice a3 d.qfs.length c3, .string d.qbd, .int .i64 d.rst, .slice a6 d.rfs.length c6, .string d.rbd, .int .i64 d.knd, .int .i64 d.tim, .string d.opa, .slice a11 d.oxs.length c11, .slice a12 d.oys.length c12, .int .i64 d.ost, .slice a14 d.ofs.length c14, .string d.obd, .int .i64 d.otm, .int .i64 d.bns]] w fun e w' => ∃ x : RpV, e = .returned (.agg #[.int .i64 x.d.cli, .int .i64 x.d.qmt, .string x.d.qpa, x.v3, .string x.d.qbd, .int .i64 x.d.rst, x.v6, .string x.d.rbd, .int .i64 x.d.knd, .int .i64 x.d.tim, .string x.d.opa, x.v11, x.v12, .int .i64 x.d.ost, x.v14, .string x.d.obd, .int .i64 x.d.otm, .int .i64 x.d.bns]) ∧ x.d = d ∧ RowsO w' w.heap.size (rpR x) ∧ Below w.heap.size w w' := by
  have HA3 : Hid (∀ W, Below w.heap.size w W → ArgF W B a3 d.qfs.length d.qfs) := fun W h => h3.below (h.mono hB)
  have HA6 : Hid (∀ W, Below w.heap.size w W → ArgF W B a6 d.rfs.length d.rfs) := fun W h => h6.below (h.mono hB)
  have HA11 : Hid (∀ W, Below w.heap.size w W → ArgT W B a11 d.oxs.length d.oxs) := fun W h => h11.below (h.mono hB)
  have HA12 : Hid (∀ W, Below w.heap.size w W → ArgT W B a12 d.oys.length d.oys) := fun W h => h12.below (h.mono hB)
  have HA14 : Hid (∀ W, Below w.heap.size w W → ArgF W B a14 d.ofs.length d.ofs) := fun W h => h14.below (h.mono hB)
  have HBB : Hid (∀ W, Below w.heap.size w W → B ≤ W.heap.size) := fun W h => Nat.le_trans hB h.size
  clear h3 h6 h11 h12 h14
  have hb0 : Below w.heap.size w w := Below.refl _ _
  go_enter Tryd.func6, Tryd.ntmps6
  go_upto_region 1 with fail
  obtain ⟨qv1, hqv1⟩ : ∃ q, q = (w).heap.size := ⟨_, rfl⟩
  obtain ⟨w1, hW1⟩ : ∃ W, W = (w).alloc (.cells #[.int .i64 d.cli, .int .i64 d.qmt, .string d.qpa, .slice a3 d.qfs.length c3, .string d.qbd, .int .i64 d.rst, .slice a6 d.rfs.length c6, .string d.rbd, .int .i64 d.knd, .int .i64 d.tim, .string d.opa, .slice a11 d.oxs.length c11, .slice a12 d.oys.length c12, .int .i64 d.ost, .slice a14 d.ofs.length c14, .string d.obd, .int .i64 d.otm, .int .i64 d.bns] 31) := ⟨_, rfl⟩
  have hz1 : (w).heap.size = qv1 := hqv1.symm
  first | rw [← hW1, ← hqv1] | rw [← hW1]
  have hs1 : w1.heap.size = qv1 + 1 := by rw [hW1, ← hz1]; simp
  have bw : Below (w).heap.size (w) w1 := by rw [hW1]; exact (Below.refl _ _).alloc (Nat.le_refl _) _
  have hb1 : Below w.heap.size w (w1) := hb0.trans (bw.mono hb0.size)
  have HBv1_1 : Hid ((w1).heap[qv1]? = some (.cells #[.int .i64 d.cli, .int .i64 d.qmt, .string d.qpa, .slice a3 d.qfs.length c3, .string d.qbd, .int .i64 d.rst, .slice a6 d.rfs.length c6, .string d.rbd, .int .i64 d.knd, .int .i64 d.tim, .string d.opa, .slice a11 d.oxs.length c11, .slice a12 d.oys.length c12, .int .i64 d.ost, .slice a14 d.ofs.length c14, .string d.obd, .int .i64 d.otm, .int .i64 d.bns] 31)) := by show _ = _; rw [hW1, ← hz1]; exact heap_alloc_new _ _
  clear hb0 bw hW1 hz1
  obtain ⟨qv2, hqv2⟩ : ∃ q, q = qv1 + 1 := ⟨_, rfl⟩
  obtain ⟨w2, hW2⟩ : ∃ W, W = (w1).alloc (.cells #[.int .i64 0, .int .i64 0, .string ⟨#[]⟩, .slice none 0 0, .string ⟨#[]⟩, .int .i64 0, .slice none 0 0, .string ⟨#[]⟩, .int .i64 0, .int .i64 0, .string ⟨#[]⟩, .slice none 0 0, .slice none 0 0, .int .i64 0, .slice none 0 0, .string ⟨#[]⟩, .int .i64 0, .int .i64 0] 42) := ⟨_, rfl⟩
  have hz2 : (w1).heap.size = qv2 := by rw [hqv2]; exact hs1
  first | rw [← hW2, ← hqv2] | rw [← hW2]
  have hs2 : w2.heap.size = qv2 + 1 := by rw [hW2, ← hz2]; simp
  have bw : Below (w1).heap.size (w1) w2 := by rw [hW2]; exact (Below.refl _ _).alloc (Nat.le_refl _) _
  have hb2 : Below w.heap.size w (w2) := hb1.trans (bw.mono hb1.size)
  have HBv1_2 : Hid ((w2).heap[qv1]? = some (.cells #[.int .i64 d.cli, .int .i64 d.qmt, .string d.qpa, .slice a3 d.qfs.length c3, .string d.qbd, .int .i64 d.rst, .slice a6 d.rfs.length c6, .string d.rbd, .int .i64 d.knd, .int .i64 d.tim, .string d.opa, .slice a11 d.oxs.length c11, .slice a12 d.oys.length c12, .int .i64 d.ost, .slice a14 d.ofs.length c14, .string d.obd, .int .i64 d.otm, .int .i64 d.bns] 31)) := blk_below HBv1_1.out bw
  have HNv1v2 : Hid (qv1 ≠ qv2) := fun e => by have h1 := (Array.getElem?_eq_some_iff.1 HBv1_1.out).1; omega
  have HBv2_2 : Hid ((w2).heap[qv2]? = some (.cells #[.int .i64 0, .int .i64 0, .string ⟨#[]⟩, .slice none 0 0, .string ⟨#[]⟩, .int .i64 0, .slice none 0 0, .string ⟨#[]⟩, .int .i64 0, .int .i64 0, .string ⟨#[]⟩, .slice none 0 0, .slice none 0 0, .int .i64 0, .slice none 0 0, .string ⟨#[]⟩, .int .i64 0, .int .i64 0] 42)) := by show _ = _; rw [hW2, ← hz2]; exact heap_alloc_new _ _
  have HGv2 : Hid (w.heap.size ≤ qv2) := by show _ ≤ _; rw [← hz2]; exact hb1.size
  clear hb1 HBv1_1 bw hW2 hz2
  clear hs2 hqv2 hs1 hqv1
  go_upto_region 2 with fail
  obtain ⟨qv3, hqv3⟩ : ∃ q, q = (w2).heap.size := ⟨_, rfl⟩
  obtain ⟨w3, hW3⟩ : ∃ W, W = (w2).alloc (.cells #[.int .i64 0, .int .i64 0, .string ⟨#[]⟩, .slice none 0 0, .string ⟨#[]⟩, .int .i64 0, .slice none 0 0, .string ⟨#[]⟩, .int .i64 0, .int .i64 0, .string ⟨#[]⟩, .slice none 0 0, .slice none 0 0, .int .i64 0, .slice none 0 0, .string ⟨#[]⟩, .int .i64 0, .int .i64 0] 42) := ⟨_, rfl⟩
  have hz3 : (w2).heap.size = qv3 := hqv3.symm
  first | rw [← hW3, ← hqv3] | rw [← hW3]
  have hs3 : w3.heap.size = qv3 + 1 := by rw [hW3, ← hz3]; simp
  have bw : Below (w2).heap.size (w2) w3 := by rw [hW3]; exact (Below.refl _ _).alloc (Nat.le_refl _) _
  have hb3 : Below w.heap.size w (w3) := hb2.trans (bw.mono hb2.size)
  have HBv1_3 : Hid ((w3).heap[qv1]? = some (.cells #[.int .i64 d.cli, .int .i64 d.qmt, .string d.qpa, .slice a3 d.qfs.length c3, .string d.qbd, .int .i64 d.rst, .slice a6 d.rfs.length c6, .string d.rbd, .int .i64 d.knd, .int .i64 d.tim, .string d.opa, .slice a11 d.oxs.length c11, .slice a12 d.oys.length c12, .int .i64 d.ost, .slice a14 d.ofs.length c14, .string d.obd, .int .i64 d.otm, .int .i64 d.bns] 31)) := blk_below HBv1_2.out bw
  have HBv2_3 : Hid ((w3).heap[qv2]? = some (.cells #[.int .i64 0, .int .i64 0, .string ⟨#[]⟩, .slice none 0 0, .string ⟨#[]⟩, .int .i64 0, .slice none 0 0, .string ⟨#[]⟩, .int .i64 0, .int .i64 0, .string ⟨#[]⟩, .slice none 0 0, .slice none 0 0, .int .i64 0, .slice none 0 0, .string ⟨#[]⟩, .int .i64 0, .int .i64 0] 42)) := blk_below HBv2_2.out bw
  have HNv1v3 : Hid (qv1 ≠ qv3) := fun e => by have h1 := (Array.getElem?_eq_some_iff.1 HBv1_2.out).1; omega
  have HNv2v3 : Hid (qv2 ≠ qv3) := fun e => by have h1 := (Array.getElem?_eq_some_iff.1 HBv2_2.out).1; omega
  have HBv3_3 : Hid ((w3).heap[qv3]? = some (.cells #[.int .i64 0, .int .i64 0, .string ⟨#[]⟩, .slice none 0 0, .string ⟨#[]⟩, .int .i64 0, .slice none 0 0, .string ⟨#[]⟩, .int .i64 0, .int .i64 0, .string ⟨#[]⟩, .slice none 0 0, .slice none 0 0, .int .i64 0, .slice none 0 0, .string ⟨#[]⟩, .int .i64 0, .int .i64 0] 42)) := by show _ = _; rw [hW3, ← hz3]; exact heap_alloc_new _ _
  have HGv3 : Hid (w.heap.size ≤ qv3) := by show _ ≤ _; rw [← hz3]; exact hb2.size
  clear hb2 HBv1_2 HBv2_2 bw hW3 hz3
  clear hs3 hqv3
  have cv1_0 : (w3).cell? ⟨qv1, 0, none⟩ = some (.int .i64 d.cli) := (cell_of HBv1_3.out 0).trans rfl
  have cv3_0 : (w3).cell? ⟨qv3, 0, none⟩ = some (.int .i64 0) := (cell_of HBv3_3.out 0).trans rfl
  have fcv3_0 : (w3).frozen? ⟨qv3, 0, none⟩ = false := frozen_of HBv3_3.out 0
  go_upto_region 3 with fail
  obtain ⟨w4, hW4⟩ : ∃ W, W = (w3).setCell ⟨qv3, 0, none⟩ (.int .i64 d.cli) := ⟨_, rfl⟩
  rw [← hW4]
  have hb4 : Below w.heap.size w (w4) := by rw [hW4]; exact (hb3.setCell (p := ⟨qv3, 0, none⟩) HGv3.out _)
  have HBv1_4 : Hid ((w4).heap[qv1]? = some (.cells #[.int .i64 d.cli, .int .i64 d.qmt, .string d.qpa, .slice a3 d.qfs.length c3, .string d.qbd, .int .i64 d.rst, .slice a6 d.rfs.length c6, .string d.rbd, .int .i64 d.knd, .int .i64 d.tim, .string d.opa, .slice a11 d.oxs.length c11, .slice a12 d.oys.length c12, .int .i64 d.ost, .slice a14 d.ofs.length c14, .string d.obd, .int .i64 d.otm, .int .i64 d.bns] 31)) := by show _ = _; rw [hW4, heap_setCell_other _ _ _ _ HNv1v3.out]; exact HBv1_3.out
  have HBv2_4 : Hid ((w4).heap[qv2]? = some (.cells #[.int .i64 0, .int .i64 0, .string ⟨#[]⟩, .slice none 0 0, .string ⟨#[]⟩, .int .i64 0, .slice none 0 0, .string ⟨#[]⟩, .int .i64 0, .int .i64 0, .string ⟨#[]⟩, .slice none 0 0, .slice none 0 0, .int .i64 0, .slice none 0 0, .string ⟨#[]⟩, .int .i64 0, .int .i64 0] 42)) := by show _ = _; rw [hW4, heap_setCell_other _ _ _ _ HNv2v3.out]; exact HBv2_3.out
  have HBv3_4 : Hid ((w4).heap[qv3]? = some (.cells #[.int .i64 d.cli, .int .i64 0, .string ⟨#[]⟩, .slice none 0 0, .string ⟨#[]⟩, .int .i64 0, .slice none 0 0, .string ⟨#[]⟩, .int .i64 0, .int .i64 0, .string ⟨#[]⟩, .slice none 0 0, .slice none 0 0, .int .i64 0, .slice none 0 0, .string ⟨#[]⟩, .int .i64 0, .int .i64 0] 42)) := by show _ = _; rw [hW4]; have h := heap_set _ _ 0 _ _ _ (.int .i64 d.cli) HBv3_3.out; simpa using h
  clear hb3 HBv1_3 HBv2_3 HBv3_3 hW4
  clear cv1_0 cv3_0 fcv3_0
  have cv1_1 : (w4).cell? ⟨qv1, 1, none⟩ = some (.int .i64 d.qmt) := (cell_of HBv1_4.out 1).trans rfl
  have cv1_2 : (w4).cell? ⟨qv1, 2, none⟩ = some (.string d.qpa) := (cell_of HBv1_4.out 2).trans rfl
  have cv1_3 : (w4).cell? ⟨qv1, 3, none⟩ = some (.slice a3 d.qfs.length c3) := (cell_of HBv1_4.out 3).trans rfl
  have cv1_4 : (w4).cell? ⟨qv1, 4, none⟩ = some (.string d.qbd) := (cell_of HBv1_4.out 4).trans rfl
  go_wp2_with fail
  refine (toReq_any d.qmt d.qpa a3 d.qfs.length c3 d.qbd d.qfs B _ (HA3.out _ hb4) (HBB.out _ hb4) hn.qfs).mono ?_
  rintro e w5 ⟨vv, rfl, hown, bw⟩
  obtain ⟨o3, p3, rfl⟩ := slice_of_owns hown
  have HRN : Hid (RowsO w5 w.heap.size ([(⟨68, 2, (.slice o3 d.qfs.length p3), d.qfs.length, flatF d.qfs⟩ : Rw)])) := RowsO.wide (RowsO.one (r := (⟨68, 2, (.slice o3 d.qfs.length p3), d.qfs.length, flatF d.qfs⟩ : Rw)) hown) hb4.size
  have HT1 : Hid (∀ r ∈ ([(⟨68, 2, (.slice o3 d.qfs.length p3), d.qfs.length, flatF d.qfs⟩ : Rw)]), 42 ≠ r.T) := by
    intro r hr
    simp only [List.mem_cons, List.not_mem_nil, or_false] at hr
    rcases hr with rfl
    · exact (by decide : (42 : TypeId) ≠ 68)
  clear hown
  have hb5 : Below w.heap.size w (w5) := hb4.trans (bw.mono hb4.size)
  have HBv1_5 : Hid ((w5).heap[qv1]? = some (.cells #[.int .i64 d.cli, .int .i64 d.qmt, .string d.qpa, .slice a3 d.qfs.length c3, .string d.qbd, .int .i64 d.rst, .slice a6 d.rfs.length c6, .string d.rbd, .int .i64 d.knd, .int .i64 d.tim, .string d.opa, .slice a11 d.oxs.length c11, .slice a12 d.oys.length c12, .int .i64 d.ost, .slice a14 d.ofs.length c14, .string d.obd, .int .i64 d.otm, .int .i64 d.bns] 31)) := blk_below HBv1_4.out bw
  have HBv2_5 : Hid ((w5).heap[qv2]? = some (.cells #[.int .i64 0, .int .i64 0, .string ⟨#[]⟩, .slice none 0 0, .string ⟨#[]⟩, .int .i64 0, .slice none 0 0, .string ⟨#[]⟩, .int .i64 0, .int .i64 0, .string ⟨#[]⟩, .slice none 0 0, .slice none 0 0, .int .i64 0, .slice none 0 0, .string ⟨#[]⟩, .int .i64 0, .int .i64 0] 42)) := blk_below HBv2_4.out bw
  have HBv3_5 : Hid ((w5).heap[qv3]? = some (.cells #[.int .i64 d.cli, .int .i64 0, .string ⟨#[]⟩, .slice none 0 0, .string ⟨#[]⟩, .int .i64 0, .slice none 0 0, .string ⟨#[]⟩, .int .i64 0, .int .i64 0, .string ⟨#[]⟩, .slice none 0 0, .slice none 0 0, .int .i64 0, .slice none 0 0, .string ⟨#[]⟩, .int .i64 0, .int .i64 0] 42)) := blk_below HBv3_4.out bw
  clear hb4 HBv1_4 HBv2_4 HBv3_4 bw
  have ER_5 : Hid (RowsO (w5) w.heap.size ([(⟨68, 2, (.slice o3 d.qfs.length p3), d.qfs.length, flatF d.qfs⟩ : Rw)])) := HRN.out
  clear HRN
  clear cv1_1 cv1_2 cv1_3 cv1_4
  have cv3_1 : (w5).cell? ⟨qv3, 1, none⟩ = some (.int .i64 0) := (cell_of HBv3_5.out 1).trans rfl
  have fcv3_1 : (w5).frozen? ⟨qv3, 1, none⟩ = false := frozen_of HBv3_5.out 1
  have cv3_2 : (w5).cell? ⟨qv3, 2, none⟩ = some (.string ⟨#[]⟩) := (cell_of HBv3_5.out 2).trans rfl
  have fcv3_2 : (w5).frozen? ⟨qv3, 2, none⟩ = false := frozen_of HBv3_5.out 2
  have cv3_3 : (w5).cell? ⟨qv3, 3, none⟩ = some (.slice none 0 0) := (cell_of HBv3_5.out 3).trans rfl
  have fcv3_3 : (w5).frozen? ⟨qv3, 3, none⟩ = false := frozen_of HBv3_5.out 3
  have cv3_4 : (w5).cell? ⟨qv3, 4, none⟩ = some (.string ⟨#[]⟩) := (cell_of HBv3_5.out 4).trans rfl
  have fcv3_4 : (w5).frozen? ⟨qv3, 4, none⟩ = false := frozen_of HBv3_5.out 4
  go_upto_region 4 with fail
  obtain ⟨w6, hW6⟩ : ∃ W, W = (w5).setCell ⟨qv3, 1, none⟩ (.int .i64 d.qmt) := ⟨_, rfl⟩
  rw [← hW6]
  have hb6 : Below w.heap.size w (w6) := by rw [hW6]; exact (hb5.setCell (p := ⟨qv3, 1, none⟩) HGv3.out _)
  have HBv1_6 : Hid ((w6).heap[qv1]? = some (.cells #[.int .i64 d.cli, .int .i64 d.qmt, .string d.qpa, .slice a3 d.qfs.length c3, .string d.qbd, .int .i64 d.rst, .slice a6 d.rfs.length c6, .string d.rbd, .int .i64 d.knd, .int .i64 d.tim, .string d.opa, .slice a11 d.oxs.length c11, .slice a12 d.oys.length c12, .int .i64 d.ost, .slice a14 d.ofs.length c14, .string d.obd, .int .i64 d.otm, .int .i64 d.bns] 31)) := by show _ = _; rw [hW6, heap_setCell_other _ _ _ _ HNv1v3.out]; exact HBv1_5.out
  have HBv2_6 : Hid ((w6).heap[qv2]? = some (.cells #[.int .i64 0, .int .i64 0, .string ⟨#[]⟩, .slice none 0 0, .string ⟨#[]⟩, .int .i64 0, .slice none 0 0, .string ⟨#[]⟩, .int .i64 0, .int .i64 0, .string ⟨#[]⟩, .slice none 0 0, .slice none 0 0, .int .i64 0, .slice none 0 0, .string ⟨#[]⟩, .int .i64 0, .int .i64 0] 42)) := by show _ = _; rw [hW6, heap_setCell_other _ _ _ _ HNv2v3.out]; exact HBv2_5.out
  have ER_6 : Hid (RowsO (w6) w.heap.size ([(⟨68, 2, (.slice o3 d.qfs.length p3), d.qfs.length, flatF d.qfs⟩ : Rw)])) := by show RowsO _ _ _; rw [hW6]; exact RowsO.other ER_5.out HBv3_5.out HT1.out
  have HBv3_6 : Hid ((w6).heap[qv3]? = some (.cells #[.int .i64 d.cli, .int .i64 d.qmt, .string ⟨#[]⟩, .slice none 0 0, .string ⟨#[]⟩, .int .i64 0, .slice none 0 0, .string ⟨#[]⟩, .int .i64 0, .int .i64 0, .string ⟨#[]⟩, .slice none 0 0, .slice none 0 0, .int .i64 0, .slice none 0 0, .string ⟨#[]⟩, .int .i64 0, .int .i64 0] 42)) := by show _ = _; rw [hW6]; have h := heap_set _ _ 1 _ _ _ (.int .i64 d.qmt) HBv3_5.out; simpa using h
  clear hb5 HBv1_5 HBv2_5 HBv3_5 ER_5 hW6
  obtain ⟨w7, hW7⟩ : ∃ W, W = (w6).setCell ⟨qv3, 2, none⟩ (.string d.qpa) := ⟨_, rfl⟩
  rw [← hW7]
  have hb7 : Below w.heap.size w (w7) := by rw [hW7]; exact (hb6.setCell (p := ⟨qv3, 2, none⟩) HGv3.out _)
  have HBv1_7 : Hid ((w7).heap[qv1]? = some (.cells #[.int .i64 d.cli, .int .i64 d.qmt, .string d.qpa, .slice a3 d.qfs.length c3, .string d.qbd, .int .i64 d.rst, .slice a6 d.rfs.length c6, .string d.rbd, .int .i64 d.knd, .int .i64 d.tim, .string d.opa, .slice a11 d.oxs.length c11, .slice a12 d.oys.length c12, .int .i64 d.ost, .slice a14 d.ofs.length c14, .string d.obd, .int .i64 d.otm, .int .i64 d.bns] 31)) := by show _ = _; rw [hW7, heap_setCell_other _ _ _ _ HNv1v3.out]; exact HBv1_6.out
  have HBv2_7 : Hid ((w7).heap[qv2]? = some (.cells #[.int .i64 0, .int .i64 0, .string ⟨#[]⟩, .slice none 0 0, .string ⟨#[]⟩, .int .i64 0, .slice none 0 0, .string ⟨#[]⟩, .int .i64 0, .int .i64 0, .string ⟨#[]⟩, .slice none 0 0, .slice none 0 0, .int .i64 0, .slice none 0 0, .string ⟨#[]⟩, .int .i64 0, .int .i64 0] 42)) := by show _ = _; rw [hW7, heap_setCell_other _ _ _ _ HNv2v3.out]; exact HBv2_6.out
  have ER_7 : Hid (RowsO (w7) w.heap.size ([(⟨68, 2, (.slice o3 d.qfs.length p3), d.qfs.length, flatF d.qfs⟩ : Rw)])) := by show RowsO _ _ _; rw [hW7]; exact RowsO.other ER_6.out HBv3_6.out HT1.out
  have HBv3_7 : Hid ((w7).heap[qv3]? = some (.cells #[.int .i64 d.cli, .int .i64 d.qmt, .string d.qpa, .slice none 0 0, .string ⟨#[]⟩, .int .i64 0, .slice none 0 0, .string ⟨#[]⟩, .int .i64 0, .int .i64 0, .string ⟨#[]⟩, .slice none 0 0, .slice none 0 0, .int .i64 0, .slice none 0 0, .string ⟨#[]⟩, .int .i64 0, .int .i64 0] 42)) := by show _ = _; rw [hW7]; have h := heap_set _ _ 2 _ _ _ (.string d.qpa) HBv3_6.out; simpa using h
  clear hb6 HBv1_6 HBv2_6 HBv3_6 ER_6 hW7
  obtain ⟨w8, hW8⟩ : ∃ W, W = (w7).setCell ⟨qv3, 3, none⟩ (.slice o3 d.qfs.length p3) := ⟨_, rfl⟩
  rw [← hW8]
  have hb8 : Below w.heap.size w (w8) := by rw [hW8]; exact (hb7.setCell (p := ⟨qv3, 3, none⟩) HGv3.out _)
  have HBv1_8 : Hid ((w8).heap[qv1]? = some (.cells #[.int .i64 d.cli, .int .i64 d.qmt, .string d.qpa, .slice a3 d.qfs.length c3, .string d.qbd, .int .i64 d.rst, .slice a6 d.rfs.length c6, .string d.rbd, .int .i64 d.knd, .int .i64 d.tim, .string d.opa, .slice a11 d.oxs.length c11, .slice a12 d.oys.length c12, .int .i64 d.ost, .slice a14 d.ofs.length c14, .string d.obd, .int .i64 d.otm, .int .i64 d.bns] 31)) := by show _ = _; rw [hW8, heap_setCell_other _ _ _ _ HNv1v3.out]; exact HBv1_7.out
  have HBv2_8 : Hid ((w8).heap[qv2]? = some (.cells #[.int .i64 0, .int .i64 0, .string ⟨#[]⟩, .slice none 0 0, .string ⟨#[]⟩, .int .i64 0, .slice none 0 0, .string ⟨#[]⟩, .int .i64 0, .int .i64 0, .string ⟨#[]⟩, .slice none 0 0, .slice none 0 0, .int .i64 0, .slice none 0 0, .string ⟨#[]⟩, .int .i64 0, .int .i64 0] 42)) := by show _ = _; rw [hW8, heap_setCell_other _ _ _ _ HNv2v3.out]; exact HBv2_7.out
  have ER_8 : Hid (RowsO (w8) w.heap.size ([(⟨68, 2, (.slice o3 d.qfs.length p3), d.qfs.length, flatF d.qfs⟩ : Rw)])) := by show RowsO _ _ _; rw [hW8]; exact RowsO.other ER_7.out HBv3_7.out HT1.out
  have HBv3_8 : Hid ((w8).heap[qv3]? = some (.cells #[.int .i64 d.cli, .int .i64 d.qmt, .string d.qpa, .slice o3 d.qfs.length p3, .string ⟨#[]⟩, .int .i64 0, .slice none 0 0, .string ⟨#[]⟩, .int .i64 0, .int .i64 0, .string ⟨#[]⟩, .slice none 0 0, .slice none 0 0, .int .i64 0, .slice none 0 0, .string ⟨#[]⟩, .int .i64 0, .int .i64 0] 42)) := by show _ = _; rw [hW8]; have h := heap_set _ _ 3 _ _ _ (.slice o3 d.qfs.length p3) HBv3_7.out; simpa using h
  clear hb7 HBv1_7 HBv2_7 HBv3_7 ER_7 hW8
  obtain ⟨w9, hW9⟩ : ∃ W, W = (w8).setCell ⟨qv3, 4, none⟩ (.string d.qbd) := ⟨_, rfl⟩
  rw [← hW9]
  have hb9 : Below w.heap.size w (w9) := by rw [hW9]; exact (hb8.setCell (p := ⟨qv3, 4, none⟩) HGv3.out _)
  have HBv1_9 : Hid ((w9).heap[qv1]? = some (.cells #[.int .i64 d.cli, .int .i64 d.qmt, .string d.qpa, .slice a3 d.qfs.length c3, .string d.qbd, .int .i64 d.rst, .slice a6 d.rfs.length c6, .string d.rbd, .int .i64 d.knd, .int .i64 d.tim, .string d.opa, .slice a11 d.oxs.length c11, .slice a12 d.oys.length c12, .int .i64 d.ost, .slice a14 d.ofs.length c14, .string d.obd, .int .i64 d.otm, .int .i64 d.bns] 31)) := by show _ = _; rw [hW9, heap_setCell_other _ _ _ _ HNv1v3.out]; exact HBv1_8.out
  have HBv2_9 : Hid ((w9).heap[qv2]? = some (.cells #[.int .i64 0, .int .i64 0, .string ⟨#[]⟩, .slice none 0 0, .string ⟨#[]⟩, .int .i64 0, .slice none 0 0, .string ⟨#[]⟩, .int .i64 0, .int .i64 0, .string ⟨#[]⟩, .slice none 0 0, .slice none 0 0, .int .i64 0, .slice none 0 0, .string ⟨#[]⟩, .int .i64 0, .int .i64 0] 42)) := by show _ = _; rw [hW9, heap_setCell_other _ _ _ _ HNv2v3.out]; exact HBv2_8.out
  have ER_9 : Hid (RowsO (w9) w.heap.size ([(⟨68, 2, (.slice o3 d.qfs.length p3), d.qfs.length, flatF d.qfs⟩ : Rw)])) := by show RowsO _ _ _; rw [hW9]; exact RowsO.other ER_8.out HBv3_8.out HT1.out
  have HBv3_9 : Hid ((w9).heap[qv3]? = some (.cells #[.int .i64 d.cli, .int .i64 d.qmt, .string d.qpa, .slice o3 d.qfs.length p3, .string d.qbd, .int .i64 0, .slice none 0 0, .string ⟨#[]⟩, .int .i64 0, .int .i64 0, .string ⟨#[]⟩, .slice none 0 0, .slice none 0 0, .int .i64 0, .slice none 0 0, .string ⟨#[]⟩, .int .i64 0, .int .i64 0] 42)) := by show _ = _; rw [hW9]; have h := heap_set _ _ 4 _ _ _ (.string d.qbd) HBv3_8.out; simpa using h
  clear hb8 HBv1_8 HBv2_8 HBv3_8 ER_8 hW9
  clear cv3_1 fcv3_1 cv3_2 fcv3_2 cv3_3 fcv3_3 cv3_4 fcv3_4
  have cv1_5 : (w9).cell? ⟨qv1, 5, none⟩ = some (.int .i64 d.rst) := (cell_of HBv1_9.out 5).trans rfl
  have cv1_6 : (w9).cell? ⟨qv1, 6, none⟩ = some (.slice a6 d.rfs.length c6) := (cell_of HBv1_9.out 6).trans rfl
  have cv1_7 : (w9).cell? ⟨qv1, 7, none⟩ = some (.string d.rbd) := (cell_of HBv1_9.out 7).trans rfl
  go_wp2_with fail
  refine (toResp_any d.rst a6 d.rfs.length c6 d.rbd d.rfs B _ (HA6.out _ hb9) (HBB.out _ hb9) hn.rfs).mono ?_
  rintro e w10 ⟨vv, rfl, hown, bw⟩
  obtain ⟨o6, p6, rfl⟩ := slice_of_owns hown
  have HRN : Hid (RowsO w10 w.heap.size ([(⟨68, 2, (.slice o3 d.qfs.length p3), d.qfs.length, flatF d.qfs⟩ : Rw), (⟨68, 2, (.slice o6 d.rfs.length p6), d.rfs.length, flatF d.rfs⟩ : Rw)])) := ER_9.out.more bw (RowsO.one (r := (⟨68, 2, (.slice o6 d.rfs.length p6), d.rfs.length, flatF d.rfs⟩ : Rw)) hown) (Nat.le_refl _) hb9.size
  have HT2 : Hid (∀ r ∈ ([(⟨68, 2, (.slice o3 d.qfs.length p3), d.qfs.length, flatF d.qfs⟩ : Rw), (⟨68, 2, (.slice o6 d.rfs.length p6), d.rfs.length, flatF d.rfs⟩ : Rw)]), 42 ≠ r.T) := by
    intro r hr
    simp only [List.mem_cons, List.not_mem_nil, or_false] at hr
    rcases hr with rfl | rfl
    · exact (by decide : (42 : TypeId) ≠ 68)
    · exact (by decide : (42 : TypeId) ≠ 68)
  clear hown
  have hb10 : Below w.heap.size w (w10) := hb9.trans (bw.mono hb9.size)
  have HBv1_10 : Hid ((w10).heap[qv1]? = some (.cells #[.int .i64 d.cli, .int .i64 d.qmt, .string d.qpa, .slice a3 d.qfs.length c3, .string d.qbd, .int .i64 d.rst, .slice a6 d.rfs.length c6, .string d.rbd, .int .i64 d.knd, .int .i64 d.tim, .string d.opa, .slice a11 d.oxs.length c11, .slice a12 d.oys.length c12, .int .i64 d.ost, .slice a14 d.ofs.length c14, .string d.obd, .int .i64 d.otm, .int .i64 d.bns] 31)) := blk_below HBv1_9.out bw
  have HBv2_10 : Hid ((w10).heap[qv2]? = some (.cells #[.int .i64 0, .int .i64 0, .string ⟨#[]⟩, .slice none 0 0, .string ⟨#[]⟩, .int .i64 0, .slice none 0 0, .string ⟨#[]⟩, .int .i64 0, .int .i64 0, .string ⟨#[]⟩, .slice none 0 0, .slice none 0 0, .int .i64 0, .slice none 0 0, .string ⟨#[]⟩, .int .i64 0, .int .i64 0] 42)) := blk_below HBv2_9.out bw
  have HBv3_10 : Hid ((w10).heap[qv3]? = some (.cells #[.int .i64 d.cli, .int .i64 d.qmt, .string d.qpa, .slice o3 d.qfs.length p3, .string d.qbd, .int .i64 0, .slice none 0 0, .string ⟨#[]⟩, .int .i64 0, .int .i64 0, .string ⟨#[]⟩, .slice none 0 0, .slice none 0 0, .int .i64 0, .slice none 0 0, .string ⟨#[]⟩, .int .i64 0, .int .i64 0] 42)) := blk_below HBv3_9.out bw
  have ER_10 : Hid (RowsO (w10) w.heap.size ([(⟨68, 2, (.slice o3 d.qfs.length p3), d.qfs.length, flatF d.qfs⟩ : Rw)])) := ER_9.out.below bw
  clear hb9 HBv1_9 HBv2_9 HBv3_9 ER_9 bw
  clear ER_10
  have ER_10 : Hid (RowsO (w10) w.heap.size ([(⟨68, 2, (.slice o3 d.qfs.length p3), d.qfs.length, flatF d.qfs⟩ : Rw), (⟨68, 2, (.slice o6 d.rfs.length p6), d.rfs.length, flatF d.rfs⟩ : Rw)])) := HRN.out
  clear HRN
  clear cv1_5 cv1_6 cv1_7
  have cv3_5 : (w10).cell? ⟨qv3, 5, none⟩ = some (.int .i64 0) := (cell_of HBv3_10.out 5).trans rfl
  have fcv3_5 : (w10).frozen? ⟨qv3, 5, none⟩ = false := frozen_of HBv3_10.out 5
  have cv3_6 : (w10).cell? ⟨qv3, 6, none⟩ = some (.slice none 0 0) := (cell_of HBv3_10.out 6).trans rfl
  have fcv3_6 : (w10).frozen? ⟨qv3, 6, none⟩ = false := frozen_of HBv3_10.out 6
  have cv3_7 : (w10).cell? ⟨qv3, 7, none⟩ = some (.string ⟨#[]⟩) := (cell_of HBv3_10.out 7).trans rfl
  have fcv3_7 : (w10).frozen? ⟨qv3, 7, none⟩ = false := frozen_of HBv3_10.out 7
  go_upto_region 5 with fail
  obtain ⟨w11, hW11⟩ : ∃ W, W = (w10).setCell ⟨qv3, 5, none⟩ (.int .i64 d.rst) := ⟨_, rfl⟩
  rw [← hW11]
  have hb11 : Below w.heap.size w (w11) := by rw [hW11]; exact (hb10.setCell (p := ⟨qv3, 5, none⟩) HGv3.out _)
  have HBv1_11 : Hid ((w11).heap[qv1]? = some (.cells #[.int .i64 d.cli, .int .i64 d.qmt, .string d.qpa, .slice a3 d.qfs.length c3, .string d.qbd, .int .i64 d.rst, .slice a6 d.rfs.length c6, .string d.rbd, .int .i64 d.knd, .int .i64 d.tim, .string d.opa, .slice a11 d.oxs.length c11, .slice a12 d.oys.length c12, .int .i64 d.ost, .slice a14 d.ofs.length c14, .string d.obd, .int .i64 d.otm, .int .i64 d.bns] 31)) := by show _ = _; rw [hW11, heap_setCell_other _ _ _ _ HNv1v3.out]; exact HBv1_10.out
  have HBv2_11 : Hid ((w11).heap[qv2]? = some (.cells #[.int .i64 0, .int .i64 0, .string ⟨#[]⟩, .slice none 0 0, .string ⟨#[]⟩, .int .i64 0, .slice none 0 0, .string ⟨#[]⟩, .int .i64 0, .int .i64 0, .string ⟨#[]⟩, .slice none 0 0, .slice none 0 0, .int .i64 0, .slice none 0 0, .string ⟨#[]⟩, .int .i64 0, .int .i64 0] 42)) := by show _ = _; rw [hW11, heap_setCell_other _ _ _ _ HNv2v3.out]; exact HBv2_10.out
  have ER_11 : Hid (RowsO (w11) w.heap.size ([(⟨68, 2, (.slice o3 d.qfs.length p3), d.qfs.length, flatF d.qfs⟩ : Rw), (⟨68, 2, (.slice o6 d.rfs.length p6), d.rfs.length, flatF d.rfs⟩ : Rw)])) := by show RowsO _ _ _; rw [hW11]; exact RowsO.other ER_10.out HBv3_10.out HT2.out
  have HBv3_11 : Hid ((w11).heap[qv3]? = some (.cells #[.int .i64 d.cli, .int .i64 d.qmt, .string d.qpa, .slice o3 d.qfs.length p3, .string d.qbd, .int .i64 d.rst, .slice none 0 0, .string ⟨#[]⟩, .int .i64 0, .int .i64 0, .string ⟨#[]⟩, .slice none 0 0, .slice none 0 0, .int .i64 0, .slice none 0 0, .string ⟨#[]⟩, .int .i64 0, .int .i64 0] 42)) := by show _ = _; rw [hW11]; have h := heap_set _ _ 5 _ _ _ (.int .i64 d.rst) HBv3_10.out; simpa using h
  clear hb10 HBv1_10 HBv2_10 HBv3_10 ER_10 hW11
  obtain ⟨w12, hW12⟩ : ∃ W, W = (w11).setCell ⟨qv3, 6, none⟩ (.slice o6 d.rfs.length p6) := ⟨_, rfl⟩
  rw [← hW12]
  have hb12 : Below w.heap.size w (w12) := by rw [hW12]; exact (hb11.setCell (p := ⟨qv3, 6, none⟩) HGv3.out _)
  have HBv1_12 : Hid ((w12).heap[qv1]? = some (.cells #[.int .i64 d.cli, .int .i64 d.qmt, .string d.qpa, .slice a3 d.qfs.length c3, .string d.qbd, .int .i64 d.rst, .slice a6 d.rfs.length c6, .string d.rbd, .int .i64 d.knd, .int .i64 d.tim, .string d.opa, .slice a11 d.oxs.length c11, .slice a12 d.oys.length c12, .int .i64 d.ost, .slice a14 d.ofs.length c14, .string d.obd, .int .i64 d.otm, .int .i64 d.bns] 31)) := by show _ = _; rw [hW12, heap_setCell_other _ _ _ _ HNv1v3.out]; exact HBv1_11.out
  have HBv2_12 : Hid ((w12).heap[qv2]? = some (.cells #[.int .i64 0, .int .i64 0, .string ⟨#[]⟩, .slice none 0 0, .string ⟨#[]⟩, .int .i64 0, .slice none 0 0, .string ⟨#[]⟩, .int .i64 0, .int .i64 0, .string ⟨#[]⟩, .slice none 0 0, .slice none 0 0, .int .i64 0, .slice none 0 0, .string ⟨#[]⟩, .int .i64 0, .int .i64 0] 42)) := by show _ = _; rw [hW12, heap_setCell_other _ _ _ _ HNv2v3.out]; exact HBv2_11.out
  have ER_12 : Hid (RowsO (w12) w.heap.size ([(⟨68, 2, (.slice o3 d.qfs.length p3), d.qfs.length, flatF d.qfs⟩ : Rw), (⟨68, 2, (.slice o6 d.rfs.length p6), d.rfs.length, flatF d.rfs⟩ : Rw)])) := by show RowsO _ _ _; rw [hW12]; exact RowsO.other ER_11.out HBv3_11.out HT2.out
  have HBv3_12 : Hid ((w12).heap[qv3]? = some (.cells #[.int .i64 d.cli, .int .i64 d.qmt, .string d.qpa, .slice o3 d.qfs.length p3, .string d.qbd, .int .i64 d.rst, .slice o6 d.rfs.length p6, .string ⟨#[]⟩, .int .i64 0, .int .i64 0, .string ⟨#[]⟩, .slice none 0 0, .slice none 0 0, .int .i64 0, .slice none 0 0, .string ⟨#[]⟩, .int .i64 0, .int .i64 0] 42)) := by show _ = _; rw [hW12]; have h := heap_set _ _ 6 _ _ _ (.slice o6 d.rfs.length p6) HBv3_11.out; simpa using h
  clear hb11 HBv1_11 HBv2_11 HBv3_11 ER_11 hW12
  obtain ⟨w13, hW13⟩ : ∃ W, W = (w12).setCell ⟨qv3, 7, none⟩ (.string d.rbd) := ⟨_, rfl⟩
  rw [← hW13]
  have hb13 : Below w.heap.size w (w13) := by rw [hW13]; exact (hb12.setCell (p := ⟨qv3, 7, none⟩) HGv3.out _)
  have HBv1_13 : Hid ((w13).heap[qv1]? = some (.cells #[.int .i64 d.cli, .int .i64 d.qmt, .string d.qpa, .slice a3 d.qfs.length c3, .string d.qbd, .int .i64 d.rst, .slice a6 d.rfs.length c6, .string d.rbd, .int .i64 d.knd, .int .i64 d.tim, .string d.opa, .slice a11 d.oxs.length c11, .slice a12 d.oys.length c12, .int .i64 d.ost, .slice a14 d.ofs.length c14, .string d.obd, .int .i64 d.otm, .int .i64 d.bns] 31)) := by show _ = _; rw [hW13, heap_setCell_other _ _ _ _ HNv1v3.out]; exact HBv1_12.out
  have HBv2_13 : Hid ((w13).heap[qv2]? = some (.cells #[.int .i64 0, .int .i64 0, .string ⟨#[]⟩, .slice none 0 0, .string ⟨#[]⟩, .int .i64 0, .slice none 0 0, .string ⟨#[]⟩, .int .i64 0, .int .i64 0, .string ⟨#[]⟩, .slice none 0 0, .slice none 0 0, .int .i64 0, .slice none 0 0, .string ⟨#[]⟩, .int .i64 0, .int .i64 0] 42)) := by show _ = _; rw [hW13, heap_setCell_other _ _ _ _ HNv2v3.out]; exact HBv2_12.out
  have ER_13 : Hid (RowsO (w13) w.heap.size ([(⟨68, 2, (.slice o3 d.qfs.length p3), d.qfs.length, flatF d.qfs⟩ : Rw), (⟨68, 2, (.slice o6 d.rfs.length p6), d.rfs.length, flatF d.rfs⟩ : Rw)])) := by show RowsO _ _ _; rw [hW13]; exact RowsO.other ER_12.out HBv3_12.out HT2.out
  have HBv3_13 : Hid ((w13).heap[qv3]? = some (.cells #[.int .i64 d.cli, .int .i64 d.qmt, .string d.qpa, .slice o3 d.qfs.length p3, .string d.qbd, .int .i64 d.rst, .slice o6 d.rfs.length p6, .string d.rbd, .int .i64 0, .int .i64 0, .string ⟨#[]⟩, .slice none 0 0, .slice none 0 0, .int .i64 0, .slice none 0 0, .string ⟨#[]⟩, .int .i64 0, .int .i64 0] 42)) := by show _ = _; rw [hW13]; have h := heap_set _ _ 7 _ _ _ (.string d.rbd) HBv3_12.out; simpa using h
  clear hb12 HBv1_12 HBv2_12 HBv3_12 ER_12 hW13
  clear cv3_5 fcv3_5 cv3_6 fcv3_6 cv3_7 fcv3_7
  have cv1_8 : (w13).cell? ⟨qv1, 8, none⟩ = some (.int .i64 d.knd) := (cell_of HBv1_13.out 8).trans rfl
  have cv3_8 : (w13).cell? ⟨qv3, 8, none⟩ = some (.int .i64 0) := (cell_of HBv3_13.out 8).trans rfl
  have fcv3_8 : (w13).frozen? ⟨qv3, 8, none⟩ = false := frozen_of HBv3_13.out 8
  go_upto_region 6 with fail
  obtain ⟨w14, hW14⟩ : ∃ W, W = (w13).setCell ⟨qv3, 8, none⟩ (.int .i64 d.knd) := ⟨_, rfl⟩
  rw [← hW14]
  have hb14 : Below w.heap.size w (w14) := by rw [hW14]; exact (hb13.setCell (p := ⟨qv3, 8, none⟩) HGv3.out _)
  have HBv1_14 : Hid ((w14).heap[qv1]? = some (.cells #[.int .i64 d.cli, .int .i64 d.qmt, .string d.qpa, .slice a3 d.qfs.length c3, .string d.qbd, .int .i64 d.rst, .slice a6 d.rfs.length c6, .string d.rbd, .int .i64 d.knd, .int .i64 d.tim, .string d.opa, .slice a11 d.oxs.length c11, .slice a12 d.oys.length c12, .int .i64 d.ost, .slice a14 d.ofs.length c14, .string d.obd, .int .i64 d.otm, .int .i64 d.bns] 31)) := by show _ = _; rw [hW14, heap_setCell_other _ _ _ _ HNv1v3.out]; exact HBv1_13.out
  have HBv2_14 : Hid ((w14).heap[qv2]? = some (.cells #[.int .i64 0, .int .i64 0, .string ⟨#[]⟩, .slice none 0 0, .string ⟨#[]⟩, .int .i64 0, .slice none 0 0, .string ⟨#[]⟩, .int .i64 0, .int .i64 0, .string ⟨#[]⟩, .slice none 0 0, .slice none 0 0, .int .i64 0, .slice none 0 0, .string ⟨#[]⟩, .int .i64 0, .int .i64 0] 42)) := by show _ = _; rw [hW14, heap_setCell_other _ _ _ _ HNv2v3.out]; exact HBv2_13.out
  have ER_14 : Hid (RowsO (w14) w.heap.size ([(⟨68, 2, (.slice o3 d.qfs.length p3), d.qfs.length, flatF d.qfs⟩ : Rw), (⟨68, 2, (.slice o6 d.rfs.length p6), d.rfs.length, flatF d.rfs⟩ : Rw)])) := by show RowsO _ _ _; rw [hW14]; exact RowsO.other ER_13.out HBv3_13.out HT2.out
  have HBv3_14 : Hid ((w14).heap[qv3]? = some (.cells #[.int .i64 d.cli, .int .i64 d.qmt, .string d.qpa, .slice o3 d.qfs.length p3, .string d.qbd, .int .i64 d.rst, .slice o6 d.rfs.length p6, .string d.rbd, .int .i64 d.knd, .int .i64 0, .string ⟨#[]⟩, .slice none 0 0, .slice none 0 0, .int .i64 0, .slice none 0 0, .string ⟨#[]⟩, .int .i64 0, .int .i64 0] 42)) := by show _ = _; rw [hW14]; have h := heap_set _ _ 8 _ _ _ (.int .i64 d.knd) HBv3_13.out; simpa using h
  clear hb13 HBv1_13 HBv2_13 HBv3_13 ER_13 hW14
  clear cv1_8 cv3_8 fcv3_8
  have cv1_9 : (w14).cell? ⟨qv1, 9, none⟩ = some (.int .i64 d.tim) := (cell_of HBv1_14.out 9).trans rfl
  have cv3_9 : (w14).cell? ⟨qv3, 9, none⟩ = some (.int .i64 0) := (cell_of HBv3_14.out 9).trans rfl
  have fcv3_9 : (w14).frozen? ⟨qv3, 9, none⟩ = false := frozen_of HBv3_14.out 9
  go_upto_region 7 with fail
  obtain ⟨w15, hW15⟩ : ∃ W, W = (w14).setCell ⟨qv3, 9, none⟩ (.int .i64 d.tim) := ⟨_, rfl⟩
  rw [← hW15]
  have hb15 : Below w.heap.size w (w15) := by rw [hW15]; exact (hb14.setCell (p := ⟨qv3, 9, none⟩) HGv3.out _)
  have HBv1_15 : Hid ((w15).heap[qv1]? = some (.cells #[.int .i64 d.cli, .int .i64 d.qmt, .string d.qpa, .slice a3 d.qfs.length c3, .string d.qbd, .int .i64 d.rst, .slice a6 d.rfs.length c6, .string d.rbd, .int .i64 d.knd, .int .i64 d.tim, .string d.opa, .slice a11 d.oxs.length c11, .slice a12 d.oys.length c12, .int .i64 d.ost, .slice a14 d.ofs.length c14, .string d.obd, .int .i64 d.otm, .int .i64 d.bns] 31)) := by show _ = _; rw [hW15, heap_setCell_other _ _ _ _ HNv1v3.out]; exact HBv1_14.out
  have HBv2_15 : Hid ((w15).heap[qv2]? = some (.cells #[.int .i64 0, .int .i64 0, .string ⟨#[]⟩, .slice none 0 0, .string ⟨#[]⟩, .int .i64 0, .slice none 0 0, .string ⟨#[]⟩, .int .i64 0, .int .i64 0, .string ⟨#[]⟩, .slice none 0 0, .slice none 0 0, .int .i64 0, .slice none 0 0, .string ⟨#[]⟩, .int .i64 0, .int .i64 0] 42)) := by show _ = _; rw [hW15, heap_setCell_other _ _ _ _ HNv2v3.out]; exact HBv2_14.out
  have ER_15 : Hid (RowsO (w15) w.heap.size ([(⟨68, 2, (.slice o3 d.qfs.length p3), d.qfs.length, flatF d.qfs⟩ : Rw), (⟨68, 2, (.slice o6 d.rfs.length p6), d.rfs.length, flatF d.rfs⟩ : Rw)])) := by show RowsO _ _ _; rw [hW15]; exact RowsO.other ER_14.out HBv3_14.out HT2.out
  have HBv3_15 : Hid ((w15).heap[qv3]? = some (.cells #[.int .i64 d.cli, .int .i64 d.qmt, .string d.qpa, .slice o3 d.qfs.length p3, .string d.qbd, .int .i64 d.rst, .slice o6 d.rfs.length p6, .string d.rbd, .int .i64 d.knd, .int .i64 d.tim, .string ⟨#[]⟩, .slice none 0 0, .slice none 0 0, .int .i64 0, .slice none 0 0, .string ⟨#[]⟩, .int .i64 0, .int .i64 0] 42)) := by show _ = _; rw [hW15]; have h := heap_set _ _ 9 _ _ _ (.int .i64 d.tim) HBv3_14.out; simpa using h
  clear hb14 HBv1_14 HBv2_14 HBv3_14 ER_14 hW15
  clear cv1_9 cv3_9 fcv3_9
  have cv1_10 : (w15).cell? ⟨qv1, 10, none⟩ = some (.string d.opa) := (cell_of HBv1_15.out 10).trans rfl
  have cv1_11 : (w15).cell? ⟨qv1, 11, none⟩ = some (.slice a11 d.oxs.length c11) := (cell_of HBv1_15.out 11).trans rfl
  have cv1_12 : (w15).cell? ⟨qv1, 12, none⟩ = some (.slice a12 d.oys.length c12) := (cell_of HBv1_15.out 12).trans rfl
  have cv1_13 : (w15).cell? ⟨qv1, 13, none⟩ = some (.int .i64 d.ost) := (cell_of HBv1_15.out 13).trans rfl
  have cv1_14 : (w15).cell? ⟨qv1, 14, none⟩ = some (.slice a14 d.ofs.length c14) := (cell_of HBv1_15.out 14).trans rfl
  have cv1_15 : (w15).cell? ⟨qv1, 15, none⟩ = some (.string d.obd) := (cell_of HBv1_15.out 15).trans rfl
  have cv1_16 : (w15).cell? ⟨qv1, 16, none⟩ = some (.int .i64 d.otm) := (cell_of HBv1_15.out 16).trans rfl
  go_wp2_with fail
  refine (toObj_any d.opa a11 d.oxs.length c11 d.oxs a12 d.oys.length c12 d.oys d.ost a14 d.ofs.length c14 d.ofs d.obd d.otm B _ (HA11.out _ hb15) (HA12.out _ hb15) (HA14.out _ hb15) (HBB.out _ hb15) hn.oxs hn.oys hn.ofs).mono ?_
  rintro e w16 ⟨vv1, vv2, vv3, rfl, hobj, bw⟩
  obtain ⟨o11, p11, rfl⟩ := slice_of_owns hobj.names
  obtain ⟨o12, p12, rfl⟩ := slice_of_owns hobj.vals
  obtain ⟨o14, p14, rfl⟩ := slice_of_owns hobj.flds
  have HRN : Hid (RowsO w16 w.heap.size ([(⟨68, 2, (.slice o3 d.qfs.length p3), d.qfs.length, flatF d.qfs⟩ : Rw), (⟨68, 2, (.slice o6 d.rfs.length p6), d.rfs.length, flatF d.rfs⟩ : Rw), (⟨9, 1, (.slice o11 d.oxs.length p11), d.oxs.length, d.oxs.map Value.string⟩ : Rw), (⟨9, 1, (.slice o12 d.oys.length p12), d.oys.length, d.oys.map Value.string⟩ : Rw), (⟨68, 2, (.slice o14 d.ofs.length p14), d.ofs.length, flatF d.ofs⟩ : Rw)])) := ER_15.out.more bw (obj_rows3 hobj) (Nat.le_refl _) hb15.size
  have HT5 : Hid (∀ r ∈ ([(⟨68, 2, (.slice o3 d.qfs.length p3), d.qfs.length, flatF d.qfs⟩ : Rw), (⟨68, 2, (.slice o6 d.rfs.length p6), d.rfs.length, flatF d.rfs⟩ : Rw), (⟨9, 1, (.slice o11 d.oxs.length p11), d.oxs.length, d.oxs.map Value.string⟩ : Rw), (⟨9, 1, (.slice o12 d.oys.length p12), d.oys.length, d.oys.map Value.string⟩ : Rw), (⟨68, 2, (.slice o14 d.ofs.length p14), d.ofs.length, flatF d.ofs⟩ : Rw)]), 42 ≠ r.T) := by
    intro r hr
    simp only [List.mem_cons, List.not_mem_nil, or_false] at hr
    rcases hr with rfl | rfl | rfl | rfl | rfl
    · exact (by decide : (42 : TypeId) ≠ 68)
    · exact (by decide : (42 : TypeId) ≠ 68)
    · exact (by decide : (42 : TypeId) ≠ 9)
    · exact (by decide : (42 : TypeId) ≠ 9)
    · exact (by decide : (42 : TypeId) ≠ 68)
  clear hobj
  have hb16 : Below w.heap.size w (w16) := hb15.trans (bw.mono hb15.size)
  have HBv1_16 : Hid ((w16).heap[qv1]? = some (.cells #[.int .i64 d.cli, .int .i64 d.qmt, .string d.qpa, .slice a3 d.qfs.length c3, .string d.qbd, .int .i64 d.rst, .slice a6 d.rfs.length c6, .string d.rbd, .int .i64 d.knd, .int .i64 d.tim, .string d.opa, .slice a11 d.oxs.length c11, .slice a12 d.oys.length c12, .int .i64 d.ost, .slice a14 d.ofs.length c14, .string d.obd, .int .i64 d.otm, .int .i64 d.bns] 31)) := blk_below HBv1_15.out bw
  have HBv2_16 : Hid ((w16).heap[qv2]? = some (.cells #[.int .i64 0, .int .i64 0, .string ⟨#[]⟩, .slice none 0 0, .string ⟨#[]⟩, .int .i64 0, .slice none 0 0, .string ⟨#[]⟩, .int .i64 0, .int .i64 0, .string ⟨#[]⟩, .slice none 0 0, .slice none 0 0, .int .i64 0, .slice none 0 0, .string ⟨#[]⟩, .int .i64 0, .int .i64 0] 42)) := blk_below HBv2_15.out bw
  have HBv3_16 : Hid ((w16).heap[qv3]? = some (.cells #[.int .i64 d.cli, .int .i64 d.qmt, .string d.qpa, .slice o3 d.qfs.length p3, .string d.qbd, .int .i64 d.rst, .slice o6 d.rfs.length p6, .string d.rbd, .int .i64 d.knd, .int .i64 d.tim, .string ⟨#[]⟩, .slice none 0 0, .slice none 0 0, .int .i64 0, .slice none 0 0, .string ⟨#[]⟩, .int .i64 0, .int .i64 0] 42)) := blk_below HBv3_15.out bw
  have ER_16 : Hid (RowsO (w16) w.heap.size ([(⟨68, 2, (.slice o3 d.qfs.length p3), d.qfs.length, flatF d.qfs⟩ : Rw), (⟨68, 2, (.slice o6 d.rfs.length p6), d.rfs.length, flatF d.rfs⟩ : Rw)])) := ER_15.out.below bw
  clear hb15 HBv1_15 HBv2_15 HBv3_15 ER_15 bw
  clear ER_16
  have ER_16 : Hid (RowsO (w16) w.heap.size ([(⟨68, 2, (.slice o3 d.qfs.length p3), d.qfs.length, flatF d.qfs⟩ : Rw), (⟨68, 2, (.slice o6 d.rfs.length p6), d.rfs.length, flatF d.rfs⟩ : Rw), (⟨9, 1, (.slice o11 d.oxs.length p11), d.oxs.length, d.oxs.map Value.string⟩ : Rw), (⟨9, 1, (.slice o12 d.oys.length p12), d.oys.length, d.oys.map Value.string⟩ : Rw), (⟨68, 2, (.slice o14 d.ofs.length p14), d.ofs.length, flatF d.ofs⟩ : Rw)])) := HRN.out
  clear HRN
  clear cv1_10 cv1_11 cv1_12 cv1_13 cv1_14 cv1_15 cv1_16
  have cv3_10 : (w16).cell? ⟨qv3, 10, none⟩ = some (.string ⟨#[]⟩) := (cell_of HBv3_16.out 10).trans rfl
  have fcv3_10 : (w16).frozen? ⟨qv3, 10, none⟩ = false := frozen_of HBv3_16.out 10
  have cv3_11 : (w16).cell? ⟨qv3, 11, none⟩ = some (.slice none 0 0) := (cell_of HBv3_16.out 11).trans rfl
  have fcv3_11 : (w16).frozen? ⟨qv3, 11, none⟩ = false := frozen_of HBv3_16.out 11
  have cv3_12 : (w16).cell? ⟨qv3, 12, none⟩ = some (.slice none 0 0) := (cell_of HBv3_16.out 12).trans rfl
  have fcv3_12 : (w16).frozen? ⟨qv3, 12, none⟩ = false := frozen_of HBv3_16.out 12
  have cv3_13 : (w16).cell? ⟨qv3, 13, none⟩ = some (.int .i64 0) := (cell_of HBv3_16.out 13).trans rfl
  have fcv3_13 : (w16).frozen? ⟨qv3, 13, none⟩ = false := frozen_of HBv3_16.out 13
  have cv3_14 : (w16).cell? ⟨qv3, 14, none⟩ = some (.slice none 0 0) := (cell_of HBv3_16.out 14).trans rfl
  have fcv3_14 : (w16).frozen? ⟨qv3, 14, none⟩ = false := frozen_of HBv3_16.out 14
  have cv3_15 : (w16).cell? ⟨qv3, 15, none⟩ = some (.string ⟨#[]⟩) := (cell_of HBv3_16.out 15).trans rfl
  have fcv3_15 : (w16).frozen? ⟨qv3, 15, none⟩ = false := frozen_of HBv3_16.out 15
  have cv3_16 : (w16).cell? ⟨qv3, 16, none⟩ = some (.int .i64 0) := (cell_of HBv3_16.out 16).trans rfl
  have fcv3_16 : (w16).frozen? ⟨qv3, 16, none⟩ = false := frozen_of HBv3_16.out 16
  go_upto_region 8 with fail
  obtain ⟨w17, hW17⟩ : ∃ W, W = (w16).setCell ⟨qv3, 10, none⟩ (.string d.opa) := ⟨_, rfl⟩
  rw [← hW17]
  have hb17 : Below w.heap.size w (w17) := by rw [hW17]; exact (hb16.setCell (p := ⟨qv3, 10, none⟩) HGv3.out _)
  have HBv1_17 : Hid ((w17).heap[qv1]? = some (.cells #[.int .i64 d.cli, .int .i64 d.qmt, .string d.qpa, .slice a3 d.qfs.length c3, .string d.qbd, .int .i64 d.rst, .slice a6 d.rfs.length c6, .string d.rbd, .int .i64 d.knd, .int .i64 d.tim, .string d.opa, .slice a11 d.oxs.length c11, .slice a12 d.oys.length c12, .int .i64 d.ost, .slice a14 d.ofs.length c14, .string d.obd, .int .i64 d.otm, .int .i64 d.bns] 31)) := by show _ = _; rw [hW17, heap_setCell_other _ _ _ _ HNv1v3.out]; exact HBv1_16.out
  have HBv2_17 : Hid ((w17).heap[qv2]? = some (.cells #[.int .i64 0, .int .i64 0, .string ⟨#[]⟩, .slice none 0 0, .string ⟨#[]⟩, .int .i64 0, .slice none 0 0, .string ⟨#[]⟩, .int .i64 0, .int .i64 0, .string ⟨#[]⟩, .slice none 0 0, .slice none 0 0, .int .i64 0, .slice none 0 0, .string ⟨#[]⟩, .int .i64 0, .int .i64 0] 42)) := by show _ = _; rw [hW17, heap_setCell_other _ _ _ _ HNv2v3.out]; exact HBv2_16.out
  have ER_17 : Hid (RowsO (w17) w.heap.size ([(⟨68, 2, (.slice o3 d.qfs.length p3), d.qfs.length, flatF d.qfs⟩ : Rw), (⟨68, 2, (.slice o6 d.rfs.length p6), d.rfs.length, flatF d.rfs⟩ : Rw), (⟨9, 1, (.slice o11 d.oxs.length p11), d.oxs.length, d.oxs.map Value.string⟩ : Rw), (⟨9, 1, (.slice o12 d.oys.length p12), d.oys.length, d.oys.map Value.string⟩ : Rw), (⟨68, 2, (.slice o14 d.ofs.length p14), d.ofs.length, flatF d.ofs⟩ : Rw)])) := by show RowsO _ _ _; rw [hW17]; exact RowsO.other ER_16.out HBv3_16.out HT5.out
  have HBv3_17 : Hid ((w17).heap[qv3]? = some (.cells #[.int .i64 d.cli, .int .i64 d.qmt, .string d.qpa, .slice o3 d.qfs.length p3, .string d.qbd, .int .i64 d.rst, .slice o6 d.rfs.length p6, .string d.rbd, .int .i64 d.knd, .int .i64 d.tim, .string d.opa, .slice none 0 0, .slice none 0 0, .int .i64 0, .slice none 0 0, .string ⟨#[]⟩, .int .i64 0, .int .i64 0] 42)) := by show _ = _; rw [hW17]; have h := heap_set _ _ 10 _ _ _ (.string d.opa) HBv3_16.out; simpa using h
  clear hb16 HBv1_16 HBv2_16 HBv3_16 ER_16 hW17
  obtain ⟨w18, hW18⟩ : ∃ W, W = (w17).setCell ⟨qv3, 11, none⟩ (.slice o11 d.oxs.length p11) := ⟨_, rfl⟩
  rw [← hW18]
  have hb18 : Below w.heap.size w (w18) := by rw [hW18]; exact (hb17.setCell (p := ⟨qv3, 11, none⟩) HGv3.out _)
  have HBv1_18 : Hid ((w18).heap[qv1]? = some (.cells #[.int .i64 d.cli, .int .i64 d.qmt, .string d.qpa, .slice a3 d.qfs.length c3, .string d.qbd, .int .i64 d.rst, .slice a6 d.rfs.length c6, .string d.rbd, .int .i64 d.knd, .int .i64 d.tim, .string d.opa, .slice a11 d.oxs.length c11, .slice a12 d.oys.length c12, .int .i64 d.ost, .slice a14 d.ofs.length c14, .string d.obd, .int .i64 d.otm, .int .i64 d.bns] 31)) := by show _ = _; rw [hW18, heap_setCell_other _ _ _ _ HNv1v3.out]; exact HBv1_17.out
  have HBv2_18 : Hid ((w18).heap[qv2]? = some (.cells #[.int .i64 0, .int .i64 0, .string ⟨#[]⟩, .slice none 0 0, .string ⟨#[]⟩, .int .i64 0, .slice none 0 0, .string ⟨#[]⟩, .int .i64 0, .int .i64 0, .string ⟨#[]⟩, .slice none 0 0, .slice none 0 0, .int .i64 0, .slice none 0 0, .string ⟨#[]⟩, .int .i64 0, .int .i64 0] 42)) := by show _ = _; rw [hW18, heap_setCell_other _ _ _ _ HNv2v3.out]; exact HBv2_17.out
  have ER_18 : Hid (RowsO (w18) w.heap.size ([(⟨68, 2, (.slice o3 d.qfs.length p3), d.qfs.length, flatF d.qfs⟩ : Rw), (⟨68, 2, (.slice o6 d.rfs.length p6), d.rfs.length, flatF d.rfs⟩ : Rw), (⟨9, 1, (.slice o11 d.oxs.length p11), d.oxs.length, d.oxs.map Value.string⟩ : Rw), (⟨9, 1, (.slice o12 d.oys.length p12), d.oys.length, d.oys.map Value.string⟩ : Rw), (⟨68, 2, (.slice o14 d.ofs.length p14), d.ofs.length, flatF d.ofs⟩ : Rw)])) := by show RowsO _ _ _; rw [hW18]; exact RowsO.other ER_17.out HBv3_17.out HT5.out
  have HBv3_18 : Hid ((w18).heap[qv3]? = some (.cells #[.int .i64 d.cli, .int .i64 d.qmt, .string d.qpa, .slice o3 d.qfs.length p3, .string d.qbd, .int .i64 d.rst, .slice o6 d.rfs.length p6, .string d.rbd, .int .i64 d.knd, .int .i64 d.tim, .string d.opa, .slice o11 d.oxs.length p11, .slice none 0 0, .int .i64 0, .slice none 0 0, .string ⟨#[]⟩, .int .i64 0, .int .i64 0] 42)) := by show _ = _; rw [hW18]; have h := heap_set _ _ 11 _ _ _ (.slice o11 d.oxs.length p11) HBv3_17.out; simpa using h
  clear hb17 HBv1_17 HBv2_17 HBv3_17 ER_17 hW18
  obtain ⟨w19, hW19⟩ : ∃ W, W = (w18).setCell ⟨qv3, 12, none⟩ (.slice o12 d.oys.length p12) := ⟨_, rfl⟩
  rw [← hW19]
  have hb19 : Below w.heap.size w (w19) := by rw [hW19]; exact (hb18.setCell (p := ⟨qv3, 12, none⟩) HGv3.out _)
  have HBv1_19 : Hid ((w19).heap[qv1]? = some (.cells #[.int .i64 d.cli, .int .i64 d.qmt, .string d.qpa, .slice a3 d.qfs.length c3, .string d.qbd, .int .i64 d.rst, .slice a6 d.rfs.length c6, .string d.rbd, .int .i64 d.knd, .int .i64 d.tim, .string d.opa, .slice a11 d.oxs.length c11, .slice a12 d.oys.length c12, .int .i64 d.ost, .slice a14 d.ofs.length c14, .string d.obd, .int .i64 d.otm, .int .i64 d.bns] 31)) := by show _ = _; rw [hW19, heap_setCell_other _ _ _ _ HNv1v3.out]; exact HBv1_18.out
  have HBv2_19 : Hid ((w19).heap[qv2]? = some (.cells #[.int .i64 0, .int .i64 0, .string ⟨#[]⟩, .slice none 0 0, .string ⟨#[]⟩, .int .i64 0, .slice none 0 0, .string ⟨#[]⟩, .int .i64 0, .int .i64 0, .string ⟨#[]⟩, .slice none 0 0, .slice none 0 0, .int .i64 0, .slice none 0 0, .string ⟨#[]⟩, .int .i64 0, .int .i64 0] 42)) := by show _ = _; rw [hW19, heap_setCell_other _ _ _ _ HNv2v3.out]; exact HBv2_18.out
  have ER_19 : Hid (RowsO (w19) w.heap.size ([(⟨68, 2, (.slice o3 d.qfs.length p3), d.qfs.length, flatF d.qfs⟩ : Rw), (⟨68, 2, (.slice o6 d.rfs.length p6), d.rfs.length, flatF d.rfs⟩ : Rw), (⟨9, 1, (.slice o11 d.oxs.length p11), d.oxs.length, d.oxs.map Value.string⟩ : Rw), (⟨9, 1, (.slice o12 d.oys.length p12), d.oys.length, d.oys.map Value.string⟩ : Rw), (⟨68, 2, (.slice o14 d.ofs.length p14), d.ofs.length, flatF d.ofs⟩ : Rw)])) := by show RowsO _ _ _; rw [hW19]; exact RowsO.other ER_18.out HBv3_18.out HT5.out
  have HBv3_19 : Hid ((w19).heap[qv3]? = some (.cells #[.int .i64 d.cli, .int .i64 d.qmt, .string d.qpa, .slice o3 d.qfs.length p3, .string d.qbd, .int .i64 d.rst, .slice o6 d.rfs.length p6, .string d.rbd, .int .i64 d.knd, .int .i64 d.tim, .string d.opa, .slice o11 d.oxs.length p11, .slice o12 d.oys.length p12, .int .i64 0, .slice none 0 0, .string ⟨#[]⟩, .int .i64 0, .int .i64 0] 42)) := by show _ = _; rw [hW19]; have h := heap_set _ _ 12 _ _ _ (.slice o12 d.oys.length p12) HBv3_18.out; simpa using h
  clear hb18 HBv1_18 HBv2_18 HBv3_18 ER_18 hW19
  obtain ⟨w20, hW20⟩ : ∃ W, W = (w19).setCell ⟨qv3, 13, none⟩ (.int .i64 d.ost) := ⟨_, rfl⟩
  rw [← hW20]
  have hb20 : Below w.heap.size w (w20) := by rw [hW20]; exact (hb19.setCell (p := ⟨qv3, 13, none⟩) HGv3.out _)
  have HBv1_20 : Hid ((w20).heap[qv1]? = some (.cells #[.int .i64 d.cli, .int .i64 d.qmt, .string d.qpa, .slice a3 d.qfs.length c3, .string d.qbd, .int .i64 d.rst, .slice a6 d.rfs.length c6, .string d.rbd, .int .i64 d.knd, .int .i64 d.tim, .string d.opa, .slice a11 d.oxs.length c11, .slice a12 d.oys.length c12, .int .i64 d.ost, .slice a14 d.ofs.length c14, .string d.obd, .int .i64 d.otm, .int .i64 d.bns] 31)) := by show _ = _; rw [hW20, heap_setCell_other _ _ _ _ HNv1v3.out]; exact HBv1_19.out
  have HBv2_20 : Hid ((w20).heap[qv2]? = some (.cells #[.int .i64 0, .int .i64 0, .string ⟨#[]⟩, .slice none 0 0, .string ⟨#[]⟩, .int .i64 0, .slice none 0 0, .string ⟨#[]⟩, .int .i64 0, .int .i64 0, .string ⟨#[]⟩, .slice none 0 0, .slice none 0 0, .int .i64 0, .slice none 0 0, .string ⟨#[]⟩, .int .i64 0, .int .i64 0] 42)) := by show _ = _; rw [hW20, heap_setCell_other _ _ _ _ HNv2v3.out]; exact HBv2_19.out
  have ER_20 : Hid (RowsO (w20) w.heap.size ([(⟨68, 2, (.slice o3 d.qfs.length p3), d.qfs.length, flatF d.qfs⟩ : Rw), (⟨68, 2, (.slice o6 d.rfs.length p6), d.rfs.length, flatF d.rfs⟩ : Rw), (⟨9, 1, (.slice o11 d.oxs.length p11), d.oxs.length, d.oxs.map Value.string⟩ : Rw), (⟨9, 1, (.slice o12 d.oys.length p12), d.oys.length, d.oys.map Value.string⟩ : Rw), (⟨68, 2, (.slice o14 d.ofs.length p14), d.ofs.length, flatF d.ofs⟩ : Rw)])) := by show RowsO _ _ _; rw [hW20]; exact RowsO.other ER_19.out HBv3_19.out HT5.out
  have HBv3_20 : Hid ((w20).heap[qv3]? = some (.cells #[.int .i64 d.cli, .int .i64 d.qmt, .string d.qpa, .slice o3 d.qfs.length p3, .string d.qbd, .int .i64 d.rst, .slice o6 d.rfs.length p6, .string d.rbd, .int .i64 d.knd, .int .i64 d.tim, .string d.opa, .slice o11 d.oxs.length p11, .slice o12 d.oys.length p12, .int .i64 d.ost, .slice none 0 0, .string ⟨#[]⟩, .int .i64 0, .int .i64 0] 42)) := by show _ = _; rw [hW20]; have h := heap_set _ _ 13 _ _ _ (.int .i64 d.ost) HBv3_19.out; simpa using h
  clear hb19 HBv1_19 HBv2_19 HBv3_19 ER_19 hW20
  obtain ⟨w21, hW21⟩ : ∃ W, W = (w20).setCell ⟨qv3, 14, none⟩ (.slice o14 d.ofs.length p14) := ⟨_, rfl⟩
  rw [← hW21]
  have hb21 : Below w.heap.size w (w21) := by rw [hW21]; exact (hb20.setCell (p := ⟨qv3, 14, none⟩) HGv3.out _)
  have HBv1_21 : Hid ((w21).heap[qv1]? = some (.cells #[.int .i64 d.cli, .int .i64 d.qmt, .string d.qpa, .slice a3 d.qfs.length c3, .string d.qbd, .int .i64 d.rst, .slice a6 d.rfs.length c6, .string d.rbd, .int .i64 d.knd, .int .i64 d.tim, .string d.opa, .slice a11 d.oxs.length c11, .slice a12 d.oys.length c12, .int .i64 d.ost, .slice a14 d.ofs.length c14, .string d.obd, .int .i64 d.otm, .int .i64 d.bns] 31)) := by show _ = _; rw [hW21, heap_setCell_other _ _ _ _ HNv1v3.out]; exact HBv1_20.out
  have HBv2_21 : Hid ((w21).heap[qv2]? = some (.cells #[.int .i64 0, .int .i64 0, .string ⟨#[]⟩, .slice none 0 0, .string ⟨#[]⟩, .int .i64 0, .slice none 0 0, .string ⟨#[]⟩, .int .i64 0, .int .i64 0, .string ⟨#[]⟩, .slice none 0 0, .slice none 0 0, .int .i64 0, .slice none 0 0, .string ⟨#[]⟩, .int .i64 0, .int .i64 0] 42)) := by show _ = _; rw [hW21, heap_setCell_other _ _ _ _ HNv2v3.out]; exact HBv2_20.out
  have ER_21 : Hid (RowsO (w21) w.heap.size ([(⟨68, 2, (.slice o3 d.qfs.length p3), d.qfs.length, flatF d.qfs⟩ : Rw), (⟨68, 2, (.slice o6 d.rfs.length p6), d.rfs.length, flatF d.rfs⟩ : Rw), (⟨9, 1, (.slice o11 d.oxs.length p11), d.oxs.length, d.oxs.map Value.string⟩ : Rw), (⟨9, 1, (.slice o12 d.oys.length p12), d.oys.length, d.oys.map Value.string⟩ : Rw), (⟨68, 2, (.slice o14 d.ofs.length p14), d.ofs.length, flatF d.ofs⟩ : Rw)])) := by show RowsO _ _ _; rw [hW21]; exact RowsO.other ER_20.out HBv3_20.out HT5.out
  have HBv3_21 : Hid ((w21).heap[qv3]? = some (.cells #[.int .i64 d.cli, .int .i64 d.qmt, .string d.qpa, .slice o3 d.qfs.length p3, .string d.qbd, .int .i64 d.rst, .slice o6 d.rfs.length p6, .string d.rbd, .int .i64 d.knd, .int .i64 d.tim, .string d.opa, .slice o11 d.oxs.length p11, .slice o12 d.oys.length p12, .int .i64 d.ost, .slice o14 d.ofs.length p14, .string ⟨#[]⟩, .int .i64 0, .int .i64 0] 42)) := by show _ = _; rw [hW21]; have h := heap_set _ _ 14 _ _ _ (.slice o14 d.ofs.length p14) HBv3_20.out; simpa using h
  clear hb20 HBv1_20 HBv2_20 HBv3_20 ER_20 hW21
  obtain ⟨w22, hW22⟩ : ∃ W, W = (w21).setCell ⟨qv3, 15, none⟩ (.string d.obd) := ⟨_, rfl⟩
  rw [← hW22]
  have hb22 : Below w.heap.size w (w22) := by rw [hW22]; exact (hb21.setCell (p := ⟨qv3, 15, none⟩) HGv3.out _)
  have HBv1_22 : Hid ((w22).heap[qv1]? = some (.cells #[.int .i64 d.cli, .int .i64 d.qmt, .string d.qpa, .slice a3 d.qfs.length c3, .string d.qbd, .int .i64 d.rst, .slice a6 d.rfs.length c6, .string d.rbd, .int .i64 d.knd, .int .i64 d.tim, .string d.opa, .slice a11 d.oxs.length c11, .slice a12 d.oys.length c12, .int .i64 d.ost, .slice a14 d.ofs.length c14, .string d.obd, .int .i64 d.otm, .int .i64 d.bns] 31)) := by show _ = _; rw [hW22, heap_setCell_other _ _ _ _ HNv1v3.out]; exact HBv1_21.out
  have HBv2_22 : Hid ((w22).heap[qv2]? = some (.cells #[.int .i64 0, .int .i64 0, .string ⟨#[]⟩, .slice none 0 0, .string ⟨#[]⟩, .int .i64 0, .slice none 0 0, .string ⟨#[]⟩, .int .i64 0, .int .i64 0, .string ⟨#[]⟩, .slice none 0 0, .slice none 0 0, .int .i64 0, .slice none 0 0, .string ⟨#[]⟩, .int .i64 0, .int .i64 0] 42)) := by show _ = _; rw [hW22, heap_setCell_other _ _ _ _ HNv2v3.out]; exact HBv2_21.out
  have ER_22 : Hid (RowsO (w22) w.heap.size ([(⟨68, 2, (.slice o3 d.qfs.length p3), d.qfs.length, flatF d.qfs⟩ : Rw), (⟨68, 2, (.slice o6 d.rfs.length p6), d.rfs.length, flatF d.rfs⟩ : Rw), (⟨9, 1, (.slice o11 d.oxs.length p11), d.oxs.length, d.oxs.map Value.string⟩ : Rw), (⟨9, 1, (.slice o12 d.oys.length p12), d.oys.length, d.oys.map Value.string⟩ : Rw), (⟨68, 2, (.slice o14 d.ofs.length p14), d.ofs.length, flatF d.ofs⟩ : Rw)])) := by show RowsO _ _ _; rw [hW22]; exact RowsO.other ER_21.out HBv3_21.out HT5.out
  have HBv3_22 : Hid ((w22).heap[qv3]? = some (.cells #[.int .i64 d.cli, .int .i64 d.qmt, .string d.qpa, .slice o3 d.qfs.length p3, .string d.qbd, .int .i64 d.rst, .slice o6 d.rfs.length p6, .string d.rbd, .int .i64 d.knd, .int .i64 d.tim, .string d.opa, .slice o11 d.oxs.length p11, .slice o12 d.oys.length p12, .int .i64 d.ost, .slice o14 d.ofs.length p14, .string d.obd, .int .i64 0, .int .i64 0] 42)) := by show _ = _; rw [hW22]; have h := heap_set _ _ 15 _ _ _ (.string d.obd) HBv3_21.out; simpa using h
  clear hb21 HBv1_21 HBv2_21 HBv3_21 ER_21 hW22
  obtain ⟨w23, hW23⟩ : ∃ W, W = (w22).setCell ⟨qv3, 16, none⟩ (.int .i64 d.otm) := ⟨_, rfl⟩
  rw [← hW23]
  have hb23 : Below w.heap.size w (w23) := by rw [hW23]; exact (hb22.setCell (p := ⟨qv3, 16, none⟩) HGv3.out _)
  have HBv1_23 : Hid ((w23).heap[qv1]? = some (.cells #[.int .i64 d.cli, .int .i64 d.qmt, .string d.qpa, .slice a3 d.qfs.length c3, .string d.qbd, .int .i64 d.rst, .slice a6 d.rfs.length c6, .string d.rbd, .int .i64 d.knd, .int .i64 d.tim, .string d.opa, .slice a11 d.oxs.length c11, .slice a12 d.oys.length c12, .int .i64 d.ost, .slice a14 d.ofs.length c14, .string d.obd, .int .i64 d.otm, .int .i64 d.bns] 31)) := by show _ = _; rw [hW23, heap_setCell_other _ _ _ _ HNv1v3.out]; exact HBv1_22.out
  have HBv2_23 : Hid ((w23).heap[qv2]? = some (.cells #[.int .i64 0, .int .i64 0, .string ⟨#[]⟩, .slice none 0 0, .string ⟨#[]⟩, .int .i64 0, .slice none 0 0, .string ⟨#[]⟩, .int .i64 0, .int .i64 0, .string ⟨#[]⟩, .slice none 0 0, .slice none 0 0, .int .i64 0, .slice none 0 0, .string ⟨#[]⟩, .int .i64 0, .int .i64 0] 42)) := by show _ = _; rw [hW23, heap_setCell_other _ _ _ _ HNv2v3.out]; exact HBv2_22.out
  have ER_23 : Hid (RowsO (w23) w.heap.size ([(⟨68, 2, (.slice o3 d.qfs.length p3), d.qfs.length, flatF d.qfs⟩ : Rw), (⟨68, 2, (.slice o6 d.rfs.length p6), d.rfs.length, flatF d.rfs⟩ : Rw), (⟨9, 1, (.slice o11 d.oxs.length p11), d.oxs.length, d.oxs.map Value.string⟩ : Rw), (⟨9, 1, (.slice o12 d.oys.length p12), d.oys.length, d.oys.map Value.string⟩ : Rw), (⟨68, 2, (.slice o14 d.ofs.length p14), d.ofs.length, flatF d.ofs⟩ : Rw)])) := by show RowsO _ _ _; rw [hW23]; exact RowsO.other ER_22.out HBv3_22.out HT5.out
  have HBv3_23 : Hid ((w23).heap[qv3]? = some (.cells #[.int .i64 d.cli, .int .i64 d.qmt, .string d.qpa, .slice o3 d.qfs.length p3, .string d.qbd, .int .i64 d.rst, .slice o6 d.rfs.length p6, .string d.rbd, .int .i64 d.knd, .int .i64 d.tim, .string d.opa, .slice o11 d.oxs.length p11, .slice o12 d.oys.length p12, .int .i64 d.ost, .slice o14 d.ofs.length p14, .string d.obd, .int .i64 d.otm, .int .i64 0] 42)) := by show _ = _; rw [hW23]; have h := heap_set _ _ 16 _ _ _ (.int .i64 d.otm) HBv3_22.out; simpa using h
  clear hb22 HBv1_22 HBv2_22 HBv3_22 ER_22 hW23
  clear cv3_10 fcv3_10 cv3_11 fcv3_11 cv3_12 fcv3_12 cv3_13 fcv3_13 cv3_14 fcv3_14 cv3_15 fcv3_15 cv3_16 fcv3_16
  have cv1_17 : (w23).cell? ⟨qv1, 17, none⟩ = some (.int .i64 d.bns) := (cell_of HBv1_23.out 17).trans rfl
  have cv3_17 : (w23).cell? ⟨qv3, 17, none⟩ = some (.int .i64 0) := (cell_of HBv3_23.out 17).trans rfl
  have fcv3_17 : (w23).frozen? ⟨qv3, 17, none⟩ = false := frozen_of HBv3_23.out 17
  go_upto_region 9 with fail
  obtain ⟨w24, hW24⟩ : ∃ W, W = (w23).setCell ⟨qv3, 17, none⟩ (.int .i64 d.bns) := ⟨_, rfl⟩
  rw [← hW24]
  have hb24 : Below w.heap.size w (w24) := by rw [hW24]; exact (hb23.setCell (p := ⟨qv3, 17, none⟩) HGv3.out _)
  have HBv1_24 : Hid ((w24).heap[qv1]? = some (.cells #[.int .i64 d.cli, .int .i64 d.qmt, .string d.qpa, .slice a3 d.qfs.length c3, .string d.qbd, .int .i64 d.rst, .slice a6 d.rfs.length c6, .string d.rbd, .int .i64 d.knd, .int .i64 d.tim, .string d.opa, .slice a11 d.oxs.length c11, .slice a12 d.oys.length c12, .int .i64 d.ost, .slice a14 d.ofs.length c14, .string d.obd, .int .i64 d.otm, .int .i64 d.bns] 31)) := by show _ = _; rw [hW24, heap_setCell_other _ _ _ _ HNv1v3.out]; exact HBv1_23.out
  have HBv2_24 : Hid ((w24).heap[qv2]? = some (.cells #[.int .i64 0, .int .i64 0, .string ⟨#[]⟩, .slice none 0 0, .string ⟨#[]⟩, .int .i64 0, .slice none 0 0, .string ⟨#[]⟩, .int .i64 0, .int .i64 0, .string ⟨#[]⟩, .slice none 0 0, .slice none 0 0, .int .i64 0, .slice none 0 0, .string ⟨#[]⟩, .int .i64 0, .int .i64 0] 42)) := by show _ = _; rw [hW24, heap_setCell_other _ _ _ _ HNv2v3.out]; exact HBv2_23.out
  have ER_24 : Hid (RowsO (w24) w.heap.size ([(⟨68, 2, (.slice o3 d.qfs.length p3), d.qfs.length, flatF d.qfs⟩ : Rw), (⟨68, 2, (.slice o6 d.rfs.length p6), d.rfs.length, flatF d.rfs⟩ : Rw), (⟨9, 1, (.slice o11 d.oxs.length p11), d.oxs.length, d.oxs.map Value.string⟩ : Rw), (⟨9, 1, (.slice o12 d.oys.length p12), d.oys.length, d.oys.map Value.string⟩ : Rw), (⟨68, 2, (.slice o14 d.ofs.length p14), d.ofs.length, flatF d.ofs⟩ : Rw)])) := by show RowsO _ _ _; rw [hW24]; exact RowsO.other ER_23.out HBv3_23.out HT5.out
  have HBv3_24 : Hid ((w24).heap[qv3]? = some (.cells #[.int .i64 d.cli, .int .i64 d.qmt, .string d.qpa, .slice o3 d.qfs.length p3, .string d.qbd, .int .i64 d.rst, .slice o6 d.rfs.length p6, .string d.rbd, .int .i64 d.knd, .int .i64 d.tim, .string d.opa, .slice o11 d.oxs.length p11, .slice o12 d.oys.length p12, .int .i64 d.ost, .slice o14 d.ofs.length p14, .string d.obd, .int .i64 d.otm, .int .i64 d.bns] 42)) := by show _ = _; rw [hW24]; have h := heap_set _ _ 17 _ _ _ (.int .i64 d.bns) HBv3_23.out; simpa using h
  clear hb23 HBv1_23 HBv2_23 HBv3_23 ER_23 hW24
  clear cv1_17 cv3_17 fcv3_17
  have HRGv3 : World.rangeAt (w24) qv3 0 [.int .i64 d.cli, .int .i64 d.qmt, .string d.qpa, .slice o3 d.qfs.length p3, .string d.qbd, .int .i64 d.rst, .slice o6 d.rfs.length p6, .string d.rbd, .int .i64 d.knd, .int .i64 d.tim, .string d.opa, .slice o11 d.oxs.length p11, .slice o12 d.oys.length p12, .int .i64 d.ost, .slice o14 d.ofs.length p14, .string d.obd, .int .i64 d.otm, .int .i64 d.bns] := range_of HBv3_24.out
  have HIFv3 : (Tryd.prog.info? 42).map (·.size) = some 18 := by kernel_rfl
  have cv2_0 : (w24).cell? ⟨qv2, 0, none⟩ = some (.int .i64 0) := (cell_of HBv2_24.out 0).trans rfl
  have fcv2_0 : (w24).frozen? ⟨qv2, 0, none⟩ = false := frozen_of HBv2_24.out 0
  have cv2_1 : (w24).cell? ⟨qv2, 1, none⟩ = some (.int .i64 0) := (cell_of HBv2_24.out 1).trans rfl
  have fcv2_1 : (w24).frozen? ⟨qv2, 1, none⟩ = false := frozen_of HBv2_24.out 1
  have cv2_2 : (w24).cell? ⟨qv2, 2, none⟩ = some (.string ⟨#[]⟩) := (cell_of HBv2_24.out 2).trans rfl
  have fcv2_2 : (w24).frozen? ⟨qv2, 2, none⟩ = false := frozen_of HBv2_24.out 2
  have cv2_3 : (w24).cell? ⟨qv2, 3, none⟩ = some (.slice none 0 0) := (cell_of HBv2_24.out 3).trans rfl
  have fcv2_3 : (w24).frozen? ⟨qv2, 3, none⟩ = false := frozen_of HBv2_24.out 3
  have cv2_4 : (w24).cell? ⟨qv2, 4, none⟩ = some (.string ⟨#[]⟩) := (cell_of HBv2_24.out 4).trans rfl
  have fcv2_4 : (w24).frozen? ⟨qv2, 4, none⟩ = false := frozen_of HBv2_24.out 4
  have cv2_5 : (w24).cell? ⟨qv2, 5, none⟩ = some (.int .i64 0) := (cell_of HBv2_24.out 5).trans rfl
  have fcv2_5 : (w24).frozen? ⟨qv2, 5, none⟩ = false := frozen_of HBv2_24.out 5
  have cv2_6 : (w24).cell? ⟨qv2, 6, none⟩ = some (.slice none 0 0) := (cell_of HBv2_24.out 6).trans rfl
  have fcv2_6 : (w24).frozen? ⟨qv2, 6, none⟩ = false := frozen_of HBv2_24.out 6
  have cv2_7 : (w24).cell? ⟨qv2, 7, none⟩ = some (.string ⟨#[]⟩) := (cell_of HBv2_24.out 7).trans rfl
  have fcv2_7 : (w24).frozen? ⟨qv2, 7, none⟩ = false := frozen_of HBv2_24.out 7
  have cv2_8 : (w24).cell? ⟨qv2, 8, none⟩ = some (.int .i64 0) := (cell_of HBv2_24.out 8).trans rfl
  have fcv2_8 : (w24).frozen? ⟨qv2, 8, none⟩ = false := frozen_of HBv2_24.out 8
  have cv2_9 : (w24).cell? ⟨qv2, 9, none⟩ = some (.int .i64 0) := (cell_of HBv2_24.out 9).trans rfl
  have fcv2_9 : (w24).frozen? ⟨qv2, 9, none⟩ = false := frozen_of HBv2_24.out 9
  have cv2_10 : (w24).cell? ⟨qv2, 10, none⟩ = some (.string ⟨#[]⟩) := (cell_of HBv2_24.out 10).trans rfl
  have fcv2_10 : (w24).frozen? ⟨qv2, 10, none⟩ = false := frozen_of HBv2_24.out 10
  have cv2_11 : (w24).cell? ⟨qv2, 11, none⟩ = some (.slice none 0 0) := (cell_of HBv2_24.out 11).trans rfl
  have fcv2_11 : (w24).frozen? ⟨qv2, 11, none⟩ = false := frozen_of HBv2_24.out 11
  have cv2_12 : (w24).cell? ⟨qv2, 12, none⟩ = some (.slice none 0 0) := (cell_of HBv2_24.out 12).trans rfl
  have fcv2_12 : (w24).frozen? ⟨qv2, 12, none⟩ = false := frozen_of HBv2_24.out 12
  have cv2_13 : (w24).cell? ⟨qv2, 13, none⟩ = some (.int .i64 0) := (cell_of HBv2_24.out 13).trans rfl
  have fcv2_13 : (w24).frozen? ⟨qv2, 13, none⟩ = false := frozen_of HBv2_24.out 13
  have cv2_14 : (w24).cell? ⟨qv2, 14, none⟩ = some (.slice none 0 0) := (cell_of HBv2_24.out 14).trans rfl
  have fcv2_14 : (w24).frozen? ⟨qv2, 14, none⟩ = false := frozen_of HBv2_24.out 14
  have cv2_15 : (w24).cell? ⟨qv2, 15, none⟩ = some (.string ⟨#[]⟩) := (cell_of HBv2_24.out 15).trans rfl
  have fcv2_15 : (w24).frozen? ⟨qv2, 15, none⟩ = false := frozen_of HBv2_24.out 15
  have cv2_16 : (w24).cell? ⟨qv2, 16, none⟩ = some (.int .i64 0) := (cell_of HBv2_24.out 16).trans rfl
  have fcv2_16 : (w24).frozen? ⟨qv2, 16, none⟩ = false := frozen_of HBv2_24.out 16
  have cv2_17 : (w24).cell? ⟨qv2, 17, none⟩ = some (.int .i64 0) := (cell_of HBv2_24.out 17).trans rfl
  have fcv2_17 : (w24).frozen? ⟨qv2, 17, none⟩ = false := frozen_of HBv2_24.out 17
  have HTH : World.there (w24) qv2 0 18 := there_of HBv2_24.out rfl
  have HIF : (Tryd.prog.info? 42).map (·.size) = some 18 := by kernel_rfl
  have HRG : World.rangeAt (w24) qv3 0 [.int .i64 d.cli, .int .i64 d.qmt, .string d.qpa, .slice o3 d.qfs.length p3, .string d.qbd, .int .i64 d.rst, .slice o6 d.rfs.length p6, .string d.rbd, .int .i64 d.knd, .int .i64 d.tim, .string d.opa, .slice o11 d.oxs.length p11, .slice o12 d.oys.length p12, .int .i64 d.ost, .slice o14 d.ofs.length p14, .string d.obd, .int .i64 d.otm, .int .i64 d.bns] := range_of HBv3_24.out
  go_wp2_with (first | (refine wpList_load_mid rfl 42 _ rfl qv3 0 rfl [.int .i64 d.cli, .int .i64 d.qmt, .string d.qpa, .slice o3 d.qfs.length p3, .string d.qbd, .int .i64 d.rst, .slice o6 d.rfs.length p6, .string d.rbd, .int .i64 d.knd, .int .i64 d.tim, .string d.opa, .slice o11 d.oxs.length p11, .slice o12 d.oys.length p12, .int .i64 d.ost, .slice o14 d.ofs.length p14, .string d.obd, .int .i64 d.otm, .int .i64 d.bns] _ HRG Tryd.underlying42 rfl HIF ?_) | (refine wpList_store_mid rfl 42 _ _ rfl qv2 0 #[.int .i64 d.cli, .int .i64 d.qmt, .string d.qpa, .slice o3 d.qfs.length p3, .string d.qbd, .int .i64 d.rst, .slice o6 d.rfs.length p6, .string d.rbd, .int .i64 d.knd, .int .i64 d.tim, .string d.opa, .slice o11 d.oxs.length p11, .slice o12 d.oys.length p12, .int .i64 d.ost, .slice o14 d.ofs.length p14, .string d.obd, .int .i64 d.otm, .int .i64 d.bns] rfl rfl HTH HIF (by simp [Value.oneCell']) ?_) | fail)
  clear HTH HIF HRG
  obtain ⟨w25, hW25⟩ : ∃ W, W = (w24).setCells qv2 0 [.int .i64 d.cli, .int .i64 d.qmt, .string d.qpa, .slice o3 d.qfs.length p3, .string d.qbd, .int .i64 d.rst, .slice o6 d.rfs.length p6, .string d.rbd, .int .i64 d.knd, .int .i64 d.tim, .string d.opa, .slice o11 d.oxs.length p11, .slice o12 d.oys.length p12, .int .i64 d.ost, .slice o14 d.ofs.length p14, .string d.obd, .int .i64 d.otm, .int .i64 d.bns] := ⟨_, rfl⟩
  have hWn : w25 = (((((((((((((((((((w24).setCell ⟨qv2, 0, none⟩ (.int .i64 d.cli)).setCell ⟨qv2, 1, none⟩ (.int .i64 d.qmt)).setCell ⟨qv2, 2, none⟩ (.string d.qpa)).setCell ⟨qv2, 3, none⟩ (.slice o3 d.qfs.length p3)).setCell ⟨qv2, 4, none⟩ (.string d.qbd)).setCell ⟨qv2, 5, none⟩ (.int .i64 d.rst)).setCell ⟨qv2, 6, none⟩ (.slice o6 d.rfs.length p6)).setCell ⟨qv2, 7, none⟩ (.string d.rbd)).setCell ⟨qv2, 8, none⟩ (.int .i64 d.knd)).setCell ⟨qv2, 9, none⟩ (.int .i64 d.tim)).setCell ⟨qv2, 10, none⟩ (.string d.opa)).setCell ⟨qv2, 11, none⟩ (.slice o11 d.oxs.length p11)).setCell ⟨qv2, 12, none⟩ (.slice o12 d.oys.length p12)).setCell ⟨qv2, 13, none⟩ (.int .i64 d.ost)).setCell ⟨qv2, 14, none⟩ (.slice o14 d.ofs.length p14)).setCell ⟨qv2, 15, none⟩ (.string d.obd)).setCell ⟨qv2, 16, none⟩ (.int .i64 d.otm)).setCell ⟨qv2, 17, none⟩ (.int .i64 d.bns)) := hW25
  first | rw [← hWn] | rw [← hW25]
  clear hWn
  have hb25 : Below w.heap.size w (w25) := by rw [hW25]; exact big_below HGv2.out hb24
  have HBv1_25 : Hid ((w25).heap[qv1]? = some (.cells #[.int .i64 d.cli, .int .i64 d.qmt, .string d.qpa, .slice a3 d.qfs.length c3, .string d.qbd, .int .i64 d.rst, .slice a6 d.rfs.length c6, .string d.rbd, .int .i64 d.knd, .int .i64 d.tim, .string d.opa, .slice a11 d.oxs.length c11, .slice a12 d.oys.length c12, .int .i64 d.ost, .slice a14 d.ofs.length c14, .string d.obd, .int .i64 d.otm, .int .i64 d.bns] 31)) := by show _ = _; rw [hW25, big_other HNv1v2.out]; exact HBv1_24.out
  have HBv3_25 : Hid ((w25).heap[qv3]? = some (.cells #[.int .i64 d.cli, .int .i64 d.qmt, .string d.qpa, .slice o3 d.qfs.length p3, .string d.qbd, .int .i64 d.rst, .slice o6 d.rfs.length p6, .string d.rbd, .int .i64 d.knd, .int .i64 d.tim, .string d.opa, .slice o11 d.oxs.length p11, .slice o12 d.oys.length p12, .int .i64 d.ost, .slice o14 d.ofs.length p14, .string d.obd, .int .i64 d.otm, .int .i64 d.bns] 42)) := by show _ = _; rw [hW25, big_other HNv2v3.out.symm]; exact HBv3_24.out
  have ER_25 : Hid (RowsO (w25) w.heap.size ([(⟨68, 2, (.slice o3 d.qfs.length p3), d.qfs.length, flatF d.qfs⟩ : Rw), (⟨68, 2, (.slice o6 d.rfs.length p6), d.rfs.length, flatF d.rfs⟩ : Rw), (⟨9, 1, (.slice o11 d.oxs.length p11), d.oxs.length, d.oxs.map Value.string⟩ : Rw), (⟨9, 1, (.slice o12 d.oys.length p12), d.oys.length, d.oys.map Value.string⟩ : Rw), (⟨68, 2, (.slice o14 d.ofs.length p14), d.ofs.length, flatF d.ofs⟩ : Rw)])) := by show RowsO _ _ _; rw [hW25]; exact RowsO.big ER_24.out HBv2_24.out HT5.out
  have HBv2_25 : Hid ((w25).heap[qv2]? = some (.cells #[.int .i64 d.cli, .int .i64 d.qmt, .string d.qpa, .slice o3 d.qfs.length p3, .string d.qbd, .int .i64 d.rst, .slice o6 d.rfs.length p6, .string d.rbd, .int .i64 d.knd, .int .i64 d.tim, .string d.opa, .slice o11 d.oxs.length p11, .slice o12 d.oys.length p12, .int .i64 d.ost, .slice o14 d.ofs.length p14, .string d.obd, .int .i64 d.otm, .int .i64 d.bns] 42)) := by show _ = _; rw [hW25]; exact big_block (ds := #[.int .i64 d.cli, .int .i64 d.qmt, .string d.qpa, .slice o3 d.qfs.length p3, .string d.qbd, .int .i64 d.rst, .slice o6 d.rfs.length p6, .string d.rbd, .int .i64 d.knd, .int .i64 d.tim, .string d.opa, .slice o11 d.oxs.length p11, .slice o12 d.oys.length p12, .int .i64 d.ost, .slice o14 d.ofs.length p14, .string d.obd, .int .i64 d.otm, .int .i64 d.bns]) HBv2_24.out rfl
  clear hb24 HBv1_24 HBv2_24 HBv3_24 ER_24 hW25
  clear HRGv3 HIFv3 cv2_0 fcv2_0 cv2_1 fcv2_1 cv2_2 fcv2_2 cv2_3 fcv2_3 cv2_4 fcv2_4 cv2_5 fcv2_5 cv2_6 fcv2_6 cv2_7 fcv2_7 cv2_8 fcv2_8 cv2_9 fcv2_9 cv2_10 fcv2_10 cv2_11 fcv2_11 cv2_12 fcv2_12 cv2_13 fcv2_13 cv2_14 fcv2_14 cv2_15 fcv2_15 cv2_16 fcv2_16 cv2_17 fcv2_17
  have kv2_0 : (w25).cell? ⟨qv2, 0, none⟩ = some (.int .i64 d.cli) := (cell_of HBv2_25.out 0).trans rfl
  have kv2_1 : (w25).cell? ⟨qv2, 1, none⟩ = some (.int .i64 d.qmt) := (cell_of HBv2_25.out 1).trans rfl
  have kv2_2 : (w25).cell? ⟨qv2, 2, none⟩ = some (.string d.qpa) := (cell_of HBv2_25.out 2).trans rfl
  have kv2_3 : (w25).cell? ⟨qv2, 3, none⟩ = some (.slice o3 d.qfs.length p3) := (cell_of HBv2_25.out 3).trans rfl
  have kv2_4 : (w25).cell? ⟨qv2, 4, none⟩ = some (.string d.qbd) := (cell_of HBv2_25.out 4).trans rfl
  have kv2_5 : (w25).cell? ⟨qv2, 5, none⟩ = some (.int .i64 d.rst) := (cell_of HBv2_25.out 5).trans rfl
  have kv2_6 : (w25).cell? ⟨qv2, 6, none⟩ = some (.slice o6 d.rfs.length p6) := (cell_of HBv2_25.out 6).trans rfl
  have kv2_7 : (w25).cell? ⟨qv2, 7, none⟩ = some (.string d.rbd) := (cell_of HBv2_25.out 7).trans rfl
  have kv2_8 : (w25).cell? ⟨qv2, 8, none⟩ = some (.int .i64 d.knd) := (cell_of HBv2_25.out 8).trans rfl
  have kv2_9 : (w25).cell? ⟨qv2, 9, none⟩ = some (.int .i64 d.tim) := (cell_of HBv2_25.out 9).trans rfl
  have kv2_10 : (w25).cell? ⟨qv2, 10, none⟩ = some (.string d.opa) := (cell_of HBv2_25.out 10).trans rfl
  have kv2_11 : (w25).cell? ⟨qv2, 11, none⟩ = some (.slice o11 d.oxs.length p11) := (cell_of HBv2_25.out 11).trans rfl
  have kv2_12 : (w25).cell? ⟨qv2, 12, none⟩ = some (.slice o12 d.oys.length p12) := (cell_of HBv2_25.out 12).trans rfl
  have kv2_13 : (w25).cell? ⟨qv2, 13, none⟩ = some (.int .i64 d.ost) := (cell_of HBv2_25.out 13).trans rfl
  have kv2_14 : (w25).cell? ⟨qv2, 14, none⟩ = some (.slice o14 d.ofs.length p14) := (cell_of HBv2_25.out 14).trans rfl
  have kv2_15 : (w25).cell? ⟨qv2, 15, none⟩ = some (.string d.obd) := (cell_of HBv2_25.out 15).trans rfl
  have kv2_16 : (w25).cell? ⟨qv2, 16, none⟩ = some (.int .i64 d.otm) := (cell_of HBv2_25.out 16).trans rfl
  have kv2_17 : (w25).cell? ⟨qv2, 17, none⟩ = some (.int .i64 d.bns) := (cell_of HBv2_25.out 17).trans rfl
  refine bodyPost_ret (v := .agg #[.int .i64 d.cli, .int .i64 d.qmt, .string d.qpa, .slice o3 d.qfs.length p3, .string d.qbd, .int .i64 d.rst, .slice o6 d.rfs.length p6, .string d.rbd, .int .i64 d.knd, .int .i64 d.tim, .string d.opa, .slice o11 d.oxs.length p11, .slice o12 d.oys.length p12, .int .i64 d.ost, .slice o14 d.ofs.length p14, .string d.obd, .int .i64 d.otm, .int .i64 d.bns]) (by simp [results, Tryd.results6, go_sem, kv2_0, kv2_1, kv2_2, kv2_3, kv2_4, kv2_5, kv2_6, kv2_7, kv2_8, kv2_9, kv2_10, kv2_11, kv2_12, kv2_13, kv2_14, kv2_15, kv2_16, kv2_17]) rfl ?_
  exact ⟨⟨d, .slice o3 d.qfs.length p3, .slice o6 d.rfs.length p6, .slice o11 d.oxs.length p11, .slice o12 d.oys.length p12, .slice o14 d.ofs.length p14⟩, rfl, rfl, ER_25.out, hb25⟩

/-- No greater than may be. -/
structure RpMax (d : RpD) : Prop where
  qpa : d.qpa.size ≤ maxLen
  qfs : d.qfs.length ≤ maxLen ∧ WalkF d.qfs.length d.qfs
  qbd : d.qbd.size ≤ maxLen
  rfs : d.rfs.length ≤ maxLen ∧ WalkF d.rfs.length d.rfs
  rbd : d.rbd.size ≤ maxLen
  opa : d.opa.size ≤ maxLen
  oxs : d.oxs.length ≤ maxLen ∧ ∀ i, i < d.oxs.length → (textAt d.oxs i).size ≤ maxLen
  oys : d.oys.length ≤ maxLen ∧ ∀ i, i < d.oys.length → (textAt d.oys i).size ≤ maxLen
  ofs : d.ofs.length ≤ maxLen ∧ WalkF d.ofs.length d.ofs
  obd : d.obd.size ≤ maxLen
  tms : -9223372036854775808 ≤ d.otm ∧ d.tim ≤ 9223372036854775807
  cls : -9223372036854775808 ≤ d.cli ∧ d.cli ≤ 9223372036854775807
  sts : -9223372036854775808 ≤ d.rst ∧ d.rst ≤ 9223372036854775807
/-- Small enough to be measured. -/
structure RpSmall (d : RpD) : Prop where
  qpa : d.qpa.size ≤ 1048576
  qfs : d.qfs.length ≤ 1048576 ∧ szTo d.qfs d.qfs.length ≤ 1048576
  qbd : d.qbd.size ≤ 1048576
  rfs : d.rfs.length ≤ 1048576 ∧ szTo d.rfs d.rfs.length ≤ 1048576
  rbd : d.rbd.size ≤ 1048576
  opa : d.opa.size ≤ 1048576
  oxs : d.oxs.length ≤ 1048576 ∧ ∀ i, i < d.oxs.length → (textAt d.oxs i).size ≤ 1048576
  oys : d.oys.length ≤ 1048576 ∧ ∀ i, i < d.oys.length → (textAt d.oys i).size ≤ 1048576
  ofs : d.ofs.length ≤ 1048576 ∧ szTo d.ofs d.ofs.length ≤ 1048576
  obd : d.obd.size ≤ 1048576
theorem RpSmall.lens {d : RpD} (h : RpSmall d) : RpLen d := ⟨h.qfs.1, h.rfs.1, h.oxs.1, h.oys.1, h.ofs.1⟩
def SzRp (L : Int) (d : RpD) (w : World) (e : Ending) (w' : World) : Prop :=
  ∃ r : Int, e = .returned (.int .i64 r) ∧ r ≤ L ∧ (0 ≤ r → r + ((d.qfs.length + d.rfs.length + d.oxs.length + d.oys.length + d.ofs.length : Nat) : Int) ≤ L ∧ RpSmall d) ∧ Below w.heap.size w w'

set_option maxHeartbeats 8000000 in
set_option maxRecDepth 100000 in
theorem szReply_any (L : Int) (hL0 : 0 ≤ L) (hL1 : L ≤ 1048576) (d : RpD) (a3 : Option Addr) (c3 : Nat) (a6 : Option Addr) (c6 : Nat) (a11 : Option Addr) (c11 : Nat) (a12 : Option Addr) (c12 : Nat) (a14 : Option Addr) (c14 : Nat) (B : Nat) (w : World) (h3 : ArgF w B a3 d.qfs.length d.qfs) (h6 : ArgF w B a6 d.rfs.length d.rfs) (h11 : ArgT w B a11 d.oxs.length d.oxs) (h12 : ArgT w B a12 d.oys.length d.oys) (h14 : ArgF w B a14 d.ofs.length d.ofs) (hB : B ≤ w.heap.size) (hm : RpMax d) :
    Calls Tryd.prog 4 #[.agg #[.int .i64 d.cli, .int .i64 d.qmt, .string d.qpa, .slice a3 d.qfs.length c3, .string d.qbd, .int .i64 d.rst, .slice a6 d.rfs.length c6, .string d.rbd, .int .i64 d.knd, .int .i64 d.tim, .string d.opa, .slice a11 d.oxs.length c11, .slice a12 d.oys.length c12, .int .i64 d.ost, .slice a14 d.ofs.length c14, .string d.obd, .int .i64 d.otm, .int .i64 d.bns], .int .i64 L] w fun e w' => SzRp L d w e w' := by
  have HA3 : Hid (∀ W, Below w.heap.size w W → ArgF W B a3 d.qfs.length d.qfs) := fun W h => h3.below (h.mono hB)
  have HA6 : Hid (∀ W, Below w.heap.size w W → ArgF W B a6 d.rfs.length d.rfs) := fun W h => h6.below (h.mono hB)
  have HA11 : Hid (∀ W, Below w.heap.size w W → ArgT W B a11 d.oxs.length d.oxs) := fun W h => h11.below (h.mono hB)
  have HA12 : Hid (∀ W, Below w.heap.size w W → ArgT W B a12 d.oys.length d.oys) := fun W h => h12.below (h.mono hB)
  have HA14 : Hid (∀ W, Below w.heap.size w W → ArgF W B a14 d.ofs.length d.ofs) := fun W h => h14.below (h.mono hB)
  have HBB : Hid (∀ W, Below w.heap.size w W → B ≤ W.heap.size) := fun W h => Nat.le_trans hB h.size
  clear h3 h6 h11 h12 h14
  have HMX : Hid (RpMax d) := hm
  clear hm
  have hb0 : Below w.heap.size w w := Below.refl _ _
  go_enter Tryd.func4, Tryd.ntmps4
  go_upto_region 1 with fail
  obtain ⟨qv1, hqv1⟩ : ∃ q, q = (w).heap.size := ⟨_, rfl⟩
  obtain ⟨w1, hW1⟩ : ∃ W, W = (w).alloc (.cells #[.int .i64 d.cli, .int .i64 d.qmt, .string d.qpa, .slice a3 d.qfs.length c3, .string d.qbd, .int .i64 d.rst, .slice a6 d.rfs.length c6, .string d.rbd, .int .i64 d.knd, .int .i64 d.tim, .string d.opa, .slice a11 d.oxs.length c11, .slice a12 d.oys.length c12, .int .i64 d.ost, .slice a14 d.ofs.length c14, .string d.obd, .int .i64 d.otm, .int .i64 d.bns] 31) := ⟨_, rfl⟩
  have hz1 : (w).heap.size = qv1 := hqv1.symm
  first | rw [← hW1, ← hqv1] | rw [← hW1]
  have hs1 : w1.heap.size = qv1 + 1 := by rw [hW1, ← hz1]; simp
  have bw : Below (w).heap.size (w) w1 := by rw [hW1]; exact (Below.refl _ _).alloc (Nat.le_refl _) _
  have hb1 : Below w.heap.size w (w1) := hb0.trans (bw.mono hb0.size)
  have HBv1_1 : Hid ((w1).heap[qv1]? = some (.cells #[.int .i64 d.cli, .int .i64 d.qmt, .string d.qpa, .slice a3 d.qfs.length c3, .string d.qbd, .int .i64 d.rst, .slice a6 d.rfs.length c6, .string d.rbd, .int .i64 d.knd, .int .i64 d.tim, .string d.opa, .slice a11 d.oxs.length c11, .slice a12 d.oys.length c12, .int .i64 d.ost, .slice a14 d.ofs.length c14, .string d.obd, .int .i64 d.otm, .int .i64 d.bns] 31)) := by show _ = _; rw [hW1, ← hz1]; exact heap_alloc_new _ _
  clear hb0 bw hW1 hz1
  clear hs1 hqv1
  have cv1_1 : (w1).cell? ⟨qv1, 1, none⟩ = some (.int .i64 d.qmt) := (cell_of HBv1_1.out 1).trans rfl
  have cv1_2 : (w1).cell? ⟨qv1, 2, none⟩ = some (.string d.qpa) := (cell_of HBv1_1.out 2).trans rfl
  have cv1_3 : (w1).cell? ⟨qv1, 3, none⟩ = some (.slice a3 d.qfs.length c3) := (cell_of HBv1_1.out 3).trans rfl
  have cv1_4 : (w1).cell? ⟨qv1, 4, none⟩ = some (.string d.qbd) := (cell_of HBv1_1.out 4).trans rfl
  go_wp2_with fail
  refine (szReq_room L (by omega) (by omega) d.qmt d.qpa a3 d.qfs.length c3 d.qbd d.qfs _ (argUpF (HA3.out _ hb1) (HBB.out _ hb1)) HMX.out.qfs.1 HMX.out.qfs.2 HMX.out.qpa HMX.out.qbd).mono ?_
  rintro e w2 ⟨r1, rfl, hl1, hr1, bw⟩
  have hb2 : Below w.heap.size w (w2) := hb1.trans (bw.mono hb1.size)
  have HBv1_2 : Hid ((w2).heap[qv1]? = some (.cells #[.int .i64 d.cli, .int .i64 d.qmt, .string d.qpa, .slice a3 d.qfs.length c3, .string d.qbd, .int .i64 d.rst, .slice a6 d.rfs.length c6, .string d.rbd, .int .i64 d.knd, .int .i64 d.tim, .string d.opa, .slice a11 d.oxs.length c11, .slice a12 d.oys.length c12, .int .i64 d.ost, .slice a14 d.ofs.length c14, .string d.obd, .int .i64 d.otm, .int .i64 d.bns] 31)) := blk_below HBv1_1.out bw
  clear hb1 HBv1_1 bw
  clear cv1_1 cv1_2 cv1_3 cv1_4
  by_cases hc1 : r1 < 0
  · clear hr1
    go_wp2_with fail
    go_ret
    exact ⟨-1, rfl, by omega, fun h => absurd h (by omega), hb2⟩
  · have HR1 : Hid _ := hr1 (by omega)
    clear hr1
    have mr1 := HR1.out.1
    have cv1_5 : (w2).cell? ⟨qv1, 5, none⟩ = some (.int .i64 d.rst) := (cell_of HBv1_2.out 5).trans rfl
    have cv1_6 : (w2).cell? ⟨qv1, 6, none⟩ = some (.slice a6 d.rfs.length c6) := (cell_of HBv1_2.out 6).trans rfl
    have cv1_7 : (w2).cell? ⟨qv1, 7, none⟩ = some (.string d.rbd) := (cell_of HBv1_2.out 7).trans rfl
    go_wp2_with fail
    refine (szResp_room r1 (by omega) (by omega) d.rst a6 d.rfs.length c6 d.rbd d.rfs _ (argUpF (HA6.out _ hb2) (HBB.out _ hb2)) HMX.out.rfs.1 HMX.out.rfs.2 HMX.out.rbd).mono ?_
    rintro e w3 ⟨r2, rfl, hl2, hr2, bw⟩
    have hb3 : Below w.heap.size w (w3) := hb2.trans (bw.mono hb2.size)
    have HBv1_3 : Hid ((w3).heap[qv1]? = some (.cells #[.int .i64 d.cli, .int .i64 d.qmt, .string d.qpa, .slice a3 d.qfs.length c3, .string d.qbd, .int .i64 d.rst, .slice a6 d.rfs.length c6, .string d.rbd, .int .i64 d.knd, .int .i64 d.tim, .string d.opa, .slice a11 d.oxs.length c11, .slice a12 d.oys.length c12, .int .i64 d.ost, .slice a14 d.ofs.length c14, .string d.obd, .int .i64 d.otm, .int .i64 d.bns] 31)) := blk_below HBv1_2.out bw
    clear hb2 HBv1_2 bw
    clear cv1_5 cv1_6 cv1_7
    by_cases hc2 : r2 < 0
    · clear hr2
      go_wp2_with fail
      go_ret
      exact ⟨-1, rfl, by omega, fun h => absurd h (by omega), hb3⟩
    · have HR2 : Hid _ := hr2 (by omega)
      clear hr2
      have mr2 := HR2.out.1
      have cv1_10 : (w3).cell? ⟨qv1, 10, none⟩ = some (.string d.opa) := (cell_of HBv1_3.out 10).trans rfl
      have cv1_11 : (w3).cell? ⟨qv1, 11, none⟩ = some (.slice a11 d.oxs.length c11) := (cell_of HBv1_3.out 11).trans rfl
      have cv1_12 : (w3).cell? ⟨qv1, 12, none⟩ = some (.slice a12 d.oys.length c12) := (cell_of HBv1_3.out 12).trans rfl
      have cv1_13 : (w3).cell? ⟨qv1, 13, none⟩ = some (.int .i64 d.ost) := (cell_of HBv1_3.out 13).trans rfl
      have cv1_14 : (w3).cell? ⟨qv1, 14, none⟩ = some (.slice a14 d.ofs.length c14) := (cell_of HBv1_3.out 14).trans rfl
      have cv1_15 : (w3).cell? ⟨qv1, 15, none⟩ = some (.string d.obd) := (cell_of HBv1_3.out 15).trans rfl
      have cv1_16 : (w3).cell? ⟨qv1, 16, none⟩ = some (.int .i64 d.otm) := (cell_of HBv1_3.out 16).trans rfl
      go_wp2_with fail
      refine (szObj_any r2 (by omega) (by omega) d.opa a11 d.oxs.length c11 d.oxs a12 d.oys.length c12 d.oys d.ost a14 d.ofs.length c14 d.ofs d.obd d.otm B _ (HA11.out _ hb3) (HA12.out _ hb3) (HA14.out _ hb3) (HBB.out _ hb3) HMX.out.oxs.1 HMX.out.oys.1 HMX.out.ofs.1 HMX.out.oxs.2 HMX.out.oys.2 HMX.out.ofs.2 HMX.out.opa HMX.out.obd).mono ?_
      rintro e w4 ⟨r3, rfl, hl3, hr3, bw⟩
      have hb4 : Below w.heap.size w (w4) := hb3.trans (bw.mono hb3.size)
      have HBv1_4 : Hid ((w4).heap[qv1]? = some (.cells #[.int .i64 d.cli, .int .i64 d.qmt, .string d.qpa, .slice a3 d.qfs.length c3, .string d.qbd, .int .i64 d.rst, .slice a6 d.rfs.length c6, .string d.rbd, .int .i64 d.knd, .int .i64 d.tim, .string d.opa, .slice a11 d.oxs.length c11, .slice a12 d.oys.length c12, .int .i64 d.ost, .slice a14 d.ofs.length c14, .string d.obd, .int .i64 d.otm, .int .i64 d.bns] 31)) := blk_below HBv1_3.out bw
      clear hb3 HBv1_3 bw
      clear cv1_10 cv1_11 cv1_12 cv1_13 cv1_14 cv1_15 cv1_16
      by_cases hc3 : r3 < 0
      · clear hr3
        go_wp2_with fail
        go_ret
        exact ⟨-1, rfl, by omega, fun h => absurd h (by omega), hb4⟩
      · have HR3 : Hid _ := hr3 (by omega)
        clear hr3
        have mr3 := HR3.out.1
        go_wp2_with fail
        go_ret
        exact ⟨r3, rfl, by omega, fun _ => ⟨by omega, ⟨HR1.out.2.1.1, ⟨HR1.out.2.2.1, HR1.out.2.2.2⟩, HR1.out.2.1.2, ⟨HR2.out.2.2.1, HR2.out.2.2.2⟩, HR2.out.2.1, HR3.out.2.1.1, HR3.out.2.2.1, HR3.out.2.2.2.1, ⟨HR3.out.2.2.2.2.1, HR3.out.2.2.2.2.2⟩, HR3.out.2.1.2⟩⟩, hb4⟩

/-- Lengths that may be compared. -/
structure RpLim (d : RpD) : Prop where
  qfs : d.qfs.length ≤ 2000000
  rfs : d.rfs.length ≤ 2000000
  oxs : d.oxs.length ≤ 2000000
  oys : d.oys.length ≤ 2000000
  ofs : d.ofs.length ≤ 2000000
theorem RpLen.lim {d : RpD} (h : RpLen d) : RpLim d := ⟨Nat.le_trans h.qfs (by decide), Nat.le_trans h.rfs (by decide), Nat.le_trans h.oxs (by decide), Nat.le_trans h.oys (by decide), Nat.le_trans h.ofs (by decide)⟩

set_option maxHeartbeats 8000000 in
set_option maxRecDepth 100000 in
theorem eqReply_any (d : RpD) (x y : RpV) (B1 B2 : Nat) (w : World) (hxd : x.d = d) (hyd : y.d = d) (hx : RowsO w B1 (rpR x)) (hy : RowsO w B2 (rpR y)) (hn : RpLim d) :
    Calls Tryd.prog 8 #[.agg #[.int .i64 x.d.cli, .int .i64 x.d.qmt, .string x.d.qpa, x.v3, .string x.d.qbd, .int .i64 x.d.rst, x.v6, .string x.d.rbd, .int .i64 x.d.knd, .int .i64 x.d.tim, .string x.d.opa, x.v11, x.v12, .int .i64 x.d.ost, x.v14, .string x.d.obd, .int .i64 x.d.otm, .int .i64 x.d.bns], .agg #[.int .i64 y.d.cli, .int .i64 y.d.qmt, .string y.d.qpa, y.v3, .string y.d.qbd, .int .i64 y.d.rst, y.v6, .string y.d.rbd, .int .i64 y.d.knd, .int .i64 y.d.tim, .string y.d.opa, y.v11, y.v12, .int .i64 y.d.ost, y.v14, .string y.d.obd, .int .i64 y.d.otm, .int .i64 y.d.bns]] w fun e w' => e = .returned (.bool true) ∧ Below w.heap.size w w' := by
  have hd : y.d = d := hyd
  have hd2 : x.d = d := hxd
  have HxO3 : Hid (∀ W : World, RowsO W B1 (rpR x) → W.ownsRow B1 68 2 x.v3 d.qfs.length (flatF d.qfs)) := fun W h => by
    have h2 := h.own (⟨68, 2, x.v3, x.d.qfs.length, flatF x.d.qfs⟩ : Rw) (by simp [rpR])
    unfold Rw.own at h2
    dsimp only at h2
    rw [hxd] at h2
    exact h2
  have HxO6 : Hid (∀ W : World, RowsO W B1 (rpR x) → W.ownsRow B1 68 2 x.v6 d.rfs.length (flatF d.rfs)) := fun W h => by
    have h2 := h.own (⟨68, 2, x.v6, x.d.rfs.length, flatF x.d.rfs⟩ : Rw) (by simp [rpR])
    unfold Rw.own at h2
    dsimp only at h2
    rw [hxd] at h2
    exact h2
  have HxO11 : Hid (∀ W : World, RowsO W B1 (rpR x) → W.ownsRow B1 9 1 x.v11 d.oxs.length (d.oxs.map Value.string)) := fun W h => by
    have h2 := h.own (⟨9, 1, x.v11, x.d.oxs.length, x.d.oxs.map Value.string⟩ : Rw) (by simp [rpR])
    unfold Rw.own at h2
    dsimp only at h2
    rw [hxd] at h2
    exact h2
  have HxO12 : Hid (∀ W : World, RowsO W B1 (rpR x) → W.ownsRow B1 9 1 x.v12 d.oys.length (d.oys.map Value.string)) := fun W h => by
    have h2 := h.own (⟨9, 1, x.v12, x.d.oys.length, x.d.oys.map Value.string⟩ : Rw) (by simp [rpR])
    unfold Rw.own at h2
    dsimp only at h2
    rw [hxd] at h2
    exact h2
  have HxO14 : Hid (∀ W : World, RowsO W B1 (rpR x) → W.ownsRow B1 68 2 x.v14 d.ofs.length (flatF d.ofs)) := fun W h => by
    have h2 := h.own (⟨68, 2, x.v14, x.d.ofs.length, flatF x.d.ofs⟩ : Rw) (by simp [rpR])
    unfold Rw.own at h2
    dsimp only at h2
    rw [hxd] at h2
    exact h2
  have HxOO : Hid (∀ W : World, RowsO W B1 (rpR x) → ObjO W B1 x.v11 d.oxs.length d.oxs x.v12 d.oys.length d.oys x.v14 d.ofs.length d.ofs) := fun W h => by
    have h2 : RowsO W B1 [(⟨9, 1, x.v11, x.d.oxs.length, x.d.oxs.map Value.string⟩ : Rw), (⟨9, 1, x.v12, x.d.oys.length, x.d.oys.map Value.string⟩ : Rw), (⟨68, 2, x.v14, x.d.ofs.length, flatF x.d.ofs⟩ : Rw)] := RowsO.sub h (by unfold rpR; apply List.Sublist.cons; apply List.Sublist.cons; exact List.Sublist.refl _)
    have h3 := rows_obj3 h2
    rw [hxd] at h3
    exact h3
  have HyO3 : Hid (∀ W : World, RowsO W B2 (rpR y) → W.ownsRow B2 68 2 y.v3 d.qfs.length (flatF d.qfs)) := fun W h => by
    have h2 := h.own (⟨68, 2, y.v3, y.d.qfs.length, flatF y.d.qfs⟩ : Rw) (by simp [rpR])
    unfold Rw.own at h2
    dsimp only at h2
    rw [hyd] at h2
    exact h2
  have HyO6 : Hid (∀ W : World, RowsO W B2 (rpR y) → W.ownsRow B2 68 2 y.v6 d.rfs.length (flatF d.rfs)) := fun W h => by
    have h2 := h.own (⟨68, 2, y.v6, y.d.rfs.length, flatF y.d.rfs⟩ : Rw) (by simp [rpR])
    unfold Rw.own at h2
    dsimp only at h2
    rw [hyd] at h2
    exact h2
  have HyO11 : Hid (∀ W : World, RowsO W B2 (rpR y) → W.ownsRow B2 9 1 y.v11 d.oxs.length (d.oxs.map Value.string)) := fun W h => by
    have h2 := h.own (⟨9, 1, y.v11, y.d.oxs.length, y.d.oxs.map Value.string⟩ : Rw) (by simp [rpR])
    unfold Rw.own at h2
    dsimp only at h2
    rw [hyd] at h2
    exact h2
  have HyO12 : Hid (∀ W : World, RowsO W B2 (rpR y) → W.ownsRow B2 9 1 y.v12 d.oys.length (d.oys.map Value.string)) := fun W h => by
    have h2 := h.own (⟨9, 1, y.v12, y.d.oys.length, y.d.oys.map Value.string⟩ : Rw) (by simp [rpR])
    unfold Rw.own at h2
    dsimp only at h2
    rw [hyd] at h2
    exact h2
  have HyO14 : Hid (∀ W : World, RowsO W B2 (rpR y) → W.ownsRow B2 68 2 y.v14 d.ofs.length (flatF d.ofs)) := fun W h => by
    have h2 := h.own (⟨68, 2, y.v14, y.d.ofs.length, flatF y.d.ofs⟩ : Rw) (by simp [rpR])
    unfold Rw.own at h2
    dsimp only at h2
    rw [hyd] at h2
    exact h2
  have HyOO : Hid (∀ W : World, RowsO W B2 (rpR y) → ObjO W B2 y.v11 d.oxs.length d.oxs y.v12 d.oys.length d.oys y.v14 d.ofs.length d.ofs) := fun W h => by
    have h2 : RowsO W B2 [(⟨9, 1, y.v11, y.d.oxs.length, y.d.oxs.map Value.string⟩ : Rw), (⟨9, 1, y.v12, y.d.oys.length, y.d.oys.map Value.string⟩ : Rw), (⟨68, 2, y.v14, y.d.ofs.length, flatF y.d.ofs⟩ : Rw)] := RowsO.sub h (by unfold rpR; apply List.Sublist.cons; apply List.Sublist.cons; exact List.Sublist.refl _)
    have h3 := rows_obj3 h2
    rw [hyd] at h3
    exact h3
  have ecli : (d.cli != d.cli) = false := by simp
  have eqmt : (d.qmt != d.qmt) = false := by simp
  have erst : (d.rst != d.rst) = false := by simp
  have eknd : (d.knd != d.knd) = false := by simp
  have etim : (d.tim != d.tim) = false := by simp
  have eost : (d.ost != d.ost) = false := by simp
  have eotm : (d.otm != d.otm) = false := by simp
  have ebns : (d.bns != d.bns) = false := by simp
  have Ex_0 : Hid (RowsO w B1 (rpR x)) := hx
  have Ey_0 : Hid (RowsO w B2 (rpR y)) := hy
  rw [hxd, hyd]
  clear hx hy hd hd2 hxd hyd
  have hb0 : Below w.heap.size w w := Below.refl _ _
  go_enter Tryd.func8, Tryd.ntmps8
  go_upto_region 1 with fail
  obtain ⟨qv1, hqv1⟩ : ∃ q, q = (w).heap.size := ⟨_, rfl⟩
  obtain ⟨w1, hW1⟩ : ∃ W, W = (w).alloc (.cells #[.int .i64 d.cli, .int .i64 d.qmt, .string d.qpa, x.v3, .string d.qbd, .int .i64 d.rst, x.v6, .string d.rbd, .int .i64 d.knd, .int .i64 d.tim, .string d.opa, x.v11, x.v12, .int .i64 d.ost, x.v14, .string d.obd, .int .i64 d.otm, .int .i64 d.bns] 42) := ⟨_, rfl⟩
  have hz1 : (w).heap.size = qv1 := hqv1.symm
  first | rw [← hW1, ← hqv1] | rw [← hW1]
  have hs1 : w1.heap.size = qv1 + 1 := by rw [hW1, ← hz1]; simp
  have bw : Below (w).heap.size (w) w1 := by rw [hW1]; exact (Below.refl _ _).alloc (Nat.le_refl _) _
  have hb1 : Below w.heap.size w (w1) := hb0.trans (bw.mono hb0.size)
  have Ex_1 : Hid (RowsO (w1) B1 (rpR x)) := Ex_0.out.below bw
  have Ey_1 : Hid (RowsO (w1) B2 (rpR y)) := Ey_0.out.below bw
  have HBv1_1 : Hid ((w1).heap[qv1]? = some (.cells #[.int .i64 d.cli, .int .i64 d.qmt, .string d.qpa, x.v3, .string d.qbd, .int .i64 d.rst, x.v6, .string d.rbd, .int .i64 d.knd, .int .i64 d.tim, .string d.opa, x.v11, x.v12, .int .i64 d.ost, x.v14, .string d.obd, .int .i64 d.otm, .int .i64 d.bns] 42)) := by show _ = _; rw [hW1, ← hz1]; exact heap_alloc_new _ _
  clear hb0 Ex_0 Ey_0 bw hW1 hz1
  obtain ⟨qv2, hqv2⟩ : ∃ q, q = qv1 + 1 := ⟨_, rfl⟩
  obtain ⟨w2, hW2⟩ : ∃ W, W = (w1).alloc (.cells #[.int .i64 d.cli, .int .i64 d.qmt, .string d.qpa, y.v3, .string d.qbd, .int .i64 d.rst, y.v6, .string d.rbd, .int .i64 d.knd, .int .i64 d.tim, .string d.opa, y.v11, y.v12, .int .i64 d.ost, y.v14, .string d.obd, .int .i64 d.otm, .int .i64 d.bns] 42) := ⟨_, rfl⟩
  have hz2 : (w1).heap.size = qv2 := by rw [hqv2]; exact hs1
  first | rw [← hW2, ← hqv2] | rw [← hW2]
  have hs2 : w2.heap.size = qv2 + 1 := by rw [hW2, ← hz2]; simp
  have bw : Below (w1).heap.size (w1) w2 := by rw [hW2]; exact (Below.refl _ _).alloc (Nat.le_refl _) _
  have hb2 : Below w.heap.size w (w2) := hb1.trans (bw.mono hb1.size)
  have HBv1_2 : Hid ((w2).heap[qv1]? = some (.cells #[.int .i64 d.cli, .int .i64 d.qmt, .string d.qpa, x.v3, .string d.qbd, .int .i64 d.rst, x.v6, .string d.rbd, .int .i64 d.knd, .int .i64 d.tim, .string d.opa, x.v11, x.v12, .int .i64 d.ost, x.v14, .string d.obd, .int .i64 d.otm, .int .i64 d.bns] 42)) := blk_below HBv1_1.out bw
  have Ex_2 : Hid (RowsO (w2) B1 (rpR x)) := Ex_1.out.below bw
  have Ey_2 : Hid (RowsO (w2) B2 (rpR y)) := Ey_1.out.below bw
  have HBv2_2 : Hid ((w2).heap[qv2]? = some (.cells #[.int .i64 d.cli, .int .i64 d.qmt, .string d.qpa, y.v3, .string d.qbd, .int .i64 d.rst, y.v6, .string d.rbd, .int .i64 d.knd, .int .i64 d.tim, .string d.opa, y.v11, y.v12, .int .i64 d.ost, y.v14, .string d.obd, .int .i64 d.otm, .int .i64 d.bns] 42)) := by show _ = _; rw [hW2, ← hz2]; exact heap_alloc_new _ _
  clear hb1 HBv1_1 Ex_1 Ey_1 bw hW2 hz2
  clear hs2 hqv2 hs1 hqv1
  have cv1_0 : (w2).cell? ⟨qv1, 0, none⟩ = some (.int .i64 d.cli) := (cell_of HBv1_2.out 0).trans rfl
  have cv2_0 : (w2).cell? ⟨qv2, 0, none⟩ = some (.int .i64 d.cli) := (cell_of HBv2_2.out 0).trans rfl
  have cv1_1 : (w2).cell? ⟨qv1, 1, none⟩ = some (.int .i64 d.qmt) := (cell_of HBv1_2.out 1).trans rfl
  have cv1_2 : (w2).cell? ⟨qv1, 2, none⟩ = some (.string d.qpa) := (cell_of HBv1_2.out 2).trans rfl
  have cv1_3 : (w2).cell? ⟨qv1, 3, none⟩ = some (x.v3) := (cell_of HBv1_2.out 3).trans rfl
  have cv1_4 : (w2).cell? ⟨qv1, 4, none⟩ = some (.string d.qbd) := (cell_of HBv1_2.out 4).trans rfl
  have cv2_1 : (w2).cell? ⟨qv2, 1, none⟩ = some (.int .i64 d.qmt) := (cell_of HBv2_2.out 1).trans rfl
  have cv2_2 : (w2).cell? ⟨qv2, 2, none⟩ = some (.string d.qpa) := (cell_of HBv2_2.out 2).trans rfl
  have cv2_3 : (w2).cell? ⟨qv2, 3, none⟩ = some (y.v3) := (cell_of HBv2_2.out 3).trans rfl
  have cv2_4 : (w2).cell? ⟨qv2, 4, none⟩ = some (.string d.qbd) := (cell_of HBv2_2.out 4).trans rfl
  go_wp2_with fail
  refine (eqReq_any d.qmt d.qpa _ _ d.qbd d.qfs.length _ _ d.qfs _ (FieldsV.of_owns (show World.ownsRow _ B1 68 2 x.v3 d.qfs.length _ from HxO3.out _ Ex_2.out)) (FieldsV.of_owns (show World.ownsRow _ B2 68 2 y.v3 d.qfs.length _ from HyO3.out _ Ey_2.out)) hn.qfs).mono ?_
  rintro e w3 ⟨rfl, bw⟩
  have hb3 : Below w.heap.size w (w3) := hb2.trans (bw.mono hb2.size)
  have HBv1_3 : Hid ((w3).heap[qv1]? = some (.cells #[.int .i64 d.cli, .int .i64 d.qmt, .string d.qpa, x.v3, .string d.qbd, .int .i64 d.rst, x.v6, .string d.rbd, .int .i64 d.knd, .int .i64 d.tim, .string d.opa, x.v11, x.v12, .int .i64 d.ost, x.v14, .string d.obd, .int .i64 d.otm, .int .i64 d.bns] 42)) := blk_below HBv1_2.out bw
  have HBv2_3 : Hid ((w3).heap[qv2]? = some (.cells #[.int .i64 d.cli, .int .i64 d.qmt, .string d.qpa, y.v3, .string d.qbd, .int .i64 d.rst, y.v6, .string d.rbd, .int .i64 d.knd, .int .i64 d.tim, .string d.opa, y.v11, y.v12, .int .i64 d.ost, y.v14, .string d.obd, .int .i64 d.otm, .int .i64 d.bns] 42)) := blk_below HBv2_2.out bw
  have Ex_3 : Hid (RowsO (w3) B1 (rpR x)) := Ex_2.out.below bw
  have Ey_3 : Hid (RowsO (w3) B2 (rpR y)) := Ey_2.out.below bw
  clear hb2 HBv1_2 HBv2_2 Ex_2 Ey_2 bw
  clear cv1_0 cv2_0 cv1_1 cv1_2 cv1_3 cv1_4 cv2_1 cv2_2 cv2_3 cv2_4
  have cv1_5 : (w3).cell? ⟨qv1, 5, none⟩ = some (.int .i64 d.rst) := (cell_of HBv1_3.out 5).trans rfl
  have cv1_6 : (w3).cell? ⟨qv1, 6, none⟩ = some (x.v6) := (cell_of HBv1_3.out 6).trans rfl
  have cv1_7 : (w3).cell? ⟨qv1, 7, none⟩ = some (.string d.rbd) := (cell_of HBv1_3.out 7).trans rfl
  have cv2_5 : (w3).cell? ⟨qv2, 5, none⟩ = some (.int .i64 d.rst) := (cell_of HBv2_3.out 5).trans rfl
  have cv2_6 : (w3).cell? ⟨qv2, 6, none⟩ = some (y.v6) := (cell_of HBv2_3.out 6).trans rfl
  have cv2_7 : (w3).cell? ⟨qv2, 7, none⟩ = some (.string d.rbd) := (cell_of HBv2_3.out 7).trans rfl
  go_wp2_with fail
  refine (eqResp_any d.rst _ _ d.rbd d.rfs.length _ _ d.rfs _ (FieldsV.of_owns (show World.ownsRow _ B1 68 2 x.v6 d.rfs.length _ from HxO6.out _ Ex_3.out)) (FieldsV.of_owns (show World.ownsRow _ B2 68 2 y.v6 d.rfs.length _ from HyO6.out _ Ey_3.out)) hn.rfs).mono ?_
  rintro e w4 ⟨rfl, bw⟩
  have hb4 : Below w.heap.size w (w4) := hb3.trans (bw.mono hb3.size)
  have HBv1_4 : Hid ((w4).heap[qv1]? = some (.cells #[.int .i64 d.cli, .int .i64 d.qmt, .string d.qpa, x.v3, .string d.qbd, .int .i64 d.rst, x.v6, .string d.rbd, .int .i64 d.knd, .int .i64 d.tim, .string d.opa, x.v11, x.v12, .int .i64 d.ost, x.v14, .string d.obd, .int .i64 d.otm, .int .i64 d.bns] 42)) := blk_below HBv1_3.out bw
  have HBv2_4 : Hid ((w4).heap[qv2]? = some (.cells #[.int .i64 d.cli, .int .i64 d.qmt, .string d.qpa, y.v3, .string d.qbd, .int .i64 d.rst, y.v6, .string d.rbd, .int .i64 d.knd, .int .i64 d.tim, .string d.opa, y.v11, y.v12, .int .i64 d.ost, y.v14, .string d.obd, .int .i64 d.otm, .int .i64 d.bns] 42)) := blk_below HBv2_3.out bw
  have Ex_4 : Hid (RowsO (w4) B1 (rpR x)) := Ex_3.out.below bw
  have Ey_4 : Hid (RowsO (w4) B2 (rpR y)) := Ey_3.out.below bw
  clear hb3 HBv1_3 HBv2_3 Ex_3 Ey_3 bw
  clear cv1_5 cv1_6 cv1_7 cv2_5 cv2_6 cv2_7
  have cv1_8 : (w4).cell? ⟨qv1, 8, none⟩ = some (.int .i64 d.knd) := (cell_of HBv1_4.out 8).trans rfl
  have cv2_8 : (w4).cell? ⟨qv2, 8, none⟩ = some (.int .i64 d.knd) := (cell_of HBv2_4.out 8).trans rfl
  have cv1_9 : (w4).cell? ⟨qv1, 9, none⟩ = some (.int .i64 d.tim) := (cell_of HBv1_4.out 9).trans rfl
  have cv2_9 : (w4).cell? ⟨qv2, 9, none⟩ = some (.int .i64 d.tim) := (cell_of HBv2_4.out 9).trans rfl
  have cv1_10 : (w4).cell? ⟨qv1, 10, none⟩ = some (.string d.opa) := (cell_of HBv1_4.out 10).trans rfl
  have cv1_11 : (w4).cell? ⟨qv1, 11, none⟩ = some (x.v11) := (cell_of HBv1_4.out 11).trans rfl
  have cv1_12 : (w4).cell? ⟨qv1, 12, none⟩ = some (x.v12) := (cell_of HBv1_4.out 12).trans rfl
  have cv1_13 : (w4).cell? ⟨qv1, 13, none⟩ = some (.int .i64 d.ost) := (cell_of HBv1_4.out 13).trans rfl
  have cv1_14 : (w4).cell? ⟨qv1, 14, none⟩ = some (x.v14) := (cell_of HBv1_4.out 14).trans rfl
  have cv1_15 : (w4).cell? ⟨qv1, 15, none⟩ = some (.string d.obd) := (cell_of HBv1_4.out 15).trans rfl
  have cv1_16 : (w4).cell? ⟨qv1, 16, none⟩ = some (.int .i64 d.otm) := (cell_of HBv1_4.out 16).trans rfl
  have cv2_10 : (w4).cell? ⟨qv2, 10, none⟩ = some (.string d.opa) := (cell_of HBv2_4.out 10).trans rfl
  have cv2_11 : (w4).cell? ⟨qv2, 11, none⟩ = some (y.v11) := (cell_of HBv2_4.out 11).trans rfl
  have cv2_12 : (w4).cell? ⟨qv2, 12, none⟩ = some (y.v12) := (cell_of HBv2_4.out 12).trans rfl
  have cv2_13 : (w4).cell? ⟨qv2, 13, none⟩ = some (.int .i64 d.ost) := (cell_of HBv2_4.out 13).trans rfl
  have cv2_14 : (w4).cell? ⟨qv2, 14, none⟩ = some (y.v14) := (cell_of HBv2_4.out 14).trans rfl
  have cv2_15 : (w4).cell? ⟨qv2, 15, none⟩ = some (.string d.obd) := (cell_of HBv2_4.out 15).trans rfl
  have cv2_16 : (w4).cell? ⟨qv2, 16, none⟩ = some (.int .i64 d.otm) := (cell_of HBv2_4.out 16).trans rfl
  go_wp2_with fail
  refine (eqObj_any d.opa d.oxs.length d.oxs d.oys.length d.oys d.ost d.ofs.length d.ofs d.obd d.otm _ _ _ _ _ _ _ _ _ (HxOO.out _ Ex_4.out) (HyOO.out _ Ey_4.out) hn.oxs hn.oys hn.ofs).mono ?_
  rintro e w5 ⟨rfl, bw⟩
  have hb5 : Below w.heap.size w (w5) := hb4.trans (bw.mono hb4.size)
  have HBv1_5 : Hid ((w5).heap[qv1]? = some (.cells #[.int .i64 d.cli, .int .i64 d.qmt, .string d.qpa, x.v3, .string d.qbd, .int .i64 d.rst, x.v6, .string d.rbd, .int .i64 d.knd, .int .i64 d.tim, .string d.opa, x.v11, x.v12, .int .i64 d.ost, x.v14, .string d.obd, .int .i64 d.otm, .int .i64 d.bns] 42)) := blk_below HBv1_4.out bw
  have HBv2_5 : Hid ((w5).heap[qv2]? = some (.cells #[.int .i64 d.cli, .int .i64 d.qmt, .string d.qpa, y.v3, .string d.qbd, .int .i64 d.rst, y.v6, .string d.rbd, .int .i64 d.knd, .int .i64 d.tim, .string d.opa, y.v11, y.v12, .int .i64 d.ost, y.v14, .string d.obd, .int .i64 d.otm, .int .i64 d.bns] 42)) := blk_below HBv2_4.out bw
  have Ex_5 : Hid (RowsO (w5) B1 (rpR x)) := Ex_4.out.below bw
  have Ey_5 : Hid (RowsO (w5) B2 (rpR y)) := Ey_4.out.below bw
  clear hb4 HBv1_4 HBv2_4 Ex_4 Ey_4 bw
  clear cv1_8 cv2_8 cv1_9 cv2_9 cv1_10 cv1_11 cv1_12 cv1_13 cv1_14 cv1_15 cv1_16 cv2_10 cv2_11 cv2_12 cv2_13 cv2_14 cv2_15 cv2_16
  have cv1_17 : (w5).cell? ⟨qv1, 17, none⟩ = some (.int .i64 d.bns) := (cell_of HBv1_5.out 17).trans rfl
  have cv2_17 : (w5).cell? ⟨qv2, 17, none⟩ = some (.int .i64 d.bns) := (cell_of HBv2_5.out 17).trans rfl
  go_wp2_with fail
  go_ret
  exact ⟨rfl, hb5⟩

end Go.Proofs.YtopeegjmpphjnaaDoor

namespace Go.Proofs.YtopeegjmpphjnaaDoor
open Go.RowKit
open Go.Lib hiding intOf

/-- 'wpAnyH_take', its place named. -/
theorem wpAnyH_takeD {P : Program} {ops : Array Oper} {Q : Exit → Act → World → Prop} {md : Region.Mode} {S : World → Prop} {i : Nat} {oi : Oper} {v : Value} {fuel : Nat} {listed : Array Bool} {a : Act} {w : World} (d : Option Tmp) (hi : ops[i]? = some oi) (hd : oi.dst = d)
    (hs : Region.noSelect ops = true) (hf : Region.free md ops listed i = true) (hr : (Region.ready md ops listed).contains i = true)
    (hQ : ∀ c a w, Q (.panic c) (a.put oi.dst v) w → Q (.panic c) a w) (hy : YieldsIf P ops S oi v a) (hS : S w)
    (h : wpAnyH P md ops Q S fuel (listed.setIfInBounds i true) (a.put d v) w) : wpAnyH P md ops Q S (fuel + 1) listed a w :=
  wpAnyH_take hi hs hf hr hQ hy hS (hd ▸ h)
end Go.Proofs.YtopeegjmpphjnaaDoor

namespace Go.Proofs.YtopeegjmpphjnaaDoor
open Go.RowKit
open Go.Lib hiding intOf

theorem numTextI_20 (n : Int) : (numTextI n).size ≤ 20 := by
  unfold numTextI
  split
  · decide
  · exact Nat.le_trans (numText_size _) (by decide)
theorem replyT_no {c k s : Int} {fs : List (ByteArray × ByteArray)} (h : kindT k = ⟨#[]⟩) : replyT c k s fs = ⟨#[]⟩ := by
  unfold replyT
  rw [if_neg (fun h2 => kindT_in h2 h)]
theorem kindT_yes {k : Int} (h : ¬ kindT k = ⟨#[]⟩) : 1 ≤ k ∧ k ≤ 4 := Classical.byContradiction (fun e => h (kindT_out e))
theorem replyT_age {c k s : Int} {fs : List (ByteArray × ByteArray)} (h : ¬ kindT k = ⟨#[]⟩) (hb : getB fs ageB = true) : replyT c k s fs = numTextI c ++ blankB ++ kindT k ++ blankB ++ numTextI s ++ blankB ++ getV fs ageB := by
  unfold replyT
  rw [if_pos (kindT_yes h), if_pos hb]
theorem replyT_none {c k s : Int} {fs : List (ByteArray × ByteArray)} (h : ¬ kindT k = ⟨#[]⟩) (hb : getB fs ageB = false) : replyT c k s fs = numTextI c ++ blankB ++ kindT k ++ blankB ++ numTextI s := by
  unfold replyT
  rw [if_pos (kindT_yes h), if_neg (by rw [hb]; decide)]
theorem row_of_four {W : World} {q : Nat} {a b c d : Option ByteArray} (h : W.heap[q]? = some (.cells #[partV a, partV b, partV c, partV d] 20)) : W.ownsRow 0 20 1 (.slice (some ⟨q, 0, none⟩) 4 4) 4 ([a, b, c, d].map partV) :=
  ⟨rfl, .inr ⟨q, 4, _, rfl, Nat.zero_le _, h, Nat.le_refl _, by decide, rfl, rfl⟩⟩

set_option maxHeartbeats 8000000 in
set_option maxRecDepth 100000 in
theorem specReplyText_any (d : RpD) (v3 v6 v11 v12 v14 : Value) (C : Nat) (w : World) (h6 : FieldsV w C v6 d.rfs.length d.rfs) (hl : d.rfs.length ≤ 1048576) (hcp : CopyF d.rfs) (hg : (getV d.rfs ageB).size ≤ 1048576) (hcl0 : -9223372036854775808 ≤ d.cli) (hcl1 : d.cli ≤ 9223372036854775807) (hst0 : -9223372036854775808 ≤ d.rst) (hst1 : d.rst ≤ 9223372036854775807) :
    Calls Tryd.prog 5 #[.agg #[.int .i64 d.cli, .int .i64 d.qmt, .string d.qpa, v3, .string d.qbd, .int .i64 d.rst, v6, .string d.rbd, .int .i64 d.knd, .int .i64 d.tim, .string d.opa, v11, v12, .int .i64 d.ost, v14, .string d.obd, .int .i64 d.otm, .int .i64 d.bns]] w fun e w' => TextIs (replyT d.cli d.knd d.rst d.rfs) w e w' := by
  have HFS : Hid (∀ W, Below w.heap.size w W → FieldsV W C v6 d.rfs.length d.rfs) := fun W h => h6.below h
  have HCP : Hid (CopyF d.rfs) := hcp
  have hlf : d.rfs.length ≤ 1073741824 := by omega
  obtain ⟨kk, hkk⟩ : ∃ k, k = kindT d.knd := ⟨_, rfl⟩
  obtain ⟨tc, htc⟩ : ∃ k, k = numTextI d.cli := ⟨_, rfl⟩
  obtain ⟨ts, hts⟩ : ∃ k, k = numTextI d.rst := ⟨_, rfl⟩
  obtain ⟨gv, hgv⟩ : ∃ k, k = getV d.rfs ageB := ⟨_, rfl⟩
  obtain ⟨gb, hgb⟩ : ∃ k, k = getB d.rfs ageB := ⟨_, rfl⟩
  have zk : kk.size ≤ 5 := by rw [hkk]; exact kindT_size _
  have zc : tc.size ≤ 20 := by rw [htc]; exact numTextI_20 _
  have zs : ts.size ≤ 20 := by rw [hts]; exact numTextI_20 _
  have zg : gv.size ≤ 1048576 := by rw [hgv]; exact hg
  have HKK : Hid (kindT d.knd = kk) := hkk.symm
  have HTC : Hid (numTextI d.cli = tc) := htc.symm
  have HTS : Hid (numTextI d.rst = ts) := hts.symm
  have HGV : Hid (getV d.rfs ageB = gv) := hgv.symm
  have HGB : Hid (getB d.rfs ageB = gb) := hgb.symm
  have HE0 : Hid (kk = ⟨#[]⟩ → replyT d.cli d.knd d.rst d.rfs = ⟨#[]⟩) := fun h => replyT_no (by rw [← hkk]; exact h)
  have HE1 : Hid (¬ kk = ⟨#[]⟩ → gb = true → replyT d.cli d.knd d.rst d.rfs = tc ++ blankB ++ kk ++ blankB ++ ts ++ blankB ++ gv) := fun h hb => by rw [hkk, htc, hts, hgv]; exact replyT_age (by rw [← hkk]; exact h) (by rw [← hgb]; exact hb)
  have HE2 : Hid (¬ kk = ⟨#[]⟩ → gb = false → replyT d.cli d.knd d.rst d.rfs = tc ++ blankB ++ kk ++ blankB ++ ts) := fun h hb => by rw [hkk, htc, hts]; exact replyT_none (by rw [← hkk]; exact h) (by rw [← hgb]; exact hb)
  have HAP : Hid (ageP d.rfs = if gb = true then some gv else none) := by show _ = _; unfold ageP; rw [← hgb, ← hgv]
  clear hkk htc hts hgv hgb h6 hcp hg
  have hb0 : Below w.heap.size w w := Below.refl _ _
  go_enter Tryd.func5, Tryd.ntmps5
  go_upto_region 1 with fail
  obtain ⟨qv1, hqv1⟩ : ∃ q, q = (w).heap.size := ⟨_, rfl⟩
  obtain ⟨w1, hW1⟩ : ∃ W, W = (w).alloc (.cells #[.int .i64 d.cli, .int .i64 d.qmt, .string d.qpa, v3, .string d.qbd, .int .i64 d.rst, v6, .string d.rbd, .int .i64 d.knd, .int .i64 d.tim, .string d.opa, v11, v12, .int .i64 d.ost, v14, .string d.obd, .int .i64 d.otm, .int .i64 d.bns] 42) := ⟨_, rfl⟩
  have hz1 : (w).heap.size = qv1 := hqv1.symm
  first | rw [← hW1, ← hqv1] | rw [← hW1]
  have hs1 : w1.heap.size = qv1 + 1 := by rw [hW1, ← hz1]; simp
  have bw : Below (w).heap.size (w) w1 := by rw [hW1]; exact (Below.refl _ _).alloc (Nat.le_refl _) _
  have hb1 : Below w.heap.size w (w1) := hb0.trans (bw.mono hb0.size)
  have HBv1_1 : Hid ((w1).heap[qv1]? = some (.cells #[.int .i64 d.cli, .int .i64 d.qmt, .string d.qpa, v3, .string d.qbd, .int .i64 d.rst, v6, .string d.rbd, .int .i64 d.knd, .int .i64 d.tim, .string d.opa, v11, v12, .int .i64 d.ost, v14, .string d.obd, .int .i64 d.otm, .int .i64 d.bns] 42)) := by show _ = _; rw [hW1, ← hz1]; exact heap_alloc_new _ _
  clear hb0 bw hW1 hz1
  clear hs1 hqv1
  have cv1_8 : (w1).cell? ⟨qv1, 8, none⟩ = some (.int .i64 d.knd) := (cell_of HBv1_1.out 8).trans rfl
  go_wp2_with fail
  refine (specKindText_any d.knd _).mono ?_
  rintro e w2 ⟨rfl, bw⟩
  rw [HKK.out]
  have hb2 : Below w.heap.size w (w2) := hb1.trans (bw.mono hb1.size)
  have HBv1_2 : Hid ((w2).heap[qv1]? = some (.cells #[.int .i64 d.cli, .int .i64 d.qmt, .string d.qpa, v3, .string d.qbd, .int .i64 d.rst, v6, .string d.rbd, .int .i64 d.knd, .int .i64 d.tim, .string d.opa, v11, v12, .int .i64 d.ost, v14, .string d.obd, .int .i64 d.otm, .int .i64 d.bns] 42)) := blk_below HBv1_1.out bw
  clear hb1 HBv1_1 bw
  clear cv1_8
  by_cases hc1 : kk = ⟨#[]⟩
  · have hc1b : (kk).toList.isEmpty = true := isEmpty_yes (by rw [hc1]; rfl)
    have HKE : Hid ((kk = ⟨#[]⟩)) := hc1
    go_wp2_with fail
    go_ret
    exact TextIs.of (HE0.out HKE.out).symm hb2
  · have hc1b : (kk).toList.isEmpty = false := isEmpty_no (Nat.pos_of_ne_zero (fun e => hc1 (empty_text e)))
    have HKE : Hid (¬ (kk = ⟨#[]⟩)) := hc1
    go_upto_region 3 with fail
    refine wp_region_held_drew (S := fun W => W.heap[qv1]? = some (.cells #[.int .i64 d.cli, .int .i64 d.qmt, .string d.qpa, v3, .string d.qbd, .int .i64 d.rst, v6, .string d.rbd, .int .i64 d.knd, .int .i64 d.tim, .string d.opa, v11, v12, .int .i64 d.ost, v14, .string d.obd, .int .i64 d.otm, .int .i64 d.bns] 42)) (by kernel_rfl) HBv1_2.out (fun _ => ?_)
    obtain ⟨w3, hX⟩ : ∃ X, X = w2.drew := ⟨_, rfl⟩
    have bw : Below w2.heap.size w2 w3 := by rw [hX]; exact (Below.refl _ _).drew
    rw [← hX]
    have hb3 : Below w.heap.size w (w3) := hb2.trans (bw.mono hb2.size)
    have HBv1_3 : Hid ((w3).heap[qv1]? = some (.cells #[.int .i64 d.cli, .int .i64 d.qmt, .string d.qpa, v3, .string d.qbd, .int .i64 d.rst, v6, .string d.rbd, .int .i64 d.knd, .int .i64 d.tim, .string d.opa, v11, v12, .int .i64 d.ost, v14, .string d.obd, .int .i64 d.otm, .int .i64 d.bns] 42)) := blk_below HBv1_2.out bw
    have hS3 : w3.heap[qv1]? = some (.cells #[.int .i64 d.cli, .int .i64 d.qmt, .string d.qpa, v3, .string d.qbd, .int .i64 d.rst, v6, .string d.rbd, .int .i64 d.knd, .int .i64 d.tim, .string d.opa, v11, v12, .int .i64 d.ost, v14, .string d.obd, .int .i64 d.otm, .int .i64 d.bns] 42) := HBv1_3.out
    clear hb2 HBv1_2 bw hX
    refine wpAnyH_takeD (i := 0) (v := .pointer (some ⟨qv1, 0, none⟩)) (some 10) rfl rfl (by kernel_rfl) (by kernel_rfl) (by kernel_rfl) (fun _ _ _ h => h) (Or.inl ⟨by rfl, by intro W _; go_simp⟩) hS3 ?_
    simp only [Act.put, List.setIfInBounds_toArray, List.set_cons_zero, List.set_cons_succ]
    refine wpAnyH_takeD (i := 1) (v := .int .i64 d.cli) (some 11) rfl rfl (by kernel_rfl) (by kernel_rfl) (by kernel_rfl) (fun _ _ _ h => h) (Or.inl ⟨by rfl, by intro W hW; have hhv1 := hW; have y0 := (cell_of hhv1 0).trans rfl; go_simp⟩) hS3 ?_
    simp only [Act.put, List.setIfInBounds_toArray, List.set_cons_zero, List.set_cons_succ]
    refine wpAnyH_takeD (i := 4) (v := .pointer (some ⟨qv1, 8, none⟩)) (some 14) rfl rfl (by kernel_rfl) (by kernel_rfl) (by kernel_rfl) (fun _ _ _ h => h) (Or.inl ⟨by rfl, by intro W _; go_simp⟩) hS3 ?_
    simp only [Act.put, List.setIfInBounds_toArray, List.set_cons_zero, List.set_cons_succ]
    refine wpAnyH_takeD (i := 5) (v := .int .i64 d.knd) (some 15) rfl rfl (by kernel_rfl) (by kernel_rfl) (by kernel_rfl) (fun _ _ _ h => h) (Or.inl ⟨by rfl, by intro W hW; have hhv1 := hW; have y8 := (cell_of hhv1 8).trans rfl; go_simp⟩) hS3 ?_
    simp only [Act.put, List.setIfInBounds_toArray, List.set_cons_zero, List.set_cons_succ]
    refine wpAnyH_takeD (i := 9) (v := .pointer (some ⟨qv1, 5, none⟩)) (some 19) rfl rfl (by kernel_rfl) (by kernel_rfl) (by kernel_rfl) (fun _ _ _ h => h) (Or.inl ⟨by rfl, by intro W _; go_simp⟩) hS3 ?_
    simp only [Act.put, List.setIfInBounds_toArray, List.set_cons_zero, List.set_cons_succ]
    refine wpAnyH_takeD (i := 10) (v := .pointer (some ⟨qv1, 5, none⟩)) (some 20) rfl rfl (by kernel_rfl) (by kernel_rfl) (by kernel_rfl) (fun _ _ _ h => h) (Or.inl ⟨by rfl, by intro W _; go_simp⟩) hS3 ?_
    simp only [Act.put, List.setIfInBounds_toArray, List.set_cons_zero, List.set_cons_succ]
    refine wpAnyH_takeD (i := 11) (v := .int .i64 d.rst) (some 21) rfl rfl (by kernel_rfl) (by kernel_rfl) (by kernel_rfl) (fun _ _ _ h => h) (Or.inl ⟨by rfl, by intro W hW; have hhv1 := hW; have y5 := (cell_of hhv1 5).trans rfl; go_simp⟩) hS3 ?_
    simp only [Act.put, List.setIfInBounds_toArray, List.set_cons_zero, List.set_cons_succ]
    refine wpAnyH_ready (rs := [2]) (by kernel_rfl) (by simp) ?_
    refine AllReadyH.cons rfl (fun K hK => ?_) AllReadyH.nil
    go_simp
    refine (specNumText_int d.cli _ hcl0 hcl1).mono ?_
    rintro e w4 ⟨rfl, bw⟩
    rw [HTC.out]
    have hb4 : Below w.heap.size w (w4) := hb3.trans (bw.mono hb3.size)
    have HBv1_4 : Hid ((w4).heap[qv1]? = some (.cells #[.int .i64 d.cli, .int .i64 d.qmt, .string d.qpa, v3, .string d.qbd, .int .i64 d.rst, v6, .string d.rbd, .int .i64 d.knd, .int .i64 d.tim, .string d.opa, v11, v12, .int .i64 d.ost, v14, .string d.obd, .int .i64 d.otm, .int .i64 d.bns] 42)) := blk_below HBv1_3.out bw
    clear hb3 HBv1_3 bw
    have hS4 : w4.heap[qv1]? = some (.cells #[.int .i64 d.cli, .int .i64 d.qmt, .string d.qpa, v3, .string d.qbd, .int .i64 d.rst, v6, .string d.rbd, .int .i64 d.knd, .int .i64 d.tim, .string d.opa, v11, v12, .int .i64 d.ost, v14, .string d.obd, .int .i64 d.otm, .int .i64 d.bns] 42) := HBv1_4.out
    refine hK.out _ _ hS4 (fun _ => ?_)
    clear hK K hS3
    refine wpAnyH_takeD (i := 3) (v := .string (tc ++ ⟨#[32]⟩)) (some 13) rfl rfl (by kernel_rfl) (by kernel_rfl) (by kernel_rfl) (fun _ _ _ h => h) (Or.inl ⟨by rfl, by intro W _; go_simp <;> omega⟩) hS4 ?_
    simp only [Act.put, List.setIfInBounds_toArray, List.set_cons_zero, List.set_cons_succ]
    refine wpAnyH_ready (rs := [6]) (by kernel_rfl) (by simp) ?_
    refine AllReadyH.cons rfl (fun K hK => ?_) AllReadyH.nil
    go_simp
    refine (specKindText_any d.knd _).mono ?_
    rintro e w5 ⟨rfl, bw⟩
    rw [HKK.out]
    have hb5 : Below w.heap.size w (w5) := hb4.trans (bw.mono hb4.size)
    have HBv1_5 : Hid ((w5).heap[qv1]? = some (.cells #[.int .i64 d.cli, .int .i64 d.qmt, .string d.qpa, v3, .string d.qbd, .int .i64 d.rst, v6, .string d.rbd, .int .i64 d.knd, .int .i64 d.tim, .string d.opa, v11, v12, .int .i64 d.ost, v14, .string d.obd, .int .i64 d.otm, .int .i64 d.bns] 42)) := blk_below HBv1_4.out bw
    clear hb4 HBv1_4 bw
    have hS5 : w5.heap[qv1]? = some (.cells #[.int .i64 d.cli, .int .i64 d.qmt, .string d.qpa, v3, .string d.qbd, .int .i64 d.rst, v6, .string d.rbd, .int .i64 d.knd, .int .i64 d.tim, .string d.opa, v11, v12, .int .i64 d.ost, v14, .string d.obd, .int .i64 d.otm, .int .i64 d.bns] 42) := HBv1_5.out
    refine hK.out _ _ hS5 (fun _ => ?_)
    clear hK K hS4
    refine wpAnyH_takeD (i := 7) (v := .string ((tc ++ ⟨#[32]⟩) ++ kk)) (some 17) rfl rfl (by kernel_rfl) (by kernel_rfl) (by kernel_rfl) (fun _ _ _ h => h) (Or.inl ⟨by rfl, by intro W _; go_simp <;> omega⟩) hS5 ?_
    simp only [Act.put, List.setIfInBounds_toArray, List.set_cons_zero, List.set_cons_succ]
    refine wpAnyH_takeD (i := 8) (v := .string (((tc ++ ⟨#[32]⟩) ++ kk) ++ ⟨#[32]⟩)) (some 18) rfl rfl (by kernel_rfl) (by kernel_rfl) (by kernel_rfl) (fun _ _ _ h => h) (Or.inl ⟨by rfl, by intro W _; go_simp <;> omega⟩) hS5 ?_
    simp only [Act.put, List.setIfInBounds_toArray, List.set_cons_zero, List.set_cons_succ]
    refine wpAnyH_ready (rs := [12]) (by kernel_rfl) (by simp) ?_
    refine AllReadyH.cons rfl (fun K hK => ?_) AllReadyH.nil
    go_simp
    refine (specNumText_int d.rst _ hst0 hst1).mono ?_
    rintro e w6 ⟨rfl, bw⟩
    rw [HTS.out]
    have hb6 : Below w.heap.size w (w6) := hb5.trans (bw.mono hb5.size)
    have HBv1_6 : Hid ((w6).heap[qv1]? = some (.cells #[.int .i64 d.cli, .int .i64 d.qmt, .string d.qpa, v3, .string d.qbd, .int .i64 d.rst, v6, .string d.rbd, .int .i64 d.knd, .int .i64 d.tim, .string d.opa, v11, v12, .int .i64 d.ost, v14, .string d.obd, .int .i64 d.otm, .int .i64 d.bns] 42)) := blk_below HBv1_5.out bw
    clear hb5 HBv1_5 bw
    have hS6 : w6.heap[qv1]? = some (.cells #[.int .i64 d.cli, .int .i64 d.qmt, .string d.qpa, v3, .string d.qbd, .int .i64 d.rst, v6, .string d.rbd, .int .i64 d.knd, .int .i64 d.tim, .string d.opa, v11, v12, .int .i64 d.ost, v14, .string d.obd, .int .i64 d.otm, .int .i64 d.bns] 42) := HBv1_6.out
    refine hK.out _ _ hS6 (fun _ => ?_)
    clear hK K hS5
    refine wpAnyH_takeD (i := 13) (v := .string ((((tc ++ ⟨#[32]⟩) ++ kk) ++ ⟨#[32]⟩) ++ ts)) (some 23) rfl rfl (by kernel_rfl) (by kernel_rfl) (by kernel_rfl) (fun _ _ _ h => h) (Or.inl ⟨by rfl, by intro W _; go_simp <;> omega⟩) hS6 ?_
    simp only [Act.put, List.setIfInBounds_toArray, List.set_cons_zero, List.set_cons_succ]
    refine wpAnyH_takeD (i := 14) (v := .string ((((tc ++ ⟨#[32]⟩) ++ kk) ++ ⟨#[32]⟩) ++ ts)) (some 3) rfl rfl (by kernel_rfl) (by kernel_rfl) (by kernel_rfl) (fun _ _ _ h => h) (Or.inl ⟨by rfl, by intro W _; go_simp⟩) hS6 ?_
    simp only [Act.put, List.setIfInBounds_toArray, List.set_cons_zero, List.set_cons_succ]
    clear hS6
    refine wpAnyH_done (by kernel_rfl) ?_ _
    have cv1_6 : (w6).cell? ⟨qv1, 6, none⟩ = some (v6) := (cell_of HBv1_6.out 6).trans rfl
    go_wp2_with fail
    refine (specGet_any v6 _ C d.rfs ageB _ (HFS.out _ hb6) hlf).mono ?_
    rintro e w7 ⟨rfl, hwe⟩
    have bw : Below (w6).heap.size (w6) w7 := by rw [hwe]; exact Below.refl _ _
    clear hwe
    rw [HGV.out, HGB.out]
    have hb7 : Below w.heap.size w (w7) := hb6.trans (bw.mono hb6.size)
    have HBv1_7 : Hid ((w7).heap[qv1]? = some (.cells #[.int .i64 d.cli, .int .i64 d.qmt, .string d.qpa, v3, .string d.qbd, .int .i64 d.rst, v6, .string d.rbd, .int .i64 d.knd, .int .i64 d.tim, .string d.opa, v11, v12, .int .i64 d.ost, v14, .string d.obd, .int .i64 d.otm, .int .i64 d.bns] 42)) := blk_below HBv1_6.out bw
    clear hb6 HBv1_6 bw
    clear cv1_6
    cases gb with
    | false =>
      go_wp2_with fail
      go_ret
      exact TextIs.of (HE2.out HKE.out (by first | rfl | trivial)).symm hb7
    | true =>
      go_wp2_with fail
      go_ret
      exact TextIs.of (HE1.out HKE.out (by first | rfl | trivial)).symm hb7

set_option maxHeartbeats 8000000 in
set_option maxRecDepth 100000 in
theorem implReplyText_age (d : RpD) (v3 v6 v11 v12 v14 : Value) (C : Nat) (w : World) (h6 : FieldsV w C v6 d.rfs.length d.rfs) (hl : d.rfs.length ≤ 1048576) (hcp : CopyF d.rfs) (hg : (getV d.rfs ageB).size ≤ 1048576) (hcl0 : -9223372036854775808 ≤ d.cli) (hcl1 : d.cli ≤ 9223372036854775807) (hst0 : -9223372036854775808 ≤ d.rst) (hst1 : d.rst ≤ 9223372036854775807) (hT : TabOk w) (hgbv : getB d.rfs ageB = true) :
    Calls Tryd.prog 7 #[.agg #[.int .i64 d.cli, .int .i64 d.qmt, .string d.qpa, v3, .string d.qbd, .int .i64 d.rst, v6, .string d.rbd, .int .i64 d.knd, .int .i64 d.tim, .string d.opa, v11, v12, .int .i64 d.ost, v14, .string d.obd, .int .i64 d.otm, .int .i64 d.bns]] w fun e w' => TextIs (replyT d.cli d.knd d.rst d.rfs) w e w' := by
  have HFS : Hid (∀ W, Below w.heap.size w W → FieldsV W C v6 d.rfs.length d.rfs) := fun W h => h6.below h
  have HCP : Hid (CopyF d.rfs) := hcp
  have hlf : d.rfs.length ≤ 1073741824 := by omega
  obtain ⟨kk, hkk⟩ : ∃ k, k = kindT d.knd := ⟨_, rfl⟩
  obtain ⟨tc, htc⟩ : ∃ k, k = numTextI d.cli := ⟨_, rfl⟩
  obtain ⟨ts, hts⟩ : ∃ k, k = numTextI d.rst := ⟨_, rfl⟩
  obtain ⟨gv, hgv⟩ : ∃ k, k = getV d.rfs ageB := ⟨_, rfl⟩
  obtain ⟨gb, hgb⟩ : ∃ k, k = getB d.rfs ageB := ⟨_, rfl⟩
  have zk : kk.size ≤ 5 := by rw [hkk]; exact kindT_size _
  have zc : tc.size ≤ 20 := by rw [htc]; exact numTextI_20 _
  have zs : ts.size ≤ 20 := by rw [hts]; exact numTextI_20 _
  have zg : gv.size ≤ 1048576 := by rw [hgv]; exact hg
  have HKK : Hid (kindT d.knd = kk) := hkk.symm
  have HTC : Hid (numTextI d.cli = tc) := htc.symm
  have HTS : Hid (numTextI d.rst = ts) := hts.symm
  have HGB : Hid (getB d.rfs ageB = gb) := hgb.symm
  have HE0 : Hid (kk = ⟨#[]⟩ → replyT d.cli d.knd d.rst d.rfs = ⟨#[]⟩) := fun h => replyT_no (by rw [← hkk]; exact h)
  have HE1 : Hid (¬ kk = ⟨#[]⟩ → gb = true → replyT d.cli d.knd d.rst d.rfs = tc ++ blankB ++ kk ++ blankB ++ ts ++ blankB ++ gv) := fun h hb => by rw [hkk, htc, hts, hgv]; exact replyT_age (by rw [← hkk]; exact h) (by rw [← hgb]; exact hb)
  have HE2 : Hid (¬ kk = ⟨#[]⟩ → gb = false → replyT d.cli d.knd d.rst d.rfs = tc ++ blankB ++ kk ++ blankB ++ ts) := fun h hb => by rw [hkk, htc, hts]; exact replyT_none (by rw [← hkk]; exact h) (by rw [← hgb]; exact hb)
  have HAP : Hid (ageP d.rfs = if gb = true then some gv else none) := by show _ = _; unfold ageP; rw [← hgb, ← hgv]
  clear hkk htc hts hgv hgb h6 hcp hg
  have HTAB : Hid (∀ W, Below w.heap.size w W → TabOk W) := fun W h => hT.below h
  clear hT
  have HGBV : Hid (gb = true) := HGB.out.symm.trans hgbv
  have HAGE : Hid (partV (ageP d.rfs) = .iface 9 (.string gv)) := by show _ = _; rw [HAP.out, HGBV.out]; rfl
  clear hgbv
  have hb0 : Below w.heap.size w w := Below.refl _ _
  go_enter Tryd.func7, Tryd.ntmps7
  go_upto_region 1 with fail
  obtain ⟨qv1, hqv1⟩ : ∃ q, q = (w).heap.size := ⟨_, rfl⟩
  obtain ⟨w1, hW1⟩ : ∃ W, W = (w).alloc (.cells #[.int .i64 d.cli, .int .i64 d.qmt, .string d.qpa, v3, .string d.qbd, .int .i64 d.rst, v6, .string d.rbd, .int .i64 d.knd, .int .i64 d.tim, .string d.opa, v11, v12, .int .i64 d.ost, v14, .string d.obd, .int .i64 d.otm, .int .i64 d.bns] 42) := ⟨_, rfl⟩
  have hz1 : (w).heap.size = qv1 := hqv1.symm
  first | rw [← hW1, ← hqv1] | rw [← hW1]
  have hs1 : w1.heap.size = qv1 + 1 := by rw [hW1, ← hz1]; simp
  have bw : Below (w).heap.size (w) w1 := by rw [hW1]; exact (Below.refl _ _).alloc (Nat.le_refl _) _
  have hb1 : Below w.heap.size w (w1) := hb0.trans (bw.mono hb0.size)
  have HBv1_1 : Hid ((w1).heap[qv1]? = some (.cells #[.int .i64 d.cli, .int .i64 d.qmt, .string d.qpa, v3, .string d.qbd, .int .i64 d.rst, v6, .string d.rbd, .int .i64 d.knd, .int .i64 d.tim, .string d.opa, v11, v12, .int .i64 d.ost, v14, .string d.obd, .int .i64 d.otm, .int .i64 d.bns] 42)) := by show _ = _; rw [hW1, ← hz1]; exact heap_alloc_new _ _
  clear hb0 bw hW1 hz1
  clear hs1 hqv1
  have cv1_8 : (w1).cell? ⟨qv1, 8, none⟩ = some (.int .i64 d.knd) := (cell_of HBv1_1.out 8).trans rfl
  go_wp2_with fail
  refine (implKindText_any d.knd _).mono ?_
  rintro e w2 ⟨rfl, bw⟩
  rw [HKK.out]
  have hb2 : Below w.heap.size w (w2) := hb1.trans (bw.mono hb1.size)
  have HBv1_2 : Hid ((w2).heap[qv1]? = some (.cells #[.int .i64 d.cli, .int .i64 d.qmt, .string d.qpa, v3, .string d.qbd, .int .i64 d.rst, v6, .string d.rbd, .int .i64 d.knd, .int .i64 d.tim, .string d.opa, v11, v12, .int .i64 d.ost, v14, .string d.obd, .int .i64 d.otm, .int .i64 d.bns] 42)) := blk_below HBv1_1.out bw
  clear hb1 HBv1_1 bw
  clear cv1_8
  go_upto_region 2 with fail
  refine wp_region_held_drew (S := fun W => W.heap[qv1]? = some (.cells #[.int .i64 d.cli, .int .i64 d.qmt, .string d.qpa, v3, .string d.qbd, .int .i64 d.rst, v6, .string d.rbd, .int .i64 d.knd, .int .i64 d.tim, .string d.opa, v11, v12, .int .i64 d.ost, v14, .string d.obd, .int .i64 d.otm, .int .i64 d.bns] 42)) (by kernel_rfl) HBv1_2.out (fun _ => ?_)
  obtain ⟨w3, hX⟩ : ∃ X, X = w2.drew := ⟨_, rfl⟩
  have bw : Below w2.heap.size w2 w3 := by rw [hX]; exact (Below.refl _ _).drew
  rw [← hX]
  have hb3 : Below w.heap.size w (w3) := hb2.trans (bw.mono hb2.size)
  have HBv1_3 : Hid ((w3).heap[qv1]? = some (.cells #[.int .i64 d.cli, .int .i64 d.qmt, .string d.qpa, v3, .string d.qbd, .int .i64 d.rst, v6, .string d.rbd, .int .i64 d.knd, .int .i64 d.tim, .string d.opa, v11, v12, .int .i64 d.ost, v14, .string d.obd, .int .i64 d.otm, .int .i64 d.bns] 42)) := blk_below HBv1_2.out bw
  have hS3 : w3.heap[qv1]? = some (.cells #[.int .i64 d.cli, .int .i64 d.qmt, .string d.qpa, v3, .string d.qbd, .int .i64 d.rst, v6, .string d.rbd, .int .i64 d.knd, .int .i64 d.tim, .string d.opa, v11, v12, .int .i64 d.ost, v14, .string d.obd, .int .i64 d.otm, .int .i64 d.bns] 42) := HBv1_3.out
  clear hb2 HBv1_2 bw hX
  refine wpAnyH_takeD (i := 0) (v := .pointer (some ⟨qv1, 0, none⟩)) (some 8) rfl rfl (by kernel_rfl) (by kernel_rfl) (by kernel_rfl) (fun _ _ _ h => h) (Or.inl ⟨by rfl, by intro W _; go_simp⟩) hS3 ?_
  simp only [Act.put, List.setIfInBounds_toArray, List.set_cons_zero, List.set_cons_succ]
  refine wpAnyH_takeD (i := 1) (v := .int .i64 d.cli) (some 9) rfl rfl (by kernel_rfl) (by kernel_rfl) (by kernel_rfl) (fun _ _ _ h => h) (Or.inl ⟨by rfl, by intro W hW; have hhv1 := hW; have y0 := (cell_of hhv1 0).trans rfl; go_simp⟩) hS3 ?_
  simp only [Act.put, List.setIfInBounds_toArray, List.set_cons_zero, List.set_cons_succ]
  refine wpAnyH_takeD (i := 4) (v := .string kk) (some 12) rfl rfl (by kernel_rfl) (by kernel_rfl) (by kernel_rfl) (fun _ _ _ h => h) (Or.inl ⟨by rfl, by intro W _; go_simp⟩) hS3 ?_
  simp only [Act.put, List.setIfInBounds_toArray, List.set_cons_zero, List.set_cons_succ]
  refine wpAnyH_takeD (i := 5) (v := .iface 9 (.string kk)) (some 13) rfl rfl (by kernel_rfl) (by kernel_rfl) (by kernel_rfl) (fun _ _ _ h => h) (Or.inl ⟨by rfl, by intro W _; go_simp⟩) hS3 ?_
  simp only [Act.put, List.setIfInBounds_toArray, List.set_cons_zero, List.set_cons_succ]
  refine wpAnyH_takeD (i := 6) (v := .pointer (some ⟨qv1, 5, none⟩)) (some 14) rfl rfl (by kernel_rfl) (by kernel_rfl) (by kernel_rfl) (fun _ _ _ h => h) (Or.inl ⟨by rfl, by intro W _; go_simp⟩) hS3 ?_
  simp only [Act.put, List.setIfInBounds_toArray, List.set_cons_zero, List.set_cons_succ]
  refine wpAnyH_takeD (i := 7) (v := .pointer (some ⟨qv1, 5, none⟩)) (some 15) rfl rfl (by kernel_rfl) (by kernel_rfl) (by kernel_rfl) (fun _ _ _ h => h) (Or.inl ⟨by rfl, by intro W _; go_simp⟩) hS3 ?_
  simp only [Act.put, List.setIfInBounds_toArray, List.set_cons_zero, List.set_cons_succ]
  refine wpAnyH_takeD (i := 8) (v := .int .i64 d.rst) (some 16) rfl rfl (by kernel_rfl) (by kernel_rfl) (by kernel_rfl) (fun _ _ _ h => h) (Or.inl ⟨by rfl, by intro W hW; have hhv1 := hW; have y5 := (cell_of hhv1 5).trans rfl; go_simp⟩) hS3 ?_
  simp only [Act.put, List.setIfInBounds_toArray, List.set_cons_zero, List.set_cons_succ]
  refine wpAnyH_takeD (i := 11) (v := .pointer (some ⟨qv1, 5, none⟩)) (some 19) rfl rfl (by kernel_rfl) (by kernel_rfl) (by kernel_rfl) (fun _ _ _ h => h) (Or.inl ⟨by rfl, by intro W _; go_simp⟩) hS3 ?_
  simp only [Act.put, List.setIfInBounds_toArray, List.set_cons_zero, List.set_cons_succ]
  refine wpAnyH_takeD (i := 12) (v := .pointer (some ⟨qv1, 6, none⟩)) (some 20) rfl rfl (by kernel_rfl) (by kernel_rfl) (by kernel_rfl) (fun _ _ _ h => h) (Or.inl ⟨by rfl, by intro W _; go_simp⟩) hS3 ?_
  simp only [Act.put, List.setIfInBounds_toArray, List.set_cons_zero, List.set_cons_succ]
  refine wpAnyH_takeD (i := 13) (v := v6) (some 21) rfl rfl (by kernel_rfl) (by kernel_rfl) (by kernel_rfl) (fun _ _ _ h => h) (Or.inl ⟨by rfl, by intro W hW; have hhv1 := hW; have y6 := (cell_of hhv1 6).trans rfl; go_simp⟩) hS3 ?_
  simp only [Act.put, List.setIfInBounds_toArray, List.set_cons_zero, List.set_cons_succ]
  refine wpAnyH_ready (rs := [2]) (by kernel_rfl) (by simp) ?_
  refine AllReadyH.cons rfl (fun K hK => ?_) AllReadyH.nil
  go_simp
  refine (implNumText_any d.cli _ hcl0 hcl1 (HTAB.out _ hb3)).mono ?_
  rintro e w4 ⟨rfl, bw⟩
  rw [HTC.out]
  have hb4 : Below w.heap.size w (w4) := hb3.trans (bw.mono hb3.size)
  have HBv1_4 : Hid ((w4).heap[qv1]? = some (.cells #[.int .i64 d.cli, .int .i64 d.qmt, .string d.qpa, v3, .string d.qbd, .int .i64 d.rst, v6, .string d.rbd, .int .i64 d.knd, .int .i64 d.tim, .string d.opa, v11, v12, .int .i64 d.ost, v14, .string d.obd, .int .i64 d.otm, .int .i64 d.bns] 42)) := blk_below HBv1_3.out bw
  clear hb3 HBv1_3 bw
  have hS4 : w4.heap[qv1]? = some (.cells #[.int .i64 d.cli, .int .i64 d.qmt, .string d.qpa, v3, .string d.qbd, .int .i64 d.rst, v6, .string d.rbd, .int .i64 d.knd, .int .i64 d.tim, .string d.opa, v11, v12, .int .i64 d.ost, v14, .string d.obd, .int .i64 d.otm, .int .i64 d.bns] 42) := HBv1_4.out
  refine hK.out _ _ hS4 (fun _ => ?_)
  clear hK K hS3
  refine wpAnyH_takeD (i := 3) (v := .iface 9 (.string tc)) (some 11) rfl rfl (by kernel_rfl) (by kernel_rfl) (by kernel_rfl) (fun _ _ _ h => h) (Or.inl ⟨by rfl, by intro W _; go_simp⟩) hS4 ?_
  simp only [Act.put, List.setIfInBounds_toArray, List.set_cons_zero, List.set_cons_succ]
  refine wpAnyH_ready (rs := [9]) (by kernel_rfl) (by simp) ?_
  refine AllReadyH.cons rfl (fun K hK => ?_) AllReadyH.nil
  go_simp
  refine (implNumText_any d.rst _ hst0 hst1 (HTAB.out _ hb4)).mono ?_
  rintro e w5 ⟨rfl, bw⟩
  rw [HTS.out]
  have hb5 : Below w.heap.size w (w5) := hb4.trans (bw.mono hb4.size)
  have HBv1_5 : Hid ((w5).heap[qv1]? = some (.cells #[.int .i64 d.cli, .int .i64 d.qmt, .string d.qpa, v3, .string d.qbd, .int .i64 d.rst, v6, .string d.rbd, .int .i64 d.knd, .int .i64 d.tim, .string d.opa, v11, v12, .int .i64 d.ost, v14, .string d.obd, .int .i64 d.otm, .int .i64 d.bns] 42)) := blk_below HBv1_4.out bw
  clear hb4 HBv1_4 bw
  have hS5 : w5.heap[qv1]? = some (.cells #[.int .i64 d.cli, .int .i64 d.qmt, .string d.qpa, v3, .string d.qbd, .int .i64 d.rst, v6, .string d.rbd, .int .i64 d.knd, .int .i64 d.tim, .string d.opa, v11, v12, .int .i64 d.ost, v14, .string d.obd, .int .i64 d.otm, .int .i64 d.bns] 42) := HBv1_5.out
  refine hK.out _ _ hS5 (fun _ => ?_)
  clear hK K hS4
  refine wpAnyH_takeD (i := 10) (v := .iface 9 (.string ts)) (some 18) rfl rfl (by kernel_rfl) (by kernel_rfl) (by kernel_rfl) (fun _ _ _ h => h) (Or.inl ⟨by rfl, by intro W _; go_simp⟩) hS5 ?_
  simp only [Act.put, List.setIfInBounds_toArray, List.set_cons_zero, List.set_cons_succ]
  refine wpAnyH_ready (rs := [14]) (by kernel_rfl) (by simp) ?_
  refine AllReadyH.cons rfl (fun K hK => ?_) AllReadyH.nil
  go_simp
  refine (agePart_any v6 _ C d.rfs _ (HFS.out _ hb5) hlf HCP.out).mono ?_
  rintro e w6 ⟨rfl, bw⟩
  rw [HAGE.out]
  have hb6 : Below w.heap.size w (w6) := hb5.trans (bw.mono hb5.size)
  have HBv1_6 : Hid ((w6).heap[qv1]? = some (.cells #[.int .i64 d.cli, .int .i64 d.qmt, .string d.qpa, v3, .string d.qbd, .int .i64 d.rst, v6, .string d.rbd, .int .i64 d.knd, .int .i64 d.tim, .string d.opa, v11, v12, .int .i64 d.ost, v14, .string d.obd, .int .i64 d.otm, .int .i64 d.bns] 42)) := blk_below HBv1_5.out bw
  clear hb5 HBv1_5 bw
  have hS6 : w6.heap[qv1]? = some (.cells #[.int .i64 d.cli, .int .i64 d.qmt, .string d.qpa, v3, .string d.qbd, .int .i64 d.rst, v6, .string d.rbd, .int .i64 d.knd, .int .i64 d.tim, .string d.opa, v11, v12, .int .i64 d.ost, v14, .string d.obd, .int .i64 d.otm, .int .i64 d.bns] 42) := HBv1_6.out
  refine hK.out _ _ hS6 (fun _ => ?_)
  clear hK K hS5
  refine wpAnyH_ready (rs := [15]) (by kernel_rfl) (by simp) ?_
  refine AllReadyH.cons rfl (fun K hK => ?_) AllReadyH.nil
  go_simp
  have bw : Below w6.heap.size w6 (w6.alloc (.cells #[.iface 9 (.string tc), .iface 9 (.string kk), .iface 9 (.string ts), .iface 9 (.string gv)] 20)) := (Below.refl _ _).alloc (Nat.le_refl _) _
  have hSA : (w6.alloc (.cells #[.iface 9 (.string tc), .iface 9 (.string kk), .iface 9 (.string ts), .iface 9 (.string gv)] 20)).heap[qv1]? = some (.cells #[.int .i64 d.cli, .int .i64 d.qmt, .string d.qpa, v3, .string d.qbd, .int .i64 d.rst, v6, .string d.rbd, .int .i64 d.knd, .int .i64 d.tim, .string d.opa, v11, v12, .int .i64 d.ost, v14, .string d.obd, .int .i64 d.otm, .int .i64 d.bns] 42) := blk_below HBv1_6.out bw
  refine hK.out _ _ hSA (fun _ => ?_)
  clear hK K hSA bw hS6
  obtain ⟨qv2, hqv2⟩ : ∃ o, o = w6.heap.size := ⟨_, rfl⟩
  obtain ⟨w7, hXj⟩ : ∃ X, X = (w6.alloc (.cells #[.iface 9 (.string tc), .iface 9 (.string kk), .iface 9 (.string ts), .iface 9 (.string gv)] 20)) := ⟨_, rfl⟩
  rw [← hqv2, ← hXj]
  have bw : Below w6.heap.size w6 w7 := by rw [hXj]; exact (Below.refl _ _).alloc (Nat.le_refl _) _
  have hb7 : Below w.heap.size w (w7) := hb6.trans (bw.mono hb6.size)
  have HBv1_7 : Hid ((w7).heap[qv1]? = some (.cells #[.int .i64 d.cli, .int .i64 d.qmt, .string d.qpa, v3, .string d.qbd, .int .i64 d.rst, v6, .string d.rbd, .int .i64 d.knd, .int .i64 d.tim, .string d.opa, v11, v12, .int .i64 d.ost, v14, .string d.obd, .int .i64 d.otm, .int .i64 d.bns] 42)) := blk_below HBv1_6.out bw
  have HNv1v2 : Hid (qv1 ≠ qv2) := fun e => by have h1 := (Array.getElem?_eq_some_iff.1 HBv1_6.out).1; omega
  have HBv2_7 : Hid ((w7).heap[qv2]? = some (.cells #[.iface 9 (.string tc), .iface 9 (.string kk), .iface 9 (.string ts), .iface 9 (.string gv)] 20)) := by show _ = _; rw [hXj, hqv2]; exact heap_alloc_new _ _
  have HGv2 : Hid (w.heap.size ≤ qv2) := by show _ ≤ _; rw [hqv2]; exact hb6.size
  have hS7 : w7.heap[qv1]? = some (.cells #[.int .i64 d.cli, .int .i64 d.qmt, .string d.qpa, v3, .string d.qbd, .int .i64 d.rst, v6, .string d.rbd, .int .i64 d.knd, .int .i64 d.tim, .string d.opa, v11, v12, .int .i64 d.ost, v14, .string d.obd, .int .i64 d.otm, .int .i64 d.bns] 42) := HBv1_7.out
  clear hb6 HBv1_6 bw hXj hqv2
  refine wpAnyH_takeD (i := 16) (v := .slice (some ⟨qv2, 0, none⟩) 4 4) (some 4) rfl rfl (by kernel_rfl) (by kernel_rfl) (by kernel_rfl) (fun _ _ _ h => h) (Or.inl ⟨by rfl, by intro W _; go_simp⟩) hS7 ?_
  simp only [Act.put, List.setIfInBounds_toArray, List.set_cons_zero, List.set_cons_succ]
  clear hS7
  refine wpAnyH_done (by kernel_rfl) ?_ _
  by_cases hc1 : kk = ⟨#[]⟩
  · have hc1b : (kk).toList.isEmpty = true := isEmpty_yes (by rw [hc1]; rfl)
    have HKE : Hid ((kk = ⟨#[]⟩)) := hc1
    have hcl : ∀ ty, (Builtin.clear_ #[57] ty #[.slice (some ⟨qv2, 0, none⟩) 4 4]).run Tryd.prog w7 = .ok (.tuple #[]) (w7.setCells qv2 0 (List.replicate 4 .nilIface)) := fun ty => Lib.run_clear_slice w7 57 20 ty .nilIface Tryd.underlying57 Tryd.zeroValue20 rfl rfl qv2 0 4 4 (by decide) (fun m hm => by
      rw [Nat.zero_add, cell_of HBv2_7.out m]
      match m, hm with
      | 0, _ => rfl
      | 1, _ => rfl
      | 2, _ => rfl
      | 3, _ => rfl) (fun m _ => frozen_of HBv2_7.out _)
    obtain ⟨w8, hWj⟩ : ∃ W, W = w7.setCells qv2 0 (List.replicate 4 .nilIface) := ⟨_, rfl⟩
    rw [← hWj] at hcl
    have hb8 : Below w.heap.size w (w8) := by rw [hWj]; exact big_below HGv2.out hb7
    have HM8 : Hid ((w7).heap.size ≤ w8.heap.size) := by show _ ≤ _; rw [hWj, big_size]; exact Nat.le_refl _
    have HBv1_8 : Hid ((w8).heap[qv1]? = some (.cells #[.int .i64 d.cli, .int .i64 d.qmt, .string d.qpa, v3, .string d.qbd, .int .i64 d.rst, v6, .string d.rbd, .int .i64 d.knd, .int .i64 d.tim, .string d.opa, v11, v12, .int .i64 d.ost, v14, .string d.obd, .int .i64 d.otm, .int .i64 d.bns] 42)) := by show _ = _; rw [hWj, big_other HNv1v2.out]; exact HBv1_7.out
    have HBv2_8 : Hid ((w8).heap[qv2]? = some (.cells #[.nilIface, .nilIface, .nilIface, .nilIface] 20)) := by show _ = _; rw [hWj]; exact big_block (ds := #[.nilIface, .nilIface, .nilIface, .nilIface]) HBv2_7.out rfl
    clear hb7 HBv1_7 HBv2_7 hWj
    go_wp2_with fail
    refine ((rowText_any _ 4 0 [none, none, none, none] _ rfl (row_of_four HBv2_8.out) (by decide) (fun x hx => by simp [shownL] at hx)).mono (fun e w2 h => (show TextIs (joinS ([] : List ByteArray)) _ e w2 from h))).mono ?_
    rintro e w9 ⟨rfl, bw⟩
    have hb9 : Below w.heap.size w (w9) := hb8.trans (bw.mono hb8.size)
    have HBv1_9 : Hid ((w9).heap[qv1]? = some (.cells #[.int .i64 d.cli, .int .i64 d.qmt, .string d.qpa, v3, .string d.qbd, .int .i64 d.rst, v6, .string d.rbd, .int .i64 d.knd, .int .i64 d.tim, .string d.opa, v11, v12, .int .i64 d.ost, v14, .string d.obd, .int .i64 d.otm, .int .i64 d.bns] 42)) := blk_below HBv1_8.out bw
    have HBv2_9 : Hid ((w9).heap[qv2]? = some (.cells #[.nilIface, .nilIface, .nilIface, .nilIface] 20)) := blk_below HBv2_8.out bw
    clear hb8 HBv1_8 HBv2_8 bw
    clear hcl
    go_wp2_with fail
    go_ret
    exact TextIs.of (HE0.out HKE.out).symm hb9
  · have hc1b : (kk).toList.isEmpty = false := isEmpty_no (Nat.pos_of_ne_zero (fun e => hc1 (empty_text e)))
    have HKE : Hid (¬ (kk = ⟨#[]⟩)) := hc1
    go_wp2_with fail
    refine ((rowText_any _ 4 0 [some tc, some kk, some ts, some gv] _ rfl (row_of_four HBv2_7.out) (by decide) (fun x hx => by simp [shownL] at hx; rcases hx with rfl | rfl | rfl | rfl <;> omega)).mono (fun e w2 h => (show TextIs (joinS [tc, kk, ts, gv]) _ e w2 from h))).mono ?_
    rintro e w8 ⟨rfl, bw⟩
    have hb8 : Below w.heap.size w (w8) := hb7.trans (bw.mono hb7.size)
    have HM8 : Hid ((w7).heap.size ≤ (w8).heap.size) := bw.size
    have HBv1_8 : Hid ((w8).heap[qv1]? = some (.cells #[.int .i64 d.cli, .int .i64 d.qmt, .string d.qpa, v3, .string d.qbd, .int .i64 d.rst, v6, .string d.rbd, .int .i64 d.knd, .int .i64 d.tim, .string d.opa, v11, v12, .int .i64 d.ost, v14, .string d.obd, .int .i64 d.otm, .int .i64 d.bns] 42)) := blk_below HBv1_7.out bw
    have HBv2_8 : Hid ((w8).heap[qv2]? = some (.cells #[.iface 9 (.string tc), .iface 9 (.string kk), .iface 9 (.string ts), .iface 9 (.string gv)] 20)) := blk_below HBv2_7.out bw
    clear hb7 HBv1_7 HBv2_7 bw
    go_wp2_with fail
    go_ret
    exact TextIs.of (by rw [HE1.out HKE.out HGBV.out, joinS_four]) hb8

set_option maxHeartbeats 8000000 in
set_option maxRecDepth 100000 in
theorem implReplyText_none (d : RpD) (v3 v6 v11 v12 v14 : Value) (C : Nat) (w : World) (h6 : FieldsV w C v6 d.rfs.length d.rfs) (hl : d.rfs.length ≤ 1048576) (hcp : CopyF d.rfs) (hg : (getV d.rfs ageB).size ≤ 1048576) (hcl0 : -9223372036854775808 ≤ d.cli) (hcl1 : d.cli ≤ 9223372036854775807) (hst0 : -9223372036854775808 ≤ d.rst) (hst1 : d.rst ≤ 9223372036854775807) (hT : TabOk w) (hgbv : getB d.rfs ageB = false) :
    Calls Tryd.prog 7 #[.agg #[.int .i64 d.cli, .int .i64 d.qmt, .string d.qpa, v3, .string d.qbd, .int .i64 d.rst, v6, .string d.rbd, .int .i64 d.knd, .int .i64 d.tim, .string d.opa, v11, v12, .int .i64 d.ost, v14, .string d.obd, .int .i64 d.otm, .int .i64 d.bns]] w fun e w' => TextIs (replyT d.cli d.knd d.rst d.rfs) w e w' := by
  have HFS : Hid (∀ W, Below w.heap.size w W → FieldsV W C v6 d.rfs.length d.rfs) := fun W h => h6.below h
  have HCP : Hid (CopyF d.rfs) := hcp
  have hlf : d.rfs.length ≤ 1073741824 := by omega
  obtain ⟨kk, hkk⟩ : ∃ k, k = kindT d.knd := ⟨_, rfl⟩
  obtain ⟨tc, htc⟩ : ∃ k, k = numTextI d.cli := ⟨_, rfl⟩
  obtain ⟨ts, hts⟩ : ∃ k, k = numTextI d.rst := ⟨_, rfl⟩
  obtain ⟨gv, hgv⟩ : ∃ k, k = getV d.rfs ageB := ⟨_, rfl⟩
  obtain ⟨gb, hgb⟩ : ∃ k, k = getB d.rfs ageB := ⟨_, rfl⟩
  have zk : kk.size ≤ 5 := by rw [hkk]; exact kindT_size _
  have zc : tc.size ≤ 20 := by rw [htc]; exact numTextI_20 _
  have zs : ts.size ≤ 20 := by rw [hts]; exact numTextI_20 _
  have zg : gv.size ≤ 1048576 := by rw [hgv]; exact hg
  have HKK : Hid (kindT d.knd = kk) := hkk.symm
  have HTC : Hid (numTextI d.cli = tc) := htc.symm
  have HTS : Hid (numTextI d.rst = ts) := hts.symm
  have HGB : Hid (getB d.rfs ageB = gb) := hgb.symm
  have HE0 : Hid (kk = ⟨#[]⟩ → replyT d.cli d.knd d.rst d.rfs = ⟨#[]⟩) := fun h => replyT_no (by rw [← hkk]; exact h)
  have HE1 : Hid (¬ kk = ⟨#[]⟩ → gb = true → replyT d.cli d.knd d.rst d.rfs = tc ++ blankB ++ kk ++ blankB ++ ts ++ blankB ++ gv) := fun h hb => by rw [hkk, htc, hts, hgv]; exact replyT_age (by rw [← hkk]; exact h) (by rw [← hgb]; exact hb)
  have HE2 : Hid (¬ kk = ⟨#[]⟩ → gb = false → replyT d.cli d.knd d.rst d.rfs = tc ++ blankB ++ kk ++ blankB ++ ts) := fun h hb => by rw [hkk, htc, hts]; exact replyT_none (by rw [← hkk]; exact h) (by rw [← hgb]; exact hb)
  have HAP : Hid (ageP d.rfs = if gb = true then some gv else none) := by show _ = _; unfold ageP; rw [← hgb, ← hgv]
  clear hkk htc hts hgv hgb h6 hcp hg
  have HTAB : Hid (∀ W, Below w.heap.size w W → TabOk W) := fun W h => hT.below h
  clear hT
  have HGBV : Hid (gb = false) := HGB.out.symm.trans hgbv
  have HAGE : Hid (partV (ageP d.rfs) = .nilIface) := by show _ = _; rw [HAP.out, HGBV.out]; rfl
  clear hgbv
  have hb0 : Below w.heap.size w w := Below.refl _ _
  go_enter Tryd.func7, Tryd.ntmps7
  go_upto_region 1 with fail
  obtain ⟨qv1, hqv1⟩ : ∃ q, q = (w).heap.size := ⟨_, rfl⟩
  obtain ⟨w1, hW1⟩ : ∃ W, W = (w).alloc (.cells #[.int .i64 d.cli, .int .i64 d.qmt, .string d.qpa, v3, .string d.qbd, .int .i64 d.rst, v6, .string d.rbd, .int .i64 d.knd, .int .i64 d.tim, .string d.opa, v11, v12, .int .i64 d.ost, v14, .string d.obd, .int .i64 d.otm, .int .i64 d.bns] 42) := ⟨_, rfl⟩
  have hz1 : (w).heap.size = qv1 := hqv1.symm
  first | rw [← hW1, ← hqv1] | rw [← hW1]
  have hs1 : w1.heap.size = qv1 + 1 := by rw [hW1, ← hz1]; simp
  have bw : Below (w).heap.size (w) w1 := by rw [hW1]; exact (Below.refl _ _).alloc (Nat.le_refl _) _
  have hb1 : Below w.heap.size w (w1) := hb0.trans (bw.mono hb0.size)
  have HBv1_1 : Hid ((w1).heap[qv1]? = some (.cells #[.int .i64 d.cli, .int .i64 d.qmt, .string d.qpa, v3, .string d.qbd, .int .i64 d.rst, v6, .string d.rbd, .int .i64 d.knd, .int .i64 d.tim, .string d.opa, v11, v12, .int .i64 d.ost, v14, .string d.obd, .int .i64 d.otm, .int .i64 d.bns] 42)) := by show _ = _; rw [hW1, ← hz1]; exact heap_alloc_new _ _
  clear hb0 bw hW1 hz1
  clear hs1 hqv1
  have cv1_8 : (w1).cell? ⟨qv1, 8, none⟩ = some (.int .i64 d.knd) := (cell_of HBv1_1.out 8).trans rfl
  go_wp2_with fail
  refine (implKindText_any d.knd _).mono ?_
  rintro e w2 ⟨rfl, bw⟩
  rw [HKK.out]
  have hb2 : Below w.heap.size w (w2) := hb1.trans (bw.mono hb1.size)
  have HBv1_2 : Hid ((w2).heap[qv1]? = some (.cells #[.int .i64 d.cli, .int .i64 d.qmt, .string d.qpa, v3, .string d.qbd, .int .i64 d.rst, v6, .string d.rbd, .int .i64 d.knd, .int .i64 d.tim, .string d.opa, v11, v12, .int .i64 d.ost, v14, .string d.obd, .int .i64 d.otm, .int .i64 d.bns] 42)) := blk_below HBv1_1.out bw
  clear hb1 HBv1_1 bw
  clear cv1_8
  go_upto_region 2 with fail
  refine wp_region_held_drew (S := fun W => W.heap[qv1]? = some (.cells #[.int .i64 d.cli, .int .i64 d.qmt, .string d.qpa, v3, .string d.qbd, .int .i64 d.rst, v6, .string d.rbd, .int .i64 d.knd, .int .i64 d.tim, .string d.opa, v11, v12, .int .i64 d.ost, v14, .string d.obd, .int .i64 d.otm, .int .i64 d.bns] 42)) (by kernel_rfl) HBv1_2.out (fun _ => ?_)
  obtain ⟨w3, hX⟩ : ∃ X, X = w2.drew := ⟨_, rfl⟩
  have bw : Below w2.heap.size w2 w3 := by rw [hX]; exact (Below.refl _ _).drew
  rw [← hX]
  have hb3 : Below w.heap.size w (w3) := hb2.trans (bw.mono hb2.size)
  have HBv1_3 : Hid ((w3).heap[qv1]? = some (.cells #[.int .i64 d.cli, .int .i64 d.qmt, .string d.qpa, v3, .string d.qbd, .int .i64 d.rst, v6, .string d.rbd, .int .i64 d.knd, .int .i64 d.tim, .string d.opa, v11, v12, .int .i64 d.ost, v14, .string d.obd, .int .i64 d.otm, .int .i64 d.bns] 42)) := blk_below HBv1_2.out bw
  have hS3 : w3.heap[qv1]? = some (.cells #[.int .i64 d.cli, .int .i64 d.qmt, .string d.qpa, v3, .string d.qbd, .int .i64 d.rst, v6, .string d.rbd, .int .i64 d.knd, .int .i64 d.tim, .string d.opa, v11, v12, .int .i64 d.ost, v14, .string d.obd, .int .i64 d.otm, .int .i64 d.bns] 42) := HBv1_3.out
  clear hb2 HBv1_2 bw hX
  refine wpAnyH_takeD (i := 0) (v := .pointer (some ⟨qv1, 0, none⟩)) (some 8) rfl rfl (by kernel_rfl) (by kernel_rfl) (by kernel_rfl) (fun _ _ _ h => h) (Or.inl ⟨by rfl, by intro W _; go_simp⟩) hS3 ?_
  simp only [Act.put, List.setIfInBounds_toArray, List.set_cons_zero, List.set_cons_succ]
  refine wpAnyH_takeD (i := 1) (v := .int .i64 d.cli) (some 9) rfl rfl (by kernel_rfl) (by kernel_rfl) (by kernel_rfl) (fun _ _ _ h => h) (Or.inl ⟨by rfl, by intro W hW; have hhv1 := hW; have y0 := (cell_of hhv1 0).trans rfl; go_simp⟩) hS3 ?_
  simp only [Act.put, List.setIfInBounds_toArray, List.set_cons_zero, List.set_cons_succ]
  refine wpAnyH_takeD (i := 4) (v := .string kk) (some 12) rfl rfl (by kernel_rfl) (by kernel_rfl) (by kernel_rfl) (fun _ _ _ h => h) (Or.inl ⟨by rfl, by intro W _; go_simp⟩) hS3 ?_
  simp only [Act.put, List.setIfInBounds_toArray, List.set_cons_zero, List.set_cons_succ]
  refine wpAnyH_takeD (i := 5) (v := .iface 9 (.string kk)) (some 13) rfl rfl (by kernel_rfl) (by kernel_rfl) (by kernel_rfl) (fun _ _ _ h => h) (Or.inl ⟨by rfl, by intro W _; go_simp⟩) hS3 ?_
  simp only [Act.put, List.setIfInBounds_toArray, List.set_cons_zero, List.set_cons_succ]
  refine wpAnyH_takeD (i := 6) (v := .pointer (some ⟨qv1, 5, none⟩)) (some 14) rfl rfl (by kernel_rfl) (by kernel_rfl) (by kernel_rfl) (fun _ _ _ h => h) (Or.inl ⟨by rfl, by intro W _; go_simp⟩) hS3 ?_
  simp only [Act.put, List.setIfInBounds_toArray, List.set_cons_zero, List.set_cons_succ]
  refine wpAnyH_takeD (i := 7) (v := .pointer (some ⟨qv1, 5, none⟩)) (some 15) rfl rfl (by kernel_rfl) (by kernel_rfl) (by kernel_rfl) (fun _ _ _ h => h) (Or.inl ⟨by rfl, by intro W _; go_simp⟩) hS3 ?_
  simp only [Act.put, List.setIfInBounds_toArray, List.set_cons_zero, List.set_cons_succ]
  refine wpAnyH_takeD (i := 8) (v := .int .i64 d.rst) (some 16) rfl rfl (by kernel_rfl) (by kernel_rfl) (by kernel_rfl) (fun _ _ _ h => h) (Or.inl ⟨by rfl, by intro W hW; have hhv1 := hW; have y5 := (cell_of hhv1 5).trans rfl; go_simp⟩) hS3 ?_
  simp only [Act.put, List.setIfInBounds_toArray, List.set_cons_zero, List.set_cons_succ]
  refine wpAnyH_takeD (i := 11) (v := .pointer (some ⟨qv1, 5, none⟩)) (some 19) rfl rfl (by kernel_rfl) (by kernel_rfl) (by kernel_rfl) (fun _ _ _ h => h) (Or.inl ⟨by rfl, by intro W _; go_simp⟩) hS3 ?_
  simp only [Act.put, List.setIfInBounds_toArray, List.set_cons_zero, List.set_cons_succ]
  refine wpAnyH_takeD (i := 12) (v := .pointer (some ⟨qv1, 6, none⟩)) (some 20) rfl rfl (by kernel_rfl) (by kernel_rfl) (by kernel_rfl) (fun _ _ _ h => h) (Or.inl ⟨by rfl, by intro W _; go_simp⟩) hS3 ?_
  simp only [Act.put, List.setIfInBounds_toArray, List.set_cons_zero, List.set_cons_succ]
  refine wpAnyH_takeD (i := 13) (v := v6) (some 21) rfl rfl (by kernel_rfl) (by kernel_rfl) (by kernel_rfl) (fun _ _ _ h => h) (Or.inl ⟨by rfl, by intro W hW; have hhv1 := hW; have y6 := (cell_of hhv1 6).trans rfl; go_simp⟩) hS3 ?_
  simp only [Act.put, List.setIfInBounds_toArray, List.set_cons_zero, List.set_cons_succ]
  refine wpAnyH_ready (rs := [2]) (by kernel_rfl) (by simp) ?_
  refine AllReadyH.cons rfl (fun K hK => ?_) AllReadyH.nil
  go_simp
  refine (implNumText_any d.cli _ hcl0 hcl1 (HTAB.out _ hb3)).mono ?_
  rintro e w4 ⟨rfl, bw⟩
  rw [HTC.out]
  have hb4 : Below w.heap.size w (w4) := hb3.trans (bw.mono hb3.size)
  have HBv1_4 : Hid ((w4).heap[qv1]? = some (.cells #[.int .i64 d.cli, .int .i64 d.qmt, .string d.qpa, v3, .string d.qbd, .int .i64 d.rst, v6, .string d.rbd, .int .i64 d.knd, .int .i64 d.tim, .string d.opa, v11, v12, .int .i64 d.ost, v14, .string d.obd, .int .i64 d.otm, .int .i64 d.bns] 42)) := blk_below HBv1_3.out bw
  clear hb3 HBv1_3 bw
  have hS4 : w4.heap[qv1]? = some (.cells #[.int .i64 d.cli, .int .i64 d.qmt, .string d.qpa, v3, .string d.qbd, .int .i64 d.rst, v6, .string d.rbd, .int .i64 d.knd, .int .i64 d.tim, .string d.opa, v11, v12, .int .i64 d.ost, v14, .string d.obd, .int .i64 d.otm, .int .i64 d.bns] 42) := HBv1_4.out
  refine hK.out _ _ hS4 (fun _ => ?_)
  clear hK K hS3
  refine wpAnyH_takeD (i := 3) (v := .iface 9 (.string tc)) (some 11) rfl rfl (by kernel_rfl) (by kernel_rfl) (by kernel_rfl) (fun _ _ _ h => h) (Or.inl ⟨by rfl, by intro W _; go_simp⟩) hS4 ?_
  simp only [Act.put, List.setIfInBounds_toArray, List.set_cons_zero, List.set_cons_succ]
  refine wpAnyH_ready (rs := [9]) (by kernel_rfl) (by simp) ?_
  refine AllReadyH.cons rfl (fun K hK => ?_) AllReadyH.nil
  go_simp
  refine (implNumText_any d.rst _ hst0 hst1 (HTAB.out _ hb4)).mono ?_
  rintro e w5 ⟨rfl, bw⟩
  rw [HTS.out]
  have hb5 : Below w.heap.size w (w5) := hb4.trans (bw.mono hb4.size)
  have HBv1_5 : Hid ((w5).heap[qv1]? = some (.cells #[.int .i64 d.cli, .int .i64 d.qmt, .string d.qpa, v3, .string d.qbd, .int .i64 d.rst, v6, .string d.rbd, .int .i64 d.knd, .int .i64 d.tim, .string d.opa, v11, v12, .int .i64 d.ost, v14, .string d.obd, .int .i64 d.otm, .int .i64 d.bns] 42)) := blk_below HBv1_4.out bw
  clear hb4 HBv1_4 bw
  have hS5 : w5.heap[qv1]? = some (.cells #[.int .i64 d.cli, .int .i64 d.qmt, .string d.qpa, v3, .string d.qbd, .int .i64 d.rst, v6, .string d.rbd, .int .i64 d.knd, .int .i64 d.tim, .string d.opa, v11, v12, .int .i64 d.ost, v14, .string d.obd, .int .i64 d.otm, .int .i64 d.bns] 42) := HBv1_5.out
  refine hK.out _ _ hS5 (fun _ => ?_)
  clear hK K hS4
  refine wpAnyH_takeD (i := 10) (v := .iface 9 (.string ts)) (some 18) rfl rfl (by kernel_rfl) (by kernel_rfl) (by kernel_rfl) (fun _ _ _ h => h) (Or.inl ⟨by rfl, by intro W _; go_simp⟩) hS5 ?_
  simp only [Act.put, List.setIfInBounds_toArray, List.set_cons_zero, List.set_cons_succ]
  refine wpAnyH_ready (rs := [14]) (by kernel_rfl) (by simp) ?_
  refine AllReadyH.cons rfl (fun K hK => ?_) AllReadyH.nil
  go_simp
  refine (agePart_any v6 _ C d.rfs _ (HFS.out _ hb5) hlf HCP.out).mono ?_
  rintro e w6 ⟨rfl, bw⟩
  rw [HAGE.out]
  have hb6 : Below w.heap.size w (w6) := hb5.trans (bw.mono hb5.size)
  have HBv1_6 : Hid ((w6).heap[qv1]? = some (.cells #[.int .i64 d.cli, .int .i64 d.qmt, .string d.qpa, v3, .string d.qbd, .int .i64 d.rst, v6, .string d.rbd, .int .i64 d.knd, .int .i64 d.tim, .string d.opa, v11, v12, .int .i64 d.ost, v14, .string d.obd, .int .i64 d.otm, .int .i64 d.bns] 42)) := blk_below HBv1_5.out bw
  clear hb5 HBv1_5 bw
  have hS6 : w6.heap[qv1]? = some (.cells #[.int .i64 d.cli, .int .i64 d.qmt, .string d.qpa, v3, .string d.qbd, .int .i64 d.rst, v6, .string d.rbd, .int .i64 d.knd, .int .i64 d.tim, .string d.opa, v11, v12, .int .i64 d.ost, v14, .string d.obd, .int .i64 d.otm, .int .i64 d.bns] 42) := HBv1_6.out
  refine hK.out _ _ hS6 (fun _ => ?_)
  clear hK K hS5
  refine wpAnyH_ready (rs := [15]) (by kernel_rfl) (by simp) ?_
  refine AllReadyH.cons rfl (fun K hK => ?_) AllReadyH.nil
  go_simp
  have bw : Below w6.heap.size w6 (w6.alloc (.cells #[.iface 9 (.string tc), .iface 9 (.string kk), .iface 9 (.string ts), .nilIface] 20)) := (Below.refl _ _).alloc (Nat.le_refl _) _
  have hSA : (w6.alloc (.cells #[.iface 9 (.string tc), .iface 9 (.string kk), .iface 9 (.string ts), .nilIface] 20)).heap[qv1]? = some (.cells #[.int .i64 d.cli, .int .i64 d.qmt, .string d.qpa, v3, .string d.qbd, .int .i64 d.rst, v6, .string d.rbd, .int .i64 d.knd, .int .i64 d.tim, .string d.opa, v11, v12, .int .i64 d.ost, v14, .string d.obd, .int .i64 d.otm, .int .i64 d.bns] 42) := blk_below HBv1_6.out bw
  refine hK.out _ _ hSA (fun _ => ?_)
  clear hK K hSA bw hS6
  obtain ⟨qv2, hqv2⟩ : ∃ o, o = w6.heap.size := ⟨_, rfl⟩
  obtain ⟨w7, hXj⟩ : ∃ X, X = (w6.alloc (.cells #[.iface 9 (.string tc), .iface 9 (.string kk), .iface 9 (.string ts), .nilIface] 20)) := ⟨_, rfl⟩
  rw [← hqv2, ← hXj]
  have bw : Below w6.heap.size w6 w7 := by rw [hXj]; exact (Below.refl _ _).alloc (Nat.le_refl _) _
  have hb7 : Below w.heap.size w (w7) := hb6.trans (bw.mono hb6.size)
  have HBv1_7 : Hid ((w7).heap[qv1]? = some (.cells #[.int .i64 d.cli, .int .i64 d.qmt, .string d.qpa, v3, .string d.qbd, .int .i64 d.rst, v6, .string d.rbd, .int .i64 d.knd, .int .i64 d.tim, .string d.opa, v11, v12, .int .i64 d.ost, v14, .string d.obd, .int .i64 d.otm, .int .i64 d.bns] 42)) := blk_below HBv1_6.out bw
  have HNv1v2 : Hid (qv1 ≠ qv2) := fun e => by have h1 := (Array.getElem?_eq_some_iff.1 HBv1_6.out).1; omega
  have HBv2_7 : Hid ((w7).heap[qv2]? = some (.cells #[.iface 9 (.string tc), .iface 9 (.string kk), .iface 9 (.string ts), .nilIface] 20)) := by show _ = _; rw [hXj, hqv2]; exact heap_alloc_new _ _
  have HGv2 : Hid (w.heap.size ≤ qv2) := by show _ ≤ _; rw [hqv2]; exact hb6.size
  have hS7 : w7.heap[qv1]? = some (.cells #[.int .i64 d.cli, .int .i64 d.qmt, .string d.qpa, v3, .string d.qbd, .int .i64 d.rst, v6, .string d.rbd, .int .i64 d.knd, .int .i64 d.tim, .string d.opa, v11, v12, .int .i64 d.ost, v14, .string d.obd, .int .i64 d.otm, .int .i64 d.bns] 42) := HBv1_7.out
  clear hb6 HBv1_6 bw hXj hqv2
  refine wpAnyH_takeD (i := 16) (v := .slice (some ⟨qv2, 0, none⟩) 4 4) (some 4) rfl rfl (by kernel_rfl) (by kernel_rfl) (by kernel_rfl) (fun _ _ _ h => h) (Or.inl ⟨by rfl, by intro W _; go_simp⟩) hS7 ?_
  simp only [Act.put, List.setIfInBounds_toArray, List.set_cons_zero, List.set_cons_succ]
  clear hS7
  refine wpAnyH_done (by kernel_rfl) ?_ _
  by_cases hc1 : kk = ⟨#[]⟩
  · have hc1b : (kk).toList.isEmpty = true := isEmpty_yes (by rw [hc1]; rfl)
    have HKE : Hid ((kk = ⟨#[]⟩)) := hc1
    have hcl : ∀ ty, (Builtin.clear_ #[57] ty #[.slice (some ⟨qv2, 0, none⟩) 4 4]).run Tryd.prog w7 = .ok (.tuple #[]) (w7.setCells qv2 0 (List.replicate 4 .nilIface)) := fun ty => Lib.run_clear_slice w7 57 20 ty .nilIface Tryd.underlying57 Tryd.zeroValue20 rfl rfl qv2 0 4 4 (by decide) (fun m hm => by
      rw [Nat.zero_add, cell_of HBv2_7.out m]
      match m, hm with
      | 0, _ => rfl
      | 1, _ => rfl
      | 2, _ => rfl
      | 3, _ => rfl) (fun m _ => frozen_of HBv2_7.out _)
    obtain ⟨w8, hWj⟩ : ∃ W, W = w7.setCells qv2 0 (List.replicate 4 .nilIface) := ⟨_, rfl⟩
    rw [← hWj] at hcl
    have hb8 : Below w.heap.size w (w8) := by rw [hWj]; exact big_below HGv2.out hb7
    have HM8 : Hid ((w7).heap.size ≤ w8.heap.size) := by show _ ≤ _; rw [hWj, big_size]; exact Nat.le_refl _
    have HBv1_8 : Hid ((w8).heap[qv1]? = some (.cells #[.int .i64 d.cli, .int .i64 d.qmt, .string d.qpa, v3, .string d.qbd, .int .i64 d.rst, v6, .string d.rbd, .int .i64 d.knd, .int .i64 d.tim, .string d.opa, v11, v12, .int .i64 d.ost, v14, .string d.obd, .int .i64 d.otm, .int .i64 d.bns] 42)) := by show _ = _; rw [hWj, big_other HNv1v2.out]; exact HBv1_7.out
    have HBv2_8 : Hid ((w8).heap[qv2]? = some (.cells #[.nilIface, .nilIface, .nilIface, .nilIface] 20)) := by show _ = _; rw [hWj]; exact big_block (ds := #[.nilIface, .nilIface, .nilIface, .nilIface]) HBv2_7.out rfl
    clear hb7 HBv1_7 HBv2_7 hWj
    go_wp2_with fail
    refine ((rowText_any _ 4 0 [none, none, none, none] _ rfl (row_of_four HBv2_8.out) (by decide) (fun x hx => by simp [shownL] at hx)).mono (fun e w2 h => (show TextIs (joinS ([] : List ByteArray)) _ e w2 from h))).mono ?_
    rintro e w9 ⟨rfl, bw⟩
    have hb9 : Below w.heap.size w (w9) := hb8.trans (bw.mono hb8.size)
    have HBv1_9 : Hid ((w9).heap[qv1]? = some (.cells #[.int .i64 d.cli, .int .i64 d.qmt, .string d.qpa, v3, .string d.qbd, .int .i64 d.rst, v6, .string d.rbd, .int .i64 d.knd, .int .i64 d.tim, .string d.opa, v11, v12, .int .i64 d.ost, v14, .string d.obd, .int .i64 d.otm, .int .i64 d.bns] 42)) := blk_below HBv1_8.out bw
    have HBv2_9 : Hid ((w9).heap[qv2]? = some (.cells #[.nilIface, .nilIface, .nilIface, .nilIface] 20)) := blk_below HBv2_8.out bw
    clear hb8 HBv1_8 HBv2_8 bw
    clear hcl
    go_wp2_with fail
    go_ret
    exact TextIs.of (HE0.out HKE.out).symm hb9
  · have hc1b : (kk).toList.isEmpty = false := isEmpty_no (Nat.pos_of_ne_zero (fun e => hc1 (empty_text e)))
    have HKE : Hid (¬ (kk = ⟨#[]⟩)) := hc1
    go_wp2_with fail
    refine ((rowText_any _ 4 0 [some tc, some kk, some ts, none] _ rfl (row_of_four HBv2_7.out) (by decide) (fun x hx => by simp [shownL] at hx; rcases hx with rfl | rfl | rfl <;> omega)).mono (fun e w2 h => (show TextIs (joinS [tc, kk, ts]) _ e w2 from h))).mono ?_
    rintro e w8 ⟨rfl, bw⟩
    have hb8 : Below w.heap.size w (w8) := hb7.trans (bw.mono hb7.size)
    have HM8 : Hid ((w7).heap.size ≤ (w8).heap.size) := bw.size
    have HBv1_8 : Hid ((w8).heap[qv1]? = some (.cells #[.int .i64 d.cli, .int .i64 d.qmt, .string d.qpa, v3, .string d.qbd, .int .i64 d.rst, v6, .string d.rbd, .int .i64 d.knd, .int .i64 d.tim, .string d.opa, v11, v12, .int .i64 d.ost, v14, .string d.obd, .int .i64 d.otm, .int .i64 d.bns] 42)) := blk_below HBv1_7.out bw
    have HBv2_8 : Hid ((w8).heap[qv2]? = some (.cells #[.iface 9 (.string tc), .iface 9 (.string kk), .iface 9 (.string ts), .nilIface] 20)) := blk_below HBv2_7.out bw
    clear hb7 HBv1_7 HBv2_7 bw
    go_wp2_with fail
    go_ret
    exact TextIs.of (by rw [HE2.out HKE.out HGBV.out, joinS_three]) hb8

theorem implReplyText_any (d : RpD) (v3 v6 v11 v12 v14 : Value) (C : Nat) (w : World) (h6 : FieldsV w C v6 d.rfs.length d.rfs) (hl : d.rfs.length ≤ 1048576) (hcp : CopyF d.rfs) (hg : (getV d.rfs ageB).size ≤ 1048576) (hcl0 : -9223372036854775808 ≤ d.cli) (hcl1 : d.cli ≤ 9223372036854775807) (hst0 : -9223372036854775808 ≤ d.rst) (hst1 : d.rst ≤ 9223372036854775807) (hT : TabOk w) :
    Calls Tryd.prog 7 #[.agg #[.int .i64 d.cli, .int .i64 d.qmt, .string d.qpa, v3, .string d.qbd, .int .i64 d.rst, v6, .string d.rbd, .int .i64 d.knd, .int .i64 d.tim, .string d.opa, v11, v12, .int .i64 d.ost, v14, .string d.obd, .int .i64 d.otm, .int .i64 d.bns]] w fun e w' => TextIs (replyT d.cli d.knd d.rst d.rfs) w e w' := by
  cases h : getB d.rfs ageB with
  | true => exact implReplyText_age d v3 v6 v11 v12 v14 C w h6 hl hcp hg hcl0 hcl1 hst0 hst1 hT h
  | false => exact implReplyText_none d v3 v6 v11 v12 v14 C w h6 hl hcp hg hcl0 hcl1 hst0 hst1 hT h

end Go.Proofs.YtopeegjmpphjnaaDoor

namespace Go.Proofs.YtopeegjmpphjnaaDoor
open Go.RowKit
open Go.Lib hiding intOf

set_option maxRecDepth 100000 in
/-- An object's seven cells among the arguments. -/
theorem objCells {H : Type} {enc : TypeId × Value → H} {W : World} {fuel : Nat} {d0 d1 d2 d3 d4 d5 d6 : Value} {x : DataW H × List MemPlace} (hf : DataW.trod enc Tryd.prog W 0 (fun _ => true) true fuel 29 [d0, d1, d2, d3, d4, d5, d6] = some x) :
    ∃ (p : ByteArray) (a1 : Option Addr) (n1 c1 : Nat) (xs : List ByteArray) (a2 : Option Addr) (n2 c2 : Nat) (ys : List ByteArray) (st : Int) (a3 : Option Addr) (n3 c3 : Nat) (fs : List (ByteArray × ByteArray)) (b : ByteArray) (t : Int), (d0 = .string p ∧ d1 = .slice a1 n1 c1 ∧ d2 = .slice a2 n2 c2 ∧ d3 = .int .i64 st ∧ d4 = .slice a3 n3 c3 ∧ d5 = .string b ∧ d6 = .int .i64 t) ∧ ArgT W W.heap.size a1 n1 xs ∧ ArgT W W.heap.size a2 n2 ys ∧ ArgF W W.heap.size a3 n3 fs ∧ n1 ≤ maxLen ∧ n2 ≤ maxLen ∧ n3 ≤ maxLen ∧ (∀ i, i < n1 → (textAt xs i).size ≤ maxLen) ∧ (∀ i, i < n2 → (textAt ys i).size ≤ maxLen) ∧ WalkF n3 fs ∧ p.size ≤ maxLen ∧ b.size ≤ maxLen := by
  obtain ⟨ys, q, _, _, _, hyl, hg⟩ := DataW.trod_struct Tryd.underlying29 hf
  have hcR : Tryd.prog.cellsOf 26 = 3 := by kernel_rfl
  have e3 : Tryd.prog.cellsOf 3 = 1 := by kernel_rfl
  have e9 : Tryd.prog.cellsOf 9 = 1 := by kernel_rfl
  have eL : Tryd.prog.cellsOf 22 = 1 := by kernel_rfl
  have eS : Tryd.prog.cellsOf 27 = 1 := by kernel_rfl
  have g0 := hg 0 _ rfl
  have g1 := hg 1 _ rfl
  have g2 := hg 2 _ rfl
  have g3 := hg 3 _ rfl
  have g4 := hg 4 _ rfl
  simp [e3, e9, eS, hcR] at g0 g1 g2 g3 g4
  have hy5 : ys.length = 5 := hyl
  rw [List.getElem?_eq_getElem (show 0 < ys.length by omega)] at g0
  rw [List.getElem?_eq_getElem (show 1 < ys.length by omega)] at g1
  rw [List.getElem?_eq_getElem (show 2 < ys.length by omega)] at g2
  rw [List.getElem?_eq_getElem (show 3 < ys.length by omega)] at g3
  rw [List.getElem?_eq_getElem (show 4 < ys.length by omega)] at g4
  obtain ⟨zs, q2, _, _, _, hzl, hk⟩ := DataW.trod_struct Tryd.underlying26 g3
  have k0 := hk 0 _ rfl
  have k1 := hk 1 _ rfl
  have k2 := hk 2 _ rfl
  simp [e3, e9, eL] at k0 k1 k2
  have hz3 : zs.length = 3 := hzl
  rw [List.getElem?_eq_getElem (show 0 < zs.length by omega)] at k0
  rw [List.getElem?_eq_getElem (show 1 < zs.length by omega)] at k1
  rw [List.getElem?_eq_getElem (show 2 < zs.length by omega)] at k2
  obtain ⟨p, hp, _, hps⟩ := DataW.trod_string Tryd.underlying9 g0
  obtain ⟨t, ht, _, _⟩ := DataW.trod_int Tryd.underlying3 g4
  obtain ⟨st, hst, _, _⟩ := DataW.trod_int Tryd.underlying3 k0
  obtain ⟨b, hb, _, hbs⟩ := DataW.trod_string Tryd.underlying9 k2
  obtain ⟨a1, n1, c1, rfl⟩ : ∃ a n cap, d1 = .slice a n cap := by
    rcases DataW.trod_slice Tryd.underlying27 g1 with ⟨h, _⟩ | ⟨a, n, cap, _, _, _, _, h, _⟩
    · exact ⟨none, 0, 0, by simpa using h⟩
    · exact ⟨_, n, cap, by simpa using h⟩
  obtain ⟨a2, n2, c2, rfl⟩ : ∃ a n cap, d2 = .slice a n cap := by
    rcases DataW.trod_slice Tryd.underlying27 g2 with ⟨h, _⟩ | ⟨a, n, cap, _, _, _, _, h, _⟩
    · exact ⟨none, 0, 0, by simpa using h⟩
    · exact ⟨_, n, cap, by simpa using h⟩
  obtain ⟨a3, n3, c3, rfl⟩ : ∃ a n cap, d4 = .slice a n cap := by
    rcases DataW.trod_slice Tryd.underlying22 k1 with ⟨h, _⟩ | ⟨a, n, cap, _, _, _, _, h, _⟩
    · exact ⟨none, 0, 0, by simpa using h⟩
    · exact ⟨_, n, cap, by simpa using h⟩
  obtain ⟨xs, x1, x2, x3⟩ := openTexts g1
  obtain ⟨ws, y1, y2, y3⟩ := openTexts g2
  obtain ⟨fs, z1, z2, z3⟩ := openFields k1
  simp only [List.cons.injEq, and_true] at hp ht hst hb
  subst hp ht hst hb
  exact ⟨p, a1, n1, c1, xs, a2, n2, c2, ws, st, a3, n3, c3, fs, b, t, ⟨rfl, rfl, rfl, rfl, rfl, rfl, rfl⟩, x1, y1, z1, x2, y2, z2, x3, y3, z3, hps, hbs⟩

end Go.Proofs.YtopeegjmpphjnaaDoor

namespace Go.Proofs.YtopeegjmpphjnaaDoor
open Go.RowKit
open Go.Lib hiding intOf

set_option maxRecDepth 100000 in
theorem cellsReq {H : Type} {enc : TypeId × Value → H} {W : World} {fuel : Nat} {d0 d1 d2 d3 : Value} {x : DataW H × List MemPlace} (hf : DataW.trod enc Tryd.prog W 0 (fun _ => true) true fuel 24 [d0, d1, d2, d3] = some x) :
    ∃ (mt : Int) (pa : ByteArray) (fs : List (ByteArray × ByteArray)) (bd : ByteArray) (a : Option Addr) (n cap : Nat), (d0 = .int .i64 mt ∧ d1 = .string pa ∧ d2 = .slice a n cap ∧ d3 = .string bd) ∧ ArgF W W.heap.size a n fs ∧ n ≤ maxLen ∧ WalkF n fs ∧ pa.size ≤ maxLen ∧ bd.size ≤ maxLen := by
  obtain ⟨ys, q, _, _, _, hyl, hg⟩ := DataW.trod_struct Tryd.underlying24 hf
  have e3 : Tryd.prog.cellsOf 3 = 1 := by kernel_rfl
  have e9 : Tryd.prog.cellsOf 9 = 1 := by kernel_rfl
  have eL : Tryd.prog.cellsOf 22 = 1 := by kernel_rfl
  have g0 := hg 0 _ rfl
  have g1 := hg 1 _ rfl
  have g2 := hg 2 _ rfl
  have g3 := hg 3 _ rfl
  simp [e3, e9, eL] at g0 g1 g2 g3
  have hyz : ys.length = 4 := hyl
  rw [List.getElem?_eq_getElem (show 0 < ys.length by omega)] at g0
  rw [List.getElem?_eq_getElem (show 1 < ys.length by omega)] at g1
  rw [List.getElem?_eq_getElem (show 2 < ys.length by omega)] at g2
  rw [List.getElem?_eq_getElem (show 3 < ys.length by omega)] at g3
  obtain ⟨mt, hmt, _, _⟩ := DataW.trod_int Tryd.underlying3 g0
  obtain ⟨pa, hpa, _, spa⟩ := DataW.trod_string Tryd.underlying9 g1
  obtain ⟨a, n, cap, rfl⟩ : ∃ a n cap, d2 = .slice a n cap := by
    rcases DataW.trod_slice Tryd.underlying22 g2 with ⟨h, _⟩ | ⟨a, n, cap, _, _, _, _, h, _⟩
    · exact ⟨none, 0, 0, by simpa using h⟩
    · exact ⟨_, n, cap, by simpa using h⟩
  obtain ⟨fs, h1, h2, h3⟩ := openFields g2
  obtain ⟨bd, hbd, _, sbd⟩ := DataW.trod_string Tryd.underlying9 g3
  simp only [List.cons.injEq, and_true] at hmt hpa hbd
  subst hmt hpa hbd
  exact ⟨mt, pa, fs, bd, a, n, cap, ⟨rfl, rfl, rfl, rfl⟩, h1, h2, h3, spa, sbd⟩

set_option maxRecDepth 100000 in
theorem cellsResp {H : Type} {enc : TypeId × Value → H} {W : World} {fuel : Nat} {d0 d1 d2 : Value} {x : DataW H × List MemPlace} (hf : DataW.trod enc Tryd.prog W 0 (fun _ => true) true fuel 26 [d0, d1, d2] = some x) :
    ∃ (st : Int) (fs : List (ByteArray × ByteArray)) (bd : ByteArray) (a : Option Addr) (n cap : Nat), (d0 = .int .i64 st ∧ d1 = .slice a n cap ∧ d2 = .string bd) ∧ ArgF W W.heap.size a n fs ∧ n ≤ maxLen ∧ WalkF n fs ∧ bd.size ≤ maxLen ∧ -9223372036854775808 ≤ st ∧ st ≤ 9223372036854775807 := by
  obtain ⟨ys, q, _, _, _, hyl, hg⟩ := DataW.trod_struct Tryd.underlying26 hf
  have e3 : Tryd.prog.cellsOf 3 = 1 := by kernel_rfl
  have e9 : Tryd.prog.cellsOf 9 = 1 := by kernel_rfl
  have eL : Tryd.prog.cellsOf 22 = 1 := by kernel_rfl
  have g0 := hg 0 _ rfl
  have g1 := hg 1 _ rfl
  have g2 := hg 2 _ rfl
  simp [e3, e9, eL] at g0 g1 g2
  have hyz : ys.length = 3 := hyl
  rw [List.getElem?_eq_getElem (show 0 < ys.length by omega)] at g0
  rw [List.getElem?_eq_getElem (show 1 < ys.length by omega)] at g1
  rw [List.getElem?_eq_getElem (show 2 < ys.length by omega)] at g2
  obtain ⟨st, hst, _, hwst⟩ := DataW.trod_int Tryd.underlying3 g0
  obtain ⟨a, n, cap, rfl⟩ : ∃ a n cap, d1 = .slice a n cap := by
    rcases DataW.trod_slice Tryd.underlying22 g1 with ⟨h, _⟩ | ⟨a, n, cap, _, _, _, _, h, _⟩
    · exact ⟨none, 0, 0, by simpa using h⟩
    · exact ⟨_, n, cap, by simpa using h⟩
  obtain ⟨fs, h1, h2, h3⟩ := openFields g1
  obtain ⟨bd, hbd, _, sbd⟩ := DataW.trod_string Tryd.underlying9 g2
  simp only [List.cons.injEq, and_true] at hst hbd
  subst hst hbd
  exact ⟨st, fs, bd, a, n, cap, ⟨rfl, rfl, rfl⟩, h1, h2, h3, sbd, (bounds_i64 hwst).1, (bounds_i64 hwst).2⟩

end Go.Proofs.YtopeegjmpphjnaaDoor

namespace Go.Proofs.YtopeegjmpphjnaaDoor
open Go.RowKit
open Go.Lib hiding intOf

set_option maxRecDepth 100000 in
theorem objTimeC {H : Type} {enc : TypeId × Value → H} {W : World} {fuel : Nat} {p b : ByteArray} {v1 v2 v3 : Value} {st t : Int} {x : DataW H × List MemPlace} (h : DataW.trod enc Tryd.prog W 0 (fun _ => true) true fuel 29 [.string p, v1, v2, .int .i64 st, v3, .string b, .int .i64 t] = some x) : -9223372036854775808 ≤ t := by
  obtain ⟨ys, q, _, _, _, hyl, hg⟩ := DataW.trod_struct Tryd.underlying29 h
  have e3 : Tryd.prog.cellsOf 3 = 1 := by kernel_rfl
  have g4 := hg 4 _ rfl
  simp [e3] at g4
  have hy5 : ys.length = 5 := hyl
  rw [List.getElem?_eq_getElem (show 4 < ys.length by omega)] at g4
  obtain ⟨n, hn, _, hw⟩ := DataW.trod_int Tryd.underlying3 g4
  simp only [List.cons.injEq, Value.int.injEq, true_and, and_true] at hn
  rw [hn]
  exact (bounds_i64 hw).1

set_option maxRecDepth 100000 in
set_option maxHeartbeats 4000000 in
/-- Reply among the arguments. -/
theorem openReply {H : Type} {enc : TypeId × Value → H} {W : World} {r : Reach} {b0 : Nat} {v : Value} {d : DataW H} {ps : List MemPlace} (hval : Value.okWide Tryd.prog W r b0 31 v) (h : DataW.Trod enc Tryd.prog W 0 (fun _ => true) true 31 v d ps) :
    ∃ (y : RpD) (a3 : Option Addr) (c3 : Nat) (a6 : Option Addr) (c6 : Nat) (a11 : Option Addr) (c11 : Nat) (a12 : Option Addr) (c12 : Nat) (a14 : Option Addr) (c14 : Nat), v = .agg #[.int .i64 y.cli, .int .i64 y.qmt, .string y.qpa, .slice a3 y.qfs.length c3, .string y.qbd, .int .i64 y.rst, .slice a6 y.rfs.length c6, .string y.rbd, .int .i64 y.knd, .int .i64 y.tim, .string y.opa, .slice a11 y.oxs.length c11, .slice a12 y.oys.length c12, .int .i64 y.ost, .slice a14 y.ofs.length c14, .string y.obd, .int .i64 y.otm, .int .i64 y.bns] ∧ ArgF W W.heap.size a3 y.qfs.length y.qfs ∧ ArgF W W.heap.size a6 y.rfs.length y.rfs ∧ ArgT W W.heap.size a11 y.oxs.length y.oxs ∧ ArgT W W.heap.size a12 y.oys.length y.oys ∧ ArgF W W.heap.size a14 y.ofs.length y.ofs ∧ RpMax y := by
  obtain ⟨cs, rfl, hsz⟩ := Go.WideShapes.okWide_struct Tryd.underlying31 hval
  obtain ⟨fuel, hf0⟩ := h
  have ce : Tryd.prog.cellsOf 31 = 18 := by kernel_rfl
  have ci : Tryd.prog.cellsOf 3 = 1 := by kernel_rfl
  have cReq : Tryd.prog.cellsOf 24 = 4 := by kernel_rfl
  have cResp : Tryd.prog.cellsOf 26 = 3 := by kernel_rfl
  have cObj : Tryd.prog.cellsOf 29 = 7 := by kernel_rfl
  rw [ce] at hsz
  obtain ⟨l⟩ := cs
  obtain ⟨v0, v1, v2, v3, v4, v5, v6, v7, v8, v9, v10, v11, v12, v13, v14, v15, v16, v17, rfl⟩ : ∃ v0 v1 v2 v3 v4 v5 v6 v7 v8 v9 v10 v11 v12 v13 v14 v15 v16 v17, l = [v0, v1, v2, v3, v4, v5, v6, v7, v8, v9, v10, v11, v12, v13, v14, v15, v16, v17] := by
    match l, hsz with
    | [v0, v1, v2, v3, v4, v5, v6, v7, v8, v9, v10, v11, v12, v13, v14, v15, v16, v17], _ => exact ⟨v0, v1, v2, v3, v4, v5, v6, v7, v8, v9, v10, v11, v12, v13, v14, v15, v16, v17, rfl⟩
  obtain ⟨xs, k, hk, hxy, _, hxl, hf⟩ := DataW.trod_struct Tryd.underlying31 hf0
  match xs, hxl with
  | [x0, x1, x2, x3, x4, x5, x6], _ =>
        have g0 := hf 0 _ rfl
        have g1 := hf 1 _ rfl
        have g2 := hf 2 _ rfl
        have g3 := hf 3 _ rfl
        have g4 := hf 4 _ rfl
        have g5 := hf 5 _ rfl
        have g6 := hf 6 _ rfl
        simp [Value.cells, ci, cReq, cResp, cObj] at g0 g1 g2 g3 g4 g5 g6
        obtain ⟨cli, e0, _, hwcli⟩ := DataW.trod_int Tryd.underlying3 g0
        simp only [List.cons.injEq, and_true] at e0
        subst e0
        obtain ⟨qmt, qpa, qfs, qbd, a3, n3, c3, ⟨rfl, rfl, rfl, rfl⟩, w3, m3, s3, zqpa, zqbd⟩ := cellsReq g1
        obtain ⟨rst, rfs, rbd, a6, n6, c6, ⟨rfl, rfl, rfl⟩, w6, m6, s6, zrbd, hst6⟩ := cellsResp g2
        obtain ⟨knd, e3, _, _⟩ := DataW.trod_int Tryd.underlying3 g3
        simp only [List.cons.injEq, and_true] at e3
        subst e3
        obtain ⟨tim, e4, _, hwtim⟩ := DataW.trod_int Tryd.underlying3 g4
        simp only [List.cons.injEq, and_true] at e4
        subst e4
        obtain ⟨opa, a11, n11, c11, oxs, a12, n12, c12, oys, ost, a14, n14, c14, ofs, obd, otm, ⟨rfl, rfl, rfl, rfl, rfl, rfl, rfl⟩, w11, w12, w14, m11, m12, m14, s11, s12, s14, zopa, zobd⟩ := objCells g5
        have hot := objTimeC g5
        obtain ⟨bns, e6, _, _⟩ := DataW.trod_int Tryd.underlying3 g6
        simp only [List.cons.injEq, and_true] at e6
        subst e6
        obtain rfl := w3.len
        obtain rfl := w6.len
        obtain rfl := w11.len
        obtain rfl := w12.len
        obtain rfl := w14.len
        exact ⟨⟨cli, qmt, qpa, qfs, qbd, rst, rfs, rbd, knd, tim, opa, oxs, oys, ost, ofs, obd, otm, bns⟩, a3, c3, a6, c6, a11, c11, a12, c12, a14, c14, rfl, w3, w6, w11, w12, w14, ⟨zqpa, ⟨m3, s3⟩, zqbd, ⟨m6, s6⟩, zrbd, zopa, ⟨m11, s11⟩, ⟨m12, s12⟩, ⟨m14, s14⟩, zobd, ⟨hot, (bounds_i64 hwtim).2⟩, bounds_i64 hwcli, hst6⟩⟩

end Go.Proofs.YtopeegjmpphjnaaDoor

namespace Go.Proofs.YtopeegjmpphjnaaDoor
open Go.ChangeShapes Go.WideShapes Go.ChangeAt Go.RowKit

theorem gTabType : (Tryd.prog.globals[0]?).map (·.type) = some 102 := by kernel_rfl
theorem cells62 : Tryd.prog.cellsOf 102 = 20 := by kernel_rfl
theorem cells55 : Tryd.prog.cellsOf 92 = 1 := by kernel_rfl
theorem table {W : World} (h : laidMetH Tryd.prog Rows.fnExactReplyTextRow.laid W) : TabOk W := by
  have h1 : laidMet Tryd.prog Rows.fnExactReplyTextRow.laid W := h
  obtain ⟨ps, hl, _⟩ := h1
  obtain ⟨g1, t1, cs1, f1, p1, q1, _, _, _, _, hr1, _⟩ := hl
  obtain ⟨g2, t2, cs2, f2, p2, q2, _, _, _, _, hr2, _⟩ := hr1
  obtain ⟨g3, t3, cs3, f3, p3, q3, hg, ht, hvar, hd, _, _⟩ := hr2
  obtain rfl := Option.some.inj (gTab.symm.trans hg)
  obtain rfl := Option.some.inj (gTabType.symm.trans ht)
  unfold TabOk Lib.TabIs
  rw [hvar, ← Lib.cells_of_tab (zs := Lib.pow10Tab) Tryd.underlying102 Tryd.underlying92 cells55 cells62 hd]

/-- A world with the three tables as their initialisers lay them. -/
def withTables (w : World) : World :=
  { w with heap := ((w.heap.modify 0 fun
      | .cells _ t frozen => .cells #[.int .u64 1, .int .u64 10, .int .u64 100, .int .u64 1000, .int .u64 10000, .int .u64 100000, .int .u64 1000000, .int .u64 10000000, .int .u64 100000000, .int .u64 1000000000, .int .u64 10000000000, .int .u64 100000000000, .int .u64 1000000000000, .int .u64 10000000000000, .int .u64 100000000000000, .int .u64 1000000000000000, .int .u64 10000000000000000, .int .u64 100000000000000000, .int .u64 1000000000000000000, .int .u64 10000000000000000000] t frozen
      | o => o).modify 2 fun
      | .cells _ t frozen => .cells #[.int .u8 0, .int .u8 1, .int .u8 28, .int .u8 2, .int .u8 29, .int .u8 14, .int .u8 24, .int .u8 3, .int .u8 30, .int .u8 22, .int .u8 20, .int .u8 15, .int .u8 25, .int .u8 17, .int .u8 4, .int .u8 8, .int .u8 31, .int .u8 27, .int .u8 13, .int .u8 23, .int .u8 21, .int .u8 19, .int .u8 16, .int .u8 7, .int .u8 26, .int .u8 12, .int .u8 18, .int .u8 6, .int .u8 11, .int .u8 5, .int .u8 10, .int .u8 9] t frozen
      | o => o).modify 3 fun
      | .cells _ t frozen => .cells #[.int .u8 0, .int .u8 1, .int .u8 56, .int .u8 2, .int .u8 57, .int .u8 49, .int .u8 28, .int .u8 3, .int .u8 61, .int .u8 58, .int .u8 42, .int .u8 50, .int .u8 38, .int .u8 29, .int .u8 17, .int .u8 4, .int .u8 62, .int .u8 47, .int .u8 59, .int .u8 36, .int .u8 45, .int .u8 43, .int .u8 51, .int .u8 22, .int .u8 53, .int .u8 39, .int .u8 33, .int .u8 30, .int .u8 24, .int .u8 18, .int .u8 12, .int .u8 5, .int .u8 63, .int .u8 55, .int .u8 48, .int .u8 27, .int .u8 60, .int .u8 41, .int .u8 37, .int .u8 16, .int .u8 46, .int .u8 35, .int .u8 44, .int .u8 21, .int .u8 52, .int .u8 32, .int .u8 23, .int .u8 11, .int .u8 54, .int .u8 26, .int .u8 40, .int .u8 15, .int .u8 34, .int .u8 20, .int .u8 31, .int .u8 10, .int .u8 25, .int .u8 14, .int .u8 19, .int .u8 9, .int .u8 13, .int .u8 8, .int .u8 7, .int .u8 6] t frozen
      | o => o }
end Go.Proofs.YtopeegjmpphjnaaDoor
