/- What the proof of FnExactCacheNew leans on: contracts of the program's and the specification's functions, and plain facts (part 2 of 2). -/
import Derived.Test.YtanpngnpolhgbaaFnExactCacheNewA
namespace Go.Proofs.Ytanpngnpolhgbaa
open Go.RowKit
open Go.Lib hiding intOf

/-- A store's cells are none of the rows': they stay. -/
theorem RowsO.other {W : World} {base q o : Nat} {rs : List Rw} {cs : Array Value} {T : TypeId} {fr : Nat × Nat} {u : Value} (h : RowsO W base rs) (hq : W.heap[q]? = some (.cells cs T fr)) (hT : ∀ r ∈ rs, T ≠ r.T) : RowsO (W.setCell ⟨q, o, none⟩ u) base rs :=
  h.same (fun r hr g hg => heap_setCell_other _ _ g _ (fun e => own_noR (h.own r hr) (hT r hr) hq (by have e' : g = q := e; rw [← e']; exact hg)))
theorem kpAll_T {V : Value} {kv : List (KpD × Value × Value × Value)} {r : Rw} (h : r ∈ kpAll V kv) : r.T = 82 ∨ r.T = 9 ∨ r.T = 93 := by
  rcases List.mem_cons.1 h with h | h
  · exact .inl (by rw [h]; rfl)
  · obtain ⟨x, _, hx⟩ := List.mem_flatMap.1 h
    simp only [kpR, List.mem_cons, List.not_mem_nil, or_false] at hx
    rcases hx with rfl | rfl | rfl
    · exact .inr (.inl rfl)
    · exact .inr (.inl rfl)
    · exact .inr (.inr rfl)
theorem disk_rows {W : World} {base : Nat} {v1 v2 : Value} {n1 n2 : Nat} {cs : List ByteArray} {ws : List (Int × ByteArray)} (h : DiskO W base v1 n1 cs v2 n2 ws) : RowsO W base [(⟨9, 1, v1, n1, cs.map Value.string⟩ : Rw), (⟨97, 2, v2, n2, flatWrite ws⟩ : Rw)] := by
  refine ⟨fun r hr => ?_, List.pairwise_cons.2 ⟨fun r hr => ?_, List.pairwise_singleton _ _⟩⟩
  · simp only [List.mem_cons, List.not_mem_nil, or_false] at hr
    rcases hr with rfl | rfl
    · exact h.cells
    · exact h.pend
  · rw [List.mem_singleton.1 hr]
    exact fun g hg => own_two h.cells h.pend (by decide) hg
/-- All rows of a store. -/
def shAll (v1 v2 V VB : Value) (kv : List (KpD × Value × Value × Value)) (cs : List ByteArray) (ws : List (Int × ByteArray)) (bl : List (Int × ByteArray × ByteArray × Int)) : List Rw := ([(⟨9, 1, v1, cs.length, cs.map Value.string⟩ : Rw), (⟨97, 2, v2, ws.length, flatWrite ws⟩ : Rw)] ++ kpAll V kv) ++ [(⟨85, 4, VB, bl.length, flatBan bl⟩ : Rw)]
/-- A store of one's own. -/
def ShelfO (w : World) (base : Nat) (v1 v2 V VB : Value) (kv : List (KpD × Value × Value × Value)) (s : ShD) : Prop := RowsO w base (shAll v1 v2 V VB kv s.cs s.ws s.bl) ∧ kv.map (·.1) = s.ks
theorem ShelfO.disk {w : World} {base : Nat} {v1 v2 V VB : Value} {kv : List (KpD × Value × Value × Value)} {s : ShD} (h : ShelfO w base v1 v2 V VB kv s) : DiskO w base v1 s.cs.length s.cs v2 s.ws.length s.ws := ⟨h.1.own (⟨9, 1, v1, s.cs.length, s.cs.map Value.string⟩ : Rw) (by simp [shAll]), h.1.own (⟨97, 2, v2, s.ws.length, flatWrite s.ws⟩ : Rw) (by simp [shAll])⟩
theorem ShelfO.kept {w : World} {base : Nat} {v1 v2 V VB : Value} {kv : List (KpD × Value × Value × Value)} {s : ShD} (h : ShelfO w base v1 v2 V VB kv s) : KeptsO w base V kv := RowsO.sub h.1 ((List.sublist_append_right _ _).trans (List.sublist_append_left _ _))
theorem ShelfO.bans {w : World} {base : Nat} {v1 v2 V VB : Value} {kv : List (KpD × Value × Value × Value)} {s : ShD} (h : ShelfO w base v1 v2 V VB kv s) : w.ownsRow base 85 4 VB s.bl.length (flatBan s.bl) := h.1.own (⟨85, 4, VB, s.bl.length, flatBan s.bl⟩ : Rw) (by simp [shAll])
theorem ShelfO.below {w w' : World} {base : Nat} {v1 v2 V VB : Value} {kv : List (KpD × Value × Value × Value)} {s : ShD} (h : ShelfO w base v1 v2 V VB kv s) (hb : Below w.heap.size w w') : ShelfO w' base v1 v2 V VB kv s := ⟨h.1.below hb, h.2⟩
theorem ShelfO.wide {w : World} {B base : Nat} {v1 v2 V VB : Value} {kv : List (KpD × Value × Value × Value)} {s : ShD} (h : ShelfO w base v1 v2 V VB kv s) (hB : B ≤ base) : ShelfO w B v1 v2 V VB kv s := ⟨h.1.wide hB, h.2⟩
/-- A call answers a store of its own. -/
def ShelfIs (s : ShD) (w : World) (e : Ending) (w' : World) : Prop := ∃ (v1 v2 V VB : Value) (kv : List (KpD × Value × Value × Value)), e = .returned (.agg #[v1, v2, V, VB, .int .i64 s.nx, .int .i64 s.sq]) ∧ ShelfO w' w.heap.size v1 v2 V VB kv s ∧ Below w.heap.size w w'

end Go.Proofs.Ytanpngnpolhgbaa

namespace Go.Proofs.Ytanpngnpolhgbaa
open Go.RowKit
open Go.Lib hiding intOf

set_option maxHeartbeats 8000000 in
set_option maxRecDepth 100000 in
theorem specDiskNew_any (w : World) :
    Calls Try.prog 23 #[] w fun e w' => DiskIs newC [] w e w' := by
  have hmk : ∀ W : World, (Instr.makeSlice 22 (.int .i64 20) (.int .i64 20)).run Try.prog W = .ok (.slice (some ⟨W.heap.size, 0, none⟩) 20 20) (W.alloc (.cells #[.string ⟨#[]⟩, .string ⟨#[]⟩, .string ⟨#[]⟩, .string ⟨#[]⟩, .string ⟨#[]⟩, .string ⟨#[]⟩, .string ⟨#[]⟩, .string ⟨#[]⟩, .string ⟨#[]⟩, .string ⟨#[]⟩, .string ⟨#[]⟩, .string ⟨#[]⟩, .string ⟨#[]⟩, .string ⟨#[]⟩, .string ⟨#[]⟩, .string ⟨#[]⟩, .string ⟨#[]⟩, .string ⟨#[]⟩, .string ⟨#[]⟩, .string ⟨#[]⟩] 9)) := fun W => by
    obtain ⟨i0, hi, hz0, hz1, hz2⟩ := info_parts info9
    have h := run_make (P := Try.prog) W 22 9 i0 (.string ⟨#[]⟩) Try.underlying22 hi hz0 .i64 .i64 20 20 (by omega) (by omega) (by rw [hz2]; omega) (by omega)
    have hm : madeCells (Value.string ⟨#[]⟩).cells 20 = #[.string ⟨#[]⟩, .string ⟨#[]⟩, .string ⟨#[]⟩, .string ⟨#[]⟩, .string ⟨#[]⟩, .string ⟨#[]⟩, .string ⟨#[]⟩, .string ⟨#[]⟩, .string ⟨#[]⟩, .string ⟨#[]⟩, .string ⟨#[]⟩, .string ⟨#[]⟩, .string ⟨#[]⟩, .string ⟨#[]⟩, .string ⟨#[]⟩, .string ⟨#[]⟩, .string ⟨#[]⟩, .string ⟨#[]⟩, .string ⟨#[]⟩, .string ⟨#[]⟩] := by kernel_rfl
    rw [hz1, show (Int.toNat 20 * 1) = 20 from rfl, hm] at h
    exact h
  have hb0 : Below w.heap.size w w := Below.refl _ _
  go_enter Try.func23, Try.ntmps23
  go_upto_region 1 with fail
  obtain ⟨qv1, hqv1⟩ : ∃ q, q = (w).heap.size := ⟨_, rfl⟩
  obtain ⟨w1, hW1⟩ : ∃ W, W = (w).alloc (.cells #[.slice none 0 0, .slice none 0 0] 25) := ⟨_, rfl⟩
  have hz1 : (w).heap.size = qv1 := hqv1.symm
  first | rw [← hW1, ← hqv1] | rw [← hW1]
  have hs1 : w1.heap.size = qv1 + 1 := by rw [hW1, ← hz1]; simp
  have bw : Below (w).heap.size (w) w1 := by rw [hW1]; exact (Below.refl _ _).alloc (Nat.le_refl _) _
  have hb1 : Below w.heap.size w (w1) := hb0.trans (bw.mono hb0.size)
  have HBv1_1 : Hid ((w1).heap[qv1]? = some (.cells #[.slice none 0 0, .slice none 0 0] 25)) := by show _ = _; rw [hW1, ← hz1]; exact heap_alloc_new _ _
  have HGv1 : Hid (w.heap.size ≤ qv1) := by show _ ≤ _; rw [← hz1]; exact hb0.size
  clear hb0 bw hW1 hz1
  clear hs1 hqv1
  have cv1_0 : (w1).cell? ⟨qv1, 0, none⟩ = some (.slice none 0 0) := (cell_of HBv1_1.out 0).trans rfl
  have Acv1_0 : ∀ o, ((w1).alloc o).cell? ⟨qv1, 0, none⟩ = some (.slice none 0 0) := fun o => (cell_of (blk_below HBv1_1.out ((Below.refl _ _).alloc (Nat.le_refl _) o)) 0).trans rfl
  have Afcv1_0 : ∀ o, ((w1).alloc o).frozen? ⟨qv1, 0, none⟩ = false := fun o => frozen_of (blk_below HBv1_1.out ((Below.refl _ _).alloc (Nat.le_refl _) o)) 0
  have fcv1_0 : (w1).frozen? ⟨qv1, 0, none⟩ = false := frozen_of HBv1_1.out 0
  have cv1_1 : (w1).cell? ⟨qv1, 1, none⟩ = some (.slice none 0 0) := (cell_of HBv1_1.out 1).trans rfl
  have Acv1_1 : ∀ o, ((w1).alloc o).cell? ⟨qv1, 1, none⟩ = some (.slice none 0 0) := fun o => (cell_of (blk_below HBv1_1.out ((Below.refl _ _).alloc (Nat.le_refl _) o)) 1).trans rfl
  have Afcv1_1 : ∀ o, ((w1).alloc o).frozen? ⟨qv1, 1, none⟩ = false := fun o => frozen_of (blk_below HBv1_1.out ((Below.refl _ _).alloc (Nat.le_refl _) o)) 1
  have fcv1_1 : (w1).frozen? ⟨qv1, 1, none⟩ = false := frozen_of HBv1_1.out 1
  go_wp2_with fail
  obtain ⟨qv2, hqv2⟩ : ∃ q, q = (w1).heap.size := ⟨_, rfl⟩
  obtain ⟨w2, hW2⟩ : ∃ W, W = (w1).alloc (.cells #[.string ⟨#[]⟩, .string ⟨#[]⟩, .string ⟨#[]⟩, .string ⟨#[]⟩, .string ⟨#[]⟩, .string ⟨#[]⟩, .string ⟨#[]⟩, .string ⟨#[]⟩, .string ⟨#[]⟩, .string ⟨#[]⟩, .string ⟨#[]⟩, .string ⟨#[]⟩, .string ⟨#[]⟩, .string ⟨#[]⟩, .string ⟨#[]⟩, .string ⟨#[]⟩, .string ⟨#[]⟩, .string ⟨#[]⟩, .string ⟨#[]⟩, .string ⟨#[]⟩] 9) := ⟨_, rfl⟩
  have hz2 : (w1).heap.size = qv2 := hqv2.symm
  first | rw [← hW2, ← hqv2] | rw [← hW2]
  have hs2 : w2.heap.size = qv2 + 1 := by rw [hW2, ← hz2]; simp
  have bw : Below (w1).heap.size (w1) w2 := by rw [hW2]; exact (Below.refl _ _).alloc (Nat.le_refl _) _
  have hb2 : Below w.heap.size w (w2) := hb1.trans (bw.mono hb1.size)
  have HBv1_2 : Hid ((w2).heap[qv1]? = some (.cells #[.slice none 0 0, .slice none 0 0] 25)) := blk_below HBv1_1.out bw
  have HNv1v2 : Hid (qv1 ≠ qv2) := fun e => by have h1 := (Array.getElem?_eq_some_iff.1 HBv1_1.out).1; omega
  have HBv2_2 : Hid ((w2).heap[qv2]? = some (.cells #[.string ⟨#[]⟩, .string ⟨#[]⟩, .string ⟨#[]⟩, .string ⟨#[]⟩, .string ⟨#[]⟩, .string ⟨#[]⟩, .string ⟨#[]⟩, .string ⟨#[]⟩, .string ⟨#[]⟩, .string ⟨#[]⟩, .string ⟨#[]⟩, .string ⟨#[]⟩, .string ⟨#[]⟩, .string ⟨#[]⟩, .string ⟨#[]⟩, .string ⟨#[]⟩, .string ⟨#[]⟩, .string ⟨#[]⟩, .string ⟨#[]⟩, .string ⟨#[]⟩] 9)) := by show _ = _; rw [hW2, ← hz2]; exact heap_alloc_new _ _
  have HGv2 : Hid (w.heap.size ≤ qv2) := by show _ ≤ _; rw [← hz2]; exact hb1.size
  clear hb1 HBv1_1 bw hW2 hz2
  obtain ⟨w3, hW3⟩ : ∃ W, W = (w2).setCell ⟨qv1, 0, none⟩ (.slice (some ⟨qv2, 0, none⟩) 20 20) := ⟨_, rfl⟩
  rw [← hW3]
  have hb3 : Below w.heap.size w (w3) := by rw [hW3]; exact (hb2.setCell (p := ⟨qv1, 0, none⟩) HGv1.out _)
  have HBv2_3 : Hid ((w3).heap[qv2]? = some (.cells #[.string ⟨#[]⟩, .string ⟨#[]⟩, .string ⟨#[]⟩, .string ⟨#[]⟩, .string ⟨#[]⟩, .string ⟨#[]⟩, .string ⟨#[]⟩, .string ⟨#[]⟩, .string ⟨#[]⟩, .string ⟨#[]⟩, .string ⟨#[]⟩, .string ⟨#[]⟩, .string ⟨#[]⟩, .string ⟨#[]⟩, .string ⟨#[]⟩, .string ⟨#[]⟩, .string ⟨#[]⟩, .string ⟨#[]⟩, .string ⟨#[]⟩, .string ⟨#[]⟩] 9)) := by show _ = _; rw [hW3, heap_setCell_other _ _ _ _ HNv1v2.out.symm]; exact HBv2_2.out
  have HBv1_3 : Hid ((w3).heap[qv1]? = some (.cells #[.slice (some ⟨qv2, 0, none⟩) 20 20, .slice none 0 0] 25)) := by show _ = _; rw [hW3]; have h := heap_set _ _ 0 _ _ _ (.slice (some ⟨qv2, 0, none⟩) 20 20) HBv1_2.out; simpa using h
  clear hb2 HBv1_2 HBv2_2 hW3
  obtain ⟨w4, hW4⟩ : ∃ W, W = (w3).setCell ⟨qv1, 1, none⟩ (.slice none 0 0) := ⟨_, rfl⟩
  rw [← hW4]
  have hb4 : Below w.heap.size w (w4) := by rw [hW4]; exact (hb3.setCell (p := ⟨qv1, 1, none⟩) HGv1.out _)
  have HBv2_4 : Hid ((w4).heap[qv2]? = some (.cells #[.string ⟨#[]⟩, .string ⟨#[]⟩, .string ⟨#[]⟩, .string ⟨#[]⟩, .string ⟨#[]⟩, .string ⟨#[]⟩, .string ⟨#[]⟩, .string ⟨#[]⟩, .string ⟨#[]⟩, .string ⟨#[]⟩, .string ⟨#[]⟩, .string ⟨#[]⟩, .string ⟨#[]⟩, .string ⟨#[]⟩, .string ⟨#[]⟩, .string ⟨#[]⟩, .string ⟨#[]⟩, .string ⟨#[]⟩, .string ⟨#[]⟩, .string ⟨#[]⟩] 9)) := by show _ = _; rw [hW4, heap_setCell_other _ _ _ _ HNv1v2.out.symm]; exact HBv2_3.out
  have HBv1_4 : Hid ((w4).heap[qv1]? = some (.cells #[.slice (some ⟨qv2, 0, none⟩) 20 20, .slice none 0 0] 25)) := by show _ = _; rw [hW4]; have h := heap_set _ _ 1 _ _ _ (.slice none 0 0) HBv1_3.out; simpa using h
  clear hb3 HBv1_3 HBv2_3 hW4
  clear hs2 hqv2
  have kv1_0 : (w4).cell? ⟨qv1, 0, none⟩ = some (.slice (some ⟨qv2, 0, none⟩) 20 20) := (cell_of HBv1_4.out 0).trans rfl
  have kv1_1 : (w4).cell? ⟨qv1, 1, none⟩ = some (.slice none 0 0) := (cell_of HBv1_4.out 1).trans rfl
  refine bodyPost_ret (v := .agg #[.slice (some ⟨qv2, 0, none⟩) 20 20, .slice none 0 0]) (by simp [results, Try.results23, go_sem, kv1_0, kv1_1]) rfl ?_
  exact ⟨_, _, rfl, ⟨⟨rfl, .inr ⟨_, 20, _, rfl, HGv2.out, HBv2_4.out, Nat.le_refl _, by decide, rfl, rfl⟩⟩, World.ownsRow_nil _ _ _ _⟩, hb4⟩

end Go.Proofs.Ytanpngnpolhgbaa

namespace Go.Proofs.Ytanpngnpolhgbaa
open Go.RowKit
open Go.Lib hiding intOf

/-- A row of nothing is one's own, too. -/
theorem RowsO.none {w : World} {base : Nat} {rs : List Rw} (h : RowsO w base rs) (T z : Nat) : RowsO w base (rs ++ [⟨T, z, .slice none 0 0, 0, []⟩]) := by
  refine ⟨fun r hr => ?_, List.pairwise_append.2 ⟨h.apart, List.pairwise_singleton _ _, fun a _ b hb g _ hg2 => ?_⟩⟩
  · rcases List.mem_append.1 hr with hr | hr
    · exact h.own r hr
    · rw [List.mem_singleton.1 hr]
      exact World.ownsRow_nil _ _ _ _
  · rw [List.mem_singleton.1 hb] at hg2
    cases hg2
theorem newC_len : newC.length = 20 := by simp [newC]

set_option maxHeartbeats 8000000 in
set_option maxRecDepth 100000 in
theorem specShelfNew_any (w : World) :
    Calls Try.prog 9 #[] w fun e w' => ShelfIs newS w e w' := by
  have hb0 : Below w.heap.size w w := Below.refl _ _
  go_enter Try.func9, Try.ntmps9
  go_upto_region 1 with fail
  obtain ⟨qv1, hqv1⟩ : ∃ q, q = (w).heap.size := ⟨_, rfl⟩
  obtain ⟨w1, hW1⟩ : ∃ W, W = (w).alloc (.cells #[.slice none 0 0, .slice none 0 0, .slice none 0 0, .slice none 0 0, .int .i64 0, .int .i64 0] 29) := ⟨_, rfl⟩
  have hz1 : (w).heap.size = qv1 := hqv1.symm
  first | rw [← hW1, ← hqv1] | rw [← hW1]
  have hs1 : w1.heap.size = qv1 + 1 := by rw [hW1, ← hz1]; simp
  have bw : Below (w).heap.size (w) w1 := by rw [hW1]; exact (Below.refl _ _).alloc (Nat.le_refl _) _
  have hb1 : Below w.heap.size w (w1) := hb0.trans (bw.mono hb0.size)
  have HBv1_1 : Hid ((w1).heap[qv1]? = some (.cells #[.slice none 0 0, .slice none 0 0, .slice none 0 0, .slice none 0 0, .int .i64 0, .int .i64 0] 29)) := by show _ = _; rw [hW1, ← hz1]; exact heap_alloc_new _ _
  have HGv1 : Hid (w.heap.size ≤ qv1) := by show _ ≤ _; rw [← hz1]; exact hb0.size
  clear hb0 bw hW1 hz1
  clear hs1 hqv1
  go_wp2_with fail
  refine (specDiskNew_any _).mono ?_
  rintro e w2 ⟨vv1, vv2, rfl, hdk, bw⟩
  have hdk2 : DiskO w2 (w1).heap.size vv1 20 newC vv2 0 [] := by rw [← newC_len]; exact hdk
  obtain ⟨oC, pC, rfl⟩ := slice_of_owns hdk2.cells
  obtain ⟨oP, pP, rfl⟩ := slice_of_owns hdk2.pend
  have HRN0 : Hid (RowsO w2 w.heap.size ([(⟨9, 1, (.slice oC 20 pC), 20, newC.map Value.string⟩ : Rw), (⟨97, 2, (.slice oP 0 pP), 0, flatWrite []⟩ : Rw)])) := (disk_rows hdk2).wide hb1.size
  have HT0 : Hid (∀ r ∈ ([(⟨9, 1, (.slice oC 20 pC), 20, newC.map Value.string⟩ : Rw), (⟨97, 2, (.slice oP 0 pP), 0, flatWrite []⟩ : Rw)]), 29 ≠ r.T) := by
    intro r hr
    simp only [List.mem_cons, List.not_mem_nil, or_false] at hr
    rcases hr with rfl | rfl
    · exact (by decide : (29 : TypeId) ≠ 9)
    · exact (by decide : (29 : TypeId) ≠ 97)
  clear hdk hdk2
  have hb2 : Below w.heap.size w (w2) := hb1.trans (bw.mono hb1.size)
  have HBv1_2 : Hid ((w2).heap[qv1]? = some (.cells #[.slice none 0 0, .slice none 0 0, .slice none 0 0, .slice none 0 0, .int .i64 0, .int .i64 0] 29)) := blk_below HBv1_1.out bw
  clear hb1 HBv1_1 bw
  have ER_2 : Hid (RowsO (w2) w.heap.size ([(⟨9, 1, (.slice oC 20 pC), 20, newC.map Value.string⟩ : Rw), (⟨97, 2, (.slice oP 0 pP), 0, flatWrite []⟩ : Rw)])) := HRN0.out
  clear HRN0
  have cv1_0 : (w2).cell? ⟨qv1, 0, none⟩ = some (.slice none 0 0) := (cell_of HBv1_2.out 0).trans rfl
  have fcv1_0 : (w2).frozen? ⟨qv1, 0, none⟩ = false := frozen_of HBv1_2.out 0
  have cv1_1 : (w2).cell? ⟨qv1, 1, none⟩ = some (.slice none 0 0) := (cell_of HBv1_2.out 1).trans rfl
  have fcv1_1 : (w2).frozen? ⟨qv1, 1, none⟩ = false := frozen_of HBv1_2.out 1
  have cv1_2 : (w2).cell? ⟨qv1, 2, none⟩ = some (.slice none 0 0) := (cell_of HBv1_2.out 2).trans rfl
  have fcv1_2 : (w2).frozen? ⟨qv1, 2, none⟩ = false := frozen_of HBv1_2.out 2
  have cv1_3 : (w2).cell? ⟨qv1, 3, none⟩ = some (.slice none 0 0) := (cell_of HBv1_2.out 3).trans rfl
  have fcv1_3 : (w2).frozen? ⟨qv1, 3, none⟩ = false := frozen_of HBv1_2.out 3
  have cv1_4 : (w2).cell? ⟨qv1, 4, none⟩ = some (.int .i64 0) := (cell_of HBv1_2.out 4).trans rfl
  have fcv1_4 : (w2).frozen? ⟨qv1, 4, none⟩ = false := frozen_of HBv1_2.out 4
  have cv1_5 : (w2).cell? ⟨qv1, 5, none⟩ = some (.int .i64 0) := (cell_of HBv1_2.out 5).trans rfl
  have fcv1_5 : (w2).frozen? ⟨qv1, 5, none⟩ = false := frozen_of HBv1_2.out 5
  go_wp2_with fail
  obtain ⟨w3, hW3⟩ : ∃ W, W = (w2).setCell ⟨qv1, 0, none⟩ (.slice oC 20 pC) := ⟨_, rfl⟩
  rw [← hW3]
  have hb3 : Below w.heap.size w (w3) := by rw [hW3]; exact (hb2.setCell (p := ⟨qv1, 0, none⟩) HGv1.out _)
  have ER_3 : Hid (RowsO (w3) w.heap.size ([(⟨9, 1, (.slice oC 20 pC), 20, newC.map Value.string⟩ : Rw), (⟨97, 2, (.slice oP 0 pP), 0, flatWrite []⟩ : Rw)])) := by show RowsO _ _ _; rw [hW3]; exact RowsO.other ER_2.out HBv1_2.out HT0.out
  have HBv1_3 : Hid ((w3).heap[qv1]? = some (.cells #[.slice oC 20 pC, .slice none 0 0, .slice none 0 0, .slice none 0 0, .int .i64 0, .int .i64 0] 29)) := by show _ = _; rw [hW3]; have h := heap_set _ _ 0 _ _ _ (.slice oC 20 pC) HBv1_2.out; simpa using h
  clear hb2 HBv1_2 ER_2 hW3
  obtain ⟨w4, hW4⟩ : ∃ W, W = (w3).setCell ⟨qv1, 1, none⟩ (.slice oP 0 pP) := ⟨_, rfl⟩
  rw [← hW4]
  have hb4 : Below w.heap.size w (w4) := by rw [hW4]; exact (hb3.setCell (p := ⟨qv1, 1, none⟩) HGv1.out _)
  have ER_4 : Hid (RowsO (w4) w.heap.size ([(⟨9, 1, (.slice oC 20 pC), 20, newC.map Value.string⟩ : Rw), (⟨97, 2, (.slice oP 0 pP), 0, flatWrite []⟩ : Rw)])) := by show RowsO _ _ _; rw [hW4]; exact RowsO.other ER_3.out HBv1_3.out HT0.out
  have HBv1_4 : Hid ((w4).heap[qv1]? = some (.cells #[.slice oC 20 pC, .slice oP 0 pP, .slice none 0 0, .slice none 0 0, .int .i64 0, .int .i64 0] 29)) := by show _ = _; rw [hW4]; have h := heap_set _ _ 1 _ _ _ (.slice oP 0 pP) HBv1_3.out; simpa using h
  clear hb3 HBv1_3 ER_3 hW4
  obtain ⟨w5, hW5⟩ : ∃ W, W = (w4).setCell ⟨qv1, 2, none⟩ (.slice none 0 0) := ⟨_, rfl⟩
  rw [← hW5]
  have hb5 : Below w.heap.size w (w5) := by rw [hW5]; exact (hb4.setCell (p := ⟨qv1, 2, none⟩) HGv1.out _)
  have ER_5 : Hid (RowsO (w5) w.heap.size ([(⟨9, 1, (.slice oC 20 pC), 20, newC.map Value.string⟩ : Rw), (⟨97, 2, (.slice oP 0 pP), 0, flatWrite []⟩ : Rw)])) := by show RowsO _ _ _; rw [hW5]; exact RowsO.other ER_4.out HBv1_4.out HT0.out
  have HBv1_5 : Hid ((w5).heap[qv1]? = some (.cells #[.slice oC 20 pC, .slice oP 0 pP, .slice none 0 0, .slice none 0 0, .int .i64 0, .int .i64 0] 29)) := by show _ = _; rw [hW5]; have h := heap_set _ _ 2 _ _ _ (.slice none 0 0) HBv1_4.out; simpa using h
  clear hb4 HBv1_4 ER_4 hW5
  obtain ⟨w6, hW6⟩ : ∃ W, W = (w5).setCell ⟨qv1, 3, none⟩ (.slice none 0 0) := ⟨_, rfl⟩
  rw [← hW6]
  have hb6 : Below w.heap.size w (w6) := by rw [hW6]; exact (hb5.setCell (p := ⟨qv1, 3, none⟩) HGv1.out _)
  have ER_6 : Hid (RowsO (w6) w.heap.size ([(⟨9, 1, (.slice oC 20 pC), 20, newC.map Value.string⟩ : Rw), (⟨97, 2, (.slice oP 0 pP), 0, flatWrite []⟩ : Rw)])) := by show RowsO _ _ _; rw [hW6]; exact RowsO.other ER_5.out HBv1_5.out HT0.out
  have HBv1_6 : Hid ((w6).heap[qv1]? = some (.cells #[.slice oC 20 pC, .slice oP 0 pP, .slice none 0 0, .slice none 0 0, .int .i64 0, .int .i64 0] 29)) := by show _ = _; rw [hW6]; have h := heap_set _ _ 3 _ _ _ (.slice none 0 0) HBv1_5.out; simpa using h
  clear hb5 HBv1_5 ER_5 hW6
  obtain ⟨w7, hW7⟩ : ∃ W, W = (w6).setCell ⟨qv1, 4, none⟩ (.int .i64 5) := ⟨_, rfl⟩
  rw [← hW7]
  have hb7 : Below w.heap.size w (w7) := by rw [hW7]; exact (hb6.setCell (p := ⟨qv1, 4, none⟩) HGv1.out _)
  have ER_7 : Hid (RowsO (w7) w.heap.size ([(⟨9, 1, (.slice oC 20 pC), 20, newC.map Value.string⟩ : Rw), (⟨97, 2, (.slice oP 0 pP), 0, flatWrite []⟩ : Rw)])) := by show RowsO _ _ _; rw [hW7]; exact RowsO.other ER_6.out HBv1_6.out HT0.out
  have HBv1_7 : Hid ((w7).heap[qv1]? = some (.cells #[.slice oC 20 pC, .slice oP 0 pP, .slice none 0 0, .slice none 0 0, .int .i64 5, .int .i64 0] 29)) := by show _ = _; rw [hW7]; have h := heap_set _ _ 4 _ _ _ (.int .i64 5) HBv1_6.out; simpa using h
  clear hb6 HBv1_6 ER_6 hW7
  obtain ⟨w8, hW8⟩ : ∃ W, W = (w7).setCell ⟨qv1, 5, none⟩ (.int .i64 1) := ⟨_, rfl⟩
  rw [← hW8]
  have hb8 : Below w.heap.size w (w8) := by rw [hW8]; exact (hb7.setCell (p := ⟨qv1, 5, none⟩) HGv1.out _)
  have ER_8 : Hid (RowsO (w8) w.heap.size ([(⟨9, 1, (.slice oC 20 pC), 20, newC.map Value.string⟩ : Rw), (⟨97, 2, (.slice oP 0 pP), 0, flatWrite []⟩ : Rw)])) := by show RowsO _ _ _; rw [hW8]; exact RowsO.other ER_7.out HBv1_7.out HT0.out
  have HBv1_8 : Hid ((w8).heap[qv1]? = some (.cells #[.slice oC 20 pC, .slice oP 0 pP, .slice none 0 0, .slice none 0 0, .int .i64 5, .int .i64 1] 29)) := by show _ = _; rw [hW8]; have h := heap_set _ _ 5 _ _ _ (.int .i64 1) HBv1_7.out; simpa using h
  clear hb7 HBv1_7 ER_7 hW8
  have kv1_0 : (w8).cell? ⟨qv1, 0, none⟩ = some (.slice oC 20 pC) := (cell_of HBv1_8.out 0).trans rfl
  have kv1_1 : (w8).cell? ⟨qv1, 1, none⟩ = some (.slice oP 0 pP) := (cell_of HBv1_8.out 1).trans rfl
  have kv1_2 : (w8).cell? ⟨qv1, 2, none⟩ = some (.slice none 0 0) := (cell_of HBv1_8.out 2).trans rfl
  have kv1_3 : (w8).cell? ⟨qv1, 3, none⟩ = some (.slice none 0 0) := (cell_of HBv1_8.out 3).trans rfl
  have kv1_4 : (w8).cell? ⟨qv1, 4, none⟩ = some (.int .i64 5) := (cell_of HBv1_8.out 4).trans rfl
  have kv1_5 : (w8).cell? ⟨qv1, 5, none⟩ = some (.int .i64 1) := (cell_of HBv1_8.out 5).trans rfl
  refine bodyPost_ret (v := .agg #[.slice oC 20 pC, .slice oP 0 pP, .slice none 0 0, .slice none 0 0, .int .i64 5, .int .i64 1]) (by simp [results, Try.results9, go_sem, kv1_0, kv1_1, kv1_2, kv1_3, kv1_4, kv1_5]) rfl ?_
  refine ⟨.slice oC 20 pC, .slice oP 0 pP, .slice none 0 0, .slice none 0 0, [], rfl, ⟨?_, rfl⟩, hb8⟩
  have h := (ER_8.out.none 82 9).none 85 4
  unfold shAll
  show RowsO _ _ ([(⟨9, 1, .slice oC 20 pC, newC.length, newC.map Value.string⟩ : Rw), (⟨97, 2, (.slice oP 0 pP), 0, flatWrite []⟩ : Rw)] ++ [⟨82, 9, .slice none 0 0, 0, []⟩] ++ [⟨85, 4, .slice none 0 0, 0, []⟩])
  rw [newC_len]
  exact h

end Go.Proofs.Ytanpngnpolhgbaa

namespace Go.Proofs.Ytanpngnpolhgbaa
open Go.RowKit
open Go.Lib hiding intOf

/-- Texts as an array's cells. -/
def cellsA (l : List ByteArray) : Array Value := (l.map Value.string).toArray
/-- Twenty empty texts. -/
def noneA : List ByteArray := List.replicate 20 ⟨#[]⟩
theorem cellsA_at (l : List ByteArray) (i : Nat) (h : i < l.length) : (cellsA l)[i]? = some (.string (textAt l i)) := by
  unfold cellsA
  rw [List.getElem?_toArray, List.getElem?_map, getElem_textAt l i h]
  rfl
end Go.Proofs.Ytanpngnpolhgbaa

namespace Go.Proofs.Ytanpngnpolhgbaa
open Go.RowKit
open Go.Lib hiding intOf

set_option maxHeartbeats 4000000 in
theorem copiedTexts_any (o : Option Addr) (n c : Nat) (xs : List ByteArray) (w : World) (h : TextsA w o n xs) (hn : n ≤ 2000000) (hz : ∀ i, i < n → (textAt xs i).size ≤ 1048576) :
    Calls Try.prog 55 #[.slice o n c] w fun e w' => ∃ v, e = .returned v ∧ w'.ownsRow w.heap.size 9 1 v n (xs.map Value.string) ∧ Below w.heap.size w w' := by
  obtain ⟨i0, hi, hz0, hz1, hz2⟩ := info_parts info9
  obtain ⟨M, hM⟩ : ∃ M, M = madeCells (Value.string ⟨#[]⟩).cells (((n : Nat) : Int).toNat * i0.size) := ⟨_, rfl⟩
  have hmk : ∀ W : World, (Instr.makeSlice 22 (.int .i64 (n : Int)) (.int .i64 (n : Int))).run Try.prog W = .ok (.slice (some ⟨W.heap.size, 0, none⟩) n n) (W.alloc (.cells M 9)) := fun W => by
    have h := run_make (P := Try.prog) W 22 9 i0 (Value.string ⟨#[]⟩) Try.underlying22 hi hz0 .i64 .i64 (n : Int) (n : Int) (by omega) (by omega) (by rw [hz2]; omega) (by omega)
    rw [← hM] at h
    simpa using h
  have hMs : M.size = n := by rw [hM, size_madeCells, hz1]; simp
  have HA : Hid (TextsA w o n xs) := h
  have HZ : Hid (∀ i, i < n → (textAt xs i).size ≤ 1048576) := hz
  have HLEN : Hid (xs.length = n) := h.1
  clear hM h hz
  have HP : Hid (PartT (w.alloc (.cells M 9)) w.heap.size n 0 xs) := ⟨M, heap_alloc_new w _, hMs, fun i h => absurd h (by omega)⟩
  go_enter Try.func55, Try.ntmps55
  go_wp2_with fail
  go_loopw [11] (fun i wr => ∃ k : Nat, k ≤ n ∧ i = .int .i64 (k : Int) ∧ Hid (PartT wr w.heap.size n k xs) ∧ Hid (Below w.heap.size w wr)) (fun i _ => n - (intOf i).toNat)
  case atStart => exact ⟨0, Nat.zero_le _, rfl, HP, (Below.refl _ _).alloc (Nat.le_refl _) _⟩
  case round =>
    obtain ⟨k, hk, rfl, hpr, hbw⟩ := hrel
    by_cases hlt : k < n
    · have hlt2 : (k : Int) < (n : Int) := by omega
      obtain ⟨g, rfl, hg, r0⟩ := (HA.out.below hbw.out).2 k hlt
      obtain ⟨z, hzz⟩ : ∃ z, z = textAt xs k := ⟨_, rfl⟩
      have HZ1 : Hid (z.size ≤ 281474976710656) := by rw [Hid, hzz]; have := HZ.out k hlt; omega
      have HZE : Hid (textAt xs k = z) := hzz.symm
      rw [← hzz] at r0
      clear hzz
      go_wp2_with fail
      refine (clone_any z _ HZ1.out).mono ?_
      rintro e w1 ⟨rfl, bw⟩
      have hp1 : PartT w1 w.heap.size n k xs := by
        obtain ⟨cur, h1, h2, h3⟩ := hpr.out
        exact ⟨cur, blk_below h1 bw, h2, h3⟩
      have HB2 : Hid (Below w.heap.size w w1) := hbw.out.trans (bw.mono hbw.out.size)
      have hput := hp1.put hlt
      rw [HZE.out] at hput
      have HPUT : Hid (PartT (w1.setCell ⟨w.heap.size, k, none⟩ (.string z)) w.heap.size n (k + 1) xs) := hput
      obtain ⟨u0, hu0, f0⟩ : ∃ u, w1.cell? ⟨w.heap.size, k, none⟩ = some u ∧ w1.frozen? ⟨w.heap.size, k, none⟩ = false := by
        obtain ⟨cur, h1, h2, _⟩ := hp1
        refine ⟨cur[k]'(by omega), ?_, by simp [World.frozen?, h1]⟩
        simp only [World.cell?, h1]
        simp [show k < cur.size by omega]
      clear bw hp1 hput r0
      go_wp2_with fail
      go_roundw
      case rel => exact ⟨k + 1, by omega, by go_num, HPUT, HB2.out.setCell (Nat.le_refl _) _⟩
      case measure => simp [intOf]; omega
    · obtain rfl : k = n := by omega
      go_wp2_with fail
      go_ret
      exact ⟨_, rfl, (hpr.out.row HLEN.out (Nat.le_refl _) (by unfold maxLen; omega)).owns, hbw.out⟩

set_option maxHeartbeats 4000000 in
theorem asDisk_any (l : List ByteArray) (hl : l.length = 20) (hz : ∀ i, i < 20 → (textAt l i).size ≤ 1048576) (w : World) :
    Calls Try.prog 44 #[.agg (cellsA l)] w fun e w' => DiskIs l [] w e w' := by
  have HL : Hid (l.length = 20) := hl
  have HZ : Hid (∀ i, i < 20 → (textAt l i).size ≤ 1048576) := hz
  clear hl hz
  go_enter Try.func44, Try.ntmps44
  go_upto_region 1 with fail
  obtain ⟨w2, hw2⟩ : ∃ W, W = (w.alloc (.cells (cellsA l) 77)).alloc (.cells #[.slice none 0 0, .slice none 0 0] 25) := ⟨_, rfl⟩
  rw [← hw2]
  have hBW : Below w.heap.size w w2 := by rw [hw2]; exact ((Below.refl _ _).alloc (Nat.le_refl _) _).alloc (by simp) _
  have hA : w2.heap[w.heap.size]? = some (.cells (cellsA l) 77) := by rw [hw2]; exact blk_alloc (heap_alloc_new _ _) _
  have hC : w2.heap[w.heap.size + 1]? = some (.cells #[.slice none 0 0, .slice none 0 0] 25) := by rw [hw2]; exact heap_alloc2_new _ _ _
  obtain ⟨q, hq⟩ : ∃ q, q = w.heap.size := ⟨_, rfl⟩
  have HQ : Hid (w.heap.size = q) := hq.symm
  rw [← hq] at hA hC
  rw [← hq]
  have HA : Hid (w2.heap[q]? = some (.cells (cellsA l) 77)) := hA
  have HC : Hid (w2.heap[q + 1]? = some (.cells #[.slice none 0 0, .slice none 0 0] 25)) := hC
  have HBW : Hid (Below w.heap.size w w2) := hBW
  clear hw2 hBW hA hC hq
  go_wp2_with fail
  refine (copiedTexts_any (some ⟨q, 0, none⟩) 20 20 l _ ⟨HL.out, fun i hi => ⟨q, rfl, (Array.getElem?_eq_some_iff.1 HA.out).1, (cell_of HA.out i).trans (cellsA_at l i (by rw [HL.out]; exact hi))⟩⟩ (by omega) HZ.out).mono ?_
  rintro e w3 ⟨v, rfl, ho, bw⟩
  have hC3 := blk_below HC.out bw
  have HC3 : Hid (w3.heap[q + 1]? = some (.cells #[.slice none 0 0, .slice none 0 0] 25)) := hC3
  have c0 := (cell_of hC3 0).trans rfl
  have c1 := (cell_of hC3 1).trans rfl
  have f0 := frozen_of hC3 0
  have f1 := frozen_of hC3 1
  obtain ⟨o, p, rfl⟩ := slice_of_owns ho
  have HO : Hid (w3.ownsRow w2.heap.size 9 1 (.slice o 20 p) 20 (l.map Value.string)) := ho
  have HB3 : Hid (Below w.heap.size w w3) := HBW.out.trans (bw.mono HBW.out.size)
  have HS2 : Hid (w.heap.size ≤ w2.heap.size) := HBW.out.size
  clear hC3 bw ho
  go_wp2_with fail
  obtain ⟨w5, hw5⟩ : ∃ W, W = (w3.setCell ⟨q + 1, 0, none⟩ (.slice o 20 p)).setCell ⟨q + 1, 1, none⟩ (.slice none 0 0) := ⟨_, rfl⟩
  rw [← hw5]
  have h5 : w5.heap[q + 1]? = some (.cells #[.slice o 20 p, .slice none 0 0] 25) := by
    rw [hw5]
    exact heap_setCell_same _ _ _ _ _ _ (heap_setCell_same _ _ _ _ _ _ HC3.out)
  refine bodyPost_ret (v := .agg #[.slice o 20 p, .slice none 0 0]) (results_cell_row Try.results44 _ _ (q + 1) 25 _ (0, 0) _ rfl h5 Try.underlying25 rfl (by kernel_rfl)) rfl ⟨_, _, rfl, ⟨?_, World.ownsRow_nil _ _ _ _⟩, ?_⟩
  · rw [HL.out, hw5]
    exact owns_same (owns_wide HO.out HS2.out) (fun g hg => by
      have hne : g ≠ q + 1 := own_ne HO.out HC3.out (by decide) g hg
      rw [heap_setCell_other _ _ g _ hne, heap_setCell_other _ _ g _ hne])
  · rw [hw5]
    exact (HB3.out.setCell (by rw [HQ.out]; exact Nat.le_succ _) _).setCell (by rw [HQ.out]; exact Nat.le_succ _) _

end Go.Proofs.Ytanpngnpolhgbaa

namespace Go.Proofs.Ytanpngnpolhgbaa
open Go.RowKit
open Go.Lib hiding intOf

/-- A disk is stored into the result's block. -/
theorem stored {w w0 w1 : World} {q : Nat} {x0 x1 v1 v2 : Value} {n1 n2 : Nat} {cs : List ByteArray} {ws : List (Int × ByteArray)} (hC : w1.heap[q]? = some (.cells #[x0, x1] 25)) (hD : DiskO w1 w0.heap.size v1 n1 cs v2 n2 ws) (hs : w.heap.size ≤ w0.heap.size) (hb : Below w.heap.size w w1) (hq : w.heap.size ≤ q) :
    ((w1.setCell ⟨q, 0, none⟩ v1).setCell ⟨q, 1, none⟩ v2).heap[q]? = some (.cells #[v1, v2] 25) ∧ DiskO ((w1.setCell ⟨q, 0, none⟩ v1).setCell ⟨q, 1, none⟩ v2) w.heap.size v1 n1 cs v2 n2 ws ∧ Below w.heap.size w ((w1.setCell ⟨q, 0, none⟩ v1).setCell ⟨q, 1, none⟩ v2) := by
  refine ⟨heap_setCell_same _ _ _ _ _ _ (heap_setCell_same _ _ _ _ _ _ hC), ⟨?_, ?_⟩, (hb.setCell hq _).setCell hq _⟩
  · exact owns_same (owns_wide hD.cells hs) (fun g hg => by
      have hne : g ≠ q := own_ne hD.cells hC (by decide) g hg
      rw [heap_setCell_other _ _ g _ hne, heap_setCell_other _ _ g _ hne])
  · exact owns_same (owns_wide hD.pend hs) (fun g hg => by
      have hne : g ≠ q := own_ne hD.pend hC (by decide) g hg
      rw [heap_setCell_other _ _ g _ hne, heap_setCell_other _ _ g _ hne])
theorem shutDisk {fn : Func} {w w0 w1 : World} {q : Nat} {a : Act} {p : Tmp} {x0 x1 v1 v2 : Value} {n1 n2 : Nat} {cs : List ByteArray} {ws : List (Int × ByteArray)} (hr : fn.results = #[.cell p 25]) (hp : a.tmps.getD p undef = .pointer (some ⟨q, 0, none⟩)) (hd : a.defers = []) (hC : w1.heap[q]? = some (.cells #[x0, x1] 25)) (hD : DiskO w1 w0.heap.size v1 n1 cs v2 n2 ws) (hn1 : n1 = cs.length) (hn2 : n2 = ws.length) (hs : w.heap.size ≤ w0.heap.size) (hb : Below w.heap.size w w1) (hq : w.heap.size ≤ q) :
    bodyPost Try.prog fn (fun e w' => DiskIs cs ws w e w') .ret a ((w1.setCell ⟨q, 0, none⟩ v1).setCell ⟨q, 1, none⟩ v2) := by
  obtain ⟨h1, h2, h3⟩ := stored hC hD hs hb hq
  subst hn1 hn2
  exact bodyPost_ret (v := .agg #[v1, v2]) (results_cell_row hr _ _ q 25 _ (0, 0) _ hp h1 Try.underlying25 rfl (by kernel_rfl)) hd ⟨_, _, rfl, h2, h3⟩
set_option maxHeartbeats 4000000 in
theorem implDiskNew_any (w : World) :
    Calls Try.prog 24 #[] w fun e w' => DiskIs newC [] w e w' := by
  go_enter Try.func24, Try.ntmps24
  go_wp2_with fail
  refine (asDisk_any noneA rfl (fun i hi => by
    have e : textAt noneA i = ⟨#[]⟩ := by
      unfold textAt noneA
      rw [List.getD_eq_getElem?_getD, List.getElem?_replicate, if_pos hi]
      rfl
    rw [e]
    exact Nat.zero_le _) _).mono ?_
  rintro e w1 ⟨v1, v2, rfl, hd, bw⟩
  obtain ⟨oa, pa, rfl⟩ := slice_of_owns hd.cells
  obtain ⟨ob, pb, rfl⟩ := slice_of_owns hd.pend
  have hC := blk_below (heap_alloc_new w _) bw
  have c0 := (cell_of hC 0).trans rfl
  have c1 := (cell_of hC 1).trans rfl
  have f0 := frozen_of hC 0
  have f1 := frozen_of hC 1
  have HC : Hid _ := hC
  have HD : Hid _ := hd
  have HB : Hid (Below w.heap.size w w1) := ((Below.refl _ _).alloc (Nat.le_refl _) _).trans (bw.mono (by simp))
  have HS : Hid (w.heap.size ≤ (w.alloc (.cells #[.slice none 0 0, .slice none 0 0] 25)).heap.size) := by rw [Hid]; simp
  clear hC hd bw
  go_wp2_with fail
  refine shutDisk Try.results24 ?_ ?_ HC.out HD.out ?_ ?_ HS.out HB.out (Nat.le_refl _) <;> rfl

end Go.Proofs.Ytanpngnpolhgbaa

namespace Go.Proofs.Ytanpngnpolhgbaa
open Go.RowKit
open Go.Lib hiding intOf

set_option maxHeartbeats 8000000 in
set_option maxRecDepth 100000 in
theorem implShelfNew_any (w : World) :
    Calls Try.prog 10 #[] w fun e w' => ShelfIs newS w e w' := by
  have hb0 : Below w.heap.size w w := Below.refl _ _
  go_enter Try.func10, Try.ntmps10
  go_upto_region 1 with fail
  obtain ⟨qv1, hqv1⟩ : ∃ q, q = (w).heap.size := ⟨_, rfl⟩
  obtain ⟨w1, hW1⟩ : ∃ W, W = (w).alloc (.cells #[.slice none 0 0, .slice none 0 0, .slice none 0 0, .slice none 0 0, .int .i64 0, .int .i64 0] 29) := ⟨_, rfl⟩
  have hz1 : (w).heap.size = qv1 := hqv1.symm
  first | rw [← hW1, ← hqv1] | rw [← hW1]
  have hs1 : w1.heap.size = qv1 + 1 := by rw [hW1, ← hz1]; simp
  have bw : Below (w).heap.size (w) w1 := by rw [hW1]; exact (Below.refl _ _).alloc (Nat.le_refl _) _
  have hb1 : Below w.heap.size w (w1) := hb0.trans (bw.mono hb0.size)
  have HBv1_1 : Hid ((w1).heap[qv1]? = some (.cells #[.slice none 0 0, .slice none 0 0, .slice none 0 0, .slice none 0 0, .int .i64 0, .int .i64 0] 29)) := by show _ = _; rw [hW1, ← hz1]; exact heap_alloc_new _ _
  have HGv1 : Hid (w.heap.size ≤ qv1) := by show _ ≤ _; rw [← hz1]; exact hb0.size
  clear hb0 bw hW1 hz1
  clear hs1 hqv1
  go_wp2_with fail
  refine (implDiskNew_any _).mono ?_
  rintro e w2 ⟨vv1, vv2, rfl, hdk, bw⟩
  have hdk2 : DiskO w2 (w1).heap.size vv1 20 newC vv2 0 [] := by rw [← newC_len]; exact hdk
  obtain ⟨oC, pC, rfl⟩ := slice_of_owns hdk2.cells
  obtain ⟨oP, pP, rfl⟩ := slice_of_owns hdk2.pend
  have HRN0 : Hid (RowsO w2 w.heap.size ([(⟨9, 1, (.slice oC 20 pC), 20, newC.map Value.string⟩ : Rw), (⟨97, 2, (.slice oP 0 pP), 0, flatWrite []⟩ : Rw)])) := (disk_rows hdk2).wide hb1.size
  have HT0 : Hid (∀ r ∈ ([(⟨9, 1, (.slice oC 20 pC), 20, newC.map Value.string⟩ : Rw), (⟨97, 2, (.slice oP 0 pP), 0, flatWrite []⟩ : Rw)]), 29 ≠ r.T) := by
    intro r hr
    simp only [List.mem_cons, List.not_mem_nil, or_false] at hr
    rcases hr with rfl | rfl
    · exact (by decide : (29 : TypeId) ≠ 9)
    · exact (by decide : (29 : TypeId) ≠ 97)
  clear hdk hdk2
  have hb2 : Below w.heap.size w (w2) := hb1.trans (bw.mono hb1.size)
  have HBv1_2 : Hid ((w2).heap[qv1]? = some (.cells #[.slice none 0 0, .slice none 0 0, .slice none 0 0, .slice none 0 0, .int .i64 0, .int .i64 0] 29)) := blk_below HBv1_1.out bw
  clear hb1 HBv1_1 bw
  have ER_2 : Hid (RowsO (w2) w.heap.size ([(⟨9, 1, (.slice oC 20 pC), 20, newC.map Value.string⟩ : Rw), (⟨97, 2, (.slice oP 0 pP), 0, flatWrite []⟩ : Rw)])) := HRN0.out
  clear HRN0
  have cv1_0 : (w2).cell? ⟨qv1, 0, none⟩ = some (.slice none 0 0) := (cell_of HBv1_2.out 0).trans rfl
  have fcv1_0 : (w2).frozen? ⟨qv1, 0, none⟩ = false := frozen_of HBv1_2.out 0
  have cv1_1 : (w2).cell? ⟨qv1, 1, none⟩ = some (.slice none 0 0) := (cell_of HBv1_2.out 1).trans rfl
  have fcv1_1 : (w2).frozen? ⟨qv1, 1, none⟩ = false := frozen_of HBv1_2.out 1
  have cv1_2 : (w2).cell? ⟨qv1, 2, none⟩ = some (.slice none 0 0) := (cell_of HBv1_2.out 2).trans rfl
  have fcv1_2 : (w2).frozen? ⟨qv1, 2, none⟩ = false := frozen_of HBv1_2.out 2
  have cv1_3 : (w2).cell? ⟨qv1, 3, none⟩ = some (.slice none 0 0) := (cell_of HBv1_2.out 3).trans rfl
  have fcv1_3 : (w2).frozen? ⟨qv1, 3, none⟩ = false := frozen_of HBv1_2.out 3
  have cv1_4 : (w2).cell? ⟨qv1, 4, none⟩ = some (.int .i64 0) := (cell_of HBv1_2.out 4).trans rfl
  have fcv1_4 : (w2).frozen? ⟨qv1, 4, none⟩ = false := frozen_of HBv1_2.out 4
  have cv1_5 : (w2).cell? ⟨qv1, 5, none⟩ = some (.int .i64 0) := (cell_of HBv1_2.out 5).trans rfl
  have fcv1_5 : (w2).frozen? ⟨qv1, 5, none⟩ = false := frozen_of HBv1_2.out 5
  go_wp2_with fail
  obtain ⟨w3, hW3⟩ : ∃ W, W = (w2).setCell ⟨qv1, 0, none⟩ (.slice oC 20 pC) := ⟨_, rfl⟩
  rw [← hW3]
  have hb3 : Below w.heap.size w (w3) := by rw [hW3]; exact (hb2.setCell (p := ⟨qv1, 0, none⟩) HGv1.out _)
  have ER_3 : Hid (RowsO (w3) w.heap.size ([(⟨9, 1, (.slice oC 20 pC), 20, newC.map Value.string⟩ : Rw), (⟨97, 2, (.slice oP 0 pP), 0, flatWrite []⟩ : Rw)])) := by show RowsO _ _ _; rw [hW3]; exact RowsO.other ER_2.out HBv1_2.out HT0.out
  have HBv1_3 : Hid ((w3).heap[qv1]? = some (.cells #[.slice oC 20 pC, .slice none 0 0, .slice none 0 0, .slice none 0 0, .int .i64 0, .int .i64 0] 29)) := by show _ = _; rw [hW3]; have h := heap_set _ _ 0 _ _ _ (.slice oC 20 pC) HBv1_2.out; simpa using h
  clear hb2 HBv1_2 ER_2 hW3
  obtain ⟨w4, hW4⟩ : ∃ W, W = (w3).setCell ⟨qv1, 1, none⟩ (.slice oP 0 pP) := ⟨_, rfl⟩
  rw [← hW4]
  have hb4 : Below w.heap.size w (w4) := by rw [hW4]; exact (hb3.setCell (p := ⟨qv1, 1, none⟩) HGv1.out _)
  have ER_4 : Hid (RowsO (w4) w.heap.size ([(⟨9, 1, (.slice oC 20 pC), 20, newC.map Value.string⟩ : Rw), (⟨97, 2, (.slice oP 0 pP), 0, flatWrite []⟩ : Rw)])) := by show RowsO _ _ _; rw [hW4]; exact RowsO.other ER_3.out HBv1_3.out HT0.out
  have HBv1_4 : Hid ((w4).heap[qv1]? = some (.cells #[.slice oC 20 pC, .slice oP 0 pP, .slice none 0 0, .slice none 0 0, .int .i64 0, .int .i64 0] 29)) := by show _ = _; rw [hW4]; have h := heap_set _ _ 1 _ _ _ (.slice oP 0 pP) HBv1_3.out; simpa using h
  clear hb3 HBv1_3 ER_3 hW4
  obtain ⟨w5, hW5⟩ : ∃ W, W = (w4).setCell ⟨qv1, 2, none⟩ (.slice none 0 0) := ⟨_, rfl⟩
  rw [← hW5]
  have hb5 : Below w.heap.size w (w5) := by rw [hW5]; exact (hb4.setCell (p := ⟨qv1, 2, none⟩) HGv1.out _)
  have ER_5 : Hid (RowsO (w5) w.heap.size ([(⟨9, 1, (.slice oC 20 pC), 20, newC.map Value.string⟩ : Rw), (⟨97, 2, (.slice oP 0 pP), 0, flatWrite []⟩ : Rw)])) := by show RowsO _ _ _; rw [hW5]; exact RowsO.other ER_4.out HBv1_4.out HT0.out
  have HBv1_5 : Hid ((w5).heap[qv1]? = some (.cells #[.slice oC 20 pC, .slice oP 0 pP, .slice none 0 0, .slice none 0 0, .int .i64 0, .int .i64 0] 29)) := by show _ = _; rw [hW5]; have h := heap_set _ _ 2 _ _ _ (.slice none 0 0) HBv1_4.out; simpa using h
  clear hb4 HBv1_4 ER_4 hW5
  obtain ⟨w6, hW6⟩ : ∃ W, W = (w5).setCell ⟨qv1, 3, none⟩ (.slice none 0 0) := ⟨_, rfl⟩
  rw [← hW6]
  have hb6 : Below w.heap.size w (w6) := by rw [hW6]; exact (hb5.setCell (p := ⟨qv1, 3, none⟩) HGv1.out _)
  have ER_6 : Hid (RowsO (w6) w.heap.size ([(⟨9, 1, (.slice oC 20 pC), 20, newC.map Value.string⟩ : Rw), (⟨97, 2, (.slice oP 0 pP), 0, flatWrite []⟩ : Rw)])) := by show RowsO _ _ _; rw [hW6]; exact RowsO.other ER_5.out HBv1_5.out HT0.out
  have HBv1_6 : Hid ((w6).heap[qv1]? = some (.cells #[.slice oC 20 pC, .slice oP 0 pP, .slice none 0 0, .slice none 0 0, .int .i64 0, .int .i64 0] 29)) := by show _ = _; rw [hW6]; have h := heap_set _ _ 3 _ _ _ (.slice none 0 0) HBv1_5.out; simpa using h
  clear hb5 HBv1_5 ER_5 hW6
  obtain ⟨w7, hW7⟩ : ∃ W, W = (w6).setCell ⟨qv1, 4, none⟩ (.int .i64 5) := ⟨_, rfl⟩
  rw [← hW7]
  have hb7 : Below w.heap.size w (w7) := by rw [hW7]; exact (hb6.setCell (p := ⟨qv1, 4, none⟩) HGv1.out _)
  have ER_7 : Hid (RowsO (w7) w.heap.size ([(⟨9, 1, (.slice oC 20 pC), 20, newC.map Value.string⟩ : Rw), (⟨97, 2, (.slice oP 0 pP), 0, flatWrite []⟩ : Rw)])) := by show RowsO _ _ _; rw [hW7]; exact RowsO.other ER_6.out HBv1_6.out HT0.out
  have HBv1_7 : Hid ((w7).heap[qv1]? = some (.cells #[.slice oC 20 pC, .slice oP 0 pP, .slice none 0 0, .slice none 0 0, .int .i64 5, .int .i64 0] 29)) := by show _ = _; rw [hW7]; have h := heap_set _ _ 4 _ _ _ (.int .i64 5) HBv1_6.out; simpa using h
  clear hb6 HBv1_6 ER_6 hW7
  obtain ⟨w8, hW8⟩ : ∃ W, W = (w7).setCell ⟨qv1, 5, none⟩ (.int .i64 1) := ⟨_, rfl⟩
  rw [← hW8]
  have hb8 : Below w.heap.size w (w8) := by rw [hW8]; exact (hb7.setCell (p := ⟨qv1, 5, none⟩) HGv1.out _)
  have ER_8 : Hid (RowsO (w8) w.heap.size ([(⟨9, 1, (.slice oC 20 pC), 20, newC.map Value.string⟩ : Rw), (⟨97, 2, (.slice oP 0 pP), 0, flatWrite []⟩ : Rw)])) := by show RowsO _ _ _; rw [hW8]; exact RowsO.other ER_7.out HBv1_7.out HT0.out
  have HBv1_8 : Hid ((w8).heap[qv1]? = some (.cells #[.slice oC 20 pC, .slice oP 0 pP, .slice none 0 0, .slice none 0 0, .int .i64 5, .int .i64 1] 29)) := by show _ = _; rw [hW8]; have h := heap_set _ _ 5 _ _ _ (.int .i64 1) HBv1_7.out; simpa using h
  clear hb7 HBv1_7 ER_7 hW8
  have kv1_0 : (w8).cell? ⟨qv1, 0, none⟩ = some (.slice oC 20 pC) := (cell_of HBv1_8.out 0).trans rfl
  have kv1_1 : (w8).cell? ⟨qv1, 1, none⟩ = some (.slice oP 0 pP) := (cell_of HBv1_8.out 1).trans rfl
  have kv1_2 : (w8).cell? ⟨qv1, 2, none⟩ = some (.slice none 0 0) := (cell_of HBv1_8.out 2).trans rfl
  have kv1_3 : (w8).cell? ⟨qv1, 3, none⟩ = some (.slice none 0 0) := (cell_of HBv1_8.out 3).trans rfl
  have kv1_4 : (w8).cell? ⟨qv1, 4, none⟩ = some (.int .i64 5) := (cell_of HBv1_8.out 4).trans rfl
  have kv1_5 : (w8).cell? ⟨qv1, 5, none⟩ = some (.int .i64 1) := (cell_of HBv1_8.out 5).trans rfl
  refine bodyPost_ret (v := .agg #[.slice oC 20 pC, .slice oP 0 pP, .slice none 0 0, .slice none 0 0, .int .i64 5, .int .i64 1]) (by simp [results, Try.results10, go_sem, kv1_0, kv1_1, kv1_2, kv1_3, kv1_4, kv1_5]) rfl ?_
  refine ⟨.slice oC 20 pC, .slice oP 0 pP, .slice none 0 0, .slice none 0 0, [], rfl, ⟨?_, rfl⟩, hb8⟩
  have h := (ER_8.out.none 82 9).none 85 4
  unfold shAll
  show RowsO _ _ ([(⟨9, 1, .slice oC 20 pC, newC.length, newC.map Value.string⟩ : Rw), (⟨97, 2, (.slice oP 0 pP), 0, flatWrite []⟩ : Rw)] ++ [⟨82, 9, .slice none 0 0, 0, []⟩] ++ [⟨85, 4, .slice none 0 0, 0, []⟩])
  rw [newC_len]
  exact h

end Go.Proofs.Ytanpngnpolhgbaa

namespace Go.Proofs.Ytanpngnpolhgbaa
open Go.RowKit
open Go.Lib hiding intOf

set_option maxHeartbeats 8000000 in
set_option maxRecDepth 100000 in
theorem eqShelf_go (s : ShD) (n1 n2 n3 n4 : Nat) (oCx oPx oKx oBx oCy oPy oKy oBy : Option Addr) (pCx pPx pKx pBx pCy pPy pKy pBy : Nat) (kvx kvy : List (KpD × Value × Value × Value)) (Bx By : Nat) (w : World) (HL : Hid (s.cs.length = n1 ∧ s.ws.length = n2 ∧ s.bl.length = n4)) (HN : Hid (n1 ≤ 2000000 ∧ n2 ≤ 2000000 ∧ kvx.length ≤ 2000000 ∧ n4 ≤ 2000000)) (HSZ : Hid (∀ x ∈ kvx, x.1.xs.length ≤ 2000000 ∧ x.1.ys.length ≤ 2000000 ∧ x.1.fs.length ≤ 2000000)) (HKE : Hid (kvx.map (·.1) = kvy.map (·.1))) (Ex_0 : Hid (ShelfO (w) Bx (.slice oCx n1 pCx) (.slice oPx n2 pPx) (.slice oKx n3 pKx) (.slice oBx n4 pBx) kvx s)) (Ey_0 : Hid (ShelfO (w) By (.slice oCy n1 pCy) (.slice oPy n2 pPy) (.slice oKy n3 pKy) (.slice oBy n4 pBy) kvy s)) :
    Calls Try.prog 11 #[.agg #[.slice oCx n1 pCx, .slice oPx n2 pPx, .slice oKx n3 pKx, .slice oBx n4 pBx, .int .i64 s.nx, .int .i64 s.sq], .agg #[.slice oCy n1 pCy, .slice oPy n2 pPy, .slice oKy n3 pKy, .slice oBy n4 pBy, .int .i64 s.nx, .int .i64 s.sq]] w fun e w' => e = .returned (.bool true) ∧ Below w.heap.size w w' := by
  have hnx : (s.nx != s.nx) = false := by simp
  have hsq : (s.sq != s.sq) = false := by simp
  have hb0 : Below w.heap.size w w := Below.refl _ _
  go_enter Try.func11, Try.ntmps11
  go_upto_region 1 with fail
  obtain ⟨qv1, hqv1⟩ : ∃ q, q = (w).heap.size := ⟨_, rfl⟩
  obtain ⟨w1, hW1⟩ : ∃ W, W = (w).alloc (.cells #[.slice oCx n1 pCx, .slice oPx n2 pPx, .slice oKx n3 pKx, .slice oBx n4 pBx, .int .i64 s.nx, .int .i64 s.sq] 29) := ⟨_, rfl⟩
  have hz1 : (w).heap.size = qv1 := hqv1.symm
  first | rw [← hW1, ← hqv1] | rw [← hW1]
  have hs1 : w1.heap.size = qv1 + 1 := by rw [hW1, ← hz1]; simp
  have bw : Below (w).heap.size (w) w1 := by rw [hW1]; exact (Below.refl _ _).alloc (Nat.le_refl _) _
  have hb1 : Below w.heap.size w (w1) := hb0.trans (bw.mono hb0.size)
  have Ex_1 : Hid (ShelfO (w1) Bx (.slice oCx n1 pCx) (.slice oPx n2 pPx) (.slice oKx n3 pKx) (.slice oBx n4 pBx) kvx s) := Ex_0.out.below bw
  have Ey_1 : Hid (ShelfO (w1) By (.slice oCy n1 pCy) (.slice oPy n2 pPy) (.slice oKy n3 pKy) (.slice oBy n4 pBy) kvy s) := Ey_0.out.below bw
  have HBv1_1 : Hid ((w1).heap[qv1]? = some (.cells #[.slice oCx n1 pCx, .slice oPx n2 pPx, .slice oKx n3 pKx, .slice oBx n4 pBx, .int .i64 s.nx, .int .i64 s.sq] 29)) := by show _ = _; rw [hW1, ← hz1]; exact heap_alloc_new _ _
  clear hb0 Ex_0 Ey_0 bw hW1 hz1
  obtain ⟨qv2, hqv2⟩ : ∃ q, q = qv1 + 1 := ⟨_, rfl⟩
  obtain ⟨w2, hW2⟩ : ∃ W, W = (w1).alloc (.cells #[.slice oCy n1 pCy, .slice oPy n2 pPy, .slice oKy n3 pKy, .slice oBy n4 pBy, .int .i64 s.nx, .int .i64 s.sq] 29) := ⟨_, rfl⟩
  have hz2 : (w1).heap.size = qv2 := by rw [hqv2]; exact hs1
  first | rw [← hW2, ← hqv2] | rw [← hW2]
  have hs2 : w2.heap.size = qv2 + 1 := by rw [hW2, ← hz2]; simp
  have bw : Below (w1).heap.size (w1) w2 := by rw [hW2]; exact (Below.refl _ _).alloc (Nat.le_refl _) _
  have hb2 : Below w.heap.size w (w2) := hb1.trans (bw.mono hb1.size)
  have HBv1_2 : Hid ((w2).heap[qv1]? = some (.cells #[.slice oCx n1 pCx, .slice oPx n2 pPx, .slice oKx n3 pKx, .slice oBx n4 pBx, .int .i64 s.nx, .int .i64 s.sq] 29)) := blk_below HBv1_1.out bw
  have Ex_2 : Hid (ShelfO (w2) Bx (.slice oCx n1 pCx) (.slice oPx n2 pPx) (.slice oKx n3 pKx) (.slice oBx n4 pBx) kvx s) := Ex_1.out.below bw
  have Ey_2 : Hid (ShelfO (w2) By (.slice oCy n1 pCy) (.slice oPy n2 pPy) (.slice oKy n3 pKy) (.slice oBy n4 pBy) kvy s) := Ey_1.out.below bw
  have HBv2_2 : Hid ((w2).heap[qv2]? = some (.cells #[.slice oCy n1 pCy, .slice oPy n2 pPy, .slice oKy n3 pKy, .slice oBy n4 pBy, .int .i64 s.nx, .int .i64 s.sq] 29)) := by show _ = _; rw [hW2, ← hz2]; exact heap_alloc_new _ _
  clear hb1 HBv1_1 Ex_1 Ey_1 bw hW2 hz2
  clear hs2 hqv2 hs1 hqv1
  have cv1_0 : (w2).cell? ⟨qv1, 0, none⟩ = some (.slice oCx n1 pCx) := (cell_of HBv1_2.out 0).trans rfl
  have cv1_1 : (w2).cell? ⟨qv1, 1, none⟩ = some (.slice oPx n2 pPx) := (cell_of HBv1_2.out 1).trans rfl
  have cv2_0 : (w2).cell? ⟨qv2, 0, none⟩ = some (.slice oCy n1 pCy) := (cell_of HBv2_2.out 0).trans rfl
  have cv2_1 : (w2).cell? ⟨qv2, 1, none⟩ = some (.slice oPy n2 pPy) := (cell_of HBv2_2.out 1).trans rfl
  go_wp2_with fail
  refine (eqDisk_any n1 s.cs n2 s.ws _ _ _ _ Bx By _ (show DiskO _ Bx _ n1 s.cs _ n2 s.ws from by have h := Ex_2.out.disk; rw [HL.out.1, HL.out.2.1] at h; exact h) (show DiskO _ By _ n1 s.cs _ n2 s.ws from by have h := Ey_2.out.disk; rw [HL.out.1, HL.out.2.1] at h; exact h) HN.out.1 HN.out.2.1).mono ?_
  rintro e w3 ⟨rfl, bw⟩
  have hb3 : Below w.heap.size w (w3) := hb2.trans (bw.mono hb2.size)
  have HBv1_3 : Hid ((w3).heap[qv1]? = some (.cells #[.slice oCx n1 pCx, .slice oPx n2 pPx, .slice oKx n3 pKx, .slice oBx n4 pBx, .int .i64 s.nx, .int .i64 s.sq] 29)) := blk_below HBv1_2.out bw
  have HBv2_3 : Hid ((w3).heap[qv2]? = some (.cells #[.slice oCy n1 pCy, .slice oPy n2 pPy, .slice oKy n3 pKy, .slice oBy n4 pBy, .int .i64 s.nx, .int .i64 s.sq] 29)) := blk_below HBv2_2.out bw
  have Ex_3 : Hid (ShelfO (w3) Bx (.slice oCx n1 pCx) (.slice oPx n2 pPx) (.slice oKx n3 pKx) (.slice oBx n4 pBx) kvx s) := Ex_2.out.below bw
  have Ey_3 : Hid (ShelfO (w3) By (.slice oCy n1 pCy) (.slice oPy n2 pPy) (.slice oKy n3 pKy) (.slice oBy n4 pBy) kvy s) := Ey_2.out.below bw
  clear hb2 HBv1_2 HBv2_2 Ex_2 Ey_2 bw
  clear cv1_0 cv1_1 cv2_0 cv2_1
  have cv1_2 : (w3).cell? ⟨qv1, 2, none⟩ = some (.slice oKx n3 pKx) := (cell_of HBv1_3.out 2).trans rfl
  have cv2_2 : (w3).cell? ⟨qv2, 2, none⟩ = some (.slice oKy n3 pKy) := (cell_of HBv2_3.out 2).trans rfl
  go_wp2_with fail
  refine (eqKeptS_any _ _ kvx kvy Bx By _ HKE.out Ex_3.out.kept Ey_3.out.kept HN.out.2.2.1 HSZ.out).mono ?_
  rintro e w4 ⟨rfl, bw⟩
  have hb4 : Below w.heap.size w (w4) := hb3.trans (bw.mono hb3.size)
  have HBv1_4 : Hid ((w4).heap[qv1]? = some (.cells #[.slice oCx n1 pCx, .slice oPx n2 pPx, .slice oKx n3 pKx, .slice oBx n4 pBx, .int .i64 s.nx, .int .i64 s.sq] 29)) := blk_below HBv1_3.out bw
  have HBv2_4 : Hid ((w4).heap[qv2]? = some (.cells #[.slice oCy n1 pCy, .slice oPy n2 pPy, .slice oKy n3 pKy, .slice oBy n4 pBy, .int .i64 s.nx, .int .i64 s.sq] 29)) := blk_below HBv2_3.out bw
  have Ex_4 : Hid (ShelfO (w4) Bx (.slice oCx n1 pCx) (.slice oPx n2 pPx) (.slice oKx n3 pKx) (.slice oBx n4 pBx) kvx s) := Ex_3.out.below bw
  have Ey_4 : Hid (ShelfO (w4) By (.slice oCy n1 pCy) (.slice oPy n2 pPy) (.slice oKy n3 pKy) (.slice oBy n4 pBy) kvy s) := Ey_3.out.below bw
  clear hb3 HBv1_3 HBv2_3 Ex_3 Ey_3 bw
  clear cv1_2 cv2_2
  have cv1_3 : (w4).cell? ⟨qv1, 3, none⟩ = some (.slice oBx n4 pBx) := (cell_of HBv1_4.out 3).trans rfl
  have cv2_3 : (w4).cell? ⟨qv2, 3, none⟩ = some (.slice oBy n4 pBy) := (cell_of HBv2_4.out 3).trans rfl
  go_wp2_with fail
  refine (eqBanS_any _ _ n4 _ _ s.bl _ (ban_view (show World.ownsRow _ Bx 85 4 _ n4 (flatBan s.bl) from by have h := Ex_4.out.bans; rw [HL.out.2.2] at h; exact h)) (ban_view (show World.ownsRow _ By 85 4 _ n4 (flatBan s.bl) from by have h := Ey_4.out.bans; rw [HL.out.2.2] at h; exact h)) HN.out.2.2.2).mono ?_
  rintro e w5 ⟨rfl, bw⟩
  have hb5 : Below w.heap.size w (w5) := hb4.trans (bw.mono hb4.size)
  have HBv1_5 : Hid ((w5).heap[qv1]? = some (.cells #[.slice oCx n1 pCx, .slice oPx n2 pPx, .slice oKx n3 pKx, .slice oBx n4 pBx, .int .i64 s.nx, .int .i64 s.sq] 29)) := blk_below HBv1_4.out bw
  have HBv2_5 : Hid ((w5).heap[qv2]? = some (.cells #[.slice oCy n1 pCy, .slice oPy n2 pPy, .slice oKy n3 pKy, .slice oBy n4 pBy, .int .i64 s.nx, .int .i64 s.sq] 29)) := blk_below HBv2_4.out bw
  have Ex_5 : Hid (ShelfO (w5) Bx (.slice oCx n1 pCx) (.slice oPx n2 pPx) (.slice oKx n3 pKx) (.slice oBx n4 pBx) kvx s) := Ex_4.out.below bw
  have Ey_5 : Hid (ShelfO (w5) By (.slice oCy n1 pCy) (.slice oPy n2 pPy) (.slice oKy n3 pKy) (.slice oBy n4 pBy) kvy s) := Ey_4.out.below bw
  clear hb4 HBv1_4 HBv2_4 Ex_4 Ey_4 bw
  clear cv1_3 cv2_3
  have cv1_4 : (w5).cell? ⟨qv1, 4, none⟩ = some (.int .i64 s.nx) := (cell_of HBv1_5.out 4).trans rfl
  have cv2_4 : (w5).cell? ⟨qv2, 4, none⟩ = some (.int .i64 s.nx) := (cell_of HBv2_5.out 4).trans rfl
  have cv1_5 : (w5).cell? ⟨qv1, 5, none⟩ = some (.int .i64 s.sq) := (cell_of HBv1_5.out 5).trans rfl
  have cv2_5 : (w5).cell? ⟨qv2, 5, none⟩ = some (.int .i64 s.sq) := (cell_of HBv2_5.out 5).trans rfl
  go_wp2_with fail
  go_ret
  exact ⟨rfl, hb5⟩

theorem eqShelf_any (s : ShD) (v1 v2 V VB u1 u2 U UB : Value) (kvx kvy : List (KpD × Value × Value × Value)) (Bx By : Nat) (w : World) (hx : ShelfO w Bx v1 v2 V VB kvx s) (hy : ShelfO w By u1 u2 U UB kvy s) (h1 : s.cs.length ≤ 2000000) (h2 : s.ws.length ≤ 2000000) (h3 : s.ks.length ≤ 2000000) (h4 : s.bl.length ≤ 2000000) (hs : ∀ k ∈ s.ks, k.xs.length ≤ 2000000 ∧ k.ys.length ≤ 2000000 ∧ k.fs.length ≤ 2000000) :
    Calls Try.prog 11 #[.agg #[v1, v2, V, VB, .int .i64 s.nx, .int .i64 s.sq], .agg #[u1, u2, U, UB, .int .i64 s.nx, .int .i64 s.sq]] w fun e w' => e = .returned (.bool true) ∧ Below w.heap.size w w' := by
  obtain ⟨oCx, pCx, rfl⟩ := slice_of_owns hx.disk.cells
  obtain ⟨oPx, pPx, rfl⟩ := slice_of_owns hx.disk.pend
  obtain ⟨oBx, pBx, rfl⟩ := slice_of_owns hx.bans
  obtain ⟨oKx, pKx, rfl⟩ := hx.kept.len
  obtain ⟨oCy, pCy, rfl⟩ := slice_of_owns hy.disk.cells
  obtain ⟨oPy, pPy, rfl⟩ := slice_of_owns hy.disk.pend
  obtain ⟨oBy, pBy, rfl⟩ := slice_of_owns hy.bans
  obtain ⟨oKy, pKy, rfl⟩ := hy.kept.len
  have e1 : kvx.length = s.ks.length := by rw [← hx.2, List.length_map]
  have e2 : kvy.length = s.ks.length := by rw [← hy.2, List.length_map]
  rw [e1] at hx ⊢
  rw [e2] at hy ⊢
  exact eqShelf_go s _ _ _ _ oCx oPx oKx oBx oCy oPy oKy oBy pCx pPx pKx pBx pCy pPy pKy pBy kvx kvy Bx By w ⟨rfl, rfl, rfl⟩ ⟨h1, h2, by rw [e1]; exact h3, h4⟩ (fun x hxm => hs x.1 (by rw [← hx.2]; exact List.mem_map.2 ⟨x, hxm, rfl⟩)) (hx.2.trans hy.2.symm) hx hy

end Go.Proofs.Ytanpngnpolhgbaa

namespace Go.Proofs.Ytanpngnpolhgbaa
open Go.RowKit
open Go.Lib hiding intOf

/-- Some rows turned where they lie: all others stay. -/
theorem RowsO.turns {w w' : World} {base : Nat} {pre xs xs' post : List Rw} (h : RowsO w base (pre ++ xs ++ post)) (hv : xs'.map (·.v) = xs.map (·.v)) (h' : RowsO w' base xs') (hs : ∀ g, g < w.heap.size → (∀ r ∈ xs, r.v.ownBlock ≠ some g) → w'.heap[g]? = w.heap[g]?) : RowsO w' base (pre ++ xs' ++ post) := by
  have hp := h.apart
  rw [List.pairwise_append, List.pairwise_append] at hp
  obtain ⟨⟨p1, _, p3⟩, p4, p5⟩ := hp
  have twin : ∀ r' ∈ xs', ∃ r ∈ xs, r.v = r'.v := fun r' hr => by
    have hm : r'.v ∈ xs'.map (·.v) := List.mem_map.2 ⟨r', hr, rfl⟩
    rw [hv] at hm
    exact List.mem_map.1 hm
  have keep : ∀ x, x ∈ pre ++ xs ++ post → (∀ r ∈ xs, x.ne r) → x.own w' base := fun x hx hne => owns_same (h.own x hx) (fun g hg => hs g (h.lt hx hg) (fun r hr => hne r hr g hg))
  have k1 : ∀ x ∈ pre, x.own w' base := fun x hx => keep x (by simp [hx]) (fun r hr => p3 x hx r hr)
  have k3 : ∀ x ∈ post, x.own w' base := fun x hx => keep x (by simp [hx]) (fun r hr => (p5 r (by simp [hr]) x hx).symm)
  refine ⟨fun x hx => ?_, ?_⟩
  · rcases List.mem_append.1 hx with hx | hx
    · rcases List.mem_append.1 hx with hx | hx
      · exact k1 x hx
      · exact h'.own x hx
    · exact k3 x hx
  · rw [List.pairwise_append, List.pairwise_append]
    refine ⟨⟨p1, h'.apart, fun a ha b hb => ?_⟩, p4, fun a ha b hb => ?_⟩
    · obtain ⟨r, hr, e⟩ := twin b hb
      have hne := p3 a ha r hr
      unfold Rw.ne at hne ⊢
      rw [← e]
      exact hne
    · rcases List.mem_append.1 ha with ha | ha
      · exact p5 a (by simp [ha]) b hb
      · obtain ⟨r, hr, e⟩ := twin a ha
        have hne := p5 r (by simp [hr]) b hb
        unfold Rw.ne at hne ⊢
        rw [← e]
        exact hne
theorem mkKs_v (V : Value) : ∀ (kv : List (KpD × Value × Value × Value)) (k : Nat), (kpAll V (mkKs k kv)).map (·.v) = (kpAll V kv).map (·.v) := by
  have key : ∀ (kv : List (KpD × Value × Value × Value)) (k : Nat), ((mkKs k kv).flatMap kpR).map (·.v) = (kv.flatMap kpR).map (·.v) := by
    intro kv
    induction kv with
    | nil => intro k; rfl
    | cons x r ih =>
      intro k
      rw [mkKs, List.flatMap_cons, List.flatMap_cons, List.map_append, List.map_append, ih]
      rfl
  intro kv k
  unfold kpAll
  rw [List.map_cons, List.map_cons, key]
  rfl

set_option maxHeartbeats 8000000 in
set_option maxRecDepth 100000 in
theorem markShelf_go (s : ShD) (n1 n2 n3 n4 : Nat) (oC oP oK oB : Option Addr) (pC pP pK pB : Nat) (kv : List (KpD × Value × Value × Value)) (B : Nat) (w : World) (hL1 : s.cs.length = n1) (hL2 : s.ws.length = n2) (hL3 : kv.length = n3) (hL4 : s.bl.length = n4) (HR : Hid (RowsO w B ([(⟨9, 1, (.slice oC n1 pC), n1, s.cs.map Value.string⟩ : Rw), (⟨97, 2, (.slice oP n2 pP), n2, flatWrite s.ws⟩ : Rw)] ++ kpAll (.slice oK n3 pK) kv ++ [(⟨85, 4, (.slice oB n4 pB), n4, flatBan s.bl⟩ : Rw)]))) (hB : B ≤ w.heap.size) (k0 : Nat) (hk0 : 1 ≤ k0) (hk : k0 + n1 + 2 * n2 + wms kv + 4 * n4 ≤ 9999998) (hn3 : n3 ≤ 2000000) (K1 K2 K3 : Nat) (HK1 : Hid (K1 = k0 + n1 + 2 * n2)) (HK2 : Hid (K2 = K1 + wms kv)) (HK3 : Hid (K3 = K2 + 4 * n4)) :
    Calls Try.prog 15 #[.agg #[(.slice oC n1 pC), (.slice oP n2 pP), (.slice oK n3 pK), (.slice oB n4 pB), .int .i64 s.nx, .int .i64 s.sq], .int .i64 (k0 : Int)] w fun e w' => e = .returned (.int .i64 (K3 : Int)) ∧ RowsO w' B ([(⟨9, 1, (.slice oC n1 pC), n1, (mkT k0 s.cs n1).map Value.string⟩ : Rw), (⟨97, 2, (.slice oP n2 pP), n2, flatWrite (mkWrite (k0 + n1) s.ws n2)⟩ : Rw)] ++ kpAll (.slice oK n3 pK) (mkKs K1 kv) ++ [(⟨85, 4, (.slice oB n4 pB), n4, flatBan (mkBan K2 s.bl n4)⟩ : Rw)]) ∧ Below B w w' ∧ FarR ([(⟨9, 1, (.slice oC n1 pC), n1, s.cs.map Value.string⟩ : Rw), (⟨97, 2, (.slice oP n2 pP), n2, flatWrite s.ws⟩ : Rw)] ++ kpAll (.slice oK n3 pK) kv ++ [(⟨85, 4, (.slice oB n4 pB), n4, flatBan s.bl⟩ : Rw)]) w w' := by
  have HL1 : Hid (s.cs.length = n1) := hL1
  have HL3 : Hid (kv.length = n3) := hL3
  have b0 : k0 + n1 + 2 * n2 ≤ 9999998 := by omega
  have b1 : 1 ≤ K1 ∧ K1 + wms kv ≤ 9999998 := by have := HK1.out; omega
  have b2 : 1 ≤ K2 ∧ K2 + 4 * n4 ≤ 9999999 := by have := HK1.out; have := HK2.out; omega
  have E1 : Hid (((k0 + n1 + 2 * n2 : Nat) : Int) = (K1 : Int)) := by show _ = _; rw [HK1.out]
  have E2 : Hid (((K1 + wms kv : Nat) : Int) = (K2 : Int)) := by show _ = _; rw [HK2.out]
  have E3 : Hid ((K2 : Int) + 4 * (n4 : Int) = (K3 : Int)) := by show _ = _; rw [HK3.out]; simp
  clear hL1 hL2 hL3 hL4 hk
  go_enter Try.func15, Try.ntmps15
  go_upto_region 1 with fail
  obtain ⟨q, hq⟩ : ∃ q, q = w.heap.size := ⟨_, rfl⟩
  obtain ⟨w1, hw1⟩ : ∃ W, W = w.alloc (.cells #[(.slice oC n1 pC), (.slice oP n2 pP), (.slice oK n3 pK), (.slice oB n4 pB), .int .i64 s.nx, .int .i64 s.sq] 29) := ⟨_, rfl⟩
  rw [← hw1, ← hq]
  have HX1 : Hid (w1.heap[q]? = some (.cells #[(.slice oC n1 pC), (.slice oP n2 pP), (.slice oK n3 pK), (.slice oB n4 pB), .int .i64 s.nx, .int .i64 s.sq] 29)) := by show _ = _; rw [hw1, hq]; exact heap_alloc_new _ _
  have bw1 : Below w.heap.size w w1 := by rw [hw1]; exact (Below.refl _ _).alloc (Nat.le_refl _) _
  have HR1 : Hid (RowsO w1 B ([] ++ [(⟨9, 1, (.slice oC n1 pC), n1, s.cs.map Value.string⟩ : Rw), (⟨97, 2, (.slice oP n2 pP), n2, flatWrite s.ws⟩ : Rw)] ++ (kpAll (.slice oK n3 pK) kv ++ [(⟨85, 4, (.slice oB n4 pB), n4, flatBan s.bl⟩ : Rw)]))) := by
    have h := HR.out.below bw1
    rw [List.append_assoc] at h
    exact h
  have HB1 : Hid (Below B w w1) := bw1.mono hB
  have HQ : Hid (∀ r ∈ ([(⟨9, 1, (.slice oC n1 pC), n1, s.cs.map Value.string⟩ : Rw), (⟨97, 2, (.slice oP n2 pP), n2, flatWrite s.ws⟩ : Rw)] ++ kpAll (.slice oK n3 pK) kv ++ [(⟨85, 4, (.slice oB n4 pB), n4, flatBan s.bl⟩ : Rw)]), r.v.ownBlock ≠ some q) := fun r hr e => by have h1 := HR.out.lt hr e; omega
  have HF1 : Hid (∀ j, j < w.heap.size → w1.heap[j]? = w.heap[j]?) := fun j hj => bw1.block j hj
  have hBw1 : B ≤ w1.heap.size := Nat.le_trans hB bw1.size
  have hqs : q < w1.heap.size := (Array.getElem?_eq_some_iff.1 HX1.out).1
  clear hw1 bw1 hq
  have c0 : w1.cell? ⟨q, 0, none⟩ = some (.slice oC n1 pC) := (cell_of HX1.out 0).trans rfl
  have c1 : w1.cell? ⟨q, 1, none⟩ = some (.slice oP n2 pP) := (cell_of HX1.out 1).trans rfl
  go_wp2_with fail
  refine (markDisk_any n1 s.cs n2 s.ws (.slice oC n1 pC) (.slice oP n2 pP) B _ ⟨HR1.out.own (⟨9, 1, (.slice oC n1 pC), n1, s.cs.map Value.string⟩ : Rw) (by simp), HR1.out.own (⟨97, 2, (.slice oP n2 pP), n2, flatWrite s.ws⟩ : Rw) (by simp)⟩ hBw1 k0 hk0 b0).mono ?_
  rintro e w2 ⟨rfl, hd, bm, far⟩
  have HR2 : Hid (RowsO w2 B ([(⟨9, 1, (.slice oC n1 pC), n1, (mkT k0 s.cs n1).map Value.string⟩ : Rw), (⟨97, 2, (.slice oP n2 pP), n2, flatWrite (mkWrite (k0 + n1) s.ws n2)⟩ : Rw)] ++ kpAll (.slice oK n3 pK) kv ++ [(⟨85, 4, (.slice oB n4 pB), n4, flatBan s.bl⟩ : Rw)])) := by
    have h := HR1.out.turns (xs' := [(⟨9, 1, (.slice oC n1 pC), n1, (mkT k0 s.cs n1).map Value.string⟩ : Rw), (⟨97, 2, (.slice oP n2 pP), n2, flatWrite (mkWrite (k0 + n1) s.ws n2)⟩ : Rw)]) rfl (disk_rows hd) (fun g hg hne => far g hg (hne (⟨9, 1, (.slice oC n1 pC), n1, s.cs.map Value.string⟩ : Rw) (by simp)) (hne (⟨97, 2, (.slice oP n2 pP), n2, flatWrite s.ws⟩ : Rw) (by simp)))
    rw [List.append_assoc]
    exact h
  have HX2 : Hid (w2.heap[q]? = some (.cells #[(.slice oC n1 pC), (.slice oP n2 pP), (.slice oK n3 pK), (.slice oB n4 pB), .int .i64 s.nx, .int .i64 s.sq] 29)) := (far q hqs (HQ.out (⟨9, 1, (.slice oC n1 pC), n1, s.cs.map Value.string⟩ : Rw) (by simp)) (HQ.out (⟨97, 2, (.slice oP n2 pP), n2, flatWrite s.ws⟩ : Rw) (by simp))).trans HX1.out
  have HB2 : Hid (Below B w w2) := HB1.out.trans bm
  have HF2 : Hid (FarR ([(⟨9, 1, (.slice oC n1 pC), n1, s.cs.map Value.string⟩ : Rw), (⟨97, 2, (.slice oP n2 pP), n2, flatWrite s.ws⟩ : Rw)] ++ kpAll (.slice oK n3 pK) kv ++ [(⟨85, 4, (.slice oB n4 pB), n4, flatBan s.bl⟩ : Rw)]) w w2) := fun j hj hne => (far j (Nat.lt_of_lt_of_le hj HB1.out.size) (hne (⟨9, 1, (.slice oC n1 pC), n1, s.cs.map Value.string⟩ : Rw) (by simp)) (hne (⟨97, 2, (.slice oP n2 pP), n2, flatWrite s.ws⟩ : Rw) (by simp))).trans (HF1.out j hj)
  have hBw2 : B ≤ w2.heap.size := Nat.le_trans hBw1 bm.size
  have hqs2 : q < w2.heap.size := Nat.lt_of_lt_of_le hqs bm.size
  clear hd bm far c0 c1 HX1 HR1 HB1
  rw [E1.out]
  have c2 : w2.cell? ⟨q, 2, none⟩ = some (.slice oK n3 pK) := (cell_of HX2.out 2).trans rfl
  go_wp2_with fail
  refine (markKeptS_any (.slice oK n3 pK) kv B _ (RowsO.sub HR2.out ((List.sublist_append_right _ _).trans (List.sublist_append_left _ _))) hBw2 K1 b1.1 b1.2 (by rw [HL3.out]; exact hn3)).mono ?_
  rintro e w3 ⟨rfl, hd, bm, far⟩
  have HR3 : Hid (RowsO w3 B ([(⟨9, 1, (.slice oC n1 pC), n1, (mkT k0 s.cs n1).map Value.string⟩ : Rw), (⟨97, 2, (.slice oP n2 pP), n2, flatWrite (mkWrite (k0 + n1) s.ws n2)⟩ : Rw)] ++ kpAll (.slice oK n3 pK) (mkKs K1 kv) ++ [(⟨85, 4, (.slice oB n4 pB), n4, flatBan s.bl⟩ : Rw)])) := HR2.out.turns (mkKs_v _ kv K1) hd far
  have HX3 : Hid (w3.heap[q]? = some (.cells #[(.slice oC n1 pC), (.slice oP n2 pP), (.slice oK n3 pK), (.slice oB n4 pB), .int .i64 s.nx, .int .i64 s.sq] 29)) := (far q hqs2 (fun r hr => HQ.out r (by simp [hr]))).trans HX2.out
  have HB3 : Hid (Below B w w3) := HB2.out.trans bm
  have HF3 : Hid (FarR ([(⟨9, 1, (.slice oC n1 pC), n1, s.cs.map Value.string⟩ : Rw), (⟨97, 2, (.slice oP n2 pP), n2, flatWrite s.ws⟩ : Rw)] ++ kpAll (.slice oK n3 pK) kv ++ [(⟨85, 4, (.slice oB n4 pB), n4, flatBan s.bl⟩ : Rw)]) w w3) := fun j hj hne => (far j (Nat.lt_of_lt_of_le hj HB2.out.size) (fun r hr => hne r (by simp [hr]))).trans (HF2.out j hj hne)
  have hBw3 : B ≤ w3.heap.size := Nat.le_trans hBw2 bm.size
  clear hd bm far c2 HX2 HR2 
  rw [E2.out]
  have c3 : w3.cell? ⟨q, 3, none⟩ = some (.slice oB n4 pB) := (cell_of HX3.out 3).trans rfl
  go_wp2_with fail
  refine (markBanS_any oB n4 pB B s.bl _ (HR3.out.own (⟨85, 4, (.slice oB n4 pB), n4, flatBan s.bl⟩ : Rw) (by simp)) hBw3 K2 b2.1 b2.2).mono ?_
  rintro e w4 ⟨rfl, hd, bm, far⟩
  have HR4 : Hid (RowsO w4 B ([(⟨9, 1, (.slice oC n1 pC), n1, (mkT k0 s.cs n1).map Value.string⟩ : Rw), (⟨97, 2, (.slice oP n2 pP), n2, flatWrite (mkWrite (k0 + n1) s.ws n2)⟩ : Rw)] ++ kpAll (.slice oK n3 pK) (mkKs K1 kv) ++ [(⟨85, 4, (.slice oB n4 pB), n4, flatBan (mkBan K2 s.bl n4)⟩ : Rw)])) := by
    have h : RowsO w3 B (([(⟨9, 1, (.slice oC n1 pC), n1, (mkT k0 s.cs n1).map Value.string⟩ : Rw), (⟨97, 2, (.slice oP n2 pP), n2, flatWrite (mkWrite (k0 + n1) s.ws n2)⟩ : Rw)] ++ kpAll (.slice oK n3 pK) (mkKs K1 kv)) ++ [(⟨85, 4, (.slice oB n4 pB), n4, flatBan s.bl⟩ : Rw)] ++ []) := by rw [List.append_nil]; exact HR3.out
    have h2 := h.turns (xs' := [(⟨85, 4, (.slice oB n4 pB), n4, flatBan (mkBan K2 s.bl n4)⟩ : Rw)]) rfl (RowsO.one hd) (fun g hg hne => far g hg (hne (⟨85, 4, (.slice oB n4 pB), n4, flatBan s.bl⟩ : Rw) (by simp)))
    rw [List.append_nil] at h2
    exact h2
  have HB4 : Hid (Below B w w4) := HB3.out.trans bm
  have HF4 : Hid (FarR ([(⟨9, 1, (.slice oC n1 pC), n1, s.cs.map Value.string⟩ : Rw), (⟨97, 2, (.slice oP n2 pP), n2, flatWrite s.ws⟩ : Rw)] ++ kpAll (.slice oK n3 pK) kv ++ [(⟨85, 4, (.slice oB n4 pB), n4, flatBan s.bl⟩ : Rw)]) w w4) := fun j hj hne => (far j (Nat.lt_of_lt_of_le hj HB3.out.size) (hne (⟨85, 4, (.slice oB n4 pB), n4, flatBan s.bl⟩ : Rw) (by simp))).trans (HF3.out j hj hne)
  clear hd bm far c3 HX3 HR3
  rw [E3.out]
  go_wp2_with fail
  go_ret
  exact ⟨rfl, HR4.out, HB4.out, HF4.out⟩

set_option maxHeartbeats 8000000 in
set_option maxRecDepth 100000 in
theorem heldShelf_go (s : ShD) (n1 n2 n3 n4 : Nat) (oC oP oK oB : Option Addr) (pC pP pK pB : Nat) (kv : List (KpD × Value × Value × Value)) (B : Nat) (w : World) (hL1 : s.cs.length = n1) (hL2 : s.ws.length = n2) (hL3 : kv.length = n3) (hL4 : s.bl.length = n4) (k0 K1 K2 K3 : Nat) (HR : Hid (RowsO w B ([(⟨9, 1, (.slice oC n1 pC), n1, (mkT k0 s.cs n1).map Value.string⟩ : Rw), (⟨97, 2, (.slice oP n2 pP), n2, flatWrite (mkWrite (k0 + n1) s.ws n2)⟩ : Rw)] ++ kpAll (.slice oK n3 pK) (mkKs K1 kv) ++ [(⟨85, 4, (.slice oB n4 pB), n4, flatBan (mkBan K2 s.bl n4)⟩ : Rw)]))) (hk0 : 1 ≤ k0) (hk : k0 + n1 + 2 * n2 + wms kv + 4 * n4 ≤ 9999998) (hn3 : n3 ≤ 2000000) (HK1 : Hid (K1 = k0 + n1 + 2 * n2)) (HK2 : Hid (K2 = K1 + wms kv)) (HK3 : Hid (K3 = K2 + 4 * n4)) :
    Calls Try.prog 19 #[.agg #[(.slice oC n1 pC), (.slice oP n2 pP), (.slice oK n3 pK), (.slice oB n4 pB), .int .i64 s.nx, .int .i64 s.sq], .int .i64 (k0 : Int)] w fun e w' => e = .returned (.int .i64 (K3 : Int)) ∧ Below w.heap.size w w' := by
  have HL1 : Hid (s.cs.length = n1) := hL1
  have HL2 : Hid (s.ws.length = n2) := hL2
  have HL3 : Hid (kv.length = n3) := hL3
  have HL4 : Hid (s.bl.length = n4) := hL4
  have b0 : k0 + n1 + 2 * n2 ≤ 9999998 := by omega
  have b1 : 1 ≤ K1 ∧ K1 + wms kv ≤ 9999998 := by have := HK1.out; omega
  have b2 : 1 ≤ K2 ∧ K2 + 4 * n4 ≤ 9999999 := by have := HK1.out; have := HK2.out; omega
  have E1 : Hid (((k0 + n1 + 2 * n2 : Nat) : Int) = (K1 : Int)) := by show _ = _; rw [HK1.out]
  have E2 : Hid (((K1 + wms kv : Nat) : Int) = (K2 : Int)) := by show _ = _; rw [HK2.out]
  have E3 : Hid ((K2 : Int) + 4 * (n4 : Int) = (K3 : Int)) := by show _ = _; rw [HK3.out]; simp
  have p1 : ¬ ((K1 : Int) < 0) := by omega
  have p2 : ¬ ((K2 : Int) < 0) := by omega
  have p3 : ¬ ((K3 : Int) < 0) := by omega
  clear hL1 hL2 hL3 hL4 hk
  go_enter Try.func19, Try.ntmps19
  go_upto_region 1 with fail
  obtain ⟨q, hq⟩ : ∃ q, q = w.heap.size := ⟨_, rfl⟩
  obtain ⟨w1, hw1⟩ : ∃ W, W = w.alloc (.cells #[(.slice oC n1 pC), (.slice oP n2 pP), (.slice oK n3 pK), (.slice oB n4 pB), .int .i64 s.nx, .int .i64 s.sq] 29) := ⟨_, rfl⟩
  rw [← hw1, ← hq]
  have HX1 : Hid (w1.heap[q]? = some (.cells #[(.slice oC n1 pC), (.slice oP n2 pP), (.slice oK n3 pK), (.slice oB n4 pB), .int .i64 s.nx, .int .i64 s.sq] 29)) := by show _ = _; rw [hw1, hq]; exact heap_alloc_new _ _
  have bw1 : Below w.heap.size w w1 := by rw [hw1]; exact (Below.refl _ _).alloc (Nat.le_refl _) _
  have HB1 : Hid (Below w.heap.size w w1) := bw1
  have HRR : Hid (∀ W, Below w.heap.size w W → RowsO W B ([(⟨9, 1, (.slice oC n1 pC), n1, (mkT k0 s.cs n1).map Value.string⟩ : Rw), (⟨97, 2, (.slice oP n2 pP), n2, flatWrite (mkWrite (k0 + n1) s.ws n2)⟩ : Rw)] ++ kpAll (.slice oK n3 pK) (mkKs K1 kv) ++ [(⟨85, 4, (.slice oB n4 pB), n4, flatBan (mkBan K2 s.bl n4)⟩ : Rw)])) := fun W h => HR.out.below h
  have HXX : Hid (∀ W, Below w1.heap.size w1 W → W.heap[q]? = some (.cells #[(.slice oC n1 pC), (.slice oP n2 pP), (.slice oK n3 pK), (.slice oB n4 pB), .int .i64 s.nx, .int .i64 s.sq] 29)) := fun W h => blk_below HX1.out h
  clear hw1 bw1 hq
  have c0 : w1.cell? ⟨q, 0, none⟩ = some (.slice oC n1 pC) := (cell_of HX1.out 0).trans rfl
  have c1 : w1.cell? ⟨q, 1, none⟩ = some (.slice oP n2 pP) := (cell_of HX1.out 1).trans rfl
  go_wp2_with fail
  refine (heldDisk_any n1 (mkT k0 s.cs n1) n2 (mkWrite (k0 + n1) s.ws n2) (.slice oC n1 pC) (.slice oP n2 pP) B _ ⟨(HRR.out _ HB1.out).own (⟨9, 1, (.slice oC n1 pC), n1, (mkT k0 s.cs n1).map Value.string⟩ : Rw) (by simp), (HRR.out _ HB1.out).own (⟨97, 2, (.slice oP n2 pP), n2, flatWrite (mkWrite (k0 + n1) s.ws n2)⟩ : Rw) (by simp)⟩ k0 hk0 b0 (fun j hj => mkT_at k0 s.cs j (by rw [HL1.out]; exact hj) n1 hj) (fun j hj => by rw [mkWrite_at (k0 + n1) s.ws j n2 (by rw [HL2.out]; exact Nat.le_refl _) hj]; exact ⟨rfl, rfl⟩)).mono ?_
  rintro e w2 ⟨rfl, bw⟩
  have HW2 : Hid (Below w1.heap.size w1 w2) := bw
  have HB2 : Hid (Below w.heap.size w w2) := HB1.out.trans (bw.mono HB1.out.size)
  clear bw c0 c1
  rw [E1.out]
  have c2 : w2.cell? ⟨q, 2, none⟩ = some (.slice oK n3 pK) := (cell_of (HXX.out _ HW2.out) 2).trans rfl
  go_wp2_with fail
  refine (heldKeptS_any (.slice oK n3 pK) kv B _ K1 (RowsO.sub (HRR.out _ HB2.out) ((List.sublist_append_right _ _).trans (List.sublist_append_left _ _))) b1.1 b1.2 (by rw [HL3.out]; exact hn3)).mono ?_
  rintro e w3 ⟨rfl, bw⟩
  have HW3 : Hid (Below w1.heap.size w1 w3) := HW2.out.trans (bw.mono HW2.out.size)
  have HB3 : Hid (Below w.heap.size w w3) := HB2.out.trans (bw.mono HB2.out.size)
  clear bw c2
  rw [E2.out]
  have c3 : w3.cell? ⟨q, 3, none⟩ = some (.slice oB n4 pB) := (cell_of (HXX.out _ HW3.out) 3).trans rfl
  go_wp2_with fail
  refine (heldBanS_any oB n4 pB B (mkBan K2 s.bl n4) _ ((HRR.out _ HB3.out).own (⟨85, 4, (.slice oB n4 pB), n4, flatBan (mkBan K2 s.bl n4)⟩ : Rw) (by simp)) K2 b2.1 b2.2 (fun j hj => by rw [mkBan_at K2 s.bl j n4 (by rw [HL4.out]; exact Nat.le_refl _) hj]; exact ⟨rfl, rfl, rfl, rfl⟩)).mono ?_
  rintro e w4 ⟨rfl, bw⟩
  have HB4 : Hid (Below w.heap.size w w4) := HB3.out.trans (bw.mono HB3.out.size)
  clear bw c3
  rw [E3.out]
  go_wp2_with fail
  go_ret
  exact ⟨rfl, HB4.out⟩

end Go.Proofs.Ytanpngnpolhgbaa

namespace Go.Proofs.Ytanpngnpolhgbaa
open Go.RowKit
open Go.Lib hiding intOf

/-- A call answers a cache of its own, with nothing in it but its store. -/
def CacheN (s : ShD) (w : World) (e : Ending) (w' : World) : Prop := ∃ (v1 v2 V VB : Value) (kv : List (KpD × Value × Value × Value)), e = .returned (.agg #[v1, v2, V, VB, .int .i64 s.nx, .int .i64 s.sq, .slice none 0 0, .int .i64 0, .slice none 0 0, .slice none 0 0]) ∧ ShelfO w' w.heap.size v1 v2 V VB kv s ∧ Below w.heap.size w w'
theorem shAll_noT (T : TypeId) (hT : T ≠ 9 ∧ T ≠ 97 ∧ T ≠ 82 ∧ T ≠ 85 ∧ T ≠ 93) {v1 v2 V VB : Value} {kv : List (KpD × Value × Value × Value)} {cs : List ByteArray} {ws : List (Int × ByteArray)} {bl : List (Int × ByteArray × ByteArray × Int)} : ∀ r ∈ shAll v1 v2 V VB kv cs ws bl, T ≠ r.T := by
  intro r hr
  unfold shAll at hr
  rcases List.mem_append.1 hr with hr | hr
  · rcases List.mem_append.1 hr with hr | hr
    · simp only [List.mem_cons, List.not_mem_nil, or_false] at hr
      rcases hr with rfl | rfl
      · exact hT.1
      · exact hT.2.1
    · rcases kpAll_T hr with e | e | e <;> rw [e]
      · exact hT.2.2.1
      · exact hT.1
      · exact hT.2.2.2.2
  · rw [List.mem_singleton.1 hr]; exact hT.2.2.2.1
set_option maxHeartbeats 8000000 in
set_option maxRecDepth 100000 in
theorem eqFlightS_nil (w : World) : Calls Try.prog 12 #[.slice none 0 0, .slice none 0 0] w fun e w' => e = .returned (.bool true) ∧ Below w.heap.size w w' := by
  go_enter Try.func12, Try.ntmps12
  go_wp2
  go_loopw [5] (fun i wr => i = .int .i64 0 ∧ Hid (wr = w)) (fun _ _ => 0)
  case atStart => exact ⟨rfl, rfl⟩
  case round =>
    obtain ⟨rfl, HW⟩ := hrel
    go_wp2
    go_ret
    exact ⟨rfl, by rw [HW.out]; exact Below.refl _ _⟩

set_option maxHeartbeats 8000000 in
set_option maxRecDepth 100000 in
theorem markFlightS_nil (k : Int) (w : World) : Calls Try.prog 16 #[.slice none 0 0, .int .i64 k] w fun e w' => e = .returned (.int .i64 k) ∧ Below w.heap.size w w' := by
  go_enter Try.func16, Try.ntmps16
  go_wp2
  go_loopw [1, 5] (fun lf i wr => lf = .int .i64 k ∧ i = .int .i64 0 ∧ Hid (wr = w)) (fun _ _ _ => 0)
  case atStart => exact ⟨rfl, rfl, rfl⟩
  case round =>
    obtain ⟨rfl, rfl, HW⟩ := hrel
    go_wp2
    go_ret
    exact ⟨rfl, by rw [HW.out]; exact Below.refl _ _⟩

set_option maxHeartbeats 8000000 in
set_option maxRecDepth 100000 in
theorem heldFlightS_nil (k : Int) (w : World) : Calls Try.prog 20 #[.slice none 0 0, .int .i64 k] w fun e w' => e = .returned (.int .i64 k) ∧ Below w.heap.size w w' := by
  go_enter Try.func20, Try.ntmps20
  go_wp2
  go_loopw [1, 5] (fun lf i wr => lf = .int .i64 k ∧ i = .int .i64 0 ∧ Hid (wr = w)) (fun _ _ _ => 0)
  case atStart => exact ⟨rfl, rfl, rfl⟩
  case round =>
    obtain ⟨rfl, rfl, HW⟩ := hrel
    go_wp2
    go_ret
    exact ⟨rfl, by rw [HW.out]; exact Below.refl _ _⟩

set_option maxHeartbeats 8000000 in
set_option maxRecDepth 100000 in
theorem eqSeenS_nil (w : World) : Calls Try.prog 13 #[.slice none 0 0, .slice none 0 0] w fun e w' => e = .returned (.bool true) ∧ Below w.heap.size w w' := by
  go_enter Try.func13, Try.ntmps13
  go_wp2
  go_loopw [5] (fun i wr => i = .int .i64 0 ∧ Hid (wr = w)) (fun _ _ => 0)
  case atStart => exact ⟨rfl, rfl⟩
  case round =>
    obtain ⟨rfl, HW⟩ := hrel
    go_wp2
    go_ret
    exact ⟨rfl, by rw [HW.out]; exact Below.refl _ _⟩

set_option maxHeartbeats 8000000 in
set_option maxRecDepth 100000 in
theorem markSeenS_nil (k : Int) (w : World) : Calls Try.prog 17 #[.slice none 0 0, .int .i64 k] w fun e w' => e = .returned (.int .i64 k) ∧ Below w.heap.size w w' := by
  go_enter Try.func17, Try.ntmps17
  go_wp2
  go_loopw [1, 5] (fun lf i wr => lf = .int .i64 k ∧ i = .int .i64 0 ∧ Hid (wr = w)) (fun _ _ _ => 0)
  case atStart => exact ⟨rfl, rfl, rfl⟩
  case round =>
    obtain ⟨rfl, rfl, HW⟩ := hrel
    go_wp2
    go_ret
    exact ⟨rfl, by rw [HW.out]; exact Below.refl _ _⟩

set_option maxHeartbeats 8000000 in
set_option maxRecDepth 100000 in
theorem heldSeenS_nil (k : Int) (w : World) : Calls Try.prog 21 #[.slice none 0 0, .int .i64 k] w fun e w' => e = .returned (.int .i64 k) ∧ Below w.heap.size w w' := by
  go_enter Try.func21, Try.ntmps21
  go_wp2
  go_loopw [1, 5] (fun lf i wr => lf = .int .i64 k ∧ i = .int .i64 0 ∧ Hid (wr = w)) (fun _ _ _ => 0)
  case atStart => exact ⟨rfl, rfl, rfl⟩
  case round =>
    obtain ⟨rfl, rfl, HW⟩ := hrel
    go_wp2
    go_ret
    exact ⟨rfl, by rw [HW.out]; exact Below.refl _ _⟩

set_option maxHeartbeats 8000000 in
set_option maxRecDepth 100000 in
theorem eqReplyS_nil (w : World) : Calls Try.prog 14 #[.slice none 0 0, .slice none 0 0] w fun e w' => e = .returned (.bool true) ∧ Below w.heap.size w w' := by
  go_enter Try.func14, Try.ntmps14
  go_wp2
  go_loopw [5] (fun i wr => i = .int .i64 0 ∧ Hid (wr = w)) (fun _ _ => 0)
  case atStart => exact ⟨rfl, rfl⟩
  case round =>
    obtain ⟨rfl, HW⟩ := hrel
    go_wp2
    go_ret
    exact ⟨rfl, by rw [HW.out]; exact Below.refl _ _⟩

set_option maxHeartbeats 8000000 in
set_option maxRecDepth 100000 in
theorem markReplyS_nil (k : Int) (w : World) : Calls Try.prog 18 #[.slice none 0 0, .int .i64 k] w fun e w' => e = .returned (.int .i64 k) ∧ Below w.heap.size w w' := by
  go_enter Try.func18, Try.ntmps18
  go_wp2
  go_loopw [1, 5] (fun lf i wr => lf = .int .i64 k ∧ i = .int .i64 0 ∧ Hid (wr = w)) (fun _ _ _ => 0)
  case atStart => exact ⟨rfl, rfl, rfl⟩
  case round =>
    obtain ⟨rfl, rfl, HW⟩ := hrel
    go_wp2
    go_ret
    exact ⟨rfl, by rw [HW.out]; exact Below.refl _ _⟩

set_option maxHeartbeats 8000000 in
set_option maxRecDepth 100000 in
theorem heldReplyS_nil (k : Int) (w : World) : Calls Try.prog 22 #[.slice none 0 0, .int .i64 k] w fun e w' => e = .returned (.int .i64 k) ∧ Below w.heap.size w w' := by
  go_enter Try.func22, Try.ntmps22
  go_wp2
  go_loopw [1, 5] (fun lf i wr => lf = .int .i64 k ∧ i = .int .i64 0 ∧ Hid (wr = w)) (fun _ _ _ => 0)
  case atStart => exact ⟨rfl, rfl, rfl⟩
  case round =>
    obtain ⟨rfl, rfl, HW⟩ := hrel
    go_wp2
    go_ret
    exact ⟨rfl, by rw [HW.out]; exact Below.refl _ _⟩

set_option maxHeartbeats 8000000 in
set_option maxRecDepth 100000 in
theorem specCacheNew_any (w : World) :
    Calls Try.prog 4 #[] w fun e w' => CacheN newS w e w' := by
  have hb0 : Below w.heap.size w w := Below.refl _ _
  go_enter Try.func4, Try.ntmps4
  go_upto_region 1 with fail
  obtain ⟨qv1, hqv1⟩ : ∃ q, q = (w).heap.size := ⟨_, rfl⟩
  obtain ⟨w1, hW1⟩ : ∃ W, W = (w).alloc (.cells #[.slice none 0 0, .slice none 0 0, .slice none 0 0, .slice none 0 0, .int .i64 0, .int .i64 0, .slice none 0 0, .int .i64 0, .slice none 0 0, .slice none 0 0] 34) := ⟨_, rfl⟩
  have hz1 : (w).heap.size = qv1 := hqv1.symm
  first | rw [← hW1, ← hqv1] | rw [← hW1]
  have hs1 : w1.heap.size = qv1 + 1 := by rw [hW1, ← hz1]; simp
  have bw : Below (w).heap.size (w) w1 := by rw [hW1]; exact (Below.refl _ _).alloc (Nat.le_refl _) _
  have hb1 : Below w.heap.size w (w1) := hb0.trans (bw.mono hb0.size)
  have HBv1_1 : Hid ((w1).heap[qv1]? = some (.cells #[.slice none 0 0, .slice none 0 0, .slice none 0 0, .slice none 0 0, .int .i64 0, .int .i64 0, .slice none 0 0, .int .i64 0, .slice none 0 0, .slice none 0 0] 34)) := by show _ = _; rw [hW1, ← hz1]; exact heap_alloc_new _ _
  have HGv1 : Hid (w.heap.size ≤ qv1) := by show _ ≤ _; rw [← hz1]; exact hb0.size
  clear hb0 bw hW1 hz1
  clear hs1 hqv1
  go_wp2_with fail
  refine (specShelfNew_any _).mono ?_
  rintro e w2 ⟨vv1, vv2, VV, VB, kv, rfl, hso, bw⟩
  have hb10 := hb1.size
  obtain ⟨oC, pC, rfl⟩ := slice_of_owns hso.disk.cells
  obtain ⟨oP, pP, rfl⟩ := slice_of_owns hso.disk.pend
  obtain ⟨oK, pK, rfl⟩ := hso.kept.len
  obtain ⟨oB, pB, rfl⟩ := slice_of_owns hso.bans
  have hb2 : Below w.heap.size w (w2) := hb1.trans (bw.mono hb1.size)
  have HBv1_2 : Hid ((w2).heap[qv1]? = some (.cells #[.slice none 0 0, .slice none 0 0, .slice none 0 0, .slice none 0 0, .int .i64 0, .int .i64 0, .slice none 0 0, .int .i64 0, .slice none 0 0, .slice none 0 0] 34)) := blk_below HBv1_1.out bw
  clear hb1 HBv1_1 bw
  have ER_2 : Hid (ShelfO (w2) w.heap.size (.slice oC newS.cs.length pC) (.slice oP newS.ws.length pP) (.slice oK kv.length pK) (.slice oB newS.bl.length pB) kv newS) := hso.wide hb10
  clear hso hb10
  have cv1_0 : (w2).cell? ⟨qv1, 0, none⟩ = some (.slice none 0 0) := (cell_of HBv1_2.out 0).trans rfl
  have fcv1_0 : (w2).frozen? ⟨qv1, 0, none⟩ = false := frozen_of HBv1_2.out 0
  have cv1_1 : (w2).cell? ⟨qv1, 1, none⟩ = some (.slice none 0 0) := (cell_of HBv1_2.out 1).trans rfl
  have fcv1_1 : (w2).frozen? ⟨qv1, 1, none⟩ = false := frozen_of HBv1_2.out 1
  have cv1_2 : (w2).cell? ⟨qv1, 2, none⟩ = some (.slice none 0 0) := (cell_of HBv1_2.out 2).trans rfl
  have fcv1_2 : (w2).frozen? ⟨qv1, 2, none⟩ = false := frozen_of HBv1_2.out 2
  have cv1_3 : (w2).cell? ⟨qv1, 3, none⟩ = some (.slice none 0 0) := (cell_of HBv1_2.out 3).trans rfl
  have fcv1_3 : (w2).frozen? ⟨qv1, 3, none⟩ = false := frozen_of HBv1_2.out 3
  have cv1_4 : (w2).cell? ⟨qv1, 4, none⟩ = some (.int .i64 0) := (cell_of HBv1_2.out 4).trans rfl
  have fcv1_4 : (w2).frozen? ⟨qv1, 4, none⟩ = false := frozen_of HBv1_2.out 4
  have cv1_5 : (w2).cell? ⟨qv1, 5, none⟩ = some (.int .i64 0) := (cell_of HBv1_2.out 5).trans rfl
  have fcv1_5 : (w2).frozen? ⟨qv1, 5, none⟩ = false := frozen_of HBv1_2.out 5
  have cv1_6 : (w2).cell? ⟨qv1, 6, none⟩ = some (.slice none 0 0) := (cell_of HBv1_2.out 6).trans rfl
  have fcv1_6 : (w2).frozen? ⟨qv1, 6, none⟩ = false := frozen_of HBv1_2.out 6
  have cv1_7 : (w2).cell? ⟨qv1, 7, none⟩ = some (.int .i64 0) := (cell_of HBv1_2.out 7).trans rfl
  have fcv1_7 : (w2).frozen? ⟨qv1, 7, none⟩ = false := frozen_of HBv1_2.out 7
  have cv1_8 : (w2).cell? ⟨qv1, 8, none⟩ = some (.slice none 0 0) := (cell_of HBv1_2.out 8).trans rfl
  have fcv1_8 : (w2).frozen? ⟨qv1, 8, none⟩ = false := frozen_of HBv1_2.out 8
  have cv1_9 : (w2).cell? ⟨qv1, 9, none⟩ = some (.slice none 0 0) := (cell_of HBv1_2.out 9).trans rfl
  have fcv1_9 : (w2).frozen? ⟨qv1, 9, none⟩ = false := frozen_of HBv1_2.out 9
  go_wp2_with fail
  obtain ⟨w3, hW3⟩ : ∃ W, W = (w2).setCell ⟨qv1, 0, none⟩ (.slice oC newS.cs.length pC) := ⟨_, rfl⟩
  rw [← hW3]
  have hb3 : Below w.heap.size w (w3) := by rw [hW3]; exact (hb2.setCell (p := ⟨qv1, 0, none⟩) HGv1.out _)
  have ER_3 : Hid (ShelfO (w3) w.heap.size (.slice oC newS.cs.length pC) (.slice oP newS.ws.length pP) (.slice oK kv.length pK) (.slice oB newS.bl.length pB) kv newS) := by show ShelfO _ _ _ _ _ _ _ _; rw [hW3]; exact ⟨RowsO.other ER_2.out.1 HBv1_2.out (shAll_noT 34 (by decide)), ER_2.out.2⟩
  have HBv1_3 : Hid ((w3).heap[qv1]? = some (.cells #[.slice oC newS.cs.length pC, .slice none 0 0, .slice none 0 0, .slice none 0 0, .int .i64 0, .int .i64 0, .slice none 0 0, .int .i64 0, .slice none 0 0, .slice none 0 0] 34)) := by show _ = _; rw [hW3]; have h := heap_set _ _ 0 _ _ _ (.slice oC newS.cs.length pC) HBv1_2.out; simpa using h
  clear hb2 HBv1_2 ER_2 hW3
  obtain ⟨w4, hW4⟩ : ∃ W, W = (w3).setCell ⟨qv1, 1, none⟩ (.slice oP newS.ws.length pP) := ⟨_, rfl⟩
  rw [← hW4]
  have hb4 : Below w.heap.size w (w4) := by rw [hW4]; exact (hb3.setCell (p := ⟨qv1, 1, none⟩) HGv1.out _)
  have ER_4 : Hid (ShelfO (w4) w.heap.size (.slice oC newS.cs.length pC) (.slice oP newS.ws.length pP) (.slice oK kv.length pK) (.slice oB newS.bl.length pB) kv newS) := by show ShelfO _ _ _ _ _ _ _ _; rw [hW4]; exact ⟨RowsO.other ER_3.out.1 HBv1_3.out (shAll_noT 34 (by decide)), ER_3.out.2⟩
  have HBv1_4 : Hid ((w4).heap[qv1]? = some (.cells #[.slice oC newS.cs.length pC, .slice oP newS.ws.length pP, .slice none 0 0, .slice none 0 0, .int .i64 0, .int .i64 0, .slice none 0 0, .int .i64 0, .slice none 0 0, .slice none 0 0] 34)) := by show _ = _; rw [hW4]; have h := heap_set _ _ 1 _ _ _ (.slice oP newS.ws.length pP) HBv1_3.out; simpa using h
  clear hb3 HBv1_3 ER_3 hW4
  obtain ⟨w5, hW5⟩ : ∃ W, W = (w4).setCell ⟨qv1, 2, none⟩ (.slice oK kv.length pK) := ⟨_, rfl⟩
  rw [← hW5]
  have hb5 : Below w.heap.size w (w5) := by rw [hW5]; exact (hb4.setCell (p := ⟨qv1, 2, none⟩) HGv1.out _)
  have ER_5 : Hid (ShelfO (w5) w.heap.size (.slice oC newS.cs.length pC) (.slice oP newS.ws.length pP) (.slice oK kv.length pK) (.slice oB newS.bl.length pB) kv newS) := by show ShelfO _ _ _ _ _ _ _ _; rw [hW5]; exact ⟨RowsO.other ER_4.out.1 HBv1_4.out (shAll_noT 34 (by decide)), ER_4.out.2⟩
  have HBv1_5 : Hid ((w5).heap[qv1]? = some (.cells #[.slice oC newS.cs.length pC, .slice oP newS.ws.length pP, .slice oK kv.length pK, .slice none 0 0, .int .i64 0, .int .i64 0, .slice none 0 0, .int .i64 0, .slice none 0 0, .slice none 0 0] 34)) := by show _ = _; rw [hW5]; have h := heap_set _ _ 2 _ _ _ (.slice oK kv.length pK) HBv1_4.out; simpa using h
  clear hb4 HBv1_4 ER_4 hW5
  obtain ⟨w6, hW6⟩ : ∃ W, W = (w5).setCell ⟨qv1, 3, none⟩ (.slice oB newS.bl.length pB) := ⟨_, rfl⟩
  rw [← hW6]
  have hb6 : Below w.heap.size w (w6) := by rw [hW6]; exact (hb5.setCell (p := ⟨qv1, 3, none⟩) HGv1.out _)
  have ER_6 : Hid (ShelfO (w6) w.heap.size (.slice oC newS.cs.length pC) (.slice oP newS.ws.length pP) (.slice oK kv.length pK) (.slice oB newS.bl.length pB) kv newS) := by show ShelfO _ _ _ _ _ _ _ _; rw [hW6]; exact ⟨RowsO.other ER_5.out.1 HBv1_5.out (shAll_noT 34 (by decide)), ER_5.out.2⟩
  have HBv1_6 : Hid ((w6).heap[qv1]? = some (.cells #[.slice oC newS.cs.length pC, .slice oP newS.ws.length pP, .slice oK kv.length pK, .slice oB newS.bl.length pB, .int .i64 0, .int .i64 0, .slice none 0 0, .int .i64 0, .slice none 0 0, .slice none 0 0] 34)) := by show _ = _; rw [hW6]; have h := heap_set _ _ 3 _ _ _ (.slice oB newS.bl.length pB) HBv1_5.out; simpa using h
  clear hb5 HBv1_5 ER_5 hW6
  obtain ⟨w7, hW7⟩ : ∃ W, W = (w6).setCell ⟨qv1, 4, none⟩ (.int .i64 newS.nx) := ⟨_, rfl⟩
  rw [← hW7]
  have hb7 : Below w.heap.size w (w7) := by rw [hW7]; exact (hb6.setCell (p := ⟨qv1, 4, none⟩) HGv1.out _)
  have ER_7 : Hid (ShelfO (w7) w.heap.size (.slice oC newS.cs.length pC) (.slice oP newS.ws.length pP) (.slice oK kv.length pK) (.slice oB newS.bl.length pB) kv newS) := by show ShelfO _ _ _ _ _ _ _ _; rw [hW7]; exact ⟨RowsO.other ER_6.out.1 HBv1_6.out (shAll_noT 34 (by decide)), ER_6.out.2⟩
  have HBv1_7 : Hid ((w7).heap[qv1]? = some (.cells #[.slice oC newS.cs.length pC, .slice oP newS.ws.length pP, .slice oK kv.length pK, .slice oB newS.bl.length pB, .int .i64 newS.nx, .int .i64 0, .slice none 0 0, .int .i64 0, .slice none 0 0, .slice none 0 0] 34)) := by show _ = _; rw [hW7]; have h := heap_set _ _ 4 _ _ _ (.int .i64 newS.nx) HBv1_6.out; simpa using h
  clear hb6 HBv1_6 ER_6 hW7
  obtain ⟨w8, hW8⟩ : ∃ W, W = (w7).setCell ⟨qv1, 5, none⟩ (.int .i64 newS.sq) := ⟨_, rfl⟩
  rw [← hW8]
  have hb8 : Below w.heap.size w (w8) := by rw [hW8]; exact (hb7.setCell (p := ⟨qv1, 5, none⟩) HGv1.out _)
  have ER_8 : Hid (ShelfO (w8) w.heap.size (.slice oC newS.cs.length pC) (.slice oP newS.ws.length pP) (.slice oK kv.length pK) (.slice oB newS.bl.length pB) kv newS) := by show ShelfO _ _ _ _ _ _ _ _; rw [hW8]; exact ⟨RowsO.other ER_7.out.1 HBv1_7.out (shAll_noT 34 (by decide)), ER_7.out.2⟩
  have HBv1_8 : Hid ((w8).heap[qv1]? = some (.cells #[.slice oC newS.cs.length pC, .slice oP newS.ws.length pP, .slice oK kv.length pK, .slice oB newS.bl.length pB, .int .i64 newS.nx, .int .i64 newS.sq, .slice none 0 0, .int .i64 0, .slice none 0 0, .slice none 0 0] 34)) := by show _ = _; rw [hW8]; have h := heap_set _ _ 5 _ _ _ (.int .i64 newS.sq) HBv1_7.out; simpa using h
  clear hb7 HBv1_7 ER_7 hW8
  obtain ⟨w9, hW9⟩ : ∃ W, W = (w8).setCell ⟨qv1, 6, none⟩ (.slice none 0 0) := ⟨_, rfl⟩
  rw [← hW9]
  have hb9 : Below w.heap.size w (w9) := by rw [hW9]; exact (hb8.setCell (p := ⟨qv1, 6, none⟩) HGv1.out _)
  have ER_9 : Hid (ShelfO (w9) w.heap.size (.slice oC newS.cs.length pC) (.slice oP newS.ws.length pP) (.slice oK kv.length pK) (.slice oB newS.bl.length pB) kv newS) := by show ShelfO _ _ _ _ _ _ _ _; rw [hW9]; exact ⟨RowsO.other ER_8.out.1 HBv1_8.out (shAll_noT 34 (by decide)), ER_8.out.2⟩
  have HBv1_9 : Hid ((w9).heap[qv1]? = some (.cells #[.slice oC newS.cs.length pC, .slice oP newS.ws.length pP, .slice oK kv.length pK, .slice oB newS.bl.length pB, .int .i64 newS.nx, .int .i64 newS.sq, .slice none 0 0, .int .i64 0, .slice none 0 0, .slice none 0 0] 34)) := by show _ = _; rw [hW9]; have h := heap_set _ _ 6 _ _ _ (.slice none 0 0) HBv1_8.out; simpa using h
  clear hb8 HBv1_8 ER_8 hW9
  obtain ⟨w10, hW10⟩ : ∃ W, W = (w9).setCell ⟨qv1, 7, none⟩ (.int .i64 0) := ⟨_, rfl⟩
  rw [← hW10]
  have hb10 : Below w.heap.size w (w10) := by rw [hW10]; exact (hb9.setCell (p := ⟨qv1, 7, none⟩) HGv1.out _)
  have ER_10 : Hid (ShelfO (w10) w.heap.size (.slice oC newS.cs.length pC) (.slice oP newS.ws.length pP) (.slice oK kv.length pK) (.slice oB newS.bl.length pB) kv newS) := by show ShelfO _ _ _ _ _ _ _ _; rw [hW10]; exact ⟨RowsO.other ER_9.out.1 HBv1_9.out (shAll_noT 34 (by decide)), ER_9.out.2⟩
  have HBv1_10 : Hid ((w10).heap[qv1]? = some (.cells #[.slice oC newS.cs.length pC, .slice oP newS.ws.length pP, .slice oK kv.length pK, .slice oB newS.bl.length pB, .int .i64 newS.nx, .int .i64 newS.sq, .slice none 0 0, .int .i64 0, .slice none 0 0, .slice none 0 0] 34)) := by show _ = _; rw [hW10]; have h := heap_set _ _ 7 _ _ _ (.int .i64 0) HBv1_9.out; simpa using h
  clear hb9 HBv1_9 ER_9 hW10
  obtain ⟨w11, hW11⟩ : ∃ W, W = (w10).setCell ⟨qv1, 8, none⟩ (.slice none 0 0) := ⟨_, rfl⟩
  rw [← hW11]
  have hb11 : Below w.heap.size w (w11) := by rw [hW11]; exact (hb10.setCell (p := ⟨qv1, 8, none⟩) HGv1.out _)
  have ER_11 : Hid (ShelfO (w11) w.heap.size (.slice oC newS.cs.length pC) (.slice oP newS.ws.length pP) (.slice oK kv.length pK) (.slice oB newS.bl.length pB) kv newS) := by show ShelfO _ _ _ _ _ _ _ _; rw [hW11]; exact ⟨RowsO.other ER_10.out.1 HBv1_10.out (shAll_noT 34 (by decide)), ER_10.out.2⟩
  have HBv1_11 : Hid ((w11).heap[qv1]? = some (.cells #[.slice oC newS.cs.length pC, .slice oP newS.ws.length pP, .slice oK kv.length pK, .slice oB newS.bl.length pB, .int .i64 newS.nx, .int .i64 newS.sq, .slice none 0 0, .int .i64 0, .slice none 0 0, .slice none 0 0] 34)) := by show _ = _; rw [hW11]; have h := heap_set _ _ 8 _ _ _ (.slice none 0 0) HBv1_10.out; simpa using h
  clear hb10 HBv1_10 ER_10 hW11
  obtain ⟨w12, hW12⟩ : ∃ W, W = (w11).setCell ⟨qv1, 9, none⟩ (.slice none 0 0) := ⟨_, rfl⟩
  rw [← hW12]
  have hb12 : Below w.heap.size w (w12) := by rw [hW12]; exact (hb11.setCell (p := ⟨qv1, 9, none⟩) HGv1.out _)
  have ER_12 : Hid (ShelfO (w12) w.heap.size (.slice oC newS.cs.length pC) (.slice oP newS.ws.length pP) (.slice oK kv.length pK) (.slice oB newS.bl.length pB) kv newS) := by show ShelfO _ _ _ _ _ _ _ _; rw [hW12]; exact ⟨RowsO.other ER_11.out.1 HBv1_11.out (shAll_noT 34 (by decide)), ER_11.out.2⟩
  have HBv1_12 : Hid ((w12).heap[qv1]? = some (.cells #[.slice oC newS.cs.length pC, .slice oP newS.ws.length pP, .slice oK kv.length pK, .slice oB newS.bl.length pB, .int .i64 newS.nx, .int .i64 newS.sq, .slice none 0 0, .int .i64 0, .slice none 0 0, .slice none 0 0] 34)) := by show _ = _; rw [hW12]; have h := heap_set _ _ 9 _ _ _ (.slice none 0 0) HBv1_11.out; simpa using h
  clear hb11 HBv1_11 ER_11 hW12
  have kv1_0 : (w12).cell? ⟨qv1, 0, none⟩ = some (.slice oC newS.cs.length pC) := (cell_of HBv1_12.out 0).trans rfl
  have kv1_1 : (w12).cell? ⟨qv1, 1, none⟩ = some (.slice oP newS.ws.length pP) := (cell_of HBv1_12.out 1).trans rfl
  have kv1_2 : (w12).cell? ⟨qv1, 2, none⟩ = some (.slice oK kv.length pK) := (cell_of HBv1_12.out 2).trans rfl
  have kv1_3 : (w12).cell? ⟨qv1, 3, none⟩ = some (.slice oB newS.bl.length pB) := (cell_of HBv1_12.out 3).trans rfl
  have kv1_4 : (w12).cell? ⟨qv1, 4, none⟩ = some (.int .i64 newS.nx) := (cell_of HBv1_12.out 4).trans rfl
  have kv1_5 : (w12).cell? ⟨qv1, 5, none⟩ = some (.int .i64 newS.sq) := (cell_of HBv1_12.out 5).trans rfl
  have kv1_6 : (w12).cell? ⟨qv1, 6, none⟩ = some (.slice none 0 0) := (cell_of HBv1_12.out 6).trans rfl
  have kv1_7 : (w12).cell? ⟨qv1, 7, none⟩ = some (.int .i64 0) := (cell_of HBv1_12.out 7).trans rfl
  have kv1_8 : (w12).cell? ⟨qv1, 8, none⟩ = some (.slice none 0 0) := (cell_of HBv1_12.out 8).trans rfl
  have kv1_9 : (w12).cell? ⟨qv1, 9, none⟩ = some (.slice none 0 0) := (cell_of HBv1_12.out 9).trans rfl
  refine bodyPost_ret (v := .agg #[.slice oC newS.cs.length pC, .slice oP newS.ws.length pP, .slice oK kv.length pK, .slice oB newS.bl.length pB, .int .i64 newS.nx, .int .i64 newS.sq, .slice none 0 0, .int .i64 0, .slice none 0 0, .slice none 0 0]) (by simp [results, Try.results4, go_sem, kv1_0, kv1_1, kv1_2, kv1_3, kv1_4, kv1_5, kv1_6, kv1_7, kv1_8, kv1_9]) rfl ?_
  exact ⟨_, _, _, _, kv, rfl, ER_12.out, hb12⟩

set_option maxHeartbeats 8000000 in
set_option maxRecDepth 100000 in
theorem implCacheNew_any (w : World) :
    Calls Try.prog 5 #[] w fun e w' => CacheN newS w e w' := by
  have hb0 : Below w.heap.size w w := Below.refl _ _
  go_enter Try.func5, Try.ntmps5
  go_upto_region 1 with fail
  obtain ⟨qv1, hqv1⟩ : ∃ q, q = (w).heap.size := ⟨_, rfl⟩
  obtain ⟨w1, hW1⟩ : ∃ W, W = (w).alloc (.cells #[.slice none 0 0, .slice none 0 0, .slice none 0 0, .slice none 0 0, .int .i64 0, .int .i64 0, .slice none 0 0, .int .i64 0, .slice none 0 0, .slice none 0 0] 34) := ⟨_, rfl⟩
  have hz1 : (w).heap.size = qv1 := hqv1.symm
  first | rw [← hW1, ← hqv1] | rw [← hW1]
  have hs1 : w1.heap.size = qv1 + 1 := by rw [hW1, ← hz1]; simp
  have bw : Below (w).heap.size (w) w1 := by rw [hW1]; exact (Below.refl _ _).alloc (Nat.le_refl _) _
  have hb1 : Below w.heap.size w (w1) := hb0.trans (bw.mono hb0.size)
  have HBv1_1 : Hid ((w1).heap[qv1]? = some (.cells #[.slice none 0 0, .slice none 0 0, .slice none 0 0, .slice none 0 0, .int .i64 0, .int .i64 0, .slice none 0 0, .int .i64 0, .slice none 0 0, .slice none 0 0] 34)) := by show _ = _; rw [hW1, ← hz1]; exact heap_alloc_new _ _
  have HGv1 : Hid (w.heap.size ≤ qv1) := by show _ ≤ _; rw [← hz1]; exact hb0.size
  clear hb0 bw hW1 hz1
  clear hs1 hqv1
  go_wp2_with fail
  refine (implShelfNew_any _).mono ?_
  rintro e w2 ⟨vv1, vv2, VV, VB, kv, rfl, hso, bw⟩
  have hb10 := hb1.size
  obtain ⟨oC, pC, rfl⟩ := slice_of_owns hso.disk.cells
  obtain ⟨oP, pP, rfl⟩ := slice_of_owns hso.disk.pend
  obtain ⟨oK, pK, rfl⟩ := hso.kept.len
  obtain ⟨oB, pB, rfl⟩ := slice_of_owns hso.bans
  have hb2 : Below w.heap.size w (w2) := hb1.trans (bw.mono hb1.size)
  have HBv1_2 : Hid ((w2).heap[qv1]? = some (.cells #[.slice none 0 0, .slice none 0 0, .slice none 0 0, .slice none 0 0, .int .i64 0, .int .i64 0, .slice none 0 0, .int .i64 0, .slice none 0 0, .slice none 0 0] 34)) := blk_below HBv1_1.out bw
  clear hb1 HBv1_1 bw
  have ER_2 : Hid (ShelfO (w2) w.heap.size (.slice oC newS.cs.length pC) (.slice oP newS.ws.length pP) (.slice oK kv.length pK) (.slice oB newS.bl.length pB) kv newS) := hso.wide hb10
  clear hso hb10
  have cv1_0 : (w2).cell? ⟨qv1, 0, none⟩ = some (.slice none 0 0) := (cell_of HBv1_2.out 0).trans rfl
  have fcv1_0 : (w2).frozen? ⟨qv1, 0, none⟩ = false := frozen_of HBv1_2.out 0
  have cv1_1 : (w2).cell? ⟨qv1, 1, none⟩ = some (.slice none 0 0) := (cell_of HBv1_2.out 1).trans rfl
  have fcv1_1 : (w2).frozen? ⟨qv1, 1, none⟩ = false := frozen_of HBv1_2.out 1
  have cv1_2 : (w2).cell? ⟨qv1, 2, none⟩ = some (.slice none 0 0) := (cell_of HBv1_2.out 2).trans rfl
  have fcv1_2 : (w2).frozen? ⟨qv1, 2, none⟩ = false := frozen_of HBv1_2.out 2
  have cv1_3 : (w2).cell? ⟨qv1, 3, none⟩ = some (.slice none 0 0) := (cell_of HBv1_2.out 3).trans rfl
  have fcv1_3 : (w2).frozen? ⟨qv1, 3, none⟩ = false := frozen_of HBv1_2.out 3
  have cv1_4 : (w2).cell? ⟨qv1, 4, none⟩ = some (.int .i64 0) := (cell_of HBv1_2.out 4).trans rfl
  have fcv1_4 : (w2).frozen? ⟨qv1, 4, none⟩ = false := frozen_of HBv1_2.out 4
  have cv1_5 : (w2).cell? ⟨qv1, 5, none⟩ = some (.int .i64 0) := (cell_of HBv1_2.out 5).trans rfl
  have fcv1_5 : (w2).frozen? ⟨qv1, 5, none⟩ = false := frozen_of HBv1_2.out 5
  have cv1_6 : (w2).cell? ⟨qv1, 6, none⟩ = some (.slice none 0 0) := (cell_of HBv1_2.out 6).trans rfl
  have fcv1_6 : (w2).frozen? ⟨qv1, 6, none⟩ = false := frozen_of HBv1_2.out 6
  have cv1_7 : (w2).cell? ⟨qv1, 7, none⟩ = some (.int .i64 0) := (cell_of HBv1_2.out 7).trans rfl
  have fcv1_7 : (w2).frozen? ⟨qv1, 7, none⟩ = false := frozen_of HBv1_2.out 7
  have cv1_8 : (w2).cell? ⟨qv1, 8, none⟩ = some (.slice none 0 0) := (cell_of HBv1_2.out 8).trans rfl
  have fcv1_8 : (w2).frozen? ⟨qv1, 8, none⟩ = false := frozen_of HBv1_2.out 8
  have cv1_9 : (w2).cell? ⟨qv1, 9, none⟩ = some (.slice none 0 0) := (cell_of HBv1_2.out 9).trans rfl
  have fcv1_9 : (w2).frozen? ⟨qv1, 9, none⟩ = false := frozen_of HBv1_2.out 9
  go_wp2_with fail
  obtain ⟨w3, hW3⟩ : ∃ W, W = (w2).setCell ⟨qv1, 0, none⟩ (.slice oC newS.cs.length pC) := ⟨_, rfl⟩
  rw [← hW3]
  have hb3 : Below w.heap.size w (w3) := by rw [hW3]; exact (hb2.setCell (p := ⟨qv1, 0, none⟩) HGv1.out _)
  have ER_3 : Hid (ShelfO (w3) w.heap.size (.slice oC newS.cs.length pC) (.slice oP newS.ws.length pP) (.slice oK kv.length pK) (.slice oB newS.bl.length pB) kv newS) := by show ShelfO _ _ _ _ _ _ _ _; rw [hW3]; exact ⟨RowsO.other ER_2.out.1 HBv1_2.out (shAll_noT 34 (by decide)), ER_2.out.2⟩
  have HBv1_3 : Hid ((w3).heap[qv1]? = some (.cells #[.slice oC newS.cs.length pC, .slice none 0 0, .slice none 0 0, .slice none 0 0, .int .i64 0, .int .i64 0, .slice none 0 0, .int .i64 0, .slice none 0 0, .slice none 0 0] 34)) := by show _ = _; rw [hW3]; have h := heap_set _ _ 0 _ _ _ (.slice oC newS.cs.length pC) HBv1_2.out; simpa using h
  clear hb2 HBv1_2 ER_2 hW3
  obtain ⟨w4, hW4⟩ : ∃ W, W = (w3).setCell ⟨qv1, 1, none⟩ (.slice oP newS.ws.length pP) := ⟨_, rfl⟩
  rw [← hW4]
  have hb4 : Below w.heap.size w (w4) := by rw [hW4]; exact (hb3.setCell (p := ⟨qv1, 1, none⟩) HGv1.out _)
  have ER_4 : Hid (ShelfO (w4) w.heap.size (.slice oC newS.cs.length pC) (.slice oP newS.ws.length pP) (.slice oK kv.length pK) (.slice oB newS.bl.length pB) kv newS) := by show ShelfO _ _ _ _ _ _ _ _; rw [hW4]; exact ⟨RowsO.other ER_3.out.1 HBv1_3.out (shAll_noT 34 (by decide)), ER_3.out.2⟩
  have HBv1_4 : Hid ((w4).heap[qv1]? = some (.cells #[.slice oC newS.cs.length pC, .slice oP newS.ws.length pP, .slice none 0 0, .slice none 0 0, .int .i64 0, .int .i64 0, .slice none 0 0, .int .i64 0, .slice none 0 0, .slice none 0 0] 34)) := by show _ = _; rw [hW4]; have h := heap_set _ _ 1 _ _ _ (.slice oP newS.ws.length pP) HBv1_3.out; simpa using h
  clear hb3 HBv1_3 ER_3 hW4
  obtain ⟨w5, hW5⟩ : ∃ W, W = (w4).setCell ⟨qv1, 2, none⟩ (.slice oK kv.length pK) := ⟨_, rfl⟩
  rw [← hW5]
  have hb5 : Below w.heap.size w (w5) := by rw [hW5]; exact (hb4.setCell (p := ⟨qv1, 2, none⟩) HGv1.out _)
  have ER_5 : Hid (ShelfO (w5) w.heap.size (.slice oC newS.cs.length pC) (.slice oP newS.ws.length pP) (.slice oK kv.length pK) (.slice oB newS.bl.length pB) kv newS) := by show ShelfO _ _ _ _ _ _ _ _; rw [hW5]; exact ⟨RowsO.other ER_4.out.1 HBv1_4.out (shAll_noT 34 (by decide)), ER_4.out.2⟩
  have HBv1_5 : Hid ((w5).heap[qv1]? = some (.cells #[.slice oC newS.cs.length pC, .slice oP newS.ws.length pP, .slice oK kv.length pK, .slice none 0 0, .int .i64 0, .int .i64 0, .slice none 0 0, .int .i64 0, .slice none 0 0, .slice none 0 0] 34)) := by show _ = _; rw [hW5]; have h := heap_set _ _ 2 _ _ _ (.slice oK kv.length pK) HBv1_4.out; simpa using h
  clear hb4 HBv1_4 ER_4 hW5
  obtain ⟨w6, hW6⟩ : ∃ W, W = (w5).setCell ⟨qv1, 3, none⟩ (.slice oB newS.bl.length pB) := ⟨_, rfl⟩
  rw [← hW6]
  have hb6 : Below w.heap.size w (w6) := by rw [hW6]; exact (hb5.setCell (p := ⟨qv1, 3, none⟩) HGv1.out _)
  have ER_6 : Hid (ShelfO (w6) w.heap.size (.slice oC newS.cs.length pC) (.slice oP newS.ws.length pP) (.slice oK kv.length pK) (.slice oB newS.bl.length pB) kv newS) := by show ShelfO _ _ _ _ _ _ _ _; rw [hW6]; exact ⟨RowsO.other ER_5.out.1 HBv1_5.out (shAll_noT 34 (by decide)), ER_5.out.2⟩
  have HBv1_6 : Hid ((w6).heap[qv1]? = some (.cells #[.slice oC newS.cs.length pC, .slice oP newS.ws.length pP, .slice oK kv.length pK, .slice oB newS.bl.length pB, .int .i64 0, .int .i64 0, .slice none 0 0, .int .i64 0, .slice none 0 0, .slice none 0 0] 34)) := by show _ = _; rw [hW6]; have h := heap_set _ _ 3 _ _ _ (.slice oB newS.bl.length pB) HBv1_5.out; simpa using h
  clear hb5 HBv1_5 ER_5 hW6
  obtain ⟨w7, hW7⟩ : ∃ W, W = (w6).setCell ⟨qv1, 4, none⟩ (.int .i64 newS.nx) := ⟨_, rfl⟩
  rw [← hW7]
  have hb7 : Below w.heap.size w (w7) := by rw [hW7]; exact (hb6.setCell (p := ⟨qv1, 4, none⟩) HGv1.out _)
  have ER_7 : Hid (ShelfO (w7) w.heap.size (.slice oC newS.cs.length pC) (.slice oP newS.ws.length pP) (.slice oK kv.length pK) (.slice oB newS.bl.length pB) kv newS) := by show ShelfO _ _ _ _ _ _ _ _; rw [hW7]; exact ⟨RowsO.other ER_6.out.1 HBv1_6.out (shAll_noT 34 (by decide)), ER_6.out.2⟩
  have HBv1_7 : Hid ((w7).heap[qv1]? = some (.cells #[.slice oC newS.cs.length pC, .slice oP newS.ws.length pP, .slice oK kv.length pK, .slice oB newS.bl.length pB, .int .i64 newS.nx, .int .i64 0, .slice none 0 0, .int .i64 0, .slice none 0 0, .slice none 0 0] 34)) := by show _ = _; rw [hW7]; have h := heap_set _ _ 4 _ _ _ (.int .i64 newS.nx) HBv1_6.out; simpa using h
  clear hb6 HBv1_6 ER_6 hW7
  obtain ⟨w8, hW8⟩ : ∃ W, W = (w7).setCell ⟨qv1, 5, none⟩ (.int .i64 newS.sq) := ⟨_, rfl⟩
  rw [← hW8]
  have hb8 : Below w.heap.size w (w8) := by rw [hW8]; exact (hb7.setCell (p := ⟨qv1, 5, none⟩) HGv1.out _)
  have ER_8 : Hid (ShelfO (w8) w.heap.size (.slice oC newS.cs.length pC) (.slice oP newS.ws.length pP) (.slice oK kv.length pK) (.slice oB newS.bl.length pB) kv newS) := by show ShelfO _ _ _ _ _ _ _ _; rw [hW8]; exact ⟨RowsO.other ER_7.out.1 HBv1_7.out (shAll_noT 34 (by decide)), ER_7.out.2⟩
  have HBv1_8 : Hid ((w8).heap[qv1]? = some (.cells #[.slice oC newS.cs.length pC, .slice oP newS.ws.length pP, .slice oK kv.length pK, .slice oB newS.bl.length pB, .int .i64 newS.nx, .int .i64 newS.sq, .slice none 0 0, .int .i64 0, .slice none 0 0, .slice none 0 0] 34)) := by show _ = _; rw [hW8]; have h := heap_set _ _ 5 _ _ _ (.int .i64 newS.sq) HBv1_7.out; simpa using h
  clear hb7 HBv1_7 ER_7 hW8
  obtain ⟨w9, hW9⟩ : ∃ W, W = (w8).setCell ⟨qv1, 6, none⟩ (.slice none 0 0) := ⟨_, rfl⟩
  rw [← hW9]
  have hb9 : Below w.heap.size w (w9) := by rw [hW9]; exact (hb8.setCell (p := ⟨qv1, 6, none⟩) HGv1.out _)
  have ER_9 : Hid (ShelfO (w9) w.heap.size (.slice oC newS.cs.length pC) (.slice oP newS.ws.length pP) (.slice oK kv.length pK) (.slice oB newS.bl.length pB) kv newS) := by show ShelfO _ _ _ _ _ _ _ _; rw [hW9]; exact ⟨RowsO.other ER_8.out.1 HBv1_8.out (shAll_noT 34 (by decide)), ER_8.out.2⟩
  have HBv1_9 : Hid ((w9).heap[qv1]? = some (.cells #[.slice oC newS.cs.length pC, .slice oP newS.ws.length pP, .slice oK kv.length pK, .slice oB newS.bl.length pB, .int .i64 newS.nx, .int .i64 newS.sq, .slice none 0 0, .int .i64 0, .slice none 0 0, .slice none 0 0] 34)) := by show _ = _; rw [hW9]; have h := heap_set _ _ 6 _ _ _ (.slice none 0 0) HBv1_8.out; simpa using h
  clear hb8 HBv1_8 ER_8 hW9
  obtain ⟨w10, hW10⟩ : ∃ W, W = (w9).setCell ⟨qv1, 7, none⟩ (.int .i64 0) := ⟨_, rfl⟩
  rw [← hW10]
  have hb10 : Below w.heap.size w (w10) := by rw [hW10]; exact (hb9.setCell (p := ⟨qv1, 7, none⟩) HGv1.out _)
  have ER_10 : Hid (ShelfO (w10) w.heap.size (.slice oC newS.cs.length pC) (.slice oP newS.ws.length pP) (.slice oK kv.length pK) (.slice oB newS.bl.length pB) kv newS) := by show ShelfO _ _ _ _ _ _ _ _; rw [hW10]; exact ⟨RowsO.other ER_9.out.1 HBv1_9.out (shAll_noT 34 (by decide)), ER_9.out.2⟩
  have HBv1_10 : Hid ((w10).heap[qv1]? = some (.cells #[.slice oC newS.cs.length pC, .slice oP newS.ws.length pP, .slice oK kv.length pK, .slice oB newS.bl.length pB, .int .i64 newS.nx, .int .i64 newS.sq, .slice none 0 0, .int .i64 0, .slice none 0 0, .slice none 0 0] 34)) := by show _ = _; rw [hW10]; have h := heap_set _ _ 7 _ _ _ (.int .i64 0) HBv1_9.out; simpa using h
  clear hb9 HBv1_9 ER_9 hW10
  obtain ⟨w11, hW11⟩ : ∃ W, W = (w10).setCell ⟨qv1, 8, none⟩ (.slice none 0 0) := ⟨_, rfl⟩
  rw [← hW11]
  have hb11 : Below w.heap.size w (w11) := by rw [hW11]; exact (hb10.setCell (p := ⟨qv1, 8, none⟩) HGv1.out _)
  have ER_11 : Hid (ShelfO (w11) w.heap.size (.slice oC newS.cs.length pC) (.slice oP newS.ws.length pP) (.slice oK kv.length pK) (.slice oB newS.bl.length pB) kv newS) := by show ShelfO _ _ _ _ _ _ _ _; rw [hW11]; exact ⟨RowsO.other ER_10.out.1 HBv1_10.out (shAll_noT 34 (by decide)), ER_10.out.2⟩
  have HBv1_11 : Hid ((w11).heap[qv1]? = some (.cells #[.slice oC newS.cs.length pC, .slice oP newS.ws.length pP, .slice oK kv.length pK, .slice oB newS.bl.length pB, .int .i64 newS.nx, .int .i64 newS.sq, .slice none 0 0, .int .i64 0, .slice none 0 0, .slice none 0 0] 34)) := by show _ = _; rw [hW11]; have h := heap_set _ _ 8 _ _ _ (.slice none 0 0) HBv1_10.out; simpa using h
  clear hb10 HBv1_10 ER_10 hW11
  obtain ⟨w12, hW12⟩ : ∃ W, W = (w11).setCell ⟨qv1, 9, none⟩ (.slice none 0 0) := ⟨_, rfl⟩
  rw [← hW12]
  have hb12 : Below w.heap.size w (w12) := by rw [hW12]; exact (hb11.setCell (p := ⟨qv1, 9, none⟩) HGv1.out _)
  have ER_12 : Hid (ShelfO (w12) w.heap.size (.slice oC newS.cs.length pC) (.slice oP newS.ws.length pP) (.slice oK kv.length pK) (.slice oB newS.bl.length pB) kv newS) := by show ShelfO _ _ _ _ _ _ _ _; rw [hW12]; exact ⟨RowsO.other ER_11.out.1 HBv1_11.out (shAll_noT 34 (by decide)), ER_11.out.2⟩
  have HBv1_12 : Hid ((w12).heap[qv1]? = some (.cells #[.slice oC newS.cs.length pC, .slice oP newS.ws.length pP, .slice oK kv.length pK, .slice oB newS.bl.length pB, .int .i64 newS.nx, .int .i64 newS.sq, .slice none 0 0, .int .i64 0, .slice none 0 0, .slice none 0 0] 34)) := by show _ = _; rw [hW12]; have h := heap_set _ _ 9 _ _ _ (.slice none 0 0) HBv1_11.out; simpa using h
  clear hb11 HBv1_11 ER_11 hW12
  have kv1_0 : (w12).cell? ⟨qv1, 0, none⟩ = some (.slice oC newS.cs.length pC) := (cell_of HBv1_12.out 0).trans rfl
  have kv1_1 : (w12).cell? ⟨qv1, 1, none⟩ = some (.slice oP newS.ws.length pP) := (cell_of HBv1_12.out 1).trans rfl
  have kv1_2 : (w12).cell? ⟨qv1, 2, none⟩ = some (.slice oK kv.length pK) := (cell_of HBv1_12.out 2).trans rfl
  have kv1_3 : (w12).cell? ⟨qv1, 3, none⟩ = some (.slice oB newS.bl.length pB) := (cell_of HBv1_12.out 3).trans rfl
  have kv1_4 : (w12).cell? ⟨qv1, 4, none⟩ = some (.int .i64 newS.nx) := (cell_of HBv1_12.out 4).trans rfl
  have kv1_5 : (w12).cell? ⟨qv1, 5, none⟩ = some (.int .i64 newS.sq) := (cell_of HBv1_12.out 5).trans rfl
  have kv1_6 : (w12).cell? ⟨qv1, 6, none⟩ = some (.slice none 0 0) := (cell_of HBv1_12.out 6).trans rfl
  have kv1_7 : (w12).cell? ⟨qv1, 7, none⟩ = some (.int .i64 0) := (cell_of HBv1_12.out 7).trans rfl
  have kv1_8 : (w12).cell? ⟨qv1, 8, none⟩ = some (.slice none 0 0) := (cell_of HBv1_12.out 8).trans rfl
  have kv1_9 : (w12).cell? ⟨qv1, 9, none⟩ = some (.slice none 0 0) := (cell_of HBv1_12.out 9).trans rfl
  refine bodyPost_ret (v := .agg #[.slice oC newS.cs.length pC, .slice oP newS.ws.length pP, .slice oK kv.length pK, .slice oB newS.bl.length pB, .int .i64 newS.nx, .int .i64 newS.sq, .slice none 0 0, .int .i64 0, .slice none 0 0, .slice none 0 0]) (by simp [results, Try.results5, go_sem, kv1_0, kv1_1, kv1_2, kv1_3, kv1_4, kv1_5, kv1_6, kv1_7, kv1_8, kv1_9]) rfl ?_
  exact ⟨_, _, _, _, kv, rfl, ER_12.out, hb12⟩

set_option maxHeartbeats 8000000 in
set_option maxRecDepth 100000 in
theorem eqCacheN_any (s : ShD) (x1 x2 x3 x4 y1 y2 y3 y4 : Value) (kvx kvy : List (KpD × Value × Value × Value)) (Bx By : Nat) (w : World) (hx : ShelfO w Bx x1 x2 x3 x4 kvx s) (hy : ShelfO w By y1 y2 y3 y4 kvy s) (h1 : s.cs.length ≤ 2000000) (h2 : s.ws.length ≤ 2000000) (h3 : s.ks.length ≤ 2000000) (h4 : s.bl.length ≤ 2000000) (hs : ∀ k ∈ s.ks, k.xs.length ≤ 2000000 ∧ k.ys.length ≤ 2000000 ∧ k.fs.length ≤ 2000000) :
    Calls Try.prog 6 #[.agg #[x1, x2, x3, x4, .int .i64 s.nx, .int .i64 s.sq, .slice none 0 0, .int .i64 0, .slice none 0 0, .slice none 0 0], .agg #[y1, y2, y3, y4, .int .i64 s.nx, .int .i64 s.sq, .slice none 0 0, .int .i64 0, .slice none 0 0, .slice none 0 0]] w fun e w' => e = .returned (.bool true) ∧ Below w.heap.size w w' := by
  have Ex_0 : Hid (ShelfO (w) Bx x1 x2 x3 x4 kvx s) := hx
  have Ey_0 : Hid (ShelfO (w) By y1 y2 y3 y4 kvy s) := hy
  clear hx hy
  have h00 : ((0 : Int) != 0) = false := by decide
  have hb0 : Below w.heap.size w w := Below.refl _ _
  go_enter Try.func6, Try.ntmps6
  go_upto_region 1 with fail
  obtain ⟨qv1, hqv1⟩ : ∃ q, q = (w).heap.size := ⟨_, rfl⟩
  obtain ⟨w1, hW1⟩ : ∃ W, W = (w).alloc (.cells #[x1, x2, x3, x4, .int .i64 s.nx, .int .i64 s.sq, .slice none 0 0, .int .i64 0, .slice none 0 0, .slice none 0 0] 34) := ⟨_, rfl⟩
  have hz1 : (w).heap.size = qv1 := hqv1.symm
  first | rw [← hW1, ← hqv1] | rw [← hW1]
  have hs1 : w1.heap.size = qv1 + 1 := by rw [hW1, ← hz1]; simp
  have bw : Below (w).heap.size (w) w1 := by rw [hW1]; exact (Below.refl _ _).alloc (Nat.le_refl _) _
  have hb1 : Below w.heap.size w (w1) := hb0.trans (bw.mono hb0.size)
  have Ex_1 : Hid (ShelfO (w1) Bx x1 x2 x3 x4 kvx s) := Ex_0.out.below bw
  have Ey_1 : Hid (ShelfO (w1) By y1 y2 y3 y4 kvy s) := Ey_0.out.below bw
  have HBv1_1 : Hid ((w1).heap[qv1]? = some (.cells #[x1, x2, x3, x4, .int .i64 s.nx, .int .i64 s.sq, .slice none 0 0, .int .i64 0, .slice none 0 0, .slice none 0 0] 34)) := by show _ = _; rw [hW1, ← hz1]; exact heap_alloc_new _ _
  clear hb0 Ex_0 Ey_0 bw hW1 hz1
  obtain ⟨qv2, hqv2⟩ : ∃ q, q = qv1 + 1 := ⟨_, rfl⟩
  obtain ⟨w2, hW2⟩ : ∃ W, W = (w1).alloc (.cells #[y1, y2, y3, y4, .int .i64 s.nx, .int .i64 s.sq, .slice none 0 0, .int .i64 0, .slice none 0 0, .slice none 0 0] 34) := ⟨_, rfl⟩
  have hz2 : (w1).heap.size = qv2 := by rw [hqv2]; exact hs1
  first | rw [← hW2, ← hqv2] | rw [← hW2]
  have hs2 : w2.heap.size = qv2 + 1 := by rw [hW2, ← hz2]; simp
  have bw : Below (w1).heap.size (w1) w2 := by rw [hW2]; exact (Below.refl _ _).alloc (Nat.le_refl _) _
  have hb2 : Below w.heap.size w (w2) := hb1.trans (bw.mono hb1.size)
  have HBv1_2 : Hid ((w2).heap[qv1]? = some (.cells #[x1, x2, x3, x4, .int .i64 s.nx, .int .i64 s.sq, .slice none 0 0, .int .i64 0, .slice none 0 0, .slice none 0 0] 34)) := blk_below HBv1_1.out bw
  have Ex_2 : Hid (ShelfO (w2) Bx x1 x2 x3 x4 kvx s) := Ex_1.out.below bw
  have Ey_2 : Hid (ShelfO (w2) By y1 y2 y3 y4 kvy s) := Ey_1.out.below bw
  have HBv2_2 : Hid ((w2).heap[qv2]? = some (.cells #[y1, y2, y3, y4, .int .i64 s.nx, .int .i64 s.sq, .slice none 0 0, .int .i64 0, .slice none 0 0, .slice none 0 0] 34)) := by show _ = _; rw [hW2, ← hz2]; exact heap_alloc_new _ _
  clear hb1 HBv1_1 Ex_1 Ey_1 bw hW2 hz2
  clear hs2 hqv2 hs1 hqv1
  have cv1_0 : (w2).cell? ⟨qv1, 0, none⟩ = some (x1) := (cell_of HBv1_2.out 0).trans rfl
  have cv1_1 : (w2).cell? ⟨qv1, 1, none⟩ = some (x2) := (cell_of HBv1_2.out 1).trans rfl
  have cv1_2 : (w2).cell? ⟨qv1, 2, none⟩ = some (x3) := (cell_of HBv1_2.out 2).trans rfl
  have cv1_3 : (w2).cell? ⟨qv1, 3, none⟩ = some (x4) := (cell_of HBv1_2.out 3).trans rfl
  have cv1_4 : (w2).cell? ⟨qv1, 4, none⟩ = some (.int .i64 s.nx) := (cell_of HBv1_2.out 4).trans rfl
  have cv1_5 : (w2).cell? ⟨qv1, 5, none⟩ = some (.int .i64 s.sq) := (cell_of HBv1_2.out 5).trans rfl
  have cv2_0 : (w2).cell? ⟨qv2, 0, none⟩ = some (y1) := (cell_of HBv2_2.out 0).trans rfl
  have cv2_1 : (w2).cell? ⟨qv2, 1, none⟩ = some (y2) := (cell_of HBv2_2.out 1).trans rfl
  have cv2_2 : (w2).cell? ⟨qv2, 2, none⟩ = some (y3) := (cell_of HBv2_2.out 2).trans rfl
  have cv2_3 : (w2).cell? ⟨qv2, 3, none⟩ = some (y4) := (cell_of HBv2_2.out 3).trans rfl
  have cv2_4 : (w2).cell? ⟨qv2, 4, none⟩ = some (.int .i64 s.nx) := (cell_of HBv2_2.out 4).trans rfl
  have cv2_5 : (w2).cell? ⟨qv2, 5, none⟩ = some (.int .i64 s.sq) := (cell_of HBv2_2.out 5).trans rfl
  go_wp2_with fail
  refine (eqShelf_any s _ _ _ _ _ _ _ _ kvx kvy Bx By _ Ex_2.out Ey_2.out h1 h2 h3 h4 hs).mono ?_
  rintro e w3 ⟨rfl, bw⟩
  have hb3 : Below w.heap.size w (w3) := hb2.trans (bw.mono hb2.size)
  have HBv1_3 : Hid ((w3).heap[qv1]? = some (.cells #[x1, x2, x3, x4, .int .i64 s.nx, .int .i64 s.sq, .slice none 0 0, .int .i64 0, .slice none 0 0, .slice none 0 0] 34)) := blk_below HBv1_2.out bw
  have HBv2_3 : Hid ((w3).heap[qv2]? = some (.cells #[y1, y2, y3, y4, .int .i64 s.nx, .int .i64 s.sq, .slice none 0 0, .int .i64 0, .slice none 0 0, .slice none 0 0] 34)) := blk_below HBv2_2.out bw
  have Ex_3 : Hid (ShelfO (w3) Bx x1 x2 x3 x4 kvx s) := Ex_2.out.below bw
  have Ey_3 : Hid (ShelfO (w3) By y1 y2 y3 y4 kvy s) := Ey_2.out.below bw
  clear hb2 HBv1_2 HBv2_2 Ex_2 Ey_2 bw
  clear cv1_0 cv1_1 cv1_2 cv1_3 cv1_4 cv1_5 cv2_0 cv2_1 cv2_2 cv2_3 cv2_4 cv2_5
  have cv1_6 : (w3).cell? ⟨qv1, 6, none⟩ = some (.slice none 0 0) := (cell_of HBv1_3.out 6).trans rfl
  have cv2_6 : (w3).cell? ⟨qv2, 6, none⟩ = some (.slice none 0 0) := (cell_of HBv2_3.out 6).trans rfl
  go_wp2_with fail
  refine (eqFlightS_nil _).mono ?_
  rintro e w4 ⟨rfl, bw⟩
  have hb4 : Below w.heap.size w (w4) := hb3.trans (bw.mono hb3.size)
  have HBv1_4 : Hid ((w4).heap[qv1]? = some (.cells #[x1, x2, x3, x4, .int .i64 s.nx, .int .i64 s.sq, .slice none 0 0, .int .i64 0, .slice none 0 0, .slice none 0 0] 34)) := blk_below HBv1_3.out bw
  have HBv2_4 : Hid ((w4).heap[qv2]? = some (.cells #[y1, y2, y3, y4, .int .i64 s.nx, .int .i64 s.sq, .slice none 0 0, .int .i64 0, .slice none 0 0, .slice none 0 0] 34)) := blk_below HBv2_3.out bw
  have Ex_4 : Hid (ShelfO (w4) Bx x1 x2 x3 x4 kvx s) := Ex_3.out.below bw
  have Ey_4 : Hid (ShelfO (w4) By y1 y2 y3 y4 kvy s) := Ey_3.out.below bw
  clear hb3 HBv1_3 HBv2_3 Ex_3 Ey_3 bw
  clear cv1_6 cv2_6
  have cv1_7 : (w4).cell? ⟨qv1, 7, none⟩ = some (.int .i64 0) := (cell_of HBv1_4.out 7).trans rfl
  have cv2_7 : (w4).cell? ⟨qv2, 7, none⟩ = some (.int .i64 0) := (cell_of HBv2_4.out 7).trans rfl
  have cv1_8 : (w4).cell? ⟨qv1, 8, none⟩ = some (.slice none 0 0) := (cell_of HBv1_4.out 8).trans rfl
  have cv2_8 : (w4).cell? ⟨qv2, 8, none⟩ = some (.slice none 0 0) := (cell_of HBv2_4.out 8).trans rfl
  go_wp2_with fail
  refine (eqSeenS_nil _).mono ?_
  rintro e w5 ⟨rfl, bw⟩
  have hb5 : Below w.heap.size w (w5) := hb4.trans (bw.mono hb4.size)
  have HBv1_5 : Hid ((w5).heap[qv1]? = some (.cells #[x1, x2, x3, x4, .int .i64 s.nx, .int .i64 s.sq, .slice none 0 0, .int .i64 0, .slice none 0 0, .slice none 0 0] 34)) := blk_below HBv1_4.out bw
  have HBv2_5 : Hid ((w5).heap[qv2]? = some (.cells #[y1, y2, y3, y4, .int .i64 s.nx, .int .i64 s.sq, .slice none 0 0, .int .i64 0, .slice none 0 0, .slice none 0 0] 34)) := blk_below HBv2_4.out bw
  have Ex_5 : Hid (ShelfO (w5) Bx x1 x2 x3 x4 kvx s) := Ex_4.out.below bw
  have Ey_5 : Hid (ShelfO (w5) By y1 y2 y3 y4 kvy s) := Ey_4.out.below bw
  clear hb4 HBv1_4 HBv2_4 Ex_4 Ey_4 bw
  clear cv1_7 cv2_7 cv1_8 cv2_8
  have cv1_9 : (w5).cell? ⟨qv1, 9, none⟩ = some (.slice none 0 0) := (cell_of HBv1_5.out 9).trans rfl
  have cv2_9 : (w5).cell? ⟨qv2, 9, none⟩ = some (.slice none 0 0) := (cell_of HBv2_5.out 9).trans rfl
  go_wp2_with fail
  refine (eqReplyS_nil _).mono ?_
  rintro e w6 ⟨rfl, bw⟩
  have hb6 : Below w.heap.size w (w6) := hb5.trans (bw.mono hb5.size)
  have HBv1_6 : Hid ((w6).heap[qv1]? = some (.cells #[x1, x2, x3, x4, .int .i64 s.nx, .int .i64 s.sq, .slice none 0 0, .int .i64 0, .slice none 0 0, .slice none 0 0] 34)) := blk_below HBv1_5.out bw
  have HBv2_6 : Hid ((w6).heap[qv2]? = some (.cells #[y1, y2, y3, y4, .int .i64 s.nx, .int .i64 s.sq, .slice none 0 0, .int .i64 0, .slice none 0 0, .slice none 0 0] 34)) := blk_below HBv2_5.out bw
  have Ex_6 : Hid (ShelfO (w6) Bx x1 x2 x3 x4 kvx s) := Ex_5.out.below bw
  have Ey_6 : Hid (ShelfO (w6) By y1 y2 y3 y4 kvy s) := Ey_5.out.below bw
  clear hb5 HBv1_5 HBv2_5 Ex_5 Ey_5 bw
  clear cv1_9 cv2_9
  go_wp2_with fail
  go_ret
  exact ⟨rfl, hb6⟩

set_option maxHeartbeats 8000000 in
set_option maxRecDepth 100000 in
theorem markCacheN_go (s : ShD) (n1 n2 n3 n4 : Nat) (oC oP oK oB : Option Addr) (pC pP pK pB : Nat) (kv : List (KpD × Value × Value × Value)) (B : Nat) (w : World) (hL1 : s.cs.length = n1) (hL2 : s.ws.length = n2) (hL3 : kv.length = n3) (hL4 : s.bl.length = n4) (HR : Hid (RowsO w B ([(⟨9, 1, (.slice oC n1 pC), n1, s.cs.map Value.string⟩ : Rw), (⟨97, 2, (.slice oP n2 pP), n2, flatWrite s.ws⟩ : Rw)] ++ kpAll (.slice oK n3 pK) kv ++ [(⟨85, 4, (.slice oB n4 pB), n4, flatBan s.bl⟩ : Rw)]))) (hB : B ≤ w.heap.size) (k0 : Nat) (hk0 : 1 ≤ k0) (hk : k0 + n1 + 2 * n2 + wms kv + 4 * n4 ≤ 9999998) (hn3 : n3 ≤ 2000000) (K1 K2 K3 : Nat) (HK1 : Hid (K1 = k0 + n1 + 2 * n2)) (HK2 : Hid (K2 = K1 + wms kv)) (HK3 : Hid (K3 = K2 + 4 * n4)) :
    Calls Try.prog 7 #[.agg #[(.slice oC n1 pC), (.slice oP n2 pP), (.slice oK n3 pK), (.slice oB n4 pB), .int .i64 s.nx, .int .i64 s.sq, .slice none 0 0, .int .i64 0, .slice none 0 0, .slice none 0 0], .int .i64 (k0 : Int)] w fun e w' => e = .returned (.int .i64 (K3 : Int)) ∧ RowsO w' B ([(⟨9, 1, (.slice oC n1 pC), n1, (mkT k0 s.cs n1).map Value.string⟩ : Rw), (⟨97, 2, (.slice oP n2 pP), n2, flatWrite (mkWrite (k0 + n1) s.ws n2)⟩ : Rw)] ++ kpAll (.slice oK n3 pK) (mkKs K1 kv) ++ [(⟨85, 4, (.slice oB n4 pB), n4, flatBan (mkBan K2 s.bl n4)⟩ : Rw)]) ∧ Below B w w' ∧ FarR ([(⟨9, 1, (.slice oC n1 pC), n1, s.cs.map Value.string⟩ : Rw), (⟨97, 2, (.slice oP n2 pP), n2, flatWrite s.ws⟩ : Rw)] ++ kpAll (.slice oK n3 pK) kv ++ [(⟨85, 4, (.slice oB n4 pB), n4, flatBan s.bl⟩ : Rw)]) w w' := by
  go_enter Try.func7, Try.ntmps7
  go_upto_region 1 with fail
  obtain ⟨q, hq⟩ : ∃ q, q = w.heap.size := ⟨_, rfl⟩
  obtain ⟨w1, hw1⟩ : ∃ W, W = w.alloc (.cells #[(.slice oC n1 pC), (.slice oP n2 pP), (.slice oK n3 pK), (.slice oB n4 pB), .int .i64 s.nx, .int .i64 s.sq, .slice none 0 0, .int .i64 0, .slice none 0 0, .slice none 0 0] 34) := ⟨_, rfl⟩
  rw [← hw1, ← hq]
  have HX1 : Hid (w1.heap[q]? = some (.cells #[(.slice oC n1 pC), (.slice oP n2 pP), (.slice oK n3 pK), (.slice oB n4 pB), .int .i64 s.nx, .int .i64 s.sq, .slice none 0 0, .int .i64 0, .slice none 0 0, .slice none 0 0] 34)) := by show _ = _; rw [hw1, hq]; exact heap_alloc_new _ _
  have bw1 : Below w.heap.size w w1 := by rw [hw1]; exact (Below.refl _ _).alloc (Nat.le_refl _) _
  have HQ : Hid (∀ r ∈ ([(⟨9, 1, (.slice oC n1 pC), n1, s.cs.map Value.string⟩ : Rw), (⟨97, 2, (.slice oP n2 pP), n2, flatWrite s.ws⟩ : Rw)] ++ kpAll (.slice oK n3 pK) kv ++ [(⟨85, 4, (.slice oB n4 pB), n4, flatBan s.bl⟩ : Rw)]), r.v.ownBlock ≠ some q) := fun r hr e => by have h1 := HR.out.lt hr e; omega
  have HR1 : Hid (RowsO w1 B ([(⟨9, 1, (.slice oC n1 pC), n1, s.cs.map Value.string⟩ : Rw), (⟨97, 2, (.slice oP n2 pP), n2, flatWrite s.ws⟩ : Rw)] ++ kpAll (.slice oK n3 pK) kv ++ [(⟨85, 4, (.slice oB n4 pB), n4, flatBan s.bl⟩ : Rw)])) := HR.out.below bw1
  have HB1 : Hid (Below B w w1) := bw1.mono hB
  have HF1 : Hid (∀ j, j < w.heap.size → w1.heap[j]? = w.heap[j]?) := fun j hj => bw1.block j hj
  have hBw1 : B ≤ w1.heap.size := Nat.le_trans hB bw1.size
  have hqs : q < w1.heap.size := (Array.getElem?_eq_some_iff.1 HX1.out).1
  clear hw1 bw1 hq
  have c0 : w1.cell? ⟨q, 0, none⟩ = some ((.slice oC n1 pC)) := (cell_of HX1.out 0).trans rfl
  have c1 : w1.cell? ⟨q, 1, none⟩ = some ((.slice oP n2 pP)) := (cell_of HX1.out 1).trans rfl
  have c2 : w1.cell? ⟨q, 2, none⟩ = some ((.slice oK n3 pK)) := (cell_of HX1.out 2).trans rfl
  have c3 : w1.cell? ⟨q, 3, none⟩ = some ((.slice oB n4 pB)) := (cell_of HX1.out 3).trans rfl
  have c4 : w1.cell? ⟨q, 4, none⟩ = some (.int .i64 s.nx) := (cell_of HX1.out 4).trans rfl
  have c5 : w1.cell? ⟨q, 5, none⟩ = some (.int .i64 s.sq) := (cell_of HX1.out 5).trans rfl
  go_wp2_with fail
  refine (markShelf_go s n1 n2 n3 n4 oC oP oK oB pC pP pK pB kv B _ hL1 hL2 hL3 hL4 HR1 hBw1 k0 hk0 hk hn3 K1 K2 K3 HK1 HK2 HK3).mono ?_
  rintro e w2 ⟨rfl, mk, bm, far⟩
  have HX2 : Hid (w2.heap[q]? = some (.cells #[(.slice oC n1 pC), (.slice oP n2 pP), (.slice oK n3 pK), (.slice oB n4 pB), .int .i64 s.nx, .int .i64 s.sq, .slice none 0 0, .int .i64 0, .slice none 0 0, .slice none 0 0] 34)) := (far q hqs HQ.out).trans HX1.out
  have HR2 : Hid (RowsO w2 B ([(⟨9, 1, (.slice oC n1 pC), n1, (mkT k0 s.cs n1).map Value.string⟩ : Rw), (⟨97, 2, (.slice oP n2 pP), n2, flatWrite (mkWrite (k0 + n1) s.ws n2)⟩ : Rw)] ++ kpAll (.slice oK n3 pK) (mkKs K1 kv) ++ [(⟨85, 4, (.slice oB n4 pB), n4, flatBan (mkBan K2 s.bl n4)⟩ : Rw)])) := mk
  have HB2 : Hid (Below B w w2) := HB1.out.trans bm
  have HF2 : Hid (FarR ([(⟨9, 1, (.slice oC n1 pC), n1, s.cs.map Value.string⟩ : Rw), (⟨97, 2, (.slice oP n2 pP), n2, flatWrite s.ws⟩ : Rw)] ++ kpAll (.slice oK n3 pK) kv ++ [(⟨85, 4, (.slice oB n4 pB), n4, flatBan s.bl⟩ : Rw)]) w w2) := fun j hj hne => (far j (Nat.lt_of_lt_of_le hj HB1.out.size) hne).trans (HF1.out j hj)
  clear mk bm far HX1 HR1 HB1 HF1 c0 c1 c2 c3 c4 c5 hL1 hL2 hL3 hL4 hk
  have c6 : w2.cell? ⟨q, 6, none⟩ = some (.slice none 0 0) := (cell_of HX2.out 6).trans rfl
  go_wp2_with fail
  refine (markFlightS_nil (K3 : Int) _).mono ?_
  rintro e w3 ⟨rfl, bw⟩
  have HX3 : Hid (w3.heap[q]? = some (.cells #[(.slice oC n1 pC), (.slice oP n2 pP), (.slice oK n3 pK), (.slice oB n4 pB), .int .i64 s.nx, .int .i64 s.sq, .slice none 0 0, .int .i64 0, .slice none 0 0, .slice none 0 0] 34)) := blk_below HX2.out bw
  have HR3 : Hid (RowsO w3 B ([(⟨9, 1, (.slice oC n1 pC), n1, (mkT k0 s.cs n1).map Value.string⟩ : Rw), (⟨97, 2, (.slice oP n2 pP), n2, flatWrite (mkWrite (k0 + n1) s.ws n2)⟩ : Rw)] ++ kpAll (.slice oK n3 pK) (mkKs K1 kv) ++ [(⟨85, 4, (.slice oB n4 pB), n4, flatBan (mkBan K2 s.bl n4)⟩ : Rw)])) := HR2.out.below bw
  have HB3 : Hid (Below B w w3) := HB2.out.trans (bw.mono (Nat.le_trans hB HB2.out.size))
  have HF3 : Hid (FarR ([(⟨9, 1, (.slice oC n1 pC), n1, s.cs.map Value.string⟩ : Rw), (⟨97, 2, (.slice oP n2 pP), n2, flatWrite s.ws⟩ : Rw)] ++ kpAll (.slice oK n3 pK) kv ++ [(⟨85, 4, (.slice oB n4 pB), n4, flatBan s.bl⟩ : Rw)]) w w3) := fun j hj hne => (bw.block j (Nat.lt_of_lt_of_le hj HB2.out.size)).trans (HF2.out j hj hne)
  clear HR2 HB2 HF2
  clear bw c6 HX2
  have c8 : w3.cell? ⟨q, 8, none⟩ = some (.slice none 0 0) := (cell_of HX3.out 8).trans rfl
  go_wp2_with fail
  refine (markSeenS_nil (K3 : Int) _).mono ?_
  rintro e w4 ⟨rfl, bw⟩
  have HX4 : Hid (w4.heap[q]? = some (.cells #[(.slice oC n1 pC), (.slice oP n2 pP), (.slice oK n3 pK), (.slice oB n4 pB), .int .i64 s.nx, .int .i64 s.sq, .slice none 0 0, .int .i64 0, .slice none 0 0, .slice none 0 0] 34)) := blk_below HX3.out bw
  have HR4 : Hid (RowsO w4 B ([(⟨9, 1, (.slice oC n1 pC), n1, (mkT k0 s.cs n1).map Value.string⟩ : Rw), (⟨97, 2, (.slice oP n2 pP), n2, flatWrite (mkWrite (k0 + n1) s.ws n2)⟩ : Rw)] ++ kpAll (.slice oK n3 pK) (mkKs K1 kv) ++ [(⟨85, 4, (.slice oB n4 pB), n4, flatBan (mkBan K2 s.bl n4)⟩ : Rw)])) := HR3.out.below bw
  have HB4 : Hid (Below B w w4) := HB3.out.trans (bw.mono (Nat.le_trans hB HB3.out.size))
  have HF4 : Hid (FarR ([(⟨9, 1, (.slice oC n1 pC), n1, s.cs.map Value.string⟩ : Rw), (⟨97, 2, (.slice oP n2 pP), n2, flatWrite s.ws⟩ : Rw)] ++ kpAll (.slice oK n3 pK) kv ++ [(⟨85, 4, (.slice oB n4 pB), n4, flatBan s.bl⟩ : Rw)]) w w4) := fun j hj hne => (bw.block j (Nat.lt_of_lt_of_le hj HB3.out.size)).trans (HF3.out j hj hne)
  clear HR3 HB3 HF3
  clear bw c8 HX3
  have c9 : w4.cell? ⟨q, 9, none⟩ = some (.slice none 0 0) := (cell_of HX4.out 9).trans rfl
  go_wp2_with fail
  refine (markReplyS_nil (K3 : Int) _).mono ?_
  rintro e w5 ⟨rfl, bw⟩
  have HX5 : Hid (w5.heap[q]? = some (.cells #[(.slice oC n1 pC), (.slice oP n2 pP), (.slice oK n3 pK), (.slice oB n4 pB), .int .i64 s.nx, .int .i64 s.sq, .slice none 0 0, .int .i64 0, .slice none 0 0, .slice none 0 0] 34)) := blk_below HX4.out bw
  have HR5 : Hid (RowsO w5 B ([(⟨9, 1, (.slice oC n1 pC), n1, (mkT k0 s.cs n1).map Value.string⟩ : Rw), (⟨97, 2, (.slice oP n2 pP), n2, flatWrite (mkWrite (k0 + n1) s.ws n2)⟩ : Rw)] ++ kpAll (.slice oK n3 pK) (mkKs K1 kv) ++ [(⟨85, 4, (.slice oB n4 pB), n4, flatBan (mkBan K2 s.bl n4)⟩ : Rw)])) := HR4.out.below bw
  have HB5 : Hid (Below B w w5) := HB4.out.trans (bw.mono (Nat.le_trans hB HB4.out.size))
  have HF5 : Hid (FarR ([(⟨9, 1, (.slice oC n1 pC), n1, s.cs.map Value.string⟩ : Rw), (⟨97, 2, (.slice oP n2 pP), n2, flatWrite s.ws⟩ : Rw)] ++ kpAll (.slice oK n3 pK) kv ++ [(⟨85, 4, (.slice oB n4 pB), n4, flatBan s.bl⟩ : Rw)]) w w5) := fun j hj hne => (bw.block j (Nat.lt_of_lt_of_le hj HB4.out.size)).trans (HF4.out j hj hne)
  clear HR4 HB4 HF4
  clear bw c9 HX4
  go_wp2_with fail
  go_ret
  exact ⟨rfl, HR5.out, HB5.out, HF5.out⟩

set_option maxHeartbeats 8000000 in
set_option maxRecDepth 100000 in
theorem heldCacheN_go (s : ShD) (n1 n2 n3 n4 : Nat) (oC oP oK oB : Option Addr) (pC pP pK pB : Nat) (kv : List (KpD × Value × Value × Value)) (B : Nat) (w : World) (hL1 : s.cs.length = n1) (hL2 : s.ws.length = n2) (hL3 : kv.length = n3) (hL4 : s.bl.length = n4) (k0 K1 K2 K3 : Nat) (HR : Hid (RowsO w B ([(⟨9, 1, (.slice oC n1 pC), n1, (mkT k0 s.cs n1).map Value.string⟩ : Rw), (⟨97, 2, (.slice oP n2 pP), n2, flatWrite (mkWrite (k0 + n1) s.ws n2)⟩ : Rw)] ++ kpAll (.slice oK n3 pK) (mkKs K1 kv) ++ [(⟨85, 4, (.slice oB n4 pB), n4, flatBan (mkBan K2 s.bl n4)⟩ : Rw)]))) (hk0 : 1 ≤ k0) (hk : k0 + n1 + 2 * n2 + wms kv + 4 * n4 ≤ 9999998) (hn3 : n3 ≤ 2000000) (HK1 : Hid (K1 = k0 + n1 + 2 * n2)) (HK2 : Hid (K2 = K1 + wms kv)) (HK3 : Hid (K3 = K2 + 4 * n4)) :
    Calls Try.prog 8 #[.agg #[(.slice oC n1 pC), (.slice oP n2 pP), (.slice oK n3 pK), (.slice oB n4 pB), .int .i64 s.nx, .int .i64 s.sq, .slice none 0 0, .int .i64 0, .slice none 0 0, .slice none 0 0], .int .i64 (k0 : Int)] w fun e w' => e = .returned (.int .i64 (K3 : Int)) ∧ Below w.heap.size w w' := by
  have hp : ¬ ((K3 : Int) < 0) := by omega
  go_enter Try.func8, Try.ntmps8
  go_upto_region 1 with fail
  obtain ⟨q, hq⟩ : ∃ q, q = w.heap.size := ⟨_, rfl⟩
  obtain ⟨w1, hw1⟩ : ∃ W, W = w.alloc (.cells #[(.slice oC n1 pC), (.slice oP n2 pP), (.slice oK n3 pK), (.slice oB n4 pB), .int .i64 s.nx, .int .i64 s.sq, .slice none 0 0, .int .i64 0, .slice none 0 0, .slice none 0 0] 34) := ⟨_, rfl⟩
  rw [← hw1, ← hq]
  have HX1 : Hid (w1.heap[q]? = some (.cells #[(.slice oC n1 pC), (.slice oP n2 pP), (.slice oK n3 pK), (.slice oB n4 pB), .int .i64 s.nx, .int .i64 s.sq, .slice none 0 0, .int .i64 0, .slice none 0 0, .slice none 0 0] 34)) := by show _ = _; rw [hw1, hq]; exact heap_alloc_new _ _
  have bw1 : Below w.heap.size w w1 := by rw [hw1]; exact (Below.refl _ _).alloc (Nat.le_refl _) _
  have HR1 : Hid (RowsO w1 B ([(⟨9, 1, (.slice oC n1 pC), n1, (mkT k0 s.cs n1).map Value.string⟩ : Rw), (⟨97, 2, (.slice oP n2 pP), n2, flatWrite (mkWrite (k0 + n1) s.ws n2)⟩ : Rw)] ++ kpAll (.slice oK n3 pK) (mkKs K1 kv) ++ [(⟨85, 4, (.slice oB n4 pB), n4, flatBan (mkBan K2 s.bl n4)⟩ : Rw)])) := HR.out.below bw1
  have HB1 : Hid (Below w.heap.size w w1) := bw1
  clear hw1 bw1 hq
  have c0 : w1.cell? ⟨q, 0, none⟩ = some ((.slice oC n1 pC)) := (cell_of HX1.out 0).trans rfl
  have c1 : w1.cell? ⟨q, 1, none⟩ = some ((.slice oP n2 pP)) := (cell_of HX1.out 1).trans rfl
  have c2 : w1.cell? ⟨q, 2, none⟩ = some ((.slice oK n3 pK)) := (cell_of HX1.out 2).trans rfl
  have c3 : w1.cell? ⟨q, 3, none⟩ = some ((.slice oB n4 pB)) := (cell_of HX1.out 3).trans rfl
  have c4 : w1.cell? ⟨q, 4, none⟩ = some (.int .i64 s.nx) := (cell_of HX1.out 4).trans rfl
  have c5 : w1.cell? ⟨q, 5, none⟩ = some (.int .i64 s.sq) := (cell_of HX1.out 5).trans rfl
  go_wp2_with fail
  refine (heldShelf_go s n1 n2 n3 n4 oC oP oK oB pC pP pK pB kv B _ hL1 hL2 hL3 hL4 k0 K1 K2 K3 HR1 hk0 hk hn3 HK1 HK2 HK3).mono ?_
  rintro e w2 ⟨rfl, bw⟩
  have HX2 : Hid (w2.heap[q]? = some (.cells #[(.slice oC n1 pC), (.slice oP n2 pP), (.slice oK n3 pK), (.slice oB n4 pB), .int .i64 s.nx, .int .i64 s.sq, .slice none 0 0, .int .i64 0, .slice none 0 0, .slice none 0 0] 34)) := blk_below HX1.out bw
  have HB2 : Hid (Below w.heap.size w w2) := HB1.out.trans (bw.mono HB1.out.size)
  clear bw HX1 HR1 HB1 c0 c1 c2 c3 c4 c5 hL1 hL2 hL3 hL4 hk
  have c6 : w2.cell? ⟨q, 6, none⟩ = some (.slice none 0 0) := (cell_of HX2.out 6).trans rfl
  go_wp2_with fail
  refine (heldFlightS_nil (K3 : Int) _).mono ?_
  rintro e w3 ⟨rfl, bw⟩
  have HX3 : Hid (w3.heap[q]? = some (.cells #[(.slice oC n1 pC), (.slice oP n2 pP), (.slice oK n3 pK), (.slice oB n4 pB), .int .i64 s.nx, .int .i64 s.sq, .slice none 0 0, .int .i64 0, .slice none 0 0, .slice none 0 0] 34)) := blk_below HX2.out bw
  have HB3 : Hid (Below w.heap.size w w3) := HB2.out.trans (bw.mono HB2.out.size)
  clear HB2
  clear bw c6 HX2
  have c8 : w3.cell? ⟨q, 8, none⟩ = some (.slice none 0 0) := (cell_of HX3.out 8).trans rfl
  go_wp2_with fail
  refine (heldSeenS_nil (K3 : Int) _).mono ?_
  rintro e w4 ⟨rfl, bw⟩
  have HX4 : Hid (w4.heap[q]? = some (.cells #[(.slice oC n1 pC), (.slice oP n2 pP), (.slice oK n3 pK), (.slice oB n4 pB), .int .i64 s.nx, .int .i64 s.sq, .slice none 0 0, .int .i64 0, .slice none 0 0, .slice none 0 0] 34)) := blk_below HX3.out bw
  have HB4 : Hid (Below w.heap.size w w4) := HB3.out.trans (bw.mono HB3.out.size)
  clear HB3
  clear bw c8 HX3
  have c9 : w4.cell? ⟨q, 9, none⟩ = some (.slice none 0 0) := (cell_of HX4.out 9).trans rfl
  go_wp2_with fail
  refine (heldReplyS_nil (K3 : Int) _).mono ?_
  rintro e w5 ⟨rfl, bw⟩
  have HX5 : Hid (w5.heap[q]? = some (.cells #[(.slice oC n1 pC), (.slice oP n2 pP), (.slice oK n3 pK), (.slice oB n4 pB), .int .i64 s.nx, .int .i64 s.sq, .slice none 0 0, .int .i64 0, .slice none 0 0, .slice none 0 0] 34)) := blk_below HX4.out bw
  have HB5 : Hid (Below w.heap.size w w5) := HB4.out.trans (bw.mono HB4.out.size)
  clear HB4
  clear bw c9 HX4
  go_wp2_with fail
  go_ret
  exact ⟨rfl, HB5.out⟩

end Go.Proofs.Ytanpngnpolhgbaa
