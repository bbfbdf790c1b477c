/- A drawn ban is read from its text as it was; a text that is read is that of the ban (the law answers true), and the code reads as it did: for every code. The card lists the tables that strconv.Itoa's text names. -/
import Derived.Test.YtlmenolcgaakeaaDoorFnBansD
import Derived.Below
import Derived.ChangeOld
import Derived.ShutString
import Derived.Deep.RegionHeld3
import Derived.Deep.DrawnRows
import Derived.Deep.CutRange
import Derived.Deep.DeepCutAuto
namespace Go.Proofs.YtlmenolcgaakeaaDoor
namespace fnBans
open Go.ChangeShapes Go.WideShapes Go.ChangeAt Go.RowKit
open Go.ChangeMaps (open_string shut_string)
attribute [local go_sem ↓] Go.wp_at_zero Go.wp_at_succ

theorem own : ownKnob Tryd.prog.godebug = none := by kernel_rfl
theorem laidOut : laidOutB Tryd.prog = true := by kernel_rfl
def IsRow (k : IntKind) (w : World) (a : Option Addr) (len cap : Nat) (zs : List Int) : Prop :=
  (a = none ∧ len = 0 ∧ cap = 0 ∧ zs = []) ∨
  ∃ x, a = some x ∧ len ≤ cap ∧ cap ≤ maxLen ∧ zs.length = cap ∧ (∀ i, i < zs.length → w.cell? (x.add i) = some (.int k (zs.getD i 0))) ∧ ∀ n ∈ zs, (Lit.int k n).wf = true
theorem row_cell {k : IntKind} {w : World} {x : Addr} {zs : List Int} (h : ∀ i, i < zs.length → w.cell? (x.add i) = some (.int k (zs.getD i 0))) (j : Nat) (hj : j < zs.length) : ∃ b off, x = ⟨b, off, none⟩ ∧ w.cell? ⟨b, off + j, none⟩ = some (.int k (zs.getD j 0)) := by
  obtain ⟨b, off, spot⟩ := x
  have hc := h j hj
  have hspot : spot = none := by
    have := World.cell?_spot (h 0 (by omega))
    simpa [Addr.add] using this
  subst hspot
  refine ⟨b, off, rfl, ?_⟩
  by_cases e : j = 0
  · subst e; simpa [Addr.add] using hc
  · simpa [Addr.add, e] using hc
theorem row_code {w : World} {a : Option Addr} {len cap : Nat} {zs : List Int} (h : IsRow .u8 w a len cap zs) (hl : len ≤ 1048576) : CodeAt w w.heap.size a len zs := by
  refine ⟨hl, fun j hj => ?_⟩
  rcases h with ⟨rfl, rfl, _, _⟩ | ⟨x, rfl, h1, _, h3, h4, h5⟩
  · omega
  · obtain ⟨b, off, rfl, hc2⟩ := row_cell h4 j (by omega)
    have hm : zs.getD j 0 ∈ zs := by
      rw [List.getD_eq_getElem?_getD, List.getElem?_eq_getElem (by omega)]
      exact List.getElem_mem _
    have hr := bounds_u8 (h5 _ hm)
    exact ⟨b, off, rfl, World.block_lt_of_cell? _ _ hc2, hc2, hr.1, by omega⟩
theorem banRdT {x : ByteArray} {k : Int} {p b : ByteArray} {t : Int} {w w' : World} {e : Ending} (hK : IsBan x k p b t) (h : BanIs x w e w') : e = .returned (.tuple #[.agg #[.int .i64 k, .string p, .string b, .int .i64 t], .bool true]) ∧ Below w.heap.size w w' := by
  obtain ⟨h1, h2⟩ := h
  rcases h2 with ⟨k', p', b', t', h3, h4⟩ | ⟨h3, h4⟩
  · obtain ⟨e1, e2, e3, e4⟩ := IsBan.uniq h4 hK
    exact ⟨by rw [h3, e1, e2, e3, e4], h1⟩
  · exact absurd hK (h4 _ _ _ _)
theorem banRdF {x : ByteArray} {w w' : World} {e : Ending} (hK : ∀ k p b t, ¬ IsBan x k p b t) (h : BanIs x w e w') : e = .returned (.tuple #[.agg #[.int .i64 0, .string ⟨#[]⟩, .string ⟨#[]⟩, .int .i64 0], .bool false]) ∧ Below w.heap.size w w' := by
  obtain ⟨h1, h2⟩ := h
  rcases h2 with ⟨k', p', b', t', h3, h4⟩ | ⟨h3, h4⟩
  · exact absurd h4 (hK _ _ _ _)
  · exact ⟨h3, h1⟩

open Go.Lib hiding intOf
set_option maxHeartbeats 400000 in
theorem big_no (a : Option Addr) (len cap : Nat) (w : World) (h : ¬ (1048576 : Int) < (len : Int)) : Calls Tryd.prog 6 #[.slice a len cap] w fun e w' => e = .returned (.bool false) ∧ w' = w := by
  go_enter Tryd.func6, Tryd.ntmps6
  go_wp2
  go_ret
  exact ⟨rfl, rfl⟩
set_option maxHeartbeats 400000 in
theorem big_yes (a : Option Addr) (len cap : Nat) (w : World) (h : (1048576 : Int) < (len : Int)) : Calls Tryd.prog 6 #[.slice a len cap] w fun e w' => e = .returned (.bool true) ∧ w' = w := by
  go_enter Tryd.func6, Tryd.ntmps6
  go_wp2
  go_ret
  exact ⟨rfl, rfl⟩
set_option maxHeartbeats 16000000 in
set_option maxRecDepth 100000 in
theorem walk1 (w : World) (a0 : Option Addr) (len0 cap0 : Nat) (zc0 : List Int) (w0 : IsRow .u8 w a0 len0 cap0 zc0) (hT : TabOk w) (hLN : LenOk w) :
    Calls Tryd.prog 3 #[.slice a0 len0 cap0] w fun e w' => e = .returned (.bool true) ∧ Below w.heap.size w w' := by
  classical
  by_cases hbig : (1048576 : Int) < (len0 : Int)
  · clear hT hLN
    go_enter Tryd.func3, Tryd.ntmps3
    go_wp2_with fail
    refine (big_yes a0 len0 cap0 _ hbig).mono ?_
    rintro e w1 ⟨rfl, rfl⟩
    go_wp2
    go_ret
    exact ⟨rfl, Below.refl _ _⟩
  have hcode := row_code w0 (by omega)
  have HCODE : Hid (∀ W, Below w.heap.size w W → CodeAt W W.heap.size a0 len0 zc0) := fun W h => (hcode.below h).upTo h.size
  have HT : Hid (∀ W, Below w.heap.size w W → TabOk W) := fun W h => hT.below h
  clear hT
  have HLN : Hid (∀ W, Below w.heap.size w W → LenOk W) := fun W h => hLN.below h hLN.lt
  clear hLN
  have HBIG : Hid (¬ (1048576 : Int) < (len0 : Int)) := hbig
  clear w0 hcode hbig
  have hb0 : Below w.heap.size w w := Below.refl _ _
  go_enter Tryd.func3, Tryd.ntmps3
  go_wp2_with fail
  refine (big_no a0 len0 cap0 _ (by have := HBIG.out; omega)).mono ?_
  rintro e w1 ⟨rfl, hwe⟩
  have bw : Below (w).heap.size (w) w1 := by rw [hwe]; exact Below.refl _ _
  clear hwe
  have hb1 : Below w.heap.size w (w1) := hb0.trans (bw.mono hb0.size)
  have HM1 : Hid ((w).heap.size ≤ (w1).heap.size) := bw.size
  clear hb0 bw
  go_wp2_with fail
  refine (drawBanText_any a0 len0 cap0 zc0 _ (HCODE.out _ hb1)).mono ?_
  rintro e w2 ⟨k, p, b, t, rfl, _, hp, hbz, _, bw⟩
  have HSM : Hid (p.size ≤ 64 ∧ b.size ≤ 64) := ⟨hp, hbz⟩
  obtain ⟨okB, hok⟩ : ∃ u, u = decide (BanP k p b t) := ⟨_, rfl⟩
  have HOK : Hid (okB = decide (BanP k p b t)) := hok
  clear hp hbz hok
  have hb2 : Below w.heap.size w (w2) := hb1.trans (bw.mono hb1.size)
  have HM2 : Hid ((w1).heap.size ≤ (w2).heap.size) := bw.size
  clear hb1 bw
  go_upto_region 4 with fail
  obtain ⟨qv1, hqv1⟩ : ∃ q, q = (w2).heap.size := ⟨_, rfl⟩
  obtain ⟨w3, hW3⟩ : ∃ W, W = (w2).alloc (.cells #[.int .i64 k, .string p, .string b, .int .i64 t] 25) := ⟨_, rfl⟩
  have hz3 : (w2).heap.size = qv1 := hqv1.symm
  first | rw [← hW3, ← hqv1] | rw [← hW3]
  have hs3 : w3.heap.size = qv1 + 1 := by rw [hW3, ← hz3]; simp
  have bw : Below (w2).heap.size (w2) w3 := by rw [hW3]; exact (Below.refl _ _).alloc (Nat.le_refl _) _
  have hb3 : Below w.heap.size w (w3) := hb2.trans (bw.mono hb2.size)
  have HM3 : Hid ((w2).heap.size ≤ (w3).heap.size) := bw.size
  have HBv1_3 : Hid ((w3).heap[qv1]? = some (.cells #[.int .i64 k, .string p, .string b, .int .i64 t] 25)) := by show _ = _; rw [hW3, ← hz3]; exact heap_alloc_new _ _
  have HGv1 : Hid (w.heap.size ≤ qv1) := by show _ ≤ _; rw [← hz3]; exact hb2.size
  clear hb2 bw hW3 hz3
  clear hs3 hqv1
  cases okB with
  | false =>
    have HKK : Hid (¬ BanP k p b t) := (show ¬ BanP k p b t from of_decide_eq_false HOK.out.symm)
    clear HOK
    have cv1_0 : (w3).cell? ⟨qv1, 0, none⟩ = some (.int .i64 k) := (cell_of HBv1_3.out 0).trans rfl
    have cv1_1 : (w3).cell? ⟨qv1, 1, none⟩ = some (.string p) := (cell_of HBv1_3.out 1).trans rfl
    have cv1_2 : (w3).cell? ⟨qv1, 2, none⟩ = some (.string b) := (cell_of HBv1_3.out 2).trans rfl
    have cv1_3 : (w3).cell? ⟨qv1, 3, none⟩ = some (.int .i64 t) := (cell_of HBv1_3.out 3).trans rfl
    go_wp2_with fail
    refine (implBanText_any k p b t _ (by have := HSM.out; unfold maxLen; omega) (by have := HSM.out; unfold maxLen; omega) (HT.out _ hb3)).mono ?_
    rintro e w4 ⟨uu, rfl, _, hu, bw⟩
    obtain rfl : ⟨#[]⟩ = uu := (hu HKK.out).symm
    clear hu
    have hb4 : Below w.heap.size w (w4) := hb3.trans (bw.mono hb3.size)
    have HM4 : Hid ((w3).heap.size ≤ (w4).heap.size) := bw.size
    have HBv1_4 : Hid ((w4).heap[qv1]? = some (.cells #[.int .i64 k, .string p, .string b, .int .i64 t] 25)) := blk_below HBv1_3.out bw
    clear hb3 HBv1_3 bw
    clear cv1_0 cv1_1 cv1_2 cv1_3
    have cv1_0 : (w4).cell? ⟨qv1, 0, none⟩ = some (.int .i64 k) := (cell_of HBv1_4.out 0).trans rfl
    have cv1_1 : (w4).cell? ⟨qv1, 1, none⟩ = some (.string p) := (cell_of HBv1_4.out 1).trans rfl
    have cv1_2 : (w4).cell? ⟨qv1, 2, none⟩ = some (.string b) := (cell_of HBv1_4.out 2).trans rfl
    have cv1_3 : (w4).cell? ⟨qv1, 3, none⟩ = some (.int .i64 t) := (cell_of HBv1_4.out 3).trans rfl
    go_wp2_with fail
    refine (specBanText_any k p b t _ (by have := HSM.out; unfold maxLen; omega) (by have := HSM.out; unfold maxLen; omega)).mono ?_
    rintro e w5 ⟨uu, rfl, _, hu, bw⟩
    obtain rfl : ⟨#[]⟩ = uu := (hu HKK.out).symm
    clear hu
    have hb5 : Below w.heap.size w (w5) := hb4.trans (bw.mono hb4.size)
    have HM5 : Hid ((w4).heap.size ≤ (w5).heap.size) := bw.size
    have HBv1_5 : Hid ((w5).heap[qv1]? = some (.cells #[.int .i64 k, .string p, .string b, .int .i64 t] 25)) := blk_below HBv1_4.out bw
    clear hb4 HBv1_4 bw
    clear cv1_0 cv1_1 cv1_2 cv1_3
    have cv1_0 : (w5).cell? ⟨qv1, 0, none⟩ = some (.int .i64 k) := (cell_of HBv1_5.out 0).trans rfl
    have cv1_1 : (w5).cell? ⟨qv1, 1, none⟩ = some (.string p) := (cell_of HBv1_5.out 1).trans rfl
    have cv1_2 : (w5).cell? ⟨qv1, 2, none⟩ = some (.string b) := (cell_of HBv1_5.out 2).trans rfl
    have cv1_3 : (w5).cell? ⟨qv1, 3, none⟩ = some (.int .i64 t) := (cell_of HBv1_5.out 3).trans rfl
    go_wp2_with fail
    refine (implBanOk_any k p b t _ (by have := HSM.out; unfold maxLen; omega) (by have := HSM.out; unfold maxLen; omega)).mono ?_
    rintro e w6 ⟨bb, rfl, hbb, bw⟩
    obtain rfl : false = bb := by cases bb with
      | false => rfl
      | true => exact absurd (hbb.1 rfl) HKK.out
    clear hbb
    have hb6 : Below w.heap.size w (w6) := hb5.trans (bw.mono hb5.size)
    have HM6 : Hid ((w5).heap.size ≤ (w6).heap.size) := bw.size
    have HBv1_6 : Hid ((w6).heap[qv1]? = some (.cells #[.int .i64 k, .string p, .string b, .int .i64 t] 25)) := blk_below HBv1_5.out bw
    clear hb5 HBv1_5 bw
    clear cv1_0 cv1_1 cv1_2 cv1_3
    go_wp2_with fail
    refine (drawBanRead_any a0 len0 cap0 zc0 _ (HCODE.out _ hb6)).mono ?_
    rintro e w7 ⟨x, rfl, hx, bw⟩
    have HXZ : Hid (x.size ≤ 30000) := hx
    obtain ⟨okR, hok⟩ : ∃ u, u = decide (∃ k p b t, IsBan x k p b t) := ⟨_, rfl⟩
    have HOK2 : Hid (okR = decide (∃ k p b t, IsBan x k p b t)) := hok
    have hxx : (x.toList == x.toList) = true := by simp
    clear hx hok
    have hb7 : Below w.heap.size w (w7) := hb6.trans (bw.mono hb6.size)
    have HM7 : Hid ((w6).heap.size ≤ (w7).heap.size) := bw.size
    have HBv1_7 : Hid ((w7).heap[qv1]? = some (.cells #[.int .i64 k, .string p, .string b, .int .i64 t] 25)) := blk_below HBv1_6.out bw
    clear hb6 HBv1_6 bw
    cases okR with
    | false =>
      have HK2 : Hid (∀ k p b t, ¬ IsBan x k p b t) := fun k p b t h => (show ¬ ∃ k p b t, IsBan x k p b t from of_decide_eq_false HOK2.out.symm) ⟨k, p, b, t, h⟩
      have hqe : ∀ W : World, (binOp .eql 25 (.agg #[.int .i64 0, .string ⟨#[]⟩, .string ⟨#[]⟩, .int .i64 0]) (.agg #[.int .i64 0, .string ⟨#[]⟩, .string ⟨#[]⟩, .int .i64 0])).run Tryd.prog W = .ok (.bool true) W := fun W => by rw [eqlBan]; simp
      have hgz := guardBan
      clear HOK2
      go_wp2_with fail
      refine ((implBanRead_any x _ (by have := HXZ.out; omega) (HT.out _ hb7) (HLN.out _ hb7)).mono (fun _ _ h => banRdF HK2.out h)).mono ?_
      rintro e w8 ⟨rfl, bw⟩
      have hb8 : Below w.heap.size w (w8) := hb7.trans (bw.mono hb7.size)
      have HM8 : Hid ((w7).heap.size ≤ (w8).heap.size) := bw.size
      have HBv1_8 : Hid ((w8).heap[qv1]? = some (.cells #[.int .i64 k, .string p, .string b, .int .i64 t] 25)) := blk_below HBv1_7.out bw
      clear hb7 HBv1_7 bw
      go_upto_region 13 with fail
      obtain ⟨qv2, hqv2⟩ : ∃ q, q = (w8).heap.size := ⟨_, rfl⟩
      obtain ⟨w9, hW9⟩ : ∃ W, W = (w8).alloc (.cells #[.int .i64 0, .string ⟨#[]⟩, .string ⟨#[]⟩, .int .i64 0] 25) := ⟨_, rfl⟩
      have hz9 : (w8).heap.size = qv2 := hqv2.symm
      first | rw [← hW9, ← hqv2] | rw [← hW9]
      have hs9 : w9.heap.size = qv2 + 1 := by rw [hW9, ← hz9]; simp
      have bw : Below (w8).heap.size (w8) w9 := by rw [hW9]; exact (Below.refl _ _).alloc (Nat.le_refl _) _
      have hb9 : Below w.heap.size w (w9) := hb8.trans (bw.mono hb8.size)
      have HM9 : Hid ((w8).heap.size ≤ (w9).heap.size) := bw.size
      have HBv1_9 : Hid ((w9).heap[qv1]? = some (.cells #[.int .i64 k, .string p, .string b, .int .i64 t] 25)) := blk_below HBv1_8.out bw
      have HNv1v2 : Hid (qv1 ≠ qv2) := fun e => by have h1 := (Array.getElem?_eq_some_iff.1 HBv1_8.out).1; omega
      have HBv2_9 : Hid ((w9).heap[qv2]? = some (.cells #[.int .i64 0, .string ⟨#[]⟩, .string ⟨#[]⟩, .int .i64 0] 25)) := by show _ = _; rw [hW9, ← hz9]; exact heap_alloc_new _ _
      have HGv2 : Hid (w.heap.size ≤ qv2) := by show _ ≤ _; rw [← hz9]; exact hb8.size
      clear hb8 HBv1_8 bw hW9 hz9
      clear hs9 hqv2
      go_wp2_with fail
      refine ((specBanRead_any x _ (by have := HXZ.out; omega) ).mono (fun _ _ h => banRdF HK2.out h)).mono ?_
      rintro e w10 ⟨rfl, bw⟩
      have hb10 : Below w.heap.size w (w10) := hb9.trans (bw.mono hb9.size)
      have HM10 : Hid ((w9).heap.size ≤ (w10).heap.size) := bw.size
      have HBv1_10 : Hid ((w10).heap[qv1]? = some (.cells #[.int .i64 k, .string p, .string b, .int .i64 t] 25)) := blk_below HBv1_9.out bw
      have HBv2_10 : Hid ((w10).heap[qv2]? = some (.cells #[.int .i64 0, .string ⟨#[]⟩, .string ⟨#[]⟩, .int .i64 0] 25)) := blk_below HBv2_9.out bw
      clear hb9 HBv1_9 HBv2_9 bw
      go_upto_region 14 with fail
      obtain ⟨qv3, hqv3⟩ : ∃ q, q = (w10).heap.size := ⟨_, rfl⟩
      obtain ⟨w11, hW11⟩ : ∃ W, W = (w10).alloc (.cells #[.int .i64 0, .string ⟨#[]⟩, .string ⟨#[]⟩, .int .i64 0] 25) := ⟨_, rfl⟩
      have hz11 : (w10).heap.size = qv3 := hqv3.symm
      first | rw [← hW11, ← hqv3] | rw [← hW11]
      have hs11 : w11.heap.size = qv3 + 1 := by rw [hW11, ← hz11]; simp
      have bw : Below (w10).heap.size (w10) w11 := by rw [hW11]; exact (Below.refl _ _).alloc (Nat.le_refl _) _
      have hb11 : Below w.heap.size w (w11) := hb10.trans (bw.mono hb10.size)
      have HM11 : Hid ((w10).heap.size ≤ (w11).heap.size) := bw.size
      have HBv1_11 : Hid ((w11).heap[qv1]? = some (.cells #[.int .i64 k, .string p, .string b, .int .i64 t] 25)) := blk_below HBv1_10.out bw
      have HBv2_11 : Hid ((w11).heap[qv2]? = some (.cells #[.int .i64 0, .string ⟨#[]⟩, .string ⟨#[]⟩, .int .i64 0] 25)) := blk_below HBv2_10.out bw
      have HNv1v3 : Hid (qv1 ≠ qv3) := fun e => by have h1 := (Array.getElem?_eq_some_iff.1 HBv1_10.out).1; omega
      have HNv2v3 : Hid (qv2 ≠ qv3) := fun e => by have h1 := (Array.getElem?_eq_some_iff.1 HBv2_10.out).1; omega
      have HBv3_11 : Hid ((w11).heap[qv3]? = some (.cells #[.int .i64 0, .string ⟨#[]⟩, .string ⟨#[]⟩, .int .i64 0] 25)) := by show _ = _; rw [hW11, ← hz11]; exact heap_alloc_new _ _
      have HGv3 : Hid (w.heap.size ≤ qv3) := by show _ ≤ _; rw [← hz11]; exact hb10.size
      clear hb10 HBv1_10 HBv2_10 bw hW11 hz11
      clear hs11 hqv3
      have cv2_0 : (w11).cell? ⟨qv2, 0, none⟩ = some (.int .i64 0) := (cell_of HBv2_11.out 0).trans rfl
      have cv2_1 : (w11).cell? ⟨qv2, 1, none⟩ = some (.string ⟨#[]⟩) := (cell_of HBv2_11.out 1).trans rfl
      have cv2_2 : (w11).cell? ⟨qv2, 2, none⟩ = some (.string ⟨#[]⟩) := (cell_of HBv2_11.out 2).trans rfl
      have cv2_3 : (w11).cell? ⟨qv2, 3, none⟩ = some (.int .i64 0) := (cell_of HBv2_11.out 3).trans rfl
      go_wp2_with fail
      go_ret
      exact ⟨rfl, hb11⟩
    | true =>
      obtain ⟨k2, p2, b2, t2, hK2⟩ := (show ∃ k p b t, IsBan x k p b t from of_decide_eq_true HOK2.out.symm)
      have HK2 : Hid (IsBan x k2 p2 b2 t2) := hK2
      have HSM2 : Hid (p2.size ≤ 64 ∧ b2.size ≤ 64) := by have := hK2.1.a_size; exact ⟨by omega, by omega⟩
      clear hK2 HOK2
      go_wp2_with fail
      refine ((implBanRead_any x _ (by have := HXZ.out; omega) (HT.out _ hb7) (HLN.out _ hb7)).mono (fun _ _ h => banRdT HK2.out h)).mono ?_
      rintro e w8 ⟨rfl, bw⟩
      have hb8 : Below w.heap.size w (w8) := hb7.trans (bw.mono hb7.size)
      have HM8 : Hid ((w7).heap.size ≤ (w8).heap.size) := bw.size
      have HBv1_8 : Hid ((w8).heap[qv1]? = some (.cells #[.int .i64 k, .string p, .string b, .int .i64 t] 25)) := blk_below HBv1_7.out bw
      clear hb7 HBv1_7 bw
      go_upto_region 13 with fail
      obtain ⟨qv2, hqv2⟩ : ∃ q, q = (w8).heap.size := ⟨_, rfl⟩
      obtain ⟨w9, hW9⟩ : ∃ W, W = (w8).alloc (.cells #[.int .i64 k2, .string p2, .string b2, .int .i64 t2] 25) := ⟨_, rfl⟩
      have hz9 : (w8).heap.size = qv2 := hqv2.symm
      first | rw [← hW9, ← hqv2] | rw [← hW9]
      have hs9 : w9.heap.size = qv2 + 1 := by rw [hW9, ← hz9]; simp
      have bw : Below (w8).heap.size (w8) w9 := by rw [hW9]; exact (Below.refl _ _).alloc (Nat.le_refl _) _
      have hb9 : Below w.heap.size w (w9) := hb8.trans (bw.mono hb8.size)
      have HM9 : Hid ((w8).heap.size ≤ (w9).heap.size) := bw.size
      have HBv1_9 : Hid ((w9).heap[qv1]? = some (.cells #[.int .i64 k, .string p, .string b, .int .i64 t] 25)) := blk_below HBv1_8.out bw
      have HNv1v2 : Hid (qv1 ≠ qv2) := fun e => by have h1 := (Array.getElem?_eq_some_iff.1 HBv1_8.out).1; omega
      have HBv2_9 : Hid ((w9).heap[qv2]? = some (.cells #[.int .i64 k2, .string p2, .string b2, .int .i64 t2] 25)) := by show _ = _; rw [hW9, ← hz9]; exact heap_alloc_new _ _
      have HGv2 : Hid (w.heap.size ≤ qv2) := by show _ ≤ _; rw [← hz9]; exact hb8.size
      clear hb8 HBv1_8 bw hW9 hz9
      clear hs9 hqv2
      go_wp2_with fail
      refine ((specBanRead_any x _ (by have := HXZ.out; omega) ).mono (fun _ _ h => banRdT HK2.out h)).mono ?_
      rintro e w10 ⟨rfl, bw⟩
      have hb10 : Below w.heap.size w (w10) := hb9.trans (bw.mono hb9.size)
      have HM10 : Hid ((w9).heap.size ≤ (w10).heap.size) := bw.size
      have HBv1_10 : Hid ((w10).heap[qv1]? = some (.cells #[.int .i64 k, .string p, .string b, .int .i64 t] 25)) := blk_below HBv1_9.out bw
      have HBv2_10 : Hid ((w10).heap[qv2]? = some (.cells #[.int .i64 k2, .string p2, .string b2, .int .i64 t2] 25)) := blk_below HBv2_9.out bw
      clear hb9 HBv1_9 HBv2_9 bw
      go_upto_region 14 with fail
      obtain ⟨qv3, hqv3⟩ : ∃ q, q = (w10).heap.size := ⟨_, rfl⟩
      obtain ⟨w11, hW11⟩ : ∃ W, W = (w10).alloc (.cells #[.int .i64 k2, .string p2, .string b2, .int .i64 t2] 25) := ⟨_, rfl⟩
      have hz11 : (w10).heap.size = qv3 := hqv3.symm
      first | rw [← hW11, ← hqv3] | rw [← hW11]
      have hs11 : w11.heap.size = qv3 + 1 := by rw [hW11, ← hz11]; simp
      have bw : Below (w10).heap.size (w10) w11 := by rw [hW11]; exact (Below.refl _ _).alloc (Nat.le_refl _) _
      have hb11 : Below w.heap.size w (w11) := hb10.trans (bw.mono hb10.size)
      have HM11 : Hid ((w10).heap.size ≤ (w11).heap.size) := bw.size
      have HBv1_11 : Hid ((w11).heap[qv1]? = some (.cells #[.int .i64 k, .string p, .string b, .int .i64 t] 25)) := blk_below HBv1_10.out bw
      have HBv2_11 : Hid ((w11).heap[qv2]? = some (.cells #[.int .i64 k2, .string p2, .string b2, .int .i64 t2] 25)) := blk_below HBv2_10.out bw
      have HNv1v3 : Hid (qv1 ≠ qv3) := fun e => by have h1 := (Array.getElem?_eq_some_iff.1 HBv1_10.out).1; omega
      have HNv2v3 : Hid (qv2 ≠ qv3) := fun e => by have h1 := (Array.getElem?_eq_some_iff.1 HBv2_10.out).1; omega
      have HBv3_11 : Hid ((w11).heap[qv3]? = some (.cells #[.int .i64 k2, .string p2, .string b2, .int .i64 t2] 25)) := by show _ = _; rw [hW11, ← hz11]; exact heap_alloc_new _ _
      have HGv3 : Hid (w.heap.size ≤ qv3) := by show _ ≤ _; rw [← hz11]; exact hb10.size
      clear hb10 HBv1_10 HBv2_10 bw hW11 hz11
      clear hs11 hqv3
      have cv2_0 : (w11).cell? ⟨qv2, 0, none⟩ = some (.int .i64 k2) := (cell_of HBv2_11.out 0).trans rfl
      have cv2_1 : (w11).cell? ⟨qv2, 1, none⟩ = some (.string p2) := (cell_of HBv2_11.out 1).trans rfl
      have cv2_2 : (w11).cell? ⟨qv2, 2, none⟩ = some (.string b2) := (cell_of HBv2_11.out 2).trans rfl
      have cv2_3 : (w11).cell? ⟨qv2, 3, none⟩ = some (.int .i64 t2) := (cell_of HBv2_11.out 3).trans rfl
      go_wp2_with fail
      refine (implBanText_any k2 p2 b2 t2 _ (by have := HSM2.out; unfold maxLen; omega) (by have := HSM2.out; unfold maxLen; omega) (HT.out _ hb11)).mono ?_
      rintro e w12 ⟨uu, rfl, hu, _, bw⟩
      obtain rfl : x = uu := HK2.out.2.symm.trans (hu HK2.out.1).symm
      clear hu
      have hb12 : Below w.heap.size w (w12) := hb11.trans (bw.mono hb11.size)
      have HM12 : Hid ((w11).heap.size ≤ (w12).heap.size) := bw.size
      have HBv1_12 : Hid ((w12).heap[qv1]? = some (.cells #[.int .i64 k, .string p, .string b, .int .i64 t] 25)) := blk_below HBv1_11.out bw
      have HBv2_12 : Hid ((w12).heap[qv2]? = some (.cells #[.int .i64 k2, .string p2, .string b2, .int .i64 t2] 25)) := blk_below HBv2_11.out bw
      have HBv3_12 : Hid ((w12).heap[qv3]? = some (.cells #[.int .i64 k2, .string p2, .string b2, .int .i64 t2] 25)) := blk_below HBv3_11.out bw
      clear hb11 HBv1_11 HBv2_11 HBv3_11 bw
      clear cv2_0 cv2_1 cv2_2 cv2_3
      go_wp2_with fail
      go_ret
      exact ⟨rfl, hb12⟩
  | true =>
    have HKK : Hid (BanP k p b t) := (show BanP k p b t from of_decide_eq_true HOK.out.symm)
    obtain ⟨BT, hBT⟩ : ∃ r, r = banT k p b t := ⟨_, rfl⟩
    have HBT : Hid (BT = banT k p b t) := hBT
    have HKI : Hid (IsBan BT k p b t) := ⟨HKK.out, HBT.out.symm⟩
    have HBTZ : Hid (BT.size ≤ 3000000) := by
      show _ ≤ _
      rw [hBT]
      exact Nat.le_trans (ban_small HKK.out) (by decide)
    have hoe : BT.toList.isEmpty = false := isEmpty_no (by rw [hBT]; exact Nat.le_trans (by decide) (ban_pos k p b t))
    have hoo : (BT.toList != BT.toList) = false := by simp
    have hqn : ∀ W : World, (binOp .neq 25 (.agg #[.int .i64 k, .string p, .string b, .int .i64 t]) (.agg #[.int .i64 k, .string p, .string b, .int .i64 t])).run Tryd.prog W = .ok (.bool false) W := fun W => by rw [neqBan]; simp
    have hgb := guardBan
    clear hBT HOK
    have cv1_0 : (w3).cell? ⟨qv1, 0, none⟩ = some (.int .i64 k) := (cell_of HBv1_3.out 0).trans rfl
    have cv1_1 : (w3).cell? ⟨qv1, 1, none⟩ = some (.string p) := (cell_of HBv1_3.out 1).trans rfl
    have cv1_2 : (w3).cell? ⟨qv1, 2, none⟩ = some (.string b) := (cell_of HBv1_3.out 2).trans rfl
    have cv1_3 : (w3).cell? ⟨qv1, 3, none⟩ = some (.int .i64 t) := (cell_of HBv1_3.out 3).trans rfl
    go_wp2_with fail
    refine (implBanText_any k p b t _ (by have := HSM.out; unfold maxLen; omega) (by have := HSM.out; unfold maxLen; omega) (HT.out _ hb3)).mono ?_
    rintro e w4 ⟨uu, rfl, hu, _, bw⟩
    obtain rfl : BT = uu := HBT.out.trans (hu HKK.out).symm
    clear hu
    have hb4 : Below w.heap.size w (w4) := hb3.trans (bw.mono hb3.size)
    have HM4 : Hid ((w3).heap.size ≤ (w4).heap.size) := bw.size
    have HBv1_4 : Hid ((w4).heap[qv1]? = some (.cells #[.int .i64 k, .string p, .string b, .int .i64 t] 25)) := blk_below HBv1_3.out bw
    clear hb3 HBv1_3 bw
    clear cv1_0 cv1_1 cv1_2 cv1_3
    have cv1_0 : (w4).cell? ⟨qv1, 0, none⟩ = some (.int .i64 k) := (cell_of HBv1_4.out 0).trans rfl
    have cv1_1 : (w4).cell? ⟨qv1, 1, none⟩ = some (.string p) := (cell_of HBv1_4.out 1).trans rfl
    have cv1_2 : (w4).cell? ⟨qv1, 2, none⟩ = some (.string b) := (cell_of HBv1_4.out 2).trans rfl
    have cv1_3 : (w4).cell? ⟨qv1, 3, none⟩ = some (.int .i64 t) := (cell_of HBv1_4.out 3).trans rfl
    go_wp2_with fail
    refine (specBanText_any k p b t _ (by have := HSM.out; unfold maxLen; omega) (by have := HSM.out; unfold maxLen; omega)).mono ?_
    rintro e w5 ⟨uu, rfl, hu, _, bw⟩
    obtain rfl : BT = uu := HBT.out.trans (hu HKK.out).symm
    clear hu
    have hb5 : Below w.heap.size w (w5) := hb4.trans (bw.mono hb4.size)
    have HM5 : Hid ((w4).heap.size ≤ (w5).heap.size) := bw.size
    have HBv1_5 : Hid ((w5).heap[qv1]? = some (.cells #[.int .i64 k, .string p, .string b, .int .i64 t] 25)) := blk_below HBv1_4.out bw
    clear hb4 HBv1_4 bw
    clear cv1_0 cv1_1 cv1_2 cv1_3
    have cv1_0 : (w5).cell? ⟨qv1, 0, none⟩ = some (.int .i64 k) := (cell_of HBv1_5.out 0).trans rfl
    have cv1_1 : (w5).cell? ⟨qv1, 1, none⟩ = some (.string p) := (cell_of HBv1_5.out 1).trans rfl
    have cv1_2 : (w5).cell? ⟨qv1, 2, none⟩ = some (.string b) := (cell_of HBv1_5.out 2).trans rfl
    have cv1_3 : (w5).cell? ⟨qv1, 3, none⟩ = some (.int .i64 t) := (cell_of HBv1_5.out 3).trans rfl
    go_wp2_with fail
    refine (implBanOk_any k p b t _ (by have := HSM.out; unfold maxLen; omega) (by have := HSM.out; unfold maxLen; omega)).mono ?_
    rintro e w6 ⟨bb, rfl, hbb, bw⟩
    obtain rfl : true = bb := (hbb.2 HKK.out).symm
    clear hbb
    have hb6 : Below w.heap.size w (w6) := hb5.trans (bw.mono hb5.size)
    have HM6 : Hid ((w5).heap.size ≤ (w6).heap.size) := bw.size
    have HBv1_6 : Hid ((w6).heap[qv1]? = some (.cells #[.int .i64 k, .string p, .string b, .int .i64 t] 25)) := blk_below HBv1_5.out bw
    clear hb5 HBv1_5 bw
    clear cv1_0 cv1_1 cv1_2 cv1_3
    go_wp2_with fail
    refine ((implBanRead_any BT _ HBTZ.out (HT.out _ hb6) (HLN.out _ hb6)).mono (fun _ _ h => banRdT HKI.out h)).mono ?_
    rintro e w7 ⟨rfl, bw⟩
    have hb7 : Below w.heap.size w (w7) := hb6.trans (bw.mono hb6.size)
    have HM7 : Hid ((w6).heap.size ≤ (w7).heap.size) := bw.size
    have HBv1_7 : Hid ((w7).heap[qv1]? = some (.cells #[.int .i64 k, .string p, .string b, .int .i64 t] 25)) := blk_below HBv1_6.out bw
    clear hb6 HBv1_6 bw
    go_upto_region 9 with fail
    obtain ⟨qv2, hqv2⟩ : ∃ q, q = (w7).heap.size := ⟨_, rfl⟩
    obtain ⟨w8, hW8⟩ : ∃ W, W = (w7).alloc (.cells #[.int .i64 k, .string p, .string b, .int .i64 t] 25) := ⟨_, rfl⟩
    have hz8 : (w7).heap.size = qv2 := hqv2.symm
    first | rw [← hW8, ← hqv2] | rw [← hW8]
    have hs8 : w8.heap.size = qv2 + 1 := by rw [hW8, ← hz8]; simp
    have bw : Below (w7).heap.size (w7) w8 := by rw [hW8]; exact (Below.refl _ _).alloc (Nat.le_refl _) _
    have hb8 : Below w.heap.size w (w8) := hb7.trans (bw.mono hb7.size)
    have HM8 : Hid ((w7).heap.size ≤ (w8).heap.size) := bw.size
    have HBv1_8 : Hid ((w8).heap[qv1]? = some (.cells #[.int .i64 k, .string p, .string b, .int .i64 t] 25)) := blk_below HBv1_7.out bw
    have HNv1v2 : Hid (qv1 ≠ qv2) := fun e => by have h1 := (Array.getElem?_eq_some_iff.1 HBv1_7.out).1; omega
    have HBv2_8 : Hid ((w8).heap[qv2]? = some (.cells #[.int .i64 k, .string p, .string b, .int .i64 t] 25)) := by show _ = _; rw [hW8, ← hz8]; exact heap_alloc_new _ _
    have HGv2 : Hid (w.heap.size ≤ qv2) := by show _ ≤ _; rw [← hz8]; exact hb7.size
    clear hb7 HBv1_7 bw hW8 hz8
    clear hs8 hqv2
    have cv1_0 : (w8).cell? ⟨qv1, 0, none⟩ = some (.int .i64 k) := (cell_of HBv1_8.out 0).trans rfl
    have cv1_1 : (w8).cell? ⟨qv1, 1, none⟩ = some (.string p) := (cell_of HBv1_8.out 1).trans rfl
    have cv1_2 : (w8).cell? ⟨qv1, 2, none⟩ = some (.string b) := (cell_of HBv1_8.out 2).trans rfl
    have cv1_3 : (w8).cell? ⟨qv1, 3, none⟩ = some (.int .i64 t) := (cell_of HBv1_8.out 3).trans rfl
    have cv2_0 : (w8).cell? ⟨qv2, 0, none⟩ = some (.int .i64 k) := (cell_of HBv2_8.out 0).trans rfl
    have cv2_1 : (w8).cell? ⟨qv2, 1, none⟩ = some (.string p) := (cell_of HBv2_8.out 1).trans rfl
    have cv2_2 : (w8).cell? ⟨qv2, 2, none⟩ = some (.string b) := (cell_of HBv2_8.out 2).trans rfl
    have cv2_3 : (w8).cell? ⟨qv2, 3, none⟩ = some (.int .i64 t) := (cell_of HBv2_8.out 3).trans rfl
    go_wp2_with fail
    refine (drawBanRead_any a0 len0 cap0 zc0 _ (HCODE.out _ hb8)).mono ?_
    rintro e w9 ⟨x, rfl, hx, bw⟩
    have HXZ : Hid (x.size ≤ 30000) := hx
    obtain ⟨okR, hok⟩ : ∃ u, u = decide (∃ k p b t, IsBan x k p b t) := ⟨_, rfl⟩
    have HOK2 : Hid (okR = decide (∃ k p b t, IsBan x k p b t)) := hok
    have hxx : (x.toList == x.toList) = true := by simp
    clear hx hok
    have hb9 : Below w.heap.size w (w9) := hb8.trans (bw.mono hb8.size)
    have HM9 : Hid ((w8).heap.size ≤ (w9).heap.size) := bw.size
    have HBv1_9 : Hid ((w9).heap[qv1]? = some (.cells #[.int .i64 k, .string p, .string b, .int .i64 t] 25)) := blk_below HBv1_8.out bw
    have HBv2_9 : Hid ((w9).heap[qv2]? = some (.cells #[.int .i64 k, .string p, .string b, .int .i64 t] 25)) := blk_below HBv2_8.out bw
    clear hb8 HBv1_8 HBv2_8 bw
    clear cv1_0 cv1_1 cv1_2 cv1_3 cv2_0 cv2_1 cv2_2 cv2_3
    cases okR with
    | false =>
      have HK2 : Hid (∀ k p b t, ¬ IsBan x k p b t) := fun k p b t h => (show ¬ ∃ k p b t, IsBan x k p b t from of_decide_eq_false HOK2.out.symm) ⟨k, p, b, t, h⟩
      have hqe : ∀ W : World, (binOp .eql 25 (.agg #[.int .i64 0, .string ⟨#[]⟩, .string ⟨#[]⟩, .int .i64 0]) (.agg #[.int .i64 0, .string ⟨#[]⟩, .string ⟨#[]⟩, .int .i64 0])).run Tryd.prog W = .ok (.bool true) W := fun W => by rw [eqlBan]; simp
      have hgz := guardBan
      clear HOK2
      go_wp2_with fail
      refine ((implBanRead_any x _ (by have := HXZ.out; omega) (HT.out _ hb9) (HLN.out _ hb9)).mono (fun _ _ h => banRdF HK2.out h)).mono ?_
      rintro e w10 ⟨rfl, bw⟩
      have hb10 : Below w.heap.size w (w10) := hb9.trans (bw.mono hb9.size)
      have HM10 : Hid ((w9).heap.size ≤ (w10).heap.size) := bw.size
      have HBv1_10 : Hid ((w10).heap[qv1]? = some (.cells #[.int .i64 k, .string p, .string b, .int .i64 t] 25)) := blk_below HBv1_9.out bw
      have HBv2_10 : Hid ((w10).heap[qv2]? = some (.cells #[.int .i64 k, .string p, .string b, .int .i64 t] 25)) := blk_below HBv2_9.out bw
      clear hb9 HBv1_9 HBv2_9 bw
      go_upto_region 13 with fail
      obtain ⟨qv3, hqv3⟩ : ∃ q, q = (w10).heap.size := ⟨_, rfl⟩
      obtain ⟨w11, hW11⟩ : ∃ W, W = (w10).alloc (.cells #[.int .i64 0, .string ⟨#[]⟩, .string ⟨#[]⟩, .int .i64 0] 25) := ⟨_, rfl⟩
      have hz11 : (w10).heap.size = qv3 := hqv3.symm
      first | rw [← hW11, ← hqv3] | rw [← hW11]
      have hs11 : w11.heap.size = qv3 + 1 := by rw [hW11, ← hz11]; simp
      have bw : Below (w10).heap.size (w10) w11 := by rw [hW11]; exact (Below.refl _ _).alloc (Nat.le_refl _) _
      have hb11 : Below w.heap.size w (w11) := hb10.trans (bw.mono hb10.size)
      have HM11 : Hid ((w10).heap.size ≤ (w11).heap.size) := bw.size
      have HBv1_11 : Hid ((w11).heap[qv1]? = some (.cells #[.int .i64 k, .string p, .string b, .int .i64 t] 25)) := blk_below HBv1_10.out bw
      have HBv2_11 : Hid ((w11).heap[qv2]? = some (.cells #[.int .i64 k, .string p, .string b, .int .i64 t] 25)) := blk_below HBv2_10.out bw
      have HNv1v3 : Hid (qv1 ≠ qv3) := fun e => by have h1 := (Array.getElem?_eq_some_iff.1 HBv1_10.out).1; omega
      have HNv2v3 : Hid (qv2 ≠ qv3) := fun e => by have h1 := (Array.getElem?_eq_some_iff.1 HBv2_10.out).1; omega
      have HBv3_11 : Hid ((w11).heap[qv3]? = some (.cells #[.int .i64 0, .string ⟨#[]⟩, .string ⟨#[]⟩, .int .i64 0] 25)) := by show _ = _; rw [hW11, ← hz11]; exact heap_alloc_new _ _
      have HGv3 : Hid (w.heap.size ≤ qv3) := by show _ ≤ _; rw [← hz11]; exact hb10.size
      clear hb10 HBv1_10 HBv2_10 bw hW11 hz11
      clear hs11 hqv3
      go_wp2_with fail
      refine ((specBanRead_any x _ (by have := HXZ.out; omega) ).mono (fun _ _ h => banRdF HK2.out h)).mono ?_
      rintro e w12 ⟨rfl, bw⟩
      have hb12 : Below w.heap.size w (w12) := hb11.trans (bw.mono hb11.size)
      have HM12 : Hid ((w11).heap.size ≤ (w12).heap.size) := bw.size
      have HBv1_12 : Hid ((w12).heap[qv1]? = some (.cells #[.int .i64 k, .string p, .string b, .int .i64 t] 25)) := blk_below HBv1_11.out bw
      have HBv2_12 : Hid ((w12).heap[qv2]? = some (.cells #[.int .i64 k, .string p, .string b, .int .i64 t] 25)) := blk_below HBv2_11.out bw
      have HBv3_12 : Hid ((w12).heap[qv3]? = some (.cells #[.int .i64 0, .string ⟨#[]⟩, .string ⟨#[]⟩, .int .i64 0] 25)) := blk_below HBv3_11.out bw
      clear hb11 HBv1_11 HBv2_11 HBv3_11 bw
      go_upto_region 14 with fail
      obtain ⟨qv4, hqv4⟩ : ∃ q, q = (w12).heap.size := ⟨_, rfl⟩
      obtain ⟨w13, hW13⟩ : ∃ W, W = (w12).alloc (.cells #[.int .i64 0, .string ⟨#[]⟩, .string ⟨#[]⟩, .int .i64 0] 25) := ⟨_, rfl⟩
      have hz13 : (w12).heap.size = qv4 := hqv4.symm
      first | rw [← hW13, ← hqv4] | rw [← hW13]
      have hs13 : w13.heap.size = qv4 + 1 := by rw [hW13, ← hz13]; simp
      have bw : Below (w12).heap.size (w12) w13 := by rw [hW13]; exact (Below.refl _ _).alloc (Nat.le_refl _) _
      have hb13 : Below w.heap.size w (w13) := hb12.trans (bw.mono hb12.size)
      have HM13 : Hid ((w12).heap.size ≤ (w13).heap.size) := bw.size
      have HBv1_13 : Hid ((w13).heap[qv1]? = some (.cells #[.int .i64 k, .string p, .string b, .int .i64 t] 25)) := blk_below HBv1_12.out bw
      have HBv2_13 : Hid ((w13).heap[qv2]? = some (.cells #[.int .i64 k, .string p, .string b, .int .i64 t] 25)) := blk_below HBv2_12.out bw
      have HBv3_13 : Hid ((w13).heap[qv3]? = some (.cells #[.int .i64 0, .string ⟨#[]⟩, .string ⟨#[]⟩, .int .i64 0] 25)) := blk_below HBv3_12.out bw
      have HNv1v4 : Hid (qv1 ≠ qv4) := fun e => by have h1 := (Array.getElem?_eq_some_iff.1 HBv1_12.out).1; omega
      have HNv2v4 : Hid (qv2 ≠ qv4) := fun e => by have h1 := (Array.getElem?_eq_some_iff.1 HBv2_12.out).1; omega
      have HNv3v4 : Hid (qv3 ≠ qv4) := fun e => by have h1 := (Array.getElem?_eq_some_iff.1 HBv3_12.out).1; omega
      have HBv4_13 : Hid ((w13).heap[qv4]? = some (.cells #[.int .i64 0, .string ⟨#[]⟩, .string ⟨#[]⟩, .int .i64 0] 25)) := by show _ = _; rw [hW13, ← hz13]; exact heap_alloc_new _ _
      have HGv4 : Hid (w.heap.size ≤ qv4) := by show _ ≤ _; rw [← hz13]; exact hb12.size
      clear hb12 HBv1_12 HBv2_12 HBv3_12 bw hW13 hz13
      clear hs13 hqv4
      have cv3_0 : (w13).cell? ⟨qv3, 0, none⟩ = some (.int .i64 0) := (cell_of HBv3_13.out 0).trans rfl
      have cv3_1 : (w13).cell? ⟨qv3, 1, none⟩ = some (.string ⟨#[]⟩) := (cell_of HBv3_13.out 1).trans rfl
      have cv3_2 : (w13).cell? ⟨qv3, 2, none⟩ = some (.string ⟨#[]⟩) := (cell_of HBv3_13.out 2).trans rfl
      have cv3_3 : (w13).cell? ⟨qv3, 3, none⟩ = some (.int .i64 0) := (cell_of HBv3_13.out 3).trans rfl
      go_wp2_with fail
      go_ret
      exact ⟨rfl, hb13⟩
    | true =>
      obtain ⟨k2, p2, b2, t2, hK2⟩ := (show ∃ k p b t, IsBan x k p b t from of_decide_eq_true HOK2.out.symm)
      have HK2 : Hid (IsBan x k2 p2 b2 t2) := hK2
      have HSM2 : Hid (p2.size ≤ 64 ∧ b2.size ≤ 64) := by have := hK2.1.a_size; exact ⟨by omega, by omega⟩
      clear hK2 HOK2
      go_wp2_with fail
      refine ((implBanRead_any x _ (by have := HXZ.out; omega) (HT.out _ hb9) (HLN.out _ hb9)).mono (fun _ _ h => banRdT HK2.out h)).mono ?_
      rintro e w10 ⟨rfl, bw⟩
      have hb10 : Below w.heap.size w (w10) := hb9.trans (bw.mono hb9.size)
      have HM10 : Hid ((w9).heap.size ≤ (w10).heap.size) := bw.size
      have HBv1_10 : Hid ((w10).heap[qv1]? = some (.cells #[.int .i64 k, .string p, .string b, .int .i64 t] 25)) := blk_below HBv1_9.out bw
      have HBv2_10 : Hid ((w10).heap[qv2]? = some (.cells #[.int .i64 k, .string p, .string b, .int .i64 t] 25)) := blk_below HBv2_9.out bw
      clear hb9 HBv1_9 HBv2_9 bw
      go_upto_region 13 with fail
      obtain ⟨qv3, hqv3⟩ : ∃ q, q = (w10).heap.size := ⟨_, rfl⟩
      obtain ⟨w11, hW11⟩ : ∃ W, W = (w10).alloc (.cells #[.int .i64 k2, .string p2, .string b2, .int .i64 t2] 25) := ⟨_, rfl⟩
      have hz11 : (w10).heap.size = qv3 := hqv3.symm
      first | rw [← hW11, ← hqv3] | rw [← hW11]
      have hs11 : w11.heap.size = qv3 + 1 := by rw [hW11, ← hz11]; simp
      have bw : Below (w10).heap.size (w10) w11 := by rw [hW11]; exact (Below.refl _ _).alloc (Nat.le_refl _) _
      have hb11 : Below w.heap.size w (w11) := hb10.trans (bw.mono hb10.size)
      have HM11 : Hid ((w10).heap.size ≤ (w11).heap.size) := bw.size
      have HBv1_11 : Hid ((w11).heap[qv1]? = some (.cells #[.int .i64 k, .string p, .string b, .int .i64 t] 25)) := blk_below HBv1_10.out bw
      have HBv2_11 : Hid ((w11).heap[qv2]? = some (.cells #[.int .i64 k, .string p, .string b, .int .i64 t] 25)) := blk_below HBv2_10.out bw
      have HNv1v3 : Hid (qv1 ≠ qv3) := fun e => by have h1 := (Array.getElem?_eq_some_iff.1 HBv1_10.out).1; omega
      have HNv2v3 : Hid (qv2 ≠ qv3) := fun e => by have h1 := (Array.getElem?_eq_some_iff.1 HBv2_10.out).1; omega
      have HBv3_11 : Hid ((w11).heap[qv3]? = some (.cells #[.int .i64 k2, .string p2, .string b2, .int .i64 t2] 25)) := by show _ = _; rw [hW11, ← hz11]; exact heap_alloc_new _ _
      have HGv3 : Hid (w.heap.size ≤ qv3) := by show _ ≤ _; rw [← hz11]; exact hb10.size
      clear hb10 HBv1_10 HBv2_10 bw hW11 hz11
      clear hs11 hqv3
      go_wp2_with fail
      refine ((specBanRead_any x _ (by have := HXZ.out; omega) ).mono (fun _ _ h => banRdT HK2.out h)).mono ?_
      rintro e w12 ⟨rfl, bw⟩
      have hb12 : Below w.heap.size w (w12) := hb11.trans (bw.mono hb11.size)
      have HM12 : Hid ((w11).heap.size ≤ (w12).heap.size) := bw.size
      have HBv1_12 : Hid ((w12).heap[qv1]? = some (.cells #[.int .i64 k, .string p, .string b, .int .i64 t] 25)) := blk_below HBv1_11.out bw
      have HBv2_12 : Hid ((w12).heap[qv2]? = some (.cells #[.int .i64 k, .string p, .string b, .int .i64 t] 25)) := blk_below HBv2_11.out bw
      have HBv3_12 : Hid ((w12).heap[qv3]? = some (.cells #[.int .i64 k2, .string p2, .string b2, .int .i64 t2] 25)) := blk_below HBv3_11.out bw
      clear hb11 HBv1_11 HBv2_11 HBv3_11 bw
      go_upto_region 14 with fail
      obtain ⟨qv4, hqv4⟩ : ∃ q, q = (w12).heap.size := ⟨_, rfl⟩
      obtain ⟨w13, hW13⟩ : ∃ W, W = (w12).alloc (.cells #[.int .i64 k2, .string p2, .string b2, .int .i64 t2] 25) := ⟨_, rfl⟩
      have hz13 : (w12).heap.size = qv4 := hqv4.symm
      first | rw [← hW13, ← hqv4] | rw [← hW13]
      have hs13 : w13.heap.size = qv4 + 1 := by rw [hW13, ← hz13]; simp
      have bw : Below (w12).heap.size (w12) w13 := by rw [hW13]; exact (Below.refl _ _).alloc (Nat.le_refl _) _
      have hb13 : Below w.heap.size w (w13) := hb12.trans (bw.mono hb12.size)
      have HM13 : Hid ((w12).heap.size ≤ (w13).heap.size) := bw.size
      have HBv1_13 : Hid ((w13).heap[qv1]? = some (.cells #[.int .i64 k, .string p, .string b, .int .i64 t] 25)) := blk_below HBv1_12.out bw
      have HBv2_13 : Hid ((w13).heap[qv2]? = some (.cells #[.int .i64 k, .string p, .string b, .int .i64 t] 25)) := blk_below HBv2_12.out bw
      have HBv3_13 : Hid ((w13).heap[qv3]? = some (.cells #[.int .i64 k2, .string p2, .string b2, .int .i64 t2] 25)) := blk_below HBv3_12.out bw
      have HNv1v4 : Hid (qv1 ≠ qv4) := fun e => by have h1 := (Array.getElem?_eq_some_iff.1 HBv1_12.out).1; omega
      have HNv2v4 : Hid (qv2 ≠ qv4) := fun e => by have h1 := (Array.getElem?_eq_some_iff.1 HBv2_12.out).1; omega
      have HNv3v4 : Hid (qv3 ≠ qv4) := fun e => by have h1 := (Array.getElem?_eq_some_iff.1 HBv3_12.out).1; omega
      have HBv4_13 : Hid ((w13).heap[qv4]? = some (.cells #[.int .i64 k2, .string p2, .string b2, .int .i64 t2] 25)) := by show _ = _; rw [hW13, ← hz13]; exact heap_alloc_new _ _
      have HGv4 : Hid (w.heap.size ≤ qv4) := by show _ ≤ _; rw [← hz13]; exact hb12.size
      clear hb12 HBv1_12 HBv2_12 HBv3_12 bw hW13 hz13
      clear hs13 hqv4
      have cv3_0 : (w13).cell? ⟨qv3, 0, none⟩ = some (.int .i64 k2) := (cell_of HBv3_13.out 0).trans rfl
      have cv3_1 : (w13).cell? ⟨qv3, 1, none⟩ = some (.string p2) := (cell_of HBv3_13.out 1).trans rfl
      have cv3_2 : (w13).cell? ⟨qv3, 2, none⟩ = some (.string b2) := (cell_of HBv3_13.out 2).trans rfl
      have cv3_3 : (w13).cell? ⟨qv3, 3, none⟩ = some (.int .i64 t2) := (cell_of HBv3_13.out 3).trans rfl
      go_wp2_with fail
      refine (implBanText_any k2 p2 b2 t2 _ (by have := HSM2.out; unfold maxLen; omega) (by have := HSM2.out; unfold maxLen; omega) (HT.out _ hb13)).mono ?_
      rintro e w14 ⟨uu, rfl, hu, _, bw⟩
      obtain rfl : x = uu := HK2.out.2.symm.trans (hu HK2.out.1).symm
      clear hu
      have hb14 : Below w.heap.size w (w14) := hb13.trans (bw.mono hb13.size)
      have HM14 : Hid ((w13).heap.size ≤ (w14).heap.size) := bw.size
      have HBv1_14 : Hid ((w14).heap[qv1]? = some (.cells #[.int .i64 k, .string p, .string b, .int .i64 t] 25)) := blk_below HBv1_13.out bw
      have HBv2_14 : Hid ((w14).heap[qv2]? = some (.cells #[.int .i64 k, .string p, .string b, .int .i64 t] 25)) := blk_below HBv2_13.out bw
      have HBv3_14 : Hid ((w14).heap[qv3]? = some (.cells #[.int .i64 k2, .string p2, .string b2, .int .i64 t2] 25)) := blk_below HBv3_13.out bw
      have HBv4_14 : Hid ((w14).heap[qv4]? = some (.cells #[.int .i64 k2, .string p2, .string b2, .int .i64 t2] 25)) := blk_below HBv4_13.out bw
      clear hb13 HBv1_13 HBv2_13 HBv3_13 HBv4_13 bw
      clear cv3_0 cv3_1 cv3_2 cv3_3
      go_wp2_with fail
      go_ret
      exact ⟨rfl, hb14⟩

set_option maxRecDepth 100000 in
theorem contract (H : Type) (enc : TypeId × Value → H) (W : World) (base : Nat) (args : Array Value) (ds gs : List (DataW H)) (before : List MemPlace)
    (hval : ∀ (j : Nat) t v, Tryd.f3.params[j]? = some t → args[j]? = some v → Value.okWide Tryd.prog W .any base t v)
    (hW : DataW.Whole enc Tryd.prog Tryd.f3.params.toList Rows.fnBansSpec.vars false W args.toList ds gs before) (hL : laidMetH Tryd.prog Rows.fnBansRow.laid W) (hSh : W.ShapedOpen Tryd.prog) :
    Calls Tryd.prog 3 args W fun e W' => ∃ v, e = .returned v ∧ Rows.fnBansSpec.post enc Tryd.prog Tryd.f3 false true false false W args v W' := by
  have hT : TabOk W := table hL
  have hLN : LenOk W := Tryd.laysM145.s1_3 W hSh
  have hW' := hW
  obtain ⟨p, q, hA0, hV, rfl, hfz, hnd⟩ := hW
  have hA : DataW.TrodAll enc Tryd.prog W 0 (fun _ => true) true Tryd.f3.params.toList args.toList ds p := hA0
  rw [Tryd.params3] at hA hval
  obtain ⟨v0, vs0, d0, ds0, p0, q0, hargs, rfl, rfl, h0, r0⟩ := trodAll_cons hA
  obtain ⟨rfl, rfl, rfl⟩ := trodAll_nil r0
  obtain rfl : args = #[v0] := by cases args; simp_all
  obtain ⟨rfl, rfl⟩ := trodVars_none hV
  obtain ⟨a0, len0, cap0, rfl⟩ := okWide_slice Tryd.underlying22 (hval 0 22 v0 rfl rfl)
  have k0 := h0
  have lt0 : ∀ x ∈ p0, x.block < W.heap.size := by obtain ⟨m, hm⟩ := k0; exact DataW.trod_lt m _ _ _ hm
  obtain ⟨z0, w0⟩ : ∃ zs, IsRow .u8 W a0 len0 cap0 zs := by
    obtain ⟨fuel, hf⟩ := h0
    rcases open_ints Tryd.underlying22 Tryd.underlying5 (by kernel_rfl) hf with ⟨hcs, _⟩ | ⟨x, l, c, zs, hcs, _, hl, hm, hz, _, hcell, hwz⟩
    · simp [Value.cells] at hcs
      obtain ⟨rfl, rfl, rfl⟩ := hcs
      exact ⟨[], .inl ⟨rfl, rfl, rfl, rfl⟩⟩
    · simp [Value.cells] at hcs
      obtain ⟨rfl, rfl, rfl⟩ := hcs
      exact ⟨zs, .inr ⟨_, rfl, hl, hm, by simpa using hz, hcell, hwz⟩⟩
  clear hA0
  refine (walk1 W a0 len0 cap0 z0 w0 hT hLN).mono fun e W' ⟨he, bel⟩ => ?_
  subst he
  exact ⟨_, rfl, _, _, _, [], _, [], hW', trodAll_mk1 (shut_bool Tryd.underlying4 _), (trodAll_cons_mk (Below.trod laidOut (by kernel_rfl) (of_decide_eq_true (by kernel_rfl)) k0 bel lt0) trodAll_mk0), rfl, bel.frame _, fun h => by cases h⟩

theorem laid_met (os : Os) : laidMet Tryd.prog Rows.fnBansRow.laid ((withTables (World.holding Tryd.prog os ⟨#[], #[], []⟩)).forCall (fun _ _ => 0) ⟨#[], #[.slice none 0 0], []⟩).memory :=
  laidMet_of_run' 80 (by kernel_rfl) (by kernel_rfl)
theorem reads (os : Os) {H : Type} (enc : TypeId × Value → H) : ∃ places, DataW.whole enc Tryd.prog ((withTables (World.holding Tryd.prog os ⟨#[], #[], []⟩)).forCall (fun _ _ => 0) ⟨#[], #[.slice none 0 0], []⟩).memory Tryd.f3.params.toList Rows.fnBansSpec.vars false #[(.slice none 0 0 : Value)].toList 8 = some ([.nil], [], places) :=
  ⟨[], by kernel_rfl⟩

set_option maxRecDepth 100000 in
theorem lifted (os : Os) (started : os.Started) (H : Type) (enc : TypeId × Value → H) (F : Stop.Interp) :
    ReturnsInHanded {} Tryd.checked os 3 .any ((OpenSpec.ofChange Rows.fnBansSpec).preRow enc Tryd.prog Tryd.f3 Rows.fnBansRow.domain false Rows.fnBansRow.laid) (((OpenSpec.ofChange Rows.fnBansSpec).at F).post enc Tryd.prog Tryd.f3 false true false false) := by
  obtain ⟨places, hx⟩ := reads os enc
  refine returnsInHanded_of_row (C := Tryd.checked) (s := OpenSpec.ofChange Rows.fnBansSpec) own started (by kernel_rfl) Tryd.func3
    (witness_row_at (enc := enc) (C := Tryd.checked) false (withTables (World.holding Tryd.prog os ⟨#[], #[], []⟩)) #[.slice none 0 0] rfl (by kernel_rfl) (by kernel_rfl) (by kernel_rfl)
      (OpenSpec.preRow_of_cond 8 hx (by kernel_rfl) (fun k hk => by cases hk) (by kernel_rfl) (laid_met os))) ?_
  intro W base args ds gs before hval hW _ _ _ hL hSh _
  exact contract H enc W base args ds gs before hval hW hL hSh

theorem said : Rows.FnBansSaid :=
  OpenClaim.holds_of_cond 3 Tryd.f3 rfl rfl rfl rfl rfl rfl rfl ⟨rfl, rfl, rfl, rfl, rfl⟩ rfl rfl rfl rfl rfl (by kernel_rfl) Tryd.func3 (by kernel_rfl)
    (of_decide_eq_true (by kernel_rfl)) (by unfold Func.isWrapper; first | (rw [if_pos (by decide +kernel)]; kernel_rfl) | (rw [if_neg (by decide +kernel)]; exact ⟨rfl, rfl⟩))
    (fun os started H enc _ F => by rw [OpenClaim.pre_eq_preRow]; exact lifted os started H enc F)

theorem plain (f : FuncId) (fn : Func) (hf : Tryd.pinned.checked.prog.funcNamed "loop.example/g00239/laws.FnBans" = some f) (hfn : Tryd.pinned.checked.prog.funcs[f]? = some fn) :
    true = Tryd.pinned.checked.prog.looks [] ∧ ∀ (j : Nat) t, fn.params[j]? = some t → Tryd.pinned.checked.prog.wantsStandIn t = false := by
  obtain rfl : f = 3 := Option.some.inj ((show Tryd.prog.funcNamed "loop.example/g00239/laws.FnBans" = some 3 by kernel_rfl).symm.trans hf) |>.symm
  obtain rfl : fn = Tryd.f3 := (Option.some.inj (Tryd.func3.symm.trans hfn)).symm
  refine ⟨by kernel_rfl, fun j t ht => ?_⟩
  rw [Tryd.params3] at ht
  obtain rfl : t = 22 := by simpa using Array.mem_of_getElem? ht
  exact (show Tryd.prog.wantsStandIn 22 = false by kernel_rfl)

theorem card : Rows.FnBansCardSaid :=
  Claim7.holds_tied_plain_at .later [] _ _ _ _ said (fun _ h => by cases h) (by kernel_rfl) (fun _ h => by cases h) fnBans_row_tie rfl ⟨rfl, rfl⟩ (by kernel_rfl) rfl plain (by kernel_rfl)
end fnBans

theorem fnBans_holds : Rows.FnBansCardSaid := fnBans.card
#print axioms fnBans_holds
end Go.Proofs.YtlmenolcgaakeaaDoor
