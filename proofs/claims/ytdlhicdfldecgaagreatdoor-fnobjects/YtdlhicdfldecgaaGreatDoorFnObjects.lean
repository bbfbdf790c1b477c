/- A drawn object is read from its text as it was; a text that is read is that of the object (the law answers true), and the code reads as it did: for every code. The card lists the tables that strconv.Itoa's text names. -/
import Derived.Test.YtdlhicdfldecgaaGreatDoorFnObjectsH
import Derived.Below
import Derived.ChangeOld
import Derived.ShutString
import Derived.Deep.RegionHeld3
import Derived.Deep.DrawnRows
import Derived.Deep.CutRange
import Derived.Deep.DeepCutAuto
namespace Go.Proofs.YtdlhicdfldecgaaGreatDoor
namespace fnObjects
open Go.ChangeShapes Go.WideShapes Go.ChangeAt Go.RowKit
open Go.ChangeMaps (open_string shut_string)
attribute [local go_sem ↓] Go.wp_at_zero Go.wp_at_succ

theorem own : ownKnob Tryz.prog.godebug = none := by kernel_rfl
theorem laidOut : laidOutB Tryz.prog = true := by kernel_rfl
def IsRow (k : IntKind) (w : World) (a : Option Addr) (len cap : Nat) (zs : List Int) : Prop :=
  (a = none ∧ len = 0 ∧ cap = 0 ∧ zs = []) ∨
  ∃ x, a = some x ∧ len ≤ cap ∧ cap ≤ maxLen ∧ zs.length = cap ∧ (∀ i, i < zs.length → w.cell? (x.add i) = some (.int k (zs.getD i 0))) ∧ ∀ n ∈ zs, (Lit.int k n).wf = true
theorem row_cell {k : IntKind} {w : World} {x : Addr} {zs : List Int} (h : ∀ i, i < zs.length → w.cell? (x.add i) = some (.int k (zs.getD i 0))) (j : Nat) (hj : j < zs.length) : ∃ b off, x = ⟨b, off, none⟩ ∧ w.cell? ⟨b, off + j, none⟩ = some (.int k (zs.getD j 0)) := by
  obtain ⟨b, off, spot⟩ := x
  have hc := h j hj
  have hspot : spot = none := by
    have := World.cell?_spot (h 0 (by omega))
    simpa [Addr.add] using this
  subst hspot
  refine ⟨b, off, rfl, ?_⟩
  by_cases e : j = 0
  · subst e; simpa [Addr.add] using hc
  · simpa [Addr.add, e] using hc
theorem row_code {w : World} {a : Option Addr} {len cap : Nat} {zs : List Int} (h : IsRow .u8 w a len cap zs) (hl : len ≤ 1048576) : CodeAt w w.heap.size a len zs := by
  refine ⟨hl, fun j hj => ?_⟩
  rcases h with ⟨rfl, rfl, _, _⟩ | ⟨x, rfl, h1, _, h3, h4, h5⟩
  · omega
  · obtain ⟨b, off, rfl, hc2⟩ := row_cell h4 j (by omega)
    have hm : zs.getD j 0 ∈ zs := by
      rw [List.getD_eq_getElem?_getD, List.getElem?_eq_getElem (by omega)]
      exact List.getElem_mem _
    have hr := bounds_u8 (h5 _ hm)
    exact ⟨b, off, rfl, World.block_lt_of_cell? _ _ hc2, hc2, hr.1, by omega⟩
theorem texts_rowV {W : World} {B : Nat} {v : Value} {n : Nat} {xs : List ByteArray} (h : W.ownsRow B 9 1 v n (xs.map Value.string)) : ∃ o c, v = .slice o n c := slice_of_owns h
/-- What is read of an object's text. -/
def ObjRdT (p : ByteArray) (st : Int) (gs : List (ByteArray × ByteArray)) (d : ByteArray) (t : Int) (vl yl : List ByteArray) (w : World) (e : Ending) (w' : World) : Prop :=
  ∃ v1 v2 v3, e = .returned (.tuple #[.agg #[.string p, v1, v2, .int .i64 st, v3, .string d, .int .i64 t], .bool true]) ∧ ObjO w' w.heap.size v1 vl.length vl v2 yl.length yl v3 gs.length gs ∧ Below w.heap.size w w'
theorem objRdT {a p : ByteArray} {ys : List ByteArray} {st : Int} {gs : List (ByteArray × ByteArray)} {d : ByteArray} {t : Int} {vl : List ByteArray} {w w' : World} {e : Ending} (hK : IsObj a p ys st gs d t) (hvl : vl = varyP gs) (h : ObjIs a w e w') : ObjRdT p st gs d t vl ys w e w' := by
  obtain ⟨h1, h2⟩ := h
  rcases h2 with ⟨p', ys', st', fs', b', t', v1, v2, v3, h3, h4, h5⟩ | ⟨h3, h4⟩
  · have hu := IsObj.uniq h4 hK
    clear h4 hK
    obtain ⟨e1, e2, e3, e4, e5, e6⟩ := hu
    rw [e2, e4, ← hvl] at h5
    exact ⟨v1, v2, v3, by rw [h3, e1, e3, e5, e6], h5, h1⟩
  · exact absurd hK (h4 _ _ _ _ _ _)
theorem objRdF {a : ByteArray} {w w' : World} {e : Ending} (hK : ∀ p ys st gs d t, ¬ IsObj a p ys st gs d t) (h : ObjIs a w e w') : e = .returned (.tuple #[.agg #[.string ⟨#[]⟩, .slice none 0 0, .slice none 0 0, .int .i64 0, .slice none 0 0, .string ⟨#[]⟩, .int .i64 0], .bool false]) ∧ Below w.heap.size w w' := by
  obtain ⟨h1, h2⟩ := h
  rcases h2 with ⟨p', ys', st', fs', b', t', v1, v2, v3, h3, h4, h5⟩ | ⟨h3, h4⟩
  · exact absurd h4 (hK _ _ _ _ _ _)
  · exact ⟨h3, h1⟩

open Go.Lib hiding intOf
set_option maxHeartbeats 400000 in
theorem big_no (a : Option Addr) (len cap : Nat) (w : World) (h : ¬ (1048576 : Int) < (len : Int)) : Calls Tryz.prog 6 #[.slice a len cap] w fun e w' => e = .returned (.bool false) ∧ w' = w := by
  go_enter Tryz.func6, Tryz.ntmps6
  go_wp2
  go_ret
  exact ⟨rfl, rfl⟩
set_option maxHeartbeats 400000 in
theorem big_yes (a : Option Addr) (len cap : Nat) (w : World) (h : (1048576 : Int) < (len : Int)) : Calls Tryz.prog 6 #[.slice a len cap] w fun e w' => e = .returned (.bool true) ∧ w' = w := by
  go_enter Tryz.func6, Tryz.ntmps6
  go_wp2
  go_ret
  exact ⟨rfl, rfl⟩
set_option maxHeartbeats 16000000 in
set_option maxRecDepth 100000 in
theorem walk1 (w : World) (a0 : Option Addr) (len0 cap0 : Nat) (zc0 : List Int) (w0 : IsRow .u8 w a0 len0 cap0 zc0) (hT : TabOk w) (hLN : LenOk w) :
    Calls Tryz.prog 3 #[.slice a0 len0 cap0] w fun e w' => e = .returned (.bool true) ∧ Below w.heap.size w w' := by
  classical
  by_cases hbig : (1048576 : Int) < (len0 : Int)
  · clear hT hLN
    go_enter Tryz.func3, Tryz.ntmps3
    go_wp2_with fail
    refine (big_yes a0 len0 cap0 _ hbig).mono ?_
    rintro e w1 ⟨rfl, rfl⟩
    go_wp2
    go_ret
    exact ⟨rfl, Below.refl _ _⟩
  have hcode := row_code w0 (by omega)
  have HCODE : Hid (∀ W, Below w.heap.size w W → CodeAt W W.heap.size a0 len0 zc0) := fun W h => (hcode.below h).upTo h.size
  have HT : Hid (∀ W, Below w.heap.size w W → TabOk W) := fun W h => hT.below h
  clear hT
  have HLN : Hid (∀ W, Below w.heap.size w W → LenOk W) := fun W h => hLN.below h hLN.lt
  clear hLN
  have HBIG : Hid (¬ (1048576 : Int) < (len0 : Int)) := hbig
  clear w0 hcode hbig
  have hb0 : Below w.heap.size w w := Below.refl _ _
  go_enter Tryz.func3, Tryz.ntmps3
  go_wp2_with fail
  refine (big_no a0 len0 cap0 _ (by have := HBIG.out; omega)).mono ?_
  rintro e w1 ⟨rfl, hwe⟩
  have bw : Below (w).heap.size (w) w1 := by rw [hwe]; exact Below.refl _ _
  clear hwe
  have hb1 : Below w.heap.size w (w1) := hb0.trans (bw.mono hb0.size)
  have HM1 : Hid ((w).heap.size ≤ (w1).heap.size) := bw.size
  clear hb0 bw
  go_wp2_with fail
  refine (drawObjText_any a0 len0 cap0 zc0 _ (HCODE.out _ hb1)).mono ?_
  rintro e w2 ⟨p, vv1, xs, vv2, ys, st, vv3, fs, b, t, rfl, ⟨ownX, ownY, ownG⟩, hsm, bw⟩
  obtain ⟨oX, pX, rfl⟩ := slice_of_owns ownX
  obtain ⟨oY, pY, rfl⟩ := slice_of_owns ownY
  obtain ⟨oG, pG, rfl⟩ := slice_of_owns ownG
  have HSM : Hid (SmallO p xs ys fs b t) := hsm
  obtain ⟨okO, hok⟩ : ∃ k, k = decide (ObjP p xs ys st fs b t) := ⟨_, rfl⟩
  have HOK : Hid (okO = decide (ObjP p xs ys st fs b t)) := hok
  clear hsm hok
  have hb2 : Below w.heap.size w (w2) := hb1.trans (bw.mono hb1.size)
  have HM2 : Hid ((w1).heap.size ≤ (w2).heap.size) := bw.size
  have HOX_2 : Hid ((w2).ownsRow w.heap.size 9 1 (.slice oX xs.length pX) xs.length (xs.map Value.string)) := owns_wide ownX hb1.size
  have LOX : Hid (∀ g, (Value.ownBlock (.slice oX xs.length pX)) = some g → (w1).heap.size ≤ g) := fun g hg => owns_ge ownX hg
  have HIX : Hid (∀ g, (Value.ownBlock (.slice oX xs.length pX)) = some g → g < (w2).heap.size) := fun g hg => owns_lt ownX hg
  clear ownX
  have HOY_2 : Hid ((w2).ownsRow w.heap.size 9 1 (.slice oY ys.length pY) ys.length (ys.map Value.string)) := owns_wide ownY hb1.size
  have LOY : Hid (∀ g, (Value.ownBlock (.slice oY ys.length pY)) = some g → (w1).heap.size ≤ g) := fun g hg => owns_ge ownY hg
  have HIY : Hid (∀ g, (Value.ownBlock (.slice oY ys.length pY)) = some g → g < (w2).heap.size) := fun g hg => owns_lt ownY hg
  clear ownY
  have HOG_2 : Hid ((w2).ownsRow w.heap.size 131 2 (.slice oG fs.length pG) fs.length (flatF fs)) := owns_wide ownG hb1.size
  have LOG : Hid (∀ g, (Value.ownBlock (.slice oG fs.length pG)) = some g → (w1).heap.size ≤ g) := fun g hg => owns_ge ownG hg
  have HIG : Hid (∀ g, (Value.ownBlock (.slice oG fs.length pG)) = some g → g < (w2).heap.size) := fun g hg => owns_lt ownG hg
  clear ownG
  clear hb1 bw
  go_upto_region 4 with fail
  obtain ⟨qv1, hqv1⟩ : ∃ q, q = (w2).heap.size := ⟨_, rfl⟩
  obtain ⟨w3, hW3⟩ : ∃ W, W = (w2).alloc (.cells #[.string p, .slice oX xs.length pX, .slice oY ys.length pY, .int .i64 st, .slice oG fs.length pG, .string b, .int .i64 t] 29) := ⟨_, rfl⟩
  have hz3 : (w2).heap.size = qv1 := hqv1.symm
  first | rw [← hW3, ← hqv1] | rw [← hW3]
  have hs3 : w3.heap.size = qv1 + 1 := by rw [hW3, ← hz3]; simp
  have bw : Below (w2).heap.size (w2) w3 := by rw [hW3]; exact (Below.refl _ _).alloc (Nat.le_refl _) _
  have hb3 : Below w.heap.size w (w3) := hb2.trans (bw.mono hb2.size)
  have HM3 : Hid ((w2).heap.size ≤ (w3).heap.size) := bw.size
  have HOX_3 : Hid ((w3).ownsRow w.heap.size 9 1 (.slice oX xs.length pX) xs.length (xs.map Value.string)) := owns_below HOX_2.out bw (fun g hg => owns_lt HOX_2.out hg)
  have HOY_3 : Hid ((w3).ownsRow w.heap.size 9 1 (.slice oY ys.length pY) ys.length (ys.map Value.string)) := owns_below HOY_2.out bw (fun g hg => owns_lt HOY_2.out hg)
  have HOG_3 : Hid ((w3).ownsRow w.heap.size 131 2 (.slice oG fs.length pG) fs.length (flatF fs)) := owns_below HOG_2.out bw (fun g hg => owns_lt HOG_2.out hg)
  have HBv1_3 : Hid ((w3).heap[qv1]? = some (.cells #[.string p, .slice oX xs.length pX, .slice oY ys.length pY, .int .i64 st, .slice oG fs.length pG, .string b, .int .i64 t] 29)) := by show _ = _; rw [hW3, ← hz3]; exact heap_alloc_new _ _
  have HGv1 : Hid (w.heap.size ≤ qv1) := by show _ ≤ _; rw [← hz3]; exact hb2.size
  clear hb2 HOX_2 HOY_2 HOG_2 bw hW3 hz3
  clear hs3 hqv1
  cases okO with
  | false =>
    have HKK : Hid (¬ ObjP p xs ys st fs b t) := (show ¬ ObjP p xs ys st fs b t from of_decide_eq_false HOK.out.symm)
    clear HOK
    have cv1_0 : (w3).cell? ⟨qv1, 0, none⟩ = some (.string p) := (cell_of HBv1_3.out 0).trans rfl
    have cv1_1 : (w3).cell? ⟨qv1, 1, none⟩ = some (.slice oX xs.length pX) := (cell_of HBv1_3.out 1).trans rfl
    have cv1_2 : (w3).cell? ⟨qv1, 2, none⟩ = some (.slice oY ys.length pY) := (cell_of HBv1_3.out 2).trans rfl
    have cv1_3 : (w3).cell? ⟨qv1, 3, none⟩ = some (.int .i64 st) := (cell_of HBv1_3.out 3).trans rfl
    have cv1_4 : (w3).cell? ⟨qv1, 4, none⟩ = some (.slice oG fs.length pG) := (cell_of HBv1_3.out 4).trans rfl
    have cv1_5 : (w3).cell? ⟨qv1, 5, none⟩ = some (.string b) := (cell_of HBv1_3.out 5).trans rfl
    have cv1_6 : (w3).cell? ⟨qv1, 6, none⟩ = some (.int .i64 t) := (cell_of HBv1_3.out 6).trans rfl
    go_wp2_with fail
    refine (implObjText_any p _ xs.length _ xs _ ys.length _ ys st _ fs.length _ fs b t _ (texts_view HOX_3.out) (texts_view HOY_3.out) (FieldsV.of_owns HOG_3.out) (by have := HSM.out.2.1.1; omega) (by have := HSM.out.2.2.1.1; omega) (by have := HSM.out.2.2.2.1.1; omega) (fun i hi => by have := HSM.out.2.1.2 _ (textAt_mem xs i hi); unfold maxLen; omega) (fun i hi => by have := HSM.out.2.2.1.2 _ (textAt_mem ys i hi); unfold maxLen; omega) (shortWalk HSM.out.2.2.2.1.2) (by have := HSM.out.1; unfold maxLen; omega) (by have := HSM.out.2.2.2.2.1; unfold maxLen; omega) (by have := short_get2 HSM.out.2.2.2.1.2 varyName; omega) HSM.out.2.2.2.1.2.copy (HT.out _ hb3)).mono ?_
    rintro e w4 ⟨uu, rfl, _, hu, bw⟩
    obtain rfl : ⟨#[]⟩ = uu := (hu HKK.out).symm
    clear hu
    have hb4 : Below w.heap.size w (w4) := hb3.trans (bw.mono hb3.size)
    have HM4 : Hid ((w3).heap.size ≤ (w4).heap.size) := bw.size
    have HOX_4 : Hid ((w4).ownsRow w.heap.size 9 1 (.slice oX xs.length pX) xs.length (xs.map Value.string)) := owns_below HOX_3.out bw (fun g hg => owns_lt HOX_3.out hg)
    have HOY_4 : Hid ((w4).ownsRow w.heap.size 9 1 (.slice oY ys.length pY) ys.length (ys.map Value.string)) := owns_below HOY_3.out bw (fun g hg => owns_lt HOY_3.out hg)
    have HOG_4 : Hid ((w4).ownsRow w.heap.size 131 2 (.slice oG fs.length pG) fs.length (flatF fs)) := owns_below HOG_3.out bw (fun g hg => owns_lt HOG_3.out hg)
    have HBv1_4 : Hid ((w4).heap[qv1]? = some (.cells #[.string p, .slice oX xs.length pX, .slice oY ys.length pY, .int .i64 st, .slice oG fs.length pG, .string b, .int .i64 t] 29)) := blk_below HBv1_3.out bw
    clear hb3 HOX_3 HOY_3 HOG_3 HBv1_3 bw
    clear cv1_0 cv1_1 cv1_2 cv1_3 cv1_4 cv1_5 cv1_6
    have cv1_0 : (w4).cell? ⟨qv1, 0, none⟩ = some (.string p) := (cell_of HBv1_4.out 0).trans rfl
    have cv1_1 : (w4).cell? ⟨qv1, 1, none⟩ = some (.slice oX xs.length pX) := (cell_of HBv1_4.out 1).trans rfl
    have cv1_2 : (w4).cell? ⟨qv1, 2, none⟩ = some (.slice oY ys.length pY) := (cell_of HBv1_4.out 2).trans rfl
    have cv1_3 : (w4).cell? ⟨qv1, 3, none⟩ = some (.int .i64 st) := (cell_of HBv1_4.out 3).trans rfl
    have cv1_4 : (w4).cell? ⟨qv1, 4, none⟩ = some (.slice oG fs.length pG) := (cell_of HBv1_4.out 4).trans rfl
    have cv1_5 : (w4).cell? ⟨qv1, 5, none⟩ = some (.string b) := (cell_of HBv1_4.out 5).trans rfl
    have cv1_6 : (w4).cell? ⟨qv1, 6, none⟩ = some (.int .i64 t) := (cell_of HBv1_4.out 6).trans rfl
    go_wp2_with fail
    refine (specObjText_any p _ xs.length _ xs _ ys.length _ ys st _ fs.length _ fs b t _ (texts_view HOX_4.out) (texts_view HOY_4.out) (FieldsV.of_owns HOG_4.out) (by have := HSM.out.2.1.1; omega) (by have := HSM.out.2.2.1.1; omega) (by have := HSM.out.2.2.2.1.1; omega) (fun i hi => by have := HSM.out.2.1.2 _ (textAt_mem xs i hi); unfold maxLen; omega) (fun i hi => by have := HSM.out.2.2.1.2 _ (textAt_mem ys i hi); unfold maxLen; omega) (shortWalk HSM.out.2.2.2.1.2) (by have := HSM.out.1; unfold maxLen; omega) (by have := HSM.out.2.2.2.2.1; unfold maxLen; omega) (by have := short_get2 HSM.out.2.2.2.1.2 varyName; omega)).mono ?_
    rintro e w5 ⟨uu, rfl, _, hu, bw⟩
    obtain rfl : ⟨#[]⟩ = uu := (hu HKK.out).symm
    clear hu
    have hb5 : Below w.heap.size w (w5) := hb4.trans (bw.mono hb4.size)
    have HM5 : Hid ((w4).heap.size ≤ (w5).heap.size) := bw.size
    have HOX_5 : Hid ((w5).ownsRow w.heap.size 9 1 (.slice oX xs.length pX) xs.length (xs.map Value.string)) := owns_below HOX_4.out bw (fun g hg => owns_lt HOX_4.out hg)
    have HOY_5 : Hid ((w5).ownsRow w.heap.size 9 1 (.slice oY ys.length pY) ys.length (ys.map Value.string)) := owns_below HOY_4.out bw (fun g hg => owns_lt HOY_4.out hg)
    have HOG_5 : Hid ((w5).ownsRow w.heap.size 131 2 (.slice oG fs.length pG) fs.length (flatF fs)) := owns_below HOG_4.out bw (fun g hg => owns_lt HOG_4.out hg)
    have HBv1_5 : Hid ((w5).heap[qv1]? = some (.cells #[.string p, .slice oX xs.length pX, .slice oY ys.length pY, .int .i64 st, .slice oG fs.length pG, .string b, .int .i64 t] 29)) := blk_below HBv1_4.out bw
    clear hb4 HOX_4 HOY_4 HOG_4 HBv1_4 bw
    clear cv1_0 cv1_1 cv1_2 cv1_3 cv1_4 cv1_5 cv1_6
    have cv1_0 : (w5).cell? ⟨qv1, 0, none⟩ = some (.string p) := (cell_of HBv1_5.out 0).trans rfl
    have cv1_1 : (w5).cell? ⟨qv1, 1, none⟩ = some (.slice oX xs.length pX) := (cell_of HBv1_5.out 1).trans rfl
    have cv1_2 : (w5).cell? ⟨qv1, 2, none⟩ = some (.slice oY ys.length pY) := (cell_of HBv1_5.out 2).trans rfl
    have cv1_3 : (w5).cell? ⟨qv1, 3, none⟩ = some (.int .i64 st) := (cell_of HBv1_5.out 3).trans rfl
    have cv1_4 : (w5).cell? ⟨qv1, 4, none⟩ = some (.slice oG fs.length pG) := (cell_of HBv1_5.out 4).trans rfl
    have cv1_5 : (w5).cell? ⟨qv1, 5, none⟩ = some (.string b) := (cell_of HBv1_5.out 5).trans rfl
    have cv1_6 : (w5).cell? ⟨qv1, 6, none⟩ = some (.int .i64 t) := (cell_of HBv1_5.out 6).trans rfl
    go_wp2_with fail
    refine (implObjOk_any p _ xs.length _ xs _ ys.length _ ys st _ fs.length _ fs b t _ (texts_view HOX_5.out) (texts_view HOY_5.out) (FieldsV.of_owns HOG_5.out) (by have := HSM.out.2.1.1; omega) (by have := HSM.out.2.2.1.1; omega) (by have := HSM.out.2.2.2.1.1; omega) (fun i hi => by have := HSM.out.2.1.2 _ (textAt_mem xs i hi); unfold maxLen; omega) (fun i hi => by have := HSM.out.2.2.1.2 _ (textAt_mem ys i hi); unfold maxLen; omega) (shortWalk HSM.out.2.2.2.1.2) HSM.out.2.2.2.1.2.copy (by have := HSM.out.1; unfold maxLen; omega) (by have := HSM.out.2.2.2.2.1; unfold maxLen; omega) (by have := short_get2 HSM.out.2.2.2.1.2 varyName; omega)).mono ?_
    rintro e w6 ⟨bb, rfl, hbb, bw⟩
    obtain rfl : false = bb := by cases bb with
      | false => rfl
      | true => exact absurd (hbb.1 rfl) HKK.out
    clear hbb
    have hb6 : Below w.heap.size w (w6) := hb5.trans (bw.mono hb5.size)
    have HM6 : Hid ((w5).heap.size ≤ (w6).heap.size) := bw.size
    have HOX_6 : Hid ((w6).ownsRow w.heap.size 9 1 (.slice oX xs.length pX) xs.length (xs.map Value.string)) := owns_below HOX_5.out bw (fun g hg => owns_lt HOX_5.out hg)
    have HOY_6 : Hid ((w6).ownsRow w.heap.size 9 1 (.slice oY ys.length pY) ys.length (ys.map Value.string)) := owns_below HOY_5.out bw (fun g hg => owns_lt HOY_5.out hg)
    have HOG_6 : Hid ((w6).ownsRow w.heap.size 131 2 (.slice oG fs.length pG) fs.length (flatF fs)) := owns_below HOG_5.out bw (fun g hg => owns_lt HOG_5.out hg)
    have HBv1_6 : Hid ((w6).heap[qv1]? = some (.cells #[.string p, .slice oX xs.length pX, .slice oY ys.length pY, .int .i64 st, .slice oG fs.length pG, .string b, .int .i64 t] 29)) := blk_below HBv1_5.out bw
    clear hb5 HOX_5 HOY_5 HOG_5 HBv1_5 bw
    clear cv1_0 cv1_1 cv1_2 cv1_3 cv1_4 cv1_5 cv1_6
    go_wp2_with fail
    refine (drawObjRead_any a0 len0 cap0 zc0 _ (HCODE.out _ hb6)).mono ?_
    rintro e w7 ⟨x, rfl, hx, bw⟩
    have HXZ : Hid (x.size ≤ 30000) := hx
    obtain ⟨okR, hok⟩ : ∃ k, k = decide (∃ p ys st fs b t, IsObj x p ys st fs b t) := ⟨_, rfl⟩
    have HOK2 : Hid (okR = decide (∃ p ys st fs b t, IsObj x p ys st fs b t)) := hok
    have hxx : (x.toList == x.toList) = true := by simp
    clear hx hok
    have hb7 : Below w.heap.size w (w7) := hb6.trans (bw.mono hb6.size)
    have HM7 : Hid ((w6).heap.size ≤ (w7).heap.size) := bw.size
    have HOX_7 : Hid ((w7).ownsRow w.heap.size 9 1 (.slice oX xs.length pX) xs.length (xs.map Value.string)) := owns_below HOX_6.out bw (fun g hg => owns_lt HOX_6.out hg)
    have HOY_7 : Hid ((w7).ownsRow w.heap.size 9 1 (.slice oY ys.length pY) ys.length (ys.map Value.string)) := owns_below HOY_6.out bw (fun g hg => owns_lt HOY_6.out hg)
    have HOG_7 : Hid ((w7).ownsRow w.heap.size 131 2 (.slice oG fs.length pG) fs.length (flatF fs)) := owns_below HOG_6.out bw (fun g hg => owns_lt HOG_6.out hg)
    have HBv1_7 : Hid ((w7).heap[qv1]? = some (.cells #[.string p, .slice oX xs.length pX, .slice oY ys.length pY, .int .i64 st, .slice oG fs.length pG, .string b, .int .i64 t] 29)) := blk_below HBv1_6.out bw
    clear hb6 HOX_6 HOY_6 HOG_6 HBv1_6 bw
    cases okR with
    | false =>
      have HK2 : Hid (∀ p ys st fs b t, ¬ IsObj x p ys st fs b t) := fun p ys st fs b t h => (show ¬ ∃ p ys st fs b t, IsObj x p ys st fs b t from of_decide_eq_false HOK2.out.symm) ⟨p, ys, st, fs, b, t, h⟩
      clear HOK2
      go_wp2_with fail
      refine ((implObjRead_any x _ (by have := HXZ.out; omega) (HT.out _ hb7) (HLN.out _ hb7)).mono (fun _ _ h => objRdF HK2.out h)).mono ?_
      rintro e w8 ⟨rfl, bw⟩
      have hb8 : Below w.heap.size w (w8) := hb7.trans (bw.mono hb7.size)
      have HM8 : Hid ((w7).heap.size ≤ (w8).heap.size) := bw.size
      have HOX_8 : Hid ((w8).ownsRow w.heap.size 9 1 (.slice oX xs.length pX) xs.length (xs.map Value.string)) := owns_below HOX_7.out bw (fun g hg => owns_lt HOX_7.out hg)
      have HOY_8 : Hid ((w8).ownsRow w.heap.size 9 1 (.slice oY ys.length pY) ys.length (ys.map Value.string)) := owns_below HOY_7.out bw (fun g hg => owns_lt HOY_7.out hg)
      have HOG_8 : Hid ((w8).ownsRow w.heap.size 131 2 (.slice oG fs.length pG) fs.length (flatF fs)) := owns_below HOG_7.out bw (fun g hg => owns_lt HOG_7.out hg)
      have HBv1_8 : Hid ((w8).heap[qv1]? = some (.cells #[.string p, .slice oX xs.length pX, .slice oY ys.length pY, .int .i64 st, .slice oG fs.length pG, .string b, .int .i64 t] 29)) := blk_below HBv1_7.out bw
      clear hb7 HOX_7 HOY_7 HOG_7 HBv1_7 bw
      go_upto_region 13 with fail
      obtain ⟨qv2, hqv2⟩ : ∃ q, q = (w8).heap.size := ⟨_, rfl⟩
      obtain ⟨w9, hW9⟩ : ∃ W, W = (w8).alloc (.cells #[.string ⟨#[]⟩, .slice none 0 0, .slice none 0 0, .int .i64 0, .slice none 0 0, .string ⟨#[]⟩, .int .i64 0] 29) := ⟨_, rfl⟩
      have hz9 : (w8).heap.size = qv2 := hqv2.symm
      first | rw [← hW9, ← hqv2] | rw [← hW9]
      have hs9 : w9.heap.size = qv2 + 1 := by rw [hW9, ← hz9]; simp
      have bw : Below (w8).heap.size (w8) w9 := by rw [hW9]; exact (Below.refl _ _).alloc (Nat.le_refl _) _
      have hb9 : Below w.heap.size w (w9) := hb8.trans (bw.mono hb8.size)
      have HM9 : Hid ((w8).heap.size ≤ (w9).heap.size) := bw.size
      have HOX_9 : Hid ((w9).ownsRow w.heap.size 9 1 (.slice oX xs.length pX) xs.length (xs.map Value.string)) := owns_below HOX_8.out bw (fun g hg => owns_lt HOX_8.out hg)
      have HOY_9 : Hid ((w9).ownsRow w.heap.size 9 1 (.slice oY ys.length pY) ys.length (ys.map Value.string)) := owns_below HOY_8.out bw (fun g hg => owns_lt HOY_8.out hg)
      have HOG_9 : Hid ((w9).ownsRow w.heap.size 131 2 (.slice oG fs.length pG) fs.length (flatF fs)) := owns_below HOG_8.out bw (fun g hg => owns_lt HOG_8.out hg)
      have HBv1_9 : Hid ((w9).heap[qv1]? = some (.cells #[.string p, .slice oX xs.length pX, .slice oY ys.length pY, .int .i64 st, .slice oG fs.length pG, .string b, .int .i64 t] 29)) := blk_below HBv1_8.out bw
      have HNv1v2 : Hid (qv1 ≠ qv2) := fun e => by have h1 := (Array.getElem?_eq_some_iff.1 HBv1_8.out).1; omega
      have HBv2_9 : Hid ((w9).heap[qv2]? = some (.cells #[.string ⟨#[]⟩, .slice none 0 0, .slice none 0 0, .int .i64 0, .slice none 0 0, .string ⟨#[]⟩, .int .i64 0] 29)) := by show _ = _; rw [hW9, ← hz9]; exact heap_alloc_new _ _
      have HGv2 : Hid (w.heap.size ≤ qv2) := by show _ ≤ _; rw [← hz9]; exact hb8.size
      clear hb8 HOX_8 HOY_8 HOG_8 HBv1_8 bw hW9 hz9
      clear hs9 hqv2
      go_wp2_with fail
      refine ((specObjRead_any x _ (by have := HXZ.out; omega) ).mono (fun _ _ h => objRdF HK2.out h)).mono ?_
      rintro e w10 ⟨rfl, bw⟩
      have hb10 : Below w.heap.size w (w10) := hb9.trans (bw.mono hb9.size)
      have HM10 : Hid ((w9).heap.size ≤ (w10).heap.size) := bw.size
      have HOX_10 : Hid ((w10).ownsRow w.heap.size 9 1 (.slice oX xs.length pX) xs.length (xs.map Value.string)) := owns_below HOX_9.out bw (fun g hg => owns_lt HOX_9.out hg)
      have HOY_10 : Hid ((w10).ownsRow w.heap.size 9 1 (.slice oY ys.length pY) ys.length (ys.map Value.string)) := owns_below HOY_9.out bw (fun g hg => owns_lt HOY_9.out hg)
      have HOG_10 : Hid ((w10).ownsRow w.heap.size 131 2 (.slice oG fs.length pG) fs.length (flatF fs)) := owns_below HOG_9.out bw (fun g hg => owns_lt HOG_9.out hg)
      have HBv1_10 : Hid ((w10).heap[qv1]? = some (.cells #[.string p, .slice oX xs.length pX, .slice oY ys.length pY, .int .i64 st, .slice oG fs.length pG, .string b, .int .i64 t] 29)) := blk_below HBv1_9.out bw
      have HBv2_10 : Hid ((w10).heap[qv2]? = some (.cells #[.string ⟨#[]⟩, .slice none 0 0, .slice none 0 0, .int .i64 0, .slice none 0 0, .string ⟨#[]⟩, .int .i64 0] 29)) := blk_below HBv2_9.out bw
      clear hb9 HOX_9 HOY_9 HOG_9 HBv1_9 HBv2_9 bw
      go_upto_region 14 with fail
      obtain ⟨qv3, hqv3⟩ : ∃ q, q = (w10).heap.size := ⟨_, rfl⟩
      obtain ⟨w11, hW11⟩ : ∃ W, W = (w10).alloc (.cells #[.string ⟨#[]⟩, .slice none 0 0, .slice none 0 0, .int .i64 0, .slice none 0 0, .string ⟨#[]⟩, .int .i64 0] 29) := ⟨_, rfl⟩
      have hz11 : (w10).heap.size = qv3 := hqv3.symm
      first | rw [← hW11, ← hqv3] | rw [← hW11]
      have hs11 : w11.heap.size = qv3 + 1 := by rw [hW11, ← hz11]; simp
      have bw : Below (w10).heap.size (w10) w11 := by rw [hW11]; exact (Below.refl _ _).alloc (Nat.le_refl _) _
      have hb11 : Below w.heap.size w (w11) := hb10.trans (bw.mono hb10.size)
      have HM11 : Hid ((w10).heap.size ≤ (w11).heap.size) := bw.size
      have HOX_11 : Hid ((w11).ownsRow w.heap.size 9 1 (.slice oX xs.length pX) xs.length (xs.map Value.string)) := owns_below HOX_10.out bw (fun g hg => owns_lt HOX_10.out hg)
      have HOY_11 : Hid ((w11).ownsRow w.heap.size 9 1 (.slice oY ys.length pY) ys.length (ys.map Value.string)) := owns_below HOY_10.out bw (fun g hg => owns_lt HOY_10.out hg)
      have HOG_11 : Hid ((w11).ownsRow w.heap.size 131 2 (.slice oG fs.length pG) fs.length (flatF fs)) := owns_below HOG_10.out bw (fun g hg => owns_lt HOG_10.out hg)
      have HBv1_11 : Hid ((w11).heap[qv1]? = some (.cells #[.string p, .slice oX xs.length pX, .slice oY ys.length pY, .int .i64 st, .slice oG fs.length pG, .string b, .int .i64 t] 29)) := blk_below HBv1_10.out bw
      have HBv2_11 : Hid ((w11).heap[qv2]? = some (.cells #[.string ⟨#[]⟩, .slice none 0 0, .slice none 0 0, .int .i64 0, .slice none 0 0, .string ⟨#[]⟩, .int .i64 0] 29)) := blk_below HBv2_10.out bw
      have HNv1v3 : Hid (qv1 ≠ qv3) := fun e => by have h1 := (Array.getElem?_eq_some_iff.1 HBv1_10.out).1; omega
      have HNv2v3 : Hid (qv2 ≠ qv3) := fun e => by have h1 := (Array.getElem?_eq_some_iff.1 HBv2_10.out).1; omega
      have HBv3_11 : Hid ((w11).heap[qv3]? = some (.cells #[.string ⟨#[]⟩, .slice none 0 0, .slice none 0 0, .int .i64 0, .slice none 0 0, .string ⟨#[]⟩, .int .i64 0] 29)) := by show _ = _; rw [hW11, ← hz11]; exact heap_alloc_new _ _
      have HGv3 : Hid (w.heap.size ≤ qv3) := by show _ ≤ _; rw [← hz11]; exact hb10.size
      clear hb10 HOX_10 HOY_10 HOG_10 HBv1_10 HBv2_10 bw hW11 hz11
      clear hs11 hqv3
      have cv2_0 : (w11).cell? ⟨qv2, 0, none⟩ = some (.string ⟨#[]⟩) := (cell_of HBv2_11.out 0).trans rfl
      go_wp2_with fail
      go_ret
      exact ⟨rfl, hb11⟩
    | true =>
      obtain ⟨p2, ys2, st2, fs2, b2, t2, hK2⟩ := (show ∃ p ys st fs b t, IsObj x p ys st fs b t from of_decide_eq_true HOK2.out.symm)
      obtain ⟨xs2, hxs2⟩ : ∃ l, l = varyP fs2 := ⟨_, rfl⟩
      have HXV2 : Hid (xs2 = varyP fs2) := hxs2
      have HK2 : Hid (IsObj x p2 ys2 st2 fs2 b2 t2) := hK2
      have HOP2 : Hid (ObjP p2 xs2 ys2 st2 fs2 b2 t2) := by show ObjP _ _ _ _ _ _ _; rw [hxs2]; exact hK2.1
      have HSM2 : Hid (SmallO p2 xs2 ys2 fs2 b2 t2) := (small_of HOP2.out).1
      clear hxs2 hK2 HOK2
      go_wp2_with fail
      refine ((implObjRead_any x _ (by have := HXZ.out; omega) (HT.out _ hb7) (HLN.out _ hb7)).mono (fun _ _ h => objRdT HK2.out HXV2.out h)).mono ?_
      rintro e w8 ⟨vv1, vv2, vv3, rfl, ⟨ownX1, ownY1, ownG1, _⟩, bw⟩
      obtain ⟨oX1, pX1, rfl⟩ := slice_of_owns ownX1
      obtain ⟨oY1, pY1, rfl⟩ := slice_of_owns ownY1
      obtain ⟨oG1, pG1, rfl⟩ := slice_of_owns ownG1
      have hb8 : Below w.heap.size w (w8) := hb7.trans (bw.mono hb7.size)
      have HM8 : Hid ((w7).heap.size ≤ (w8).heap.size) := bw.size
      have HOX_8 : Hid ((w8).ownsRow w.heap.size 9 1 (.slice oX xs.length pX) xs.length (xs.map Value.string)) := owns_below HOX_7.out bw (fun g hg => owns_lt HOX_7.out hg)
      have HOY_8 : Hid ((w8).ownsRow w.heap.size 9 1 (.slice oY ys.length pY) ys.length (ys.map Value.string)) := owns_below HOY_7.out bw (fun g hg => owns_lt HOY_7.out hg)
      have HOG_8 : Hid ((w8).ownsRow w.heap.size 131 2 (.slice oG fs.length pG) fs.length (flatF fs)) := owns_below HOG_7.out bw (fun g hg => owns_lt HOG_7.out hg)
      have HBv1_8 : Hid ((w8).heap[qv1]? = some (.cells #[.string p, .slice oX xs.length pX, .slice oY ys.length pY, .int .i64 st, .slice oG fs.length pG, .string b, .int .i64 t] 29)) := blk_below HBv1_7.out bw
      have HOX1_8 : Hid ((w8).ownsRow w.heap.size 9 1 (.slice oX1 xs2.length pX1) xs2.length (xs2.map Value.string)) := owns_wide ownX1 hb7.size
      have LOX1 : Hid (∀ g, (Value.ownBlock (.slice oX1 xs2.length pX1)) = some g → (w7).heap.size ≤ g) := fun g hg => owns_ge ownX1 hg
      have HIX1 : Hid (∀ g, (Value.ownBlock (.slice oX1 xs2.length pX1)) = some g → g < (w8).heap.size) := fun g hg => owns_lt ownX1 hg
      clear ownX1
      have HOY1_8 : Hid ((w8).ownsRow w.heap.size 9 1 (.slice oY1 ys2.length pY1) ys2.length (ys2.map Value.string)) := owns_wide ownY1 hb7.size
      have LOY1 : Hid (∀ g, (Value.ownBlock (.slice oY1 ys2.length pY1)) = some g → (w7).heap.size ≤ g) := fun g hg => owns_ge ownY1 hg
      have HIY1 : Hid (∀ g, (Value.ownBlock (.slice oY1 ys2.length pY1)) = some g → g < (w8).heap.size) := fun g hg => owns_lt ownY1 hg
      clear ownY1
      have HOG1_8 : Hid ((w8).ownsRow w.heap.size 131 2 (.slice oG1 fs2.length pG1) fs2.length (flatF fs2)) := owns_wide ownG1 hb7.size
      have LOG1 : Hid (∀ g, (Value.ownBlock (.slice oG1 fs2.length pG1)) = some g → (w7).heap.size ≤ g) := fun g hg => owns_ge ownG1 hg
      have HIG1 : Hid (∀ g, (Value.ownBlock (.slice oG1 fs2.length pG1)) = some g → g < (w8).heap.size) := fun g hg => owns_lt ownG1 hg
      clear ownG1
      clear hb7 HOX_7 HOY_7 HOG_7 HBv1_7 bw
      go_upto_region 13 with fail
      obtain ⟨qv2, hqv2⟩ : ∃ q, q = (w8).heap.size := ⟨_, rfl⟩
      obtain ⟨w9, hW9⟩ : ∃ W, W = (w8).alloc (.cells #[.string p2, .slice oX1 xs2.length pX1, .slice oY1 ys2.length pY1, .int .i64 st2, .slice oG1 fs2.length pG1, .string b2, .int .i64 t2] 29) := ⟨_, rfl⟩
      have hz9 : (w8).heap.size = qv2 := hqv2.symm
      first | rw [← hW9, ← hqv2] | rw [← hW9]
      have hs9 : w9.heap.size = qv2 + 1 := by rw [hW9, ← hz9]; simp
      have bw : Below (w8).heap.size (w8) w9 := by rw [hW9]; exact (Below.refl _ _).alloc (Nat.le_refl _) _
      have hb9 : Below w.heap.size w (w9) := hb8.trans (bw.mono hb8.size)
      have HM9 : Hid ((w8).heap.size ≤ (w9).heap.size) := bw.size
      have HOX_9 : Hid ((w9).ownsRow w.heap.size 9 1 (.slice oX xs.length pX) xs.length (xs.map Value.string)) := owns_below HOX_8.out bw (fun g hg => owns_lt HOX_8.out hg)
      have HOY_9 : Hid ((w9).ownsRow w.heap.size 9 1 (.slice oY ys.length pY) ys.length (ys.map Value.string)) := owns_below HOY_8.out bw (fun g hg => owns_lt HOY_8.out hg)
      have HOG_9 : Hid ((w9).ownsRow w.heap.size 131 2 (.slice oG fs.length pG) fs.length (flatF fs)) := owns_below HOG_8.out bw (fun g hg => owns_lt HOG_8.out hg)
      have HOX1_9 : Hid ((w9).ownsRow w.heap.size 9 1 (.slice oX1 xs2.length pX1) xs2.length (xs2.map Value.string)) := owns_below HOX1_8.out bw (fun g hg => owns_lt HOX1_8.out hg)
      have HOY1_9 : Hid ((w9).ownsRow w.heap.size 9 1 (.slice oY1 ys2.length pY1) ys2.length (ys2.map Value.string)) := owns_below HOY1_8.out bw (fun g hg => owns_lt HOY1_8.out hg)
      have HOG1_9 : Hid ((w9).ownsRow w.heap.size 131 2 (.slice oG1 fs2.length pG1) fs2.length (flatF fs2)) := owns_below HOG1_8.out bw (fun g hg => owns_lt HOG1_8.out hg)
      have HBv1_9 : Hid ((w9).heap[qv1]? = some (.cells #[.string p, .slice oX xs.length pX, .slice oY ys.length pY, .int .i64 st, .slice oG fs.length pG, .string b, .int .i64 t] 29)) := blk_below HBv1_8.out bw
      have HNv1v2 : Hid (qv1 ≠ qv2) := fun e => by have h1 := (Array.getElem?_eq_some_iff.1 HBv1_8.out).1; omega
      have HBv2_9 : Hid ((w9).heap[qv2]? = some (.cells #[.string p2, .slice oX1 xs2.length pX1, .slice oY1 ys2.length pY1, .int .i64 st2, .slice oG1 fs2.length pG1, .string b2, .int .i64 t2] 29)) := by show _ = _; rw [hW9, ← hz9]; exact heap_alloc_new _ _
      have HGv2 : Hid (w.heap.size ≤ qv2) := by show _ ≤ _; rw [← hz9]; exact hb8.size
      clear hb8 HOX_8 HOY_8 HOG_8 HOX1_8 HOY1_8 HOG1_8 HBv1_8 bw hW9 hz9
      clear hs9 hqv2
      go_wp2_with fail
      refine ((specObjRead_any x _ (by have := HXZ.out; omega) ).mono (fun _ _ h => objRdT HK2.out HXV2.out h)).mono ?_
      rintro e w10 ⟨vv1, vv2, vv3, rfl, ⟨ownX2, ownY2, ownG2, _⟩, bw⟩
      obtain ⟨oX2, pX2, rfl⟩ := slice_of_owns ownX2
      obtain ⟨oY2, pY2, rfl⟩ := slice_of_owns ownY2
      obtain ⟨oG2, pG2, rfl⟩ := slice_of_owns ownG2
      have hb10 : Below w.heap.size w (w10) := hb9.trans (bw.mono hb9.size)
      have HM10 : Hid ((w9).heap.size ≤ (w10).heap.size) := bw.size
      have HOX_10 : Hid ((w10).ownsRow w.heap.size 9 1 (.slice oX xs.length pX) xs.length (xs.map Value.string)) := owns_below HOX_9.out bw (fun g hg => owns_lt HOX_9.out hg)
      have HOY_10 : Hid ((w10).ownsRow w.heap.size 9 1 (.slice oY ys.length pY) ys.length (ys.map Value.string)) := owns_below HOY_9.out bw (fun g hg => owns_lt HOY_9.out hg)
      have HOG_10 : Hid ((w10).ownsRow w.heap.size 131 2 (.slice oG fs.length pG) fs.length (flatF fs)) := owns_below HOG_9.out bw (fun g hg => owns_lt HOG_9.out hg)
      have HOX1_10 : Hid ((w10).ownsRow w.heap.size 9 1 (.slice oX1 xs2.length pX1) xs2.length (xs2.map Value.string)) := owns_below HOX1_9.out bw (fun g hg => owns_lt HOX1_9.out hg)
      have HOY1_10 : Hid ((w10).ownsRow w.heap.size 9 1 (.slice oY1 ys2.length pY1) ys2.length (ys2.map Value.string)) := owns_below HOY1_9.out bw (fun g hg => owns_lt HOY1_9.out hg)
      have HOG1_10 : Hid ((w10).ownsRow w.heap.size 131 2 (.slice oG1 fs2.length pG1) fs2.length (flatF fs2)) := owns_below HOG1_9.out bw (fun g hg => owns_lt HOG1_9.out hg)
      have HBv1_10 : Hid ((w10).heap[qv1]? = some (.cells #[.string p, .slice oX xs.length pX, .slice oY ys.length pY, .int .i64 st, .slice oG fs.length pG, .string b, .int .i64 t] 29)) := blk_below HBv1_9.out bw
      have HBv2_10 : Hid ((w10).heap[qv2]? = some (.cells #[.string p2, .slice oX1 xs2.length pX1, .slice oY1 ys2.length pY1, .int .i64 st2, .slice oG1 fs2.length pG1, .string b2, .int .i64 t2] 29)) := blk_below HBv2_9.out bw
      have HOX2_10 : Hid ((w10).ownsRow w.heap.size 9 1 (.slice oX2 xs2.length pX2) xs2.length (xs2.map Value.string)) := owns_wide ownX2 hb9.size
      have LOX2 : Hid (∀ g, (Value.ownBlock (.slice oX2 xs2.length pX2)) = some g → (w9).heap.size ≤ g) := fun g hg => owns_ge ownX2 hg
      have HIX2 : Hid (∀ g, (Value.ownBlock (.slice oX2 xs2.length pX2)) = some g → g < (w10).heap.size) := fun g hg => owns_lt ownX2 hg
      clear ownX2
      have HOY2_10 : Hid ((w10).ownsRow w.heap.size 9 1 (.slice oY2 ys2.length pY2) ys2.length (ys2.map Value.string)) := owns_wide ownY2 hb9.size
      have LOY2 : Hid (∀ g, (Value.ownBlock (.slice oY2 ys2.length pY2)) = some g → (w9).heap.size ≤ g) := fun g hg => owns_ge ownY2 hg
      have HIY2 : Hid (∀ g, (Value.ownBlock (.slice oY2 ys2.length pY2)) = some g → g < (w10).heap.size) := fun g hg => owns_lt ownY2 hg
      clear ownY2
      have HOG2_10 : Hid ((w10).ownsRow w.heap.size 131 2 (.slice oG2 fs2.length pG2) fs2.length (flatF fs2)) := owns_wide ownG2 hb9.size
      have LOG2 : Hid (∀ g, (Value.ownBlock (.slice oG2 fs2.length pG2)) = some g → (w9).heap.size ≤ g) := fun g hg => owns_ge ownG2 hg
      have HIG2 : Hid (∀ g, (Value.ownBlock (.slice oG2 fs2.length pG2)) = some g → g < (w10).heap.size) := fun g hg => owns_lt ownG2 hg
      clear ownG2
      clear hb9 HOX_9 HOY_9 HOG_9 HOX1_9 HOY1_9 HOG1_9 HBv1_9 HBv2_9 bw
      go_upto_region 14 with fail
      obtain ⟨qv3, hqv3⟩ : ∃ q, q = (w10).heap.size := ⟨_, rfl⟩
      obtain ⟨w11, hW11⟩ : ∃ W, W = (w10).alloc (.cells #[.string p2, .slice oX2 xs2.length pX2, .slice oY2 ys2.length pY2, .int .i64 st2, .slice oG2 fs2.length pG2, .string b2, .int .i64 t2] 29) := ⟨_, rfl⟩
      have hz11 : (w10).heap.size = qv3 := hqv3.symm
      first | rw [← hW11, ← hqv3] | rw [← hW11]
      have hs11 : w11.heap.size = qv3 + 1 := by rw [hW11, ← hz11]; simp
      have bw : Below (w10).heap.size (w10) w11 := by rw [hW11]; exact (Below.refl _ _).alloc (Nat.le_refl _) _
      have hb11 : Below w.heap.size w (w11) := hb10.trans (bw.mono hb10.size)
      have HM11 : Hid ((w10).heap.size ≤ (w11).heap.size) := bw.size
      have HOX_11 : Hid ((w11).ownsRow w.heap.size 9 1 (.slice oX xs.length pX) xs.length (xs.map Value.string)) := owns_below HOX_10.out bw (fun g hg => owns_lt HOX_10.out hg)
      have HOY_11 : Hid ((w11).ownsRow w.heap.size 9 1 (.slice oY ys.length pY) ys.length (ys.map Value.string)) := owns_below HOY_10.out bw (fun g hg => owns_lt HOY_10.out hg)
      have HOG_11 : Hid ((w11).ownsRow w.heap.size 131 2 (.slice oG fs.length pG) fs.length (flatF fs)) := owns_below HOG_10.out bw (fun g hg => owns_lt HOG_10.out hg)
      have HOX1_11 : Hid ((w11).ownsRow w.heap.size 9 1 (.slice oX1 xs2.length pX1) xs2.length (xs2.map Value.string)) := owns_below HOX1_10.out bw (fun g hg => owns_lt HOX1_10.out hg)
      have HOY1_11 : Hid ((w11).ownsRow w.heap.size 9 1 (.slice oY1 ys2.length pY1) ys2.length (ys2.map Value.string)) := owns_below HOY1_10.out bw (fun g hg => owns_lt HOY1_10.out hg)
      have HOG1_11 : Hid ((w11).ownsRow w.heap.size 131 2 (.slice oG1 fs2.length pG1) fs2.length (flatF fs2)) := owns_below HOG1_10.out bw (fun g hg => owns_lt HOG1_10.out hg)
      have HOX2_11 : Hid ((w11).ownsRow w.heap.size 9 1 (.slice oX2 xs2.length pX2) xs2.length (xs2.map Value.string)) := owns_below HOX2_10.out bw (fun g hg => owns_lt HOX2_10.out hg)
      have HOY2_11 : Hid ((w11).ownsRow w.heap.size 9 1 (.slice oY2 ys2.length pY2) ys2.length (ys2.map Value.string)) := owns_below HOY2_10.out bw (fun g hg => owns_lt HOY2_10.out hg)
      have HOG2_11 : Hid ((w11).ownsRow w.heap.size 131 2 (.slice oG2 fs2.length pG2) fs2.length (flatF fs2)) := owns_below HOG2_10.out bw (fun g hg => owns_lt HOG2_10.out hg)
      have HBv1_11 : Hid ((w11).heap[qv1]? = some (.cells #[.string p, .slice oX xs.length pX, .slice oY ys.length pY, .int .i64 st, .slice oG fs.length pG, .string b, .int .i64 t] 29)) := blk_below HBv1_10.out bw
      have HBv2_11 : Hid ((w11).heap[qv2]? = some (.cells #[.string p2, .slice oX1 xs2.length pX1, .slice oY1 ys2.length pY1, .int .i64 st2, .slice oG1 fs2.length pG1, .string b2, .int .i64 t2] 29)) := blk_below HBv2_10.out bw
      have HNv1v3 : Hid (qv1 ≠ qv3) := fun e => by have h1 := (Array.getElem?_eq_some_iff.1 HBv1_10.out).1; omega
      have HNv2v3 : Hid (qv2 ≠ qv3) := fun e => by have h1 := (Array.getElem?_eq_some_iff.1 HBv2_10.out).1; omega
      have HBv3_11 : Hid ((w11).heap[qv3]? = some (.cells #[.string p2, .slice oX2 xs2.length pX2, .slice oY2 ys2.length pY2, .int .i64 st2, .slice oG2 fs2.length pG2, .string b2, .int .i64 t2] 29)) := by show _ = _; rw [hW11, ← hz11]; exact heap_alloc_new _ _
      have HGv3 : Hid (w.heap.size ≤ qv3) := by show _ ≤ _; rw [← hz11]; exact hb10.size
      clear hb10 HOX_10 HOY_10 HOG_10 HOX1_10 HOY1_10 HOG1_10 HOX2_10 HOY2_10 HOG2_10 HBv1_10 HBv2_10 bw hW11 hz11
      clear hs11 hqv3
      have cv2_0 : (w11).cell? ⟨qv2, 0, none⟩ = some (.string p2) := (cell_of HBv2_11.out 0).trans rfl
      have cv2_1 : (w11).cell? ⟨qv2, 1, none⟩ = some (.slice oX1 xs2.length pX1) := (cell_of HBv2_11.out 1).trans rfl
      have cv2_2 : (w11).cell? ⟨qv2, 2, none⟩ = some (.slice oY1 ys2.length pY1) := (cell_of HBv2_11.out 2).trans rfl
      have cv2_3 : (w11).cell? ⟨qv2, 3, none⟩ = some (.int .i64 st2) := (cell_of HBv2_11.out 3).trans rfl
      have cv2_4 : (w11).cell? ⟨qv2, 4, none⟩ = some (.slice oG1 fs2.length pG1) := (cell_of HBv2_11.out 4).trans rfl
      have cv2_5 : (w11).cell? ⟨qv2, 5, none⟩ = some (.string b2) := (cell_of HBv2_11.out 5).trans rfl
      have cv2_6 : (w11).cell? ⟨qv2, 6, none⟩ = some (.int .i64 t2) := (cell_of HBv2_11.out 6).trans rfl
      go_wp2_with fail
      refine (implObjText_any p2 _ xs2.length _ xs2 _ ys2.length _ ys2 st2 _ fs2.length _ fs2 b2 t2 _ (texts_view HOX1_11.out) (texts_view HOY1_11.out) (FieldsV.of_owns HOG1_11.out) (by have := HSM2.out.2.1.1; omega) (by have := HSM2.out.2.2.1.1; omega) (by have := HSM2.out.2.2.2.1.1; omega) (fun i hi => by have := HSM2.out.2.1.2 _ (textAt_mem xs2 i hi); unfold maxLen; omega) (fun i hi => by have := HSM2.out.2.2.1.2 _ (textAt_mem ys2 i hi); unfold maxLen; omega) (shortWalk HSM2.out.2.2.2.1.2) (by have := HSM2.out.1; unfold maxLen; omega) (by have := HSM2.out.2.2.2.2.1; unfold maxLen; omega) (by have := short_get2 HSM2.out.2.2.2.1.2 varyName; omega) HSM2.out.2.2.2.1.2.copy (HT.out _ hb11)).mono ?_
      rintro e w12 ⟨uu, rfl, hu, _, bw⟩
      obtain rfl : x = uu := HK2.out.2.symm.trans (hu HOP2.out).symm
      clear hu
      have hb12 : Below w.heap.size w (w12) := hb11.trans (bw.mono hb11.size)
      have HM12 : Hid ((w11).heap.size ≤ (w12).heap.size) := bw.size
      have HOX_12 : Hid ((w12).ownsRow w.heap.size 9 1 (.slice oX xs.length pX) xs.length (xs.map Value.string)) := owns_below HOX_11.out bw (fun g hg => owns_lt HOX_11.out hg)
      have HOY_12 : Hid ((w12).ownsRow w.heap.size 9 1 (.slice oY ys.length pY) ys.length (ys.map Value.string)) := owns_below HOY_11.out bw (fun g hg => owns_lt HOY_11.out hg)
      have HOG_12 : Hid ((w12).ownsRow w.heap.size 131 2 (.slice oG fs.length pG) fs.length (flatF fs)) := owns_below HOG_11.out bw (fun g hg => owns_lt HOG_11.out hg)
      have HOX1_12 : Hid ((w12).ownsRow w.heap.size 9 1 (.slice oX1 xs2.length pX1) xs2.length (xs2.map Value.string)) := owns_below HOX1_11.out bw (fun g hg => owns_lt HOX1_11.out hg)
      have HOY1_12 : Hid ((w12).ownsRow w.heap.size 9 1 (.slice oY1 ys2.length pY1) ys2.length (ys2.map Value.string)) := owns_below HOY1_11.out bw (fun g hg => owns_lt HOY1_11.out hg)
      have HOG1_12 : Hid ((w12).ownsRow w.heap.size 131 2 (.slice oG1 fs2.length pG1) fs2.length (flatF fs2)) := owns_below HOG1_11.out bw (fun g hg => owns_lt HOG1_11.out hg)
      have HOX2_12 : Hid ((w12).ownsRow w.heap.size 9 1 (.slice oX2 xs2.length pX2) xs2.length (xs2.map Value.string)) := owns_below HOX2_11.out bw (fun g hg => owns_lt HOX2_11.out hg)
      have HOY2_12 : Hid ((w12).ownsRow w.heap.size 9 1 (.slice oY2 ys2.length pY2) ys2.length (ys2.map Value.string)) := owns_below HOY2_11.out bw (fun g hg => owns_lt HOY2_11.out hg)
      have HOG2_12 : Hid ((w12).ownsRow w.heap.size 131 2 (.slice oG2 fs2.length pG2) fs2.length (flatF fs2)) := owns_below HOG2_11.out bw (fun g hg => owns_lt HOG2_11.out hg)
      have HBv1_12 : Hid ((w12).heap[qv1]? = some (.cells #[.string p, .slice oX xs.length pX, .slice oY ys.length pY, .int .i64 st, .slice oG fs.length pG, .string b, .int .i64 t] 29)) := blk_below HBv1_11.out bw
      have HBv2_12 : Hid ((w12).heap[qv2]? = some (.cells #[.string p2, .slice oX1 xs2.length pX1, .slice oY1 ys2.length pY1, .int .i64 st2, .slice oG1 fs2.length pG1, .string b2, .int .i64 t2] 29)) := blk_below HBv2_11.out bw
      have HBv3_12 : Hid ((w12).heap[qv3]? = some (.cells #[.string p2, .slice oX2 xs2.length pX2, .slice oY2 ys2.length pY2, .int .i64 st2, .slice oG2 fs2.length pG2, .string b2, .int .i64 t2] 29)) := blk_below HBv3_11.out bw
      clear hb11 HOX_11 HOY_11 HOG_11 HOX1_11 HOY1_11 HOG1_11 HOX2_11 HOY2_11 HOG2_11 HBv1_11 HBv2_11 HBv3_11 bw
      clear cv2_0 cv2_1 cv2_2 cv2_3 cv2_4 cv2_5 cv2_6
      go_wp2_with fail
      go_ret
      exact ⟨rfl, hb12⟩
  | true =>
    have HKK : Hid (ObjP p xs ys st fs b t) := (show ObjP p xs ys st fs b t from of_decide_eq_true HOK.out.symm)
    obtain ⟨OT, hOT⟩ : ∃ r, r = objT p ys st fs b t := ⟨_, rfl⟩
    obtain ⟨RT, hRT⟩ : ∃ r, r = respT st fs b := ⟨_, rfl⟩
    have HOT : Hid (OT = objT p ys st fs b t) := hOT
    have HRT : Hid (RT = respT st fs b) := hRT
    have HXV : Hid (xs = varyP fs) := HKK.out.2.2.2.2.1
    have HKI : Hid (IsObj OT p ys st fs b t) := ⟨by rw [← HXV.out]; exact HKK.out, HOT.out.symm⟩
    have HOTZ : Hid (OT.size ≤ 3000000) := by
      show _ ≤ _
      rw [hOT]
      exact Nat.le_trans (objT_small HKK.out) (by decide)
    have hoe : OT.toList.isEmpty = false := isEmpty_no (by rw [hOT]; exact Nat.le_trans (by decide) (objT_pos p ys st fs b t))
    have hoo : (OT.toList != OT.toList) = false := by simp
    have hpp : (p.toList != p.toList) = false := by simp
    have htt : (t != t) = false := by simp
    have hrr : (RT.toList != RT.toList) = false := by simp
    clear hOT hRT HOK
    have cv1_0 : (w3).cell? ⟨qv1, 0, none⟩ = some (.string p) := (cell_of HBv1_3.out 0).trans rfl
    have cv1_1 : (w3).cell? ⟨qv1, 1, none⟩ = some (.slice oX xs.length pX) := (cell_of HBv1_3.out 1).trans rfl
    have cv1_2 : (w3).cell? ⟨qv1, 2, none⟩ = some (.slice oY ys.length pY) := (cell_of HBv1_3.out 2).trans rfl
    have cv1_3 : (w3).cell? ⟨qv1, 3, none⟩ = some (.int .i64 st) := (cell_of HBv1_3.out 3).trans rfl
    have cv1_4 : (w3).cell? ⟨qv1, 4, none⟩ = some (.slice oG fs.length pG) := (cell_of HBv1_3.out 4).trans rfl
    have cv1_5 : (w3).cell? ⟨qv1, 5, none⟩ = some (.string b) := (cell_of HBv1_3.out 5).trans rfl
    have cv1_6 : (w3).cell? ⟨qv1, 6, none⟩ = some (.int .i64 t) := (cell_of HBv1_3.out 6).trans rfl
    go_wp2_with fail
    refine (implObjText_any p _ xs.length _ xs _ ys.length _ ys st _ fs.length _ fs b t _ (texts_view HOX_3.out) (texts_view HOY_3.out) (FieldsV.of_owns HOG_3.out) (by have := HSM.out.2.1.1; omega) (by have := HSM.out.2.2.1.1; omega) (by have := HSM.out.2.2.2.1.1; omega) (fun i hi => by have := HSM.out.2.1.2 _ (textAt_mem xs i hi); unfold maxLen; omega) (fun i hi => by have := HSM.out.2.2.1.2 _ (textAt_mem ys i hi); unfold maxLen; omega) (shortWalk HSM.out.2.2.2.1.2) (by have := HSM.out.1; unfold maxLen; omega) (by have := HSM.out.2.2.2.2.1; unfold maxLen; omega) (by have := short_get2 HSM.out.2.2.2.1.2 varyName; omega) HSM.out.2.2.2.1.2.copy (HT.out _ hb3)).mono ?_
    rintro e w4 ⟨uu, rfl, hu, _, bw⟩
    obtain rfl : OT = uu := HOT.out.trans (hu HKK.out).symm
    clear hu
    have hb4 : Below w.heap.size w (w4) := hb3.trans (bw.mono hb3.size)
    have HM4 : Hid ((w3).heap.size ≤ (w4).heap.size) := bw.size
    have HOX_4 : Hid ((w4).ownsRow w.heap.size 9 1 (.slice oX xs.length pX) xs.length (xs.map Value.string)) := owns_below HOX_3.out bw (fun g hg => owns_lt HOX_3.out hg)
    have HOY_4 : Hid ((w4).ownsRow w.heap.size 9 1 (.slice oY ys.length pY) ys.length (ys.map Value.string)) := owns_below HOY_3.out bw (fun g hg => owns_lt HOY_3.out hg)
    have HOG_4 : Hid ((w4).ownsRow w.heap.size 131 2 (.slice oG fs.length pG) fs.length (flatF fs)) := owns_below HOG_3.out bw (fun g hg => owns_lt HOG_3.out hg)
    have HBv1_4 : Hid ((w4).heap[qv1]? = some (.cells #[.string p, .slice oX xs.length pX, .slice oY ys.length pY, .int .i64 st, .slice oG fs.length pG, .string b, .int .i64 t] 29)) := blk_below HBv1_3.out bw
    clear hb3 HOX_3 HOY_3 HOG_3 HBv1_3 bw
    clear cv1_0 cv1_1 cv1_2 cv1_3 cv1_4 cv1_5 cv1_6
    have cv1_0 : (w4).cell? ⟨qv1, 0, none⟩ = some (.string p) := (cell_of HBv1_4.out 0).trans rfl
    have cv1_1 : (w4).cell? ⟨qv1, 1, none⟩ = some (.slice oX xs.length pX) := (cell_of HBv1_4.out 1).trans rfl
    have cv1_2 : (w4).cell? ⟨qv1, 2, none⟩ = some (.slice oY ys.length pY) := (cell_of HBv1_4.out 2).trans rfl
    have cv1_3 : (w4).cell? ⟨qv1, 3, none⟩ = some (.int .i64 st) := (cell_of HBv1_4.out 3).trans rfl
    have cv1_4 : (w4).cell? ⟨qv1, 4, none⟩ = some (.slice oG fs.length pG) := (cell_of HBv1_4.out 4).trans rfl
    have cv1_5 : (w4).cell? ⟨qv1, 5, none⟩ = some (.string b) := (cell_of HBv1_4.out 5).trans rfl
    have cv1_6 : (w4).cell? ⟨qv1, 6, none⟩ = some (.int .i64 t) := (cell_of HBv1_4.out 6).trans rfl
    go_wp2_with fail
    refine (specObjText_any p _ xs.length _ xs _ ys.length _ ys st _ fs.length _ fs b t _ (texts_view HOX_4.out) (texts_view HOY_4.out) (FieldsV.of_owns HOG_4.out) (by have := HSM.out.2.1.1; omega) (by have := HSM.out.2.2.1.1; omega) (by have := HSM.out.2.2.2.1.1; omega) (fun i hi => by have := HSM.out.2.1.2 _ (textAt_mem xs i hi); unfold maxLen; omega) (fun i hi => by have := HSM.out.2.2.1.2 _ (textAt_mem ys i hi); unfold maxLen; omega) (shortWalk HSM.out.2.2.2.1.2) (by have := HSM.out.1; unfold maxLen; omega) (by have := HSM.out.2.2.2.2.1; unfold maxLen; omega) (by have := short_get2 HSM.out.2.2.2.1.2 varyName; omega)).mono ?_
    rintro e w5 ⟨uu, rfl, hu, _, bw⟩
    obtain rfl : OT = uu := HOT.out.trans (hu HKK.out).symm
    clear hu
    have hb5 : Below w.heap.size w (w5) := hb4.trans (bw.mono hb4.size)
    have HM5 : Hid ((w4).heap.size ≤ (w5).heap.size) := bw.size
    have HOX_5 : Hid ((w5).ownsRow w.heap.size 9 1 (.slice oX xs.length pX) xs.length (xs.map Value.string)) := owns_below HOX_4.out bw (fun g hg => owns_lt HOX_4.out hg)
    have HOY_5 : Hid ((w5).ownsRow w.heap.size 9 1 (.slice oY ys.length pY) ys.length (ys.map Value.string)) := owns_below HOY_4.out bw (fun g hg => owns_lt HOY_4.out hg)
    have HOG_5 : Hid ((w5).ownsRow w.heap.size 131 2 (.slice oG fs.length pG) fs.length (flatF fs)) := owns_below HOG_4.out bw (fun g hg => owns_lt HOG_4.out hg)
    have HBv1_5 : Hid ((w5).heap[qv1]? = some (.cells #[.string p, .slice oX xs.length pX, .slice oY ys.length pY, .int .i64 st, .slice oG fs.length pG, .string b, .int .i64 t] 29)) := blk_below HBv1_4.out bw
    clear hb4 HOX_4 HOY_4 HOG_4 HBv1_4 bw
    clear cv1_0 cv1_1 cv1_2 cv1_3 cv1_4 cv1_5 cv1_6
    have cv1_0 : (w5).cell? ⟨qv1, 0, none⟩ = some (.string p) := (cell_of HBv1_5.out 0).trans rfl
    have cv1_1 : (w5).cell? ⟨qv1, 1, none⟩ = some (.slice oX xs.length pX) := (cell_of HBv1_5.out 1).trans rfl
    have cv1_2 : (w5).cell? ⟨qv1, 2, none⟩ = some (.slice oY ys.length pY) := (cell_of HBv1_5.out 2).trans rfl
    have cv1_3 : (w5).cell? ⟨qv1, 3, none⟩ = some (.int .i64 st) := (cell_of HBv1_5.out 3).trans rfl
    have cv1_4 : (w5).cell? ⟨qv1, 4, none⟩ = some (.slice oG fs.length pG) := (cell_of HBv1_5.out 4).trans rfl
    have cv1_5 : (w5).cell? ⟨qv1, 5, none⟩ = some (.string b) := (cell_of HBv1_5.out 5).trans rfl
    have cv1_6 : (w5).cell? ⟨qv1, 6, none⟩ = some (.int .i64 t) := (cell_of HBv1_5.out 6).trans rfl
    go_wp2_with fail
    refine (implObjOk_any p _ xs.length _ xs _ ys.length _ ys st _ fs.length _ fs b t _ (texts_view HOX_5.out) (texts_view HOY_5.out) (FieldsV.of_owns HOG_5.out) (by have := HSM.out.2.1.1; omega) (by have := HSM.out.2.2.1.1; omega) (by have := HSM.out.2.2.2.1.1; omega) (fun i hi => by have := HSM.out.2.1.2 _ (textAt_mem xs i hi); unfold maxLen; omega) (fun i hi => by have := HSM.out.2.2.1.2 _ (textAt_mem ys i hi); unfold maxLen; omega) (shortWalk HSM.out.2.2.2.1.2) HSM.out.2.2.2.1.2.copy (by have := HSM.out.1; unfold maxLen; omega) (by have := HSM.out.2.2.2.2.1; unfold maxLen; omega) (by have := short_get2 HSM.out.2.2.2.1.2 varyName; omega)).mono ?_
    rintro e w6 ⟨bb, rfl, hbb, bw⟩
    obtain rfl : true = bb := (hbb.2 HKK.out).symm
    clear hbb
    have hb6 : Below w.heap.size w (w6) := hb5.trans (bw.mono hb5.size)
    have HM6 : Hid ((w5).heap.size ≤ (w6).heap.size) := bw.size
    have HOX_6 : Hid ((w6).ownsRow w.heap.size 9 1 (.slice oX xs.length pX) xs.length (xs.map Value.string)) := owns_below HOX_5.out bw (fun g hg => owns_lt HOX_5.out hg)
    have HOY_6 : Hid ((w6).ownsRow w.heap.size 9 1 (.slice oY ys.length pY) ys.length (ys.map Value.string)) := owns_below HOY_5.out bw (fun g hg => owns_lt HOY_5.out hg)
    have HOG_6 : Hid ((w6).ownsRow w.heap.size 131 2 (.slice oG fs.length pG) fs.length (flatF fs)) := owns_below HOG_5.out bw (fun g hg => owns_lt HOG_5.out hg)
    have HBv1_6 : Hid ((w6).heap[qv1]? = some (.cells #[.string p, .slice oX xs.length pX, .slice oY ys.length pY, .int .i64 st, .slice oG fs.length pG, .string b, .int .i64 t] 29)) := blk_below HBv1_5.out bw
    clear hb5 HOX_5 HOY_5 HOG_5 HBv1_5 bw
    clear cv1_0 cv1_1 cv1_2 cv1_3 cv1_4 cv1_5 cv1_6
    go_wp2_with fail
    refine ((implObjRead_any OT _ HOTZ.out (HT.out _ hb6) (HLN.out _ hb6)).mono (fun _ _ h => objRdT HKI.out HXV.out h)).mono ?_
    rintro e w7 ⟨vv1, vv2, vv3, rfl, ⟨ownX1, ownY1, ownG1, _⟩, bw⟩
    obtain ⟨oX1, pX1, rfl⟩ := slice_of_owns ownX1
    obtain ⟨oY1, pY1, rfl⟩ := slice_of_owns ownY1
    obtain ⟨oG1, pG1, rfl⟩ := slice_of_owns ownG1
    have hb7 : Below w.heap.size w (w7) := hb6.trans (bw.mono hb6.size)
    have HM7 : Hid ((w6).heap.size ≤ (w7).heap.size) := bw.size
    have HOX_7 : Hid ((w7).ownsRow w.heap.size 9 1 (.slice oX xs.length pX) xs.length (xs.map Value.string)) := owns_below HOX_6.out bw (fun g hg => owns_lt HOX_6.out hg)
    have HOY_7 : Hid ((w7).ownsRow w.heap.size 9 1 (.slice oY ys.length pY) ys.length (ys.map Value.string)) := owns_below HOY_6.out bw (fun g hg => owns_lt HOY_6.out hg)
    have HOG_7 : Hid ((w7).ownsRow w.heap.size 131 2 (.slice oG fs.length pG) fs.length (flatF fs)) := owns_below HOG_6.out bw (fun g hg => owns_lt HOG_6.out hg)
    have HBv1_7 : Hid ((w7).heap[qv1]? = some (.cells #[.string p, .slice oX xs.length pX, .slice oY ys.length pY, .int .i64 st, .slice oG fs.length pG, .string b, .int .i64 t] 29)) := blk_below HBv1_6.out bw
    have HOX1_7 : Hid ((w7).ownsRow w.heap.size 9 1 (.slice oX1 xs.length pX1) xs.length (xs.map Value.string)) := owns_wide ownX1 hb6.size
    have LOX1 : Hid (∀ g, (Value.ownBlock (.slice oX1 xs.length pX1)) = some g → (w6).heap.size ≤ g) := fun g hg => owns_ge ownX1 hg
    have HIX1 : Hid (∀ g, (Value.ownBlock (.slice oX1 xs.length pX1)) = some g → g < (w7).heap.size) := fun g hg => owns_lt ownX1 hg
    clear ownX1
    have HOY1_7 : Hid ((w7).ownsRow w.heap.size 9 1 (.slice oY1 ys.length pY1) ys.length (ys.map Value.string)) := owns_wide ownY1 hb6.size
    have LOY1 : Hid (∀ g, (Value.ownBlock (.slice oY1 ys.length pY1)) = some g → (w6).heap.size ≤ g) := fun g hg => owns_ge ownY1 hg
    have HIY1 : Hid (∀ g, (Value.ownBlock (.slice oY1 ys.length pY1)) = some g → g < (w7).heap.size) := fun g hg => owns_lt ownY1 hg
    clear ownY1
    have HOG1_7 : Hid ((w7).ownsRow w.heap.size 131 2 (.slice oG1 fs.length pG1) fs.length (flatF fs)) := owns_wide ownG1 hb6.size
    have LOG1 : Hid (∀ g, (Value.ownBlock (.slice oG1 fs.length pG1)) = some g → (w6).heap.size ≤ g) := fun g hg => owns_ge ownG1 hg
    have HIG1 : Hid (∀ g, (Value.ownBlock (.slice oG1 fs.length pG1)) = some g → g < (w7).heap.size) := fun g hg => owns_lt ownG1 hg
    clear ownG1
    clear hb6 HOX_6 HOY_6 HOG_6 HBv1_6 bw
    go_upto_region 9 with fail
    obtain ⟨qv2, hqv2⟩ : ∃ q, q = (w7).heap.size := ⟨_, rfl⟩
    obtain ⟨w8, hW8⟩ : ∃ W, W = (w7).alloc (.cells #[.string p, .slice oX1 xs.length pX1, .slice oY1 ys.length pY1, .int .i64 st, .slice oG1 fs.length pG1, .string b, .int .i64 t] 29) := ⟨_, rfl⟩
    have hz8 : (w7).heap.size = qv2 := hqv2.symm
    first | rw [← hW8, ← hqv2] | rw [← hW8]
    have hs8 : w8.heap.size = qv2 + 1 := by rw [hW8, ← hz8]; simp
    have bw : Below (w7).heap.size (w7) w8 := by rw [hW8]; exact (Below.refl _ _).alloc (Nat.le_refl _) _
    have hb8 : Below w.heap.size w (w8) := hb7.trans (bw.mono hb7.size)
    have HM8 : Hid ((w7).heap.size ≤ (w8).heap.size) := bw.size
    have HOX_8 : Hid ((w8).ownsRow w.heap.size 9 1 (.slice oX xs.length pX) xs.length (xs.map Value.string)) := owns_below HOX_7.out bw (fun g hg => owns_lt HOX_7.out hg)
    have HOY_8 : Hid ((w8).ownsRow w.heap.size 9 1 (.slice oY ys.length pY) ys.length (ys.map Value.string)) := owns_below HOY_7.out bw (fun g hg => owns_lt HOY_7.out hg)
    have HOG_8 : Hid ((w8).ownsRow w.heap.size 131 2 (.slice oG fs.length pG) fs.length (flatF fs)) := owns_below HOG_7.out bw (fun g hg => owns_lt HOG_7.out hg)
    have HOX1_8 : Hid ((w8).ownsRow w.heap.size 9 1 (.slice oX1 xs.length pX1) xs.length (xs.map Value.string)) := owns_below HOX1_7.out bw (fun g hg => owns_lt HOX1_7.out hg)
    have HOY1_8 : Hid ((w8).ownsRow w.heap.size 9 1 (.slice oY1 ys.length pY1) ys.length (ys.map Value.string)) := owns_below HOY1_7.out bw (fun g hg => owns_lt HOY1_7.out hg)
    have HOG1_8 : Hid ((w8).ownsRow w.heap.size 131 2 (.slice oG1 fs.length pG1) fs.length (flatF fs)) := owns_below HOG1_7.out bw (fun g hg => owns_lt HOG1_7.out hg)
    have HBv1_8 : Hid ((w8).heap[qv1]? = some (.cells #[.string p, .slice oX xs.length pX, .slice oY ys.length pY, .int .i64 st, .slice oG fs.length pG, .string b, .int .i64 t] 29)) := blk_below HBv1_7.out bw
    have HNv1v2 : Hid (qv1 ≠ qv2) := fun e => by have h1 := (Array.getElem?_eq_some_iff.1 HBv1_7.out).1; omega
    have HBv2_8 : Hid ((w8).heap[qv2]? = some (.cells #[.string p, .slice oX1 xs.length pX1, .slice oY1 ys.length pY1, .int .i64 st, .slice oG1 fs.length pG1, .string b, .int .i64 t] 29)) := by show _ = _; rw [hW8, ← hz8]; exact heap_alloc_new _ _
    have HGv2 : Hid (w.heap.size ≤ qv2) := by show _ ≤ _; rw [← hz8]; exact hb7.size
    clear hb7 HOX_7 HOY_7 HOG_7 HOX1_7 HOY1_7 HOG1_7 HBv1_7 bw hW8 hz8
    clear hs8 hqv2
    go_upto_region 9 with fail
    refine wp_region_held_drew (S := fun W => W.heap[qv2]? = some (.cells #[.string p, .slice oX1 xs.length pX1, .slice oY1 ys.length pY1, .int .i64 st, .slice oG1 fs.length pG1, .string b, .int .i64 t] 29) ∧ W.heap[qv1]? = some (.cells #[.string p, .slice oX xs.length pX, .slice oY ys.length pY, .int .i64 st, .slice oG fs.length pG, .string b, .int .i64 t] 29)) (by kernel_rfl) ⟨HBv2_8.out, HBv1_8.out⟩ (fun _ => ?_)
    obtain ⟨w9, hX⟩ : ∃ X, X = w8.drew := ⟨_, rfl⟩
    have bw : Below w8.heap.size w8 w9 := by rw [hX]; exact (Below.refl _ _).drew
    rw [← hX]
    have hb9 : Below w.heap.size w (w9) := hb8.trans (bw.mono hb8.size)
    have HM9 : Hid ((w8).heap.size ≤ (w9).heap.size) := bw.size
    have HOX_9 : Hid ((w9).ownsRow w.heap.size 9 1 (.slice oX xs.length pX) xs.length (xs.map Value.string)) := owns_below HOX_8.out bw (fun g hg => owns_lt HOX_8.out hg)
    have HOY_9 : Hid ((w9).ownsRow w.heap.size 9 1 (.slice oY ys.length pY) ys.length (ys.map Value.string)) := owns_below HOY_8.out bw (fun g hg => owns_lt HOY_8.out hg)
    have HOG_9 : Hid ((w9).ownsRow w.heap.size 131 2 (.slice oG fs.length pG) fs.length (flatF fs)) := owns_below HOG_8.out bw (fun g hg => owns_lt HOG_8.out hg)
    have HOX1_9 : Hid ((w9).ownsRow w.heap.size 9 1 (.slice oX1 xs.length pX1) xs.length (xs.map Value.string)) := owns_below HOX1_8.out bw (fun g hg => owns_lt HOX1_8.out hg)
    have HOY1_9 : Hid ((w9).ownsRow w.heap.size 9 1 (.slice oY1 ys.length pY1) ys.length (ys.map Value.string)) := owns_below HOY1_8.out bw (fun g hg => owns_lt HOY1_8.out hg)
    have HOG1_9 : Hid ((w9).ownsRow w.heap.size 131 2 (.slice oG1 fs.length pG1) fs.length (flatF fs)) := owns_below HOG1_8.out bw (fun g hg => owns_lt HOG1_8.out hg)
    have HBv1_9 : Hid ((w9).heap[qv1]? = some (.cells #[.string p, .slice oX xs.length pX, .slice oY ys.length pY, .int .i64 st, .slice oG fs.length pG, .string b, .int .i64 t] 29)) := blk_below HBv1_8.out bw
    have HBv2_9 : Hid ((w9).heap[qv2]? = some (.cells #[.string p, .slice oX1 xs.length pX1, .slice oY1 ys.length pY1, .int .i64 st, .slice oG1 fs.length pG1, .string b, .int .i64 t] 29)) := blk_below HBv2_8.out bw
    have hS9 : w9.heap[qv2]? = some (.cells #[.string p, .slice oX1 xs.length pX1, .slice oY1 ys.length pY1, .int .i64 st, .slice oG1 fs.length pG1, .string b, .int .i64 t] 29) ∧ w9.heap[qv1]? = some (.cells #[.string p, .slice oX xs.length pX, .slice oY ys.length pY, .int .i64 st, .slice oG fs.length pG, .string b, .int .i64 t] 29) := ⟨HBv2_9.out, HBv1_9.out⟩
    clear hb8 HOX_8 HOY_8 HOG_8 HOX1_8 HOY1_8 HOG1_8 HBv1_8 HBv2_8 bw hX
    refine wpAnyH_takeD (i := 0) (v := .bool true) (some 36) rfl rfl (by kernel_rfl) (by kernel_rfl) (by kernel_rfl) (fun _ _ _ h => h) (Or.inl ⟨by rfl, by intro W _; go_simp⟩) hS9 ?_
    simp only [Act.put, List.setIfInBounds_toArray, List.set_cons_zero, List.set_cons_succ]
    refine wpAnyH_takeD (i := 1) (v := .bool false) (some 37) rfl rfl (by kernel_rfl) (by kernel_rfl) (by kernel_rfl) (fun _ _ _ h => h) (Or.inl ⟨by rfl, by intro W _; go_simp⟩) hS9 ?_
    simp only [Act.put, List.setIfInBounds_toArray, List.set_cons_zero, List.set_cons_succ]
    refine wpAnyH_takeD (i := 2) (v := .bool false) (some 38) rfl rfl (by kernel_rfl) (by kernel_rfl) (by kernel_rfl) (fun _ _ _ h => h) (Or.inl ⟨by rfl, by intro W _; go_simp⟩) hS9 ?_
    simp only [Act.put, List.setIfInBounds_toArray, List.set_cons_zero, List.set_cons_succ]
    refine wpAnyH_takeD (i := 3) (v := .pointer (some ⟨qv2, 0, none⟩)) (some 39) rfl rfl (by kernel_rfl) (by kernel_rfl) (by kernel_rfl) (fun _ _ _ h => h) (Or.inl ⟨by rfl, by intro W _; go_simp⟩) hS9 ?_
    simp only [Act.put, List.setIfInBounds_toArray, List.set_cons_zero, List.set_cons_succ]
    refine wpAnyH_takeD (i := 4) (v := .string p) (some 40) rfl rfl (by kernel_rfl) (by kernel_rfl) (by kernel_rfl) (fun _ _ _ h => h) (Or.inl ⟨by rfl, by intro W hW; obtain ⟨hhv2, hhv1⟩ := hW; have y0 := (cell_of hhv2 0).trans rfl; go_simp⟩) hS9 ?_
    simp only [Act.put, List.setIfInBounds_toArray, List.set_cons_zero, List.set_cons_succ]
    refine wpAnyH_takeD (i := 5) (v := .pointer (some ⟨qv1, 0, none⟩)) (some 41) rfl rfl (by kernel_rfl) (by kernel_rfl) (by kernel_rfl) (fun _ _ _ h => h) (Or.inl ⟨by rfl, by intro W _; go_simp⟩) hS9 ?_
    simp only [Act.put, List.setIfInBounds_toArray, List.set_cons_zero, List.set_cons_succ]
    refine wpAnyH_takeD (i := 6) (v := .string p) (some 42) rfl rfl (by kernel_rfl) (by kernel_rfl) (by kernel_rfl) (fun _ _ _ h => h) (Or.inl ⟨by rfl, by intro W hW; obtain ⟨hhv2, hhv1⟩ := hW; have y0 := (cell_of hhv1 0).trans rfl; go_simp⟩) hS9 ?_
    simp only [Act.put, List.setIfInBounds_toArray, List.set_cons_zero, List.set_cons_succ]
    refine wpAnyH_takeD (i := 7) (v := .bool false) (some 43) rfl rfl (by kernel_rfl) (by kernel_rfl) (by kernel_rfl) (fun _ _ _ h => h) (Or.inl ⟨by rfl, by intro W _; go_simp⟩) hS9 ?_
    simp only [Act.put, List.setIfInBounds_toArray, List.set_cons_zero, List.set_cons_succ]
    refine wpAnyH_takeD (i := 8) (v := .bool false) (some 44) rfl rfl (by kernel_rfl) (by kernel_rfl) (by kernel_rfl) (fun _ _ _ h => h) (Or.inl ⟨by rfl, by intro W _; go_simp⟩) hS9 ?_
    simp only [Act.put, List.setIfInBounds_toArray, List.set_cons_zero, List.set_cons_succ]
    refine wpAnyH_takeD (i := 9) (v := .bool false) (some 45) rfl rfl (by kernel_rfl) (by kernel_rfl) (by kernel_rfl) (fun _ _ _ h => h) (Or.inl ⟨by rfl, by intro W _; go_simp⟩) hS9 ?_
    simp only [Act.put, List.setIfInBounds_toArray, List.set_cons_zero, List.set_cons_succ]
    refine wpAnyH_takeD (i := 10) (v := .pointer (some ⟨qv2, 6, none⟩)) (some 46) rfl rfl (by kernel_rfl) (by kernel_rfl) (by kernel_rfl) (fun _ _ _ h => h) (Or.inl ⟨by rfl, by intro W _; go_simp⟩) hS9 ?_
    simp only [Act.put, List.setIfInBounds_toArray, List.set_cons_zero, List.set_cons_succ]
    refine wpAnyH_takeD (i := 11) (v := .int .i64 t) (some 47) rfl rfl (by kernel_rfl) (by kernel_rfl) (by kernel_rfl) (fun _ _ _ h => h) (Or.inl ⟨by rfl, by intro W hW; obtain ⟨hhv2, hhv1⟩ := hW; have y6 := (cell_of hhv2 6).trans rfl; go_simp⟩) hS9 ?_
    simp only [Act.put, List.setIfInBounds_toArray, List.set_cons_zero, List.set_cons_succ]
    refine wpAnyH_takeD (i := 12) (v := .pointer (some ⟨qv1, 6, none⟩)) (some 48) rfl rfl (by kernel_rfl) (by kernel_rfl) (by kernel_rfl) (fun _ _ _ h => h) (Or.inl ⟨by rfl, by intro W _; go_simp⟩) hS9 ?_
    simp only [Act.put, List.setIfInBounds_toArray, List.set_cons_zero, List.set_cons_succ]
    refine wpAnyH_takeD (i := 13) (v := .int .i64 t) (some 49) rfl rfl (by kernel_rfl) (by kernel_rfl) (by kernel_rfl) (fun _ _ _ h => h) (Or.inl ⟨by rfl, by intro W hW; obtain ⟨hhv2, hhv1⟩ := hW; have y6 := (cell_of hhv1 6).trans rfl; go_simp⟩) hS9 ?_
    simp only [Act.put, List.setIfInBounds_toArray, List.set_cons_zero, List.set_cons_succ]
    refine wpAnyH_takeD (i := 14) (v := .bool false) (some 50) rfl rfl (by kernel_rfl) (by kernel_rfl) (by kernel_rfl) (fun _ _ _ h => h) (Or.inl ⟨by rfl, by intro W _; go_simp⟩) hS9 ?_
    simp only [Act.put, List.setIfInBounds_toArray, List.set_cons_zero, List.set_cons_succ]
    refine wpAnyH_takeD (i := 15) (v := .bool false) (some 51) rfl rfl (by kernel_rfl) (by kernel_rfl) (by kernel_rfl) (fun _ _ _ h => h) (Or.inl ⟨by rfl, by intro W _; go_simp⟩) hS9 ?_
    simp only [Act.put, List.setIfInBounds_toArray, List.set_cons_zero, List.set_cons_succ]
    refine wpAnyH_takeD (i := 16) (v := .bool false) (some 52) rfl rfl (by kernel_rfl) (by kernel_rfl) (by kernel_rfl) (fun _ _ _ h => h) (Or.inl ⟨by rfl, by intro W _; go_simp⟩) hS9 ?_
    simp only [Act.put, List.setIfInBounds_toArray, List.set_cons_zero, List.set_cons_succ]
    refine wpAnyH_takeD (i := 17) (v := .pointer (some ⟨qv2, 2, none⟩)) (some 53) rfl rfl (by kernel_rfl) (by kernel_rfl) (by kernel_rfl) (fun _ _ _ h => h) (Or.inl ⟨by rfl, by intro W _; go_simp⟩) hS9 ?_
    simp only [Act.put, List.setIfInBounds_toArray, List.set_cons_zero, List.set_cons_succ]
    refine wpAnyH_takeD (i := 18) (v := .slice oY1 ys.length pY1) (some 54) rfl rfl (by kernel_rfl) (by kernel_rfl) (by kernel_rfl) (fun _ _ _ h => h) (Or.inl ⟨by rfl, by intro W hW; obtain ⟨hhv2, hhv1⟩ := hW; have y2 := (cell_of hhv2 2).trans rfl; go_simp⟩) hS9 ?_
    simp only [Act.put, List.setIfInBounds_toArray, List.set_cons_zero, List.set_cons_succ]
    refine wpAnyH_takeD (i := 19) (v := .pointer (some ⟨qv1, 2, none⟩)) (some 55) rfl rfl (by kernel_rfl) (by kernel_rfl) (by kernel_rfl) (fun _ _ _ h => h) (Or.inl ⟨by rfl, by intro W _; go_simp⟩) hS9 ?_
    simp only [Act.put, List.setIfInBounds_toArray, List.set_cons_zero, List.set_cons_succ]
    refine wpAnyH_takeD (i := 20) (v := .slice oY ys.length pY) (some 56) rfl rfl (by kernel_rfl) (by kernel_rfl) (by kernel_rfl) (fun _ _ _ h => h) (Or.inl ⟨by rfl, by intro W hW; obtain ⟨hhv2, hhv1⟩ := hW; have y2 := (cell_of hhv1 2).trans rfl; go_simp⟩) hS9 ?_
    simp only [Act.put, List.setIfInBounds_toArray, List.set_cons_zero, List.set_cons_succ]
    refine wpAnyH_ready (rs := [21]) (by kernel_rfl) (by simp) ?_
    refine AllReadyH.cons rfl (fun K hK => ?_) AllReadyH.nil
    go_simp
    refine (sameT_any _ _ _ _ _ ys _ HOY1_9.out HOY_9.out (by have := HSM.out.2.2.1.1; omega)).mono ?_
    rintro e w10 ⟨rfl, bw⟩
    have hb10 : Below w.heap.size w (w10) := hb9.trans (bw.mono hb9.size)
    have HM10 : Hid ((w9).heap.size ≤ (w10).heap.size) := bw.size
    have HOX_10 : Hid ((w10).ownsRow w.heap.size 9 1 (.slice oX xs.length pX) xs.length (xs.map Value.string)) := owns_below HOX_9.out bw (fun g hg => owns_lt HOX_9.out hg)
    have HOY_10 : Hid ((w10).ownsRow w.heap.size 9 1 (.slice oY ys.length pY) ys.length (ys.map Value.string)) := owns_below HOY_9.out bw (fun g hg => owns_lt HOY_9.out hg)
    have HOG_10 : Hid ((w10).ownsRow w.heap.size 131 2 (.slice oG fs.length pG) fs.length (flatF fs)) := owns_below HOG_9.out bw (fun g hg => owns_lt HOG_9.out hg)
    have HOX1_10 : Hid ((w10).ownsRow w.heap.size 9 1 (.slice oX1 xs.length pX1) xs.length (xs.map Value.string)) := owns_below HOX1_9.out bw (fun g hg => owns_lt HOX1_9.out hg)
    have HOY1_10 : Hid ((w10).ownsRow w.heap.size 9 1 (.slice oY1 ys.length pY1) ys.length (ys.map Value.string)) := owns_below HOY1_9.out bw (fun g hg => owns_lt HOY1_9.out hg)
    have HOG1_10 : Hid ((w10).ownsRow w.heap.size 131 2 (.slice oG1 fs.length pG1) fs.length (flatF fs)) := owns_below HOG1_9.out bw (fun g hg => owns_lt HOG1_9.out hg)
    have HBv1_10 : Hid ((w10).heap[qv1]? = some (.cells #[.string p, .slice oX xs.length pX, .slice oY ys.length pY, .int .i64 st, .slice oG fs.length pG, .string b, .int .i64 t] 29)) := blk_below HBv1_9.out bw
    have HBv2_10 : Hid ((w10).heap[qv2]? = some (.cells #[.string p, .slice oX1 xs.length pX1, .slice oY1 ys.length pY1, .int .i64 st, .slice oG1 fs.length pG1, .string b, .int .i64 t] 29)) := blk_below HBv2_9.out bw
    clear hb9 HOX_9 HOY_9 HOG_9 HOX1_9 HOY1_9 HOG1_9 HBv1_9 HBv2_9 bw
    have hS10 : w10.heap[qv2]? = some (.cells #[.string p, .slice oX1 xs.length pX1, .slice oY1 ys.length pY1, .int .i64 st, .slice oG1 fs.length pG1, .string b, .int .i64 t] 29) ∧ w10.heap[qv1]? = some (.cells #[.string p, .slice oX xs.length pX, .slice oY ys.length pY, .int .i64 st, .slice oG fs.length pG, .string b, .int .i64 t] 29) := ⟨HBv2_10.out, HBv1_10.out⟩
    refine hK.out _ _ hS10 (fun _ => ?_)
    clear hK K hS9
    refine wpAnyH_takeD (i := 22) (v := .bool false) (some 58) rfl rfl (by kernel_rfl) (by kernel_rfl) (by kernel_rfl) (fun _ _ _ h => h) (Or.inl ⟨by rfl, by intro W _; go_simp⟩) hS10 ?_
    simp only [Act.put, List.setIfInBounds_toArray, List.set_cons_zero, List.set_cons_succ]
    refine wpAnyH_takeD (i := 23) (v := .bool false) (some 59) rfl rfl (by kernel_rfl) (by kernel_rfl) (by kernel_rfl) (fun _ _ _ h => h) (Or.inl ⟨by rfl, by intro W _; go_simp⟩) hS10 ?_
    simp only [Act.put, List.setIfInBounds_toArray, List.set_cons_zero, List.set_cons_succ]
    refine wpAnyH_takeD (i := 24) (v := .bool false) (some 60) rfl rfl (by kernel_rfl) (by kernel_rfl) (by kernel_rfl) (fun _ _ _ h => h) (Or.inl ⟨by rfl, by intro W _; go_simp⟩) hS10 ?_
    simp only [Act.put, List.setIfInBounds_toArray, List.set_cons_zero, List.set_cons_succ]
    refine wpAnyH_takeD (i := 25) (v := .pointer (some ⟨qv2, 1, none⟩)) (some 61) rfl rfl (by kernel_rfl) (by kernel_rfl) (by kernel_rfl) (fun _ _ _ h => h) (Or.inl ⟨by rfl, by intro W _; go_simp⟩) hS10 ?_
    simp only [Act.put, List.setIfInBounds_toArray, List.set_cons_zero, List.set_cons_succ]
    refine wpAnyH_takeD (i := 26) (v := .slice oX1 xs.length pX1) (some 62) rfl rfl (by kernel_rfl) (by kernel_rfl) (by kernel_rfl) (fun _ _ _ h => h) (Or.inl ⟨by rfl, by intro W hW; obtain ⟨hhv2, hhv1⟩ := hW; have y1 := (cell_of hhv2 1).trans rfl; go_simp⟩) hS10 ?_
    simp only [Act.put, List.setIfInBounds_toArray, List.set_cons_zero, List.set_cons_succ]
    refine wpAnyH_takeD (i := 27) (v := .pointer (some ⟨qv1, 1, none⟩)) (some 63) rfl rfl (by kernel_rfl) (by kernel_rfl) (by kernel_rfl) (fun _ _ _ h => h) (Or.inl ⟨by rfl, by intro W _; go_simp⟩) hS10 ?_
    simp only [Act.put, List.setIfInBounds_toArray, List.set_cons_zero, List.set_cons_succ]
    refine wpAnyH_takeD (i := 28) (v := .slice oX xs.length pX) (some 64) rfl rfl (by kernel_rfl) (by kernel_rfl) (by kernel_rfl) (fun _ _ _ h => h) (Or.inl ⟨by rfl, by intro W hW; obtain ⟨hhv2, hhv1⟩ := hW; have y1 := (cell_of hhv1 1).trans rfl; go_simp⟩) hS10 ?_
    simp only [Act.put, List.setIfInBounds_toArray, List.set_cons_zero, List.set_cons_succ]
    refine wpAnyH_ready (rs := [29]) (by kernel_rfl) (by simp) ?_
    refine AllReadyH.cons rfl (fun K hK => ?_) AllReadyH.nil
    go_simp
    refine (sameT_any _ _ _ _ _ xs _ HOX1_10.out HOX_10.out (by have := HSM.out.2.1.1; omega)).mono ?_
    rintro e w11 ⟨rfl, bw⟩
    have hb11 : Below w.heap.size w (w11) := hb10.trans (bw.mono hb10.size)
    have HM11 : Hid ((w10).heap.size ≤ (w11).heap.size) := bw.size
    have HOX_11 : Hid ((w11).ownsRow w.heap.size 9 1 (.slice oX xs.length pX) xs.length (xs.map Value.string)) := owns_below HOX_10.out bw (fun g hg => owns_lt HOX_10.out hg)
    have HOY_11 : Hid ((w11).ownsRow w.heap.size 9 1 (.slice oY ys.length pY) ys.length (ys.map Value.string)) := owns_below HOY_10.out bw (fun g hg => owns_lt HOY_10.out hg)
    have HOG_11 : Hid ((w11).ownsRow w.heap.size 131 2 (.slice oG fs.length pG) fs.length (flatF fs)) := owns_below HOG_10.out bw (fun g hg => owns_lt HOG_10.out hg)
    have HOX1_11 : Hid ((w11).ownsRow w.heap.size 9 1 (.slice oX1 xs.length pX1) xs.length (xs.map Value.string)) := owns_below HOX1_10.out bw (fun g hg => owns_lt HOX1_10.out hg)
    have HOY1_11 : Hid ((w11).ownsRow w.heap.size 9 1 (.slice oY1 ys.length pY1) ys.length (ys.map Value.string)) := owns_below HOY1_10.out bw (fun g hg => owns_lt HOY1_10.out hg)
    have HOG1_11 : Hid ((w11).ownsRow w.heap.size 131 2 (.slice oG1 fs.length pG1) fs.length (flatF fs)) := owns_below HOG1_10.out bw (fun g hg => owns_lt HOG1_10.out hg)
    have HBv1_11 : Hid ((w11).heap[qv1]? = some (.cells #[.string p, .slice oX xs.length pX, .slice oY ys.length pY, .int .i64 st, .slice oG fs.length pG, .string b, .int .i64 t] 29)) := blk_below HBv1_10.out bw
    have HBv2_11 : Hid ((w11).heap[qv2]? = some (.cells #[.string p, .slice oX1 xs.length pX1, .slice oY1 ys.length pY1, .int .i64 st, .slice oG1 fs.length pG1, .string b, .int .i64 t] 29)) := blk_below HBv2_10.out bw
    clear hb10 HOX_10 HOY_10 HOG_10 HOX1_10 HOY1_10 HOG1_10 HBv1_10 HBv2_10 bw
    have hS11 : w11.heap[qv2]? = some (.cells #[.string p, .slice oX1 xs.length pX1, .slice oY1 ys.length pY1, .int .i64 st, .slice oG1 fs.length pG1, .string b, .int .i64 t] 29) ∧ w11.heap[qv1]? = some (.cells #[.string p, .slice oX xs.length pX, .slice oY ys.length pY, .int .i64 st, .slice oG fs.length pG, .string b, .int .i64 t] 29) := ⟨HBv2_11.out, HBv1_11.out⟩
    refine hK.out _ _ hS11 (fun _ => ?_)
    clear hK K hS10
    refine wpAnyH_takeD (i := 30) (v := .bool false) (some 66) rfl rfl (by kernel_rfl) (by kernel_rfl) (by kernel_rfl) (fun _ _ _ h => h) (Or.inl ⟨by rfl, by intro W _; go_simp⟩) hS11 ?_
    simp only [Act.put, List.setIfInBounds_toArray, List.set_cons_zero, List.set_cons_succ]
    refine wpAnyH_takeD (i := 31) (v := .bool false) (some 67) rfl rfl (by kernel_rfl) (by kernel_rfl) (by kernel_rfl) (fun _ _ _ h => h) (Or.inl ⟨by rfl, by intro W _; go_simp⟩) hS11 ?_
    simp only [Act.put, List.setIfInBounds_toArray, List.set_cons_zero, List.set_cons_succ]
    refine wpAnyH_takeD (i := 32) (v := .bool false) (some 68) rfl rfl (by kernel_rfl) (by kernel_rfl) (by kernel_rfl) (fun _ _ _ h => h) (Or.inl ⟨by rfl, by intro W _; go_simp⟩) hS11 ?_
    simp only [Act.put, List.setIfInBounds_toArray, List.set_cons_zero, List.set_cons_succ]
    refine wpAnyH_takeD (i := 33) (v := .pointer (some ⟨qv2, 3, none⟩)) (some 69) rfl rfl (by kernel_rfl) (by kernel_rfl) (by kernel_rfl) (fun _ _ _ h => h) (Or.inl ⟨by rfl, by intro W _; go_simp⟩) hS11 ?_
    simp only [Act.put, List.setIfInBounds_toArray, List.set_cons_zero, List.set_cons_succ]
    refine wpAnyH_takeD (i := 34) (v := .agg #[.int .i64 st, .slice oG1 fs.length pG1, .string b]) (some 70) rfl rfl (by kernel_rfl) (by kernel_rfl) (by kernel_rfl) (fun _ _ _ h => h) (Or.inl ⟨by rfl, by intro W hW; obtain ⟨hhv2, hhv1⟩ := hW; have y3 := (cell_of hhv2 3).trans rfl; have y4 := (cell_of hhv2 4).trans rfl; have y5 := (cell_of hhv2 5).trans rfl; go_simp⟩) hS11 ?_
    simp only [Act.put, List.setIfInBounds_toArray, List.set_cons_zero, List.set_cons_succ]
    refine wpAnyH_takeD (i := 36) (v := .pointer (some ⟨qv1, 3, none⟩)) (some 72) rfl rfl (by kernel_rfl) (by kernel_rfl) (by kernel_rfl) (fun _ _ _ h => h) (Or.inl ⟨by rfl, by intro W _; go_simp⟩) hS11 ?_
    simp only [Act.put, List.setIfInBounds_toArray, List.set_cons_zero, List.set_cons_succ]
    refine wpAnyH_takeD (i := 37) (v := .agg #[.int .i64 st, .slice oG fs.length pG, .string b]) (some 73) rfl rfl (by kernel_rfl) (by kernel_rfl) (by kernel_rfl) (fun _ _ _ h => h) (Or.inl ⟨by rfl, by intro W hW; obtain ⟨hhv2, hhv1⟩ := hW; have y3 := (cell_of hhv1 3).trans rfl; have y4 := (cell_of hhv1 4).trans rfl; have y5 := (cell_of hhv1 5).trans rfl; go_simp⟩) hS11 ?_
    simp only [Act.put, List.setIfInBounds_toArray, List.set_cons_zero, List.set_cons_succ]
    refine wpAnyH_ready (rs := [35]) (by kernel_rfl) (by simp) ?_
    refine AllReadyH.cons rfl (fun K hK => ?_) AllReadyH.nil
    go_simp
    refine (implRespText_any st _ b fs.length _ fs _ (FieldsV.of_owns HOG1_11.out) (by have := HSM.out.2.2.2.1.1; omega) (shortWalk HSM.out.2.2.2.1.2) (by have := HSM.out.2.2.2.2.1; unfold maxLen; omega) (HT.out _ hb11)).mono ?_
    rintro e w12 ⟨uu, rfl, hu, _, bw⟩
    obtain rfl : RT = uu := HRT.out.trans (hu HKK.out.1).symm
    clear hu
    have hb12 : Below w.heap.size w (w12) := hb11.trans (bw.mono hb11.size)
    have HM12 : Hid ((w11).heap.size ≤ (w12).heap.size) := bw.size
    have HOX_12 : Hid ((w12).ownsRow w.heap.size 9 1 (.slice oX xs.length pX) xs.length (xs.map Value.string)) := owns_below HOX_11.out bw (fun g hg => owns_lt HOX_11.out hg)
    have HOY_12 : Hid ((w12).ownsRow w.heap.size 9 1 (.slice oY ys.length pY) ys.length (ys.map Value.string)) := owns_below HOY_11.out bw (fun g hg => owns_lt HOY_11.out hg)
    have HOG_12 : Hid ((w12).ownsRow w.heap.size 131 2 (.slice oG fs.length pG) fs.length (flatF fs)) := owns_below HOG_11.out bw (fun g hg => owns_lt HOG_11.out hg)
    have HOX1_12 : Hid ((w12).ownsRow w.heap.size 9 1 (.slice oX1 xs.length pX1) xs.length (xs.map Value.string)) := owns_below HOX1_11.out bw (fun g hg => owns_lt HOX1_11.out hg)
    have HOY1_12 : Hid ((w12).ownsRow w.heap.size 9 1 (.slice oY1 ys.length pY1) ys.length (ys.map Value.string)) := owns_below HOY1_11.out bw (fun g hg => owns_lt HOY1_11.out hg)
    have HOG1_12 : Hid ((w12).ownsRow w.heap.size 131 2 (.slice oG1 fs.length pG1) fs.length (flatF fs)) := owns_below HOG1_11.out bw (fun g hg => owns_lt HOG1_11.out hg)
    have HBv1_12 : Hid ((w12).heap[qv1]? = some (.cells #[.string p, .slice oX xs.length pX, .slice oY ys.length pY, .int .i64 st, .slice oG fs.length pG, .string b, .int .i64 t] 29)) := blk_below HBv1_11.out bw
    have HBv2_12 : Hid ((w12).heap[qv2]? = some (.cells #[.string p, .slice oX1 xs.length pX1, .slice oY1 ys.length pY1, .int .i64 st, .slice oG1 fs.length pG1, .string b, .int .i64 t] 29)) := blk_below HBv2_11.out bw
    clear hb11 HOX_11 HOY_11 HOG_11 HOX1_11 HOY1_11 HOG1_11 HBv1_11 HBv2_11 bw
    have hS12 : w12.heap[qv2]? = some (.cells #[.string p, .slice oX1 xs.length pX1, .slice oY1 ys.length pY1, .int .i64 st, .slice oG1 fs.length pG1, .string b, .int .i64 t] 29) ∧ w12.heap[qv1]? = some (.cells #[.string p, .slice oX xs.length pX, .slice oY ys.length pY, .int .i64 st, .slice oG fs.length pG, .string b, .int .i64 t] 29) := ⟨HBv2_12.out, HBv1_12.out⟩
    refine hK.out _ _ hS12 (fun _ => ?_)
    clear hK K hS11
    refine wpAnyH_ready (rs := [38]) (by kernel_rfl) (by simp) ?_
    refine AllReadyH.cons rfl (fun K hK => ?_) AllReadyH.nil
    go_simp
    refine (implRespText_any st _ b fs.length _ fs _ (FieldsV.of_owns HOG_12.out) (by have := HSM.out.2.2.2.1.1; omega) (shortWalk HSM.out.2.2.2.1.2) (by have := HSM.out.2.2.2.2.1; unfold maxLen; omega) (HT.out _ hb12)).mono ?_
    rintro e w13 ⟨uu, rfl, hu, _, bw⟩
    obtain rfl : RT = uu := HRT.out.trans (hu HKK.out.1).symm
    clear hu
    have hb13 : Below w.heap.size w (w13) := hb12.trans (bw.mono hb12.size)
    have HM13 : Hid ((w12).heap.size ≤ (w13).heap.size) := bw.size
    have HOX_13 : Hid ((w13).ownsRow w.heap.size 9 1 (.slice oX xs.length pX) xs.length (xs.map Value.string)) := owns_below HOX_12.out bw (fun g hg => owns_lt HOX_12.out hg)
    have HOY_13 : Hid ((w13).ownsRow w.heap.size 9 1 (.slice oY ys.length pY) ys.length (ys.map Value.string)) := owns_below HOY_12.out bw (fun g hg => owns_lt HOY_12.out hg)
    have HOG_13 : Hid ((w13).ownsRow w.heap.size 131 2 (.slice oG fs.length pG) fs.length (flatF fs)) := owns_below HOG_12.out bw (fun g hg => owns_lt HOG_12.out hg)
    have HOX1_13 : Hid ((w13).ownsRow w.heap.size 9 1 (.slice oX1 xs.length pX1) xs.length (xs.map Value.string)) := owns_below HOX1_12.out bw (fun g hg => owns_lt HOX1_12.out hg)
    have HOY1_13 : Hid ((w13).ownsRow w.heap.size 9 1 (.slice oY1 ys.length pY1) ys.length (ys.map Value.string)) := owns_below HOY1_12.out bw (fun g hg => owns_lt HOY1_12.out hg)
    have HOG1_13 : Hid ((w13).ownsRow w.heap.size 131 2 (.slice oG1 fs.length pG1) fs.length (flatF fs)) := owns_below HOG1_12.out bw (fun g hg => owns_lt HOG1_12.out hg)
    have HBv1_13 : Hid ((w13).heap[qv1]? = some (.cells #[.string p, .slice oX xs.length pX, .slice oY ys.length pY, .int .i64 st, .slice oG fs.length pG, .string b, .int .i64 t] 29)) := blk_below HBv1_12.out bw
    have HBv2_13 : Hid ((w13).heap[qv2]? = some (.cells #[.string p, .slice oX1 xs.length pX1, .slice oY1 ys.length pY1, .int .i64 st, .slice oG1 fs.length pG1, .string b, .int .i64 t] 29)) := blk_below HBv2_12.out bw
    clear hb12 HOX_12 HOY_12 HOG_12 HOX1_12 HOY1_12 HOG1_12 HBv1_12 HBv2_12 bw
    have hS13 : w13.heap[qv2]? = some (.cells #[.string p, .slice oX1 xs.length pX1, .slice oY1 ys.length pY1, .int .i64 st, .slice oG1 fs.length pG1, .string b, .int .i64 t] 29) ∧ w13.heap[qv1]? = some (.cells #[.string p, .slice oX xs.length pX, .slice oY ys.length pY, .int .i64 st, .slice oG fs.length pG, .string b, .int .i64 t] 29) := ⟨HBv2_13.out, HBv1_13.out⟩
    refine hK.out _ _ hS13 (fun _ => ?_)
    clear hK K hS12
    refine wpAnyH_takeD (i := 39) (v := .bool false) (some 75) rfl rfl (by kernel_rfl) (by kernel_rfl) (by kernel_rfl) (fun _ _ _ h => h) (Or.inl ⟨by rfl, by intro W _; go_simp⟩) hS13 ?_
    simp only [Act.put, List.setIfInBounds_toArray, List.set_cons_zero, List.set_cons_succ]
    refine wpAnyH_takeD (i := 40) (v := .bool false) (some 76) rfl rfl (by kernel_rfl) (by kernel_rfl) (by kernel_rfl) (fun _ _ _ h => h) (Or.inl ⟨by rfl, by intro W _; go_simp⟩) hS13 ?_
    simp only [Act.put, List.setIfInBounds_toArray, List.set_cons_zero, List.set_cons_succ]
    clear hS13
    refine wpAnyH_done (by kernel_rfl) ?_ _
    go_wp2_with fail
    refine (drawObjRead_any a0 len0 cap0 zc0 _ (HCODE.out _ hb13)).mono ?_
    rintro e w14 ⟨x, rfl, hx, bw⟩
    have HXZ : Hid (x.size ≤ 30000) := hx
    obtain ⟨okR, hok⟩ : ∃ k, k = decide (∃ p ys st fs b t, IsObj x p ys st fs b t) := ⟨_, rfl⟩
    have HOK2 : Hid (okR = decide (∃ p ys st fs b t, IsObj x p ys st fs b t)) := hok
    have hxx : (x.toList == x.toList) = true := by simp
    clear hx hok
    have hb14 : Below w.heap.size w (w14) := hb13.trans (bw.mono hb13.size)
    have HM14 : Hid ((w13).heap.size ≤ (w14).heap.size) := bw.size
    have HOX_14 : Hid ((w14).ownsRow w.heap.size 9 1 (.slice oX xs.length pX) xs.length (xs.map Value.string)) := owns_below HOX_13.out bw (fun g hg => owns_lt HOX_13.out hg)
    have HOY_14 : Hid ((w14).ownsRow w.heap.size 9 1 (.slice oY ys.length pY) ys.length (ys.map Value.string)) := owns_below HOY_13.out bw (fun g hg => owns_lt HOY_13.out hg)
    have HOG_14 : Hid ((w14).ownsRow w.heap.size 131 2 (.slice oG fs.length pG) fs.length (flatF fs)) := owns_below HOG_13.out bw (fun g hg => owns_lt HOG_13.out hg)
    have HOX1_14 : Hid ((w14).ownsRow w.heap.size 9 1 (.slice oX1 xs.length pX1) xs.length (xs.map Value.string)) := owns_below HOX1_13.out bw (fun g hg => owns_lt HOX1_13.out hg)
    have HOY1_14 : Hid ((w14).ownsRow w.heap.size 9 1 (.slice oY1 ys.length pY1) ys.length (ys.map Value.string)) := owns_below HOY1_13.out bw (fun g hg => owns_lt HOY1_13.out hg)
    have HOG1_14 : Hid ((w14).ownsRow w.heap.size 131 2 (.slice oG1 fs.length pG1) fs.length (flatF fs)) := owns_below HOG1_13.out bw (fun g hg => owns_lt HOG1_13.out hg)
    have HBv1_14 : Hid ((w14).heap[qv1]? = some (.cells #[.string p, .slice oX xs.length pX, .slice oY ys.length pY, .int .i64 st, .slice oG fs.length pG, .string b, .int .i64 t] 29)) := blk_below HBv1_13.out bw
    have HBv2_14 : Hid ((w14).heap[qv2]? = some (.cells #[.string p, .slice oX1 xs.length pX1, .slice oY1 ys.length pY1, .int .i64 st, .slice oG1 fs.length pG1, .string b, .int .i64 t] 29)) := blk_below HBv2_13.out bw
    clear hb13 HOX_13 HOY_13 HOG_13 HOX1_13 HOY1_13 HOG1_13 HBv1_13 HBv2_13 bw
    cases okR with
    | false =>
      have HK2 : Hid (∀ p ys st fs b t, ¬ IsObj x p ys st fs b t) := fun p ys st fs b t h => (show ¬ ∃ p ys st fs b t, IsObj x p ys st fs b t from of_decide_eq_false HOK2.out.symm) ⟨p, ys, st, fs, b, t, h⟩
      clear HOK2
      go_wp2_with fail
      refine ((implObjRead_any x _ (by have := HXZ.out; omega) (HT.out _ hb14) (HLN.out _ hb14)).mono (fun _ _ h => objRdF HK2.out h)).mono ?_
      rintro e w15 ⟨rfl, bw⟩
      have hb15 : Below w.heap.size w (w15) := hb14.trans (bw.mono hb14.size)
      have HM15 : Hid ((w14).heap.size ≤ (w15).heap.size) := bw.size
      have HOX_15 : Hid ((w15).ownsRow w.heap.size 9 1 (.slice oX xs.length pX) xs.length (xs.map Value.string)) := owns_below HOX_14.out bw (fun g hg => owns_lt HOX_14.out hg)
      have HOY_15 : Hid ((w15).ownsRow w.heap.size 9 1 (.slice oY ys.length pY) ys.length (ys.map Value.string)) := owns_below HOY_14.out bw (fun g hg => owns_lt HOY_14.out hg)
      have HOG_15 : Hid ((w15).ownsRow w.heap.size 131 2 (.slice oG fs.length pG) fs.length (flatF fs)) := owns_below HOG_14.out bw (fun g hg => owns_lt HOG_14.out hg)
      have HOX1_15 : Hid ((w15).ownsRow w.heap.size 9 1 (.slice oX1 xs.length pX1) xs.length (xs.map Value.string)) := owns_below HOX1_14.out bw (fun g hg => owns_lt HOX1_14.out hg)
      have HOY1_15 : Hid ((w15).ownsRow w.heap.size 9 1 (.slice oY1 ys.length pY1) ys.length (ys.map Value.string)) := owns_below HOY1_14.out bw (fun g hg => owns_lt HOY1_14.out hg)
      have HOG1_15 : Hid ((w15).ownsRow w.heap.size 131 2 (.slice oG1 fs.length pG1) fs.length (flatF fs)) := owns_below HOG1_14.out bw (fun g hg => owns_lt HOG1_14.out hg)
      have HBv1_15 : Hid ((w15).heap[qv1]? = some (.cells #[.string p, .slice oX xs.length pX, .slice oY ys.length pY, .int .i64 st, .slice oG fs.length pG, .string b, .int .i64 t] 29)) := blk_below HBv1_14.out bw
      have HBv2_15 : Hid ((w15).heap[qv2]? = some (.cells #[.string p, .slice oX1 xs.length pX1, .slice oY1 ys.length pY1, .int .i64 st, .slice oG1 fs.length pG1, .string b, .int .i64 t] 29)) := blk_below HBv2_14.out bw
      clear hb14 HOX_14 HOY_14 HOG_14 HOX1_14 HOY1_14 HOG1_14 HBv1_14 HBv2_14 bw
      go_upto_region 13 with fail
      obtain ⟨qv3, hqv3⟩ : ∃ q, q = (w15).heap.size := ⟨_, rfl⟩
      obtain ⟨w16, hW16⟩ : ∃ W, W = (w15).alloc (.cells #[.string ⟨#[]⟩, .slice none 0 0, .slice none 0 0, .int .i64 0, .slice none 0 0, .string ⟨#[]⟩, .int .i64 0] 29) := ⟨_, rfl⟩
      have hz16 : (w15).heap.size = qv3 := hqv3.symm
      first | rw [← hW16, ← hqv3] | rw [← hW16]
      have hs16 : w16.heap.size = qv3 + 1 := by rw [hW16, ← hz16]; simp
      have bw : Below (w15).heap.size (w15) w16 := by rw [hW16]; exact (Below.refl _ _).alloc (Nat.le_refl _) _
      have hb16 : Below w.heap.size w (w16) := hb15.trans (bw.mono hb15.size)
      have HM16 : Hid ((w15).heap.size ≤ (w16).heap.size) := bw.size
      have HOX_16 : Hid ((w16).ownsRow w.heap.size 9 1 (.slice oX xs.length pX) xs.length (xs.map Value.string)) := owns_below HOX_15.out bw (fun g hg => owns_lt HOX_15.out hg)
      have HOY_16 : Hid ((w16).ownsRow w.heap.size 9 1 (.slice oY ys.length pY) ys.length (ys.map Value.string)) := owns_below HOY_15.out bw (fun g hg => owns_lt HOY_15.out hg)
      have HOG_16 : Hid ((w16).ownsRow w.heap.size 131 2 (.slice oG fs.length pG) fs.length (flatF fs)) := owns_below HOG_15.out bw (fun g hg => owns_lt HOG_15.out hg)
      have HOX1_16 : Hid ((w16).ownsRow w.heap.size 9 1 (.slice oX1 xs.length pX1) xs.length (xs.map Value.string)) := owns_below HOX1_15.out bw (fun g hg => owns_lt HOX1_15.out hg)
      have HOY1_16 : Hid ((w16).ownsRow w.heap.size 9 1 (.slice oY1 ys.length pY1) ys.length (ys.map Value.string)) := owns_below HOY1_15.out bw (fun g hg => owns_lt HOY1_15.out hg)
      have HOG1_16 : Hid ((w16).ownsRow w.heap.size 131 2 (.slice oG1 fs.length pG1) fs.length (flatF fs)) := owns_below HOG1_15.out bw (fun g hg => owns_lt HOG1_15.out hg)
      have HBv1_16 : Hid ((w16).heap[qv1]? = some (.cells #[.string p, .slice oX xs.length pX, .slice oY ys.length pY, .int .i64 st, .slice oG fs.length pG, .string b, .int .i64 t] 29)) := blk_below HBv1_15.out bw
      have HBv2_16 : Hid ((w16).heap[qv2]? = some (.cells #[.string p, .slice oX1 xs.length pX1, .slice oY1 ys.length pY1, .int .i64 st, .slice oG1 fs.length pG1, .string b, .int .i64 t] 29)) := blk_below HBv2_15.out bw
      have HNv1v3 : Hid (qv1 ≠ qv3) := fun e => by have h1 := (Array.getElem?_eq_some_iff.1 HBv1_15.out).1; omega
      have HNv2v3 : Hid (qv2 ≠ qv3) := fun e => by have h1 := (Array.getElem?_eq_some_iff.1 HBv2_15.out).1; omega
      have HBv3_16 : Hid ((w16).heap[qv3]? = some (.cells #[.string ⟨#[]⟩, .slice none 0 0, .slice none 0 0, .int .i64 0, .slice none 0 0, .string ⟨#[]⟩, .int .i64 0] 29)) := by show _ = _; rw [hW16, ← hz16]; exact heap_alloc_new _ _
      have HGv3 : Hid (w.heap.size ≤ qv3) := by show _ ≤ _; rw [← hz16]; exact hb15.size
      clear hb15 HOX_15 HOY_15 HOG_15 HOX1_15 HOY1_15 HOG1_15 HBv1_15 HBv2_15 bw hW16 hz16
      clear hs16 hqv3
      go_wp2_with fail
      refine ((specObjRead_any x _ (by have := HXZ.out; omega) ).mono (fun _ _ h => objRdF HK2.out h)).mono ?_
      rintro e w17 ⟨rfl, bw⟩
      have hb17 : Below w.heap.size w (w17) := hb16.trans (bw.mono hb16.size)
      have HM17 : Hid ((w16).heap.size ≤ (w17).heap.size) := bw.size
      have HOX_17 : Hid ((w17).ownsRow w.heap.size 9 1 (.slice oX xs.length pX) xs.length (xs.map Value.string)) := owns_below HOX_16.out bw (fun g hg => owns_lt HOX_16.out hg)
      have HOY_17 : Hid ((w17).ownsRow w.heap.size 9 1 (.slice oY ys.length pY) ys.length (ys.map Value.string)) := owns_below HOY_16.out bw (fun g hg => owns_lt HOY_16.out hg)
      have HOG_17 : Hid ((w17).ownsRow w.heap.size 131 2 (.slice oG fs.length pG) fs.length (flatF fs)) := owns_below HOG_16.out bw (fun g hg => owns_lt HOG_16.out hg)
      have HOX1_17 : Hid ((w17).ownsRow w.heap.size 9 1 (.slice oX1 xs.length pX1) xs.length (xs.map Value.string)) := owns_below HOX1_16.out bw (fun g hg => owns_lt HOX1_16.out hg)
      have HOY1_17 : Hid ((w17).ownsRow w.heap.size 9 1 (.slice oY1 ys.length pY1) ys.length (ys.map Value.string)) := owns_below HOY1_16.out bw (fun g hg => owns_lt HOY1_16.out hg)
      have HOG1_17 : Hid ((w17).ownsRow w.heap.size 131 2 (.slice oG1 fs.length pG1) fs.length (flatF fs)) := owns_below HOG1_16.out bw (fun g hg => owns_lt HOG1_16.out hg)
      have HBv1_17 : Hid ((w17).heap[qv1]? = some (.cells #[.string p, .slice oX xs.length pX, .slice oY ys.length pY, .int .i64 st, .slice oG fs.length pG, .string b, .int .i64 t] 29)) := blk_below HBv1_16.out bw
      have HBv2_17 : Hid ((w17).heap[qv2]? = some (.cells #[.string p, .slice oX1 xs.length pX1, .slice oY1 ys.length pY1, .int .i64 st, .slice oG1 fs.length pG1, .string b, .int .i64 t] 29)) := blk_below HBv2_16.out bw
      have HBv3_17 : Hid ((w17).heap[qv3]? = some (.cells #[.string ⟨#[]⟩, .slice none 0 0, .slice none 0 0, .int .i64 0, .slice none 0 0, .string ⟨#[]⟩, .int .i64 0] 29)) := blk_below HBv3_16.out bw
      clear hb16 HOX_16 HOY_16 HOG_16 HOX1_16 HOY1_16 HOG1_16 HBv1_16 HBv2_16 HBv3_16 bw
      go_upto_region 14 with fail
      obtain ⟨qv4, hqv4⟩ : ∃ q, q = (w17).heap.size := ⟨_, rfl⟩
      obtain ⟨w18, hW18⟩ : ∃ W, W = (w17).alloc (.cells #[.string ⟨#[]⟩, .slice none 0 0, .slice none 0 0, .int .i64 0, .slice none 0 0, .string ⟨#[]⟩, .int .i64 0] 29) := ⟨_, rfl⟩
      have hz18 : (w17).heap.size = qv4 := hqv4.symm
      first | rw [← hW18, ← hqv4] | rw [← hW18]
      have hs18 : w18.heap.size = qv4 + 1 := by rw [hW18, ← hz18]; simp
      have bw : Below (w17).heap.size (w17) w18 := by rw [hW18]; exact (Below.refl _ _).alloc (Nat.le_refl _) _
      have hb18 : Below w.heap.size w (w18) := hb17.trans (bw.mono hb17.size)
      have HM18 : Hid ((w17).heap.size ≤ (w18).heap.size) := bw.size
      have HOX_18 : Hid ((w18).ownsRow w.heap.size 9 1 (.slice oX xs.length pX) xs.length (xs.map Value.string)) := owns_below HOX_17.out bw (fun g hg => owns_lt HOX_17.out hg)
      have HOY_18 : Hid ((w18).ownsRow w.heap.size 9 1 (.slice oY ys.length pY) ys.length (ys.map Value.string)) := owns_below HOY_17.out bw (fun g hg => owns_lt HOY_17.out hg)
      have HOG_18 : Hid ((w18).ownsRow w.heap.size 131 2 (.slice oG fs.length pG) fs.length (flatF fs)) := owns_below HOG_17.out bw (fun g hg => owns_lt HOG_17.out hg)
      have HOX1_18 : Hid ((w18).ownsRow w.heap.size 9 1 (.slice oX1 xs.length pX1) xs.length (xs.map Value.string)) := owns_below HOX1_17.out bw (fun g hg => owns_lt HOX1_17.out hg)
      have HOY1_18 : Hid ((w18).ownsRow w.heap.size 9 1 (.slice oY1 ys.length pY1) ys.length (ys.map Value.string)) := owns_below HOY1_17.out bw (fun g hg => owns_lt HOY1_17.out hg)
      have HOG1_18 : Hid ((w18).ownsRow w.heap.size 131 2 (.slice oG1 fs.length pG1) fs.length (flatF fs)) := owns_below HOG1_17.out bw (fun g hg => owns_lt HOG1_17.out hg)
      have HBv1_18 : Hid ((w18).heap[qv1]? = some (.cells #[.string p, .slice oX xs.length pX, .slice oY ys.length pY, .int .i64 st, .slice oG fs.length pG, .string b, .int .i64 t] 29)) := blk_below HBv1_17.out bw
      have HBv2_18 : Hid ((w18).heap[qv2]? = some (.cells #[.string p, .slice oX1 xs.length pX1, .slice oY1 ys.length pY1, .int .i64 st, .slice oG1 fs.length pG1, .string b, .int .i64 t] 29)) := blk_below HBv2_17.out bw
      have HBv3_18 : Hid ((w18).heap[qv3]? = some (.cells #[.string ⟨#[]⟩, .slice none 0 0, .slice none 0 0, .int .i64 0, .slice none 0 0, .string ⟨#[]⟩, .int .i64 0] 29)) := blk_below HBv3_17.out bw
      have HNv1v4 : Hid (qv1 ≠ qv4) := fun e => by have h1 := (Array.getElem?_eq_some_iff.1 HBv1_17.out).1; omega
      have HNv2v4 : Hid (qv2 ≠ qv4) := fun e => by have h1 := (Array.getElem?_eq_some_iff.1 HBv2_17.out).1; omega
      have HNv3v4 : Hid (qv3 ≠ qv4) := fun e => by have h1 := (Array.getElem?_eq_some_iff.1 HBv3_17.out).1; omega
      have HBv4_18 : Hid ((w18).heap[qv4]? = some (.cells #[.string ⟨#[]⟩, .slice none 0 0, .slice none 0 0, .int .i64 0, .slice none 0 0, .string ⟨#[]⟩, .int .i64 0] 29)) := by show _ = _; rw [hW18, ← hz18]; exact heap_alloc_new _ _
      have HGv4 : Hid (w.heap.size ≤ qv4) := by show _ ≤ _; rw [← hz18]; exact hb17.size
      clear hb17 HOX_17 HOY_17 HOG_17 HOX1_17 HOY1_17 HOG1_17 HBv1_17 HBv2_17 HBv3_17 bw hW18 hz18
      clear hs18 hqv4
      have cv3_0 : (w18).cell? ⟨qv3, 0, none⟩ = some (.string ⟨#[]⟩) := (cell_of HBv3_18.out 0).trans rfl
      go_wp2_with fail
      go_ret
      exact ⟨rfl, hb18⟩
    | true =>
      obtain ⟨p2, ys2, st2, fs2, b2, t2, hK2⟩ := (show ∃ p ys st fs b t, IsObj x p ys st fs b t from of_decide_eq_true HOK2.out.symm)
      obtain ⟨xs2, hxs2⟩ : ∃ l, l = varyP fs2 := ⟨_, rfl⟩
      have HXV2 : Hid (xs2 = varyP fs2) := hxs2
      have HK2 : Hid (IsObj x p2 ys2 st2 fs2 b2 t2) := hK2
      have HOP2 : Hid (ObjP p2 xs2 ys2 st2 fs2 b2 t2) := by show ObjP _ _ _ _ _ _ _; rw [hxs2]; exact hK2.1
      have HSM2 : Hid (SmallO p2 xs2 ys2 fs2 b2 t2) := (small_of HOP2.out).1
      clear hxs2 hK2 HOK2
      go_wp2_with fail
      refine ((implObjRead_any x _ (by have := HXZ.out; omega) (HT.out _ hb14) (HLN.out _ hb14)).mono (fun _ _ h => objRdT HK2.out HXV2.out h)).mono ?_
      rintro e w15 ⟨vv1, vv2, vv3, rfl, ⟨ownX2, ownY2, ownG2, _⟩, bw⟩
      obtain ⟨oX2, pX2, rfl⟩ := slice_of_owns ownX2
      obtain ⟨oY2, pY2, rfl⟩ := slice_of_owns ownY2
      obtain ⟨oG2, pG2, rfl⟩ := slice_of_owns ownG2
      have hb15 : Below w.heap.size w (w15) := hb14.trans (bw.mono hb14.size)
      have HM15 : Hid ((w14).heap.size ≤ (w15).heap.size) := bw.size
      have HOX_15 : Hid ((w15).ownsRow w.heap.size 9 1 (.slice oX xs.length pX) xs.length (xs.map Value.string)) := owns_below HOX_14.out bw (fun g hg => owns_lt HOX_14.out hg)
      have HOY_15 : Hid ((w15).ownsRow w.heap.size 9 1 (.slice oY ys.length pY) ys.length (ys.map Value.string)) := owns_below HOY_14.out bw (fun g hg => owns_lt HOY_14.out hg)
      have HOG_15 : Hid ((w15).ownsRow w.heap.size 131 2 (.slice oG fs.length pG) fs.length (flatF fs)) := owns_below HOG_14.out bw (fun g hg => owns_lt HOG_14.out hg)
      have HOX1_15 : Hid ((w15).ownsRow w.heap.size 9 1 (.slice oX1 xs.length pX1) xs.length (xs.map Value.string)) := owns_below HOX1_14.out bw (fun g hg => owns_lt HOX1_14.out hg)
      have HOY1_15 : Hid ((w15).ownsRow w.heap.size 9 1 (.slice oY1 ys.length pY1) ys.length (ys.map Value.string)) := owns_below HOY1_14.out bw (fun g hg => owns_lt HOY1_14.out hg)
      have HOG1_15 : Hid ((w15).ownsRow w.heap.size 131 2 (.slice oG1 fs.length pG1) fs.length (flatF fs)) := owns_below HOG1_14.out bw (fun g hg => owns_lt HOG1_14.out hg)
      have HBv1_15 : Hid ((w15).heap[qv1]? = some (.cells #[.string p, .slice oX xs.length pX, .slice oY ys.length pY, .int .i64 st, .slice oG fs.length pG, .string b, .int .i64 t] 29)) := blk_below HBv1_14.out bw
      have HBv2_15 : Hid ((w15).heap[qv2]? = some (.cells #[.string p, .slice oX1 xs.length pX1, .slice oY1 ys.length pY1, .int .i64 st, .slice oG1 fs.length pG1, .string b, .int .i64 t] 29)) := blk_below HBv2_14.out bw
      have HOX2_15 : Hid ((w15).ownsRow w.heap.size 9 1 (.slice oX2 xs2.length pX2) xs2.length (xs2.map Value.string)) := owns_wide ownX2 hb14.size
      have LOX2 : Hid (∀ g, (Value.ownBlock (.slice oX2 xs2.length pX2)) = some g → (w14).heap.size ≤ g) := fun g hg => owns_ge ownX2 hg
      have HIX2 : Hid (∀ g, (Value.ownBlock (.slice oX2 xs2.length pX2)) = some g → g < (w15).heap.size) := fun g hg => owns_lt ownX2 hg
      clear ownX2
      have HOY2_15 : Hid ((w15).ownsRow w.heap.size 9 1 (.slice oY2 ys2.length pY2) ys2.length (ys2.map Value.string)) := owns_wide ownY2 hb14.size
      have LOY2 : Hid (∀ g, (Value.ownBlock (.slice oY2 ys2.length pY2)) = some g → (w14).heap.size ≤ g) := fun g hg => owns_ge ownY2 hg
      have HIY2 : Hid (∀ g, (Value.ownBlock (.slice oY2 ys2.length pY2)) = some g → g < (w15).heap.size) := fun g hg => owns_lt ownY2 hg
      clear ownY2
      have HOG2_15 : Hid ((w15).ownsRow w.heap.size 131 2 (.slice oG2 fs2.length pG2) fs2.length (flatF fs2)) := owns_wide ownG2 hb14.size
      have LOG2 : Hid (∀ g, (Value.ownBlock (.slice oG2 fs2.length pG2)) = some g → (w14).heap.size ≤ g) := fun g hg => owns_ge ownG2 hg
      have HIG2 : Hid (∀ g, (Value.ownBlock (.slice oG2 fs2.length pG2)) = some g → g < (w15).heap.size) := fun g hg => owns_lt ownG2 hg
      clear ownG2
      clear hb14 HOX_14 HOY_14 HOG_14 HOX1_14 HOY1_14 HOG1_14 HBv1_14 HBv2_14 bw
      go_upto_region 13 with fail
      obtain ⟨qv3, hqv3⟩ : ∃ q, q = (w15).heap.size := ⟨_, rfl⟩
      obtain ⟨w16, hW16⟩ : ∃ W, W = (w15).alloc (.cells #[.string p2, .slice oX2 xs2.length pX2, .slice oY2 ys2.length pY2, .int .i64 st2, .slice oG2 fs2.length pG2, .string b2, .int .i64 t2] 29) := ⟨_, rfl⟩
      have hz16 : (w15).heap.size = qv3 := hqv3.symm
      first | rw [← hW16, ← hqv3] | rw [← hW16]
      have hs16 : w16.heap.size = qv3 + 1 := by rw [hW16, ← hz16]; simp
      have bw : Below (w15).heap.size (w15) w16 := by rw [hW16]; exact (Below.refl _ _).alloc (Nat.le_refl _) _
      have hb16 : Below w.heap.size w (w16) := hb15.trans (bw.mono hb15.size)
      have HM16 : Hid ((w15).heap.size ≤ (w16).heap.size) := bw.size
      have HOX_16 : Hid ((w16).ownsRow w.heap.size 9 1 (.slice oX xs.length pX) xs.length (xs.map Value.string)) := owns_below HOX_15.out bw (fun g hg => owns_lt HOX_15.out hg)
      have HOY_16 : Hid ((w16).ownsRow w.heap.size 9 1 (.slice oY ys.length pY) ys.length (ys.map Value.string)) := owns_below HOY_15.out bw (fun g hg => owns_lt HOY_15.out hg)
      have HOG_16 : Hid ((w16).ownsRow w.heap.size 131 2 (.slice oG fs.length pG) fs.length (flatF fs)) := owns_below HOG_15.out bw (fun g hg => owns_lt HOG_15.out hg)
      have HOX1_16 : Hid ((w16).ownsRow w.heap.size 9 1 (.slice oX1 xs.length pX1) xs.length (xs.map Value.string)) := owns_below HOX1_15.out bw (fun g hg => owns_lt HOX1_15.out hg)
      have HOY1_16 : Hid ((w16).ownsRow w.heap.size 9 1 (.slice oY1 ys.length pY1) ys.length (ys.map Value.string)) := owns_below HOY1_15.out bw (fun g hg => owns_lt HOY1_15.out hg)
      have HOG1_16 : Hid ((w16).ownsRow w.heap.size 131 2 (.slice oG1 fs.length pG1) fs.length (flatF fs)) := owns_below HOG1_15.out bw (fun g hg => owns_lt HOG1_15.out hg)
      have HOX2_16 : Hid ((w16).ownsRow w.heap.size 9 1 (.slice oX2 xs2.length pX2) xs2.length (xs2.map Value.string)) := owns_below HOX2_15.out bw (fun g hg => owns_lt HOX2_15.out hg)
      have HOY2_16 : Hid ((w16).ownsRow w.heap.size 9 1 (.slice oY2 ys2.length pY2) ys2.length (ys2.map Value.string)) := owns_below HOY2_15.out bw (fun g hg => owns_lt HOY2_15.out hg)
      have HOG2_16 : Hid ((w16).ownsRow w.heap.size 131 2 (.slice oG2 fs2.length pG2) fs2.length (flatF fs2)) := owns_below HOG2_15.out bw (fun g hg => owns_lt HOG2_15.out hg)
      have HBv1_16 : Hid ((w16).heap[qv1]? = some (.cells #[.string p, .slice oX xs.length pX, .slice oY ys.length pY, .int .i64 st, .slice oG fs.length pG, .string b, .int .i64 t] 29)) := blk_below HBv1_15.out bw
      have HBv2_16 : Hid ((w16).heap[qv2]? = some (.cells #[.string p, .slice oX1 xs.length pX1, .slice oY1 ys.length pY1, .int .i64 st, .slice oG1 fs.length pG1, .string b, .int .i64 t] 29)) := blk_below HBv2_15.out bw
      have HNv1v3 : Hid (qv1 ≠ qv3) := fun e => by have h1 := (Array.getElem?_eq_some_iff.1 HBv1_15.out).1; omega
      have HNv2v3 : Hid (qv2 ≠ qv3) := fun e => by have h1 := (Array.getElem?_eq_some_iff.1 HBv2_15.out).1; omega
      have HBv3_16 : Hid ((w16).heap[qv3]? = some (.cells #[.string p2, .slice oX2 xs2.length pX2, .slice oY2 ys2.length pY2, .int .i64 st2, .slice oG2 fs2.length pG2, .string b2, .int .i64 t2] 29)) := by show _ = _; rw [hW16, ← hz16]; exact heap_alloc_new _ _
      have HGv3 : Hid (w.heap.size ≤ qv3) := by show _ ≤ _; rw [← hz16]; exact hb15.size
      clear hb15 HOX_15 HOY_15 HOG_15 HOX1_15 HOY1_15 HOG1_15 HOX2_15 HOY2_15 HOG2_15 HBv1_15 HBv2_15 bw hW16 hz16
      clear hs16 hqv3
      go_wp2_with fail
      refine ((specObjRead_any x _ (by have := HXZ.out; omega) ).mono (fun _ _ h => objRdT HK2.out HXV2.out h)).mono ?_
      rintro e w17 ⟨vv1, vv2, vv3, rfl, ⟨ownX3, ownY3, ownG3, _⟩, bw⟩
      obtain ⟨oX3, pX3, rfl⟩ := slice_of_owns ownX3
      obtain ⟨oY3, pY3, rfl⟩ := slice_of_owns ownY3
      obtain ⟨oG3, pG3, rfl⟩ := slice_of_owns ownG3
      have hb17 : Below w.heap.size w (w17) := hb16.trans (bw.mono hb16.size)
      have HM17 : Hid ((w16).heap.size ≤ (w17).heap.size) := bw.size
      have HOX_17 : Hid ((w17).ownsRow w.heap.size 9 1 (.slice oX xs.length pX) xs.length (xs.map Value.string)) := owns_below HOX_16.out bw (fun g hg => owns_lt HOX_16.out hg)
      have HOY_17 : Hid ((w17).ownsRow w.heap.size 9 1 (.slice oY ys.length pY) ys.length (ys.map Value.string)) := owns_below HOY_16.out bw (fun g hg => owns_lt HOY_16.out hg)
      have HOG_17 : Hid ((w17).ownsRow w.heap.size 131 2 (.slice oG fs.length pG) fs.length (flatF fs)) := owns_below HOG_16.out bw (fun g hg => owns_lt HOG_16.out hg)
      have HOX1_17 : Hid ((w17).ownsRow w.heap.size 9 1 (.slice oX1 xs.length pX1) xs.length (xs.map Value.string)) := owns_below HOX1_16.out bw (fun g hg => owns_lt HOX1_16.out hg)
      have HOY1_17 : Hid ((w17).ownsRow w.heap.size 9 1 (.slice oY1 ys.length pY1) ys.length (ys.map Value.string)) := owns_below HOY1_16.out bw (fun g hg => owns_lt HOY1_16.out hg)
      have HOG1_17 : Hid ((w17).ownsRow w.heap.size 131 2 (.slice oG1 fs.length pG1) fs.length (flatF fs)) := owns_below HOG1_16.out bw (fun g hg => owns_lt HOG1_16.out hg)
      have HOX2_17 : Hid ((w17).ownsRow w.heap.size 9 1 (.slice oX2 xs2.length pX2) xs2.length (xs2.map Value.string)) := owns_below HOX2_16.out bw (fun g hg => owns_lt HOX2_16.out hg)
      have HOY2_17 : Hid ((w17).ownsRow w.heap.size 9 1 (.slice oY2 ys2.length pY2) ys2.length (ys2.map Value.string)) := owns_below HOY2_16.out bw (fun g hg => owns_lt HOY2_16.out hg)
      have HOG2_17 : Hid ((w17).ownsRow w.heap.size 131 2 (.slice oG2 fs2.length pG2) fs2.length (flatF fs2)) := owns_below HOG2_16.out bw (fun g hg => owns_lt HOG2_16.out hg)
      have HBv1_17 : Hid ((w17).heap[qv1]? = some (.cells #[.string p, .slice oX xs.length pX, .slice oY ys.length pY, .int .i64 st, .slice oG fs.length pG, .string b, .int .i64 t] 29)) := blk_below HBv1_16.out bw
      have HBv2_17 : Hid ((w17).heap[qv2]? = some (.cells #[.string p, .slice oX1 xs.length pX1, .slice oY1 ys.length pY1, .int .i64 st, .slice oG1 fs.length pG1, .string b, .int .i64 t] 29)) := blk_below HBv2_16.out bw
      have HBv3_17 : Hid ((w17).heap[qv3]? = some (.cells #[.string p2, .slice oX2 xs2.length pX2, .slice oY2 ys2.length pY2, .int .i64 st2, .slice oG2 fs2.length pG2, .string b2, .int .i64 t2] 29)) := blk_below HBv3_16.out bw
      have HOX3_17 : Hid ((w17).ownsRow w.heap.size 9 1 (.slice oX3 xs2.length pX3) xs2.length (xs2.map Value.string)) := owns_wide ownX3 hb16.size
      have LOX3 : Hid (∀ g, (Value.ownBlock (.slice oX3 xs2.length pX3)) = some g → (w16).heap.size ≤ g) := fun g hg => owns_ge ownX3 hg
      have HIX3 : Hid (∀ g, (Value.ownBlock (.slice oX3 xs2.length pX3)) = some g → g < (w17).heap.size) := fun g hg => owns_lt ownX3 hg
      clear ownX3
      have HOY3_17 : Hid ((w17).ownsRow w.heap.size 9 1 (.slice oY3 ys2.length pY3) ys2.length (ys2.map Value.string)) := owns_wide ownY3 hb16.size
      have LOY3 : Hid (∀ g, (Value.ownBlock (.slice oY3 ys2.length pY3)) = some g → (w16).heap.size ≤ g) := fun g hg => owns_ge ownY3 hg
      have HIY3 : Hid (∀ g, (Value.ownBlock (.slice oY3 ys2.length pY3)) = some g → g < (w17).heap.size) := fun g hg => owns_lt ownY3 hg
      clear ownY3
      have HOG3_17 : Hid ((w17).ownsRow w.heap.size 131 2 (.slice oG3 fs2.length pG3) fs2.length (flatF fs2)) := owns_wide ownG3 hb16.size
      have LOG3 : Hid (∀ g, (Value.ownBlock (.slice oG3 fs2.length pG3)) = some g → (w16).heap.size ≤ g) := fun g hg => owns_ge ownG3 hg
      have HIG3 : Hid (∀ g, (Value.ownBlock (.slice oG3 fs2.length pG3)) = some g → g < (w17).heap.size) := fun g hg => owns_lt ownG3 hg
      clear ownG3
      clear hb16 HOX_16 HOY_16 HOG_16 HOX1_16 HOY1_16 HOG1_16 HOX2_16 HOY2_16 HOG2_16 HBv1_16 HBv2_16 HBv3_16 bw
      go_upto_region 14 with fail
      obtain ⟨qv4, hqv4⟩ : ∃ q, q = (w17).heap.size := ⟨_, rfl⟩
      obtain ⟨w18, hW18⟩ : ∃ W, W = (w17).alloc (.cells #[.string p2, .slice oX3 xs2.length pX3, .slice oY3 ys2.length pY3, .int .i64 st2, .slice oG3 fs2.length pG3, .string b2, .int .i64 t2] 29) := ⟨_, rfl⟩
      have hz18 : (w17).heap.size = qv4 := hqv4.symm
      first | rw [← hW18, ← hqv4] | rw [← hW18]
      have hs18 : w18.heap.size = qv4 + 1 := by rw [hW18, ← hz18]; simp
      have bw : Below (w17).heap.size (w17) w18 := by rw [hW18]; exact (Below.refl _ _).alloc (Nat.le_refl _) _
      have hb18 : Below w.heap.size w (w18) := hb17.trans (bw.mono hb17.size)
      have HM18 : Hid ((w17).heap.size ≤ (w18).heap.size) := bw.size
      have HOX_18 : Hid ((w18).ownsRow w.heap.size 9 1 (.slice oX xs.length pX) xs.length (xs.map Value.string)) := owns_below HOX_17.out bw (fun g hg => owns_lt HOX_17.out hg)
      have HOY_18 : Hid ((w18).ownsRow w.heap.size 9 1 (.slice oY ys.length pY) ys.length (ys.map Value.string)) := owns_below HOY_17.out bw (fun g hg => owns_lt HOY_17.out hg)
      have HOG_18 : Hid ((w18).ownsRow w.heap.size 131 2 (.slice oG fs.length pG) fs.length (flatF fs)) := owns_below HOG_17.out bw (fun g hg => owns_lt HOG_17.out hg)
      have HOX1_18 : Hid ((w18).ownsRow w.heap.size 9 1 (.slice oX1 xs.length pX1) xs.length (xs.map Value.string)) := owns_below HOX1_17.out bw (fun g hg => owns_lt HOX1_17.out hg)
      have HOY1_18 : Hid ((w18).ownsRow w.heap.size 9 1 (.slice oY1 ys.length pY1) ys.length (ys.map Value.string)) := owns_below HOY1_17.out bw (fun g hg => owns_lt HOY1_17.out hg)
      have HOG1_18 : Hid ((w18).ownsRow w.heap.size 131 2 (.slice oG1 fs.length pG1) fs.length (flatF fs)) := owns_below HOG1_17.out bw (fun g hg => owns_lt HOG1_17.out hg)
      have HOX2_18 : Hid ((w18).ownsRow w.heap.size 9 1 (.slice oX2 xs2.length pX2) xs2.length (xs2.map Value.string)) := owns_below HOX2_17.out bw (fun g hg => owns_lt HOX2_17.out hg)
      have HOY2_18 : Hid ((w18).ownsRow w.heap.size 9 1 (.slice oY2 ys2.length pY2) ys2.length (ys2.map Value.string)) := owns_below HOY2_17.out bw (fun g hg => owns_lt HOY2_17.out hg)
      have HOG2_18 : Hid ((w18).ownsRow w.heap.size 131 2 (.slice oG2 fs2.length pG2) fs2.length (flatF fs2)) := owns_below HOG2_17.out bw (fun g hg => owns_lt HOG2_17.out hg)
      have HOX3_18 : Hid ((w18).ownsRow w.heap.size 9 1 (.slice oX3 xs2.length pX3) xs2.length (xs2.map Value.string)) := owns_below HOX3_17.out bw (fun g hg => owns_lt HOX3_17.out hg)
      have HOY3_18 : Hid ((w18).ownsRow w.heap.size 9 1 (.slice oY3 ys2.length pY3) ys2.length (ys2.map Value.string)) := owns_below HOY3_17.out bw (fun g hg => owns_lt HOY3_17.out hg)
      have HOG3_18 : Hid ((w18).ownsRow w.heap.size 131 2 (.slice oG3 fs2.length pG3) fs2.length (flatF fs2)) := owns_below HOG3_17.out bw (fun g hg => owns_lt HOG3_17.out hg)
      have HBv1_18 : Hid ((w18).heap[qv1]? = some (.cells #[.string p, .slice oX xs.length pX, .slice oY ys.length pY, .int .i64 st, .slice oG fs.length pG, .string b, .int .i64 t] 29)) := blk_below HBv1_17.out bw
      have HBv2_18 : Hid ((w18).heap[qv2]? = some (.cells #[.string p, .slice oX1 xs.length pX1, .slice oY1 ys.length pY1, .int .i64 st, .slice oG1 fs.length pG1, .string b, .int .i64 t] 29)) := blk_below HBv2_17.out bw
      have HBv3_18 : Hid ((w18).heap[qv3]? = some (.cells #[.string p2, .slice oX2 xs2.length pX2, .slice oY2 ys2.length pY2, .int .i64 st2, .slice oG2 fs2.length pG2, .string b2, .int .i64 t2] 29)) := blk_below HBv3_17.out bw
      have HNv1v4 : Hid (qv1 ≠ qv4) := fun e => by have h1 := (Array.getElem?_eq_some_iff.1 HBv1_17.out).1; omega
      have HNv2v4 : Hid (qv2 ≠ qv4) := fun e => by have h1 := (Array.getElem?_eq_some_iff.1 HBv2_17.out).1; omega
      have HNv3v4 : Hid (qv3 ≠ qv4) := fun e => by have h1 := (Array.getElem?_eq_some_iff.1 HBv3_17.out).1; omega
      have HBv4_18 : Hid ((w18).heap[qv4]? = some (.cells #[.string p2, .slice oX3 xs2.length pX3, .slice oY3 ys2.length pY3, .int .i64 st2, .slice oG3 fs2.length pG3, .string b2, .int .i64 t2] 29)) := by show _ = _; rw [hW18, ← hz18]; exact heap_alloc_new _ _
      have HGv4 : Hid (w.heap.size ≤ qv4) := by show _ ≤ _; rw [← hz18]; exact hb17.size
      clear hb17 HOX_17 HOY_17 HOG_17 HOX1_17 HOY1_17 HOG1_17 HOX2_17 HOY2_17 HOG2_17 HOX3_17 HOY3_17 HOG3_17 HBv1_17 HBv2_17 HBv3_17 bw hW18 hz18
      clear hs18 hqv4
      have cv3_0 : (w18).cell? ⟨qv3, 0, none⟩ = some (.string p2) := (cell_of HBv3_18.out 0).trans rfl
      have cv3_1 : (w18).cell? ⟨qv3, 1, none⟩ = some (.slice oX2 xs2.length pX2) := (cell_of HBv3_18.out 1).trans rfl
      have cv3_2 : (w18).cell? ⟨qv3, 2, none⟩ = some (.slice oY2 ys2.length pY2) := (cell_of HBv3_18.out 2).trans rfl
      have cv3_3 : (w18).cell? ⟨qv3, 3, none⟩ = some (.int .i64 st2) := (cell_of HBv3_18.out 3).trans rfl
      have cv3_4 : (w18).cell? ⟨qv3, 4, none⟩ = some (.slice oG2 fs2.length pG2) := (cell_of HBv3_18.out 4).trans rfl
      have cv3_5 : (w18).cell? ⟨qv3, 5, none⟩ = some (.string b2) := (cell_of HBv3_18.out 5).trans rfl
      have cv3_6 : (w18).cell? ⟨qv3, 6, none⟩ = some (.int .i64 t2) := (cell_of HBv3_18.out 6).trans rfl
      go_wp2_with fail
      refine (implObjText_any p2 _ xs2.length _ xs2 _ ys2.length _ ys2 st2 _ fs2.length _ fs2 b2 t2 _ (texts_view HOX2_18.out) (texts_view HOY2_18.out) (FieldsV.of_owns HOG2_18.out) (by have := HSM2.out.2.1.1; omega) (by have := HSM2.out.2.2.1.1; omega) (by have := HSM2.out.2.2.2.1.1; omega) (fun i hi => by have := HSM2.out.2.1.2 _ (textAt_mem xs2 i hi); unfold maxLen; omega) (fun i hi => by have := HSM2.out.2.2.1.2 _ (textAt_mem ys2 i hi); unfold maxLen; omega) (shortWalk HSM2.out.2.2.2.1.2) (by have := HSM2.out.1; unfold maxLen; omega) (by have := HSM2.out.2.2.2.2.1; unfold maxLen; omega) (by have := short_get2 HSM2.out.2.2.2.1.2 varyName; omega) HSM2.out.2.2.2.1.2.copy (HT.out _ hb18)).mono ?_
      rintro e w19 ⟨uu, rfl, hu, _, bw⟩
      obtain rfl : x = uu := HK2.out.2.symm.trans (hu HOP2.out).symm
      clear hu
      have hb19 : Below w.heap.size w (w19) := hb18.trans (bw.mono hb18.size)
      have HM19 : Hid ((w18).heap.size ≤ (w19).heap.size) := bw.size
      have HOX_19 : Hid ((w19).ownsRow w.heap.size 9 1 (.slice oX xs.length pX) xs.length (xs.map Value.string)) := owns_below HOX_18.out bw (fun g hg => owns_lt HOX_18.out hg)
      have HOY_19 : Hid ((w19).ownsRow w.heap.size 9 1 (.slice oY ys.length pY) ys.length (ys.map Value.string)) := owns_below HOY_18.out bw (fun g hg => owns_lt HOY_18.out hg)
      have HOG_19 : Hid ((w19).ownsRow w.heap.size 131 2 (.slice oG fs.length pG) fs.length (flatF fs)) := owns_below HOG_18.out bw (fun g hg => owns_lt HOG_18.out hg)
      have HOX1_19 : Hid ((w19).ownsRow w.heap.size 9 1 (.slice oX1 xs.length pX1) xs.length (xs.map Value.string)) := owns_below HOX1_18.out bw (fun g hg => owns_lt HOX1_18.out hg)
      have HOY1_19 : Hid ((w19).ownsRow w.heap.size 9 1 (.slice oY1 ys.length pY1) ys.length (ys.map Value.string)) := owns_below HOY1_18.out bw (fun g hg => owns_lt HOY1_18.out hg)
      have HOG1_19 : Hid ((w19).ownsRow w.heap.size 131 2 (.slice oG1 fs.length pG1) fs.length (flatF fs)) := owns_below HOG1_18.out bw (fun g hg => owns_lt HOG1_18.out hg)
      have HOX2_19 : Hid ((w19).ownsRow w.heap.size 9 1 (.slice oX2 xs2.length pX2) xs2.length (xs2.map Value.string)) := owns_below HOX2_18.out bw (fun g hg => owns_lt HOX2_18.out hg)
      have HOY2_19 : Hid ((w19).ownsRow w.heap.size 9 1 (.slice oY2 ys2.length pY2) ys2.length (ys2.map Value.string)) := owns_below HOY2_18.out bw (fun g hg => owns_lt HOY2_18.out hg)
      have HOG2_19 : Hid ((w19).ownsRow w.heap.size 131 2 (.slice oG2 fs2.length pG2) fs2.length (flatF fs2)) := owns_below HOG2_18.out bw (fun g hg => owns_lt HOG2_18.out hg)
      have HOX3_19 : Hid ((w19).ownsRow w.heap.size 9 1 (.slice oX3 xs2.length pX3) xs2.length (xs2.map Value.string)) := owns_below HOX3_18.out bw (fun g hg => owns_lt HOX3_18.out hg)
      have HOY3_19 : Hid ((w19).ownsRow w.heap.size 9 1 (.slice oY3 ys2.length pY3) ys2.length (ys2.map Value.string)) := owns_below HOY3_18.out bw (fun g hg => owns_lt HOY3_18.out hg)
      have HOG3_19 : Hid ((w19).ownsRow w.heap.size 131 2 (.slice oG3 fs2.length pG3) fs2.length (flatF fs2)) := owns_below HOG3_18.out bw (fun g hg => owns_lt HOG3_18.out hg)
      have HBv1_19 : Hid ((w19).heap[qv1]? = some (.cells #[.string p, .slice oX xs.length pX, .slice oY ys.length pY, .int .i64 st, .slice oG fs.length pG, .string b, .int .i64 t] 29)) := blk_below HBv1_18.out bw
      have HBv2_19 : Hid ((w19).heap[qv2]? = some (.cells #[.string p, .slice oX1 xs.length pX1, .slice oY1 ys.length pY1, .int .i64 st, .slice oG1 fs.length pG1, .string b, .int .i64 t] 29)) := blk_below HBv2_18.out bw
      have HBv3_19 : Hid ((w19).heap[qv3]? = some (.cells #[.string p2, .slice oX2 xs2.length pX2, .slice oY2 ys2.length pY2, .int .i64 st2, .slice oG2 fs2.length pG2, .string b2, .int .i64 t2] 29)) := blk_below HBv3_18.out bw
      have HBv4_19 : Hid ((w19).heap[qv4]? = some (.cells #[.string p2, .slice oX3 xs2.length pX3, .slice oY3 ys2.length pY3, .int .i64 st2, .slice oG3 fs2.length pG3, .string b2, .int .i64 t2] 29)) := blk_below HBv4_18.out bw
      clear hb18 HOX_18 HOY_18 HOG_18 HOX1_18 HOY1_18 HOG1_18 HOX2_18 HOY2_18 HOG2_18 HOX3_18 HOY3_18 HOG3_18 HBv1_18 HBv2_18 HBv3_18 HBv4_18 bw
      clear cv3_0 cv3_1 cv3_2 cv3_3 cv3_4 cv3_5 cv3_6
      go_wp2_with fail
      go_ret
      exact ⟨rfl, hb19⟩

set_option maxRecDepth 100000 in
theorem contract (H : Type) (enc : TypeId × Value → H) (W : World) (base : Nat) (args : Array Value) (ds gs : List (DataW H)) (before : List MemPlace)
    (hval : ∀ (j : Nat) t v, Tryz.f3.params[j]? = some t → args[j]? = some v → Value.okWide Tryz.prog W .any base t v)
    (hW : DataW.Whole enc Tryz.prog Tryz.f3.params.toList Rows.fnObjectsSpec.vars false W args.toList ds gs before) (hL : laidMetH Tryz.prog Rows.fnObjectsRow.laid W) (hSh : W.ShapedOpen Tryz.prog) :
    Calls Tryz.prog 3 args W fun e W' => ∃ v, e = .returned v ∧ Rows.fnObjectsSpec.post enc Tryz.prog Tryz.f3 false true false false W args v W' := by
  have hT : TabOk W := table hL
  have hLN : LenOk W := Tryz.laysM145.s1_3 W hSh
  have hW' := hW
  obtain ⟨p, q, hA0, hV, rfl, hfz, hnd⟩ := hW
  have hA : DataW.TrodAll enc Tryz.prog W 0 (fun _ => true) true Tryz.f3.params.toList args.toList ds p := hA0
  rw [Tryz.params3] at hA hval
  obtain ⟨v0, vs0, d0, ds0, p0, q0, hargs, rfl, rfl, h0, r0⟩ := trodAll_cons hA
  obtain ⟨rfl, rfl, rfl⟩ := trodAll_nil r0
  obtain rfl : args = #[v0] := by cases args; simp_all
  obtain ⟨rfl, rfl⟩ := trodVars_none hV
  obtain ⟨a0, len0, cap0, rfl⟩ := okWide_slice Tryz.underlying22 (hval 0 22 v0 rfl rfl)
  have k0 := h0
  have lt0 : ∀ x ∈ p0, x.block < W.heap.size := by obtain ⟨m, hm⟩ := k0; exact DataW.trod_lt m _ _ _ hm
  obtain ⟨z0, w0⟩ : ∃ zs, IsRow .u8 W a0 len0 cap0 zs := by
    obtain ⟨fuel, hf⟩ := h0
    rcases open_ints Tryz.underlying22 Tryz.underlying5 (by kernel_rfl) hf with ⟨hcs, _⟩ | ⟨x, l, c, zs, hcs, _, hl, hm, hz, _, hcell, hwz⟩
    · simp [Value.cells] at hcs
      obtain ⟨rfl, rfl, rfl⟩ := hcs
      exact ⟨[], .inl ⟨rfl, rfl, rfl, rfl⟩⟩
    · simp [Value.cells] at hcs
      obtain ⟨rfl, rfl, rfl⟩ := hcs
      exact ⟨zs, .inr ⟨_, rfl, hl, hm, by simpa using hz, hcell, hwz⟩⟩
  clear hA0
  refine (walk1 W a0 len0 cap0 z0 w0 hT hLN).mono fun e W' ⟨he, bel⟩ => ?_
  subst he
  exact ⟨_, rfl, _, _, _, [], _, [], hW', trodAll_mk1 (shut_bool Tryz.underlying4 _), (trodAll_cons_mk (Below.trod laidOut (by kernel_rfl) (of_decide_eq_true (by kernel_rfl)) k0 bel lt0) trodAll_mk0), rfl, bel.frame _, fun h => by cases h⟩

theorem laid_met (os : Os) : laidMet Tryz.prog Rows.fnObjectsRow.laid ((withTables (World.holding Tryz.prog os ⟨#[], #[], []⟩)).forCall (fun _ _ => 0) ⟨#[], #[.slice none 0 0], []⟩).memory :=
  laidMet_of_run' 80 (by kernel_rfl) (by kernel_rfl)
theorem reads (os : Os) {H : Type} (enc : TypeId × Value → H) : ∃ places, DataW.whole enc Tryz.prog ((withTables (World.holding Tryz.prog os ⟨#[], #[], []⟩)).forCall (fun _ _ => 0) ⟨#[], #[.slice none 0 0], []⟩).memory Tryz.f3.params.toList Rows.fnObjectsSpec.vars false #[(.slice none 0 0 : Value)].toList 8 = some ([.nil], [], places) :=
  ⟨[], by kernel_rfl⟩

set_option maxRecDepth 100000 in
theorem lifted (os : Os) (started : os.Started) (H : Type) (enc : TypeId × Value → H) (F : Stop.Interp) :
    ReturnsInHanded {} Tryz.checked os 3 .any ((OpenSpec.ofChange Rows.fnObjectsSpec).preRow enc Tryz.prog Tryz.f3 Rows.fnObjectsRow.domain false Rows.fnObjectsRow.laid) (((OpenSpec.ofChange Rows.fnObjectsSpec).at F).post enc Tryz.prog Tryz.f3 false true false false) := by
  obtain ⟨places, hx⟩ := reads os enc
  refine returnsInHanded_of_row (C := Tryz.checked) (s := OpenSpec.ofChange Rows.fnObjectsSpec) own started (by kernel_rfl) Tryz.func3
    (witness_row_at (enc := enc) (C := Tryz.checked) false (withTables (World.holding Tryz.prog os ⟨#[], #[], []⟩)) #[.slice none 0 0] rfl (by kernel_rfl) (by kernel_rfl) (by kernel_rfl)
      (OpenSpec.preRow_of_cond 8 hx (by kernel_rfl) (fun k hk => by cases hk) (by kernel_rfl) (laid_met os))) ?_
  intro W base args ds gs before hval hW _ _ _ hL hSh _
  exact contract H enc W base args ds gs before hval hW hL hSh

theorem said : Rows.FnObjectsSaid :=
  OpenClaim.holds_of_cond 3 Tryz.f3 rfl rfl rfl rfl rfl rfl rfl ⟨rfl, rfl, rfl, rfl, rfl⟩ rfl rfl rfl rfl rfl (by kernel_rfl) Tryz.func3 (by kernel_rfl)
    (of_decide_eq_true (by kernel_rfl)) (by unfold Func.isWrapper; first | (rw [if_pos (by decide +kernel)]; kernel_rfl) | (rw [if_neg (by decide +kernel)]; exact ⟨rfl, rfl⟩))
    (fun os started H enc _ F => by rw [OpenClaim.pre_eq_preRow]; exact lifted os started H enc F)

theorem plain (f : FuncId) (fn : Func) (hf : Tryz.pinned.checked.prog.funcNamed "loop.example/g00239/laws.FnObjects" = some f) (hfn : Tryz.pinned.checked.prog.funcs[f]? = some fn) :
    false = Tryz.pinned.checked.prog.looks [] ∧ ∀ (j : Nat) t, fn.params[j]? = some t → Tryz.pinned.checked.prog.wantsStandIn t = false := by
  obtain rfl : f = 3 := Option.some.inj ((show Tryz.prog.funcNamed "loop.example/g00239/laws.FnObjects" = some 3 by kernel_rfl).symm.trans hf) |>.symm
  obtain rfl : fn = Tryz.f3 := (Option.some.inj (Tryz.func3.symm.trans hfn)).symm
  refine ⟨by kernel_rfl, fun j t ht => ?_⟩
  rw [Tryz.params3] at ht
  obtain rfl : t = 22 := by simpa using Array.mem_of_getElem? ht
  exact (show Tryz.prog.wantsStandIn 22 = false by kernel_rfl)

theorem card : Rows.FnObjectsCardSaid :=
  Claim7.holds_tied_plain_at .later [] _ _ _ _ said (fun _ h => by cases h) (by kernel_rfl) (fun _ h => by cases h) fnObjects_row_tie rfl ⟨rfl, rfl⟩ (by kernel_rfl) rfl plain (by kernel_rfl)
end fnObjects

theorem fnObjects_holds : Rows.FnObjectsCardSaid := fnObjects.card
#print axioms fnObjects_holds
end Go.Proofs.YtdlhicdfldecgaaGreatDoor
