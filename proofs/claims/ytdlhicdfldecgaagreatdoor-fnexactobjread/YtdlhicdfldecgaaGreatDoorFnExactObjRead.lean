/- ObjRead: at every argument the program answers as the specification (the law answers true), it writes into no argument, and its answer owns its memory. The card lists the tables that strconv.Itoa's text names. -/
import Derived.Test.YtdlhicdfldecgaaGreatDoorFnExactObjReadE
import Derived.Below
import Derived.ChangeOld
import Derived.ShutString
import Derived.Deep.RegionHeld3
import Derived.Deep.DrawnRows
import Derived.Deep.CutRange
import Derived.Deep.DeepCutAuto
namespace Go.Proofs.YtdlhicdfldecgaaGreatDoor
namespace fnExactObjRead
open Go.ChangeShapes Go.WideShapes Go.ChangeAt Go.RowKit
open Go.ChangeMaps (open_string shut_string)
attribute [local go_sem ↓] Go.wp_at_zero Go.wp_at_succ

theorem own : ownKnob Tryz.prog.godebug = none := by kernel_rfl
theorem laidOut : laidOutB Tryz.prog = true := by kernel_rfl
theorem nilO (W : World) (B : Nat) : ObjO W B (.slice none 0 0) 0 [] (.slice none 0 0) 0 [] (.slice none 0 0) 0 [] :=
  ⟨World.ownsRow_nil _ _ _ _, World.ownsRow_nil _ _ _ _, World.ownsRow_nil _ _ _ _, fun _ h => by simp [Value.ownBlock] at h⟩
theorem blk_lt {w : World} {q : Nat} {x} (h : w.heap[q]? = some x) : q < w.heap.size := (Array.getElem?_eq_some_iff.1 h).1
/-- What is read. -/
def ObjRdT (p : ByteArray) (st : Int) (gs : List (ByteArray × ByteArray)) (d : ByteArray) (t : Int) (vl yl : List ByteArray) (k : Nat) (w : World) (e : Ending) (w' : World) : Prop :=
  ∃ v1 v2 v3, e = .returned (.tuple #[.agg #[.string p, v1, v2, .int .i64 st, v3, .string d, .int .i64 t], .bool true]) ∧ ObjO w' w.heap.size v1 vl.length vl v2 yl.length yl v3 k gs ∧ Below w.heap.size w w'
theorem objRdT {a p : ByteArray} {ys : List ByteArray} {st : Int} {gs : List (ByteArray × ByteArray)} {d : ByteArray} {t : Int} {vl : List ByteArray} {k : Nat} {prog : Program} {f : FuncId} {args : Array Value} {w : World} (hK : IsObj a p ys st gs d t) (hvl : vl = varyP gs) (hk : gs.length = k) (h : Calls prog f args w fun e w' => ObjIs a w e w') : Calls prog f args w fun e w' => ObjRdT p st gs d t vl ys k w e w' :=
  h.mono fun e w' ⟨h1, h2⟩ => by
    rcases h2 with ⟨p', ys', st', fs', b', t', v1, v2, v3, h3, h4, h5⟩ | ⟨h3, h4⟩
    · have hu := IsObj.uniq h4 hK
      clear h4 hK
      obtain ⟨e1, e2, e3, e4, e5, e6⟩ := hu
      rw [e2, e4, ← hvl, hk] at h5
      exact ⟨v1, v2, v3, by rw [h3, e1, e3, e5, e6], h5, h1⟩
    · exact absurd hK (h4 _ _ _ _ _ _)
theorem objRdF {a : ByteArray} {prog : Program} {f : FuncId} {args : Array Value} {w : World} (hK : ∀ p ys st gs d t, ¬ IsObj a p ys st gs d t) (h : Calls prog f args w fun e w' => ObjIs a w e w') : Calls prog f args w fun e w' => e = .returned (.tuple #[.agg #[.string ⟨#[]⟩, .slice none 0 0, .slice none 0 0, .int .i64 0, .slice none 0 0, .string ⟨#[]⟩, .int .i64 0], .bool false]) ∧ Below w.heap.size w w' :=
  h.mono fun e w' ⟨h1, h2⟩ => by
    rcases h2 with ⟨p', ys', st', fs', b', t', v1, v2, v3, h3, h4, h5⟩ | ⟨h3, h4⟩
    · exact absurd h4 (hK _ _ _ _ _ _)
    · exact ⟨h3, h1⟩

open Go.Lib hiding intOf
set_option maxHeartbeats 16000000 in
set_option maxRecDepth 100000 in
theorem walkT (w : World) (a : ByteArray) (p : ByteArray) (ys : List ByteArray) (st : Int) (gs : List (ByteArray × ByteArray)) (d : ByteArray) (t : Int) (vl : List ByteArray) (k : Nat) (hvl : vl = varyP gs) (hk : gs.length = k) (hK : IsObj a p ys st gs d t) (hT : TabOk w) (hLN : LenOk w) :
    Calls Tryz.prog 5 #[.string a] w fun e w' => e = .returned (.bool true) ∧ Below w.heap.size w w' := by
  have HTB : Hid (∀ W, Below w.heap.size w W → TabOk W) := fun W h => hT.below h
  have HLB : Hid (∀ W, Below w.heap.size w W → LenOk W) := fun W h => hLN.below h hLN.lt
  have HKK : Hid (IsObj a p ys st gs d t) := hK
  have HVL : Hid (vl = varyP gs) := hvl
  have HL2 : Hid (gs.length = k) := hk
  have HLV : Hid (vl.length ≤ 4 ∧ ys.length ≤ 4 ∧ k ≤ 8) := by have h1 := hK.1.1.2.1.1; have h2 := hK.1.2.2.2.1.2; have h3 := hK.1.2.2.2.2.2.1; rw [hvl]; exact ⟨h2, by omega, by omega⟩
  clear hT hLN hK hvl hk
  have hb0 : Below w.heap.size w w := Below.refl _ _
  go_enter Tryz.func5, Tryz.ntmps5
  by_cases hc1 : 1048576 < (a.size : Int)
  · go_wp2_with fail
    go_ret
    exact ⟨rfl, hb0⟩
  · have HSP : Hid (∀ (W : World), Below w.heap.size w W → Calls Tryz.prog 15 #[.string a] W fun e w' => ObjRdT p st gs d t vl ys k W e w') := fun W hb => objRdT HKK.out HVL.out HL2.out (specObjRead_any a W (by omega))
    have HIM : Hid (∀ (W : World), Below w.heap.size w W → Calls Tryz.prog 11 #[.string a] W fun e w' => ObjRdT p st gs d t vl ys k W e w') := fun W hb => objRdT HKK.out HVL.out HL2.out (implObjRead_any a W (by omega) (HTB.out W hb) (HLB.out W hb))
    go_wp2_with fail
    refine (HSP.out _ hb0).mono ?_
    rintro e w1 ⟨vv1, vv2, vv3, rfl, ⟨ownX1, ownY1, ownG1, ne1⟩, bw⟩
    obtain ⟨oX1, pX1, rfl⟩ := slice_of_owns ownX1
    obtain ⟨oY1, pY1, rfl⟩ := slice_of_owns ownY1
    obtain ⟨oG1, pG1, rfl⟩ := slice_of_owns ownG1
    have AP1 : Hid (∀ j, (Value.slice oX1 vl.length pX1).ownBlock = some j → (Value.slice oY1 ys.length pY1).ownBlock ≠ some j) := ne1
    clear ne1
    have hb1 : Below w.heap.size w (w1) := hb0.trans (bw.mono hb0.size)
    have HM1 : Hid ((w).heap.size ≤ (w1).heap.size) := bw.size
    have HOX1_1 : Hid ((w1).ownsRow w.heap.size 9 1 (.slice oX1 vl.length pX1) vl.length (vl.map Value.string)) := owns_wide ownX1 hb0.size
    have LOX1 : Hid (∀ g, (Value.ownBlock (.slice oX1 vl.length pX1)) = some g → (w).heap.size ≤ g) := fun g hg => owns_ge ownX1 hg
    have HIX1 : Hid (∀ g, (Value.ownBlock (.slice oX1 vl.length pX1)) = some g → g < (w1).heap.size) := fun g hg => owns_lt ownX1 hg
    clear ownX1
    have HOY1_1 : Hid ((w1).ownsRow w.heap.size 9 1 (.slice oY1 ys.length pY1) ys.length (ys.map Value.string)) := owns_wide ownY1 hb0.size
    have LOY1 : Hid (∀ g, (Value.ownBlock (.slice oY1 ys.length pY1)) = some g → (w).heap.size ≤ g) := fun g hg => owns_ge ownY1 hg
    have HIY1 : Hid (∀ g, (Value.ownBlock (.slice oY1 ys.length pY1)) = some g → g < (w1).heap.size) := fun g hg => owns_lt ownY1 hg
    clear ownY1
    have HOG1_1 : Hid ((w1).ownsRow w.heap.size 131 2 (.slice oG1 k pG1) k (flatF gs)) := owns_wide ownG1 hb0.size
    have LOG1 : Hid (∀ g, (Value.ownBlock (.slice oG1 k pG1)) = some g → (w).heap.size ≤ g) := fun g hg => owns_ge ownG1 hg
    have HIG1 : Hid (∀ g, (Value.ownBlock (.slice oG1 k pG1)) = some g → g < (w1).heap.size) := fun g hg => owns_lt ownG1 hg
    clear ownG1
    clear hb0 bw
    go_upto_region 4 with fail
    obtain ⟨qv1, hqv1⟩ : ∃ q, q = (w1).heap.size := ⟨_, rfl⟩
    obtain ⟨w2, hW2⟩ : ∃ W, W = (w1).alloc (.cells #[.string p, .slice oX1 vl.length pX1, .slice oY1 ys.length pY1, .int .i64 st, .slice oG1 k pG1, .string d, .int .i64 t] 29) := ⟨_, rfl⟩
    have hz2 : (w1).heap.size = qv1 := hqv1.symm
    first | rw [← hW2, ← hqv1] | rw [← hW2]
    have hs2 : w2.heap.size = qv1 + 1 := by rw [hW2, ← hz2]; simp
    have bw : Below (w1).heap.size (w1) w2 := by rw [hW2]; exact (Below.refl _ _).alloc (Nat.le_refl _) _
    have hb2 : Below w.heap.size w (w2) := hb1.trans (bw.mono hb1.size)
    have HM2 : Hid ((w1).heap.size ≤ (w2).heap.size) := bw.size
    have HOX1_2 : Hid ((w2).ownsRow w.heap.size 9 1 (.slice oX1 vl.length pX1) vl.length (vl.map Value.string)) := owns_below HOX1_1.out bw (fun g hg => owns_lt HOX1_1.out hg)
    have HOY1_2 : Hid ((w2).ownsRow w.heap.size 9 1 (.slice oY1 ys.length pY1) ys.length (ys.map Value.string)) := owns_below HOY1_1.out bw (fun g hg => owns_lt HOY1_1.out hg)
    have HOG1_2 : Hid ((w2).ownsRow w.heap.size 131 2 (.slice oG1 k pG1) k (flatF gs)) := owns_below HOG1_1.out bw (fun g hg => owns_lt HOG1_1.out hg)
    have HBv1_2 : Hid ((w2).heap[qv1]? = some (.cells #[.string p, .slice oX1 vl.length pX1, .slice oY1 ys.length pY1, .int .i64 st, .slice oG1 k pG1, .string d, .int .i64 t] 29)) := by show _ = _; rw [hW2, ← hz2]; exact heap_alloc_new _ _
    have HGv1 : Hid (w.heap.size ≤ qv1) := by show _ ≤ _; rw [← hz2]; exact hb1.size
    clear hb1 HOX1_1 HOY1_1 HOG1_1 bw hW2 hz2
    clear hs2 hqv1
    go_wp2_with fail
    refine (HIM.out _ hb2).mono ?_
    rintro e w3 ⟨vv1, vv2, vv3, rfl, ⟨ownX2, ownY2, ownG2, ne2⟩, bw⟩
    obtain ⟨oX2, pX2, rfl⟩ := slice_of_owns ownX2
    obtain ⟨oY2, pY2, rfl⟩ := slice_of_owns ownY2
    obtain ⟨oG2, pG2, rfl⟩ := slice_of_owns ownG2
    have AP2 : Hid (∀ j, (Value.slice oX2 vl.length pX2).ownBlock = some j → (Value.slice oY2 ys.length pY2).ownBlock ≠ some j) := ne2
    clear ne2
    have hb3 : Below w.heap.size w (w3) := hb2.trans (bw.mono hb2.size)
    have HM3 : Hid ((w2).heap.size ≤ (w3).heap.size) := bw.size
    have HOX1_3 : Hid ((w3).ownsRow w.heap.size 9 1 (.slice oX1 vl.length pX1) vl.length (vl.map Value.string)) := owns_below HOX1_2.out bw (fun g hg => owns_lt HOX1_2.out hg)
    have HOY1_3 : Hid ((w3).ownsRow w.heap.size 9 1 (.slice oY1 ys.length pY1) ys.length (ys.map Value.string)) := owns_below HOY1_2.out bw (fun g hg => owns_lt HOY1_2.out hg)
    have HOG1_3 : Hid ((w3).ownsRow w.heap.size 131 2 (.slice oG1 k pG1) k (flatF gs)) := owns_below HOG1_2.out bw (fun g hg => owns_lt HOG1_2.out hg)
    have HBv1_3 : Hid ((w3).heap[qv1]? = some (.cells #[.string p, .slice oX1 vl.length pX1, .slice oY1 ys.length pY1, .int .i64 st, .slice oG1 k pG1, .string d, .int .i64 t] 29)) := blk_below HBv1_2.out bw
    have HOX2_3 : Hid ((w3).ownsRow w.heap.size 9 1 (.slice oX2 vl.length pX2) vl.length (vl.map Value.string)) := owns_wide ownX2 hb2.size
    have LOX2 : Hid (∀ g, (Value.ownBlock (.slice oX2 vl.length pX2)) = some g → (w2).heap.size ≤ g) := fun g hg => owns_ge ownX2 hg
    have HIX2 : Hid (∀ g, (Value.ownBlock (.slice oX2 vl.length pX2)) = some g → g < (w3).heap.size) := fun g hg => owns_lt ownX2 hg
    clear ownX2
    have HOY2_3 : Hid ((w3).ownsRow w.heap.size 9 1 (.slice oY2 ys.length pY2) ys.length (ys.map Value.string)) := owns_wide ownY2 hb2.size
    have LOY2 : Hid (∀ g, (Value.ownBlock (.slice oY2 ys.length pY2)) = some g → (w2).heap.size ≤ g) := fun g hg => owns_ge ownY2 hg
    have HIY2 : Hid (∀ g, (Value.ownBlock (.slice oY2 ys.length pY2)) = some g → g < (w3).heap.size) := fun g hg => owns_lt ownY2 hg
    clear ownY2
    have HOG2_3 : Hid ((w3).ownsRow w.heap.size 131 2 (.slice oG2 k pG2) k (flatF gs)) := owns_wide ownG2 hb2.size
    have LOG2 : Hid (∀ g, (Value.ownBlock (.slice oG2 k pG2)) = some g → (w2).heap.size ≤ g) := fun g hg => owns_ge ownG2 hg
    have HIG2 : Hid (∀ g, (Value.ownBlock (.slice oG2 k pG2)) = some g → g < (w3).heap.size) := fun g hg => owns_lt ownG2 hg
    clear ownG2
    clear hb2 HOX1_2 HOY1_2 HOG1_2 HBv1_2 bw
    go_upto_region 5 with fail
    obtain ⟨qv2, hqv2⟩ : ∃ q, q = (w3).heap.size := ⟨_, rfl⟩
    obtain ⟨w4, hW4⟩ : ∃ W, W = (w3).alloc (.cells #[.string p, .slice oX2 vl.length pX2, .slice oY2 ys.length pY2, .int .i64 st, .slice oG2 k pG2, .string d, .int .i64 t] 29) := ⟨_, rfl⟩
    have hz4 : (w3).heap.size = qv2 := hqv2.symm
    first | rw [← hW4, ← hqv2] | rw [← hW4]
    have hs4 : w4.heap.size = qv2 + 1 := by rw [hW4, ← hz4]; simp
    have bw : Below (w3).heap.size (w3) w4 := by rw [hW4]; exact (Below.refl _ _).alloc (Nat.le_refl _) _
    have hb4 : Below w.heap.size w (w4) := hb3.trans (bw.mono hb3.size)
    have HM4 : Hid ((w3).heap.size ≤ (w4).heap.size) := bw.size
    have HOX1_4 : Hid ((w4).ownsRow w.heap.size 9 1 (.slice oX1 vl.length pX1) vl.length (vl.map Value.string)) := owns_below HOX1_3.out bw (fun g hg => owns_lt HOX1_3.out hg)
    have HOY1_4 : Hid ((w4).ownsRow w.heap.size 9 1 (.slice oY1 ys.length pY1) ys.length (ys.map Value.string)) := owns_below HOY1_3.out bw (fun g hg => owns_lt HOY1_3.out hg)
    have HOG1_4 : Hid ((w4).ownsRow w.heap.size 131 2 (.slice oG1 k pG1) k (flatF gs)) := owns_below HOG1_3.out bw (fun g hg => owns_lt HOG1_3.out hg)
    have HOX2_4 : Hid ((w4).ownsRow w.heap.size 9 1 (.slice oX2 vl.length pX2) vl.length (vl.map Value.string)) := owns_below HOX2_3.out bw (fun g hg => owns_lt HOX2_3.out hg)
    have HOY2_4 : Hid ((w4).ownsRow w.heap.size 9 1 (.slice oY2 ys.length pY2) ys.length (ys.map Value.string)) := owns_below HOY2_3.out bw (fun g hg => owns_lt HOY2_3.out hg)
    have HOG2_4 : Hid ((w4).ownsRow w.heap.size 131 2 (.slice oG2 k pG2) k (flatF gs)) := owns_below HOG2_3.out bw (fun g hg => owns_lt HOG2_3.out hg)
    have HBv1_4 : Hid ((w4).heap[qv1]? = some (.cells #[.string p, .slice oX1 vl.length pX1, .slice oY1 ys.length pY1, .int .i64 st, .slice oG1 k pG1, .string d, .int .i64 t] 29)) := blk_below HBv1_3.out bw
    have HNv1v2 : Hid (qv1 ≠ qv2) := fun e => by have h1 := (Array.getElem?_eq_some_iff.1 HBv1_3.out).1; omega
    have HBv2_4 : Hid ((w4).heap[qv2]? = some (.cells #[.string p, .slice oX2 vl.length pX2, .slice oY2 ys.length pY2, .int .i64 st, .slice oG2 k pG2, .string d, .int .i64 t] 29)) := by show _ = _; rw [hW4, ← hz4]; exact heap_alloc_new _ _
    have HGv2 : Hid (w.heap.size ≤ qv2) := by show _ ≤ _; rw [← hz4]; exact hb3.size
    clear hb3 HOX1_3 HOY1_3 HOG1_3 HOX2_3 HOY2_3 HOG2_3 HBv1_3 bw hW4 hz4
    clear hs4 hqv2
    have cv1_0 : (w4).cell? ⟨qv1, 0, none⟩ = some (.string p) := (cell_of HBv1_4.out 0).trans rfl
    have cv1_1 : (w4).cell? ⟨qv1, 1, none⟩ = some (.slice oX1 vl.length pX1) := (cell_of HBv1_4.out 1).trans rfl
    have cv1_2 : (w4).cell? ⟨qv1, 2, none⟩ = some (.slice oY1 ys.length pY1) := (cell_of HBv1_4.out 2).trans rfl
    have cv1_3 : (w4).cell? ⟨qv1, 3, none⟩ = some (.int .i64 st) := (cell_of HBv1_4.out 3).trans rfl
    have cv1_4 : (w4).cell? ⟨qv1, 4, none⟩ = some (.slice oG1 k pG1) := (cell_of HBv1_4.out 4).trans rfl
    have cv1_5 : (w4).cell? ⟨qv1, 5, none⟩ = some (.string d) := (cell_of HBv1_4.out 5).trans rfl
    have cv1_6 : (w4).cell? ⟨qv1, 6, none⟩ = some (.int .i64 t) := (cell_of HBv1_4.out 6).trans rfl
    have cv2_0 : (w4).cell? ⟨qv2, 0, none⟩ = some (.string p) := (cell_of HBv2_4.out 0).trans rfl
    have cv2_1 : (w4).cell? ⟨qv2, 1, none⟩ = some (.slice oX2 vl.length pX2) := (cell_of HBv2_4.out 1).trans rfl
    have cv2_2 : (w4).cell? ⟨qv2, 2, none⟩ = some (.slice oY2 ys.length pY2) := (cell_of HBv2_4.out 2).trans rfl
    have cv2_3 : (w4).cell? ⟨qv2, 3, none⟩ = some (.int .i64 st) := (cell_of HBv2_4.out 3).trans rfl
    have cv2_4 : (w4).cell? ⟨qv2, 4, none⟩ = some (.slice oG2 k pG2) := (cell_of HBv2_4.out 4).trans rfl
    have cv2_5 : (w4).cell? ⟨qv2, 5, none⟩ = some (.string d) := (cell_of HBv2_4.out 5).trans rfl
    have cv2_6 : (w4).cell? ⟨qv2, 6, none⟩ = some (.int .i64 t) := (cell_of HBv2_4.out 6).trans rfl
    go_wp2_with fail
    refine (eqObj_any p vl.length vl ys.length ys st k gs d t _ _ _ _ _ _ _ _ _ ⟨HOX2_4.out, HOY2_4.out, HOG2_4.out, AP2.out⟩ ⟨HOX1_4.out, HOY1_4.out, HOG1_4.out, AP1.out⟩ (by have := HLV.out; omega) (by have := HLV.out; omega) (by have := HLV.out; omega)).mono ?_
    rintro e w5 ⟨rfl, bw⟩
    have hb5 : Below w.heap.size w (w5) := hb4.trans (bw.mono hb4.size)
    have HM5 : Hid ((w4).heap.size ≤ (w5).heap.size) := bw.size
    have HOX1_5 : Hid ((w5).ownsRow w.heap.size 9 1 (.slice oX1 vl.length pX1) vl.length (vl.map Value.string)) := owns_below HOX1_4.out bw (fun g hg => owns_lt HOX1_4.out hg)
    have HOY1_5 : Hid ((w5).ownsRow w.heap.size 9 1 (.slice oY1 ys.length pY1) ys.length (ys.map Value.string)) := owns_below HOY1_4.out bw (fun g hg => owns_lt HOY1_4.out hg)
    have HOG1_5 : Hid ((w5).ownsRow w.heap.size 131 2 (.slice oG1 k pG1) k (flatF gs)) := owns_below HOG1_4.out bw (fun g hg => owns_lt HOG1_4.out hg)
    have HOX2_5 : Hid ((w5).ownsRow w.heap.size 9 1 (.slice oX2 vl.length pX2) vl.length (vl.map Value.string)) := owns_below HOX2_4.out bw (fun g hg => owns_lt HOX2_4.out hg)
    have HOY2_5 : Hid ((w5).ownsRow w.heap.size 9 1 (.slice oY2 ys.length pY2) ys.length (ys.map Value.string)) := owns_below HOY2_4.out bw (fun g hg => owns_lt HOY2_4.out hg)
    have HOG2_5 : Hid ((w5).ownsRow w.heap.size 131 2 (.slice oG2 k pG2) k (flatF gs)) := owns_below HOG2_4.out bw (fun g hg => owns_lt HOG2_4.out hg)
    have HBv1_5 : Hid ((w5).heap[qv1]? = some (.cells #[.string p, .slice oX1 vl.length pX1, .slice oY1 ys.length pY1, .int .i64 st, .slice oG1 k pG1, .string d, .int .i64 t] 29)) := blk_below HBv1_4.out bw
    have HBv2_5 : Hid ((w5).heap[qv2]? = some (.cells #[.string p, .slice oX2 vl.length pX2, .slice oY2 ys.length pY2, .int .i64 st, .slice oG2 k pG2, .string d, .int .i64 t] 29)) := blk_below HBv2_4.out bw
    clear hb4 HOX1_4 HOY1_4 HOG1_4 HOX2_4 HOY2_4 HOG2_4 HBv1_4 HBv2_4 bw
    clear cv1_0 cv1_1 cv1_2 cv1_3 cv1_4 cv1_5 cv1_6 cv2_0 cv2_1 cv2_2 cv2_3 cv2_4 cv2_5 cv2_6
    have cv2_0 : (w5).cell? ⟨qv2, 0, none⟩ = some (.string p) := (cell_of HBv2_5.out 0).trans rfl
    have cv2_1 : (w5).cell? ⟨qv2, 1, none⟩ = some (.slice oX2 vl.length pX2) := (cell_of HBv2_5.out 1).trans rfl
    have cv2_2 : (w5).cell? ⟨qv2, 2, none⟩ = some (.slice oY2 ys.length pY2) := (cell_of HBv2_5.out 2).trans rfl
    have cv2_3 : (w5).cell? ⟨qv2, 3, none⟩ = some (.int .i64 st) := (cell_of HBv2_5.out 3).trans rfl
    have cv2_4 : (w5).cell? ⟨qv2, 4, none⟩ = some (.slice oG2 k pG2) := (cell_of HBv2_5.out 4).trans rfl
    have cv2_5 : (w5).cell? ⟨qv2, 5, none⟩ = some (.string d) := (cell_of HBv2_5.out 5).trans rfl
    have cv2_6 : (w5).cell? ⟨qv2, 6, none⟩ = some (.int .i64 t) := (cell_of HBv2_5.out 6).trans rfl
    go_wp2_with fail
    refine (markObj_any p vl.length vl ys.length ys st k gs d t _ _ _ _ _ ⟨HOX2_5.out, HOY2_5.out, HOG2_5.out, AP2.out⟩ hb5.size 1 (by omega) (by have := HLV.out; omega)).mono ?_
    rintro e w6 ⟨rfl, ⟨mk0, mk1, mk2, _⟩, bm, far⟩
    have hb6 : Below w.heap.size w w6 := hb5.trans bm
    have HM6 : Hid ((w5).heap.size ≤ w6.heap.size) := bm.size
    have HOX1_6 : Hid ((w6).ownsRow w.heap.size 9 1 (.slice oX1 vl.length pX1) vl.length (vl.map Value.string)) := owns_same HOX1_5.out (fun g hg => far g (owns_lt HOX1_5.out hg) (fun e => by have h1 := LOX2.out g e; have h2 := HIX1.out g hg; have := HM2.out; have := HM3.out; omega) (fun e => by have h1 := LOY2.out g e; have h2 := HIX1.out g hg; have := HM2.out; have := HM3.out; omega) (own_type_ne HOX1_5.out HOG2_5.out (by decide) g hg))
    have HOY1_6 : Hid ((w6).ownsRow w.heap.size 9 1 (.slice oY1 ys.length pY1) ys.length (ys.map Value.string)) := owns_same HOY1_5.out (fun g hg => far g (owns_lt HOY1_5.out hg) (fun e => by have h1 := LOX2.out g e; have h2 := HIY1.out g hg; have := HM2.out; have := HM3.out; omega) (fun e => by have h1 := LOY2.out g e; have h2 := HIY1.out g hg; have := HM2.out; have := HM3.out; omega) (own_type_ne HOY1_5.out HOG2_5.out (by decide) g hg))
    have HOG1_6 : Hid ((w6).ownsRow w.heap.size 131 2 (.slice oG1 k pG1) k (flatF gs)) := owns_same HOG1_5.out (fun g hg => far g (owns_lt HOG1_5.out hg) (own_type_ne HOG1_5.out HOX2_5.out (by decide) g hg) (own_type_ne HOG1_5.out HOY2_5.out (by decide) g hg) (fun e => by have h1 := LOG2.out g e; have h2 := HIG1.out g hg; have := HM2.out; have := HM3.out; omega))
    have HBv1_6 : Hid ((w6).heap[qv1]? = some (.cells #[.string p, .slice oX1 vl.length pX1, .slice oY1 ys.length pY1, .int .i64 st, .slice oG1 k pG1, .string d, .int .i64 t] 29)) := (far _ (blk_lt HBv1_5.out) (fun e => own_ne HOX2_5.out HBv1_5.out (by decide) _ e rfl) (fun e => own_ne HOY2_5.out HBv1_5.out (by decide) _ e rfl) (fun e => own_ne HOG2_5.out HBv1_5.out (by decide) _ e rfl)).trans HBv1_5.out
    have HBv2_6 : Hid ((w6).heap[qv2]? = some (.cells #[.string p, .slice oX2 vl.length pX2, .slice oY2 ys.length pY2, .int .i64 st, .slice oG2 k pG2, .string d, .int .i64 t] 29)) := (far _ (blk_lt HBv2_5.out) (fun e => own_ne HOX2_5.out HBv2_5.out (by decide) _ e rfl) (fun e => own_ne HOY2_5.out HBv2_5.out (by decide) _ e rfl) (fun e => own_ne HOG2_5.out HBv2_5.out (by decide) _ e rfl)).trans HBv2_5.out
    have HOX2_6 : Hid ((w6).ownsRow w.heap.size 9 1 (.slice oX2 vl.length pX2) vl.length ((mkT 1 vl vl.length).map Value.string)) := mk0
    have HOY2_6 : Hid ((w6).ownsRow w.heap.size 9 1 (.slice oY2 ys.length pY2) ys.length ((mkT (1 + vl.length) ys ys.length).map Value.string)) := mk1
    have HOG2_6 : Hid ((w6).ownsRow w.heap.size 131 2 (.slice oG2 k pG2) k (flatF (mkG (1 + vl.length + ys.length) gs k))) := mk2
    clear hb5 HOX1_5 HOY1_5 HOG1_5 HOX2_5 HOY2_5 HOG2_5 HBv1_5 HBv2_5 mk0 mk1 mk2 bm far
    clear cv2_0 cv2_1 cv2_2 cv2_3 cv2_4 cv2_5 cv2_6
    have cv2_0 : (w6).cell? ⟨qv2, 0, none⟩ = some (.string p) := (cell_of HBv2_6.out 0).trans rfl
    have cv2_1 : (w6).cell? ⟨qv2, 1, none⟩ = some (.slice oX2 vl.length pX2) := (cell_of HBv2_6.out 1).trans rfl
    have cv2_2 : (w6).cell? ⟨qv2, 2, none⟩ = some (.slice oY2 ys.length pY2) := (cell_of HBv2_6.out 2).trans rfl
    have cv2_3 : (w6).cell? ⟨qv2, 3, none⟩ = some (.int .i64 st) := (cell_of HBv2_6.out 3).trans rfl
    have cv2_4 : (w6).cell? ⟨qv2, 4, none⟩ = some (.slice oG2 k pG2) := (cell_of HBv2_6.out 4).trans rfl
    have cv2_5 : (w6).cell? ⟨qv2, 5, none⟩ = some (.string d) := (cell_of HBv2_6.out 5).trans rfl
    have cv2_6 : (w6).cell? ⟨qv2, 6, none⟩ = some (.int .i64 t) := (cell_of HBv2_6.out 6).trans rfl
    go_wp2_with fail
    refine (heldObj_any p vl.length (mkT 1 vl vl.length) ys.length (mkT (1 + vl.length) ys ys.length) st k (mkG (1 + vl.length + ys.length) gs k) d t _ _ _ _ _ ⟨HOX2_6.out, HOY2_6.out, HOG2_6.out, AP2.out⟩ 1 (by omega) (by have := HLV.out; omega) (fun j hj => mkT_at 1 vl j hj _ hj) (fun j hj => mkT_at (1 + vl.length) ys j hj _ hj) (fun j hj => mkG_at (1 + vl.length + ys.length) gs j k (by have := HL2.out; omega) hj)).mono ?_
    rintro e w7 ⟨rfl, bw⟩
    have hb7 : Below w.heap.size w (w7) := hb6.trans (bw.mono hb6.size)
    have HM7 : Hid ((w6).heap.size ≤ (w7).heap.size) := bw.size
    have HOX1_7 : Hid ((w7).ownsRow w.heap.size 9 1 (.slice oX1 vl.length pX1) vl.length (vl.map Value.string)) := owns_below HOX1_6.out bw (fun g hg => owns_lt HOX1_6.out hg)
    have HOY1_7 : Hid ((w7).ownsRow w.heap.size 9 1 (.slice oY1 ys.length pY1) ys.length (ys.map Value.string)) := owns_below HOY1_6.out bw (fun g hg => owns_lt HOY1_6.out hg)
    have HOG1_7 : Hid ((w7).ownsRow w.heap.size 131 2 (.slice oG1 k pG1) k (flatF gs)) := owns_below HOG1_6.out bw (fun g hg => owns_lt HOG1_6.out hg)
    have HOX2_7 : Hid ((w7).ownsRow w.heap.size 9 1 (.slice oX2 vl.length pX2) vl.length ((mkT 1 vl vl.length).map Value.string)) := owns_below HOX2_6.out bw (fun g hg => owns_lt HOX2_6.out hg)
    have HOY2_7 : Hid ((w7).ownsRow w.heap.size 9 1 (.slice oY2 ys.length pY2) ys.length ((mkT (1 + vl.length) ys ys.length).map Value.string)) := owns_below HOY2_6.out bw (fun g hg => owns_lt HOY2_6.out hg)
    have HOG2_7 : Hid ((w7).ownsRow w.heap.size 131 2 (.slice oG2 k pG2) k (flatF (mkG (1 + vl.length + ys.length) gs k))) := owns_below HOG2_6.out bw (fun g hg => owns_lt HOG2_6.out hg)
    have HBv1_7 : Hid ((w7).heap[qv1]? = some (.cells #[.string p, .slice oX1 vl.length pX1, .slice oY1 ys.length pY1, .int .i64 st, .slice oG1 k pG1, .string d, .int .i64 t] 29)) := blk_below HBv1_6.out bw
    have HBv2_7 : Hid ((w7).heap[qv2]? = some (.cells #[.string p, .slice oX2 vl.length pX2, .slice oY2 ys.length pY2, .int .i64 st, .slice oG2 k pG2, .string d, .int .i64 t] 29)) := blk_below HBv2_6.out bw
    clear hb6 HOX1_6 HOY1_6 HOG1_6 HOX2_6 HOY2_6 HOG2_6 HBv1_6 HBv2_6 bw
    have hkh3 : ¬ (((1 + vl.length + ys.length + 2 * k : Nat) : Int) < 0) := by omega
    clear cv2_0 cv2_1 cv2_2 cv2_3 cv2_4 cv2_5 cv2_6
    go_wp2_with fail
    refine (HIM.out _ hb7).mono ?_
    rintro e w8 ⟨vv1, vv2, vv3, rfl, ⟨ownX4, ownY4, ownG4, ne4⟩, bw⟩
    obtain ⟨oX4, pX4, rfl⟩ := slice_of_owns ownX4
    obtain ⟨oY4, pY4, rfl⟩ := slice_of_owns ownY4
    obtain ⟨oG4, pG4, rfl⟩ := slice_of_owns ownG4
    have AP4 : Hid (∀ j, (Value.slice oX4 vl.length pX4).ownBlock = some j → (Value.slice oY4 ys.length pY4).ownBlock ≠ some j) := ne4
    clear ne4
    have hb8 : Below w.heap.size w (w8) := hb7.trans (bw.mono hb7.size)
    have HM8 : Hid ((w7).heap.size ≤ (w8).heap.size) := bw.size
    have HOX1_8 : Hid ((w8).ownsRow w.heap.size 9 1 (.slice oX1 vl.length pX1) vl.length (vl.map Value.string)) := owns_below HOX1_7.out bw (fun g hg => owns_lt HOX1_7.out hg)
    have HOY1_8 : Hid ((w8).ownsRow w.heap.size 9 1 (.slice oY1 ys.length pY1) ys.length (ys.map Value.string)) := owns_below HOY1_7.out bw (fun g hg => owns_lt HOY1_7.out hg)
    have HOG1_8 : Hid ((w8).ownsRow w.heap.size 131 2 (.slice oG1 k pG1) k (flatF gs)) := owns_below HOG1_7.out bw (fun g hg => owns_lt HOG1_7.out hg)
    have HOX2_8 : Hid ((w8).ownsRow w.heap.size 9 1 (.slice oX2 vl.length pX2) vl.length ((mkT 1 vl vl.length).map Value.string)) := owns_below HOX2_7.out bw (fun g hg => owns_lt HOX2_7.out hg)
    have HOY2_8 : Hid ((w8).ownsRow w.heap.size 9 1 (.slice oY2 ys.length pY2) ys.length ((mkT (1 + vl.length) ys ys.length).map Value.string)) := owns_below HOY2_7.out bw (fun g hg => owns_lt HOY2_7.out hg)
    have HOG2_8 : Hid ((w8).ownsRow w.heap.size 131 2 (.slice oG2 k pG2) k (flatF (mkG (1 + vl.length + ys.length) gs k))) := owns_below HOG2_7.out bw (fun g hg => owns_lt HOG2_7.out hg)
    have HBv1_8 : Hid ((w8).heap[qv1]? = some (.cells #[.string p, .slice oX1 vl.length pX1, .slice oY1 ys.length pY1, .int .i64 st, .slice oG1 k pG1, .string d, .int .i64 t] 29)) := blk_below HBv1_7.out bw
    have HBv2_8 : Hid ((w8).heap[qv2]? = some (.cells #[.string p, .slice oX2 vl.length pX2, .slice oY2 ys.length pY2, .int .i64 st, .slice oG2 k pG2, .string d, .int .i64 t] 29)) := blk_below HBv2_7.out bw
    have HOX4_8 : Hid ((w8).ownsRow w.heap.size 9 1 (.slice oX4 vl.length pX4) vl.length (vl.map Value.string)) := owns_wide ownX4 hb7.size
    have LOX4 : Hid (∀ g, (Value.ownBlock (.slice oX4 vl.length pX4)) = some g → (w7).heap.size ≤ g) := fun g hg => owns_ge ownX4 hg
    have HIX4 : Hid (∀ g, (Value.ownBlock (.slice oX4 vl.length pX4)) = some g → g < (w8).heap.size) := fun g hg => owns_lt ownX4 hg
    clear ownX4
    have HOY4_8 : Hid ((w8).ownsRow w.heap.size 9 1 (.slice oY4 ys.length pY4) ys.length (ys.map Value.string)) := owns_wide ownY4 hb7.size
    have LOY4 : Hid (∀ g, (Value.ownBlock (.slice oY4 ys.length pY4)) = some g → (w7).heap.size ≤ g) := fun g hg => owns_ge ownY4 hg
    have HIY4 : Hid (∀ g, (Value.ownBlock (.slice oY4 ys.length pY4)) = some g → g < (w8).heap.size) := fun g hg => owns_lt ownY4 hg
    clear ownY4
    have HOG4_8 : Hid ((w8).ownsRow w.heap.size 131 2 (.slice oG4 k pG4) k (flatF gs)) := owns_wide ownG4 hb7.size
    have LOG4 : Hid (∀ g, (Value.ownBlock (.slice oG4 k pG4)) = some g → (w7).heap.size ≤ g) := fun g hg => owns_ge ownG4 hg
    have HIG4 : Hid (∀ g, (Value.ownBlock (.slice oG4 k pG4)) = some g → g < (w8).heap.size) := fun g hg => owns_lt ownG4 hg
    clear ownG4
    clear hb7 HOX1_7 HOY1_7 HOG1_7 HOX2_7 HOY2_7 HOG2_7 HBv1_7 HBv2_7 bw
    go_upto_region 16 with fail
    obtain ⟨qv3, hqv3⟩ : ∃ q, q = (w8).heap.size := ⟨_, rfl⟩
    obtain ⟨w9, hW9⟩ : ∃ W, W = (w8).alloc (.cells #[.string p, .slice oX4 vl.length pX4, .slice oY4 ys.length pY4, .int .i64 st, .slice oG4 k pG4, .string d, .int .i64 t] 29) := ⟨_, rfl⟩
    have hz9 : (w8).heap.size = qv3 := hqv3.symm
    first | rw [← hW9, ← hqv3] | rw [← hW9]
    have hs9 : w9.heap.size = qv3 + 1 := by rw [hW9, ← hz9]; simp
    have bw : Below (w8).heap.size (w8) w9 := by rw [hW9]; exact (Below.refl _ _).alloc (Nat.le_refl _) _
    have hb9 : Below w.heap.size w (w9) := hb8.trans (bw.mono hb8.size)
    have HM9 : Hid ((w8).heap.size ≤ (w9).heap.size) := bw.size
    have HOX1_9 : Hid ((w9).ownsRow w.heap.size 9 1 (.slice oX1 vl.length pX1) vl.length (vl.map Value.string)) := owns_below HOX1_8.out bw (fun g hg => owns_lt HOX1_8.out hg)
    have HOY1_9 : Hid ((w9).ownsRow w.heap.size 9 1 (.slice oY1 ys.length pY1) ys.length (ys.map Value.string)) := owns_below HOY1_8.out bw (fun g hg => owns_lt HOY1_8.out hg)
    have HOG1_9 : Hid ((w9).ownsRow w.heap.size 131 2 (.slice oG1 k pG1) k (flatF gs)) := owns_below HOG1_8.out bw (fun g hg => owns_lt HOG1_8.out hg)
    have HOX2_9 : Hid ((w9).ownsRow w.heap.size 9 1 (.slice oX2 vl.length pX2) vl.length ((mkT 1 vl vl.length).map Value.string)) := owns_below HOX2_8.out bw (fun g hg => owns_lt HOX2_8.out hg)
    have HOY2_9 : Hid ((w9).ownsRow w.heap.size 9 1 (.slice oY2 ys.length pY2) ys.length ((mkT (1 + vl.length) ys ys.length).map Value.string)) := owns_below HOY2_8.out bw (fun g hg => owns_lt HOY2_8.out hg)
    have HOG2_9 : Hid ((w9).ownsRow w.heap.size 131 2 (.slice oG2 k pG2) k (flatF (mkG (1 + vl.length + ys.length) gs k))) := owns_below HOG2_8.out bw (fun g hg => owns_lt HOG2_8.out hg)
    have HOX4_9 : Hid ((w9).ownsRow w.heap.size 9 1 (.slice oX4 vl.length pX4) vl.length (vl.map Value.string)) := owns_below HOX4_8.out bw (fun g hg => owns_lt HOX4_8.out hg)
    have HOY4_9 : Hid ((w9).ownsRow w.heap.size 9 1 (.slice oY4 ys.length pY4) ys.length (ys.map Value.string)) := owns_below HOY4_8.out bw (fun g hg => owns_lt HOY4_8.out hg)
    have HOG4_9 : Hid ((w9).ownsRow w.heap.size 131 2 (.slice oG4 k pG4) k (flatF gs)) := owns_below HOG4_8.out bw (fun g hg => owns_lt HOG4_8.out hg)
    have HBv1_9 : Hid ((w9).heap[qv1]? = some (.cells #[.string p, .slice oX1 vl.length pX1, .slice oY1 ys.length pY1, .int .i64 st, .slice oG1 k pG1, .string d, .int .i64 t] 29)) := blk_below HBv1_8.out bw
    have HBv2_9 : Hid ((w9).heap[qv2]? = some (.cells #[.string p, .slice oX2 vl.length pX2, .slice oY2 ys.length pY2, .int .i64 st, .slice oG2 k pG2, .string d, .int .i64 t] 29)) := blk_below HBv2_8.out bw
    have HNv1v3 : Hid (qv1 ≠ qv3) := fun e => by have h1 := (Array.getElem?_eq_some_iff.1 HBv1_8.out).1; omega
    have HNv2v3 : Hid (qv2 ≠ qv3) := fun e => by have h1 := (Array.getElem?_eq_some_iff.1 HBv2_8.out).1; omega
    have HBv3_9 : Hid ((w9).heap[qv3]? = some (.cells #[.string p, .slice oX4 vl.length pX4, .slice oY4 ys.length pY4, .int .i64 st, .slice oG4 k pG4, .string d, .int .i64 t] 29)) := by show _ = _; rw [hW9, ← hz9]; exact heap_alloc_new _ _
    have HGv3 : Hid (w.heap.size ≤ qv3) := by show _ ≤ _; rw [← hz9]; exact hb8.size
    clear hb8 HOX1_8 HOY1_8 HOG1_8 HOX2_8 HOY2_8 HOG2_8 HOX4_8 HOY4_8 HOG4_8 HBv1_8 HBv2_8 bw hW9 hz9
    clear hs9 hqv3
    have cv1_0 : (w9).cell? ⟨qv1, 0, none⟩ = some (.string p) := (cell_of HBv1_9.out 0).trans rfl
    have cv1_1 : (w9).cell? ⟨qv1, 1, none⟩ = some (.slice oX1 vl.length pX1) := (cell_of HBv1_9.out 1).trans rfl
    have cv1_2 : (w9).cell? ⟨qv1, 2, none⟩ = some (.slice oY1 ys.length pY1) := (cell_of HBv1_9.out 2).trans rfl
    have cv1_3 : (w9).cell? ⟨qv1, 3, none⟩ = some (.int .i64 st) := (cell_of HBv1_9.out 3).trans rfl
    have cv1_4 : (w9).cell? ⟨qv1, 4, none⟩ = some (.slice oG1 k pG1) := (cell_of HBv1_9.out 4).trans rfl
    have cv1_5 : (w9).cell? ⟨qv1, 5, none⟩ = some (.string d) := (cell_of HBv1_9.out 5).trans rfl
    have cv1_6 : (w9).cell? ⟨qv1, 6, none⟩ = some (.int .i64 t) := (cell_of HBv1_9.out 6).trans rfl
    have cv3_0 : (w9).cell? ⟨qv3, 0, none⟩ = some (.string p) := (cell_of HBv3_9.out 0).trans rfl
    have cv3_1 : (w9).cell? ⟨qv3, 1, none⟩ = some (.slice oX4 vl.length pX4) := (cell_of HBv3_9.out 1).trans rfl
    have cv3_2 : (w9).cell? ⟨qv3, 2, none⟩ = some (.slice oY4 ys.length pY4) := (cell_of HBv3_9.out 2).trans rfl
    have cv3_3 : (w9).cell? ⟨qv3, 3, none⟩ = some (.int .i64 st) := (cell_of HBv3_9.out 3).trans rfl
    have cv3_4 : (w9).cell? ⟨qv3, 4, none⟩ = some (.slice oG4 k pG4) := (cell_of HBv3_9.out 4).trans rfl
    have cv3_5 : (w9).cell? ⟨qv3, 5, none⟩ = some (.string d) := (cell_of HBv3_9.out 5).trans rfl
    have cv3_6 : (w9).cell? ⟨qv3, 6, none⟩ = some (.int .i64 t) := (cell_of HBv3_9.out 6).trans rfl
    go_wp2_with fail
    refine (eqObj_any p vl.length vl ys.length ys st k gs d t _ _ _ _ _ _ _ _ _ ⟨HOX4_9.out, HOY4_9.out, HOG4_9.out, AP4.out⟩ ⟨HOX1_9.out, HOY1_9.out, HOG1_9.out, AP1.out⟩ (by have := HLV.out; omega) (by have := HLV.out; omega) (by have := HLV.out; omega)).mono ?_
    rintro e w10 ⟨rfl, bw⟩
    have hb10 : Below w.heap.size w (w10) := hb9.trans (bw.mono hb9.size)
    have HM10 : Hid ((w9).heap.size ≤ (w10).heap.size) := bw.size
    have HOX1_10 : Hid ((w10).ownsRow w.heap.size 9 1 (.slice oX1 vl.length pX1) vl.length (vl.map Value.string)) := owns_below HOX1_9.out bw (fun g hg => owns_lt HOX1_9.out hg)
    have HOY1_10 : Hid ((w10).ownsRow w.heap.size 9 1 (.slice oY1 ys.length pY1) ys.length (ys.map Value.string)) := owns_below HOY1_9.out bw (fun g hg => owns_lt HOY1_9.out hg)
    have HOG1_10 : Hid ((w10).ownsRow w.heap.size 131 2 (.slice oG1 k pG1) k (flatF gs)) := owns_below HOG1_9.out bw (fun g hg => owns_lt HOG1_9.out hg)
    have HOX2_10 : Hid ((w10).ownsRow w.heap.size 9 1 (.slice oX2 vl.length pX2) vl.length ((mkT 1 vl vl.length).map Value.string)) := owns_below HOX2_9.out bw (fun g hg => owns_lt HOX2_9.out hg)
    have HOY2_10 : Hid ((w10).ownsRow w.heap.size 9 1 (.slice oY2 ys.length pY2) ys.length ((mkT (1 + vl.length) ys ys.length).map Value.string)) := owns_below HOY2_9.out bw (fun g hg => owns_lt HOY2_9.out hg)
    have HOG2_10 : Hid ((w10).ownsRow w.heap.size 131 2 (.slice oG2 k pG2) k (flatF (mkG (1 + vl.length + ys.length) gs k))) := owns_below HOG2_9.out bw (fun g hg => owns_lt HOG2_9.out hg)
    have HOX4_10 : Hid ((w10).ownsRow w.heap.size 9 1 (.slice oX4 vl.length pX4) vl.length (vl.map Value.string)) := owns_below HOX4_9.out bw (fun g hg => owns_lt HOX4_9.out hg)
    have HOY4_10 : Hid ((w10).ownsRow w.heap.size 9 1 (.slice oY4 ys.length pY4) ys.length (ys.map Value.string)) := owns_below HOY4_9.out bw (fun g hg => owns_lt HOY4_9.out hg)
    have HOG4_10 : Hid ((w10).ownsRow w.heap.size 131 2 (.slice oG4 k pG4) k (flatF gs)) := owns_below HOG4_9.out bw (fun g hg => owns_lt HOG4_9.out hg)
    have HBv1_10 : Hid ((w10).heap[qv1]? = some (.cells #[.string p, .slice oX1 vl.length pX1, .slice oY1 ys.length pY1, .int .i64 st, .slice oG1 k pG1, .string d, .int .i64 t] 29)) := blk_below HBv1_9.out bw
    have HBv2_10 : Hid ((w10).heap[qv2]? = some (.cells #[.string p, .slice oX2 vl.length pX2, .slice oY2 ys.length pY2, .int .i64 st, .slice oG2 k pG2, .string d, .int .i64 t] 29)) := blk_below HBv2_9.out bw
    have HBv3_10 : Hid ((w10).heap[qv3]? = some (.cells #[.string p, .slice oX4 vl.length pX4, .slice oY4 ys.length pY4, .int .i64 st, .slice oG4 k pG4, .string d, .int .i64 t] 29)) := blk_below HBv3_9.out bw
    clear hb9 HOX1_9 HOY1_9 HOG1_9 HOX2_9 HOY2_9 HOG2_9 HOX4_9 HOY4_9 HOG4_9 HBv1_9 HBv2_9 HBv3_9 bw
    clear cv1_0 cv1_1 cv1_2 cv1_3 cv1_4 cv1_5 cv1_6 cv3_0 cv3_1 cv3_2 cv3_3 cv3_4 cv3_5 cv3_6
    have cv2_0 : (w10).cell? ⟨qv2, 0, none⟩ = some (.string p) := (cell_of HBv2_10.out 0).trans rfl
    have cv2_1 : (w10).cell? ⟨qv2, 1, none⟩ = some (.slice oX2 vl.length pX2) := (cell_of HBv2_10.out 1).trans rfl
    have cv2_2 : (w10).cell? ⟨qv2, 2, none⟩ = some (.slice oY2 ys.length pY2) := (cell_of HBv2_10.out 2).trans rfl
    have cv2_3 : (w10).cell? ⟨qv2, 3, none⟩ = some (.int .i64 st) := (cell_of HBv2_10.out 3).trans rfl
    have cv2_4 : (w10).cell? ⟨qv2, 4, none⟩ = some (.slice oG2 k pG2) := (cell_of HBv2_10.out 4).trans rfl
    have cv2_5 : (w10).cell? ⟨qv2, 5, none⟩ = some (.string d) := (cell_of HBv2_10.out 5).trans rfl
    have cv2_6 : (w10).cell? ⟨qv2, 6, none⟩ = some (.int .i64 t) := (cell_of HBv2_10.out 6).trans rfl
    go_wp2_with fail
    refine (heldObj_any p vl.length (mkT 1 vl vl.length) ys.length (mkT (1 + vl.length) ys ys.length) st k (mkG (1 + vl.length + ys.length) gs k) d t _ _ _ _ _ ⟨HOX2_10.out, HOY2_10.out, HOG2_10.out, AP2.out⟩ 1 (by omega) (by have := HLV.out; omega) (fun j hj => mkT_at 1 vl j hj _ hj) (fun j hj => mkT_at (1 + vl.length) ys j hj _ hj) (fun j hj => mkG_at (1 + vl.length + ys.length) gs j k (by have := HL2.out; omega) hj)).mono ?_
    rintro e w11 ⟨rfl, bw⟩
    have hb11 : Below w.heap.size w (w11) := hb10.trans (bw.mono hb10.size)
    have HM11 : Hid ((w10).heap.size ≤ (w11).heap.size) := bw.size
    have HOX1_11 : Hid ((w11).ownsRow w.heap.size 9 1 (.slice oX1 vl.length pX1) vl.length (vl.map Value.string)) := owns_below HOX1_10.out bw (fun g hg => owns_lt HOX1_10.out hg)
    have HOY1_11 : Hid ((w11).ownsRow w.heap.size 9 1 (.slice oY1 ys.length pY1) ys.length (ys.map Value.string)) := owns_below HOY1_10.out bw (fun g hg => owns_lt HOY1_10.out hg)
    have HOG1_11 : Hid ((w11).ownsRow w.heap.size 131 2 (.slice oG1 k pG1) k (flatF gs)) := owns_below HOG1_10.out bw (fun g hg => owns_lt HOG1_10.out hg)
    have HOX2_11 : Hid ((w11).ownsRow w.heap.size 9 1 (.slice oX2 vl.length pX2) vl.length ((mkT 1 vl vl.length).map Value.string)) := owns_below HOX2_10.out bw (fun g hg => owns_lt HOX2_10.out hg)
    have HOY2_11 : Hid ((w11).ownsRow w.heap.size 9 1 (.slice oY2 ys.length pY2) ys.length ((mkT (1 + vl.length) ys ys.length).map Value.string)) := owns_below HOY2_10.out bw (fun g hg => owns_lt HOY2_10.out hg)
    have HOG2_11 : Hid ((w11).ownsRow w.heap.size 131 2 (.slice oG2 k pG2) k (flatF (mkG (1 + vl.length + ys.length) gs k))) := owns_below HOG2_10.out bw (fun g hg => owns_lt HOG2_10.out hg)
    have HOX4_11 : Hid ((w11).ownsRow w.heap.size 9 1 (.slice oX4 vl.length pX4) vl.length (vl.map Value.string)) := owns_below HOX4_10.out bw (fun g hg => owns_lt HOX4_10.out hg)
    have HOY4_11 : Hid ((w11).ownsRow w.heap.size 9 1 (.slice oY4 ys.length pY4) ys.length (ys.map Value.string)) := owns_below HOY4_10.out bw (fun g hg => owns_lt HOY4_10.out hg)
    have HOG4_11 : Hid ((w11).ownsRow w.heap.size 131 2 (.slice oG4 k pG4) k (flatF gs)) := owns_below HOG4_10.out bw (fun g hg => owns_lt HOG4_10.out hg)
    have HBv1_11 : Hid ((w11).heap[qv1]? = some (.cells #[.string p, .slice oX1 vl.length pX1, .slice oY1 ys.length pY1, .int .i64 st, .slice oG1 k pG1, .string d, .int .i64 t] 29)) := blk_below HBv1_10.out bw
    have HBv2_11 : Hid ((w11).heap[qv2]? = some (.cells #[.string p, .slice oX2 vl.length pX2, .slice oY2 ys.length pY2, .int .i64 st, .slice oG2 k pG2, .string d, .int .i64 t] 29)) := blk_below HBv2_10.out bw
    have HBv3_11 : Hid ((w11).heap[qv3]? = some (.cells #[.string p, .slice oX4 vl.length pX4, .slice oY4 ys.length pY4, .int .i64 st, .slice oG4 k pG4, .string d, .int .i64 t] 29)) := blk_below HBv3_10.out bw
    clear hb10 HOX1_10 HOY1_10 HOG1_10 HOX2_10 HOY2_10 HOG2_10 HOX4_10 HOY4_10 HOG4_10 HBv1_10 HBv2_10 HBv3_10 bw
    have hkh5 : ¬ (((1 + vl.length + ys.length + 2 * k : Nat) : Int) < 0) := by omega
    clear cv2_0 cv2_1 cv2_2 cv2_3 cv2_4 cv2_5 cv2_6
    go_wp2_with fail
    go_ret
    exact ⟨rfl, hb11⟩

set_option maxHeartbeats 16000000 in
set_option maxRecDepth 100000 in
theorem walkF (w : World) (a : ByteArray) (hK : ∀ p ys st gs d t, ¬ IsObj a p ys st gs d t) (hT : TabOk w) (hLN : LenOk w) :
    Calls Tryz.prog 5 #[.string a] w fun e w' => e = .returned (.bool true) ∧ Below w.heap.size w w' := by
  have HTB : Hid (∀ W, Below w.heap.size w W → TabOk W) := fun W h => hT.below h
  have HLB : Hid (∀ W, Below w.heap.size w W → LenOk W) := fun W h => hLN.below h hLN.lt
  have HKK : Hid (∀ p ys st gs d t, ¬ IsObj a p ys st gs d t) := hK
  clear hT hLN hK
  have hb0 : Below w.heap.size w w := Below.refl _ _
  go_enter Tryz.func5, Tryz.ntmps5
  by_cases hc1 : 1048576 < (a.size : Int)
  · go_wp2_with fail
    go_ret
    exact ⟨rfl, hb0⟩
  · have HSP : Hid (∀ (W : World), Below w.heap.size w W → Calls Tryz.prog 15 #[.string a] W fun e w' => e = .returned (.tuple #[.agg #[.string ⟨#[]⟩, .slice none 0 0, .slice none 0 0, .int .i64 0, .slice none 0 0, .string ⟨#[]⟩, .int .i64 0], .bool false]) ∧ Below W.heap.size W w') := fun W hb => objRdF HKK.out (specObjRead_any a W (by omega))
    have HIM : Hid (∀ (W : World), Below w.heap.size w W → Calls Tryz.prog 11 #[.string a] W fun e w' => e = .returned (.tuple #[.agg #[.string ⟨#[]⟩, .slice none 0 0, .slice none 0 0, .int .i64 0, .slice none 0 0, .string ⟨#[]⟩, .int .i64 0], .bool false]) ∧ Below W.heap.size W w') := fun W hb => objRdF HKK.out (implObjRead_any a W (by omega) (HTB.out W hb) (HLB.out W hb))
    go_wp2_with fail
    refine (HSP.out _ hb0).mono ?_
    rintro e w1 ⟨rfl, bw⟩
    have hb1 : Below w.heap.size w (w1) := hb0.trans (bw.mono hb0.size)
    have HM1 : Hid ((w).heap.size ≤ (w1).heap.size) := bw.size
    clear hb0 bw
    go_upto_region 4 with fail
    obtain ⟨qv1, hqv1⟩ : ∃ q, q = (w1).heap.size := ⟨_, rfl⟩
    obtain ⟨w2, hW2⟩ : ∃ W, W = (w1).alloc (.cells #[.string ⟨#[]⟩, .slice none 0 0, .slice none 0 0, .int .i64 0, .slice none 0 0, .string ⟨#[]⟩, .int .i64 0] 29) := ⟨_, rfl⟩
    have hz2 : (w1).heap.size = qv1 := hqv1.symm
    first | rw [← hW2, ← hqv1] | rw [← hW2]
    have hs2 : w2.heap.size = qv1 + 1 := by rw [hW2, ← hz2]; simp
    have bw : Below (w1).heap.size (w1) w2 := by rw [hW2]; exact (Below.refl _ _).alloc (Nat.le_refl _) _
    have hb2 : Below w.heap.size w (w2) := hb1.trans (bw.mono hb1.size)
    have HM2 : Hid ((w1).heap.size ≤ (w2).heap.size) := bw.size
    have HBv1_2 : Hid ((w2).heap[qv1]? = some (.cells #[.string ⟨#[]⟩, .slice none 0 0, .slice none 0 0, .int .i64 0, .slice none 0 0, .string ⟨#[]⟩, .int .i64 0] 29)) := by show _ = _; rw [hW2, ← hz2]; exact heap_alloc_new _ _
    have HGv1 : Hid (w.heap.size ≤ qv1) := by show _ ≤ _; rw [← hz2]; exact hb1.size
    clear hb1 bw hW2 hz2
    clear hs2 hqv1
    go_wp2_with fail
    refine (HIM.out _ hb2).mono ?_
    rintro e w3 ⟨rfl, bw⟩
    have hb3 : Below w.heap.size w (w3) := hb2.trans (bw.mono hb2.size)
    have HM3 : Hid ((w2).heap.size ≤ (w3).heap.size) := bw.size
    have HBv1_3 : Hid ((w3).heap[qv1]? = some (.cells #[.string ⟨#[]⟩, .slice none 0 0, .slice none 0 0, .int .i64 0, .slice none 0 0, .string ⟨#[]⟩, .int .i64 0] 29)) := blk_below HBv1_2.out bw
    clear hb2 HBv1_2 bw
    go_upto_region 5 with fail
    obtain ⟨qv2, hqv2⟩ : ∃ q, q = (w3).heap.size := ⟨_, rfl⟩
    obtain ⟨w4, hW4⟩ : ∃ W, W = (w3).alloc (.cells #[.string ⟨#[]⟩, .slice none 0 0, .slice none 0 0, .int .i64 0, .slice none 0 0, .string ⟨#[]⟩, .int .i64 0] 29) := ⟨_, rfl⟩
    have hz4 : (w3).heap.size = qv2 := hqv2.symm
    first | rw [← hW4, ← hqv2] | rw [← hW4]
    have hs4 : w4.heap.size = qv2 + 1 := by rw [hW4, ← hz4]; simp
    have bw : Below (w3).heap.size (w3) w4 := by rw [hW4]; exact (Below.refl _ _).alloc (Nat.le_refl _) _
    have hb4 : Below w.heap.size w (w4) := hb3.trans (bw.mono hb3.size)
    have HM4 : Hid ((w3).heap.size ≤ (w4).heap.size) := bw.size
    have HBv1_4 : Hid ((w4).heap[qv1]? = some (.cells #[.string ⟨#[]⟩, .slice none 0 0, .slice none 0 0, .int .i64 0, .slice none 0 0, .string ⟨#[]⟩, .int .i64 0] 29)) := blk_below HBv1_3.out bw
    have HNv1v2 : Hid (qv1 ≠ qv2) := fun e => by have h1 := (Array.getElem?_eq_some_iff.1 HBv1_3.out).1; omega
    have HBv2_4 : Hid ((w4).heap[qv2]? = some (.cells #[.string ⟨#[]⟩, .slice none 0 0, .slice none 0 0, .int .i64 0, .slice none 0 0, .string ⟨#[]⟩, .int .i64 0] 29)) := by show _ = _; rw [hW4, ← hz4]; exact heap_alloc_new _ _
    have HGv2 : Hid (w.heap.size ≤ qv2) := by show _ ≤ _; rw [← hz4]; exact hb3.size
    clear hb3 HBv1_3 bw hW4 hz4
    clear hs4 hqv2
    have cv1_0 : (w4).cell? ⟨qv1, 0, none⟩ = some (.string ⟨#[]⟩) := (cell_of HBv1_4.out 0).trans rfl
    have cv1_1 : (w4).cell? ⟨qv1, 1, none⟩ = some (.slice none 0 0) := (cell_of HBv1_4.out 1).trans rfl
    have cv1_2 : (w4).cell? ⟨qv1, 2, none⟩ = some (.slice none 0 0) := (cell_of HBv1_4.out 2).trans rfl
    have cv1_3 : (w4).cell? ⟨qv1, 3, none⟩ = some (.int .i64 0) := (cell_of HBv1_4.out 3).trans rfl
    have cv1_4 : (w4).cell? ⟨qv1, 4, none⟩ = some (.slice none 0 0) := (cell_of HBv1_4.out 4).trans rfl
    have cv1_5 : (w4).cell? ⟨qv1, 5, none⟩ = some (.string ⟨#[]⟩) := (cell_of HBv1_4.out 5).trans rfl
    have cv1_6 : (w4).cell? ⟨qv1, 6, none⟩ = some (.int .i64 0) := (cell_of HBv1_4.out 6).trans rfl
    have cv2_0 : (w4).cell? ⟨qv2, 0, none⟩ = some (.string ⟨#[]⟩) := (cell_of HBv2_4.out 0).trans rfl
    have cv2_1 : (w4).cell? ⟨qv2, 1, none⟩ = some (.slice none 0 0) := (cell_of HBv2_4.out 1).trans rfl
    have cv2_2 : (w4).cell? ⟨qv2, 2, none⟩ = some (.slice none 0 0) := (cell_of HBv2_4.out 2).trans rfl
    have cv2_3 : (w4).cell? ⟨qv2, 3, none⟩ = some (.int .i64 0) := (cell_of HBv2_4.out 3).trans rfl
    have cv2_4 : (w4).cell? ⟨qv2, 4, none⟩ = some (.slice none 0 0) := (cell_of HBv2_4.out 4).trans rfl
    have cv2_5 : (w4).cell? ⟨qv2, 5, none⟩ = some (.string ⟨#[]⟩) := (cell_of HBv2_4.out 5).trans rfl
    have cv2_6 : (w4).cell? ⟨qv2, 6, none⟩ = some (.int .i64 0) := (cell_of HBv2_4.out 6).trans rfl
    go_wp2_with fail
    refine (eqObj_any ⟨#[]⟩ 0 [] 0 [] 0 0 [] ⟨#[]⟩ 0 _ _ _ _ _ _ 0 0 _ (nilO _ _) (nilO _ _) (by omega) (by omega) (by omega)).mono ?_
    rintro e w5 ⟨rfl, bw⟩
    have hb5 : Below w.heap.size w (w5) := hb4.trans (bw.mono hb4.size)
    have HM5 : Hid ((w4).heap.size ≤ (w5).heap.size) := bw.size
    have HBv1_5 : Hid ((w5).heap[qv1]? = some (.cells #[.string ⟨#[]⟩, .slice none 0 0, .slice none 0 0, .int .i64 0, .slice none 0 0, .string ⟨#[]⟩, .int .i64 0] 29)) := blk_below HBv1_4.out bw
    have HBv2_5 : Hid ((w5).heap[qv2]? = some (.cells #[.string ⟨#[]⟩, .slice none 0 0, .slice none 0 0, .int .i64 0, .slice none 0 0, .string ⟨#[]⟩, .int .i64 0] 29)) := blk_below HBv2_4.out bw
    clear hb4 HBv1_4 HBv2_4 bw
    clear cv1_0 cv1_1 cv1_2 cv1_3 cv1_4 cv1_5 cv1_6 cv2_0 cv2_1 cv2_2 cv2_3 cv2_4 cv2_5 cv2_6
    have cv2_0 : (w5).cell? ⟨qv2, 0, none⟩ = some (.string ⟨#[]⟩) := (cell_of HBv2_5.out 0).trans rfl
    have cv2_1 : (w5).cell? ⟨qv2, 1, none⟩ = some (.slice none 0 0) := (cell_of HBv2_5.out 1).trans rfl
    have cv2_2 : (w5).cell? ⟨qv2, 2, none⟩ = some (.slice none 0 0) := (cell_of HBv2_5.out 2).trans rfl
    have cv2_3 : (w5).cell? ⟨qv2, 3, none⟩ = some (.int .i64 0) := (cell_of HBv2_5.out 3).trans rfl
    have cv2_4 : (w5).cell? ⟨qv2, 4, none⟩ = some (.slice none 0 0) := (cell_of HBv2_5.out 4).trans rfl
    have cv2_5 : (w5).cell? ⟨qv2, 5, none⟩ = some (.string ⟨#[]⟩) := (cell_of HBv2_5.out 5).trans rfl
    have cv2_6 : (w5).cell? ⟨qv2, 6, none⟩ = some (.int .i64 0) := (cell_of HBv2_5.out 6).trans rfl
    go_wp2_with fail
    refine (markObj_any ⟨#[]⟩ 0 [] 0 [] 0 0 [] ⟨#[]⟩ 0 _ _ _ _ _ (nilO _ _) (Nat.le_refl _) 1 (by omega) (by omega)).mono ?_
    rintro e w6 ⟨rfl, _, bw, _⟩
    have hb6 : Below w.heap.size w (w6) := hb5.trans (bw.mono hb5.size)
    have HM6 : Hid ((w5).heap.size ≤ (w6).heap.size) := bw.size
    have HBv1_6 : Hid ((w6).heap[qv1]? = some (.cells #[.string ⟨#[]⟩, .slice none 0 0, .slice none 0 0, .int .i64 0, .slice none 0 0, .string ⟨#[]⟩, .int .i64 0] 29)) := blk_below HBv1_5.out bw
    have HBv2_6 : Hid ((w6).heap[qv2]? = some (.cells #[.string ⟨#[]⟩, .slice none 0 0, .slice none 0 0, .int .i64 0, .slice none 0 0, .string ⟨#[]⟩, .int .i64 0] 29)) := blk_below HBv2_5.out bw
    clear hb5 HBv1_5 HBv2_5 bw
    clear cv2_0 cv2_1 cv2_2 cv2_3 cv2_4 cv2_5 cv2_6
    have cv2_0 : (w6).cell? ⟨qv2, 0, none⟩ = some (.string ⟨#[]⟩) := (cell_of HBv2_6.out 0).trans rfl
    have cv2_1 : (w6).cell? ⟨qv2, 1, none⟩ = some (.slice none 0 0) := (cell_of HBv2_6.out 1).trans rfl
    have cv2_2 : (w6).cell? ⟨qv2, 2, none⟩ = some (.slice none 0 0) := (cell_of HBv2_6.out 2).trans rfl
    have cv2_3 : (w6).cell? ⟨qv2, 3, none⟩ = some (.int .i64 0) := (cell_of HBv2_6.out 3).trans rfl
    have cv2_4 : (w6).cell? ⟨qv2, 4, none⟩ = some (.slice none 0 0) := (cell_of HBv2_6.out 4).trans rfl
    have cv2_5 : (w6).cell? ⟨qv2, 5, none⟩ = some (.string ⟨#[]⟩) := (cell_of HBv2_6.out 5).trans rfl
    have cv2_6 : (w6).cell? ⟨qv2, 6, none⟩ = some (.int .i64 0) := (cell_of HBv2_6.out 6).trans rfl
    go_wp2_with fail
    refine (heldObj_any ⟨#[]⟩ 0 [] 0 [] 0 0 [] ⟨#[]⟩ 0 _ _ _ 0 _ (nilO _ _) 1 (by omega) (by omega) (fun j hj => absurd hj (by omega)) (fun j hj => absurd hj (by omega)) (fun j hj => absurd hj (by omega))).mono ?_
    rintro e w7 ⟨rfl, bw⟩
    have hb7 : Below w.heap.size w (w7) := hb6.trans (bw.mono hb6.size)
    have HM7 : Hid ((w6).heap.size ≤ (w7).heap.size) := bw.size
    have HBv1_7 : Hid ((w7).heap[qv1]? = some (.cells #[.string ⟨#[]⟩, .slice none 0 0, .slice none 0 0, .int .i64 0, .slice none 0 0, .string ⟨#[]⟩, .int .i64 0] 29)) := blk_below HBv1_6.out bw
    have HBv2_7 : Hid ((w7).heap[qv2]? = some (.cells #[.string ⟨#[]⟩, .slice none 0 0, .slice none 0 0, .int .i64 0, .slice none 0 0, .string ⟨#[]⟩, .int .i64 0] 29)) := blk_below HBv2_6.out bw
    clear hb6 HBv1_6 HBv2_6 bw
    have hkh1 : ¬ (((1 + 0 + 0 + 2 * 0 : Nat) : Int) < 0) := by omega
    clear cv2_0 cv2_1 cv2_2 cv2_3 cv2_4 cv2_5 cv2_6
    go_wp2_with fail
    refine (HIM.out _ hb7).mono ?_
    rintro e w8 ⟨rfl, bw⟩
    have hb8 : Below w.heap.size w (w8) := hb7.trans (bw.mono hb7.size)
    have HM8 : Hid ((w7).heap.size ≤ (w8).heap.size) := bw.size
    have HBv1_8 : Hid ((w8).heap[qv1]? = some (.cells #[.string ⟨#[]⟩, .slice none 0 0, .slice none 0 0, .int .i64 0, .slice none 0 0, .string ⟨#[]⟩, .int .i64 0] 29)) := blk_below HBv1_7.out bw
    have HBv2_8 : Hid ((w8).heap[qv2]? = some (.cells #[.string ⟨#[]⟩, .slice none 0 0, .slice none 0 0, .int .i64 0, .slice none 0 0, .string ⟨#[]⟩, .int .i64 0] 29)) := blk_below HBv2_7.out bw
    clear hb7 HBv1_7 HBv2_7 bw
    go_upto_region 16 with fail
    obtain ⟨qv3, hqv3⟩ : ∃ q, q = (w8).heap.size := ⟨_, rfl⟩
    obtain ⟨w9, hW9⟩ : ∃ W, W = (w8).alloc (.cells #[.string ⟨#[]⟩, .slice none 0 0, .slice none 0 0, .int .i64 0, .slice none 0 0, .string ⟨#[]⟩, .int .i64 0] 29) := ⟨_, rfl⟩
    have hz9 : (w8).heap.size = qv3 := hqv3.symm
    first | rw [← hW9, ← hqv3] | rw [← hW9]
    have hs9 : w9.heap.size = qv3 + 1 := by rw [hW9, ← hz9]; simp
    have bw : Below (w8).heap.size (w8) w9 := by rw [hW9]; exact (Below.refl _ _).alloc (Nat.le_refl _) _
    have hb9 : Below w.heap.size w (w9) := hb8.trans (bw.mono hb8.size)
    have HM9 : Hid ((w8).heap.size ≤ (w9).heap.size) := bw.size
    have HBv1_9 : Hid ((w9).heap[qv1]? = some (.cells #[.string ⟨#[]⟩, .slice none 0 0, .slice none 0 0, .int .i64 0, .slice none 0 0, .string ⟨#[]⟩, .int .i64 0] 29)) := blk_below HBv1_8.out bw
    have HBv2_9 : Hid ((w9).heap[qv2]? = some (.cells #[.string ⟨#[]⟩, .slice none 0 0, .slice none 0 0, .int .i64 0, .slice none 0 0, .string ⟨#[]⟩, .int .i64 0] 29)) := blk_below HBv2_8.out bw
    have HNv1v3 : Hid (qv1 ≠ qv3) := fun e => by have h1 := (Array.getElem?_eq_some_iff.1 HBv1_8.out).1; omega
    have HNv2v3 : Hid (qv2 ≠ qv3) := fun e => by have h1 := (Array.getElem?_eq_some_iff.1 HBv2_8.out).1; omega
    have HBv3_9 : Hid ((w9).heap[qv3]? = some (.cells #[.string ⟨#[]⟩, .slice none 0 0, .slice none 0 0, .int .i64 0, .slice none 0 0, .string ⟨#[]⟩, .int .i64 0] 29)) := by show _ = _; rw [hW9, ← hz9]; exact heap_alloc_new _ _
    have HGv3 : Hid (w.heap.size ≤ qv3) := by show _ ≤ _; rw [← hz9]; exact hb8.size
    clear hb8 HBv1_8 HBv2_8 bw hW9 hz9
    clear hs9 hqv3
    have cv1_0 : (w9).cell? ⟨qv1, 0, none⟩ = some (.string ⟨#[]⟩) := (cell_of HBv1_9.out 0).trans rfl
    have cv1_1 : (w9).cell? ⟨qv1, 1, none⟩ = some (.slice none 0 0) := (cell_of HBv1_9.out 1).trans rfl
    have cv1_2 : (w9).cell? ⟨qv1, 2, none⟩ = some (.slice none 0 0) := (cell_of HBv1_9.out 2).trans rfl
    have cv1_3 : (w9).cell? ⟨qv1, 3, none⟩ = some (.int .i64 0) := (cell_of HBv1_9.out 3).trans rfl
    have cv1_4 : (w9).cell? ⟨qv1, 4, none⟩ = some (.slice none 0 0) := (cell_of HBv1_9.out 4).trans rfl
    have cv1_5 : (w9).cell? ⟨qv1, 5, none⟩ = some (.string ⟨#[]⟩) := (cell_of HBv1_9.out 5).trans rfl
    have cv1_6 : (w9).cell? ⟨qv1, 6, none⟩ = some (.int .i64 0) := (cell_of HBv1_9.out 6).trans rfl
    have cv3_0 : (w9).cell? ⟨qv3, 0, none⟩ = some (.string ⟨#[]⟩) := (cell_of HBv3_9.out 0).trans rfl
    have cv3_1 : (w9).cell? ⟨qv3, 1, none⟩ = some (.slice none 0 0) := (cell_of HBv3_9.out 1).trans rfl
    have cv3_2 : (w9).cell? ⟨qv3, 2, none⟩ = some (.slice none 0 0) := (cell_of HBv3_9.out 2).trans rfl
    have cv3_3 : (w9).cell? ⟨qv3, 3, none⟩ = some (.int .i64 0) := (cell_of HBv3_9.out 3).trans rfl
    have cv3_4 : (w9).cell? ⟨qv3, 4, none⟩ = some (.slice none 0 0) := (cell_of HBv3_9.out 4).trans rfl
    have cv3_5 : (w9).cell? ⟨qv3, 5, none⟩ = some (.string ⟨#[]⟩) := (cell_of HBv3_9.out 5).trans rfl
    have cv3_6 : (w9).cell? ⟨qv3, 6, none⟩ = some (.int .i64 0) := (cell_of HBv3_9.out 6).trans rfl
    go_wp2_with fail
    refine (eqObj_any ⟨#[]⟩ 0 [] 0 [] 0 0 [] ⟨#[]⟩ 0 _ _ _ _ _ _ 0 0 _ (nilO _ _) (nilO _ _) (by omega) (by omega) (by omega)).mono ?_
    rintro e w10 ⟨rfl, bw⟩
    have hb10 : Below w.heap.size w (w10) := hb9.trans (bw.mono hb9.size)
    have HM10 : Hid ((w9).heap.size ≤ (w10).heap.size) := bw.size
    have HBv1_10 : Hid ((w10).heap[qv1]? = some (.cells #[.string ⟨#[]⟩, .slice none 0 0, .slice none 0 0, .int .i64 0, .slice none 0 0, .string ⟨#[]⟩, .int .i64 0] 29)) := blk_below HBv1_9.out bw
    have HBv2_10 : Hid ((w10).heap[qv2]? = some (.cells #[.string ⟨#[]⟩, .slice none 0 0, .slice none 0 0, .int .i64 0, .slice none 0 0, .string ⟨#[]⟩, .int .i64 0] 29)) := blk_below HBv2_9.out bw
    have HBv3_10 : Hid ((w10).heap[qv3]? = some (.cells #[.string ⟨#[]⟩, .slice none 0 0, .slice none 0 0, .int .i64 0, .slice none 0 0, .string ⟨#[]⟩, .int .i64 0] 29)) := blk_below HBv3_9.out bw
    clear hb9 HBv1_9 HBv2_9 HBv3_9 bw
    clear cv1_0 cv1_1 cv1_2 cv1_3 cv1_4 cv1_5 cv1_6 cv3_0 cv3_1 cv3_2 cv3_3 cv3_4 cv3_5 cv3_6
    have cv2_0 : (w10).cell? ⟨qv2, 0, none⟩ = some (.string ⟨#[]⟩) := (cell_of HBv2_10.out 0).trans rfl
    have cv2_1 : (w10).cell? ⟨qv2, 1, none⟩ = some (.slice none 0 0) := (cell_of HBv2_10.out 1).trans rfl
    have cv2_2 : (w10).cell? ⟨qv2, 2, none⟩ = some (.slice none 0 0) := (cell_of HBv2_10.out 2).trans rfl
    have cv2_3 : (w10).cell? ⟨qv2, 3, none⟩ = some (.int .i64 0) := (cell_of HBv2_10.out 3).trans rfl
    have cv2_4 : (w10).cell? ⟨qv2, 4, none⟩ = some (.slice none 0 0) := (cell_of HBv2_10.out 4).trans rfl
    have cv2_5 : (w10).cell? ⟨qv2, 5, none⟩ = some (.string ⟨#[]⟩) := (cell_of HBv2_10.out 5).trans rfl
    have cv2_6 : (w10).cell? ⟨qv2, 6, none⟩ = some (.int .i64 0) := (cell_of HBv2_10.out 6).trans rfl
    go_wp2_with fail
    refine (heldObj_any ⟨#[]⟩ 0 [] 0 [] 0 0 [] ⟨#[]⟩ 0 _ _ _ 0 _ (nilO _ _) 1 (by omega) (by omega) (fun j hj => absurd hj (by omega)) (fun j hj => absurd hj (by omega)) (fun j hj => absurd hj (by omega))).mono ?_
    rintro e w11 ⟨rfl, bw⟩
    have hb11 : Below w.heap.size w (w11) := hb10.trans (bw.mono hb10.size)
    have HM11 : Hid ((w10).heap.size ≤ (w11).heap.size) := bw.size
    have HBv1_11 : Hid ((w11).heap[qv1]? = some (.cells #[.string ⟨#[]⟩, .slice none 0 0, .slice none 0 0, .int .i64 0, .slice none 0 0, .string ⟨#[]⟩, .int .i64 0] 29)) := blk_below HBv1_10.out bw
    have HBv2_11 : Hid ((w11).heap[qv2]? = some (.cells #[.string ⟨#[]⟩, .slice none 0 0, .slice none 0 0, .int .i64 0, .slice none 0 0, .string ⟨#[]⟩, .int .i64 0] 29)) := blk_below HBv2_10.out bw
    have HBv3_11 : Hid ((w11).heap[qv3]? = some (.cells #[.string ⟨#[]⟩, .slice none 0 0, .slice none 0 0, .int .i64 0, .slice none 0 0, .string ⟨#[]⟩, .int .i64 0] 29)) := blk_below HBv3_10.out bw
    clear hb10 HBv1_10 HBv2_10 HBv3_10 bw
    have hkh2 : ¬ (((1 + 0 + 0 + 2 * 0 : Nat) : Int) < 0) := by omega
    clear cv2_0 cv2_1 cv2_2 cv2_3 cv2_4 cv2_5 cv2_6
    go_wp2_with fail
    go_ret
    exact ⟨rfl, hb11⟩

theorem walk1 (w : World) (a : ByteArray) (_ha : a.size ≤ maxLen) (hT : TabOk w) (hLN : LenOk w) :
    Calls Tryz.prog 5 #[.string a] w fun e w' => e = .returned (.bool true) ∧ Below w.heap.size w w' := by
  classical
  by_cases hK : ∃ p ys st gs d t, IsObj a p ys st gs d t
  · obtain ⟨p, ys, st, gs, d, t, hK⟩ := hK
    exact walkT w a p ys st gs d t _ _ rfl rfl hK hT hLN
  · exact walkF w a (fun p ys st gs d t h => hK ⟨p, ys, st, gs, d, t, h⟩) hT hLN

set_option maxRecDepth 100000 in
theorem contract (H : Type) (enc : TypeId × Value → H) (W : World) (base : Nat) (args : Array Value) (ds gs : List (DataW H)) (before : List MemPlace)
    (hval : ∀ (j : Nat) t v, Tryz.f5.params[j]? = some t → args[j]? = some v → Value.okWide Tryz.prog W .any base t v)
    (hW : DataW.Whole enc Tryz.prog Tryz.f5.params.toList Rows.fnExactObjReadSpec.vars false W args.toList ds gs before) (hL : laidMetH Tryz.prog Rows.fnExactObjReadRow.laid W) (hSh : W.ShapedOpen Tryz.prog) :
    Calls Tryz.prog 5 args W fun e W' => ∃ v, e = .returned v ∧ Rows.fnExactObjReadSpec.post enc Tryz.prog Tryz.f5 false true false false W args v W' := by
  have hT : TabOk W := table hL
  have hLN : LenOk W := Tryz.laysM145.s1_3 W hSh
  have hW' := hW
  obtain ⟨p, q, hA0, hV, rfl, hfz, hnd⟩ := hW
  have hA : DataW.TrodAll enc Tryz.prog W 0 (fun _ => true) true Tryz.f5.params.toList args.toList ds p := hA0
  rw [Tryz.params5] at hA hval
  obtain ⟨v0, vs0, d0, ds0, p0, q0, hargs, rfl, rfl, h0, r0⟩ := trodAll_cons hA
  obtain ⟨rfl, rfl, rfl⟩ := trodAll_nil r0
  obtain rfl : args = #[v0] := by cases args; simp_all
  obtain ⟨rfl, rfl⟩ := trodVars_none hV
  obtain ⟨a0, rfl, rfl, rfl, w0⟩ := open_string Tryz.underlying9 (hval 0 9 v0 rfl rfl) h0
  clear hA0
  simp only [List.append_nil] at hW'
  refine (walk1 W a0 w0 hT hLN).mono fun e W' ⟨he, bel⟩ => ?_
  subst he
  exact ⟨_, rfl, _, _, _, [], [], [], hW', trodAll_mk1 (shut_bool Tryz.underlying4 _), (trodAll_cons_mk (shut_string Tryz.underlying9 w0) trodAll_mk0), rfl, bel.frame _, fun h => by cases h⟩

theorem laid_met (os : Os) : laidMet Tryz.prog Rows.fnExactObjReadRow.laid ((withTables (World.holding Tryz.prog os ⟨#[], #[], []⟩)).forCall (fun _ _ => 0) ⟨#[], #[.string ByteArray.empty], []⟩).memory :=
  laidMet_of_run' 80 (by kernel_rfl) (by kernel_rfl)
theorem reads (os : Os) {H : Type} (enc : TypeId × Value → H) : ∃ places, DataW.whole enc Tryz.prog ((withTables (World.holding Tryz.prog os ⟨#[], #[], []⟩)).forCall (fun _ _ => 0) ⟨#[], #[.string ByteArray.empty], []⟩).memory Tryz.f5.params.toList Rows.fnExactObjReadSpec.vars false #[(.string ByteArray.empty : Value)].toList 8 = some ([.lit (.string [])], [], places) :=
  ⟨[], by kernel_rfl⟩

set_option maxRecDepth 100000 in
theorem lifted (os : Os) (started : os.Started) (H : Type) (enc : TypeId × Value → H) (F : Stop.Interp) :
    ReturnsInHanded {} Tryz.checked os 5 .any ((OpenSpec.ofChange Rows.fnExactObjReadSpec).preRow enc Tryz.prog Tryz.f5 Rows.fnExactObjReadRow.domain false Rows.fnExactObjReadRow.laid) (((OpenSpec.ofChange Rows.fnExactObjReadSpec).at F).post enc Tryz.prog Tryz.f5 false true false false) := by
  obtain ⟨places, hx⟩ := reads os enc
  refine returnsInHanded_of_row (C := Tryz.checked) (s := OpenSpec.ofChange Rows.fnExactObjReadSpec) own started (by kernel_rfl) Tryz.func5
    (witness_row_at (enc := enc) (C := Tryz.checked) false (withTables (World.holding Tryz.prog os ⟨#[], #[], []⟩)) #[.string ByteArray.empty] rfl (by kernel_rfl) (by kernel_rfl) (by kernel_rfl)
      (OpenSpec.preRow_of_cond 8 hx (by kernel_rfl) (fun k hk => by cases hk) (by kernel_rfl) (laid_met os))) ?_
  intro W base args ds gs before hval hW _ _ _ hL hSh _
  exact contract H enc W base args ds gs before hval hW hL hSh

theorem said : Rows.FnExactObjReadSaid :=
  OpenClaim.holds_of_cond 5 Tryz.f5 rfl rfl rfl rfl rfl rfl rfl ⟨rfl, rfl, rfl, rfl, rfl⟩ rfl rfl rfl rfl rfl (by kernel_rfl) Tryz.func5 (by kernel_rfl)
    (of_decide_eq_true (by kernel_rfl)) (by unfold Func.isWrapper; first | (rw [if_pos (by decide +kernel)]; kernel_rfl) | (rw [if_neg (by decide +kernel)]; exact ⟨rfl, rfl⟩))
    (fun os started H enc _ F => by rw [OpenClaim.pre_eq_preRow]; exact lifted os started H enc F)

theorem plain (f : FuncId) (fn : Func) (hf : Tryz.pinned.checked.prog.funcNamed "loop.example/g00239/laws.FnExactObjRead" = some f) (hfn : Tryz.pinned.checked.prog.funcs[f]? = some fn) :
    false = Tryz.pinned.checked.prog.looks [] ∧ ∀ (j : Nat) t, fn.params[j]? = some t → Tryz.pinned.checked.prog.wantsStandIn t = false := by
  obtain rfl : f = 5 := Option.some.inj ((show Tryz.prog.funcNamed "loop.example/g00239/laws.FnExactObjRead" = some 5 by kernel_rfl).symm.trans hf) |>.symm
  obtain rfl : fn = Tryz.f5 := (Option.some.inj (Tryz.func5.symm.trans hfn)).symm
  refine ⟨by kernel_rfl, fun j t ht => ?_⟩
  rw [Tryz.params5] at ht
  obtain rfl : t = 9 := by simpa using Array.mem_of_getElem? ht
  exact (show Tryz.prog.wantsStandIn 9 = false by kernel_rfl)

theorem card : Rows.FnExactObjReadCardSaid :=
  Claim7.holds_tied_plain_at .later [] _ _ _ _ said (fun _ h => by cases h) (by kernel_rfl) (fun _ h => by cases h) fnExactObjRead_row_tie rfl ⟨rfl, rfl⟩ (by kernel_rfl) rfl plain (by kernel_rfl)
end fnExactObjRead

theorem fnExactObjRead_holds : Rows.FnExactObjReadCardSaid := fnExactObjRead.card
#print axioms fnExactObjRead_holds
end Go.Proofs.YtdlhicdfldecgaaGreatDoor
