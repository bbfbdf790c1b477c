/- What is kept of a drawn answer suits who asked for it, and is right; nothing is of what may not be kept (the law answers true), and the code reads as it did: for every code. The card lists the tables that strconv.Itoa's text names. -/
import Derived.Test.YtdlhicdfldecgaaGreatDoorFnKeptOfG
import Derived.Below
import Derived.ChangeOld
import Derived.ShutString
import Derived.Deep.RegionHeld3
import Derived.Deep.DrawnRows
import Derived.Deep.CutRange
import Derived.Deep.DeepCutAuto
namespace Go.Proofs.YtdlhicdfldecgaaGreatDoor
namespace fnKeptOf
open Go.ChangeShapes Go.WideShapes Go.ChangeAt Go.RowKit
open Go.ChangeMaps (open_string shut_string)
attribute [local go_sem ↓] Go.wp_at_zero Go.wp_at_succ

theorem own : ownKnob Tryz.prog.godebug = none := by kernel_rfl
theorem laidOut : laidOutB Tryz.prog = true := by kernel_rfl
def IsRow (k : IntKind) (w : World) (a : Option Addr) (len cap : Nat) (zs : List Int) : Prop :=
  (a = none ∧ len = 0 ∧ cap = 0 ∧ zs = []) ∨
  ∃ x, a = some x ∧ len ≤ cap ∧ cap ≤ maxLen ∧ zs.length = cap ∧ (∀ i, i < zs.length → w.cell? (x.add i) = some (.int k (zs.getD i 0))) ∧ ∀ n ∈ zs, (Lit.int k n).wf = true
theorem row_cell {k : IntKind} {w : World} {x : Addr} {zs : List Int} (h : ∀ i, i < zs.length → w.cell? (x.add i) = some (.int k (zs.getD i 0))) (j : Nat) (hj : j < zs.length) : ∃ b off, x = ⟨b, off, none⟩ ∧ w.cell? ⟨b, off + j, none⟩ = some (.int k (zs.getD j 0)) := by
  obtain ⟨b, off, spot⟩ := x
  have hc := h j hj
  have hspot : spot = none := by
    have := World.cell?_spot (h 0 (by omega))
    simpa [Addr.add] using this
  subst hspot
  refine ⟨b, off, rfl, ?_⟩
  by_cases e : j = 0
  · subst e; simpa [Addr.add] using hc
  · simpa [Addr.add, e] using hc
theorem row_code {w : World} {a : Option Addr} {len cap : Nat} {zs : List Int} (h : IsRow .u8 w a len cap zs) (hl : len ≤ 1048576) : CodeAt w w.heap.size a len zs := by
  refine ⟨hl, fun j hj => ?_⟩
  rcases h with ⟨rfl, rfl, _, _⟩ | ⟨x, rfl, h1, _, h3, h4, h5⟩
  · omega
  · obtain ⟨b, off, rfl, hc2⟩ := row_cell h4 j (by omega)
    have hm : zs.getD j 0 ∈ zs := by
      rw [List.getD_eq_getElem?_getD, List.getElem?_eq_getElem (by omega)]
      exact List.getElem_mem _
    have hr := bounds_u8 (h5 _ hm)
    exact ⟨b, off, rfl, World.block_lt_of_cell? _ _ hc2, hc2, hr.1, by omega⟩
/-- What ObjOf tells, by whether it is kept. -/
def OfBy (ok : Bool) (p : ByteArray) (st : Int) (gs : List (ByteArray × ByteArray)) (d : ByteArray) (t : Int) (vl yl : List ByteArray) (w : World) (e : Ending) (w' : World) : Prop :=
  ∃ (p2 : ByteArray) (v1 : Value) (xs : List ByteArray) (v2 : Value) (ys : List ByteArray) (st2 : Int) (v3 : Value) (us : List (ByteArray × ByteArray)) (d2 : ByteArray) (t2 : Int), e = .returned (.tuple #[.agg #[.string p2, v1, v2, .int .i64 st2, v3, .string d2, .int .i64 t2], .bool ok]) ∧ ObjO w' w.heap.size v1 xs.length xs v2 ys.length ys v3 us.length us ∧ (ok = true → p = p2 ∧ vl = xs ∧ yl = ys ∧ st = st2 ∧ gs = us ∧ d = d2 ∧ t = t2) ∧ (ok = false → p2 = ⟨#[]⟩) ∧ Below w.heap.size w w'
open Classical in
theorem of_by {m : Int} {p : ByteArray} {fs : List (ByteArray × ByteArray)} {b : ByteArray} {st : Int} {gs : List (ByteArray × ByteArray)} {d : ByteArray} {t : Int} {vl yl : List ByteArray} {ok : Bool} (hok : ok = decide (MayP m p fs b st gs d ∧ ObjP p vl yl st gs d t)) {w w' : World} {e : Ending} (h : ObjOfIs m p fs b st gs d t vl yl gs.length w e w') : OfBy ok p st gs d t vl yl w e w' := by
  obtain ⟨h1, h2⟩ := h
  rcases h2 with ⟨h3, v1, v2, v3, h4, h5⟩ | ⟨h3, h4⟩
  · have e1 : ok = true := by rw [hok]; exact decide_eq_true h3
    exact ⟨p, v1, vl, v2, yl, st, v3, gs, d, t, by rw [e1]; exact h4, h5, fun _ => ⟨rfl, rfl, rfl, rfl, rfl, rfl, rfl⟩, (fun h => by rw [e1] at h; cases h), h1⟩
  · have e1 : ok = false := by rw [hok]; exact decide_eq_false h3
    exact ⟨⟨#[]⟩, .slice none 0 0, [], .slice none 0 0, [], 0, .slice none 0 0, [], ⟨#[]⟩, 0, by rw [e1]; exact h4, ⟨World.ownsRow_nil _ _ _ _, World.ownsRow_nil _ _ _ _, World.ownsRow_nil _ _ _ _, fun _ h => by simp [Value.ownBlock] at h⟩, (fun h => by rw [e1] at h; cases h), fun _ => rfl, h1⟩
theorem star_no : ¬ TokOk starT := fun h => by
  have h1 := h.2.2 0 (by decide)
  revert h1
  unfold TokB
  decide

open Go.Lib hiding intOf
set_option maxHeartbeats 400000 in
theorem big_no (a : Option Addr) (len cap : Nat) (w : World) (h : ¬ (1048576 : Int) < (len : Int)) : Calls Tryz.prog 6 #[.slice a len cap] w fun e w' => e = .returned (.bool false) ∧ w' = w := by
  go_enter Tryz.func6, Tryz.ntmps6
  go_wp2
  go_ret
  exact ⟨rfl, rfl⟩
set_option maxHeartbeats 400000 in
theorem big_yes (a : Option Addr) (len cap : Nat) (w : World) (h : (1048576 : Int) < (len : Int)) : Calls Tryz.prog 6 #[.slice a len cap] w fun e w' => e = .returned (.bool true) ∧ w' = w := by
  go_enter Tryz.func6, Tryz.ntmps6
  go_wp2
  go_ret
  exact ⟨rfl, rfl⟩
set_option maxHeartbeats 16000000 in
set_option maxRecDepth 100000 in
theorem walk1 (w : World) (a0 : Option Addr) (len0 cap0 : Nat) (zc0 : List Int) (w0 : IsRow .u8 w a0 len0 cap0 zc0) (hT : TabOk w) :
    Calls Tryz.prog 4 #[.slice a0 len0 cap0] w fun e w' => e = .returned (.bool true) ∧ Below w.heap.size w w' := by
  classical
  by_cases hbig : (1048576 : Int) < (len0 : Int)
  · clear hT
    go_enter Tryz.func4, Tryz.ntmps4
    go_wp2_with fail
    refine (big_yes a0 len0 cap0 _ hbig).mono ?_
    rintro e w1 ⟨rfl, rfl⟩
    go_wp2
    go_ret
    exact ⟨rfl, Below.refl _ _⟩
  have hcode := row_code w0 (by omega)
  have HCODE : Hid (∀ W, Below w.heap.size w W → CodeAt W W.heap.size a0 len0 zc0) := fun W h => (hcode.below h).upTo h.size
  have HT : Hid (∀ W, Below w.heap.size w W → TabOk W) := fun W h => hT.below h
  clear hT
  have HBIG : Hid (¬ (1048576 : Int) < (len0 : Int)) := hbig
  clear w0 hcode hbig
  have hb0 : Below w.heap.size w w := Below.refl _ _
  go_enter Tryz.func4, Tryz.ntmps4
  go_wp2_with fail
  refine (big_no a0 len0 cap0 _ (by have := HBIG.out; omega)).mono ?_
  rintro e w1 ⟨rfl, hwe⟩
  have bw : Below (w).heap.size (w) w1 := by rw [hwe]; exact Below.refl _ _
  clear hwe
  have hb1 : Below w.heap.size w (w1) := hb0.trans (bw.mono hb0.size)
  have HM1 : Hid ((w).heap.size ≤ (w1).heap.size) := bw.size
  clear hb0 bw
  go_wp2_with fail
  refine (drawObjOf_any a0 len0 cap0 zc0 _ (HCODE.out _ hb1)).mono ?_
  rintro e w2 ⟨m, p, vv1, fs, b, st, vv2, gs, d, t, rfl, hp, ownQ, hq, hbz, ownR, hr, hd, ht, bw⟩
  obtain ⟨oQ, pQ, rfl⟩ := slice_of_owns ownQ
  obtain ⟨oR, pR, rfl⟩ := slice_of_owns ownR
  have HFQ : Hid (fs.length ≤ 41 ∧ ShortF fs) := hq
  have HFR : Hid (gs.length ≤ 41 ∧ ShortF gs) := hr
  have HPZ : Hid (p.size ≤ 64) := hp
  have HBZ : Hid (b.size ≤ 140) := hbz
  have HDZ : Hid (d.size ≤ 140) := hd
  obtain ⟨vl, hvl⟩ : ∃ l, l = varyP gs := ⟨_, rfl⟩
  obtain ⟨yl, hyl⟩ : ∃ l, l = valsP vl fs := ⟨_, rfl⟩
  obtain ⟨okK, hok⟩ : ∃ k, k = decide (MayP m p fs b st gs d ∧ ObjP p vl yl st gs d t) := ⟨_, rfl⟩
  obtain ⟨RT, hRT⟩ : ∃ r, r = respT st gs d := ⟨_, rfl⟩
  have HRT : Hid (RT = respT st gs d) := hRT
  have HVL : Hid (vl = varyP gs) := hvl
  have HYL : Hid (yl = valsP vl fs) := hyl
  have HOK : Hid (okK = decide (MayP m p fs b st gs d ∧ ObjP p vl yl st gs d t)) := hok
  have hkk : (okK != okK) = false := by simp
  have htt : (t == t) = true := by simp
  have hpp : (p.toList == p.toList) = true := by simp
  have hrr : (RT.toList == RT.toList) = true := by simp
  clear hp hq hr hbz hd ht hvl hyl hok hRT
  have hb2 : Below w.heap.size w (w2) := hb1.trans (bw.mono hb1.size)
  have HM2 : Hid ((w1).heap.size ≤ (w2).heap.size) := bw.size
  have HOQ_2 : Hid ((w2).ownsRow w.heap.size 131 2 (.slice oQ fs.length pQ) fs.length (flatF fs)) := owns_wide ownQ hb1.size
  have LOQ : Hid (∀ g, (Value.ownBlock (.slice oQ fs.length pQ)) = some g → (w1).heap.size ≤ g) := fun g hg => owns_ge ownQ hg
  have HIQ : Hid (∀ g, (Value.ownBlock (.slice oQ fs.length pQ)) = some g → g < (w2).heap.size) := fun g hg => owns_lt ownQ hg
  clear ownQ
  have HOR_2 : Hid ((w2).ownsRow w.heap.size 131 2 (.slice oR gs.length pR) gs.length (flatF gs)) := owns_wide ownR hb1.size
  have LOR : Hid (∀ g, (Value.ownBlock (.slice oR gs.length pR)) = some g → (w1).heap.size ≤ g) := fun g hg => owns_ge ownR hg
  have HIR : Hid (∀ g, (Value.ownBlock (.slice oR gs.length pR)) = some g → g < (w2).heap.size) := fun g hg => owns_lt ownR hg
  clear ownR
  clear hb1 bw
  go_upto_region 4 with fail
  obtain ⟨qv1, hqv1⟩ : ∃ q, q = (w2).heap.size := ⟨_, rfl⟩
  obtain ⟨w3, hW3⟩ : ∃ W, W = (w2).alloc (.cells #[.int .i64 m, .string p, .slice oQ fs.length pQ, .string b] 39) := ⟨_, rfl⟩
  have hz3 : (w2).heap.size = qv1 := hqv1.symm
  first | rw [← hW3, ← hqv1] | rw [← hW3]
  have hs3 : w3.heap.size = qv1 + 1 := by rw [hW3, ← hz3]; simp
  have bw : Below (w2).heap.size (w2) w3 := by rw [hW3]; exact (Below.refl _ _).alloc (Nat.le_refl _) _
  have hb3 : Below w.heap.size w (w3) := hb2.trans (bw.mono hb2.size)
  have HM3 : Hid ((w2).heap.size ≤ (w3).heap.size) := bw.size
  have HOQ_3 : Hid ((w3).ownsRow w.heap.size 131 2 (.slice oQ fs.length pQ) fs.length (flatF fs)) := owns_below HOQ_2.out bw (fun g hg => owns_lt HOQ_2.out hg)
  have HOR_3 : Hid ((w3).ownsRow w.heap.size 131 2 (.slice oR gs.length pR) gs.length (flatF gs)) := owns_below HOR_2.out bw (fun g hg => owns_lt HOR_2.out hg)
  have HBv1_3 : Hid ((w3).heap[qv1]? = some (.cells #[.int .i64 m, .string p, .slice oQ fs.length pQ, .string b] 39)) := by show _ = _; rw [hW3, ← hz3]; exact heap_alloc_new _ _
  have HGv1 : Hid (w.heap.size ≤ qv1) := by show _ ≤ _; rw [← hz3]; exact hb2.size
  clear hb2 HOQ_2 HOR_2 bw hW3 hz3
  obtain ⟨qv2, hqv2⟩ : ∃ q, q = qv1 + 1 := ⟨_, rfl⟩
  obtain ⟨w4, hW4⟩ : ∃ W, W = (w3).alloc (.cells #[.int .i64 st, .slice oR gs.length pR, .string d] 27) := ⟨_, rfl⟩
  have hz4 : (w3).heap.size = qv2 := by rw [hqv2]; exact hs3
  first | rw [← hW4, ← hqv2] | rw [← hW4]
  have hs4 : w4.heap.size = qv2 + 1 := by rw [hW4, ← hz4]; simp
  have bw : Below (w3).heap.size (w3) w4 := by rw [hW4]; exact (Below.refl _ _).alloc (Nat.le_refl _) _
  have hb4 : Below w.heap.size w (w4) := hb3.trans (bw.mono hb3.size)
  have HM4 : Hid ((w3).heap.size ≤ (w4).heap.size) := bw.size
  have HOQ_4 : Hid ((w4).ownsRow w.heap.size 131 2 (.slice oQ fs.length pQ) fs.length (flatF fs)) := owns_below HOQ_3.out bw (fun g hg => owns_lt HOQ_3.out hg)
  have HOR_4 : Hid ((w4).ownsRow w.heap.size 131 2 (.slice oR gs.length pR) gs.length (flatF gs)) := owns_below HOR_3.out bw (fun g hg => owns_lt HOR_3.out hg)
  have HBv1_4 : Hid ((w4).heap[qv1]? = some (.cells #[.int .i64 m, .string p, .slice oQ fs.length pQ, .string b] 39)) := blk_below HBv1_3.out bw
  have HNv1v2 : Hid (qv1 ≠ qv2) := fun e => by have h1 := (Array.getElem?_eq_some_iff.1 HBv1_3.out).1; omega
  have HBv2_4 : Hid ((w4).heap[qv2]? = some (.cells #[.int .i64 st, .slice oR gs.length pR, .string d] 27)) := by show _ = _; rw [hW4, ← hz4]; exact heap_alloc_new _ _
  have HGv2 : Hid (w.heap.size ≤ qv2) := by show _ ≤ _; rw [← hz4]; exact hb3.size
  clear hb3 HOQ_3 HOR_3 HBv1_3 bw hW4 hz4
  clear hs4 hqv2 hs3 hqv1
  have cv1_0 : (w4).cell? ⟨qv1, 0, none⟩ = some (.int .i64 m) := (cell_of HBv1_4.out 0).trans rfl
  have cv1_1 : (w4).cell? ⟨qv1, 1, none⟩ = some (.string p) := (cell_of HBv1_4.out 1).trans rfl
  have cv1_2 : (w4).cell? ⟨qv1, 2, none⟩ = some (.slice oQ fs.length pQ) := (cell_of HBv1_4.out 2).trans rfl
  have cv1_3 : (w4).cell? ⟨qv1, 3, none⟩ = some (.string b) := (cell_of HBv1_4.out 3).trans rfl
  have cv2_0 : (w4).cell? ⟨qv2, 0, none⟩ = some (.int .i64 st) := (cell_of HBv2_4.out 0).trans rfl
  have cv2_1 : (w4).cell? ⟨qv2, 1, none⟩ = some (.slice oR gs.length pR) := (cell_of HBv2_4.out 1).trans rfl
  have cv2_2 : (w4).cell? ⟨qv2, 2, none⟩ = some (.string d) := (cell_of HBv2_4.out 2).trans rfl
  go_wp2_with fail
  refine ((implObjOf_any m p _ b fs.length _ fs st _ d gs.length _ gs t vl yl _ (FieldsV.of_owns HOQ_4.out) (by have := HFQ.out.1; omega) (shortWalk HFQ.out.2) rfl (by have := HPZ.out; unfold maxLen; omega) (by have := HBZ.out; unfold maxLen; omega) (FieldsV.of_owns HOR_4.out) (by have := HFR.out.1; omega) (shortWalk HFR.out.2) (by have := HDZ.out; unfold maxLen; omega) (by have := short_get2 HFQ.out.2 ccName; omega) (by have := short_get2 HFR.out.2 ccName; omega) (by have := short_get2 HFR.out.2 varyName; omega) HVL.out HYL.out HFQ.out.2.copy HFR.out.2.copy).mono (fun _ _ h => of_by HOK.out h)).mono ?_
  rintro e w5 ⟨p1, vv1, xs1, vv2, ys1, st1, vv3, us1, d1, t1, rfl, ⟨ownX1, ownY1, ownG1, ne1⟩, hT1, hF1, bw⟩
  obtain ⟨oX1, pX1, rfl⟩ := slice_of_owns ownX1
  obtain ⟨oY1, pY1, rfl⟩ := slice_of_owns ownY1
  obtain ⟨oG1, pG1, rfl⟩ := slice_of_owns ownG1
  have HTR1 := (show Hid _ from hT1)
  have HFA1 := (show Hid _ from hF1)
  clear ne1 hT1 hF1
  have hb5 : Below w.heap.size w (w5) := hb4.trans (bw.mono hb4.size)
  have HM5 : Hid ((w4).heap.size ≤ (w5).heap.size) := bw.size
  have HOQ_5 : Hid ((w5).ownsRow w.heap.size 131 2 (.slice oQ fs.length pQ) fs.length (flatF fs)) := owns_below HOQ_4.out bw (fun g hg => owns_lt HOQ_4.out hg)
  have HOR_5 : Hid ((w5).ownsRow w.heap.size 131 2 (.slice oR gs.length pR) gs.length (flatF gs)) := owns_below HOR_4.out bw (fun g hg => owns_lt HOR_4.out hg)
  have HBv1_5 : Hid ((w5).heap[qv1]? = some (.cells #[.int .i64 m, .string p, .slice oQ fs.length pQ, .string b] 39)) := blk_below HBv1_4.out bw
  have HBv2_5 : Hid ((w5).heap[qv2]? = some (.cells #[.int .i64 st, .slice oR gs.length pR, .string d] 27)) := blk_below HBv2_4.out bw
  have HOX1_5 : Hid ((w5).ownsRow w.heap.size 9 1 (.slice oX1 xs1.length pX1) xs1.length (xs1.map Value.string)) := owns_wide ownX1 hb4.size
  have LOX1 : Hid (∀ g, (Value.ownBlock (.slice oX1 xs1.length pX1)) = some g → (w4).heap.size ≤ g) := fun g hg => owns_ge ownX1 hg
  have HIX1 : Hid (∀ g, (Value.ownBlock (.slice oX1 xs1.length pX1)) = some g → g < (w5).heap.size) := fun g hg => owns_lt ownX1 hg
  clear ownX1
  have HOY1_5 : Hid ((w5).ownsRow w.heap.size 9 1 (.slice oY1 ys1.length pY1) ys1.length (ys1.map Value.string)) := owns_wide ownY1 hb4.size
  have LOY1 : Hid (∀ g, (Value.ownBlock (.slice oY1 ys1.length pY1)) = some g → (w4).heap.size ≤ g) := fun g hg => owns_ge ownY1 hg
  have HIY1 : Hid (∀ g, (Value.ownBlock (.slice oY1 ys1.length pY1)) = some g → g < (w5).heap.size) := fun g hg => owns_lt ownY1 hg
  clear ownY1
  have HOG1_5 : Hid ((w5).ownsRow w.heap.size 131 2 (.slice oG1 us1.length pG1) us1.length (flatF us1)) := owns_wide ownG1 hb4.size
  have LOG1 : Hid (∀ g, (Value.ownBlock (.slice oG1 us1.length pG1)) = some g → (w4).heap.size ≤ g) := fun g hg => owns_ge ownG1 hg
  have HIG1 : Hid (∀ g, (Value.ownBlock (.slice oG1 us1.length pG1)) = some g → g < (w5).heap.size) := fun g hg => owns_lt ownG1 hg
  clear ownG1
  clear hb4 HOQ_4 HOR_4 HBv1_4 HBv2_4 bw
  clear cv1_0 cv1_1 cv1_2 cv1_3 cv2_0 cv2_1 cv2_2
  go_upto_region 5 with fail
  obtain ⟨qv3, hqv3⟩ : ∃ q, q = (w5).heap.size := ⟨_, rfl⟩
  obtain ⟨w6, hW6⟩ : ∃ W, W = (w5).alloc (.cells #[.string p1, .slice oX1 xs1.length pX1, .slice oY1 ys1.length pY1, .int .i64 st1, .slice oG1 us1.length pG1, .string d1, .int .i64 t1] 29) := ⟨_, rfl⟩
  have hz6 : (w5).heap.size = qv3 := hqv3.symm
  first | rw [← hW6, ← hqv3] | rw [← hW6]
  have hs6 : w6.heap.size = qv3 + 1 := by rw [hW6, ← hz6]; simp
  have bw : Below (w5).heap.size (w5) w6 := by rw [hW6]; exact (Below.refl _ _).alloc (Nat.le_refl _) _
  have hb6 : Below w.heap.size w (w6) := hb5.trans (bw.mono hb5.size)
  have HM6 : Hid ((w5).heap.size ≤ (w6).heap.size) := bw.size
  have HOQ_6 : Hid ((w6).ownsRow w.heap.size 131 2 (.slice oQ fs.length pQ) fs.length (flatF fs)) := owns_below HOQ_5.out bw (fun g hg => owns_lt HOQ_5.out hg)
  have HOR_6 : Hid ((w6).ownsRow w.heap.size 131 2 (.slice oR gs.length pR) gs.length (flatF gs)) := owns_below HOR_5.out bw (fun g hg => owns_lt HOR_5.out hg)
  have HOX1_6 : Hid ((w6).ownsRow w.heap.size 9 1 (.slice oX1 xs1.length pX1) xs1.length (xs1.map Value.string)) := owns_below HOX1_5.out bw (fun g hg => owns_lt HOX1_5.out hg)
  have HOY1_6 : Hid ((w6).ownsRow w.heap.size 9 1 (.slice oY1 ys1.length pY1) ys1.length (ys1.map Value.string)) := owns_below HOY1_5.out bw (fun g hg => owns_lt HOY1_5.out hg)
  have HOG1_6 : Hid ((w6).ownsRow w.heap.size 131 2 (.slice oG1 us1.length pG1) us1.length (flatF us1)) := owns_below HOG1_5.out bw (fun g hg => owns_lt HOG1_5.out hg)
  have HBv1_6 : Hid ((w6).heap[qv1]? = some (.cells #[.int .i64 m, .string p, .slice oQ fs.length pQ, .string b] 39)) := blk_below HBv1_5.out bw
  have HBv2_6 : Hid ((w6).heap[qv2]? = some (.cells #[.int .i64 st, .slice oR gs.length pR, .string d] 27)) := blk_below HBv2_5.out bw
  have HNv1v3 : Hid (qv1 ≠ qv3) := fun e => by have h1 := (Array.getElem?_eq_some_iff.1 HBv1_5.out).1; omega
  have HNv2v3 : Hid (qv2 ≠ qv3) := fun e => by have h1 := (Array.getElem?_eq_some_iff.1 HBv2_5.out).1; omega
  have HBv3_6 : Hid ((w6).heap[qv3]? = some (.cells #[.string p1, .slice oX1 xs1.length pX1, .slice oY1 ys1.length pY1, .int .i64 st1, .slice oG1 us1.length pG1, .string d1, .int .i64 t1] 29)) := by show _ = _; rw [hW6, ← hz6]; exact heap_alloc_new _ _
  have HGv3 : Hid (w.heap.size ≤ qv3) := by show _ ≤ _; rw [← hz6]; exact hb5.size
  clear hb5 HOQ_5 HOR_5 HOX1_5 HOY1_5 HOG1_5 HBv1_5 HBv2_5 bw hW6 hz6
  clear hs6 hqv3
  have cv1_0 : (w6).cell? ⟨qv1, 0, none⟩ = some (.int .i64 m) := (cell_of HBv1_6.out 0).trans rfl
  have cv1_1 : (w6).cell? ⟨qv1, 1, none⟩ = some (.string p) := (cell_of HBv1_6.out 1).trans rfl
  have cv1_2 : (w6).cell? ⟨qv1, 2, none⟩ = some (.slice oQ fs.length pQ) := (cell_of HBv1_6.out 2).trans rfl
  have cv1_3 : (w6).cell? ⟨qv1, 3, none⟩ = some (.string b) := (cell_of HBv1_6.out 3).trans rfl
  have cv2_0 : (w6).cell? ⟨qv2, 0, none⟩ = some (.int .i64 st) := (cell_of HBv2_6.out 0).trans rfl
  have cv2_1 : (w6).cell? ⟨qv2, 1, none⟩ = some (.slice oR gs.length pR) := (cell_of HBv2_6.out 1).trans rfl
  have cv2_2 : (w6).cell? ⟨qv2, 2, none⟩ = some (.string d) := (cell_of HBv2_6.out 2).trans rfl
  go_wp2_with fail
  refine ((specObjOf_any m p _ b fs.length _ fs st _ d gs.length _ gs t vl yl _ (FieldsV.of_owns HOQ_6.out) (by have := HFQ.out.1; omega) (shortWalk HFQ.out.2) rfl (by have := HPZ.out; unfold maxLen; omega) (by have := HBZ.out; unfold maxLen; omega) (FieldsV.of_owns HOR_6.out) (by have := HFR.out.1; omega) (shortWalk HFR.out.2) (by have := HDZ.out; unfold maxLen; omega) (by have := short_get2 HFQ.out.2 ccName; omega) (by have := short_get2 HFR.out.2 ccName; omega) (by have := short_get2 HFR.out.2 varyName; omega) HVL.out HYL.out).mono (fun _ _ h => of_by HOK.out h)).mono ?_
  rintro e w7 ⟨p2, vv1, xs2, vv2, ys2, st2, vv3, us2, d2, t2, rfl, ⟨ownX2, ownY2, ownG2, ne2⟩, hT2, hF2, bw⟩
  obtain ⟨oX2, pX2, rfl⟩ := slice_of_owns ownX2
  obtain ⟨oY2, pY2, rfl⟩ := slice_of_owns ownY2
  obtain ⟨oG2, pG2, rfl⟩ := slice_of_owns ownG2
  have HTR2 := (show Hid _ from hT2)
  have HFA2 := (show Hid _ from hF2)
  clear ne2 hT2 hF2
  have hb7 : Below w.heap.size w (w7) := hb6.trans (bw.mono hb6.size)
  have HM7 : Hid ((w6).heap.size ≤ (w7).heap.size) := bw.size
  have HOQ_7 : Hid ((w7).ownsRow w.heap.size 131 2 (.slice oQ fs.length pQ) fs.length (flatF fs)) := owns_below HOQ_6.out bw (fun g hg => owns_lt HOQ_6.out hg)
  have HOR_7 : Hid ((w7).ownsRow w.heap.size 131 2 (.slice oR gs.length pR) gs.length (flatF gs)) := owns_below HOR_6.out bw (fun g hg => owns_lt HOR_6.out hg)
  have HOX1_7 : Hid ((w7).ownsRow w.heap.size 9 1 (.slice oX1 xs1.length pX1) xs1.length (xs1.map Value.string)) := owns_below HOX1_6.out bw (fun g hg => owns_lt HOX1_6.out hg)
  have HOY1_7 : Hid ((w7).ownsRow w.heap.size 9 1 (.slice oY1 ys1.length pY1) ys1.length (ys1.map Value.string)) := owns_below HOY1_6.out bw (fun g hg => owns_lt HOY1_6.out hg)
  have HOG1_7 : Hid ((w7).ownsRow w.heap.size 131 2 (.slice oG1 us1.length pG1) us1.length (flatF us1)) := owns_below HOG1_6.out bw (fun g hg => owns_lt HOG1_6.out hg)
  have HBv1_7 : Hid ((w7).heap[qv1]? = some (.cells #[.int .i64 m, .string p, .slice oQ fs.length pQ, .string b] 39)) := blk_below HBv1_6.out bw
  have HBv2_7 : Hid ((w7).heap[qv2]? = some (.cells #[.int .i64 st, .slice oR gs.length pR, .string d] 27)) := blk_below HBv2_6.out bw
  have HBv3_7 : Hid ((w7).heap[qv3]? = some (.cells #[.string p1, .slice oX1 xs1.length pX1, .slice oY1 ys1.length pY1, .int .i64 st1, .slice oG1 us1.length pG1, .string d1, .int .i64 t1] 29)) := blk_below HBv3_6.out bw
  have HOX2_7 : Hid ((w7).ownsRow w.heap.size 9 1 (.slice oX2 xs2.length pX2) xs2.length (xs2.map Value.string)) := owns_wide ownX2 hb6.size
  have LOX2 : Hid (∀ g, (Value.ownBlock (.slice oX2 xs2.length pX2)) = some g → (w6).heap.size ≤ g) := fun g hg => owns_ge ownX2 hg
  have HIX2 : Hid (∀ g, (Value.ownBlock (.slice oX2 xs2.length pX2)) = some g → g < (w7).heap.size) := fun g hg => owns_lt ownX2 hg
  clear ownX2
  have HOY2_7 : Hid ((w7).ownsRow w.heap.size 9 1 (.slice oY2 ys2.length pY2) ys2.length (ys2.map Value.string)) := owns_wide ownY2 hb6.size
  have LOY2 : Hid (∀ g, (Value.ownBlock (.slice oY2 ys2.length pY2)) = some g → (w6).heap.size ≤ g) := fun g hg => owns_ge ownY2 hg
  have HIY2 : Hid (∀ g, (Value.ownBlock (.slice oY2 ys2.length pY2)) = some g → g < (w7).heap.size) := fun g hg => owns_lt ownY2 hg
  clear ownY2
  have HOG2_7 : Hid ((w7).ownsRow w.heap.size 131 2 (.slice oG2 us2.length pG2) us2.length (flatF us2)) := owns_wide ownG2 hb6.size
  have LOG2 : Hid (∀ g, (Value.ownBlock (.slice oG2 us2.length pG2)) = some g → (w6).heap.size ≤ g) := fun g hg => owns_ge ownG2 hg
  have HIG2 : Hid (∀ g, (Value.ownBlock (.slice oG2 us2.length pG2)) = some g → g < (w7).heap.size) := fun g hg => owns_lt ownG2 hg
  clear ownG2
  clear hb6 HOQ_6 HOR_6 HOX1_6 HOY1_6 HOG1_6 HBv1_6 HBv2_6 HBv3_6 bw
  clear cv1_0 cv1_1 cv1_2 cv1_3 cv2_0 cv2_1 cv2_2
  go_upto_region 6 with fail
  obtain ⟨qv4, hqv4⟩ : ∃ q, q = (w7).heap.size := ⟨_, rfl⟩
  obtain ⟨w8, hW8⟩ : ∃ W, W = (w7).alloc (.cells #[.string p2, .slice oX2 xs2.length pX2, .slice oY2 ys2.length pY2, .int .i64 st2, .slice oG2 us2.length pG2, .string d2, .int .i64 t2] 29) := ⟨_, rfl⟩
  have hz8 : (w7).heap.size = qv4 := hqv4.symm
  first | rw [← hW8, ← hqv4] | rw [← hW8]
  have hs8 : w8.heap.size = qv4 + 1 := by rw [hW8, ← hz8]; simp
  have bw : Below (w7).heap.size (w7) w8 := by rw [hW8]; exact (Below.refl _ _).alloc (Nat.le_refl _) _
  have hb8 : Below w.heap.size w (w8) := hb7.trans (bw.mono hb7.size)
  have HM8 : Hid ((w7).heap.size ≤ (w8).heap.size) := bw.size
  have HOQ_8 : Hid ((w8).ownsRow w.heap.size 131 2 (.slice oQ fs.length pQ) fs.length (flatF fs)) := owns_below HOQ_7.out bw (fun g hg => owns_lt HOQ_7.out hg)
  have HOR_8 : Hid ((w8).ownsRow w.heap.size 131 2 (.slice oR gs.length pR) gs.length (flatF gs)) := owns_below HOR_7.out bw (fun g hg => owns_lt HOR_7.out hg)
  have HOX1_8 : Hid ((w8).ownsRow w.heap.size 9 1 (.slice oX1 xs1.length pX1) xs1.length (xs1.map Value.string)) := owns_below HOX1_7.out bw (fun g hg => owns_lt HOX1_7.out hg)
  have HOY1_8 : Hid ((w8).ownsRow w.heap.size 9 1 (.slice oY1 ys1.length pY1) ys1.length (ys1.map Value.string)) := owns_below HOY1_7.out bw (fun g hg => owns_lt HOY1_7.out hg)
  have HOG1_8 : Hid ((w8).ownsRow w.heap.size 131 2 (.slice oG1 us1.length pG1) us1.length (flatF us1)) := owns_below HOG1_7.out bw (fun g hg => owns_lt HOG1_7.out hg)
  have HOX2_8 : Hid ((w8).ownsRow w.heap.size 9 1 (.slice oX2 xs2.length pX2) xs2.length (xs2.map Value.string)) := owns_below HOX2_7.out bw (fun g hg => owns_lt HOX2_7.out hg)
  have HOY2_8 : Hid ((w8).ownsRow w.heap.size 9 1 (.slice oY2 ys2.length pY2) ys2.length (ys2.map Value.string)) := owns_below HOY2_7.out bw (fun g hg => owns_lt HOY2_7.out hg)
  have HOG2_8 : Hid ((w8).ownsRow w.heap.size 131 2 (.slice oG2 us2.length pG2) us2.length (flatF us2)) := owns_below HOG2_7.out bw (fun g hg => owns_lt HOG2_7.out hg)
  have HBv1_8 : Hid ((w8).heap[qv1]? = some (.cells #[.int .i64 m, .string p, .slice oQ fs.length pQ, .string b] 39)) := blk_below HBv1_7.out bw
  have HBv2_8 : Hid ((w8).heap[qv2]? = some (.cells #[.int .i64 st, .slice oR gs.length pR, .string d] 27)) := blk_below HBv2_7.out bw
  have HBv3_8 : Hid ((w8).heap[qv3]? = some (.cells #[.string p1, .slice oX1 xs1.length pX1, .slice oY1 ys1.length pY1, .int .i64 st1, .slice oG1 us1.length pG1, .string d1, .int .i64 t1] 29)) := blk_below HBv3_7.out bw
  have HNv1v4 : Hid (qv1 ≠ qv4) := fun e => by have h1 := (Array.getElem?_eq_some_iff.1 HBv1_7.out).1; omega
  have HNv2v4 : Hid (qv2 ≠ qv4) := fun e => by have h1 := (Array.getElem?_eq_some_iff.1 HBv2_7.out).1; omega
  have HNv3v4 : Hid (qv3 ≠ qv4) := fun e => by have h1 := (Array.getElem?_eq_some_iff.1 HBv3_7.out).1; omega
  have HBv4_8 : Hid ((w8).heap[qv4]? = some (.cells #[.string p2, .slice oX2 xs2.length pX2, .slice oY2 ys2.length pY2, .int .i64 st2, .slice oG2 us2.length pG2, .string d2, .int .i64 t2] 29)) := by show _ = _; rw [hW8, ← hz8]; exact heap_alloc_new _ _
  have HGv4 : Hid (w.heap.size ≤ qv4) := by show _ ≤ _; rw [← hz8]; exact hb7.size
  clear hb7 HOQ_7 HOR_7 HOX1_7 HOY1_7 HOG1_7 HOX2_7 HOY2_7 HOG2_7 HBv1_7 HBv2_7 HBv3_7 bw hW8 hz8
  clear hs8 hqv4
  cases okK with
  | false =>
    obtain rfl := HFA1.out rfl
    clear HTR1 HFA1 HTR2 HFA2 hkk
    have cv3_0 : (w8).cell? ⟨qv3, 0, none⟩ = some (.string ⟨#[]⟩) := (cell_of HBv3_8.out 0).trans rfl
    go_wp2_with fail
    go_ret
    exact ⟨rfl, hb8⟩
  | true =>
    have HKK : Hid (MayP m p fs b st gs d ∧ ObjP p vl yl st gs d t) := (show (MayP m p fs b st gs d ∧ ObjP p vl yl st gs d t) from of_decide_eq_true HOK.out.symm)
    obtain ⟨rfl, rfl, rfl, rfl, rfl, rfl, rfl⟩ := HTR1.out rfl
    have HSM : Hid (SmallO p vl yl gs d t ∧ vl.length ≤ 4 ∧ yl.length ≤ 4 ∧ gs.length ≤ 8) := small_of HKK.out.2
    have HSU : Hid (suitsP vl yl fs = true) := by
      show _ = _
      rw [HYL.out, suits_own]
      exact decide_eq_true (fun h => star_no (HKK.out.2.2.2.2.1.1 _ h))
    clear HTR1 HFA1 HTR2 HFA2 hkk
    go_upto_region 10 with fail
    refine wp_region_held_drew (S := fun W => W.heap[qv1]? = some (.cells #[.int .i64 m, .string p, .slice oQ fs.length pQ, .string b] 39) ∧ W.heap[qv2]? = some (.cells #[.int .i64 st, .slice oR gs.length pR, .string d] 27) ∧ W.heap[qv3]? = some (.cells #[.string p, .slice oX1 vl.length pX1, .slice oY1 yl.length pY1, .int .i64 st, .slice oG1 gs.length pG1, .string d, .int .i64 t] 29)) (by kernel_rfl) ⟨HBv1_8.out, HBv2_8.out, HBv3_8.out⟩ (fun _ => ?_)
    obtain ⟨w9, hX⟩ : ∃ X, X = w8.drew := ⟨_, rfl⟩
    have bw : Below w8.heap.size w8 w9 := by rw [hX]; exact (Below.refl _ _).drew
    rw [← hX]
    have hb9 : Below w.heap.size w (w9) := hb8.trans (bw.mono hb8.size)
    have HM9 : Hid ((w8).heap.size ≤ (w9).heap.size) := bw.size
    have HOQ_9 : Hid ((w9).ownsRow w.heap.size 131 2 (.slice oQ fs.length pQ) fs.length (flatF fs)) := owns_below HOQ_8.out bw (fun g hg => owns_lt HOQ_8.out hg)
    have HOR_9 : Hid ((w9).ownsRow w.heap.size 131 2 (.slice oR gs.length pR) gs.length (flatF gs)) := owns_below HOR_8.out bw (fun g hg => owns_lt HOR_8.out hg)
    have HOX1_9 : Hid ((w9).ownsRow w.heap.size 9 1 (.slice oX1 vl.length pX1) vl.length (vl.map Value.string)) := owns_below HOX1_8.out bw (fun g hg => owns_lt HOX1_8.out hg)
    have HOY1_9 : Hid ((w9).ownsRow w.heap.size 9 1 (.slice oY1 yl.length pY1) yl.length (yl.map Value.string)) := owns_below HOY1_8.out bw (fun g hg => owns_lt HOY1_8.out hg)
    have HOG1_9 : Hid ((w9).ownsRow w.heap.size 131 2 (.slice oG1 gs.length pG1) gs.length (flatF gs)) := owns_below HOG1_8.out bw (fun g hg => owns_lt HOG1_8.out hg)
    have HOX2_9 : Hid ((w9).ownsRow w.heap.size 9 1 (.slice oX2 xs2.length pX2) xs2.length (xs2.map Value.string)) := owns_below HOX2_8.out bw (fun g hg => owns_lt HOX2_8.out hg)
    have HOY2_9 : Hid ((w9).ownsRow w.heap.size 9 1 (.slice oY2 ys2.length pY2) ys2.length (ys2.map Value.string)) := owns_below HOY2_8.out bw (fun g hg => owns_lt HOY2_8.out hg)
    have HOG2_9 : Hid ((w9).ownsRow w.heap.size 131 2 (.slice oG2 us2.length pG2) us2.length (flatF us2)) := owns_below HOG2_8.out bw (fun g hg => owns_lt HOG2_8.out hg)
    have HBv1_9 : Hid ((w9).heap[qv1]? = some (.cells #[.int .i64 m, .string p, .slice oQ fs.length pQ, .string b] 39)) := blk_below HBv1_8.out bw
    have HBv2_9 : Hid ((w9).heap[qv2]? = some (.cells #[.int .i64 st, .slice oR gs.length pR, .string d] 27)) := blk_below HBv2_8.out bw
    have HBv3_9 : Hid ((w9).heap[qv3]? = some (.cells #[.string p, .slice oX1 vl.length pX1, .slice oY1 yl.length pY1, .int .i64 st, .slice oG1 gs.length pG1, .string d, .int .i64 t] 29)) := blk_below HBv3_8.out bw
    have HBv4_9 : Hid ((w9).heap[qv4]? = some (.cells #[.string p2, .slice oX2 xs2.length pX2, .slice oY2 ys2.length pY2, .int .i64 st2, .slice oG2 us2.length pG2, .string d2, .int .i64 t2] 29)) := blk_below HBv4_8.out bw
    have hS9 : w9.heap[qv1]? = some (.cells #[.int .i64 m, .string p, .slice oQ fs.length pQ, .string b] 39) ∧ w9.heap[qv2]? = some (.cells #[.int .i64 st, .slice oR gs.length pR, .string d] 27) ∧ w9.heap[qv3]? = some (.cells #[.string p, .slice oX1 vl.length pX1, .slice oY1 yl.length pY1, .int .i64 st, .slice oG1 gs.length pG1, .string d, .int .i64 t] 29) := ⟨HBv1_9.out, HBv2_9.out, HBv3_9.out⟩
    clear hb8 HOQ_8 HOR_8 HOX1_8 HOY1_8 HOG1_8 HOX2_8 HOY2_8 HOG2_8 HBv1_8 HBv2_8 HBv3_8 HBv4_8 bw hX
    refine wpAnyH_takeD (i := 0) (v := .agg #[.int .i64 m, .string p, .slice oQ fs.length pQ, .string b]) (some 40) rfl rfl (by kernel_rfl) (by kernel_rfl) (by kernel_rfl) (fun _ _ _ h => h) (Or.inl ⟨by rfl, by intro W hW; obtain ⟨hhv1, hhv2, hhv3⟩ := hW; have y0 := (cell_of hhv1 0).trans rfl; have y1 := (cell_of hhv1 1).trans rfl; have y2 := (cell_of hhv1 2).trans rfl; have y3 := (cell_of hhv1 3).trans rfl; go_simp⟩) hS9 ?_
    simp only [Act.put, List.setIfInBounds_toArray, List.set_cons_zero, List.set_cons_succ]
    refine wpAnyH_takeD (i := 1) (v := .agg #[.int .i64 st, .slice oR gs.length pR, .string d]) (some 41) rfl rfl (by kernel_rfl) (by kernel_rfl) (by kernel_rfl) (fun _ _ _ h => h) (Or.inl ⟨by rfl, by intro W hW; obtain ⟨hhv1, hhv2, hhv3⟩ := hW; have y0 := (cell_of hhv2 0).trans rfl; have y1 := (cell_of hhv2 1).trans rfl; have y2 := (cell_of hhv2 2).trans rfl; go_simp⟩) hS9 ?_
    simp only [Act.put, List.setIfInBounds_toArray, List.set_cons_zero, List.set_cons_succ]
    refine wpAnyH_ready (rs := [2]) (by kernel_rfl) (by simp) ?_
    refine AllReadyH.cons rfl (fun K hK => ?_) AllReadyH.nil
    go_simp
    refine (implMayKeep_any m p _ b fs.length _ fs st _ d gs.length _ gs _ (FieldsV.of_owns HOQ_9.out) (by have := HFQ.out.1; omega) (shortWalk HFQ.out.2) (by have := HPZ.out; unfold maxLen; omega) (by have := HBZ.out; unfold maxLen; omega) (FieldsV.of_owns HOR_9.out) (by have := HFR.out.1; omega) (shortWalk HFR.out.2) (by have := HDZ.out; unfold maxLen; omega) (by have := short_get2 HFQ.out.2 ccName; omega) (by have := short_get2 HFR.out.2 ccName; omega) (by have := short_get2 HFR.out.2 varyName; omega) HFQ.out.2.copy HFR.out.2.copy).mono ?_
    rintro e w10 ⟨bb, rfl, hbb, bw⟩
    obtain rfl : true = bb := (hbb.2 HKK.out.1).symm
    clear hbb
    have hb10 : Below w.heap.size w (w10) := hb9.trans (bw.mono hb9.size)
    have HM10 : Hid ((w9).heap.size ≤ (w10).heap.size) := bw.size
    have HOQ_10 : Hid ((w10).ownsRow w.heap.size 131 2 (.slice oQ fs.length pQ) fs.length (flatF fs)) := owns_below HOQ_9.out bw (fun g hg => owns_lt HOQ_9.out hg)
    have HOR_10 : Hid ((w10).ownsRow w.heap.size 131 2 (.slice oR gs.length pR) gs.length (flatF gs)) := owns_below HOR_9.out bw (fun g hg => owns_lt HOR_9.out hg)
    have HOX1_10 : Hid ((w10).ownsRow w.heap.size 9 1 (.slice oX1 vl.length pX1) vl.length (vl.map Value.string)) := owns_below HOX1_9.out bw (fun g hg => owns_lt HOX1_9.out hg)
    have HOY1_10 : Hid ((w10).ownsRow w.heap.size 9 1 (.slice oY1 yl.length pY1) yl.length (yl.map Value.string)) := owns_below HOY1_9.out bw (fun g hg => owns_lt HOY1_9.out hg)
    have HOG1_10 : Hid ((w10).ownsRow w.heap.size 131 2 (.slice oG1 gs.length pG1) gs.length (flatF gs)) := owns_below HOG1_9.out bw (fun g hg => owns_lt HOG1_9.out hg)
    have HOX2_10 : Hid ((w10).ownsRow w.heap.size 9 1 (.slice oX2 xs2.length pX2) xs2.length (xs2.map Value.string)) := owns_below HOX2_9.out bw (fun g hg => owns_lt HOX2_9.out hg)
    have HOY2_10 : Hid ((w10).ownsRow w.heap.size 9 1 (.slice oY2 ys2.length pY2) ys2.length (ys2.map Value.string)) := owns_below HOY2_9.out bw (fun g hg => owns_lt HOY2_9.out hg)
    have HOG2_10 : Hid ((w10).ownsRow w.heap.size 131 2 (.slice oG2 us2.length pG2) us2.length (flatF us2)) := owns_below HOG2_9.out bw (fun g hg => owns_lt HOG2_9.out hg)
    have HBv1_10 : Hid ((w10).heap[qv1]? = some (.cells #[.int .i64 m, .string p, .slice oQ fs.length pQ, .string b] 39)) := blk_below HBv1_9.out bw
    have HBv2_10 : Hid ((w10).heap[qv2]? = some (.cells #[.int .i64 st, .slice oR gs.length pR, .string d] 27)) := blk_below HBv2_9.out bw
    have HBv3_10 : Hid ((w10).heap[qv3]? = some (.cells #[.string p, .slice oX1 vl.length pX1, .slice oY1 yl.length pY1, .int .i64 st, .slice oG1 gs.length pG1, .string d, .int .i64 t] 29)) := blk_below HBv3_9.out bw
    have HBv4_10 : Hid ((w10).heap[qv4]? = some (.cells #[.string p2, .slice oX2 xs2.length pX2, .slice oY2 ys2.length pY2, .int .i64 st2, .slice oG2 us2.length pG2, .string d2, .int .i64 t2] 29)) := blk_below HBv4_9.out bw
    clear hb9 HOQ_9 HOR_9 HOX1_9 HOY1_9 HOG1_9 HOX2_9 HOY2_9 HOG2_9 HBv1_9 HBv2_9 HBv3_9 HBv4_9 bw
    have hS10 : w10.heap[qv1]? = some (.cells #[.int .i64 m, .string p, .slice oQ fs.length pQ, .string b] 39) ∧ w10.heap[qv2]? = some (.cells #[.int .i64 st, .slice oR gs.length pR, .string d] 27) ∧ w10.heap[qv3]? = some (.cells #[.string p, .slice oX1 vl.length pX1, .slice oY1 yl.length pY1, .int .i64 st, .slice oG1 gs.length pG1, .string d, .int .i64 t] 29) := ⟨HBv1_10.out, HBv2_10.out, HBv3_10.out⟩
    refine hK.out _ _ hS10 (fun _ => ?_)
    clear hK K hS9
    refine wpAnyH_takeD (i := 3) (v := .bool true) (some 43) rfl rfl (by kernel_rfl) (by kernel_rfl) (by kernel_rfl) (fun _ _ _ h => h) (Or.inl ⟨by rfl, by intro W _; go_simp⟩) hS10 ?_
    simp only [Act.put, List.setIfInBounds_toArray, List.set_cons_zero, List.set_cons_succ]
    refine wpAnyH_takeD (i := 4) (v := .agg #[.string p, .slice oX1 vl.length pX1, .slice oY1 yl.length pY1, .int .i64 st, .slice oG1 gs.length pG1, .string d, .int .i64 t]) (some 44) rfl rfl (by kernel_rfl) (by kernel_rfl) (by kernel_rfl) (fun _ _ _ h => h) (Or.inl ⟨by rfl, by intro W hW; obtain ⟨hhv1, hhv2, hhv3⟩ := hW; have y0 := (cell_of hhv3 0).trans rfl; have y1 := (cell_of hhv3 1).trans rfl; have y2 := (cell_of hhv3 2).trans rfl; have y3 := (cell_of hhv3 3).trans rfl; have y4 := (cell_of hhv3 4).trans rfl; have y5 := (cell_of hhv3 5).trans rfl; have y6 := (cell_of hhv3 6).trans rfl; go_simp⟩) hS10 ?_
    simp only [Act.put, List.setIfInBounds_toArray, List.set_cons_zero, List.set_cons_succ]
    refine wpAnyH_ready (rs := [5]) (by kernel_rfl) (by simp) ?_
    refine AllReadyH.cons rfl (fun K hK => ?_) AllReadyH.nil
    go_simp
    refine (implObjOk_any p _ vl.length _ vl _ yl.length _ yl st _ gs.length _ gs d t _ (texts_view HOX1_10.out) (texts_view HOY1_10.out) (FieldsV.of_owns HOG1_10.out) (by have := HSM.out.2.1; omega) (by have := HSM.out.2.2.1; omega) (by have := HSM.out.2.2.2; omega) (fun i hi => by have := HSM.out.1.2.1.2 _ (textAt_mem vl i hi); unfold maxLen; omega) (fun i hi => by have := HSM.out.1.2.2.1.2 _ (textAt_mem yl i hi); unfold maxLen; omega) (shortWalk HFR.out.2) HFR.out.2.copy (by have := HPZ.out; unfold maxLen; omega) (by have := HDZ.out; unfold maxLen; omega) (by have := short_get2 HFR.out.2 varyName; omega)).mono ?_
    rintro e w11 ⟨bb, rfl, hbb, bw⟩
    obtain rfl : true = bb := (hbb.2 HKK.out.2).symm
    clear hbb
    have hb11 : Below w.heap.size w (w11) := hb10.trans (bw.mono hb10.size)
    have HM11 : Hid ((w10).heap.size ≤ (w11).heap.size) := bw.size
    have HOQ_11 : Hid ((w11).ownsRow w.heap.size 131 2 (.slice oQ fs.length pQ) fs.length (flatF fs)) := owns_below HOQ_10.out bw (fun g hg => owns_lt HOQ_10.out hg)
    have HOR_11 : Hid ((w11).ownsRow w.heap.size 131 2 (.slice oR gs.length pR) gs.length (flatF gs)) := owns_below HOR_10.out bw (fun g hg => owns_lt HOR_10.out hg)
    have HOX1_11 : Hid ((w11).ownsRow w.heap.size 9 1 (.slice oX1 vl.length pX1) vl.length (vl.map Value.string)) := owns_below HOX1_10.out bw (fun g hg => owns_lt HOX1_10.out hg)
    have HOY1_11 : Hid ((w11).ownsRow w.heap.size 9 1 (.slice oY1 yl.length pY1) yl.length (yl.map Value.string)) := owns_below HOY1_10.out bw (fun g hg => owns_lt HOY1_10.out hg)
    have HOG1_11 : Hid ((w11).ownsRow w.heap.size 131 2 (.slice oG1 gs.length pG1) gs.length (flatF gs)) := owns_below HOG1_10.out bw (fun g hg => owns_lt HOG1_10.out hg)
    have HOX2_11 : Hid ((w11).ownsRow w.heap.size 9 1 (.slice oX2 xs2.length pX2) xs2.length (xs2.map Value.string)) := owns_below HOX2_10.out bw (fun g hg => owns_lt HOX2_10.out hg)
    have HOY2_11 : Hid ((w11).ownsRow w.heap.size 9 1 (.slice oY2 ys2.length pY2) ys2.length (ys2.map Value.string)) := owns_below HOY2_10.out bw (fun g hg => owns_lt HOY2_10.out hg)
    have HOG2_11 : Hid ((w11).ownsRow w.heap.size 131 2 (.slice oG2 us2.length pG2) us2.length (flatF us2)) := owns_below HOG2_10.out bw (fun g hg => owns_lt HOG2_10.out hg)
    have HBv1_11 : Hid ((w11).heap[qv1]? = some (.cells #[.int .i64 m, .string p, .slice oQ fs.length pQ, .string b] 39)) := blk_below HBv1_10.out bw
    have HBv2_11 : Hid ((w11).heap[qv2]? = some (.cells #[.int .i64 st, .slice oR gs.length pR, .string d] 27)) := blk_below HBv2_10.out bw
    have HBv3_11 : Hid ((w11).heap[qv3]? = some (.cells #[.string p, .slice oX1 vl.length pX1, .slice oY1 yl.length pY1, .int .i64 st, .slice oG1 gs.length pG1, .string d, .int .i64 t] 29)) := blk_below HBv3_10.out bw
    have HBv4_11 : Hid ((w11).heap[qv4]? = some (.cells #[.string p2, .slice oX2 xs2.length pX2, .slice oY2 ys2.length pY2, .int .i64 st2, .slice oG2 us2.length pG2, .string d2, .int .i64 t2] 29)) := blk_below HBv4_10.out bw
    clear hb10 HOQ_10 HOR_10 HOX1_10 HOY1_10 HOG1_10 HOX2_10 HOY2_10 HOG2_10 HBv1_10 HBv2_10 HBv3_10 HBv4_10 bw
    have hS11 : w11.heap[qv1]? = some (.cells #[.int .i64 m, .string p, .slice oQ fs.length pQ, .string b] 39) ∧ w11.heap[qv2]? = some (.cells #[.int .i64 st, .slice oR gs.length pR, .string d] 27) ∧ w11.heap[qv3]? = some (.cells #[.string p, .slice oX1 vl.length pX1, .slice oY1 yl.length pY1, .int .i64 st, .slice oG1 gs.length pG1, .string d, .int .i64 t] 29) := ⟨HBv1_11.out, HBv2_11.out, HBv3_11.out⟩
    refine hK.out _ _ hS11 (fun _ => ?_)
    clear hK K hS10
    refine wpAnyH_takeD (i := 6) (v := .bool true) (some 46) rfl rfl (by kernel_rfl) (by kernel_rfl) (by kernel_rfl) (fun _ _ _ h => h) (Or.inl ⟨by rfl, by intro W _; go_simp⟩) hS11 ?_
    simp only [Act.put, List.setIfInBounds_toArray, List.set_cons_zero, List.set_cons_succ]
    refine wpAnyH_takeD (i := 7) (v := .bool true) (some 47) rfl rfl (by kernel_rfl) (by kernel_rfl) (by kernel_rfl) (fun _ _ _ h => h) (Or.inl ⟨by rfl, by intro W _; go_simp⟩) hS11 ?_
    simp only [Act.put, List.setIfInBounds_toArray, List.set_cons_zero, List.set_cons_succ]
    refine wpAnyH_takeD (i := 8) (v := .pointer (some ⟨qv3, 1, none⟩)) (some 48) rfl rfl (by kernel_rfl) (by kernel_rfl) (by kernel_rfl) (fun _ _ _ h => h) (Or.inl ⟨by rfl, by intro W _; go_simp⟩) hS11 ?_
    simp only [Act.put, List.setIfInBounds_toArray, List.set_cons_zero, List.set_cons_succ]
    refine wpAnyH_takeD (i := 9) (v := .slice oX1 vl.length pX1) (some 49) rfl rfl (by kernel_rfl) (by kernel_rfl) (by kernel_rfl) (fun _ _ _ h => h) (Or.inl ⟨by rfl, by intro W hW; obtain ⟨hhv1, hhv2, hhv3⟩ := hW; have y1 := (cell_of hhv3 1).trans rfl; go_simp⟩) hS11 ?_
    simp only [Act.put, List.setIfInBounds_toArray, List.set_cons_zero, List.set_cons_succ]
    refine wpAnyH_takeD (i := 10) (v := .pointer (some ⟨qv3, 2, none⟩)) (some 50) rfl rfl (by kernel_rfl) (by kernel_rfl) (by kernel_rfl) (fun _ _ _ h => h) (Or.inl ⟨by rfl, by intro W _; go_simp⟩) hS11 ?_
    simp only [Act.put, List.setIfInBounds_toArray, List.set_cons_zero, List.set_cons_succ]
    refine wpAnyH_takeD (i := 11) (v := .slice oY1 yl.length pY1) (some 51) rfl rfl (by kernel_rfl) (by kernel_rfl) (by kernel_rfl) (fun _ _ _ h => h) (Or.inl ⟨by rfl, by intro W hW; obtain ⟨hhv1, hhv2, hhv3⟩ := hW; have y2 := (cell_of hhv3 2).trans rfl; go_simp⟩) hS11 ?_
    simp only [Act.put, List.setIfInBounds_toArray, List.set_cons_zero, List.set_cons_succ]
    refine wpAnyH_takeD (i := 12) (v := .pointer (some ⟨qv1, 2, none⟩)) (some 52) rfl rfl (by kernel_rfl) (by kernel_rfl) (by kernel_rfl) (fun _ _ _ h => h) (Or.inl ⟨by rfl, by intro W _; go_simp⟩) hS11 ?_
    simp only [Act.put, List.setIfInBounds_toArray, List.set_cons_zero, List.set_cons_succ]
    refine wpAnyH_takeD (i := 13) (v := .slice oQ fs.length pQ) (some 53) rfl rfl (by kernel_rfl) (by kernel_rfl) (by kernel_rfl) (fun _ _ _ h => h) (Or.inl ⟨by rfl, by intro W hW; obtain ⟨hhv1, hhv2, hhv3⟩ := hW; have y2 := (cell_of hhv1 2).trans rfl; go_simp⟩) hS11 ?_
    simp only [Act.put, List.setIfInBounds_toArray, List.set_cons_zero, List.set_cons_succ]
    refine wpAnyH_ready (rs := [14]) (by kernel_rfl) (by simp) ?_
    refine AllReadyH.cons rfl (fun K hK => ?_) AllReadyH.nil
    go_simp
    refine (implSuits_any _ _ vl.length _ yl.length _ vl yl _ fs.length _ fs _ (texts_view HOX1_11.out) (by have := HSM.out.2.1; omega) (texts_view HOY1_11.out) (FieldsV.of_owns HOQ_11.out) (by have := HFQ.out.1; omega) HFQ.out.2.copy (by have := HSM.out.2.2.1; omega)).mono ?_
    rintro e w12 ⟨rfl, bw⟩
    rw [HSU.out]
    have hb12 : Below w.heap.size w (w12) := hb11.trans (bw.mono hb11.size)
    have HM12 : Hid ((w11).heap.size ≤ (w12).heap.size) := bw.size
    have HOQ_12 : Hid ((w12).ownsRow w.heap.size 131 2 (.slice oQ fs.length pQ) fs.length (flatF fs)) := owns_below HOQ_11.out bw (fun g hg => owns_lt HOQ_11.out hg)
    have HOR_12 : Hid ((w12).ownsRow w.heap.size 131 2 (.slice oR gs.length pR) gs.length (flatF gs)) := owns_below HOR_11.out bw (fun g hg => owns_lt HOR_11.out hg)
    have HOX1_12 : Hid ((w12).ownsRow w.heap.size 9 1 (.slice oX1 vl.length pX1) vl.length (vl.map Value.string)) := owns_below HOX1_11.out bw (fun g hg => owns_lt HOX1_11.out hg)
    have HOY1_12 : Hid ((w12).ownsRow w.heap.size 9 1 (.slice oY1 yl.length pY1) yl.length (yl.map Value.string)) := owns_below HOY1_11.out bw (fun g hg => owns_lt HOY1_11.out hg)
    have HOG1_12 : Hid ((w12).ownsRow w.heap.size 131 2 (.slice oG1 gs.length pG1) gs.length (flatF gs)) := owns_below HOG1_11.out bw (fun g hg => owns_lt HOG1_11.out hg)
    have HOX2_12 : Hid ((w12).ownsRow w.heap.size 9 1 (.slice oX2 xs2.length pX2) xs2.length (xs2.map Value.string)) := owns_below HOX2_11.out bw (fun g hg => owns_lt HOX2_11.out hg)
    have HOY2_12 : Hid ((w12).ownsRow w.heap.size 9 1 (.slice oY2 ys2.length pY2) ys2.length (ys2.map Value.string)) := owns_below HOY2_11.out bw (fun g hg => owns_lt HOY2_11.out hg)
    have HOG2_12 : Hid ((w12).ownsRow w.heap.size 131 2 (.slice oG2 us2.length pG2) us2.length (flatF us2)) := owns_below HOG2_11.out bw (fun g hg => owns_lt HOG2_11.out hg)
    have HBv1_12 : Hid ((w12).heap[qv1]? = some (.cells #[.int .i64 m, .string p, .slice oQ fs.length pQ, .string b] 39)) := blk_below HBv1_11.out bw
    have HBv2_12 : Hid ((w12).heap[qv2]? = some (.cells #[.int .i64 st, .slice oR gs.length pR, .string d] 27)) := blk_below HBv2_11.out bw
    have HBv3_12 : Hid ((w12).heap[qv3]? = some (.cells #[.string p, .slice oX1 vl.length pX1, .slice oY1 yl.length pY1, .int .i64 st, .slice oG1 gs.length pG1, .string d, .int .i64 t] 29)) := blk_below HBv3_11.out bw
    have HBv4_12 : Hid ((w12).heap[qv4]? = some (.cells #[.string p2, .slice oX2 xs2.length pX2, .slice oY2 ys2.length pY2, .int .i64 st2, .slice oG2 us2.length pG2, .string d2, .int .i64 t2] 29)) := blk_below HBv4_11.out bw
    clear hb11 HOQ_11 HOR_11 HOX1_11 HOY1_11 HOG1_11 HOX2_11 HOY2_11 HOG2_11 HBv1_11 HBv2_11 HBv3_11 HBv4_11 bw
    have hS12 : w12.heap[qv1]? = some (.cells #[.int .i64 m, .string p, .slice oQ fs.length pQ, .string b] 39) ∧ w12.heap[qv2]? = some (.cells #[.int .i64 st, .slice oR gs.length pR, .string d] 27) ∧ w12.heap[qv3]? = some (.cells #[.string p, .slice oX1 vl.length pX1, .slice oY1 yl.length pY1, .int .i64 st, .slice oG1 gs.length pG1, .string d, .int .i64 t] 29) := ⟨HBv1_12.out, HBv2_12.out, HBv3_12.out⟩
    refine hK.out _ _ hS12 (fun _ => ?_)
    clear hK K hS11
    refine wpAnyH_takeD (i := 15) (v := .bool true) (some 55) rfl rfl (by kernel_rfl) (by kernel_rfl) (by kernel_rfl) (fun _ _ _ h => h) (Or.inl ⟨by rfl, by intro W _; go_simp⟩) hS12 ?_
    simp only [Act.put, List.setIfInBounds_toArray, List.set_cons_zero, List.set_cons_succ]
    refine wpAnyH_takeD (i := 16) (v := .bool true) (some 56) rfl rfl (by kernel_rfl) (by kernel_rfl) (by kernel_rfl) (fun _ _ _ h => h) (Or.inl ⟨by rfl, by intro W _; go_simp⟩) hS12 ?_
    simp only [Act.put, List.setIfInBounds_toArray, List.set_cons_zero, List.set_cons_succ]
    refine wpAnyH_takeD (i := 17) (v := .pointer (some ⟨qv3, 6, none⟩)) (some 57) rfl rfl (by kernel_rfl) (by kernel_rfl) (by kernel_rfl) (fun _ _ _ h => h) (Or.inl ⟨by rfl, by intro W _; go_simp⟩) hS12 ?_
    simp only [Act.put, List.setIfInBounds_toArray, List.set_cons_zero, List.set_cons_succ]
    refine wpAnyH_takeD (i := 18) (v := .int .i64 t) (some 58) rfl rfl (by kernel_rfl) (by kernel_rfl) (by kernel_rfl) (fun _ _ _ h => h) (Or.inl ⟨by rfl, by intro W hW; obtain ⟨hhv1, hhv2, hhv3⟩ := hW; have y6 := (cell_of hhv3 6).trans rfl; go_simp⟩) hS12 ?_
    simp only [Act.put, List.setIfInBounds_toArray, List.set_cons_zero, List.set_cons_succ]
    refine wpAnyH_takeD (i := 19) (v := .int .i64 t) (some 59) rfl rfl (by kernel_rfl) (by kernel_rfl) (by kernel_rfl) (fun _ _ _ h => h) (Or.inl ⟨by rfl, by intro W _; go_simp⟩) hS12 ?_
    simp only [Act.put, List.setIfInBounds_toArray, List.set_cons_zero, List.set_cons_succ]
    refine wpAnyH_takeD (i := 20) (v := .bool true) (some 60) rfl rfl (by kernel_rfl) (by kernel_rfl) (by kernel_rfl) (fun _ _ _ h => h) (Or.inl ⟨by rfl, by intro W _; go_simp⟩) hS12 ?_
    simp only [Act.put, List.setIfInBounds_toArray, List.set_cons_zero, List.set_cons_succ]
    refine wpAnyH_takeD (i := 21) (v := .bool true) (some 61) rfl rfl (by kernel_rfl) (by kernel_rfl) (by kernel_rfl) (fun _ _ _ h => h) (Or.inl ⟨by rfl, by intro W _; go_simp⟩) hS12 ?_
    simp only [Act.put, List.setIfInBounds_toArray, List.set_cons_zero, List.set_cons_succ]
    refine wpAnyH_takeD (i := 22) (v := .bool true) (some 62) rfl rfl (by kernel_rfl) (by kernel_rfl) (by kernel_rfl) (fun _ _ _ h => h) (Or.inl ⟨by rfl, by intro W _; go_simp⟩) hS12 ?_
    simp only [Act.put, List.setIfInBounds_toArray, List.set_cons_zero, List.set_cons_succ]
    refine wpAnyH_takeD (i := 23) (v := .pointer (some ⟨qv3, 0, none⟩)) (some 63) rfl rfl (by kernel_rfl) (by kernel_rfl) (by kernel_rfl) (fun _ _ _ h => h) (Or.inl ⟨by rfl, by intro W _; go_simp⟩) hS12 ?_
    simp only [Act.put, List.setIfInBounds_toArray, List.set_cons_zero, List.set_cons_succ]
    refine wpAnyH_takeD (i := 24) (v := .string p) (some 64) rfl rfl (by kernel_rfl) (by kernel_rfl) (by kernel_rfl) (fun _ _ _ h => h) (Or.inl ⟨by rfl, by intro W hW; obtain ⟨hhv1, hhv2, hhv3⟩ := hW; have y0 := (cell_of hhv3 0).trans rfl; go_simp⟩) hS12 ?_
    simp only [Act.put, List.setIfInBounds_toArray, List.set_cons_zero, List.set_cons_succ]
    refine wpAnyH_takeD (i := 25) (v := .pointer (some ⟨qv1, 1, none⟩)) (some 65) rfl rfl (by kernel_rfl) (by kernel_rfl) (by kernel_rfl) (fun _ _ _ h => h) (Or.inl ⟨by rfl, by intro W _; go_simp⟩) hS12 ?_
    simp only [Act.put, List.setIfInBounds_toArray, List.set_cons_zero, List.set_cons_succ]
    refine wpAnyH_takeD (i := 26) (v := .string p) (some 66) rfl rfl (by kernel_rfl) (by kernel_rfl) (by kernel_rfl) (fun _ _ _ h => h) (Or.inl ⟨by rfl, by intro W hW; obtain ⟨hhv1, hhv2, hhv3⟩ := hW; have y1 := (cell_of hhv1 1).trans rfl; go_simp⟩) hS12 ?_
    simp only [Act.put, List.setIfInBounds_toArray, List.set_cons_zero, List.set_cons_succ]
    refine wpAnyH_takeD (i := 27) (v := .bool true) (some 67) rfl rfl (by kernel_rfl) (by kernel_rfl) (by kernel_rfl) (fun _ _ _ h => h) (Or.inl ⟨by rfl, by intro W _; go_simp⟩) hS12 ?_
    simp only [Act.put, List.setIfInBounds_toArray, List.set_cons_zero, List.set_cons_succ]
    refine wpAnyH_takeD (i := 28) (v := .bool true) (some 68) rfl rfl (by kernel_rfl) (by kernel_rfl) (by kernel_rfl) (fun _ _ _ h => h) (Or.inl ⟨by rfl, by intro W _; go_simp⟩) hS12 ?_
    simp only [Act.put, List.setIfInBounds_toArray, List.set_cons_zero, List.set_cons_succ]
    refine wpAnyH_takeD (i := 29) (v := .bool true) (some 69) rfl rfl (by kernel_rfl) (by kernel_rfl) (by kernel_rfl) (fun _ _ _ h => h) (Or.inl ⟨by rfl, by intro W _; go_simp⟩) hS12 ?_
    simp only [Act.put, List.setIfInBounds_toArray, List.set_cons_zero, List.set_cons_succ]
    refine wpAnyH_takeD (i := 30) (v := .pointer (some ⟨qv3, 3, none⟩)) (some 70) rfl rfl (by kernel_rfl) (by kernel_rfl) (by kernel_rfl) (fun _ _ _ h => h) (Or.inl ⟨by rfl, by intro W _; go_simp⟩) hS12 ?_
    simp only [Act.put, List.setIfInBounds_toArray, List.set_cons_zero, List.set_cons_succ]
    refine wpAnyH_takeD (i := 31) (v := .agg #[.int .i64 st, .slice oG1 gs.length pG1, .string d]) (some 71) rfl rfl (by kernel_rfl) (by kernel_rfl) (by kernel_rfl) (fun _ _ _ h => h) (Or.inl ⟨by rfl, by intro W hW; obtain ⟨hhv1, hhv2, hhv3⟩ := hW; have y3 := (cell_of hhv3 3).trans rfl; have y4 := (cell_of hhv3 4).trans rfl; have y5 := (cell_of hhv3 5).trans rfl; go_simp⟩) hS12 ?_
    simp only [Act.put, List.setIfInBounds_toArray, List.set_cons_zero, List.set_cons_succ]
    refine wpAnyH_takeD (i := 33) (v := .agg #[.int .i64 st, .slice oR gs.length pR, .string d]) (some 73) rfl rfl (by kernel_rfl) (by kernel_rfl) (by kernel_rfl) (fun _ _ _ h => h) (Or.inl ⟨by rfl, by intro W hW; obtain ⟨hhv1, hhv2, hhv3⟩ := hW; have y0 := (cell_of hhv2 0).trans rfl; have y1 := (cell_of hhv2 1).trans rfl; have y2 := (cell_of hhv2 2).trans rfl; go_simp⟩) hS12 ?_
    simp only [Act.put, List.setIfInBounds_toArray, List.set_cons_zero, List.set_cons_succ]
    refine wpAnyH_ready (rs := [32]) (by kernel_rfl) (by simp) ?_
    refine AllReadyH.cons rfl (fun K hK => ?_) AllReadyH.nil
    go_simp
    refine (implRespText_any st _ d gs.length _ gs _ (FieldsV.of_owns HOG1_12.out) (by have := HFR.out.1; omega) (shortWalk HFR.out.2) (by have := HDZ.out; unfold maxLen; omega) (HT.out _ hb12)).mono ?_
    rintro e w13 ⟨uu, rfl, hu, _, bw⟩
    obtain rfl : RT = uu := HRT.out.trans (hu HKK.out.1.1.2.1).symm
    clear hu
    have hb13 : Below w.heap.size w (w13) := hb12.trans (bw.mono hb12.size)
    have HM13 : Hid ((w12).heap.size ≤ (w13).heap.size) := bw.size
    have HOQ_13 : Hid ((w13).ownsRow w.heap.size 131 2 (.slice oQ fs.length pQ) fs.length (flatF fs)) := owns_below HOQ_12.out bw (fun g hg => owns_lt HOQ_12.out hg)
    have HOR_13 : Hid ((w13).ownsRow w.heap.size 131 2 (.slice oR gs.length pR) gs.length (flatF gs)) := owns_below HOR_12.out bw (fun g hg => owns_lt HOR_12.out hg)
    have HOX1_13 : Hid ((w13).ownsRow w.heap.size 9 1 (.slice oX1 vl.length pX1) vl.length (vl.map Value.string)) := owns_below HOX1_12.out bw (fun g hg => owns_lt HOX1_12.out hg)
    have HOY1_13 : Hid ((w13).ownsRow w.heap.size 9 1 (.slice oY1 yl.length pY1) yl.length (yl.map Value.string)) := owns_below HOY1_12.out bw (fun g hg => owns_lt HOY1_12.out hg)
    have HOG1_13 : Hid ((w13).ownsRow w.heap.size 131 2 (.slice oG1 gs.length pG1) gs.length (flatF gs)) := owns_below HOG1_12.out bw (fun g hg => owns_lt HOG1_12.out hg)
    have HOX2_13 : Hid ((w13).ownsRow w.heap.size 9 1 (.slice oX2 xs2.length pX2) xs2.length (xs2.map Value.string)) := owns_below HOX2_12.out bw (fun g hg => owns_lt HOX2_12.out hg)
    have HOY2_13 : Hid ((w13).ownsRow w.heap.size 9 1 (.slice oY2 ys2.length pY2) ys2.length (ys2.map Value.string)) := owns_below HOY2_12.out bw (fun g hg => owns_lt HOY2_12.out hg)
    have HOG2_13 : Hid ((w13).ownsRow w.heap.size 131 2 (.slice oG2 us2.length pG2) us2.length (flatF us2)) := owns_below HOG2_12.out bw (fun g hg => owns_lt HOG2_12.out hg)
    have HBv1_13 : Hid ((w13).heap[qv1]? = some (.cells #[.int .i64 m, .string p, .slice oQ fs.length pQ, .string b] 39)) := blk_below HBv1_12.out bw
    have HBv2_13 : Hid ((w13).heap[qv2]? = some (.cells #[.int .i64 st, .slice oR gs.length pR, .string d] 27)) := blk_below HBv2_12.out bw
    have HBv3_13 : Hid ((w13).heap[qv3]? = some (.cells #[.string p, .slice oX1 vl.length pX1, .slice oY1 yl.length pY1, .int .i64 st, .slice oG1 gs.length pG1, .string d, .int .i64 t] 29)) := blk_below HBv3_12.out bw
    have HBv4_13 : Hid ((w13).heap[qv4]? = some (.cells #[.string p2, .slice oX2 xs2.length pX2, .slice oY2 ys2.length pY2, .int .i64 st2, .slice oG2 us2.length pG2, .string d2, .int .i64 t2] 29)) := blk_below HBv4_12.out bw
    clear hb12 HOQ_12 HOR_12 HOX1_12 HOY1_12 HOG1_12 HOX2_12 HOY2_12 HOG2_12 HBv1_12 HBv2_12 HBv3_12 HBv4_12 bw
    have hS13 : w13.heap[qv1]? = some (.cells #[.int .i64 m, .string p, .slice oQ fs.length pQ, .string b] 39) ∧ w13.heap[qv2]? = some (.cells #[.int .i64 st, .slice oR gs.length pR, .string d] 27) ∧ w13.heap[qv3]? = some (.cells #[.string p, .slice oX1 vl.length pX1, .slice oY1 yl.length pY1, .int .i64 st, .slice oG1 gs.length pG1, .string d, .int .i64 t] 29) := ⟨HBv1_13.out, HBv2_13.out, HBv3_13.out⟩
    refine hK.out _ _ hS13 (fun _ => ?_)
    clear hK K hS12
    refine wpAnyH_ready (rs := [34]) (by kernel_rfl) (by simp) ?_
    refine AllReadyH.cons rfl (fun K hK => ?_) AllReadyH.nil
    go_simp
    refine (implRespText_any st _ d gs.length _ gs _ (FieldsV.of_owns HOR_13.out) (by have := HFR.out.1; omega) (shortWalk HFR.out.2) (by have := HDZ.out; unfold maxLen; omega) (HT.out _ hb13)).mono ?_
    rintro e w14 ⟨uu, rfl, hu, _, bw⟩
    obtain rfl : RT = uu := HRT.out.trans (hu HKK.out.1.1.2.1).symm
    clear hu
    have hb14 : Below w.heap.size w (w14) := hb13.trans (bw.mono hb13.size)
    have HM14 : Hid ((w13).heap.size ≤ (w14).heap.size) := bw.size
    have HOQ_14 : Hid ((w14).ownsRow w.heap.size 131 2 (.slice oQ fs.length pQ) fs.length (flatF fs)) := owns_below HOQ_13.out bw (fun g hg => owns_lt HOQ_13.out hg)
    have HOR_14 : Hid ((w14).ownsRow w.heap.size 131 2 (.slice oR gs.length pR) gs.length (flatF gs)) := owns_below HOR_13.out bw (fun g hg => owns_lt HOR_13.out hg)
    have HOX1_14 : Hid ((w14).ownsRow w.heap.size 9 1 (.slice oX1 vl.length pX1) vl.length (vl.map Value.string)) := owns_below HOX1_13.out bw (fun g hg => owns_lt HOX1_13.out hg)
    have HOY1_14 : Hid ((w14).ownsRow w.heap.size 9 1 (.slice oY1 yl.length pY1) yl.length (yl.map Value.string)) := owns_below HOY1_13.out bw (fun g hg => owns_lt HOY1_13.out hg)
    have HOG1_14 : Hid ((w14).ownsRow w.heap.size 131 2 (.slice oG1 gs.length pG1) gs.length (flatF gs)) := owns_below HOG1_13.out bw (fun g hg => owns_lt HOG1_13.out hg)
    have HOX2_14 : Hid ((w14).ownsRow w.heap.size 9 1 (.slice oX2 xs2.length pX2) xs2.length (xs2.map Value.string)) := owns_below HOX2_13.out bw (fun g hg => owns_lt HOX2_13.out hg)
    have HOY2_14 : Hid ((w14).ownsRow w.heap.size 9 1 (.slice oY2 ys2.length pY2) ys2.length (ys2.map Value.string)) := owns_below HOY2_13.out bw (fun g hg => owns_lt HOY2_13.out hg)
    have HOG2_14 : Hid ((w14).ownsRow w.heap.size 131 2 (.slice oG2 us2.length pG2) us2.length (flatF us2)) := owns_below HOG2_13.out bw (fun g hg => owns_lt HOG2_13.out hg)
    have HBv1_14 : Hid ((w14).heap[qv1]? = some (.cells #[.int .i64 m, .string p, .slice oQ fs.length pQ, .string b] 39)) := blk_below HBv1_13.out bw
    have HBv2_14 : Hid ((w14).heap[qv2]? = some (.cells #[.int .i64 st, .slice oR gs.length pR, .string d] 27)) := blk_below HBv2_13.out bw
    have HBv3_14 : Hid ((w14).heap[qv3]? = some (.cells #[.string p, .slice oX1 vl.length pX1, .slice oY1 yl.length pY1, .int .i64 st, .slice oG1 gs.length pG1, .string d, .int .i64 t] 29)) := blk_below HBv3_13.out bw
    have HBv4_14 : Hid ((w14).heap[qv4]? = some (.cells #[.string p2, .slice oX2 xs2.length pX2, .slice oY2 ys2.length pY2, .int .i64 st2, .slice oG2 us2.length pG2, .string d2, .int .i64 t2] 29)) := blk_below HBv4_13.out bw
    clear hb13 HOQ_13 HOR_13 HOX1_13 HOY1_13 HOG1_13 HOX2_13 HOY2_13 HOG2_13 HBv1_13 HBv2_13 HBv3_13 HBv4_13 bw
    have hS14 : w14.heap[qv1]? = some (.cells #[.int .i64 m, .string p, .slice oQ fs.length pQ, .string b] 39) ∧ w14.heap[qv2]? = some (.cells #[.int .i64 st, .slice oR gs.length pR, .string d] 27) ∧ w14.heap[qv3]? = some (.cells #[.string p, .slice oX1 vl.length pX1, .slice oY1 yl.length pY1, .int .i64 st, .slice oG1 gs.length pG1, .string d, .int .i64 t] 29) := ⟨HBv1_14.out, HBv2_14.out, HBv3_14.out⟩
    refine hK.out _ _ hS14 (fun _ => ?_)
    clear hK K hS13
    refine wpAnyH_takeD (i := 35) (v := .bool true) (some 75) rfl rfl (by kernel_rfl) (by kernel_rfl) (by kernel_rfl) (fun _ _ _ h => h) (Or.inl ⟨by rfl, by intro W _; go_simp⟩) hS14 ?_
    simp only [Act.put, List.setIfInBounds_toArray, List.set_cons_zero, List.set_cons_succ]
    refine wpAnyH_takeD (i := 36) (v := .bool true) (some 76) rfl rfl (by kernel_rfl) (by kernel_rfl) (by kernel_rfl) (fun _ _ _ h => h) (Or.inl ⟨by rfl, by intro W _; go_simp⟩) hS14 ?_
    simp only [Act.put, List.setIfInBounds_toArray, List.set_cons_zero, List.set_cons_succ]
    refine wpAnyH_takeD (i := 37) (v := .bool true) (some 2) rfl rfl (by kernel_rfl) (by kernel_rfl) (by kernel_rfl) (fun _ _ _ h => h) (Or.inl ⟨by rfl, by intro W _; go_simp⟩) hS14 ?_
    simp only [Act.put, List.setIfInBounds_toArray, List.set_cons_zero, List.set_cons_succ]
    clear hS14
    refine wpAnyH_done (by kernel_rfl) ?_ _
    go_wp2_with fail
    go_ret
    exact ⟨rfl, hb14⟩

set_option maxRecDepth 100000 in
theorem contract (H : Type) (enc : TypeId × Value → H) (W : World) (base : Nat) (args : Array Value) (ds gs : List (DataW H)) (before : List MemPlace)
    (hval : ∀ (j : Nat) t v, Tryz.f4.params[j]? = some t → args[j]? = some v → Value.okWide Tryz.prog W .any base t v)
    (hW : DataW.Whole enc Tryz.prog Tryz.f4.params.toList Rows.fnKeptOfSpec.vars false W args.toList ds gs before) (hL : laidMetH Tryz.prog Rows.fnKeptOfRow.laid W) (_ : W.ShapedOpen Tryz.prog) :
    Calls Tryz.prog 4 args W fun e W' => ∃ v, e = .returned v ∧ Rows.fnKeptOfSpec.post enc Tryz.prog Tryz.f4 false true false false W args v W' := by
  have hT : TabOk W := table hL
  have hW' := hW
  obtain ⟨p, q, hA0, hV, rfl, hfz, hnd⟩ := hW
  have hA : DataW.TrodAll enc Tryz.prog W 0 (fun _ => true) true Tryz.f4.params.toList args.toList ds p := hA0
  rw [Tryz.params4] at hA hval
  obtain ⟨v0, vs0, d0, ds0, p0, q0, hargs, rfl, rfl, h0, r0⟩ := trodAll_cons hA
  obtain ⟨rfl, rfl, rfl⟩ := trodAll_nil r0
  obtain rfl : args = #[v0] := by cases args; simp_all
  obtain ⟨rfl, rfl⟩ := trodVars_none hV
  obtain ⟨a0, len0, cap0, rfl⟩ := okWide_slice Tryz.underlying22 (hval 0 22 v0 rfl rfl)
  have k0 := h0
  have lt0 : ∀ x ∈ p0, x.block < W.heap.size := by obtain ⟨m, hm⟩ := k0; exact DataW.trod_lt m _ _ _ hm
  obtain ⟨z0, w0⟩ : ∃ zs, IsRow .u8 W a0 len0 cap0 zs := by
    obtain ⟨fuel, hf⟩ := h0
    rcases open_ints Tryz.underlying22 Tryz.underlying5 (by kernel_rfl) hf with ⟨hcs, _⟩ | ⟨x, l, c, zs, hcs, _, hl, hm, hz, _, hcell, hwz⟩
    · simp [Value.cells] at hcs
      obtain ⟨rfl, rfl, rfl⟩ := hcs
      exact ⟨[], .inl ⟨rfl, rfl, rfl, rfl⟩⟩
    · simp [Value.cells] at hcs
      obtain ⟨rfl, rfl, rfl⟩ := hcs
      exact ⟨zs, .inr ⟨_, rfl, hl, hm, by simpa using hz, hcell, hwz⟩⟩
  clear hA0
  refine (walk1 W a0 len0 cap0 z0 w0 hT).mono fun e W' ⟨he, bel⟩ => ?_
  subst he
  exact ⟨_, rfl, _, _, _, [], _, [], hW', trodAll_mk1 (shut_bool Tryz.underlying4 _), (trodAll_cons_mk (Below.trod laidOut (by kernel_rfl) (of_decide_eq_true (by kernel_rfl)) k0 bel lt0) trodAll_mk0), rfl, bel.frame _, fun h => by cases h⟩

theorem laid_met (os : Os) : laidMet Tryz.prog Rows.fnKeptOfRow.laid ((withTables (World.holding Tryz.prog os ⟨#[], #[], []⟩)).forCall (fun _ _ => 0) ⟨#[], #[.slice none 0 0], []⟩).memory :=
  laidMet_of_run' 80 (by kernel_rfl) (by kernel_rfl)
theorem reads (os : Os) {H : Type} (enc : TypeId × Value → H) : ∃ places, DataW.whole enc Tryz.prog ((withTables (World.holding Tryz.prog os ⟨#[], #[], []⟩)).forCall (fun _ _ => 0) ⟨#[], #[.slice none 0 0], []⟩).memory Tryz.f4.params.toList Rows.fnKeptOfSpec.vars false #[(.slice none 0 0 : Value)].toList 8 = some ([.nil], [], places) :=
  ⟨[], by kernel_rfl⟩

set_option maxRecDepth 100000 in
theorem lifted (os : Os) (started : os.Started) (H : Type) (enc : TypeId × Value → H) (F : Stop.Interp) :
    ReturnsInHanded {} Tryz.checked os 4 .any ((OpenSpec.ofChange Rows.fnKeptOfSpec).preRow enc Tryz.prog Tryz.f4 Rows.fnKeptOfRow.domain false Rows.fnKeptOfRow.laid) (((OpenSpec.ofChange Rows.fnKeptOfSpec).at F).post enc Tryz.prog Tryz.f4 false true false false) := by
  obtain ⟨places, hx⟩ := reads os enc
  refine returnsInHanded_of_row (C := Tryz.checked) (s := OpenSpec.ofChange Rows.fnKeptOfSpec) own started (by kernel_rfl) Tryz.func4
    (witness_row_at (enc := enc) (C := Tryz.checked) false (withTables (World.holding Tryz.prog os ⟨#[], #[], []⟩)) #[.slice none 0 0] rfl (by kernel_rfl) (by kernel_rfl) (by kernel_rfl)
      (OpenSpec.preRow_of_cond 8 hx (by kernel_rfl) (fun k hk => by cases hk) (by kernel_rfl) (laid_met os))) ?_
  intro W base args ds gs before hval hW _ _ _ hL hSh _
  exact contract H enc W base args ds gs before hval hW hL hSh

theorem said : Rows.FnKeptOfSaid :=
  OpenClaim.holds_of_cond 4 Tryz.f4 rfl rfl rfl rfl rfl rfl rfl ⟨rfl, rfl, rfl, rfl, rfl⟩ rfl rfl rfl rfl rfl (by kernel_rfl) Tryz.func4 (by kernel_rfl)
    (of_decide_eq_true (by kernel_rfl)) (by unfold Func.isWrapper; first | (rw [if_pos (by decide +kernel)]; kernel_rfl) | (rw [if_neg (by decide +kernel)]; exact ⟨rfl, rfl⟩))
    (fun os started H enc _ F => by rw [OpenClaim.pre_eq_preRow]; exact lifted os started H enc F)

theorem plain (f : FuncId) (fn : Func) (hf : Tryz.pinned.checked.prog.funcNamed "loop.example/g00239/laws.FnKeptOf" = some f) (hfn : Tryz.pinned.checked.prog.funcs[f]? = some fn) :
    false = Tryz.pinned.checked.prog.looks [] ∧ ∀ (j : Nat) t, fn.params[j]? = some t → Tryz.pinned.checked.prog.wantsStandIn t = false := by
  obtain rfl : f = 4 := Option.some.inj ((show Tryz.prog.funcNamed "loop.example/g00239/laws.FnKeptOf" = some 4 by kernel_rfl).symm.trans hf) |>.symm
  obtain rfl : fn = Tryz.f4 := (Option.some.inj (Tryz.func4.symm.trans hfn)).symm
  refine ⟨by kernel_rfl, fun j t ht => ?_⟩
  rw [Tryz.params4] at ht
  obtain rfl : t = 22 := by simpa using Array.mem_of_getElem? ht
  exact (show Tryz.prog.wantsStandIn 22 = false by kernel_rfl)

theorem card : Rows.FnKeptOfCardSaid :=
  Claim7.holds_tied_plain_at .later [] _ _ _ _ said (fun _ h => by cases h) (by kernel_rfl) (fun _ h => by cases h) fnKeptOf_row_tie rfl ⟨rfl, rfl⟩ (by kernel_rfl) rfl plain (by kernel_rfl)
end fnKeptOf

theorem fnKeptOf_holds : Rows.FnKeptOfCardSaid := fnKeptOf.card
#print axioms fnKeptOf_holds
end Go.Proofs.YtdlhicdfldecgaaGreatDoor
