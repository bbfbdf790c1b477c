/- BanRead: at every argument the program answers as the specification (the law answers true), and it writes into no argument. The card lists the tables that strconv.Itoa's text names. -/
import Derived.Test.YtlmenolcgaakeaaDoorFnExactBanReadC
import Derived.Below
import Derived.ChangeOld
import Derived.ShutString
import Derived.Deep.RegionHeld3
import Derived.Deep.DrawnRows
import Derived.Deep.CutRange
import Derived.Deep.DeepCutAuto
namespace Go.Proofs.YtlmenolcgaakeaaDoor
namespace fnExactBanRead
open Go.ChangeShapes Go.WideShapes Go.ChangeAt Go.RowKit
open Go.ChangeMaps (open_string shut_string)
attribute [local go_sem ↓] Go.wp_at_zero Go.wp_at_succ

theorem own : ownKnob Tryd.prog.godebug = none := by kernel_rfl
theorem laidOut : laidOutB Tryd.prog = true := by kernel_rfl
theorem banRdT {a : ByteArray} {k : Int} {p b : ByteArray} {t : Int} {prog : Program} {f : FuncId} {args : Array Value} {w : World} (hK : IsBan a k p b t) (h : Calls prog f args w fun e w' => BanIs a w e w') : Calls prog f args w fun e w' => e = .returned (.tuple #[.agg #[.int .i64 k, .string p, .string b, .int .i64 t], .bool true]) ∧ Below w.heap.size w w' :=
  h.mono fun e w' ⟨h1, h2⟩ => by
    rcases h2 with ⟨k', p', b', t', h3, h4⟩ | ⟨h3, h4⟩
    · obtain ⟨e1, e2, e3, e4⟩ := IsBan.uniq h4 hK
      exact ⟨by rw [h3, e1, e2, e3, e4], h1⟩
    · exact absurd hK (h4 _ _ _ _)
theorem banRdF {a : ByteArray} {prog : Program} {f : FuncId} {args : Array Value} {w : World} (hK : ∀ k p b t, ¬ IsBan a k p b t) (h : Calls prog f args w fun e w' => BanIs a w e w') : Calls prog f args w fun e w' => e = .returned (.tuple #[.agg #[.int .i64 0, .string ⟨#[]⟩, .string ⟨#[]⟩, .int .i64 0], .bool false]) ∧ Below w.heap.size w w' :=
  h.mono fun e w' ⟨h1, h2⟩ => by
    rcases h2 with ⟨k', p', b', t', h3, h4⟩ | ⟨h3, h4⟩
    · exact absurd h4 (hK _ _ _ _)
    · exact ⟨h3, h1⟩

open Go.Lib hiding intOf
set_option maxHeartbeats 16000000 in
set_option maxRecDepth 100000 in
theorem walkT (w : World) (a : ByteArray) (k : Int) (p b : ByteArray) (t : Int) (hK : IsBan a k p b t) (hT : TabOk w) (hLN : LenOk w) :
    Calls Tryd.prog 5 #[.string a] w fun e w' => e = .returned (.bool true) ∧ Below w.heap.size w w' := by
  have HTB : Hid (∀ W, Below w.heap.size w W → TabOk W) := fun W h => hT.below h
  have HLB : Hid (∀ W, Below w.heap.size w W → LenOk W) := fun W h => hLN.below h hLN.lt
  have HKK : Hid (IsBan a k p b t) := hK
  clear hT hLN hK
  have hb0 : Below w.heap.size w w := Below.refl _ _
  go_enter Tryd.func5, Tryd.ntmps5
  by_cases hc1 : 1048576 < (a.size : Int)
  · go_wp2_with fail
    go_ret
    exact ⟨rfl, hb0⟩
  · have HSP : Hid (∀ (W : World), Below w.heap.size w W → Calls Tryd.prog 13 #[.string a] W fun e w' => e = .returned (.tuple #[.agg #[.int .i64 k, .string p, .string b, .int .i64 t], .bool true]) ∧ Below W.heap.size W w') := fun W _ => banRdT HKK.out (specBanRead_any a W (by omega))
    have HIM : Hid (∀ (W : World), Below w.heap.size w W → Calls Tryd.prog 11 #[.string a] W fun e w' => e = .returned (.tuple #[.agg #[.int .i64 k, .string p, .string b, .int .i64 t], .bool true]) ∧ Below W.heap.size W w') := fun W hb => banRdT HKK.out (implBanRead_any a W (by omega) (HTB.out W hb) (HLB.out W hb))
    go_wp2_with fail
    refine (HSP.out _ hb0).mono ?_
    rintro e w1 ⟨rfl, bw⟩
    have hb1 : Below w.heap.size w (w1) := hb0.trans (bw.mono hb0.size)
    have HM1 : Hid ((w).heap.size ≤ (w1).heap.size) := bw.size
    clear hb0 bw
    go_upto_region 4 with fail
    obtain ⟨qv1, hqv1⟩ : ∃ q, q = (w1).heap.size := ⟨_, rfl⟩
    obtain ⟨w2, hW2⟩ : ∃ W, W = (w1).alloc (.cells #[.int .i64 k, .string p, .string b, .int .i64 t] 25) := ⟨_, rfl⟩
    have hz2 : (w1).heap.size = qv1 := hqv1.symm
    first | rw [← hW2, ← hqv1] | rw [← hW2]
    have hs2 : w2.heap.size = qv1 + 1 := by rw [hW2, ← hz2]; simp
    have bw : Below (w1).heap.size (w1) w2 := by rw [hW2]; exact (Below.refl _ _).alloc (Nat.le_refl _) _
    have hb2 : Below w.heap.size w (w2) := hb1.trans (bw.mono hb1.size)
    have HM2 : Hid ((w1).heap.size ≤ (w2).heap.size) := bw.size
    have HBv1_2 : Hid ((w2).heap[qv1]? = some (.cells #[.int .i64 k, .string p, .string b, .int .i64 t] 25)) := by show _ = _; rw [hW2, ← hz2]; exact heap_alloc_new _ _
    have HGv1 : Hid (w.heap.size ≤ qv1) := by show _ ≤ _; rw [← hz2]; exact hb1.size
    clear hb1 bw hW2 hz2
    clear hs2 hqv1
    go_wp2_with fail
    refine (HIM.out _ hb2).mono ?_
    rintro e w3 ⟨rfl, bw⟩
    have hb3 : Below w.heap.size w (w3) := hb2.trans (bw.mono hb2.size)
    have HM3 : Hid ((w2).heap.size ≤ (w3).heap.size) := bw.size
    have HBv1_3 : Hid ((w3).heap[qv1]? = some (.cells #[.int .i64 k, .string p, .string b, .int .i64 t] 25)) := blk_below HBv1_2.out bw
    clear hb2 HBv1_2 bw
    go_upto_region 5 with fail
    obtain ⟨qv2, hqv2⟩ : ∃ q, q = (w3).heap.size := ⟨_, rfl⟩
    obtain ⟨w4, hW4⟩ : ∃ W, W = (w3).alloc (.cells #[.int .i64 k, .string p, .string b, .int .i64 t] 25) := ⟨_, rfl⟩
    have hz4 : (w3).heap.size = qv2 := hqv2.symm
    first | rw [← hW4, ← hqv2] | rw [← hW4]
    have hs4 : w4.heap.size = qv2 + 1 := by rw [hW4, ← hz4]; simp
    have bw : Below (w3).heap.size (w3) w4 := by rw [hW4]; exact (Below.refl _ _).alloc (Nat.le_refl _) _
    have hb4 : Below w.heap.size w (w4) := hb3.trans (bw.mono hb3.size)
    have HM4 : Hid ((w3).heap.size ≤ (w4).heap.size) := bw.size
    have HBv1_4 : Hid ((w4).heap[qv1]? = some (.cells #[.int .i64 k, .string p, .string b, .int .i64 t] 25)) := blk_below HBv1_3.out bw
    have HNv1v2 : Hid (qv1 ≠ qv2) := fun e => by have h1 := (Array.getElem?_eq_some_iff.1 HBv1_3.out).1; omega
    have HBv2_4 : Hid ((w4).heap[qv2]? = some (.cells #[.int .i64 k, .string p, .string b, .int .i64 t] 25)) := by show _ = _; rw [hW4, ← hz4]; exact heap_alloc_new _ _
    have HGv2 : Hid (w.heap.size ≤ qv2) := by show _ ≤ _; rw [← hz4]; exact hb3.size
    clear hb3 HBv1_3 bw hW4 hz4
    clear hs4 hqv2
    have cv1_0 : (w4).cell? ⟨qv1, 0, none⟩ = some (.int .i64 k) := (cell_of HBv1_4.out 0).trans rfl
    have cv1_1 : (w4).cell? ⟨qv1, 1, none⟩ = some (.string p) := (cell_of HBv1_4.out 1).trans rfl
    have cv1_2 : (w4).cell? ⟨qv1, 2, none⟩ = some (.string b) := (cell_of HBv1_4.out 2).trans rfl
    have cv1_3 : (w4).cell? ⟨qv1, 3, none⟩ = some (.int .i64 t) := (cell_of HBv1_4.out 3).trans rfl
    have cv2_0 : (w4).cell? ⟨qv2, 0, none⟩ = some (.int .i64 k) := (cell_of HBv2_4.out 0).trans rfl
    have cv2_1 : (w4).cell? ⟨qv2, 1, none⟩ = some (.string p) := (cell_of HBv2_4.out 1).trans rfl
    have cv2_2 : (w4).cell? ⟨qv2, 2, none⟩ = some (.string b) := (cell_of HBv2_4.out 2).trans rfl
    have cv2_3 : (w4).cell? ⟨qv2, 3, none⟩ = some (.int .i64 t) := (cell_of HBv2_4.out 3).trans rfl
    go_wp2_with fail
    refine (eqBan_any k p b t _).mono ?_
    rintro e w5 ⟨rfl, bw⟩
    have hb5 : Below w.heap.size w (w5) := hb4.trans (bw.mono hb4.size)
    have HM5 : Hid ((w4).heap.size ≤ (w5).heap.size) := bw.size
    have HBv1_5 : Hid ((w5).heap[qv1]? = some (.cells #[.int .i64 k, .string p, .string b, .int .i64 t] 25)) := blk_below HBv1_4.out bw
    have HBv2_5 : Hid ((w5).heap[qv2]? = some (.cells #[.int .i64 k, .string p, .string b, .int .i64 t] 25)) := blk_below HBv2_4.out bw
    clear hb4 HBv1_4 HBv2_4 bw
    clear cv1_0 cv1_1 cv1_2 cv1_3 cv2_0 cv2_1 cv2_2 cv2_3
    go_wp2_with fail
    go_ret
    exact ⟨rfl, hb5⟩

set_option maxHeartbeats 16000000 in
set_option maxRecDepth 100000 in
theorem walkF (w : World) (a : ByteArray) (hK : ∀ k p b t, ¬ IsBan a k p b t) (hT : TabOk w) (hLN : LenOk w) :
    Calls Tryd.prog 5 #[.string a] w fun e w' => e = .returned (.bool true) ∧ Below w.heap.size w w' := by
  have HTB : Hid (∀ W, Below w.heap.size w W → TabOk W) := fun W h => hT.below h
  have HLB : Hid (∀ W, Below w.heap.size w W → LenOk W) := fun W h => hLN.below h hLN.lt
  have HKK : Hid (∀ k p b t, ¬ IsBan a k p b t) := hK
  clear hT hLN hK
  have hb0 : Below w.heap.size w w := Below.refl _ _
  go_enter Tryd.func5, Tryd.ntmps5
  by_cases hc1 : 1048576 < (a.size : Int)
  · go_wp2_with fail
    go_ret
    exact ⟨rfl, hb0⟩
  · have HSP : Hid (∀ (W : World), Below w.heap.size w W → Calls Tryd.prog 13 #[.string a] W fun e w' => e = .returned (.tuple #[.agg #[.int .i64 0, .string ⟨#[]⟩, .string ⟨#[]⟩, .int .i64 0], .bool false]) ∧ Below W.heap.size W w') := fun W _ => banRdF HKK.out (specBanRead_any a W (by omega))
    have HIM : Hid (∀ (W : World), Below w.heap.size w W → Calls Tryd.prog 11 #[.string a] W fun e w' => e = .returned (.tuple #[.agg #[.int .i64 0, .string ⟨#[]⟩, .string ⟨#[]⟩, .int .i64 0], .bool false]) ∧ Below W.heap.size W w') := fun W hb => banRdF HKK.out (implBanRead_any a W (by omega) (HTB.out W hb) (HLB.out W hb))
    go_wp2_with fail
    refine (HSP.out _ hb0).mono ?_
    rintro e w1 ⟨rfl, bw⟩
    have hb1 : Below w.heap.size w (w1) := hb0.trans (bw.mono hb0.size)
    have HM1 : Hid ((w).heap.size ≤ (w1).heap.size) := bw.size
    clear hb0 bw
    go_upto_region 4 with fail
    obtain ⟨qv1, hqv1⟩ : ∃ q, q = (w1).heap.size := ⟨_, rfl⟩
    obtain ⟨w2, hW2⟩ : ∃ W, W = (w1).alloc (.cells #[.int .i64 0, .string ⟨#[]⟩, .string ⟨#[]⟩, .int .i64 0] 25) := ⟨_, rfl⟩
    have hz2 : (w1).heap.size = qv1 := hqv1.symm
    first | rw [← hW2, ← hqv1] | rw [← hW2]
    have hs2 : w2.heap.size = qv1 + 1 := by rw [hW2, ← hz2]; simp
    have bw : Below (w1).heap.size (w1) w2 := by rw [hW2]; exact (Below.refl _ _).alloc (Nat.le_refl _) _
    have hb2 : Below w.heap.size w (w2) := hb1.trans (bw.mono hb1.size)
    have HM2 : Hid ((w1).heap.size ≤ (w2).heap.size) := bw.size
    have HBv1_2 : Hid ((w2).heap[qv1]? = some (.cells #[.int .i64 0, .string ⟨#[]⟩, .string ⟨#[]⟩, .int .i64 0] 25)) := by show _ = _; rw [hW2, ← hz2]; exact heap_alloc_new _ _
    have HGv1 : Hid (w.heap.size ≤ qv1) := by show _ ≤ _; rw [← hz2]; exact hb1.size
    clear hb1 bw hW2 hz2
    clear hs2 hqv1
    go_wp2_with fail
    refine (HIM.out _ hb2).mono ?_
    rintro e w3 ⟨rfl, bw⟩
    have hb3 : Below w.heap.size w (w3) := hb2.trans (bw.mono hb2.size)
    have HM3 : Hid ((w2).heap.size ≤ (w3).heap.size) := bw.size
    have HBv1_3 : Hid ((w3).heap[qv1]? = some (.cells #[.int .i64 0, .string ⟨#[]⟩, .string ⟨#[]⟩, .int .i64 0] 25)) := blk_below HBv1_2.out bw
    clear hb2 HBv1_2 bw
    go_upto_region 5 with fail
    obtain ⟨qv2, hqv2⟩ : ∃ q, q = (w3).heap.size := ⟨_, rfl⟩
    obtain ⟨w4, hW4⟩ : ∃ W, W = (w3).alloc (.cells #[.int .i64 0, .string ⟨#[]⟩, .string ⟨#[]⟩, .int .i64 0] 25) := ⟨_, rfl⟩
    have hz4 : (w3).heap.size = qv2 := hqv2.symm
    first | rw [← hW4, ← hqv2] | rw [← hW4]
    have hs4 : w4.heap.size = qv2 + 1 := by rw [hW4, ← hz4]; simp
    have bw : Below (w3).heap.size (w3) w4 := by rw [hW4]; exact (Below.refl _ _).alloc (Nat.le_refl _) _
    have hb4 : Below w.heap.size w (w4) := hb3.trans (bw.mono hb3.size)
    have HM4 : Hid ((w3).heap.size ≤ (w4).heap.size) := bw.size
    have HBv1_4 : Hid ((w4).heap[qv1]? = some (.cells #[.int .i64 0, .string ⟨#[]⟩, .string ⟨#[]⟩, .int .i64 0] 25)) := blk_below HBv1_3.out bw
    have HNv1v2 : Hid (qv1 ≠ qv2) := fun e => by have h1 := (Array.getElem?_eq_some_iff.1 HBv1_3.out).1; omega
    have HBv2_4 : Hid ((w4).heap[qv2]? = some (.cells #[.int .i64 0, .string ⟨#[]⟩, .string ⟨#[]⟩, .int .i64 0] 25)) := by show _ = _; rw [hW4, ← hz4]; exact heap_alloc_new _ _
    have HGv2 : Hid (w.heap.size ≤ qv2) := by show _ ≤ _; rw [← hz4]; exact hb3.size
    clear hb3 HBv1_3 bw hW4 hz4
    clear hs4 hqv2
    have cv1_0 : (w4).cell? ⟨qv1, 0, none⟩ = some (.int .i64 0) := (cell_of HBv1_4.out 0).trans rfl
    have cv1_1 : (w4).cell? ⟨qv1, 1, none⟩ = some (.string ⟨#[]⟩) := (cell_of HBv1_4.out 1).trans rfl
    have cv1_2 : (w4).cell? ⟨qv1, 2, none⟩ = some (.string ⟨#[]⟩) := (cell_of HBv1_4.out 2).trans rfl
    have cv1_3 : (w4).cell? ⟨qv1, 3, none⟩ = some (.int .i64 0) := (cell_of HBv1_4.out 3).trans rfl
    have cv2_0 : (w4).cell? ⟨qv2, 0, none⟩ = some (.int .i64 0) := (cell_of HBv2_4.out 0).trans rfl
    have cv2_1 : (w4).cell? ⟨qv2, 1, none⟩ = some (.string ⟨#[]⟩) := (cell_of HBv2_4.out 1).trans rfl
    have cv2_2 : (w4).cell? ⟨qv2, 2, none⟩ = some (.string ⟨#[]⟩) := (cell_of HBv2_4.out 2).trans rfl
    have cv2_3 : (w4).cell? ⟨qv2, 3, none⟩ = some (.int .i64 0) := (cell_of HBv2_4.out 3).trans rfl
    go_wp2_with fail
    refine (eqBan_any 0 ⟨#[]⟩ ⟨#[]⟩ 0 _).mono ?_
    rintro e w5 ⟨rfl, bw⟩
    have hb5 : Below w.heap.size w (w5) := hb4.trans (bw.mono hb4.size)
    have HM5 : Hid ((w4).heap.size ≤ (w5).heap.size) := bw.size
    have HBv1_5 : Hid ((w5).heap[qv1]? = some (.cells #[.int .i64 0, .string ⟨#[]⟩, .string ⟨#[]⟩, .int .i64 0] 25)) := blk_below HBv1_4.out bw
    have HBv2_5 : Hid ((w5).heap[qv2]? = some (.cells #[.int .i64 0, .string ⟨#[]⟩, .string ⟨#[]⟩, .int .i64 0] 25)) := blk_below HBv2_4.out bw
    clear hb4 HBv1_4 HBv2_4 bw
    clear cv1_0 cv1_1 cv1_2 cv1_3 cv2_0 cv2_1 cv2_2 cv2_3
    go_wp2_with fail
    go_ret
    exact ⟨rfl, hb5⟩

theorem walk1 (w : World) (a : ByteArray) (_ha : a.size ≤ maxLen) (hT : TabOk w) (hLN : LenOk w) :
    Calls Tryd.prog 5 #[.string a] w fun e w' => e = .returned (.bool true) ∧ Below w.heap.size w w' := by
  classical
  by_cases hK : ∃ k p b t, IsBan a k p b t
  · obtain ⟨k, p, b, t, hK⟩ := hK
    exact walkT w a k p b t hK hT hLN
  · exact walkF w a (fun k p b t h => hK ⟨k, p, b, t, h⟩) hT hLN

set_option maxRecDepth 100000 in
theorem contract (H : Type) (enc : TypeId × Value → H) (W : World) (base : Nat) (args : Array Value) (ds gs : List (DataW H)) (before : List MemPlace)
    (hval : ∀ (j : Nat) t v, Tryd.f5.params[j]? = some t → args[j]? = some v → Value.okWide Tryd.prog W .any base t v)
    (hW : DataW.Whole enc Tryd.prog Tryd.f5.params.toList Rows.fnExactBanReadSpec.vars false W args.toList ds gs before) (hL : laidMetH Tryd.prog Rows.fnExactBanReadRow.laid W) (hSh : W.ShapedOpen Tryd.prog) :
    Calls Tryd.prog 5 args W fun e W' => ∃ v, e = .returned v ∧ Rows.fnExactBanReadSpec.post enc Tryd.prog Tryd.f5 false true false false W args v W' := by
  have hT : TabOk W := table hL
  have hLN : LenOk W := Tryd.laysM145.s1_3 W hSh
  have hW' := hW
  obtain ⟨p, q, hA0, hV, rfl, hfz, hnd⟩ := hW
  have hA : DataW.TrodAll enc Tryd.prog W 0 (fun _ => true) true Tryd.f5.params.toList args.toList ds p := hA0
  rw [Tryd.params5] at hA hval
  obtain ⟨v0, vs0, d0, ds0, p0, q0, hargs, rfl, rfl, h0, r0⟩ := trodAll_cons hA
  obtain ⟨rfl, rfl, rfl⟩ := trodAll_nil r0
  obtain rfl : args = #[v0] := by cases args; simp_all
  obtain ⟨rfl, rfl⟩ := trodVars_none hV
  obtain ⟨a0, rfl, rfl, rfl, w0⟩ := open_string Tryd.underlying9 (hval 0 9 v0 rfl rfl) h0
  clear hA0
  simp only [List.append_nil] at hW'
  refine (walk1 W a0 w0 hT hLN).mono fun e W' ⟨he, bel⟩ => ?_
  subst he
  exact ⟨_, rfl, _, _, _, [], [], [], hW', trodAll_mk1 (shut_bool Tryd.underlying4 _), (trodAll_cons_mk (shut_string Tryd.underlying9 w0) trodAll_mk0), rfl, bel.frame _, fun h => by cases h⟩

theorem laid_met (os : Os) : laidMet Tryd.prog Rows.fnExactBanReadRow.laid ((withTables (World.holding Tryd.prog os ⟨#[], #[], []⟩)).forCall (fun _ _ => 0) ⟨#[], #[.string ByteArray.empty], []⟩).memory :=
  laidMet_of_run' 80 (by kernel_rfl) (by kernel_rfl)
theorem reads (os : Os) {H : Type} (enc : TypeId × Value → H) : ∃ places, DataW.whole enc Tryd.prog ((withTables (World.holding Tryd.prog os ⟨#[], #[], []⟩)).forCall (fun _ _ => 0) ⟨#[], #[.string ByteArray.empty], []⟩).memory Tryd.f5.params.toList Rows.fnExactBanReadSpec.vars false #[(.string ByteArray.empty : Value)].toList 8 = some ([.lit (.string [])], [], places) :=
  ⟨[], by kernel_rfl⟩

set_option maxRecDepth 100000 in
theorem lifted (os : Os) (started : os.Started) (H : Type) (enc : TypeId × Value → H) (F : Stop.Interp) :
    ReturnsInHanded {} Tryd.checked os 5 .any ((OpenSpec.ofChange Rows.fnExactBanReadSpec).preRow enc Tryd.prog Tryd.f5 Rows.fnExactBanReadRow.domain false Rows.fnExactBanReadRow.laid) (((OpenSpec.ofChange Rows.fnExactBanReadSpec).at F).post enc Tryd.prog Tryd.f5 false true false false) := by
  obtain ⟨places, hx⟩ := reads os enc
  refine returnsInHanded_of_row (C := Tryd.checked) (s := OpenSpec.ofChange Rows.fnExactBanReadSpec) own started (by kernel_rfl) Tryd.func5
    (witness_row_at (enc := enc) (C := Tryd.checked) false (withTables (World.holding Tryd.prog os ⟨#[], #[], []⟩)) #[.string ByteArray.empty] rfl (by kernel_rfl) (by kernel_rfl) (by kernel_rfl)
      (OpenSpec.preRow_of_cond 8 hx (by kernel_rfl) (fun k hk => by cases hk) (by kernel_rfl) (laid_met os))) ?_
  intro W base args ds gs before hval hW _ _ _ hL hSh _
  exact contract H enc W base args ds gs before hval hW hL hSh

theorem said : Rows.FnExactBanReadSaid :=
  OpenClaim.holds_of_cond 5 Tryd.f5 rfl rfl rfl rfl rfl rfl rfl ⟨rfl, rfl, rfl, rfl, rfl⟩ rfl rfl rfl rfl rfl (by kernel_rfl) Tryd.func5 (by kernel_rfl)
    (of_decide_eq_true (by kernel_rfl)) (by unfold Func.isWrapper; first | (rw [if_pos (by decide +kernel)]; kernel_rfl) | (rw [if_neg (by decide +kernel)]; exact ⟨rfl, rfl⟩))
    (fun os started H enc _ F => by rw [OpenClaim.pre_eq_preRow]; exact lifted os started H enc F)

theorem plain (f : FuncId) (fn : Func) (hf : Tryd.pinned.checked.prog.funcNamed "loop.example/g00239/laws.FnExactBanRead" = some f) (hfn : Tryd.pinned.checked.prog.funcs[f]? = some fn) :
    true = Tryd.pinned.checked.prog.looks [] ∧ ∀ (j : Nat) t, fn.params[j]? = some t → Tryd.pinned.checked.prog.wantsStandIn t = false := by
  obtain rfl : f = 5 := Option.some.inj ((show Tryd.prog.funcNamed "loop.example/g00239/laws.FnExactBanRead" = some 5 by kernel_rfl).symm.trans hf) |>.symm
  obtain rfl : fn = Tryd.f5 := (Option.some.inj (Tryd.func5.symm.trans hfn)).symm
  refine ⟨by kernel_rfl, fun j t ht => ?_⟩
  rw [Tryd.params5] at ht
  obtain rfl : t = 9 := by simpa using Array.mem_of_getElem? ht
  exact (show Tryd.prog.wantsStandIn 9 = false by kernel_rfl)

theorem card : Rows.FnExactBanReadCardSaid :=
  Claim7.holds_tied_plain_at .later [] _ _ _ _ said (fun _ h => by cases h) (by kernel_rfl) (fun _ h => by cases h) fnExactBanRead_row_tie rfl ⟨rfl, rfl⟩ (by kernel_rfl) rfl plain (by kernel_rfl)
end fnExactBanRead

theorem fnExactBanRead_holds : Rows.FnExactBanReadCardSaid := fnExactBanRead.card
#print axioms fnExactBanRead_holds
end Go.Proofs.YtlmenolcgaakeaaDoor
