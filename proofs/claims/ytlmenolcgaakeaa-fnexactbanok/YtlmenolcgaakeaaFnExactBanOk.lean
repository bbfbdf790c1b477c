/- BanOk: at every argument the program answers as the specification (the law answers true), and it writes into no argument: no condition. -/
import Derived.Test.YtlmenolcgaakeaaFnExactBanOkB
import Derived.Test.YtlmenolcgaakeaaRows
import Derived.WalkKit
import Derived.ProofKit
import Derived.OpenShut
import Derived.ShutString
import Derived.ChangeOld
import Derived.Below
import Derived.Deep.RegionHeld3
import Derived.Deep.DrawnRows
import Derived.Deep.CutRange
import Derived.Deep.DeepCutAuto
namespace Go.Proofs.Ytlmenolcgaakeaa
namespace fnExactBanOk
open Go.ChangeShapes Go.WideShapes Go.ChangeAt Go.RowKit
open Go.ChangeMaps (open_string shut_string)
attribute [local go_sem ↓] Go.wp_at_zero Go.wp_at_succ

theorem own : ownKnob Try.prog.godebug = none := by kernel_rfl
theorem laidOut : laidOutB Try.prog = true := by kernel_rfl
open Classical in
theorem bool_is {P : Prop} {prog : Program} {f : FuncId} {args : Array Value} {w : World} (h : Calls prog f args w fun e w' => BoolIs P w e w') : Calls prog f args w fun e w' => e = .returned (.bool (decide P)) ∧ Below w.heap.size w w' :=
  h.mono fun e w' ⟨t, h1, h2, h3⟩ => ⟨by rw [h1, (show t = decide P by rw [Bool.eq_iff_iff, h2, decide_eq_true_iff])], h3⟩

open Go.Lib hiding intOf
set_option maxHeartbeats 16000000 in
set_option maxRecDepth 100000 in
theorem walk1 (w : World) (k : Int) (a b : ByteArray) (t : Int) (ha : a.size ≤ maxLen) (hb : b.size ≤ maxLen) :
    Calls Try.prog 3 #[.agg #[.int .i64 k, .string a, .string b, .int .i64 t]] w fun e w' => e = .returned (.bool true) ∧ Below w.heap.size w w' := by
  classical
  have HAM : Hid (a.size ≤ maxLen) := ha
  have HBM : Hid (b.size ≤ maxLen) := hb
  clear ha hb
  obtain ⟨P, hP⟩ : ∃ P, P = decide (BanP k a b t) := ⟨_, rfl⟩
  have HSP : Hid (∀ W : World, Calls Try.prog 7 #[.agg #[.int .i64 k, .string a, .string b, .int .i64 t]] W fun e w' => e = .returned (.bool P) ∧ Below W.heap.size W w') := fun W => by rw [hP]; exact bool_is (specBanOk_any k a b t W HAM.out HBM.out)
  have HIM : Hid (∀ W : World, Calls Try.prog 9 #[.agg #[.int .i64 k, .string a, .string b, .int .i64 t]] W fun e w' => e = .returned (.bool P) ∧ Below W.heap.size W w') := fun W => by rw [hP]; exact bool_is (implBanOk_any k a b t W HAM.out HBM.out)
  clear hP
  have hPP : (P != P) = false := by simp
  have hb0 : Below w.heap.size w w := Below.refl _ _
  go_enter Try.func3, Try.ntmps3
  go_upto_region 1 with fail
  obtain ⟨qv1, hqv1⟩ : ∃ q, q = (w).heap.size := ⟨_, rfl⟩
  obtain ⟨w1, hW1⟩ : ∃ W, W = (w).alloc (.cells #[.int .i64 k, .string a, .string b, .int .i64 t] 23) := ⟨_, rfl⟩
  have hz1 : (w).heap.size = qv1 := hqv1.symm
  first | rw [← hW1, ← hqv1] | rw [← hW1]
  have hs1 : w1.heap.size = qv1 + 1 := by rw [hW1, ← hz1]; simp
  have bw : Below (w).heap.size (w) w1 := by rw [hW1]; exact (Below.refl _ _).alloc (Nat.le_refl _) _
  have hb1 : Below w.heap.size w (w1) := hb0.trans (bw.mono hb0.size)
  have HM1 : Hid ((w).heap.size ≤ (w1).heap.size) := bw.size
  have HBv1_1 : Hid ((w1).heap[qv1]? = some (.cells #[.int .i64 k, .string a, .string b, .int .i64 t] 23)) := by show _ = _; rw [hW1, ← hz1]; exact heap_alloc_new _ _
  have HGv1 : Hid (w.heap.size ≤ qv1) := by show _ ≤ _; rw [← hz1]; exact hb0.size
  clear hb0 bw hW1 hz1
  clear hs1 hqv1
  have cv1_0 : (w1).cell? ⟨qv1, 0, none⟩ = some (.int .i64 k) := (cell_of HBv1_1.out 0).trans rfl
  have cv1_1 : (w1).cell? ⟨qv1, 1, none⟩ = some (.string a) := (cell_of HBv1_1.out 1).trans rfl
  have cv1_2 : (w1).cell? ⟨qv1, 2, none⟩ = some (.string b) := (cell_of HBv1_1.out 2).trans rfl
  have cv1_3 : (w1).cell? ⟨qv1, 3, none⟩ = some (.int .i64 t) := (cell_of HBv1_1.out 3).trans rfl
  go_wp2_with fail
  refine (szBan_any 1048576 (by omega) (by omega) k a b t _ HAM.out HBM.out).mono ?_
  rintro e w2 ⟨r1, rfl, hl1, hr1, bw⟩
  have hb2 : Below w.heap.size w (w2) := hb1.trans (bw.mono hb1.size)
  have HM2 : Hid ((w1).heap.size ≤ (w2).heap.size) := bw.size
  have HBv1_2 : Hid ((w2).heap[qv1]? = some (.cells #[.int .i64 k, .string a, .string b, .int .i64 t] 23)) := blk_below HBv1_1.out bw
  clear hb1 HBv1_1 bw
  clear cv1_0 cv1_1 cv1_2 cv1_3
  by_cases hc1 : r1 < 0
  · clear hr1
    go_wp2_with fail
    go_ret
    exact ⟨rfl, hb2⟩
  · clear hr1
    have cv1_0 : (w2).cell? ⟨qv1, 0, none⟩ = some (.int .i64 k) := (cell_of HBv1_2.out 0).trans rfl
    have cv1_1 : (w2).cell? ⟨qv1, 1, none⟩ = some (.string a) := (cell_of HBv1_2.out 1).trans rfl
    have cv1_2 : (w2).cell? ⟨qv1, 2, none⟩ = some (.string b) := (cell_of HBv1_2.out 2).trans rfl
    have cv1_3 : (w2).cell? ⟨qv1, 3, none⟩ = some (.int .i64 t) := (cell_of HBv1_2.out 3).trans rfl
    go_wp2_with fail
    refine (toBan_any k a b t _).mono ?_
    rintro e w3 ⟨rfl, bw⟩
    have hb3 : Below w.heap.size w (w3) := hb2.trans (bw.mono hb2.size)
    have HM3 : Hid ((w2).heap.size ≤ (w3).heap.size) := bw.size
    have HBv1_3 : Hid ((w3).heap[qv1]? = some (.cells #[.int .i64 k, .string a, .string b, .int .i64 t] 23)) := blk_below HBv1_2.out bw
    clear hb2 HBv1_2 bw
    clear cv1_0 cv1_1 cv1_2 cv1_3
    go_wp2_with fail
    refine (HSP.out _).mono ?_
    rintro e w4 ⟨rfl, bw⟩
    have hb4 : Below w.heap.size w (w4) := hb3.trans (bw.mono hb3.size)
    have HM4 : Hid ((w3).heap.size ≤ (w4).heap.size) := bw.size
    have HBv1_4 : Hid ((w4).heap[qv1]? = some (.cells #[.int .i64 k, .string a, .string b, .int .i64 t] 23)) := blk_below HBv1_3.out bw
    clear hb3 HBv1_3 bw
    have cv1_0 : (w4).cell? ⟨qv1, 0, none⟩ = some (.int .i64 k) := (cell_of HBv1_4.out 0).trans rfl
    have cv1_1 : (w4).cell? ⟨qv1, 1, none⟩ = some (.string a) := (cell_of HBv1_4.out 1).trans rfl
    have cv1_2 : (w4).cell? ⟨qv1, 2, none⟩ = some (.string b) := (cell_of HBv1_4.out 2).trans rfl
    have cv1_3 : (w4).cell? ⟨qv1, 3, none⟩ = some (.int .i64 t) := (cell_of HBv1_4.out 3).trans rfl
    go_wp2_with fail
    refine (toBan_any k a b t _).mono ?_
    rintro e w5 ⟨rfl, bw⟩
    have hb5 : Below w.heap.size w (w5) := hb4.trans (bw.mono hb4.size)
    have HM5 : Hid ((w4).heap.size ≤ (w5).heap.size) := bw.size
    have HBv1_5 : Hid ((w5).heap[qv1]? = some (.cells #[.int .i64 k, .string a, .string b, .int .i64 t] 23)) := blk_below HBv1_4.out bw
    clear hb4 HBv1_4 bw
    clear cv1_0 cv1_1 cv1_2 cv1_3
    go_wp2_with fail
    refine (HIM.out _).mono ?_
    rintro e w6 ⟨rfl, bw⟩
    have hb6 : Below w.heap.size w (w6) := hb5.trans (bw.mono hb5.size)
    have HM6 : Hid ((w5).heap.size ≤ (w6).heap.size) := bw.size
    have HBv1_6 : Hid ((w6).heap[qv1]? = some (.cells #[.int .i64 k, .string a, .string b, .int .i64 t] 23)) := blk_below HBv1_5.out bw
    clear hb5 HBv1_5 bw
    go_wp2_with fail
    go_ret
    exact ⟨rfl, hb6⟩


set_option maxRecDepth 100000 in
theorem lifted (os : Os) (started : os.Started) (H : Type) (enc : TypeId × Value → H) :
    ReturnsInHanded {} Try.checked os 3 .any (Rows.fnExactBanOkSpec.pre6 enc Try.prog Try.f3 Rows.fnExactBanOkRow.domain false) (Rows.fnExactBanOkSpec.post enc Try.prog Try.f3 false true false false) := by
  refine returnsInHanded_of_change (C := Try.checked) own started (by kernel_rfl) Try.func3
    (ChangeSpec.witness6 (enc := enc) (C := Try.checked) false ⟨#[], #[.agg #[.int .i64 0, .string ByteArray.empty, .string ByteArray.empty, .int .i64 0]], []⟩ 8 (by kernel_rfl) (by kernel_rfl) (by kernel_rfl) (by kernel_rfl)) ?_
  intro W base args ds gs before hval0 hW _ _
  have hval : ∀ (j : Nat) t v, Try.f3.params[j]? = some t → args[j]? = some v → Value.okWide Try.prog W .any base t v := hval0
  have hW' := hW
  obtain ⟨p, q, hA0, hV, rfl, hfz, hnd⟩ := hW
  have hA : DataW.TrodAll enc Try.prog W 0 (fun _ => true) true Try.f3.params.toList args.toList ds p := hA0
  rw [Try.params3] at hA hval
  obtain ⟨v0, vs0, d0, ds0, p0, q0, hargs, rfl, rfl, h0, r0⟩ := trodAll_cons hA
  obtain ⟨rfl, rfl, rfl⟩ := trodAll_nil r0
  obtain rfl : args = #[v0] := by cases args; simp_all
  obtain ⟨rfl, rfl⟩ := trodVars_none hV
  have k0 := h0
  have lt0 : ∀ x ∈ p0, x.block < W.heap.size := by obtain ⟨m, hm⟩ := k0; exact DataW.trod_lt m _ _ _ hm
  obtain ⟨bk0, ba0, bb0, bt0, rfl, ga0, gb0⟩ := openBan (hval 0 23 v0 rfl rfl) h0
  clear hA0 hval0
  refine (walk1 W bk0 ba0 bb0 bt0 ga0 gb0).mono fun e W' ⟨he, bel⟩ => ?_
  subst he
  exact ⟨_, rfl, _, _, _, [], _, [], hW', trodAll_mk1 (shut_bool Try.underlying4 _), (trodAll_cons_mk (Below.trod laidOut (by kernel_rfl) (of_decide_eq_true (by kernel_rfl)) k0 bel lt0) trodAll_mk0), rfl, bel.frame _, fun h => by cases h⟩

theorem over : Rows.fnExactBanOkRow.holds Try.pinned (OpenSpec.ofChange Rows.fnExactBanOkSpec) :=
  OpenClaim.holds_of_wide 3 Try.f3 rfl rfl rfl rfl rfl rfl rfl ⟨rfl, rfl, rfl, rfl, rfl⟩ rfl rfl rfl rfl rfl (by kernel_rfl) Try.func3 (by kernel_rfl)
    (of_decide_eq_true (by kernel_rfl)) (by unfold Func.isWrapper; first | (rw [if_pos (by decide +kernel)]; kernel_rfl) | (rw [if_neg (by decide +kernel)]; exact ⟨rfl, rfl⟩))
    (fun os started H enc _ => lifted os started H enc)
end fnExactBanOk

theorem fnExactBanOk_holds : Rows.FnExactBanOkSaid := fnExactBanOk.over
#print axioms fnExactBanOk_holds
end Go.Proofs.Ytlmenolcgaakeaa
