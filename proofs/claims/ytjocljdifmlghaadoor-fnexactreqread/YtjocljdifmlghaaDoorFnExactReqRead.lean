/- At every text ReqRead of the program answers as the specification's (the law answers true), its answer owns its memory, behind another call too, and the argument reads as it did: for every text, no condition. The three tables that strconv.Itoa's text names hold what the program's text lays (the card ties them). -/
import Derived.Test.YtjocljdifmlghaaDoorTab
import Derived.Test.YtjocljdifmlghaaDoorMsgMark
import Derived.Below
import Derived.ChangeOld
import Derived.ShutString
import Derived.Deep.RegionHeld3
import Derived.Deep.DrawnRows
namespace Go.Proofs.YtjocljdifmlghaaDoor
namespace fnExactReqRead
open Go.ChangeShapes Go.WideShapes Go.ChangeAt Go.RowKit
open Go.ChangeMaps (open_string shut_string)
attribute [local go_sem ↓] Go.wp_at_zero Go.wp_at_succ

theorem own : ownKnob Tryd.prog.godebug = none := by kernel_rfl
theorem laidOut : laidOutB Tryd.prog = true := by kernel_rfl

set_option maxHeartbeats 2000000 in
set_option maxRecDepth 100000 in
theorem walk1 (w : World) (s : ByteArray) (hs : s.size ≤ maxLen) (hT : TabOk w) (hL : LenOk w) :
    Calls Tryd.prog 5 #[.string s] w fun e w' => e = .returned (.bool true) ∧ Below w.heap.size w w' := by
  unfold maxLen at hs
  by_cases hbig : (1048576 : Int) < (s.size : Int)
  · clear hT hL
    go_enter Tryd.func5, Tryd.ntmps5
    go_wp2_with fail
    go_ret
    exact ⟨rfl, Below.refl _ _⟩
  · have hs1 : s.size ≤ 1048576 := by omega
    have HT : Hid (∀ W, Below w.heap.size w W → TabOk W) := fun W h => hT.below h
    have HL : Hid (∀ W, Below w.heap.size w W → LenOk W) := fun W h => hL.below h hL.lt
    clear hT hL
    go_enter Tryd.func5, Tryd.ntmps5
    go_wp2_with fail
    refine (specReqRead_any s _ hs1).mono ?_
    intro e w1 h1
    obtain ⟨m, p, fs, b, v0, ok, rfl, own0, b1, G0, hn8⟩ := ReqIs.form h1
    clear h1
    obtain ⟨n, hn⟩ : ∃ x, x = fs.length := ⟨_, rfl⟩
    rw [← hn] at own0 hn8
    have HN : Hid (n = fs.length) := hn
    clear hn
    obtain ⟨o0, c0x, rfl⟩ := slice_of_owns own0
    have hb1 : Below w.heap.size w (w1.alloc (.cells #[.int .i64 m, .string p, .slice o0 n c0x, .string b] 29)) := b1.alloc b1.size _
    have L1 : Lies w1.heap.size #[.int .i64 m, .string p, .slice o0 n c0x, .string b] 29 w.heap.size w1.heap.size (.slice o0 n c0x) n fs (w1.alloc (.cells #[.int .i64 m, .string p, .slice o0 n c0x, .string b] 29)) :=
      ⟨heap_alloc_new w1 _, own0.alloc _, fun j hj => (owns_block_lt own0 hj).2⟩
    clear own0 b1
    go_wp2_with fail
    refine (implReqRead_any s _ hs1 (HT.out _ hb1) (HL.out _ hb1)).mono ?_
    intro e w2 h2
    obtain ⟨m', p', fs', b', v1, ok', rfl, own1, b2, G1, _⟩ := ReqIs.form h2
    obtain ⟨e1, e2, e3, e4, e5⟩ := G0.out.uniq G1.out
    subst e1 e2 e3 e4 e5
    rw [← HN.out] at own1
    obtain ⟨o1, c1x, rfl⟩ := slice_of_owns own1
    obtain ⟨q0, hq0⟩ : ∃ x, x = w1.heap.size := ⟨_, rfl⟩
    rw [← hq0] at L1 ⊢
    obtain ⟨base, hbase⟩ : ∃ x, x = (w1.alloc (.cells #[.int .i64 m, .string p, .slice o0 n c0x, .string b] 29)).heap.size := ⟨_, rfl⟩
    rw [← hbase] at own1
    have hbb : w.heap.size ≤ base := by rw [hbase]; exact hb1.size
    have hqb : q0 ≤ base := by rw [hbase]; simp; omega
    have hb2a : Below w.heap.size w w2 := hb1.trans (b2.mono hb1.size)
    have hb2 : Below w.heap.size w (w2.alloc (.cells #[.int .i64 m, .string p, .slice o1 n c1x, .string b] 29)) := hb2a.alloc hb2a.size _
    have bb2 : Below w2.heap.size w2 (w2.alloc (.cells #[.int .i64 m, .string p, .slice o1 n c1x, .string b] 29)) := (Below.refl _ _).alloc (Nat.le_refl _) _
    have L2 := (L1.below b2).below bb2
    have M2 : Lies w2.heap.size #[.int .i64 m, .string p, .slice o1 n c1x, .string b] 29 base w2.heap.size (.slice o1 n c1x) n fs (w2.alloc (.cells #[.int .i64 m, .string p, .slice o1 n c1x, .string b] 29)) :=
      ⟨heap_alloc_new w2 _, own1.alloc _, fun j hj => (owns_block_lt own1 hj).2⟩
    have hs2 : base ≤ w2.heap.size := by rw [hbase]; exact b2.size
    obtain ⟨⟨c0, c1, c2, c3⟩, _⟩ := four_facts L2.cell
    obtain ⟨⟨d0, d1, d2, d3⟩, _⟩ := four_facts M2.cell
    have FV0 := FieldsV.of_owns L2.own
    have FV1 := FieldsV.of_owns M2.own
    have HL2 : Hid (Lies q0 #[.int .i64 m, .string p, .slice o0 n c0x, .string b] 29 w.heap.size q0 (.slice o0 n c0x) n fs (w2.alloc (.cells #[.int .i64 m, .string p, .slice o1 n c1x, .string b] 29))) := L2
    have HM2 : Hid (Lies w2.heap.size #[.int .i64 m, .string p, .slice o1 n c1x, .string b] 29 base w2.heap.size (.slice o1 n c1x) n fs (w2.alloc (.cells #[.int .i64 m, .string p, .slice o1 n c1x, .string b] 29))) := M2
    have hs3 : base ≤ (w2.alloc (.cells #[.int .i64 m, .string p, .slice o1 n c1x, .string b] 29)).heap.size := by simp; omega
    clear L1 L2 M2 own1 b2 h2 G1 hb1 hb2a bb2 hq0 hbase
    go_wp2_with fail
    refine (eqReq_any m p _ _ b n _ _ fs _ FV1 FV0 (by omega)).mono ?_
    rintro e w3 ⟨rfl, b3⟩
    obtain ⟨q1, hq1⟩ : ∃ x, x = w2.heap.size := ⟨_, rfl⟩
    rw [← hq1] at HM2 ⊢
    have hb3 := hb2.trans (b3.mono hb2.size)
    have HL3 : Hid (Lies q0 #[.int .i64 m, .string p, .slice o0 n c0x, .string b] 29 w.heap.size q0 (.slice o0 n c0x) n fs w3) := HL2.out.below b3
    have HM3 : Hid (Lies q1 #[.int .i64 m, .string p, .slice o1 n c1x, .string b] 29 base q1 (.slice o1 n c1x) n fs w3) := HM2.out.below b3
    have hs4 : base ≤ w3.heap.size := Nat.le_trans hs3 b3.size
    have hok : (ok != ok) = false := by simp
    clear c0 c1 c2 c3 d0 d1 d2 d3 FV0 FV1 b3 HL2 HM2 hs3 hs2 hb2 hq1
    obtain ⟨⟨d0, d1, d2, d3⟩, _⟩ := four_facts HM3.out.cell
    go_wp2_with fail
    refine (markReqFar_any m p _ b n base fs _ HM3.out.own hs4 (by omega)).mono ?_
    rintro e w4 ⟨rfl, own4, b4, far4⟩
    have hb4 : Below w.heap.size w w4 := hb3.trans (b4.mono hbb)
    have HL4 : Hid (Lies q0 #[.int .i64 m, .string p, .slice o0 n c0x, .string b] 29 w.heap.size q0 (.slice o0 n c0x) n fs w4) := HL3.out.far (by decide) HM3.out.own hqb far4
    have HM4 : Hid (Lies q1 #[.int .i64 m, .string p, .slice o1 n c1x, .string b] 29 base q1 (.slice o1 n c1x) n (mkF fs n) w4) := ⟨by rw [far4 q1 (Array.getElem?_eq_some_iff.1 HM3.out.cell).1 (own_not HM3.out.own (by decide) HM3.out.cell)]; exact HM3.out.cell, own4, HM3.out.hi⟩
    have HK : Hid (∀ j, j < n → nameAt (mkF fs n) j = markOf (2 * j + 1) ∧ valAt (mkF fs n) j = markOf (2 * j + 2)) := fun j hj => mkF_at fs j n (by rw [HN.out]; exact Nat.le_refl _) hj
    have hk1 : ¬ (2 * (n : Int) + 1 < 0) := by omega
    have hk2 : ((2 * (n : Int) + 1) != (2 * (n : Int) + 1)) = false := by simp
    clear d0 d1 d2 d3 own4 b4 far4 HL3 HM3 hb3 hs4
    obtain ⟨⟨d0, d1, d2, d3⟩, _⟩ := four_facts HM4.out.cell
    go_wp2_with fail
    refine (heldReq_any m p _ b n base (mkF fs n) _ HM4.out.own (by omega) HK.out).mono ?_
    rintro e w5 ⟨rfl, b5⟩
    have hb5 := hb4.trans (b5.mono hb4.size)
    have HL5 : Hid (Lies q0 #[.int .i64 m, .string p, .slice o0 n c0x, .string b] 29 w.heap.size q0 (.slice o0 n c0x) n fs w5) := HL4.out.below b5
    have HM5 : Hid (Lies q1 #[.int .i64 m, .string p, .slice o1 n c1x, .string b] 29 base q1 (.slice o1 n c1x) n (mkF fs n) w5) := HM4.out.below b5
    clear d0 d1 d2 d3 b5 HL4 HM4 hb4
    go_wp2_with fail
    refine (implReqRead_any s _ hs1 (HT.out _ hb5) (HL.out _ hb5)).mono ?_
    intro e w6 h6
    obtain ⟨m', p', fs', b', v2, ok', rfl, own6, b6, G6, _⟩ := ReqIs.form h6
    obtain ⟨e1, e2, e3, e4, e5⟩ := G0.out.uniq G6.out
    subst e1 e2 e3 e4 e5
    rw [← HN.out] at own6
    obtain ⟨o2, c2x, rfl⟩ := slice_of_owns own6
    obtain ⟨base2, hbase2⟩ : ∃ x, x = w5.heap.size := ⟨_, rfl⟩
    rw [← hbase2] at own6
    have hb6a := hb5.trans (b6.mono hb5.size)
    have hb6 : Below w.heap.size w (w6.alloc (.cells #[.int .i64 m, .string p, .slice o2 n c2x, .string b] 29)) := hb6a.alloc hb6a.size _
    have bb6 : Below w6.heap.size w6 (w6.alloc (.cells #[.int .i64 m, .string p, .slice o2 n c2x, .string b] 29)) := (Below.refl _ _).alloc (Nat.le_refl _) _
    have L6 := (HL5.out.below b6).below bb6
    have M6 := (HM5.out.below b6).below bb6
    have N6 : Lies w6.heap.size #[.int .i64 m, .string p, .slice o2 n c2x, .string b] 29 base2 w6.heap.size (.slice o2 n c2x) n fs (w6.alloc (.cells #[.int .i64 m, .string p, .slice o2 n c2x, .string b] 29)) :=
      ⟨heap_alloc_new w6 _, own6.alloc _, fun j hj => (owns_block_lt own6 hj).2⟩
    obtain ⟨⟨c0, c1, c2, c3⟩, _⟩ := four_facts L6.cell
    obtain ⟨⟨d0, d1, d2, d3⟩, _⟩ := four_facts N6.cell
    have FV0 := FieldsV.of_owns L6.own
    have FV2 := FieldsV.of_owns N6.own
    have HM6 : Hid (Lies q1 #[.int .i64 m, .string p, .slice o1 n c1x, .string b] 29 base q1 (.slice o1 n c1x) n (mkF fs n) (w6.alloc (.cells #[.int .i64 m, .string p, .slice o2 n c2x, .string b] 29))) := M6
    clear L6 M6 N6 own6 b6 h6 G6 hb5 hb6a bb6 HL5 HM5 hbase2
    go_wp2_with fail
    refine (eqReq_any m p _ _ b n _ _ fs _ FV2 FV0 (by omega)).mono ?_
    rintro e w7 ⟨rfl, b7⟩
    have hb7 := hb6.trans (b7.mono hb6.size)
    have HM7 : Hid (Lies q1 #[.int .i64 m, .string p, .slice o1 n c1x, .string b] 29 base q1 (.slice o1 n c1x) n (mkF fs n) w7) := HM6.out.below b7
    clear c0 c1 c2 c3 d0 d1 d2 d3 FV0 FV2 b7 HM6 hb6
    obtain ⟨⟨d0, d1, d2, d3⟩, _⟩ := four_facts HM7.out.cell
    go_wp2_with fail
    refine (heldReq_any m p _ b n base (mkF fs n) _ HM7.out.own (by omega) HK.out).mono ?_
    rintro e w8 ⟨rfl, b8⟩
    have hb8 := hb7.trans (b8.mono hb7.size)
    clear d0 d1 d2 d3 b8 HM7 hb7
    go_wp2_with fail
    go_ret
    exact ⟨rfl, hb8⟩

set_option maxRecDepth 100000 in
theorem contract (H : Type) (enc : TypeId × Value → H) (W : World) (base : Nat) (args : Array Value) (ds gs : List (DataW H)) (before : List MemPlace)
    (hval : ∀ (j : Nat) t v, Tryd.f5.params[j]? = some t → args[j]? = some v → Value.okWide Tryd.prog W .any base t v)
    (hW : DataW.Whole enc Tryd.prog Tryd.f5.params.toList Rows.fnExactReqReadSpec.vars false W args.toList ds gs before) (hL : laidMetH Tryd.prog Rows.fnExactReqReadRow.laid W) (hSh : W.ShapedOpen Tryd.prog) :
    Calls Tryd.prog 5 args W fun e W' => ∃ v, e = .returned v ∧ Rows.fnExactReqReadSpec.post enc Tryd.prog Tryd.f5 false true false false W args v W' := by
  have hT : TabOk W := table hL
  have hW' := hW
  obtain ⟨p, q, hA0, hV, rfl, hfz, hnd⟩ := hW
  have hA : DataW.TrodAll enc Tryd.prog W 0 (fun _ => true) true Tryd.f5.params.toList args.toList ds p := hA0
  rw [Tryd.params5] at hA hval
  obtain ⟨v0, vs0, d0, ds0, p0, q0, hargs, rfl, rfl, h0, r0⟩ := trodAll_cons hA
  obtain ⟨rfl, rfl, rfl⟩ := trodAll_nil r0
  obtain rfl : args = #[v0] := by cases args; simp_all
  obtain ⟨rfl, rfl⟩ := trodVars_none hV
  obtain ⟨x, rfl, rfl, rfl, wx⟩ := open_string Tryd.underlying9 (hval 0 9 v0 rfl rfl) h0
  clear hA0
  simp only [List.append_nil] at hW'
  refine (walk1 W x wx hT (Tryd.laysM145.s1_3 W hSh)).mono fun e W' ⟨he, bel⟩ => ?_
  subst he
  exact ⟨_, rfl, _, _, _, [], [], [], hW', trodAll_mk1 (shut_bool Tryd.underlying4 _), (trodAll_cons_mk (shut_string Tryd.underlying9 wx) trodAll_mk0), rfl, bel.frame _, fun h => by cases h⟩

theorem laid_met (os : Os) : laidMet Tryd.prog Rows.fnExactReqReadRow.laid ((withTables (World.holding Tryd.prog os ⟨#[], #[], []⟩)).forCall (fun _ _ => 0) ⟨#[], #[.string ByteArray.empty], []⟩).memory :=
  laidMet_of_run' 80 (by kernel_rfl) (by kernel_rfl)
theorem reads (os : Os) {H : Type} (enc : TypeId × Value → H) : ∃ places, DataW.whole enc Tryd.prog ((withTables (World.holding Tryd.prog os ⟨#[], #[], []⟩)).forCall (fun _ _ => 0) ⟨#[], #[.string ByteArray.empty], []⟩).memory Tryd.f5.params.toList Rows.fnExactReqReadSpec.vars false #[(.string ByteArray.empty : Value)].toList 8 = some ([.lit (.string [])], [], places) :=
  ⟨[], by kernel_rfl⟩

set_option maxRecDepth 100000 in
theorem lifted (os : Os) (started : os.Started) (H : Type) (enc : TypeId × Value → H) (F : Stop.Interp) :
    ReturnsInHanded {} Tryd.checked os 5 .any ((OpenSpec.ofChange Rows.fnExactReqReadSpec).preRow enc Tryd.prog Tryd.f5 Rows.fnExactReqReadRow.domain false Rows.fnExactReqReadRow.laid) (((OpenSpec.ofChange Rows.fnExactReqReadSpec).at F).post enc Tryd.prog Tryd.f5 false true false false) := by
  obtain ⟨places, hx⟩ := reads os enc
  refine returnsInHanded_of_row (C := Tryd.checked) (s := OpenSpec.ofChange Rows.fnExactReqReadSpec) own started (by kernel_rfl) Tryd.func5
    (witness_row_at (enc := enc) (C := Tryd.checked) false (withTables (World.holding Tryd.prog os ⟨#[], #[], []⟩)) #[.string ByteArray.empty] rfl (by kernel_rfl) (by kernel_rfl) (by kernel_rfl)
      (OpenSpec.preRow_of_cond 8 hx (by kernel_rfl) (fun k hk => by cases hk) (by kernel_rfl) (laid_met os))) ?_
  intro W base args ds gs before hval hW _ _ _ hL hSh _
  exact contract H enc W base args ds gs before hval hW hL hSh

theorem said : Rows.FnExactReqReadSaid :=
  OpenClaim.holds_of_cond 5 Tryd.f5 rfl rfl rfl rfl rfl rfl rfl ⟨rfl, rfl, rfl, rfl, rfl⟩ rfl rfl rfl rfl rfl (by kernel_rfl) Tryd.func5 (by kernel_rfl)
    (of_decide_eq_true (by kernel_rfl)) (by unfold Func.isWrapper; first | (rw [if_pos (by decide +kernel)]; kernel_rfl) | (rw [if_neg (by decide +kernel)]; exact ⟨rfl, rfl⟩))
    (fun os started H enc _ F => by rw [OpenClaim.pre_eq_preRow]; exact lifted os started H enc F)

theorem plain (f : FuncId) (fn : Func) (hf : Tryd.pinned.checked.prog.funcNamed "loop.example/g00239/laws.FnExactReqRead" = some f) (hfn : Tryd.pinned.checked.prog.funcs[f]? = some fn) :
    false = Tryd.pinned.checked.prog.looks [] ∧ ∀ (j : Nat) t, fn.params[j]? = some t → Tryd.pinned.checked.prog.wantsStandIn t = false := by
  obtain rfl : f = 5 := Option.some.inj ((show Tryd.prog.funcNamed "loop.example/g00239/laws.FnExactReqRead" = some 5 by kernel_rfl).symm.trans hf) |>.symm
  obtain rfl : fn = Tryd.f5 := (Option.some.inj (Tryd.func5.symm.trans hfn)).symm
  refine ⟨by kernel_rfl, fun j t ht => ?_⟩
  rw [Tryd.params5] at ht
  obtain rfl : t = 9 := by simpa using Array.mem_of_getElem? ht
  exact (show Tryd.prog.wantsStandIn 9 = false by kernel_rfl)

theorem card : Rows.FnExactReqReadCardSaid :=
  Claim7.holds_tied_plain_at .later [] _ _ _ _ said (fun _ h => by cases h) (by kernel_rfl) (fun _ h => by cases h) fnExactReqRead_row_tie rfl ⟨rfl, rfl⟩ (by kernel_rfl) rfl plain (by kernel_rfl)
end fnExactReqRead

theorem fnExactReqRead_holds : Rows.FnExactReqReadCardSaid := fnExactReqRead.card
#print axioms fnExactReqRead_holds
end Go.Proofs.YtjocljdifmlghaaDoor
