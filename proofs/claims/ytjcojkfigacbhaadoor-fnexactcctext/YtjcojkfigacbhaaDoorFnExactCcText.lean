/- CcText: at every argument the program answers as the specification; nothing that was there is turned. (The condition: the table of powers of ten that strconv lays, as a new process has it.) -/
import Derived.Test.YtjcojkfigacbhaaDoorCtlTextI
import Derived.Test.YtjcojkfigacbhaaDoorCtlLaw
import Derived.Test.YtjcojkfigacbhaaDoorTab
import Derived.Test.YtjcojkfigacbhaaDoorTie
import Derived.Test.YtjcojkfigacbhaaDoorCards
import Derived.Below
import Derived.ChangeOld
import Derived.ShutString
import Derived.Deep.RegionHeld3
import Derived.Deep.DrawnRows
namespace Go.Proofs.YtjcojkfigacbhaaDoor
namespace fnExactCcText
open Go.ChangeShapes Go.WideShapes Go.ChangeAt Go.RowKit
open Go.ChangeMaps (open_string shut_string)
attribute [local go_sem ↓] Go.wp_at_zero Go.wp_at_succ

theorem own : ownKnob Tryd.prog.godebug = none := by kernel_rfl
theorem laidOut : laidOutB Tryd.prog = true := by kernel_rfl

set_option maxHeartbeats 4000000 in
set_option maxRecDepth 100000 in
theorem walk1 (w : World) (c : CcD) (h0 : -9223372036854775808 ≤ c.age) (h1 : c.age ≤ 9223372036854775807) (hT : TabOk w) :
    Calls Tryd.prog 3 #[c.v] w fun e w' => e = .returned (.bool true) ∧ Below w.heap.size w w' := by
  obtain ⟨b0, b1, b2, b3, b4, age⟩ := c
  dsimp only at h0 h1
  have HT : Hid (∀ W, Below w.heap.size w W → TabOk W) := fun W h => hT.below h
  clear hT
  obtain ⟨r, hr⟩ : ∃ r, r = w.heap.size := ⟨_, rfl⟩
  have HC : Hid (∀ W, Below (w.alloc (Obj.cells #[.bool b0, .bool b1, .bool b2, .bool b3, .bool b4, .int .i64 age] 23)).heap.size (w.alloc (Obj.cells #[.bool b0, .bool b1, .bool b2, .bool b3, .bool b4, .int .i64 age] 23)) W → (W.cell? ⟨r, 0, none⟩ = some (.bool b0) ∧ W.cell? ⟨r, 1, none⟩ = some (.bool b1) ∧ W.cell? ⟨r, 2, none⟩ = some (.bool b2) ∧ W.cell? ⟨r, 3, none⟩ = some (.bool b3) ∧ W.cell? ⟨r, 4, none⟩ = some (.bool b4) ∧ W.cell? ⟨r, 5, none⟩ = some (.int .i64 age)) ∧ Below w.heap.size w W) := fun W h => by
    have hh := kept_new h
    rw [← hr] at hh
    exact ⟨⟨by simp [World.cell?, hh], by simp [World.cell?, hh], by simp [World.cell?, hh], by simp [World.cell?, hh], by simp [World.cell?, hh], by simp [World.cell?, hh]⟩, below_new h⟩
  have HB0 : Hid (Below (w.alloc (Obj.cells #[.bool b0, .bool b1, .bool b2, .bool b3, .bool b4, .int .i64 age] 23)).heap.size (w.alloc (Obj.cells #[.bool b0, .bool b1, .bool b2, .bool b3, .bool b4, .int .i64 age] 23)) (w.alloc (Obj.cells #[.bool b0, .bool b1, .bool b2, .bool b3, .bool b4, .int .i64 age] 23))) := Below.refl _ _
  show Calls _ _ #[.agg #[.bool b0, .bool b1, .bool b2, .bool b3, .bool b4, .int .i64 age]] _ _
  have HTO := toCc_any (⟨b0, b1, b2, b3, b4, age⟩ : CcD)
  have HCS := specCcText_any (⟨b0, b1, b2, b3, b4, age⟩ : CcD)
  have HCI := implCcText_any (⟨b0, b1, b2, b3, b4, age⟩ : CcD)
  dsimp only [CcD.v] at HTO HCS HCI
  obtain ⟨t, ht⟩ : ∃ t, t = ccText (⟨b0, b1, b2, b3, b4, age⟩ : CcD) := ⟨_, rfl⟩
  rw [← ht] at HCS HCI
  clear ht
  have HX : Hid _ := And.intro HTO (And.intro HCS HCI)
  clear HTO HCS HCI
  go_enter Tryd.func3, Tryd.ntmps3
  go_wp2_with fail
  refine (HX.out.1 _).mono ?_
  rintro e w1 ⟨rfl, y1⟩
  rw [← hr]
  have HB1 : Hid (Below (w.alloc (Obj.cells #[.bool b0, .bool b1, .bool b2, .bool b3, .bool b4, .int .i64 age] 23)).heap.size (w.alloc (Obj.cells #[.bool b0, .bool b1, .bool b2, .bool b3, .bool b4, .int .i64 age] 23)) w1) := y1
  obtain ⟨⟨c0, c1, c2, c3, c4, c5⟩, bw1⟩ := HC.out w1 y1
  clear y1 hr
  go_wp2_with fail
  refine (HX.out.2.1 _ h0 h1).mono ?_
  rintro e w2 ⟨rfl, y2⟩
  have HB2 : Hid (Below (w.alloc (Obj.cells #[.bool b0, .bool b1, .bool b2, .bool b3, .bool b4, .int .i64 age] 23)).heap.size (w.alloc (Obj.cells #[.bool b0, .bool b1, .bool b2, .bool b3, .bool b4, .int .i64 age] 23)) w2) := HB1.out.trans (y2.mono HB1.out.size)
  clear y2 c0 c1 c2 c3 c4 c5 bw1
  obtain ⟨⟨c0, c1, c2, c3, c4, c5⟩, bw2⟩ := HC.out w2 HB2.out
  go_wp2_with fail
  refine (HX.out.1 _).mono ?_
  rintro e w3 ⟨rfl, y3⟩
  have HB3 : Hid (Below (w.alloc (Obj.cells #[.bool b0, .bool b1, .bool b2, .bool b3, .bool b4, .int .i64 age] 23)).heap.size (w.alloc (Obj.cells #[.bool b0, .bool b1, .bool b2, .bool b3, .bool b4, .int .i64 age] 23)) w3) := HB2.out.trans (y3.mono HB2.out.size)
  clear y3 c0 c1 c2 c3 c4 c5 bw2
  obtain ⟨_, bw3⟩ := HC.out w3 HB3.out
  go_wp2_with fail
  refine (HX.out.2.2 _ h0 h1 (HT.out _ bw3)).mono ?_
  rintro e w4 ⟨rfl, y4⟩
  have HB4 : Hid (Below (w.alloc (Obj.cells #[.bool b0, .bool b1, .bool b2, .bool b3, .bool b4, .int .i64 age] 23)).heap.size (w.alloc (Obj.cells #[.bool b0, .bool b1, .bool b2, .bool b3, .bool b4, .int .i64 age] 23)) w4) := HB3.out.trans (y4.mono HB3.out.size)
  clear y4 bw3
  obtain ⟨_, bw4⟩ := HC.out w4 HB4.out
  go_wp2_with fail
  go_ret
  exact ⟨rfl, bw4⟩

set_option maxRecDepth 100000 in
theorem contract (H : Type) (enc : TypeId × Value → H) (W : World) (base : Nat) (args : Array Value) (ds gs : List (DataW H)) (before : List MemPlace)
    (hval : ∀ (j : Nat) t v, Tryd.f3.params[j]? = some t → args[j]? = some v → Value.okWide Tryd.prog W .any base t v)
    (hW : DataW.Whole enc Tryd.prog Tryd.f3.params.toList Rows.fnExactCcTextSpec.vars false W args.toList ds gs before) (hL : laidMetH Tryd.prog Rows.fnExactCcTextRow.laid W) (_ : W.ShapedOpen Tryd.prog) :
    Calls Tryd.prog 3 args W fun e W' => ∃ v, e = .returned v ∧ Rows.fnExactCcTextSpec.post enc Tryd.prog Tryd.f3 false true false false W args v W' := by
  have hT : TabOk W := table hL
  have hW' := hW
  obtain ⟨p, q, hA0, hV, rfl, hfz, hnd⟩ := hW
  have hA : DataW.TrodAll enc Tryd.prog W 0 (fun _ => true) true Tryd.f3.params.toList args.toList ds p := hA0
  rw [Tryd.params3] at hA hval
  obtain ⟨v0, vs0, d0, ds0, p0, q0, hargs, rfl, rfl, h0, r0⟩ := trodAll_cons hA
  obtain ⟨rfl, rfl, rfl⟩ := trodAll_nil r0
  obtain rfl : args = #[v0] := by cases args; simp_all
  obtain ⟨rfl, rfl⟩ := trodVars_none hV
  have k0 := h0
  have lt0 : ∀ x ∈ p0, x.block < W.heap.size := by obtain ⟨m, hm⟩ := k0; exact DataW.trod_lt m _ _ _ hm
  obtain ⟨a0, rfl, wa0, wb0⟩ := openCc (hval 0 23 v0 rfl rfl) h0
  clear hA0
  refine (walk1 W a0 wa0 wb0 hT).mono fun e W' ⟨he, bel⟩ => ?_
  subst he
  exact ⟨_, rfl, _, _, _, [], _, [], hW', trodAll_mk1 (shut_bool Tryd.underlying4 _), (trodAll_cons_mk (Below.trod laidOut (by kernel_rfl) (of_decide_eq_true (by kernel_rfl)) k0 bel lt0) trodAll_mk0), rfl, bel.frame _, fun h => by cases h⟩

theorem laid_met (os : Os) : laidMet Tryd.prog Rows.fnExactCcTextRow.laid ((withTables (World.holding Tryd.prog os ⟨#[], #[], []⟩)).forCall (fun _ _ => 0) ⟨#[], #[.agg #[.bool false, .bool false, .bool false, .bool false, .bool false, .int .i64 0]], []⟩).memory :=
  laidMet_of_run' 80 (by kernel_rfl) (by kernel_rfl)
theorem reads (os : Os) {H : Type} (enc : TypeId × Value → H) : ∃ places, DataW.whole enc Tryd.prog ((withTables (World.holding Tryd.prog os ⟨#[], #[], []⟩)).forCall (fun _ _ => 0) ⟨#[], #[.agg #[.bool false, .bool false, .bool false, .bool false, .bool false, .int .i64 0]], []⟩).memory Tryd.f3.params.toList Rows.fnExactCcTextSpec.vars false #[(.agg #[.bool false, .bool false, .bool false, .bool false, .bool false, .int .i64 0] : Value)].toList 8 = some ([.agg [.lit (.bool false), .lit (.bool false), .lit (.bool false), .lit (.bool false), .lit (.bool false), .lit (.int .i64 0)]], [], places) :=
  ⟨[], by kernel_rfl⟩

set_option maxRecDepth 100000 in
theorem lifted (os : Os) (started : os.Started) (H : Type) (enc : TypeId × Value → H) (F : Stop.Interp) :
    ReturnsInHanded {} Tryd.checked os 3 .any ((OpenSpec.ofChange Rows.fnExactCcTextSpec).preRow enc Tryd.prog Tryd.f3 Rows.fnExactCcTextRow.domain false Rows.fnExactCcTextRow.laid) (((OpenSpec.ofChange Rows.fnExactCcTextSpec).at F).post enc Tryd.prog Tryd.f3 false true false false) := by
  obtain ⟨places, hx⟩ := reads os enc
  refine returnsInHanded_of_row (C := Tryd.checked) (s := OpenSpec.ofChange Rows.fnExactCcTextSpec) own started (by kernel_rfl) Tryd.func3
    (witness_row_at (enc := enc) (C := Tryd.checked) false (withTables (World.holding Tryd.prog os ⟨#[], #[], []⟩)) #[.agg #[.bool false, .bool false, .bool false, .bool false, .bool false, .int .i64 0]] rfl (by kernel_rfl) (by kernel_rfl) (by kernel_rfl)
      (OpenSpec.preRow_of_cond 8 hx (by kernel_rfl) (fun k hk => by cases hk) (by kernel_rfl) (laid_met os))) ?_
  intro W base args ds gs before hval hW _ _ _ hL hSh _
  exact contract H enc W base args ds gs before hval hW hL hSh

theorem said : Rows.FnExactCcTextSaid :=
  OpenClaim.holds_of_cond 3 Tryd.f3 rfl rfl rfl rfl rfl rfl rfl ⟨rfl, rfl, rfl, rfl, rfl⟩ rfl rfl rfl rfl rfl (by kernel_rfl) Tryd.func3 (by kernel_rfl)
    (of_decide_eq_true (by kernel_rfl)) (by unfold Func.isWrapper; first | (rw [if_pos (by decide +kernel)]; kernel_rfl) | (rw [if_neg (by decide +kernel)]; exact ⟨rfl, rfl⟩))
    (fun os started H enc _ F => by rw [OpenClaim.pre_eq_preRow]; exact lifted os started H enc F)

theorem plain (f : FuncId) (fn : Func) (hf : Tryd.pinned.checked.prog.funcNamed "loop.example/g00239/laws.FnExactCcText" = some f) (hfn : Tryd.pinned.checked.prog.funcs[f]? = some fn) :
    false = Tryd.pinned.checked.prog.looks [] ∧ ∀ (j : Nat) t, fn.params[j]? = some t → Tryd.pinned.checked.prog.wantsStandIn t = false := by
  obtain rfl : f = 3 := Option.some.inj ((show Tryd.prog.funcNamed "loop.example/g00239/laws.FnExactCcText" = some 3 by kernel_rfl).symm.trans hf) |>.symm
  obtain rfl : fn = Tryd.f3 := (Option.some.inj (Tryd.func3.symm.trans hfn)).symm
  refine ⟨by kernel_rfl, fun j t ht => ?_⟩
  rw [Tryd.params3] at ht
  obtain rfl : t = 23 := by simpa using Array.mem_of_getElem? ht
  exact (show Tryd.prog.wantsStandIn 23 = false by kernel_rfl)

theorem card : Rows.FnExactCcTextCardSaid :=
  Claim7.holds_tied_plain_at .later [] _ _ _ _ said (fun _ h => by cases h) (by kernel_rfl) (fun _ h => by cases h) fnExactCcText_row_tie rfl ⟨rfl, rfl⟩ (by kernel_rfl) rfl plain (by kernel_rfl)
end fnExactCcText

theorem fnExactCcText_holds : Rows.FnExactCcTextCardSaid := fnExactCcText.card
#print axioms fnExactCcText_holds
end Go.Proofs.YtjcojkfigacbhaaDoor
