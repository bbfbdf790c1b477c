/- RecRead: the program answers as the specification (the law answers true): no condition beside the tables and the type of errors. -/
import Derived.Test.YtalicfiadbmdeaaDoorFnExactRecReadA
import Derived.Below
import Derived.ChangeOld
import Derived.ShutString
import Derived.Deep.RegionHeld3
import Derived.Deep.DrawnRows
import Derived.Deep.CutRange
import Derived.Deep.DeepCutAuto
namespace Go.Proofs.YtalicfiadbmdeaaDoor
namespace fnExactRecRead
open Go.ChangeShapes Go.WideShapes Go.ChangeAt Go.RowKit
open Go.ChangeMaps (open_string shut_string)
attribute [local go_sem ↓] Go.wp_at_zero Go.wp_at_succ

theorem own : ownKnob Tryd.prog.godebug = none := by kernel_rfl
theorem laidOut : laidOutB Tryd.prog = true := by kernel_rfl
theorem rec_told (a : ByteArray) : ∃ (q : Int) (b : ByteArray) (t : Bool), Hid (∀ W e W', RecIs a W e W' → Below W.heap.size W W' ∧ e = .returned (.tuple #[.int .i64 q, .string b, .bool t])) := by
  by_cases h : ∃ q b, IsRec a q b
  · obtain ⟨q, b, hr⟩ := h
    refine ⟨q, b, true, fun W e W' h2 => ⟨h2.1, ?_⟩⟩
    rcases h2.2 with ⟨q', b', hr', rfl⟩ | ⟨hno, _⟩
    · obtain ⟨rfl, rfl⟩ := hr.uniq hr'
      rfl
    · exact absurd hr (hno q b)
  · refine ⟨0, ⟨#[]⟩, false, fun W e W' h2 => ⟨h2.1, ?_⟩⟩
    rcases h2.2 with ⟨q', b', hr', _⟩ | ⟨_, rfl⟩
    · exact absurd ⟨q', b', hr'⟩ h
    · rfl

open Go.Lib hiding intOf
set_option maxHeartbeats 4000000 in
theorem walk1 (w : World) (a : ByteArray) (_ha : a.size ≤ maxLen) (hT : TabOk w) (hLN : LenOk w) (hH : HandOk w) :
    Calls Tryd.prog 5 #[.string a] w fun e w' => e = .returned (.bool true) ∧ Below w.heap.size w w' := by
  by_cases hbig : (1048576 : Int) < (a.size : Int)
  · go_enter Tryd.func5, Tryd.ntmps5
    go_wp2_with fail
    go_ret
    exact ⟨rfl, Below.refl _ _⟩
  · have hsz : a.size ≤ 1048576 := by omega
    obtain ⟨q, b, t, HQ⟩ : ∃ (q : Int) (b : ByteArray) (t : Bool), Hid (∀ W e W', RecIs a W e W' → Below W.heap.size W W' ∧ e = .returned (.tuple #[.int .i64 q, .string b, .bool t])) := rec_told a
    go_enter Tryd.func5, Tryd.ntmps5
    go_wp2_with fail
    refine (specRecRead_any a _ (by omega)).mono ?_
    intro e w1 h1
    obtain ⟨b1, rfl⟩ := HQ.out _ _ _ h1
    have HB1 : Hid (Below w.heap.size w w1) := b1
    clear b1 h1
    go_wp2_with fail
    refine (implRecRead_any a _ (by omega) (hT.below HB1.out) (hLN.below HB1.out hLN.lt) (hH.below HB1.out)).mono ?_
    intro e w2 h2
    obtain ⟨b2, rfl⟩ := HQ.out _ _ _ h2
    have HB2 : Hid (Below w.heap.size w w2) := HB1.out.trans (b2.mono HB1.out.size)
    clear b2 h2
    go_wp2_with fail
    go_ret
    exact ⟨rfl, HB2.out⟩

set_option maxRecDepth 100000 in
theorem contract (H : Type) (enc : TypeId × Value → H) (W : World) (base : Nat) (args : Array Value) (ds gs : List (DataW H)) (before : List MemPlace)
    (hval : ∀ (j : Nat) t v, Tryd.f5.params[j]? = some t → args[j]? = some v → Value.okWide Tryd.prog W .any base t v)
    (hW : DataW.Whole enc Tryd.prog Tryd.f5.params.toList Rows.fnExactRecReadSpec.vars false W args.toList ds gs before) (hL : laidMetH Tryd.prog Rows.fnExactRecReadRow.laid W) (hSh : W.ShapedOpen Tryd.prog) :
    Calls Tryd.prog 5 args W fun e W' => ∃ v, e = .returned v ∧ Rows.fnExactRecReadSpec.post enc Tryd.prog Tryd.f5 false true false false W args v W' := by
  obtain ⟨hT, hH⟩ := parts_of hL
  have hLN : LenOk W := Tryd.laysM145.s1_3 W hSh
  have hW' := hW
  obtain ⟨p, q, hA0, hV, rfl, hfz, hnd⟩ := hW
  have hA : DataW.TrodAll enc Tryd.prog W 0 (fun _ => true) true Tryd.f5.params.toList args.toList ds p := hA0
  rw [Tryd.params5] at hA hval
  obtain ⟨v0, vs0, d0, ds0, p0, q0, hargs, rfl, rfl, h0, r0⟩ := trodAll_cons hA
  obtain ⟨rfl, rfl, rfl⟩ := trodAll_nil r0
  obtain rfl : args = #[v0] := by cases args; simp_all
  obtain ⟨rfl, rfl⟩ := trodVars_none hV
  obtain ⟨a0, rfl, rfl, rfl, w0⟩ := open_string Tryd.underlying9 (hval 0 9 v0 rfl rfl) h0
  clear hA0
  simp only [List.append_nil] at hW'
  refine (walk1 W a0 w0 hT hLN hH).mono fun e W' ⟨he, bel⟩ => ?_
  subst he
  exact ⟨_, rfl, _, _, _, [], [], [], hW', trodAll_mk1 (shut_bool Tryd.underlying4 _), (trodAll_cons_mk (shut_string Tryd.underlying9 w0) trodAll_mk0), rfl, bel.frame _, fun h => by cases h⟩

theorem laid_met (os : Os) : laidMetH Tryd.prog Rows.fnExactRecReadRow.laid ((withHand (World.holding Tryd.prog os ⟨#[], #[], []⟩)).forCall (fun _ _ => 0) ⟨#[], #[.string ByteArray.empty], []⟩).memory :=
  laidMetH_of_parts (laidMet_of_run' 80 (by kernel_rfl) (by kernel_rfl)) (by kernel_rfl)
theorem reads (os : Os) {H : Type} (enc : TypeId × Value → H) : ∃ places, DataW.whole enc Tryd.prog ((withHand (World.holding Tryd.prog os ⟨#[], #[], []⟩)).forCall (fun _ _ => 0) ⟨#[], #[.string ByteArray.empty], []⟩).memory Tryd.f5.params.toList Rows.fnExactRecReadSpec.vars false #[(.string ByteArray.empty : Value)].toList 8 = some ([.lit (.string [])], [], places) :=
  ⟨[], by kernel_rfl⟩

set_option maxRecDepth 100000 in
theorem lifted (os : Os) (started : os.Started) (H : Type) (enc : TypeId × Value → H) (F : Stop.Interp) :
    ReturnsInHanded {} Tryd.checked os 5 .any ((OpenSpec.ofChange Rows.fnExactRecReadSpec).preRow enc Tryd.prog Tryd.f5 Rows.fnExactRecReadRow.domain false Rows.fnExactRecReadRow.laid) (((OpenSpec.ofChange Rows.fnExactRecReadSpec).at F).post enc Tryd.prog Tryd.f5 false true false false) := by
  obtain ⟨places, hx⟩ := reads os enc
  refine returnsInHanded_of_row (C := Tryd.checked) (s := OpenSpec.ofChange Rows.fnExactRecReadSpec) own started (by kernel_rfl) Tryd.func5
    (witness_row_at (enc := enc) (C := Tryd.checked) false (withHand (World.holding Tryd.prog os ⟨#[], #[], []⟩)) #[.string ByteArray.empty] rfl (by kernel_rfl) (by kernel_rfl) (by kernel_rfl)
      (OpenSpec.preRow_of_cond 8 hx (by kernel_rfl) (fun k hk => by cases hk) (by kernel_rfl) (laid_met os))) ?_
  intro W base args ds gs before hval hW _ _ _ hL hSh _
  exact contract H enc W base args ds gs before hval hW hL hSh

theorem said : Rows.FnExactRecReadSaid :=
  OpenClaim.holds_of_cond 5 Tryd.f5 rfl rfl rfl rfl rfl rfl rfl ⟨rfl, rfl, rfl, rfl, rfl⟩ rfl rfl rfl rfl rfl (by kernel_rfl) Tryd.func5 (by kernel_rfl)
    (of_decide_eq_true (by kernel_rfl)) (by unfold Func.isWrapper; first | (rw [if_pos (by decide +kernel)]; kernel_rfl) | (rw [if_neg (by decide +kernel)]; exact ⟨rfl, rfl⟩))
    (fun os started H enc _ F => by rw [OpenClaim.pre_eq_preRow]; exact lifted os started H enc F)

theorem plain (f : FuncId) (fn : Func) (hf : Tryd.pinned.checked.prog.funcNamed "loop.example/g00239/laws.FnExactRecRead" = some f) (hfn : Tryd.pinned.checked.prog.funcs[f]? = some fn) :
    true = Tryd.pinned.checked.prog.looks [] ∧ ∀ (j : Nat) t, fn.params[j]? = some t → Tryd.pinned.checked.prog.wantsStandIn t = false := by
  obtain rfl : f = 5 := Option.some.inj ((show Tryd.prog.funcNamed "loop.example/g00239/laws.FnExactRecRead" = some 5 by kernel_rfl).symm.trans hf) |>.symm
  obtain rfl : fn = Tryd.f5 := (Option.some.inj (Tryd.func5.symm.trans hfn)).symm
  refine ⟨by kernel_rfl, fun j t ht => ?_⟩
  rw [Tryd.params5] at ht
  obtain rfl : t = 9 := by simpa using Array.mem_of_getElem? ht
  exact (show Tryd.prog.wantsStandIn 9 = false by kernel_rfl)

theorem card : Rows.FnExactRecReadCardSaid :=
  Claim7.holds_tied_plain_at .later [] _ _ _ _ said (fun _ h => by cases h) (by kernel_rfl) (fun _ h => by cases h) fnExactRecRead_row_tie rfl ⟨rfl, rfl⟩ (by kernel_rfl) rfl plain (by kernel_rfl)
end fnExactRecRead

theorem fnExactRecRead_holds : Rows.FnExactRecReadCardSaid := fnExactRecRead.card
#print axioms fnExactRecRead_holds
end Go.Proofs.YtalicfiadbmdeaaDoor
