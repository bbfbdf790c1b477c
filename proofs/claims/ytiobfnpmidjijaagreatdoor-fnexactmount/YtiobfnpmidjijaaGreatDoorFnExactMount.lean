/- Mount: at every argument the program answers as the specification (the law answers true), it writes into no argument, and its answer owns its memory: no condition. The card lists the tables that strconv.Itoa's text names, and the handle of the type of errors. -/
import Derived.Test.YtiobfnpmidjijaaGreatDoorFnExactMountL
import Derived.Test.YtiobfnpmidjijaaGreatDoorTie
import Derived.Test.YtiobfnpmidjijaaGreatDoorCards
import Derived.Below
import Derived.ChangeOld
import Derived.ShutString
import Derived.Deep.RegionHeld3
import Derived.Deep.DrawnRows
import Derived.Deep.CutRange
import Derived.Deep.DeepCutAuto
namespace Go.Proofs.YtiobfnpmidjijaaGreatDoor
namespace fnExactMount
open Go.ChangeShapes Go.WideShapes Go.ChangeAt Go.RowKit
open Go.ChangeMaps (open_string shut_string)
attribute [local go_sem ↓] Go.wp_at_zero Go.wp_at_succ

theorem own : ownKnob Tryz.prog.godebug = none := by kernel_rfl
theorem dP9 : laidOutB Tryz.prog = true := by kernel_rfl

open Go.Lib hiding intOf
theorem dV2 (w : World) (a1 : Oa) (n1 c1 : Nat) (cs : Ts) (a2 : Oa) (n2 c2 : Nat) (ws : List (Int × ByteArray)) (h1 : ArgT w w.heap.size a1 n1 cs) (h2 : aJ2 w w.heap.size a2 n2 ws) (hn1 : n1 ≤ maxLen) (hn2 : n2 ≤ maxLen) (hs1 : ∀ i, i < n1 → (aA7 cs i).size ≤ maxLen) (hs2 : ∀ x ∈ ws, (x.2).size ≤ maxLen) (hT : aG9 w) (hLN : aH5 w) (hH : aN9 w) :
  Calls Tryz.prog 7 #[.agg #[.slice a1 n1 c1, .slice a2 n2 c2]] w fun e w' => e = .returned (.bool true) ∧ Below w.heap.size w w' :=
 dH0 w a1 n1 c1 cs a2 n2 c2 ws h1 h2 hn1 hn2 hs1 hs2 hT hLN hH
set_option maxRecDepth 100000 in
theorem dL5 (H : Type) (enc : TypeId × Value → H) (W : World) (base : Nat) (args : Array Value) (ds gs : List (DataW H)) (before : List MemPlace)
    (hval : ∀ (j : Nat) t v, Tryz.f7.params[j]? = some t → args[j]? = some v → Value.okWide Tryz.prog W .any base t v)
    (hW : DataW.Whole enc Tryz.prog Tryz.f7.params.toList Rows.fnExactMountSpec.vars false W args.toList ds gs before) (hL : laidMetH Tryz.prog Rows.fnExactMountRow.laid W) (hSh : W.ShapedOpen Tryz.prog) :
    Calls Tryz.prog 7 args W fun e W' => ∃ v, e = .returned v ∧ Rows.fnExactMountSpec.post enc Tryz.prog Tryz.f7 false true false false W args v W' := by
  obtain ⟨hT, hH⟩ := dK8 hL
  have hLN : aH5 W := Tryz.laysM145.s1_3 W hSh
  have hW' := hW
  obtain ⟨p, q, hA0, hV, rfl, hfz, hnd⟩ := hW
  have hA : DataW.TrodAll enc Tryz.prog W 0 (fun _ => true) true Tryz.f7.params.toList args.toList ds p := hA0
  rw [Tryz.params7] at hA hval
  obtain ⟨v0, vs0, d0, ds0, p0, q0, hargs, rfl, rfl, h0, r0⟩ := trodAll_cons hA
  obtain ⟨rfl, rfl, rfl⟩ := trodAll_nil r0
  obtain rfl : args = #[v0] := by cases args; simp_all
  obtain ⟨rfl, rfl⟩ := trodVars_none hV
  have k0 := h0
  have lt0 : ∀ x ∈ p0, x.block < W.heap.size := by obtain ⟨m, hm⟩ := k0; exact DataW.trod_lt m _ _ _ hm
  obtain ⟨da0, dn0, dc0, dcs0, db0, dm0, dd0, dws0, rfl, ga0, gb0, gc0, gd0, ge0, gf0⟩ := dL4 (hval 0 67 v0 rfl rfl) h0
  clear hA0
  refine (dV2 W da0 dn0 dc0 dcs0 db0 dm0 dd0 dws0 ga0 gb0 gc0 gd0 ge0 gf0 hT hLN hH).mono fun e W' ⟨he, bel⟩ => ?_
  subst he
  exact ⟨_, rfl, _, _, _, [], _, [], hW', trodAll_mk1 (shut_bool Tryz.underlying4 _), (trodAll_cons_mk (Below.trod dP9 (by kernel_rfl) (of_decide_eq_true (by kernel_rfl)) k0 bel lt0) trodAll_mk0), rfl, bel.frame _, fun h => by cases h⟩

theorem dL6 (os : Os) : laidMetH Tryz.prog Rows.fnExactMountRow.laid ((cF1 (World.holding Tryz.prog os ⟨#[], #[], []⟩)).forCall (fun _ _ => 0) ⟨#[], #[.agg #[.slice none 0 0, .slice none 0 0]], []⟩).memory :=
  laidMetH_of_parts (laidMet_of_run' 80 (by kernel_rfl) (by kernel_rfl)) (by kernel_rfl)
theorem reads (os : Os) {H : Type} (enc : TypeId × Value → H) : ∃ places, DataW.whole enc Tryz.prog ((cF1 (World.holding Tryz.prog os ⟨#[], #[], []⟩)).forCall (fun _ _ => 0) ⟨#[], #[.agg #[.slice none 0 0, .slice none 0 0]], []⟩).memory Tryz.f7.params.toList Rows.fnExactMountSpec.vars false #[(.agg #[.slice none 0 0, .slice none 0 0] : Value)].toList 8 = some ([.agg [.nil, .nil]], [], places) :=
  ⟨[], by kernel_rfl⟩

set_option maxRecDepth 100000 in
theorem dU6 (os : Os) (started : os.Started) (H : Type) (enc : TypeId × Value → H) (F : Stop.Interp) :
    ReturnsInHanded {} Tryz.checked os 7 .any ((OpenSpec.ofChange Rows.fnExactMountSpec).preRow enc Tryz.prog Tryz.f7 Rows.fnExactMountRow.domain false Rows.fnExactMountRow.laid) (((OpenSpec.ofChange Rows.fnExactMountSpec).at F).post enc Tryz.prog Tryz.f7 false true false false) := by
  obtain ⟨places, hx⟩ := reads os enc
  refine returnsInHanded_of_row (C := Tryz.checked) (s := OpenSpec.ofChange Rows.fnExactMountSpec) own started (by kernel_rfl) Tryz.func7
    (witness_row_at (enc := enc) (C := Tryz.checked) false (cF1 (World.holding Tryz.prog os ⟨#[], #[], []⟩)) #[.agg #[.slice none 0 0, .slice none 0 0]] rfl (by kernel_rfl) (by kernel_rfl) (by kernel_rfl)
      (OpenSpec.preRow_of_cond 8 hx (by kernel_rfl) (fun k hk => by cases hk) (by kernel_rfl) (dL6 os))) ?_
  intro W base args ds gs before hval hW _ _ _ hL hSh _
  exact dL5 H enc W base args ds gs before hval hW hL hSh

theorem said : Rows.FnExactMountSaid :=
  dP8 fun os started H enc F => dU6 os started H enc F

theorem plain (f : FuncId) (fn : Func) (hf : Tryz.pinned.checked.prog.funcNamed "loop.example/g00239/laws.FnExactMount" = some f) (hfn : Tryz.pinned.checked.prog.funcs[f]? = some fn) :
    true = Tryz.pinned.checked.prog.looks [] ∧ ∀ (j : Nat) t, fn.params[j]? = some t → Tryz.pinned.checked.prog.wantsStandIn t = false := by
  obtain rfl : f = 7 := Option.some.inj ((show Tryz.prog.funcNamed "loop.example/g00239/laws.FnExactMount" = some 7 by kernel_rfl).symm.trans hf) |>.symm
  obtain rfl : fn = Tryz.f7 := (Option.some.inj (Tryz.func7.symm.trans hfn)).symm
  refine ⟨by kernel_rfl, fun j t ht => ?_⟩
  rw [Tryz.params7] at ht
  obtain rfl : t = 67 := by simpa using Array.mem_of_getElem? ht
  exact (show Tryz.prog.wantsStandIn 67 = false by kernel_rfl)

theorem card : Rows.FnExactMountCardSaid :=
  Claim7.holds_tied_plain_at .later [] _ _ _ _ said (fun _ h => by cases h) (by kernel_rfl) (fun _ h => by cases h) fnExactMount_row_tie rfl ⟨rfl, rfl⟩ (by kernel_rfl) rfl plain (by kernel_rfl)
end fnExactMount

theorem fnExactMount_holds : Rows.FnExactMountCardSaid := fnExactMount.card
#print axioms fnExactMount_holds
end Go.Proofs.YtiobfnpmidjijaaGreatDoor
