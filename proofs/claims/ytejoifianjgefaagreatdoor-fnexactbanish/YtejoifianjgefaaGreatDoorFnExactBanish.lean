/- Banish: at every argument the program answers as the specification (the law answers true), it writes into no argument, and its answer owns its memory: no condition. The card lists the tables that strconv.Itoa's text names. -/
import Derived.Test.YtejoifianjgefaaGreatDoorFnExactBanishL
import Derived.Test.YtejoifianjgefaaGreatDoorTie
import Derived.Test.YtejoifianjgefaaGreatDoorCards
import Derived.Below
import Derived.ChangeOld
import Derived.ShutString
import Derived.Deep.RegionHeld3
import Derived.Deep.DrawnRows
import Derived.Deep.CutRange
import Derived.Deep.DeepCutAuto
namespace Go.Proofs.YtejoifianjgefaaGreatDoor
namespace fnExactBanish
open Go.ChangeShapes Go.WideShapes Go.ChangeAt Go.RowKit
open Go.ChangeMaps (open_string shut_string)
attribute [local go_sem ↓] Go.wp_at_zero Go.wp_at_succ

theorem own : ownKnob Tryz.prog.godebug = none := by kernel_rfl
theorem cM2 : laidOutB Tryz.prog = true := by kernel_rfl

open Go.Lib hiding intOf
theorem cV7 (w : World) (a1 : Oa) (n1 c1 : Nat) (cs : Ts) (a2 : Oa) (n2 c2 : Nat) (ws : List (Int × ByteArray)) (a3 : Oa) (n3 c3 : Nat) (ks : List KpD) (a4 : Oa) (n4 c4 : Nat) (bl : Bs) (nx sq : Int) (h1 : ArgT w w.heap.size a1 n1 cs) (h2 : aG4 w w.heap.size a2 n2 ws) (h3 : aK5 w w.heap.size a3 n3 ks) (h4 : aQ0 w w.heap.size a4 n4 bl) (hm : n1 ≤ maxLen ∧ n2 ≤ maxLen ∧ n3 ≤ maxLen ∧ n4 ≤ maxLen ∧ (∀ i, i < n1 → (aA8 cs i).size ≤ maxLen) ∧ (∀ x ∈ ws, (x.2).size ≤ maxLen) ∧ (∀ k ∈ ks, bT0 k) ∧ ∀ x ∈ bl, (x.2.1).size ≤ maxLen ∧ (x.2.2.1).size ≤ maxLen) (y0 : Int) (y1 y2 : Tx) (y3 : Int) (hy1 : y1.size ≤ maxLen) (hy2 : y2.size ≤ maxLen) (hT : aL2 w) :
  Calls Tryz.prog 4 #[.agg #[.slice a1 n1 c1, .slice a2 n2 c2, .slice a3 n3 c3, .slice a4 n4 c4, .int .i64 nx, .int .i64 sq], .agg #[.int .i64 y0, .string y1, .string y2, .int .i64 y3]] w fun e w' => e = .returned (.bool true) ∧ Below w.heap.size w w' :=
 cH1 w a1 n1 c1 cs a2 n2 c2 ws a3 n3 c3 ks a4 n4 c4 bl nx sq h1 h2 h3 h4 hm y0 y1 y2 y3 hy1 hy2 hT
set_option maxRecDepth 100000 in
theorem cO5 (H : Type) (enc : TypeId × Value → H) (W : World) (base : Nat) (args : Array Value) (ds gs : List (DataW H)) (before : List MemPlace)
    (hval : ∀ (j : Nat) t v, Tryz.f4.params[j]? = some t → args[j]? = some v → Value.okWide Tryz.prog W .any base t v)
    (hW : DataW.Whole enc Tryz.prog Tryz.f4.params.toList Rows.fnExactBanishSpec.vars false W args.toList ds gs before) (hL : laidMetH Tryz.prog Rows.fnExactBanishRow.laid W) (_ : W.ShapedOpen Tryz.prog) :
    Calls Tryz.prog 4 args W fun e W' => ∃ v, e = .returned v ∧ Rows.fnExactBanishSpec.post enc Tryz.prog Tryz.f4 false true false false W args v W' := by
  have hT : aL2 W := cV6 hL
  have hW' := hW
  obtain ⟨p, q, hA0, hV, rfl, hfz, hnd⟩ := hW
  have hA : DataW.TrodAll enc Tryz.prog W 0 (fun _ => true) true Tryz.f4.params.toList args.toList ds p := hA0
  rw [Tryz.params4] at hA hval
  obtain ⟨v0, vs0, d0, ds0, p0, q0, hargs, rfl, rfl, h0, r0⟩ := trodAll_cons hA
  obtain ⟨v1, vs1, d1, ds1, p1, q1, hargs1, rfl, rfl, h1, r1⟩ := trodAll_cons r0
  obtain ⟨rfl, rfl, rfl⟩ := trodAll_nil r1
  obtain rfl : args = #[v0, v1] := by cases args; simp_all
  obtain ⟨rfl, rfl⟩ := trodVars_none hV
  have k0 := h0
  have lt0 : ∀ x ∈ p0, x.block < W.heap.size := by obtain ⟨m, hm⟩ := k0; exact DataW.trod_lt m _ _ _ hm
  obtain ⟨sa10, sn10, sc10, sd10, sa20, sn20, sc20, sd20, sa30, sn30, sc30, sd30, sa40, sn40, sc40, sd40, sx0, sq0, rfl, ga0, gb0, gc0, gd0, ge0⟩ := cM1 (hval 0 29 v0 rfl rfl) h0
  have k1 := h1
  have lt1 : ∀ x ∈ p1, x.block < W.heap.size := by obtain ⟨m, hm⟩ := k1; exact DataW.trod_lt m _ _ _ hm
  obtain ⟨bk1, ba1, bb1, bt1, rfl, ga1, gb1⟩ := cP9 (hval 1 59 v1 rfl rfl) h1
  clear hA0
  refine (cV7 W sa10 sn10 sc10 sd10 sa20 sn20 sc20 sd20 sa30 sn30 sc30 sd30 sa40 sn40 sc40 sd40 sx0 sq0 ga0 gb0 gc0 gd0 ge0 bk1 ba1 bb1 bt1 ga1 gb1 hT).mono fun e W' ⟨he, bel⟩ => ?_
  subst he
  exact ⟨_, rfl, _, _, _, [], _, [], hW', trodAll_mk1 (shut_bool Tryz.underlying4 _), (trodAll_cons_mk (Below.trod cM2 (by kernel_rfl) (of_decide_eq_true (by kernel_rfl)) k0 bel lt0) (trodAll_cons_mk (Below.trod cM2 (by kernel_rfl) (of_decide_eq_true (by kernel_rfl)) k1 bel lt1) trodAll_mk0)), rfl, bel.frame _, fun h => by cases h⟩

theorem cO6 (os : Os) : laidMet Tryz.prog Rows.fnExactBanishRow.laid ((bB8 (World.holding Tryz.prog os ⟨#[], #[], []⟩)).forCall (fun _ _ => 0) ⟨#[], #[.agg #[.slice none 0 0, .slice none 0 0, .slice none 0 0, .slice none 0 0, .int .i64 0, .int .i64 0], .agg #[.int .i64 0, .string ByteArray.empty, .string ByteArray.empty, .int .i64 0]], []⟩).memory :=
  laidMet_of_run' 80 (by kernel_rfl) (by kernel_rfl)
theorem reads (os : Os) {H : Type} (enc : TypeId × Value → H) : ∃ places, DataW.whole enc Tryz.prog ((bB8 (World.holding Tryz.prog os ⟨#[], #[], []⟩)).forCall (fun _ _ => 0) ⟨#[], #[.agg #[.slice none 0 0, .slice none 0 0, .slice none 0 0, .slice none 0 0, .int .i64 0, .int .i64 0], .agg #[.int .i64 0, .string ByteArray.empty, .string ByteArray.empty, .int .i64 0]], []⟩).memory Tryz.f4.params.toList Rows.fnExactBanishSpec.vars false #[(.agg #[.slice none 0 0, .slice none 0 0, .slice none 0 0, .slice none 0 0, .int .i64 0, .int .i64 0] : Value), (.agg #[.int .i64 0, .string ByteArray.empty, .string ByteArray.empty, .int .i64 0] : Value)].toList 8 = some ([.agg [.agg [.nil, .nil], .nil, .nil, .lit (.int .i64 0), .lit (.int .i64 0)], .agg [.lit (.int .i64 0), .lit (.string []), .lit (.string []), .lit (.int .i64 0)]], [], places) :=
  ⟨[], by kernel_rfl⟩

set_option maxRecDepth 100000 in
theorem cU8 (os : Os) (started : os.Started) (H : Type) (enc : TypeId × Value → H) (F : Stop.Interp) :
    ReturnsInHanded {} Tryz.checked os 4 .any ((OpenSpec.ofChange Rows.fnExactBanishSpec).preRow enc Tryz.prog Tryz.f4 Rows.fnExactBanishRow.domain false Rows.fnExactBanishRow.laid) (((OpenSpec.ofChange Rows.fnExactBanishSpec).at F).post enc Tryz.prog Tryz.f4 false true false false) := by
  obtain ⟨places, hx⟩ := reads os enc
  refine returnsInHanded_of_row (C := Tryz.checked) (s := OpenSpec.ofChange Rows.fnExactBanishSpec) own started (by kernel_rfl) Tryz.func4
    (witness_row_at (enc := enc) (C := Tryz.checked) false (bB8 (World.holding Tryz.prog os ⟨#[], #[], []⟩)) #[.agg #[.slice none 0 0, .slice none 0 0, .slice none 0 0, .slice none 0 0, .int .i64 0, .int .i64 0], .agg #[.int .i64 0, .string ByteArray.empty, .string ByteArray.empty, .int .i64 0]] rfl (by kernel_rfl) (by kernel_rfl) (by kernel_rfl)
      (OpenSpec.preRow_of_cond 8 hx (by kernel_rfl) (fun k hk => by cases hk) (by kernel_rfl) (cO6 os))) ?_
  intro W base args ds gs before hval hW _ _ _ hL hSh _
  exact cO5 H enc W base args ds gs before hval hW hL hSh

theorem said : Rows.FnExactBanishSaid :=
  cV8 fun os started H enc F => cU8 os started H enc F

theorem plain (f : FuncId) (fn : Func) (hf : Tryz.pinned.checked.prog.funcNamed "loop.example/g00239/laws.FnExactBanish" = some f) (hfn : Tryz.pinned.checked.prog.funcs[f]? = some fn) :
    true = Tryz.pinned.checked.prog.looks [] ∧ ∀ (j : Nat) t, fn.params[j]? = some t → Tryz.pinned.checked.prog.wantsStandIn t = false := by
  obtain rfl : f = 4 := Option.some.inj ((show Tryz.prog.funcNamed "loop.example/g00239/laws.FnExactBanish" = some 4 by kernel_rfl).symm.trans hf) |>.symm
  obtain rfl : fn = Tryz.f4 := (Option.some.inj (Tryz.func4.symm.trans hfn)).symm
  refine ⟨by kernel_rfl, fun j t ht => ?_⟩
  rw [Tryz.params4] at ht
  have hm : t = 29 ∨ t = 59 := by simpa using Array.mem_of_getElem? ht
  rcases hm with rfl | rfl
  · exact (show Tryz.prog.wantsStandIn 29 = false by kernel_rfl)
  · exact (show Tryz.prog.wantsStandIn 59 = false by kernel_rfl)

theorem card : Rows.FnExactBanishCardSaid :=
  Claim7.holds_tied_plain_at .later [] _ _ _ _ said (fun _ h => by cases h) (by kernel_rfl) (fun _ h => by cases h) fnExactBanish_row_tie rfl ⟨rfl, rfl⟩ (by kernel_rfl) rfl plain (by kernel_rfl)
end fnExactBanish

theorem fnExactBanish_holds : Rows.FnExactBanishCardSaid := fnExactBanish.card
#print axioms fnExactBanish_holds
end Go.Proofs.YtejoifianjgefaaGreatDoor
