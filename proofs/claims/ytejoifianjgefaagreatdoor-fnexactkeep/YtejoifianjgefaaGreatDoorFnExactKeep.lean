/- Keep: at every argument the program answers as the specification (the law answers true), it writes into no argument, and its answer owns its memory: no condition. The card lists the tables that strconv.Itoa's text names. -/
import Derived.Test.YtejoifianjgefaaGreatDoorFnExactKeepM
import Derived.Test.YtejoifianjgefaaGreatDoorTie
import Derived.Test.YtejoifianjgefaaGreatDoorCards
import Derived.Below
import Derived.ChangeOld
import Derived.ShutString
import Derived.Deep.RegionHeld3
import Derived.Deep.DrawnRows
import Derived.Deep.CutRange
import Derived.Deep.DeepCutAuto
namespace Go.Proofs.YtejoifianjgefaaGreatDoor
namespace fnExactKeep
open Go.ChangeShapes Go.WideShapes Go.ChangeAt Go.RowKit
open Go.ChangeMaps (open_string shut_string)
attribute [local go_sem ↓] Go.wp_at_zero Go.wp_at_succ

theorem own : ownKnob Tryz.prog.godebug = none := by kernel_rfl
theorem cO2 : laidOutB Tryz.prog = true := by kernel_rfl

open Go.Lib hiding intOf
theorem cY6 (w : World) (a1 : Oa) (n1 c1 : Nat) (cs : Ts) (a2 : Oa) (n2 c2 : Nat) (ws : List (Int × ByteArray)) (a3 : Oa) (n3 c3 : Nat) (ks : List KpD) (a4 : Oa) (n4 c4 : Nat) (bl : Bs) (nx sq : Int) (h1 : ArgT w w.heap.size a1 n1 cs) (h2 : aG9 w w.heap.size a2 n2 ws) (h3 : aL5 w w.heap.size a3 n3 ks) (h4 : aQ6 w w.heap.size a4 n4 bl) (hm : n1 ≤ maxLen ∧ n2 ≤ maxLen ∧ n3 ≤ maxLen ∧ n4 ≤ maxLen ∧ (∀ i, i < n1 → (aA7 cs i).size ≤ maxLen) ∧ (∀ x ∈ ws, (x.2).size ≤ maxLen) ∧ (∀ k ∈ ks, bU9 k) ∧ ∀ x ∈ bl, (x.2.1).size ≤ maxLen ∧ (x.2.2.1).size ≤ maxLen) (pO : Tx) (ad1 : Oa) (m1 d1 : Nat) (xs : Ts) (ad2 : Oa) (m2 d2 : Nat) (ys : Ts) (st : Int) (ad3 : Oa) (m3 d3 : Nat) (fs : Fs) (bO : Tx) (tO : Int) (k1 : ArgT w w.heap.size ad1 m1 xs) (k2 : ArgT w w.heap.size ad2 m2 ys) (k3 : ArgF w w.heap.size ad3 m3 fs) (km1 : m1 ≤ maxLen) (km2 : m2 ≤ maxLen) (km3 : m3 ≤ maxLen) (ks1 : ∀ i, i < m1 → (aA7 xs i).size ≤ maxLen) (ks2 : ∀ i, i < m2 → (aA7 ys i).size ≤ maxLen) (ks3 : aK2 m3 fs) (kp : pO.size ≤ maxLen) (kb : bO.size ≤ maxLen) (hT : aI5 w) :
  Calls Tryz.prog 3 #[.agg #[.slice a1 n1 c1, .slice a2 n2 c2, .slice a3 n3 c3, .slice a4 n4 c4, .int .i64 nx, .int .i64 sq], .agg #[.string pO, .slice ad1 m1 d1, .slice ad2 m2 d2, .int .i64 st, .slice ad3 m3 d3, .string bO, .int .i64 tO]] w fun e w' => e = .returned (.bool true) ∧ Below w.heap.size w w' :=
 cQ8 w a1 n1 c1 cs a2 n2 c2 ws a3 n3 c3 ks a4 n4 c4 bl nx sq h1 h2 h3 h4 hm pO ad1 m1 d1 xs ad2 m2 d2 ys st ad3 m3 d3 fs bO tO k1 k2 k3 km1 km2 km3 ks1 ks2 ks3 kp kb hT
set_option maxRecDepth 100000 in
theorem cR0 (H : Type) (enc : TypeId × Value → H) (W : World) (base : Nat) (args : Array Value) (ds gs : List (DataW H)) (before : List MemPlace)
    (hval : ∀ (j : Nat) t v, Tryz.f3.params[j]? = some t → args[j]? = some v → Value.okWide Tryz.prog W .any base t v)
    (hW : DataW.Whole enc Tryz.prog Tryz.f3.params.toList Rows.fnExactKeepSpec.vars false W args.toList ds gs before) (hL : laidMetH Tryz.prog Rows.fnExactKeepRow.laid W) (_ : W.ShapedOpen Tryz.prog) :
    Calls Tryz.prog 3 args W fun e W' => ∃ v, e = .returned v ∧ Rows.fnExactKeepSpec.post enc Tryz.prog Tryz.f3 false true false false W args v W' := by
  have hT : aI5 W := cY5 hL
  have hW' := hW
  obtain ⟨p, q, hA0, hV, rfl, hfz, hnd⟩ := hW
  have hA : DataW.TrodAll enc Tryz.prog W 0 (fun _ => true) true Tryz.f3.params.toList args.toList ds p := hA0
  rw [Tryz.params3] at hA hval
  obtain ⟨v0, vs0, d0, ds0, p0, q0, hargs, rfl, rfl, h0, r0⟩ := trodAll_cons hA
  obtain ⟨v1, vs1, d1, ds1, p1, q1, hargs1, rfl, rfl, h1, r1⟩ := trodAll_cons r0
  obtain ⟨rfl, rfl, rfl⟩ := trodAll_nil r1
  obtain rfl : args = #[v0, v1] := by cases args; simp_all
  obtain ⟨rfl, rfl⟩ := trodVars_none hV
  have k0 := h0
  have lt0 : ∀ x ∈ p0, x.block < W.heap.size := by obtain ⟨m, hm⟩ := k0; exact DataW.trod_lt m _ _ _ hm
  obtain ⟨sa10, sn10, sc10, sd10, sa20, sn20, sc20, sd20, sa30, sn30, sc30, sd30, sa40, sn40, sc40, sd40, sx0, sq0, rfl, ga0, gb0, gc0, gd0, ge0⟩ := cO1 (hval 0 29 v0 rfl rfl) h0
  have k1 := h1
  have lt1 : ∀ x ∈ p1, x.block < W.heap.size := by obtain ⟨m, hm⟩ := k1; exact DataW.trod_lt m _ _ _ hm
  obtain ⟨op1, a1, n1, cap1, xs1, b1, m1, capb1, ys1, st1, e1, l1, cape1, fs1, ob1, ot1, rfl, ga1, gb1, gc1, gd1, ge1, gf1, gg1, gh1, gi1, gj1, gk1⟩ := cU9 (hval 1 34 v1 rfl rfl) h1
  clear hA0
  refine (cY6 W sa10 sn10 sc10 sd10 sa20 sn20 sc20 sd20 sa30 sn30 sc30 sd30 sa40 sn40 sc40 sd40 sx0 sq0 ga0 gb0 gc0 gd0 ge0 op1 a1 n1 cap1 xs1 b1 m1 capb1 ys1 st1 e1 l1 cape1 fs1 ob1 ot1 ga1 gb1 gc1 gd1 ge1 gf1 gg1 gh1 gi1 gj1 gk1 hT).mono fun e W' ⟨he, bel⟩ => ?_
  subst he
  exact ⟨_, rfl, _, _, _, [], _, [], hW', trodAll_mk1 (shut_bool Tryz.underlying4 _), (trodAll_cons_mk (Below.trod cO2 (by kernel_rfl) (of_decide_eq_true (by kernel_rfl)) k0 bel lt0) (trodAll_cons_mk (Below.trod cO2 (by kernel_rfl) (of_decide_eq_true (by kernel_rfl)) k1 bel lt1) trodAll_mk0)), rfl, bel.frame _, fun h => by cases h⟩

theorem cR1 (os : Os) : laidMet Tryz.prog Rows.fnExactKeepRow.laid ((bC5 (World.holding Tryz.prog os ⟨#[], #[], []⟩)).forCall (fun _ _ => 0) ⟨#[], #[.agg #[.slice none 0 0, .slice none 0 0, .slice none 0 0, .slice none 0 0, .int .i64 0, .int .i64 0], .agg #[.string ByteArray.empty, .slice none 0 0, .slice none 0 0, .int .i64 0, .slice none 0 0, .string ByteArray.empty, .int .i64 0]], []⟩).memory :=
  laidMet_of_run' 80 (by kernel_rfl) (by kernel_rfl)
theorem reads (os : Os) {H : Type} (enc : TypeId × Value → H) : ∃ places, DataW.whole enc Tryz.prog ((bC5 (World.holding Tryz.prog os ⟨#[], #[], []⟩)).forCall (fun _ _ => 0) ⟨#[], #[.agg #[.slice none 0 0, .slice none 0 0, .slice none 0 0, .slice none 0 0, .int .i64 0, .int .i64 0], .agg #[.string ByteArray.empty, .slice none 0 0, .slice none 0 0, .int .i64 0, .slice none 0 0, .string ByteArray.empty, .int .i64 0]], []⟩).memory Tryz.f3.params.toList Rows.fnExactKeepSpec.vars false #[(.agg #[.slice none 0 0, .slice none 0 0, .slice none 0 0, .slice none 0 0, .int .i64 0, .int .i64 0] : Value), (.agg #[.string ByteArray.empty, .slice none 0 0, .slice none 0 0, .int .i64 0, .slice none 0 0, .string ByteArray.empty, .int .i64 0] : Value)].toList 8 = some ([.agg [.agg [.nil, .nil], .nil, .nil, .lit (.int .i64 0), .lit (.int .i64 0)], .agg [.lit (.string []), .nil, .nil, .agg [.lit (.int .i64 0), .nil, .lit (.string [])], .lit (.int .i64 0)]], [], places) :=
  ⟨[], by kernel_rfl⟩

set_option maxRecDepth 100000 in
theorem cX7 (os : Os) (started : os.Started) (H : Type) (enc : TypeId × Value → H) (F : Stop.Interp) :
    ReturnsInHanded {} Tryz.checked os 3 .any ((OpenSpec.ofChange Rows.fnExactKeepSpec).preRow enc Tryz.prog Tryz.f3 Rows.fnExactKeepRow.domain false Rows.fnExactKeepRow.laid) (((OpenSpec.ofChange Rows.fnExactKeepSpec).at F).post enc Tryz.prog Tryz.f3 false true false false) := by
  obtain ⟨places, hx⟩ := reads os enc
  refine returnsInHanded_of_row (C := Tryz.checked) (s := OpenSpec.ofChange Rows.fnExactKeepSpec) own started (by kernel_rfl) Tryz.func3
    (witness_row_at (enc := enc) (C := Tryz.checked) false (bC5 (World.holding Tryz.prog os ⟨#[], #[], []⟩)) #[.agg #[.slice none 0 0, .slice none 0 0, .slice none 0 0, .slice none 0 0, .int .i64 0, .int .i64 0], .agg #[.string ByteArray.empty, .slice none 0 0, .slice none 0 0, .int .i64 0, .slice none 0 0, .string ByteArray.empty, .int .i64 0]] rfl (by kernel_rfl) (by kernel_rfl) (by kernel_rfl)
      (OpenSpec.preRow_of_cond 8 hx (by kernel_rfl) (fun k hk => by cases hk) (by kernel_rfl) (cR1 os))) ?_
  intro W base args ds gs before hval hW _ _ _ hL hSh _
  exact cR0 H enc W base args ds gs before hval hW hL hSh

theorem said : Rows.FnExactKeepSaid :=
  cY7 fun os started H enc F => cX7 os started H enc F

theorem plain (f : FuncId) (fn : Func) (hf : Tryz.pinned.checked.prog.funcNamed "loop.example/g00239/laws.FnExactKeep" = some f) (hfn : Tryz.pinned.checked.prog.funcs[f]? = some fn) :
    true = Tryz.pinned.checked.prog.looks [] ∧ ∀ (j : Nat) t, fn.params[j]? = some t → Tryz.pinned.checked.prog.wantsStandIn t = false := by
  obtain rfl : f = 3 := Option.some.inj ((show Tryz.prog.funcNamed "loop.example/g00239/laws.FnExactKeep" = some 3 by kernel_rfl).symm.trans hf) |>.symm
  obtain rfl : fn = Tryz.f3 := (Option.some.inj (Tryz.func3.symm.trans hfn)).symm
  refine ⟨by kernel_rfl, fun j t ht => ?_⟩
  rw [Tryz.params3] at ht
  have hm : t = 29 ∨ t = 34 := by simpa using Array.mem_of_getElem? ht
  rcases hm with rfl | rfl
  · exact (show Tryz.prog.wantsStandIn 29 = false by kernel_rfl)
  · exact (show Tryz.prog.wantsStandIn 34 = false by kernel_rfl)

theorem card : Rows.FnExactKeepCardSaid :=
  Claim7.holds_tied_plain_at .later [] _ _ _ _ said (fun _ h => by cases h) (by kernel_rfl) (fun _ h => by cases h) fnExactKeep_row_tie rfl ⟨rfl, rfl⟩ (by kernel_rfl) rfl plain (by kernel_rfl)
end fnExactKeep

theorem fnExactKeep_holds : Rows.FnExactKeepCardSaid := fnExactKeep.card
#print axioms fnExactKeep_holds
end Go.Proofs.YtejoifianjgefaaGreatDoor
