/- Find: at every argument the program answers as the specification (the law answers true), it writes into no argument, and its answer owns its memory: no condition. -/
import Derived.Test.YtcipbkkpkhameaaGreatFnExactFindH
import Derived.Test.YtcipbkkpkhameaaGreatRows
import Derived.WalkKit
import Derived.ProofKit
import Derived.OpenShut
import Derived.ShutString
import Derived.ChangeOld
import Derived.Below
import Derived.Deep.RegionHeld3
import Derived.Deep.DrawnRows
import Derived.Deep.CutRange
import Derived.Deep.DeepCutAuto
namespace Go.Proofs.YtcipbkkpkhameaaGreat
namespace fnExactFind
open Go.ChangeShapes Go.WideShapes Go.ChangeAt Go.RowKit
open Go.ChangeMaps (open_string shut_string)
attribute [local go_sem ↓] Go.wp_at_zero Go.wp_at_succ

theorem own : ownKnob Tryz.prog.godebug = none := by kernel_rfl
theorem laidOut : laidOutB Tryz.prog = true := by kernel_rfl

open Go.Lib hiding intOf
theorem walk1 (w : World) (a1 : Option Addr) (n1 c1 : Nat) (cs : List ByteArray) (a2 : Option Addr) (n2 c2 : Nat) (ws : List (Int × ByteArray)) (a3 : Option Addr) (n3 c3 : Nat) (ks : List KpD) (a4 : Option Addr) (n4 c4 : Nat) (bl : List (Int × ByteArray × ByteArray × Int)) (nx sq : Int) (h1 : ArgT w w.heap.size a1 n1 cs) (h2 : ArgWrite w w.heap.size a2 n2 ws) (h3 : ArgKept w w.heap.size a3 n3 ks) (h4 : ArgBan w w.heap.size a4 n4 bl) (hm : n1 ≤ maxLen ∧ n2 ≤ maxLen ∧ n3 ≤ maxLen ∧ n4 ≤ maxLen ∧ (∀ i, i < n1 → (textAt cs i).size ≤ maxLen) ∧ (∀ x ∈ ws, (x.2).size ≤ maxLen) ∧ (∀ k ∈ ks, KpMax k) ∧ ∀ x ∈ bl, (x.2.1).size ≤ maxLen ∧ (x.2.2.1).size ≤ maxLen) (mt : Int) (p : ByteArray) (aQ : Option Addr) (n5 cQ : Nat) (bd : ByteArray) (gs : List (ByteArray × ByteArray)) (h5 : ArgF w w.heap.size aQ n5 gs) (hn5 : n5 ≤ maxLen) (hs5 : WalkF n5 gs) (hp : p.size ≤ maxLen) (hbd : bd.size ≤ maxLen) :
    Calls Tryz.prog 4 #[.agg #[.slice a1 n1 c1, .slice a2 n2 c2, .slice a3 n3 c3, .slice a4 n4 c4, .int .i64 nx, .int .i64 sq], .agg #[.int .i64 mt, .string p, .slice aQ n5 cQ, .string bd]] w fun e w' => e = .returned (.bool true) ∧ Below w.heap.size w w' := by
  classical
  by_cases hK : ∃ i, ShelfP (⟨cs, ws, ks, bl, nx, sq⟩ : ShD) ∧ FoundAt (⟨cs, ws, ks, bl, nx, sq⟩ : ShD) p gs i
  · obtain ⟨i, hi⟩ := hK
    exact findWalk w a1 n1 c1 cs a2 n2 c2 ws a3 n3 c3 ks a4 n4 c4 bl nx sq h1 h2 h3 h4 hm mt p aQ n5 cQ bd gs h5 hn5 hs5 hp hbd _ true (.inl ⟨rfl, hi.1, i, hi.2, rfl⟩)
  · exact findWalk w a1 n1 c1 cs a2 n2 c2 ws a3 n3 c3 ks a4 n4 c4 bl nx sq h1 h2 h3 h4 hm mt p aQ n5 cQ bd gs h5 hn5 hs5 hp hbd zeroK false (.inr ⟨rfl, rfl, fun i hi => hK ⟨i, hi⟩⟩)

set_option maxRecDepth 100000 in
theorem lifted (os : Os) (started : os.Started) (H : Type) (enc : TypeId × Value → H) :
    ReturnsInHanded {} Tryz.checked os 4 .any (Rows.fnExactFindSpec.pre6 enc Tryz.prog Tryz.f4 Rows.fnExactFindRow.domain false) (Rows.fnExactFindSpec.post enc Tryz.prog Tryz.f4 false true false false) := by
  refine returnsInHanded_of_change (C := Tryz.checked) own started (by kernel_rfl) Tryz.func4
    (ChangeSpec.witness6 (enc := enc) (C := Tryz.checked) false ⟨#[], #[.agg #[.slice none 0 0, .slice none 0 0, .slice none 0 0, .slice none 0 0, .int .i64 0, .int .i64 0], .agg #[.int .i64 0, .string ByteArray.empty, .slice none 0 0, .string ByteArray.empty]], []⟩ 8 (by kernel_rfl) (by kernel_rfl) (by kernel_rfl) (by kernel_rfl)) ?_
  intro W base args ds gs before hval0 hW _ _
  have hval : ∀ (j : Nat) t v, Tryz.f4.params[j]? = some t → args[j]? = some v → Value.okWide Tryz.prog W .any base t v := hval0
  have hW' := hW
  obtain ⟨p, q, hA0, hV, rfl, hfz, hnd⟩ := hW
  have hA : DataW.TrodAll enc Tryz.prog W 0 (fun _ => true) true Tryz.f4.params.toList args.toList ds p := hA0
  rw [Tryz.params4] at hA hval
  obtain ⟨v0, vs0, d0, ds0, p0, q0, hargs, rfl, rfl, h0, r0⟩ := trodAll_cons hA
  obtain ⟨v1, vs1, d1, ds1, p1, q1, hargs1, rfl, rfl, h1, r1⟩ := trodAll_cons r0
  obtain ⟨rfl, rfl, rfl⟩ := trodAll_nil r1
  obtain rfl : args = #[v0, v1] := by cases args; simp_all
  obtain ⟨rfl, rfl⟩ := trodVars_none hV
  have k0 := h0
  have lt0 : ∀ x ∈ p0, x.block < W.heap.size := by obtain ⟨m, hm⟩ := k0; exact DataW.trod_lt m _ _ _ hm
  obtain ⟨sa10, sn10, sc10, sd10, sa20, sn20, sc20, sd20, sa30, sn30, sc30, sd30, sa40, sn40, sc40, sd40, sx0, sq0, rfl, ga0, gb0, gc0, gd0, ge0⟩ := openShelf (hval 0 29 v0 rfl rfl) h0
  have k1 := h1
  have lt1 : ∀ x ∈ p1, x.block < W.heap.size := by obtain ⟨m, hm⟩ := k1; exact DataW.trod_lt m _ _ _ hm
  obtain ⟨am1, ap1, a1, n1, cap1, ab1, fs1, rfl, ga1, gb1, gc1, gd1, ge1⟩ := openReq (hval 1 44 v1 rfl rfl) h1
  clear hA0 hval0
  refine (walk1 W sa10 sn10 sc10 sd10 sa20 sn20 sc20 sd20 sa30 sn30 sc30 sd30 sa40 sn40 sc40 sd40 sx0 sq0 ga0 gb0 gc0 gd0 ge0 am1 ap1 a1 n1 cap1 ab1 fs1 ga1 gb1 gc1 gd1 ge1).mono fun e W' ⟨he, bel⟩ => ?_
  subst he
  exact ⟨_, rfl, _, _, _, [], _, [], hW', trodAll_mk1 (shut_bool Tryz.underlying4 _), (trodAll_cons_mk (Below.trod laidOut (by kernel_rfl) (of_decide_eq_true (by kernel_rfl)) k0 bel lt0) (trodAll_cons_mk (Below.trod laidOut (by kernel_rfl) (of_decide_eq_true (by kernel_rfl)) k1 bel lt1) trodAll_mk0)), rfl, bel.frame _, fun h => by cases h⟩

theorem over : Rows.fnExactFindRow.holds Tryz.pinned (OpenSpec.ofChange Rows.fnExactFindSpec) :=
  OpenClaim.holds_of_wide 4 Tryz.f4 rfl rfl rfl rfl rfl rfl rfl ⟨rfl, rfl, rfl, rfl, rfl⟩ rfl rfl rfl rfl rfl (by kernel_rfl) Tryz.func4 (by kernel_rfl)
    (of_decide_eq_true (by kernel_rfl)) (by unfold Func.isWrapper; first | (rw [if_pos (by decide +kernel)]; kernel_rfl) | (rw [if_neg (by decide +kernel)]; exact ⟨rfl, rfl⟩))
    (fun os started H enc _ => lifted os started H enc)
end fnExactFind

theorem fnExactFind_holds : Rows.FnExactFindSaid := fnExactFind.over
#print axioms fnExactFind_holds
end Go.Proofs.YtcipbkkpkhameaaGreat
