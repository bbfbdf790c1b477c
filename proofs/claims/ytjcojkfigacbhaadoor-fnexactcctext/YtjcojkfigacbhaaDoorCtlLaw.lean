/- Chapter 6's helpers of the laws: contracts over the translation. -/
import Derived.Test.YtjcojkfigacbhaaDoorCtlSpec
import Derived.OpenShut
namespace Go.Proofs.YtjcojkfigacbhaaDoor
open Go.RowKit Go.WideShapes
open Go.Lib hiding intOf

set_option maxHeartbeats 1000000 in
theorem toCc_any (c : CcD) (w : World) :
    Calls Tryd.prog 5 #[c.v] w fun e w' => e = .returned c.v ∧ Below w.heap.size w w' := by
  obtain ⟨b0, b1, b2, b3, b4, age⟩ := c
  have HB : Hid (∀ o1 o2 o3, Below w.heap.size w (((w.alloc o1).alloc o2).alloc o3)) := fun o1 o2 o3 => (((Below.refl _ w).alloc (Nat.le_refl _) _).alloc (by simp) _).alloc (by simp; omega) _
  show Calls _ _ #[.agg #[.bool b0, .bool b1, .bool b2, .bool b3, .bool b4, .int .i64 age]] _ _
  go_enter Tryd.func5, Tryd.ntmps5
  go_wp2_with fail
  refine bodyPost_ret (v := .agg #[.bool b0, .bool b1, .bool b2, .bool b3, .bool b4, .int .i64 age]) (by simp [results, Tryd.results5, go_sem]) rfl ?_
  exact ⟨rfl, HB.out _ _ _⟩

set_option maxRecDepth 100000 in
/-- What is said of keeping, among the arguments. -/
theorem openCc {H : Type} {enc : TypeId × Value → H} {W : World} {r : Reach} {b0 : Nat} {v : Value} {d : DataW H} {ps : List MemPlace} (hval : Value.okWide Tryd.prog W r b0 23 v) (h : ∃ fuel, DataW.trod enc Tryd.prog W 0 (fun _ => true) true fuel 23 v.cells.toList = some (d, ps)) :
    ∃ c : CcD, v = c.v ∧ -9223372036854775808 ≤ c.age ∧ c.age ≤ 9223372036854775807 := by
  obtain ⟨cs, rfl, hsz⟩ := okWide_struct Tryd.underlying23 hval
  obtain ⟨fuel, hf⟩ := h
  obtain ⟨ys, q, _, _, _, hyl, hg⟩ := DataW.trod_struct Tryd.underlying23 hf
  have hc2 : Tryd.prog.cellsOf 23 = 6 := by kernel_rfl
  have e3 : Tryd.prog.cellsOf 3 = 1 := by kernel_rfl
  have e4 : Tryd.prog.cellsOf 4 = 1 := by kernel_rfl
  rw [hc2] at hsz
  obtain ⟨l⟩ := cs
  obtain ⟨c0, c1, c2, c3, c4, c5, rfl⟩ : ∃ c0 c1 c2 c3 c4 c5, l = [c0, c1, c2, c3, c4, c5] := by
    match l, hsz with
    | [c0, c1, c2, c3, c4, c5], _ => exact ⟨c0, c1, c2, c3, c4, c5, rfl⟩
  have g0 := hg 0 _ rfl
  have g1 := hg 1 _ rfl
  have g2 := hg 2 _ rfl
  have g3 := hg 3 _ rfl
  have g4 := hg 4 _ rfl
  have g5 := hg 5 _ rfl
  simp [Value.cells, e3, e4] at g0 g1 g2 g3 g4 g5
  have hy2 : ys.length = 6 := hyl
  rw [List.getElem?_eq_getElem (show 0 < ys.length by omega)] at g0
  rw [List.getElem?_eq_getElem (show 1 < ys.length by omega)] at g1
  rw [List.getElem?_eq_getElem (show 2 < ys.length by omega)] at g2
  rw [List.getElem?_eq_getElem (show 3 < ys.length by omega)] at g3
  rw [List.getElem?_eq_getElem (show 4 < ys.length by omega)] at g4
  rw [List.getElem?_eq_getElem (show 5 < ys.length by omega)] at g5
  obtain ⟨b0, hb0, _⟩ := DataW.trod_bool Tryd.underlying4 g0
  obtain ⟨b1, hb1, _⟩ := DataW.trod_bool Tryd.underlying4 g1
  obtain ⟨b2, hb2, _⟩ := DataW.trod_bool Tryd.underlying4 g2
  obtain ⟨b3, hb3, _⟩ := DataW.trod_bool Tryd.underlying4 g3
  obtain ⟨b4, hb4, _⟩ := DataW.trod_bool Tryd.underlying4 g4
  obtain ⟨n, hn, _, hw⟩ := DataW.trod_int Tryd.underlying3 g5
  simp only [List.cons.injEq, and_true] at hb0 hb1 hb2 hb3 hb4 hn
  subst hb0 hb1 hb2 hb3 hb4 hn
  have bd := bounds_i64 hw
  exact ⟨⟨b0, b1, b2, b3, b4, n⟩, rfl, bd.1, bd.2⟩

end Go.Proofs.YtjcojkfigacbhaaDoor
