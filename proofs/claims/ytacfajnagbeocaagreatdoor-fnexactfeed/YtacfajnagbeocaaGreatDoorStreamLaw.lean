/- What the laws of chapter 5 lean on: lines among the arguments, copied and compared; how many are told. -/
import Derived.Test.YtacfajnagbeocaaGreatDoorStreamEq2
import Derived.Test.YtacfajnagbeocaaGreatDoorStreamFeedS
namespace Go.Proofs.YtacfajnagbeocaaGreatDoor
open Go.RowKit Go.WideShapes
open Go.Lib hiding intOf

set_option maxRecDepth 100000 in
/-- A line among the arguments: what it holds. -/
theorem openStream {H : Type} {enc : TypeId × Value → H} {W : World} {r : Reach} {b0 : Nat} {v : Value} {d : DataW H} {ps : List MemPlace} (hval : Value.okWide Tryz.prog W r b0 23 v) (h : ∃ fuel, DataW.trod enc Tryz.prog W 0 (fun _ => true) true fuel 23 v.cells.toList = some (d, ps)) :
    ∃ (s : ByteArray) (b : Bool), v = .agg #[.string s, .bool b] ∧ s.size ≤ maxLen := by
  obtain ⟨cs, rfl, hsz⟩ := okWide_struct Tryz.underlying23 hval
  obtain ⟨fuel, hf⟩ := h
  obtain ⟨ys, q, _, _, _, hyl, hg⟩ := DataW.trod_struct Tryz.underlying23 hf
  have hc2 : Tryz.prog.cellsOf 23 = 2 := by kernel_rfl
  have e9 : Tryz.prog.cellsOf 9 = 1 := by kernel_rfl
  have e4 : Tryz.prog.cellsOf 4 = 1 := by kernel_rfl
  rw [hc2] at hsz
  obtain ⟨l⟩ := cs
  obtain ⟨c0, c1, rfl⟩ : ∃ c0 c1, l = [c0, c1] := by
    match l, hsz with
    | [c0, c1], _ => exact ⟨c0, c1, rfl⟩
  have g0 := hg 0 _ rfl
  have g1 := hg 1 _ rfl
  simp [Value.cells, e9, e4] at g0 g1
  have hy2 : ys.length = 2 := hyl
  rw [List.getElem?_eq_getElem (show 0 < ys.length by omega)] at g0
  rw [List.getElem?_eq_getElem (show 1 < ys.length by omega)] at g1
  obtain ⟨s, hs, _, hss⟩ := DataW.trod_string Tryz.underlying9 g0
  obtain ⟨b, hb, _⟩ := DataW.trod_bool Tryz.underlying4 g1
  simp only [List.cons.injEq, and_true] at hs hb
  subst hs hb
  exact ⟨s, b, rfl, hss⟩

set_option maxHeartbeats 1000000 in
theorem szStream_any (s : ByteArray) (b : Bool) (left : Nat) (w : World) (hs : s.size ≤ maxLen) (hl : left ≤ 1048576) :
    Calls Tryz.prog 4 #[.agg #[.string s, .bool b], .int .i64 (left : Int)] w fun e w' => ∃ z : Int, e = .returned (.int .i64 z) ∧ (¬ z < 0 → s.size ≤ left) ∧ Below w.heap.size w w' := by
  unfold maxLen at hs
  have hb : Below w.heap.size w (w.alloc (Obj.cells #[.string s, .bool b] 23)) := (Below.refl _ w).alloc (Nat.le_refl _) _
  have HB : Hid (Below w.heap.size w (w.alloc (Obj.cells #[.string s, .bool b] 23))) := hb
  clear hb
  by_cases h : (left : Int) - (s.size : Int) < 0
  · go_enter Tryz.func4, Tryz.ntmps4
    go_wp2_with fail
    go_ret
    exact ⟨-1, rfl, fun h => by omega, HB.out⟩
  · go_enter Tryz.func4, Tryz.ntmps4
    go_wp2_with fail
    go_ret
    exact ⟨(left : Int) - (s.size : Int), rfl, fun _ => by omega, HB.out⟩

set_option maxHeartbeats 1000000 in
theorem toStream_any (s : ByteArray) (b : Bool) (w : World) :
    Calls Tryz.prog 6 #[.agg #[.string s, .bool b]] w fun e w' => e = .returned (.agg #[.string s, .bool b]) ∧ Below w.heap.size w w' := by
  go_enter Tryz.func6, Tryz.ntmps6
  go_wp2_with fail
  exact bodyPost_ret (v := .agg #[.string s, .bool b]) (by simp [results, Tryz.results6, go_sem]) rfl ⟨rfl, (((Below.refl _ w).alloc (Nat.le_refl _) _).alloc (by simp) _).alloc (by simp; omega) _⟩

set_option maxHeartbeats 1000000 in
theorem eqStream_any (s : ByteArray) (b : Bool) (w : World) :
    Calls Tryz.prog 8 #[.agg #[.string s, .bool b], .agg #[.string s, .bool b]] w fun e w' => e = .returned (.bool true) ∧ Below w.heap.size w w' := by
  have t1 : (s.toList == s.toList) = true := by simp
  have t2 : (b != b) = false := by simp
  go_enter Tryz.func8, Tryz.ntmps8
  go_wp2_with fail
  go_ret
  exact ⟨rfl, ((Below.refl _ w).alloc (Nat.le_refl _) _).alloc (by simp) _⟩

theorem kAt_le : ∀ (rv : List (RqD × Value)) (j : Nat), (∀ x ∈ rv, x.1.fs.length ≤ 8) → kAt rv j ≤ 1 + 19 * j
  | _, 0, _ => by cases ‹List (RqD × Value)› <;> simp [kAt]
  | [], _ + 1, _ => by simp [kAt]
  | x :: t, j + 1, h => by
    have h1 := kAt_le t j (fun y hy => h y (by simp [hy]))
    have h2 := h x (by simp)
    simp only [kAt, stepK]
    omega
theorem FeedP.few {w p u : List UInt8} {b c : Bool} {t : List (List UInt8)} (h : FeedP okL lenL w b p u c t) : 4 * t.length ≤ w.length + p.length := by
  rcases h with ⟨_, _, _, rfl⟩ | ⟨_, u', c', ⟨f, hf⟩, _⟩
  · simp
  · have := (fdF_bound f _ _ _ _ hf).2.2
    rw [List.length_append] at this
    exact this
/-- What was told twice of one line is the same. -/
theorem told_same {w p u1 u2 : List UInt8} {b c1 c2 : Bool} {r1 r2 : List (RqD × Value)} (h1 : FeedP okL lenL w b p u1 c1 (r1.map (fun x => x.1.text))) (h2 : FeedP okL lenL w b p u2 c2 (r2.map (fun x => x.1.text))) (k1 : ∀ x ∈ r1, x.1.ok) (k2 : ∀ x ∈ r2, x.1.ok) : u1 = u2 ∧ c1 = c2 ∧ r1.map Prod.fst = r2.map Prod.fst := by
  obtain ⟨e1, e2, e3⟩ := h1.uniq h2
  refine ⟨e1, e2, rqs_uniq _ _ ?_ ?_ ?_⟩
  · intro r hr
    obtain ⟨x, hx, rfl⟩ := List.mem_map.1 hr
    exact k1 x hx
  · intro r hr
    obtain ⟨x, hx, rfl⟩ := List.mem_map.1 hr
    exact k2 x hx
  · rw [List.map_map, List.map_map]
    exact e3
theorem ok_few {r : RqD} (h : r.ok) : r.fs.length ≤ 8 := h.2.2.1.1

end Go.Proofs.YtacfajnagbeocaaGreatDoor
