/- What the proof of FnExactObjOf leans on: contracts of the program's and the specification's functions, and plain facts (part 3 of 5). -/
import Derived.Test.YtdlhicdfldecgaaGreatFnExactObjOfB
namespace Go.Proofs.YtdlhicdfldecgaaGreat
open Go.RowKit
open Go.Lib hiding intOf

/-- What one word says that is no age. -/
def saidF (x : ByteArray) : CcD := if x = nsW then ⟨true, false, false, false, false, 0⟩ else if x = ncW then ⟨false, true, false, false, false, 0⟩ else if x = prW then ⟨false, false, true, false, false, 0⟩ else if x = muW then ⟨false, false, false, true, false, 0⟩ else cc0
/-- What one word says. -/
noncomputable def saidB (x : ByteArray) : CcD := match ageOf x with
  | some n => ⟨false, false, false, false, true, n⟩
  | none => saidF x
def leastA (a b : CcD) : Int := if a.ha = false then b.age else if b.ha = false then a.age else min a.age b.age
def toge (a b : CcD) : CcD := ⟨a.ns || b.ns, a.nc || b.nc, a.pr || b.pr, a.mu || b.mu, a.ha || b.ha, leastA a b⟩
theorem ageOf_word {x : ByteArray} (h : x = nsW ∨ x = ncW ∨ x = prW ∨ x = muW) : ageOf x = none := by
  unfold ageOf
  rw [if_neg]
  rcases h with rfl | rfl | rfl | rfl <;> decide
theorem step_toge {c : CcD} (h : c.fit) (x : ByteArray) : ccStep c x = toge c (saidB x) := by
  obtain ⟨a0, a1, a2, a3, a4, ax⟩ := c
  have h3 : a4 = false → ax = 0 := h.2.2
  unfold ccStep saidB
  by_cases h0 : x = nsW
  · rw [if_pos h0, ageOf_word (.inl h0)]
    unfold saidF
    rw [if_pos h0]
    cases a4 <;> simp [toge, leastA] <;> exact h3 rfl
  rw [if_neg h0]
  by_cases h1 : x = ncW
  · rw [if_pos h1, ageOf_word (.inr (.inl h1))]
    unfold saidF
    rw [if_neg h0, if_pos h1]
    cases a4 <;> simp [toge, leastA] <;> exact h3 rfl
  rw [if_neg h1]
  by_cases h2 : x = prW
  · rw [if_pos h2, ageOf_word (.inr (.inr (.inl h2)))]
    unfold saidF
    rw [if_neg h0, if_neg h1, if_pos h2]
    cases a4 <;> simp [toge, leastA] <;> exact h3 rfl
  rw [if_neg h2]
  by_cases h4 : x = muW
  · rw [if_pos h4, ageOf_word (.inr (.inr (.inr h4)))]
    unfold saidF
    rw [if_neg h0, if_neg h1, if_neg h2, if_pos h4]
    cases a4 <;> simp [toge, leastA] <;> exact h3 rfl
  rw [if_neg h4]
  cases ageOf x with
  | none =>
    dsimp only
    unfold saidF
    rw [if_neg h0, if_neg h1, if_neg h2, if_neg h4]
    cases a4 <;> simp [toge, leastA, cc0] <;> exact h3 rfl
  | some n => cases a4 <;> simp [toge, leastA]

theorem putCc_other {w : World} {g j : Nat} {d : CcD} (h : j ≠ g) : (putCc w g d).heap[j]? = w.heap[j]? := by
  unfold putCc
  rw [heap_setCell_other _ _ j _ h, heap_setCell_other _ _ j _ h, heap_setCell_other _ _ j _ h, heap_setCell_other _ _ j _ h, heap_setCell_other _ _ j _ h, heap_setCell_other _ _ j _ h]
/-- 'wpAnyH_take', its place named. -/
theorem wpAnyH_takeD {P : Program} {ops : Array Oper} {Q : Exit → Act → World → Prop} {md : Region.Mode} {S : World → Prop} {i : Nat} {oi : Oper} {v : Value} {fuel : Nat} {listed : Array Bool} {a : Act} {w : World} (d : Option Tmp) (hi : ops[i]? = some oi) (hd : oi.dst = d)
    (hs : Region.noSelect ops = true) (hf : Region.free md ops listed i = true) (hr : (Region.ready md ops listed).contains i = true)
    (hQ : ∀ c a w, Q (.panic c) (a.put oi.dst v) w → Q (.panic c) a w) (hy : YieldsIf P ops S oi v a) (hS : S w)
    (h : wpAnyH P md ops Q S fuel (listed.setIfInBounds i true) (a.put d v) w) : wpAnyH P md ops Q S (fuel + 1) listed a w :=
  wpAnyH_take hi hs hf hr hQ hy hS (hd ▸ h)
theorem yieldsIf_guard {P : Program} {ops : Array Oper} {S : World → Prop} {o : Oper} {v : Value} {a : Act} (g : Bool) (hw : Region.wanted o (yielded ops a.tmps) = g) (hv : g = true → ∀ w, S w → (execOp a.eval o).run P w = .ok (.value v) w) : YieldsIf P ops S o (if g = true then v else undef) a := by
  cases g with
  | true => exact Or.inl ⟨hw, by simpa using hv rfl⟩
  | false => exact Or.inr ⟨hw, by simp⟩

set_option maxHeartbeats 1000000 in
theorem leastAge_any (a b : CcD) (w : World) :
    Calls Tryz.prog 100 #[a.v, b.v] w fun e w' => e = .returned (.int .i64 (leastA a b)) ∧ Below w.heap.size w w' := by
  obtain ⟨a0, a1, a2, a3, a4, ax⟩ := a
  obtain ⟨b0, b1, b2, b3, b4, bx⟩ := b
  have HB : Hid (∀ o1 o2, Below w.heap.size w ((w.alloc o1).alloc o2)) := fun o1 o2 => ((Below.refl _ w).alloc (Nat.le_refl _) _).alloc (by simp) _
  have HE : Hid (leastA ⟨a0, a1, a2, a3, a4, ax⟩ ⟨b0, b1, b2, b3, b4, bx⟩ = if a4 = false then bx else if b4 = false then ax else min ax bx) := rfl
  show Calls _ _ #[.agg #[.bool a0, .bool a1, .bool a2, .bool a3, .bool a4, .int .i64 ax], .agg #[.bool b0, .bool b1, .bool b2, .bool b3, .bool b4, .int .i64 bx]] _ _
  cases a4 with
  | false =>
    go_enter Tryz.func100, Tryz.ntmps100
    go_wp2
    go_ret
    exact ⟨by rw [HE.out]; rfl, HB.out _ _⟩
  | true =>
    cases b4 with
    | false =>
      go_enter Tryz.func100, Tryz.ntmps100
      go_wp2
      go_ret
      exact ⟨by rw [HE.out]; rfl, HB.out _ _⟩
    | true =>
      go_enter Tryz.func100, Tryz.ntmps100
      go_wp2
      go_ret
      exact ⟨by rw [HE.out]; rfl, HB.out _ _⟩

set_option maxHeartbeats 8000000 in
set_option maxRecDepth 100000 in
theorem together_any (a b : CcD) (w : World) :
    Calls Tryz.prog 90 #[a.v, b.v] w fun e w' => e = .returned (toge a b).v ∧ Below w.heap.size w w' := by
  obtain ⟨a0, a1, a2, a3, a4, ax⟩ := a
  obtain ⟨b0, b1, b2, b3, b4, bx⟩ := b
  show Calls _ _ #[.agg #[.bool a0, .bool a1, .bool a2, .bool a3, .bool a4, .int .i64 ax], .agg #[.bool b0, .bool b1, .bool b2, .bool b3, .bool b4, .int .i64 bx]] _ _
  obtain ⟨H, hH⟩ : ∃ H, H = w.heap.size := ⟨_, rfl⟩
  have HW : Hid (w.heap.size = H) := hH.symm
  obtain ⟨W1, hW1⟩ : ∃ W, W = ((w.alloc (.cells #[.bool a0, .bool a1, .bool a2, .bool a3, .bool a4, .int .i64 ax] 66)).alloc (.cells #[.bool b0, .bool b1, .bool b2, .bool b3, .bool b4, .int .i64 bx] 66)).alloc (.cells #[.bool false, .bool false, .bool false, .bool false, .bool false, .int .i64 0] 66) := ⟨_, rfl⟩
  have HS1 : CcAt W1 H (⟨a0, a1, a2, a3, a4, ax⟩ : CcD) ∧ CcAt W1 (H + 1) (⟨b0, b1, b2, b3, b4, bx⟩ : CcD) ∧ CcAt W1 (H + 1 + 1) cc0 ∧ Below H w W1 := by
    have e1 := heap_alloc_new w (.cells #[.bool a0, .bool a1, .bool a2, .bool a3, .bool a4, .int .i64 ax] 66)
    have e2 := heap_alloc_new (w.alloc (.cells #[.bool a0, .bool a1, .bool a2, .bool a3, .bool a4, .int .i64 ax] 66)) (.cells #[.bool b0, .bool b1, .bool b2, .bool b3, .bool b4, .int .i64 bx] 66)
    have e3 := heap_alloc_new ((w.alloc (.cells #[.bool a0, .bool a1, .bool a2, .bool a3, .bool a4, .int .i64 ax] 66)).alloc (.cells #[.bool b0, .bool b1, .bool b2, .bool b3, .bool b4, .int .i64 bx] 66)) (.cells #[.bool false, .bool false, .bool false, .bool false, .bool false, .int .i64 0] 66)
    rw [World.size_alloc] at e2
    rw [World.size_alloc, World.size_alloc] at e3
    refine ⟨?_, ?_, ?_, ?_⟩
    · unfold CcAt; rw [hW1, hH, heap_alloc_old _ _ (by simp; omega), heap_alloc_old _ _ (by simp)]; exact e1
    · unfold CcAt; rw [hW1, hH, heap_alloc_old _ _ (by simp)]; exact e2
    · unfold CcAt; rw [hW1, hH]; exact e3
    · rw [hW1, hH]; exact (((Below.refl _ w).alloc (Nat.le_refl _) _).alloc (by simp) _).alloc (by simp; omega) _
  have HW1 : Hid (((w.alloc (.cells #[.bool a0, .bool a1, .bool a2, .bool a3, .bool a4, .int .i64 ax] 66)).alloc (.cells #[.bool b0, .bool b1, .bool b2, .bool b3, .bool b4, .int .i64 bx] 66)).alloc (.cells #[.bool false, .bool false, .bool false, .bool false, .bool false, .int .i64 0] 66) = W1) := hW1.symm
  have HL := leastAge_any (⟨a0, a1, a2, a3, a4, ax⟩ : CcD) (⟨b0, b1, b2, b3, b4, bx⟩ : CcD)
  dsimp only [CcD.v] at HL
  obtain ⟨m, hm⟩ : ∃ m, m = leastA (⟨a0, a1, a2, a3, a4, ax⟩ : CcD) (⟨b0, b1, b2, b3, b4, bx⟩ : CcD) := ⟨_, rfl⟩
  rw [← hm] at HL
  have HLL : Hid _ := HL
  have HM : Hid (m = leastA (⟨a0, a1, a2, a3, a4, ax⟩ : CcD) (⟨b0, b1, b2, b3, b4, bx⟩ : CcD)) := hm
  clear hW1 HL hm
  go_enter Tryz.func90, Tryz.ntmps90
  go_upto_region 1 with fail
  rw [HW1.out, ← hH]
  clear hH HW1
  refine wp_region_held_drew (S := fun W => CcAt W H (⟨a0, a1, a2, a3, a4, ax⟩ : CcD) ∧ CcAt W (H + 1) (⟨b0, b1, b2, b3, b4, bx⟩ : CcD) ∧ (∃ c, CcAt W (H + 1 + 1) c) ∧ Below H w W) (by kernel_rfl) ⟨HS1.1, HS1.2.1, ⟨_, HS1.2.2.1⟩, HS1.2.2.2.drew⟩ (fun hHeld => ?_)
  clear HS1
  refine wpAnyH_takeD (i := 0) (v := .pointer (some ⟨H, 0, none⟩)) (some 5) rfl rfl (by kernel_rfl) (by kernel_rfl) (by kernel_rfl) (fun _ _ _ h => h) (Or.inl ⟨by rfl, by intro W hSW; obtain ⟨⟨p0, p1, p2, p3, p4, p5⟩, ⟨r0, r1, r2, r3, r4, r5⟩⟩ := And.intro hSW.1.cells hSW.2.1.cells; dsimp only at p0 p1 p2 p3 p4 p5 r0 r1 r2 r3 r4 r5; go_simp⟩) (by assumption) ?_
  simp only [Act.put, List.setIfInBounds_toArray, List.set_cons_zero, List.set_cons_succ]
  refine wpAnyH_takeD (i := 1) (v := .bool a0) (some 6) rfl rfl (by kernel_rfl) (by kernel_rfl) (by kernel_rfl) (fun _ _ _ h => h) (Or.inl ⟨by rfl, by intro W hSW; obtain ⟨⟨p0, p1, p2, p3, p4, p5⟩, ⟨r0, r1, r2, r3, r4, r5⟩⟩ := And.intro hSW.1.cells hSW.2.1.cells; dsimp only at p0 p1 p2 p3 p4 p5 r0 r1 r2 r3 r4 r5; go_simp⟩) (by assumption) ?_
  simp only [Act.put, List.setIfInBounds_toArray, List.set_cons_zero, List.set_cons_succ]
  refine wpAnyH_takeD (i := 2) (v := .bool a0) (some 7) rfl rfl (by kernel_rfl) (by kernel_rfl) (by kernel_rfl) (fun _ _ _ h => h) (Or.inl ⟨by rfl, by intro W hSW; obtain ⟨⟨p0, p1, p2, p3, p4, p5⟩, ⟨r0, r1, r2, r3, r4, r5⟩⟩ := And.intro hSW.1.cells hSW.2.1.cells; dsimp only at p0 p1 p2 p3 p4 p5 r0 r1 r2 r3 r4 r5; go_simp⟩) (by assumption) ?_
  simp only [Act.put, List.setIfInBounds_toArray, List.set_cons_zero, List.set_cons_succ]
  refine wpAnyH_takeD (i := 3) (v := if (!a0) = true then .pointer (some ⟨H + 1, 0, none⟩) else undef) (some 8) rfl rfl (by kernel_rfl) (by kernel_rfl) (by kernel_rfl) (fun _ _ _ h => h) (yieldsIf_guard (!a0) (by cases a0 <;> rfl) (fun hg => by cases a0 with | true => cases hg | false => (intro W hSW; obtain ⟨⟨p0, p1, p2, p3, p4, p5⟩, ⟨r0, r1, r2, r3, r4, r5⟩⟩ := And.intro hSW.1.cells hSW.2.1.cells; dsimp only at p0 p1 p2 p3 p4 p5 r0 r1 r2 r3 r4 r5; go_simp))) (by assumption) ?_
  simp only [Act.put, List.setIfInBounds_toArray, List.set_cons_zero, List.set_cons_succ]
  refine wpAnyH_takeD (i := 4) (v := if (!a0) = true then .bool b0 else undef) (some 9) rfl rfl (by kernel_rfl) (by kernel_rfl) (by kernel_rfl) (fun _ _ _ h => h) (yieldsIf_guard (!a0) (by cases a0 <;> rfl) (fun hg => by cases a0 with | true => cases hg | false => (intro W hSW; obtain ⟨⟨p0, p1, p2, p3, p4, p5⟩, ⟨r0, r1, r2, r3, r4, r5⟩⟩ := And.intro hSW.1.cells hSW.2.1.cells; dsimp only at p0 p1 p2 p3 p4 p5 r0 r1 r2 r3 r4 r5; go_simp))) (by assumption) ?_
  simp only [Act.put, List.setIfInBounds_toArray, List.set_cons_zero, List.set_cons_succ]
  refine wpAnyH_takeD (i := 5) (v := .bool (a0 || b0)) (some 10) rfl rfl (by kernel_rfl) (by kernel_rfl) (by kernel_rfl) (fun _ _ _ h => h) (Or.inl ⟨by rfl, by intro W hSW; cases a0 <;> go_simp⟩) (by assumption) ?_
  simp only [Act.put, List.setIfInBounds_toArray, List.set_cons_zero, List.set_cons_succ]
  generalize (if (!a0) = true then Value.pointer (some ⟨H + 1, 0, none⟩) else undef) = z0
  generalize (if (!a0) = true then Value.bool b0 else undef) = y0
  refine wpAnyH_takeD (i := 6) (v := .pointer (some ⟨H, 1, none⟩)) (some 11) rfl rfl (by kernel_rfl) (by kernel_rfl) (by kernel_rfl) (fun _ _ _ h => h) (Or.inl ⟨by rfl, by intro W hSW; obtain ⟨⟨p0, p1, p2, p3, p4, p5⟩, ⟨r0, r1, r2, r3, r4, r5⟩⟩ := And.intro hSW.1.cells hSW.2.1.cells; dsimp only at p0 p1 p2 p3 p4 p5 r0 r1 r2 r3 r4 r5; go_simp⟩) (by assumption) ?_
  simp only [Act.put, List.setIfInBounds_toArray, List.set_cons_zero, List.set_cons_succ]
  refine wpAnyH_takeD (i := 7) (v := .bool a1) (some 12) rfl rfl (by kernel_rfl) (by kernel_rfl) (by kernel_rfl) (fun _ _ _ h => h) (Or.inl ⟨by rfl, by intro W hSW; obtain ⟨⟨p0, p1, p2, p3, p4, p5⟩, ⟨r0, r1, r2, r3, r4, r5⟩⟩ := And.intro hSW.1.cells hSW.2.1.cells; dsimp only at p0 p1 p2 p3 p4 p5 r0 r1 r2 r3 r4 r5; go_simp⟩) (by assumption) ?_
  simp only [Act.put, List.setIfInBounds_toArray, List.set_cons_zero, List.set_cons_succ]
  refine wpAnyH_takeD (i := 8) (v := .bool a1) (some 13) rfl rfl (by kernel_rfl) (by kernel_rfl) (by kernel_rfl) (fun _ _ _ h => h) (Or.inl ⟨by rfl, by intro W hSW; obtain ⟨⟨p0, p1, p2, p3, p4, p5⟩, ⟨r0, r1, r2, r3, r4, r5⟩⟩ := And.intro hSW.1.cells hSW.2.1.cells; dsimp only at p0 p1 p2 p3 p4 p5 r0 r1 r2 r3 r4 r5; go_simp⟩) (by assumption) ?_
  simp only [Act.put, List.setIfInBounds_toArray, List.set_cons_zero, List.set_cons_succ]
  refine wpAnyH_takeD (i := 9) (v := if (!a1) = true then .pointer (some ⟨H + 1, 1, none⟩) else undef) (some 14) rfl rfl (by kernel_rfl) (by kernel_rfl) (by kernel_rfl) (fun _ _ _ h => h) (yieldsIf_guard (!a1) (by cases a1 <;> rfl) (fun hg => by cases a1 with | true => cases hg | false => (intro W hSW; obtain ⟨⟨p0, p1, p2, p3, p4, p5⟩, ⟨r0, r1, r2, r3, r4, r5⟩⟩ := And.intro hSW.1.cells hSW.2.1.cells; dsimp only at p0 p1 p2 p3 p4 p5 r0 r1 r2 r3 r4 r5; go_simp))) (by assumption) ?_
  simp only [Act.put, List.setIfInBounds_toArray, List.set_cons_zero, List.set_cons_succ]
  refine wpAnyH_takeD (i := 10) (v := if (!a1) = true then .bool b1 else undef) (some 15) rfl rfl (by kernel_rfl) (by kernel_rfl) (by kernel_rfl) (fun _ _ _ h => h) (yieldsIf_guard (!a1) (by cases a1 <;> rfl) (fun hg => by cases a1 with | true => cases hg | false => (intro W hSW; obtain ⟨⟨p0, p1, p2, p3, p4, p5⟩, ⟨r0, r1, r2, r3, r4, r5⟩⟩ := And.intro hSW.1.cells hSW.2.1.cells; dsimp only at p0 p1 p2 p3 p4 p5 r0 r1 r2 r3 r4 r5; go_simp))) (by assumption) ?_
  simp only [Act.put, List.setIfInBounds_toArray, List.set_cons_zero, List.set_cons_succ]
  refine wpAnyH_takeD (i := 11) (v := .bool (a1 || b1)) (some 16) rfl rfl (by kernel_rfl) (by kernel_rfl) (by kernel_rfl) (fun _ _ _ h => h) (Or.inl ⟨by rfl, by intro W hSW; cases a1 <;> go_simp⟩) (by assumption) ?_
  simp only [Act.put, List.setIfInBounds_toArray, List.set_cons_zero, List.set_cons_succ]
  generalize (if (!a1) = true then Value.pointer (some ⟨H + 1, 1, none⟩) else undef) = z1
  generalize (if (!a1) = true then Value.bool b1 else undef) = y1
  refine wpAnyH_takeD (i := 12) (v := .pointer (some ⟨H, 2, none⟩)) (some 17) rfl rfl (by kernel_rfl) (by kernel_rfl) (by kernel_rfl) (fun _ _ _ h => h) (Or.inl ⟨by rfl, by intro W hSW; obtain ⟨⟨p0, p1, p2, p3, p4, p5⟩, ⟨r0, r1, r2, r3, r4, r5⟩⟩ := And.intro hSW.1.cells hSW.2.1.cells; dsimp only at p0 p1 p2 p3 p4 p5 r0 r1 r2 r3 r4 r5; go_simp⟩) (by assumption) ?_
  simp only [Act.put, List.setIfInBounds_toArray, List.set_cons_zero, List.set_cons_succ]
  refine wpAnyH_takeD (i := 13) (v := .bool a2) (some 18) rfl rfl (by kernel_rfl) (by kernel_rfl) (by kernel_rfl) (fun _ _ _ h => h) (Or.inl ⟨by rfl, by intro W hSW; obtain ⟨⟨p0, p1, p2, p3, p4, p5⟩, ⟨r0, r1, r2, r3, r4, r5⟩⟩ := And.intro hSW.1.cells hSW.2.1.cells; dsimp only at p0 p1 p2 p3 p4 p5 r0 r1 r2 r3 r4 r5; go_simp⟩) (by assumption) ?_
  simp only [Act.put, List.setIfInBounds_toArray, List.set_cons_zero, List.set_cons_succ]
  refine wpAnyH_takeD (i := 14) (v := .bool a2) (some 19) rfl rfl (by kernel_rfl) (by kernel_rfl) (by kernel_rfl) (fun _ _ _ h => h) (Or.inl ⟨by rfl, by intro W hSW; obtain ⟨⟨p0, p1, p2, p3, p4, p5⟩, ⟨r0, r1, r2, r3, r4, r5⟩⟩ := And.intro hSW.1.cells hSW.2.1.cells; dsimp only at p0 p1 p2 p3 p4 p5 r0 r1 r2 r3 r4 r5; go_simp⟩) (by assumption) ?_
  simp only [Act.put, List.setIfInBounds_toArray, List.set_cons_zero, List.set_cons_succ]
  refine wpAnyH_takeD (i := 15) (v := if (!a2) = true then .pointer (some ⟨H + 1, 2, none⟩) else undef) (some 20) rfl rfl (by kernel_rfl) (by kernel_rfl) (by kernel_rfl) (fun _ _ _ h => h) (yieldsIf_guard (!a2) (by cases a2 <;> rfl) (fun hg => by cases a2 with | true => cases hg | false => (intro W hSW; obtain ⟨⟨p0, p1, p2, p3, p4, p5⟩, ⟨r0, r1, r2, r3, r4, r5⟩⟩ := And.intro hSW.1.cells hSW.2.1.cells; dsimp only at p0 p1 p2 p3 p4 p5 r0 r1 r2 r3 r4 r5; go_simp))) (by assumption) ?_
  simp only [Act.put, List.setIfInBounds_toArray, List.set_cons_zero, List.set_cons_succ]
  refine wpAnyH_takeD (i := 16) (v := if (!a2) = true then .bool b2 else undef) (some 21) rfl rfl (by kernel_rfl) (by kernel_rfl) (by kernel_rfl) (fun _ _ _ h => h) (yieldsIf_guard (!a2) (by cases a2 <;> rfl) (fun hg => by cases a2 with | true => cases hg | false => (intro W hSW; obtain ⟨⟨p0, p1, p2, p3, p4, p5⟩, ⟨r0, r1, r2, r3, r4, r5⟩⟩ := And.intro hSW.1.cells hSW.2.1.cells; dsimp only at p0 p1 p2 p3 p4 p5 r0 r1 r2 r3 r4 r5; go_simp))) (by assumption) ?_
  simp only [Act.put, List.setIfInBounds_toArray, List.set_cons_zero, List.set_cons_succ]
  refine wpAnyH_takeD (i := 17) (v := .bool (a2 || b2)) (some 22) rfl rfl (by kernel_rfl) (by kernel_rfl) (by kernel_rfl) (fun _ _ _ h => h) (Or.inl ⟨by rfl, by intro W hSW; cases a2 <;> go_simp⟩) (by assumption) ?_
  simp only [Act.put, List.setIfInBounds_toArray, List.set_cons_zero, List.set_cons_succ]
  generalize (if (!a2) = true then Value.pointer (some ⟨H + 1, 2, none⟩) else undef) = z2
  generalize (if (!a2) = true then Value.bool b2 else undef) = y2
  refine wpAnyH_takeD (i := 18) (v := .pointer (some ⟨H, 3, none⟩)) (some 23) rfl rfl (by kernel_rfl) (by kernel_rfl) (by kernel_rfl) (fun _ _ _ h => h) (Or.inl ⟨by rfl, by intro W hSW; obtain ⟨⟨p0, p1, p2, p3, p4, p5⟩, ⟨r0, r1, r2, r3, r4, r5⟩⟩ := And.intro hSW.1.cells hSW.2.1.cells; dsimp only at p0 p1 p2 p3 p4 p5 r0 r1 r2 r3 r4 r5; go_simp⟩) (by assumption) ?_
  simp only [Act.put, List.setIfInBounds_toArray, List.set_cons_zero, List.set_cons_succ]
  refine wpAnyH_takeD (i := 19) (v := .bool a3) (some 24) rfl rfl (by kernel_rfl) (by kernel_rfl) (by kernel_rfl) (fun _ _ _ h => h) (Or.inl ⟨by rfl, by intro W hSW; obtain ⟨⟨p0, p1, p2, p3, p4, p5⟩, ⟨r0, r1, r2, r3, r4, r5⟩⟩ := And.intro hSW.1.cells hSW.2.1.cells; dsimp only at p0 p1 p2 p3 p4 p5 r0 r1 r2 r3 r4 r5; go_simp⟩) (by assumption) ?_
  simp only [Act.put, List.setIfInBounds_toArray, List.set_cons_zero, List.set_cons_succ]
  refine wpAnyH_takeD (i := 20) (v := .bool a3) (some 25) rfl rfl (by kernel_rfl) (by kernel_rfl) (by kernel_rfl) (fun _ _ _ h => h) (Or.inl ⟨by rfl, by intro W hSW; obtain ⟨⟨p0, p1, p2, p3, p4, p5⟩, ⟨r0, r1, r2, r3, r4, r5⟩⟩ := And.intro hSW.1.cells hSW.2.1.cells; dsimp only at p0 p1 p2 p3 p4 p5 r0 r1 r2 r3 r4 r5; go_simp⟩) (by assumption) ?_
  simp only [Act.put, List.setIfInBounds_toArray, List.set_cons_zero, List.set_cons_succ]
  refine wpAnyH_takeD (i := 21) (v := if (!a3) = true then .pointer (some ⟨H + 1, 3, none⟩) else undef) (some 26) rfl rfl (by kernel_rfl) (by kernel_rfl) (by kernel_rfl) (fun _ _ _ h => h) (yieldsIf_guard (!a3) (by cases a3 <;> rfl) (fun hg => by cases a3 with | true => cases hg | false => (intro W hSW; obtain ⟨⟨p0, p1, p2, p3, p4, p5⟩, ⟨r0, r1, r2, r3, r4, r5⟩⟩ := And.intro hSW.1.cells hSW.2.1.cells; dsimp only at p0 p1 p2 p3 p4 p5 r0 r1 r2 r3 r4 r5; go_simp))) (by assumption) ?_
  simp only [Act.put, List.setIfInBounds_toArray, List.set_cons_zero, List.set_cons_succ]
  refine wpAnyH_takeD (i := 22) (v := if (!a3) = true then .bool b3 else undef) (some 27) rfl rfl (by kernel_rfl) (by kernel_rfl) (by kernel_rfl) (fun _ _ _ h => h) (yieldsIf_guard (!a3) (by cases a3 <;> rfl) (fun hg => by cases a3 with | true => cases hg | false => (intro W hSW; obtain ⟨⟨p0, p1, p2, p3, p4, p5⟩, ⟨r0, r1, r2, r3, r4, r5⟩⟩ := And.intro hSW.1.cells hSW.2.1.cells; dsimp only at p0 p1 p2 p3 p4 p5 r0 r1 r2 r3 r4 r5; go_simp))) (by assumption) ?_
  simp only [Act.put, List.setIfInBounds_toArray, List.set_cons_zero, List.set_cons_succ]
  refine wpAnyH_takeD (i := 23) (v := .bool (a3 || b3)) (some 28) rfl rfl (by kernel_rfl) (by kernel_rfl) (by kernel_rfl) (fun _ _ _ h => h) (Or.inl ⟨by rfl, by intro W hSW; cases a3 <;> go_simp⟩) (by assumption) ?_
  simp only [Act.put, List.setIfInBounds_toArray, List.set_cons_zero, List.set_cons_succ]
  generalize (if (!a3) = true then Value.pointer (some ⟨H + 1, 3, none⟩) else undef) = z3
  generalize (if (!a3) = true then Value.bool b3 else undef) = y3
  refine wpAnyH_takeD (i := 24) (v := .pointer (some ⟨H, 4, none⟩)) (some 29) rfl rfl (by kernel_rfl) (by kernel_rfl) (by kernel_rfl) (fun _ _ _ h => h) (Or.inl ⟨by rfl, by intro W hSW; obtain ⟨⟨p0, p1, p2, p3, p4, p5⟩, ⟨r0, r1, r2, r3, r4, r5⟩⟩ := And.intro hSW.1.cells hSW.2.1.cells; dsimp only at p0 p1 p2 p3 p4 p5 r0 r1 r2 r3 r4 r5; go_simp⟩) (by assumption) ?_
  simp only [Act.put, List.setIfInBounds_toArray, List.set_cons_zero, List.set_cons_succ]
  refine wpAnyH_takeD (i := 25) (v := .bool a4) (some 30) rfl rfl (by kernel_rfl) (by kernel_rfl) (by kernel_rfl) (fun _ _ _ h => h) (Or.inl ⟨by rfl, by intro W hSW; obtain ⟨⟨p0, p1, p2, p3, p4, p5⟩, ⟨r0, r1, r2, r3, r4, r5⟩⟩ := And.intro hSW.1.cells hSW.2.1.cells; dsimp only at p0 p1 p2 p3 p4 p5 r0 r1 r2 r3 r4 r5; go_simp⟩) (by assumption) ?_
  simp only [Act.put, List.setIfInBounds_toArray, List.set_cons_zero, List.set_cons_succ]
  refine wpAnyH_takeD (i := 26) (v := .bool a4) (some 31) rfl rfl (by kernel_rfl) (by kernel_rfl) (by kernel_rfl) (fun _ _ _ h => h) (Or.inl ⟨by rfl, by intro W hSW; obtain ⟨⟨p0, p1, p2, p3, p4, p5⟩, ⟨r0, r1, r2, r3, r4, r5⟩⟩ := And.intro hSW.1.cells hSW.2.1.cells; dsimp only at p0 p1 p2 p3 p4 p5 r0 r1 r2 r3 r4 r5; go_simp⟩) (by assumption) ?_
  simp only [Act.put, List.setIfInBounds_toArray, List.set_cons_zero, List.set_cons_succ]
  refine wpAnyH_takeD (i := 27) (v := if (!a4) = true then .pointer (some ⟨H + 1, 4, none⟩) else undef) (some 32) rfl rfl (by kernel_rfl) (by kernel_rfl) (by kernel_rfl) (fun _ _ _ h => h) (yieldsIf_guard (!a4) (by cases a4 <;> rfl) (fun hg => by cases a4 with | true => cases hg | false => (intro W hSW; obtain ⟨⟨p0, p1, p2, p3, p4, p5⟩, ⟨r0, r1, r2, r3, r4, r5⟩⟩ := And.intro hSW.1.cells hSW.2.1.cells; dsimp only at p0 p1 p2 p3 p4 p5 r0 r1 r2 r3 r4 r5; go_simp))) (by assumption) ?_
  simp only [Act.put, List.setIfInBounds_toArray, List.set_cons_zero, List.set_cons_succ]
  refine wpAnyH_takeD (i := 28) (v := if (!a4) = true then .bool b4 else undef) (some 33) rfl rfl (by kernel_rfl) (by kernel_rfl) (by kernel_rfl) (fun _ _ _ h => h) (yieldsIf_guard (!a4) (by cases a4 <;> rfl) (fun hg => by cases a4 with | true => cases hg | false => (intro W hSW; obtain ⟨⟨p0, p1, p2, p3, p4, p5⟩, ⟨r0, r1, r2, r3, r4, r5⟩⟩ := And.intro hSW.1.cells hSW.2.1.cells; dsimp only at p0 p1 p2 p3 p4 p5 r0 r1 r2 r3 r4 r5; go_simp))) (by assumption) ?_
  simp only [Act.put, List.setIfInBounds_toArray, List.set_cons_zero, List.set_cons_succ]
  refine wpAnyH_takeD (i := 29) (v := .bool (a4 || b4)) (some 34) rfl rfl (by kernel_rfl) (by kernel_rfl) (by kernel_rfl) (fun _ _ _ h => h) (Or.inl ⟨by rfl, by intro W hSW; cases a4 <;> go_simp⟩) (by assumption) ?_
  simp only [Act.put, List.setIfInBounds_toArray, List.set_cons_zero, List.set_cons_succ]
  generalize (if (!a4) = true then Value.pointer (some ⟨H + 1, 4, none⟩) else undef) = z4
  generalize (if (!a4) = true then Value.bool b4 else undef) = y4
  refine wpAnyH_takeD (i := 30) (v := .agg #[.bool a0, .bool a1, .bool a2, .bool a3, .bool a4, .int .i64 ax]) (some 35) rfl rfl (by kernel_rfl) (by kernel_rfl) (by kernel_rfl) (fun _ _ _ h => h) (Or.inl ⟨by rfl, by intro W hSW; obtain ⟨⟨p0, p1, p2, p3, p4, p5⟩, ⟨r0, r1, r2, r3, r4, r5⟩⟩ := And.intro hSW.1.cells hSW.2.1.cells; dsimp only at p0 p1 p2 p3 p4 p5 r0 r1 r2 r3 r4 r5; go_simp⟩) (by assumption) ?_
  simp only [Act.put, List.setIfInBounds_toArray, List.set_cons_zero, List.set_cons_succ]
  refine wpAnyH_takeD (i := 31) (v := .agg #[.bool b0, .bool b1, .bool b2, .bool b3, .bool b4, .int .i64 bx]) (some 36) rfl rfl (by kernel_rfl) (by kernel_rfl) (by kernel_rfl) (fun _ _ _ h => h) (Or.inl ⟨by rfl, by intro W hSW; obtain ⟨⟨p0, p1, p2, p3, p4, p5⟩, ⟨r0, r1, r2, r3, r4, r5⟩⟩ := And.intro hSW.1.cells hSW.2.1.cells; dsimp only at p0 p1 p2 p3 p4 p5 r0 r1 r2 r3 r4 r5; go_simp⟩) (by assumption) ?_
  simp only [Act.put, List.setIfInBounds_toArray, List.set_cons_zero, List.set_cons_succ]
  refine wpAnyH_ready (rs := [32]) (by kernel_rfl) (by simp) ?_
  refine AllReadyH.cons rfl (fun K hK => ?_) AllReadyH.nil
  go_simp
  refine (HLL.out _).mono ?_
  rintro e w2 ⟨rfl, bt⟩
  have hS2 : CcAt w2 H (⟨a0, a1, a2, a3, a4, ax⟩ : CcD) ∧ CcAt w2 (H + 1) (⟨b0, b1, b2, b3, b4, bx⟩ : CcD) ∧ (∃ c, CcAt w2 (H + 1 + 1) c) ∧ Below H w w2 :=
    ⟨hHeld.1.same (bt.block _ hHeld.1.lt), hHeld.2.1.same (bt.block _ hHeld.2.1.lt), hHeld.2.2.1.imp fun _ h => h.same (bt.block _ h.lt), hHeld.2.2.2.trans (bt.mono (Nat.le_of_lt hHeld.1.lt))⟩
  refine hK.out _ _ hS2 (fun hHeld2 => ?_)
  clear hK K hHeld bt hHeld2
  refine wpAnyH_takeD (i := 33) (v := .agg #[.bool (a0 || b0), .bool (a1 || b1), .bool (a2 || b2), .bool (a3 || b3), .bool (a4 || b4), .int .i64 m]) (some 38) rfl rfl (by kernel_rfl) (by kernel_rfl) (by kernel_rfl) (fun _ _ _ h => h) (Or.inl ⟨by rfl, by intro W hSW; clear hSW; go_simp⟩) hS2 ?_
  simp only [Act.put, List.setIfInBounds_toArray, List.set_cons_zero, List.set_cons_succ]
  refine wpAnyH_ready (rs := [34]) (by kernel_rfl) (by simp) ?_
  refine AllReadyH.cons rfl (fun K hK => ?_) AllReadyH.nil
  obtain ⟨z, hz⟩ := hS2.2.2.1
  obtain ⟨r0, r1, r2, r3, r4, r5⟩ := hz.cells
  have f0 := hz.frozen 0
  have f1 := hz.frozen 1
  have f2 := hz.frozen 2
  have f3 := hz.frozen 3
  have f4 := hz.frozen 4
  have f5 := hz.frozen 5
  obtain ⟨c, hc⟩ : ∃ c : CcD, c = ⟨a0 || b0, a1 || b1, a2 || b2, a3 || b3, a4 || b4, m⟩ := ⟨_, rfl⟩
  have HC : Hid (c = toge (⟨a0, a1, a2, a3, a4, ax⟩ : CcD) (⟨b0, b1, b2, b3, b4, bx⟩ : CcD)) := by show _ = _; rw [hc, HM.out]; rfl
  have HP : Hid (CcAt (putCc w2 (H + 1 + 1) c) (H + 1 + 1) c) := hz.putAll c
  have HB : Hid (Below H w (putCc w2 (H + 1 + 1) c)) := below_putCc hS2.2.2.2 (by omega) c
  have HS3 : Hid (CcAt (putCc w2 (H + 1 + 1) c) H (⟨a0, a1, a2, a3, a4, ax⟩ : CcD) ∧ CcAt (putCc w2 (H + 1 + 1) c) (H + 1) (⟨b0, b1, b2, b3, b4, bx⟩ : CcD)) :=
    ⟨hS2.1.same (putCc_other (by omega)), hS2.2.1.same (putCc_other (by omega))⟩
  have HPC : Hid (putCc w2 (H + 1 + 1) c = (((((w2.setCell ⟨H + 1 + 1, 0, none⟩ (.bool (a0 || b0))).setCell ⟨H + 1 + 1, 1, none⟩ (.bool (a1 || b1))).setCell ⟨H + 1 + 1, 2, none⟩ (.bool (a2 || b2))).setCell ⟨H + 1 + 1, 3, none⟩ (.bool (a3 || b3))).setCell ⟨H + 1 + 1, 4, none⟩ (.bool (a4 || b4))).setCell ⟨H + 1 + 1, 5, none⟩ (.int .i64 m)) := by show _ = _; rw [hc]; rfl
  clear hS2 hz hc
  go_simp
  rw [← HPC.out]
  obtain ⟨w3, hw3⟩ : ∃ W, W = putCc w2 (H + 1 + 1) c := ⟨_, rfl⟩
  rw [← hw3] at HP HB HS3 ⊢
  clear hw3 HPC r0 r1 r2 r3 r4 r5 f0 f1 f2 f3 f4 f5
  refine hK.out _ _ ⟨HS3.out.1, HS3.out.2, ⟨_, HP.out⟩, HB.out⟩ (fun _ => ?_)
  clear hK K
  refine wpAnyH_done (by kernel_rfl) ?_ _
  obtain ⟨m0, m1, m2, m3, m4, m5⟩ := HP.out.cells
  go_wp2_with fail
  refine bodyPost_ret (v := c.v) (by simp [results, Tryz.results90, go_sem, m0, m1, m2, m3, m4, m5, CcD.v]) rfl ?_
  exact ⟨by rw [HC.out], by rw [HW.out]; exact HB.out⟩

end Go.Proofs.YtdlhicdfldecgaaGreat

namespace Go.Proofs.YtdlhicdfldecgaaGreat
open Go.RowKit
open Go.Lib hiding intOf

set_option maxHeartbeats 20000000 in
set_option maxRecDepth 100000 in
theorem specObjOk_any (p : ByteArray) (o1 : Option Addr) (n1 c1 : Nat) (xs : List ByteArray) (o2 : Option Addr) (n2 c2 : Nat) (ys : List ByteArray) (st : Int) (v3 : Value) (n3 base : Nat) (fs : List (ByteArray × ByteArray)) (b : ByteArray) (t : Int) (w : World) (h1 : TextsA w o1 n1 xs) (h2 : TextsA w o2 n2 ys) (h3 : FieldsV w base v3 n3 fs) (hn1 : n1 ≤ 2000000) (hn2 : n2 ≤ 2000000) (hn3 : n3 ≤ 2000000) (hs1 : ∀ i, i < n1 → (textAt xs i).size ≤ maxLen) (hs2 : ∀ i, i < n2 → (textAt ys i).size ≤ maxLen) (hs3 : WalkF n3 fs) (hp : p.size ≤ maxLen) (hx : b.size ≤ maxLen) (hg : (getV fs varyName).size ≤ 1048576) :
    Calls Tryz.prog 22 #[.agg #[.string p, .slice o1 n1 c1, .slice o2 n2 c2, .int .i64 st, v3, .string b, .int .i64 t]] w fun e w' => BoolIs (ObjP p xs ys st fs b t) w e w' := by
  obtain ⟨o3, c3, rfl, _⟩ := h3.slice
  have HV1 : Hid (∀ W, Below w.heap.size w W → TextsA W o1 n1 xs) := fun W h => h1.below h
  have HV2 : Hid (∀ W, Below w.heap.size w W → TextsA W o2 n2 ys) := fun W h => h2.below h
  have HV3 : Hid (∀ W, Below w.heap.size w W → FieldsV W base (.slice o3 n3 c3) n3 fs) := fun W h => h3.below h
  have HL1 : Hid (xs.length = n1) := h1.1
  have HL2 : Hid (ys.length = n2) := h2.1
  have HS1 : Hid (∀ i, i < n1 → (textAt xs i).size ≤ maxLen) := hs1
  have HS2 : Hid (∀ i, i < n2 → (textAt ys i).size ≤ maxLen) := hs2
  have HS3 : Hid (WalkF n3 fs) := hs3
  have HPM : Hid (p.size ≤ maxLen) := hp
  have HX : Hid (b.size ≤ maxLen) := hx
  have HG : Hid ((getV fs varyName).size ≤ 1048576) := hg
  obtain ⟨vl, hvl⟩ : ∃ l, l = varyP fs := ⟨_, rfl⟩
  have HVL : Hid (varyP fs = vl) := hvl.symm
  clear h1 h2 h3 hs1 hs2 hs3 hp hx hg hvl
  have hb0 : Below w.heap.size w w := Below.refl _ _
  go_enter Tryz.func22, Tryz.ntmps22
  go_upto_region 1 with fail
  obtain ⟨qv1, hqv1⟩ : ∃ q, q = (w).heap.size := ⟨_, rfl⟩
  obtain ⟨w1, hW1⟩ : ∃ W, W = (w).alloc (.cells #[.string p, .slice o1 n1 c1, .slice o2 n2 c2, .int .i64 st, .slice o3 n3 c3, .string b, .int .i64 t] 34) := ⟨_, rfl⟩
  have hz1 : (w).heap.size = qv1 := hqv1.symm
  first | rw [← hW1, ← hqv1] | rw [← hW1]
  have hs1 : w1.heap.size = qv1 + 1 := by rw [hW1, ← hz1]; simp
  have bw : Below (w).heap.size (w) w1 := by rw [hW1]; exact (Below.refl _ _).alloc (Nat.le_refl _) _
  have hb1 : Below w.heap.size w (w1) := hb0.trans (bw.mono hb0.size)
  have HM1 : Hid ((w).heap.size ≤ (w1).heap.size) := bw.size
  have HBv1_1 : Hid ((w1).heap[qv1]? = some (.cells #[.string p, .slice o1 n1 c1, .slice o2 n2 c2, .int .i64 st, .slice o3 n3 c3, .string b, .int .i64 t] 34)) := by show _ = _; rw [hW1, ← hz1]; exact heap_alloc_new _ _
  have HGv1 : Hid (w.heap.size ≤ qv1) := by show _ ≤ _; rw [← hz1]; exact hb0.size
  clear hb0 bw hW1 hz1
  clear hs1 hqv1
  go_upto_region 1 with fail
  refine wp_region_held_drew (S := fun W => W.heap[qv1]? = some (.cells #[.string p, .slice o1 n1 c1, .slice o2 n2 c2, .int .i64 st, .slice o3 n3 c3, .string b, .int .i64 t] 34)) (by kernel_rfl) HBv1_1.out (fun _ => ?_)
  obtain ⟨w2, hX⟩ : ∃ X, X = w1.drew := ⟨_, rfl⟩
  have bw : Below w1.heap.size w1 w2 := by rw [hX]; exact (Below.refl _ _).drew
  rw [← hX]
  have hb2 : Below w.heap.size w (w2) := hb1.trans (bw.mono hb1.size)
  have HM2 : Hid ((w1).heap.size ≤ (w2).heap.size) := bw.size
  have HBv1_2 : Hid ((w2).heap[qv1]? = some (.cells #[.string p, .slice o1 n1 c1, .slice o2 n2 c2, .int .i64 st, .slice o3 n3 c3, .string b, .int .i64 t] 34)) := blk_below HBv1_1.out bw
  have hS2 : w2.heap[qv1]? = some (.cells #[.string p, .slice o1 n1 c1, .slice o2 n2 c2, .int .i64 st, .slice o3 n3 c3, .string b, .int .i64 t] 34) := HBv1_2.out
  clear hb1 HBv1_1 bw hX
  refine wpAnyH_takeD (i := 0) (v := .pointer (some ⟨qv1, 3, none⟩)) (some 4) rfl rfl (by kernel_rfl) (by kernel_rfl) (by kernel_rfl) (fun _ _ _ h => h) (Or.inl ⟨by rfl, by intro W _; go_simp⟩) hS2 ?_
  simp only [Act.put, List.setIfInBounds_toArray, List.set_cons_zero, List.set_cons_succ]
  refine wpAnyH_takeD (i := 1) (v := .agg #[.int .i64 st, .slice o3 n3 c3, .string b]) (some 5) rfl rfl (by kernel_rfl) (by kernel_rfl) (by kernel_rfl) (fun _ _ _ h => h) (Or.inl ⟨by rfl, by intro W hW; have hhv1 := hW; have y3 := (cell_of hhv1 3).trans rfl; have y4 := (cell_of hhv1 4).trans rfl; have y5 := (cell_of hhv1 5).trans rfl; go_simp⟩) hS2 ?_
  simp only [Act.put, List.setIfInBounds_toArray, List.set_cons_zero, List.set_cons_succ]
  refine wpAnyH_ready (rs := [2]) (by kernel_rfl) (by simp) ?_
  refine AllReadyH.cons rfl (fun K hK => ?_) AllReadyH.nil
  go_simp
  refine (specRespOk_any st _ b n3 base fs _ (HV3.out _ hb2) (by omega) HS3.out HX.out).mono ?_
  rintro e w3 ⟨u1, rfl, htu1, bw⟩
  have hb3 : Below w.heap.size w (w3) := hb2.trans (bw.mono hb2.size)
  have HM3 : Hid ((w2).heap.size ≤ (w3).heap.size) := bw.size
  have HBv1_3 : Hid ((w3).heap[qv1]? = some (.cells #[.string p, .slice o1 n1 c1, .slice o2 n2 c2, .int .i64 st, .slice o3 n3 c3, .string b, .int .i64 t] 34)) := blk_below HBv1_2.out bw
  clear hb2 HBv1_2 bw
  have hS3 : w3.heap[qv1]? = some (.cells #[.string p, .slice o1 n1 c1, .slice o2 n2 c2, .int .i64 st, .slice o3 n3 c3, .string b, .int .i64 t] 34) := HBv1_3.out
  refine hK.out _ _ hS3 (fun _ => ?_)
  clear hK K hS2
  cases u1 with
  | false =>
    have HF : Hid (¬ ObjP p xs ys st fs b t) := fun h => nomatch htu1.2 h.1
    clear htu1
    refine wpAnyH_takeD (i := 3) (v := .bool true) (some 7) rfl rfl (by kernel_rfl) (by kernel_rfl) (by kernel_rfl) (fun _ _ _ h => h) (Or.inl ⟨by rfl, by intro W _; go_simp⟩) hS3 ?_
    simp only [Act.put, List.setIfInBounds_toArray, List.set_cons_zero, List.set_cons_succ]
    refine wpAnyH_takeD (i := 4) (v := .bool true) (some 8) rfl rfl (by kernel_rfl) (by kernel_rfl) (by kernel_rfl) (fun _ _ _ h => h) (Or.inl ⟨by rfl, by intro W _; go_simp⟩) hS3 ?_
    simp only [Act.put, List.setIfInBounds_toArray, List.set_cons_zero, List.set_cons_succ]
    refine wpAnyH_takeD (i := 5) (v := undef) (some 9) rfl rfl (by kernel_rfl) (by kernel_rfl) (by kernel_rfl) (fun _ _ _ h => h) (Or.inr ⟨by rfl, rfl⟩) hS3 ?_
    simp only [Act.put, List.setIfInBounds_toArray, List.set_cons_zero, List.set_cons_succ]
    refine wpAnyH_takeD (i := 6) (v := undef) (some 10) rfl rfl (by kernel_rfl) (by kernel_rfl) (by kernel_rfl) (fun _ _ _ h => h) (Or.inr ⟨by rfl, rfl⟩) hS3 ?_
    simp only [Act.put, List.setIfInBounds_toArray, List.set_cons_zero, List.set_cons_succ]
    refine wpAnyH_takeD (i := 7) (v := undef) (some 11) rfl rfl (by kernel_rfl) (by kernel_rfl) (by kernel_rfl) (fun _ _ _ h => h) (Or.inr ⟨by rfl, rfl⟩) hS3 ?_
    simp only [Act.put, List.setIfInBounds_toArray, List.set_cons_zero, List.set_cons_succ]
    refine wpAnyH_takeD (i := 8) (v := undef) (some 12) rfl rfl (by kernel_rfl) (by kernel_rfl) (by kernel_rfl) (fun _ _ _ h => h) (Or.inr ⟨by rfl, rfl⟩) hS3 ?_
    simp only [Act.put, List.setIfInBounds_toArray, List.set_cons_zero, List.set_cons_succ]
    refine wpAnyH_takeD (i := 9) (v := .bool true) (some 13) rfl rfl (by kernel_rfl) (by kernel_rfl) (by kernel_rfl) (fun _ _ _ h => h) (Or.inl ⟨by rfl, by intro W _; go_simp⟩) hS3 ?_
    simp only [Act.put, List.setIfInBounds_toArray, List.set_cons_zero, List.set_cons_succ]
    refine wpAnyH_takeD (i := 10) (v := .bool true) (some 14) rfl rfl (by kernel_rfl) (by kernel_rfl) (by kernel_rfl) (fun _ _ _ h => h) (Or.inl ⟨by rfl, by intro W _; go_simp⟩) hS3 ?_
    simp only [Act.put, List.setIfInBounds_toArray, List.set_cons_zero, List.set_cons_succ]
    refine wpAnyH_takeD (i := 11) (v := undef) (some 15) rfl rfl (by kernel_rfl) (by kernel_rfl) (by kernel_rfl) (fun _ _ _ h => h) (Or.inr ⟨by rfl, rfl⟩) hS3 ?_
    simp only [Act.put, List.setIfInBounds_toArray, List.set_cons_zero, List.set_cons_succ]
    refine wpAnyH_takeD (i := 12) (v := undef) (some 16) rfl rfl (by kernel_rfl) (by kernel_rfl) (by kernel_rfl) (fun _ _ _ h => h) (Or.inr ⟨by rfl, rfl⟩) hS3 ?_
    simp only [Act.put, List.setIfInBounds_toArray, List.set_cons_zero, List.set_cons_succ]
    refine wpAnyH_takeD (i := 13) (v := undef) (some 17) rfl rfl (by kernel_rfl) (by kernel_rfl) (by kernel_rfl) (fun _ _ _ h => h) (Or.inr ⟨by rfl, rfl⟩) hS3 ?_
    simp only [Act.put, List.setIfInBounds_toArray, List.set_cons_zero, List.set_cons_succ]
    refine wpAnyH_takeD (i := 14) (v := undef) (some 18) rfl rfl (by kernel_rfl) (by kernel_rfl) (by kernel_rfl) (fun _ _ _ h => h) (Or.inr ⟨by rfl, rfl⟩) hS3 ?_
    simp only [Act.put, List.setIfInBounds_toArray, List.set_cons_zero, List.set_cons_succ]
    refine wpAnyH_takeD (i := 15) (v := .bool true) (some 19) rfl rfl (by kernel_rfl) (by kernel_rfl) (by kernel_rfl) (fun _ _ _ h => h) (Or.inl ⟨by rfl, by intro W _; go_simp⟩) hS3 ?_
    simp only [Act.put, List.setIfInBounds_toArray, List.set_cons_zero, List.set_cons_succ]
    refine wpAnyH_takeD (i := 16) (v := .bool true) (some 20) rfl rfl (by kernel_rfl) (by kernel_rfl) (by kernel_rfl) (fun _ _ _ h => h) (Or.inl ⟨by rfl, by intro W _; go_simp⟩) hS3 ?_
    simp only [Act.put, List.setIfInBounds_toArray, List.set_cons_zero, List.set_cons_succ]
    refine wpAnyH_takeD (i := 17) (v := undef) (some 21) rfl rfl (by kernel_rfl) (by kernel_rfl) (by kernel_rfl) (fun _ _ _ h => h) (Or.inr ⟨by rfl, rfl⟩) hS3 ?_
    simp only [Act.put, List.setIfInBounds_toArray, List.set_cons_zero, List.set_cons_succ]
    refine wpAnyH_takeD (i := 18) (v := undef) (some 22) rfl rfl (by kernel_rfl) (by kernel_rfl) (by kernel_rfl) (fun _ _ _ h => h) (Or.inr ⟨by rfl, rfl⟩) hS3 ?_
    simp only [Act.put, List.setIfInBounds_toArray, List.set_cons_zero, List.set_cons_succ]
    refine wpAnyH_takeD (i := 19) (v := undef) (some 23) rfl rfl (by kernel_rfl) (by kernel_rfl) (by kernel_rfl) (fun _ _ _ h => h) (Or.inr ⟨by rfl, rfl⟩) hS3 ?_
    simp only [Act.put, List.setIfInBounds_toArray, List.set_cons_zero, List.set_cons_succ]
    refine wpAnyH_takeD (i := 20) (v := undef) (some 24) rfl rfl (by kernel_rfl) (by kernel_rfl) (by kernel_rfl) (fun _ _ _ h => h) (Or.inr ⟨by rfl, rfl⟩) hS3 ?_
    simp only [Act.put, List.setIfInBounds_toArray, List.set_cons_zero, List.set_cons_succ]
    refine wpAnyH_takeD (i := 21) (v := .bool true) (some 25) rfl rfl (by kernel_rfl) (by kernel_rfl) (by kernel_rfl) (fun _ _ _ h => h) (Or.inl ⟨by rfl, by intro W _; go_simp⟩) hS3 ?_
    simp only [Act.put, List.setIfInBounds_toArray, List.set_cons_zero, List.set_cons_succ]
    refine wpAnyH_takeD (i := 22) (v := .bool true) (some 26) rfl rfl (by kernel_rfl) (by kernel_rfl) (by kernel_rfl) (fun _ _ _ h => h) (Or.inl ⟨by rfl, by intro W _; go_simp⟩) hS3 ?_
    simp only [Act.put, List.setIfInBounds_toArray, List.set_cons_zero, List.set_cons_succ]
    refine wpAnyH_takeD (i := 23) (v := undef) (some 27) rfl rfl (by kernel_rfl) (by kernel_rfl) (by kernel_rfl) (fun _ _ _ h => h) (Or.inr ⟨by rfl, rfl⟩) hS3 ?_
    simp only [Act.put, List.setIfInBounds_toArray, List.set_cons_zero, List.set_cons_succ]
    refine wpAnyH_takeD (i := 24) (v := undef) (some 28) rfl rfl (by kernel_rfl) (by kernel_rfl) (by kernel_rfl) (fun _ _ _ h => h) (Or.inr ⟨by rfl, rfl⟩) hS3 ?_
    simp only [Act.put, List.setIfInBounds_toArray, List.set_cons_zero, List.set_cons_succ]
    refine wpAnyH_takeD (i := 25) (v := undef) (some 29) rfl rfl (by kernel_rfl) (by kernel_rfl) (by kernel_rfl) (fun _ _ _ h => h) (Or.inr ⟨by rfl, rfl⟩) hS3 ?_
    simp only [Act.put, List.setIfInBounds_toArray, List.set_cons_zero, List.set_cons_succ]
    refine wpAnyH_takeD (i := 26) (v := undef) (some 30) rfl rfl (by kernel_rfl) (by kernel_rfl) (by kernel_rfl) (fun _ _ _ h => h) (Or.inr ⟨by rfl, rfl⟩) hS3 ?_
    simp only [Act.put, List.setIfInBounds_toArray, List.set_cons_zero, List.set_cons_succ]
    refine wpAnyH_takeD (i := 27) (v := undef) (some 31) rfl rfl (by kernel_rfl) (by kernel_rfl) (by kernel_rfl) (fun _ _ _ h => h) (Or.inr ⟨by rfl, rfl⟩) hS3 ?_
    simp only [Act.put, List.setIfInBounds_toArray, List.set_cons_zero, List.set_cons_succ]
    refine wpAnyH_takeD (i := 28) (v := undef) (some 32) rfl rfl (by kernel_rfl) (by kernel_rfl) (by kernel_rfl) (fun _ _ _ h => h) (Or.inr ⟨by rfl, rfl⟩) hS3 ?_
    simp only [Act.put, List.setIfInBounds_toArray, List.set_cons_zero, List.set_cons_succ]
    refine wpAnyH_takeD (i := 29) (v := undef) (some 33) rfl rfl (by kernel_rfl) (by kernel_rfl) (by kernel_rfl) (fun _ _ _ h => h) (Or.inr ⟨by rfl, rfl⟩) hS3 ?_
    simp only [Act.put, List.setIfInBounds_toArray, List.set_cons_zero, List.set_cons_succ]
    refine wpAnyH_takeD (i := 30) (v := undef) (some 34) rfl rfl (by kernel_rfl) (by kernel_rfl) (by kernel_rfl) (fun _ _ _ h => h) (Or.inr ⟨by rfl, rfl⟩) hS3 ?_
    simp only [Act.put, List.setIfInBounds_toArray, List.set_cons_zero, List.set_cons_succ]
    refine wpAnyH_takeD (i := 31) (v := .bool true) (some 35) rfl rfl (by kernel_rfl) (by kernel_rfl) (by kernel_rfl) (fun _ _ _ h => h) (Or.inl ⟨by rfl, by intro W _; go_simp⟩) hS3 ?_
    simp only [Act.put, List.setIfInBounds_toArray, List.set_cons_zero, List.set_cons_succ]
    refine wpAnyH_takeD (i := 32) (v := .bool true) (some 36) rfl rfl (by kernel_rfl) (by kernel_rfl) (by kernel_rfl) (fun _ _ _ h => h) (Or.inl ⟨by rfl, by intro W _; go_simp⟩) hS3 ?_
    simp only [Act.put, List.setIfInBounds_toArray, List.set_cons_zero, List.set_cons_succ]
    refine wpAnyH_takeD (i := 33) (v := undef) (some 37) rfl rfl (by kernel_rfl) (by kernel_rfl) (by kernel_rfl) (fun _ _ _ h => h) (Or.inr ⟨by rfl, rfl⟩) hS3 ?_
    simp only [Act.put, List.setIfInBounds_toArray, List.set_cons_zero, List.set_cons_succ]
    refine wpAnyH_takeD (i := 34) (v := undef) (some 38) rfl rfl (by kernel_rfl) (by kernel_rfl) (by kernel_rfl) (fun _ _ _ h => h) (Or.inr ⟨by rfl, rfl⟩) hS3 ?_
    simp only [Act.put, List.setIfInBounds_toArray, List.set_cons_zero, List.set_cons_succ]
    refine wpAnyH_takeD (i := 35) (v := undef) (some 39) rfl rfl (by kernel_rfl) (by kernel_rfl) (by kernel_rfl) (fun _ _ _ h => h) (Or.inr ⟨by rfl, rfl⟩) hS3 ?_
    simp only [Act.put, List.setIfInBounds_toArray, List.set_cons_zero, List.set_cons_succ]
    refine wpAnyH_takeD (i := 36) (v := undef) (some 40) rfl rfl (by kernel_rfl) (by kernel_rfl) (by kernel_rfl) (fun _ _ _ h => h) (Or.inr ⟨by rfl, rfl⟩) hS3 ?_
    simp only [Act.put, List.setIfInBounds_toArray, List.set_cons_zero, List.set_cons_succ]
    refine wpAnyH_takeD (i := 37) (v := undef) (some 41) rfl rfl (by kernel_rfl) (by kernel_rfl) (by kernel_rfl) (fun _ _ _ h => h) (Or.inr ⟨by rfl, rfl⟩) hS3 ?_
    simp only [Act.put, List.setIfInBounds_toArray, List.set_cons_zero, List.set_cons_succ]
    refine wpAnyH_takeD (i := 38) (v := undef) (some 42) rfl rfl (by kernel_rfl) (by kernel_rfl) (by kernel_rfl) (fun _ _ _ h => h) (Or.inr ⟨by rfl, rfl⟩) hS3 ?_
    simp only [Act.put, List.setIfInBounds_toArray, List.set_cons_zero, List.set_cons_succ]
    refine wpAnyH_takeD (i := 39) (v := undef) (some 43) rfl rfl (by kernel_rfl) (by kernel_rfl) (by kernel_rfl) (fun _ _ _ h => h) (Or.inr ⟨by rfl, rfl⟩) hS3 ?_
    simp only [Act.put, List.setIfInBounds_toArray, List.set_cons_zero, List.set_cons_succ]
    refine wpAnyH_takeD (i := 40) (v := .bool true) (some 44) rfl rfl (by kernel_rfl) (by kernel_rfl) (by kernel_rfl) (fun _ _ _ h => h) (Or.inl ⟨by rfl, by intro W _; go_simp⟩) hS3 ?_
    simp only [Act.put, List.setIfInBounds_toArray, List.set_cons_zero, List.set_cons_succ]
    clear hS3
    refine wpAnyH_done (by kernel_rfl) ?_ _
    go_wp2_with fail
    go_ret
    exact BoolIs.no HF.out hb3
  | true =>
    have HR : Hid (RespP st fs b) := htu1.1 rfl
    clear htu1
    refine wpAnyH_takeD (i := 3) (v := .bool false) (some 7) rfl rfl (by kernel_rfl) (by kernel_rfl) (by kernel_rfl) (fun _ _ _ h => h) (Or.inl ⟨by rfl, by intro W _; go_simp⟩) hS3 ?_
    simp only [Act.put, List.setIfInBounds_toArray, List.set_cons_zero, List.set_cons_succ]
    refine wpAnyH_takeD (i := 4) (v := .bool false) (some 8) rfl rfl (by kernel_rfl) (by kernel_rfl) (by kernel_rfl) (fun _ _ _ h => h) (Or.inl ⟨by rfl, by intro W _; go_simp⟩) hS3 ?_
    simp only [Act.put, List.setIfInBounds_toArray, List.set_cons_zero, List.set_cons_succ]
    refine wpAnyH_takeD (i := 5) (v := .pointer (some ⟨qv1, 0, none⟩)) (some 9) rfl rfl (by kernel_rfl) (by kernel_rfl) (by kernel_rfl) (fun _ _ _ h => h) (Or.inl ⟨by rfl, by intro W _; go_simp⟩) hS3 ?_
    simp only [Act.put, List.setIfInBounds_toArray, List.set_cons_zero, List.set_cons_succ]
    refine wpAnyH_takeD (i := 6) (v := .string p) (some 10) rfl rfl (by kernel_rfl) (by kernel_rfl) (by kernel_rfl) (fun _ _ _ h => h) (Or.inl ⟨by rfl, by intro W hW; have hhv1 := hW; have y0 := (cell_of hhv1 0).trans rfl; go_simp⟩) hS3 ?_
    simp only [Act.put, List.setIfInBounds_toArray, List.set_cons_zero, List.set_cons_succ]
    refine wpAnyH_ready (rs := [7]) (by kernel_rfl) (by simp) ?_
    refine AllReadyH.cons rfl (fun K hK => ?_) AllReadyH.nil
    go_simp
    refine (l3Path_any p _ HPM.out).mono ?_
    rintro e w4 ⟨u2, rfl, htu2, bw⟩
    have hb4 : Below w.heap.size w (w4) := hb3.trans (bw.mono hb3.size)
    have HM4 : Hid ((w3).heap.size ≤ (w4).heap.size) := bw.size
    have HBv1_4 : Hid ((w4).heap[qv1]? = some (.cells #[.string p, .slice o1 n1 c1, .slice o2 n2 c2, .int .i64 st, .slice o3 n3 c3, .string b, .int .i64 t] 34)) := blk_below HBv1_3.out bw
    clear hb3 HBv1_3 bw
    have hS4 : w4.heap[qv1]? = some (.cells #[.string p, .slice o1 n1 c1, .slice o2 n2 c2, .int .i64 st, .slice o3 n3 c3, .string b, .int .i64 t] 34) := HBv1_4.out
    refine hK.out _ _ hS4 (fun _ => ?_)
    clear hK K hS3
    cases u2 with
    | false =>
      have HF : Hid (¬ ObjP p xs ys st fs b t) := fun h => nomatch htu2.2 h.2.1
      clear htu2
      refine wpAnyH_takeD (i := 8) (v := .bool true) (some 12) rfl rfl (by kernel_rfl) (by kernel_rfl) (by kernel_rfl) (fun _ _ _ h => h) (Or.inl ⟨by rfl, by intro W _; go_simp⟩) hS4 ?_
      simp only [Act.put, List.setIfInBounds_toArray, List.set_cons_zero, List.set_cons_succ]
      refine wpAnyH_takeD (i := 9) (v := .bool true) (some 13) rfl rfl (by kernel_rfl) (by kernel_rfl) (by kernel_rfl) (fun _ _ _ h => h) (Or.inl ⟨by rfl, by intro W _; go_simp⟩) hS4 ?_
      simp only [Act.put, List.setIfInBounds_toArray, List.set_cons_zero, List.set_cons_succ]
      refine wpAnyH_takeD (i := 10) (v := .bool true) (some 14) rfl rfl (by kernel_rfl) (by kernel_rfl) (by kernel_rfl) (fun _ _ _ h => h) (Or.inl ⟨by rfl, by intro W _; go_simp⟩) hS4 ?_
      simp only [Act.put, List.setIfInBounds_toArray, List.set_cons_zero, List.set_cons_succ]
      refine wpAnyH_takeD (i := 11) (v := undef) (some 15) rfl rfl (by kernel_rfl) (by kernel_rfl) (by kernel_rfl) (fun _ _ _ h => h) (Or.inr ⟨by rfl, rfl⟩) hS4 ?_
      simp only [Act.put, List.setIfInBounds_toArray, List.set_cons_zero, List.set_cons_succ]
      refine wpAnyH_takeD (i := 12) (v := undef) (some 16) rfl rfl (by kernel_rfl) (by kernel_rfl) (by kernel_rfl) (fun _ _ _ h => h) (Or.inr ⟨by rfl, rfl⟩) hS4 ?_
      simp only [Act.put, List.setIfInBounds_toArray, List.set_cons_zero, List.set_cons_succ]
      refine wpAnyH_takeD (i := 13) (v := undef) (some 17) rfl rfl (by kernel_rfl) (by kernel_rfl) (by kernel_rfl) (fun _ _ _ h => h) (Or.inr ⟨by rfl, rfl⟩) hS4 ?_
      simp only [Act.put, List.setIfInBounds_toArray, List.set_cons_zero, List.set_cons_succ]
      refine wpAnyH_takeD (i := 14) (v := undef) (some 18) rfl rfl (by kernel_rfl) (by kernel_rfl) (by kernel_rfl) (fun _ _ _ h => h) (Or.inr ⟨by rfl, rfl⟩) hS4 ?_
      simp only [Act.put, List.setIfInBounds_toArray, List.set_cons_zero, List.set_cons_succ]
      refine wpAnyH_takeD (i := 15) (v := .bool true) (some 19) rfl rfl (by kernel_rfl) (by kernel_rfl) (by kernel_rfl) (fun _ _ _ h => h) (Or.inl ⟨by rfl, by intro W _; go_simp⟩) hS4 ?_
      simp only [Act.put, List.setIfInBounds_toArray, List.set_cons_zero, List.set_cons_succ]
      refine wpAnyH_takeD (i := 16) (v := .bool true) (some 20) rfl rfl (by kernel_rfl) (by kernel_rfl) (by kernel_rfl) (fun _ _ _ h => h) (Or.inl ⟨by rfl, by intro W _; go_simp⟩) hS4 ?_
      simp only [Act.put, List.setIfInBounds_toArray, List.set_cons_zero, List.set_cons_succ]
      refine wpAnyH_takeD (i := 17) (v := undef) (some 21) rfl rfl (by kernel_rfl) (by kernel_rfl) (by kernel_rfl) (fun _ _ _ h => h) (Or.inr ⟨by rfl, rfl⟩) hS4 ?_
      simp only [Act.put, List.setIfInBounds_toArray, List.set_cons_zero, List.set_cons_succ]
      refine wpAnyH_takeD (i := 18) (v := undef) (some 22) rfl rfl (by kernel_rfl) (by kernel_rfl) (by kernel_rfl) (fun _ _ _ h => h) (Or.inr ⟨by rfl, rfl⟩) hS4 ?_
      simp only [Act.put, List.setIfInBounds_toArray, List.set_cons_zero, List.set_cons_succ]
      refine wpAnyH_takeD (i := 19) (v := undef) (some 23) rfl rfl (by kernel_rfl) (by kernel_rfl) (by kernel_rfl) (fun _ _ _ h => h) (Or.inr ⟨by rfl, rfl⟩) hS4 ?_
      simp only [Act.put, List.setIfInBounds_toArray, List.set_cons_zero, List.set_cons_succ]
      refine wpAnyH_takeD (i := 20) (v := undef) (some 24) rfl rfl (by kernel_rfl) (by kernel_rfl) (by kernel_rfl) (fun _ _ _ h => h) (Or.inr ⟨by rfl, rfl⟩) hS4 ?_
      simp only [Act.put, List.setIfInBounds_toArray, List.set_cons_zero, List.set_cons_succ]
      refine wpAnyH_takeD (i := 21) (v := .bool true) (some 25) rfl rfl (by kernel_rfl) (by kernel_rfl) (by kernel_rfl) (fun _ _ _ h => h) (Or.inl ⟨by rfl, by intro W _; go_simp⟩) hS4 ?_
      simp only [Act.put, List.setIfInBounds_toArray, List.set_cons_zero, List.set_cons_succ]
      refine wpAnyH_takeD (i := 22) (v := .bool true) (some 26) rfl rfl (by kernel_rfl) (by kernel_rfl) (by kernel_rfl) (fun _ _ _ h => h) (Or.inl ⟨by rfl, by intro W _; go_simp⟩) hS4 ?_
      simp only [Act.put, List.setIfInBounds_toArray, List.set_cons_zero, List.set_cons_succ]
      refine wpAnyH_takeD (i := 23) (v := undef) (some 27) rfl rfl (by kernel_rfl) (by kernel_rfl) (by kernel_rfl) (fun _ _ _ h => h) (Or.inr ⟨by rfl, rfl⟩) hS4 ?_
      simp only [Act.put, List.setIfInBounds_toArray, List.set_cons_zero, List.set_cons_succ]
      refine wpAnyH_takeD (i := 24) (v := undef) (some 28) rfl rfl (by kernel_rfl) (by kernel_rfl) (by kernel_rfl) (fun _ _ _ h => h) (Or.inr ⟨by rfl, rfl⟩) hS4 ?_
      simp only [Act.put, List.setIfInBounds_toArray, List.set_cons_zero, List.set_cons_succ]
      refine wpAnyH_takeD (i := 25) (v := undef) (some 29) rfl rfl (by kernel_rfl) (by kernel_rfl) (by kernel_rfl) (fun _ _ _ h => h) (Or.inr ⟨by rfl, rfl⟩) hS4 ?_
      simp only [Act.put, List.setIfInBounds_toArray, List.set_cons_zero, List.set_cons_succ]
      refine wpAnyH_takeD (i := 26) (v := undef) (some 30) rfl rfl (by kernel_rfl) (by kernel_rfl) (by kernel_rfl) (fun _ _ _ h => h) (Or.inr ⟨by rfl, rfl⟩) hS4 ?_
      simp only [Act.put, List.setIfInBounds_toArray, List.set_cons_zero, List.set_cons_succ]
      refine wpAnyH_takeD (i := 27) (v := undef) (some 31) rfl rfl (by kernel_rfl) (by kernel_rfl) (by kernel_rfl) (fun _ _ _ h => h) (Or.inr ⟨by rfl, rfl⟩) hS4 ?_
      simp only [Act.put, List.setIfInBounds_toArray, List.set_cons_zero, List.set_cons_succ]
      refine wpAnyH_takeD (i := 28) (v := undef) (some 32) rfl rfl (by kernel_rfl) (by kernel_rfl) (by kernel_rfl) (fun _ _ _ h => h) (Or.inr ⟨by rfl, rfl⟩) hS4 ?_
      simp only [Act.put, List.setIfInBounds_toArray, List.set_cons_zero, List.set_cons_succ]
      refine wpAnyH_takeD (i := 29) (v := undef) (some 33) rfl rfl (by kernel_rfl) (by kernel_rfl) (by kernel_rfl) (fun _ _ _ h => h) (Or.inr ⟨by rfl, rfl⟩) hS4 ?_
      simp only [Act.put, List.setIfInBounds_toArray, List.set_cons_zero, List.set_cons_succ]
      refine wpAnyH_takeD (i := 30) (v := undef) (some 34) rfl rfl (by kernel_rfl) (by kernel_rfl) (by kernel_rfl) (fun _ _ _ h => h) (Or.inr ⟨by rfl, rfl⟩) hS4 ?_
      simp only [Act.put, List.setIfInBounds_toArray, List.set_cons_zero, List.set_cons_succ]
      refine wpAnyH_takeD (i := 31) (v := .bool true) (some 35) rfl rfl (by kernel_rfl) (by kernel_rfl) (by kernel_rfl) (fun _ _ _ h => h) (Or.inl ⟨by rfl, by intro W _; go_simp⟩) hS4 ?_
      simp only [Act.put, List.setIfInBounds_toArray, List.set_cons_zero, List.set_cons_succ]
      refine wpAnyH_takeD (i := 32) (v := .bool true) (some 36) rfl rfl (by kernel_rfl) (by kernel_rfl) (by kernel_rfl) (fun _ _ _ h => h) (Or.inl ⟨by rfl, by intro W _; go_simp⟩) hS4 ?_
      simp only [Act.put, List.setIfInBounds_toArray, List.set_cons_zero, List.set_cons_succ]
      refine wpAnyH_takeD (i := 33) (v := undef) (some 37) rfl rfl (by kernel_rfl) (by kernel_rfl) (by kernel_rfl) (fun _ _ _ h => h) (Or.inr ⟨by rfl, rfl⟩) hS4 ?_
      simp only [Act.put, List.setIfInBounds_toArray, List.set_cons_zero, List.set_cons_succ]
      refine wpAnyH_takeD (i := 34) (v := undef) (some 38) rfl rfl (by kernel_rfl) (by kernel_rfl) (by kernel_rfl) (fun _ _ _ h => h) (Or.inr ⟨by rfl, rfl⟩) hS4 ?_
      simp only [Act.put, List.setIfInBounds_toArray, List.set_cons_zero, List.set_cons_succ]
      refine wpAnyH_takeD (i := 35) (v := undef) (some 39) rfl rfl (by kernel_rfl) (by kernel_rfl) (by kernel_rfl) (fun _ _ _ h => h) (Or.inr ⟨by rfl, rfl⟩) hS4 ?_
      simp only [Act.put, List.setIfInBounds_toArray, List.set_cons_zero, List.set_cons_succ]
      refine wpAnyH_takeD (i := 36) (v := undef) (some 40) rfl rfl (by kernel_rfl) (by kernel_rfl) (by kernel_rfl) (fun _ _ _ h => h) (Or.inr ⟨by rfl, rfl⟩) hS4 ?_
      simp only [Act.put, List.setIfInBounds_toArray, List.set_cons_zero, List.set_cons_succ]
      refine wpAnyH_takeD (i := 37) (v := undef) (some 41) rfl rfl (by kernel_rfl) (by kernel_rfl) (by kernel_rfl) (fun _ _ _ h => h) (Or.inr ⟨by rfl, rfl⟩) hS4 ?_
      simp only [Act.put, List.setIfInBounds_toArray, List.set_cons_zero, List.set_cons_succ]
      refine wpAnyH_takeD (i := 38) (v := undef) (some 42) rfl rfl (by kernel_rfl) (by kernel_rfl) (by kernel_rfl) (fun _ _ _ h => h) (Or.inr ⟨by rfl, rfl⟩) hS4 ?_
      simp only [Act.put, List.setIfInBounds_toArray, List.set_cons_zero, List.set_cons_succ]
      refine wpAnyH_takeD (i := 39) (v := undef) (some 43) rfl rfl (by kernel_rfl) (by kernel_rfl) (by kernel_rfl) (fun _ _ _ h => h) (Or.inr ⟨by rfl, rfl⟩) hS4 ?_
      simp only [Act.put, List.setIfInBounds_toArray, List.set_cons_zero, List.set_cons_succ]
      refine wpAnyH_takeD (i := 40) (v := .bool true) (some 44) rfl rfl (by kernel_rfl) (by kernel_rfl) (by kernel_rfl) (fun _ _ _ h => h) (Or.inl ⟨by rfl, by intro W _; go_simp⟩) hS4 ?_
      simp only [Act.put, List.setIfInBounds_toArray, List.set_cons_zero, List.set_cons_succ]
      clear hS4
      refine wpAnyH_done (by kernel_rfl) ?_ _
      go_wp2_with fail
      go_ret
      exact BoolIs.no HF.out hb4
    | true =>
      have HP : Hid (PathOk p) := htu2.1 rfl
      clear htu2
      refine wpAnyH_takeD (i := 8) (v := .bool false) (some 12) rfl rfl (by kernel_rfl) (by kernel_rfl) (by kernel_rfl) (fun _ _ _ h => h) (Or.inl ⟨by rfl, by intro W _; go_simp⟩) hS4 ?_
      simp only [Act.put, List.setIfInBounds_toArray, List.set_cons_zero, List.set_cons_succ]
      refine wpAnyH_takeD (i := 9) (v := .bool false) (some 13) rfl rfl (by kernel_rfl) (by kernel_rfl) (by kernel_rfl) (fun _ _ _ h => h) (Or.inl ⟨by rfl, by intro W _; go_simp⟩) hS4 ?_
      simp only [Act.put, List.setIfInBounds_toArray, List.set_cons_zero, List.set_cons_succ]
      refine wpAnyH_takeD (i := 10) (v := .bool false) (some 14) rfl rfl (by kernel_rfl) (by kernel_rfl) (by kernel_rfl) (fun _ _ _ h => h) (Or.inl ⟨by rfl, by intro W _; go_simp⟩) hS4 ?_
      simp only [Act.put, List.setIfInBounds_toArray, List.set_cons_zero, List.set_cons_succ]
      refine wpAnyH_takeD (i := 11) (v := .pointer (some ⟨qv1, 6, none⟩)) (some 15) rfl rfl (by kernel_rfl) (by kernel_rfl) (by kernel_rfl) (fun _ _ _ h => h) (Or.inl ⟨by rfl, by intro W _; go_simp⟩) hS4 ?_
      simp only [Act.put, List.setIfInBounds_toArray, List.set_cons_zero, List.set_cons_succ]
      refine wpAnyH_takeD (i := 12) (v := .int .i64 t) (some 16) rfl rfl (by kernel_rfl) (by kernel_rfl) (by kernel_rfl) (fun _ _ _ h => h) (Or.inl ⟨by rfl, by intro W hW; have hhv1 := hW; have y6 := (cell_of hhv1 6).trans rfl; go_simp⟩) hS4 ?_
      simp only [Act.put, List.setIfInBounds_toArray, List.set_cons_zero, List.set_cons_succ]
      refine wpAnyH_ready (rs := [13]) (by kernel_rfl) (by simp) ?_
      refine AllReadyH.cons rfl (fun K hK => ?_) AllReadyH.nil
      go_simp
      refine (l1In_any t 0 1000000 _).mono ?_
      rintro e w5 ⟨rfl, hwe⟩
      have bw : Below (w4).heap.size (w4) w5 := by rw [hwe]; exact Below.refl _ _
      clear hwe
      obtain ⟨u3, hu3⟩ : ∃ u3, u3 = decide ((0 : Int) ≤ t ∧ t ≤ 1000000) := ⟨_, rfl⟩
      rw [← hu3]
      have hb5 : Below w.heap.size w (w5) := hb4.trans (bw.mono hb4.size)
      have HM5 : Hid ((w4).heap.size ≤ (w5).heap.size) := bw.size
      have HBv1_5 : Hid ((w5).heap[qv1]? = some (.cells #[.string p, .slice o1 n1 c1, .slice o2 n2 c2, .int .i64 st, .slice o3 n3 c3, .string b, .int .i64 t] 34)) := blk_below HBv1_4.out bw
      clear hb4 HBv1_4 bw
      have hS5 : w5.heap[qv1]? = some (.cells #[.string p, .slice o1 n1 c1, .slice o2 n2 c2, .int .i64 st, .slice o3 n3 c3, .string b, .int .i64 t] 34) := HBv1_5.out
      refine hK.out _ _ hS5 (fun _ => ?_)
      clear hK K hS4
      cases u3 with
      | false =>
        have HF : Hid (¬ ObjP p xs ys st fs b t) := fun h => absurd h.2.2.1 (of_decide_eq_false hu3.symm)
        clear hu3
        refine wpAnyH_takeD (i := 14) (v := .bool true) (some 18) rfl rfl (by kernel_rfl) (by kernel_rfl) (by kernel_rfl) (fun _ _ _ h => h) (Or.inl ⟨by rfl, by intro W _; go_simp⟩) hS5 ?_
        simp only [Act.put, List.setIfInBounds_toArray, List.set_cons_zero, List.set_cons_succ]
        refine wpAnyH_takeD (i := 15) (v := .bool true) (some 19) rfl rfl (by kernel_rfl) (by kernel_rfl) (by kernel_rfl) (fun _ _ _ h => h) (Or.inl ⟨by rfl, by intro W _; go_simp⟩) hS5 ?_
        simp only [Act.put, List.setIfInBounds_toArray, List.set_cons_zero, List.set_cons_succ]
        refine wpAnyH_takeD (i := 16) (v := .bool true) (some 20) rfl rfl (by kernel_rfl) (by kernel_rfl) (by kernel_rfl) (fun _ _ _ h => h) (Or.inl ⟨by rfl, by intro W _; go_simp⟩) hS5 ?_
        simp only [Act.put, List.setIfInBounds_toArray, List.set_cons_zero, List.set_cons_succ]
        refine wpAnyH_takeD (i := 17) (v := undef) (some 21) rfl rfl (by kernel_rfl) (by kernel_rfl) (by kernel_rfl) (fun _ _ _ h => h) (Or.inr ⟨by rfl, rfl⟩) hS5 ?_
        simp only [Act.put, List.setIfInBounds_toArray, List.set_cons_zero, List.set_cons_succ]
        refine wpAnyH_takeD (i := 18) (v := undef) (some 22) rfl rfl (by kernel_rfl) (by kernel_rfl) (by kernel_rfl) (fun _ _ _ h => h) (Or.inr ⟨by rfl, rfl⟩) hS5 ?_
        simp only [Act.put, List.setIfInBounds_toArray, List.set_cons_zero, List.set_cons_succ]
        refine wpAnyH_takeD (i := 19) (v := undef) (some 23) rfl rfl (by kernel_rfl) (by kernel_rfl) (by kernel_rfl) (fun _ _ _ h => h) (Or.inr ⟨by rfl, rfl⟩) hS5 ?_
        simp only [Act.put, List.setIfInBounds_toArray, List.set_cons_zero, List.set_cons_succ]
        refine wpAnyH_takeD (i := 20) (v := undef) (some 24) rfl rfl (by kernel_rfl) (by kernel_rfl) (by kernel_rfl) (fun _ _ _ h => h) (Or.inr ⟨by rfl, rfl⟩) hS5 ?_
        simp only [Act.put, List.setIfInBounds_toArray, List.set_cons_zero, List.set_cons_succ]
        refine wpAnyH_takeD (i := 21) (v := .bool true) (some 25) rfl rfl (by kernel_rfl) (by kernel_rfl) (by kernel_rfl) (fun _ _ _ h => h) (Or.inl ⟨by rfl, by intro W _; go_simp⟩) hS5 ?_
        simp only [Act.put, List.setIfInBounds_toArray, List.set_cons_zero, List.set_cons_succ]
        refine wpAnyH_takeD (i := 22) (v := .bool true) (some 26) rfl rfl (by kernel_rfl) (by kernel_rfl) (by kernel_rfl) (fun _ _ _ h => h) (Or.inl ⟨by rfl, by intro W _; go_simp⟩) hS5 ?_
        simp only [Act.put, List.setIfInBounds_toArray, List.set_cons_zero, List.set_cons_succ]
        refine wpAnyH_takeD (i := 23) (v := undef) (some 27) rfl rfl (by kernel_rfl) (by kernel_rfl) (by kernel_rfl) (fun _ _ _ h => h) (Or.inr ⟨by rfl, rfl⟩) hS5 ?_
        simp only [Act.put, List.setIfInBounds_toArray, List.set_cons_zero, List.set_cons_succ]
        refine wpAnyH_takeD (i := 24) (v := undef) (some 28) rfl rfl (by kernel_rfl) (by kernel_rfl) (by kernel_rfl) (fun _ _ _ h => h) (Or.inr ⟨by rfl, rfl⟩) hS5 ?_
        simp only [Act.put, List.setIfInBounds_toArray, List.set_cons_zero, List.set_cons_succ]
        refine wpAnyH_takeD (i := 25) (v := undef) (some 29) rfl rfl (by kernel_rfl) (by kernel_rfl) (by kernel_rfl) (fun _ _ _ h => h) (Or.inr ⟨by rfl, rfl⟩) hS5 ?_
        simp only [Act.put, List.setIfInBounds_toArray, List.set_cons_zero, List.set_cons_succ]
        refine wpAnyH_takeD (i := 26) (v := undef) (some 30) rfl rfl (by kernel_rfl) (by kernel_rfl) (by kernel_rfl) (fun _ _ _ h => h) (Or.inr ⟨by rfl, rfl⟩) hS5 ?_
        simp only [Act.put, List.setIfInBounds_toArray, List.set_cons_zero, List.set_cons_succ]
        refine wpAnyH_takeD (i := 27) (v := undef) (some 31) rfl rfl (by kernel_rfl) (by kernel_rfl) (by kernel_rfl) (fun _ _ _ h => h) (Or.inr ⟨by rfl, rfl⟩) hS5 ?_
        simp only [Act.put, List.setIfInBounds_toArray, List.set_cons_zero, List.set_cons_succ]
        refine wpAnyH_takeD (i := 28) (v := undef) (some 32) rfl rfl (by kernel_rfl) (by kernel_rfl) (by kernel_rfl) (fun _ _ _ h => h) (Or.inr ⟨by rfl, rfl⟩) hS5 ?_
        simp only [Act.put, List.setIfInBounds_toArray, List.set_cons_zero, List.set_cons_succ]
        refine wpAnyH_takeD (i := 29) (v := undef) (some 33) rfl rfl (by kernel_rfl) (by kernel_rfl) (by kernel_rfl) (fun _ _ _ h => h) (Or.inr ⟨by rfl, rfl⟩) hS5 ?_
        simp only [Act.put, List.setIfInBounds_toArray, List.set_cons_zero, List.set_cons_succ]
        refine wpAnyH_takeD (i := 30) (v := undef) (some 34) rfl rfl (by kernel_rfl) (by kernel_rfl) (by kernel_rfl) (fun _ _ _ h => h) (Or.inr ⟨by rfl, rfl⟩) hS5 ?_
        simp only [Act.put, List.setIfInBounds_toArray, List.set_cons_zero, List.set_cons_succ]
        refine wpAnyH_takeD (i := 31) (v := .bool true) (some 35) rfl rfl (by kernel_rfl) (by kernel_rfl) (by kernel_rfl) (fun _ _ _ h => h) (Or.inl ⟨by rfl, by intro W _; go_simp⟩) hS5 ?_
        simp only [Act.put, List.setIfInBounds_toArray, List.set_cons_zero, List.set_cons_succ]
        refine wpAnyH_takeD (i := 32) (v := .bool true) (some 36) rfl rfl (by kernel_rfl) (by kernel_rfl) (by kernel_rfl) (fun _ _ _ h => h) (Or.inl ⟨by rfl, by intro W _; go_simp⟩) hS5 ?_
        simp only [Act.put, List.setIfInBounds_toArray, List.set_cons_zero, List.set_cons_succ]
        refine wpAnyH_takeD (i := 33) (v := undef) (some 37) rfl rfl (by kernel_rfl) (by kernel_rfl) (by kernel_rfl) (fun _ _ _ h => h) (Or.inr ⟨by rfl, rfl⟩) hS5 ?_
        simp only [Act.put, List.setIfInBounds_toArray, List.set_cons_zero, List.set_cons_succ]
        refine wpAnyH_takeD (i := 34) (v := undef) (some 38) rfl rfl (by kernel_rfl) (by kernel_rfl) (by kernel_rfl) (fun _ _ _ h => h) (Or.inr ⟨by rfl, rfl⟩) hS5 ?_
        simp only [Act.put, List.setIfInBounds_toArray, List.set_cons_zero, List.set_cons_succ]
        refine wpAnyH_takeD (i := 35) (v := undef) (some 39) rfl rfl (by kernel_rfl) (by kernel_rfl) (by kernel_rfl) (fun _ _ _ h => h) (Or.inr ⟨by rfl, rfl⟩) hS5 ?_
        simp only [Act.put, List.setIfInBounds_toArray, List.set_cons_zero, List.set_cons_succ]
        refine wpAnyH_takeD (i := 36) (v := undef) (some 40) rfl rfl (by kernel_rfl) (by kernel_rfl) (by kernel_rfl) (fun _ _ _ h => h) (Or.inr ⟨by rfl, rfl⟩) hS5 ?_
        simp only [Act.put, List.setIfInBounds_toArray, List.set_cons_zero, List.set_cons_succ]
        refine wpAnyH_takeD (i := 37) (v := undef) (some 41) rfl rfl (by kernel_rfl) (by kernel_rfl) (by kernel_rfl) (fun _ _ _ h => h) (Or.inr ⟨by rfl, rfl⟩) hS5 ?_
        simp only [Act.put, List.setIfInBounds_toArray, List.set_cons_zero, List.set_cons_succ]
        refine wpAnyH_takeD (i := 38) (v := undef) (some 42) rfl rfl (by kernel_rfl) (by kernel_rfl) (by kernel_rfl) (fun _ _ _ h => h) (Or.inr ⟨by rfl, rfl⟩) hS5 ?_
        simp only [Act.put, List.setIfInBounds_toArray, List.set_cons_zero, List.set_cons_succ]
        refine wpAnyH_takeD (i := 39) (v := undef) (some 43) rfl rfl (by kernel_rfl) (by kernel_rfl) (by kernel_rfl) (fun _ _ _ h => h) (Or.inr ⟨by rfl, rfl⟩) hS5 ?_
        simp only [Act.put, List.setIfInBounds_toArray, List.set_cons_zero, List.set_cons_succ]
        refine wpAnyH_takeD (i := 40) (v := .bool true) (some 44) rfl rfl (by kernel_rfl) (by kernel_rfl) (by kernel_rfl) (fun _ _ _ h => h) (Or.inl ⟨by rfl, by intro W _; go_simp⟩) hS5 ?_
        simp only [Act.put, List.setIfInBounds_toArray, List.set_cons_zero, List.set_cons_succ]
        clear hS5
        refine wpAnyH_done (by kernel_rfl) ?_ _
        go_wp2_with fail
        go_ret
        exact BoolIs.no HF.out hb5
      | true =>
        have HT : Hid (0 ≤ t ∧ t ≤ 1000000) := (show 0 ≤ t ∧ t ≤ 1000000 from of_decide_eq_true hu3.symm)
        clear hu3
        refine wpAnyH_takeD (i := 14) (v := .bool false) (some 18) rfl rfl (by kernel_rfl) (by kernel_rfl) (by kernel_rfl) (fun _ _ _ h => h) (Or.inl ⟨by rfl, by intro W _; go_simp⟩) hS5 ?_
        simp only [Act.put, List.setIfInBounds_toArray, List.set_cons_zero, List.set_cons_succ]
        refine wpAnyH_takeD (i := 15) (v := .bool false) (some 19) rfl rfl (by kernel_rfl) (by kernel_rfl) (by kernel_rfl) (fun _ _ _ h => h) (Or.inl ⟨by rfl, by intro W _; go_simp⟩) hS5 ?_
        simp only [Act.put, List.setIfInBounds_toArray, List.set_cons_zero, List.set_cons_succ]
        refine wpAnyH_takeD (i := 16) (v := .bool false) (some 20) rfl rfl (by kernel_rfl) (by kernel_rfl) (by kernel_rfl) (fun _ _ _ h => h) (Or.inl ⟨by rfl, by intro W _; go_simp⟩) hS5 ?_
        simp only [Act.put, List.setIfInBounds_toArray, List.set_cons_zero, List.set_cons_succ]
        refine wpAnyH_takeD (i := 17) (v := .pointer (some ⟨qv1, 1, none⟩)) (some 21) rfl rfl (by kernel_rfl) (by kernel_rfl) (by kernel_rfl) (fun _ _ _ h => h) (Or.inl ⟨by rfl, by intro W _; go_simp⟩) hS5 ?_
        simp only [Act.put, List.setIfInBounds_toArray, List.set_cons_zero, List.set_cons_succ]
        refine wpAnyH_takeD (i := 18) (v := .slice o1 n1 c1) (some 22) rfl rfl (by kernel_rfl) (by kernel_rfl) (by kernel_rfl) (fun _ _ _ h => h) (Or.inl ⟨by rfl, by intro W hW; have hhv1 := hW; have y1 := (cell_of hhv1 1).trans rfl; go_simp⟩) hS5 ?_
        simp only [Act.put, List.setIfInBounds_toArray, List.set_cons_zero, List.set_cons_succ]
        refine wpAnyH_ready (rs := [19]) (by kernel_rfl) (by simp) ?_
        refine AllReadyH.cons rfl (fun K hK => ?_) AllReadyH.nil
        go_simp
        refine (l9Names_any _ _ _ xs _ (HV1.out _ hb5) (by omega) HS1.out).mono ?_
        rintro e w6 ⟨u4, rfl, htu4, bw⟩
        have hb6 : Below w.heap.size w (w6) := hb5.trans (bw.mono hb5.size)
        have HM6 : Hid ((w5).heap.size ≤ (w6).heap.size) := bw.size
        have HBv1_6 : Hid ((w6).heap[qv1]? = some (.cells #[.string p, .slice o1 n1 c1, .slice o2 n2 c2, .int .i64 st, .slice o3 n3 c3, .string b, .int .i64 t] 34)) := blk_below HBv1_5.out bw
        clear hb5 HBv1_5 bw
        have hS6 : w6.heap[qv1]? = some (.cells #[.string p, .slice o1 n1 c1, .slice o2 n2 c2, .int .i64 st, .slice o3 n3 c3, .string b, .int .i64 t] 34) := HBv1_6.out
        refine hK.out _ _ hS6 (fun _ => ?_)
        clear hK K hS5
        cases u4 with
        | false =>
          have HF : Hid (¬ ObjP p xs ys st fs b t) := fun h => nomatch htu4.2 h.2.2.2.1
          clear htu4
          refine wpAnyH_takeD (i := 20) (v := .bool true) (some 24) rfl rfl (by kernel_rfl) (by kernel_rfl) (by kernel_rfl) (fun _ _ _ h => h) (Or.inl ⟨by rfl, by intro W _; go_simp⟩) hS6 ?_
          simp only [Act.put, List.setIfInBounds_toArray, List.set_cons_zero, List.set_cons_succ]
          refine wpAnyH_takeD (i := 21) (v := .bool true) (some 25) rfl rfl (by kernel_rfl) (by kernel_rfl) (by kernel_rfl) (fun _ _ _ h => h) (Or.inl ⟨by rfl, by intro W _; go_simp⟩) hS6 ?_
          simp only [Act.put, List.setIfInBounds_toArray, List.set_cons_zero, List.set_cons_succ]
          refine wpAnyH_takeD (i := 22) (v := .bool true) (some 26) rfl rfl (by kernel_rfl) (by kernel_rfl) (by kernel_rfl) (fun _ _ _ h => h) (Or.inl ⟨by rfl, by intro W _; go_simp⟩) hS6 ?_
          simp only [Act.put, List.setIfInBounds_toArray, List.set_cons_zero, List.set_cons_succ]
          refine wpAnyH_takeD (i := 23) (v := undef) (some 27) rfl rfl (by kernel_rfl) (by kernel_rfl) (by kernel_rfl) (fun _ _ _ h => h) (Or.inr ⟨by rfl, rfl⟩) hS6 ?_
          simp only [Act.put, List.setIfInBounds_toArray, List.set_cons_zero, List.set_cons_succ]
          refine wpAnyH_takeD (i := 24) (v := undef) (some 28) rfl rfl (by kernel_rfl) (by kernel_rfl) (by kernel_rfl) (fun _ _ _ h => h) (Or.inr ⟨by rfl, rfl⟩) hS6 ?_
          simp only [Act.put, List.setIfInBounds_toArray, List.set_cons_zero, List.set_cons_succ]
          refine wpAnyH_takeD (i := 25) (v := undef) (some 29) rfl rfl (by kernel_rfl) (by kernel_rfl) (by kernel_rfl) (fun _ _ _ h => h) (Or.inr ⟨by rfl, rfl⟩) hS6 ?_
          simp only [Act.put, List.setIfInBounds_toArray, List.set_cons_zero, List.set_cons_succ]
          refine wpAnyH_takeD (i := 26) (v := undef) (some 30) rfl rfl (by kernel_rfl) (by kernel_rfl) (by kernel_rfl) (fun _ _ _ h => h) (Or.inr ⟨by rfl, rfl⟩) hS6 ?_
          simp only [Act.put, List.setIfInBounds_toArray, List.set_cons_zero, List.set_cons_succ]
          refine wpAnyH_takeD (i := 27) (v := undef) (some 31) rfl rfl (by kernel_rfl) (by kernel_rfl) (by kernel_rfl) (fun _ _ _ h => h) (Or.inr ⟨by rfl, rfl⟩) hS6 ?_
          simp only [Act.put, List.setIfInBounds_toArray, List.set_cons_zero, List.set_cons_succ]
          refine wpAnyH_takeD (i := 28) (v := undef) (some 32) rfl rfl (by kernel_rfl) (by kernel_rfl) (by kernel_rfl) (fun _ _ _ h => h) (Or.inr ⟨by rfl, rfl⟩) hS6 ?_
          simp only [Act.put, List.setIfInBounds_toArray, List.set_cons_zero, List.set_cons_succ]
          refine wpAnyH_takeD (i := 29) (v := undef) (some 33) rfl rfl (by kernel_rfl) (by kernel_rfl) (by kernel_rfl) (fun _ _ _ h => h) (Or.inr ⟨by rfl, rfl⟩) hS6 ?_
          simp only [Act.put, List.setIfInBounds_toArray, List.set_cons_zero, List.set_cons_succ]
          refine wpAnyH_takeD (i := 30) (v := undef) (some 34) rfl rfl (by kernel_rfl) (by kernel_rfl) (by kernel_rfl) (fun _ _ _ h => h) (Or.inr ⟨by rfl, rfl⟩) hS6 ?_
          simp only [Act.put, List.setIfInBounds_toArray, List.set_cons_zero, List.set_cons_succ]
          refine wpAnyH_takeD (i := 31) (v := .bool true) (some 35) rfl rfl (by kernel_rfl) (by kernel_rfl) (by kernel_rfl) (fun _ _ _ h => h) (Or.inl ⟨by rfl, by intro W _; go_simp⟩) hS6 ?_
          simp only [Act.put, List.setIfInBounds_toArray, List.set_cons_zero, List.set_cons_succ]
          refine wpAnyH_takeD (i := 32) (v := .bool true) (some 36) rfl rfl (by kernel_rfl) (by kernel_rfl) (by kernel_rfl) (fun _ _ _ h => h) (Or.inl ⟨by rfl, by intro W _; go_simp⟩) hS6 ?_
          simp only [Act.put, List.setIfInBounds_toArray, List.set_cons_zero, List.set_cons_succ]
          refine wpAnyH_takeD (i := 33) (v := undef) (some 37) rfl rfl (by kernel_rfl) (by kernel_rfl) (by kernel_rfl) (fun _ _ _ h => h) (Or.inr ⟨by rfl, rfl⟩) hS6 ?_
          simp only [Act.put, List.setIfInBounds_toArray, List.set_cons_zero, List.set_cons_succ]
          refine wpAnyH_takeD (i := 34) (v := undef) (some 38) rfl rfl (by kernel_rfl) (by kernel_rfl) (by kernel_rfl) (fun _ _ _ h => h) (Or.inr ⟨by rfl, rfl⟩) hS6 ?_
          simp only [Act.put, List.setIfInBounds_toArray, List.set_cons_zero, List.set_cons_succ]
          refine wpAnyH_takeD (i := 35) (v := undef) (some 39) rfl rfl (by kernel_rfl) (by kernel_rfl) (by kernel_rfl) (fun _ _ _ h => h) (Or.inr ⟨by rfl, rfl⟩) hS6 ?_
          simp only [Act.put, List.setIfInBounds_toArray, List.set_cons_zero, List.set_cons_succ]
          refine wpAnyH_takeD (i := 36) (v := undef) (some 40) rfl rfl (by kernel_rfl) (by kernel_rfl) (by kernel_rfl) (fun _ _ _ h => h) (Or.inr ⟨by rfl, rfl⟩) hS6 ?_
          simp only [Act.put, List.setIfInBounds_toArray, List.set_cons_zero, List.set_cons_succ]
          refine wpAnyH_takeD (i := 37) (v := undef) (some 41) rfl rfl (by kernel_rfl) (by kernel_rfl) (by kernel_rfl) (fun _ _ _ h => h) (Or.inr ⟨by rfl, rfl⟩) hS6 ?_
          simp only [Act.put, List.setIfInBounds_toArray, List.set_cons_zero, List.set_cons_succ]
          refine wpAnyH_takeD (i := 38) (v := undef) (some 42) rfl rfl (by kernel_rfl) (by kernel_rfl) (by kernel_rfl) (fun _ _ _ h => h) (Or.inr ⟨by rfl, rfl⟩) hS6 ?_
          simp only [Act.put, List.setIfInBounds_toArray, List.set_cons_zero, List.set_cons_succ]
          refine wpAnyH_takeD (i := 39) (v := undef) (some 43) rfl rfl (by kernel_rfl) (by kernel_rfl) (by kernel_rfl) (fun _ _ _ h => h) (Or.inr ⟨by rfl, rfl⟩) hS6 ?_
          simp only [Act.put, List.setIfInBounds_toArray, List.set_cons_zero, List.set_cons_succ]
          refine wpAnyH_takeD (i := 40) (v := .bool true) (some 44) rfl rfl (by kernel_rfl) (by kernel_rfl) (by kernel_rfl) (fun _ _ _ h => h) (Or.inl ⟨by rfl, by intro W _; go_simp⟩) hS6 ?_
          simp only [Act.put, List.setIfInBounds_toArray, List.set_cons_zero, List.set_cons_succ]
          clear hS6
          refine wpAnyH_done (by kernel_rfl) ?_ _
          go_wp2_with fail
          go_ret
          exact BoolIs.no HF.out hb6
        | true =>
          have HNM : Hid (NamesP xs) := htu4.1 rfl
          clear htu4
          refine wpAnyH_takeD (i := 20) (v := .bool false) (some 24) rfl rfl (by kernel_rfl) (by kernel_rfl) (by kernel_rfl) (fun _ _ _ h => h) (Or.inl ⟨by rfl, by intro W _; go_simp⟩) hS6 ?_
          simp only [Act.put, List.setIfInBounds_toArray, List.set_cons_zero, List.set_cons_succ]
          refine wpAnyH_takeD (i := 21) (v := .bool false) (some 25) rfl rfl (by kernel_rfl) (by kernel_rfl) (by kernel_rfl) (fun _ _ _ h => h) (Or.inl ⟨by rfl, by intro W _; go_simp⟩) hS6 ?_
          simp only [Act.put, List.setIfInBounds_toArray, List.set_cons_zero, List.set_cons_succ]
          refine wpAnyH_takeD (i := 22) (v := .bool false) (some 26) rfl rfl (by kernel_rfl) (by kernel_rfl) (by kernel_rfl) (fun _ _ _ h => h) (Or.inl ⟨by rfl, by intro W _; go_simp⟩) hS6 ?_
          simp only [Act.put, List.setIfInBounds_toArray, List.set_cons_zero, List.set_cons_succ]
          refine wpAnyH_takeD (i := 23) (v := .pointer (some ⟨qv1, 1, none⟩)) (some 27) rfl rfl (by kernel_rfl) (by kernel_rfl) (by kernel_rfl) (fun _ _ _ h => h) (Or.inl ⟨by rfl, by intro W _; go_simp⟩) hS6 ?_
          simp only [Act.put, List.setIfInBounds_toArray, List.set_cons_zero, List.set_cons_succ]
          refine wpAnyH_takeD (i := 24) (v := .slice o1 n1 c1) (some 28) rfl rfl (by kernel_rfl) (by kernel_rfl) (by kernel_rfl) (fun _ _ _ h => h) (Or.inl ⟨by rfl, by intro W hW; have hhv1 := hW; have y1 := (cell_of hhv1 1).trans rfl; go_simp⟩) hS6 ?_
          simp only [Act.put, List.setIfInBounds_toArray, List.set_cons_zero, List.set_cons_succ]
          refine wpAnyH_takeD (i := 25) (v := .pointer (some ⟨qv1, 3, none⟩)) (some 29) rfl rfl (by kernel_rfl) (by kernel_rfl) (by kernel_rfl) (fun _ _ _ h => h) (Or.inl ⟨by rfl, by intro W _; go_simp⟩) hS6 ?_
          simp only [Act.put, List.setIfInBounds_toArray, List.set_cons_zero, List.set_cons_succ]
          refine wpAnyH_takeD (i := 26) (v := .pointer (some ⟨qv1, 4, none⟩)) (some 30) rfl rfl (by kernel_rfl) (by kernel_rfl) (by kernel_rfl) (fun _ _ _ h => h) (Or.inl ⟨by rfl, by intro W _; go_simp⟩) hS6 ?_
          simp only [Act.put, List.setIfInBounds_toArray, List.set_cons_zero, List.set_cons_succ]
          refine wpAnyH_takeD (i := 27) (v := .slice o3 n3 c3) (some 31) rfl rfl (by kernel_rfl) (by kernel_rfl) (by kernel_rfl) (fun _ _ _ h => h) (Or.inl ⟨by rfl, by intro W hW; have hhv1 := hW; have y4 := (cell_of hhv1 4).trans rfl; go_simp⟩) hS6 ?_
          simp only [Act.put, List.setIfInBounds_toArray, List.set_cons_zero, List.set_cons_succ]
          refine wpAnyH_ready (rs := [28]) (by kernel_rfl) (by simp) ?_
          refine AllReadyH.cons rfl (fun K hK => ?_) AllReadyH.nil
          go_simp
          refine (specVaryOf_any _ n3 base fs _ (HV3.out _ hb6) (by omega) HG.out).mono ?_
          rintro e w7 ⟨vv, rfl, ownY, bw⟩
          obtain ⟨oY, pY, rfl⟩ := slice_of_owns ownY
          rw [HVL.out] at ownY ⊢
          have hb7 : Below w.heap.size w (w7) := hb6.trans (bw.mono hb6.size)
          have HM7 : Hid ((w6).heap.size ≤ (w7).heap.size) := bw.size
          have HBv1_7 : Hid ((w7).heap[qv1]? = some (.cells #[.string p, .slice o1 n1 c1, .slice o2 n2 c2, .int .i64 st, .slice o3 n3 c3, .string b, .int .i64 t] 34)) := blk_below HBv1_6.out bw
          have HOY_7 : Hid ((w7).ownsRow w.heap.size 9 1 (.slice oY vl.length pY) vl.length (vl.map Value.string)) := owns_wide ownY hb6.size
          have LOY : Hid (∀ g, (Value.ownBlock (.slice oY vl.length pY)) = some g → (w6).heap.size ≤ g) := fun g hg => owns_ge ownY hg
          have HIY : Hid (∀ g, (Value.ownBlock (.slice oY vl.length pY)) = some g → g < (w7).heap.size) := fun g hg => owns_lt ownY hg
          clear ownY
          clear hb6 HBv1_6 bw
          have hS7 : w7.heap[qv1]? = some (.cells #[.string p, .slice o1 n1 c1, .slice o2 n2 c2, .int .i64 st, .slice o3 n3 c3, .string b, .int .i64 t] 34) := HBv1_7.out
          refine hK.out _ _ hS7 (fun _ => ?_)
          clear hK K hS6
          refine wpAnyH_ready (rs := [29]) (by kernel_rfl) (by simp) ?_
          refine AllReadyH.cons rfl (fun K hK => ?_) AllReadyH.nil
          go_simp
          refine (l8Texts_any _ _ _ _ _ _ xs vl _ (HV1.out _ hb7) (texts_view HOY_7.out) (by omega)).mono ?_
          rintro e w8 ⟨rfl, bw⟩
          obtain ⟨u5, hu5⟩ : ∃ u5, u5 = decide (xs = vl) := ⟨_, rfl⟩
          rw [← hu5]
          have hb8 : Below w.heap.size w (w8) := hb7.trans (bw.mono hb7.size)
          have HM8 : Hid ((w7).heap.size ≤ (w8).heap.size) := bw.size
          have HOY_8 : Hid ((w8).ownsRow w.heap.size 9 1 (.slice oY vl.length pY) vl.length (vl.map Value.string)) := owns_below HOY_7.out bw (fun g hg => owns_lt HOY_7.out hg)
          have HBv1_8 : Hid ((w8).heap[qv1]? = some (.cells #[.string p, .slice o1 n1 c1, .slice o2 n2 c2, .int .i64 st, .slice o3 n3 c3, .string b, .int .i64 t] 34)) := blk_below HBv1_7.out bw
          clear hb7 HOY_7 HBv1_7 bw
          have hS8 : w8.heap[qv1]? = some (.cells #[.string p, .slice o1 n1 c1, .slice o2 n2 c2, .int .i64 st, .slice o3 n3 c3, .string b, .int .i64 t] 34) := HBv1_8.out
          refine hK.out _ _ hS8 (fun _ => ?_)
          clear hK K hS7
          cases u5 with
          | false =>
            have HF : Hid (¬ ObjP p xs ys st fs b t) := fun h => absurd (h.2.2.2.2.1.trans HVL.out) (of_decide_eq_false hu5.symm)
            clear hu5
            refine wpAnyH_takeD (i := 30) (v := .bool true) (some 34) rfl rfl (by kernel_rfl) (by kernel_rfl) (by kernel_rfl) (fun _ _ _ h => h) (Or.inl ⟨by rfl, by intro W _; go_simp⟩) hS8 ?_
            simp only [Act.put, List.setIfInBounds_toArray, List.set_cons_zero, List.set_cons_succ]
            refine wpAnyH_takeD (i := 31) (v := .bool true) (some 35) rfl rfl (by kernel_rfl) (by kernel_rfl) (by kernel_rfl) (fun _ _ _ h => h) (Or.inl ⟨by rfl, by intro W _; go_simp⟩) hS8 ?_
            simp only [Act.put, List.setIfInBounds_toArray, List.set_cons_zero, List.set_cons_succ]
            refine wpAnyH_takeD (i := 32) (v := .bool true) (some 36) rfl rfl (by kernel_rfl) (by kernel_rfl) (by kernel_rfl) (fun _ _ _ h => h) (Or.inl ⟨by rfl, by intro W _; go_simp⟩) hS8 ?_
            simp only [Act.put, List.setIfInBounds_toArray, List.set_cons_zero, List.set_cons_succ]
            refine wpAnyH_takeD (i := 33) (v := undef) (some 37) rfl rfl (by kernel_rfl) (by kernel_rfl) (by kernel_rfl) (fun _ _ _ h => h) (Or.inr ⟨by rfl, rfl⟩) hS8 ?_
            simp only [Act.put, List.setIfInBounds_toArray, List.set_cons_zero, List.set_cons_succ]
            refine wpAnyH_takeD (i := 34) (v := undef) (some 38) rfl rfl (by kernel_rfl) (by kernel_rfl) (by kernel_rfl) (fun _ _ _ h => h) (Or.inr ⟨by rfl, rfl⟩) hS8 ?_
            simp only [Act.put, List.setIfInBounds_toArray, List.set_cons_zero, List.set_cons_succ]
            refine wpAnyH_takeD (i := 35) (v := undef) (some 39) rfl rfl (by kernel_rfl) (by kernel_rfl) (by kernel_rfl) (fun _ _ _ h => h) (Or.inr ⟨by rfl, rfl⟩) hS8 ?_
            simp only [Act.put, List.setIfInBounds_toArray, List.set_cons_zero, List.set_cons_succ]
            refine wpAnyH_takeD (i := 36) (v := undef) (some 40) rfl rfl (by kernel_rfl) (by kernel_rfl) (by kernel_rfl) (fun _ _ _ h => h) (Or.inr ⟨by rfl, rfl⟩) hS8 ?_
            simp only [Act.put, List.setIfInBounds_toArray, List.set_cons_zero, List.set_cons_succ]
            refine wpAnyH_takeD (i := 37) (v := undef) (some 41) rfl rfl (by kernel_rfl) (by kernel_rfl) (by kernel_rfl) (fun _ _ _ h => h) (Or.inr ⟨by rfl, rfl⟩) hS8 ?_
            simp only [Act.put, List.setIfInBounds_toArray, List.set_cons_zero, List.set_cons_succ]
            refine wpAnyH_takeD (i := 38) (v := undef) (some 42) rfl rfl (by kernel_rfl) (by kernel_rfl) (by kernel_rfl) (fun _ _ _ h => h) (Or.inr ⟨by rfl, rfl⟩) hS8 ?_
            simp only [Act.put, List.setIfInBounds_toArray, List.set_cons_zero, List.set_cons_succ]
            refine wpAnyH_takeD (i := 39) (v := undef) (some 43) rfl rfl (by kernel_rfl) (by kernel_rfl) (by kernel_rfl) (fun _ _ _ h => h) (Or.inr ⟨by rfl, rfl⟩) hS8 ?_
            simp only [Act.put, List.setIfInBounds_toArray, List.set_cons_zero, List.set_cons_succ]
            refine wpAnyH_takeD (i := 40) (v := .bool true) (some 44) rfl rfl (by kernel_rfl) (by kernel_rfl) (by kernel_rfl) (fun _ _ _ h => h) (Or.inl ⟨by rfl, by intro W _; go_simp⟩) hS8 ?_
            simp only [Act.put, List.setIfInBounds_toArray, List.set_cons_zero, List.set_cons_succ]
            clear hS8
            refine wpAnyH_done (by kernel_rfl) ?_ _
            go_wp2_with fail
            go_ret
            exact BoolIs.no HF.out hb8
          | true =>
            have HE : Hid (xs = vl) := (show xs = vl from of_decide_eq_true hu5.symm)
            clear hu5
            refine wpAnyH_takeD (i := 30) (v := .bool false) (some 34) rfl rfl (by kernel_rfl) (by kernel_rfl) (by kernel_rfl) (fun _ _ _ h => h) (Or.inl ⟨by rfl, by intro W _; go_simp⟩) hS8 ?_
            simp only [Act.put, List.setIfInBounds_toArray, List.set_cons_zero, List.set_cons_succ]
            refine wpAnyH_takeD (i := 31) (v := .bool false) (some 35) rfl rfl (by kernel_rfl) (by kernel_rfl) (by kernel_rfl) (fun _ _ _ h => h) (Or.inl ⟨by rfl, by intro W _; go_simp⟩) hS8 ?_
            simp only [Act.put, List.setIfInBounds_toArray, List.set_cons_zero, List.set_cons_succ]
            refine wpAnyH_takeD (i := 32) (v := .bool false) (some 36) rfl rfl (by kernel_rfl) (by kernel_rfl) (by kernel_rfl) (fun _ _ _ h => h) (Or.inl ⟨by rfl, by intro W _; go_simp⟩) hS8 ?_
            simp only [Act.put, List.setIfInBounds_toArray, List.set_cons_zero, List.set_cons_succ]
            refine wpAnyH_takeD (i := 33) (v := .pointer (some ⟨qv1, 2, none⟩)) (some 37) rfl rfl (by kernel_rfl) (by kernel_rfl) (by kernel_rfl) (fun _ _ _ h => h) (Or.inl ⟨by rfl, by intro W _; go_simp⟩) hS8 ?_
            simp only [Act.put, List.setIfInBounds_toArray, List.set_cons_zero, List.set_cons_succ]
            refine wpAnyH_takeD (i := 34) (v := .slice o2 n2 c2) (some 38) rfl rfl (by kernel_rfl) (by kernel_rfl) (by kernel_rfl) (fun _ _ _ h => h) (Or.inl ⟨by rfl, by intro W hW; have hhv1 := hW; have y2 := (cell_of hhv1 2).trans rfl; go_simp⟩) hS8 ?_
            simp only [Act.put, List.setIfInBounds_toArray, List.set_cons_zero, List.set_cons_succ]
            refine wpAnyH_takeD (i := 35) (v := .int .i64 (n2 : Int)) (some 39) rfl rfl (by kernel_rfl) (by kernel_rfl) (by kernel_rfl) (fun _ _ _ h => h) (Or.inl ⟨by rfl, by intro W _; go_simp⟩) hS8 ?_
            simp only [Act.put, List.setIfInBounds_toArray, List.set_cons_zero, List.set_cons_succ]
            refine wpAnyH_takeD (i := 36) (v := .pointer (some ⟨qv1, 1, none⟩)) (some 40) rfl rfl (by kernel_rfl) (by kernel_rfl) (by kernel_rfl) (fun _ _ _ h => h) (Or.inl ⟨by rfl, by intro W _; go_simp⟩) hS8 ?_
            simp only [Act.put, List.setIfInBounds_toArray, List.set_cons_zero, List.set_cons_succ]
            refine wpAnyH_takeD (i := 37) (v := .slice o1 n1 c1) (some 41) rfl rfl (by kernel_rfl) (by kernel_rfl) (by kernel_rfl) (fun _ _ _ h => h) (Or.inl ⟨by rfl, by intro W hW; have hhv1 := hW; have y1 := (cell_of hhv1 1).trans rfl; go_simp⟩) hS8 ?_
            simp only [Act.put, List.setIfInBounds_toArray, List.set_cons_zero, List.set_cons_succ]
            refine wpAnyH_takeD (i := 38) (v := .int .i64 (n1 : Int)) (some 42) rfl rfl (by kernel_rfl) (by kernel_rfl) (by kernel_rfl) (fun _ _ _ h => h) (Or.inl ⟨by rfl, by intro W _; go_simp⟩) hS8 ?_
            simp only [Act.put, List.setIfInBounds_toArray, List.set_cons_zero, List.set_cons_succ]
            by_cases hc1 : (n2 : Int) = (n1 : Int)
            · have hc1b : (((n2 : Int) : Int) == ((n1 : Int) : Int)) = true := by simpa using hc1
              have hc1n : (((n2 : Int) : Int) != ((n1 : Int) : Int)) = false := by simpa using hc1
              have hc1H : Hid ((n2 : Int) = (n1 : Int)) := hc1
              clear hc1
              refine wpAnyH_takeD (i := 39) (v := .bool false) (some 43) rfl rfl (by kernel_rfl) (by kernel_rfl) (by kernel_rfl) (fun _ _ _ h => h) (Or.inl ⟨by rfl, by intro W _; go_simp⟩) hS8 ?_
              simp only [Act.put, List.setIfInBounds_toArray, List.set_cons_zero, List.set_cons_succ]
              refine wpAnyH_takeD (i := 40) (v := .bool false) (some 44) rfl rfl (by kernel_rfl) (by kernel_rfl) (by kernel_rfl) (fun _ _ _ h => h) (Or.inl ⟨by rfl, by intro W _; go_simp⟩) hS8 ?_
              simp only [Act.put, List.setIfInBounds_toArray, List.set_cons_zero, List.set_cons_succ]
              clear hS8
              refine wpAnyH_done (by kernel_rfl) ?_ _
              clear hc1b hc1n
              have HEQ := hc1H
              clear hc1H
              have HQ : Hid ((∀ y ∈ ys, ValOk y) ↔ ObjP p xs ys st fs b t) := ⟨fun h => ⟨HR.out, HP.out, HT.out, HNM.out, HE.out.trans HVL.out.symm, by have h1 := HL1.out; have h2 := HL2.out; have h3 := HEQ.out; omega, h⟩, fun h => h.2.2.2.2.2.2⟩
              go_wp2_with fail
              go_loopw [3] (fun i wr => ∃ j : Nat, j ≤ n2 ∧ i = .int .i64 (j : Int) ∧ Hid (Below w.heap.size w wr ∧ (wr).heap[qv1]? = some (.cells #[.string p, .slice o1 n1 c1, .slice o2 n2 c2, .int .i64 st, .slice o3 n3 c3, .string b, .int .i64 t] 34)) ∧ Hid (∀ x ∈ ys.take j, ValOk x)) (fun i _ => n2 - (intOf i).toNat)
              case atStart => exact ⟨0, Nat.zero_le _, rfl, ⟨hb8, HBv1_8.out⟩, fun x hx => by simp at hx⟩
              case round =>
                obtain ⟨j, hj, rfl, HW, HN⟩ := hrel
                have cc2 : wr.cell? ⟨qv1, 2, none⟩ = some (.slice o2 n2 c2) := (cell_of HW.out.2 2).trans rfl
                by_cases hlt : (j : Int) < (n2 : Int)
                · have hjx : j < ys.length := by rw [HL2.out]; omega
                  obtain ⟨g, hog, hg, hc⟩ := (HV2.out wr HW.out.1).2 j (by omega)
                  subst hog
                  have hs := HS2.out j (by omega)
                  obtain ⟨x, hxx⟩ : ∃ x, x = textAt ys j := ⟨_, rfl⟩
                  rw [← hxx] at hc hs
                  have HM : Hid (x ∈ ys) := by show _ ∈ _; rw [hxx]; exact textAt_mem ys j hjx
                  have HTK : Hid (ys.take (j + 1) = ys.take j ++ [x]) := by show _ = _; rw [take_textAt ys j hjx, hxx]
                  clear hxx hjx
                  go_wp2_with fail
                  refine (specValueOk_any x _ hs).mono ?_
                  rintro e w90 ⟨tx, rfl, htx, bw⟩
                  have HW2 : Hid (Below w.heap.size w w90 ∧ (w90).heap[qv1]? = some (.cells #[.string p, .slice o1 n1 c1, .slice (some ⟨g, 0, none⟩) n2 c2, .int .i64 st, .slice o3 n3 c3, .string b, .int .i64 t] 34)) := ⟨HW.out.1.trans (bw.mono HW.out.1.size), blk_below HW.out.2 bw⟩
                  clear bw cc2 hc HW
                  cases tx with
                  | false =>
                    have HF : Hid (¬ ObjP p xs ys st fs b t) := fun h => nomatch htx.2 (HQ.out.2 h x HM.out)
                    clear htx HN
                    go_wp2_with fail
                    go_ret
                    exact BoolIs.no HF.out HW2.out.1
                  | true =>
                    have HN2 : Hid (∀ y ∈ ys.take (j + 1), ValOk y) := by
                      intro y hy
                      rw [HTK.out] at hy
                      rcases List.mem_append.1 hy with hy | hy
                      · exact HN.out y hy
                      · rw [List.mem_singleton.1 hy]; exact htx.1 rfl
                    clear htx HN
                    go_wp2_with fail
                    go_roundw
                    case rel => exact ⟨j + 1, by omega, by go_num, HW2, HN2⟩
                    case measure => simp [intOf]; omega
                · have HA : Hid (ObjP p xs ys st fs b t) := HQ.out.1 (by
                    have h := HN.out
                    rw [List.take_of_length_le (by rw [HL2.out]; omega)] at h
                    exact h)
                  clear HN
                  go_wp2_with fail
                  go_ret
                  exact ⟨true, rfl, ⟨fun _ => HA.out, fun _ => rfl⟩, HW.out.1⟩
            · have hc1b : (((n2 : Int) : Int) == ((n1 : Int) : Int)) = false := by simpa using hc1
              have hc1n : (((n2 : Int) : Int) != ((n1 : Int) : Int)) = true := by simpa using hc1
              have HF : Hid (¬ ObjP p xs ys st fs b t) := fun h => by have h1 := h.2.2.2.2.2.1; have h2 := HL1.out; have h3 := HL2.out; omega
              have hc1H : Hid (¬ ((n2 : Int) = (n1 : Int))) := hc1
              clear hc1
              refine wpAnyH_takeD (i := 39) (v := .bool true) (some 43) rfl rfl (by kernel_rfl) (by kernel_rfl) (by kernel_rfl) (fun _ _ _ h => h) (Or.inl ⟨by rfl, by intro W _; go_simp⟩) hS8 ?_
              simp only [Act.put, List.setIfInBounds_toArray, List.set_cons_zero, List.set_cons_succ]
              refine wpAnyH_takeD (i := 40) (v := .bool true) (some 44) rfl rfl (by kernel_rfl) (by kernel_rfl) (by kernel_rfl) (fun _ _ _ h => h) (Or.inl ⟨by rfl, by intro W _; go_simp⟩) hS8 ?_
              simp only [Act.put, List.setIfInBounds_toArray, List.set_cons_zero, List.set_cons_succ]
              clear hS8
              refine wpAnyH_done (by kernel_rfl) ?_ _
              go_wp2_with fail
              go_ret
              exact BoolIs.no HF.out hb8

end Go.Proofs.YtdlhicdfldecgaaGreat

namespace Go.Proofs.YtdlhicdfldecgaaGreat
open Go.RowKit
open Go.Lib hiding intOf

/-- A call answers an answer with these fields, in memory of its own. -/
def RespRow (st : Int) (fs : List (ByteArray × ByteArray)) (b : ByteArray) (w : World) (e : Ending) (w' : World) : Prop :=
  ∃ v, e = .returned (.agg #[.int .i64 st, v, .string b]) ∧ w'.ownsRow w.heap.size 75 2 v fs.length (flatF fs) ∧ Below w.heap.size w w'
theorem three_other (W : World) (r j : Nat) (a b c : Value) (h : j ≠ r) : (threeSet W r a b c).heap[j]? = W.heap[j]? := by
  unfold threeSet
  rw [heap_setCell_other _ _ j _ h, heap_setCell_other _ _ j _ h, heap_setCell_other _ _ j _ h]

set_option maxHeartbeats 1000000 in
set_option maxRecDepth 100000 in
theorem l9Resp_any (st : Int) (v : Value) (b : ByteArray) (n base : Nat) (fs : List (ByteArray × ByteArray)) (w : World) (hv : FieldsV w base v n fs) (hn : n ≤ 2000000) :
    Calls Tryz.prog 21 #[.agg #[.int .i64 st, v, .string b]] w fun e w' => RespRow st fs b w e w' := by
  obtain ⟨oa, cap, rfl, _⟩ := hv.slice
  obtain ⟨r, hr⟩ : ∃ r, r = w.heap.size := ⟨_, rfl⟩
  have HR : Hid (w.heap.size = r) := hr.symm
  obtain ⟨W1, hW1⟩ : ∃ W, W = (w.alloc (.cells #[.int .i64 st, .slice oa n cap, .string b] 32)).alloc (.cells #[.int .i64 0, .slice none 0 0, .string ⟨#[]⟩] 32) := ⟨_, rfl⟩
  have HW1 : Hid ((w.alloc (.cells #[.int .i64 st, .slice oa n cap, .string b] 32)).alloc (.cells #[.int .i64 0, .slice none 0 0, .string ⟨#[]⟩] 32) = W1) := hW1.symm
  have b1 : Below r w W1 := by rw [hW1, hr]; exact ((Below.refl _ w).alloc (Nat.le_refl _) _).alloc (by simp) _
  have hv1 := hv.below (by rw [hr] at b1; exact b1)
  have s1 : (w.alloc (.cells #[.int .i64 st, .slice oa n cap, .string b] 32)).heap.size = r + 1 := by rw [hr]; simp
  have s2 : W1.heap.size = r + 1 + 1 := by rw [hW1, hr]; simp
  have H0 : Hid (W1.heap[r]? = some (.cells #[.int .i64 st, .slice oa n cap, .string b] 32) ∧ W1.heap[r + 1]? = some (.cells #[.int .i64 0, .slice none 0 0, .string ⟨#[]⟩] 32) ∧ Below r w W1) := by
    have e0 := heap_alloc_new w (.cells #[.int .i64 st, .slice oa n cap, .string b] 32)
    have e1 := heap_alloc_new (w.alloc (.cells #[.int .i64 st, .slice oa n cap, .string b] 32)) (.cells #[.int .i64 0, .slice none 0 0, .string ⟨#[]⟩] 32)
    rw [← hr] at e0
    rw [s1, ← hW1] at e1
    have c1 : Below (r + 1) (w.alloc (.cells #[.int .i64 st, .slice oa n cap, .string b] 32)) W1 := by rw [hW1, ← s1]; exact (Below.refl _ _).alloc (Nat.le_refl _) _
    exact ⟨by rw [c1.block r (by omega)]; exact e0, e1, b1⟩
  obtain ⟨⟨_, c1, _⟩, _⟩ := three_facts H0.out.1
  have HS2 : Hid (W1.heap.size = r + 1 + 1) := s2
  have HL : Hid (fs.length = n) := hv.len
  clear hW1 hv b1 s1 s2
  go_enter Tryz.func21, Tryz.ntmps21
  go_upto_region 1 with fail
  rw [HW1.out, ← hr]
  clear hr HW1
  go_wp2_with fail
  refine (l9Copy_any _ n base fs _ hv1 hn).mono ?_
  rintro e w2 ⟨z, rfl, own, b2⟩
  obtain ⟨oz, cz, rfl⟩ := slice_of_owns own
  rw [HL.out] at own ⊢
  have hs2 := HS2.out
  rw [hs2] at own b2
  have H2 : Hid (w2.heap[r]? = some (.cells #[.int .i64 st, .slice oa n cap, .string b] 32) ∧ w2.heap[r + 1]? = some (.cells #[.int .i64 0, .slice none 0 0, .string ⟨#[]⟩] 32) ∧ Below r w w2) :=
    ⟨by rw [b2.block r (by omega)]; exact H0.out.1, by rw [b2.block (r + 1) (by omega)]; exact H0.out.2.1, H0.out.2.2.trans (b2.mono (by omega))⟩
  have HO2 : Hid (w2.ownsRow (r + 1 + 1) 75 2 (.slice oz n cz) n (flatF fs)) := own
  obtain ⟨⟨_, d1, _⟩, _, y1, _⟩ := three_facts H2.out.1
  clear own b2 hs2 c1 hv1 H0 HS2
  have H3 : Hid ((w2.setCell ⟨r, 1, none⟩ (.slice oz n cz)).heap[r]? = some (.cells #[.int .i64 st, .slice oz n cz, .string b] 32) ∧ (w2.setCell ⟨r, 1, none⟩ (.slice oz n cz)).heap[r + 1]? = some (.cells #[.int .i64 0, .slice none 0 0, .string ⟨#[]⟩] 32)) := by
    refine ⟨?_, by rw [heap_setCell_other _ _ (r + 1) _ (by show r + 1 ≠ r; omega)]; exact H2.out.2.1⟩
    have := heap_set w2 r 1 _ _ _ (.slice oz n cz) H2.out.1
    simpa using this
  obtain ⟨⟨f0, f1, f2⟩, _⟩ := three_facts H3.out.1
  obtain ⟨⟨g0, g1, g2⟩, x0, x1, x2⟩ := three_facts H3.out.2
  have hset := three_set H3.out.2 (.int .i64 st) (.slice oz n cz) (.string b)
  obtain ⟨⟨k0, k1, k2⟩, _⟩ := three_facts hset
  have HFB : Hid (Below r w (threeSet (w2.setCell ⟨r, 1, none⟩ (.slice oz n cz)) (r + 1) (.int .i64 st) (.slice oz n cz) (.string b))) := below_three (H2.out.2.2.setCell (Nat.le_refl _) _) (by omega)
  have HFO : Hid ((threeSet (w2.setCell ⟨r, 1, none⟩ (.slice oz n cz)) (r + 1) (.int .i64 st) (.slice oz n cz) (.string b)).ownsRow r 75 2 (.slice oz n cz) fs.length (flatF fs)) := by
    show World.ownsRow _ _ _ _ _ _ _
    rw [HL.out]
    refine owns_same (owns_wide HO2.out (by omega)) (fun j hj => ?_)
    have hj2 := owns_ge HO2.out hj
    rw [three_other _ _ j _ _ _ (by omega), heap_setCell_other _ _ j _ (by show j ≠ r; omega)]
  unfold threeSet at k0 k1 k2 HFB HFO
  clear hset H2 H3 HO2
  go_wp2_with fail
  refine bodyPost_ret (v := .agg #[.int .i64 st, .slice oz n cz, .string b]) (by simp [results, Tryz.results21, go_sem, k0, k1, k2]) rfl ?_
  exact ⟨_, rfl, by rw [HR.out]; exact HFO.out, by rw [HR.out]; exact HFB.out⟩

/-- While answers are merged: both arguments, the answer's memory, the answer that is made and its fields. -/
structure MgSt (w : World) (r o : Nat) (st : Int) (va : Value) (b : ByteArray) (st2 : Int) (vb : Value) (c : ByteArray) (z : Value) (P : List (ByteArray × ByteArray)) (W : World) : Prop where
  q0 : W.heap[r]? = some (.cells #[.int .i64 st, va, .string b] 32)
  q1 : W.heap[r + 1]? = some (.cells #[.int .i64 st2, vb, .string c] 32)
  q2 : W.heap[r + 1 + 1]? = some (.cells #[.int .i64 0, .slice none 0 0, .string ⟨#[]⟩] 32)
  q3 : W.heap[o]? = some (.cells #[.int .i64 st, z, .string b] 32)
  own : W.ownsRow (r + 1 + 1 + 1) 75 2 z P.length (flatF P)
  ne : ∀ j, z.ownBlock = some j → j ≠ o
  ge : r + 1 + 1 + 1 ≤ o
  low : Below r w W
theorem MgSt.lt {w : World} {r o : Nat} {st : Int} {va : Value} {b : ByteArray} {st2 : Int} {vb : Value} {c : ByteArray} {z : Value} {P : List (ByteArray × ByteArray)} {W : World} (h : MgSt w r o st va b st2 vb c z P W) : o < W.heap.size := (Array.getElem?_eq_some_iff.1 h.q3).1
theorem MgSt.below {w : World} {r o : Nat} {st : Int} {va : Value} {b : ByteArray} {st2 : Int} {vb : Value} {c : ByteArray} {z : Value} {P : List (ByteArray × ByteArray)} {W : World} {W' : World} (h : MgSt w r o st va b st2 vb c z P W) (hb : Below W.heap.size W W') : MgSt w r o st va b st2 vb c z P W' := by
  have hs := h.lt
  have hg := h.ge
  exact ⟨by rw [hb.block _ (by omega)]; exact h.q0, by rw [hb.block _ (by omega)]; exact h.q1, by rw [hb.block _ (by omega)]; exact h.q2, by rw [hb.block _ hs]; exact h.q3, owns_same h.own (fun j hj => hb.block j (owns_lt h.own hj)), h.ne, hg, h.low.trans (hb.mono (by omega))⟩
theorem MgSt.set {w : World} {r o : Nat} {st : Int} {va : Value} {b : ByteArray} {st2 : Int} {vb : Value} {c : ByteArray} {z : Value} {P : List (ByteArray × ByteArray)} {W : World} {W' : World} (h : MgSt w r o st va b st2 vb c z P W) (hb : Below W.heap.size W W') {y : Value} {Q : List (ByteArray × ByteArray)} (hy : W'.ownsRow W.heap.size 75 2 y Q.length (flatF Q)) : MgSt w r o st va b st2 vb c y Q (W'.setCell ⟨o, 1, none⟩ y) := by
  have h' := h.below hb
  have hs := h.lt
  have hg := h.ge
  have hne : ∀ j, y.ownBlock = some j → j ≠ o := fun j hj => by have := owns_ge hy hj; omega
  refine ⟨by rw [heap_setCell_other _ _ r _ (by show r ≠ o; omega)]; exact h'.q0, by rw [heap_setCell_other _ _ (r + 1) _ (by show r + 1 ≠ o; omega)]; exact h'.q1, by rw [heap_setCell_other _ _ (r + 1 + 1) _ (by show r + 1 + 1 ≠ o; omega)]; exact h'.q2, ?_, owns_same (owns_wide hy (by omega)) (fun j hj => heap_setCell_other _ _ j _ (hne j hj)), hne, hg, h'.low.setCell (by show r ≤ o; omega) _⟩
  have := heap_set W' o 1 _ _ _ y h'.q3
  simpa using this

end Go.Proofs.YtdlhicdfldecgaaGreat

namespace Go.Proofs.YtdlhicdfldecgaaGreat
open Go.RowKit
open Go.Lib hiding intOf

/-- While both keepings are read: which of the two variables are made, in which blocks. -/
structure CkSt (W1 : World) (a1 a2 : Option Nat) (W : World) : Prop where
  low : Below W1.heap.size W1 W
  b1 : ∀ o, a1 = some o → CcAt W o cc0 ∧ W1.heap.size ≤ o
  b2 : ∀ o, a2 = some o → CcAt W o cc0 ∧ W1.heap.size ≤ o
  ne : ∀ o, a1 = some o → a2 ≠ some o
theorem CkSt.below {W1 W W' : World} {a1 a2 : Option Nat} (h : CkSt W1 a1 a2 W) (hb : Below W.heap.size W W') : CkSt W1 a1 a2 W' :=
  ⟨h.low.trans (hb.mono h.low.size), fun o ho => ⟨(h.b1 o ho).1.same (hb.block o (h.b1 o ho).1.lt), (h.b1 o ho).2⟩, fun o ho => ⟨(h.b2 o ho).1.same (hb.block o (h.b2 o ho).1.lt), (h.b2 o ho).2⟩, h.ne⟩
theorem CkSt.make1 {W1 W : World} {a2 : Option Nat} (h : CkSt W1 none a2 W) : CkSt W1 (some W.heap.size) a2 (W.alloc (.cells cc0.cs 66)) := by
  have h' := h.below ((Below.refl _ _).alloc (Nat.le_refl _) (.cells cc0.cs 66))
  exact ⟨h'.low, fun o ho => by cases ho; exact ⟨heap_alloc_new W _, h.low.size⟩, h'.b2, fun o ho e => by cases ho; have := (h.b2 _ e).1.lt; omega⟩
theorem CkSt.make2 {W1 W : World} {a1 : Option Nat} (h : CkSt W1 a1 none W) : CkSt W1 a1 (some W.heap.size) (W.alloc (.cells cc0.cs 66)) := by
  have h' := h.below ((Below.refl _ _).alloc (Nat.le_refl _) (.cells cc0.cs 66))
  exact ⟨h'.low, h'.b1, fun o ho => by cases ho; exact ⟨heap_alloc_new W _, h.low.size⟩, fun o ho e => by cases e; have := (h.b1 _ ho).1.lt; omega⟩
theorem lower_size (s : ByteArray) : (lowerOf s).size = s.size := by unfold lowerOf; rw [strOfNums_size, lowXs_len]
theorem putCcO (W : World) (g j : Nat) (d : CcD) (h : j ≠ g) : (putCc W g d).heap[j]? = W.heap[j]? := by
  unfold putCc
  rw [heap_setCell_other _ _ j _ h, heap_setCell_other _ _ j _ h, heap_setCell_other _ _ j _ h, heap_setCell_other _ _ j _ h, heap_setCell_other _ _ j _ h, heap_setCell_other _ _ j _ h]

set_option maxHeartbeats 8000000 in
set_option maxRecDepth 100000 in
theorem specMayKeep_any (m : Int) (p : ByteArray) (v : Value) (b : ByteArray) (n base : Nat) (fs : List (ByteArray × ByteArray)) (st : Int) (u : Value) (c : ByteArray) (k base2 : Nat) (gs : List (ByteArray × ByteArray)) (w : World) (hv : FieldsV w base v n fs) (hn : n ≤ 1073741824) (hsz : WalkF n fs) (hp : p.size ≤ maxLen) (hb : b.size ≤ maxLen) (hu : FieldsV w base2 u k gs) (hk : k ≤ 1073741824) (hsz2 : WalkF k gs) (hc : c.size ≤ maxLen) (hg1 : (getV fs ccName).size ≤ 1048576) (hg2 : (getV gs ccName).size ≤ 1048576) (hg3 : (getV gs varyName).size ≤ 1048576) :
    Calls Tryz.prog 18 #[.agg #[.int .i64 m, .string p, v, .string b], .agg #[.int .i64 st, u, .string c]] w fun e w' => BoolIs (MayP m p fs b st gs c) w e w' := by
  obtain ⟨oa, cap, rfl, _⟩ := hv.slice
  obtain ⟨ob, cb, rfl, _⟩ := hu.slice
  obtain ⟨r, hr⟩ : ∃ r, r = w.heap.size := ⟨_, rfl⟩
  have HR : Hid (w.heap.size = r) := hr.symm
  obtain ⟨W1, hW1⟩ : ∃ W, W = (w.alloc (.cells #[.int .i64 m, .string p, .slice oa n cap, .string b] 38)).alloc (.cells #[.int .i64 st, .slice ob k cb, .string c] 32) := ⟨_, rfl⟩
  have HW1 : Hid ((w.alloc (.cells #[.int .i64 m, .string p, .slice oa n cap, .string b] 38)).alloc (.cells #[.int .i64 st, .slice ob k cb, .string c] 32) = W1) := hW1.symm
  have HKEEP : Hid (∀ W, Below W1.heap.size W1 W → (W.heap[r]? = some (.cells #[.int .i64 m, .string p, .slice oa n cap, .string b] 38) ∧ W.heap[r + 1]? = some (.cells #[.int .i64 st, .slice ob k cb, .string c] 32)) ∧ FieldsV W base (.slice oa n cap) n fs ∧ FieldsV W base2 (.slice ob k cb) k gs ∧ Below w.heap.size w W) := by
    intro W hW
    have b1 : Below r w W1 := by rw [hW1, hr]; exact ((Below.refl _ w).alloc (Nat.le_refl _) _).alloc (by simp) _
    have s1 : (w.alloc (.cells #[.int .i64 m, .string p, .slice oa n cap, .string b] 38)).heap.size = r + 1 := by rw [hr]; simp
    have s2 : W1.heap.size = r + 1 + 1 := by rw [hW1, hr]; simp
    have e0 := heap_alloc_new w (.cells #[.int .i64 m, .string p, .slice oa n cap, .string b] 38)
    have e1 := heap_alloc_new (w.alloc (.cells #[.int .i64 m, .string p, .slice oa n cap, .string b] 38)) (.cells #[.int .i64 st, .slice ob k cb, .string c] 32)
    rw [← hr] at e0
    rw [s1, ← hW1] at e1
    have c1 : Below (r + 1) (w.alloc (.cells #[.int .i64 m, .string p, .slice oa n cap, .string b] 38)) W1 := by rw [hW1, ← s1]; exact (Below.refl _ _).alloc (Nat.le_refl _) _
    rw [s2] at hW
    have b2 : Below r w W := b1.trans (hW.mono (by omega))
    rw [hr] at b2
    exact ⟨⟨by rw [hW.block r (by omega), c1.block r (by omega)]; exact e0, by rw [hW.block (r + 1) (by omega)]; exact e1⟩, hv.below b2, hu.below b2, b2⟩
  have HSZ : Hid (WalkF n fs) := hsz
  have HSB : Hid (WalkF k gs) := hsz2
  have HPM : Hid (p.size ≤ maxLen) := hp
  have HBM : Hid (b.size ≤ maxLen) := hb
  have HCM : Hid (c.size ≤ maxLen) := hc
  have HG1 : Hid ((getV fs ccName).size ≤ 1048576) := hg1
  have HG2 : Hid ((getV gs ccName).size ≤ 1048576) := hg2
  have HG3 : Hid ((getV gs varyName).size ≤ 1048576) := hg3
  obtain ⟨⟨h0, h1⟩, hv1, hu1, _⟩ := HKEEP.out W1 (Below.refl _ _)
  obtain ⟨⟨c0, c1, c2, c3⟩, _⟩ := four_facts h0
  clear hW1 hv hu hsz hsz2 hp hb hc hg1 hg2 hg3 h0 h1 hu1
  go_enter Tryz.func18, Tryz.ntmps18
  go_upto_region 1 with fail
  rw [HW1.out, ← hr]
  clear hr HW1
  go_wp2_with fail
  refine (specReqOk_any m p _ b n base fs _ hv1 hn HSZ.out HPM.out HBM.out).mono ?_
  rintro e w2 ⟨okq, rfl, hokq, b2⟩
  have HB2 : Hid (Below W1.heap.size W1 w2) := b2
  clear c0 c1 c2 c3 hv1 b2
  obtain ⟨⟨h0, h1⟩, _, hu2, hb2⟩ := HKEEP.out w2 HB2.out
  have HB : Hid (Below w.heap.size w w2) := hb2
  cases okq with
  | false =>
    clear h0 h1 hu2 hb2
    have HF : Hid (¬ MayP m p fs b st gs c) := fun h => nomatch hokq.2 h.1.1
    clear hokq
    go_wp2_with fail
    go_ret
    exact BoolIs.no HF.out HB.out
  | true =>
    have HRQ : Hid (ReqP m p fs b) := hokq.1 rfl
    obtain ⟨⟨d0, d1, d2⟩, _⟩ := three_facts h1
    clear h0 h1 hb2 hokq HB
    go_wp2_with fail
    refine (specRespOk_any st _ c k base2 gs _ hu2 hk HSB.out HCM.out).mono ?_
    rintro e w3 ⟨okr, rfl, hokr, b3⟩
    have HB3 : Hid (Below W1.heap.size W1 w3) := HB2.out.trans (b3.mono HB2.out.size)
    clear d0 d1 d2 hu2 b3 HB2
    obtain ⟨⟨h0, h1⟩, _, _, hb3⟩ := HKEEP.out w3 HB3.out
    have HB : Hid (Below w.heap.size w w3) := hb3
    cases okr with
    | false =>
      clear h0 h1 hb3
      have HF : Hid (¬ MayP m p fs b st gs c) := fun h => nomatch hokr.2 h.1.2.1
      clear hokr
      go_wp2_with fail
      go_ret
      exact BoolIs.no HF.out HB.out
    | true =>
      have HRP : Hid (RespP st gs c) := hokr.1 rfl
      obtain ⟨⟨c0, c1, c2, c3⟩, _⟩ := four_facts h0
      obtain ⟨⟨d0, d1, d2⟩, _⟩ := three_facts h1
      clear h0 h1 hb3 hokr
      by_cases hm : m = 1
      · by_cases hst : st = 200
        · subst hm hst
          obtain ⟨tq, htq⟩ : ∃ t, t = getV fs ccName := ⟨_, rfl⟩
          obtain ⟨cq, hcq⟩ : ∃ t, t = ccR tq := ⟨_, rfl⟩
          obtain ⟨tr, htr⟩ : ∃ t, t = getV gs ccName := ⟨_, rfl⟩
          obtain ⟨cr, hcr⟩ : ∃ t, t = ccR tr := ⟨_, rfl⟩
          have HQ : Hid (MayP 1 p fs b 200 gs c ↔ cq.ns = false ∧ cr.ns = false ∧ cr.pr = false ∧ cr.ha = true ∧ NamesP (varyP gs)) := by
            show _ ↔ _
            unfold MayP
            rw [← htq, ← htr, ← hcq, ← hcr]
            exact ⟨fun h => h.2, fun h => ⟨⟨HRQ.out, HRP.out, rfl, rfl⟩, h⟩⟩
          have HC1 : Hid (∀ W, Below W1.heap.size W1 W → Calls Tryz.prog 39 #[.slice oa n cap] W fun e w' => e = .returned (.agg #[.bool cq.ns, .bool cq.nc, .bool cq.pr, .bool cq.mu, .bool cq.ha, .int .i64 cq.age]) ∧ Below W.heap.size W w') := fun W h => by
            have := specCcOf_any (.slice oa n cap) n base fs W (HKEEP.out W h).2.1 hn HG1.out
            rw [← htq, ← hcq] at this
            exact this
          have HC2 : Hid (∀ W, Below W1.heap.size W1 W → Calls Tryz.prog 39 #[.slice ob k cb] W fun e w' => e = .returned (.agg #[.bool cr.ns, .bool cr.nc, .bool cr.pr, .bool cr.mu, .bool cr.ha, .int .i64 cr.age]) ∧ Below W.heap.size W w') := fun W h => by
            have := specCcOf_any (.slice ob k cb) k base2 gs W (HKEEP.out W h).2.2.1 hk HG2.out
            rw [← htr, ← hcr] at this
            exact this
          have HSS : Hid (∀ W, Below W1.heap.size W1 W → W.cell? ⟨r, 2, none⟩ = some (.slice oa n cap) ∧ W.cell? ⟨r + 1, 1, none⟩ = some (.slice ob k cb)) := fun W h => by
            obtain ⟨⟨h0, h1⟩, _⟩ := HKEEP.out W h
            exact ⟨(four_facts h0).1.2.2.1, (three_facts h1).1.2.1⟩
          clear htq hcq htr hcr
          obtain ⟨q0, q1, q2, q3, q4, q5⟩ := cq
          obtain ⟨z0, z1, z2, z3, z4, z5⟩ := cr
          dsimp only at HQ HC1 HC2
          have HST0 : Hid (CkSt W1 none none w3.drew) := ⟨HB3.out.drew, (fun o ho => by cases ho), (fun o ho => by cases ho), (fun o ho => by cases ho)⟩
          clear HB3 HB HRQ HRP
          go_upto_region 3 with fail
          clear c0 c1 c3 d0 d2
          go_cut [5, 6] (fun s5 s6 wx => ∃ o1 o2 : Nat, s5 = .pointer (some ⟨o1, 0, none⟩) ∧ s6 = .pointer (some ⟨o2, 0, none⟩) ∧ Hid (Below W1.heap.size W1 wx ∧ CcAt wx o1 ⟨q0, q1, q2, q3, q4, q5⟩ ∧ CcAt wx o2 ⟨z0, z1, z2, z3, z4, z5⟩))
          case first =>
            refine wp_region_held_drew (S := fun W => W.cell? ⟨r, 2, none⟩ = some (.slice oa n cap) ∧ W.cell? ⟨r + 1, 1, none⟩ = some (.slice ob k cb)) (by kernel_rfl) ⟨c2, d1⟩ (fun hS0 => ?_)
            obtain ⟨X0, hX0⟩ : ∃ X, X = w3.drew := ⟨_, rfl⟩
            rw [← hX0] at hS0 HST0 ⊢
            clear hX0 c2 d1
            have HST := HST0
            clear HST0
            refine wpAnyH_takeD (i := 0) (v := .pointer (some ⟨r, 2, none⟩)) (some 25) rfl rfl (by kernel_rfl) (by kernel_rfl) (by kernel_rfl) (fun _ _ _ h => h) (Or.inl ⟨by rfl, by intro W _; go_simp⟩) hS0 ?_
            simp only [Act.put, List.setIfInBounds_toArray, List.set_cons_zero, List.set_cons_succ]
            refine wpAnyH_takeD (i := 1) (v := .slice oa n cap) (some 26) rfl rfl (by kernel_rfl) (by kernel_rfl) (by kernel_rfl) (fun _ _ _ h => h) (Or.inl ⟨by rfl, by intro W hW; obtain ⟨h1, h2⟩ := hW; go_simp⟩) hS0 ?_
            simp only [Act.put, List.setIfInBounds_toArray, List.set_cons_zero, List.set_cons_succ]
            refine wpAnyH_takeD (i := 3) (v := .pointer (some ⟨r + 1, 1, none⟩)) (some 28) rfl rfl (by kernel_rfl) (by kernel_rfl) (by kernel_rfl) (fun _ _ _ h => h) (Or.inl ⟨by rfl, by intro W _; go_simp⟩) hS0 ?_
            simp only [Act.put, List.setIfInBounds_toArray, List.set_cons_zero, List.set_cons_succ]
            refine wpAnyH_takeD (i := 4) (v := .slice ob k cb) (some 29) rfl rfl (by kernel_rfl) (by kernel_rfl) (by kernel_rfl) (fun _ _ _ h => h) (Or.inl ⟨by rfl, by intro W hW; obtain ⟨h1, h2⟩ := hW; go_simp⟩) hS0 ?_
            simp only [Act.put, List.setIfInBounds_toArray, List.set_cons_zero, List.set_cons_succ]
            refine wpAnyH_ready (rs := [2, 6, 7]) (by kernel_rfl) (by simp) ?_
            refine AllReadyH.cons rfl (fun K hK => ?_) (AllReadyH.cons rfl (fun K hK => ?_) (AllReadyH.cons rfl (fun K hK => ?_) AllReadyH.nil))
            · go_simp
              refine (HC1.out _ HST.out.low).mono ?_
              rintro e X1 ⟨rfl, bx⟩
              have HSN : Hid (CkSt W1 none none X1) := HST.out.below bx
              refine hK.out _ _ (HSS.out _ HSN.out.low) (fun _ => ?_)
              clear hK K HST bx
              have HST := HSN
              clear HSN
              refine wpAnyH_ready (rs := [5, 6, 7]) (by kernel_rfl) (by simp) ?_
              refine AllReadyH.cons rfl (fun K hK => ?_) (AllReadyH.cons rfl (fun K hK => ?_) (AllReadyH.cons rfl (fun K hK => ?_) AllReadyH.nil))
              · go_simp
                refine (HC2.out _ HST.out.low).mono ?_
                rintro e X2 ⟨rfl, bx⟩
                have HSN : Hid (CkSt W1 none none X2) := HST.out.below bx
                refine hK.out _ _ (HSS.out _ HSN.out.low) (fun _ => ?_)
                clear hK K HST bx
                have HST := HSN
                clear HSN
                refine wpAnyH_ready (rs := [6, 7]) (by kernel_rfl) (by simp) ?_
                refine AllReadyH.cons rfl (fun K hK => ?_) (AllReadyH.cons rfl (fun K hK => ?_) AllReadyH.nil)
                · have HSN : Hid (CkSt W1 (some X2.heap.size) none (X2.alloc (.cells #[.bool false, .bool false, .bool false, .bool false, .bool false, .int .i64 0] 66))) := HST.out.make1
                  go_simp
                  refine hK.out _ _ (HSS.out _ HSN.out.low) (fun _ => ?_)
                  clear hK K HST
                  obtain ⟨p6, ho⟩ : ∃ o, o = X2.heap.size := ⟨_, rfl⟩
                  obtain ⟨X3, hX⟩ : ∃ X, X = X2.alloc (.cells #[.bool false, .bool false, .bool false, .bool false, .bool false, .int .i64 0] 66) := ⟨_, rfl⟩
                  rw [← ho] at HSN ⊢
                  rw [← hX] at HSN ⊢
                  clear ho hX
                  have HST := HSN
                  clear HSN
                  refine wpAnyH_ready (rs := [7]) (by kernel_rfl) (by simp) ?_
                  refine AllReadyH.cons rfl (fun K hK => ?_) AllReadyH.nil
                  have HSN : Hid (CkSt W1 (some p6) (some X3.heap.size) (X3.alloc (.cells #[.bool false, .bool false, .bool false, .bool false, .bool false, .int .i64 0] 66))) := HST.out.make2
                  go_simp
                  refine hK.out _ _ (HSS.out _ HSN.out.low) (fun _ => ?_)
                  clear hK K HST
                  obtain ⟨p7, ho⟩ : ∃ o, o = X3.heap.size := ⟨_, rfl⟩
                  obtain ⟨X4, hX⟩ : ∃ X, X = X3.alloc (.cells #[.bool false, .bool false, .bool false, .bool false, .bool false, .int .i64 0] 66) := ⟨_, rfl⟩
                  rw [← ho] at HSN ⊢
                  rw [← hX] at HSN ⊢
                  clear ho hX
                  have HST := HSN
                  clear HSN
                  have hne : p6 ≠ p7 := fun e => HST.out.ne p6 rfl (by rw [e])
                  obtain ⟨Y, hY⟩ : ∃ Y, Y = ((((((X4.setCell ⟨p6, 0, none⟩ (.bool q0)).setCell ⟨p6, 1, none⟩ (.bool q1)).setCell ⟨p6, 2, none⟩ (.bool q2)).setCell ⟨p6, 3, none⟩ (.bool q3)).setCell ⟨p6, 4, none⟩ (.bool q4)).setCell ⟨p6, 5, none⟩ (.int .i64 q5)) := ⟨_, rfl⟩
                  have HY : Hid (((((((X4.setCell ⟨p6, 0, none⟩ (.bool q0)).setCell ⟨p6, 1, none⟩ (.bool q1)).setCell ⟨p6, 2, none⟩ (.bool q2)).setCell ⟨p6, 3, none⟩ (.bool q3)).setCell ⟨p6, 4, none⟩ (.bool q4)).setCell ⟨p6, 5, none⟩ (.int .i64 q5)) = Y) := hY.symm
                  have HR1 : Hid (CcAt X4 p6 cc0) := (HST.out.b1 p6 rfl).1
                  have HYL : Hid (Below W1.heap.size W1 Y) := by show Below _ _ _; rw [hY]; exact below_putCc HST.out.low (HST.out.b1 p6 rfl).2 ⟨q0, q1, q2, q3, q4, q5⟩
                  have HR2 : Hid (CcAt Y p7 cc0) := by show CcAt _ _ _; rw [hY]; exact (HST.out.b2 p7 rfl).1.same (putCcO _ _ _ ⟨q0, q1, q2, q3, q4, q5⟩ (fun e => hne e.symm))
                  have HR3 : Hid (CcAt Y p6 ⟨q0, q1, q2, q3, q4, q5⟩) := by show CcAt _ _ _; rw [hY]; exact HR1.out.putAll ⟨q0, q1, q2, q3, q4, q5⟩
                  obtain ⟨U, hU⟩ : ∃ U, U = ((((((Y.setCell ⟨p7, 0, none⟩ (.bool z0)).setCell ⟨p7, 1, none⟩ (.bool z1)).setCell ⟨p7, 2, none⟩ (.bool z2)).setCell ⟨p7, 3, none⟩ (.bool z3)).setCell ⟨p7, 4, none⟩ (.bool z4)).setCell ⟨p7, 5, none⟩ (.int .i64 z5)) := ⟨_, rfl⟩
                  have HU : Hid (((((((Y.setCell ⟨p7, 0, none⟩ (.bool z0)).setCell ⟨p7, 1, none⟩ (.bool z1)).setCell ⟨p7, 2, none⟩ (.bool z2)).setCell ⟨p7, 3, none⟩ (.bool z3)).setCell ⟨p7, 4, none⟩ (.bool z4)).setCell ⟨p7, 5, none⟩ (.int .i64 z5)) = U) := hU.symm
                  have HF : Hid (Below W1.heap.size W1 U ∧ CcAt U p6 ⟨q0, q1, q2, q3, q4, q5⟩ ∧ CcAt U p7 ⟨z0, z1, z2, z3, z4, z5⟩) := by
                    show _ ∧ _ ∧ _
                    rw [hU]
                    exact ⟨below_putCc HYL.out (HST.out.b2 p7 rfl).2 ⟨z0, z1, z2, z3, z4, z5⟩, HR3.out.same (putCcO _ _ _ ⟨z0, z1, z2, z3, z4, z5⟩ hne), HR2.out.putAll ⟨z0, z1, z2, z3, z4, z5⟩⟩
                  have hs8 := HSS.out _ HYL.out
                  have hs9 := HSS.out _ HF.out.1
                  clear hY hU hne
                  refine wpAnyH_ready (rs := [8]) (by kernel_rfl) (by simp) ?_
                  refine AllReadyH.cons rfl (fun K hK => ?_) AllReadyH.nil
                  obtain ⟨x0, x1, x2, x3, x4, x5⟩ := HR1.out.cells
                  have y0 := HR1.out.frozen 0
                  have y1 := HR1.out.frozen 1
                  have y2 := HR1.out.frozen 2
                  have y3 := HR1.out.frozen 3
                  have y4 := HR1.out.frozen 4
                  have y5 := HR1.out.frozen 5
                  clear HST HR1 HR3 HYL
                  go_simp
                  rw [HY.out]
                  refine hK.out _ _ hs8 (fun _ => ?_)
                  clear hK K x0 x1 x2 x3 x4 x5 y0 y1 y2 y3 y4 y5 HY
                  refine wpAnyH_ready (rs := [9]) (by kernel_rfl) (by simp) ?_
                  refine AllReadyH.cons rfl (fun K hK => ?_) AllReadyH.nil
                  obtain ⟨x0, x1, x2, x3, x4, x5⟩ := HR2.out.cells
                  have y0 := HR2.out.frozen 0
                  have y1 := HR2.out.frozen 1
                  have y2 := HR2.out.frozen 2
                  have y3 := HR2.out.frozen 3
                  have y4 := HR2.out.frozen 4
                  have y5 := HR2.out.frozen 5
                  clear HR2
                  go_simp
                  rw [HU.out]
                  refine hK.out _ _ hs9 (fun _ => ?_)
                  clear hK K x0 x1 x2 x3 x4 x5 y0 y1 y2 y3 y4 y5 hs8 hs9 HU
                  refine wpAnyH_done (by kernel_rfl) ?_ _
                  go_wp2_with fail
                  go_meet
                  exact ⟨p6, p7, rfl, rfl, HF⟩
                · have HSN : Hid (CkSt W1 none (some X2.heap.size) (X2.alloc (.cells #[.bool false, .bool false, .bool false, .bool false, .bool false, .int .i64 0] 66))) := HST.out.make2
                  go_simp
                  refine hK.out _ _ (HSS.out _ HSN.out.low) (fun _ => ?_)
                  clear hK K HST
                  obtain ⟨p7, ho⟩ : ∃ o, o = X2.heap.size := ⟨_, rfl⟩
                  obtain ⟨X3, hX⟩ : ∃ X, X = X2.alloc (.cells #[.bool false, .bool false, .bool false, .bool false, .bool false, .int .i64 0] 66) := ⟨_, rfl⟩
                  rw [← ho] at HSN ⊢
                  rw [← hX] at HSN ⊢
                  clear ho hX
                  have HST := HSN
                  clear HSN
                  refine wpAnyH_ready (rs := [6]) (by kernel_rfl) (by simp) ?_
                  refine AllReadyH.cons rfl (fun K hK => ?_) AllReadyH.nil
                  have HSN : Hid (CkSt W1 (some X3.heap.size) (some p7) (X3.alloc (.cells #[.bool false, .bool false, .bool false, .bool false, .bool false, .int .i64 0] 66))) := HST.out.make1
                  go_simp
                  refine hK.out _ _ (HSS.out _ HSN.out.low) (fun _ => ?_)
                  clear hK K HST
                  obtain ⟨p6, ho⟩ : ∃ o, o = X3.heap.size := ⟨_, rfl⟩
                  obtain ⟨X4, hX⟩ : ∃ X, X = X3.alloc (.cells #[.bool false, .bool false, .bool false, .bool false, .bool false, .int .i64 0] 66) := ⟨_, rfl⟩
                  rw [← ho] at HSN ⊢
                  rw [← hX] at HSN ⊢
                  clear ho hX
                  have HST := HSN
                  clear HSN
                  have hne : p6 ≠ p7 := fun e => HST.out.ne p6 rfl (by rw [e])
                  obtain ⟨Y, hY⟩ : ∃ Y, Y = ((((((X4.setCell ⟨p6, 0, none⟩ (.bool q0)).setCell ⟨p6, 1, none⟩ (.bool q1)).setCell ⟨p6, 2, none⟩ (.bool q2)).setCell ⟨p6, 3, none⟩ (.bool q3)).setCell ⟨p6, 4, none⟩ (.bool q4)).setCell ⟨p6, 5, none⟩ (.int .i64 q5)) := ⟨_, rfl⟩
                  have HY : Hid (((((((X4.setCell ⟨p6, 0, none⟩ (.bool q0)).setCell ⟨p6, 1, none⟩ (.bool q1)).setCell ⟨p6, 2, none⟩ (.bool q2)).setCell ⟨p6, 3, none⟩ (.bool q3)).setCell ⟨p6, 4, none⟩ (.bool q4)).setCell ⟨p6, 5, none⟩ (.int .i64 q5)) = Y) := hY.symm
                  have HR1 : Hid (CcAt X4 p6 cc0) := (HST.out.b1 p6 rfl).1
                  have HYL : Hid (Below W1.heap.size W1 Y) := by show Below _ _ _; rw [hY]; exact below_putCc HST.out.low (HST.out.b1 p6 rfl).2 ⟨q0, q1, q2, q3, q4, q5⟩
                  have HR2 : Hid (CcAt Y p7 cc0) := by show CcAt _ _ _; rw [hY]; exact (HST.out.b2 p7 rfl).1.same (putCcO _ _ _ ⟨q0, q1, q2, q3, q4, q5⟩ (fun e => hne e.symm))
                  have HR3 : Hid (CcAt Y p6 ⟨q0, q1, q2, q3, q4, q5⟩) := by show CcAt _ _ _; rw [hY]; exact HR1.out.putAll ⟨q0, q1, q2, q3, q4, q5⟩
                  obtain ⟨U, hU⟩ : ∃ U, U = ((((((Y.setCell ⟨p7, 0, none⟩ (.bool z0)).setCell ⟨p7, 1, none⟩ (.bool z1)).setCell ⟨p7, 2, none⟩ (.bool z2)).setCell ⟨p7, 3, none⟩ (.bool z3)).setCell ⟨p7, 4, none⟩ (.bool z4)).setCell ⟨p7, 5, none⟩ (.int .i64 z5)) := ⟨_, rfl⟩
                  have HU : Hid (((((((Y.setCell ⟨p7, 0, none⟩ (.bool z0)).setCell ⟨p7, 1, none⟩ (.bool z1)).setCell ⟨p7, 2, none⟩ (.bool z2)).setCell ⟨p7, 3, none⟩ (.bool z3)).setCell ⟨p7, 4, none⟩ (.bool z4)).setCell ⟨p7, 5, none⟩ (.int .i64 z5)) = U) := hU.symm
                  have HF : Hid (Below W1.heap.size W1 U ∧ CcAt U p6 ⟨q0, q1, q2, q3, q4, q5⟩ ∧ CcAt U p7 ⟨z0, z1, z2, z3, z4, z5⟩) := by
                    show _ ∧ _ ∧ _
                    rw [hU]
                    exact ⟨below_putCc HYL.out (HST.out.b2 p7 rfl).2 ⟨z0, z1, z2, z3, z4, z5⟩, HR3.out.same (putCcO _ _ _ ⟨z0, z1, z2, z3, z4, z5⟩ hne), HR2.out.putAll ⟨z0, z1, z2, z3, z4, z5⟩⟩
                  have hs8 := HSS.out _ HYL.out
                  have hs9 := HSS.out _ HF.out.1
                  clear hY hU hne
                  refine wpAnyH_ready (rs := [8]) (by kernel_rfl) (by simp) ?_
                  refine AllReadyH.cons rfl (fun K hK => ?_) AllReadyH.nil
                  obtain ⟨x0, x1, x2, x3, x4, x5⟩ := HR1.out.cells
                  have y0 := HR1.out.frozen 0
                  have y1 := HR1.out.frozen 1
                  have y2 := HR1.out.frozen 2
                  have y3 := HR1.out.frozen 3
                  have y4 := HR1.out.frozen 4
                  have y5 := HR1.out.frozen 5
                  clear HST HR1 HR3 HYL
                  go_simp
                  rw [HY.out]
                  refine hK.out _ _ hs8 (fun _ => ?_)
                  clear hK K x0 x1 x2 x3 x4 x5 y0 y1 y2 y3 y4 y5 HY
                  refine wpAnyH_ready (rs := [9]) (by kernel_rfl) (by simp) ?_
                  refine AllReadyH.cons rfl (fun K hK => ?_) AllReadyH.nil
                  obtain ⟨x0, x1, x2, x3, x4, x5⟩ := HR2.out.cells
                  have y0 := HR2.out.frozen 0
                  have y1 := HR2.out.frozen 1
                  have y2 := HR2.out.frozen 2
                  have y3 := HR2.out.frozen 3
                  have y4 := HR2.out.frozen 4
                  have y5 := HR2.out.frozen 5
                  clear HR2
                  go_simp
                  rw [HU.out]
                  refine hK.out _ _ hs9 (fun _ => ?_)
                  clear hK K x0 x1 x2 x3 x4 x5 y0 y1 y2 y3 y4 y5 hs8 hs9 HU
                  refine wpAnyH_done (by kernel_rfl) ?_ _
                  go_wp2_with fail
                  go_meet
                  exact ⟨p6, p7, rfl, rfl, HF⟩
              · have HSN : Hid (CkSt W1 (some X1.heap.size) none (X1.alloc (.cells #[.bool false, .bool false, .bool false, .bool false, .bool false, .int .i64 0] 66))) := HST.out.make1
                go_simp
                refine hK.out _ _ (HSS.out _ HSN.out.low) (fun _ => ?_)
                clear hK K HST
                obtain ⟨p6, ho⟩ : ∃ o, o = X1.heap.size := ⟨_, rfl⟩
                obtain ⟨X2, hX⟩ : ∃ X, X = X1.alloc (.cells #[.bool false, .bool false, .bool false, .bool false, .bool false, .int .i64 0] 66) := ⟨_, rfl⟩
                rw [← ho] at HSN ⊢
                rw [← hX] at HSN ⊢
                clear ho hX
                have HST := HSN
                clear HSN
                refine wpAnyH_ready (rs := [5, 7]) (by kernel_rfl) (by simp) ?_
                refine AllReadyH.cons rfl (fun K hK => ?_) (AllReadyH.cons rfl (fun K hK => ?_) AllReadyH.nil)
                · go_simp
                  refine (HC2.out _ HST.out.low).mono ?_
                  rintro e X3 ⟨rfl, bx⟩
                  have HSN : Hid (CkSt W1 (some p6) none X3) := HST.out.below bx
                  refine hK.out _ _ (HSS.out _ HSN.out.low) (fun _ => ?_)
                  clear hK K HST bx
                  have HST := HSN
                  clear HSN
                  refine wpAnyH_ready (rs := [7]) (by kernel_rfl) (by simp) ?_
                  refine AllReadyH.cons rfl (fun K hK => ?_) AllReadyH.nil
                  have HSN : Hid (CkSt W1 (some p6) (some X3.heap.size) (X3.alloc (.cells #[.bool false, .bool false, .bool false, .bool false, .bool false, .int .i64 0] 66))) := HST.out.make2
                  go_simp
                  refine hK.out _ _ (HSS.out _ HSN.out.low) (fun _ => ?_)
                  clear hK K HST
                  obtain ⟨p7, ho⟩ : ∃ o, o = X3.heap.size := ⟨_, rfl⟩
                  obtain ⟨X4, hX⟩ : ∃ X, X = X3.alloc (.cells #[.bool false, .bool false, .bool false, .bool false, .bool false, .int .i64 0] 66) := ⟨_, rfl⟩
                  rw [← ho] at HSN ⊢
                  rw [← hX] at HSN ⊢
                  clear ho hX
                  have HST := HSN
                  clear HSN
                  have hne : p6 ≠ p7 := fun e => HST.out.ne p6 rfl (by rw [e])
                  obtain ⟨Y, hY⟩ : ∃ Y, Y = ((((((X4.setCell ⟨p6, 0, none⟩ (.bool q0)).setCell ⟨p6, 1, none⟩ (.bool q1)).setCell ⟨p6, 2, none⟩ (.bool q2)).setCell ⟨p6, 3, none⟩ (.bool q3)).setCell ⟨p6, 4, none⟩ (.bool q4)).setCell ⟨p6, 5, none⟩ (.int .i64 q5)) := ⟨_, rfl⟩
                  have HY : Hid (((((((X4.setCell ⟨p6, 0, none⟩ (.bool q0)).setCell ⟨p6, 1, none⟩ (.bool q1)).setCell ⟨p6, 2, none⟩ (.bool q2)).setCell ⟨p6, 3, none⟩ (.bool q3)).setCell ⟨p6, 4, none⟩ (.bool q4)).setCell ⟨p6, 5, none⟩ (.int .i64 q5)) = Y) := hY.symm
                  have HR1 : Hid (CcAt X4 p6 cc0) := (HST.out.b1 p6 rfl).1
                  have HYL : Hid (Below W1.heap.size W1 Y) := by show Below _ _ _; rw [hY]; exact below_putCc HST.out.low (HST.out.b1 p6 rfl).2 ⟨q0, q1, q2, q3, q4, q5⟩
                  have HR2 : Hid (CcAt Y p7 cc0) := by show CcAt _ _ _; rw [hY]; exact (HST.out.b2 p7 rfl).1.same (putCcO _ _ _ ⟨q0, q1, q2, q3, q4, q5⟩ (fun e => hne e.symm))
                  have HR3 : Hid (CcAt Y p6 ⟨q0, q1, q2, q3, q4, q5⟩) := by show CcAt _ _ _; rw [hY]; exact HR1.out.putAll ⟨q0, q1, q2, q3, q4, q5⟩
                  obtain ⟨U, hU⟩ : ∃ U, U = ((((((Y.setCell ⟨p7, 0, none⟩ (.bool z0)).setCell ⟨p7, 1, none⟩ (.bool z1)).setCell ⟨p7, 2, none⟩ (.bool z2)).setCell ⟨p7, 3, none⟩ (.bool z3)).setCell ⟨p7, 4, none⟩ (.bool z4)).setCell ⟨p7, 5, none⟩ (.int .i64 z5)) := ⟨_, rfl⟩
                  have HU : Hid (((((((Y.setCell ⟨p7, 0, none⟩ (.bool z0)).setCell ⟨p7, 1, none⟩ (.bool z1)).setCell ⟨p7, 2, none⟩ (.bool z2)).setCell ⟨p7, 3, none⟩ (.bool z3)).setCell ⟨p7, 4, none⟩ (.bool z4)).setCell ⟨p7, 5, none⟩ (.int .i64 z5)) = U) := hU.symm
                  have HF : Hid (Below W1.heap.size W1 U ∧ CcAt U p6 ⟨q0, q1, q2, q3, q4, q5⟩ ∧ CcAt U p7 ⟨z0, z1, z2, z3, z4, z5⟩) := by
                    show _ ∧ _ ∧ _
                    rw [hU]
                    exact ⟨below_putCc HYL.out (HST.out.b2 p7 rfl).2 ⟨z0, z1, z2, z3, z4, z5⟩, HR3.out.same (putCcO _ _ _ ⟨z0, z1, z2, z3, z4, z5⟩ hne), HR2.out.putAll ⟨z0, z1, z2, z3, z4, z5⟩⟩
                  have hs8 := HSS.out _ HYL.out
                  have hs9 := HSS.out _ HF.out.1
                  clear hY hU hne
                  refine wpAnyH_ready (rs := [8]) (by kernel_rfl) (by simp) ?_
                  refine AllReadyH.cons rfl (fun K hK => ?_) AllReadyH.nil
                  obtain ⟨x0, x1, x2, x3, x4, x5⟩ := HR1.out.cells
                  have y0 := HR1.out.frozen 0
                  have y1 := HR1.out.frozen 1
                  have y2 := HR1.out.frozen 2
                  have y3 := HR1.out.frozen 3
                  have y4 := HR1.out.frozen 4
                  have y5 := HR1.out.frozen 5
                  clear HST HR1 HR3 HYL
                  go_simp
                  rw [HY.out]
                  refine hK.out _ _ hs8 (fun _ => ?_)
                  clear hK K x0 x1 x2 x3 x4 x5 y0 y1 y2 y3 y4 y5 HY
                  refine wpAnyH_ready (rs := [9]) (by kernel_rfl) (by simp) ?_
                  refine AllReadyH.cons rfl (fun K hK => ?_) AllReadyH.nil
                  obtain ⟨x0, x1, x2, x3, x4, x5⟩ := HR2.out.cells
                  have y0 := HR2.out.frozen 0
                  have y1 := HR2.out.frozen 1
                  have y2 := HR2.out.frozen 2
                  have y3 := HR2.out.frozen 3
                  have y4 := HR2.out.frozen 4
                  have y5 := HR2.out.frozen 5
                  clear HR2
                  go_simp
                  rw [HU.out]
                  refine hK.out _ _ hs9 (fun _ => ?_)
                  clear hK K x0 x1 x2 x3 x4 x5 y0 y1 y2 y3 y4 y5 hs8 hs9 HU
                  refine wpAnyH_done (by kernel_rfl) ?_ _
                  go_wp2_with fail
                  go_meet
                  exact ⟨p6, p7, rfl, rfl, HF⟩
                · have HSN : Hid (CkSt W1 (some p6) (some X2.heap.size) (X2.alloc (.cells #[.bool false, .bool false, .bool false, .bool false, .bool false, .int .i64 0] 66))) := HST.out.make2
                  go_simp
                  refine hK.out _ _ (HSS.out _ HSN.out.low) (fun _ => ?_)
                  clear hK K HST
                  obtain ⟨p7, ho⟩ : ∃ o, o = X2.heap.size := ⟨_, rfl⟩
                  obtain ⟨X3, hX⟩ : ∃ X, X = X2.alloc (.cells #[.bool false, .bool false, .bool false, .bool false, .bool false, .int .i64 0] 66) := ⟨_, rfl⟩
                  rw [← ho] at HSN ⊢
                  rw [← hX] at HSN ⊢
                  clear ho hX
                  have HST := HSN
                  clear HSN
                  refine wpAnyH_ready (rs := [5]) (by kernel_rfl) (by simp) ?_
                  refine AllReadyH.cons rfl (fun K hK => ?_) AllReadyH.nil
                  go_simp
                  refine (HC2.out _ HST.out.low).mono ?_
                  rintro e X4 ⟨rfl, bx⟩
                  have HSN : Hid (CkSt W1 (some p6) (some p7) X4) := HST.out.below bx
                  refine hK.out _ _ (HSS.out _ HSN.out.low) (fun _ => ?_)
                  clear hK K HST bx
                  have HST := HSN
                  clear HSN
                  have hne : p6 ≠ p7 := fun e => HST.out.ne p6 rfl (by rw [e])
                  obtain ⟨Y, hY⟩ : ∃ Y, Y = ((((((X4.setCell ⟨p6, 0, none⟩ (.bool q0)).setCell ⟨p6, 1, none⟩ (.bool q1)).setCell ⟨p6, 2, none⟩ (.bool q2)).setCell ⟨p6, 3, none⟩ (.bool q3)).setCell ⟨p6, 4, none⟩ (.bool q4)).setCell ⟨p6, 5, none⟩ (.int .i64 q5)) := ⟨_, rfl⟩
                  have HY : Hid (((((((X4.setCell ⟨p6, 0, none⟩ (.bool q0)).setCell ⟨p6, 1, none⟩ (.bool q1)).setCell ⟨p6, 2, none⟩ (.bool q2)).setCell ⟨p6, 3, none⟩ (.bool q3)).setCell ⟨p6, 4, none⟩ (.bool q4)).setCell ⟨p6, 5, none⟩ (.int .i64 q5)) = Y) := hY.symm
                  have HR1 : Hid (CcAt X4 p6 cc0) := (HST.out.b1 p6 rfl).1
                  have HYL : Hid (Below W1.heap.size W1 Y) := by show Below _ _ _; rw [hY]; exact below_putCc HST.out.low (HST.out.b1 p6 rfl).2 ⟨q0, q1, q2, q3, q4, q5⟩
                  have HR2 : Hid (CcAt Y p7 cc0) := by show CcAt _ _ _; rw [hY]; exact (HST.out.b2 p7 rfl).1.same (putCcO _ _ _ ⟨q0, q1, q2, q3, q4, q5⟩ (fun e => hne e.symm))
                  have HR3 : Hid (CcAt Y p6 ⟨q0, q1, q2, q3, q4, q5⟩) := by show CcAt _ _ _; rw [hY]; exact HR1.out.putAll ⟨q0, q1, q2, q3, q4, q5⟩
                  obtain ⟨U, hU⟩ : ∃ U, U = ((((((Y.setCell ⟨p7, 0, none⟩ (.bool z0)).setCell ⟨p7, 1, none⟩ (.bool z1)).setCell ⟨p7, 2, none⟩ (.bool z2)).setCell ⟨p7, 3, none⟩ (.bool z3)).setCell ⟨p7, 4, none⟩ (.bool z4)).setCell ⟨p7, 5, none⟩ (.int .i64 z5)) := ⟨_, rfl⟩
                  have HU : Hid (((((((Y.setCell ⟨p7, 0, none⟩ (.bool z0)).setCell ⟨p7, 1, none⟩ (.bool z1)).setCell ⟨p7, 2, none⟩ (.bool z2)).setCell ⟨p7, 3, none⟩ (.bool z3)).setCell ⟨p7, 4, none⟩ (.bool z4)).setCell ⟨p7, 5, none⟩ (.int .i64 z5)) = U) := hU.symm
                  have HF : Hid (Below W1.heap.size W1 U ∧ CcAt U p6 ⟨q0, q1, q2, q3, q4, q5⟩ ∧ CcAt U p7 ⟨z0, z1, z2, z3, z4, z5⟩) := by
                    show _ ∧ _ ∧ _
                    rw [hU]
                    exact ⟨below_putCc HYL.out (HST.out.b2 p7 rfl).2 ⟨z0, z1, z2, z3, z4, z5⟩, HR3.out.same (putCcO _ _ _ ⟨z0, z1, z2, z3, z4, z5⟩ hne), HR2.out.putAll ⟨z0, z1, z2, z3, z4, z5⟩⟩
                  have hs8 := HSS.out _ HYL.out
                  have hs9 := HSS.out _ HF.out.1
                  clear hY hU hne
                  refine wpAnyH_ready (rs := [8]) (by kernel_rfl) (by simp) ?_
                  refine AllReadyH.cons rfl (fun K hK => ?_) AllReadyH.nil
                  obtain ⟨x0, x1, x2, x3, x4, x5⟩ := HR1.out.cells
                  have y0 := HR1.out.frozen 0
                  have y1 := HR1.out.frozen 1
                  have y2 := HR1.out.frozen 2
                  have y3 := HR1.out.frozen 3
                  have y4 := HR1.out.frozen 4
                  have y5 := HR1.out.frozen 5
                  clear HST HR1 HR3 HYL
                  go_simp
                  rw [HY.out]
                  refine hK.out _ _ hs8 (fun _ => ?_)
                  clear hK K x0 x1 x2 x3 x4 x5 y0 y1 y2 y3 y4 y5 HY
                  refine wpAnyH_ready (rs := [9]) (by kernel_rfl) (by simp) ?_
                  refine AllReadyH.cons rfl (fun K hK => ?_) AllReadyH.nil
                  obtain ⟨x0, x1, x2, x3, x4, x5⟩ := HR2.out.cells
                  have y0 := HR2.out.frozen 0
                  have y1 := HR2.out.frozen 1
                  have y2 := HR2.out.frozen 2
                  have y3 := HR2.out.frozen 3
                  have y4 := HR2.out.frozen 4
                  have y5 := HR2.out.frozen 5
                  clear HR2
                  go_simp
                  rw [HU.out]
                  refine hK.out _ _ hs9 (fun _ => ?_)
                  clear hK K x0 x1 x2 x3 x4 x5 y0 y1 y2 y3 y4 y5 hs8 hs9 HU
                  refine wpAnyH_done (by kernel_rfl) ?_ _
                  go_wp2_with fail
                  go_meet
                  exact ⟨p6, p7, rfl, rfl, HF⟩
              · have HSN : Hid (CkSt W1 none (some X1.heap.size) (X1.alloc (.cells #[.bool false, .bool false, .bool false, .bool false, .bool false, .int .i64 0] 66))) := HST.out.make2
                go_simp
                refine hK.out _ _ (HSS.out _ HSN.out.low) (fun _ => ?_)
                clear hK K HST
                obtain ⟨p7, ho⟩ : ∃ o, o = X1.heap.size := ⟨_, rfl⟩
                obtain ⟨X2, hX⟩ : ∃ X, X = X1.alloc (.cells #[.bool false, .bool false, .bool false, .bool false, .bool false, .int .i64 0] 66) := ⟨_, rfl⟩
                rw [← ho] at HSN ⊢
                rw [← hX] at HSN ⊢
                clear ho hX
                have HST := HSN
                clear HSN
                refine wpAnyH_ready (rs := [5, 6]) (by kernel_rfl) (by simp) ?_
                refine AllReadyH.cons rfl (fun K hK => ?_) (AllReadyH.cons rfl (fun K hK => ?_) AllReadyH.nil)
                · go_simp
                  refine (HC2.out _ HST.out.low).mono ?_
                  rintro e X3 ⟨rfl, bx⟩
                  have HSN : Hid (CkSt W1 none (some p7) X3) := HST.out.below bx
                  refine hK.out _ _ (HSS.out _ HSN.out.low) (fun _ => ?_)
                  clear hK K HST bx
                  have HST := HSN
                  clear HSN
                  refine wpAnyH_ready (rs := [6]) (by kernel_rfl) (by simp) ?_
                  refine AllReadyH.cons rfl (fun K hK => ?_) AllReadyH.nil
                  have HSN : Hid (CkSt W1 (some X3.heap.size) (some p7) (X3.alloc (.cells #[.bool false, .bool false, .bool false, .bool false, .bool false, .int .i64 0] 66))) := HST.out.make1
                  go_simp
                  refine hK.out _ _ (HSS.out _ HSN.out.low) (fun _ => ?_)
                  clear hK K HST
                  obtain ⟨p6, ho⟩ : ∃ o, o = X3.heap.size := ⟨_, rfl⟩
                  obtain ⟨X4, hX⟩ : ∃ X, X = X3.alloc (.cells #[.bool false, .bool false, .bool false, .bool false, .bool false, .int .i64 0] 66) := ⟨_, rfl⟩
                  rw [← ho] at HSN ⊢
                  rw [← hX] at HSN ⊢
                  clear ho hX
                  have HST := HSN
                  clear HSN
                  have hne : p6 ≠ p7 := fun e => HST.out.ne p6 rfl (by rw [e])
                  obtain ⟨Y, hY⟩ : ∃ Y, Y = ((((((X4.setCell ⟨p6, 0, none⟩ (.bool q0)).setCell ⟨p6, 1, none⟩ (.bool q1)).setCell ⟨p6, 2, none⟩ (.bool q2)).setCell ⟨p6, 3, none⟩ (.bool q3)).setCell ⟨p6, 4, none⟩ (.bool q4)).setCell ⟨p6, 5, none⟩ (.int .i64 q5)) := ⟨_, rfl⟩
                  have HY : Hid (((((((X4.setCell ⟨p6, 0, none⟩ (.bool q0)).setCell ⟨p6, 1, none⟩ (.bool q1)).setCell ⟨p6, 2, none⟩ (.bool q2)).setCell ⟨p6, 3, none⟩ (.bool q3)).setCell ⟨p6, 4, none⟩ (.bool q4)).setCell ⟨p6, 5, none⟩ (.int .i64 q5)) = Y) := hY.symm
                  have HR1 : Hid (CcAt X4 p6 cc0) := (HST.out.b1 p6 rfl).1
                  have HYL : Hid (Below W1.heap.size W1 Y) := by show Below _ _ _; rw [hY]; exact below_putCc HST.out.low (HST.out.b1 p6 rfl).2 ⟨q0, q1, q2, q3, q4, q5⟩
                  have HR2 : Hid (CcAt Y p7 cc0) := by show CcAt _ _ _; rw [hY]; exact (HST.out.b2 p7 rfl).1.same (putCcO _ _ _ ⟨q0, q1, q2, q3, q4, q5⟩ (fun e => hne e.symm))
                  have HR3 : Hid (CcAt Y p6 ⟨q0, q1, q2, q3, q4, q5⟩) := by show CcAt _ _ _; rw [hY]; exact HR1.out.putAll ⟨q0, q1, q2, q3, q4, q5⟩
                  obtain ⟨U, hU⟩ : ∃ U, U = ((((((Y.setCell ⟨p7, 0, none⟩ (.bool z0)).setCell ⟨p7, 1, none⟩ (.bool z1)).setCell ⟨p7, 2, none⟩ (.bool z2)).setCell ⟨p7, 3, none⟩ (.bool z3)).setCell ⟨p7, 4, none⟩ (.bool z4)).setCell ⟨p7, 5, none⟩ (.int .i64 z5)) := ⟨_, rfl⟩
                  have HU : Hid (((((((Y.setCell ⟨p7, 0, none⟩ (.bool z0)).setCell ⟨p7, 1, none⟩ (.bool z1)).setCell ⟨p7, 2, none⟩ (.bool z2)).setCell ⟨p7, 3, none⟩ (.bool z3)).setCell ⟨p7, 4, none⟩ (.bool z4)).setCell ⟨p7, 5, none⟩ (.int .i64 z5)) = U) := hU.symm
                  have HF : Hid (Below W1.heap.size W1 U ∧ CcAt U p6 ⟨q0, q1, q2, q3, q4, q5⟩ ∧ CcAt U p7 ⟨z0, z1, z2, z3, z4, z5⟩) := by
                    show _ ∧ _ ∧ _
                    rw [hU]
                    exact ⟨below_putCc HYL.out (HST.out.b2 p7 rfl).2 ⟨z0, z1, z2, z3, z4, z5⟩, HR3.out.same (putCcO _ _ _ ⟨z0, z1, z2, z3, z4, z5⟩ hne), HR2.out.putAll ⟨z0, z1, z2, z3, z4, z5⟩⟩
                  have hs8 := HSS.out _ HYL.out
                  have hs9 := HSS.out _ HF.out.1
                  clear hY hU hne
                  refine wpAnyH_ready (rs := [8]) (by kernel_rfl) (by simp) ?_
                  refine AllReadyH.cons rfl (fun K hK => ?_) AllReadyH.nil
                  obtain ⟨x0, x1, x2, x3, x4, x5⟩ := HR1.out.cells
                  have y0 := HR1.out.frozen 0
                  have y1 := HR1.out.frozen 1
                  have y2 := HR1.out.frozen 2
                  have y3 := HR1.out.frozen 3
                  have y4 := HR1.out.frozen 4
                  have y5 := HR1.out.frozen 5
                  clear HST HR1 HR3 HYL
                  go_simp
                  rw [HY.out]
                  refine hK.out _ _ hs8 (fun _ => ?_)
                  clear hK K x0 x1 x2 x3 x4 x5 y0 y1 y2 y3 y4 y5 HY
                  refine wpAnyH_ready (rs := [9]) (by kernel_rfl) (by simp) ?_
                  refine AllReadyH.cons rfl (fun K hK => ?_) AllReadyH.nil
                  obtain ⟨x0, x1, x2, x3, x4, x5⟩ := HR2.out.cells
                  have y0 := HR2.out.frozen 0
                  have y1 := HR2.out.frozen 1
                  have y2 := HR2.out.frozen 2
                  have y3 := HR2.out.frozen 3
                  have y4 := HR2.out.frozen 4
                  have y5 := HR2.out.frozen 5
                  clear HR2
                  go_simp
                  rw [HU.out]
                  refine hK.out _ _ hs9 (fun _ => ?_)
                  clear hK K x0 x1 x2 x3 x4 x5 y0 y1 y2 y3 y4 y5 hs8 hs9 HU
                  refine wpAnyH_done (by kernel_rfl) ?_ _
                  go_wp2_with fail
                  go_meet
                  exact ⟨p6, p7, rfl, rfl, HF⟩
                · have HSN : Hid (CkSt W1 (some X2.heap.size) (some p7) (X2.alloc (.cells #[.bool false, .bool false, .bool false, .bool false, .bool false, .int .i64 0] 66))) := HST.out.make1
                  go_simp
                  refine hK.out _ _ (HSS.out _ HSN.out.low) (fun _ => ?_)
                  clear hK K HST
                  obtain ⟨p6, ho⟩ : ∃ o, o = X2.heap.size := ⟨_, rfl⟩
                  obtain ⟨X3, hX⟩ : ∃ X, X = X2.alloc (.cells #[.bool false, .bool false, .bool false, .bool false, .bool false, .int .i64 0] 66) := ⟨_, rfl⟩
                  rw [← ho] at HSN ⊢
                  rw [← hX] at HSN ⊢
                  clear ho hX
                  have HST := HSN
                  clear HSN
                  refine wpAnyH_ready (rs := [5]) (by kernel_rfl) (by simp) ?_
                  refine AllReadyH.cons rfl (fun K hK => ?_) AllReadyH.nil
                  go_simp
                  refine (HC2.out _ HST.out.low).mono ?_
                  rintro e X4 ⟨rfl, bx⟩
                  have HSN : Hid (CkSt W1 (some p6) (some p7) X4) := HST.out.below bx
                  refine hK.out _ _ (HSS.out _ HSN.out.low) (fun _ => ?_)
                  clear hK K HST bx
                  have HST := HSN
                  clear HSN
                  have hne : p6 ≠ p7 := fun e => HST.out.ne p6 rfl (by rw [e])
                  obtain ⟨Y, hY⟩ : ∃ Y, Y = ((((((X4.setCell ⟨p6, 0, none⟩ (.bool q0)).setCell ⟨p6, 1, none⟩ (.bool q1)).setCell ⟨p6, 2, none⟩ (.bool q2)).setCell ⟨p6, 3, none⟩ (.bool q3)).setCell ⟨p6, 4, none⟩ (.bool q4)).setCell ⟨p6, 5, none⟩ (.int .i64 q5)) := ⟨_, rfl⟩
                  have HY : Hid (((((((X4.setCell ⟨p6, 0, none⟩ (.bool q0)).setCell ⟨p6, 1, none⟩ (.bool q1)).setCell ⟨p6, 2, none⟩ (.bool q2)).setCell ⟨p6, 3, none⟩ (.bool q3)).setCell ⟨p6, 4, none⟩ (.bool q4)).setCell ⟨p6, 5, none⟩ (.int .i64 q5)) = Y) := hY.symm
                  have HR1 : Hid (CcAt X4 p6 cc0) := (HST.out.b1 p6 rfl).1
                  have HYL : Hid (Below W1.heap.size W1 Y) := by show Below _ _ _; rw [hY]; exact below_putCc HST.out.low (HST.out.b1 p6 rfl).2 ⟨q0, q1, q2, q3, q4, q5⟩
                  have HR2 : Hid (CcAt Y p7 cc0) := by show CcAt _ _ _; rw [hY]; exact (HST.out.b2 p7 rfl).1.same (putCcO _ _ _ ⟨q0, q1, q2, q3, q4, q5⟩ (fun e => hne e.symm))
                  have HR3 : Hid (CcAt Y p6 ⟨q0, q1, q2, q3, q4, q5⟩) := by show CcAt _ _ _; rw [hY]; exact HR1.out.putAll ⟨q0, q1, q2, q3, q4, q5⟩
                  obtain ⟨U, hU⟩ : ∃ U, U = ((((((Y.setCell ⟨p7, 0, none⟩ (.bool z0)).setCell ⟨p7, 1, none⟩ (.bool z1)).setCell ⟨p7, 2, none⟩ (.bool z2)).setCell ⟨p7, 3, none⟩ (.bool z3)).setCell ⟨p7, 4, none⟩ (.bool z4)).setCell ⟨p7, 5, none⟩ (.int .i64 z5)) := ⟨_, rfl⟩
                  have HU : Hid (((((((Y.setCell ⟨p7, 0, none⟩ (.bool z0)).setCell ⟨p7, 1, none⟩ (.bool z1)).setCell ⟨p7, 2, none⟩ (.bool z2)).setCell ⟨p7, 3, none⟩ (.bool z3)).setCell ⟨p7, 4, none⟩ (.bool z4)).setCell ⟨p7, 5, none⟩ (.int .i64 z5)) = U) := hU.symm
                  have HF : Hid (Below W1.heap.size W1 U ∧ CcAt U p6 ⟨q0, q1, q2, q3, q4, q5⟩ ∧ CcAt U p7 ⟨z0, z1, z2, z3, z4, z5⟩) := by
                    show _ ∧ _ ∧ _
                    rw [hU]
                    exact ⟨below_putCc HYL.out (HST.out.b2 p7 rfl).2 ⟨z0, z1, z2, z3, z4, z5⟩, HR3.out.same (putCcO _ _ _ ⟨z0, z1, z2, z3, z4, z5⟩ hne), HR2.out.putAll ⟨z0, z1, z2, z3, z4, z5⟩⟩
                  have hs8 := HSS.out _ HYL.out
                  have hs9 := HSS.out _ HF.out.1
                  clear hY hU hne
                  refine wpAnyH_ready (rs := [8]) (by kernel_rfl) (by simp) ?_
                  refine AllReadyH.cons rfl (fun K hK => ?_) AllReadyH.nil
                  obtain ⟨x0, x1, x2, x3, x4, x5⟩ := HR1.out.cells
                  have y0 := HR1.out.frozen 0
                  have y1 := HR1.out.frozen 1
                  have y2 := HR1.out.frozen 2
                  have y3 := HR1.out.frozen 3
                  have y4 := HR1.out.frozen 4
                  have y5 := HR1.out.frozen 5
                  clear HST HR1 HR3 HYL
                  go_simp
                  rw [HY.out]
                  refine hK.out _ _ hs8 (fun _ => ?_)
                  clear hK K x0 x1 x2 x3 x4 x5 y0 y1 y2 y3 y4 y5 HY
                  refine wpAnyH_ready (rs := [9]) (by kernel_rfl) (by simp) ?_
                  refine AllReadyH.cons rfl (fun K hK => ?_) AllReadyH.nil
                  obtain ⟨x0, x1, x2, x3, x4, x5⟩ := HR2.out.cells
                  have y0 := HR2.out.frozen 0
                  have y1 := HR2.out.frozen 1
                  have y2 := HR2.out.frozen 2
                  have y3 := HR2.out.frozen 3
                  have y4 := HR2.out.frozen 4
                  have y5 := HR2.out.frozen 5
                  clear HR2
                  go_simp
                  rw [HU.out]
                  refine hK.out _ _ hs9 (fun _ => ?_)
                  clear hK K x0 x1 x2 x3 x4 x5 y0 y1 y2 y3 y4 y5 hs8 hs9 HU
                  refine wpAnyH_done (by kernel_rfl) ?_ _
                  go_wp2_with fail
                  go_meet
                  exact ⟨p6, p7, rfl, rfl, HF⟩
            · have HSN : Hid (CkSt W1 (some X0.heap.size) none (X0.alloc (.cells #[.bool false, .bool false, .bool false, .bool false, .bool false, .int .i64 0] 66))) := HST.out.make1
              go_simp
              refine hK.out _ _ (HSS.out _ HSN.out.low) (fun _ => ?_)
              clear hK K HST
              obtain ⟨p6, ho⟩ : ∃ o, o = X0.heap.size := ⟨_, rfl⟩
              obtain ⟨X1, hX⟩ : ∃ X, X = X0.alloc (.cells #[.bool false, .bool false, .bool false, .bool false, .bool false, .int .i64 0] 66) := ⟨_, rfl⟩
              rw [← ho] at HSN ⊢
              rw [← hX] at HSN ⊢
              clear ho hX
              have HST := HSN
              clear HSN
              refine wpAnyH_ready (rs := [2, 7]) (by kernel_rfl) (by simp) ?_
              refine AllReadyH.cons rfl (fun K hK => ?_) (AllReadyH.cons rfl (fun K hK => ?_) AllReadyH.nil)
              · go_simp
                refine (HC1.out _ HST.out.low).mono ?_
                rintro e X2 ⟨rfl, bx⟩
                have HSN : Hid (CkSt W1 (some p6) none X2) := HST.out.below bx
                refine hK.out _ _ (HSS.out _ HSN.out.low) (fun _ => ?_)
                clear hK K HST bx
                have HST := HSN
                clear HSN
                refine wpAnyH_ready (rs := [5, 7]) (by kernel_rfl) (by simp) ?_
                refine AllReadyH.cons rfl (fun K hK => ?_) (AllReadyH.cons rfl (fun K hK => ?_) AllReadyH.nil)
                · go_simp
                  refine (HC2.out _ HST.out.low).mono ?_
                  rintro e X3 ⟨rfl, bx⟩
                  have HSN : Hid (CkSt W1 (some p6) none X3) := HST.out.below bx
                  refine hK.out _ _ (HSS.out _ HSN.out.low) (fun _ => ?_)
                  clear hK K HST bx
                  have HST := HSN
                  clear HSN
                  refine wpAnyH_ready (rs := [7]) (by kernel_rfl) (by simp) ?_
                  refine AllReadyH.cons rfl (fun K hK => ?_) AllReadyH.nil
                  have HSN : Hid (CkSt W1 (some p6) (some X3.heap.size) (X3.alloc (.cells #[.bool false, .bool false, .bool false, .bool false, .bool false, .int .i64 0] 66))) := HST.out.make2
                  go_simp
                  refine hK.out _ _ (HSS.out _ HSN.out.low) (fun _ => ?_)
                  clear hK K HST
                  obtain ⟨p7, ho⟩ : ∃ o, o = X3.heap.size := ⟨_, rfl⟩
                  obtain ⟨X4, hX⟩ : ∃ X, X = X3.alloc (.cells #[.bool false, .bool false, .bool false, .bool false, .bool false, .int .i64 0] 66) := ⟨_, rfl⟩
                  rw [← ho] at HSN ⊢
                  rw [← hX] at HSN ⊢
                  clear ho hX
                  have HST := HSN
                  clear HSN
                  have hne : p6 ≠ p7 := fun e => HST.out.ne p6 rfl (by rw [e])
                  obtain ⟨Y, hY⟩ : ∃ Y, Y = ((((((X4.setCell ⟨p6, 0, none⟩ (.bool q0)).setCell ⟨p6, 1, none⟩ (.bool q1)).setCell ⟨p6, 2, none⟩ (.bool q2)).setCell ⟨p6, 3, none⟩ (.bool q3)).setCell ⟨p6, 4, none⟩ (.bool q4)).setCell ⟨p6, 5, none⟩ (.int .i64 q5)) := ⟨_, rfl⟩
                  have HY : Hid (((((((X4.setCell ⟨p6, 0, none⟩ (.bool q0)).setCell ⟨p6, 1, none⟩ (.bool q1)).setCell ⟨p6, 2, none⟩ (.bool q2)).setCell ⟨p6, 3, none⟩ (.bool q3)).setCell ⟨p6, 4, none⟩ (.bool q4)).setCell ⟨p6, 5, none⟩ (.int .i64 q5)) = Y) := hY.symm
                  have HR1 : Hid (CcAt X4 p6 cc0) := (HST.out.b1 p6 rfl).1
                  have HYL : Hid (Below W1.heap.size W1 Y) := by show Below _ _ _; rw [hY]; exact below_putCc HST.out.low (HST.out.b1 p6 rfl).2 ⟨q0, q1, q2, q3, q4, q5⟩
                  have HR2 : Hid (CcAt Y p7 cc0) := by show CcAt _ _ _; rw [hY]; exact (HST.out.b2 p7 rfl).1.same (putCcO _ _ _ ⟨q0, q1, q2, q3, q4, q5⟩ (fun e => hne e.symm))
                  have HR3 : Hid (CcAt Y p6 ⟨q0, q1, q2, q3, q4, q5⟩) := by show CcAt _ _ _; rw [hY]; exact HR1.out.putAll ⟨q0, q1, q2, q3, q4, q5⟩
                  obtain ⟨U, hU⟩ : ∃ U, U = ((((((Y.setCell ⟨p7, 0, none⟩ (.bool z0)).setCell ⟨p7, 1, none⟩ (.bool z1)).setCell ⟨p7, 2, none⟩ (.bool z2)).setCell ⟨p7, 3, none⟩ (.bool z3)).setCell ⟨p7, 4, none⟩ (.bool z4)).setCell ⟨p7, 5, none⟩ (.int .i64 z5)) := ⟨_, rfl⟩
                  have HU : Hid (((((((Y.setCell ⟨p7, 0, none⟩ (.bool z0)).setCell ⟨p7, 1, none⟩ (.bool z1)).setCell ⟨p7, 2, none⟩ (.bool z2)).setCell ⟨p7, 3, none⟩ (.bool z3)).setCell ⟨p7, 4, none⟩ (.bool z4)).setCell ⟨p7, 5, none⟩ (.int .i64 z5)) = U) := hU.symm
                  have HF : Hid (Below W1.heap.size W1 U ∧ CcAt U p6 ⟨q0, q1, q2, q3, q4, q5⟩ ∧ CcAt U p7 ⟨z0, z1, z2, z3, z4, z5⟩) := by
                    show _ ∧ _ ∧ _
                    rw [hU]
                    exact ⟨below_putCc HYL.out (HST.out.b2 p7 rfl).2 ⟨z0, z1, z2, z3, z4, z5⟩, HR3.out.same (putCcO _ _ _ ⟨z0, z1, z2, z3, z4, z5⟩ hne), HR2.out.putAll ⟨z0, z1, z2, z3, z4, z5⟩⟩
                  have hs8 := HSS.out _ HYL.out
                  have hs9 := HSS.out _ HF.out.1
                  clear hY hU hne
                  refine wpAnyH_ready (rs := [8]) (by kernel_rfl) (by simp) ?_
                  refine AllReadyH.cons rfl (fun K hK => ?_) AllReadyH.nil
                  obtain ⟨x0, x1, x2, x3, x4, x5⟩ := HR1.out.cells
                  have y0 := HR1.out.frozen 0
                  have y1 := HR1.out.frozen 1
                  have y2 := HR1.out.frozen 2
                  have y3 := HR1.out.frozen 3
                  have y4 := HR1.out.frozen 4
                  have y5 := HR1.out.frozen 5
                  clear HST HR1 HR3 HYL
                  go_simp
                  rw [HY.out]
                  refine hK.out _ _ hs8 (fun _ => ?_)
                  clear hK K x0 x1 x2 x3 x4 x5 y0 y1 y2 y3 y4 y5 HY
                  refine wpAnyH_ready (rs := [9]) (by kernel_rfl) (by simp) ?_
                  refine AllReadyH.cons rfl (fun K hK => ?_) AllReadyH.nil
                  obtain ⟨x0, x1, x2, x3, x4, x5⟩ := HR2.out.cells
                  have y0 := HR2.out.frozen 0
                  have y1 := HR2.out.frozen 1
                  have y2 := HR2.out.frozen 2
                  have y3 := HR2.out.frozen 3
                  have y4 := HR2.out.frozen 4
                  have y5 := HR2.out.frozen 5
                  clear HR2
                  go_simp
                  rw [HU.out]
                  refine hK.out _ _ hs9 (fun _ => ?_)
                  clear hK K x0 x1 x2 x3 x4 x5 y0 y1 y2 y3 y4 y5 hs8 hs9 HU
                  refine wpAnyH_done (by kernel_rfl) ?_ _
                  go_wp2_with fail
                  go_meet
                  exact ⟨p6, p7, rfl, rfl, HF⟩
                · have HSN : Hid (CkSt W1 (some p6) (some X2.heap.size) (X2.alloc (.cells #[.bool false, .bool false, .bool false, .bool false, .bool false, .int .i64 0] 66))) := HST.out.make2
                  go_simp
                  refine hK.out _ _ (HSS.out _ HSN.out.low) (fun _ => ?_)
                  clear hK K HST
                  obtain ⟨p7, ho⟩ : ∃ o, o = X2.heap.size := ⟨_, rfl⟩
                  obtain ⟨X3, hX⟩ : ∃ X, X = X2.alloc (.cells #[.bool false, .bool false, .bool false, .bool false, .bool false, .int .i64 0] 66) := ⟨_, rfl⟩
                  rw [← ho] at HSN ⊢
                  rw [← hX] at HSN ⊢
                  clear ho hX
                  have HST := HSN
                  clear HSN
                  refine wpAnyH_ready (rs := [5]) (by kernel_rfl) (by simp) ?_
                  refine AllReadyH.cons rfl (fun K hK => ?_) AllReadyH.nil
                  go_simp
                  refine (HC2.out _ HST.out.low).mono ?_
                  rintro e X4 ⟨rfl, bx⟩
                  have HSN : Hid (CkSt W1 (some p6) (some p7) X4) := HST.out.below bx
                  refine hK.out _ _ (HSS.out _ HSN.out.low) (fun _ => ?_)
                  clear hK K HST bx
                  have HST := HSN
                  clear HSN
                  have hne : p6 ≠ p7 := fun e => HST.out.ne p6 rfl (by rw [e])
                  obtain ⟨Y, hY⟩ : ∃ Y, Y = ((((((X4.setCell ⟨p6, 0, none⟩ (.bool q0)).setCell ⟨p6, 1, none⟩ (.bool q1)).setCell ⟨p6, 2, none⟩ (.bool q2)).setCell ⟨p6, 3, none⟩ (.bool q3)).setCell ⟨p6, 4, none⟩ (.bool q4)).setCell ⟨p6, 5, none⟩ (.int .i64 q5)) := ⟨_, rfl⟩
                  have HY : Hid (((((((X4.setCell ⟨p6, 0, none⟩ (.bool q0)).setCell ⟨p6, 1, none⟩ (.bool q1)).setCell ⟨p6, 2, none⟩ (.bool q2)).setCell ⟨p6, 3, none⟩ (.bool q3)).setCell ⟨p6, 4, none⟩ (.bool q4)).setCell ⟨p6, 5, none⟩ (.int .i64 q5)) = Y) := hY.symm
                  have HR1 : Hid (CcAt X4 p6 cc0) := (HST.out.b1 p6 rfl).1
                  have HYL : Hid (Below W1.heap.size W1 Y) := by show Below _ _ _; rw [hY]; exact below_putCc HST.out.low (HST.out.b1 p6 rfl).2 ⟨q0, q1, q2, q3, q4, q5⟩
                  have HR2 : Hid (CcAt Y p7 cc0) := by show CcAt _ _ _; rw [hY]; exact (HST.out.b2 p7 rfl).1.same (putCcO _ _ _ ⟨q0, q1, q2, q3, q4, q5⟩ (fun e => hne e.symm))
                  have HR3 : Hid (CcAt Y p6 ⟨q0, q1, q2, q3, q4, q5⟩) := by show CcAt _ _ _; rw [hY]; exact HR1.out.putAll ⟨q0, q1, q2, q3, q4, q5⟩
                  obtain ⟨U, hU⟩ : ∃ U, U = ((((((Y.setCell ⟨p7, 0, none⟩ (.bool z0)).setCell ⟨p7, 1, none⟩ (.bool z1)).setCell ⟨p7, 2, none⟩ (.bool z2)).setCell ⟨p7, 3, none⟩ (.bool z3)).setCell ⟨p7, 4, none⟩ (.bool z4)).setCell ⟨p7, 5, none⟩ (.int .i64 z5)) := ⟨_, rfl⟩
                  have HU : Hid (((((((Y.setCell ⟨p7, 0, none⟩ (.bool z0)).setCell ⟨p7, 1, none⟩ (.bool z1)).setCell ⟨p7, 2, none⟩ (.bool z2)).setCell ⟨p7, 3, none⟩ (.bool z3)).setCell ⟨p7, 4, none⟩ (.bool z4)).setCell ⟨p7, 5, none⟩ (.int .i64 z5)) = U) := hU.symm
                  have HF : Hid (Below W1.heap.size W1 U ∧ CcAt U p6 ⟨q0, q1, q2, q3, q4, q5⟩ ∧ CcAt U p7 ⟨z0, z1, z2, z3, z4, z5⟩) := by
                    show _ ∧ _ ∧ _
                    rw [hU]
                    exact ⟨below_putCc HYL.out (HST.out.b2 p7 rfl).2 ⟨z0, z1, z2, z3, z4, z5⟩, HR3.out.same (putCcO _ _ _ ⟨z0, z1, z2, z3, z4, z5⟩ hne), HR2.out.putAll ⟨z0, z1, z2, z3, z4, z5⟩⟩
                  have hs8 := HSS.out _ HYL.out
                  have hs9 := HSS.out _ HF.out.1
                  clear hY hU hne
                  refine wpAnyH_ready (rs := [8]) (by kernel_rfl) (by simp) ?_
                  refine AllReadyH.cons rfl (fun K hK => ?_) AllReadyH.nil
                  obtain ⟨x0, x1, x2, x3, x4, x5⟩ := HR1.out.cells
                  have y0 := HR1.out.frozen 0
                  have y1 := HR1.out.frozen 1
                  have y2 := HR1.out.frozen 2
                  have y3 := HR1.out.frozen 3
                  have y4 := HR1.out.frozen 4
                  have y5 := HR1.out.frozen 5
                  clear HST HR1 HR3 HYL
                  go_simp
                  rw [HY.out]
                  refine hK.out _ _ hs8 (fun _ => ?_)
                  clear hK K x0 x1 x2 x3 x4 x5 y0 y1 y2 y3 y4 y5 HY
                  refine wpAnyH_ready (rs := [9]) (by kernel_rfl) (by simp) ?_
                  refine AllReadyH.cons rfl (fun K hK => ?_) AllReadyH.nil
                  obtain ⟨x0, x1, x2, x3, x4, x5⟩ := HR2.out.cells
                  have y0 := HR2.out.frozen 0
                  have y1 := HR2.out.frozen 1
                  have y2 := HR2.out.frozen 2
                  have y3 := HR2.out.frozen 3
                  have y4 := HR2.out.frozen 4
                  have y5 := HR2.out.frozen 5
                  clear HR2
                  go_simp
                  rw [HU.out]
                  refine hK.out _ _ hs9 (fun _ => ?_)
                  clear hK K x0 x1 x2 x3 x4 x5 y0 y1 y2 y3 y4 y5 hs8 hs9 HU
                  refine wpAnyH_done (by kernel_rfl) ?_ _
                  go_wp2_with fail
                  go_meet
                  exact ⟨p6, p7, rfl, rfl, HF⟩
              · have HSN : Hid (CkSt W1 (some p6) (some X1.heap.size) (X1.alloc (.cells #[.bool false, .bool false, .bool false, .bool false, .bool false, .int .i64 0] 66))) := HST.out.make2
                go_simp
                refine hK.out _ _ (HSS.out _ HSN.out.low) (fun _ => ?_)
                clear hK K HST
                obtain ⟨p7, ho⟩ : ∃ o, o = X1.heap.size := ⟨_, rfl⟩
                obtain ⟨X2, hX⟩ : ∃ X, X = X1.alloc (.cells #[.bool false, .bool false, .bool false, .bool false, .bool false, .int .i64 0] 66) := ⟨_, rfl⟩
                rw [← ho] at HSN ⊢
                rw [← hX] at HSN ⊢
                clear ho hX
                have HST := HSN
                clear HSN
                refine wpAnyH_ready (rs := [2]) (by kernel_rfl) (by simp) ?_
                refine AllReadyH.cons rfl (fun K hK => ?_) AllReadyH.nil
                go_simp
                refine (HC1.out _ HST.out.low).mono ?_
                rintro e X3 ⟨rfl, bx⟩
                have HSN : Hid (CkSt W1 (some p6) (some p7) X3) := HST.out.below bx
                refine hK.out _ _ (HSS.out _ HSN.out.low) (fun _ => ?_)
                clear hK K HST bx
                have HST := HSN
                clear HSN
                refine wpAnyH_ready (rs := [5]) (by kernel_rfl) (by simp) ?_
                refine AllReadyH.cons rfl (fun K hK => ?_) AllReadyH.nil
                go_simp
                refine (HC2.out _ HST.out.low).mono ?_
                rintro e X4 ⟨rfl, bx⟩
                have HSN : Hid (CkSt W1 (some p6) (some p7) X4) := HST.out.below bx
                refine hK.out _ _ (HSS.out _ HSN.out.low) (fun _ => ?_)
                clear hK K HST bx
                have HST := HSN
                clear HSN
                have hne : p6 ≠ p7 := fun e => HST.out.ne p6 rfl (by rw [e])
                obtain ⟨Y, hY⟩ : ∃ Y, Y = ((((((X4.setCell ⟨p6, 0, none⟩ (.bool q0)).setCell ⟨p6, 1, none⟩ (.bool q1)).setCell ⟨p6, 2, none⟩ (.bool q2)).setCell ⟨p6, 3, none⟩ (.bool q3)).setCell ⟨p6, 4, none⟩ (.bool q4)).setCell ⟨p6, 5, none⟩ (.int .i64 q5)) := ⟨_, rfl⟩
                have HY : Hid (((((((X4.setCell ⟨p6, 0, none⟩ (.bool q0)).setCell ⟨p6, 1, none⟩ (.bool q1)).setCell ⟨p6, 2, none⟩ (.bool q2)).setCell ⟨p6, 3, none⟩ (.bool q3)).setCell ⟨p6, 4, none⟩ (.bool q4)).setCell ⟨p6, 5, none⟩ (.int .i64 q5)) = Y) := hY.symm
                have HR1 : Hid (CcAt X4 p6 cc0) := (HST.out.b1 p6 rfl).1
                have HYL : Hid (Below W1.heap.size W1 Y) := by show Below _ _ _; rw [hY]; exact below_putCc HST.out.low (HST.out.b1 p6 rfl).2 ⟨q0, q1, q2, q3, q4, q5⟩
                have HR2 : Hid (CcAt Y p7 cc0) := by show CcAt _ _ _; rw [hY]; exact (HST.out.b2 p7 rfl).1.same (putCcO _ _ _ ⟨q0, q1, q2, q3, q4, q5⟩ (fun e => hne e.symm))
                have HR3 : Hid (CcAt Y p6 ⟨q0, q1, q2, q3, q4, q5⟩) := by show CcAt _ _ _; rw [hY]; exact HR1.out.putAll ⟨q0, q1, q2, q3, q4, q5⟩
                obtain ⟨U, hU⟩ : ∃ U, U = ((((((Y.setCell ⟨p7, 0, none⟩ (.bool z0)).setCell ⟨p7, 1, none⟩ (.bool z1)).setCell ⟨p7, 2, none⟩ (.bool z2)).setCell ⟨p7, 3, none⟩ (.bool z3)).setCell ⟨p7, 4, none⟩ (.bool z4)).setCell ⟨p7, 5, none⟩ (.int .i64 z5)) := ⟨_, rfl⟩
                have HU : Hid (((((((Y.setCell ⟨p7, 0, none⟩ (.bool z0)).setCell ⟨p7, 1, none⟩ (.bool z1)).setCell ⟨p7, 2, none⟩ (.bool z2)).setCell ⟨p7, 3, none⟩ (.bool z3)).setCell ⟨p7, 4, none⟩ (.bool z4)).setCell ⟨p7, 5, none⟩ (.int .i64 z5)) = U) := hU.symm
                have HF : Hid (Below W1.heap.size W1 U ∧ CcAt U p6 ⟨q0, q1, q2, q3, q4, q5⟩ ∧ CcAt U p7 ⟨z0, z1, z2, z3, z4, z5⟩) := by
                  show _ ∧ _ ∧ _
                  rw [hU]
                  exact ⟨below_putCc HYL.out (HST.out.b2 p7 rfl).2 ⟨z0, z1, z2, z3, z4, z5⟩, HR3.out.same (putCcO _ _ _ ⟨z0, z1, z2, z3, z4, z5⟩ hne), HR2.out.putAll ⟨z0, z1, z2, z3, z4, z5⟩⟩
                have hs8 := HSS.out _ HYL.out
                have hs9 := HSS.out _ HF.out.1
                clear hY hU hne
                refine wpAnyH_ready (rs := [8]) (by kernel_rfl) (by simp) ?_
                refine AllReadyH.cons rfl (fun K hK => ?_) AllReadyH.nil
                obtain ⟨x0, x1, x2, x3, x4, x5⟩ := HR1.out.cells
                have y0 := HR1.out.frozen 0
                have y1 := HR1.out.frozen 1
                have y2 := HR1.out.frozen 2
                have y3 := HR1.out.frozen 3
                have y4 := HR1.out.frozen 4
                have y5 := HR1.out.frozen 5
                clear HST HR1 HR3 HYL
                go_simp
                rw [HY.out]
                refine hK.out _ _ hs8 (fun _ => ?_)
                clear hK K x0 x1 x2 x3 x4 x5 y0 y1 y2 y3 y4 y5 HY
                refine wpAnyH_ready (rs := [9]) (by kernel_rfl) (by simp) ?_
                refine AllReadyH.cons rfl (fun K hK => ?_) AllReadyH.nil
                obtain ⟨x0, x1, x2, x3, x4, x5⟩ := HR2.out.cells
                have y0 := HR2.out.frozen 0
                have y1 := HR2.out.frozen 1
                have y2 := HR2.out.frozen 2
                have y3 := HR2.out.frozen 3
                have y4 := HR2.out.frozen 4
                have y5 := HR2.out.frozen 5
                clear HR2
                go_simp
                rw [HU.out]
                refine hK.out _ _ hs9 (fun _ => ?_)
                clear hK K x0 x1 x2 x3 x4 x5 y0 y1 y2 y3 y4 y5 hs8 hs9 HU
                refine wpAnyH_done (by kernel_rfl) ?_ _
                go_wp2_with fail
                go_meet
                exact ⟨p6, p7, rfl, rfl, HF⟩
            · have HSN : Hid (CkSt W1 none (some X0.heap.size) (X0.alloc (.cells #[.bool false, .bool false, .bool false, .bool false, .bool false, .int .i64 0] 66))) := HST.out.make2
              go_simp
              refine hK.out _ _ (HSS.out _ HSN.out.low) (fun _ => ?_)
              clear hK K HST
              obtain ⟨p7, ho⟩ : ∃ o, o = X0.heap.size := ⟨_, rfl⟩
              obtain ⟨X1, hX⟩ : ∃ X, X = X0.alloc (.cells #[.bool false, .bool false, .bool false, .bool false, .bool false, .int .i64 0] 66) := ⟨_, rfl⟩
              rw [← ho] at HSN ⊢
              rw [← hX] at HSN ⊢
              clear ho hX
              have HST := HSN
              clear HSN
              refine wpAnyH_ready (rs := [2, 6]) (by kernel_rfl) (by simp) ?_
              refine AllReadyH.cons rfl (fun K hK => ?_) (AllReadyH.cons rfl (fun K hK => ?_) AllReadyH.nil)
              · go_simp
                refine (HC1.out _ HST.out.low).mono ?_
                rintro e X2 ⟨rfl, bx⟩
                have HSN : Hid (CkSt W1 none (some p7) X2) := HST.out.below bx
                refine hK.out _ _ (HSS.out _ HSN.out.low) (fun _ => ?_)
                clear hK K HST bx
                have HST := HSN
                clear HSN
                refine wpAnyH_ready (rs := [5, 6]) (by kernel_rfl) (by simp) ?_
                refine AllReadyH.cons rfl (fun K hK => ?_) (AllReadyH.cons rfl (fun K hK => ?_) AllReadyH.nil)
                · go_simp
                  refine (HC2.out _ HST.out.low).mono ?_
                  rintro e X3 ⟨rfl, bx⟩
                  have HSN : Hid (CkSt W1 none (some p7) X3) := HST.out.below bx
                  refine hK.out _ _ (HSS.out _ HSN.out.low) (fun _ => ?_)
                  clear hK K HST bx
                  have HST := HSN
                  clear HSN
                  refine wpAnyH_ready (rs := [6]) (by kernel_rfl) (by simp) ?_
                  refine AllReadyH.cons rfl (fun K hK => ?_) AllReadyH.nil
                  have HSN : Hid (CkSt W1 (some X3.heap.size) (some p7) (X3.alloc (.cells #[.bool false, .bool false, .bool false, .bool false, .bool false, .int .i64 0] 66))) := HST.out.make1
                  go_simp
                  refine hK.out _ _ (HSS.out _ HSN.out.low) (fun _ => ?_)
                  clear hK K HST
                  obtain ⟨p6, ho⟩ : ∃ o, o = X3.heap.size := ⟨_, rfl⟩
                  obtain ⟨X4, hX⟩ : ∃ X, X = X3.alloc (.cells #[.bool false, .bool false, .bool false, .bool false, .bool false, .int .i64 0] 66) := ⟨_, rfl⟩
                  rw [← ho] at HSN ⊢
                  rw [← hX] at HSN ⊢
                  clear ho hX
                  have HST := HSN
                  clear HSN
                  have hne : p6 ≠ p7 := fun e => HST.out.ne p6 rfl (by rw [e])
                  obtain ⟨Y, hY⟩ : ∃ Y, Y = ((((((X4.setCell ⟨p6, 0, none⟩ (.bool q0)).setCell ⟨p6, 1, none⟩ (.bool q1)).setCell ⟨p6, 2, none⟩ (.bool q2)).setCell ⟨p6, 3, none⟩ (.bool q3)).setCell ⟨p6, 4, none⟩ (.bool q4)).setCell ⟨p6, 5, none⟩ (.int .i64 q5)) := ⟨_, rfl⟩
                  have HY : Hid (((((((X4.setCell ⟨p6, 0, none⟩ (.bool q0)).setCell ⟨p6, 1, none⟩ (.bool q1)).setCell ⟨p6, 2, none⟩ (.bool q2)).setCell ⟨p6, 3, none⟩ (.bool q3)).setCell ⟨p6, 4, none⟩ (.bool q4)).setCell ⟨p6, 5, none⟩ (.int .i64 q5)) = Y) := hY.symm
                  have HR1 : Hid (CcAt X4 p6 cc0) := (HST.out.b1 p6 rfl).1
                  have HYL : Hid (Below W1.heap.size W1 Y) := by show Below _ _ _; rw [hY]; exact below_putCc HST.out.low (HST.out.b1 p6 rfl).2 ⟨q0, q1, q2, q3, q4, q5⟩
                  have HR2 : Hid (CcAt Y p7 cc0) := by show CcAt _ _ _; rw [hY]; exact (HST.out.b2 p7 rfl).1.same (putCcO _ _ _ ⟨q0, q1, q2, q3, q4, q5⟩ (fun e => hne e.symm))
                  have HR3 : Hid (CcAt Y p6 ⟨q0, q1, q2, q3, q4, q5⟩) := by show CcAt _ _ _; rw [hY]; exact HR1.out.putAll ⟨q0, q1, q2, q3, q4, q5⟩
                  obtain ⟨U, hU⟩ : ∃ U, U = ((((((Y.setCell ⟨p7, 0, none⟩ (.bool z0)).setCell ⟨p7, 1, none⟩ (.bool z1)).setCell ⟨p7, 2, none⟩ (.bool z2)).setCell ⟨p7, 3, none⟩ (.bool z3)).setCell ⟨p7, 4, none⟩ (.bool z4)).setCell ⟨p7, 5, none⟩ (.int .i64 z5)) := ⟨_, rfl⟩
                  have HU : Hid (((((((Y.setCell ⟨p7, 0, none⟩ (.bool z0)).setCell ⟨p7, 1, none⟩ (.bool z1)).setCell ⟨p7, 2, none⟩ (.bool z2)).setCell ⟨p7, 3, none⟩ (.bool z3)).setCell ⟨p7, 4, none⟩ (.bool z4)).setCell ⟨p7, 5, none⟩ (.int .i64 z5)) = U) := hU.symm
                  have HF : Hid (Below W1.heap.size W1 U ∧ CcAt U p6 ⟨q0, q1, q2, q3, q4, q5⟩ ∧ CcAt U p7 ⟨z0, z1, z2, z3, z4, z5⟩) := by
                    show _ ∧ _ ∧ _
                    rw [hU]
                    exact ⟨below_putCc HYL.out (HST.out.b2 p7 rfl).2 ⟨z0, z1, z2, z3, z4, z5⟩, HR3.out.same (putCcO _ _ _ ⟨z0, z1, z2, z3, z4, z5⟩ hne), HR2.out.putAll ⟨z0, z1, z2, z3, z4, z5⟩⟩
                  have hs8 := HSS.out _ HYL.out
                  have hs9 := HSS.out _ HF.out.1
                  clear hY hU hne
                  refine wpAnyH_ready (rs := [8]) (by kernel_rfl) (by simp) ?_
                  refine AllReadyH.cons rfl (fun K hK => ?_) AllReadyH.nil
                  obtain ⟨x0, x1, x2, x3, x4, x5⟩ := HR1.out.cells
                  have y0 := HR1.out.frozen 0
                  have y1 := HR1.out.frozen 1
                  have y2 := HR1.out.frozen 2
                  have y3 := HR1.out.frozen 3
                  have y4 := HR1.out.frozen 4
                  have y5 := HR1.out.frozen 5
                  clear HST HR1 HR3 HYL
                  go_simp
                  rw [HY.out]
                  refine hK.out _ _ hs8 (fun _ => ?_)
                  clear hK K x0 x1 x2 x3 x4 x5 y0 y1 y2 y3 y4 y5 HY
                  refine wpAnyH_ready (rs := [9]) (by kernel_rfl) (by simp) ?_
                  refine AllReadyH.cons rfl (fun K hK => ?_) AllReadyH.nil
                  obtain ⟨x0, x1, x2, x3, x4, x5⟩ := HR2.out.cells
                  have y0 := HR2.out.frozen 0
                  have y1 := HR2.out.frozen 1
                  have y2 := HR2.out.frozen 2
                  have y3 := HR2.out.frozen 3
                  have y4 := HR2.out.frozen 4
                  have y5 := HR2.out.frozen 5
                  clear HR2
                  go_simp
                  rw [HU.out]
                  refine hK.out _ _ hs9 (fun _ => ?_)
                  clear hK K x0 x1 x2 x3 x4 x5 y0 y1 y2 y3 y4 y5 hs8 hs9 HU
                  refine wpAnyH_done (by kernel_rfl) ?_ _
                  go_wp2_with fail
                  go_meet
                  exact ⟨p6, p7, rfl, rfl, HF⟩
                · have HSN : Hid (CkSt W1 (some X2.heap.size) (some p7) (X2.alloc (.cells #[.bool false, .bool false, .bool false, .bool false, .bool false, .int .i64 0] 66))) := HST.out.make1
                  go_simp
                  refine hK.out _ _ (HSS.out _ HSN.out.low) (fun _ => ?_)
                  clear hK K HST
                  obtain ⟨p6, ho⟩ : ∃ o, o = X2.heap.size := ⟨_, rfl⟩
                  obtain ⟨X3, hX⟩ : ∃ X, X = X2.alloc (.cells #[.bool false, .bool false, .bool false, .bool false, .bool false, .int .i64 0] 66) := ⟨_, rfl⟩
                  rw [← ho] at HSN ⊢
                  rw [← hX] at HSN ⊢
                  clear ho hX
                  have HST := HSN
                  clear HSN
                  refine wpAnyH_ready (rs := [5]) (by kernel_rfl) (by simp) ?_
                  refine AllReadyH.cons rfl (fun K hK => ?_) AllReadyH.nil
                  go_simp
                  refine (HC2.out _ HST.out.low).mono ?_
                  rintro e X4 ⟨rfl, bx⟩
                  have HSN : Hid (CkSt W1 (some p6) (some p7) X4) := HST.out.below bx
                  refine hK.out _ _ (HSS.out _ HSN.out.low) (fun _ => ?_)
                  clear hK K HST bx
                  have HST := HSN
                  clear HSN
                  have hne : p6 ≠ p7 := fun e => HST.out.ne p6 rfl (by rw [e])
                  obtain ⟨Y, hY⟩ : ∃ Y, Y = ((((((X4.setCell ⟨p6, 0, none⟩ (.bool q0)).setCell ⟨p6, 1, none⟩ (.bool q1)).setCell ⟨p6, 2, none⟩ (.bool q2)).setCell ⟨p6, 3, none⟩ (.bool q3)).setCell ⟨p6, 4, none⟩ (.bool q4)).setCell ⟨p6, 5, none⟩ (.int .i64 q5)) := ⟨_, rfl⟩
                  have HY : Hid (((((((X4.setCell ⟨p6, 0, none⟩ (.bool q0)).setCell ⟨p6, 1, none⟩ (.bool q1)).setCell ⟨p6, 2, none⟩ (.bool q2)).setCell ⟨p6, 3, none⟩ (.bool q3)).setCell ⟨p6, 4, none⟩ (.bool q4)).setCell ⟨p6, 5, none⟩ (.int .i64 q5)) = Y) := hY.symm
                  have HR1 : Hid (CcAt X4 p6 cc0) := (HST.out.b1 p6 rfl).1
                  have HYL : Hid (Below W1.heap.size W1 Y) := by show Below _ _ _; rw [hY]; exact below_putCc HST.out.low (HST.out.b1 p6 rfl).2 ⟨q0, q1, q2, q3, q4, q5⟩
                  have HR2 : Hid (CcAt Y p7 cc0) := by show CcAt _ _ _; rw [hY]; exact (HST.out.b2 p7 rfl).1.same (putCcO _ _ _ ⟨q0, q1, q2, q3, q4, q5⟩ (fun e => hne e.symm))
                  have HR3 : Hid (CcAt Y p6 ⟨q0, q1, q2, q3, q4, q5⟩) := by show CcAt _ _ _; rw [hY]; exact HR1.out.putAll ⟨q0, q1, q2, q3, q4, q5⟩
                  obtain ⟨U, hU⟩ : ∃ U, U = ((((((Y.setCell ⟨p7, 0, none⟩ (.bool z0)).setCell ⟨p7, 1, none⟩ (.bool z1)).setCell ⟨p7, 2, none⟩ (.bool z2)).setCell ⟨p7, 3, none⟩ (.bool z3)).setCell ⟨p7, 4, none⟩ (.bool z4)).setCell ⟨p7, 5, none⟩ (.int .i64 z5)) := ⟨_, rfl⟩
                  have HU : Hid (((((((Y.setCell ⟨p7, 0, none⟩ (.bool z0)).setCell ⟨p7, 1, none⟩ (.bool z1)).setCell ⟨p7, 2, none⟩ (.bool z2)).setCell ⟨p7, 3, none⟩ (.bool z3)).setCell ⟨p7, 4, none⟩ (.bool z4)).setCell ⟨p7, 5, none⟩ (.int .i64 z5)) = U) := hU.symm
                  have HF : Hid (Below W1.heap.size W1 U ∧ CcAt U p6 ⟨q0, q1, q2, q3, q4, q5⟩ ∧ CcAt U p7 ⟨z0, z1, z2, z3, z4, z5⟩) := by
                    show _ ∧ _ ∧ _
                    rw [hU]
                    exact ⟨below_putCc HYL.out (HST.out.b2 p7 rfl).2 ⟨z0, z1, z2, z3, z4, z5⟩, HR3.out.same (putCcO _ _ _ ⟨z0, z1, z2, z3, z4, z5⟩ hne), HR2.out.putAll ⟨z0, z1, z2, z3, z4, z5⟩⟩
                  have hs8 := HSS.out _ HYL.out
                  have hs9 := HSS.out _ HF.out.1
                  clear hY hU hne
                  refine wpAnyH_ready (rs := [8]) (by kernel_rfl) (by simp) ?_
                  refine AllReadyH.cons rfl (fun K hK => ?_) AllReadyH.nil
                  obtain ⟨x0, x1, x2, x3, x4, x5⟩ := HR1.out.cells
                  have y0 := HR1.out.frozen 0
                  have y1 := HR1.out.frozen 1
                  have y2 := HR1.out.frozen 2
                  have y3 := HR1.out.frozen 3
                  have y4 := HR1.out.frozen 4
                  have y5 := HR1.out.frozen 5
                  clear HST HR1 HR3 HYL
                  go_simp
                  rw [HY.out]
                  refine hK.out _ _ hs8 (fun _ => ?_)
                  clear hK K x0 x1 x2 x3 x4 x5 y0 y1 y2 y3 y4 y5 HY
                  refine wpAnyH_ready (rs := [9]) (by kernel_rfl) (by simp) ?_
                  refine AllReadyH.cons rfl (fun K hK => ?_) AllReadyH.nil
                  obtain ⟨x0, x1, x2, x3, x4, x5⟩ := HR2.out.cells
                  have y0 := HR2.out.frozen 0
                  have y1 := HR2.out.frozen 1
                  have y2 := HR2.out.frozen 2
                  have y3 := HR2.out.frozen 3
                  have y4 := HR2.out.frozen 4
                  have y5 := HR2.out.frozen 5
                  clear HR2
                  go_simp
                  rw [HU.out]
                  refine hK.out _ _ hs9 (fun _ => ?_)
                  clear hK K x0 x1 x2 x3 x4 x5 y0 y1 y2 y3 y4 y5 hs8 hs9 HU
                  refine wpAnyH_done (by kernel_rfl) ?_ _
                  go_wp2_with fail
                  go_meet
                  exact ⟨p6, p7, rfl, rfl, HF⟩
              · have HSN : Hid (CkSt W1 (some X1.heap.size) (some p7) (X1.alloc (.cells #[.bool false, .bool false, .bool false, .bool false, .bool false, .int .i64 0] 66))) := HST.out.make1
                go_simp
                refine hK.out _ _ (HSS.out _ HSN.out.low) (fun _ => ?_)
                clear hK K HST
                obtain ⟨p6, ho⟩ : ∃ o, o = X1.heap.size := ⟨_, rfl⟩
                obtain ⟨X2, hX⟩ : ∃ X, X = X1.alloc (.cells #[.bool false, .bool false, .bool false, .bool false, .bool false, .int .i64 0] 66) := ⟨_, rfl⟩
                rw [← ho] at HSN ⊢
                rw [← hX] at HSN ⊢
                clear ho hX
                have HST := HSN
                clear HSN
                refine wpAnyH_ready (rs := [2]) (by kernel_rfl) (by simp) ?_
                refine AllReadyH.cons rfl (fun K hK => ?_) AllReadyH.nil
                go_simp
                refine (HC1.out _ HST.out.low).mono ?_
                rintro e X3 ⟨rfl, bx⟩
                have HSN : Hid (CkSt W1 (some p6) (some p7) X3) := HST.out.below bx
                refine hK.out _ _ (HSS.out _ HSN.out.low) (fun _ => ?_)
                clear hK K HST bx
                have HST := HSN
                clear HSN
                refine wpAnyH_ready (rs := [5]) (by kernel_rfl) (by simp) ?_
                refine AllReadyH.cons rfl (fun K hK => ?_) AllReadyH.nil
                go_simp
                refine (HC2.out _ HST.out.low).mono ?_
                rintro e X4 ⟨rfl, bx⟩
                have HSN : Hid (CkSt W1 (some p6) (some p7) X4) := HST.out.below bx
                refine hK.out _ _ (HSS.out _ HSN.out.low) (fun _ => ?_)
                clear hK K HST bx
                have HST := HSN
                clear HSN
                have hne : p6 ≠ p7 := fun e => HST.out.ne p6 rfl (by rw [e])
                obtain ⟨Y, hY⟩ : ∃ Y, Y = ((((((X4.setCell ⟨p6, 0, none⟩ (.bool q0)).setCell ⟨p6, 1, none⟩ (.bool q1)).setCell ⟨p6, 2, none⟩ (.bool q2)).setCell ⟨p6, 3, none⟩ (.bool q3)).setCell ⟨p6, 4, none⟩ (.bool q4)).setCell ⟨p6, 5, none⟩ (.int .i64 q5)) := ⟨_, rfl⟩
                have HY : Hid (((((((X4.setCell ⟨p6, 0, none⟩ (.bool q0)).setCell ⟨p6, 1, none⟩ (.bool q1)).setCell ⟨p6, 2, none⟩ (.bool q2)).setCell ⟨p6, 3, none⟩ (.bool q3)).setCell ⟨p6, 4, none⟩ (.bool q4)).setCell ⟨p6, 5, none⟩ (.int .i64 q5)) = Y) := hY.symm
                have HR1 : Hid (CcAt X4 p6 cc0) := (HST.out.b1 p6 rfl).1
                have HYL : Hid (Below W1.heap.size W1 Y) := by show Below _ _ _; rw [hY]; exact below_putCc HST.out.low (HST.out.b1 p6 rfl).2 ⟨q0, q1, q2, q3, q4, q5⟩
                have HR2 : Hid (CcAt Y p7 cc0) := by show CcAt _ _ _; rw [hY]; exact (HST.out.b2 p7 rfl).1.same (putCcO _ _ _ ⟨q0, q1, q2, q3, q4, q5⟩ (fun e => hne e.symm))
                have HR3 : Hid (CcAt Y p6 ⟨q0, q1, q2, q3, q4, q5⟩) := by show CcAt _ _ _; rw [hY]; exact HR1.out.putAll ⟨q0, q1, q2, q3, q4, q5⟩
                obtain ⟨U, hU⟩ : ∃ U, U = ((((((Y.setCell ⟨p7, 0, none⟩ (.bool z0)).setCell ⟨p7, 1, none⟩ (.bool z1)).setCell ⟨p7, 2, none⟩ (.bool z2)).setCell ⟨p7, 3, none⟩ (.bool z3)).setCell ⟨p7, 4, none⟩ (.bool z4)).setCell ⟨p7, 5, none⟩ (.int .i64 z5)) := ⟨_, rfl⟩
                have HU : Hid (((((((Y.setCell ⟨p7, 0, none⟩ (.bool z0)).setCell ⟨p7, 1, none⟩ (.bool z1)).setCell ⟨p7, 2, none⟩ (.bool z2)).setCell ⟨p7, 3, none⟩ (.bool z3)).setCell ⟨p7, 4, none⟩ (.bool z4)).setCell ⟨p7, 5, none⟩ (.int .i64 z5)) = U) := hU.symm
                have HF : Hid (Below W1.heap.size W1 U ∧ CcAt U p6 ⟨q0, q1, q2, q3, q4, q5⟩ ∧ CcAt U p7 ⟨z0, z1, z2, z3, z4, z5⟩) := by
                  show _ ∧ _ ∧ _
                  rw [hU]
                  exact ⟨below_putCc HYL.out (HST.out.b2 p7 rfl).2 ⟨z0, z1, z2, z3, z4, z5⟩, HR3.out.same (putCcO _ _ _ ⟨z0, z1, z2, z3, z4, z5⟩ hne), HR2.out.putAll ⟨z0, z1, z2, z3, z4, z5⟩⟩
                have hs8 := HSS.out _ HYL.out
                have hs9 := HSS.out _ HF.out.1
                clear hY hU hne
                refine wpAnyH_ready (rs := [8]) (by kernel_rfl) (by simp) ?_
                refine AllReadyH.cons rfl (fun K hK => ?_) AllReadyH.nil
                obtain ⟨x0, x1, x2, x3, x4, x5⟩ := HR1.out.cells
                have y0 := HR1.out.frozen 0
                have y1 := HR1.out.frozen 1
                have y2 := HR1.out.frozen 2
                have y3 := HR1.out.frozen 3
                have y4 := HR1.out.frozen 4
                have y5 := HR1.out.frozen 5
                clear HST HR1 HR3 HYL
                go_simp
                rw [HY.out]
                refine hK.out _ _ hs8 (fun _ => ?_)
                clear hK K x0 x1 x2 x3 x4 x5 y0 y1 y2 y3 y4 y5 HY
                refine wpAnyH_ready (rs := [9]) (by kernel_rfl) (by simp) ?_
                refine AllReadyH.cons rfl (fun K hK => ?_) AllReadyH.nil
                obtain ⟨x0, x1, x2, x3, x4, x5⟩ := HR2.out.cells
                have y0 := HR2.out.frozen 0
                have y1 := HR2.out.frozen 1
                have y2 := HR2.out.frozen 2
                have y3 := HR2.out.frozen 3
                have y4 := HR2.out.frozen 4
                have y5 := HR2.out.frozen 5
                clear HR2
                go_simp
                rw [HU.out]
                refine hK.out _ _ hs9 (fun _ => ?_)
                clear hK K x0 x1 x2 x3 x4 x5 y0 y1 y2 y3 y4 y5 hs8 hs9 HU
                refine wpAnyH_done (by kernel_rfl) ?_ _
                go_wp2_with fail
                go_meet
                exact ⟨p6, p7, rfl, rfl, HF⟩
          case rest =>
          obtain ⟨o1, o2, hs5, hs6, HF⟩ := hcut
          rw [hs5, hs6]
          obtain ⟨w5, hw5⟩ : ∃ W, W = wc := ⟨_, rfl⟩
          rw [← hw5] at HF ⊢
          clear hs5 hs6 hw5 c2 d1 HST0
          have HB : Hid (Below w.heap.size w w5) := (HKEEP.out w5 HF.out.1).2.2.2
          obtain ⟨x0, _, _, _, _, _⟩ := HF.out.2.1.cells
          obtain ⟨y0, _, y2, _, y4, _⟩ := HF.out.2.2.cells
          dsimp only at x0 y0 y2 y4
          cases q0 with
          | true =>
            have HF : Hid (¬ MayP 1 p fs b 200 gs c) := fun h => nomatch (HQ.out.1 h).1
            go_wp2_with fail
            go_ret
            exact BoolIs.no HF.out HB.out
          | false =>
            cases z0 with
            | true =>
              have HF : Hid (¬ MayP 1 p fs b 200 gs c) := fun h => nomatch (HQ.out.1 h).2.1
              go_wp2_with fail
              go_ret
              exact BoolIs.no HF.out HB.out
            | false =>
              cases z2 with
              | true =>
                have HF : Hid (¬ MayP 1 p fs b 200 gs c) := fun h => nomatch (HQ.out.1 h).2.2.1
                go_wp2_with fail
                go_ret
                exact BoolIs.no HF.out HB.out
              | false =>
                cases z4 with
                | false =>
                  have HF : Hid (¬ MayP 1 p fs b 200 gs c) := fun h => nomatch (HQ.out.1 h).2.2.2.1
                  go_wp2_with fail
                  go_ret
                  exact BoolIs.no HF.out HB.out
                | true =>
                  obtain ⟨_, k1⟩ := HSS.out w5 HF.out.1
                  have hu5 := (HKEEP.out w5 HF.out.1).2.2.1
                  have HF1 : Hid (Below W1.heap.size W1 w5) := HF.out.1
                  clear HC1 HC2
                  go_wp2_with fail
                  refine (specVaryOf_any _ k base2 gs _ hu5 hk HG3.out).mono ?_
                  rintro e w6 ⟨V, rfl, O, b6⟩
                  obtain ⟨ov, cv, rfl, hx⟩ := texts_own O
                  have HX : Hid (TextsA w6 ov (varyP gs).length (varyP gs)) := hx
                  have HB6 : Hid (Below w.heap.size w w6) := (HKEEP.out w6 (HF1.out.trans (b6.mono HF1.out.size))).2.2.2
                  obtain ⟨vl, hvl⟩ : ∃ l, l = varyP gs := ⟨_, rfl⟩
                  have HVZ : Hid (vl.length ≤ 1048577 ∧ ∀ i, i < vl.length → (textAt vl i).size ≤ maxLen) := by
                    show _ ∧ _
                    rw [hvl]
                    have hle := splitL_le (getV gs varyName)
                    have hg := HG3.out
                    unfold varyP
                    refine ⟨by rw [List.length_map]; omega, fun i hi => ?_⟩
                    rw [List.length_map] at hi
                    unfold textAt
                    rw [List.getD_eq_getElem?_getD, List.getElem?_map, List.getElem?_eq_getElem hi]
                    have := hle.2 _ (List.getElem_mem hi)
                    show (lowerOf _).size ≤ _
                    rw [lower_size]
                    unfold maxLen
                    omega
                  rw [← hvl] at HX HQ ⊢
                  clear O b6 hx hu5 k1 x0 y0 y2 y4 HF hvl
                  go_wp2_with fail
                  refine (l9Names_any ov vl.length cv vl _ HX.out (by have := HVZ.out.1; omega) HVZ.out.2).mono ?_
                  rintro e w7 ⟨t, rfl, ht, b7⟩
                  have HB7 : Hid (Below w.heap.size w w7) := HB6.out.trans (b7.mono HB6.out.size)
                  have HT : Hid (t = true ↔ MayP 1 p fs b 200 gs c) := by
                    show _ ↔ _
                    rw [ht, HQ.out]
                    simp
                  clear b7 ht
                  go_wp2_with fail
                  go_ret
                  exact ⟨t, rfl, HT.out, HB7.out⟩
        · have hst2 : (st != 200) = true := by simpa using hst
          have HF : Hid (¬ MayP m p fs b st gs c) := fun h => hst h.1.2.2.2
          go_wp2_with fail
          go_ret
          exact BoolIs.no HF.out HB.out
      · have hm2 : (m != 1) = true := by simpa using hm
        have HF : Hid (¬ MayP m p fs b st gs c) := fun h => hm h.1.2.2.1
        go_wp2_with fail
        go_ret
        exact BoolIs.no HF.out HB.out

end Go.Proofs.YtdlhicdfldecgaaGreat
