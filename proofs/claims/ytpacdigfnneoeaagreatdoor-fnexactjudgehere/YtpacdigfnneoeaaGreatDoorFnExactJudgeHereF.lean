/- What the proof of FnExactJudgeHere leans on: contracts of the program's and the specification's functions, and plain facts (part 6 of 11). -/
import Derived.Test.YtpacdigfnneoeaaGreatDoorFnExactJudgeHereE
set_option maxHeartbeats 16000000
set_option maxRecDepth 100000
namespace Go.Proofs.YtpacdigfnneoeaaGreatDoor
open Go.RowKit
open Go.Lib hiding intOf
def saidF (x : Tx) : CcD := if x = nsW then ⟨true, false, false, false, false, 0⟩ else if x = ncW then ⟨false, true, false, false, false, 0⟩ else if x = prW then ⟨false, false, true, false, false, 0⟩ else if x = muW then ⟨false, false, false, true, false, 0⟩ else cc0
noncomputable def saidB (x : Tx) : CcD := match ageOf x with
 | some n => ⟨false, false, false, false, true, n⟩
 | none => saidF x
def leastA (a b : CcD) : Int := if a.ha = false then b.age else if b.ha = false then a.age else min a.age b.age
def toge (a b : CcD) : CcD := ⟨a.ns || b.ns, a.nc || b.nc, a.pr || b.pr, a.mu || b.mu, a.ha || b.ha, leastA a b⟩
theorem ageOf_word {x : ByteArray} (h : x = nsW ∨ x = ncW ∨ x = prW ∨ x = muW) : ageOf x = none := by
 unfold ageOf
 rw [if_neg]
 rcases h with rfl | rfl | rfl | rfl <;> decide
theorem step_toge {c : CcD} (h : c.fit) (x : Tx) : ccStep c x = toge c (saidB x) := by
 obtain ⟨a0, a1, a2, a3, a4, ax⟩ := c
 have h3 : a4 = false → ax = 0 := h.2.2
 unfold ccStep saidB
 by_cases h0 : x = nsW
 ·rw [if_pos h0, ageOf_word (.inl h0)]
  unfold saidF
  rw [if_pos h0]
  cases a4 <;> simp [toge, leastA] <;> exact h3 rfl
 rw [if_neg h0]
 by_cases h1 : x = ncW
 ·rw [if_pos h1, ageOf_word (.inr (.inl h1))]
  unfold saidF
  rw [if_neg h0, if_pos h1]
  cases a4 <;> simp [toge, leastA] <;> exact h3 rfl
 rw [if_neg h1]
 by_cases h2 : x = prW
 ·rw [if_pos h2, ageOf_word (.inr (.inr (.inl h2)))]
  unfold saidF
  rw [if_neg h0, if_neg h1, if_pos h2]
  cases a4 <;> simp [toge, leastA] <;> exact h3 rfl
 rw [if_neg h2]
 by_cases h4 : x = muW
 ·rw [if_pos h4, ageOf_word (.inr (.inr (.inr h4)))]
  unfold saidF
  rw [if_neg h0, if_neg h1, if_neg h2, if_pos h4]
  cases a4 <;> simp [toge, leastA] <;> exact h3 rfl
 rw [if_neg h4]
 cases ageOf x with
 | none =>
  dsimp only
  unfold saidF
  rw [if_neg h0, if_neg h1, if_neg h2, if_neg h4]
  cases a4 <;> simp [toge, leastA, cc0] <;> exact h3 rfl
 | some n => cases a4 <;> simp [toge, leastA]
theorem putCc_other {w : World} {g j : Nat} {d : CcD} (h : j ≠ g) : (putCc w g d).heap[j]? = w.heap[j]? := by
 unfold putCc
 rw [heap_setCell_other _ _ j _ h, heap_setCell_other _ _ j _ h, heap_setCell_other _ _ j _ h, heap_setCell_other _ _ j _ h, heap_setCell_other _ _ j _ h, heap_setCell_other _ _ j _ h]
theorem wpAnyH_takeD {P : Program} {ops : Array Oper} {Q : Exit → Act → World → Prop} {md : Region.Mode} {S : World → Prop} {i : Nat} {oi : Oper} {v : Value} {fuel : Nat} {listed : Array Bool} {a : Act} {w : World} (d : Option Tmp) (hi : ops[i]? = some oi) (hd : oi.dst = d)
  (hs : Region.noSelect ops = true) (hf : Region.free md ops listed i = true) (hr : (Region.ready md ops listed).contains i = true)
  (hQ : ∀ c a w, Q (.panic c) (a.put oi.dst v) w → Q (.panic c) a w) (hy : YieldsIf P ops S oi v a) (hS : S w)
  (h : wpAnyH P md ops Q S fuel (listed.setIfInBounds i true) (a.put d v) w) : wpAnyH P md ops Q S (fuel + 1) listed a w :=
 wpAnyH_take hi hs hf hr hQ hy hS (hd ▸ h)
theorem yieldsIf_guard {P : Program} {ops : Array Oper} {S : World → Prop} {o : Oper} {v : Value} {a : Act} (g : Bool) (hw : Region.wanted o (yielded ops a.tmps) = g) (hv : g = true → ∀ w, S w → (execOp a.eval o).run P w = .ok (.value v) w) : YieldsIf P ops S o (if g = true then v else undef) a := by
 cases g with
 | true => exact Or.inl ⟨hw, by simpa using hv rfl⟩
 | false => exact Or.inr ⟨hw, by simp⟩
theorem leastAge_any (a b : CcD) (w : World) :
  Calls Tryz.prog 207 #[a.v, b.v] w fun e w' => e = .returned (.int .i64 (leastA a b)) ∧ Below w.heap.size w w' := by
 obtain ⟨a0, a1, a2, a3, a4, ax⟩ := a
 obtain ⟨b0, b1, b2, b3, b4, bx⟩ := b
 have HB : Hid (∀ o1 o2, Below w.heap.size w ((w.alloc o1).alloc o2)) := fun o1 o2 => ((Below.refl _ w).alloc (Nat.le_refl _) _).alloc (by simp) _
 have HE : Hid (leastA ⟨a0, a1, a2, a3, a4, ax⟩ ⟨b0, b1, b2, b3, b4, bx⟩ = if a4 = false then bx else if b4 = false then ax else min ax bx) := rfl
 show Calls _ _ #[.agg #[.bool a0, .bool a1, .bool a2, .bool a3, .bool a4, .int .i64 ax], .agg #[.bool b0, .bool b1, .bool b2, .bool b3, .bool b4, .int .i64 bx]] _ _
 cases a4
 ·go_enter Tryz.func207, Tryz.ntmps207
  go_wp2
  go_ret
  exact ⟨by rw [HE.out]; rfl, HB.out _ _⟩
 cases b4
 ·go_enter Tryz.func207, Tryz.ntmps207
  go_wp2
  go_ret
  exact ⟨by rw [HE.out]; rfl, HB.out _ _⟩
 go_enter Tryz.func207, Tryz.ntmps207
 go_wp2
 go_ret
 exact ⟨by rw [HE.out]; rfl, HB.out _ _⟩
theorem together_any (a b : CcD) (w : World) :
  Calls Tryz.prog 189 #[a.v, b.v] w fun e w' => e = .returned (toge a b).v ∧ Below w.heap.size w w' := by
 obtain ⟨a0, a1, a2, a3, a4, ax⟩ := a
 obtain ⟨b0, b1, b2, b3, b4, bx⟩ := b
 show Calls _ _ #[.agg #[.bool a0, .bool a1, .bool a2, .bool a3, .bool a4, .int .i64 ax], .agg #[.bool b0, .bool b1, .bool b2, .bool b3, .bool b4, .int .i64 bx]] _ _
 obtain ⟨H, hH⟩ := exq (w.heap.size)
 have HW : Hid (w.heap.size = H) := hH.symm
 obtain ⟨W1, hW1⟩ := exq (((w.alloc (.cells #[.bool a0, .bool a1, .bool a2, .bool a3, .bool a4, .int .i64 ax] 106)).alloc (.cells #[.bool b0, .bool b1, .bool b2, .bool b3, .bool b4, .int .i64 bx] 106)).alloc (.cells #[.bool false, .bool false, .bool false, .bool false, .bool false, .int .i64 0] 106))
 have HS1 : CcAt W1 H (⟨a0, a1, a2, a3, a4, ax⟩ : CcD) ∧ CcAt W1 (H + 1) (⟨b0, b1, b2, b3, b4, bx⟩ : CcD) ∧ CcAt W1 (H + 1 + 1) cc0 ∧ Below H w W1 := by
  have e1 := heap_alloc_new w (.cells #[.bool a0, .bool a1, .bool a2, .bool a3, .bool a4, .int .i64 ax] 106)
  have e2 := heap_alloc_new (w.alloc (.cells #[.bool a0, .bool a1, .bool a2, .bool a3, .bool a4, .int .i64 ax] 106)) (.cells #[.bool b0, .bool b1, .bool b2, .bool b3, .bool b4, .int .i64 bx] 106)
  have e3 := heap_alloc_new ((w.alloc (.cells #[.bool a0, .bool a1, .bool a2, .bool a3, .bool a4, .int .i64 ax] 106)).alloc (.cells #[.bool b0, .bool b1, .bool b2, .bool b3, .bool b4, .int .i64 bx] 106)) (.cells #[.bool false, .bool false, .bool false, .bool false, .bool false, .int .i64 0] 106)
  rw [World.size_alloc] at e2
  rw [World.size_alloc, World.size_alloc] at e3
  refine ⟨?_, ?_, ?_, ?_⟩
  · unfold CcAt; rw [hW1, hH, heap_alloc_old _ _ (by simp; omega), heap_alloc_old _ _ (by simp)]; exact e1
  · unfold CcAt; rw [hW1, hH, heap_alloc_old _ _ (by simp)]; exact e2
  · unfold CcAt; rw [hW1, hH]; exact e3
  · rw [hW1, hH]; exact (((Below.refl _ w).alloc (Nat.le_refl _) _).alloc (by simp) _).alloc (by simp; omega) _
 have HW1 := hsy hW1
 have HL := leastAge_any (⟨a0, a1, a2, a3, a4, ax⟩ : CcD) (⟨b0, b1, b2, b3, b4, bx⟩ : CcD)
 dsimp only [CcD.v] at HL
 obtain ⟨m, hm⟩ : ∃ m, m = leastA (⟨a0, a1, a2, a3, a4, ax⟩ : CcD) (⟨b0, b1, b2, b3, b4, bx⟩ : CcD) := ⟨_, rfl⟩
 rw [← hm] at HL
 have HLL : Hid _ := HL
 have HM := hid hm
 clear hW1 HL hm
 go_enter Tryz.func189, Tryz.ntmps189
 go_upto_region 1 with fail
 rw [HW1.out, ← hH]
 clear hH HW1
 refine wp_region_held_drew (S := fun W => CcAt W H (⟨a0, a1, a2, a3, a4, ax⟩ : CcD) ∧ CcAt W (H + 1) (⟨b0, b1, b2, b3, b4, bx⟩ : CcD) ∧ (∃ c, CcAt W (H + 1 + 1) c) ∧ Below H w W) (by kernel_rfl) ⟨HS1.1, HS1.2.1, ⟨_, HS1.2.2.1⟩, HS1.2.2.2.drew⟩ (fun hHeld => ?_)
 clear HS1
 refine wpAnyH_takeD (i := 0) (v := .pointer (some ⟨H, 0, none⟩)) (some 5) rfl rfl (by kernel_rfl) (by kernel_rfl) (by kernel_rfl) (fun _ _ _ h => h) (Or.inl ⟨by rfl, by intro W hSW; obtain ⟨⟨p0, p1, p2, p3, p4, p5⟩, ⟨r0, r1, r2, r3, r4, r5⟩⟩ := And.intro hSW.1.cells hSW.2.1.cells; dsimp only at p0 p1 p2 p3 p4 p5 r0 r1 r2 r3 r4 r5; go_simp⟩) (by assumption) ?_
 go_frame
 refine wpAnyH_takeD (i := 1) (v := .bool a0) (some 6) rfl rfl (by kernel_rfl) (by kernel_rfl) (by kernel_rfl) (fun _ _ _ h => h) (Or.inl ⟨by rfl, by intro W hSW; obtain ⟨⟨p0, p1, p2, p3, p4, p5⟩, ⟨r0, r1, r2, r3, r4, r5⟩⟩ := And.intro hSW.1.cells hSW.2.1.cells; dsimp only at p0 p1 p2 p3 p4 p5 r0 r1 r2 r3 r4 r5; go_simp⟩) (by assumption) ?_
 go_frame
 refine wpAnyH_takeD (i := 2) (v := .bool a0) (some 7) rfl rfl (by kernel_rfl) (by kernel_rfl) (by kernel_rfl) (fun _ _ _ h => h) (Or.inl ⟨by rfl, by intro W hSW; obtain ⟨⟨p0, p1, p2, p3, p4, p5⟩, ⟨r0, r1, r2, r3, r4, r5⟩⟩ := And.intro hSW.1.cells hSW.2.1.cells; dsimp only at p0 p1 p2 p3 p4 p5 r0 r1 r2 r3 r4 r5; go_simp⟩) (by assumption) ?_
 go_frame
 refine wpAnyH_takeD (i := 3) (v := if (!a0) = true then .pointer (some ⟨H + 1, 0, none⟩) else undef) (some 8) rfl rfl (by kernel_rfl) (by kernel_rfl) (by kernel_rfl) (fun _ _ _ h => h) (yieldsIf_guard (!a0) (by cases a0 <;> rfl) (fun hg => by cases a0 with | true => cases hg | false => (intro W hSW; obtain ⟨⟨p0, p1, p2, p3, p4, p5⟩, ⟨r0, r1, r2, r3, r4, r5⟩⟩ := And.intro hSW.1.cells hSW.2.1.cells; dsimp only at p0 p1 p2 p3 p4 p5 r0 r1 r2 r3 r4 r5; go_simp))) (by assumption) ?_
 go_frame
 refine wpAnyH_takeD (i := 4) (v := if (!a0) = true then .bool b0 else undef) (some 9) rfl rfl (by kernel_rfl) (by kernel_rfl) (by kernel_rfl) (fun _ _ _ h => h) (yieldsIf_guard (!a0) (by cases a0 <;> rfl) (fun hg => by cases a0 with | true => cases hg | false => (intro W hSW; obtain ⟨⟨p0, p1, p2, p3, p4, p5⟩, ⟨r0, r1, r2, r3, r4, r5⟩⟩ := And.intro hSW.1.cells hSW.2.1.cells; dsimp only at p0 p1 p2 p3 p4 p5 r0 r1 r2 r3 r4 r5; go_simp))) (by assumption) ?_
 go_frame
 refine wpAnyH_takeD (i := 5) (v := .bool (a0 || b0)) (some 10) rfl rfl (by kernel_rfl) (by kernel_rfl) (by kernel_rfl) (fun _ _ _ h => h) (Or.inl ⟨by rfl, by intro W hSW; cases a0 <;> go_simp⟩) (by assumption) ?_
 go_frame
 generalize (if (!a0) = true then Value.pointer (some ⟨H + 1, 0, none⟩) else undef) = z0
 generalize (if (!a0) = true then Value.bool b0 else undef) = y0
 refine wpAnyH_takeD (i := 6) (v := .pointer (some ⟨H, 1, none⟩)) (some 11) rfl rfl (by kernel_rfl) (by kernel_rfl) (by kernel_rfl) (fun _ _ _ h => h) (Or.inl ⟨by rfl, by intro W hSW; obtain ⟨⟨p0, p1, p2, p3, p4, p5⟩, ⟨r0, r1, r2, r3, r4, r5⟩⟩ := And.intro hSW.1.cells hSW.2.1.cells; dsimp only at p0 p1 p2 p3 p4 p5 r0 r1 r2 r3 r4 r5; go_simp⟩) (by assumption) ?_
 go_frame
 refine wpAnyH_takeD (i := 7) (v := .bool a1) (some 12) rfl rfl (by kernel_rfl) (by kernel_rfl) (by kernel_rfl) (fun _ _ _ h => h) (Or.inl ⟨by rfl, by intro W hSW; obtain ⟨⟨p0, p1, p2, p3, p4, p5⟩, ⟨r0, r1, r2, r3, r4, r5⟩⟩ := And.intro hSW.1.cells hSW.2.1.cells; dsimp only at p0 p1 p2 p3 p4 p5 r0 r1 r2 r3 r4 r5; go_simp⟩) (by assumption) ?_
 go_frame
 refine wpAnyH_takeD (i := 8) (v := .bool a1) (some 13) rfl rfl (by kernel_rfl) (by kernel_rfl) (by kernel_rfl) (fun _ _ _ h => h) (Or.inl ⟨by rfl, by intro W hSW; obtain ⟨⟨p0, p1, p2, p3, p4, p5⟩, ⟨r0, r1, r2, r3, r4, r5⟩⟩ := And.intro hSW.1.cells hSW.2.1.cells; dsimp only at p0 p1 p2 p3 p4 p5 r0 r1 r2 r3 r4 r5; go_simp⟩) (by assumption) ?_
 go_frame
 refine wpAnyH_takeD (i := 9) (v := if (!a1) = true then .pointer (some ⟨H + 1, 1, none⟩) else undef) (some 14) rfl rfl (by kernel_rfl) (by kernel_rfl) (by kernel_rfl) (fun _ _ _ h => h) (yieldsIf_guard (!a1) (by cases a1 <;> rfl) (fun hg => by cases a1 with | true => cases hg | false => (intro W hSW; obtain ⟨⟨p0, p1, p2, p3, p4, p5⟩, ⟨r0, r1, r2, r3, r4, r5⟩⟩ := And.intro hSW.1.cells hSW.2.1.cells; dsimp only at p0 p1 p2 p3 p4 p5 r0 r1 r2 r3 r4 r5; go_simp))) (by assumption) ?_
 go_frame
 refine wpAnyH_takeD (i := 10) (v := if (!a1) = true then .bool b1 else undef) (some 15) rfl rfl (by kernel_rfl) (by kernel_rfl) (by kernel_rfl) (fun _ _ _ h => h) (yieldsIf_guard (!a1) (by cases a1 <;> rfl) (fun hg => by cases a1 with | true => cases hg | false => (intro W hSW; obtain ⟨⟨p0, p1, p2, p3, p4, p5⟩, ⟨r0, r1, r2, r3, r4, r5⟩⟩ := And.intro hSW.1.cells hSW.2.1.cells; dsimp only at p0 p1 p2 p3 p4 p5 r0 r1 r2 r3 r4 r5; go_simp))) (by assumption) ?_
 go_frame
 refine wpAnyH_takeD (i := 11) (v := .bool (a1 || b1)) (some 16) rfl rfl (by kernel_rfl) (by kernel_rfl) (by kernel_rfl) (fun _ _ _ h => h) (Or.inl ⟨by rfl, by intro W hSW; cases a1 <;> go_simp⟩) (by assumption) ?_
 go_frame
 generalize (if (!a1) = true then Value.pointer (some ⟨H + 1, 1, none⟩) else undef) = z1
 generalize (if (!a1) = true then Value.bool b1 else undef) = y1
 refine wpAnyH_takeD (i := 12) (v := .pointer (some ⟨H, 2, none⟩)) (some 17) rfl rfl (by kernel_rfl) (by kernel_rfl) (by kernel_rfl) (fun _ _ _ h => h) (Or.inl ⟨by rfl, by intro W hSW; obtain ⟨⟨p0, p1, p2, p3, p4, p5⟩, ⟨r0, r1, r2, r3, r4, r5⟩⟩ := And.intro hSW.1.cells hSW.2.1.cells; dsimp only at p0 p1 p2 p3 p4 p5 r0 r1 r2 r3 r4 r5; go_simp⟩) (by assumption) ?_
 go_frame
 refine wpAnyH_takeD (i := 13) (v := .bool a2) (some 18) rfl rfl (by kernel_rfl) (by kernel_rfl) (by kernel_rfl) (fun _ _ _ h => h) (Or.inl ⟨by rfl, by intro W hSW; obtain ⟨⟨p0, p1, p2, p3, p4, p5⟩, ⟨r0, r1, r2, r3, r4, r5⟩⟩ := And.intro hSW.1.cells hSW.2.1.cells; dsimp only at p0 p1 p2 p3 p4 p5 r0 r1 r2 r3 r4 r5; go_simp⟩) (by assumption) ?_
 go_frame
 refine wpAnyH_takeD (i := 14) (v := .bool a2) (some 19) rfl rfl (by kernel_rfl) (by kernel_rfl) (by kernel_rfl) (fun _ _ _ h => h) (Or.inl ⟨by rfl, by intro W hSW; obtain ⟨⟨p0, p1, p2, p3, p4, p5⟩, ⟨r0, r1, r2, r3, r4, r5⟩⟩ := And.intro hSW.1.cells hSW.2.1.cells; dsimp only at p0 p1 p2 p3 p4 p5 r0 r1 r2 r3 r4 r5; go_simp⟩) (by assumption) ?_
 go_frame
 refine wpAnyH_takeD (i := 15) (v := if (!a2) = true then .pointer (some ⟨H + 1, 2, none⟩) else undef) (some 20) rfl rfl (by kernel_rfl) (by kernel_rfl) (by kernel_rfl) (fun _ _ _ h => h) (yieldsIf_guard (!a2) (by cases a2 <;> rfl) (fun hg => by cases a2 with | true => cases hg | false => (intro W hSW; obtain ⟨⟨p0, p1, p2, p3, p4, p5⟩, ⟨r0, r1, r2, r3, r4, r5⟩⟩ := And.intro hSW.1.cells hSW.2.1.cells; dsimp only at p0 p1 p2 p3 p4 p5 r0 r1 r2 r3 r4 r5; go_simp))) (by assumption) ?_
 go_frame
 refine wpAnyH_takeD (i := 16) (v := if (!a2) = true then .bool b2 else undef) (some 21) rfl rfl (by kernel_rfl) (by kernel_rfl) (by kernel_rfl) (fun _ _ _ h => h) (yieldsIf_guard (!a2) (by cases a2 <;> rfl) (fun hg => by cases a2 with | true => cases hg | false => (intro W hSW; obtain ⟨⟨p0, p1, p2, p3, p4, p5⟩, ⟨r0, r1, r2, r3, r4, r5⟩⟩ := And.intro hSW.1.cells hSW.2.1.cells; dsimp only at p0 p1 p2 p3 p4 p5 r0 r1 r2 r3 r4 r5; go_simp))) (by assumption) ?_
 go_frame
 refine wpAnyH_takeD (i := 17) (v := .bool (a2 || b2)) (some 22) rfl rfl (by kernel_rfl) (by kernel_rfl) (by kernel_rfl) (fun _ _ _ h => h) (Or.inl ⟨by rfl, by intro W hSW; cases a2 <;> go_simp⟩) (by assumption) ?_
 go_frame
 generalize (if (!a2) = true then Value.pointer (some ⟨H + 1, 2, none⟩) else undef) = z2
 generalize (if (!a2) = true then Value.bool b2 else undef) = y2
 refine wpAnyH_takeD (i := 18) (v := .pointer (some ⟨H, 3, none⟩)) (some 23) rfl rfl (by kernel_rfl) (by kernel_rfl) (by kernel_rfl) (fun _ _ _ h => h) (Or.inl ⟨by rfl, by intro W hSW; obtain ⟨⟨p0, p1, p2, p3, p4, p5⟩, ⟨r0, r1, r2, r3, r4, r5⟩⟩ := And.intro hSW.1.cells hSW.2.1.cells; dsimp only at p0 p1 p2 p3 p4 p5 r0 r1 r2 r3 r4 r5; go_simp⟩) (by assumption) ?_
 go_frame
 refine wpAnyH_takeD (i := 19) (v := .bool a3) (some 24) rfl rfl (by kernel_rfl) (by kernel_rfl) (by kernel_rfl) (fun _ _ _ h => h) (Or.inl ⟨by rfl, by intro W hSW; obtain ⟨⟨p0, p1, p2, p3, p4, p5⟩, ⟨r0, r1, r2, r3, r4, r5⟩⟩ := And.intro hSW.1.cells hSW.2.1.cells; dsimp only at p0 p1 p2 p3 p4 p5 r0 r1 r2 r3 r4 r5; go_simp⟩) (by assumption) ?_
 go_frame
 refine wpAnyH_takeD (i := 20) (v := .bool a3) (some 25) rfl rfl (by kernel_rfl) (by kernel_rfl) (by kernel_rfl) (fun _ _ _ h => h) (Or.inl ⟨by rfl, by intro W hSW; obtain ⟨⟨p0, p1, p2, p3, p4, p5⟩, ⟨r0, r1, r2, r3, r4, r5⟩⟩ := And.intro hSW.1.cells hSW.2.1.cells; dsimp only at p0 p1 p2 p3 p4 p5 r0 r1 r2 r3 r4 r5; go_simp⟩) (by assumption) ?_
 go_frame
 refine wpAnyH_takeD (i := 21) (v := if (!a3) = true then .pointer (some ⟨H + 1, 3, none⟩) else undef) (some 26) rfl rfl (by kernel_rfl) (by kernel_rfl) (by kernel_rfl) (fun _ _ _ h => h) (yieldsIf_guard (!a3) (by cases a3 <;> rfl) (fun hg => by cases a3 with | true => cases hg | false => (intro W hSW; obtain ⟨⟨p0, p1, p2, p3, p4, p5⟩, ⟨r0, r1, r2, r3, r4, r5⟩⟩ := And.intro hSW.1.cells hSW.2.1.cells; dsimp only at p0 p1 p2 p3 p4 p5 r0 r1 r2 r3 r4 r5; go_simp))) (by assumption) ?_
 go_frame
 refine wpAnyH_takeD (i := 22) (v := if (!a3) = true then .bool b3 else undef) (some 27) rfl rfl (by kernel_rfl) (by kernel_rfl) (by kernel_rfl) (fun _ _ _ h => h) (yieldsIf_guard (!a3) (by cases a3 <;> rfl) (fun hg => by cases a3 with | true => cases hg | false => (intro W hSW; obtain ⟨⟨p0, p1, p2, p3, p4, p5⟩, ⟨r0, r1, r2, r3, r4, r5⟩⟩ := And.intro hSW.1.cells hSW.2.1.cells; dsimp only at p0 p1 p2 p3 p4 p5 r0 r1 r2 r3 r4 r5; go_simp))) (by assumption) ?_
 go_frame
 refine wpAnyH_takeD (i := 23) (v := .bool (a3 || b3)) (some 28) rfl rfl (by kernel_rfl) (by kernel_rfl) (by kernel_rfl) (fun _ _ _ h => h) (Or.inl ⟨by rfl, by intro W hSW; cases a3 <;> go_simp⟩) (by assumption) ?_
 go_frame
 generalize (if (!a3) = true then Value.pointer (some ⟨H + 1, 3, none⟩) else undef) = z3
 generalize (if (!a3) = true then Value.bool b3 else undef) = y3
 refine wpAnyH_takeD (i := 24) (v := .pointer (some ⟨H, 4, none⟩)) (some 29) rfl rfl (by kernel_rfl) (by kernel_rfl) (by kernel_rfl) (fun _ _ _ h => h) (Or.inl ⟨by rfl, by intro W hSW; obtain ⟨⟨p0, p1, p2, p3, p4, p5⟩, ⟨r0, r1, r2, r3, r4, r5⟩⟩ := And.intro hSW.1.cells hSW.2.1.cells; dsimp only at p0 p1 p2 p3 p4 p5 r0 r1 r2 r3 r4 r5; go_simp⟩) (by assumption) ?_
 go_frame
 refine wpAnyH_takeD (i := 25) (v := .bool a4) (some 30) rfl rfl (by kernel_rfl) (by kernel_rfl) (by kernel_rfl) (fun _ _ _ h => h) (Or.inl ⟨by rfl, by intro W hSW; obtain ⟨⟨p0, p1, p2, p3, p4, p5⟩, ⟨r0, r1, r2, r3, r4, r5⟩⟩ := And.intro hSW.1.cells hSW.2.1.cells; dsimp only at p0 p1 p2 p3 p4 p5 r0 r1 r2 r3 r4 r5; go_simp⟩) (by assumption) ?_
 go_frame
 refine wpAnyH_takeD (i := 26) (v := .bool a4) (some 31) rfl rfl (by kernel_rfl) (by kernel_rfl) (by kernel_rfl) (fun _ _ _ h => h) (Or.inl ⟨by rfl, by intro W hSW; obtain ⟨⟨p0, p1, p2, p3, p4, p5⟩, ⟨r0, r1, r2, r3, r4, r5⟩⟩ := And.intro hSW.1.cells hSW.2.1.cells; dsimp only at p0 p1 p2 p3 p4 p5 r0 r1 r2 r3 r4 r5; go_simp⟩) (by assumption) ?_
 go_frame
 refine wpAnyH_takeD (i := 27) (v := if (!a4) = true then .pointer (some ⟨H + 1, 4, none⟩) else undef) (some 32) rfl rfl (by kernel_rfl) (by kernel_rfl) (by kernel_rfl) (fun _ _ _ h => h) (yieldsIf_guard (!a4) (by cases a4 <;> rfl) (fun hg => by cases a4 with | true => cases hg | false => (intro W hSW; obtain ⟨⟨p0, p1, p2, p3, p4, p5⟩, ⟨r0, r1, r2, r3, r4, r5⟩⟩ := And.intro hSW.1.cells hSW.2.1.cells; dsimp only at p0 p1 p2 p3 p4 p5 r0 r1 r2 r3 r4 r5; go_simp))) (by assumption) ?_
 go_frame
 refine wpAnyH_takeD (i := 28) (v := if (!a4) = true then .bool b4 else undef) (some 33) rfl rfl (by kernel_rfl) (by kernel_rfl) (by kernel_rfl) (fun _ _ _ h => h) (yieldsIf_guard (!a4) (by cases a4 <;> rfl) (fun hg => by cases a4 with | true => cases hg | false => (intro W hSW; obtain ⟨⟨p0, p1, p2, p3, p4, p5⟩, ⟨r0, r1, r2, r3, r4, r5⟩⟩ := And.intro hSW.1.cells hSW.2.1.cells; dsimp only at p0 p1 p2 p3 p4 p5 r0 r1 r2 r3 r4 r5; go_simp))) (by assumption) ?_
 go_frame
 refine wpAnyH_takeD (i := 29) (v := .bool (a4 || b4)) (some 34) rfl rfl (by kernel_rfl) (by kernel_rfl) (by kernel_rfl) (fun _ _ _ h => h) (Or.inl ⟨by rfl, by intro W hSW; cases a4 <;> go_simp⟩) (by assumption) ?_
 go_frame
 generalize (if (!a4) = true then Value.pointer (some ⟨H + 1, 4, none⟩) else undef) = z4
 generalize (if (!a4) = true then Value.bool b4 else undef) = y4
 refine wpAnyH_takeD (i := 30) (v := .agg #[.bool a0, .bool a1, .bool a2, .bool a3, .bool a4, .int .i64 ax]) (some 35) rfl rfl (by kernel_rfl) (by kernel_rfl) (by kernel_rfl) (fun _ _ _ h => h) (Or.inl ⟨by rfl, by intro W hSW; obtain ⟨⟨p0, p1, p2, p3, p4, p5⟩, ⟨r0, r1, r2, r3, r4, r5⟩⟩ := And.intro hSW.1.cells hSW.2.1.cells; dsimp only at p0 p1 p2 p3 p4 p5 r0 r1 r2 r3 r4 r5; go_simp⟩) (by assumption) ?_
 go_frame
 refine wpAnyH_takeD (i := 31) (v := .agg #[.bool b0, .bool b1, .bool b2, .bool b3, .bool b4, .int .i64 bx]) (some 36) rfl rfl (by kernel_rfl) (by kernel_rfl) (by kernel_rfl) (fun _ _ _ h => h) (Or.inl ⟨by rfl, by intro W hSW; obtain ⟨⟨p0, p1, p2, p3, p4, p5⟩, ⟨r0, r1, r2, r3, r4, r5⟩⟩ := And.intro hSW.1.cells hSW.2.1.cells; dsimp only at p0 p1 p2 p3 p4 p5 r0 r1 r2 r3 r4 r5; go_simp⟩) (by assumption) ?_
 go_frame
 refine rd1 32 rfl (fun K hK => ?_)
 go_simp
 refine (HLL.out _).mono ?_
 rintro e w2 ⟨rfl, bt⟩
 have hS2 : CcAt w2 H (⟨a0, a1, a2, a3, a4, ax⟩ : CcD) ∧ CcAt w2 (H + 1) (⟨b0, b1, b2, b3, b4, bx⟩ : CcD) ∧ (∃ c, CcAt w2 (H + 1 + 1) c) ∧ Below H w w2 :=
  ⟨hHeld.1.same (bt.block _ hHeld.1.lt), hHeld.2.1.same (bt.block _ hHeld.2.1.lt), hHeld.2.2.1.imp fun _ h => h.same (bt.block _ h.lt), hHeld.2.2.2.trans (bt.mono (Nat.le_of_lt hHeld.1.lt))⟩
 refine hK.out _ _ hS2 (fun hHeld2 => ?_)
 clear hK K hHeld bt hHeld2
 refine tkL 33 (.agg #[.bool (a0 || b0), .bool (a1 || b1), .bool (a2 || b2), .bool (a3 || b3), .bool (a4 || b4), .int .i64 m]) 38 rfl rfl (Or.inl ⟨by rfl, by intro W hSW; clear hSW; go_simp⟩) hS2 ?_
 go_frame
 refine rd1 34 rfl (fun K hK => ?_)
 obtain ⟨z, hz⟩ := hS2.2.2.1
 obtain ⟨r0, r1, r2, r3, r4, r5⟩ := hz.cells
 have f0 := hz.frozen 0
 have f1 := hz.frozen 1
 have f2 := hz.frozen 2
 have f3 := hz.frozen 3
 have f4 := hz.frozen 4
 have f5 := hz.frozen 5
 obtain ⟨c, hc⟩ : ∃ c : CcD, c = ⟨a0 || b0, a1 || b1, a2 || b2, a3 || b3, a4 || b4, m⟩ := ⟨_, rfl⟩
 have HC : Hid (c = toge (⟨a0, a1, a2, a3, a4, ax⟩ : CcD) (⟨b0, b1, b2, b3, b4, bx⟩ : CcD)) := by show _ = _; rw [hc, HM.out]; rfl
 have HP : Hid (CcAt (putCc w2 (H + 1 + 1) c) (H + 1 + 1) c) := hz.putAll c
 have HB : Hid (Below H w (putCc w2 (H + 1 + 1) c)) := below_putCc hS2.2.2.2 (by omega) c
 have HS3 : Hid (CcAt (putCc w2 (H + 1 + 1) c) H (⟨a0, a1, a2, a3, a4, ax⟩ : CcD) ∧ CcAt (putCc w2 (H + 1 + 1) c) (H + 1) (⟨b0, b1, b2, b3, b4, bx⟩ : CcD)) :=
  ⟨hS2.1.same (putCc_other (by omega)), hS2.2.1.same (putCc_other (by omega))⟩
 have HPC : Hid (putCc w2 (H + 1 + 1) c = (((((w2.setCell ⟨H + 1 + 1, 0, none⟩ (.bool (a0 || b0))).setCell ⟨H + 1 + 1, 1, none⟩ (.bool (a1 || b1))).setCell ⟨H + 1 + 1, 2, none⟩ (.bool (a2 || b2))).setCell ⟨H + 1 + 1, 3, none⟩ (.bool (a3 || b3))).setCell ⟨H + 1 + 1, 4, none⟩ (.bool (a4 || b4))).setCell ⟨H + 1 + 1, 5, none⟩ (.int .i64 m)) := by show _ = _; rw [hc]; rfl
 clear hS2 hz hc
 go_simp
 rw [← HPC.out]
 obtain ⟨w3, hw3⟩ := exq (putCc w2 (H + 1 + 1) c)
 rw [← hw3] at HP HB HS3 ⊢
 clear hw3 HPC r0 r1 r2 r3 r4 r5 f0 f1 f2 f3 f4 f5
 refine hK.out _ _ ⟨HS3.out.1, HS3.out.2, ⟨_, HP.out⟩, HB.out⟩ (fun _ => ?_)
 clear hK K
 refine wdn ?_
 obtain ⟨m0, m1, m2, m3, m4, m5⟩ := HP.out.cells
 go_wp2_with fail
 refine bodyPost_ret (v := c.v) (by simp [results, Tryz.results189, go_sem, m0, m1, m2, m3, m4, m5, CcD.v]) rfl ?_
 exact ⟨by rw [HC.out], by rw [HW.out]; exact HB.out⟩
theorem specObjOk_any (p : Tx) (o1 : Oa) (n1 c1 : Nat) (xs : Ts) (o2 : Oa) (n2 c2 : Nat) (ys : Ts) (st : Int) (v3 : Value) (n3 base : Nat) (fs : Fs) (b : Tx) (t : Int) (w : World) (h1 : TextsA w o1 n1 xs) (h2 : TextsA w o2 n2 ys) (h3 : FieldsV w base v3 n3 fs) (hn1 : n1 ≤ 2000000) (hn2 : n2 ≤ 2000000) (hn3 : n3 ≤ 2000000) (hs1 : ∀ i, i < n1 → (textAt xs i).size ≤ maxLen) (hs2 : ∀ i, i < n2 → (textAt ys i).size ≤ maxLen) (hs3 : WalkF n3 fs) (hp : p.size ≤ maxLen) (hx : b.size ≤ maxLen) (hg : (getV fs varyName).size ≤ 1048576) :
  Calls Tryz.prog 34 #[.agg #[.string p, .slice o1 n1 c1, .slice o2 n2 c2, .int .i64 st, v3, .string b, .int .i64 t]] w fun e w' => BoolIs (ObjP p xs ys st fs b t) w e w' := by
 obtain ⟨o3, c3, rfl, _⟩ := h3.slice
 have HV1 : Hid (∀ W, Below w.heap.size w W → TextsA W o1 n1 xs) := fun W h => h1.below h
 have HV2 : Hid (∀ W, Below w.heap.size w W → TextsA W o2 n2 ys) := fun W h => h2.below h
 have HV3 : Hid (∀ W, Below w.heap.size w W → FieldsV W base (.slice o3 n3 c3) n3 fs) := fun W h => h3.below h
 have HL1 : Hid (xs.length = n1) := h1.1
 have HL2 : Hid (ys.length = n2) := h2.1
 have HS1 := hid hs1
 have HS2 := hid hs2
 have HS3 := hid hs3
 have HPM := hid hp
 have HX := hid hx
 have HG := hid hg
 obtain ⟨vl, hvl⟩ := exq (varyP fs)
 have HVL : Hid (varyP fs = vl) := hvl.symm
 clear h1 h2 h3 hs1 hs2 hs3 hp hx hg hvl
 have hb0 := Below.refl w.heap.size w
 go_enter Tryz.func34, Tryz.ntmps34
 go_upto_region 1 with fail
 obtain ⟨q1, hq1⟩ := exq (w.heap.size)
 obtain ⟨w1, hW1⟩ := exq (w.alloc (.cells #[.string p, .slice o1 n1 c1, .slice o2 n2 c2, .int .i64 st, .slice o3 n3 c3, .string b, .int .i64 t] 62))
 have hz1 := hq1.symm
 rw [← hW1]; try rw [← hq1]
 have hs1 := hsa hW1 hz1
 have bw := bal hW1
 have hb1 := hbt hb0 bw
 have B1_1 := hnew hW1 hz1
 clear hb0 bw hW1 hz1
 clear hs1 hq1
 go_upto_region 1 with fail
 refine wp_region_held_drew (S := fun W => W.heap[q1]? = some (.cells #[.string p, .slice o1 n1 c1, .slice o2 n2 c2, .int .i64 st, .slice o3 n3 c3, .string b, .int .i64 t] 62)) (by kernel_rfl) B1_1.out (fun _ => ?_)
 obtain ⟨w2, hX⟩ := exq w1.drew
 have bw := bdr hX
 rw [← hX]
 have hb2 := hbt hb1 bw
 have B1_2 := hblk B1_1 bw
 have hS2 := B1_2.out
 clear hb1 bw hX
 refine tkP 0 (.pointer (some ⟨q1, 3, none⟩)) 4 rfl rfl hS2 ?_
 go_frame
 refine tkL 1 (.agg #[.int .i64 st, .slice o3 n3 c3, .string b]) 5 rfl rfl (Or.inl ⟨by rfl, by intro W hW; have hhv1 := hW; have y3 := (cell_of hhv1 3).trans rfl; have y4 := (cell_of hhv1 4).trans rfl; have y5 := (cell_of hhv1 5).trans rfl; go_simp⟩) hS2 ?_
 go_frame
 refine rd1 2 rfl (fun K hK => ?_)
 go_simp
 refine (specRespOk_any st _ b n3 base fs _ (HV3.out _ hb2) (by omega) HS3.out HX.out).mono ?_
 rintro e w3 ⟨u1, rfl, htu1, bw⟩
 have hb3 := hbt hb2 bw
 have B1_3 := hblk B1_2 bw
 clear hb2 bw
 have hS3 := B1_3.out
 refine hK.out _ _ hS3 (fun _ => ?_)
 clear hK K hS2
 cases u1
 ·have HF : Hid (¬ ObjP p xs ys st fs b t) := fun h => nomatch htu1.2 h.1
  clear htu1
  refine tkP 3 (.bool true) 7 rfl rfl hS3 (tkP 4 (.bool true) 8 rfl rfl hS3 (tkN 5 9 rfl rfl hS3 ?_))
  go_frame
  refine tkN 6 10 rfl rfl hS3 (tkN 7 11 rfl rfl hS3 (tkN 8 12 rfl rfl hS3 ?_))
  go_frame
  refine tkP 9 (.bool true) 13 rfl rfl hS3 (tkP 10 (.bool true) 14 rfl rfl hS3 (tkN 11 15 rfl rfl hS3 ?_))
  go_frame
  refine tkN 12 16 rfl rfl hS3 (tkN 13 17 rfl rfl hS3 (tkN 14 18 rfl rfl hS3 ?_))
  go_frame
  refine tkP 15 (.bool true) 19 rfl rfl hS3 (tkP 16 (.bool true) 20 rfl rfl hS3 (tkN 17 21 rfl rfl hS3 ?_))
  go_frame
  refine tkN 18 22 rfl rfl hS3 (tkN 19 23 rfl rfl hS3 (tkN 20 24 rfl rfl hS3 ?_))
  go_frame
  refine tkP 21 (.bool true) 25 rfl rfl hS3 (tkP 22 (.bool true) 26 rfl rfl hS3 (tkN 23 27 rfl rfl hS3 ?_))
  go_frame
  refine tkN 24 28 rfl rfl hS3 (tkN 25 29 rfl rfl hS3 (tkN 26 30 rfl rfl hS3 ?_))
  go_frame
  refine tkN 27 31 rfl rfl hS3 (tkN 28 32 rfl rfl hS3 (tkN 29 33 rfl rfl hS3 ?_))
  go_frame
  refine tkN 30 34 rfl rfl hS3 (tkP 31 (.bool true) 35 rfl rfl hS3 (tkP 32 (.bool true) 36 rfl rfl hS3 ?_))
  go_frame
  refine tkN 33 37 rfl rfl hS3 (tkN 34 38 rfl rfl hS3 (tkN 35 39 rfl rfl hS3 ?_))
  go_frame
  refine tkN 36 40 rfl rfl hS3 (tkN 37 41 rfl rfl hS3 (tkN 38 42 rfl rfl hS3 ?_))
  go_frame
  refine tkN 39 43 rfl rfl hS3 (tkP 40 (.bool true) 44 rfl rfl hS3 ?_)
  go_frame
  clear hS3
  refine wdn ?_
  go_wp2_with fail
  go_ret
  exact BoolIs.no HF.out hb3
 have HR : Hid (RespP st fs b) := htu1.1 rfl
 clear htu1
 refine tkP 3 (.bool false) 7 rfl rfl hS3 (tkP 4 (.bool false) 8 rfl rfl hS3 (tkP 5 (.pointer (some ⟨q1, 0, none⟩)) 9 rfl rfl hS3 ?_))
 go_frame
 refine tkL 6 (.string p) 10 rfl rfl (Or.inl ⟨by rfl, by intro W hW; have hhv1 := hW; have y0 := (cell_of hhv1 0).trans rfl; go_simp⟩) hS3 ?_
 go_frame
 refine rd1 7 rfl (fun K hK => ?_)
 go_simp
 refine (l3Path_any p _ HPM.out).mono ?_
 rintro e w4 ⟨u2, rfl, htu2, bw⟩
 have hb4 := hbt hb3 bw
 have B1_4 := hblk B1_3 bw
 clear hb3 bw
 have hS4 := B1_4.out
 refine hK.out _ _ hS4 (fun _ => ?_)
 clear hK K hS3
 cases u2
 ·have HF : Hid (¬ ObjP p xs ys st fs b t) := fun h => nomatch htu2.2 h.2.1
  clear htu2
  refine tkP 8 (.bool true) 12 rfl rfl hS4 (tkP 9 (.bool true) 13 rfl rfl hS4 (tkP 10 (.bool true) 14 rfl rfl hS4 ?_))
  go_frame
  refine tkN 11 15 rfl rfl hS4 (tkN 12 16 rfl rfl hS4 (tkN 13 17 rfl rfl hS4 ?_))
  go_frame
  refine tkN 14 18 rfl rfl hS4 (tkP 15 (.bool true) 19 rfl rfl hS4 (tkP 16 (.bool true) 20 rfl rfl hS4 ?_))
  go_frame
  refine tkN 17 21 rfl rfl hS4 (tkN 18 22 rfl rfl hS4 (tkN 19 23 rfl rfl hS4 ?_))
  go_frame
  refine tkN 20 24 rfl rfl hS4 (tkP 21 (.bool true) 25 rfl rfl hS4 (tkP 22 (.bool true) 26 rfl rfl hS4 ?_))
  go_frame
  refine tkN 23 27 rfl rfl hS4 (tkN 24 28 rfl rfl hS4 (tkN 25 29 rfl rfl hS4 ?_))
  go_frame
  refine tkN 26 30 rfl rfl hS4 (tkN 27 31 rfl rfl hS4 (tkN 28 32 rfl rfl hS4 ?_))
  go_frame
  refine tkN 29 33 rfl rfl hS4 (tkN 30 34 rfl rfl hS4 (tkP 31 (.bool true) 35 rfl rfl hS4 ?_))
  go_frame
  refine tkP 32 (.bool true) 36 rfl rfl hS4 (tkN 33 37 rfl rfl hS4 (tkN 34 38 rfl rfl hS4 ?_))
  go_frame
  refine tkN 35 39 rfl rfl hS4 (tkN 36 40 rfl rfl hS4 (tkN 37 41 rfl rfl hS4 ?_))
  go_frame
  refine tkN 38 42 rfl rfl hS4 (tkN 39 43 rfl rfl hS4 (tkP 40 (.bool true) 44 rfl rfl hS4 ?_))
  go_frame
  clear hS4
  refine wdn ?_
  go_wp2_with fail
  go_ret
  exact BoolIs.no HF.out hb4
 have HP : Hid (PathOk p) := htu2.1 rfl
 clear htu2
 refine tkP 8 (.bool false) 12 rfl rfl hS4 (tkP 9 (.bool false) 13 rfl rfl hS4 (tkP 10 (.bool false) 14 rfl rfl hS4 ?_))
 go_frame
 refine tkP 11 (.pointer (some ⟨q1, 6, none⟩)) 15 rfl rfl hS4 ?_
 go_frame
 refine tkL 12 (.int .i64 t) 16 rfl rfl (Or.inl ⟨by rfl, by intro W hW; have hhv1 := hW; have y6 := (cell_of hhv1 6).trans rfl; go_simp⟩) hS4 ?_
 go_frame
 refine rd1 13 rfl (fun K hK => ?_)
 go_simp
 refine (l1In_any t 0 1000000 _).mono ?_
 rintro e w5 ⟨rfl, hwe⟩
 have bw : Below w4.heap.size (w4) w5 := by rw [hwe]; exact Below.refl _ _
 clear hwe
 obtain ⟨u3, hu3⟩ : ∃ u3, u3 = decide ((0 : Int) ≤ t ∧ t ≤ 1000000) := ⟨_, rfl⟩
 rw [← hu3]
 have hb5 := hbt hb4 bw
 have B1_5 := hblk B1_4 bw
 clear hb4 bw
 have hS5 := B1_5.out
 refine hK.out _ _ hS5 (fun _ => ?_)
 clear hK K hS4
 cases u3
 ·have HF : Hid (¬ ObjP p xs ys st fs b t) := fun h => absurd h.2.2.1 (of_decide_eq_false hu3.symm)
  clear hu3
  refine tkP 14 (.bool true) 18 rfl rfl hS5 (tkP 15 (.bool true) 19 rfl rfl hS5 (tkP 16 (.bool true) 20 rfl rfl hS5 ?_))
  go_frame
  refine tkN 17 21 rfl rfl hS5 (tkN 18 22 rfl rfl hS5 (tkN 19 23 rfl rfl hS5 ?_))
  go_frame
  refine tkN 20 24 rfl rfl hS5 (tkP 21 (.bool true) 25 rfl rfl hS5 (tkP 22 (.bool true) 26 rfl rfl hS5 ?_))
  go_frame
  refine tkN 23 27 rfl rfl hS5 (tkN 24 28 rfl rfl hS5 (tkN 25 29 rfl rfl hS5 ?_))
  go_frame
  refine tkN 26 30 rfl rfl hS5 (tkN 27 31 rfl rfl hS5 (tkN 28 32 rfl rfl hS5 ?_))
  go_frame
  refine tkN 29 33 rfl rfl hS5 (tkN 30 34 rfl rfl hS5 (tkP 31 (.bool true) 35 rfl rfl hS5 ?_))
  go_frame
  refine tkP 32 (.bool true) 36 rfl rfl hS5 (tkN 33 37 rfl rfl hS5 (tkN 34 38 rfl rfl hS5 ?_))
  go_frame
  refine tkN 35 39 rfl rfl hS5 (tkN 36 40 rfl rfl hS5 (tkN 37 41 rfl rfl hS5 ?_))
  go_frame
  refine tkN 38 42 rfl rfl hS5 (tkN 39 43 rfl rfl hS5 (tkP 40 (.bool true) 44 rfl rfl hS5 ?_))
  go_frame
  clear hS5
  refine wdn ?_
  go_wp2_with fail
  go_ret
  exact BoolIs.no HF.out hb5
 have HT : Hid (0 ≤ t ∧ t ≤ 1000000) := (show 0 ≤ t ∧ t ≤ 1000000 from of_decide_eq_true hu3.symm)
 clear hu3
 refine tkP 14 (.bool false) 18 rfl rfl hS5 (tkP 15 (.bool false) 19 rfl rfl hS5 (tkP 16 (.bool false) 20 rfl rfl hS5 ?_))
 go_frame
 refine tkP 17 (.pointer (some ⟨q1, 1, none⟩)) 21 rfl rfl hS5 ?_
 go_frame
 refine tkL 18 (.slice o1 n1 c1) 22 rfl rfl (Or.inl ⟨by rfl, by intro W hW; have hhv1 := hW; have y1 := (cell_of hhv1 1).trans rfl; go_simp⟩) hS5 ?_
 go_frame
 refine rd1 19 rfl (fun K hK => ?_)
 go_simp
 refine (l9Names_any _ _ _ xs _ (HV1.out _ hb5) (by omega) HS1.out).mono ?_
 rintro e w6 ⟨u4, rfl, htu4, bw⟩
 have hb6 := hbt hb5 bw
 have B1_6 := hblk B1_5 bw
 clear hb5 bw
 have hS6 := B1_6.out
 refine hK.out _ _ hS6 (fun _ => ?_)
 clear hK K hS5
 cases u4
 ·have HF : Hid (¬ ObjP p xs ys st fs b t) := fun h => nomatch htu4.2 h.2.2.2.1
  clear htu4
  refine tkP 20 (.bool true) 24 rfl rfl hS6 (tkP 21 (.bool true) 25 rfl rfl hS6 (tkP 22 (.bool true) 26 rfl rfl hS6 ?_))
  go_frame
  refine tkN 23 27 rfl rfl hS6 (tkN 24 28 rfl rfl hS6 (tkN 25 29 rfl rfl hS6 ?_))
  go_frame
  refine tkN 26 30 rfl rfl hS6 (tkN 27 31 rfl rfl hS6 (tkN 28 32 rfl rfl hS6 ?_))
  go_frame
  refine tkN 29 33 rfl rfl hS6 (tkN 30 34 rfl rfl hS6 (tkP 31 (.bool true) 35 rfl rfl hS6 ?_))
  go_frame
  refine tkP 32 (.bool true) 36 rfl rfl hS6 (tkN 33 37 rfl rfl hS6 (tkN 34 38 rfl rfl hS6 ?_))
  go_frame
  refine tkN 35 39 rfl rfl hS6 (tkN 36 40 rfl rfl hS6 (tkN 37 41 rfl rfl hS6 ?_))
  go_frame
  refine tkN 38 42 rfl rfl hS6 (tkN 39 43 rfl rfl hS6 (tkP 40 (.bool true) 44 rfl rfl hS6 ?_))
  go_frame
  clear hS6
  refine wdn ?_
  go_wp2_with fail
  go_ret
  exact BoolIs.no HF.out hb6
 have HNM : Hid (NamesP xs) := htu4.1 rfl
 clear htu4
 refine tkP 20 (.bool false) 24 rfl rfl hS6 (tkP 21 (.bool false) 25 rfl rfl hS6 (tkP 22 (.bool false) 26 rfl rfl hS6 ?_))
 go_frame
 refine tkP 23 (.pointer (some ⟨q1, 1, none⟩)) 27 rfl rfl hS6 ?_
 go_frame
 refine tkL 24 (.slice o1 n1 c1) 28 rfl rfl (Or.inl ⟨by rfl, by intro W hW; have hhv1 := hW; have y1 := (cell_of hhv1 1).trans rfl; go_simp⟩) hS6 ?_
 go_frame
 refine tkP 25 (.pointer (some ⟨q1, 3, none⟩)) 29 rfl rfl hS6 (tkP 26 (.pointer (some ⟨q1, 4, none⟩)) 30 rfl rfl hS6 ?_)
 go_frame
 refine tkL 27 (.slice o3 n3 c3) 31 rfl rfl (Or.inl ⟨by rfl, by intro W hW; have hhv1 := hW; have y4 := (cell_of hhv1 4).trans rfl; go_simp⟩) hS6 ?_
 go_frame
 refine rd1 28 rfl (fun K hK => ?_)
 go_simp
 refine (specVaryOf_any _ n3 base fs _ (HV3.out _ hb6) (by omega) HG.out).mono ?_
 rintro e w7 ⟨vv, rfl, ownY, bw⟩
 obtain ⟨oY, pY, rfl⟩ := slice_of_owns ownY
 rw [HVL.out] at ownY ⊢
 have hb7 := hbt hb6 bw
 have B1_7 := hblk B1_6 bw
 have HOY_7 := hwd ownY hb6.size
 clear ownY
 clear hb6 bw
 have hS7 := B1_7.out
 refine hK.out _ _ hS7 (fun _ => ?_)
 clear hK K hS6
 refine rd1 29 rfl (fun K hK => ?_)
 go_simp
 refine (l8Texts_any _ _ _ _ _ _ xs vl _ (HV1.out _ hb7) (texts_view HOY_7.out) (by omega)).mono ?_
 rintro e w8 ⟨rfl, bw⟩
 obtain ⟨u5, hu5⟩ := exq (decide (xs = vl))
 rw [← hu5]
 have hb8 := hbt hb7 bw
 have HOY_8 := hown HOY_7 bw
 have B1_8 := hblk B1_7 bw
 clear hb7 bw
 have hS8 := B1_8.out
 refine hK.out _ _ hS8 (fun _ => ?_)
 clear hK K hS7
 cases u5
 ·have HF : Hid (¬ ObjP p xs ys st fs b t) := fun h => absurd (h.2.2.2.2.1.trans HVL.out) (of_decide_eq_false hu5.symm)
  clear hu5
  refine tkP 30 (.bool true) 34 rfl rfl hS8 (tkP 31 (.bool true) 35 rfl rfl hS8 (tkP 32 (.bool true) 36 rfl rfl hS8 ?_))
  go_frame
  refine tkN 33 37 rfl rfl hS8 (tkN 34 38 rfl rfl hS8 (tkN 35 39 rfl rfl hS8 ?_))
  go_frame
  refine tkN 36 40 rfl rfl hS8 (tkN 37 41 rfl rfl hS8 (tkN 38 42 rfl rfl hS8 ?_))
  go_frame
  refine tkN 39 43 rfl rfl hS8 (tkP 40 (.bool true) 44 rfl rfl hS8 ?_)
  go_frame
  clear hS8
  refine wdn ?_
  go_wp2_with fail
  go_ret
  exact BoolIs.no HF.out hb8
 have HE : Hid (xs = vl) := (show xs = vl from of_decide_eq_true hu5.symm)
 clear hu5
 refine tkP 30 (.bool false) 34 rfl rfl hS8 (tkP 31 (.bool false) 35 rfl rfl hS8 (tkP 32 (.bool false) 36 rfl rfl hS8 ?_))
 go_frame
 refine tkP 33 (.pointer (some ⟨q1, 2, none⟩)) 37 rfl rfl hS8 ?_
 go_frame
 refine tkL 34 (.slice o2 n2 c2) 38 rfl rfl (Or.inl ⟨by rfl, by intro W hW; have hhv1 := hW; have y2 := (cell_of hhv1 2).trans rfl; go_simp⟩) hS8 ?_
 go_frame
 refine tkP 35 (.int .i64 (n2 : Int)) 39 rfl rfl hS8 (tkP 36 (.pointer (some ⟨q1, 1, none⟩)) 40 rfl rfl hS8 ?_)
 go_frame
 refine tkL 37 (.slice o1 n1 c1) 41 rfl rfl (Or.inl ⟨by rfl, by intro W hW; have hhv1 := hW; have y1 := (cell_of hhv1 1).trans rfl; go_simp⟩) hS8 ?_
 go_frame
 refine tkP 38 (.int .i64 (n1 : Int)) 42 rfl rfl hS8 ?_
 go_frame
 by_cases hc1 : (n2 : Int) = (n1 : Int)
 rotate_left
 ·have hc1b : ((n2 : Int) == (n1 : Int)) = false := by simpa using hc1
  have hc1n : ((n2 : Int) != (n1 : Int)) = true := by simpa using hc1
  have HF : Hid (¬ ObjP p xs ys st fs b t) := fun h => by have h1 := h.2.2.2.2.2.1; have h2 := HL1.out; have h3 := HL2.out; omega
  have hc1H := hid hc1
  clear hc1
  refine tkP 39 (.bool true) 43 rfl rfl hS8 (tkP 40 (.bool true) 44 rfl rfl hS8 ?_)
  go_frame
  clear hS8
  refine wdn ?_
  go_wp2_with fail
  go_ret
  exact BoolIs.no HF.out hb8
 have hc1b : ((n2 : Int) == (n1 : Int)) = true := by simpa using hc1
 have hc1n : ((n2 : Int) != (n1 : Int)) = false := by simpa using hc1
 have hc1H := hid hc1
 clear hc1
 refine tkP 39 (.bool false) 43 rfl rfl hS8 (tkP 40 (.bool false) 44 rfl rfl hS8 ?_)
 go_frame
 clear hS8
 refine wdn ?_
 clear hc1b hc1n
 have HEQ := hc1H
 clear hc1H
 have HQ : Hid ((∀ y ∈ ys, ValOk y) ↔ ObjP p xs ys st fs b t) := ⟨fun h => ⟨HR.out, HP.out, HT.out, HNM.out, HE.out.trans HVL.out.symm, by have h1 := HL1.out; have h2 := HL2.out; have h3 := HEQ.out; omega, h⟩, fun h => h.2.2.2.2.2.2⟩
 go_wp2_with fail
 go_loopw [3] (fun i wr => ∃ j : Nat, j ≤ n2 ∧ i = .int .i64 (j : Int) ∧ Hid (Below w.heap.size w wr ∧ wr.heap[q1]? = some (.cells #[.string p, .slice o1 n1 c1, .slice o2 n2 c2, .int .i64 st, .slice o3 n3 c3, .string b, .int .i64 t] 62)) ∧ Hid (∀ x ∈ ys.take j, ValOk x)) (fun i _ => n2 - (intOf i).toNat)
 case atStart => exact ⟨0, Nat.zero_le _, rfl, ⟨hb8, B1_8.out⟩, fun x hx => by simp at hx⟩
 case round =>
  obtain ⟨j, hj, rfl, HW, HN⟩ := hrel
  have cc2 : wr.cell? ⟨q1, 2, none⟩ = some (.slice o2 n2 c2) := (cell_of HW.out.2 2).trans rfl
  by_cases hlt : (j : Int) < (n2 : Int)
  rotate_left
  ·have HA : Hid (ObjP p xs ys st fs b t) := HQ.out.1 (by
    have h := HN.out
    rw [List.take_of_length_le (by rw [HL2.out]; omega)] at h
    exact h)
   clear HN
   go_wp2_with fail
   go_ret
   exact ⟨true, rfl, ⟨fun _ => HA.out, fun _ => rfl⟩, HW.out.1⟩
  have hjx : j < ys.length := by rw [HL2.out]; omega
  obtain ⟨g, hog, hg, hc⟩ := (HV2.out wr HW.out.1).2 j (by omega)
  subst hog
  have hs := HS2.out j (by omega)
  obtain ⟨x, hxx⟩ := exq (textAt ys j)
  rw [← hxx] at hc hs
  have HM : Hid (x ∈ ys) := by show _ ∈ _; rw [hxx]; exact textAt_mem ys j hjx
  have HTK : Hid (ys.take (j + 1) = ys.take j ++ [x]) := by show _ = _; rw [take_textAt ys j hjx, hxx]
  clear hxx hjx
  go_wp2_with fail
  refine (specValueOk_any x _ hs).mono ?_
  rintro e w90 ⟨tx, rfl, htx, bw⟩
  have HW2 : Hid (Below w.heap.size w w90 ∧ w90.heap[q1]? = some (.cells #[.string p, .slice o1 n1 c1, .slice (some ⟨g, 0, none⟩) n2 c2, .int .i64 st, .slice o3 n3 c3, .string b, .int .i64 t] 62)) := ⟨HW.out.1.trans (bw.mono HW.out.1.size), blk_below HW.out.2 bw⟩
  clear bw cc2 hc HW
  cases tx
  ·have HF : Hid (¬ ObjP p xs ys st fs b t) := fun h => nomatch htx.2 (HQ.out.2 h x HM.out)
   clear htx HN
   go_wp2_with fail
   go_ret
   exact BoolIs.no HF.out HW2.out.1
  have HN2 : Hid (∀ y ∈ ys.take (j + 1), ValOk y) := by
   intro y hy
   rw [HTK.out] at hy
   rcases List.mem_append.1 hy with hy | hy
   · exact HN.out y hy
   · rw [List.mem_singleton.1 hy]; exact htx.1 rfl
  clear htx HN
  go_wp2_with fail
  go_roundw
  case rel => exact ⟨j + 1, by omega, by go_num, HW2, HN2⟩
  case measure => simp [intOf]; omega
def kvAt (kv : Ks) (i : Nat) : KpD × Value × Value × Value := kv.getD i (zeroK, .slice none 0 0, .slice none 0 0, .slice none 0 0)
theorem kvAt_get (kv : Ks) (i : Nat) (h : i < kv.length) : kv[i]'h = kvAt kv i := by
 unfold kvAt
 rw [List.getD_eq_getElem?_getD, List.getElem?_eq_getElem h]
 rfl
theorem kvAt_mem (kv : Ks) (i : Nat) (h : i < kv.length) : kvAt kv i ∈ kv := by rw [← kvAt_get kv i h]; exact List.getElem_mem h
theorem kvAt_take (kv : Ks) (i : Nat) (h : i < kv.length) : kv.take (i + 1) = kv.take i ++ [kvAt kv i] := by rw [← kvAt_get kv i h, List.take_succ_eq_append_getElem h]
theorem kvAt_fst (kv : Ks) (i : Nat) (h : i < kv.length) : (kvAt kv i).1 = kpAt (kv.map (·.1)) i := by
 rw [← kvAt_get kv i h, ← kpAt_get _ i (by rw [List.length_map]; exact h)]
 simp
def KpRead (w : World) (k : KpD) (v1 v2 v3 : Value) : Prop := ∃ B, RowsO w B (kpR (k, v1, v2, v3))
theorem KeptsO.read {w : World} {base : Nat} {V : Value} {kv : Ks} (h : KeptsO w base V kv) {k : KpD} {v1 v2 v3 : Value} (hx : (k, v1, v2, v3) ∈ kv) : KpRead w k v1 v2 v3 := ⟨base, h.obj hx⟩
theorem KeptsO.look {w : World} {base : Nat} {V : Value} {kv : Ks} (h : KeptsO w base V kv) (i : Nat) (hi : i < kv.length) : ∃ g cap, V = .slice (some ⟨g, 0, none⟩) kv.length cap ∧ g < w.heap.size ∧ KpAt w g i (kvAt kv i) := by
 rw [← kvAt_get kv i hi]
 exact h.at i hi
theorem small_get {k : KpD} (h : KpSmall k) (x : Tx) : (getV k.fs x).size ≤ 1048576 := by
 unfold getV
 split
 ·rename_i hx
  have := szTo_get k.fs k.fs.length (atF k.fs x) hx
  have := h.2.2.2.2
  omega
 · decide
theorem small_copy {k : KpD} (h : KpSmall k) : CopyF k.fs := fun i hi => by
 have := szTo_get k.fs k.fs.length i hi
 have := h.2.2.2.2
 omega
theorem small_walk {k : KpD} (h : KpSmall k) : WalkF k.fs.length k.fs := fun i hi => by
 have := szTo_get k.fs k.fs.length i hi
 have := h.2.2.2.2
 unfold maxLen
 omega
theorem small_text {xs : Ts} (h : ∀ i, i < xs.length → (textAt xs i).size ≤ 1048576) : ∀ i, i < xs.length → (textAt xs i).size ≤ maxLen := fun i hi => Nat.le_trans (h i hi) (by decide)
theorem specObjOk_k (k : KpD) (v1 v2 v3 : Value) (w : World) (h : KpRead w k v1 v2 v3) (hs : KpSmall k) :
  Calls Tryz.prog 34 #[.agg #[.string k.p, v1, v2, .int .i64 k.st, v3, .string k.b, .int .i64 k.t]] w fun e w' => BoolIs (ObjK k) w e w' := by
 obtain ⟨B, h⟩ := h
 have ho : ObjO w B v1 k.xs.length k.xs v2 k.ys.length k.ys v3 k.fs.length k.fs := rows_objO h
 obtain ⟨o1, c1, rfl⟩ := slice_of_owns ho.names
 obtain ⟨o2, c2, rfl⟩ := slice_of_owns ho.vals
 exact specObjOk_any k.p o1 _ c1 k.xs o2 _ c2 k.ys k.st v3 _ B k.fs k.b k.t w (texts_view ho.names) (texts_view ho.vals) (FieldsV.of_owns ho.flds) (by have := hs.2.1.1; omega) (by have := hs.2.2.1.1; omega) (by have := hs.2.2.2.1; omega) (small_text hs.2.1.2) (small_text hs.2.2.1.2) (small_walk hs) (by have := hs.1.1; unfold maxLen; omega) (by have := hs.1.2; unfold maxLen; omega) (small_get hs _)
theorem specDiskOk_len (o1 : Oa) (n1 c1 : Nat) (v2 : Value) (n2 : Nat) (ws : List (Int × ByteArray)) (B : Nat) (w : World) (h : w.ownsRow B 183 2 v2 n2 (flatWrite ws)) (hn2 : n2 ≤ 2000000) :
  Calls Tryz.prog 65 #[.agg #[.slice o1 n1 c1, v2]] w fun e w' => BoolIs (DiskN n1 ws) w e w' := by
 obtain ⟨oPx, pPx, rfl⟩ := slice_of_owns h
 have HOPx_0 := hid h
 have HPL : Hid (ws.length = n2) := write_len h
 clear h
 have hb0 := Below.refl w.heap.size w
 go_enter Tryz.func65, Tryz.ntmps65
 go_upto_region 1 with fail
 obtain ⟨q1, hq1⟩ := exq (w.heap.size)
 obtain ⟨w1, hW1⟩ := exq (w.alloc (.cells #[.slice o1 n1 c1, .slice oPx n2 pPx] 39))
 have hz1 := hq1.symm
 rw [← hW1]; try rw [← hq1]
 have hs1 := hsa hW1 hz1
 have bw := bal hW1
 have hb1 := hbt hb0 bw
 have HOPx_1 := hown HOPx_0 bw
 have B1_1 := hnew hW1 hz1
 clear hb0 bw hW1 hz1
 clear hs1 hq1
 go_wp2_with fail
 go_loopw [3] (fun i wr => ∃ j : Nat, j ≤ n2 ∧ i = .int .i64 (j : Int) ∧ Hid (Below w.heap.size w (wr) ∧ wr.heap[q1]? = some (.cells #[.slice o1 n1 c1, .slice oPx n2 pPx] 39) ∧ wr.ownsRow B 183 2 (.slice oPx n2 pPx) n2 (flatWrite ws)) ∧ Hid (∀ x ∈ ws.take j, 0 ≤ x.1 ∧ x.1 ≤ 19)) (fun i _ => n2 - (intOf i).toNat)
 case atStart => exact ⟨0, Nat.zero_le _, rfl, ⟨hb1, B1_1.out, HOPx_1.out⟩, fun x hx => by simp at hx⟩
 case round =>
  obtain ⟨j, hj, rfl, HW, HN⟩ := hrel
  by_cases hlt : (j : Int) < (n2 : Int)
  rotate_left
  ·have hb2 := HW.out.1
   have B1_2 := hid HW.out.2.1
   have HOPx_2 : Hid (wr.ownsRow B 183 2 (.slice oPx n2 pPx) n2 (flatWrite ws)) := HW.out.2.2
   clear HW hb1
   have HAL : Hid (∀ x ∈ ws, 0 ≤ x.1 ∧ x.1 ≤ 19) := fun x hx => HN.out x (by rw [List.take_of_length_le (by rw [HPL.out]; omega)]; exact hx)
   clear HN
   have c1_1 := (k2c B1_2).2
   by_cases hc1 : (n1 : Int) = 20
   rotate_left
   ·have hc1b : ((n1 : Int) == (20 : Int)) = false := by simpa using hc1
    have hc1n : ((n1 : Int) != (20 : Int)) = true := by simpa using hc1
    have HE : Hid (¬ n1 = 20) := (by have := hc1; show ¬ _; omega)
    have hc1H := hid hc1
    clear hc1
    have c1_0 := (k2c B1_2).1
    go_wp2_with fail
    go_ret
    exact BoolIs.no (fun h => HE.out h.1) hb2
   have hc1b : ((n1 : Int) == (20 : Int)) = true := by simpa using hc1
   have hc1n : ((n1 : Int) != (20 : Int)) = false := by simpa using hc1
   have HE : Hid (n1 = 20) := (by have := hc1; show _ = _; omega)
   have hc1H := hid hc1
   clear hc1
   have c1_0 := (k2c B1_2).1
   by_cases hc2 : (n2 : Int) ≤ 16
   rotate_left
   ·have HLE : Hid (¬ n2 ≤ 16) := (by have := hc2; show ¬ _; omega)
    go_wp2_with fail
    go_ret
    exact BoolIs.no (fun h => HLE.out (by have := h.2.1; rw [HPL.out] at this; exact this)) hb2
   have HLE : Hid (n2 ≤ 16) := (by have := hc2; show _ ≤ _; omega)
   go_wp2_with fail
   go_ret
   exact ⟨true, rfl, ⟨fun _ => ⟨HE.out, by rw [HPL.out]; exact HLE.out, HAL.out⟩, fun _ => rfl⟩, hb2⟩
  have hb2 := HW.out.1
  have B1_2 := hid HW.out.2.1
  have HOPx_2 : Hid (wr.ownsRow B 183 2 (.slice oPx n2 pPx) n2 (flatWrite ws)) := HW.out.2.2
  clear HW hb1
  have hjx : j < ws.length := by rw [HPL.out]; omega
  obtain ⟨g, rfl⟩ := owns_some HOPx_2.out (by omega)
  obtain ⟨y, hy⟩ := exq (writeAt ws j)
  have HM : Hid (y ∈ ws) := by show _ ∈ _; rw [hy]; exact writeAt_mem ws j hjx
  have HTK : Hid (ws.take (j + 1) = ws.take j ++ [y]) := by show _ = _; rw [hy]; exact take_writeAt ws j hjx
  have HYE : Hid (writeAt ws j = y) := hy.symm
  clear hy hjx
  obtain ⟨y0, y1⟩ := y
  have HELPx : Hid (∀ W : World, (W).ownsRow B 183 2 (.slice (some ⟨g, 0, none⟩) n2 pPx) n2 (flatWrite ws) → (W.cell? ⟨g, j * 2, none⟩ = some (.int .i64 y0) ∧ W.cell? ⟨g, j * 2 + 1, none⟩ = some (.string y1))) := fun W h => by
   obtain ⟨g', hg, _, r0, r1⟩ := (write_view h).2 j (by omega)
   cases hg
   rw [HYE.out] at r0 r1
   exact ⟨r0, r1⟩
  obtain ⟨r0, r1⟩ := HELPx.out _ HOPx_2.out
  have c1_1 := (k2c B1_2).2
  go_wp2_with fail
  refine (l1In_any y0 0 19 _).mono ?_
  rintro e w3 ⟨rfl, hwe⟩
  have bw : Below wr.heap.size (wr) w3 := by rw [hwe]; exact Below.refl _ _
  clear hwe
  obtain ⟨uy, huy⟩ : ∃ u, u = decide ((0 : Int) ≤ y0 ∧ y0 ≤ 19) := ⟨_, rfl⟩
  rw [← huy]
  have hb3 := hbt hb2 bw
  have HOPx_3 := hown HOPx_2 bw
  have B1_3 := hblk B1_2 bw
  clear hb2 bw
  clear c1_1 r0 r1
  cases uy
  ·have HNY : Hid (¬ (0 ≤ y0 ∧ y0 ≤ 19)) := (show ¬ (0 ≤ y0 ∧ y0 ≤ 19) from of_decide_eq_false huy.symm)
   clear huy
   go_wp2_with fail
   go_ret
   exact BoolIs.no (fun h => HNY.out (h.2.2 _ HM.out)) hb3
  have HY : Hid (0 ≤ y0 ∧ y0 ≤ 19) := (show (0 ≤ y0 ∧ y0 ≤ 19) from of_decide_eq_true huy.symm)
  clear huy
  have HN2 : Hid (∀ x ∈ ws.take (j + 1), 0 ≤ x.1 ∧ x.1 ≤ 19) := fun x hx => by
   rw [HTK.out] at hx
   rcases List.mem_append.1 hx with hx | hx
   · exact HN.out x hx
   · rw [List.mem_singleton.1 hx]; exact HY.out
  go_wp2_with fail
  go_roundw
  case rel => exact ⟨j + 1, by omega, by go_num, ⟨hb3, B1_3.out, HOPx_3.out⟩, HN2⟩
  case measure => simp [intOf]; omega
theorem specDiskOk_any (v1 v2 : Value) (n1 : Nat) (cs : Ts) (n2 : Nat) (ws : List (Int × ByteArray)) (B : Nat) (w : World) (h : DiskO w B v1 n1 cs v2 n2 ws) (_hn1 : n1 ≤ 2000000) (hn2 : n2 ≤ 2000000) :
  Calls Tryz.prog 65 #[.agg #[v1, v2]] w fun e w' => BoolIs (DiskP cs ws) w e w' := by
 obtain ⟨oCx, pCx, rfl⟩ := slice_of_owns h.cells
 have hl : cs.length = n1 := by have := h.cells.1; rw [List.length_map] at this; omega
 refine (specDiskOk_len oCx n1 pCx v2 n2 ws B w h.pend hn2).mono fun e w' hq => ?_
 show BoolIs (DiskN cs.length ws) w e w'
 rw [hl]
 exact hq
theorem specBanOk_any (k : Int) (a b : Tx) (t : Int) (w : World) (ha : a.size ≤ maxLen) (hb : b.size ≤ maxLen) :
    Calls Tryz.prog 66 #[.agg #[.int .i64 k, .string a, .string b, .int .i64 t]] w fun e w' => BoolIs (BanP k a b t) w e w' := by
  have HAM := hid ha
  have HBM := hid hb
  clear ha hb
  have hb0 := Below.refl w.heap.size w
  go_enter Tryz.func66, Tryz.ntmps66
  go_upto_region 1 with fail
  obtain ⟨q1, hq1⟩ := exq (w.heap.size)
  obtain ⟨w1, hW1⟩ := exq (w.alloc (.cells #[.int .i64 k, .string a, .string b, .int .i64 t] 143))
  have hz1 := hq1.symm
  rw [← hW1]; try rw [← hq1]
  have hs1 := hsa hW1 hz1
  have bw := bal hW1
  have hb1 := hbt hb0 bw
  have B1_1 := hnew hW1 hz1
  clear hb0 bw hW1 hz1
  clear hs1 hq1
  have c1_3 := (k4c B1_1).2.2.2
  go_wp2_with fail
  refine (l1In_any t 0 1000000 _).mono ?_
  rintro e w2 ⟨rfl, hwe⟩
  have bw : Below w1.heap.size (w1) w2 := by rw [hwe]; exact Below.refl _ _
  clear hwe
  obtain ⟨ut, hut⟩ : ∃ u, u = decide ((0 : Int) ≤ t ∧ t ≤ 1000000) := ⟨_, rfl⟩
  rw [← hut]
  have hb2 := hbt hb1 bw
  have B1_2 := hblk B1_1 bw
  clear hb1 bw
  clear c1_3
  cases ut
  · have Hut : Hid (¬ (0 ≤ t ∧ t ≤ 1000000)) := (show ¬ (0 ≤ t ∧ t ≤ 1000000) from of_decide_eq_false hut.symm)
    clear hut
    go_wp2_with fail
    go_ret
    refine ⟨false, rfl, ?_, hb2⟩
    have zHut := Hut.out
    unfold BanP
    first
      | (simp_all; done)
      | (constructor
         · intro h
           first
             | (cases h; done)
             | exact ⟨zHut, .inl ⟨.inl zHK1, zHup, zHBE⟩⟩
             | exact ⟨zHut, .inl ⟨.inr zHK2, zHup, zHBE⟩⟩
             | exact ⟨zHut, .inr ⟨zHK3, zHuk, zv.1 h⟩⟩
             | exact ⟨zHut, .inr ⟨zHK3, zHuk, zHuv⟩⟩
         · rintro ⟨h1, (⟨h2 | h2, h3, h4⟩ | ⟨h2, h3, h4⟩)⟩
           all_goals first
             | rfl
             | exact zv.2 h4
             | (exfalso; first | exact zHut h1 | exact zHup h3 | exact zHuk h3 | exact zHBE h4 | exact zHuv h4 | omega))
  have Hut : Hid (0 ≤ t ∧ t ≤ 1000000) := (show 0 ≤ t ∧ t ≤ 1000000 from of_decide_eq_true hut.symm)
  clear hut
  have c1_0 := (k4c B1_2).1
  by_cases hc1 : k = 1
  · have hc1b : ((k : Int) == (1 : Int)) = true := by simpa using hc1
    have hc1n : ((k : Int) != (1 : Int)) = false := by simpa using hc1
    have HK1 : Hid (k = 1) := hc1
    have hc1H : Hid (k = 1) := hc1
    clear hc1
    have c1_1 := (k4c B1_2).2.1
    go_wp2_with fail
    refine (l3Path_any a _ HAM.out).mono ?_
    rintro e w3 ⟨up, rfl, htup, bw⟩
    have hb3 := hbt hb2 bw
    have HM3 := hsz bw
    have B1_3 := hblk B1_2 bw
    clear hb2 bw
    clear c1_0 c1_1
    cases up
    · have Hup : Hid (¬ PathOk a) := fun h => nomatch htup.2 h
      clear htup
      go_wp2_with fail
      go_ret
      refine ⟨false, rfl, ?_, hb3⟩
      have zHut := Hut.out
      have zHK1 := HK1.out
      have zHup := Hup.out
      unfold BanP
      first
        | (simp_all; done)
        | (constructor
           · intro h
             first
               | (cases h; done)
               | exact ⟨zHut, .inl ⟨.inl zHK1, zHup, zHBE⟩⟩
               | exact ⟨zHut, .inl ⟨.inr zHK2, zHup, zHBE⟩⟩
               | exact ⟨zHut, .inr ⟨zHK3, zHuk, zv.1 h⟩⟩
               | exact ⟨zHut, .inr ⟨zHK3, zHuk, zHuv⟩⟩
           · rintro ⟨h1, (⟨h2 | h2, h3, h4⟩ | ⟨h2, h3, h4⟩)⟩
             all_goals first
               | rfl
               | exact zv.2 h4
               | (exfalso; first | exact zHut h1 | exact zHup h3 | exact zHuk h3 | exact zHBE h4 | exact zHuv h4 | omega))
    have Hup : Hid (PathOk a) := htup.1 rfl
    clear htup
    have c1_2 := (k4c B1_3).2.2.1
    by_cases hc2 : b = ⟨#[]⟩
    · have hc2b : (b).toList.isEmpty = true := isEmpty_yes (by rw [hc2]; rfl)
      have HBE := hid hc2
      go_wp2_with fail
      go_ret
      refine ⟨true, rfl, ?_, hb3⟩
      have zHut := Hut.out
      have zHK1 := HK1.out
      have zHup := Hup.out
      have zHBE := HBE.out
      unfold BanP
      first
        | (simp_all; done)
        | (constructor
           · intro h
             first
               | (cases h; done)
               | exact ⟨zHut, .inl ⟨.inl zHK1, zHup, zHBE⟩⟩
               | exact ⟨zHut, .inl ⟨.inr zHK2, zHup, zHBE⟩⟩
               | exact ⟨zHut, .inr ⟨zHK3, zHuk, zv.1 h⟩⟩
               | exact ⟨zHut, .inr ⟨zHK3, zHuk, zHuv⟩⟩
           · rintro ⟨h1, (⟨h2 | h2, h3, h4⟩ | ⟨h2, h3, h4⟩)⟩
             all_goals first
               | rfl
               | exact zv.2 h4
               | (exfalso; first | exact zHut h1 | exact zHup h3 | exact zHuk h3 | exact zHBE h4 | exact zHuv h4 | omega))
    have hc2b : (b).toList.isEmpty = false := isEmpty_no (Nat.pos_of_ne_zero (fun e => hc2 (empty_text e)))
    have HBE := hid hc2
    go_wp2_with fail
    go_ret
    refine ⟨false, rfl, ?_, hb3⟩
    have zHut := Hut.out
    have zHK1 := HK1.out
    have zHup := Hup.out
    have zHBE := HBE.out
    unfold BanP
    first
      | (simp_all; done)
      | (constructor
         · intro h
           first
             | (cases h; done)
             | exact ⟨zHut, .inl ⟨.inl zHK1, zHup, zHBE⟩⟩
             | exact ⟨zHut, .inl ⟨.inr zHK2, zHup, zHBE⟩⟩
             | exact ⟨zHut, .inr ⟨zHK3, zHuk, zv.1 h⟩⟩
             | exact ⟨zHut, .inr ⟨zHK3, zHuk, zHuv⟩⟩
         · rintro ⟨h1, (⟨h2 | h2, h3, h4⟩ | ⟨h2, h3, h4⟩)⟩
           all_goals first
             | rfl
             | exact zv.2 h4
             | (exfalso; first | exact zHut h1 | exact zHup h3 | exact zHuk h3 | exact zHBE h4 | exact zHuv h4 | omega))
  have hc1b : ((k : Int) == (1 : Int)) = false := by simpa using hc1
  have hc1n : ((k : Int) != (1 : Int)) = true := by simpa using hc1
  have HK1 := hid hc1
  have hc1H := hid hc1
  clear hc1
  by_cases hc2 : k = 2
  · have hc2b : ((k : Int) == (2 : Int)) = true := by simpa using hc2
    have hc2n : ((k : Int) != (2 : Int)) = false := by simpa using hc2
    have HK2 : Hid (k = 2) := hc2
    have hc2H : Hid (k = 2) := hc2
    clear hc2
    have c1_1 := (k4c B1_2).2.1
    go_wp2_with fail
    refine (l3Path_any a _ HAM.out).mono ?_
    rintro e w3 ⟨up, rfl, htup, bw⟩
    have hb3 := hbt hb2 bw
    have HM3 := hsz bw
    have B1_3 := hblk B1_2 bw
    clear hb2 bw
    clear c1_0 c1_1
    cases up
    · have Hup : Hid (¬ PathOk a) := fun h => nomatch htup.2 h
      clear htup
      go_wp2_with fail
      go_ret
      refine ⟨false, rfl, ?_, hb3⟩
      have zHut := Hut.out
      have zHK1 := HK1.out
      have zHK2 := HK2.out
      have zHup := Hup.out
      unfold BanP
      first
        | (simp_all; done)
        | (constructor
           · intro h
             first
               | (cases h; done)
               | exact ⟨zHut, .inl ⟨.inl zHK1, zHup, zHBE⟩⟩
               | exact ⟨zHut, .inl ⟨.inr zHK2, zHup, zHBE⟩⟩
               | exact ⟨zHut, .inr ⟨zHK3, zHuk, zv.1 h⟩⟩
               | exact ⟨zHut, .inr ⟨zHK3, zHuk, zHuv⟩⟩
           · rintro ⟨h1, (⟨h2 | h2, h3, h4⟩ | ⟨h2, h3, h4⟩)⟩
             all_goals first
               | rfl
               | exact zv.2 h4
               | (exfalso; first | exact zHut h1 | exact zHup h3 | exact zHuk h3 | exact zHBE h4 | exact zHuv h4 | omega))
    have Hup : Hid (PathOk a) := htup.1 rfl
    clear htup
    have c1_2 := (k4c B1_3).2.2.1
    by_cases hc3 : b = ⟨#[]⟩
    · have hc3b : (b).toList.isEmpty = true := isEmpty_yes (by rw [hc3]; rfl)
      have HBE := hid hc3
      go_wp2_with fail
      go_ret
      refine ⟨true, rfl, ?_, hb3⟩
      have zHut := Hut.out
      have zHK1 := HK1.out
      have zHK2 := HK2.out
      have zHup := Hup.out
      have zHBE := HBE.out
      unfold BanP
      first
        | (simp_all; done)
        | (constructor
           · intro h
             first
               | (cases h; done)
               | exact ⟨zHut, .inl ⟨.inl zHK1, zHup, zHBE⟩⟩
               | exact ⟨zHut, .inl ⟨.inr zHK2, zHup, zHBE⟩⟩
               | exact ⟨zHut, .inr ⟨zHK3, zHuk, zv.1 h⟩⟩
               | exact ⟨zHut, .inr ⟨zHK3, zHuk, zHuv⟩⟩
           · rintro ⟨h1, (⟨h2 | h2, h3, h4⟩ | ⟨h2, h3, h4⟩)⟩
             all_goals first
               | rfl
               | exact zv.2 h4
               | (exfalso; first | exact zHut h1 | exact zHup h3 | exact zHuk h3 | exact zHBE h4 | exact zHuv h4 | omega))
    have hc3b : (b).toList.isEmpty = false := isEmpty_no (Nat.pos_of_ne_zero (fun e => hc3 (empty_text e)))
    have HBE := hid hc3
    go_wp2_with fail
    go_ret
    refine ⟨false, rfl, ?_, hb3⟩
    have zHut := Hut.out
    have zHK1 := HK1.out
    have zHK2 := HK2.out
    have zHup := Hup.out
    have zHBE := HBE.out
    unfold BanP
    first
      | (simp_all; done)
      | (constructor
         · intro h
           first
             | (cases h; done)
             | exact ⟨zHut, .inl ⟨.inl zHK1, zHup, zHBE⟩⟩
             | exact ⟨zHut, .inl ⟨.inr zHK2, zHup, zHBE⟩⟩
             | exact ⟨zHut, .inr ⟨zHK3, zHuk, zv.1 h⟩⟩
             | exact ⟨zHut, .inr ⟨zHK3, zHuk, zHuv⟩⟩
         · rintro ⟨h1, (⟨h2 | h2, h3, h4⟩ | ⟨h2, h3, h4⟩)⟩
           all_goals first
             | rfl
             | exact zv.2 h4
             | (exfalso; first | exact zHut h1 | exact zHup h3 | exact zHuk h3 | exact zHBE h4 | exact zHuv h4 | omega))
  have hc2b : ((k : Int) == (2 : Int)) = false := by simpa using hc2
  have hc2n : ((k : Int) != (2 : Int)) = true := by simpa using hc2
  have HK2 := hid hc2
  have hc2H := hid hc2
  clear hc2
  by_cases hc3 : k = 3
  rotate_left
  · have hc3b : ((k : Int) == (3 : Int)) = false := by simpa using hc3
    have hc3n : ((k : Int) != (3 : Int)) = true := by simpa using hc3
    have HK3 := hid hc3
    have hc3H := hid hc3
    clear hc3
    go_wp2_with fail
    go_ret
    refine ⟨false, rfl, ?_, hb2⟩
    have zHut := Hut.out
    have zHK1 := HK1.out
    have zHK2 := HK2.out
    have zHK3 := HK3.out
    unfold BanP
    first
      | (simp_all; done)
      | (constructor
         · intro h
           first
             | (cases h; done)
             | exact ⟨zHut, .inl ⟨.inl zHK1, zHup, zHBE⟩⟩
             | exact ⟨zHut, .inl ⟨.inr zHK2, zHup, zHBE⟩⟩
             | exact ⟨zHut, .inr ⟨zHK3, zHuk, zv.1 h⟩⟩
             | exact ⟨zHut, .inr ⟨zHK3, zHuk, zHuv⟩⟩
         · rintro ⟨h1, (⟨h2 | h2, h3, h4⟩ | ⟨h2, h3, h4⟩)⟩
           all_goals first
             | rfl
             | exact zv.2 h4
             | (exfalso; first | exact zHut h1 | exact zHup h3 | exact zHuk h3 | exact zHBE h4 | exact zHuv h4 | omega))
  have hc3b : ((k : Int) == (3 : Int)) = true := by simpa using hc3
  have hc3n : ((k : Int) != (3 : Int)) = false := by simpa using hc3
  have HK3 : Hid (k = 3) := hc3
  have hc3H : Hid (k = 3) := hc3
  clear hc3
  have c1_1 := (k4c B1_2).2.1
  go_wp2_with fail
  refine (specTokenOk_any a _ HAM.out).mono ?_
  rintro e w3 ⟨uk, rfl, htuk, bw⟩
  have hb3 := hbt hb2 bw
  have HM3 := hsz bw
  have B1_3 := hblk B1_2 bw
  clear hb2 bw
  clear c1_0 c1_1
  cases uk
  · have Huk : Hid (¬ TokOk a) := fun h => nomatch htuk.2 h
    clear htuk
    go_wp2_with fail
    go_ret
    refine ⟨false, rfl, ?_, hb3⟩
    have zHut := Hut.out
    have zHK1 := HK1.out
    have zHK2 := HK2.out
    have zHK3 := HK3.out
    have zHuk := Huk.out
    unfold BanP
    first
      | (simp_all; done)
      | (constructor
         · intro h
           first
             | (cases h; done)
             | exact ⟨zHut, .inl ⟨.inl zHK1, zHup, zHBE⟩⟩
             | exact ⟨zHut, .inl ⟨.inr zHK2, zHup, zHBE⟩⟩
             | exact ⟨zHut, .inr ⟨zHK3, zHuk, zv.1 h⟩⟩
             | exact ⟨zHut, .inr ⟨zHK3, zHuk, zHuv⟩⟩
         · rintro ⟨h1, (⟨h2 | h2, h3, h4⟩ | ⟨h2, h3, h4⟩)⟩
           all_goals first
             | rfl
             | exact zv.2 h4
             | (exfalso; first | exact zHut h1 | exact zHup h3 | exact zHuk h3 | exact zHBE h4 | exact zHuv h4 | omega))
  have Huk : Hid (TokOk a) := htuk.1 rfl
  clear htuk
  have c1_2 := (k4c B1_3).2.2.1
  go_wp2_with fail
  refine (specValueOk_any b _ HBM.out).mono ?_
  rintro e w4 ⟨uv, rfl, htuv, bw⟩
  have hb4 := hbt hb3 bw
  have B1_4 := hblk B1_3 bw
  clear hb3 bw
  clear c1_2
  go_wp2_with fail
  go_ret
  refine ⟨uv, rfl, ?_, hb4⟩
  have zHut := Hut.out
  have zHK1 := HK1.out
  have zHK2 := HK2.out
  have zHK3 := HK3.out
  have zHuk := Huk.out
  have zv := htuv
  unfold BanP
  first
    | (simp_all; done)
    | (constructor
       · intro h
         first
           | (cases h; done)
           | exact ⟨zHut, .inl ⟨.inl zHK1, zHup, zHBE⟩⟩
           | exact ⟨zHut, .inl ⟨.inr zHK2, zHup, zHBE⟩⟩
           | exact ⟨zHut, .inr ⟨zHK3, zHuk, zv.1 h⟩⟩
           | exact ⟨zHut, .inr ⟨zHK3, zHuk, zHuv⟩⟩
       · rintro ⟨h1, (⟨h2 | h2, h3, h4⟩ | ⟨h2, h3, h4⟩)⟩
         all_goals first
           | rfl
           | exact zv.2 h4
           | (exfalso; first | exact zHut h1 | exact zHup h3 | exact zHuk h3 | exact zHBE h4 | exact zHuv h4 | omega))
structure ShSmall (s : ShD) : Prop where
 c : s.cs.length ≤ 1048576
 w : s.ws.length ≤ 1048576
 k : s.ks.length ≤ 1048576
 b : s.bl.length ≤ 1048576
 ct : ∀ i, i < s.cs.length → (textAt s.cs i).size ≤ 1048576
 wt : ∀ x ∈ s.ws, x.2.size ≤ 1048576
 ks : ∀ k ∈ s.ks, KpSmall k
 bt : ∀ x ∈ s.bl, x.2.1.size ≤ 1048576 ∧ x.2.2.1.size ≤ 1048576
theorem ShSmall.bm {s : ShD} (h : ShSmall s) : ∀ x ∈ s.bl, x.2.1.size ≤ maxLen ∧ x.2.2.1.size ≤ maxLen := fun x hx => ⟨Nat.le_trans (h.bt x hx).1 (by decide), Nat.le_trans (h.bt x hx).2 (by decide)⟩
theorem ShSmall.kv {s : ShD} (h : ShSmall s) {kv : Ks} (hk : kv.map (·.1) = s.ks) {x : KpD × Value × Value × Value} (hx : x ∈ kv) : KpSmall x.1 := h.ks x.1 (by rw [← hk]; exact List.mem_map.2 ⟨x, hx, rfl⟩)
theorem specShelfOk_any (v1 v2 V VB : Value) (kv : Ks) (s : ShD) (B : Nat) (w : World) (h : ShelfO w B v1 v2 V VB kv s) (hz : ShSmall s) :
  Calls Tryz.prog 31 #[.agg #[v1, v2, V, VB, .int .i64 s.nx, .int .i64 s.sq]] w fun e w' => BoolIs (ShelfP s) w e w' := by
 obtain ⟨o1, c1, e1⟩ := slice_of_owns h.disk.cells
 obtain ⟨o2, c2, e2⟩ := slice_of_owns h.disk.pend
 obtain ⟨o3, c3, e3⟩ := slice_of_owns h.kept.row
 obtain ⟨o4, c4, e4⟩ := slice_of_owns h.bans
 subst e1 e2 e3 e4
 obtain ⟨n1, hn1⟩ := exq (s.cs.length)
 obtain ⟨n2, hn2⟩ := exq (s.ws.length)
 obtain ⟨n3, hn3⟩ := exq kv.length
 obtain ⟨n4, hn4⟩ := exq (s.bl.length)
 rw [← hn1, ← hn2, ← hn3, ← hn4] at h ⊢
 have HLN : Hid (s.cs.length = n1 ∧ s.ws.length = n2 ∧ kv.length = n3 ∧ s.bl.length = n4) := ⟨hn1.symm, hn2.symm, hn3.symm, hn4.symm⟩
 have HKS : Hid (kv.map (·.1) = s.ks) := h.2
 have HZ := hid hz
 have bn1 : n1 ≤ 1048576 := by rw [hn1]; exact hz.c
 have bn2 : n2 ≤ 1048576 := by rw [hn2]; exact hz.w
 have bn3 : n3 ≤ 1048576 := by rw [hn3, ← List.length_map (f := (·.1)), h.2]; exact hz.k
 have bn4 : n4 ≤ 1048576 := by rw [hn4]; exact hz.b
 have HSH : Hid (∀ W, Below w.heap.size w W → ShelfO W B (.slice o1 n1 c1) (.slice o2 n2 c2) (.slice o3 n3 c3) (.slice o4 n4 c4) kv s) := fun W hb => h.below hb
 have HKP : Hid (∀ W, Below w.heap.size w W → KeptsO W B (.slice o3 n3 c3) kv) := fun W hb => (h.below hb).kept
 have HLK : Hid (kv.length = n3) := hn3.symm
 clear hn1 hn2 hn3 hn4 h hz
 have hb0 := Below.refl w.heap.size w
 go_enter Tryz.func31, Tryz.ntmps31
 go_upto_region 1 with fail
 obtain ⟨q1, hq1⟩ := exq (w.heap.size)
 obtain ⟨w1, hW1⟩ := exq (w.alloc (.cells #[.slice o1 n1 c1, .slice o2 n2 c2, .slice o3 n3 c3, .slice o4 n4 c4, .int .i64 s.nx, .int .i64 s.sq] 43))
 have hz1 := hq1.symm
 rw [← hW1]; try rw [← hq1]
 have hs1 := hsa hW1 hz1
 have bw := bal hW1
 have hb1 := hbt hb0 bw
 have B1_1 := hnew hW1 hz1
 clear hb0 bw hW1 hz1
 clear hs1 hq1
 have c1_0 := (k6c B1_1).1
 have c1_1 := (k6c B1_1).2.1
 go_wp2_with fail
 refine (specDiskOk_any _ _ n1 s.cs n2 s.ws B _ (by have hd := (HSH.out _ hb1).disk; rw [HLN.out.1, HLN.out.2.1] at hd; exact hd) (by omega) (by omega)).mono ?_
 rintro e w2 ⟨ud, rfl, hud, bw⟩
 have hb2 := hbt hb1 bw
 have B1_2 := hblk B1_1 bw
 clear hb1 bw
 clear c1_0 c1_1
 cases ud
 ·have HNud : Hid (¬ (DiskP s.cs s.ws)) := fun h => nomatch hud.2 h
  clear hud
  go_wp2_with fail
  go_ret
  exact BoolIs.no (fun h => HNud.out h.1) hb2
 have HYud : Hid (DiskP s.cs s.ws) := hud.1 rfl
 clear hud
 by_cases hc1 : 5 < (n4 : Int)
 ·have HB5 : Hid (¬ n4 ≤ 5) := (by have := hc1; show ¬ _; omega)
  have c1_3 := (k6c B1_2).2.2.2.1
  go_wp2_with fail
  go_ret
  exact BoolIs.no (fun h => by have h1 := h.2.1; have h5 := HB5.out; rw [HLN.out.2.2.2] at h1; omega) hb2
 have HB5 : Hid (n4 ≤ 5) := (by have := hc1; show _ ≤ _; omega)
 have c1_3 := (k6c B1_2).2.2.2.1
 have c1_4 := (k6c B1_2).2.2.2.2.1
 go_wp2_with fail
 refine (l1In_any s.nx 5 19 _).mono ?_
 rintro e w3 ⟨rfl, hwe⟩
 have bw : Below w2.heap.size (w2) w3 := by rw [hwe]; exact Below.refl _ _
 clear hwe
 obtain ⟨unx, hunx⟩ : ∃ u, u = decide ((5 : Int) ≤ s.nx ∧ s.nx ≤ 19) := ⟨_, rfl⟩
 rw [← hunx]
 have hb3 := hbt hb2 bw
 have B1_3 := hblk B1_2 bw
 clear hb2 bw
 clear c1_3 c1_4
 cases unx
 ·have HNunx : Hid (¬ (5 ≤ s.nx ∧ s.nx ≤ 19)) := (show ¬ (5 ≤ s.nx ∧ s.nx ≤ 19) from of_decide_eq_false hunx.symm)
  clear hunx
  go_wp2_with fail
  go_ret
  exact BoolIs.no (fun h => HNunx.out h.2.2.1) hb3
 have HYunx : Hid (5 ≤ s.nx ∧ s.nx ≤ 19) := (show (5 ≤ s.nx ∧ s.nx ≤ 19) from of_decide_eq_true hunx.symm)
 clear hunx
 have c1_5 := (k6c B1_3).2.2.2.2.2
 go_wp2_with fail
 refine (l1In_any s.sq 1 100000 _).mono ?_
 rintro e w4 ⟨rfl, hwe⟩
 have bw : Below w3.heap.size (w3) w4 := by rw [hwe]; exact Below.refl _ _
 clear hwe
 obtain ⟨usq, husq⟩ : ∃ u, u = decide ((1 : Int) ≤ s.sq ∧ s.sq ≤ 100000) := ⟨_, rfl⟩
 rw [← husq]
 have hb4 := hbt hb3 bw
 have B1_4 := hblk B1_3 bw
 clear hb3 bw
 clear c1_5
 cases usq
 ·have HNusq : Hid (¬ (1 ≤ s.sq ∧ s.sq ≤ 100000)) := (show ¬ (1 ≤ s.sq ∧ s.sq ≤ 100000) from of_decide_eq_false husq.symm)
  clear husq
  go_wp2_with fail
  go_ret
  exact BoolIs.no (fun h => HNusq.out h.2.2.2.1) hb4
 have HYusq : Hid (1 ≤ s.sq ∧ s.sq ≤ 100000) := (show (1 ≤ s.sq ∧ s.sq ≤ 100000) from of_decide_eq_true husq.symm)
 clear husq
 have bq1 := HYusq.out.1
 have bq2 := HYusq.out.2
 have hwq : IntKind.i64.wrap (s.sq - 1) = s.sq - 1 := by rw [IntKind.wrap_i64]; omega
 go_wp2_with fail
 go_loopw [3] (fun i wr => ∃ j : Nat, j ≤ n4 ∧ i = .int .i64 (j : Int) ∧ Hid (Below w.heap.size w (wr) ∧ wr.heap[q1]? = some (.cells #[.slice o1 n1 c1, .slice o2 n2 c2, .slice o3 n3 c3, .slice o4 n4 c4, .int .i64 s.nx, .int .i64 s.sq] 43)) ∧ Hid (∀ x ∈ s.bl.take j, BanP x.1 x.2.1 x.2.2.1 x.2.2.2)) (fun i _ => n4 - (intOf i).toNat)
 case atStart => exact ⟨0, Nat.zero_le _, rfl, ⟨hb4, B1_4.out⟩, fun x hx => by simp at hx⟩
 case round =>
  obtain ⟨j, hj, rfl, HW, HN⟩ := hrel
  by_cases hlt : (j : Int) < (n4 : Int)
  ·have hb5 := HW.out.1
   have B1_5 := hid HW.out.2
   clear HW hb4
   have hbn := (HSH.out _ hb5).bans
   try rw [HLN.out.2.2.2] at hbn
   have hbv := ban_view hbn
   clear hbn
   obtain ⟨g4, hog, hgl, r1, r2, r3, r4⟩ := hbv.2 j (by first | omega | (rw [HLN.out.2.2.2]; omega))
   clear hbv
   subst hog
   obtain ⟨y, hy⟩ := exq (banAt s.bl j)
   rw [← hy] at r1 r2 r3 r4
   have HM : Hid (y ∈ s.bl) := by show _ ∈ _; rw [hy]; exact banAt_mem s.bl j (by rw [HLN.out.2.2.2]; omega)
   have HTK : Hid (s.bl.take (j + 1) = s.bl.take j ++ [y]) := by show _ = _; rw [hy]; exact take_banAt s.bl j (by rw [HLN.out.2.2.2]; omega)
   clear hy hgl
   obtain ⟨y0, y1, y2, y3⟩ := y
   dsimp only at r1 r2 r3 r4
   have c1_3 := (k6c B1_5).2.2.2.1
   go_wp2_with fail
   refine (specBanOk_any y0 y1 y2 y3 _ (HZ.out.bm _ HM.out).1 (HZ.out.bm _ HM.out).2).mono ?_
   rintro e w6 ⟨ub, rfl, hub, bw⟩
   have hb6 := hbt hb5 bw
   have B1_6 := hblk B1_5 bw
   clear hb5 bw
   clear r1 r2 r3 r4 c1_3
   cases ub
   ·have HNub : Hid (¬ (BanP y0 y1 y2 y3)) := fun h => nomatch hub.2 h
    clear hub
    go_wp2_with fail
    go_ret
    exact BoolIs.no (fun h => HNub.out (h.2.2.2.2.1 _ HM.out)) hb6
   have HYub : Hid (BanP y0 y1 y2 y3) := hub.1 rfl
   clear hub
   have HN2 : Hid (∀ x ∈ s.bl.take (j + 1), BanP x.1 x.2.1 x.2.2.1 x.2.2.2) := fun x hx => by
    rw [HTK.out] at hx
    rcases List.mem_append.1 hx with hx | hx
    · exact HN.out x hx
    · rw [List.mem_singleton.1 hx]; exact HYub.out
   go_wp2_with fail
   go_roundw
   case rel => exact ⟨j + 1, by omega, by go_num, ⟨hb6, B1_6.out⟩, HN2⟩
   case measure => simp [intOf]; omega
  have hb5 := HW.out.1
  have B1_5 := hid HW.out.2
  clear HW hb4
  have HAL : Hid (∀ x ∈ s.bl, BanP x.1 x.2.1 x.2.2.1 x.2.2.2) := fun x hx => HN.out x (by rw [List.take_of_length_le (by rw [HLN.out.2.2.2]; omega)]; exact hx)
  clear HN
  have c1_3 := (k6c B1_5).2.2.2.1
  go_wp2_with fail
  clear c1_3
  obtain ⟨wA, hwA⟩ := exq wr
  rw [← hwA] at hb5 B1_5 ⊢
  clear hwA
  go_loopw [4] (fun i wr => ∃ i' : Nat, i' ≤ n3 ∧ i = .int .i64 (i' : Int) ∧ Hid (Below w.heap.size w (wr) ∧ wr.heap[q1]? = some (.cells #[.slice o1 n1 c1, .slice o2 n2 c2, .slice o3 n3 c3, .slice o4 n4 c4, .int .i64 s.nx, .int .i64 s.sq] 43)) ∧ Hid (∀ m, m < i' → KpOk s.ks s.sq m)) (fun i _ => n3 - (intOf i).toNat)
  case atStart => exact ⟨0, Nat.zero_le _, rfl, ⟨hb5, B1_5.out⟩, fun m hm => absurd hm (by omega)⟩
  case round =>
   obtain ⟨i, hi, rfl, HW, HN⟩ := hrel
   by_cases hlt : (i : Int) < (n3 : Int)
   rotate_left
   ·have hb6 := HW.out.1
    have B1_6 := hid HW.out.2
    clear HW hb5
    have HKA : Hid (∀ m, m < s.ks.length → KpOk s.ks s.sq m) := fun m hm => HN.out m (by rw [← HKS.out, List.length_map, HLN.out.2.2.1] at hm; omega)
    clear HN
    have c1_2 := (k6c B1_6).2.2.1
    go_wp2_with fail
    go_ret
    exact BoolIs.yes ⟨HYud.out, by rw [HLN.out.2.2.2]; exact HB5.out, HYunx.out, HYusq.out, HAL.out, HKA.out⟩ hb6
   have hb6 := HW.out.1
   have B1_6 := hid HW.out.2
   clear HW hb5
   obtain ⟨g3, p3, hV, _, _⟩ := (HKP.out _ hb6).look i (by rw [HLK.out]; omega)
   rw [HLK.out] at hV
   injection hV with hV1 hV2 hV3
   subst hV1 hV3
   clear hV2
   obtain ⟨xX, hxX⟩ := exq (kvAt kv i)
   have HMx : Hid (xX ∈ kv) := by show _ ∈ _; rw [hxX]; exact kvAt_mem kv i (by rw [HLK.out]; omega)
   have HEx : Hid (kpAt s.ks i = xX.1) := by show _ = _; rw [hxX, ← HKS.out]; exact (kvAt_fst kv i (by rw [HLK.out]; omega)).symm
   have HTKx : Hid (kv.take (i + 1) = kv.take i ++ [xX]) := by show _ = _; rw [hxX]; exact kvAt_take kv i (by rw [HLK.out]; omega)
   have HKx : Hid (∀ W, Below w.heap.size w W → KpAt W g3 i xX) := fun W hb => by
    obtain ⟨g', p', hV, _, hc⟩ := (HKP.out W hb).look i (by rw [HLK.out]; omega)
    injection hV with hV1 _ _
    cases hV1
    rw [hxX]
    exact hc
   clear hxX
   obtain ⟨x, kuv1, kuv2, kuv3⟩ := xX
   obtain ⟨ku1, kc1, hu⟩ := slice_of_owns ((HKP.out _ hb6).names HMx.out)
   have hu' : kuv1 = .slice ku1 x.xs.length kc1 := hu
   subst hu'
   clear hu
   obtain ⟨ku2, kc2, hu⟩ := slice_of_owns ((HKP.out _ hb6).vals HMx.out)
   have hu' : kuv2 = .slice ku2 x.ys.length kc2 := hu
   subst hu'
   clear hu
   obtain ⟨ku3, kc3, hu⟩ := slice_of_owns ((HKP.out _ hb6).flds HMx.out)
   have hu' : kuv3 = .slice ku3 x.fs.length kc3 := hu
   subst hu'
   clear hu
   have r0x := (HKx.out _ hb6).c0
   have r1x := (HKx.out _ hb6).c1
   have r2x := (HKx.out _ hb6).c2
   have r3x := (HKx.out _ hb6).c3
   have r4x := (HKx.out _ hb6).c4
   have r5x := (HKx.out _ hb6).c5
   have r6x := (HKx.out _ hb6).c6
   have r7x := (HKx.out _ hb6).c7
   have r8x := (HKx.out _ hb6).c8
   dsimp only at r0x r1x r2x r3x r4x r5x r6x r7x r8x
   have c1_2 := (k6c B1_6).2.2.1
   go_upto_region 12 with fail
   obtain ⟨q2, hq2⟩ := exq (wr.heap.size)
   obtain ⟨w7, hW7⟩ := exq (wr.alloc (.cells #[.string x.p, .slice ku1 x.xs.length kc1, .slice ku2 x.ys.length kc2, .int .i64 x.st, .slice ku3 x.fs.length kc3, .string x.b, .int .i64 x.t, .int .i64 x.a, .int .i64 x.q] 145))
   have hz7 := hq2.symm
   rw [← hW7]; try rw [← hq2]
   have hs7 := hsa hW7 hz7
   have bw := bal hW7
   have hb7 := hbt hb6 bw
   have B1_7 := hblk B1_6 bw
   have B2_7 := hnew hW7 hz7
   clear hb6 bw hW7 hz7
   clear hs7 hq2
   clear r0x r1x r2x r3x r4x r5x r6x r7x r8x c1_2
   go_upto_region 12 with fail
   by_cases hi0 : (0 : Int) < (i : Int)
   rotate_left
   ·have hi0z : i = 0 := by omega
    go_upto_region 12 with fail
    refine wp_region_held_drew (S := fun W => W.heap[q2]? = some (.cells #[.string x.p, .slice ku1 x.xs.length kc1, .slice ku2 x.ys.length kc2, .int .i64 x.st, .slice ku3 x.fs.length kc3, .string x.b, .int .i64 x.t, .int .i64 x.a, .int .i64 x.q] 145) ∧ W.heap[q1]? = some (.cells #[.slice o1 n1 c1, .slice o2 n2 c2, .slice (some ⟨g3, 0, none⟩) n3 c3, .slice o4 n4 c4, .int .i64 s.nx, .int .i64 s.sq] 43)) (by kernel_rfl) ⟨B2_7.out, B1_7.out⟩ (fun _ => ?_)
    obtain ⟨w8, hX⟩ := exq w7.drew
    have bw := bdr hX
    rw [← hX]
    have hb8 := hbt hb7 bw
    have HM8 := hsz bw
    have B1_8 := hblk B1_7 bw
    have B2_8 := hblk B2_7 bw
    have hS8 := And.intro B2_8.out B1_8.out
    clear hb7 bw hX
    refine tkP 0 (.pointer (some ⟨q2, 0, none⟩)) 55 rfl rfl hS8 ?_
    go_frame
    refine tkL 1 (.agg #[.string x.p, .slice ku1 x.xs.length kc1, .slice ku2 x.ys.length kc2, .int .i64 x.st, .slice ku3 x.fs.length kc3, .string x.b, .int .i64 x.t]) 56 rfl rfl (Or.inl ⟨by rfl, by intro W hW; obtain ⟨hhv2, hhv1⟩ := hW; have y0 := (cell_of hhv2 0).trans rfl; have y1 := (cell_of hhv2 1).trans rfl; have y2 := (cell_of hhv2 2).trans rfl; have y3 := (cell_of hhv2 3).trans rfl; have y4 := (cell_of hhv2 4).trans rfl; have y5 := (cell_of hhv2 5).trans rfl; have y6 := (cell_of hhv2 6).trans rfl; go_simp⟩) hS8 ?_
    go_frame
    refine rd1 2 rfl (fun K hK => ?_)
    go_simp
    refine (specObjOk_k x _ _ _ _ ((HSH.out _ hb8).kept.read HMx.out) (HZ.out.kv HKS.out HMx.out)).mono ?_
    rintro e w9 ⟨uo, rfl, huo, bw⟩
    have hb9 := hbt hb8 bw
    have HM9 := hsz bw
    have B1_9 := hblk B1_8 bw
    have B2_9 := hblk B2_8 bw
    clear hb8 bw
    have hS9 := And.intro B2_9.out B1_9.out
    refine hK.out _ _ hS9 (fun _ => ?_)
    clear hK K hS8
    cases uo
    ·have HNuo : Hid (¬ (ObjK x)) := fun h => nomatch huo.2 h
     clear huo
     refine tkP 3 (.bool true) 58 rfl rfl hS9 (tkP 4 (.bool true) 59 rfl rfl hS9 (tkN 5 60 rfl rfl hS9 ?_))
     go_frame
     refine tkN 6 61 rfl rfl hS9 (tkN 7 62 rfl rfl hS9 (tkN 8 63 rfl rfl hS9 ?_))
     go_frame
     refine tkP 9 (.bool true) 64 rfl rfl hS9 (tkP 10 (.bool true) 65 rfl rfl hS9 (tkN 11 66 rfl rfl hS9 ?_))
     go_frame
     refine tkN 12 67 rfl rfl hS9 (tkN 13 68 rfl rfl hS9 (tkN 14 69 rfl rfl hS9 ?_))
     go_frame
     refine tkN 15 70 rfl rfl hS9 (tkN 16 71 rfl rfl hS9 (tkN 17 72 rfl rfl hS9 ?_))
     go_frame
     refine tkP 18 (.bool true) 73 rfl rfl hS9 (tkP 19 (.bool true) 74 rfl rfl hS9 (tkN 20 75 rfl rfl hS9 ?_))
     go_frame
     refine tkN 21 76 rfl rfl hS9 (tkN 22 77 rfl rfl hS9 (tkN 23 78 rfl rfl hS9 ?_))
     go_frame
     refine tkN 24 79 rfl rfl hS9 (tkN 25 80 rfl rfl hS9 (tkN 26 81 rfl rfl hS9 ?_))
     go_frame
     refine tkN 27 82 rfl rfl hS9 (tkN 28 83 rfl rfl hS9 (tkN 29 84 rfl rfl hS9 ?_))
     go_frame
     refine tkN 30 85 rfl rfl hS9 (tkN 31 86 rfl rfl hS9 (tkN 32 87 rfl rfl hS9 ?_))
     go_frame
     refine tkN 33 88 rfl rfl hS9 (tkP 34 (.bool true) 89 rfl rfl hS9 ?_)
     go_frame
     clear hS9
     refine wdn ?_
     go_wp2_with fail
     go_ret
     exact BoolIs.no (fun h => by have hk := h.2.2.2.2.2 i (by rw [← HKS.out, List.length_map, HLN.out.2.2.1]; omega); unfold KpOk at hk; rw [HEx.out] at hk; exact HNuo.out hk.1) hb9
    have HYuo : Hid (ObjK x) := huo.1 rfl
    clear huo
    refine tkP 3 (.bool false) 58 rfl rfl hS9 (tkP 4 (.bool false) 59 rfl rfl hS9 (tkP 5 (.pointer (some ⟨q2, 7, none⟩)) 60 rfl rfl hS9 ?_))
    go_frame
    refine tkL 6 (.int .i64 x.a) 61 rfl rfl (Or.inl ⟨by rfl, by intro W hW; obtain ⟨hhv2, hhv1⟩ := hW; have y7 := (cell_of hhv2 7).trans rfl; go_simp⟩) hS9 ?_
    go_frame
    refine rd1 7 rfl (fun K hK => ?_)
    go_simp
    refine (l1In_any x.a 5 19 _).mono ?_
    rintro e w10 ⟨rfl, hwe⟩
    have bw : Below w9.heap.size (w9) w10 := by rw [hwe]; exact Below.refl _ _
    clear hwe
    obtain ⟨uka, huka⟩ : ∃ u, u = decide ((5 : Int) ≤ x.a ∧ x.a ≤ 19) := ⟨_, rfl⟩
    rw [← huka]
    have hb10 := hbt hb9 bw
    have HM10 := hsz bw
    have B1_10 := hblk B1_9 bw
    have B2_10 := hblk B2_9 bw
    clear hb9 bw
    have hS10 := And.intro B2_10.out B1_10.out
    refine hK.out _ _ hS10 (fun _ => ?_)
    clear hK K hS9
    cases uka
    ·have HNuka : Hid (¬ (5 ≤ x.a ∧ x.a ≤ 19)) := (show ¬ (5 ≤ x.a ∧ x.a ≤ 19) from of_decide_eq_false huka.symm)
     clear huka
     refine tkP 8 (.bool true) 63 rfl rfl hS10 (tkP 9 (.bool true) 64 rfl rfl hS10 (tkP 10 (.bool true) 65 rfl rfl hS10 ?_))
     go_frame
     refine tkN 11 66 rfl rfl hS10 (tkN 12 67 rfl rfl hS10 (tkN 13 68 rfl rfl hS10 ?_))
     go_frame
     refine tkN 14 69 rfl rfl hS10 (tkN 15 70 rfl rfl hS10 (tkN 16 71 rfl rfl hS10 ?_))
     go_frame
     refine tkN 17 72 rfl rfl hS10 (tkP 18 (.bool true) 73 rfl rfl hS10 (tkP 19 (.bool true) 74 rfl rfl hS10 ?_))
     go_frame
     refine tkN 20 75 rfl rfl hS10 (tkN 21 76 rfl rfl hS10 (tkN 22 77 rfl rfl hS10 ?_))
     go_frame
     refine tkN 23 78 rfl rfl hS10 (tkN 24 79 rfl rfl hS10 (tkN 25 80 rfl rfl hS10 ?_))
     go_frame
     refine tkN 26 81 rfl rfl hS10 (tkN 27 82 rfl rfl hS10 (tkN 28 83 rfl rfl hS10 ?_))
     go_frame
     refine tkN 29 84 rfl rfl hS10 (tkN 30 85 rfl rfl hS10 (tkN 31 86 rfl rfl hS10 ?_))
     go_frame
     refine tkN 32 87 rfl rfl hS10 (tkN 33 88 rfl rfl hS10 (tkP 34 (.bool true) 89 rfl rfl hS10 ?_))
     go_frame
     clear hS10
     refine wdn ?_
     go_wp2_with fail
     go_ret
     exact BoolIs.no (fun h => by have hk := h.2.2.2.2.2 i (by rw [← HKS.out, List.length_map, HLN.out.2.2.1]; omega); unfold KpOk at hk; rw [HEx.out] at hk; exact HNuka.out hk.2.1) hb10
    have HYuka : Hid (5 ≤ x.a ∧ x.a ≤ 19) := (show (5 ≤ x.a ∧ x.a ≤ 19) from of_decide_eq_true huka.symm)
    clear huka
    refine tkP 8 (.bool false) 63 rfl rfl hS10 (tkP 9 (.bool false) 64 rfl rfl hS10 (tkP 10 (.bool false) 65 rfl rfl hS10 ?_))
    go_frame
    refine tkP 11 (.pointer (some ⟨q2, 8, none⟩)) 66 rfl rfl hS10 ?_
    go_frame
    refine tkL 12 (.int .i64 x.q) 67 rfl rfl (Or.inl ⟨by rfl, by intro W hW; obtain ⟨hhv2, hhv1⟩ := hW; have y8 := (cell_of hhv2 8).trans rfl; go_simp⟩) hS10 ?_
    go_frame
    refine tkP 13 (.pointer (some ⟨q1, 5, none⟩)) 68 rfl rfl hS10 ?_
    go_frame
    refine tkL 14 (.int .i64 s.sq) 69 rfl rfl (Or.inl ⟨by rfl, by intro W hW; obtain ⟨hhv2, hhv1⟩ := hW; have y5 := (cell_of hhv1 5).trans rfl; go_simp⟩) hS10 ?_
    go_frame
    refine tkP 15 (.int .i64 (s.sq - 1)) 70 rfl rfl hS10 ?_
    go_frame
    refine rd1 16 rfl (fun K hK => ?_)
    go_simp
    refine (l1In_any x.q 1 (s.sq - 1) _).mono ?_
    rintro e w11 ⟨rfl, hwe⟩
    have bw : Below w10.heap.size (w10) w11 := by rw [hwe]; exact Below.refl _ _
    clear hwe
    obtain ⟨ukq, hukq⟩ : ∃ u, u = decide ((1 : Int) ≤ x.q ∧ x.q ≤ (s.sq - 1)) := ⟨_, rfl⟩
    rw [← hukq]
    have hb11 := hbt hb10 bw
    have HM11 := hsz bw
    have B1_11 := hblk B1_10 bw
    have B2_11 := hblk B2_10 bw
    clear hb10 bw
    have hS11 := And.intro B2_11.out B1_11.out
    refine hK.out _ _ hS11 (fun _ => ?_)
    clear hK K hS10
    cases ukq
    ·have HNukq : Hid (¬ (1 ≤ x.q ∧ x.q ≤ (s.sq - 1))) := (show ¬ (1 ≤ x.q ∧ x.q ≤ (s.sq - 1)) from of_decide_eq_false hukq.symm)
     clear hukq
     refine tkP 17 (.bool true) 72 rfl rfl hS11 (tkP 18 (.bool true) 73 rfl rfl hS11 (tkP 19 (.bool true) 74 rfl rfl hS11 ?_))
     go_frame
     refine tkN 20 75 rfl rfl hS11 (tkN 21 76 rfl rfl hS11 (tkN 22 77 rfl rfl hS11 ?_))
     go_frame
     refine tkN 23 78 rfl rfl hS11 (tkN 24 79 rfl rfl hS11 (tkN 25 80 rfl rfl hS11 ?_))
     go_frame
     refine tkN 26 81 rfl rfl hS11 (tkN 27 82 rfl rfl hS11 (tkN 28 83 rfl rfl hS11 ?_))
     go_frame
     refine tkN 29 84 rfl rfl hS11 (tkN 30 85 rfl rfl hS11 (tkN 31 86 rfl rfl hS11 ?_))
     go_frame
     refine tkN 32 87 rfl rfl hS11 (tkN 33 88 rfl rfl hS11 (tkP 34 (.bool true) 89 rfl rfl hS11 ?_))
     go_frame
     clear hS11
     refine wdn ?_
     go_wp2_with fail
     go_ret
     exact BoolIs.no (fun h => by have hk := h.2.2.2.2.2 i (by rw [← HKS.out, List.length_map, HLN.out.2.2.1]; omega); unfold KpOk at hk; rw [HEx.out] at hk; exact HNukq.out hk.2.2.1) hb11
    have HYukq : Hid (1 ≤ x.q ∧ x.q ≤ (s.sq - 1)) := (show (1 ≤ x.q ∧ x.q ≤ (s.sq - 1)) from of_decide_eq_true hukq.symm)
    clear hukq
    refine tkP 17 (.bool false) 72 rfl rfl hS11 (tkP 18 (.bool false) 73 rfl rfl hS11 (tkP 19 (.bool false) 74 rfl rfl hS11 ?_))
    go_frame
    refine tkP 20 (.int .i64 (i : Int)) 75 rfl rfl hS11 (tkP 21 (.bool false) 76 rfl rfl hS11 (tkP 22 (.bool false) 77 rfl rfl hS11 ?_))
    go_frame
    refine tkN 23 78 rfl rfl hS11 (tkN 24 79 rfl rfl hS11 (tkN 25 80 rfl rfl hS11 ?_))
    go_frame
    refine tkN 26 81 rfl rfl hS11 (tkN 27 82 rfl rfl hS11 (tkN 28 83 rfl rfl hS11 ?_))
    go_frame
    refine tkN 29 84 rfl rfl hS11 (tkN 30 85 rfl rfl hS11 (tkN 31 86 rfl rfl hS11 ?_))
    go_frame
    refine tkN 32 87 rfl rfl hS11 (tkP 33 (.bool false) 88 rfl rfl hS11 (tkP 34 (.bool false) 89 rfl rfl hS11 ?_))
    go_frame
    clear hS11
    refine wdn ?_
    go_wp2_with fail
    have HASC : Hid (0 < i → (kpAt s.ks (i - 1)).q < x.q) := fun h => absurd h (by omega)
    obtain ⟨wB, hwB⟩ := exq w11
    rw [← hwB] at hb11 B1_11 B2_11 ⊢
    clear hwB
    go_loopw [6] (fun i0 wr => ∃ j : Nat, j ≤ i ∧ i0 = .int .i64 (j : Int) ∧ Hid (Below w.heap.size w (wr) ∧ wr.heap[q1]? = some (.cells #[.slice o1 n1 c1, .slice o2 n2 c2, .slice (some ⟨g3, 0, none⟩) n3 c3, .slice o4 n4 c4, .int .i64 s.nx, .int .i64 s.sq] 43) ∧ wr.heap[q2]? = some (.cells #[.string x.p, .slice ku1 x.xs.length kc1, .slice ku2 x.ys.length kc2, .int .i64 x.st, .slice ku3 x.fs.length kc3, .string x.b, .int .i64 x.t, .int .i64 x.a, .int .i64 x.q] 145)) ∧ Hid (∀ m, m < j → (kpAt s.ks m).a ≠ x.a)) (fun i0 _ => i - (intOf i0).toNat)
    case atStart => exact ⟨0, Nat.zero_le _, rfl, ⟨hb11, B1_11.out, B2_11.out⟩, fun m hm => absurd hm (by omega)⟩
    case round =>
     obtain ⟨j, hj, rfl, HW, HJ⟩ := hrel
     by_cases hlj : (j : Int) < (i : Int)
     ·have hb12 := HW.out.1
      have B1_12 := hid HW.out.2.1
      have B2_12 := hid HW.out.2.2
      clear HW hb11
      exact absurd hlj (by omega)
     have hb12 := HW.out.1
     have B1_12 := hid HW.out.2.1
     have B2_12 := hid HW.out.2.2
     clear HW hb11
     have HTWS : Hid (∀ m, m < i → (kpAt s.ks m).a ≠ x.a) := fun m hm => HJ.out m (by omega)
     clear HJ
     have HN2 : Hid (∀ m, m < i + 1 → KpOk s.ks s.sq m) := fun m hm => by
      by_cases e : m = i
      ·subst e
       unfold KpOk
       rw [HEx.out]
       exact ⟨HYuo.out, HYuka.out, HYukq.out, HASC.out, HTWS.out⟩
      · exact HN.out m (by omega)
     go_wp2_with fail
     go_roundw
     case rel => exact ⟨i + 1, by omega, by go_num, ⟨hb12, B1_12.out⟩, HN2⟩
     case measure => simp [intOf]; omega
   obtain ⟨m, hm⟩ : ∃ m : Nat, (i : Int) - 1 = (m : Int) := ⟨i - 1, by omega⟩
   have hi0n : 0 < i := by omega
   have hmn : ¬ n3 ≤ m := by omega
   have hwm : IntKind.i64.wrap (m : Int) = (m : Int) := by rw [IntKind.wrap_i64]; omega
   obtain ⟨zX, hzX⟩ := exq (kvAt kv m)
   have HMz : Hid (zX ∈ kv) := by show _ ∈ _; rw [hzX]; exact kvAt_mem kv m (by rw [HLK.out]; omega)
   have HEz : Hid (kpAt s.ks m = zX.1) := by show _ = _; rw [hzX, ← HKS.out]; exact (kvAt_fst kv m (by rw [HLK.out]; omega)).symm
   have HTKz : Hid (kv.take (m + 1) = kv.take m ++ [zX]) := by show _ = _; rw [hzX]; exact kvAt_take kv m (by rw [HLK.out]; omega)
   have HKz : Hid (∀ W, Below w.heap.size w W → KpAt W g3 m zX) := fun W hb => by
    obtain ⟨g', p', hV, _, hc⟩ := (HKP.out W hb).look m (by rw [HLK.out]; omega)
    injection hV with hV1 _ _
    cases hV1
    rw [hzX]
    exact hc
   clear hzX
   obtain ⟨z, ktv1, ktv2, ktv3⟩ := zX
   obtain ⟨kt1, ktc1, hu⟩ := slice_of_owns ((HKP.out _ hb7).names HMz.out)
   have hu' : ktv1 = .slice kt1 z.xs.length ktc1 := hu
   subst hu'
   clear hu
   obtain ⟨kt2, ktc2, hu⟩ := slice_of_owns ((HKP.out _ hb7).vals HMz.out)
   have hu' : ktv2 = .slice kt2 z.ys.length ktc2 := hu
   subst hu'
   clear hu
   obtain ⟨kt3, ktc3, hu⟩ := slice_of_owns ((HKP.out _ hb7).flds HMz.out)
   have hu' : ktv3 = .slice kt3 z.fs.length ktc3 := hu
   subst hu'
   clear hu
   have HEL3 : Hid (∀ W, Below w.heap.size w W → (W.cell? ⟨g3, m * 9, none⟩ = some (.string z.p) ∧ W.cell? ⟨g3, m * 9 + 1, none⟩ = some (.slice kt1 z.xs.length ktc1) ∧ W.cell? ⟨g3, m * 9 + 2, none⟩ = some (.slice kt2 z.ys.length ktc2) ∧ W.cell? ⟨g3, m * 9 + 3, none⟩ = some (.int .i64 z.st) ∧ W.cell? ⟨g3, m * 9 + 4, none⟩ = some (.slice kt3 z.fs.length ktc3) ∧ W.cell? ⟨g3, m * 9 + 5, none⟩ = some (.string z.b) ∧ W.cell? ⟨g3, m * 9 + 6, none⟩ = some (.int .i64 z.t) ∧ W.cell? ⟨g3, m * 9 + 7, none⟩ = some (.int .i64 z.a) ∧ W.cell? ⟨g3, m * 9 + 8, none⟩ = some (.int .i64 z.q))) := fun W hb => by
    have c := HKz.out W hb
    exact ⟨c.c0, c.c1, c.c2, c.c3, c.c4, c.c5, c.c6, c.c7, c.c8⟩
   have HIM : Hid (i = m + 1) := (by show _ = _; omega)
   go_upto_region 12 with fail
   refine wp_region_held_drew (S := fun W => W.heap[q2]? = some (.cells #[.string x.p, .slice ku1 x.xs.length kc1, .slice ku2 x.ys.length kc2, .int .i64 x.st, .slice ku3 x.fs.length kc3, .string x.b, .int .i64 x.t, .int .i64 x.a, .int .i64 x.q] 145) ∧ W.heap[q1]? = some (.cells #[.slice o1 n1 c1, .slice o2 n2 c2, .slice (some ⟨g3, 0, none⟩) n3 c3, .slice o4 n4 c4, .int .i64 s.nx, .int .i64 s.sq] 43) ∧ (W.cell? ⟨g3, m * 9, none⟩ = some (.string z.p) ∧ W.cell? ⟨g3, m * 9 + 1, none⟩ = some (.slice kt1 z.xs.length ktc1) ∧ W.cell? ⟨g3, m * 9 + 2, none⟩ = some (.slice kt2 z.ys.length ktc2) ∧ W.cell? ⟨g3, m * 9 + 3, none⟩ = some (.int .i64 z.st) ∧ W.cell? ⟨g3, m * 9 + 4, none⟩ = some (.slice kt3 z.fs.length ktc3) ∧ W.cell? ⟨g3, m * 9 + 5, none⟩ = some (.string z.b) ∧ W.cell? ⟨g3, m * 9 + 6, none⟩ = some (.int .i64 z.t) ∧ W.cell? ⟨g3, m * 9 + 7, none⟩ = some (.int .i64 z.a) ∧ W.cell? ⟨g3, m * 9 + 8, none⟩ = some (.int .i64 z.q))) (by kernel_rfl) ⟨B2_7.out, B1_7.out, (by first | exact HEL3.out _ hb7 | exact HEL3.out _ hb7.drew)⟩ (fun _ => ?_)
   obtain ⟨w8, hX⟩ := exq w7.drew
   have bw := bdr hX
   rw [← hX]
   have hb8 := hbt hb7 bw
   have HM8 := hsz bw
   have B1_8 := hblk B1_7 bw
   have B2_8 := hblk B2_7 bw
   have hS8 := And.intro B2_8.out (And.intro B1_8.out (HEL3.out _ hb8))
   clear hb7 bw hX
   refine tkP 0 (.pointer (some ⟨q2, 0, none⟩)) 55 rfl rfl hS8 ?_
   go_frame
   refine tkL 1 (.agg #[.string x.p, .slice ku1 x.xs.length kc1, .slice ku2 x.ys.length kc2, .int .i64 x.st, .slice ku3 x.fs.length kc3, .string x.b, .int .i64 x.t]) 56 rfl rfl (Or.inl ⟨by rfl, by intro W hW; obtain ⟨hhv2, hhv1, hhE_3⟩ := hW; have y0 := (cell_of hhv2 0).trans rfl; have y1 := (cell_of hhv2 1).trans rfl; have y2 := (cell_of hhv2 2).trans rfl; have y3 := (cell_of hhv2 3).trans rfl; have y4 := (cell_of hhv2 4).trans rfl; have y5 := (cell_of hhv2 5).trans rfl; have y6 := (cell_of hhv2 6).trans rfl; go_simp⟩) hS8 ?_
   go_frame
   refine rd1 2 rfl (fun K hK => ?_)
   go_simp
   refine (specObjOk_k x _ _ _ _ ((HSH.out _ hb8).kept.read HMx.out) (HZ.out.kv HKS.out HMx.out)).mono ?_
   rintro e w9 ⟨uo, rfl, huo, bw⟩
   have hb9 := hbt hb8 bw
   have HM9 := hsz bw
   have B1_9 := hblk B1_8 bw
   have B2_9 := hblk B2_8 bw
   clear hb8 bw
   have hS9 := And.intro B2_9.out (And.intro B1_9.out (HEL3.out _ hb9))
   refine hK.out _ _ hS9 (fun _ => ?_)
   clear hK K hS8
   cases uo
   ·have HNuo : Hid (¬ (ObjK x)) := fun h => nomatch huo.2 h
    clear huo
    refine tkP 3 (.bool true) 58 rfl rfl hS9 (tkP 4 (.bool true) 59 rfl rfl hS9 (tkN 5 60 rfl rfl hS9 ?_))
    go_frame
    refine tkN 6 61 rfl rfl hS9 (tkN 7 62 rfl rfl hS9 (tkN 8 63 rfl rfl hS9 ?_))
    go_frame
    refine tkP 9 (.bool true) 64 rfl rfl hS9 (tkP 10 (.bool true) 65 rfl rfl hS9 (tkN 11 66 rfl rfl hS9 ?_))
    go_frame
    refine tkN 12 67 rfl rfl hS9 (tkN 13 68 rfl rfl hS9 (tkN 14 69 rfl rfl hS9 ?_))
    go_frame
    refine tkN 15 70 rfl rfl hS9 (tkN 16 71 rfl rfl hS9 (tkN 17 72 rfl rfl hS9 ?_))
    go_frame
    refine tkP 18 (.bool true) 73 rfl rfl hS9 (tkP 19 (.bool true) 74 rfl rfl hS9 (tkN 20 75 rfl rfl hS9 ?_))
    go_frame
    refine tkN 21 76 rfl rfl hS9 (tkN 22 77 rfl rfl hS9 (tkN 23 78 rfl rfl hS9 ?_))
    go_frame
    refine tkN 24 79 rfl rfl hS9 (tkN 25 80 rfl rfl hS9 (tkN 26 81 rfl rfl hS9 ?_))
    go_frame
    refine tkN 27 82 rfl rfl hS9 (tkN 28 83 rfl rfl hS9 (tkN 29 84 rfl rfl hS9 ?_))
    go_frame
    refine tkN 30 85 rfl rfl hS9 (tkN 31 86 rfl rfl hS9 (tkN 32 87 rfl rfl hS9 ?_))
    go_frame
    refine tkN 33 88 rfl rfl hS9 (tkP 34 (.bool true) 89 rfl rfl hS9 ?_)
    go_frame
    clear hS9
    refine wdn ?_
    go_wp2_with fail
    go_ret
    exact BoolIs.no (fun h => by have hk := h.2.2.2.2.2 i (by rw [← HKS.out, List.length_map, HLN.out.2.2.1]; omega); unfold KpOk at hk; rw [HEx.out] at hk; exact HNuo.out hk.1) hb9
   have HYuo : Hid (ObjK x) := huo.1 rfl
   clear huo
   refine tkP 3 (.bool false) 58 rfl rfl hS9 (tkP 4 (.bool false) 59 rfl rfl hS9 (tkP 5 (.pointer (some ⟨q2, 7, none⟩)) 60 rfl rfl hS9 ?_))
   go_frame
   refine tkL 6 (.int .i64 x.a) 61 rfl rfl (Or.inl ⟨by rfl, by intro W hW; obtain ⟨hhv2, hhv1, hhE_3⟩ := hW; have y7 := (cell_of hhv2 7).trans rfl; go_simp⟩) hS9 ?_
   go_frame
   refine rd1 7 rfl (fun K hK => ?_)
   go_simp
   refine (l1In_any x.a 5 19 _).mono ?_
   rintro e w10 ⟨rfl, hwe⟩
   have bw : Below w9.heap.size (w9) w10 := by rw [hwe]; exact Below.refl _ _
   clear hwe
   obtain ⟨uka, huka⟩ : ∃ u, u = decide ((5 : Int) ≤ x.a ∧ x.a ≤ 19) := ⟨_, rfl⟩
   rw [← huka]
   have hb10 := hbt hb9 bw
   have HM10 := hsz bw
   have B1_10 := hblk B1_9 bw
   have B2_10 := hblk B2_9 bw
   clear hb9 bw
   have hS10 := And.intro B2_10.out (And.intro B1_10.out (HEL3.out _ hb10))
   refine hK.out _ _ hS10 (fun _ => ?_)
   clear hK K hS9
   cases uka
   ·have HNuka : Hid (¬ (5 ≤ x.a ∧ x.a ≤ 19)) := (show ¬ (5 ≤ x.a ∧ x.a ≤ 19) from of_decide_eq_false huka.symm)
    clear huka
    refine tkP 8 (.bool true) 63 rfl rfl hS10 (tkP 9 (.bool true) 64 rfl rfl hS10 (tkP 10 (.bool true) 65 rfl rfl hS10 ?_))
    go_frame
    refine tkN 11 66 rfl rfl hS10 (tkN 12 67 rfl rfl hS10 (tkN 13 68 rfl rfl hS10 ?_))
    go_frame
    refine tkN 14 69 rfl rfl hS10 (tkN 15 70 rfl rfl hS10 (tkN 16 71 rfl rfl hS10 ?_))
    go_frame
    refine tkN 17 72 rfl rfl hS10 (tkP 18 (.bool true) 73 rfl rfl hS10 (tkP 19 (.bool true) 74 rfl rfl hS10 ?_))
    go_frame
    refine tkN 20 75 rfl rfl hS10 (tkN 21 76 rfl rfl hS10 (tkN 22 77 rfl rfl hS10 ?_))
    go_frame
    refine tkN 23 78 rfl rfl hS10 (tkN 24 79 rfl rfl hS10 (tkN 25 80 rfl rfl hS10 ?_))
    go_frame
    refine tkN 26 81 rfl rfl hS10 (tkN 27 82 rfl rfl hS10 (tkN 28 83 rfl rfl hS10 ?_))
    go_frame
    refine tkN 29 84 rfl rfl hS10 (tkN 30 85 rfl rfl hS10 (tkN 31 86 rfl rfl hS10 ?_))
    go_frame
    refine tkN 32 87 rfl rfl hS10 (tkN 33 88 rfl rfl hS10 (tkP 34 (.bool true) 89 rfl rfl hS10 ?_))
    go_frame
    clear hS10
    refine wdn ?_
    go_wp2_with fail
    go_ret
    exact BoolIs.no (fun h => by have hk := h.2.2.2.2.2 i (by rw [← HKS.out, List.length_map, HLN.out.2.2.1]; omega); unfold KpOk at hk; rw [HEx.out] at hk; exact HNuka.out hk.2.1) hb10
   have HYuka : Hid (5 ≤ x.a ∧ x.a ≤ 19) := (show (5 ≤ x.a ∧ x.a ≤ 19) from of_decide_eq_true huka.symm)
   clear huka
   refine tkP 8 (.bool false) 63 rfl rfl hS10 (tkP 9 (.bool false) 64 rfl rfl hS10 (tkP 10 (.bool false) 65 rfl rfl hS10 ?_))
   go_frame
   refine tkP 11 (.pointer (some ⟨q2, 8, none⟩)) 66 rfl rfl hS10 ?_
   go_frame
   refine tkL 12 (.int .i64 x.q) 67 rfl rfl (Or.inl ⟨by rfl, by intro W hW; obtain ⟨hhv2, hhv1, hhE_3⟩ := hW; have y8 := (cell_of hhv2 8).trans rfl; go_simp⟩) hS10 ?_
   go_frame
   refine tkP 13 (.pointer (some ⟨q1, 5, none⟩)) 68 rfl rfl hS10 ?_
   go_frame
   refine tkL 14 (.int .i64 s.sq) 69 rfl rfl (Or.inl ⟨by rfl, by intro W hW; obtain ⟨hhv2, hhv1, hhE_3⟩ := hW; have y5 := (cell_of hhv1 5).trans rfl; go_simp⟩) hS10 ?_
   go_frame
   refine tkP 15 (.int .i64 (s.sq - 1)) 70 rfl rfl hS10 ?_
   go_frame
   refine rd1 16 rfl (fun K hK => ?_)
   go_simp
   refine (l1In_any x.q 1 (s.sq - 1) _).mono ?_
   rintro e w11 ⟨rfl, hwe⟩
   have bw : Below w10.heap.size (w10) w11 := by rw [hwe]; exact Below.refl _ _
   clear hwe
   obtain ⟨ukq, hukq⟩ : ∃ u, u = decide ((1 : Int) ≤ x.q ∧ x.q ≤ (s.sq - 1)) := ⟨_, rfl⟩
   rw [← hukq]
   have hb11 := hbt hb10 bw
   have HM11 := hsz bw
   have B1_11 := hblk B1_10 bw
   have B2_11 := hblk B2_10 bw
   clear hb10 bw
   have hS11 := And.intro B2_11.out (And.intro B1_11.out (HEL3.out _ hb11))
   refine hK.out _ _ hS11 (fun _ => ?_)
   clear hK K hS10
   cases ukq
   ·have HNukq : Hid (¬ (1 ≤ x.q ∧ x.q ≤ (s.sq - 1))) := (show ¬ (1 ≤ x.q ∧ x.q ≤ (s.sq - 1)) from of_decide_eq_false hukq.symm)
    clear hukq
    refine tkP 17 (.bool true) 72 rfl rfl hS11 (tkP 18 (.bool true) 73 rfl rfl hS11 (tkP 19 (.bool true) 74 rfl rfl hS11 ?_))
    go_frame
    refine tkN 20 75 rfl rfl hS11 (tkN 21 76 rfl rfl hS11 (tkN 22 77 rfl rfl hS11 ?_))
    go_frame
    refine tkN 23 78 rfl rfl hS11 (tkN 24 79 rfl rfl hS11 (tkN 25 80 rfl rfl hS11 ?_))
    go_frame
    refine tkN 26 81 rfl rfl hS11 (tkN 27 82 rfl rfl hS11 (tkN 28 83 rfl rfl hS11 ?_))
    go_frame
    refine tkN 29 84 rfl rfl hS11 (tkN 30 85 rfl rfl hS11 (tkN 31 86 rfl rfl hS11 ?_))
    go_frame
    refine tkN 32 87 rfl rfl hS11 (tkN 33 88 rfl rfl hS11 (tkP 34 (.bool true) 89 rfl rfl hS11 ?_))
    go_frame
    clear hS11
    refine wdn ?_
    go_wp2_with fail
    go_ret
    exact BoolIs.no (fun h => by have hk := h.2.2.2.2.2 i (by rw [← HKS.out, List.length_map, HLN.out.2.2.1]; omega); unfold KpOk at hk; rw [HEx.out] at hk; exact HNukq.out hk.2.2.1) hb11
   have HYukq : Hid (1 ≤ x.q ∧ x.q ≤ (s.sq - 1)) := (show (1 ≤ x.q ∧ x.q ≤ (s.sq - 1)) from of_decide_eq_true hukq.symm)
   clear hukq
   refine tkP 17 (.bool false) 72 rfl rfl hS11 (tkP 18 (.bool false) 73 rfl rfl hS11 (tkP 19 (.bool false) 74 rfl rfl hS11 ?_))
   go_frame
   refine tkP 20 (.int .i64 (i : Int)) 75 rfl rfl hS11 (tkP 21 (.bool true) 76 rfl rfl hS11 (tkP 22 (.bool true) 77 rfl rfl hS11 ?_))
   go_frame
   refine tkP 23 (.pointer (some ⟨q1, 2, none⟩)) 78 rfl rfl hS11 ?_
   go_frame
   refine tkL 24 (.slice (some ⟨g3, 0, none⟩) n3 c3) 79 rfl rfl (Or.inl ⟨by rfl, by intro W hW; obtain ⟨hhv2, hhv1, hhE_3⟩ := hW; have y2 := (cell_of hhv1 2).trans rfl; go_simp⟩) hS11 ?_
   go_frame
   refine tkP 25 (.int .i64 (i : Int)) 80 rfl rfl hS11 (tkP 26 (.int .i64 (m : Int)) 81 rfl rfl hS11 (tkP 27 (.pointer (some ⟨g3, m * 9, none⟩)) 82 rfl rfl hS11 ?_))
   go_frame
   refine tkP 28 (.pointer (some ⟨g3, m * 9 + 8, none⟩)) 83 rfl rfl hS11 ?_
   go_frame
   refine tkL 29 (.int .i64 z.q) 84 rfl rfl (Or.inl ⟨by rfl, by intro W hW; obtain ⟨hhv2, hhv1, hhE_3⟩ := hW; have y8 := hhE_3.2.2.2.2.2.2.2.2; go_simp⟩) hS11 ?_
   go_frame
   refine tkP 30 (.pointer (some ⟨q2, 8, none⟩)) 85 rfl rfl hS11 ?_
   go_frame
   refine tkL 31 (.int .i64 x.q) 86 rfl rfl (Or.inl ⟨by rfl, by intro W hW; obtain ⟨hhv2, hhv1, hhE_3⟩ := hW; have y8 := (cell_of hhv2 8).trans rfl; go_simp⟩) hS11 ?_
   go_frame
   by_cases hc2 : x.q ≤ z.q
   ·have HAS : Hid (¬ z.q < x.q) := (by have := hc2; show ¬ _; omega)
    refine tkP 32 (.bool true) 87 rfl rfl hS11 (tkP 33 (.bool true) 88 rfl rfl hS11 (tkP 34 (.bool true) 89 rfl rfl hS11 ?_))
    go_frame
    clear hS11
    refine wdn ?_
    go_wp2_with fail
    go_ret
    exact BoolIs.no (fun h => by have hk := h.2.2.2.2.2 i (by rw [← HKS.out, List.length_map, HLN.out.2.2.1]; omega); unfold KpOk at hk; rw [HEx.out] at hk; have h2 := hk.2.2.2.1 (by omega); rw [HIM.out, Nat.add_sub_cancel, HEz.out] at h2; have h3 := HAS.out; omega) hb11
   have HAS : Hid (z.q < x.q) := (by have := hc2; show _ < _; omega)
   refine tkP 32 (.bool false) 87 rfl rfl hS11 (tkP 33 (.bool false) 88 rfl rfl hS11 (tkP 34 (.bool false) 89 rfl rfl hS11 ?_))
   go_frame
   clear hS11
   refine wdn ?_
   go_wp2_with fail
   have HASC : Hid (0 < i → (kpAt s.ks (i - 1)).q < x.q) := fun _ => by rw [HIM.out, Nat.add_sub_cancel, HEz.out]; exact HAS.out
   clear HAS
   obtain ⟨wB, hwB⟩ := exq w11
   rw [← hwB] at hb11 B1_11 B2_11 ⊢
   clear hwB
   go_loopw [6] (fun i0 wr => ∃ j : Nat, j ≤ i ∧ i0 = .int .i64 (j : Int) ∧ Hid (Below w.heap.size w (wr) ∧ wr.heap[q1]? = some (.cells #[.slice o1 n1 c1, .slice o2 n2 c2, .slice (some ⟨g3, 0, none⟩) n3 c3, .slice o4 n4 c4, .int .i64 s.nx, .int .i64 s.sq] 43) ∧ wr.heap[q2]? = some (.cells #[.string x.p, .slice ku1 x.xs.length kc1, .slice ku2 x.ys.length kc2, .int .i64 x.st, .slice ku3 x.fs.length kc3, .string x.b, .int .i64 x.t, .int .i64 x.a, .int .i64 x.q] 145)) ∧ Hid (∀ m, m < j → (kpAt s.ks m).a ≠ x.a)) (fun i0 _ => i - (intOf i0).toNat)
   case atStart => exact ⟨0, Nat.zero_le _, rfl, ⟨hb11, B1_11.out, B2_11.out⟩, fun m hm => absurd hm (by omega)⟩
   case round =>
    obtain ⟨j, hj, rfl, HW, HJ⟩ := hrel
    by_cases hlj : (j : Int) < (i : Int)
    rotate_left
    ·have hb12 := HW.out.1
     have B1_12 := hid HW.out.2.1
     have B2_12 := hid HW.out.2.2
     clear HW hb11
     have HTWS : Hid (∀ m, m < i → (kpAt s.ks m).a ≠ x.a) := fun m hm => HJ.out m (by omega)
     clear HJ
     have HN2 : Hid (∀ m, m < i + 1 → KpOk s.ks s.sq m) := fun m hm => by
      by_cases e : m = i
      ·subst e
       unfold KpOk
       rw [HEx.out]
       exact ⟨HYuo.out, HYuka.out, HYukq.out, HASC.out, HTWS.out⟩
      · exact HN.out m (by omega)
     go_wp2_with fail
     go_roundw
     case rel => exact ⟨i + 1, by omega, by go_num, ⟨hb12, B1_12.out⟩, HN2⟩
     case measure => simp [intOf]; omega
    have hb12 := HW.out.1
    have B1_12 := hid HW.out.2.1
    have B2_12 := hid HW.out.2.2
    clear HW hb11
    obtain ⟨z2X, hz2X⟩ := exq (kvAt kv j)
    have HMz2 : Hid (z2X ∈ kv) := by show _ ∈ _; rw [hz2X]; exact kvAt_mem kv j (by rw [HLK.out]; omega)
    have HEz2 : Hid (kpAt s.ks j = z2X.1) := by show _ = _; rw [hz2X, ← HKS.out]; exact (kvAt_fst kv j (by rw [HLK.out]; omega)).symm
    have HTKz2 : Hid (kv.take (j + 1) = kv.take j ++ [z2X]) := by show _ = _; rw [hz2X]; exact kvAt_take kv j (by rw [HLK.out]; omega)
    have HKz2 : Hid (∀ W, Below w.heap.size w W → KpAt W g3 j z2X) := fun W hb => by
     obtain ⟨g', p', hV, _, hc⟩ := (HKP.out W hb).look j (by rw [HLK.out]; omega)
     injection hV with hV1 _ _
     cases hV1
     rw [hz2X]
     exact hc
    clear hz2X
    obtain ⟨z2, kzv1, kzv2, kzv3⟩ := z2X
    obtain ⟨kz1, kzc1, hu⟩ := slice_of_owns ((HKP.out _ hb12).names HMz2.out)
    have hu' : kzv1 = .slice kz1 z2.xs.length kzc1 := hu
    subst hu'
    clear hu
    obtain ⟨kz2, kzc2, hu⟩ := slice_of_owns ((HKP.out _ hb12).vals HMz2.out)
    have hu' : kzv2 = .slice kz2 z2.ys.length kzc2 := hu
    subst hu'
    clear hu
    obtain ⟨kz3, kzc3, hu⟩ := slice_of_owns ((HKP.out _ hb12).flds HMz2.out)
    have hu' : kzv3 = .slice kz3 z2.fs.length kzc3 := hu
    subst hu'
    clear hu
    have hjn : ¬ n3 ≤ j := by omega
    have HEL3 : Hid (∀ W, Below w.heap.size w W → (W.cell? ⟨g3, j * 9, none⟩ = some (.string z2.p) ∧ W.cell? ⟨g3, j * 9 + 1, none⟩ = some (.slice kz1 z2.xs.length kzc1) ∧ W.cell? ⟨g3, j * 9 + 2, none⟩ = some (.slice kz2 z2.ys.length kzc2) ∧ W.cell? ⟨g3, j * 9 + 3, none⟩ = some (.int .i64 z2.st) ∧ W.cell? ⟨g3, j * 9 + 4, none⟩ = some (.slice kz3 z2.fs.length kzc3) ∧ W.cell? ⟨g3, j * 9 + 5, none⟩ = some (.string z2.b) ∧ W.cell? ⟨g3, j * 9 + 6, none⟩ = some (.int .i64 z2.t) ∧ W.cell? ⟨g3, j * 9 + 7, none⟩ = some (.int .i64 z2.a) ∧ W.cell? ⟨g3, j * 9 + 8, none⟩ = some (.int .i64 z2.q))) := fun W hb => by
     have c := HKz2.out W hb
     exact ⟨c.c0, c.c1, c.c2, c.c3, c.c4, c.c5, c.c6, c.c7, c.c8⟩
    go_upto_region 17 with fail
    refine wp_region_held_drew (S := fun W => W.heap[q1]? = some (.cells #[.slice o1 n1 c1, .slice o2 n2 c2, .slice (some ⟨g3, 0, none⟩) n3 c3, .slice o4 n4 c4, .int .i64 s.nx, .int .i64 s.sq] 43) ∧ (W.cell? ⟨g3, j * 9, none⟩ = some (.string z2.p) ∧ W.cell? ⟨g3, j * 9 + 1, none⟩ = some (.slice kz1 z2.xs.length kzc1) ∧ W.cell? ⟨g3, j * 9 + 2, none⟩ = some (.slice kz2 z2.ys.length kzc2) ∧ W.cell? ⟨g3, j * 9 + 3, none⟩ = some (.int .i64 z2.st) ∧ W.cell? ⟨g3, j * 9 + 4, none⟩ = some (.slice kz3 z2.fs.length kzc3) ∧ W.cell? ⟨g3, j * 9 + 5, none⟩ = some (.string z2.b) ∧ W.cell? ⟨g3, j * 9 + 6, none⟩ = some (.int .i64 z2.t) ∧ W.cell? ⟨g3, j * 9 + 7, none⟩ = some (.int .i64 z2.a) ∧ W.cell? ⟨g3, j * 9 + 8, none⟩ = some (.int .i64 z2.q)) ∧ W.heap[q2]? = some (.cells #[.string x.p, .slice ku1 x.xs.length kc1, .slice ku2 x.ys.length kc2, .int .i64 x.st, .slice ku3 x.fs.length kc3, .string x.b, .int .i64 x.t, .int .i64 x.a, .int .i64 x.q] 145)) (by kernel_rfl) ⟨B1_12.out, (by first | exact HEL3.out _ hb12 | exact HEL3.out _ hb12.drew), B2_12.out⟩ (fun _ => ?_)
    obtain ⟨w13, hX⟩ := exq wr.drew
    have bw := bdr hX
    rw [← hX]
    have hb13 := hbt hb12 bw
    have B1_13 := hblk B1_12 bw
    have B2_13 := hblk B2_12 bw
    have hS13 : w13.heap[q1]? = some (.cells #[.slice o1 n1 c1, .slice o2 n2 c2, .slice (some ⟨g3, 0, none⟩) n3 c3, .slice o4 n4 c4, .int .i64 s.nx, .int .i64 s.sq] 43) ∧ (w13.cell? ⟨g3, j * 9, none⟩ = some (.string z2.p) ∧ w13.cell? ⟨g3, j * 9 + 1, none⟩ = some (.slice kz1 z2.xs.length kzc1) ∧ w13.cell? ⟨g3, j * 9 + 2, none⟩ = some (.slice kz2 z2.ys.length kzc2) ∧ w13.cell? ⟨g3, j * 9 + 3, none⟩ = some (.int .i64 z2.st) ∧ w13.cell? ⟨g3, j * 9 + 4, none⟩ = some (.slice kz3 z2.fs.length kzc3) ∧ w13.cell? ⟨g3, j * 9 + 5, none⟩ = some (.string z2.b) ∧ w13.cell? ⟨g3, j * 9 + 6, none⟩ = some (.int .i64 z2.t) ∧ w13.cell? ⟨g3, j * 9 + 7, none⟩ = some (.int .i64 z2.a) ∧ w13.cell? ⟨g3, j * 9 + 8, none⟩ = some (.int .i64 z2.q)) ∧ w13.heap[q2]? = some (.cells #[.string x.p, .slice ku1 x.xs.length kc1, .slice ku2 x.ys.length kc2, .int .i64 x.st, .slice ku3 x.fs.length kc3, .string x.b, .int .i64 x.t, .int .i64 x.a, .int .i64 x.q] 145) := ⟨B1_13.out, (by first | exact HEL3.out _ hb13 | exact HEL3.out _ hb13.drew), B2_13.out⟩
    clear hb12 bw hX
    refine tkP 0 (.pointer (some ⟨q1, 2, none⟩)) 95 rfl rfl hS13 ?_
    go_frame
    refine tkL 1 (.slice (some ⟨g3, 0, none⟩) n3 c3) 96 rfl rfl (Or.inl ⟨by rfl, by intro W hW; obtain ⟨hhv1, hhE_3, hhv2⟩ := hW; have y2 := (cell_of hhv1 2).trans rfl; go_simp⟩) hS13 ?_
    go_frame
    refine tkP 2 (.int .i64 (j : Int)) 97 rfl rfl hS13 (tkP 3 (.pointer (some ⟨g3, j * 9, none⟩)) 98 rfl rfl hS13 (tkP 4 (.pointer (some ⟨g3, j * 9 + 7, none⟩)) 99 rfl rfl hS13 ?_))
    go_frame
    refine tkL 5 (.int .i64 z2.a) 100 rfl rfl (Or.inl ⟨by rfl, by intro W hW; obtain ⟨hhv1, hhE_3, hhv2⟩ := hW; have y7 := hhE_3.2.2.2.2.2.2.2.1; go_simp⟩) hS13 ?_
    go_frame
    refine tkP 6 (.pointer (some ⟨q2, 7, none⟩)) 101 rfl rfl hS13 ?_
    go_frame
    refine tkL 7 (.int .i64 x.a) 102 rfl rfl (Or.inl ⟨by rfl, by intro W hW; obtain ⟨hhv1, hhE_3, hhv2⟩ := hW; have y7 := (cell_of hhv2 7).trans rfl; go_simp⟩) hS13 ?_
    go_frame
    by_cases hc3 : z2.a = x.a
    ·have hc3b : ((z2.a : Int) == (x.a : Int)) = true := by simpa using hc3
     have hc3n : ((z2.a : Int) != (x.a : Int)) = false := by simpa using hc3
     have HTW := hid hc3
     have hc3H := hid hc3
     clear hc3
     refine tkP 8 (.bool true) 103 rfl rfl hS13 ?_
     go_frame
     clear hS13
     refine wdn ?_
     go_wp2_with fail
     go_ret
     exact BoolIs.no (fun h => by have hk := h.2.2.2.2.2 i (by rw [← HKS.out, List.length_map, HLN.out.2.2.1]; omega); unfold KpOk at hk; rw [HEx.out] at hk; exact hk.2.2.2.2 j (by omega) (by rw [HEz2.out]; exact HTW.out)) hb13
    have hc3b : ((z2.a : Int) == (x.a : Int)) = false := by simpa using hc3
    have hc3n : ((z2.a : Int) != (x.a : Int)) = true := by simpa using hc3
    have HTW := hid hc3
    have hc3H := hid hc3
    clear hc3
    refine tkP 8 (.bool false) 103 rfl rfl hS13 ?_
    go_frame
    clear hS13
    refine wdn ?_
    have HJ2 : Hid (∀ m, m < j + 1 → (kpAt s.ks m).a ≠ x.a) := fun m hm => by
     by_cases e : m = j
     ·subst e
      rw [HEz2.out]
      exact HTW.out
     · exact HJ.out m (by omega)
    go_wp2_with fail
    go_roundw
    case rel => exact ⟨j + 1, by omega, by go_num, ⟨hb13, B1_13.out, B2_13.out⟩, HJ2⟩
    case measure => simp [intOf]; omega
structure CaSmall (y : CaD) : Prop where
 s : ShSmall y.s
 fl : ∀ k ∈ y.fl, FlSmall k
 se : ∀ k ∈ y.se, SeSmall k
 sn : ∀ k ∈ y.sn, RpSmall k
 nf : y.fl.length ≤ 1048576
 ne : y.se.length ≤ 1048576
 nr : y.sn.length ≤ 1048576
theorem fs_get {fs : Fs} (h : szTo fs fs.length ≤ 1048576) (x : Tx) : (getV fs x).size ≤ 1048576 := by
 unfold getV
 split
 ·rename_i hx
  have := szTo_get fs fs.length (atF fs x) hx
  omega
 · decide
theorem fs_copy {fs : Fs} (h : szTo fs fs.length ≤ 1048576) : CopyF fs := fun i hi => by
 have := szTo_get fs fs.length i hi
 omega
theorem fs_walk {fs : Fs} (h : szTo fs fs.length ≤ 1048576) : WalkF fs.length fs := fun i hi => by
 have := szTo_get fs fs.length i hi
 unfold maxLen
 omega
theorem timeOk_any (t : Int) (w : World) :
  Calls Tryz.prog 95 #[.int .i64 t] w fun e w' => e = .returned (.bool (decide ((0 : Int) ≤ t ∧ t ≤ 1000000))) ∧ w' = w := by
 obtain ⟨D, hD⟩ : ∃ D, D = decide ((0 : Int) ≤ t ∧ t ≤ 1000000) := ⟨_, rfl⟩
 rw [← hD]
 by_cases h1 : 0 ≤ t
 rotate_left
 ·have HD : Hid (D = false) := by show _ = _; rw [hD]; exact decide_eq_false (fun h => h1 h.1)
  clear hD
  go_enter Tryz.func95, Tryz.ntmps95
  go_wp2
  go_ret
  exact ⟨by rw [HD.out]; rfl, rfl⟩
 by_cases h2 : t ≤ 1000000
 ·have HD : Hid (D = true) := by show _ = _; rw [hD]; exact decide_eq_true ⟨h1, h2⟩
  clear hD
  go_enter Tryz.func95, Tryz.ntmps95
  go_wp2
  go_ret
  exact ⟨by rw [HD.out]; rfl, rfl⟩
 have HD : Hid (D = false) := by show _ = _; rw [hD]; exact decide_eq_false (fun h => h2 h.2)
 clear hD
 go_enter Tryz.func95, Tryz.ntmps95
 go_wp2
 go_ret
 exact ⟨by rw [HD.out]; rfl, rfl⟩
theorem valuesOk_any (oa : Oa) (m cm : Nat) (xs : Ts) (w : World) (hx : TextsA w oa m xs) (hm : m ≤ 2000000) (hsz : ∀ i, i < m → (textAt xs i).size ≤ maxLen) :
  Calls Tryz.prog 178 #[.slice oa m cm] w fun e w' => BoolIs (∀ y ∈ xs, ValOk y) w e w' := by
 have HV : Hid (∀ W, Below w.heap.size w W → TextsA W oa m xs) := fun W h => hx.below h
 have HL : Hid (xs.length = m) := hx.1
 have HS := hid hsz
 clear hx hsz
 go_enter Tryz.func178, Tryz.ntmps178
 go_wp2
 go_loopw [7] (fun i wr => ∃ j : Nat, j ≤ m ∧ i = .int .i64 (j : Int) ∧ Hid (Below w.heap.size w wr) ∧ Hid (∀ x ∈ xs.take j, ValOk x)) (fun i _ => m - (intOf i).toNat)
 case atStart => exact ⟨0, Nat.zero_le _, rfl, Below.refl _ _, fun x hx => by simp at hx⟩
 case round =>
  obtain ⟨j, hj, rfl, HW, HN⟩ := hrel
  by_cases hlt : (j : Int) < (m : Int)
  rotate_left
  ·have HA : Hid (∀ y ∈ xs, ValOk y) := by
    have h := HN.out
    rw [List.take_of_length_le (by rw [HL.out]; omega)] at h
    exact h
   clear HN
   go_wp2_with fail
   go_ret
   exact ⟨true, rfl, ⟨fun _ => HA.out, fun _ => rfl⟩, HW.out⟩
  have hjx : j < xs.length := by rw [HL.out]; omega
  obtain ⟨g, hog, hg, hc⟩ := (HV.out wr HW.out).2 j (by omega)
  subst hog
  have hs := HS.out j (by omega)
  obtain ⟨x, hxx⟩ := exq (textAt xs j)
  rw [← hxx] at hc hs
  have HM : Hid (x ∈ xs) := by show _ ∈ _; rw [hxx]; exact textAt_mem xs j hjx
  have HTK : Hid (xs.take (j + 1) = xs.take j ++ [x]) := by show _ = _; rw [take_textAt xs j hjx, hxx]
  clear hxx hjx
  go_wp2_with fail
  refine (implValueOk_any x _ hs).mono ?_
  rintro e w90 ⟨tx, rfl, htx, bw⟩
  have HW2 : Hid (Below w.heap.size w w90) := HW.out.trans (bw.mono HW.out.size)
  clear bw hc HW
  cases tx
  ·have HF : Hid (¬ ∀ y ∈ xs, ValOk y) := fun h => nomatch htx.2 (h x HM.out)
   clear htx HN
   go_wp2_with fail
   go_ret
   exact BoolIs.no HF.out HW2.out
  have HN2 : Hid (∀ y ∈ xs.take (j + 1), ValOk y) := by
   intro y hy
   rw [HTK.out] at hy
   rcases List.mem_append.1 hy with hy | hy
   · exact HN.out y hy
   · rw [List.mem_singleton.1 hy]; exact htx.1 rfl
  clear htx HN
  go_wp2_with fail
  go_roundw
  case rel => exact ⟨j + 1, by omega, by go_num, HW2, HN2⟩
  case measure => simp [intOf]; omega
theorem equalT_any (oa ob : Oa) (m cm k ck : Nat) (xs ys : Ts) (w : World) (hx : TextsA w oa m xs) (hm : m ≤ 2000000) (hy : TextsA w ob k ys) (hk : k ≤ 2000000) :
  Calls Tryz.prog 175 #[.slice oa m cm, .slice ob k ck] w fun e w' => e = .returned (.bool (decide (xs = ys))) ∧ Below w.heap.size w w' := by
 by_cases hmk : m = k
 rotate_left
 ·refine (Tryz.slices_Equal_string_lens oa ob m cm k ck w hmk).mono ?_
  rintro e w1 ⟨rfl, rfl⟩
  refine ⟨?_, Below.refl _ _⟩
  rw [decide_eq_false (fun h => hmk (by rw [← hx.1, ← hy.1, h]))]
 subst hmk
 by_cases h0 : m = 0
 ·subst h0
  refine (Tryz.slices_Equal_string_empty oa ob cm 0 ck w (by omega)).mono ?_
  rintro e w1 ⟨rfl, rfl⟩
  refine ⟨?_, Below.refl _ _⟩
  rw [List.length_eq_zero_iff.1 hx.1, List.length_eq_zero_iff.1 hy.1]
  simp
 obtain ⟨g, rfl, _, _⟩ := hx.2 0 (by omega)
 obtain ⟨q, rfl, _, _⟩ := hy.2 0 (by omega)
 refine (Tryz.slices_Equal_string g 0 m cm q 0 m ck xs ys w (by rw [hx.1]; exact Nat.le_refl _) (by rw [hy.1]; exact Nat.le_refl _) (by omega) (by omega) (fun j hj => ?_) (fun j hj => ?_)).mono ?_
 ·obtain ⟨g2, e2, _, h3⟩ := hx.2 j (by rw [← hx.1]; exact hj)
  cases e2
  rw [Nat.zero_add]
  exact h3
 ·obtain ⟨g2, e2, _, h3⟩ := hy.2 j (by rw [← hy.1]; exact hj)
  cases e2
  rw [Nat.zero_add]
  exact h3
 ·rintro e w1 ⟨rfl, n, rfl⟩
  refine ⟨?_, ⟨rfl, rfl, rfl, Nat.le_refl _, fun _ _ => rfl⟩⟩
  rw [List.take_of_length_le (by rw [hx.1]; exact Nat.le_refl _), List.take_of_length_le (by rw [hy.1]; exact Nat.le_refl _)]
attribute [local go_sem] Oper.semAt_some
theorem valueOf_any (x : Tx) (v : Value) (n base : Nat) (fs : Fs) (w : World) (hv : FieldsV w base v n fs) (hn : n ≤ 1073741824) (hcp : CopyF fs) :
  Calls Tryz.prog 160 #[.string x, v] w fun e w' => e = .returned (.string (valOf fs x)) ∧ Below w.heap.size w w' := by
 obtain ⟨y, hy⟩ := exq (valOf fs x)
 rw [← hy]
 go_enter Tryz.func160, Tryz.ntmps160
 go_wp2_with fail
 refine (implGet_any v n base fs x _ hv hn hcp).mono ?_
 rintro e w2 ⟨rfl, b2⟩
 obtain ⟨s, hs⟩ := exq (getV fs x)
 obtain ⟨th, hth⟩ := exq (getB fs x)
 rw [← hs, ← hth]
 have HY : Hid (y = if th = true then s else dashT) := by show _ = _; rw [hy, hs, hth]; rfl
 clear hs hth hy hv
 cases th with
 | true =>
  have HY2 : Hid (s = y) := by show _ = _; rw [HY.out]; rfl
  rw [HY2.out]
  clear HY HY2
  go_wp2_with fail
  go_ret
  exact ⟨rfl, b2⟩
 | false =>
  have HY2 : Hid (y = ⟨#[45]⟩) := by show _ = _; rw [HY.out]; rfl
  clear HY
  go_wp2_with fail
  go_ret
  exact ⟨by rw [HY2.out]; rfl, b2⟩
theorem toldValues_any (oa : Oa) (m cm : Nat) (oc : Oa) (n cn : Nat) (w : World) :
  Calls Tryz.prog 133 #[.slice oa m cm, .slice oc n cn] w fun e w' =>
   e = .returned (.func (.func 159) #[] #[.pointer (some ⟨w.heap.size, 0, none⟩), .pointer (some ⟨w.heap.size + 1, 0, none⟩)]) ∧
   w' = (w.alloc (.cells #[.slice oa m cm] 22)).alloc (.cells #[.slice oc n cn] 56) := by
 go_enter Tryz.func133, Tryz.ntmps133
 go_wp2_with fail
 go_ret
 exact ⟨rfl, rfl⟩
def toldV (xs : Ts) (fs : Fs) (m : Nat) (j : Fin m) : Array Value := #[.int .i64 ((j.1 : Nat) : Int), .string (valOf fs (textAt xs j.1))]
theorem fin_take (m k : Nat) (h : k < m) : (List.finRange m).take (k + 1) = (List.finRange m).take k ++ [⟨k, h⟩] := by
 rw [List.take_add_one, List.getElem?_eq_getElem (by simpa using h), List.getElem_finRange]
 rfl
theorem fin_take_len (m k : Nat) (h : k ≤ m) : ((List.finRange m).take k).length = k := by simp [h]
def KeepL (n₀ b : Nat) (W W' : World) : Prop := Below n₀ W W' ∧ W'.heap[b]? = W.heap[b]?
theorem KeepL.trans {n₀ b : Nat} {A B C : World} (h : KeepL n₀ b A B) (k : KeepL n₀ b B C) : KeepL n₀ b A C := ⟨h.1.trans k.1, k.2.trans h.2⟩
theorem keepL_b {n₀ b : Nat} {w : World} (hn : n₀ ≤ w.heap.size) (hb : b < w.heap.size) (W : World) (l : Nat) (o o' : Obj) (hl : w.heap.size ≤ l) (h : W.heap[l]? = some o) (h1 : o.isCells = false) (h2 : o.isWalk = false) : KeepL n₀ b W (W.putObj l o') :=
 ⟨belowK_b hn W l o o' hl h h1 h2, World.putObj_heap_other (by omega)⟩
theorem told1_in (nn : Nat) (hnn : 1 ≤ nn) (l Bs Bf n₀ : Nat) (oa : Oa) (m cm : Nat) (xs : Ts) (v : Value) (n base : Nat) (fs : Fs) (w0 W : World)
  (hm : m ≤ 1048577) (hn : n ≤ 1073741824) (hcp : CopyF fs) (hn₀ : n₀ ≤ W.heap.size)
  (hX : ∀ W', Below n₀ w0 W' → TextsA W' oa m xs) (hV : ∀ W', Below n₀ w0 W' → FieldsV W' base v n fs)
  (hW : Below n₀ w0 W) (hBs : W.cell? ⟨Bs, 0, none⟩ = some (.slice oa m cm)) (hBf : Boxed W Bf 56 v)
  (J Jx : List (Fin m) → World → Prop) (hJ : AbidesFrom W.heap.size J)
  (hY : ∀ pre x W1, J pre W1 → pre.length < m → YieldAt Fence.wide (nn - 1) Tryz.prog l (toldV xs fs m x) W1 fun e W' =>
   (e = .returned (.bool true) ∧ J (pre ++ [x]) W' ∧ KeepL n₀ Bf W1 W') ∨ (e = .returned (.bool false) ∧ Jx (pre ++ [x]) W'))
  (h0 : J [] W) :
  CallsIn Fence.wide nn Tryz.prog 159 #[.func (.yield l) #[] #[], .pointer (some ⟨Bs, 0, none⟩), .pointer (some ⟨Bf, 0, none⟩)] W fun e W' => (∃ u, e = .returned u) ∧
   ((∃ ys, ys = List.finRange m ∧ J ys W') ∨ (∃ pre, pre <+: List.finRange m ∧ Jx pre W')) := by
 have HX := hid hX
 have HV := hid hV
 have HLEN : Hid (xs.length = m) := (hX W hW).1
 obtain ⟨oc, cn, hvs, _⟩ := (hV W hW).slice
 subst hvs
 have HW := hid hW
 have HN := hid hn₀
 have HBF := hid hBf
 have HY : Hid (∀ pre x W1, J pre W1 → pre.length < m → YieldAt Fence.wide (nn - 1) Tryz.prog l (toldV xs fs m x) W1 fun e W' =>
   (e = .returned (.bool true) ∧ J (pre ++ [x]) W' ∧ KeepL n₀ Bf W1 W') ∨ (e = .returned (.bool false) ∧ Jx (pre ++ [x]) W')) := hY
 have HJ := hid hJ
 clear hX hV hW hBf hY hJ hn₀
 refine callsIn_of_wp Tryz.func159 rfl trivial ?_ rfl
 simp only [Tryz.ntmps159, List.size_toArray, List.length_cons, List.length_nil, Nat.reduceAdd, Nat.reduceSub, Array.replicate_succ, Array.replicate_zero, List.push_toArray, List.append_toArray, List.nil_append, List.cons_append]
 gi_wp2
 gi_loopw [8] (fun i wr => ∃ k : Nat, k ≤ m ∧ i = .int .i64 (k : Int) ∧ Hid (J ((List.finRange m).take k) wr) ∧ Hid (KeepL n₀ Bf W wr) ∧ W.heap.size ≤ wr.heap.size) (fun i _ => m - (intOf i).toNat)
 case atStart => exact ⟨0, Nat.zero_le _, rfl, h0, ⟨Below.refl _ _, rfl⟩, Nat.le_refl _⟩
 case round =>
  obtain ⟨k, hk, rfl, HJs, HK, hsz⟩ := hrel
  by_cases hlt : (k : Int) < (m : Int)
  ·have hkm : k < m := by omega
   have hB : Below n₀ w0 wr := HW.out.trans HK.out.1
   obtain ⟨g, rfl, hg, hc⟩ := (HX.out wr hB).2 k hkm
   have hbf : wr.cell? ⟨Bf, 0, none⟩ = some (.slice oc n cn) := (show Boxed wr Bf 56 (.slice oc n cn) from HK.out.2.trans HBF.out).cell
   have HBl : Hid (Bf < wr.heap.size) := (show Boxed wr Bf 56 (.slice oc n cn) from HK.out.2.trans HBF.out).lt
   have hval := valueOf_any (textAt xs k) (.slice oc n cn) n base fs wr (HV.out wr hB) hn hcp
   obtain ⟨x, hx⟩ := exq (textAt xs k)
   rw [← hx] at hc hval
   obtain ⟨y, hy⟩ := exq (valOf fs x)
   rw [← hy] at hval
   have HTV : Hid (toldV xs fs m ⟨k, hkm⟩ = #[.int .i64 (k : Int), .string y]) := by show _ = _; rw [hy, hx]; rfl
   clear hx hy hB
   gi_wp2_with fail
   refine ⟨trivial, (callsIn_wide.2 hval).mono ?_⟩
   rintro e w2 ⟨rfl, b2⟩
   have HJ2 : Hid (J ((List.finRange m).take k) w2) := HJ.out _ wr w2 none HJs.out ⟨b2.os, b2.tape, b2.output, b2.size, fun q hq _ => b2.block q hq⟩ (fun r e => by cases e)
   have HK2 : Hid (KeepL n₀ Bf W w2) := by
    refine ⟨HK.out.1.trans (b2.mono ?_), (b2.block Bf HBl.out).trans HK.out.2⟩
    exact Nat.le_trans HN.out hsz
   have hsz2 : W.heap.size ≤ w2.heap.size := Nat.le_trans hsz b2.size
   obtain ⟨fn, tmps, assign, body, hy, hR⟩ := HY.out _ ⟨k, hkm⟩ w2 HJ2.out (by rw [fin_take_len m k hk]; exact hkm)
   rw [HTV.out] at hy
   clear hval HJs HK hsz hc hbf hg b2 HBl
   gi_wp2
   refine hR.mono ?_
   rintro e W3 (⟨rfl, hJ3, hk3⟩ | ⟨rfl, hJx3⟩)
   ·have HJ3 : Hid (J ((List.finRange m).take (k + 1)) W3) := by show J _ _; rw [fin_take m k hkm]; exact hJ3
    have HK3 : Hid (KeepL n₀ Bf W W3) := HK2.out.trans hk3
    have hsz3 : W.heap.size ≤ W3.heap.size := Nat.le_trans hsz2 hk3.1.size
    clear hJ3 hk3 hsz2 HK2 HJ2 hR
    gi_wp2
    go_roundw
    case rel => exact ⟨k + 1, by omega, by go_num, HJ3, HK3, hsz3⟩
    case measure => simp [intOf]; omega
   ·have HJx : Hid (Jx ((List.finRange m).take (k + 1)) W3) := by show Jx _ _; rw [fin_take m k hkm]; exact hJx3
    clear hJx3 HK2 HJ2 hsz2 hR
    gi_wp2
    refine bodyPost_ret (results_none rfl _ _ _) rfl ?_
    exact ⟨⟨_, rfl⟩, .inr ⟨_, List.take_prefix _ _, HJx.out⟩⟩
  ·obtain rfl : k = m := by omega
   gi_wp2
   go_end0
   have hj := HJs.out
   rw [List.take_of_length_le (by simp)] at hj
   exact ⟨⟨_, rfl⟩, .inl hj⟩
theorem told_stops (nn : Nat) (hnn : 1 ≤ nn) (Bs Bf n₀ : Nat) (oa : Oa) (m cm : Nat) (xs : Ts) (v : Value) (n base : Nat) (fs : Fs) (w0 w : World)
  (hm : m ≤ 1048577) (hn : n ≤ 1073741824) (hcp : CopyF fs) (hn₀ : n₀ ≤ w.heap.size)
  (hX : ∀ W', Below n₀ w0 W' → TextsA W' oa m xs) (hV : ∀ W', Below n₀ w0 W' → FieldsV W' base v n fs)
  (hW : Below n₀ w0 w) (hBs : Boxed w Bs 22 (.slice oa m cm)) (hBf : Boxed w Bf 56 v) :
  SeqStopsK Fence.wide nn Tryz.prog 159 #[.pointer (some ⟨Bs, 0, none⟩), .pointer (some ⟨Bf, 0, none⟩)] (toldV xs fs m) (KeepL n₀ Bf) (fun ys => ys = List.finRange m) (fun pre => pre <+: List.finRange m) m w := fun l J Jx W hw hJ _ hY h0 => by
 have hbs : Boxed W Bs 22 (.slice oa m cm) := (hw.block Bs hBs.lt).trans hBs
 have hbf : Boxed W Bf 56 v := (hw.block Bf hBf.lt).trans hBf
 exact told1_in nn hnn l Bs Bf n₀ oa m cm xs v n base fs w0 W hm hn hcp (Nat.le_trans hn₀ hw.size) hX hV (hW.trans (hw.mono hn₀)) hbs.cell hbf J Jx hJ hY h0
attribute [local go_sem] Oper.semAt_some
theorem implVaryOf_any (v : Value) (n base : Nat) (fs : Fs) (w : World) (hv : FieldsV w base v n fs) (hn : n ≤ 1073741824) (hcp : CopyF fs) (hsz : (getV fs varyName).size ≤ 1048576) :
  Calls Tryz.prog 176 #[v] w fun e w' => RowIs w.heap.size (varyP fs) w e w' := by
 obtain ⟨s, hs⟩ := exq (getV fs varyName)
 have HS : Hid (getV fs varyName = s) := hs.symm
 have HE : Hid (varyP fs = (splitL s).map lowerOf) := by show _ = _; unfold varyP; rw [HS.out]
 rw [← hs] at hsz
 have hl1 := (splitL_le s).1
 clear hs
 go_enter Tryz.func176, Tryz.ntmps176
 go_wp2_with fail
 refine (implGet_any v n base fs varyName _ hv hn hcp).mono ?_
 rintro e w1 ⟨rfl, b1⟩
 rw [HS.out]
 clear hv
 go_wp2_with fail
 refine (implSplit_any s _ hsz).mono ?_
 rintro e w2 ⟨V, rfl, O, b2⟩
 obtain ⟨xs, hxs⟩ := exq (splitL s)
 rw [← hxs] at hl1 O HE
 obtain ⟨m, hm⟩ := exq xs.length
 rw [← hm] at hl1 O
 have HM : Hid (xs.length = m) := hm.symm
 have O := owns_base O b1.size
 have b2 : Below w.heap.size w w2 := b1.trans (b2.mono b1.size)
 clear hxs hm b1
 rcases row_form O with ⟨oa, ca, rfl, h0, h1⟩ | ⟨g, cap, rfl, hp, r1⟩
 ·subst h0 h1
  go_wp2_with fail
  refine wp_loop_rounds 1 ?_
  rw [rounds_succ]
  go_wp2_with fail
  go_ret
  exact RowIs.of (by rw [HE.out]; rfl) rfl O b2
 ·clear O
  have HB2 : Hid (Below w.heap.size w w2) := b2
  have HR1 : Hid (TextRow w.heap.size w2 g m cap (loTo xs 0)) := by show TextRow _ _ _ _ _ _; rw [loTo_zero]; exact r1
  clear b2 r1
  go_wp2_with fail
  go_loopw [17] (fun i wr => ∃ j : Nat, j ≤ m ∧ i = .int .i64 (j : Int) ∧ Hid (Below w.heap.size w wr) ∧ Hid (TextRow w.heap.size wr g m cap (loTo xs j))) (fun i _ => m - (intOf i).toNat)
  case atStart => exact ⟨0, Nat.zero_le _, rfl, HB2, HR1⟩
  case round =>
   obtain ⟨j, hj, rfl, HB, HR⟩ := hrel
   by_cases hlt : j < m
   rotate_left
   ·obtain rfl : j = m := by omega
    go_wp2_with fail
    go_ret
    exact RowIs.of (by rw [HE.out, loTo_all xs j (by rw [HM.out]; exact Nat.le_refl _)]) (by rw [loTo_all xs j (by rw [HM.out]; exact Nat.le_refl _), List.length_map, HM.out]) HR.out.owns HB.out
   have hlt2 : (j : Int) < (m : Int) := by omega
   obtain ⟨x, hx⟩ := exq (textAt xs j)
   have hc := HR.out.cell j hlt
   rw [loTo_at, ← hx] at hc
   have HST : Hid ((loTo xs j).set j (lowerOf x) = loTo xs (j + 1)) := by show _ = _; rw [hx]; exact loTo_step xs j (by rw [HM.out]; exact hlt)
   clear hx
   go_wp2_with fail
   refine (implLower_any x _).mono ?_
   rintro e w3 ⟨rfl, hb3⟩
   have hrow := HR.out.below hb3 HR.out.lt
   have hc3 := hrow.cell j hlt
   have hf3 := hrow.frozen j
   have HB3 : Hid (Below w.heap.size w (w3.setCell ⟨g, j, none⟩ (.string (lowerOf x)))) := (HB.out.trans (hb3.mono HB.out.size)).setCell HR.out.base _
   have HR3 : Hid (TextRow w.heap.size (w3.setCell ⟨g, j, none⟩ (.string (lowerOf x))) g m cap (loTo xs (j + 1))) := by
    show TextRow _ _ _ _ _ _
    rw [← HST.out]
    exact hrow.set j hlt _
   clear hb3 hrow HB HR HST hc
   go_wp2_with fail
   go_roundw
   case rel => exact ⟨j + 1, by omega, by go_num, HB3, HR3⟩
   case measure => simp [intOf]; omega
theorem boxed_kept {W W' : World} {row : Option Nat} {B B0 : Nat} {t : TypeId} {v : Value} (h : Boxed W B t v) (hg : W.grownBy W' row) (hr : ∀ r, row = some r → B0 ≤ r ∧ ∃ o : Obj, W.heap[r]? = some o ∧ o.isCells = false) : Boxed W' B t v :=
 h.kept hg (fun e => by
  obtain ⟨_, o, ho, hc⟩ := hr B e.symm
  rw [show W.heap[B]? = _ from h] at ho
  cases ho
  cases hc)
open Classical in
theorem contains_any (oa : Oa) (m cm : Nat) (xs : Ts) (x : Tx) (w : World) (hx : TextsA w oa m xs) (hm : m ≤ 2000000) :
  Calls Tryz.prog 132 #[.slice oa m cm, .string x] w fun e w' => e = .returned (.bool (decide (x ∈ xs))) ∧ w' = w := by
 by_cases h0 : m = 0
 ·subst h0
  refine (Tryz.slices_Contains_string_empty oa cm x w).mono ?_
  rintro e w1 ⟨rfl, rfl⟩
  refine ⟨?_, rfl⟩
  rw [List.length_eq_zero_iff.1 hx.1]
  simp
 obtain ⟨g, rfl, _, _⟩ := hx.2 0 (by omega)
 refine (Tryz.slices_Contains_string g 0 m cm xs x w (by rw [hx.1]; exact Nat.le_refl _) (by omega) (fun j hj => ?_)).mono ?_
 ·obtain ⟨g2, e2, _, h3⟩ := hx.2 j (by rw [← hx.1]; exact hj)
  cases e2
  rw [Nat.zero_add]
  exact h3
 ·rintro e w1 ⟨rfl, rfl⟩
  refine ⟨?_, rfl⟩
  rw [List.take_of_length_le (by rw [hx.1]; exact Nat.le_refl _)]
  by_cases h : x ∈ xs
  · rw [(Go.Lib.containsS_iff xs x).2 h, decide_eq_true h]
  rw [decide_eq_false h, Bool.eq_false_iff.2 (fun hc => h ((Go.Lib.containsS_iff xs x).1 hc))]
theorem implSuits_any (oa ob : Oa) (m cm k ck : Nat) (xs ys : Ts) (v : Value) (n base : Nat) (fs : Fs) (w : World) (hx : TextsA w oa m xs) (hm : m ≤ 1048577) (hy : TextsA w ob k ys) (hv : FieldsV w base v n fs) (hn : n ≤ 1073741824) (hcp : CopyF fs) (hk : k ≤ 1048577) :
  Calls Tryz.prog 97 #[.slice oa m cm, .slice ob k ck, v] w fun e w' => e = .returned (.bool (suitsP xs ys fs)) ∧ Below w.heap.size w w' := by
 classical
 have HLX : Hid (xs.length = m) := hx.1
 have HLY : Hid (ys.length = k) := hy.1
 have HX : Hid (∀ W, Below w.heap.size w W → TextsA W oa m xs) := fun W h => hx.below h
 have HY : Hid (∀ W, Below w.heap.size w W → TextsA W ob k ys) := fun W h => hy.below h
 have HV : Hid (∀ W, Below w.heap.size w W → FieldsV W base v n fs) := fun W h => hv.below h
 obtain ⟨oc, cn, hvs, _⟩ := hv.slice
 clear hx hv hy
 subst hvs
 obtain ⟨b, hb⟩ := exq (suitsP xs ys fs)
 rw [← hb]
 have HSU := hid hb
 clear hb
 have HB2 : Hid (Below w.heap.size w ((w.alloc (Obj.cells #[Value.slice ob k ck] 22)).alloc (Obj.cells #[Value.bool false] 4))) := ((Below.refl _ w).alloc (Nat.le_refl _) _).alloc (by simp) _
 have HXB : Hid (Boxed ((w.alloc (Obj.cells #[Value.slice ob k ck] 22)).alloc (Obj.cells #[Value.bool false] 4)) (w.heap.size + 1) 4 (.bool false)) := by
  have h := Boxed.new (w.alloc (Obj.cells #[Value.slice ob k ck] 22)) 4 (.bool false)
  rw [World.size_alloc] at h
  exact h
 refine (callsIn_wide (n := 4)).1 ?_
 refine callsIn_of_wp_marks Tryz.func97 rfl trivial ?_ rfl
 simp only [Tryz.ntmps97, List.size_toArray, List.length_cons, List.length_nil, Nat.reduceAdd, Nat.reduceSub, Array.replicate_succ, Array.replicate_zero, List.push_toArray, List.append_toArray, List.nil_append, List.cons_append]
 by_cases hmk : m = k
 rotate_left
 ·have HE : Hid (b = false) := by
   show _ = _; rw [HSU.out]; unfold suitsP
   refine decide_eq_false (fun h => hmk ?_)
   rw [← HLX.out, ← HLY.out, ← h.2, valsP_len]
  have hmi : ((m : Int) != (k : Int)) = true := by simp; omega
  gi_wp2
  refine ⟨trivial, ?_⟩
  gi_wp2
  refine ⟨.bool false, ?_, by rw [HE.out], HB2.out⟩
  have hc5 := HXB.out.cell
  simp [results, Tryz.f97, go_sem, hc5]
 subst hmk
 gi_wp2_with fail
 refine ⟨trivial, (callsIn_wide.2 (contains_any oa m cm xs starT _ (HX.out _ HB2.out) (by omega))).mono ?_⟩
 rintro e w1 ⟨rfl, rfl⟩
 by_cases hst : starT ∈ xs
 ·rw [decide_eq_true hst]
  have HE : Hid (b = false) := by show _ = _; rw [HSU.out]; unfold suitsP; exact decide_eq_false (fun h => h.1 hst)
  clear hst
  gi_wp2
  refine ⟨.bool false, ?_, by rw [HE.out], HB2.out⟩
  have hc5 := HXB.out.cell
  simp [results, Tryz.f97, go_sem, hc5]
 rw [decide_eq_false hst]
 have HST := hid hst
 clear hst
 gi_wp2_with fail
 refine ⟨trivial, (callsIn_wide.2 (toldValues_any oa m cm oc n cn _)).mono ?_⟩
 rintro e w1 ⟨rfl, rfl⟩
 gi_wp2_with fail
 obtain ⟨W4, hW4⟩ : ∃ W4, ((((w.alloc (Obj.cells #[Value.slice ob m ck] 22)).alloc (Obj.cells #[Value.bool false] 4)).alloc (Obj.cells #[Value.slice oa m cm] 22)).alloc (Obj.cells #[Value.slice oc n cn] 56)) = W4 := ⟨_, rfl⟩
 have x0 : Boxed W4 w.heap.size 22 (.slice ob m ck) := by
  rw [← hW4]
  exact (((Boxed.new w 22 (.slice ob m ck)).alloc _).alloc _).alloc _
 have x1 : Boxed W4 (w.heap.size + 1) 4 (.bool false) := by
  rw [← hW4]
  exact (HXB.out.alloc _).alloc _
 have x2 : Boxed W4 (w.heap.size + 1 + 1) 22 (.slice oa m cm) := by
  rw [← hW4]
  have h := (Boxed.new ((w.alloc (Obj.cells #[Value.slice ob m ck] 22)).alloc (Obj.cells #[Value.bool false] 4)) 22 (.slice oa m cm)).alloc (Obj.cells #[Value.slice oc n cn] 56)
  simpa using h
 have x3 : Boxed W4 (w.heap.size + 1 + 1 + 1) 56 (.slice oc n cn) := by
  rw [← hW4]
  have h := Boxed.new (((w.alloc (Obj.cells #[Value.slice ob m ck] 22)).alloc (Obj.cells #[Value.bool false] 4)).alloc (Obj.cells #[Value.slice oa m cm] 22)) 56 (.slice oc n cn)
  simpa using h
 have hs4 : W4.heap.size = w.heap.size + 4 := by rw [← hW4]; simp
 have hB0 : Below w.heap.size w W4 := by rw [← hW4]; exact (HB2.out.alloc (by simp; omega) _).alloc (by simp; omega) _
 rw [hW4]
 clear hW4 HB2 HXB
 refine wpIn_rangeFunc_ownG rfl (by omega) (gf := 159) (lb := #[.pointer (some ⟨w.heap.size + 1 + 1, 0, none⟩), .pointer (some ⟨w.heap.size + 1 + 1 + 1, 0, none⟩)]) rfl trivial (enters_of Tryz.func159 (by kernel_rfl) rfl)
  (told_stops (4 - 1) (by omega) (w.heap.size + 1 + 1) (w.heap.size + 1 + 1 + 1) w.heap.size oa m cm xs (.slice oc n cn) n base fs w W4 hm hn hcp (by omega) HX.out HV.out hB0 x2 x3) KeepL.trans (keepL_b (by omega) (by omega)) (Below.refl _ _) (fun _ => rfl)
  (fun pre W => (Boxed W w.heap.size 22 (.slice ob m ck) ∧ Boxed W (w.heap.size + 1) 4 (.bool false) ∧ ∀ j ∈ pre, valOf fs (textAt xs j.1) = textAt ys j.1) ∧ Below w.heap.size w W)
  (fun c pre W => (Boxed W (w.heap.size + 1) 4 (.bool false) ∧ c = .ret ∧ ∃ j : Fin m, valOf fs (textAt xs j.1) ≠ textAt ys j.1) ∧ Below w.heap.size w W)
  (OwnFrom.and (fun s A B row hs hg hr => ⟨boxed_kept hs.1 hg hr, boxed_kept hs.2.1 hg hr, hs.2.2⟩) (ownFrom_below (Nat.le_refl _) (by omega)))
  (fun c => OwnFrom.and (fun s A B row hs hg hr => ⟨boxed_kept hs.1 hg hr, hs.2⟩) (ownFrom_below (Nat.le_refl _) (by omega)))
  ⟨⟨x0, x1, fun j hj => by cases hj⟩, hB0⟩
  (fun x => { tmps := #[.slice oa m cm, .slice ob m ck, .slice oc n cn, undef, .pointer (some ⟨w.heap.size, 0, none⟩), undef, .pointer (some ⟨w.heap.size + 1, 0, none⟩), .int .i64 ((x.1 : Nat) : Int), .string (valOf fs (textAt xs x.1)), .slice oa m cm, .int .i64 (m : Int), .slice ob m ck, .int .i64 (m : Int), .bool false, .bool false, .slice oa m cm, .bool false, .bool false, .slice oa m cm, .slice oc n cn, .func (.func 159) #[] #[.pointer (some ⟨w.heap.size + 1 + 1, 0, none⟩), .pointer (some ⟨w.heap.size + 1 + 1 + 1, 0, none⟩)], .int .i64 ((x.1 : Nat) : Int), .string (valOf fs (textAt xs x.1)), undef, undef, undef, undef, undef, undef], defers := [] }) ?assign ?body ?done ?stop
 case assign =>
  intro l x W K hK
  simp only [toldV]
  gi_wp2
  exact hK
 case body =>
  rintro l pre x W ⟨⟨hb0, hb1, hall⟩, hB⟩ _
  have hxm : ((x.1 : Nat) : Int) < (m : Int) := by have := x.2; omega
  have hc0 := hb0.cell
  have hc1 := hb1.cell
  have hf1 := hb1.frozen
  obtain ⟨g2, hob, _, hcy⟩ := (HY.out W hB).2 x.1 x.2
  subst hob
  have HALL := hid hall
  obtain ⟨y, hy⟩ := exq (valOf fs (textAt xs x.1))
  obtain ⟨z, hz⟩ := exq (textAt ys x.1)
  rw [← hy]
  rw [← hz] at hcy
  have HYy := hid hy
  have HZz := hid hz
  clear hy hz hall
  by_cases he : y = z
  ·have HI : Hid (∀ j ∈ pre ++ [x], valOf fs (textAt xs j.1) = textAt ys j.1) := by
    intro j hj
    rcases List.mem_append.1 hj with h | h
    · exact HALL.out j h
    · rw [List.mem_singleton.1 h, ← HYy.out, ← HZz.out, he]
   subst he
   clear HYy HZz HALL
   gi_wp2
   exact ⟨KeepsFrom.refl _ _, ⟨Below.refl _ _, rfl⟩, ⟨hb0, hb1, HI.out⟩, hB⟩
  have t0 : (y.toList == z.toList) = false := text_beq_no he
  have t1 : (y.toList != z.toList) = true := by rw [bne, t0]; rfl
  have HE : Hid (∃ j : Fin m, valOf fs (textAt xs j.1) ≠ textAt ys j.1) := ⟨x, by rw [← HYy.out, ← HZz.out]; exact he⟩
  clear HYy HZz HALL he
  gi_wp2
  exact ⟨(KeepsOthers.setCell _ _ _).from _, ⟨hb1.set _, rfl, HE.out⟩, hB.setCell (p := ⟨w.heap.size + 1, 0, none⟩) (by simp) _⟩
 case done =>
  rintro D zs W hD rfl ⟨⟨hb0, hb1, hall⟩, hB⟩ hK
  have hc1 := hb1.cell
  have hf1 := hb1.frozen
  have HE : Hid (b = true) := by
   show _ = _
   rw [HSU.out]
   unfold suitsP
   refine decide_eq_true ⟨HST.out, List.ext_getElem (by rw [valsP_len, HLX.out, HLY.out]) (fun i h1 h2 => ?_)⟩
   have hi : i < m := by rw [valsP_len, HLX.out] at h1; exact h1
   have h := hall ⟨i, hi⟩ (List.mem_finRange _)
   simp only [valsP, List.getElem_map]
   have e1 : textAt xs i = xs[i]'(by rw [HLX.out]; exact hi) := by unfold textAt; rw [List.getD_eq_getElem?_getD, List.getElem?_eq_getElem (by rw [HLX.out]; exact hi)]; rfl
   have e2 : textAt ys i = ys[i]'h2 := by unfold textAt; rw [List.getD_eq_getElem?_getD, List.getElem?_eq_getElem h2]; rfl
   rw [← e1, ← e2]
   exact h
  have HB5 := hid hB
  have HK := hid hK
  have HX1 := hid hb1
  clear hall hB hK hb1 hb0
  gi_wp2
  have hK' := (KeepsOthers.setCell W ⟨w.heap.size + 1, 0, none⟩ (.bool true)).same D _ HK.out rfl
  refine ⟨by simp, .inl ⟨_, _, rfl, run_takeDeferred hK', ?_⟩⟩
  have hc5 := cell_kept (HX1.out.set (.bool true)).cell (grownBy_putObj' _ D (.deferred none)) (fun r e => by cases e; exact ⟨_, hK', rfl⟩)
  refine ⟨.bool true, ?_, by rw [HE.out], (HB5.out.setCell (p := ⟨w.heap.size + 1, 0, none⟩) (by simp) _).trans (belowK_b (w := w) (Nat.le_refl _) _ D _ _ (by omega) hK' rfl rfl)⟩
  simp [results, Tryz.f97, go_sem, hc5]
 case stop =>
  rintro D c pre W hD hpre ⟨⟨hb1, rfl, j, hj⟩, hB⟩ hK
  have HE : Hid (b = false) := by
   show _ = _
   rw [HSU.out]
   unfold suitsP
   refine decide_eq_false (fun h => hj ?_)
   have e := h.2
   have h1 : j.1 < xs.length := by rw [HLX.out]; exact j.2
   have h2 : j.1 < ys.length := by rw [HLY.out]; exact j.2
   unfold textAt
   rw [List.getD_eq_getElem?_getD, List.getD_eq_getElem?_getD, List.getElem?_eq_getElem h1, List.getElem?_eq_getElem h2]
   have e3 : (valsP xs fs)[j.1]? = ys[j.1]? := by rw [e]
   unfold valsP at e3
   rw [List.getElem?_map, List.getElem?_eq_getElem h1, List.getElem?_eq_getElem h2] at e3
   simpa using e3
  gi_wp2
  refine ⟨by simp, .inl ⟨_, _, rfl, run_takeDeferred hK, ?_⟩⟩
  have hc5 := cell_kept hb1.cell (grownBy_putObj' _ D (.deferred none)) (fun r e => by cases e; exact ⟨_, hK, rfl⟩)
  refine ⟨.bool false, ?_, by rw [HE.out], hB.trans (belowK_b (w := w) (Nat.le_refl _) W D _ _ (by omega) hK rfl rfl)⟩
  simp [results, Tryz.f97, go_sem, hc5]
theorem putF_eq (fs : Fs) (name value : Tx) (h : atF fs name < fs.length) : putF fs name value = fs.set (atF fs name) (name, value) := by
 unfold putF
 rw [if_pos h, atF_here fs name h]
end Go.Proofs.YtpacdigfnneoeaaGreatDoor
