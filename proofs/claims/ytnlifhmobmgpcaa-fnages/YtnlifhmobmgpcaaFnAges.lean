/- Who is fresh later was fresh ahead; ages grow with time, and never beyond the limit (the law answers true), and the code reads as it did: for every code, no condition. -/
import Derived.Test.YtnlifhmobmgpcaaAgeImpl
import Derived.Test.YtnlifhmobmgpcaaAgeDraw
import Derived.Test.YtnlifhmobmgpcaaRows
import Derived.WalkKit
import Derived.ProofKit
import Derived.OpenShut
import Derived.ShutString
import Derived.ChangeOld
import Derived.Below
import Derived.Deep.RegionHeld3
import Derived.Deep.DrawnRows
namespace Go.Proofs.Ytnlifhmobmgpcaa
namespace fnAges
open Go.ChangeShapes Go.WideShapes Go.ChangeAt Go.RowKit
open Go.ChangeMaps (open_string shut_string)
attribute [local go_sem ↓] Go.wp_at_zero Go.wp_at_succ

theorem own : ownKnob Try.prog.godebug = none := by kernel_rfl
theorem laidOut : laidOutB Try.prog = true := by kernel_rfl
def IsRow (k : IntKind) (w : World) (a : Option Addr) (len cap : Nat) (zs : List Int) : Prop :=
  (a = none ∧ len = 0 ∧ cap = 0 ∧ zs = []) ∨
  ∃ x, a = some x ∧ len ≤ cap ∧ cap ≤ maxLen ∧ zs.length = cap ∧ (∀ i, i < zs.length → w.cell? (x.add i) = some (.int k (zs.getD i 0))) ∧ ∀ n ∈ zs, (Lit.int k n).wf = true
theorem row_cell {k : IntKind} {w : World} {x : Addr} {zs : List Int} (h : ∀ i, i < zs.length → w.cell? (x.add i) = some (.int k (zs.getD i 0))) (j : Nat) (hj : j < zs.length) : ∃ b off, x = ⟨b, off, none⟩ ∧ w.cell? ⟨b, off + j, none⟩ = some (.int k (zs.getD j 0)) := by
  obtain ⟨b, off, spot⟩ := x
  have hc := h j hj
  have hspot : spot = none := by
    have := World.cell?_spot (h 0 (by omega))
    simpa [Addr.add] using this
  subst hspot
  refine ⟨b, off, rfl, ?_⟩
  by_cases e : j = 0
  · subst e; simpa [Addr.add] using hc
  · simpa [Addr.add, e] using hc
theorem row_code {w : World} {a : Option Addr} {len cap : Nat} {zs : List Int} (h : IsRow .u8 w a len cap zs) (hl : len ≤ 1048576) : CodeAt w w.heap.size a len zs := by
  refine ⟨hl, fun j hj => ?_⟩
  rcases h with ⟨rfl, rfl, _, _⟩ | ⟨x, rfl, h1, _, h3, h4, h5⟩
  · omega
  · obtain ⟨b, off, rfl, hc2⟩ := row_cell h4 j (by omega)
    have hm : zs.getD j 0 ∈ zs := by
      rw [List.getD_eq_getElem?_getD, List.getElem?_eq_getElem (by omega)]
      exact List.getElem_mem _
    have hr := bounds_u8 (h5 _ hm)
    exact ⟨b, off, rfl, World.block_lt_of_cell? _ _ hc2, hc2, hr.1, by omega⟩
theorem short_at {fs : List (ByteArray × ByteArray)} (h : ShortF fs) (i : Nat) (hi : i < fs.length) : (nameAt fs i).size ≤ 64 ∧ (valAt fs i).size ≤ 64 := by
  have := h (fs[i]) (List.getElem_mem hi)
  unfold nameAt valAt
  rw [List.getD_eq_getElem?_getD, List.getElem?_eq_getElem hi]
  exact this
theorem short_copy {fs : List (ByteArray × ByteArray)} (h : ShortF fs) : CopyF fs := fun i hi => by
  have := short_at h i hi
  omega
theorem short_get {fs : List (ByteArray × ByteArray)} (h : ShortF fs) (x : ByteArray) : (getV fs x).size ≤ 1048576 := by
  unfold getV
  split
  · rename_i hi
    have := short_at h _ hi
    omega
  · decide

set_option maxHeartbeats 8000000 in
set_option maxRecDepth 100000 in
theorem walk1 (w : World) (a0 : Option Addr) (len0 cap0 : Nat) (z0 : List Int) (w0 : IsRow .u8 w a0 len0 cap0 z0) :
    Calls Try.prog 3 #[.slice a0 len0 cap0] w fun e w' => e = .returned (.bool true) ∧ Below w.heap.size w w' := by
  by_cases hbig : (1048576 : Int) < (len0 : Int)
  · go_enter Try.func3, Try.ntmps3
    go_wp2_with (go_at_call 10; go_in)
    go_ret
    exact ⟨rfl, Below.refl _ _⟩
  have hcode := row_code w0 (by omega)
  have HCODE : Hid (∀ W, Below w.heap.size w W → CodeAt W W.heap.size a0 len0 z0) := fun W h => (hcode.below h).upTo h.size
  clear w0
  go_enter Try.func3, Try.ntmps3
  go_wp2_with (go_at_call 10; go_in)
  refine (drawFresh_any a0 len0 cap0 z0 _ hcode).mono ?_
  rintro e w1 ⟨fv, fs, t, now, rfl, hown, hfl, hsh, ht0, ht1, hn0, hn1, hb1⟩
  clear hcode
  have k1 : FieldsV w1 w.heap.size fv fs.length fs ∧ Below w.heap.size w w1 := ⟨FieldsV.of_owns hown, hb1⟩
  have HCP : Hid (CopyF fs) := short_copy hsh
  have HG : Hid (∀ x, (getV fs x).size ≤ 1048576) := short_get hsh
  have HGM : Hid (∀ x, (getV fs x).size ≤ maxLen) := fun x => by have := HG.out x; unfold maxLen; omega
  obtain ⟨f, hf⟩ : ∃ f, f = freshOf fs t now := ⟨_, rfl⟩
  obtain ⟨a, ha⟩ : ∃ a, a = ageAt fs t now := ⟨_, rfl⟩
  obtain ⟨l, hl⟩ : ∃ l, l = lifeOf fs := ⟨_, rfl⟩
  obtain ⟨f1, hf1⟩ : ∃ f, f = freshOf fs t (now - 1) := ⟨_, rfl⟩
  obtain ⟨a1, ha1⟩ : ∃ a, a = ageAt fs t (now - 1) := ⟨_, rfl⟩
  have hain : 0 ≤ a ∧ a ≤ 1000000 := by rw [ha]; exact ageAt_in fs t now
  have ham : a1 ≤ a := by rw [ha, ha1]; exact ageAt_mono fs t (by omega)
  have HFA : Hid (f = true → f1 = true ∧ a < l) := fun h => by
    rw [hf] at h
    refine ⟨by rw [hf1]; exact fresh_ahead fs t (by omega) h, ?_⟩
    unfold freshOf at h
    rw [Bool.and_eq_true, decide_eq_true_iff] at h
    rw [ha, hl]
    exact h.1
  have HIF : Hid (∀ W, FieldsV W w.heap.size fv fs.length fs → Calls Try.prog 12 #[fv, .int .i64 t, .int .i64 now] W fun e w' => e = .returned (.bool f) ∧ Below W.heap.size W w') := fun W h => by rw [hf]; exact implFresh_any fv fs.length _ fs t now W h (by omega) HCP.out (HGM.out _) (HG.out _) ht0 hn1
  have HSF : Hid (∀ W, FieldsV W w.heap.size fv fs.length fs → Calls Try.prog 14 #[fv, .int .i64 t, .int .i64 now] W fun e w' => e = .returned (.bool f) ∧ Below W.heap.size W w') := fun W h => by rw [hf]; exact specFresh_any fv fs.length _ fs t now W h (by omega) (HGM.out _) (HG.out _) ht0 hn1
  have HIA : Hid (∀ W, FieldsV W w.heap.size fv fs.length fs → Calls Try.prog 13 #[fv, .int .i64 t, .int .i64 now] W fun e w' => e = .returned (.int .i64 a) ∧ Below W.heap.size W w') := fun W h => by rw [ha]; exact implAgeAt_any fv fs.length _ fs t now W h (by omega) HCP.out (HGM.out _) ht0 hn1
  have HSA : Hid (∀ W, FieldsV W w.heap.size fv fs.length fs → Calls Try.prog 15 #[fv, .int .i64 t, .int .i64 now] W fun e w' => e = .returned (.int .i64 a) ∧ Below W.heap.size W w') := fun W h => by rw [ha]; exact specAgeAt_any fv fs.length _ fs t now W h (by omega) (HGM.out _) ht0 hn1
  have HIL : Hid (∀ W, FieldsV W w.heap.size fv fs.length fs → Calls Try.prog 16 #[fv] W fun e w' => e = .returned (.int .i64 l) ∧ Below W.heap.size W w') := fun W h => by rw [hl]; exact implLife_any fv fs.length _ fs W h (by omega) HCP.out (HG.out _)
  have HSL : Hid (∀ W, FieldsV W w.heap.size fv fs.length fs → Calls Try.prog 17 #[fv] W fun e w' => e = .returned (.int .i64 l) ∧ Below W.heap.size W w') := fun W h => by rw [hl]; exact specLife_any fv fs.length _ fs W h (by omega) (HG.out _)
  have HIA1 : Hid (∀ W, FieldsV W w.heap.size fv fs.length fs → Calls Try.prog 13 #[fv, .int .i64 t, .int .i64 (now - 1)] W fun e w' => e = .returned (.int .i64 a1) ∧ Below W.heap.size W w') := fun W h => by rw [ha1]; exact implAgeAt_any fv fs.length _ fs t (now - 1) W h (by omega) HCP.out (HGM.out _) ht0 (by omega)
  have HIF1 : Hid (∀ W, FieldsV W w.heap.size fv fs.length fs → Calls Try.prog 12 #[fv, .int .i64 t, .int .i64 (now - 1)] W fun e w' => e = .returned (.bool f1) ∧ Below W.heap.size W w') := fun W h => by rw [hf1]; exact implFresh_any fv fs.length _ fs t (now - 1) W h (by omega) HCP.out (HGM.out _) (HG.out _) ht0 (by omega)
  clear hf ha hl hf1 ha1 hown hsh hb1 HCP HG HGM
  have t1 : (f != f) = false := by simp
  have t2 : (a != a) = false := by simp
  have t3 : (l != l) = false := by simp
  have n1 : ¬ a < 0 := by omega
  have n2 : ¬ 1000000 < a := by omega
  go_wp2_with fail
  refine (HIF.out _ k1.1).mono ?_
  rintro e w2 ⟨rfl, hb⟩
  have k2 : FieldsV w2 w.heap.size fv fs.length fs ∧ Below w.heap.size w w2 := ⟨k1.1.below hb, k1.2.trans (hb.mono k1.2.size)⟩
  clear hb k1
  go_wp2_with fail
  refine (HIA.out _ k2.1).mono ?_
  rintro e w3 ⟨rfl, hb⟩
  have k3 : FieldsV w3 w.heap.size fv fs.length fs ∧ Below w.heap.size w w3 := ⟨k2.1.below hb, k2.2.trans (hb.mono k2.2.size)⟩
  clear hb k2
  go_wp2_with fail
  refine (HSF.out _ k3.1).mono ?_
  rintro e w4 ⟨rfl, hb⟩
  have k4 : FieldsV w4 w.heap.size fv fs.length fs ∧ Below w.heap.size w w4 := ⟨k3.1.below hb, k3.2.trans (hb.mono k3.2.size)⟩
  clear hb k3
  go_wp2_with fail
  refine (HSA.out _ k4.1).mono ?_
  rintro e w5 ⟨rfl, hb⟩
  have k5 : FieldsV w5 w.heap.size fv fs.length fs ∧ Below w.heap.size w w5 := ⟨k4.1.below hb, k4.2.trans (hb.mono k4.2.size)⟩
  clear hb k4
  go_wp2_with fail
  refine (HIL.out _ k5.1).mono ?_
  rintro e w6 ⟨rfl, hb⟩
  have k6 : FieldsV w6 w.heap.size fv fs.length fs ∧ Below w.heap.size w w6 := ⟨k5.1.below hb, k5.2.trans (hb.mono k5.2.size)⟩
  clear hb k5
  go_wp2_with fail
  refine (HSL.out _ k6.1).mono ?_
  rintro e w7 ⟨rfl, hb⟩
  have k7 : FieldsV w7 w.heap.size fv fs.length fs ∧ Below w.heap.size w w7 := ⟨k6.1.below hb, k6.2.trans (hb.mono k6.2.size)⟩
  clear hb k6
  go_wp2_with fail
  refine (drawPlus_any a0 len0 cap0 z0 _ (HCODE.out _ k7.2)).mono ?_
  rintro e w8 ⟨x, y, rfl, hx0, hx1, hy0, hy1, hb⟩
  have k8 : FieldsV w8 w.heap.size fv fs.length fs ∧ Below w.heap.size w w8 := ⟨k7.1.below hb, k7.2.trans (hb.mono k7.2.size)⟩
  obtain ⟨p, hp⟩ : ∃ p, p = plusI x y := ⟨_, rfl⟩
  have HP : Hid (plusI x y = p) := hp.symm
  have HPC : Hid (plusI y x = p) := by show _ = _; rw [plusI_comm, hp]
  have hpin : 0 ≤ p ∧ p ≤ 1000000 := by rw [hp]; exact plusI_in x y
  have t4 : (p != p) = false := by simp
  have n3 : ¬ p < 0 := by omega
  have n4 : ¬ 1000000 < p := by omega
  clear hb k7 hp t1 t2 t3 HSF HSA HSL
  go_wp2_with fail
  refine (implPlus_any x y _).mono ?_
  rintro e w9 ⟨rfl, rfl⟩
  rw [HP.out]
  go_wp2_with fail
  refine (specPlus_any x y _).mono ?_
  rintro e w10 ⟨rfl, rfl⟩
  rw [HP.out]
  go_wp2_with fail
  refine (implPlus_any y x _).mono ?_
  rintro e w11 ⟨rfl, rfl⟩
  rw [HPC.out]
  clear HP HPC
  by_cases hr : now < -1000000000 ∨ 1000000000 < now
  · by_cases hlo : now < -1000000000
    · go_wp2_with fail
      go_ret
      exact ⟨rfl, k8.2⟩
    · have hhi : 1000000000 < now := by omega
      go_wp2_with fail
      go_ret
      exact ⟨rfl, k8.2⟩
  have hlo : ¬ now < -1000000000 := fun h => hr (.inl h)
  have hhi : ¬ 1000000000 < now := fun h => hr (.inr h)
  have u1 : -9223372036854775808 ≤ now - 1 ∧ now - 1 ≤ 9223372036854775807 := by omega
  clear hr hpin hx0 hx1 hy0 hy1
  go_wp2_with fail
  refine (HIA1.out _ k8.1).mono ?_
  rintro e w12 ⟨rfl, hb⟩
  have k12 : FieldsV w12 w.heap.size fv fs.length fs ∧ Below w.heap.size w w12 := ⟨k8.1.below hb, k8.2.trans (hb.mono k8.2.size)⟩
  clear hb k8
  cases f with
  | true =>
    obtain ⟨hf1, hal⟩ := HFA.out rfl
    subst hf1
    go_wp2_with fail
    refine (HIF1.out _ k12.1).mono ?_
    rintro e w13 ⟨rfl, hb⟩
    have k13 : FieldsV w13 w.heap.size fv fs.length fs ∧ Below w.heap.size w w13 := ⟨k12.1.below hb, k12.2.trans (hb.mono k12.2.size)⟩
    clear hb k12
    go_wp2_with fail
    refine (HIL.out _ k13.1).mono ?_
    rintro e w14 ⟨rfl, hb⟩
    have k14 : FieldsV w14 w.heap.size fv fs.length fs ∧ Below w.heap.size w w14 := ⟨k13.1.below hb, k13.2.trans (hb.mono k13.2.size)⟩
    clear hb k13
    go_wp2_with fail
    go_ret
    exact ⟨rfl, k14.2⟩
  | false =>
    go_wp2_with fail
    go_ret
    exact ⟨rfl, k12.2⟩

set_option maxRecDepth 100000 in
theorem lifted (os : Os) (started : os.Started) (H : Type) (enc : TypeId × Value → H) :
    ReturnsInHanded {} Try.checked os 3 .any (Rows.fnAgesSpec.pre6 enc Try.prog Try.f3 Rows.fnAgesRow.domain false) (Rows.fnAgesSpec.post enc Try.prog Try.f3 false true false false) := by
  refine returnsInHanded_of_change (C := Try.checked) own started (by kernel_rfl) Try.func3
    (ChangeSpec.witness6 (enc := enc) (C := Try.checked) false ⟨#[], #[.slice none 0 0], []⟩ 8 (by kernel_rfl) (by kernel_rfl) (by kernel_rfl) (by kernel_rfl)) ?_
  intro W base args ds gs before hval0 hW _ _
  have hval : ∀ (j : Nat) t v, Try.f3.params[j]? = some t → args[j]? = some v → Value.okWide Try.prog W .any base t v := hval0
  have hW' := hW
  obtain ⟨p, q, hA0, hV, rfl, hfz, hnd⟩ := hW
  have hA : DataW.TrodAll enc Try.prog W 0 (fun _ => true) true Try.f3.params.toList args.toList ds p := hA0
  rw [Try.params3] at hA hval
  obtain ⟨v0, vs0, d0, ds0, p0, q0, hargs, rfl, rfl, h0, r0⟩ := trodAll_cons hA
  obtain ⟨rfl, rfl, rfl⟩ := trodAll_nil r0
  obtain rfl : args = #[v0] := by cases args; simp_all
  obtain ⟨rfl, rfl⟩ := trodVars_none hV
  obtain ⟨a0, len0, cap0, rfl⟩ := okWide_slice Try.underlying22 (hval 0 22 v0 rfl rfl)
  have k0 := h0
  have lt0 : ∀ x ∈ p0, x.block < W.heap.size := by obtain ⟨m, hm⟩ := k0; exact DataW.trod_lt m _ _ _ hm
  obtain ⟨z0, w0⟩ : ∃ zs, IsRow .u8 W a0 len0 cap0 zs := by
    obtain ⟨fuel, hf⟩ := h0
    rcases open_ints Try.underlying22 Try.underlying5 (by kernel_rfl) hf with ⟨hcs, _⟩ | ⟨x, l, c, zs, hcs, _, hl, hm, hz, _, hcell, hwz⟩
    · simp [Value.cells] at hcs
      obtain ⟨rfl, rfl, rfl⟩ := hcs
      exact ⟨[], .inl ⟨rfl, rfl, rfl, rfl⟩⟩
    · simp [Value.cells] at hcs
      obtain ⟨rfl, rfl, rfl⟩ := hcs
      exact ⟨zs, .inr ⟨_, rfl, hl, hm, by simpa using hz, hcell, hwz⟩⟩
  clear hA0 hval0
  refine (walk1 W a0 len0 cap0 z0 w0).mono fun e W' ⟨he, bel⟩ => ?_
  subst he
  exact ⟨_, rfl, _, _, _, [], _, [], hW', trodAll_mk1 (shut_bool Try.underlying4 _), (trodAll_cons_mk (Below.trod laidOut (by kernel_rfl) (of_decide_eq_true (by kernel_rfl)) k0 bel lt0) trodAll_mk0), rfl, bel.frame _, fun h => by cases h⟩

theorem over : Rows.fnAgesRow.holds Try.pinned (OpenSpec.ofChange Rows.fnAgesSpec) :=
  OpenClaim.holds_of_wide 3 Try.f3 rfl rfl rfl rfl rfl rfl rfl ⟨rfl, rfl, rfl, rfl, rfl⟩ rfl rfl rfl rfl rfl (by kernel_rfl) Try.func3 (by kernel_rfl)
    (of_decide_eq_true (by kernel_rfl)) (by unfold Func.isWrapper; first | (rw [if_pos (by decide +kernel)]; kernel_rfl) | (rw [if_neg (by decide +kernel)]; exact ⟨rfl, rfl⟩))
    (fun os started H enc _ => lifted os started H enc)
end fnAges

theorem fnAges_holds : Rows.FnAgesSaid := fnAges.over
#print axioms fnAges_holds
end Go.Proofs.Ytnlifhmobmgpcaa
