/- At every request ReqOk of the program answers as the specification's (the law answers true), writes into no argument, and the argument reads as it did: for every request, no condition. -/
import Derived.Test.YtjocljdifmlghaaMsgOk
import Derived.Test.YtjocljdifmlghaaMsgArg
import Derived.Test.YtjocljdifmlghaaRows
import Derived.WalkKit
import Derived.ProofKit
import Derived.OpenShut
import Derived.ShutString
import Derived.ChangeOld
import Derived.Below
import Derived.Deep.RegionHeld3
import Derived.Deep.DrawnRows
namespace Go.Proofs.Ytjocljdifmlghaa
namespace fnExactReqOk
open Go.ChangeShapes Go.WideShapes Go.ChangeAt Go.RowKit
attribute [local go_sem ↓] Go.wp_at_zero Go.wp_at_succ

theorem own : ownKnob Try.prog.godebug = none := by kernel_rfl
theorem laidOut : laidOutB Try.prog = true := by kernel_rfl
theorem argWide {w : World} {B B' : Nat} {a : Option Addr} {n : Nat} {fs : List (ByteArray × ByteArray)} (h : ArgF w B a n fs) (hB : B ≤ B') : ArgF w B' a n fs :=
  ⟨h.len, fun i hi => by
    obtain ⟨b, off, h1, h2, h3⟩ := h.get i hi
    exact ⟨b, off, h1, Nat.lt_of_lt_of_le h2 hB, h3⟩⟩

set_option maxHeartbeats 2000000 in
set_option maxRecDepth 100000 in
theorem walk1 (w : World) (m : Int) (p : ByteArray) (a : Option Addr) (n cap : Nat) (b : ByteArray) (fs : List (ByteArray × ByteArray)) (harg : ArgF w w.heap.size a n fs) (hn : n ≤ maxLen) (hs : WalkF n fs) (hp : p.size ≤ maxLen) (hb : b.size ≤ maxLen) :
    Calls Try.prog 3 #[.agg #[.int .i64 m, .string p, .slice a n cap, .string b]] w fun e w' => e = .returned (.bool true) ∧ Below w.heap.size w w' := by
  have hlen := harg.len
  obtain ⟨r, hr⟩ : ∃ r, r = w.heap.size := ⟨_, rfl⟩
  have HR : Hid (∀ W, Below (w.alloc (.cells #[.int .i64 m, .string p, .slice a n cap, .string b] 24)).heap.size (w.alloc (.cells #[.int .i64 m, .string p, .slice a n cap, .string b] 24)) W → (W.cell? ⟨r, 0, none⟩ = some (.int .i64 m) ∧ W.cell? ⟨r, 1, none⟩ = some (.string p) ∧ W.cell? ⟨r, 2, none⟩ = some (.slice a n cap) ∧ W.cell? ⟨r, 3, none⟩ = some (.string b)) ∧ Hid (ArgF W w.heap.size a n fs) ∧ Below w.heap.size w W) := fun W h => by
    have hh := kept_new h
    rw [← hr] at hh
    exact ⟨⟨by simp [World.cell?, hh], by simp [World.cell?, hh], by simp [World.cell?, hh], by simp [World.cell?, hh]⟩, harg.below (below_new h), below_new h⟩
  have HB0 : Hid (Below (w.alloc (.cells #[.int .i64 m, .string p, .slice a n cap, .string b] 24)).heap.size (w.alloc (.cells #[.int .i64 m, .string p, .slice a n cap, .string b] 24)) (w.alloc (.cells #[.int .i64 m, .string p, .slice a n cap, .string b] 24))) := Below.refl _ _
  have harg0 : ArgF (w.alloc (.cells #[.int .i64 m, .string p, .slice a n cap, .string b] 24)) (w.alloc (.cells #[.int .i64 m, .string p, .slice a n cap, .string b] 24)).heap.size a n fs := argWide (HR.out _ HB0.out).2.1.out (by simp)
  go_enter Try.func3, Try.ntmps3
  go_wp2_with fail
  refine (szReq_any m p a n cap b fs _ harg0 hn hs hp hb).mono ?_
  rintro e w1 ⟨z, rfl, hz, hb1⟩
  rw [← hr]
  have HB1 : Hid (Below (w.alloc (.cells #[.int .i64 m, .string p, .slice a n cap, .string b] 24)).heap.size (w.alloc (.cells #[.int .i64 m, .string p, .slice a n cap, .string b] 24)) w1) := hb1
  obtain ⟨⟨c0, c1, c2, c3⟩, HA1, hw1⟩ := HR.out w1 hb1
  have HW : Hid (WalkF n fs) := hs
  have HBM : Hid (b.size ≤ maxLen) := hb
  have HPM : Hid (p.size ≤ maxLen) := hp
  clear harg harg0 hb1 hr hs hb hp
  by_cases hz0 : z < 0
  · clear hz
    go_wp2_with fail
    go_ret
    exact ⟨rfl, hw1⟩
  · have hn1 : n ≤ 1048576 := (hz (by omega)).2.1
    clear hz hn
    go_wp2_with fail
    refine (toReq_any m p a n cap b fs w.heap.size _ HA1.out hw1.size hn1).mono ?_
    rintro e w2 ⟨t1, rfl, own1, b2⟩
    have HB2 : Hid (Below (w.alloc (.cells #[.int .i64 m, .string p, .slice a n cap, .string b] 24)).heap.size (w.alloc (.cells #[.int .i64 m, .string p, .slice a n cap, .string b] 24)) w2) := HB1.out.trans (b2.mono HB1.out.size)
    have hv1 := FieldsV.of_owns own1
    obtain ⟨oa1, cp1, rfl, _⟩ := hv1.slice
    clear c0 c1 c2 c3 HA1 hw1 b2 own1
    go_wp2_with fail
    refine (specReqOk_any m p _ b n _ fs _ hv1 (by omega) HW.out HPM.out HBM.out).mono ?_
    rintro e w3 ⟨u0, rfl, k1, b3⟩
    have HB3 : Hid (Below (w.alloc (.cells #[.int .i64 m, .string p, .slice a n cap, .string b] 24)).heap.size (w.alloc (.cells #[.int .i64 m, .string p, .slice a n cap, .string b] 24)) w3) := HB2.out.trans (b3.mono HB2.out.size)
    have HU0 : Hid (u0 = true ↔ ReqP m p fs b) := k1
    obtain ⟨⟨c0, c1, c2, c3⟩, HA3, hw3⟩ := HR.out w3 HB3.out
    clear hv1 b3 k1
    go_wp2_with fail
    refine (toReq_any m p a n cap b fs w.heap.size _ HA3.out hw3.size hn1).mono ?_
    rintro e w4 ⟨x, rfl, ownx, b4⟩
    have HB4 : Hid (Below (w.alloc (.cells #[.int .i64 m, .string p, .slice a n cap, .string b] 24)).heap.size (w.alloc (.cells #[.int .i64 m, .string p, .slice a n cap, .string b] 24)) w4) := HB3.out.trans (b4.mono HB3.out.size)
    have hvx := FieldsV.of_owns ownx
    obtain ⟨oax, cpx, rfl, _⟩ := hvx.slice
    clear c0 c1 c2 c3 HA3 hw3 b4 ownx
    obtain ⟨q, hq⟩ : ∃ q, q = w4.heap.size := ⟨_, rfl⟩
    obtain ⟨bx, hbx⟩ : ∃ x, x = w3.heap.size := ⟨_, rfl⟩
    rw [← hbx] at hvx
    have HX : Hid (∀ W, Below (w4.alloc (.cells #[.int .i64 m, .string p, .slice oax n cpx, .string b] 29)).heap.size (w4.alloc (.cells #[.int .i64 m, .string p, .slice oax n cpx, .string b] 29)) W → (W.cell? ⟨q, 0, none⟩ = some (.int .i64 m) ∧ W.cell? ⟨q, 1, none⟩ = some (.string p) ∧ W.cell? ⟨q, 2, none⟩ = some (.slice oax n cpx) ∧ W.cell? ⟨q, 3, none⟩ = some (.string b)) ∧ (W.cell? ⟨r, 0, none⟩ = some (.int .i64 m) ∧ W.cell? ⟨r, 1, none⟩ = some (.string p) ∧ W.cell? ⟨r, 2, none⟩ = some (.slice a n cap) ∧ W.cell? ⟨r, 3, none⟩ = some (.string b)) ∧ Hid (FieldsV W bx (.slice oax n cpx) n fs) ∧ Hid (ArgF W w.heap.size a n fs) ∧ Below w.heap.size w W) := fun W h => by
      have hh := kept_new h
      rw [← hq] at hh
      have hbn := below_new h
      obtain ⟨g1, g2, g3⟩ := HR.out W (HB4.out.trans (hbn.mono HB4.out.size))
      exact ⟨⟨by simp [World.cell?, hh], by simp [World.cell?, hh], by simp [World.cell?, hh], by simp [World.cell?, hh]⟩, g1, hvx.below hbn, g2, g3⟩
    obtain ⟨⟨d0, d1, d2, d3⟩, _, HV5, hb5⟩ := HX.out _ (Below.refl _ _)
    obtain ⟨_, hb5⟩ := hb5
    clear hvx hbx
    go_wp2_with fail
    refine (implReqOk_any m p _ b n _ fs _ HV5.out (by omega) HW.out HPM.out HBM.out).mono ?_
    rintro e w5 ⟨u1, rfl, k1, b5⟩
    rw [← hq]
    obtain rfl : u1 = u0 := by
      rw [Bool.eq_iff_iff, k1, HU0.out]

    have HB5 : Hid (Below (w4.alloc (.cells #[.int .i64 m, .string p, .slice oax n cpx, .string b] 29)).heap.size (w4.alloc (.cells #[.int .i64 m, .string p, .slice oax n cpx, .string b] 29)) w5) := b5
    clear d0 d1 d2 d3 HV5 hb5 k1 b5 hq HU0
    obtain ⟨⟨d0, d1, d2, d3⟩, ⟨c0, c1, c2, c3⟩, HV5, HA5, hb5⟩ := HX.out _ HB5.out
    have heq : (u1 != u1) = false := by simp
    have HD : Hid (∀ W, Below w5.drew.heap.size w5.drew W → ((W.cell? ⟨q, 0, none⟩ = some (.int .i64 m) ∧ W.cell? ⟨q, 1, none⟩ = some (.string p) ∧ W.cell? ⟨q, 2, none⟩ = some (.slice oax n cpx) ∧ W.cell? ⟨q, 3, none⟩ = some (.string b)) ∧ W.cell? ⟨r, 0, none⟩ = some (.int .i64 m) ∧ W.cell? ⟨r, 1, none⟩ = some (.string p) ∧ W.cell? ⟨r, 2, none⟩ = some (.slice a n cap) ∧ W.cell? ⟨r, 3, none⟩ = some (.string b)) ∧ Hid (FieldsV W bx (.slice oax n cpx) n fs) ∧ Below w.heap.size w W) := fun W h => by
      obtain ⟨g1, g2, g3, _, g5⟩ := HX.out W (HB5.out.drew.trans (h.mono HB5.out.size))
      exact ⟨⟨g1, g2⟩, g3, g5⟩
    have HA6 : Hid (ArgF w5.drew w.heap.size a n fs) := (HX.out w5.drew HB5.out.drew).2.2.2.1
    have HS6 : w.heap.size ≤ w5.drew.heap.size := hb5.size
    go_wp2_with fail
    go_region_held3 (fun W => (W.cell? ⟨q, 0, none⟩ = some (.int .i64 m) ∧ W.cell? ⟨q, 1, none⟩ = some (.string p) ∧ W.cell? ⟨q, 2, none⟩ = some (.slice oax n cpx) ∧ W.cell? ⟨q, 3, none⟩ = some (.string b)) ∧ W.cell? ⟨r, 0, none⟩ = some (.int .i64 m) ∧ W.cell? ⟨r, 1, none⟩ = some (.string p) ∧ W.cell? ⟨r, 2, none⟩ = some (.slice a n cap) ∧ W.cell? ⟨r, 3, none⟩ = some (.string b)) (first | assumption | go_keep) (first | (go_at_call 7; refine (toReq_any m p a n cap b fs w.heap.size _ HA6.out HS6 hn1).mono ?_; rintro e w6 ⟨t3, rfl, own3, b6⟩; obtain ⟨hS6, HV6, hb6⟩ := HD.out w6 b6; obtain ⟨o3, cp3, rfl, _⟩ := (FieldsV.of_owns own3).slice) | (go_at_call 9; refine (eqReq_any m p _ _ b n _ _ fs _ HV6.out (FieldsV.of_owns own3) (by omega)).mono ?_; rintro e w7 ⟨rfl, b7⟩; obtain ⟨hS7, HV7, hb7⟩ := HD.out w7 (b6.trans (b7.mono b6.size))))
    go_wp2_with fail
    go_ret
    exact ⟨rfl, hb7⟩

set_option maxRecDepth 100000 in
theorem lifted (os : Os) (started : os.Started) (H : Type) (enc : TypeId × Value → H) :
    ReturnsInHanded {} Try.checked os 3 .any (Rows.fnExactReqOkSpec.pre6 enc Try.prog Try.f3 Rows.fnExactReqOkRow.domain false) (Rows.fnExactReqOkSpec.post enc Try.prog Try.f3 false true false false) := by
  refine returnsInHanded_of_change (C := Try.checked) own started (by kernel_rfl) Try.func3
    (ChangeSpec.witness6 (enc := enc) (C := Try.checked) false ⟨#[], #[.agg #[.int .i64 0, .string ByteArray.empty, .slice none 0 0, .string ByteArray.empty]], []⟩ 8 (by kernel_rfl) (by kernel_rfl) (by kernel_rfl) (by kernel_rfl)) ?_
  intro W base args ds gs before hval0 hW _ _
  have hval : ∀ (j : Nat) t v, Try.f3.params[j]? = some t → args[j]? = some v → Value.okWide Try.prog W .any base t v := hval0
  have hW' := hW
  obtain ⟨p, q, hA0, hV, rfl, hfz, hnd⟩ := hW
  have hA : DataW.TrodAll enc Try.prog W 0 (fun _ => true) true Try.f3.params.toList args.toList ds p := hA0
  rw [Try.params3] at hA hval
  obtain ⟨v0, vs0, d0, ds0, p0, q0, hargs, rfl, rfl, h0, r0⟩ := trodAll_cons hA
  obtain ⟨rfl, rfl, rfl⟩ := trodAll_nil r0
  obtain rfl : args = #[v0] := by cases args; simp_all
  obtain ⟨rfl, rfl⟩ := trodVars_none hV
  have k0 := h0
  have lt0 : ∀ x ∈ p0, x.block < W.heap.size := by obtain ⟨m, hm⟩ := k0; exact DataW.trod_lt m _ _ _ hm
  obtain ⟨m, p, a, n, cap, b, fs, rfl, g1, g2, g3, g4, g5⟩ := openReq (hval 0 24 v0 rfl rfl) h0
  clear hA0 hval0
  refine (walk1 W m p a n cap b fs g1 g2 g3 g4 g5).mono fun e W' ⟨he, bel⟩ => ?_
  subst he
  exact ⟨_, rfl, _, _, _, [], _, [], hW', trodAll_mk1 (shut_bool Try.underlying4 _), (trodAll_cons_mk (Below.trod laidOut (by kernel_rfl) (of_decide_eq_true (by kernel_rfl)) k0 bel lt0) trodAll_mk0), rfl, bel.frame _, fun h => by cases h⟩

theorem over : Rows.fnExactReqOkRow.holds Try.pinned (OpenSpec.ofChange Rows.fnExactReqOkSpec) :=
  OpenClaim.holds_of_wide 3 Try.f3 rfl rfl rfl rfl rfl rfl rfl ⟨rfl, rfl, rfl, rfl, rfl⟩ rfl rfl rfl rfl rfl (by kernel_rfl) Try.func3 (by kernel_rfl)
    (of_decide_eq_true (by kernel_rfl)) (by unfold Func.isWrapper; first | (rw [if_pos (by decide +kernel)]; kernel_rfl) | (rw [if_neg (by decide +kernel)]; exact ⟨rfl, rfl⟩))
    (fun os started H enc _ => lifted os started H enc)
end fnExactReqOk

theorem fnExactReqOk_holds : Rows.FnExactReqOkSaid := fnExactReqOk.over
#print axioms fnExactReqOk_holds
end Go.Proofs.Ytjocljdifmlghaa
