/- At every answer RespText of the program answers as the specification's (the law answers true), writes into no argument, and the argument reads as it did: for every answer, no condition. The three tables that strconv.Itoa's text names hold what the program's text lays (the card ties them). -/
import Derived.Test.YtjocljdifmlghaaDoorTab
import Derived.Test.YtjocljdifmlghaaDoorMsgTextI
import Derived.Test.YtjocljdifmlghaaDoorMsgArg
import Derived.Below
import Derived.ChangeOld
import Derived.ShutString
import Derived.Deep.RegionHeld3
import Derived.Deep.DrawnRows
namespace Go.Proofs.YtjocljdifmlghaaDoor
namespace fnExactRespText
open Go.ChangeShapes Go.WideShapes Go.ChangeAt Go.RowKit
open Go.ChangeMaps (open_string shut_string)
attribute [local go_sem ↓] Go.wp_at_zero Go.wp_at_succ

theorem own : ownKnob Tryd.prog.godebug = none := by kernel_rfl
theorem laidOut : laidOutB Tryd.prog = true := by kernel_rfl
theorem argWide {w : World} {B B' : Nat} {a : Option Addr} {n : Nat} {fs : List (ByteArray × ByteArray)} (h : ArgF w B a n fs) (hB : B ≤ B') : ArgF w B' a n fs :=
  ⟨h.len, fun i hi => by
    obtain ⟨b, off, h1, h2, h3⟩ := h.get i hi
    exact ⟨b, off, h1, Nat.lt_of_lt_of_le h2 hB, h3⟩⟩

set_option maxHeartbeats 2000000 in
set_option maxRecDepth 100000 in
theorem walk1 (w : World) (m : Int) (a : Option Addr) (n cap : Nat) (b : ByteArray) (fs : List (ByteArray × ByteArray)) (harg : ArgF w w.heap.size a n fs) (hn : n ≤ maxLen) (hs : WalkF n fs) (hb : b.size ≤ maxLen) (hT : TabOk w) :
    Calls Tryd.prog 4 #[.agg #[.int .i64 m, .slice a n cap, .string b]] w fun e w' => e = .returned (.bool true) ∧ Below w.heap.size w w' := by
  have hlen := harg.len
  obtain ⟨r, hr⟩ : ∃ r, r = w.heap.size := ⟨_, rfl⟩
  have HR : Hid (∀ W, Below (w.alloc (.cells #[.int .i64 m, .slice a n cap, .string b] 34)).heap.size (w.alloc (.cells #[.int .i64 m, .slice a n cap, .string b] 34)) W → (W.cell? ⟨r, 0, none⟩ = some (.int .i64 m) ∧ W.cell? ⟨r, 1, none⟩ = some (.slice a n cap) ∧ W.cell? ⟨r, 2, none⟩ = some (.string b)) ∧ Hid (ArgF W w.heap.size a n fs) ∧ Below w.heap.size w W) := fun W h => by
    have hh := kept_new h
    rw [← hr] at hh
    exact ⟨⟨by simp [World.cell?, hh], by simp [World.cell?, hh], by simp [World.cell?, hh]⟩, harg.below (below_new h), below_new h⟩
  have HB0 : Hid (Below (w.alloc (.cells #[.int .i64 m, .slice a n cap, .string b] 34)).heap.size (w.alloc (.cells #[.int .i64 m, .slice a n cap, .string b] 34)) (w.alloc (.cells #[.int .i64 m, .slice a n cap, .string b] 34))) := Below.refl _ _
  have harg0 : ArgF (w.alloc (.cells #[.int .i64 m, .slice a n cap, .string b] 34)) (w.alloc (.cells #[.int .i64 m, .slice a n cap, .string b] 34)).heap.size a n fs := argWide (HR.out _ HB0.out).2.1.out (by simp)
  have HTAB : Hid (TabOk w) := hT
  go_enter Tryd.func4, Tryd.ntmps4
  go_wp2_with fail
  refine (szResp_any m a n cap b fs _ harg0 hn hs hb).mono ?_
  rintro e w1 ⟨z, rfl, hz, hb1⟩
  rw [← hr]
  have HB1 : Hid (Below (w.alloc (.cells #[.int .i64 m, .slice a n cap, .string b] 34)).heap.size (w.alloc (.cells #[.int .i64 m, .slice a n cap, .string b] 34)) w1) := hb1
  obtain ⟨⟨c0, c1, c2⟩, HA1, hw1⟩ := HR.out w1 hb1
  have HW : Hid (WalkF n fs) := hs
  have HBM : Hid (b.size ≤ maxLen) := hb
  clear harg harg0 hb1 hr hs hb hT
  by_cases hz0 : z < 0
  · clear hz
    go_wp2_with fail
    go_ret
    exact ⟨rfl, hw1⟩
  · have hn1 : n ≤ 1048576 := (hz (by omega)).2.1
    clear hz hn
    go_wp2_with fail
    refine (toResp_any m a n cap b fs w.heap.size _ HA1.out hw1.size hn1).mono ?_
    rintro e w2 ⟨t1, rfl, own1, b2⟩
    have HB2 : Hid (Below (w.alloc (.cells #[.int .i64 m, .slice a n cap, .string b] 34)).heap.size (w.alloc (.cells #[.int .i64 m, .slice a n cap, .string b] 34)) w2) := HB1.out.trans (b2.mono HB1.out.size)
    have hv1 := FieldsV.of_owns own1
    obtain ⟨oa1, cp1, rfl, _⟩ := hv1.slice
    clear c0 c1 c2 HA1 hw1 b2 own1
    go_wp2_with fail
    refine (specRespText_any m _ b n _ fs _ hv1 (by omega) HW.out HBM.out).mono ?_
    rintro e w3 ⟨u0, rfl, k1, k2, b3⟩
    have HB3 : Hid (Below (w.alloc (.cells #[.int .i64 m, .slice a n cap, .string b] 34)).heap.size (w.alloc (.cells #[.int .i64 m, .slice a n cap, .string b] 34)) w3) := HB2.out.trans (b3.mono HB2.out.size)
    have HU0 : Hid ((RespP m fs b → u0 = respT m fs b) ∧ (¬ RespP m fs b → u0 = ⟨#[]⟩)) := ⟨k1, k2⟩
    obtain ⟨⟨c0, c1, c2⟩, HA3, hw3⟩ := HR.out w3 HB3.out
    clear hv1 b3 k1 k2
    go_wp2_with fail
    refine (toResp_any m a n cap b fs w.heap.size _ HA3.out hw3.size hn1).mono ?_
    rintro e w4 ⟨x, rfl, ownx, b4⟩
    have HB4 : Hid (Below (w.alloc (.cells #[.int .i64 m, .slice a n cap, .string b] 34)).heap.size (w.alloc (.cells #[.int .i64 m, .slice a n cap, .string b] 34)) w4) := HB3.out.trans (b4.mono HB3.out.size)
    have hvx := FieldsV.of_owns ownx
    obtain ⟨oax, cpx, rfl, _⟩ := hvx.slice
    clear c0 c1 c2 HA3 hw3 b4 ownx
    obtain ⟨q, hq⟩ : ∃ q, q = w4.heap.size := ⟨_, rfl⟩
    obtain ⟨bx, hbx⟩ : ∃ x, x = w3.heap.size := ⟨_, rfl⟩
    rw [← hbx] at hvx
    have HX : Hid (∀ W, Below (w4.alloc (.cells #[.int .i64 m, .slice oax n cpx, .string b] 38)).heap.size (w4.alloc (.cells #[.int .i64 m, .slice oax n cpx, .string b] 38)) W → (W.cell? ⟨q, 0, none⟩ = some (.int .i64 m) ∧ W.cell? ⟨q, 1, none⟩ = some (.slice oax n cpx) ∧ W.cell? ⟨q, 2, none⟩ = some (.string b)) ∧ (W.cell? ⟨r, 0, none⟩ = some (.int .i64 m) ∧ W.cell? ⟨r, 1, none⟩ = some (.slice a n cap) ∧ W.cell? ⟨r, 2, none⟩ = some (.string b)) ∧ Hid (FieldsV W bx (.slice oax n cpx) n fs) ∧ Hid (ArgF W w.heap.size a n fs) ∧ Below w.heap.size w W) := fun W h => by
      have hh := kept_new h
      rw [← hq] at hh
      have hbn := below_new h
      obtain ⟨g1, g2, g3⟩ := HR.out W (HB4.out.trans (hbn.mono HB4.out.size))
      exact ⟨⟨by simp [World.cell?, hh], by simp [World.cell?, hh], by simp [World.cell?, hh]⟩, g1, hvx.below hbn, g2, g3⟩
    obtain ⟨⟨d0, d1, d2⟩, _, HV5, hb5⟩ := HX.out _ (Below.refl _ _)
    obtain ⟨_, hb5⟩ := hb5
    clear hvx hbx
    go_wp2_with fail
    refine (implRespText_any m _ b n _ fs _ HV5.out (by omega) HW.out HBM.out (HTAB.out.below hb5)).mono ?_
    rintro e w5 ⟨u1, rfl, k1, k2, b5⟩
    rw [← hq]
    obtain rfl : u1 = u0 := by
      by_cases h : RespP m fs b
      · rw [k1 h, HU0.out.1 h]
      · rw [k2 h, HU0.out.2 h]
    have HB5 : Hid (Below (w4.alloc (.cells #[.int .i64 m, .slice oax n cpx, .string b] 38)).heap.size (w4.alloc (.cells #[.int .i64 m, .slice oax n cpx, .string b] 38)) w5) := b5
    clear d0 d1 d2 HV5 hb5 k1 k2 b5 hq HU0
    obtain ⟨⟨d0, d1, d2⟩, ⟨c0, c1, c2⟩, HV5, HA5, hb5⟩ := HX.out _ HB5.out
    have heq : (u1.toList == u1.toList) = true := by simp
    have HD : Hid (∀ W, Below w5.drew.heap.size w5.drew W → ((W.cell? ⟨q, 0, none⟩ = some (.int .i64 m) ∧ W.cell? ⟨q, 1, none⟩ = some (.slice oax n cpx) ∧ W.cell? ⟨q, 2, none⟩ = some (.string b)) ∧ W.cell? ⟨r, 0, none⟩ = some (.int .i64 m) ∧ W.cell? ⟨r, 1, none⟩ = some (.slice a n cap) ∧ W.cell? ⟨r, 2, none⟩ = some (.string b)) ∧ Hid (FieldsV W bx (.slice oax n cpx) n fs) ∧ Below w.heap.size w W) := fun W h => by
      obtain ⟨g1, g2, g3, _, g5⟩ := HX.out W (HB5.out.drew.trans (h.mono HB5.out.size))
      exact ⟨⟨g1, g2⟩, g3, g5⟩
    have HA6 : Hid (ArgF w5.drew w.heap.size a n fs) := (HX.out w5.drew HB5.out.drew).2.2.2.1
    have HS6 : w.heap.size ≤ w5.drew.heap.size := hb5.size
    go_wp2_with fail
    go_region_held3 (fun W => (W.cell? ⟨q, 0, none⟩ = some (.int .i64 m) ∧ W.cell? ⟨q, 1, none⟩ = some (.slice oax n cpx) ∧ W.cell? ⟨q, 2, none⟩ = some (.string b)) ∧ W.cell? ⟨r, 0, none⟩ = some (.int .i64 m) ∧ W.cell? ⟨r, 1, none⟩ = some (.slice a n cap) ∧ W.cell? ⟨r, 2, none⟩ = some (.string b)) (first | assumption | go_keep) (first | (go_at_call 14; refine (toResp_any m a n cap b fs w.heap.size _ HA6.out HS6 hn1).mono ?_; rintro e w6 ⟨t3, rfl, own3, b6⟩; obtain ⟨hS6, HV6, hb6⟩ := HD.out w6 b6; obtain ⟨o3, cp3, rfl, _⟩ := (FieldsV.of_owns own3).slice) | (go_at_call 16; refine (eqResp_any m _ _ b n _ _ fs _ HV6.out (FieldsV.of_owns own3) (by omega)).mono ?_; rintro e w7 ⟨rfl, b7⟩; obtain ⟨hS7, HV7, hb7⟩ := HD.out w7 (b6.trans (b7.mono b6.size))))
    go_wp2_with fail
    go_ret
    exact ⟨rfl, hb7⟩

set_option maxRecDepth 100000 in
theorem contract (H : Type) (enc : TypeId × Value → H) (W : World) (base : Nat) (args : Array Value) (ds gs : List (DataW H)) (before : List MemPlace)
    (hval : ∀ (j : Nat) t v, Tryd.f4.params[j]? = some t → args[j]? = some v → Value.okWide Tryd.prog W .any base t v)
    (hW : DataW.Whole enc Tryd.prog Tryd.f4.params.toList Rows.fnExactRespTextSpec.vars false W args.toList ds gs before) (hL : laidMetH Tryd.prog Rows.fnExactRespTextRow.laid W) (_hSh : W.ShapedOpen Tryd.prog) :
    Calls Tryd.prog 4 args W fun e W' => ∃ v, e = .returned v ∧ Rows.fnExactRespTextSpec.post enc Tryd.prog Tryd.f4 false true false false W args v W' := by
  have hT : TabOk W := table hL
  have hW' := hW
  obtain ⟨p, q, hA0, hV, rfl, hfz, hnd⟩ := hW
  have hA : DataW.TrodAll enc Tryd.prog W 0 (fun _ => true) true Tryd.f4.params.toList args.toList ds p := hA0
  rw [Tryd.params4] at hA hval
  obtain ⟨v0, vs0, d0, ds0, p0, q0, hargs, rfl, rfl, h0, r0⟩ := trodAll_cons hA
  obtain ⟨rfl, rfl, rfl⟩ := trodAll_nil r0
  obtain rfl : args = #[v0] := by cases args; simp_all
  obtain ⟨rfl, rfl⟩ := trodVars_none hV
  have k0 := h0
  have lt0 : ∀ x ∈ p0, x.block < W.heap.size := by obtain ⟨m, hm⟩ := k0; exact DataW.trod_lt m _ _ _ hm
  obtain ⟨m, a, n, cap, b, fs, rfl, g1, g2, g3, g5⟩ := openResp (hval 0 34 v0 rfl rfl) h0
  clear hA0
  refine (walk1 W m a n cap b fs g1 g2 g3 g5 hT).mono fun e W' ⟨he, bel⟩ => ?_
  subst he
  exact ⟨_, rfl, _, _, _, [], _, [], hW', trodAll_mk1 (shut_bool Tryd.underlying4 _), (trodAll_cons_mk (Below.trod laidOut (by kernel_rfl) (of_decide_eq_true (by kernel_rfl)) k0 bel lt0) trodAll_mk0), rfl, bel.frame _, fun h => by cases h⟩

theorem laid_met (os : Os) : laidMet Tryd.prog Rows.fnExactRespTextRow.laid ((withTables (World.holding Tryd.prog os ⟨#[], #[], []⟩)).forCall (fun _ _ => 0) ⟨#[], #[.agg #[.int .i64 0, .slice none 0 0, .string ByteArray.empty]], []⟩).memory :=
  laidMet_of_run' 80 (by kernel_rfl) (by kernel_rfl)
theorem reads (os : Os) {H : Type} (enc : TypeId × Value → H) : ∃ places, DataW.whole enc Tryd.prog ((withTables (World.holding Tryd.prog os ⟨#[], #[], []⟩)).forCall (fun _ _ => 0) ⟨#[], #[.agg #[.int .i64 0, .slice none 0 0, .string ByteArray.empty]], []⟩).memory Tryd.f4.params.toList Rows.fnExactRespTextSpec.vars false #[(.agg #[.int .i64 0, .slice none 0 0, .string ByteArray.empty] : Value)].toList 8 = some ([.agg [.lit (.int .i64 0), .nil, .lit (.string [])]], [], places) :=
  ⟨[], by kernel_rfl⟩

set_option maxRecDepth 100000 in
theorem lifted (os : Os) (started : os.Started) (H : Type) (enc : TypeId × Value → H) (F : Stop.Interp) :
    ReturnsInHanded {} Tryd.checked os 4 .any ((OpenSpec.ofChange Rows.fnExactRespTextSpec).preRow enc Tryd.prog Tryd.f4 Rows.fnExactRespTextRow.domain false Rows.fnExactRespTextRow.laid) (((OpenSpec.ofChange Rows.fnExactRespTextSpec).at F).post enc Tryd.prog Tryd.f4 false true false false) := by
  obtain ⟨places, hx⟩ := reads os enc
  refine returnsInHanded_of_row (C := Tryd.checked) (s := OpenSpec.ofChange Rows.fnExactRespTextSpec) own started (by kernel_rfl) Tryd.func4
    (witness_row_at (enc := enc) (C := Tryd.checked) false (withTables (World.holding Tryd.prog os ⟨#[], #[], []⟩)) #[.agg #[.int .i64 0, .slice none 0 0, .string ByteArray.empty]] rfl (by kernel_rfl) (by kernel_rfl) (by kernel_rfl)
      (OpenSpec.preRow_of_cond 8 hx (by kernel_rfl) (fun k hk => by cases hk) (by kernel_rfl) (laid_met os))) ?_
  intro W base args ds gs before hval hW _ _ _ hL hSh _
  exact contract H enc W base args ds gs before hval hW hL hSh

theorem said : Rows.FnExactRespTextSaid :=
  OpenClaim.holds_of_cond 4 Tryd.f4 rfl rfl rfl rfl rfl rfl rfl ⟨rfl, rfl, rfl, rfl, rfl⟩ rfl rfl rfl rfl rfl (by kernel_rfl) Tryd.func4 (by kernel_rfl)
    (of_decide_eq_true (by kernel_rfl)) (by unfold Func.isWrapper; first | (rw [if_pos (by decide +kernel)]; kernel_rfl) | (rw [if_neg (by decide +kernel)]; exact ⟨rfl, rfl⟩))
    (fun os started H enc _ F => by rw [OpenClaim.pre_eq_preRow]; exact lifted os started H enc F)

theorem plain (f : FuncId) (fn : Func) (hf : Tryd.pinned.checked.prog.funcNamed "loop.example/g00239/laws.FnExactRespText" = some f) (hfn : Tryd.pinned.checked.prog.funcs[f]? = some fn) :
    false = Tryd.pinned.checked.prog.looks [] ∧ ∀ (j : Nat) t, fn.params[j]? = some t → Tryd.pinned.checked.prog.wantsStandIn t = false := by
  obtain rfl : f = 4 := Option.some.inj ((show Tryd.prog.funcNamed "loop.example/g00239/laws.FnExactRespText" = some 4 by kernel_rfl).symm.trans hf) |>.symm
  obtain rfl : fn = Tryd.f4 := (Option.some.inj (Tryd.func4.symm.trans hfn)).symm
  refine ⟨by kernel_rfl, fun j t ht => ?_⟩
  rw [Tryd.params4] at ht
  obtain rfl : t = 34 := by simpa using Array.mem_of_getElem? ht
  exact (show Tryd.prog.wantsStandIn 34 = false by kernel_rfl)

theorem card : Rows.FnExactRespTextCardSaid :=
  Claim7.holds_tied_plain_at .later [] _ _ _ _ said (fun _ h => by cases h) (by kernel_rfl) (fun _ h => by cases h) fnExactRespText_row_tie rfl ⟨rfl, rfl⟩ (by kernel_rfl) rfl plain (by kernel_rfl)
end fnExactRespText

theorem fnExactRespText_holds : Rows.FnExactRespTextCardSaid := fnExactRespText.card
#print axioms fnExactRespText_holds
end Go.Proofs.YtjocljdifmlghaaDoor
