/- What is made small of a drawn text stays so, and is as long; words and values are told as the specification tells them (the law answers true), and the code reads as it did: for every code, no condition. -/
import Derived.Test.YtpkmdeigifeodaaDraw
import Derived.Test.YtpkmdeigifeodaaRows
import Derived.WalkKit
import Derived.ProofKit
import Derived.OpenShut
import Derived.ShutString
import Derived.ChangeOld
import Derived.Below
namespace Go.Proofs.Ytpkmdeigifeodaa
namespace fnSmall
open Go.ChangeShapes Go.WideShapes Go.ChangeAt Go.RowKit
open Go.ChangeMaps (open_string shut_string)

theorem own : ownKnob Try.prog.godebug = none := by kernel_rfl
theorem laidOut : laidOutB Try.prog = true := by kernel_rfl

theorem lowB_idem (n : Int) : lowB (lowB n) = lowB n := by
  unfold lowB; split <;> (try split) <;> omega
theorem lowB_range (b : UInt8) : 0 ≤ lowB (b.toNat : Int) ∧ lowB (b.toNat : Int) ≤ 255 := by
  have := b.toNat_lt
  unfold lowB; split <;> omega
theorem lowerOf_size (s : ByteArray) : (lowerOf s).size = s.size := by unfold lowerOf; rw [strOfNums_size, lowXs_len]
theorem lowerOf_idem (s : ByteArray) : lowerOf (lowerOf s) = lowerOf s := by
  have h : lowXs (lowerOf s) = lowXs s := by
    show (lowerOf s).data.toList.map _ = lowXs s
    unfold lowerOf
    rw [strOfNums_data]
    unfold lowXs
    rw [List.map_map, List.map_map]
    apply List.map_congr_left
    intro b _
    have h1 := lowB_range b
    have h2 : ((UInt8.ofNat (lowB (b.toNat : Int)).toNat).toNat : Int) = lowB (b.toNat : Int) := by
      rw [UInt8.toNat_ofNat']
      omega
    simp only [Function.comp]
    rw [h2, lowB_idem]
  show strOfNums (lowXs (lowerOf s)) = strOfNums (lowXs s)
  rw [h]
theorem lowerOf_tok {t : ByteArray} (h : TokOk t) : lowerOf t = t := by
  have h1 : lowXs t = t.data.toList.map (fun b => (b.toNat : Int)) := by
    unfold lowXs
    apply List.map_congr_left
    intro b hb
    obtain ⟨j, hj, rfl⟩ := List.getElem_of_mem hb
    have := h.2.2 j (by simpa using hj)
    have e : (t.data.toList[j]'hj) = t[j]'(by simpa using hj) := rfl
    rw [e]
    unfold TokB at this
    unfold lowB
    rw [if_neg (by omega)]
  unfold lowerOf
  rw [h1]
  apply ByteArray.ext
  apply Array.toList_inj.1
  rw [strOfNums_data, List.map_map]
  have : (fun n : Int => UInt8.ofNat n.toNat) ∘ (fun b : UInt8 => (b.toNat : Int)) = id := by
    funext b; simp
  rw [this, List.map_id]
theorem tok_val {t : ByteArray} (h : TokOk t) : ValOk t := by
  refine ⟨h.1, by have := h.2.1; omega, fun j hj => ?_, ?_⟩
  · have := h.2.2 j hj; unfold TokB at this; unfold ValB; omega
  · apply (trim_self_iff t h.1).2
    have h1 := h.1
    have a1 := h.2.2 0 (by omega)
    have a2 := h.2.2 (t.size - 1) (by omega)
    unfold TokB at a1 a2
    omega

theorem below_chain {w w1 w2 : World} (h : Below w.heap.size w w1) (k : Below w1.heap.size w1 w2) : Below w.heap.size w w2 := h.trans (k.mono h.size)

/-- What the walk is told of a slice of bytes that came in. -/
def IsRow (k : IntKind) (w : World) (a : Option Addr) (len cap : Nat) (zs : List Int) : Prop :=
  (a = none ∧ len = 0 ∧ cap = 0 ∧ zs = []) ∨
  ∃ x, a = some x ∧ len ≤ cap ∧ cap ≤ maxLen ∧ zs.length = cap ∧ (∀ i, i < zs.length → w.cell? (x.add i) = some (.int k (zs.getD i 0))) ∧ ∀ n ∈ zs, (Lit.int k n).wf = true
theorem IsRow.code {w : World} {a : Option Addr} {len cap : Nat} {zs : List Int} (h : IsRow .u8 w a len cap zs) (hl : len ≤ 1048576) : CodeAt w w.heap.size a len zs := by
  refine ⟨hl, fun j hj => ?_⟩
  rcases h with ⟨rfl, rfl, _, _⟩ | ⟨x, rfl, h1, _, h3, h4, h5⟩
  · omega
  · obtain ⟨b, off, spot⟩ := x
    have hc := h4 j (by omega)
    have hspot : spot = none := by
      have := World.cell?_spot (h4 0 (by omega))
      simpa [Addr.add] using this
    subst hspot
    have hc2 : w.cell? ⟨b, off + j, none⟩ = some (.int .u8 (zs.getD j 0)) := by
      by_cases e : j = 0
      · subst e; simpa [Addr.add] using hc
      · simpa [Addr.add, e] using hc
    have hm : zs.getD j 0 ∈ zs := by
      rw [List.getD_eq_getElem?_getD, List.getElem?_eq_getElem (by omega)]
      exact List.getElem_mem _
    have hw := h5 _ hm
    have hr := bounds_u8 hw
    exact ⟨b, off, rfl, World.block_lt_of_cell? _ _ hc2, hc2, hr.1, by omega⟩

set_option maxHeartbeats 2000000 in
theorem walk (a0 : Option Addr) (len0 cap0 : Nat) (z0 : List Int) (w : World) (w0 : IsRow .u8 w a0 len0 cap0 z0) :
    Calls Try.prog 3 #[.slice a0 len0 cap0] w fun e w' => e = .returned (.bool true) ∧ Below w.heap.size w w' := by
  by_cases hbig : (1048576 : Int) < (len0 : Int)
  · go_enter Try.func3, Try.ntmps3
    go_wp2
    go_ret
    exact ⟨rfl, Below.refl _ _⟩
  · have hcode := w0.code (by omega)
    clear w0
    go_enter Try.func3, Try.ntmps3
    go_wp2_with (go_at_call 10; go_in)
    refine (drawLower_any a0 len0 cap0 z0 _ hcode).mono ?_
    rintro e w1 ⟨s, rfl, hs, hb1⟩
    go_wp2_with fail
    refine (implLower_any s _).mono ?_
    rintro e w2 ⟨rfl, b2⟩
    have hb2 := below_chain hb1 b2
    go_wp2_with fail
    refine (drawTokenOk_any a0 len0 cap0 z0 _ ((hcode.below hb2).upTo hb2.size)).mono ?_
    rintro e w3 ⟨t, rfl, ht, b3⟩
    have hb3 := below_chain hb2 b3
    go_wp2_with fail
    refine (drawValueOk_any a0 len0 cap0 z0 _ ((hcode.below hb3).upTo hb3.size)).mono ?_
    rintro e w4 ⟨v, rfl, hv, b4⟩
    have hb4 := below_chain hb3 b4
    have htm : t.size ≤ maxLen := by unfold maxLen; omega
    have hvm : v.size ≤ maxLen := by unfold maxLen; omega
    have hlen := lowerOf_size s
    have hidem : Hid (lowerOf (lowerOf s) = lowerOf s) := lowerOf_idem s
    clear b2 b3 b4 hb1 hb2 hb3 hcode
    by_cases hT0 : TokOk t
    · have hT : Hid (TokOk t) := hT0
      have hLt : Hid (lowerOf t = t) := lowerOf_tok hT0
      have hVt : Hid (ValOk t) := tok_val hT0
      clear hT0
      by_cases hV0 : ValOk v
      · have hV : Hid (ValOk v) := hV0
        have hTv : Hid (trimOf v = v) := hV0.2.2.2
        clear hV0
        go_wp2_with fail
        refine (specLower_any s _ (by omega)).mono ?_
        rintro e w5 ⟨rfl, b5⟩
        go_wp2_with fail
        refine (implLower_any (lowerOf s) _).mono ?_
        rintro e w6 ⟨rfl, b6⟩
        rw [hidem.out]
        go_wp2_with fail
        refine (implTokenOk_any t _ htm).mono ?_
        rintro e w7 ⟨c1, rfl, k1, b7⟩
        obtain rfl : c1 = true := k1.2 hT.out
        clear k1
        go_wp2_with fail
        refine (specTokenOk_any t _ htm).mono ?_
        rintro e w8 ⟨c2, rfl, k2, b8⟩
        obtain rfl : c2 = true := k2.2 hT.out
        clear k2
        go_wp2_with fail
        refine (implValueOk_any v _ hvm).mono ?_
        rintro e w9 ⟨c3, rfl, k3, b9⟩
        obtain rfl : c3 = true := k3.2 hV.out
        clear k3
        go_wp2_with fail
        refine (specValueOk_any v _ hvm).mono ?_
        rintro e w10 ⟨c4, rfl, k4, b10⟩
        obtain rfl : c4 = true := k4.2 hV.out
        clear k4
        go_wp2_with fail
        refine (implTokenOk_any t _ htm).mono ?_
        rintro e w11 ⟨c5, rfl, k5, b11⟩
        obtain rfl : c5 = true := k5.2 hT.out
        clear k5
        go_wp2_with fail
        refine (implLower_any t _).mono ?_
        rintro e w12 ⟨rfl, b12⟩
        rw [hLt.out]
        go_wp2_with fail
        refine (implValueOk_any t _ htm).mono ?_
        rintro e w13 ⟨c6, rfl, k6, b13⟩
        obtain rfl : c6 = true := k6.2 hVt.out
        clear k6
        go_wp2_with fail
        refine (implValueOk_any v _ hvm).mono ?_
        rintro e w14 ⟨c7, rfl, k7, b14⟩
        obtain rfl : c7 = true := k7.2 hV.out
        clear k7
        go_wp2_with fail
        refine (implTrim_any v _ (by omega)).mono ?_
        rintro e w15 ⟨rfl, b15⟩
        rw [hTv.out]
        have hB := hb4
        have hB := below_chain hB b5
        have hB := below_chain hB b6
        have hB := below_chain hB b7
        have hB := below_chain hB b8
        have hB := below_chain hB b9
        have hB := below_chain hB b10
        have hB := below_chain hB b11
        have hB := below_chain hB b12
        have hB := below_chain hB b13
        have hB := below_chain hB b14
        have hB := below_chain hB b15
        go_wp2_with fail
        go_ret
        exact ⟨rfl, hB⟩
      · have hV : Hid (¬ ValOk v) := hV0
        clear hV0
        go_wp2_with fail
        refine (specLower_any s _ (by omega)).mono ?_
        rintro e w5 ⟨rfl, b5⟩
        go_wp2_with fail
        refine (implLower_any (lowerOf s) _).mono ?_
        rintro e w6 ⟨rfl, b6⟩
        rw [hidem.out]
        go_wp2_with fail
        refine (implTokenOk_any t _ htm).mono ?_
        rintro e w7 ⟨c1, rfl, k1, b7⟩
        obtain rfl : c1 = true := k1.2 hT.out
        clear k1
        go_wp2_with fail
        refine (specTokenOk_any t _ htm).mono ?_
        rintro e w8 ⟨c2, rfl, k2, b8⟩
        obtain rfl : c2 = true := k2.2 hT.out
        clear k2
        go_wp2_with fail
        refine (implValueOk_any v _ hvm).mono ?_
        rintro e w9 ⟨c3, rfl, k3, b9⟩
        obtain rfl : c3 = false := by cases c3 with | false => rfl | true => exact absurd (k3.1 rfl) hV.out
        clear k3
        go_wp2_with fail
        refine (specValueOk_any v _ hvm).mono ?_
        rintro e w10 ⟨c4, rfl, k4, b10⟩
        obtain rfl : c4 = false := by cases c4 with | false => rfl | true => exact absurd (k4.1 rfl) hV.out
        clear k4
        go_wp2_with fail
        refine (implTokenOk_any t _ htm).mono ?_
        rintro e w11 ⟨c5, rfl, k5, b11⟩
        obtain rfl : c5 = true := k5.2 hT.out
        clear k5
        go_wp2_with fail
        refine (implLower_any t _).mono ?_
        rintro e w12 ⟨rfl, b12⟩
        rw [hLt.out]
        go_wp2_with fail
        refine (implValueOk_any t _ htm).mono ?_
        rintro e w13 ⟨c6, rfl, k6, b13⟩
        obtain rfl : c6 = true := k6.2 hVt.out
        clear k6
        go_wp2_with fail
        refine (implValueOk_any v _ hvm).mono ?_
        rintro e w14 ⟨c7, rfl, k7, b14⟩
        obtain rfl : c7 = false := by cases c7 with | false => rfl | true => exact absurd (k7.1 rfl) hV.out
        clear k7
        have hB := hb4
        have hB := below_chain hB b5
        have hB := below_chain hB b6
        have hB := below_chain hB b7
        have hB := below_chain hB b8
        have hB := below_chain hB b9
        have hB := below_chain hB b10
        have hB := below_chain hB b11
        have hB := below_chain hB b12
        have hB := below_chain hB b13
        have hB := below_chain hB b14
        go_wp2_with fail
        go_ret
        exact ⟨rfl, hB⟩
    · have hT : Hid (¬ TokOk t) := hT0
      clear hT0
      by_cases hV0 : ValOk v
      · have hV : Hid (ValOk v) := hV0
        have hTv : Hid (trimOf v = v) := hV0.2.2.2
        clear hV0
        go_wp2_with fail
        refine (specLower_any s _ (by omega)).mono ?_
        rintro e w5 ⟨rfl, b5⟩
        go_wp2_with fail
        refine (implLower_any (lowerOf s) _).mono ?_
        rintro e w6 ⟨rfl, b6⟩
        rw [hidem.out]
        go_wp2_with fail
        refine (implTokenOk_any t _ htm).mono ?_
        rintro e w7 ⟨c1, rfl, k1, b7⟩
        obtain rfl : c1 = false := by cases c1 with | false => rfl | true => exact absurd (k1.1 rfl) hT.out
        clear k1
        go_wp2_with fail
        refine (specTokenOk_any t _ htm).mono ?_
        rintro e w8 ⟨c2, rfl, k2, b8⟩
        obtain rfl : c2 = false := by cases c2 with | false => rfl | true => exact absurd (k2.1 rfl) hT.out
        clear k2
        go_wp2_with fail
        refine (implValueOk_any v _ hvm).mono ?_
        rintro e w9 ⟨c3, rfl, k3, b9⟩
        obtain rfl : c3 = true := k3.2 hV.out
        clear k3
        go_wp2_with fail
        refine (specValueOk_any v _ hvm).mono ?_
        rintro e w10 ⟨c4, rfl, k4, b10⟩
        obtain rfl : c4 = true := k4.2 hV.out
        clear k4
        go_wp2_with fail
        refine (implTokenOk_any t _ htm).mono ?_
        rintro e w11 ⟨c5, rfl, k5, b11⟩
        obtain rfl : c5 = false := by cases c5 with | false => rfl | true => exact absurd (k5.1 rfl) hT.out
        clear k5
        go_wp2_with fail
        refine (implValueOk_any v _ hvm).mono ?_
        rintro e w14 ⟨c7, rfl, k7, b14⟩
        obtain rfl : c7 = true := k7.2 hV.out
        clear k7
        go_wp2_with fail
        refine (implTrim_any v _ (by omega)).mono ?_
        rintro e w15 ⟨rfl, b15⟩
        rw [hTv.out]
        have hB := hb4
        have hB := below_chain hB b5
        have hB := below_chain hB b6
        have hB := below_chain hB b7
        have hB := below_chain hB b8
        have hB := below_chain hB b9
        have hB := below_chain hB b10
        have hB := below_chain hB b11
        have hB := below_chain hB b14
        have hB := below_chain hB b15
        go_wp2_with fail
        go_ret
        exact ⟨rfl, hB⟩
      · have hV : Hid (¬ ValOk v) := hV0
        clear hV0
        go_wp2_with fail
        refine (specLower_any s _ (by omega)).mono ?_
        rintro e w5 ⟨rfl, b5⟩
        go_wp2_with fail
        refine (implLower_any (lowerOf s) _).mono ?_
        rintro e w6 ⟨rfl, b6⟩
        rw [hidem.out]
        go_wp2_with fail
        refine (implTokenOk_any t _ htm).mono ?_
        rintro e w7 ⟨c1, rfl, k1, b7⟩
        obtain rfl : c1 = false := by cases c1 with | false => rfl | true => exact absurd (k1.1 rfl) hT.out
        clear k1
        go_wp2_with fail
        refine (specTokenOk_any t _ htm).mono ?_
        rintro e w8 ⟨c2, rfl, k2, b8⟩
        obtain rfl : c2 = false := by cases c2 with | false => rfl | true => exact absurd (k2.1 rfl) hT.out
        clear k2
        go_wp2_with fail
        refine (implValueOk_any v _ hvm).mono ?_
        rintro e w9 ⟨c3, rfl, k3, b9⟩
        obtain rfl : c3 = false := by cases c3 with | false => rfl | true => exact absurd (k3.1 rfl) hV.out
        clear k3
        go_wp2_with fail
        refine (specValueOk_any v _ hvm).mono ?_
        rintro e w10 ⟨c4, rfl, k4, b10⟩
        obtain rfl : c4 = false := by cases c4 with | false => rfl | true => exact absurd (k4.1 rfl) hV.out
        clear k4
        go_wp2_with fail
        refine (implTokenOk_any t _ htm).mono ?_
        rintro e w11 ⟨c5, rfl, k5, b11⟩
        obtain rfl : c5 = false := by cases c5 with | false => rfl | true => exact absurd (k5.1 rfl) hT.out
        clear k5
        go_wp2_with fail
        refine (implValueOk_any v _ hvm).mono ?_
        rintro e w14 ⟨c7, rfl, k7, b14⟩
        obtain rfl : c7 = false := by cases c7 with | false => rfl | true => exact absurd (k7.1 rfl) hV.out
        clear k7
        have hB := hb4
        have hB := below_chain hB b5
        have hB := below_chain hB b6
        have hB := below_chain hB b7
        have hB := below_chain hB b8
        have hB := below_chain hB b9
        have hB := below_chain hB b10
        have hB := below_chain hB b11
        have hB := below_chain hB b14
        go_wp2_with fail
        go_ret
        exact ⟨rfl, hB⟩

set_option maxRecDepth 100000 in
theorem lifted (os : Os) (started : os.Started) (H : Type) (enc : TypeId × Value → H) :
    ReturnsInHanded {} Try.checked os 3 .any (Rows.fnSmallSpec.pre6 enc Try.prog Try.f3 Rows.fnSmallRow.domain false) (Rows.fnSmallSpec.post enc Try.prog Try.f3 false true false false) := by
  refine returnsInHanded_of_change (C := Try.checked) own started (by kernel_rfl) Try.func3
    (ChangeSpec.witness6 (enc := enc) (C := Try.checked) false ⟨#[], #[.slice none 0 0], []⟩ 8 (by kernel_rfl) (by kernel_rfl) (by kernel_rfl) (by kernel_rfl)) ?_
  intro W base args ds gs before hval0 hW _ _
  have hval : ∀ (j : Nat) t v, Try.f3.params[j]? = some t → args[j]? = some v → Value.okWide Try.prog W .any base t v := hval0
  have hW' := hW
  obtain ⟨p, q, hA0, hV, rfl, hfz, hnd⟩ := hW
  have hA : DataW.TrodAll enc Try.prog W 0 (fun _ => true) true Try.f3.params.toList args.toList ds p := hA0
  rw [Try.params3] at hA hval
  obtain ⟨v0, vs0, d0, ds0, p0, q0, hargs, rfl, rfl, h0, r0⟩ := trodAll_cons hA
  obtain ⟨rfl, rfl, rfl⟩ := trodAll_nil r0
  obtain rfl : args = #[v0] := by cases args; simp_all
  obtain ⟨rfl, rfl⟩ := trodVars_none hV
  obtain ⟨a0, len0, cap0, rfl⟩ := okWide_slice Try.underlying22 (hval 0 22 v0 rfl rfl)
  have k0 := h0
  have lt0 : ∀ x ∈ p0, x.block < W.heap.size := by obtain ⟨m, hm⟩ := k0; exact DataW.trod_lt m _ _ _ hm
  obtain ⟨z0, w0⟩ : ∃ zs, IsRow .u8 W a0 len0 cap0 zs := by
    obtain ⟨fuel, hf⟩ := h0
    rcases open_ints Try.underlying22 Try.underlying5 (by kernel_rfl) hf with ⟨hcs, _⟩ | ⟨x, l, c, zs, hcs, _, hl, hm, hz, _, hcell, hwz⟩
    · simp [Value.cells] at hcs
      obtain ⟨rfl, rfl, rfl⟩ := hcs
      exact ⟨[], .inl ⟨rfl, rfl, rfl, rfl⟩⟩
    · simp [Value.cells] at hcs
      obtain ⟨rfl, rfl, rfl⟩ := hcs
      exact ⟨zs, .inr ⟨_, rfl, hl, hm, by simpa using hz, hcell, hwz⟩⟩
  clear hA0 hval0
  refine (walk a0 len0 cap0 z0 W w0).mono fun e W' ⟨he, bel⟩ => ?_
  subst he
  exact ⟨_, rfl, _, _, _, [], _, [], hW', trodAll_mk1 (shut_bool Try.underlying4 _), (trodAll_cons_mk (Below.trod laidOut (by kernel_rfl) (of_decide_eq_true (by kernel_rfl)) k0 bel lt0) trodAll_mk0), rfl, bel.frame _, fun h => by cases h⟩

theorem over : Rows.fnSmallRow.holds Try.pinned (OpenSpec.ofChange Rows.fnSmallSpec) :=
  OpenClaim.holds_of_wide 3 Try.f3 rfl rfl rfl rfl rfl rfl rfl ⟨rfl, rfl, rfl, rfl, rfl⟩ rfl rfl rfl rfl rfl (by kernel_rfl) Try.func3 (by kernel_rfl)
    (of_decide_eq_true (by kernel_rfl)) (by unfold Func.isWrapper; first | (rw [if_pos (by decide +kernel)]; kernel_rfl) | (rw [if_neg (by decide +kernel)]; exact ⟨rfl, rfl⟩))
    (fun os started H enc _ => lifted os started H enc)
end fnSmall

theorem fnSmall_holds : Rows.FnSmallSaid := fnSmall.over
#print axioms fnSmall_holds
end Go.Proofs.Ytpkmdeigifeodaa
