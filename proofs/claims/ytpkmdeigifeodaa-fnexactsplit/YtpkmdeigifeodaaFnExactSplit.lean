/- At every text Split of the program answers as the specification's Split, the list is memory of its own and stays as it is marked behind another call (the law answers true), and the text reads as it did: for every text, no condition. -/
import Derived.Test.YtpkmdeigifeodaaRowsOf
import Derived.Test.YtpkmdeigifeodaaRows
import Derived.WalkKit
import Derived.ProofKit
import Derived.OpenShut
import Derived.ShutString
import Derived.ChangeOld
import Derived.Below
namespace Go.Proofs.Ytpkmdeigifeodaa
namespace fnExactSplit
open Go.ChangeShapes Go.WideShapes Go.ChangeAt Go.RowKit
open Go.ChangeMaps (open_string shut_string)

theorem own : ownKnob Try.prog.godebug = none := by kernel_rfl

theorem splitL_len (s : ByteArray) : (splitL s).length ≤ s.size + 1 := by
  have h1 := (splitTo_le s s.size).2
  have h2 := addPart_len (splitTo s s.size).1 (trimOf (s.extract (splitTo s s.size).2 s.size))
  unfold splitL
  omega

set_option maxHeartbeats 1000000 in
theorem walk (a0 : ByteArray) (_w0 : a0.size ≤ maxLen) (w : World) :
    Calls Try.prog 9 #[.string a0] w fun e w' => e = .returned (.bool true) ∧ Below w.heap.size w w' := by
  by_cases hbig : (1048576 : Int) < (a0.size : Int)
  · go_enter Try.func9, Try.ntmps9
    go_wp2_with fail
    go_ret
    exact ⟨rfl, Below.refl _ _⟩
  · have hlen := splitL_len a0
    have hs : a0.size ≤ 1048576 := by omega
    obtain ⟨L, hL⟩ : ∃ L, L = splitL a0 := ⟨_, rfl⟩
    obtain ⟨n, hn⟩ : ∃ n, n = L.length := ⟨_, rfl⟩
    have hn2 : n ≤ 2000000 := by rw [hn, hL]; omega
    have C24 : Hid (∀ W, Calls Try.prog 24 #[.string a0] W fun e w' => ∃ v, e = .returned v ∧ w'.ownsRow W.heap.size 9 1 v n (L.map Value.string) ∧ Below W.heap.size W w') := fun W => by
      rw [hn, hL]; exact specSplit_any a0 W hs
    have C25 : Hid (∀ W, Calls Try.prog 25 #[.string a0] W fun e w' => ∃ v, e = .returned v ∧ w'.ownsRow W.heap.size 9 1 v n (L.map Value.string) ∧ Below W.heap.size W w') := fun W => by
      rw [hn, hL]; exact implSplit_any a0 W hs
    have hmk : Hid (∀ j, j < n → textAt (mkTo L n) j = markOf (j + 1)) := fun j hj => mkTo_at L j (by omega) n hj
    clear hL hn hlen
    have hq1 : ¬ (n : Int) + 1 < 0 := by omega
    have hq2 : ((n : Int) + 1 != (n : Int) + 1) = false := by simp
    go_enter Try.func9, Try.ntmps9
    go_wp2_with fail
    refine (C24.out _).mono ?_
    rintro e w1 ⟨v0, rfl, r0, b1⟩
    go_wp2_with fail
    refine (C25.out _).mono ?_
    rintro e w2 ⟨g0, rfl, r1, b2⟩
    have r0a := owns_below r0 b2 (fun g hg => owns_lt r0 hg)
    go_wp2_with fail
    refine (eqS_any g0 v0 n _ _ L _ r1 r0a hn2).mono ?_
    rintro e w3 ⟨rfl, b3⟩
    have r0b := owns_below r0a b3 (fun g hg => owns_lt r0a hg)
    have r1b := owns_below r1 b3 (fun g hg => owns_lt r1 hg)
    go_wp2_with fail
    refine (markS_any g0 n w1.heap.size L _ r1b (Nat.le_trans b2.size b3.size) hn2).mono ?_
    rintro e w4 ⟨rfl, r1c, b4⟩
    have r0c := owns_below r0b b4 (fun g hg => owns_lt r0 hg)
    go_wp2_with fail
    refine (heldS_any g0 n _ _ _ r1c hn2 hmk.out).mono ?_
    rintro e w5 ⟨rfl, b5⟩
    have r0d := owns_below r0c b5 (fun g hg => owns_lt r0c hg)
    have r1d := owns_below r1c b5 (fun g hg => owns_lt r1c hg)
    go_wp2_with fail
    refine (C25.out _).mono ?_
    rintro e w6 ⟨h0, rfl, r2, b6⟩
    have r0e := owns_below r0d b6 (fun g hg => owns_lt r0d hg)
    have r1e := owns_below r1d b6 (fun g hg => owns_lt r1d hg)
    go_wp2_with fail
    refine (eqS_any h0 v0 n _ _ L _ r2 r0e hn2).mono ?_
    rintro e w7 ⟨rfl, b7⟩
    have r1f := owns_below r1e b7 (fun g hg => owns_lt r1e hg)
    go_wp2_with fail
    refine (heldS_any g0 n _ _ _ r1f hn2 hmk.out).mono ?_
    rintro e w8 ⟨rfl, b8⟩
    have s1 := b1.size
    have s2 := b2.size
    have s3 := b3.size
    have s4 := b4.size
    have s5 := b5.size
    have s6 := b6.size
    have s7 := b7.size
    have hB : Below w.heap.size w w8 := (((((((b1.trans (b2.mono (by omega))).trans (b3.mono (by omega))).trans (b4.mono (by omega))).trans (b5.mono (by omega))).trans (b6.mono (by omega))).trans (b7.mono (by omega))).trans (b8.mono (by omega)))
    clear b1 b2 b3 b4 b5 b6 b7 b8 s1 s2 s3 s4 s5 s6 s7 r0 r0a r0b r0c r0d r0e r1 r1b r1c r1d r1e r1f r2
    go_wp2_with fail
    go_ret
    exact ⟨rfl, hB⟩

set_option maxRecDepth 100000 in
theorem lifted (os : Os) (started : os.Started) (H : Type) (enc : TypeId × Value → H) :
    ReturnsInHanded {} Try.checked os 9 .any (Rows.fnExactSplitSpec.pre6 enc Try.prog Try.f9 Rows.fnExactSplitRow.domain false) (Rows.fnExactSplitSpec.post enc Try.prog Try.f9 false true false false) := by
  refine returnsInHanded_of_change (C := Try.checked) own started (by kernel_rfl) Try.func9
    (ChangeSpec.witness6 (enc := enc) (C := Try.checked) false ⟨#[], #[.string ByteArray.empty], []⟩ 8 (by kernel_rfl) (by kernel_rfl) (by kernel_rfl) (by kernel_rfl)) ?_
  intro W base args ds gs before hval0 hW _ _
  have hval : ∀ (j : Nat) t v, Try.f9.params[j]? = some t → args[j]? = some v → Value.okWide Try.prog W .any base t v := hval0
  have hW' := hW
  obtain ⟨p, q, hA0, hV, rfl, hfz, hnd⟩ := hW
  have hA : DataW.TrodAll enc Try.prog W 0 (fun _ => true) true Try.f9.params.toList args.toList ds p := hA0
  rw [Try.params9] at hA hval
  obtain ⟨v0, vs0, d0, ds0, p0, q0, hargs, rfl, rfl, h0, r0⟩ := trodAll_cons hA
  obtain ⟨rfl, rfl, rfl⟩ := trodAll_nil r0
  obtain rfl : args = #[v0] := by cases args; simp_all
  obtain ⟨rfl, rfl⟩ := trodVars_none hV
  obtain ⟨a0, rfl, rfl, rfl, w0⟩ := open_string Try.underlying9 (hval 0 9 v0 rfl rfl) h0
  clear hA0 hval0
  simp only [List.append_nil] at hW'
  refine (walk a0 w0 W).mono fun e W' ⟨he, bel⟩ => ?_
  subst he
  exact ⟨_, rfl, _, _, _, [], [], [], hW', trodAll_mk1 (shut_bool Try.underlying4 _), (trodAll_cons_mk (shut_string Try.underlying9 w0) trodAll_mk0), rfl, bel.frame _, fun h => by cases h⟩

theorem over : Rows.fnExactSplitRow.holds Try.pinned (OpenSpec.ofChange Rows.fnExactSplitSpec) :=
  OpenClaim.holds_of_wide 9 Try.f9 rfl rfl rfl rfl rfl rfl rfl ⟨rfl, rfl, rfl, rfl, rfl⟩ rfl rfl rfl rfl rfl (by kernel_rfl) Try.func9 (by kernel_rfl)
    (of_decide_eq_true (by kernel_rfl)) (by unfold Func.isWrapper; first | (rw [if_pos (by decide +kernel)]; kernel_rfl) | (rw [if_neg (by decide +kernel)]; exact ⟨rfl, rfl⟩))
    (fun os started H enc _ => lifted os started H enc)
end fnExactSplit

theorem fnExactSplit_holds : Rows.FnExactSplitSaid := fnExactSplit.over
#print axioms fnExactSplit_holds
end Go.Proofs.Ytpkmdeigifeodaa
