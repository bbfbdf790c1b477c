/- Ages, in plain words, and 'Plus', 'AgeAt', 'Life', 'Fresh' of the specification: contracts over the translation. -/
import Derived.Test.YtnlifhmobmgpcaaCtlSpec
namespace Go.Proofs.Ytnlifhmobmgpcaa
open Go.RowKit
open Go.Lib hiding intOf

def plusI (a b : Int) : Int := min (min (max a 0) 1000000 + min (max b 0) 1000000) 1000000
def sinceI (t now : Int) : Int := if now ≤ t then 0 else min (now - t) 1000000
def ageName : ByteArray := ⟨#[97, 103, 101]⟩
open Classical in
/-- The age that fields tell. -/
noncomputable def ageN (fs : List (ByteArray × ByteArray)) : Int := if getB fs ageName = true ∧ ¬ NumOk (getV fs ageName) then 1000000 else numV (getV fs ageName)
noncomputable def ageAt (fs : List (ByteArray × ByteArray)) (t now : Int) : Int := plusI (ageN fs) (sinceI t now)
noncomputable def lifeOf (fs : List (ByteArray × ByteArray)) : Int := (ccR (getV fs ccName)).age
noncomputable def freshOf (fs : List (ByteArray × ByteArray)) (t now : Int) : Bool := decide (ageAt fs t now < lifeOf fs) && !(ccR (getV fs ccName)).nc
theorem plusI_comm (a b : Int) : plusI a b = plusI b a := by unfold plusI; omega
theorem plusI_in (a b : Int) : 0 ≤ plusI a b ∧ plusI a b ≤ 1000000 := by unfold plusI; omega
theorem sinceI_in (t now : Int) : 0 ≤ sinceI t now ∧ sinceI t now ≤ 1000000 := by unfold sinceI; split <;> omega
theorem sinceI_mono (t : Int) {a b : Int} (h : a ≤ b) : sinceI t a ≤ sinceI t b := by unfold sinceI; split <;> split <;> omega
theorem ageAt_in (fs : List (ByteArray × ByteArray)) (t now : Int) : 0 ≤ ageAt fs t now ∧ ageAt fs t now ≤ 1000000 := plusI_in _ _
theorem ageAt_mono (fs : List (ByteArray × ByteArray)) (t : Int) {a b : Int} (h : a ≤ b) : ageAt fs t a ≤ ageAt fs t b := by
  have := sinceI_mono t h
  unfold ageAt plusI
  omega
theorem ageN_in (fs : List (ByteArray × ByteArray)) : 0 ≤ ageN fs ∧ ageN fs ≤ 1000000 := by
  have := numV_in (getV fs ageName)
  unfold ageN
  split <;> omega
/-- Who is fresh later was fresh ahead. -/
theorem fresh_ahead (fs : List (ByteArray × ByteArray)) (t : Int) {a b : Int} (h : a ≤ b) (hf : freshOf fs t b = true) : freshOf fs t a = true := by
  have hm := ageAt_mono fs t h
  unfold freshOf at *
  rw [Bool.and_eq_true, decide_eq_true_iff] at *
  exact ⟨by omega, hf.2⟩

set_option maxHeartbeats 1000000 in
theorem specPlus_any (a b : Int) (w : World) :
    Calls Try.prog 20 #[.int .i64 a, .int .i64 b] w fun e w' => e = .returned (.int .i64 (plusI a b)) ∧ w' = w := by
  have u1 : 0 ≤ min (max a 0) 1000000 ∧ min (max a 0) 1000000 ≤ 1000000 := by omega
  have u2 : 0 ≤ min (max b 0) 1000000 ∧ min (max b 0) 1000000 ≤ 1000000 := by omega
  have HP : Hid (plusI a b = min (min (max a 0) 1000000 + min (max b 0) 1000000) 1000000) := rfl
  obtain ⟨x, hx⟩ : ∃ x, x = min (max a 0) 1000000 := ⟨_, rfl⟩
  obtain ⟨y, hy⟩ : ∃ y, y = min (max b 0) 1000000 := ⟨_, rfl⟩
  rw [← hx, ← hy] at HP
  rw [← hx] at u1
  rw [← hy] at u2
  have HX : Hid (min (max a 0) 1000000 = x) := hx.symm
  have HY : Hid (min (max b 0) 1000000 = y) := hy.symm
  clear hx hy
  go_enter Try.func20, Try.ntmps20
  go_wp2_with fail
  refine (l1Max_any _ _ _).mono ?_
  rintro e w1 ⟨rfl, rfl⟩
  go_wp2_with fail
  refine (l1Min_any _ _ _).mono ?_
  rintro e w2 ⟨rfl, rfl⟩
  rw [HX.out]
  go_wp2_with fail
  refine (l1Max_any _ _ _).mono ?_
  rintro e w3 ⟨rfl, rfl⟩
  go_wp2_with fail
  refine (l1Min_any _ _ _).mono ?_
  rintro e w4 ⟨rfl, rfl⟩
  rw [HY.out]
  go_wp2_with fail
  refine (l1Min_any _ _ _).mono ?_
  rintro e w5 ⟨rfl, rfl⟩
  go_wp2_with fail
  go_ret
  exact ⟨by rw [HP.out]; rfl, rfl⟩

set_option maxHeartbeats 1000000 in
theorem l7Since_any (t now : Int) (w : World) (h0 : -9223372036854775808 ≤ t) (h1 : now ≤ 9223372036854775807) :
    Calls Try.prog 34 #[.int .i64 t, .int .i64 now] w fun e w' => e = .returned (.int .i64 (sinceI t now)) ∧ w' = w := by
  by_cases hle : now ≤ t
  · have HE : Hid (sinceI t now = 0) := by show _ = _; unfold sinceI; rw [if_pos hle]
    go_enter Try.func34, Try.ntmps34
    go_wp2_with fail
    go_ret
    exact ⟨by rw [HE.out]; rfl, rfl⟩
  · by_cases ht : t < 0
    · have u1 : -9223372036854775808 ≤ t + 1000000 ∧ t + 1000000 ≤ 9223372036854775807 := by omega
      by_cases hn : t + 1000000 < now
      · have HE : Hid (sinceI t now = 1000000) := by show _ = _; unfold sinceI; rw [if_neg hle]; omega
        go_enter Try.func34, Try.ntmps34
        go_wp2_with fail
        go_ret
        exact ⟨by rw [HE.out]; rfl, rfl⟩
      · have u2 : -9223372036854775808 ≤ now - t ∧ now - t ≤ 9223372036854775807 := by omega
        have HE : Hid (sinceI t now = min (now - t) 1000000) := by show _ = _; unfold sinceI; rw [if_neg hle]
        go_enter Try.func34, Try.ntmps34
        go_wp2_with fail
        refine (l1Min_any _ _ _).mono ?_
        rintro e w1 ⟨rfl, rfl⟩
        go_wp2_with fail
        go_ret
        exact ⟨by rw [HE.out]; rfl, rfl⟩
    · have u2 : -9223372036854775808 ≤ now - t ∧ now - t ≤ 9223372036854775807 := by omega
      have HE : Hid (sinceI t now = min (now - t) 1000000) := by show _ = _; unfold sinceI; rw [if_neg hle]
      go_enter Try.func34, Try.ntmps34
      go_wp2_with fail
      refine (l1Min_any _ _ _).mono ?_
      rintro e w1 ⟨rfl, rfl⟩
      go_wp2_with fail
      go_ret
      exact ⟨by rw [HE.out]; rfl, rfl⟩

set_option maxHeartbeats 1000000 in
theorem specAgeAt_any (v : Value) (n base : Nat) (fs : List (ByteArray × ByteArray)) (t now : Int) (w : World) (hv : FieldsV w base v n fs) (hn : n ≤ 1073741824) (hsz : (getV fs ageName).size ≤ maxLen) (h0 : -9223372036854775808 ≤ t) (h1 : now ≤ 9223372036854775807) :
    Calls Try.prog 15 #[v, .int .i64 t, .int .i64 now] w fun e w' => e = .returned (.int .i64 (ageAt fs t now)) ∧ Below w.heap.size w w' := by
  obtain ⟨s, hs⟩ : ∃ s, s = getV fs ageName := ⟨_, rfl⟩
  obtain ⟨th, hth⟩ : ∃ b, b = getB fs ageName := ⟨_, rfl⟩
  have HS : Hid (getV fs ageName = s) := hs.symm
  have HT : Hid (getB fs ageName = th) := hth.symm
  rw [← hs] at hsz
  clear hs hth
  go_enter Try.func15, Try.ntmps15
  go_wp2_with fail
  refine (specGet_any v n base fs ageName _ hv hn).mono ?_
  rintro e w1 ⟨rfl, rfl⟩
  rw [HS.out, HT.out]
  clear hv
  go_wp2_with fail
  refine (specNumRead_any s _ hsz).mono ?_
  rintro e w2 ⟨b, x, rfl, hb1, hb2, hb3, b2⟩
  have HB : Hid (Below w1.heap.size w1 w2) := b2
  have HX : Hid (numV s = x) := by
    show _ = _
    unfold numV
    cases b with
    | true => rw [if_pos (hb1.1 rfl), hb2 rfl]
    | false => rw [if_neg (fun h => nomatch hb1.2 h), hb3 rfl]
  have HA : Hid (ageN fs = if th = true ∧ b = false then 1000000 else x) := by
    show _ = _
    unfold ageN
    rw [HS.out, HT.out, HX.out]
    cases b with
    | true => rw [if_neg (fun h => h.2 (hb1.1 rfl)), if_neg (fun h => nomatch h.2)]
    | false =>
      by_cases hth : th = true
      · rw [if_pos ⟨hth, fun h => nomatch hb1.2 h⟩, if_pos ⟨hth, rfl⟩]
      · rw [if_neg (fun h => hth h.1), if_neg (fun h => hth h.1)]
  clear hb1 hb2 hb3 b2
  cases th with
  | true =>
    cases b with
    | true =>
      have HE : Hid (ageAt fs t now = plusI x (sinceI t now)) := by show _ = _; unfold ageAt; rw [HA.out, if_neg (fun h => nomatch h.2)]
      go_wp2_with fail
      refine (l7Since_any t now _ h0 h1).mono ?_
      rintro e w3 ⟨rfl, rfl⟩
      go_wp2_with fail
      refine (specPlus_any _ _ _).mono ?_
      rintro e w4 ⟨rfl, rfl⟩
      go_wp2_with fail
      go_ret
      exact ⟨by rw [HE.out]; rfl, HB.out⟩
    | false =>
      have HE : Hid (ageAt fs t now = plusI 1000000 (sinceI t now)) := by show _ = _; unfold ageAt; rw [HA.out, if_pos ⟨rfl, rfl⟩]
      go_wp2_with fail
      refine (l7Since_any t now _ h0 h1).mono ?_
      rintro e w3 ⟨rfl, rfl⟩
      go_wp2_with fail
      refine (specPlus_any _ _ _).mono ?_
      rintro e w4 ⟨rfl, rfl⟩
      go_wp2_with fail
      go_ret
      exact ⟨by rw [HE.out]; rfl, HB.out⟩
  | false =>
    have HE : Hid (ageAt fs t now = plusI x (sinceI t now)) := by show _ = _; unfold ageAt; rw [HA.out, if_neg (fun h => nomatch h.1)]
    go_wp2_with fail
    refine (l7Since_any t now _ h0 h1).mono ?_
    rintro e w3 ⟨rfl, rfl⟩
    go_wp2_with fail
    refine (specPlus_any _ _ _).mono ?_
    rintro e w4 ⟨rfl, rfl⟩
    go_wp2_with fail
    go_ret
    exact ⟨by rw [HE.out]; rfl, HB.out⟩

theorem cc_age (c0 c1 c2 c3 c4 : Bool) (c5 : Int) (W : World) : (Instr.field 34 (.agg #[.bool c0, .bool c1, .bool c2, .bool c3, .bool c4, .int .i64 c5]) 5).run Try.prog W = .ok (.int .i64 c5) W := by
  first | rfl | kernel_rfl | simp [Instr.field, go_sem]
theorem cc_nc (c0 c1 c2 c3 c4 : Bool) (c5 : Int) (W : World) : (Instr.field 34 (.agg #[.bool c0, .bool c1, .bool c2, .bool c3, .bool c4, .int .i64 c5]) 1).run Try.prog W = .ok (.bool c1) W := by
  first | rfl | kernel_rfl | simp [Instr.field, go_sem]

set_option maxHeartbeats 1000000 in
theorem specLife_any (v : Value) (n base : Nat) (fs : List (ByteArray × ByteArray)) (w : World) (hv : FieldsV w base v n fs) (hn : n ≤ 1073741824) (hsz : (getV fs ccName).size ≤ 1048576) :
    Calls Try.prog 17 #[v] w fun e w' => e = .returned (.int .i64 (lifeOf fs)) ∧ Below w.heap.size w w' := by
  have HE : Hid (lifeOf fs = (ccR (getV fs ccName)).age) := rfl
  go_enter Try.func17, Try.ntmps17
  go_wp2_with fail
  refine (specCcOf_any v n base fs _ hv hn hsz).mono ?_
  rintro e w1 ⟨rfl, b1⟩
  obtain ⟨c, hc⟩ : ∃ c, c = ccR (getV fs ccName) := ⟨_, rfl⟩
  rw [← hc] at HE ⊢
  clear hc hv
  obtain ⟨c0, c1, c2, c3, c4, c5⟩ := c
  rw [show (⟨c0, c1, c2, c3, c4, c5⟩ : CcD).v = .agg #[.bool c0, .bool c1, .bool c2, .bool c3, .bool c4, .int .i64 c5] from rfl]
  have hf := cc_age c0 c1 c2 c3 c4 c5
  go_wp2_with fail
  go_ret
  exact ⟨by rw [HE.out]; rfl, b1⟩

set_option maxHeartbeats 1000000 in
theorem specFresh_any (v : Value) (n base : Nat) (fs : List (ByteArray × ByteArray)) (t now : Int) (w : World) (hv : FieldsV w base v n fs) (hn : n ≤ 1073741824) (hsz : (getV fs ageName).size ≤ maxLen) (hsz2 : (getV fs ccName).size ≤ 1048576) (h0 : -9223372036854775808 ≤ t) (h1 : now ≤ 9223372036854775807) :
    Calls Try.prog 14 #[v, .int .i64 t, .int .i64 now] w fun e w' => e = .returned (.bool (freshOf fs t now)) ∧ Below w.heap.size w w' := by
  have HV : Hid (∀ W, Below w.heap.size w W → FieldsV W base v n fs) := fun W h => hv.below h
  obtain ⟨x, hx⟩ : ∃ x, x = ageAt fs t now := ⟨_, rfl⟩
  obtain ⟨y, hy⟩ : ∃ y, y = lifeOf fs := ⟨_, rfl⟩
  obtain ⟨c, hc⟩ : ∃ c, c = ccR (getV fs ccName) := ⟨_, rfl⟩
  obtain ⟨r, hr⟩ : ∃ r, r = freshOf fs t now := ⟨_, rfl⟩
  have HR : Hid (r = (decide (x < y) && !c.nc)) := by show _ = _; rw [hr, hx, hy, hc]; rfl
  have HX : Hid (ageAt fs t now = x) := hx.symm
  have HY : Hid (lifeOf fs = y) := hy.symm
  have HC : Hid (ccR (getV fs ccName) = c) := hc.symm
  rw [← hr]
  clear hx hy hc hr
  obtain ⟨c0, c1, c2, c3, c4, c5⟩ := c
  have hf := cc_nc c0 c1 c2 c3 c4 c5
  go_enter Try.func14, Try.ntmps14
  go_wp2_with fail
  refine (specAgeAt_any v n base fs t now _ hv hn hsz h0 h1).mono ?_
  rintro e w1 ⟨rfl, b1⟩
  rw [HX.out]
  have HB1 : Hid (Below w.heap.size w w1) := b1
  clear b1 hv
  go_wp2_with fail
  refine (specLife_any v n base fs _ (HV.out _ HB1.out) hn hsz2).mono ?_
  rintro e w2 ⟨rfl, b2⟩
  rw [HY.out]
  have HB2 : Hid (Below w.heap.size w w2) := HB1.out.trans (b2.mono HB1.out.size)
  clear b2
  by_cases hlt : x < y
  · have HE2 : Hid (r = !c1) := by show _ = _; rw [HR.out, decide_eq_true hlt, Bool.true_and]
    go_wp2_with fail
    refine (specCcOf_any v n base fs _ (HV.out _ HB2.out) hn hsz2).mono ?_
    rintro e w3 ⟨rfl, b3⟩
    rw [HC.out, show (⟨c0, c1, c2, c3, c4, c5⟩ : CcD).v = .agg #[.bool c0, .bool c1, .bool c2, .bool c3, .bool c4, .int .i64 c5] from rfl]
    have HB3 : Hid (Below w.heap.size w w3) := HB2.out.trans (b3.mono HB2.out.size)
    clear b3
    go_wp2_with fail
    go_ret
    exact ⟨by rw [HE2.out]; rfl, HB3.out⟩
  · have HE2 : Hid (r = false) := by show _ = _; rw [HR.out, decide_eq_false hlt, Bool.false_and]
    clear hf HX HY HC HR HV hsz hsz2
    go_wp2_with fail
    go_ret
    exact ⟨by rw [HE2.out]; rfl, HB2.out⟩

end Go.Proofs.Ytnlifhmobmgpcaa
