/- 'Plus', 'AgeAt', 'Life', 'Fresh' of the developers: contracts over the translation. -/
import Derived.Test.YtnlifhmobmgpcaaAgeSpec
import Derived.Test.YtnlifhmobmgpcaaCtlRead
namespace Go.Proofs.Ytnlifhmobmgpcaa
open Go.RowKit
open Go.Lib hiding intOf

set_option maxHeartbeats 1000000 in
theorem withinTime_any (n : Int) (w : World) :
    Calls Try.prog 37 #[.int .i64 n] w fun e w' => e = .returned (.int .i64 (min (max n 0) 1000000)) ∧ w' = w := by
  go_enter Try.func37, Try.ntmps37
  go_wp2
  go_ret
  exact ⟨rfl, rfl⟩

set_option maxHeartbeats 1000000 in
theorem implPlus_any (a b : Int) (w : World) :
    Calls Try.prog 19 #[.int .i64 a, .int .i64 b] w fun e w' => e = .returned (.int .i64 (plusI a b)) ∧ w' = w := by
  have u1 : 0 ≤ min (max a 0) 1000000 ∧ min (max a 0) 1000000 ≤ 1000000 := by omega
  have u2 : 0 ≤ min (max b 0) 1000000 ∧ min (max b 0) 1000000 ≤ 1000000 := by omega
  have HP : Hid (plusI a b = min (min (max a 0) 1000000 + min (max b 0) 1000000) 1000000) := rfl
  obtain ⟨x, hx⟩ : ∃ x, x = min (max a 0) 1000000 := ⟨_, rfl⟩
  obtain ⟨y, hy⟩ : ∃ y, y = min (max b 0) 1000000 := ⟨_, rfl⟩
  rw [← hx, ← hy] at HP
  rw [← hx] at u1
  rw [← hy] at u2
  have HX : Hid (min (max a 0) 1000000 = x) := hx.symm
  have HY : Hid (min (max b 0) 1000000 = y) := hy.symm
  clear hx hy
  go_enter Try.func19, Try.ntmps19
  go_wp2_with fail
  refine (withinTime_any _ _).mono ?_
  rintro e w1 ⟨rfl, rfl⟩
  rw [HX.out]
  go_wp2_with fail
  refine (withinTime_any _ _).mono ?_
  rintro e w2 ⟨rfl, rfl⟩
  rw [HY.out]
  go_wp2_with fail
  refine (withinTime_any _ _).mono ?_
  rintro e w3 ⟨rfl, rfl⟩
  go_wp2_with fail
  go_ret
  exact ⟨by rw [HP.out, Int.max_eq_left (by omega : (0 : Int) ≤ x + y)]; rfl, rfl⟩

theorem wrapU (n : Int) : IntKind.u64.wrap n = n % 18446744073709551616 := by simp [IntKind.wrap, IntKind.signed, IntKind.bits]

set_option maxHeartbeats 1000000 in
/-- The clock that clockFrom hands back, at a time. -/
theorem clock_any (b : Nat) (t now : Int) (w : World) (h0 : -9223372036854775808 ≤ t) (h1 : now ≤ 9223372036854775807) (hc : w.cell? ⟨b, 0, none⟩ = some (.int .i64 t)) :
    Calls Try.prog 55 #[.int .i64 now, .pointer (some ⟨b, 0, none⟩)] w fun e w' => e = .returned (.int .i64 (sinceI t now)) ∧ w' = w := by
  by_cases hle : now ≤ t
  · have HE : Hid (sinceI t now = 0) := by show _ = _; unfold sinceI; rw [if_pos hle]
    go_enter Try.func55, Try.ntmps55
    go_wp2
    go_ret
    exact ⟨by rw [HE.out]; rfl, rfl⟩
  · have HE : Hid (sinceI t now = wrap64 (min (IntKind.u64.wrap (IntKind.u64.wrap now - IntKind.u64.wrap t)) 1000000)) := by
      show _ = _
      unfold sinceI
      rw [if_neg hle]
      rw [wrapU, wrapU, wrapU]
      unfold wrap64
      omega
    go_enter Try.func55, Try.ntmps55
    go_wp2
    go_ret
    exact ⟨by rw [HE.out]; rfl, rfl⟩

set_option maxHeartbeats 1000000 in
theorem clockFrom_any (t : Int) (w : World) :
    Calls Try.prog 30 #[.int .i64 t] w fun e w' => e = .returned (.func (.func 55) #[] #[.pointer (some ⟨w.heap.size, 0, none⟩)]) ∧ w' = w.alloc (.cells #[.int .i64 t] 3) := by
  have hmf : ∀ (fn : Fn) (first cap : Array Value) (w : World), (Instr.makeFunc fn first cap).run Try.prog w = .ok (.func fn first cap) w := fun _ _ _ _ => rfl
  go_enter Try.func30, Try.ntmps30
  go_wp2
  go_ret
  exact ⟨rfl, rfl⟩

theorem numV_none (fs : List (ByteArray × ByteArray)) (name : ByteArray) (h : getB fs name = false) : numV (getV fs name) = 0 := by
  unfold getB at h
  unfold getV numV
  rw [if_neg (of_decide_eq_false h)]
  exact if_neg (fun hk => absurd hk.1 (by decide))

set_option maxHeartbeats 1000000 in
theorem statedAge_any (v : Value) (n base : Nat) (fs : List (ByteArray × ByteArray)) (w : World) (hv : FieldsV w base v n fs) (hn : n ≤ 1073741824) (hcp : CopyF fs) (hsz : (getV fs ageName).size ≤ maxLen) :
    Calls Try.prog 31 #[v] w fun e w' => e = .returned (.int .i64 (ageN fs)) ∧ Below w.heap.size w w' := by
  have HN : Hid (getB fs ageName = false → numV (getV fs ageName) = 0) := numV_none fs ageName
  obtain ⟨s, hs⟩ : ∃ s, s = getV fs ageName := ⟨_, rfl⟩
  obtain ⟨th, hth⟩ : ∃ b, b = getB fs ageName := ⟨_, rfl⟩
  have HS : Hid (getV fs ageName = s) := hs.symm
  have HT : Hid (getB fs ageName = th) := hth.symm
  rw [← hs] at hsz
  clear hs hth
  go_enter Try.func31, Try.ntmps31
  go_wp2_with fail
  refine (implGet_any v n base fs ageName _ hv hn hcp).mono ?_
  rintro e w1 ⟨rfl, b1⟩
  rw [HS.out, HT.out]
  clear hv
  cases th with
  | false =>
    have HE : Hid (ageN fs = 0) := by
      show _ = _
      unfold ageN
      rw [if_neg (fun h => absurd (HT.out.symm.trans h.1) (by decide))]
      exact HN.out HT.out
    go_wp2_with fail
    go_ret
    exact ⟨by rw [HE.out]; rfl, b1⟩
  | true =>
    go_wp2_with fail
    refine (implNumRead_any s _ hsz).mono ?_
    rintro e w2 ⟨b, x, rfl, hb1, hb2, hb3, b2⟩
    have HB : Hid (Below w.heap.size w w2) := b1.trans (b2.mono b1.size)
    cases b with
    | true =>
      have HE : Hid (ageN fs = x) := by
        show _ = _
        unfold ageN
        rw [HS.out, if_neg (fun h => h.2 (hb1.1 rfl))]
        unfold numV
        rw [if_pos (hb1.1 rfl), hb2 rfl]
      clear hb1 hb2 hb3 b2 b1
      go_wp2_with fail
      go_ret
      exact ⟨by rw [HE.out]; rfl, HB.out⟩
    | false =>
      have HE : Hid (ageN fs = 1000000) := by
        show _ = _
        unfold ageN
        rw [HS.out, if_pos ⟨HT.out, fun h => nomatch hb1.2 h⟩]
      clear hb1 hb2 hb3 b2 b1
      go_wp2_with fail
      go_ret
      exact ⟨by rw [HE.out]; rfl, HB.out⟩

set_option maxHeartbeats 1000000 in
theorem implAgeAt_any (v : Value) (n base : Nat) (fs : List (ByteArray × ByteArray)) (t now : Int) (w : World) (hv : FieldsV w base v n fs) (hn : n ≤ 1073741824) (hcp : CopyF fs) (hsz : (getV fs ageName).size ≤ maxLen) (h0 : -9223372036854775808 ≤ t) (h1 : now ≤ 9223372036854775807) :
    Calls Try.prog 13 #[v, .int .i64 t, .int .i64 now] w fun e w' => e = .returned (.int .i64 (ageAt fs t now)) ∧ Below w.heap.size w w' := by
  have HE : Hid (ageAt fs t now = plusI (ageN fs) (sinceI t now)) := rfl
  have b0 : Below w.heap.size w (w.alloc (.cells #[.int .i64 t] 3)) := (Below.refl _ w).alloc (Nat.le_refl _) _
  have hc : (w.alloc (.cells #[.int .i64 t] 3)).cell? ⟨w.heap.size, 0, none⟩ = some (.int .i64 t) := by simp [go_sem]
  have hz : w.heap.size < (w.alloc (.cells #[.int .i64 t] 3)).heap.size := by simp
  have HV : Hid (FieldsV (w.alloc (.cells #[.int .i64 t] 3)) base v n fs) := hv.below b0
  have HC : Hid (∀ w1, Below (w.alloc (.cells #[.int .i64 t] 3)).heap.size (w.alloc (.cells #[.int .i64 t] 3)) w1 → w1.cell? ⟨w.heap.size, 0, none⟩ = some (.int .i64 t) ∧ Below w.heap.size w w1) := fun w1 hb => ⟨(hb.cell hz).trans hc, b0.trans (hb.mono b0.size)⟩
  clear b0 hc hz hv
  go_enter Try.func13, Try.ntmps13
  go_wp2_with fail
  refine (clockFrom_any t _).mono ?_
  rintro e w1 ⟨rfl, rfl⟩
  go_wp2_with fail
  refine (statedAge_any v n base fs _ HV.out hn hcp hsz).mono ?_
  rintro e w2 ⟨rfl, b2⟩
  obtain ⟨hc, hb⟩ := HC.out w2 b2
  have HB : Hid (Below w.heap.size w w2) := hb
  have HC2 : Hid (w2.cell? ⟨w.heap.size, 0, none⟩ = some (.int .i64 t)) := hc
  obtain ⟨x, hx⟩ : ∃ x, x = ageN fs := ⟨_, rfl⟩
  rw [← hx] at HE ⊢
  clear hb hc b2 hx HV HC
  go_wp2_with fail
  refine (clock_any _ t now _ h0 h1 HC2.out).mono ?_
  rintro e w3 ⟨rfl, rfl⟩
  go_wp2_with fail
  refine (implPlus_any _ _ _).mono ?_
  rintro e w4 ⟨rfl, rfl⟩
  go_wp2_with fail
  go_ret
  exact ⟨by rw [HE.out]; rfl, HB.out⟩

set_option maxHeartbeats 1000000 in
theorem implLife_any (v : Value) (n base : Nat) (fs : List (ByteArray × ByteArray)) (w : World) (hv : FieldsV w base v n fs) (hn : n ≤ 1073741824) (hcp : CopyF fs) (hsz : (getV fs ccName).size ≤ 1048576) :
    Calls Try.prog 16 #[v] w fun e w' => e = .returned (.int .i64 (lifeOf fs)) ∧ Below w.heap.size w w' := by
  have HE : Hid (lifeOf fs = (ccR (getV fs ccName)).age) := rfl
  have HF : Hid ((ccR (getV fs ccName)).ha = false → (ccR (getV fs ccName)).age = 0) := (ccR_fit _).2.2
  go_enter Try.func16, Try.ntmps16
  go_wp2_with fail
  refine (implCcOf_any v n base fs _ hv hn hcp hsz).mono ?_
  rintro e w1 ⟨rfl, b1⟩
  obtain ⟨c, hc⟩ : ∃ c, c = ccR (getV fs ccName) := ⟨_, rfl⟩
  rw [← hc] at HE HF ⊢
  clear hc hv
  obtain ⟨c0, c1, c2, c3, c4, c5⟩ := c
  rw [show (⟨c0, c1, c2, c3, c4, c5⟩ : CcD).v = .agg #[.bool c0, .bool c1, .bool c2, .bool c3, .bool c4, .int .i64 c5] from rfl]
  cases c4 with
  | true =>
    go_wp2_with fail
    go_ret
    exact ⟨by rw [HE.out]; rfl, b1.alloc b1.size _⟩
  | false =>
    have HZ : Hid (c5 = 0) := HF.out rfl
    go_wp2_with fail
    go_ret
    exact ⟨by rw [HE.out, HZ.out]; rfl, b1.alloc b1.size _⟩

set_option maxHeartbeats 1000000 in
theorem implFresh_any (v : Value) (n base : Nat) (fs : List (ByteArray × ByteArray)) (t now : Int) (w : World) (hv : FieldsV w base v n fs) (hn : n ≤ 1073741824) (hcp : CopyF fs) (hsz : (getV fs ageName).size ≤ maxLen) (hsz2 : (getV fs ccName).size ≤ 1048576) (h0 : -9223372036854775808 ≤ t) (h1 : now ≤ 9223372036854775807) :
    Calls Try.prog 12 #[v, .int .i64 t, .int .i64 now] w fun e w' => e = .returned (.bool (freshOf fs t now)) ∧ Below w.heap.size w w' := by
  have HV : Hid (∀ W, Below w.heap.size w W → FieldsV W base v n fs) := fun W h => hv.below h
  obtain ⟨x, hx⟩ : ∃ x, x = ageAt fs t now := ⟨_, rfl⟩
  obtain ⟨y, hy⟩ : ∃ y, y = lifeOf fs := ⟨_, rfl⟩
  obtain ⟨c, hc⟩ : ∃ c, c = ccR (getV fs ccName) := ⟨_, rfl⟩
  obtain ⟨r, hr⟩ : ∃ r, r = freshOf fs t now := ⟨_, rfl⟩
  have HR : Hid (r = (decide (x < y) && !c.nc)) := by show _ = _; rw [hr, hx, hy, hc]; rfl
  have HX : Hid (ageAt fs t now = x) := hx.symm
  have HY : Hid (lifeOf fs = y) := hy.symm
  have HC : Hid (ccR (getV fs ccName) = c) := hc.symm
  rw [← hr]
  clear hx hy hc hr
  obtain ⟨c0, c1, c2, c3, c4, c5⟩ := c
  have hf := cc_nc c0 c1 c2 c3 c4 c5
  go_enter Try.func12, Try.ntmps12
  go_wp2_with fail
  refine (implAgeAt_any v n base fs t now _ hv hn hcp hsz h0 h1).mono ?_
  rintro e w1 ⟨rfl, b1⟩
  rw [HX.out]
  have HB1 : Hid (Below w.heap.size w w1) := b1
  clear b1 hv
  go_wp2_with fail
  refine (implLife_any v n base fs _ (HV.out _ HB1.out) hn hcp hsz2).mono ?_
  rintro e w2 ⟨rfl, b2⟩
  rw [HY.out]
  have HB2 : Hid (Below w.heap.size w w2) := HB1.out.trans (b2.mono HB1.out.size)
  clear b2
  by_cases hlt : x < y
  · have HE2 : Hid (r = !c1) := by show _ = _; rw [HR.out, decide_eq_true hlt, Bool.true_and]
    go_wp2_with fail
    refine (implCcOf_any v n base fs _ (HV.out _ HB2.out) hn hcp hsz2).mono ?_
    rintro e w3 ⟨rfl, b3⟩
    rw [HC.out, show (⟨c0, c1, c2, c3, c4, c5⟩ : CcD).v = .agg #[.bool c0, .bool c1, .bool c2, .bool c3, .bool c4, .int .i64 c5] from rfl]
    have HB3 : Hid (Below w.heap.size w w3) := HB2.out.trans (b3.mono HB2.out.size)
    clear b3
    go_wp2_with fail
    go_ret
    exact ⟨by rw [HE2.out]; rfl, HB3.out⟩
  · have HE2 : Hid (r = false) := by show _ = _; rw [HR.out, decide_eq_false hlt, Bool.false_and]
    clear hf HX HY HC HR HV hsz hsz2
    go_wp2_with fail
    go_ret
    exact ⟨by rw [HE2.out]; rfl, HB2.out⟩

end Go.Proofs.Ytnlifhmobmgpcaa
