/- What the proof of FnExactAnswer leans on: contracts of the program's and the specification's functions, and plain facts (part 3 of 3). -/
import Derived.Test.YtmcmeeibogkpaaaGreatDoorRFnExactAnswerB
namespace Go.Proofs.YtmcmeeibogkpaaaGreatDoorR
open Go.RowKit
open Go.Lib hiding intOf

set_option maxHeartbeats 1000000 in
theorem implSame_any (m : Int) (p : ByteArray) (v : Value) (b : ByteArray) (n base : Nat) (fs : List (ByteArray × ByteArray)) (u : Value) (k base2 : Nat) (gs : List (ByteArray × ByteArray)) (w : World) (hv : FieldsV w base v n fs) (hn : n ≤ 1073741824) (hu : FieldsV w base2 u k gs) (hk : k ≤ 1073741824) (hcp : CopyF fs) (hcg : CopyF gs) :
    Calls Tryz.prog 20 #[.agg #[.int .i64 m, .string p, v, .string b], u] w fun e w' => BoolIs (SameP fs gs) w e w' := by
  obtain ⟨oa, cap, rfl, _⟩ := hv.slice
  obtain ⟨W0, hW0⟩ : ∃ W, W = w.alloc (.cells #[.int .i64 m, .string p, .slice oa n cap, .string b] 26) := ⟨_, rfl⟩
  have HW0 : Hid (w.alloc (.cells #[.int .i64 m, .string p, .slice oa n cap, .string b] 26) = W0) := hW0.symm
  have b0 : Below w.heap.size w W0 := by rw [hW0]; exact (Below.refl _ w).alloc (Nat.le_refl _) _
  have hv0 := hv.below b0
  have HU : Hid (∀ W, Below w.heap.size w W → FieldsV W base2 u k gs) := fun W h => hu.below h
  obtain ⟨⟨_, _, c2, _⟩, _⟩ := four_facts (show W0.heap[w.heap.size]? = some (.cells #[.int .i64 m, .string p, .slice oa n cap, .string b] 26) by rw [hW0]; exact heap_alloc_new w _)
  have HB : Hid (Below w.heap.size w W0) := b0
  have HCF : Hid (CopyF fs) := hcp
  have HCG : Hid (CopyF gs) := hcg
  obtain ⟨s, hs⟩ : ∃ s, s = getV fs inmName := ⟨_, rfl⟩
  obtain ⟨t, ht⟩ : ∃ s, s = getV gs tagName := ⟨_, rfl⟩
  obtain ⟨f1, hf1⟩ : ∃ s, s = getB fs inmName := ⟨_, rfl⟩
  obtain ⟨f2, hf2⟩ : ∃ s, s = getB gs tagName := ⟨_, rfl⟩
  have HQ : Hid (SameP fs gs ↔ f1 = true ∧ f2 = true ∧ s = t) := by show _ ↔ _; rw [hs, ht, hf1, hf2]; rfl
  have HE1 : Hid (getV fs inmName = s) := hs.symm
  have HE2 : Hid (getV gs tagName = t) := ht.symm
  have HE3 : Hid (getB fs inmName = f1) := hf1.symm
  have HE4 : Hid (getB gs tagName = f2) := hf2.symm
  obtain ⟨r, hr⟩ : ∃ r, r = w.heap.size := ⟨_, rfl⟩
  have HR : Hid (w.heap.size = r) := hr.symm
  rw [← hr] at c2
  clear hW0 b0 hv hu hs ht hf1 hf2 hcp hcg
  go_enter Tryz.func20, Tryz.ntmps20
  go_upto_region 1 with fail
  rw [HW0.out, ← hr]
  clear hr HW0
  go_wp2_with fail
  refine (implGet_any _ n base fs inmName _ hv0 hn HCF.out).mono ?_
  rintro e w1 ⟨rfl, b1⟩
  rw [HE1.out, HE3.out]
  have HB1 : Hid (Below w.heap.size w w1) := HB.out.trans (b1.mono HB.out.size)
  clear hv0 c2 b1 HB
  go_wp2_with fail
  refine (implGet_any u k base2 gs tagName _ (HU.out _ HB1.out) hk HCG.out).mono ?_
  rintro e w2 ⟨rfl, b2⟩
  rw [HE2.out, HE4.out]
  have HB2 : Hid (Below w.heap.size w w2) := HB1.out.trans (b2.mono HB1.out.size)
  clear b2 HB1 HU HE1 HE2 HE3 HE4
  cases f1 with
  | false =>
    have HF : Hid (¬ SameP fs gs) := fun h => nomatch (HQ.out.1 h).1
    go_wp2_with fail
    go_ret
    exact BoolIs.no HF.out HB2.out
  | true =>
    cases f2 with
    | false =>
      have HF : Hid (¬ SameP fs gs) := fun h => nomatch (HQ.out.1 h).2.1
      go_wp2_with fail
      go_ret
      exact BoolIs.no HF.out HB2.out
    | true =>
      have HT : Hid ((s.toList == t.toList) = true ↔ SameP fs gs) := by show _ ↔ _; rw [HQ.out, text_beq]; simp
      go_wp2_with fail
      go_ret
      exact ⟨_, rfl, HT.out, HB2.out⟩

open Classical in
theorem short_named (gs : List (ByteArray × ByteArray)) : namedF [tagName, varyName, ccName] gs = shortF gs := by
  unfold namedF shortF
  congr 1
  funext f
  simp

set_option maxHeartbeats 1000000 in
set_option maxRecDepth 100000 in
theorem implShort_any (st : Int) (v : Value) (b : ByteArray) (n base : Nat) (gs : List (ByteArray × ByteArray)) (w : World) (hv : FieldsV w base v n gs) (hn : n ≤ 1999999) (hcp : CopyF gs) :
    Calls Tryz.prog 36 #[.agg #[.int .i64 st, v, .string b]] w fun e w' => RespRow 304 (shortF gs) ⟨#[]⟩ w e w' := by
  obtain ⟨oa, cap, rfl, _⟩ := hv.slice
  obtain ⟨r, hr⟩ : ∃ r, r = w.heap.size := ⟨_, rfl⟩
  have HR : Hid (w.heap.size = r) := hr.symm
  obtain ⟨W1, hW1⟩ : ∃ W, W = (w.alloc (.cells #[.int .i64 st, .slice oa n cap, .string b] 29)).alloc (.cells #[.int .i64 0, .slice none 0 0, .string ⟨#[]⟩] 29) := ⟨_, rfl⟩
  have HW1 : Hid ((w.alloc (.cells #[.int .i64 st, .slice oa n cap, .string b] 29)).alloc (.cells #[.int .i64 0, .slice none 0 0, .string ⟨#[]⟩] 29) = W1) := hW1.symm
  have b1 : Below r w W1 := by rw [hW1, hr]; exact ((Below.refl _ w).alloc (Nat.le_refl _) _).alloc (by simp) _
  have s1 : (w.alloc (.cells #[.int .i64 st, .slice oa n cap, .string b] 29)).heap.size = r + 1 := by rw [hr]; simp
  have s2 : W1.heap.size = r + 1 + 1 := by rw [hW1, hr]; simp
  have H0 : Hid (W1.heap[r]? = some (.cells #[.int .i64 st, .slice oa n cap, .string b] 29) ∧ W1.heap[r + 1]? = some (.cells #[.int .i64 0, .slice none 0 0, .string ⟨#[]⟩] 29) ∧ Below r w W1) := by
    have e0 := heap_alloc_new w (.cells #[.int .i64 st, .slice oa n cap, .string b] 29)
    have e1 := heap_alloc_new (w.alloc (.cells #[.int .i64 st, .slice oa n cap, .string b] 29)) (.cells #[.int .i64 0, .slice none 0 0, .string ⟨#[]⟩] 29)
    rw [← hr] at e0
    rw [s1, ← hW1] at e1
    have c1 : Below (r + 1) (w.alloc (.cells #[.int .i64 st, .slice oa n cap, .string b] 29)) W1 := by rw [hW1, ← s1]; exact (Below.refl _ _).alloc (Nat.le_refl _) _
    exact ⟨by rw [c1.block r (by omega)]; exact e0, e1, b1⟩
  obtain ⟨⟨_, c1, _⟩, _⟩ := three_facts H0.out.1
  obtain ⟨W2, hW2⟩ : ∃ W, W = W1.alloc (.cells #[.string tagName, .string varyName, .string ccName] 9) := ⟨_, rfl⟩
  have HW2 : Hid (W1.alloc (.cells #[.string ⟨#[101, 116, 97, 103]⟩, .string ⟨#[118, 97, 114, 121]⟩, .string ⟨#[99, 97, 99, 104, 101, 45, 99, 111, 110, 116, 114, 111, 108]⟩] 9) = W2) := hW2.symm
  have HX2 : Hid (TextsA W2 (some ⟨r + 1 + 1, 0, none⟩) 3 [tagName, varyName, ccName]) := by
    refine ⟨rfl, fun i hi => ⟨r + 1 + 1, rfl, by rw [hW2]; simp; omega, ?_⟩⟩
    have h := heap_alloc_new W1 (.cells #[.string tagName, .string varyName, .string ccName] 9)
    rw [← hW2, s2] at h
    rcases (by omega : i = 0 ∨ i = 1 ∨ i = 2) with rfl | rfl | rfl <;> simp [World.cell?, h, textAt]
  have HB2 : Hid (Below (r + 1 + 1) W1 W2) := by show Below _ _ _; rw [hW2]; exact (Below.refl _ _).alloc (by omega) _
  have HL2 : Hid (r + 1 + 1 + 1 = W2.heap.size) := by show _ = _; rw [hW2]; simp; omega
  have HV2 : Hid (FieldsV W2 base (.slice oa n cap) n gs) := hv.below (by rw [← hr]; exact b1.trans (HB2.out.mono (by omega)))
  have HS2 : Hid (W1.heap.size = r + 1 + 1) := s2
  have HCP : Hid (CopyF gs) := hcp
  clear hW1 hW2 hv b1 s1 s2 hcp
  go_enter Tryz.func36, Tryz.ntmps36
  go_upto_region 1 with fail
  rw [HW1.out, ← hr]
  clear hr HW1
  go_wp2_with fail
  rw [HW2.out, HS2.out]
  refine (onlyNamed_any _ n base gs _ 3 3 [tagName, varyName, ccName] _ HV2.out hn HCP.out HX2.out (by omega)).mono ?_
  rintro e w3 ⟨z, rfl, own, b3⟩
  rw [short_named] at own
  obtain ⟨oz, cz, rfl⟩ := slice_of_owns own
  have hl2 := HL2.out
  rw [← hl2] at own b3
  have H3 : Hid (w3.heap[r + 1]? = some (.cells #[.int .i64 0, .slice none 0 0, .string ⟨#[]⟩] 29) ∧ Below r w w3) := by
    have b4 := HB2.out.trans (b3.mono (by omega))
    exact ⟨by rw [b4.block (r + 1) (by omega)]; exact H0.out.2.1, H0.out.2.2.trans (b4.mono (by omega))⟩
  obtain ⟨⟨g0, g1, g2⟩, x0, x1, x2⟩ := three_facts H3.out.1
  obtain ⟨nz, hnz⟩ : ∃ x, x = (shortF gs).length := ⟨_, rfl⟩
  rw [← hnz] at own ⊢
  have HNZ : Hid ((shortF gs).length = nz) := hnz.symm
  have hset := three_set H3.out.1 (.int .i64 304) (.slice oz nz cz) (.string ⟨#[]⟩)
  obtain ⟨⟨k0, k1, k2⟩, _⟩ := three_facts hset
  have HFB : Hid (Below r w (threeSet w3 (r + 1) (.int .i64 304) (.slice oz nz cz) (.string ⟨#[]⟩))) := below_three H3.out.2 (by omega)
  have HFO : Hid ((threeSet w3 (r + 1) (.int .i64 304) (.slice oz nz cz) (.string ⟨#[]⟩)).ownsRow r 74 2 (.slice oz nz cz) nz (flatF (shortF gs))) := by
    refine owns_same (owns_wide own (by omega)) (fun j hj => ?_)
    have hj2 := owns_ge own hj
    rw [three_other _ _ j _ _ _ (by omega)]
  unfold threeSet at k0 k1 k2 HFB HFO
  clear hset H0 H3 own b3 hl2 hnz c1 HV2 HX2 HB2 HL2 HS2
  go_wp2_with fail
  refine bodyPost_ret (v := .agg #[.int .i64 304, .slice oz nz cz, .string ⟨#[]⟩]) (by simp [results, Tryz.results36, go_sem, k0, k1, k2]) rfl ?_
  exact ⟨_, rfl, by rw [HR.out, HNZ.out]; exact HFO.out, by rw [HR.out]; exact HFB.out⟩

end Go.Proofs.YtmcmeeibogkpaaaGreatDoorR

namespace Go.Proofs.YtmcmeeibogkpaaaGreatDoorR
open Go.RowKit
open Go.Lib hiding intOf

set_option maxHeartbeats 1000000 in
theorem fieldOk_any (v : Value) (n base : Nat) (fs : List (ByteArray × ByteArray)) (k : Nat) (w : World) (hv : FieldsV w base v n fs) (hn : n ≤ 1073741824) (hk : k < n) (hs1 : (nameAt fs k).size ≤ maxLen) (hs2 : (valAt fs k).size ≤ maxLen) :
    Calls Tryz.prog 157 #[v, .int .i64 (k : Int)] w fun e w' => BoolIs (FldOk fs k) w e w' := by
  have HV : Hid (∀ W, Below w.heap.size w W → FieldsV W base v n fs) := fun W h => hv.below h
  obtain ⟨oa, cap, rfl, hrow⟩ := hv.slice
  obtain ⟨g, rfl, row⟩ := hrow k hk
  have hlt2 : (k : Int) < (n : Int) := by omega
  have hc1 := row.name k hk
  have hc2 := row.val k hk
  obtain ⟨nm, hnm⟩ : ∃ x, x = nameAt fs k := ⟨_, rfl⟩
  obtain ⟨vl, hvl⟩ : ∃ x, x = valAt fs k := ⟨_, rfl⟩
  have HO : Hid (FldOk fs k ↔ TokOk nm ∧ ValOk vl ∧ atF fs nm = k ∧ nm ≠ clen) := by rw [hnm, hvl]; exact Iff.rfl
  rw [← hnm] at hc1 hs1
  rw [← hvl] at hc2 hs2
  clear hv hrow row hnm hvl
  obtain ⟨r, hr⟩ : ∃ r, r = w.heap.size := ⟨_, rfl⟩
  have h0 : (w.alloc (.cells #[.string nm, .string vl] 74)).heap.size = w.heap.size + 1 := by simp
  have HB0 : Hid (Below w.heap.size w (w.alloc (.cells #[.string nm, .string vl] 74)) ∧ w.heap.size ≤ (w.alloc (.cells #[.string nm, .string vl] 74)).heap.size) := ⟨(Below.refl _ w).alloc (Nat.le_refl _) _, by omega⟩
  have HR : Hid (∀ W, Below (w.alloc (.cells #[.string nm, .string vl] 74)).heap.size (w.alloc (.cells #[.string nm, .string vl] 74)) W → W.cell? ⟨r, 0, none⟩ = some (.string nm) ∧ W.cell? ⟨r, 1, none⟩ = some (.string vl)) := fun W h => by
    have hh : W.heap[r]? = some (.cells #[.string nm, .string vl] 74) := by rw [hr, h.block _ (by omega)]; exact heap_alloc_new w _
    exact ⟨by simp [World.cell?, hh], by simp [World.cell?, hh]⟩
  go_enter Tryz.func157, Tryz.ntmps157
  go_wp2_with fail
  refine (implTokenOk_any nm _ hs1).mono ?_
  rintro e w1 ⟨b1, rfl, kb1, bb1⟩
  rw [← hr]
  have hb1 : Below w.heap.size w w1 := HB0.out.1.trans (bb1.mono HB0.out.2)
  obtain ⟨d1, d2⟩ := HR.out w1 bb1
  clear h0
  cases b1
  · have HF : Hid (¬ FldOk fs k) := fun h => by have := kb1.2 (HO.out.1 h).1; cases this
    clear kb1 hc1 hc2 bb1 hr
    go_wp2_with fail
    go_ret
    exact BoolIs.no HF.out hb1
  · have HT : Hid (TokOk nm) := kb1.1 rfl
    clear kb1 hc1 hc2 hr
    go_wp2_with fail
    refine (implValueOk_any vl _ hs2).mono ?_
    rintro e w2 ⟨b2, rfl, kb2, bb2⟩
    have bb2' := bb1.trans (bb2.mono bb1.size)
    have hb2 : Below w.heap.size w w2 := HB0.out.1.trans (bb2'.mono HB0.out.2)
    obtain ⟨d3, d4⟩ := HR.out w2 bb2'
    cases b2
    · have HF : Hid (¬ FldOk fs k) := fun h => by have := kb2.2 (HO.out.1 h).2.1; cases this
      clear kb2 bb1 bb2 bb2' hb1 d1 d2
      go_wp2_with fail
      go_ret
      exact BoolIs.no HF.out hb2
    · have HT2 : Hid (ValOk vl) := kb2.1 rfl
      clear kb2 bb1 bb2 bb2' hb1 d1 d2
      by_cases hcl : nm = clen
      · have ht := (text_beq _ _).2 hcl
        rw [clen_list] at ht
        have HF : Hid (¬ FldOk fs k) := fun h => (HO.out.1 h).2.2.2 hcl
        clear hcl
        go_wp2_with fail
        go_ret
        exact BoolIs.no HF.out hb2
      · have ht := text_beq_no hcl
        rw [clen_list] at ht
        have HC : Hid (nm ≠ clen) := hcl
        clear hcl
        go_wp2_with fail
        refine (place_any _ n base fs nm _ (HV.out w2 hb2) hn).mono ?_
        rintro e w3 ⟨rfl, rfl⟩
        by_cases hat : atF fs nm = k
        · have HY : Hid (FldOk fs k) := HO.out.2 ⟨HT.out, HT2.out, hat, HC.out⟩
          rw [hat]
          clear hat
          go_wp2
          go_ret
          exact BoolIs.yes HY.out hb2
        · have HF : Hid (¬ FldOk fs k) := fun h => hat (HO.out.1 h).2.2.1
          have hne : ((atF fs nm : Int) == (k : Int)) = false := by rw [beq_eq_false_iff_ne]; omega
          clear hat
          go_wp2
          go_ret
          exact BoolIs.no HF.out hb2

set_option maxHeartbeats 1000000 in
theorem ok_any (v : Value) (n base : Nat) (fs : List (ByteArray × ByteArray)) (w : World) (hv : FieldsV w base v n fs) (hn : n ≤ 1073741824) (hsz : ∀ i, i < n → (nameAt fs i).size ≤ maxLen ∧ (valAt fs i).size ≤ maxLen) :
    Calls Tryz.prog 144 #[v] w fun e w' => BoolIs (FldsOk fs) w e w' := by
  have hl := hv.len
  have HV : Hid (∀ W, Below w.heap.size w W → FieldsV W base v n fs) := fun W h => hv.below h
  have HS : Hid (∀ i, i < n → (nameAt fs i).size ≤ maxLen ∧ (valAt fs i).size ≤ maxLen) := hsz
  obtain ⟨oa, cap, rfl, hrow⟩ := hv.slice
  clear hv hrow hsz
  by_cases h8 : (8 : Int) < (n : Int)
  · have HF : Hid (¬ FldsOk fs) := fun h => by have := h.1; omega
    go_enter Tryz.func144, Tryz.ntmps144
    go_wp2
    go_ret
    exact BoolIs.no HF.out (Below.refl _ _)
  · go_enter Tryz.func144, Tryz.ntmps144
    go_wp2
    go_loopw [9] (fun i wr => ∃ k : Nat, k ≤ n ∧ i = .int .i64 (k : Int) ∧ Hid (∀ j, j < k → FldOk fs j) ∧ Below w.heap.size w wr) (fun i _ => n - (intOf i).toNat)
    case atStart => exact ⟨0, Nat.zero_le _, rfl, fun j h => absurd h (by omega), Below.refl _ _⟩
    case round =>
      obtain ⟨k, hk, rfl, hall, hbw⟩ := hrel
      by_cases hlt : k < n
      · have hlt2 : (k : Int) < (n : Int) := by omega
        obtain ⟨hs1, hs2⟩ := HS.out k hlt
        go_wp2_with fail
        refine (fieldOk_any _ n base fs k _ (HV.out wr hbw) hn hlt hs1 hs2).mono ?_
        rintro e w1 ⟨b1, rfl, kb1, bb1⟩
        have hb1 : Below w.heap.size w w1 := hbw.trans (bb1.mono hbw.size)
        cases b1
        · have HF : Hid (¬ FldsOk fs) := fun h => by have := kb1.2 (h.2 k (by omega)); cases this
          clear kb1 bb1
          go_wp2
          go_ret
          exact BoolIs.no HF.out hb1
        · have HY : Hid (FldOk fs k) := kb1.1 rfl
          clear kb1 bb1
          go_wp2
          go_roundw
          case rel =>
            refine ⟨k + 1, by omega, by go_num, ?_, hb1⟩
            intro j hj
            by_cases e : j = k
            · subst e; exact HY.out
            · exact hall.out j (by omega)
          case measure => simp [intOf]; omega
      · have HF : Hid (FldsOk fs) := ⟨by omega, fun i hi => hall.out i (by omega)⟩
        go_wp2
        go_ret
        exact BoolIs.yes HF.out hbw

end Go.Proofs.YtmcmeeibogkpaaaGreatDoorR

namespace Go.Proofs.YtmcmeeibogkpaaaGreatDoorR
open Go.RowKit
open Go.Lib hiding intOf

/-- What is right of what stands behind the first line. -/
def RestP (fs : List (ByteArray × ByteArray)) (b : ByteArray) : Prop := FldsOk fs ∧ b.size ≤ 120
set_option maxHeartbeats 1000000 in
theorem restOk_any (v : Value) (b : ByteArray) (n base : Nat) (fs : List (ByteArray × ByteArray)) (w : World) (hv : FieldsV w base v n fs) (hn : n ≤ 1073741824) (hsz : WalkF n fs) (hb : b.size ≤ maxLen) :
    Calls Tryz.prog 114 #[.agg #[v, .string b]] w fun e w' => BoolIs (RestP fs b) w e w' := by
  obtain ⟨oa, cap, rfl, _⟩ := hv.slice
  obtain ⟨r, hr⟩ : ∃ r, r = w.heap.size := ⟨_, rfl⟩
  have HR : Hid (∀ W, Below (w.alloc (.cells #[.slice oa n cap, .string b] 77)).heap.size (w.alloc (.cells #[.slice oa n cap, .string b] 77)) W → (W.cell? ⟨r, 0, none⟩ = some (.slice oa n cap) ∧ W.cell? ⟨r, 1, none⟩ = some (.string b)) ∧ FieldsV W base (.slice oa n cap) n fs ∧ Below w.heap.size w W) := fun W h => by
    have hh := kept_new h
    rw [← hr] at hh
    exact ⟨⟨by simp [World.cell?, hh], by simp [World.cell?, hh]⟩, hv.below (below_new h), below_new h⟩
  obtain ⟨_, hv0, _⟩ := HR.out _ (Below.refl _ _)
  unfold maxLen at hb
  go_enter Tryz.func114, Tryz.ntmps114
  go_wp2_with fail
  refine (ok_any _ n base fs _ hv0 hn hsz).mono ?_
  rintro e w1 ⟨b1, rfl, kb1, bb1⟩
  rw [← hr]
  obtain ⟨⟨c0, c1⟩, _, hbw1⟩ := HR.out w1 bb1
  clear hv hv0 hsz bb1 hr
  cases b1
  · have HF : Hid (¬ RestP fs b) := fun h => by have := kb1.2 h.1; cases this
    clear kb1
    go_wp2_with fail
    go_ret
    exact BoolIs.no HF.out hbw1
  · have HT : Hid (FldsOk fs) := kb1.1 rfl
    clear kb1
    by_cases h120 : (b.size : Int) ≤ 120
    · have HY : Hid (RestP fs b) := ⟨HT.out, by omega⟩
      go_wp2_with fail
      go_ret
      exact BoolIs.yes HY.out hbw1
    · have HF : Hid (¬ RestP fs b) := fun h => by have := h.2; omega
      have hd : decide ((b.size : Int) ≤ 120) = false := by simpa using h120
      go_wp2_with fail
      go_ret
      exact BoolIs.no HF.out hbw1

set_option maxHeartbeats 1000000 in
theorem respOk_any (st : Int) (v : Value) (b : ByteArray) (n base : Nat) (fs : List (ByteArray × ByteArray)) (w : World) (hv : FieldsV w base v n fs) (hn : n ≤ 1073741824) (hsz : WalkF n fs) (hb : b.size ≤ maxLen) :
    Calls Tryz.prog 71 #[.agg #[v, .string b, .int .i64 st]] w fun e w' => BoolIs (RespP st fs b) w e w' := by
  obtain ⟨oa, cap, rfl, _⟩ := hv.slice
  obtain ⟨r, hr⟩ : ∃ r, r = w.heap.size := ⟨_, rfl⟩
  have HR : Hid (∀ W, Below (w.alloc (.cells #[.slice oa n cap, .string b, .int .i64 st] 79)).heap.size (w.alloc (.cells #[.slice oa n cap, .string b, .int .i64 st] 79)) W → (W.cell? ⟨r, 0, none⟩ = some (.slice oa n cap) ∧ W.cell? ⟨r, 1, none⟩ = some (.string b) ∧ W.cell? ⟨r, 2, none⟩ = some (.int .i64 st)) ∧ FieldsV W base (.slice oa n cap) n fs ∧ Below w.heap.size w W) := fun W h => by
    have hh := kept_new h
    rw [← hr] at hh
    exact ⟨⟨by simp [World.cell?, hh], by simp [World.cell?, hh], by simp [World.cell?, hh]⟩, hv.below (below_new h), below_new h⟩
  obtain ⟨_, hv0, hbw0⟩ := HR.out _ (Below.refl _ _)
  have HV0 : Hid (FieldsV (w.alloc (.cells #[.slice oa n cap, .string b, .int .i64 st] 79)) base (.slice oa n cap) n fs) := hv0
  have HSZ : Hid (WalkF n fs) := hsz
  have HBS : Hid (b.size ≤ maxLen) := hb
  clear hv hv0 hsz hb
  by_cases h1 : 100 ≤ st
  · by_cases h2 : st ≤ 599
    · go_enter Tryz.func71, Tryz.ntmps71
      go_wp2_with fail
      refine (restOk_any _ b n base fs _ HV0.out hn HSZ.out HBS.out).mono ?_
      rintro e w3 ⟨b2, rfl, kb2, bb3⟩
      obtain ⟨_, _, hbw3⟩ := HR.out w3 bb3
      clear bb3 hbw0
      cases b2
      · have HF : Hid (¬ RespP st fs b) := fun h => by have := kb2.2 h.2; cases this
        clear kb2
        go_wp2_with fail
        go_ret
        exact BoolIs.no HF.out hbw3
      · have HY : Hid (RespP st fs b) := ⟨⟨h1, h2⟩, kb2.1 rfl⟩
        clear kb2
        go_wp2_with fail
        go_ret
        exact BoolIs.yes HY.out hbw3
    · have HF : Hid (¬ RespP st fs b) := fun h => h2 h.1.2
      have hd : decide (st ≤ 599) = false := by simpa using h2
      go_enter Tryz.func71, Tryz.ntmps71
      go_wp2_with fail
      go_ret
      exact BoolIs.no HF.out hbw0
  · have HF : Hid (¬ RespP st fs b) := fun h => h1 h.1.1
    have hd : decide (100 ≤ st) = false := by simpa using h1
    go_enter Tryz.func71, Tryz.ntmps71
    go_wp2_with fail
    go_ret
    exact BoolIs.no HF.out hbw0

set_option maxHeartbeats 400000 in
theorem answerOf_any (m : Int) (oa : Option Addr) (n cap : Nat) (b : ByteArray) (w : World) :
    Calls Tryz.prog 39 #[.agg #[.int .i64 m, .slice oa n cap, .string b]] w fun e w' => e = .returned (.agg #[.slice oa n cap, .string b, .int .i64 m]) ∧ Below w.heap.size w w' := by
  go_enter Tryz.func39, Tryz.ntmps39
  go_wp2
  exact bodyPost_ret (v := .agg #[.slice oa n cap, .string b, .int .i64 m]) (by simp [results, Tryz.results39, go_sem]) rfl ⟨rfl, ((Below.refl _ _).alloc (Nat.le_refl _) _).alloc (by simp) _⟩
set_option maxHeartbeats 400000 in
theorem implRespOk_any (m : Int) (v : Value) (b : ByteArray) (n base : Nat) (fs : List (ByteArray × ByteArray)) (w : World) (hv : FieldsV w base v n fs) (hn : n ≤ 1073741824) (hsz : WalkF n fs) (hb : b.size ≤ maxLen) :
    Calls Tryz.prog 19 #[.agg #[.int .i64 m, v, .string b]] w fun e w' => BoolIs (RespP m fs b) w e w' := by
  obtain ⟨oa, cap, rfl, _⟩ := hv.slice
  have hb0 : Below w.heap.size w (w.alloc (.cells #[.int .i64 m, .slice oa n cap, .string b] 29)) := (Below.refl _ _).alloc (Nat.le_refl _) _
  go_enter Tryz.func19, Tryz.ntmps19
  go_wp2_with fail
  refine (answerOf_any m oa n cap b _).mono ?_
  rintro e w1 ⟨rfl, bb1⟩
  have hb1 : Below w.heap.size w w1 := hb0.trans (bb1.mono hb0.size)
  have hv1 := hv.below hb1
  clear bb1 hb0 hv
  go_wp2_with fail
  refine (respOk_any m _ b n base fs _ hv1 hn hsz hb).mono ?_
  rintro e w2 ⟨b1, rfl, kb, bb2⟩
  have hb2 : Below w.heap.size w w2 := hb1.trans (bb2.mono hb1.size)
  have HK : Hid (b1 = true ↔ RespP m fs b) := kb
  clear hv1 hsz hb bb2 hb1 kb
  go_wp2_with fail
  go_ret
  exact ⟨b1, rfl, HK.out, hb2⟩

end Go.Proofs.YtmcmeeibogkpaaaGreatDoorR

namespace Go.Proofs.YtmcmeeibogkpaaaGreatDoorR
open Go.RowKit
open Go.Lib hiding intOf

/-- A variable's block may have been made, in this form; and a list of fields of one's own, which lies elsewhere. -/
structure MkSt (W1 : World) (ob : Obj) (a : Option Nat) (z : Option Value) (P : List (ByteArray × ByteArray)) (W : World) : Prop where
  low : Below W1.heap.size W1 W
  blk : ∀ o, a = some o → W.heap[o]? = some ob ∧ W1.heap.size ≤ o
  own : ∀ v, z = some v → W.ownsRow W1.heap.size 74 2 v P.length (flatF P)
  ne : ∀ o v j, a = some o → z = some v → v.ownBlock = some j → j ≠ o
theorem MkSt.below {W1 : World} {ob : Obj} {a : Option Nat} {z : Option Value} {P : List (ByteArray × ByteArray)} {W W' : World} (h : MkSt W1 ob a z P W) (hb : Below W.heap.size W W') : MkSt W1 ob a z P W' :=
  ⟨h.low.trans (hb.mono h.low.size), fun o ho => ⟨by rw [hb.block o (Array.getElem?_eq_some_iff.1 (h.blk o ho).1).1]; exact (h.blk o ho).1, (h.blk o ho).2⟩, fun v hv => owns_below (h.own v hv) hb (fun g hg => owns_lt (h.own v hv) hg), h.ne⟩
theorem MkSt.make {W1 : World} {ob : Obj} {z : Option Value} {P : List (ByteArray × ByteArray)} {W : World} (h : MkSt W1 ob none z P W) : MkSt W1 ob (some W.heap.size) z P (W.alloc ob) := by
  have h' := h.below ((Below.refl _ _).alloc (Nat.le_refl _) ob)
  exact ⟨h'.low, fun o ho => by cases ho; exact ⟨heap_alloc_new W _, h.low.size⟩, h'.own, fun o v j ho hv hj => by cases ho; have := owns_lt (h.own v hv) hj; omega⟩
theorem MkSt.put {W1 : World} {ob : Obj} {a : Option Nat} {P : List (ByteArray × ByteArray)} {W W' : World} {v : Value} (h : MkSt W1 ob a none P W) (hb : Below W.heap.size W W') (hv : W'.ownsRow W.heap.size 74 2 v P.length (flatF P)) : MkSt W1 ob a (some v) P W' := by
  have h' := h.below hb
  exact ⟨h'.low, h'.blk, fun u hu => by cases hu; exact owns_wide hv h.low.size, fun o u j ho hu hj => by
    cases hu
    have h1 := owns_ge hv hj
    have h2 := (Array.getElem?_eq_some_iff.1 (h.blk o ho).1).1
    omega⟩
theorem copy_one {nm vl : ByteArray} (h1 : nm.size ≤ 281474976710656) (h2 : vl.size ≤ 281474976710656) : CopyF [(nm, vl)] := fun i hi => by
  obtain rfl : i = 0 := by simpa using hi
  exact ⟨h1, h2⟩
theorem copy_walk {fs : List (ByteArray × ByteArray)} {n : Nat} (h : CopyF fs) (hl : fs.length = n) : WalkF n fs := fun i hi => by
  have := h i (by omega)
  unfold maxLen
  omega

theorem putAll_walk (fs gs : List (ByteArray × ByteArray)) (h : WalkF fs.length fs) (h2 : WalkF gs.length gs) : WalkF (putAll fs gs).length (putAll fs gs) := by
  have hm : ∀ k, k ≤ gs.length → WalkF (putAll fs (gs.take k)).length (putAll fs (gs.take k)) := by
    intro k
    induction k with
    | zero => intro _; simpa [putAll] using h
    | succ k ih =>
      intro hk
      rw [take_field gs k (by omega), putAll_snoc]
      exact put_walk _ _ _ (ih (by omega)) (h2 k (by omega)).1 (h2 k (by omega)).2
  have := hm gs.length (Nat.le_refl _)
  rw [List.take_length] at this
  exact this

set_option maxHeartbeats 4000000 in
set_option maxRecDepth 100000 in
theorem implMerge_any (st : Int) (v : Value) (b : ByteArray) (n base : Nat) (fs : List (ByteArray × ByteArray)) (st2 : Int) (u : Value) (c : ByteArray) (k base2 : Nat) (gs : List (ByteArray × ByteArray)) (w : World) (hv : FieldsV w base v n fs) (hb : b.size ≤ 281474976710656) (hu : FieldsV w base2 u k gs) (hnk : n + k ≤ 1999999) (hcp : CopyF fs) (hcg : CopyF gs) :
    Calls Tryz.prog 38 #[.agg #[.int .i64 st, v, .string b], .agg #[.int .i64 st2, u, .string c]] w fun e w' => RespRow st (mergeF st fs b gs) b w e w' := by
  have hl := hv.len
  have hl2 := hu.len
  obtain ⟨oa, cap, rfl, _⟩ := hv.slice
  obtain ⟨ob, cb, rfl, _⟩ := hu.slice
  obtain ⟨r, hr⟩ : ∃ r, r = w.heap.size := ⟨_, rfl⟩
  have HR : Hid (w.heap.size = r) := hr.symm
  obtain ⟨W1, hW1⟩ : ∃ W, W = ((w.alloc (.cells #[.int .i64 st, .slice oa n cap, .string b] 29)).alloc (.cells #[.int .i64 st2, .slice ob k cb, .string c] 29)).alloc (.cells #[.int .i64 0, .slice none 0 0, .string ⟨#[]⟩] 29) := ⟨_, rfl⟩
  have HW1 : Hid (((w.alloc (.cells #[.int .i64 st, .slice oa n cap, .string b] 29)).alloc (.cells #[.int .i64 st2, .slice ob k cb, .string c] 29)).alloc (.cells #[.int .i64 0, .slice none 0 0, .string ⟨#[]⟩] 29) = W1) := hW1.symm
  have HV : Hid (∀ W, Below r w W → FieldsV W base (.slice oa n cap) n fs) := fun W h => hv.below (by rw [hr] at h; exact h)
  have HU : Hid (∀ W, Below r w W → FieldsV W base2 (.slice ob k cb) k gs) := fun W h => hu.below (by rw [hr] at h; exact h)
  have s3 : W1.heap.size = r + 1 + 1 + 1 := by rw [hW1, hr]; simp
  have HK1 : Hid (∀ W, Below W1.heap.size W1 W → W.heap[r]? = some (.cells #[.int .i64 st, .slice oa n cap, .string b] 29) ∧ W.heap[r + 1]? = some (.cells #[.int .i64 st2, .slice ob k cb, .string c] 29) ∧ W.heap[r + 1 + 1]? = some (.cells #[.int .i64 0, .slice none 0 0, .string ⟨#[]⟩] 29) ∧ Below r w W) := by
    intro W hW
    have b1 : Below r w W1 := by rw [hW1, hr]; exact (((Below.refl _ w).alloc (Nat.le_refl _) _).alloc (by simp) _).alloc (by simp; omega) _
    have s1 : (w.alloc (.cells #[.int .i64 st, .slice oa n cap, .string b] 29)).heap.size = r + 1 := by rw [hr]; simp
    have s2 : ((w.alloc (.cells #[.int .i64 st, .slice oa n cap, .string b] 29)).alloc (.cells #[.int .i64 st2, .slice ob k cb, .string c] 29)).heap.size = r + 1 + 1 := by rw [hr]; simp
    have e0 := heap_alloc_new w (.cells #[.int .i64 st, .slice oa n cap, .string b] 29)
    have e1 := heap_alloc_new (w.alloc (.cells #[.int .i64 st, .slice oa n cap, .string b] 29)) (.cells #[.int .i64 st2, .slice ob k cb, .string c] 29)
    have e2 := heap_alloc_new ((w.alloc (.cells #[.int .i64 st, .slice oa n cap, .string b] 29)).alloc (.cells #[.int .i64 st2, .slice ob k cb, .string c] 29)) (.cells #[.int .i64 0, .slice none 0 0, .string ⟨#[]⟩] 29)
    rw [← hr] at e0
    rw [s1] at e1
    rw [s2, ← hW1] at e2
    have c1 : Below (r + 1) (w.alloc (.cells #[.int .i64 st, .slice oa n cap, .string b] 29)) W1 := by rw [hW1, ← s1]; exact ((Below.refl _ _).alloc (Nat.le_refl _) _).alloc (by simp) _
    have c2 : Below (r + 1 + 1) ((w.alloc (.cells #[.int .i64 st, .slice oa n cap, .string b] 29)).alloc (.cells #[.int .i64 st2, .slice ob k cb, .string c] 29)) W1 := by rw [hW1, ← s2]; exact (Below.refl _ _).alloc (Nat.le_refl _) _
    rw [s3] at hW
    exact ⟨by rw [hW.block r (by omega), c1.block r (by omega)]; exact e0, by rw [hW.block (r + 1) (by omega), c2.block (r + 1) (by omega)]; exact e1, by rw [hW.block (r + 1 + 1) (by omega)]; exact e2, b1.trans (hW.mono (by omega))⟩
  have HS3 : Hid (W1.heap.size = r + 1 + 1 + 1) := s3
  have HSS : Hid (∀ W, Below W1.heap.size W1 W → (W.cell? ⟨r, 0, none⟩ = some (.int .i64 st) ∧ W.cell? ⟨r, 1, none⟩ = some (.slice oa n cap) ∧ W.cell? ⟨r, 2, none⟩ = some (.string b)) ∧ W.cell? ⟨r + 1, 0, none⟩ = some (.int .i64 st2) ∧ W.cell? ⟨r + 1, 1, none⟩ = some (.slice ob k cb) ∧ W.cell? ⟨r + 1, 2, none⟩ = some (.string c)) := fun W h => ⟨(three_facts (HK1.out W h).1).1, (three_facts (HK1.out W h).2.1).1⟩
  have HCF : Hid (CopyF fs) := hcp
  have HCG : Hid (CopyF gs) := hcg
  have HBM : Hid (b.size ≤ 281474976710656) := hb
  obtain ⟨P, hP⟩ : ∃ x, x = putAll fs gs := ⟨_, rfl⟩
  have HPE : Hid (putAll fs gs = P) := hP.symm
  have HPL : Hid (P.length ≤ 1999999) := by show _ ≤ _; rw [hP]; have := putAll_le fs gs; omega
  have HPW : Hid (WalkF P.length P) := by
    show WalkF _ _
    rw [hP]
    exact putAll_walk fs gs (by rw [hl]; exact copy_walk hcp hl) (by rw [hl2]; exact copy_walk hcg hl2)
  have HYES : Hid (RespP st P b → mergeF st fs b gs = P) := fun h => by
    unfold mergeF
    rw [HPE.out]
    exact if_pos h
  have HNO : Hid (¬ RespP st P b → mergeF st fs b gs = fs) := fun h => by
    unfold mergeF
    rw [HPE.out]
    exact if_neg h
  clear hW1 hv hu hcp hcg hb hP s3 hl hl2
  go_enter Tryz.func38, Tryz.ntmps38
  go_upto_region 1 with fail
  rw [HW1.out, ← hr]
  clear hr HW1
  go_cut [5] (fun s5 wx => ∃ (o : Nat) (oz : Option Addr) (cz : Nat), s5 = .pointer (some ⟨o, 0, none⟩) ∧ Hid (Below W1.heap.size W1 wx ∧ wx.heap[o]? = some (.cells #[.int .i64 st, .slice oz P.length cz, .string b] 29) ∧ W1.heap.size ≤ o ∧ wx.ownsRow W1.heap.size 74 2 (.slice oz P.length cz) P.length (flatF P) ∧ ∀ j, (Value.slice oz P.length cz).ownBlock = some j → j ≠ o))
  case first =>
    refine wp_region_held_drew (S := fun W => (W.cell? ⟨r, 0, none⟩ = some (.int .i64 st) ∧ W.cell? ⟨r, 1, none⟩ = some (.slice oa n cap) ∧ W.cell? ⟨r, 2, none⟩ = some (.string b)) ∧ W.cell? ⟨r + 1, 0, none⟩ = some (.int .i64 st2) ∧ W.cell? ⟨r + 1, 1, none⟩ = some (.slice ob k cb) ∧ W.cell? ⟨r + 1, 2, none⟩ = some (.string c)) (by kernel_rfl) (HSS.out _ (Below.refl _ _).drew) (fun hS0 => ?_)
    have HST : Hid (MkSt W1 (.cells #[.int .i64 0, .slice none 0 0, .string ⟨#[]⟩] 29) none none P W1.drew) := ⟨(Below.refl _ _).drew, (fun o ho => by cases ho), (fun v hv => by cases hv), (fun o v j ho => by cases ho)⟩
    obtain ⟨X0, hX0⟩ : ∃ X, X = W1.drew := ⟨_, rfl⟩
    rw [← hX0] at hS0 HST ⊢
    clear hX0
    refine wpAnyH_takeD (i := 0) (v := .pointer (some ⟨r, 0, none⟩)) (some 6) rfl rfl (by kernel_rfl) (by kernel_rfl) (by kernel_rfl) (fun _ _ _ h => h) (Or.inl ⟨by rfl, by intro W _; go_simp⟩) hS0 ?_
    simp only [Act.put, List.setIfInBounds_toArray, List.set_cons_zero, List.set_cons_succ]
    refine wpAnyH_takeD (i := 1) (v := .int .i64 st) (some 7) rfl rfl (by kernel_rfl) (by kernel_rfl) (by kernel_rfl) (fun _ _ _ h => h) (Or.inl ⟨by rfl, by intro W hW; obtain ⟨⟨s0, s1, s2⟩, t0, t1, t2⟩ := hW; go_simp⟩) hS0 ?_
    simp only [Act.put, List.setIfInBounds_toArray, List.set_cons_zero, List.set_cons_succ]
    refine wpAnyH_takeD (i := 2) (v := .pointer (some ⟨r, 1, none⟩)) (some 8) rfl rfl (by kernel_rfl) (by kernel_rfl) (by kernel_rfl) (fun _ _ _ h => h) (Or.inl ⟨by rfl, by intro W _; go_simp⟩) hS0 ?_
    simp only [Act.put, List.setIfInBounds_toArray, List.set_cons_zero, List.set_cons_succ]
    refine wpAnyH_takeD (i := 3) (v := .slice oa n cap) (some 9) rfl rfl (by kernel_rfl) (by kernel_rfl) (by kernel_rfl) (fun _ _ _ h => h) (Or.inl ⟨by rfl, by intro W hW; obtain ⟨⟨s0, s1, s2⟩, t0, t1, t2⟩ := hW; go_simp⟩) hS0 ?_
    simp only [Act.put, List.setIfInBounds_toArray, List.set_cons_zero, List.set_cons_succ]
    refine wpAnyH_takeD (i := 4) (v := .pointer (some ⟨r + 1, 1, none⟩)) (some 10) rfl rfl (by kernel_rfl) (by kernel_rfl) (by kernel_rfl) (fun _ _ _ h => h) (Or.inl ⟨by rfl, by intro W _; go_simp⟩) hS0 ?_
    simp only [Act.put, List.setIfInBounds_toArray, List.set_cons_zero, List.set_cons_succ]
    refine wpAnyH_takeD (i := 5) (v := .slice ob k cb) (some 11) rfl rfl (by kernel_rfl) (by kernel_rfl) (by kernel_rfl) (fun _ _ _ h => h) (Or.inl ⟨by rfl, by intro W hW; obtain ⟨⟨s0, s1, s2⟩, t0, t1, t2⟩ := hW; go_simp⟩) hS0 ?_
    simp only [Act.put, List.setIfInBounds_toArray, List.set_cons_zero, List.set_cons_succ]
    refine wpAnyH_takeD (i := 7) (v := .pointer (some ⟨r, 2, none⟩)) (some 13) rfl rfl (by kernel_rfl) (by kernel_rfl) (by kernel_rfl) (fun _ _ _ h => h) (Or.inl ⟨by rfl, by intro W _; go_simp⟩) hS0 ?_
    simp only [Act.put, List.setIfInBounds_toArray, List.set_cons_zero, List.set_cons_succ]
    refine wpAnyH_takeD (i := 8) (v := .string b) (some 14) rfl rfl (by kernel_rfl) (by kernel_rfl) (by kernel_rfl) (fun _ _ _ h => h) (Or.inl ⟨by rfl, by intro W hW; obtain ⟨⟨s0, s1, s2⟩, t0, t1, t2⟩ := hW; go_simp⟩) hS0 ?_
    simp only [Act.put, List.setIfInBounds_toArray, List.set_cons_zero, List.set_cons_succ]
    refine wpAnyH_ready (rs := [6, 11]) (by kernel_rfl) (by simp) ?_
    refine AllReadyH.cons rfl (fun K hK => ?_) (AllReadyH.cons rfl (fun K hK => ?_) AllReadyH.nil)
    · go_simp
      refine (putTogether_any _ n base fs _ k base2 gs _ (HV.out _ (HK1.out _ HST.out.low).2.2.2) (HU.out _ (HK1.out _ HST.out.low).2.2.2) hnk HCF.out HCG.out).mono ?_
      rintro e X1 ⟨zv, rfl, ownz, bx⟩
      obtain ⟨oz, cz, rfl⟩ := slice_of_owns ownz
      rw [HPE.out] at ownz
      have HSN : Hid (MkSt W1 (.cells #[.int .i64 0, .slice none 0 0, .string ⟨#[]⟩] 29) none (some (.slice oz _ cz)) P X1) := HST.out.put bx ownz
      rw [HPE.out]
      clear ownz
      refine hK.out _ _ (HSS.out _ HSN.out.low) (fun _ => ?_)
      clear hK K HST bx
      have HST := HSN
      clear HSN
      refine wpAnyH_ready (rs := [9, 11]) (by kernel_rfl) (by simp) ?_
      refine AllReadyH.cons rfl (fun K hK => ?_) (AllReadyH.cons rfl (fun K hK => ?_) AllReadyH.nil)
      · go_simp
        refine (clone_any b _ HBM.out).mono ?_
        rintro e X2 ⟨rfl, bx⟩
        have HSN : Hid (MkSt W1 (.cells #[.int .i64 0, .slice none 0 0, .string ⟨#[]⟩] 29) none (some (.slice oz P.length cz)) P X2) := HST.out.below bx
        refine hK.out _ _ (HSS.out _ HSN.out.low) (fun _ => ?_)
        clear hK K HST bx
        have HST := HSN
        clear HSN
        refine wpAnyH_takeD (i := 10) (v := .agg #[.int .i64 st, .slice oz P.length cz, .string b]) (some 16) rfl rfl (by kernel_rfl) (by kernel_rfl) (by kernel_rfl) (fun _ _ _ h => h) (Or.inl ⟨by rfl, by intro W _; go_simp⟩) (HSS.out _ HST.out.low) ?_
        simp only [Act.put, List.setIfInBounds_toArray, List.set_cons_zero, List.set_cons_succ]
        refine wpAnyH_ready (rs := [11]) (by kernel_rfl) (by simp) ?_
        refine AllReadyH.cons rfl (fun K hK => ?_) AllReadyH.nil
        have HSN : Hid (MkSt W1 (.cells #[.int .i64 0, .slice none 0 0, .string ⟨#[]⟩] 29) (some X2.heap.size) (some (.slice oz P.length cz)) P (X2.alloc (.cells #[.int .i64 0, .slice none 0 0, .string ⟨#[]⟩] 29))) := HST.out.make
        go_simp
        refine hK.out _ _ (HSS.out _ HSN.out.low) (fun _ => ?_)
        clear hK K HST
        obtain ⟨pa, ho⟩ : ∃ o, o = X2.heap.size := ⟨_, rfl⟩
        obtain ⟨X3, hX⟩ : ∃ X, X = X2.alloc (.cells #[.int .i64 0, .slice none 0 0, .string ⟨#[]⟩] 29) := ⟨_, rfl⟩
        rw [← ho] at HSN ⊢
        rw [← hX] at HSN ⊢
        clear ho hX
        have HST := HSN
        clear HSN
        obtain ⟨Y, hY⟩ : ∃ Y, Y = threeSet X3 pa (.int .i64 st) (.slice oz P.length cz) (.string b) := ⟨_, rfl⟩
        have HY : Hid (threeSet X3 pa (.int .i64 st) (.slice oz P.length cz) (.string b) = Y) := hY.symm
        have HF : Hid (Below W1.heap.size W1 Y ∧ Y.heap[pa]? = some (.cells #[.int .i64 st, .slice oz P.length cz, .string b] 29) ∧ W1.heap.size ≤ pa ∧ Y.ownsRow W1.heap.size 74 2 (.slice oz P.length cz) P.length (flatF P) ∧ ∀ j, (Value.slice oz P.length cz).ownBlock = some j → j ≠ pa) := by
          show _ ∧ _ ∧ _ ∧ _ ∧ _
          rw [hY]
          exact ⟨below_three HST.out.low (HST.out.blk pa rfl).2, three_set (HST.out.blk pa rfl).1 _ _ _, (HST.out.blk pa rfl).2, owns_same (HST.out.own _ rfl) (fun j hj => three_other _ _ j _ _ _ (HST.out.ne pa _ j rfl rfl hj)), fun j hj => HST.out.ne pa _ j rfl rfl hj⟩
        obtain ⟨⟨e0, e1, e2⟩, g0, g1, g2⟩ := three_facts (HST.out.blk pa rfl).1
        have hs9 := HSS.out _ HF.out.1
        unfold threeSet at HY
        clear hY HST
        refine wpAnyH_ready (rs := [12]) (by kernel_rfl) (by simp) ?_
        refine AllReadyH.cons rfl (fun K hK => ?_) AllReadyH.nil
        go_simp
        rw [HY.out]
        refine hK.out _ _ hs9 (fun _ => ?_)
        clear hK K HY e0 e1 e2 g0 g1 g2 hs9
        refine wpAnyH_done (by kernel_rfl) ?_ _
        go_wp2_with fail
        go_meet
        exact ⟨pa, oz, cz, rfl, HF⟩
      · have HSN : Hid (MkSt W1 (.cells #[.int .i64 0, .slice none 0 0, .string ⟨#[]⟩] 29) (some X1.heap.size) (some (.slice oz P.length cz)) P (X1.alloc (.cells #[.int .i64 0, .slice none 0 0, .string ⟨#[]⟩] 29))) := HST.out.make
        go_simp
        refine hK.out _ _ (HSS.out _ HSN.out.low) (fun _ => ?_)
        clear hK K HST
        obtain ⟨pa, ho⟩ : ∃ o, o = X1.heap.size := ⟨_, rfl⟩
        obtain ⟨X2, hX⟩ : ∃ X, X = X1.alloc (.cells #[.int .i64 0, .slice none 0 0, .string ⟨#[]⟩] 29) := ⟨_, rfl⟩
        rw [← ho] at HSN ⊢
        rw [← hX] at HSN ⊢
        clear ho hX
        have HST := HSN
        clear HSN
        refine wpAnyH_ready (rs := [9]) (by kernel_rfl) (by simp) ?_
        refine AllReadyH.cons rfl (fun K hK => ?_) AllReadyH.nil
        go_simp
        refine (clone_any b _ HBM.out).mono ?_
        rintro e X3 ⟨rfl, bx⟩
        have HSN : Hid (MkSt W1 (.cells #[.int .i64 0, .slice none 0 0, .string ⟨#[]⟩] 29) (some pa) (some (.slice oz P.length cz)) P X3) := HST.out.below bx
        refine hK.out _ _ (HSS.out _ HSN.out.low) (fun _ => ?_)
        clear hK K HST bx
        have HST := HSN
        clear HSN
        refine wpAnyH_takeD (i := 10) (v := .agg #[.int .i64 st, .slice oz P.length cz, .string b]) (some 16) rfl rfl (by kernel_rfl) (by kernel_rfl) (by kernel_rfl) (fun _ _ _ h => h) (Or.inl ⟨by rfl, by intro W _; go_simp⟩) (HSS.out _ HST.out.low) ?_
        simp only [Act.put, List.setIfInBounds_toArray, List.set_cons_zero, List.set_cons_succ]
        obtain ⟨Y, hY⟩ : ∃ Y, Y = threeSet X3 pa (.int .i64 st) (.slice oz P.length cz) (.string b) := ⟨_, rfl⟩
        have HY : Hid (threeSet X3 pa (.int .i64 st) (.slice oz P.length cz) (.string b) = Y) := hY.symm
        have HF : Hid (Below W1.heap.size W1 Y ∧ Y.heap[pa]? = some (.cells #[.int .i64 st, .slice oz P.length cz, .string b] 29) ∧ W1.heap.size ≤ pa ∧ Y.ownsRow W1.heap.size 74 2 (.slice oz P.length cz) P.length (flatF P) ∧ ∀ j, (Value.slice oz P.length cz).ownBlock = some j → j ≠ pa) := by
          show _ ∧ _ ∧ _ ∧ _ ∧ _
          rw [hY]
          exact ⟨below_three HST.out.low (HST.out.blk pa rfl).2, three_set (HST.out.blk pa rfl).1 _ _ _, (HST.out.blk pa rfl).2, owns_same (HST.out.own _ rfl) (fun j hj => three_other _ _ j _ _ _ (HST.out.ne pa _ j rfl rfl hj)), fun j hj => HST.out.ne pa _ j rfl rfl hj⟩
        obtain ⟨⟨e0, e1, e2⟩, g0, g1, g2⟩ := three_facts (HST.out.blk pa rfl).1
        have hs9 := HSS.out _ HF.out.1
        unfold threeSet at HY
        clear hY HST
        refine wpAnyH_ready (rs := [12]) (by kernel_rfl) (by simp) ?_
        refine AllReadyH.cons rfl (fun K hK => ?_) AllReadyH.nil
        go_simp
        rw [HY.out]
        refine hK.out _ _ hs9 (fun _ => ?_)
        clear hK K HY e0 e1 e2 g0 g1 g2 hs9
        refine wpAnyH_done (by kernel_rfl) ?_ _
        go_wp2_with fail
        go_meet
        exact ⟨pa, oz, cz, rfl, HF⟩
    · have HSN : Hid (MkSt W1 (.cells #[.int .i64 0, .slice none 0 0, .string ⟨#[]⟩] 29) (some X0.heap.size) none P (X0.alloc (.cells #[.int .i64 0, .slice none 0 0, .string ⟨#[]⟩] 29))) := HST.out.make
      go_simp
      refine hK.out _ _ (HSS.out _ HSN.out.low) (fun _ => ?_)
      clear hK K HST
      obtain ⟨pa, ho⟩ : ∃ o, o = X0.heap.size := ⟨_, rfl⟩
      obtain ⟨X1, hX⟩ : ∃ X, X = X0.alloc (.cells #[.int .i64 0, .slice none 0 0, .string ⟨#[]⟩] 29) := ⟨_, rfl⟩
      rw [← ho] at HSN ⊢
      rw [← hX] at HSN ⊢
      clear ho hX
      have HST := HSN
      clear HSN
      refine wpAnyH_ready (rs := [6]) (by kernel_rfl) (by simp) ?_
      refine AllReadyH.cons rfl (fun K hK => ?_) AllReadyH.nil
      go_simp
      refine (putTogether_any _ n base fs _ k base2 gs _ (HV.out _ (HK1.out _ HST.out.low).2.2.2) (HU.out _ (HK1.out _ HST.out.low).2.2.2) hnk HCF.out HCG.out).mono ?_
      rintro e X2 ⟨zv, rfl, ownz, bx⟩
      obtain ⟨oz, cz, rfl⟩ := slice_of_owns ownz
      rw [HPE.out] at ownz
      have HSN : Hid (MkSt W1 (.cells #[.int .i64 0, .slice none 0 0, .string ⟨#[]⟩] 29) (some pa) (some (.slice oz _ cz)) P X2) := HST.out.put bx ownz
      rw [HPE.out]
      clear ownz
      refine hK.out _ _ (HSS.out _ HSN.out.low) (fun _ => ?_)
      clear hK K HST bx
      have HST := HSN
      clear HSN
      refine wpAnyH_ready (rs := [9]) (by kernel_rfl) (by simp) ?_
      refine AllReadyH.cons rfl (fun K hK => ?_) AllReadyH.nil
      go_simp
      refine (clone_any b _ HBM.out).mono ?_
      rintro e X3 ⟨rfl, bx⟩
      have HSN : Hid (MkSt W1 (.cells #[.int .i64 0, .slice none 0 0, .string ⟨#[]⟩] 29) (some pa) (some (.slice oz P.length cz)) P X3) := HST.out.below bx
      refine hK.out _ _ (HSS.out _ HSN.out.low) (fun _ => ?_)
      clear hK K HST bx
      have HST := HSN
      clear HSN
      refine wpAnyH_takeD (i := 10) (v := .agg #[.int .i64 st, .slice oz P.length cz, .string b]) (some 16) rfl rfl (by kernel_rfl) (by kernel_rfl) (by kernel_rfl) (fun _ _ _ h => h) (Or.inl ⟨by rfl, by intro W _; go_simp⟩) (HSS.out _ HST.out.low) ?_
      simp only [Act.put, List.setIfInBounds_toArray, List.set_cons_zero, List.set_cons_succ]
      obtain ⟨Y, hY⟩ : ∃ Y, Y = threeSet X3 pa (.int .i64 st) (.slice oz P.length cz) (.string b) := ⟨_, rfl⟩
      have HY : Hid (threeSet X3 pa (.int .i64 st) (.slice oz P.length cz) (.string b) = Y) := hY.symm
      have HF : Hid (Below W1.heap.size W1 Y ∧ Y.heap[pa]? = some (.cells #[.int .i64 st, .slice oz P.length cz, .string b] 29) ∧ W1.heap.size ≤ pa ∧ Y.ownsRow W1.heap.size 74 2 (.slice oz P.length cz) P.length (flatF P) ∧ ∀ j, (Value.slice oz P.length cz).ownBlock = some j → j ≠ pa) := by
        show _ ∧ _ ∧ _ ∧ _ ∧ _
        rw [hY]
        exact ⟨below_three HST.out.low (HST.out.blk pa rfl).2, three_set (HST.out.blk pa rfl).1 _ _ _, (HST.out.blk pa rfl).2, owns_same (HST.out.own _ rfl) (fun j hj => three_other _ _ j _ _ _ (HST.out.ne pa _ j rfl rfl hj)), fun j hj => HST.out.ne pa _ j rfl rfl hj⟩
      obtain ⟨⟨e0, e1, e2⟩, g0, g1, g2⟩ := three_facts (HST.out.blk pa rfl).1
      have hs9 := HSS.out _ HF.out.1
      unfold threeSet at HY
      clear hY HST
      refine wpAnyH_ready (rs := [12]) (by kernel_rfl) (by simp) ?_
      refine AllReadyH.cons rfl (fun K hK => ?_) AllReadyH.nil
      go_simp
      rw [HY.out]
      refine hK.out _ _ hs9 (fun _ => ?_)
      clear hK K HY e0 e1 e2 g0 g1 g2 hs9
      refine wpAnyH_done (by kernel_rfl) ?_ _
      go_wp2_with fail
      go_meet
      exact ⟨pa, oz, cz, rfl, HF⟩
  case rest =>
  obtain ⟨o, oz, cz, hs5, HF⟩ := hcut
  rw [hs5]
  obtain ⟨w2, hw2⟩ : ∃ W, W = wc := ⟨_, rfl⟩
  rw [← hw2] at HF ⊢
  clear hs5 hw2
  have HST : Hid (MgSt w r o st (.slice oa n cap) b st2 (.slice ob k cb) c (.slice oz P.length cz) P w2) := by
    obtain ⟨a0, a1, a2, a3⟩ := HK1.out _ HF.out.1
    obtain ⟨_, f1, f2, f3, f4⟩ := HF.out
    have h3 := HS3.out
    rw [h3] at f2 f3
    exact ⟨a0, a1, a2, f1, f3, f4, f2, a3⟩
  clear HF HSS HK1 HS3
  obtain ⟨ln, hln⟩ : ∃ x, x = P.length := ⟨_, rfl⟩
  have HVQ : Hid (FieldsV w2 (r + 1 + 1 + 1) (.slice oz ln cz) ln P) := by
    have h := FieldsV.of_owns HST.out.own
    rw [← hln] at h
    exact h
  rw [← hln] at HPL HPW HST
  clear hln
  obtain ⟨⟨d0, d1, d2⟩, _⟩ := three_facts HST.out.q3
  go_wp2_with fail
  refine (implRespOk_any st _ b ln _ P _ HVQ.out (by have := HPL.out; omega) HPW.out (by have := HBM.out; unfold maxLen; omega)).mono ?_
  rintro e w3 ⟨ok, rfl, hok, b3⟩
  have HST3 : Hid (MgSt w r o st (.slice oa n cap) b st2 (.slice ob k cb) c (.slice oz ln cz) P w3) := HST.out.below b3
  clear d0 d1 d2 HST HVQ b3
  cases ok with
  | true =>
    have HFE : Hid (mergeF st fs b gs = P) := HYES.out (hok.1 rfl)
    clear hok HYES HNO
    obtain ⟨⟨e0, e1, e2⟩, g0, g1, g2⟩ := three_facts HST3.out.q2
    obtain ⟨⟨d0, d1, d2⟩, _⟩ := three_facts HST3.out.q3
    have hset := three_set HST3.out.q2 (.int .i64 st) (.slice oz ln cz) (.string b)
    obtain ⟨⟨k0, k1, k2⟩, _⟩ := three_facts hset
    have HFB : Hid (Below r w (threeSet (w3) (r + 1 + 1) (.int .i64 st) (.slice oz ln cz) (.string b))) := below_three HST3.out.low (by omega)
    have HFO : Hid ((threeSet (w3) (r + 1 + 1) (.int .i64 st) (.slice oz ln cz) (.string b)).ownsRow r 74 2 (.slice oz ln cz) (mergeF st fs b gs).length (flatF (mergeF st fs b gs))) := by
      show World.ownsRow _ _ _ _ _ _ _
      rw [HFE.out]
      refine owns_same (owns_wide HST3.out.own (by omega)) (fun j hj => ?_)
      have hj2 := owns_ge HST3.out.own hj
      exact three_other _ _ j _ _ _ (by omega)
    unfold threeSet at k0 k1 k2 HFB HFO
    clear hset HST3
    go_wp2_with fail
    refine bodyPost_ret (v := .agg #[.int .i64 st, .slice oz ln cz, .string b]) (by simp [results, Tryz.results38, go_sem, k0, k1, k2]) rfl ?_
    exact ⟨_, rfl, by rw [HR.out]; exact HFO.out, by rw [HR.out]; exact HFB.out⟩
  | false =>
    have HFE : Hid (mergeF st fs b gs = fs) := HNO.out (fun h => nomatch hok.2 h)
    clear hok HYES HNO
    have hva := HV.out _ HST3.out.low
    obtain ⟨⟨_, q1, _⟩, _⟩ := three_facts HST3.out.q0
    have HNIL : Hid (FieldsV w3 0 (.slice none 0 0) 0 []) := .inl ⟨none, 0, rfl, fun _ => rfl, rfl, rfl⟩
    have HCN : Hid (CopyF []) := fun i hi => by cases hi
    go_wp2_with fail
    refine (putTogether_any _ n base fs _ 0 0 [] _ hva HNIL.out (by omega) HCF.out HCN.out).mono ?_
    rintro e w4 ⟨zv, rfl, ownz, b4⟩
    have HPN : Hid (putAll fs [] = fs) := rfl
    rw [HPN.out] at ownz
    obtain ⟨o4, c4, rfl⟩ := slice_of_owns ownz
    obtain ⟨⟨_, f1, _⟩, _, y1, _⟩ := three_facts (HST3.out.below b4).q3
    have HST5 : Hid (MgSt w r o st (.slice oa n cap) b st2 (.slice ob k cb) c (.slice o4 fs.length c4) fs (w4.setCell ⟨o, 1, none⟩ (.slice o4 fs.length c4))) := HST3.out.set b4 ownz
    clear HST3 b4 ownz hva q1 HNIL HCN
    go_upto_region 4 with fail
    obtain ⟨w5, hw5⟩ : ∃ W, W = w4.setCell ⟨o, 1, none⟩ (.slice o4 fs.length c4) := ⟨_, rfl⟩
    rw [← hw5] at HST5 ⊢
    clear hw5 f1 y1
    obtain ⟨lf, hlf⟩ : ∃ x, x = fs.length := ⟨_, rfl⟩
    rw [← hlf] at HST5 ⊢
    clear hlf
    obtain ⟨⟨e0, e1, e2⟩, g0, g1, g2⟩ := three_facts HST5.out.q2
    obtain ⟨⟨d0, d1, d2⟩, _⟩ := three_facts HST5.out.q3
    have hset := three_set HST5.out.q2 (.int .i64 st) (.slice o4 lf c4) (.string b)
    obtain ⟨⟨k0, k1, k2⟩, _⟩ := three_facts hset
    have HFB : Hid (Below r w (threeSet (w5) (r + 1 + 1) (.int .i64 st) (.slice o4 lf c4) (.string b))) := below_three HST5.out.low (by omega)
    have HFO : Hid ((threeSet (w5) (r + 1 + 1) (.int .i64 st) (.slice o4 lf c4) (.string b)).ownsRow r 74 2 (.slice o4 lf c4) (mergeF st fs b gs).length (flatF (mergeF st fs b gs))) := by
      show World.ownsRow _ _ _ _ _ _ _
      rw [HFE.out]
      refine owns_same (owns_wide HST5.out.own (by omega)) (fun j hj => ?_)
      have hj2 := owns_ge HST5.out.own hj
      exact three_other _ _ j _ _ _ (by omega)
    unfold threeSet at k0 k1 k2 HFB HFO
    clear hset HST5
    go_wp2_with fail
    refine bodyPost_ret (v := .agg #[.int .i64 st, .slice o4 lf c4, .string b]) (by simp [results, Tryz.results38, go_sem, k0, k1, k2]) rfl ?_
    exact ⟨_, rfl, by rw [HR.out]; exact HFO.out, by rw [HR.out]; exact HFB.out⟩


end Go.Proofs.YtmcmeeibogkpaaaGreatDoorR

namespace Go.Proofs.YtmcmeeibogkpaaaGreatDoorR
open Go.RowKit
open Go.Lib hiding intOf

set_option maxHeartbeats 1000000 in
theorem withinTime_any (n : Int) (w : World) :
    Calls Tryz.prog 113 #[.int .i64 n] w fun e w' => e = .returned (.int .i64 (min (max n 0) 1000000)) ∧ w' = w := by
  go_enter Tryz.func113, Tryz.ntmps113
  go_wp2
  go_ret
  exact ⟨rfl, rfl⟩

set_option maxHeartbeats 1000000 in
theorem implPlus_any (a b : Int) (w : World) :
    Calls Tryz.prog 69 #[.int .i64 a, .int .i64 b] w fun e w' => e = .returned (.int .i64 (plusI a b)) ∧ w' = w := by
  have u1 : 0 ≤ min (max a 0) 1000000 ∧ min (max a 0) 1000000 ≤ 1000000 := by omega
  have u2 : 0 ≤ min (max b 0) 1000000 ∧ min (max b 0) 1000000 ≤ 1000000 := by omega
  have HP : Hid (plusI a b = min (min (max a 0) 1000000 + min (max b 0) 1000000) 1000000) := rfl
  obtain ⟨x, hx⟩ : ∃ x, x = min (max a 0) 1000000 := ⟨_, rfl⟩
  obtain ⟨y, hy⟩ : ∃ y, y = min (max b 0) 1000000 := ⟨_, rfl⟩
  rw [← hx, ← hy] at HP
  rw [← hx] at u1
  rw [← hy] at u2
  have HX : Hid (min (max a 0) 1000000 = x) := hx.symm
  have HY : Hid (min (max b 0) 1000000 = y) := hy.symm
  clear hx hy
  go_enter Tryz.func69, Tryz.ntmps69
  go_wp2_with fail
  refine (withinTime_any _ _).mono ?_
  rintro e w1 ⟨rfl, rfl⟩
  rw [HX.out]
  go_wp2_with fail
  refine (withinTime_any _ _).mono ?_
  rintro e w2 ⟨rfl, rfl⟩
  rw [HY.out]
  go_wp2_with fail
  refine (withinTime_any _ _).mono ?_
  rintro e w3 ⟨rfl, rfl⟩
  go_wp2_with fail
  go_ret
  exact ⟨by rw [HP.out, Int.max_eq_left (by omega : (0 : Int) ≤ x + y)]; rfl, rfl⟩

theorem wrapU (n : Int) : IntKind.u64.wrap n = n % 18446744073709551616 := by simp [IntKind.wrap, IntKind.signed, IntKind.bits]

set_option maxHeartbeats 1000000 in
/-- The clock that clockFrom hands back, at a time. -/
theorem clock_any (b : Nat) (t now : Int) (w : World) (h0 : -9223372036854775808 ≤ t) (h1 : now ≤ 9223372036854775807) (hc : w.cell? ⟨b, 0, none⟩ = some (.int .i64 t)) :
    Calls Tryz.prog 112 #[.int .i64 now, .pointer (some ⟨b, 0, none⟩)] w fun e w' => e = .returned (.int .i64 (sinceI t now)) ∧ w' = w := by
  by_cases hle : now ≤ t
  · have HE : Hid (sinceI t now = 0) := by show _ = _; unfold sinceI; rw [if_pos hle]
    go_enter Tryz.func112, Tryz.ntmps112
    go_wp2
    go_ret
    exact ⟨by rw [HE.out]; rfl, rfl⟩
  · have HE : Hid (sinceI t now = wrap64 (min (IntKind.u64.wrap (IntKind.u64.wrap now - IntKind.u64.wrap t)) 1000000)) := by
      show _ = _
      unfold sinceI
      rw [if_neg hle]
      rw [wrapU, wrapU, wrapU]
      unfold wrap64
      omega
    go_enter Tryz.func112, Tryz.ntmps112
    go_wp2
    go_ret
    exact ⟨by rw [HE.out]; rfl, rfl⟩

set_option maxHeartbeats 1000000 in
theorem clockFrom_any (t : Int) (w : World) :
    Calls Tryz.prog 68 #[.int .i64 t] w fun e w' => e = .returned (.func (.func 112) #[] #[.pointer (some ⟨w.heap.size, 0, none⟩)]) ∧ w' = w.alloc (.cells #[.int .i64 t] 3) := by
  have hmf : ∀ (fn : Fn) (first cap : Array Value) (w : World), (Instr.makeFunc fn first cap).run Tryz.prog w = .ok (.func fn first cap) w := fun _ _ _ _ => rfl
  go_enter Tryz.func68, Tryz.ntmps68
  go_wp2
  go_ret
  exact ⟨rfl, rfl⟩

theorem numV_none (fs : List (ByteArray × ByteArray)) (name : ByteArray) (h : getB fs name = false) : numV (getV fs name) = 0 := by
  unfold getB at h
  unfold getV numV
  rw [if_neg (of_decide_eq_false h)]
  exact if_neg (fun hk => absurd hk.1 (by decide))

set_option maxHeartbeats 1000000 in
theorem statedAge_any (v : Value) (n base : Nat) (fs : List (ByteArray × ByteArray)) (w : World) (hv : FieldsV w base v n fs) (hn : n ≤ 1073741824) (hcp : CopyF fs) (hsz : (getV fs ageName).size ≤ maxLen) :
    Calls Tryz.prog 70 #[v] w fun e w' => e = .returned (.int .i64 (ageN fs)) ∧ Below w.heap.size w w' := by
  have HN : Hid (getB fs ageName = false → numV (getV fs ageName) = 0) := numV_none fs ageName
  obtain ⟨s, hs⟩ : ∃ s, s = getV fs ageName := ⟨_, rfl⟩
  obtain ⟨th, hth⟩ : ∃ b, b = getB fs ageName := ⟨_, rfl⟩
  have HS : Hid (getV fs ageName = s) := hs.symm
  have HT : Hid (getB fs ageName = th) := hth.symm
  rw [← hs] at hsz
  clear hs hth
  go_enter Tryz.func70, Tryz.ntmps70
  go_wp2_with fail
  refine (implGet_any v n base fs ageName _ hv hn hcp).mono ?_
  rintro e w1 ⟨rfl, b1⟩
  rw [HS.out, HT.out]
  clear hv
  cases th with
  | false =>
    have HE : Hid (ageN fs = 0) := by
      show _ = _
      unfold ageN
      rw [if_neg (fun h => absurd (HT.out.symm.trans h.1) (by decide))]
      exact HN.out HT.out
    go_wp2_with fail
    go_ret
    exact ⟨by rw [HE.out]; rfl, b1⟩
  | true =>
    go_wp2_with fail
    refine (implNumRead_any s _ hsz).mono ?_
    rintro e w2 ⟨b, x, rfl, hb1, hb2, hb3, b2⟩
    have HB : Hid (Below w.heap.size w w2) := b1.trans (b2.mono b1.size)
    cases b with
    | true =>
      have HE : Hid (ageN fs = x) := by
        show _ = _
        unfold ageN
        rw [HS.out, if_neg (fun h => h.2 (hb1.1 rfl))]
        unfold numV
        rw [if_pos (hb1.1 rfl), hb2 rfl]
      clear hb1 hb2 hb3 b2 b1
      go_wp2_with fail
      go_ret
      exact ⟨by rw [HE.out]; rfl, HB.out⟩
    | false =>
      have HE : Hid (ageN fs = 1000000) := by
        show _ = _
        unfold ageN
        rw [HS.out, if_pos ⟨HT.out, fun h => nomatch hb1.2 h⟩]
      clear hb1 hb2 hb3 b2 b1
      go_wp2_with fail
      go_ret
      exact ⟨by rw [HE.out]; rfl, HB.out⟩

set_option maxHeartbeats 1000000 in
theorem implAgeAt_any (v : Value) (n base : Nat) (fs : List (ByteArray × ByteArray)) (t now : Int) (w : World) (hv : FieldsV w base v n fs) (hn : n ≤ 1073741824) (hcp : CopyF fs) (hsz : (getV fs ageName).size ≤ maxLen) (h0 : -9223372036854775808 ≤ t) (h1 : now ≤ 9223372036854775807) :
    Calls Tryz.prog 18 #[v, .int .i64 t, .int .i64 now] w fun e w' => e = .returned (.int .i64 (ageAt fs t now)) ∧ Below w.heap.size w w' := by
  have HE : Hid (ageAt fs t now = plusI (ageN fs) (sinceI t now)) := rfl
  have b0 : Below w.heap.size w (w.alloc (.cells #[.int .i64 t] 3)) := (Below.refl _ w).alloc (Nat.le_refl _) _
  have hc : (w.alloc (.cells #[.int .i64 t] 3)).cell? ⟨w.heap.size, 0, none⟩ = some (.int .i64 t) := by simp [go_sem]
  have hz : w.heap.size < (w.alloc (.cells #[.int .i64 t] 3)).heap.size := by simp
  have HV : Hid (FieldsV (w.alloc (.cells #[.int .i64 t] 3)) base v n fs) := hv.below b0
  have HC : Hid (∀ w1, Below (w.alloc (.cells #[.int .i64 t] 3)).heap.size (w.alloc (.cells #[.int .i64 t] 3)) w1 → w1.cell? ⟨w.heap.size, 0, none⟩ = some (.int .i64 t) ∧ Below w.heap.size w w1) := fun w1 hb => ⟨(hb.cell hz).trans hc, b0.trans (hb.mono b0.size)⟩
  clear b0 hc hz hv
  go_enter Tryz.func18, Tryz.ntmps18
  go_wp2_with fail
  refine (clockFrom_any t _).mono ?_
  rintro e w1 ⟨rfl, rfl⟩
  go_wp2_with fail
  refine (statedAge_any v n base fs _ HV.out hn hcp hsz).mono ?_
  rintro e w2 ⟨rfl, b2⟩
  obtain ⟨hc, hb⟩ := HC.out w2 b2
  have HB : Hid (Below w.heap.size w w2) := hb
  have HC2 : Hid (w2.cell? ⟨w.heap.size, 0, none⟩ = some (.int .i64 t)) := hc
  obtain ⟨x, hx⟩ : ∃ x, x = ageN fs := ⟨_, rfl⟩
  rw [← hx] at HE ⊢
  clear hb hc b2 hx HV HC
  go_wp2_with fail
  refine (clock_any _ t now _ h0 h1 HC2.out).mono ?_
  rintro e w3 ⟨rfl, rfl⟩
  go_wp2_with fail
  refine (implPlus_any _ _ _).mono ?_
  rintro e w4 ⟨rfl, rfl⟩
  go_wp2_with fail
  go_ret
  exact ⟨by rw [HE.out]; rfl, HB.out⟩

end Go.Proofs.YtmcmeeibogkpaaaGreatDoorR

namespace Go.Proofs.YtmcmeeibogkpaaaGreatDoorR
open Go.RowKit
open Go.Lib hiding intOf

set_option maxHeartbeats 8000000 in
set_option maxRecDepth 100000 in
theorem implAnswer_any (ma : Int) (pa : ByteArray) (va : Value) (ba : ByteArray) (na basea : Nat) (fsa : List (ByteArray × ByteArray)) (op : ByteArray) (o1 o2 : Option Addr) (n1 c1 n2 c2 : Nat) (st : Int) (u : Value) (d : ByteArray) (t : Int) (k baseo : Nat) (gs : List (ByteArray × ByteArray)) (now : Int) (w : World) (hva : FieldsV w basea va na fsa) (hna : na ≤ 1048576) (hsa : WalkF na fsa) (hpa : pa.size ≤ maxLen) (hba : ba.size ≤ maxLen) (hga : ∀ x, (getV fsa x).size ≤ 1048576) (hca : CopyF fsa) (hu : FieldsV w baseo u k gs) (hk : k ≤ 1048576) (hso : WalkF k gs) (hd : d.size ≤ maxLen) (hgo : ∀ x, (getV gs x).size ≤ 1048576) (ht : -9223372036854775808 ≤ t) (hnow : now ≤ 9223372036854775807) (hco : CopyF gs) (hdz : d.size ≤ 281474976710656) (htab : TabOk w) :
    Calls Tryz.prog 7 #[.agg #[.int .i64 ma, .string pa, va, .string ba], .agg #[.string op, .slice o1 n1 c1, .slice o2 n2 c2, .int .i64 st, u, .string d, .int .i64 t], .int .i64 now] w fun e w' => RespRow (ansS fsa gs st) (ansF fsa gs st d t now) (ansB fsa gs d) w e w' := by
  obtain ⟨oa, ca, hsl, _⟩ := hva.slice
  subst hsl
  have HVa : Hid (∀ W, Below w.heap.size w W → FieldsV W basea (.slice oa na ca) na fsa) := fun W h => hva.below h
  have HLFa : Hid (fsa.length = na) := hva.len
  have HSa : Hid (WalkF na fsa) := hsa
  have HPMa : Hid (pa.size ≤ maxLen) := hpa
  have HBMa : Hid (ba.size ≤ maxLen) := hba
  have HQVa : Hid (∀ x, (getV fsa x).size ≤ 1048576) := hga
  have HCa : Hid (CopyF fsa) := hca
  clear hva hsa hpa hba hga hca
  obtain ⟨o3, c3, hsl, _⟩ := hu.slice
  subst hsl
  have HVo : Hid (∀ W, Below w.heap.size w W → FieldsV W baseo (.slice o3 k c3) k gs) := fun W h => hu.below h
  have HLo : Hid (gs.length = k) := hu.len
  have HSo : Hid (WalkF k gs) := hso
  have HDM : Hid (d.size ≤ maxLen) := hd
  have HGo : Hid (∀ x, (getV gs x).size ≤ 1048576) := hgo
  have HTN : Hid (-9223372036854775808 ≤ t ∧ now ≤ 9223372036854775807) := ⟨ht, hnow⟩
  have HCo : Hid (CopyF gs) := hco
  have HDZ : Hid (d.size ≤ 281474976710656) := hdz
  have HT : Hid (∀ W, Below w.heap.size w W → TabOk W) := fun W h => htab.below h
  clear hco hdz htab
  clear hu hso hd hgo ht hnow
  obtain ⟨sg, hsg⟩ : ∃ l, l = shortF gs := ⟨_, rfl⟩
  have HSG : Hid (shortF gs = sg) := hsg.symm
  have HSL : Hid (sg.length ≤ k) := by show _ ≤ _; rw [hsg, ← HLo.out]; exact shortF_le gs
  have bsl : sg.length ≤ 1048576 := by have := HSL.out; omega
  have HSW : Hid (WalkF sg.length sg) := by show WalkF _ _; rw [hsg]; exact walk_short HLo.out HSo.out
  have HSC : Hid (CopyF sg) := by show CopyF _; rw [hsg]; exact copy_short HCo.out
  clear hsg
  obtain ⟨ag, hag⟩ : ∃ a, a = ageAt gs t now := ⟨_, rfl⟩
  have HAG : Hid (ageAt gs t now = ag) := hag.symm
  have HAB : Hid (0 ≤ ag ∧ ag ≤ 1000000) := by show _ ∧ _; rw [hag]; exact ageAt_in gs t now
  have hab0 : -9223372036854775808 ≤ ag := by have := HAB.out.1; omega
  have hab1 : ag ≤ 9223372036854775807 := by have := HAB.out.2; omega
  clear hag
  obtain ⟨tx, htx⟩ : ∃ x, x = numTextI ag := ⟨_, rfl⟩
  have HTX : Hid (numTextI ag = tx) := htx.symm
  have HAT : Hid (ageT gs t now = tx) := by show _ = _; rw [htx, ← HAG.out]; rfl
  have HTZ : Hid (tx.size ≤ 8) := by show _ ≤ _; rw [← HAT.out]; exact ageT_size gs t now
  clear htx
  have hb0 : Below w.heap.size w w := Below.refl _ _
  go_enter Tryz.func7, Tryz.ntmps7
  go_upto_region 1 with fail
  obtain ⟨qv1, hqv1⟩ : ∃ q, q = (w).heap.size := ⟨_, rfl⟩
  obtain ⟨w1, hW1⟩ : ∃ W, W = (w).alloc (.cells #[.int .i64 ma, .string pa, .slice oa na ca, .string ba] 26) := ⟨_, rfl⟩
  have hz1 : (w).heap.size = qv1 := hqv1.symm
  first | rw [← hW1, ← hqv1] | rw [← hW1]
  have hs1 : w1.heap.size = qv1 + 1 := by rw [hW1, ← hz1]; simp
  have bw : Below (w).heap.size (w) w1 := by rw [hW1]; exact (Below.refl _ _).alloc (Nat.le_refl _) _
  have hb1 : Below w.heap.size w (w1) := hb0.trans (bw.mono hb0.size)
  have HBv1_1 : Hid ((w1).heap[qv1]? = some (.cells #[.int .i64 ma, .string pa, .slice oa na ca, .string ba] 26)) := by show _ = _; rw [hW1, ← hz1]; exact heap_alloc_new _ _
  clear hb0 bw hW1 hz1
  obtain ⟨qv2, hqv2⟩ : ∃ q, q = qv1 + 1 := ⟨_, rfl⟩
  obtain ⟨w2, hW2⟩ : ∃ W, W = (w1).alloc (.cells #[.string op, .slice o1 n1 c1, .slice o2 n2 c2, .int .i64 st, .slice o3 k c3, .string d, .int .i64 t] 31) := ⟨_, rfl⟩
  have hz2 : (w1).heap.size = qv2 := by rw [hqv2]; exact hs1
  first | rw [← hW2, ← hqv2] | rw [← hW2]
  have hs2 : w2.heap.size = qv2 + 1 := by rw [hW2, ← hz2]; simp
  have bw : Below (w1).heap.size (w1) w2 := by rw [hW2]; exact (Below.refl _ _).alloc (Nat.le_refl _) _
  have hb2 : Below w.heap.size w (w2) := hb1.trans (bw.mono hb1.size)
  have HBv1_2 : Hid ((w2).heap[qv1]? = some (.cells #[.int .i64 ma, .string pa, .slice oa na ca, .string ba] 26)) := blk_below HBv1_1.out bw
  have HBv2_2 : Hid ((w2).heap[qv2]? = some (.cells #[.string op, .slice o1 n1 c1, .slice o2 n2 c2, .int .i64 st, .slice o3 k c3, .string d, .int .i64 t] 31)) := by show _ = _; rw [hW2, ← hz2]; exact heap_alloc_new _ _
  clear hb1 HBv1_1 bw hW2 hz2
  obtain ⟨qv3, hqv3⟩ : ∃ q, q = qv2 + 1 := ⟨_, rfl⟩
  obtain ⟨w3, hW3⟩ : ∃ W, W = (w2).alloc (.cells #[.int .i64 0, .slice none 0 0, .string ⟨#[]⟩] 29) := ⟨_, rfl⟩
  have hz3 : (w2).heap.size = qv3 := by rw [hqv3]; exact hs2
  first | rw [← hW3, ← hqv3] | rw [← hW3]
  have hs3 : w3.heap.size = qv3 + 1 := by rw [hW3, ← hz3]; simp
  have bw : Below (w2).heap.size (w2) w3 := by rw [hW3]; exact (Below.refl _ _).alloc (Nat.le_refl _) _
  have hb3 : Below w.heap.size w (w3) := hb2.trans (bw.mono hb2.size)
  have HBv1_3 : Hid ((w3).heap[qv1]? = some (.cells #[.int .i64 ma, .string pa, .slice oa na ca, .string ba] 26)) := blk_below HBv1_2.out bw
  have HBv2_3 : Hid ((w3).heap[qv2]? = some (.cells #[.string op, .slice o1 n1 c1, .slice o2 n2 c2, .int .i64 st, .slice o3 k c3, .string d, .int .i64 t] 31)) := blk_below HBv2_2.out bw
  have HNv1v3 : Hid (qv1 ≠ qv3) := fun e => by have h1 := (Array.getElem?_eq_some_iff.1 HBv1_2.out).1; omega
  have HNv2v3 : Hid (qv2 ≠ qv3) := fun e => by have h1 := (Array.getElem?_eq_some_iff.1 HBv2_2.out).1; omega
  have HBv3_3 : Hid ((w3).heap[qv3]? = some (.cells #[.int .i64 0, .slice none 0 0, .string ⟨#[]⟩] 29)) := by show _ = _; rw [hW3, ← hz3]; exact heap_alloc_new _ _
  have HGv3 : Hid (w.heap.size ≤ qv3) := by show _ ≤ _; rw [← hz3]; exact hb2.size
  clear hb2 HBv1_2 HBv2_2 bw hW3 hz3
  clear hs3 hqv3 hs2 hqv2 hs1 hqv1
  have cv2_3 : (w3).cell? ⟨qv2, 3, none⟩ = some (.int .i64 st) := (cell_of HBv2_3.out 3).trans rfl
  have Acv2_3 : ∀ o, ((w3).alloc o).cell? ⟨qv2, 3, none⟩ = some (.int .i64 st) := fun o => (cell_of (blk_below HBv2_3.out ((Below.refl _ _).alloc (Nat.le_refl _) o)) 3).trans rfl
  have Afcv2_3 : ∀ o, ((w3).alloc o).frozen? ⟨qv2, 3, none⟩ = false := fun o => frozen_of (blk_below HBv2_3.out ((Below.refl _ _).alloc (Nat.le_refl _) o)) 3
  have cv2_4 : (w3).cell? ⟨qv2, 4, none⟩ = some (.slice o3 k c3) := (cell_of HBv2_3.out 4).trans rfl
  have Acv2_4 : ∀ o, ((w3).alloc o).cell? ⟨qv2, 4, none⟩ = some (.slice o3 k c3) := fun o => (cell_of (blk_below HBv2_3.out ((Below.refl _ _).alloc (Nat.le_refl _) o)) 4).trans rfl
  have Afcv2_4 : ∀ o, ((w3).alloc o).frozen? ⟨qv2, 4, none⟩ = false := fun o => frozen_of (blk_below HBv2_3.out ((Below.refl _ _).alloc (Nat.le_refl _) o)) 4
  have cv2_5 : (w3).cell? ⟨qv2, 5, none⟩ = some (.string d) := (cell_of HBv2_3.out 5).trans rfl
  have Acv2_5 : ∀ o, ((w3).alloc o).cell? ⟨qv2, 5, none⟩ = some (.string d) := fun o => (cell_of (blk_below HBv2_3.out ((Below.refl _ _).alloc (Nat.le_refl _) o)) 5).trans rfl
  have Afcv2_5 : ∀ o, ((w3).alloc o).frozen? ⟨qv2, 5, none⟩ = false := fun o => frozen_of (blk_below HBv2_3.out ((Below.refl _ _).alloc (Nat.le_refl _) o)) 5
  go_upto_region 2 with fail
  obtain ⟨qv4, hqv4⟩ : ∃ q, q = (w3).heap.size := ⟨_, rfl⟩
  obtain ⟨w4, hW4⟩ : ∃ W, W = (w3).alloc (.cells #[.int .i64 st, .slice o3 k c3, .string d] 29) := ⟨_, rfl⟩
  have hz4 : (w3).heap.size = qv4 := hqv4.symm
  first | rw [← hW4, ← hqv4] | rw [← hW4]
  have hs4 : w4.heap.size = qv4 + 1 := by rw [hW4, ← hz4]; simp
  have bw : Below (w3).heap.size (w3) w4 := by rw [hW4]; exact (Below.refl _ _).alloc (Nat.le_refl _) _
  have hb4 : Below w.heap.size w (w4) := hb3.trans (bw.mono hb3.size)
  have HBv1_4 : Hid ((w4).heap[qv1]? = some (.cells #[.int .i64 ma, .string pa, .slice oa na ca, .string ba] 26)) := blk_below HBv1_3.out bw
  have HBv2_4 : Hid ((w4).heap[qv2]? = some (.cells #[.string op, .slice o1 n1 c1, .slice o2 n2 c2, .int .i64 st, .slice o3 k c3, .string d, .int .i64 t] 31)) := blk_below HBv2_3.out bw
  have HBv3_4 : Hid ((w4).heap[qv3]? = some (.cells #[.int .i64 0, .slice none 0 0, .string ⟨#[]⟩] 29)) := blk_below HBv3_3.out bw
  have HNv1v4 : Hid (qv1 ≠ qv4) := fun e => by have h1 := (Array.getElem?_eq_some_iff.1 HBv1_3.out).1; omega
  have HNv2v4 : Hid (qv2 ≠ qv4) := fun e => by have h1 := (Array.getElem?_eq_some_iff.1 HBv2_3.out).1; omega
  have HNv3v4 : Hid (qv3 ≠ qv4) := fun e => by have h1 := (Array.getElem?_eq_some_iff.1 HBv3_3.out).1; omega
  have HBv4_4 : Hid ((w4).heap[qv4]? = some (.cells #[.int .i64 st, .slice o3 k c3, .string d] 29)) := by show _ = _; rw [hW4, ← hz4]; exact heap_alloc_new _ _
  have HGv4 : Hid (w.heap.size ≤ qv4) := by show _ ≤ _; rw [← hz4]; exact hb3.size
  clear hb3 HBv1_3 HBv2_3 HBv3_3 bw hW4 hz4
  clear hs4 hqv4
  clear cv2_3 Acv2_3 Afcv2_3 cv2_4 Acv2_4 Afcv2_4 cv2_5 Acv2_5 Afcv2_5
  have cv1_0 : (w4).cell? ⟨qv1, 0, none⟩ = some (.int .i64 ma) := (cell_of HBv1_4.out 0).trans rfl
  have cv1_1 : (w4).cell? ⟨qv1, 1, none⟩ = some (.string pa) := (cell_of HBv1_4.out 1).trans rfl
  have cv1_2 : (w4).cell? ⟨qv1, 2, none⟩ = some (.slice oa na ca) := (cell_of HBv1_4.out 2).trans rfl
  have cv1_3 : (w4).cell? ⟨qv1, 3, none⟩ = some (.string ba) := (cell_of HBv1_4.out 3).trans rfl
  have cv4_1 : (w4).cell? ⟨qv4, 1, none⟩ = some (.slice o3 k c3) := (cell_of HBv4_4.out 1).trans rfl
  go_wp2_with fail
  refine (implSame_any ma pa _ ba na basea fsa _ k baseo gs _ (HVa.out _ hb4) (by omega) (HVo.out _ hb4) (by omega) HCa.out HCo.out).mono ?_
  rintro e w5 ⟨sm, rfl, hsm, bw⟩
  have hb5 : Below w.heap.size w (w5) := hb4.trans (bw.mono hb4.size)
  have HBv1_5 : Hid ((w5).heap[qv1]? = some (.cells #[.int .i64 ma, .string pa, .slice oa na ca, .string ba] 26)) := blk_below HBv1_4.out bw
  have HBv2_5 : Hid ((w5).heap[qv2]? = some (.cells #[.string op, .slice o1 n1 c1, .slice o2 n2 c2, .int .i64 st, .slice o3 k c3, .string d, .int .i64 t] 31)) := blk_below HBv2_4.out bw
  have HBv3_5 : Hid ((w5).heap[qv3]? = some (.cells #[.int .i64 0, .slice none 0 0, .string ⟨#[]⟩] 29)) := blk_below HBv3_4.out bw
  have HBv4_5 : Hid ((w5).heap[qv4]? = some (.cells #[.int .i64 st, .slice o3 k c3, .string d] 29)) := blk_below HBv4_4.out bw
  clear hb4 HBv1_4 HBv2_4 HBv3_4 HBv4_4 bw
  clear cv1_0 cv1_1 cv1_2 cv1_3 cv4_1
  cases sm with
  | false =>
    have HNsm : Hid (¬ (SameP fsa gs)) := fun h => nomatch hsm.2 h
    clear hsm
    have cv2_4 : (w5).cell? ⟨qv2, 4, none⟩ = some (.slice o3 k c3) := (cell_of HBv2_5.out 4).trans rfl
    have cv2_6 : (w5).cell? ⟨qv2, 6, none⟩ = some (.int .i64 t) := (cell_of HBv2_5.out 6).trans rfl
    go_wp2_with fail
    refine (implAgeAt_any _ k baseo gs t now _ (HVo.out _ hb5) (by omega) HCo.out (by have := HGo.out ageName; unfold maxLen; omega) HTN.out.1 HTN.out.2).mono ?_
    rintro e w6 ⟨rfl, bw⟩
    rw [HAG.out]
    have hb6 : Below w.heap.size w (w6) := hb5.trans (bw.mono hb5.size)
    have HM6 : Hid ((w5).heap.size ≤ (w6).heap.size) := bw.size
    have HBv1_6 : Hid ((w6).heap[qv1]? = some (.cells #[.int .i64 ma, .string pa, .slice oa na ca, .string ba] 26)) := blk_below HBv1_5.out bw
    have HBv2_6 : Hid ((w6).heap[qv2]? = some (.cells #[.string op, .slice o1 n1 c1, .slice o2 n2 c2, .int .i64 st, .slice o3 k c3, .string d, .int .i64 t] 31)) := blk_below HBv2_5.out bw
    have HBv3_6 : Hid ((w6).heap[qv3]? = some (.cells #[.int .i64 0, .slice none 0 0, .string ⟨#[]⟩] 29)) := blk_below HBv3_5.out bw
    have HBv4_6 : Hid ((w6).heap[qv4]? = some (.cells #[.int .i64 st, .slice o3 k c3, .string d] 29)) := blk_below HBv4_5.out bw
    clear hb5 HBv1_5 HBv2_5 HBv3_5 HBv4_5 bw
    clear cv2_4 cv2_6
    go_wp2_with fail
    refine (implNumText_any ag _ hab0 hab1 (HT.out _ hb6)).mono ?_
    rintro e w7 ⟨rfl, bw⟩
    rw [HTX.out]
    have hb7 : Below w.heap.size w (w7) := hb6.trans (bw.mono hb6.size)
    have HM7 : Hid ((w6).heap.size ≤ (w7).heap.size) := bw.size
    have HBv1_7 : Hid ((w7).heap[qv1]? = some (.cells #[.int .i64 ma, .string pa, .slice oa na ca, .string ba] 26)) := blk_below HBv1_6.out bw
    have HBv2_7 : Hid ((w7).heap[qv2]? = some (.cells #[.string op, .slice o1 n1 c1, .slice o2 n2 c2, .int .i64 st, .slice o3 k c3, .string d, .int .i64 t] 31)) := blk_below HBv2_6.out bw
    have HBv3_7 : Hid ((w7).heap[qv3]? = some (.cells #[.int .i64 0, .slice none 0 0, .string ⟨#[]⟩] 29)) := blk_below HBv3_6.out bw
    have HBv4_7 : Hid ((w7).heap[qv4]? = some (.cells #[.int .i64 st, .slice o3 k c3, .string d] 29)) := blk_below HBv4_6.out bw
    clear hb6 HBv1_6 HBv2_6 HBv3_6 HBv4_6 bw
    have cv4_0 : (w7).cell? ⟨qv4, 0, none⟩ = some (.int .i64 st) := (cell_of HBv4_7.out 0).trans rfl
    have Acv4_0 : ∀ o, ((w7).alloc o).cell? ⟨qv4, 0, none⟩ = some (.int .i64 st) := fun o => (cell_of (blk_below HBv4_7.out ((Below.refl _ _).alloc (Nat.le_refl _) o)) 0).trans rfl
    have Afcv4_0 : ∀ o, ((w7).alloc o).frozen? ⟨qv4, 0, none⟩ = false := fun o => frozen_of (blk_below HBv4_7.out ((Below.refl _ _).alloc (Nat.le_refl _) o)) 0
    have cv4_1 : (w7).cell? ⟨qv4, 1, none⟩ = some (.slice o3 k c3) := (cell_of HBv4_7.out 1).trans rfl
    have Acv4_1 : ∀ o, ((w7).alloc o).cell? ⟨qv4, 1, none⟩ = some (.slice o3 k c3) := fun o => (cell_of (blk_below HBv4_7.out ((Below.refl _ _).alloc (Nat.le_refl _) o)) 1).trans rfl
    have Afcv4_1 : ∀ o, ((w7).alloc o).frozen? ⟨qv4, 1, none⟩ = false := fun o => frozen_of (blk_below HBv4_7.out ((Below.refl _ _).alloc (Nat.le_refl _) o)) 1
    have cv4_2 : (w7).cell? ⟨qv4, 2, none⟩ = some (.string d) := (cell_of HBv4_7.out 2).trans rfl
    have Acv4_2 : ∀ o, ((w7).alloc o).cell? ⟨qv4, 2, none⟩ = some (.string d) := fun o => (cell_of (blk_below HBv4_7.out ((Below.refl _ _).alloc (Nat.le_refl _) o)) 2).trans rfl
    have Afcv4_2 : ∀ o, ((w7).alloc o).frozen? ⟨qv4, 2, none⟩ = false := fun o => frozen_of (blk_below HBv4_7.out ((Below.refl _ _).alloc (Nat.le_refl _) o)) 2
    go_wp2_with fail
    obtain ⟨qv5, hqv5⟩ : ∃ q, q = (w7).heap.size := ⟨_, rfl⟩
    obtain ⟨w8, hW8⟩ : ∃ W, W = (w7).alloc (.cells #[.string ⟨#[97, 103, 101]⟩, .string tx] 74) := ⟨_, rfl⟩
    have hz8 : (w7).heap.size = qv5 := hqv5.symm
    first | rw [← hW8, ← hqv5] | rw [← hW8]
    have hs8 : w8.heap.size = qv5 + 1 := by rw [hW8, ← hz8]; simp
    have bw : Below (w7).heap.size (w7) w8 := by rw [hW8]; exact (Below.refl _ _).alloc (Nat.le_refl _) _
    have hb8 : Below w.heap.size w (w8) := hb7.trans (bw.mono hb7.size)
    have HM8 : Hid ((w7).heap.size ≤ (w8).heap.size) := bw.size
    have HBv1_8 : Hid ((w8).heap[qv1]? = some (.cells #[.int .i64 ma, .string pa, .slice oa na ca, .string ba] 26)) := blk_below HBv1_7.out bw
    have HBv2_8 : Hid ((w8).heap[qv2]? = some (.cells #[.string op, .slice o1 n1 c1, .slice o2 n2 c2, .int .i64 st, .slice o3 k c3, .string d, .int .i64 t] 31)) := blk_below HBv2_7.out bw
    have HBv3_8 : Hid ((w8).heap[qv3]? = some (.cells #[.int .i64 0, .slice none 0 0, .string ⟨#[]⟩] 29)) := blk_below HBv3_7.out bw
    have HBv4_8 : Hid ((w8).heap[qv4]? = some (.cells #[.int .i64 st, .slice o3 k c3, .string d] 29)) := blk_below HBv4_7.out bw
    have HNv1v5 : Hid (qv1 ≠ qv5) := fun e => by have h1 := (Array.getElem?_eq_some_iff.1 HBv1_7.out).1; omega
    have HNv2v5 : Hid (qv2 ≠ qv5) := fun e => by have h1 := (Array.getElem?_eq_some_iff.1 HBv2_7.out).1; omega
    have HNv3v5 : Hid (qv3 ≠ qv5) := fun e => by have h1 := (Array.getElem?_eq_some_iff.1 HBv3_7.out).1; omega
    have HNv4v5 : Hid (qv4 ≠ qv5) := fun e => by have h1 := (Array.getElem?_eq_some_iff.1 HBv4_7.out).1; omega
    have HBv5_8 : Hid ((w8).heap[qv5]? = some (.cells #[.string ⟨#[97, 103, 101]⟩, .string tx] 74)) := by show _ = _; rw [hW8, ← hz8]; exact heap_alloc_new _ _
    have HGv5 : Hid (w.heap.size ≤ qv5) := by show _ ≤ _; rw [← hz8]; exact hb7.size
    clear hb7 HBv1_7 HBv2_7 HBv3_7 HBv4_7 bw hW8 hz8
    clear hs8 hqv5
    have HFA : Hid ((w8).ownsRow w.heap.size 74 2 (.slice (some ⟨qv5, 0, none⟩) 1 1) 1 (flatF [(ageName, tx)])) := ⟨rfl, .inr ⟨_, 1, #[.string ageName, .string tx], rfl, HGv5.out, HBv5_8.out, Nat.le_refl _, by decide, rfl, rfl⟩⟩
    refine (implMerge_any st _ d k _ gs 0 _ ⟨#[]⟩ 1 _ [(ageName, tx)] _ (HVo.out _ hb8) HDZ.out (FieldsV.of_owns HFA.out) (by omega) HCo.out (copy_one (by decide) (by have := HTZ.out; omega))).mono ?_
    rintro e w9 ⟨vv, rfl, ownPG, bw⟩
    obtain ⟨pg, hpg⟩ : ∃ y, y = mergeF st gs d [(ageName, tx)] := ⟨_, rfl⟩
    have HPG : Hid (mergeF st gs d [(ageName, tx)] = pg) := hpg.symm
    rw [← hpg] at ownPG
    clear hpg HFA
    obtain ⟨oPG, pPG, rfl⟩ := slice_of_owns ownPG
    have hb9 : Below w.heap.size w (w9) := hb8.trans (bw.mono hb8.size)
    have HM9 : Hid ((w8).heap.size ≤ (w9).heap.size) := bw.size
    have HBv1_9 : Hid ((w9).heap[qv1]? = some (.cells #[.int .i64 ma, .string pa, .slice oa na ca, .string ba] 26)) := blk_below HBv1_8.out bw
    have HBv2_9 : Hid ((w9).heap[qv2]? = some (.cells #[.string op, .slice o1 n1 c1, .slice o2 n2 c2, .int .i64 st, .slice o3 k c3, .string d, .int .i64 t] 31)) := blk_below HBv2_8.out bw
    have HBv3_9 : Hid ((w9).heap[qv3]? = some (.cells #[.int .i64 0, .slice none 0 0, .string ⟨#[]⟩] 29)) := blk_below HBv3_8.out bw
    have HBv4_9 : Hid ((w9).heap[qv4]? = some (.cells #[.int .i64 st, .slice o3 k c3, .string d] 29)) := blk_below HBv4_8.out bw
    have HBv5_9 : Hid ((w9).heap[qv5]? = some (.cells #[.string ⟨#[97, 103, 101]⟩, .string tx] 74)) := blk_below HBv5_8.out bw
    have HOPG_9 : Hid ((w9).ownsRow w.heap.size 74 2 (.slice oPG pg.length pPG) pg.length (flatF pg)) := owns_wide ownPG hb8.size
    have LOPG : Hid (∀ g, (Value.ownBlock (.slice oPG pg.length pPG)) = some g → (w8).heap.size ≤ g) := fun g hg => owns_ge ownPG hg
    have HIPG : Hid (∀ g, (Value.ownBlock (.slice oPG pg.length pPG)) = some g → g < (w9).heap.size) := fun g hg => owns_lt ownPG hg
    clear ownPG
    have HRPGv5 : Hid (∀ g, (Value.ownBlock (.slice oPG pg.length pPG)) = some g → g ≠ qv5) := fun g hg e => by have h1 := LOPG.out g hg; have h2 := (Array.getElem?_eq_some_iff.1 HBv5_8.out).1; omega
    clear hb8 HBv1_8 HBv2_8 HBv3_8 HBv4_8 HBv5_8 bw
    clear cv4_0 Acv4_0 Afcv4_0 cv4_1 Acv4_1 Afcv4_1 cv4_2 Acv4_2 Afcv4_2
    have cv3_0 : (w9).cell? ⟨qv3, 0, none⟩ = some (.int .i64 0) := (cell_of HBv3_9.out 0).trans rfl
    have fcv3_0 : (w9).frozen? ⟨qv3, 0, none⟩ = false := frozen_of HBv3_9.out 0
    have cv3_1 : (w9).cell? ⟨qv3, 1, none⟩ = some (.slice none 0 0) := (cell_of HBv3_9.out 1).trans rfl
    have fcv3_1 : (w9).frozen? ⟨qv3, 1, none⟩ = false := frozen_of HBv3_9.out 1
    have cv3_2 : (w9).cell? ⟨qv3, 2, none⟩ = some (.string ⟨#[]⟩) := (cell_of HBv3_9.out 2).trans rfl
    have fcv3_2 : (w9).frozen? ⟨qv3, 2, none⟩ = false := frozen_of HBv3_9.out 2
    go_wp2_with fail
    obtain ⟨w10, hW10⟩ : ∃ W, W = (w9).setCell ⟨qv3, 0, none⟩ (.int .i64 st) := ⟨_, rfl⟩
    rw [← hW10]
    have hb10 : Below w.heap.size w (w10) := by rw [hW10]; exact (hb9.setCell (p := ⟨qv3, 0, none⟩) HGv3.out _)
    have HM10 : Hid ((w9).heap.size ≤ w10.heap.size) := by show _ ≤ _; rw [hW10]; simp
    have HOPG_10 : Hid ((w10).ownsRow w.heap.size 74 2 (.slice oPG pg.length pPG) pg.length (flatF pg)) := by show World.ownsRow _ _ _ _ _ _ _; rw [hW10]; exact owns_same HOPG_9.out (fun g hg => heap_setCell_other _ _ g _ (own_ne HOPG_9.out HBv3_9.out (by decide) g hg))
    have HBv1_10 : Hid ((w10).heap[qv1]? = some (.cells #[.int .i64 ma, .string pa, .slice oa na ca, .string ba] 26)) := by show _ = _; rw [hW10, heap_setCell_other _ _ _ _ HNv1v3.out]; exact HBv1_9.out
    have HBv2_10 : Hid ((w10).heap[qv2]? = some (.cells #[.string op, .slice o1 n1 c1, .slice o2 n2 c2, .int .i64 st, .slice o3 k c3, .string d, .int .i64 t] 31)) := by show _ = _; rw [hW10, heap_setCell_other _ _ _ _ HNv2v3.out]; exact HBv2_9.out
    have HBv4_10 : Hid ((w10).heap[qv4]? = some (.cells #[.int .i64 st, .slice o3 k c3, .string d] 29)) := by show _ = _; rw [hW10, heap_setCell_other _ _ _ _ HNv3v4.out.symm]; exact HBv4_9.out
    have HBv5_10 : Hid ((w10).heap[qv5]? = some (.cells #[.string ⟨#[97, 103, 101]⟩, .string tx] 74)) := by show _ = _; rw [hW10, heap_setCell_other _ _ _ _ HNv3v5.out.symm]; exact HBv5_9.out
    have HBv3_10 : Hid ((w10).heap[qv3]? = some (.cells #[.int .i64 st, .slice none 0 0, .string ⟨#[]⟩] 29)) := by show _ = _; rw [hW10]; have h := heap_set _ _ 0 _ _ _ (.int .i64 st) HBv3_9.out; simpa using h
    clear hb9 HOPG_9 HBv1_9 HBv2_9 HBv3_9 HBv4_9 HBv5_9 hW10
    obtain ⟨w11, hW11⟩ : ∃ W, W = (w10).setCell ⟨qv3, 1, none⟩ (.slice oPG pg.length pPG) := ⟨_, rfl⟩
    rw [← hW11]
    have hb11 : Below w.heap.size w (w11) := by rw [hW11]; exact (hb10.setCell (p := ⟨qv3, 1, none⟩) HGv3.out _)
    have HM11 : Hid ((w10).heap.size ≤ w11.heap.size) := by show _ ≤ _; rw [hW11]; simp
    have HOPG_11 : Hid ((w11).ownsRow w.heap.size 74 2 (.slice oPG pg.length pPG) pg.length (flatF pg)) := by show World.ownsRow _ _ _ _ _ _ _; rw [hW11]; exact owns_same HOPG_10.out (fun g hg => heap_setCell_other _ _ g _ (own_ne HOPG_10.out HBv3_10.out (by decide) g hg))
    have HBv1_11 : Hid ((w11).heap[qv1]? = some (.cells #[.int .i64 ma, .string pa, .slice oa na ca, .string ba] 26)) := by show _ = _; rw [hW11, heap_setCell_other _ _ _ _ HNv1v3.out]; exact HBv1_10.out
    have HBv2_11 : Hid ((w11).heap[qv2]? = some (.cells #[.string op, .slice o1 n1 c1, .slice o2 n2 c2, .int .i64 st, .slice o3 k c3, .string d, .int .i64 t] 31)) := by show _ = _; rw [hW11, heap_setCell_other _ _ _ _ HNv2v3.out]; exact HBv2_10.out
    have HBv4_11 : Hid ((w11).heap[qv4]? = some (.cells #[.int .i64 st, .slice o3 k c3, .string d] 29)) := by show _ = _; rw [hW11, heap_setCell_other _ _ _ _ HNv3v4.out.symm]; exact HBv4_10.out
    have HBv5_11 : Hid ((w11).heap[qv5]? = some (.cells #[.string ⟨#[97, 103, 101]⟩, .string tx] 74)) := by show _ = _; rw [hW11, heap_setCell_other _ _ _ _ HNv3v5.out.symm]; exact HBv5_10.out
    have HBv3_11 : Hid ((w11).heap[qv3]? = some (.cells #[.int .i64 st, .slice oPG pg.length pPG, .string ⟨#[]⟩] 29)) := by show _ = _; rw [hW11]; have h := heap_set _ _ 1 _ _ _ (.slice oPG pg.length pPG) HBv3_10.out; simpa using h
    clear hb10 HOPG_10 HBv1_10 HBv2_10 HBv3_10 HBv4_10 HBv5_10 hW11
    obtain ⟨w12, hW12⟩ : ∃ W, W = (w11).setCell ⟨qv3, 2, none⟩ (.string d) := ⟨_, rfl⟩
    rw [← hW12]
    have hb12 : Below w.heap.size w (w12) := by rw [hW12]; exact (hb11.setCell (p := ⟨qv3, 2, none⟩) HGv3.out _)
    have HM12 : Hid ((w11).heap.size ≤ w12.heap.size) := by show _ ≤ _; rw [hW12]; simp
    have HOPG_12 : Hid ((w12).ownsRow w.heap.size 74 2 (.slice oPG pg.length pPG) pg.length (flatF pg)) := by show World.ownsRow _ _ _ _ _ _ _; rw [hW12]; exact owns_same HOPG_11.out (fun g hg => heap_setCell_other _ _ g _ (own_ne HOPG_11.out HBv3_11.out (by decide) g hg))
    have HBv1_12 : Hid ((w12).heap[qv1]? = some (.cells #[.int .i64 ma, .string pa, .slice oa na ca, .string ba] 26)) := by show _ = _; rw [hW12, heap_setCell_other _ _ _ _ HNv1v3.out]; exact HBv1_11.out
    have HBv2_12 : Hid ((w12).heap[qv2]? = some (.cells #[.string op, .slice o1 n1 c1, .slice o2 n2 c2, .int .i64 st, .slice o3 k c3, .string d, .int .i64 t] 31)) := by show _ = _; rw [hW12, heap_setCell_other _ _ _ _ HNv2v3.out]; exact HBv2_11.out
    have HBv4_12 : Hid ((w12).heap[qv4]? = some (.cells #[.int .i64 st, .slice o3 k c3, .string d] 29)) := by show _ = _; rw [hW12, heap_setCell_other _ _ _ _ HNv3v4.out.symm]; exact HBv4_11.out
    have HBv5_12 : Hid ((w12).heap[qv5]? = some (.cells #[.string ⟨#[97, 103, 101]⟩, .string tx] 74)) := by show _ = _; rw [hW12, heap_setCell_other _ _ _ _ HNv3v5.out.symm]; exact HBv5_11.out
    have HBv3_12 : Hid ((w12).heap[qv3]? = some (.cells #[.int .i64 st, .slice oPG pg.length pPG, .string d] 29)) := by show _ = _; rw [hW12]; have h := heap_set _ _ 2 _ _ _ (.string d) HBv3_11.out; simpa using h
    clear hb11 HOPG_11 HBv1_11 HBv2_11 HBv3_11 HBv4_11 HBv5_11 hW12
    have kv3_0 : (w12).cell? ⟨qv3, 0, none⟩ = some (.int .i64 st) := (cell_of HBv3_12.out 0).trans rfl
    have kv3_1 : (w12).cell? ⟨qv3, 1, none⟩ = some (.slice oPG pg.length pPG) := (cell_of HBv3_12.out 1).trans rfl
    have kv3_2 : (w12).cell? ⟨qv3, 2, none⟩ = some (.string d) := (cell_of HBv3_12.out 2).trans rfl
    refine bodyPost_ret (v := .agg #[.int .i64 st, .slice oPG pg.length pPG, .string d]) (by simp [results, Tryz.results7, go_sem, kv3_0, kv3_1, kv3_2]) rfl ?_
    unfold ansF
    rw [ansS_no HNsm.out, ansB_no HNsm.out, ansG_no HNsm.out, HAT.out, HPG.out]
    exact ⟨_, rfl, HOPG_12.out, hb12⟩
  | true =>
    have HYsm : Hid (SameP fsa gs) := hsm.1 rfl
    clear hsm
    have cv4_0 : (w5).cell? ⟨qv4, 0, none⟩ = some (.int .i64 st) := (cell_of HBv4_5.out 0).trans rfl
    have cv4_1 : (w5).cell? ⟨qv4, 1, none⟩ = some (.slice o3 k c3) := (cell_of HBv4_5.out 1).trans rfl
    have cv4_2 : (w5).cell? ⟨qv4, 2, none⟩ = some (.string d) := (cell_of HBv4_5.out 2).trans rfl
    go_wp2_with fail
    refine (implShort_any st _ d k baseo gs _ (HVo.out _ hb5) (by omega) HCo.out).mono ?_
    rintro e w6 ⟨vv, rfl, ownSG, bw⟩
    rw [HSG.out] at ownSG
    obtain ⟨oSG, pSG, rfl⟩ := slice_of_owns ownSG
    have hb6 : Below w.heap.size w (w6) := hb5.trans (bw.mono hb5.size)
    have HM6 : Hid ((w5).heap.size ≤ (w6).heap.size) := bw.size
    have HBv1_6 : Hid ((w6).heap[qv1]? = some (.cells #[.int .i64 ma, .string pa, .slice oa na ca, .string ba] 26)) := blk_below HBv1_5.out bw
    have HBv2_6 : Hid ((w6).heap[qv2]? = some (.cells #[.string op, .slice o1 n1 c1, .slice o2 n2 c2, .int .i64 st, .slice o3 k c3, .string d, .int .i64 t] 31)) := blk_below HBv2_5.out bw
    have HBv3_6 : Hid ((w6).heap[qv3]? = some (.cells #[.int .i64 0, .slice none 0 0, .string ⟨#[]⟩] 29)) := blk_below HBv3_5.out bw
    have HBv4_6 : Hid ((w6).heap[qv4]? = some (.cells #[.int .i64 st, .slice o3 k c3, .string d] 29)) := blk_below HBv4_5.out bw
    have HOSG_6 : Hid ((w6).ownsRow w.heap.size 74 2 (.slice oSG sg.length pSG) sg.length (flatF sg)) := owns_wide ownSG hb5.size
    clear ownSG
    clear hb5 HBv1_5 HBv2_5 HBv3_5 HBv4_5 bw
    clear cv4_0 cv4_1 cv4_2
    have cv4_0 : (w6).cell? ⟨qv4, 0, none⟩ = some (.int .i64 st) := (cell_of HBv4_6.out 0).trans rfl
    have fcv4_0 : (w6).frozen? ⟨qv4, 0, none⟩ = false := frozen_of HBv4_6.out 0
    have cv4_1 : (w6).cell? ⟨qv4, 1, none⟩ = some (.slice o3 k c3) := (cell_of HBv4_6.out 1).trans rfl
    have fcv4_1 : (w6).frozen? ⟨qv4, 1, none⟩ = false := frozen_of HBv4_6.out 1
    have cv4_2 : (w6).cell? ⟨qv4, 2, none⟩ = some (.string d) := (cell_of HBv4_6.out 2).trans rfl
    have fcv4_2 : (w6).frozen? ⟨qv4, 2, none⟩ = false := frozen_of HBv4_6.out 2
    go_upto_region 4 with fail
    obtain ⟨w7, hW7⟩ : ∃ W, W = (w6).setCell ⟨qv4, 0, none⟩ (.int .i64 304) := ⟨_, rfl⟩
    rw [← hW7]
    have hb7 : Below w.heap.size w (w7) := by rw [hW7]; exact (hb6.setCell (p := ⟨qv4, 0, none⟩) HGv4.out _)
    have HM7 : Hid ((w6).heap.size ≤ w7.heap.size) := by show _ ≤ _; rw [hW7]; simp
    have HOSG_7 : Hid ((w7).ownsRow w.heap.size 74 2 (.slice oSG sg.length pSG) sg.length (flatF sg)) := by show World.ownsRow _ _ _ _ _ _ _; rw [hW7]; exact owns_same HOSG_6.out (fun g hg => heap_setCell_other _ _ g _ (own_ne HOSG_6.out HBv4_6.out (by decide) g hg))
    have HBv1_7 : Hid ((w7).heap[qv1]? = some (.cells #[.int .i64 ma, .string pa, .slice oa na ca, .string ba] 26)) := by show _ = _; rw [hW7, heap_setCell_other _ _ _ _ HNv1v4.out]; exact HBv1_6.out
    have HBv2_7 : Hid ((w7).heap[qv2]? = some (.cells #[.string op, .slice o1 n1 c1, .slice o2 n2 c2, .int .i64 st, .slice o3 k c3, .string d, .int .i64 t] 31)) := by show _ = _; rw [hW7, heap_setCell_other _ _ _ _ HNv2v4.out]; exact HBv2_6.out
    have HBv3_7 : Hid ((w7).heap[qv3]? = some (.cells #[.int .i64 0, .slice none 0 0, .string ⟨#[]⟩] 29)) := by show _ = _; rw [hW7, heap_setCell_other _ _ _ _ HNv3v4.out]; exact HBv3_6.out
    have HBv4_7 : Hid ((w7).heap[qv4]? = some (.cells #[.int .i64 304, .slice o3 k c3, .string d] 29)) := by show _ = _; rw [hW7]; have h := heap_set _ _ 0 _ _ _ (.int .i64 304) HBv4_6.out; simpa using h
    clear hb6 HOSG_6 HBv1_6 HBv2_6 HBv3_6 HBv4_6 hW7
    obtain ⟨w8, hW8⟩ : ∃ W, W = (w7).setCell ⟨qv4, 1, none⟩ (.slice oSG sg.length pSG) := ⟨_, rfl⟩
    rw [← hW8]
    have hb8 : Below w.heap.size w (w8) := by rw [hW8]; exact (hb7.setCell (p := ⟨qv4, 1, none⟩) HGv4.out _)
    have HM8 : Hid ((w7).heap.size ≤ w8.heap.size) := by show _ ≤ _; rw [hW8]; simp
    have HOSG_8 : Hid ((w8).ownsRow w.heap.size 74 2 (.slice oSG sg.length pSG) sg.length (flatF sg)) := by show World.ownsRow _ _ _ _ _ _ _; rw [hW8]; exact owns_same HOSG_7.out (fun g hg => heap_setCell_other _ _ g _ (own_ne HOSG_7.out HBv4_7.out (by decide) g hg))
    have HBv1_8 : Hid ((w8).heap[qv1]? = some (.cells #[.int .i64 ma, .string pa, .slice oa na ca, .string ba] 26)) := by show _ = _; rw [hW8, heap_setCell_other _ _ _ _ HNv1v4.out]; exact HBv1_7.out
    have HBv2_8 : Hid ((w8).heap[qv2]? = some (.cells #[.string op, .slice o1 n1 c1, .slice o2 n2 c2, .int .i64 st, .slice o3 k c3, .string d, .int .i64 t] 31)) := by show _ = _; rw [hW8, heap_setCell_other _ _ _ _ HNv2v4.out]; exact HBv2_7.out
    have HBv3_8 : Hid ((w8).heap[qv3]? = some (.cells #[.int .i64 0, .slice none 0 0, .string ⟨#[]⟩] 29)) := by show _ = _; rw [hW8, heap_setCell_other _ _ _ _ HNv3v4.out]; exact HBv3_7.out
    have HBv4_8 : Hid ((w8).heap[qv4]? = some (.cells #[.int .i64 304, .slice oSG sg.length pSG, .string d] 29)) := by show _ = _; rw [hW8]; have h := heap_set _ _ 1 _ _ _ (.slice oSG sg.length pSG) HBv4_7.out; simpa using h
    clear hb7 HOSG_7 HBv1_7 HBv2_7 HBv3_7 HBv4_7 hW8
    obtain ⟨w9, hW9⟩ : ∃ W, W = (w8).setCell ⟨qv4, 2, none⟩ (.string ⟨#[]⟩) := ⟨_, rfl⟩
    rw [← hW9]
    have hb9 : Below w.heap.size w (w9) := by rw [hW9]; exact (hb8.setCell (p := ⟨qv4, 2, none⟩) HGv4.out _)
    have HM9 : Hid ((w8).heap.size ≤ w9.heap.size) := by show _ ≤ _; rw [hW9]; simp
    have HOSG_9 : Hid ((w9).ownsRow w.heap.size 74 2 (.slice oSG sg.length pSG) sg.length (flatF sg)) := by show World.ownsRow _ _ _ _ _ _ _; rw [hW9]; exact owns_same HOSG_8.out (fun g hg => heap_setCell_other _ _ g _ (own_ne HOSG_8.out HBv4_8.out (by decide) g hg))
    have HBv1_9 : Hid ((w9).heap[qv1]? = some (.cells #[.int .i64 ma, .string pa, .slice oa na ca, .string ba] 26)) := by show _ = _; rw [hW9, heap_setCell_other _ _ _ _ HNv1v4.out]; exact HBv1_8.out
    have HBv2_9 : Hid ((w9).heap[qv2]? = some (.cells #[.string op, .slice o1 n1 c1, .slice o2 n2 c2, .int .i64 st, .slice o3 k c3, .string d, .int .i64 t] 31)) := by show _ = _; rw [hW9, heap_setCell_other _ _ _ _ HNv2v4.out]; exact HBv2_8.out
    have HBv3_9 : Hid ((w9).heap[qv3]? = some (.cells #[.int .i64 0, .slice none 0 0, .string ⟨#[]⟩] 29)) := by show _ = _; rw [hW9, heap_setCell_other _ _ _ _ HNv3v4.out]; exact HBv3_8.out
    have HBv4_9 : Hid ((w9).heap[qv4]? = some (.cells #[.int .i64 304, .slice oSG sg.length pSG, .string ⟨#[]⟩] 29)) := by show _ = _; rw [hW9]; have h := heap_set _ _ 2 _ _ _ (.string ⟨#[]⟩) HBv4_8.out; simpa using h
    clear hb8 HOSG_8 HBv1_8 HBv2_8 HBv3_8 HBv4_8 hW9
    clear cv4_0 fcv4_0 cv4_1 fcv4_1 cv4_2 fcv4_2
    have cv2_4 : (w9).cell? ⟨qv2, 4, none⟩ = some (.slice o3 k c3) := (cell_of HBv2_9.out 4).trans rfl
    have cv2_6 : (w9).cell? ⟨qv2, 6, none⟩ = some (.int .i64 t) := (cell_of HBv2_9.out 6).trans rfl
    go_wp2_with fail
    refine (implAgeAt_any _ k baseo gs t now _ (HVo.out _ hb9) (by omega) HCo.out (by have := HGo.out ageName; unfold maxLen; omega) HTN.out.1 HTN.out.2).mono ?_
    rintro e w10 ⟨rfl, bw⟩
    rw [HAG.out]
    have hb10 : Below w.heap.size w (w10) := hb9.trans (bw.mono hb9.size)
    have HM10 : Hid ((w9).heap.size ≤ (w10).heap.size) := bw.size
    have HOSG_10 : Hid ((w10).ownsRow w.heap.size 74 2 (.slice oSG sg.length pSG) sg.length (flatF sg)) := owns_below HOSG_9.out bw (fun g hg => owns_lt HOSG_9.out hg)
    have HBv1_10 : Hid ((w10).heap[qv1]? = some (.cells #[.int .i64 ma, .string pa, .slice oa na ca, .string ba] 26)) := blk_below HBv1_9.out bw
    have HBv2_10 : Hid ((w10).heap[qv2]? = some (.cells #[.string op, .slice o1 n1 c1, .slice o2 n2 c2, .int .i64 st, .slice o3 k c3, .string d, .int .i64 t] 31)) := blk_below HBv2_9.out bw
    have HBv3_10 : Hid ((w10).heap[qv3]? = some (.cells #[.int .i64 0, .slice none 0 0, .string ⟨#[]⟩] 29)) := blk_below HBv3_9.out bw
    have HBv4_10 : Hid ((w10).heap[qv4]? = some (.cells #[.int .i64 304, .slice oSG sg.length pSG, .string ⟨#[]⟩] 29)) := blk_below HBv4_9.out bw
    clear hb9 HOSG_9 HBv1_9 HBv2_9 HBv3_9 HBv4_9 bw
    clear cv2_4 cv2_6
    go_wp2_with fail
    refine (implNumText_any ag _ hab0 hab1 (HT.out _ hb10)).mono ?_
    rintro e w11 ⟨rfl, bw⟩
    rw [HTX.out]
    have hb11 : Below w.heap.size w (w11) := hb10.trans (bw.mono hb10.size)
    have HM11 : Hid ((w10).heap.size ≤ (w11).heap.size) := bw.size
    have HOSG_11 : Hid ((w11).ownsRow w.heap.size 74 2 (.slice oSG sg.length pSG) sg.length (flatF sg)) := owns_below HOSG_10.out bw (fun g hg => owns_lt HOSG_10.out hg)
    have HBv1_11 : Hid ((w11).heap[qv1]? = some (.cells #[.int .i64 ma, .string pa, .slice oa na ca, .string ba] 26)) := blk_below HBv1_10.out bw
    have HBv2_11 : Hid ((w11).heap[qv2]? = some (.cells #[.string op, .slice o1 n1 c1, .slice o2 n2 c2, .int .i64 st, .slice o3 k c3, .string d, .int .i64 t] 31)) := blk_below HBv2_10.out bw
    have HBv3_11 : Hid ((w11).heap[qv3]? = some (.cells #[.int .i64 0, .slice none 0 0, .string ⟨#[]⟩] 29)) := blk_below HBv3_10.out bw
    have HBv4_11 : Hid ((w11).heap[qv4]? = some (.cells #[.int .i64 304, .slice oSG sg.length pSG, .string ⟨#[]⟩] 29)) := blk_below HBv4_10.out bw
    clear hb10 HOSG_10 HBv1_10 HBv2_10 HBv3_10 HBv4_10 bw
    have cv4_0 : (w11).cell? ⟨qv4, 0, none⟩ = some (.int .i64 304) := (cell_of HBv4_11.out 0).trans rfl
    have Acv4_0 : ∀ o, ((w11).alloc o).cell? ⟨qv4, 0, none⟩ = some (.int .i64 304) := fun o => (cell_of (blk_below HBv4_11.out ((Below.refl _ _).alloc (Nat.le_refl _) o)) 0).trans rfl
    have Afcv4_0 : ∀ o, ((w11).alloc o).frozen? ⟨qv4, 0, none⟩ = false := fun o => frozen_of (blk_below HBv4_11.out ((Below.refl _ _).alloc (Nat.le_refl _) o)) 0
    have cv4_1 : (w11).cell? ⟨qv4, 1, none⟩ = some (.slice oSG sg.length pSG) := (cell_of HBv4_11.out 1).trans rfl
    have Acv4_1 : ∀ o, ((w11).alloc o).cell? ⟨qv4, 1, none⟩ = some (.slice oSG sg.length pSG) := fun o => (cell_of (blk_below HBv4_11.out ((Below.refl _ _).alloc (Nat.le_refl _) o)) 1).trans rfl
    have Afcv4_1 : ∀ o, ((w11).alloc o).frozen? ⟨qv4, 1, none⟩ = false := fun o => frozen_of (blk_below HBv4_11.out ((Below.refl _ _).alloc (Nat.le_refl _) o)) 1
    have cv4_2 : (w11).cell? ⟨qv4, 2, none⟩ = some (.string ⟨#[]⟩) := (cell_of HBv4_11.out 2).trans rfl
    have Acv4_2 : ∀ o, ((w11).alloc o).cell? ⟨qv4, 2, none⟩ = some (.string ⟨#[]⟩) := fun o => (cell_of (blk_below HBv4_11.out ((Below.refl _ _).alloc (Nat.le_refl _) o)) 2).trans rfl
    have Afcv4_2 : ∀ o, ((w11).alloc o).frozen? ⟨qv4, 2, none⟩ = false := fun o => frozen_of (blk_below HBv4_11.out ((Below.refl _ _).alloc (Nat.le_refl _) o)) 2
    go_wp2_with fail
    obtain ⟨qv5, hqv5⟩ : ∃ q, q = (w11).heap.size := ⟨_, rfl⟩
    obtain ⟨w12, hW12⟩ : ∃ W, W = (w11).alloc (.cells #[.string ⟨#[97, 103, 101]⟩, .string tx] 74) := ⟨_, rfl⟩
    have hz12 : (w11).heap.size = qv5 := hqv5.symm
    first | rw [← hW12, ← hqv5] | rw [← hW12]
    have hs12 : w12.heap.size = qv5 + 1 := by rw [hW12, ← hz12]; simp
    have bw : Below (w11).heap.size (w11) w12 := by rw [hW12]; exact (Below.refl _ _).alloc (Nat.le_refl _) _
    have hb12 : Below w.heap.size w (w12) := hb11.trans (bw.mono hb11.size)
    have HM12 : Hid ((w11).heap.size ≤ (w12).heap.size) := bw.size
    have HOSG_12 : Hid ((w12).ownsRow w.heap.size 74 2 (.slice oSG sg.length pSG) sg.length (flatF sg)) := owns_below HOSG_11.out bw (fun g hg => owns_lt HOSG_11.out hg)
    have HBv1_12 : Hid ((w12).heap[qv1]? = some (.cells #[.int .i64 ma, .string pa, .slice oa na ca, .string ba] 26)) := blk_below HBv1_11.out bw
    have HBv2_12 : Hid ((w12).heap[qv2]? = some (.cells #[.string op, .slice o1 n1 c1, .slice o2 n2 c2, .int .i64 st, .slice o3 k c3, .string d, .int .i64 t] 31)) := blk_below HBv2_11.out bw
    have HBv3_12 : Hid ((w12).heap[qv3]? = some (.cells #[.int .i64 0, .slice none 0 0, .string ⟨#[]⟩] 29)) := blk_below HBv3_11.out bw
    have HBv4_12 : Hid ((w12).heap[qv4]? = some (.cells #[.int .i64 304, .slice oSG sg.length pSG, .string ⟨#[]⟩] 29)) := blk_below HBv4_11.out bw
    have HNv1v5 : Hid (qv1 ≠ qv5) := fun e => by have h1 := (Array.getElem?_eq_some_iff.1 HBv1_11.out).1; omega
    have HNv2v5 : Hid (qv2 ≠ qv5) := fun e => by have h1 := (Array.getElem?_eq_some_iff.1 HBv2_11.out).1; omega
    have HNv3v5 : Hid (qv3 ≠ qv5) := fun e => by have h1 := (Array.getElem?_eq_some_iff.1 HBv3_11.out).1; omega
    have HNv4v5 : Hid (qv4 ≠ qv5) := fun e => by have h1 := (Array.getElem?_eq_some_iff.1 HBv4_11.out).1; omega
    have HBv5_12 : Hid ((w12).heap[qv5]? = some (.cells #[.string ⟨#[97, 103, 101]⟩, .string tx] 74)) := by show _ = _; rw [hW12, ← hz12]; exact heap_alloc_new _ _
    have HGv5 : Hid (w.heap.size ≤ qv5) := by show _ ≤ _; rw [← hz12]; exact hb11.size
    clear hb11 HOSG_11 HBv1_11 HBv2_11 HBv3_11 HBv4_11 bw hW12 hz12
    clear hs12 hqv5
    have HFA : Hid ((w12).ownsRow w.heap.size 74 2 (.slice (some ⟨qv5, 0, none⟩) 1 1) 1 (flatF [(ageName, tx)])) := ⟨rfl, .inr ⟨_, 1, #[.string ageName, .string tx], rfl, HGv5.out, HBv5_12.out, Nat.le_refl _, by decide, rfl, rfl⟩⟩
    refine (implMerge_any 304 _ ⟨#[]⟩ sg.length _ sg 0 _ ⟨#[]⟩ 1 _ [(ageName, tx)] _ (FieldsV.of_owns HOSG_12.out) (by decide) (FieldsV.of_owns HFA.out) (by omega) HSC.out (copy_one (by decide) (by have := HTZ.out; omega))).mono ?_
    rintro e w13 ⟨vv, rfl, ownPG, bw⟩
    obtain ⟨pg, hpg⟩ : ∃ y, y = mergeF 304 sg ⟨#[]⟩ [(ageName, tx)] := ⟨_, rfl⟩
    have HPG : Hid (mergeF 304 sg ⟨#[]⟩ [(ageName, tx)] = pg) := hpg.symm
    rw [← hpg] at ownPG
    clear hpg HFA
    obtain ⟨oPG, pPG, rfl⟩ := slice_of_owns ownPG
    have hb13 : Below w.heap.size w (w13) := hb12.trans (bw.mono hb12.size)
    have HOSG_13 : Hid ((w13).ownsRow w.heap.size 74 2 (.slice oSG sg.length pSG) sg.length (flatF sg)) := owns_below HOSG_12.out bw (fun g hg => owns_lt HOSG_12.out hg)
    have HBv1_13 : Hid ((w13).heap[qv1]? = some (.cells #[.int .i64 ma, .string pa, .slice oa na ca, .string ba] 26)) := blk_below HBv1_12.out bw
    have HBv2_13 : Hid ((w13).heap[qv2]? = some (.cells #[.string op, .slice o1 n1 c1, .slice o2 n2 c2, .int .i64 st, .slice o3 k c3, .string d, .int .i64 t] 31)) := blk_below HBv2_12.out bw
    have HBv3_13 : Hid ((w13).heap[qv3]? = some (.cells #[.int .i64 0, .slice none 0 0, .string ⟨#[]⟩] 29)) := blk_below HBv3_12.out bw
    have HBv4_13 : Hid ((w13).heap[qv4]? = some (.cells #[.int .i64 304, .slice oSG sg.length pSG, .string ⟨#[]⟩] 29)) := blk_below HBv4_12.out bw
    have HBv5_13 : Hid ((w13).heap[qv5]? = some (.cells #[.string ⟨#[97, 103, 101]⟩, .string tx] 74)) := blk_below HBv5_12.out bw
    have HOPG_13 : Hid ((w13).ownsRow w.heap.size 74 2 (.slice oPG pg.length pPG) pg.length (flatF pg)) := owns_wide ownPG hb12.size
    have LOPG : Hid (∀ g, (Value.ownBlock (.slice oPG pg.length pPG)) = some g → (w12).heap.size ≤ g) := fun g hg => owns_ge ownPG hg
    have HIPG : Hid (∀ g, (Value.ownBlock (.slice oPG pg.length pPG)) = some g → g < (w13).heap.size) := fun g hg => owns_lt ownPG hg
    clear ownPG
    have HRPGv5 : Hid (∀ g, (Value.ownBlock (.slice oPG pg.length pPG)) = some g → g ≠ qv5) := fun g hg e => by have h1 := LOPG.out g hg; have h2 := (Array.getElem?_eq_some_iff.1 HBv5_12.out).1; omega
    clear hb12 HOSG_12 HBv1_12 HBv2_12 HBv3_12 HBv4_12 HBv5_12 bw
    clear cv4_0 Acv4_0 Afcv4_0 cv4_1 Acv4_1 Afcv4_1 cv4_2 Acv4_2 Afcv4_2
    have cv3_0 : (w13).cell? ⟨qv3, 0, none⟩ = some (.int .i64 0) := (cell_of HBv3_13.out 0).trans rfl
    have fcv3_0 : (w13).frozen? ⟨qv3, 0, none⟩ = false := frozen_of HBv3_13.out 0
    have cv3_1 : (w13).cell? ⟨qv3, 1, none⟩ = some (.slice none 0 0) := (cell_of HBv3_13.out 1).trans rfl
    have fcv3_1 : (w13).frozen? ⟨qv3, 1, none⟩ = false := frozen_of HBv3_13.out 1
    have cv3_2 : (w13).cell? ⟨qv3, 2, none⟩ = some (.string ⟨#[]⟩) := (cell_of HBv3_13.out 2).trans rfl
    have fcv3_2 : (w13).frozen? ⟨qv3, 2, none⟩ = false := frozen_of HBv3_13.out 2
    go_wp2_with fail
    obtain ⟨w14, hW14⟩ : ∃ W, W = (w13).setCell ⟨qv3, 0, none⟩ (.int .i64 304) := ⟨_, rfl⟩
    rw [← hW14]
    have hb14 : Below w.heap.size w (w14) := by rw [hW14]; exact (hb13.setCell (p := ⟨qv3, 0, none⟩) HGv3.out _)
    have HOSG_14 : Hid ((w14).ownsRow w.heap.size 74 2 (.slice oSG sg.length pSG) sg.length (flatF sg)) := by show World.ownsRow _ _ _ _ _ _ _; rw [hW14]; exact owns_same HOSG_13.out (fun g hg => heap_setCell_other _ _ g _ (own_ne HOSG_13.out HBv3_13.out (by decide) g hg))
    have HOPG_14 : Hid ((w14).ownsRow w.heap.size 74 2 (.slice oPG pg.length pPG) pg.length (flatF pg)) := by show World.ownsRow _ _ _ _ _ _ _; rw [hW14]; exact owns_same HOPG_13.out (fun g hg => heap_setCell_other _ _ g _ (own_ne HOPG_13.out HBv3_13.out (by decide) g hg))
    have HBv1_14 : Hid ((w14).heap[qv1]? = some (.cells #[.int .i64 ma, .string pa, .slice oa na ca, .string ba] 26)) := by show _ = _; rw [hW14, heap_setCell_other _ _ _ _ HNv1v3.out]; exact HBv1_13.out
    have HBv2_14 : Hid ((w14).heap[qv2]? = some (.cells #[.string op, .slice o1 n1 c1, .slice o2 n2 c2, .int .i64 st, .slice o3 k c3, .string d, .int .i64 t] 31)) := by show _ = _; rw [hW14, heap_setCell_other _ _ _ _ HNv2v3.out]; exact HBv2_13.out
    have HBv4_14 : Hid ((w14).heap[qv4]? = some (.cells #[.int .i64 304, .slice oSG sg.length pSG, .string ⟨#[]⟩] 29)) := by show _ = _; rw [hW14, heap_setCell_other _ _ _ _ HNv3v4.out.symm]; exact HBv4_13.out
    have HBv5_14 : Hid ((w14).heap[qv5]? = some (.cells #[.string ⟨#[97, 103, 101]⟩, .string tx] 74)) := by show _ = _; rw [hW14, heap_setCell_other _ _ _ _ HNv3v5.out.symm]; exact HBv5_13.out
    have HBv3_14 : Hid ((w14).heap[qv3]? = some (.cells #[.int .i64 304, .slice none 0 0, .string ⟨#[]⟩] 29)) := by show _ = _; rw [hW14]; have h := heap_set _ _ 0 _ _ _ (.int .i64 304) HBv3_13.out; simpa using h
    clear hb13 HOSG_13 HOPG_13 HBv1_13 HBv2_13 HBv3_13 HBv4_13 HBv5_13 hW14
    obtain ⟨w15, hW15⟩ : ∃ W, W = (w14).setCell ⟨qv3, 1, none⟩ (.slice oPG pg.length pPG) := ⟨_, rfl⟩
    rw [← hW15]
    have hb15 : Below w.heap.size w (w15) := by rw [hW15]; exact (hb14.setCell (p := ⟨qv3, 1, none⟩) HGv3.out _)
    have HOSG_15 : Hid ((w15).ownsRow w.heap.size 74 2 (.slice oSG sg.length pSG) sg.length (flatF sg)) := by show World.ownsRow _ _ _ _ _ _ _; rw [hW15]; exact owns_same HOSG_14.out (fun g hg => heap_setCell_other _ _ g _ (own_ne HOSG_14.out HBv3_14.out (by decide) g hg))
    have HOPG_15 : Hid ((w15).ownsRow w.heap.size 74 2 (.slice oPG pg.length pPG) pg.length (flatF pg)) := by show World.ownsRow _ _ _ _ _ _ _; rw [hW15]; exact owns_same HOPG_14.out (fun g hg => heap_setCell_other _ _ g _ (own_ne HOPG_14.out HBv3_14.out (by decide) g hg))
    have HBv1_15 : Hid ((w15).heap[qv1]? = some (.cells #[.int .i64 ma, .string pa, .slice oa na ca, .string ba] 26)) := by show _ = _; rw [hW15, heap_setCell_other _ _ _ _ HNv1v3.out]; exact HBv1_14.out
    have HBv2_15 : Hid ((w15).heap[qv2]? = some (.cells #[.string op, .slice o1 n1 c1, .slice o2 n2 c2, .int .i64 st, .slice o3 k c3, .string d, .int .i64 t] 31)) := by show _ = _; rw [hW15, heap_setCell_other _ _ _ _ HNv2v3.out]; exact HBv2_14.out
    have HBv4_15 : Hid ((w15).heap[qv4]? = some (.cells #[.int .i64 304, .slice oSG sg.length pSG, .string ⟨#[]⟩] 29)) := by show _ = _; rw [hW15, heap_setCell_other _ _ _ _ HNv3v4.out.symm]; exact HBv4_14.out
    have HBv5_15 : Hid ((w15).heap[qv5]? = some (.cells #[.string ⟨#[97, 103, 101]⟩, .string tx] 74)) := by show _ = _; rw [hW15, heap_setCell_other _ _ _ _ HNv3v5.out.symm]; exact HBv5_14.out
    have HBv3_15 : Hid ((w15).heap[qv3]? = some (.cells #[.int .i64 304, .slice oPG pg.length pPG, .string ⟨#[]⟩] 29)) := by show _ = _; rw [hW15]; have h := heap_set _ _ 1 _ _ _ (.slice oPG pg.length pPG) HBv3_14.out; simpa using h
    clear hb14 HOSG_14 HOPG_14 HBv1_14 HBv2_14 HBv3_14 HBv4_14 HBv5_14 hW15
    obtain ⟨w16, hW16⟩ : ∃ W, W = (w15).setCell ⟨qv3, 2, none⟩ (.string ⟨#[]⟩) := ⟨_, rfl⟩
    rw [← hW16]
    have hb16 : Below w.heap.size w (w16) := by rw [hW16]; exact (hb15.setCell (p := ⟨qv3, 2, none⟩) HGv3.out _)
    have HOSG_16 : Hid ((w16).ownsRow w.heap.size 74 2 (.slice oSG sg.length pSG) sg.length (flatF sg)) := by show World.ownsRow _ _ _ _ _ _ _; rw [hW16]; exact owns_same HOSG_15.out (fun g hg => heap_setCell_other _ _ g _ (own_ne HOSG_15.out HBv3_15.out (by decide) g hg))
    have HOPG_16 : Hid ((w16).ownsRow w.heap.size 74 2 (.slice oPG pg.length pPG) pg.length (flatF pg)) := by show World.ownsRow _ _ _ _ _ _ _; rw [hW16]; exact owns_same HOPG_15.out (fun g hg => heap_setCell_other _ _ g _ (own_ne HOPG_15.out HBv3_15.out (by decide) g hg))
    have HBv1_16 : Hid ((w16).heap[qv1]? = some (.cells #[.int .i64 ma, .string pa, .slice oa na ca, .string ba] 26)) := by show _ = _; rw [hW16, heap_setCell_other _ _ _ _ HNv1v3.out]; exact HBv1_15.out
    have HBv2_16 : Hid ((w16).heap[qv2]? = some (.cells #[.string op, .slice o1 n1 c1, .slice o2 n2 c2, .int .i64 st, .slice o3 k c3, .string d, .int .i64 t] 31)) := by show _ = _; rw [hW16, heap_setCell_other _ _ _ _ HNv2v3.out]; exact HBv2_15.out
    have HBv4_16 : Hid ((w16).heap[qv4]? = some (.cells #[.int .i64 304, .slice oSG sg.length pSG, .string ⟨#[]⟩] 29)) := by show _ = _; rw [hW16, heap_setCell_other _ _ _ _ HNv3v4.out.symm]; exact HBv4_15.out
    have HBv5_16 : Hid ((w16).heap[qv5]? = some (.cells #[.string ⟨#[97, 103, 101]⟩, .string tx] 74)) := by show _ = _; rw [hW16, heap_setCell_other _ _ _ _ HNv3v5.out.symm]; exact HBv5_15.out
    have HBv3_16 : Hid ((w16).heap[qv3]? = some (.cells #[.int .i64 304, .slice oPG pg.length pPG, .string ⟨#[]⟩] 29)) := by show _ = _; rw [hW16]; have h := heap_set _ _ 2 _ _ _ (.string ⟨#[]⟩) HBv3_15.out; simpa using h
    clear hb15 HOSG_15 HOPG_15 HBv1_15 HBv2_15 HBv3_15 HBv4_15 HBv5_15 hW16
    have kv3_0 : (w16).cell? ⟨qv3, 0, none⟩ = some (.int .i64 304) := (cell_of HBv3_16.out 0).trans rfl
    have kv3_1 : (w16).cell? ⟨qv3, 1, none⟩ = some (.slice oPG pg.length pPG) := (cell_of HBv3_16.out 1).trans rfl
    have kv3_2 : (w16).cell? ⟨qv3, 2, none⟩ = some (.string ⟨#[]⟩) := (cell_of HBv3_16.out 2).trans rfl
    refine bodyPost_ret (v := .agg #[.int .i64 304, .slice oPG pg.length pPG, .string ⟨#[]⟩]) (by simp [results, Tryz.results7, go_sem, kv3_0, kv3_1, kv3_2]) rfl ?_
    unfold ansF
    rw [ansS_yes HYsm.out, ansB_yes HYsm.out, ansG_yes HYsm.out, HAT.out, HSG.out, HPG.out]
    exact ⟨_, rfl, HOPG_16.out, hb16⟩

end Go.Proofs.YtmcmeeibogkpaaaGreatDoorR

namespace Go.Proofs.YtmcmeeibogkpaaaGreatDoorR
open Go.RowKit Go.WideShapes
open Go.Lib hiding intOf

set_option maxRecDepth 100000 in
/-- A request among the arguments: what it holds. -/
theorem openReq {H : Type} {enc : TypeId × Value → H} {W : World} {r : Reach} {b0 : Nat} {v : Value} {d : DataW H} {ps : List MemPlace} (hval : Value.okWide Tryz.prog W r b0 50 v) (h : DataW.Trod enc Tryz.prog W 0 (fun _ => true) true 50 v d ps) :
    ∃ (m : Int) (p : ByteArray) (a : Option Addr) (n cap : Nat) (b : ByteArray) (fs : List (ByteArray × ByteArray)), v = .agg #[.int .i64 m, .string p, .slice a n cap, .string b] ∧ ArgF W W.heap.size a n fs ∧ n ≤ maxLen ∧ WalkF n fs ∧ p.size ≤ maxLen ∧ b.size ≤ maxLen := by
  obtain ⟨cs, rfl, hsz⟩ := okWide_struct Tryz.underlying50 hval
  obtain ⟨fuel, hf⟩ := h
  obtain ⟨ys, q, _, _, _, hyl, hg⟩ := DataW.trod_struct Tryz.underlying50 hf
  have hc4 : Tryz.prog.cellsOf 50 = 4 := by kernel_rfl
  have e3 : Tryz.prog.cellsOf 3 = 1 := by kernel_rfl
  have e9 : Tryz.prog.cellsOf 9 = 1 := by kernel_rfl
  have eL : Tryz.prog.cellsOf 48 = 1 := by kernel_rfl
  rw [hc4] at hsz
  obtain ⟨l⟩ := cs
  obtain ⟨c0, c1, c2, c3, rfl⟩ : ∃ c0 c1 c2 c3, l = [c0, c1, c2, c3] := by
    match l, hsz with
    | [c0, c1, c2, c3], _ => exact ⟨c0, c1, c2, c3, rfl⟩
  have g0 := hg 0 _ rfl
  have g1 := hg 1 _ rfl
  have g2 := hg 2 _ rfl
  have g3 := hg 3 _ rfl
  simp [Value.cells, e3, e9, eL] at g0 g1 g2 g3
  have hy4 : ys.length = 4 := hyl
  rw [List.getElem?_eq_getElem (show 0 < ys.length by omega)] at g0
  rw [List.getElem?_eq_getElem (show 1 < ys.length by omega)] at g1
  rw [List.getElem?_eq_getElem (show 2 < ys.length by omega)] at g2
  rw [List.getElem?_eq_getElem (show 3 < ys.length by omega)] at g3
  obtain ⟨m, hm, _, _⟩ := DataW.trod_int Tryz.underlying3 g0
  obtain ⟨p, hp, _, hps⟩ := DataW.trod_string Tryz.underlying9 g1
  obtain ⟨b, hb, _, hbs⟩ := DataW.trod_string Tryz.underlying9 g3
  obtain ⟨a, n, cap, rfl⟩ : ∃ a n cap, c2 = .slice a n cap := by
    rcases DataW.trod_slice Tryz.underlying48 g2 with ⟨h, _⟩ | ⟨a, n, cap, _, _, _, _, h, _⟩
    · exact ⟨none, 0, 0, by simpa using h⟩
    · exact ⟨_, n, cap, by simpa using h⟩
  obtain ⟨fs, h1, h2, h3⟩ := openFields g2
  simp only [List.cons.injEq, and_true] at hm hb hp
  subst hm hb hp
  exact ⟨m, p, a, n, cap, b, fs, rfl, h1, h2, h3, hps, hbs⟩

end Go.Proofs.YtmcmeeibogkpaaaGreatDoorR

namespace Go.Proofs.YtmcmeeibogkpaaaGreatDoorR
open Go.RowKit
open Go.Lib hiding intOf

/-- An object's three lists, in memory of one's own, no two in one block. -/
structure ObjO (W : World) (base : Nat) (v1 : Value) (n1 : Nat) (xs : List ByteArray) (v2 : Value) (n2 : Nat) (ys : List ByteArray) (v3 : Value) (n3 : Nat) (fs : List (ByteArray × ByteArray)) : Prop where
  names : W.ownsRow base 9 1 v1 n1 (xs.map Value.string)
  vals : W.ownsRow base 9 1 v2 n2 (ys.map Value.string)
  flds : W.ownsRow base 74 2 v3 n3 (flatF fs)
  ne : ∀ j, v1.ownBlock = some j → v2.ownBlock ≠ some j


set_option maxHeartbeats 4000000 in
set_option maxRecDepth 100000 in
theorem toObj_any (p : ByteArray) (a1 : Option Addr) (n1 c1 : Nat) (xs : List ByteArray) (a2 : Option Addr) (n2 c2 : Nat) (ys : List ByteArray) (st : Int) (a3 : Option Addr) (n3 c3 : Nat) (fs : List (ByteArray × ByteArray)) (b : ByteArray) (t : Int) (B : Nat) (w : World) (h1 : ArgT w B a1 n1 xs) (h2 : ArgT w B a2 n2 ys) (h3 : ArgF w B a3 n3 fs) (hB : B ≤ w.heap.size) (hn1 : n1 ≤ 1048576) (hn2 : n2 ≤ 1048576) (hn3 : n3 ≤ 1048576) :
    Calls Tryz.prog 24 #[.agg #[.string p, .slice a1 n1 c1, .slice a2 n2 c2, .int .i64 st, .slice a3 n3 c3, .string b, .int .i64 t]] w fun e w' => ∃ v1 v2 v3, e = .returned (.agg #[.string p, v1, v2, .int .i64 st, v3, .string b, .int .i64 t]) ∧ ObjO w' w.heap.size v1 n1 xs v2 n2 ys v3 n3 fs ∧ Below w.heap.size w w' := by
  have HA1 : Hid (∀ W, Below w.heap.size w W → ArgT W B a1 n1 xs) := fun W h => h1.below (h.mono hB)
  have HA2 : Hid (∀ W, Below w.heap.size w W → ArgT W B a2 n2 ys) := fun W h => h2.below (h.mono hB)
  have HA3 : Hid (∀ W, Below w.heap.size w W → ArgF W B a3 n3 fs) := fun W h => h3.below (h.mono hB)
  have HBB : Hid (∀ W, Below w.heap.size w W → B ≤ W.heap.size) := fun W h => Nat.le_trans hB h.size
  clear h1 h2 h3
  have hb0 : Below w.heap.size w w := Below.refl _ _
  go_enter Tryz.func24, Tryz.ntmps24
  go_upto_region 1 with fail
  obtain ⟨qv1, hqv1⟩ : ∃ q, q = (w).heap.size := ⟨_, rfl⟩
  obtain ⟨w1, hW1⟩ : ∃ W, W = (w).alloc (.cells #[.string p, .slice a1 n1 c1, .slice a2 n2 c2, .int .i64 st, .slice a3 n3 c3, .string b, .int .i64 t] 54) := ⟨_, rfl⟩
  have hz1 : (w).heap.size = qv1 := hqv1.symm
  first | rw [← hW1, ← hqv1] | rw [← hW1]
  have hs1 : w1.heap.size = qv1 + 1 := by rw [hW1, ← hz1]; simp
  have bw : Below (w).heap.size (w) w1 := by rw [hW1]; exact (Below.refl _ _).alloc (Nat.le_refl _) _
  have hb1 : Below w.heap.size w (w1) := hb0.trans (bw.mono hb0.size)
  have HBv1_1 : Hid ((w1).heap[qv1]? = some (.cells #[.string p, .slice a1 n1 c1, .slice a2 n2 c2, .int .i64 st, .slice a3 n3 c3, .string b, .int .i64 t] 54)) := by show _ = _; rw [hW1, ← hz1]; exact heap_alloc_new _ _
  clear hb0 bw hW1 hz1
  obtain ⟨qv2, hqv2⟩ : ∃ q, q = qv1 + 1 := ⟨_, rfl⟩
  obtain ⟨w2, hW2⟩ : ∃ W, W = (w1).alloc (.cells #[.string ⟨#[]⟩, .slice none 0 0, .slice none 0 0, .int .i64 0, .slice none 0 0, .string ⟨#[]⟩, .int .i64 0] 31) := ⟨_, rfl⟩
  have hz2 : (w1).heap.size = qv2 := by rw [hqv2]; exact hs1
  first | rw [← hW2, ← hqv2] | rw [← hW2]
  have hs2 : w2.heap.size = qv2 + 1 := by rw [hW2, ← hz2]; simp
  have bw : Below (w1).heap.size (w1) w2 := by rw [hW2]; exact (Below.refl _ _).alloc (Nat.le_refl _) _
  have hb2 : Below w.heap.size w (w2) := hb1.trans (bw.mono hb1.size)
  have HBv1_2 : Hid ((w2).heap[qv1]? = some (.cells #[.string p, .slice a1 n1 c1, .slice a2 n2 c2, .int .i64 st, .slice a3 n3 c3, .string b, .int .i64 t] 54)) := blk_below HBv1_1.out bw
  have HNv1v2 : Hid (qv1 ≠ qv2) := fun e => by have h1 := (Array.getElem?_eq_some_iff.1 HBv1_1.out).1; omega
  have HBv2_2 : Hid ((w2).heap[qv2]? = some (.cells #[.string ⟨#[]⟩, .slice none 0 0, .slice none 0 0, .int .i64 0, .slice none 0 0, .string ⟨#[]⟩, .int .i64 0] 31)) := by show _ = _; rw [hW2, ← hz2]; exact heap_alloc_new _ _
  have HGv2 : Hid (w.heap.size ≤ qv2) := by show _ ≤ _; rw [← hz2]; exact hb1.size
  clear hb1 HBv1_1 bw hW2 hz2
  clear hs2 hqv2 hs1 hqv1
  go_upto_region 2 with fail
  obtain ⟨qv3, hqv3⟩ : ∃ q, q = (w2).heap.size := ⟨_, rfl⟩
  obtain ⟨w3, hW3⟩ : ∃ W, W = (w2).alloc (.cells #[.string ⟨#[]⟩, .slice none 0 0, .slice none 0 0, .int .i64 0, .slice none 0 0, .string ⟨#[]⟩, .int .i64 0] 31) := ⟨_, rfl⟩
  have hz3 : (w2).heap.size = qv3 := hqv3.symm
  first | rw [← hW3, ← hqv3] | rw [← hW3]
  have hs3 : w3.heap.size = qv3 + 1 := by rw [hW3, ← hz3]; simp
  have bw : Below (w2).heap.size (w2) w3 := by rw [hW3]; exact (Below.refl _ _).alloc (Nat.le_refl _) _
  have hb3 : Below w.heap.size w (w3) := hb2.trans (bw.mono hb2.size)
  have HBv1_3 : Hid ((w3).heap[qv1]? = some (.cells #[.string p, .slice a1 n1 c1, .slice a2 n2 c2, .int .i64 st, .slice a3 n3 c3, .string b, .int .i64 t] 54)) := blk_below HBv1_2.out bw
  have HBv2_3 : Hid ((w3).heap[qv2]? = some (.cells #[.string ⟨#[]⟩, .slice none 0 0, .slice none 0 0, .int .i64 0, .slice none 0 0, .string ⟨#[]⟩, .int .i64 0] 31)) := blk_below HBv2_2.out bw
  have HNv1v3 : Hid (qv1 ≠ qv3) := fun e => by have h1 := (Array.getElem?_eq_some_iff.1 HBv1_2.out).1; omega
  have HNv2v3 : Hid (qv2 ≠ qv3) := fun e => by have h1 := (Array.getElem?_eq_some_iff.1 HBv2_2.out).1; omega
  have HBv3_3 : Hid ((w3).heap[qv3]? = some (.cells #[.string ⟨#[]⟩, .slice none 0 0, .slice none 0 0, .int .i64 0, .slice none 0 0, .string ⟨#[]⟩, .int .i64 0] 31)) := by show _ = _; rw [hW3, ← hz3]; exact heap_alloc_new _ _
  have HGv3 : Hid (w.heap.size ≤ qv3) := by show _ ≤ _; rw [← hz3]; exact hb2.size
  clear hb2 HBv1_2 HBv2_2 bw hW3 hz3
  clear hs3 hqv3
  have cv1_0 : (w3).cell? ⟨qv1, 0, none⟩ = some (.string p) := (cell_of HBv1_3.out 0).trans rfl
  have cv3_0 : (w3).cell? ⟨qv3, 0, none⟩ = some (.string ⟨#[]⟩) := (cell_of HBv3_3.out 0).trans rfl
  have fcv3_0 : (w3).frozen? ⟨qv3, 0, none⟩ = false := frozen_of HBv3_3.out 0
  go_upto_region 3 with fail
  obtain ⟨w4, hW4⟩ : ∃ W, W = (w3).setCell ⟨qv3, 0, none⟩ (.string p) := ⟨_, rfl⟩
  rw [← hW4]
  have hb4 : Below w.heap.size w (w4) := by rw [hW4]; exact (hb3.setCell (p := ⟨qv3, 0, none⟩) HGv3.out _)
  have HBv1_4 : Hid ((w4).heap[qv1]? = some (.cells #[.string p, .slice a1 n1 c1, .slice a2 n2 c2, .int .i64 st, .slice a3 n3 c3, .string b, .int .i64 t] 54)) := by show _ = _; rw [hW4, heap_setCell_other _ _ _ _ HNv1v3.out]; exact HBv1_3.out
  have HBv2_4 : Hid ((w4).heap[qv2]? = some (.cells #[.string ⟨#[]⟩, .slice none 0 0, .slice none 0 0, .int .i64 0, .slice none 0 0, .string ⟨#[]⟩, .int .i64 0] 31)) := by show _ = _; rw [hW4, heap_setCell_other _ _ _ _ HNv2v3.out]; exact HBv2_3.out
  have HBv3_4 : Hid ((w4).heap[qv3]? = some (.cells #[.string p, .slice none 0 0, .slice none 0 0, .int .i64 0, .slice none 0 0, .string ⟨#[]⟩, .int .i64 0] 31)) := by show _ = _; rw [hW4]; have h := heap_set _ _ 0 _ _ _ (.string p) HBv3_3.out; simpa using h
  clear hb3 HBv1_3 HBv2_3 HBv3_3 hW4
  clear cv1_0 cv3_0 fcv3_0
  have cv1_1 : (w4).cell? ⟨qv1, 1, none⟩ = some (.slice a1 n1 c1) := (cell_of HBv1_4.out 1).trans rfl
  go_wp2_with fail
  refine (toStringS_any B a1 n1 c1 xs _ (HA1.out _ hb4) (HBB.out _ hb4) hn1).mono ?_
  rintro e w5 ⟨vv, rfl, ownN, bw⟩
  obtain ⟨oN, pN, rfl⟩ := slice_of_owns ownN
  have hb5 : Below w.heap.size w (w5) := hb4.trans (bw.mono hb4.size)
  have HBv1_5 : Hid ((w5).heap[qv1]? = some (.cells #[.string p, .slice a1 n1 c1, .slice a2 n2 c2, .int .i64 st, .slice a3 n3 c3, .string b, .int .i64 t] 54)) := blk_below HBv1_4.out bw
  have HBv2_5 : Hid ((w5).heap[qv2]? = some (.cells #[.string ⟨#[]⟩, .slice none 0 0, .slice none 0 0, .int .i64 0, .slice none 0 0, .string ⟨#[]⟩, .int .i64 0] 31)) := blk_below HBv2_4.out bw
  have HBv3_5 : Hid ((w5).heap[qv3]? = some (.cells #[.string p, .slice none 0 0, .slice none 0 0, .int .i64 0, .slice none 0 0, .string ⟨#[]⟩, .int .i64 0] 31)) := blk_below HBv3_4.out bw
  have HON_5 : Hid ((w5).ownsRow w.heap.size 9 1 (.slice oN n1 pN) n1 (xs.map Value.string)) := owns_wide ownN hb4.size
  have HIN : Hid (∀ g, (Value.ownBlock (.slice oN n1 pN)) = some g → g < (w5).heap.size) := fun g hg => owns_lt ownN hg
  clear ownN
  clear hb4 HBv1_4 HBv2_4 HBv3_4 bw
  clear cv1_1
  have cv3_1 : (w5).cell? ⟨qv3, 1, none⟩ = some (.slice none 0 0) := (cell_of HBv3_5.out 1).trans rfl
  have fcv3_1 : (w5).frozen? ⟨qv3, 1, none⟩ = false := frozen_of HBv3_5.out 1
  go_upto_region 4 with fail
  obtain ⟨w6, hW6⟩ : ∃ W, W = (w5).setCell ⟨qv3, 1, none⟩ (.slice oN n1 pN) := ⟨_, rfl⟩
  rw [← hW6]
  have hb6 : Below w.heap.size w (w6) := by rw [hW6]; exact (hb5.setCell (p := ⟨qv3, 1, none⟩) HGv3.out _)
  have HM6 : Hid ((w5).heap.size ≤ w6.heap.size) := by show _ ≤ _; rw [hW6]; simp
  have HON_6 : Hid ((w6).ownsRow w.heap.size 9 1 (.slice oN n1 pN) n1 (xs.map Value.string)) := by show World.ownsRow _ _ _ _ _ _ _; rw [hW6]; exact owns_same HON_5.out (fun g hg => heap_setCell_other _ _ g _ (own_ne HON_5.out HBv3_5.out (by decide) g hg))
  have HBv1_6 : Hid ((w6).heap[qv1]? = some (.cells #[.string p, .slice a1 n1 c1, .slice a2 n2 c2, .int .i64 st, .slice a3 n3 c3, .string b, .int .i64 t] 54)) := by show _ = _; rw [hW6, heap_setCell_other _ _ _ _ HNv1v3.out]; exact HBv1_5.out
  have HBv2_6 : Hid ((w6).heap[qv2]? = some (.cells #[.string ⟨#[]⟩, .slice none 0 0, .slice none 0 0, .int .i64 0, .slice none 0 0, .string ⟨#[]⟩, .int .i64 0] 31)) := by show _ = _; rw [hW6, heap_setCell_other _ _ _ _ HNv2v3.out]; exact HBv2_5.out
  have HBv3_6 : Hid ((w6).heap[qv3]? = some (.cells #[.string p, .slice oN n1 pN, .slice none 0 0, .int .i64 0, .slice none 0 0, .string ⟨#[]⟩, .int .i64 0] 31)) := by show _ = _; rw [hW6]; have h := heap_set _ _ 1 _ _ _ (.slice oN n1 pN) HBv3_5.out; simpa using h
  clear hb5 HON_5 HBv1_5 HBv2_5 HBv3_5 hW6
  clear cv3_1 fcv3_1
  have cv1_2 : (w6).cell? ⟨qv1, 2, none⟩ = some (.slice a2 n2 c2) := (cell_of HBv1_6.out 2).trans rfl
  go_wp2_with fail
  refine (toStringS_any B a2 n2 c2 ys _ (HA2.out _ hb6) (HBB.out _ hb6) hn2).mono ?_
  rintro e w7 ⟨vv, rfl, ownV, bw⟩
  obtain ⟨oV, pV, rfl⟩ := slice_of_owns ownV
  have hb7 : Below w.heap.size w (w7) := hb6.trans (bw.mono hb6.size)
  have HM7 : Hid ((w6).heap.size ≤ (w7).heap.size) := bw.size
  have HON_7 : Hid ((w7).ownsRow w.heap.size 9 1 (.slice oN n1 pN) n1 (xs.map Value.string)) := owns_below HON_6.out bw (fun g hg => owns_lt HON_6.out hg)
  have HBv1_7 : Hid ((w7).heap[qv1]? = some (.cells #[.string p, .slice a1 n1 c1, .slice a2 n2 c2, .int .i64 st, .slice a3 n3 c3, .string b, .int .i64 t] 54)) := blk_below HBv1_6.out bw
  have HBv2_7 : Hid ((w7).heap[qv2]? = some (.cells #[.string ⟨#[]⟩, .slice none 0 0, .slice none 0 0, .int .i64 0, .slice none 0 0, .string ⟨#[]⟩, .int .i64 0] 31)) := blk_below HBv2_6.out bw
  have HBv3_7 : Hid ((w7).heap[qv3]? = some (.cells #[.string p, .slice oN n1 pN, .slice none 0 0, .int .i64 0, .slice none 0 0, .string ⟨#[]⟩, .int .i64 0] 31)) := blk_below HBv3_6.out bw
  have HOV_7 : Hid ((w7).ownsRow w.heap.size 9 1 (.slice oV n2 pV) n2 (ys.map Value.string)) := owns_wide ownV hb6.size
  have LOV : Hid (∀ g, (Value.ownBlock (.slice oV n2 pV)) = some g → (w6).heap.size ≤ g) := fun g hg => owns_ge ownV hg
  clear ownV
  clear hb6 HON_6 HBv1_6 HBv2_6 HBv3_6 bw
  clear cv1_2
  have cv3_2 : (w7).cell? ⟨qv3, 2, none⟩ = some (.slice none 0 0) := (cell_of HBv3_7.out 2).trans rfl
  have fcv3_2 : (w7).frozen? ⟨qv3, 2, none⟩ = false := frozen_of HBv3_7.out 2
  go_upto_region 5 with fail
  obtain ⟨w8, hW8⟩ : ∃ W, W = (w7).setCell ⟨qv3, 2, none⟩ (.slice oV n2 pV) := ⟨_, rfl⟩
  rw [← hW8]
  have hb8 : Below w.heap.size w (w8) := by rw [hW8]; exact (hb7.setCell (p := ⟨qv3, 2, none⟩) HGv3.out _)
  have HON_8 : Hid ((w8).ownsRow w.heap.size 9 1 (.slice oN n1 pN) n1 (xs.map Value.string)) := by show World.ownsRow _ _ _ _ _ _ _; rw [hW8]; exact owns_same HON_7.out (fun g hg => heap_setCell_other _ _ g _ (own_ne HON_7.out HBv3_7.out (by decide) g hg))
  have HOV_8 : Hid ((w8).ownsRow w.heap.size 9 1 (.slice oV n2 pV) n2 (ys.map Value.string)) := by show World.ownsRow _ _ _ _ _ _ _; rw [hW8]; exact owns_same HOV_7.out (fun g hg => heap_setCell_other _ _ g _ (own_ne HOV_7.out HBv3_7.out (by decide) g hg))
  have HBv1_8 : Hid ((w8).heap[qv1]? = some (.cells #[.string p, .slice a1 n1 c1, .slice a2 n2 c2, .int .i64 st, .slice a3 n3 c3, .string b, .int .i64 t] 54)) := by show _ = _; rw [hW8, heap_setCell_other _ _ _ _ HNv1v3.out]; exact HBv1_7.out
  have HBv2_8 : Hid ((w8).heap[qv2]? = some (.cells #[.string ⟨#[]⟩, .slice none 0 0, .slice none 0 0, .int .i64 0, .slice none 0 0, .string ⟨#[]⟩, .int .i64 0] 31)) := by show _ = _; rw [hW8, heap_setCell_other _ _ _ _ HNv2v3.out]; exact HBv2_7.out
  have HBv3_8 : Hid ((w8).heap[qv3]? = some (.cells #[.string p, .slice oN n1 pN, .slice oV n2 pV, .int .i64 0, .slice none 0 0, .string ⟨#[]⟩, .int .i64 0] 31)) := by show _ = _; rw [hW8]; have h := heap_set _ _ 2 _ _ _ (.slice oV n2 pV) HBv3_7.out; simpa using h
  clear hb7 HON_7 HOV_7 HBv1_7 HBv2_7 HBv3_7 hW8
  clear cv3_2 fcv3_2
  have cv1_3 : (w8).cell? ⟨qv1, 3, none⟩ = some (.int .i64 st) := (cell_of HBv1_8.out 3).trans rfl
  have cv1_4 : (w8).cell? ⟨qv1, 4, none⟩ = some (.slice a3 n3 c3) := (cell_of HBv1_8.out 4).trans rfl
  have cv1_5 : (w8).cell? ⟨qv1, 5, none⟩ = some (.string b) := (cell_of HBv1_8.out 5).trans rfl
  go_wp2_with fail
  refine (toResp_any st a3 n3 c3 b fs B _ (HA3.out _ hb8) (HBB.out _ hb8) hn3).mono ?_
  rintro e w9 ⟨vv, rfl, ownF, bw⟩
  obtain ⟨oF, pF, rfl⟩ := slice_of_owns ownF
  have hb9 : Below w.heap.size w (w9) := hb8.trans (bw.mono hb8.size)
  have HON_9 : Hid ((w9).ownsRow w.heap.size 9 1 (.slice oN n1 pN) n1 (xs.map Value.string)) := owns_below HON_8.out bw (fun g hg => owns_lt HON_8.out hg)
  have HOV_9 : Hid ((w9).ownsRow w.heap.size 9 1 (.slice oV n2 pV) n2 (ys.map Value.string)) := owns_below HOV_8.out bw (fun g hg => owns_lt HOV_8.out hg)
  have HBv1_9 : Hid ((w9).heap[qv1]? = some (.cells #[.string p, .slice a1 n1 c1, .slice a2 n2 c2, .int .i64 st, .slice a3 n3 c3, .string b, .int .i64 t] 54)) := blk_below HBv1_8.out bw
  have HBv2_9 : Hid ((w9).heap[qv2]? = some (.cells #[.string ⟨#[]⟩, .slice none 0 0, .slice none 0 0, .int .i64 0, .slice none 0 0, .string ⟨#[]⟩, .int .i64 0] 31)) := blk_below HBv2_8.out bw
  have HBv3_9 : Hid ((w9).heap[qv3]? = some (.cells #[.string p, .slice oN n1 pN, .slice oV n2 pV, .int .i64 0, .slice none 0 0, .string ⟨#[]⟩, .int .i64 0] 31)) := blk_below HBv3_8.out bw
  have HOF_9 : Hid ((w9).ownsRow w.heap.size 74 2 (.slice oF n3 pF) n3 (flatF fs)) := owns_wide ownF hb8.size
  clear ownF
  clear hb8 HON_8 HOV_8 HBv1_8 HBv2_8 HBv3_8 bw
  clear cv1_3 cv1_4 cv1_5
  have cv3_3 : (w9).cell? ⟨qv3, 3, none⟩ = some (.int .i64 0) := (cell_of HBv3_9.out 3).trans rfl
  have fcv3_3 : (w9).frozen? ⟨qv3, 3, none⟩ = false := frozen_of HBv3_9.out 3
  have cv3_4 : (w9).cell? ⟨qv3, 4, none⟩ = some (.slice none 0 0) := (cell_of HBv3_9.out 4).trans rfl
  have fcv3_4 : (w9).frozen? ⟨qv3, 4, none⟩ = false := frozen_of HBv3_9.out 4
  have cv3_5 : (w9).cell? ⟨qv3, 5, none⟩ = some (.string ⟨#[]⟩) := (cell_of HBv3_9.out 5).trans rfl
  have fcv3_5 : (w9).frozen? ⟨qv3, 5, none⟩ = false := frozen_of HBv3_9.out 5
  go_upto_region 6 with fail
  obtain ⟨w10, hW10⟩ : ∃ W, W = (w9).setCell ⟨qv3, 3, none⟩ (.int .i64 st) := ⟨_, rfl⟩
  rw [← hW10]
  have hb10 : Below w.heap.size w (w10) := by rw [hW10]; exact (hb9.setCell (p := ⟨qv3, 3, none⟩) HGv3.out _)
  have HON_10 : Hid ((w10).ownsRow w.heap.size 9 1 (.slice oN n1 pN) n1 (xs.map Value.string)) := by show World.ownsRow _ _ _ _ _ _ _; rw [hW10]; exact owns_same HON_9.out (fun g hg => heap_setCell_other _ _ g _ (own_ne HON_9.out HBv3_9.out (by decide) g hg))
  have HOV_10 : Hid ((w10).ownsRow w.heap.size 9 1 (.slice oV n2 pV) n2 (ys.map Value.string)) := by show World.ownsRow _ _ _ _ _ _ _; rw [hW10]; exact owns_same HOV_9.out (fun g hg => heap_setCell_other _ _ g _ (own_ne HOV_9.out HBv3_9.out (by decide) g hg))
  have HOF_10 : Hid ((w10).ownsRow w.heap.size 74 2 (.slice oF n3 pF) n3 (flatF fs)) := by show World.ownsRow _ _ _ _ _ _ _; rw [hW10]; exact owns_same HOF_9.out (fun g hg => heap_setCell_other _ _ g _ (own_ne HOF_9.out HBv3_9.out (by decide) g hg))
  have HBv1_10 : Hid ((w10).heap[qv1]? = some (.cells #[.string p, .slice a1 n1 c1, .slice a2 n2 c2, .int .i64 st, .slice a3 n3 c3, .string b, .int .i64 t] 54)) := by show _ = _; rw [hW10, heap_setCell_other _ _ _ _ HNv1v3.out]; exact HBv1_9.out
  have HBv2_10 : Hid ((w10).heap[qv2]? = some (.cells #[.string ⟨#[]⟩, .slice none 0 0, .slice none 0 0, .int .i64 0, .slice none 0 0, .string ⟨#[]⟩, .int .i64 0] 31)) := by show _ = _; rw [hW10, heap_setCell_other _ _ _ _ HNv2v3.out]; exact HBv2_9.out
  have HBv3_10 : Hid ((w10).heap[qv3]? = some (.cells #[.string p, .slice oN n1 pN, .slice oV n2 pV, .int .i64 st, .slice none 0 0, .string ⟨#[]⟩, .int .i64 0] 31)) := by show _ = _; rw [hW10]; have h := heap_set _ _ 3 _ _ _ (.int .i64 st) HBv3_9.out; simpa using h
  clear hb9 HON_9 HOV_9 HOF_9 HBv1_9 HBv2_9 HBv3_9 hW10
  obtain ⟨w11, hW11⟩ : ∃ W, W = (w10).setCell ⟨qv3, 4, none⟩ (.slice oF n3 pF) := ⟨_, rfl⟩
  rw [← hW11]
  have hb11 : Below w.heap.size w (w11) := by rw [hW11]; exact (hb10.setCell (p := ⟨qv3, 4, none⟩) HGv3.out _)
  have HON_11 : Hid ((w11).ownsRow w.heap.size 9 1 (.slice oN n1 pN) n1 (xs.map Value.string)) := by show World.ownsRow _ _ _ _ _ _ _; rw [hW11]; exact owns_same HON_10.out (fun g hg => heap_setCell_other _ _ g _ (own_ne HON_10.out HBv3_10.out (by decide) g hg))
  have HOV_11 : Hid ((w11).ownsRow w.heap.size 9 1 (.slice oV n2 pV) n2 (ys.map Value.string)) := by show World.ownsRow _ _ _ _ _ _ _; rw [hW11]; exact owns_same HOV_10.out (fun g hg => heap_setCell_other _ _ g _ (own_ne HOV_10.out HBv3_10.out (by decide) g hg))
  have HOF_11 : Hid ((w11).ownsRow w.heap.size 74 2 (.slice oF n3 pF) n3 (flatF fs)) := by show World.ownsRow _ _ _ _ _ _ _; rw [hW11]; exact owns_same HOF_10.out (fun g hg => heap_setCell_other _ _ g _ (own_ne HOF_10.out HBv3_10.out (by decide) g hg))
  have HBv1_11 : Hid ((w11).heap[qv1]? = some (.cells #[.string p, .slice a1 n1 c1, .slice a2 n2 c2, .int .i64 st, .slice a3 n3 c3, .string b, .int .i64 t] 54)) := by show _ = _; rw [hW11, heap_setCell_other _ _ _ _ HNv1v3.out]; exact HBv1_10.out
  have HBv2_11 : Hid ((w11).heap[qv2]? = some (.cells #[.string ⟨#[]⟩, .slice none 0 0, .slice none 0 0, .int .i64 0, .slice none 0 0, .string ⟨#[]⟩, .int .i64 0] 31)) := by show _ = _; rw [hW11, heap_setCell_other _ _ _ _ HNv2v3.out]; exact HBv2_10.out
  have HBv3_11 : Hid ((w11).heap[qv3]? = some (.cells #[.string p, .slice oN n1 pN, .slice oV n2 pV, .int .i64 st, .slice oF n3 pF, .string ⟨#[]⟩, .int .i64 0] 31)) := by show _ = _; rw [hW11]; have h := heap_set _ _ 4 _ _ _ (.slice oF n3 pF) HBv3_10.out; simpa using h
  clear hb10 HON_10 HOV_10 HOF_10 HBv1_10 HBv2_10 HBv3_10 hW11
  obtain ⟨w12, hW12⟩ : ∃ W, W = (w11).setCell ⟨qv3, 5, none⟩ (.string b) := ⟨_, rfl⟩
  rw [← hW12]
  have hb12 : Below w.heap.size w (w12) := by rw [hW12]; exact (hb11.setCell (p := ⟨qv3, 5, none⟩) HGv3.out _)
  have HON_12 : Hid ((w12).ownsRow w.heap.size 9 1 (.slice oN n1 pN) n1 (xs.map Value.string)) := by show World.ownsRow _ _ _ _ _ _ _; rw [hW12]; exact owns_same HON_11.out (fun g hg => heap_setCell_other _ _ g _ (own_ne HON_11.out HBv3_11.out (by decide) g hg))
  have HOV_12 : Hid ((w12).ownsRow w.heap.size 9 1 (.slice oV n2 pV) n2 (ys.map Value.string)) := by show World.ownsRow _ _ _ _ _ _ _; rw [hW12]; exact owns_same HOV_11.out (fun g hg => heap_setCell_other _ _ g _ (own_ne HOV_11.out HBv3_11.out (by decide) g hg))
  have HOF_12 : Hid ((w12).ownsRow w.heap.size 74 2 (.slice oF n3 pF) n3 (flatF fs)) := by show World.ownsRow _ _ _ _ _ _ _; rw [hW12]; exact owns_same HOF_11.out (fun g hg => heap_setCell_other _ _ g _ (own_ne HOF_11.out HBv3_11.out (by decide) g hg))
  have HBv1_12 : Hid ((w12).heap[qv1]? = some (.cells #[.string p, .slice a1 n1 c1, .slice a2 n2 c2, .int .i64 st, .slice a3 n3 c3, .string b, .int .i64 t] 54)) := by show _ = _; rw [hW12, heap_setCell_other _ _ _ _ HNv1v3.out]; exact HBv1_11.out
  have HBv2_12 : Hid ((w12).heap[qv2]? = some (.cells #[.string ⟨#[]⟩, .slice none 0 0, .slice none 0 0, .int .i64 0, .slice none 0 0, .string ⟨#[]⟩, .int .i64 0] 31)) := by show _ = _; rw [hW12, heap_setCell_other _ _ _ _ HNv2v3.out]; exact HBv2_11.out
  have HBv3_12 : Hid ((w12).heap[qv3]? = some (.cells #[.string p, .slice oN n1 pN, .slice oV n2 pV, .int .i64 st, .slice oF n3 pF, .string b, .int .i64 0] 31)) := by show _ = _; rw [hW12]; have h := heap_set _ _ 5 _ _ _ (.string b) HBv3_11.out; simpa using h
  clear hb11 HON_11 HOV_11 HOF_11 HBv1_11 HBv2_11 HBv3_11 hW12
  clear cv3_3 fcv3_3 cv3_4 fcv3_4 cv3_5 fcv3_5
  have cv1_6 : (w12).cell? ⟨qv1, 6, none⟩ = some (.int .i64 t) := (cell_of HBv1_12.out 6).trans rfl
  have cv3_6 : (w12).cell? ⟨qv3, 6, none⟩ = some (.int .i64 0) := (cell_of HBv3_12.out 6).trans rfl
  have fcv3_6 : (w12).frozen? ⟨qv3, 6, none⟩ = false := frozen_of HBv3_12.out 6
  go_upto_region 7 with fail
  obtain ⟨w13, hW13⟩ : ∃ W, W = (w12).setCell ⟨qv3, 6, none⟩ (.int .i64 t) := ⟨_, rfl⟩
  rw [← hW13]
  have hb13 : Below w.heap.size w (w13) := by rw [hW13]; exact (hb12.setCell (p := ⟨qv3, 6, none⟩) HGv3.out _)
  have HON_13 : Hid ((w13).ownsRow w.heap.size 9 1 (.slice oN n1 pN) n1 (xs.map Value.string)) := by show World.ownsRow _ _ _ _ _ _ _; rw [hW13]; exact owns_same HON_12.out (fun g hg => heap_setCell_other _ _ g _ (own_ne HON_12.out HBv3_12.out (by decide) g hg))
  have HOV_13 : Hid ((w13).ownsRow w.heap.size 9 1 (.slice oV n2 pV) n2 (ys.map Value.string)) := by show World.ownsRow _ _ _ _ _ _ _; rw [hW13]; exact owns_same HOV_12.out (fun g hg => heap_setCell_other _ _ g _ (own_ne HOV_12.out HBv3_12.out (by decide) g hg))
  have HOF_13 : Hid ((w13).ownsRow w.heap.size 74 2 (.slice oF n3 pF) n3 (flatF fs)) := by show World.ownsRow _ _ _ _ _ _ _; rw [hW13]; exact owns_same HOF_12.out (fun g hg => heap_setCell_other _ _ g _ (own_ne HOF_12.out HBv3_12.out (by decide) g hg))
  have HBv1_13 : Hid ((w13).heap[qv1]? = some (.cells #[.string p, .slice a1 n1 c1, .slice a2 n2 c2, .int .i64 st, .slice a3 n3 c3, .string b, .int .i64 t] 54)) := by show _ = _; rw [hW13, heap_setCell_other _ _ _ _ HNv1v3.out]; exact HBv1_12.out
  have HBv2_13 : Hid ((w13).heap[qv2]? = some (.cells #[.string ⟨#[]⟩, .slice none 0 0, .slice none 0 0, .int .i64 0, .slice none 0 0, .string ⟨#[]⟩, .int .i64 0] 31)) := by show _ = _; rw [hW13, heap_setCell_other _ _ _ _ HNv2v3.out]; exact HBv2_12.out
  have HBv3_13 : Hid ((w13).heap[qv3]? = some (.cells #[.string p, .slice oN n1 pN, .slice oV n2 pV, .int .i64 st, .slice oF n3 pF, .string b, .int .i64 t] 31)) := by show _ = _; rw [hW13]; have h := heap_set _ _ 6 _ _ _ (.int .i64 t) HBv3_12.out; simpa using h
  clear hb12 HON_12 HOV_12 HOF_12 HBv1_12 HBv2_12 HBv3_12 hW13
  clear cv1_6 cv3_6 fcv3_6
  have cv2_0 : (w13).cell? ⟨qv2, 0, none⟩ = some (.string ⟨#[]⟩) := (cell_of HBv2_13.out 0).trans rfl
  have fcv2_0 : (w13).frozen? ⟨qv2, 0, none⟩ = false := frozen_of HBv2_13.out 0
  have cv2_1 : (w13).cell? ⟨qv2, 1, none⟩ = some (.slice none 0 0) := (cell_of HBv2_13.out 1).trans rfl
  have fcv2_1 : (w13).frozen? ⟨qv2, 1, none⟩ = false := frozen_of HBv2_13.out 1
  have cv2_2 : (w13).cell? ⟨qv2, 2, none⟩ = some (.slice none 0 0) := (cell_of HBv2_13.out 2).trans rfl
  have fcv2_2 : (w13).frozen? ⟨qv2, 2, none⟩ = false := frozen_of HBv2_13.out 2
  have cv2_3 : (w13).cell? ⟨qv2, 3, none⟩ = some (.int .i64 0) := (cell_of HBv2_13.out 3).trans rfl
  have fcv2_3 : (w13).frozen? ⟨qv2, 3, none⟩ = false := frozen_of HBv2_13.out 3
  have cv2_4 : (w13).cell? ⟨qv2, 4, none⟩ = some (.slice none 0 0) := (cell_of HBv2_13.out 4).trans rfl
  have fcv2_4 : (w13).frozen? ⟨qv2, 4, none⟩ = false := frozen_of HBv2_13.out 4
  have cv2_5 : (w13).cell? ⟨qv2, 5, none⟩ = some (.string ⟨#[]⟩) := (cell_of HBv2_13.out 5).trans rfl
  have fcv2_5 : (w13).frozen? ⟨qv2, 5, none⟩ = false := frozen_of HBv2_13.out 5
  have cv2_6 : (w13).cell? ⟨qv2, 6, none⟩ = some (.int .i64 0) := (cell_of HBv2_13.out 6).trans rfl
  have fcv2_6 : (w13).frozen? ⟨qv2, 6, none⟩ = false := frozen_of HBv2_13.out 6
  have cv3_0 : (w13).cell? ⟨qv3, 0, none⟩ = some (.string p) := (cell_of HBv3_13.out 0).trans rfl
  have cv3_1 : (w13).cell? ⟨qv3, 1, none⟩ = some (.slice oN n1 pN) := (cell_of HBv3_13.out 1).trans rfl
  have cv3_2 : (w13).cell? ⟨qv3, 2, none⟩ = some (.slice oV n2 pV) := (cell_of HBv3_13.out 2).trans rfl
  have cv3_3 : (w13).cell? ⟨qv3, 3, none⟩ = some (.int .i64 st) := (cell_of HBv3_13.out 3).trans rfl
  have cv3_4 : (w13).cell? ⟨qv3, 4, none⟩ = some (.slice oF n3 pF) := (cell_of HBv3_13.out 4).trans rfl
  have cv3_5 : (w13).cell? ⟨qv3, 5, none⟩ = some (.string b) := (cell_of HBv3_13.out 5).trans rfl
  have cv3_6 : (w13).cell? ⟨qv3, 6, none⟩ = some (.int .i64 t) := (cell_of HBv3_13.out 6).trans rfl
  go_wp2_with fail
  obtain ⟨w14, hW14⟩ : ∃ W, W = (w13).setCell ⟨qv2, 0, none⟩ (.string p) := ⟨_, rfl⟩
  rw [← hW14]
  have hb14 : Below w.heap.size w (w14) := by rw [hW14]; exact (hb13.setCell (p := ⟨qv2, 0, none⟩) HGv2.out _)
  have HON_14 : Hid ((w14).ownsRow w.heap.size 9 1 (.slice oN n1 pN) n1 (xs.map Value.string)) := by show World.ownsRow _ _ _ _ _ _ _; rw [hW14]; exact owns_same HON_13.out (fun g hg => heap_setCell_other _ _ g _ (own_ne HON_13.out HBv2_13.out (by decide) g hg))
  have HOV_14 : Hid ((w14).ownsRow w.heap.size 9 1 (.slice oV n2 pV) n2 (ys.map Value.string)) := by show World.ownsRow _ _ _ _ _ _ _; rw [hW14]; exact owns_same HOV_13.out (fun g hg => heap_setCell_other _ _ g _ (own_ne HOV_13.out HBv2_13.out (by decide) g hg))
  have HOF_14 : Hid ((w14).ownsRow w.heap.size 74 2 (.slice oF n3 pF) n3 (flatF fs)) := by show World.ownsRow _ _ _ _ _ _ _; rw [hW14]; exact owns_same HOF_13.out (fun g hg => heap_setCell_other _ _ g _ (own_ne HOF_13.out HBv2_13.out (by decide) g hg))
  have HBv1_14 : Hid ((w14).heap[qv1]? = some (.cells #[.string p, .slice a1 n1 c1, .slice a2 n2 c2, .int .i64 st, .slice a3 n3 c3, .string b, .int .i64 t] 54)) := by show _ = _; rw [hW14, heap_setCell_other _ _ _ _ HNv1v2.out]; exact HBv1_13.out
  have HBv3_14 : Hid ((w14).heap[qv3]? = some (.cells #[.string p, .slice oN n1 pN, .slice oV n2 pV, .int .i64 st, .slice oF n3 pF, .string b, .int .i64 t] 31)) := by show _ = _; rw [hW14, heap_setCell_other _ _ _ _ HNv2v3.out.symm]; exact HBv3_13.out
  have HBv2_14 : Hid ((w14).heap[qv2]? = some (.cells #[.string p, .slice none 0 0, .slice none 0 0, .int .i64 0, .slice none 0 0, .string ⟨#[]⟩, .int .i64 0] 31)) := by show _ = _; rw [hW14]; have h := heap_set _ _ 0 _ _ _ (.string p) HBv2_13.out; simpa using h
  clear hb13 HON_13 HOV_13 HOF_13 HBv1_13 HBv2_13 HBv3_13 hW14
  obtain ⟨w15, hW15⟩ : ∃ W, W = (w14).setCell ⟨qv2, 1, none⟩ (.slice oN n1 pN) := ⟨_, rfl⟩
  rw [← hW15]
  have hb15 : Below w.heap.size w (w15) := by rw [hW15]; exact (hb14.setCell (p := ⟨qv2, 1, none⟩) HGv2.out _)
  have HON_15 : Hid ((w15).ownsRow w.heap.size 9 1 (.slice oN n1 pN) n1 (xs.map Value.string)) := by show World.ownsRow _ _ _ _ _ _ _; rw [hW15]; exact owns_same HON_14.out (fun g hg => heap_setCell_other _ _ g _ (own_ne HON_14.out HBv2_14.out (by decide) g hg))
  have HOV_15 : Hid ((w15).ownsRow w.heap.size 9 1 (.slice oV n2 pV) n2 (ys.map Value.string)) := by show World.ownsRow _ _ _ _ _ _ _; rw [hW15]; exact owns_same HOV_14.out (fun g hg => heap_setCell_other _ _ g _ (own_ne HOV_14.out HBv2_14.out (by decide) g hg))
  have HOF_15 : Hid ((w15).ownsRow w.heap.size 74 2 (.slice oF n3 pF) n3 (flatF fs)) := by show World.ownsRow _ _ _ _ _ _ _; rw [hW15]; exact owns_same HOF_14.out (fun g hg => heap_setCell_other _ _ g _ (own_ne HOF_14.out HBv2_14.out (by decide) g hg))
  have HBv1_15 : Hid ((w15).heap[qv1]? = some (.cells #[.string p, .slice a1 n1 c1, .slice a2 n2 c2, .int .i64 st, .slice a3 n3 c3, .string b, .int .i64 t] 54)) := by show _ = _; rw [hW15, heap_setCell_other _ _ _ _ HNv1v2.out]; exact HBv1_14.out
  have HBv3_15 : Hid ((w15).heap[qv3]? = some (.cells #[.string p, .slice oN n1 pN, .slice oV n2 pV, .int .i64 st, .slice oF n3 pF, .string b, .int .i64 t] 31)) := by show _ = _; rw [hW15, heap_setCell_other _ _ _ _ HNv2v3.out.symm]; exact HBv3_14.out
  have HBv2_15 : Hid ((w15).heap[qv2]? = some (.cells #[.string p, .slice oN n1 pN, .slice none 0 0, .int .i64 0, .slice none 0 0, .string ⟨#[]⟩, .int .i64 0] 31)) := by show _ = _; rw [hW15]; have h := heap_set _ _ 1 _ _ _ (.slice oN n1 pN) HBv2_14.out; simpa using h
  clear hb14 HON_14 HOV_14 HOF_14 HBv1_14 HBv2_14 HBv3_14 hW15
  obtain ⟨w16, hW16⟩ : ∃ W, W = (w15).setCell ⟨qv2, 2, none⟩ (.slice oV n2 pV) := ⟨_, rfl⟩
  rw [← hW16]
  have hb16 : Below w.heap.size w (w16) := by rw [hW16]; exact (hb15.setCell (p := ⟨qv2, 2, none⟩) HGv2.out _)
  have HON_16 : Hid ((w16).ownsRow w.heap.size 9 1 (.slice oN n1 pN) n1 (xs.map Value.string)) := by show World.ownsRow _ _ _ _ _ _ _; rw [hW16]; exact owns_same HON_15.out (fun g hg => heap_setCell_other _ _ g _ (own_ne HON_15.out HBv2_15.out (by decide) g hg))
  have HOV_16 : Hid ((w16).ownsRow w.heap.size 9 1 (.slice oV n2 pV) n2 (ys.map Value.string)) := by show World.ownsRow _ _ _ _ _ _ _; rw [hW16]; exact owns_same HOV_15.out (fun g hg => heap_setCell_other _ _ g _ (own_ne HOV_15.out HBv2_15.out (by decide) g hg))
  have HOF_16 : Hid ((w16).ownsRow w.heap.size 74 2 (.slice oF n3 pF) n3 (flatF fs)) := by show World.ownsRow _ _ _ _ _ _ _; rw [hW16]; exact owns_same HOF_15.out (fun g hg => heap_setCell_other _ _ g _ (own_ne HOF_15.out HBv2_15.out (by decide) g hg))
  have HBv1_16 : Hid ((w16).heap[qv1]? = some (.cells #[.string p, .slice a1 n1 c1, .slice a2 n2 c2, .int .i64 st, .slice a3 n3 c3, .string b, .int .i64 t] 54)) := by show _ = _; rw [hW16, heap_setCell_other _ _ _ _ HNv1v2.out]; exact HBv1_15.out
  have HBv3_16 : Hid ((w16).heap[qv3]? = some (.cells #[.string p, .slice oN n1 pN, .slice oV n2 pV, .int .i64 st, .slice oF n3 pF, .string b, .int .i64 t] 31)) := by show _ = _; rw [hW16, heap_setCell_other _ _ _ _ HNv2v3.out.symm]; exact HBv3_15.out
  have HBv2_16 : Hid ((w16).heap[qv2]? = some (.cells #[.string p, .slice oN n1 pN, .slice oV n2 pV, .int .i64 0, .slice none 0 0, .string ⟨#[]⟩, .int .i64 0] 31)) := by show _ = _; rw [hW16]; have h := heap_set _ _ 2 _ _ _ (.slice oV n2 pV) HBv2_15.out; simpa using h
  clear hb15 HON_15 HOV_15 HOF_15 HBv1_15 HBv2_15 HBv3_15 hW16
  obtain ⟨w17, hW17⟩ : ∃ W, W = (w16).setCell ⟨qv2, 3, none⟩ (.int .i64 st) := ⟨_, rfl⟩
  rw [← hW17]
  have hb17 : Below w.heap.size w (w17) := by rw [hW17]; exact (hb16.setCell (p := ⟨qv2, 3, none⟩) HGv2.out _)
  have HON_17 : Hid ((w17).ownsRow w.heap.size 9 1 (.slice oN n1 pN) n1 (xs.map Value.string)) := by show World.ownsRow _ _ _ _ _ _ _; rw [hW17]; exact owns_same HON_16.out (fun g hg => heap_setCell_other _ _ g _ (own_ne HON_16.out HBv2_16.out (by decide) g hg))
  have HOV_17 : Hid ((w17).ownsRow w.heap.size 9 1 (.slice oV n2 pV) n2 (ys.map Value.string)) := by show World.ownsRow _ _ _ _ _ _ _; rw [hW17]; exact owns_same HOV_16.out (fun g hg => heap_setCell_other _ _ g _ (own_ne HOV_16.out HBv2_16.out (by decide) g hg))
  have HOF_17 : Hid ((w17).ownsRow w.heap.size 74 2 (.slice oF n3 pF) n3 (flatF fs)) := by show World.ownsRow _ _ _ _ _ _ _; rw [hW17]; exact owns_same HOF_16.out (fun g hg => heap_setCell_other _ _ g _ (own_ne HOF_16.out HBv2_16.out (by decide) g hg))
  have HBv1_17 : Hid ((w17).heap[qv1]? = some (.cells #[.string p, .slice a1 n1 c1, .slice a2 n2 c2, .int .i64 st, .slice a3 n3 c3, .string b, .int .i64 t] 54)) := by show _ = _; rw [hW17, heap_setCell_other _ _ _ _ HNv1v2.out]; exact HBv1_16.out
  have HBv3_17 : Hid ((w17).heap[qv3]? = some (.cells #[.string p, .slice oN n1 pN, .slice oV n2 pV, .int .i64 st, .slice oF n3 pF, .string b, .int .i64 t] 31)) := by show _ = _; rw [hW17, heap_setCell_other _ _ _ _ HNv2v3.out.symm]; exact HBv3_16.out
  have HBv2_17 : Hid ((w17).heap[qv2]? = some (.cells #[.string p, .slice oN n1 pN, .slice oV n2 pV, .int .i64 st, .slice none 0 0, .string ⟨#[]⟩, .int .i64 0] 31)) := by show _ = _; rw [hW17]; have h := heap_set _ _ 3 _ _ _ (.int .i64 st) HBv2_16.out; simpa using h
  clear hb16 HON_16 HOV_16 HOF_16 HBv1_16 HBv2_16 HBv3_16 hW17
  obtain ⟨w18, hW18⟩ : ∃ W, W = (w17).setCell ⟨qv2, 4, none⟩ (.slice oF n3 pF) := ⟨_, rfl⟩
  rw [← hW18]
  have hb18 : Below w.heap.size w (w18) := by rw [hW18]; exact (hb17.setCell (p := ⟨qv2, 4, none⟩) HGv2.out _)
  have HON_18 : Hid ((w18).ownsRow w.heap.size 9 1 (.slice oN n1 pN) n1 (xs.map Value.string)) := by show World.ownsRow _ _ _ _ _ _ _; rw [hW18]; exact owns_same HON_17.out (fun g hg => heap_setCell_other _ _ g _ (own_ne HON_17.out HBv2_17.out (by decide) g hg))
  have HOV_18 : Hid ((w18).ownsRow w.heap.size 9 1 (.slice oV n2 pV) n2 (ys.map Value.string)) := by show World.ownsRow _ _ _ _ _ _ _; rw [hW18]; exact owns_same HOV_17.out (fun g hg => heap_setCell_other _ _ g _ (own_ne HOV_17.out HBv2_17.out (by decide) g hg))
  have HOF_18 : Hid ((w18).ownsRow w.heap.size 74 2 (.slice oF n3 pF) n3 (flatF fs)) := by show World.ownsRow _ _ _ _ _ _ _; rw [hW18]; exact owns_same HOF_17.out (fun g hg => heap_setCell_other _ _ g _ (own_ne HOF_17.out HBv2_17.out (by decide) g hg))
  have HBv1_18 : Hid ((w18).heap[qv1]? = some (.cells #[.string p, .slice a1 n1 c1, .slice a2 n2 c2, .int .i64 st, .slice a3 n3 c3, .string b, .int .i64 t] 54)) := by show _ = _; rw [hW18, heap_setCell_other _ _ _ _ HNv1v2.out]; exact HBv1_17.out
  have HBv3_18 : Hid ((w18).heap[qv3]? = some (.cells #[.string p, .slice oN n1 pN, .slice oV n2 pV, .int .i64 st, .slice oF n3 pF, .string b, .int .i64 t] 31)) := by show _ = _; rw [hW18, heap_setCell_other _ _ _ _ HNv2v3.out.symm]; exact HBv3_17.out
  have HBv2_18 : Hid ((w18).heap[qv2]? = some (.cells #[.string p, .slice oN n1 pN, .slice oV n2 pV, .int .i64 st, .slice oF n3 pF, .string ⟨#[]⟩, .int .i64 0] 31)) := by show _ = _; rw [hW18]; have h := heap_set _ _ 4 _ _ _ (.slice oF n3 pF) HBv2_17.out; simpa using h
  clear hb17 HON_17 HOV_17 HOF_17 HBv1_17 HBv2_17 HBv3_17 hW18
  obtain ⟨w19, hW19⟩ : ∃ W, W = (w18).setCell ⟨qv2, 5, none⟩ (.string b) := ⟨_, rfl⟩
  rw [← hW19]
  have hb19 : Below w.heap.size w (w19) := by rw [hW19]; exact (hb18.setCell (p := ⟨qv2, 5, none⟩) HGv2.out _)
  have HON_19 : Hid ((w19).ownsRow w.heap.size 9 1 (.slice oN n1 pN) n1 (xs.map Value.string)) := by show World.ownsRow _ _ _ _ _ _ _; rw [hW19]; exact owns_same HON_18.out (fun g hg => heap_setCell_other _ _ g _ (own_ne HON_18.out HBv2_18.out (by decide) g hg))
  have HOV_19 : Hid ((w19).ownsRow w.heap.size 9 1 (.slice oV n2 pV) n2 (ys.map Value.string)) := by show World.ownsRow _ _ _ _ _ _ _; rw [hW19]; exact owns_same HOV_18.out (fun g hg => heap_setCell_other _ _ g _ (own_ne HOV_18.out HBv2_18.out (by decide) g hg))
  have HOF_19 : Hid ((w19).ownsRow w.heap.size 74 2 (.slice oF n3 pF) n3 (flatF fs)) := by show World.ownsRow _ _ _ _ _ _ _; rw [hW19]; exact owns_same HOF_18.out (fun g hg => heap_setCell_other _ _ g _ (own_ne HOF_18.out HBv2_18.out (by decide) g hg))
  have HBv1_19 : Hid ((w19).heap[qv1]? = some (.cells #[.string p, .slice a1 n1 c1, .slice a2 n2 c2, .int .i64 st, .slice a3 n3 c3, .string b, .int .i64 t] 54)) := by show _ = _; rw [hW19, heap_setCell_other _ _ _ _ HNv1v2.out]; exact HBv1_18.out
  have HBv3_19 : Hid ((w19).heap[qv3]? = some (.cells #[.string p, .slice oN n1 pN, .slice oV n2 pV, .int .i64 st, .slice oF n3 pF, .string b, .int .i64 t] 31)) := by show _ = _; rw [hW19, heap_setCell_other _ _ _ _ HNv2v3.out.symm]; exact HBv3_18.out
  have HBv2_19 : Hid ((w19).heap[qv2]? = some (.cells #[.string p, .slice oN n1 pN, .slice oV n2 pV, .int .i64 st, .slice oF n3 pF, .string b, .int .i64 0] 31)) := by show _ = _; rw [hW19]; have h := heap_set _ _ 5 _ _ _ (.string b) HBv2_18.out; simpa using h
  clear hb18 HON_18 HOV_18 HOF_18 HBv1_18 HBv2_18 HBv3_18 hW19
  obtain ⟨w20, hW20⟩ : ∃ W, W = (w19).setCell ⟨qv2, 6, none⟩ (.int .i64 t) := ⟨_, rfl⟩
  rw [← hW20]
  have hb20 : Below w.heap.size w (w20) := by rw [hW20]; exact (hb19.setCell (p := ⟨qv2, 6, none⟩) HGv2.out _)
  have HON_20 : Hid ((w20).ownsRow w.heap.size 9 1 (.slice oN n1 pN) n1 (xs.map Value.string)) := by show World.ownsRow _ _ _ _ _ _ _; rw [hW20]; exact owns_same HON_19.out (fun g hg => heap_setCell_other _ _ g _ (own_ne HON_19.out HBv2_19.out (by decide) g hg))
  have HOV_20 : Hid ((w20).ownsRow w.heap.size 9 1 (.slice oV n2 pV) n2 (ys.map Value.string)) := by show World.ownsRow _ _ _ _ _ _ _; rw [hW20]; exact owns_same HOV_19.out (fun g hg => heap_setCell_other _ _ g _ (own_ne HOV_19.out HBv2_19.out (by decide) g hg))
  have HOF_20 : Hid ((w20).ownsRow w.heap.size 74 2 (.slice oF n3 pF) n3 (flatF fs)) := by show World.ownsRow _ _ _ _ _ _ _; rw [hW20]; exact owns_same HOF_19.out (fun g hg => heap_setCell_other _ _ g _ (own_ne HOF_19.out HBv2_19.out (by decide) g hg))
  have HBv1_20 : Hid ((w20).heap[qv1]? = some (.cells #[.string p, .slice a1 n1 c1, .slice a2 n2 c2, .int .i64 st, .slice a3 n3 c3, .string b, .int .i64 t] 54)) := by show _ = _; rw [hW20, heap_setCell_other _ _ _ _ HNv1v2.out]; exact HBv1_19.out
  have HBv3_20 : Hid ((w20).heap[qv3]? = some (.cells #[.string p, .slice oN n1 pN, .slice oV n2 pV, .int .i64 st, .slice oF n3 pF, .string b, .int .i64 t] 31)) := by show _ = _; rw [hW20, heap_setCell_other _ _ _ _ HNv2v3.out.symm]; exact HBv3_19.out
  have HBv2_20 : Hid ((w20).heap[qv2]? = some (.cells #[.string p, .slice oN n1 pN, .slice oV n2 pV, .int .i64 st, .slice oF n3 pF, .string b, .int .i64 t] 31)) := by show _ = _; rw [hW20]; have h := heap_set _ _ 6 _ _ _ (.int .i64 t) HBv2_19.out; simpa using h
  clear hb19 HON_19 HOV_19 HOF_19 HBv1_19 HBv2_19 HBv3_19 hW20
  have kv2_0 : (w20).cell? ⟨qv2, 0, none⟩ = some (.string p) := (cell_of HBv2_20.out 0).trans rfl
  have kv2_1 : (w20).cell? ⟨qv2, 1, none⟩ = some (.slice oN n1 pN) := (cell_of HBv2_20.out 1).trans rfl
  have kv2_2 : (w20).cell? ⟨qv2, 2, none⟩ = some (.slice oV n2 pV) := (cell_of HBv2_20.out 2).trans rfl
  have kv2_3 : (w20).cell? ⟨qv2, 3, none⟩ = some (.int .i64 st) := (cell_of HBv2_20.out 3).trans rfl
  have kv2_4 : (w20).cell? ⟨qv2, 4, none⟩ = some (.slice oF n3 pF) := (cell_of HBv2_20.out 4).trans rfl
  have kv2_5 : (w20).cell? ⟨qv2, 5, none⟩ = some (.string b) := (cell_of HBv2_20.out 5).trans rfl
  have kv2_6 : (w20).cell? ⟨qv2, 6, none⟩ = some (.int .i64 t) := (cell_of HBv2_20.out 6).trans rfl
  refine bodyPost_ret (v := .agg #[.string p, .slice oN n1 pN, .slice oV n2 pV, .int .i64 st, .slice oF n3 pF, .string b, .int .i64 t]) (by simp [results, Tryz.results24, go_sem, kv2_0, kv2_1, kv2_2, kv2_3, kv2_4, kv2_5, kv2_6]) rfl ?_
  exact ⟨_, _, _, rfl, ⟨HON_20.out, HOV_20.out, HOF_20.out, fun g hg e => by have h1 := LOV.out g e; have h2 := HIN.out g hg; have := HM6.out; have := HM7.out; omega⟩, hb20⟩

theorem argUp {w : World} {B B' : Nat} {a : Option Addr} {n : Nat} {fs : List (ByteArray × ByteArray)} (h : ArgF w B a n fs) (hB : B ≤ B') : ArgF w B' a n fs :=
  ⟨h.len, fun i hi => by
    obtain ⟨b, off, h1, h2, h3⟩ := h.get i hi
    exact ⟨b, off, h1, Nat.lt_of_lt_of_le h2 hB, h3⟩⟩
/-- An object's measure: negative, or the room that is left of L. -/
def SzObj (L : Int) (p : ByteArray) (n1 : Nat) (xs : List ByteArray) (n2 : Nat) (ys : List ByteArray) (n3 : Nat) (fs : List (ByteArray × ByteArray)) (b : ByteArray) (w : World) (e : Ending) (w' : World) : Prop :=
  ∃ r : Int, e = .returned (.int .i64 r) ∧ r ≤ L ∧ (0 ≤ r → r + (n1 : Int) + (n2 : Int) + (n3 : Int) ≤ L ∧ (p.size ≤ 1048576 ∧ b.size ≤ 1048576) ∧ (n1 ≤ 1048576 ∧ ∀ i, i < n1 → (textAt xs i).size ≤ 1048576) ∧ (n2 ≤ 1048576 ∧ ∀ i, i < n2 → (textAt ys i).size ≤ 1048576) ∧ n3 ≤ 1048576 ∧ szTo fs n3 ≤ 1048576) ∧ Below w.heap.size w w'

set_option maxHeartbeats 4000000 in
set_option maxRecDepth 100000 in
theorem szObj_any (L : Int) (hL0 : 0 ≤ L) (hL1 : L ≤ 1048576) (p : ByteArray) (a1 : Option Addr) (n1 c1 : Nat) (xs : List ByteArray) (a2 : Option Addr) (n2 c2 : Nat) (ys : List ByteArray) (st : Int) (a3 : Option Addr) (n3 c3 : Nat) (fs : List (ByteArray × ByteArray)) (b : ByteArray) (t : Int) (B : Nat) (w : World) (h1 : ArgT w B a1 n1 xs) (h2 : ArgT w B a2 n2 ys) (h3 : ArgF w B a3 n3 fs) (hB : B ≤ w.heap.size) (hn1 : n1 ≤ maxLen) (hn2 : n2 ≤ maxLen) (hn3 : n3 ≤ maxLen) (hs1 : ∀ i, i < n1 → (textAt xs i).size ≤ maxLen) (hs2 : ∀ i, i < n2 → (textAt ys i).size ≤ maxLen) (hs3 : WalkF n3 fs) (hp : p.size ≤ maxLen) (hx : b.size ≤ maxLen) :
    Calls Tryz.prog 22 #[.agg #[.string p, .slice a1 n1 c1, .slice a2 n2 c2, .int .i64 st, .slice a3 n3 c3, .string b, .int .i64 t], .int .i64 L] w fun e w' => SzObj L p n1 xs n2 ys n3 fs b w e w' := by
  have HA1 : Hid (∀ W, Below w.heap.size w W → ArgT W B a1 n1 xs) := fun W h => h1.below (h.mono hB)
  have HA2 : Hid (∀ W, Below w.heap.size w W → ArgT W B a2 n2 ys) := fun W h => h2.below (h.mono hB)
  have HA3 : Hid (∀ W, Below w.heap.size w W → ArgF W B a3 n3 fs) := fun W h => h3.below (h.mono hB)
  have HBB : Hid (∀ W, Below w.heap.size w W → B ≤ W.heap.size) := fun W h => Nat.le_trans hB h.size
  clear h1 h2 h3
  have HN1 : Hid (n1 ≤ maxLen) := hn1
  have HN2 : Hid (n2 ≤ maxLen) := hn2
  have HN3 : Hid (n3 ≤ maxLen) := hn3
  have HS1 : Hid (∀ i, i < n1 → (textAt xs i).size ≤ maxLen) := hs1
  have HS2 : Hid (∀ i, i < n2 → (textAt ys i).size ≤ maxLen) := hs2
  have HS3 : Hid (WalkF n3 fs) := hs3
  have HX : Hid (b.size ≤ maxLen) := hx
  unfold maxLen at hp
  clear hs1 hs2 hs3 hn1 hn2 hn3 hx
  have hb0 : Below w.heap.size w w := Below.refl _ _
  go_enter Tryz.func22, Tryz.ntmps22
  go_upto_region 1 with fail
  obtain ⟨qv1, hqv1⟩ : ∃ q, q = (w).heap.size := ⟨_, rfl⟩
  obtain ⟨w1, hW1⟩ : ∃ W, W = (w).alloc (.cells #[.string p, .slice a1 n1 c1, .slice a2 n2 c2, .int .i64 st, .slice a3 n3 c3, .string b, .int .i64 t] 54) := ⟨_, rfl⟩
  have hz1 : (w).heap.size = qv1 := hqv1.symm
  first | rw [← hW1, ← hqv1] | rw [← hW1]
  have hs1 : w1.heap.size = qv1 + 1 := by rw [hW1, ← hz1]; simp
  have bw : Below (w).heap.size (w) w1 := by rw [hW1]; exact (Below.refl _ _).alloc (Nat.le_refl _) _
  have hb1 : Below w.heap.size w (w1) := hb0.trans (bw.mono hb0.size)
  have HBv1_1 : Hid ((w1).heap[qv1]? = some (.cells #[.string p, .slice a1 n1 c1, .slice a2 n2 c2, .int .i64 st, .slice a3 n3 c3, .string b, .int .i64 t] 54)) := by show _ = _; rw [hW1, ← hz1]; exact heap_alloc_new _ _
  clear hb0 bw hW1 hz1
  clear hs1 hqv1
  have cv1_0 : (w1).cell? ⟨qv1, 0, none⟩ = some (.string p) := (cell_of HBv1_1.out 0).trans rfl
  by_cases hc1 : (L - (p.size : Int)) < 0
  · go_wp2_with fail
    go_ret
    exact ⟨-1, rfl, by omega, fun h => absurd h (by omega), hb1⟩
  · have cv1_1 : (w1).cell? ⟨qv1, 1, none⟩ = some (.slice a1 n1 c1) := (cell_of HBv1_1.out 1).trans rfl
    go_wp2_with fail
    refine (szStringS_exact (L - (p.size : Int)) (by omega) (by omega) B a1 n1 c1 xs _ (HA1.out _ hb1) (HBB.out _ hb1) HN1.out HS1.out).mono ?_
    rintro e w2 ⟨r2, rfl, hlr2, hrr2, bw⟩
    have hb2 : Below w.heap.size w (w2) := hb1.trans (bw.mono hb1.size)
    have HBv1_2 : Hid ((w2).heap[qv1]? = some (.cells #[.string p, .slice a1 n1 c1, .slice a2 n2 c2, .int .i64 st, .slice a3 n3 c3, .string b, .int .i64 t] 54)) := blk_below HBv1_1.out bw
    clear hb1 HBv1_1 bw
    clear cv1_0 cv1_1
    by_cases hc3 : r2 < 0
    · clear hrr2
      go_wp2_with fail
      go_ret
      exact ⟨-1, rfl, by omega, fun h => absurd h (by omega), hb2⟩
    · obtain ⟨her2, hnr2, hzr2⟩ := hrr2 (by omega)
      have HZr2 := (show Hid _ from hzr2)
      clear hrr2 hzr2
      have cv1_2 : (w2).cell? ⟨qv1, 2, none⟩ = some (.slice a2 n2 c2) := (cell_of HBv1_2.out 2).trans rfl
      go_wp2_with fail
      refine (szStringS_exact r2 (by omega) (by omega) B a2 n2 c2 ys _ (HA2.out _ hb2) (HBB.out _ hb2) HN2.out HS2.out).mono ?_
      rintro e w3 ⟨r4, rfl, hlr4, hrr4, bw⟩
      have hb3 : Below w.heap.size w (w3) := hb2.trans (bw.mono hb2.size)
      have HBv1_3 : Hid ((w3).heap[qv1]? = some (.cells #[.string p, .slice a1 n1 c1, .slice a2 n2 c2, .int .i64 st, .slice a3 n3 c3, .string b, .int .i64 t] 54)) := blk_below HBv1_2.out bw
      clear hb2 HBv1_2 bw
      clear cv1_2
      by_cases hc5 : r4 < 0
      · clear hrr4
        go_wp2_with fail
        go_ret
        exact ⟨-1, rfl, by omega, fun h => absurd h (by omega), hb3⟩
      · obtain ⟨her4, hnr4, hzr4⟩ := hrr4 (by omega)
        have HZr4 := (show Hid _ from hzr4)
        clear hrr4 hzr4
        have cv1_3 : (w3).cell? ⟨qv1, 3, none⟩ = some (.int .i64 st) := (cell_of HBv1_3.out 3).trans rfl
        have cv1_4 : (w3).cell? ⟨qv1, 4, none⟩ = some (.slice a3 n3 c3) := (cell_of HBv1_3.out 4).trans rfl
        have cv1_5 : (w3).cell? ⟨qv1, 5, none⟩ = some (.string b) := (cell_of HBv1_3.out 5).trans rfl
        go_wp2_with fail
        refine (szResp_room r4 (by omega) (by omega) st a3 n3 c3 b fs _ (argUp (HA3.out _ hb3) (HBB.out _ hb3)) HN3.out HS3.out HX.out).mono ?_
        rintro e w4 ⟨r6, rfl, hlr6, hrr6, bw⟩
        have hb4 : Below w.heap.size w (w4) := hb3.trans (bw.mono hb3.size)
        have HBv1_4 : Hid ((w4).heap[qv1]? = some (.cells #[.string p, .slice a1 n1 c1, .slice a2 n2 c2, .int .i64 st, .slice a3 n3 c3, .string b, .int .i64 t] 54)) := blk_below HBv1_3.out bw
        clear hb3 HBv1_3 bw
        clear cv1_3 cv1_4 cv1_5
        by_cases hc7 : r6 < 0
        · clear hrr6
          go_wp2_with fail
          go_ret
          exact ⟨-1, rfl, by omega, fun h => absurd h (by omega), hb4⟩
        · obtain ⟨her6, hxr6, hnr6, hzr6⟩ := hrr6 (by omega)
          clear hrr6
          go_wp2_with fail
          go_ret
          exact ⟨_, rfl, by omega, fun _ => ⟨by omega, ⟨by omega, by omega⟩, ⟨by omega, HZr2.out⟩, ⟨by omega, HZr4.out⟩, by omega, by omega⟩, hb4⟩

set_option maxHeartbeats 4000000 in
set_option maxRecDepth 100000 in
theorem eqObj_any (p : ByteArray) (n1 : Nat) (xs : List ByteArray) (n2 : Nat) (ys : List ByteArray) (st : Int) (n3 : Nat) (fs : List (ByteArray × ByteArray)) (b : ByteArray) (t : Int) (v1 v2 v3 u1 u2 u3 : Value) (B1 B2 : Nat) (w : World) (hx : ObjO w B1 v1 n1 xs v2 n2 ys v3 n3 fs) (hy : ObjO w B2 u1 n1 xs u2 n2 ys u3 n3 fs) (hn1 : n1 ≤ 2000000) (hn2 : n2 ≤ 2000000) (hn3 : n3 ≤ 2000000) :
    Calls Tryz.prog 27 #[.agg #[.string p, v1, v2, .int .i64 st, v3, .string b, .int .i64 t], .agg #[.string p, u1, u2, .int .i64 st, u3, .string b, .int .i64 t]] w fun e w' => e = .returned (.bool true) ∧ Below w.heap.size w w' := by
  obtain ⟨oNx, pNx, rfl⟩ := slice_of_owns hx.names
  obtain ⟨oVx, pVx, rfl⟩ := slice_of_owns hx.vals
  obtain ⟨oFx, pFx, rfl⟩ := slice_of_owns hx.flds
  have HONx_0 : Hid ((w).ownsRow B1 9 1 (.slice oNx n1 pNx) n1 (xs.map Value.string)) := hx.names
  have HOVx_0 : Hid ((w).ownsRow B1 9 1 (.slice oVx n2 pVx) n2 (ys.map Value.string)) := hx.vals
  have HOFx_0 : Hid ((w).ownsRow B1 74 2 (.slice oFx n3 pFx) n3 (flatF fs)) := hx.flds
  clear hx
  obtain ⟨oNy, pNy, rfl⟩ := slice_of_owns hy.names
  obtain ⟨oVy, pVy, rfl⟩ := slice_of_owns hy.vals
  obtain ⟨oFy, pFy, rfl⟩ := slice_of_owns hy.flds
  have HONy_0 : Hid ((w).ownsRow B2 9 1 (.slice oNy n1 pNy) n1 (xs.map Value.string)) := hy.names
  have HOVy_0 : Hid ((w).ownsRow B2 9 1 (.slice oVy n2 pVy) n2 (ys.map Value.string)) := hy.vals
  have HOFy_0 : Hid ((w).ownsRow B2 74 2 (.slice oFy n3 pFy) n3 (flatF fs)) := hy.flds
  clear hy
  have hpp : (p.toList != p.toList) = false := by simp
  have htt : (t != t) = false := by simp
  have hb0 : Below w.heap.size w w := Below.refl _ _
  go_enter Tryz.func27, Tryz.ntmps27
  go_upto_region 1 with fail
  obtain ⟨qv1, hqv1⟩ : ∃ q, q = (w).heap.size := ⟨_, rfl⟩
  obtain ⟨w1, hW1⟩ : ∃ W, W = (w).alloc (.cells #[.string p, .slice oNx n1 pNx, .slice oVx n2 pVx, .int .i64 st, .slice oFx n3 pFx, .string b, .int .i64 t] 31) := ⟨_, rfl⟩
  have hz1 : (w).heap.size = qv1 := hqv1.symm
  first | rw [← hW1, ← hqv1] | rw [← hW1]
  have hs1 : w1.heap.size = qv1 + 1 := by rw [hW1, ← hz1]; simp
  have bw : Below (w).heap.size (w) w1 := by rw [hW1]; exact (Below.refl _ _).alloc (Nat.le_refl _) _
  have hb1 : Below w.heap.size w (w1) := hb0.trans (bw.mono hb0.size)
  have HONx_1 : Hid ((w1).ownsRow B1 9 1 (.slice oNx n1 pNx) n1 (xs.map Value.string)) := owns_below HONx_0.out bw (fun g hg => owns_lt HONx_0.out hg)
  have HOVx_1 : Hid ((w1).ownsRow B1 9 1 (.slice oVx n2 pVx) n2 (ys.map Value.string)) := owns_below HOVx_0.out bw (fun g hg => owns_lt HOVx_0.out hg)
  have HOFx_1 : Hid ((w1).ownsRow B1 74 2 (.slice oFx n3 pFx) n3 (flatF fs)) := owns_below HOFx_0.out bw (fun g hg => owns_lt HOFx_0.out hg)
  have HONy_1 : Hid ((w1).ownsRow B2 9 1 (.slice oNy n1 pNy) n1 (xs.map Value.string)) := owns_below HONy_0.out bw (fun g hg => owns_lt HONy_0.out hg)
  have HOVy_1 : Hid ((w1).ownsRow B2 9 1 (.slice oVy n2 pVy) n2 (ys.map Value.string)) := owns_below HOVy_0.out bw (fun g hg => owns_lt HOVy_0.out hg)
  have HOFy_1 : Hid ((w1).ownsRow B2 74 2 (.slice oFy n3 pFy) n3 (flatF fs)) := owns_below HOFy_0.out bw (fun g hg => owns_lt HOFy_0.out hg)
  have HBv1_1 : Hid ((w1).heap[qv1]? = some (.cells #[.string p, .slice oNx n1 pNx, .slice oVx n2 pVx, .int .i64 st, .slice oFx n3 pFx, .string b, .int .i64 t] 31)) := by show _ = _; rw [hW1, ← hz1]; exact heap_alloc_new _ _
  clear hb0 HONx_0 HOVx_0 HOFx_0 HONy_0 HOVy_0 HOFy_0 bw hW1 hz1
  obtain ⟨qv2, hqv2⟩ : ∃ q, q = qv1 + 1 := ⟨_, rfl⟩
  obtain ⟨w2, hW2⟩ : ∃ W, W = (w1).alloc (.cells #[.string p, .slice oNy n1 pNy, .slice oVy n2 pVy, .int .i64 st, .slice oFy n3 pFy, .string b, .int .i64 t] 31) := ⟨_, rfl⟩
  have hz2 : (w1).heap.size = qv2 := by rw [hqv2]; exact hs1
  first | rw [← hW2, ← hqv2] | rw [← hW2]
  have hs2 : w2.heap.size = qv2 + 1 := by rw [hW2, ← hz2]; simp
  have bw : Below (w1).heap.size (w1) w2 := by rw [hW2]; exact (Below.refl _ _).alloc (Nat.le_refl _) _
  have hb2 : Below w.heap.size w (w2) := hb1.trans (bw.mono hb1.size)
  have HONx_2 : Hid ((w2).ownsRow B1 9 1 (.slice oNx n1 pNx) n1 (xs.map Value.string)) := owns_below HONx_1.out bw (fun g hg => owns_lt HONx_1.out hg)
  have HOVx_2 : Hid ((w2).ownsRow B1 9 1 (.slice oVx n2 pVx) n2 (ys.map Value.string)) := owns_below HOVx_1.out bw (fun g hg => owns_lt HOVx_1.out hg)
  have HOFx_2 : Hid ((w2).ownsRow B1 74 2 (.slice oFx n3 pFx) n3 (flatF fs)) := owns_below HOFx_1.out bw (fun g hg => owns_lt HOFx_1.out hg)
  have HONy_2 : Hid ((w2).ownsRow B2 9 1 (.slice oNy n1 pNy) n1 (xs.map Value.string)) := owns_below HONy_1.out bw (fun g hg => owns_lt HONy_1.out hg)
  have HOVy_2 : Hid ((w2).ownsRow B2 9 1 (.slice oVy n2 pVy) n2 (ys.map Value.string)) := owns_below HOVy_1.out bw (fun g hg => owns_lt HOVy_1.out hg)
  have HOFy_2 : Hid ((w2).ownsRow B2 74 2 (.slice oFy n3 pFy) n3 (flatF fs)) := owns_below HOFy_1.out bw (fun g hg => owns_lt HOFy_1.out hg)
  have HBv1_2 : Hid ((w2).heap[qv1]? = some (.cells #[.string p, .slice oNx n1 pNx, .slice oVx n2 pVx, .int .i64 st, .slice oFx n3 pFx, .string b, .int .i64 t] 31)) := blk_below HBv1_1.out bw
  have HBv2_2 : Hid ((w2).heap[qv2]? = some (.cells #[.string p, .slice oNy n1 pNy, .slice oVy n2 pVy, .int .i64 st, .slice oFy n3 pFy, .string b, .int .i64 t] 31)) := by show _ = _; rw [hW2, ← hz2]; exact heap_alloc_new _ _
  clear hb1 HONx_1 HOVx_1 HOFx_1 HONy_1 HOVy_1 HOFy_1 HBv1_1 bw hW2 hz2
  clear hs2 hqv2 hs1 hqv1
  have cv1_0 : (w2).cell? ⟨qv1, 0, none⟩ = some (.string p) := (cell_of HBv1_2.out 0).trans rfl
  have cv2_0 : (w2).cell? ⟨qv2, 0, none⟩ = some (.string p) := (cell_of HBv2_2.out 0).trans rfl
  have cv1_1 : (w2).cell? ⟨qv1, 1, none⟩ = some (.slice oNx n1 pNx) := (cell_of HBv1_2.out 1).trans rfl
  have cv2_1 : (w2).cell? ⟨qv2, 1, none⟩ = some (.slice oNy n1 pNy) := (cell_of HBv2_2.out 1).trans rfl
  go_wp2_with fail
  refine (eqS_any _ _ n1 _ _ xs _ HONx_2.out HONy_2.out (by omega)).mono ?_
  rintro e w3 ⟨rfl, bw⟩
  have hb3 : Below w.heap.size w (w3) := hb2.trans (bw.mono hb2.size)
  have HONx_3 : Hid ((w3).ownsRow B1 9 1 (.slice oNx n1 pNx) n1 (xs.map Value.string)) := owns_below HONx_2.out bw (fun g hg => owns_lt HONx_2.out hg)
  have HOVx_3 : Hid ((w3).ownsRow B1 9 1 (.slice oVx n2 pVx) n2 (ys.map Value.string)) := owns_below HOVx_2.out bw (fun g hg => owns_lt HOVx_2.out hg)
  have HOFx_3 : Hid ((w3).ownsRow B1 74 2 (.slice oFx n3 pFx) n3 (flatF fs)) := owns_below HOFx_2.out bw (fun g hg => owns_lt HOFx_2.out hg)
  have HONy_3 : Hid ((w3).ownsRow B2 9 1 (.slice oNy n1 pNy) n1 (xs.map Value.string)) := owns_below HONy_2.out bw (fun g hg => owns_lt HONy_2.out hg)
  have HOVy_3 : Hid ((w3).ownsRow B2 9 1 (.slice oVy n2 pVy) n2 (ys.map Value.string)) := owns_below HOVy_2.out bw (fun g hg => owns_lt HOVy_2.out hg)
  have HOFy_3 : Hid ((w3).ownsRow B2 74 2 (.slice oFy n3 pFy) n3 (flatF fs)) := owns_below HOFy_2.out bw (fun g hg => owns_lt HOFy_2.out hg)
  have HBv1_3 : Hid ((w3).heap[qv1]? = some (.cells #[.string p, .slice oNx n1 pNx, .slice oVx n2 pVx, .int .i64 st, .slice oFx n3 pFx, .string b, .int .i64 t] 31)) := blk_below HBv1_2.out bw
  have HBv2_3 : Hid ((w3).heap[qv2]? = some (.cells #[.string p, .slice oNy n1 pNy, .slice oVy n2 pVy, .int .i64 st, .slice oFy n3 pFy, .string b, .int .i64 t] 31)) := blk_below HBv2_2.out bw
  clear hb2 HONx_2 HOVx_2 HOFx_2 HONy_2 HOVy_2 HOFy_2 HBv1_2 HBv2_2 bw
  clear cv1_0 cv2_0 cv1_1 cv2_1
  have cv1_2 : (w3).cell? ⟨qv1, 2, none⟩ = some (.slice oVx n2 pVx) := (cell_of HBv1_3.out 2).trans rfl
  have cv2_2 : (w3).cell? ⟨qv2, 2, none⟩ = some (.slice oVy n2 pVy) := (cell_of HBv2_3.out 2).trans rfl
  go_wp2_with fail
  refine (eqS_any _ _ n2 _ _ ys _ HOVx_3.out HOVy_3.out (by omega)).mono ?_
  rintro e w4 ⟨rfl, bw⟩
  have hb4 : Below w.heap.size w (w4) := hb3.trans (bw.mono hb3.size)
  have HONx_4 : Hid ((w4).ownsRow B1 9 1 (.slice oNx n1 pNx) n1 (xs.map Value.string)) := owns_below HONx_3.out bw (fun g hg => owns_lt HONx_3.out hg)
  have HOVx_4 : Hid ((w4).ownsRow B1 9 1 (.slice oVx n2 pVx) n2 (ys.map Value.string)) := owns_below HOVx_3.out bw (fun g hg => owns_lt HOVx_3.out hg)
  have HOFx_4 : Hid ((w4).ownsRow B1 74 2 (.slice oFx n3 pFx) n3 (flatF fs)) := owns_below HOFx_3.out bw (fun g hg => owns_lt HOFx_3.out hg)
  have HONy_4 : Hid ((w4).ownsRow B2 9 1 (.slice oNy n1 pNy) n1 (xs.map Value.string)) := owns_below HONy_3.out bw (fun g hg => owns_lt HONy_3.out hg)
  have HOVy_4 : Hid ((w4).ownsRow B2 9 1 (.slice oVy n2 pVy) n2 (ys.map Value.string)) := owns_below HOVy_3.out bw (fun g hg => owns_lt HOVy_3.out hg)
  have HOFy_4 : Hid ((w4).ownsRow B2 74 2 (.slice oFy n3 pFy) n3 (flatF fs)) := owns_below HOFy_3.out bw (fun g hg => owns_lt HOFy_3.out hg)
  have HBv1_4 : Hid ((w4).heap[qv1]? = some (.cells #[.string p, .slice oNx n1 pNx, .slice oVx n2 pVx, .int .i64 st, .slice oFx n3 pFx, .string b, .int .i64 t] 31)) := blk_below HBv1_3.out bw
  have HBv2_4 : Hid ((w4).heap[qv2]? = some (.cells #[.string p, .slice oNy n1 pNy, .slice oVy n2 pVy, .int .i64 st, .slice oFy n3 pFy, .string b, .int .i64 t] 31)) := blk_below HBv2_3.out bw
  clear hb3 HONx_3 HOVx_3 HOFx_3 HONy_3 HOVy_3 HOFy_3 HBv1_3 HBv2_3 bw
  clear cv1_2 cv2_2
  have cv1_3 : (w4).cell? ⟨qv1, 3, none⟩ = some (.int .i64 st) := (cell_of HBv1_4.out 3).trans rfl
  have cv1_4 : (w4).cell? ⟨qv1, 4, none⟩ = some (.slice oFx n3 pFx) := (cell_of HBv1_4.out 4).trans rfl
  have cv1_5 : (w4).cell? ⟨qv1, 5, none⟩ = some (.string b) := (cell_of HBv1_4.out 5).trans rfl
  have cv2_3 : (w4).cell? ⟨qv2, 3, none⟩ = some (.int .i64 st) := (cell_of HBv2_4.out 3).trans rfl
  have cv2_4 : (w4).cell? ⟨qv2, 4, none⟩ = some (.slice oFy n3 pFy) := (cell_of HBv2_4.out 4).trans rfl
  have cv2_5 : (w4).cell? ⟨qv2, 5, none⟩ = some (.string b) := (cell_of HBv2_4.out 5).trans rfl
  go_wp2_with fail
  refine (eqResp_any st _ _ b n3 _ _ fs _ (FieldsV.of_owns HOFx_4.out) (FieldsV.of_owns HOFy_4.out) (by omega)).mono ?_
  rintro e w5 ⟨rfl, bw⟩
  have hb5 : Below w.heap.size w (w5) := hb4.trans (bw.mono hb4.size)
  have HONx_5 : Hid ((w5).ownsRow B1 9 1 (.slice oNx n1 pNx) n1 (xs.map Value.string)) := owns_below HONx_4.out bw (fun g hg => owns_lt HONx_4.out hg)
  have HOVx_5 : Hid ((w5).ownsRow B1 9 1 (.slice oVx n2 pVx) n2 (ys.map Value.string)) := owns_below HOVx_4.out bw (fun g hg => owns_lt HOVx_4.out hg)
  have HOFx_5 : Hid ((w5).ownsRow B1 74 2 (.slice oFx n3 pFx) n3 (flatF fs)) := owns_below HOFx_4.out bw (fun g hg => owns_lt HOFx_4.out hg)
  have HONy_5 : Hid ((w5).ownsRow B2 9 1 (.slice oNy n1 pNy) n1 (xs.map Value.string)) := owns_below HONy_4.out bw (fun g hg => owns_lt HONy_4.out hg)
  have HOVy_5 : Hid ((w5).ownsRow B2 9 1 (.slice oVy n2 pVy) n2 (ys.map Value.string)) := owns_below HOVy_4.out bw (fun g hg => owns_lt HOVy_4.out hg)
  have HOFy_5 : Hid ((w5).ownsRow B2 74 2 (.slice oFy n3 pFy) n3 (flatF fs)) := owns_below HOFy_4.out bw (fun g hg => owns_lt HOFy_4.out hg)
  have HBv1_5 : Hid ((w5).heap[qv1]? = some (.cells #[.string p, .slice oNx n1 pNx, .slice oVx n2 pVx, .int .i64 st, .slice oFx n3 pFx, .string b, .int .i64 t] 31)) := blk_below HBv1_4.out bw
  have HBv2_5 : Hid ((w5).heap[qv2]? = some (.cells #[.string p, .slice oNy n1 pNy, .slice oVy n2 pVy, .int .i64 st, .slice oFy n3 pFy, .string b, .int .i64 t] 31)) := blk_below HBv2_4.out bw
  clear hb4 HONx_4 HOVx_4 HOFx_4 HONy_4 HOVy_4 HOFy_4 HBv1_4 HBv2_4 bw
  clear cv1_3 cv1_4 cv1_5 cv2_3 cv2_4 cv2_5
  have cv1_6 : (w5).cell? ⟨qv1, 6, none⟩ = some (.int .i64 t) := (cell_of HBv1_5.out 6).trans rfl
  have cv2_6 : (w5).cell? ⟨qv2, 6, none⟩ = some (.int .i64 t) := (cell_of HBv2_5.out 6).trans rfl
  go_wp2_with fail
  go_ret
  exact ⟨rfl, hb5⟩

set_option maxHeartbeats 4000000 in
set_option maxRecDepth 100000 in
theorem markObj_any (p : ByteArray) (n1 : Nat) (xs : List ByteArray) (n2 : Nat) (ys : List ByteArray) (st : Int) (n3 : Nat) (fs : List (ByteArray × ByteArray)) (b : ByteArray) (t : Int) (v1 v2 v3 : Value) (B : Nat) (w : World) (hx : ObjO w B v1 n1 xs v2 n2 ys v3 n3 fs) (hB : B ≤ w.heap.size) (k0 : Nat) (hk0 : 1 ≤ k0) (hk : k0 + n1 + n2 + 2 * n3 ≤ 9999998) :
    Calls Tryz.prog 29 #[.agg #[.string p, v1, v2, .int .i64 st, v3, .string b, .int .i64 t], .int .i64 (k0 : Int)] w fun e w' => e = .returned (.int .i64 (((k0 + n1 + n2 + 2 * n3) : Nat) : Int)) ∧ ObjO w' B v1 n1 (mkT k0 xs n1) v2 n2 (mkT (k0 + n1) ys n2) v3 n3 (mkG (k0 + n1 + n2) fs n3) ∧ Below B w w' ∧ (∀ g, g < w.heap.size → v1.ownBlock ≠ some g → v2.ownBlock ≠ some g → v3.ownBlock ≠ some g → w'.heap[g]? = w.heap[g]?) := by
  obtain ⟨oNx, pNx, rfl⟩ := slice_of_owns hx.names
  obtain ⟨oVx, pVx, rfl⟩ := slice_of_owns hx.vals
  obtain ⟨oFx, pFx, rfl⟩ := slice_of_owns hx.flds
  have HONx_0 : Hid ((w).ownsRow B 9 1 (.slice oNx n1 pNx) n1 (xs.map Value.string)) := hx.names
  have HOVx_0 : Hid ((w).ownsRow B 9 1 (.slice oVx n2 pVx) n2 (ys.map Value.string)) := hx.vals
  have HOFx_0 : Hid ((w).ownsRow B 74 2 (.slice oFx n3 pFx) n3 (flatF fs)) := hx.flds
  have APx : Hid (∀ j, (Value.slice oNx n1 pNx).ownBlock = some j → (Value.slice oVx n2 pVx).ownBlock ≠ some j) := hx.ne
  clear hx
  have hb0 : Below B w w := Below.refl _ _
  have HFAR_0 : Hid (∀ g, g < w.heap.size → (Value.ownBlock (.slice oNx n1 pNx)) ≠ some g → (Value.ownBlock (.slice oVx n2 pVx)) ≠ some g → (Value.ownBlock (.slice oFx n3 pFx)) ≠ some g → (w).heap[g]? = w.heap[g]?) := fun _ _ _ _ _ => rfl
  go_enter Tryz.func29, Tryz.ntmps29
  go_upto_region 1 with fail
  obtain ⟨qv1, hqv1⟩ : ∃ q, q = (w).heap.size := ⟨_, rfl⟩
  obtain ⟨w1, hW1⟩ : ∃ W, W = (w).alloc (.cells #[.string p, .slice oNx n1 pNx, .slice oVx n2 pVx, .int .i64 st, .slice oFx n3 pFx, .string b, .int .i64 t] 31) := ⟨_, rfl⟩
  have hz1 : (w).heap.size = qv1 := hqv1.symm
  first | rw [← hW1, ← hqv1] | rw [← hW1]
  have hs1 : w1.heap.size = qv1 + 1 := by rw [hW1, ← hz1]; simp
  have bw : Below (w).heap.size (w) w1 := by rw [hW1]; exact (Below.refl _ _).alloc (Nat.le_refl _) _
  have hb1 : Below B w (w1) := hb0.trans (bw.mono (Nat.le_trans hB hb0.size))
  have HONx_1 : Hid ((w1).ownsRow B 9 1 (.slice oNx n1 pNx) n1 (xs.map Value.string)) := owns_below HONx_0.out bw (fun g hg => owns_lt HONx_0.out hg)
  have HOVx_1 : Hid ((w1).ownsRow B 9 1 (.slice oVx n2 pVx) n2 (ys.map Value.string)) := owns_below HOVx_0.out bw (fun g hg => owns_lt HOVx_0.out hg)
  have HOFx_1 : Hid ((w1).ownsRow B 74 2 (.slice oFx n3 pFx) n3 (flatF fs)) := owns_below HOFx_0.out bw (fun g hg => owns_lt HOFx_0.out hg)
  have HFAR_1 : Hid (∀ g, g < w.heap.size → (Value.ownBlock (.slice oNx n1 pNx)) ≠ some g → (Value.ownBlock (.slice oVx n2 pVx)) ≠ some g → (Value.ownBlock (.slice oFx n3 pFx)) ≠ some g → (w1).heap[g]? = w.heap[g]?) := fun g hg aNx aVx aFx => (bw.block g (Nat.lt_of_lt_of_le hg hb0.size)).trans (HFAR_0.out g hg aNx aVx aFx)
  have HBv1_1 : Hid ((w1).heap[qv1]? = some (.cells #[.string p, .slice oNx n1 pNx, .slice oVx n2 pVx, .int .i64 st, .slice oFx n3 pFx, .string b, .int .i64 t] 31)) := by show _ = _; rw [hW1, ← hz1]; exact heap_alloc_new _ _
  clear hb0 HFAR_0 HONx_0 HOVx_0 HOFx_0 bw hW1 hz1
  clear hs1 hqv1
  have cv1_1 : (w1).cell? ⟨qv1, 1, none⟩ = some (.slice oNx n1 pNx) := (cell_of HBv1_1.out 1).trans rfl
  go_wp2_with fail
  refine (markTFrom_any _ n1 B xs _ HONx_1.out (Nat.le_trans hB hb1.size) (k0) (by omega) (by omega)).mono ?_
  rintro e w2 ⟨rfl, mk, bm, far⟩
  have hb2 : Below B w w2 := hb1.trans bm
  have HOVx_2 : Hid ((w2).ownsRow B 9 1 (.slice oVx n2 pVx) n2 (ys.map Value.string)) := owns_same HOVx_1.out (fun g hg => far g (owns_lt HOVx_1.out hg) (fun e => APx.out g e hg))
  have HOFx_2 : Hid ((w2).ownsRow B 74 2 (.slice oFx n3 pFx) n3 (flatF fs)) := owns_same HOFx_1.out (fun g hg => far g (owns_lt HOFx_1.out hg) (own_type_ne HOFx_1.out HONx_1.out (by decide) g hg))
  have HBv1_2 : Hid ((w2).heap[qv1]? = some (.cells #[.string p, .slice oNx n1 pNx, .slice oVx n2 pVx, .int .i64 st, .slice oFx n3 pFx, .string b, .int .i64 t] 31)) := blk_far HBv1_1.out far HONx_1.out (by decide)
  have HFAR_2 : Hid (∀ g, g < w.heap.size → (Value.ownBlock (.slice oNx n1 pNx)) ≠ some g → (Value.ownBlock (.slice oVx n2 pVx)) ≠ some g → (Value.ownBlock (.slice oFx n3 pFx)) ≠ some g → (w2).heap[g]? = w.heap[g]?) := fun g hg aNx aVx aFx => (far g (Nat.lt_of_lt_of_le hg hb1.size) aNx).trans (HFAR_1.out g hg aNx aVx aFx)
  have HONx_2 : Hid ((w2).ownsRow B 9 1 (.slice oNx n1 pNx) n1 ((mkT (k0) xs n1).map Value.string)) := mk
  clear hb1 HFAR_1 HONx_1 HOVx_1 HOFx_1 HBv1_1 mk bm far
  clear cv1_1
  have cv1_2 : (w2).cell? ⟨qv1, 2, none⟩ = some (.slice oVx n2 pVx) := (cell_of HBv1_2.out 2).trans rfl
  rw [show (((k0 : Nat) : Int) + (n1 : Int)) = ((k0 + n1 : Nat) : Int) by omega]
  go_wp2_with fail
  refine (markTFrom_any _ n2 B ys _ HOVx_2.out (Nat.le_trans hB hb2.size) (k0 + n1) (by omega) (by omega)).mono ?_
  rintro e w3 ⟨rfl, mk, bm, far⟩
  have hb3 : Below B w w3 := hb2.trans bm
  have HONx_3 : Hid ((w3).ownsRow B 9 1 (.slice oNx n1 pNx) n1 ((mkT (k0) xs n1).map Value.string)) := owns_same HONx_2.out (fun g hg => far g (owns_lt HONx_2.out hg) ((APx.out) g hg))
  have HOFx_3 : Hid ((w3).ownsRow B 74 2 (.slice oFx n3 pFx) n3 (flatF fs)) := owns_same HOFx_2.out (fun g hg => far g (owns_lt HOFx_2.out hg) (own_type_ne HOFx_2.out HOVx_2.out (by decide) g hg))
  have HBv1_3 : Hid ((w3).heap[qv1]? = some (.cells #[.string p, .slice oNx n1 pNx, .slice oVx n2 pVx, .int .i64 st, .slice oFx n3 pFx, .string b, .int .i64 t] 31)) := blk_far HBv1_2.out far HOVx_2.out (by decide)
  have HFAR_3 : Hid (∀ g, g < w.heap.size → (Value.ownBlock (.slice oNx n1 pNx)) ≠ some g → (Value.ownBlock (.slice oVx n2 pVx)) ≠ some g → (Value.ownBlock (.slice oFx n3 pFx)) ≠ some g → (w3).heap[g]? = w.heap[g]?) := fun g hg aNx aVx aFx => (far g (Nat.lt_of_lt_of_le hg hb2.size) aVx).trans (HFAR_2.out g hg aNx aVx aFx)
  have HOVx_3 : Hid ((w3).ownsRow B 9 1 (.slice oVx n2 pVx) n2 ((mkT (k0 + n1) ys n2).map Value.string)) := mk
  clear hb2 HFAR_2 HONx_2 HOVx_2 HOFx_2 HBv1_2 mk bm far
  clear cv1_2
  have cv1_3 : (w3).cell? ⟨qv1, 3, none⟩ = some (.int .i64 st) := (cell_of HBv1_3.out 3).trans rfl
  have cv1_4 : (w3).cell? ⟨qv1, 4, none⟩ = some (.slice oFx n3 pFx) := (cell_of HBv1_3.out 4).trans rfl
  have cv1_5 : (w3).cell? ⟨qv1, 5, none⟩ = some (.string b) := (cell_of HBv1_3.out 5).trans rfl
  rw [show (((k0 + n1 : Nat) : Int) + (n2 : Int)) = ((k0 + n1 + n2 : Nat) : Int) by omega]
  go_wp2_with fail
  refine (markRespFrom_any st _ b n3 B fs _ HOFx_3.out (Nat.le_trans hB hb3.size) (k0 + n1 + n2) (by omega) (by omega)).mono ?_
  rintro e w4 ⟨rfl, mk, bm, far⟩
  have hb4 : Below B w w4 := hb3.trans bm
  have HONx_4 : Hid ((w4).ownsRow B 9 1 (.slice oNx n1 pNx) n1 ((mkT (k0) xs n1).map Value.string)) := owns_same HONx_3.out (fun g hg => far g (owns_lt HONx_3.out hg) (own_type_ne HONx_3.out HOFx_3.out (by decide) g hg))
  have HOVx_4 : Hid ((w4).ownsRow B 9 1 (.slice oVx n2 pVx) n2 ((mkT (k0 + n1) ys n2).map Value.string)) := owns_same HOVx_3.out (fun g hg => far g (owns_lt HOVx_3.out hg) (own_type_ne HOVx_3.out HOFx_3.out (by decide) g hg))
  have HBv1_4 : Hid ((w4).heap[qv1]? = some (.cells #[.string p, .slice oNx n1 pNx, .slice oVx n2 pVx, .int .i64 st, .slice oFx n3 pFx, .string b, .int .i64 t] 31)) := blk_far HBv1_3.out far HOFx_3.out (by decide)
  have HFAR_4 : Hid (∀ g, g < w.heap.size → (Value.ownBlock (.slice oNx n1 pNx)) ≠ some g → (Value.ownBlock (.slice oVx n2 pVx)) ≠ some g → (Value.ownBlock (.slice oFx n3 pFx)) ≠ some g → (w4).heap[g]? = w.heap[g]?) := fun g hg aNx aVx aFx => (far g (Nat.lt_of_lt_of_le hg hb3.size) aFx).trans (HFAR_3.out g hg aNx aVx aFx)
  have HOFx_4 : Hid ((w4).ownsRow B 74 2 (.slice oFx n3 pFx) n3 (flatF (mkG (k0 + n1 + n2) fs n3))) := mk
  clear hb3 HFAR_3 HONx_3 HOVx_3 HOFx_3 HBv1_3 mk bm far
  clear cv1_3 cv1_4 cv1_5
  go_wp2_with fail
  go_ret
  exact ⟨congrArg (fun x : Int => Ending.returned (.int .i64 x)) (show ((k0 : Int) + (n1 : Int) + (n2 : Int) + 2 * (n3 : Int)) = (((k0 + n1 + n2 + 2 * n3) : Nat) : Int) by omega), ⟨HONx_4.out, HOVx_4.out, HOFx_4.out, APx.out⟩, hb4, HFAR_4.out⟩

end Go.Proofs.YtmcmeeibogkpaaaGreatDoorR

namespace Go.Proofs.YtmcmeeibogkpaaaGreatDoorR
open Go.RowKit Go.WideShapes
open Go.Lib hiding intOf

set_option maxRecDepth 100000 in
theorem openObj {H : Type} {enc : TypeId × Value → H} {W : World} {r : Reach} {b0 : Nat} {v : Value} {d : DataW H} {ps : List MemPlace} (hval : Value.okWide Tryz.prog W r b0 54 v) (h : DataW.Trod enc Tryz.prog W 0 (fun _ => true) true 54 v d ps) :
    ∃ (p : ByteArray) (a1 : Option Addr) (n1 c1 : Nat) (xs : List ByteArray) (a2 : Option Addr) (n2 c2 : Nat) (ys : List ByteArray) (st : Int) (a3 : Option Addr) (n3 c3 : Nat) (fs : List (ByteArray × ByteArray)) (b : ByteArray) (t : Int), v = .agg #[.string p, .slice a1 n1 c1, .slice a2 n2 c2, .int .i64 st, .slice a3 n3 c3, .string b, .int .i64 t] ∧ ArgT W W.heap.size a1 n1 xs ∧ ArgT W W.heap.size a2 n2 ys ∧ ArgF W W.heap.size a3 n3 fs ∧ n1 ≤ maxLen ∧ n2 ≤ maxLen ∧ n3 ≤ maxLen ∧ (∀ i, i < n1 → (textAt xs i).size ≤ maxLen) ∧ (∀ i, i < n2 → (textAt ys i).size ≤ maxLen) ∧ WalkF n3 fs ∧ p.size ≤ maxLen ∧ b.size ≤ maxLen := by
  obtain ⟨cs, rfl, hsz⟩ := okWide_struct Tryz.underlying54 hval
  obtain ⟨fuel, hf⟩ := h
  obtain ⟨ys, q, _, _, _, hyl, hg⟩ := DataW.trod_struct Tryz.underlying54 hf
  have hc7 : Tryz.prog.cellsOf 54 = 7 := by kernel_rfl
  have hcR : Tryz.prog.cellsOf 52 = 3 := by kernel_rfl
  have e3 : Tryz.prog.cellsOf 3 = 1 := by kernel_rfl
  have e9 : Tryz.prog.cellsOf 9 = 1 := by kernel_rfl
  have eL : Tryz.prog.cellsOf 48 = 1 := by kernel_rfl
  have eS : Tryz.prog.cellsOf 27 = 1 := by kernel_rfl
  rw [hc7] at hsz
  obtain ⟨l⟩ := cs
  obtain ⟨d0, d1, d2, d3, d4, d5, d6, rfl⟩ : ∃ d0 d1 d2 d3 d4 d5 d6, l = [d0, d1, d2, d3, d4, d5, d6] := by
    match l, hsz with
    | [d0, d1, d2, d3, d4, d5, d6], _ => exact ⟨d0, d1, d2, d3, d4, d5, d6, rfl⟩
  have g0 := hg 0 _ rfl
  have g1 := hg 1 _ rfl
  have g2 := hg 2 _ rfl
  have g3 := hg 3 _ rfl
  have g4 := hg 4 _ rfl
  simp [Value.cells, e3, e9, eS, hcR] at g0 g1 g2 g3 g4
  have hy5 : ys.length = 5 := hyl
  rw [List.getElem?_eq_getElem (show 0 < ys.length by omega)] at g0
  rw [List.getElem?_eq_getElem (show 1 < ys.length by omega)] at g1
  rw [List.getElem?_eq_getElem (show 2 < ys.length by omega)] at g2
  rw [List.getElem?_eq_getElem (show 3 < ys.length by omega)] at g3
  rw [List.getElem?_eq_getElem (show 4 < ys.length by omega)] at g4
  obtain ⟨zs, q2, _, _, _, hzl, hk⟩ := DataW.trod_struct Tryz.underlying52 g3
  have k0 := hk 0 _ rfl
  have k1 := hk 1 _ rfl
  have k2 := hk 2 _ rfl
  simp [e3, e9, eL] at k0 k1 k2
  have hz3 : zs.length = 3 := hzl
  rw [List.getElem?_eq_getElem (show 0 < zs.length by omega)] at k0
  rw [List.getElem?_eq_getElem (show 1 < zs.length by omega)] at k1
  rw [List.getElem?_eq_getElem (show 2 < zs.length by omega)] at k2
  obtain ⟨p, hp, _, hps⟩ := DataW.trod_string Tryz.underlying9 g0
  obtain ⟨t, ht, _, _⟩ := DataW.trod_int Tryz.underlying3 g4
  obtain ⟨st, hst, _, _⟩ := DataW.trod_int Tryz.underlying3 k0
  obtain ⟨b, hb, _, hbs⟩ := DataW.trod_string Tryz.underlying9 k2
  obtain ⟨a1, n1, c1, rfl⟩ : ∃ a n cap, d1 = .slice a n cap := by
    rcases DataW.trod_slice Tryz.underlying27 g1 with ⟨h, _⟩ | ⟨a, n, cap, _, _, _, _, h, _⟩
    · exact ⟨none, 0, 0, by simpa using h⟩
    · exact ⟨_, n, cap, by simpa using h⟩
  obtain ⟨a2, n2, c2, rfl⟩ : ∃ a n cap, d2 = .slice a n cap := by
    rcases DataW.trod_slice Tryz.underlying27 g2 with ⟨h, _⟩ | ⟨a, n, cap, _, _, _, _, h, _⟩
    · exact ⟨none, 0, 0, by simpa using h⟩
    · exact ⟨_, n, cap, by simpa using h⟩
  obtain ⟨a3, n3, c3, rfl⟩ : ∃ a n cap, d4 = .slice a n cap := by
    rcases DataW.trod_slice Tryz.underlying48 k1 with ⟨h, _⟩ | ⟨a, n, cap, _, _, _, _, h, _⟩
    · exact ⟨none, 0, 0, by simpa using h⟩
    · exact ⟨_, n, cap, by simpa using h⟩
  obtain ⟨xs, x1, x2, x3⟩ := openTexts g1
  obtain ⟨ws, y1, y2, y3⟩ := openTexts g2
  obtain ⟨fs, z1, z2, z3⟩ := openFields k1
  simp only [List.cons.injEq, and_true] at hp ht hst hb
  subst hp ht hst hb
  exact ⟨p, a1, n1, c1, xs, a2, n2, c2, ws, st, a3, n3, c3, fs, b, t, rfl, x1, y1, z1, x2, y2, z2, x3, y3, z3, hps, hbs⟩

end Go.Proofs.YtmcmeeibogkpaaaGreatDoorR

namespace Go.Proofs.YtmcmeeibogkpaaaGreatDoorR
open Go.RowKit Go.WideShapes
open Go.Lib hiding intOf

set_option maxRecDepth 100000 in
theorem objTime {H : Type} {enc : TypeId × Value → H} {W : World} {p : ByteArray} {v1 v2 v3 : Value} {st : Int} {b : ByteArray} {t : Int} {d : DataW H} {ps : List MemPlace} (h : DataW.Trod enc Tryz.prog W 0 (fun _ => true) true 54 (.agg #[.string p, v1, v2, .int .i64 st, v3, .string b, .int .i64 t]) d ps) : -9223372036854775808 ≤ t ∧ t ≤ 9223372036854775807 := by
  obtain ⟨fuel, hf⟩ := h
  obtain ⟨ys, q, _, _, _, hyl, hg⟩ := DataW.trod_struct Tryz.underlying54 hf
  have e3 : Tryz.prog.cellsOf 3 = 1 := by kernel_rfl
  have g4 := hg 4 _ rfl
  simp [Value.cells, e3] at g4
  have hy5 : ys.length = 5 := hyl
  rw [List.getElem?_eq_getElem (show 4 < ys.length by omega)] at g4
  obtain ⟨n, hn, _, hw⟩ := DataW.trod_int Tryz.underlying3 g4
  simp only [List.cons.injEq, Value.int.injEq, true_and, and_true] at hn
  rw [hn]
  exact bounds_i64 hw

end Go.Proofs.YtmcmeeibogkpaaaGreatDoorR

namespace Go.Proofs.YtmcmeeibogkpaaaGreatDoorR
open Go.ChangeShapes Go.WideShapes Go.ChangeAt Go.RowKit

theorem gTabType : (Tryz.prog.globals[0]?).map (·.type) = some 174 := by kernel_rfl
theorem cells62 : Tryz.prog.cellsOf 174 = 20 := by kernel_rfl
theorem cells55 : Tryz.prog.cellsOf 165 = 1 := by kernel_rfl
theorem table {W : World} (h : laidMetH Tryz.prog Rows.fnExactAnswerRow.laid W) : TabOk W := by
  have h1 : laidMet Tryz.prog Rows.fnExactAnswerRow.laid W := h
  obtain ⟨ps, hl, _⟩ := h1
  obtain ⟨g1, t1, cs1, f1, p1, q1, _, _, _, _, hr1, _⟩ := hl
  obtain ⟨g2, t2, cs2, f2, p2, q2, _, _, _, _, hr2, _⟩ := hr1
  obtain ⟨g3, t3, cs3, f3, p3, q3, hg, ht, hvar, hd, _, _⟩ := hr2
  obtain rfl := Option.some.inj (gTab.symm.trans hg)
  obtain rfl := Option.some.inj (gTabType.symm.trans ht)
  unfold TabOk Lib.TabIs
  rw [hvar, ← Lib.cells_of_tab (zs := Lib.pow10Tab) Tryz.underlying174 Tryz.underlying165 cells55 cells62 hd]

/-- A world with the three tables as their initialisers lay them. -/
def withTables (w : World) : World :=
  { w with heap := ((w.heap.modify 0 fun
      | .cells _ t frozen => .cells #[.int .u64 1, .int .u64 10, .int .u64 100, .int .u64 1000, .int .u64 10000, .int .u64 100000, .int .u64 1000000, .int .u64 10000000, .int .u64 100000000, .int .u64 1000000000, .int .u64 10000000000, .int .u64 100000000000, .int .u64 1000000000000, .int .u64 10000000000000, .int .u64 100000000000000, .int .u64 1000000000000000, .int .u64 10000000000000000, .int .u64 100000000000000000, .int .u64 1000000000000000000, .int .u64 10000000000000000000] t frozen
      | o => o).modify 1 fun
      | .cells _ t frozen => .cells #[.int .u8 0, .int .u8 1, .int .u8 28, .int .u8 2, .int .u8 29, .int .u8 14, .int .u8 24, .int .u8 3, .int .u8 30, .int .u8 22, .int .u8 20, .int .u8 15, .int .u8 25, .int .u8 17, .int .u8 4, .int .u8 8, .int .u8 31, .int .u8 27, .int .u8 13, .int .u8 23, .int .u8 21, .int .u8 19, .int .u8 16, .int .u8 7, .int .u8 26, .int .u8 12, .int .u8 18, .int .u8 6, .int .u8 11, .int .u8 5, .int .u8 10, .int .u8 9] t frozen
      | o => o).modify 2 fun
      | .cells _ t frozen => .cells #[.int .u8 0, .int .u8 1, .int .u8 56, .int .u8 2, .int .u8 57, .int .u8 49, .int .u8 28, .int .u8 3, .int .u8 61, .int .u8 58, .int .u8 42, .int .u8 50, .int .u8 38, .int .u8 29, .int .u8 17, .int .u8 4, .int .u8 62, .int .u8 47, .int .u8 59, .int .u8 36, .int .u8 45, .int .u8 43, .int .u8 51, .int .u8 22, .int .u8 53, .int .u8 39, .int .u8 33, .int .u8 30, .int .u8 24, .int .u8 18, .int .u8 12, .int .u8 5, .int .u8 63, .int .u8 55, .int .u8 48, .int .u8 27, .int .u8 60, .int .u8 41, .int .u8 37, .int .u8 16, .int .u8 46, .int .u8 35, .int .u8 44, .int .u8 21, .int .u8 52, .int .u8 32, .int .u8 23, .int .u8 11, .int .u8 54, .int .u8 26, .int .u8 40, .int .u8 15, .int .u8 34, .int .u8 20, .int .u8 31, .int .u8 10, .int .u8 25, .int .u8 14, .int .u8 19, .int .u8 9, .int .u8 13, .int .u8 8, .int .u8 7, .int .u8 6] t frozen
      | o => o }
end Go.Proofs.YtmcmeeibogkpaaaGreatDoorR
