/- 'ReqText', 'RespText' of the specification: contracts over the translation. -/
import Derived.Test.YtacfajnagbeocaaGreatDoorMsgSpec
namespace Go.Proofs.YtacfajnagbeocaaGreatDoor
open Go.RowKit
open Go.Lib hiding intOf

def methL : List ByteArray := [⟨#[]⟩, ⟨#[71, 69, 84]⟩, ⟨#[72, 69, 65, 68]⟩, ⟨#[80, 79, 83, 84]⟩, ⟨#[80, 85, 82, 71, 69]⟩]
/-- The names of the methods, in a new list. -/
def MethsAt (w : World) (g : Nat) : Prop := ∀ j, j < 5 → w.cell? ⟨g, j, none⟩ = some (.string (methB (j : Int)))
set_option maxHeartbeats 400000 in
theorem l3Methods_any (w : World) :
    Calls Tryz.prog 25 #[] w fun e w' => ∃ g, e = .returned (.slice (some ⟨g, 0, none⟩) 5 5) ∧ MethsAt w' g ∧ w.heap.size ≤ g ∧ g < w'.heap.size ∧ Below w.heap.size w w' := by
  go_enter Tryz.func25, Tryz.ntmps25
  go_wp2
  go_ret
  refine ⟨_, rfl, ?_, Nat.le_refl _, by simp, (Below.refl _ _).alloc (Nat.le_refl _) _⟩
  intro j hj
  have hh := heap_alloc_new w (.cells #[.string ⟨#[]⟩, .string ⟨#[71, 69, 84]⟩, .string ⟨#[72, 69, 65, 68]⟩, .string ⟨#[80, 79, 83, 84]⟩, .string ⟨#[80, 85, 82, 71, 69]⟩] 9)
  simp only [World.cell?, hh]
  match j, hj with
  | 0, _ => rfl
  | 1, _ => rfl
  | 2, _ => rfl
  | 3, _ => rfl
  | 4, _ => rfl
theorem methB_size (m : Int) : (methB m).size ≤ 5 := by
  unfold methB
  split
  · decide
  · split
    · decide
    · split
      · decide
      · split <;> decide
theorem ft_small {fs : List (ByteArray × ByteArray)} (h : FldsOk fs) : (fieldsText fs).size ≤ 672 := by
  have h1 : ∀ k, k ≤ fs.length → (ftTo fs k).size ≤ 84 * k := by
    intro k
    induction k with
    | zero => intro _; exact Nat.le_refl _
    | succ k ih =>
      intro hk
      have h2 := h.2 k (by omega)
      have h3 := h2.1.2.1
      have h4 := h2.2.1.2.1
      have := ih (by omega)
      rw [ftTo_size]; omega
  have := h1 fs.length (Nat.le_refl _)
  have := h.1
  unfold fieldsText; omega
theorem dgF_len : ∀ (f n : Nat), (dgF f n).length ≤ f
  | 0, n => by simp [dgF]
  | f + 1, n => by
    by_cases h : n = 0
    · rw [h, dgF_zero]; simp
    · rw [dgF_pos f n h]
      have := dgF_len f (n / 10)
      simp; omega
theorem numText_size (n : Nat) : (numText n).size ≤ 8 := by
  have : (numText n).size = (numL n).length := by simp [numText, ByteArray.size]
  rw [this]
  unfold numL
  split
  · simp
  · split
    · simp
    · exact dgF_len 8 n
theorem empty_text {b : ByteArray} (h : b.size = 0) : b = ⟨#[]⟩ := by
  apply ByteArray.ext
  exact Array.eq_empty_of_size_eq_zero h

/-- A call answers the text of what is right, nothing else of what is not. -/
def TextOf (p : Prop) (t : ByteArray) (w : World) (e : Ending) (w' : World) : Prop := ∃ u : ByteArray, e = .returned (.string u) ∧ (p → u = t) ∧ (¬ p → u = ⟨#[]⟩) ∧ Below w.heap.size w w'

set_option maxHeartbeats 2000000 in
theorem specReqText_any (m : Int) (p : ByteArray) (v : Value) (b : ByteArray) (n base : Nat) (fs : List (ByteArray × ByteArray)) (w : World) (hv : FieldsV w base v n fs) (hn : n ≤ 1073741824) (hsz : WalkF n fs) (hp : p.size ≤ maxLen) (hb : b.size ≤ maxLen) :
    Calls Tryz.prog 26 #[.agg #[.int .i64 m, .string p, v, .string b]] w fun e w' => TextOf (ReqP m p fs b) (reqT m p fs b) w e w' := by
  obtain ⟨oa, cap, rfl, _⟩ := hv.slice
  obtain ⟨r, hr⟩ : ∃ r, r = w.heap.size := ⟨_, rfl⟩
  have HR : Hid (∀ W, Below (w.alloc (.cells #[.int .i64 m, .string p, .slice oa n cap, .string b] 37)).heap.size (w.alloc (.cells #[.int .i64 m, .string p, .slice oa n cap, .string b] 37)) W → (W.cell? ⟨r, 0, none⟩ = some (.int .i64 m) ∧ W.cell? ⟨r, 1, none⟩ = some (.string p) ∧ W.cell? ⟨r, 2, none⟩ = some (.slice oa n cap) ∧ W.cell? ⟨r, 3, none⟩ = some (.string b)) ∧ FieldsV W base (.slice oa n cap) n fs ∧ Below w.heap.size w W) := fun W h => by
    have hh := kept_new h
    rw [← hr] at hh
    exact ⟨⟨by simp [World.cell?, hh], by simp [World.cell?, hh], by simp [World.cell?, hh], by simp [World.cell?, hh]⟩, hv.below (below_new h), below_new h⟩
  obtain ⟨_, hv0, _⟩ := HR.out _ (Below.refl _ _)
  have HSZ : Hid (WalkF n fs) := hsz
  go_enter Tryz.func26, Tryz.ntmps26
  go_wp2_with fail
  refine (specReqOk_any m p _ b n base fs _ hv0 hn hsz hp hb).mono ?_
  rintro e w1 ⟨b1, rfl, kb1, bb1⟩
  rw [← hr]
  obtain ⟨⟨c0, c1, c2, c3⟩, hv1, hbw1⟩ := HR.out w1 bb1
  clear hv hv0 hsz hp hb
  cases b1
  · have HF : Hid (¬ ReqP m p fs b) := fun h => by have := kb1.2 h; cases this
    clear kb1 hv1 bb1 hr
    go_wp2_with fail
    go_ret
    exact ⟨_, rfl, fun h => absurd h HF.out, fun _ => rfl, hbw1⟩
  · have HY : Hid (ReqP m p fs b) := kb1.1 rfl
    have HV1 : Hid (FieldsV w1 base (.slice oa n cap) n fs) := hv1
    obtain ⟨k, rfl⟩ : ∃ k : Nat, m = (k : Int) := ⟨m.toNat, by have := HY.out.1; omega⟩
    have hk5 : (k : Int) < 5 := by have := HY.out.1; omega
    have hkn : k < 5 := by omega
    have hps : p.size ≤ 60 := HY.out.2.1.2.2.1
    have hbs : b.size ≤ 120 := HY.out.2.2.2
    obtain ⟨mt, hmt⟩ : ∃ x, x = methB (k : Int) := ⟨_, rfl⟩
    have hms := methB_size (k : Int)
    rw [← hmt] at hms
    obtain ⟨ft, hft⟩ : ∃ x, x = fieldsText fs := ⟨_, rfl⟩
    have hfs := ft_small HY.out.2.2.1
    rw [← hft] at hfs
    have HT : Hid ((fieldsText fs).size ≤ 1099511627776) := by show _ ≤ _; rw [← hft]; omega
    have HFT : Hid (fieldsText fs = ft) := hft.symm
    have HMT : Hid (methB (k : Int) = mt) := hmt.symm
    clear kb1 hr hv1 hmt hft c3
    have q1 : ¬ 9223372036854775807 < mt.size + 1 := by omega
    have q2 : ¬ 9223372036854775807 < (mt ++ ⟨#[32]⟩).size + p.size := by rw [ByteArray.size_append]; have : (⟨#[32]⟩ : ByteArray).size = 1 := rfl; omega
    have q3 : ¬ 9223372036854775807 < (mt ++ ⟨#[32]⟩ ++ p).size + 11 := by rw [ByteArray.size_append, ByteArray.size_append]; have : (⟨#[32]⟩ : ByteArray).size = 1 := rfl; omega
    have q4 : ¬ 9223372036854775807 < (mt ++ ⟨#[32]⟩ ++ p ++ ⟨#[32, 72, 84, 84, 80, 47, 49, 46, 49, 13, 10]⟩).size + ft.size := by
      rw [ByteArray.size_append, ByteArray.size_append, ByteArray.size_append]
      have e1 : (⟨#[32]⟩ : ByteArray).size = 1 := rfl
      have e2 : (⟨#[32, 72, 84, 84, 80, 47, 49, 46, 49, 13, 10]⟩ : ByteArray).size = 11 := rfl
      omega
    have q2' : ¬ 9223372036854775807 < mt.size + 1 + p.size := by omega
    have q3' : ¬ 9223372036854775807 < mt.size + 1 + p.size + 11 := by omega
    have q4' : ¬ 9223372036854775807 < mt.size + 1 + p.size + 11 + ft.size := by omega
    have H1 : Hid (∀ w2, Below w1.drew.heap.size w1.drew w2 → (w2.cell? ⟨r, 0, none⟩ = some (.int .i64 (k : Int)) ∧ w2.cell? ⟨r, 1, none⟩ = some (.string p) ∧ w2.cell? ⟨r, 2, none⟩ = some (.slice oa n cap)) ∧ FieldsV w2 base (.slice oa n cap) n fs ∧ Hid (Below (w.alloc (.cells #[.int .i64 (k : Int), .string p, .slice oa n cap, .string b] 37)).heap.size (w.alloc (.cells #[.int .i64 (k : Int), .string p, .slice oa n cap, .string b] 37)) w2)) := fun w2 h => by
      have hb2 := bb1.drew.trans (h.mono bb1.size)
      obtain ⟨⟨d0, d1, d2, _⟩, hv2, _⟩ := HR.out w2 hb2
      exact ⟨⟨d0, d1, d2⟩, hv2, hb2⟩
    have H2 : Hid (∀ g w2 w3, Hid (Below (w.alloc (.cells #[.int .i64 (k : Int), .string p, .slice oa n cap, .string b] 37)).heap.size (w.alloc (.cells #[.int .i64 (k : Int), .string p, .slice oa n cap, .string b] 37)) w2) → MethsAt w2 g → g < w2.heap.size → Below w2.heap.size w2 w3 → (w3.cell? ⟨r, 0, none⟩ = some (.int .i64 (k : Int)) ∧ w3.cell? ⟨r, 1, none⟩ = some (.string p) ∧ w3.cell? ⟨r, 2, none⟩ = some (.slice oa n cap)) ∧ w3.cell? ⟨g, k, none⟩ = some (.string mt) ∧ Hid (Below (w.alloc (.cells #[.int .i64 (k : Int), .string p, .slice oa n cap, .string b] 37)).heap.size (w.alloc (.cells #[.int .i64 (k : Int), .string p, .slice oa n cap, .string b] 37)) w3)) := fun g w2 w3 hb2 hm hg h => by
      have hb3 := hb2.out.trans (h.mono hb2.out.size)
      obtain ⟨⟨d0, d1, d2, _⟩, _, _⟩ := HR.out w3 hb3
      have hc := hm k hkn
      rw [HMT.out] at hc
      exact ⟨⟨d0, d1, d2⟩, by rw [h.cell (p := ⟨g, k, none⟩) hg]; exact hc, hb3⟩
    have HMK : Hid (∀ (W : World) g, MethsAt W g → W.cell? ⟨g, k, none⟩ = some (.string mt)) := fun W g h => by
      have hc := h k hkn
      rw [HMT.out] at hc
      exact hc
    clear bb1
    go_wp2_with fail
    refine wp_region_held_drew (S := fun W => W.cell? ⟨r, 0, none⟩ = some (.int .i64 (k : Int)) ∧ W.cell? ⟨r, 1, none⟩ = some (.string p) ∧ W.cell? ⟨r, 2, none⟩ = some (.slice oa n cap)) (by kernel_rfl) ⟨c0, c1, c2⟩ (fun hHeld => ?_)
    refine wpAnyH_take (i := 1) (v := .pointer (some ⟨r, 0, none⟩)) rfl (by kernel_rfl) (by kernel_rfl) (by kernel_rfl) (fun _ _ _ h => h) (Or.inl ⟨by rfl, by intro W hSW; (try dsimp only at hSW); go_simp⟩) (by assumption) ?_
    refine wpAnyH_take (i := 2) (v := .int .i64 (k : Int)) rfl (by kernel_rfl) (by kernel_rfl) (by kernel_rfl) (fun _ _ _ h => h) (Or.inl ⟨by rfl, by intro W hSW; (try dsimp only at hSW); go_simp⟩) (by assumption) ?_
    refine wpAnyH_take (i := 6) (v := .pointer (some ⟨r, 1, none⟩)) rfl (by kernel_rfl) (by kernel_rfl) (by kernel_rfl) (fun _ _ _ h => h) (Or.inl ⟨by rfl, by intro W hSW; (try dsimp only at hSW); go_simp⟩) (by assumption) ?_
    refine wpAnyH_take (i := 7) (v := .string p) rfl (by kernel_rfl) (by kernel_rfl) (by kernel_rfl) (fun _ _ _ h => h) (Or.inl ⟨by rfl, by intro W hSW; (try dsimp only at hSW); go_simp⟩) (by assumption) ?_
    refine wpAnyH_take (i := 10) (v := .pointer (some ⟨r, 2, none⟩)) rfl (by kernel_rfl) (by kernel_rfl) (by kernel_rfl) (fun _ _ _ h => h) (Or.inl ⟨by rfl, by intro W hSW; (try dsimp only at hSW); go_simp⟩) (by assumption) ?_
    refine wpAnyH_take (i := 11) (v := .slice oa n cap) rfl (by kernel_rfl) (by kernel_rfl) (by kernel_rfl) (fun _ _ _ h => h) (Or.inl ⟨by rfl, by intro W hSW; (try dsimp only at hSW); go_simp⟩) (by assumption) ?_
    refine wpAnyH_ready (rs := [0]) (by kernel_rfl) (by simp) ?_
    refine AllReadyH.cons rfl (fun K hK => ?_) AllReadyH.nil
    go_simp
    refine (l3Methods_any _).mono ?_
    rintro e w2 ⟨g, rfl, hme, _, hg2, bb2⟩
    obtain ⟨hS2, hv2, hB2⟩ := H1.out w2 bb2
    have HV2 : Hid (FieldsV w2 base (.slice oa n cap) n fs) := hv2
    have hmc2 := HMK.out w2 g hme
    clear hv2 c0 c1 c2 hHeld
    refine hK.out _ _ hS2 (fun hHeld => ?_)
    clear hK K
    refine wpAnyH_take (i := 3) (v := .pointer (some ⟨g, k, none⟩)) rfl (by kernel_rfl) (by kernel_rfl) (by kernel_rfl) (fun _ _ _ h => h) (Or.inl ⟨by rfl, by intro W hSW; (try dsimp only at hSW); go_simp⟩) (by assumption) ?_
    refine wpAnyH_ready (rs := [4, 12]) (by kernel_rfl) (by simp) ?_
    refine AllReadyH.cons rfl (fun K hK => ?_) (AllReadyH.cons rfl (fun K hK => ?_) AllReadyH.nil)
    · go_simp
      refine hK.out _ _ hS2 (fun hHeldA => ?_)
      clear hK K hHeld
      refine wpAnyH_take (i := 5) (v := .string (mt ++ ⟨#[32]⟩)) rfl (by kernel_rfl) (by kernel_rfl) (by kernel_rfl) (fun _ _ _ h => h) (Or.inl ⟨by rfl, by intro W hSW; (try dsimp only at hSW); go_simp⟩) (by assumption) ?_
      refine wpAnyH_take (i := 8) (v := .string (mt ++ ⟨#[32]⟩ ++ p)) rfl (by kernel_rfl) (by kernel_rfl) (by kernel_rfl) (fun _ _ _ h => h) (Or.inl ⟨by rfl, by intro W hSW; (try dsimp only at hSW); go_simp⟩) (by assumption) ?_
      refine wpAnyH_take (i := 9) (v := .string (mt ++ ⟨#[32]⟩ ++ p ++ ⟨#[32, 72, 84, 84, 80, 47, 49, 46, 49, 13, 10]⟩)) rfl (by kernel_rfl) (by kernel_rfl) (by kernel_rfl) (fun _ _ _ h => h) (Or.inl ⟨by rfl, by intro W hSW; (try dsimp only at hSW); go_simp⟩) (by assumption) ?_
      refine wpAnyH_ready (rs := [12]) (by kernel_rfl) (by simp) ?_
      refine AllReadyH.cons rfl (fun K hK => ?_) AllReadyH.nil
      go_simp
      refine (specFieldsText_any _ n base fs _ HV2.out hn HT.out).mono ?_
      rintro e w3 ⟨rfl, bb3⟩
      rw [HFT.out]
      obtain ⟨hS3, hmc3, hB3⟩ := H2.out g w2 w3 hB2 hme hg2 bb3
      refine hK.out _ _ hS3 (fun hHeldZ => ?_)
      clear hK K hHeldA hmc2
      refine wpAnyH_take (i := 13) (v := .string (mt ++ ⟨#[32]⟩ ++ p ++ ⟨#[32, 72, 84, 84, 80, 47, 49, 46, 49, 13, 10]⟩ ++ ft)) rfl (by kernel_rfl) (by kernel_rfl) (by kernel_rfl) (fun _ _ _ h => h) (Or.inl ⟨by rfl, by intro W hSW; (try dsimp only at hSW); go_simp⟩) (by assumption) ?_
      refine wpAnyH_take (i := 14) (v := .string (mt ++ ⟨#[32]⟩ ++ p ++ ⟨#[32, 72, 84, 84, 80, 47, 49, 46, 49, 13, 10]⟩ ++ ft)) rfl (by kernel_rfl) (by kernel_rfl) (by kernel_rfl) (fun _ _ _ h => h) (Or.inl ⟨by rfl, by intro W hSW; (try dsimp only at hSW); go_simp⟩) (by assumption) ?_
      refine wpAnyH_done (by kernel_rfl) ?_ _
      obtain ⟨⟨_, _, _, c3⟩, _, hbw3⟩ := HR.out w3 hB3.out
      have HB3 := hB3
      clear hHeldZ hS3 hmc3 hB3 hme hg2 bb3 HV2 hB2 hbw1
      by_cases hb0 : b.size = 0
      · obtain rfl := empty_text hb0
        have HE : Hid (mt ++ ⟨#[32]⟩ ++ p ++ ⟨#[32, 72, 84, 84, 80, 47, 49, 46, 49, 13, 10]⟩ ++ ft ++ ⟨#[13, 10]⟩ ++ ⟨#[]⟩ = reqT (k : Int) p fs ⟨#[]⟩) := by
          show _ = _
          unfold reqT reqHead
          rw [if_pos (show (⟨#[]⟩ : ByteArray).size = 0 from rfl), HMT.out, HFT.out]; rfl
        go_wp2_with fail
        go_ret
        exact ⟨_, rfl, fun _ => HE.out, fun h => absurd HY.out h, hbw3⟩
      · have ht : b.toList.isEmpty = false := by
          rw [ByteArray.toList_eq, List.isEmpty_eq_false_iff]
          intro e
          exact hb0 (by have := congrArg List.length e; simpa using this)
        obtain ⟨nt, hnt⟩ : ∃ x, x = numText b.size := ⟨_, rfl⟩
        have hns := numText_size b.size
        rw [← hnt] at hns
        have HNT : Hid (numText b.size = nt) := hnt.symm
        have HE : Hid (mt ++ ⟨#[32]⟩ ++ p ++ ⟨#[32, 72, 84, 84, 80, 47, 49, 46, 49, 13, 10]⟩ ++ ft ++ ⟨#[99, 111, 110, 116, 101, 110, 116, 45, 108, 101, 110, 103, 116, 104, 58, 32]⟩ ++ nt ++ ⟨#[13, 10]⟩ ++ ⟨#[13, 10]⟩ ++ b = reqT (k : Int) p fs b) := by
          show _ = _
          unfold reqT reqHead
          rw [if_neg hb0, HMT.out, HFT.out, HNT.out]; rfl
        have e1 : (⟨#[32]⟩ : ByteArray).size = 1 := rfl
        have e2 : (⟨#[32, 72, 84, 84, 80, 47, 49, 46, 49, 13, 10]⟩ : ByteArray).size = 11 := rfl
        have e3 : (⟨#[99, 111, 110, 116, 101, 110, 116, 45, 108, 101, 110, 103, 116, 104, 58, 32]⟩ : ByteArray).size = 16 := rfl
        have e4 : (⟨#[13, 10]⟩ : ByteArray).size = 2 := rfl
        have r1 : ¬ 9223372036854775807 < (mt ++ ⟨#[32]⟩ ++ p ++ ⟨#[32, 72, 84, 84, 80, 47, 49, 46, 49, 13, 10]⟩ ++ ft).size + 16 := by simp only [ByteArray.size_append]; omega
        have r2 : ¬ 9223372036854775807 < (mt ++ ⟨#[32]⟩ ++ p ++ ⟨#[32, 72, 84, 84, 80, 47, 49, 46, 49, 13, 10]⟩ ++ ft ++ ⟨#[99, 111, 110, 116, 101, 110, 116, 45, 108, 101, 110, 103, 116, 104, 58, 32]⟩).size + nt.size := by simp only [ByteArray.size_append]; omega
        have r3 : ¬ 9223372036854775807 < (mt ++ ⟨#[32]⟩ ++ p ++ ⟨#[32, 72, 84, 84, 80, 47, 49, 46, 49, 13, 10]⟩ ++ ft ++ ⟨#[99, 111, 110, 116, 101, 110, 116, 45, 108, 101, 110, 103, 116, 104, 58, 32]⟩ ++ nt).size + 2 := by simp only [ByteArray.size_append]; omega
        have r4 : ¬ 9223372036854775807 < (mt ++ ⟨#[32]⟩ ++ p ++ ⟨#[32, 72, 84, 84, 80, 47, 49, 46, 49, 13, 10]⟩ ++ ft ++ ⟨#[99, 111, 110, 116, 101, 110, 116, 45, 108, 101, 110, 103, 116, 104, 58, 32]⟩ ++ nt ++ ⟨#[13, 10]⟩).size + 2 := by simp only [ByteArray.size_append]; omega
        have r5 : ¬ 9223372036854775807 < (mt ++ ⟨#[32]⟩ ++ p ++ ⟨#[32, 72, 84, 84, 80, 47, 49, 46, 49, 13, 10]⟩ ++ ft ++ ⟨#[99, 111, 110, 116, 101, 110, 116, 45, 108, 101, 110, 103, 116, 104, 58, 32]⟩ ++ nt ++ ⟨#[13, 10]⟩ ++ ⟨#[13, 10]⟩).size + b.size := by simp only [ByteArray.size_append]; omega
        clear hnt e1 e2 e3 e4
        go_wp2_with fail
        refine (specNumText_any b.size _ (by omega)).mono ?_
        rintro e w4 ⟨rfl, bb4⟩
        rw [HNT.out]
        obtain ⟨⟨_, _, _, d3⟩, _, hbw4⟩ := HR.out w4 (HB3.out.trans (bb4.mono HB3.out.size))
        clear bb4 c3 hbw3
        go_wp2_with fail
        go_ret
        exact ⟨_, rfl, fun _ => HE.out, fun h => absurd HY.out h, hbw4⟩
    · go_simp
      refine (specFieldsText_any _ n base fs _ HV2.out hn HT.out).mono ?_
      rintro e w3 ⟨rfl, bb3⟩
      rw [HFT.out]
      obtain ⟨hS3, hmc3, hB3⟩ := H2.out g w2 w3 hB2 hme hg2 bb3
      refine hK.out _ _ hS3 (fun hHeld3 => ?_)
      clear hK K hHeld hmc2
      refine wpAnyH_ready (rs := [4]) (by kernel_rfl) (by simp) ?_
      refine AllReadyH.cons rfl (fun K hK => ?_) AllReadyH.nil
      go_simp
      refine hK.out _ _ hS3 (fun hHeldZ => ?_)
      clear hK K hHeld3
      refine wpAnyH_take (i := 5) (v := .string (mt ++ ⟨#[32]⟩)) rfl (by kernel_rfl) (by kernel_rfl) (by kernel_rfl) (fun _ _ _ h => h) (Or.inl ⟨by rfl, by intro W hSW; (try dsimp only at hSW); go_simp⟩) (by assumption) ?_
      refine wpAnyH_take (i := 8) (v := .string (mt ++ ⟨#[32]⟩ ++ p)) rfl (by kernel_rfl) (by kernel_rfl) (by kernel_rfl) (fun _ _ _ h => h) (Or.inl ⟨by rfl, by intro W hSW; (try dsimp only at hSW); go_simp⟩) (by assumption) ?_
      refine wpAnyH_take (i := 9) (v := .string (mt ++ ⟨#[32]⟩ ++ p ++ ⟨#[32, 72, 84, 84, 80, 47, 49, 46, 49, 13, 10]⟩)) rfl (by kernel_rfl) (by kernel_rfl) (by kernel_rfl) (fun _ _ _ h => h) (Or.inl ⟨by rfl, by intro W hSW; (try dsimp only at hSW); go_simp⟩) (by assumption) ?_
      refine wpAnyH_take (i := 13) (v := .string (mt ++ ⟨#[32]⟩ ++ p ++ ⟨#[32, 72, 84, 84, 80, 47, 49, 46, 49, 13, 10]⟩ ++ ft)) rfl (by kernel_rfl) (by kernel_rfl) (by kernel_rfl) (fun _ _ _ h => h) (Or.inl ⟨by rfl, by intro W hSW; (try dsimp only at hSW); go_simp⟩) (by assumption) ?_
      refine wpAnyH_take (i := 14) (v := .string (mt ++ ⟨#[32]⟩ ++ p ++ ⟨#[32, 72, 84, 84, 80, 47, 49, 46, 49, 13, 10]⟩ ++ ft)) rfl (by kernel_rfl) (by kernel_rfl) (by kernel_rfl) (fun _ _ _ h => h) (Or.inl ⟨by rfl, by intro W hSW; (try dsimp only at hSW); go_simp⟩) (by assumption) ?_
      refine wpAnyH_done (by kernel_rfl) ?_ _
      obtain ⟨⟨_, _, _, c3⟩, _, hbw3⟩ := HR.out w3 hB3.out
      have HB3 := hB3
      clear hHeldZ hS3 hmc3 hB3 hme hg2 bb3 HV2 hB2 hbw1
      by_cases hb0 : b.size = 0
      · obtain rfl := empty_text hb0
        have HE : Hid (mt ++ ⟨#[32]⟩ ++ p ++ ⟨#[32, 72, 84, 84, 80, 47, 49, 46, 49, 13, 10]⟩ ++ ft ++ ⟨#[13, 10]⟩ ++ ⟨#[]⟩ = reqT (k : Int) p fs ⟨#[]⟩) := by
          show _ = _
          unfold reqT reqHead
          rw [if_pos (show (⟨#[]⟩ : ByteArray).size = 0 from rfl), HMT.out, HFT.out]; rfl
        go_wp2_with fail
        go_ret
        exact ⟨_, rfl, fun _ => HE.out, fun h => absurd HY.out h, hbw3⟩
      · have ht : b.toList.isEmpty = false := by
          rw [ByteArray.toList_eq, List.isEmpty_eq_false_iff]
          intro e
          exact hb0 (by have := congrArg List.length e; simpa using this)
        obtain ⟨nt, hnt⟩ : ∃ x, x = numText b.size := ⟨_, rfl⟩
        have hns := numText_size b.size
        rw [← hnt] at hns
        have HNT : Hid (numText b.size = nt) := hnt.symm
        have HE : Hid (mt ++ ⟨#[32]⟩ ++ p ++ ⟨#[32, 72, 84, 84, 80, 47, 49, 46, 49, 13, 10]⟩ ++ ft ++ ⟨#[99, 111, 110, 116, 101, 110, 116, 45, 108, 101, 110, 103, 116, 104, 58, 32]⟩ ++ nt ++ ⟨#[13, 10]⟩ ++ ⟨#[13, 10]⟩ ++ b = reqT (k : Int) p fs b) := by
          show _ = _
          unfold reqT reqHead
          rw [if_neg hb0, HMT.out, HFT.out, HNT.out]; rfl
        have e1 : (⟨#[32]⟩ : ByteArray).size = 1 := rfl
        have e2 : (⟨#[32, 72, 84, 84, 80, 47, 49, 46, 49, 13, 10]⟩ : ByteArray).size = 11 := rfl
        have e3 : (⟨#[99, 111, 110, 116, 101, 110, 116, 45, 108, 101, 110, 103, 116, 104, 58, 32]⟩ : ByteArray).size = 16 := rfl
        have e4 : (⟨#[13, 10]⟩ : ByteArray).size = 2 := rfl
        have r1 : ¬ 9223372036854775807 < (mt ++ ⟨#[32]⟩ ++ p ++ ⟨#[32, 72, 84, 84, 80, 47, 49, 46, 49, 13, 10]⟩ ++ ft).size + 16 := by simp only [ByteArray.size_append]; omega
        have r2 : ¬ 9223372036854775807 < (mt ++ ⟨#[32]⟩ ++ p ++ ⟨#[32, 72, 84, 84, 80, 47, 49, 46, 49, 13, 10]⟩ ++ ft ++ ⟨#[99, 111, 110, 116, 101, 110, 116, 45, 108, 101, 110, 103, 116, 104, 58, 32]⟩).size + nt.size := by simp only [ByteArray.size_append]; omega
        have r3 : ¬ 9223372036854775807 < (mt ++ ⟨#[32]⟩ ++ p ++ ⟨#[32, 72, 84, 84, 80, 47, 49, 46, 49, 13, 10]⟩ ++ ft ++ ⟨#[99, 111, 110, 116, 101, 110, 116, 45, 108, 101, 110, 103, 116, 104, 58, 32]⟩ ++ nt).size + 2 := by simp only [ByteArray.size_append]; omega
        have r4 : ¬ 9223372036854775807 < (mt ++ ⟨#[32]⟩ ++ p ++ ⟨#[32, 72, 84, 84, 80, 47, 49, 46, 49, 13, 10]⟩ ++ ft ++ ⟨#[99, 111, 110, 116, 101, 110, 116, 45, 108, 101, 110, 103, 116, 104, 58, 32]⟩ ++ nt ++ ⟨#[13, 10]⟩).size + 2 := by simp only [ByteArray.size_append]; omega
        have r5 : ¬ 9223372036854775807 < (mt ++ ⟨#[32]⟩ ++ p ++ ⟨#[32, 72, 84, 84, 80, 47, 49, 46, 49, 13, 10]⟩ ++ ft ++ ⟨#[99, 111, 110, 116, 101, 110, 116, 45, 108, 101, 110, 103, 116, 104, 58, 32]⟩ ++ nt ++ ⟨#[13, 10]⟩ ++ ⟨#[13, 10]⟩).size + b.size := by simp only [ByteArray.size_append]; omega
        clear hnt e1 e2 e3 e4
        go_wp2_with fail
        refine (specNumText_any b.size _ (by omega)).mono ?_
        rintro e w4 ⟨rfl, bb4⟩
        rw [HNT.out]
        obtain ⟨⟨_, _, _, d3⟩, _, hbw4⟩ := HR.out w4 (HB3.out.trans (bb4.mono HB3.out.size))
        clear bb4 c3 hbw3
        go_wp2_with fail
        go_ret
        exact ⟨_, rfl, fun _ => HE.out, fun h => absurd HY.out h, hbw4⟩

end Go.Proofs.YtacfajnagbeocaaGreatDoor
