/- What the proof of FnResponses leans on: contracts of the program's and the specification's functions, and plain facts (part 2 of 3). -/
import Derived.Test.YtmmkbgkiglmgeaaGreatDoorFnResponsesA
namespace Go.Proofs.YtmmkbgkiglmgeaaGreatDoor
open Go.RowKit
open Go.Lib hiding intOf

/-- Texts short enough for any walk. -/
def WalkF (n : Nat) (fs : List (ByteArray × ByteArray)) : Prop := ∀ i, i < n → (nameAt fs i).size ≤ maxLen ∧ (valAt fs i).size ≤ maxLen

/-- A block that was laid last stands behind every call that keeps what was there. -/
theorem kept_new {w W : World} {o : Obj} (h : Below (w.alloc o).heap.size (w.alloc o) W) : W.heap[w.heap.size]? = some o := by
  rw [h.block _ (by simp)]; exact heap_alloc_new w _
theorem below_new {w W : World} {o : Obj} (h : Below (w.alloc o).heap.size (w.alloc o) W) : Below w.heap.size w W :=
  ((Below.refl _ w).alloc (Nat.le_refl _) o).trans (h.mono (by simp))
set_option maxHeartbeats 400000 in
theorem l1In_any (x lo hi : Int) (w : World) :
    Calls Tryz.prog 34 #[.int .i64 x, .int .i64 lo, .int .i64 hi] w fun e w' => e = .returned (.bool (decide (lo ≤ x ∧ x ≤ hi))) ∧ w' = w := by
  by_cases h1 : lo ≤ x
  · by_cases h2 : x ≤ hi
    · go_enter Tryz.func34, Tryz.ntmps34
      go_wp2
      go_ret
      exact ⟨by simp [h1, h2], rfl⟩
    · go_enter Tryz.func34, Tryz.ntmps34
      go_wp2
      go_ret
      exact ⟨by simp [h2], rfl⟩
  · go_enter Tryz.func34, Tryz.ntmps34
    go_wp2
    go_ret
    exact ⟨by simp; omega, rfl⟩

set_option maxHeartbeats 1000000 in
theorem specRespOk_any (st : Int) (v : Value) (b : ByteArray) (n base : Nat) (fs : List (ByteArray × ByteArray)) (w : World) (hv : FieldsV w base v n fs) (hn : n ≤ 1073741824) (hsz : WalkF n fs) (hb : b.size ≤ maxLen) :
    Calls Tryz.prog 17 #[.agg #[.int .i64 st, v, .string b]] w fun e w' => BoolIs (RespP st fs b) w e w' := by
  obtain ⟨oa, cap, rfl, _⟩ := hv.slice
  obtain ⟨r, hr⟩ : ∃ r, r = w.heap.size := ⟨_, rfl⟩
  have HR : Hid (∀ W, Below (w.alloc (.cells #[.int .i64 st, .slice oa n cap, .string b] 26)).heap.size (w.alloc (.cells #[.int .i64 st, .slice oa n cap, .string b] 26)) W → (W.cell? ⟨r, 1, none⟩ = some (.slice oa n cap) ∧ W.cell? ⟨r, 2, none⟩ = some (.string b)) ∧ FieldsV W base (.slice oa n cap) n fs ∧ Below w.heap.size w W) := fun W h => by
    have hh := kept_new h
    rw [← hr] at hh
    exact ⟨⟨by simp [World.cell?, hh], by simp [World.cell?, hh]⟩, hv.below (below_new h), below_new h⟩
  have HSZ : Hid (WalkF n fs) := hsz
  unfold maxLen at hb
  clear hv hsz
  go_enter Tryz.func17, Tryz.ntmps17
  go_wp2_with fail
  refine (l1In_any st 100 599 _).mono ?_
  rintro e w1 ⟨rfl, hw1⟩
  have hb1 : Below (w.alloc (.cells #[.int .i64 st, .slice oa n cap, .string b] 26)).heap.size (w.alloc (.cells #[.int .i64 st, .slice oa n cap, .string b] 26)) w1 := by rw [hw1]; exact Below.refl _ _
  clear hw1
  rw [← hr]
  obtain ⟨⟨c2, c3⟩, hv1, hbw1⟩ := HR.out w1 hb1
  have HV1 : Hid (FieldsV w1 base (.slice oa n cap) n fs) := hv1
  clear hv1
  by_cases hm : 100 ≤ st ∧ st ≤ 599
  · have e1 : decide (100 ≤ st ∧ st ≤ 599) = true := by simpa using hm
    have HM : Hid (100 ≤ st ∧ st ≤ 599) := hm
    rw [e1]
    clear hr hm e1
    go_wp2_with fail
    refine (specFieldsOk_any _ n base fs _ HV1.out hn HSZ.out).mono ?_
    rintro e w3 ⟨b2, rfl, kb2, bb3⟩
    have hb3 := hb1.trans (bb3.mono hb1.size)
    clear c2 c3 bb3 hb1 hbw1
    obtain ⟨⟨c2, c3⟩, _, hbw3⟩ := HR.out w3 hb3
    cases b2
    · have HF : Hid (¬ RespP st fs b) := fun h => by have := kb2.2 h.2.1; cases this
      clear kb2
      go_wp2_with fail
      go_ret
      exact BoolIs.no HF.out hbw3
    · have HT2 : Hid (FldsOk fs) := kb2.1 rfl
      clear kb2
      by_cases h120 : (b.size : Int) ≤ 120
      · have HY : Hid (RespP st fs b) := ⟨HM.out, HT2.out, by omega⟩
        go_wp2_with fail
        go_ret
        exact BoolIs.yes HY.out hbw3
      · have HF : Hid (¬ RespP st fs b) := fun h => by have := h.2.2; omega
        have hd : decide ((b.size : Int) ≤ 120) = false := by simpa using h120
        go_wp2_with fail
        go_ret
        exact BoolIs.no HF.out hbw3
  · have e1 : decide (100 ≤ st ∧ st ≤ 599) = false := by simpa using hm
    have HF : Hid (¬ RespP st fs b) := fun h => hm h.1
    rw [e1]
    clear hr hm e1
    go_wp2_with fail
    go_ret
    exact BoolIs.no HF.out hbw1

end Go.Proofs.YtmmkbgkiglmgeaaGreatDoor

namespace Go.Proofs.YtmmkbgkiglmgeaaGreatDoor
open Go.RowKit
open Go.Lib hiding intOf

theorem ft_small {fs : List (ByteArray × ByteArray)} (h : FldsOk fs) : (fieldsText fs).size ≤ 672 := by
  have h1 : ∀ k, k ≤ fs.length → (ftTo fs k).size ≤ 84 * k := by
    intro k
    induction k with
    | zero => intro _; exact Nat.le_refl _
    | succ k ih =>
      intro hk
      have h2 := h.2 k (by omega)
      have h3 := h2.1.2.1
      have h4 := h2.2.1.2.1
      have := ih (by omega)
      rw [ftTo_size]; omega
  have := h1 fs.length (Nat.le_refl _)
  have := h.1
  unfold fieldsText; omega
theorem dgF_len : ∀ (f n : Nat), (dgF f n).length ≤ f
  | 0, n => by simp [dgF]
  | f + 1, n => by
    by_cases h : n = 0
    · rw [h, dgF_zero]; simp
    · rw [dgF_pos f n h]
      have := dgF_len f (n / 10)
      simp; omega
theorem numText_size (n : Nat) : (numText n).size ≤ 8 := by
  have : (numText n).size = (numL n).length := by simp [numText, ByteArray.size]
  rw [this]
  unfold numL
  split
  · simp
  · split
    · simp
    · exact dgF_len 8 n
/-- A call answers the text of what is right, nothing else of what is not. -/
def TextOf (p : Prop) (t : ByteArray) (w : World) (e : Ending) (w' : World) : Prop := ∃ u : ByteArray, e = .returned (.string u) ∧ (p → u = t) ∧ (¬ p → u = ⟨#[]⟩) ∧ Below w.heap.size w w'

set_option maxHeartbeats 2000000 in
set_option maxRecDepth 100000 in
theorem specRespText_any (st : Int) (v : Value) (b : ByteArray) (n base : Nat) (fs : List (ByteArray × ByteArray)) (w : World) (hv : FieldsV w base v n fs) (hn : n ≤ 1073741824) (hsz : WalkF n fs) (hb : b.size ≤ maxLen) :
    Calls Tryz.prog 7 #[.agg #[.int .i64 st, v, .string b]] w fun e w' => TextOf (RespP st fs b) (respT st fs b) w e w' := by
  obtain ⟨oa, cap, rfl, _⟩ := hv.slice
  obtain ⟨r, hr⟩ : ∃ r, r = w.heap.size := ⟨_, rfl⟩
  have HR : Hid (∀ W, Below (w.alloc (.cells #[.int .i64 st, .slice oa n cap, .string b] 26)).heap.size (w.alloc (.cells #[.int .i64 st, .slice oa n cap, .string b] 26)) W → (W.cell? ⟨r, 0, none⟩ = some (.int .i64 st) ∧ W.cell? ⟨r, 1, none⟩ = some (.slice oa n cap) ∧ W.cell? ⟨r, 2, none⟩ = some (.string b)) ∧ FieldsV W base (.slice oa n cap) n fs ∧ Below w.heap.size w W) := fun W h => by
    have hh := kept_new h
    rw [← hr] at hh
    exact ⟨⟨by simp [World.cell?, hh], by simp [World.cell?, hh], by simp [World.cell?, hh]⟩, hv.below (below_new h), below_new h⟩
  obtain ⟨_, hv0, _⟩ := HR.out _ (Below.refl _ _)
  go_enter Tryz.func7, Tryz.ntmps7
  go_wp2_with fail
  refine (specRespOk_any st _ b n base fs _ hv0 hn hsz hb).mono ?_
  rintro e w1 ⟨b1, rfl, kb1, bb1⟩
  rw [← hr]
  obtain ⟨⟨c0, c1, c2⟩, hv1, hbw1⟩ := HR.out w1 bb1
  clear hv hv0 hsz hb
  cases b1
  · have HF : Hid (¬ RespP st fs b) := fun h => by have := kb1.2 h; cases this
    clear kb1 hv1 bb1 hr
    go_wp2_with fail
    go_ret
    exact ⟨_, rfl, fun h => absurd h HF.out, fun _ => rfl, hbw1⟩
  · have HY : Hid (RespP st fs b) := kb1.1 rfl
    obtain ⟨k, rfl⟩ : ∃ k : Nat, st = (k : Int) := ⟨st.toNat, by have := HY.out.1; omega⟩
    have hk5 : k ≤ 599 := by have := HY.out.1; omega
    have hbs : b.size ≤ 120 := HY.out.2.2
    obtain ⟨nk, hnk⟩ : ∃ x, x = numText k := ⟨_, rfl⟩
    have hns1 := numText_size k
    rw [← hnk] at hns1
    obtain ⟨nt, hnt⟩ : ∃ x, x = numText b.size := ⟨_, rfl⟩
    have hns2 := numText_size b.size
    rw [← hnt] at hns2
    obtain ⟨ft, hft⟩ : ∃ x, x = fieldsText fs := ⟨_, rfl⟩
    have hfs := ft_small HY.out.2.1
    rw [← hft] at hfs
    have HT : Hid ((fieldsText fs).size ≤ 1099511627776) := by show _ ≤ _; rw [← hft]; omega
    have HFT : Hid (fieldsText fs = ft) := hft.symm
    have HNK : Hid (numText k = nk) := hnk.symm
    have HNT : Hid (numText b.size = nt) := hnt.symm
    have HE : Hid (⟨#[72, 84, 84, 80, 47, 49, 46, 49, 32]⟩ ++ nk ++ ⟨#[32, 46, 13, 10]⟩ ++ ft ++ ⟨#[99, 111, 110, 116, 101, 110, 116, 45, 108, 101, 110, 103, 116, 104, 58, 32]⟩ ++ nt ++ ⟨#[13, 10, 13, 10]⟩ ++ b = respT (k : Int) fs b) := by
      show _ = _
      unfold respT
      rw [HFT.out, HNT.out, show ((k : Int)).toNat = k by omega, HNK.out]; rfl
    clear kb1 hr hv1 hnk hnt hft
    have e1 : (⟨#[72, 84, 84, 80, 47, 49, 46, 49, 32]⟩ : ByteArray).size = 9 := rfl
    have e2 : (⟨#[32, 46, 13, 10]⟩ : ByteArray).size = 4 := rfl
    have e3 : (⟨#[99, 111, 110, 116, 101, 110, 116, 45, 108, 101, 110, 103, 116, 104, 58, 32]⟩ : ByteArray).size = 16 := rfl
    have e4 : (⟨#[13, 10, 13, 10]⟩ : ByteArray).size = 4 := rfl
    have q1 : ¬ 9223372036854775807 < 9 + nk.size := by omega
    have q2 : ¬ 9223372036854775807 < 9 + nk.size + 4 := by omega
    have q3 : ¬ 9223372036854775807 < 9 + nk.size + 4 + ft.size := by omega
    have q4 : ¬ 9223372036854775807 < 9 + nk.size + 4 + ft.size + 16 := by omega
    have q5 : ¬ 9223372036854775807 < 9 + nk.size + 4 + ft.size + 16 + nt.size := by omega
    have q6 : ¬ 9223372036854775807 < 9 + nk.size + 4 + ft.size + 16 + nt.size + 4 := by omega
    have q7 : ¬ 9223372036854775807 < 9 + nk.size + 4 + ft.size + 16 + nt.size + 4 + b.size := by omega
    have HA : Hid (∀ w2 w3, Hid (Below (w.alloc (.cells #[.int .i64 (k : Int), .slice oa n cap, .string b] 26)).heap.size (w.alloc (.cells #[.int .i64 (k : Int), .slice oa n cap, .string b] 26)) w2) → Below w2.heap.size w2 w3 → (w3.cell? ⟨r, 0, none⟩ = some (.int .i64 (k : Int)) ∧ w3.cell? ⟨r, 1, none⟩ = some (.slice oa n cap) ∧ w3.cell? ⟨r, 2, none⟩ = some (.string b)) ∧ FieldsV w3 base (.slice oa n cap) n fs ∧ Hid (Below (w.alloc (.cells #[.int .i64 (k : Int), .slice oa n cap, .string b] 26)).heap.size (w.alloc (.cells #[.int .i64 (k : Int), .slice oa n cap, .string b] 26)) w3) ∧ Below w.heap.size w w3) := fun w2 w3 h2 h => by
      have hb3 := h2.out.trans (h.mono h2.out.size)
      obtain ⟨h5, h6, h7⟩ := HR.out w3 hb3
      exact ⟨h5, h6, hb3, h7⟩
    have HB1 : Hid (Below (w.alloc (.cells #[.int .i64 (k : Int), .slice oa n cap, .string b] 26)).heap.size (w.alloc (.cells #[.int .i64 (k : Int), .slice oa n cap, .string b] 26)) w1.drew) := bb1.drew
    clear bb1 hbw1
    go_wp2_with fail
    go_region_held3 (fun W => W.cell? ⟨r, 0, none⟩ = some (.int .i64 (k : Int)) ∧ W.cell? ⟨r, 1, none⟩ = some (.slice oa n cap) ∧ W.cell? ⟨r, 2, none⟩ = some (.string b)) (first | assumption | go_keep) (first | (go_at_call 19; refine (specFieldsText_any _ n base fs _ (by assumption) hn HT.out).mono ?_; rintro e w3 ⟨rfl, bb3⟩; rw [HFT.out]; obtain ⟨hS3, hv3, HB3, hbw3⟩ := HA.out w2 w3 HB2 bb3) | (go_at_call_of 18 (Value.int .i64 (k : Int)); refine (specNumText_any k _ (by omega)).mono ?_; rintro e w2 ⟨rfl, bb2⟩; rw [HNK.out]; obtain ⟨hS2, hv2, HB2, hbw2⟩ := HA.out _ w2 HB1 bb2) | (go_at_call_of 18 (Value.int .i64 (b.size : Int)); refine (specNumText_any b.size _ (by omega)).mono ?_; rintro e w4 ⟨rfl, bb4⟩; rw [HNT.out]; obtain ⟨hS4, hv4, HB4, hbw4⟩ := HA.out w3 w4 HB3 bb4))
    go_wp2_with fail
    go_ret
    exact ⟨_, rfl, fun _ => HE.out, fun h => absurd HY.out h, hbw4⟩

end Go.Proofs.YtmmkbgkiglmgeaaGreatDoor

namespace Go.Proofs.YtmmkbgkiglmgeaaGreatDoor
open Go.RowKit

theorem bs_extract (s : ByteArray) (f j : Nat) : bs (s.extract f j) = ((bs s).take j).drop f := by
  simp [bs, List.drop_take]
theorem bs_at (s : ByteArray) (j : Nat) (h : j < s.size) : (bs s)[j]'(by rw [bs_len]; exact h) = s[j]'h := rfl
theorem bs_drop (s : ByteArray) (j : Nat) (h : j < s.size) : (bs s).drop j = s[j]'h :: (bs s).drop (j + 1) := by
  rw [List.drop_eq_getElem_cons (by rw [bs_len]; exact h), bs_at s j h]
theorem take_snoc (s : ByteArray) (f j : Nat) (hf : f ≤ j) (h : j < s.size) : ((bs s).take (j + 1)).drop f = ((bs s).take j).drop f ++ [s[j]'h] := by
  have hl : j < (bs s).length := by rw [bs_len]; exact h
  rw [List.take_succ_eq_append_getElem hl, List.drop_append_of_le_length (by rw [List.length_take]; omega), bs_at s j h]
theorem take_none (s : ByteArray) (k : Nat) : ((bs s).take k).drop k = [] := by
  apply List.drop_eq_nil_of_le
  rw [List.length_take]; omega
theorem u8_eq (b : UInt8) (n : Nat) (hn : n < 256) : b = UInt8.ofNat n ↔ b.toNat = n := by
  constructor
  · intro h; rw [h, UInt8.toNat_ofNat']; omega
  · intro h; rw [← h]; simp

def HdInv (s : ByteArray) (l : List ByteArray) (f j : Nat) : Prop :=
  headL [] [] (bs s) = headL (l.map bs) (((bs s).take (max j f)).drop f) ((bs s).drop (max j f))
theorem hd_start (s : ByteArray) : HdInv s [] 0 0 := by simp [HdInv]
theorem hd_skip {s : ByteArray} {l : List ByteArray} {f j : Nat} (hf : f = j + 1) (h : HdInv s l f j) : HdInv s l f (j + 1) := by
  unfold HdInv at *
  rw [show max (j + 1) f = max j f by omega]; exact h
theorem hd_other {s : ByteArray} {l : List ByteArray} {f j : Nat} (hf : f ≤ j) (hj : j + 1 < s.size) (hn : ¬ ((s[j]'(by omega)).toNat = 13 ∧ (s[j + 1]'hj).toNat = 10)) (h : HdInv s l f j) : HdInv s l f (j + 1) := by
  unfold HdInv at *
  rw [show max j f = j by omega, bs_drop s j (by omega), bs_drop s (j + 1) hj, headL, if_neg (fun e => hn ⟨(u8_eq _ 13 (by omega)).1 e.1, (u8_eq _ 10 (by omega)).1 e.2⟩)] at h
  rw [h, show max (j + 1) f = j + 1 by omega, take_snoc s f j hf (by omega), bs_drop s (j + 1) hj]
theorem hd_line {s : ByteArray} {l : List ByteArray} {f j : Nat} (hf : f < j) (hj : j + 1 < s.size) (h1 : (s[j]'(by omega)).toNat = 13) (h2 : (s[j + 1]'hj).toNat = 10) (h : HdInv s l f j) : HdInv s (l ++ [s.extract f j]) (j + 2) (j + 1) := by
  unfold HdInv at *
  have hne : ((bs s).take j).drop f ≠ [] := fun e => by
    have := congrArg List.length e
    rw [List.length_drop, List.length_take, bs_len] at this
    simp at this; omega
  rw [show max j f = j by omega, bs_drop s j (by omega), bs_drop s (j + 1) hj, headL, if_pos ⟨(u8_eq _ 13 (by omega)).2 h1, (u8_eq _ 10 (by omega)).2 h2⟩, if_neg hne] at h
  rw [h, show max (j + 1) (j + 2) = j + 2 by omega, take_none, List.map_append, List.map_cons, List.map_nil, bs_extract]
theorem hd_fin {s : ByteArray} {l : List ByteArray} {f j : Nat} (hf : f = j) (hj : j + 1 < s.size) (h1 : (s[j]'(by omega)).toNat = 13) (h2 : (s[j + 1]'hj).toNat = 10) (h : HdInv s l f j) : headL [] [] (bs s) = (l.map bs, some ((bs s).drop (j + 2))) := by
  unfold HdInv at h
  subst hf
  rw [show max f f = f by omega, take_none, bs_drop s f (by omega), bs_drop s (f + 1) hj, headL, if_pos ⟨(u8_eq _ 13 (by omega)).2 h1, (u8_eq _ 10 (by omega)).2 h2⟩, if_pos rfl] at h
  exact h
theorem headL_short (out : List (List UInt8)) (cur r : List UInt8) (h : r.length ≤ 1) : headL out cur r = (out, none) := by
  match r, h with
  | [], _ => rfl
  | [_], _ => rfl
  | _ :: _ :: _, h => simp at h
theorem hd_end {s : ByteArray} {l : List ByteArray} {f j : Nat} (hj : ¬ j + 1 < s.size) (h : HdInv s l f j) : headL [] [] (bs s) = (l.map bs, none) := by
  unfold HdInv at h
  rw [h, headL_short]
  rw [List.length_drop, bs_len]; omega

def WdInv (s : ByteArray) (l : List ByteArray) (f k : Nat) : Prop :=
  if k ≤ s.size then wordsL [] [] (bs s) = wordsL (l.map bs) (((bs s).take k).drop f) ((bs s).drop k) else wordsL [] [] (bs s) = l.map bs
theorem wd_start (s : ByteArray) : WdInv s [] 0 0 := by simp [WdInv]
theorem wd_blank {s : ByteArray} {l : List ByteArray} {f k : Nat} (hk : k < s.size) (hc : (s[k]'hk).toNat = 32) (h : WdInv s l f k) : WdInv s (l ++ [s.extract f k]) (k + 1) (k + 1) := by
  unfold WdInv at *
  rw [if_pos (by omega), bs_drop s k hk, wordsL, if_pos (show s[k]'hk = 32 from (u8_eq _ 32 (by omega)).2 hc)] at h
  rw [if_pos (by omega), h, take_none, List.map_append, List.map_cons, List.map_nil, bs_extract]
theorem wd_last {s : ByteArray} {l : List ByteArray} {f k : Nat} (hk : k = s.size) (h : WdInv s l f k) : WdInv s (l ++ [s.extract f k]) (k + 1) (k + 1) := by
  unfold WdInv at *
  rw [if_pos (by omega), (show (bs s).drop k = [] from List.drop_eq_nil_of_le (by rw [bs_len]; omega)), wordsL] at h
  rw [if_neg (by omega), h, List.map_append, List.map_cons, List.map_nil, bs_extract]
theorem wd_other {s : ByteArray} {l : List ByteArray} {f k : Nat} (hf : f ≤ k) (hk : k < s.size) (hc : (s[k]'hk).toNat ≠ 32) (h : WdInv s l f k) : WdInv s l f (k + 1) := by
  unfold WdInv at *
  rw [if_pos (by omega), bs_drop s k hk, wordsL, if_neg (show ¬ s[k]'hk = 32 from fun e => hc ((u8_eq _ 32 (by omega)).1 e))] at h
  rw [if_pos (by omega), h, take_snoc s f k hf hk]
theorem wd_end {s : ByteArray} {l : List ByteArray} {f k : Nat} (hk : ¬ k ≤ s.size) (h : WdInv s l f k) : wordsL [] [] (bs s) = l.map bs := by
  unfold WdInv at h
  rwa [if_neg hk] at h

def FdInv (s : ByteArray) (k : Nat) : Prop := fieldL [] (bs s) = fieldL ((bs s).take k) ((bs s).drop k)
theorem fd_start (s : ByteArray) : FdInv s 0 := by simp [FdInv]
theorem fd_other {s : ByteArray} {k : Nat} (hk : k + 1 < s.size) (hn : ¬ ((s[k]'(by omega)).toNat = 58 ∧ (s[k + 1]'hk).toNat = 32)) (h : FdInv s k) : FdInv s (k + 1) := by
  unfold FdInv at *
  rw [bs_drop s k (by omega), bs_drop s (k + 1) hk, fieldL, if_neg (fun e => hn ⟨(u8_eq _ 58 (by omega)).1 e.1, (u8_eq _ 32 (by omega)).1 e.2⟩)] at h
  have := take_snoc s 0 k (Nat.zero_le _) (by omega)
  simp only [List.drop_zero] at this
  rw [h, this, bs_drop s (k + 1) hk]
theorem fd_cut {s : ByteArray} {k : Nat} (hk : k + 1 < s.size) (h1 : (s[k]'(by omega)).toNat = 58) (h2 : (s[k + 1]'hk).toNat = 32) (h : FdInv s k) : fieldL [] (bs s) = some (bs (s.extract 0 k), bs (s.extract (k + 2) s.size)) := by
  unfold FdInv at h
  rw [bs_drop s k (by omega), bs_drop s (k + 1) hk, fieldL, if_pos ⟨(u8_eq _ 58 (by omega)).2 h1, (u8_eq _ 32 (by omega)).2 h2⟩] at h
  rw [h, bs_extract, bs_extract, List.drop_zero, List.take_of_length_le (i := s.size) (l := bs s) (by rw [bs_len]; omega)]
theorem fieldL_short (cur r : List UInt8) (h : r.length ≤ 1) : fieldL cur r = none := by
  match r, h with
  | [], _ => rfl
  | [_], _ => rfl
  | _ :: _ :: _, h => simp at h
theorem fd_end {s : ByteArray} {k : Nat} (hk : ¬ k + 1 < s.size) (h : FdInv s k) : fieldL [] (bs s) = none := by
  unfold FdInv at h
  rw [h, fieldL_short]
  rw [List.length_drop, bs_len]; omega

def bsP (f : ByteArray × ByteArray) : List UInt8 × List UInt8 := (bs f.1, bs f.2)
/-- The first i lines have been looked at. -/
def GdInv (lines : List ByteArray) (l : List (ByteArray × ByteArray)) (i : Nat) : Prop := fieldsL (lines.map bs) = l.map bsP ++ fieldsL ((lines.drop i).map bs)
theorem gd_start (lines : List ByteArray) : GdInv lines [] 0 := by simp [GdInv]
theorem gd_none {lines : List ByteArray} {l : List (ByteArray × ByteArray)} {i : Nat} (hi : i < lines.length) (hf : fieldL [] (bs (lines[i]'hi)) = none) (h : GdInv lines l i) : GdInv lines l (i + 1) := by
  unfold GdInv at *
  rw [h, List.drop_eq_getElem_cons hi, List.map_cons, fieldsL, hf]
theorem gd_clen {lines : List ByteArray} {l : List (ByteArray × ByteArray)} {i : Nat} {nm vl : ByteArray} (hi : i < lines.length) (hf : fieldL [] (bs (lines[i]'hi)) = some (bs nm, bs vl)) (hn : nm = clen) (h : GdInv lines l i) : GdInv lines l (i + 1) := by
  unfold GdInv at *
  rw [h, List.drop_eq_getElem_cons hi, List.map_cons, fieldsL, hf]
  simp only
  rw [if_pos (by rw [hn]; rfl)]
theorem gd_some {lines : List ByteArray} {l : List (ByteArray × ByteArray)} {i : Nat} {nm vl : ByteArray} (hi : i < lines.length) (hf : fieldL [] (bs (lines[i]'hi)) = some (bs nm, bs vl)) (hn : nm ≠ clen) (h : GdInv lines l i) : GdInv lines (l ++ [(nm, vl)]) (i + 1) := by
  unfold GdInv at *
  rw [h, List.drop_eq_getElem_cons hi, List.map_cons, fieldsL, hf]
  simp only
  rw [if_neg (fun e => hn (bs_inj (by rw [e]; rfl)))]
  simp [bsP]
theorem gd_end {lines : List ByteArray} {l : List (ByteArray × ByteArray)} {i : Nat} (hi : lines.length ≤ i) (h : GdInv lines l i) : fieldsL (lines.map bs) = l.map bsP := by
  unfold GdInv at h
  rw [h, List.drop_eq_nil_of_le hi]
  simp [fieldsL]

end Go.Proofs.YtmmkbgkiglmgeaaGreatDoor

namespace Go.Proofs.YtmmkbgkiglmgeaaGreatDoor
open Go.RowKit
open Go.Lib hiding intOf

/-- The lines of a head, in a list of the call's own, and where what is behind them begins. -/
def HeadIs (s : ByteArray) (w : World) (e : Ending) (w' : World) : Prop :=
  ∃ (v : Value) (xs : List ByteArray) (p : Int), e = .returned (.tuple #[v, .int .i64 p]) ∧ w'.ownsRow w.heap.size 9 1 v xs.length (xs.map Value.string) ∧ xs.length ≤ s.size ∧ Below w.heap.size w w' ∧
    ((p = -1 ∧ headL [] [] (bs s) = (xs.map bs, none)) ∨ ∃ k : Nat, p = (k : Int) ∧ k ≤ s.size ∧ headL [] [] (bs s) = (xs.map bs, some ((bs s).drop k)))

theorem hd_go {s : ByteArray} {l : List ByteArray} {f j : Nat} (hf : f ≤ j + 1) (hj : j + 1 < s.size) (hn : f ≤ j → ¬ ((s[j]'(by omega)).toNat = 13 ∧ (s[j + 1]'hj).toNat = 10)) (h : HdInv s l f j) : HdInv s l f (j + 1) := by
  by_cases c : f ≤ j
  · exact hd_other c hj (hn c) h
  · exact hd_skip (by omega) h

set_option maxHeartbeats 4000000 in
set_option maxRecDepth 100000 in
theorem l3Head_any (s : ByteArray) (w : World) (hs : s.size ≤ 4000000) :
    Calls Tryz.prog 25 #[.string s] w fun e w' => HeadIs s w e w' := by
  obtain ⟨i0, hi, hz0, hz1, hz2⟩ := info_parts info9
  go_enter Tryz.func25, Tryz.ntmps25
  go_wp2
  go_loopw [4, 5, 6] (fun v a i wr => ∃ (j f : Nat) (l : List ByteArray), (j + 1 ≤ s.size ∨ j = 0) ∧ f ≤ j + 1 ∧ l.length ≤ f ∧ f ≤ s.size ∧ i = .int .i64 ((j : Int) + 1) ∧ a = .int .i64 (f : Int) ∧ Below w.heap.size w wr ∧
      Hid (HdInv s l f j) ∧ wr.ownsRow w.heap.size 9 1 v l.length (l.map Value.string)) (fun _ _ i _ => s.size + 1 - (intOf i).toNat)
  case atStart =>
    exact ⟨0, 0, [], .inr rfl, Nat.zero_le _, Nat.le_refl _, Nat.zero_le _, rfl, rfl, (Below.refl _ _).alloc (Nat.le_refl _) _, hd_start s, ⟨rfl, .inr ⟨w.heap.size, 0, #[], rfl, Nat.le_refl _, heap_alloc_new w _, Nat.le_refl _, Nat.zero_le _, rfl, rfl⟩⟩⟩
  case round =>
    obtain ⟨j, f, l, hj, hfj, hlf, hfs, rfl, rfl, hbw, hinv, hown⟩ := hrel
    by_cases hlt : j + 1 < s.size
    · have hlt2 : (j : Int) + 1 < (s.size : Int) := by omega
      have hjs : j < s.size := by omega
      by_cases h10 : (s[j + 1]'hlt).toNat = 10
      · have t1 : (((s[j + 1]'hlt).toNat : Int) != 10) = false := by rw [bne_eq_false_iff_eq]; omega
        by_cases h13 : (s[j]'hjs).toNat = 13
        · have t2 : (((s[j]'hjs).toNat : Int) != 13) = false := by rw [bne_eq_false_iff_eq]; omega
          by_cases hf : f ≤ j
          · have t3 : ¬ (j : Int) < (f : Int) := by omega
            by_cases hfe : f = j
            · have HF : Hid _ := hd_fin hfe hlt h13 h10 hinv.out
              subst hfe
              clear h10 h13 hj
              go_wp2
              go_ret2
              exact ⟨_, l, _, rfl, hown, by omega, hbw, .inr ⟨f + 2, by omega, by omega, HF.out⟩⟩
            · have HI : Hid _ := hd_line (by omega) hlt h13 h10 hinv.out
              have he : (s.extract f j).toList.isEmpty = false := by
                rw [ByteArray.toList_eq, List.isEmpty_eq_false_iff]
                intro e
                have := congrArg List.length e
                simp at this; omega
              have h63 : l.length + 1 ≤ maxLen := by unfold maxLen; omega
              have h47 : (l.length + 1) * 16 ≤ 140737488355328 := by omega
              have HBS : ∀ o, w.heap.size ≤ (wr.alloc o).heap.size := fun o => by have := hbw.size; simp; omega
              clear h10 h13 hj
              go_wp2_with (at_builtin; refine wpList_append_own _ rfl _ _ 55 rfl w.heap.size 9 i0 (.string ⟨#[]⟩) 1 16 Tryz.underlying55 hi hz0 hz1 hz2 rfl (by decide) _ _ _ rfl (hown.alloc _) ⟨wr.heap.size, 0, none⟩ 1 1 [.string (s.extract f j)] rfl rfl (cell_one_new _ _ _) (one_text _) h63 h47 (HBS _) ?_)
              intro v1 w2 hown2 hgrow _
              have hb2 : Below w.heap.size w w2 := (hbw.alloc hbw.size _).grown hgrow (HBS _) (fun g hg => owns_ge hown hg)
              have hown3 : w2.ownsRow w.heap.size 9 1 v1 (l ++ [s.extract f j]).length ((l ++ [s.extract f j]).map Value.string) := by simpa using hown2
              clear hown HBS hgrow hown2 hbw
              go_wp2
              go_roundw
              case rel => exact ⟨j + 1, j + 2, _, .inl (by omega), by omega, by simp; omega, by omega, by go_num, by go_num, hb2, HI, hown3⟩
              case measure => simp [intOf]; omega
          · have t3 : (j : Int) < (f : Int) := by omega
            have HI : Hid _ := hd_go hfj hlt (fun h => absurd h hf) hinv.out
            clear h10 h13 hj
            go_wp2
            go_roundw
            case rel => exact ⟨j + 1, f, l, .inl (by omega), by omega, hlf, hfs, by go_num, rfl, hbw, HI, hown⟩
            case measure => simp [intOf]; omega
        · have t2 : (((s[j]'hjs).toNat : Int) != 13) = true := by rw [bne_iff_ne]; omega
          have HI : Hid _ := hd_go hfj hlt (fun _ h => h13 h.1) hinv.out
          clear h10 h13 hj
          go_wp2
          go_roundw
          case rel => exact ⟨j + 1, f, l, .inl (by omega), by omega, hlf, hfs, by go_num, rfl, hbw, HI, hown⟩
          case measure => simp [intOf]; omega
      · have t1 : (((s[j + 1]'hlt).toNat : Int) != 10) = true := by rw [bne_iff_ne]; omega
        have HI : Hid _ := hd_go hfj hlt (fun _ h => h10 h.2) hinv.out
        clear h10 hj
        go_wp2
        go_roundw
        case rel => exact ⟨j + 1, f, l, .inl (by omega), by omega, hlf, hfs, by go_num, rfl, hbw, HI, hown⟩
        case measure => simp [intOf]; omega
    · have HE : Hid _ := hd_end hlt hinv.out
      have hlt2 : ¬ (j : Int) + 1 < (s.size : Int) := by omega
      go_wp2
      go_ret2
      exact ⟨_, l, _, rfl, hown, by omega, hbw, .inl ⟨rfl, HE.out⟩⟩

/-- What stands between blanks, in a list of the call's own. -/
def WordsIs (s : ByteArray) (w : World) (e : Ending) (w' : World) : Prop :=
  ∃ (v : Value) (xs : List ByteArray), e = .returned v ∧ w'.ownsRow w.heap.size 9 1 v xs.length (xs.map Value.string) ∧ xs.length ≤ s.size + 1 ∧ Below w.heap.size w w' ∧ wordsL [] [] (bs s) = xs.map bs

set_option maxHeartbeats 4000000 in
set_option maxRecDepth 100000 in
theorem l3Words_any (s : ByteArray) (w : World) (hs : s.size ≤ 4000000) :
    Calls Tryz.prog 26 #[.string s] w fun e w' => WordsIs s w e w' := by
  obtain ⟨i0, hi, hz0, hz1, hz2⟩ := info_parts info9
  go_enter Tryz.func26, Tryz.ntmps26
  go_wp2
  go_loopw [3, 4, 5] (fun v a i wr => ∃ (k f : Nat) (l : List ByteArray), k ≤ s.size + 1 ∧ f ≤ k ∧ l.length ≤ k ∧ i = .int .i64 (k : Int) ∧ a = .int .i64 (f : Int) ∧ Below w.heap.size w wr ∧
      Hid (WdInv s l f k) ∧ wr.ownsRow w.heap.size 9 1 v l.length (l.map Value.string)) (fun _ _ i _ => s.size + 1 - (intOf i).toNat)
  case atStart =>
    exact ⟨0, 0, [], Nat.zero_le _, Nat.le_refl _, Nat.le_refl _, rfl, rfl, (Below.refl _ _).alloc (Nat.le_refl _) _, wd_start s, ⟨rfl, .inr ⟨w.heap.size, 0, #[], rfl, Nat.le_refl _, heap_alloc_new w _, Nat.le_refl _, Nat.zero_le _, rfl, rfl⟩⟩⟩
  case round =>
    obtain ⟨k, f, l, hk, hfk, hlk, rfl, rfl, hbw, hinv, hown⟩ := hrel
    have h63 : l.length + 1 ≤ maxLen := by unfold maxLen; omega
    have h47 : (l.length + 1) * 16 ≤ 140737488355328 := by omega
    by_cases hks : k ≤ s.size
    · have hks2 : (k : Int) ≤ (s.size : Int) := by omega
      by_cases hlt : k < s.size
      · have hlt2 : (k : Int) < (s.size : Int) := by omega
        have hne : ((k : Int) == (s.size : Int)) = false := by rw [beq_eq_false_iff_ne]; omega
        by_cases hc : (s[k]'hlt).toNat = 32
        · have t1 : (((s[k]'hlt).toNat : Int) == 32) = true := by rw [beq_iff_eq]; omega
          have HI : Hid _ := wd_blank hlt hc hinv.out
          have HBS : ∀ o, w.heap.size ≤ (wr.alloc o).heap.size := fun o => by have := hbw.size; simp; omega
          clear hc hk
          go_wp2_with (at_builtin; refine wpList_append_own _ rfl _ _ 55 rfl w.heap.size 9 i0 (.string ⟨#[]⟩) 1 16 Tryz.underlying55 hi hz0 hz1 hz2 rfl (by decide) _ _ _ rfl (hown.alloc _) ⟨wr.heap.size, 0, none⟩ 1 1 [.string (s.extract f k)] rfl rfl (cell_one_new _ _ _) (one_text _) h63 h47 (HBS _) ?_)
          intro v1 w2 hown2 hgrow _
          have hb2 : Below w.heap.size w w2 := (hbw.alloc hbw.size _).grown hgrow (HBS _) (fun g hg => owns_ge hown hg)
          have hown3 : w2.ownsRow w.heap.size 9 1 v1 (l ++ [s.extract f k]).length ((l ++ [s.extract f k]).map Value.string) := by simpa using hown2
          clear hown HBS hgrow hown2 hbw
          go_wp2
          go_roundw
          case rel => exact ⟨k + 1, k + 1, _, by omega, by omega, by simp; omega, by go_num, by go_num, hb2, HI, hown3⟩
          case measure => simp [intOf]; omega
        · have t1 : (((s[k]'hlt).toNat : Int) == 32) = false := by rw [beq_eq_false_iff_ne]; omega
          have HI : Hid _ := wd_other hfk hlt hc hinv.out
          clear hc hk
          go_wp2
          go_roundw
          case rel => exact ⟨k + 1, f, l, by omega, by omega, by omega, by go_num, rfl, hbw, HI, hown⟩
          case measure => simp [intOf]; omega
      · obtain rfl : k = s.size := by omega
        have HI : Hid _ := wd_last rfl hinv.out
        have HBS : ∀ o, w.heap.size ≤ (wr.alloc o).heap.size := fun o => by have := hbw.size; simp; omega
        clear hk
        go_wp2_with (at_builtin; refine wpList_append_own _ rfl _ _ 55 rfl w.heap.size 9 i0 (.string ⟨#[]⟩) 1 16 Tryz.underlying55 hi hz0 hz1 hz2 rfl (by decide) _ _ _ rfl (hown.alloc _) ⟨wr.heap.size, 0, none⟩ 1 1 [.string (s.extract f s.size)] rfl rfl (cell_one_new _ _ _) (one_text _) h63 h47 (HBS _) ?_)
        intro v1 w2 hown2 hgrow _
        have hb2 : Below w.heap.size w w2 := (hbw.alloc hbw.size _).grown hgrow (HBS _) (fun g hg => owns_ge hown hg)
        have hown3 : w2.ownsRow w.heap.size 9 1 v1 (l ++ [s.extract f s.size]).length ((l ++ [s.extract f s.size]).map Value.string) := by simpa using hown2
        clear hown HBS hgrow hown2 hbw
        go_wp2
        go_roundw
        case rel => exact ⟨s.size + 1, s.size + 1, _, by omega, by omega, by simp; omega, by go_num, by go_num, hb2, HI, hown3⟩
        case measure => simp [intOf]
    · have HE : Hid _ := wd_end hks hinv.out
      have hks2 : ¬ (k : Int) ≤ (s.size : Int) := by omega
      go_wp2
      go_ret
      exact ⟨_, l, rfl, hown, by omega, hbw, HE.out⟩

end Go.Proofs.YtmmkbgkiglmgeaaGreatDoor

namespace Go.Proofs.YtmmkbgkiglmgeaaGreatDoor
open Go.RowKit
open Go.Lib hiding intOf

/-- A list of texts that a function reads, in blocks below B. -/
def TextsV (w : World) (B : Nat) (a : Option Addr) (n : Nat) (xs : List ByteArray) : Prop :=
  xs.length = n ∧ ∀ i (h : i < xs.length), ∃ g off, a = some ⟨g, off, none⟩ ∧ g < B ∧ w.cell? ⟨g, off + i, none⟩ = some (.string (xs[i]'h))
theorem TextsV.below {w w' : World} {B : Nat} {a : Option Addr} {n : Nat} {xs : List ByteArray} (h : TextsV w B a n xs) (hb : Below B w w') : TextsV w' B a n xs :=
  ⟨h.1, fun i hi => by
    obtain ⟨g, off, h1, h2, h3⟩ := h.2 i hi
    exact ⟨g, off, h1, h2, by rw [hb.cell (p := ⟨g, off + i, none⟩) h2]; exact h3⟩⟩

/-- A call answers the fields of these lines, in a list of its own. -/
def FieldsOf (xs : List ByteArray) (w : World) (e : Ending) (w' : World) : Prop :=
  ∃ (v : Value) (l : List (ByteArray × ByteArray)), e = .returned v ∧ w'.ownsRow w.heap.size 53 2 v l.length (flatF l) ∧ l.length ≤ xs.length ∧ Below w.heap.size w w' ∧ fieldsL (xs.map bs) = l.map bsP

set_option maxHeartbeats 4000000 in
set_option maxRecDepth 100000 in
theorem l3Fields_any (a : Option Addr) (n cap : Nat) (xs : List ByteArray) (w : World) (hv : TextsV w w.heap.size a n xs) (hn : n ≤ 4000000) (hsz : ∀ x ∈ xs, x.size ≤ 4000000) :
    Calls Tryz.prog 28 #[.slice a n cap] w fun e w' => FieldsOf xs w e w' := by
  obtain ⟨i0, hi, hz0, hz1, hz2⟩ := info_parts info33
  have hxl := hv.1
  have HV : Hid (∀ W, Below w.heap.size w W → TextsV W w.heap.size a n xs) := fun W h => hv.below h
  have HSZ : Hid (∀ x ∈ xs, x.size ≤ 4000000) := hsz
  clear hv hsz
  go_enter Tryz.func28, Tryz.ntmps28
  go_wp2
  go_loopw [3, 4] (fun v i wr => ∃ (k : Nat) (l : List (ByteArray × ByteArray)), k ≤ n ∧ l.length ≤ k ∧ i = .int .i64 (k : Int) ∧ Below w.heap.size w wr ∧ Hid (GdInv xs l k) ∧ wr.ownsRow w.heap.size 53 2 v l.length (flatF l)) (fun _ i _ => n - (intOf i).toNat)
  case atStart =>
    exact ⟨0, [], Nat.zero_le _, Nat.le_refl _, rfl, (Below.refl _ _).alloc (Nat.le_refl _) _, gd_start xs, ⟨rfl, .inr ⟨w.heap.size, 0, #[], rfl, Nat.le_refl _, heap_alloc_new w _, Nat.le_refl _, Nat.zero_le _, rfl, rfl⟩⟩⟩
  case round =>
    obtain ⟨k, l, hk, hlk, rfl, hbw, hinv, hown⟩ := hrel
    by_cases hlt : k < n
    · have hlt2 : (k : Int) < (n : Int) := by omega
      have hkx : k < xs.length := by omega
      obtain ⟨x, hx⟩ : ∃ x, x = xs[k]'hkx := ⟨_, rfl⟩
      have hxs : x.size ≤ 4000000 := by rw [hx]; exact HSZ.out _ (List.getElem_mem hkx)
      obtain ⟨g, off, rfl, hgB, _⟩ := (HV.out wr hbw).2 k hkx
      have HC : Hid (∀ W, Below w.heap.size w W → W.cell? ⟨g, off + k, none⟩ = some (.string x)) := fun W h => by
        obtain ⟨g2, off2, e2, _, h2⟩ := (HV.out W h).2 k hkx
        cases e2
        rw [hx]; exact h2
      have HX : Hid (xs[k]'hkx = x) := hx.symm
      clear hx
      go_wp2
      go_loopw [3, 5] (fun o q wq => ∃ m : Nat, (m + 1 ≤ x.size ∨ m = 0) ∧ o = u3 ∧ q = .int .i64 (m : Int) ∧ Below wr.heap.size wr wq ∧ Hid (FdInv x m)) (fun _ q _ => x.size + 1 - (intOf q).toNat)
      case atStart => exact ⟨0, .inr rfl, rfl, rfl, Below.refl _ _, fd_start x⟩
      case round =>
        obtain ⟨m, hm, rfl, rfl, hbq, hfd⟩ := hrel
        have hbW : Below w.heap.size w wr := hbw.trans (hbq.mono hbw.size)
        have hc := HC.out wr hbW
        by_cases hml : m + 1 < x.size
        · have hml2 : (m : Int) + 1 < (x.size : Int) := by omega
          have hml3 : (m : Int) < (x.size : Int) := by omega
          have hmx : m < x.size := by omega
          by_cases h58 : (x[m]'hmx).toNat = 58
          · have t1 : (((x[m]'hmx).toNat : Int) == 58) = true := by rw [beq_iff_eq]; omega
            by_cases h32 : (x[m + 1]'hml).toNat = 32
            · have t2 : (((x[m + 1]'hml).toNat : Int) == 32) = true := by rw [beq_iff_eq]; omega
              have HF : Hid (fieldL [] (bs (xs[k]'hkx)) = some (bs (x.extract 0 m), bs (x.extract (m + 2) x.size))) := by rw [HX.out]; exact fd_cut hml h58 h32 hfd.out
              clear h58 h32 hm
              have hnew := World.new_ne wr ⟨g, off + k, none⟩ hc
              have hmz : ((m : Int) + 2) ≤ (x.size : Int) := by omega
              have hm0 : (0 : Int) ≤ (m : Int) := by omega
              have hm2 : (0 : Int) ≤ (m : Int) + 2 := by omega
              have hmi : (m : Int) ≤ (x.size : Int) := by omega
              have hmn : m ≤ x.size := by omega
              have hmk : m + 2 ≤ x.size := by omega
              have hwr : IntKind.i64.wrap ((m : Int) + 2) = (m : Int) + 2 := by rw [IntKind.wrap_i64]; omega
              go_wp2_with fail
              go_region_held3 (fun W => W.cell? ⟨g, off + k, none⟩ = some (.string x)) (first | assumption | go_keep) (fail)
              obtain ⟨nm, hnm⟩ : ∃ y, y = x.extract 0 m := ⟨_, rfl⟩
              obtain ⟨vl, hvl⟩ : ∃ y, y = x.extract ((m : Int) + 2).toNat x.size := ⟨_, rfl⟩
              have HF2 : Hid (fieldL [] (bs (xs[k]'hkx)) = some (bs nm, bs vl)) := by
                show _ = _
                rw [HF.out, hnm, hvl, show ((m : Int) + 2).toNat = m + 2 by omega]
              rw [← hnm, ← hvl]
              obtain ⟨w2, hw2⟩ : ∃ W, W = (wr.alloc (.cells #[.string nm, .string vl] 53)).drew := ⟨_, rfl⟩
              obtain ⟨r, hr⟩ : ∃ r, r = wr.heap.size := ⟨_, rfl⟩
              have hh : w2.heap[r]? = some (.cells #[.string nm, .string vl] 53) := by rw [hw2, hr]; exact heap_alloc_new wr _
              have hc0 : w2.cell? ⟨r, 0, none⟩ = some (.string nm) := by simp [World.cell?, hh]
              have hc1 : w2.cell? ⟨r, 1, none⟩ = some (.string vl) := by simp [World.cell?, hh]
              have b2 : Below wr.heap.size wr w2 := by rw [hw2]; exact ((Below.refl _ wr).alloc (Nat.le_refl _) _).drew
              have hbW2 : Below w.heap.size w w2 := hbW.trans (b2.mono hbW.size)
              have hown2 : w2.ownsRow w.heap.size 53 2 u3 l.length (flatF l) := owns_below (owns_below hown hbq (fun g hg => owns_lt hown hg)) b2 (fun g hg => owns_lt (owns_below hown hbq (fun g hg => owns_lt hown hg)) hg)
              rw [← hw2, ← hr]
              clear hw2 hr hh b2 hnm hvl HF hc hnew hbq hbW hown
              by_cases hcl : nm = clen
              · have ht := (text_beq _ _).2 hcl
                rw [clen_list] at ht
                have HI : Hid (GdInv xs l (k + 1)) := gd_clen hkx HF2.out hcl hinv.out
                clear hcl
                go_wp2
                go_roundw
                case rel => exact ⟨k + 1, l, by omega, by omega, by go_num, hbW2, HI, hown2⟩
                case measure => simp [intOf]; omega
              · have ht := text_beq_no hcl
                rw [clen_list] at ht
                have HI : Hid (GdInv xs (l ++ [(nm, vl)]) (k + 1)) := gd_some hkx HF2.out hcl hinv.out
                have h63 : l.length + 1 ≤ maxLen := by unfold maxLen; omega
                have h47 : (l.length + 1) * 32 ≤ 140737488355328 := by omega
                have HBS : ∀ o, w.heap.size ≤ (w2.alloc o).heap.size := fun o => by have := hbW2.size; simp; omega
                clear hcl
                go_wp2_with (at_builtin; refine wpList_append_own _ rfl _ _ 24 rfl w.heap.size 53 i0 (.agg #[.string ⟨#[]⟩, .string ⟨#[]⟩]) 2 32 Tryz.underlying24 hi hz0 hz1 hz2 rfl (by decide) _ _ _ rfl (hown2.alloc _) ⟨w2.heap.size, 0, none⟩ 1 1 [.string nm, .string vl] rfl rfl (cell_two_new _ _ _ _) (two_text _ _) h63 h47 (HBS _) ?_)
                intro v1 w3 hown3 hgrow _
                have hb3 : Below w.heap.size w w3 := (hbW2.alloc hbW2.size _).grown hgrow (HBS _) (fun g hg => owns_ge hown2 hg)
                have hown4 : w3.ownsRow w.heap.size 53 2 v1 (l ++ [(nm, vl)]).length (flatF (l ++ [(nm, vl)])) := by rw [flatF_append, flatF_one]; simpa using hown3
                clear hown3 HBS hgrow hown2 hbW2
                go_wp2
                go_roundw
                case rel => exact ⟨k + 1, _, by omega, by simp; omega, by go_num, hb3, HI, hown4⟩
                case measure => simp [intOf]; omega
            · have t2 : (((x[m + 1]'hml).toNat : Int) == 32) = false := by rw [beq_eq_false_iff_ne]; omega
              have HI : Hid _ := fd_other hml (fun h => h32 h.2) hfd.out
              clear h58 h32 hm
              go_wp2
              go_roundw
              case rel => exact ⟨m + 1, .inl (by omega), rfl, by go_num, hbq, HI⟩
              case measure => simp [intOf]; omega
          · have t1 : (((x[m]'hmx).toNat : Int) == 58) = false := by rw [beq_eq_false_iff_ne]; omega
            have HI : Hid _ := fd_other hml (fun h => h58 h.1) hfd.out
            clear h58 hm
            go_wp2
            go_roundw
            case rel => exact ⟨m + 1, .inl (by omega), rfl, by go_num, hbq, HI⟩
            case measure => simp [intOf]; omega
        · have hml2 : ¬ (m : Int) + 1 < (x.size : Int) := by omega
          have hmb : (m : Int) ≤ 4000000 := by omega
          have HI : Hid (GdInv xs l (k + 1)) := gd_none hkx (by rw [HX.out]; exact fd_end hml hfd.out) hinv.out
          have hownq := owns_below hown hbq (fun g hg => owns_lt hown hg)
          clear hm
          go_wp2
          go_roundw
          case rel => exact ⟨k + 1, l, by omega, by omega, by go_num, hbW, HI, hownq⟩
          case measure => simp [intOf]; omega
    · have HE : Hid _ := gd_end (by omega) hinv.out
      have hlt2 : ¬ (k : Int) < (n : Int) := by omega
      go_wp2
      go_ret
      exact ⟨_, l, rfl, hown, by omega, hbw, HE.out⟩

end Go.Proofs.YtmmkbgkiglmgeaaGreatDoor

namespace Go.Proofs.YtmmkbgkiglmgeaaGreatDoor
open Go.RowKit
open Go.Lib hiding intOf

theorem headL_len : ∀ (n : Nat) (r : List UInt8) (out : List (List UInt8)) (cur : List UInt8), r.length ≤ n → ∀ x ∈ (headL out cur r).1, x ∈ out ∨ x.length ≤ cur.length + r.length := by
  intro n
  induction n with
  | zero =>
    intro r out cur h x hx
    rw [headL_short out cur r (by omega)] at hx
    exact .inl hx
  | succ n ih =>
    intro r out cur h x hx
    match r, h with
    | [], _ => exact .inl hx
    | [_], _ => exact .inl hx
    | c :: d :: t, h =>
      rw [headL] at hx
      split at hx
      · split at hx
        · exact .inl hx
        · rcases ih t (out ++ [cur]) [] (by simp at h; omega) x hx with h1 | h1
          · rcases List.mem_append.1 h1 with h2 | h2
            · exact .inl h2
            · simp at h2; subst h2; exact .inr (by omega)
          · exact .inr (by simp at h1 ⊢; omega)
      · rcases ih (d :: t) out (cur ++ [c]) (by simp at h ⊢; omega) x hx with h1 | h1
        · exact .inl h1
        · exact .inr (by simp at h1 ⊢; omega)
theorem wordsL_len : ∀ (r : List UInt8) (out : List (List UInt8)) (cur : List UInt8), ∀ x ∈ wordsL out cur r, x ∈ out ∨ x.length ≤ cur.length + r.length := by
  intro r
  induction r with
  | nil =>
    intro out cur x hx
    rw [wordsL] at hx
    rcases List.mem_append.1 hx with h | h
    · exact .inl h
    · simp at h; subst h; exact .inr (by simp)
  | cons c t ih =>
    intro out cur x hx
    rw [wordsL] at hx
    split at hx
    · rcases ih (out ++ [cur]) [] x hx with h1 | h1
      · rcases List.mem_append.1 h1 with h2 | h2
        · exact .inl h2
        · simp at h2; subst h2; exact .inr (by omega)
      · exact .inr (by simp at h1 ⊢; omega)
    · rcases ih out (cur ++ [c]) x hx with h1 | h1
      · exact .inl h1
      · exact .inr (by simp at h1 ⊢; omega)
theorem fieldL_len : ∀ (n : Nat) (r cur a b : List UInt8), r.length ≤ n → fieldL cur r = some (a, b) → a.length ≤ cur.length + r.length ∧ b.length ≤ r.length := by
  intro n
  induction n with
  | zero =>
    intro r cur a b h he
    rw [fieldL_short cur r (by omega)] at he
    cases he
  | succ n ih =>
    intro r cur a b h he
    match r, h with
    | [], _ => cases he
    | [_], _ => cases he
    | c :: d :: t, h =>
      rw [fieldL] at he
      split at he
      · cases he
        simp; omega
      · have := ih (d :: t) (cur ++ [c]) a b (by simp at h ⊢; omega) he
        simp at this ⊢; omega
theorem fieldsL_len : ∀ (ls : List (List UInt8)), ∀ f ∈ fieldsL ls, ∃ x ∈ ls, f.1.length ≤ x.length ∧ f.2.length ≤ x.length := by
  intro ls
  induction ls with
  | nil => intro f hf; simp [fieldsL] at hf
  | cons l r ih =>
    intro f hf
    rw [fieldsL] at hf
    split at hf
    · rename_i g hg
      split at hf
      · obtain ⟨x, hx, h⟩ := ih f hf
        exact ⟨x, by simp [hx], h⟩
      · rcases List.mem_cons.1 hf with rfl | hf
        · have := fieldL_len l.length l [] f.1 f.2 (Nat.le_refl _) hg
          exact ⟨l, by simp, by simpa using this.1, this.2⟩
        · obtain ⟨x, hx, h⟩ := ih f hf
          exact ⟨x, by simp [hx], h⟩
    · obtain ⟨x, hx, h⟩ := ih f hf
      exact ⟨x, by simp [hx], h⟩
theorem map_bs_inj : ∀ {a b : List ByteArray}, a.map bs = b.map bs → a = b
  | [], [], _ => rfl
  | [], _ :: _, h => by simp at h
  | _ :: _, [], h => by simp at h
  | x :: r, y :: t, h => by
    simp only [List.map_cons, List.cons.injEq] at h
    rw [map_bs_inj h.2, bs_inj h.1]

/-- What is read of a text, ahead of the last look: the words of its first line, the fields of the others, what is behind. -/
structure Parts (s : ByteArray) (xs : List ByteArray) (k : Nat) (ws : List ByteArray) (l : List (ByteArray × ByteArray)) : Prop where
  head : headL [] [] (bs s) = (xs.map bs, some ((bs s).drop k))
  ne : xs ≠ []
  words : wordsL [] [] (bs (xs.headD ⟨#[]⟩)) = ws.map bs
  fields : fieldsL (xs.tail.map bs) = l.map bsP
/-- A request's text is read as the request. -/
theorem IsReq.parts {s : ByteArray} {m : Int} {p : ByteArray} {fs : List (ByteArray × ByteArray)} {b : ByteArray} (h : IsReq s m p fs b) {xs : List ByteArray} {k : Nat} {ws : List ByteArray} {l : List (ByteArray × ByteArray)} (hp : Parts s xs k ws l) :
    ∃ x, ws = [methB m, p, x] ∧ l = fs ∧ s.extract k s.size = b := by
  have e := hp.head.symm.trans (req_head h)
  simp only [Prod.mk.injEq, Option.some.injEq] at e
  obtain ⟨e1, e2⟩ := e
  obtain ⟨x0, xr, rfl⟩ : ∃ x0 xr, xs = x0 :: xr := by
    cases xs with
    | nil => exact absurd rfl hp.ne
    | cons a r => exact ⟨a, r, rfl⟩
  simp only [List.map_cons, List.cons.injEq] at e1
  have hw := hp.words
  simp only [List.headD_cons] at hw
  rw [e1.1, req_words h.1.1 h.1.2.1] at hw
  have hf := hp.fields
  simp only [List.tail_cons] at hf
  rw [e1.2, req_fields h.1.2.2.1] at hf
  refine ⟨⟨httpL.toArray⟩, map_bs_inj (by rw [← hw]; rfl), (pairs_inj hf).symm, bs_inj ?_⟩
  rw [bs_extract, List.take_of_length_le (i := s.size) (l := bs s) (by rw [bs_len]; omega)]
  exact e2

/-- What 'ReqRead' answers: the one request whose text this is, or nothing. -/
def ReqIs (s : ByteArray) (w : World) (e : Ending) (w' : World) : Prop :=
  (∃ (m : Int) (p : ByteArray) (fs : List (ByteArray × ByteArray)) (b : ByteArray) (v : Value), e = .returned (.tuple #[.agg #[.int .i64 m, .string p, v, .string b], .bool true]) ∧ IsReq s m p fs b ∧ w'.ownsRow w.heap.size 53 2 v fs.length (flatF fs) ∧ Below w.heap.size w w') ∨
  (e = .returned (.tuple #[.agg #[.int .i64 0, .string ⟨#[]⟩, .slice none 0 0, .string ⟨#[]⟩], .bool false]) ∧ (∀ m p fs b, ¬ IsReq s m p fs b) ∧ Below w.heap.size w w')

theorem slice_of_owns {w : World} {base : Nat} {t : TypeId} {size : Nat} {v : Value} {n : Nat} {xs : List Value} (h : w.ownsRow base t size v n xs) : ∃ oa cp, v = .slice oa n cp := by
  rcases h.2 with ⟨rfl, rfl⟩ | ⟨g, cap, cur, rfl, _⟩
  · exact ⟨none, 0, rfl⟩
  · exact ⟨_, cap, rfl⟩
theorem grown_below {w w' : World} (hb : Below w.heap.size w w') (row : Option Nat) : w.grownBy w' row := ⟨hb.os, hb.tape, hb.output, hb.size, fun k hk _ => hb.block k hk⟩
theorem grown_then {a w w' : World} {row : Option Nat} (h : a.grownBy w row) (k : w.grownBy w' row) : a.grownBy w' row :=
  ⟨k.os.trans h.os, k.tape.trans h.tape, k.output.trans h.output, Nat.le_trans h.size k.size, fun i hi hne => (k.block i (Nat.lt_of_lt_of_le hi h.size) hne).trans (h.block i hi hne)⟩
theorem grown_set (w : World) (r o : Nat) (v : Value) : w.grownBy (w.setCell ⟨r, o, none⟩ v) (some r) :=
  ⟨rfl, rfl, rfl, by simp, fun k _ hk => heap_setCell_other _ _ k _ (fun e => hk (by rw [e]))⟩
theorem below_grown {B r : Nat} {a b : World} (h : a.grownBy b (some r)) (hB : B ≤ a.heap.size) (hr : B ≤ r) : Below B a b :=
  ⟨h.os, h.tape, h.output, h.size, fun k hk => h.block k (by omega) (fun e => by have := Option.some.inj e; omega)⟩
theorem pair_of (fs : List (ByteArray × ByteArray)) (k : Nat) (h : k < fs.length) : (nameAt fs k, valAt fs k) = fs[k] := by
  unfold nameAt valAt
  rw [List.getD_eq_getElem?_getD, List.getElem?_eq_getElem h]
  rfl
/-- Every text of the fields of a text's lines is no longer than the text. -/
theorem walk_fields {s : ByteArray} {xs : List ByteArray} {o : Option (List UInt8)} {l : List (ByteArray × ByteArray)} (hh : headL [] [] (bs s) = (xs.map bs, o)) (hl : fieldsL (xs.tail.map bs) = l.map bsP) (hs : s.size ≤ maxLen) : WalkF l.length l := by
  intro i hi
  have hm : (bs (nameAt l i), bs (valAt l i)) ∈ fieldsL (xs.tail.map bs) := by
    rw [hl]
    exact List.mem_map.2 ⟨l[i], List.getElem_mem hi, by rw [← pair_of l i hi]; rfl⟩
  obtain ⟨x, hx, h1, h2⟩ := fieldsL_len _ _ hm
  obtain ⟨y, hy, rfl⟩ := List.mem_map.1 hx
  have hm2 : bs y ∈ (headL [] [] (bs s)).1 := by rw [hh]; exact List.mem_map_of_mem (List.mem_of_mem_tail hy)
  rcases headL_len _ (bs s) [] [] (Nat.le_refl _) _ hm2 with h3 | h3
  · simp at h3
  · simp only [bs_len, List.length_nil, Nat.zero_add] at h1 h2 h3
    omega
end Go.Proofs.YtmmkbgkiglmgeaaGreatDoor

namespace Go.Proofs.YtmmkbgkiglmgeaaGreatDoor
open Go.RowKit
open Go.Lib hiding intOf

theorem three_facts {W : World} {R : Nat} {a b c : Value} {t : TypeId} (h : W.heap[R]? = some (.cells #[a, b, c] t)) :
    (W.cell? ⟨R, 0, none⟩ = some a ∧ W.cell? ⟨R, 1, none⟩ = some b ∧ W.cell? ⟨R, 2, none⟩ = some c) ∧ W.frozen? ⟨R, 0, none⟩ = false ∧ W.frozen? ⟨R, 1, none⟩ = false ∧ W.frozen? ⟨R, 2, none⟩ = false := by
  refine ⟨⟨?_, ?_, ?_⟩, ?_, ?_, ?_⟩ <;> simp [World.cell?, World.frozen?, h]
/-- The three cells of an answer's memory, written. -/
def threeSet (w : World) (r : Nat) (a b c : Value) : World := ((w.setCell ⟨r, 0, none⟩ a).setCell ⟨r, 1, none⟩ b).setCell ⟨r, 2, none⟩ c
theorem three_set {W : World} {R : Nat} {a b c : Value} {t : TypeId} (h : W.heap[R]? = some (.cells #[a, b, c] t)) (a' b' c' : Value) : (threeSet W R a' b' c').heap[R]? = some (.cells #[a', b', c'] t) := by
  have := heap_set _ R 2 _ _ _ c' (heap_set _ R 1 _ _ _ b' (heap_set W R 0 _ _ _ a' h))
  simpa [threeSet] using this
theorem below_three {w W : World} {B R : Nat} {a b c : Value} (h : Below B w W) (hR : B ≤ R) : Below B w (threeSet W R a b c) :=
  ((h.setCell (p := ⟨R, 0, none⟩) hR _).setCell (p := ⟨R, 1, none⟩) hR _).setCell (p := ⟨R, 2, none⟩) hR _

end Go.Proofs.YtmmkbgkiglmgeaaGreatDoor

namespace Go.Proofs.YtmmkbgkiglmgeaaGreatDoor
open Go.RowKit

def cutA (s sep : ByteArray) : ByteArray := ⟨(Lib.cut s.data.toList sep.data.toList).1.toArray⟩
def cutB (s sep : ByteArray) : ByteArray := ⟨(Lib.cut s.data.toList sep.data.toList).2.1.toArray⟩
def trimP (s p : ByteArray) : ByteArray := ⟨(Lib.trimPrefix s.data.toList p.data.toList).toArray⟩
def hasP (s p : ByteArray) : Bool := Lib.hasPrefix s.data.toList p.data.toList
theorem bs_cutA (s sep : ByteArray) : bs (cutA s sep) = (Lib.cut (bs s) (bs sep)).1 := by simp [bs, cutA]
theorem bs_cutB (s sep : ByteArray) : bs (cutB s sep) = (Lib.cut (bs s) (bs sep)).2.1 := by simp [bs, cutB]
theorem bs_trimP (s p : ByteArray) : bs (trimP s p) = Lib.trimPrefix (bs s) (bs p) := by simp [bs, trimP]
theorem cutA_size (s sep : ByteArray) : (cutA s sep).size ≤ s.size := by
  rw [← bs_len, ← bs_len, bs_cutA]
  unfold Lib.cut
  split
  · simp; omega
  · exact Nat.le_refl _
theorem cutB_size (s sep : ByteArray) : (cutB s sep).size ≤ s.size := by
  rw [← bs_len, ← bs_len, bs_cutB]
  unfold Lib.cut
  split
  · simp
  · simp
theorem trimP_size (s p : ByteArray) : (trimP s p).size ≤ s.size := by
  rw [← bs_len, ← bs_len, bs_trimP]
  unfold Lib.trimPrefix
  split
  · simp
  · exact Nat.le_refl _
theorem index_at (c : UInt8) (t rest : List UInt8) : ∀ (pre : List UInt8), (∀ b ∈ pre, b ≠ c) → Lib.index (pre ++ ((c :: t) ++ rest)) (c :: t) = (pre.length : Int) := by
  intro pre
  induction pre with
  | nil => intro _; simp [Lib.index]
  | cons b r ih =>
    intro h
    have hb : b ≠ c := h b (by simp)
    have ih := ih (fun x hx => h x (by simp [hx]))
    rw [List.cons_append, Lib.index, if_neg (by simp [List.isPrefixOf]; intro e; exact absurd e.symm hb), ih]
    rw [if_neg (by rw [beq_iff_eq]; omega)]
    simp
theorem cut_of {s sep : ByteArray} {c : UInt8} {t rest pre : List UInt8} (hs : bs s = pre ++ ((c :: t) ++ rest)) (hp : bs sep = c :: t) (h : ∀ b ∈ pre, b ≠ c) : bs (cutA s sep) = pre ∧ bs (cutB s sep) = rest := by
  rw [bs_cutA, bs_cutB, hs, hp]
  unfold Lib.cut
  rw [index_at c t rest pre h, if_pos (by omega)]
  constructor
  · simp
  · simp
theorem trim_of {s p : ByteArray} {rest : List UInt8} (hs : bs s = bs p ++ rest) : bs (trimP s p) = rest := by
  rw [bs_trimP, hs]
  unfold Lib.trimPrefix Lib.hasPrefix
  rw [if_pos (by simp)]
  simp

def nmE : ByteArray := ⟨#[58, 32]⟩
def blE : ByteArray := ⟨#[32]⟩
/-- One line of a head taken: a field more, but for the length's line; nothing where the head is over. -/
def lineStep (x : List (ByteArray × ByteArray) × ByteArray) : List (ByteArray × ByteArray) × ByteArray :=
  if hasP x.2 lnE = true then x else (if cutA x.2 nmE = clen then x.1 else x.1 ++ [(cutA x.2 nmE, cutA (cutB x.2 nmE) lnE)], cutB (cutB x.2 nmE) lnE)
def lineTo (x : List (ByteArray × ByteArray) × ByteArray) : Nat → List (ByteArray × ByteArray) × ByteArray
  | 0 => x
  | k + 1 => lineStep (lineTo x k)
theorem line_stuck (x : List (ByteArray × ByteArray) × ByteArray) (k : Nat) (h : hasP (lineTo x k).2 lnE = true) : ∀ d, lineTo x (k + d) = lineTo x k := by
  intro d
  induction d with
  | zero => rfl
  | succ d ih =>
    rw [show k + (d + 1) = (k + d) + 1 by omega, lineTo, ih]
    unfold lineStep
    rw [if_pos h]
theorem lineTo_size (s : ByteArray) : ∀ k, (lineTo ([], s) k).1.length ≤ k ∧ (lineTo ([], s) k).2.size ≤ s.size ∧ ∀ f ∈ (lineTo ([], s) k).1, f.1.size ≤ s.size ∧ f.2.size ≤ s.size := by
  intro k
  induction k with
  | zero => exact ⟨Nat.le_refl _, Nat.le_refl _, fun f hf => by simp [lineTo] at hf⟩
  | succ k ih =>
    obtain ⟨h1, h2, h3⟩ := ih
    rw [lineTo]
    generalize lineTo ([], s) k = x at *
    have a1 := cutA_size x.2 nmE
    have a2 := cutB_size x.2 nmE
    have a3 := cutA_size (cutB x.2 nmE) lnE
    have a4 := cutB_size (cutB x.2 nmE) lnE
    unfold lineStep
    by_cases hh : hasP x.2 lnE = true
    · rw [if_pos hh]; exact ⟨by omega, h2, h3⟩
    · rw [if_neg hh]
      by_cases hc : cutA x.2 nmE = clen
      · rw [if_pos hc]; exact ⟨Nat.le_succ_of_le h1, Nat.le_trans a4 (Nat.le_trans a2 h2), h3⟩
      · rw [if_neg hc]
        refine ⟨by simp; omega, Nat.le_trans a4 (Nat.le_trans a2 h2), fun f hf => ?_⟩
        simp only [List.mem_append, List.mem_singleton] at hf
        rcases hf with hf | rfl
        · exact h3 f hf
        · exact ⟨Nat.le_trans a1 h2, Nat.le_trans a3 (Nat.le_trans a2 h2)⟩

/-- Fields whose lines can be read: no colon in a name, none begins with a line's end, none in a value. -/
def LineOk (f : ByteArray × ByteArray) : Prop := (∀ b ∈ bs f.1, b ≠ 58) ∧ (∃ c r, bs f.1 = c :: r ∧ c ≠ 13) ∧ ∀ b ∈ bs f.2, b ≠ 13
def keepF (xs : List (ByteArray × ByteArray)) : List (ByteArray × ByteArray) := xs.filter (fun f => decide (f.1 ≠ clen))
theorem lines_of (x : List (ByteArray × ByteArray) × ByteArray) (body : List UInt8) : ∀ (xs : List (ByteArray × ByteArray)), (∀ f ∈ xs, LineOk f) → ∀ k acc left, lineTo x k = (acc, left) → bs left = (xs.map fieldLine).flatMap (fun l => l ++ [13, 10]) ++ 13 :: 10 :: body →
    ∃ left', lineTo x (k + xs.length) = (acc ++ keepF xs, left') ∧ bs left' = 13 :: 10 :: body := by
  intro xs
  induction xs with
  | nil =>
    intro _ k acc left h1 h2
    exact ⟨left, by rw [show k + ([] : List (ByteArray × ByteArray)).length = k from rfl, h1]; simp [keepF], by simpa using h2⟩
  | cons f r ih =>
    intro hx k acc left h1 h2
    obtain ⟨hn, ⟨c, nr, hc, hc13⟩, hv⟩ := hx f (by simp)
    obtain ⟨rest, hrest⟩ : ∃ y, y = (r.map fieldLine).flatMap (fun l => l ++ [13, 10]) ++ 13 :: 10 :: body := ⟨_, rfl⟩
    have e1 : bs left = bs f.1 ++ ((58 :: [32]) ++ (bs f.2 ++ ((13 :: [10]) ++ rest))) := by
      rw [h2, hrest]; simp [fieldLine]
    have k1 := cut_of (sep := nmE) e1 rfl hn
    have k2 := cut_of (sep := lnE) k1.2 rfl hv
    have hno : ¬ hasP left lnE = true := by
      unfold hasP Lib.hasPrefix
      show ¬ List.isPrefixOf (bs lnE) (bs left) = true
      rw [e1, hc]
      intro e
      simp [bs, lnE, List.isPrefixOf] at e
      exact hc13 e.1.symm
    have hstep : lineTo x (k + 1) = (if f.1 = clen then acc else acc ++ [(f.1, f.2)], cutB (cutB left nmE) lnE) := by
      rw [lineTo, h1]
      unfold lineStep
      rw [if_neg hno]
      have n1 : cutA left nmE = f.1 := bs_inj k1.1
      have n2 : cutA (cutB left nmE) lnE = f.2 := bs_inj k2.1
      simp only [n1, n2]
    obtain ⟨left', g1, g2⟩ := ih (fun y hy => hx y (by simp [hy])) (k + 1) _ _ hstep (by rw [k2.2, hrest])
    refine ⟨left', ?_, g2⟩
    rw [List.length_cons, show k + (r.length + 1) = k + 1 + r.length by omega, g1]
    by_cases he : f.1 = clen
    · rw [if_pos he]; simp [keepF, he]
    · rw [if_neg he]; simp [keepF, he]

def restFs (s : ByteArray) : List (ByteArray × ByteArray) := (lineTo ([], s) 9).1
def restBody (s : ByteArray) : ByteArray := trimP (lineTo ([], s) 9).2 lnE
theorem rest_of {s : ByteArray} {xs : List (ByteArray × ByteArray)} {body : List UInt8} (hs : bs s = (xs.map fieldLine).flatMap (fun l => l ++ [13, 10]) ++ 13 :: 10 :: body) (hx : ∀ f ∈ xs, LineOk f) (hl : xs.length ≤ 9) : restFs s = keepF xs ∧ bs (restBody s) = body := by
  obtain ⟨left', g1, g2⟩ := lines_of ([], s) body xs hx 0 [] s rfl hs
  have hst := line_stuck ([], s) (0 + xs.length) (by
    rw [g1]
    unfold hasP Lib.hasPrefix
    show List.isPrefixOf (bs lnE) (bs left') = true
    rw [g2]
    simp [bs, lnE, List.isPrefixOf]) (9 - xs.length)
  rw [show 0 + xs.length + (9 - xs.length) = 9 by omega, g1] at hst
  unfold restFs restBody
  rw [hst]
  exact ⟨by simp, trim_of (by rw [g2]; simp [bs, lnE])⟩
theorem line_tok {f : ByteArray × ByteArray} (h : TokOk f.1 ∧ ValOk f.2 ∧ f.1 ≠ clen) : LineOk f := by
  have hT : ∀ b ∈ bs f.1, TokB (b.toNat : Int) := bs_all h.1.2.2
  refine ⟨fun b hb e => ?_, ?_, fun b hb => ?_⟩
  · have := hT b hb
    subst e
    unfold TokB at this
    simp at this
  · have hl : 1 ≤ (bs f.1).length := by rw [bs_len]; exact h.1.1
    cases hc : bs f.1 with
    | nil => rw [hc] at hl; simp at hl
    | cons c r =>
      refine ⟨c, r, rfl, fun e => ?_⟩
      have := hT c (by rw [hc]; simp)
      subst e
      unfold TokB at this
      simp at this
  · intro e
    have := (line_field h).2 b (by simp [fieldLine, hb])
    exact this e
theorem line_len (n : Nat) (h : n ≤ 1000000) : LineOk (clen, numText n) := by
  refine ⟨show ∀ b ∈ bs clen, b ≠ 58 by decide, ⟨99, [111, 110, 116, 101, 110, 116, 45, 108, 101, 110, 103, 116, 104], rfl, by decide⟩, fun b hb e => ?_⟩
  exact (line_clen n h).2 b (by rw [bs_num] at hb; simp [clenLine, hb]) e
theorem keep_all {fs : List (ByteArray × ByteArray)} (h : ∀ f ∈ fs, TokOk f.1 ∧ ValOk f.2 ∧ f.1 ≠ clen) : keepF fs = fs := by
  unfold keepF
  rw [List.filter_eq_self]
  intro f hf
  simpa using (h f hf).2.2
theorem keep_len {fs : List (ByteArray × ByteArray)} (h : ∀ f ∈ fs, TokOk f.1 ∧ ValOk f.2 ∧ f.1 ≠ clen) (n : Nat) : keepF (fs ++ [(clen, numText n)]) = fs := by
  have := keep_all h
  unfold keepF at this ⊢
  rw [List.filter_append, this]
  simp
/-- What stands behind the first line of a right message is read as it was. -/
theorem rest_read {s : ByteArray} {fs : List (ByteArray × ByteArray)} {b : ByteArray} (hf : FldsOk fs) (hb : b.size ≤ 120) (tell : Bool) (hs : bs s = (fs.map fieldLine ++ (if tell then [clenLine b.size] else [])).flatMap (fun l => l ++ [13, 10]) ++ 13 :: 10 :: bs b) : restFs s = fs ∧ restBody s = b := by
  have hm := flds_mem hf
  have h8 := hf.1
  cases tell
  · have h := rest_of (xs := fs) (s := s) (body := bs b) (by rw [hs]; simp) (fun f hf => line_tok (hm f hf)) (by omega)
    exact ⟨by rw [h.1, keep_all hm], bs_inj h.2⟩
  · have h := rest_of (xs := fs ++ [(clen, numText b.size)]) (s := s) (body := bs b) (by rw [hs]; simp [fieldLine, clenLine, clenL, clen, ← bs_num]; rfl) (fun f hf => by
      simp only [List.mem_append, List.mem_singleton] at hf
      rcases hf with hf | rfl
      · exact line_tok (hm f hf)
      · exact line_len _ (by omega)) (by simp; omega)
    exact ⟨by rw [h.1, keep_len hm], bs_inj h.2⟩

def dotLn : ByteArray := ⟨#[46, 13, 10]⟩
/-- What is left of an answer's text behind its first line. -/
def respRest (s : ByteArray) : ByteArray := trimP (cutB (trimP s httpAhead) blE) dotLn
def respNum (s : ByteArray) : ByteArray := cutA (trimP s httpAhead) blE
theorem resp_read {s : ByteArray} {st : Int} {fs : List (ByteArray × ByteArray)} {b : ByteArray} (h : IsResp s st fs b) :
    respNum s = numText st.toNat ∧ restFs (respRest s) = fs ∧ restBody (respRest s) = b := by
  obtain ⟨⟨hm, hf, hb⟩, rfl⟩ := h
  obtain ⟨rest, hrest⟩ : ∃ y, y = (fs.map fieldLine ++ [clenLine b.size]).flatMap (fun l => l ++ [13, 10]) ++ 13 :: 10 :: bs b := ⟨_, rfl⟩
  have e0 : bs (respT st fs b) = bs httpAhead ++ (numL st.toNat ++ ((32 :: []) ++ (bs dotLn ++ rest))) := by
    rw [bs_respT, hrest]
    simp [respLine, httpL, bs, httpAhead, dotLn]
  have k0 := trim_of (p := httpAhead) e0
  have k1 := cut_of (sep := blE) k0 rfl (fun x hx e => by
    have := (numL_dig st.toNat (by omega)).2 x hx
    subst e
    unfold DigB at this
    simp at this)
  have k3 := trim_of (p := dotLn) k1.2
  have k4 := rest_read (s := respRest (respT st fs b)) hf hb true (by rw [show bs (respRest (respT st fs b)) = rest from k3, hrest]; simp)
  exact ⟨bs_inj (by rw [bs_num]; exact k1.1), k4.1, k4.2⟩

end Go.Proofs.YtmmkbgkiglmgeaaGreatDoor

namespace Go.Proofs.YtmmkbgkiglmgeaaGreatDoor
open Go.RowKit
open Go.Lib hiding intOf

/-- The word that strings.Index reads holds some int. -/
def LenOk (w : World) : Prop := ∃ m : Int, w.cell? ⟨0, 0, none⟩ = some (.int .i64 m)
theorem LenOk.lt {w : World} (h : LenOk w) : 0 < w.heap.size := by
  obtain ⟨m, hm⟩ := h
  exact World.block_lt_of_cell? w _ hm
theorem LenOk.below {B : Nat} {w w' : World} (h : LenOk w) (hb : Below B w w') (hB : 0 < B) : LenOk w' := by
  obtain ⟨m, hm⟩ := h
  exact ⟨m, by rw [hb.cell (p := ⟨0, 0, none⟩) hB]; exact hm⟩

/-- A reader: what is left to be read. -/
def Reader (w : World) (b : Nat) (left : ByteArray) : Prop := w.heap[b]? = some (.cells #[.string left] 50)
theorem Reader.cell {w : World} {b : Nat} {left : ByteArray} (h : Reader w b left) : w.cell? ⟨b, 0, none⟩ = some (.string left) := by
  unfold Reader at h
  simp [World.cell?, h]
theorem Reader.frozen {w : World} {b : Nat} {left : ByteArray} (h : Reader w b left) : w.frozen? ⟨b, 0, none⟩ = false := by
  unfold Reader at h
  simp [World.frozen?, h]
theorem Reader.put {w : World} {b : Nat} {left : ByteArray} (h : Reader w b left) (x : ByteArray) : Reader (w.setCell ⟨b, 0, none⟩ (.string x)) b x := by
  unfold Reader at h ⊢
  rw [heap_set _ _ _ _ _ _ _ h]
  rfl
/-- What a reader took: what is left, and nothing else has turned. -/
def Took (b : Nat) (left : ByteArray) (w w' : World) : Prop := Reader w' b left ∧ w.grownBy w' (some b)

set_option maxHeartbeats 400000 in
theorem upTo_any (b : Nat) (left sep : ByteArray) (w : World) (h : Reader w b left) (hl : left.size ≤ 4000000) (hm : LenOk w) :
    Calls Tryz.prog 39 #[.pointer (some ⟨b, 0, none⟩), .string sep] w fun e w' => e = .returned (.string (cutA left sep)) ∧ Took b (cutB left sep) w w' := by
  obtain ⟨m, hm⟩ := hm
  have hc := h.cell
  obtain ⟨x, hx⟩ : ∃ x, x = cutA left sep := ⟨_, rfl⟩
  obtain ⟨y, hy⟩ : ∃ y, y = cutB left sep := ⟨_, rfl⟩
  have HX : Hid ((⟨(Lib.cut left.data.toList sep.data.toList).1.toArray⟩ : ByteArray) = x) := hx.symm
  have HY : Hid ((⟨(Lib.cut left.data.toList sep.data.toList).2.1.toArray⟩ : ByteArray) = y) := hy.symm
  rw [← hx, ← hy]
  clear hx hy
  go_enter Tryz.func39, Tryz.ntmps39
  go_wp2_with fail
  refine (Tryz.strings_Cut left sep m _ (by omega) hm).mono ?_
  rintro e w1 ⟨rfl, k, rfl⟩
  rw [HX.out, HY.out]
  generalize (Lib.cut left.data.toList sep.data.toList).2.2 = t
  have h1 : Reader (w.drewN k) b left := h
  have hg : w.grownBy (w.drewN k) (some b) := ⟨rfl, rfl, rfl, Nat.le_refl _, fun _ _ _ => rfl⟩
  have hc1 := h1.cell
  have hf1 := h1.frozen
  have HT : Hid (Took b y w ((w.drewN k).setCell ⟨b, 0, none⟩ (.string y))) := ⟨h1.put y, grown_then hg (grown_set _ _ _ _)⟩
  clear hc h hm h1 hg
  go_wp2_with fail
  go_ret
  exact ⟨rfl, HT.out⟩

set_option maxHeartbeats 400000 in
theorem pass_any (b : Nat) (left word : ByteArray) (w : World) (h : Reader w b left) :
    Calls Tryz.prog 37 #[.pointer (some ⟨b, 0, none⟩), .string word] w fun e w' => e = .returned (.tuple #[]) ∧ Took b (trimP left word) w w' := by
  have hc := h.cell
  have hf := h.frozen
  have HT : Hid (Took b (trimP left word) w (w.setCell ⟨b, 0, none⟩ (.string (trimP left word)))) := ⟨h.put _, grown_set _ _ _ _⟩
  obtain ⟨y, hy⟩ : ∃ y, y = trimP left word := ⟨_, rfl⟩
  have HY : Hid ((⟨(Lib.trimPrefix left.data.toList word.data.toList).toArray⟩ : ByteArray) = y) := hy.symm
  rw [← hy] at HT ⊢
  clear hy h
  go_enter Tryz.func37, Tryz.ntmps37
  go_wp2_with fail
  refine (Tryz.strings_TrimPrefix left word _).mono ?_
  rintro e w1 ⟨rfl, rfl⟩
  rw [HY.out]
  go_wp2_with fail
  exact bodyPost_end (v := .tuple #[]) (by simp [results, Tryz.results37, go_sem]) rfl ⟨rfl, HT.out⟩

set_option maxHeartbeats 400000 in
theorem headIsOver_any (b : Nat) (left : ByteArray) (w : World) (h : Reader w b left) :
    Calls Tryz.prog 57 #[.pointer (some ⟨b, 0, none⟩)] w fun e w' => e = .returned (.bool (hasP left lnE)) ∧ w' = w := by
  have hc := h.cell
  obtain ⟨t, ht⟩ : ∃ t, t = hasP left lnE := ⟨_, rfl⟩
  rw [← ht]
  go_enter Tryz.func57, Tryz.ntmps57
  go_wp2_with fail
  refine (Tryz.strings_HasPrefix left lnE _).mono ?_
  rintro e w1 ⟨rfl, rfl⟩
  have HT : Hid (Lib.hasPrefix left.data.toList lnE.data.toList = t) := ht.symm
  rw [HT.out]
  clear ht
  go_wp2_with fail
  go_ret
  exact ⟨rfl, rfl⟩

/-- A message that is being read: what is left, and the fields so far. -/
structure RdSt (w : World) (B b q : Nat) (T : TypeId) (bd : ByteArray) (tl : List Value) (fs : List (ByteArray × ByteArray)) (left : ByteArray) (fv : Value) (W : World) : Prop where
  rd : Reader W b left
  qc : W.heap[q]? = some (.cells ⟨fv :: .string bd :: tl⟩ T)
  own : W.ownsRow B 53 2 fv fs.length (flatF fs)
  low : Below B w W
/-- A message's block is no row of fields. -/
def TypeOk (T : TypeId) : Prop := T ≠ 53
theorem own_not {w : World} {base : Nat} {t : TypeId} {size : Nat} {v : Value} {n : Nat} {xs : List Value} {j : Nat} {cs : Array Value} {T : TypeId} {fr : Nat × Nat} (h : w.ownsRow base t size v n xs) (hT : T ≠ t) (hj : w.heap[j]? = some (.cells cs T fr)) : v.ownBlock ≠ some j := by
  intro e
  rcases h.2 with ⟨rfl, _⟩ | ⟨g, cap, cur, rfl, _, h1, _⟩
  · cases e
  · cases e
    rw [h1] at hj
    cases hj
    exact hT rfl
theorem owns_block_lt {w : World} {base : Nat} {t : TypeId} {size : Nat} {v : Value} {n : Nat} {xs : List Value} {j : Nat} (h : w.ownsRow base t size v n xs) (hj : v.ownBlock = some j) : base ≤ j ∧ j < w.heap.size := by
  rcases h.2 with ⟨rfl, _⟩ | ⟨g, cap, cur, rfl, h0, h1, _⟩
  · cases hj
  · cases hj
    exact ⟨h0, (Array.getElem?_eq_some_iff.1 h1).1⟩
theorem RdSt.bq {w : World} {B b q : Nat} {T : TypeId} {bd : ByteArray} {tl : List Value} {fs : List (ByteArray × ByteArray)} {left : ByteArray} {fv : Value} {W : World} (h : RdSt w B b q T bd tl fs left fv W) : q ≠ b := by
  intro e
  subst e
  have := h.rd
  unfold Reader at this
  rw [h.qc] at this
  cases this
/-- The reader took a piece: all else stands. -/
theorem RdSt.took {w : World} {B b q : Nat} {T : TypeId} {bd : ByteArray} {tl : List Value} {fs : List (ByteArray × ByteArray)} {left left' : ByteArray} {fv : Value} {W W' : World} (h : RdSt w B b q T bd tl fs left fv W) (hB : B ≤ W.heap.size) (hb : B ≤ b) (ht : Took b left' W W') : RdSt w B b q T bd tl fs left' fv W' := by
  have hq := h.bq
  have hqlt : q < W.heap.size := (Array.getElem?_eq_some_iff.1 h.qc).1
  refine ⟨ht.1, ?_, ?_, h.low.trans (below_grown ht.2 hB hb)⟩
  · rw [ht.2.block q hqlt (by simpa using hq)]; exact h.qc
  · refine owns_same h.own (fun j hj => ?_)
    have hlt := (owns_block_lt h.own hj).2
    refine ht.2.block j hlt ?_
    intro e
    cases e
    have := h.rd
    unfold Reader at this
    exact own_not h.own (by decide) this hj
/-- Memory was made: all stands. -/
theorem RdSt.below {w : World} {B b q : Nat} {T : TypeId} {bd : ByteArray} {tl : List Value} {fs : List (ByteArray × ByteArray)} {left : ByteArray} {fv : Value} {W W' : World} (h : RdSt w B b q T bd tl fs left fv W) (hB : B ≤ W.heap.size) (hb : Below W.heap.size W W') : RdSt w B b q T bd tl fs left fv W' := by
  have hqlt : q < W.heap.size := (Array.getElem?_eq_some_iff.1 h.qc).1
  have hblt : b < W.heap.size := (Array.getElem?_eq_some_iff.1 h.rd).1
  refine ⟨?_, ?_, ?_, h.low.trans (hb.mono hB)⟩
  · have := h.rd
    unfold Reader at this ⊢
    rw [hb.block b hblt]; exact this
  · rw [hb.block q hqlt]; exact h.qc
  · exact owns_same h.own (fun j hj => hb.block j (owns_block_lt h.own hj).2)
theorem RdSt.qcell {w : World} {B b q : Nat} {T : TypeId} {bd : ByteArray} {tl : List Value} {fs : List (ByteArray × ByteArray)} {left : ByteArray} {fv : Value} {W : World} (h : RdSt w B b q T bd tl fs left fv W) : W.cell? ⟨q, 0, none⟩ = some fv ∧ W.cell? ⟨q, 1, none⟩ = some (.string bd) ∧ W.frozen? ⟨q, 0, none⟩ = false ∧ W.frozen? ⟨q, 1, none⟩ = false := by
  have := h.qc
  refine ⟨?_, ?_, ?_, ?_⟩ <;> simp [World.cell?, World.frozen?, this]
/-- A field more, appended and laid into the message. -/
theorem RdSt.more {w : World} {B b q : Nat} {T : TypeId} {bd : ByteArray} {tl : List Value} {fs : List (ByteArray × ByteArray)} {left nm vl : ByteArray} {fv : Value} {W W' : World} {v' : Value} {o : Obj} (h : RdSt w B b q T bd tl fs left fv W) (hT : TypeOk T) (hB : B ≤ W.heap.size) (hq : B ≤ q)
    (hg : (W.alloc o).grownBy W' fv.ownBlock) (hown : W'.ownsRow B 53 2 v' (fs.length + 1) (flatF fs ++ [.string nm, .string vl])) :
    (W'.heap[q]? = some (.cells ⟨fv :: .string bd :: tl⟩ T)) ∧ RdSt w B b q T bd tl (fs ++ [(nm, vl)]) left v' (W'.setCell ⟨q, 0, none⟩ v') := by
  have hqlt : q < W.heap.size := (Array.getElem?_eq_some_iff.1 h.qc).1
  have hblt : b < W.heap.size := (Array.getElem?_eq_some_iff.1 h.rd).1
  have hne := h.bq
  have k1 : W'.heap[q]? = some (.cells ⟨fv :: .string bd :: tl⟩ T) := by
    rw [hg.block q (by simp; omega) (fun e => own_not h.own hT h.qc e.symm), heap_alloc_old W _ hqlt]; exact h.qc
  have k2 : W'.heap[b]? = some (.cells #[.string left] 50) := by
    have hr := h.rd
    unfold Reader at hr
    rw [hg.block b (by simp; omega) (fun e => own_not h.own (by decide) hr e.symm), heap_alloc_old W _ hblt]; exact hr
  have hz : ∀ g, fv.ownBlock = some g → B ≤ g := fun g hg => (owns_block_lt h.own hg).1
  have low1 : Below B w W' := (h.low.alloc hB o).grown hg (by simp; omega) hz
  refine ⟨k1, ⟨?_, ?_, ?_, low1.setCell (p := ⟨q, 0, none⟩) hq _⟩⟩
  · show _ = _
    rw [heap_setCell_other _ _ b _ (fun e => hne e.symm)]; exact k2
  · rw [heap_set _ _ _ _ _ _ _ k1]; rfl
  · rw [flatF_append, flatF_one, List.length_append]
    refine owns_same hown (fun j hj => ?_)
    rw [heap_setCell_other _ _ j _ (fun e => by
      subst e
      exact own_not hown hT k1 hj)]

def lineFs (fs : List (ByteArray × ByteArray)) (left : ByteArray) : List (ByteArray × ByteArray) := if cutA left nmE = clen then fs else fs ++ [(cutA left nmE, cutA (cutB left nmE) lnE)]
def lineLeft (left : ByteArray) : ByteArray := cutB (cutB left nmE) lnE
set_option maxHeartbeats 1000000 in
set_option maxRecDepth 100000 in
theorem readLine_any (w0 : World) (B b q : Nat) (T : TypeId) (bd : ByteArray) (tl : List Value) (fs : List (ByteArray × ByteArray)) (left : ByteArray) (fv : Value) (w : World) (hst : RdSt w0 B b q T bd tl fs left fv w) (hT : TypeOk T) (hB : B ≤ w.heap.size) (hbB : B ≤ b) (hqB : B ≤ q) (hl : left.size ≤ 4000000) (hn : fs.length ≤ 1000) (hlen : LenOk w0) (hlB : 0 < B) :
    Calls Tryz.prog 58 #[.pointer (some ⟨q, 0, none⟩), .pointer (some ⟨b, 0, none⟩)] w fun e w' => e = .returned (.tuple #[]) ∧ ∃ fv', RdSt w0 B b q T bd tl (lineFs fs left) (lineLeft left) fv' w' := by
  obtain ⟨i0, hi, hz0, hz1, hz2⟩ := info_parts info33
  have hlen0 := hlen.below hst.low hlB
  have z1 := cutA_size left nmE
  have z2 := cutB_size left nmE
  have z3 := cutA_size (cutB left nmE) lnE
  go_enter Tryz.func58, Tryz.ntmps58
  go_wp2_with fail
  refine (upTo_any b left nmE _ hst.rd hl hlen0).mono ?_
  rintro e w1 ⟨rfl, ht1⟩
  have hst1 := hst.took hB hbB ht1
  have hB1 : B ≤ w1.heap.size := Nat.le_trans hB ht1.2.size
  have hlen1 := hlen.below hst1.low hlB
  clear hst ht1 hlen0 hB
  go_wp2_with fail
  refine (upTo_any b (cutB left nmE) lnE _ hst1.rd (by omega) hlen1).mono ?_
  rintro e w2 ⟨rfl, ht2⟩
  have hst2 := hst1.took hB1 hbB ht2
  have hB2 : B ≤ w2.heap.size := Nat.le_trans hB1 ht2.2.size
  clear hst1 ht2 hlen1 hB1
  obtain ⟨nm, hnm⟩ : ∃ x, x = cutA left nmE := ⟨_, rfl⟩
  obtain ⟨vl, hvl⟩ : ∃ x, x = cutA (cutB left nmE) lnE := ⟨_, rfl⟩
  obtain ⟨lf, hlf⟩ : ∃ x, x = cutB (cutB left nmE) lnE := ⟨_, rfl⟩
  rw [← hnm] at z1
  rw [← hvl] at z3
  rw [← hlf] at hst2
  rw [← hnm, ← hvl]
  have HLF : Hid (lineLeft left = lf) := hlf.symm
  by_cases hcl : nm = clen
  · have HFS : Hid (lineFs fs left = fs) := by
      show _ = _
      unfold lineFs
      rw [← hnm, if_pos hcl]
    have ht : (nm.toList == clen.toList) = true := (text_beq _ _).2 hcl
    rw [clen_list] at ht
    have HS2 : Hid (RdSt w0 B b q T bd tl fs lf fv w2) := hst2
    clear hnm hvl hlf hst2 hcl
    go_wp2_with fail
    exact bodyPost_end (v := .tuple #[]) (by simp [results, Tryz.results58, go_sem]) rfl ⟨rfl, fv, by rw [HFS.out, HLF.out]; exact HS2.out⟩
  · have HFS : Hid (lineFs fs left = fs ++ [(nm, vl)]) := by
      show _ = _
      unfold lineFs
      rw [← hnm, if_neg hcl, ← hvl]
    have ht := text_beq_no hcl
    rw [clen_list] at ht
    have HS2 : Hid (RdSt w0 B b q T bd tl fs lf fv w2) := hst2
    clear hnm hvl hlf hst2 hcl
    obtain ⟨oa, cp, rfl⟩ := slice_of_owns HS2.out.own
    obtain ⟨n, hn0⟩ : ∃ n, n = fs.length := ⟨_, rfl⟩
    have HN : Hid (n = fs.length) := hn0
    rw [← hn0] at HS2 hn
    clear hn0
    have HA : Hid (∀ W, Below w2.drew.heap.size w2.drew W → Hid (RdSt w0 B b q T bd tl fs lf (.slice oa n cp) W) ∧ Hid (W.ownsRow B 53 2 (.slice oa n cp) n (flatF fs)) ∧ W.cell? ⟨q, 0, none⟩ = some (.slice oa n cp) ∧ (∀ o, (W.alloc o).cell? ⟨q, 0, none⟩ = some (.slice oa n cp)) ∧ Hid (B ≤ W.heap.size) ∧ Hid (∀ o, B ≤ (W.alloc o).heap.size)) := fun W hW => by
      have hd : RdSt w0 B b q T bd tl fs lf (.slice oa n cp) w2.drew := HS2.out.below hB2 ((Below.refl _ _).drew)
      have h3 := hd.below hB2 hW
      have h4 : B ≤ W.heap.size := Nat.le_trans hB2 hW.size
      refine ⟨h3, by have := h3.own; rw [← HN.out] at this; exact this, h3.qcell.1, fun o => ?_, h4, fun o => by simp; omega⟩
      exact (h3.below h4 ((Below.refl _ _).alloc (Nat.le_refl _) o)).qcell.1
    have HM : Hid (∀ W3 W4 g cap, Hid (RdSt w0 B b q T bd tl fs lf (.slice oa n cp) W3) → Hid (B ≤ W3.heap.size) → (W3.alloc (.cells #[.string nm, .string vl] 53)).grownBy W4 (Value.slice oa n cp).ownBlock → W4.ownsRow B 53 2 (.slice (some ⟨g, 0, none⟩) (n + 1) cap) (n + 1) (flatF fs ++ [.string nm, .string vl]) → W4.cell? ⟨q, 0, none⟩ = some (.slice oa n cp) ∧ W4.frozen? ⟨q, 0, none⟩ = false ∧ Hid (RdSt w0 B b q T bd tl (fs ++ [(nm, vl)]) lf (.slice (some ⟨g, 0, none⟩) (n + 1) cap) (W4.setCell ⟨q, 0, none⟩ (.slice (some ⟨g, 0, none⟩) (n + 1) cap)))) := fun W3 W4 g cap h3 h4 hg ho => by
      obtain ⟨k1, k2⟩ := h3.out.more hT h4.out hqB hg (v' := .slice (some ⟨g, 0, none⟩) (n + 1) cap) (nm := nm) (vl := vl) (by rw [← HN.out]; exact ho)
      exact ⟨by simp [World.cell?, k1], by simp [World.frozen?, k1], k2⟩
    have hc2 : w2.cell? ⟨q, 0, none⟩ = some (.slice oa n cp) := HS2.out.qcell.1
    have h63 : n + 1 ≤ maxLen := by unfold maxLen; omega
    have h47 : (n + 1) * 32 ≤ 140737488355328 := by omega
    have y1 : nm.size ≤ 281474976710656 := by omega
    have y2 : vl.size ≤ 281474976710656 := by omega
    clear HS2 hT hlen z1 z2 z3 hl hn
    go_wp2_with fail
    go_region_law (first | (go_simp; go_at_call 70; refine (newField_any nm vl _ y1 y2).mono ?_; rintro e w3 ⟨rfl, bb3⟩; obtain ⟨HS3, HO3, hc3, hca3, HB3, HBA3⟩ := HA.out w3 bb3; clear bb3) | ((refine step_append_lies _ (by rfl) _ _ _ (by rfl) B 53 i0 (.agg #[.string ⟨#[]⟩, .string ⟨#[]⟩]) 2 32 Tryz.underlying37 hi hz0 hz1 hz2 rfl (by omega) (.slice oa n cp) n (flatF fs) (by rfl) (HO3.out.alloc _) ⟨w3.heap.size, 0, none⟩ 1 1 [.string nm, .string vl] (by rfl) (by rfl) (World.news_of_block (cs := #[.string nm, .string vl]) (t := 53) (fr := (0, 0)) (heap_alloc_new w3 _)) (by simp [Value.oneCell']) (by omega) h63 h47 (HBA3.out _) (w3.heap.size + 1) (by simp) ?_; intro g4 cap4 w4 hown4 hgrow4 hat4 hlt4; obtain ⟨hc4, hf4, HS4⟩ := HM.out w3 w4 g4 cap4 HS3 HB3 hgrow4 hown4; clear hown4 hgrow4 hat4 hlt4)))
    all_goals
      go_wp2_with fail
      exact bodyPost_end (v := .tuple #[]) (by simp [results, Tryz.results58, go_sem]) rfl ⟨rfl, _, by rw [HFS.out, HLF.out]; exact HS4.out⟩

end Go.Proofs.YtmmkbgkiglmgeaaGreatDoor

namespace Go.Proofs.YtmmkbgkiglmgeaaGreatDoor
open Go.RowKit
open Go.Lib hiding intOf

/-- What is right of what stands behind the first line. -/
def RestP (fs : List (ByteArray × ByteArray)) (b : ByteArray) : Prop := FldsOk fs ∧ b.size ≤ 120
set_option maxHeartbeats 1000000 in
theorem restOk_any (v : Value) (b : ByteArray) (n base : Nat) (fs : List (ByteArray × ByteArray)) (w : World) (hv : FieldsV w base v n fs) (hn : n ≤ 1073741824) (hsz : WalkF n fs) (hb : b.size ≤ maxLen) :
    Calls Tryz.prog 36 #[.agg #[v, .string b]] w fun e w' => BoolIs (RestP fs b) w e w' := by
  obtain ⟨oa, cap, rfl, _⟩ := hv.slice
  obtain ⟨r, hr⟩ : ∃ r, r = w.heap.size := ⟨_, rfl⟩
  have HR : Hid (∀ W, Below (w.alloc (.cells #[.slice oa n cap, .string b] 39)).heap.size (w.alloc (.cells #[.slice oa n cap, .string b] 39)) W → (W.cell? ⟨r, 0, none⟩ = some (.slice oa n cap) ∧ W.cell? ⟨r, 1, none⟩ = some (.string b)) ∧ FieldsV W base (.slice oa n cap) n fs ∧ Below w.heap.size w W) := fun W h => by
    have hh := kept_new h
    rw [← hr] at hh
    exact ⟨⟨by simp [World.cell?, hh], by simp [World.cell?, hh]⟩, hv.below (below_new h), below_new h⟩
  obtain ⟨_, hv0, _⟩ := HR.out _ (Below.refl _ _)
  unfold maxLen at hb
  go_enter Tryz.func36, Tryz.ntmps36
  go_wp2_with fail
  refine (ok_any _ n base fs _ hv0 hn hsz).mono ?_
  rintro e w1 ⟨b1, rfl, kb1, bb1⟩
  rw [← hr]
  obtain ⟨⟨c0, c1⟩, _, hbw1⟩ := HR.out w1 bb1
  clear hv hv0 hsz bb1 hr
  cases b1
  · have HF : Hid (¬ RestP fs b) := fun h => by have := kb1.2 h.1; cases this
    clear kb1
    go_wp2_with fail
    go_ret
    exact BoolIs.no HF.out hbw1
  · have HT : Hid (FldsOk fs) := kb1.1 rfl
    clear kb1
    by_cases h120 : (b.size : Int) ≤ 120
    · have HY : Hid (RestP fs b) := ⟨HT.out, by omega⟩
      go_wp2_with fail
      go_ret
      exact BoolIs.yes HY.out hbw1
    · have HF : Hid (¬ RestP fs b) := fun h => by have := h.2; omega
      have hd : decide ((b.size : Int) ≤ 120) = false := by simpa using h120
      go_wp2_with fail
      go_ret
      exact BoolIs.no HF.out hbw1

set_option maxHeartbeats 1000000 in
theorem respOk_any (st : Int) (v : Value) (b : ByteArray) (n base : Nat) (fs : List (ByteArray × ByteArray)) (w : World) (hv : FieldsV w base v n fs) (hn : n ≤ 1073741824) (hsz : WalkF n fs) (hb : b.size ≤ maxLen) :
    Calls Tryz.prog 20 #[.agg #[v, .string b, .int .i64 st]] w fun e w' => BoolIs (RespP st fs b) w e w' := by
  obtain ⟨oa, cap, rfl, _⟩ := hv.slice
  obtain ⟨r, hr⟩ : ∃ r, r = w.heap.size := ⟨_, rfl⟩
  have HR : Hid (∀ W, Below (w.alloc (.cells #[.slice oa n cap, .string b, .int .i64 st] 41)).heap.size (w.alloc (.cells #[.slice oa n cap, .string b, .int .i64 st] 41)) W → (W.cell? ⟨r, 0, none⟩ = some (.slice oa n cap) ∧ W.cell? ⟨r, 1, none⟩ = some (.string b) ∧ W.cell? ⟨r, 2, none⟩ = some (.int .i64 st)) ∧ FieldsV W base (.slice oa n cap) n fs ∧ Below w.heap.size w W) := fun W h => by
    have hh := kept_new h
    rw [← hr] at hh
    exact ⟨⟨by simp [World.cell?, hh], by simp [World.cell?, hh], by simp [World.cell?, hh]⟩, hv.below (below_new h), below_new h⟩
  obtain ⟨_, hv0, hbw0⟩ := HR.out _ (Below.refl _ _)
  have HV0 : Hid (FieldsV (w.alloc (.cells #[.slice oa n cap, .string b, .int .i64 st] 41)) base (.slice oa n cap) n fs) := hv0
  have HSZ : Hid (WalkF n fs) := hsz
  have HBS : Hid (b.size ≤ maxLen) := hb
  clear hv hv0 hsz hb
  by_cases h1 : 100 ≤ st
  · by_cases h2 : st ≤ 599
    · go_enter Tryz.func20, Tryz.ntmps20
      go_wp2_with fail
      refine (restOk_any _ b n base fs _ HV0.out hn HSZ.out HBS.out).mono ?_
      rintro e w3 ⟨b2, rfl, kb2, bb3⟩
      obtain ⟨_, _, hbw3⟩ := HR.out w3 bb3
      clear bb3 hbw0
      cases b2
      · have HF : Hid (¬ RespP st fs b) := fun h => by have := kb2.2 h.2; cases this
        clear kb2
        go_wp2_with fail
        go_ret
        exact BoolIs.no HF.out hbw3
      · have HY : Hid (RespP st fs b) := ⟨⟨h1, h2⟩, kb2.1 rfl⟩
        clear kb2
        go_wp2_with fail
        go_ret
        exact BoolIs.yes HY.out hbw3
    · have HF : Hid (¬ RespP st fs b) := fun h => h2 h.1.2
      have hd : decide (st ≤ 599) = false := by simpa using h2
      go_enter Tryz.func20, Tryz.ntmps20
      go_wp2_with fail
      go_ret
      exact BoolIs.no HF.out hbw0
  · have HF : Hid (¬ RespP st fs b) := fun h => h1 h.1.1
    have hd : decide (100 ≤ st) = false := by simpa using h1
    go_enter Tryz.func20, Tryz.ntmps20
    go_wp2_with fail
    go_ret
    exact BoolIs.no HF.out hbw0

set_option maxHeartbeats 400000 in
theorem answerOf_any (m : Int) (oa : Option Addr) (n cap : Nat) (b : ByteArray) (w : World) :
    Calls Tryz.prog 15 #[.agg #[.int .i64 m, .slice oa n cap, .string b]] w fun e w' => e = .returned (.agg #[.slice oa n cap, .string b, .int .i64 m]) ∧ Below w.heap.size w w' := by
  go_enter Tryz.func15, Tryz.ntmps15
  go_wp2
  exact bodyPost_ret (v := .agg #[.slice oa n cap, .string b, .int .i64 m]) (by simp [results, Tryz.results15, go_sem]) rfl ⟨rfl, ((Below.refl _ _).alloc (Nat.le_refl _) _).alloc (by simp) _⟩
set_option maxHeartbeats 400000 in
theorem faceA_any (m : Int) (oa : Option Addr) (n cap : Nat) (b : ByteArray) (w : World) :
    Calls Tryz.prog 22 #[.agg #[.slice oa n cap, .string b, .int .i64 m]] w fun e w' => e = .returned (.agg #[.int .i64 m, .slice oa n cap, .string b]) ∧ Below w.heap.size w w' := by
  go_enter Tryz.func22, Tryz.ntmps22
  go_wp2
  exact bodyPost_ret (v := .agg #[.int .i64 m, .slice oa n cap, .string b]) (by simp [results, Tryz.results22, go_sem]) rfl ⟨rfl, ((Below.refl _ _).alloc (Nat.le_refl _) _).alloc (by simp) _⟩

set_option maxHeartbeats 400000 in
theorem implRespOk_any (m : Int) (v : Value) (b : ByteArray) (n base : Nat) (fs : List (ByteArray × ByteArray)) (w : World) (hv : FieldsV w base v n fs) (hn : n ≤ 1073741824) (hsz : WalkF n fs) (hb : b.size ≤ maxLen) :
    Calls Tryz.prog 8 #[.agg #[.int .i64 m, v, .string b]] w fun e w' => BoolIs (RespP m fs b) w e w' := by
  obtain ⟨oa, cap, rfl, _⟩ := hv.slice
  have hb0 : Below w.heap.size w (w.alloc (.cells #[.int .i64 m, .slice oa n cap, .string b] 26)) := (Below.refl _ _).alloc (Nat.le_refl _) _
  go_enter Tryz.func8, Tryz.ntmps8
  go_wp2_with fail
  refine (answerOf_any m oa n cap b _).mono ?_
  rintro e w1 ⟨rfl, bb1⟩
  have hb1 : Below w.heap.size w w1 := hb0.trans (bb1.mono hb0.size)
  have hv1 := hv.below hb1
  clear bb1 hb0 hv
  go_wp2_with fail
  refine (respOk_any m _ b n base fs _ hv1 hn hsz hb).mono ?_
  rintro e w2 ⟨b1, rfl, kb, bb2⟩
  have hb2 : Below w.heap.size w w2 := hb1.trans (bb2.mono hb1.size)
  have HK : Hid (b1 = true ↔ RespP m fs b) := kb
  clear hv1 hsz hb bb2 hb1 kb
  go_wp2_with fail
  go_ret
  exact ⟨b1, rfl, HK.out, hb2⟩

end Go.Proofs.YtmmkbgkiglmgeaaGreatDoor

namespace Go.Proofs.YtmmkbgkiglmgeaaGreatDoor
open Go.RowKit
open Go.Lib hiding intOf

/-- What a message's text is behind its first line. -/
def restT (tell : Bool) (fs : List (ByteArray × ByteArray)) (b : ByteArray) : ByteArray :=
  (if tell = true then fieldsText fs ++ (⟨#[]⟩ ++ clen ++ ⟨#[58, 32]⟩ ++ numText b.size ++ ⟨#[13, 10]⟩) else fieldsText fs) ++ ⟨#[13, 10]⟩ ++ b
theorem field_text (a b : ByteArray) : fieldsText [(a, b)] = ⟨#[]⟩ ++ a ++ ⟨#[58, 32]⟩ ++ b ++ ⟨#[13, 10]⟩ := rfl
theorem one_row {w W : World} {base : Nat} {a b : ByteArray} (h : W.heap[w.heap.size]? = some (.cells #[.string a, .string b] 53)) (hb : base ≤ w.heap.size) (hl : w.heap.size < W.heap.size) : FieldsV W base (.slice (some ⟨w.heap.size, 0, none⟩) 1 1) 1 [(a, b)] := by
  refine .inr ⟨w.heap.size, 1, rfl, by omega, ⟨rfl, hb, hl, Nat.le_refl _, by unfold maxLen; omega, _, h, rfl, ?_⟩⟩
  intro i hi
  obtain rfl : i = 0 := by omega
  exact ⟨rfl, rfl⟩
theorem rest_resp (st : Int) (fs : List (ByteArray × ByteArray)) (b : ByteArray) : ⟨#[72, 84, 84, 80, 47, 49, 46, 49, 32]⟩ ++ numText st.toNat ++ ⟨#[32]⟩ ++ ⟨#[46]⟩ ++ ⟨#[13, 10]⟩ ++ restT true fs b = respT st fs b := by
  apply bs_inj
  unfold respT restT
  simp [bs, httpAhead, dotEnd, lnE2, clenK, clen]
theorem restT_size (tell : Bool) {fs : List (ByteArray × ByteArray)} (hf : FldsOk fs) {b : ByteArray} (hb : b.size ≤ 120) : (restT tell fs b).size ≤ 1000 := by
  have h1 := ft_small hf
  have h2 := numText_size b.size
  have e1 : (⟨#[]⟩ : ByteArray).size = 0 := rfl
  have e2 : clen.size = 14 := rfl
  have e3 : (⟨#[58, 32]⟩ : ByteArray).size = 2 := rfl
  have e4 : (⟨#[13, 10]⟩ : ByteArray).size = 2 := rfl
  unfold restT
  cases tell
  · rw [if_neg (by decide)]; simp only [ByteArray.size_append]; omega
  · rw [if_pos rfl]; simp only [ByteArray.size_append]; omega

set_option maxHeartbeats 1000000 in
theorem restText_any (v : Value) (b : ByteArray) (tell : Bool) (n base : Nat) (fs : List (ByteArray × ByteArray)) (w : World) (hv : FieldsV w base v n fs) (hn : n ≤ 1073741824) (hf : FldsOk fs) (hb : b.size ≤ 120) (htab : TabOk w) :
    Calls Tryz.prog 33 #[.agg #[v, .string b], .bool tell] w fun e w' => TextIs (restT tell fs b) w e w' := by
  obtain ⟨oa, cap, rfl, _⟩ := hv.slice
  obtain ⟨r, hr⟩ : ∃ r, r = w.heap.size := ⟨_, rfl⟩
  have HR : Hid (∀ W, Below (w.alloc (.cells #[.slice oa n cap, .string b] 39)).heap.size (w.alloc (.cells #[.slice oa n cap, .string b] 39)) W → (W.cell? ⟨r, 0, none⟩ = some (.slice oa n cap) ∧ W.cell? ⟨r, 1, none⟩ = some (.string b)) ∧ FieldsV W base (.slice oa n cap) n fs ∧ Below w.heap.size w W) := fun W h => by
    have hh := kept_new h
    rw [← hr] at hh
    exact ⟨⟨by simp [World.cell?, hh], by simp [World.cell?, hh]⟩, hv.below (below_new h), below_new h⟩
  obtain ⟨_, hv0, _⟩ := HR.out _ (Below.refl _ _)
  have hfs := ft_small hf
  have HT : Hid ((fieldsText fs).size ≤ 1099511627776) := by show _ ≤ _; omega
  have HTAB : Hid (TabOk w) := htab
  go_enter Tryz.func33, Tryz.ntmps33
  go_wp2_with fail
  refine (text_any _ n base fs _ hv0 hn HT.out).mono ?_
  rintro e w1 ⟨rfl, bb1⟩
  rw [← hr]
  obtain ⟨⟨c0, c1⟩, _, hbw1⟩ := HR.out w1 bb1
  have HB1 : Hid (Below (w.alloc (.cells #[.slice oa n cap, .string b] 39)).heap.size (w.alloc (.cells #[.slice oa n cap, .string b] 39)) w1) := bb1
  obtain ⟨ft, hft⟩ : ∃ x, x = fieldsText fs := ⟨_, rfl⟩
  rw [← hft] at hfs ⊢
  have HFT : Hid (fieldsText fs = ft) := hft.symm
  clear hv hv0 bb1 hr hf htab hft HT
  have e2 : (⟨#[13, 10]⟩ : ByteArray).size = 2 := rfl
  cases tell
  · have HE : Hid (ft ++ ⟨#[13, 10]⟩ ++ b = restT false fs b) := by
      show _ = _
      unfold restT
      rw [if_neg (by decide), HFT.out]
    have q1 : ¬ 9223372036854775807 < ft.size + 2 := by omega
    have q2 : ¬ 9223372036854775807 < ft.size + 2 + b.size := by omega
    go_wp2_with fail
    go_ret
    exact TextIs.of HE.out hbw1
  · have hT1 : TabOk w1 := HTAB.out.below hbw1
    have hns := numText_size b.size
    obtain ⟨nt, hnt⟩ : ∃ x, x = numText b.size := ⟨_, rfl⟩
    have HNI : Hid (numTextI (b.size : Int) = nt) := by
      show _ = _
      unfold numTextI
      rw [if_neg (by omega), hnt]
      rfl
    rw [← hnt] at hns
    obtain ⟨lt, hlt⟩ : ∃ x, x = fieldsText [((⟨#[99, 111, 110, 116, 101, 110, 116, 45, 108, 101, 110, 103, 116, 104]⟩ : ByteArray), nt)] := ⟨_, rfl⟩
    have hls : lt.size ≤ 40 := by
      rw [hlt, field_text]
      have k1 : (⟨#[]⟩ : ByteArray).size = 0 := rfl
      have k2 : (⟨#[99, 111, 110, 116, 101, 110, 116, 45, 108, 101, 110, 103, 116, 104]⟩ : ByteArray).size = 14 := rfl
      have k3 : (⟨#[58, 32]⟩ : ByteArray).size = 2 := rfl
      simp only [ByteArray.size_append]
      omega
    have HLT : Hid (fieldsText [((⟨#[99, 111, 110, 116, 101, 110, 116, 45, 108, 101, 110, 103, 116, 104]⟩ : ByteArray), nt)] = lt) := hlt.symm
    have HLS : Hid ((fieldsText [((⟨#[99, 111, 110, 116, 101, 110, 116, 45, 108, 101, 110, 103, 116, 104]⟩ : ByteArray), nt)]).size ≤ 1099511627776) := by show _ ≤ _; rw [← hlt]; omega
    have HE : Hid (ft ++ lt ++ ⟨#[13, 10]⟩ ++ b = restT true fs b) := by
      show _ = _
      unfold restT
      rw [if_pos rfl, HFT.out, ← hnt, hlt, field_text]
      rfl
    clear hnt hlt
    go_wp2_with fail
    refine (implNumText_any (b.size : Int) _ (by omega) (by omega) hT1).mono ?_
    rintro e w2 ⟨rfl, bb2⟩
    rw [HNI.out]
    clear c0 c1 hT1
    have HB2 : Hid (Below (w.alloc (.cells #[.slice oa n cap, .string b] 39)).heap.size (w.alloc (.cells #[.slice oa n cap, .string b] 39)) w2) := HB1.out.trans (bb2.mono HB1.out.size)
    clear bb2 hbw1
    obtain ⟨h3, hh3⟩ : ∃ x, x = w2.heap.size := ⟨_, rfl⟩
    have hv3 : FieldsV (w2.alloc (.cells #[.string ⟨#[99, 111, 110, 116, 101, 110, 116, 45, 108, 101, 110, 103, 116, 104]⟩, .string nt] 53)) w2.heap.size (.slice (some ⟨w2.heap.size, 0, none⟩) 1 1) 1 [(⟨#[99, 111, 110, 116, 101, 110, 116, 45, 108, 101, 110, 103, 116, 104]⟩, nt)] := one_row (heap_alloc_new w2 _) (Nat.le_refl _) (by simp)
    have HB3 : Hid (Below (w.alloc (.cells #[.slice oa n cap, .string b] 39)).heap.size (w.alloc (.cells #[.slice oa n cap, .string b] 39)) (w2.alloc (.cells #[.string ⟨#[99, 111, 110, 116, 101, 110, 116, 45, 108, 101, 110, 103, 116, 104]⟩, .string nt] 53))) := HB2.out.alloc HB2.out.size _
    go_wp2_with fail
    refine (text_any _ 1 w2.heap.size [(⟨#[99, 111, 110, 116, 101, 110, 116, 45, 108, 101, 110, 103, 116, 104]⟩, nt)] _ hv3 (by omega) HLS.out).mono ?_
    rintro e w4 ⟨rfl, bb4⟩
    rw [HLT.out]
    obtain ⟨⟨d0, d1⟩, _, hbw4⟩ := HR.out w4 (HB3.out.trans (bb4.mono HB3.out.size))
    clear hv3 bb4 hh3
    have q1 : ¬ 9223372036854775807 < ft.size + lt.size := by omega
    have q2 : ¬ 9223372036854775807 < ft.size + lt.size + 2 := by omega
    have q3 : ¬ 9223372036854775807 < ft.size + lt.size + 2 + b.size := by omega
    go_wp2_with fail
    go_ret
    exact TextIs.of HE.out hbw4

set_option maxHeartbeats 1000000 in
set_option maxRecDepth 100000 in
theorem respText_any (st : Int) (v : Value) (b : ByteArray) (n base : Nat) (fs : List (ByteArray × ByteArray)) (w : World) (hv : FieldsV w base v n fs) (hn : n ≤ 1073741824) (hsz : WalkF n fs) (hb : b.size ≤ maxLen) (htab : TabOk w) :
    Calls Tryz.prog 16 #[.agg #[v, .string b, .int .i64 st]] w fun e w' => TextOf (RespP st fs b) (respT st fs b) w e w' := by
  obtain ⟨oa, cap, rfl, _⟩ := hv.slice
  obtain ⟨r, hr⟩ : ∃ r, r = w.heap.size := ⟨_, rfl⟩
  have HR : Hid (∀ W, Below (w.alloc (.cells #[.slice oa n cap, .string b, .int .i64 st] 41)).heap.size (w.alloc (.cells #[.slice oa n cap, .string b, .int .i64 st] 41)) W → (W.cell? ⟨r, 0, none⟩ = some (.slice oa n cap) ∧ W.cell? ⟨r, 1, none⟩ = some (.string b) ∧ W.cell? ⟨r, 2, none⟩ = some (.int .i64 st)) ∧ FieldsV W base (.slice oa n cap) n fs ∧ Below w.heap.size w W) := fun W h => by
    have hh := kept_new h
    rw [← hr] at hh
    exact ⟨⟨by simp [World.cell?, hh], by simp [World.cell?, hh], by simp [World.cell?, hh]⟩, hv.below (below_new h), below_new h⟩
  obtain ⟨_, hv0, _⟩ := HR.out _ (Below.refl _ _)
  have HTAB : Hid (TabOk w) := htab
  go_enter Tryz.func16, Tryz.ntmps16
  go_wp2_with fail
  refine (respOk_any st _ b n base fs _ hv0 hn hsz hb).mono ?_
  rintro e w1 ⟨b1, rfl, kb1, bb1⟩
  rw [← hr]
  obtain ⟨⟨c0, c1, c2⟩, _, hbw1⟩ := HR.out w1 bb1
  clear hv hv0 hsz hb htab hr
  cases b1
  · have HF : Hid (¬ RespP st fs b) := fun h => by have := kb1.2 h; cases this
    clear kb1 bb1
    go_wp2_with fail
    go_ret
    exact ⟨_, rfl, fun h => absurd h HF.out, fun _ => rfl, hbw1⟩
  · have HY : Hid (RespP st fs b) := kb1.1 rfl
    have hst := HY.out.1
    have hbs : b.size ≤ 120 := HY.out.2.2
    have hns := numText_size st.toNat
    obtain ⟨nk, hnk⟩ : ∃ x, x = numText st.toNat := ⟨_, rfl⟩
    rw [← hnk] at hns
    have HNI : Hid (numTextI st = nk) := by
      show _ = _
      unfold numTextI
      rw [if_neg (by omega), hnk]
    have hrs := restT_size true HY.out.2.1 hbs
    obtain ⟨rt, hrt⟩ : ∃ x, x = restT true fs b := ⟨_, rfl⟩
    rw [← hrt] at hrs
    have HRT : Hid (restT true fs b = rt) := hrt.symm
    have HE : Hid (⟨#[72, 84, 84, 80, 47, 49, 46, 49, 32]⟩ ++ nk ++ ⟨#[32]⟩ ++ ⟨#[46]⟩ ++ ⟨#[13, 10]⟩ ++ rt = respT st fs b) := by
      show _ = _
      rw [hnk, ← HRT.out]
      exact rest_resp st fs b
    have HB1 : Hid (Below (w.alloc (.cells #[.slice oa n cap, .string b, .int .i64 st] 41)).heap.size (w.alloc (.cells #[.slice oa n cap, .string b, .int .i64 st] 41)) w1) := bb1
    have hT1 : TabOk w1 := HTAB.out.below hbw1
    clear kb1 bb1 hnk hrt hbw1
    have e1 : (⟨#[32]⟩ : ByteArray).size = 1 := rfl
    have e2 : (⟨#[72, 84, 84, 80, 47, 49, 46, 49, 32]⟩ : ByteArray).size = 9 := rfl
    have e3 : (⟨#[13, 10]⟩ : ByteArray).size = 2 := rfl
    have e4 : (⟨#[46]⟩ : ByteArray).size = 1 := rfl
    have q1 : ¬ 9223372036854775807 < 9 + nk.size := by omega
    have q2 : ¬ 9223372036854775807 < 9 + nk.size + 1 := by omega
    have q3 : ¬ 9223372036854775807 < 9 + nk.size + 1 + 1 := by omega
    have q4 : ¬ 9223372036854775807 < 9 + nk.size + 1 + 1 + 2 := by omega
    have q5 : ¬ 9223372036854775807 < 9 + nk.size + 1 + 1 + 2 + rt.size := by omega
    go_wp2_with fail
    refine (implNumText_any st _ (by omega) (by omega) hT1).mono ?_
    rintro e w2 ⟨rfl, bb2⟩
    rw [HNI.out]
    have HB2 : Hid (Below (w.alloc (.cells #[.slice oa n cap, .string b, .int .i64 st] 41)).heap.size (w.alloc (.cells #[.slice oa n cap, .string b, .int .i64 st] 41)) w2) := HB1.out.trans (bb2.mono HB1.out.size)
    obtain ⟨⟨d0, d1, d2⟩, hv2, hbw2⟩ := HR.out w2 HB2.out
    have hT2 : TabOk w2 := HTAB.out.below hbw2
    have hF := HY.out.2.1
    clear c0 c1 c2 HB1 bb2 hT1 hbw2
    go_wp2_with fail
    refine (restText_any _ _ true n base fs _ hv2 hn hF hbs hT2).mono ?_
    rintro e w3 ⟨rfl, bb3⟩
    rw [HRT.out]
    obtain ⟨_, _, hbw3⟩ := HR.out w3 (HB2.out.trans (bb3.mono HB2.out.size))
    clear bb3 hv2 hT2 d0 d1 d2 hF
    go_wp2_with fail
    go_ret
    exact ⟨_, rfl, fun _ => HE.out, fun h => absurd HY.out h, hbw3⟩

set_option maxHeartbeats 400000 in
theorem implRespText_any (m : Int) (v : Value) (b : ByteArray) (n base : Nat) (fs : List (ByteArray × ByteArray)) (w : World) (hv : FieldsV w base v n fs) (hn : n ≤ 1073741824) (hsz : WalkF n fs) (hb : b.size ≤ maxLen) (htab : TabOk w) :
    Calls Tryz.prog 6 #[.agg #[.int .i64 m, v, .string b]] w fun e w' => TextOf (RespP m fs b) (respT m fs b) w e w' := by
  obtain ⟨oa, cap, rfl, _⟩ := hv.slice
  have hb0 : Below w.heap.size w (w.alloc (.cells #[.int .i64 m, .slice oa n cap, .string b] 26)) := (Below.refl _ _).alloc (Nat.le_refl _) _
  have HTAB : Hid (TabOk w) := htab
  clear htab
  go_enter Tryz.func6, Tryz.ntmps6
  go_wp2_with fail
  refine (answerOf_any m oa n cap b _).mono ?_
  rintro e w1 ⟨rfl, bb1⟩
  have hb1 : Below w.heap.size w w1 := hb0.trans (bb1.mono hb0.size)
  have hv1 := hv.below hb1
  clear bb1 hb0 hv
  go_wp2_with fail
  refine (respText_any m _ b n base fs _ hv1 hn hsz hb (HTAB.out.below hb1)).mono ?_
  rintro e w2 ⟨u, rfl, ku, kn, bb2⟩
  have hb2 : Below w.heap.size w w2 := hb1.trans (bb2.mono hb1.size)
  have HK : Hid ((RespP m fs b) → u = respT m fs b) := ku
  have HN : Hid (¬ (RespP m fs b) → u = ⟨#[]⟩) := kn
  clear hv1 hsz hb bb2 hb1 ku kn
  go_wp2_with fail
  go_ret
  exact ⟨u, rfl, HK.out, HN.out, hb2⟩

end Go.Proofs.YtmmkbgkiglmgeaaGreatDoor

namespace Go.Proofs.YtmmkbgkiglmgeaaGreatDoor
open Go.RowKit
open Go.Lib hiding intOf

theorem num_ok (n : Nat) (h : n ≤ 1000000) : NumOk (numText n) := by
  have hd := numL_dig n h
  have hv := numL_val n h
  have hl : (numL n).length ≤ 7 := by
    unfold numL at *
    rw [if_neg (by omega)] at *
    by_cases h0 : n = 0
    · rw [if_pos h0]; simp
    · rw [if_neg h0] at *
      have hh := (dg_facts 8 n (by omega)).1
      have h3 := val_ge (dgF 8 n) hd.2 hh hd.1
      rw [hv] at h3
      rcases Nat.lt_or_ge 7 (dgF 8 n).length with h4 | h4
      · have := Nat.pow_le_pow_right (show 0 < 10 by omega) (show 7 ≤ (dgF 8 n).length - 1 by omega)
        omega
      · exact h4
  have hs : (numText n).size = (numL n).length := by simp [numText, ByteArray.size]
  have h1 : 1 ≤ (numText n).size := by
    rw [hs]
    exact List.length_pos_iff.2 hd.1
  refine (num_iff (numText n) h1 (by omega) hd.2).1 ?_
  show numText (valL (numL n)) = numText n
  rw [hv]
/-- An answer's text is read as the answer. -/
theorem IsResp.parts {s : ByteArray} {st : Int} {fs : List (ByteArray × ByteArray)} {b : ByteArray} (h : IsResp s st fs b) {xs : List ByteArray} {k : Nat} {ws : List ByteArray} {l : List (ByteArray × ByteArray)} (hp : Parts s xs k ws l) :
    ∃ x y, ws = [x, numText st.toNat, y] ∧ l = fs ∧ s.extract k s.size = b := by
  have e := hp.head.symm.trans (resp_head h)
  simp only [Prod.mk.injEq, Option.some.injEq] at e
  obtain ⟨e1, e2⟩ := e
  obtain ⟨x0, xr, rfl⟩ : ∃ x0 xr, xs = x0 :: xr := by
    cases xs with
    | nil => exact absurd rfl hp.ne
    | cons a r => exact ⟨a, r, rfl⟩
  simp only [List.map_cons, List.cons.injEq] at e1
  have hw := hp.words
  simp only [List.headD_cons] at hw
  rw [e1.1, resp_words h.1.1] at hw
  have hf := hp.fields
  simp only [List.tail_cons] at hf
  rw [e1.2, resp_fields h.1.2.1] at hf
  refine ⟨⟨httpL.toArray⟩, ⟨#[46]⟩, map_bs_inj (by rw [← hw]; rfl), (pairs_inj hf).symm, bs_inj ?_⟩
  rw [bs_extract, List.take_of_length_le (i := s.size) (l := bs s) (by rw [bs_len]; omega)]
  exact e2
/-- What 'RespRead' answers: the one answer whose text this is, or nothing. -/
def RespIs (s : ByteArray) (w : World) (e : Ending) (w' : World) : Prop :=
  (∃ (m : Int) (fs : List (ByteArray × ByteArray)) (b : ByteArray) (v : Value), e = .returned (.tuple #[.agg #[.int .i64 m, v, .string b], .bool true]) ∧ IsResp s m fs b ∧ w'.ownsRow w.heap.size 53 2 v fs.length (flatF fs) ∧ Below w.heap.size w w') ∨
  (e = .returned (.tuple #[.agg #[.int .i64 0, .slice none 0 0, .string ⟨#[]⟩], .bool false]) ∧ (∀ m fs b, ¬ IsResp s m fs b) ∧ Below w.heap.size w w')

set_option maxHeartbeats 400000 in
set_option maxRecDepth 100000 in
theorem specRespRead_any (s : ByteArray) (w : World) (hs : s.size ≤ 3000000) :
    Calls Tryz.prog 12 #[.string s] w fun e w' => RespIs s w e w' := by
  obtain ⟨R, hR⟩ : ∃ R, R = w.heap.size := ⟨_, rfl⟩
  have hRw : w.heap.size ≤ R := by omega
  have HZ : Hid (∀ W, Below (w.alloc (.cells #[.int .i64 0, .slice none 0 0, .string ⟨#[]⟩] 26)).heap.size (w.alloc (.cells #[.int .i64 0, .slice none 0 0, .string ⟨#[]⟩] 26)) W → W.heap[R]? = some (.cells #[.int .i64 0, .slice none 0 0, .string ⟨#[]⟩] 26) ∧ Below w.heap.size w W) := fun W h => ⟨by rw [hR]; exact kept_new h, below_new h⟩
  have hZs : w.heap.size ≤ (w.alloc (.cells #[.int .i64 0, .slice none 0 0, .string ⟨#[]⟩] 26)).heap.size := by simp
  go_enter Tryz.func12, Tryz.ntmps12
  go_wp2_with fail
  refine (l3Head_any s _ (by omega)).mono ?_
  rintro e w1 ⟨v, xs, at0, rfl, hown1, hxl, bb1, hd⟩
  rw [← hR]
  clear hR
  rcases hd with ⟨rfl, hh⟩ | ⟨k, rfl, hk, hh⟩
  · obtain ⟨z, hbz⟩ := HZ.out w1 bb1
    obtain ⟨⟨c0, c1, c2⟩, f0, f1, f2⟩ := three_facts z
    obtain ⟨⟨k0, k1, k2⟩, _⟩ := three_facts (three_set z (.int .i64 0) (.slice none 0 0) (.string ⟨#[]⟩))
    have HB4 : Hid (Below w.heap.size w (threeSet w1 R (.int .i64 0) (.slice none 0 0) (.string ⟨#[]⟩))) := below_three hbz hRw
    have HNO : Hid (∀ m fs b, ¬ IsResp s m fs b) := fun m fs b h => by
          have e := hh.symm.trans (resp_head h)
          simp at e
    unfold threeSet at k0 k1 k2
    clear z hbz HZ hh hown1 bb1
    go_wp2_with fail
    exact bodyPost_ret (v := .tuple #[.agg #[.int .i64 0, .slice none 0 0, .string ⟨#[]⟩], .bool false]) (by simp [results, Tryz.results12, go_sem, k0, k1, k2]) rfl (.inr ⟨rfl, HNO.out, HB4.out⟩)
  · by_cases hx0 : xs = []
    · subst hx0
      obtain ⟨oa, cp, rfl, _, _⟩ | ⟨g, cp, _, h0, _⟩ := row_form hown1
      · obtain ⟨z, hbz⟩ := HZ.out w1 bb1
        obtain ⟨⟨c0, c1, c2⟩, f0, f1, f2⟩ := three_facts z
        obtain ⟨⟨k0, k1, k2⟩, _⟩ := three_facts (three_set z (.int .i64 0) (.slice none 0 0) (.string ⟨#[]⟩))
        have HB4 : Hid (Below w.heap.size w (threeSet w1 R (.int .i64 0) (.slice none 0 0) (.string ⟨#[]⟩))) := below_three hbz hRw
        have HNO : Hid (∀ m fs b, ¬ IsResp s m fs b) := fun m fs b h => by
                  have e := hh.symm.trans (resp_head h)
                  simp at e
        unfold threeSet at k0 k1 k2
        clear z hbz HZ hh hown1 bb1
        go_wp2_with fail
        exact bodyPost_ret (v := .tuple #[.agg #[.int .i64 0, .slice none 0 0, .string ⟨#[]⟩], .bool false]) (by simp [results, Tryz.results12, go_sem, k0, k1, k2]) rfl (.inr ⟨rfl, HNO.out, HB4.out⟩)
      · simp at h0
    · have hxn : 0 < xs.length := List.length_pos_iff.2 hx0
      obtain ⟨_, _, _, h0, _⟩ | ⟨g, cp, rfl, _, row1⟩ := row_form hown1
      · omega
      obtain ⟨x0, hx⟩ : ∃ y, y = textAt xs 0 := ⟨_, rfl⟩
      have hc0 := row1.cell 0 hxn
      rw [← hx] at hc0
      have hxb : bs x0 ∈ (headL [] [] (bs s)).1 := by
        rw [hh, hx]
        cases xs with
        | nil => exact absurd rfl hx0
        | cons y r => simp [textAt]
      have hx0s : x0.size ≤ s.size := by
        rcases headL_len _ (bs s) [] [] (Nat.le_refl _) _ hxb with h1 | h1
        · simp at h1
        · rw [bs_len, bs_len] at h1; simpa using h1
      have HB1 : Hid (Below (w.alloc (.cells #[.int .i64 0, .slice none 0 0, .string ⟨#[]⟩] 26)).heap.size (w.alloc (.cells #[.int .i64 0, .slice none 0 0, .string ⟨#[]⟩] 26)) w1) := bb1
      have HROW1 : Hid (TextRow (w.alloc (.cells #[.int .i64 0, .slice none 0 0, .string ⟨#[]⟩] 26)).heap.size w1 g xs.length cp xs) := row1
      have HX : Hid (x0 = textAt xs 0) := hx
      have HH : Hid (headL [] [] (bs s) = (xs.map bs, some ((bs s).drop k))) := hh
      have HN0 : Hid (xs ≠ []) := hx0
      clear hx hh hx0
      obtain ⟨nx, hnx⟩ : ∃ y, y = xs.length := ⟨_, rfl⟩
      have HNX : Hid (nx = xs.length) := hnx
      rw [← hnx] at hxn hxl HROW1 ⊢
      clear hnx
      have hxn2 : (0 : Int) < (nx : Int) := by omega
      have hxne : ((nx : Int) == 0) = false := by rw [beq_eq_false_iff_ne]; omega
      have hk2 : ¬ (k : Int) < 0 := by omega
      clear bb1 row1 hown1 hxb
      go_wp2_with fail
      refine (l3Words_any x0 _ (by omega)).mono ?_
      rintro e w2 ⟨wv, ws, rfl, hownw, hwl, bb2, hwd⟩
      have HWD : Hid (wordsL [] [] (bs x0) = ws.map bs) := hwd
      clear hwd
      have hb2 : Below (w.alloc (.cells #[.int .i64 0, .slice none 0 0, .string ⟨#[]⟩] 26)).heap.size (w.alloc (.cells #[.int .i64 0, .slice none 0 0, .string ⟨#[]⟩] 26)) w2 := HB1.out.trans (bb2.mono HB1.out.size)
      by_cases h3 : ws.length = 3
      · obtain ⟨wa, wp, wc, rfl⟩ : ∃ a b c, ws = [a, b, c] := by
          match ws, h3 with
          | [a, b, c], _ => exact ⟨a, b, c, rfl⟩
        clear h3
        obtain ⟨_, _, _, h0, _⟩ | ⟨g2, cp2, rfl, _, row2⟩ := row_form hownw
        · simp at h0
        have hpw : wp.size ≤ s.size := by
          have hm : bs wp ∈ wordsL [] [] (bs x0) := by rw [HWD.out]; simp
          rcases wordsL_len (bs x0) [] [] _ hm with h1 | h1
          · simp at h1
          · rw [bs_len, bs_len] at h1; simp at h1; omega
        have ha := row2.cell 0 (by simp)
        have hpc := row2.cell 1 (by simp)
        have ha : w2.cell? ⟨g2, 0, none⟩ = some (.string wa) := ha
        have hpc : w2.cell? ⟨g2, 1, none⟩ = some (.string wp) := hpc
        have HROW2 : Hid (TextRow w1.heap.size w2 g2 3 cp2 [wa, wp, wc]) := row2
        have HB2 : Hid (Below (w.alloc (.cells #[.int .i64 0, .slice none 0 0, .string ⟨#[]⟩] 26)).heap.size (w.alloc (.cells #[.int .i64 0, .slice none 0 0, .string ⟨#[]⟩] 26)) w2) := hb2
        have HBB2 : Hid (Below w1.heap.size w1 w2) := bb2
        have hki : (k : Int) ≤ (s.size : Int) := by omega
        have h1n : (1 : Int) ≤ (nx : Int) := by omega
        clear hownw row2 bb2 hb2 hwl hc0
        have hrow2 : TextRow (w.alloc (.cells #[.int .i64 0, .slice none 0 0, .string ⟨#[]⟩] 26)).heap.size w2 g nx cp xs := HROW1.out.below HBB2.out HROW1.out.lt
        have hxlen := hrow2.len
        obtain ⟨aT, hA, HTX⟩ : ∃ aT : Addr, (if cp = 1 then some (⟨g, 0, none⟩ : Addr) else some ⟨g, 1, none⟩) = some aT ∧ Hid (∀ W, Below w2.heap.size w2 W → TextsV W W.heap.size (some aT) (nx - 1) xs.tail) := by
          have hle := hrow2.le
          by_cases h : cp = 1
          · refine ⟨⟨g, 0, none⟩, by simp [h], fun W hW => ⟨by simp; omega, fun i hi => ?_⟩⟩
            simp at hi; omega
          · refine ⟨⟨g, 1, none⟩, by simp [h], fun W hW => ⟨by simp; omega, fun i hi => ?_⟩⟩
            have hi2 : i + 1 < nx := by simp at hi; omega
            have hcc := (hrow2.below hW hrow2.lt).cell (i + 1) hi2
            refine ⟨g, 1, rfl, by have := hW.size; have := hrow2.lt; omega, ?_⟩
            rw [show 1 + i = i + 1 by omega, hcc]
            simp [textAt, List.getD_eq_getElem?_getD, show i + 1 < xs.length by omega]
        have HSZ : Hid (∀ x ∈ xs.tail, x.size ≤ 4000000) := fun x hx => by
          have hm : bs x ∈ (headL [] [] (bs s)).1 := by rw [HH.out]; exact List.mem_map_of_mem (List.mem_of_mem_tail hx)
          rcases headL_len _ (bs s) [] [] (Nat.le_refl _) _ hm with h1 | h1
          · simp at h1
          · rw [bs_len, bs_len] at h1; simp at h1; omega
        clear hrow2
        go_wp2_with fail
        refine (specNumRead_any wp _ (by unfold maxLen; omega)).mono ?_
        rintro e wN ⟨nb, nn, rfl, hn1, hn2, hn3, bbN'⟩
        have bbN : Below w2.heap.size w2 wN := bbN'
        have HN1 : Hid ((nb = true ↔ NumOk wp) ∧ (nb = true → nn = valL wp.data.toList)) := ⟨hn1, hn2⟩
        clear hn1 hn2 hn3 ha hpc bbN'
        go_wp2_with fail
        refine wp_region_held_drew (S := fun _ => True) (by kernel_rfl) trivial (fun hHeld => ?_)
        refine wpAnyH_take (i := 0) (v := .int .i64 nn) rfl (by kernel_rfl) (by kernel_rfl) (by kernel_rfl) (fun _ _ _ h => h) (Or.inl ⟨by rfl, by intro W hSW; (try dsimp only at hSW); go_simp⟩) (by assumption) ?_
        refine wpAnyH_take (i := 1) (v := .slice (some ⟨g, 0, none⟩) nx cp) rfl (by kernel_rfl) (by kernel_rfl) (by kernel_rfl) (fun _ _ _ h => h) (Or.inl ⟨by rfl, by intro W hSW; (try dsimp only at hSW); go_simp⟩) (by assumption) ?_
        refine wpAnyH_take (i := 2) (v := .slice (some aT) (nx - 1) (cp - 1)) rfl (by kernel_rfl) (by kernel_rfl) (by kernel_rfl) (fun _ _ _ h => h) (Or.inl ⟨by rfl, by intro W hSW; (try dsimp only at hSW); go_simp⟩) (by assumption) ?_
        refine wpAnyH_take (i := 4) (v := .string s) rfl (by kernel_rfl) (by kernel_rfl) (by kernel_rfl) (fun _ _ _ h => h) (Or.inl ⟨by rfl, by intro W hSW; (try dsimp only at hSW); go_simp⟩) (by assumption) ?_
        refine wpAnyH_take (i := 5) (v := .int .i64 (k : Int)) rfl (by kernel_rfl) (by kernel_rfl) (by kernel_rfl) (fun _ _ _ h => h) (Or.inl ⟨by rfl, by intro W hSW; (try dsimp only at hSW); go_simp⟩) (by assumption) ?_
        refine wpAnyH_take (i := 6) (v := .string (s.extract k s.size)) rfl (by kernel_rfl) (by kernel_rfl) (by kernel_rfl) (fun _ _ _ h => h) (Or.inl ⟨by rfl, by intro W hSW; (try dsimp only at hSW); go_simp⟩) (by assumption) ?_
        refine wpAnyH_ready (rs := [3, 8]) (by kernel_rfl) (by simp) ?_
        refine AllReadyH.cons rfl (fun K hK => ?_) (AllReadyH.cons rfl (fun K hK => ?_) AllReadyH.nil)
        · go_simp
          refine (l3Fields_any (some aT) (nx - 1) (cp - 1) xs.tail _ (HTX.out _ (bbN.trans ((Below.refl wN.heap.size wN).drew.mono bbN.size))) (by omega) HSZ.out).mono ?_
          rintro e w3 ⟨fv, l, rfl, hownf, hll, bb3, hfl⟩
          obtain ⟨fo, fc, rfl⟩ := slice_of_owns hownf
          have hb3 : Below wN.heap.size wN w3 := (Below.refl wN.heap.size wN).drew.trans (bb3.mono (Below.refl wN.heap.size wN).drew.size)
          refine hK.out _ _ trivial (fun hHeld3 => ?_)
          clear hK K hHeld
          refine wpAnyH_take (i := 7) (v := .agg #[.int .i64 nn, .slice fo l.length fc, .string (s.extract k s.size)]) rfl (by kernel_rfl) (by kernel_rfl) (by kernel_rfl) (fun _ _ _ h => h) (Or.inl ⟨by rfl, by intro W hSW; (try dsimp only at hSW); go_simp⟩) (by assumption) ?_
          refine wpAnyH_ready (rs := [8]) (by kernel_rfl) (by simp) ?_
          refine AllReadyH.cons rfl (fun K hK => ?_) AllReadyH.nil
          go_simp
          refine hK.out _ _ trivial (fun hHeld4 => ?_)
          clear hK K hHeld3
          refine wpAnyH_ready (rs := [9]) (by kernel_rfl) (by simp) ?_
          refine AllReadyH.cons rfl (fun K hK => ?_) AllReadyH.nil
          go_simp
          refine hK.out _ _ trivial (fun hHeld5 => ?_)
          clear hK K hHeld4
          refine wpAnyH_done (by kernel_rfl) ?_ _
          clear hHeld5
          obtain ⟨r, hr⟩ : ∃ r, r = w3.heap.size := ⟨_, rfl⟩
          obtain ⟨w4, hw4⟩ : ∃ W, W = w3.alloc (.cells #[.int .i64 nn, .slice fo l.length fc, .string (s.extract k s.size)] 26) := ⟨_, rfl⟩
          have hz4 : w4.heap[r]? = some (.cells #[.int .i64 nn, .slice fo l.length fc, .string (s.extract k s.size)] 26) := by rw [hw4, hr]; exact heap_alloc_new w3 _
          have hb34 : Below w3.heap.size w3 w4 := by rw [hw4]; exact (Below.refl _ w3).alloc (Nat.le_refl _) _
          have hb4 : Below wN.heap.size wN w4 := hb3.trans (hb34.mono hb3.size)
          have hr4 : r < w4.heap.size := by rw [hw4, hr]; simp
          have hown4 : w4.ownsRow wN.heap.size 53 2 (.slice fo l.length fc) l.length (flatF l) := owns_below hownf hb34 (fun g hg => owns_lt hownf hg)
          rw [← hr, ← hw4]
          clear hr hw4 hb34 hownf bb3 hb3 HTX HSZ hA
          obtain ⟨body, hbody⟩ : ∃ y, y = s.extract k s.size := ⟨_, rfl⟩
          rw [← hbody] at hz4 ⊢
          have HBODY : Hid (body = s.extract k s.size) := hbody
          have HL4 : Hid (fieldsL (xs.tail.map bs) = l.map bsP) := hfl
          have HOW : Hid (w4.ownsRow wN.heap.size 53 2 (.slice fo l.length fc) l.length (flatF l)) := hown4
          have HWF : Hid (WalkF l.length l) := walk_fields HH.out HL4.out (by unfold maxLen; omega)
          have hbs : body.size ≤ s.size := by rw [HBODY.out]; simp
          have HBr : Hid (Below (w.alloc (.cells #[.int .i64 0, .slice none 0 0, .string ⟨#[]⟩] 26)).heap.size (w.alloc (.cells #[.int .i64 0, .slice none 0 0, .string ⟨#[]⟩] 26)) w4) := (HB2.out.trans (bbN.mono HB2.out.size)).trans (hb4.mono (Nat.le_trans HB2.out.size bbN.size))
          have hll2 : l.length ≤ 3000000 := by simp at hll; omega
          have HZ4 : Hid (w4.heap[r]? = some (.cells #[.int .i64 nn, .slice fo l.length fc, .string body] 26)) := hz4
          obtain ⟨⟨c0, c1, c2⟩, f0, f1, f2⟩ := three_facts hz4
          clear hbody hfl hown4 hz4
          go_wp2_with fail
          refine (specRespText_any nn _ body l.length _ l _ (FieldsV.of_owns HOW.out) (by omega) HWF.out (by unfold maxLen; omega)).mono ?_
          rintro e w7 ⟨t, rfl, ht1, ht2, bb7⟩
          have hz7 : w7.heap[r]? = some (.cells #[.int .i64 nn, .slice fo l.length fc, .string body] 26) := by rw [bb7.block r hr4]; exact HZ4.out
          have hb7 : Below (w.alloc (.cells #[.int .i64 0, .slice none 0 0, .string ⟨#[]⟩] 26)).heap.size (w.alloc (.cells #[.int .i64 0, .slice none 0 0, .string ⟨#[]⟩] 26)) w7 := HBr.out.trans (bb7.mono HBr.out.size)
          clear c0 c1 c2 f0 f1 f2
          obtain ⟨⟨c0, c1, c2⟩, f0, f1, f2⟩ := three_facts hz7
          by_cases hts : t = s
          · have ht := (text_beq _ _).2 hts
            have HRP : Hid (RespP nn l body) := Classical.byContradiction (fun hn => by
              have h0 := ht2 hn
              rw [hts] at h0
              have hh := HH.out
              rw [h0] at hh
              simp [bs, headL] at hh)
            have HIS : Hid (IsResp s nn l body) := ⟨HRP.out, by rw [← ht1 HRP.out]; exact hts⟩
            have hR2 : R < wN.heap.size := (Array.getElem?_eq_some_iff.1 (HZ.out wN (HB2.out.trans (bbN.mono HB2.out.size))).1).1
            obtain ⟨z, hbz⟩ := HZ.out w7 hb7
            obtain ⟨⟨e0, e1, e2⟩, g0, g1, g2'⟩ := three_facts z
            obtain ⟨⟨k0, k1, k2⟩, _⟩ := three_facts (three_set z (.int .i64 nn) (.slice fo l.length fc) (.string body))
            have HB4 : Hid (Below w.heap.size w (threeSet w7 R (.int .i64 nn) (.slice fo l.length fc) (.string body))) := below_three hbz hRw
            have hgR : w7.grownBy (threeSet w7 R (.int .i64 nn) (.slice fo l.length fc) (.string body)) (some R) := by
              unfold threeSet
              exact grown_then (grown_then (grown_set _ _ _ _) (grown_set _ _ _ _)) (grown_set _ _ _ _)
            have how7 := owns_below HOW.out bb7 (fun g hg => owns_lt HOW.out hg)
            have hww : w.heap.size ≤ wN.heap.size := Nat.le_trans hZs (Nat.le_trans HB2.out.size bbN.size)
            have HOWF : Hid ((threeSet w7 R (.int .i64 nn) (.slice fo l.length fc) (.string body)).ownsRow w.heap.size 53 2 (.slice fo l.length fc) l.length (flatF l)) := by
              have h6 := how7.kept hgR (by cases h : (Value.slice fo l.length fc).ownBlock <;> simp; exact fun e => by have h7 := owns_ge how7 h; omega)
              refine ⟨h6.1, ?_⟩
              rcases h6.2 with h9 | ⟨g6, cap6, cur6, h7, h8, h9⟩
              · exact .inl h9
              · exact .inr ⟨g6, cap6, cur6, h7, by omega, h9⟩
            unfold threeSet at k0 k1 k2
            clear z hbz HZ hgR how7 ht1 ht2 hts bb7 hb7 hz7
            go_wp2_with fail
            exact bodyPost_ret (v := .tuple #[.agg #[.int .i64 nn, .slice fo l.length fc, .string body], .bool true]) (by simp [results, Tryz.results12, go_sem, k0, k1, k2]) rfl (.inl ⟨nn, l, body, _, rfl, HIS.out, HOWF.out, HB4.out⟩)
          · have ht := text_beq_no hts
            have HNO : Hid (∀ m fs b, ¬ IsResp s m fs b) := fun m fs b h => by
              have hpt : Parts s xs k [wa, wp, wc] l := ⟨HH.out, HN0.out, by
                have : xs.headD ⟨#[]⟩ = x0 := by
                  rw [HX.out]
                  cases xs with
                  | nil => exact absurd rfl HN0.out
                  | cons y q => rfl
                rw [this]; exact HWD.out, HL4.out⟩
              obtain ⟨x8, x9, e1, e2, e3⟩ := h.parts hpt
              simp only [List.cons.injEq] at e1
              obtain ⟨_, e5, _⟩ := e1
              have hm := h.1.1
              have hok : NumOk wp := by rw [e5]; exact num_ok _ (by omega)
              have hmm : nn = m := by
                rw [HN1.out.2 (HN1.out.1.2 hok), e5]
                show ((valL (numL m.toNat) : Nat) : Int) = m
                rw [numL_val _ (by omega)]; omega
              have hbb : body = b := by rw [HBODY.out]; exact e3
              subst hmm hbb e2
              exact hts ((ht1 h.1).trans h.2)
            obtain ⟨z, hbz⟩ := HZ.out w7 hb7
            obtain ⟨⟨e0, e1, e2⟩, g0, g1, g2'⟩ := three_facts z
            obtain ⟨⟨k0, k1, k2⟩, _⟩ := three_facts (three_set z (.int .i64 0) (.slice none 0 0) (.string ⟨#[]⟩))
            have HB4 : Hid (Below w.heap.size w (threeSet w7 R (.int .i64 0) (.slice none 0 0) (.string ⟨#[]⟩))) := below_three hbz hRw
            unfold threeSet at k0 k1 k2
            clear z hbz HZ ht1 ht2 hts bb7 hb7 hz7
            go_wp2_with fail
            exact bodyPost_ret (v := .tuple #[.agg #[.int .i64 0, .slice none 0 0, .string ⟨#[]⟩], .bool false]) (by simp [results, Tryz.results12, go_sem, k0, k1, k2]) rfl (.inr ⟨rfl, HNO.out, HB4.out⟩)
        · go_simp
          refine hK.out _ _ trivial (fun hHeld3 => ?_)
          clear hK K hHeld
          refine wpAnyH_ready (rs := [3]) (by kernel_rfl) (by simp) ?_
          refine AllReadyH.cons rfl (fun K hK => ?_) AllReadyH.nil
          go_simp
          refine (l3Fields_any (some aT) (nx - 1) (cp - 1) xs.tail _ (HTX.out _ (bbN.trans ((((Below.refl wN.heap.size wN).alloc (Nat.le_refl _) (.cells #[.int .i64 0, .slice none 0 0, .string ⟨#[]⟩] 26)).drew).mono bbN.size))) (by omega) HSZ.out).mono ?_
          rintro e w3 ⟨fv, l, rfl, hownf, hll, bb3, hfl⟩
          obtain ⟨fo, fc, rfl⟩ := slice_of_owns hownf
          have hb3 : Below wN.heap.size wN w3 := (((Below.refl wN.heap.size wN).alloc (Nat.le_refl _) (.cells #[.int .i64 0, .slice none 0 0, .string ⟨#[]⟩] 26)).drew).trans (bb3.mono (((Below.refl wN.heap.size wN).alloc (Nat.le_refl _) (.cells #[.int .i64 0, .slice none 0 0, .string ⟨#[]⟩] 26)).drew).size)
          refine hK.out _ _ trivial (fun hHeld4 => ?_)
          clear hK K hHeld3
          refine wpAnyH_take (i := 7) (v := .agg #[.int .i64 nn, .slice fo l.length fc, .string (s.extract k s.size)]) rfl (by kernel_rfl) (by kernel_rfl) (by kernel_rfl) (fun _ _ _ h => h) (Or.inl ⟨by rfl, by intro W hSW; (try dsimp only at hSW); go_simp⟩) (by assumption) ?_
          have z3 : w3.heap[wN.heap.size]? = some (.cells #[.int .i64 0, .slice none 0 0, .string ⟨#[]⟩] 26) := by
            rw [bb3.block _ (by simp)]; exact heap_alloc_new wN _
          obtain ⟨⟨y0, y1, y2⟩, v0, v1, v2⟩ := three_facts z3
          refine wpAnyH_ready (rs := [9]) (by kernel_rfl) (by simp) ?_
          refine AllReadyH.cons rfl (fun K hK => ?_) AllReadyH.nil
          clear z3
          go_simp
          have z3 : w3.heap[wN.heap.size]? = some (.cells #[.int .i64 0, .slice none 0 0, .string ⟨#[]⟩] 26) := by
            rw [bb3.block _ (by simp)]; exact heap_alloc_new wN _
          refine hK.out _ _ trivial (fun hHeld5 => ?_)
          clear hK K hHeld4
          refine wpAnyH_done (by kernel_rfl) ?_ _
          clear hHeld5
          obtain ⟨r, hr⟩ : ∃ r, r = wN.heap.size := ⟨_, rfl⟩
          rw [← hr] at z3 ⊢
          have hz4 := three_set z3 (.int .i64 nn) (.slice fo l.length fc) (.string (s.extract k s.size))
          obtain ⟨w4, hw4⟩ : ∃ W, W = threeSet w3 r (.int .i64 nn) (.slice fo l.length fc) (.string (s.extract k s.size)) := ⟨_, rfl⟩
          rw [← hw4] at hz4
          have hg34 : w3.grownBy w4 (some r) := by
            rw [hw4]; unfold threeSet
            exact grown_then (grown_then (grown_set _ _ _ _) (grown_set _ _ _ _)) (grown_set _ _ _ _)
          have hb4 : Below wN.heap.size wN w4 := by rw [hw4]; exact below_three hb3 (by omega)
          have hr4 : r < w4.heap.size := (Array.getElem?_eq_some_iff.1 hz4).1
          have hown4 : w4.ownsRow wN.heap.size 53 2 (.slice fo l.length fc) l.length (flatF l) := by
            have h5 : w3.ownsRow wN.heap.size 53 2 (.slice fo l.length fc) l.length (flatF l) := by
              refine ⟨hownf.1, ?_⟩
              rcases hownf.2 with h6 | ⟨g6, cap6, cur6, h7, h8, h9⟩
              · exact .inl h6
              · exact .inr ⟨g6, cap6, cur6, h7, by simp at h8; omega, h9⟩
            exact h5.kept hg34 (by cases h : (Value.slice fo l.length fc).ownBlock <;> simp; exact fun e => by have h7 := owns_ge hownf h; simp at h7; omega)
          unfold threeSet at hw4
          rw [← hw4]
          clear hr hw4 hg34 hownf bb3 hb3 HTX HSZ hA z3 y0 y1 y2 v0 v1 v2
          obtain ⟨body, hbody⟩ : ∃ y, y = s.extract k s.size := ⟨_, rfl⟩
          rw [← hbody] at hz4 ⊢
          have HBODY : Hid (body = s.extract k s.size) := hbody
          have HL4 : Hid (fieldsL (xs.tail.map bs) = l.map bsP) := hfl
          have HOW : Hid (w4.ownsRow wN.heap.size 53 2 (.slice fo l.length fc) l.length (flatF l)) := hown4
          have HWF : Hid (WalkF l.length l) := walk_fields HH.out HL4.out (by unfold maxLen; omega)
          have hbs : body.size ≤ s.size := by rw [HBODY.out]; simp
          have HBr : Hid (Below (w.alloc (.cells #[.int .i64 0, .slice none 0 0, .string ⟨#[]⟩] 26)).heap.size (w.alloc (.cells #[.int .i64 0, .slice none 0 0, .string ⟨#[]⟩] 26)) w4) := (HB2.out.trans (bbN.mono HB2.out.size)).trans (hb4.mono (Nat.le_trans HB2.out.size bbN.size))
          have hll2 : l.length ≤ 3000000 := by simp at hll; omega
          have HZ4 : Hid (w4.heap[r]? = some (.cells #[.int .i64 nn, .slice fo l.length fc, .string body] 26)) := hz4
          obtain ⟨⟨c0, c1, c2⟩, f0, f1, f2⟩ := three_facts hz4
          clear hbody hfl hown4 hz4
          go_wp2_with fail
          refine (specRespText_any nn _ body l.length _ l _ (FieldsV.of_owns HOW.out) (by omega) HWF.out (by unfold maxLen; omega)).mono ?_
          rintro e w7 ⟨t, rfl, ht1, ht2, bb7⟩
          have hz7 : w7.heap[r]? = some (.cells #[.int .i64 nn, .slice fo l.length fc, .string body] 26) := by rw [bb7.block r hr4]; exact HZ4.out
          have hb7 : Below (w.alloc (.cells #[.int .i64 0, .slice none 0 0, .string ⟨#[]⟩] 26)).heap.size (w.alloc (.cells #[.int .i64 0, .slice none 0 0, .string ⟨#[]⟩] 26)) w7 := HBr.out.trans (bb7.mono HBr.out.size)
          clear c0 c1 c2 f0 f1 f2
          obtain ⟨⟨c0, c1, c2⟩, f0, f1, f2⟩ := three_facts hz7
          by_cases hts : t = s
          · have ht := (text_beq _ _).2 hts
            have HRP : Hid (RespP nn l body) := Classical.byContradiction (fun hn => by
              have h0 := ht2 hn
              rw [hts] at h0
              have hh := HH.out
              rw [h0] at hh
              simp [bs, headL] at hh)
            have HIS : Hid (IsResp s nn l body) := ⟨HRP.out, by rw [← ht1 HRP.out]; exact hts⟩
            have hR2 : R < wN.heap.size := (Array.getElem?_eq_some_iff.1 (HZ.out wN (HB2.out.trans (bbN.mono HB2.out.size))).1).1
            obtain ⟨z, hbz⟩ := HZ.out w7 hb7
            obtain ⟨⟨e0, e1, e2⟩, g0, g1, g2'⟩ := three_facts z
            obtain ⟨⟨k0, k1, k2⟩, _⟩ := three_facts (three_set z (.int .i64 nn) (.slice fo l.length fc) (.string body))
            have HB4 : Hid (Below w.heap.size w (threeSet w7 R (.int .i64 nn) (.slice fo l.length fc) (.string body))) := below_three hbz hRw
            have hgR : w7.grownBy (threeSet w7 R (.int .i64 nn) (.slice fo l.length fc) (.string body)) (some R) := by
              unfold threeSet
              exact grown_then (grown_then (grown_set _ _ _ _) (grown_set _ _ _ _)) (grown_set _ _ _ _)
            have how7 := owns_below HOW.out bb7 (fun g hg => owns_lt HOW.out hg)
            have hww : w.heap.size ≤ wN.heap.size := Nat.le_trans hZs (Nat.le_trans HB2.out.size bbN.size)
            have HOWF : Hid ((threeSet w7 R (.int .i64 nn) (.slice fo l.length fc) (.string body)).ownsRow w.heap.size 53 2 (.slice fo l.length fc) l.length (flatF l)) := by
              have h6 := how7.kept hgR (by cases h : (Value.slice fo l.length fc).ownBlock <;> simp; exact fun e => by have h7 := owns_ge how7 h; omega)
              refine ⟨h6.1, ?_⟩
              rcases h6.2 with h9 | ⟨g6, cap6, cur6, h7, h8, h9⟩
              · exact .inl h9
              · exact .inr ⟨g6, cap6, cur6, h7, by omega, h9⟩
            unfold threeSet at k0 k1 k2
            clear z hbz HZ hgR how7 ht1 ht2 hts bb7 hb7 hz7
            go_wp2_with fail
            exact bodyPost_ret (v := .tuple #[.agg #[.int .i64 nn, .slice fo l.length fc, .string body], .bool true]) (by simp [results, Tryz.results12, go_sem, k0, k1, k2]) rfl (.inl ⟨nn, l, body, _, rfl, HIS.out, HOWF.out, HB4.out⟩)
          · have ht := text_beq_no hts
            have HNO : Hid (∀ m fs b, ¬ IsResp s m fs b) := fun m fs b h => by
              have hpt : Parts s xs k [wa, wp, wc] l := ⟨HH.out, HN0.out, by
                have : xs.headD ⟨#[]⟩ = x0 := by
                  rw [HX.out]
                  cases xs with
                  | nil => exact absurd rfl HN0.out
                  | cons y q => rfl
                rw [this]; exact HWD.out, HL4.out⟩
              obtain ⟨x8, x9, e1, e2, e3⟩ := h.parts hpt
              simp only [List.cons.injEq] at e1
              obtain ⟨_, e5, _⟩ := e1
              have hm := h.1.1
              have hok : NumOk wp := by rw [e5]; exact num_ok _ (by omega)
              have hmm : nn = m := by
                rw [HN1.out.2 (HN1.out.1.2 hok), e5]
                show ((valL (numL m.toNat) : Nat) : Int) = m
                rw [numL_val _ (by omega)]; omega
              have hbb : body = b := by rw [HBODY.out]; exact e3
              subst hmm hbb e2
              exact hts ((ht1 h.1).trans h.2)
            obtain ⟨z, hbz⟩ := HZ.out w7 hb7
            obtain ⟨⟨e0, e1, e2⟩, g0, g1, g2'⟩ := three_facts z
            obtain ⟨⟨k0, k1, k2⟩, _⟩ := three_facts (three_set z (.int .i64 0) (.slice none 0 0) (.string ⟨#[]⟩))
            have HB4 : Hid (Below w.heap.size w (threeSet w7 R (.int .i64 0) (.slice none 0 0) (.string ⟨#[]⟩))) := below_three hbz hRw
            unfold threeSet at k0 k1 k2
            clear z hbz HZ ht1 ht2 hts bb7 hb7 hz7
            go_wp2_with fail
            exact bodyPost_ret (v := .tuple #[.agg #[.int .i64 0, .slice none 0 0, .string ⟨#[]⟩], .bool false]) (by simp [results, Tryz.results12, go_sem, k0, k1, k2]) rfl (.inr ⟨rfl, HNO.out, HB4.out⟩)
      · have hne3 : ((ws.length : Int) != 3) = true := by rw [bne_iff_ne]; omega
        obtain ⟨oa, cp2, rfl⟩ : ∃ oa cp, wv = .slice oa ws.length cp := by
          obtain ⟨oa, cp, h1, h2, _⟩ | ⟨g, cp, h1, _⟩ := row_form hownw
          · exact ⟨oa, cp, by rw [h1, h2]⟩
          · exact ⟨_, cp, h1⟩
        obtain ⟨z, hbz⟩ := HZ.out w2 hb2
        obtain ⟨⟨c0, c1, c2⟩, f0, f1, f2⟩ := three_facts z
        obtain ⟨⟨k0, k1, k2⟩, _⟩ := three_facts (three_set z (.int .i64 0) (.slice none 0 0) (.string ⟨#[]⟩))
        have HB4 : Hid (Below w.heap.size w (threeSet w2 R (.int .i64 0) (.slice none 0 0) (.string ⟨#[]⟩))) := below_three hbz hRw
        have HNO : Hid (∀ m fs b, ¬ IsResp s m fs b) := fun m fs b h => by
                  have e := HH.out.symm.trans (resp_head h)
                  have hwd := HWD.out
                  have hx := HX.out
                  have hx0 := HN0.out
                  cases xs with
                  | nil => exact absurd rfl hx0
                  | cons y r =>
                    simp only [List.map_cons, Prod.mk.injEq, List.cons.injEq] at e
                    have : x0 = y := hx
                    rw [this, e.1.1, resp_words h.1.1] at hwd
                    have := congrArg List.length hwd
                    simp at this; omega
        unfold threeSet at k0 k1 k2
        clear z hbz HZ HH hownw bb2 HB1 HROW1 HWD HX HN0 HNX
        go_wp2_with fail
        exact bodyPost_ret (v := .tuple #[.agg #[.int .i64 0, .slice none 0 0, .string ⟨#[]⟩], .bool false]) (by simp [results, Tryz.results12, go_sem, k0, k1, k2]) rfl (.inr ⟨rfl, HNO.out, HB4.out⟩)

end Go.Proofs.YtmmkbgkiglmgeaaGreatDoor

namespace Go.Proofs.YtmmkbgkiglmgeaaGreatDoor
open Go.RowKit
open Go.Lib hiding intOf

/-- A cell of the message behind its fields is set. -/
theorem RdSt.set {w : World} {B b q : Nat} {T : TypeId} {bd : ByteArray} {tl : List Value} {fs : List (ByteArray × ByteArray)} {left : ByteArray} {fv : Value} {W : World} {bd' : ByteArray} {tl' : List Value} (h : RdSt w B b q T bd tl fs left fv W) (hT : TypeOk T) (hq : B ≤ q) (o : Nat) (v : Value) (e : (⟨fv :: .string bd :: tl⟩ : Array Value).setIfInBounds o v = ⟨fv :: .string bd' :: tl'⟩) : RdSt w B b q T bd' tl' fs left fv (W.setCell ⟨q, o, none⟩ v) := by
  have hne := h.bq
  refine ⟨?_, ?_, ?_, h.low.setCell (p := ⟨q, o, none⟩) hq _⟩
  · have := h.rd
    unfold Reader at this ⊢
    rw [heap_setCell_other _ _ b _ (fun e => hne e.symm)]; exact this
  · rw [heap_set _ _ _ _ _ _ _ h.qc, e]
  · exact owns_same h.own (fun j hj => heap_setCell_other _ _ j _ (fun e => by
      subst e
      exact own_not h.own hT h.qc hj))
theorem RdSt.rdc {w : World} {B b q : Nat} {T : TypeId} {bd : ByteArray} {tl : List Value} {fs : List (ByteArray × ByteArray)} {left : ByteArray} {fv : Value} {W : World} (h : RdSt w B b q T bd tl fs left fv W) : W.cell? ⟨b, 0, none⟩ = some (.string left) := h.rd.cell

set_option maxHeartbeats 1000000 in
theorem readRest_any (w0 : World) (B b q : Nat) (T : TypeId) (bd : ByteArray) (tl : List Value) (s : ByteArray) (fv : Value) (w : World) (hst : RdSt w0 B b q T bd tl [] s fv w) (hT : TypeOk T) (hB : B ≤ w.heap.size) (hbB : B ≤ b) (hqB : B ≤ q) (hl : s.size ≤ 4000000) (hlen : LenOk w0) (hlB : 0 < B) :
    Calls Tryz.prog 40 #[.pointer (some ⟨q, 0, none⟩), .pointer (some ⟨b, 0, none⟩)] w fun e w' => e = .returned (.tuple #[]) ∧ ∃ fv' left, RdSt w0 B b q T (restBody s) tl (restFs s) left fv' w' := by
  have HSTART : Hid (RdSt w0 B b q T bd tl (lineTo ([], s) 0).1 (lineTo ([], s) 0).2 fv w) := hst
  have HLEN : Hid (LenOk w0) := hlen
  clear hst hlen
  go_enter Tryz.func40, Tryz.ntmps40
  go_wp2
  go_loopw [4] (fun i wr => ∃ k : Nat, k ≤ 9 ∧ i = .int .i64 (k : Int) ∧ B ≤ wr.heap.size ∧ Hid (∃ fv', RdSt w0 B b q T bd tl (lineTo ([], s) k).1 (lineTo ([], s) k).2 fv' wr)) (fun i _ => 9 - (intOf i).toNat)
  case atStart => exact ⟨0, by omega, rfl, hB, ⟨fv, HSTART.out⟩⟩
  case round =>
    obtain ⟨k, hk, rfl, hB9, hx⟩ := hrel
    obtain ⟨fv9, hst9⟩ := hx.out
    obtain ⟨z1, z2, _⟩ := lineTo_size s k
    obtain ⟨x9, hx9⟩ : ∃ x, x = lineTo ([], s) k := ⟨_, rfl⟩
    rw [← hx9] at hst9 z1 z2
    obtain ⟨fs9, lf⟩ := x9
    have z1 : fs9.length ≤ k := z1
    have z2 : lf.size ≤ s.size := z2
    have hst9 : RdSt w0 B b q T bd tl fs9 lf fv9 wr := hst9
    have HX : Hid (lineTo ([], s) k = (fs9, lf)) := hx9.symm
    clear hx hx9
    by_cases hlt : (k : Int) < 9
    · go_wp2_with fail
      refine (headIsOver_any b lf _ hst9.rd).mono ?_
      rintro e w1 ⟨rfl, rfl⟩
      by_cases hh : hasP lf lnE = true
      · rw [hh]
        have H9 : Hid (lineTo ([], s) 9 = (fs9, lf)) := by
          show _ = _
          have := line_stuck ([], s) k (by rw [HX.out]; exact hh) (9 - k)
          rw [show k + (9 - k) = 9 by omega, HX.out] at this
          exact this
        clear hh
        go_wp2_with fail
        refine (pass_any b lf lnE _ hst9.rd).mono ?_
        rintro e w1 ⟨rfl, ht1⟩
        have hst10 := hst9.took hB9 hbB ht1
        have hB10 : B ≤ w1.heap.size := Nat.le_trans hB9 ht1.2.size
        have y1 := trimP_size lf lnE
        have HBD : Hid (trimP lf lnE = restBody s) := by
          show _ = _
          unfold restBody
          rw [H9.out]
        have HFS : Hid (fs9 = restFs s) := by
          show _ = _
          unfold restFs
          rw [H9.out]
        generalize trimP lf lnE = body at *
        have hrc := hst10.rdc
        clear hst9 ht1 hB9
        go_wp2_with fail
        refine (clone_any body _ (by omega)).mono ?_
        rintro e w2 ⟨rfl, bb2⟩
        have hst11 := hst10.below hB10 bb2
        obtain ⟨_, hc1, _, hf1⟩ := hst11.qcell
        have HS : Hid (RdSt w0 B b q T body tl fs9 body fv9 (w2.setCell ⟨q, 1, none⟩ (.string body))) := hst11.set hT hqB 1 (.string body) rfl
        clear hst10 hst11 bb2 hrc hB10
        go_wp2_with fail
        exact bodyPost_end (v := .tuple #[]) (by simp [results, Tryz.results40, go_sem]) rfl ⟨rfl, fv9, body, by rw [← HBD.out, ← HFS.out]; exact HS.out⟩
      · have HS : Hid (lineTo ([], s) (k + 1) = (lineFs fs9 lf, lineLeft lf)) := by
          show _ = _
          rw [lineTo, HX.out]
          unfold lineStep
          rw [if_neg hh]
          rfl
        have hf : hasP lf lnE = false := by simpa using hh
        rw [hf]
        clear hh hf
        go_wp2_with fail
        refine (readLine_any w0 B b q T bd tl fs9 lf fv9 _ hst9 hT hB9 hbB hqB (by omega) (by omega) HLEN.out hlB).mono ?_
        rintro e w2 ⟨rfl, fv2, hst2⟩
        have HS2 : Hid (RdSt w0 B b q T bd tl (lineFs fs9 lf) (lineLeft lf) fv2 w2) := hst2
        have hB2 : B ≤ w2.heap.size := by
          have := (Array.getElem?_eq_some_iff.1 hst2.qc).1
          omega
        clear hst2 hst9
        go_wp2_with fail
        go_roundw
        case rel => exact ⟨k + 1, by omega, by go_num, hB2, ⟨fv2, by rw [HS.out]; exact HS2.out⟩⟩
        case measure => simp [intOf]; omega
    · obtain rfl : k = 9 := by omega
      have H9 := HX
      go_wp2_with fail
      refine (pass_any b lf lnE _ hst9.rd).mono ?_
      rintro e w1 ⟨rfl, ht1⟩
      have hst10 := hst9.took hB9 hbB ht1
      have hB10 : B ≤ w1.heap.size := Nat.le_trans hB9 ht1.2.size
      have y1 := trimP_size lf lnE
      have HBD : Hid (trimP lf lnE = restBody s) := by
        show _ = _
        unfold restBody
        rw [H9.out]
      have HFS : Hid (fs9 = restFs s) := by
        show _ = _
        unfold restFs
        rw [H9.out]
      generalize trimP lf lnE = body at *
      have hrc := hst10.rdc
      clear hst9 ht1 hB9
      go_wp2_with fail
      refine (clone_any body _ (by omega)).mono ?_
      rintro e w2 ⟨rfl, bb2⟩
      have hst11 := hst10.below hB10 bb2
      obtain ⟨_, hc1, _, hf1⟩ := hst11.qcell
      have HS : Hid (RdSt w0 B b q T body tl fs9 body fv9 (w2.setCell ⟨q, 1, none⟩ (.string body))) := hst11.set hT hqB 1 (.string body) rfl
      clear hst10 hst11 bb2 hrc hB10
      go_wp2_with fail
      exact bodyPost_end (v := .tuple #[]) (by simp [results, Tryz.results40, go_sem]) rfl ⟨rfl, fv9, body, by rw [← HBD.out, ← HFS.out]; exact HS.out⟩

set_option maxHeartbeats 1000000 in
theorem respReadP_any (w0 : World) (B b q : Nat) (s : ByteArray) (w : World) (hst : RdSt w0 B b q 41 ⟨#[]⟩ [.int .i64 0] [] s (.slice none 0 0) w) (hT : TypeOk 41) (hB : B ≤ w.heap.size) (hbB : B ≤ b) (hqB : B ≤ q) (hl : s.size ≤ 4000000) (hlen : LenOk w0) (hlB : 0 < B) :
    Calls Tryz.prog 21 #[.pointer (some ⟨q, 0, none⟩), .pointer (some ⟨b, 0, none⟩)] w fun e w' => e = .returned (.tuple #[]) ∧ ∃ fv left, ∃ st : Int, (NumOk (respNum s) → st = valL (respNum s).data.toList) ∧ RdSt w0 B b q 41 (restBody (respRest s)) [.int .i64 st] (restFs (respRest s)) left fv w' := by
  have HT : Hid (TypeOk 41) := hT
  have HLEN : Hid (LenOk w0) := hlen
  clear hT hlen
  have hlen0 := HLEN.out.below hst.low hlB
  go_enter Tryz.func21, Tryz.ntmps21
  go_wp2_with fail
  refine (pass_any b s httpAhead _ hst.rd).mono ?_
  rintro e w1 ⟨rfl, ht1⟩
  have hst1 := hst.took hB hbB ht1
  have hB1 : B ≤ w1.heap.size := Nat.le_trans hB ht1.2.size
  have z1 := trimP_size s httpAhead
  obtain ⟨r1, hr1⟩ : ∃ x, x = trimP s httpAhead := ⟨_, rfl⟩
  have HR1 : Hid (r1 = trimP s httpAhead) := hr1
  rw [← hr1] at hst1 z1
  have hlen1 := HLEN.out.below hst1.low hlB
  clear hst ht1 hlen0 hB hr1
  go_wp2_with fail
  refine (upTo_any b r1 blE _ hst1.rd (by omega) hlen1).mono ?_
  rintro e w2 ⟨rfl, ht2⟩
  have hst2 := hst1.took hB1 hbB ht2
  have hB2 : B ≤ w2.heap.size := Nat.le_trans hB1 ht2.2.size
  have z2 := cutB_size r1 blE
  have z3 := cutA_size r1 blE
  obtain ⟨r2, hr2⟩ : ∃ x, x = cutB r1 blE := ⟨_, rfl⟩
  obtain ⟨d, hd⟩ : ∃ x, x = cutA r1 blE := ⟨_, rfl⟩
  have HR2 : Hid (r2 = cutB r1 blE) := hr2
  have HD : Hid (d = respNum s) := by
    show _ = _
    rw [hd, HR1.out]
    rfl
  rw [← hr2] at hst2 z2
  rw [← hd] at z3
  rw [← hd]
  clear hr2 hd ht2 hst1 hB1 hlen1
  go_wp2_with fail
  refine (implNumRead_any d _ (by unfold maxLen; omega)).mono ?_
  rintro e w3 ⟨t, st, rfl, k1, k2, _, bb3⟩
  have hst3 := hst2.below hB2 bb3
  have hB3 : B ≤ w3.heap.size := Nat.le_trans hB2 bb3.size
  have HK : Hid (NumOk (respNum s) → st = valL (respNum s).data.toList) := fun h => by
    rw [← HD.out] at h ⊢
    exact k2 (k1.2 h)
  have hcell2 : w3.cell? ⟨q, 2, none⟩ = some (.int .i64 0) ∧ w3.frozen? ⟨q, 2, none⟩ = false := by
    have := hst3.qc
    constructor <;> simp [World.cell?, World.frozen?, this]
  obtain ⟨c2, f2⟩ := hcell2
  have hst4 := hst3.set HT.out hqB 2 (.int .i64 st) rfl
  have HS4 : Hid (RdSt w0 B b q 41 ⟨#[]⟩ [.int .i64 st] [] r2 (.slice none 0 0) (w3.setCell ⟨q, 2, none⟩ (.int .i64 st))) := hst4
  have hB4 : B ≤ (w3.setCell ⟨q, 2, none⟩ (.int .i64 st)).heap.size := by simp; omega
  clear hst2 hst3 hst4 bb3 k1 k2 hB2 hB3
  go_wp2_with fail
  refine (pass_any b r2 dotLn _ HS4.out.rd).mono ?_
  rintro e w6 ⟨rfl, ht6⟩
  have hst6 := HS4.out.took hB4 hbB ht6
  have hB6 : B ≤ w6.heap.size := Nat.le_trans hB4 ht6.2.size
  have z4 := trimP_size r2 dotLn
  obtain ⟨r3, hr3⟩ : ∃ x, x = trimP r2 dotLn := ⟨_, rfl⟩
  have HR3 : Hid (r3 = respRest s) := by
    show _ = _
    rw [hr3, HR2.out, HR1.out]
    rfl
  rw [← hr3] at hst6 z4
  clear hr3 ht6 HS4 hB4 c2 f2
  go_wp2_with fail
  refine (readRest_any w0 B b q _ _ _ r3 _ _ hst6 HT.out hB6 hbB hqB (by omega) HLEN.out hlB).mono ?_
  rintro e w7 ⟨rfl, fv, lf, hst7⟩
  rw [HR3.out] at hst7
  have HS7 : Hid _ := hst7
  clear hst7 hst6
  go_wp2_with fail
  exact bodyPost_end (v := .tuple #[]) (by simp [results, Tryz.results21, go_sem]) rfl ⟨rfl, fv, lf, st, HK.out, HS7.out⟩

theorem restFs_size (r : ByteArray) : (restFs r).length ≤ 9 ∧ ∀ i, i < (restFs r).length → (nameAt (restFs r) i).size ≤ r.size ∧ (valAt (restFs r) i).size ≤ r.size := by
  have h : (restFs r).length ≤ 9 ∧ (lineTo ([], r) 9).2.size ≤ r.size ∧ ∀ f ∈ restFs r, f.1.size ≤ r.size ∧ f.2.size ≤ r.size := lineTo_size r 9
  generalize restFs r = l at *
  refine ⟨h.1, fun i hi => ?_⟩
  have e := pair_of l i hi
  have := h.2.2 (l[i]) (List.getElem_mem _)
  rw [← e] at this
  exact this
theorem restBody_size (r : ByteArray) : (restBody r).size ≤ r.size := by
  obtain ⟨_, h2, _⟩ := lineTo_size r 9
  exact Nat.le_trans (trimP_size _ _) h2
theorem owns_set {w : World} {base : Nat} {t : TypeId} {size : Nat} {v x : Value} {n : Nat} {xs : List Value} {R o : Nat} {cs : Array Value} {T : TypeId} {fr : Nat × Nat} (h : w.ownsRow base t size v n xs) (hT : T ≠ t) (hR : w.heap[R]? = some (.cells cs T fr)) : (w.setCell ⟨R, o, none⟩ x).ownsRow base t size v n xs ∧ ∃ cs', (w.setCell ⟨R, o, none⟩ x).heap[R]? = some (.cells cs' T fr) :=
  ⟨owns_same h (fun j hj => heap_setCell_other _ _ j _ (fun e => by
    subst e
    exact own_not h hT hR hj)), _, heap_set _ _ _ _ _ _ _ hR⟩

set_option maxHeartbeats 1000000 in
set_option maxRecDepth 100000 in
theorem implRespRead_any (s : ByteArray) (w : World) (hs : s.size ≤ 3000000) (htab : TabOk w) (hlen : LenOk w) :
    Calls Tryz.prog 9 #[.string s] w fun e w' => RespIs s w e w' := by
  have hlt := hlen.lt
  have hlen0 : LenOk (w.alloc (.cells #[.int .i64 0, .slice none 0 0, .string ⟨#[]⟩] 26)) := hlen.below ((Below.refl _ _).alloc (Nat.le_refl _) _) hlt
  have hlow : Below (w.heap.size + 1) (w.alloc (.cells #[.int .i64 0, .slice none 0 0, .string ⟨#[]⟩] 26)) (((w.alloc (.cells #[.int .i64 0, .slice none 0 0, .string ⟨#[]⟩] 26)).alloc (.cells #[.slice none 0 0, .string ⟨#[]⟩, .int .i64 0] 41)).alloc (.cells #[.string s] 50)) := ((Below.refl _ _).alloc (by simp) _).alloc (by simp) _
  have hst0 : RdSt (w.alloc (.cells #[.int .i64 0, .slice none 0 0, .string ⟨#[]⟩] 26)) (w.heap.size + 1) (w.heap.size + 1 + 1) (w.heap.size + 1) 41 ⟨#[]⟩ [.int .i64 0] [] s (.slice none 0 0) (((w.alloc (.cells #[.int .i64 0, .slice none 0 0, .string ⟨#[]⟩] 26)).alloc (.cells #[.slice none 0 0, .string ⟨#[]⟩, .int .i64 0] 41)).alloc (.cells #[.string s] 50)) := by
    refine ⟨?_, ?_, ⟨rfl, .inl ⟨rfl, rfl⟩⟩, hlow⟩
    · have := heap_alloc_new ((w.alloc (.cells #[.int .i64 0, .slice none 0 0, .string ⟨#[]⟩] 26)).alloc (.cells #[.slice none 0 0, .string ⟨#[]⟩, .int .i64 0] 41)) (.cells #[.string s] 50)
      unfold Reader
      simpa using this
    · have h1 := heap_alloc_new (w.alloc (.cells #[.int .i64 0, .slice none 0 0, .string ⟨#[]⟩] 26)) (.cells #[.slice none 0 0, .string ⟨#[]⟩, .int .i64 0] 41)
      rw [heap_alloc_old _ _ (by simp)]
      simpa using h1
  go_enter Tryz.func9, Tryz.ntmps9
  go_wp2_with fail
  refine (respReadP_any _ (w.heap.size + 1) _ _ s _ hst0 (by unfold TypeOk; decide) (by simp) (by omega) (Nat.le_refl _) (by omega) hlen0 (by omega)).mono ?_
  rintro e w1 ⟨rfl, fv, lf, m, hst2, hst⟩
  obtain ⟨R, hR⟩ : ∃ x, x = w.heap.size := ⟨_, rfl⟩
  obtain ⟨q, hq⟩ : ∃ x, x = w.heap.size + 1 := ⟨_, rfl⟩
  have hRw : w.heap.size ≤ R := by omega
  obtain ⟨fs, hfs⟩ : ∃ x, x = restFs (respRest s) := ⟨_, rfl⟩
  obtain ⟨bd, hbd⟩ : ∃ x, x = restBody (respRest s) := ⟨_, rfl⟩
  rw [← hfs, ← hbd] at hst
  obtain ⟨y1, y2⟩ := restFs_size (respRest s)
  have y3 := restBody_size (respRest s)
  have y4 : (respRest s).size ≤ s.size := by
    unfold respRest
    exact Nat.le_trans (trimP_size _ _) (Nat.le_trans (cutB_size _ _) (trimP_size _ _))
  rw [← hfs] at y1 y2
  rw [← hbd] at y3
  have hbs : bd.size ≤ maxLen := by unfold maxLen; omega
  obtain ⟨n, hn⟩ : ∃ x, x = fs.length := ⟨_, rfl⟩
  have hwk : WalkF n fs := fun i hi => by
    have := y2 i (by omega)
    unfold maxLen
    omega
  have HC : Hid (∀ m' fs' b', IsResp s m' fs' b' → m = m' ∧ fs = fs' ∧ bd = b') := fun m' fs' b' h => by
    obtain ⟨e1, e3, e4⟩ := resp_read h
    have hr := h.1.1
    have h2 := num_ok m'.toNat (by omega)
    rw [← e1] at h2
    have h3 := hst2 h2
    rw [e1, show (numText m'.toNat).data.toList = numL m'.toNat from rfl, numL_val _ (by omega)] at h3
    exact ⟨by omega, by rw [hfs, e3], by rw [hbd, e4]⟩
  have hown := hst.own
  rw [← hn] at hown
  obtain ⟨oa, cp, rfl⟩ := slice_of_owns hown
  have hqc := hst.qc
  rw [← hq] at hqc
  have hb01 := hst.low
  have hb1 : Below w.heap.size w w1 := ((Below.refl _ w).alloc (Nat.le_refl _) _).trans (hb01.mono (by omega))
  have hqlt : q < w1.heap.size := (Array.getElem?_eq_some_iff.1 hqc).1
  have hR1 : w1.heap[R]? = some (.cells #[.int .i64 0, .slice none 0 0, .string ⟨#[]⟩] 26) := by
    rw [hR, hb01.block _ (by omega)]
    exact heap_alloc_new w _
  have HZ : Hid (∀ W, Below w1.heap.size w1 W → W.heap[R]? = some (.cells #[.int .i64 0, .slice none 0 0, .string ⟨#[]⟩] 26) ∧ Below w.heap.size w W) := fun W h =>
    ⟨by rw [h.block _ (by omega)]; exact hR1, hb1.trans (h.mono hb1.size)⟩
  have HQ : Hid (∀ W, Below w1.heap.size w1 W → (W.cell? ⟨q, 0, none⟩ = some (.slice oa n cp) ∧ W.cell? ⟨q, 1, none⟩ = some (.string bd) ∧ W.cell? ⟨q, 2, none⟩ = some (.int .i64 m)) ∧ FieldsV W w.heap.size (.slice oa n cp) n fs ∧ W.ownsRow w.heap.size 53 2 (.slice oa n cp) n (flatF fs)) := fun W h => by
    have hh : W.heap[q]? = _ := (h.block q hqlt).trans hqc
    have ho : W.ownsRow w.heap.size 53 2 (.slice oa n cp) n (flatF fs) := owns_wide (owns_same hown (fun j hj => h.block j (owns_block_lt hown hj).2)) (by omega)
    exact ⟨⟨by simp [World.cell?, hh], by simp [World.cell?, hh], by simp [World.cell?, hh]⟩, FieldsV.of_owns ho, ho⟩
  have HTAB : Hid (TabOk w) := htab
  have HN : Hid (n = fs.length) := hn
  have HB1 : Hid (Below w1.heap.size w1 w1) := Below.refl _ _
  rw [← hq, ← hR]
  have n9 : n ≤ 9 := by omega
  clear hst hown hqc hb01 hb1 hR1 hst0 hlow hlen hlen0 htab hn hfs hbd y1 y2 y3 y4 hR hq hs hlt hst2
  obtain ⟨⟨d0, d1, d2⟩, hv1, _⟩ := HQ.out w1 HB1.out
  go_wp2_with fail
  refine (respOk_any m _ bd n w.heap.size fs _ hv1 (by omega) hwk hbs).mono ?_
  rintro e w2 ⟨b1, rfl, kb1, bb2⟩
  have HB2 : Hid (Below w1.heap.size w1 w2) := bb2
  clear d0 d1 d2 hv1 bb2
  obtain ⟨⟨d0, d1, d2⟩, hv2, _⟩ := HQ.out w2 HB2.out
  cases b1
  · have HNO : Hid (∀ m fs b, ¬ IsResp s m fs b) := fun m' fs' b' h => by
      obtain ⟨e1, e3, e4⟩ := HC.out m' fs' b' h
      subst e1 e3 e4
      have := kb1.2 h.1
      cases this
    obtain ⟨z, hbz⟩ := HZ.out w2 HB2.out
    obtain ⟨⟨c0, c1, c2⟩, f0, f1, f2⟩ := three_facts z
    obtain ⟨⟨k0, k1, k2⟩, _⟩ := three_facts (three_set z (.int .i64 0) (.slice none 0 0) (.string ⟨#[]⟩))
    have HB4 : Hid (Below w.heap.size w (threeSet w2 R (.int .i64 0) (.slice none 0 0) (.string ⟨#[]⟩))) := below_three hbz hRw
    unfold threeSet at k0 k1 k2
    clear z hbz kb1 hv2 hwk hbs
    go_wp2_with fail
    exact bodyPost_ret (v := .tuple #[.agg #[.int .i64 0, .slice none 0 0, .string ⟨#[]⟩], .bool false]) (by simp [results, Tryz.results9, go_sem, k0, k1, k2]) rfl (.inr ⟨rfl, HNO.out, HB4.out⟩)
  · have HP : Hid (RespP m fs bd) := kb1.1 rfl
    have hT2 : TabOk w2 := HTAB.out.below (HZ.out w2 HB2.out).2
    clear kb1
    go_wp2_with fail
    refine (respText_any m _ bd n w.heap.size fs _ hv2 (by omega) hwk hbs hT2).mono ?_
    rintro e w3 ⟨u, rfl, ku, _, bb3⟩
    have HU : Hid (u = respT m fs bd) := ku HP.out
    have HB3 : Hid (Below w1.heap.size w1 w3) := HB2.out.trans (bb3.mono HB2.out.size)
    clear d0 d1 d2 hv2 bb3 ku hT2 hwk hbs
    obtain ⟨⟨d0, d1, d2⟩, _, hown3⟩ := HQ.out w3 HB3.out
    by_cases hus : u = s
    · have HIS : Hid (IsResp s m fs bd) := ⟨HP.out, by rw [← HU.out]; exact hus⟩
      have hts : (u.toList == s.toList) = true := (text_beq _ _).2 hus
      clear hus hown3
      go_wp2_with fail
      refine (faceA_any m oa n cp bd _).mono ?_
      rintro e w4 ⟨rfl, bb4⟩
      have hB4 : Below w1.heap.size w1 w4 := HB3.out.trans (bb4.mono HB3.out.size)
      obtain ⟨_, _, hown4⟩ := HQ.out w4 hB4
      obtain ⟨z, hbz⟩ := HZ.out w4 hB4
      obtain ⟨⟨c0, c1, c2⟩, f0, f1, f2⟩ := three_facts z
      obtain ⟨⟨k0, k1, k2⟩, _⟩ := three_facts (three_set z (.int .i64 m) (.slice oa n cp) (.string bd))
      have HB4 : Hid (Below w.heap.size w (threeSet w4 R (.int .i64 m) (.slice oa n cp) (.string bd))) := below_three hbz hRw
      have HOWN : Hid ((threeSet w4 R (.int .i64 m) (.slice oa n cp) (.string bd)).ownsRow w.heap.size 53 2 (.slice oa n cp) fs.length (flatF fs)) := by
        show World.ownsRow _ _ _ _ _ _ _
        unfold threeSet
        rw [← HN.out]
        obtain ⟨o1, _, r1⟩ := owns_set (o := 0) (x := .int .i64 m) hown4 (by decide) z
        obtain ⟨o2, _, r2⟩ := owns_set (o := 1) (x := .slice oa n cp) o1 (by decide) r1
        exact (owns_set (o := 2) o2 (by decide) r2).1
      unfold threeSet at k0 k1 k2
      clear z hbz hown4 hB4 bb4 d0 d1 d2
      go_wp2_with fail
      exact bodyPost_ret (v := .tuple #[.agg #[.int .i64 m, .slice oa n cp, .string bd], .bool true]) (by simp [results, Tryz.results9, go_sem, k0, k1, k2]) rfl (.inl ⟨m, fs, bd, _, rfl, HIS.out, HOWN.out, HB4.out⟩)
    · have HNO : Hid (∀ m fs b, ¬ IsResp s m fs b) := fun m' fs' b' h => by
        obtain ⟨e1, e3, e4⟩ := HC.out m' fs' b' h
        subst e1 e3 e4
        exact hus (HU.out.trans h.2)
      have hts := text_beq_no hus
      obtain ⟨z, hbz⟩ := HZ.out w3 HB3.out
      obtain ⟨⟨c0, c1, c2⟩, f0, f1, f2⟩ := three_facts z
      obtain ⟨⟨k0, k1, k2⟩, _⟩ := three_facts (three_set z (.int .i64 0) (.slice none 0 0) (.string ⟨#[]⟩))
      have HB4 : Hid (Below w.heap.size w (threeSet w3 R (.int .i64 0) (.slice none 0 0) (.string ⟨#[]⟩))) := below_three hbz hRw
      unfold threeSet at k0 k1 k2
      clear z hbz hus hown3
      go_wp2_with fail
      exact bodyPost_ret (v := .tuple #[.agg #[.int .i64 0, .slice none 0 0, .string ⟨#[]⟩], .bool false]) (by simp [results, Tryz.results9, go_sem, k0, k1, k2]) rfl (.inr ⟨rfl, HNO.out, HB4.out⟩)

end Go.Proofs.YtmmkbgkiglmgeaaGreatDoor

namespace Go.Proofs.YtmmkbgkiglmgeaaGreatDoor
open Go.RowKit
open Go.Lib hiding intOf

/-- What a reading gives: the one request whose text this is, or nothing. -/
def ReqGives (s : ByteArray) (m : Int) (p : ByteArray) (fs : List (ByteArray × ByteArray)) (b : ByteArray) (ok : Bool) : Prop := (ok = true ∧ IsReq s m p fs b) ∨ (ok = false ∧ m = 0 ∧ p = ⟨#[]⟩ ∧ fs = [] ∧ b = ⟨#[]⟩ ∧ ∀ m p fs b, ¬ IsReq s m p fs b)
theorem ReqGives.uniq {s : ByteArray} {m m' : Int} {p p' : ByteArray} {fs fs' : List (ByteArray × ByteArray)} {b b' : ByteArray} {ok ok' : Bool} (h : ReqGives s m p fs b ok) (h' : ReqGives s m' p' fs' b' ok') : m = m' ∧ p = p' ∧ fs = fs' ∧ b = b' ∧ ok = ok' := by
  rcases h with ⟨rfl, h⟩ | ⟨rfl, rfl, rfl, rfl, rfl, h⟩
  · rcases h' with ⟨rfl, h'⟩ | ⟨_, _, _, _, _, h'⟩
    · obtain ⟨e1, e2, e3, e4⟩ := h.uniq h'
      exact ⟨e1, e2, e3, e4, rfl⟩
    · exact absurd h (h' _ _ _ _)
  · rcases h' with ⟨_, h'⟩ | ⟨rfl, rfl, rfl, rfl, rfl, _⟩
    · exact absurd h' (h _ _ _ _)
    · exact ⟨rfl, rfl, rfl, rfl, rfl⟩
theorem ReqIs.form {s : ByteArray} {w : World} {e : Ending} {w' : World} (h : ReqIs s w e w') : ∃ (m : Int) (p : ByteArray) (fs : List (ByteArray × ByteArray)) (b : ByteArray) (v : Value) (ok : Bool), e = .returned (.tuple #[.agg #[.int .i64 m, .string p, v, .string b], .bool ok]) ∧ w'.ownsRow w.heap.size 53 2 v fs.length (flatF fs) ∧ Below w.heap.size w w' ∧ Hid (ReqGives s m p fs b ok) ∧ fs.length ≤ 8 := by
  rcases h with ⟨m, p, fs, b, v, rfl, h1, h2, h3⟩ | ⟨rfl, h1, h2⟩
  · exact ⟨m, p, fs, b, v, true, rfl, h2, h3, .inl ⟨rfl, h1⟩, h1.1.2.2.1.1⟩
  · exact ⟨0, ⟨#[]⟩, [], ⟨#[]⟩, .slice none 0 0, false, rfl, ⟨rfl, .inl ⟨rfl, rfl⟩⟩, h2, .inr ⟨rfl, rfl, rfl, rfl, rfl, h1⟩, by simp⟩

/-- What a reading gives: the one answer whose text this is, or nothing. -/
def RespGives (s : ByteArray) (m : Int) (fs : List (ByteArray × ByteArray)) (b : ByteArray) (ok : Bool) : Prop := (ok = true ∧ IsResp s m fs b) ∨ (ok = false ∧ m = 0 ∧ fs = [] ∧ b = ⟨#[]⟩ ∧ ∀ m fs b, ¬ IsResp s m fs b)
theorem RespGives.uniq {s : ByteArray} {m m' : Int} {fs fs' : List (ByteArray × ByteArray)} {b b' : ByteArray} {ok ok' : Bool} (h : RespGives s m fs b ok) (h' : RespGives s m' fs' b' ok') : m = m' ∧ fs = fs' ∧ b = b' ∧ ok = ok' := by
  rcases h with ⟨rfl, h⟩ | ⟨rfl, rfl, rfl, rfl, h⟩
  · rcases h' with ⟨rfl, h'⟩ | ⟨_, _, _, _, h'⟩
    · obtain ⟨e1, e3, e4⟩ := h.uniq h'
      exact ⟨e1, e3, e4, rfl⟩
    · exact absurd h (h' _ _ _)
  · rcases h' with ⟨_, h'⟩ | ⟨rfl, rfl, rfl, rfl, _⟩
    · exact absurd h' (h _ _ _)
    · exact ⟨rfl, rfl, rfl, rfl⟩
theorem RespIs.form {s : ByteArray} {w : World} {e : Ending} {w' : World} (h : RespIs s w e w') : ∃ (m : Int) (fs : List (ByteArray × ByteArray)) (b : ByteArray) (v : Value) (ok : Bool), e = .returned (.tuple #[.agg #[.int .i64 m, v, .string b], .bool ok]) ∧ w'.ownsRow w.heap.size 53 2 v fs.length (flatF fs) ∧ Below w.heap.size w w' ∧ Hid (RespGives s m fs b ok) ∧ fs.length ≤ 8 := by
  rcases h with ⟨m, fs, b, v, rfl, h1, h2, h3⟩ | ⟨rfl, h1, h2⟩
  · exact ⟨m, fs, b, v, true, rfl, h2, h3, .inl ⟨rfl, h1⟩, h1.1.2.1.1⟩
  · exact ⟨0, [], ⟨#[]⟩, .slice none 0 0, false, rfl, ⟨rfl, .inl ⟨rfl, rfl⟩⟩, h2, .inr ⟨rfl, rfl, rfl, rfl, h1⟩, by simp⟩

/-- A message that was read lies in a block: its cells, and the list that it owns. -/
structure Lies (q : Nat) (cs : Array Value) (t : TypeId) (base hi : Nat) (v : Value) (n : Nat) (fs : List (ByteArray × ByteArray)) (W : World) : Prop where
  cell : W.heap[q]? = some (.cells cs t)
  own : W.ownsRow base 53 2 v n (flatF fs)
  hi : ∀ j, v.ownBlock = some j → j < hi
theorem Lies.below {q : Nat} {cs : Array Value} {t : TypeId} {base hi : Nat} {v : Value} {n : Nat} {fs : List (ByteArray × ByteArray)} {W W' : World} (h : Lies q cs t base hi v n fs W) (hb : Below W.heap.size W W') : Lies q cs t base hi v n fs W' :=
  ⟨by rw [hb.block q (Array.getElem?_eq_some_iff.1 h.cell).1]; exact h.cell, owns_same h.own (fun j hj => hb.block j (owns_block_lt h.own hj).2), h.hi⟩
/-- Another message's list was marked: all of this one stands. -/
theorem Lies.far {q : Nat} {cs : Array Value} {t : TypeId} {base hi : Nat} {v : Value} {n : Nat} {fs : List (ByteArray × ByteArray)} {W W' : World} {v' : Value} {base' n' : Nat} {xs : List Value} (h : Lies q cs t base hi v n fs W) (ht : t ≠ 53) (ho : W.ownsRow base' 53 2 v' n' xs) (hk : hi ≤ base') (hf : Far v' W W') : Lies q cs t base hi v n fs W' :=
  ⟨by rw [hf q (Array.getElem?_eq_some_iff.1 h.cell).1 (own_not ho ht h.cell)]; exact h.cell, owns_same h.own (fun j hj => hf j (owns_block_lt h.own hj).2 (fun e => by
    have h1 := h.hi j hj
    have h2 := (owns_block_lt ho e).1
    omega)), h.hi⟩

end Go.Proofs.YtmmkbgkiglmgeaaGreatDoor

namespace Go.Proofs.YtmmkbgkiglmgeaaGreatDoor
open Go.RowKit
open Go.Lib hiding intOf

/-- Fields of short texts. -/
def ShortF (fs : List (ByteArray × ByteArray)) : Prop := ∀ f ∈ fs, f.1.size ≤ 64 ∧ f.2.size ≤ 64
theorem ShortF.snoc {fs : List (ByteArray × ByteArray)} {nm vl : ByteArray} (h : ShortF fs) (h1 : nm.size ≤ 64) (h2 : vl.size ≤ 64) : ShortF (fs ++ [(nm, vl)]) := by
  intro f hf
  rcases List.mem_append.1 hf with hf | hf
  · exact h f hf
  · simp at hf; subst hf; exact ⟨h1, h2⟩
/-- A call on the cursor answers a list of at most m fields of short texts, in memory of its own, and turns the cursor alone of what was there. -/
def FieldsDrawn (m : Nat) (w : World) (c : Nat) (a : Option Addr) (len cap : Nat) (e : Ending) (w' : World) : Prop :=
  ∃ (v : Value) (fs : List (ByteArray × ByteArray)), e = .returned v ∧ w'.ownsRow w.heap.size 53 2 v fs.length (flatF fs) ∧ fs.length ≤ m ∧ ShortF fs ∧ CurAt w' c a len cap ∧ w.grownBy w' (some c)

set_option maxHeartbeats 2000000 in
set_option maxRecDepth 100000 in
theorem l2DrawRight_any (c B : Nat) (a : Option Addr) (len cap : Nat) (zs : List Int) (w : World) (hcur : CurAt w c a len cap) (hcode : CodeAt w B a len zs) (hB : B ≤ c) :
    Calls Tryz.prog 42 #[.pointer (some ⟨c, 0, none⟩)] w fun e w' => FieldsDrawn 5 w c a len cap e w' := by
  obtain ⟨i0, hi, hz0, hz1, hz2⟩ := info_parts info33
  have hcw := hcur.lt
  go_enter Tryz.func42, Tryz.ntmps42
  go_wp2
  go_loopw [3, 4] (fun v i wr => ∃ (k : Nat) (fs : List (ByteArray × ByteArray)), k ≤ 5 ∧ i = .int .i64 (k : Int) ∧ wr.ownsRow w.heap.size 53 2 v fs.length (flatF fs) ∧ fs.length ≤ k ∧ Hid (ShortF fs) ∧ CurAt wr c a len cap ∧ w.grownBy wr (some c)) (fun _ i _ => 5 - (intOf i).toNat)
  case atStart => exact ⟨0, [], Nat.zero_le _, rfl, ⟨rfl, .inr ⟨w.heap.size, 0, #[], rfl, Nat.le_refl _, heap_alloc_new w _, Nat.le_refl _, Nat.zero_le _, rfl, rfl⟩⟩, Nat.le_refl _, (fun f hf => by simp at hf), hcur.below ((Below.refl _ _).alloc (Nat.le_refl _) _) hcw, World.grownBy_alloc w _ _⟩
  case round =>
    obtain ⟨k, fs, hk, rfl, hown, hfl, hsh, hcu, hgw⟩ := hrel
    go_wp2_with fail
    refine (l1Below_any c B 5 a len cap zs _ hcu (hcode.grown hgw hB) hB (by omega) (by omega)).mono ?_
    rintro e w1 ⟨x, rfl, hx0, hx1, hcu1, hg1⟩
    have hown1 := owns_grown hown hg1 hcw
    have hgw1 := grownBy_trans hgw hg1
    clear hcu hown hg1 hgw
    by_cases hkx : (k : Int) < x
    · go_wp2_with fail
      refine (l2DrawField_any c B a len cap zs _ hcu1 (hcode.grown hgw1 hB) hB).mono ?_
      rintro e w2 ⟨nm, vl, rfl, hnm, hvl, hcu2, hg2⟩
      have hown2 := owns_grown hown1 hg2 hcw
      have hgw2 := grownBy_trans hgw1 hg2
      clear hcu1 hown1 hg2 hgw1
      go_wp2_with fail
      have hown3 := hown2.alloc (.cells #[.string nm, .string vl] 53)
      have hgw3 := grownBy_allocR hgw2 (.cells #[.string nm, .string vl] 53)
      have hcl2 := hcu2.lt
      have hcu3 := hcu2.below ((Below.refl _ _).alloc (Nat.le_refl _) (.cells #[.string nm, .string vl] 53)) hcl2
      have hc0 : (w2.alloc (.cells #[.string nm, .string vl] 53)).cell? ⟨w2.heap.size, 0, none⟩ = some (.string nm) := by rw [World.cell?_alloc_new]; rfl
      have hc1 : (w2.alloc (.cells #[.string nm, .string vl] 53)).cell? ⟨w2.heap.size, 1, none⟩ = some (.string vl) := by rw [World.cell?_alloc_new]; rfl
      have hs3 : w2.heap.size < (w2.alloc (.cells #[.string nm, .string vl] 53)).heap.size := by simp
      obtain ⟨r, hr⟩ : ∃ r, r = w2.heap.size := ⟨_, rfl⟩
      refine (l2At_any u3 fs.length w.heap.size fs nm _ (FieldsV.of_owns hown3) (by omega)).mono ?_
      rintro e w3 ⟨rfl, hw3⟩
      rw [← hw3] at hown3 hgw3 hcu3 hc0 hc1 hs3
      rw [← hr] at hc0 hc1 hs3
      rw [← hr]
      clear hown2 hgw2 hcu2 hw3 hr hcl2
      by_cases hin : atF fs nm < fs.length
      · have hI : Hid (atI fs nm = (atF fs nm : Int)) := by show _ = _; unfold atI; rw [if_pos hin]
        rw [hI.out]
        obtain ⟨p, hp⟩ : ∃ p, p = atF fs nm := ⟨_, rfl⟩
        rw [← hp]
        have hp0 : ¬ (p : Int) < 0 := by omega
        clear hI hin hp
        go_wp2
        go_roundw
        case rel => exact ⟨k + 1, fs, by omega, by go_num, hown3, by omega, hsh, hcu3, hgw3⟩
        case measure => simp [intOf]; omega
      · have hI : Hid (atI fs nm = -1) := by show _ = _; unfold atI; rw [if_neg hin]
        rw [hI.out]
        clear hI hin
        have h63 : fs.length + 1 ≤ maxLen := by unfold maxLen; omega
        have h47 : (fs.length + 1) * 32 ≤ 140737488355328 := by omega
        have hsw3 := hgw3.size
        have hcl3 := hcu3.lt
        have HBS : ∀ o, w.heap.size ≤ (w3.alloc o).heap.size := fun o => by simp; omega
        go_wp2_with (at_builtin; refine wpList_append_own _ rfl _ _ 24 rfl w.heap.size 53 i0 (.agg #[.string ⟨#[]⟩, .string ⟨#[]⟩]) 2 32 Tryz.underlying24 hi hz0 hz1 hz2 rfl (by decide) _ _ _ rfl (hown3.alloc _) ⟨w3.heap.size, 0, none⟩ 1 1 [.string nm, .string vl] rfl rfl (cell_two_new _ _ _ _) (two_text _ _) h63 h47 (HBS _) ?_)
        intro v1 w5 hown5 hgrow _
        have hgw5 : w.grownBy w5 (some c) := grown_later (grownBy_allocR hgw3 _) hgrow (fun g hg => owns_ge hown3 hg)
        have hcu5 : CurAt w5 c a len cap := (hcu3.below ((Below.refl _ _).alloc (Nat.le_refl _) _) hcl3).grown hgrow (fun e => by have := owns_ge hown3 e; omega)
        have hsh5 : Hid (ShortF (fs ++ [(nm, vl)])) := hsh.out.snoc hnm hvl
        clear hgrow hown3 hcu3 hgw3 HBS hc0 hc1
        go_wp2
        go_roundw
        case rel => exact ⟨k + 1, fs ++ [(nm, vl)], by omega, by go_num, by rw [flatF_append, flatF_one]; simpa using hown5, by simp; omega, hsh5, hcu5, hgw5⟩
        case measure => simp [intOf]; omega
    · go_wp2
      go_ret
      exact ⟨_, fs, rfl, hown1, by omega, hsh.out, hcu1, hgw1⟩

theorem owns_slice {w : World} {base : Nat} {t : TypeId} {size : Nat} {v : Value} {n : Nat} {xs : List Value} (h : w.ownsRow base t size v n xs) : ∃ oa cp, v = .slice oa n cp := by
  rcases h.2 with ⟨rfl, rfl⟩ | ⟨g, cap, cur, rfl, _⟩
  · exact ⟨none, 0, rfl⟩
  · exact ⟨_, _, rfl⟩
theorem grown_of_below {w w' : World} (hb : Below w.heap.size w w') : w.grownBy w' none := ⟨hb.os, hb.tape, hb.output, hb.size, fun k hk _ => hb.block k hk⟩
theorem numText_short : ∀ k, k ≤ 9 → (numText k).size ≤ 20 := by decide
def lenOf : Value → Nat
  | .slice _ n _ => n
  | _ => 0
theorem cell_four_new (w : World) (a b c d : Value) (t : TypeId) : ∀ j u, [a, b, c, d][j]? = some u → (w.alloc (.cells #[a, b, c, d] t)).cell? ((⟨w.heap.size, 0, none⟩ : Addr).add j) = some u := by
  intro j u h
  have e : (⟨w.heap.size, 0, none⟩ : Addr).add j = ⟨w.heap.size, j, none⟩ := by
    unfold Addr.add; split <;> simp_all
  rw [e, World.cell?_alloc_new]
  match j, h with
  | 0, h => simpa using h
  | 1, h => simpa using h
  | 2, h => simpa using h
  | 3, h => simpa using h
  | k + 4, h => simp at h
theorem four_text (a b c d : ByteArray) : ∀ u ∈ [Value.string a, Value.string b, Value.string c, Value.string d], u.oneCell' = true := by
  intro u hu
  simp at hu
  rcases hu with rfl | rfl | rfl | rfl <;> rfl

set_option maxHeartbeats 2000000 in
set_option maxRecDepth 100000 in
theorem l2Draw_any (c B : Nat) (a : Option Addr) (len cap : Nat) (zs : List Int) (w : World) (hcur : CurAt w c a len cap) (hcode : CodeAt w B a len zs) (hB : B ≤ c) :
    Calls Tryz.prog 31 #[.pointer (some ⟨c, 0, none⟩)] w fun e w' => FieldsDrawn 40 w c a len cap e w' := by
  obtain ⟨i0, hi, hz0, hz1, hz2⟩ := info_parts info33
  have hcw := hcur.lt
  go_enter Tryz.func31, Tryz.ntmps31
  go_wp2_with fail
  refine (l2DrawRight_any c B a len cap zs _ hcur hcode hB).mono ?_
  rintro e w1 ⟨v, fs, rfl, hown1, hfl, hsh, hcu1, hgw1⟩
  have HSH : Hid (ShortF fs) := hsh
  clear hsh
  go_wp2_with fail
  refine (l1Below_any c B 15 a len cap zs _ hcu1 (hcode.grown hgw1 hB) hB (by omega) (by omega)).mono ?_
  rintro e w2 ⟨x, rfl, hx0, hx1, hcu2, hg2⟩
  have hown2 := owns_grown hown1 hg2 hcw
  have hgw2 := grownBy_trans hgw1 hg2
  clear hcu1 hown1 hg2 hgw1
  by_cases h0 : x = 0
  · subst h0
    go_wp2_with fail
    refine (l2DrawField_any c B a len cap zs _ hcu2 (hcode.grown hgw2 hB) hB).mono ?_
    rintro e w3 ⟨nm, vl, rfl, hnm, hvl, hcu3, hg3⟩
    have hown3 := owns_grown hown2 hg3 hcw
    have hgw3 := grownBy_trans hgw2 hg3
    clear hcu2 hown2 hg3 hgw2
    go_wp2_with fail
    refine (l2DrawField_any c B a len cap zs _ hcu3 (hcode.grown hgw3 hB) hB).mono ?_
    rintro e w4 ⟨nm2, vl2, rfl, hnm2, hvl2, hcu4, hg4⟩
    have hown4 := owns_grown hown3 hg4 hcw
    have hgw4 := grownBy_trans hgw3 hg4
    clear hcu3 hown3 hg4 hgw3
    have h63 : fs.length + 2 ≤ maxLen := by unfold maxLen; omega
    have h47 : (fs.length + 2) * 32 ≤ 140737488355328 := by omega
    have hsw4 := hgw4.size
    have hcl4 := hcu4.lt
    have HBS : ∀ o, w.heap.size ≤ (w4.alloc o).heap.size := fun o => by simp; omega
    go_wp2_with (at_builtin; refine wpList_append_own _ rfl _ _ 24 rfl w.heap.size 53 i0 (.agg #[.string ⟨#[]⟩, .string ⟨#[]⟩]) 2 32 Tryz.underlying24 hi hz0 hz1 hz2 rfl (by decide) _ _ _ rfl (hown4.alloc _) ⟨w4.heap.size, 0, none⟩ 2 2 [.string nm, .string vl, .string nm2, .string vl2] rfl rfl (cell_four_new _ _ _ _ _ _) (four_text _ _ _ _) h63 h47 (HBS _) ?_)
    intro v1 w5 hown5 hgrow _
    have hgw5 : w.grownBy w5 (some c) := grown_later (grownBy_allocR hgw4 _) hgrow (fun g hg => owns_ge hown4 hg)
    have hcu5 : CurAt w5 c a len cap := (hcu4.below ((Below.refl _ _).alloc (Nat.le_refl _) _) hcl4).grown hgrow (fun e => by have := owns_ge hown4 e; omega)
    clear hgrow hown4 hcu4 hgw4 HBS
    go_wp2
    go_ret
    exact ⟨_, (fs ++ [(nm, vl)]) ++ [(nm2, vl2)], rfl, by rw [flatF_append, flatF_append, flatF_one, flatF_one]; simpa using hown5, by simp; omega, (HSH.out.snoc hnm hvl).snoc hnm2 hvl2, hcu5, hgw5⟩
  by_cases h1 : x = 1
  · subst h1
    go_wp2_with fail
    refine (pick_new c B [⟨#[]⟩, ⟨#[65]⟩, ⟨#[99, 111, 110, 116, 101, 110, 116, 45, 108, 101, 110, 103, 116, 104]⟩] 64 (by decide) a len cap zs w2 hcu2 (hcode.grown hgw2 hB) hB (by decide) (by decide)).mono ?_
    rintro e w3 ⟨nm, rfl, hnm, hcu3, hg3⟩
    have hown3 := owns_grown hown2 hg3 hcw
    have hgw3 := grownBy_trans hgw2 hg3
    clear hcu2 hown2 hg3 hgw2
    go_wp2_with fail
    refine (pick_new c B [⟨#[]⟩, ⟨#[32, 97]⟩, ⟨#[49]⟩] 64 (by decide) a len cap zs w3 hcu3 (hcode.grown hgw3 hB) hB (by decide) (by decide)).mono ?_
    rintro e w4 ⟨vl, rfl, hvl, hcu4, hg4⟩
    have hown4 := owns_grown hown3 hg4 hcw
    have hgw4 := grownBy_trans hgw3 hg4
    clear hcu3 hown3 hg4 hgw3
    have h63 : fs.length + 1 ≤ maxLen := by unfold maxLen; omega
    have h47 : (fs.length + 1) * 32 ≤ 140737488355328 := by omega
    have hsw4 := hgw4.size
    have hcl4 := hcu4.lt
    have HBS : ∀ o, w.heap.size ≤ (w4.alloc o).heap.size := fun o => by simp; omega
    go_wp2_with (at_builtin; refine wpList_append_own _ rfl _ _ 24 rfl w.heap.size 53 i0 (.agg #[.string ⟨#[]⟩, .string ⟨#[]⟩]) 2 32 Tryz.underlying24 hi hz0 hz1 hz2 rfl (by decide) _ _ _ rfl (hown4.alloc _) ⟨w4.heap.size, 0, none⟩ 1 1 [.string nm, .string vl] rfl rfl (cell_two_new _ _ _ _) (two_text _ _) h63 h47 (HBS _) ?_)
    intro v1 w5 hown5 hgrow _
    have hgw5 : w.grownBy w5 (some c) := grown_later (grownBy_allocR hgw4 _) hgrow (fun g hg => owns_ge hown4 hg)
    have hcu5 : CurAt w5 c a len cap := (hcu4.below ((Below.refl _ _).alloc (Nat.le_refl _) _) hcl4).grown hgrow (fun e => by have := owns_ge hown4 e; omega)
    clear hgrow hown4 hcu4 hgw4 HBS
    go_wp2
    go_ret
    exact ⟨_, fs ++ [(nm, vl)], rfl, by rw [flatF_append, flatF_one]; simpa using hown5, by simp; omega, HSH.out.snoc hnm hvl, hcu5, hgw5⟩
  by_cases h2 : x = 2
  · subst h2
    clear h0 h1
    go_wp2
    obtain ⟨oa, cp, rfl⟩ := owns_slice hown2
    go_loopw [3] (fun v wr => ∃ (oa : Option Addr) (cp : Nat) (fs : List (ByteArray × ByteArray)), v = .slice oa fs.length cp ∧ wr.ownsRow w.heap.size 53 2 (.slice oa fs.length cp) fs.length (flatF fs) ∧ fs.length ≤ 9 ∧ Hid (ShortF fs) ∧ CurAt wr c a len cap ∧ w.grownBy wr (some c)) (fun v _ => 9 - lenOf v)
    case atStart => exact ⟨oa, cp, fs, rfl, hown2, by omega, HSH, hcu2, hgw2⟩
    case round =>
      obtain ⟨oa, cp, fs, rfl, hown, hfl, hsh, hcu, hgw⟩ := hrel
      go_wp2_with fail
      refine (l1Below_any c B 2 a len cap zs _ hcu (hcode.grown hgw hB) hB (by omega) (by omega)).mono ?_
      rintro e w3 ⟨x, rfl, hx0, hx1, hcu3, hg3⟩
      have hown3 := owns_grown hown hg3 hcw
      have hgw3 := grownBy_trans hgw hg3
      clear hcu hown hg3 hgw
      by_cases hlt : (fs.length : Int) < 8 + x
      · go_wp2_with fail
        refine (specNumText_any fs.length _ (by omega)).mono ?_
        rintro e w4 ⟨rfl, hb4⟩
        obtain ⟨nt, hnt⟩ : ∃ nt, nt = numText fs.length := ⟨_, rfl⟩
        have hns : nt.size ≤ 20 := by rw [hnt]; exact numText_short _ (by omega)
        rw [← hnt]
        clear hnt
        have hown4 := owns_below hown3 hb4 (fun g hg => owns_lt hown3 hg)
        have hgw4 : w.grownBy w4 (some c) := grown_later hgw3 (grown_of_below hb4) (fun g e => by cases e)
        have hcu4 := hcu3.below hb4 hcu3.lt
        clear hown3 hgw3 hcu3 hb4
        obtain ⟨nm, hnm⟩ : ∃ nm, nm = (⟨#[110]⟩ : ByteArray) ++ nt := ⟨_, rfl⟩
        have hnz : nm.size ≤ 64 := by rw [hnm, ByteArray.size_append]; show 1 + nt.size ≤ 64; omega
        have hbig : ¬ 9223372036854775807 < 1 + nt.size := by omega
        have h63 : fs.length + 1 ≤ maxLen := by unfold maxLen; omega
        have h47 : (fs.length + 1) * 32 ≤ 140737488355328 := by omega
        have hsw4 := hgw4.size
        have hcl4 := hcu4.lt
        have HBS : ∀ o, w.heap.size ≤ (w4.alloc o).heap.size := fun o => by simp; omega
        have HNM : Hid (nm = (⟨#[110]⟩ : ByteArray) ++ nt) := hnm
        clear hnm
        go_wp2_with (at_builtin; rw [← HNM.out]; refine wpList_append_own _ rfl _ _ 24 rfl w.heap.size 53 i0 (.agg #[.string ⟨#[]⟩, .string ⟨#[]⟩]) 2 32 Tryz.underlying24 hi hz0 hz1 hz2 rfl (by decide) _ _ _ rfl (hown4.alloc _) ⟨w4.heap.size, 0, none⟩ 1 1 [.string nm, .string ⟨#[118]⟩] rfl rfl (cell_two_new _ _ _ _) (two_text _ _) h63 h47 (HBS _) ?_)
        intro v1 w5 hown5 hgrow _
        have hgw5 : w.grownBy w5 (some c) := grown_later (grownBy_allocR hgw4 _) hgrow (fun g hg => owns_ge hown4 hg)
        have hcu5 : CurAt w5 c a len cap := (hcu4.below ((Below.refl _ _).alloc (Nat.le_refl _) _) hcl4).grown hgrow (fun e => by have := owns_ge hown4 e; omega)
        clear hgrow hown4 hcu4 hgw4 HBS
        obtain ⟨oa1, cp1, rfl⟩ := owns_slice hown5
        go_wp2
        go_roundw
        case rel => exact ⟨oa1, cp1, fs ++ [(nm, ⟨#[118]⟩)], by simp, by rw [flatF_append, flatF_one]; simpa using hown5, by simp; omega, hsh.out.snoc hnz (by decide), hcu5, hgw5⟩
        case measure => simp [lenOf]; omega
      · go_wp2
        go_ret
        exact ⟨_, fs, rfl, hown3, by omega, hsh.out, hcu3, hgw3⟩
  · have e0 : (x == 0) = false := by simpa using h0
    have e1 : (x == 1) = false := by simpa using h1
    have e2 : (x == 2) = false := by simpa using h2
    clear h0 h1 h2
    go_wp2
    go_ret
    exact ⟨_, fs, rfl, hown2, by omega, HSH.out, hcu2, hgw2⟩

end Go.Proofs.YtmmkbgkiglmgeaaGreatDoor

namespace Go.Proofs.YtmmkbgkiglmgeaaGreatDoor
open Go.RowKit
open Go.Lib hiding intOf

def bodyL : List ByteArray := [⟨#[]⟩, ⟨#[104, 101, 108, 108, 111]⟩, ⟨#[13, 10, 13, 10]⟩, ⟨#[97, 0, 98]⟩, ⟨#[111, 110, 101, 32, 116, 119, 111]⟩]
set_option maxHeartbeats 1000000 in
set_option maxRecDepth 100000 in
theorem l3DrawBody_any (c B : Nat) (a : Option Addr) (len cap : Nat) (zs : List Int) (w : World) (hcur : CurAt w c a len cap) (hcode : CodeAt w B a len zs) (hB : B ≤ c) :
    Calls Tryz.prog 43 #[.pointer (some ⟨c, 0, none⟩)] w fun e w' => TextDrawn 14 w c a len cap e w' := by
  go_enter Tryz.func43, Tryz.ntmps43
  go_wp2_with fail
  refine (l1Once_any c B 2 a len cap zs _ hcur hcode hB (by omega) (by omega)).mono ?_
  rintro e w1 ⟨⟨b, rfl⟩, hcu1, hg1⟩
  have hco1 := hcode.grown hg1 hB
  clear hcur hcode
  cases b
  · go_wp2_with fail
    refine (l1DrawText_any c B a len cap zs _ hcu1 hco1 hB).mono ?_
    rintro e w2 ⟨t, rfl, ht, hcu2, hg2⟩
    have hg3 := grownBy_trans hg1 hg2
    clear hg1 hg2 hcu1 hco1
    go_wp2
    go_ret
    exact ⟨t, rfl, ht, hcu2, hg3⟩
  · go_wp2_with fail
    refine (pick_new c B bodyL 14 (by decide) a len cap zs w1 hcu1 hco1 hB (by decide) (by decide)).mono ?_
    rintro e w2 ⟨t, rfl, ht, hcu2, hg2⟩
    have hg3 := grownBy_trans hg1 hg2
    clear hg1 hg2 hcu1 hco1
    go_wp2
    go_ret
    exact ⟨t, rfl, ht, hcu2, hg3⟩

theorem ints_at (w : World) (xs : List Int) (j : Nat) (hj : j < xs.length) : (w.alloc (.cells (xs.map (Value.int .i64)).toArray 3)).cell? ⟨w.heap.size, j, none⟩ = some (.int .i64 (xs.getD j 0)) := by
  rw [World.cell?_alloc_new]
  simp [List.getD_eq_getElem?_getD, hj]
set_option maxHeartbeats 1000000 in
theorem pickInt_new (c B : Nat) (xs : List Int) (lo hi : Int) (hm : ∀ j, j < xs.length → lo ≤ xs.getD j 0 ∧ xs.getD j 0 ≤ hi) (a : Option Addr) (len cap : Nat) (zs : List Int) (w : World) (hcur : CurAt w c a len cap) (hcode : CodeAt w B a len zs) (hB : B ≤ c) (hn : 1 ≤ xs.length) (hn2 : xs.length ≤ 256) :
    Calls Tryz.prog 30 #[.pointer (some ⟨c, 0, none⟩), .slice (some ⟨w.heap.size, 0, none⟩) xs.length xs.length] (w.alloc (.cells (xs.map (Value.int .i64)).toArray 3)) fun e w' => ∃ n : Int, e = .returned (.int .i64 n) ∧ lo ≤ n ∧ n ≤ hi ∧ CurAt w' c a len cap ∧ w.grownBy w' (some c) := by
  have hc := hcur.lt
  have HL : Hid (∀ j, j < xs.length → (w.alloc (.cells (xs.map (Value.int .i64)).toArray 3)).cell? ⟨w.heap.size, j, none⟩ = some (.int .i64 (xs.getD j 0))) := ints_at w xs
  have HM : Hid (∀ j, j < xs.length → lo ≤ xs.getD j 0 ∧ xs.getD j 0 ≤ hi) := hm
  have hcu0 := hcur.below ((Below.refl _ w).alloc (Nat.le_refl _) (.cells (xs.map (Value.int .i64)).toArray 3)) hc
  have hg0 : w.grownBy (w.alloc (.cells (xs.map (Value.int .i64)).toArray 3)) (some c) := World.grownBy_alloc w _ _
  have hco0 := hcode.grown hg0 hB
  clear hm hcur hcode
  obtain ⟨w0, hw0⟩ : ∃ W, W = w.alloc (.cells (xs.map (Value.int .i64)).toArray 3) := ⟨_, rfl⟩
  rw [← hw0] at HL hcu0 hg0 hco0 ⊢
  obtain ⟨n, hnn⟩ : ∃ n, n = xs.length := ⟨_, rfl⟩
  rw [← hnn] at HL HM hn hn2 ⊢
  obtain ⟨g, hg⟩ : ∃ g, g = w.heap.size := ⟨_, rfl⟩
  have hgc : g ≠ c := by omega
  rw [← hg] at HL ⊢
  clear hw0 hnn hg
  go_enter Tryz.func30, Tryz.ntmps30
  go_wp2_with fail
  refine (l1Below_any c B n a len cap zs _ hcu0 hco0 hB (by omega) (by omega)).mono ?_
  rintro e w1 ⟨x, rfl, hx0, hx1, hcur1, hg1⟩
  obtain ⟨j, rfl⟩ := Int.eq_ofNat_of_zero_le hx0
  have hj : j < n := by omega
  have hcell : w1.cell? ⟨g, j, none⟩ = some (.int .i64 (xs.getD j 0)) := grown_cell hg1 (HL.out j hj) hgc
  have hjr := HM.out j hj
  have hg2 := grownBy_trans hg0 hg1
  clear hg0 hg1 hcu0 hco0
  go_wp2
  go_ret
  exact ⟨_, rfl, hjr.1, hjr.2, hcur1, hg2⟩

theorem owns_heap {w : World} {base : Nat} {t : TypeId} {size : Nat} {v : Value} {n : Nat} {xs : List Value} {j : Nat} (h : w.ownsRow base t size v n xs) (hj : v.ownBlock = some j) : ∃ cur, w.heap[j]? = some (.cells cur t (0, 0)) := by
  rcases h.2 with ⟨rfl, rfl⟩ | ⟨g, cap, cur, rfl, _, h1, _⟩
  · cases hj
  · cases hj; exact ⟨cur, h1⟩
end Go.Proofs.YtmmkbgkiglmgeaaGreatDoor

namespace Go.Proofs.YtmmkbgkiglmgeaaGreatDoor
open Go.RowKit
open Go.Lib hiding intOf

set_option maxHeartbeats 1000000 in
theorem l1Below_all (c B : Nat) (m : Int) (a : Option Addr) (len cap : Nat) (zs : List Int) (w : World) (hcur : CurAt w c a len cap) (hcode : CodeAt w B a len zs) (hB : B ≤ c) (hm : 1 ≤ m) (hm2 : m ≤ 65536) :
    Calls Tryz.prog 29 #[.pointer (some ⟨c, 0, none⟩), .int .i64 m] w fun e w' => DrawIs m w c a len cap e w' := by
  by_cases h256 : m ≤ 256
  · exact l1Below_any c B m a len cap zs w hcur hcode hB hm h256
  · have hm0 : ¬ m ≤ 0 := by omega
    go_enter Tryz.func29, Tryz.ntmps29
    go_wp2_with fail
    refine (l1Byte_any c B a len cap zs _ hcur hcode hB).mono ?_
    rintro e w1 ⟨x, rfl, hx0, hx1, hcur1, hg1⟩
    have hco1 := hcode.grown hg1 hB
    go_wp2_with fail
    refine (l1Byte_any c B a len cap zs _ hcur1 hco1 hB).mono ?_
    rintro e w2 ⟨y, rfl, hy0, hy1, hcur2, hg2⟩
    have hg3 := grownBy_trans hg1 hg2
    have hco2 := hcode.grown hg3 hB
    go_wp2_with fail
    refine (l1Byte_any c B a len cap zs _ hcur2 hco2 hB).mono ?_
    rintro e w3 ⟨z, rfl, hz0, hz1, hcur3, hg4⟩
    have hg5 := grownBy_trans hg3 hg4
    have hco3 := hcode.grown hg5 hB
    go_wp2_with fail
    refine (l1Byte_any c B a len cap zs _ hcur3 hco3 hB).mono ?_
    rintro e w4 ⟨u, rfl, hu0, hu1, hcur4, hg6⟩
    have hg7 := grownBy_trans hg5 hg6
    clear hcur hcode hcur1 hco1 hg1 hg2 hg3 hco2 hcur2 hcur3 hg4 hg5 hco3 hg6
    go_wp2_with fail
    go_ret
    exact ⟨_, rfl, Int.emod_nonneg _ (by omega), Int.emod_lt_of_pos _ (by omega), hcur4, hg7⟩

end Go.Proofs.YtmmkbgkiglmgeaaGreatDoor

namespace Go.Proofs.YtmmkbgkiglmgeaaGreatDoor
open Go.RowKit
open Go.Lib hiding intOf

set_option maxHeartbeats 1000000 in
set_option maxRecDepth 100000 in
theorem l3Dent_any (c B : Nat) (s : ByteArray) (f : Nat → ByteArray) (g n : Nat) (hxs : ∀ j, j < n → (f j).size ≤ 64) (hn1 : 1 ≤ n) (hn2 : n ≤ 256) (a : Option Addr) (len cap : Nat) (zs : List Int) (w : World) (hcur : CurAt w c a len cap) (hcode : CodeAt w B a len zs) (hB : B ≤ c) (hs : s.size ≤ 20000) (hgc : g ≠ c) (hl : ListAt w g n f) :
    Calls Tryz.prog 23 #[.pointer (some ⟨c, 0, none⟩), .string s, .slice (some ⟨g, 0, none⟩) n n] w fun e w' => TextDrawn 20064 w c a len cap e w' := by
  have HX : Hid (∀ j, j < n → (f j).size ≤ 64) := hxs
  have HL : Hid (∀ W, w.grownBy W (some c) → ListAt W g n f) := fun W h j hj => grown_cell h (hl j hj) hgc
  have HCO : Hid (∀ W, w.grownBy W (some c) → CodeAt W B a len zs) := fun W h => hcode.grown h hB
  clear hxs hl
  go_enter Tryz.func23, Tryz.ntmps23
  go_wp2_with fail
  refine (l1Below_all c B ((s.size : Int) + 1) a len cap zs _ hcur hcode hB (by omega) (by omega)).mono ?_
  rintro e w1 ⟨x, rfl, hx0, hx1, hcu1, hg1⟩
  obtain ⟨k, rfl⟩ := Int.eq_ofNat_of_zero_le hx0
  have hks : k ≤ s.size := by omega
  have hki : (k : Int) ≤ (s.size : Int) := by omega
  clear hcur hcode
  go_wp2_with fail
  refine (l1Below_any c B 5 a len cap zs _ hcu1 (HCO.out _ hg1) hB (by omega) (by omega)).mono ?_
  rintro e w2 ⟨y, rfl, hy0, hy1, hcu2, hg2⟩
  have hg3 := grownBy_trans hg1 hg2
  clear hcu1 hg1 hg2
  by_cases y0 : y = 0
  · subst y0
    go_wp2_with fail
    go_ret
    exact ⟨_, rfl, by simp; omega, hcu2, hg3⟩
  · have e0 : (y == 0) = false := by rw [beq_eq_false_iff_ne]; exact y0
    by_cases y1 : y = 1
    · subst y1
      have HG : Hid (w.grownBy w2.drew (some c)) := grownBy_trans hg3 (grown_below ((Below.refl _ w2).drew) _)
      have HP : Hid (∀ W, w2.drew.grownBy W (some c) → w.grownBy W (some c)) := fun W h => grownBy_trans HG.out h
      have HCD : Hid (CurAt w2.drew c a len cap) := hcu2.below ((Below.refl _ w2).drew) hcu2.lt
      have hk0 : (0 : Int) ≤ (k : Int) := by omega
      have ZZ : Hid (∀ t : ByteArray, t.size ≤ 64 → ¬ 9223372036854775807 < k + t.size ∧ ¬ 9223372036854775807 < k + t.size + (s.size - k)) := fun t h => ⟨by omega, by omega⟩
      clear hy0 hy1 e0 hx0 hx1 y0
      clear hcu2 hg3
      go_wp2_with fail
      go_region_law (first | (go_simp; go_at_call 41; refine (l1Pick_any c B g n f a len cap zs _ HCD.out (HCO.out _ HG.out) hB hn1 hn2 (HL.out _ HG.out) hgc).mono ?_; rintro e w3 ⟨j, hj, rfl, hcu3, hg4⟩; have hg5 := HP.out w3 hg4; have hts := HX.out j hj; obtain ⟨r1, r2⟩ := ZZ.out _ hts; clear hg4))
      go_wp2_with fail
      go_ret
      exact ⟨_, rfl, by simp only [ByteArray.size_append, ByteArray.size_extract]; omega, hcu3, hg5⟩
    · have e1 : (y == 1) = false := by rw [beq_eq_false_iff_ne]; exact y1
      go_wp2_with fail
      go_ret
      exact ⟨_, rfl, by omega, hcu2, hg3⟩

end Go.Proofs.YtmmkbgkiglmgeaaGreatDoor

namespace Go.Proofs.YtmmkbgkiglmgeaaGreatDoor
open Go.RowKit
open Go.Lib hiding intOf

set_option maxHeartbeats 1000000 in
theorem sameFields_any (v1 v2 : Value) (n b1 b2 : Nat) (fs : List (ByteArray × ByteArray)) (w : World) (h1 : FieldsV w b1 v1 n fs) (h2 : FieldsV w b2 v2 n fs) (hn : n ≤ 2000000) :
    Calls Tryz.prog 10 #[v1, v2] w fun e w' => e = .returned (.bool true) ∧ Below w.heap.size w w' := by
  obtain ⟨oa, ca, rfl, hr1⟩ := h1.slice
  obtain ⟨ob, cb, rfl, hr2⟩ := h2.slice
  have H1 : Hid (∀ k, k < n → ∃ g, oa = some ⟨g, 0, none⟩ ∧ FieldRow b1 w g n ca fs) := hr1
  have H2 : Hid (∀ k, k < n → ∃ g, ob = some ⟨g, 0, none⟩ ∧ FieldRow b2 w g n cb fs) := hr2
  clear h1 h2 hr1 hr2
  go_enter Tryz.func10, Tryz.ntmps10
  go_wp2
  go_loopw [5] (fun i wr => ∃ k : Nat, k ≤ n ∧ i = .int .i64 (k : Int) ∧ Below w.heap.size w wr) (fun i _ => n - (intOf i).toNat)
  case atStart => exact ⟨0, Nat.zero_le _, rfl, Below.refl _ _⟩
  case round =>
    obtain ⟨k, hk, rfl, hbw⟩ := hrel
    by_cases hlt : k < n
    · have hlt2 : (k : Int) < (n : Int) := by omega
      obtain ⟨g1, rfl, r1⟩ := H1.out k hlt
      obtain ⟨g2, rfl, r2⟩ := H2.out k hlt
      have ha := (r1.below hbw r1.lt).name k hlt
      have hb := (r1.below hbw r1.lt).val k hlt
      have hc := (r2.below hbw r2.lt).name k hlt
      have hd := (r2.below hbw r2.lt).val k hlt
      obtain ⟨nm, hnm⟩ : ∃ y, y = nameAt fs k := ⟨_, rfl⟩
      obtain ⟨vl, hvl⟩ : ∃ y, y = valAt fs k := ⟨_, rfl⟩
      rw [← hnm] at ha hc
      rw [← hvl] at hb hd
      clear r1 r2 hnm hvl
      have t1 : (nm.toList == nm.toList) = true := by simp
      have t2 : (vl.toList == vl.toList) = true := by simp
      go_wp2
      go_quiet (fail)
      go_wp2
      go_roundw
      case rel => exact ⟨k + 1, by omega, by go_num, below_drewN hbw _⟩
      case measure => simp [intOf]; omega
    · go_wp2
      go_ret
      exact ⟨rfl, hbw⟩

theorem ShortF.name {fs : List (ByteArray × ByteArray)} (h : ShortF fs) (i : Nat) (hi : i < fs.length) : (nameAt fs i).size ≤ 64 ∧ (valAt fs i).size ≤ 64 := by
  have := h (nameAt fs i, valAt fs i) (by rw [pair_at fs i hi]; exact List.getElem_mem hi)
  exact this
theorem ShortF.put {fs : List (ByteArray × ByteArray)} (h : ShortF fs) {name value : ByteArray} (h1 : name.size ≤ 64) (h2 : value.size ≤ 64) : ShortF (putF fs name value) := by
  by_cases hin : atF fs name < fs.length
  · rw [putF_eq fs name value hin]
    intro f hf
    rcases List.mem_or_eq_of_mem_set hf with hf | hf
    · exact h f hf
    · subst hf; exact ⟨h1, h2⟩
  · have hp : putF fs name value = fs ++ [(name, value)] := by unfold putF; rw [if_neg hin]
    rw [hp]; exact h.snoc h1 h2
theorem ShortF.drop {fs : List (ByteArray × ByteArray)} (h : ShortF fs) (name : ByteArray) : ShortF (dropF fs name) := by
  rw [dropF_eq]
  split
  · intro f hf; exact h f (List.mem_of_mem_eraseIdx hf)
  · exact h
end Go.Proofs.YtmmkbgkiglmgeaaGreatDoor

namespace Go.Proofs.YtmmkbgkiglmgeaaGreatDoor
open Go.RowKit

/-- What is said of keeping. -/
structure CcD where
  ns : Bool
  nc : Bool
  pr : Bool
  mu : Bool
  ha : Bool
  age : Int
def CcD.v (c : CcD) : Value := .agg #[.bool c.ns, .bool c.nc, .bool c.pr, .bool c.mu, .bool c.ha, .int .i64 c.age]
end Go.Proofs.YtmmkbgkiglmgeaaGreatDoor

namespace Go.Proofs.YtmmkbgkiglmgeaaGreatDoor
open Go.RowKit

def hxB (d : Nat) : UInt8 := UInt8.ofNat (if d < 10 then 48 + d else 87 + d)
def hxF : Nat → Nat → List UInt8
  | 0, _ => []
  | f + 1, n => if n = 0 then [] else hxF f (n / 16) ++ [hxB (n % 16)]
theorem hxF_zero (f : Nat) : hxF f 0 = [] := by cases f <;> simp [hxF]
theorem hxF_pos (f n : Nat) (h : n ≠ 0) : hxF (f + 1) n = hxF f (n / 16) ++ [hxB (n % 16)] := by simp [hxF, h]
def hexL (n : Nat) : List UInt8 := if 1000000 < n then [] else if n = 0 then [48] else hxF 5 n
abbrev HexB (b : UInt8) : Prop := (48 ≤ b.toNat ∧ b.toNat ≤ 57) ∨ (97 ≤ b.toNat ∧ b.toNat ≤ 102)
def hexV (b : UInt8) : Nat := if b.toNat ≤ 57 then b.toNat - 48 else b.toNat - 87
theorem hxB_facts (d : Nat) (h : d < 16) : HexB (hxB d) ∧ hexV (hxB d) = d ∧ (d ≠ 0 → hxB d ≠ 48) := by
  have : ∀ d : Fin 16, HexB (hxB d.1) ∧ hexV (hxB d.1) = d.1 ∧ (d.1 ≠ 0 → hxB d.1 ≠ 48) := by decide
  exact this ⟨d, h⟩
def hexVal (l : List UInt8) : Nat := l.foldl (fun v b => 16 * v + hexV b) 0
theorem hexVal_snoc (l : List UInt8) (b : UInt8) : hexVal (l ++ [b]) = 16 * hexVal l + hexV b := by simp [hexVal]
theorem hx_facts : ∀ (f n : Nat), n < 16 ^ f → (∀ b ∈ hxF f n, HexB b) ∧ hexVal (hxF f n) = n ∧ (∀ b, (hxF f n).head? = some b → b ≠ 48) ∧ (n ≠ 0 → hxF f n ≠ []) := by
  intro f
  induction f with
  | zero => intro n h; simp at h; subst h; simp [hxF, hexVal]
  | succ f ih =>
    intro n h
    by_cases h0 : n = 0
    · subst h0; rw [hxF_zero]; simp [hexVal]
    · rw [Nat.pow_succ] at h
      obtain ⟨h1, h2, h3, h4⟩ := ih (n / 16) (by omega)
      have hd := hxB_facts (n % 16) (by omega)
      rw [hxF_pos f n h0]
      refine ⟨fun b hb => ?_, ?_, fun b hb => ?_, fun _ => by simp⟩
      · simp only [List.mem_append, List.mem_singleton] at hb
        rcases hb with hb | rfl
        · exact h1 b hb
        · exact hd.1
      · rw [hexVal_snoc, h2, hd.2.1]; omega
      · by_cases hz : n / 16 = 0
        · rw [hz, hxF_zero] at hb
          simp at hb
          subst hb
          exact hd.2.2 (by omega)
        · have hne := h4 hz
          obtain ⟨c, r, hc⟩ : ∃ c r, hxF f (n / 16) = c :: r := by
            cases hx : hxF f (n / 16) with
            | nil => exact absurd hx hne
            | cons c r => exact ⟨c, r, rfl⟩
          rw [hc] at hb h3
          simp at hb h3
          rw [← hb]; exact h3
theorem hx_len : ∀ (f n k : Nat), n < 16 ^ k → (hxF f n).length ≤ k := by
  intro f
  induction f with
  | zero => intro n k _; simp [hxF]
  | succ f ih =>
    intro n k h
    by_cases h0 : n = 0
    · subst h0; rw [hxF_zero]; simp
    · cases k with
      | zero => simp at h; omega
      | succ k =>
        rw [Nat.pow_succ] at h
        have := ih (n / 16) k (by omega)
        rw [hxF_pos f n h0]
        simp; omega
/-- A length that may begin a part: one to four digits, no needless nought. -/
theorem hex_head (n : Nat) (h : n < 65536) : 1 ≤ (hexL n).length ∧ (hexL n).length ≤ 4 ∧ (∀ b ∈ hexL n, HexB b) ∧ hexVal (hexL n) = n ∧ (1 < (hexL n).length → ∀ b, (hexL n).head? = some b → b ≠ 48) := by
  unfold hexL
  rw [if_neg (by omega)]
  by_cases h0 : n = 0
  · rw [if_pos h0, h0]
    refine ⟨by simp, by simp, ?_, rfl, by simp⟩
    intro b hb
    simp at hb
    subst hb
    decide
  · rw [if_neg h0]
    obtain ⟨h1, h2, h3, h4⟩ := hx_facts 5 n (by omega)
    have hl := hx_len 5 n 4 (by omega)
    refine ⟨?_, hl, h1, h2, fun _ => h3⟩
    cases hx : hxF 5 n with
    | nil => exact absurd hx (h4 h0)
    | cons c r => simp

/-- A line's end held against what stands there: 0 it is one, 1 it may become one, 2 it is none. -/
def lineC : List UInt8 → Int
  | [] => 1
  | [c] => if c = 13 then 1 else 2
  | c :: d :: _ => if c = 13 ∧ d = 10 then 0 else 2
def digN : Nat → List UInt8 → Nat
  | 0, _ => 0
  | _ + 1, [] => 0
  | f + 1, c :: r => if HexB c then digN f r + 1 else 0
theorem digN_le : ∀ (f : Nat) (r : List UInt8), digN f r ≤ f ∧ digN f r ≤ r.length
  | 0, _ => by simp [digN]
  | _ + 1, [] => by simp [digN]
  | f + 1, c :: r => by
    have := digN_le f r
    unfold digN
    split
    · simp; omega
    · simp
theorem digN_hex : ∀ (f : Nat) (r : List UInt8), ∀ b ∈ r.take (digN f r), HexB b
  | 0, _ => by simp [digN]
  | _ + 1, [] => by simp [digN]
  | f + 1, c :: r => by
    have := digN_hex f r
    unfold digN
    split
    · rename_i h
      intro b hb
      simp only [List.take_succ_cons, List.mem_cons] at hb
      rcases hb with rfl | hb
      · exact h
      · exact this b hb
    · simp
theorem digN_pre : ∀ (l rest : List UInt8) (f : Nat), l.length ≤ f → (∀ b ∈ l, HexB b) → (l.length = f ∨ ∀ c r, rest = c :: r → ¬ HexB c) → digN f (l ++ rest) = l.length
  | [], rest, f, _, _, h => by
    rcases h with h | h
    · simp at h; subst h; simp [digN]
    · cases f with
      | zero => simp [digN]
      | succ f =>
        cases rest with
        | nil => simp [digN]
        | cons c r => simp [digN, h c r rfl]
  | b :: l, rest, f, hf, hh, h => by
    cases f with
    | zero => simp at hf
    | succ f =>
      have ih := digN_pre l rest f (by simpa using hf) (fun x hx => hh x (by simp [hx])) (by
        rcases h with h | h
        · left; simpa using h
        · right; exact h)
      simp [digN, hh b (by simp), ih]
def lenK (r : List UInt8) : Nat := digN 5 r
abbrev lenBad (r : List UInt8) : Prop := 4 < lenK r ∨ (1 < lenK r ∧ r.head? = some 48) ∨ (lenK r = 0 ∧ r ≠ [])
/-- What is told of a length and its line's end. -/
def lenC (r : List UInt8) : Int := if lenBad r then 2 else if lenK r = 0 then 1 else lineC (r.drop (lenK r))
def lenN (r : List UInt8) : Nat := hexVal (r.take (lenK r))
theorem lineC_zero {r : List UInt8} (h : lineC r = 0) : ∃ t, r = 13 :: 10 :: t := by
  match r with
  | [] => simp [lineC] at h
  | [c] => simp only [lineC] at h; split at h <;> simp at h
  | c :: d :: t =>
    simp only [lineC] at h
    split at h
    · rename_i e; exact ⟨t, by rw [e.1, e.2]⟩
    · simp at h
theorem lineC_vals (r : List UInt8) : lineC r = 0 ∨ lineC r = 1 ∨ lineC r = 2 := by
  match r with
  | [] => simp [lineC]
  | [c] => simp only [lineC]; split <;> simp
  | c :: d :: t => simp only [lineC]; split <;> simp
theorem lineC_mono {r t : List UInt8} (h : lineC r ≠ 1) : lineC (r ++ t) = lineC r := by
  match r with
  | [] => simp [lineC] at h
  | [c] =>
    by_cases e : c = 13
    · simp [lineC, e] at h
    · cases t with
      | nil => simp
      | cons d t => simp [lineC, e]
  | c :: d :: u => simp [lineC]
theorem lenC_zero {r : List UInt8} (h : lenC r = 0) : 1 ≤ lenK r ∧ lenK r ≤ 4 ∧ ¬ lenBad r ∧ ∃ t, r.drop (lenK r) = 13 :: 10 :: t := by
  unfold lenC at h
  by_cases hb : lenBad r
  · rw [if_pos hb] at h; simp at h
  · rw [if_neg hb] at h
    by_cases h0 : lenK r = 0
    · rw [if_pos h0] at h; simp at h
    · rw [if_neg h0] at h
      refine ⟨by omega, ?_, hb, lineC_zero h⟩
      unfold lenBad at hb
      omega
theorem lenC_vals (r : List UInt8) : lenC r = 0 ∨ lenC r = 1 ∨ lenC r = 2 := by
  unfold lenC
  split
  · simp
  · split
    · simp
    · exact lineC_vals _
/-- A length, and a line's end behind it. -/
theorem len_head (n : Nat) (h : n < 65536) (rest : List UInt8) (hr : ∀ c r, rest = c :: r → c = 13) : lenK (hexL n ++ rest) = (hexL n).length ∧ lenN (hexL n ++ rest) = n ∧ lenC (hexL n ++ rest) = lineC rest := by
  obtain ⟨h1, h2, h3, h4, h5⟩ := hex_head n h
  have hk : lenK (hexL n ++ rest) = (hexL n).length := digN_pre _ _ 5 (by omega) h3 (.inr (fun c r e => by rw [hr c r e]; decide))
  refine ⟨hk, ?_, ?_⟩
  · unfold lenN; rw [hk, List.take_left]; exact h4
  · unfold lenC
    rw [if_neg, hk, if_neg (by omega), List.drop_left]
    unfold lenBad
    rw [hk]
    rintro (h | ⟨h, e⟩ | ⟨h, _⟩)
    · omega
    · cases hx : hexL n with
      | nil => rw [hx] at h1; simp at h1
      | cons c r =>
        rw [hx] at e h5 h
        simp at e
        exact h5 (by simpa using h) c (by simp) e
    · omega
theorem lenK_mono {r : List UInt8} (t : List UInt8) (h : lenC r = 0) : lenK (r ++ t) = lenK r ∧ lenN (r ++ t) = lenN r ∧ lenC (r ++ t) = 0 := by
  obtain ⟨h1, h2, hb, u, hu⟩ := lenC_zero h
  have hl := digN_le 5 r
  have e : r = r.take (lenK r) ++ 13 :: 10 :: u := by rw [← hu, List.take_append_drop]
  have hlen : (r.take (lenK r)).length = lenK r := by rw [List.length_take]; unfold lenK; omega
  have hk : lenK (r ++ t) = lenK r := by
    have : r ++ t = r.take (lenK r) ++ (13 :: 10 :: u ++ t) := by rw [← List.append_assoc, ← e]
    rw [this]
    have := digN_pre (r.take (lenK r)) (13 :: 10 :: u ++ t) 5 (by omega) (digN_hex 5 r) (.inr (fun c q e => by simp at e; rw [← e.1]; decide))
    show digN 5 _ = _
    rw [this, hlen]
  refine ⟨hk, ?_, ?_⟩
  · unfold lenN; rw [hk, List.take_append_of_le_length (by unfold lenK; omega)]
  · unfold lenC
    rw [if_neg, hk, if_neg (by omega), List.drop_append_of_le_length (by unfold lenK; omega), hu]
    · simp [lineC]
    · unfold lenBad at hb ⊢
      rw [hk]
      rintro (h | ⟨h, e⟩ | ⟨h, _⟩)
      · omega
      · refine hb (.inr (.inl ⟨h, ?_⟩))
        cases r with
        | nil => simp at hl; unfold lenK at h; omega
        | cons c q => simpa using e
      · omega
theorem lenC_mono {r : List UInt8} (t : List UInt8) (h : lenC r ≠ 1) : lenC (r ++ t) = lenC r := by
  rcases lenC_vals r with h0 | h1 | h2
  · rw [(lenK_mono t h0).2.2, h0]
  · exact absurd h1 h
  · have hl := digN_le 5 r
    have hl2 := digN_le 5 (r ++ t)
    have hh := digN_hex 5 r
    have hlen : (r.take (lenK r)).length = lenK r := by rw [List.length_take]; unfold lenK; omega
    rw [h2]
    by_cases hb : lenBad r
    · have hb2 : lenBad (r ++ t) := by
        have hge : lenK r ≤ lenK (r ++ t) := by
          have : ∀ (f : Nat) (a b : List UInt8), digN f a ≤ digN f (a ++ b) := by
            intro f
            induction f with
            | zero => intro a b; simp [digN]
            | succ f ih =>
              intro a b
              cases a with
              | nil => simp [digN]
              | cons c a =>
                simp only [List.cons_append, digN]
                split
                · have := ih a b; omega
                · simp
          exact this 5 r t
        rcases hb with h | ⟨h, e⟩ | ⟨h, e⟩
        · exact .inl (by omega)
        · refine .inr (.inl ⟨by omega, ?_⟩)
          cases r with
          | nil => simp at e
          | cons c q => simpa using e
        · cases r with
          | nil => exact absurd rfl e
          | cons c q =>
            have hc : ¬ HexB c := by
              intro hc
              unfold lenK at h
              simp [digN, hc] at h
            refine .inr (.inr ⟨?_, by simp⟩)
            simp [lenK, digN, hc]
      unfold lenC; rw [if_pos hb2]
    · unfold lenC at h2
      rw [if_neg hb] at h2
      by_cases h0 : lenK r = 0
      · rw [if_pos h0] at h2; simp at h2
      · rw [if_neg h0] at h2
        have hne : lineC (r.drop (lenK r)) ≠ 1 := by rw [h2]; simp
        have hk4 : lenK r ≤ 4 := by unfold lenBad at hb; omega
        -- a byte behind the digits that is no digit
        obtain ⟨c, q, hc, hnc⟩ : ∃ c q, r.drop (lenK r) = c :: q ∧ ¬ HexB c := by
          cases hd : r.drop (lenK r) with
          | nil => rw [hd] at h2; simp [lineC] at h2
          | cons c q =>
            refine ⟨c, q, rfl, fun hx => ?_⟩
            have e : r = (r.take (lenK r) ++ [c]) ++ q := by rw [List.append_assoc]; simp [← hd]
            have : ∀ (f : Nat) (l m : List UInt8), (∀ b ∈ l, HexB b) → l.length ≤ f → l.length ≤ digN f (l ++ m) := by
              intro f
              induction f with
              | zero => intro l m _ hl; simp at hl; simp [hl]
              | succ f ih =>
                intro l m hl hlf
                cases l with
                | nil => simp
                | cons x l =>
                  simp only [List.cons_append, digN, hl x (by simp), if_true, List.length_cons]
                  have := ih l m (fun b hb => hl b (by simp [hb])) (by simpa using hlf)
                  omega
            have h9 := this 5 (r.take (lenK r) ++ [c]) q (fun b hb => by
              simp only [List.mem_append, List.mem_singleton] at hb
              rcases hb with hb | rfl
              · exact hh b hb
              · exact hx) (by simp; omega)
            rw [← e] at h9
            simp [hlen] at h9
            unfold lenK at h9
            omega
        have hk : lenK (r ++ t) = lenK r := by
          have e : r ++ t = r.take (lenK r) ++ (c :: q ++ t) := by rw [← hc, ← List.append_assoc, List.take_append_drop]
          have h9 := digN_pre (r.take (lenK r)) (c :: q ++ t) 5 (by omega) hh (.inr (fun c' q' e' => by simp at e'; rw [← e'.1]; exact hnc))
          rw [← e, hlen] at h9
          exact h9
        unfold lenC
        rw [if_neg, hk, if_neg h0, List.drop_append_of_le_length (by unfold lenK; omega), lineC_mono hne, h2]
        unfold lenBad at hb ⊢
        rw [hk]
        rintro (h | ⟨h, e⟩ | ⟨h, _⟩)
        · omega
        · refine hb (.inr (.inl ⟨h, ?_⟩))
          cases r with
          | nil => simp at hc
          | cons x q => simpa using e
        · omega

end Go.Proofs.YtmmkbgkiglmgeaaGreatDoor
