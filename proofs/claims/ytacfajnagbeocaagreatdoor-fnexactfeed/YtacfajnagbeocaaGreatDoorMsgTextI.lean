/- 'restText', 'text', 'requestOf', 'answerOf', 'ReqText', 'RespText' of the program: contracts over the translation. -/
import Derived.Test.YtacfajnagbeocaaGreatDoorMsgOk
import Derived.Test.YtacfajnagbeocaaGreatDoorMsgText
import Derived.Test.YtacfajnagbeocaaGreatDoorFieldText
import Derived.Test.YtacfajnagbeocaaGreatDoorNumText
namespace Go.Proofs.YtacfajnagbeocaaGreatDoor
open Go.RowKit
open Go.Lib hiding intOf

/-- What a message's text is behind its first line. -/
def restT (tell : Bool) (fs : List (ByteArray × ByteArray)) (b : ByteArray) : ByteArray :=
  (if tell = true then fieldsText fs ++ (⟨#[]⟩ ++ clen ++ ⟨#[58, 32]⟩ ++ numText b.size ++ ⟨#[13, 10]⟩) else fieldsText fs) ++ ⟨#[13, 10]⟩ ++ b
theorem field_text (a b : ByteArray) : fieldsText [(a, b)] = ⟨#[]⟩ ++ a ++ ⟨#[58, 32]⟩ ++ b ++ ⟨#[13, 10]⟩ := rfl
theorem one_row {w W : World} {base : Nat} {a b : ByteArray} (h : W.heap[w.heap.size]? = some (.cells #[.string a, .string b] 63)) (hb : base ≤ w.heap.size) (hl : w.heap.size < W.heap.size) : FieldsV W base (.slice (some ⟨w.heap.size, 0, none⟩) 1 1) 1 [(a, b)] := by
  refine .inr ⟨w.heap.size, 1, rfl, by omega, ⟨rfl, hb, hl, Nat.le_refl _, by unfold maxLen; omega, _, h, rfl, ?_⟩⟩
  intro i hi
  obtain rfl : i = 0 := by omega
  exact ⟨rfl, rfl⟩
theorem rest_req (m : Int) (p : ByteArray) (fs : List (ByteArray × ByteArray)) (b : ByteArray) : methB m ++ ⟨#[32]⟩ ++ p ++ ⟨#[32]⟩ ++ ⟨#[72, 84, 84, 80, 47, 49, 46, 49]⟩ ++ ⟨#[13, 10]⟩ ++ restT (decide (b.size ≠ 0)) fs b = reqT m p fs b := by
  apply bs_inj
  unfold reqT reqHead restT
  by_cases h : b.size = 0
  · simp [h, bs, httpEnd, lnE]
  · simp [h, bs, httpEnd, lnE, clenK, clen]
theorem rest_resp (st : Int) (fs : List (ByteArray × ByteArray)) (b : ByteArray) : ⟨#[72, 84, 84, 80, 47, 49, 46, 49, 32]⟩ ++ numText st.toNat ++ ⟨#[32]⟩ ++ ⟨#[46]⟩ ++ ⟨#[13, 10]⟩ ++ restT true fs b = respT st fs b := by
  apply bs_inj
  unfold respT restT
  simp [bs, httpAhead, dotEnd, lnE2, clenK, clen]
theorem restT_size (tell : Bool) {fs : List (ByteArray × ByteArray)} (hf : FldsOk fs) {b : ByteArray} (hb : b.size ≤ 120) : (restT tell fs b).size ≤ 1000 := by
  have h1 := ft_small hf
  have h2 := numText_size b.size
  have e1 : (⟨#[]⟩ : ByteArray).size = 0 := rfl
  have e2 : clen.size = 14 := rfl
  have e3 : (⟨#[58, 32]⟩ : ByteArray).size = 2 := rfl
  have e4 : (⟨#[13, 10]⟩ : ByteArray).size = 2 := rfl
  unfold restT
  cases tell
  · rw [if_neg (by decide)]; simp only [ByteArray.size_append]; omega
  · rw [if_pos rfl]; simp only [ByteArray.size_append]; omega

set_option maxHeartbeats 1000000 in
theorem restText_any (v : Value) (b : ByteArray) (tell : Bool) (n base : Nat) (fs : List (ByteArray × ByteArray)) (w : World) (hv : FieldsV w base v n fs) (hn : n ≤ 1073741824) (hf : FldsOk fs) (hb : b.size ≤ 120) (htab : TabOk w) :
    Calls Tryz.prog 70 #[.agg #[v, .string b], .bool tell] w fun e w' => TextIs (restT tell fs b) w e w' := by
  obtain ⟨oa, cap, rfl, _⟩ := hv.slice
  obtain ⟨r, hr⟩ : ∃ r, r = w.heap.size := ⟨_, rfl⟩
  have HR : Hid (∀ W, Below (w.alloc (.cells #[.slice oa n cap, .string b] 83)).heap.size (w.alloc (.cells #[.slice oa n cap, .string b] 83)) W → (W.cell? ⟨r, 0, none⟩ = some (.slice oa n cap) ∧ W.cell? ⟨r, 1, none⟩ = some (.string b)) ∧ FieldsV W base (.slice oa n cap) n fs ∧ Below w.heap.size w W) := fun W h => by
    have hh := kept_new h
    rw [← hr] at hh
    exact ⟨⟨by simp [World.cell?, hh], by simp [World.cell?, hh]⟩, hv.below (below_new h), below_new h⟩
  obtain ⟨_, hv0, _⟩ := HR.out _ (Below.refl _ _)
  have hfs := ft_small hf
  have HT : Hid ((fieldsText fs).size ≤ 1099511627776) := by show _ ≤ _; omega
  have HTAB : Hid (TabOk w) := htab
  go_enter Tryz.func70, Tryz.ntmps70
  go_wp2_with fail
  refine (text_any _ n base fs _ hv0 hn HT.out).mono ?_
  rintro e w1 ⟨rfl, bb1⟩
  rw [← hr]
  obtain ⟨⟨c0, c1⟩, _, hbw1⟩ := HR.out w1 bb1
  have HB1 : Hid (Below (w.alloc (.cells #[.slice oa n cap, .string b] 83)).heap.size (w.alloc (.cells #[.slice oa n cap, .string b] 83)) w1) := bb1
  obtain ⟨ft, hft⟩ : ∃ x, x = fieldsText fs := ⟨_, rfl⟩
  rw [← hft] at hfs ⊢
  have HFT : Hid (fieldsText fs = ft) := hft.symm
  clear hv hv0 bb1 hr hf htab hft HT
  have e2 : (⟨#[13, 10]⟩ : ByteArray).size = 2 := rfl
  cases tell
  · have HE : Hid (ft ++ ⟨#[13, 10]⟩ ++ b = restT false fs b) := by
      show _ = _
      unfold restT
      rw [if_neg (by decide), HFT.out]
    have q1 : ¬ 9223372036854775807 < ft.size + 2 := by omega
    have q2 : ¬ 9223372036854775807 < ft.size + 2 + b.size := by omega
    go_wp2_with fail
    go_ret
    exact TextIs.of HE.out hbw1
  · have hT1 : TabOk w1 := HTAB.out.below hbw1
    have hns := numText_size b.size
    obtain ⟨nt, hnt⟩ : ∃ x, x = numText b.size := ⟨_, rfl⟩
    have HNI : Hid (numTextI (b.size : Int) = nt) := by
      show _ = _
      unfold numTextI
      rw [if_neg (by omega), hnt]
      rfl
    rw [← hnt] at hns
    obtain ⟨lt, hlt⟩ : ∃ x, x = fieldsText [((⟨#[99, 111, 110, 116, 101, 110, 116, 45, 108, 101, 110, 103, 116, 104]⟩ : ByteArray), nt)] := ⟨_, rfl⟩
    have hls : lt.size ≤ 40 := by
      rw [hlt, field_text]
      have k1 : (⟨#[]⟩ : ByteArray).size = 0 := rfl
      have k2 : (⟨#[99, 111, 110, 116, 101, 110, 116, 45, 108, 101, 110, 103, 116, 104]⟩ : ByteArray).size = 14 := rfl
      have k3 : (⟨#[58, 32]⟩ : ByteArray).size = 2 := rfl
      simp only [ByteArray.size_append]
      omega
    have HLT : Hid (fieldsText [((⟨#[99, 111, 110, 116, 101, 110, 116, 45, 108, 101, 110, 103, 116, 104]⟩ : ByteArray), nt)] = lt) := hlt.symm
    have HLS : Hid ((fieldsText [((⟨#[99, 111, 110, 116, 101, 110, 116, 45, 108, 101, 110, 103, 116, 104]⟩ : ByteArray), nt)]).size ≤ 1099511627776) := by show _ ≤ _; rw [← hlt]; omega
    have HE : Hid (ft ++ lt ++ ⟨#[13, 10]⟩ ++ b = restT true fs b) := by
      show _ = _
      unfold restT
      rw [if_pos rfl, HFT.out, ← hnt, hlt, field_text]
      rfl
    clear hnt hlt
    go_wp2_with fail
    refine (implNumText_any (b.size : Int) _ (by omega) (by omega) hT1).mono ?_
    rintro e w2 ⟨rfl, bb2⟩
    rw [HNI.out]
    clear c0 c1 hT1
    have HB2 : Hid (Below (w.alloc (.cells #[.slice oa n cap, .string b] 83)).heap.size (w.alloc (.cells #[.slice oa n cap, .string b] 83)) w2) := HB1.out.trans (bb2.mono HB1.out.size)
    clear bb2 hbw1
    obtain ⟨h3, hh3⟩ : ∃ x, x = w2.heap.size := ⟨_, rfl⟩
    have hv3 : FieldsV (w2.alloc (.cells #[.string ⟨#[99, 111, 110, 116, 101, 110, 116, 45, 108, 101, 110, 103, 116, 104]⟩, .string nt] 63)) w2.heap.size (.slice (some ⟨w2.heap.size, 0, none⟩) 1 1) 1 [(⟨#[99, 111, 110, 116, 101, 110, 116, 45, 108, 101, 110, 103, 116, 104]⟩, nt)] := one_row (heap_alloc_new w2 _) (Nat.le_refl _) (by simp)
    have HB3 : Hid (Below (w.alloc (.cells #[.slice oa n cap, .string b] 83)).heap.size (w.alloc (.cells #[.slice oa n cap, .string b] 83)) (w2.alloc (.cells #[.string ⟨#[99, 111, 110, 116, 101, 110, 116, 45, 108, 101, 110, 103, 116, 104]⟩, .string nt] 63))) := HB2.out.alloc HB2.out.size _
    go_wp2_with fail
    refine (text_any _ 1 w2.heap.size [(⟨#[99, 111, 110, 116, 101, 110, 116, 45, 108, 101, 110, 103, 116, 104]⟩, nt)] _ hv3 (by omega) HLS.out).mono ?_
    rintro e w4 ⟨rfl, bb4⟩
    rw [HLT.out]
    obtain ⟨⟨d0, d1⟩, _, hbw4⟩ := HR.out w4 (HB3.out.trans (bb4.mono HB3.out.size))
    clear hv3 bb4 hh3
    have q1 : ¬ 9223372036854775807 < ft.size + lt.size := by omega
    have q2 : ¬ 9223372036854775807 < ft.size + lt.size + 2 := by omega
    have q3 : ¬ 9223372036854775807 < ft.size + lt.size + 2 + b.size := by omega
    go_wp2_with fail
    go_ret
    exact TextIs.of HE.out hbw4

set_option maxHeartbeats 1000000 in
set_option maxRecDepth 100000 in
theorem reqText_any (m : Int) (p : ByteArray) (v : Value) (b : ByteArray) (n base : Nat) (fs : List (ByteArray × ByteArray)) (w : World) (hv : FieldsV w base v n fs) (hn : n ≤ 1073741824) (hsz : WalkF n fs) (hp : p.size ≤ maxLen) (hb : b.size ≤ maxLen) (htab : TabOk w) :
    Calls Tryz.prog 54 #[.agg #[v, .string b, .int .i64 m, .string p]] w fun e w' => TextOf (ReqP m p fs b) (reqT m p fs b) w e w' := by
  obtain ⟨oa, cap, rfl, _⟩ := hv.slice
  obtain ⟨r, hr⟩ : ∃ r, r = w.heap.size := ⟨_, rfl⟩
  have HR : Hid (∀ W, Below (w.alloc (.cells #[.slice oa n cap, .string b, .int .i64 m, .string p] 85)).heap.size (w.alloc (.cells #[.slice oa n cap, .string b, .int .i64 m, .string p] 85)) W → (W.cell? ⟨r, 0, none⟩ = some (.slice oa n cap) ∧ W.cell? ⟨r, 1, none⟩ = some (.string b) ∧ W.cell? ⟨r, 2, none⟩ = some (.int .i64 m) ∧ W.cell? ⟨r, 3, none⟩ = some (.string p)) ∧ FieldsV W base (.slice oa n cap) n fs ∧ Below w.heap.size w W) := fun W h => by
    have hh := kept_new h
    rw [← hr] at hh
    exact ⟨⟨by simp [World.cell?, hh], by simp [World.cell?, hh], by simp [World.cell?, hh], by simp [World.cell?, hh]⟩, hv.below (below_new h), below_new h⟩
  obtain ⟨_, hv0, _⟩ := HR.out _ (Below.refl _ _)
  have HTAB : Hid (TabOk w) := htab
  go_enter Tryz.func54, Tryz.ntmps54
  go_wp2_with fail
  refine (reqOk_any m p _ b n base fs _ hv0 hn hsz hp hb).mono ?_
  rintro e w1 ⟨b1, rfl, kb1, bb1⟩
  rw [← hr]
  obtain ⟨⟨c0, c1, c2, c3⟩, hv1, hbw1⟩ := HR.out w1 bb1
  have HV1 : Hid (FieldsV w1 base (.slice oa n cap) n fs) := hv1
  clear hv hv0 hv1 hsz hp hb htab hr
  cases b1
  · have HF : Hid (¬ ReqP m p fs b) := fun h => by have := kb1.2 h; cases this
    clear kb1 bb1
    go_wp2_with fail
    go_ret
    exact ⟨_, rfl, fun h => absurd h HF.out, fun _ => rfl, hbw1⟩
  · have HY : Hid (ReqP m p fs b) := kb1.1 rfl
    have hps : p.size ≤ 60 := HY.out.2.1.2.2.1
    have hbs : b.size ≤ 120 := HY.out.2.2.2
    have hms := methB_size m
    obtain ⟨mt, hmt⟩ : ∃ x, x = methB m := ⟨_, rfl⟩
    rw [← hmt] at hms
    have HMT : Hid (methB m = mt) := hmt.symm
    have hrs := restT_size (decide (b.size ≠ 0)) HY.out.2.2.1 hbs
    obtain ⟨rt, hrt⟩ : ∃ x, x = restT (decide (b.size ≠ 0)) fs b := ⟨_, rfl⟩
    rw [← hrt] at hrs
    have HRT : Hid (restT (decide (b.size ≠ 0)) fs b = rt) := hrt.symm
    have HE : Hid (mt ++ ⟨#[32]⟩ ++ p ++ ⟨#[32]⟩ ++ ⟨#[72, 84, 84, 80, 47, 49, 46, 49]⟩ ++ ⟨#[13, 10]⟩ ++ rt = reqT m p fs b) := by
      show _ = _
      rw [← HMT.out, ← HRT.out]
      exact rest_req m p fs b
    have HB1 : Hid (Below (w.alloc (.cells #[.slice oa n cap, .string b, .int .i64 m, .string p] 85)).heap.size (w.alloc (.cells #[.slice oa n cap, .string b, .int .i64 m, .string p] 85)) w1) := bb1
    clear kb1 bb1 hmt hrt
    have e1 : (⟨#[32]⟩ : ByteArray).size = 1 := rfl
    have e2 : (⟨#[72, 84, 84, 80, 47, 49, 46, 49]⟩ : ByteArray).size = 8 := rfl
    have e3 : (⟨#[13, 10]⟩ : ByteArray).size = 2 := rfl
    have q1 : ¬ 9223372036854775807 < mt.size + 1 := by omega
    have q2 : ¬ 9223372036854775807 < mt.size + 1 + p.size := by omega
    have q3 : ¬ 9223372036854775807 < mt.size + 1 + p.size + 1 := by omega
    have q4 : ¬ 9223372036854775807 < mt.size + 1 + p.size + 1 + 8 := by omega
    have q5 : ¬ 9223372036854775807 < mt.size + 1 + p.size + 1 + 8 + 2 := by omega
    have q6 : ¬ 9223372036854775807 < mt.size + 1 + p.size + 1 + 8 + 2 + rt.size := by omega
    go_wp2_with fail
    go_region_held3 (fun W => W.cell? ⟨r, 2, none⟩ = some (.int .i64 m) ∧ W.cell? ⟨r, 3, none⟩ = some (.string p)) (first | assumption | go_keep) (first | (go_at_call 67; refine (methodName_any m _).mono ?_; rintro e w2 ⟨rfl, rfl⟩; rw [HMT.out]))
    have HB2 : Hid (Below (w.alloc (.cells #[.slice oa n cap, .string b, .int .i64 m, .string p] 85)).heap.size (w.alloc (.cells #[.slice oa n cap, .string b, .int .i64 m, .string p] 85)) w1.drew) := HB1.out.drew
    generalize w1.drew = w2 at HB2 ⊢
    obtain ⟨⟨d0, d1, d2, d3⟩, hv2, hbw2⟩ := HR.out w2 HB2.out
    have hT2 : TabOk w2 := HTAB.out.below hbw2
    clear c0 c1 c2 c3 HB1 HV1 hbw1
    have hF := HY.out.2.2.1
    by_cases hb0 : b.size = 0
    · have HRT0 : Hid (restT false fs b = rt) := by
        show _ = _
        rw [← HRT.out]
        simp [hb0]
      obtain rfl := empty_text hb0
      go_wp2_with fail
      refine (restText_any _ _ false n base fs _ hv2 hn hF hbs hT2).mono ?_
      rintro e w3 ⟨rfl, bb3⟩
      rw [HRT0.out]
      obtain ⟨_, _, hbw3⟩ := HR.out w3 (HB2.out.trans (bb3.mono HB2.out.size))
      clear bb3 hv2 hT2 d0 d1 d2 d3 hF
      go_wp2_with fail
      go_ret
      exact ⟨_, rfl, fun _ => HE.out, fun h => absurd HY.out h, hbw3⟩
    · have HRT1 : Hid (restT true fs b = rt) := by
        show _ = _
        rw [← HRT.out]
        simp [hb0]
      have ht : b.toList.isEmpty = false := isEmpty_no (by omega)
      go_wp2_with fail
      refine (restText_any _ _ true n base fs _ hv2 hn hF hbs hT2).mono ?_
      rintro e w3 ⟨rfl, bb3⟩
      rw [HRT1.out]
      obtain ⟨_, _, hbw3⟩ := HR.out w3 (HB2.out.trans (bb3.mono HB2.out.size))
      clear bb3 hv2 hT2 d0 d1 d2 d3 hF
      go_wp2_with fail
      go_ret
      exact ⟨_, rfl, fun _ => HE.out, fun h => absurd HY.out h, hbw3⟩


end Go.Proofs.YtacfajnagbeocaaGreatDoor
