/- 'l4Digit', 'Hex', 'l1Min', 'l1Max', 'ChunkText' of the specification: contracts over the translation. -/
import Derived.Test.YtkpnacopljceaaaDoorChunkTextP
import Derived.Test.YtkpnacopljceaaaDoorMsgSpec
import Derived.Test.YtkpnacopljceaaaDoorNum
import Derived.Deep.RegionLaw
namespace Go.Proofs.YtkpnacopljceaaaDoor
open Go.RowKit
open Go.Lib hiding intOf

def hxI (d : Int) : Int := if d < 10 then 48 + d else 87 + d
set_option maxHeartbeats 400000 in
theorem l4Digit_any (d : Int) (w : World) (h0 : 0 ≤ d) (h1 : d < 16) :
    Calls Tryd.prog 40 #[.int .i64 d] w fun e w' => e = .returned (.int .u8 (hxI d)) ∧ w' = w := by
  by_cases h : d < 10
  · have HE : Hid (hxI d = 48 + d) := by show _ = _; unfold hxI; rw [if_pos h]
    go_enter Tryd.func40, Tryd.ntmps40
    go_wp2
    go_ret
    exact ⟨by rw [HE.out]; refine ret_int ?_; simp, rfl⟩
  · have HE : Hid (hxI d = 87 + d) := by show _ = _; unfold hxI; rw [if_neg h]
    go_enter Tryd.func40, Tryd.ntmps40
    go_wp2
    go_ret
    exact ⟨by rw [HE.out]; refine ret_int ?_; simp, rfl⟩
theorem conv_byte (W : World) (d : Int) : (convert 22 9 (.slice (some ⟨W.heap.size, 0, none⟩) 1 1)).run Tryd.prog (W.alloc (.cells #[.int .u8 d] 5)) = .ok (.string (strOfNums [d])) (W.alloc (.cells #[.int .u8 d] 5)) :=
  run_convert_bytes_arg (P := Tryd.prog) (W.alloc (.cells #[.int .u8 d] 5)) 22 5 Tryd.underlying22 Tryd.underlying5 W.heap.size 0 1 1 [d] rfl (fun i hi => by
    have : i = 0 := by omega
    subst this
    simp) 9 Tryd.underlying9
theorem hx_byte (m : Nat) : (strOfNums [hxI ((m : Int) % 16)]).data.toList = [hxB (m % 16)] := by
  rw [strOfNums_data]
  unfold hxI hxB
  by_cases h : m % 16 < 10
  · rw [if_pos (by omega), if_pos h]
    have : (48 + (m : Int) % 16).toNat = 48 + m % 16 := by omega
    simp only [List.map_cons, List.map_nil, this]
  · rw [if_neg (by omega), if_neg h]
    have : (87 + (m : Int) % 16).toNat = 87 + m % 16 := by omega
    simp only [List.map_cons, List.map_nil, this]

set_option maxHeartbeats 1000000 in
theorem specHex_any (n : Int) (w : World) :
    Calls Tryd.prog 18 #[.int .i64 n] w fun e w' => TextIs (hexTI n) w e w' := by
  by_cases hin : 0 ≤ n ∧ n ≤ 1000000
  · obtain ⟨k, rfl⟩ := Int.eq_ofNat_of_zero_le hin.1
    have e1 : decide (0 ≤ (k : Int) ∧ (k : Int) ≤ 1000000) = true := by simpa using hin
    have hk : k ≤ 1000000 := by omega
    by_cases h0 : k = 0
    · subst h0
      have HT : Hid (⟨#[48]⟩ = hexTI ((0 : Nat) : Int)) := rfl
      clear hin e1
      go_enter Tryd.func18, Tryd.ntmps18
      go_wp2_with fail
      refine (l1In_any _ 0 1000000 _).mono ?_
      rintro e w1 ⟨rfl, rfl⟩
      go_wp2_with fail
      go_ret
      exact TextIs.of HT.out (Below.refl _ _)
    · have HT : Hid (∀ out : ByteArray, out.data.toList = hxF 5 k → out = hexTI (k : Int)) := fun out h => by
        apply ByteArray.ext
        apply Array.toList_inj.1
        rw [h]
        unfold hexTI hexT hexL
        rw [if_neg (by omega), show ((k : Int)).toNat = k by omega, if_neg (by omega), if_neg h0]
      have hne : ((k : Int) == 0) = false := by rw [beq_eq_false_iff_ne]; omega
      have hcv := conv_byte
      have hlt : k < 16 ^ 5 := by omega
      go_enter Tryd.func18, Tryd.ntmps18
      go_wp2_with fail
      refine (l1In_any _ 0 1000000 _).mono ?_
      rintro e w1 ⟨rfl, rfl⟩
      rw [e1]
      clear hin e1
      go_wp2
      go_loopw [0, 3] (fun a b wr => ∃ (f m : Nat) (out : ByteArray), a = .int .i64 (m : Int) ∧ b = .string out ∧ m ≤ 1000000 ∧ f ≤ 5 ∧ out.size ≤ 5 - f ∧ Below w1.heap.size w1 wr ∧ Hid (m < 16 ^ f ∧ hxF f m ++ out.data.toList = hxF 5 k)) (fun a _ _ => (intOf a).toNat)
      case atStart => exact ⟨5, k, _, rfl, rfl, hk, Nat.le_refl _, Nat.le_refl _, Below.refl _ _, ⟨hlt, by simp⟩⟩
      case round =>
        obtain ⟨f, m, out, rfl, rfl, hm, hf5, hsz, hbw, hd⟩ := hrel
        by_cases hp : (0 : Int) < (m : Int)
        · have hone : ∀ d : Int, (strOfNums [d]).size = 1 := fun d => strOfNums_size [d]
          have hc := fun W => l4Digit_any ((m : Int) % 16) W (by omega) (by omega)
          have HC : Hid (∀ W, Calls Tryd.prog 40 #[.int .i64 ((m : Int) % 16)] W fun e w' => e = .returned (.int .u8 (hxI ((m : Int) % 16))) ∧ w' = W) := hc
          clear hc
          have HB : Hid ((strOfNums [hxI ((m : Int) % 16)]).data.toList = [hxB (m % 16)]) := hx_byte m
          go_wp2_with (go_at_call 40; refine (HC.out _).mono ?_; rintro e w2 ⟨rfl, rfl⟩)
          go_roundw
          case rel =>
            obtain ⟨hf, hdg⟩ := hd.out
            cases f with
            | zero => simp at hf; omega
            | succ f =>
              rw [Nat.pow_succ] at hf
              refine ⟨f, m / 16, strOfNums [hxI ((m : Int) % 16)] ++ out, by simp, rfl, by omega, by omega, ?_, hbw.alloc hbw.size _, by omega, ?_⟩
              · rw [ByteArray.size_append, hone]; omega
              · rw [hxF_pos f m (by omega), List.append_assoc] at hdg
                rw [← hdg, ByteArray.data_append, Array.toList_append, HB.out]
          case measure => simp [intOf]; omega
        · have hT : Hid (out = hexTI (k : Int)) := by
            obtain ⟨_, h⟩ := hd.out
            have e : m = 0 := by omega
            rw [e, hxF_zero, List.nil_append] at h
            exact HT.out out h
          go_wp2
          go_ret
          exact TextIs.of hT.out hbw
  · have HT : Hid (⟨#[]⟩ = hexTI n) := by
      show _ = _
      unfold hexTI hexT hexL
      by_cases hn : n < 0
      · rw [if_pos hn]
      · rw [if_neg hn, if_pos (by omega)]
    have e1 : decide (0 ≤ n ∧ n ≤ 1000000) = false := by simpa using hin
    clear hin
    go_enter Tryd.func18, Tryd.ntmps18
    go_wp2_with fail
    refine (l1In_any _ 0 1000000 _).mono ?_
    rintro e w1 ⟨rfl, rfl⟩
    rw [e1]
    clear e1
    go_wp2_with fail
    go_ret
    exact TextIs.of HT.out (Below.refl _ _)

set_option maxHeartbeats 400000 in
theorem l1Min_any (a b : Int) (w : World) :
    Calls Tryd.prog 27 #[.int .i64 a, .int .i64 b] w fun e w' => e = .returned (.int .i64 (min a b)) ∧ w' = w := by
  by_cases h : a < b
  · have HE : Hid (min a b = a) := by show _ = _; omega
    go_enter Tryd.func27, Tryd.ntmps27
    go_wp2
    go_ret
    exact ⟨by rw [HE.out]; rfl, rfl⟩
  · have HE : Hid (min a b = b) := by show _ = _; omega
    go_enter Tryd.func27, Tryd.ntmps27
    go_wp2
    go_ret
    exact ⟨by rw [HE.out]; rfl, rfl⟩
set_option maxHeartbeats 400000 in
theorem l1Max_any (a b : Int) (w : World) :
    Calls Tryd.prog 28 #[.int .i64 a, .int .i64 b] w fun e w' => e = .returned (.int .i64 (max a b)) ∧ w' = w := by
  by_cases h : b < a
  · have HE : Hid (max a b = a) := by show _ = _; omega
    go_enter Tryd.func28, Tryd.ntmps28
    go_wp2
    go_ret
    exact ⟨by rw [HE.out]; rfl, rfl⟩
  · have HE : Hid (max a b = b) := by show _ = _; omega
    go_enter Tryd.func28, Tryd.ntmps28
    go_wp2
    go_ret
    exact ⟨by rw [HE.out]; rfl, rfl⟩

/-- A list of ints that a function reads. -/
def IntsV (w : World) (oa : Option Addr) (n : Nat) (zs : List Int) : Prop := zs.length = n ∧ ∀ i, i < n → ∃ g, oa = some ⟨g, 0, none⟩ ∧ g < w.heap.size ∧ w.cell? ⟨g, i, none⟩ = some (.int .i64 (zs.getD i 0))
theorem IntsV.below {w w' : World} {oa : Option Addr} {n : Nat} {zs : List Int} (h : IntsV w oa n zs) (hb : Below w.heap.size w w') : IntsV w' oa n zs :=
  ⟨h.1, fun i hi => by
    obtain ⟨g, e, hg, hc⟩ := h.2 i hi
    exact ⟨g, e, Nat.lt_of_lt_of_le hg hb.size, by rw [hb.cell (p := ⟨g, i, none⟩) hg]; exact hc⟩⟩

set_option maxHeartbeats 2000000 in
set_option maxRecDepth 100000 in
theorem specChunkText_any (body : ByteArray) (oa : Option Addr) (n cap : Nat) (zs : List Int) (w : World) (hv : IntsV w oa n zs) (hn : n ≤ 1048576) (hb : body.size ≤ 1048576) :
    Calls Tryd.prog 11 #[.string body, .slice oa n cap] w fun e w' => TextIs (ctext body zs) w e w' := by
  have HLEN : Hid (zs.length = n) := hv.1
  have HV : Hid (∀ W, Below w.heap.size w W → IntsV W oa n zs) := fun W h => hv.below h
  clear hv
  go_enter Tryd.func11, Tryd.ntmps11
  go_wp2
  go_loopw [5, 6, 7] (fun a b c wr => ∃ (i t : Nat) (out : ByteArray), a = .string out ∧ b = .int .i64 (t : Int) ∧ c = .int .i64 (i : Int) ∧ i ≤ n + 1 ∧ t ≤ body.size ∧ out.size ≤ t + 9 * i ∧ Below w.heap.size w wr ∧ Hid (ctTo body zs i = (out, t))) (fun _ _ c _ => n + 1 - (intOf c).toNat)
  case atStart => exact ⟨0, 0, _, rfl, rfl, rfl, by omega, by omega, Nat.zero_le _, Below.refl _ _, rfl⟩
  case round =>
    obtain ⟨i, t, out, rfl, rfl, rfl, hi, ht, hos, hbw, hct⟩ := hrel
    by_cases hlt : (i : Int) ≤ (n : Int)
    · obtain ⟨m, hm⟩ : ∃ m, m = ctN zs i (body.size - t) := ⟨_, rfl⟩
      have hml : m ≤ body.size - t := by rw [hm]; exact ctN_le _ _ _
      have HM : Hid (m = ctN zs i (body.size - t)) := hm
      have HST : Hid (ctTo body zs (i + 1) = ctStep body (out, t) m) := by
        show _ = _
        rw [ctTo, hct.out, HM.out]
      have hfn := ctTo_facts body zs (i + 1)
      rw [HST.out] at hfn
      have hmt : (t : Int) + (m : Int) ≤ (body.size : Int) := by omega
      clear hm hct
      by_cases hsz : (i : Int) < (n : Int)
      · obtain ⟨g, rfl, hg, hc⟩ := (HV.out wr hbw).2 i (by omega)
        obtain ⟨z, hz⟩ : ∃ z, z = zs.getD i 0 := ⟨_, rfl⟩
        rw [← hz] at hc
        have HMZ : Hid (min ((body.size : Int) - (t : Int)) (max z 0) = (m : Int)) := by
          show _ = _
          rw [HM.out]
          unfold ctN
          rw [if_pos (by rw [HLEN.out]; omega), ← hz]
          omega
        clear hz
        go_wp2_with fail
        refine (l1Max_any z 0 _).mono ?_
        rintro e w1 ⟨rfl, rfl⟩
        go_wp2_with fail
        refine (l1Min_any _ _ _).mono ?_
        rintro e w2 ⟨rfl, rfl⟩
        rw [HMZ.out]
        have HBW : Hid (Below w.heap.size w w2) := hbw
        clear hbw hc hfn
        by_cases m0 : m = 0
        · subst m0
          have HS0 : Hid (ctTo body zs (i + 1) = (out, t)) := by show _ = _; rw [HST.out]; unfold ctStep; rw [if_pos rfl]
          go_wp2_with fail
          go_roundw
          case rel => exact ⟨i + 1, t, out, rfl, rfl, by go_num, by omega, ht, by omega, HBW.out, HS0⟩
          case measure => simp [intOf]; omega
        · have hmp : (0 : Int) < (m : Int) := by omega
          have HS1 : Hid (ctTo body zs (i + 1) = (out ++ hexT m ++ ⟨#[13, 10]⟩ ++ body.extract t (t + m) ++ ⟨#[13, 10]⟩, t + m)) := by show _ = _; rw [HST.out]; unfold ctStep; rw [if_neg m0]
          have HHT : Hid (hexTI (m : Int) = hexT m) := by show _ = _; unfold hexTI; rw [if_neg (by omega)]; rfl
          have h5 := hexT_size m
          have ht0 : (0 : Int) ≤ (t : Int) := by omega
          have htm : (t : Int) ≤ (t : Int) + (m : Int) := by omega
          have hwr : IntKind.i64.wrap ((t : Int) + (m : Int)) = (t : Int) + (m : Int) := IntWalk.i64_in _ (by omega)
          have htn : ((t : Int) + (m : Int)).toNat = t + m := by omega
          have QQ : Hid (∀ x : ByteArray, x.size ≤ 5 → ¬ 9223372036854775807 < out.size + x.size ∧ ¬ 9223372036854775807 < out.size + x.size + 2 ∧ ¬ 9223372036854775807 < out.size + x.size + 2 + m ∧ ¬ 9223372036854775807 < out.size + x.size + 2 + m + 2 ∧ ¬ 9223372036854775807 < out.size + x.size + 2 + (min (t + m) body.size - t) ∧ ¬ 9223372036854775807 < out.size + x.size + 2 + (min (t + m) body.size - t) + 2) := fun x h => ⟨by omega, by omega, by omega, by omega, by omega, by omega⟩
          have HBD : Hid (∀ W, Below w2.drew.heap.size w2.drew W → Below w.heap.size w W) := fun W h => HBW.out.drew.trans (h.mono HBW.out.size)
          have e2 : (⟨#[13, 10]⟩ : ByteArray).size = 2 := rfl
          have HOS : Hid ((out ++ hexT m ++ ⟨#[13, 10]⟩ ++ body.extract t (t + m) ++ ⟨#[13, 10]⟩).size ≤ t + m + 9 * (i + 1)) := by
            show _ ≤ _
            simp only [ByteArray.size_append, ByteArray.size_extract]
            omega
          go_wp2_with fail
          go_region_law (first | (go_simp; go_at_call 18; refine (specHex_any (m : Int) _).mono ?_; rintro e w5 ⟨rfl, b5⟩; rw [HHT.out]; have hb5 := HBD.out w5 b5; obtain ⟨r1, r2, r3, r4, r5, r6⟩ := QQ.out _ h5; clear b5))
          go_wp2_with fail
          go_roundw
          case rel => exact ⟨i + 1, t + m, out ++ hexT m ++ ⟨#[13, 10]⟩ ++ body.extract t (t + m) ++ ⟨#[13, 10]⟩, rfl, by go_num, by go_num, by omega, by omega, HOS.out, hb5, HS1⟩
          case measure => simp [intOf]; omega
      · have hsub : (body.size : Int) - (t : Int) = (m : Int) := by
          rw [HM.out]
          unfold ctN
          rw [if_neg (by rw [HLEN.out]; omega)]
          omega
        have HBW : Hid (Below w.heap.size w wr) := hbw
        clear hbw hfn
        by_cases m0 : m = 0
        · subst m0
          have HS0 : Hid (ctTo body zs (i + 1) = (out, t)) := by show _ = _; rw [HST.out]; unfold ctStep; rw [if_pos rfl]
          go_wp2_with fail
          go_roundw
          case rel => exact ⟨i + 1, t, out, rfl, rfl, by go_num, by omega, ht, by omega, HBW.out, HS0⟩
          case measure => simp [intOf]; omega
        · have hmp : (0 : Int) < (m : Int) := by omega
          have HS1 : Hid (ctTo body zs (i + 1) = (out ++ hexT m ++ ⟨#[13, 10]⟩ ++ body.extract t (t + m) ++ ⟨#[13, 10]⟩, t + m)) := by show _ = _; rw [HST.out]; unfold ctStep; rw [if_neg m0]
          have HHT : Hid (hexTI (m : Int) = hexT m) := by show _ = _; unfold hexTI; rw [if_neg (by omega)]; rfl
          have h5 := hexT_size m
          have ht0 : (0 : Int) ≤ (t : Int) := by omega
          have htm : (t : Int) ≤ (t : Int) + (m : Int) := by omega
          have hwr : IntKind.i64.wrap ((t : Int) + (m : Int)) = (t : Int) + (m : Int) := IntWalk.i64_in _ (by omega)
          have htn : ((t : Int) + (m : Int)).toNat = t + m := by omega
          have QQ : Hid (∀ x : ByteArray, x.size ≤ 5 → ¬ 9223372036854775807 < out.size + x.size ∧ ¬ 9223372036854775807 < out.size + x.size + 2 ∧ ¬ 9223372036854775807 < out.size + x.size + 2 + m ∧ ¬ 9223372036854775807 < out.size + x.size + 2 + m + 2 ∧ ¬ 9223372036854775807 < out.size + x.size + 2 + (min (t + m) body.size - t) ∧ ¬ 9223372036854775807 < out.size + x.size + 2 + (min (t + m) body.size - t) + 2) := fun x h => ⟨by omega, by omega, by omega, by omega, by omega, by omega⟩
          have HBD : Hid (∀ W, Below wr.drew.heap.size wr.drew W → Below w.heap.size w W) := fun W h => HBW.out.drew.trans (h.mono HBW.out.size)
          have e2 : (⟨#[13, 10]⟩ : ByteArray).size = 2 := rfl
          have HOS : Hid ((out ++ hexT m ++ ⟨#[13, 10]⟩ ++ body.extract t (t + m) ++ ⟨#[13, 10]⟩).size ≤ t + m + 9 * (i + 1)) := by
            show _ ≤ _
            simp only [ByteArray.size_append, ByteArray.size_extract]
            omega
          go_wp2_with fail
          go_region_law (first | (go_simp; go_at_call 18; refine (specHex_any (m : Int) _).mono ?_; rintro e w5 ⟨rfl, b5⟩; rw [HHT.out]; have hb5 := HBD.out w5 b5; obtain ⟨r1, r2, r3, r4, r5, r6⟩ := QQ.out _ h5; clear b5))
          go_wp2_with fail
          go_roundw
          case rel => exact ⟨i + 1, t + m, out ++ hexT m ++ ⟨#[13, 10]⟩ ++ body.extract t (t + m) ++ ⟨#[13, 10]⟩, rfl, by go_num, by go_num, by omega, by omega, HOS.out, hb5, HS1⟩
          case measure => simp [intOf]; omega
    · obtain rfl : i = n + 1 := by omega
      have HE : Hid (out ++ ⟨#[48, 13, 10, 13, 10]⟩ = ctext body zs) := by
        show _ = _
        unfold ctext
        rw [HLEN.out, hct.out]
      have e5 : (⟨#[48, 13, 10, 13, 10]⟩ : ByteArray).size = 5 := rfl
      have q : ¬ 9223372036854775807 < out.size + 5 := by omega
      clear hct
      go_wp2_with fail
      go_ret
      exact TextIs.of HE.out hbw

end Go.Proofs.YtkpnacopljceaaaDoor
