/- 'chunkOf', 'ChunkText' of the program: contracts over the translation. -/
import Derived.Test.YtkpnacopljceaaaDoorChunkHexI
import Derived.Test.YtkpnacopljceaaaDoorFieldText
namespace Go.Proofs.YtkpnacopljceaaaDoor
open Go.RowKit
open Go.Lib hiding intOf

/-- A part as it is told: its length, a line's end, its bytes, a line's end. -/
def chunkT (p : ByteArray) : ByteArray := hexT p.size ++ ⟨#[13, 10]⟩ ++ p ++ ⟨#[13, 10]⟩
theorem chunkT_size (p : ByteArray) : (chunkT p).size ≤ p.size + 9 := by
  have := hexT_size p.size
  have e2 : (⟨#[13, 10]⟩ : ByteArray).size = 2 := rfl
  unfold chunkT
  simp only [ByteArray.size_append]
  omega
theorem DbOk.later {w w' : World} (h : DbOk w) (hb : Below w.heap.size w w') : DbOk w' := h.below hb h.lt
theorem Holding.later {B : Nat} {t : ByteArray} {w w' : World} (h : Holding B t w) (hb : Below w.heap.size w w') : Holding B t w' := by
  have key : ∀ p, BuilderAt 45 5 B B p (strCells t) w → BuilderAt 45 5 B B p (strCells t) w' := by
    rintro p ⟨h1, v, h2, h3, h4⟩
    have hlt : B < w.heap.size := (Array.getElem?_eq_some_iff.1 h2).1
    refine ⟨h1, v, by rw [hb.block _ hlt]; exact h2, owns_below h3 hb (fun g hg => ?_), h4⟩
    rcases h3.2 with ⟨rfl, _⟩ | ⟨g', cap, cur, rfl, _, h5, _⟩
    · simp [Value.ownBlock] at hg
    · simp [Value.ownBlock] at hg
      subst hg
      exact (Array.getElem?_eq_some_iff.1 h5).1
  rcases h with h | h
  · exact .inl (key _ h)
  · exact .inr (key _ h)

set_option maxHeartbeats 1000000 in
theorem chunkOf_any (p : ByteArray) (w : World) (hp : p.size ≤ 2000000) (hd : DbOk w) :
    Calls Tryd.prog 25 #[.string p] w fun e w' => TextIs (chunkT p) w e w' := by
  have HC : Hid (Calls Tryd.prog 17 #[.int .i64 (p.size : Int)] w fun e w' => TextIs (hexTI (p.size : Int)) w e w') := implHex_any _ w hd
  have HE : Hid (hexTI (p.size : Int) = hexT p.size) := by show _ = _; unfold hexTI; rw [if_neg (by omega)]; rfl
  rw [HE.out] at HC
  have hz := hexT_size p.size
  obtain ⟨x, hx⟩ : ∃ x, x = hexT p.size := ⟨_, rfl⟩
  rw [← hx] at HC hz
  have HX : Hid (x = hexT p.size) := hx
  have e2 : (⟨#[13, 10]⟩ : ByteArray).size = 2 := rfl
  have q1 : ¬ 9223372036854775807 < x.size + 2 := by omega
  have q2 : ¬ 9223372036854775807 < x.size + 2 + p.size := by omega
  have q3 : ¬ 9223372036854775807 < x.size + 2 + p.size + 2 := by omega
  clear hx HE
  go_enter Tryd.func25, Tryd.ntmps25
  go_wp2_with (go_at_call 17; refine HC.out.mono ?_; rintro e w1 ⟨rfl, hb1⟩)
  go_ret
  exact TextIs.of (by unfold chunkT; rw [← HX.out]) hb1

theorem left_bs (body : ByteArray) (t : Nat) : bs (body.extract t body.size) = (bs body).drop t := by
  rw [bs_extract, List.take_of_length_le (by rw [bs_len]; exact Nat.le_refl _)]
theorem left_take (body l : ByteArray) (t m : Nat) (hl : l = body.extract t body.size) : l.extract 0 m = body.extract t (t + m) := by
  apply bs_inj
  rw [bs_extract, bs_extract, hl, left_bs, List.drop_zero, List.drop_take, show t + m - t = m by omega]
theorem left_drop (body l : ByteArray) (t m : Nat) (hl : l = body.extract t body.size) : l.extract m l.size = body.extract (t + m) body.size := by
  apply bs_inj
  rw [left_bs, left_bs, hl, left_bs, List.drop_drop]
theorem chunkOf_step (body out l : ByteArray) (t m : Nat) (hl : l = body.extract t body.size) (hm : t + m ≤ body.size) (h0 : m ≠ 0) : ctStep body (out, t) m = (out ++ chunkT (l.extract 0 m), t + m) := by
  unfold ctStep chunkT
  rw [if_neg h0, left_take body l t m hl]
  have : (body.extract t (t + m)).size = m := by rw [ByteArray.size_extract]; omega
  rw [this]
  simp only [ByteArray.append_assoc]

set_option maxHeartbeats 2000000 in
set_option maxRecDepth 100000 in
theorem implChunkText_any (body : ByteArray) (oa : Option Addr) (n cap : Nat) (zs : List Int) (w : World) (hv : IntsV w oa n zs) (hn : n ≤ 1048576) (hb : body.size ≤ 1048576) (hd : DbOk w) :
    Calls Tryd.prog 10 #[.string body, .slice oa n cap] w fun e w' => TextIs (ctext body zs) w e w' := by
  have HLEN : Hid (zs.length = n) := hv.1
  have HV : Hid (∀ W, Below w.heap.size w W → IntsV W oa n zs) := fun W h => hv.below h
  have HD : Hid (∀ W, Below w.heap.size w W → DbOk W) := fun W h => hd.later h
  have H0 : Hid (Holding w.heap.size ⟨#[]⟩ (w.alloc (.cells #[.pointer none, .slice none 0 0] 45))) := fresh_isBuilder 45 5 w
  clear hv hd
  go_enter Tryd.func10, Tryd.ntmps10
  go_wp2
  go_loopw [6, 13] (fun a b wr => ∃ (i t : Nat) (out l : ByteArray), a = .string l ∧ b = .int .i64 (i : Int) ∧ i ≤ n ∧ t ≤ body.size ∧ l.size = body.size - t ∧ out.size ≤ t + 9 * i ∧ Hid (l = body.extract t body.size) ∧ Hid (Holding w.heap.size out wr) ∧ Below w.heap.size w wr ∧ Hid (ctTo body zs i = (out, t))) (fun _ b _ => n - (intOf b).toNat)
  case atStart => exact ⟨0, 0, ⟨#[]⟩, body, rfl, rfl, by omega, by omega, by omega, Nat.zero_le _, by show _ = _; simp, H0, (Below.refl _ _).alloc (Nat.le_refl _) _, rfl⟩
  case round =>
    obtain ⟨i, t, out, l, rfl, rfl, hi, ht, hls, hos, HL, HI, hbw, hct⟩ := hrel
    by_cases hlt : (i : Int) < (n : Int)
    · obtain ⟨g, rfl, hg, hc⟩ := (HV.out wr hbw).2 i (by omega)
      obtain ⟨z, hz⟩ : ∃ z, z = zs.getD i 0 := ⟨_, rfl⟩
      rw [← hz] at hc
      obtain ⟨m, hm⟩ : ∃ m, m = ctN zs i (body.size - t) := ⟨_, rfl⟩
      have hml : m ≤ body.size - t := by rw [hm]; exact ctN_le _ _ _
      have hmz : m = min (body.size - t) z.toNat := by
        rw [hm]
        unfold ctN
        rw [if_pos (by rw [HLEN.out]; omega), ← hz]
      have HST : Hid (ctTo body zs (i + 1) = ctStep body (out, t) m) := by
        show _ = _
        rw [ctTo, hct.out, hm]
      clear hz hm hct
      have HLS : Hid (l.size = body.size - t) := hls
      have hlb : l.size ≤ 1048576 := by omega
      have hml2 : (m : Int) ≤ (l.size : Int) := by omega
      by_cases m0 : m = 0
      · have HS0 : Hid (ctTo body zs (i + 1) = (out, t)) := by show _ = _; rw [HST.out]; unfold ctStep; rw [if_pos m0]
        have hmin : min z (l.size : Int) < 1 := by omega
        clear HST hmz m0 hml hml2 hls
        go_wp2_with fail
        go_roundw
        case rel => exact ⟨i + 1, t, out, l, rfl, by go_num, by omega, ht, HLS.out, by omega, HL, HI, hbw, HS0⟩
        case measure => simp [intOf]; omega
      · have hmin : min z (l.size : Int) = (m : Int) := by omega
        have hm1 : ¬ (m : Int) < 1 := by omega
        have HS1 : Hid (ctTo body zs (i + 1) = (out ++ chunkT (l.extract 0 m), t + m)) := by show _ = _; rw [HST.out]; exact chunkOf_step body out l t m HL.out (by omega) m0
        have hcs := chunkT_size (l.extract 0 m)
        have hxs : (l.extract 0 m).size = m := by rw [ByteArray.size_extract]; omega
        rw [hxs] at hcs
        have HXS : Hid ((l.extract 0 m).size = m) := hxs
        have HLM : Hid ((l.extract m l.size) = body.extract (t + m) body.size) := left_drop body l t m HL.out
        have hdb := HD.out wr hbw
        have HBW : Hid (Below w.heap.size w wr) := hbw
        clear HST hmz hls hxs hbw
        go_wp2_with fail
        refine (chunkOf_any _ _ (by rw [HXS.out]; omega) hdb).mono ?_
        rintro e w1 ⟨rfl, b1⟩
        have HI1 : Hid (Holding w.heap.size out w1) := HI.out.later b1
        have HBW1 : Hid (Below w.heap.size w w1) := HBW.out.trans (b1.mono HBW.out.size)
        obtain ⟨y, hy⟩ : ∃ y, y = chunkT (l.extract 0 m) := ⟨_, rfl⟩
        rw [← hy] at HS1 hcs
        rw [← hy]
        have q1 : out.size + y.size ≤ 140737488355328 := by omega
        clear b1 hdb HI hy hc
        go_wp2_with fail
        refine (write_any w.heap.size out y _ HI1.out q1 HBW1.out.size).mono ?_
        rintro e w2 ⟨rfl, hI2, hb2⟩
        have HBW2 : Hid (Below w.heap.size w w2) := HBW1.out.trans hb2
        have HI2 : Hid (Holding w.heap.size (out ++ y) w2) := hI2
        clear hb2 hI2 HI1 HBW1
        go_wp2_with fail
        go_roundw
        case rel =>
          refine ⟨i + 1, t + m, out ++ y, l.extract m l.size, rfl, by go_num, by omega, by omega, ?_, ?_, HLM, HI2, HBW2.out, HS1⟩
          · have := HLS.out
            rw [ByteArray.size_extract]; omega
          · rw [ByteArray.size_append]; omega
        case measure => simp [intOf]; omega
    · obtain rfl : i = n := by omega
      have hlb : l.size ≤ 1048576 := by omega
      have hdb := HD.out wr hbw
      have hm : ctN zs i (body.size - t) = body.size - t := by unfold ctN; rw [if_neg (by rw [HLEN.out]; omega)]
      have HLS : Hid (l.size = body.size - t) := hls
      have HBW : Hid (Below w.heap.size w wr) := hbw
      have HEND : Hid (chunkT ⟨#[]⟩ = ⟨#[48, 13, 10, 13, 10]⟩) := by show _ = _; decide
      have e5 : (⟨#[48, 13, 10, 13, 10]⟩ : ByteArray).size = 5 := rfl
      by_cases h0 : l.size = 0
      · have hl0 : l = ⟨#[]⟩ := by
          apply ByteArray.ext
          apply Array.eq_empty_of_size_eq_zero
          exact h0
        have HE : Hid (out ++ ⟨#[48, 13, 10, 13, 10]⟩ = ctext body zs) := by
          show _ = _
          unfold ctext
          rw [HLEN.out, ctTo, hct.out, hm]
          unfold ctStep
          rw [if_pos (by omega)]
        clear hct hm hls hbw h0 HL HLS
        subst hl0
        go_wp2_with fail
        refine (chunkOf_any _ _ (by decide) hdb).mono ?_
        rintro e w1 ⟨rfl, b1⟩
        rw [HEND.out]
        have HI1 : Hid (Holding w.heap.size out w1) := HI.out.later b1
        have HBW1 : Hid (Below w.heap.size w w1) := HBW.out.trans (b1.mono HBW.out.size)
        have q1 : out.size + (⟨#[48, 13, 10, 13, 10]⟩ : ByteArray).size ≤ 140737488355328 := by omega
        clear b1 hdb HI
        go_wp2_with fail
        refine (write_any w.heap.size out ⟨#[48, 13, 10, 13, 10]⟩ _ HI1.out q1 HBW1.out.size).mono ?_
        rintro e w2 ⟨rfl, hI2, hb2⟩
        have HBW2 : Hid (Below w.heap.size w w2) := HBW1.out.trans hb2
        have HI2 : Hid (Holding w.heap.size (ctext body zs) w2) := by show Holding _ _ _; rw [← HE.out]; exact hI2
        clear hb2 hI2 HI1 HBW1 HE
        go_wp2_with fail
        refine (text_out w.heap.size _ _ HI2.out HBW2.out.size).mono ?_
        rintro e w3 ⟨rfl, hb3⟩
        have HBW3 : Hid (Below w.heap.size w w3) := HBW2.out.trans hb3
        clear hb3
        go_wp2_with fail
        go_ret
        exact TextIs.of rfl HBW3.out
      · have hls2 : t + l.size = body.size := by omega
        have HS1 : Hid (ctTo body zs (i + 1) = (out ++ chunkT l, t + l.size)) := by
          show _ = _
          rw [ctTo, hct.out, hm, ← hls, chunkOf_step body out l t l.size HL.out (by omega) h0]
          simp
        have HE : Hid (out ++ chunkT l ++ ⟨#[48, 13, 10, 13, 10]⟩ = ctext body zs) := by
          show _ = _
          unfold ctext
          rw [HLEN.out, HS1.out]
        have hcs := chunkT_size l
        have hne : l.toList.isEmpty = false := by
          rw [List.isEmpty_eq_false_iff]
          intro e
          apply h0
          have := congrArg List.length e
          rw [ByteArray.toList_eq] at this
          exact this
        clear hct hm hls hbw HL HS1 hls2
        go_wp2_with fail
        refine (chunkOf_any l _ (by omega) hdb).mono ?_
        rintro e w1 ⟨rfl, b1⟩
        have HI1 : Hid (Holding w.heap.size out w1) := HI.out.later b1
        have HBW1 : Hid (Below w.heap.size w w1) := HBW.out.trans (b1.mono HBW.out.size)
        obtain ⟨y, hy⟩ : ∃ y, y = chunkT l := ⟨_, rfl⟩
        rw [← hy] at HE hcs
        rw [← hy]
        have q1 : out.size + y.size ≤ 140737488355328 := by omega
        clear b1 hdb HI hy
        go_wp2_with fail
        refine (write_any w.heap.size out y _ HI1.out q1 HBW1.out.size).mono ?_
        rintro e w2 ⟨rfl, hI2, hb2⟩
        have HBW2 : Hid (Below w.heap.size w w2) := HBW1.out.trans hb2
        have HI2 : Hid (Holding w.heap.size (out ++ y) w2) := hI2
        have hdb2 := HD.out w2 HBW2.out
        clear hb2 hI2 HI1 HBW1
        go_wp2_with fail
        refine (chunkOf_any _ _ (by decide) hdb2).mono ?_
        rintro e w3 ⟨rfl, b3⟩
        rw [HEND.out]
        have HI3 : Hid (Holding w.heap.size (out ++ y) w3) := HI2.out.later b3
        have HBW3 : Hid (Below w.heap.size w w3) := HBW2.out.trans (b3.mono HBW2.out.size)
        have q2 : (out ++ y).size + (⟨#[48, 13, 10, 13, 10]⟩ : ByteArray).size ≤ 140737488355328 := by rw [ByteArray.size_append]; omega
        clear b3 hdb2 HI2
        go_wp2_with fail
        refine (write_any w.heap.size (out ++ y) ⟨#[48, 13, 10, 13, 10]⟩ _ HI3.out q2 HBW3.out.size).mono ?_
        rintro e w4 ⟨rfl, hI4, hb4⟩
        have HBW4 : Hid (Below w.heap.size w w4) := HBW3.out.trans hb4
        have HI4 : Hid (Holding w.heap.size (ctext body zs) w4) := by show Holding _ _ _; rw [← HE.out]; exact hI4
        clear hb4 hI4 HI3 HBW3 HE
        go_wp2_with fail
        refine (text_out w.heap.size _ _ HI4.out HBW4.out.size).mono ?_
        rintro e w5 ⟨rfl, hb5⟩
        have HBW5 : Hid (Below w.heap.size w w5) := HBW4.out.trans hb5
        clear hb5
        go_wp2_with fail
        go_ret
        exact TextIs.of rfl HBW5.out

end Go.Proofs.YtkpnacopljceaaaDoor
