/- 'l4Length', 'ChunkRead' of the specification: contracts over the translation. -/
import Derived.Test.YtkpnacopljceaaaDoorChunkSpec
namespace Go.Proofs.YtkpnacopljceaaaDoor
open Go.RowKit
open Go.Lib hiding intOf

theorem lenC_bad {r : List UInt8} (h : lenBad r) : lenC r = 2 := by unfold lenC; rw [if_pos h]
theorem lenC_none {r : List UInt8} (h : ¬ lenBad r) (h0 : lenK r = 0) : lenC r = 1 := by unfold lenC; rw [if_neg h, if_pos h0]
theorem lenC_line {r : List UInt8} (h : ¬ lenBad r) (h0 : lenK r ≠ 0) : lenC r = lineC (r.drop (lenK r)) := by unfold lenC; rw [if_neg h, if_neg h0]
theorem head_at (s : ByteArray) (p : Nat) (h : p < s.size) : ((bs s).drop p).head? = some (s[p]'h) := by rw [bs_drop s p h]; rfl
theorem drop_ne (s : ByteArray) (p : Nat) : (bs s).drop p ≠ [] ↔ p < s.size := by
  constructor
  · intro h
    refine Nat.lt_of_not_le (fun e => h (drop_end s p e))
  · intro h
    rw [bs_drop s p h]; simp

set_option maxHeartbeats 1000000 in
set_option maxRecDepth 100000 in
theorem l4Length_any (s : ByteArray) (p : Nat) (w : World) (hs : s.size ≤ 2000000) (hp : p ≤ s.size) :
    Calls Tryd.prog 35 #[.string s, .int .i64 (p : Int)] w fun e w' => LenIs ((bs s).drop p) p w e w' := by
  go_enter Tryd.func35, Tryd.ntmps35
  go_wp2
  go_loop [7, 8] (fun a b => ∃ k n : Nat, a = .int .i64 (n : Int) ∧ b = .int .i64 (k : Int) ∧ k ≤ 5 ∧ p + k ≤ s.size ∧ n ≤ 1048576 ∧ Hid (DigsTo s p k n)) (fun _ b => 5 - (intOf b).toNat)
  case atStart => exact ⟨0, 0, rfl, rfl, by omega, by omega, by omega, digs_zero s p hp⟩
  case round =>
    obtain ⟨k, n, rfl, rfl, hk5, hpk, hn, hd⟩ := hrel
    have hlt16 : n < 16 ^ k := digs_lt hd.out
    by_cases hgo : k < 5 ∧ ∃ hl : p + k < s.size, HexB (s[p + k]'hl)
    · obtain ⟨hk, hl, hx⟩ := hgo
      have hli : (p : Int) + (k : Int) < (s.size : Int) := by omega
      have hki : (k : Int) < 5 := by omega
      have hn4 : n < 65536 := by
        have : 16 ^ k ≤ 16 ^ 4 := Nat.pow_le_pow_right (by omega) (by omega)
        omega
      have hv := hexV_lt hx
      have HV : Hid (hexI ((s[p + k]'hl).toNat : Int) = (hexV (s[p + k]'hl) : Int)) := hexI_yes hx
      have hdn := digs_succ hd.out hk hl hx
      have h255 : ((s[p + k]'hl).toNat : Int) ≤ 255 := by have := (s[p + k]'hl).toNat_lt; omega
      have HC : Hid (∀ W, Calls Tryd.prog 46 #[.int .u8 ((s[p + k]'hl).toNat : Int)] W fun e w' => e = .returned (.int .i64 (hexV (s[p + k]'hl) : Int)) ∧ w' = W) := fun W => by
        have := l4Value_any ((s[p + k]'hl).toNat : Int) W (by omega) h255
        rw [HV.out] at this
        exact this
      have HDN : Hid (DigsTo s p (k + 1) (16 * n + hexV (s[p + k]'hl))) := hdn
      generalize hexV (s[p + k]'hl) = v at hv HC HDN
      clear hd hdn hlt16
      go_wp2_with (go_at_call 46; refine (HC.out _).mono ?_; rintro e w1 ⟨rfl, rfl⟩)
      go_round
      case rel => exact ⟨k + 1, 16 * n + v, by go_num, by go_num, by omega, by omega, by omega, HDN⟩
      case measure => simp [intOf]; omega
    · have hend : k = 5 ∨ p + k = s.size ∨ ∃ hl : p + k < s.size, ¬ HexB (s[p + k]'hl) := by
        by_cases h5 : k = 5
        · exact .inl h5
        · by_cases hl : p + k < s.size
          · exact .inr (.inr ⟨hl, fun hx => hgo ⟨by omega, hl, hx⟩⟩)
          · exact .inr (.inl (by omega))
      obtain ⟨hK, hN⟩ := digs_end hd.out hend
      have HK : Hid (lenK ((bs s).drop p) = k) := hK
      have HN : Hid (lenN ((bs s).drop p) = n) := hN
      -- what the loop's test tells here
      have HT : Hid ((¬ (p : Int) + (k : Int) < (s.size : Int)) ∨ (∃ hl : p + k < s.size, (¬ HexB (s[p + k]'hl)) ∨ (HexB (s[p + k]'hl) ∧ k = 5))) := by
        by_cases hl : p + k < s.size
        · right
          refine ⟨hl, ?_⟩
          by_cases hx : HexB (s[p + k]'hl)
          · exact .inr ⟨hx, by
              by_cases h5 : k = 5
              · exact h5
              · exact absurd ⟨by omega, hl, hx⟩ hgo⟩
          · exact .inl hx
        · left; omega
      clear hK hN hend hgo hd
      rcases HT.out with hE | ⟨hl, hx | ⟨hx, h5⟩⟩
      · have hE2 : decide ((p : Int) + (k : Int) < (s.size : Int)) = false := by simpa using hE
        by_cases k5 : k = 5
        · subst k5
          have HB : Hid (lenC ((bs s).drop p) = 2) := lenC_bad (.inl (by rw [HK.out]; omega))
          go_wp2_with fail
          go_ret3
          exact ⟨0, 0, 2, rfl, HB.out.symm, fun h => absurd h (by decide), rfl⟩
        · by_cases k1 : 1 < k
          · have k1i : (1 : Int) < (k : Int) := by omega
            have k4i : ¬ (4 : Int) < (k : Int) := by omega
            have hpl : p < s.size := by omega
            have hpi : (p : Int) < (s.size : Int) := by omega
            have k0 : ((k : Int) == 0) = false := by rw [beq_eq_false_iff_ne]; omega
            by_cases c48 : ((s[p]'hpl).toNat : Int) = 48
            · have t48 : (((s[p]'hpl).toNat : Int) == 48) = true := by rw [beq_iff_eq]; exact c48
              have b48 : s[p]'hpl = 48 := (u8_eq _ 48 (by omega)).2 (by omega)
              have HH : Hid (((bs s).drop p).head? = some 48) := by show _ = _; rw [head_at s p hpl, b48]
              clear c48 b48
              have HB : Hid (lenC ((bs s).drop p) = 2) := lenC_bad (.inr (.inl ⟨by rw [HK.out]; omega, HH.out⟩))
              go_wp2_with fail
              go_ret3
              exact ⟨0, 0, 2, rfl, HB.out.symm, fun h => absurd h (by decide), rfl⟩
            · have t48 : (((s[p]'hpl).toNat : Int) == 48) = false := by rw [beq_eq_false_iff_ne]; exact c48
              have H48 : Hid (s[p]'hpl ≠ 48) := fun e => c48 (by rw [e]; rfl)
              clear c48
              have hnb : ¬ lenBad ((bs s).drop p) := by
                rintro (h | ⟨h, e⟩ | ⟨h, e⟩)
                · rw [HK.out] at h; omega
                · rw [head_at s p hpl] at e
                  exact H48.out (Option.some.inj e)
                · rw [HK.out] at h; omega
              have HL : Hid (lenC ((bs s).drop p) = lineC ((bs s).drop (p + k))) := by
                show _ = _
                rw [lenC_line hnb (by rw [HK.out]; omega), HK.out, List.drop_drop]
              have HC2 : Hid (∀ W, Calls Tryd.prog 36 #[.string s, .int .i64 ((p : Int) + (k : Int))] W fun e w' => e = .returned (.int .i64 (lineC ((bs s).drop (p + k)))) ∧ w' = W) := fun W => by
                have := l4Line_any s (p + k) W hs hpk
                rw [show ((p + k : Nat) : Int) = (p : Int) + (k : Int) by omega] at this
                exact this
              clear hnb
              generalize lineC ((bs s).drop (p + k)) = lc at HL HC2
              go_wp2_with (first | (go_at_call 36; refine (HC2.out _).mono ?_; rintro e w2 ⟨rfl, rfl⟩))
              go_ret3
              exact ⟨_, _, lc, rfl, HL.out.symm, fun _ => ⟨by rw [HN.out], by have := HK.out; omega⟩, rfl⟩
          · by_cases k0 : k = 0
            · subst k0
              have hpi : ¬ (p : Int) < (s.size : Int) := by omega
              have HM : Hid (lenC ((bs s).drop p) = 1) := lenC_none (by
                rintro (h | ⟨h, e⟩ | ⟨h, e⟩)
                · rw [HK.out] at h; omega
                · rw [HK.out] at h; omega
                · have := (drop_ne s p).1 e
                  omega) HK.out
              go_wp2_with fail
              go_ret3
              exact ⟨0, 0, 1, rfl, HM.out.symm, fun h => absurd h (by decide), rfl⟩
            · obtain rfl : k = 1 := by omega
              have hnb : ¬ lenBad ((bs s).drop p) := by
                rintro (h | ⟨h, e⟩ | ⟨h, e⟩)
                · rw [HK.out] at h; omega
                · rw [HK.out] at h; omega
                · rw [HK.out] at h; omega
              have HL : Hid (lenC ((bs s).drop p) = lineC ((bs s).drop (p + 1))) := by
                show _ = _
                rw [lenC_line hnb (by rw [HK.out]; omega), HK.out, List.drop_drop]
              have HC2 : Hid (∀ W, Calls Tryd.prog 36 #[.string s, .int .i64 ((p : Int) + 1)] W fun e w' => e = .returned (.int .i64 (lineC ((bs s).drop (p + 1)))) ∧ w' = W) := fun W => by
                have := l4Line_any s (p + 1) W hs hpk
                rw [show ((p + 1 : Nat) : Int) = (p : Int) + 1 by omega] at this
                exact this
              clear hnb
              generalize lineC ((bs s).drop (p + 1)) = lc at HL HC2
              go_wp2_with (first | (go_at_call 36; refine (HC2.out _).mono ?_; rintro e w2 ⟨rfl, rfl⟩))
              go_ret3
              exact ⟨_, _, lc, rfl, HL.out.symm, fun _ => ⟨by rw [HN.out], by have := HK.out; omega⟩, rfl⟩
      · have hli : (p : Int) + (k : Int) < (s.size : Int) := by omega
        have h255 : ((s[p + k]'hl).toNat : Int) ≤ 255 := by have := (s[p + k]'hl).toNat_lt; omega
        have HCV : Hid (∀ W, Calls Tryd.prog 46 #[.int .u8 ((s[p + k]'hl).toNat : Int)] W fun e w' => e = .returned (.int .i64 (-1)) ∧ w' = W) := fun W => by
          have := l4Value_any ((s[p + k]'hl).toNat : Int) W (by omega) h255
          rw [hexI_no hx] at this
          exact this
        clear hx
        by_cases k5 : k = 5
        · subst k5
          have HB : Hid (lenC ((bs s).drop p) = 2) := lenC_bad (.inl (by rw [HK.out]; omega))
          go_wp2_with (first | (go_at_call 46; refine (HCV.out _).mono ?_; rintro e w1 ⟨rfl, rfl⟩))
          go_ret3
          exact ⟨0, 0, 2, rfl, HB.out.symm, fun h => absurd h (by decide), rfl⟩
        · by_cases k1 : 1 < k
          · have k1i : (1 : Int) < (k : Int) := by omega
            have k4i : ¬ (4 : Int) < (k : Int) := by omega
            have hpl : p < s.size := by omega
            have hpi : (p : Int) < (s.size : Int) := by omega
            have k0 : ((k : Int) == 0) = false := by rw [beq_eq_false_iff_ne]; omega
            by_cases c48 : ((s[p]'hpl).toNat : Int) = 48
            · have t48 : (((s[p]'hpl).toNat : Int) == 48) = true := by rw [beq_iff_eq]; exact c48
              have b48 : s[p]'hpl = 48 := (u8_eq _ 48 (by omega)).2 (by omega)
              have HH : Hid (((bs s).drop p).head? = some 48) := by show _ = _; rw [head_at s p hpl, b48]
              clear c48 b48
              have HB : Hid (lenC ((bs s).drop p) = 2) := lenC_bad (.inr (.inl ⟨by rw [HK.out]; omega, HH.out⟩))
              go_wp2_with (first | (go_at_call 46; refine (HCV.out _).mono ?_; rintro e w1 ⟨rfl, rfl⟩))
              go_ret3
              exact ⟨0, 0, 2, rfl, HB.out.symm, fun h => absurd h (by decide), rfl⟩
            · have t48 : (((s[p]'hpl).toNat : Int) == 48) = false := by rw [beq_eq_false_iff_ne]; exact c48
              have H48 : Hid (s[p]'hpl ≠ 48) := fun e => c48 (by rw [e]; rfl)
              clear c48
              have hnb : ¬ lenBad ((bs s).drop p) := by
                rintro (h | ⟨h, e⟩ | ⟨h, e⟩)
                · rw [HK.out] at h; omega
                · rw [head_at s p hpl] at e
                  exact H48.out (Option.some.inj e)
                · rw [HK.out] at h; omega
              have HL : Hid (lenC ((bs s).drop p) = lineC ((bs s).drop (p + k))) := by
                show _ = _
                rw [lenC_line hnb (by rw [HK.out]; omega), HK.out, List.drop_drop]
              have HC2 : Hid (∀ W, Calls Tryd.prog 36 #[.string s, .int .i64 ((p : Int) + (k : Int))] W fun e w' => e = .returned (.int .i64 (lineC ((bs s).drop (p + k)))) ∧ w' = W) := fun W => by
                have := l4Line_any s (p + k) W hs hpk
                rw [show ((p + k : Nat) : Int) = (p : Int) + (k : Int) by omega] at this
                exact this
              clear hnb
              generalize lineC ((bs s).drop (p + k)) = lc at HL HC2
              go_wp2_with (first | (go_at_call 36; refine (HC2.out _).mono ?_; rintro e w2 ⟨rfl, rfl⟩) | (go_at_call 46; refine (HCV.out _).mono ?_; rintro e w1 ⟨rfl, rfl⟩))
              go_ret3
              exact ⟨_, _, lc, rfl, HL.out.symm, fun _ => ⟨by rw [HN.out], by have := HK.out; omega⟩, rfl⟩
          · by_cases k0 : k = 0
            · subst k0
              have hpi : (p : Int) < (s.size : Int) := by omega
              have HNE : Hid (((bs s).drop p) ≠ []) := (drop_ne s p).2 (by omega)
              have HB : Hid (lenC ((bs s).drop p) = 2) := lenC_bad (.inr (.inr ⟨HK.out, HNE.out⟩))
              go_wp2_with (first | (go_at_call 46; refine (HCV.out _).mono ?_; rintro e w1 ⟨rfl, rfl⟩))
              go_ret3
              exact ⟨0, 0, 2, rfl, HB.out.symm, fun h => absurd h (by decide), rfl⟩
            · obtain rfl : k = 1 := by omega
              have hnb : ¬ lenBad ((bs s).drop p) := by
                rintro (h | ⟨h, e⟩ | ⟨h, e⟩)
                · rw [HK.out] at h; omega
                · rw [HK.out] at h; omega
                · rw [HK.out] at h; omega
              have HL : Hid (lenC ((bs s).drop p) = lineC ((bs s).drop (p + 1))) := by
                show _ = _
                rw [lenC_line hnb (by rw [HK.out]; omega), HK.out, List.drop_drop]
              have HC2 : Hid (∀ W, Calls Tryd.prog 36 #[.string s, .int .i64 ((p : Int) + 1)] W fun e w' => e = .returned (.int .i64 (lineC ((bs s).drop (p + 1)))) ∧ w' = W) := fun W => by
                have := l4Line_any s (p + 1) W hs hpk
                rw [show ((p + 1 : Nat) : Int) = (p : Int) + 1 by omega] at this
                exact this
              clear hnb
              generalize lineC ((bs s).drop (p + 1)) = lc at HL HC2
              go_wp2_with (first | (go_at_call 36; refine (HC2.out _).mono ?_; rintro e w2 ⟨rfl, rfl⟩) | (go_at_call 46; refine (HCV.out _).mono ?_; rintro e w1 ⟨rfl, rfl⟩))
              go_ret3
              exact ⟨_, _, lc, rfl, HL.out.symm, fun _ => ⟨by rw [HN.out], by have := HK.out; omega⟩, rfl⟩
      · have hli : (p : Int) + (k : Int) < (s.size : Int) := by omega
        have h255 : ((s[p + k]'hl).toNat : Int) ≤ 255 := by have := (s[p + k]'hl).toNat_lt; omega
        have HCV : Hid (∀ W, Calls Tryd.prog 46 #[.int .u8 ((s[p + k]'hl).toNat : Int)] W fun e w' => e = .returned (.int .i64 (hexV (s[p + k]'hl) : Int)) ∧ w' = W) := fun W => by
          have := l4Value_any ((s[p + k]'hl).toNat : Int) W (by omega) h255
          rw [hexI_yes hx] at this
          exact this
        have hv0 : (0 : Int) ≤ (hexV (s[p + k]'hl) : Int) := by omega
        clear hx
        generalize hexV (s[p + k]'hl) = v at HCV hv0
        subst h5
        have HB : Hid (lenC ((bs s).drop p) = 2) := lenC_bad (.inl (by rw [HK.out]; omega))
        go_wp2_with (first | (go_at_call 46; refine (HCV.out _).mono ?_; rintro e w1 ⟨rfl, rfl⟩))
        go_ret3
        exact ⟨0, 0, 2, rfl, HB.out.symm, fun h => absurd h (by decide), rfl⟩

/-- A call tells what is told of a text of parts. -/
def ReadIs (s : ByteArray) (w : World) (e : Ending) (w' : World) : Prop :=
  ∃ (o : ByteArray) (n : Nat) (c : Int), e = .returned (.tuple #[.string o, .int .i64 (n : Int), .int .i64 c]) ∧ Rd (bs s) [] 0 (bs o, n, c) ∧ Below w.heap.size w w'
set_option maxHeartbeats 1000000 in
set_option maxRecDepth 100000 in
theorem specChunkRead_any (s : ByteArray) (w : World) (hs : s.size ≤ 2000000) :
    Calls Tryd.prog 15 #[.string s] w fun e w' => ReadIs s w e w' := by
  go_enter Tryd.func15, Tryd.ntmps15
  go_wp2
  go_loop [5, 6] (fun a b => ∃ (k : Nat) (body : ByteArray), a = .string body ∧ b = .int .i64 (k : Int) ∧ k ≤ s.size ∧ body.size ≤ 120 ∧ Hid (∀ x, Rd ((bs s).drop k) (bs body) k x → Rd (bs s) [] 0 x)) (fun _ b => s.size - (intOf b).toNat)
  case atStart => exact ⟨0, _, rfl, rfl, by omega, Nat.zero_le _, fun x h => h⟩
  case round =>
    obtain ⟨k, body, rfl, rfl, hk, hb, hup⟩ := hrel
    obtain ⟨r, hr⟩ : ∃ r, r = (bs s).drop k := ⟨_, rfl⟩
    have hrl : r.length = s.size - k := by rw [hr, List.length_drop, bs_len]
    have HR : Hid (r = (bs s).drop k) := hr
    have HUP : Hid (∀ x, Rd r (bs body) k x → Rd (bs s) [] 0 x) := by rw [HR.out]; exact hup
    clear hup
    go_wp2_with fail
    refine (l4Length_any s k _ hs hk).mono ?_
    rintro e w1 ⟨n, x, c, rfl, hc, hnx, rfl⟩
    rw [← hr] at hc hnx
    clear hr
    by_cases hc0 : c = 0
    · subst hc0
      obtain ⟨rfl, rfl⟩ := hnx rfl
      have HC0 : Hid (lenC r = 0) := hc.symm
      have hA := rdA_len HC0.out
      obtain ⟨N, hN⟩ : ∃ y, y = lenN r := ⟨_, rfl⟩
      obtain ⟨X, hX⟩ : ∃ y, y = k + lenK r + 2 := ⟨_, rfl⟩
      rw [← hN, show (k : Int) + (lenK r : Int) + 2 = (X : Int) by omega]
      have HN : Hid (N = lenN r) := hN
      have HX : Hid (X = k + lenK r + 2) := hX
      have hXs : X ≤ s.size := by omega
      have hAl : (rdA r).length = s.size - X := by unfold rdA; rw [List.length_drop]; omega
      have hN16 : N ≤ 65536 := by
        have h4 := (lenC_zero HC0.out).2.1
        have hh := digN_hex 5 r
        have hl := digN_le 5 r
        have := digs_lt (s := s) (p := k) (k := lenK r) (n := lenN r) ⟨by omega, by omega, by rw [← HR.out]; exact hh, by rw [← HR.out]; rfl⟩
        have h5 : 16 ^ lenK r ≤ 16 ^ 4 := Nat.pow_le_pow_right (by omega) h4
        omega
      clear hc hnx hN hX hA
      by_cases hlong : (120 : Int) < (body.size : Int) + (N : Int)
      · have HRD : Hid (Rd (bs s) [] 0 (bs ⟨#[]⟩, 0, 3)) := HUP.out _ (Rd.long HC0.out (by rw [← HN.out, bs_len]; omega))
        go_wp2_with fail
        go_ret3
        exact ⟨_, 0, 3, rfl, HRD.out, Below.refl _ _⟩
      · by_cases hmore : (s.size : Int) < (X : Int) + (N : Int)
        · have HRD : Hid (Rd (bs s) [] 0 (bs ⟨#[]⟩, 0, 1)) := HUP.out _ (Rd.short HC0.out (by rw [← HN.out, bs_len]; omega) (by rw [← HN.out, hAl]; omega))
          go_wp2_with fail
          go_ret3
          exact ⟨_, 0, 1, rfl, HRD.out, Below.refl _ _⟩
        · have HB : Hid (rdB r = (bs s).drop (X + N)) := by
            show _ = _
            unfold rdB rdA
            rw [← HN.out, HR.out, List.drop_drop, List.drop_drop]
            congr 1
            rw [HX.out, HR.out]
            omega
          have HC2 : Hid (∀ W, Calls Tryd.prog 36 #[.string s, .int .i64 ((X : Int) + (N : Int))] W fun e w' => e = .returned (.int .i64 (lineC (rdB r))) ∧ w' = W) := fun W => by
            have := l4Line_any s (X + N) W hs (by omega)
            rw [show ((X + N : Nat) : Int) = (X : Int) + (N : Int) by omega, ← HB.out] at this
            exact this
          obtain ⟨lc, hlc⟩ : ∃ y, y = lineC (rdB r) := ⟨_, rfl⟩
          rw [← hlc] at HC2
          by_cases hl0 : lc = 0
          · have HL0 : Hid (lineC (rdB r) = 0) := by show _ = _; rw [← hlc]; exact hl0
            obtain ⟨u, hu⟩ := lineC_zero HL0.out
            have hX2 : X + N + 2 ≤ s.size := by
              have h1 := congrArg List.length (HB.out.symm.trans hu)
              rw [List.length_drop, bs_len] at h1
              simp at h1
              omega
            clear hu hlc
            subst hl0
            have HT : Hid (bs (s.extract X (X + N)) = (rdA r).take N) := by
              show _ = _
              rw [bs_extract, List.drop_take, show X + N - X = N by omega]
              unfold rdA
              rw [HR.out, List.drop_drop]
              congr 2
              rw [HX.out, HR.out]
              omega
            have hxs : (s.extract X (X + N)).size = N := by rw [ByteArray.size_extract]; omega
            have q1 : ¬ 9223372036854775807 < body.size + (min (X + N) s.size - X) := by omega
            have q2 : ¬ 9223372036854775807 < body.size + N := by omega
            by_cases hN0 : N = 0
            · have HE : Hid (Rd (bs s) [] 0 (bs (body ++ s.extract X (X + N)), X + N + 2, 0)) := by
                have := HUP.out _ (Rd.fin HC0.out (by rw [← HN.out, bs_len]; omega) (by rw [← HN.out, hAl]; omega) HL0.out (by rw [← HN.out]; exact hN0))
                have e1 : bs (body ++ s.extract X (X + N)) = bs body := by
                  rw [bs_append, HT.out, hN0]
                  simp
                show Rd _ _ _ _
                rw [e1, show X + N + 2 = k + lenK r + 4 by have := HX.out; omega]
                exact this
              subst hN0
              have ee : s.extract X (X + 0) = s.extract X X := by simp
              go_wp2_with (first | (go_at_call 36; refine (HC2.out _).mono ?_; rintro e w2 ⟨rfl, rfl⟩))
              go_ret3
              exact ⟨_, X + 0 + 2, 0, by simp, HE.out, Below.refl _ _⟩
            · have hNi : ((N : Int) == 0) = false := by rw [beq_eq_false_iff_ne]; omega
              have HE : Hid (∀ x, Rd ((bs s).drop (X + N + 2)) (bs (body ++ s.extract X (X + N))) (X + N + 2) x → Rd (bs s) [] 0 x) := fun x hx => by
                refine HUP.out x (Rd.part HC0.out (by rw [← HN.out, bs_len]; omega) (by rw [← HN.out, hAl]; omega) HL0.out (by rw [← HN.out]; exact hN0) ?_)
                rw [HB.out, List.drop_drop, ← HN.out, ← HT.out, ← bs_append, show k + lenK r + N + 4 = X + N + 2 by have := HX.out; omega]
                exact hx
              go_wp2_with (first | (go_at_call 36; refine (HC2.out _).mono ?_; rintro e w2 ⟨rfl, rfl⟩))
              go_round
              case rel => exact ⟨X + N + 2, body ++ s.extract X (X + N), rfl, by go_num, hX2, by rw [ByteArray.size_append, hxs]; omega, HE⟩
              case measure => simp [intOf]; have := HX.out; omega
          · have HRD : Hid (Rd (bs s) [] 0 (bs ⟨#[]⟩, 0, lc)) := by
              have := HUP.out _ (Rd.line HC0.out (by rw [← HN.out, bs_len]; omega) (by rw [← HN.out, hAl]; omega) (by rw [← hlc]; exact hl0))
              rw [← hlc] at this
              exact this
            have hne : (lc != 0) = true := by rw [bne_iff_ne]; exact hl0
            clear hlc
            go_wp2_with (first | (go_at_call 36; refine (HC2.out _).mono ?_; rintro e w2 ⟨rfl, rfl⟩))
            go_ret3
            exact ⟨_, 0, lc, rfl, HRD.out, Below.refl _ _⟩
    · have HRD : Hid (Rd (bs s) [] 0 (bs ⟨#[]⟩, 0, c)) := by
        have := HUP.out _ (Rd.len (body := bs body) (pos := k) (by rw [← hc]; exact hc0))
        rw [← hc] at this
        exact this
      have hne : (c != 0) = true := by rw [bne_iff_ne]; exact hc0
      clear hc hnx
      go_wp2_with fail
      go_ret3
      exact ⟨_, 0, c, rfl, HRD.out, Below.refl _ _⟩

end Go.Proofs.YtkpnacopljceaaaDoor
