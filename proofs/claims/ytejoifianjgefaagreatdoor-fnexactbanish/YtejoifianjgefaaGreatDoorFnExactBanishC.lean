/- What the proof of FnExactBanish leans on: contracts of the program's and the specification's functions, and plain facts (part 3 of 11). -/
import Derived.Test.YtejoifianjgefaaGreatDoorFnExactBanishB
set_option maxHeartbeats 16000000
set_option maxRecDepth 100000
namespace Go.Proofs.YtejoifianjgefaaGreatDoor
open Go.Proofs.Tryz
open Go.RowKit
open Go.Lib hiding intOf
theorem aN4 (k : Int) (a b : Tx) (t : Int) (w : World) (ha : a.size ≤ maxLen) (hb : b.size ≤ maxLen) :
    Calls prog 59 #[.agg #[.int .i64 k, .string a, .string b, .int .i64 t]] w fun e w' => aA4 (BanP k a b t) w e w' := by
  have c2 := hid ha;have d6 := hid hb;clear ha hb;have K0 := jnil w;go_enter func59, ntmps59;go_upto_region 1 with fail
  obtain ⟨q1, c3⟩ := exq (w.heap.size);obtain ⟨w1, b9⟩ := exq (w.alloc (.cells #[.int .i64 k, .string a, .string b, .int .i64 t] 62));have c4 := c3.symm;rw [← b9]; try rw [← c3];have d7 := hsa b9 c4;have bw := bal b9;have K1 := ja K0 b9 c4;clear bw b9 c4 K0;clear d7 c3;have c5 := c4c (jb K1 0 rfl);go_wp2_with fail
  refine (aH6 t 0 1000000 _).mono ?_;rintro e w2 ⟨rfl, d5⟩;have bw : Below w1.heap.size (w1) w2 := by rw [d5]; exact Below.refl _ _
  clear d5;obtain ⟨ut, c0⟩ : ∃ u, u = decide ((0 : Int) ≤ t ∧ t ≤ 1000000) := ⟨_, rfl⟩;rw [← c0];have K2 := jw K1 bw;clear bw K1;clear c5;cases ut
  ·have a8 : Hid (¬ (0 ≤ t ∧ t ≤ 1000000)) := (show ¬ (0 ≤ t ∧ t ≤ 1000000) from of_decide_eq_false c0.symm);clear c0;go_wp2_with fail
   go_ret;refine ⟨false, rfl, ?_, K2.hb⟩;have a0 := a8.out;unfold BanP
   first
     | (simp_all; done)
     | (constructor
        ·intro h
         first
           | (cases h; done)
           | exact ⟨a0, .inl ⟨.inl a5, a1, a2⟩⟩
           | exact ⟨a0, .inl ⟨.inr a6, a1, a2⟩⟩
           | exact ⟨a0, .inr ⟨a4, a3, zv.1 h⟩⟩
           | exact ⟨a0, .inr ⟨a4, a3, zHuv⟩⟩
        ·rintro ⟨h1, (⟨h2 | h2, h3, h4⟩ | ⟨h2, h3, h4⟩)⟩
         all_goals first
           | rfl
           | exact zv.2 h4
           | (exfalso; first | exact a0 h1 | exact a1 h3 | exact a3 h3 | exact a2 h4 | exact zHuv h4 | omega))
  have a8 : Hid (0 ≤ t ∧ t ≤ 1000000) := (show 0 ≤ t ∧ t ≤ 1000000 from of_decide_eq_true c0.symm);clear c0;have b3 := c4c (jb K2 0 rfl);by_cases hc1 : k = 1
  ·have c6 : ((k : Int) == (1 : Int)) = true := by simpa using hc1
   have c7 : ((k : Int) != (1 : Int)) = false := by simpa using hc1
   have b0 : Hid (k = 1) := hc1;have c8 : Hid (k = 1) := hc1;clear hc1;have a9 := c4c (jb K2 0 rfl);go_wp2_with fail
   refine (bA5 a _ c2.out).mono ?_;rintro e w3 ⟨up, rfl, a7, bw⟩;have K3 := jw K2 bw;clear bw K2;clear b3 a9;cases up
   ·have b1 : Hid (¬ aH2 a) := fun h => nomatch a7.2 h
    clear a7;go_wp2_with fail
    go_ret;refine ⟨false, rfl, ?_, K3.hb⟩;have a0 := a8.out;have a5 := b0.out;have a1 := b1.out;unfold BanP
    first
      | (simp_all; done)
      | (constructor
         ·intro h
          first
            | (cases h; done)
            | exact ⟨a0, .inl ⟨.inl a5, a1, a2⟩⟩
            | exact ⟨a0, .inl ⟨.inr a6, a1, a2⟩⟩
            | exact ⟨a0, .inr ⟨a4, a3, zv.1 h⟩⟩
            | exact ⟨a0, .inr ⟨a4, a3, zHuv⟩⟩
         ·rintro ⟨h1, (⟨h2 | h2, h3, h4⟩ | ⟨h2, h3, h4⟩)⟩
          all_goals first
            | rfl
            | exact zv.2 h4
            | (exfalso; first | exact a0 h1 | exact a1 h3 | exact a3 h3 | exact a2 h4 | exact zHuv h4 | omega))
   have b1 : Hid (aH2 a) := a7.1 rfl;clear a7;have b4 := c4c (jb K3 0 rfl);by_cases hc2 : b = ⟨#[]⟩
   ·have b5 : (b).toList.isEmpty = true := aS3 (by rw [hc2]; rfl);have b6 := hid hc2;go_wp2_with fail
    go_ret;refine ⟨true, rfl, ?_, K3.hb⟩;have a0 := a8.out;have a5 := b0.out;have a1 := b1.out;have a2 := b6.out;unfold BanP
    first
      | (simp_all; done)
      | (constructor
         ·intro h
          first
            | (cases h; done)
            | exact ⟨a0, .inl ⟨.inl a5, a1, a2⟩⟩
            | exact ⟨a0, .inl ⟨.inr a6, a1, a2⟩⟩
            | exact ⟨a0, .inr ⟨a4, a3, zv.1 h⟩⟩
            | exact ⟨a0, .inr ⟨a4, a3, zHuv⟩⟩
         ·rintro ⟨h1, (⟨h2 | h2, h3, h4⟩ | ⟨h2, h3, h4⟩)⟩
          all_goals first
            | rfl
            | exact zv.2 h4
            | (exfalso; first | exact a0 h1 | exact a1 h3 | exact a3 h3 | exact a2 h4 | exact zHuv h4 | omega))
   have b5 : (b).toList.isEmpty = false := bA0 (Nat.pos_of_ne_zero (fun e => hc2 (bA6 e)))
   have b6 := hid hc2;go_wp2_with fail
   go_ret;refine ⟨false, rfl, ?_, K3.hb⟩;have a0 := a8.out;have a5 := b0.out;have a1 := b1.out;have a2 := b6.out;unfold BanP
   first
     | (simp_all; done)
     | (constructor
        ·intro h
         first
           | (cases h; done)
           | exact ⟨a0, .inl ⟨.inl a5, a1, a2⟩⟩
           | exact ⟨a0, .inl ⟨.inr a6, a1, a2⟩⟩
           | exact ⟨a0, .inr ⟨a4, a3, zv.1 h⟩⟩
           | exact ⟨a0, .inr ⟨a4, a3, zHuv⟩⟩
        ·rintro ⟨h1, (⟨h2 | h2, h3, h4⟩ | ⟨h2, h3, h4⟩)⟩
         all_goals first
           | rfl
           | exact zv.2 h4
           | (exfalso; first | exact a0 h1 | exact a1 h3 | exact a3 h3 | exact a2 h4 | exact zHuv h4 | omega))
  have c6 : ((k : Int) == (1 : Int)) = false := by simpa using hc1
  have c7 : ((k : Int) != (1 : Int)) = true := by simpa using hc1
  have b0 := hid hc1;have c8 := hid hc1;clear hc1;by_cases hc2 : k = 2
  ·have b5 : ((k : Int) == (2 : Int)) = true := by simpa using hc2
   have c9 : ((k : Int) != (2 : Int)) = false := by simpa using hc2
   have b7 : Hid (k = 2) := hc2;have d0 : Hid (k = 2) := hc2;clear hc2;have a9 := c4c (jb K2 0 rfl);go_wp2_with fail
   refine (bA5 a _ c2.out).mono ?_;rintro e w3 ⟨up, rfl, a7, bw⟩;have K3 := jw K2 bw;clear bw K2;clear b3 a9;cases up
   ·have b1 : Hid (¬ aH2 a) := fun h => nomatch a7.2 h
    clear a7;go_wp2_with fail
    go_ret;refine ⟨false, rfl, ?_, K3.hb⟩;have a0 := a8.out;have a5 := b0.out;have a6 := b7.out;have a1 := b1.out;unfold BanP
    first
      | (simp_all; done)
      | (constructor
         ·intro h
          first
            | (cases h; done)
            | exact ⟨a0, .inl ⟨.inl a5, a1, a2⟩⟩
            | exact ⟨a0, .inl ⟨.inr a6, a1, a2⟩⟩
            | exact ⟨a0, .inr ⟨a4, a3, zv.1 h⟩⟩
            | exact ⟨a0, .inr ⟨a4, a3, zHuv⟩⟩
         ·rintro ⟨h1, (⟨h2 | h2, h3, h4⟩ | ⟨h2, h3, h4⟩)⟩
          all_goals first
            | rfl
            | exact zv.2 h4
            | (exfalso; first | exact a0 h1 | exact a1 h3 | exact a3 h3 | exact a2 h4 | exact zHuv h4 | omega))
   have b1 : Hid (aH2 a) := a7.1 rfl;clear a7;have b4 := c4c (jb K3 0 rfl);by_cases hc3 : b = ⟨#[]⟩
   ·have b8 : (b).toList.isEmpty = true := aS3 (by rw [hc3]; rfl);have b6 := hid hc3;go_wp2_with fail
    go_ret;refine ⟨true, rfl, ?_, K3.hb⟩;have a0 := a8.out;have a5 := b0.out;have a6 := b7.out;have a1 := b1.out;have a2 := b6.out;unfold BanP
    first
      | (simp_all; done)
      | (constructor
         ·intro h
          first
            | (cases h; done)
            | exact ⟨a0, .inl ⟨.inl a5, a1, a2⟩⟩
            | exact ⟨a0, .inl ⟨.inr a6, a1, a2⟩⟩
            | exact ⟨a0, .inr ⟨a4, a3, zv.1 h⟩⟩
            | exact ⟨a0, .inr ⟨a4, a3, zHuv⟩⟩
         ·rintro ⟨h1, (⟨h2 | h2, h3, h4⟩ | ⟨h2, h3, h4⟩)⟩
          all_goals first
            | rfl
            | exact zv.2 h4
            | (exfalso; first | exact a0 h1 | exact a1 h3 | exact a3 h3 | exact a2 h4 | exact zHuv h4 | omega))
   have b8 : (b).toList.isEmpty = false := bA0 (Nat.pos_of_ne_zero (fun e => hc3 (bA6 e)))
   have b6 := hid hc3;go_wp2_with fail
   go_ret;refine ⟨false, rfl, ?_, K3.hb⟩;have a0 := a8.out;have a5 := b0.out;have a6 := b7.out;have a1 := b1.out;have a2 := b6.out;unfold BanP
   first
     | (simp_all; done)
     | (constructor
        ·intro h
         first
           | (cases h; done)
           | exact ⟨a0, .inl ⟨.inl a5, a1, a2⟩⟩
           | exact ⟨a0, .inl ⟨.inr a6, a1, a2⟩⟩
           | exact ⟨a0, .inr ⟨a4, a3, zv.1 h⟩⟩
           | exact ⟨a0, .inr ⟨a4, a3, zHuv⟩⟩
        ·rintro ⟨h1, (⟨h2 | h2, h3, h4⟩ | ⟨h2, h3, h4⟩)⟩
         all_goals first
           | rfl
           | exact zv.2 h4
           | (exfalso; first | exact a0 h1 | exact a1 h3 | exact a3 h3 | exact a2 h4 | exact zHuv h4 | omega))
  have b5 : ((k : Int) == (2 : Int)) = false := by simpa using hc2
  have c9 : ((k : Int) != (2 : Int)) = true := by simpa using hc2
  have b7 := hid hc2;have d0 := hid hc2;clear hc2;by_cases hc3 : k = 3
  rotate_left
  ·have b8 : ((k : Int) == (3 : Int)) = false := by simpa using hc3
   have d1 : ((k : Int) != (3 : Int)) = true := by simpa using hc3
   have c1 := hid hc3;have d2 := hid hc3;clear hc3;go_wp2_with fail
   go_ret;refine ⟨false, rfl, ?_, K2.hb⟩;have a0 := a8.out;have a5 := b0.out;have a6 := b7.out;have a4 := c1.out;unfold BanP
   first
     | (simp_all; done)
     | (constructor
        ·intro h
         first
           | (cases h; done)
           | exact ⟨a0, .inl ⟨.inl a5, a1, a2⟩⟩
           | exact ⟨a0, .inl ⟨.inr a6, a1, a2⟩⟩
           | exact ⟨a0, .inr ⟨a4, a3, zv.1 h⟩⟩
           | exact ⟨a0, .inr ⟨a4, a3, zHuv⟩⟩
        ·rintro ⟨h1, (⟨h2 | h2, h3, h4⟩ | ⟨h2, h3, h4⟩)⟩
         all_goals first
           | rfl
           | exact zv.2 h4
           | (exfalso; first | exact a0 h1 | exact a1 h3 | exact a3 h3 | exact a2 h4 | exact zHuv h4 | omega))
  have b8 : ((k : Int) == (3 : Int)) = true := by simpa using hc3
  have d1 : ((k : Int) != (3 : Int)) = false := by simpa using hc3
  have c1 : Hid (k = 3) := hc3;have d2 : Hid (k = 3) := hc3;clear hc3;have a9 := c4c (jb K2 0 rfl);go_wp2_with fail
  refine (aO2 a _ c2.out).mono ?_;rintro e w3 ⟨uk, rfl, b2, bw⟩;have K3 := jw K2 bw;clear bw K2;clear b3 a9;cases uk
  ·have d3 : Hid (¬ aL0 a) := fun h => nomatch b2.2 h
   clear b2;go_wp2_with fail
   go_ret;refine ⟨false, rfl, ?_, K3.hb⟩;have a0 := a8.out;have a5 := b0.out;have a6 := b7.out;have a4 := c1.out;have a3 := d3.out;unfold BanP
   first
     | (simp_all; done)
     | (constructor
        ·intro h
         first
           | (cases h; done)
           | exact ⟨a0, .inl ⟨.inl a5, a1, a2⟩⟩
           | exact ⟨a0, .inl ⟨.inr a6, a1, a2⟩⟩
           | exact ⟨a0, .inr ⟨a4, a3, zv.1 h⟩⟩
           | exact ⟨a0, .inr ⟨a4, a3, zHuv⟩⟩
        ·rintro ⟨h1, (⟨h2 | h2, h3, h4⟩ | ⟨h2, h3, h4⟩)⟩
         all_goals first
           | rfl
           | exact zv.2 h4
           | (exfalso; first | exact a0 h1 | exact a1 h3 | exact a3 h3 | exact a2 h4 | exact zHuv h4 | omega))
  have d3 : Hid (aL0 a) := b2.1 rfl;clear b2;have b4 := c4c (jb K3 0 rfl);go_wp2_with fail
  refine (aO4 b _ d6.out).mono ?_;rintro e w4 ⟨uv, rfl, d4, bw⟩;have K4 := jw K3 bw;clear bw K3;clear b4;go_wp2_with fail
  go_ret;refine ⟨uv, rfl, ?_, K4.hb⟩;have a0 := a8.out;have a5 := b0.out;have a6 := b7.out;have a4 := c1.out;have a3 := d3.out;have zv := d4;unfold BanP
  first
    | (simp_all; done)
    | (constructor
       ·intro h
        first
          | (cases h; done)
          | exact ⟨a0, .inl ⟨.inl a5, a1, a2⟩⟩
          | exact ⟨a0, .inl ⟨.inr a6, a1, a2⟩⟩
          | exact ⟨a0, .inr ⟨a4, a3, zv.1 h⟩⟩
          | exact ⟨a0, .inr ⟨a4, a3, zHuv⟩⟩
       ·rintro ⟨h1, (⟨h2 | h2, h3, h4⟩ | ⟨h2, h3, h4⟩)⟩
        all_goals first
          | rfl
          | exact zv.2 h4
          | (exfalso; first | exact a0 h1 | exact a1 h3 | exact a3 h3 | exact a2 h4 | exact zHuv h4 | omega))
theorem bX2 (oa : Oa) (m cm : Nat) (xs : Ts) (w : World) (hx : aC4 w oa m xs) (hm : m ≤ 2000000) (hsz : ∀ i, i < m → (aA8 xs i).size ≤ maxLen) :
  Calls prog 94 #[.slice oa m cm] w fun e w' => aA4 (aX1 xs) w e w' := by
 have HX : Hid (∀ W, Bw w W → aC4 W oa m xs) := fun W h => hx.below h
 have HL : Hid (xs.length = m) := hx.1;have HS := hid hsz;clear hx hsz;go_enter func94, ntmps94;go_wp2_with fail
 go_loopw [3] (fun i wr => ∃ j : Nat, j ≤ m ∧ i = .int .i64 (j : Int) ∧ Bw w wr ∧ Hid (∀ x ∈ xs.take j, aL0 x)) (fun i _ => m - (intOf i).toNat)
 case atStart => exact ⟨0, Nat.zero_le _, rfl, Below.refl _ _, fun x hx => by simp at hx⟩
 case round =>
  obtain ⟨j, hj, rfl, a0, HN⟩ := hrel;by_cases hlt : (j : Int) < (m : Int)
  rotate_left
  ·have HA : Hid (∀ x ∈ xs, aL0 x) := by
    have h := HN.out
    rw [List.take_of_length_le (by rw [HL.out]; omega)] at h
    exact h
   have HQ : Hid (((m : Int) ≤ 4) ↔ aX1 xs) := ⟨fun h => ⟨HA.out, by rw [HL.out]; omega⟩, fun h => by have := h.2; rw [HL.out] at this; omega⟩
   clear HN;go_wp2_with fail
   go_ret;exact ⟨decide ((m : Int) ≤ 4), rfl, by rw [decide_eq_true_iff]; exact HQ.out, a0⟩
  have a2 : j < xs.length := by rw [HL.out]; omega
  obtain ⟨g, rfl, hg, hc⟩ := (HX.out wr a0).2 j (by omega);have hs := HS.out j (by omega);obtain ⟨x, a1⟩ := exq (aA8 xs j);rw [← a1] at hc hs;have HM : Hid (x ∈ xs) := by show _ ∈ _; rw [a1]; exact aW3 xs j a2
  have HT : Hid (xs.take (j + 1) = xs.take j ++ [x]) := by show _ = _; rw [aL6 xs j a2, a1]
  clear a1 a2;go_wp2_with fail
  refine (aO2 x _ hs).mono ?_;rintro e w1 ⟨t, rfl, ht, b1⟩;have a3 : Bw w w1 := a0.trans (b1.mono a0.size);clear b1 a0 hc;cases t
  ·have HF : Hid (¬ aX1 xs) := fun h => nomatch ht.2 (h.1 x HM.out)
   clear ht HN;go_wp2_with fail
   go_ret;exact aA4.no HF.out a3
  have a4 : Hid (∀ y ∈ xs.take (j + 1), aL0 y) := by
   intro y hy
   rw [HT.out] at hy
   rcases List.mem_append.1 hy with hy | hy
   ·exact HN.out y hy
   ·rw [List.mem_singleton.1 hy]; exact ht.1 rfl
  clear ht HN;go_wp2_with fail
  go_roundw
  case rel => exact ⟨j + 1, by omega, by go_num, a3, a4⟩
  case measure => simp [intOf]; omega
theorem cD8 (v : Value) (n base : Nat) (fs : Fs) (w : World) (hv : aB3 w base v n fs) (hn : n ≤ 2000000) :
  Calls prog 159 #[v] w fun e w' => RowF fs w e w' := by
 obtain ⟨i0, hi, b0, b1, b2⟩ := info_parts cH8;have hl := hv.len;have a5 : 0 + n ≤ maxLen := by unfold maxLen; omega
 have a6 : (0 + n) * 32 ≤ 140737488355328 := by omega
 have a0 : (w.alloc (.cells #[] 184)).ownsRow w.heap.size 184 2 (.slice (some ⟨w.heap.size, 0, none⟩) 0 0) 0 [] := ⟨rfl, .inr ⟨w.heap.size, 0, #[], rfl, Nat.le_refl _, heap_alloc_new w _, Nat.le_refl _, Nat.zero_le _, rfl, rfl⟩⟩;have a3 : w.heap.size ≤ (w.alloc (.cells #[] 184)).heap.size := by simp
 have a8 := hv.below ((Below.refl _ w).alloc (Nat.le_refl _) (.cells #[] 184));rcases a8.src with ⟨rfl, rfl, rfl⟩ | ⟨ad, b3, rfl, a9⟩
 ·have a7 : Bw w (w.alloc (.cells #[] 184)) := (Below.refl _ w).alloc (Nat.le_refl _) _;clear hv;go_enter func159, ntmps159;go_wp2_with (at_builtin; refine wpList_append_own_none rfl _ _ 47 rfl w.heap.size 184 i0 2 underlying47 hi _ _ _ rfl a0 rfl ?_)
  go_wp2
  go_ret;exact ⟨_, rfl, a0, a7⟩
 have b4 : (aF3 fs).length = n * 2 := by rw [aR1, hl]
 go_enter func159, ntmps159;go_wp2_with (at_builtin; refine wpList_append_own _ rfl _ _ 47 rfl w.heap.size 184 i0 (.agg #[.string ⟨#[]⟩, .string ⟨#[]⟩]) 2 32 underlying47 hi b0 b1 b2 rfl (by decide) _ _ _ rfl a0 ad n b3 (aF3 fs) rfl b4 a9 (cM6 _) a5 a6 a3 ?_)
 intro v1 w2 a1 a2 _;have a7 : Bw w w2 := ((Below.refl _ w).alloc (Nat.le_refl _) _).grown a2 a3 (fun g hg => aB7 a0 hg)
 have a4 : w2.ownsRow w.heap.size 184 2 v1 fs.length (aF3 fs) := by rw [hl]; simpa using a1
 clear a2 a1 a0 a3 a8 a9 hv;go_wp2
 go_ret;exact ⟨_, rfl, a4, a7⟩
def bL2 (w : World) (r : Nat) (nm vl : Tx) : World := (w.setCell ⟨r, 0, none⟩ (.string nm)).setCell ⟨r, 1, none⟩ (.string vl)
theorem bX3 {w : World} {r : Nat} (nm vl : Tx) (h : w.heap[r]? = some (.cells #[.string ⟨#[]⟩, .string ⟨#[]⟩] 184)) : (bL2 w r nm vl).heap[r]? = some (.cells #[.string nm, .string vl] 184) := by
 have := aD0 _ r 1 _ _ _ (.string vl) (aD0 w r 0 _ _ _ (.string nm) h);simpa [bL2] using this
theorem bG1 (v : Value) (n base : Nat) (fs : Fs) (name : Tx) (w : World) (hv : aB3 w base v n fs) (hn : n ≤ 1073741824) :
  Calls prog 236 #[v, .string name] w fun e w' => e = .returned (.int .i64 (atF fs name : Int)) ∧ w' = w := by
 have hl := hv.len;obtain ⟨oa, a3, rfl, a0⟩ := hv.slice;clear hv;go_enter func236, ntmps236;go_wp2
 go_loop [8] (fun i => ∃ k : Nat, k ≤ n ∧ i = .int .i64 (k : Int) ∧ Hid (∀ j, j < k → aC7 fs j ≠ name)) (fun i => n - (intOf i).toNat)
 case atStart => exact ⟨0, Nat.zero_le _, rfl, fun j h => absurd h (by omega)⟩
 case round =>
  obtain ⟨k, hk, rfl, hb⟩ := hrel;by_cases hlt : k < n
  rotate_left
  ·have hT : Hid (atF fs name = n) := by
    have := cA6 (fs := fs) (name := name) (fun j hj => hb.out j (by omega))
    show _ = _
    omega
   clear a0;go_wp2
   go_ret;exact ⟨by rw [hT.out]; rfl, rfl⟩
  obtain ⟨g, rfl, a1⟩ := a0 k hlt;have hc := a1.name k hlt;have a2 : (k : Int) < (n : Int) := by omega
  clear a0 a1;by_cases he : aC7 fs k = name
  ·have hT : Hid (atF fs name = k) := cA5 (by omega) hb.out he;have ht : ((aC7 fs k).toList == name.toList) = true := (aI2 _ _).2 he;clear he;go_wp2
   go_ret;exact ⟨by rw [hT.out]; rfl, rfl⟩
  have ht := aG2 he;have HE := hid he;clear he;go_wp2
  go_round
  case rel =>
   refine ⟨k + 1, by omega, by go_num, ?_⟩;intro j hj;by_cases e : j = k
   ·subst e; exact HE.out
   exact hb.out j (by omega)
  case measure => simp [intOf]; omega
theorem bS5 (nm vl : Tx) (w : World) (h1 : nm.size ≤ 281474976710656) (h2 : vl.size ≤ 281474976710656) :
  Calls prog 278 #[.string nm, .string vl] w fun e w' => e = .returned (.agg #[.string nm, .string vl]) ∧ Below w.heap.size w w' := by
 go_enter func278, ntmps278;go_wp2_with fail
 refine (aH9 nm _ h1).mono ?_;rintro e w1 ⟨rfl, a2⟩;go_wp2_with fail
 refine (aH9 vl _ h2).mono ?_;rintro e w2 ⟨rfl, a3⟩;obtain ⟨r, hr⟩ := exq (w.heap.size);have h0 : (w.alloc (.cells #[.string ⟨#[]⟩, .string ⟨#[]⟩] 184)).heap.size = w.heap.size + 1 := by simp
 have hb : Bw w w2 := ((Below.refl _ w).alloc (Nat.le_refl _) _).trans ((a2.trans (a3.mono a2.size)).mono (by omega))
 have a0 : w2.heap[r]? = some (.cells #[.string ⟨#[]⟩, .string ⟨#[]⟩] 184) := by
  rw [hr, (a2.trans (a3.mono a2.size)).block _ (by omega)]; exact heap_alloc_new w _
 have a6 : w2.cell? ⟨r, 0, none⟩ = some (.string ⟨#[]⟩) := by simp [World.cell?, a0]
 have a7 : w2.cell? ⟨r, 1, none⟩ = some (.string ⟨#[]⟩) := by simp [World.cell?, a0]
 have a8 : w2.frozen? ⟨r, 0, none⟩ = false := by simp [World.frozen?, a0]
 have a9 : w2.frozen? ⟨r, 1, none⟩ = false := by simp [World.frozen?, a0]
 have a1 := bX3 nm vl a0;have k0 : (bL2 w2 r nm vl).cell? ⟨r, 0, none⟩ = some (.string nm) := by simp [World.cell?, a1]
 have k1 : (bL2 w2 r nm vl).cell? ⟨r, 1, none⟩ = some (.string vl) := by simp [World.cell?, a1]
 have a4 : Bw w (bL2 w2 r nm vl) := (hb.setCell (p := ⟨r, 0, none⟩) (by simp [hr]) _).setCell (p := ⟨r, 1, none⟩) (by simp [hr]) _;have a5 := hid a4;rw [← hr];unfold bL2 at k0 k1;clear a1 a0 hb a4 a2 a3 hr h0;go_wp2
 exact bodyPost_ret (v := .agg #[.string nm, .string vl]) (by simp [results, results278, go_sem, k0, k1]) rfl ⟨rfl, a5.out⟩
theorem aM0 (w : World) (r o g p : Nat) (v : Value) (h : g ≠ r) : (w.setCell ⟨r, o, none⟩ v).cell? ⟨g, p, none⟩ = w.cell? ⟨g, p, none⟩ := by
 unfold World.cell?;rw [heap_setCell_other _ _ g _ (fun e => h e)]
def aT2 (fs : Fs) : Prop := ∀ i, i < fs.length → (aC7 fs i).size ≤ 281474976710656 ∧ (aH7 fs i).size ≤ 281474976710656
theorem cD9 (v : Value) (n base : Nat) (fs : Fs) (w : World) (hv : aB3 w base v n fs) (hn : n ≤ 2000000) (hsz : aT2 fs) :
  Calls prog 262 #[v] w fun e w' => RowF fs w e w' := by
 obtain ⟨i0, hi, b6, b7, b8⟩ := info_parts cH8;obtain ⟨M, hM⟩ : ∃ M, M = madeCells (Value.agg #[.string ⟨#[]⟩, .string ⟨#[]⟩]).cells (((n : Nat) : Int).toNat * i0.size) := ⟨_, rfl⟩
 have c9 : ∀ W : World, (Instr.makeSlice 233 (.int .i64 (n : Int)) (.int .i64 (n : Int))).run prog W = .ok (.slice (some ⟨W.heap.size, 0, none⟩) n n) (W.alloc (.cells M 184)) := fun W => by
  have h := run_make (P := prog) W 233 184 i0 (.agg #[.string ⟨#[]⟩, .string ⟨#[]⟩]) underlying233 hi b6 .i64 .i64 (n : Int) (n : Int) (by omega) (by omega) (by rw [b8]; omega) (by omega)
  rw [← hM] at h
  simpa using h
 have b9 : M.size = n * 2 := by rw [hM, size_madeCells, b7]; simp
 have a5 := hv.len;obtain ⟨oa, c0, rfl, a6⟩ := hv.slice;have a9 := hid a6;have c1 := hid hsz;clear hM hv a6 hsz;have HP : Hid (aG9 (w.alloc (.cells M 184)) w.heap.size n 0 fs) := ⟨M, heap_alloc_new w _, b9, fun i h => absurd h (by omega)⟩
 go_enter func262, ntmps262;go_wp2
 go_loopw [10] (fun i wr => ∃ k : Nat, k ≤ n ∧ i = .int .i64 (k : Int) ∧ Hid (aG9 wr w.heap.size n k fs) ∧ Bw w wr) (fun i _ => n - (intOf i).toNat)
 case atStart => exact ⟨0, Nat.zero_le _, rfl, HP, (Below.refl _ _).alloc (Nat.le_refl _) _⟩
 case round =>
  obtain ⟨k, hk, rfl, b0, a8⟩ := hrel;by_cases hlt : k < n
  rotate_left
  ·obtain rfl : k = n := by omega
   go_wp2
   go_ret;exact ⟨_, rfl, by rw [a5]; exact b0.out.owns a5 (by unfold maxLen; omega) (Nat.le_refl _), a8⟩
  have c2 : (k : Int) < (n : Int) := by omega
  obtain ⟨g, rfl, a7⟩ := a9.out k hlt;have a4 := a7.lt;have c3 : Hid (aD9 base w g n c0 fs) := a7;have a0 := a7.below a8 a7.lt;have c4 := a0.name k hlt;have c5 := a0.val k hlt;obtain ⟨z1, z2⟩ := c1.out k (by omega);obtain ⟨nm, b1⟩ := exq (aC7 fs k);obtain ⟨vl, b2⟩ := exq (aH7 fs k);rw [← b1] at c4 z1;rw [← b2] at c5 z2;have b4 := hid b1;have b5 := hid b2;clear b1 b2 a7 a0;have c6 : g < w.heap.size := a4
  have HA : Hid (∀ w0 w1, Below wr.heap.size wr w0 → Below w0.heap.size w0 w1 → (w1.cell? ⟨g, k * 2, none⟩ = some (.string nm) ∧ w1.cell? ⟨g, k * 2 + 1, none⟩ = some (.string vl)) ∧ (∃ u, w1.cell? ⟨w.heap.size, k * 2, none⟩ = some u) ∧ (∃ u, w1.cell? ⟨w.heap.size, k * 2 + 1, none⟩ = some u) ∧ w1.frozen? ⟨w.heap.size, k * 2, none⟩ = false ∧ w1.frozen? ⟨w.heap.size, k * 2 + 1, none⟩ = false ∧ Hid (aG9 ((w1.setCell ⟨w.heap.size, k * 2, none⟩ (.string nm)).setCell ⟨w.heap.size, k * 2 + 1, none⟩ (.string vl)) w.heap.size n (k + 1) fs) ∧ Bw w w1 ∧ (((w1.setCell ⟨w.heap.size, k * 2, none⟩ (.string nm)).setCell ⟨w.heap.size, k * 2 + 1, none⟩ (.string vl)).cell? ⟨g, k * 2, none⟩ = some (.string nm) ∧ ((w1.setCell ⟨w.heap.size, k * 2, none⟩ (.string nm)).setCell ⟨w.heap.size, k * 2 + 1, none⟩ (.string vl)).cell? ⟨g, k * 2 + 1, none⟩ = some (.string vl))) := fun w0 w1 h h' => by
   have hx := h.trans (h'.mono h.size)
   have hy := a8.trans (hx.mono a8.size)
   have a0 := c3.out.below hy c6
   have a1 := a0.name k hlt
   have a2 := a0.val k hlt
   rw [← b4.out] at a1
   rw [← b5.out] at a2
   have a3 := b0.out.below hx b0.out.lt
   have hput := a3.put hlt
   rw [← b4.out, ← b5.out] at hput
   exact ⟨⟨a1, a2⟩, a3.cell (k * 2) (by omega), a3.cell (k * 2 + 1) (by omega), a3.frozen _, a3.frozen _, hput, hy, by rw [aM0 _ _ _ _ _ _ (by omega), aM0 _ _ _ _ _ _ (by omega)]; exact a1, by rw [aM0 _ _ _ _ _ _ (by omega), aM0 _ _ _ _ _ _ (by omega)]; exact a2⟩
  go_wp2
  go_region_held3 (fun w' => w'.cell? ⟨g, k * 2, none⟩ = some (.string nm) ∧ w'.cell? ⟨g, k * 2 + 1, none⟩ = some (.string vl)) (first | assumption | go_keep) (first | (go_at_call 278; refine (bS5 nm vl _ z1 z2).mono ?_; rintro e w1 ⟨rfl, c7⟩; obtain ⟨d0, ⟨u0, d1⟩, ⟨u1, d2⟩, f0, f1, b3, c8, d3, d4⟩ := HA.out _ w1 ((Below.refl _ wr).drew) c7))
  go_wp2
  go_roundw
  case rel => exact ⟨k + 1, by omega, by go_num, b3, (c8.setCell (Nat.le_refl _) _).setCell (Nat.le_refl _) _⟩
  case measure => simp [intOf]; omega
theorem bG2 (v : Value) (n base : Nat) (fs : Fs) (name : Tx) (w : World) (hv : aB3 w base v n fs) (hn : n ≤ 1073741824) (hsz : aT2 fs) :
  Calls prog 202 #[v, .string name] w fun e w' => e = .returned (.tuple #[.string (getV fs name), .bool (getB fs name)]) ∧ Below w.heap.size w w' := by
 have hl := hv.len;have a1 := hv;obtain ⟨oa, a7, rfl, a0⟩ := a1.slice;clear a1;obtain ⟨k, hk⟩ := exq (atF fs name);have a2 := cH7 fs name;by_cases hin : atF fs name < fs.length
 rotate_left
 ·have hV : Hid (getV fs name = ⟨#[]⟩) := by show _ = _; unfold getV; rw [if_neg hin]
  have hB : Hid (getB fs name = false) := by show _ = _; unfold getB; simpa using hin
  have a3 : k = n := by omega
  go_enter func202, ntmps202;go_wp2_with fail
  refine (bG1 _ n base fs name _ hv hn).mono ?_;rintro e w1 ⟨rfl, rfl⟩;rw [← hk, a3];clear hv a0 hk a2 hin hsz a3;go_wp2
  go_ret2
  exact ⟨by rw [hV.out, hB.out]; rfl, Below.refl _ _⟩
 have hV : Hid (getV fs name = aH7 fs k) := by show _ = _; unfold getV; rw [if_pos hin, hk]
 have hB : Hid (getB fs name = true) := by show _ = _; unfold getB; simpa using hin
 obtain ⟨g, rfl, a4⟩ := a0 k (by omega);have hc := a4.val k (by omega);have a8 : (k : Int) < (n : Int) := by omega
 have a9 : ((k : Int) == (n : Int)) = false := by rw [beq_eq_false_iff_ne]; omega
 obtain ⟨_, hz⟩ := hsz k (by omega);obtain ⟨vl, a5⟩ := exq (aH7 fs k);rw [← a5] at hV hc hz;go_enter func202, ntmps202;go_wp2_with fail
 refine (bG1 _ n base fs name _ hv hn).mono ?_;rintro e w1 ⟨rfl, rfl⟩;rw [← hk];clear hv a0 a4 hk a5 a2 hin hsz;go_wp2_with fail
 refine (aH9 vl _ hz).mono ?_;rintro e w2 ⟨rfl, a6⟩;go_wp2
 go_ret2
 exact ⟨by rw [hV.out, hB.out]; rfl, a6⟩
theorem bC3 {P : Program} {ops : Array Oper} {Q : Exit → Act → World → Prop} {md : Region.Mode} {S : World → Prop} {i : Nat} {oi : Oper} {v : Value} {fuel : Nat} {listed : Array Bool} {a : Act} {w : World} (d : Option Tmp) (hi : ops[i]? = some oi) (hd : oi.dst = d)
  (hs : Region.noSelect ops = true) (hf : Region.free md ops listed i = true) (hr : (Region.ready md ops listed).contains i = true)
  (hQ : ∀ c a w, Q (.panic c) (a.put oi.dst v) w → Q (.panic c) a w) (hy : YieldsIf P ops S oi v a) (hS : S w)
  (h : wpAnyH P md ops Q S fuel (listed.setIfInBounds i true) (a.put d v) w) : wpAnyH P md ops Q S (fuel + 1) listed a w :=
 wpAnyH_take hi hs hf hr hQ hy hS (hd ▸ h)
theorem aY8 (p : Tx) (o1 : Oa) (n1 c1 : Nat) (xs : Ts) (o2 : Oa) (n2 c2 : Nat) (ys : Ts) (st : Int) (v3 : Value) (n3 base : Nat) (fs : Fs) (b : Tx) (t : Int) (w : World) (h1 : aC4 w o1 n1 xs) (h2 : aC4 w o2 n2 ys) (h3 : aB3 w base v3 n3 fs) (hn1 : n1 ≤ 2000000) (hn2 : n2 ≤ 2000000) (hn3 : n3 ≤ 2000000) (hs1 : ∀ i, i < n1 → (aA8 xs i).size ≤ maxLen) (hs2 : ∀ i, i < n2 → (aA8 ys i).size ≤ maxLen) (hs3 : aP6 n3 fs) (hp : p.size ≤ maxLen) (hx : b.size ≤ maxLen) (hg : (getV fs aF0).size ≤ 1048576) :
  Calls prog 34 #[.agg #[.string p, .slice o1 n1 c1, .slice o2 n2 c2, .int .i64 st, v3, .string b, .int .i64 t]] w fun e w' => aA4 (ObjP p xs ys st fs b t) w e w' := by
 obtain ⟨o3, c3, rfl, _⟩ := h3.slice;have c7 : Hid (∀ W, Bw w W → aC4 W o1 n1 xs) := fun W h => h1.below h
 have d5 : Hid (∀ W, Bw w W → aC4 W o2 n2 ys) := fun W h => h2.below h
 have c8 : Hid (∀ W, Bw w W → aB3 W base (.slice o3 n3 c3) n3 fs) := fun W h => h3.below h
 have c9 : Hid (xs.length = n1) := h1.1;have b6 : Hid (ys.length = n2) := h2.1;have d6 := hid hs1;have d7 := hid hs2;have d8 := hid hs3;have d9 := hid hp;have HX := hid hx;have HG := hid hg;obtain ⟨vl, d0⟩ := exq (bD1 fs);have b9 : Hid (bD1 fs = vl) := d0.symm;clear h1 h2 h3 hs1 hs2 hs3 hp hx hg d0;have K0 := jnil w;go_enter func34, ntmps34;go_upto_region 1 with fail
 obtain ⟨q1, c0⟩ := exq (w.heap.size);obtain ⟨w1, b1⟩ := exq (w.alloc (.cells #[.string p, .slice o1 n1 c1, .slice o2 n2 c2, .int .i64 st, .slice o3 n3 c3, .string b, .int .i64 t] 51));have c4 := c0.symm;rw [← b1]; try rw [← c0];have hs1 := hsa b1 c4;have bw := bal b1;have K1 := ja K0 b1 c4;clear bw b1 c4 K0;clear hs1 c0;go_upto_region 1 with fail
 refine wp_region_held_drew (S := fun W => W.heap[q1]? = some (.cells #[.string p, .slice o1 n1 c1, .slice o2 n2 c2, .int .i64 st, .slice o3 n3 c3, .string b, .int .i64 t] 51)) (by kernel_rfl) (jb K1 0 rfl) (fun _ => ?_)
 obtain ⟨w2, hX⟩ := exq w1.drew;have bw := bdr hX;rw [← hX];have K2 := jw K1 bw;have c5 := (jb K2 0 rfl);clear bw hX K1;refine tkP 0 (.pointer (some ⟨q1, 3, none⟩)) 4 rfl rfl c5 ?_;go_frame;refine tkL 1 (.agg #[.int .i64 st, .slice o3 n3 c3, .string b]) 5 rfl rfl (Or.inl ⟨by rfl, by intro W hW; have a4 := hW; have y3 := c7c a4; go_simp⟩) c5 ?_;go_frame;refine rd1 2 rfl (fun K hK => ?_)
 go_simp;refine (bJ1 st _ b n3 base fs _ (c8.out _ K2.hb) (by omega) d8.out HX.out).mono ?_;rintro e w3 ⟨u1, rfl, a6, bw⟩;have K3 := jw K2 bw;clear bw K2;have a0 := (jb K3 0 rfl);refine hK.out _ _ a0 (fun _ => ?_)
 clear hK K c5;cases u1
 ·have HF : Hid (¬ ObjP p xs ys st fs b t) := fun h => nomatch a6.2 h.1
  clear a6;refine tkP 3 (.bool true) 7 rfl rfl a0 (tkP 4 (.bool true) 8 rfl rfl a0 (tkN 5 9 rfl rfl a0 ?_));go_frame;refine tkN 6 10 rfl rfl a0 (tkN 7 11 rfl rfl a0 (tkN 8 12 rfl rfl a0 ?_));go_frame;refine tkP 9 (.bool true) 13 rfl rfl a0 (tkP 10 (.bool true) 14 rfl rfl a0 (tkN 11 15 rfl rfl a0 ?_));go_frame;refine tkN 12 16 rfl rfl a0 (tkN 13 17 rfl rfl a0 (tkN 14 18 rfl rfl a0 ?_));go_frame;refine tkP 15 (.bool true) 19 rfl rfl a0 (tkP 16 (.bool true) 20 rfl rfl a0 (tkN 17 21 rfl rfl a0 ?_));go_frame;refine tkN 18 22 rfl rfl a0 (tkN 19 23 rfl rfl a0 (tkN 20 24 rfl rfl a0 ?_));go_frame;refine tkP 21 (.bool true) 25 rfl rfl a0 (tkP 22 (.bool true) 26 rfl rfl a0 (tkN 23 27 rfl rfl a0 ?_));go_frame;refine tkN 24 28 rfl rfl a0 (tkN 25 29 rfl rfl a0 (tkN 26 30 rfl rfl a0 ?_));go_frame;refine tkN 27 31 rfl rfl a0 (tkN 28 32 rfl rfl a0 (tkN 29 33 rfl rfl a0 ?_));go_frame;refine tkN 30 34 rfl rfl a0 (tkP 31 (.bool true) 35 rfl rfl a0 (tkP 32 (.bool true) 36 rfl rfl a0 ?_));go_frame;refine tkN 33 37 rfl rfl a0 (tkN 34 38 rfl rfl a0 (tkN 35 39 rfl rfl a0 ?_));go_frame;refine tkN 36 40 rfl rfl a0 (tkN 37 41 rfl rfl a0 (tkN 38 42 rfl rfl a0 ?_));go_frame;refine tkN 39 43 rfl rfl a0 (tkP 40 (.bool true) 44 rfl rfl a0 ?_);go_frame;clear a0;refine wdn ?_;go_wp2_with fail
  go_ret;exact aA4.no HF.out K3.hb
 have HR : Hid (aX7 st fs b) := a6.1 rfl;clear a6;refine tkP 3 (.bool false) 7 rfl rfl a0 (tkP 4 (.bool false) 8 rfl rfl a0 (tkP 5 (.pointer (some ⟨q1, 0, none⟩)) 9 rfl rfl a0 ?_));go_frame;refine tkL 6 (.string p) 10 rfl rfl (Or.inl ⟨by rfl, by intro W hW; have a4 := hW; have y0 := c7c a4; go_simp⟩) a0 ?_;go_frame;refine rd1 7 rfl (fun K hK => ?_)
 go_simp;refine (bA5 p _ d9.out).mono ?_;rintro e w4 ⟨u2, rfl, a7, bw⟩;have K4 := jw K3 bw;clear bw K3;have a1 := (jb K4 0 rfl);refine hK.out _ _ a1 (fun _ => ?_)
 clear hK K a0;cases u2
 ·have HF : Hid (¬ ObjP p xs ys st fs b t) := fun h => nomatch a7.2 h.2.1
  clear a7;refine tkP 8 (.bool true) 12 rfl rfl a1 (tkP 9 (.bool true) 13 rfl rfl a1 (tkP 10 (.bool true) 14 rfl rfl a1 ?_));go_frame;refine tkN 11 15 rfl rfl a1 (tkN 12 16 rfl rfl a1 (tkN 13 17 rfl rfl a1 ?_));go_frame;refine tkN 14 18 rfl rfl a1 (tkP 15 (.bool true) 19 rfl rfl a1 (tkP 16 (.bool true) 20 rfl rfl a1 ?_));go_frame;refine tkN 17 21 rfl rfl a1 (tkN 18 22 rfl rfl a1 (tkN 19 23 rfl rfl a1 ?_));go_frame;refine tkN 20 24 rfl rfl a1 (tkP 21 (.bool true) 25 rfl rfl a1 (tkP 22 (.bool true) 26 rfl rfl a1 ?_));go_frame;refine tkN 23 27 rfl rfl a1 (tkN 24 28 rfl rfl a1 (tkN 25 29 rfl rfl a1 ?_));go_frame;refine tkN 26 30 rfl rfl a1 (tkN 27 31 rfl rfl a1 (tkN 28 32 rfl rfl a1 ?_));go_frame;refine tkN 29 33 rfl rfl a1 (tkN 30 34 rfl rfl a1 (tkP 31 (.bool true) 35 rfl rfl a1 ?_));go_frame;refine tkP 32 (.bool true) 36 rfl rfl a1 (tkN 33 37 rfl rfl a1 (tkN 34 38 rfl rfl a1 ?_));go_frame;refine tkN 35 39 rfl rfl a1 (tkN 36 40 rfl rfl a1 (tkN 37 41 rfl rfl a1 ?_));go_frame;refine tkN 38 42 rfl rfl a1 (tkN 39 43 rfl rfl a1 (tkP 40 (.bool true) 44 rfl rfl a1 ?_));go_frame;clear a1;refine wdn ?_;go_wp2_with fail
  go_ret;exact aA4.no HF.out K4.hb
 have HP : Hid (aH2 p) := a7.1 rfl;clear a7;refine tkP 8 (.bool false) 12 rfl rfl a1 (tkP 9 (.bool false) 13 rfl rfl a1 (tkP 10 (.bool false) 14 rfl rfl a1 ?_));go_frame;refine tkP 11 (.pointer (some ⟨q1, 6, none⟩)) 15 rfl rfl a1 ?_;go_frame;refine tkL 12 (.int .i64 t) 16 rfl rfl (Or.inl ⟨by rfl, by intro W hW; have a4 := hW; have y6 := c7c a4; go_simp⟩) a1 ?_;go_frame;refine rd1 13 rfl (fun K hK => ?_)
 go_simp;refine (aH6 t 0 1000000 _).mono ?_;rintro e w5 ⟨rfl, d1⟩;have bw : Below w4.heap.size (w4) w5 := by rw [d1]; exact Below.refl _ _
 clear d1;obtain ⟨u3, b2⟩ : ∃ u3, u3 = decide ((0 : Int) ≤ t ∧ t ≤ 1000000) := ⟨_, rfl⟩;rw [← b2];have K5 := jw K4 bw;clear bw K4;have a2 := (jb K5 0 rfl);refine hK.out _ _ a2 (fun _ => ?_)
 clear hK K a1;cases u3
 ·have HF : Hid (¬ ObjP p xs ys st fs b t) := fun h => absurd h.2.2.1 (of_decide_eq_false b2.symm)
  clear b2;refine tkP 14 (.bool true) 18 rfl rfl a2 (tkP 15 (.bool true) 19 rfl rfl a2 (tkP 16 (.bool true) 20 rfl rfl a2 ?_));go_frame;refine tkN 17 21 rfl rfl a2 (tkN 18 22 rfl rfl a2 (tkN 19 23 rfl rfl a2 ?_));go_frame;refine tkN 20 24 rfl rfl a2 (tkP 21 (.bool true) 25 rfl rfl a2 (tkP 22 (.bool true) 26 rfl rfl a2 ?_));go_frame;refine tkN 23 27 rfl rfl a2 (tkN 24 28 rfl rfl a2 (tkN 25 29 rfl rfl a2 ?_));go_frame;refine tkN 26 30 rfl rfl a2 (tkN 27 31 rfl rfl a2 (tkN 28 32 rfl rfl a2 ?_));go_frame;refine tkN 29 33 rfl rfl a2 (tkN 30 34 rfl rfl a2 (tkP 31 (.bool true) 35 rfl rfl a2 ?_));go_frame;refine tkP 32 (.bool true) 36 rfl rfl a2 (tkN 33 37 rfl rfl a2 (tkN 34 38 rfl rfl a2 ?_));go_frame;refine tkN 35 39 rfl rfl a2 (tkN 36 40 rfl rfl a2 (tkN 37 41 rfl rfl a2 ?_));go_frame;refine tkN 38 42 rfl rfl a2 (tkN 39 43 rfl rfl a2 (tkP 40 (.bool true) 44 rfl rfl a2 ?_));go_frame;clear a2;refine wdn ?_;go_wp2_with fail
  go_ret;exact aA4.no HF.out K5.hb
 have HT : Hid (0 ≤ t ∧ t ≤ 1000000) := (show 0 ≤ t ∧ t ≤ 1000000 from of_decide_eq_true b2.symm);clear b2;refine tkP 14 (.bool false) 18 rfl rfl a2 (tkP 15 (.bool false) 19 rfl rfl a2 (tkP 16 (.bool false) 20 rfl rfl a2 ?_));go_frame;refine tkP 17 (.pointer (some ⟨q1, 1, none⟩)) 21 rfl rfl a2 ?_;go_frame;refine tkL 18 (.slice o1 n1 c1) 22 rfl rfl (Or.inl ⟨by rfl, by intro W hW; have a4 := hW; have y1 := c7c a4; go_simp⟩) a2 ?_;go_frame;refine rd1 19 rfl (fun K hK => ?_)
 go_simp;refine (bX2 _ _ _ xs _ (c7.out _ K5.hb) (by omega) d6.out).mono ?_;rintro e w6 ⟨u4, rfl, a8, bw⟩;have K6 := jw K5 bw;clear bw K5;have a3 := (jb K6 0 rfl);refine hK.out _ _ a3 (fun _ => ?_)
 clear hK K a2;cases u4
 ·have HF : Hid (¬ ObjP p xs ys st fs b t) := fun h => nomatch a8.2 h.2.2.2.1
  clear a8;refine tkP 20 (.bool true) 24 rfl rfl a3 (tkP 21 (.bool true) 25 rfl rfl a3 (tkP 22 (.bool true) 26 rfl rfl a3 ?_));go_frame;refine tkN 23 27 rfl rfl a3 (tkN 24 28 rfl rfl a3 (tkN 25 29 rfl rfl a3 ?_));go_frame;refine tkN 26 30 rfl rfl a3 (tkN 27 31 rfl rfl a3 (tkN 28 32 rfl rfl a3 ?_));go_frame;refine tkN 29 33 rfl rfl a3 (tkN 30 34 rfl rfl a3 (tkP 31 (.bool true) 35 rfl rfl a3 ?_));go_frame;refine tkP 32 (.bool true) 36 rfl rfl a3 (tkN 33 37 rfl rfl a3 (tkN 34 38 rfl rfl a3 ?_));go_frame;refine tkN 35 39 rfl rfl a3 (tkN 36 40 rfl rfl a3 (tkN 37 41 rfl rfl a3 ?_));go_frame;refine tkN 38 42 rfl rfl a3 (tkN 39 43 rfl rfl a3 (tkP 40 (.bool true) 44 rfl rfl a3 ?_));go_frame;clear a3;refine wdn ?_;go_wp2_with fail
  go_ret;exact aA4.no HF.out K6.hb
 have e0 : Hid (aX1 xs) := a8.1 rfl;clear a8;refine tkP 20 (.bool false) 24 rfl rfl a3 (tkP 21 (.bool false) 25 rfl rfl a3 (tkP 22 (.bool false) 26 rfl rfl a3 ?_));go_frame;refine tkP 23 (.pointer (some ⟨q1, 1, none⟩)) 27 rfl rfl a3 ?_;go_frame;refine tkL 24 (.slice o1 n1 c1) 28 rfl rfl (Or.inl ⟨by rfl, by intro W hW; have a4 := hW; have y1 := c7c a4; go_simp⟩) a3 ?_;go_frame;refine tkP 25 (.pointer (some ⟨q1, 3, none⟩)) 29 rfl rfl a3 (tkP 26 (.pointer (some ⟨q1, 4, none⟩)) 30 rfl rfl a3 ?_);go_frame;refine tkL 27 (.slice o3 n3 c3) 31 rfl rfl (Or.inl ⟨by rfl, by intro W hW; have a4 := hW; have y4 := c7c a4; go_simp⟩) a3 ?_;go_frame;refine rd1 28 rfl (fun K hK => ?_)
 go_simp;refine (bJ2 _ n3 base fs _ (c8.out _ K6.hb) (by omega) HG.out).mono ?_;rintro e w7 ⟨vv, rfl, a9, bw⟩;obtain ⟨oY, pY, rfl⟩ := aA0 a9;rw [b9.out] at a9 ⊢;have K7 := jj K6 (jcR (jN bw) a9 jhn);clear a9;clear bw K6;have d2 := (jb K7 1 rfl);refine hK.out _ _ d2 (fun _ => ?_)
 clear hK K a3;refine rd1 29 rfl (fun K hK => ?_)
 go_simp;refine (bX1 _ _ _ _ _ _ xs vl _ (c7.out _ K7.hb) (aF1 (jo K7 0 rfl)) (by omega)).mono ?_;rintro e w8 ⟨rfl, bw⟩;obtain ⟨u5, b3⟩ := exq (decide (xs = vl));rw [← b3];have K8 := jw K7 bw;clear bw K7;have a5 := (jb K8 1 rfl);refine hK.out _ _ a5 (fun _ => ?_)
 clear hK K d2;cases u5
 ·have HF : Hid (¬ ObjP p xs ys st fs b t) := fun h => absurd (h.2.2.2.2.1.trans b9.out) (of_decide_eq_false b3.symm)
  clear b3;refine tkP 30 (.bool true) 34 rfl rfl a5 (tkP 31 (.bool true) 35 rfl rfl a5 (tkP 32 (.bool true) 36 rfl rfl a5 ?_));go_frame;refine tkN 33 37 rfl rfl a5 (tkN 34 38 rfl rfl a5 (tkN 35 39 rfl rfl a5 ?_));go_frame;refine tkN 36 40 rfl rfl a5 (tkN 37 41 rfl rfl a5 (tkN 38 42 rfl rfl a5 ?_));go_frame;refine tkN 39 43 rfl rfl a5 (tkP 40 (.bool true) 44 rfl rfl a5 ?_);go_frame;clear a5;refine wdn ?_;go_wp2_with fail
  go_ret;exact aA4.no HF.out K8.hb
 have HE : Hid (xs = vl) := (show xs = vl from of_decide_eq_true b3.symm);clear b3;refine tkP 30 (.bool false) 34 rfl rfl a5 (tkP 31 (.bool false) 35 rfl rfl a5 (tkP 32 (.bool false) 36 rfl rfl a5 ?_));go_frame;refine tkP 33 (.pointer (some ⟨q1, 2, none⟩)) 37 rfl rfl a5 ?_;go_frame;refine tkL 34 (.slice o2 n2 c2) 38 rfl rfl (Or.inl ⟨by rfl, by intro W hW; have a4 := hW; have y2 := c7c a4; go_simp⟩) a5 ?_;go_frame;refine tkP 35 (.int .i64 (n2 : Int)) 39 rfl rfl a5 (tkP 36 (.pointer (some ⟨q1, 1, none⟩)) 40 rfl rfl a5 ?_);go_frame;refine tkL 37 (.slice o1 n1 c1) 41 rfl rfl (Or.inl ⟨by rfl, by intro W hW; have a4 := hW; have y1 := c7c a4; go_simp⟩) a5 ?_;go_frame;refine tkP 38 (.int .i64 (n1 : Int)) 42 rfl rfl a5 ?_;go_frame;by_cases hc1 : (n2 : Int) = (n1 : Int)
 rotate_left
 ·have b4 : ((n2 : Int) == (n1 : Int)) = false := by simpa using hc1
  have b5 : ((n2 : Int) != (n1 : Int)) = true := by simpa using hc1
  have HF : Hid (¬ ObjP p xs ys st fs b t) := fun h => by have h1 := h.2.2.2.2.2.1; have h2 := c9.out; have h3 := b6.out; omega
  have b0 := hid hc1;clear hc1;refine tkP 39 (.bool true) 43 rfl rfl a5 (tkP 40 (.bool true) 44 rfl rfl a5 ?_);go_frame;clear a5;refine wdn ?_;go_wp2_with fail
  go_ret;exact aA4.no HF.out K8.hb
 have b4 : ((n2 : Int) == (n1 : Int)) = true := by simpa using hc1
 have b5 : ((n2 : Int) != (n1 : Int)) = false := by simpa using hc1
 have b0 := hid hc1;clear hc1;refine tkP 39 (.bool false) 43 rfl rfl a5 (tkP 40 (.bool false) 44 rfl rfl a5 ?_);go_frame;clear a5;refine wdn ?_;clear b4 b5;have e1 := b0;clear b0;have HQ : Hid ((∀ y ∈ ys, aL1 y) ↔ ObjP p xs ys st fs b t) := ⟨fun h => ⟨HR.out, HP.out, HT.out, e0.out, HE.out.trans b9.out.symm, by have h1 := c9.out; have h2 := b6.out; have h3 := e1.out; omega, h⟩, fun h => h.2.2.2.2.2.2⟩
 go_wp2_with fail
 go_loopw [3] (fun i wr => ∃ j : Nat, j ≤ n2 ∧ i = .int .i64 (j : Int) ∧ Hid (Bw w wr ∧ wr.heap[q1]? = some (.cells #[.string p, .slice o1 n1 c1, .slice o2 n2 c2, .int .i64 st, .slice o3 n3 c3, .string b, .int .i64 t] 51)) ∧ Hid (∀ x ∈ ys.take j, aL1 x)) (fun i _ => n2 - (intOf i).toNat)
 case atStart => exact ⟨0, Nat.zero_le _, rfl, ⟨K8.hb, (jb K8 1 rfl)⟩, fun x hx => by simp at hx⟩
 case round =>
  obtain ⟨j, hj, rfl, HW, HN⟩ := hrel;have e2 : wr.cell? ⟨q1, 2, none⟩ = some (.slice o2 n2 c2) := (aB0 HW.out.2 2).trans rfl;by_cases hlt : (j : Int) < (n2 : Int)
  rotate_left
  ·have HA : Hid (ObjP p xs ys st fs b t) := HQ.out.1 (by
    have h := HN.out
    rw [List.take_of_length_le (by rw [b6.out]; omega)] at h
    exact h)
   clear HN;go_wp2_with fail
   go_ret;exact ⟨true, rfl, ⟨fun _ => HA.out, fun _ => rfl⟩, HW.out.1⟩
  have c6 : j < ys.length := by rw [b6.out]; omega
  obtain ⟨g, e3, hg, hc⟩ := (d5.out wr HW.out.1).2 j (by omega);subst e3;have hs := d7.out j (by omega);obtain ⟨x, b7⟩ := exq (aA8 ys j);rw [← b7] at hc hs;have HM : Hid (x ∈ ys) := by show _ ∈ _; rw [b7]; exact aW3 ys j c6
  have e4 : Hid (ys.take (j + 1) = ys.take j ++ [x]) := by show _ = _; rw [aL6 ys j c6, b7]
  clear b7 c6;go_wp2_with fail
  refine (aO4 x _ hs).mono ?_;rintro e d3 ⟨tx, rfl, b8, bw⟩;have d4 : Hid (Bw w d3 ∧ d3.heap[q1]? = some (.cells #[.string p, .slice o1 n1 c1, .slice (some ⟨g, 0, none⟩) n2 c2, .int .i64 st, .slice o3 n3 c3, .string b, .int .i64 t] 51)) := ⟨HW.out.1.trans (bw.mono HW.out.1.size), aA3 HW.out.2 bw⟩;clear bw e2 hc HW;cases tx
  ·have HF : Hid (¬ ObjP p xs ys st fs b t) := fun h => nomatch b8.2 (HQ.out.2 h x HM.out)
   clear b8 HN;go_wp2_with fail
   go_ret;exact aA4.no HF.out d4.out.1
  have e5 : Hid (∀ y ∈ ys.take (j + 1), aL1 y) := by
   intro y hy
   rw [e4.out] at hy
   rcases List.mem_append.1 hy with hy | hy
   ·exact HN.out y hy
   ·rw [List.mem_singleton.1 hy]; exact b8.1 rfl
  clear b8 HN;go_wp2_with fail
  go_roundw
  case rel => exact ⟨j + 1, by omega, by go_num, d4, e5⟩
  case measure => simp [intOf]; omega
theorem bS6 (k : Int) (a b : Tx) (t : Int) (p : Tx) (o1 : Oa) (n1 c1 : Nat) (xs : Ts) (o2 : Oa) (n2 c2 : Nat) (ys : Ts) (st : Int) (v3 : Value) (n3 base : Nat) (fs : Fs) (d : Tx) (u : Int) (w : World) (ha : a.size ≤ maxLen) (hb : b.size ≤ maxLen) (h1 : aC4 w o1 n1 xs) (h2 : aC4 w o2 n2 ys) (h3 : aB3 w base v3 n3 fs) (hn1 : n1 ≤ 2000000) (hn2 : n2 ≤ 2000000) (hn3 : n3 ≤ 2000000) (hs1 : ∀ i, i < n1 → (aA8 xs i).size ≤ maxLen) (hs2 : ∀ i, i < n2 → (aA8 ys i).size ≤ maxLen) (hs3 : aP6 n3 fs) (hp : p.size ≤ maxLen) (hx : d.size ≤ maxLen) (hg : (getV fs aF0).size ≤ 1048576) :
    Calls prog 98 #[.agg #[.int .i64 k, .string a, .string b, .int .i64 t], .agg #[.string p, .slice o1 n1 c1, .slice o2 n2 c2, .int .i64 st, v3, .string d, .int .i64 u]] w fun e w' => aA4 (HitP k a b t p xs ys st fs d u) w e w' := by
  obtain ⟨o3, c3, rfl, _⟩ := h3.slice;have f7 : Hid (∀ W, Bw w W → aC4 W o1 n1 xs) := fun W h => h1.below h
  have f8 : Hid (∀ W, Bw w W → aC4 W o2 n2 ys) := fun W h => h2.below h
  have f5 : Hid (∀ W, Bw w W → aB3 W base (.slice o3 n3 c3) n3 fs) := fun W h => h3.below h
  have f9 := hid hs1;have g0 := hid hs2;have g1 := hid hs3;have g2 := hid hp;have HX := hid hx;have HG := hid hg;have g3 := hid ha;have g4 := hid hb;clear h1 h2 h3 hs1 hs2 hs3 hp hx hg ha hb;have K0 := jnil w;go_enter func98, ntmps98;go_upto_region 1 with fail
  obtain ⟨q1, d5⟩ := exq (w.heap.size);obtain ⟨w1, c5⟩ := exq (w.alloc (.cells #[.int .i64 k, .string a, .string b, .int .i64 t] 62));have d6 := d5.symm;rw [← c5]; try rw [← d5];have hs1 := hsa c5 d6;have bw := bal c5;have K1 := ja K0 c5 d6;clear bw c5 d6 K0;obtain ⟨q2, d7⟩ := exq (q1 + 1);obtain ⟨w2, c6⟩ := exq (w1.alloc (.cells #[.string p, .slice o1 n1 c1, .slice o2 n2 c2, .int .i64 st, .slice o3 n3 c3, .string d, .int .i64 u] 51));have d8 : w1.heap.size = q2 := by rw [d7]; exact hs1
  rw [← c6]; try rw [← d7];have hs2 := hsa c6 d8;have bw := bal c6;have K2 := ja K1 c6 d8;clear bw c6 d8 K1;clear hs2 d7 hs1 d5;have b6 := c4c (jb K2 1 rfl);go_wp2_with fail
  refine (aN4 k a b t _ g3.out g4.out).mono ?_;rintro e w3 ⟨ub, rfl, b7, bw⟩;have K3 := jw K2 bw;clear bw K2;clear b6;cases ub
  ·have b3 : Hid (¬ BanP k a b t) := fun h => nomatch b7.2 h
   clear b7;go_wp2_with fail
   go_ret;refine ⟨false, rfl, ?_, K3.hb⟩;have a0 := b3.out;constructor
   ·intro h
    first
      | (cases h; done)
      | exact ⟨a0, a1, by omega, .inl ⟨a8, a4⟩⟩
      | exact ⟨a0, a1, by omega, .inr (.inl ⟨a9, (aB6 a p).2 ⟨by omega, a5⟩⟩)⟩
      | exact ⟨a0, a1, by omega, .inr (.inr ⟨by have := a0.kinds; omega, a2, a3.trans a6⟩)⟩
   intro h
   first
     | rfl
     | (exfalso
        obtain ⟨h1, h2, h3, h4⟩ := h
        first
          | exact a0 h1
          | exact a1 h2
          | omega
          | (rcases h4 with ⟨e1, e2⟩ | ⟨e1, e2⟩ | ⟨e1, e2, e3⟩
             all_goals first
               | omega
               | exact a4 e2
               | exact a5 ((aB6 a p).1 e2).2
               | (have := ((aB6 a p).1 e2).1; omega)
               | exact a2 e2
               | exact a6 (a3.symm.trans e3)))
  have b3 : Hid (BanP k a b t) := b7.1 rfl;clear b7;have c7 := c7c (jb K3 0 rfl);go_wp2_with fail
  refine (aY8 p _ n1 _ xs _ n2 _ ys st _ n3 base fs d u _ (f7.out _ K3.hb) (f8.out _ K3.hb) (f5.out _ K3.hb) (by omega) (by omega) (by omega) f9.out g0.out g1.out g2.out HX.out HG.out).mono ?_;rintro e w4 ⟨uo, rfl, b8, bw⟩;have K4 := jw K3 bw;clear bw K3;clear c7;cases uo
  ·have b4 : Hid (¬ ObjP p xs ys st fs d u) := fun h => nomatch b8.2 h
   clear b8;go_wp2_with fail
   go_ret;refine ⟨false, rfl, ?_, K4.hb⟩;have a0 := b3.out;have a1 := b4.out;constructor
   ·intro h
    first
      | (cases h; done)
      | exact ⟨a0, a1, by omega, .inl ⟨a8, a4⟩⟩
      | exact ⟨a0, a1, by omega, .inr (.inl ⟨a9, (aB6 a p).2 ⟨by omega, a5⟩⟩)⟩
      | exact ⟨a0, a1, by omega, .inr (.inr ⟨by have := a0.kinds; omega, a2, a3.trans a6⟩)⟩
   intro h
   first
     | rfl
     | (exfalso
        obtain ⟨h1, h2, h3, h4⟩ := h
        first
          | exact a0 h1
          | exact a1 h2
          | omega
          | (rcases h4 with ⟨e1, e2⟩ | ⟨e1, e2⟩ | ⟨e1, e2, e3⟩
             all_goals first
               | omega
               | exact a4 e2
               | exact a5 ((aB6 a p).1 e2).2
               | (have := ((aB6 a p).1 e2).1; omega)
               | exact a2 e2
               | exact a6 (a3.symm.trans e3)))
  have b4 : Hid (ObjP p xs ys st fs d u) := b8.1 rfl;clear b8;have c8 := c4c (jb K4 1 rfl);have c9 := c7c (jb K4 0 rfl);by_cases hc1 : t < u
  ·have b5 : Hid (t < u) := hc1;go_wp2_with fail
   go_ret;refine ⟨false, rfl, ?_, K4.hb⟩;have a0 := b3.out;have a1 := b4.out;have b0 := b5.out;constructor
   ·intro h
    first
      | (cases h; done)
      | exact ⟨a0, a1, by omega, .inl ⟨a8, a4⟩⟩
      | exact ⟨a0, a1, by omega, .inr (.inl ⟨a9, (aB6 a p).2 ⟨by omega, a5⟩⟩)⟩
      | exact ⟨a0, a1, by omega, .inr (.inr ⟨by have := a0.kinds; omega, a2, a3.trans a6⟩)⟩
   intro h
   first
     | rfl
     | (exfalso
        obtain ⟨h1, h2, h3, h4⟩ := h
        first
          | exact a0 h1
          | exact a1 h2
          | omega
          | (rcases h4 with ⟨e1, e2⟩ | ⟨e1, e2⟩ | ⟨e1, e2, e3⟩
             all_goals first
               | omega
               | exact a4 e2
               | exact a5 ((aB6 a p).1 e2).2
               | (have := ((aB6 a p).1 e2).1; omega)
               | exact a2 e2
               | exact a6 (a3.symm.trans e3)))
  have b5 := hid hc1;have b6 := c4c (jb K4 1 rfl);by_cases hc2 : k = 1
  ·have d9 : ((k : Int) == (1 : Int)) = true := by simpa using hc2
   have e0 : ((k : Int) != (1 : Int)) = false := by simpa using hc2
   have b9 : Hid (k = 1) := hc2;have e4 : Hid (k = 1) := hc2;clear hc2;have d0 := c4c (jb K4 1 rfl);have c7 := c7c (jb K4 0 rfl);by_cases hc3 : p = a
   rotate_left
   ·have c0 : ((p).toList == (a).toList) = false := aG2 hc3;have e5 := hid hc3;go_wp2_with fail
    go_ret;refine ⟨false, rfl, ?_, K4.hb⟩;have a0 := b3.out;have a1 := b4.out;have b0 := b5.out;have a8 := b9.out;have a4 := e5.out;constructor
    ·intro h
     first
       | (cases h; done)
       | exact ⟨a0, a1, by omega, .inl ⟨a8, a4⟩⟩
       | exact ⟨a0, a1, by omega, .inr (.inl ⟨a9, (aB6 a p).2 ⟨by omega, a5⟩⟩)⟩
       | exact ⟨a0, a1, by omega, .inr (.inr ⟨by have := a0.kinds; omega, a2, a3.trans a6⟩)⟩
    intro h
    first
      | rfl
      | (exfalso
         obtain ⟨h1, h2, h3, h4⟩ := h
         first
           | exact a0 h1
           | exact a1 h2
           | omega
           | (rcases h4 with ⟨e1, e2⟩ | ⟨e1, e2⟩ | ⟨e1, e2, e3⟩
              all_goals first
                | omega
                | exact a4 e2
                | exact a5 ((aB6 a p).1 e2).2
                | (have := ((aB6 a p).1 e2).1; omega)
                | exact a2 e2
                | exact a6 (a3.symm.trans e3)))
   have c0 : ((p).toList == (a).toList) = true := (aI2 _ _).2 hc3;have e5 : Hid (p = a) := hc3;go_wp2_with fail
   go_ret;refine ⟨true, rfl, ?_, K4.hb⟩;have a0 := b3.out;have a1 := b4.out;have b0 := b5.out;have a8 := b9.out;have a4 := e5.out;constructor
   ·intro h
    first
      | (cases h; done)
      | exact ⟨a0, a1, by omega, .inl ⟨a8, a4⟩⟩
      | exact ⟨a0, a1, by omega, .inr (.inl ⟨a9, (aB6 a p).2 ⟨by omega, a5⟩⟩)⟩
      | exact ⟨a0, a1, by omega, .inr (.inr ⟨by have := a0.kinds; omega, a2, a3.trans a6⟩)⟩
   intro h
   first
     | rfl
     | (exfalso
        obtain ⟨h1, h2, h3, h4⟩ := h
        first
          | exact a0 h1
          | exact a1 h2
          | omega
          | (rcases h4 with ⟨e1, e2⟩ | ⟨e1, e2⟩ | ⟨e1, e2, e3⟩
             all_goals first
               | omega
               | exact a4 e2
               | exact a5 ((aB6 a p).1 e2).2
               | (have := ((aB6 a p).1 e2).1; omega)
               | exact a2 e2
               | exact a6 (a3.symm.trans e3)))
  have d9 : ((k : Int) == (1 : Int)) = false := by simpa using hc2
  have e0 : ((k : Int) != (1 : Int)) = true := by simpa using hc2
  have b9 := hid hc2;have e4 := hid hc2;clear hc2;by_cases hc3 : k = 2
  rotate_left
  ·have c0 : ((k : Int) == (2 : Int)) = false := by simpa using hc3
   have e6 : ((k : Int) != (2 : Int)) = true := by simpa using hc3
   have c4 := hid hc3;have e7 := hid hc3;clear hc3;have d0 := c4c (jb K4 1 rfl);have e8 := c7c (jb K4 0 rfl);go_wp2_with fail
   refine (bF3 _ n3 base fs a _ (f5.out _ K4.hb) (by omega)).mono ?_;rintro e w5 ⟨rfl, f6⟩;have bw : Below w4.heap.size (w4) w5 := by rw [f6]; exact Below.refl _ _
   clear f6;obtain ⟨gv, e9⟩ := exq (getV fs a);obtain ⟨ug, d1⟩ := exq (getB fs a);have f0 : Hid (getV fs a = gv) := e9.symm;rw [← e9, ← d1];clear e9;have K5 := jw K4 bw;clear bw K4;clear c8 c9 b6 d0 e8;cases ug
   ·have d3 : Hid (¬ getB fs a = true) := (by show ¬ _; rw [← d1]; decide);clear d1;go_wp2_with fail
    go_ret;refine ⟨false, rfl, ?_, K5.hb⟩;have a0 := b3.out;have a1 := b4.out;have b0 := b5.out;have a8 := b9.out;have a9 := c4.out;have a2 := d3.out;have a3 := f0.out;constructor
    ·intro h
     first
       | (cases h; done)
       | exact ⟨a0, a1, by omega, .inl ⟨a8, a4⟩⟩
       | exact ⟨a0, a1, by omega, .inr (.inl ⟨a9, (aB6 a p).2 ⟨by omega, a5⟩⟩)⟩
       | exact ⟨a0, a1, by omega, .inr (.inr ⟨by have := a0.kinds; omega, a2, a3.trans a6⟩)⟩
    intro h
    first
      | rfl
      | (exfalso
         obtain ⟨h1, h2, h3, h4⟩ := h
         first
           | exact a0 h1
           | exact a1 h2
           | omega
           | (rcases h4 with ⟨e1, e2⟩ | ⟨e1, e2⟩ | ⟨e1, e2, e3⟩
              all_goals first
                | omega
                | exact a4 e2
                | exact a5 ((aB6 a p).1 e2).2
                | (have := ((aB6 a p).1 e2).1; omega)
                | exact a2 e2
                | exact a6 (a3.symm.trans e3)))
   have d3 : Hid (getB fs a = true) := d1.symm;clear d1;have g5 := c4c (jb K5 1 rfl);by_cases hc4 : gv = b
   rotate_left
   ·have f1 : ((gv).toList == (b).toList) = false := aG2 hc4;have f2 := hid hc4;go_wp2_with fail
    go_ret;refine ⟨false, rfl, ?_, K5.hb⟩;have a0 := b3.out;have a1 := b4.out;have b0 := b5.out;have a8 := b9.out;have a9 := c4.out;have a2 := d3.out;have a3 := f0.out;have a6 := f2.out;constructor
    ·intro h
     first
       | (cases h; done)
       | exact ⟨a0, a1, by omega, .inl ⟨a8, a4⟩⟩
       | exact ⟨a0, a1, by omega, .inr (.inl ⟨a9, (aB6 a p).2 ⟨by omega, a5⟩⟩)⟩
       | exact ⟨a0, a1, by omega, .inr (.inr ⟨by have := a0.kinds; omega, a2, a3.trans a6⟩)⟩
    intro h
    first
      | rfl
      | (exfalso
         obtain ⟨h1, h2, h3, h4⟩ := h
         first
           | exact a0 h1
           | exact a1 h2
           | omega
           | (rcases h4 with ⟨e1, e2⟩ | ⟨e1, e2⟩ | ⟨e1, e2, e3⟩
              all_goals first
                | omega
                | exact a4 e2
                | exact a5 ((aB6 a p).1 e2).2
                | (have := ((aB6 a p).1 e2).1; omega)
                | exact a2 e2
                | exact a6 (a3.symm.trans e3)))
   have f1 : ((gv).toList == (b).toList) = true := (aI2 _ _).2 hc4;have f2 : Hid (gv = b) := hc4;go_wp2_with fail
   go_ret;refine ⟨true, rfl, ?_, K5.hb⟩;have a0 := b3.out;have a1 := b4.out;have b0 := b5.out;have a8 := b9.out;have a9 := c4.out;have a2 := d3.out;have a3 := f0.out;have a6 := f2.out;constructor
   ·intro h
    first
      | (cases h; done)
      | exact ⟨a0, a1, by omega, .inl ⟨a8, a4⟩⟩
      | exact ⟨a0, a1, by omega, .inr (.inl ⟨a9, (aB6 a p).2 ⟨by omega, a5⟩⟩)⟩
      | exact ⟨a0, a1, by omega, .inr (.inr ⟨by have := a0.kinds; omega, a2, a3.trans a6⟩)⟩
   intro h
   first
     | rfl
     | (exfalso
        obtain ⟨h1, h2, h3, h4⟩ := h
        first
          | exact a0 h1
          | exact a1 h2
          | omega
          | (rcases h4 with ⟨e1, e2⟩ | ⟨e1, e2⟩ | ⟨e1, e2, e3⟩
             all_goals first
               | omega
               | exact a4 e2
               | exact a5 ((aB6 a p).1 e2).2
               | (have := ((aB6 a p).1 e2).1; omega)
               | exact a2 e2
               | exact a6 (a3.symm.trans e3)))
  have c0 : ((k : Int) == (2 : Int)) = true := by simpa using hc3
  have e6 : ((k : Int) != (2 : Int)) = false := by simpa using hc3
  have c4 : Hid (k = 2) := hc3;have e7 : Hid (k = 2) := hc3;clear hc3;go_upto_region 7 with fail
  clear c8 c9 b6;refine wp_region_held_drew (S := fun W => W.heap[q2]? = some (.cells #[.string p, .slice o1 n1 c1, .slice o2 n2 c2, .int .i64 st, .slice o3 n3 c3, .string d, .int .i64 u] 51) ∧ W.heap[q1]? = some (.cells #[.int .i64 k, .string a, .string b, .int .i64 t] 62)) (by kernel_rfl) ⟨(jb K4 0 rfl), (jb K4 1 rfl)⟩ (fun _ => ?_)
  obtain ⟨w5, hX⟩ := exq w4.drew;have bw := bdr hX;rw [← hX];have K5 := jw K4 bw;have a7 := And.intro (jb K5 0 rfl) (jb K5 1 rfl);clear bw hX K4;refine tkP 0 (.pointer (some ⟨q2, 0, none⟩)) 33 rfl rfl a7 ?_;go_frame;refine tkL 1 (.string p) 34 rfl rfl (Or.inl ⟨by rfl, by intro W hW; obtain ⟨b2, b1⟩ := hW; have y0 := c7c b2; go_simp⟩) a7 ?_;go_frame;refine tkP 2 (.int .i64 (p.size : Int)) 35 rfl rfl a7 (tkP 3 (.pointer (some ⟨q1, 1, none⟩)) 36 rfl rfl a7 ?_);go_frame;refine tkL 4 (.string a) 37 rfl rfl (Or.inl ⟨by rfl, by intro W hW; obtain ⟨b2, b1⟩ := hW; have y1 := c4c b1; go_simp⟩) a7 ?_;go_frame;refine tkP 5 (.int .i64 (a.size : Int)) 38 rfl rfl a7 ?_;go_frame;by_cases hc4 : (a.size : Int) ≤ (p.size : Int)
  rotate_left
  ·have d4 := hid hc4;refine tkP 6 (.bool false) 39 rfl rfl a7 (tkP 7 (.bool false) 40 rfl rfl a7 (tkN 8 41 rfl rfl a7 ?_));go_frame;refine tkN 9 42 rfl rfl a7 (tkN 10 43 rfl rfl a7 (tkN 11 44 rfl rfl a7 ?_));go_frame;refine tkN 12 45 rfl rfl a7 (tkN 13 46 rfl rfl a7 (tkN 14 47 rfl rfl a7 ?_));go_frame;refine tkN 15 48 rfl rfl a7 (tkN 16 49 rfl rfl a7 (tkP 17 (.bool false) 50 rfl rfl a7 ?_));go_frame;refine tkP 18 (.bool false) 4 rfl rfl a7 ?_;go_frame;clear a7;refine wdn ?_;go_wp2_with fail
   go_ret;refine ⟨false, rfl, ?_, K5.hb⟩;have a0 := b3.out;have a1 := b4.out;have b0 := b5.out;have a8 := b9.out;have a9 := c4.out;have d2 := d4.out;constructor
   ·intro h
    first
      | (cases h; done)
      | exact ⟨a0, a1, by omega, .inl ⟨a8, a4⟩⟩
      | exact ⟨a0, a1, by omega, .inr (.inl ⟨a9, (aB6 a p).2 ⟨by omega, a5⟩⟩)⟩
      | exact ⟨a0, a1, by omega, .inr (.inr ⟨by have := a0.kinds; omega, a2, a3.trans a6⟩)⟩
   intro h
   first
     | rfl
     | (exfalso
        obtain ⟨h1, h2, h3, h4⟩ := h
        first
          | exact a0 h1
          | exact a1 h2
          | omega
          | (rcases h4 with ⟨e1, e2⟩ | ⟨e1, e2⟩ | ⟨e1, e2, e3⟩
             all_goals first
               | omega
               | exact a4 e2
               | exact a5 ((aB6 a p).1 e2).2
               | (have := ((aB6 a p).1 e2).1; omega)
               | exact a2 e2
               | exact a6 (a3.symm.trans e3)))
  have d4 := hid hc4;refine tkP 6 (.bool true) 39 rfl rfl a7 (tkP 7 (.bool true) 40 rfl rfl a7 (tkP 8 (.pointer (some ⟨q2, 0, none⟩)) 41 rfl rfl a7 ?_));go_frame;refine tkL 9 (.string p) 42 rfl rfl (Or.inl ⟨by rfl, by intro W hW; obtain ⟨b2, b1⟩ := hW; have y0 := c7c b2; go_simp⟩) a7 ?_;go_frame;refine tkP 10 (.pointer (some ⟨q1, 1, none⟩)) 43 rfl rfl a7 ?_;go_frame;refine tkL 11 (.string a) 44 rfl rfl (Or.inl ⟨by rfl, by intro W hW; obtain ⟨b2, b1⟩ := hW; have y1 := c4c b1; go_simp⟩) a7 ?_;go_frame;refine tkP 12 (.int .i64 (a.size : Int)) 45 rfl rfl a7 (tkP 13 (.string (p.extract 0 a.size)) 46 rfl rfl a7 (tkP 14 (.pointer (some ⟨q1, 1, none⟩)) 47 rfl rfl a7 ?_));go_frame;refine tkL 15 (.string a) 48 rfl rfl (Or.inl ⟨by rfl, by intro W hW; obtain ⟨b2, b1⟩ := hW; have y1 := c4c b1; go_simp⟩) a7 ?_;go_frame;by_cases hc5 : (p.extract 0 a.size) = a
  ·have f3 : (((p.extract 0 a.size)).toList == (a).toList) = true := (aI2 _ _).2 hc5;have f4 := hid hc5;refine tkP 16 (.bool true) 49 rfl rfl a7 (tkP 17 (.bool true) 50 rfl rfl a7 (tkP 18 (.bool true) 4 rfl rfl a7 ?_));go_frame;clear a7;refine wdn ?_;go_wp2_with fail
   go_ret;refine ⟨true, rfl, ?_, K5.hb⟩;have a0 := b3.out;have a1 := b4.out;have b0 := b5.out;have a8 := b9.out;have a9 := c4.out;have d2 := d4.out;have a5 := f4.out;constructor
   ·intro h
    first
      | (cases h; done)
      | exact ⟨a0, a1, by omega, .inl ⟨a8, a4⟩⟩
      | exact ⟨a0, a1, by omega, .inr (.inl ⟨a9, (aB6 a p).2 ⟨by omega, a5⟩⟩)⟩
      | exact ⟨a0, a1, by omega, .inr (.inr ⟨by have := a0.kinds; omega, a2, a3.trans a6⟩)⟩
   intro h
   first
     | rfl
     | (exfalso
        obtain ⟨h1, h2, h3, h4⟩ := h
        first
          | exact a0 h1
          | exact a1 h2
          | omega
          | (rcases h4 with ⟨e1, e2⟩ | ⟨e1, e2⟩ | ⟨e1, e2, e3⟩
             all_goals first
               | omega
               | exact a4 e2
               | exact a5 ((aB6 a p).1 e2).2
               | (have := ((aB6 a p).1 e2).1; omega)
               | exact a2 e2
               | exact a6 (a3.symm.trans e3)))
  have f3 : (((p.extract 0 a.size)).toList == (a).toList) = false := aG2 hc5;have f4 := hid hc5;refine tkP 16 (.bool false) 49 rfl rfl a7 (tkP 17 (.bool false) 50 rfl rfl a7 (tkP 18 (.bool false) 4 rfl rfl a7 ?_));go_frame;clear a7;refine wdn ?_;go_wp2_with fail
  go_ret;refine ⟨false, rfl, ?_, K5.hb⟩;have a0 := b3.out;have a1 := b4.out;have b0 := b5.out;have a8 := b9.out;have a9 := c4.out;have d2 := d4.out;have a5 := f4.out;constructor
  ·intro h
   first
     | (cases h; done)
     | exact ⟨a0, a1, by omega, .inl ⟨a8, a4⟩⟩
     | exact ⟨a0, a1, by omega, .inr (.inl ⟨a9, (aB6 a p).2 ⟨by omega, a5⟩⟩)⟩
     | exact ⟨a0, a1, by omega, .inr (.inr ⟨by have := a0.kinds; omega, a2, a3.trans a6⟩)⟩
  intro h
  first
    | rfl
    | (exfalso
       obtain ⟨h1, h2, h3, h4⟩ := h
       first
         | exact a0 h1
         | exact a1 h2
         | omega
         | (rcases h4 with ⟨e1, e2⟩ | ⟨e1, e2⟩ | ⟨e1, e2, e3⟩
            all_goals first
              | omega
              | exact a4 e2
              | exact a5 ((aB6 a p).1 e2).2
              | (have := ((aB6 a p).1 e2).1; omega)
              | exact a2 e2
              | exact a6 (a3.symm.trans e3)))
end Go.Proofs.YtejoifianjgefaaGreatDoor
namespace Go.Proofs.YtejoifianjgefaaGreatDoor
open Go.Proofs.Tryz
open Go.RowKit Go.WideShapes
open Go.Lib hiding intOf
theorem cP9 {H : Type} {enc : TypeId × Value → H} {W : World} {r : Reach} {b0 : Nat} {v : Value} {d : DataW H} {ps : List MemPlace} (hval : Value.okWide prog W r b0 59 v) (h : DataW.Trod enc prog W 0 (fun _ => true) true 59 v d ps) :
  ∃ (k : Int) (a b : Tx) (t : Int), v = .agg #[.int .i64 k, .string a, .string b, .int .i64 t] ∧ a.size ≤ maxLen ∧ b.size ≤ maxLen := by
 obtain ⟨cs, rfl, hsz⟩ := okWide_struct underlying59 hval;obtain ⟨a0, hf⟩ := h;obtain ⟨ys, q, _, _, _, a1, hg⟩ := DataW.trod_struct underlying59 hf;have a2 : prog.cellsOf 59 = 4 := by kernel_rfl
 have e3 : prog.cellsOf 3 = 1 := by kernel_rfl
 have e9 : prog.cellsOf 9 = 1 := by kernel_rfl
 rw [a2] at hsz;obtain ⟨l⟩ := cs
 obtain ⟨d0, d1, d2, d3, rfl⟩ : ∃ d0 d1 d2 d3, l = [d0, d1, d2, d3] := by
  match l, hsz with
  | [d0, d1, d2, d3], _ => exact ⟨d0, d1, d2, d3, rfl⟩
 have g0 := hg 0 _ rfl;have g1 := hg 1 _ rfl;have g2 := hg 2 _ rfl;have g3 := hg 3 _ rfl;simp [Value.cells, e3, e9] at g0 g1 g2 g3
 have a5 : ys.length = 4 := a1;rw [List.getElem?_eq_getElem (show 0 < ys.length by omega)] at g0;rw [List.getElem?_eq_getElem (show 1 < ys.length by omega)] at g1;rw [List.getElem?_eq_getElem (show 2 < ys.length by omega)] at g2;rw [List.getElem?_eq_getElem (show 3 < ys.length by omega)] at g3;obtain ⟨k, hk, _, _⟩ := DataW.trod_int underlying3 g0;obtain ⟨a, ha, _, a3⟩ := DataW.trod_string underlying9 g1;obtain ⟨b, hb, _, a4⟩ := DataW.trod_string underlying9 g2;obtain ⟨t, ht, _, _⟩ := DataW.trod_int underlying3 g3;simp only [List.cons.injEq, and_true] at hk ha hb ht
 subst hk ha hb ht;exact ⟨k, a, b, t, rfl, a3, a4⟩
end Go.Proofs.YtejoifianjgefaaGreatDoor
namespace Go.Proofs.YtejoifianjgefaaGreatDoor
open Go.Proofs.Tryz
open Go.RowKit
open Go.Lib hiding intOf
theorem aK3 (k : Int) (a b : Tx) (t : Int) (w : World) :
  Calls prog 19 #[.agg #[.int .i64 k, .string a, .string b, .int .i64 t]] w fun e w' => e = .returned (.agg #[.int .i64 k, .string a, .string b, .int .i64 t]) ∧ Below w.heap.size w w' := by
 have K0 := jnil w;go_enter func19, ntmps19;go_upto_region 1 with fail
 obtain ⟨q1, a6⟩ := exq (w.heap.size);obtain ⟨w1, a1⟩ := exq (w.alloc (.cells #[.int .i64 k, .string a, .string b, .int .i64 t] 59));have a7 := a6.symm;rw [← a1]; try rw [← a6];have c3 := hsa a1 a7;have bw := bal a1;have K1 := ja K0 a1 a7;clear bw a1 a7 K0;obtain ⟨q2, a8⟩ := exq (q1 + 1);obtain ⟨w2, a2⟩ := exq (w1.alloc (.cells #[.int .i64 0, .string ⟨#[]⟩, .string ⟨#[]⟩, .int .i64 0] 62));have a9 : w1.heap.size = q2 := by rw [a8]; exact c3
 rw [← a2]; try rw [← a8];have c5 := hsa a2 a9;have bw := bal a2;have K2 := ja K1 a2 a9;clear bw a2 a9 K1;clear c5 a8 c3 a6;go_upto_region 2 with fail
 obtain ⟨q3, b0⟩ := exq (w2.heap.size);obtain ⟨w3, a3⟩ := exq (w2.alloc (.cells #[.int .i64 0, .string ⟨#[]⟩, .string ⟨#[]⟩, .int .i64 0] 62));have b1 := b0.symm;rw [← a3]; try rw [← b0];have c6 := hsa a3 b1;have bw := bal a3;have K3 := ja K2 a3 b1;clear bw a3 b1 K2;clear c6 b0;have b2 := c4c (jb K3 2 rfl);have a4 := c4f (jb K3 0 rfl);go_upto_region 3 with fail
 obtain ⟨w4, b3⟩ := exq (w3.setCell ⟨q3, 0, none⟩ (.int .i64 k));rw [← b3];have K4 := js K3 0 b3;clear b3 K3;clear b2 a4;have b4 := c4c (jb K4 2 rfl);have b5 := c4f (jb K4 0 rfl);go_upto_region 4 with fail
 obtain ⟨w5, b6⟩ := exq (w4.setCell ⟨q3, 1, none⟩ (.string a));rw [← b6];have K5 := js K4 0 b6;clear b6 K4;clear b4 b5;have b7 := c4c (jb K5 2 rfl);have b8 := c4f (jb K5 0 rfl);go_upto_region 5 with fail
 obtain ⟨w6, b9⟩ := exq (w5.setCell ⟨q3, 2, none⟩ (.string b));rw [← b9];have K6 := js K5 0 b9;clear b9 K5;clear b7 b8;have c0 := c4c (jb K6 2 rfl);have c1 := c4f (jb K6 0 rfl);go_upto_region 6 with fail
 obtain ⟨w7, c2⟩ := exq (w6.setCell ⟨q3, 3, none⟩ (.int .i64 t));rw [← c2];have K7 := js K6 0 c2;clear c2 K6;clear c0 c1;have c7 := c4f (jb K7 1 rfl);have a4 := c4c (jb K7 0 rfl);go_wp2_with fail
 obtain ⟨c8, a0⟩ := exq ((((w7.setCell ⟨q2, 0, none⟩ (.int .i64 k)).setCell ⟨q2, 1, none⟩ (.string a)).setCell ⟨q2, 2, none⟩ (.string b)).setCell ⟨q2, 3, none⟩ (.int .i64 t));rw [← a0];have c4 := jss K7 1 [(0, _), (1, _), (2, _), (3, _)] a0;clear a0 K7;have a5 := c4c (jb c4 1 rfl);refine bodyPost_ret (v := .agg #[.int .i64 k, .string a, .string b, .int .i64 t]) (by simp [results, results19, go_sem, a5]) rfl ?_;exact ⟨rfl, c4.hb⟩
def cV0 (L : Int) (a b : Tx) (w : World) (e : Ending) (w' : World) : Prop := ∃ r : Int, e = .returned (.int .i64 r) ∧ r ≤ L ∧ (0 ≤ r → a.size ≤ 1048576 ∧ b.size ≤ 1048576) ∧ Below w.heap.size w w'
theorem bS7 (L : Int) (hL0 : 0 ≤ L) (hL1 : L ≤ 1048576) (k : Int) (a b : Tx) (t : Int) (w : World) (ha : a.size ≤ maxLen) (hb : b.size ≤ maxLen) :
  Calls prog 17 #[.agg #[.int .i64 k, .string a, .string b, .int .i64 t], .int .i64 L] w fun e w' => cV0 L a b w e w' := by
 unfold maxLen at ha hb;have K0 := jnil w;go_enter func17, ntmps17;go_upto_region 1 with fail
 obtain ⟨q1, a1⟩ := exq (w.heap.size);obtain ⟨w1, a0⟩ := exq (w.alloc (.cells #[.int .i64 k, .string a, .string b, .int .i64 t] 59));have a2 := a1.symm;rw [← a0]; try rw [← a1];have a3 := hsa a0 a2;have bw := bal a0;have K1 := ja K0 a0 a2;clear bw a0 a2 K0;clear a3 a1;have a4 := c4c (jb K1 0 rfl);by_cases hc1 : (L - (a.size : Int)) < 0
 ·go_wp2_with fail
  go_ret;exact ⟨-1, rfl, by omega, fun h => absurd h (by omega), K1.hb⟩
 have a5 := c4c (jb K1 0 rfl);by_cases hc2 : ((L - (a.size : Int)) - (b.size : Int)) < 0
 ·go_wp2_with fail
  go_ret;exact ⟨-1, rfl, by omega, fun h => absurd h (by omega), K1.hb⟩
 go_wp2_with fail
 go_ret;exact ⟨_, rfl, by omega, fun _ => ⟨by omega, by omega⟩, K1.hb⟩
theorem cJ1 (k : Int) (a b : Tx) (t : Int) (w : World) :
  Calls prog 115 #[.agg #[.int .i64 k, .string a, .string b, .int .i64 t], .agg #[.int .i64 k, .string a, .string b, .int .i64 t]] w fun e w' => e = .returned (.bool true) ∧ Below w.heap.size w w' := by
 have b0 : (k != k) = false := by simp
 have b1 : (a.toList != a.toList) = false := by simp
 have b2 : (b.toList != b.toList) = false := by simp
 have b3 : (t != t) = false := by simp
 have K0 := jnil w;go_enter func115, ntmps115;go_upto_region 1 with fail
 obtain ⟨q1, a2⟩ := exq (w.heap.size);obtain ⟨w1, a0⟩ := exq (w.alloc (.cells #[.int .i64 k, .string a, .string b, .int .i64 t] 62));have a3 := a2.symm;rw [← a0]; try rw [← a2];have a6 := hsa a0 a3;have bw := bal a0;have K1 := ja K0 a0 a3;clear bw a0 a3 K0;obtain ⟨q2, a4⟩ := exq (q1 + 1);obtain ⟨w2, a1⟩ := exq (w1.alloc (.cells #[.int .i64 k, .string a, .string b, .int .i64 t] 62));have a5 : w1.heap.size = q2 := by rw [a4]; exact a6
 rw [← a1]; try rw [← a4];have a7 := hsa a1 a5;have bw := bal a1;have K2 := ja K1 a1 a5;clear bw a1 a5 K1;clear a7 a4 a6 a2;have a8 := c4c (jb K2 1 rfl);have a9 := c4c (jb K2 0 rfl);go_wp2_with fail
 go_ret;exact ⟨rfl, K2.hb⟩
def aF4 (l : Bs) (i : Nat) : (Int × ByteArray × ByteArray × Int) := l.getD i (0, ⟨#[]⟩, ⟨#[]⟩, 0)
def aU4 (x : (Int × ByteArray × ByteArray × Int)) : List Value := [.int .i64 x.1, .string x.2.1, .string x.2.2.1, .int .i64 x.2.2.2]
def aA5 (l : Bs) : List Value := l.flatMap aU4
theorem aT3 (l : Bs) : (aA5 l).length = l.length * 4 := by
 induction l with
 | nil => rfl
 | cons f r ih => simp only [aA5, aU4, List.flatMap_cons, List.length_append, List.length_cons, List.length_nil] at ih ⊢; omega
theorem aJ2 : ∀ (l : Bs) (i : Nat), i < l.length → (aA5 l)[i * 4]? = some (.int .i64 ((aF4 l i).1)) ∧ (aA5 l)[i * 4 + 1]? = some (.string ((aF4 l i).2.1)) ∧ (aA5 l)[i * 4 + 2]? = some (.string ((aF4 l i).2.2.1)) ∧ (aA5 l)[i * 4 + 3]? = some (.int .i64 ((aF4 l i).2.2.2))
 | [], i, h => by simp at h
 | f :: r, 0, _ => by simp [aA5, aU4, aF4]
 | f :: r, i + 1, h => by
  have ih := aJ2 r i (by simpa using h)
  have e : aA5 (f :: r) = aU4 f ++ aA5 r := rfl
  have hl : (aU4 f).length = 4 := rfl
  have h2 : aF4 (f :: r) (i + 1) = aF4 r i := by simp [aF4]
  have key : ∀ j, (aA5 (f :: r))[i * 4 + 4 + j]? = (aA5 r)[i * 4 + j]? := fun j => by
   rw [e, List.getElem?_append_right (by rw [hl]; omega), hl]; congr 1; omega
  rw [h2]
  refine ⟨(by rw [show (i + 1) * 4 = i * 4 + 4 + 0 by omega, key]; exact ih.1), (by rw [show (i + 1) * 4 + 1 = i * 4 + 4 + 1 by omega, key]; exact ih.2.1), (by rw [show (i + 1) * 4 + 2 = i * 4 + 4 + 2 by omega, key]; exact ih.2.2.1), (by rw [show (i + 1) * 4 + 3 = i * 4 + 4 + 3 by omega, key]; exact ih.2.2.2)⟩
theorem aR3 (l : Bs) (i : Nat) (h : i < l.length) : aF4 l i ∈ l := by
 unfold aF4;rw [List.getD_eq_getElem?_getD, List.getElem?_eq_getElem h];exact List.getElem_mem h
theorem aR4 (l : Bs) (i : Nat) (h : i < l.length) : l.take (i + 1) = l.take i ++ [aF4 l i] := by
 unfold aF4;rw [List.getD_eq_getElem?_getD, List.getElem?_eq_getElem h, List.take_succ_eq_append_getElem h];rfl
theorem aG7 (l : Bs) : ∀ u ∈ aA5 l, u.oneCell' = true := by
 intro u hu;obtain ⟨x, _, hx⟩ := List.mem_flatMap.1 hu;simp only [aU4, List.mem_cons, List.not_mem_nil, or_false] at hx
 rcases hx with rfl | rfl | rfl | rfl <;> rfl
def BanA (w : World) (oa : Oa) (n : Nat) (l : Bs) : Prop :=
 l.length = n ∧ ∀ i, i < n → ∃ g, oa = some ⟨g, 0, none⟩ ∧ g < w.heap.size ∧ w.cell? ⟨g, i * 4, none⟩ = some (.int .i64 ((aF4 l i).1)) ∧ w.cell? ⟨g, i * 4 + 1, none⟩ = some (.string ((aF4 l i).2.1)) ∧ w.cell? ⟨g, i * 4 + 2, none⟩ = some (.string ((aF4 l i).2.2.1)) ∧ w.cell? ⟨g, i * 4 + 3, none⟩ = some (.int .i64 ((aF4 l i).2.2.2))
theorem BanA.below {w W : World} {oa : Oa} {n : Nat} {l : Bs} (h : BanA w oa n l) (hb : Below w.heap.size w W) : BanA W oa n l :=
 ⟨h.1, fun i hi => by
  obtain ⟨g, h1, h2, r0, r1, r2, r3⟩ := h.2 i hi
  exact ⟨g, h1, Nat.lt_of_lt_of_le h2 hb.size, by rw [hb.cell (p := ⟨g, i * 4, none⟩) h2]; exact r0, by rw [hb.cell (p := ⟨g, i * 4 + 1, none⟩) h2]; exact r1, by rw [hb.cell (p := ⟨g, i * 4 + 2, none⟩) h2]; exact r2, by rw [hb.cell (p := ⟨g, i * 4 + 3, none⟩) h2]; exact r3⟩⟩
def aQ0 (w : World) (B : Nat) (a : Oa) (n : Nat) (l : Bs) : Prop :=
 l.length = n ∧ ∀ i, i < n → ∃ b off, a = some ⟨b, off, none⟩ ∧ b < B ∧ w.cell? ⟨b, off + i * 4, none⟩ = some (.int .i64 ((aF4 l i).1)) ∧ w.cell? ⟨b, off + i * 4 + 1, none⟩ = some (.string ((aF4 l i).2.1)) ∧ w.cell? ⟨b, off + i * 4 + 2, none⟩ = some (.string ((aF4 l i).2.2.1)) ∧ w.cell? ⟨b, off + i * 4 + 3, none⟩ = some (.int .i64 ((aF4 l i).2.2.2))
theorem aQ0.below {w w' : World} {B : Nat} {a : Oa} {n : Nat} {l : Bs} (h : aQ0 w B a n l) (hb : Below B w w') : aQ0 w' B a n l :=
 ⟨h.1, fun i hi => by
  obtain ⟨b, off, h1, h2, r0, r1, r2, r3⟩ := h.2 i hi
  exact ⟨b, off, h1, h2, by rw [hb.cell (p := ⟨b, off + i * 4, none⟩) h2]; exact r0, by rw [hb.cell (p := ⟨b, off + i * 4 + 1, none⟩) h2]; exact r1, by rw [hb.cell (p := ⟨b, off + i * 4 + 2, none⟩) h2]; exact r2, by rw [hb.cell (p := ⟨b, off + i * 4 + 3, none⟩) h2]; exact r3⟩⟩
def aE6 (w : World) (g n k : Nat) (l : Bs) : Prop :=
 ∃ cur, w.heap[g]? = some (.cells cur 62 (0, 0)) ∧ cur.size = n * 4 ∧ ∀ i, i < k → cur[i * 4]? = some (.int .i64 ((aF4 l i).1)) ∧ cur[i * 4 + 1]? = some (.string ((aF4 l i).2.1)) ∧ cur[i * 4 + 2]? = some (.string ((aF4 l i).2.2.1)) ∧ cur[i * 4 + 3]? = some (.int .i64 ((aF4 l i).2.2.2))
theorem aE6.below {w w' : World} {g n k B : Nat} {l : Bs} (h : aE6 w g n k l) (hb : Below B w w') (hB : g < B) : aE6 w' g n k l := by
 obtain ⟨a0, h1, h2⟩ := h;exact ⟨a0, by rw [hb.block g hB]; exact h1, h2⟩
theorem aE6.lt {w : World} {g n k : Nat} {l : Bs} (h : aE6 w g n k l) : g < w.heap.size := by
 obtain ⟨a0, h1, _⟩ := h;exact (blt h1)
theorem aE6.cell {w : World} {g n k : Nat} {l : Bs} (h : aE6 w g n k l) (j : Nat) (hj : j < n * 4) : ∃ u, w.cell? ⟨g, j, none⟩ = some u := by
 obtain ⟨a0, h1, h2, _⟩ := h;refine ⟨a0[j]'(by omega), ?_⟩;simp only [World.cell?, h1]
 simp [show j < a0.size by omega]
theorem aE6.frozen {w : World} {g n k : Nat} {l : Bs} (h : aE6 w g n k l) (j : Nat) : w.frozen? ⟨g, j, none⟩ = false := by
 obtain ⟨a0, h1, _⟩ := h;simp [World.frozen?, h1]
theorem aE6.put {w : World} {g n k : Nat} {l : Bs} (h : aE6 w g n k l) (hk : k < n) : aE6 ((((w.setCell ⟨g, k * 4, none⟩ (.int .i64 (aF4 l k).1)).setCell ⟨g, k * 4 + 1, none⟩ (.string (aF4 l k).2.1)).setCell ⟨g, k * 4 + 2, none⟩ (.string (aF4 l k).2.2.1)).setCell ⟨g, k * 4 + 3, none⟩ (.int .i64 (aF4 l k).2.2.2)) g n (k + 1) l := by
 obtain ⟨a0, h1, h2, h3⟩ := h;refine ⟨_, aD0 _ g (k * 4 + 3) _ _ _ _ (aD0 _ g (k * 4 + 2) _ _ _ _ (aD0 _ g (k * 4 + 1) _ _ _ _ (aD0 _ g (k * 4) _ _ _ _ h1))), by simpa using h2, ?_⟩;intro i hi;by_cases e : i = k
 ·subst e;exact ⟨by rw [Array.getElem?_setIfInBounds_ne (by omega), Array.getElem?_setIfInBounds_ne (by omega), Array.getElem?_setIfInBounds_ne (by omega), Array.getElem?_setIfInBounds_self_of_lt (by first | omega | (simp; omega))], by rw [Array.getElem?_setIfInBounds_ne (by omega), Array.getElem?_setIfInBounds_ne (by omega), Array.getElem?_setIfInBounds_self_of_lt (by first | omega | (simp; omega))], by rw [Array.getElem?_setIfInBounds_ne (by omega), Array.getElem?_setIfInBounds_self_of_lt (by first | omega | (simp; omega))], by rw [Array.getElem?_setIfInBounds_self_of_lt (by first | omega | (simp; omega))]⟩
 have := h3 i (by omega);exact ⟨by rw [Array.getElem?_setIfInBounds_ne (by omega), Array.getElem?_setIfInBounds_ne (by omega), Array.getElem?_setIfInBounds_ne (by omega), Array.getElem?_setIfInBounds_ne (by omega)]; exact this.1, by rw [Array.getElem?_setIfInBounds_ne (by omega), Array.getElem?_setIfInBounds_ne (by omega), Array.getElem?_setIfInBounds_ne (by omega), Array.getElem?_setIfInBounds_ne (by omega)]; exact this.2.1, by rw [Array.getElem?_setIfInBounds_ne (by omega), Array.getElem?_setIfInBounds_ne (by omega), Array.getElem?_setIfInBounds_ne (by omega), Array.getElem?_setIfInBounds_ne (by omega)]; exact this.2.2.1, by rw [Array.getElem?_setIfInBounds_ne (by omega), Array.getElem?_setIfInBounds_ne (by omega), Array.getElem?_setIfInBounds_ne (by omega), Array.getElem?_setIfInBounds_ne (by omega)]; exact this.2.2.2⟩
theorem aE6.owns {w : World} {g n : Nat} {l : Bs} (h : aE6 w g n n l) (hl : l.length = n) (hm : n ≤ maxLen) {base : Nat} (hb : base ≤ g) : w.ownsRow base 62 4 (.slice (some ⟨g, 0, none⟩) n n) n (aA5 l) := by
 obtain ⟨a1, hg, hs, hc⟩ := h;refine ⟨by rw [aT3, hl], .inr ⟨g, n, a1, rfl, hb, hg, Nat.le_refl _, hm, hs, ?_⟩⟩;apply List.ext_getElem?
 intro j;rw [List.getElem?_take];by_cases hj : j < n * 4
 rotate_left
 ·rw [if_neg hj, List.getElem?_eq_none (by rw [aT3]; omega)]
 rw [if_pos hj];have hf := aJ2 l (j / 4) (by omega);have a0 := hc (j / 4) (by omega);have hr : j = (j / 4) * 4 ∨ j = (j / 4) * 4 + 1 ∨ j = (j / 4) * 4 + 2 ∨ j = (j / 4) * 4 + 3 := by omega
 rcases hr with e | e | e | e
 ·have e2 := hf.1;have e3 := a0.1;rw [← e] at e2 e3;rw [e2]; simpa using e3
 ·have e2 := hf.2.1;have e3 := a0.2.1;rw [← e] at e2 e3;rw [e2]; simpa using e3
 ·have e2 := hf.2.2.1;have e3 := a0.2.2.1;rw [← e] at e2 e3;rw [e2]; simpa using e3
 have e2 := hf.2.2.2;have e3 := a0.2.2.2;rw [← e] at e2 e3;rw [e2]; simpa using e3
theorem aN5 {w : World} {base n cap : Nat} {oa : Oa} {l : Bs} (h : w.ownsRow base 62 4 (.slice oa n cap) n (aA5 l)) : BanA w oa n l := by
 obtain ⟨hl, hv⟩ := h;rw [aT3] at hl;refine ⟨by omega, fun i hi => ?_⟩
 rcases hv with ⟨e, h0⟩ | ⟨g, cap, a1, e, hb, hg, hn, hm, a2, a0⟩
 ·omega
 cases e
 have hf := aJ2 l i (by omega);rw [← a0] at hf;simp only [List.getElem?_take] at hf
 rw [if_pos (by omega), if_pos (by omega), if_pos (by omega), if_pos (by omega)] at hf;refine ⟨g, rfl, (blt hg), by simp only [World.cell?, hg]; simpa using hf.1, by simp only [World.cell?, hg]; simpa using hf.2.1, by simp only [World.cell?, hg]; simpa using hf.2.2.1, by simp only [World.cell?, hg]; simpa using hf.2.2.2⟩
theorem cQ0 {w : World} {base n : Nat} {v : Value} {l : Bs} (h : w.ownsRow base 62 4 v n (aA5 l)) : l.length = n := by
 have := h.1;rw [aT3] at this;omega
theorem bG3 : (prog.info? 62).map (fun i => (i.zero, i.size, i.bytes)) = some (some (.agg #[.int .i64 0, .string ⟨#[]⟩, .string ⟨#[]⟩, .int .i64 0]), 4, 48) := by kernel_rfl
def cS7 (L : Int) (n : Nat) (l : Bs) (w : World) (e : Ending) (w' : World) : Prop :=
 ∃ r : Int, e = .returned (.int .i64 r) ∧ r ≤ L ∧ (0 ≤ r → r + (n : Int) ≤ L ∧ n ≤ 1048576 ∧ ∀ x ∈ l, (x.2.1).size ≤ 1048576 ∧ (x.2.2.1).size ≤ 1048576) ∧ Below w.heap.size w w'
theorem bX4 (L : Int) (hL0 : 0 ≤ L) (hL1 : L ≤ 1048576) (B : Nat) (a : Oa) (n cap : Nat) (l : Bs) (w : World) (harg : aQ0 w B a n l) (hB : B ≤ w.heap.size) (hn : n ≤ maxLen) (hsz : ∀ x ∈ l, (x.2.1).size ≤ maxLen ∧ (x.2.2.1).size ≤ maxLen) :
  Calls prog 28 #[.slice a n cap, .int .i64 L] w fun e w' => cS7 L n l w e w' := by
 unfold maxLen at hn;have HS := hid hsz;have a1 : Hid (l.length = n) := harg.1;have HA : Hid (∀ W, Bw w W → aQ0 W B a n l) := fun W h => harg.below (h.mono hB)
 clear hsz harg;by_cases c1 : L - (n : Int) < 0
 ·go_enter func28, ntmps28;go_wp2
  go_ret;exact ⟨-1, rfl, by omega, fun h => absurd h (by omega), Below.refl _ _⟩
 go_enter func28, ntmps28;go_wp2
 go_loopw [1, 5] (fun lf i wr => ∃ (k : Nat) (x : Int), k ≤ n ∧ i = .int .i64 (k : Int) ∧ lf = .int .i64 x ∧ 0 ≤ x ∧ x + (n : Int) ≤ L ∧ Hid (∀ x ∈ l.take k, (x.2.1).size ≤ 1048576 ∧ (x.2.2.1).size ≤ 1048576) ∧ Hid (Bw w wr)) (fun _ i _ => n - (intOf i).toNat)
 case atStart => exact ⟨0, _, Nat.zero_le _, rfl, rfl, by omega, by omega, fun x hx => by simp at hx, Below.refl _ _⟩
 case round =>
  obtain ⟨k, x, hk, rfl, rfl, a4, a8, HX, a0⟩ := hrel;by_cases hlt : k < n
  rotate_left
  ·have HF : Hid (n ≤ 1048576 ∧ ∀ x ∈ l, (x.2.1).size ≤ 1048576 ∧ (x.2.2.1).size ≤ 1048576) := ⟨by omega, fun x hx => HX.out x (by rw [List.take_of_length_le (by rw [a1.out]; omega)]; exact hx)⟩
   go_wp2
   go_ret;exact ⟨x, rfl, by omega, fun _ => ⟨by omega, HF.out⟩, a0.out⟩
  have a5 : (k : Int) < (n : Int) := by omega
  obtain ⟨b, a9, rfl, b0, r0, r1, r2, r3⟩ := (HA.out wr a0.out).2 k hlt;obtain ⟨y, hy⟩ := exq (aF4 l k);have HM : Hid (y ∈ l) := by show _ ∈ _; rw [hy]; exact aR3 l k (by rw [a1.out]; exact hlt)
  have a6 : Hid (l.take (k + 1) = l.take k ++ [y]) := by show _ = _; rw [hy]; exact aR4 l k (by rw [a1.out]; exact hlt)
  have s1 := HS.out y HM.out;rw [← hy] at r0 r1 r2 r3;clear hy;obtain ⟨y0, y1, y2, y3⟩ := y;go_wp2_with fail
  refine (bS7 x a4 (by omega) y0 y1 y2 y3 _ s1.1 s1.2).mono ?_;rintro e w1 ⟨r, rfl, b1, a2, bw⟩;have a3 : Hid (Bw w w1) := a0.out.trans (bw.mono a0.out.size);clear r0 r1 r2 r3 bw;by_cases d1 : r < 0
  ·clear a2;go_wp2
   go_ret;exact ⟨-1, rfl, by omega, fun h => absurd h (by omega), a3.out⟩
  have a7 : Hid (∀ x ∈ l.take (k + 1), (x.2.1).size ≤ 1048576 ∧ (x.2.2.1).size ≤ 1048576) := fun x hx => by
   rw [a6.out] at hx
   rcases List.mem_append.1 hx with hx | hx
   ·exact HX.out x hx
   ·rw [List.mem_singleton.1 hx]; exact a2 (by omega)
  clear a2;go_wp2
  go_roundw
  case rel => exact ⟨k + 1, r, by omega, by go_num, rfl, by omega, by omega, a7, a3⟩
  case measure => simp [intOf]; omega
theorem cE0 (B : Nat) (a : Oa) (n cap : Nat) (l : Bs) (w : World) (harg : aQ0 w B a n l) (hB : B ≤ w.heap.size) (hn : n ≤ 1048576) :
  Calls prog 42 #[.slice a n cap] w fun e w' => ∃ v, e = .returned v ∧ w'.ownsRow w.heap.size 62 4 v n (aA5 l) ∧ Below w.heap.size w w' := by
 obtain ⟨i0, hi, a4, a5, a6⟩ := info_parts bG3;obtain ⟨M, hM⟩ : ∃ M, M = madeCells (Value.agg #[.int .i64 0, .string ⟨#[]⟩, .string ⟨#[]⟩, .int .i64 0]).cells (((n : Nat) : Int).toNat * i0.size) := ⟨_, rfl⟩
 have b1 : ∀ W : World, (Instr.makeSlice 41 (.int .i64 (n : Int)) (.int .i64 (n : Int))).run prog W = .ok (.slice (some ⟨W.heap.size, 0, none⟩) n n) (W.alloc (.cells M 62)) := fun W => by
  have h := run_make (P := prog) W 41 62 i0 (.agg #[.int .i64 0, .string ⟨#[]⟩, .string ⟨#[]⟩, .int .i64 0]) underlying41 hi a4 .i64 .i64 (n : Int) (n : Int) (by omega) (by omega) (by rw [a6]; omega) (by omega)
  rw [← hM] at h
  simpa using h
 have a7 : M.size = n * 4 := by rw [hM, size_madeCells, a5]; simp
 have a8 : Hid (l.length = n) := harg.1;have HA : Hid (∀ W, Bw w W → aQ0 W B a n l) := fun W h => harg.below (h.mono hB)
 clear hM harg;have HP : Hid (aE6 (w.alloc (.cells M 62)) w.heap.size n 0 l) := ⟨M, heap_alloc_new w _, a7, fun i h => absurd h (by omega)⟩
 go_enter func42, ntmps42;go_wp2
 go_loopw [4] (fun i wr => ∃ k : Nat, k ≤ n ∧ i = .int .i64 (k : Int) ∧ Hid (aE6 wr w.heap.size n k l) ∧ Hid (Bw w wr)) (fun i _ => n - (intOf i).toNat)
 case atStart => exact ⟨0, Nat.zero_le _, rfl, HP, (Below.refl _ _).alloc (Nat.le_refl _) _⟩
 case round =>
  obtain ⟨k, hk, rfl, a2, a1⟩ := hrel;by_cases hlt : k < n
  rotate_left
  ·obtain rfl : k = n := by omega
   go_wp2
   go_ret;exact ⟨_, rfl, a2.out.owns a8.out (by unfold maxLen; omega) (Nat.le_refl _), a1.out⟩
  have a9 : (k : Int) < (n : Int) := by omega
  obtain ⟨b, b2, rfl, b3, r0, r1, r2, r3⟩ := (HA.out wr a1.out).2 k hlt;obtain ⟨y, hy⟩ := exq (aF4 l k);rw [← hy] at r0 r1 r2 r3;have HY : Hid (aF4 l k = y) := hy.symm;clear hy;obtain ⟨y0, y1, y2, y3⟩ := y;go_wp2_with fail
  refine (aK3 y0 y1 y2 y3 _).mono ?_;rintro e w1 ⟨rfl, bw⟩;have a0 := a2.out.below bw a2.out.lt;have b0 : Hid (Bw w w1) := a1.out.trans (bw.mono a1.out.size);obtain ⟨u0, b4⟩ := a0.cell (k * 4) (by omega);have f0 := a0.frozen (k * 4);obtain ⟨u1, b5⟩ := a0.cell (k * 4 + 1) (by omega);have f1 := a0.frozen (k * 4 + 1);obtain ⟨u2, b6⟩ := a0.cell (k * 4 + 2) (by omega);have f2 := a0.frozen (k * 4 + 2);obtain ⟨u3, b7⟩ := a0.cell (k * 4 + 3) (by omega);have f3 := a0.frozen (k * 4 + 3);have hput := a0.put hlt;rw [HY.out] at hput;have a3 : Hid _ := hput;clear hput r0 r1 r2 r3 bw;go_wp2
  go_roundw
  case rel => exact ⟨k + 1, by omega, by go_num, a3, (((b0.out.setCell (Nat.le_refl _) _).setCell (Nat.le_refl _) _).setCell (Nat.le_refl _) _).setCell (Nat.le_refl _) _⟩
  case measure => simp [intOf]; omega
theorem cE1 (o1 o2 : Oa) (n c1 c2 : Nat) (l : Bs) (w : World) (h1 : BanA w o1 n l) (h2 : BanA w o2 n l) (hn : n ≤ 2000000) :
  Calls prog 49 #[.slice o1 n c1, .slice o2 n c2] w fun e w' => e = .returned (.bool true) ∧ Below w.heap.size w w' := by
 have H1 : Hid (∀ W, Bw w W → BanA W o1 n l) := fun W h => h1.below h
 have H2 : Hid (∀ W, Bw w W → BanA W o2 n l) := fun W h => h2.below h
 clear h1 h2;go_enter func49, ntmps49;go_wp2
 go_loopw [5] (fun i wr => ∃ k : Nat, k ≤ n ∧ i = .int .i64 (k : Int) ∧ Hid (Bw w wr)) (fun i _ => n - (intOf i).toNat)
 case atStart => exact ⟨0, Nat.zero_le _, rfl, Below.refl _ _⟩
 case round =>
  obtain ⟨k, hk, rfl, a4⟩ := hrel;by_cases hlt : k < n
  rotate_left
  ·go_wp2
   go_ret;exact ⟨rfl, a4.out⟩
  have a7 : (k : Int) < (n : Int) := by omega
  obtain ⟨y, hy⟩ := exq (aF4 l k);obtain ⟨g1, rfl, a5, a0, a1, a2, a3⟩ := (H1.out wr a4.out).2 k hlt;obtain ⟨g2, rfl, a6, b0, b1, b2, b3⟩ := (H2.out wr a4.out).2 k hlt;rw [← hy] at a0 b0 a1 b1 a2 b2 a3 b3;clear hy;obtain ⟨y0, y1, y2, y3⟩ := y
  have HA : Hid (∀ w0 w1, Below wr.heap.size wr w0 → Below w0.heap.size w0 w1 → (w1.cell? ⟨g1, k * 4, none⟩ = some (.int .i64 y0) ∧ w1.cell? ⟨g1, k * 4 + 1, none⟩ = some (.string y1) ∧ w1.cell? ⟨g1, k * 4 + 2, none⟩ = some (.string y2) ∧ w1.cell? ⟨g1, k * 4 + 3, none⟩ = some (.int .i64 y3) ∧ w1.cell? ⟨g2, k * 4, none⟩ = some (.int .i64 y0) ∧ w1.cell? ⟨g2, k * 4 + 1, none⟩ = some (.string y1) ∧ w1.cell? ⟨g2, k * 4 + 2, none⟩ = some (.string y2) ∧ w1.cell? ⟨g2, k * 4 + 3, none⟩ = some (.int .i64 y3)) ∧ Below wr.heap.size wr w1) := fun w0 w1 h h' => by
   have hx := h.trans (h'.mono h.size)
   exact ⟨⟨by rw [hx.cell (p := ⟨g1, k * 4, none⟩) a5]; exact a0, by rw [hx.cell (p := ⟨g1, k * 4 + 1, none⟩) a5]; exact a1, by rw [hx.cell (p := ⟨g1, k * 4 + 2, none⟩) a5]; exact a2, by rw [hx.cell (p := ⟨g1, k * 4 + 3, none⟩) a5]; exact a3, by rw [hx.cell (p := ⟨g2, k * 4, none⟩) a6]; exact b0, by rw [hx.cell (p := ⟨g2, k * 4 + 1, none⟩) a6]; exact b1, by rw [hx.cell (p := ⟨g2, k * 4 + 2, none⟩) a6]; exact b2, by rw [hx.cell (p := ⟨g2, k * 4 + 3, none⟩) a6]; exact b3⟩, hx⟩
  go_wp2
  go_region_held3 (fun w' => w'.cell? ⟨g1, k * 4, none⟩ = some (.int .i64 y0) ∧ w'.cell? ⟨g1, k * 4 + 1, none⟩ = some (.string y1) ∧ w'.cell? ⟨g1, k * 4 + 2, none⟩ = some (.string y2) ∧ w'.cell? ⟨g1, k * 4 + 3, none⟩ = some (.int .i64 y3) ∧ w'.cell? ⟨g2, k * 4, none⟩ = some (.int .i64 y0) ∧ w'.cell? ⟨g2, k * 4 + 1, none⟩ = some (.string y1) ∧ w'.cell? ⟨g2, k * 4 + 2, none⟩ = some (.string y2) ∧ w'.cell? ⟨g2, k * 4 + 3, none⟩ = some (.int .i64 y3)) (first | assumption | go_keep) (first | (go_at_call 115; refine (cJ1 _ _ _ _ _).mono ?_; rintro e w1 ⟨rfl, a8⟩; obtain ⟨b4, a9⟩ := HA.out _ w1 ((Below.refl _ wr).drew) a8))
  go_wp2
  go_roundw
  case rel => exact ⟨k + 1, by omega, by go_num, a4.out.trans (a9.mono a4.out.size)⟩
  case measure => simp [intOf]; omega
theorem bG4 : ∀ (l : Bs) (i : Nat) (x : (Int × ByteArray × ByteArray × Int)), i < l.length → aA5 (l.set i x) = ((((aA5 l).set (i * 4) (.int .i64 x.1)).set (i * 4 + 1) (.string x.2.1)).set (i * 4 + 2) (.string x.2.2.1)).set (i * 4 + 3) (.int .i64 x.2.2.2)
 | [], i, x, h => by simp at h
 | f :: r, 0, x, _ => rfl
 | f :: r, i + 1, x, h => by
  have ih := bG4 r i x (by simpa using h)
  have e : ∀ (m : List Value) (o : Nat) (u : Value), (aU4 f ++ m).set (4 + o) u = aU4 f ++ m.set o u := fun m o u => by rw [Nat.add_comm]; rfl
  have e0 : aA5 (f :: r) = aU4 f ++ aA5 r := rfl
  have e1 : aA5 ((f :: r).set (i + 1) x) = aU4 f ++ aA5 (r.set i x) := rfl
  rw [e1, ih, e0, show (i + 1) * 4 = 4 + i * 4 by omega, show 4 + i * 4 + 1 = 4 + (i * 4 + 1) by omega, show 4 + i * 4 + 2 = 4 + (i * 4 + 2) by omega, show 4 + i * 4 + 3 = 4 + (i * 4 + 3) by omega, e, e, e, e]
theorem cJ2 (l : Bs) (k j : Nat) (x : (Int × ByteArray × ByteArray × Int)) (hk : k < l.length) : aF4 (l.set k x) j = if j = k then x else aF4 l j := by
 unfold aF4;rw [List.getD_eq_getElem?_getD, List.getElem?_set, List.getD_eq_getElem?_getD];by_cases h : j = k
 ·subst h; simp [hk]
 rw [if_neg h, if_neg (fun e => h e.symm)]
def aL3 (k0 : Nat) (l : Bs) : Nat → Bs
 | 0 => l
 | k + 1 => (aL3 k0 l k).set k (((k0 + 4 * k + 0 : Nat) : Int), (aB1 (k0 + 4 * k + 1)), (aB1 (k0 + 4 * k + 2)), ((k0 + 4 * k + 3 : Nat) : Int))
theorem aP1 (k0 : Nat) (l : Bs) : ∀ k, (aL3 k0 l k).length = l.length
 | 0 => rfl
 | k + 1 => by rw [aL3, List.length_set, aP1 k0 l k]
theorem cN0 (k0 : Nat) (l : Bs) (j : Nat) : ∀ k, k ≤ l.length → j < k → aF4 (aL3 k0 l k) j = (((k0 + 4 * j + 0 : Nat) : Int), (aB1 (k0 + 4 * j + 1)), (aB1 (k0 + 4 * j + 2)), ((k0 + 4 * j + 3 : Nat) : Int)) := by
 intro k;induction k with
 | zero => intro _ h; omega
 | succ k ih =>
  intro hk h
  rw [aL3, cJ2 _ _ _ _ (by rw [aP1]; omega)]
  by_cases e : j = k
  ·subst e; rw [if_pos rfl]
  rw [if_neg e]; exact ih (by omega) (by omega)
theorem bS8 (oa : Oa) (n cap base : Nat) (l : Bs) (w : World) (h1 : w.ownsRow base 62 4 (.slice oa n cap) n (aA5 l)) (hb : base ≤ w.heap.size) (k0 : Nat) (hk0 : 1 ≤ k0) (hn : k0 + 4 * n ≤ 99999999) :
  Calls prog 53 #[.slice oa n cap, .int .i64 (k0 : Int)] w fun e w' => e = .returned (.int .i64 ((k0 : Int) + 4 * (n : Int))) ∧ w'.ownsRow base 62 4 (.slice oa n cap) n (aA5 (aL3 k0 l n)) ∧ Below base w w' ∧ Far (.slice oa n cap) w w' := by
 have a1 : Hid (l.length = n) := cQ0 h1;have H1 := hid h1;clear h1;go_enter func53, ntmps53;go_wp2
 go_loopw [1, 5] (fun q i wr => ∃ k : Nat, k ≤ n ∧ i = .int .i64 (k : Int) ∧ q = .int .i64 ((k0 : Int) + 4 * (k : Int)) ∧ Hid (Below base w wr) ∧ Hid (wr.ownsRow base 62 4 (.slice oa n cap) n (aA5 (aL3 k0 l k))) ∧ Hid (∀ j, j < w.heap.size → (Value.slice oa n cap).ownBlock ≠ some j → wr.heap[j]? = w.heap[j]?)) (fun _ i _ => n - (intOf i).toNat)
 case atStart => exact ⟨0, Nat.zero_le _, rfl, by simp, Below.refl _ _, H1, fun j _ _ => rfl⟩
 case round =>
  obtain ⟨k, hk, rfl, rfl, HB, HO, HF⟩ := hrel;by_cases hlt : k < n
  rotate_left
  ·obtain rfl : k = n := by omega
   go_wp2
   go_ret;exact ⟨rfl, HO.out, HB.out, HF.out⟩
  have b6 : (k : Int) < (n : Int) := by omega
  obtain ⟨g, rfl⟩ := aJ0 H1.out (by omega);have HG : Hid (base ≤ g) := aB7 H1.out rfl;have q0 := (aJ2 (aL3 k0 l k) k (by rw [aP1, a1.out]; exact hlt)).1;have b7 : Hid _ := q0;clear q0;have q1 := (aJ2 (aL3 k0 l k) k (by rw [aP1, a1.out]; exact hlt)).2.1;have b8 : Hid _ := q1;clear q1;have q2 := (aJ2 (aL3 k0 l k) k (by rw [aP1, a1.out]; exact hlt)).2.2.1;have b9 : Hid _ := q2;clear q2;have q3 := (aJ2 (aL3 k0 l k) k (by rw [aP1, a1.out]; exact hlt)).2.2.2;have c4 : Hid _ := q3;clear q3;obtain ⟨c0, f0⟩ := aX8 HO.out (k * 4) _ (by exact b7.out);have a2 : (k0 : Int) + 4 * (k : Int) = ((k0 + 4 * k + 0 : Nat) : Int) := by omega
  rw [a2];clear a2;have c5 : Hid (((wr.setCell ⟨g, k * 4, none⟩ (.int .i64 ((k0 + 4 * k + 0 : Nat) : Int)))).ownsRow base 62 4 (.slice (some ⟨g, 0, none⟩) n cap) n ((aA5 (aL3 k0 l k)).set (k * 4) (.int .i64 ((k0 + 4 * k + 0 : Nat) : Int)))) := aT0 HO.out _ _;have a7 : Hid (Below base w (wr.setCell ⟨g, k * 4, none⟩ (.int .i64 ((k0 + 4 * k + 0 : Nat) : Int)))) := HB.out.setCell (p := ⟨g, k * 4, none⟩) HG.out _;have c6 : Hid (∀ j, j < w.heap.size → (Value.slice (some ⟨g, 0, none⟩) n cap).ownBlock ≠ some j → ((wr.setCell ⟨g, k * 4, none⟩ (.int .i64 ((k0 + 4 * k + 0 : Nat) : Int)))).heap[j]? = w.heap[j]?) := fun j hj a0 => (heap_setCell_other _ _ j _ (fun e => a0 (by rw [e]; rfl))).trans (HF.out j hj a0)
  go_wp2_with fail
  refine (aE5 _ (k0 + 4 * k + 1) _ (by omega) (by omega) (by omega)).mono ?_;rintro e u1 ⟨rfl, a5⟩;have a3 := hown c5 a5;have a8 : Hid (Below base w u1) := a7.out.trans (a5.mono (Nat.le_trans hb a7.out.size));have a9 : Hid (∀ j, j < w.heap.size → (Value.slice (some ⟨g, 0, none⟩) n cap).ownBlock ≠ some j → (u1).heap[j]? = w.heap[j]?) := fun j hj a0 => (a5.block j (Nat.lt_of_lt_of_le hj a7.out.size)).trans (c6.out j hj a0)
  clear a5 c0 f0;obtain ⟨c1, f1⟩ := aX8 a3.out (k * 4 + 1) _ (by rw [List.getElem?_set_ne (by omega)]; exact b8.out);have c7 : Hid ((((u1).setCell ⟨g, k * 4 + 1, none⟩ (.string (aB1 (k0 + 4 * k + 1))))).ownsRow base 62 4 (.slice (some ⟨g, 0, none⟩) n cap) n (((aA5 (aL3 k0 l k)).set (k * 4) (.int .i64 ((k0 + 4 * k + 0 : Nat) : Int))).set (k * 4 + 1) (.string (aB1 (k0 + 4 * k + 1))))) := aT0 a3.out _ _;have b0 : Hid (Below base w ((u1).setCell ⟨g, k * 4 + 1, none⟩ (.string (aB1 (k0 + 4 * k + 1))))) := a8.out.setCell (p := ⟨g, k * 4 + 1, none⟩) HG.out _;have c8 : Hid (∀ j, j < w.heap.size → (Value.slice (some ⟨g, 0, none⟩) n cap).ownBlock ≠ some j → (((u1).setCell ⟨g, k * 4 + 1, none⟩ (.string (aB1 (k0 + 4 * k + 1))))).heap[j]? = w.heap[j]?) := fun j hj a0 => (heap_setCell_other _ _ j _ (fun e => a0 (by rw [e]; rfl))).trans (a9.out j hj a0)
  go_wp2_with fail
  refine (aE5 _ (k0 + 4 * k + 2) _ (by omega) (by omega) (by omega)).mono ?_;rintro e u2 ⟨rfl, a6⟩;have a4 := hown c7 a6;have b1 : Hid (Below base w u2) := b0.out.trans (a6.mono (Nat.le_trans hb b0.out.size));have b2 : Hid (∀ j, j < w.heap.size → (Value.slice (some ⟨g, 0, none⟩) n cap).ownBlock ≠ some j → (u2).heap[j]? = w.heap[j]?) := fun j hj a0 => (a6.block j (Nat.lt_of_lt_of_le hj b0.out.size)).trans (c8.out j hj a0)
  clear a6 c1 f1;obtain ⟨c2, f2⟩ := aX8 a4.out (k * 4 + 2) _ (by rw [List.getElem?_set_ne (by omega)]; rw [List.getElem?_set_ne (by omega)]; exact b9.out);have b4 : Hid ((((u2).setCell ⟨g, k * 4 + 2, none⟩ (.string (aB1 (k0 + 4 * k + 2))))).ownsRow base 62 4 (.slice (some ⟨g, 0, none⟩) n cap) n ((((aA5 (aL3 k0 l k)).set (k * 4) (.int .i64 ((k0 + 4 * k + 0 : Nat) : Int))).set (k * 4 + 1) (.string (aB1 (k0 + 4 * k + 1)))).set (k * 4 + 2) (.string (aB1 (k0 + 4 * k + 2))))) := aT0 a4.out _ _;have c9 : Hid (Below base w ((u2).setCell ⟨g, k * 4 + 2, none⟩ (.string (aB1 (k0 + 4 * k + 2))))) := b1.out.setCell (p := ⟨g, k * 4 + 2, none⟩) HG.out _;have d0 : Hid (∀ j, j < w.heap.size → (Value.slice (some ⟨g, 0, none⟩) n cap).ownBlock ≠ some j → (((u2).setCell ⟨g, k * 4 + 2, none⟩ (.string (aB1 (k0 + 4 * k + 2))))).heap[j]? = w.heap[j]?) := fun j hj a0 => (heap_setCell_other _ _ j _ (fun e => a0 (by rw [e]; rfl))).trans (b2.out j hj a0)
  obtain ⟨c3, f3⟩ := aX8 b4.out (k * 4 + 3) _ (by rw [List.getElem?_set_ne (by omega)]; rw [List.getElem?_set_ne (by omega)]; rw [List.getElem?_set_ne (by omega)]; exact c4.out);obtain ⟨m3, b5⟩ : ∃ m : Nat, m = k0 + 4 * k + 3 := ⟨_, rfl⟩;have d1 := hid b5;have d2 : (k0 : Int) + 4 * (k : Int) + 1 + 1 + 1 = (m3 : Int) := by omega
  clear b5;have d3 : Hid ((((((u2).setCell ⟨g, k * 4 + 2, none⟩ (.string (aB1 (k0 + 4 * k + 2))))).setCell ⟨g, k * 4 + 3, none⟩ (.int .i64 (m3 : Int)))).ownsRow base 62 4 (.slice (some ⟨g, 0, none⟩) n cap) n (((((aA5 (aL3 k0 l k)).set (k * 4) (.int .i64 ((k0 + 4 * k + 0 : Nat) : Int))).set (k * 4 + 1) (.string (aB1 (k0 + 4 * k + 1)))).set (k * 4 + 2) (.string (aB1 (k0 + 4 * k + 2)))).set (k * 4 + 3) (.int .i64 (m3 : Int)))) := aT0 b4.out _ _;have d4 : Hid (Below base w ((((u2).setCell ⟨g, k * 4 + 2, none⟩ (.string (aB1 (k0 + 4 * k + 2))))).setCell ⟨g, k * 4 + 3, none⟩ (.int .i64 (m3 : Int)))) := c9.out.setCell (p := ⟨g, k * 4 + 3, none⟩) HG.out _;have d5 : Hid (∀ j, j < w.heap.size → (Value.slice (some ⟨g, 0, none⟩) n cap).ownBlock ≠ some j → (((((u2).setCell ⟨g, k * 4 + 2, none⟩ (.string (aB1 (k0 + 4 * k + 2))))).setCell ⟨g, k * 4 + 3, none⟩ (.int .i64 (m3 : Int)))).heap[j]? = w.heap[j]?) := fun j hj a0 => (heap_setCell_other _ _ j _ (fun e => a0 (by rw [e]; rfl))).trans (d0.out j hj a0)
  have b3 : Hid (aA5 (aL3 k0 l (k + 1)) = ((((aA5 (aL3 k0 l k)).set (k * 4) (.int .i64 ((k0 + 4 * k + 0 : Nat) : Int))).set (k * 4 + 1) (.string (aB1 (k0 + 4 * k + 1)))).set (k * 4 + 2) (.string (aB1 (k0 + 4 * k + 2)))).set (k * 4 + 3) (.int .i64 (m3 : Int))) := by
   show _ = _
   rw [d1.out, aL3, bG4 _ _ _ (by rw [aP1, a1.out]; exact hlt)]
  go_wp2
  go_roundw
  case rel => exact ⟨k + 1, by omega, by go_num, by first | go_num | (congr 1; omega), d4.out, by show World.ownsRow _ _ _ _ _ _ _; rw [b3.out]; exact d3.out, d5.out⟩
  case measure => simp [intOf]; omega
theorem bS9 (oa : Oa) (n cap base : Nat) (l : Bs) (w : World) (h1 : w.ownsRow base 62 4 (.slice oa n cap) n (aA5 l)) (k0 : Nat) (hk0 : 1 ≤ k0) (hn : k0 + 4 * n ≤ 99999999) (hm : ∀ j, j < n → (aF4 l j).1 = ((k0 + 4 * j + 0 : Nat) : Int) ∧ (aF4 l j).2.1 = (aB1 (k0 + 4 * j + 1)) ∧ (aF4 l j).2.2.1 = (aB1 (k0 + 4 * j + 2)) ∧ (aF4 l j).2.2.2 = ((k0 + 4 * j + 3 : Nat) : Int)) :
  Calls prog 58 #[.slice oa n cap, .int .i64 (k0 : Int)] w fun e w' => e = .returned (.int .i64 ((k0 : Int) + 4 * (n : Int))) ∧ Below w.heap.size w w' := by
 have H1 : Hid (∀ W, Bw w W → W.ownsRow base 62 4 (.slice oa n cap) n (aA5 l)) := fun W h => aC0 h1 h (fun g hg => aA6 h1 hg)
 have HM := hid hm;clear h1 hm;go_enter func58, ntmps58;go_wp2
 go_loopw [1, 5] (fun q i wr => ∃ k : Nat, k ≤ n ∧ i = .int .i64 (k : Int) ∧ q = .int .i64 ((k0 : Int) + 4 * (k : Int)) ∧ Hid (Bw w wr)) (fun _ i _ => n - (intOf i).toNat)
 case atStart => exact ⟨0, Nat.zero_le _, rfl, by simp, Below.refl _ _⟩
 case round =>
  obtain ⟨k, hk, rfl, rfl, HB⟩ := hrel;by_cases hlt : k < n
  rotate_left
  ·obtain rfl : k = n := by omega
   go_wp2
   go_ret;exact ⟨rfl, HB.out⟩
  have a8 : (k : Int) < (n : Int) := by omega
  obtain ⟨g, rfl⟩ := aJ0 (H1.out w (Below.refl _ _)) (by omega)
  have HA : Hid (∀ w0 w1, Bw w w0 → Below w0.heap.size w0 w1 → (w1.cell? ⟨g, k * 4, none⟩ = some (.int .i64 ((k0 + 4 * k + 0 : Nat) : Int)) ∧ w1.cell? ⟨g, k * 4 + 1, none⟩ = some (.string (aB1 (k0 + 4 * k + 1))) ∧ w1.cell? ⟨g, k * 4 + 2, none⟩ = some (.string (aB1 (k0 + 4 * k + 2))) ∧ w1.cell? ⟨g, k * 4 + 3, none⟩ = some (.int .i64 ((k0 + 4 * k + 3 : Nat) : Int))) ∧ Bw w w1) := fun w0 w1 h h' => by
   have hx := h.trans (h'.mono h.size)
   obtain ⟨g', e, _, a0, a1, a2, a3⟩ := (aN5 (H1.out w1 hx)).2 k hlt
   cases e
   obtain ⟨m0, m1, m2, m3⟩ := HM.out k hlt
   rw [m0] at a0
   rw [m1] at a1
   rw [m2] at a2
   rw [m3] at a3
   exact ⟨⟨a0, a1, a2, a3⟩, hx⟩
  obtain ⟨⟨e0, e1, e2, e3⟩, _⟩ := HA.out wr wr HB.out (Below.refl _ _);have a9 : ((((k0 + 4 * k + 0 : Nat) : Int)) != ((k0 : Int) + 4 * (k : Int))) = false := by first | (simp; done) | (simp; omega)
  go_wp2
  go_region_held3 (fun w' => w'.cell? ⟨g, k * 4 + 1, none⟩ = some (.string (aB1 (k0 + 4 * k + 1)))) (first | assumption | go_keep) (first | (go_at_call 117; refine (aE5 _ (k0 + 4 * k + 1) _ (by omega) (by omega) (by omega)).mono ?_; rintro e u1 ⟨rfl, b0⟩; obtain ⟨⟨e0, e1, e2, e3⟩, a4⟩ := HA.out _ u1 (HB.out).drew b0))
  have a6 := hid a4;clear a4;go_wp2
  go_region_held3 (fun w' => w'.cell? ⟨g, k * 4 + 2, none⟩ = some (.string (aB1 (k0 + 4 * k + 2)))) (first | assumption | go_keep) (first | (go_at_call 117; refine (aE5 _ (k0 + 4 * k + 2) _ (by omega) (by omega) (by omega)).mono ?_; rintro e u2 ⟨rfl, b1⟩; obtain ⟨⟨e0, e1, e2, e3⟩, a5⟩ := HA.out _ u2 (a6.out).drew b1))
  have a7 := hid a5;clear a5;have b2 : ((((k0 + 4 * k + 3 : Nat) : Int)) != ((k0 : Int) + 4 * (k : Int) + 1 + 1 + 1)) = false := by first | (simp; done) | (simp; omega)
  go_wp2
  go_roundw
  case rel => exact ⟨k + 1, by omega, by go_num, by first | go_num | (congr 1; omega), a7⟩
  case measure => simp [intOf]; omega
theorem cN1 {H : Type} {enc : TypeId × Value → H} {W : World} {fuel : Nat} {a : Oa} {n cap : Nat} {x : DataW H × List MemPlace} (h : DataW.trod enc prog W 0 (fun _ => true) true fuel 27 [.slice a n cap] = some x) :
  ∃ l, aQ0 W W.heap.size a n l ∧ n ≤ maxLen ∧ ∀ x ∈ l, (x.2.1).size ≤ maxLen ∧ (x.2.2.1).size ≤ maxLen := by
 rcases Go.Deep.open_slice underlying27 h with ⟨a1, _⟩ | ⟨ad, b1, c, m, q, Dd, Pl, a1, _, hl, hm, a5, _, hx⟩
 ·simp at a1
  obtain ⟨rfl, rfl, rfl⟩ := a1;exact ⟨[], ⟨rfl, fun i hi => absurd hi (by omega)⟩, Nat.zero_le _, fun x hx => by simp at hx⟩
 simp at a1
 obtain ⟨rfl, rfl, rfl⟩ := a1;have b2 : m = cap := by simpa using a5
 have ce : prog.cellsOf 59 = 4 := by kernel_rfl
 have ci : prog.cellsOf 3 = 1 := by kernel_rfl
 have cs : prog.cellsOf 9 = 1 := by kernel_rfl
 have a2 : ∀ i, i < n → ∃ y : (Int × ByteArray × ByteArray × Int), (W.cell? (ad.add (i * 4 + 0)) = some (.int .i64 (y.1)) ∧ W.cell? (ad.add (i * 4 + 1)) = some (.string (y.2.1)) ∧ W.cell? (ad.add (i * 4 + 2)) = some (.string (y.2.2.1)) ∧ W.cell? (ad.add (i * 4 + 3)) = some (.int .i64 (y.2.2.2))) ∧ (y.2.1).size ≤ maxLen ∧ (y.2.2.1).size ≤ maxLen := by
  intro i hi
  obtain ⟨a6, h1, h2⟩ := hx i (by omega)
  rw [ce] at h1
  obtain ⟨_, a3, a0⟩ := World.cells?_some h1
  obtain ⟨xs, k, hk, b3, _, a7, hf⟩ := DataW.trod_struct underlying59 h2
  match xs, a7, a6, a3 with
  | [x0, x1, x2, x3], _, [v0, v1, v2, v3], _ =>
   have g0 := hf 0 _ rfl
   have g1 := hf 1 _ rfl
   have g2 := hf 2 _ rfl
   have g3 := hf 3 _ rfl
   simp [ci, cs] at g0 g1 g2 g3
   obtain ⟨s0, e0, _, _⟩ := DataW.trod_int underlying3 g0
   obtain ⟨s1, e1, _, z1⟩ := DataW.trod_string underlying9 g1
   obtain ⟨s2, e2, _, z2⟩ := DataW.trod_string underlying9 g2
   obtain ⟨s3, e3, _, _⟩ := DataW.trod_int underlying3 g3
   simp only [List.cons.injEq, and_true] at e0 e1 e2 e3
   subst e0 e1 e2 e3
   have c0 := a0 0 (by omega)
   have c1 := a0 1 (by omega)
   have c2 := a0 2 (by omega)
   have c3 := a0 3 (by omega)
   rw [Go.Deep.add_add] at c0 c1 c2 c3
   exact ⟨(s0, s1, s2, s3), ⟨by simpa using c0, by simpa using c1, by simpa using c2, by simpa using c3⟩, ⟨z1, z2⟩⟩
 obtain ⟨q, hq⟩ := Go.Deep.choose_lt a2
 have a8 : ∀ i, i < n → aF4 ((List.range n).map q) i = q i := fun i hi => by
  unfold aF4
  rw [List.getD_eq_getElem?_getD, List.getElem?_map, List.getElem?_range hi]
  rfl
 refine ⟨(List.range n).map q, ⟨by simp, fun i hi => ?_⟩, by omega, fun x hx => ?_⟩
 ·obtain ⟨c0, _⟩ := hq i hi;obtain ⟨c3, _⟩ := hq 0 (by omega)
  have a4 : ad.spot = none := by
   have := World.cell?_spot c3.1
   simpa [Addr.add] using this
  clear c3;obtain ⟨b, a9, sp⟩ := ad;simp only at a4
  subst a4;simp only [aY3] at c0
  rw [a8 i hi];have b0 := World.block_lt_of_cell? W _ c0.1;exact ⟨b, a9, rfl, b0, by simpa [Nat.add_assoc] using c0.1, by simpa [Nat.add_assoc] using c0.2.1, by simpa [Nat.add_assoc] using c0.2.2.1, by simpa [Nat.add_assoc] using c0.2.2.2⟩
 obtain ⟨i, hi, rfl⟩ := List.mem_map.1 hx;exact (hq i (List.mem_range.1 hi)).2
def AnyP (l : Bs) (p : Tx) (xs ys : Ts) (st : Int) (fs : Fs) (d : Tx) (u : Int) : Prop := ∃ x ∈ l, HitP x.1 x.2.1 x.2.2.1 x.2.2.2 p xs ys st fs d u
theorem bG5 (oa : Oa) (n cap : Nat) (l : Bs) (p : Tx) (o1 : Oa) (n1 c1 : Nat) (xs : Ts) (o2 : Oa) (n2 c2 : Nat) (ys : Ts) (st : Int) (v3 : Value) (n3 base : Nat) (fs : Fs) (d : Tx) (u : Int) (w : World) (hl : BanA w oa n l) (hn : n ≤ 2000000) (hlz : ∀ x ∈ l, x.2.1.size ≤ maxLen ∧ x.2.2.1.size ≤ maxLen) (h1 : aC4 w o1 n1 xs) (h2 : aC4 w o2 n2 ys) (h3 : aB3 w base v3 n3 fs) (hn1 : n1 ≤ 2000000) (hn2 : n2 ≤ 2000000) (hn3 : n3 ≤ 2000000) (hs1 : ∀ i, i < n1 → (aA8 xs i).size ≤ maxLen) (hs2 : ∀ i, i < n2 → (aA8 ys i).size ≤ maxLen) (hs3 : aP6 n3 fs) (hp : p.size ≤ maxLen) (hx : d.size ≤ maxLen) (hg : (getV fs aF0).size ≤ 1048576) :
  Calls prog 35 #[.slice oa n cap, .agg #[.string p, .slice o1 n1 c1, .slice o2 n2 c2, .int .i64 st, v3, .string d, .int .i64 u]] w fun e w' => aA4 (AnyP l p xs ys st fs d u) w e w' := by
 obtain ⟨o3, c3, rfl, _⟩ := h3.slice;have HL : Hid (∀ W, Bw w W → BanA W oa n l) := fun W h => hl.below h
 have b0 : Hid (l.length = n) := hl.1
 have HC : Hid (∀ (k : Int) (a b : Tx) (t : Int) (W : World), Bw w W → a.size ≤ maxLen → b.size ≤ maxLen → Calls prog 98 #[.agg #[.int .i64 k, .string a, .string b, .int .i64 t], .agg #[.string p, .slice o1 n1 c1, .slice o2 n2 c2, .int .i64 st, .slice o3 n3 c3, .string d, .int .i64 u]] W fun e w' => aA4 (HitP k a b t p xs ys st fs d u) W e w') := fun k a b t W h ha hb =>
  bS6 k a b t p o1 n1 c1 xs o2 n2 c2 ys st _ n3 base fs d u W ha hb (h1.below h) (h2.below h) (h3.below h) hn1 hn2 hn3 hs1 hs2 hs3 hp hx hg
 have b2 := hid hlz;obtain ⟨q, hq⟩ := exq (w.heap.size);obtain ⟨W1, a3⟩ := exq (w.alloc (.cells #[.string p, .slice o1 n1 c1, .slice o2 n2 c2, .int .i64 st, .slice o3 n3 c3, .string d, .int .i64 u] 51));have H1 : Hid (Bw w W1 ∧ W1.heap[q]? = some (.cells #[.string p, .slice o1 n1 c1, .slice o2 n2 c2, .int .i64 st, .slice o3 n3 c3, .string d, .int .i64 u] 51)) := ⟨by rw [a3]; exact (Below.refl _ _).alloc (Nat.le_refl _) _, by rw [a3, hq]; exact heap_alloc_new _ _⟩;clear hl hlz h1 h2 h3 hs1 hs2 hs3 hp hx hg;go_enter func35, ntmps35;go_upto_region 1 with fail
 rw [← a3, ← hq];clear a3 hq;go_wp2_with fail
 go_loopw [5] (fun i wr => ∃ j : Nat, j ≤ n ∧ i = .int .i64 (j : Int) ∧ Hid (Bw w wr ∧ wr.heap[q]? = some (.cells #[.string p, .slice o1 n1 c1, .slice o2 n2 c2, .int .i64 st, .slice o3 n3 c3, .string d, .int .i64 u] 51)) ∧ Hid (∀ x ∈ l.take j, ¬ HitP x.1 x.2.1 x.2.2.1 x.2.2.2 p xs ys st fs d u)) (fun i _ => n - (intOf i).toNat)
 case atStart => exact ⟨0, Nat.zero_le _, rfl, H1, fun x hx => by simp at hx⟩
 case round =>
  obtain ⟨j, hj, rfl, HW, HN⟩ := hrel;by_cases hlt : (j : Int) < (n : Int)
  rotate_left
  ·have HA : Hid (¬ AnyP l p xs ys st fs d u) := by
    rintro ⟨x, hx, h⟩
    have h2 := HN.out
    rw [List.take_of_length_le (by rw [b0.out]; omega)] at h2
    exact h2 x hx h
   clear HN;go_wp2_with fail
   go_ret;exact aA4.no HA.out HW.out.1
  have a8 : j < l.length := by rw [b0.out]; omega
  obtain ⟨g, b3, a4, r1, r2, r3, r4⟩ := (HL.out wr HW.out.1).2 j (by omega);subst b3;obtain ⟨y, hy⟩ := exq (aF4 l j);rw [← hy] at r1 r2 r3 r4;have HM : Hid (y ∈ l) := by show _ ∈ _; rw [hy]; exact aR3 l j a8
  have b4 : Hid (l.take (j + 1) = l.take j ++ [y]) := by show _ = _; rw [hy]; exact aR4 l j a8
  clear hy a8;obtain ⟨k, a, b, t⟩ := y;dsimp only at r1 r2 r3 r4;obtain ⟨za, zb⟩ := b2.out _ HM.out;dsimp only at za zb;have a0 := HW.out.2;have e0 : wr.cell? ⟨q, 0, none⟩ = some (.string p) := (aB0 a0 0).trans rfl;have e1 : wr.cell? ⟨q, 1, none⟩ = some (.slice o1 n1 c1) := (aB0 a0 1).trans rfl;have e2 : wr.cell? ⟨q, 2, none⟩ = some (.slice o2 n2 c2) := (aB0 a0 2).trans rfl;have e3 : wr.cell? ⟨q, 3, none⟩ = some (.int .i64 st) := (aB0 a0 3).trans rfl;have e4 : wr.cell? ⟨q, 4, none⟩ = some (.slice o3 n3 c3) := (aB0 a0 4).trans rfl;have e5 : wr.cell? ⟨q, 5, none⟩ = some (.string d) := (aB0 a0 5).trans rfl;have e6 : wr.cell? ⟨q, 6, none⟩ = some (.int .i64 u) := (aB0 a0 6).trans rfl
  have a9 : Hid (∀ W, Below wr.heap.size wr W → ((W.cell? ⟨g, j * 4, none⟩ = some (.int .i64 k) ∧ W.cell? ⟨g, j * 4 + 1, none⟩ = some (.string a) ∧ W.cell? ⟨g, j * 4 + 2, none⟩ = some (.string b) ∧ W.cell? ⟨g, j * 4 + 3, none⟩ = some (.int .i64 t)) ∧ (W.cell? ⟨q, 0, none⟩ = some (.string p) ∧ W.cell? ⟨q, 1, none⟩ = some (.slice o1 n1 c1) ∧ W.cell? ⟨q, 2, none⟩ = some (.slice o2 n2 c2) ∧ W.cell? ⟨q, 3, none⟩ = some (.int .i64 st) ∧ W.cell? ⟨q, 4, none⟩ = some (.slice o3 n3 c3) ∧ W.cell? ⟨q, 5, none⟩ = some (.string d) ∧ W.cell? ⟨q, 6, none⟩ = some (.int .i64 u))) ∧ W.heap[q]? = some (.cells #[.string p, .slice o1 n1 c1, .slice o2 n2 c2, .int .i64 st, .slice o3 n3 c3, .string d, .int .i64 u] 51)) := fun W h => by
   have a1 := aA3 HW.out.2 h
   exact ⟨⟨⟨by rw [h.cell (p := ⟨g, j * 4, none⟩) a4]; exact r1, by rw [h.cell (p := ⟨g, j * 4 + 1, none⟩) a4]; exact r2, by rw [h.cell (p := ⟨g, j * 4 + 2, none⟩) a4]; exact r3, by rw [h.cell (p := ⟨g, j * 4 + 3, none⟩) a4]; exact r4⟩, (aB0 a1 0).trans rfl, (aB0 a1 1).trans rfl, (aB0 a1 2).trans rfl, (aB0 a1 3).trans rfl, (aB0 a1 4).trans rfl, (aB0 a1 5).trans rfl, (aB0 a1 6).trans rfl⟩, a1⟩
  have a5 := hid HW.out.1;clear a0 HW;go_wp2_with fail
  refine wp_region_held_drew (S := fun W => (W.cell? ⟨g, j * 4, none⟩ = some (.int .i64 k) ∧ W.cell? ⟨g, j * 4 + 1, none⟩ = some (.string a) ∧ W.cell? ⟨g, j * 4 + 2, none⟩ = some (.string b) ∧ W.cell? ⟨g, j * 4 + 3, none⟩ = some (.int .i64 t)) ∧ (W.cell? ⟨q, 0, none⟩ = some (.string p) ∧ W.cell? ⟨q, 1, none⟩ = some (.slice o1 n1 c1) ∧ W.cell? ⟨q, 2, none⟩ = some (.slice o2 n2 c2) ∧ W.cell? ⟨q, 3, none⟩ = some (.int .i64 st) ∧ W.cell? ⟨q, 4, none⟩ = some (.slice o3 n3 c3) ∧ W.cell? ⟨q, 5, none⟩ = some (.string d) ∧ W.cell? ⟨q, 6, none⟩ = some (.int .i64 u))) (by kernel_rfl) ⟨⟨r1, r2, r3, r4⟩, e0, e1, e2, e3, e4, e5, e6⟩ (fun a2 => ?_)
  refine tkP 0 (.slice (some ⟨g, 0, none⟩) n cap) 12 rfl rfl a2 (tkP 1 (.int .i64 (j : Int)) 13 rfl rfl a2 (tkP 2 (.pointer (some ⟨g, j * 4, none⟩)) 14 rfl rfl a2 ?_));go_frame;refine tkL 3 (.agg #[.int .i64 k, .string a, .string b, .int .i64 t]) 15 rfl rfl (Or.inl ⟨by rfl, by intro W hW; obtain ⟨⟨y0, y1, y2, y3⟩, _⟩ := hW; go_simp⟩) a2 ?_;go_frame;refine tkL 4 (.agg #[.string p, .slice o1 n1 c1, .slice o2 n2 c2, .int .i64 st, .slice o3 n3 c3, .string d, .int .i64 u]) 16 rfl rfl (Or.inl ⟨by rfl, by intro W hW; obtain ⟨_, y0, y1, y2, y3, y4, y5, y6⟩ := hW; go_simp⟩) a2 ?_;go_frame;refine rd1 5 rfl (fun K hK => ?_)
  go_simp;refine (HC.out k a b t _ a5.out.drew za zb).mono ?_;rintro e w1 ⟨tx, rfl, a6, bw⟩;have a7 : Hid (Below wr.heap.size wr w1) := (Below.refl _ wr).drew.trans bw;have b1 : Hid (Bw w w1 ∧ w1.heap[q]? = some (.cells #[.string p, .slice o1 n1 c1, .slice o2 n2 c2, .int .i64 st, .slice o3 n3 c3, .string d, .int .i64 u] 51)) := ⟨a5.out.trans (a7.out.mono a5.out.size), (a9.out w1 a7.out).2⟩;refine hK.out _ _ (a9.out w1 a7.out).1 (fun _ => ?_)
  refine wdn ?_;clear hK K a2 r1 r2 r3 r4 e0 e1 e2 e3 e4 e5 e6 bw a9 a7 a5;cases tx with
  | true =>
   have HA : Hid (AnyP l p xs ys st fs d u) := ⟨_, HM.out, a6.1 rfl⟩;clear a6 HN;go_wp2_with fail
   go_ret;exact ⟨true, rfl, ⟨fun _ => HA.out, fun _ => rfl⟩, b1.out.1⟩
  | false =>
   have b5 : Hid (∀ x ∈ l.take (j + 1), ¬ HitP x.1 x.2.1 x.2.2.1 x.2.2.2 p xs ys st fs d u) := by
    intro x hx
    rw [b4.out] at hx
    rcases List.mem_append.1 hx with hx | hx
    ·exact HN.out x hx
    ·rw [List.mem_singleton.1 hx]; exact fun h => nomatch a6.2 h
   clear a6 HN;go_wp2_with fail
   go_roundw
   case rel => exact ⟨j + 1, by omega, by go_num, b1, b5⟩
   case measure => simp [intOf]; omega
def decT (n : Nat) : ByteArray := ⟨(Lib.decDigits n).toArray⟩
theorem bX5 (n : Nat) : bs (decT n) = Lib.decDigits n := by simp [bs, decT]
def sumL (p : Nat × Nat) : List UInt8 → Nat × Nat
 | [] => p
 | x :: r => sumL ((p.1 + x.toNat) % 65521, (p.2 + (p.1 + x.toNat) % 65521) % 65521) r
def sumP (s : Tx) : Nat := 65521 * (sumL (1, 0) (bs s)).2 + (sumL (1, 0) (bs s)).1
theorem bG6 (x : UInt8) : ∀ (l : List UInt8) (p : Nat × Nat), sumL p (l ++ [x]) = (((sumL p l).1 + x.toNat) % 65521, ((sumL p l).2 + ((sumL p l).1 + x.toNat) % 65521) % 65521)
 | [], _ => rfl
 | y :: l, p => by
  rw [List.cons_append, sumL, bG6 x l, sumL]
theorem cJ3 : ∀ (l : List UInt8) (p : Nat × Nat), p.1 < 65521 → p.2 < 65521 → (sumL p l).1 < 65521 ∧ (sumL p l).2 < 65521
 | [], _, h1, h2 => ⟨h1, h2⟩
 | y :: l, p, _, _ => by
  rw [sumL]
  exact cJ3 l _ (Nat.mod_lt _ (by decide)) (Nat.mod_lt _ (by decide))
theorem bO0 (s : Tx) : sumP s ≤ 4293001440 := by
 have h := cJ3 (bs s) (1, 0) (by decide) (by decide);unfold sumP;omega
def recR (seq : Nat) (b : Tx) : ByteArray := decT seq ++ ⟨#[32]⟩ ++ decT b.size ++ ⟨#[10]⟩ ++ b
def recT (seq : Nat) (b : Tx) : ByteArray := decT (sumP (recR seq b)) ++ ⟨#[32]⟩ ++ recR seq b
def RecP (seq : Int) (b : Tx) : Prop := 1 ≤ seq ∧ seq ≤ 100000 ∧ b.size ≤ 2000
def recI (seq : Int) (b : Tx) : ByteArray := if 1 ≤ seq ∧ seq ≤ 100000 ∧ b.size ≤ 2000 then recT seq.toNat b else ⟨#[]⟩
theorem bE1 {seq : Int} {b : ByteArray} (h : RecP seq b) : recI seq b = recT seq.toNat b := if_pos h
theorem bO1 {seq : Int} {b : ByteArray} (h : ¬ RecP seq b) : recI seq b = ⟨#[]⟩ := if_neg h
def cQ1 : KpD := ⟨⟨#[]⟩, [], [], 0, [], ⟨#[]⟩, 0, 0, 0⟩
def kpAt (ks : List KpD) (i : Nat) : KpD := ks.getD i cQ1
theorem aT4 (ks : List KpD) (i : Nat) (h : i < ks.length) : ks[i]'h = kpAt ks i := by
 unfold kpAt;rw [List.getD_eq_getElem?_getD, List.getElem?_eq_getElem h];rfl
theorem cB1 (ks : List KpD) (i : Nat) (h : i < ks.length) : kpAt ks i ∈ ks := by rw [← aT4 ks i h]; exact List.getElem_mem h
theorem aK4 (ks : List KpD) (i : Nat) (h : i < ks.length) : ks.take (i + 1) = ks.take i ++ [kpAt ks i] := by rw [← aT4 ks i h, List.take_succ_eq_append_getElem h]
def ObjK (k : KpD) : Prop := ObjP k.p k.xs k.ys k.st k.fs k.b k.t
def AnyK (bl : Bs) (k : KpD) : Prop := AnyP bl k.p k.xs k.ys k.st k.fs k.b k.t
def KpOk (ks : List KpD) (sq : Int) (i : Nat) : Prop :=
 ObjK (kpAt ks i) ∧ (5 ≤ (kpAt ks i).a ∧ (kpAt ks i).a ≤ 19) ∧ (1 ≤ (kpAt ks i).q ∧ (kpAt ks i).q ≤ sq - 1) ∧ (0 < i → (kpAt ks (i - 1)).q < (kpAt ks i).q) ∧ ∀ j, j < i → (kpAt ks j).a ≠ (kpAt ks i).a
structure ShD where
 cs : Ts
 ws : List (Int × ByteArray)
 ks : List KpD
 bl : Bs
 nx : Int
 sq : Int
def aI5 (s : ShD) : Prop :=
 aG5 s.cs s.ws ∧ s.bl.length ≤ 5 ∧ (5 ≤ s.nx ∧ s.nx ≤ 19) ∧ (1 ≤ s.sq ∧ s.sq ≤ 100000) ∧ (∀ x ∈ s.bl, BanP x.1 x.2.1 x.2.2.1 x.2.2.2) ∧ ∀ i, i < s.ks.length → KpOk s.ks s.sq i
def bD2 : ShD := ⟨[], [], [], [], 0, 0⟩
def aU8 (cs : Ts) (ws : List (Int × ByteArray)) : Ts := if ws.length = 16 then aL5 cs ws (fun _ => true) else cs
def aV4 (ws : List (Int × ByteArray)) (x : Int) (t : Tx) : List (Int × ByteArray) := if ws.length = 16 then [(x, t)] else ws ++ [(x, t)]
structure ObjO (W : World) (base : Nat) (v1 : Value) (n1 : Nat) (xs : Ts) (v2 : Value) (n2 : Nat) (ys : Ts) (v3 : Value) (n3 : Nat) (fs : Fs) : Prop where
 names : W.ownsRow base 9 1 v1 n1 (xs.map Value.string)
 vals : W.ownsRow base 9 1 v2 n2 (ys.map Value.string)
 flds : W.ownsRow base 184 2 v3 n3 (aF3 fs)
 ne : ∀ j, v1.ownBlock = some j → v2.ownBlock ≠ some j
theorem cJ4 (p : Tx) (a1 : Oa) (n1 c1 : Nat) (xs : Ts) (a2 : Oa) (n2 c2 : Nat) (ys : Ts) (st : Int) (a3 : Oa) (n3 c3 : Nat) (fs : Fs) (b : Tx) (t : Int) (B : Nat) (w : World) (h1 : ArgT w B a1 n1 xs) (h2 : ArgT w B a2 n2 ys) (h3 : ArgF w B a3 n3 fs) (hB : B ≤ w.heap.size) (hn1 : n1 ≤ 1048576) (hn2 : n2 ≤ 1048576) (hn3 : n3 ≤ 1048576) :
  Calls prog 10 #[.agg #[.string p, .slice a1 n1 c1, .slice a2 n2 c2, .int .i64 st, .slice a3 n3 c3, .string b, .int .i64 t]] w fun e w' => ∃ v1 v2 v3, e = .returned (.agg #[.string p, v1, v2, .int .i64 st, v3, .string b, .int .i64 t]) ∧ ObjO w' w.heap.size v1 n1 xs v2 n2 ys v3 n3 fs ∧ Below w.heap.size w w' := by
 have e0 := hid fun W (h : Bw w W) => h1.below (h.mono hB)
 have e1 := hid fun W (h : Bw w W) => h2.below (h.mono hB)
 have e2 := hid fun W (h : Bw w W) => h3.below (h.mono hB)
 have b8 : Hid (∀ W, Bw w W → B ≤ W.heap.size) := fun W h => Nat.le_trans hB h.size
 clear h1 h2 h3;have K0 := jnil w;go_enter func10, ntmps10;go_upto_region 1 with fail
 obtain ⟨q1, b9⟩ := exq (w.heap.size);obtain ⟨w1, a9⟩ := exq (w.alloc (.cells #[.string p, .slice a1 n1 c1, .slice a2 n2 c2, .int .i64 st, .slice a3 n3 c3, .string b, .int .i64 t] 34));have c0 := b9.symm;rw [← a9]; try rw [← b9];have d9 := hsa a9 c0;have bw := bal a9;have K1 := ja K0 a9 c0;clear bw a9 c0 K0;obtain ⟨q2, c4⟩ := exq (q1 + 1);obtain ⟨w2, b0⟩ := exq (w1.alloc (.cells #[.string ⟨#[]⟩, .slice none 0 0, .slice none 0 0, .int .i64 0, .slice none 0 0, .string ⟨#[]⟩, .int .i64 0] 51));have c5 : w1.heap.size = q2 := by rw [c4]; exact d9
 rw [← b0]; try rw [← c4];have e3 := hsa b0 c5;have bw := bal b0;have K2 := ja K1 b0 c5;clear bw b0 c5 K1;clear e3 c4 d9 b9;go_upto_region 2 with fail
 obtain ⟨q3, c6⟩ := exq (w2.heap.size);obtain ⟨w3, b1⟩ := exq (w2.alloc (.cells #[.string ⟨#[]⟩, .slice none 0 0, .slice none 0 0, .int .i64 0, .slice none 0 0, .string ⟨#[]⟩, .int .i64 0] 51));have c7 := c6.symm;rw [← b1]; try rw [← c6];have e4 := hsa b1 c7;have bw := bal b1;have K3 := ja K2 b1 c7;clear bw b1 c7 K2;clear e4 c6;have c8 := c7c (jb K3 2 rfl);have b2 := c7f (jb K3 0 rfl);go_upto_region 3 with fail
 obtain ⟨w4, c9⟩ := exq (w3.setCell ⟨q3, 0, none⟩ (.string p));rw [← c9];have K4 := js K3 0 c9;clear c9 K3;clear c8 b2;have d0 := c7c (jb K4 2 rfl);go_wp2_with fail
 refine (aS7 B a1 n1 c1 xs _ (e0.out _ K4.hb) (b8.out _ K4.hb) hn1).mono ?_;rintro e w5 ⟨vv, rfl, a0, bw⟩;obtain ⟨oN, pN, rfl⟩ := aA0 a0;have K5 := jj K4 (jcR (jN bw) a0 jhn);have e5 := hhi a0;clear a0;clear bw K4;clear d0;have d1 := c7f (jb K5 1 rfl);go_upto_region 4 with fail
 obtain ⟨w6, b5⟩ := exq (w5.setCell ⟨q3, 1, none⟩ (.slice oN n1 pN));rw [← b5];have K6 := js K5 1 b5;have e6 : Hid (w5.heap.size ≤ w6.heap.size) := by show _ ≤ _; rw [b5]; simp
 clear b5 K5;clear d1;have d2 := c7c (jb K6 3 rfl);go_wp2_with fail
 refine (aS7 B a2 n2 c2 ys _ (e1.out _ K6.hb) (b8.out _ K6.hb) hn2).mono ?_;rintro e w7 ⟨vv, rfl, a4, bw⟩;obtain ⟨oV, pV, rfl⟩ := aA0 a4;have K7 := jj K6 (jcR (jN bw) a4 jhn);have e7 := hsz bw;have e8 := hlo a4;clear a4;clear bw K6;clear d2;have d3 := c7f (jb K7 2 rfl);go_upto_region 5 with fail
 obtain ⟨w8, d4⟩ := exq (w7.setCell ⟨q3, 2, none⟩ (.slice oV n2 pV));rw [← d4];have K8 := js K7 2 d4;clear d4 K7;clear d3;have d5 := c7c (jb K8 4 rfl);go_wp2_with fail
 refine (cD2 st a3 n3 c3 b fs B _ (e2.out _ K8.hb) (b8.out _ K8.hb) hn3).mono ?_;rintro e w9 ⟨vv, rfl, a5, bw⟩;obtain ⟨oF, pF, rfl⟩ := aA0 a5;have K9 := jj K8 (jcR (jN bw) a5 jhn);clear a5;clear bw K8;clear d5;have d6 := c7f (jb K9 3 rfl);go_upto_region 6 with fail
 obtain ⟨e9, a6⟩ := exq (((w9.setCell ⟨q3, 3, none⟩ (.int .i64 st)).setCell ⟨q3, 4, none⟩ (.slice oF n3 pF)).setCell ⟨q3, 5, none⟩ (.string b));rw [← a6];have b6 := jss K9 3 [(3, _), (4, _), (5, _)] a6;clear a6 K9;clear d6;have d7 := c7c (jb b6 5 rfl);have d8 := c7f (jb b6 3 rfl);go_upto_region 7 with fail
 obtain ⟨f0, a7⟩ := exq (e9.setCell ⟨q3, 6, none⟩ (.int .i64 t));rw [← a7];have b7 := js b6 3 a7;clear a7 b6;clear d7 d8;have f1 := c7f (jb b7 4 rfl);have b2 := c7c (jb b7 3 rfl);go_wp2_with fail
 obtain ⟨f2, a8⟩ := exq (((((((f0.setCell ⟨q2, 0, none⟩ (.string p)).setCell ⟨q2, 1, none⟩ (.slice oN n1 pN)).setCell ⟨q2, 2, none⟩ (.slice oV n2 pV)).setCell ⟨q2, 3, none⟩ (.int .i64 st)).setCell ⟨q2, 4, none⟩ (.slice oF n3 pF)).setCell ⟨q2, 5, none⟩ (.string b)).setCell ⟨q2, 6, none⟩ (.int .i64 t));rw [← a8];have b3 := jss b7 4 [(0, _), (1, _), (2, _), (3, _), (4, _), (5, _), (6, _)] a8;clear a8 b7;have b4 := c7c (jb b3 4 rfl);refine bodyPost_ret (v := .agg #[.string p, .slice oN n1 pN, .slice oV n2 pV, .int .i64 st, .slice oF n3 pF, .string b, .int .i64 t]) (by simp [results, results10, go_sem, b4]) rfl ?_;exact ⟨_, _, _, rfl, ⟨(jo b3 2 rfl), (jo b3 1 rfl), (jo b3 0 rfl), fun g hg e => by have h1 := e8.out g e; have h2 := e5.out g hg; have := e6.out; have := e7.out; omega⟩, b3.hb⟩
theorem cV1 {w : World} {B B' : Nat} {a : Oa} {n : Nat} {fs : Fs} (h : ArgF w B a n fs) (hB : B ≤ B') : ArgF w B' a n fs :=
 ⟨h.len, fun i hi => by
  obtain ⟨b, off, h1, h2, h3⟩ := h.get i hi
  exact ⟨b, off, h1, Nat.lt_of_lt_of_le h2 hB, h3⟩⟩
def cS8 (L : Int) (p : Tx) (n1 : Nat) (xs : Ts) (n2 : Nat) (ys : Ts) (n3 : Nat) (fs : Fs) (b : Tx) (w : World) (e : Ending) (w' : World) : Prop :=
 ∃ r : Int, e = .returned (.int .i64 r) ∧ r ≤ L ∧ (0 ≤ r → r + (n1 : Int) + (n2 : Int) + (n3 : Int) ≤ L ∧ (p.size ≤ 1048576 ∧ b.size ≤ 1048576) ∧ (n1 ≤ 1048576 ∧ ∀ i, i < n1 → (aA8 xs i).size ≤ 1048576) ∧ (n2 ≤ 1048576 ∧ ∀ i, i < n2 → (aA8 ys i).size ≤ 1048576) ∧ n3 ≤ 1048576 ∧ szTo fs n3 ≤ 1048576) ∧ Below w.heap.size w w'
theorem cJ5 (L : Int) (hL0 : 0 ≤ L) (hL1 : L ≤ 1048576) (p : Tx) (a1 : Oa) (n1 c1 : Nat) (xs : Ts) (a2 : Oa) (n2 c2 : Nat) (ys : Ts) (st : Int) (a3 : Oa) (n3 c3 : Nat) (fs : Fs) (b : Tx) (t : Int) (B : Nat) (w : World) (h1 : ArgT w B a1 n1 xs) (h2 : ArgT w B a2 n2 ys) (h3 : ArgF w B a3 n3 fs) (hB : B ≤ w.heap.size) (hn1 : n1 ≤ maxLen) (hn2 : n2 ≤ maxLen) (hn3 : n3 ≤ maxLen) (hs1 : ∀ i, i < n1 → (aA8 xs i).size ≤ maxLen) (hs2 : ∀ i, i < n2 → (aA8 ys i).size ≤ maxLen) (hs3 : aP6 n3 fs) (hp : p.size ≤ maxLen) (hx : b.size ≤ maxLen) :
  Calls prog 7 #[.agg #[.string p, .slice a1 n1 c1, .slice a2 n2 c2, .int .i64 st, .slice a3 n3 c3, .string b, .int .i64 t], .int .i64 L] w fun e w' => cS8 L p n1 xs n2 ys n3 fs b w e w' := by
 have b8 := hid fun W (h : Bw w W) => h1.below (h.mono hB)
 have b9 := hid fun W (h : Bw w W) => h2.below (h.mono hB)
 have c0 := hid fun W (h : Bw w W) => h3.below (h.mono hB)
 have a9 : Hid (∀ W, Bw w W → B ≤ W.heap.size) := fun W h => Nat.le_trans hB h.size
 clear h1 h2 h3;have c4 := hid hn1;have c5 := hid hn2;have c6 := hid hn3;have c7 := hid hs1;have c8 := hid hs2;have c9 := hid hs3;have HX := hid hx;unfold maxLen at hp;clear hs1 hs2 hs3 hn1 hn2 hn3 hx;have K0 := jnil w;go_enter func7, ntmps7;go_upto_region 1 with fail
 obtain ⟨q1, b0⟩ := exq (w.heap.size);obtain ⟨w1, a6⟩ := exq (w.alloc (.cells #[.string p, .slice a1 n1 c1, .slice a2 n2 c2, .int .i64 st, .slice a3 n3 c3, .string b, .int .i64 t] 34));have b1 := b0.symm;rw [← a6]; try rw [← b0];have hs1 := hsa a6 b1;have bw := bal a6;have K1 := ja K0 a6 b1;clear bw a6 b1 K0;clear hs1 b0;have b2 := c7c (jb K1 0 rfl);by_cases hc1 : (L - (p.size : Int)) < 0
 ·go_wp2_with fail
  go_ret;exact ⟨-1, rfl, by omega, fun h => absurd h (by omega), K1.hb⟩
 have b3 := c7c (jb K1 0 rfl);go_wp2_with fail
 refine (aO6 (L - (p.size : Int)) (by omega) (by omega) B a1 n1 c1 xs _ (b8.out _ K1.hb) (a9.out _ K1.hb) c4.out c7.out).mono ?_;rintro e w2 ⟨r2, rfl, d0, a0, bw⟩;have K2 := jw K1 bw;clear bw K1;clear b2 b3;by_cases hc3 : r2 < 0
 ·clear a0;go_wp2_with fail
  go_ret;exact ⟨-1, rfl, by omega, fun h => absurd h (by omega), K2.hb⟩
 obtain ⟨d1, d2, a7⟩ := a0 (by omega);have b4 := (show Hid _ from a7);clear a0 a7;have b5 := c7c (jb K2 0 rfl);go_wp2_with fail
 refine (aO6 r2 (by omega) (by omega) B a2 n2 c2 ys _ (b9.out _ K2.hb) (a9.out _ K2.hb) c5.out c8.out).mono ?_;rintro e w3 ⟨r4, rfl, d3, a4, bw⟩;have K3 := jw K2 bw;clear bw K2;clear b5;by_cases hc5 : r4 < 0
 ·clear a4;go_wp2_with fail
  go_ret;exact ⟨-1, rfl, by omega, fun h => absurd h (by omega), K3.hb⟩
 obtain ⟨d4, d5, a8⟩ := a4 (by omega);have b6 := (show Hid _ from a8);clear a4 a8;have b7 := c7c (jb K3 0 rfl);go_wp2_with fail
 refine (bW4 r4 (by omega) (by omega) st a3 n3 c3 b fs _ (cV1 (c0.out _ K3.hb) (a9.out _ K3.hb)) c6.out c9.out HX.out).mono ?_;rintro e w4 ⟨r6, rfl, d6, a5, bw⟩;have K4 := jw K3 bw;clear bw K3;clear b7;by_cases hc7 : r6 < 0
 ·clear a5;go_wp2_with fail
  go_ret;exact ⟨-1, rfl, by omega, fun h => absurd h (by omega), K4.hb⟩
 obtain ⟨d7, d8, d9, e0⟩ := a5 (by omega);clear a5;go_wp2_with fail
 go_ret;exact ⟨_, rfl, by omega, fun _ => ⟨by omega, ⟨by omega, by omega⟩, ⟨by omega, b4.out⟩, ⟨by omega, b6.out⟩, by omega, by omega⟩, K4.hb⟩
theorem cJ6 (p : Tx) (n1 : Nat) (xs : Ts) (n2 : Nat) (ys : Ts) (st : Int) (n3 : Nat) (fs : Fs) (b : Tx) (t : Int) (v1 v2 v3 u1 u2 u3 : Value) (B1 B2 : Nat) (w : World) (hx : ObjO w B1 v1 n1 xs v2 n2 ys v3 n3 fs) (hy : ObjO w B2 u1 n1 xs u2 n2 ys u3 n3 fs) (hn1 : n1 ≤ 2000000) (hn2 : n2 ≤ 2000000) (hn3 : n3 ≤ 2000000) :
  Calls prog 13 #[.agg #[.string p, v1, v2, .int .i64 st, v3, .string b, .int .i64 t], .agg #[.string p, u1, u2, .int .i64 st, u3, .string b, .int .i64 t]] w fun e w' => e = .returned (.bool true) ∧ Below w.heap.size w w' := by
 obtain ⟨e2, e3, rfl⟩ := aA0 hx.names;obtain ⟨e4, e5, rfl⟩ := aA0 hx.vals;obtain ⟨e6, e7, rfl⟩ := aA0 hx.flds;have a4 : Hid (w.ownsRow B1 9 1 (.slice e2 n1 e3) n1 (xs.map Value.string)) := hx.names;have a5 : Hid (w.ownsRow B1 9 1 (.slice e4 n2 e5) n2 (ys.map Value.string)) := hx.vals;have a6 : Hid (w.ownsRow B1 184 2 (.slice e6 n3 e7) n3 (aF3 fs)) := hx.flds;clear hx;obtain ⟨e8, e9, rfl⟩ := aA0 hy.names;obtain ⟨f0, f1, rfl⟩ := aA0 hy.vals;obtain ⟨f2, f3, rfl⟩ := aA0 hy.flds;have a7 : Hid (w.ownsRow B2 9 1 (.slice e8 n1 e9) n1 (xs.map Value.string)) := hy.names;have a8 : Hid (w.ownsRow B2 9 1 (.slice f0 n2 f1) n2 (ys.map Value.string)) := hy.vals;have a9 : Hid (w.ownsRow B2 184 2 (.slice f2 n3 f3) n3 (aF3 fs)) := hy.flds;clear hy;have f8 : (p.toList != p.toList) = false := by simp
 have f9 : (t != t) = false := by simp
 have K0 := jnil w;go_enter func13, ntmps13;go_upto_region 1 with fail
 obtain ⟨q1, c8⟩ := exq (w.heap.size);obtain ⟨w1, c6⟩ := exq (w.alloc (.cells #[.string p, .slice e2 n1 e3, .slice e4 n2 e5, .int .i64 st, .slice e6 n3 e7, .string b, .int .i64 t] 51));have c9 := c8.symm;rw [← c6]; try rw [← c8];have f4 := hsa c6 c9;have bw := bal c6;have K1 := ja K0 c6 c9;have b0 := hown a4 bw;have b1 := hown a5 bw;have b2 := hown a6 bw;have b3 := hown a7 bw;have b4 := hown a8 bw;have b5 := hown a9 bw;clear bw c6 c9 K0;obtain ⟨q2, d0⟩ := exq (q1 + 1);obtain ⟨w2, c7⟩ := exq (w1.alloc (.cells #[.string p, .slice e8 n1 e9, .slice f0 n2 f1, .int .i64 st, .slice f2 n3 f3, .string b, .int .i64 t] 51));have d1 : w1.heap.size = q2 := by rw [d0]; exact f4
 rw [← c7]; try rw [← d0];have f5 := hsa c7 d1;have bw := bal c7;have K2 := ja K1 c7 d1;have a0 := hown b0 bw;have b6 := hown b1 bw;have b7 := hown b2 bw;have a1 := hown b3 bw;have b8 := hown b4 bw;have b9 := hown b5 bw;clear bw c7 d1 K1;clear f5 d0 f4 c8;have d2 := c7c (jb K2 1 rfl);have d3 := c7c (jb K2 0 rfl);go_wp2_with fail
 refine (bV9 _ _ n1 _ _ xs _ a0.out a1.out (by omega)).mono ?_;rintro e w3 ⟨rfl, bw⟩;have K3 := jw K2 bw;have c0 := hown a0 bw;have a2 := hown b6 bw;have c1 := hown b7 bw;have c2 := hown a1 bw;have a3 := hown b8 bw;have c3 := hown b9 bw;clear bw K2;clear d2 d3;have d4 := c7c (jb K3 1 rfl);have d5 := c7c (jb K3 0 rfl);go_wp2_with fail
 refine (bV9 _ _ n2 _ _ ys _ a2.out a3.out (by omega)).mono ?_;rintro e w4 ⟨rfl, bw⟩;have K4 := jw K3 bw;have d6 := hown c0 bw;have d7 := hown a2 bw;have c4 := hown c1 bw;have d8 := hown c2 bw;have d9 := hown a3 bw;have c5 := hown c3 bw;clear bw K3;clear d4 d5;have e0 := c7c (jb K4 1 rfl);have e1 := c7c (jb K4 0 rfl);go_wp2_with fail
 refine (cD3 st _ _ b n3 _ _ fs _ (aB3.of_owns c4.out) (aB3.of_owns c5.out) (by omega)).mono ?_;rintro e w5 ⟨rfl, bw⟩;have K5 := jw K4 bw;clear bw K4;clear e0 e1;have f6 := c7c (jb K5 1 rfl);have f7 := c7c (jb K5 0 rfl);go_wp2_with fail
 go_ret;exact ⟨rfl, K5.hb⟩
end Go.Proofs.YtejoifianjgefaaGreatDoor
