/- What the proof of FnExactMount leans on: contracts of the program's and the specification's functions, and plain facts (part 4 of 12). -/
import Derived.Test.YtiobfnpmidjijaaGreatDoorFnExactMountC
set_option maxHeartbeats 16000000
set_option maxRecDepth 100000
namespace Go.Proofs.YtiobfnpmidjijaaGreatDoor
open Go.Proofs.Tryz
open Go.RowKit
open Go.Lib hiding intOf
theorem cI3 (k : Int) (a b : Tx) (t : Int) (p : Tx) (o1 : Oa) (n1 c1 : Nat) (xs : Ts) (o2 : Oa) (n2 c2 : Nat) (ys : Ts) (st : Int) (v3 : Value) (n3 base : Nat) (fs : Fs) (d : Tx) (u : Int) (w : World) (ha : a.size ≤ maxLen) (hb : b.size ≤ maxLen) (h1 : aC0 w o1 n1 xs) (h2 : aC0 w o2 n2 ys) (h3 : aB4 w base v3 n3 fs) (hn1 : n1 ≤ 2000000) (hn2 : n2 ≤ 2000000) (hn3 : n3 ≤ 2000000) (hs1 : ∀ i, i < n1 → (aA7 xs i).size ≤ maxLen) (hs2 : ∀ i, i < n2 → (aA7 ys i).size ≤ maxLen) (hs3 : aR0 n3 fs) (hp : p.size ≤ maxLen) (hx : d.size ≤ maxLen) (hg : (getV fs aF0).size ≤ 1048576) :
    Calls prog 157 #[.agg #[.int .i64 k, .string a, .string b, .int .i64 t], .agg #[.string p, .slice o1 n1 c1, .slice o2 n2 c2, .int .i64 st, v3, .string d, .int .i64 u]] w fun e w' => aA5 (HitP k a b t p xs ys st fs d u) w e w' := by
  obtain ⟨o3, c3, rfl, _⟩ := h3.slice;have f7 : Hid (∀ W, Bw w W → aC0 W o1 n1 xs) := fun W h => h1.below h
  have f8 : Hid (∀ W, Bw w W → aC0 W o2 n2 ys) := fun W h => h2.below h
  have f5 : Hid (∀ W, Bw w W → aB4 W base (.slice o3 n3 c3) n3 fs) := fun W h => h3.below h
  have f9 := hid hs1;have g0 := hid hs2;have g1 := hid hs3;have g2 := hid hp;have HX := hid hx;have HG := hid hg;have g3 := hid ha;have g4 := hid hb;clear h1 h2 h3 hs1 hs2 hs3 hp hx hg ha hb;have K0 := jnil w;go_enter func157, ntmps157;go_upto_region 1 with fail
  obtain ⟨q1, d5⟩ := exq (w.heap.size);obtain ⟨w1, c5⟩ := exq (w.alloc (.cells #[.int .i64 k, .string a, .string b, .int .i64 t] 44));have d6 := d5.symm;rw [← c5]; try rw [← d5];have hs1 := hsa c5 d6;have bw := bal c5;have K1 := ja K0 c5 d6;clear bw c5 d6 K0;obtain ⟨q2, d7⟩ := exq (q1 + 1);obtain ⟨w2, c6⟩ := exq (w1.alloc (.cells #[.string p, .slice o1 n1 c1, .slice o2 n2 c2, .int .i64 st, .slice o3 n3 c3, .string d, .int .i64 u] 36));have d8 : w1.heap.size = q2 := by rw [d7]; exact hs1
  rw [← c6]; try rw [← d7];have hs2 := hsa c6 d8;have bw := bal c6;have K2 := ja K1 c6 d8;clear bw c6 d8 K1;clear hs2 d7 hs1 d5;have b6 := c4c (jb K2 1 rfl);go_wp2_with fail
  refine (bF5 k a b t _ g3.out g4.out).mono ?_;rintro e w3 ⟨ub, rfl, b7, bw⟩;have K3 := jw K2 bw;clear bw K2;clear b6;cases ub
  ·have b3 : Hid (¬ BanP k a b t) := fun h => nomatch b7.2 h
   clear b7;go_wp2_with fail
   go_ret;refine ⟨false, rfl, ?_, K3.hb⟩;have a0 := b3.out;constructor
   ·intro h
    first
      | (cases h; done)
      | exact ⟨a0, a1, by omega, .inl ⟨a8, a4⟩⟩
      | exact ⟨a0, a1, by omega, .inr (.inl ⟨a9, (aB9 a p).2 ⟨by omega, a5⟩⟩)⟩
      | exact ⟨a0, a1, by omega, .inr (.inr ⟨by have := a0.kinds; omega, a2, a3.trans a6⟩)⟩
   intro h
   first
     | rfl
     | (exfalso
        obtain ⟨h1, h2, h3, h4⟩ := h
        first
          | exact a0 h1
          | exact a1 h2
          | omega
          | (rcases h4 with ⟨e1, e2⟩ | ⟨e1, e2⟩ | ⟨e1, e2, e3⟩
             all_goals first
               | omega
               | exact a4 e2
               | exact a5 ((aB9 a p).1 e2).2
               | (have := ((aB9 a p).1 e2).1; omega)
               | exact a2 e2
               | exact a6 (a3.symm.trans e3)))
  have b3 : Hid (BanP k a b t) := b7.1 rfl;clear b7;have c7 := c7c (jb K3 0 rfl);go_wp2_with fail
  refine (bF6 p _ n1 _ xs _ n2 _ ys st _ n3 base fs d u _ (f7.out _ K3.hb) (f8.out _ K3.hb) (f5.out _ K3.hb) (by omega) (by omega) (by omega) f9.out g0.out g1.out g2.out HX.out HG.out).mono ?_;rintro e w4 ⟨uo, rfl, b8, bw⟩;have K4 := jw K3 bw;clear bw K3;clear c7;cases uo
  ·have b4 : Hid (¬ ObjP p xs ys st fs d u) := fun h => nomatch b8.2 h
   clear b8;go_wp2_with fail
   go_ret;refine ⟨false, rfl, ?_, K4.hb⟩;have a0 := b3.out;have a1 := b4.out;constructor
   ·intro h
    first
      | (cases h; done)
      | exact ⟨a0, a1, by omega, .inl ⟨a8, a4⟩⟩
      | exact ⟨a0, a1, by omega, .inr (.inl ⟨a9, (aB9 a p).2 ⟨by omega, a5⟩⟩)⟩
      | exact ⟨a0, a1, by omega, .inr (.inr ⟨by have := a0.kinds; omega, a2, a3.trans a6⟩)⟩
   intro h
   first
     | rfl
     | (exfalso
        obtain ⟨h1, h2, h3, h4⟩ := h
        first
          | exact a0 h1
          | exact a1 h2
          | omega
          | (rcases h4 with ⟨e1, e2⟩ | ⟨e1, e2⟩ | ⟨e1, e2, e3⟩
             all_goals first
               | omega
               | exact a4 e2
               | exact a5 ((aB9 a p).1 e2).2
               | (have := ((aB9 a p).1 e2).1; omega)
               | exact a2 e2
               | exact a6 (a3.symm.trans e3)))
  have b4 : Hid (ObjP p xs ys st fs d u) := b8.1 rfl;clear b8;have c8 := c4c (jb K4 1 rfl);have c9 := c7c (jb K4 0 rfl);by_cases hc1 : t < u
  ·have b5 : Hid (t < u) := hc1;go_wp2_with fail
   go_ret;refine ⟨false, rfl, ?_, K4.hb⟩;have a0 := b3.out;have a1 := b4.out;have b0 := b5.out;constructor
   ·intro h
    first
      | (cases h; done)
      | exact ⟨a0, a1, by omega, .inl ⟨a8, a4⟩⟩
      | exact ⟨a0, a1, by omega, .inr (.inl ⟨a9, (aB9 a p).2 ⟨by omega, a5⟩⟩)⟩
      | exact ⟨a0, a1, by omega, .inr (.inr ⟨by have := a0.kinds; omega, a2, a3.trans a6⟩)⟩
   intro h
   first
     | rfl
     | (exfalso
        obtain ⟨h1, h2, h3, h4⟩ := h
        first
          | exact a0 h1
          | exact a1 h2
          | omega
          | (rcases h4 with ⟨e1, e2⟩ | ⟨e1, e2⟩ | ⟨e1, e2, e3⟩
             all_goals first
               | omega
               | exact a4 e2
               | exact a5 ((aB9 a p).1 e2).2
               | (have := ((aB9 a p).1 e2).1; omega)
               | exact a2 e2
               | exact a6 (a3.symm.trans e3)))
  have b5 := hid hc1;have b6 := c4c (jb K4 1 rfl);by_cases hc2 : k = 1
  ·have d9 : ((k : Int) == (1 : Int)) = true := by simpa using hc2
   have e0 : ((k : Int) != (1 : Int)) = false := by simpa using hc2
   have b9 : Hid (k = 1) := hc2;have e4 : Hid (k = 1) := hc2;clear hc2;have d0 := c4c (jb K4 1 rfl);have c7 := c7c (jb K4 0 rfl);by_cases hc3 : p = a
   rotate_left
   ·have c0 : ((p).toList == (a).toList) = false := aB8 hc3;have e5 := hid hc3;go_wp2_with fail
    go_ret;refine ⟨false, rfl, ?_, K4.hb⟩;have a0 := b3.out;have a1 := b4.out;have b0 := b5.out;have a8 := b9.out;have a4 := e5.out;constructor
    ·intro h
     first
       | (cases h; done)
       | exact ⟨a0, a1, by omega, .inl ⟨a8, a4⟩⟩
       | exact ⟨a0, a1, by omega, .inr (.inl ⟨a9, (aB9 a p).2 ⟨by omega, a5⟩⟩)⟩
       | exact ⟨a0, a1, by omega, .inr (.inr ⟨by have := a0.kinds; omega, a2, a3.trans a6⟩)⟩
    intro h
    first
      | rfl
      | (exfalso
         obtain ⟨h1, h2, h3, h4⟩ := h
         first
           | exact a0 h1
           | exact a1 h2
           | omega
           | (rcases h4 with ⟨e1, e2⟩ | ⟨e1, e2⟩ | ⟨e1, e2, e3⟩
              all_goals first
                | omega
                | exact a4 e2
                | exact a5 ((aB9 a p).1 e2).2
                | (have := ((aB9 a p).1 e2).1; omega)
                | exact a2 e2
                | exact a6 (a3.symm.trans e3)))
   have c0 : ((p).toList == (a).toList) = true := (aD3 _ _).2 hc3;have e5 : Hid (p = a) := hc3;go_wp2_with fail
   go_ret;refine ⟨true, rfl, ?_, K4.hb⟩;have a0 := b3.out;have a1 := b4.out;have b0 := b5.out;have a8 := b9.out;have a4 := e5.out;constructor
   ·intro h
    first
      | (cases h; done)
      | exact ⟨a0, a1, by omega, .inl ⟨a8, a4⟩⟩
      | exact ⟨a0, a1, by omega, .inr (.inl ⟨a9, (aB9 a p).2 ⟨by omega, a5⟩⟩)⟩
      | exact ⟨a0, a1, by omega, .inr (.inr ⟨by have := a0.kinds; omega, a2, a3.trans a6⟩)⟩
   intro h
   first
     | rfl
     | (exfalso
        obtain ⟨h1, h2, h3, h4⟩ := h
        first
          | exact a0 h1
          | exact a1 h2
          | omega
          | (rcases h4 with ⟨e1, e2⟩ | ⟨e1, e2⟩ | ⟨e1, e2, e3⟩
             all_goals first
               | omega
               | exact a4 e2
               | exact a5 ((aB9 a p).1 e2).2
               | (have := ((aB9 a p).1 e2).1; omega)
               | exact a2 e2
               | exact a6 (a3.symm.trans e3)))
  have d9 : ((k : Int) == (1 : Int)) = false := by simpa using hc2
  have e0 : ((k : Int) != (1 : Int)) = true := by simpa using hc2
  have b9 := hid hc2;have e4 := hid hc2;clear hc2;by_cases hc3 : k = 2
  rotate_left
  ·have c0 : ((k : Int) == (2 : Int)) = false := by simpa using hc3
   have e6 : ((k : Int) != (2 : Int)) = true := by simpa using hc3
   have c4 := hid hc3;have e7 := hid hc3;clear hc3;have d0 := c4c (jb K4 1 rfl);have e8 := c7c (jb K4 0 rfl);go_wp2_with fail
   refine (bO3 _ n3 base fs a _ (f5.out _ K4.hb) (by omega)).mono ?_;rintro e w5 ⟨rfl, f6⟩;have bw : Below w4.heap.size (w4) w5 := by rw [f6]; exact Below.refl _ _
   clear f6;obtain ⟨gv, e9⟩ := exq (getV fs a);obtain ⟨ug, d1⟩ := exq (getB fs a);have f0 : Hid (getV fs a = gv) := e9.symm;rw [← e9, ← d1];clear e9;have K5 := jw K4 bw;clear bw K4;clear c8 c9 b6 d0 e8;cases ug
   ·have d3 : Hid (¬ getB fs a = true) := (by show ¬ _; rw [← d1]; decide);clear d1;go_wp2_with fail
    go_ret;refine ⟨false, rfl, ?_, K5.hb⟩;have a0 := b3.out;have a1 := b4.out;have b0 := b5.out;have a8 := b9.out;have a9 := c4.out;have a2 := d3.out;have a3 := f0.out;constructor
    ·intro h
     first
       | (cases h; done)
       | exact ⟨a0, a1, by omega, .inl ⟨a8, a4⟩⟩
       | exact ⟨a0, a1, by omega, .inr (.inl ⟨a9, (aB9 a p).2 ⟨by omega, a5⟩⟩)⟩
       | exact ⟨a0, a1, by omega, .inr (.inr ⟨by have := a0.kinds; omega, a2, a3.trans a6⟩)⟩
    intro h
    first
      | rfl
      | (exfalso
         obtain ⟨h1, h2, h3, h4⟩ := h
         first
           | exact a0 h1
           | exact a1 h2
           | omega
           | (rcases h4 with ⟨e1, e2⟩ | ⟨e1, e2⟩ | ⟨e1, e2, e3⟩
              all_goals first
                | omega
                | exact a4 e2
                | exact a5 ((aB9 a p).1 e2).2
                | (have := ((aB9 a p).1 e2).1; omega)
                | exact a2 e2
                | exact a6 (a3.symm.trans e3)))
   have d3 : Hid (getB fs a = true) := d1.symm;clear d1;have g5 := c4c (jb K5 1 rfl);by_cases hc4 : gv = b
   rotate_left
   ·have f1 : ((gv).toList == (b).toList) = false := aB8 hc4;have f2 := hid hc4;go_wp2_with fail
    go_ret;refine ⟨false, rfl, ?_, K5.hb⟩;have a0 := b3.out;have a1 := b4.out;have b0 := b5.out;have a8 := b9.out;have a9 := c4.out;have a2 := d3.out;have a3 := f0.out;have a6 := f2.out;constructor
    ·intro h
     first
       | (cases h; done)
       | exact ⟨a0, a1, by omega, .inl ⟨a8, a4⟩⟩
       | exact ⟨a0, a1, by omega, .inr (.inl ⟨a9, (aB9 a p).2 ⟨by omega, a5⟩⟩)⟩
       | exact ⟨a0, a1, by omega, .inr (.inr ⟨by have := a0.kinds; omega, a2, a3.trans a6⟩)⟩
    intro h
    first
      | rfl
      | (exfalso
         obtain ⟨h1, h2, h3, h4⟩ := h
         first
           | exact a0 h1
           | exact a1 h2
           | omega
           | (rcases h4 with ⟨e1, e2⟩ | ⟨e1, e2⟩ | ⟨e1, e2, e3⟩
              all_goals first
                | omega
                | exact a4 e2
                | exact a5 ((aB9 a p).1 e2).2
                | (have := ((aB9 a p).1 e2).1; omega)
                | exact a2 e2
                | exact a6 (a3.symm.trans e3)))
   have f1 : ((gv).toList == (b).toList) = true := (aD3 _ _).2 hc4;have f2 : Hid (gv = b) := hc4;go_wp2_with fail
   go_ret;refine ⟨true, rfl, ?_, K5.hb⟩;have a0 := b3.out;have a1 := b4.out;have b0 := b5.out;have a8 := b9.out;have a9 := c4.out;have a2 := d3.out;have a3 := f0.out;have a6 := f2.out;constructor
   ·intro h
    first
      | (cases h; done)
      | exact ⟨a0, a1, by omega, .inl ⟨a8, a4⟩⟩
      | exact ⟨a0, a1, by omega, .inr (.inl ⟨a9, (aB9 a p).2 ⟨by omega, a5⟩⟩)⟩
      | exact ⟨a0, a1, by omega, .inr (.inr ⟨by have := a0.kinds; omega, a2, a3.trans a6⟩)⟩
   intro h
   first
     | rfl
     | (exfalso
        obtain ⟨h1, h2, h3, h4⟩ := h
        first
          | exact a0 h1
          | exact a1 h2
          | omega
          | (rcases h4 with ⟨e1, e2⟩ | ⟨e1, e2⟩ | ⟨e1, e2, e3⟩
             all_goals first
               | omega
               | exact a4 e2
               | exact a5 ((aB9 a p).1 e2).2
               | (have := ((aB9 a p).1 e2).1; omega)
               | exact a2 e2
               | exact a6 (a3.symm.trans e3)))
  have c0 : ((k : Int) == (2 : Int)) = true := by simpa using hc3
  have e6 : ((k : Int) != (2 : Int)) = false := by simpa using hc3
  have c4 : Hid (k = 2) := hc3;have e7 : Hid (k = 2) := hc3;clear hc3;go_upto_region 7 with fail
  clear c8 c9 b6;refine wp_region_held_drew (S := fun W => W.heap[q2]? = some (.cells #[.string p, .slice o1 n1 c1, .slice o2 n2 c2, .int .i64 st, .slice o3 n3 c3, .string d, .int .i64 u] 36) ∧ W.heap[q1]? = some (.cells #[.int .i64 k, .string a, .string b, .int .i64 t] 44)) (by kernel_rfl) ⟨(jb K4 0 rfl), (jb K4 1 rfl)⟩ (fun _ => ?_)
  obtain ⟨w5, hX⟩ := exq w4.drew;have bw := bdr hX;rw [← hX];have K5 := jw K4 bw;have a7 := And.intro (jb K5 0 rfl) (jb K5 1 rfl);clear bw hX K4;refine tkP 0 (.pointer (some ⟨q2, 0, none⟩)) 33 rfl rfl a7 ?_;go_frame;refine tkL 1 (.string p) 34 rfl rfl (Or.inl ⟨by rfl, by intro W hW; obtain ⟨b2, b1⟩ := hW; have y0 := c7c b2; go_simp⟩) a7 ?_;go_frame;refine tkP 2 (.int .i64 (p.size : Int)) 35 rfl rfl a7 (tkP 3 (.pointer (some ⟨q1, 1, none⟩)) 36 rfl rfl a7 ?_);go_frame;refine tkL 4 (.string a) 37 rfl rfl (Or.inl ⟨by rfl, by intro W hW; obtain ⟨b2, b1⟩ := hW; have y1 := c4c b1; go_simp⟩) a7 ?_;go_frame;refine tkP 5 (.int .i64 (a.size : Int)) 38 rfl rfl a7 ?_;go_frame;by_cases hc4 : (a.size : Int) ≤ (p.size : Int)
  rotate_left
  ·have d4 := hid hc4;refine tkP 6 (.bool false) 39 rfl rfl a7 (tkP 7 (.bool false) 40 rfl rfl a7 (tkN 8 41 rfl rfl a7 ?_));go_frame;refine tkN 9 42 rfl rfl a7 (tkN 10 43 rfl rfl a7 (tkN 11 44 rfl rfl a7 ?_));go_frame;refine tkN 12 45 rfl rfl a7 (tkN 13 46 rfl rfl a7 (tkN 14 47 rfl rfl a7 ?_));go_frame;refine tkN 15 48 rfl rfl a7 (tkN 16 49 rfl rfl a7 (tkP 17 (.bool false) 50 rfl rfl a7 ?_));go_frame;refine tkP 18 (.bool false) 4 rfl rfl a7 ?_;go_frame;clear a7;refine wdn ?_;go_wp2_with fail
   go_ret;refine ⟨false, rfl, ?_, K5.hb⟩;have a0 := b3.out;have a1 := b4.out;have b0 := b5.out;have a8 := b9.out;have a9 := c4.out;have d2 := d4.out;constructor
   ·intro h
    first
      | (cases h; done)
      | exact ⟨a0, a1, by omega, .inl ⟨a8, a4⟩⟩
      | exact ⟨a0, a1, by omega, .inr (.inl ⟨a9, (aB9 a p).2 ⟨by omega, a5⟩⟩)⟩
      | exact ⟨a0, a1, by omega, .inr (.inr ⟨by have := a0.kinds; omega, a2, a3.trans a6⟩)⟩
   intro h
   first
     | rfl
     | (exfalso
        obtain ⟨h1, h2, h3, h4⟩ := h
        first
          | exact a0 h1
          | exact a1 h2
          | omega
          | (rcases h4 with ⟨e1, e2⟩ | ⟨e1, e2⟩ | ⟨e1, e2, e3⟩
             all_goals first
               | omega
               | exact a4 e2
               | exact a5 ((aB9 a p).1 e2).2
               | (have := ((aB9 a p).1 e2).1; omega)
               | exact a2 e2
               | exact a6 (a3.symm.trans e3)))
  have d4 := hid hc4;refine tkP 6 (.bool true) 39 rfl rfl a7 (tkP 7 (.bool true) 40 rfl rfl a7 (tkP 8 (.pointer (some ⟨q2, 0, none⟩)) 41 rfl rfl a7 ?_));go_frame;refine tkL 9 (.string p) 42 rfl rfl (Or.inl ⟨by rfl, by intro W hW; obtain ⟨b2, b1⟩ := hW; have y0 := c7c b2; go_simp⟩) a7 ?_;go_frame;refine tkP 10 (.pointer (some ⟨q1, 1, none⟩)) 43 rfl rfl a7 ?_;go_frame;refine tkL 11 (.string a) 44 rfl rfl (Or.inl ⟨by rfl, by intro W hW; obtain ⟨b2, b1⟩ := hW; have y1 := c4c b1; go_simp⟩) a7 ?_;go_frame;refine tkP 12 (.int .i64 (a.size : Int)) 45 rfl rfl a7 (tkP 13 (.string (p.extract 0 a.size)) 46 rfl rfl a7 (tkP 14 (.pointer (some ⟨q1, 1, none⟩)) 47 rfl rfl a7 ?_));go_frame;refine tkL 15 (.string a) 48 rfl rfl (Or.inl ⟨by rfl, by intro W hW; obtain ⟨b2, b1⟩ := hW; have y1 := c4c b1; go_simp⟩) a7 ?_;go_frame;by_cases hc5 : (p.extract 0 a.size) = a
  ·have f3 : (((p.extract 0 a.size)).toList == (a).toList) = true := (aD3 _ _).2 hc5;have f4 := hid hc5;refine tkP 16 (.bool true) 49 rfl rfl a7 (tkP 17 (.bool true) 50 rfl rfl a7 (tkP 18 (.bool true) 4 rfl rfl a7 ?_));go_frame;clear a7;refine wdn ?_;go_wp2_with fail
   go_ret;refine ⟨true, rfl, ?_, K5.hb⟩;have a0 := b3.out;have a1 := b4.out;have b0 := b5.out;have a8 := b9.out;have a9 := c4.out;have d2 := d4.out;have a5 := f4.out;constructor
   ·intro h
    first
      | (cases h; done)
      | exact ⟨a0, a1, by omega, .inl ⟨a8, a4⟩⟩
      | exact ⟨a0, a1, by omega, .inr (.inl ⟨a9, (aB9 a p).2 ⟨by omega, a5⟩⟩)⟩
      | exact ⟨a0, a1, by omega, .inr (.inr ⟨by have := a0.kinds; omega, a2, a3.trans a6⟩)⟩
   intro h
   first
     | rfl
     | (exfalso
        obtain ⟨h1, h2, h3, h4⟩ := h
        first
          | exact a0 h1
          | exact a1 h2
          | omega
          | (rcases h4 with ⟨e1, e2⟩ | ⟨e1, e2⟩ | ⟨e1, e2, e3⟩
             all_goals first
               | omega
               | exact a4 e2
               | exact a5 ((aB9 a p).1 e2).2
               | (have := ((aB9 a p).1 e2).1; omega)
               | exact a2 e2
               | exact a6 (a3.symm.trans e3)))
  have f3 : (((p.extract 0 a.size)).toList == (a).toList) = false := aB8 hc5;have f4 := hid hc5;refine tkP 16 (.bool false) 49 rfl rfl a7 (tkP 17 (.bool false) 50 rfl rfl a7 (tkP 18 (.bool false) 4 rfl rfl a7 ?_));go_frame;clear a7;refine wdn ?_;go_wp2_with fail
  go_ret;refine ⟨false, rfl, ?_, K5.hb⟩;have a0 := b3.out;have a1 := b4.out;have b0 := b5.out;have a8 := b9.out;have a9 := c4.out;have d2 := d4.out;have a5 := f4.out;constructor
  ·intro h
   first
     | (cases h; done)
     | exact ⟨a0, a1, by omega, .inl ⟨a8, a4⟩⟩
     | exact ⟨a0, a1, by omega, .inr (.inl ⟨a9, (aB9 a p).2 ⟨by omega, a5⟩⟩)⟩
     | exact ⟨a0, a1, by omega, .inr (.inr ⟨by have := a0.kinds; omega, a2, a3.trans a6⟩)⟩
  intro h
  first
    | rfl
    | (exfalso
       obtain ⟨h1, h2, h3, h4⟩ := h
       first
         | exact a0 h1
         | exact a1 h2
         | omega
         | (rcases h4 with ⟨e1, e2⟩ | ⟨e1, e2⟩ | ⟨e1, e2, e3⟩
            all_goals first
              | omega
              | exact a4 e2
              | exact a5 ((aB9 a p).1 e2).2
              | (have := ((aB9 a p).1 e2).1; omega)
              | exact a2 e2
              | exact a6 (a3.symm.trans e3)))
theorem dC9 (k : Int) (a b : Tx) (t : Int) (w : World) :
  Calls prog 222 #[.agg #[.int .i64 k, .string a, .string b, .int .i64 t], .agg #[.int .i64 k, .string a, .string b, .int .i64 t]] w fun e w' => e = .returned (.bool true) ∧ Below w.heap.size w w' := by
 have b0 : (k != k) = false := by simp
 have b1 : (a.toList != a.toList) = false := by simp
 have b2 : (b.toList != b.toList) = false := by simp
 have b3 : (t != t) = false := by simp
 have K0 := jnil w;go_enter func222, ntmps222;go_upto_region 1 with fail
 obtain ⟨q1, a2⟩ := exq (w.heap.size);obtain ⟨w1, a0⟩ := exq (w.alloc (.cells #[.int .i64 k, .string a, .string b, .int .i64 t] 44));have a3 := a2.symm;rw [← a0]; try rw [← a2];have a6 := hsa a0 a3;have bw := bal a0;have K1 := ja K0 a0 a3;clear bw a0 a3 K0;obtain ⟨q2, a4⟩ := exq (q1 + 1);obtain ⟨w2, a1⟩ := exq (w1.alloc (.cells #[.int .i64 k, .string a, .string b, .int .i64 t] 44));have a5 : w1.heap.size = q2 := by rw [a4]; exact a6
 rw [← a1]; try rw [← a4];have a7 := hsa a1 a5;have bw := bal a1;have K2 := ja K1 a1 a5;clear bw a1 a5 K1;clear a7 a4 a6 a2;have a8 := c4c (jb K2 1 rfl);have a9 := c4c (jb K2 0 rfl);go_wp2_with fail
 go_ret;exact ⟨rfl, K2.hb⟩
def aK2 (l : Bs) (i : Nat) : (Int × ByteArray × ByteArray × Int) := l.getD i (0, ⟨#[]⟩, ⟨#[]⟩, 0)
def bC4 (x : (Int × ByteArray × ByteArray × Int)) : List Value := [.int .i64 x.1, .string x.2.1, .string x.2.2.1, .int .i64 x.2.2.2]
def aB3 (l : Bs) : List Value := l.flatMap bC4
theorem aX3 (l : Bs) : (aB3 l).length = l.length * 4 := by
 induction l with
 | nil => rfl
 | cons f r ih => simp only [aB3, bC4, List.flatMap_cons, List.length_append, List.length_cons, List.length_nil] at ih ⊢; omega
theorem aN2 : ∀ (l : Bs) (i : Nat), i < l.length → (aB3 l)[i * 4]? = some (.int .i64 ((aK2 l i).1)) ∧ (aB3 l)[i * 4 + 1]? = some (.string ((aK2 l i).2.1)) ∧ (aB3 l)[i * 4 + 2]? = some (.string ((aK2 l i).2.2.1)) ∧ (aB3 l)[i * 4 + 3]? = some (.int .i64 ((aK2 l i).2.2.2))
 | [], i, h => by simp at h
 | f :: r, 0, _ => by simp [aB3, bC4, aK2]
 | f :: r, i + 1, h => by
  have ih := aN2 r i (by simpa using h)
  have e : aB3 (f :: r) = bC4 f ++ aB3 r := rfl
  have hl : (bC4 f).length = 4 := rfl
  have h2 : aK2 (f :: r) (i + 1) = aK2 r i := by simp [aK2]
  have key : ∀ j, (aB3 (f :: r))[i * 4 + 4 + j]? = (aB3 r)[i * 4 + j]? := fun j => by
   rw [e, List.getElem?_append_right (by rw [hl]; omega), hl]; congr 1; omega
  rw [h2]
  refine ⟨(by rw [show (i + 1) * 4 = i * 4 + 4 + 0 by omega, key]; exact ih.1), (by rw [show (i + 1) * 4 + 1 = i * 4 + 4 + 1 by omega, key]; exact ih.2.1), (by rw [show (i + 1) * 4 + 2 = i * 4 + 4 + 2 by omega, key]; exact ih.2.2.1), (by rw [show (i + 1) * 4 + 3 = i * 4 + 4 + 3 by omega, key]; exact ih.2.2.2)⟩
theorem bQ5 (l : Bs) (i : Nat) (h : i < l.length) : aK2 l i ∈ l := by
 unfold aK2;rw [List.getD_eq_getElem?_getD, List.getElem?_eq_getElem h];exact List.getElem_mem h
theorem bY4 (l : Bs) (i : Nat) (h : i < l.length) : l.take (i + 1) = l.take i ++ [aK2 l i] := by
 unfold aK2;rw [List.getD_eq_getElem?_getD, List.getElem?_eq_getElem h, List.take_succ_eq_append_getElem h];rfl
theorem aQ2 (a b : Bs) : aB3 (a ++ b) = aB3 a ++ aB3 b := by simp [aB3]
theorem aX4 (x : (Int × ByteArray × ByteArray × Int)) : aB3 [x] = bC4 x := by simp [aB3]
def BanA (w : World) (oa : Oa) (n : Nat) (l : Bs) : Prop :=
 l.length = n ∧ ∀ i, i < n → ∃ g, oa = some ⟨g, 0, none⟩ ∧ g < w.heap.size ∧ w.cell? ⟨g, i * 4, none⟩ = some (.int .i64 ((aK2 l i).1)) ∧ w.cell? ⟨g, i * 4 + 1, none⟩ = some (.string ((aK2 l i).2.1)) ∧ w.cell? ⟨g, i * 4 + 2, none⟩ = some (.string ((aK2 l i).2.2.1)) ∧ w.cell? ⟨g, i * 4 + 3, none⟩ = some (.int .i64 ((aK2 l i).2.2.2))
theorem BanA.below {w W : World} {oa : Oa} {n : Nat} {l : Bs} (h : BanA w oa n l) (hb : Below w.heap.size w W) : BanA W oa n l :=
 ⟨h.1, fun i hi => by
  obtain ⟨g, h1, h2, r0, r1, r2, r3⟩ := h.2 i hi
  exact ⟨g, h1, Nat.lt_of_lt_of_le h2 hb.size, by rw [hb.cell (p := ⟨g, i * 4, none⟩) h2]; exact r0, by rw [hb.cell (p := ⟨g, i * 4 + 1, none⟩) h2]; exact r1, by rw [hb.cell (p := ⟨g, i * 4 + 2, none⟩) h2]; exact r2, by rw [hb.cell (p := ⟨g, i * 4 + 3, none⟩) h2]; exact r3⟩⟩
def aG1 (w : World) (g n k : Nat) (l : Bs) : Prop :=
 ∃ cur, w.heap[g]? = some (.cells cur 44 (0, 0)) ∧ cur.size = n * 4 ∧ ∀ i, i < k → cur[i * 4]? = some (.int .i64 ((aK2 l i).1)) ∧ cur[i * 4 + 1]? = some (.string ((aK2 l i).2.1)) ∧ cur[i * 4 + 2]? = some (.string ((aK2 l i).2.2.1)) ∧ cur[i * 4 + 3]? = some (.int .i64 ((aK2 l i).2.2.2))
theorem aG1.below {w w' : World} {g n k B : Nat} {l : Bs} (h : aG1 w g n k l) (hb : Below B w w') (hB : g < B) : aG1 w' g n k l := by
 obtain ⟨a0, h1, h2⟩ := h;exact ⟨a0, by rw [hb.block g hB]; exact h1, h2⟩
theorem aG1.lt {w : World} {g n k : Nat} {l : Bs} (h : aG1 w g n k l) : g < w.heap.size := by
 obtain ⟨a0, h1, _⟩ := h;exact (blt h1)
theorem aG1.cell {w : World} {g n k : Nat} {l : Bs} (h : aG1 w g n k l) (j : Nat) (hj : j < n * 4) : ∃ u, w.cell? ⟨g, j, none⟩ = some u := by
 obtain ⟨a0, h1, h2, _⟩ := h;refine ⟨a0[j]'(by omega), ?_⟩;simp only [World.cell?, h1]
 simp [show j < a0.size by omega]
theorem aG1.frozen {w : World} {g n k : Nat} {l : Bs} (h : aG1 w g n k l) (j : Nat) : w.frozen? ⟨g, j, none⟩ = false := by
 obtain ⟨a0, h1, _⟩ := h;simp [World.frozen?, h1]
theorem aG1.put {w : World} {g n k : Nat} {l : Bs} (h : aG1 w g n k l) (hk : k < n) : aG1 ((((w.setCell ⟨g, k * 4, none⟩ (.int .i64 (aK2 l k).1)).setCell ⟨g, k * 4 + 1, none⟩ (.string (aK2 l k).2.1)).setCell ⟨g, k * 4 + 2, none⟩ (.string (aK2 l k).2.2.1)).setCell ⟨g, k * 4 + 3, none⟩ (.int .i64 (aK2 l k).2.2.2)) g n (k + 1) l := by
 obtain ⟨a0, h1, h2, h3⟩ := h;refine ⟨_, aA3 _ g (k * 4 + 3) _ _ _ _ (aA3 _ g (k * 4 + 2) _ _ _ _ (aA3 _ g (k * 4 + 1) _ _ _ _ (aA3 _ g (k * 4) _ _ _ _ h1))), by simpa using h2, ?_⟩;intro i hi;by_cases e : i = k
 ·subst e;exact ⟨by rw [Array.getElem?_setIfInBounds_ne (by omega), Array.getElem?_setIfInBounds_ne (by omega), Array.getElem?_setIfInBounds_ne (by omega), Array.getElem?_setIfInBounds_self_of_lt (by first | omega | (simp; omega))], by rw [Array.getElem?_setIfInBounds_ne (by omega), Array.getElem?_setIfInBounds_ne (by omega), Array.getElem?_setIfInBounds_self_of_lt (by first | omega | (simp; omega))], by rw [Array.getElem?_setIfInBounds_ne (by omega), Array.getElem?_setIfInBounds_self_of_lt (by first | omega | (simp; omega))], by rw [Array.getElem?_setIfInBounds_self_of_lt (by first | omega | (simp; omega))]⟩
 have := h3 i (by omega);exact ⟨by rw [Array.getElem?_setIfInBounds_ne (by omega), Array.getElem?_setIfInBounds_ne (by omega), Array.getElem?_setIfInBounds_ne (by omega), Array.getElem?_setIfInBounds_ne (by omega)]; exact this.1, by rw [Array.getElem?_setIfInBounds_ne (by omega), Array.getElem?_setIfInBounds_ne (by omega), Array.getElem?_setIfInBounds_ne (by omega), Array.getElem?_setIfInBounds_ne (by omega)]; exact this.2.1, by rw [Array.getElem?_setIfInBounds_ne (by omega), Array.getElem?_setIfInBounds_ne (by omega), Array.getElem?_setIfInBounds_ne (by omega), Array.getElem?_setIfInBounds_ne (by omega)]; exact this.2.2.1, by rw [Array.getElem?_setIfInBounds_ne (by omega), Array.getElem?_setIfInBounds_ne (by omega), Array.getElem?_setIfInBounds_ne (by omega), Array.getElem?_setIfInBounds_ne (by omega)]; exact this.2.2.2⟩
theorem aG1.owns {w : World} {g n : Nat} {l : Bs} (h : aG1 w g n n l) (hl : l.length = n) (hm : n ≤ maxLen) {base : Nat} (hb : base ≤ g) : w.ownsRow base 44 4 (.slice (some ⟨g, 0, none⟩) n n) n (aB3 l) := by
 obtain ⟨a1, hg, hs, hc⟩ := h;refine ⟨by rw [aX3, hl], .inr ⟨g, n, a1, rfl, hb, hg, Nat.le_refl _, hm, hs, ?_⟩⟩;apply List.ext_getElem?
 intro j;rw [List.getElem?_take];by_cases hj : j < n * 4
 rotate_left
 ·rw [if_neg hj, List.getElem?_eq_none (by rw [aX3]; omega)]
 rw [if_pos hj];have hf := aN2 l (j / 4) (by omega);have a0 := hc (j / 4) (by omega);have hr : j = (j / 4) * 4 ∨ j = (j / 4) * 4 + 1 ∨ j = (j / 4) * 4 + 2 ∨ j = (j / 4) * 4 + 3 := by omega
 rcases hr with e | e | e | e
 ·have e2 := hf.1;have e3 := a0.1;rw [← e] at e2 e3;rw [e2]; simpa using e3
 ·have e2 := hf.2.1;have e3 := a0.2.1;rw [← e] at e2 e3;rw [e2]; simpa using e3
 ·have e2 := hf.2.2.1;have e3 := a0.2.2.1;rw [← e] at e2 e3;rw [e2]; simpa using e3
 have e2 := hf.2.2.2;have e3 := a0.2.2.2;rw [← e] at e2 e3;rw [e2]; simpa using e3
theorem bB4 {w : World} {base n cap : Nat} {oa : Oa} {l : Bs} (h : w.ownsRow base 44 4 (.slice oa n cap) n (aB3 l)) : BanA w oa n l := by
 obtain ⟨hl, hv⟩ := h;rw [aX3] at hl;refine ⟨by omega, fun i hi => ?_⟩
 rcases hv with ⟨e, h0⟩ | ⟨g, cap, a1, e, hb, hg, hn, hm, a2, a0⟩
 ·omega
 cases e
 have hf := aN2 l i (by omega);rw [← a0] at hf;simp only [List.getElem?_take] at hf
 rw [if_pos (by omega), if_pos (by omega), if_pos (by omega), if_pos (by omega)] at hf;refine ⟨g, rfl, (blt hg), by simp only [World.cell?, hg]; simpa using hf.1, by simp only [World.cell?, hg]; simpa using hf.2.1, by simp only [World.cell?, hg]; simpa using hf.2.2.1, by simp only [World.cell?, hg]; simpa using hf.2.2.2⟩
theorem dN9 {w : World} {base n : Nat} {v : Value} {l : Bs} (h : w.ownsRow base 44 4 v n (aB3 l)) : l.length = n := by
 have := h.1;rw [aX3] at this;omega
theorem cN7 : (prog.info? 44).map (fun i => (i.zero, i.size, i.bytes)) = some (some (.agg #[.int .i64 0, .string ⟨#[]⟩, .string ⟨#[]⟩, .int .i64 0]), 4, 48) := by kernel_rfl
theorem cV8 (o1 o2 : Oa) (n c1 c2 : Nat) (l : Bs) (w : World) (h1 : BanA w o1 n l) (h2 : BanA w o2 n l) (hn : n ≤ 2000000) :
  Calls prog 123 #[.slice o1 n c1, .slice o2 n c2] w fun e w' => e = .returned (.bool true) ∧ Below w.heap.size w w' := by
 have H1 : Hid (∀ W, Bw w W → BanA W o1 n l) := fun W h => h1.below h
 have H2 : Hid (∀ W, Bw w W → BanA W o2 n l) := fun W h => h2.below h
 clear h1 h2;go_enter func123, ntmps123;go_wp2
 go_loopw [5] (fun i wr => ∃ k : Nat, k ≤ n ∧ i = .int .i64 (k : Int) ∧ Hid (Bw w wr)) (fun i _ => n - (intOf i).toNat)
 case atStart => exact ⟨0, Nat.zero_le _, rfl, Below.refl _ _⟩
 case round =>
  obtain ⟨k, hk, rfl, a4⟩ := hrel;by_cases hlt : k < n
  rotate_left
  ·go_wp2
   go_ret;exact ⟨rfl, a4.out⟩
  have a7 : (k : Int) < (n : Int) := by omega
  obtain ⟨y, hy⟩ := exq (aK2 l k);obtain ⟨g1, rfl, a5, a0, a1, a2, a3⟩ := (H1.out wr a4.out).2 k hlt;obtain ⟨g2, rfl, a6, b0, b1, b2, b3⟩ := (H2.out wr a4.out).2 k hlt;rw [← hy] at a0 b0 a1 b1 a2 b2 a3 b3;clear hy;obtain ⟨y0, y1, y2, y3⟩ := y
  have HA : Hid (∀ w0 w1, Below wr.heap.size wr w0 → Below w0.heap.size w0 w1 → (w1.cell? ⟨g1, k * 4, none⟩ = some (.int .i64 y0) ∧ w1.cell? ⟨g1, k * 4 + 1, none⟩ = some (.string y1) ∧ w1.cell? ⟨g1, k * 4 + 2, none⟩ = some (.string y2) ∧ w1.cell? ⟨g1, k * 4 + 3, none⟩ = some (.int .i64 y3) ∧ w1.cell? ⟨g2, k * 4, none⟩ = some (.int .i64 y0) ∧ w1.cell? ⟨g2, k * 4 + 1, none⟩ = some (.string y1) ∧ w1.cell? ⟨g2, k * 4 + 2, none⟩ = some (.string y2) ∧ w1.cell? ⟨g2, k * 4 + 3, none⟩ = some (.int .i64 y3)) ∧ Below wr.heap.size wr w1) := fun w0 w1 h h' => by
   have hx := h.trans (h'.mono h.size)
   exact ⟨⟨by rw [hx.cell (p := ⟨g1, k * 4, none⟩) a5]; exact a0, by rw [hx.cell (p := ⟨g1, k * 4 + 1, none⟩) a5]; exact a1, by rw [hx.cell (p := ⟨g1, k * 4 + 2, none⟩) a5]; exact a2, by rw [hx.cell (p := ⟨g1, k * 4 + 3, none⟩) a5]; exact a3, by rw [hx.cell (p := ⟨g2, k * 4, none⟩) a6]; exact b0, by rw [hx.cell (p := ⟨g2, k * 4 + 1, none⟩) a6]; exact b1, by rw [hx.cell (p := ⟨g2, k * 4 + 2, none⟩) a6]; exact b2, by rw [hx.cell (p := ⟨g2, k * 4 + 3, none⟩) a6]; exact b3⟩, hx⟩
  go_wp2
  go_region_held3 (fun w' => w'.cell? ⟨g1, k * 4, none⟩ = some (.int .i64 y0) ∧ w'.cell? ⟨g1, k * 4 + 1, none⟩ = some (.string y1) ∧ w'.cell? ⟨g1, k * 4 + 2, none⟩ = some (.string y2) ∧ w'.cell? ⟨g1, k * 4 + 3, none⟩ = some (.int .i64 y3) ∧ w'.cell? ⟨g2, k * 4, none⟩ = some (.int .i64 y0) ∧ w'.cell? ⟨g2, k * 4 + 1, none⟩ = some (.string y1) ∧ w'.cell? ⟨g2, k * 4 + 2, none⟩ = some (.string y2) ∧ w'.cell? ⟨g2, k * 4 + 3, none⟩ = some (.int .i64 y3)) (first | assumption | go_keep) (first | (go_at_call 222; refine (dC9 _ _ _ _ _).mono ?_; rintro e w1 ⟨rfl, a8⟩; obtain ⟨b4, a9⟩ := HA.out _ w1 ((Below.refl _ wr).drew) a8))
  go_wp2
  go_roundw
  case rel => exact ⟨k + 1, by omega, by go_num, a4.out.trans (a9.mono a4.out.size)⟩
  case measure => simp [intOf]; omega
theorem bQ6 : ∀ (l : Bs) (i : Nat) (x : (Int × ByteArray × ByteArray × Int)), i < l.length → aB3 (l.set i x) = ((((aB3 l).set (i * 4) (.int .i64 x.1)).set (i * 4 + 1) (.string x.2.1)).set (i * 4 + 2) (.string x.2.2.1)).set (i * 4 + 3) (.int .i64 x.2.2.2)
 | [], i, x, h => by simp at h
 | f :: r, 0, x, _ => rfl
 | f :: r, i + 1, x, h => by
  have ih := bQ6 r i x (by simpa using h)
  have e : ∀ (m : List Value) (o : Nat) (u : Value), (bC4 f ++ m).set (4 + o) u = bC4 f ++ m.set o u := fun m o u => by rw [Nat.add_comm]; rfl
  have e0 : aB3 (f :: r) = bC4 f ++ aB3 r := rfl
  have e1 : aB3 ((f :: r).set (i + 1) x) = bC4 f ++ aB3 (r.set i x) := rfl
  rw [e1, ih, e0, show (i + 1) * 4 = 4 + i * 4 by omega, show 4 + i * 4 + 1 = 4 + (i * 4 + 1) by omega, show 4 + i * 4 + 2 = 4 + (i * 4 + 2) by omega, show 4 + i * 4 + 3 = 4 + (i * 4 + 3) by omega, e, e, e, e]
theorem dD0 (l : Bs) (k j : Nat) (x : (Int × ByteArray × ByteArray × Int)) (hk : k < l.length) : aK2 (l.set k x) j = if j = k then x else aK2 l j := by
 unfold aK2;rw [List.getD_eq_getElem?_getD, List.getElem?_set, List.getD_eq_getElem?_getD];by_cases h : j = k
 ·subst h; simp [hk]
 rw [if_neg h, if_neg (fun e => h e.symm)]
def aP2 (k0 : Nat) (l : Bs) : Nat → Bs
 | 0 => l
 | k + 1 => (aP2 k0 l k).set k (((k0 + 4 * k + 0 : Nat) : Int), (aB1 (k0 + 4 * k + 1)), (aB1 (k0 + 4 * k + 2)), ((k0 + 4 * k + 3 : Nat) : Int))
theorem aT2 (k0 : Nat) (l : Bs) : ∀ k, (aP2 k0 l k).length = l.length
 | 0 => rfl
 | k + 1 => by rw [aP2, List.length_set, aT2 k0 l k]
theorem dJ2 (k0 : Nat) (l : Bs) (j : Nat) : ∀ k, k ≤ l.length → j < k → aK2 (aP2 k0 l k) j = (((k0 + 4 * j + 0 : Nat) : Int), (aB1 (k0 + 4 * j + 1)), (aB1 (k0 + 4 * j + 2)), ((k0 + 4 * j + 3 : Nat) : Int)) := by
 intro k;induction k with
 | zero => intro _ h; omega
 | succ k ih =>
  intro hk h
  rw [aP2, dD0 _ _ _ _ (by rw [aT2]; omega)]
  by_cases e : j = k
  ·subst e; rw [if_pos rfl]
  rw [if_neg e]; exact ih (by omega) (by omega)
theorem cI4 (oa : Oa) (n cap base : Nat) (l : Bs) (w : World) (h1 : w.ownsRow base 44 4 (.slice oa n cap) n (aB3 l)) (hb : base ≤ w.heap.size) (k0 : Nat) (hk0 : 1 ≤ k0) (hn : k0 + 4 * n ≤ 99999999) :
  Calls prog 127 #[.slice oa n cap, .int .i64 (k0 : Int)] w fun e w' => e = .returned (.int .i64 ((k0 : Int) + 4 * (n : Int))) ∧ w'.ownsRow base 44 4 (.slice oa n cap) n (aB3 (aP2 k0 l n)) ∧ Below base w w' ∧ Far (.slice oa n cap) w w' := by
 have a1 : Hid (l.length = n) := dN9 h1;have H1 := hid h1;clear h1;go_enter func127, ntmps127;go_wp2
 go_loopw [1, 5] (fun q i wr => ∃ k : Nat, k ≤ n ∧ i = .int .i64 (k : Int) ∧ q = .int .i64 ((k0 : Int) + 4 * (k : Int)) ∧ Hid (Below base w wr) ∧ Hid (wr.ownsRow base 44 4 (.slice oa n cap) n (aB3 (aP2 k0 l k))) ∧ Hid (∀ j, j < w.heap.size → (Value.slice oa n cap).ownBlock ≠ some j → wr.heap[j]? = w.heap[j]?)) (fun _ i _ => n - (intOf i).toNat)
 case atStart => exact ⟨0, Nat.zero_le _, rfl, by simp, Below.refl _ _, H1, fun j _ _ => rfl⟩
 case round =>
  obtain ⟨k, hk, rfl, rfl, HB, HO, HF⟩ := hrel;by_cases hlt : k < n
  rotate_left
  ·obtain rfl : k = n := by omega
   go_wp2
   go_ret;exact ⟨rfl, HO.out, HB.out, HF.out⟩
  have b6 : (k : Int) < (n : Int) := by omega
  obtain ⟨g, rfl⟩ := aM6 H1.out (by omega);have HG : Hid (base ≤ g) := aC8 H1.out rfl;have q0 := (aN2 (aP2 k0 l k) k (by rw [aT2, a1.out]; exact hlt)).1;have b7 : Hid _ := q0;clear q0;have q1 := (aN2 (aP2 k0 l k) k (by rw [aT2, a1.out]; exact hlt)).2.1;have b8 : Hid _ := q1;clear q1;have q2 := (aN2 (aP2 k0 l k) k (by rw [aT2, a1.out]; exact hlt)).2.2.1;have b9 : Hid _ := q2;clear q2;have q3 := (aN2 (aP2 k0 l k) k (by rw [aT2, a1.out]; exact hlt)).2.2.2;have c4 : Hid _ := q3;clear q3;obtain ⟨c0, f0⟩ := bD5 HO.out (k * 4) _ (by exact b7.out);have a2 : (k0 : Int) + 4 * (k : Int) = ((k0 + 4 * k + 0 : Nat) : Int) := by omega
  rw [a2];clear a2;have c5 : Hid (((wr.setCell ⟨g, k * 4, none⟩ (.int .i64 ((k0 + 4 * k + 0 : Nat) : Int)))).ownsRow base 44 4 (.slice (some ⟨g, 0, none⟩) n cap) n ((aB3 (aP2 k0 l k)).set (k * 4) (.int .i64 ((k0 + 4 * k + 0 : Nat) : Int)))) := bB0 HO.out _ _;have a7 : Hid (Below base w (wr.setCell ⟨g, k * 4, none⟩ (.int .i64 ((k0 + 4 * k + 0 : Nat) : Int)))) := HB.out.setCell (p := ⟨g, k * 4, none⟩) HG.out _;have c6 : Hid (∀ j, j < w.heap.size → (Value.slice (some ⟨g, 0, none⟩) n cap).ownBlock ≠ some j → ((wr.setCell ⟨g, k * 4, none⟩ (.int .i64 ((k0 + 4 * k + 0 : Nat) : Int)))).heap[j]? = w.heap[j]?) := fun j hj a0 => (heap_setCell_other _ _ j _ (fun e => a0 (by rw [e]; rfl))).trans (HF.out j hj a0)
  go_wp2_with fail
  refine (aF4 _ (k0 + 4 * k + 1) _ (by omega) (by omega) (by omega)).mono ?_;rintro e u1 ⟨rfl, a5⟩;have a3 := hown c5 a5;have a8 : Hid (Below base w u1) := a7.out.trans (a5.mono (Nat.le_trans hb a7.out.size));have a9 : Hid (∀ j, j < w.heap.size → (Value.slice (some ⟨g, 0, none⟩) n cap).ownBlock ≠ some j → (u1).heap[j]? = w.heap[j]?) := fun j hj a0 => (a5.block j (Nat.lt_of_lt_of_le hj a7.out.size)).trans (c6.out j hj a0)
  clear a5 c0 f0;obtain ⟨c1, f1⟩ := bD5 a3.out (k * 4 + 1) _ (by rw [List.getElem?_set_ne (by omega)]; exact b8.out);have c7 : Hid ((((u1).setCell ⟨g, k * 4 + 1, none⟩ (.string (aB1 (k0 + 4 * k + 1))))).ownsRow base 44 4 (.slice (some ⟨g, 0, none⟩) n cap) n (((aB3 (aP2 k0 l k)).set (k * 4) (.int .i64 ((k0 + 4 * k + 0 : Nat) : Int))).set (k * 4 + 1) (.string (aB1 (k0 + 4 * k + 1))))) := bB0 a3.out _ _;have b0 : Hid (Below base w ((u1).setCell ⟨g, k * 4 + 1, none⟩ (.string (aB1 (k0 + 4 * k + 1))))) := a8.out.setCell (p := ⟨g, k * 4 + 1, none⟩) HG.out _;have c8 : Hid (∀ j, j < w.heap.size → (Value.slice (some ⟨g, 0, none⟩) n cap).ownBlock ≠ some j → (((u1).setCell ⟨g, k * 4 + 1, none⟩ (.string (aB1 (k0 + 4 * k + 1))))).heap[j]? = w.heap[j]?) := fun j hj a0 => (heap_setCell_other _ _ j _ (fun e => a0 (by rw [e]; rfl))).trans (a9.out j hj a0)
  go_wp2_with fail
  refine (aF4 _ (k0 + 4 * k + 2) _ (by omega) (by omega) (by omega)).mono ?_;rintro e u2 ⟨rfl, a6⟩;have a4 := hown c7 a6;have b1 : Hid (Below base w u2) := b0.out.trans (a6.mono (Nat.le_trans hb b0.out.size));have b2 : Hid (∀ j, j < w.heap.size → (Value.slice (some ⟨g, 0, none⟩) n cap).ownBlock ≠ some j → (u2).heap[j]? = w.heap[j]?) := fun j hj a0 => (a6.block j (Nat.lt_of_lt_of_le hj b0.out.size)).trans (c8.out j hj a0)
  clear a6 c1 f1;obtain ⟨c2, f2⟩ := bD5 a4.out (k * 4 + 2) _ (by rw [List.getElem?_set_ne (by omega)]; rw [List.getElem?_set_ne (by omega)]; exact b9.out);have b4 : Hid ((((u2).setCell ⟨g, k * 4 + 2, none⟩ (.string (aB1 (k0 + 4 * k + 2))))).ownsRow base 44 4 (.slice (some ⟨g, 0, none⟩) n cap) n ((((aB3 (aP2 k0 l k)).set (k * 4) (.int .i64 ((k0 + 4 * k + 0 : Nat) : Int))).set (k * 4 + 1) (.string (aB1 (k0 + 4 * k + 1)))).set (k * 4 + 2) (.string (aB1 (k0 + 4 * k + 2))))) := bB0 a4.out _ _;have c9 : Hid (Below base w ((u2).setCell ⟨g, k * 4 + 2, none⟩ (.string (aB1 (k0 + 4 * k + 2))))) := b1.out.setCell (p := ⟨g, k * 4 + 2, none⟩) HG.out _;have d0 : Hid (∀ j, j < w.heap.size → (Value.slice (some ⟨g, 0, none⟩) n cap).ownBlock ≠ some j → (((u2).setCell ⟨g, k * 4 + 2, none⟩ (.string (aB1 (k0 + 4 * k + 2))))).heap[j]? = w.heap[j]?) := fun j hj a0 => (heap_setCell_other _ _ j _ (fun e => a0 (by rw [e]; rfl))).trans (b2.out j hj a0)
  obtain ⟨c3, f3⟩ := bD5 b4.out (k * 4 + 3) _ (by rw [List.getElem?_set_ne (by omega)]; rw [List.getElem?_set_ne (by omega)]; rw [List.getElem?_set_ne (by omega)]; exact c4.out);obtain ⟨m3, b5⟩ : ∃ m : Nat, m = k0 + 4 * k + 3 := ⟨_, rfl⟩;have d1 := hid b5;have d2 : (k0 : Int) + 4 * (k : Int) + 1 + 1 + 1 = (m3 : Int) := by omega
  clear b5;have d3 : Hid ((((((u2).setCell ⟨g, k * 4 + 2, none⟩ (.string (aB1 (k0 + 4 * k + 2))))).setCell ⟨g, k * 4 + 3, none⟩ (.int .i64 (m3 : Int)))).ownsRow base 44 4 (.slice (some ⟨g, 0, none⟩) n cap) n (((((aB3 (aP2 k0 l k)).set (k * 4) (.int .i64 ((k0 + 4 * k + 0 : Nat) : Int))).set (k * 4 + 1) (.string (aB1 (k0 + 4 * k + 1)))).set (k * 4 + 2) (.string (aB1 (k0 + 4 * k + 2)))).set (k * 4 + 3) (.int .i64 (m3 : Int)))) := bB0 b4.out _ _;have d4 : Hid (Below base w ((((u2).setCell ⟨g, k * 4 + 2, none⟩ (.string (aB1 (k0 + 4 * k + 2))))).setCell ⟨g, k * 4 + 3, none⟩ (.int .i64 (m3 : Int)))) := c9.out.setCell (p := ⟨g, k * 4 + 3, none⟩) HG.out _;have d5 : Hid (∀ j, j < w.heap.size → (Value.slice (some ⟨g, 0, none⟩) n cap).ownBlock ≠ some j → (((((u2).setCell ⟨g, k * 4 + 2, none⟩ (.string (aB1 (k0 + 4 * k + 2))))).setCell ⟨g, k * 4 + 3, none⟩ (.int .i64 (m3 : Int)))).heap[j]? = w.heap[j]?) := fun j hj a0 => (heap_setCell_other _ _ j _ (fun e => a0 (by rw [e]; rfl))).trans (d0.out j hj a0)
  have b3 : Hid (aB3 (aP2 k0 l (k + 1)) = ((((aB3 (aP2 k0 l k)).set (k * 4) (.int .i64 ((k0 + 4 * k + 0 : Nat) : Int))).set (k * 4 + 1) (.string (aB1 (k0 + 4 * k + 1)))).set (k * 4 + 2) (.string (aB1 (k0 + 4 * k + 2)))).set (k * 4 + 3) (.int .i64 (m3 : Int))) := by
   show _ = _
   rw [d1.out, aP2, bQ6 _ _ _ (by rw [aT2, a1.out]; exact hlt)]
  go_wp2
  go_roundw
  case rel => exact ⟨k + 1, by omega, by go_num, by first | go_num | (congr 1; omega), d4.out, by show World.ownsRow _ _ _ _ _ _ _; rw [b3.out]; exact d3.out, d5.out⟩
  case measure => simp [intOf]; omega
theorem cI5 (oa : Oa) (n cap base : Nat) (l : Bs) (w : World) (h1 : w.ownsRow base 44 4 (.slice oa n cap) n (aB3 l)) (k0 : Nat) (hk0 : 1 ≤ k0) (hn : k0 + 4 * n ≤ 99999999) (hm : ∀ j, j < n → (aK2 l j).1 = ((k0 + 4 * j + 0 : Nat) : Int) ∧ (aK2 l j).2.1 = (aB1 (k0 + 4 * j + 1)) ∧ (aK2 l j).2.2.1 = (aB1 (k0 + 4 * j + 2)) ∧ (aK2 l j).2.2.2 = ((k0 + 4 * j + 3 : Nat) : Int)) :
  Calls prog 132 #[.slice oa n cap, .int .i64 (k0 : Int)] w fun e w' => e = .returned (.int .i64 ((k0 : Int) + 4 * (n : Int))) ∧ Below w.heap.size w w' := by
 have H1 : Hid (∀ W, Bw w W → W.ownsRow base 44 4 (.slice oa n cap) n (aB3 l)) := fun W h => aA8 h1 h (fun g hg => aB0 h1 hg)
 have HM := hid hm;clear h1 hm;go_enter func132, ntmps132;go_wp2
 go_loopw [1, 5] (fun q i wr => ∃ k : Nat, k ≤ n ∧ i = .int .i64 (k : Int) ∧ q = .int .i64 ((k0 : Int) + 4 * (k : Int)) ∧ Hid (Bw w wr)) (fun _ i _ => n - (intOf i).toNat)
 case atStart => exact ⟨0, Nat.zero_le _, rfl, by simp, Below.refl _ _⟩
 case round =>
  obtain ⟨k, hk, rfl, rfl, HB⟩ := hrel;by_cases hlt : k < n
  rotate_left
  ·obtain rfl : k = n := by omega
   go_wp2
   go_ret;exact ⟨rfl, HB.out⟩
  have a8 : (k : Int) < (n : Int) := by omega
  obtain ⟨g, rfl⟩ := aM6 (H1.out w (Below.refl _ _)) (by omega)
  have HA : Hid (∀ w0 w1, Bw w w0 → Below w0.heap.size w0 w1 → (w1.cell? ⟨g, k * 4, none⟩ = some (.int .i64 ((k0 + 4 * k + 0 : Nat) : Int)) ∧ w1.cell? ⟨g, k * 4 + 1, none⟩ = some (.string (aB1 (k0 + 4 * k + 1))) ∧ w1.cell? ⟨g, k * 4 + 2, none⟩ = some (.string (aB1 (k0 + 4 * k + 2))) ∧ w1.cell? ⟨g, k * 4 + 3, none⟩ = some (.int .i64 ((k0 + 4 * k + 3 : Nat) : Int))) ∧ Bw w w1) := fun w0 w1 h h' => by
   have hx := h.trans (h'.mono h.size)
   obtain ⟨g', e, _, a0, a1, a2, a3⟩ := (bB4 (H1.out w1 hx)).2 k hlt
   cases e
   obtain ⟨m0, m1, m2, m3⟩ := HM.out k hlt
   rw [m0] at a0
   rw [m1] at a1
   rw [m2] at a2
   rw [m3] at a3
   exact ⟨⟨a0, a1, a2, a3⟩, hx⟩
  obtain ⟨⟨e0, e1, e2, e3⟩, _⟩ := HA.out wr wr HB.out (Below.refl _ _);have a9 : ((((k0 + 4 * k + 0 : Nat) : Int)) != ((k0 : Int) + 4 * (k : Int))) = false := by first | (simp; done) | (simp; omega)
  go_wp2
  go_region_held3 (fun w' => w'.cell? ⟨g, k * 4 + 1, none⟩ = some (.string (aB1 (k0 + 4 * k + 1)))) (first | assumption | go_keep) (first | (go_at_call 224; refine (aF4 _ (k0 + 4 * k + 1) _ (by omega) (by omega) (by omega)).mono ?_; rintro e u1 ⟨rfl, b0⟩; obtain ⟨⟨e0, e1, e2, e3⟩, a4⟩ := HA.out _ u1 (HB.out).drew b0))
  have a6 := hid a4;clear a4;go_wp2
  go_region_held3 (fun w' => w'.cell? ⟨g, k * 4 + 2, none⟩ = some (.string (aB1 (k0 + 4 * k + 2)))) (first | assumption | go_keep) (first | (go_at_call 224; refine (aF4 _ (k0 + 4 * k + 2) _ (by omega) (by omega) (by omega)).mono ?_; rintro e u2 ⟨rfl, b1⟩; obtain ⟨⟨e0, e1, e2, e3⟩, a5⟩ := HA.out _ u2 (a6.out).drew b1))
  have a7 := hid a5;clear a5;have b2 : ((((k0 + 4 * k + 3 : Nat) : Int)) != ((k0 : Int) + 4 * (k : Int) + 1 + 1 + 1)) = false := by first | (simp; done) | (simp; omega)
  go_wp2
  go_roundw
  case rel => exact ⟨k + 1, by omega, by go_num, by first | go_num | (congr 1; omega), a7⟩
  case measure => simp [intOf]; omega
def AnyP (l : Bs) (p : Tx) (xs ys : Ts) (st : Int) (fs : Fs) (d : Tx) (u : Int) : Prop := ∃ x ∈ l, HitP x.1 x.2.1 x.2.2.1 x.2.2.2 p xs ys st fs d u
theorem bQ7 (oa : Oa) (n cap : Nat) (l : Bs) (p : Tx) (o1 : Oa) (n1 c1 : Nat) (xs : Ts) (o2 : Oa) (n2 c2 : Nat) (ys : Ts) (st : Int) (v3 : Value) (n3 base : Nat) (fs : Fs) (d : Tx) (u : Int) (w : World) (hl : BanA w oa n l) (hn : n ≤ 2000000) (hlz : ∀ x ∈ l, x.2.1.size ≤ maxLen ∧ x.2.2.1.size ≤ maxLen) (h1 : aC0 w o1 n1 xs) (h2 : aC0 w o2 n2 ys) (h3 : aB4 w base v3 n3 fs) (hn1 : n1 ≤ 2000000) (hn2 : n2 ≤ 2000000) (hn3 : n3 ≤ 2000000) (hs1 : ∀ i, i < n1 → (aA7 xs i).size ≤ maxLen) (hs2 : ∀ i, i < n2 → (aA7 ys i).size ≤ maxLen) (hs3 : aR0 n3 fs) (hp : p.size ≤ maxLen) (hx : d.size ≤ maxLen) (hg : (getV fs aF0).size ≤ 1048576) :
  Calls prog 54 #[.slice oa n cap, .agg #[.string p, .slice o1 n1 c1, .slice o2 n2 c2, .int .i64 st, v3, .string d, .int .i64 u]] w fun e w' => aA5 (AnyP l p xs ys st fs d u) w e w' := by
 obtain ⟨o3, c3, rfl, _⟩ := h3.slice;have HL : Hid (∀ W, Bw w W → BanA W oa n l) := fun W h => hl.below h
 have a9 : Hid (l.length = n) := hl.1
 have HC : Hid (∀ (k : Int) (a b : Tx) (t : Int) (W : World), Bw w W → a.size ≤ maxLen → b.size ≤ maxLen → Calls prog 157 #[.agg #[.int .i64 k, .string a, .string b, .int .i64 t], .agg #[.string p, .slice o1 n1 c1, .slice o2 n2 c2, .int .i64 st, .slice o3 n3 c3, .string d, .int .i64 u]] W fun e w' => aA5 (HitP k a b t p xs ys st fs d u) W e w') := fun k a b t W h ha hb =>
  cI3 k a b t p o1 n1 c1 xs o2 n2 c2 ys st _ n3 base fs d u W ha hb (h1.below h) (h2.below h) (h3.below h) hn1 hn2 hn3 hs1 hs2 hs3 hp hx hg
 have b2 := hid hlz;obtain ⟨q, hq⟩ := exq (w.heap.size);obtain ⟨W1, a2⟩ := exq (w.alloc (.cells #[.string p, .slice o1 n1 c1, .slice o2 n2 c2, .int .i64 st, .slice o3 n3 c3, .string d, .int .i64 u] 36));have H1 : Hid (Bw w W1 ∧ W1.heap[q]? = some (.cells #[.string p, .slice o1 n1 c1, .slice o2 n2 c2, .int .i64 st, .slice o3 n3 c3, .string d, .int .i64 u] 36)) := ⟨by rw [a2]; exact (Below.refl _ _).alloc (Nat.le_refl _) _, by rw [a2, hq]; exact heap_alloc_new _ _⟩;clear hl hlz h1 h2 h3 hs1 hs2 hs3 hp hx hg;go_enter func54, ntmps54;go_upto_region 1 with fail
 rw [← a2, ← hq];clear a2 hq;go_wp2_with fail
 go_loopw [5] (fun i wr => ∃ j : Nat, j ≤ n ∧ i = .int .i64 (j : Int) ∧ Hid (Bw w wr ∧ wr.heap[q]? = some (.cells #[.string p, .slice o1 n1 c1, .slice o2 n2 c2, .int .i64 st, .slice o3 n3 c3, .string d, .int .i64 u] 36)) ∧ Hid (∀ x ∈ l.take j, ¬ HitP x.1 x.2.1 x.2.2.1 x.2.2.2 p xs ys st fs d u)) (fun i _ => n - (intOf i).toNat)
 case atStart => exact ⟨0, Nat.zero_le _, rfl, H1, fun x hx => by simp at hx⟩
 case round =>
  obtain ⟨j, hj, rfl, HW, HN⟩ := hrel;by_cases hlt : (j : Int) < (n : Int)
  rotate_left
  ·have HA : Hid (¬ AnyP l p xs ys st fs d u) := by
    rintro ⟨x, hx, h⟩
    have h2 := HN.out
    rw [List.take_of_length_le (by rw [a9.out]; omega)] at h2
    exact h2 x hx h
   clear HN;go_wp2_with fail
   go_ret;exact aA5.no HA.out HW.out.1
  have a7 : j < l.length := by rw [a9.out]; omega
  obtain ⟨g, b3, a3, r1, r2, r3, r4⟩ := (HL.out wr HW.out.1).2 j (by omega);subst b3;obtain ⟨y, hy⟩ := exq (aK2 l j);rw [← hy] at r1 r2 r3 r4;have HM : Hid (y ∈ l) := by show _ ∈ _; rw [hy]; exact bQ5 l j a7
  have b4 : Hid (l.take (j + 1) = l.take j ++ [y]) := by show _ = _; rw [hy]; exact bY4 l j a7
  clear hy a7;obtain ⟨k, a, b, t⟩ := y;dsimp only at r1 r2 r3 r4;obtain ⟨za, zb⟩ := b2.out _ HM.out;dsimp only at za zb;have b0 := HW.out.2;obtain ⟨e0, e1, e2, e3, e4, e5, e6⟩ := c7c b0
  have a8 : Hid (∀ W, Below wr.heap.size wr W → ((W.cell? ⟨g, j * 4, none⟩ = some (.int .i64 k) ∧ W.cell? ⟨g, j * 4 + 1, none⟩ = some (.string a) ∧ W.cell? ⟨g, j * 4 + 2, none⟩ = some (.string b) ∧ W.cell? ⟨g, j * 4 + 3, none⟩ = some (.int .i64 t)) ∧ (W.cell? ⟨q, 0, none⟩ = some (.string p) ∧ W.cell? ⟨q, 1, none⟩ = some (.slice o1 n1 c1) ∧ W.cell? ⟨q, 2, none⟩ = some (.slice o2 n2 c2) ∧ W.cell? ⟨q, 3, none⟩ = some (.int .i64 st) ∧ W.cell? ⟨q, 4, none⟩ = some (.slice o3 n3 c3) ∧ W.cell? ⟨q, 5, none⟩ = some (.string d) ∧ W.cell? ⟨q, 6, none⟩ = some (.int .i64 u))) ∧ W.heap[q]? = some (.cells #[.string p, .slice o1 n1 c1, .slice o2 n2 c2, .int .i64 st, .slice o3 n3 c3, .string d, .int .i64 u] 36)) := fun W h => by
   have a0 := aA6 HW.out.2 h
   exact ⟨⟨⟨by rw [h.cell (p := ⟨g, j * 4, none⟩) a3]; exact r1, by rw [h.cell (p := ⟨g, j * 4 + 1, none⟩) a3]; exact r2, by rw [h.cell (p := ⟨g, j * 4 + 2, none⟩) a3]; exact r3, by rw [h.cell (p := ⟨g, j * 4 + 3, none⟩) a3]; exact r4⟩, (aA1 a0 0).trans rfl, (aA1 a0 1).trans rfl, (aA1 a0 2).trans rfl, (aA1 a0 3).trans rfl, (aA1 a0 4).trans rfl, (aA1 a0 5).trans rfl, (aA1 a0 6).trans rfl⟩, a0⟩
  have a4 := hid HW.out.1;clear b0 HW;go_wp2_with fail
  refine wp_region_held_drew (S := fun W => (W.cell? ⟨g, j * 4, none⟩ = some (.int .i64 k) ∧ W.cell? ⟨g, j * 4 + 1, none⟩ = some (.string a) ∧ W.cell? ⟨g, j * 4 + 2, none⟩ = some (.string b) ∧ W.cell? ⟨g, j * 4 + 3, none⟩ = some (.int .i64 t)) ∧ (W.cell? ⟨q, 0, none⟩ = some (.string p) ∧ W.cell? ⟨q, 1, none⟩ = some (.slice o1 n1 c1) ∧ W.cell? ⟨q, 2, none⟩ = some (.slice o2 n2 c2) ∧ W.cell? ⟨q, 3, none⟩ = some (.int .i64 st) ∧ W.cell? ⟨q, 4, none⟩ = some (.slice o3 n3 c3) ∧ W.cell? ⟨q, 5, none⟩ = some (.string d) ∧ W.cell? ⟨q, 6, none⟩ = some (.int .i64 u))) (by kernel_rfl) ⟨⟨r1, r2, r3, r4⟩, e0, e1, e2, e3, e4, e5, e6⟩ (fun a1 => ?_)
  refine tkP 0 (.slice (some ⟨g, 0, none⟩) n cap) 12 rfl rfl a1 (tkP 1 (.int .i64 (j : Int)) 13 rfl rfl a1 (tkP 2 (.pointer (some ⟨g, j * 4, none⟩)) 14 rfl rfl a1 ?_));go_frame;refine tkL 3 (.agg #[.int .i64 k, .string a, .string b, .int .i64 t]) 15 rfl rfl (Or.inl ⟨by rfl, by intro W hW; obtain ⟨⟨y0, y1, y2, y3⟩, _⟩ := hW; go_simp⟩) a1 ?_;go_frame;refine tkL 4 (.agg #[.string p, .slice o1 n1 c1, .slice o2 n2 c2, .int .i64 st, .slice o3 n3 c3, .string d, .int .i64 u]) 16 rfl rfl (Or.inl ⟨by rfl, by intro W hW; obtain ⟨_, y0, y1, y2, y3, y4, y5, y6⟩ := hW; go_simp⟩) a1 ?_;go_frame;refine rd1 5 rfl (fun K hK => ?_)
  go_simp;refine (HC.out k a b t _ a4.out.drew za zb).mono ?_;rintro e w1 ⟨tx, rfl, a5, bw⟩;have a6 : Hid (Below wr.heap.size wr w1) := (Below.refl _ wr).drew.trans bw;have b1 : Hid (Bw w w1 ∧ w1.heap[q]? = some (.cells #[.string p, .slice o1 n1 c1, .slice o2 n2 c2, .int .i64 st, .slice o3 n3 c3, .string d, .int .i64 u] 36)) := ⟨a4.out.trans (a6.out.mono a4.out.size), (a8.out w1 a6.out).2⟩;refine hK.out _ _ (a8.out w1 a6.out).1 (fun _ => ?_)
  refine wdn ?_;clear hK K a1 r1 r2 r3 r4 e0 e1 e2 e3 e4 e5 e6 bw a8 a6 a4;cases tx with
  | true =>
   have HA : Hid (AnyP l p xs ys st fs d u) := ⟨_, HM.out, a5.1 rfl⟩;clear a5 HN;go_wp2_with fail
   go_ret;exact ⟨true, rfl, ⟨fun _ => HA.out, fun _ => rfl⟩, b1.out.1⟩
  | false =>
   have b5 : Hid (∀ x ∈ l.take (j + 1), ¬ HitP x.1 x.2.1 x.2.2.1 x.2.2.2 p xs ys st fs d u) := by
    intro x hx
    rw [b4.out] at hx
    rcases List.mem_append.1 hx with hx | hx
    ·exact HN.out x hx
    ·rw [List.mem_singleton.1 hx]; exact fun h => nomatch a5.2 h
   clear a5 HN;go_wp2_with fail
   go_roundw
   case rel => exact ⟨j + 1, by omega, by go_num, b1, b5⟩
   case measure => simp [intOf]; omega
def decT (n : Nat) : ByteArray := ⟨(Lib.decDigits n).toArray⟩
theorem aZ2 (n : Nat) : bs (decT n) = Lib.decDigits n := by simp [bs, decT]
def sumL (p : Nat × Nat) : List UInt8 → Nat × Nat
 | [] => p
 | x :: r => sumL ((p.1 + x.toNat) % 65521, (p.2 + (p.1 + x.toNat) % 65521) % 65521) r
def sumP (s : Tx) : Nat := 65521 * (sumL (1, 0) (bs s)).2 + (sumL (1, 0) (bs s)).1
theorem bQ8 (x : UInt8) : ∀ (l : List UInt8) (p : Nat × Nat), sumL p (l ++ [x]) = (((sumL p l).1 + x.toNat) % 65521, ((sumL p l).2 + ((sumL p l).1 + x.toNat) % 65521) % 65521)
 | [], _ => rfl
 | y :: l, p => by
  rw [List.cons_append, sumL, bQ8 x l, sumL]
theorem dD1 : ∀ (l : List UInt8) (p : Nat × Nat), p.1 < 65521 → p.2 < 65521 → (sumL p l).1 < 65521 ∧ (sumL p l).2 < 65521
 | [], _, h1, h2 => ⟨h1, h2⟩
 | y :: l, p, _, _ => by
  rw [sumL]
  exact dD1 l _ (Nat.mod_lt _ (by decide)) (Nat.mod_lt _ (by decide))
theorem cD0 (s : Tx) : sumP s ≤ 4293001440 := by
 have h := dD1 (bs s) (1, 0) (by decide) (by decide);unfold sumP;omega
theorem dO0 (n : Nat) : ∀ x ∈ Lib.decDigits n, DigB x := by
 induction n using Nat.strongRecOn with
 | ind n ih =>
  intro x hx
  rw [Lib.decDigits] at hx
  split at hx
  ·rename_i h
   rw [List.mem_singleton.1 hx]
   have e := aN0 n
   rw [Nat.mod_eq_of_lt h] at e
   unfold DigB
   rw [e]
   omega
  ·rename_i h
   rcases List.mem_append.1 hx with hx | hx
   ·exact ih (n / 10) (by omega) x hx
   ·rw [List.mem_singleton.1 hx]
    have e := aN0 n
    unfold DigB
    rw [e]
    omega
theorem dD2 (n : Nat) : valL (Lib.decDigits n) = n := by
 induction n using Nat.strongRecOn with
 | ind n ih =>
  rw [Lib.decDigits]
  split
  ·rename_i h
   have e := aN0 n
   rw [Nat.mod_eq_of_lt h] at e
   show 10 * 0 + ((UInt8.ofNat (48 + n)).toNat - 48) = n
   rw [e]
   omega
  ·rename_i h
   rw [aY8, ih (n / 10) (by omega), aN0]
   omega
theorem dO1 {m n : Nat} (h : Lib.decDigits m = Lib.decDigits n) : m = n := by rw [← dD2 m, h, dD2]
theorem aT3 (n : Nat) : ∀ x ∈ Lib.decDigits n, x ≠ 32 ∧ x ≠ 10 := fun x hx => by
 have h := dO0 n x hx
 unfold DigB at h
 exact ⟨fun e => by rw [e] at h; exact absurd h.1 (by decide), fun e => by rw [e] at h; exact absurd h.1 (by decide)⟩
theorem bF7 (c : UInt8) : ∀ (a a' r r' : List UInt8), (∀ x ∈ a, x ≠ c) → (∀ x ∈ a', x ≠ c) → a ++ c :: r = a' ++ c :: r' → a = a' ∧ r = r'
 | [], [], r, r', _, _, h => ⟨rfl, (List.cons.inj h).2⟩
 | [], y :: a', r, r', _, h2, h => absurd (List.cons.inj h).1.symm (h2 y (by simp))
 | x :: a, [], r, r', h1, _, h => absurd (List.cons.inj h).1 (h1 x (by simp))
 | x :: a, y :: a', r, r', h1, h2, h => by
  obtain ⟨e1, e2⟩ := List.cons.inj h
  obtain ⟨e3, e4⟩ := bF7 c a a' r r' (fun z hz => h1 z (by simp [hz])) (fun z hz => h2 z (by simp [hz])) e2
  exact ⟨by rw [e1, e3], e4⟩
def recR (seq : Nat) (b : Tx) : ByteArray := decT seq ++ ⟨#[32]⟩ ++ decT b.size ++ ⟨#[10]⟩ ++ b
def recT (seq : Nat) (b : Tx) : ByteArray := decT (sumP (recR seq b)) ++ ⟨#[32]⟩ ++ recR seq b
def RecP (seq : Int) (b : Tx) : Prop := 1 ≤ seq ∧ seq ≤ 100000 ∧ b.size ≤ 2000
def recI (seq : Int) (b : Tx) : ByteArray := if 1 ≤ seq ∧ seq ≤ 100000 ∧ b.size ≤ 2000 then recT seq.toNat b else ⟨#[]⟩
def aL9 (s : Tx) (seq : Int) (b : Tx) : Prop := RecP seq b ∧ recT seq.toNat b = s
theorem bF8 {seq : Int} {b : ByteArray} (h : RecP seq b) : recI seq b = recT seq.toNat b := if_pos h
theorem bQ9 {seq : Int} {b : ByteArray} (h : ¬ RecP seq b) : recI seq b = ⟨#[]⟩ := if_neg h
theorem cD1 (seq : Nat) (b : Tx) : bs (recR seq b) = Lib.decDigits seq ++ 32 :: (Lib.decDigits b.size ++ 10 :: bs b) := by
 unfold recR;rw [aF7, aF7, aF7, aF7, aZ2, aZ2];show ((Lib.decDigits seq ++ [32]) ++ Lib.decDigits b.size ++ [10]) ++ bs b = _
 simp
theorem bR0 (seq : Nat) (b : Tx) : bs (recT seq b) = Lib.decDigits (sumP (recR seq b)) ++ 32 :: bs (recR seq b) := by
 unfold recT;rw [aF7, aF7, aZ2];show (Lib.decDigits (sumP (recR seq b)) ++ [32]) ++ bs (recR seq b) = _
 simp
theorem dO2 (seq : Nat) (b : Tx) : recT seq b ≠ ⟨#[]⟩ := fun e => by
 have h := bR0 seq b
 rw [e] at h
 have h2 : (bs (⟨#[]⟩ : Tx)).length = 0 := rfl
 rw [h] at h2
 simp at h2
theorem aL9.uniq {s : ByteArray} {q q' : Int} {b b' : ByteArray} (h : aL9 s q b) (h' : aL9 s q' b') : q = q' ∧ b = b' := by
 obtain ⟨⟨h1, h2, h3⟩, h4⟩ := h;obtain ⟨⟨g1, g2, g3⟩, g4⟩ := h';have e : bs (recT q.toNat b) = bs (recT q'.toNat b') := by rw [h4, g4]
 rw [bR0, bR0] at e;obtain ⟨_, e1⟩ := bF7 32 _ _ _ _ (fun x hx => (aT3 _ x hx).1) (fun x hx => (aT3 _ x hx).1) e
 rw [cD1, cD1] at e1;obtain ⟨e2, e3⟩ := bF7 32 _ _ _ _ (fun x hx => (aT3 _ x hx).1) (fun x hx => (aT3 _ x hx).1) e1
 obtain ⟨_, e4⟩ := bF7 10 _ _ _ _ (fun x hx => (aT3 _ x hx).2) (fun x hx => (aT3 _ x hx).2) e3
 have e5 := dO1 e2;exact ⟨by omega, aE3 e4⟩
def dR7 : KpD := ⟨⟨#[]⟩, [], [], 0, [], ⟨#[]⟩, 0, 0, 0⟩
def kpAt (ks : List KpD) (i : Nat) : KpD := ks.getD i dR7
theorem dJ3 (ks : List KpD) (i : Nat) (h : i < ks.length) : ks[i]'h = kpAt ks i := by
 unfold kpAt;rw [List.getD_eq_getElem?_getD, List.getElem?_eq_getElem h];rfl
def ObjK (k : KpD) : Prop := ObjP k.p k.xs k.ys k.st k.fs k.b k.t
def AnyK (bl : Bs) (k : KpD) : Prop := AnyP bl k.p k.xs k.ys k.st k.fs k.b k.t
def aZ3 (k o : KpD) : Prop := k.p = o.p ∧ k.xs = o.xs ∧ k.ys = o.ys
structure ShD where
 cs : Ts
 ws : List (Int × ByteArray)
 ks : List KpD
 bl : Bs
 nx : Int
 sq : Int
def newS : ShD := ⟨newC, [], [], [], 5, 1⟩
def aN7 (a : Int) : Int := if a = 19 then 5 else a + 1
structure ObjO (W : World) (base : Nat) (v1 : Value) (n1 : Nat) (xs : Ts) (v2 : Value) (n2 : Nat) (ys : Ts) (v3 : Value) (n3 : Nat) (fs : Fs) : Prop where
 names : W.ownsRow base 9 1 v1 n1 (xs.map Value.string)
 vals : W.ownsRow base 9 1 v2 n2 (ys.map Value.string)
 flds : W.ownsRow base 232 2 v3 n3 (aE5 fs)
 ne : ∀ j, v1.ownBlock = some j → v2.ownBlock ≠ some j
theorem dD3 (p : Tx) (n1 : Nat) (xs : Ts) (n2 : Nat) (ys : Ts) (st : Int) (n3 : Nat) (fs : Fs) (b : Tx) (t : Int) (v1 v2 v3 u1 u2 u3 : Value) (B1 B2 : Nat) (w : World) (hx : ObjO w B1 v1 n1 xs v2 n2 ys v3 n3 fs) (hy : ObjO w B2 u1 n1 xs u2 n2 ys u3 n3 fs) (hn1 : n1 ≤ 2000000) (hn2 : n2 ≤ 2000000) (hn3 : n3 ≤ 2000000) :
  Calls prog 37 #[.agg #[.string p, v1, v2, .int .i64 st, v3, .string b, .int .i64 t], .agg #[.string p, u1, u2, .int .i64 st, u3, .string b, .int .i64 t]] w fun e w' => e = .returned (.bool true) ∧ Below w.heap.size w w' := by
 obtain ⟨e2, e3, rfl⟩ := aA0 hx.names;obtain ⟨e4, e5, rfl⟩ := aA0 hx.vals;obtain ⟨e6, e7, rfl⟩ := aA0 hx.flds;have a4 : Hid (w.ownsRow B1 9 1 (.slice e2 n1 e3) n1 (xs.map Value.string)) := hx.names;have a5 : Hid (w.ownsRow B1 9 1 (.slice e4 n2 e5) n2 (ys.map Value.string)) := hx.vals;have a6 : Hid (w.ownsRow B1 232 2 (.slice e6 n3 e7) n3 (aE5 fs)) := hx.flds;clear hx;obtain ⟨e8, e9, rfl⟩ := aA0 hy.names;obtain ⟨f0, f1, rfl⟩ := aA0 hy.vals;obtain ⟨f2, f3, rfl⟩ := aA0 hy.flds;have a7 : Hid (w.ownsRow B2 9 1 (.slice e8 n1 e9) n1 (xs.map Value.string)) := hy.names;have a8 : Hid (w.ownsRow B2 9 1 (.slice f0 n2 f1) n2 (ys.map Value.string)) := hy.vals;have a9 : Hid (w.ownsRow B2 232 2 (.slice f2 n3 f3) n3 (aE5 fs)) := hy.flds;clear hy;have f8 : (p.toList != p.toList) = false := by simp
 have f9 : (t != t) = false := by simp
 have K0 := jnil w;go_enter func37, ntmps37;go_upto_region 1 with fail
 obtain ⟨q1, c8⟩ := exq (w.heap.size);obtain ⟨w1, c6⟩ := exq (w.alloc (.cells #[.string p, .slice e2 n1 e3, .slice e4 n2 e5, .int .i64 st, .slice e6 n3 e7, .string b, .int .i64 t] 36));have c9 := c8.symm;rw [← c6]; try rw [← c8];have f4 := hsa c6 c9;have bw := bal c6;have K1 := ja K0 c6 c9;have b0 := hown a4 bw;have b1 := hown a5 bw;have b2 := hown a6 bw;have b3 := hown a7 bw;have b4 := hown a8 bw;have b5 := hown a9 bw;clear bw c6 c9 K0;obtain ⟨q2, d0⟩ := exq (q1 + 1);obtain ⟨w2, c7⟩ := exq (w1.alloc (.cells #[.string p, .slice e8 n1 e9, .slice f0 n2 f1, .int .i64 st, .slice f2 n3 f3, .string b, .int .i64 t] 36));have d1 : w1.heap.size = q2 := by rw [d0]; exact f4
 rw [← c7]; try rw [← d0];have f5 := hsa c7 d1;have bw := bal c7;have K2 := ja K1 c7 d1;have a0 := hown b0 bw;have b6 := hown b1 bw;have b7 := hown b2 bw;have a1 := hown b3 bw;have b8 := hown b4 bw;have b9 := hown b5 bw;clear bw c7 d1 K1;clear f5 d0 f4 c8;have d2 := c7c (jb K2 1 rfl);have d3 := c7c (jb K2 0 rfl);go_wp2_with fail
 refine (cL9 _ _ n1 _ _ xs _ a0.out a1.out (by omega)).mono ?_;rintro e w3 ⟨rfl, bw⟩;have K3 := jw K2 bw;have c0 := hown a0 bw;have a2 := hown b6 bw;have c1 := hown b7 bw;have c2 := hown a1 bw;have a3 := hown b8 bw;have c3 := hown b9 bw;clear bw K2;clear d2 d3;have d4 := c7c (jb K3 1 rfl);have d5 := c7c (jb K3 0 rfl);go_wp2_with fail
 refine (cL9 _ _ n2 _ _ ys _ a2.out a3.out (by omega)).mono ?_;rintro e w4 ⟨rfl, bw⟩;have K4 := jw K3 bw;have d6 := hown c0 bw;have d7 := hown a2 bw;have c4 := hown c1 bw;have d8 := hown c2 bw;have d9 := hown a3 bw;have c5 := hown c3 bw;clear bw K3;clear d4 d5;have e0 := c7c (jb K4 1 rfl);have e1 := c7c (jb K4 0 rfl);go_wp2_with fail
 refine (cV2 st _ _ b n3 _ _ fs _ (aB4.of_owns c4.out) (aB4.of_owns c5.out) (by omega)).mono ?_;rintro e w5 ⟨rfl, bw⟩;have K5 := jw K4 bw;clear bw K4;clear e0 e1;have f6 := c7c (jb K5 1 rfl);have f7 := c7c (jb K5 0 rfl);go_wp2_with fail
 go_ret;exact ⟨rfl, K5.hb⟩
theorem cV9 (p : Tx) (n1 : Nat) (xs : Ts) (n2 : Nat) (ys : Ts) (st : Int) (n3 : Nat) (fs : Fs) (b : Tx) (t ka kq : Int) (v1 v2 v3 u1 u2 u3 : Value) (B1 B2 : Nat) (w : World) (hx : ObjO w B1 v1 n1 xs v2 n2 ys v3 n3 fs) (hy : ObjO w B2 u1 n1 xs u2 n2 ys u3 n3 fs) (hn1 : n1 ≤ 2000000) (hn2 : n2 ≤ 2000000) (hn3 : n3 ≤ 2000000) :
  Calls prog 221 #[.agg #[.string p, v1, v2, .int .i64 st, v3, .string b, .int .i64 t, .int .i64 ka, .int .i64 kq], .agg #[.string p, u1, u2, .int .i64 st, u3, .string b, .int .i64 t, .int .i64 ka, .int .i64 kq]] w fun e w' => e = .returned (.bool true) ∧ Below w.heap.size w w' := by
 obtain ⟨c0, c1, rfl⟩ := aA0 hx.names;obtain ⟨c2, c3, rfl⟩ := aA0 hx.vals;obtain ⟨d4, d5, rfl⟩ := aA0 hx.flds;have a0 : Hid (w.ownsRow B1 9 1 (.slice c0 n1 c1) n1 (xs.map Value.string)) := hx.names;have a1 : Hid (w.ownsRow B1 9 1 (.slice c2 n2 c3) n2 (ys.map Value.string)) := hx.vals;have a2 : Hid (w.ownsRow B1 232 2 (.slice d4 n3 d5) n3 (aE5 fs)) := hx.flds;have d9 : Hid (∀ j, (Value.slice c0 n1 c1).ownBlock = some j → (Value.slice c2 n2 c3).ownBlock ≠ some j) := hx.ne;clear hx;obtain ⟨c4, c5, rfl⟩ := aA0 hy.names;obtain ⟨c6, c7, rfl⟩ := aA0 hy.vals;obtain ⟨d6, d7, rfl⟩ := aA0 hy.flds;have a3 : Hid (w.ownsRow B2 9 1 (.slice c4 n1 c5) n1 (xs.map Value.string)) := hy.names;have a4 : Hid (w.ownsRow B2 9 1 (.slice c6 n2 c7) n2 (ys.map Value.string)) := hy.vals;have a5 : Hid (w.ownsRow B2 232 2 (.slice d6 n3 d7) n3 (aE5 fs)) := hy.flds;have e0 : Hid (∀ j, (Value.slice c4 n1 c5).ownBlock = some j → (Value.slice c6 n2 c7).ownBlock ≠ some j) := hy.ne;clear hy;have e4 : (ka != ka) = false := by simp
 have e5 : (kq != kq) = false := by simp
 have K0 := jnil w;go_enter func221, ntmps221;go_upto_region 1 with fail
 obtain ⟨q1, c8⟩ := exq (w.heap.size);obtain ⟨w1, b8⟩ := exq (w.alloc (.cells #[.string p, .slice c0 n1 c1, .slice c2 n2 c3, .int .i64 st, .slice d4 n3 d5, .string b, .int .i64 t, .int .i64 ka, .int .i64 kq] 52));have c9 := c8.symm;rw [← b8]; try rw [← c8];have d8 := hsa b8 c9;have bw := bal b8;have K1 := ja K0 b8 c9;have a6 := hown a0 bw;have a7 := hown a1 bw;have a8 := hown a2 bw;have a9 := hown a3 bw;have b0 := hown a4 bw;have b1 := hown a5 bw;clear bw b8 c9 K0;obtain ⟨q2, d0⟩ := exq (q1 + 1);obtain ⟨w2, b9⟩ := exq (w1.alloc (.cells #[.string p, .slice c4 n1 c5, .slice c6 n2 c7, .int .i64 st, .slice d6 n3 d7, .string b, .int .i64 t, .int .i64 ka, .int .i64 kq] 52));have d1 : w1.heap.size = q2 := by rw [d0]; exact d8
 rw [← b9]; try rw [← d0];have e1 := hsa b9 d1;have bw := bal b9;have K2 := ja K1 b9 d1;have b2 := hown a6 bw;have b3 := hown a7 bw;have b4 := hown a8 bw;have b5 := hown a9 bw;have b6 := hown b0 bw;have b7 := hown b1 bw;clear bw b9 d1 K1;clear e1 d0 d8 c8;have d2 := c9c (jb K2 1 rfl);have d3 := c9c (jb K2 0 rfl);go_wp2_with fail
 refine (dD3 p n1 xs n2 ys st n3 fs b t _ _ _ _ _ _ _ _ _ ⟨b2.out, b3.out, b4.out, d9.out⟩ ⟨b5.out, b6.out, b7.out, e0.out⟩ hn1 hn2 hn3).mono ?_;rintro e w3 ⟨rfl, bw⟩;have K3 := jw K2 bw;clear bw K2;clear d2 d3;have e2 := c9c (jb K3 1 rfl);have e3 := c9c (jb K3 0 rfl);go_wp2_with fail
 go_ret;exact ⟨rfl, K3.hb⟩
def aH8 (k : KpD) : Prop := (k.p.size ≤ 1048576 ∧ k.b.size ≤ 1048576) ∧ (k.xs.length ≤ 1048576 ∧ ∀ i, i < k.xs.length → (aA7 k.xs i).size ≤ 1048576) ∧ (k.ys.length ≤ 1048576 ∧ ∀ i, i < k.ys.length → (aA7 k.ys i).size ≤ 1048576) ∧ k.fs.length ≤ 1048576 ∧ szTo k.fs k.fs.length ≤ 1048576
def wtK : List KpD → Nat
 | [] => 0
 | k :: r => 1 + k.xs.length + k.ys.length + k.fs.length + wtK r
theorem bR1 {w : World} {B : Nat} {v1 v2 v3 : Value} {k : KpD} (h : ObjO w B v1 k.xs.length k.xs v2 k.ys.length k.ys v3 k.fs.length k.fs) : aB2 w B (kpR (k, v1, v2, v3)) := by
 refine ⟨fun r hr => ?_, ?_⟩
 ·simp only [kpR, List.mem_cons, List.not_mem_nil, or_false] at hr
  rcases hr with rfl | rfl | rfl
  ·exact h.names
  ·exact h.vals
  exact h.flds
 unfold kpR;refine List.pairwise_cons.2 ⟨fun r hr => ?_, List.pairwise_cons.2 ⟨fun r hr => ?_, List.pairwise_singleton _ _⟩⟩
 ·simp only [List.mem_cons, List.not_mem_nil, or_false] at hr
  rcases hr with rfl | rfl
  ·exact fun g hg => h.ne g hg
  exact fun g hg => aW9 h.names h.flds (by decide) hg
 rw [List.mem_singleton.1 hr];exact fun g hg => aW9 h.vals h.flds (by decide) hg
theorem aH2 {w : World} {B : Nat} {x : KpD × Value × Value × Value} (h : aB2 w B (kpR x)) : ObjO w B x.2.1 x.1.xs.length x.1.xs x.2.2.1 x.1.ys.length x.1.ys x.2.2.2 x.1.fs.length x.1.fs := by
 have hp := h.apart;unfold kpR at hp;exact ⟨h.own (kpN x) (by simp [kpR]), h.own (kpV x) (by simp [kpR]), h.own (kpF x) (by simp [kpR]), fun g hg => (List.pairwise_cons.1 hp).1 (kpV x) (by simp) g hg⟩
theorem bB5 : (prog.info? 52).map (fun i => (i.zero, i.size, i.bytes)) = some (some (.agg #[.string ⟨#[]⟩, .slice none 0 0, .slice none 0 0, .int .i64 0, .slice none 0 0, .string ⟨#[]⟩, .int .i64 0, .int .i64 0, .int .i64 0]), 9, 136) := by kernel_rfl
def dR8 (ks : List KpD) (w : World) (e : Ending) (w' : World) : Prop := ∃ (V : Value) (kv : Ks), e = .returned V ∧ kv.map (·.1) = ks ∧ aC5 w' w.heap.size V kv ∧ Below w.heap.size w w'
theorem aC5.obj {w : World} {base : Nat} {V : Value} {kv : Ks} (h : aC5 w base V kv) {x : KpD × Value × Value × Value} (hx : x ∈ kv) : aB2 w base (kpR x) := by
 obtain ⟨s, t, e⟩ := List.append_of_mem hx;refine aB2.sub h ?_;unfold aF2;rw [e, List.flatMap_append, List.flatMap_cons];exact ((List.sublist_append_left _ _).trans (List.sublist_append_right _ _)).trans (List.sublist_cons_self _ _)
theorem cW0 {w : World} {g n base : Nat} {kv : Ks} (hp : aQ7 kpC 9 52 w g n kv) (hl : kv.length = n) (hm : n ≤ maxLen) (hb : base ≤ g) (hr : aB2 w (g + 1) (kv.flatMap kpR)) : aC5 w base (.slice (some ⟨g, 0, none⟩) n n) kv := by
 have a0 : (aT9 (.slice (some ⟨g, 0, none⟩) n n) kv).own w base := by
  have h := hp.owns aZ1 (by decide) hl hm hb
  unfold Rw.own aT9
  rw [hl]
  exact h
 refine ⟨fun r h => ?_, List.pairwise_cons.2 ⟨fun r h g' h1 h2 => ?_, hr.apart⟩⟩
 ·rcases List.mem_cons.1 h with h | h
  ·rw [h]; exact a0
  exact aF5 (hr.own r h) (by omega)
 have e1 : some g = some g' := h1;have e2 := hr.ge h h2;have e3 := Option.some.inj e1;omega
theorem cN8 (V1 V2 : Value) (kv1 kv2 : Ks) (B1 B2 : Nat) (w : World) (he : kv1.map (·.1) = kv2.map (·.1)) (h1 : aC5 w B1 V1 kv1) (h2 : aC5 w B2 V2 kv2) (hn : kv1.length ≤ 2000000) (hs : ∀ x ∈ kv1, x.1.xs.length ≤ 2000000 ∧ x.1.ys.length ≤ 2000000 ∧ x.1.fs.length ≤ 2000000) :
  Calls prog 122 #[V1, V2] w fun e w' => e = .returned (.bool true) ∧ Below w.heap.size w w' := by
 have d1 : kv2.length = kv1.length := by have := congrArg List.length he; simpa using this.symm
 obtain ⟨n, d3⟩ := exq kv1.length;obtain ⟨o1, c1, e1⟩ := h1.len;obtain ⟨o2, c2, e2⟩ := h2.len;rw [← d3] at e1 hn;rw [d1, ← d3] at e2;subst e1 e2;have d4 := hid d3.symm;have d5 : Hid (kv2.length = n) := d1.trans d3.symm;have HE := hid he;have HS := hid hs;have H1 : Hid (∀ W, Bw w W → aC5 W B1 (.slice o1 n c1) kv1) := fun W h => h1.below h
 have H2 : Hid (∀ W, Bw w W → aC5 W B2 (.slice o2 n c2) kv2) := fun W h => h2.below h
 clear h1 h2 d1 d3 he hs;go_enter func122, ntmps122;go_wp2
 go_loopw [5] (fun i wr => ∃ k : Nat, k ≤ n ∧ i = .int .i64 (k : Int) ∧ Hid (Bw w wr)) (fun i _ => n - (intOf i).toNat)
 case atStart => exact ⟨0, Nat.zero_le _, rfl, Below.refl _ _⟩
 case round =>
  obtain ⟨k, hk, rfl, d2⟩ := hrel;by_cases hlt : k < n
  rotate_left
  ·go_wp2
   go_ret;exact ⟨rfl, d2.out⟩
  have e0 : (k : Int) < (n : Int) := by omega
  obtain ⟨g1, e7, d8, c9, a9⟩ := (H1.out wr d2.out).at k (by rw [d4.out]; exact hlt);obtain ⟨g2, e8, d9, d0, b9⟩ := (H2.out wr d2.out).at k (by rw [d5.out]; exact hlt);obtain rfl : o1 = some ⟨g1, 0, none⟩ := (Value.slice.inj d8).1;obtain rfl : o2 = some ⟨g2, 0, none⟩ := (Value.slice.inj d9).1
  have d6 : (kv1[k]'(by rw [d4.out]; exact hlt)).1 = (kv2[k]'(by rw [d5.out]; exact hlt)).1 := by
   have h := congrArg (fun l : List KpD => l[k]?) HE.out
   simpa [List.getElem?_map, List.getElem?_eq_getElem (show k < kv1.length by rw [d4.out]; exact hlt), List.getElem?_eq_getElem (show k < kv2.length by rw [d5.out]; exact hlt)] using h
  have m1 : kv1[k]'(by rw [d4.out]; exact hlt) ∈ kv1 := List.getElem_mem _;have m2 : kv2[k]'(by rw [d5.out]; exact hlt) ∈ kv2 := List.getElem_mem _;generalize kv1[k]'(by rw [d4.out]; exact hlt) = x at a9 d6 m1;generalize kv2[k]'(by rw [d5.out]; exact hlt) = y at b9 d6 m2;obtain ⟨d, v1, v2, v3⟩ := x;obtain ⟨d', u1, u2, u3⟩ := y;obtain rfl : d = d' := d6;have e3 : Hid (∀ W, Below wr.heap.size wr W → ObjO W B1 v1 d.xs.length d.xs v2 d.ys.length d.ys v3 d.fs.length d.fs) := fun W h => aH2 (((H1.out wr d2.out).below h).obj m1)
  have e4 : Hid (∀ W, Below wr.heap.size wr W → ObjO W B2 u1 d.xs.length d.xs u2 d.ys.length d.ys u3 d.fs.length d.fs) := fun W h => aH2 (((H2.out wr d2.out).below h).obj m2)
  have d7 : Hid (d.xs.length ≤ 2000000 ∧ d.ys.length ≤ 2000000 ∧ d.fs.length ≤ 2000000) := HS.out _ m1;have a0 := a9.c0;have a1 := a9.c1;have a2 := a9.c2;have a3 := a9.c3;have a4 := a9.c4;have a5 := a9.c5;have a6 := a9.c6;have a7 := a9.c7;have a8 := a9.c8;have b0 := b9.c0;have b1 := b9.c1;have b2 := b9.c2;have b3 := b9.c3;have b4 := b9.c4;have b5 := b9.c5;have b6 := b9.c6;have b7 := b9.c7;have b8 := b9.c8;clear a9 b9 m1 m2 d8 d9
  have HA : Hid (∀ w0 w1, Below wr.heap.size wr w0 → Below w0.heap.size w0 w1 → (w1.cell? ⟨g1, k * 9, none⟩ = some (.string d.p) ∧ w1.cell? ⟨g1, k * 9 + 1, none⟩ = some (v1) ∧ w1.cell? ⟨g1, k * 9 + 2, none⟩ = some (v2) ∧ w1.cell? ⟨g1, k * 9 + 3, none⟩ = some (.int .i64 d.st) ∧ w1.cell? ⟨g1, k * 9 + 4, none⟩ = some (v3) ∧ w1.cell? ⟨g1, k * 9 + 5, none⟩ = some (.string d.b) ∧ w1.cell? ⟨g1, k * 9 + 6, none⟩ = some (.int .i64 d.t) ∧ w1.cell? ⟨g1, k * 9 + 7, none⟩ = some (.int .i64 d.a) ∧ w1.cell? ⟨g1, k * 9 + 8, none⟩ = some (.int .i64 d.q) ∧ w1.cell? ⟨g2, k * 9, none⟩ = some (.string d.p) ∧ w1.cell? ⟨g2, k * 9 + 1, none⟩ = some (u1) ∧ w1.cell? ⟨g2, k * 9 + 2, none⟩ = some (u2) ∧ w1.cell? ⟨g2, k * 9 + 3, none⟩ = some (.int .i64 d.st) ∧ w1.cell? ⟨g2, k * 9 + 4, none⟩ = some (u3) ∧ w1.cell? ⟨g2, k * 9 + 5, none⟩ = some (.string d.b) ∧ w1.cell? ⟨g2, k * 9 + 6, none⟩ = some (.int .i64 d.t) ∧ w1.cell? ⟨g2, k * 9 + 7, none⟩ = some (.int .i64 d.a) ∧ w1.cell? ⟨g2, k * 9 + 8, none⟩ = some (.int .i64 d.q)) ∧ Below wr.heap.size wr w1) := fun w0 w1 h h' => by
   have hx := h.trans (h'.mono h.size)
   exact ⟨⟨by rw [hx.cell (p := ⟨g1, k * 9, none⟩) c9]; exact a0, by rw [hx.cell (p := ⟨g1, k * 9 + 1, none⟩) c9]; exact a1, by rw [hx.cell (p := ⟨g1, k * 9 + 2, none⟩) c9]; exact a2, by rw [hx.cell (p := ⟨g1, k * 9 + 3, none⟩) c9]; exact a3, by rw [hx.cell (p := ⟨g1, k * 9 + 4, none⟩) c9]; exact a4, by rw [hx.cell (p := ⟨g1, k * 9 + 5, none⟩) c9]; exact a5, by rw [hx.cell (p := ⟨g1, k * 9 + 6, none⟩) c9]; exact a6, by rw [hx.cell (p := ⟨g1, k * 9 + 7, none⟩) c9]; exact a7, by rw [hx.cell (p := ⟨g1, k * 9 + 8, none⟩) c9]; exact a8, by rw [hx.cell (p := ⟨g2, k * 9, none⟩) d0]; exact b0, by rw [hx.cell (p := ⟨g2, k * 9 + 1, none⟩) d0]; exact b1, by rw [hx.cell (p := ⟨g2, k * 9 + 2, none⟩) d0]; exact b2, by rw [hx.cell (p := ⟨g2, k * 9 + 3, none⟩) d0]; exact b3, by rw [hx.cell (p := ⟨g2, k * 9 + 4, none⟩) d0]; exact b4, by rw [hx.cell (p := ⟨g2, k * 9 + 5, none⟩) d0]; exact b5, by rw [hx.cell (p := ⟨g2, k * 9 + 6, none⟩) d0]; exact b6, by rw [hx.cell (p := ⟨g2, k * 9 + 7, none⟩) d0]; exact b7, by rw [hx.cell (p := ⟨g2, k * 9 + 8, none⟩) d0]; exact b8⟩, hx⟩
  go_wp2
  go_region_held3 (fun w' => w'.cell? ⟨g1, k * 9, none⟩ = some (.string d.p) ∧ w'.cell? ⟨g1, k * 9 + 1, none⟩ = some (v1) ∧ w'.cell? ⟨g1, k * 9 + 2, none⟩ = some (v2) ∧ w'.cell? ⟨g1, k * 9 + 3, none⟩ = some (.int .i64 d.st) ∧ w'.cell? ⟨g1, k * 9 + 4, none⟩ = some (v3) ∧ w'.cell? ⟨g1, k * 9 + 5, none⟩ = some (.string d.b) ∧ w'.cell? ⟨g1, k * 9 + 6, none⟩ = some (.int .i64 d.t) ∧ w'.cell? ⟨g1, k * 9 + 7, none⟩ = some (.int .i64 d.a) ∧ w'.cell? ⟨g1, k * 9 + 8, none⟩ = some (.int .i64 d.q) ∧ w'.cell? ⟨g2, k * 9, none⟩ = some (.string d.p) ∧ w'.cell? ⟨g2, k * 9 + 1, none⟩ = some (u1) ∧ w'.cell? ⟨g2, k * 9 + 2, none⟩ = some (u2) ∧ w'.cell? ⟨g2, k * 9 + 3, none⟩ = some (.int .i64 d.st) ∧ w'.cell? ⟨g2, k * 9 + 4, none⟩ = some (u3) ∧ w'.cell? ⟨g2, k * 9 + 5, none⟩ = some (.string d.b) ∧ w'.cell? ⟨g2, k * 9 + 6, none⟩ = some (.int .i64 d.t) ∧ w'.cell? ⟨g2, k * 9 + 7, none⟩ = some (.int .i64 d.a) ∧ w'.cell? ⟨g2, k * 9 + 8, none⟩ = some (.int .i64 d.q)) (first | assumption | go_keep) (first | (go_at_call 221; refine (cV9 d.p d.xs.length d.xs d.ys.length d.ys d.st d.fs.length d.fs d.b d.t d.a d.q _ _ _ _ _ _ B1 B2 _ (e3.out _ ((Below.refl _ wr).drew)) (e4.out _ ((Below.refl _ wr).drew)) d7.out.1 d7.out.2.1 d7.out.2.2).mono ?_; rintro e w1 ⟨rfl, e5⟩; obtain ⟨e9, e6⟩ := HA.out _ w1 ((Below.refl _ wr).drew) e5))
  go_wp2
  go_roundw
  case rel => exact ⟨k + 1, by omega, by go_num, d2.out.trans (e6.mono d2.out.size)⟩
  case measure => simp [intOf]; omega
def FarR (rs : List Rw) (w W : World) : Prop := ∀ j, j < w.heap.size → (∀ r ∈ rs, r.v.ownBlock ≠ some j) → W.heap[j]? = w.heap[j]?
theorem aX5 {W : World} {base g n cap k : Nat} {pre post : Ks} {x : KpD × Value × Value × Value} (h : aC5 W base (.slice (some ⟨g, 0, none⟩) n cap) (pre ++ x :: post)) (hn : (pre ++ x :: post).length = n) (hk : pre.length = k) (j : Nat) (hj : j < 9) (u : Value) (hu : (kpC x)[j]? = some u) : W.cell? ⟨g, k * 9 + j, none⟩ = some u ∧ W.frozen? ⟨g, k * 9 + j, none⟩ = false := by
 have hr := h.row;rw [hn] at hr;refine bA9 hr (k * 9 + j) u ?_;rw [← hk, bE7 kpC 9 aZ1 (pre ++ x :: post) pre.length j (by simp) hj];simpa using hu
theorem aW0 {W : World} {base g n cap k : Nat} {pre post : Ks} {x x' : KpD × Value × Value × Value} (h : aC5 W base (.slice (some ⟨g, 0, none⟩) n cap) (pre ++ x :: post)) (hn : (pre ++ x :: post).length = n) (hk : pre.length = k) (j : Nat) (hj : j < 9) (u : Value) (hc : kpC x' = (kpC x).set j u) (hr : kpR x' = kpR x) : aC5 (W.setCell ⟨g, k * 9 + j, none⟩ u) base (.slice (some ⟨g, 0, none⟩) n cap) (pre ++ x' :: post) := by
 have a0 := h.row;rw [hn] at a0;have h1 := dB1 a0 (k * 9 + j) u
 have e1 : ((pre ++ x :: post).flatMap kpC).set (k * 9 + j) u = (pre ++ x' :: post).flatMap kpC := by
  rw [List.flatMap_append, List.flatMap_cons, List.flatMap_append, List.flatMap_cons, List.set_append_right _ _ (by rw [aS9 kpC 9 aZ1, hk]; omega), aS9 kpC 9 aZ1, hk, Nat.add_sub_cancel_left, List.set_append_left _ _ (by rw [aZ1]; exact hj), ← hc]
 rw [e1] at h1;have e2 : (pre ++ x' :: post).flatMap kpR = (pre ++ x :: post).flatMap kpR := by rw [List.flatMap_append, List.flatMap_cons, List.flatMap_append, List.flatMap_cons, hr]
 have hl : (pre ++ x' :: post).length = n := by rw [← hn]; simp
 have h2 : aB2 W base ([] ++ aT9 (.slice (some ⟨g, 0, none⟩) n cap) (pre ++ x :: post) :: (pre ++ x :: post).flatMap kpR) := h
 have hown : (aT9 (.slice (some ⟨g, 0, none⟩) n cap) (pre ++ x' :: post)).own (W.setCell ⟨g, k * 9 + j, none⟩ u) base := by
  unfold Rw.own aT9
  rw [hl]
  exact h1
 have h3 := h2.turn (r' := aT9 (.slice (some ⟨g, 0, none⟩) n cap) (pre ++ x' :: post)) rfl hown (fun j' _ a1 => heap_setCell_other _ _ j' _ (fun e => a1 (by rw [e]; rfl)))
 unfold aC5 aF2;rw [e2];exact h3
theorem cD2 {W W' : World} {base : Nat} {V : Value} {pre post : Ks} {x x' : KpD × Value × Value × Value} (h : aC5 W base V (pre ++ x :: post)) {r r' : Rw} {a b : List Rw} (ha : kpR x = a ++ r :: b) (hb : kpR x' = a ++ r' :: b) (hc : kpC x' = kpC x) (hv : r'.v = r.v) (ho : r'.own W' base) (hs : ∀ j, j < W.heap.size → r.v.ownBlock ≠ some j → W'.heap[j]? = W.heap[j]?) : aC5 W' base V (pre ++ x' :: post) := by
 have e1 : aF2 V (pre ++ x :: post) = (aT9 V (pre ++ x :: post) :: (pre.flatMap kpR ++ a)) ++ r :: (b ++ post.flatMap kpR) := by
  unfold aF2
  rw [List.flatMap_append, List.flatMap_cons, ha]
  simp
 have e2 : aF2 V (pre ++ x' :: post) = (aT9 V (pre ++ x :: post) :: (pre.flatMap kpR ++ a)) ++ r' :: (b ++ post.flatMap kpR) := by
  have e3 : aT9 V (pre ++ x' :: post) = aT9 V (pre ++ x :: post) := by
   unfold aT9
   rw [List.flatMap_append, List.flatMap_cons, List.flatMap_append, List.flatMap_cons, hc]
   simp
  unfold aF2
  rw [e3, List.flatMap_append, List.flatMap_cons, hb]
  simp
 have h1 : aB2 W base ((aT9 V (pre ++ x :: post) :: (pre.flatMap kpR ++ a)) ++ r :: (b ++ post.flatMap kpR)) := by rw [← e1]; exact h
 have h2 := h1.turn hv ho hs;unfold aC5;rw [e2];exact h2
def wm1 (d : KpD) : Nat := 6 + d.xs.length + d.ys.length + 2 * d.fs.length
def wms : Ks → Nat
 | [] => 0
 | x :: r => wm1 x.1 + wms r
theorem cD3 (x : KpD × Value × Value × Value) : ∀ l : Ks, wms (l ++ [x]) = wms l + wm1 x.1
 | [] => by simp [wms]
 | y :: l => by rw [List.cons_append, wms, cD3 x l, wms]; omega
theorem bI7 : ∀ (l m : Ks), wms (l ++ m) = wms l + wms m
 | [], m => by simp [wms]
 | y :: l, m => by rw [List.cons_append, wms, bI7 l m, wms]; omega
def mkD (k : Nat) (d : KpD) : KpD := ⟨aB1 k, mkT (k + 1) d.xs d.xs.length, mkT (k + 1 + d.xs.length) d.ys d.ys.length, ((k + 1 + d.xs.length + d.ys.length : Nat) : Int), mkG (k + 2 + d.xs.length + d.ys.length) d.fs d.fs.length, aB1 (k + 2 + d.xs.length + d.ys.length + 2 * d.fs.length), ((k + 3 + d.xs.length + d.ys.length + 2 * d.fs.length : Nat) : Int), ((k + 4 + d.xs.length + d.ys.length + 2 * d.fs.length : Nat) : Int), ((k + 5 + d.xs.length + d.ys.length + 2 * d.fs.length : Nat) : Int)⟩
def mkKs (k : Nat) : Ks → Ks
 | [] => []
 | x :: r => (mkD k x.1, x.2) :: mkKs (k + wm1 x.1) r
theorem bF9 : ∀ (k : Nat) (l : Ks), (mkKs k l).length = l.length
 | _, [] => rfl
 | k, x :: r => by rw [mkKs, List.length_cons, bF9 _ r, List.length_cons]
theorem cI6 (x : KpD × Value × Value × Value) : ∀ (k : Nat) (l : Ks), mkKs k (l ++ [x]) = mkKs k l ++ [(mkD (k + wms l) x.1, x.2)]
 | _, [] => by simp [mkKs, wms]
 | k, y :: l => by rw [List.cons_append, mkKs, cI6 x _ l, mkKs, wms]; simp [Nat.add_assoc]
theorem cD4 (V : Value) (kv : Ks) (base : Nat) (w : World) (h1 : aC5 w base V kv) (hb : base ≤ w.heap.size) (k0 : Nat) (hk0 : 1 ≤ k0) (hn : k0 + wms kv ≤ 99999998) (hm : kv.length ≤ 2000000) :
  Calls prog 126 #[V, .int .i64 (k0 : Int)] w fun e w' => e = .returned (.int .i64 ((k0 + wms kv : Nat) : Int)) ∧ aC5 w' base V (mkKs k0 kv) ∧ Below base w w' ∧ FarR (aF2 V kv) w w' := by
 obtain ⟨n, e9⟩ := exq kv.length;obtain ⟨oa, cap, e1⟩ := h1.len;rw [← e9] at e1 hm;subst e1;have e5 := hid e9.symm;have H1 := hid h1;obtain ⟨TW, f9⟩ := exq (wms kv);have j0 := hid f9;rw [← f9] at hn ⊢;clear h1 e9 f9;go_enter func126, ntmps126;go_wp2
 go_loopw [1, 5] (fun q i wr => ∃ (k K : Nat), k ≤ n ∧ i = .int .i64 (k : Int) ∧ q = .int .i64 (K : Int) ∧ 1 ≤ K ∧ Hid (K = k0 + wms (kv.take k)) ∧ Hid (Below base w wr) ∧ Hid (aC5 wr base (.slice oa n cap) (mkKs k0 (kv.take k) ++ kv.drop k)) ∧ Hid (FarR (aF2 (.slice oa n cap) kv) w wr)) (fun _ i _ => n - (intOf i).toNat)
 case atStart => exact ⟨0, k0, Nat.zero_le _, rfl, rfl, hk0, by simp [Hid, wms], Below.refl _ _, by simpa [Hid, mkKs] using H1.out, fun _ _ _ => rfl⟩
 case round =>
  obtain ⟨k, K, hk, rfl, rfl, g0, e6, e7, b3, j1⟩ := hrel;by_cases hlt : k < n
  rotate_left
  ·have HE : Hid (k0 + TW = K ∧ aC5 wr base (.slice oa n cap) (mkKs k0 kv)) := by
    have e1 := e6.out
    have e2 := b3.out
    rw [List.take_of_length_le (by rw [e5.out]; omega)] at e1 e2
    rw [List.drop_eq_nil_of_le (by rw [e5.out]; omega), List.append_nil] at e2
    exact ⟨by rw [j0.out, e1], e2⟩
   go_wp2
   go_ret;exact ⟨by rw [HE.out.1]; rfl, HE.out.2, e7.out, j1.out⟩
  have k3 : (k : Int) < (n : Int) := by omega
  have d4 : k < kv.length := by rw [e5.out]; exact hlt
  obtain ⟨x0, e8⟩ := exq (kv[k]'d4);have HX : Hid (x0 ∈ kv) := by show _ ∈ _; rw [e8]; exact List.getElem_mem d4
  have a6 : kv.drop k = x0 :: kv.drop (k + 1) := by rw [e8]; exact List.drop_eq_getElem_cons d4
  have a7 : kv.take (k + 1) = kv.take k ++ [x0] := by rw [e8]; exact List.take_succ_eq_append_getElem d4
  have k4 : wms kv = wms (kv.take k) + (wm1 x0.1 + wms (kv.drop (k + 1))) := by
   have e := bI7 (kv.take k) (kv.drop k)
   rw [List.take_append_drop, a6, wms] at e
   exact e
  have j2 : K + wm1 x0.1 ≤ 99999998 := by have := e6.out; have := j0.out; omega
  obtain ⟨a2, a9⟩ := exq (mkKs k0 (kv.take k));obtain ⟨a0, a5⟩ := exq (kv.drop (k + 1));have a3 : Hid (a2.length = k) := by show _ = _; rw [a9, bF9, List.length_take, Nat.min_eq_left (Nat.le_of_lt d4)]
  have d6 : Hid (∀ y : KpD × Value × Value × Value, (a2 ++ y :: a0).length = n) := fun y => by rw [List.length_append, List.length_cons, a3.out, a5, List.length_drop, e5.out]; omega
  have g1 : Hid (k0 + wms (kv.take (k + 1)) = K + wm1 x0.1) := by show _ = _; have h := e6.out; rw [a7, cD3]; omega
  have g2 : Hid (mkKs k0 (kv.take (k + 1)) ++ kv.drop (k + 1) = a2 ++ (mkD K x0.1, x0.2) :: a0) := by show _ = _; rw [a7, cI6, ← e6.out, a9, a5]; simp
  have b0 : Hid (aC5 wr base (.slice oa n cap) (a2 ++ x0 :: a0)) := by
   have h := b3.out
   rw [a6, ← a9, ← a5] at h
   exact h
  obtain ⟨g, rfl⟩ := aM6 (by have h := b0.out.row; rw [d6.out] at h; exact h) (by omega);have d5 : Hid (base ≤ g) := aC8 b0.out.row rfl;clear e8 a6 a7 k4 a9 a5 b3 d4;obtain ⟨x1, j3⟩ := exq x0;obtain ⟨d, v1, v2, v3⟩ := x1;have b6 : Hid (x0 = (d, v1, v2, v3)) := j3.symm;have a4 : ∀ {y : KpD × Value × Value × Value}, Hid ((a2 ++ y :: a0).length = n) := fun {y} => d6.out y
  have k5 : K + 6 + d.xs.length + d.ys.length + 2 * d.fs.length ≤ 99999998 := by have h : K + wm1 d ≤ 99999998 := (by have h := j2; rw [b6.out] at h; exact h); unfold wm1 at h; omega
  have k6 : Hid (aC5 wr base (.slice (some ⟨g, 0, none⟩) n cap) (a2 ++ ((⟨d.p, d.xs, d.ys, d.st, d.fs, d.b, d.t, d.a, d.q⟩ : KpD), v1, v2, v3) :: a0)) := by
   have h := b0.out
   rw [b6.out] at h
   exact h
  have g3 : Hid (kpN (d, v1, v2, v3) ∈ aF2 (.slice (some ⟨g, 0, none⟩) n cap) kv) := List.mem_cons_of_mem _ (List.mem_flatMap.2 ⟨(d, v1, v2, v3), (by have h := HX.out; rw [b6.out] at h; exact h), by simp [kpR]⟩);have g4 : Hid (kpV (d, v1, v2, v3) ∈ aF2 (.slice (some ⟨g, 0, none⟩) n cap) kv) := List.mem_cons_of_mem _ (List.mem_flatMap.2 ⟨(d, v1, v2, v3), (by have h := HX.out; rw [b6.out] at h; exact h), by simp [kpR]⟩);have g5 : Hid (kpF (d, v1, v2, v3) ∈ aF2 (.slice (some ⟨g, 0, none⟩) n cap) kv) := List.mem_cons_of_mem _ (List.mem_flatMap.2 ⟨(d, v1, v2, v3), (by have h := HX.out; rw [b6.out] at h; exact h), by simp [kpR]⟩);clear j3 j2 b0 HX;obtain ⟨K1, g0⟩ : ∃ m : Nat, m = K + 1 := ⟨_, rfl⟩;have k7 := hid g0;obtain ⟨K2, j4⟩ : ∃ m : Nat, m = K + 1 + d.xs.length := ⟨_, rfl⟩;have k8 := hid j4;obtain ⟨K3, j5⟩ : ∃ m : Nat, m = K + 1 + d.xs.length + d.ys.length := ⟨_, rfl⟩;have k9 := hid j5;obtain ⟨K4, j6⟩ : ∃ m : Nat, m = K + 2 + d.xs.length + d.ys.length := ⟨_, rfl⟩;have l0 := hid j6;obtain ⟨K5, j7⟩ : ∃ m : Nat, m = K + 2 + d.xs.length + d.ys.length + 2 * d.fs.length := ⟨_, rfl⟩;have l1 := hid j7;obtain ⟨K6, j8⟩ : ∃ m : Nat, m = K + 3 + d.xs.length + d.ys.length + 2 * d.fs.length := ⟨_, rfl⟩;have l2 := hid j8;obtain ⟨K7, j9⟩ : ∃ m : Nat, m = K + 4 + d.xs.length + d.ys.length + 2 * d.fs.length := ⟨_, rfl⟩;have l3 := hid j9;obtain ⟨K8, k1⟩ : ∃ m : Nat, m = K + 5 + d.xs.length + d.ys.length + 2 * d.fs.length := ⟨_, rfl⟩;have l4 := hid k1;obtain ⟨K9, k2⟩ : ∃ m : Nat, m = K + 6 + d.xs.length + d.ys.length + 2 * d.fs.length := ⟨_, rfl⟩;have l5 := hid k2;have E1 : Hid ((K : Int) + 1 = (K1 : Int)) := by show _ = _; omega
  have E2 : Hid ((K1 : Int) + (d.xs.length : Int) = (K2 : Int)) := by show _ = _; omega
  have E3 : Hid ((K2 : Int) + (d.ys.length : Int) = (K3 : Int)) := by show _ = _; omega
  have E4 : Hid ((K3 : Int) + 1 = (K4 : Int)) := by show _ = _; omega
  have E5 : Hid ((K4 : Int) + 2 * (d.fs.length : Int) = (K5 : Int)) := by show _ = _; omega
  have E6 : (K5 : Int) + 1 = (K6 : Int) := by omega
  have E7 : (K6 : Int) + 1 = (K7 : Int) := by omega
  have E8 : (K7 : Int) + 1 = (K8 : Int) := by omega
  have E9 : (K8 : Int) + 1 = (K9 : Int) := by omega
  have b1 : 1 ≤ K1 ∧ K1 + d.xs.length ≤ 99999998 := by omega
  have b2 : 1 ≤ K2 ∧ K2 + d.ys.length ≤ 99999998 := by omega
  have b4 : 1 ≤ K4 ∧ K4 + 2 * d.fs.length ≤ 99999999 := by omega
  have b5 : 1 ≤ K5 ∧ K5 ≤ 99999999 := by omega
  have b9 : 1 ≤ K9 := by omega
  have l7 : K3 ≤ 99999999 := by omega
  have l8 : K5 ≤ 99999999 := by omega
  have l9 : K6 ≤ 99999999 := by omega
  have m0 : K7 ≤ 99999999 := by omega
  have m1 : K8 ≤ 99999999 := by omega
  clear g0 j4 j5 j6 j7 j8 j9 k1 k2;go_wp2_with fail
  refine (aQ5 K _ (by omega) (by omega)).mono ?_;rintro e u1 ⟨rfl, bw⟩;have d7 : Hid (aC5 u1 base (.slice (some ⟨g, 0, none⟩) n cap) (a2 ++ ((⟨d.p, d.xs, d.ys, d.st, d.fs, d.b, d.t, d.a, d.q⟩ : KpD), v1, v2, v3) :: a0)) := k6.out.below bw;have g6 : Hid (Below base w u1) := e7.out.trans (bw.mono (Nat.le_trans hb e7.out.size));have g7 : Hid (FarR (aF2 (.slice (some ⟨g, 0, none⟩) n cap) kv) w u1) := fun j hj a1 => (bw.block j (Nat.lt_of_lt_of_le hj e7.out.size)).trans (j1.out j hj a1)
  clear bw;obtain ⟨c0, f0⟩ := aX5 d7.out a4.out a3.out 0 (by decide) _ rfl;rw [Nat.add_zero] at c0 f0;have b7 : Hid (aC5 ((u1).setCell ⟨g, k * 9, none⟩ (.string (aB1 K))) base (.slice (some ⟨g, 0, none⟩) n cap) (a2 ++ ((⟨aB1 K, d.xs, d.ys, d.st, d.fs, d.b, d.t, d.a, d.q⟩ : KpD), v1, v2, v3) :: a0)) := aW0 d7.out a4.out a3.out 0 (by decide) _ rfl rfl;have b8 : Hid (Below base w ((u1).setCell ⟨g, k * 9, none⟩ (.string (aB1 K)))) := g6.out.setCell (p := ⟨g, k * 9, none⟩) d5.out _;have g8 : Hid (FarR (aF2 (.slice (some ⟨g, 0, none⟩) n cap) kv) w ((u1).setCell ⟨g, k * 9, none⟩ (.string (aB1 K)))) := fun j hj a1 => (heap_setCell_other _ _ j _ (fun e => a1 (aT9 (.slice (some ⟨g, 0, none⟩) n cap) kv) (by simp [aF2]) (by rw [e]; rfl))).trans (g7.out j hj a1)
  obtain ⟨c1, f1⟩ := aX5 b7.out a4.out a3.out 1 (by decide) _ rfl;go_wp2_with fail
  rw [E1.out];refine (aX0 v1 d.xs.length base d.xs _ (b7.out.names (x := ((⟨aB1 K, d.xs, d.ys, d.st, d.fs, d.b, d.t, d.a, d.q⟩ : KpD), v1, v2, v3)) (List.mem_append_right _ List.mem_cons_self)) (Nat.le_trans hb b8.out.size) K1 b1.1 b1.2).mono ?_;rintro e u2 ⟨rfl, mk, bm, a8⟩;have c9 : Hid (aC5 u2 base (.slice (some ⟨g, 0, none⟩) n cap) (a2 ++ ((⟨aB1 K, mkT K1 d.xs d.xs.length, d.ys, d.st, d.fs, d.b, d.t, d.a, d.q⟩ : KpD), v1, v2, v3) :: a0)) := cD2 (r := kpN ((⟨aB1 K, d.xs, d.ys, d.st, d.fs, d.b, d.t, d.a, d.q⟩ : KpD), v1, v2, v3)) (r' := kpN ((⟨aB1 K, mkT K1 d.xs d.xs.length, d.ys, d.st, d.fs, d.b, d.t, d.a, d.q⟩ : KpD), v1, v2, v3)) (a := []) (b := [kpV ((⟨aB1 K, mkT K1 d.xs d.xs.length, d.ys, d.st, d.fs, d.b, d.t, d.a, d.q⟩ : KpD), v1, v2, v3), kpF ((⟨aB1 K, mkT K1 d.xs d.xs.length, d.ys, d.st, d.fs, d.b, d.t, d.a, d.q⟩ : KpD), v1, v2, v3)]) b7.out rfl (by first | rfl | simp [kpR]) rfl rfl (by first | exact mk | (unfold Rw.own kpN; simp only [bP7]; exact mk)) a8;have d0 : Hid (Below base w u2) := b8.out.trans bm;have g9 : Hid (FarR (aF2 (.slice (some ⟨g, 0, none⟩) n cap) kv) w u2) := fun j hj a1 => (a8 j (Nat.lt_of_lt_of_le hj b8.out.size) (a1 (kpN (d, v1, v2, v3)) (g3.out))).trans (g8.out j hj a1)
  clear mk bm a8 c0 f0 c1 f1;rw [E2.out];obtain ⟨c2, f2⟩ := aX5 c9.out a4.out a3.out 2 (by decide) _ rfl;go_wp2_with fail
  refine (aX0 v2 d.ys.length base d.ys _ (c9.out.vals (x := ((⟨aB1 K, mkT K1 d.xs d.xs.length, d.ys, d.st, d.fs, d.b, d.t, d.a, d.q⟩ : KpD), v1, v2, v3)) (List.mem_append_right _ List.mem_cons_self)) (Nat.le_trans hb d0.out.size) K2 b2.1 b2.2).mono ?_;rintro e u3 ⟨rfl, mk, bm, a8⟩;have d8 : Hid (aC5 u3 base (.slice (some ⟨g, 0, none⟩) n cap) (a2 ++ ((⟨aB1 K, mkT K1 d.xs d.xs.length, mkT K2 d.ys d.ys.length, d.st, d.fs, d.b, d.t, d.a, d.q⟩ : KpD), v1, v2, v3) :: a0)) := cD2 (r := kpV ((⟨aB1 K, mkT K1 d.xs d.xs.length, d.ys, d.st, d.fs, d.b, d.t, d.a, d.q⟩ : KpD), v1, v2, v3)) (r' := kpV ((⟨aB1 K, mkT K1 d.xs d.xs.length, mkT K2 d.ys d.ys.length, d.st, d.fs, d.b, d.t, d.a, d.q⟩ : KpD), v1, v2, v3)) (a := [kpN ((⟨aB1 K, mkT K1 d.xs d.xs.length, mkT K2 d.ys d.ys.length, d.st, d.fs, d.b, d.t, d.a, d.q⟩ : KpD), v1, v2, v3)]) (b := [kpF ((⟨aB1 K, mkT K1 d.xs d.xs.length, mkT K2 d.ys d.ys.length, d.st, d.fs, d.b, d.t, d.a, d.q⟩ : KpD), v1, v2, v3)]) c9.out rfl (by first | rfl | simp [kpR]) rfl rfl (by first | exact mk | (unfold Rw.own kpV; simp only [bP7]; exact mk)) a8;have h0 : Hid (Below base w u3) := d0.out.trans bm;have h4 : Hid (FarR (aF2 (.slice (some ⟨g, 0, none⟩) n cap) kv) w u3) := fun j hj a1 => (a8 j (Nat.lt_of_lt_of_le hj d0.out.size) (a1 (kpV (d, v1, v2, v3)) (g4.out))).trans (g9.out j hj a1)
  clear mk bm a8 c2 f2;rw [E3.out];obtain ⟨c3, f3⟩ := aX5 d8.out a4.out a3.out 3 (by decide) _ rfl;have d1 : Hid (aC5 ((u3).setCell ⟨g, k * 9 + 3, none⟩ (.int .i64 (K3 : Int))) base (.slice (some ⟨g, 0, none⟩) n cap) (a2 ++ ((⟨aB1 K, mkT K1 d.xs d.xs.length, mkT K2 d.ys d.ys.length, (K3 : Int), d.fs, d.b, d.t, d.a, d.q⟩ : KpD), v1, v2, v3) :: a0)) := aW0 d8.out a4.out a3.out 3 (by decide) _ rfl rfl;have d2 : Hid (Below base w ((u3).setCell ⟨g, k * 9 + 3, none⟩ (.int .i64 (K3 : Int)))) := h0.out.setCell (p := ⟨g, k * 9 + 3, none⟩) d5.out _;have h5 : Hid (FarR (aF2 (.slice (some ⟨g, 0, none⟩) n cap) kv) w ((u3).setCell ⟨g, k * 9 + 3, none⟩ (.int .i64 (K3 : Int)))) := fun j hj a1 => (heap_setCell_other _ _ j _ (fun e => a1 (aT9 (.slice (some ⟨g, 0, none⟩) n cap) kv) (by simp [aF2]) (by rw [e]; rfl))).trans (h4.out j hj a1)
  obtain ⟨c4, f4⟩ := aX5 d1.out a4.out a3.out 4 (by decide) _ rfl;go_wp2_with fail
  rw [E4.out];refine (cH4 v3 d.fs.length base d.fs _ (d1.out.flds (x := ((⟨aB1 K, mkT K1 d.xs d.xs.length, mkT K2 d.ys d.ys.length, (K3 : Int), d.fs, d.b, d.t, d.a, d.q⟩ : KpD), v1, v2, v3)) (List.mem_append_right _ List.mem_cons_self)) (Nat.le_trans hb d2.out.size) K4 b4.1 b4.2).mono ?_;rintro e u4 ⟨rfl, mk, bm, a8⟩;have h6 : Hid (aC5 u4 base (.slice (some ⟨g, 0, none⟩) n cap) (a2 ++ ((⟨aB1 K, mkT K1 d.xs d.xs.length, mkT K2 d.ys d.ys.length, (K3 : Int), mkG K4 d.fs d.fs.length, d.b, d.t, d.a, d.q⟩ : KpD), v1, v2, v3) :: a0)) := cD2 (r := kpF ((⟨aB1 K, mkT K1 d.xs d.xs.length, mkT K2 d.ys d.ys.length, (K3 : Int), d.fs, d.b, d.t, d.a, d.q⟩ : KpD), v1, v2, v3)) (r' := kpF ((⟨aB1 K, mkT K1 d.xs d.xs.length, mkT K2 d.ys d.ys.length, (K3 : Int), mkG K4 d.fs d.fs.length, d.b, d.t, d.a, d.q⟩ : KpD), v1, v2, v3)) (a := [kpN ((⟨aB1 K, mkT K1 d.xs d.xs.length, mkT K2 d.ys d.ys.length, (K3 : Int), mkG K4 d.fs d.fs.length, d.b, d.t, d.a, d.q⟩ : KpD), v1, v2, v3), kpV ((⟨aB1 K, mkT K1 d.xs d.xs.length, mkT K2 d.ys d.ys.length, (K3 : Int), mkG K4 d.fs d.fs.length, d.b, d.t, d.a, d.q⟩ : KpD), v1, v2, v3)]) (b := []) d1.out rfl (by first | rfl | simp [kpR]) rfl rfl (by first | exact mk | (unfold Rw.own kpF; simp only [cC4]; exact mk)) a8;have d3 : Hid (Below base w u4) := d2.out.trans bm;have h7 : Hid (FarR (aF2 (.slice (some ⟨g, 0, none⟩) n cap) kv) w u4) := fun j hj a1 => (a8 j (Nat.lt_of_lt_of_le hj d2.out.size) (a1 (kpF (d, v1, v2, v3)) (g5.out))).trans (h5.out j hj a1)
  clear mk bm a8 c3 f3 c4 f4;rw [E5.out];go_wp2_with fail
  refine (aQ5 K5 _ b5.1 b5.2).mono ?_;rintro e u5 ⟨rfl, bw⟩;have d9 : Hid (aC5 u5 base (.slice (some ⟨g, 0, none⟩) n cap) (a2 ++ ((⟨aB1 K, mkT K1 d.xs d.xs.length, mkT K2 d.ys d.ys.length, (K3 : Int), mkG K4 d.fs d.fs.length, d.b, d.t, d.a, d.q⟩ : KpD), v1, v2, v3) :: a0)) := h6.out.below bw;have h8 : Hid (Below base w u5) := d3.out.trans (bw.mono (Nat.le_trans hb d3.out.size));have h9 : Hid (FarR (aF2 (.slice (some ⟨g, 0, none⟩) n cap) kv) w u5) := fun j hj a1 => (bw.block j (Nat.lt_of_lt_of_le hj d3.out.size)).trans (h7.out j hj a1)
  clear bw;obtain ⟨c5, f5⟩ := aX5 d9.out a4.out a3.out 5 (by decide) _ rfl;have e0 : Hid (aC5 ((u5).setCell ⟨g, k * 9 + 5, none⟩ (.string (aB1 K5))) base (.slice (some ⟨g, 0, none⟩) n cap) (a2 ++ ((⟨aB1 K, mkT K1 d.xs d.xs.length, mkT K2 d.ys d.ys.length, (K3 : Int), mkG K4 d.fs d.fs.length, aB1 K5, d.t, d.a, d.q⟩ : KpD), v1, v2, v3) :: a0)) := aW0 d9.out a4.out a3.out 5 (by decide) _ rfl rfl;have i0 : Hid (Below base w ((u5).setCell ⟨g, k * 9 + 5, none⟩ (.string (aB1 K5)))) := h8.out.setCell (p := ⟨g, k * 9 + 5, none⟩) d5.out _;have i1 : Hid (FarR (aF2 (.slice (some ⟨g, 0, none⟩) n cap) kv) w ((u5).setCell ⟨g, k * 9 + 5, none⟩ (.string (aB1 K5)))) := fun j hj a1 => (heap_setCell_other _ _ j _ (fun e => a1 (aT9 (.slice (some ⟨g, 0, none⟩) n cap) kv) (by simp [aF2]) (by rw [e]; rfl))).trans (h9.out j hj a1)
  obtain ⟨c6, f6⟩ := aX5 e0.out a4.out a3.out 6 (by decide) _ rfl;have e3 : Hid (aC5 ((((u5).setCell ⟨g, k * 9 + 5, none⟩ (.string (aB1 K5)))).setCell ⟨g, k * 9 + 6, none⟩ (.int .i64 (K6 : Int))) base (.slice (some ⟨g, 0, none⟩) n cap) (a2 ++ ((⟨aB1 K, mkT K1 d.xs d.xs.length, mkT K2 d.ys d.ys.length, (K3 : Int), mkG K4 d.fs d.fs.length, aB1 K5, (K6 : Int), d.a, d.q⟩ : KpD), v1, v2, v3) :: a0)) := aW0 e0.out a4.out a3.out 6 (by decide) _ rfl rfl;have i2 : Hid (Below base w ((((u5).setCell ⟨g, k * 9 + 5, none⟩ (.string (aB1 K5)))).setCell ⟨g, k * 9 + 6, none⟩ (.int .i64 (K6 : Int)))) := i0.out.setCell (p := ⟨g, k * 9 + 6, none⟩) d5.out _;have i3 : Hid (FarR (aF2 (.slice (some ⟨g, 0, none⟩) n cap) kv) w ((((u5).setCell ⟨g, k * 9 + 5, none⟩ (.string (aB1 K5)))).setCell ⟨g, k * 9 + 6, none⟩ (.int .i64 (K6 : Int)))) := fun j hj a1 => (heap_setCell_other _ _ j _ (fun e => a1 (aT9 (.slice (some ⟨g, 0, none⟩) n cap) kv) (by simp [aF2]) (by rw [e]; rfl))).trans (i1.out j hj a1)
  obtain ⟨c7, f7⟩ := aX5 e3.out a4.out a3.out 7 (by decide) _ rfl;have e4 : Hid (aC5 ((((((u5).setCell ⟨g, k * 9 + 5, none⟩ (.string (aB1 K5)))).setCell ⟨g, k * 9 + 6, none⟩ (.int .i64 (K6 : Int)))).setCell ⟨g, k * 9 + 7, none⟩ (.int .i64 (K7 : Int))) base (.slice (some ⟨g, 0, none⟩) n cap) (a2 ++ ((⟨aB1 K, mkT K1 d.xs d.xs.length, mkT K2 d.ys d.ys.length, (K3 : Int), mkG K4 d.fs d.fs.length, aB1 K5, (K6 : Int), (K7 : Int), d.q⟩ : KpD), v1, v2, v3) :: a0)) := aW0 e3.out a4.out a3.out 7 (by decide) _ rfl rfl;have i4 : Hid (Below base w ((((((u5).setCell ⟨g, k * 9 + 5, none⟩ (.string (aB1 K5)))).setCell ⟨g, k * 9 + 6, none⟩ (.int .i64 (K6 : Int)))).setCell ⟨g, k * 9 + 7, none⟩ (.int .i64 (K7 : Int)))) := i2.out.setCell (p := ⟨g, k * 9 + 7, none⟩) d5.out _;have i5 : Hid (FarR (aF2 (.slice (some ⟨g, 0, none⟩) n cap) kv) w ((((((u5).setCell ⟨g, k * 9 + 5, none⟩ (.string (aB1 K5)))).setCell ⟨g, k * 9 + 6, none⟩ (.int .i64 (K6 : Int)))).setCell ⟨g, k * 9 + 7, none⟩ (.int .i64 (K7 : Int)))) := fun j hj a1 => (heap_setCell_other _ _ j _ (fun e => a1 (aT9 (.slice (some ⟨g, 0, none⟩) n cap) kv) (by simp [aF2]) (by rw [e]; rfl))).trans (i3.out j hj a1)
  obtain ⟨c8, f8⟩ := aX5 e4.out a4.out a3.out 8 (by decide) _ rfl;have i6 : Hid (aC5 ((((((((u5).setCell ⟨g, k * 9 + 5, none⟩ (.string (aB1 K5)))).setCell ⟨g, k * 9 + 6, none⟩ (.int .i64 (K6 : Int)))).setCell ⟨g, k * 9 + 7, none⟩ (.int .i64 (K7 : Int)))).setCell ⟨g, k * 9 + 8, none⟩ (.int .i64 (K8 : Int))) base (.slice (some ⟨g, 0, none⟩) n cap) (a2 ++ ((⟨aB1 K, mkT K1 d.xs d.xs.length, mkT K2 d.ys d.ys.length, (K3 : Int), mkG K4 d.fs d.fs.length, aB1 K5, (K6 : Int), (K7 : Int), (K8 : Int)⟩ : KpD), v1, v2, v3) :: a0)) := aW0 e4.out a4.out a3.out 8 (by decide) _ rfl rfl;have i7 : Hid (Below base w ((((((((u5).setCell ⟨g, k * 9 + 5, none⟩ (.string (aB1 K5)))).setCell ⟨g, k * 9 + 6, none⟩ (.int .i64 (K6 : Int)))).setCell ⟨g, k * 9 + 7, none⟩ (.int .i64 (K7 : Int)))).setCell ⟨g, k * 9 + 8, none⟩ (.int .i64 (K8 : Int)))) := i4.out.setCell (p := ⟨g, k * 9 + 8, none⟩) d5.out _;have i8 : Hid (FarR (aF2 (.slice (some ⟨g, 0, none⟩) n cap) kv) w ((((((((u5).setCell ⟨g, k * 9 + 5, none⟩ (.string (aB1 K5)))).setCell ⟨g, k * 9 + 6, none⟩ (.int .i64 (K6 : Int)))).setCell ⟨g, k * 9 + 7, none⟩ (.int .i64 (K7 : Int)))).setCell ⟨g, k * 9 + 8, none⟩ (.int .i64 (K8 : Int)))) := fun j hj a1 => (heap_setCell_other _ _ j _ (fun e => a1 (aT9 (.slice (some ⟨g, 0, none⟩) n cap) kv) (by simp [aF2]) (by rw [e]; rfl))).trans (i5.out j hj a1)
  have i9 : Hid ((mkD K x0.1, x0.2) = ((⟨aB1 K, mkT K1 d.xs d.xs.length, mkT K2 d.ys d.ys.length, (K3 : Int), mkG K4 d.fs d.fs.length, aB1 K5, (K6 : Int), (K7 : Int), (K8 : Int)⟩ : KpD), v1, v2, v3)) := by
   show _ = _
   rw [b6.out]
   unfold mkD
   rw [k7.out, k8.out, k9.out, l0.out, l1.out, l2.out, l3.out, l4.out]
  have l6 : Hid (K9 = k0 + wms (kv.take (k + 1))) := by
   have h1 : k0 + wms (kv.take (k + 1)) = K + wm1 d := by have h := g1.out; rw [b6.out] at h; exact h
   have h2 : wm1 d = 6 + d.xs.length + d.ys.length + 2 * d.fs.length := rfl
   have h3 := l5.out
   show _ = _
   omega
  go_wp2
  go_roundw
  case rel => exact ⟨k + 1, K9, by omega, by go_num, rfl, b9, l6, i7, by show aC5 _ _ _ _; rw [g2.out, i9.out]; exact i6.out, i8⟩
  case measure => simp [intOf]; omega
theorem cS5 : ∀ (l : Ks) (k0 k : Nat) (h : k < l.length), (mkKs k0 l)[k]? = some (mkD (k0 + wms (l.take k)) (l[k]'h).1, (l[k]'h).2)
 | [], _, k, h => absurd h (by simp)
 | x :: l, k0, 0, _ => by simp [mkKs, wms]
 | x :: l, k0, k + 1, h => by
  rw [mkKs, List.getElem?_cons_succ, cS5 l _ k (by simpa using h)]
  simp only [List.take_succ_cons, wms, List.getElem_cons_succ]
  rw [Nat.add_assoc]
theorem cD5 (V : Value) (kv : Ks) (base : Nat) (w : World) (k0 : Nat) (h1 : aC5 w base V (mkKs k0 kv)) (hk0 : 1 ≤ k0) (hn : k0 + wms kv ≤ 99999998) (hm : kv.length ≤ 2000000) :
  Calls prog 131 #[V, .int .i64 (k0 : Int)] w fun e w' => e = .returned (.int .i64 ((k0 + wms kv : Nat) : Int)) ∧ Below w.heap.size w w' := by
 obtain ⟨n, c9⟩ := exq kv.length;obtain ⟨oa, g4, e1⟩ := h1.len;rw [bF9, ← c9] at e1;rw [← c9] at hm;subst e1;have f1 := hid c9.symm;have H1 : Hid (∀ W, Bw w W → aC5 W base (.slice oa n g4) (mkKs k0 kv)) := fun W h => h1.below h
 obtain ⟨TW, d1⟩ := exq (wms kv);have f2 := hid d1;rw [← d1] at hn ⊢;clear h1 c9 d1;go_enter func131, ntmps131;go_wp2
 go_loopw [1, 5] (fun q i wr => ∃ (k K : Nat), k ≤ n ∧ i = .int .i64 (k : Int) ∧ q = .int .i64 (K : Int) ∧ 1 ≤ K ∧ Hid (K = k0 + wms (kv.take k)) ∧ Hid (Bw w wr)) (fun _ i _ => n - (intOf i).toNat)
 case atStart => exact ⟨0, k0, Nat.zero_le _, rfl, rfl, hk0, by simp [Hid, wms], Below.refl _ _⟩
 case round =>
  obtain ⟨k, K, hk, rfl, rfl, d2, b0, b3⟩ := hrel;by_cases hlt : k < n
  rotate_left
  ·have HE : Hid (k0 + TW = K) := by
    have e1 := b0.out
    rw [List.take_of_length_le (by rw [f1.out]; omega)] at e1
    show _ = _
    rw [f2.out, e1]
   go_wp2
   go_ret;exact ⟨by rw [HE.out]; rfl, b3.out⟩
  have g5 : (k : Int) < (n : Int) := by omega
  have a9 : k < kv.length := by rw [f1.out]; exact hlt
  obtain ⟨x0, d0⟩ := exq (kv[k]'a9);have d3 : Hid ((mkKs k0 kv)[k]? = some (mkD K x0.1, x0.2)) := by show _ = _; rw [cS5 kv k0 k a9, ← b0.out, ← d0]
  have a6 : kv.drop k = x0 :: kv.drop (k + 1) := by rw [d0]; exact List.drop_eq_getElem_cons a9
  have a7 : kv.take (k + 1) = kv.take k ++ [x0] := by rw [d0]; exact List.take_succ_eq_append_getElem a9
  have g6 : wms kv = wms (kv.take k) + (wm1 x0.1 + wms (kv.drop (k + 1))) := by
   have e := bI7 (kv.take k) (kv.drop k)
   rw [List.take_append_drop, a6, wms] at e
   exact e
  have f3 : K + wm1 x0.1 ≤ 99999998 := by have := b0.out; have := f2.out; omega
  have d4 : Hid (k0 + wms (kv.take (k + 1)) = K + wm1 x0.1) := by show _ = _; have h := b0.out; rw [a7, cD3]; omega
  obtain ⟨g, i2, f4, _, _⟩ := (H1.out wr b3.out).at k (by rw [bF9]; exact a9);obtain rfl : oa = some ⟨g, 0, none⟩ := (Value.slice.inj f4).1;clear d0 a6 a7 g6 f4;obtain ⟨d, v1, v2, v3⟩ := x0;have g7 : K + 6 + d.xs.length + d.ys.length + 2 * d.fs.length ≤ 99999998 := by have h : K + wm1 d ≤ 99999998 := f3; unfold wm1 at h; omega
  clear f3;obtain ⟨K1, d2⟩ : ∃ m : Nat, m = K + 1 := ⟨_, rfl⟩;have f5 := hid d2;obtain ⟨K2, f6⟩ : ∃ m : Nat, m = K + 1 + d.xs.length := ⟨_, rfl⟩;have g8 := hid f6;obtain ⟨K3, f7⟩ : ∃ m : Nat, m = K + 1 + d.xs.length + d.ys.length := ⟨_, rfl⟩;have g9 := hid f7;obtain ⟨K4, f8⟩ : ∃ m : Nat, m = K + 2 + d.xs.length + d.ys.length := ⟨_, rfl⟩;have h0 := hid f8;obtain ⟨K5, f9⟩ : ∃ m : Nat, m = K + 2 + d.xs.length + d.ys.length + 2 * d.fs.length := ⟨_, rfl⟩;have h4 := hid f9;obtain ⟨K6, g0⟩ : ∃ m : Nat, m = K + 3 + d.xs.length + d.ys.length + 2 * d.fs.length := ⟨_, rfl⟩;have h5 := hid g0;obtain ⟨K7, g1⟩ : ∃ m : Nat, m = K + 4 + d.xs.length + d.ys.length + 2 * d.fs.length := ⟨_, rfl⟩;have h6 := hid g1;obtain ⟨K8, g2⟩ : ∃ m : Nat, m = K + 5 + d.xs.length + d.ys.length + 2 * d.fs.length := ⟨_, rfl⟩;have h7 := hid g2;obtain ⟨K9, g3⟩ : ∃ m : Nat, m = K + 6 + d.xs.length + d.ys.length + 2 * d.fs.length := ⟨_, rfl⟩;have i3 := hid g3;have E1 : Hid ((K : Int) + 1 = (K1 : Int)) := by show _ = _; omega
  have E2 : Hid ((K1 : Int) + (d.xs.length : Int) = (K2 : Int)) := by show _ = _; omega
  have E3 : Hid ((K2 : Int) + (d.ys.length : Int) = (K3 : Int)) := by show _ = _; omega
  have E4 : Hid ((K3 : Int) + 1 = (K4 : Int)) := by show _ = _; omega
  have E5 : Hid ((K4 : Int) + 2 * (d.fs.length : Int) = (K5 : Int)) := by show _ = _; omega
  have E6 : (K5 : Int) + 1 = (K6 : Int) := by omega
  have E7 : (K6 : Int) + 1 = (K7 : Int) := by omega
  have E8 : (K7 : Int) + 1 = (K8 : Int) := by omega
  have E9 : (K8 : Int) + 1 = (K9 : Int) := by omega
  have b1 : 1 ≤ K1 ∧ K1 + d.xs.length ≤ 99999998 := by omega
  have b2 : 1 ≤ K2 ∧ K2 + d.ys.length ≤ 99999998 := by omega
  have b4 : 1 ≤ K4 ∧ K4 + 2 * d.fs.length ≤ 99999999 := by omega
  have b5 : 1 ≤ K5 ∧ K5 ≤ 99999999 := by omega
  have b9 : 1 ≤ K9 := by omega
  have i4 : K3 ≤ 99999999 := by omega
  have i5 : K5 ≤ 99999999 := by omega
  have i6 : K6 ≤ 99999999 := by omega
  have i7 : K7 ≤ 99999999 := by omega
  have i8 : K8 ≤ 99999999 := by omega
  have i9 : ¬ ((K2 : Int) < 0) := by omega
  have j0 : ¬ ((K3 : Int) < 0) := by omega
  have j1 : ¬ ((K5 : Int) < 0) := by omega
  have h8 : Hid (K9 = k0 + wms (kv.take (k + 1))) := by
   have h1 : k0 + wms (kv.take (k + 1)) = K + wm1 d := d4.out
   have h2 : wm1 d = 6 + d.xs.length + d.ys.length + 2 * d.fs.length := rfl
   show _ = _
   omega
  clear d2 f6 f7 f8 f9 g0 g1 g2 g3;have h9 : 1 ≤ K := by have h1 := f5.out; have h2 := b1.1; have h3 := b0.out; omega
  have HA : Hid (∀ w0 w1, Bw w w0 → Below w0.heap.size w0 w1 → (w1.cell? ⟨g, k * 9, none⟩ = some (.string (aB1 K)) ∧ w1.cell? ⟨g, k * 9 + 1, none⟩ = some (v1) ∧ w1.cell? ⟨g, k * 9 + 2, none⟩ = some (v2) ∧ w1.cell? ⟨g, k * 9 + 3, none⟩ = some (.int .i64 (K3 : Int)) ∧ w1.cell? ⟨g, k * 9 + 4, none⟩ = some (v3) ∧ w1.cell? ⟨g, k * 9 + 5, none⟩ = some (.string (aB1 K5)) ∧ w1.cell? ⟨g, k * 9 + 6, none⟩ = some (.int .i64 (K6 : Int)) ∧ w1.cell? ⟨g, k * 9 + 7, none⟩ = some (.int .i64 (K7 : Int)) ∧ w1.cell? ⟨g, k * 9 + 8, none⟩ = some (.int .i64 (K8 : Int))) ∧ (w1.ownsRow base 9 1 v1 d.xs.length ((mkT K1 d.xs d.xs.length).map Value.string) ∧ w1.ownsRow base 9 1 v2 d.ys.length ((mkT K2 d.ys d.ys.length).map Value.string) ∧ w1.ownsRow base 232 2 v3 d.fs.length (aE5 (mkG K4 d.fs d.fs.length))) ∧ Bw w w1) := fun w0 w1 h h' => by
   have hx := h.trans (h'.mono h.size)
   have a5 : k < (mkKs k0 kv).length := by rw [bF9]; exact a9
   obtain ⟨g', cp, ev, _, a4⟩ := (H1.out w1 hx).at k a5
   obtain rfl : g = g' := by have e := (Value.slice.inj ev).1; cases e; rfl
   have ex : (mkKs k0 kv)[k]'a5 = (mkD K d, v1, v2, v3) := Option.some.inj ((List.getElem?_eq_getElem a5).symm.trans d3.out)
   have a8 : (mkD K d, v1, v2, v3) ∈ mkKs k0 kv := by rw [← ex]; exact List.getElem_mem a5
   have o1 := (H1.out w1 hx).names a8
   have o2 := (H1.out w1 hx).vals a8
   have o3 := (H1.out w1 hx).flds a8
   rw [ex] at a4
   unfold mkD at o1 o2 o3
   simp only [bP7, cC4] at o1 o2 o3
   refine ⟨⟨a4.c0, a4.c1, a4.c2, by rw [g9.out]; exact a4.c3, a4.c4, by rw [h4.out]; exact a4.c5, by rw [h5.out]; exact a4.c6, by rw [h6.out]; exact a4.c7, by rw [h7.out]; exact a4.c8⟩, ⟨by rw [f5.out]; exact o1, by rw [g8.out]; exact o2, by rw [h0.out]; exact o3⟩, hx⟩
  obtain ⟨⟨e0, e1, e2, e3, e4, e5, e6, e7, e8⟩, _, _⟩ := HA.out wr wr b3.out (Below.refl _ _);clear e0 e1 e2 e3 e4 e5 e6 e7 e8;obtain ⟨e0, _⟩ : wr.cell? ⟨g, k * 9, none⟩ = some (.string (aB1 K)) ∧ True := ⟨(HA.out _ wr b3.out (Below.refl _ _)).1.1, trivial⟩;go_wp2
  go_region_held3 (fun w' => w'.cell? ⟨g, k * 9, none⟩ = some (.string (aB1 K))) (first | assumption | go_keep) (first | (go_at_call 224; refine (aQ5 K _ (by omega) (by omega)).mono ?_; rintro e u1 ⟨rfl, b6⟩; obtain ⟨⟨e0, e1, e2, e3, e4, e5, e6, e7, e8⟩, ⟨a0, a1, a2⟩, a3⟩ := HA.out _ u1 (b3.out).drew b6))
  have d5 : Hid (u1.ownsRow base 9 1 v1 d.xs.length ((mkT K1 d.xs d.xs.length).map Value.string) ∧ u1.ownsRow base 9 1 v2 d.ys.length ((mkT K2 d.ys d.ys.length).map Value.string) ∧ u1.ownsRow base 232 2 v3 d.fs.length (aE5 (mkG K4 d.fs d.fs.length))) := ⟨a0, a1, a2⟩;have d6 := hid a3;clear a3 b6 a0 a1 a2;go_wp2_with fail
  rw [E1.out];refine (aX1 v1 d.xs.length base (mkT K1 d.xs d.xs.length) _ d5.out.1 K1 b1.1 b1.2 (fun j hj => dB7 K1 d.xs j hj d.xs.length hj)).mono ?_
  rintro e u2 ⟨rfl, bw⟩;clear e0 e1 e2 e3 e4 e5 e6 e7 e8;obtain ⟨⟨e0, e1, e2, e3, e4, e5, e6, e7, e8⟩, ⟨a0, a1, a2⟩, a3⟩ := HA.out _ u2 d6.out bw;have d7 : Hid (u2.ownsRow base 9 1 v1 d.xs.length ((mkT K1 d.xs d.xs.length).map Value.string) ∧ u2.ownsRow base 9 1 v2 d.ys.length ((mkT K2 d.ys d.ys.length).map Value.string) ∧ u2.ownsRow base 232 2 v3 d.fs.length (aE5 (mkG K4 d.fs d.fs.length))) := ⟨a0, a1, a2⟩;have d8 := hid a3;clear a3 bw a0 a1 a2;rw [E2.out];go_wp2_with fail
  refine (aX1 v2 d.ys.length base (mkT K2 d.ys d.ys.length) _ d7.out.2.1 K2 b2.1 b2.2 (fun j hj => dB7 K2 d.ys j hj d.ys.length hj)).mono ?_
  rintro e u3 ⟨rfl, bw⟩;clear e0 e1 e2 e3 e4 e5 e6 e7 e8;obtain ⟨⟨e0, e1, e2, e3, e4, e5, e6, e7, e8⟩, ⟨a0, a1, a2⟩, a3⟩ := HA.out _ u3 d8.out bw;have d9 : Hid (u3.ownsRow base 9 1 v1 d.xs.length ((mkT K1 d.xs d.xs.length).map Value.string) ∧ u3.ownsRow base 9 1 v2 d.ys.length ((mkT K2 d.ys d.ys.length).map Value.string) ∧ u3.ownsRow base 232 2 v3 d.fs.length (aE5 (mkG K4 d.fs d.fs.length))) := ⟨a0, a1, a2⟩;have e9 := hid a3;clear a3 bw a0 a1 a2;rw [E3.out];go_wp2_with fail
  rw [E4.out];refine (cH5 v3 d.fs.length base (mkG K4 d.fs d.fs.length) _ d9.out.2.2 K4 b4.1 b4.2 (fun j hj => dR2 K4 d.fs j d.fs.length (Nat.le_refl _) hj)).mono ?_
  rintro e u4 ⟨rfl, bw⟩;clear e0 e1 e2 e3 e4 e5 e6 e7 e8;obtain ⟨⟨e0, e1, e2, e3, e4, e5, e6, e7, e8⟩, ⟨a0, a1, a2⟩, a3⟩ := HA.out _ u4 e9.out bw;have i0 : Hid (u4.ownsRow base 9 1 v1 d.xs.length ((mkT K1 d.xs d.xs.length).map Value.string) ∧ u4.ownsRow base 9 1 v2 d.ys.length ((mkT K2 d.ys d.ys.length).map Value.string) ∧ u4.ownsRow base 232 2 v3 d.fs.length (aE5 (mkG K4 d.fs d.fs.length))) := ⟨a0, a1, a2⟩;have b7 := hid a3;clear a3 bw a0 a1 a2;rw [E5.out];clear e0 e1 e2 e3 e4 e5 e6 e7 e8;obtain ⟨e5, _⟩ : u4.cell? ⟨g, k * 9 + 5, none⟩ = some (.string (aB1 K5)) ∧ True := ⟨(HA.out _ u4 b7.out (Below.refl _ _)).1.2.2.2.2.2.1, trivial⟩;go_wp2
  go_region_held3 (fun w' => w'.cell? ⟨g, k * 9 + 5, none⟩ = some (.string (aB1 K5))) (first | assumption | go_keep) (first | (go_at_call 224; refine (aQ5 K5 _ b5.1 b5.2).mono ?_; rintro e u5 ⟨rfl, b8⟩; obtain ⟨⟨e0, e1, e2, e3, e4, e5, e6, e7, e8⟩, ⟨a0, a1, a2⟩, a3⟩ := HA.out _ u5 (b7.out).drew b8))
  have i1 : Hid (u5.ownsRow base 9 1 v1 d.xs.length ((mkT K1 d.xs d.xs.length).map Value.string) ∧ u5.ownsRow base 9 1 v2 d.ys.length ((mkT K2 d.ys d.ys.length).map Value.string) ∧ u5.ownsRow base 232 2 v3 d.fs.length (aE5 (mkG K4 d.fs d.fs.length))) := ⟨a0, a1, a2⟩;have f0 := hid a3;clear a3 b8 a0 a1 a2;go_wp2
  go_roundw
  case rel => exact ⟨k + 1, K9, by omega, by go_num, rfl, b9, h8, f0⟩
  case measure => simp [intOf]; omega
theorem aB2.other {W : World} {base q o : Nat} {rs : List Rw} {cs : Array Value} {T : TypeId} {fr : Nat × Nat} {u : Value} (h : aB2 W base rs) (hq : W.heap[q]? = some (.cells cs T fr)) (hT : ∀ r ∈ rs, T ≠ r.T) : aB2 (W.setCell ⟨q, o, none⟩ u) base rs :=
 h.same (fun r hr g hg => heap_setCell_other _ _ g _ (fun e => bI3 (h.own r hr) (hT r hr) hq (by have e' : g = q := e; rw [← e']; exact hg)))
theorem erS {W W' : World} {base q i : Nat} {v : Value} {rs : List Rw} {cs : Array Value} {T : TypeId} {fr : Nat × Nat} (hW : W' = W.setCell ⟨q, i, none⟩ v) (h : Hid (aB2 W base rs)) (hb : Hid (W.heap[q]? = some (.cells cs T fr))) (hT : ∀ r ∈ rs, T ≠ r.T) : Hid (aB2 W' base rs) := by show aB2 _ _ _; rw [hW]; exact aB2.other h.out hb.out hT
theorem cD6 {V : Value} {kv : Ks} {r : Rw} (h : r ∈ aF2 V kv) : r.T = 52 ∨ r.T = 9 ∨ r.T = 232 := by
 rcases List.mem_cons.1 h with h | h
 ·exact .inl (by rw [h]; rfl)
 obtain ⟨x, _, hx⟩ := List.mem_flatMap.1 h;simp only [kpR, List.mem_cons, List.not_mem_nil, or_false] at hx
 rcases hx with rfl | rfl | rfl
 ·exact .inr (.inl rfl)
 ·exact .inr (.inl rfl)
 exact .inr (.inr rfl)
theorem bG0 {W : World} {base : Nat} {v1 v2 : Value} {n1 n2 : Nat} {cs : Ts} {ws : List (Int × ByteArray)} (h : aJ3 W base v1 n1 cs v2 n2 ws) : aB2 W base [(⟨9, 1, v1, n1, cs.map Value.string⟩ : Rw), (⟨128, 2, v2, n2, aA4 ws⟩ : Rw)] := by
 refine ⟨fun r hr => ?_, List.pairwise_cons.2 ⟨fun r hr => ?_, List.pairwise_singleton _ _⟩⟩
 ·simp only [List.mem_cons, List.not_mem_nil, or_false] at hr
  rcases hr with rfl | rfl
  ·exact h.cells
  exact h.pend
 rw [List.mem_singleton.1 hr];exact fun g hg => aW9 h.cells h.pend (by decide) hg
def aP6 (v1 v2 V VB : Value) (kv : Ks) (cs : Ts) (ws : List (Int × ByteArray)) (bl : Bs) : List Rw := ([(⟨9, 1, v1, cs.length, cs.map Value.string⟩ : Rw), (⟨128, 2, v2, ws.length, aA4 ws⟩ : Rw)] ++ aF2 V kv) ++ [(⟨44, 4, VB, bl.length, aB3 bl⟩ : Rw)]
def aP5 (w : World) (base : Nat) (v1 v2 V VB : Value) (kv : Ks) (s : ShD) : Prop := aB2 w base (aP6 v1 v2 V VB kv s.cs s.ws s.bl) ∧ kv.map (·.1) = s.ks
theorem aP5.disk {w : World} {base : Nat} {v1 v2 V VB : Value} {kv : Ks} {s : ShD} (h : aP5 w base v1 v2 V VB kv s) : aJ3 w base v1 s.cs.length s.cs v2 s.ws.length s.ws := ⟨h.1.own (⟨9, 1, v1, s.cs.length, s.cs.map Value.string⟩ : Rw) (by simp [aP6]), h.1.own (⟨128, 2, v2, s.ws.length, aA4 s.ws⟩ : Rw) (by simp [aP6])⟩
theorem aP5.kept {w : World} {base : Nat} {v1 v2 V VB : Value} {kv : Ks} {s : ShD} (h : aP5 w base v1 v2 V VB kv s) : aC5 w base V kv := aB2.sub h.1 ((List.sublist_append_right _ _).trans (List.sublist_append_left _ _))
theorem aP5.bans {w : World} {base : Nat} {v1 v2 V VB : Value} {kv : Ks} {s : ShD} (h : aP5 w base v1 v2 V VB kv s) : w.ownsRow base 44 4 VB s.bl.length (aB3 s.bl) := h.1.own (⟨44, 4, VB, s.bl.length, aB3 s.bl⟩ : Rw) (by simp [aP6])
theorem aP5.below {w w' : World} {base : Nat} {v1 v2 V VB : Value} {kv : Ks} {s : ShD} (h : aP5 w base v1 v2 V VB kv s) (hb : Below w.heap.size w w') : aP5 w' base v1 v2 V VB kv s := ⟨h.1.below hb, h.2⟩
def aR3 (s : ShD) (w : World) (e : Ending) (w' : World) : Prop := ∃ (v1 v2 V VB : Value) (kv : Ks), e = .returned (.agg #[v1, v2, V, VB, .int .i64 s.nx, .int .i64 s.sq]) ∧ aP5 w' w.heap.size v1 v2 V VB kv s ∧ Below w.heap.size w w'
theorem cW1 (s : ShD) (n1 n2 n3 n4 : Nat) (oCx oPx oKx oBx oCy oPy oKy oBy : Oa) (pCx pPx pKx pBx pCy pPy pKy pBy : Nat) (kvx kvy : Ks) (Bx By : Nat) (w : World) (HL : Hid (s.cs.length = n1 ∧ s.ws.length = n2 ∧ s.bl.length = n4)) (HN : Hid (n1 ≤ 2000000 ∧ n2 ≤ 2000000 ∧ kvx.length ≤ 2000000 ∧ n4 ≤ 2000000)) (HSZ : Hid (∀ x ∈ kvx, x.1.xs.length ≤ 2000000 ∧ x.1.ys.length ≤ 2000000 ∧ x.1.fs.length ≤ 2000000)) (HKE : Hid (kvx.map (·.1) = kvy.map (·.1))) (Ex_0 : Hid (aP5 (w) Bx (.slice oCx n1 pCx) (.slice oPx n2 pPx) (.slice oKx n3 pKx) (.slice oBx n4 pBx) kvx s)) (Ey_0 : Hid (aP5 (w) By (.slice oCy n1 pCy) (.slice oPy n2 pPy) (.slice oKy n3 pKy) (.slice oBy n4 pBy) kvy s)) :
  Calls prog 36 #[.agg #[.slice oCx n1 pCx, .slice oPx n2 pPx, .slice oKx n3 pKx, .slice oBx n4 pBx, .int .i64 s.nx, .int .i64 s.sq], .agg #[.slice oCy n1 pCy, .slice oPy n2 pPy, .slice oKy n3 pKy, .slice oBy n4 pBy, .int .i64 s.nx, .int .i64 s.sq]] w fun e w' => e = .returned (.bool true) ∧ Below w.heap.size w w' := by
 have c6 : (s.nx != s.nx) = false := by simp
 have c7 : (s.sq != s.sq) = false := by simp
 have K0 := jnil w;go_enter func36, ntmps36;go_upto_region 1 with fail
 obtain ⟨q1, b0⟩ := exq (w.heap.size);obtain ⟨w1, a6⟩ := exq (w.alloc (.cells #[.slice oCx n1 pCx, .slice oPx n2 pPx, .slice oKx n3 pKx, .slice oBx n4 pBx, .int .i64 s.nx, .int .i64 s.sq] 31));have b1 := b0.symm;rw [← a6]; try rw [← b0];have c0 := hsa a6 b1;have bw := bal a6;have K1 := ja K0 a6 b1;have a7 := hid (Ex_0.out.below bw);have a8 := hid (Ey_0.out.below bw);clear Ex_0 Ey_0 bw a6 b1 K0;obtain ⟨q2, b2⟩ := exq (q1 + 1);obtain ⟨w2, a9⟩ := exq (w1.alloc (.cells #[.slice oCy n1 pCy, .slice oPy n2 pPy, .slice oKy n3 pKy, .slice oBy n4 pBy, .int .i64 s.nx, .int .i64 s.sq] 31));have b3 : w1.heap.size = q2 := by rw [b2]; exact c0
 rw [← a9]; try rw [← b2];have c1 := hsa a9 b3;have bw := bal a9;have K2 := ja K1 a9 b3;have a0 := hid (a7.out.below bw);have a1 := hid (a8.out.below bw);clear a7 a8 bw a9 b3 K1;clear c1 b2 c0 b0;have b4 := c6c (jb K2 1 rfl);have b5 := c6c (jb K2 0 rfl);go_wp2_with fail
 refine (bX5 n1 s.cs n2 s.ws _ _ _ _ Bx By _ (show aJ3 _ Bx _ n1 s.cs _ n2 s.ws from by have h := a0.out.disk; rw [HL.out.1, HL.out.2.1] at h; exact h) (show aJ3 _ By _ n1 s.cs _ n2 s.ws from by have h := a1.out.disk; rw [HL.out.1, HL.out.2.1] at h; exact h) HN.out.1 HN.out.2.1).mono ?_;rintro e w3 ⟨rfl, bw⟩;have K3 := jw K2 bw;have a2 := hid (a0.out.below bw);have a3 := hid (a1.out.below bw);clear a0 a1 bw K2;clear b4 b5;have b6 := c6c (jb K3 1 rfl);have b7 := c6c (jb K3 0 rfl);go_wp2_with fail
 refine (cN8 _ _ kvx kvy Bx By _ HKE.out a2.out.kept a3.out.kept HN.out.2.2.1 HSZ.out).mono ?_;rintro e w4 ⟨rfl, bw⟩;have K4 := jw K3 bw;have a4 := hid (a2.out.below bw);have a5 := hid (a3.out.below bw);clear a2 a3 bw K3;clear b6 b7;have b8 := c6c (jb K4 1 rfl);have b9 := c6c (jb K4 0 rfl);go_wp2_with fail
 refine (cV8 _ _ n4 _ _ s.bl _ (bB4 (show World.ownsRow _ Bx 44 4 _ n4 (aB3 s.bl) from by have h := a4.out.bans; rw [HL.out.2.2] at h; exact h)) (bB4 (show World.ownsRow _ By 44 4 _ n4 (aB3 s.bl) from by have h := a5.out.bans; rw [HL.out.2.2] at h; exact h)) HN.out.2.2.2).mono ?_;rintro e w5 ⟨rfl, bw⟩;have K5 := jw K4 bw;have c2 := hid (a4.out.below bw);have c3 := hid (a5.out.below bw);clear a4 a5 bw K4;clear b8 b9;have c4 := c6c (jb K5 1 rfl);have c5 := c6c (jb K5 0 rfl);go_wp2_with fail
 go_ret;exact ⟨rfl, K5.hb⟩
theorem bD9 (s : ShD) (v1 v2 V VB u1 u2 U UB : Value) (kvx kvy : Ks) (Bx By : Nat) (w : World) (hx : aP5 w Bx v1 v2 V VB kvx s) (hy : aP5 w By u1 u2 U UB kvy s) (h1 : s.cs.length ≤ 2000000) (h2 : s.ws.length ≤ 2000000) (h3 : s.ks.length ≤ 2000000) (h4 : s.bl.length ≤ 2000000) (hs : ∀ k ∈ s.ks, k.xs.length ≤ 2000000 ∧ k.ys.length ≤ 2000000 ∧ k.fs.length ≤ 2000000) :
  Calls prog 36 #[.agg #[v1, v2, V, VB, .int .i64 s.nx, .int .i64 s.sq], .agg #[u1, u2, U, UB, .int .i64 s.nx, .int .i64 s.sq]] w fun e w' => e = .returned (.bool true) ∧ Below w.heap.size w w' := by
 obtain ⟨a0, a1, rfl⟩ := aA0 hx.disk.cells;obtain ⟨a2, a3, rfl⟩ := aA0 hx.disk.pend;obtain ⟨a4, a5, rfl⟩ := aA0 hx.bans;obtain ⟨a6, a7, rfl⟩ := hx.kept.len;obtain ⟨a8, a9, rfl⟩ := aA0 hy.disk.cells;obtain ⟨b0, b1, rfl⟩ := aA0 hy.disk.pend;obtain ⟨b2, b3, rfl⟩ := aA0 hy.bans;obtain ⟨b4, b5, rfl⟩ := hy.kept.len;have e1 : kvx.length = s.ks.length := by rw [← hx.2, List.length_map]
 have e2 : kvy.length = s.ks.length := by rw [← hy.2, List.length_map]
 rw [e1] at hx ⊢;rw [e2] at hy ⊢;exact cW1 s _ _ _ _ a0 a2 a6 a4 a8 b0 b4 b2 a1 a3 a7 a5 a9 b1 b5 b3 kvx kvy Bx By w ⟨rfl, rfl, rfl⟩ ⟨h1, h2, by rw [e1]; exact h3, h4⟩ (fun x b6 => hs x.1 (by rw [← hx.2]; exact List.mem_map.2 ⟨x, b6, rfl⟩)) (hx.2.trans hy.2.symm) hx hy
theorem aB2.turns {w w' : World} {base : Nat} {pre xs xs' post : List Rw} (h : aB2 w base (pre ++ xs ++ post)) (hv : xs'.map (·.v) = xs.map (·.v)) (h' : aB2 w' base xs') (hs : ∀ g, g < w.heap.size → (∀ r ∈ xs, r.v.ownBlock ≠ some g) → w'.heap[g]? = w.heap[g]?) : aB2 w' base (pre ++ xs' ++ post) := by
 have hp := h.apart;rw [List.pairwise_append, List.pairwise_append] at hp;obtain ⟨⟨p1, _, p3⟩, p4, p5⟩ := hp
 have a1 : ∀ r' ∈ xs', ∃ r ∈ xs, r.v = r'.v := fun r' hr => by
  have hm : r'.v ∈ xs'.map (·.v) := List.mem_map.2 ⟨r', hr, rfl⟩
  rw [hv] at hm
  exact List.mem_map.1 hm
 have a2 : ∀ x, x ∈ pre ++ xs ++ post → (∀ r ∈ xs, x.ne r) → x.own w' base := fun x hx a0 => aA9 (h.own x hx) (fun g hg => hs g (h.lt hx hg) (fun r hr => a0 r hr g hg))
 have k1 : ∀ x ∈ pre, x.own w' base := fun x hx => a2 x (by simp [hx]) (fun r hr => p3 x hx r hr)
 have k3 : ∀ x ∈ post, x.own w' base := fun x hx => a2 x (by simp [hx]) (fun r hr => (p5 r (by simp [hr]) x hx).symm)
 refine ⟨fun x hx => ?_, ?_⟩
 ·rcases List.mem_append.1 hx with hx | hx
  ·rcases List.mem_append.1 hx with hx | hx
   ·exact k1 x hx
   exact h'.own x hx
  exact k3 x hx
 rw [List.pairwise_append, List.pairwise_append];refine ⟨⟨p1, h'.apart, fun a ha b hb => ?_⟩, p4, fun a ha b hb => ?_⟩
 ·obtain ⟨r, hr, e⟩ := a1 b hb;have a0 := p3 a ha r hr;unfold Rw.ne at a0 ⊢;rw [← e];exact a0
 rcases List.mem_append.1 ha with ha | ha
 ·exact p5 a (by simp [ha]) b hb
 obtain ⟨r, hr, e⟩ := a1 a ha;have a0 := p5 r (by simp [hr]) b hb;unfold Rw.ne at a0 ⊢;rw [← e];exact a0
theorem dR9 (V : Value) : ∀ (kv : Ks) (k : Nat), (aF2 V (mkKs k kv)).map (·.v) = (aF2 V kv).map (·.v) := by
 have a0 : ∀ (kv : Ks) (k : Nat), ((mkKs k kv).flatMap kpR).map (·.v) = (kv.flatMap kpR).map (·.v) := by
  intro kv
  induction kv with
  | nil => intro k; rfl
  | cons x r ih =>
   intro k
   rw [mkKs, List.flatMap_cons, List.flatMap_cons, List.map_append, List.map_append, ih]
   rfl
 intro kv k;unfold aF2;rw [List.map_cons, List.map_cons, a0];rfl
theorem cI7 (s : ShD) (n1 n2 n3 n4 : Nat) (oC oP oK oB : Oa) (pC pP pK pB : Nat) (kv : Ks) (B : Nat) (w : World) (hL1 : s.cs.length = n1) (hL2 : s.ws.length = n2) (hL3 : kv.length = n3) (hL4 : s.bl.length = n4) (HR : Hid (aB2 w B ([(⟨9, 1, (.slice oC n1 pC), n1, s.cs.map Value.string⟩ : Rw), (⟨128, 2, (.slice oP n2 pP), n2, aA4 s.ws⟩ : Rw)] ++ aF2 (.slice oK n3 pK) kv ++ [(⟨44, 4, (.slice oB n4 pB), n4, aB3 s.bl⟩ : Rw)]))) (hB : B ≤ w.heap.size) (k0 : Nat) (hk0 : 1 ≤ k0) (hk : k0 + n1 + 2 * n2 + wms kv + 4 * n4 ≤ 99999998) (hn3 : n3 ≤ 2000000) (K1 K2 K3 : Nat) (HK1 : Hid (K1 = k0 + n1 + 2 * n2)) (HK2 : Hid (K2 = K1 + wms kv)) (HK3 : Hid (K3 = K2 + 4 * n4)) :
  Calls prog 38 #[.agg #[(.slice oC n1 pC), (.slice oP n2 pP), (.slice oK n3 pK), (.slice oB n4 pB), .int .i64 s.nx, .int .i64 s.sq], .int .i64 (k0 : Int)] w fun e w' => e = .returned (.int .i64 (K3 : Int)) ∧ aB2 w' B ([(⟨9, 1, (.slice oC n1 pC), n1, (mkT k0 s.cs n1).map Value.string⟩ : Rw), (⟨128, 2, (.slice oP n2 pP), n2, aA4 (aE7 (k0 + n1) s.ws n2)⟩ : Rw)] ++ aF2 (.slice oK n3 pK) (mkKs K1 kv) ++ [(⟨44, 4, (.slice oB n4 pB), n4, aB3 (aP2 K2 s.bl n4)⟩ : Rw)]) ∧ Below B w w' ∧ FarR ([(⟨9, 1, (.slice oC n1 pC), n1, s.cs.map Value.string⟩ : Rw), (⟨128, 2, (.slice oP n2 pP), n2, aA4 s.ws⟩ : Rw)] ++ aF2 (.slice oK n3 pK) kv ++ [(⟨44, 4, (.slice oB n4 pB), n4, aB3 s.bl⟩ : Rw)]) w w' := by
 have d2 := hid hL1;have c5 := hid hL3;have b0 : k0 + n1 + 2 * n2 ≤ 99999998 := by omega
 have b1 : 1 ≤ K1 ∧ K1 + wms kv ≤ 99999998 := by have := HK1.out; omega
 have b2 : 1 ≤ K2 ∧ K2 + 4 * n4 ≤ 99999999 := by have := HK1.out; have := HK2.out; omega
 have E1 : Hid (((k0 + n1 + 2 * n2 : Nat) : Int) = (K1 : Int)) := by show _ = _; rw [HK1.out]
 have E2 : Hid (((K1 + wms kv : Nat) : Int) = (K2 : Int)) := by show _ = _; rw [HK2.out]
 have E3 : Hid ((K2 : Int) + 4 * (n4 : Int) = (K3 : Int)) := by show _ = _; rw [HK3.out]; simp
 clear hL1 hL2 hL3 hL4 hk;go_enter func38, ntmps38;go_upto_region 1 with fail
 obtain ⟨q, hq⟩ := exq (w.heap.size);obtain ⟨w1, a6⟩ := exq (w.alloc (.cells #[(.slice oC n1 pC), (.slice oP n2 pP), (.slice oK n3 pK), (.slice oB n4 pB), .int .i64 s.nx, .int .i64 s.sq] 31));rw [← a6, ← hq];have a2 : Hid (w1.heap[q]? = some (.cells #[(.slice oC n1 pC), (.slice oP n2 pP), (.slice oK n3 pK), (.slice oB n4 pB), .int .i64 s.nx, .int .i64 s.sq] 31)) := by show _ = _; rw [a6, hq]; exact heap_alloc_new _ _
 have a3 : Bw w w1 := by rw [a6]; exact (Below.refl _ _).alloc (Nat.le_refl _) _
 have a7 : Hid (aB2 w1 B ([] ++ [(⟨9, 1, (.slice oC n1 pC), n1, s.cs.map Value.string⟩ : Rw), (⟨128, 2, (.slice oP n2 pP), n2, aA4 s.ws⟩ : Rw)] ++ (aF2 (.slice oK n3 pK) kv ++ [(⟨44, 4, (.slice oB n4 pB), n4, aB3 s.bl⟩ : Rw)]))) := by
  have h := HR.out.below a3
  rw [List.append_assoc] at h
  exact h
 have a8 : Hid (Below B w w1) := a3.mono hB;have HQ : Hid (∀ r ∈ ([(⟨9, 1, (.slice oC n1 pC), n1, s.cs.map Value.string⟩ : Rw), (⟨128, 2, (.slice oP n2 pP), n2, aA4 s.ws⟩ : Rw)] ++ aF2 (.slice oK n3 pK) kv ++ [(⟨44, 4, (.slice oB n4 pB), n4, aB3 s.bl⟩ : Rw)]), r.v.ownBlock ≠ some q) := fun r hr e => by have h1 := HR.out.lt hr e; omega
 have c6 : Hid (∀ j, j < w.heap.size → w1.heap[j]? = w.heap[j]?) := fun j hj => a3.block j hj
 have a4 : B ≤ w1.heap.size := Nat.le_trans hB a3.size;have b7 : q < w1.heap.size := (blt a2.out);clear a6 a3 hq;have c0 := (c6c a2.out).1;have c1 := (c6c a2.out).2.1;go_wp2_with fail
 refine (bK5 n1 s.cs n2 s.ws (.slice oC n1 pC) (.slice oP n2 pP) B _ ⟨a7.out.own (⟨9, 1, (.slice oC n1 pC), n1, s.cs.map Value.string⟩ : Rw) (by simp), a7.out.own (⟨128, 2, (.slice oP n2 pP), n2, aA4 s.ws⟩ : Rw) (by simp)⟩ a4 k0 hk0 b0).mono ?_;rintro e w2 ⟨rfl, hd, bm, a0⟩
 have a9 : Hid (aB2 w2 B ([(⟨9, 1, (.slice oC n1 pC), n1, (mkT k0 s.cs n1).map Value.string⟩ : Rw), (⟨128, 2, (.slice oP n2 pP), n2, aA4 (aE7 (k0 + n1) s.ws n2)⟩ : Rw)] ++ aF2 (.slice oK n3 pK) kv ++ [(⟨44, 4, (.slice oB n4 pB), n4, aB3 s.bl⟩ : Rw)])) := by
  have h := a7.out.turns (xs' := [(⟨9, 1, (.slice oC n1 pC), n1, (mkT k0 s.cs n1).map Value.string⟩ : Rw), (⟨128, 2, (.slice oP n2 pP), n2, aA4 (aE7 (k0 + n1) s.ws n2)⟩ : Rw)]) rfl (bG0 hd) (fun g hg a1 => a0 g hg (a1 (⟨9, 1, (.slice oC n1 pC), n1, s.cs.map Value.string⟩ : Rw) (by simp)) (a1 (⟨128, 2, (.slice oP n2 pP), n2, aA4 s.ws⟩ : Rw) (by simp)))
  rw [List.append_assoc]
  exact h
 have b3 : Hid (w2.heap[q]? = some (.cells #[(.slice oC n1 pC), (.slice oP n2 pP), (.slice oK n3 pK), (.slice oB n4 pB), .int .i64 s.nx, .int .i64 s.sq] 31)) := (a0 q b7 (HQ.out (⟨9, 1, (.slice oC n1 pC), n1, s.cs.map Value.string⟩ : Rw) (by simp)) (HQ.out (⟨128, 2, (.slice oP n2 pP), n2, aA4 s.ws⟩ : Rw) (by simp))).trans a2.out;have b8 : Hid (Below B w w2) := a8.out.trans bm;have c7 : Hid (FarR ([(⟨9, 1, (.slice oC n1 pC), n1, s.cs.map Value.string⟩ : Rw), (⟨128, 2, (.slice oP n2 pP), n2, aA4 s.ws⟩ : Rw)] ++ aF2 (.slice oK n3 pK) kv ++ [(⟨44, 4, (.slice oB n4 pB), n4, aB3 s.bl⟩ : Rw)]) w w2) := fun j hj a1 => (a0 j (Nat.lt_of_lt_of_le hj a8.out.size) (a1 (⟨9, 1, (.slice oC n1 pC), n1, s.cs.map Value.string⟩ : Rw) (by simp)) (a1 (⟨128, 2, (.slice oP n2 pP), n2, aA4 s.ws⟩ : Rw) (by simp))).trans (c6.out j hj)
 have a5 : B ≤ w2.heap.size := Nat.le_trans a4 bm.size;have b4 : q < w2.heap.size := Nat.lt_of_lt_of_le b7 bm.size;clear hd bm a0 c0 c1 a2 a7 a8;rw [E1.out];have c2 := (c6c b3.out).2.2.1;go_wp2_with fail
 refine (cD4 (.slice oK n3 pK) kv B _ (aB2.sub a9.out ((List.sublist_append_right _ _).trans (List.sublist_append_left _ _))) a5 K1 b1.1 b1.2 (by rw [c5.out]; exact hn3)).mono ?_;rintro e w3 ⟨rfl, hd, bm, a0⟩;have b5 : Hid (aB2 w3 B ([(⟨9, 1, (.slice oC n1 pC), n1, (mkT k0 s.cs n1).map Value.string⟩ : Rw), (⟨128, 2, (.slice oP n2 pP), n2, aA4 (aE7 (k0 + n1) s.ws n2)⟩ : Rw)] ++ aF2 (.slice oK n3 pK) (mkKs K1 kv) ++ [(⟨44, 4, (.slice oB n4 pB), n4, aB3 s.bl⟩ : Rw)])) := a9.out.turns (dR9 _ kv K1) hd a0;have b9 : Hid (w3.heap[q]? = some (.cells #[(.slice oC n1 pC), (.slice oP n2 pP), (.slice oK n3 pK), (.slice oB n4 pB), .int .i64 s.nx, .int .i64 s.sq] 31)) := (a0 q b4 (fun r hr => HQ.out r (by simp [hr]))).trans b3.out
 have c4 : Hid (Below B w w3) := b8.out.trans bm;have c8 : Hid (FarR ([(⟨9, 1, (.slice oC n1 pC), n1, s.cs.map Value.string⟩ : Rw), (⟨128, 2, (.slice oP n2 pP), n2, aA4 s.ws⟩ : Rw)] ++ aF2 (.slice oK n3 pK) kv ++ [(⟨44, 4, (.slice oB n4 pB), n4, aB3 s.bl⟩ : Rw)]) w w3) := fun j hj a1 => (a0 j (Nat.lt_of_lt_of_le hj b8.out.size) (fun r hr => a1 r (by simp [hr]))).trans (c7.out j hj a1)
 have b6 : B ≤ w3.heap.size := Nat.le_trans a5 bm.size;clear hd bm a0 c2 b3 a9 ;rw [E2.out];have c3 := (c6c b9.out).2.2.2.1;go_wp2_with fail
 refine (cI4 oB n4 pB B s.bl _ (b5.out.own (⟨44, 4, (.slice oB n4 pB), n4, aB3 s.bl⟩ : Rw) (by simp)) b6 K2 b2.1 b2.2).mono ?_;rintro e w4 ⟨rfl, hd, bm, a0⟩
 have c9 : Hid (aB2 w4 B ([(⟨9, 1, (.slice oC n1 pC), n1, (mkT k0 s.cs n1).map Value.string⟩ : Rw), (⟨128, 2, (.slice oP n2 pP), n2, aA4 (aE7 (k0 + n1) s.ws n2)⟩ : Rw)] ++ aF2 (.slice oK n3 pK) (mkKs K1 kv) ++ [(⟨44, 4, (.slice oB n4 pB), n4, aB3 (aP2 K2 s.bl n4)⟩ : Rw)])) := by
  have h : aB2 w3 B (([(⟨9, 1, (.slice oC n1 pC), n1, (mkT k0 s.cs n1).map Value.string⟩ : Rw), (⟨128, 2, (.slice oP n2 pP), n2, aA4 (aE7 (k0 + n1) s.ws n2)⟩ : Rw)] ++ aF2 (.slice oK n3 pK) (mkKs K1 kv)) ++ [(⟨44, 4, (.slice oB n4 pB), n4, aB3 s.bl⟩ : Rw)] ++ []) := by rw [List.append_nil]; exact b5.out
  have h2 := h.turns (xs' := [(⟨44, 4, (.slice oB n4 pB), n4, aB3 (aP2 K2 s.bl n4)⟩ : Rw)]) rfl (aB2.one hd) (fun g hg a1 => a0 g hg (a1 (⟨44, 4, (.slice oB n4 pB), n4, aB3 s.bl⟩ : Rw) (by simp)))
  rw [List.append_nil] at h2
  exact h2
 have d0 : Hid (Below B w w4) := c4.out.trans bm;have d1 : Hid (FarR ([(⟨9, 1, (.slice oC n1 pC), n1, s.cs.map Value.string⟩ : Rw), (⟨128, 2, (.slice oP n2 pP), n2, aA4 s.ws⟩ : Rw)] ++ aF2 (.slice oK n3 pK) kv ++ [(⟨44, 4, (.slice oB n4 pB), n4, aB3 s.bl⟩ : Rw)]) w w4) := fun j hj a1 => (a0 j (Nat.lt_of_lt_of_le hj c4.out.size) (a1 (⟨44, 4, (.slice oB n4 pB), n4, aB3 s.bl⟩ : Rw) (by simp))).trans (c8.out j hj a1)
 clear hd bm a0 c3 b9 b5;rw [E3.out];go_wp2_with fail
 go_ret;exact ⟨rfl, c9.out, d0.out, d1.out⟩
theorem bK7 (s : ShD) (n1 n2 n3 n4 : Nat) (oC oP oK oB : Oa) (pC pP pK pB : Nat) (kv : Ks) (B : Nat) (w : World) (hL1 : s.cs.length = n1) (hL2 : s.ws.length = n2) (hL3 : kv.length = n3) (hL4 : s.bl.length = n4) (k0 K1 K2 K3 : Nat) (HR : Hid (aB2 w B ([(⟨9, 1, (.slice oC n1 pC), n1, (mkT k0 s.cs n1).map Value.string⟩ : Rw), (⟨128, 2, (.slice oP n2 pP), n2, aA4 (aE7 (k0 + n1) s.ws n2)⟩ : Rw)] ++ aF2 (.slice oK n3 pK) (mkKs K1 kv) ++ [(⟨44, 4, (.slice oB n4 pB), n4, aB3 (aP2 K2 s.bl n4)⟩ : Rw)]))) (hk0 : 1 ≤ k0) (hk : k0 + n1 + 2 * n2 + wms kv + 4 * n4 ≤ 99999998) (hn3 : n3 ≤ 2000000) (HK1 : Hid (K1 = k0 + n1 + 2 * n2)) (HK2 : Hid (K2 = K1 + wms kv)) (HK3 : Hid (K3 = K2 + 4 * n4)) :
  Calls prog 40 #[.agg #[(.slice oC n1 pC), (.slice oP n2 pP), (.slice oK n3 pK), (.slice oB n4 pB), .int .i64 s.nx, .int .i64 s.sq], .int .i64 (k0 : Int)] w fun e w' => e = .returned (.int .i64 (K3 : Int)) ∧ Below w.heap.size w w' := by
 have a9 := hid hL1;have b3 := hid hL2;have b4 := hid hL3;have b5 := hid hL4;have b0 : k0 + n1 + 2 * n2 ≤ 99999998 := by omega
 have b1 : 1 ≤ K1 ∧ K1 + wms kv ≤ 99999998 := by have := HK1.out; omega
 have b2 : 1 ≤ K2 ∧ K2 + 4 * n4 ≤ 99999999 := by have := HK1.out; have := HK2.out; omega
 have E1 : Hid (((k0 + n1 + 2 * n2 : Nat) : Int) = (K1 : Int)) := by show _ = _; rw [HK1.out]
 have E2 : Hid (((K1 + wms kv : Nat) : Int) = (K2 : Int)) := by show _ = _; rw [HK2.out]
 have E3 : Hid ((K2 : Int) + 4 * (n4 : Int) = (K3 : Int)) := by show _ = _; rw [HK3.out]; simp
 have p1 : ¬ ((K1 : Int) < 0) := by omega
 have p2 : ¬ ((K2 : Int) < 0) := by omega
 have p3 : ¬ ((K3 : Int) < 0) := by omega
 clear hL1 hL2 hL3 hL4 hk;go_enter func40, ntmps40;go_upto_region 1 with fail
 obtain ⟨q, hq⟩ := exq (w.heap.size);obtain ⟨w1, a0⟩ := exq (w.alloc (.cells #[(.slice oC n1 pC), (.slice oP n2 pP), (.slice oK n3 pK), (.slice oB n4 pB), .int .i64 s.nx, .int .i64 s.sq] 31));rw [← a0, ← hq];have a3 : Hid (w1.heap[q]? = some (.cells #[(.slice oC n1 pC), (.slice oP n2 pP), (.slice oK n3 pK), (.slice oB n4 pB), .int .i64 s.nx, .int .i64 s.sq] 31)) := by show _ = _; rw [a0, hq]; exact heap_alloc_new _ _
 have a7 : Bw w w1 := by rw [a0]; exact (Below.refl _ _).alloc (Nat.le_refl _) _
 have a1 : Hid (Bw w w1) := a7;have a2 : Hid (∀ W, Bw w W → aB2 W B ([(⟨9, 1, (.slice oC n1 pC), n1, (mkT k0 s.cs n1).map Value.string⟩ : Rw), (⟨128, 2, (.slice oP n2 pP), n2, aA4 (aE7 (k0 + n1) s.ws n2)⟩ : Rw)] ++ aF2 (.slice oK n3 pK) (mkKs K1 kv) ++ [(⟨44, 4, (.slice oB n4 pB), n4, aB3 (aP2 K2 s.bl n4)⟩ : Rw)])) := fun W h => HR.out.below h
 have a8 : Hid (∀ W, Below w1.heap.size w1 W → W.heap[q]? = some (.cells #[(.slice oC n1 pC), (.slice oP n2 pP), (.slice oK n3 pK), (.slice oB n4 pB), .int .i64 s.nx, .int .i64 s.sq] 31)) := fun W h => aA6 a3.out h
 clear a0 a7 hq;have c0 := (c6c a3.out).1;have c1 := (c6c a3.out).2.1;go_wp2_with fail
 refine (cH8 n1 (mkT k0 s.cs n1) n2 (aE7 (k0 + n1) s.ws n2) (.slice oC n1 pC) (.slice oP n2 pP) B _ ⟨(a2.out _ a1.out).own (⟨9, 1, (.slice oC n1 pC), n1, (mkT k0 s.cs n1).map Value.string⟩ : Rw) (by simp), (a2.out _ a1.out).own (⟨128, 2, (.slice oP n2 pP), n2, aA4 (aE7 (k0 + n1) s.ws n2)⟩ : Rw) (by simp)⟩ k0 hk0 b0 (fun j hj => dB7 k0 s.cs j (by rw [a9.out]; exact hj) n1 hj) (fun j hj => by rw [cV3 (k0 + n1) s.ws j n2 (by rw [b3.out]; exact Nat.le_refl _) hj]; exact ⟨rfl, rfl⟩)).mono ?_
 rintro e w2 ⟨rfl, bw⟩;have a4 : Hid (Below w1.heap.size w1 w2) := bw;have a5 : Hid (Bw w w2) := a1.out.trans (bw.mono a1.out.size);clear bw c0 c1;rw [E1.out];have c2 : w2.cell? ⟨q, 2, none⟩ = some (.slice oK n3 pK) := (aA1 (a8.out _ a4.out) 2).trans rfl;go_wp2_with fail
 refine (cD5 (.slice oK n3 pK) kv B _ K1 (aB2.sub (a2.out _ a5.out) ((List.sublist_append_right _ _).trans (List.sublist_append_left _ _))) b1.1 b1.2 (by rw [b4.out]; exact hn3)).mono ?_;rintro e w3 ⟨rfl, bw⟩;have b6 : Hid (Below w1.heap.size w1 w3) := a4.out.trans (bw.mono a4.out.size);have a6 : Hid (Bw w w3) := a5.out.trans (bw.mono a5.out.size);clear bw c2;rw [E2.out];have c3 : w3.cell? ⟨q, 3, none⟩ = some (.slice oB n4 pB) := (aA1 (a8.out _ b6.out) 3).trans rfl;go_wp2_with fail
 refine (cI5 oB n4 pB B (aP2 K2 s.bl n4) _ ((a2.out _ a6.out).own (⟨44, 4, (.slice oB n4 pB), n4, aB3 (aP2 K2 s.bl n4)⟩ : Rw) (by simp)) K2 b2.1 b2.2 (fun j hj => by rw [dJ2 K2 s.bl j n4 (by rw [b5.out]; exact Nat.le_refl _) hj]; exact ⟨rfl, rfl, rfl, rfl⟩)).mono ?_
 rintro e w4 ⟨rfl, bw⟩;have b7 : Hid (Bw w w4) := a6.out.trans (bw.mono a6.out.size);clear bw c3;rw [E3.out];go_wp2_with fail
 go_ret;exact ⟨rfl, b7.out⟩
structure dD4 (s : ShD) : Prop where
 c : s.cs.length ≤ 2000000
 w : s.ws.length ≤ 2000000
 k : s.ks.length ≤ 2000000
 b : s.bl.length ≤ 2000000
 ks : ∀ k ∈ s.ks, k.xs.length ≤ 2000000 ∧ k.ys.length ≤ 2000000 ∧ k.fs.length ≤ 2000000
 m : ∀ kv : Ks, kv.map (·.1) = s.ks → 1 + s.cs.length + 2 * s.ws.length + wms kv + 4 * s.bl.length ≤ 99999998
theorem dD4.kl {s : ShD} (h : dD4 s) (kv : Ks) (hk : kv.map (·.1) = s.ks) : kv.length ≤ 2000000 := by
 have := h.k;rw [← hk, List.length_map] at this;exact this
def NoT (R : List Rw) : Prop := ∀ T : TypeId, T ≠ 9 → T ≠ 128 → T ≠ 52 → T ≠ 44 → T ≠ 232 → ∀ r ∈ R, T ≠ r.T
theorem bB6 {W : World} {b : Nat} {R : List Rw} {v1 v2 V VB : Value} {kv : Ks} {s : ShD} (hR : R = aP6 v1 v2 V VB kv s.cs s.ws s.bl) (h : aB2 W b R) (hk : kv.map (·.1) = s.ks) : aP5 W b v1 v2 V VB kv s := ⟨by rw [← hR]; exact h, hk⟩
theorem cI8 (T : TypeId) (h1 : T ≠ 9) (h2 : T ≠ 128) (h3 : T ≠ 52) (h4 : T ≠ 44) (h5 : T ≠ 232) {a b c : Rw} {V : Value} {kv : Ks} (ha : a.T = 9) (hb : b.T = 128) (hc : c.T = 44) : ∀ r ∈ [a, b] ++ aF2 V kv ++ [c], T ≠ r.T := by
 intro r hr;rcases List.mem_append.1 hr with hr | hr
 ·rcases List.mem_append.1 hr with hr | hr
  ·simp only [List.mem_cons, List.not_mem_nil, or_false] at hr
   rcases hr with rfl | rfl
   ·rw [ha]; exact h1
   rw [hb]; exact h2
  rcases cD6 hr with e | e | e <;> rw [e] <;> assumption
 rw [List.mem_singleton.1 hr, hc]; exact h4
theorem cN9 (T : TypeId) (h1 : T ≠ 9) (h2 : T ≠ 128) (h3 : T ≠ 52) (h4 : T ≠ 44) (h5 : T ≠ 232) {v1 v2 V VB : Value} {kv : Ks} {cs : Ts} {ws : List (Int × ByteArray)} {bl : Bs} : ∀ r ∈ aP6 v1 v2 V VB kv cs ws bl, T ≠ r.T := cI8 T h1 h2 h3 h4 h5 rfl rfl rfl
theorem dO3 (T : TypeId) (h1 : T ≠ 9) (h2 : T ≠ 128) (h3 : T ≠ 52) (h4 : T ≠ 44) (h5 : T ≠ 232) {v1 v2 V VB : Value} {n1 n2 n4 : Nat} {c1 c2 c4 : List Value} {kv : Ks} : ∀ r ∈ [(⟨9, 1, v1, n1, c1⟩ : Rw), ⟨128, 2, v2, n2, c2⟩] ++ aF2 V kv ++ [⟨44, 4, VB, n4, c4⟩], T ≠ r.T := cI8 T h1 h2 h3 h4 h5 rfl rfl rfl
theorem dL9 : ∀ kv : Ks, wms kv ≤ 6 * wtK (kv.map (·.1))
 | [] => Nat.le_refl _
 | x :: l => by
  rw [wms, List.map_cons, wtK]
  have := dL9 l
  unfold wm1
  omega
def Src (w : World) (size : Nat) (v : Value) (m : Nat) (news : List Value) : Prop :=
 news.length = m * size ∧ (∀ u ∈ news, u.oneCell' = true) ∧ ((v = .slice none 0 0 ∧ m = 0) ∨ ∃ ad c, v = .slice (some ad) m c ∧ ∀ j u, news[j]? = some u → w.cell? (ad.add j) = some u)
theorem Src.of_owns {w : World} {base : Nat} {t : TypeId} {size n : Nat} {v : Value} {xs : List Value} (h : w.ownsRow base t size v n xs) (h1 : ∀ u ∈ xs, u.oneCell' = true) : Src w size v n xs := by
 obtain ⟨hl, hv⟩ := h;refine ⟨hl, h1, ?_⟩;rcases hv with ⟨rfl, h0⟩ | ⟨g, a0, a2, rfl, hb, hg, hn, hm, a3, a1⟩
 ·exact .inl ⟨rfl, h0⟩
 refine .inr ⟨⟨g, 0, none⟩, a0, rfl, fun j u hj => ?_⟩
 have e : (⟨g, 0, none⟩ : Addr).add j = ⟨g, j, none⟩ := by unfold Addr.add; split <;> simp_all
 rw [e, ← a1, List.getElem?_take] at *;split at hj
 ·simpa [World.cell?, hg] using hj
 cases hj
theorem Src.texts {w : World} {base : Nat} {t : TypeId} {n : Nat} {v : Value} {xs : Ts} (h : w.ownsRow base t 1 v n (xs.map Value.string)) : Src w 1 v n (xs.map Value.string) :=
 Src.of_owns h (fun u hu => by obtain ⟨x, _, rfl⟩ := List.mem_map.1 hu; rfl)
theorem bU9 {P : Program} {w : World} (t ty : TypeId) (base : Nat) (e : TypeId) (i : TypeInfo) (z : Value) (size bytes : Nat) (ht : P.underlying t = some (.slice e)) (hi : P.info? e = some i) (hz : i.zero = some z)
  (hsize : i.size = size) (hby : i.bytes = bytes) (hzs : z.cells.size = size) (hsz : 0 < size)
  (v : Value) (n : Nat) (xs : List Value) (hown : w.ownsRow base e size v n xs) (x : Value) (m : Nat) (news : List Value) (hsrc : Src w size x m news)
  (h63 : n + m ≤ maxLen) (hbytes : (n + m) * bytes ≤ 140737488355328) (hbase : base ≤ w.heap.size) :
  ∃ v' w', (Builtin.append_ #[t, t] ty #[v, x]).run P w = .ok v' w' ∧ w'.ownsRow base e size v' (n + m) (xs ++ news) ∧ w.grownBy w' v.ownBlock := by
 obtain ⟨hl, h1, ⟨rfl, rfl⟩ | ⟨ad, c, rfl, a0⟩⟩ := hsrc
 ·have hn : news = [] := List.length_eq_zero_iff.1 (by omega);subst hn;exact ⟨v, w, run_append_owned_none (P := P) (w := w) base t ty e i size ht hi v n xs hown, by simpa using hown, World.grownBy.refl _ _⟩
 obtain ⟨v', w', hr, h2, h3, _, _⟩ := run_append_own_at (P := P) w base t ty e i z size bytes ht hi hz hsize hby hzs hsz v n xs hown ad m c news hl a0 h1 h63 hbytes hbase;exact ⟨v', w', hr, h2, h3⟩
theorem cD7 {P : Program} {w : World} {o : Oper} {a : Act} {K : Act → World → Prop} {Q : Exit → Act → World → Prop} (s x : Operand) (t : TypeId)
  (ho : o.op = .call { callee := .builtin .append, args := #[s, x], argTypes := #[t, t] })
  (base : Nat) (e : TypeId) (i : TypeInfo) (z : Value) (size bytes : Nat) (ht : P.underlying t = some (.slice e)) (hi : P.info? e = some i) (hz : i.zero = some z)
  (hsize : i.size = size) (hby : i.bytes = bytes) (hzs : z.cells.size = size) (hsz : 0 < size)
  (v : Value) (n : Nat) (xs : List Value) (hs : a.eval s = v) (hown : w.ownsRow base e size v n xs) (y : Value) (m : Nat) (news : List Value) (hx : a.eval x = y) (hsrc : Src w size y m news)
  (h63 : n + m ≤ maxLen) (hbytes : (n + m) * bytes ≤ 140737488355328) (hbase : base ≤ w.heap.size)
  (h : ∀ v' w', w'.ownsRow base e size v' (n + m) (xs ++ news) → w.grownBy w' v.ownBlock → K (a.put o.dst v') w') : Oper.wp P o a w K Q := by
 obtain ⟨v', w', hr, h2, h3⟩ := bU9 (P := P) (w := w) t o.type base e i z size bytes ht hi hz hsize hby hzs hsz v n xs hown y m news hsrc h63 hbytes hbase;unfold Oper.wp execOp;simp only [ho, resolve, invoke, builtin, Sem.run_bind, Sem.run_pure, Result.andThen_ok, List.map_toArray, List.map_cons, List.map_nil, hs, hx, hr]
 exact h v' w' h2 h3
theorem aI7 {P : Program} {w : World} {ops : Array Oper} {o : Oper} {a : Act} {K : Act → World → Prop} {Q : Exit → Act → World → Prop} {E : Prop} (hgd : o.guard = none) (s x : Operand) (t : TypeId)
  (ho : o.op = .call { callee := .builtin .append, args := #[s, x], argTypes := #[t, t] })
  (base : Nat) (e : TypeId) (i : TypeInfo) (z : Value) (size bytes : Nat) (ht : P.underlying t = some (.slice e)) (hi : P.info? e = some i) (hz : i.zero = some z)
  (hsize : i.size = size) (hby : i.bytes = bytes) (hzs : z.cells.size = size) (hsz : 0 < size)
  (v : Value) (n : Nat) (xs : List Value) (hs : a.eval s = v) (hown : w.ownsRow base e size v n xs) (y : Value) (m : Nat) (news : List Value) (hx : a.eval x = y) (hsrc : Src w size y m news)
  (h63 : n + m ≤ maxLen) (hbytes : (n + m) * bytes ≤ 140737488355328) (hbase : base ≤ w.heap.size)
  (h : ∀ v' w', w'.ownsRow base e size v' (n + m) (xs ++ news) → w.grownBy w' v.ownBlock → K (a.put o.dst v') w') :
  if Region.wanted o (yielded ops a.tmps) = true then Oper.wp P o a w K Q else E := by
 have hw : Region.wanted o (yielded ops a.tmps) = true := by simp [Region.wanted, hgd]
 rw [if_pos hw];exact cD7 s x t ho base e i z size bytes ht hi hz hsize hby hzs hsz v n xs hs hown y m news hx hsrc h63 hbytes hbase h
end Go.Proofs.YtiobfnpmidjijaaGreatDoor
