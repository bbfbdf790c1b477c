/- What the proof of FnExactMount leans on: contracts of the program's and the specification's functions, and plain facts (part 10 of 12). -/
import Derived.Test.YtiobfnpmidjijaaGreatDoorFnExactMountI
set_option maxHeartbeats 16000000
set_option maxRecDepth 100000
namespace Go.Proofs.YtiobfnpmidjijaaGreatDoor
open Go.Proofs.Tryz
open Go.RowKit
open Go.Lib hiding intOf
theorem cY8 (a b : Tx) (t : Int) (p : Tx) (o1 : Oa) (n1 c1 : Nat) (xs : Ts) (o2 : Oa) (n2 c2 : Nat) (ys : Ts) (st : Int) (v3 : Value) (n3 base : Nat) (fs : Fs) (d : Tx) (u : Int) (w : World) (ha : a.size ≤ maxLen) (hb : b.size ≤ maxLen) (h1 : aC0 w o1 n1 xs) (h2 : aC0 w o2 n2 ys) (h3 : aB4 w base v3 n3 fs) (hn1 : n1 ≤ 2000000) (hn2 : n2 ≤ 2000000) (hn3 : n3 ≤ 2000000) (hs1 : ∀ i, i < n1 → (aA7 xs i).size ≤ maxLen) (hs2 : ∀ i, i < n2 → (aA7 ys i).size ≤ maxLen) (hs3 : aR0 n3 fs) (hc : aU0 fs) (hp : p.size ≤ maxLen) (hx : d.size ≤ maxLen) (hg : (getV fs aF0).size ≤ 1048576) :
    Calls prog 21 #[.agg #[.int .i64 1, .string a, .string b, .int .i64 t], .agg #[.string p, .slice o1 n1 c1, .slice o2 n2 c2, .int .i64 st, v3, .string d, .int .i64 u]] w fun e w' => aA5 (HitP 1 a b t p xs ys st fs d u) w e w' := by
  obtain ⟨o3, c3, rfl, _⟩ := h3.slice;have c9 : Hid (∀ W, Bw w W → aC0 W o1 n1 xs) := fun W h => h1.below h
  have d0 : Hid (∀ W, Bw w W → aC0 W o2 n2 ys) := fun W h => h2.below h
  have d1 : Hid (∀ W, Bw w W → aB4 W base (.slice o3 n3 c3) n3 fs) := fun W h => h3.below h
  have d2 := hid hs1;have d3 := hid hs2;have d4 := hid hs3;have HC : Hid (aU0 fs) := hc;have d5 := hid hp;have HX := hid hx;have HG := hid hg;have d6 := hid ha;have d7 := hid hb;clear h1 h2 h3 hs1 hs2 hs3 hc hp hx hg ha hb;have d8 : ∀ W : World, (nilAhead 157 218 (.agg #[.string a]) "loop.example/g00239/impl.bans").run prog W = .ok (some false) W := fun _ => by kernel_rfl
  have d9 : ∀ W : World, (method 157 218 (.agg #[.string a]) "loop.example/g00239/impl.bans").run prog W = .ok (392, .agg #[.string a]) W := fun _ => by kernel_rfl
  have K0 := jnil w;go_enter func21, ntmps21;go_upto_region 1 with fail
  obtain ⟨b9, b1⟩ := exq (w.heap.size);obtain ⟨w1, b4⟩ := exq (w.alloc (.cells #[.int .i64 1, .string a, .string b, .int .i64 t] 44));have c0 := b1.symm;rw [← b4]; try rw [← b1];have hs1 := hsa b4 c0;have bw := bal b4;have K1 := ja K0 b4 c0;clear bw b4 c0 K0;obtain ⟨c4, b2⟩ := exq (b9 + 1);obtain ⟨w2, b5⟩ := exq (w1.alloc (.cells #[.string p, .slice o1 n1 c1, .slice o2 n2 c2, .int .i64 st, .slice o3 n3 c3, .string d, .int .i64 u] 36));have c5 : w1.heap.size = c4 := by rw [b2]; exact hs1
  rw [← b5]; try rw [← b2];have hs2 := hsa b5 c5;have bw := bal b5;have K2 := ja K1 b5 c5;clear bw b5 c5 K1;clear hs2 b2 hs1 b1;go_upto_region 1 with fail
  refine wp_region_held_drew (S := fun W => W.heap[b9]? = some (.cells #[.int .i64 1, .string a, .string b, .int .i64 t] 44) ∧ W.heap[c4]? = some (.cells #[.string p, .slice o1 n1 c1, .slice o2 n2 c2, .int .i64 st, .slice o3 n3 c3, .string d, .int .i64 u] 36)) (by kernel_rfl) ⟨(jb K2 1 rfl), (jb K2 0 rfl)⟩ (fun _ => ?_)
  obtain ⟨w3, hX⟩ := exq w2.drew;have bw := bdr hX;rw [← hX];have K3 := jw K2 bw;have c7 := And.intro (jb K3 1 rfl) (jb K3 0 rfl);clear bw hX K2;refine tkL 0 (.agg #[.int .i64 1, .string a, .string b, .int .i64 t]) 5 rfl rfl (Or.inl ⟨by rfl, by intro W hW; obtain ⟨a4, a5⟩ := hW; have y0 := c4c a4; go_simp⟩) c7 ?_;go_frame;refine rd1 1 rfl (fun K hK => ?_)
  go_simp;refine (aP0 1 a b t _ d6.out d7.out).mono ?_;rintro e w4 ⟨ub, rfl, a8, bw⟩;have K4 := jw K3 bw;clear bw K3;have a1 := And.intro (jb K4 1 rfl) (jb K4 0 rfl);refine hK.out _ _ a1 (fun _ => ?_)
  clear hK K c7;refine tkP 2 (.bool ub) 7 rfl rfl a1 ?_;go_frame;cases ub
  ·have b3 : Hid (¬ (BanP 1 a b t)) := fun h => nomatch a8.2 h
   clear a8;refine tkN 3 8 rfl rfl a1 (tkN 4 9 rfl rfl a1 (tkP 5 (.bool false) 10 rfl rfl a1 ?_));go_frame;refine tkP 6 (.bool false) 11 rfl rfl a1 (tkN 7 12 rfl rfl a1 (tkN 8 13 rfl rfl a1 ?_));go_frame;refine tkN 9 14 rfl rfl a1 (tkN 10 15 rfl rfl a1 (tkN 11 16 rfl rfl a1 ?_));go_frame;refine tkP 12 (.bool false) 17 rfl rfl a1 (tkP 13 (.bool false) 18 rfl rfl a1 (tkN 14 19 rfl rfl a1 ?_));go_frame;refine tkN 15 20 rfl rfl a1 (tkN 16 21 rfl rfl a1 (tkN 17 22 rfl rfl a1 ?_));go_frame;refine tkP 18 (.bool false) 23 rfl rfl a1 (tkP 19 (.bool false) 4 rfl rfl a1 ?_);go_frame;clear a1;refine wdn ?_;go_wp2_with fail
   go_ret;refine ⟨false, rfl, ?_, K4.hb⟩;have a3 := b3.out;refine ⟨fun h => (by cases h), fun h => ?_⟩
   exfalso
   obtain ⟨q1, q2, q3, q4⟩ := h
   first
     | exact a3 q1
     | exact a6 q2
     | exact a7 q3
     | (rcases q4 with ⟨e1, e2⟩ | ⟨e1, e2⟩ | ⟨e1, e2, e3⟩
        all_goals first
          | omega
          | exact a2 e2
          | exact a2 ⟨e2, e3⟩)
  have b3 : Hid (BanP 1 a b t) := a8.1 rfl;clear a8;refine tkL 3 (.agg #[.string p, .slice o1 n1 c1, .slice o2 n2 c2, .int .i64 st, .slice o3 n3 c3, .string d, .int .i64 u]) 8 rfl rfl (Or.inl ⟨by rfl, by intro W hW; obtain ⟨a4, a5⟩ := hW; have y0 := c7c a5; go_simp⟩) a1 ?_;go_frame;refine rd1 4 rfl (fun K hK => ?_)
  go_simp;refine (aS0 p _ n1 _ xs _ n2 _ ys st _ n3 base fs d u _ (c9.out _ K4.hb) (d0.out _ K4.hb) (d1.out _ K4.hb) (by omega) (by omega) (by omega) d2.out d3.out d4.out HC.out d5.out HX.out HG.out).mono ?_;rintro e w5 ⟨uo, rfl, a9, bw⟩;have K5 := jw K4 bw;clear bw K4;have a0 := And.intro (jb K5 1 rfl) (jb K5 0 rfl);refine hK.out _ _ a0 (fun _ => ?_)
  clear hK K a1;refine tkP 5 (.bool uo) 10 rfl rfl a0 (tkP 6 (.bool uo) 11 rfl rfl a0 ?_);go_frame;cases uo
  ·have b6 : Hid (¬ (ObjP p xs ys st fs d u)) := fun h => nomatch a9.2 h
   clear a9;refine tkN 7 12 rfl rfl a0 (tkN 8 13 rfl rfl a0 (tkN 9 14 rfl rfl a0 ?_));go_frame;refine tkN 10 15 rfl rfl a0 (tkN 11 16 rfl rfl a0 (tkP 12 (.bool false) 17 rfl rfl a0 ?_));go_frame;refine tkP 13 (.bool false) 18 rfl rfl a0 (tkN 14 19 rfl rfl a0 (tkN 15 20 rfl rfl a0 ?_));go_frame;refine tkN 16 21 rfl rfl a0 (tkN 17 22 rfl rfl a0 (tkP 18 (.bool false) 23 rfl rfl a0 ?_));go_frame;refine tkP 19 (.bool false) 4 rfl rfl a0 ?_;go_frame;clear a0;refine wdn ?_;go_wp2_with fail
   go_ret;refine ⟨false, rfl, ?_, K5.hb⟩;have a3 := b3.out;have a6 := b6.out;refine ⟨fun h => (by cases h), fun h => ?_⟩
   exfalso
   obtain ⟨q1, q2, q3, q4⟩ := h
   first
     | exact a3 q1
     | exact a6 q2
     | exact a7 q3
     | (rcases q4 with ⟨e1, e2⟩ | ⟨e1, e2⟩ | ⟨e1, e2, e3⟩
        all_goals first
          | omega
          | exact a2 e2
          | exact a2 ⟨e2, e3⟩)
  have b6 : Hid (ObjP p xs ys st fs d u) := a9.1 rfl;clear a9;refine tkP 7 (.pointer (some ⟨c4, 6, none⟩)) 12 rfl rfl a0 ?_;go_frame;refine tkL 8 (.int .i64 u) 13 rfl rfl (Or.inl ⟨by rfl, by intro W hW; obtain ⟨a4, a5⟩ := hW; have y6 := c7c a5; go_simp⟩) a0 ?_;go_frame;refine tkP 9 (.pointer (some ⟨b9, 3, none⟩)) 14 rfl rfl a0 ?_;go_frame;refine tkL 10 (.int .i64 t) 15 rfl rfl (Or.inl ⟨by rfl, by intro W hW; obtain ⟨a4, a5⟩ := hW; have y3 := c4c a4; go_simp⟩) a0 ?_;go_frame;by_cases hc1 : u ≤ t
  rotate_left
  ·have b7 := hid hc1;refine tkP 11 (.bool false) 16 rfl rfl a0 (tkP 12 (.bool false) 17 rfl rfl a0 (tkP 13 (.bool false) 18 rfl rfl a0 ?_));go_frame;refine tkN 14 19 rfl rfl a0 (tkN 15 20 rfl rfl a0 (tkN 16 21 rfl rfl a0 ?_));go_frame;refine tkN 17 22 rfl rfl a0 (tkP 18 (.bool false) 23 rfl rfl a0 (tkP 19 (.bool false) 4 rfl rfl a0 ?_));go_frame;clear a0;refine wdn ?_;go_wp2_with fail
   go_ret;refine ⟨false, rfl, ?_, K5.hb⟩;have a3 := b3.out;have a6 := b6.out;have a7 := b7.out;refine ⟨fun h => (by cases h), fun h => ?_⟩
   exfalso
   obtain ⟨q1, q2, q3, q4⟩ := h
   first
     | exact a3 q1
     | exact a6 q2
     | exact a7 q3
     | (rcases q4 with ⟨e1, e2⟩ | ⟨e1, e2⟩ | ⟨e1, e2, e3⟩
        all_goals first
          | omega
          | exact a2 e2
          | exact a2 ⟨e2, e3⟩)
  have b7 : Hid (u ≤ t) := hc1;refine tkP 11 (.bool true) 16 rfl rfl a0 (tkP 12 (.bool true) 17 rfl rfl a0 (tkP 13 (.bool true) 18 rfl rfl a0 ?_));go_frame;refine tkL 14 (.agg #[.int .i64 1, .string a, .string b, .int .i64 t]) 19 rfl rfl (Or.inl ⟨by rfl, by intro W hW; obtain ⟨a4, a5⟩ := hW; have y0 := c4c a4; go_simp⟩) a0 ?_;go_frame;refine tkL 16 (.agg #[.string p, .slice o1 n1 c1, .slice o2 n2 c2, .int .i64 st, .slice o3 n3 c3, .string d, .int .i64 u]) 21 rfl rfl (Or.inl ⟨by rfl, by intro W hW; obtain ⟨a4, a5⟩ := hW; have y0 := c7c a5; go_simp⟩) a0 ?_;go_frame;refine rd1 15 rfl (fun K hK => ?_)
  go_simp;refine (cE8 a b t _).mono ?_;rintro e w6 ⟨rfl, bw⟩;have K6 := jw K5 bw;clear bw K5;have c8 := And.intro (jb K6 1 rfl) (jb K6 0 rfl);refine hK.out _ _ c8 (fun _ => ?_)
  clear hK K a0;refine rd1 17 rfl (fun K hK => ?_)
  go_simp;refine (dS3 a p _ _ st _ d u _).mono ?_;rintro e w7 ⟨uh, rfl, b0, bw⟩;have K7 := jw K6 bw;clear bw K6;have b8 := And.intro (jb K7 1 rfl) (jb K7 0 rfl);refine hK.out _ _ b8 (fun _ => ?_)
  clear hK K c8;refine tkP 18 (.bool uh) 23 rfl rfl b8 (tkP 19 (.bool uh) 4 rfl rfl b8 ?_);go_frame;clear b8;refine wdn ?_;cases uh
  rotate_left
  ·have c6 : Hid (p = a) := b0.1 rfl;clear b0;go_wp2_with fail
   go_ret;refine ⟨true, rfl, ?_, K7.hb⟩;have a3 := b3.out;have a6 := b6.out;have a7 := b7.out;have a2 := c6.out;exact ⟨fun _ => ⟨a3, a6, a7, .inl ⟨rfl, a2⟩⟩, fun _ => rfl⟩
  have c6 : Hid (¬ (p = a)) := fun h => nomatch b0.2 h
  clear b0;go_wp2_with fail
  go_ret;refine ⟨false, rfl, ?_, K7.hb⟩;have a3 := b3.out;have a6 := b6.out;have a7 := b7.out;have a2 := c6.out;refine ⟨fun h => (by cases h), fun h => ?_⟩
  exfalso
  obtain ⟨q1, q2, q3, q4⟩ := h
  first
    | exact a3 q1
    | exact a6 q2
    | exact a7 q3
    | (rcases q4 with ⟨e1, e2⟩ | ⟨e1, e2⟩ | ⟨e1, e2, e3⟩
       all_goals first
         | omega
         | exact a2 e2
         | exact a2 ⟨e2, e3⟩)
theorem cY9 (a b : Tx) (t : Int) (p : Tx) (o1 : Oa) (n1 c1 : Nat) (xs : Ts) (o2 : Oa) (n2 c2 : Nat) (ys : Ts) (st : Int) (v3 : Value) (n3 base : Nat) (fs : Fs) (d : Tx) (u : Int) (w : World) (ha : a.size ≤ maxLen) (hb : b.size ≤ maxLen) (h1 : aC0 w o1 n1 xs) (h2 : aC0 w o2 n2 ys) (h3 : aB4 w base v3 n3 fs) (hn1 : n1 ≤ 2000000) (hn2 : n2 ≤ 2000000) (hn3 : n3 ≤ 2000000) (hs1 : ∀ i, i < n1 → (aA7 xs i).size ≤ maxLen) (hs2 : ∀ i, i < n2 → (aA7 ys i).size ≤ maxLen) (hs3 : aR0 n3 fs) (hc : aU0 fs) (hp : p.size ≤ maxLen) (hx : d.size ≤ maxLen) (hg : (getV fs aF0).size ≤ 1048576) :
    Calls prog 21 #[.agg #[.int .i64 2, .string a, .string b, .int .i64 t], .agg #[.string p, .slice o1 n1 c1, .slice o2 n2 c2, .int .i64 st, v3, .string d, .int .i64 u]] w fun e w' => aA5 (HitP 2 a b t p xs ys st fs d u) w e w' := by
  obtain ⟨o3, c3, rfl, _⟩ := h3.slice;have d0 : Hid (∀ W, Bw w W → aC0 W o1 n1 xs) := fun W h => h1.below h
  have d1 : Hid (∀ W, Bw w W → aC0 W o2 n2 ys) := fun W h => h2.below h
  have d2 : Hid (∀ W, Bw w W → aB4 W base (.slice o3 n3 c3) n3 fs) := fun W h => h3.below h
  have d3 := hid hs1;have d4 := hid hs2;have d5 := hid hs3;have HC : Hid (aU0 fs) := hc;have c7 := hid hp;have HX := hid hx;have HG := hid hg;have d6 := hid ha;have d7 := hid hb;clear h1 h2 h3 hs1 hs2 hs3 hc hp hx hg ha hb;have d8 : ∀ W : World, (nilAhead 157 220 (.agg #[.string a]) "loop.example/g00239/impl.bans").run prog W = .ok (some false) W := fun _ => by kernel_rfl
  have d9 : ∀ W : World, (method 157 220 (.agg #[.string a]) "loop.example/g00239/impl.bans").run prog W = .ok (394, .agg #[.string a]) W := fun _ => by kernel_rfl
  have K0 := jnil w;go_enter func21, ntmps21;go_upto_region 1 with fail
  obtain ⟨b9, b1⟩ := exq (w.heap.size);obtain ⟨w1, b4⟩ := exq (w.alloc (.cells #[.int .i64 2, .string a, .string b, .int .i64 t] 44));have c0 := b1.symm;rw [← b4]; try rw [← b1];have hs1 := hsa b4 c0;have bw := bal b4;have K1 := ja K0 b4 c0;clear bw b4 c0 K0;obtain ⟨c4, b2⟩ := exq (b9 + 1);obtain ⟨w2, b5⟩ := exq (w1.alloc (.cells #[.string p, .slice o1 n1 c1, .slice o2 n2 c2, .int .i64 st, .slice o3 n3 c3, .string d, .int .i64 u] 36));have c5 : w1.heap.size = c4 := by rw [b2]; exact hs1
  rw [← b5]; try rw [← b2];have hs2 := hsa b5 c5;have bw := bal b5;have K2 := ja K1 b5 c5;clear bw b5 c5 K1;clear hs2 b2 hs1 b1;go_upto_region 1 with fail
  refine wp_region_held_drew (S := fun W => W.heap[b9]? = some (.cells #[.int .i64 2, .string a, .string b, .int .i64 t] 44) ∧ W.heap[c4]? = some (.cells #[.string p, .slice o1 n1 c1, .slice o2 n2 c2, .int .i64 st, .slice o3 n3 c3, .string d, .int .i64 u] 36)) (by kernel_rfl) ⟨(jb K2 1 rfl), (jb K2 0 rfl)⟩ (fun _ => ?_)
  obtain ⟨w3, hX⟩ := exq w2.drew;have bw := bdr hX;rw [← hX];have K3 := jw K2 bw;have c8 := And.intro (jb K3 1 rfl) (jb K3 0 rfl);clear bw hX K2;refine tkL 0 (.agg #[.int .i64 2, .string a, .string b, .int .i64 t]) 5 rfl rfl (Or.inl ⟨by rfl, by intro W hW; obtain ⟨a4, a5⟩ := hW; have y0 := c4c a4; go_simp⟩) c8 ?_;go_frame;refine rd1 1 rfl (fun K hK => ?_)
  go_simp;refine (aP0 2 a b t _ d6.out d7.out).mono ?_;rintro e w4 ⟨ub, rfl, a8, bw⟩;have K4 := jw K3 bw;clear bw K3;have a1 := And.intro (jb K4 1 rfl) (jb K4 0 rfl);refine hK.out _ _ a1 (fun _ => ?_)
  clear hK K c8;refine tkP 2 (.bool ub) 7 rfl rfl a1 ?_;go_frame;cases ub
  ·have b3 : Hid (¬ (BanP 2 a b t)) := fun h => nomatch a8.2 h
   clear a8;refine tkN 3 8 rfl rfl a1 (tkN 4 9 rfl rfl a1 (tkP 5 (.bool false) 10 rfl rfl a1 ?_));go_frame;refine tkP 6 (.bool false) 11 rfl rfl a1 (tkN 7 12 rfl rfl a1 (tkN 8 13 rfl rfl a1 ?_));go_frame;refine tkN 9 14 rfl rfl a1 (tkN 10 15 rfl rfl a1 (tkN 11 16 rfl rfl a1 ?_));go_frame;refine tkP 12 (.bool false) 17 rfl rfl a1 (tkP 13 (.bool false) 18 rfl rfl a1 (tkN 14 19 rfl rfl a1 ?_));go_frame;refine tkN 15 20 rfl rfl a1 (tkN 16 21 rfl rfl a1 (tkN 17 22 rfl rfl a1 ?_));go_frame;refine tkP 18 (.bool false) 23 rfl rfl a1 (tkP 19 (.bool false) 4 rfl rfl a1 ?_);go_frame;clear a1;refine wdn ?_;go_wp2_with fail
   go_ret;refine ⟨false, rfl, ?_, K4.hb⟩;have a3 := b3.out;refine ⟨fun h => (by cases h), fun h => ?_⟩
   exfalso
   obtain ⟨q1, q2, q3, q4⟩ := h
   first
     | exact a3 q1
     | exact a6 q2
     | exact a7 q3
     | (rcases q4 with ⟨e1, e2⟩ | ⟨e1, e2⟩ | ⟨e1, e2, e3⟩
        all_goals first
          | omega
          | exact a2 e2
          | exact a2 ⟨e2, e3⟩)
  have b3 : Hid (BanP 2 a b t) := a8.1 rfl;clear a8;refine tkL 3 (.agg #[.string p, .slice o1 n1 c1, .slice o2 n2 c2, .int .i64 st, .slice o3 n3 c3, .string d, .int .i64 u]) 8 rfl rfl (Or.inl ⟨by rfl, by intro W hW; obtain ⟨a4, a5⟩ := hW; have y0 := c7c a5; go_simp⟩) a1 ?_;go_frame;refine rd1 4 rfl (fun K hK => ?_)
  go_simp;refine (aS0 p _ n1 _ xs _ n2 _ ys st _ n3 base fs d u _ (d0.out _ K4.hb) (d1.out _ K4.hb) (d2.out _ K4.hb) (by omega) (by omega) (by omega) d3.out d4.out d5.out HC.out c7.out HX.out HG.out).mono ?_;rintro e w5 ⟨uo, rfl, a9, bw⟩;have K5 := jw K4 bw;clear bw K4;have a0 := And.intro (jb K5 1 rfl) (jb K5 0 rfl);refine hK.out _ _ a0 (fun _ => ?_)
  clear hK K a1;refine tkP 5 (.bool uo) 10 rfl rfl a0 (tkP 6 (.bool uo) 11 rfl rfl a0 ?_);go_frame;cases uo
  ·have b6 : Hid (¬ (ObjP p xs ys st fs d u)) := fun h => nomatch a9.2 h
   clear a9;refine tkN 7 12 rfl rfl a0 (tkN 8 13 rfl rfl a0 (tkN 9 14 rfl rfl a0 ?_));go_frame;refine tkN 10 15 rfl rfl a0 (tkN 11 16 rfl rfl a0 (tkP 12 (.bool false) 17 rfl rfl a0 ?_));go_frame;refine tkP 13 (.bool false) 18 rfl rfl a0 (tkN 14 19 rfl rfl a0 (tkN 15 20 rfl rfl a0 ?_));go_frame;refine tkN 16 21 rfl rfl a0 (tkN 17 22 rfl rfl a0 (tkP 18 (.bool false) 23 rfl rfl a0 ?_));go_frame;refine tkP 19 (.bool false) 4 rfl rfl a0 ?_;go_frame;clear a0;refine wdn ?_;go_wp2_with fail
   go_ret;refine ⟨false, rfl, ?_, K5.hb⟩;have a3 := b3.out;have a6 := b6.out;refine ⟨fun h => (by cases h), fun h => ?_⟩
   exfalso
   obtain ⟨q1, q2, q3, q4⟩ := h
   first
     | exact a3 q1
     | exact a6 q2
     | exact a7 q3
     | (rcases q4 with ⟨e1, e2⟩ | ⟨e1, e2⟩ | ⟨e1, e2, e3⟩
        all_goals first
          | omega
          | exact a2 e2
          | exact a2 ⟨e2, e3⟩)
  have b6 : Hid (ObjP p xs ys st fs d u) := a9.1 rfl;clear a9;refine tkP 7 (.pointer (some ⟨c4, 6, none⟩)) 12 rfl rfl a0 ?_;go_frame;refine tkL 8 (.int .i64 u) 13 rfl rfl (Or.inl ⟨by rfl, by intro W hW; obtain ⟨a4, a5⟩ := hW; have y6 := c7c a5; go_simp⟩) a0 ?_;go_frame;refine tkP 9 (.pointer (some ⟨b9, 3, none⟩)) 14 rfl rfl a0 ?_;go_frame;refine tkL 10 (.int .i64 t) 15 rfl rfl (Or.inl ⟨by rfl, by intro W hW; obtain ⟨a4, a5⟩ := hW; have y3 := c4c a4; go_simp⟩) a0 ?_;go_frame;by_cases hc1 : u ≤ t
  rotate_left
  ·have b7 := hid hc1;refine tkP 11 (.bool false) 16 rfl rfl a0 (tkP 12 (.bool false) 17 rfl rfl a0 (tkP 13 (.bool false) 18 rfl rfl a0 ?_));go_frame;refine tkN 14 19 rfl rfl a0 (tkN 15 20 rfl rfl a0 (tkN 16 21 rfl rfl a0 ?_));go_frame;refine tkN 17 22 rfl rfl a0 (tkP 18 (.bool false) 23 rfl rfl a0 (tkP 19 (.bool false) 4 rfl rfl a0 ?_));go_frame;clear a0;refine wdn ?_;go_wp2_with fail
   go_ret;refine ⟨false, rfl, ?_, K5.hb⟩;have a3 := b3.out;have a6 := b6.out;have a7 := b7.out;refine ⟨fun h => (by cases h), fun h => ?_⟩
   exfalso
   obtain ⟨q1, q2, q3, q4⟩ := h
   first
     | exact a3 q1
     | exact a6 q2
     | exact a7 q3
     | (rcases q4 with ⟨e1, e2⟩ | ⟨e1, e2⟩ | ⟨e1, e2, e3⟩
        all_goals first
          | omega
          | exact a2 e2
          | exact a2 ⟨e2, e3⟩)
  have b7 : Hid (u ≤ t) := hc1;refine tkP 11 (.bool true) 16 rfl rfl a0 (tkP 12 (.bool true) 17 rfl rfl a0 (tkP 13 (.bool true) 18 rfl rfl a0 ?_));go_frame;refine tkL 14 (.agg #[.int .i64 2, .string a, .string b, .int .i64 t]) 19 rfl rfl (Or.inl ⟨by rfl, by intro W hW; obtain ⟨a4, a5⟩ := hW; have y0 := c4c a4; go_simp⟩) a0 ?_;go_frame;refine tkL 16 (.agg #[.string p, .slice o1 n1 c1, .slice o2 n2 c2, .int .i64 st, .slice o3 n3 c3, .string d, .int .i64 u]) 21 rfl rfl (Or.inl ⟨by rfl, by intro W hW; obtain ⟨a4, a5⟩ := hW; have y0 := c7c a5; go_simp⟩) a0 ?_;go_frame;refine rd1 15 rfl (fun K hK => ?_)
  go_simp;refine (cE9 a b t _).mono ?_;rintro e w6 ⟨rfl, bw⟩;have K6 := jw K5 bw;clear bw K5;have c9 := And.intro (jb K6 1 rfl) (jb K6 0 rfl);refine hK.out _ _ c9 (fun _ => ?_)
  clear hK K a0;refine rd1 17 rfl (fun K hK => ?_)
  go_simp;refine (dS4 a p _ _ st _ d u _ c7.out).mono ?_;rintro e w7 ⟨uh, rfl, b0, bw⟩;have K7 := jw K6 bw;clear bw K6;have b8 := And.intro (jb K7 1 rfl) (jb K7 0 rfl);refine hK.out _ _ b8 (fun _ => ?_)
  clear hK K c9;refine tkP 18 (.bool uh) 23 rfl rfl b8 (tkP 19 (.bool uh) 4 rfl rfl b8 ?_);go_frame;clear b8;refine wdn ?_;cases uh
  rotate_left
  ·have c6 : Hid (bY2 a p) := b0.1 rfl;clear b0;go_wp2_with fail
   go_ret;refine ⟨true, rfl, ?_, K7.hb⟩;have a3 := b3.out;have a6 := b6.out;have a7 := b7.out;have a2 := c6.out;exact ⟨fun _ => ⟨a3, a6, a7, .inr (.inl ⟨rfl, a2⟩)⟩, fun _ => rfl⟩
  have c6 : Hid (¬ (bY2 a p)) := fun h => nomatch b0.2 h
  clear b0;go_wp2_with fail
  go_ret;refine ⟨false, rfl, ?_, K7.hb⟩;have a3 := b3.out;have a6 := b6.out;have a7 := b7.out;have a2 := c6.out;refine ⟨fun h => (by cases h), fun h => ?_⟩
  exfalso
  obtain ⟨q1, q2, q3, q4⟩ := h
  first
    | exact a3 q1
    | exact a6 q2
    | exact a7 q3
    | (rcases q4 with ⟨e1, e2⟩ | ⟨e1, e2⟩ | ⟨e1, e2, e3⟩
       all_goals first
         | omega
         | exact a2 e2
         | exact a2 ⟨e2, e3⟩)
theorem cZ0 (a b : Tx) (t : Int) (p : Tx) (o1 : Oa) (n1 c1 : Nat) (xs : Ts) (o2 : Oa) (n2 c2 : Nat) (ys : Ts) (st : Int) (v3 : Value) (n3 base : Nat) (fs : Fs) (d : Tx) (u : Int) (w : World) (ha : a.size ≤ maxLen) (hb : b.size ≤ maxLen) (h1 : aC0 w o1 n1 xs) (h2 : aC0 w o2 n2 ys) (h3 : aB4 w base v3 n3 fs) (hn1 : n1 ≤ 2000000) (hn2 : n2 ≤ 2000000) (hn3 : n3 ≤ 2000000) (hs1 : ∀ i, i < n1 → (aA7 xs i).size ≤ maxLen) (hs2 : ∀ i, i < n2 → (aA7 ys i).size ≤ maxLen) (hs3 : aR0 n3 fs) (hc : aU0 fs) (hp : p.size ≤ maxLen) (hx : d.size ≤ maxLen) (hg : (getV fs aF0).size ≤ 1048576) :
    Calls prog 21 #[.agg #[.int .i64 3, .string a, .string b, .int .i64 t], .agg #[.string p, .slice o1 n1 c1, .slice o2 n2 c2, .int .i64 st, v3, .string d, .int .i64 u]] w fun e w' => aA5 (HitP 3 a b t p xs ys st fs d u) w e w' := by
  obtain ⟨o3, c3, rfl, _⟩ := h3.slice;have d0 : Hid (∀ W, Bw w W → aC0 W o1 n1 xs) := fun W h => h1.below h
  have d1 : Hid (∀ W, Bw w W → aC0 W o2 n2 ys) := fun W h => h2.below h
  have c7 : Hid (∀ W, Bw w W → aB4 W base (.slice o3 n3 c3) n3 fs) := fun W h => h3.below h
  have d2 := hid hs1;have d3 := hid hs2;have d4 := hid hs3;have HC : Hid (aU0 fs) := hc;have d5 := hid hp;have HX := hid hx;have HG := hid hg;have d6 := hid ha;have d7 := hid hb;clear h1 h2 h3 hs1 hs2 hs3 hc hp hx hg ha hb;have d8 : ∀ W : World, (nilAhead 157 222 (.agg #[.string a, .string b]) "loop.example/g00239/impl.bans").run prog W = .ok (some false) W := fun _ => by kernel_rfl
  have d9 : ∀ W : World, (method 157 222 (.agg #[.string a, .string b]) "loop.example/g00239/impl.bans").run prog W = .ok (396, .agg #[.string a, .string b]) W := fun _ => by kernel_rfl
  have K0 := jnil w;go_enter func21, ntmps21;go_upto_region 1 with fail
  obtain ⟨b9, b1⟩ := exq (w.heap.size);obtain ⟨w1, b4⟩ := exq (w.alloc (.cells #[.int .i64 3, .string a, .string b, .int .i64 t] 44));have c0 := b1.symm;rw [← b4]; try rw [← b1];have hs1 := hsa b4 c0;have bw := bal b4;have K1 := ja K0 b4 c0;clear bw b4 c0 K0;obtain ⟨c4, b2⟩ := exq (b9 + 1);obtain ⟨w2, b5⟩ := exq (w1.alloc (.cells #[.string p, .slice o1 n1 c1, .slice o2 n2 c2, .int .i64 st, .slice o3 n3 c3, .string d, .int .i64 u] 36));have c5 : w1.heap.size = c4 := by rw [b2]; exact hs1
  rw [← b5]; try rw [← b2];have hs2 := hsa b5 c5;have bw := bal b5;have K2 := ja K1 b5 c5;clear bw b5 c5 K1;clear hs2 b2 hs1 b1;go_upto_region 1 with fail
  refine wp_region_held_drew (S := fun W => W.heap[b9]? = some (.cells #[.int .i64 3, .string a, .string b, .int .i64 t] 44) ∧ W.heap[c4]? = some (.cells #[.string p, .slice o1 n1 c1, .slice o2 n2 c2, .int .i64 st, .slice o3 n3 c3, .string d, .int .i64 u] 36)) (by kernel_rfl) ⟨(jb K2 1 rfl), (jb K2 0 rfl)⟩ (fun _ => ?_)
  obtain ⟨w3, hX⟩ := exq w2.drew;have bw := bdr hX;rw [← hX];have K3 := jw K2 bw;have c8 := And.intro (jb K3 1 rfl) (jb K3 0 rfl);clear bw hX K2;refine tkL 0 (.agg #[.int .i64 3, .string a, .string b, .int .i64 t]) 5 rfl rfl (Or.inl ⟨by rfl, by intro W hW; obtain ⟨a4, a5⟩ := hW; have y0 := c4c a4; go_simp⟩) c8 ?_;go_frame;refine rd1 1 rfl (fun K hK => ?_)
  go_simp;refine (aP0 3 a b t _ d6.out d7.out).mono ?_;rintro e w4 ⟨ub, rfl, a8, bw⟩;have K4 := jw K3 bw;clear bw K3;have a2 := And.intro (jb K4 1 rfl) (jb K4 0 rfl);refine hK.out _ _ a2 (fun _ => ?_)
  clear hK K c8;refine tkP 2 (.bool ub) 7 rfl rfl a2 ?_;go_frame;cases ub
  ·have b3 : Hid (¬ (BanP 3 a b t)) := fun h => nomatch a8.2 h
   clear a8;refine tkN 3 8 rfl rfl a2 (tkN 4 9 rfl rfl a2 (tkP 5 (.bool false) 10 rfl rfl a2 ?_));go_frame;refine tkP 6 (.bool false) 11 rfl rfl a2 (tkN 7 12 rfl rfl a2 (tkN 8 13 rfl rfl a2 ?_));go_frame;refine tkN 9 14 rfl rfl a2 (tkN 10 15 rfl rfl a2 (tkN 11 16 rfl rfl a2 ?_));go_frame;refine tkP 12 (.bool false) 17 rfl rfl a2 (tkP 13 (.bool false) 18 rfl rfl a2 (tkN 14 19 rfl rfl a2 ?_));go_frame;refine tkN 15 20 rfl rfl a2 (tkN 16 21 rfl rfl a2 (tkN 17 22 rfl rfl a2 ?_));go_frame;refine tkP 18 (.bool false) 23 rfl rfl a2 (tkP 19 (.bool false) 4 rfl rfl a2 ?_);go_frame;clear a2;refine wdn ?_;go_wp2_with fail
   go_ret;refine ⟨false, rfl, ?_, K4.hb⟩;have a3 := b3.out;refine ⟨fun h => (by cases h), fun h => ?_⟩
   exfalso
   obtain ⟨q1, q2, q3, q4⟩ := h
   first
     | exact a3 q1
     | exact a6 q2
     | exact a7 q3
     | (rcases q4 with ⟨e1, e2⟩ | ⟨e1, e2⟩ | ⟨e1, e2, e3⟩
        all_goals first
          | omega
          | exact a1 e2
          | exact a1 ⟨e2, e3⟩)
  have b3 : Hid (BanP 3 a b t) := a8.1 rfl;clear a8;refine tkL 3 (.agg #[.string p, .slice o1 n1 c1, .slice o2 n2 c2, .int .i64 st, .slice o3 n3 c3, .string d, .int .i64 u]) 8 rfl rfl (Or.inl ⟨by rfl, by intro W hW; obtain ⟨a4, a5⟩ := hW; have y0 := c7c a5; go_simp⟩) a2 ?_;go_frame;refine rd1 4 rfl (fun K hK => ?_)
  go_simp;refine (aS0 p _ n1 _ xs _ n2 _ ys st _ n3 base fs d u _ (d0.out _ K4.hb) (d1.out _ K4.hb) (c7.out _ K4.hb) (by omega) (by omega) (by omega) d2.out d3.out d4.out HC.out d5.out HX.out HG.out).mono ?_;rintro e w5 ⟨uo, rfl, a9, bw⟩;have K5 := jw K4 bw;clear bw K4;have a0 := And.intro (jb K5 1 rfl) (jb K5 0 rfl);refine hK.out _ _ a0 (fun _ => ?_)
  clear hK K a2;refine tkP 5 (.bool uo) 10 rfl rfl a0 (tkP 6 (.bool uo) 11 rfl rfl a0 ?_);go_frame;cases uo
  ·have b6 : Hid (¬ (ObjP p xs ys st fs d u)) := fun h => nomatch a9.2 h
   clear a9;refine tkN 7 12 rfl rfl a0 (tkN 8 13 rfl rfl a0 (tkN 9 14 rfl rfl a0 ?_));go_frame;refine tkN 10 15 rfl rfl a0 (tkN 11 16 rfl rfl a0 (tkP 12 (.bool false) 17 rfl rfl a0 ?_));go_frame;refine tkP 13 (.bool false) 18 rfl rfl a0 (tkN 14 19 rfl rfl a0 (tkN 15 20 rfl rfl a0 ?_));go_frame;refine tkN 16 21 rfl rfl a0 (tkN 17 22 rfl rfl a0 (tkP 18 (.bool false) 23 rfl rfl a0 ?_));go_frame;refine tkP 19 (.bool false) 4 rfl rfl a0 ?_;go_frame;clear a0;refine wdn ?_;go_wp2_with fail
   go_ret;refine ⟨false, rfl, ?_, K5.hb⟩;have a3 := b3.out;have a6 := b6.out;refine ⟨fun h => (by cases h), fun h => ?_⟩
   exfalso
   obtain ⟨q1, q2, q3, q4⟩ := h
   first
     | exact a3 q1
     | exact a6 q2
     | exact a7 q3
     | (rcases q4 with ⟨e1, e2⟩ | ⟨e1, e2⟩ | ⟨e1, e2, e3⟩
        all_goals first
          | omega
          | exact a1 e2
          | exact a1 ⟨e2, e3⟩)
  have b6 : Hid (ObjP p xs ys st fs d u) := a9.1 rfl;clear a9;refine tkP 7 (.pointer (some ⟨c4, 6, none⟩)) 12 rfl rfl a0 ?_;go_frame;refine tkL 8 (.int .i64 u) 13 rfl rfl (Or.inl ⟨by rfl, by intro W hW; obtain ⟨a4, a5⟩ := hW; have y6 := c7c a5; go_simp⟩) a0 ?_;go_frame;refine tkP 9 (.pointer (some ⟨b9, 3, none⟩)) 14 rfl rfl a0 ?_;go_frame;refine tkL 10 (.int .i64 t) 15 rfl rfl (Or.inl ⟨by rfl, by intro W hW; obtain ⟨a4, a5⟩ := hW; have y3 := c4c a4; go_simp⟩) a0 ?_;go_frame;by_cases hc1 : u ≤ t
  rotate_left
  ·have b7 := hid hc1;refine tkP 11 (.bool false) 16 rfl rfl a0 (tkP 12 (.bool false) 17 rfl rfl a0 (tkP 13 (.bool false) 18 rfl rfl a0 ?_));go_frame;refine tkN 14 19 rfl rfl a0 (tkN 15 20 rfl rfl a0 (tkN 16 21 rfl rfl a0 ?_));go_frame;refine tkN 17 22 rfl rfl a0 (tkP 18 (.bool false) 23 rfl rfl a0 (tkP 19 (.bool false) 4 rfl rfl a0 ?_));go_frame;clear a0;refine wdn ?_;go_wp2_with fail
   go_ret;refine ⟨false, rfl, ?_, K5.hb⟩;have a3 := b3.out;have a6 := b6.out;have a7 := b7.out;refine ⟨fun h => (by cases h), fun h => ?_⟩
   exfalso
   obtain ⟨q1, q2, q3, q4⟩ := h
   first
     | exact a3 q1
     | exact a6 q2
     | exact a7 q3
     | (rcases q4 with ⟨e1, e2⟩ | ⟨e1, e2⟩ | ⟨e1, e2, e3⟩
        all_goals first
          | omega
          | exact a1 e2
          | exact a1 ⟨e2, e3⟩)
  have b7 : Hid (u ≤ t) := hc1;refine tkP 11 (.bool true) 16 rfl rfl a0 (tkP 12 (.bool true) 17 rfl rfl a0 (tkP 13 (.bool true) 18 rfl rfl a0 ?_));go_frame;refine tkL 14 (.agg #[.int .i64 3, .string a, .string b, .int .i64 t]) 19 rfl rfl (Or.inl ⟨by rfl, by intro W hW; obtain ⟨a4, a5⟩ := hW; have y0 := c4c a4; go_simp⟩) a0 ?_;go_frame;refine tkL 16 (.agg #[.string p, .slice o1 n1 c1, .slice o2 n2 c2, .int .i64 st, .slice o3 n3 c3, .string d, .int .i64 u]) 21 rfl rfl (Or.inl ⟨by rfl, by intro W hW; obtain ⟨a4, a5⟩ := hW; have y0 := c7c a5; go_simp⟩) a0 ?_;go_frame;refine rd1 15 rfl (fun K hK => ?_)
  go_simp;refine (cT5 a b t _).mono ?_;rintro e w6 ⟨rfl, bw⟩;have K6 := jw K5 bw;clear bw K5;have c9 := And.intro (jb K6 1 rfl) (jb K6 0 rfl);refine hK.out _ _ c9 (fun _ => ?_)
  clear hK K a0;refine rd1 17 rfl (fun K hK => ?_)
  go_simp;refine (dS5 a b p _ _ st _ d u _ n3 base fs (c7.out _ K6.hb) (by omega) HC.out).mono ?_;rintro e w7 ⟨uh, rfl, b0, bw⟩;have K7 := jw K6 bw;clear bw K6;have b8 := And.intro (jb K7 1 rfl) (jb K7 0 rfl);refine hK.out _ _ b8 (fun _ => ?_)
  clear hK K c9;refine tkP 18 (.bool uh) 23 rfl rfl b8 (tkP 19 (.bool uh) 4 rfl rfl b8 ?_);go_frame;clear b8;refine wdn ?_;cases uh
  rotate_left
  ·have c6 : Hid (getB fs a = true ∧ getV fs a = b) := b0.1 rfl;clear b0;go_wp2_with fail
   go_ret;refine ⟨true, rfl, ?_, K7.hb⟩;have a3 := b3.out;have a6 := b6.out;have a7 := b7.out;have a1 := c6.out;exact ⟨fun _ => ⟨a3, a6, a7, .inr (.inr ⟨rfl, a1.1, a1.2⟩)⟩, fun _ => rfl⟩
  have c6 : Hid (¬ (getB fs a = true ∧ getV fs a = b)) := fun h => nomatch b0.2 h
  clear b0;go_wp2_with fail
  go_ret;refine ⟨false, rfl, ?_, K7.hb⟩;have a3 := b3.out;have a6 := b6.out;have a7 := b7.out;have a1 := c6.out;refine ⟨fun h => (by cases h), fun h => ?_⟩
  exfalso
  obtain ⟨q1, q2, q3, q4⟩ := h
  first
    | exact a3 q1
    | exact a6 q2
    | exact a7 q3
    | (rcases q4 with ⟨e1, e2⟩ | ⟨e1, e2⟩ | ⟨e1, e2, e3⟩
       all_goals first
         | omega
         | exact a1 e2
         | exact a1 ⟨e2, e3⟩)
theorem cQ2 (k : Int) (hk1 : ¬ k = 1) (hk2 : ¬ k = 2) (hk3 : ¬ k = 3) (a b : Tx) (t : Int) (p : Tx) (o1 : Oa) (n1 c1 : Nat) (xs : Ts) (o2 : Oa) (n2 c2 : Nat) (ys : Ts) (st : Int) (v3 : Value) (n3 base : Nat) (fs : Fs) (d : Tx) (u : Int) (w : World) (ha : a.size ≤ maxLen) (hb : b.size ≤ maxLen) (h1 : aC0 w o1 n1 xs) (h2 : aC0 w o2 n2 ys) (h3 : aB4 w base v3 n3 fs) (_hn1 : n1 ≤ 2000000) (_hn2 : n2 ≤ 2000000) (_hn3 : n3 ≤ 2000000) (hs1 : ∀ i, i < n1 → (aA7 xs i).size ≤ maxLen) (hs2 : ∀ i, i < n2 → (aA7 ys i).size ≤ maxLen) (hs3 : aR0 n3 fs) (hc : aU0 fs) (hp : p.size ≤ maxLen) (hx : d.size ≤ maxLen) (hg : (getV fs aF0).size ≤ 1048576) :
  Calls prog 21 #[.agg #[.int .i64 k, .string a, .string b, .int .i64 t], .agg #[.string p, .slice o1 n1 c1, .slice o2 n2 c2, .int .i64 st, v3, .string d, .int .i64 u]] w fun e w' => aA5 (HitP k a b t p xs ys st fs d u) w e w' := by
 obtain ⟨o3, c3, rfl, _⟩ := h3.slice;have b7 : Hid (∀ W, Bw w W → aC0 W o1 n1 xs) := fun W h => h1.below h
 have b8 : Hid (∀ W, Bw w W → aC0 W o2 n2 ys) := fun W h => h2.below h
 have b9 : Hid (∀ W, Bw w W → aB4 W base (.slice o3 n3 c3) n3 fs) := fun W h => h3.below h
 have c0 := hid hs1;have c4 := hid hs2;have c5 := hid hs3;have HC : Hid (aU0 fs) := hc;have c6 := hid hp;have HX := hid hx;have HG := hid hg;have b1 := hid ha;have b2 := hid hb;clear h1 h2 h3 hs1 hs2 hs3 hc hp hx hg ha hb;have b3 := hid hk1;have b4 := hid hk2;have b5 := hid hk3;clear hk1 hk2 hk3;have K0 := jnil w;go_enter func21, ntmps21;go_upto_region 1 with fail
 obtain ⟨q1, a4⟩ := exq (w.heap.size);obtain ⟨w1, a1⟩ := exq (w.alloc (.cells #[.int .i64 k, .string a, .string b, .int .i64 t] 44));have a5 := a4.symm;rw [← a1]; try rw [← a4];have hs1 := hsa a1 a5;have bw := bal a1;have K1 := ja K0 a1 a5;clear bw a1 a5 K0;obtain ⟨q2, a6⟩ := exq (q1 + 1);obtain ⟨w2, a2⟩ := exq (w1.alloc (.cells #[.string p, .slice o1 n1 c1, .slice o2 n2 c2, .int .i64 st, .slice o3 n3 c3, .string d, .int .i64 u] 36));have a7 : w1.heap.size = q2 := by rw [a6]; exact hs1
 rw [← a2]; try rw [← a6];have hs2 := hsa a2 a7;have bw := bal a2;have K2 := ja K1 a2 a7;clear bw a2 a7 K1;clear hs2 a6 hs1 a4;go_upto_region 1 with fail
 refine wp_region_held_drew (S := fun W => W.heap[q1]? = some (.cells #[.int .i64 k, .string a, .string b, .int .i64 t] 44) ∧ W.heap[q2]? = some (.cells #[.string p, .slice o1 n1 c1, .slice o2 n2 c2, .int .i64 st, .slice o3 n3 c3, .string d, .int .i64 u] 36)) (by kernel_rfl) ⟨(jb K2 1 rfl), (jb K2 0 rfl)⟩ (fun _ => ?_)
 obtain ⟨w3, hX⟩ := exq w2.drew;have bw := bdr hX;rw [← hX];have K3 := jw K2 bw;have a9 := And.intro (jb K3 1 rfl) (jb K3 0 rfl);clear bw hX K2;refine tkL 0 (.agg #[.int .i64 k, .string a, .string b, .int .i64 t]) 5 rfl rfl (Or.inl ⟨by rfl, by intro W hW; obtain ⟨a8, b6⟩ := hW; have y0 := c4c a8; go_simp⟩) a9 ?_;go_frame;refine rd1 1 rfl (fun K hK => ?_)
 go_simp;refine (aP0 k a b t _ b1.out b2.out).mono ?_;rintro e w4 ⟨ub, rfl, a3, bw⟩;have b0 : Hid (¬ BanP k a b t) := fun h => h.kinds.elim b3.out (fun h => h.elim b4.out b5.out)
 obtain rfl : ub = false := by
  cases ub with
  | false => rfl
  | true => exact absurd (a3.1 rfl) b0.out
 clear a3;have K4 := jw K3 bw;clear bw K3;have a0 := And.intro (jb K4 1 rfl) (jb K4 0 rfl);refine hK.out _ _ a0 (fun _ => ?_)
 clear hK K a9;refine tkP 2 (.bool false) 7 rfl rfl a0 (tkN 3 8 rfl rfl a0 (tkN 4 9 rfl rfl a0 ?_));go_frame;refine tkP 5 (.bool false) 10 rfl rfl a0 (tkP 6 (.bool false) 11 rfl rfl a0 (tkN 7 12 rfl rfl a0 ?_));go_frame;refine tkN 8 13 rfl rfl a0 (tkN 9 14 rfl rfl a0 (tkN 10 15 rfl rfl a0 ?_));go_frame;refine tkN 11 16 rfl rfl a0 (tkP 12 (.bool false) 17 rfl rfl a0 (tkP 13 (.bool false) 18 rfl rfl a0 ?_));go_frame;refine tkN 14 19 rfl rfl a0 (tkN 15 20 rfl rfl a0 (tkN 16 21 rfl rfl a0 ?_));go_frame;refine tkN 17 22 rfl rfl a0 (tkP 18 (.bool false) 23 rfl rfl a0 (tkP 19 (.bool false) 4 rfl rfl a0 ?_));go_frame;clear a0;refine wdn ?_;go_wp2_with fail
 go_ret;exact aA5.no (fun h => b0.out h.1) K4.hb
theorem cL2 (k : Int) (a b : Tx) (t : Int) (p : Tx) (o1 : Oa) (n1 c1 : Nat) (xs : Ts) (o2 : Oa) (n2 c2 : Nat) (ys : Ts) (st : Int) (v3 : Value) (n3 base : Nat) (fs : Fs) (d : Tx) (u : Int) (w : World) (ha : a.size ≤ maxLen) (hb : b.size ≤ maxLen) (h1 : aC0 w o1 n1 xs) (h2 : aC0 w o2 n2 ys) (h3 : aB4 w base v3 n3 fs) (hn1 : n1 ≤ 2000000) (hn2 : n2 ≤ 2000000) (hn3 : n3 ≤ 2000000) (hs1 : ∀ i, i < n1 → (aA7 xs i).size ≤ maxLen) (hs2 : ∀ i, i < n2 → (aA7 ys i).size ≤ maxLen) (hs3 : aR0 n3 fs) (hc : aU0 fs) (hp : p.size ≤ maxLen) (hx : d.size ≤ maxLen) (hg : (getV fs aF0).size ≤ 1048576) :
  Calls prog 21 #[.agg #[.int .i64 k, .string a, .string b, .int .i64 t], .agg #[.string p, .slice o1 n1 c1, .slice o2 n2 c2, .int .i64 st, v3, .string d, .int .i64 u]] w fun e w' => aA5 (HitP k a b t p xs ys st fs d u) w e w' := by
 by_cases h1' : k = 1
 ·subst h1'; exact cY8 a b t p o1 n1 c1 xs o2 n2 c2 ys st v3 n3 base fs d u w ha hb h1 h2 h3 hn1 hn2 hn3 hs1 hs2 hs3 hc hp hx hg
 by_cases h2' : k = 2
 ·subst h2'; exact cY9 a b t p o1 n1 c1 xs o2 n2 c2 ys st v3 n3 base fs d u w ha hb h1 h2 h3 hn1 hn2 hn3 hs1 hs2 hs3 hc hp hx hg
 by_cases h3' : k = 3
 ·subst h3'; exact cZ0 a b t p o1 n1 c1 xs o2 n2 c2 ys st v3 n3 base fs d u w ha hb h1 h2 h3 hn1 hn2 hn3 hs1 hs2 hs3 hc hp hx hg
 exact cQ2 k h1' h2' h3' a b t p o1 n1 c1 xs o2 n2 c2 ys st v3 n3 base fs d u w ha hb h1 h2 h3 hn1 hn2 hn3 hs1 hs2 hs3 hc hp hx hg
theorem bU0 (oa : Oa) (n cap : Nat) (l : Bs) (p : Tx) (o1 : Oa) (n1 c1 : Nat) (xs : Ts) (o2 : Oa) (n2 c2 : Nat) (ys : Ts) (st : Int) (v3 : Value) (n3 base : Nat) (fs : Fs) (d : Tx) (u : Int) (w : World) (hl : BanA w oa n l) (hn : n ≤ 2000000) (hlz : ∀ x ∈ l, x.2.1.size ≤ maxLen ∧ x.2.2.1.size ≤ maxLen) (h1 : aC0 w o1 n1 xs) (h2 : aC0 w o2 n2 ys) (h3 : aB4 w base v3 n3 fs) (hn1 : n1 ≤ 2000000) (hn2 : n2 ≤ 2000000) (hn3 : n3 ≤ 2000000) (hs1 : ∀ i, i < n1 → (aA7 xs i).size ≤ maxLen) (hs2 : ∀ i, i < n2 → (aA7 ys i).size ≤ maxLen) (hs3 : aR0 n3 fs) (hc : aU0 fs) (hp : p.size ≤ maxLen) (hx : d.size ≤ maxLen) (hg : (getV fs aF0).size ≤ 1048576) :
  Calls prog 27 #[.slice oa n cap, .agg #[.string p, .slice o1 n1 c1, .slice o2 n2 c2, .int .i64 st, v3, .string d, .int .i64 u]] w fun e w' => aA5 (AnyP l p xs ys st fs d u) w e w' := by
 obtain ⟨o3, c3, rfl, _⟩ := h3.slice;have HL : Hid (∀ W, Bw w W → BanA W oa n l) := fun W h => hl.below h
 have c7 : Hid (l.length = n) := hl.1
 have HC : Hid (∀ (k : Int) (a b : Tx) (t : Int) (W : World), Bw w W → a.size ≤ maxLen → b.size ≤ maxLen → Calls prog 21 #[.agg #[.int .i64 k, .string a, .string b, .int .i64 t], .agg #[.string p, .slice o1 n1 c1, .slice o2 n2 c2, .int .i64 st, .slice o3 n3 c3, .string d, .int .i64 u]] W fun e w' => aA5 (HitP k a b t p xs ys st fs d u) W e w') := fun k a b t W h ha hb =>
  cL2 k a b t p o1 n1 c1 xs o2 n2 c2 ys st _ n3 base fs d u W ha hb (h1.below h) (h2.below h) (h3.below h) hn1 hn2 hn3 hs1 hs2 hs3 hc hp hx hg
 have c8 := hid hlz;clear hl hlz h1 h2 h3 hs1 hs2 hs3 hc hp hx hg;have K0 := jnil w;go_enter func27, ntmps27;go_upto_region 1 with fail
 obtain ⟨q1, a7⟩ := exq (w.heap.size);obtain ⟨w1, a3⟩ := exq (w.alloc (.cells #[.string p, .slice o1 n1 c1, .slice o2 n2 c2, .int .i64 st, .slice o3 n3 c3, .string d, .int .i64 u] 36));have a8 := a7.symm;rw [← a3]; try rw [← a7];have hs1 := hsa a3 a8;have bw := bal a3;have K1 := ja K0 a3 a8;clear bw a3 a8 K0;clear hs1 a7;go_wp2_with fail
 go_loopw [9] (fun i wr => ∃ j : Nat, j ≤ n ∧ i = .int .i64 (j : Int) ∧ Hid (Bw w wr ∧ wr.heap[q1]? = some (.cells #[.string p, .slice o1 n1 c1, .slice o2 n2 c2, .int .i64 st, .slice o3 n3 c3, .string d, .int .i64 u] 36)) ∧ Hid (∀ x ∈ l.take j, ¬ HitP x.1 x.2.1 x.2.2.1 x.2.2.2 p xs ys st fs d u)) (fun i _ => n - (intOf i).toNat)
 case atStart => exact ⟨0, Nat.zero_le _, rfl, ⟨K1.hb, (jb K1 0 rfl)⟩, fun x hx => by simp at hx⟩
 case round =>
  obtain ⟨j, hj, rfl, HW, HN⟩ := hrel;by_cases hlt : (j : Int) < (n : Int)
  rotate_left
  ·have a4 := HW.out.1;have a5 := hid HW.out.2;clear HW
   have HA : Hid (¬ AnyP l p xs ys st fs d u) := by
    rintro ⟨x, hx, h⟩
    have h2 := HN.out
    rw [List.take_of_length_le (by rw [c7.out]; omega)] at h2
    exact h2 x hx h
   clear HN;go_wp2_with fail
   go_ret;exact aA5.no HA.out a4
  have a4 := HW.out.1;have a5 := hid HW.out.2;clear HW;have a9 : j < l.length := by rw [c7.out]; omega
  obtain ⟨g, c9, d0, r0, r1, r2, r3⟩ := (HL.out wr a4).2 j (by omega);subst c9;obtain ⟨y, hy⟩ := exq (aK2 l j);rw [← hy] at r0 r1 r2 r3;have HM : Hid (y ∈ l) := by show _ ∈ _; rw [hy]; exact bQ5 l j a9
  have d1 : Hid (l.take (j + 1) = l.take j ++ [y]) := by show _ = _; rw [hy]; exact bY4 l j a9
  have HZ : Hid (y.2.1.size ≤ maxLen ∧ y.2.2.1.size ≤ maxLen) := c8.out y HM.out;clear hy a9 d0;obtain ⟨y0, y1, y2, y3⟩ := y;go_upto_region 4 with fail
  obtain ⟨q2, b0⟩ := exq (wr.heap.size);obtain ⟨w3, a6⟩ := exq (wr.alloc (.cells #[.int .i64 y0, .string y1, .string y2, .int .i64 y3] 44));have b1 := b0.symm;rw [← a6]; try rw [← b0];have hs3 := hsa a6 b1;have bw := bal a6;have b2 := hbt a4 bw;have a0 := hblk a5 bw;have a1 := hnew a6 b1;clear a4 bw a6 b1;clear hs3 b0;clear r0 r1 r2 r3;have b3 := (k7c a0).1;have b4 := (k7c a0).2.1;have b5 := (k7c a0).2.2.1;have b6 := (k7c a0).2.2.2.1;have b7 := (k7c a0).2.2.2.2.1;have b8 := (k7c a0).2.2.2.2.2.1;have b9 := (k7c a0).2.2.2.2.2.2;have c0 := (k4c a1).1;have c4 := (k4c a1).2.1;have c5 := (k4c a1).2.2.1;have c6 := (k4c a1).2.2.2;have K3 := jz K1 b2 (jzb a0.out (jzn _));go_wp2_with fail
  refine (HC.out y0 y1 y2 y3 _ b2 HZ.out.1 HZ.out.2).mono ?_;rintro e w4 ⟨uh, rfl, a2, bw⟩;have K4 := jw K3 bw;clear b2 bw K3;clear b3 b4 b5 b6 b7 b8 b9 c0 c4 c5 c6;cases uh
  rotate_left
  ·have HA : Hid (AnyP l p xs ys st fs d u) := ⟨_, HM.out, a2.1 rfl⟩;clear a2 HN;go_wp2_with fail
   go_ret;exact ⟨true, rfl, ⟨fun _ => HA.out, fun _ => rfl⟩, K4.hb⟩
  have d2 : Hid (∀ x ∈ l.take (j + 1), ¬ HitP x.1 x.2.1 x.2.2.1 x.2.2.2 p xs ys st fs d u) := by
   intro x hx
   rw [d1.out] at hx
   rcases List.mem_append.1 hx with hx | hx
   ·exact HN.out x hx
   ·rw [List.mem_singleton.1 hx]; exact fun h => nomatch a2.2 h
  clear a2 HN;go_wp2_with fail
  go_roundw
  case rel => exact ⟨j + 1, by omega, by go_num, ⟨K4.hb, (jb K4 0 rfl)⟩, d2⟩
  case measure => simp [intOf]; omega
theorem cF3 (oa : Oa) (n cap : Nat) (l : Bs) (k : KpD) (v1 v2 v3 : Value) (w : World) (hl : BanA w oa n l) (hn : n ≤ 2000000) (hlz : ∀ x ∈ l, x.2.1.size ≤ maxLen ∧ x.2.2.1.size ≤ maxLen) (h : aQ9 w k v1 v2 v3) (hs : aH8 k) :
  Calls prog 27 #[.slice oa n cap, .agg #[.string k.p, v1, v2, .int .i64 k.st, v3, .string k.b, .int .i64 k.t]] w fun e w' => aA5 (AnyK l k) w e w' := by
 obtain ⟨B, h⟩ := h;have ho : ObjO w B v1 k.xs.length k.xs v2 k.ys.length k.ys v3 k.fs.length k.fs := aH2 h;obtain ⟨o1, c1, rfl⟩ := aA0 ho.names;obtain ⟨o2, c2, rfl⟩ := aA0 ho.vals;exact bU0 oa n cap l k.p o1 _ c1 k.xs o2 _ c2 k.ys k.st v3 _ B k.fs k.b k.t w hl hn hlz (aC2 ho.names) (aC2 ho.vals) (aB4.of_owns ho.flds) (by have := hs.2.1.1; omega) (by have := hs.2.2.1.1; omega) (by have := hs.2.2.2.1; omega) (bB7 hs.2.1.2) (bB7 hs.2.2.1.2) (bY7 hs) (bY6 hs) (by have := hs.1.1; unfold maxLen; omega) (by have := hs.1.2; unfold maxLen; omega) (cJ2 hs _)
structure cF4 (s : ShD) : Prop where
 c : s.cs.length ≤ 1048576
 w : s.ws.length ≤ 1048576
 k : s.ks.length ≤ 1048576
 b : s.bl.length ≤ 1048576
 ct : ∀ i, i < s.cs.length → (aA7 s.cs i).size ≤ 1048576
 wt : ∀ x ∈ s.ws, x.2.size ≤ 1048576
 ks : ∀ k ∈ s.ks, aH8 k
 bt : ∀ x ∈ s.bl, x.2.1.size ≤ 1048576 ∧ x.2.2.1.size ≤ 1048576
theorem cF4.kv {s : ShD} (h : cF4 s) {kv : Ks} (hk : kv.map (·.1) = s.ks) {x : KpD × Value × Value × Value} (hx : x ∈ kv) : aH8 x.1 := h.ks x.1 (by rw [← hk]; exact List.mem_map.2 ⟨x, hx, rfl⟩)
theorem cQ3 (k o : KpD) (k1 k2 k3 o1 o2 o3 : Value) (w : World) (h : aQ9 w k k1 k2 k3) (h' : aQ9 w o o1 o2 o3) (hs : aH8 k) (hs2 : aH8 o) :
  Calls prog 145 #[.agg #[.string k.p, k1, k2, .int .i64 k.st, k3, .string k.b, .int .i64 k.t], .agg #[.string o.p, o1, o2, .int .i64 o.st, o3, .string o.b, .int .i64 o.t]] w fun e w' => aA5 (aZ3 k o) w e w' := by
 classical
 obtain ⟨Bu, h⟩ := h;have a0 : ObjO w Bu k1 k.xs.length k.xs k2 k.ys.length k.ys k3 k.fs.length k.fs := aH2 h;obtain ⟨u1, c2, rfl⟩ := aA0 a0.names;obtain ⟨u2, c3, rfl⟩ := aA0 a0.vals;obtain ⟨u3, c4, rfl⟩ := aA0 a0.flds;have c5 : Hid (∀ W, Bw w W → aC0 W u1 k.xs.length k.xs) := fun W hb => (aC2 a0.names).below hb
 have c6 : Hid (∀ W, Bw w W → aC0 W u2 k.ys.length k.ys) := fun W hb => (aC2 a0.vals).below hb
 clear h a0;obtain ⟨Bv, h'⟩ := h';have a1 : ObjO w Bv o1 o.xs.length o.xs o2 o.ys.length o.ys o3 o.fs.length o.fs := aH2 h';obtain ⟨v1, c7, rfl⟩ := aA0 a1.names;obtain ⟨v2, c8, rfl⟩ := aA0 a1.vals;obtain ⟨v3, c9, rfl⟩ := aA0 a1.flds;have d0 : Hid (∀ W, Bw w W → aC0 W v1 o.xs.length o.xs) := fun W hb => (aC2 a1.names).below hb
 have d1 : Hid (∀ W, Bw w W → aC0 W v2 o.ys.length o.ys) := fun W hb => (aC2 a1.vals).below hb
 clear h' a1;have HS := hid hs;have c0 := hid hs2;clear hs hs2;have K0 := jnil w;go_enter func145, ntmps145;go_upto_region 1 with fail
 obtain ⟨q1, a8⟩ := exq (w.heap.size);obtain ⟨w1, a2⟩ := exq (w.alloc (.cells #[.string k.p, .slice u1 k.xs.length c2, .slice u2 k.ys.length c3, .int .i64 k.st, .slice u3 k.fs.length c4, .string k.b, .int .i64 k.t] 36));have a9 := a8.symm;rw [← a2]; try rw [← a8];have c1 := hsa a2 a9;have bw := bal a2;have K1 := ja K0 a2 a9;clear bw a2 a9 K0;obtain ⟨q2, b0⟩ := exq (q1 + 1);obtain ⟨w2, a3⟩ := exq (w1.alloc (.cells #[.string o.p, .slice v1 o.xs.length c7, .slice v2 o.ys.length c8, .int .i64 o.st, .slice v3 o.fs.length c9, .string o.b, .int .i64 o.t] 36));have b1 : w1.heap.size = q2 := by rw [b0]; exact c1
 rw [← a3]; try rw [← b0];have hs2 := hsa a3 b1;have bw := bal a3;have K2 := ja K1 a3 b1;clear bw a3 b1 K1;clear hs2 b0 c1 a8;by_cases hc1 : k.p = o.p
 rotate_left
 ·have b2 : ((k.p).toList == (o.p).toList) = false := aB8 hc1;have b3 := hid hc1;clear hc1;have a4 := c7c (jb K2 1 rfl);have a5 := c7c (jb K2 0 rfl);go_wp2_with fail
  go_ret;exact aA5.no (fun h => b3.out h.1) K2.hb
 have b2 : ((k.p).toList == (o.p).toList) = true := (aD3 _ _).2 hc1;have b3 := hid hc1;clear hc1;have a4 := c7c (jb K2 1 rfl);have a5 := c7c (jb K2 0 rfl);go_wp2_with fail
 refine (bJ4 _ _ _ _ _ _ k.xs o.xs _ (c5.out _ K2.hb) (by have := HS.out.2.1.1; omega) (d0.out _ K2.hb) (by have := c0.out.2.1.1; omega)).mono ?_;rintro e w3 ⟨rfl, bw⟩;obtain ⟨e1, a6⟩ := exq (decide (k.xs = o.xs));rw [← a6];have K3 := jw K2 bw;clear bw K2;clear a4 a5;cases e1
 ·have b4 : Hid (¬ (k.xs = o.xs)) := (show ¬ (k.xs = o.xs) from of_decide_eq_false a6.symm);clear a6;go_wp2_with fail
  go_ret;exact aA5.no (fun h => b4.out h.2.1) K3.hb
 have b5 : Hid (k.xs = o.xs) := (show k.xs = o.xs from of_decide_eq_true a6.symm);clear a6;have b6 := c7c (jb K3 1 rfl);have b7 := c7c (jb K3 0 rfl);go_wp2_with fail
 refine (bJ4 _ _ _ _ _ _ k.ys o.ys _ (c6.out _ K3.hb) (by have := HS.out.2.2.1.1; omega) (d1.out _ K3.hb) (by have := c0.out.2.2.1.1; omega)).mono ?_;rintro e w4 ⟨rfl, bw⟩;obtain ⟨e2, a7⟩ := exq (decide (k.ys = o.ys));rw [← a7];have K4 := jw K3 bw;clear bw K3;clear b6 b7;cases e2
 rotate_left
 ·have b8 : Hid (k.ys = o.ys) := (show k.ys = o.ys from of_decide_eq_true a7.symm);clear a7;go_wp2_with fail
  go_ret;exact aA5.yes ⟨b3.out, b5.out, b8.out⟩ K4.hb
 have b9 : Hid (¬ (k.ys = o.ys)) := (show ¬ (k.ys = o.ys) from of_decide_eq_false a7.symm);clear a7;go_wp2_with fail
 go_ret;exact aA5.no (fun h => b9.out h.2.2) K4.hb
theorem bW2 (x : Int) (w : World) (h0 : 5 ≤ x) (h1 : x ≤ 19) :
  Calls prog 147 #[.int .i64 x] w fun e w' => e = .returned (.int .i64 (aN7 x)) ∧ Below w.heap.size w w' := by
 have u1 : -9223372036854775808 ≤ x + 1 ∧ x + 1 ≤ 9223372036854775807 := by omega
 have K0 := jnil w;go_enter func147, ntmps147;go_wp2_with fail
 refine (bM0 (x + 1) _).mono ?_;rintro e w1 ⟨uo, rfl, a0, bw⟩;have K1 := jw K0 bw;clear bw K0;cases uo
 rotate_left
 ·have a1 : Hid (5 ≤ x + 1 ∧ x + 1 ≤ 19) := a0.1 rfl;clear a0;go_wp2_with fail
  go_ret;refine ⟨?_, K1.hb⟩;have h := a1.out;unfold aN7;rw [if_neg (by omega)];rfl
 have a2 : Hid (¬ (5 ≤ x + 1 ∧ x + 1 ≤ 19)) := fun h => nomatch a0.2 h
 clear a0;go_wp2_with fail
 go_ret;refine ⟨?_, K1.hb⟩;have h := a2.out;unfold aN7;rw [if_pos (by omega)];rfl
def cQ4 (kv : Ks) : Prop := ∀ x ∈ kv, aH8 x.1
theorem cQ4.kv2 {kv : Ks} (h : cQ4 kv) {x : KpD × Value × Value × Value} (hx : x ∈ kv) : aH8 x.1 := h x hx
theorem bW3 (V : Value) (kv : Ks) (B : Nat) (w : World) (h : aC5 w B V kv) (hn : kv.length ≤ 1048576) (hsm : cQ4 kv) :
  Calls prog 177 #[V] w fun e w' => dR8 (kv.map (·.1)) w e w' := by
 obtain ⟨o3, c3, e3⟩ := aA0 h.row;subst e3;obtain ⟨n3, e7⟩ := exq kv.length;rw [← e7] at h ⊢;obtain ⟨ks, h5⟩ := exq (kv.map (·.1));have e9 : Hid (kv.map (·.1) = ks) := h5.symm;have b4 : Hid (kv.length = n3) := e7.symm;have l1 : n3 ≤ 1048576 := by rw [e7]; exact hn
 have b7 : Hid (∀ W, Bw w W → aC5 W B (.slice o3 n3 c3) kv) := fun W hb => aC5.below h hb
 clear e7 h5 h hn;have j4 := hid hsm;obtain ⟨i0, hi, j5, j6, b9⟩ := info_parts bB5;obtain ⟨M, hM⟩ : ∃ M, M = madeCells (Value.agg #[.string ⟨#[]⟩, .slice none 0 0, .slice none 0 0, .int .i64 0, .slice none 0 0, .string ⟨#[]⟩, .int .i64 0, .int .i64 0, .int .i64 0]).cells (((n3 : Nat) : Int).toNat * i0.size) := ⟨_, rfl⟩
 have l2 : ∀ W : World, (Instr.makeSlice 28 (.int .i64 (n3 : Int)) (.int .i64 (n3 : Int))).run prog W = .ok (.slice (some ⟨W.heap.size, 0, none⟩) n3 n3) (W.alloc (.cells M 52)) := fun W => by
  have h := run_make (P := prog) W 28 52 i0 (.agg #[.string ⟨#[]⟩, .slice none 0 0, .slice none 0 0, .int .i64 0, .slice none 0 0, .string ⟨#[]⟩, .int .i64 0, .int .i64 0, .int .i64 0]) underlying28 hi j5 .i64 .i64 (n3 : Int) (n3 : Int) (by omega) (by omega) (by rw [b9]; omega) (by omega)
  rw [← hM] at h
  simpa using h
 have h6 : M.size = n3 * 9 := by rw [hM, size_madeCells, j6]; simp
 obtain ⟨g, hg⟩ := exq (w.heap.size);have HG : Hid (w.heap.size = g) := hg.symm;have j7 : Hid (w.heap.size ≤ g) := by show _ ≤ _; omega
 have h7 : Hid (([] : Ks).length = 0 ∧ ([] : Ks).map (·.1) = (kv.take 0).map (·.1) ∧ aQ7 kpC 9 52 (w.alloc (.cells M 52)) g n3 [] ∧ aB2 (w.alloc (.cells M 52)) (g + 1) (([] : Ks).flatMap kpR)) := ⟨rfl, by simp, ⟨M, by rw [hg]; exact heap_alloc_new w _, h6, fun i h => absurd h (by simp)⟩, aB2.nil _ _⟩
 have h8 : Hid (Bw w (w.alloc (.cells M 52))) := (Below.refl _ _).alloc (Nat.le_refl _) _;clear hM h6 hg hsm;have K0 := jnil w;go_enter func177, ntmps177;go_wp2_with fail
 rw [HG.out];go_loopw [11] (fun i wr => ∃ (k : Nat) (lv : Ks), k ≤ n3 ∧ i = .int .i64 (k : Int) ∧ Hid (lv.length = k ∧ lv.map (·.1) = (kv.take k).map (·.1) ∧ aQ7 kpC 9 52 wr g n3 lv ∧ aB2 wr (g + 1) (lv.flatMap kpR)) ∧ Hid (Bw w wr)) (fun i _ => n3 - (intOf i).toNat)
 case atStart => exact ⟨0, [], Nat.zero_le _, rfl, h7, h8⟩
 case round =>
  obtain ⟨k, lv, hk, rfl, b8, f9⟩ := hrel;by_cases hlt : k < n3
  rotate_left
  ·obtain rfl : k = n3 := by omega
   have g0 : ¬ (k : Int) < (k : Int) := by omega
   obtain ⟨q1, q2, q3, q4⟩ := b8.out
   have HF : Hid (lv.map (·.1) = ks ∧ aC5 wr w.heap.size (.slice (some ⟨g, 0, none⟩) k k) lv) := by
    refine ⟨?_, cW0 q3 q1 (by unfold maxLen; omega) (by rw [HG.out]; exact Nat.le_refl _) q4⟩
    rw [q2, List.take_of_length_le (by rw [b4.out]; exact Nat.le_refl _)]
    exact e9.out
   clear q1 q2 q3 q4;go_wp2
   go_ret;exact ⟨_, lv, rfl, HF.out.1.trans e9.out.symm, HF.out.2, f9.out⟩
  have g0 : (k : Int) < (n3 : Int) := by omega
  have l3 : ¬ n3 ≤ k := by omega
  have a3 := f9.out;have j8 : Hid (lv.length = k ∧ lv.map (·.1) = (kv.take k).map (·.1)) := ⟨b8.out.1, b8.out.2.1⟩;have c9 : Hid (aQ7 kpC 9 52 wr g n3 lv) := b8.out.2.2.1;have g1 : Hid (aB2 wr (g + 1) (lv.flatMap kpR)) := b8.out.2.2.2;clear b8 f9 h7 h8;obtain ⟨g3, p3, hV, _, _⟩ := (b7.out _ a3).look k (by rw [b4.out]; omega);rw [b4.out] at hV;injection hV with hV1 hV2 hV3
  subst hV1 hV3;clear hV2;obtain ⟨yX, d0⟩ := exq (kvAt kv k);have d1 : Hid (yX ∈ kv) := by show _ ∈ _; rw [d0]; exact cS6 kv k (by rw [b4.out]; omega)
  have l4 : Hid (kpAt ks k = yX.1) := by show _ = _; rw [d0, ← e9.out]; exact (cS7 kv k (by rw [b4.out]; omega)).symm
  have g2 : Hid (kv.take (k + 1) = kv.take k ++ [yX]) := by show _ = _; rw [d0]; exact cJ1 kv k (by rw [b4.out]; omega)
  have b2 : Hid (∀ W, Bw w W → KpAt W g3 k yX) := fun W hb => by
   obtain ⟨g', p', hV, _, hc⟩ := (b7.out W hb).look k (by rw [b4.out]; omega)
   injection hV with hV1 _ _
   cases hV1
   rw [d0]
   exact hc
  clear d0;obtain ⟨y, g4, g5, g6⟩ := yX;obtain ⟨d2, d3, hu⟩ := aA0 ((b7.out _ a3).names d1.out);have d4 : g4 = .slice d2 y.xs.length d3 := hu;subst d4;clear hu;obtain ⟨d5, d6, hu⟩ := aA0 ((b7.out _ a3).vals d1.out);have d4 : g5 = .slice d5 y.ys.length d6 := hu;subst d4;clear hu;obtain ⟨d7, d8, hu⟩ := aA0 ((b7.out _ a3).flds d1.out);have d4 : g6 = .slice d7 y.fs.length d8 := hu;subst d4;clear hu;have h9 := (b2.out _ a3).c0;have i1 := (b2.out _ a3).c1;have i2 := (b2.out _ a3).c2;have i3 := (b2.out _ a3).c3;have i4 := (b2.out _ a3).c4;have i5 := (b2.out _ a3).c5;have i6 := (b2.out _ a3).c6;have i7 := (b2.out _ a3).c7;have i8 := (b2.out _ a3).c8;dsimp only at h9 i1 i2 i3 i4 i5 i6 i7 i8;go_upto_region 5 with fail
  obtain ⟨b5, b6⟩ := exq (wr.heap.size);obtain ⟨w2, d9⟩ := exq (wr.alloc (.cells #[.string y.p, .slice d2 y.xs.length d3, .slice d5 y.ys.length d6, .int .i64 y.st, .slice d7 y.fs.length d8, .string y.b, .int .i64 y.t, .int .i64 y.a, .int .i64 y.q] 52));have b9 := b6.symm;rw [← d9]; try rw [← b6];have j9 := hsa d9 b9;have bw := bal d9;have i9 := hbt a3 bw;have g7 : Hid (aQ7 kpC 9 52 w2 g n3 lv) := aQ7.below c9.out bw;have g8 := hid (aB2.below g1.out bw);have e0 := hnew d9 b9;have k0 : Hid (b5 ≠ g) := fun e => by have h1 := c9.out.lt; omega
  clear a3 bw d9 b9;clear j9 b6;clear h9 i1 i2 i3 i4 i5 i6 i7 i8;have K2 := jz K0 i9 (jzn _);go_upto_region 5 with fail
  refine wp_region_held_drew (S := fun W => W.heap[b5]? = some (.cells #[.string y.p, .slice d2 y.xs.length d3, .slice d5 y.ys.length d6, .int .i64 y.st, .slice d7 y.fs.length d8, .string y.b, .int .i64 y.t, .int .i64 y.a, .int .i64 y.q] 52)) (by kernel_rfl) e0.out (fun _ => ?_)
  obtain ⟨w3, hX⟩ := exq w2.drew;have bw := bdr hX;rw [← hX];have K3 := jw K2 bw;have e1 := hblk e0 bw;have e2 : Hid (aQ7 kpC 9 52 w3 g n3 lv) := aQ7.below g7.out bw;have e4 := hid (aB2.below g8.out bw);have b3 := e1.out;clear i9 bw hX K2;refine tkP 0 (.slice (some ⟨g, 0, none⟩) n3 n3) 16 rfl rfl b3 (tkP 1 (.int .i64 (k : Int)) 17 rfl rfl b3 (tkP 2 (.pointer (some ⟨b5, 0, none⟩)) 18 rfl rfl b3 ?_));go_frame;refine tkL 3 (.agg #[.string y.p, .slice d2 y.xs.length d3, .slice d5 y.ys.length d6, .int .i64 y.st, .slice d7 y.fs.length d8, .string y.b, .int .i64 y.t]) 19 rfl rfl (Or.inl ⟨by rfl, by intro W hW; have b1 := hW; have y0 := c9c b1; go_simp⟩) b3 ?_;go_frame;refine tkP 5 (.pointer (some ⟨b5, 7, none⟩)) 21 rfl rfl b3 ?_;go_frame;refine tkL 6 (.int .i64 y.a) 22 rfl rfl (Or.inl ⟨by rfl, by intro W hW; have b1 := hW; have y7 := c9c b1; go_simp⟩) b3 ?_;go_frame;refine tkP 7 (.pointer (some ⟨b5, 8, none⟩)) 23 rfl rfl b3 ?_;go_frame;refine tkL 8 (.int .i64 y.q) 24 rfl rfl (Or.inl ⟨by rfl, by intro W hW; have b1 := hW; have y8 := c9c b1; go_simp⟩) b3 ?_;go_frame;refine rd1 4 rfl (fun K hK => ?_)
  go_simp;refine (bW1 y _ _ _ _ ((b7.out _ K3.hb).read d1.out) (j4.out.kv2 d1.out)).mono ?_;rintro e w4 ⟨va, vb, vc, rfl, g9, bw⟩;obtain ⟨a1, a4, a2, j0⟩ := g9;obtain ⟨a7, a8, rfl⟩ := aA0 a1;obtain ⟨a5, a6, rfl⟩ := aA0 a4;obtain ⟨a9, b0, rfl⟩ := aA0 a2;have j1 : Hid (aB2 w4 (g + 1) (lv.flatMap kpR ++ kpR ((y, .slice a7 y.xs.length a8, .slice a5 y.ys.length a6, .slice a9 y.fs.length b0) : KpD × Value × Value × Value))) := e4.out.more bw (bR1 ⟨a1, a4, a2, j0⟩) (Nat.le_refl _) e2.out.lt;clear j0;have K4 := jj K3 (jcR (jcR (jN bw) a1 jhn) a2 (jhc (jty a2 a1) jhn));have e5 := hblk e1 bw;have a0 : Hid (aQ7 kpC 9 52 w4 g n3 lv) := aQ7.below e2.out bw;have k1 := hid (aB2.below e4.out bw);clear a1;have h0 : Hid (w4.ownsRow w.heap.size 9 1 (.slice a5 y.ys.length a6) y.ys.length (y.ys.map Value.string)) := aF5 a4 K3.hb.size;clear a4;clear a2;clear bw K3;have e8 := e5.out;refine hK.out _ _ e8 (fun _ => ?_)
  clear hK K b3;refine tkP 9 (.agg #[.string y.p, .slice a7 y.xs.length a8, .slice a5 y.ys.length a6, .int .i64 y.st, .slice a9 y.fs.length b0, .string y.b, .int .i64 y.t, .int .i64 y.a, .int .i64 y.q]) 25 rfl rfl e8 (tkP 10 (.pointer (some ⟨g, k * 9, none⟩)) 26 rfl rfl e8 ?_);go_frame;refine rd1 11 rfl (fun K hK => ?_)
  obtain ⟨u0, k2⟩ := a0.out.cell (k * 9) (by omega);have f0 := a0.out.frozen (k * 9);obtain ⟨u1, k3⟩ := a0.out.cell (k * 9 + 1) (by omega);have f1 := a0.out.frozen (k * 9 + 1);obtain ⟨u2, k4⟩ := a0.out.cell (k * 9 + 2) (by omega);have f2 := a0.out.frozen (k * 9 + 2);obtain ⟨u3, k5⟩ := a0.out.cell (k * 9 + 3) (by omega);have f3 := a0.out.frozen (k * 9 + 3);obtain ⟨u4, k6⟩ := a0.out.cell (k * 9 + 4) (by omega);have f4 := a0.out.frozen (k * 9 + 4);obtain ⟨u5, k7⟩ := a0.out.cell (k * 9 + 5) (by omega);have f5 := a0.out.frozen (k * 9 + 5);obtain ⟨u6, k8⟩ := a0.out.cell (k * 9 + 6) (by omega);have f6 := a0.out.frozen (k * 9 + 6);obtain ⟨u7, k9⟩ := a0.out.cell (k * 9 + 7) (by omega);have f7 := a0.out.frozen (k * 9 + 7);obtain ⟨u8, l0⟩ := a0.out.cell (k * 9 + 8) (by omega);have f8 := a0.out.frozen (k * 9 + 8);obtain ⟨w5, hY⟩ := exq ((((((((((w4.setCell ⟨g, k * 9, none⟩ (.string y.p)).setCell ⟨g, k * 9 + 1, none⟩ (.slice a7 y.xs.length a8)).setCell ⟨g, k * 9 + 2, none⟩ (.slice a5 y.ys.length a6)).setCell ⟨g, k * 9 + 3, none⟩ (.int .i64 y.st)).setCell ⟨g, k * 9 + 4, none⟩ (.slice a9 y.fs.length b0)).setCell ⟨g, k * 9 + 5, none⟩ (.string y.b)).setCell ⟨g, k * 9 + 6, none⟩ (.int .i64 y.t)).setCell ⟨g, k * 9 + 7, none⟩ (.int .i64 y.a)).setCell ⟨g, k * 9 + 8, none⟩ (.int .i64 y.q)));have HY := hsy hY;have hZ : w5 = setW w4 g (k * 9) (kpC ((y, .slice a7 y.xs.length a8, .slice a5 y.ys.length a6, .slice a9 y.fs.length b0) : KpD × Value × Value × Value)) := by rw [hY]; rfl
  have h3 : Hid ((lv ++ [((y, .slice a7 y.xs.length a8, .slice a5 y.ys.length a6, .slice a9 y.fs.length b0) : KpD × Value × Value × Value)]).length = k + 1 ∧ (lv ++ [((y, .slice a7 y.xs.length a8, .slice a5 y.ys.length a6, .slice a9 y.fs.length b0) : KpD × Value × Value × Value)]).map (·.1) = (kv.take (k + 1)).map (·.1) ∧ aQ7 kpC 9 52 w5 g n3 (lv ++ [((y, .slice a7 y.xs.length a8, .slice a5 y.ys.length a6, .slice a9 y.fs.length b0) : KpD × Value × Value × Value)]) ∧ aB2 w5 (g + 1) ((lv ++ [((y, .slice a7 y.xs.length a8, .slice a5 y.ys.length a6, .slice a9 y.fs.length b0) : KpD × Value × Value × Value)]).flatMap kpR)) := by
   obtain ⟨q1, q2⟩ := j8.out
   refine ⟨by rw [List.length_append, q1]; rfl, by rw [List.map_append, q2, g2.out, List.map_append]; rfl, ?_, ?_⟩
   ·have h := aQ7.put aZ1 a0.out ((y, .slice a7 y.xs.length a8, .slice a5 y.ys.length a6, .slice a9 y.fs.length b0) : KpD × Value × Value × Value) (by omega)
    rw [q1] at h
    rw [hZ]
    exact h
   ·have e6 : aB2 w4 (g + 1) (lv.flatMap kpR ++ kpR ((y, .slice a7 y.xs.length a8, .slice a5 y.ys.length a6, .slice a9 y.fs.length b0) : KpD × Value × Value × Value)) := j1.out
    rw [List.flatMap_append, hZ]
    have h2 : aB2 (setW w4 g (k * 9) (kpC ((y, .slice a7 y.xs.length a8, .slice a5 y.ys.length a6, .slice a9 y.fs.length b0) : KpD × Value × Value × Value))) (g + 1) (lv.flatMap kpR ++ kpR ((y, .slice a7 y.xs.length a8, .slice a5 y.ys.length a6, .slice a9 y.fs.length b0) : KpD × Value × Value × Value)) := e6.same (fun r hr b hb => bI0 g b (by have := e6.ge hr hb; omega) _ _ _)
    simpa using h2
  have j2 : Bw w (w5) := by rw [hZ]; exact bX1 j7.out _ _ _ _ K4.hb
  have h4 : Hid (w5.heap[b5]? = some (.cells #[.string y.p, .slice d2 y.xs.length d3, .slice d5 y.ys.length d6, .int .i64 y.st, .slice d7 y.fs.length d8, .string y.b, .int .i64 y.t, .int .i64 y.a, .int .i64 y.q] 52)) := by show _ = _; rw [hZ, bI0 g b5 k0.out]; exact e5.out
  have K5 := jz K4 j2 (jzx (jzx (jzn _)));clear hY hZ j1 K4;go_simp;rw [HY.out];have j3 := h4.out;refine hK.out _ _ j3 (fun _ => ?_)
  clear hK K HY e8 k2 f0 k3 f1 k4 f2 k5 f3 k6 f4 k7 f5 k8 f6 k9 f7 l0 f8;clear j3;refine wdn ?_;go_wp2_with fail
  go_roundw
  case rel => exact ⟨k + 1, _, by omega, by go_num, h3, j2⟩
  case measure => simp [intOf]; omega
theorem bW4 (o4 : Oa) (n4 c4 : Nat) (l : Bs) (w : World) (h : BanA w o4 n4 l) (hn : n4 ≤ 1048576) (hz : ∀ x ∈ l, x.2.1.size ≤ 1048576 ∧ x.2.2.1.size ≤ 1048576) :
  Calls prog 178 #[.slice o4 n4 c4] w fun e w' => ∃ v, e = .returned v ∧ w'.ownsRow w.heap.size 44 4 v n4 (aB3 l) ∧ Below w.heap.size w w' := by
 have HA : Hid (∀ W, Bw w W → BanA W o4 n4 l) := fun W hb => h.below hb
 have c5 : Hid (l.length = n4) := h.1;have HZ := hid hz;obtain ⟨i0, hi, d4, d5, a4⟩ := info_parts cN7;obtain ⟨M, hM⟩ : ∃ M, M = madeCells (Value.agg #[.int .i64 0, .string ⟨#[]⟩, .string ⟨#[]⟩, .int .i64 0]).cells (((n4 : Nat) : Int).toNat * i0.size) := ⟨_, rfl⟩
 have e5 : ∀ W : World, (Instr.makeSlice 29 (.int .i64 (n4 : Int)) (.int .i64 (n4 : Int))).run prog W = .ok (.slice (some ⟨W.heap.size, 0, none⟩) n4 n4) (W.alloc (.cells M 44)) := fun W => by
  have h := run_make (P := prog) W 29 44 i0 (.agg #[.int .i64 0, .string ⟨#[]⟩, .string ⟨#[]⟩, .int .i64 0]) underlying29 hi d4 .i64 .i64 (n4 : Int) (n4 : Int) (by omega) (by omega) (by rw [a4]; omega) (by omega)
  rw [← hM] at h
  simpa using h
 have c6 : M.size = n4 * 4 := by rw [hM, size_madeCells, d5]; simp
 obtain ⟨g, hg⟩ := exq (w.heap.size);have HG : Hid (w.heap.size = g) := hg.symm;have a5 : Hid (w.heap.size ≤ g) := by show _ ≤ _; omega
 have c7 : Hid (aG1 (w.alloc (.cells M 44)) g n4 0 l) := ⟨M, by rw [hg]; exact heap_alloc_new w _, c6, fun i h => absurd h (by omega)⟩
 have c8 : Hid (Bw w (w.alloc (.cells M 44))) := (Below.refl _ _).alloc (Nat.le_refl _) _;clear hM c6 hg h hz;have K0 := jnil w;go_enter func178, ntmps178;go_wp2_with fail
 rw [HG.out];go_loopw [11] (fun i wr => ∃ k : Nat, k ≤ n4 ∧ i = .int .i64 (k : Int) ∧ Hid (aG1 wr g n4 k l) ∧ Hid (Bw w wr)) (fun i _ => n4 - (intOf i).toNat)
 case atStart => exact ⟨0, Nat.zero_le _, rfl, c7, c8⟩
 case round =>
  obtain ⟨k, hk, rfl, b6, b7⟩ := hrel;by_cases hlt : k < n4
  rotate_left
  ·obtain rfl : k = n4 := by omega
   have b8 : ¬ (k : Int) < (k : Int) := by omega
   have HF : Hid (wr.ownsRow w.heap.size 44 4 (.slice (some ⟨g, 0, none⟩) k k) k (aB3 l)) := b6.out.owns c5.out (by unfold maxLen; omega) a5.out;go_wp2
   go_ret;exact ⟨_, rfl, HF.out, b7.out⟩
  have b8 : (k : Int) < (n4 : Int) := by omega
  have b9 := b7.out;have a3 : Hid (aG1 wr g n4 k l) := b6.out;clear b6 b7 c7 c8;obtain ⟨g4, d6, d7, r1, r2, r3, r4⟩ := (HA.out _ b9).2 k hlt;subst d6;obtain ⟨y, hy⟩ := exq (aK2 l k);rw [← hy] at r1 r2 r3 r4;have d8 : Hid (aK2 l k = y) := hy.symm;have c9 : Hid (y ∈ l) := by show _ ∈ _; rw [hy]; exact bQ5 l k (by rw [c5.out]; omega)
  clear hy d7;obtain ⟨y0, y1, y2, y3⟩ := y;dsimp only at r1 r2 r3 r4;have c0 : Hid (y1.size ≤ 281474976710656) := by have h := (HZ.out _ c9.out).1; dsimp only at h; show _ ≤ _; omega
  have c1 : Hid (y2.size ≤ 281474976710656) := by have h := (HZ.out _ c9.out).2; dsimp only at h; show _ ≤ _; omega
  go_upto_region 5 with fail
  obtain ⟨q1, c2⟩ := exq (wr.heap.size);obtain ⟨w2, a6⟩ := exq (wr.alloc (.cells #[.int .i64 y0, .string y1, .string y2, .int .i64 y3] 44));have a4 := c2.symm;rw [← a6]; try rw [← c2];have d9 := hsa a6 a4;have bw := bal a6;have d0 := hbt b9 bw;have a7 : Hid (aG1 w2 g n4 k l) := aG1.below a3.out bw a3.out.lt;have a8 := hnew a6 a4;have b4 : Hid (q1 ≠ g) := fun e => by have h1 := a3.out.lt; omega
  clear b9 bw a6 a4;clear d9 c2;clear r1 r2 r3 r4;have K2 := jz K0 d0 (jzn _);go_upto_region 5 with fail
  refine wp_region_held_drew (S := fun W => W.heap[q1]? = some (.cells #[.int .i64 y0, .string y1, .string y2, .int .i64 y3] 44)) (by kernel_rfl) a8.out (fun _ => ?_)
  obtain ⟨w3, hX⟩ := exq w2.drew;have bw := bdr hX;rw [← hX];have K3 := jw K2 bw;have a9 := hblk a8 bw;have b0 : Hid (aG1 w3 g n4 k l) := aG1.below a7.out bw a7.out.lt;have a2 := a9.out;clear d0 bw hX K2;refine tkP 0 (.slice (some ⟨g, 0, none⟩) n4 n4) 16 rfl rfl a2 (tkP 1 (.int .i64 (k : Int)) 17 rfl rfl a2 (tkP 2 (.pointer (some ⟨q1, 0, none⟩)) 18 rfl rfl a2 ?_));go_frame;refine tkL 3 (.int .i64 y0) 19 rfl rfl (Or.inl ⟨by rfl, by intro W hW; have a1 := hW; have y0 := c4c a1; go_simp⟩) a2 ?_;go_frame;refine tkP 4 (.pointer (some ⟨q1, 1, none⟩)) 20 rfl rfl a2 ?_;go_frame;refine tkL 5 (.string y1) 21 rfl rfl (Or.inl ⟨by rfl, by intro W hW; have a1 := hW; have y1 := c4c a1; go_simp⟩) a2 ?_;go_frame;refine tkP 7 (.pointer (some ⟨q1, 2, none⟩)) 23 rfl rfl a2 ?_;go_frame;refine tkL 8 (.string y2) 24 rfl rfl (Or.inl ⟨by rfl, by intro W hW; have a1 := hW; have y2 := c4c a1; go_simp⟩) a2 ?_;go_frame;refine tkP 10 (.pointer (some ⟨q1, 3, none⟩)) 26 rfl rfl a2 ?_;go_frame;refine tkL 11 (.int .i64 y3) 27 rfl rfl (Or.inl ⟨by rfl, by intro W hW; have a1 := hW; have y3 := c4c a1; go_simp⟩) a2 ?_;go_frame;refine rd1 6 rfl (fun K hK => ?_)
  go_simp;refine (aF3 y1 _ c0.out).mono ?_;rintro e w4 ⟨rfl, bw⟩;have K4 := jw K3 bw;have b1 := hblk a9 bw;have b2 : Hid (aG1 w4 g n4 k l) := aG1.below b0.out bw b0.out.lt;clear bw K3;have d1 := b1.out;refine hK.out _ _ d1 (fun _ => ?_)
  clear hK K a2;refine rd1 9 rfl (fun K hK => ?_)
  go_simp;refine (aF3 y2 _ c1.out).mono ?_;rintro e w5 ⟨rfl, bw⟩;have K5 := jw K4 bw;have b3 := hblk b1 bw;have a0 : Hid (aG1 w5 g n4 k l) := aG1.below b2.out bw b2.out.lt;clear bw K4;have b5 := b3.out;refine hK.out _ _ b5 (fun _ => ?_)
  clear hK K d1;refine tkP 12 (.agg #[.int .i64 y0, .string y1, .string y2, .int .i64 y3]) 28 rfl rfl b5 (tkP 13 (.pointer (some ⟨g, k * 4, none⟩)) 29 rfl rfl b5 ?_);go_frame;refine rd1 14 rfl (fun K hK => ?_)
  obtain ⟨u0, e0⟩ := a0.out.cell (k * 4) (by omega);have f0 := a0.out.frozen (k * 4);obtain ⟨u1, e1⟩ := a0.out.cell (k * 4 + 1) (by omega);have f1 := a0.out.frozen (k * 4 + 1);obtain ⟨u2, e2⟩ := a0.out.cell (k * 4 + 2) (by omega);have f2 := a0.out.frozen (k * 4 + 2);obtain ⟨u3, e3⟩ := a0.out.cell (k * 4 + 3) (by omega);have f3 := a0.out.frozen (k * 4 + 3);obtain ⟨w6, hY⟩ := exq (((((w5.setCell ⟨g, k * 4, none⟩ (.int .i64 y0)).setCell ⟨g, k * 4 + 1, none⟩ (.string y1)).setCell ⟨g, k * 4 + 2, none⟩ (.string y2)).setCell ⟨g, k * 4 + 3, none⟩ (.int .i64 y3)));have HY := hsy hY
  have e4 : Hid (aG1 w6 g n4 (k + 1) l) := by
   have h := a0.out.put hlt
   rw [d8.out] at h
   rw [hY]
   exact h
  have d2 : Bw w (w6) := by rw [hY]; exact ((((K5.hb.setCell (p := ⟨g, k * 4, none⟩) a5.out _).setCell (p := ⟨g, k * 4 + 1, none⟩) a5.out _).setCell (p := ⟨g, k * 4 + 2, none⟩) a5.out _).setCell (p := ⟨g, k * 4 + 3, none⟩) a5.out _)
  have c3 : Hid (w6.heap[q1]? = some (.cells #[.int .i64 y0, .string y1, .string y2, .int .i64 y3] 44)) := by show _ = _; rw [hY, heap_setCell_other _ _ _ _ b4.out, heap_setCell_other _ _ _ _ b4.out, heap_setCell_other _ _ _ _ b4.out, heap_setCell_other _ _ _ _ b4.out]; exact b3.out
  have K6 := jz K5 d2 (jzn _);clear hY K5;go_simp;rw [HY.out];have d3 := c3.out;refine hK.out _ _ d3 (fun _ => ?_)
  clear hK K HY b5 e0 f0 e1 f1 e2 f2 e3 f3;clear d3;refine wdn ?_;go_wp2_with fail
  go_roundw
  case rel => exact ⟨k + 1, by omega, by go_num, e4, d2⟩
  case measure => simp [intOf]; omega
theorem bU1 (v1 v2 V VB : Value) (kv : Ks) (s : ShD) (B : Nat) (w : World) (h : aP5 w B v1 v2 V VB kv s) (hz : cF4 s) :
  Calls prog 79 #[.agg #[v1, v2, V, VB, .int .i64 s.nx, .int .i64 s.sq]] w fun e w' => aR3 s w e w' := by
 obtain ⟨o1, c1, e1⟩ := aA0 h.disk.cells;obtain ⟨o2, c2, e2⟩ := aA0 h.disk.pend;obtain ⟨o3, c3, e3⟩ := aA0 h.kept.row;obtain ⟨o4, c4, e4⟩ := aA0 h.bans;subst e1 e2 e3 e4;obtain ⟨n1, f0⟩ := exq (s.cs.length);obtain ⟨n2, f1⟩ := exq (s.ws.length);obtain ⟨n3, d4⟩ := exq kv.length;obtain ⟨n4, f2⟩ := exq (s.bl.length);rw [← f0, ← f1, ← d4, ← f2] at h ⊢;have c7 : Hid (s.cs.length = n1 ∧ s.ws.length = n2 ∧ kv.length = n3 ∧ s.bl.length = n4) := ⟨f0.symm, f1.symm, d4.symm, f2.symm⟩;have g5 : Hid (kv.map (·.1) = s.ks) := h.2;have HZ := hid hz;have i2 : n1 ≤ 1048576 := by rw [f0]; exact hz.c
 have i3 : n2 ≤ 1048576 := by rw [f1]; exact hz.w
 have i4 : n3 ≤ 1048576 := by rw [d4, ← List.length_map (f := (·.1)), h.2]; exact hz.k
 have i5 : n4 ≤ 1048576 := by rw [f2]; exact hz.b
 have f4 : Hid (∀ W, Bw w W → aP5 W B (.slice o1 n1 c1) (.slice o2 n2 c2) (.slice o3 n3 c3) (.slice o4 n4 c4) kv s) := fun W hb => h.below hb
 have h5 : Hid (∀ W, Bw w W → aC5 W B (.slice o3 n3 c3) kv) := fun W hb => (h.below hb).kept
 have g6 : Hid (kv.length = n3) := d4.symm;clear f0 f1 d4 f2 h hz
 have g7 : Hid (∀ W, Bw w W → aC0 W o1 n1 s.cs) := fun W hb => by
  have h := (f4.out W hb).disk.cells
  rw [c7.out.1] at h
  exact aC2 h
 have f5 : Hid (∀ W, Bw w W → aV6 W o2 n2 s.ws) := fun W hb => by
  have h := (f4.out W hb).disk.pend
  rw [c7.out.2.1] at h
  exact aN6 h
 have h6 : Hid (∀ W, Bw w W → BanA W o4 n4 s.bl) := fun W hb => by
  have h := (f4.out W hb).bans
  rw [c7.out.2.2.2] at h
  exact bB4 h
 have K0 := jnil w;go_enter func79, ntmps79;go_upto_region 1 with fail
 obtain ⟨q1, f6⟩ := exq (w.heap.size);obtain ⟨w1, d5⟩ := exq (w.alloc (.cells #[.slice o1 n1 c1, .slice o2 n2 c2, .slice o3 n3 c3, .slice o4 n4 c4, .int .i64 s.nx, .int .i64 s.sq] 31));have f7 := f6.symm;rw [← d5]; try rw [← f6];have g8 := hsa d5 f7;have bw := bal d5;have K1 := ja K0 d5 f7;clear bw d5 f7 K0;obtain ⟨q2, f8⟩ := exq (q1 + 1);obtain ⟨w2, d6⟩ := exq (w1.alloc (.cells #[.slice none 0 0, .slice none 0 0, .slice none 0 0, .slice none 0 0, .int .i64 0, .int .i64 0] 31));have f9 : w1.heap.size = q2 := by rw [f8]; exact g8
 rw [← d6]; try rw [← f8];have h7 := hsa d6 f9;have bw := bal d6;have K2 := ja K1 d6 f9;clear bw d6 f9 K1;clear h7 f8 g8 f6;go_upto_region 1 with fail
 have b1 : Hid (∀ W, Below w2.heap.size w2 W → W.heap[q1]? = some (.cells #[.slice o1 n1 c1, .slice o2 n2 c2, .slice o3 n3 c3, .slice o4 n4 c4, .int .i64 s.nx, .int .i64 s.sq] 31)) := fun W h => aA6 (jb K2 1 rfl) h
 go_cut [3] (fun sx wx => ∃ (q : Nat) (oC : Oa) (pC : Nat) (oP : Oa) (pP : Nat), sx = .pointer (some ⟨q, 0, none⟩) ∧ Hid (Below w2.heap.size w2 wx ∧ wx.heap[q]? = some (.cells #[.slice oC n1 pC, .slice oP n2 pP] 27) ∧ w2.heap.size ≤ q ∧ (wx).ownsRow w2.heap.size 9 1 (.slice oC n1 pC) n1 (s.cs.map Value.string) ∧ (wx).ownsRow w2.heap.size 128 2 (.slice oP n2 pP) n2 (aA4 s.ws)))
 case first =>
  refine wp_region_held_drew (S := fun W => W.heap[q1]? = some (.cells #[.slice o1 n1 c1, .slice o2 n2 c2, .slice o3 n3 c3, .slice o4 n4 c4, .int .i64 s.nx, .int .i64 s.sq] 31)) (by kernel_rfl) (b1.out _ (Below.refl _ _).drew) (fun _ => ?_)
  obtain ⟨w3, hX⟩ := exq w2.drew;have bw := bdr hX;rw [← hX];have K3 := jw K2 bw;have a2 := hid bw;clear bw hX;refine tkP 0 (.pointer (some ⟨q1, 0, none⟩)) 4 rfl rfl (b1.out _ a2.out) ?_;go_frame;refine tkP 1 (.pointer (some ⟨q1, 0, none⟩)) 5 rfl rfl (b1.out _ a2.out) ?_;go_frame;refine tkL 2 (.slice o1 n1 c1) 6 rfl rfl (Or.inl ⟨by rfl, by intro W hW; have a5 := hW; have y0 := c6c a5; go_simp⟩) (b1.out _ a2.out) ?_;go_frame;refine tkP 4 (.pointer (some ⟨q1, 0, none⟩)) 8 rfl rfl (b1.out _ a2.out) ?_;go_frame;refine tkP 5 (.pointer (some ⟨q1, 1, none⟩)) 9 rfl rfl (b1.out _ a2.out) ?_;go_frame;refine tkL 6 (.slice o2 n2 c2) 10 rfl rfl (Or.inl ⟨by rfl, by intro W hW; have a5 := hW; have y1 := c6c a5; go_simp⟩) (b1.out _ a2.out) ?_;go_frame;refine wpAnyH_ready (rs := [3, 9]) (by kernel_rfl) (by simp) ?_;refine AllReadyH.cons rfl (fun K hK => ?_) (AllReadyH.cons rfl (fun K hK => ?_) AllReadyH.nil)
  ·go_simp;refine (aL6 _ n1 _ s.cs _ (g7.out _ K3.hb) (by omega) (fun i hi => HZ.out.ct i (by rw [c7.out.1]; exact hi))).mono ?_
   rintro e w4 ⟨va, rfl, a3, bw⟩;obtain ⟨oC, pC, rfl⟩ := aA0 a3;have K4 := jj K3 (jcR (jN bw) a3 jhn);have f3 : Hid (∀ g, (Value.ownBlock (.slice oC n1 pC)) = some g → w3.heap.size ≤ g) := fun g hg => aC8 a3 hg
   clear a3;clear K3;have a4 := hxt a2 bw;have b6 : Hid (w4.ownsRow w2.heap.size 9 1 (.slice oC n1 pC) n1 (s.cs.map Value.string)) := aZ0 (jo K4 0 rfl) (fun g hg => Nat.le_trans a2.out.size (f3.out g hg))
   refine hK.out _ _ (b1.out _ a4.out) (fun _ => ?_)
   clear hK K bw a2;refine wpAnyH_ready (rs := [7, 9]) (by kernel_rfl) (by simp) ?_;refine AllReadyH.cons rfl (fun K hK => ?_) (AllReadyH.cons rfl (fun K hK => ?_) AllReadyH.nil)
   ·go_simp;refine (aR5 _ n2 _ s.ws _ (f5.out _ K4.hb) (by omega) HZ.out.wt).mono ?_;rintro e w5 ⟨va, rfl, a3, bw⟩;obtain ⟨oP, pP, rfl⟩ := aA0 a3;have K5 := jj K4 (jcR (jN bw) a3 jhn);have d3 : Hid (∀ g, (Value.ownBlock (.slice oP n2 pP)) = some g → w4.heap.size ≤ g) := fun g hg => aC8 a3 hg
    clear a3;clear K4;have a1 := hxt a4 bw;have a6 := hown b6 bw;have d0 : Hid (w5.ownsRow w2.heap.size 128 2 (.slice oP n2 pP) n2 (aA4 s.ws)) := aZ0 (jo K5 0 rfl) (fun g hg => Nat.le_trans a4.out.size (d3.out g hg))
    refine hK.out _ _ (b1.out _ a1.out) (fun _ => ?_)
    clear hK K bw a4;refine tkP 8 (.agg #[.slice oC n1 pC, .slice oP n2 pP]) 12 rfl rfl (b1.out _ a1.out) ?_;go_frame;refine rd1 9 rfl (fun K hK => ?_)
    go_simp;have c8 : Hid (Below w2.heap.size w2 (w5.alloc (.cells #[.slice none 0 0, .slice none 0 0] 27))) := a1.out.alloc a1.out.size _;refine hK.out _ _ (b1.out _ c8.out) (fun _ => ?_)
    clear hK K c8;obtain ⟨pa, ho⟩ := exq (w5.heap.size);obtain ⟨w6, b5⟩ := exq (w5.alloc (.cells #[.slice none 0 0, .slice none 0 0] 27));rw [← ho, ← b5];have b7 : Hid (w2.heap.size ≤ pa) := by show _ ≤ _; rw [ho]; exact a1.out.size
    have bw := bal b5;have K6 := jw K5 bw;have b2 := hxt a1 bw;have a7 := hown a6 bw;have a8 := hown d0 bw;have a0 : Hid (w6.heap[pa]? = some (.cells #[.slice none 0 0, .slice none 0 0] 27)) := by show _ = _; rw [b5, ho]; exact heap_alloc_new _ _
    clear bw ho b5 a1 K5;refine rd1 10 rfl (fun K hK => ?_)
    have d1 := c2f a0.out;obtain ⟨w7, hY⟩ := exq (((w6.setCell ⟨pa, 0, none⟩ (.slice oC n1 pC)).setCell ⟨pa, 1, none⟩ (.slice oP n2 pP)));have HY := hsy hY;have b3 : Hid (Below w2.heap.size w2 w7) := by show Below _ _ _; rw [hY]; exact ((b2.out.setCell (p := ⟨pa, 0, none⟩) b7.out _).setCell (p := ⟨pa, 1, none⟩) b7.out _)
    have b4 := hid (jbs [(0, _), (1, _)] a0.out hY);have a9 := hid (jrr [(0, _), (1, _)] a7.out hY a0.out);have b0 := hid (jrr [(0, _), (1, _)] a8.out hY a0.out);clear hY;go_simp;rw [HY.out];refine hK.out _ _ (b1.out _ b3.out) (fun _ => ?_)
    clear hK K HY d1;refine wdn ?_;go_wp2_with fail
    go_meet
    exact ⟨pa, oC, pC, oP, pP, rfl, ⟨b3.out, b4.out, b7.out, a9.out, b0.out⟩⟩
   go_simp;have c8 : Hid (Below w2.heap.size w2 (w4.alloc (.cells #[.slice none 0 0, .slice none 0 0] 27))) := a4.out.alloc a4.out.size _;refine hK.out _ _ (b1.out _ c8.out) (fun _ => ?_)
   clear hK K c8;obtain ⟨pa, ho⟩ := exq (w4.heap.size);obtain ⟨w5, b5⟩ := exq (w4.alloc (.cells #[.slice none 0 0, .slice none 0 0] 27));rw [← ho, ← b5];have b7 : Hid (w2.heap.size ≤ pa) := by show _ ≤ _; rw [ho]; exact a4.out.size
   have bw := bal b5;have K5 := jw K4 bw;have a1 := hxt a4 bw;have a6 := hown b6 bw;have b8 : Hid (w5.heap[pa]? = some (.cells #[.slice none 0 0, .slice none 0 0] 27)) := by show _ = _; rw [b5, ho]; exact heap_alloc_new _ _
   clear bw ho b5 a4 K4;refine rd1 7 rfl (fun K hK => ?_)
   go_simp;refine (aR5 _ n2 _ s.ws _ (f5.out _ K5.hb) (by omega) HZ.out.wt).mono ?_;rintro e w6 ⟨va, rfl, a3, bw⟩;obtain ⟨oP, pP, rfl⟩ := aA0 a3;have K6 := jj K5 (jcR (jN bw) a3 jhn);have d3 : Hid (∀ g, (Value.ownBlock (.slice oP n2 pP)) = some g → w5.heap.size ≤ g) := fun g hg => aC8 a3 hg
   clear a3;clear K5;have b2 := hxt a1 bw;have a0 := hblk b8 bw;have a7 := hown a6 bw;have a8 : Hid (w6.ownsRow w2.heap.size 128 2 (.slice oP n2 pP) n2 (aA4 s.ws)) := aZ0 (jo K6 0 rfl) (fun g hg => Nat.le_trans a1.out.size (d3.out g hg))
   refine hK.out _ _ (b1.out _ b2.out) (fun _ => ?_)
   clear hK K bw a1;refine tkP 8 (.agg #[.slice oC n1 pC, .slice oP n2 pP]) 12 rfl rfl (b1.out _ b2.out) ?_;go_frame;refine rd1 10 rfl (fun K hK => ?_)
   have d1 := c2f a0.out;obtain ⟨w7, hY⟩ := exq (((w6.setCell ⟨pa, 0, none⟩ (.slice oC n1 pC)).setCell ⟨pa, 1, none⟩ (.slice oP n2 pP)));have HY := hsy hY;have b3 : Hid (Below w2.heap.size w2 w7) := by show Below _ _ _; rw [hY]; exact ((b2.out.setCell (p := ⟨pa, 0, none⟩) b7.out _).setCell (p := ⟨pa, 1, none⟩) b7.out _)
   have b4 := hid (jbs [(0, _), (1, _)] a0.out hY);have a9 := hid (jrr [(0, _), (1, _)] a7.out hY a0.out);have b0 := hid (jrr [(0, _), (1, _)] a8.out hY a0.out);clear hY;go_simp;rw [HY.out];refine hK.out _ _ (b1.out _ b3.out) (fun _ => ?_)
   clear hK K HY d1;refine wdn ?_;go_wp2_with fail
   go_meet
   exact ⟨pa, oC, pC, oP, pP, rfl, ⟨b3.out, b4.out, b7.out, a9.out, b0.out⟩⟩
  go_simp;have c8 : Hid (Below w2.heap.size w2 (w3.alloc (.cells #[.slice none 0 0, .slice none 0 0] 27))) := a2.out.alloc a2.out.size _;refine hK.out _ _ (b1.out _ c8.out) (fun _ => ?_)
  clear hK K c8;obtain ⟨pa, ho⟩ := exq (w3.heap.size);obtain ⟨w4, b5⟩ := exq (w3.alloc (.cells #[.slice none 0 0, .slice none 0 0] 27));rw [← ho, ← b5];have b7 : Hid (w2.heap.size ≤ pa) := by show _ ≤ _; rw [ho]; exact a2.out.size
  have bw := bal b5;have K4 := jw K3 bw;have a4 := hxt a2 bw;have d7 : Hid (w4.heap[pa]? = some (.cells #[.slice none 0 0, .slice none 0 0] 27)) := by show _ = _; rw [b5, ho]; exact heap_alloc_new _ _
  clear bw ho b5 a2 K3;refine rd1 3 rfl (fun K hK => ?_)
  go_simp;refine (aL6 _ n1 _ s.cs _ (g7.out _ K4.hb) (by omega) (fun i hi => HZ.out.ct i (by rw [c7.out.1]; exact hi))).mono ?_
  rintro e w5 ⟨va, rfl, a3, bw⟩;obtain ⟨oC, pC, rfl⟩ := aA0 a3;have K5 := jj K4 (jcR (jN bw) a3 jhn);have f3 : Hid (∀ g, (Value.ownBlock (.slice oC n1 pC)) = some g → w4.heap.size ≤ g) := fun g hg => aC8 a3 hg
  clear a3;clear K4;have a1 := hxt a4 bw;have b8 := hblk d7 bw;have a6 : Hid (w5.ownsRow w2.heap.size 9 1 (.slice oC n1 pC) n1 (s.cs.map Value.string)) := aZ0 (jo K5 0 rfl) (fun g hg => Nat.le_trans a4.out.size (f3.out g hg))
  refine hK.out _ _ (b1.out _ a1.out) (fun _ => ?_)
  clear hK K bw a4;refine rd1 7 rfl (fun K hK => ?_)
  go_simp;refine (aR5 _ n2 _ s.ws _ (f5.out _ K5.hb) (by omega) HZ.out.wt).mono ?_;rintro e w6 ⟨va, rfl, a3, bw⟩;obtain ⟨oP, pP, rfl⟩ := aA0 a3;have K6 := jj K5 (jcR (jN bw) a3 jhn);have d3 : Hid (∀ g, (Value.ownBlock (.slice oP n2 pP)) = some g → w5.heap.size ≤ g) := fun g hg => aC8 a3 hg
  clear a3;clear K5;have b2 := hxt a1 bw;have a0 := hblk b8 bw;have a7 := hown a6 bw;have a8 : Hid (w6.ownsRow w2.heap.size 128 2 (.slice oP n2 pP) n2 (aA4 s.ws)) := aZ0 (jo K6 0 rfl) (fun g hg => Nat.le_trans a1.out.size (d3.out g hg))
  refine hK.out _ _ (b1.out _ b2.out) (fun _ => ?_)
  clear hK K bw a1;refine tkP 8 (.agg #[.slice oC n1 pC, .slice oP n2 pP]) 12 rfl rfl (b1.out _ b2.out) ?_;go_frame;refine rd1 10 rfl (fun K hK => ?_)
  have d1 := c2f a0.out;obtain ⟨w7, hY⟩ := exq (((w6.setCell ⟨pa, 0, none⟩ (.slice oC n1 pC)).setCell ⟨pa, 1, none⟩ (.slice oP n2 pP)));have HY := hsy hY;have b3 : Hid (Below w2.heap.size w2 w7) := by show Below _ _ _; rw [hY]; exact ((b2.out.setCell (p := ⟨pa, 0, none⟩) b7.out _).setCell (p := ⟨pa, 1, none⟩) b7.out _)
  have b4 := hid (jbs [(0, _), (1, _)] a0.out hY);have a9 := hid (jrr [(0, _), (1, _)] a7.out hY a0.out);have b0 := hid (jrr [(0, _), (1, _)] a8.out hY a0.out);clear hY;go_simp;rw [HY.out];refine hK.out _ _ (b1.out _ b3.out) (fun _ => ?_)
  clear hK K HY d1;refine wdn ?_;go_wp2_with fail
  go_meet
  exact ⟨pa, oC, pC, oP, pP, rfl, ⟨b3.out, b4.out, b7.out, a9.out, b0.out⟩⟩
 case rest =>
 obtain ⟨q3, oC, pC, oP, pP, g9, HF⟩ := hcut;rw [g9];obtain ⟨w3, h0⟩ := exq wc;rw [← h0] at HF ⊢;clear g9 h0 b1;obtain ⟨bw, c9, h8, c5, c6⟩ := HF.out;have d8 : Hid (q2 ≠ q3) := fun e => by have h1 := (Array.getElem?_eq_some_iff.1 (jb K2 0 rfl)).1; omega
 have K3 := jj K2 (jcR (jcR (jN bw) c5 jhn) c6 (jhc (jty c6 c5) jhn));have f3 := hlo c5;have d3 := hlo c6;have d9 := hid c9;clear bw c9 h8 HF c5 c6 K2;go_upto_region 2 with fail
 refine wp_region_held_drew (S := fun W => W.heap[q3]? = some (.cells #[.slice oC n1 pC, .slice oP n2 pP] 27) ∧ W.heap[q1]? = some (.cells #[.slice o1 n1 c1, .slice o2 n2 c2, .slice o3 n3 c3, .slice o4 n4 c4, .int .i64 s.nx, .int .i64 s.sq] 31)) (by kernel_rfl) ⟨d9.out, (jb K3 3 rfl)⟩ (fun _ => ?_)
 obtain ⟨w4, hX⟩ := exq w3.drew;have bw := bdr hX;rw [← hX];have K4 := jw K3 bw;have e0 := hblk d9 bw;have c0 := And.intro e0.out (jb K4 3 rfl);clear bw hX K3;refine tkL 0 (.agg #[.slice oC n1 pC, .slice oP n2 pP]) 13 rfl rfl (Or.inl ⟨by rfl, by intro W hW; obtain ⟨b9, a5⟩ := hW; have y0 := c2c b9; go_simp⟩) c0 ?_;go_frame;refine tkP 1 (.pointer (some ⟨q1, 2, none⟩)) 14 rfl rfl c0 ?_;go_frame;refine tkL 2 (.slice o3 n3 c3) 15 rfl rfl (Or.inl ⟨by rfl, by intro W hW; obtain ⟨b9, a5⟩ := hW; have y2 := c6c a5; go_simp⟩) c0 ?_;go_frame;refine tkP 4 (.pointer (some ⟨q1, 3, none⟩)) 17 rfl rfl c0 ?_;go_frame;refine tkL 5 (.slice o4 n4 c4) 18 rfl rfl (Or.inl ⟨by rfl, by intro W hW; obtain ⟨b9, a5⟩ := hW; have y3 := c6c a5; go_simp⟩) c0 ?_;go_frame;refine tkP 7 (.pointer (some ⟨q1, 4, none⟩)) 20 rfl rfl c0 ?_;go_frame;refine tkL 8 (.int .i64 s.nx) 21 rfl rfl (Or.inl ⟨by rfl, by intro W hW; obtain ⟨b9, a5⟩ := hW; have y4 := c6c a5; go_simp⟩) c0 ?_;go_frame;refine tkP 9 (.pointer (some ⟨q1, 5, none⟩)) 22 rfl rfl c0 ?_;go_frame;refine tkL 10 (.int .i64 s.sq) 23 rfl rfl (Or.inl ⟨by rfl, by intro W hW; obtain ⟨b9, a5⟩ := hW; have y5 := c6c a5; go_simp⟩) c0 ?_;go_frame;refine rd1 3 rfl (fun K hK => ?_)
 go_simp;refine (bW3 _ kv B _ (h5.out _ K4.hb) (by rw [g6.out]; omega) (fun x hx => HZ.out.kv g5.out hx)).mono ?_
 rintro e w5 ⟨VK, kw, rfl, g0, g1, bw⟩;have h9 : Hid (kw.map (·.1) = s.ks) := g0.trans g5.out;obtain ⟨oK, pK, h2⟩ := g1.len;rw [show kw.length = n3 from by rw [← g6.out, ← List.length_map (f := (·.1)), g0, List.length_map]] at h2;subst h2;have e5 : Hid (aB2 w5 w.heap.size ([(⟨9, 1, (.slice oC n1 pC), n1, s.cs.map Value.string⟩ : Rw), (⟨128, 2, (.slice oP n2 pP), n2, aA4 s.ws⟩ : Rw)] ++ aF2 (.slice oK n3 pK) kw)) := (bG0 ⟨(jo K4 1 rfl), (jo K4 0 rfl)⟩).more bw g1 (Nat.le_refl _) K4.hb.size
 have i0 : Hid (∀ r ∈ ([(⟨9, 1, (.slice oC n1 pC), n1, s.cs.map Value.string⟩ : Rw), (⟨128, 2, (.slice oP n2 pP), n2, aA4 s.ws⟩ : Rw)] ++ aF2 (.slice oK n3 pK) kw), 31 ≠ r.T) := by
  intro r hr
  rcases List.mem_append.1 hr with hr | hr
  ·simp only [List.mem_cons, List.not_mem_nil, or_false] at hr
   rcases hr with rfl | rfl
   ·exact (by decide : (31 : TypeId) ≠ 9)
   ·exact (by decide : (31 : TypeId) ≠ 128)
  ·rcases cD6 hr with e | e | e <;> rw [e] <;> decide
 clear g0 g1;have K5 := jw K4 bw;have e6 := hblk e0 bw;clear bw K4;have e7 := e5;clear e5;have h3 := And.intro e6.out (jb K5 3 rfl);refine hK.out _ _ h3 (fun _ => ?_)
 clear hK K c0;refine rd1 6 rfl (fun K hK => ?_)
 go_simp;refine (bW4 _ n4 _ s.bl _ (h6.out _ K5.hb) (by omega) HZ.out.bt).mono ?_;rintro e w6 ⟨va, rfl, a3, bw⟩;obtain ⟨oB, pB, rfl⟩ := aA0 a3;have e5 : Hid (aB2 w6 w.heap.size (([(⟨9, 1, (.slice oC n1 pC), n1, s.cs.map Value.string⟩ : Rw), (⟨128, 2, (.slice oP n2 pP), n2, aA4 s.ws⟩ : Rw)] ++ aF2 (.slice oK n3 pK) kw) ++ [(⟨44, 4, (.slice oB n4 pB), n4, aB3 s.bl⟩ : Rw)])) := e7.out.more bw (aB2.one (r := (⟨44, 4, (.slice oB n4 pB), n4, aB3 s.bl⟩ : Rw)) a3) (Nat.le_refl _) K5.hb.size
 have i1 : Hid (∀ r ∈ (([(⟨9, 1, (.slice oC n1 pC), n1, s.cs.map Value.string⟩ : Rw), (⟨128, 2, (.slice oP n2 pP), n2, aA4 s.ws⟩ : Rw)] ++ aF2 (.slice oK n3 pK) kw) ++ [(⟨44, 4, (.slice oB n4 pB), n4, aB3 s.bl⟩ : Rw)]), 31 ≠ r.T) := by
  intro r hr
  rcases List.mem_append.1 hr with hr | hr
  ·exact i0.out r hr
  ·rw [List.mem_singleton.1 hr]
   exact (by decide : (31 : TypeId) ≠ 44)
 clear a3;have K6 := jw K5 bw;have e8 := hblk e6 bw;have d2 := hid (e7.out.below bw);clear bw K5;clear d2;have d2 := e5;clear e5;have g2 := And.intro e8.out (jb K6 3 rfl);refine hK.out _ _ g2 (fun _ => ?_)
 clear hK K h3;refine tkP 11 (.agg #[.slice oC n1 pC, .slice oP n2 pP, .slice oK n3 pK, .slice oB n4 pB, .int .i64 s.nx, .int .i64 s.sq]) 24 rfl rfl g2 ?_;go_frame;refine rd1 12 rfl (fun K hK => ?_)
 have d1 := c6f (jb K6 2 rfl);obtain ⟨w7, hY⟩ := exq (((((((w6.setCell ⟨q2, 0, none⟩ (.slice oC n1 pC)).setCell ⟨q2, 1, none⟩ (.slice oP n2 pP)).setCell ⟨q2, 2, none⟩ (.slice oK n3 pK)).setCell ⟨q2, 3, none⟩ (.slice oB n4 pB)).setCell ⟨q2, 4, none⟩ (.int .i64 s.nx)).setCell ⟨q2, 5, none⟩ (.int .i64 s.sq)));have HY := hsy hY;have K7 := jss K6 2 [(0, _), (1, _), (2, _), (3, _), (4, _), (5, _)] hY;have g3 := hid (jbo [(0, _), (1, _), (2, _), (3, _), (4, _), (5, _)] e8.out hY d8.out.symm);have g4 := hid (jrs [(0, _), (1, _), (2, _), (3, _), (4, _), (5, _)] d2.out hY (jb K6 2 rfl) (i1.out));clear hY K6;go_simp;rw [HY.out];have h4 := And.intro g3.out (jb K7 3 rfl);refine hK.out _ _ h4 (fun _ => ?_)
 clear hK K HY g2 d1;clear h4;refine wdn ?_;go_wp2_with fail
 have e9 := c6c (jb K7 2 rfl);refine bodyPost_ret (v := .agg #[.slice oC n1 pC, .slice oP n2 pP, .slice oK n3 pK, .slice oB n4 pB, .int .i64 s.nx, .int .i64 s.sq]) (by simp [results, results79, go_sem, e9]) rfl ?_;refine ⟨.slice oC n1 pC, .slice oP n2 pP, .slice oK n3 pK, .slice oB n4 pB, kw, rfl, ⟨?_, h9.out⟩, K7.hb⟩;have h := g4.out;unfold aP6;rw [c7.out.1, c7.out.2.1, c7.out.2.2.2];exact h
theorem cL3 (q : Nat) (k o : KpD) (k1 k2 k3 o1 o2 o3 : Value) (w : World) (hq : w.heap[q]? = some (.cells #[.string o.p, o1, o2, .int .i64 o.st, o3, .string o.b, .int .i64 o.t, .int .i64 o.a, .int .i64 o.q] 52)) (h : aQ9 w k k1 k2 k3) (h' : aQ9 w o o1 o2 o3) (hs : aH8 k) (hs2 : aH8 o) :
  Calls prog 173 #[.agg #[.string k.p, k1, k2, .int .i64 k.st, k3, .string k.b, .int .i64 k.t, .int .i64 k.a, .int .i64 k.q], .pointer (some ⟨q, 0, none⟩)] w fun e w' => aA5 (k.q = o.q ∨ aZ3 k o) w e w' := by
 obtain ⟨Bk, a7⟩ := h;have a5 : ObjO w Bk k1 k.xs.length k.xs k2 k.ys.length k.ys k3 k.fs.length k.fs := aH2 a7;obtain ⟨b5, b6, rfl⟩ := aA0 a5.names;obtain ⟨b7, b8, rfl⟩ := aA0 a5.vals;obtain ⟨b9, c0, rfl⟩ := aA0 a5.flds;have c2 : Hid (∀ W, Bw w W → aQ9 W k (.slice b5 k.xs.length b6) (.slice b7 k.ys.length b8) (.slice b9 k.fs.length c0)) := fun W hb => aQ9.below ⟨Bk, a7⟩ hb
 clear a7 a5;obtain ⟨Bo, a8⟩ := h';have a6 : ObjO w Bo o1 o.xs.length o.xs o2 o.ys.length o.ys o3 o.fs.length o.fs := aH2 a8;obtain ⟨c3, c4, rfl⟩ := aA0 a6.names;obtain ⟨c5, c6, rfl⟩ := aA0 a6.vals;obtain ⟨c7, c8, rfl⟩ := aA0 a6.flds;have c9 : Hid (∀ W, Bw w W → aQ9 W o (.slice c3 o.xs.length c4) (.slice c5 o.ys.length c6) (.slice c7 o.fs.length c8)) := fun W hb => aQ9.below ⟨Bo, a8⟩ hb
 clear a8 a6;have a1 := hid hq;have HS := hid hs;have d0 := hid hs2;clear hq hs hs2;have K0 := jnil w;go_enter func173, ntmps173;go_upto_region 1 with fail
 obtain ⟨q1, a9⟩ := exq (w.heap.size);obtain ⟨w1, a4⟩ := exq (w.alloc (.cells #[.string k.p, .slice b5 k.xs.length b6, .slice b7 k.ys.length b8, .int .i64 k.st, .slice b9 k.fs.length c0, .string k.b, .int .i64 k.t, .int .i64 k.a, .int .i64 k.q] 52));have b0 := a9.symm;rw [← a4]; try rw [← a9];have d1 := hsa a4 b0;have bw := bal a4;have K1 := ja K0 a4 b0;have a0 := hblk a1 bw;clear bw a4 b0 K0;clear d1 a9;by_cases hc1 : k.q = o.q
 ·have b1 : ((k.q : Int) == (o.q : Int)) = true := by simpa using hc1
  have b2 : ((k.q : Int) != (o.q : Int)) = false := by simpa using hc1
  have a2 := hid hc1;clear hc1;have b3 := c9c a0.out;have d2 := c9c (jb K1 0 rfl);go_wp2_with fail
  go_ret;exact aA5.yes (.inl a2.out) K1.hb
 have b1 : ((k.q : Int) == (o.q : Int)) = false := by simpa using hc1
 have b2 : ((k.q : Int) != (o.q : Int)) = true := by simpa using hc1
 have a2 := hid hc1;clear hc1;have a3 := c9c a0.out;have b4 := c9c (jb K1 0 rfl);go_wp2_with fail
 refine (cQ3 k o _ _ _ _ _ _ _ (c2.out _ K1.hb) (c9.out _ K1.hb) HS.out d0.out).mono ?_;rintro e w2 ⟨ut, rfl, c1, bw⟩;have K2 := jw K1 bw;clear bw K1;clear a3 b4;go_wp2_with fail
 go_ret;exact ⟨ut, rfl, ⟨fun h => .inr (c1.1 h), fun h => c1.2 (h.resolve_left a2.out)⟩, K2.hb⟩
theorem cQ5 (q : Nat) (k o : KpD) (k1 k2 k3 o1 o2 o3 : Value) (w : World) (hq : w.heap[q]? = some (.cells #[.string o.p, o1, o2, .int .i64 o.st, o3, .string o.b, .int .i64 o.t, .int .i64 o.a, .int .i64 o.q] 52)) (h : aQ9 w k k1 k2 k3) (h' : aQ9 w o o1 o2 o3) (hs : aH8 k) (hs2 : aH8 o) :
  Calls prog 173 #[.agg #[.string k.p, k1, k2, .int .i64 k.st, k3, .string k.b, .int .i64 k.t, .int .i64 k.a, .int .i64 k.q], .pointer (some ⟨q, 0, none⟩)] w fun e w' => e = .returned (.bool (aZ9 k o)) ∧ Below w.heap.size w w' := (cL3 q k o k1 k2 k3 o1 o2 o3 w hq h h' hs hs2).mono fun e w' ⟨u, h1, h2, h3⟩ => ⟨by
 have e2 : u = aZ9 k o := by
  rw [Bool.eq_iff_iff, aW2]
  exact h2
 rw [h1, e2], h3⟩
theorem bM1 {P : Program} {t : TypeId} (w : World) : (Instr.makeMap t none).run P w = .ok (.map (some w.heap.size)) (w.alloc (.map #[] 0)) := by
 simp [Instr.makeMap, Result.andThen]
theorem bW5 (V : Value) (kv : Ks) (B : Nat) (w : World) (h : aC5 w B V kv) (hn : kv.length ≤ 1048576) (ha : ∀ x ∈ kv, 0 ≤ x.1.a ∧ x.1.a ≤ 1000) (hap : aM3 kv) (hsl : aM4 kv) (hso : aR4 (fun z : KpD => z.q) (kv.map (·.1))) (hsm : ∀ x ∈ kv, aH8 x.1) :
  Calls prog 78 #[V] w fun e w' => ∃ g c, e = .returned (.slice (some ⟨g, 0, none⟩) (aN4 kv).length c) ∧ w'.ownsRow w.heap.size 52 9 (.slice (some ⟨g, 0, none⟩) (aN4 kv).length c) (aN4 kv).length ((aN4 kv).flatMap kpC) ∧ Below w.heap.size w w' := by
 obtain ⟨o3, c3, e3⟩ := aA0 h.row;subst e3;obtain ⟨n3, e0⟩ := exq kv.length;rw [← e0] at h ⊢;obtain ⟨ks, f6⟩ := exq (kv.map (·.1));have h6 : Hid (kv.map (·.1) = ks) := f6.symm;have a7 : Hid (kv.length = n3) := e0.symm;have i4 : n3 ≤ 1048576 := by rw [e0]; exact hn
 have b5 : Hid (∀ W, Bw w W → aC5 W B (.slice o3 n3 c3) kv) := fun W hb => aC5.below h hb
 clear e0 f6 h hn;have f7 := hid ha;have e4 := hid hap;have f8 := hid hsl;have h7 := hid hso;have d2 := hid hsm;have i5 : ∀ W : World, (Instr.makeMap 191 none).run prog W = .ok (.map (some W.heap.size)) (W.alloc (.map #[] 0)) := fun W => bM1 W
 clear ha hap hsl hso hsm;have K0 := jnil w;go_enter func78, ntmps78;go_upto_region 2 with fail
 obtain ⟨qm1, a4⟩ := exq (w.heap.size);obtain ⟨w1, e1⟩ := exq (w.alloc (.map #[] 0));rw [← e1]; try rw [← a4];have bw := bal e1;have K1 := jw K0 bw;have b6 : Hid (w.heap.size ≤ qm1) := by show _ ≤ _; rw [a4]; exact K0.hb.size
 have b7 : Hid (aT4 w1 qm1 0 (.map [])) := by unfold aT4; show World.ownsMap _ _ _ _ _ _ _; rw [e1, a4]; exact World.ownsMap_made _ _ _ _
 clear bw e1 a4 K0;go_wp2_with fail
 go_loopw [9] (fun i wr => ∃ (j nn : Nat) (D : DataW Value), (j ≤ n3 ∧ nn ≤ j) ∧ i = .int .i64 (j : Int) ∧ Hid (aT4 wr qm1 nn D ∧ aW1 D (aN4 (kv.take j)) ∧ Bw w (wr))) (fun i _ => n3 - (intOf i).toNat)
 case atStart => exact ⟨0, 0, .map [], ⟨Nat.zero_le _, Nat.le_refl _⟩, rfl, b7.out, by rw [List.take_zero]; exact aW1.nil, K1.hb⟩
 case round =>
  obtain ⟨j, nn, D, hj, rfl, HW⟩ := hrel;by_cases hlt : (j : Int) < (n3 : Int)
  rotate_left
  ·have a1 := HW.out.2.2;have e5 : Hid (aW1 D (aN4 (kv.take j))) := HW.out.2.1;have a2 : Hid (aT4 wr qm1 nn D) := HW.out.1;clear HW;have h8 : Hid (kv.take j = kv) := by show _ = _; rw [List.take_of_length_le (by rw [a7.out]; omega)]
   have e6 : Hid (aW1 D (aN4 kv)) := by have h := e5.out; rw [h8.out] at h; exact h
   have h9 : (aN4 kv).length ≤ 1048576 := by have h1 := (aO8 kv).length_le; rw [a7.out] at h1; omega
   go_wp2_with fail
   refine (dL1 qm1 nn D (aN4 kv) _ a2.out e6.out (e4.out.sub (aO8 kv)) (f8.out.sub (fun z hz => (aO8 kv).subset hz)) (by omega) h9).mono ?_
   rintro e w3 ⟨i6, gL, pL, rfl, hp, d3, hown, bw⟩;have e := dE2 h7.out hp d3;subst e;have i0 := hid hown;have i1 : Hid (w.heap.size ≤ wr.heap.size) := a1.size;clear hp d3 hown;have a5 := hbt a1 bw;have a3 : Hid (aT4 w3 qm1 nn (D)) := bR6 a2.out bw;clear a1 bw;have K3 := jz K1 a5 (jzn _);go_wp2_with fail
   go_ret;exact ⟨gL, pL, rfl, aF5 i0.out i1.out, a5⟩
  have a1 := HW.out.2.2;have e5 : Hid (aW1 D (aN4 (kv.take j))) := HW.out.2.1;have a2 : Hid (aT4 wr qm1 nn D) := HW.out.1;clear HW;obtain ⟨g3, p3, hV, _, _⟩ := (b5.out _ a1).look j (by rw [a7.out]; omega);rw [a7.out] at hV;injection hV with hV1 hV2 hV3
  subst hV1 hV3;clear hV2;obtain ⟨xX, d4⟩ := exq (kvAt kv j);have b8 : Hid (xX ∈ kv) := by show _ ∈ _; rw [d4]; exact cS6 kv j (by rw [a7.out]; omega)
  have i7 : Hid (kpAt ks j = xX.1) := by show _ = _; rw [d4, ← h6.out]; exact (cS7 kv j (by rw [a7.out]; omega)).symm
  have d5 : Hid (kv.take (j + 1) = kv.take j ++ [xX]) := by show _ = _; rw [d4]; exact cJ1 kv j (by rw [a7.out]; omega)
  have a6 : Hid (∀ W, Bw w W → KpAt W g3 j xX) := fun W hb => by
   obtain ⟨g', p', hV, _, hc⟩ := (b5.out W hb).look j (by rw [a7.out]; omega)
   injection hV with hV1 _ _
   cases hV1
   rw [d4]
   exact hc
  clear d4;obtain ⟨x, e7, e8, e9⟩ := xX;obtain ⟨a8, a9, hu⟩ := aA0 ((b5.out _ a1).names b8.out);have d6 : e7 = .slice a8 x.xs.length a9 := hu;subst d6;clear hu;obtain ⟨b0, b1, hu⟩ := aA0 ((b5.out _ a1).vals b8.out);have d6 : e8 = .slice b0 x.ys.length b1 := hu;subst d6;clear hu;obtain ⟨b2, b3, hu⟩ := aA0 ((b5.out _ a1).flds b8.out);have d6 : e9 = .slice b2 x.fs.length b3 := hu;subst d6;clear hu;have f9 := (a6.out _ a1).c0;have g0 := (a6.out _ a1).c1;have g1 := (a6.out _ a1).c2;have g2 := (a6.out _ a1).c3;have g4 := (a6.out _ a1).c4;have g5 := (a6.out _ a1).c5;have g6 := (a6.out _ a1).c6;have g7 := (a6.out _ a1).c7;have g8 := (a6.out _ a1).c8;dsimp only at f9 g0 g1 g2 g4 g5 g6 g7 g8;go_upto_region 5 with fail
  obtain ⟨q1, f0⟩ := exq (wr.heap.size);obtain ⟨w3, d7⟩ := exq (wr.alloc (.cells #[.string x.p, .slice a8 x.xs.length a9, .slice b0 x.ys.length b1, .int .i64 x.st, .slice b2 x.fs.length b3, .string x.b, .int .i64 x.t, .int .i64 x.a, .int .i64 x.q] 52));have f1 := f0.symm;rw [← d7]; try rw [← f0];have i2 := hsa d7 f1;have bw := bal d7;have a5 := hbt a1 bw;have a3 : Hid (aT4 w3 qm1 nn (D)) := bR6 a2.out bw;have d8 := hnew d7 f1;clear a1 bw d7 f1;clear i2 f0;clear f9 g0 g1 g2 g4 g5 g6 g7 g8
  have g9 : Hid (∀ W, w3.grownBy W (some qm1) → ∀ z ∈ aN4 (kv.take j), Calls prog 173 #[kpX z, .pointer (some ⟨q1, 0, none⟩)] W fun e w' => e = .returned (.bool (aZ9 z.1 x)) ∧ Below W.heap.size W w') := fun W hg z hz => by
   have h0 : Bw w W := a5.grown hg a5.size (by intro g hg; cases hg; exact b6.out)
   have h4 : z ∈ kv := List.mem_of_mem_take ((aO8 _).subset hz)
   exact cQ5 q1 z.1 x z.2.1 z.2.2.1 z.2.2.2 _ _ _ W (dD9 a3.out d8.out hg) ((b5.out W h0).read h4) ((b5.out W h0).read b8.out) (d2.out _ h4) (d2.out _ b8.out)
  have K3 := jz K1 a5 (jzn _);go_wp2_with fail
  refine (cW5 173 q1 qm1 nn D (aN4 (kv.take j)) (fun z => aZ9 z.1 x) _ a3.out e5.out (e4.out.sub ((aO8 _).trans (List.take_sublist _ _))) (f8.out.sub (fun z hz => List.mem_of_mem_take ((aO8 _).subset hz))) (enters_of func173 (by kernel_rfl) rfl) g9.out).mono ?_
  rintro e w4 ⟨rfl, ⟨D1, b9, d9⟩, a0⟩;have d1 := a3.out;have e2 : Bw w (w4) := a5.grown a0 a5.size (by intro g hg; cases hg; exact b6.out);have i8 := hid a0.size;have f2 : Hid (w4.heap[q1]? = some (.cells #[.string x.p, .slice a8 x.xs.length a9, .slice b0 x.ys.length b1, .int .i64 x.st, .slice b2 x.fs.length b3, .string x.b, .int .i64 x.t, .int .i64 x.a, .int .i64 x.q] 52)) := dD9 d1 d8.out a0;have c9 : Hid (aT4 w4 qm1 nn D1) := b9;have f3 : Hid (Maps.IsMap D1) := World.ownsMap.isMap b9;have f4 := hid d9;have K4 := jz K3 e2 (jzn _);clear b9 d9 a0 d1 g9 a5 K3;have f5 := c9c f2.out;have d1 := c9.out;unfold aT4 at d1;go_wp2_with (first | (at_mapUpdate; refine wpList_mapUpdate_own _ rfl _ _ _ 191 rfl 3 52 bY5 underlying191 mpR qm1 (nn) (D1) rfl d1 (by unfold maxLen; omega) _ _ (.int .i64 x.a) rfl rfl (dS1 (f7.out _ b8.out).1 (f7.out _ b8.out).2) (.held (.agg #[.string x.p, .slice a8 x.xs.length a9, .slice b0 x.ys.length b1, .int .i64 x.st, .slice b2 x.fs.length b3, .string x.b, .int .i64 x.t, .int .i64 x.a, .int .i64 x.q])) [] rfl ?_) | go_in)
  intro w5 b4 a0;clear f5;have h5 : Bw w (w5) := e2.grown a0 e2.size (by intro g hg; cases hg; exact b6.out);have i9 := hid a0.size;have d0 : Hid (aT4 w5 qm1 (nn + 1) (((D1).put (.int .i64 x.a) (.held (.agg #[.string x.p, .slice a8 x.xs.length a9, .slice b0 x.ys.length b1, .int .i64 x.st, .slice b2 x.fs.length b3, .string x.b, .int .i64 x.t, .int .i64 x.a, .int .i64 x.q]))))) := b4;have K5 := jz K4 h5 (jzn _);clear b4 a0 d1 e2 K4
  have i3 : Hid (aW1 (D1.put (.int .i64 x.a) (.held (kpX ((x, .slice a8 x.xs.length a9, .slice b0 x.ys.length b1, .slice b2 x.fs.length b3) : KpD × Value × Value × Value)))) (aN4 (kv.take (j + 1)))) := by
   show aW1 _ _
   rw [d5.out, bI9]
   refine f4.out.put f3.out ((x, .slice a8 x.xs.length a9, .slice b0 x.ys.length b1, .slice b2 x.fs.length b3) : KpD × Value × Value × Value) (fun z hz => ?_)
   have h1 := List.mem_filter.1 hz
   have h2 := e4.out
   unfold aM3 at h2
   have h3 : (kv.take j ++ [((x, .slice a8 x.xs.length a9, .slice b0 x.ys.length b1, .slice b2 x.fs.length b3) : KpD × Value × Value × Value)]).Pairwise (fun x y => x.1.a ≠ y.1.a) := by rw [← d5.out]; exact h2.sublist (List.take_sublist _ _)
   exact (List.pairwise_append.1 h3).2.2 z ((aO8 _).subset h1.1) _ (List.mem_singleton.2 rfl)
  go_wp2_with fail
  go_roundw
  case rel => exact ⟨j + 1, nn + 1, _, by omega, by go_num, d0.out, i3.out, h5⟩
  case measure => simp [intOf]; omega
theorem bW6 (o : Oa) (n c : Nat) (kv : Ks) (B : Nat) (w : World) (h : w.ownsRow B 52 9 (.slice o n c) n (kv.flatMap kpC)) (hn : kv.length = n) (hnn : n ≤ 1048576) (hin : ∀ x ∈ kv, 5 ≤ x.1.a ∧ x.1.a ≤ 19) :
  Calls prog 80 #[.slice o n c] w fun e w' => e = .returned (.int .i64 (bL6 (kv.map (·.1)))) ∧ Below w.heap.size w w' := by
 have a4 : Hid (∀ W, Bw w W → W.ownsRow B 52 9 (.slice o n c) n (kv.flatMap kpC)) := fun W hb => aA8 h hb (fun g hg => aB0 h hg)
 have a0 := hid hn;have a5 := hid hin;clear h hn hin;have K0 := jnil w;go_enter func80, ntmps80;by_cases hc1 : (n : Int) = 0
 ·have a2 : ((n : Int) == (0 : Int)) = true := by simpa using hc1
  have a3 : ((n : Int) != (0 : Int)) = false := by simpa using hc1
  have a1 := hid hc1;clear hc1;go_wp2_with fail
  go_ret;have e : kv = [] := List.eq_nil_of_length_eq_zero (by have h1 := a1.out; have h2 := a0.out; omega);exact ⟨by rw [e]; rfl, K0.hb⟩
 have a2 : ((n : Int) == (0 : Int)) = false := by simpa using hc1
 have a3 : ((n : Int) != (0 : Int)) = true := by simpa using hc1
 have a1 := hid hc1;clear hc1;obtain ⟨m, hm⟩ : ∃ m : Nat, n = m + 1 := ⟨n - 1, by have := a1.out; omega⟩;subst hm;have a7 : (((m + 1 : Nat) : Int) - 1) = (m : Int) := by omega
 obtain ⟨g, e, _⟩ := aM0 (a4.out _ K0.hb) m (by have := a0.out; omega) a0.out;subst e;obtain ⟨x, hx⟩ := exq (kv[m]'(by have := a0.out; omega));have a6 : Hid (x ∈ kv) := by show _ ∈ _; rw [hx]; exact List.getElem_mem _
 have a8 : Hid (bL6 (kv.map (·.1)) = aN7 x.1.a) := by
  show _ = _
  have hl : 0 < (kv.map (·.1)).length := by rw [List.length_map]; have := a0.out; omega
  rw [cX0 hl, hx]
  congr 1
  simp [a0.out]
 have r7 : w.cell? ⟨g, m * 9 + 7, none⟩ = some (.int .i64 x.1.a) := by
  obtain ⟨g2, e2, h2⟩ := aM0 (a4.out _ K0.hb) m (by have := a0.out; omega) a0.out
  injection e2 with e2
  injection e2 with e2
  subst e2
  rw [hx]
  exact h2.c7
 clear hx;go_wp2_with fail
 refine (bW2 x.1.a _ (a5.out _ a6.out).1 (a5.out _ a6.out).2).mono ?_;rintro e w1 ⟨rfl, bw⟩;have K1 := jw K0 bw;clear bw K0;clear r7 a7;go_wp2_with fail
 go_ret;exact ⟨by rw [a8.out]; rfl, K1.hb⟩
def NoTy (rs : List Rw) : Prop := ∀ T, T ≠ 9 → T ≠ 128 → T ≠ 52 → T ≠ 44 → T ≠ 232 → ∀ r ∈ rs, T ≠ r.T
theorem cT7 {v1 v2 V VB : Value} {kv : Ks} {cs : Ts} {ws : List (Int × ByteArray)} {bl : Bs} : NoTy (aP6 v1 v2 V VB kv cs ws bl) := fun T h1 h2 h3 h4 h5 r hr => by
 unfold aP6 at hr
 rcases List.mem_append.1 hr with hr | hr
 ·rcases List.mem_append.1 hr with hr | hr
  ·simp only [List.mem_cons, List.not_mem_nil, or_false] at hr
   rcases hr with rfl | rfl
   · exact h1
   · exact h2
  ·rcases cD6 hr with e | e | e
   · rw [e]; exact h3
   · rw [e]; exact h1
   · rw [e]; exact h5
 · rw [List.mem_singleton.1 hr]; exact h4
theorem aB2.none {w : World} {base : Nat} {rs : List Rw} (h : aB2 w base rs) (T z : Nat) : aB2 w base (rs ++ [⟨T, z, .slice none 0 0, 0, []⟩]) := by
 refine ⟨fun r hr => ?_, List.pairwise_append.2 ⟨h.apart, List.pairwise_singleton _ _, fun a _ b hb g _ a0 => ?_⟩⟩
 ·rcases List.mem_append.1 hr with hr | hr
  ·exact h.own r hr
  rw [List.mem_singleton.1 hr];exact World.ownsRow_nil _ _ _ _
 rw [List.mem_singleton.1 hb] at a0;cases a0
theorem bN0 : newC.length = 20 := by simp [newC]
theorem bM2 (w : World) :
  Calls prog 105 #[] w fun e w' => aR3 newS w e w' := by
 have K0 := jnil w;go_enter func105, ntmps105;go_upto_region 1 with fail
 obtain ⟨q1, a5⟩ := exq (w.heap.size);obtain ⟨w1, a1⟩ := exq (w.alloc (.cells #[.slice none 0 0, .slice none 0 0, .slice none 0 0, .slice none 0 0, .int .i64 0, .int .i64 0] 31));have a6 := a5.symm;rw [← a1]; try rw [← a5];have b0 := hsa a1 a6;have bw := bal a1;have K1 := ja K0 a1 a6;clear bw a1 a6 K0;clear b0 a5;go_wp2_with fail
 refine (bR2 _).mono ?_;rintro e w2 ⟨b1, b2, rfl, a9, bw⟩;have a0 : aJ3 w2 w1.heap.size b1 20 newC b2 0 [] := by rw [← bN0]; exact a9
 obtain ⟨oC, pC, rfl⟩ := aA0 a0.cells;obtain ⟨oP, pP, rfl⟩ := aA0 a0.pend;have a2 : Hid (aB2 w2 w.heap.size ([(⟨9, 1, (.slice oC 20 pC), 20, newC.map Value.string⟩ : Rw), (⟨128, 2, (.slice oP 0 pP), 0, aA4 []⟩ : Rw)])) := (bG0 a0).wide K1.hb.size
 have b3 : Hid (∀ r ∈ ([(⟨9, 1, (.slice oC 20 pC), 20, newC.map Value.string⟩ : Rw), (⟨128, 2, (.slice oP 0 pP), 0, aA4 []⟩ : Rw)]), 31 ≠ r.T) := by
  intro r hr
  simp only [List.mem_cons, List.not_mem_nil, or_false] at hr
  rcases hr with rfl | rfl
  ·exact (by decide : (31 : TypeId) ≠ 9)
  ·exact (by decide : (31 : TypeId) ≠ 128)
 clear a9 a0;have K2 := jw K1 bw;clear bw K1;have a7 : Hid (aB2 (w2) w.heap.size ([(⟨9, 1, (.slice oC 20 pC), 20, newC.map Value.string⟩ : Rw), (⟨128, 2, (.slice oP 0 pP), 0, aA4 []⟩ : Rw)])) := a2.out;clear a2;have b4 := c6f (jb K2 0 rfl);go_wp2_with fail
 obtain ⟨w8, a4⟩ := exq ((((((w2.setCell ⟨q1, 0, none⟩ (.slice oC 20 pC)).setCell ⟨q1, 1, none⟩ (.slice oP 0 pP)).setCell ⟨q1, 2, none⟩ (.slice none 0 0)).setCell ⟨q1, 3, none⟩ (.slice none 0 0)).setCell ⟨q1, 4, none⟩ (.int .i64 5)).setCell ⟨q1, 5, none⟩ (.int .i64 1));rw [← a4];have K8 := jss K2 0 [(0, _), (1, _), (2, _), (3, _), (4, _), (5, _)] a4;have a8 := hid (jrs [(0, _), (1, _), (2, _), (3, _), (4, _), (5, _)] a7.out a4 (jb K2 0 rfl) b3.out);clear a4 K2;have a3 := c6c (jb K8 0 rfl);refine bodyPost_ret (v := .agg #[.slice oC 20 pC, .slice oP 0 pP, .slice none 0 0, .slice none 0 0, .int .i64 5, .int .i64 1]) (by simp [results, results105, go_sem, a3]) rfl ?_;refine ⟨.slice oC 20 pC, .slice oP 0 pP, .slice none 0 0, .slice none 0 0, [], rfl, ⟨?_, rfl⟩, K8.hb⟩;have h := (a8.out.none 52 9).none 44 4;unfold aP6;show aB2 _ _ ([(⟨9, 1, .slice oC 20 pC, newC.length, newC.map Value.string⟩ : Rw), (⟨128, 2, (.slice oP 0 pP), 0, aA4 []⟩ : Rw)] ++ [⟨52, 9, .slice none 0 0, 0, []⟩] ++ [⟨44, 4, .slice none 0 0, 0, []⟩])
 rw [bN0];exact h
theorem bL1 (a : Int) (w : World) (h0 : 0 ≤ a) (h1 : a ≤ 1000) :
  Calls prog 59 #[.int .i64 a] w fun e w' => e = .returned (.int .i64 (aN7 a)) ∧ w' = w := by
 by_cases h : a = 19
 rotate_left
 ·have hb : (a == 19) = false := by simpa using h
  have HA : Hid (a + 1 = aN7 a) := by show _ = _; unfold aN7; rw [if_neg h]
  clear h;go_enter func59, ntmps59;go_wp2
  go_ret;exact ⟨congrArg (fun x : Int => Ending.returned (.int .i64 x)) HA.out, rfl⟩
 have hb : (a == 19) = true := by simpa using h
 have HA : Hid ((5 : Int) = aN7 a) := by show _ = _; unfold aN7; rw [if_pos h]
 clear h;go_enter func59, ntmps59;go_wp2
 go_ret;exact ⟨congrArg (fun x : Int => Ending.returned (.int .i64 x)) HA.out, rfl⟩
theorem bM3 (w : World) :
  Calls prog 28 #[] w fun e w' => aR3 newS w e w' := by
 have K0 := jnil w;go_enter func28, ntmps28;go_upto_region 1 with fail
 obtain ⟨q1, a5⟩ := exq (w.heap.size);obtain ⟨w1, a1⟩ := exq (w.alloc (.cells #[.slice none 0 0, .slice none 0 0, .slice none 0 0, .slice none 0 0, .int .i64 0, .int .i64 0] 31));have a6 := a5.symm;rw [← a1]; try rw [← a5];have b0 := hsa a1 a6;have bw := bal a1;have K1 := ja K0 a1 a6;clear bw a1 a6 K0;clear b0 a5;go_wp2_with fail
 refine (bT5 _).mono ?_;rintro e w2 ⟨b1, b2, rfl, a9, bw⟩;have a0 : aJ3 w2 w1.heap.size b1 20 newC b2 0 [] := by rw [← bN0]; exact a9
 obtain ⟨oC, pC, rfl⟩ := aA0 a0.cells;obtain ⟨oP, pP, rfl⟩ := aA0 a0.pend;have a2 : Hid (aB2 w2 w.heap.size ([(⟨9, 1, (.slice oC 20 pC), 20, newC.map Value.string⟩ : Rw), (⟨128, 2, (.slice oP 0 pP), 0, aA4 []⟩ : Rw)])) := (bG0 a0).wide K1.hb.size
 have b3 : Hid (∀ r ∈ ([(⟨9, 1, (.slice oC 20 pC), 20, newC.map Value.string⟩ : Rw), (⟨128, 2, (.slice oP 0 pP), 0, aA4 []⟩ : Rw)]), 31 ≠ r.T) := by
  intro r hr
  simp only [List.mem_cons, List.not_mem_nil, or_false] at hr
  rcases hr with rfl | rfl
  ·exact (by decide : (31 : TypeId) ≠ 9)
  ·exact (by decide : (31 : TypeId) ≠ 128)
 clear a9 a0;have K2 := jw K1 bw;clear bw K1;have a7 : Hid (aB2 (w2) w.heap.size ([(⟨9, 1, (.slice oC 20 pC), 20, newC.map Value.string⟩ : Rw), (⟨128, 2, (.slice oP 0 pP), 0, aA4 []⟩ : Rw)])) := a2.out;clear a2;have b4 := c6f (jb K2 0 rfl);go_wp2_with fail
 obtain ⟨w8, a4⟩ := exq ((((((w2.setCell ⟨q1, 0, none⟩ (.slice oC 20 pC)).setCell ⟨q1, 1, none⟩ (.slice oP 0 pP)).setCell ⟨q1, 2, none⟩ (.slice none 0 0)).setCell ⟨q1, 3, none⟩ (.slice none 0 0)).setCell ⟨q1, 4, none⟩ (.int .i64 5)).setCell ⟨q1, 5, none⟩ (.int .i64 1));rw [← a4];have K8 := jss K2 0 [(0, _), (1, _), (2, _), (3, _), (4, _), (5, _)] a4;have a8 := hid (jrs [(0, _), (1, _), (2, _), (3, _), (4, _), (5, _)] a7.out a4 (jb K2 0 rfl) b3.out);clear a4 K2;have a3 := c6c (jb K8 0 rfl);refine bodyPost_ret (v := .agg #[.slice oC 20 pC, .slice oP 0 pP, .slice none 0 0, .slice none 0 0, .int .i64 5, .int .i64 1]) (by simp [results, results28, go_sem, a3]) rfl ?_;refine ⟨.slice oC 20 pC, .slice oP 0 pP, .slice none 0 0, .slice none 0 0, [], rfl, ⟨?_, rfl⟩, K8.hb⟩;have h := (a8.out.none 52 9).none 44 4;unfold aP6;show aB2 _ _ ([(⟨9, 1, .slice oC 20 pC, newC.length, newC.map Value.string⟩ : Rw), (⟨128, 2, (.slice oP 0 pP), 0, aA4 []⟩ : Rw)] ++ [⟨52, 9, .slice none 0 0, 0, []⟩] ++ [⟨44, 4, .slice none 0 0, 0, []⟩])
 rw [bN0];exact h
theorem dL2 {x : KpD × Value × Value × Value} {kv : Ks} (h : x ∈ kv) : List.Sublist (kpR x) (kv.flatMap kpR) := by
 obtain ⟨s, t, rfl⟩ := List.append_of_mem h;rw [List.flatMap_append, List.flatMap_cons];exact (List.sublist_append_left _ _).trans (List.sublist_append_right _ _)
theorem cT8 {W : World} {B : Nat} {V : Value} {kvu : Ks} (hr : W.ownsRow B 52 9 V kvu.length (kvu.flatMap kpC)) (hI : aB2 W B (kvu.flatMap kpR)) : aC5 W B V kvu := ⟨fun r hr2 => by
  rcases List.mem_cons.1 hr2 with rfl | hr2
  · exact hr
  · exact hI.own r hr2, List.pairwise_cons.2 ⟨fun r hr2 g e1 e2 => aW9 hr (hI.own r hr2) (aO9 (by decide) (by decide) r hr2) e1 e2, hI.apart⟩⟩
theorem cQ6 {w W : World} {B : Nat} {v1 v2 V VB : Value} {cs : Ts} {ws : List (Int × ByteArray)} {bl : Bs} {kvt : Ks} (hd : aJ3 w B v1 cs.length cs v2 ws.length ws) (hB : B ≤ w.heap.size) (hb : Below w.heap.size w W) (hL : W.ownsRow w.heap.size 44 4 VB bl.length (aB3 bl)) (hr : W.ownsRow w.heap.size 52 9 V kvt.length (kvt.flatMap kpC)) (hI : aB2 W w.heap.size (kvt.flatMap kpR)) : aB2 W B (aP6 v1 v2 V VB kvt cs ws bl) := by
 have h3 : aB2 w B [(⟨9, 1, v1, cs.length, cs.map Value.string⟩ : Rw), ⟨128, 2, v2, ws.length, aA4 ws⟩] := ⟨fun r hr => by
   simp only [List.mem_cons, List.not_mem_nil, or_false] at hr
   rcases hr with rfl | rfl
   ·exact hd.cells
   ·exact hd.pend, List.pairwise_cons.2 ⟨fun r hr g e1 e2 => by
   rw [List.mem_singleton.1 hr] at e2
   exact aW9 hd.cells hd.pend (by decide) e1 e2, List.pairwise_singleton _ _⟩⟩
 have hK := cT8 hr hI
 have a1 : ∀ r ∈ aF2 V kvt, (44 : TypeId) ≠ r.T := fun r a0 => by
  rcases List.mem_cons.1 a0 with rfl | a0
  ·show (44 : TypeId) ≠ 52
   decide
  ·exact aO9 (by decide) (by decide) r a0
 have h2 : aB2 W w.heap.size (aF2 V kvt ++ [(⟨44, 4, VB, bl.length, aB3 bl⟩ : Rw)]) := ⟨fun r a0 => by
   rcases List.mem_append.1 a0 with a0 | a0
   ·exact hK.own r a0
   ·rw [List.mem_singleton.1 a0]; exact hL, List.pairwise_append.2 ⟨hK.apart, List.pairwise_singleton _ _, fun r a0 r' a2 g e1 e2 => by
   rw [List.mem_singleton.1 a2] at e2
   exact aW9 hL (hK.own r a0) (a1 r a0) e2 e1⟩⟩
 have h4 := h3.more hb h2 (Nat.le_refl _) hB;unfold aP6;rw [List.append_assoc];exact h4
theorem cF5 (v1 v2 : Value) (n1 : Nat) (cs : Ts) (n2 : Nat) (ws : List (Int × ByteArray)) (B : Nat) (w : World) (h : aJ3 w B v1 n1 cs v2 n2 ws) (hB : B ≤ w.heap.size) (hn1 : n1 ≤ 1048576) (hn2 : n2 ≤ 1048576) (hz1 : ∀ i, i < n1 → (aA7 cs i).size ≤ 1048576) (hz2 : ∀ x ∈ ws, x.2.size ≤ 1048576) (hT : aG9 w) (hLN : aH5 w) (hH : aN9 w) :
  Calls prog 19 #[.agg #[v1, v2]] w fun e w' => (¬ aR2 cs ws ∧ aR3 newS w e w') ∨ (aR2 cs ws ∧ ∃ s, aZ8 cs ws s ∧ aR3 s w e w') := by
 obtain ⟨i0, hi, q5, j1, j2⟩ := info_parts bB5;obtain ⟨q6, q7⟩ := bS9 h;subst q6 q7;obtain ⟨o1, c1, rfl⟩ := aA0 h.cells;obtain ⟨o2, c2, rfl⟩ := aA0 h.pend;have q8 := hid h;have q9 := hid hB;have HD : Hid (∀ W, Bw w W → aJ3 W B (.slice o1 cs.length c1) cs.length cs (.slice o2 ws.length c2) ws.length ws) := fun W hb => ⟨aA8 h.cells hb (fun g hg => aB0 h.cells hg), aA8 h.pend hb (fun g hg => aB0 h.pend hg)⟩
 have j3 := hid hz1;have j4 := hid hz2;have o5 : Hid (∀ W, Bw w W → aG9 W) := fun W hb => hT.below hb
 have o6 : Hid (∀ W, Bw w W → aH5 W) := fun W hb => hLN.below hb hLN.lt
 have o7 : Hid (∀ W, Bw w W → aN9 W) := fun W hb => hH.below hb
 clear h hB hz1 hz2 hT hLN hH;have K0 := jnil w;go_enter func19, ntmps19;go_upto_region 1 with fail
 obtain ⟨q1, j5⟩ := exq (w.heap.size);obtain ⟨w1, g5⟩ := exq (w.alloc (.cells #[.slice o1 cs.length c1, .slice o2 ws.length c2] 27));have hz1 := j5.symm;rw [← g5]; try rw [← j5];have o8 := hsa g5 hz1;have bw := bal g5;have K1 := ja K0 g5 hz1;clear bw g5 hz1 K0;obtain ⟨q2, j6⟩ := exq (q1 + 1);obtain ⟨w2, g6⟩ := exq (w1.alloc (.cells #[.slice none 0 0, .slice none 0 0, .slice none 0 0, .slice none 0 0, .int .i64 0, .int .i64 0] 31));have hz2 : w1.heap.size = q2 := by rw [j6]; exact o8
 rw [← g6]; try rw [← j6];have r0 := hsa g6 hz2;have bw := bal g6;have K2 := ja K1 g6 hz2;clear bw g6 hz2 K1;clear r0 j6 o8 j5;have b0 := c2c (jb K2 1 rfl);go_wp2_with fail
 refine (bC9 _ _ cs.length cs ws.length ws B _ (HD.out _ K2.hb) (by omega) (by omega)).mono ?_;rintro e w3 ⟨ud, rfl, i4, bw⟩;have K3 := jw K2 bw;clear bw K2;clear b0;cases ud
 ·have j7 : Hid (¬ (aR2 cs ws)) := fun h => nomatch i4.2 h
  clear i4;have g7 : Hid (w.heap.size ≤ w3.heap.size) := K3.hb.size;go_wp2_with fail
  refine (bM3 _).mono ?_;rintro e w4 ⟨va, vb, vc, vd, g1, rfl, e5, bw⟩;obtain ⟨j8, j9, rfl⟩ := aA0 e5.disk.cells;obtain ⟨k0, k1, rfl⟩ := aA0 e5.disk.pend;obtain ⟨k2, k3, rfl⟩ := e5.kept.len;obtain ⟨k4, k5, rfl⟩ := aA0 e5.bans;have K4 := jw K3 bw;clear bw K3;have k6 : Hid (aB2 (w4) w.heap.size (aP6 (.slice j8 newS.cs.length j9) (.slice k0 newS.ws.length k1) (.slice k2 g1.length k3) (.slice k4 newS.bl.length k5) g1 newS.cs newS.ws newS.bl)) := aB2.wide e5.1 g7.out;have k7 : Hid (g1.map (·.1) = newS.ks) := e5.2;clear e5;have r1 := c6f (jb K4 0 rfl);go_wp2_with fail
  obtain ⟨k8, b6⟩ := exq ((((((w4.setCell ⟨q2, 0, none⟩ (.slice j8 newS.cs.length j9)).setCell ⟨q2, 1, none⟩ (.slice k0 newS.ws.length k1)).setCell ⟨q2, 2, none⟩ (.slice k2 g1.length k3)).setCell ⟨q2, 3, none⟩ (.slice k4 newS.bl.length k5)).setCell ⟨q2, 4, none⟩ (.int .i64 newS.nx)).setCell ⟨q2, 5, none⟩ (.int .i64 newS.sq));rw [← b6];have d4 := jss K4 0 [(0, _), (1, _), (2, _), (3, _), (4, _), (5, _)] b6;have b1 := hid (jrs [(0, _), (1, _), (2, _), (3, _), (4, _), (5, _)] k6.out b6 (jb K4 0 rfl) (cT7 31 (by decide) (by decide) (by decide) (by decide) (by decide)));clear b6 K4;have b2 := c6c (jb d4 0 rfl);refine bodyPost_ret (v := .agg #[.slice j8 newS.cs.length j9, .slice k0 newS.ws.length k1, .slice k2 g1.length k3, .slice k4 newS.bl.length k5, .int .i64 newS.nx, .int .i64 newS.sq]) (by simp [results, results19, go_sem, b2]) rfl ?_;exact .inl ⟨j7.out, _, _, _, _, g1, rfl, ⟨b1.out, k7.out⟩, d4.hb⟩
 have k9 : Hid (aR2 cs ws) := i4.1 rfl;clear i4;have b0 := c2c (jb K3 1 rfl);go_wp2_with fail
 refine (cK9 _ _ cs.length cs ws.length ws B _ (HD.out _ K3.hb) (by omega) (by omega) j3.out j4.out (o5.out _ K3.hb) (o6.out _ K3.hb) (o7.out _ K3.hb)).mono ?_;rintro e w4 ⟨bl, um0, vL, o9, g8, g9, rfl, e6, bw⟩;obtain ⟨oL, pL, rfl⟩ := aA0 e6;have a9 := hid g8;have b7 : Hid (bl.length ≤ 5 ∧ aV0 cs ws bl.length) := ⟨o9, g9⟩;clear g8 g9 o9;have K4 := jj K3 (jcR (jN bw) e6 jhn);clear e6;clear bw K3;clear b0;have b0 := c2c (jb K4 2 rfl);have g7 : Hid (w.heap.size ≤ w4.heap.size) := K4.hb.size;go_wp2_with fail
 refine (bT9 _ _ cs.length cs ws.length ws B _ (HD.out _ K4.hb) (by omega) (by omega) j3.out j4.out (o5.out _ K4.hb) (o6.out _ K4.hb) (o7.out _ K4.hb)).mono ?_;rintro e w5 ⟨kvs, l0, vK, rfl, e7, p0, l1, l2, p1, bw⟩;obtain ⟨oK, pK, rfl⟩ := aA0 e7;have K5 := jj K4 (jcR (jN bw) e7 jhn);clear e7;clear bw K4;have l3 : Hid (aB2 (w5) w.heap.size (kvs.flatMap kpR)) := aB2.wide p0 g7.out;have p2 : Hid (aN8 cs ws 15 l0 ∧ kvs.map (·.1) = aG3 (fun z : KpD => z.q) l0) := ⟨l1, l2⟩
 have p3 := hid p1;have b8 : Hid ((∀ x ∈ kvs, 5 ≤ x.1.a ∧ x.1.a ≤ 19) ∧ aM3 kvs ∧ kvs.length ≤ 15 ∧ aR4 (fun z : KpD => z.q) (kvs.map (·.1)) ∧ ∀ x ∈ kvs, aH8 x.1 ∧ 0 ≤ x.1.q ∧ x.1.q ≤ 99999) := cX8 l1 l2
 have h0 := b8.out.2.2.1;clear p0 l1 l2 p1;clear b0;go_wp2_with fail
 go_loopw [4, 5, 21] (fun la un i wr => ∃ (j : Nat) (um : Int) (kvu : Ks) (oU : Oa) (pU : Nat), j ≤ kvs.length ∧ i = .int .i64 (j : Int) ∧ la = .int .i64 um ∧ un = .slice oU kvu.length pU ∧ Hid (Bw w wr ∧ wr.heap[q1]? = some (.cells #[.slice o1 cs.length c1, .slice o2 ws.length c2] 27) ∧ wr.heap[q2]? = some (.cells #[.slice none 0 0, .slice none 0 0, .slice none 0 0, .slice none 0 0, .int .i64 0, .int .i64 0] 31) ∧ wr.ownsRow w.heap.size 44 4 (.slice oL bl.length pL) bl.length (aB3 bl) ∧ wr.ownsRow w.heap.size 52 9 (.slice oK kvs.length pK) kvs.length (kvs.flatMap kpC) ∧ wr.ownsRow w.heap.size 52 9 (.slice oU kvu.length pU) kvu.length (kvu.flatMap kpC) ∧ aB2 wr w.heap.size (kvs.flatMap kpR)) ∧ Hid (∀ g, (Value.ownBlock (.slice oK kvs.length pK)) = some g → (Value.ownBlock (.slice oU kvu.length pU)) ≠ some g) ∧ Hid (kvu = (kvs.take j).filter (fun x : KpD × Value × Value × Value => @decide (¬ AnyK bl x.1) (Classical.propDecidable _))) ∧ Hid (um = ((kvs.take j).map (·.1)).foldl (fun m k => max m k.q) um0)) (fun _ _ i _ => kvs.length - (intOf i).toNat)
 case atStart => exact ⟨0, um0, [], none, 0, Nat.zero_le _, rfl, rfl, rfl, ⟨K5.hb, (jb K5 3 rfl), (jb K5 2 rfl), (jo K5 1 rfl), (jo K5 0 rfl), ⟨rfl, .inl ⟨rfl, rfl⟩⟩, l3.out⟩, (fun g _ h => by simp [Value.ownBlock] at h), (by show _ = _; simp), (by show _ = _; simp)⟩
 case round =>
  obtain ⟨j, um, kvu, oU, pU, hj, rfl, rfl, rfl, HW, e8, h2, i5⟩ := hrel
  have s7 : kvu.length ≤ 15 := by
   have h1 := List.length_filter_le (fun x : KpD × Value × Value × Value => @decide (¬ AnyK bl x.1) (Classical.propDecidable _)) (kvs.take j)
   rw [← h2.out, List.length_take] at h1
   omega
  by_cases hlt : (j : Int) < (kvs.length : Int)
  rotate_left
  ·have g3 := HW.out.1;have e9 := hid HW.out.2.1;have f0 := hid HW.out.2.2.1;have b3 : Hid (wr.ownsRow w.heap.size 44 4 (.slice oL bl.length pL) bl.length (aB3 bl)) := HW.out.2.2.2.1;have a3 : Hid (wr.ownsRow w.heap.size 52 9 (.slice oK kvs.length pK) kvs.length (kvs.flatMap kpC)) := HW.out.2.2.2.2.1;have a6 : Hid (wr.ownsRow w.heap.size 52 9 (.slice oU kvu.length pU) kvu.length (kvu.flatMap kpC)) := HW.out.2.2.2.2.2.1;have b9 : Hid (aB2 (wr) w.heap.size (kvs.flatMap kpR)) := HW.out.2.2.2.2.2.2;clear HW
   have r2 : 0 ≤ um ∧ um ≤ 99999 := by
    rw [i5.out]
    exact dF0 (fun k hk => by obtain ⟨x, hx, rfl⟩ := List.mem_map.1 hk; exact (b8.out.2.2.2.2 x (List.mem_of_mem_take hx)).2) a9.out.range
   obtain ⟨r3, r4⟩ := r2;have r5 : j = kvs.length := by omega
   obtain ⟨wA, r6⟩ := exq wr;subst r6;have a4 : Hid (List.Sublist kvu kvs) := by show List.Sublist _ _; rw [h2.out]; exact List.filter_sublist.trans (List.take_sublist _ _)
   have p4 : Hid (aC5 (wA) w.heap.size (.slice oU kvu.length pU) kvu) := cT8 a6.out (b9.out.sub (bH1 kpR a4.out));have s8 : kvu.length ≤ 15 := Nat.le_trans a4.out.length_le h0;go_wp2_with fail
   refine (bW5 _ kvu w.heap.size _ p4.out (by omega) (fun x hx => by have := b8.out.1 x (a4.out.subset hx); omega) (b8.out.2.1.sub a4.out) (p3.out.sub (fun x hx => a4.out.subset hx)) ((List.pairwise_map.2 ((List.pairwise_map.1 b8.out.2.2.2.1).sublist a4.out))) (fun x hx => (b8.out.2.2.2.2 x (a4.out.subset hx)).1)).mono ?_
   rintro e w7 ⟨gT, pT, rfl, f1, bw⟩;obtain ⟨a5, c0⟩ := exq (aN4 kvu);rw [← c0] at f1 ⊢;have r7 := hid c0;have i6 : Hid (List.Sublist a5 kvs) := by show List.Sublist _ _; rw [c0]; exact (aO8 _).trans a4.out
   have s9 : a5.length ≤ 15 := Nat.le_trans i6.out.length_le h0;clear c0 p4;have h3 := hbt g3 bw;have a7 := hown b3 bw;have b4 := hown a3 bw;have b5 := hown a6 bw;have c3 := hblk e9 bw;have f2 := hblk f0 bw;have c4 := hid (b9.out.below bw);have h4 := hwd f1 g3.size;clear f1;clear g3 bw;have K7 := jz K5 h3 (jzr b4.out (jzr a7.out (jzb f2.out (jzb c3.out (jzn _)))));go_upto_region 13 with fail
   refine wp_region_held_drew (S := fun W => W.heap[q1]? = some (.cells #[.slice o1 cs.length c1, .slice o2 ws.length c2] 27)) (by kernel_rfl) c3.out (fun _ => ?_)
   obtain ⟨w8, hX⟩ := exq w7.drew;have bw := bdr hX;rw [← hX];have K8 := jw K7 bw;have a0 := hown b5 bw;have d5 := hown h4 bw;have c5 := hid (c4.out.below bw);have f3 := (jb K8 3 rfl);clear h3 bw hX K7;refine tkL 0 (.agg #[.slice o1 cs.length c1, .slice o2 ws.length c2]) 41 rfl rfl (Or.inl ⟨by rfl, by intro W hW; have l4 := hW; have y0 := c2c l4; go_simp⟩) f3 ?_;go_frame;refine tkP 1 (.slice (some ⟨gT, 0, none⟩) a5.length pT) 42 rfl rfl f3 (tkP 2 (.slice oL bl.length pL) 43 rfl rfl f3 (tkP 3 (.slice (some ⟨gT, 0, none⟩) a5.length pT) 44 rfl rfl f3 ?_));go_frame;refine tkP 5 (.int .i64 um) 46 rfl rfl f3 ?_;go_frame;refine tkL 6 (.int .i64 (um + 1)) 47 rfl rfl (Or.inl ⟨by rfl, by intro W _; go_simp <;> (rw [IntKind.wrap_i64]; omega)⟩) f3 ?_;go_frame;refine rd1 4 rfl (fun K hK => ?_)
   go_simp;refine (bW6 _ a5.length pT a5 w.heap.size _ d5.out rfl (by omega) (fun x hx => b8.out.1 x (i6.out.subset hx))).mono ?_
   rintro e w9 ⟨rfl, bw⟩;obtain ⟨un, l5⟩ := exq (bL6 (a5.map (·.1)));rw [← l5];have r8 := hid l5;clear l5;have K9 := jw K8 bw;have h5 := hown a0 bw;have d6 := hown d5 bw;have c6 := hid (c5.out.below bw);clear bw K8;have l6 := (jb K9 3 rfl);refine hK.out _ _ l6 (fun _ => ?_)
   clear hK K f3;refine tkP 7 (.agg #[.slice o1 cs.length c1, .slice o2 ws.length c2, .slice (some ⟨gT, 0, none⟩) a5.length pT, .slice oL bl.length pL, .int .i64 un, .int .i64 (um + 1)]) 48 rfl rfl l6 ?_;go_frame;refine rd1 8 rfl (fun K hK => ?_)
   go_simp;have g7 : Hid (w.heap.size ≤ w9.heap.size) := K9.hb.size;have r9 : Hid (aP5 (w9) B (.slice o1 cs.length c1) (.slice o2 ws.length c2) (.slice (some ⟨gT, 0, none⟩) a5.length pT) (.slice oL bl.length pL) a5 (⟨cs, ws, a5.map (·.1), bl, un, um + 1⟩ : ShD)) := ⟨cQ6 q8.out q9.out K9.hb (jo K9 1 rfl) d6.out (c6.out.sub (bH1 kpR i6.out)), rfl⟩;have s0 : Hid (cF4 (⟨cs, ws, a5.map (·.1), bl, un, um + 1⟩ : ShD)) := ⟨by dsimp only; omega, by dsimp only; omega, by dsimp only; rw [List.length_map]; omega, by have := b7.out.1; dsimp only; omega, j3.out, j4.out, fun k hk => by obtain ⟨x, hx, rfl⟩ := List.mem_map.1 hk; exact (b8.out.2.2.2.2 x (i6.out.subset hx)).1, fun z hz => ⟨Nat.le_trans (a9.out.small z hz).1 (by decide), Nat.le_trans (a9.out.small z hz).2 (by decide)⟩⟩
   refine (bU1 _ _ _ _ a5 (⟨cs, ws, a5.map (·.1), bl, un, um + 1⟩ : ShD) B _ r9.out s0.out).mono ?_;rintro e k8 ⟨va, vb, vc, vd, g4, rfl, d7, bw⟩;obtain ⟨l7, l8, rfl⟩ := aA0 d7.disk.cells;obtain ⟨l9, m0, rfl⟩ := aA0 d7.disk.pend;obtain ⟨m1, m2, rfl⟩ := d7.kept.len;obtain ⟨m3, m4, rfl⟩ := aA0 d7.bans;dsimp only at d7 ⊢;have d4 := jw K9 bw;have f4 := hown h5 bw;have f5 := hown d6 bw;have h6 := hid (c6.out.below bw);clear bw K9;clear f4;clear f5;clear h6;have b1 : Hid (aB2 k8 w.heap.size (aP6 (.slice l7 cs.length l8) (.slice l9 ws.length m0) (.slice m1 g4.length m2) (.slice m3 bl.length m4) g4 cs ws bl)) := aB2.wide d7.1 g7.out;have k7 : Hid (g4.map (·.1) = a5.map (·.1)) := d7.2;clear d7;have h7 := (jb d4 3 rfl);refine hK.out _ _ h7 (fun _ => ?_)
   clear hK K l6;refine rd1 9 rfl (fun K hK => ?_)
   have s1 := c6f (jb d4 2 rfl);obtain ⟨t0, hY⟩ := exq (((((((k8.setCell ⟨q2, 0, none⟩ (.slice l7 cs.length l8)).setCell ⟨q2, 1, none⟩ (.slice l9 ws.length m0)).setCell ⟨q2, 2, none⟩ (.slice m1 g4.length m2)).setCell ⟨q2, 3, none⟩ (.slice m3 bl.length m4)).setCell ⟨q2, 4, none⟩ (.int .i64 un)).setCell ⟨q2, 5, none⟩ (.int .i64 (um + 1))));have HY := hsy hY;have m5 := jss d4 2 [(0, _), (1, _), (2, _), (3, _), (4, _), (5, _)] hY;have h8 := hid (jrs [(0, _), (1, _), (2, _), (3, _), (4, _), (5, _)] b1.out hY (jb d4 2 rfl) (cT7 31 (by decide) (by decide) (by decide) (by decide) (by decide)));clear hY d4;go_simp;rw [HY.out];have h9 := (jb m5 3 rfl);refine hK.out _ _ h9 (fun _ => ?_)
   clear hK K HY h7 s1;clear h9;refine wdn ?_;go_wp2_with fail
   have b2 := c6c (jb m5 2 rfl);refine bodyPost_ret (v := .agg #[.slice l7 cs.length l8, .slice l9 ws.length m0, .slice m1 g4.length m2, .slice m3 bl.length m4, .int .i64 un, .int .i64 (um + 1)]) (by simp [results, results19, go_sem, b2]) rfl ?_;have p5 : Hid (kvs.take j = kvs) := by show _ = _; rw [r5, List.take_length]
   have p6 := cX7 (kvr := kvs) (f := (fun k : KpD => @decide (¬ AnyK bl k) (Classical.propDecidable _))) (fun k => by simp) b7.out.1 a9.out b7.out.2 p2.out.1 p2.out.2
   have e1 : a5 = aN4 (kvs.filter (fun x => (fun k : KpD => @decide (¬ AnyK bl k) (Classical.propDecidable _)) x.1)) := by rw [r7.out, h2.out, p5.out]
   have e2 : um = (kvs.map (·.1)).foldl (fun m k => max m k.q) um0 := by rw [i5.out, p5.out]
   rw [← e1, ← e2, ← r8.out] at p6;exact .inr ⟨k9.out, _, p6, _, _, _, _, g4, rfl, ⟨h8.out, k7.out⟩, m5.hb⟩
  have g3 := HW.out.1;have e9 := hid HW.out.2.1;have f0 := hid HW.out.2.2.1;have b3 : Hid (wr.ownsRow w.heap.size 44 4 (.slice oL bl.length pL) bl.length (aB3 bl)) := HW.out.2.2.2.1;have a3 : Hid (wr.ownsRow w.heap.size 52 9 (.slice oK kvs.length pK) kvs.length (kvs.flatMap kpC)) := HW.out.2.2.2.2.1;have a6 : Hid (wr.ownsRow w.heap.size 52 9 (.slice oU kvu.length pU) kvu.length (kvu.flatMap kpC)) := HW.out.2.2.2.2.2.1;have b9 : Hid (aB2 (wr) w.heap.size (kvs.flatMap kpR)) := HW.out.2.2.2.2.2.2;clear HW;have i7 : j < kvs.length := by omega
  obtain ⟨gK, eK, _⟩ := aM0 a3.out j i7 rfl;subst eK;obtain ⟨xX, i8⟩ := exq (kvs[j]'i7);have m6 : Hid (xX ∈ kvs) := by show _ ∈ _; rw [i8]; exact List.getElem_mem _
  have i9 : Hid (kvs.take (j + 1) = kvs.take j ++ [xX]) := by show _ = _; rw [i8, List.take_append_getElem i7]
  obtain ⟨y0, y1, y2, y3, y4, y5, y6, y7, y8⟩ : KpAt wr gK j xX := by
   obtain ⟨g2, e2, hc⟩ := aM0 a3.out j i7 rfl
   injection e2 with e2
   injection e2 with e2
   subst e2
   rw [i8]
   exact hc
  clear i8;obtain ⟨x, s2, s3, s4⟩ := xX;obtain ⟨c7, c8, c9, d0, d1, d2, e1, e2, e3⟩ := p3.out _ m6.out;dsimp only at e1 e2 e3;subst e1 e2 e3;dsimp only at y0 y1 y2 y3 y4 y5 y6 y7 y8;have p7 : Hid ((x, .slice c7 x.xs.length c8, .slice c9 x.ys.length d0, .slice d1 x.fs.length d2) ∈ kvs) := m6.out;clear m6;go_upto_region 8 with fail
  obtain ⟨q3, m7⟩ := exq (wr.heap.size);obtain ⟨w7, i1⟩ := exq (wr.alloc (.cells #[.string x.p, .slice c7 x.xs.length c8, .slice c9 x.ys.length d0, .int .i64 x.st, .slice d1 x.fs.length d2, .string x.b, .int .i64 x.t, .int .i64 x.a, .int .i64 x.q] 52));have m8 := m7.symm;rw [← i1]; try rw [← m7];have s5 := hsa i1 m8;have bw := bal i1;have h3 := hbt g3 bw;have a7 := hown b3 bw;have b4 := hown a3 bw;have b5 := hown a6 bw;have c3 := hblk e9 bw;have f2 := hblk f0 bw;have c4 := hid (b9.out.below bw);have a2 := hnew i1 m8;clear g3 bw i1 m8;clear s5 m7;clear y0 y1 y2 y3 y4 y5 y6 y7 y8;have m9 := (k9c a2).2.2.2.2.2.2.2.2;have f6 := (k9c a2).1;have n0 := (k9c a2).2.1;have n3 := (k9c a2).2.2.1;have n4 := (k9c a2).2.2.2.1;have n5 := (k9c a2).2.2.2.2.1;have n6 := (k9c a2).2.2.2.2.2.1;have n7 := (k9c a2).2.2.2.2.2.2.1;have K7 := jz K5 h3 (jzr b4.out (jzr a7.out (jzb f2.out (jzb c3.out (jzn _)))));go_wp2_with fail
  refine (cF3 oL bl.length pL bl x _ _ _ _ (bB4 a7.out) (by have := b7.out.1; omega) (fun z hz => ⟨Nat.le_trans (a9.out.small z hz).1 (by decide), Nat.le_trans (a9.out.small z hz).2 (by decide)⟩) ⟨w.heap.size, aB2.sub c4.out (dL2 p7.out)⟩ (b8.out.2.2.2.2 _ p7.out).1).mono ?_
  rintro e w8 ⟨uh, rfl, j0, bw⟩;have K8 := jw K7 bw;have a0 := hown b5 bw;have n8 := hblk a2 bw;have c5 := hid (c4.out.below bw);clear h3 bw K7;clear m9 f6 n0 n3 n4 n5 n6 n7;cases uh
  rotate_left
  ·have n9 : Hid (AnyK bl x) := j0.1 rfl;clear j0
   have f7 : Hid ((max um x.q) = ((kvs.take (j + 1)).map (·.1)).foldl (fun m k => max m k.q) um0) := by
    show _ = _
    rw [i9.out, List.map_append, List.foldl_append, ← i5.out]
    rfl
   have f8 : Hid (kvu = (kvs.take (j + 1)).filter (fun x : KpD × Value × Value × Value => @decide (¬ AnyK bl x.1) (Classical.propDecidable _))) := by
    show _ = _
    rw [i9.out, List.filter_append, ← h2.out, List.filter_cons_of_neg (by simpa using n9.out), List.filter_nil, List.append_nil]
   go_wp2_with fail
   go_roundw
   case rel => exact ⟨j + 1, max um x.q, kvu, oU, pU, by omega, by go_num, rfl, rfl, ⟨K8.hb, (jb K8 3 rfl), (jb K8 2 rfl), (jo K8 1 rfl), (jo K8 0 rfl), a0.out, c5.out⟩, e8, f8, f7⟩
   case measure => simp [intOf]; omega
  have o0 : Hid (¬ (AnyK bl x)) := fun h => nomatch j0.2 h
  clear j0;have f6 := c9c n8.out;have bA : Below w8.heap.size w8 (w8.alloc (.cells #[.string x.p, .slice c7 x.xs.length c8, .slice c9 x.ys.length d0, .int .i64 x.st, .slice d1 x.fs.length d2, .string x.b, .int .i64 x.t, .int .i64 x.a, .int .i64 x.q] 52)) := (Below.refl _ _).alloc (Nat.le_refl _) _;have a8 : (w8.alloc (.cells #[.string x.p, .slice c7 x.xs.length c8, .slice c9 x.ys.length d0, .int .i64 x.st, .slice d1 x.fs.length d2, .string x.b, .int .i64 x.t, .int .i64 x.a, .int .i64 x.q] 52)).ownsRow w.heap.size 52 9 (.slice oU kvu.length pU) kvu.length (kvu.flatMap kpC) := aA8 a0.out bA (fun g hg => aB0 a0.out hg)
  have d8 : ∀ (jj : Nat) (u : Value), ([.string x.p, .slice c7 x.xs.length c8, .slice c9 x.ys.length d0, .int .i64 x.st, .slice d1 x.fs.length d2, .string x.b, .int .i64 x.t, .int .i64 x.a, .int .i64 x.q] : List Value)[jj]? = some u → (w8.alloc (.cells #[.string x.p, .slice c7 x.xs.length c8, .slice c9 x.ys.length d0, .int .i64 x.st, .slice d1 x.fs.length d2, .string x.b, .int .i64 x.t, .int .i64 x.a, .int .i64 x.q] 52)).cell? ((⟨w8.heap.size, 0, none⟩ : Addr).add jj) = some u := World.news_of_block (heap_alloc_new _ _);have p8 : kvu.length + 1 ≤ maxLen := by unfold maxLen; omega
  have p9 : (kvu.length + 1) * 136 ≤ 140737488355328 := by omega
  have o3 : w.heap.size ≤ (w8.alloc (.cells #[.string x.p, .slice c7 x.xs.length c8, .slice c9 x.ys.length d0, .int .i64 x.st, .slice d1 x.fs.length d2, .string x.b, .int .i64 x.t, .int .i64 x.a, .int .i64 x.q] 52)).heap.size := Nat.le_trans K8.hb.size bA.size;go_wp2_with (at_builtin; refine wpList_append_lies _ rfl _ _ 28 rfl w.heap.size 52 i0 (.agg #[.string ⟨#[]⟩, .slice none 0 0, .slice none 0 0, .int .i64 0, .slice none 0 0, .string ⟨#[]⟩, .int .i64 0, .int .i64 0, .int .i64 0]) 9 136 underlying28 hi q5 j1 j2 rfl (by decide) _ _ _ rfl a8 ⟨w8.heap.size, 0, none⟩ 1 1 [.string x.p, .slice c7 x.xs.length c8, .slice c9 x.ys.length d0, .int .i64 x.st, .slice d1 x.fs.length d2, .string x.b, .int .i64 x.t, .int .i64 x.a, .int .i64 x.q] rfl rfl d8 (by intro u hu; simp only [List.mem_cons, List.not_mem_nil, or_false] at hu; rcases hu with rfl | rfl | rfl | rfl | rfl | rfl | rfl | rfl | rfl <;> rfl) (by decide) p8 p9 o3 _ rfl ?_)
  intro gS cS w9 d9 a1 i2 _;clear f6;have q0 : Bw w (w9) := (K8.hb.trans (bA.mono K8.hb.size)).grown a1 o3 (fun g hg => aC8 a8 hg)
  have e0 : Hid (w9.ownsRow w.heap.size 44 4 (.slice oL bl.length pL) bl.length (aB3 bl)) := aA9 (jo K8 1 rfl) (fun g hg => (a1.block g (Nat.lt_of_lt_of_le (aB0 (jo K8 1 rfl) hg) bA.size) (fun e => aD7 (jo K8 1 rfl) a0.out (by decide) g hg e.symm)).trans (bA.block g (aB0 (jo K8 1 rfl) hg)))
  have e4 : Hid (w9.ownsRow w.heap.size 52 9 (.slice (some ⟨gK, 0, none⟩) kvs.length pK) kvs.length (kvs.flatMap kpC)) := aA9 (jo K8 0 rfl) (fun g hg => (a1.block g (Nat.lt_of_lt_of_le (aB0 (jo K8 0 rfl) hg) bA.size) (fun e => e8.out g hg e.symm)).trans (bA.block g (aB0 (jo K8 0 rfl) hg)))
  have c6 : Hid (aB2 (w9) w.heap.size (kvs.flatMap kpR)) := bJ9 (c5.out.below bA) a8 (aO9 (by decide) (by decide)) a1
  have i3 : Hid (∀ g, (Value.ownBlock (.slice (some ⟨gK, 0, none⟩) kvs.length pK)) = some g → (Value.ownBlock (.slice (some ⟨gS, 0, none⟩) (kvu.length + 1) cS)) ≠ some g) := fun g hg e => by
   have e1 : gS = g := Option.some.inj e
   rcases i2 with h | h
   ·exact e8.out g hg (h.trans (by rw [e1]))
   ·have h1 := aB0 (jo K8 0 rfl) hg
    omega
  have f9 := hid d9;have K9 := jz K8 q0 (jzr e4.out (jzr e0.out (jzb (jgA bA a1 a0.out (jb K8 2 rfl)) (jzb (jgA bA a1 a0.out (jb K8 3 rfl)) (jzn _)))));clear d9 a1 i2 bA a8 d8 p8 p9 o3 K8
  have f7 : Hid ((max um x.q) = ((kvs.take (j + 1)).map (·.1)).foldl (fun m k => max m k.q) um0) := by
   show _ = _
   rw [i9.out, List.map_append, List.foldl_append, ← i5.out]
   rfl
  obtain ⟨g0, d3⟩ := exq (kvu ++ [(x, .slice c7 x.xs.length c8, .slice c9 x.ys.length d0, .slice d1 x.fs.length d2)]);have q4 : kvu.length + 1 = g0.length := by rw [d3, List.length_append]; rfl
  have f8 : Hid (g0 = (kvs.take (j + 1)).filter (fun x : KpD × Value × Value × Value => @decide (¬ AnyK bl x.1) (Classical.propDecidable _))) := by
   show _ = _
   rw [d3, i9.out, List.filter_append, ← h2.out, List.filter_cons_of_pos (by simpa using o0.out), List.filter_nil]
  have s6 : Hid (w9.ownsRow w.heap.size 52 9 (.slice (some ⟨gS, 0, none⟩) g0.length cS) g0.length (g0.flatMap kpC)) := by
   show World.ownsRow _ _ _ _ _ _ _
   rw [← q4, d3, List.flatMap_append]
   exact f9.out
  have o4 : Hid (∀ g, (Value.ownBlock (.slice (some ⟨gK, 0, none⟩) kvs.length pK)) = some g → (Value.ownBlock (.slice (some ⟨gS, 0, none⟩) g0.length cS)) ≠ some g) := i3.out;rw [q4];clear d3;go_wp2_with fail
  go_roundw
  case rel => exact ⟨j + 1, max um x.q, g0, some ⟨gS, 0, none⟩, cS, by omega, by go_num, rfl, rfl, ⟨q0, (jb K9 3 rfl), (jb K9 2 rfl), e0.out, e4.out, s6.out, c6.out⟩, o4, f8, f7⟩
  case measure => simp [intOf]; omega
theorem cQ7 (p p2 : Tx) (o1 : Oa) (n1 c1 : Nat) (xs : Ts) (o2 : Oa) (n2 c2 : Nat) (ys : Ts) (o3 : Oa) (n3 c3 : Nat) (xs2 : Ts) (o4 : Oa) (n4 c4 : Nat) (ys2 : Ts) (st st2 : Int) (f1 f2 : Oa) (m1 e1 m2 e2 : Nat) (b b2 : Tx) (t t2 : Int) (w : World) (h1 : aC0 w o1 n1 xs) (h2 : aC0 w o2 n2 ys) (h3 : aC0 w o3 n3 xs2) (h4 : aC0 w o4 n4 ys2) (hn1 : n1 ≤ 2000000) (hn2 : n2 ≤ 2000000) :
  Calls prog 56 #[.agg #[.string p, .slice o1 n1 c1, .slice o2 n2 c2, .int .i64 st, .slice f1 m1 e1, .string b, .int .i64 t], .agg #[.string p2, .slice o3 n3 c3, .slice o4 n4 c4, .int .i64 st2, .slice f2 m2 e2, .string b2, .int .i64 t2]] w fun e w' => aA5 (p = p2 ∧ xs = xs2 ∧ ys = ys2) w e w' := by
 have b7 : Hid (∀ W, Bw w W → aC0 W o1 n1 xs) := fun W h => h1.below h
 have b8 : Hid (∀ W, Bw w W → aC0 W o2 n2 ys) := fun W h => h2.below h
 have b9 : Hid (∀ W, Bw w W → aC0 W o3 n3 xs2) := fun W h => h3.below h
 have c0 : Hid (∀ W, Bw w W → aC0 W o4 n4 ys2) := fun W h => h4.below h
 have c5 := hid hn1;have c6 := hid hn2;clear h1 h2 h3 h4 hn1 hn2;have K0 := jnil w;go_enter func56, ntmps56;go_upto_region 1 with fail
 obtain ⟨q1, a4⟩ := exq (w.heap.size);obtain ⟨w1, a0⟩ := exq (w.alloc (.cells #[.string p, .slice o1 n1 c1, .slice o2 n2 c2, .int .i64 st, .slice f1 m1 e1, .string b, .int .i64 t] 36));have a5 := a4.symm;rw [← a0]; try rw [← a4];have b4 := hsa a0 a5;have bw := bal a0;have K1 := ja K0 a0 a5;clear bw a0 a5 K0;obtain ⟨q2, a6⟩ := exq (q1 + 1);obtain ⟨w2, a1⟩ := exq (w1.alloc (.cells #[.string p2, .slice o3 n3 c3, .slice o4 n4 c4, .int .i64 st2, .slice f2 m2 e2, .string b2, .int .i64 t2] 36));have a7 : w1.heap.size = q2 := by rw [a6]; exact b4
 rw [← a1]; try rw [← a6];have c7 := hsa a1 a7;have bw := bal a1;have K2 := ja K1 a1 a7;clear bw a1 a7 K1;clear c7 a6 b4 a4;by_cases hc1 : p = p2
 rotate_left
 ·have a8 : ((p).toList == (p2).toList) = false := aB8 hc1;have HP := hid hc1;clear hc1;have a2 := c7c (jb K2 1 rfl);have a3 := c7c (jb K2 0 rfl);go_wp2_with fail
  go_ret;exact aA5.no (fun h => HP.out h.1) K2.hb
 have a8 : ((p).toList == (p2).toList) = true := (aD3 _ _).2 hc1;have HP : Hid (p = p2) := hc1;clear hc1;have a2 := c7c (jb K2 1 rfl);have a3 := c7c (jb K2 0 rfl);go_wp2_with fail
 refine (bD6 o1 o3 n1 c1 n3 c3 xs xs2 _ (b7.out _ K2.hb) (b9.out _ K2.hb) c5.out).mono ?_;rintro e w3 ⟨rfl, bw⟩;obtain ⟨u1, a9⟩ := exq (decide (xs = xs2));rw [← a9];have b5 := hid a9;clear a9;have K3 := jw K2 bw;clear bw K2;clear a2 a3;cases u1
 ·go_wp2_with fail
  go_ret;exact aA5.no (fun h => of_decide_eq_false b5.out.symm h.2.1) K3.hb
 have b0 := c7c (jb K3 1 rfl);have b1 := c7c (jb K3 0 rfl);go_wp2_with fail
 refine (bD6 o2 o4 n2 c2 n4 c4 ys ys2 _ (b8.out _ K3.hb) (c0.out _ K3.hb) c6.out).mono ?_;rintro e w4 ⟨rfl, bw⟩;obtain ⟨u2, b3⟩ := exq (decide (ys = ys2));rw [← b3];have b6 := hid b3;clear b3;have K4 := jw K3 bw;clear bw K3;clear b0 b1;go_wp2_with fail
 go_ret;cases u2 with
 | true => exact aA5.yes ⟨HP.out, of_decide_eq_true b5.out.symm, of_decide_eq_true b6.out.symm⟩ K4.hb
 | false => exact aA5.no (fun h => of_decide_eq_false b6.out.symm h.2.2) K4.hb
end Go.Proofs.YtiobfnpmidjijaaGreatDoor
