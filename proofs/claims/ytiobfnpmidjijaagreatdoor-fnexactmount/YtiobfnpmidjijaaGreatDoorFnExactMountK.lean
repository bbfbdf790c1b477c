/- What the proof of FnExactMount leans on: contracts of the program's and the specification's functions, and plain facts (part 11 of 12). -/
import Derived.Test.YtiobfnpmidjijaaGreatDoorFnExactMountJ
set_option maxHeartbeats 16000000
set_option maxRecDepth 100000
namespace Go.Proofs.YtiobfnpmidjijaaGreatDoor
open Go.Proofs.Tryz
open Go.RowKit
open Go.Lib hiding intOf
theorem cA5 {kva : Ks} {jn : Nat} {x : KpD × Value × Value × Value} (hj : jn < kva.length) (hx : kva[jn]'hj = x) (h : ∀ i, jn < i → (h : i < kva.length) → ¬ ((kva[i]'h).1.q = x.1.q ∨ aZ3 (kva[i]'h).1 x.1)) : aM5 ((kva.map (·.1)).drop jn) = x.1 :: aM5 ((kva.map (·.1)).drop (jn + 1)) := by
 have a0 : jn < (kva.map (·.1)).length := by rw [List.length_map]; exact hj
 have e := cW8 (l := kva.map (·.1)) (j := jn) a0 (fun i h1 h2 => by
  rw [List.length_map] at h2
  have h3 := h i h1 h2
  rw [List.getElem_map, List.getElem_map, hx]
  exact h3)
 rw [List.getElem_map, hx] at e;exact e
theorem cZ1 {kva : Ks} {jn : Nat} {x : KpD × Value × Value × Value} (hj : jn < kva.length) (hx : kva[jn]'hj = x) (h : ¬ ∀ i, jn < i → (h : i < kva.length) → ¬ ((kva[i]'h).1.q = x.1.q ∨ aZ3 (kva[i]'h).1 x.1)) : aM5 ((kva.map (·.1)).drop jn) = aM5 ((kva.map (·.1)).drop (jn + 1)) := by
 have a0 : jn < (kva.map (·.1)).length := by rw [List.length_map]; exact hj
 refine cW9 (l := kva.map (·.1)) (j := jn) a0 (fun h0 => h (fun i h1 h2 => ?_))
 have h3 := h0 i h1 (by rw [List.length_map]; exact h2);rw [List.getElem_map, List.getElem_map, hx] at h3;exact h3
theorem cA6 (l : List KpD) (k : KpD) : bL6 (l ++ [k]) = aN7 k.a := by
 unfold bL6;rw [List.getLast?_append];rfl
theorem bU2 {α β : Type} (f : α → List β) : ∀ {l l' : List α}, List.Sublist l l' → List.Sublist (l.flatMap f) (l'.flatMap f)
 | _, _, .slnil => List.Sublist.refl _
 | _, _, .cons a h => by rw [List.flatMap_cons]; exact (bU2 f h).trans (List.sublist_append_right _ _)
 | _, _, .cons_cons a h => by rw [List.flatMap_cons, List.flatMap_cons]; exact (List.Sublist.refl _).append (bU2 f h)
theorem dG8 {v1 v2 V VB : Value} {kv : Ks} {cs : Ts} {ws : List (Int × ByteArray)} {bl : Bs} : ((bS7 v1 v2 VB cs ws bl ++ kv.flatMap kpR) ++ [aT9 V kv]).Perm (aP6 v1 v2 V VB kv cs ws bl) := by
 unfold bS7 aP6 aF2;simp only [List.cons_append, List.nil_append]
 refine List.Perm.cons _ (List.Perm.cons _ ?_);refine (List.perm_append_singleton _ _).symm.trans ?_;rw [List.append_assoc];exact List.perm_middle
theorem dL3 {w W : World} {B : Nat} {v1 v2 V VB : Value} {cs : Ts} {ws : List (Int × ByteArray)} {bl : Bs} {kva kvo : Ks} (h : aB2 w B (bS7 v1 v2 VB cs ws bl ++ kva.flatMap kpR)) (hs : List.Sublist kvo kva) (hb : Below w.heap.size w W) (ho : W.ownsRow w.heap.size 52 9 V kvo.length (kvo.flatMap kpC)) (hB : B ≤ w.heap.size) : aB2 W B (aP6 v1 v2 V VB kvo cs ws bl) :=
 ((h.sub ((List.Sublist.refl _).append (bU2 kpR hs))).more hb (aB2.one (r := aT9 V kvo) ho) (Nat.le_refl _) hB).perm dG8
theorem aY1 {v1 v2 V VB : Value} {kv : Ks} {cs : Ts} {ws : List (Int × ByteArray)} {bl : Bs} : ∀ r ∈ aP6 v1 v2 V VB kv cs ws bl, (31 : TypeId) ≠ r.T := fun r hr => by
 unfold aP6 at hr
 rcases List.mem_append.1 hr with hr | hr
 ·rcases List.mem_append.1 hr with hr | hr
  ·simp only [List.mem_cons, List.not_mem_nil, or_false] at hr
   rcases hr with rfl | rfl
   ·show (31 : TypeId) ≠ 9
    decide
   ·show (31 : TypeId) ≠ 128
    decide
  · rcases cD6 hr with e | e | e <;> rw [e] <;> decide
 ·rw [List.mem_singleton.1 hr]
  show (31 : TypeId) ≠ 44
  decide
theorem cF6 (v1 v2 : Value) (n1 : Nat) (cs : Ts) (n2 : Nat) (ws : List (Int × ByteArray)) (B : Nat) (w : World) (h : aJ3 w B v1 n1 cs v2 n2 ws) (hn1 : n1 ≤ 2000000) (hn2 : n2 ≤ 2000000) (hz : ∀ x, (aL5 cs ws x).size ≤ 3000000) :
  Calls prog 30 #[.agg #[v1, v2]] w fun e w' => (¬ aR2 cs ws ∧ aR3 newS w e w') ∨ (aR2 cs ws ∧ ∃ s, aZ8 cs ws s ∧ aR3 s w e w') := by
 obtain ⟨i0, hi, D2, o6, m2⟩ := info_parts bB5;obtain ⟨o1, c1, rfl⟩ := aA0 h.cells;obtain ⟨o2, c2, rfl⟩ := aA0 h.pend;have HD : Hid (∀ W, Bw w W → aJ3 W B (.slice o1 n1 c1) n1 cs (.slice o2 n2 c2) n2 ws) := fun W hb => ⟨aA8 h.cells hb (fun g hg => aB0 h.cells hg), aA8 h.pend hb (fun g hg => aB0 h.pend hg)⟩
 have HZ := hid hz;clear h hz;have K0 := jnil w;go_enter func30, ntmps30;go_upto_region 1 with fail
 obtain ⟨q1, x6⟩ := exq (w.heap.size);obtain ⟨w1, p3⟩ := exq (w.alloc (.cells #[.slice o1 n1 c1, .slice o2 n2 c2] 27));have o6 := x6.symm;rw [← p3]; try rw [← x6];have D3 := hsa p3 o6;have bw := bal p3;have K1 := ja K0 p3 o6;clear bw p3 o6 K0;obtain ⟨q2, x7⟩ := exq (q1 + 1);obtain ⟨w2, p4⟩ := exq (w1.alloc (.cells #[.slice none 0 0, .slice none 0 0, .slice none 0 0, .slice none 0 0, .int .i64 0, .int .i64 0] 31));have m2 : w1.heap.size = q2 := by rw [x7]; exact D3
 rw [← p4]; try rw [← x7];have E6 := hsa p4 m2;have bw := bal p4;have K2 := ja K1 p4 m2;have l0 : Hid (w.heap.size ≤ q2) := by show _ ≤ _; rw [← m2]; exact K1.hb.size
 clear bw p4 m2 K1;clear E6 x7 D3 x6;have g7 := c2c (jb K2 1 rfl);go_wp2_with fail
 refine (bC5 _ _ n1 cs n2 ws B _ (HD.out _ K2.hb) (by omega) (by omega)).mono ?_;rintro e w3 ⟨ud, rfl, t3, bw⟩;have K3 := jw K2 bw;clear bw K2;clear g7;cases ud
 ·have x8 : Hid (¬ (aR2 cs ws)) := fun h => nomatch t3.2 h
  clear t3;have E7 : Hid (w.heap.size ≤ w3.heap.size) := K3.hb.size;go_wp2_with fail
  refine (bM2 _).mono ?_;rintro e w4 ⟨va, vb, vc, vd, o7, rfl, m3, bw⟩;obtain ⟨x9, y9, rfl⟩ := aA0 m3.disk.cells;obtain ⟨z0, z1, rfl⟩ := aA0 m3.disk.pend;obtain ⟨z2, z3, rfl⟩ := m3.kept.len;obtain ⟨z4, z5, rfl⟩ := aA0 m3.bans;have K4 := jw K3 bw;clear bw K3;have z6 : Hid (aB2 (w4) w.heap.size (aP6 (.slice x9 newS.cs.length y9) (.slice z0 newS.ws.length z1) (.slice z2 o7.length z3) (.slice z4 newS.bl.length z5) o7 newS.cs newS.ws newS.bl)) := aB2.wide m3.1 E7.out;have E8 : Hid (o7.map (·.1) = newS.ks) := m3.2;clear m3;have z7 := c6f (jb K4 0 rfl);go_wp2_with fail
  obtain ⟨o8, e4⟩ := exq ((((((w4.setCell ⟨q2, 0, none⟩ (.slice x9 newS.cs.length y9)).setCell ⟨q2, 1, none⟩ (.slice z0 newS.ws.length z1)).setCell ⟨q2, 2, none⟩ (.slice z2 o7.length z3)).setCell ⟨q2, 3, none⟩ (.slice z4 newS.bl.length z5)).setCell ⟨q2, 4, none⟩ (.int .i64 newS.nx)).setCell ⟨q2, 5, none⟩ (.int .i64 newS.sq));rw [← e4];have f4 := jss K4 0 [(0, _), (1, _), (2, _), (3, _), (4, _), (5, _)] e4;have h9 := hid (jrs [(0, _), (1, _), (2, _), (3, _), (4, _), (5, _)] z6.out e4 (jb K4 0 rfl) aY1);clear e4 K4;have i1 := c6c (jb f4 0 rfl);refine bodyPost_ret (v := .agg #[.slice x9 newS.cs.length y9, .slice z0 newS.ws.length z1, .slice z2 o7.length z3, .slice z4 newS.bl.length z5, .int .i64 newS.nx, .int .i64 newS.sq]) (by simp [results, results30, go_sem, i1]) rfl ?_;exact .inl ⟨x8.out, _, _, _, _, o7, rfl, ⟨h9.out, E8.out⟩, f4.hb⟩
 have z8 : Hid (aR2 cs ws) := t3.1 rfl;clear t3;have g7 := c2c (jb K3 1 rfl);go_wp2_with fail
 refine (cO3 _ _ n1 cs n2 ws B _ (HD.out _ K3.hb) (by omega) (by omega) HZ.out).mono ?_;rintro e w4 ⟨bl, um0, vL, D4, p5, p6, rfl, m4, bw⟩;obtain ⟨oL, pL, rfl⟩ := aA0 m4;have j7 := hid p5;have m5 : Hid (bl.length ≤ 5 ∧ aV0 cs ws bl.length) := ⟨D4, p6⟩;clear p5 p6 D4;have K4 := jj K3 (jcR (jN bw) m4 jhn);clear m4;clear bw K3;clear g7;go_upto_region 5 with fail
 obtain ⟨q3, z9⟩ := exq (w4.heap.size);obtain ⟨w5, p7⟩ := exq (w4.alloc (.cells #[] 52));have t4 := z9.symm;rw [← p7]; try rw [← z9];have E9 := hsa p7 t4;have bw := bal p7;have K5 := ja K4 p7 t4;have D5 : Hid (w.heap.size ≤ q3) := by show _ ≤ _; rw [← t4]; exact K4.hb.size
 clear bw p7 t4 K4;clear E9 z9;have F0 := D5.out;have p8 : Hid (w5.ownsRow w.heap.size 52 9 (.slice (some ⟨q3, 0, none⟩) 0 0) 0 (([] : Ks).flatMap kpC)) := ⟨rfl, .inr ⟨_, 0, #[], rfl, D5.out, (jb K5 0 rfl), Nat.le_refl _, Nat.zero_le _, rfl, rfl⟩⟩;clear F0;go_wp2_with fail
 have D6 : Hid (aB2 (w5) w.heap.size (([] : Ks).flatMap kpR)) := aB2.nil _ _;go_loopw [4, 5, 6] (fun mx al i wr => ∃ (j : Nat) (kva : Ks) (um : Int) (oA : Oa) (pA : Nat), (5 ≤ j ∧ j ≤ 20) ∧ i = .int .i64 (j : Int) ∧ mx = .int .i64 um ∧ al = .slice oA kva.length pA ∧ Hid (Bw w wr ∧ wr.heap[q1]? = some (.cells #[.slice o1 n1 c1, .slice o2 n2 c2] 27) ∧ wr.heap[q2]? = some (.cells #[.slice none 0 0, .slice none 0 0, .slice none 0 0, .slice none 0 0, .int .i64 0, .int .i64 0] 31) ∧ wr.ownsRow w.heap.size 44 4 (.slice oL bl.length pL) bl.length (aB3 bl) ∧ wr.ownsRow w.heap.size 52 9 (.slice oA kva.length pA) kva.length (kva.flatMap kpC) ∧ aB2 wr w.heap.size (kva.flatMap kpR)) ∧ Hid (aM4 kva) ∧ Hid (aD6 cs ws bl um0 (j - 5) um (kva.map (·.1))) ∧ Hid (0 ≤ um ∧ um ≤ 99999)) (fun _ _ i _ => 20 - (intOf i).toNat)
 case atStart => exact ⟨5, [], um0, _, 0, ⟨Nat.le_refl _, by decide⟩, rfl, rfl, rfl, ⟨K5.hb, (jb K5 3 rfl), (jb K5 2 rfl), (jo K5 1 rfl), p8.out, D6.out⟩, fun x hx => by simp at hx, ⟨rfl, rfl⟩, j7.out.range⟩
 case round =>
  clear D6;obtain ⟨j, kva, um, oA, pA, hj, rfl, rfl, rfl, HW, l1, i2, m6⟩ := hrel;have H1 : kva.length ≤ 15 := by have h1 := i2.out.len; rw [List.length_map] at h1; omega
  by_cases hlt : (j : Int) < 20
  ·have l2 := HW.out.1;have i3 := hid HW.out.2.1;have m7 := hid HW.out.2.2.1;have g4 : Hid (wr.ownsRow w.heap.size 44 4 (.slice oL bl.length pL) bl.length (aB3 bl)) := HW.out.2.2.2.1;have i4 : Hid (wr.ownsRow w.heap.size 52 9 (.slice oA kva.length pA) kva.length (kva.flatMap kpC)) := HW.out.2.2.2.2.1;have j8 : Hid (aB2 (wr) w.heap.size (kva.flatMap kpR)) := HW.out.2.2.2.2.2;have A0 : Hid (∀ r ∈ kva.flatMap kpR, 36 ≠ r.T) := aO9 (by decide) (by decide);clear HW;have g7 := c2c i3.out;go_wp2_with fail
   refine (aZ4 _ _ n1 cs n2 ws B _ (HD.out _ l2) (by omega) (by omega) (j : Int)).mono ?_;rintro e w7 ⟨rfl, bw⟩;obtain ⟨ut, l3⟩ : ∃ t, t = aL5 cs ws (j : Int) := ⟨_, rfl⟩;rw [← l3];have o9 := hid l3;clear l3;have p9 := hbt l2 bw;have i5 := hown g4 bw;have g5 := hown i4 bw;have m8 := hblk i3 bw;have i6 := hblk m7 bw;have q0 := hid (j8.out.below bw);clear l2 bw;clear g7;have K7 := jz K5 p9 (jzx (jzr i5.out (jzb i6.out (jzb m8.out (jzn _)))));go_wp2_with fail
   refine ((aZ6 ut _ (by rw [o9.out]; exact HZ.out _)).mono (fun e w' h => cI9.data h)).mono ?_
   rintro e w8 ⟨uq, ub, uo, rfl, q4, bw⟩
   have F1 : Hid (ub.size ≤ 2000) := by
    rcases q4 with h | h
    ·exact h.2.1.2.2
    ·rw [h.2.1]; exact Nat.zero_le _
   have K8 := jw K7 bw;have q5 := hown g5 bw;have q6 := hid (q0.out.below bw);clear p9 bw K7;go_wp2_with fail
   refine ((bS6 ub _ (by have := F1.out; omega)).mono (fun e w' h => cX6.data h)).mono ?_
   rintro e w9 ⟨up, d6, d7, f7, d5, f8, f9, uz, va, vb, vc, rfl, t5, A1, bw⟩;have t6 : ObjO w9 w8.heap.size va d6.length d6 vb d7.length d7 vc d5.length d5 := aH2 A1;obtain ⟨oN, pN, rfl⟩ := aA0 t6.names;obtain ⟨oV, pV, rfl⟩ := aA0 t6.vals;obtain ⟨oF, pF, rfl⟩ := aA0 t6.flds;clear t6;have q7 : Hid (aB2 w9 w.heap.size (kva.flatMap kpR ++ kpR ((⟨up, d6, d7, f7, d5, f8, f9, 0, 0⟩ : KpD), Value.slice oN d6.length pN, Value.slice oV d7.length pV, Value.slice oF d5.length pF))) := q6.out.more bw A1 (Nat.le_refl _) K8.hb.size;clear A1;have K9 := jw K8 bw;have q8 := hown q5 bw;have m9 := hid (q6.out.below bw);clear bw K8
   have A0 : Hid (∀ r ∈ kva.flatMap kpR ++ kpR ((⟨up, d6, d7, f7, d5, f8, f9, 0, 0⟩ : KpD), Value.slice oN d6.length pN, Value.slice oV d7.length pV, Value.slice oF d5.length pF), 36 ≠ r.T) := fun r hr => by
    rcases List.mem_append.1 hr with hr | hr
    ·exact aO9 (by decide) (by decide) r hr
    ·exact aO9 (kv := [((⟨up, d6, d7, f7, d5, f8, f9, 0, 0⟩ : KpD), Value.slice oN d6.length pN, Value.slice oV d7.length pV, Value.slice oF d5.length pF)]) (by decide) (by decide) r (by simpa using hr)
   clear m9;have m9 : Hid (aB2 (w9) w.heap.size (kva.flatMap kpR ++ kpR ((⟨up, d6, d7, f7, d5, f8, f9, 0, 0⟩ : KpD), Value.slice oN d6.length pN, Value.slice oV d7.length pV, Value.slice oF d5.length pF))) := q7.out;clear q7;go_upto_region 10 with fail
   obtain ⟨H2, n0⟩ := exq (w9.heap.size);obtain ⟨o8, e4⟩ := exq (w9.alloc (.cells #[.string up, .slice oN d6.length pN, .slice oV d7.length pV, .int .i64 f7, .slice oF d5.length pF, .string f8, .int .i64 f9] 36));have n3 := n0.symm;rw [← e4]; try rw [← n0];have A2 := hsa e4 n3;have bw := bal e4;have f4 := ja K9 e4 n3;have e5 := hown q8 bw;have g6 := hid (m9.out.below bw);clear bw e4 n3 K9;clear A2 n0;cases uo
   ·have F2 : Hid (∀ q b, ¬ aL9 ut q b) := (by rcases q4 with h | h; exact absurd h.1 (by decide); exact h.2.2);clear q4;have q9 : Hid (∀ k, ¬ aO7 ut (j : Int) k) := fun k ⟨b, h1, _⟩ => F2.out _ _ h1
    have e6 : Hid (aD6 cs ws bl um0 (j + 1 - 5) um (kva.map (·.1))) := by
     have e : j + 1 - 5 = (j - 5) + 1 := by omega
     have e2 : ((5 + (j - 5) : Nat) : Int) = (j : Int) := by omega
     show aD6 _ _ _ _ _ _ _
     rw [e]
     refine ⟨um, kva.map (·.1), i2.out, .inr ⟨?_, rfl, rfl⟩⟩
     rw [e2, ← o9.out]
     exact q9.out
    have j9 : Hid (aB2 (o8) w.heap.size (kva.flatMap kpR)) := aB2.sub g6.out (List.sublist_append_left _ _);go_wp2_with fail
    go_roundw
    case rel => exact ⟨j + 1, kva, um, oA, pA, by omega, by go_num, rfl, rfl, ⟨f4.hb, (jb f4 3 rfl), (jb f4 2 rfl), (jo f4 1 rfl), e5.out, j9.out⟩, l1, e6, m6⟩
    case measure => simp [intOf]; omega
   have t7 : Hid (aL9 ut uq ub) := (by rcases q4 with h | h; exact h.2; exact absurd h.1 (by decide));clear q4;cases uz
   ·have F3 : Hid (∀ p ys st fs b t, ¬ aG2 ub p ys st fs b t) := (by rcases t5 with h | h; exact absurd h.1 (by decide); exact h.2);clear t5;have q9 : Hid (∀ k, ¬ aO7 ut (j : Int) k) := fun k ⟨b, h1, h2, _⟩ => by have e := (h1.uniq t7.out).2; subst e; exact F3.out _ _ _ _ _ _ h2
    have e6 : Hid (aD6 cs ws bl um0 (j + 1 - 5) um (kva.map (·.1))) := by
     have e : j + 1 - 5 = (j - 5) + 1 := by omega
     have e2 : ((5 + (j - 5) : Nat) : Int) = (j : Int) := by omega
     show aD6 _ _ _ _ _ _ _
     rw [e]
     refine ⟨um, kva.map (·.1), i2.out, .inr ⟨?_, rfl, rfl⟩⟩
     rw [e2, ← o9.out]
     exact q9.out
    have j9 : Hid (aB2 (o8) w.heap.size (kva.flatMap kpR)) := aB2.sub g6.out (List.sublist_append_left _ _);go_wp2_with fail
    go_roundw
    case rel => exact ⟨j + 1, kva, um, oA, pA, by omega, by go_num, rfl, rfl, ⟨f4.hb, (jb f4 3 rfl), (jb f4 2 rfl), (jo f4 1 rfl), e5.out, j9.out⟩, l1, e6, m6⟩
    case measure => simp [intOf]; omega
   have p0 : Hid (aG2 ub up d7 f7 d5 f8 f9 ∧ d6 = aC1 d5) := (by rcases t5 with h | h; exact h.2; exact absurd h.1 (by decide));clear t5;by_cases hc1 : 100000 ≤ uq
   ·have g8 : Hid (100000 ≤ uq) := (by have := hc1; show _ ≤ _; omega);have q9 : Hid (∀ k, ¬ aO7 ut (j : Int) k) := fun k ⟨b, h1, _, _, _, h5⟩ => by have e := (h1.uniq t7.out).1; have h6 := g8.out; omega
    have e6 : Hid (aD6 cs ws bl um0 (j + 1 - 5) um (kva.map (·.1))) := by
     have e : j + 1 - 5 = (j - 5) + 1 := by omega
     have e2 : ((5 + (j - 5) : Nat) : Int) = (j : Int) := by omega
     show aD6 _ _ _ _ _ _ _
     rw [e]
     refine ⟨um, kva.map (·.1), i2.out, .inr ⟨?_, rfl, rfl⟩⟩
     rw [e2, ← o9.out]
     exact q9.out
    have j9 : Hid (aB2 (o8) w.heap.size (kva.flatMap kpR)) := aB2.sub g6.out (List.sublist_append_left _ _);go_wp2_with fail
    go_roundw
    case rel => exact ⟨j + 1, kva, um, oA, pA, by omega, by go_num, rfl, rfl, ⟨f4.hb, (jb f4 3 rfl), (jb f4 2 rfl), (jo f4 1 rfl), e5.out, j9.out⟩, l1, e6, m6⟩
    case measure => simp [intOf]; omega
   have g8 : Hid (¬ 100000 ≤ uq) := (by have := hc1; show ¬ _ ≤ _; omega);go_wp2_with fail
   refine (cI2 um uq _).mono ?_;rintro e A3 ⟨rfl, l4⟩;have bw : Below o8.heap.size (o8) A3 := by rw [l4]; exact Below.refl _ _
   clear l4;obtain ⟨uk, A4⟩ := exq (max um uq);rw [← A4];have t8 := hid A4;clear A4;have t9 := jw f4 bw;have n4 := hown e5 bw;have l5 := hid (g6.out.below bw);clear bw f4;have i7 := c7c (jb t9 0 rfl);go_wp2_with fail
   refine (cD9 oL bl.length pL bl (⟨up, d6, d7, f7, d5, f8, f9, 0, 0⟩ : KpD) _ _ _ _ (bB4 (jo t9 1 rfl)) (by have := m5.out.1; omega) (fun x hx => ⟨Nat.le_trans (j7.out.small x hx).1 (by decide), Nat.le_trans (j7.out.small x hx).2 (by decide)⟩) ⟨w.heap.size, aB2.sub l5.out (List.sublist_append_right _ _)⟩ ((p0.out.2 ▸ p0.out.1.1 : ObjP up d6 d7 f7 d5 f8 f9).small 0 0)).mono ?_
   rintro e a7 ⟨uh, rfl, v0, bw⟩;have g0 := jw t9 bw;have i8 := hown n4 bw;have l6 := hid (l5.out.below bw);clear bw t9;clear i7;cases uh
   rotate_left
   ·have A5 : Hid (AnyK bl (⟨up, d6, d7, f7, d5, f8, f9, 0, 0⟩ : KpD)) := v0.1 rfl;clear v0;have A6 : Hid (aO7 (aL5 cs ws (j : Int)) (j : Int) (⟨up, d6, d7, f7, d5, f8, f9, (j : Int), uq⟩ : KpD)) := ⟨ub, by rw [← o9.out]; exact t7.out, p0.out.1, p0.out.2, rfl, by have := g8.out; show uq < _; omega⟩
    have A7 : Hid (0 ≤ uk ∧ uk ≤ 99999) := by
     have h1 := g8.out
     have h2 := m6.out
     show _ ∧ _
     rw [t8.out]
     omega
    have e6 : Hid (aD6 cs ws bl um0 (j + 1 - 5) uk (kva.map (·.1))) := by
     have e : j + 1 - 5 = (j - 5) + 1 := by omega
     have e2 : ((5 + (j - 5) : Nat) : Int) = (j : Int) := by omega
     show aD6 _ _ _ _ _ _ _
     rw [e]
     refine ⟨um, kva.map (·.1), i2.out, .inl ⟨(⟨up, d6, d7, f7, d5, f8, f9, (j : Int), uq⟩ : KpD), ?_, t8.out, .inl ⟨A5.out, rfl⟩⟩⟩
     ·rw [e2]
      exact A6.out
    have j9 : Hid (aB2 (a7) w.heap.size (kva.flatMap kpR)) := aB2.sub l6.out (List.sublist_append_left _ _);go_wp2_with fail
    go_roundw
    case rel => exact ⟨j + 1, kva, uk, oA, pA, by omega, by go_num, rfl, rfl, ⟨g0.hb, (jb g0 3 rfl), (jb g0 2 rfl), (jo g0 1 rfl), i8.out, j9.out⟩, l1, e6, A7⟩
    case measure => simp [intOf]; omega
   have A8 : Hid (¬ (AnyK bl (⟨up, d6, d7, f7, d5, f8, f9, 0, 0⟩ : KpD))) := fun h => nomatch v0.2 h
   clear v0;have i7 := c7c (jb g0 0 rfl);go_wp2_with fail
   refine (cO6 w.heap.size _ kva ⟨up, d6, d7, f7, d5, f8, f9, (j : Int), uq⟩ oN pN oV pV oF pF _ i8.out l1.out (by omega)).mono ?_;rintro e b3 ⟨gS, cS, rfl, n5, bw⟩;obtain ⟨v3, n6⟩ : ∃ l, l = insK ((⟨up, d6, d7, f7, d5, f8, f9, (j : Int), uq⟩ : KpD), Value.slice oN d6.length pN, Value.slice oV d7.length pV, Value.slice oF d5.length pF) kva := ⟨_, rfl⟩;rw [← n6] at n5 ⊢;have A9 := hid n6;clear n6;have b4 := jj g0 (jcR (jN bw) n5 jhn);have r0 := hid (l6.out.below bw);clear n5;clear bw g0;clear i7;have A6 : Hid (aO7 (aL5 cs ws (j : Int)) (j : Int) (⟨up, d6, d7, f7, d5, f8, f9, (j : Int), uq⟩ : KpD)) := ⟨ub, by rw [← o9.out]; exact t7.out, p0.out.1, p0.out.2, rfl, by have := g8.out; show uq < _; omega⟩
   have A7 : Hid (0 ≤ uk ∧ uk ≤ 99999) := by
    have h1 := g8.out
    have h2 := m6.out
    show _ ∧ _
    rw [t8.out]
    omega
   have e6 : Hid (aD6 cs ws bl um0 (j + 1 - 5) uk (v3.map (·.1))) := by
    have e : j + 1 - 5 = (j - 5) + 1 := by omega
    have e2 : ((5 + (j - 5) : Nat) : Int) = (j : Int) := by omega
    show aD6 _ _ _ _ _ _ _
    rw [e]
    refine ⟨um, kva.map (·.1), i2.out, .inl ⟨(⟨up, d6, d7, f7, d5, f8, f9, (j : Int), uq⟩ : KpD), ?_, t8.out, .inr ⟨A8.out, ?_⟩⟩⟩
    ·rw [e2]
     exact A6.out
    ·rw [A9.out, cT0]
   have j9 : Hid (aB2 (b3) w.heap.size (v3.flatMap kpR)) := by
    show aB2 _ _ _
    rw [A9.out]
    refine aB2.perm r0.out (List.Perm.trans ?_ ((bS8 _ kva).symm.flatMap_right kpR))
    rw [List.flatMap_cons]
    exact List.perm_append_comm
   have B0 : Hid (aM4 v3) := fun x hx => by
    rw [A9.out] at hx
    rcases List.mem_cons.1 ((bS8 _ kva).mem_iff.1 hx) with rfl | hx
    ·exact ⟨oN, pN, oV, pV, oF, pF, rfl, rfl, rfl⟩
    ·exact l1.out x hx
   go_wp2_with fail
   go_roundw
   case rel => exact ⟨j + 1, v3, uk, some ⟨gS, 0, none⟩, cS, by omega, by go_num, rfl, rfl, ⟨b4.hb, (jb b4 4 rfl), (jb b4 3 rfl), (jo b4 2 rfl), (jo b4 0 rfl), j9.out⟩, B0, e6, A7⟩
   case measure => simp [intOf]; omega
  have l2 := HW.out.1;have i3 := hid HW.out.2.1;have m7 := hid HW.out.2.2.1;have g4 : Hid (wr.ownsRow w.heap.size 44 4 (.slice oL bl.length pL) bl.length (aB3 bl)) := HW.out.2.2.2.1;have i4 : Hid (wr.ownsRow w.heap.size 52 9 (.slice oA kva.length pA) kva.length (kva.flatMap kpC)) := HW.out.2.2.2.2.1;have j8 : Hid (aB2 (wr) w.heap.size (kva.flatMap kpR)) := HW.out.2.2.2.2.2;have A0 : Hid (∀ r ∈ kva.flatMap kpR, 36 ≠ r.T) := aO9 (by decide) (by decide);clear HW;have F4 : j = 20 := by omega
  have F5 := m6.out.1;have F6 := m6.out.2;obtain ⟨wA, F7⟩ := exq wr;subst F7;have g7 := c2c i3.out;go_wp2_with fail
  refine (cO0 _ _ n1 cs n2 ws B _ (HD.out _ l2) (by omega) (by omega)).mono ?_;rintro e w7 ⟨va, vb, rfl, v4, bw⟩;obtain ⟨oC, pC, e1⟩ := aA0 v4.cells;obtain ⟨oP, pP, e2⟩ := aA0 v4.pend;subst e1 e2;have F8 : Hid (aB2 w7 w.heap.size (bS7 (.slice oC cs.length pC) (.slice oP ws.length pP) (.slice oL bl.length pL) cs ws bl ++ kva.flatMap kpR)) := dE8 g4.out j8.out bw v4 l2.size;clear v4;have p9 := hbt l2 bw;have i5 := hown g4 bw;have g5 := hown i4 bw;have m8 := hblk i3 bw;have i6 := hblk m7 bw;have q0 := hid (j8.out.below bw);clear l2 bw;have F9 : Hid (∀ W, Below w7.heap.size w7 W → (W).heap[q2]? = some (.cells #[.slice none 0 0, .slice none 0 0, .slice none 0 0, .slice none 0 0, .int .i64 0, .int .i64 0] 31)) := fun W hb => aA6 i6.out hb
  have B1 : Hid (∀ W, Below w7.heap.size w7 W → W.ownsRow w.heap.size 52 9 (.slice oA kva.length pA) kva.length (kva.flatMap kpC)) := fun W hb => aA8 g5.out hb (fun g hg => aB0 g5.out hg)
  have B2 : Hid (∀ W, Below w7.heap.size w7 W → aB2 W w.heap.size (bS7 (.slice oC cs.length pC) (.slice oP ws.length pP) (.slice oL bl.length pL) cs ws bl ++ kva.flatMap kpR)) := fun W hb => F8.out.below hb
  have v5 := hid p9;have G0 : Hid (w.heap.size ≤ q2) := l0.out;have G1 : Hid (q2 < w7.heap.size) := (blt i6.out);clear A0 HD;have K7 := jz K5 p9 (jzx (jzr i5.out (jzb i6.out (jzb m8.out (jzn _)))));obtain ⟨w0, B3⟩ := exq w;subst B3;obtain ⟨w, B3⟩ := exq w7;subst B3;have K8 := jnil w;go_upto_region 15 with fail
  obtain ⟨q44, n7⟩ := exq (w.heap.size);obtain ⟨w9, r1⟩ := exq (w.alloc (.cells #[.slice oC cs.length pC, .slice oP ws.length pP, .slice none 0 0, .slice oL bl.length pL, .int .i64 5, .int .i64 (um + 1)] 31));have v6 := n7.symm;rw [← r1]; try rw [← n7];have G2 := hsa r1 v6;have bw := bal r1;have K9 := ja K8 r1 v6;have k0 : Hid (w.heap.size ≤ q44) := by show _ ≤ _; rw [← v6]; exact K8.hb.size
  clear bw r1 v6 K8;clear G2 n7;go_wp2_with fail
  go_loopw [13] (fun i wr => ∃ (jn : Nat) (kvo : Ks) (un : Int) (oV : Oa) (pV : Nat), jn ≤ kva.length ∧ i = .int .i64 (jn : Int) ∧ Hid (Bw w wr ∧ wr.heap[q44]? = some (.cells #[.slice oC cs.length pC, .slice oP ws.length pP, .slice oV kvo.length pV, .slice oL bl.length pL, .int .i64 un, .int .i64 (um + 1)] 31) ∧ wr.ownsRow w.heap.size 52 9 (.slice oV kvo.length pV) kvo.length (kvo.flatMap kpC)) ∧ Hid (aM5 (kva.map (·.1)) = kvo.map (·.1) ++ aM5 ((kva.map (·.1)).drop jn)) ∧ Hid (un = bL6 (kvo.map (·.1))) ∧ Hid (kvo.Sublist (kva.take jn))) (fun i _ => kva.length - (intOf i).toNat)
  case atStart => exact ⟨0, [], 5, none, 0, Nat.zero_le _, rfl, ⟨K9.hb, (jb K9 0 rfl), rfl, .inl ⟨rfl, rfl⟩⟩, (by show _ = _; rfl), (by show _ = _; rfl), (by show List.Sublist _ _; exact List.nil_sublist _)⟩
  case round =>
   obtain ⟨jn, kvo, un, oV, pV, H3, rfl, HW, v7, D7, r2⟩ := hrel;have G3 : kvo.length ≤ 15 := by have h1 := r2.out.length_le; rw [List.length_take] at h1; omega
   by_cases hlt : (jn : Int) < (kva.length : Int)
   rotate_left
   ·have d1 := HW.out.1;have b0 := hid HW.out.2.1;have e7 : Hid (wr.ownsRow w.heap.size 52 9 (.slice oV kvo.length pV) kvo.length (kvo.flatMap kpC)) := HW.out.2.2;clear HW;obtain ⟨wB, B4⟩ := exq wr;subst B4;obtain ⟨wM, B5⟩ := exq w;subst B5;obtain ⟨w, B5⟩ := exq w0;subst B5;have H4 : jn = kva.length := by omega
    have G4 : Hid (aM5 (kva.map (·.1)) = kvo.map (·.1)) := by
     show _ = _
     rw [v7.out, List.drop_of_length_le (by rw [List.length_map]; omega)]
     simp [aM5]
    have B6 : Hid (kvo.Sublist kva) := r2.out.trans (List.take_sublist _ _);have D8 : Hid (wB.heap[q2]? = some (.cells #[.slice none 0 0, .slice none 0 0, .slice none 0 0, .slice none 0 0, .int .i64 0, .int .i64 0] 31)) := F9.out _ d1;have D9 : Hid (aB2 wB w.heap.size (aP6 (.slice oC cs.length pC) (.slice oP ws.length pP) (.slice oV kvo.length pV) (.slice oL bl.length pL) kvo cs ws bl)) := dL3 (B2.out _ (Below.refl _ _)) B6.out d1 e7.out v5.out.size;have v8 : Hid (q44 ≠ q2) := fun e => by have h1 := k0.out; have h2 := G1.out; omega
    have E0 : Hid (w.heap.size ≤ q44) := Nat.le_trans v5.out.size k0.out;have E1 : Bw w wB := v5.out.trans (d1.mono v5.out.size);have E2 : Hid ((wB).heap[q44]? = some (.cells #[.slice oC cs.length pC, .slice oP ws.length pP, .slice oV kvo.length pV, .slice oL bl.length pL, .int .i64 un, .int .i64 (um + 1)] 31)) := b0;clear d1 k0;have d1 : Bw w wB := E1;have b0 : Hid ((wB).heap[q44]? = some (.cells #[.slice oC cs.length pC, .slice oP ws.length pP, .slice oV kvo.length pV, .slice oL bl.length pL, .int .i64 un, .int .i64 (um + 1)] 31)) := E2.out;have k0 : Hid (w.heap.size ≤ q44) := E0.out;have l0 : Hid (w.heap.size ≤ q2) := G0.out;have i9 : Hid (wB.heap[q2]? = some (.cells #[.slice none 0 0, .slice none 0 0, .slice none 0 0, .slice none 0 0, .int .i64 0, .int .i64 0] 31)) := D8.out;have d8 : Hid (q44 ≠ q2) := v8.out;have h9 : Hid (aB2 (wB) w.heap.size (aP6 (.slice oC cs.length pC) (.slice oP ws.length pP) (.slice oV kvo.length pV) (.slice oL bl.length pL) kvo cs ws bl)) := D9.out;clear E1 E0 D8 D9 v8 E2;have z7 := c6f i9.out;have E3 := c6c b0.out;go_wp2_with fail
    obtain ⟨A3, g9⟩ := exq ((wB).setCell ⟨q2, 0, none⟩ (.slice oC cs.length pC));rw [← g9];have b1 := hbS g9 d1 l0;have b8 := hset g9 d8.out b0;have r3 := erS g9 h9 i9 aY1;have l7 := hid (jbs [(0, _)] i9.out g9);clear d1 g9;obtain ⟨a7, h4⟩ := exq (A3.setCell ⟨q2, 1, none⟩ (.slice oP ws.length pP));rw [← h4];have a8 := hbS h4 b1 l0;have b2 := hset h4 d8.out b8;have r4 := erS h4 r3 l7 aY1;have l8 := hid (jbs [(1, _)] l7.out h4);clear b1 h4;obtain ⟨b3, h7⟩ := exq (a7.setCell ⟨q2, 2, none⟩ (.slice oV kvo.length pV));rw [← h7];have d2 := hbS h7 a8 l0;have n8 := hset h7 d8.out b2;have r5 := erS h7 r4 l8 aY1;have l9 := hid (jbs [(2, _)] l8.out h7);clear a8 h7;obtain ⟨d0, g1⟩ := exq (b3.setCell ⟨q2, 3, none⟩ (.slice oL bl.length pL));rw [← g1];have d3 := hbS g1 d2 l0;have r6 : Hid (b3.heap.size ≤ d0.heap.size) := by show _ ≤ _; rw [g1]; simp
    have n9 := hset g1 d8.out n8;have r7 := erS g1 r5 l9 aY1;have m0 := hid (jbs [(3, _)] l9.out g1);clear d2 g1;obtain ⟨d4, h8⟩ := exq (d0.setCell ⟨q2, 4, none⟩ (.int .i64 un));rw [← h8];have r8 := hbS h8 d3 l0;have B7 := hset h8 d8.out n9;have r9 := erS h8 r7 m0 aY1;have m1 := hid (jbs [(4, _)] m0.out h8);clear d3 h8;obtain ⟨p1, j0⟩ := exq (d4.setCell ⟨q2, 5, none⟩ (.int .i64 (um + 1)));rw [← j0];have B8 := hbS j0 r8 l0;have s0 := erS j0 r9 m1 aY1;have s1 := hid (jbs [(5, _)] m1.out j0);clear r8 j0;have i1 := c6c s1.out;refine bodyPost_ret (v := .agg #[.slice oC cs.length pC, .slice oP ws.length pP, .slice oV kvo.length pV, .slice oL bl.length pL, .int .i64 un, .int .i64 (um + 1)]) (by simp [results, results30, go_sem, i1]) rfl ?_;have B9 : j - 5 = 15 := by omega
    have E4 := i2.out;rw [B9] at E4;exact .inr ⟨z8.out, ⟨cs, ws, kvo.map (·.1), bl, un, um + 1⟩, ⟨bl, um0, um, kva.map (·.1), m5.out.1, j7.out, m5.out.2, E4, by rw [G4.out, D7.out]⟩, _, _, _, _, kvo, rfl, ⟨s0.out, rfl⟩, B8⟩
   have d1 := HW.out.1;have b0 := hid HW.out.2.1;have e7 : Hid (wr.ownsRow w.heap.size 52 9 (.slice oV kvo.length pV) kvo.length (kvo.flatMap kpC)) := HW.out.2.2;clear HW;obtain ⟨gA, eA, _⟩ := aM0 (B1.out _ (Below.refl _ _)) jn (by omega) rfl;subst eA;have k1 : jn < kva.length := by omega
   obtain ⟨xX, C0⟩ := exq (kva[jn]'k1);have v9 : Hid (xX ∈ kva) := by show _ ∈ _; rw [C0]; exact List.getElem_mem _
   have o0 : Hid (kva[jn]'k1 = xX) := C0.symm;clear C0;obtain ⟨x, G5, G6, G7⟩ := xX;obtain ⟨a1, a2, a3, a4, a5, a6, e1, e2, e3⟩ := l1.out _ v9.out;dsimp only at e1 e2 e3;subst e1 e2 e3
   have p2 : Hid (∀ W, Bw w W → KpAt W gA jn (x, .slice a1 x.xs.length a2, .slice a3 x.ys.length a4, .slice a5 x.fs.length a6)) := fun W hb => by
    obtain ⟨g2, e2, hc⟩ := aM0 (B1.out W hb) jn k1 rfl
    injection e2 with e2
    injection e2 with e2
    subst e2
    rw [o0.out] at hc
    exact hc
   go_wp2_with fail
   obtain ⟨wC, E5⟩ := exq wr;rw [← E5] at d1 e7 b0 ⊢;clear E5;go_loopw [14, 15] (fun la i wr => ∃ (m : Nat) (lb : Bool), (jn + 1 ≤ m ∧ m ≤ kva.length) ∧ i = .int .i64 (m : Int) ∧ la = .bool lb ∧ Hid (Bw w wr ∧ wr.heap[q44]? = some (.cells #[.slice oC cs.length pC, .slice oP ws.length pP, .slice oV kvo.length pV, .slice oL bl.length pL, .int .i64 un, .int .i64 (um + 1)] 31) ∧ wr.ownsRow w.heap.size 52 9 (.slice oV kvo.length pV) kvo.length (kvo.flatMap kpC)) ∧ Hid (lb = true ↔ ∀ i, jn < i → (h : i < kva.length) → i < m → ¬ ((kva[i]'h).1.q = x.q ∨ aZ3 (kva[i]'h).1 x))) (fun _ i _ => kva.length - (intOf i).toNat)
   case atStart => exact ⟨jn + 1, true, by omega, rfl, rfl, ⟨d1, b0.out, e7.out⟩, ⟨fun _ i h1 _ h2 => absurd h2 (by omega), fun _ => rfl⟩⟩
   case round =>
    obtain ⟨m, lb, hm, rfl, rfl, HW, x0⟩ := hrel;by_cases hlm : (m : Int) < (kva.length : Int)
    ·have b1 := HW.out.1;have b8 := hid HW.out.2.1;have e8 : Hid (wr.ownsRow w.heap.size 52 9 (.slice oV kvo.length pV) kvo.length (kvo.flatMap kpC)) := HW.out.2.2;clear HW d1;have s2 : m < kva.length := by omega
     obtain ⟨zX, C1⟩ := exq (kva[m]'s2);have x1 : Hid (zX ∈ kva) := by show _ ∈ _; rw [C1]; exact List.getElem_mem _
     have x2 : Hid (kva[m]'s2 = zX) := C1.symm;clear C1;obtain ⟨z, G8, G9, H0⟩ := zX;obtain ⟨x3, k2, x4, k3, x5, k4, e1, e2, e3⟩ := l1.out _ x1.out;dsimp only at e1 e2 e3;subst e1 e2 e3
     have C2 : Hid (∀ W, Bw w W → KpAt W gA m (z, .slice x3 z.xs.length k2, .slice x4 z.ys.length k3, .slice x5 z.fs.length k4)) := fun W hb => by
      obtain ⟨g2, e2, hc⟩ := aM0 (B1.out W hb) m s2 rfl
      injection e2 with e2
      injection e2 with e2
      subst e2
      rw [x2.out] at hc
      exact hc
     go_upto_region 22 with fail
     refine wp_region_held_drew (S := fun W => KpAt W gA m (z, .slice x3 z.xs.length k2, .slice x4 z.ys.length k3, .slice x5 z.fs.length k4) ∧ KpAt W gA jn (x, .slice a1 x.xs.length a2, .slice a3 x.ys.length a4, .slice a5 x.fs.length a6)) (by kernel_rfl) ⟨C2.out _ (b1.trans ((Below.refl _ _).drew.mono b1.size)), p2.out _ (b1.trans ((Below.refl _ _).drew.mono b1.size))⟩ (fun _ => ?_)
     obtain ⟨a7, hX⟩ := exq wr.drew;have bw := bdr hX;rw [← hX];have a8 := hbt b1 bw;have d9 := hown e8 bw;have b2 := hblk b8 bw;have a0 := And.intro (C2.out _ a8) (p2.out _ a8);clear b1 bw hX;have g0 := jz K9 a8 (jzb b2.out (jzn _));by_cases hq : z.q = x.q
     ·have C3 : (z.q == x.q) = true := by simpa using hq
      refine tkP 0 (.slice (some ⟨gA, 0, none⟩) kva.length pA) 86 rfl rfl a0 (tkP 1 (.int .i64 (m : Int)) 87 rfl rfl a0 (tkP 2 (.pointer (some ⟨gA, m * 9, none⟩)) 88 rfl rfl a0 ?_));go_frame;refine tkP 3 (.pointer (some ⟨gA, m * 9 + 8, none⟩)) 89 rfl rfl a0 ?_;go_frame;refine tkL 4 (.int .i64 z.q) 90 rfl rfl (Or.inl ⟨by rfl, by intro W hW; obtain ⟨⟨y0, y1, y2, y3, y4, y5, y6, y7, y8⟩, _⟩ := hW; dsimp only at y0 y1 y2 y3 y4 y5 y6 y7 y8; go_simp⟩) a0 ?_;go_frame;refine tkP 5 (.slice (some ⟨gA, 0, none⟩) kva.length pA) 91 rfl rfl a0 (tkP 6 (.int .i64 (jn : Int)) 92 rfl rfl a0 (tkP 7 (.pointer (some ⟨gA, jn * 9, none⟩)) 93 rfl rfl a0 ?_));go_frame;refine tkP 8 (.pointer (some ⟨gA, jn * 9 + 8, none⟩)) 94 rfl rfl a0 ?_;go_frame;refine tkL 9 (.int .i64 x.q) 95 rfl rfl (Or.inl ⟨by rfl, by intro W hW; obtain ⟨_, ⟨y0, y1, y2, y3, y4, y5, y6, y7, y8⟩⟩ := hW; dsimp only at y0 y1 y2 y3 y4 y5 y6 y7 y8; go_simp⟩) a0 ?_;go_frame;refine tkP 10 (.bool true) 96 rfl rfl a0 (tkP 11 (.bool true) 97 rfl rfl a0 (tkN 12 98 rfl rfl a0 ?_));go_frame;refine tkN 13 99 rfl rfl a0 (tkN 14 100 rfl rfl a0 (tkN 15 101 rfl rfl a0 ?_));go_frame;refine tkN 16 102 rfl rfl a0 (tkN 17 103 rfl rfl a0 (tkN 18 104 rfl rfl a0 ?_));go_frame;refine tkN 19 105 rfl rfl a0 (tkN 20 106 rfl rfl a0 (tkN 21 107 rfl rfl a0 ?_));go_frame;refine tkN 22 108 rfl rfl a0 (tkP 23 (.bool true) 109 rfl rfl a0 ?_);go_frame;clear a0 C3;refine wdn ?_;have s3 : Hid (z.q = x.q ∨ aZ3 z x) := .inl hq;clear hq;have j1 : Hid (false = true ↔ ∀ i, jn < i → (h : i < kva.length) → i < (m + 1) → ¬ ((kva[i]'h).1.q = x.q ∨ aZ3 (kva[i]'h).1 x)) := ⟨fun h => (nomatch h), fun h => absurd s3.out (by have h1 := h m (by omega) s2 (by omega); rw [x2.out] at h1; exact h1)⟩
      go_wp2_with fail
      go_roundw
      case rel => exact ⟨m + 1, false, by omega, by go_num, rfl, ⟨a8, b2.out, d9.out⟩, j1⟩
      case measure => simp [intOf]; omega
     have C3 : (z.q == x.q) = false := by simpa using hq
     refine tkP 0 (.slice (some ⟨gA, 0, none⟩) kva.length pA) 86 rfl rfl a0 (tkP 1 (.int .i64 (m : Int)) 87 rfl rfl a0 (tkP 2 (.pointer (some ⟨gA, m * 9, none⟩)) 88 rfl rfl a0 ?_));go_frame;refine tkP 3 (.pointer (some ⟨gA, m * 9 + 8, none⟩)) 89 rfl rfl a0 ?_;go_frame;refine tkL 4 (.int .i64 z.q) 90 rfl rfl (Or.inl ⟨by rfl, by intro W hW; obtain ⟨⟨y0, y1, y2, y3, y4, y5, y6, y7, y8⟩, _⟩ := hW; dsimp only at y0 y1 y2 y3 y4 y5 y6 y7 y8; go_simp⟩) a0 ?_;go_frame;refine tkP 5 (.slice (some ⟨gA, 0, none⟩) kva.length pA) 91 rfl rfl a0 (tkP 6 (.int .i64 (jn : Int)) 92 rfl rfl a0 (tkP 7 (.pointer (some ⟨gA, jn * 9, none⟩)) 93 rfl rfl a0 ?_));go_frame;refine tkP 8 (.pointer (some ⟨gA, jn * 9 + 8, none⟩)) 94 rfl rfl a0 ?_;go_frame;refine tkL 9 (.int .i64 x.q) 95 rfl rfl (Or.inl ⟨by rfl, by intro W hW; obtain ⟨_, ⟨y0, y1, y2, y3, y4, y5, y6, y7, y8⟩⟩ := hW; dsimp only at y0 y1 y2 y3 y4 y5 y6 y7 y8; go_simp⟩) a0 ?_;go_frame;refine tkP 10 (.bool false) 96 rfl rfl a0 (tkP 11 (.bool false) 97 rfl rfl a0 (tkP 12 (.slice (some ⟨gA, 0, none⟩) kva.length pA) 98 rfl rfl a0 ?_));go_frame;refine tkP 13 (.int .i64 (m : Int)) 99 rfl rfl a0 (tkP 14 (.pointer (some ⟨gA, m * 9, none⟩)) 100 rfl rfl a0 (tkP 15 (.pointer (some ⟨gA, m * 9, none⟩)) 101 rfl rfl a0 ?_));go_frame;refine tkL 16 (.agg #[.string z.p, .slice x3 z.xs.length k2, .slice x4 z.ys.length k3, .int .i64 z.st, .slice x5 z.fs.length k4, .string z.b, .int .i64 z.t]) 102 rfl rfl (Or.inl ⟨by rfl, by intro W hW; obtain ⟨⟨y0, y1, y2, y3, y4, y5, y6, y7, y8⟩, _⟩ := hW; dsimp only at y0 y1 y2 y3 y4 y5 y6 y7 y8; go_simp⟩) a0 ?_;go_frame;refine tkP 17 (.slice (some ⟨gA, 0, none⟩) kva.length pA) 103 rfl rfl a0 (tkP 18 (.int .i64 (jn : Int)) 104 rfl rfl a0 (tkP 19 (.pointer (some ⟨gA, jn * 9, none⟩)) 105 rfl rfl a0 ?_));go_frame;refine tkP 20 (.pointer (some ⟨gA, jn * 9, none⟩)) 106 rfl rfl a0 ?_
     go_frame;refine tkL 21 (.agg #[.string x.p, .slice a1 x.xs.length a2, .slice a3 x.ys.length a4, .int .i64 x.st, .slice a5 x.fs.length a6, .string x.b, .int .i64 x.t]) 107 rfl rfl (Or.inl ⟨by rfl, by intro W hW; obtain ⟨_, ⟨y0, y1, y2, y3, y4, y5, y6, y7, y8⟩⟩ := hW; dsimp only at y0 y1 y2 y3 y4 y5 y6 y7 y8; go_simp⟩) a0 ?_;go_frame;have v8 := hid hq;clear hq C3;refine rd1 22 rfl (fun K hK => ?_)
     go_simp;have C4 : aB2 a7 w0.heap.size (kpR (z, .slice x3 z.xs.length k2, .slice x4 z.ys.length k3, .slice x5 z.fs.length k4)) := aB2.sub (B2.out _ a8) (cK2 x1.out);have C5 : aB2 a7 w0.heap.size (kpR (x, .slice a1 x.xs.length a2, .slice a3 x.ys.length a4, .slice a5 x.fs.length a6)) := aB2.sub (B2.out _ a8) (cK2 v9.out);refine (cQ7 _ _ _ _ _ _ _ _ _ _ _ _ _ _ _ _ _ _ _ _ _ _ _ _ _ _ _ _ _ _ _ (aC2 (aH2 C4).names) (aC2 (aH2 C4).vals) (aC2 (aH2 C5).names) (aC2 (aH2 C5).vals) (Nat.le_trans (i2.out.small _ (List.mem_map_of_mem x1.out)).2.1.1 (by decide)) (Nat.le_trans (i2.out.small _ (List.mem_map_of_mem x1.out)).2.2.1.1 (by decide))).mono ?_;rintro e b3 ⟨ut, rfl, l3, bw⟩;have b4 := jw g0 bw;have b9 := hown d9 bw;clear a8 bw g0;have f5 := And.intro (C2.out _ b4.hb) (p2.out _ b4.hb);refine hK.out _ _ f5 (fun _ => ?_)
     clear hK K C4 C5 a0;refine tkP 23 (.bool ut) 109 rfl rfl f5 ?_;go_frame;clear f5;refine wdn ?_;cases ut
     rotate_left
     ·have C6 : Hid (z.p = x.p ∧ z.xs = x.xs ∧ z.ys = x.ys) := l3.1 rfl;clear l3;have s3 : Hid (z.q = x.q ∨ aZ3 z x) := .inr C6.out;have j1 : Hid (false = true ↔ ∀ i, jn < i → (h : i < kva.length) → i < (m + 1) → ¬ ((kva[i]'h).1.q = x.q ∨ aZ3 (kva[i]'h).1 x)) := ⟨fun h => (nomatch h), fun h => absurd s3.out (by have h1 := h m (by omega) s2 (by omega); rw [x2.out] at h1; exact h1)⟩
      go_wp2_with fail
      go_roundw
      case rel => exact ⟨m + 1, false, by omega, by go_num, rfl, ⟨b4.hb, (jb b4 0 rfl), b9.out⟩, j1⟩
      case measure => simp [intOf]; omega
     have C7 : Hid (¬ (z.p = x.p ∧ z.xs = x.xs ∧ z.ys = x.ys)) := fun h => nomatch l3.2 h
     clear l3;have s3 : Hid (¬ (z.q = x.q ∨ aZ3 z x)) := fun h => h.elim v8.out C7.out
     have j1 : Hid (lb = true ↔ ∀ i, jn < i → (h : i < kva.length) → i < (m + 1) → ¬ ((kva[i]'h).1.q = x.q ∨ aZ3 (kva[i]'h).1 x)) := x0.out.trans ⟨fun h i h1 h2 h3 => by
      by_cases e : i = m
      ·subst e
       rw [x2.out]
       exact s3.out
      ·exact h i h1 h2 (by omega), fun h i h1 h2 h3 => h i h1 h2 (by omega)⟩
     go_wp2_with fail
     go_roundw
     case rel => exact ⟨m + 1, lb, by omega, by go_num, rfl, ⟨b4.hb, (jb b4 0 rfl), b9.out⟩, j1⟩
     case measure => simp [intOf]; omega
    have b1 := HW.out.1;have b8 := hid HW.out.2.1;have e8 : Hid (wr.ownsRow w.heap.size 52 9 (.slice oV kvo.length pV) kvo.length (kvo.flatMap kpC)) := HW.out.2.2;clear HW d1;obtain ⟨wB, B4⟩ := exq wr;subst B4;cases lb
    ·have s4 : Hid (kva.take (jn + 1) = kva.take jn ++ [((x, .slice a1 x.xs.length a2, .slice a3 x.ys.length a4, .slice a5 x.fs.length a6) : KpD × Value × Value × Value)]) := by
      show _ = _
      have e := o0.out
      rw [← e, List.take_append_getElem k1]
     have j2 : Hid (aM5 (kva.map (·.1)) = kvo.map (·.1) ++ aM5 ((kva.map (·.1)).drop (jn + 1))) := by
      show _ = _
      rw [v7.out, cZ1 k1 o0.out (fun h0 => nomatch x0.out.2 (fun i h1 h2 _ => h0 i h1 h2))]
     have j3 : Hid (kvo.Sublist (kva.take (jn + 1))) := by
      show List.Sublist _ _
      rw [s4.out]
      exact r2.out.trans (List.sublist_append_left _ _)
     go_wp2_with fail
     go_roundw
     case rel => exact ⟨jn + 1, kvo, un, oV, pV, by omega, by go_num, ⟨b1, b8.out, e8.out⟩, j2, D7, j3⟩
     case measure => simp [intOf]; omega
    have a9 : Hid (∀ W, Bw w W → (W.cell? ⟨gA, jn * 9, none⟩ = some (.string x.p) ∧ W.cell? ⟨gA, jn * 9 + 1, none⟩ = some (.slice a1 x.xs.length a2) ∧ W.cell? ⟨gA, jn * 9 + 2, none⟩ = some (.slice a3 x.ys.length a4) ∧ W.cell? ⟨gA, jn * 9 + 3, none⟩ = some (.int .i64 x.st) ∧ W.cell? ⟨gA, jn * 9 + 4, none⟩ = some (.slice a5 x.fs.length a6) ∧ W.cell? ⟨gA, jn * 9 + 5, none⟩ = some (.string x.b) ∧ W.cell? ⟨gA, jn * 9 + 6, none⟩ = some (.int .i64 x.t) ∧ W.cell? ⟨gA, jn * 9 + 7, none⟩ = some (.int .i64 x.a) ∧ W.cell? ⟨gA, jn * 9 + 8, none⟩ = some (.int .i64 x.q))) := fun W hb => by
     have c := p2.out W hb
     exact ⟨c.c0, c.c1, c.c2, c.c3, c.c4, c.c5, c.c6, c.c7, c.c8⟩
    go_upto_region 25 with fail
    refine wp_region_held_drew (S := fun W => (W.cell? ⟨gA, jn * 9, none⟩ = some (.string x.p) ∧ W.cell? ⟨gA, jn * 9 + 1, none⟩ = some (.slice a1 x.xs.length a2) ∧ W.cell? ⟨gA, jn * 9 + 2, none⟩ = some (.slice a3 x.ys.length a4) ∧ W.cell? ⟨gA, jn * 9 + 3, none⟩ = some (.int .i64 x.st) ∧ W.cell? ⟨gA, jn * 9 + 4, none⟩ = some (.slice a5 x.fs.length a6) ∧ W.cell? ⟨gA, jn * 9 + 5, none⟩ = some (.string x.b) ∧ W.cell? ⟨gA, jn * 9 + 6, none⟩ = some (.int .i64 x.t) ∧ W.cell? ⟨gA, jn * 9 + 7, none⟩ = some (.int .i64 x.a) ∧ W.cell? ⟨gA, jn * 9 + 8, none⟩ = some (.int .i64 x.q))) (by kernel_rfl) (by first | exact a9.out _ b1 | exact a9.out _ b1.drew) (fun _ => ?_)
    obtain ⟨a7, hX⟩ := exq wB.drew;have bw := bdr hX;rw [← hX];have a8 := hbt b1 bw;have d9 := hown e8 bw;have b2 := hblk b8 bw;have a0 : (a7.cell? ⟨gA, jn * 9, none⟩ = some (.string x.p) ∧ a7.cell? ⟨gA, jn * 9 + 1, none⟩ = some (.slice a1 x.xs.length a2) ∧ a7.cell? ⟨gA, jn * 9 + 2, none⟩ = some (.slice a3 x.ys.length a4) ∧ a7.cell? ⟨gA, jn * 9 + 3, none⟩ = some (.int .i64 x.st) ∧ a7.cell? ⟨gA, jn * 9 + 4, none⟩ = some (.slice a5 x.fs.length a6) ∧ a7.cell? ⟨gA, jn * 9 + 5, none⟩ = some (.string x.b) ∧ a7.cell? ⟨gA, jn * 9 + 6, none⟩ = some (.int .i64 x.t) ∧ a7.cell? ⟨gA, jn * 9 + 7, none⟩ = some (.int .i64 x.a) ∧ a7.cell? ⟨gA, jn * 9 + 8, none⟩ = some (.int .i64 x.q)) := (by first | exact a9.out _ a8 | exact a9.out _ a8.drew);clear b1 bw hX;have g0 := jz K9 a8 (jzb b2.out (jzn _));refine tkP 0 (.pointer (some ⟨q44, 2, none⟩)) 111 rfl rfl a0 (tkP 2 (.slice (some ⟨gA, 0, none⟩) kva.length pA) 113 rfl rfl a0 (tkP 3 (.int .i64 (jn : Int)) 114 rfl rfl a0 ?_));go_frame;refine tkP 4 (.pointer (some ⟨gA, jn * 9, none⟩)) 115 rfl rfl a0 ?_;go_frame;refine tkL 5 (.agg #[.string x.p, .slice a1 x.xs.length a2, .slice a3 x.ys.length a4, .int .i64 x.st, .slice a5 x.fs.length a6, .string x.b, .int .i64 x.t, .int .i64 x.a, .int .i64 x.q]) 116 rfl rfl (Or.inl ⟨by rfl, by intro W hW; have b5 := hW; have y0 := b5.1; have y1 := b5.2.1; have y2 := b5.2.2.1; have y3 := b5.2.2.2.1; have y4 := b5.2.2.2.2.1; have y5 := b5.2.2.2.2.2.1; have y6 := b5.2.2.2.2.2.2.1; have y7 := b5.2.2.2.2.2.2.2.1; have y8 := b5.2.2.2.2.2.2.2.2; go_simp⟩) a0 ?_;go_frame;refine wpAnyH_ready (rs := [1, 6]) (by kernel_rfl) (by simp) ?_;refine AllReadyH.cons rfl (fun K hK => ?_) (AllReadyH.cons rfl (fun K hK => ?_) AllReadyH.nil)
    ·have C8 := c6c b2.out;go_simp;refine hK.out _ _ a0 (fun _ => ?_)
     clear hK K C8;refine rd1 6 rfl (fun K hK => ?_)
     go_simp;have bw : Below a7.heap.size a7 (a7.alloc (.cells #[.string x.p, .slice a1 x.xs.length a2, .slice a3 x.ys.length a4, .int .i64 x.st, .slice a5 x.fs.length a6, .string x.b, .int .i64 x.t, .int .i64 x.a, .int .i64 x.q] 52)) := (Below.refl _ _).alloc (Nat.le_refl _) _;have s5 : ((a7.alloc (.cells #[.string x.p, .slice a1 x.xs.length a2, .slice a3 x.ys.length a4, .int .i64 x.st, .slice a5 x.fs.length a6, .string x.b, .int .i64 x.t, .int .i64 x.a, .int .i64 x.q] 52)).cell? ⟨gA, jn * 9, none⟩ = some (.string x.p) ∧ (a7.alloc (.cells #[.string x.p, .slice a1 x.xs.length a2, .slice a3 x.ys.length a4, .int .i64 x.st, .slice a5 x.fs.length a6, .string x.b, .int .i64 x.t, .int .i64 x.a, .int .i64 x.q] 52)).cell? ⟨gA, jn * 9 + 1, none⟩ = some (.slice a1 x.xs.length a2) ∧ (a7.alloc (.cells #[.string x.p, .slice a1 x.xs.length a2, .slice a3 x.ys.length a4, .int .i64 x.st, .slice a5 x.fs.length a6, .string x.b, .int .i64 x.t, .int .i64 x.a, .int .i64 x.q] 52)).cell? ⟨gA, jn * 9 + 2, none⟩ = some (.slice a3 x.ys.length a4) ∧ (a7.alloc (.cells #[.string x.p, .slice a1 x.xs.length a2, .slice a3 x.ys.length a4, .int .i64 x.st, .slice a5 x.fs.length a6, .string x.b, .int .i64 x.t, .int .i64 x.a, .int .i64 x.q] 52)).cell? ⟨gA, jn * 9 + 3, none⟩ = some (.int .i64 x.st) ∧ (a7.alloc (.cells #[.string x.p, .slice a1 x.xs.length a2, .slice a3 x.ys.length a4, .int .i64 x.st, .slice a5 x.fs.length a6, .string x.b, .int .i64 x.t, .int .i64 x.a, .int .i64 x.q] 52)).cell? ⟨gA, jn * 9 + 4, none⟩ = some (.slice a5 x.fs.length a6) ∧ (a7.alloc (.cells #[.string x.p, .slice a1 x.xs.length a2, .slice a3 x.ys.length a4, .int .i64 x.st, .slice a5 x.fs.length a6, .string x.b, .int .i64 x.t, .int .i64 x.a, .int .i64 x.q] 52)).cell? ⟨gA, jn * 9 + 5, none⟩ = some (.string x.b) ∧ (a7.alloc (.cells #[.string x.p, .slice a1 x.xs.length a2, .slice a3 x.ys.length a4, .int .i64 x.st, .slice a5 x.fs.length a6, .string x.b, .int .i64 x.t, .int .i64 x.a, .int .i64 x.q] 52)).cell? ⟨gA, jn * 9 + 6, none⟩ = some (.int .i64 x.t) ∧ (a7.alloc (.cells #[.string x.p, .slice a1 x.xs.length a2, .slice a3 x.ys.length a4, .int .i64 x.st, .slice a5 x.fs.length a6, .string x.b, .int .i64 x.t, .int .i64 x.a, .int .i64 x.q] 52)).cell? ⟨gA, jn * 9 + 7, none⟩ = some (.int .i64 x.a) ∧ (a7.alloc (.cells #[.string x.p, .slice a1 x.xs.length a2, .slice a3 x.ys.length a4, .int .i64 x.st, .slice a5 x.fs.length a6, .string x.b, .int .i64 x.t, .int .i64 x.a, .int .i64 x.q] 52)).cell? ⟨gA, jn * 9 + 8, none⟩ = some (.int .i64 x.q)) := a9.out _ (a8.trans (bw.mono a8.size))
     refine hK.out _ _ s5 (fun _ => ?_)
     clear hK K s5 bw a0;obtain ⟨o3, e0⟩ := exq (a7.heap.size);obtain ⟨b3, k5⟩ := exq ((a7.alloc (.cells #[.string x.p, .slice a1 x.xs.length a2, .slice a3 x.ys.length a4, .int .i64 x.st, .slice a5 x.fs.length a6, .string x.b, .int .i64 x.t, .int .i64 x.a, .int .i64 x.q] 52)));rw [← e0, ← k5];have bw := bal k5;have b4 := ja g0 k5 e0.symm;have b9 := hown d9 bw;have f5 : (b3.cell? ⟨gA, jn * 9, none⟩ = some (.string x.p) ∧ b3.cell? ⟨gA, jn * 9 + 1, none⟩ = some (.slice a1 x.xs.length a2) ∧ b3.cell? ⟨gA, jn * 9 + 2, none⟩ = some (.slice a3 x.ys.length a4) ∧ b3.cell? ⟨gA, jn * 9 + 3, none⟩ = some (.int .i64 x.st) ∧ b3.cell? ⟨gA, jn * 9 + 4, none⟩ = some (.slice a5 x.fs.length a6) ∧ b3.cell? ⟨gA, jn * 9 + 5, none⟩ = some (.string x.b) ∧ b3.cell? ⟨gA, jn * 9 + 6, none⟩ = some (.int .i64 x.t) ∧ b3.cell? ⟨gA, jn * 9 + 7, none⟩ = some (.int .i64 x.a) ∧ b3.cell? ⟨gA, jn * 9 + 8, none⟩ = some (.int .i64 x.q)) := (by first | exact a9.out _ b4.hb | exact a9.out _ b4.hb.drew);clear a8 bw k5 e0 g0;refine rd1 7 rfl (fun K hK => ?_)
     have k6 : b3.ownsRow w.heap.size 52 9 (.slice oV kvo.length pV) kvo.length (kvo.flatMap kpC) := b9.out;have s6 : kvo.length + 1 ≤ maxLen := by unfold maxLen; omega
     have s7 : (kvo.length + 1) * 136 ≤ 140737488355328 := by omega
     have d2 := b4.hb;refine step_append_lies b3 (by rfl) _ _ 28 (by rfl) w.heap.size 52 i0 (.agg #[.string ⟨#[]⟩, .slice none 0 0, .slice none 0 0, .int .i64 0, .slice none 0 0, .string ⟨#[]⟩, .int .i64 0, .int .i64 0, .int .i64 0]) 9 136 underlying28 hi D2 o6 m2 rfl (by decide) _ _ _ (by rfl) k6 ⟨o3, 0, none⟩ 1 1 [.string x.p, .slice a1 x.xs.length a2, .slice a3 x.ys.length a4, .int .i64 x.st, .slice a5 x.fs.length a6, .string x.b, .int .i64 x.t, .int .i64 x.a, .int .i64 x.q] (by rfl) rfl (World.news_of_block (jb b4 0 rfl)) (by intro u hu; simp only [List.mem_cons, List.not_mem_nil, or_false] at hu; rcases hu with rfl | rfl | rfl | rfl | rfl | rfl | rfl | rfl | rfl <;> rfl) (by decide) s6 s7 d2.size _ rfl ?_;intro gL k7 d0 f6 b6 _ _;have d3 : Bw w (d0) := d2.grown b6 d2.size (fun g hg => aC8 k6 hg)
     have r6 := hid b6.size;have e9 := hid f6;have k8 := jz b4 d3 (jzx (jzb (jgB b6 k6 (jb b4 1 rfl)) (jzn _)));clear k6 s6 s7 f6 b6 d2 b4;simp only [Act.put, List.setIfInBounds_toArray]
     have g3 : (d0.cell? ⟨gA, jn * 9, none⟩ = some (.string x.p) ∧ d0.cell? ⟨gA, jn * 9 + 1, none⟩ = some (.slice a1 x.xs.length a2) ∧ d0.cell? ⟨gA, jn * 9 + 2, none⟩ = some (.slice a3 x.ys.length a4) ∧ d0.cell? ⟨gA, jn * 9 + 3, none⟩ = some (.int .i64 x.st) ∧ d0.cell? ⟨gA, jn * 9 + 4, none⟩ = some (.slice a5 x.fs.length a6) ∧ d0.cell? ⟨gA, jn * 9 + 5, none⟩ = some (.string x.b) ∧ d0.cell? ⟨gA, jn * 9 + 6, none⟩ = some (.int .i64 x.t) ∧ d0.cell? ⟨gA, jn * 9 + 7, none⟩ = some (.int .i64 x.a) ∧ d0.cell? ⟨gA, jn * 9 + 8, none⟩ = some (.int .i64 x.q)) := (by first | exact a9.out _ d3 | exact a9.out _ d3.drew);refine hK.out _ _ g3 (fun _ => ?_)
     clear hK K f5;refine tkP 8 (.pointer (some ⟨q44, 2, none⟩)) 119 rfl rfl g3 ?_;simp only [Act.put]
     refine rd1 9 rfl (fun K hK => ?_)
     have C9 := c6f (jb k8 0 rfl);obtain ⟨d4, hY⟩ := exq ((d0.setCell ⟨q44, 2, none⟩ (.slice (some ⟨gL, 0, none⟩) (kvo.length + 1) k7)));have HY := hsy hY;have j4 := jss k8 0 [(2, _)] hY;have f0 := hid (jrr [(2, _)] e9.out hY (jb k8 0 rfl));clear hY d3 k8;go_simp;rw [HY.out];have j5 : (d4.cell? ⟨gA, jn * 9, none⟩ = some (.string x.p) ∧ d4.cell? ⟨gA, jn * 9 + 1, none⟩ = some (.slice a1 x.xs.length a2) ∧ d4.cell? ⟨gA, jn * 9 + 2, none⟩ = some (.slice a3 x.ys.length a4) ∧ d4.cell? ⟨gA, jn * 9 + 3, none⟩ = some (.int .i64 x.st) ∧ d4.cell? ⟨gA, jn * 9 + 4, none⟩ = some (.slice a5 x.fs.length a6) ∧ d4.cell? ⟨gA, jn * 9 + 5, none⟩ = some (.string x.b) ∧ d4.cell? ⟨gA, jn * 9 + 6, none⟩ = some (.int .i64 x.t) ∧ d4.cell? ⟨gA, jn * 9 + 7, none⟩ = some (.int .i64 x.a) ∧ d4.cell? ⟨gA, jn * 9 + 8, none⟩ = some (.int .i64 x.q)) := (by first | exact a9.out _ j4.hb | exact a9.out _ j4.hb.drew);refine hK.out _ _ j5 (fun _ => ?_)
     clear hK K HY g3 C9;clear j5;refine wdn ?_
     have s8 : Hid (0 ≤ x.a ∧ x.a ≤ 1000) := by
      have h := i2.out.cells _ (List.mem_map_of_mem v9.out)
      dsimp only at h
      show _ ∧ _
      omega
     have s9 := (p2.out _ j4.hb).c7;dsimp only at s9;go_wp2_with fail
     refine (bL1 x.a _ s8.out.1 s8.out.2).mono ?_;rintro e p1 ⟨rfl, l4⟩;have bw : Below d4.heap.size (d4) p1 := by rw [l4]; exact Below.refl _ _
     clear l4;have k9 := jw j4 bw;have b7 := hown f0 bw;clear bw j4;clear s9;have j6 := c6f (jb k9 0 rfl);go_upto_region 17 with fail
     obtain ⟨t0, f1⟩ := exq (p1.setCell ⟨q44, 4, none⟩ (.int .i64 (aN7 x.a)));rw [← f1];have t1 := js k9 0 f1;have f2 := dQ0 f1 (aE8 b7.out (jb k9 0 rfl) (by decide)) b7;clear f1 k9;clear j6
     have s4 : Hid (kva.take (jn + 1) = kva.take jn ++ [((x, .slice a1 x.xs.length a2, .slice a3 x.ys.length a4, .slice a5 x.fs.length a6) : KpD × Value × Value × Value)]) := by
      show _ = _
      have e := o0.out
      rw [← e, List.take_append_getElem k1]
     obtain ⟨f3, c9⟩ : ∃ l, l = kvo ++ [((x, .slice a1 x.xs.length a2, .slice a3 x.ys.length a4, .slice a5 x.fs.length a6) : KpD × Value × Value × Value)] := ⟨_, rfl⟩;have t2 : kvo.length + 1 = f3.length := by rw [c9, List.length_append]; rfl
     have j2 : Hid (aM5 (kva.map (·.1)) = f3.map (·.1) ++ aM5 ((kva.map (·.1)).drop (jn + 1))) := by
      show _ = _
      rw [v7.out, cA5 k1 o0.out (fun i h1 h2 => x0.out.1 (by first | trivial | rfl) i h1 h2 (by omega)), c9, List.map_append, List.append_assoc]
      rfl
     have o4 : Hid (aN7 x.a = bL6 (f3.map (·.1))) := by
      show _ = _
      rw [c9, List.map_append]
      exact (cA6 _ _).symm
     have j3 : Hid (f3.Sublist (kva.take (jn + 1))) := by
      show List.Sublist _ _
      rw [c9, s4.out]
      exact r2.out.append (List.Sublist.refl _)
     have D0 : Hid (t0.ownsRow w.heap.size 52 9 (.slice (some ⟨gL, 0, none⟩) f3.length k7) f3.length (f3.flatMap kpC)) := by
      show World.ownsRow _ _ _ _ _ _ _
      rw [← t2, c9, List.flatMap_append]
      exact f2.out
     have o5 := (jb t1 0 rfl);rw [t2] at o5;have D1 : Hid (t0.heap[q44]? = some (.cells #[.slice oC cs.length pC, .slice oP ws.length pP, .slice (some ⟨gL, 0, none⟩) f3.length k7, .slice oL bl.length pL, .int .i64 (aN7 x.a), .int .i64 (um + 1)] 31)) := o5;clear o5 c9;go_wp2_with fail
     go_roundw
     case rel => exact ⟨jn + 1, f3, aN7 x.a, some ⟨gL, 0, none⟩, k7, by omega, by go_num, ⟨t1.hb, D1.out, D0.out⟩, j2, o4, j3⟩
     case measure => simp [intOf]; omega
    go_simp;have bw : Below a7.heap.size a7 (a7.alloc (.cells #[.string x.p, .slice a1 x.xs.length a2, .slice a3 x.ys.length a4, .int .i64 x.st, .slice a5 x.fs.length a6, .string x.b, .int .i64 x.t, .int .i64 x.a, .int .i64 x.q] 52)) := (Below.refl _ _).alloc (Nat.le_refl _) _;have s5 : ((a7.alloc (.cells #[.string x.p, .slice a1 x.xs.length a2, .slice a3 x.ys.length a4, .int .i64 x.st, .slice a5 x.fs.length a6, .string x.b, .int .i64 x.t, .int .i64 x.a, .int .i64 x.q] 52)).cell? ⟨gA, jn * 9, none⟩ = some (.string x.p) ∧ (a7.alloc (.cells #[.string x.p, .slice a1 x.xs.length a2, .slice a3 x.ys.length a4, .int .i64 x.st, .slice a5 x.fs.length a6, .string x.b, .int .i64 x.t, .int .i64 x.a, .int .i64 x.q] 52)).cell? ⟨gA, jn * 9 + 1, none⟩ = some (.slice a1 x.xs.length a2) ∧ (a7.alloc (.cells #[.string x.p, .slice a1 x.xs.length a2, .slice a3 x.ys.length a4, .int .i64 x.st, .slice a5 x.fs.length a6, .string x.b, .int .i64 x.t, .int .i64 x.a, .int .i64 x.q] 52)).cell? ⟨gA, jn * 9 + 2, none⟩ = some (.slice a3 x.ys.length a4) ∧ (a7.alloc (.cells #[.string x.p, .slice a1 x.xs.length a2, .slice a3 x.ys.length a4, .int .i64 x.st, .slice a5 x.fs.length a6, .string x.b, .int .i64 x.t, .int .i64 x.a, .int .i64 x.q] 52)).cell? ⟨gA, jn * 9 + 3, none⟩ = some (.int .i64 x.st) ∧ (a7.alloc (.cells #[.string x.p, .slice a1 x.xs.length a2, .slice a3 x.ys.length a4, .int .i64 x.st, .slice a5 x.fs.length a6, .string x.b, .int .i64 x.t, .int .i64 x.a, .int .i64 x.q] 52)).cell? ⟨gA, jn * 9 + 4, none⟩ = some (.slice a5 x.fs.length a6) ∧ (a7.alloc (.cells #[.string x.p, .slice a1 x.xs.length a2, .slice a3 x.ys.length a4, .int .i64 x.st, .slice a5 x.fs.length a6, .string x.b, .int .i64 x.t, .int .i64 x.a, .int .i64 x.q] 52)).cell? ⟨gA, jn * 9 + 5, none⟩ = some (.string x.b) ∧ (a7.alloc (.cells #[.string x.p, .slice a1 x.xs.length a2, .slice a3 x.ys.length a4, .int .i64 x.st, .slice a5 x.fs.length a6, .string x.b, .int .i64 x.t, .int .i64 x.a, .int .i64 x.q] 52)).cell? ⟨gA, jn * 9 + 6, none⟩ = some (.int .i64 x.t) ∧ (a7.alloc (.cells #[.string x.p, .slice a1 x.xs.length a2, .slice a3 x.ys.length a4, .int .i64 x.st, .slice a5 x.fs.length a6, .string x.b, .int .i64 x.t, .int .i64 x.a, .int .i64 x.q] 52)).cell? ⟨gA, jn * 9 + 7, none⟩ = some (.int .i64 x.a) ∧ (a7.alloc (.cells #[.string x.p, .slice a1 x.xs.length a2, .slice a3 x.ys.length a4, .int .i64 x.st, .slice a5 x.fs.length a6, .string x.b, .int .i64 x.t, .int .i64 x.a, .int .i64 x.q] 52)).cell? ⟨gA, jn * 9 + 8, none⟩ = some (.int .i64 x.q)) := a9.out _ (a8.trans (bw.mono a8.size))
    refine hK.out _ _ s5 (fun _ => ?_)
    clear hK K s5 bw a0;obtain ⟨o3, e0⟩ := exq (a7.heap.size);obtain ⟨b3, k5⟩ := exq ((a7.alloc (.cells #[.string x.p, .slice a1 x.xs.length a2, .slice a3 x.ys.length a4, .int .i64 x.st, .slice a5 x.fs.length a6, .string x.b, .int .i64 x.t, .int .i64 x.a, .int .i64 x.q] 52)));rw [← e0, ← k5];have bw := bal k5;have b4 := ja g0 k5 e0.symm;have b9 := hown d9 bw;have f5 : (b3.cell? ⟨gA, jn * 9, none⟩ = some (.string x.p) ∧ b3.cell? ⟨gA, jn * 9 + 1, none⟩ = some (.slice a1 x.xs.length a2) ∧ b3.cell? ⟨gA, jn * 9 + 2, none⟩ = some (.slice a3 x.ys.length a4) ∧ b3.cell? ⟨gA, jn * 9 + 3, none⟩ = some (.int .i64 x.st) ∧ b3.cell? ⟨gA, jn * 9 + 4, none⟩ = some (.slice a5 x.fs.length a6) ∧ b3.cell? ⟨gA, jn * 9 + 5, none⟩ = some (.string x.b) ∧ b3.cell? ⟨gA, jn * 9 + 6, none⟩ = some (.int .i64 x.t) ∧ b3.cell? ⟨gA, jn * 9 + 7, none⟩ = some (.int .i64 x.a) ∧ b3.cell? ⟨gA, jn * 9 + 8, none⟩ = some (.int .i64 x.q)) := (by first | exact a9.out _ b4.hb | exact a9.out _ b4.hb.drew);clear a8 bw k5 e0 g0;refine rd1 1 rfl (fun K hK => ?_)
    have C8 := c6c (jb b4 1 rfl);go_simp;refine hK.out _ _ f5 (fun _ => ?_)
    clear hK K C8;refine rd1 7 rfl (fun K hK => ?_)
    have k6 : b3.ownsRow w.heap.size 52 9 (.slice oV kvo.length pV) kvo.length (kvo.flatMap kpC) := b9.out;have s6 : kvo.length + 1 ≤ maxLen := by unfold maxLen; omega
    have s7 : (kvo.length + 1) * 136 ≤ 140737488355328 := by omega
    have d2 := b4.hb;refine step_append_lies b3 (by rfl) _ _ 28 (by rfl) w.heap.size 52 i0 (.agg #[.string ⟨#[]⟩, .slice none 0 0, .slice none 0 0, .int .i64 0, .slice none 0 0, .string ⟨#[]⟩, .int .i64 0, .int .i64 0, .int .i64 0]) 9 136 underlying28 hi D2 o6 m2 rfl (by decide) _ _ _ (by rfl) k6 ⟨o3, 0, none⟩ 1 1 [.string x.p, .slice a1 x.xs.length a2, .slice a3 x.ys.length a4, .int .i64 x.st, .slice a5 x.fs.length a6, .string x.b, .int .i64 x.t, .int .i64 x.a, .int .i64 x.q] (by rfl) rfl (World.news_of_block (jb b4 0 rfl)) (by intro u hu; simp only [List.mem_cons, List.not_mem_nil, or_false] at hu; rcases hu with rfl | rfl | rfl | rfl | rfl | rfl | rfl | rfl | rfl <;> rfl) (by decide) s6 s7 d2.size _ rfl ?_;intro gL k7 d0 f6 b6 _ _;have d3 : Bw w (d0) := d2.grown b6 d2.size (fun g hg => aC8 k6 hg)
    have r6 := hid b6.size;have e9 := hid f6;have k8 := jz b4 d3 (jzx (jzb (jgB b6 k6 (jb b4 1 rfl)) (jzn _)));clear k6 s6 s7 f6 b6 d2 b4;simp only [Act.put, List.setIfInBounds_toArray]
    have g3 : (d0.cell? ⟨gA, jn * 9, none⟩ = some (.string x.p) ∧ d0.cell? ⟨gA, jn * 9 + 1, none⟩ = some (.slice a1 x.xs.length a2) ∧ d0.cell? ⟨gA, jn * 9 + 2, none⟩ = some (.slice a3 x.ys.length a4) ∧ d0.cell? ⟨gA, jn * 9 + 3, none⟩ = some (.int .i64 x.st) ∧ d0.cell? ⟨gA, jn * 9 + 4, none⟩ = some (.slice a5 x.fs.length a6) ∧ d0.cell? ⟨gA, jn * 9 + 5, none⟩ = some (.string x.b) ∧ d0.cell? ⟨gA, jn * 9 + 6, none⟩ = some (.int .i64 x.t) ∧ d0.cell? ⟨gA, jn * 9 + 7, none⟩ = some (.int .i64 x.a) ∧ d0.cell? ⟨gA, jn * 9 + 8, none⟩ = some (.int .i64 x.q)) := (by first | exact a9.out _ d3 | exact a9.out _ d3.drew);refine hK.out _ _ g3 (fun _ => ?_)
    clear hK K f5;refine tkP 8 (.pointer (some ⟨q44, 2, none⟩)) 119 rfl rfl g3 ?_;simp only [Act.put]
    refine rd1 9 rfl (fun K hK => ?_)
    have C9 := c6f (jb k8 0 rfl);obtain ⟨d4, hY⟩ := exq ((d0.setCell ⟨q44, 2, none⟩ (.slice (some ⟨gL, 0, none⟩) (kvo.length + 1) k7)));have HY := hsy hY;have j4 := jss k8 0 [(2, _)] hY;have f0 := hid (jrr [(2, _)] e9.out hY (jb k8 0 rfl));clear hY d3 k8;go_simp;rw [HY.out];have j5 : (d4.cell? ⟨gA, jn * 9, none⟩ = some (.string x.p) ∧ d4.cell? ⟨gA, jn * 9 + 1, none⟩ = some (.slice a1 x.xs.length a2) ∧ d4.cell? ⟨gA, jn * 9 + 2, none⟩ = some (.slice a3 x.ys.length a4) ∧ d4.cell? ⟨gA, jn * 9 + 3, none⟩ = some (.int .i64 x.st) ∧ d4.cell? ⟨gA, jn * 9 + 4, none⟩ = some (.slice a5 x.fs.length a6) ∧ d4.cell? ⟨gA, jn * 9 + 5, none⟩ = some (.string x.b) ∧ d4.cell? ⟨gA, jn * 9 + 6, none⟩ = some (.int .i64 x.t) ∧ d4.cell? ⟨gA, jn * 9 + 7, none⟩ = some (.int .i64 x.a) ∧ d4.cell? ⟨gA, jn * 9 + 8, none⟩ = some (.int .i64 x.q)) := (by first | exact a9.out _ j4.hb | exact a9.out _ j4.hb.drew);refine hK.out _ _ j5 (fun _ => ?_)
    clear hK K HY g3 C9;clear j5;refine wdn ?_
    have s8 : Hid (0 ≤ x.a ∧ x.a ≤ 1000) := by
     have h := i2.out.cells _ (List.mem_map_of_mem v9.out)
     dsimp only at h
     show _ ∧ _
     omega
    have s9 := (p2.out _ j4.hb).c7;dsimp only at s9;go_wp2_with fail
    refine (bL1 x.a _ s8.out.1 s8.out.2).mono ?_;rintro e p1 ⟨rfl, l4⟩;have bw : Below d4.heap.size (d4) p1 := by rw [l4]; exact Below.refl _ _
    clear l4;have k9 := jw j4 bw;have b7 := hown f0 bw;clear bw j4;clear s9;have j6 := c6f (jb k9 0 rfl);go_upto_region 17 with fail
    obtain ⟨t0, f1⟩ := exq (p1.setCell ⟨q44, 4, none⟩ (.int .i64 (aN7 x.a)));rw [← f1];have t1 := js k9 0 f1;have f2 := dQ0 f1 (aE8 b7.out (jb k9 0 rfl) (by decide)) b7;clear f1 k9;clear j6
    have s4 : Hid (kva.take (jn + 1) = kva.take jn ++ [((x, .slice a1 x.xs.length a2, .slice a3 x.ys.length a4, .slice a5 x.fs.length a6) : KpD × Value × Value × Value)]) := by
     show _ = _
     have e := o0.out
     rw [← e, List.take_append_getElem k1]
    obtain ⟨f3, c9⟩ : ∃ l, l = kvo ++ [((x, .slice a1 x.xs.length a2, .slice a3 x.ys.length a4, .slice a5 x.fs.length a6) : KpD × Value × Value × Value)] := ⟨_, rfl⟩;have t2 : kvo.length + 1 = f3.length := by rw [c9, List.length_append]; rfl
    have j2 : Hid (aM5 (kva.map (·.1)) = f3.map (·.1) ++ aM5 ((kva.map (·.1)).drop (jn + 1))) := by
     show _ = _
     rw [v7.out, cA5 k1 o0.out (fun i h1 h2 => x0.out.1 (by first | trivial | rfl) i h1 h2 (by omega)), c9, List.map_append, List.append_assoc]
     rfl
    have o4 : Hid (aN7 x.a = bL6 (f3.map (·.1))) := by
     show _ = _
     rw [c9, List.map_append]
     exact (cA6 _ _).symm
    have j3 : Hid (f3.Sublist (kva.take (jn + 1))) := by
     show List.Sublist _ _
     rw [c9, s4.out]
     exact r2.out.append (List.Sublist.refl _)
    have D0 : Hid (t0.ownsRow w.heap.size 52 9 (.slice (some ⟨gL, 0, none⟩) f3.length k7) f3.length (f3.flatMap kpC)) := by
     show World.ownsRow _ _ _ _ _ _ _
     rw [← t2, c9, List.flatMap_append]
     exact f2.out
    have o5 := (jb t1 0 rfl);rw [t2] at o5;have D1 : Hid (t0.heap[q44]? = some (.cells #[.slice oC cs.length pC, .slice oP ws.length pP, .slice (some ⟨gL, 0, none⟩) f3.length k7, .slice oL bl.length pL, .int .i64 (aN7 x.a), .int .i64 (um + 1)] 31)) := o5;clear o5 c9;go_wp2_with fail
    go_roundw
    case rel => exact ⟨jn + 1, f3, aN7 x.a, some ⟨gL, 0, none⟩, k7, by omega, by go_num, ⟨t1.hb, D1.out, D0.out⟩, j2, o4, j3⟩
    case measure => simp [intOf]; omega
def bD0 (cs : Ts) (ws : List (Int × ByteArray)) (r : ShD) : Prop := (¬ aR2 cs ws ∧ r = newS) ∨ (aR2 cs ws ∧ aZ8 cs ws r)
theorem bD0.uniq {cs : Ts} {ws : List (Int × ByteArray)} {r r' : ShD} (h : bD0 cs ws r) (h' : bD0 cs ws r') : r = r' := by
 rcases h with ⟨h1, h2⟩ | ⟨h1, h2⟩ <;> rcases h' with ⟨k1, k2⟩ | ⟨k1, k2⟩
 ·exact h2.trans k2.symm
 ·exact absurd k1 h1
 ·exact absurd h1 k1
 exact h2.uniq k2
open Classical in
theorem bD0.ex (cs : Ts) (ws : List (Int × ByteArray)) : ∃ r, bD0 cs ws r := by
 by_cases h : aR2 cs ws
 rotate_left
 ·exact ⟨newS, .inl ⟨h, rfl⟩⟩
 obtain ⟨r, hr⟩ := aZ8.ex cs ws;exact ⟨r, .inr ⟨h, hr⟩⟩
theorem bD0.got {cs : Ts} {ws : List (Int × ByteArray)} {r : ShD} (hg : bD0 cs ws r) {w : World} {e : Ending} {w' : World} (h : (¬ aR2 cs ws ∧ aR3 newS w e w') ∨ (aR2 cs ws ∧ ∃ s, aZ8 cs ws s ∧ aR3 s w e w')) : aR3 r w e w' := by
 rcases h with ⟨h1, h2⟩ | ⟨h1, s, h2, h3⟩
 ·rw [hg.uniq (.inl ⟨h1, rfl⟩)]; exact h2
 rw [hg.uniq (.inr ⟨h1, h2⟩)]; exact h3
theorem dG9 {n : Nat} : ∀ l : List KpD, (∀ k ∈ l, 1 + k.xs.length + k.ys.length + k.fs.length ≤ n) → wtK l ≤ n * l.length
 | [], _ => Nat.zero_le _
 | x :: l, h => by
  have h1 := dG9 l (fun k hk => h k (List.mem_cons_of_mem _ hk))
  have h2 := h x List.mem_cons_self
  rw [wtK, List.length_cons, Nat.mul_succ]
  omega
theorem aD6.objs {cs : Ts} {ws : List (Int × ByteArray)} {bl : Bs} {m0 : Int} : ∀ {n : Nat} {m : Int} {l : List KpD}, aD6 cs ws bl m0 n m l → ∀ k ∈ l, ObjK k
 | 0, _, _, h, k, hk => by rw [h.2] at hk; cases hk
 | n + 1, _, _, h, k, hk => by
  obtain ⟨a, b, h1, h2⟩ := h
  rcases h2 with ⟨z, hz, _, ⟨_, rfl⟩ | ⟨_, rfl⟩⟩ | ⟨_, _, rfl⟩
  · exact aD6.objs h1 k hk
  ·rcases bM9 hk with rfl | hk
   ·obtain ⟨d, _, h3, h4, _⟩ := hz
    exact (h4 ▸ h3.1 : ObjP k.p k.xs k.ys k.st k.fs k.b k.t)
   · exact aD6.objs h1 k hk
  · exact aD6.objs h1 k hk
theorem cT9 {k : KpD} (h : ObjK k) : 1 + k.xs.length + k.ys.length + k.fs.length ≤ 1000 := by
 obtain ⟨⟨_, ⟨h1, _⟩, _⟩, _, _, ⟨_, h6⟩, h7, _⟩ := h;omega
theorem bD0.lim {cs : Ts} {ws : List (Int × ByteArray)} {r : ShD} (hg : bD0 cs ws r) (h1 : cs.length ≤ 1048576) (h2 : ws.length ≤ 1048576) : dD4 r := by
 have mk : ∀ r : ShD, r.cs.length ≤ 1048576 → r.ws.length ≤ 1048576 → r.ks.length ≤ 15 → r.bl.length ≤ 5 → (∀ k ∈ r.ks, ObjK k) → dD4 r := by
  intro r a1 a2 a3 a4 a5
  refine ⟨by omega, by omega, by omega, by omega, fun k hk => by have h := cT9 (a5 k hk); omega, fun kv hk => ?_⟩
  have b1 := dL9 kv
  have b2 := dG9 (n := 1000) r.ks (fun k hk => cT9 (a5 k hk))
  rw [hk] at b1
  omega
 rcases hg with ⟨_, rfl⟩ | ⟨_, bl, m0, m, l, c1, c2, c3, c4, rfl⟩
 ·exact mk _ (by decide) (by decide) (by decide) (by decide) (fun k hk => by cases hk)
 refine mk _ h1 h2 ?_ c1 (fun k hk => c4.objs k ((bA0 _).subset hk))
 have d1 := (bA0 l).length_le;have d2 := c4.len;show (aM5 l).length ≤ 15
 omega
end Go.Proofs.YtiobfnpmidjijaaGreatDoor
namespace Go.Proofs.YtiobfnpmidjijaaGreatDoor
open Go.Proofs.Tryz
open Go.RowKit Go.WideShapes
open Go.Lib hiding intOf
theorem dL4 {H : Type} {enc : TypeId × Value → H} {W : World} {r : Reach} {b0 : Nat} {v : Value} {d : DataW H} {ps : List MemPlace} (hval : Value.okWide prog W r b0 67 v) (h : DataW.Trod enc prog W 0 (fun _ => true) true 67 v d ps) :
  ∃ (a1 : Oa) (n1 c1 : Nat) (cs : Ts) (a2 : Oa) (n2 c2 : Nat) (ws : List (Int × ByteArray)), v = .agg #[.slice a1 n1 c1, .slice a2 n2 c2] ∧ ArgT W W.heap.size a1 n1 cs ∧ aJ2 W W.heap.size a2 n2 ws ∧ n1 ≤ maxLen ∧ n2 ≤ maxLen ∧ (∀ i, i < n1 → (aA7 cs i).size ≤ maxLen) ∧ ∀ x ∈ ws, (x.2).size ≤ maxLen := by
 obtain ⟨cs, rfl, hsz⟩ := okWide_struct underlying67 hval;obtain ⟨a3, hf⟩ := h;obtain ⟨ys, q, _, _, _, a4, hg⟩ := DataW.trod_struct underlying67 hf;have a5 : prog.cellsOf 67 = 2 := by kernel_rfl
 have eS : prog.cellsOf 24 = 1 := by kernel_rfl
 have eW : prog.cellsOf 65 = 1 := by kernel_rfl
 rw [a5] at hsz;obtain ⟨l⟩ := cs
 obtain ⟨d0, d1, rfl⟩ : ∃ d0 d1, l = [d0, d1] := by
  match l, hsz with
  | [d0, d1], _ => exact ⟨d0, d1, rfl⟩
 have g0 := hg 0 _ rfl;have g1 := hg 1 _ rfl;simp [Value.cells, eS, eW] at g0 g1
 have a6 : ys.length = 2 := a4;rw [List.getElem?_eq_getElem (show 0 < ys.length by omega)] at g0;rw [List.getElem?_eq_getElem (show 1 < ys.length by omega)] at g1
 obtain ⟨a1, n1, c1, rfl⟩ : ∃ a n a0, d0 = .slice a n a0 := by
  rcases DataW.trod_slice underlying24 g0 with ⟨h, _⟩ | ⟨a, n, a0, _, _, _, _, h, _⟩
  ·exact ⟨none, 0, 0, by simpa using h⟩
  ·exact ⟨_, n, a0, by simpa using h⟩
 obtain ⟨a2, n2, c2, rfl⟩ : ∃ a n a0, d1 = .slice a n a0 := by
  rcases DataW.trod_slice underlying65 g1 with ⟨h, _⟩ | ⟨a, n, a0, _, _, _, _, h, _⟩
  ·exact ⟨none, 0, 0, by simpa using h⟩
  ·exact ⟨_, n, a0, by simpa using h⟩
 obtain ⟨xs, x1, x2, x3⟩ := dB5 g0;obtain ⟨ws, y1, y2, y3⟩ := cV4 g1;exact ⟨a1, n1, c1, xs, a2, n2, c2, ws, rfl, x1, y1, x2, y2, x3, y3⟩
end Go.Proofs.YtiobfnpmidjijaaGreatDoor
namespace Go.Proofs.YtiobfnpmidjijaaGreatDoor
open Go.Proofs.Tryz
open Go.RowKit
open Go.Lib hiding intOf
theorem dH0 (w : World) (a1 : Oa) (n1 c1 : Nat) (cs : Ts) (a2 : Oa) (n2 c2 : Nat) (ws : List (Int × ByteArray)) (h1 : ArgT w w.heap.size a1 n1 cs) (h2 : aJ2 w w.heap.size a2 n2 ws) (hn1 : n1 ≤ maxLen) (hn2 : n2 ≤ maxLen) (hs1 : ∀ i, i < n1 → (aA7 cs i).size ≤ maxLen) (hs2 : ∀ x ∈ ws, (x.2).size ≤ maxLen) (hT : aG9 w) (hLN : aH5 w) (hH : aN9 w) :
  Calls prog 7 #[.agg #[.slice a1 n1 c1, .slice a2 n2 c2]] w fun e w' => e = .returned (.bool true) ∧ Below w.heap.size w w' := by
 classical
 have m6 : Hid (∀ W, Bw w W → ArgT W w.heap.size a1 n1 cs) := fun W h => h1.below h
 have m7 : Hid (∀ W, Bw w W → aJ2 W w.heap.size a2 n2 ws) := fun W h => h2.below h
 have y2 : Hid (cs.length = n1) := h1.len;have B5 : Hid (ws.length = n2) := h2.1;have B6 := hid hn1;have B7 := hid hn2;have B8 := hid hs1;have B9 := hid hs2;clear h1 h2 hn1 hn2 hs1 hs2;have HT : Hid (∀ W, Bw w W → aG9 W) := fun W h => hT.below h
 have HE : Hid (∀ W, Bw w W → aH5 W) := fun W h => hLN.below h hLN.lt
 have HH : Hid (∀ W, Bw w W → aN9 W) := fun W h => hH.below h
 clear hT hLN hH;have K0 := jnil w;go_enter func7, ntmps7;go_upto_region 1 with fail
 obtain ⟨q1, t1⟩ := exq (w.heap.size);obtain ⟨w1, m8⟩ := exq (w.alloc (.cells #[.slice a1 n1 c1, .slice a2 n2 c2] 67));have m0 := t1.symm;rw [← m8]; try rw [← t1];have hs1 := hsa m8 m0;have bw := bal m8;have K1 := ja K0 m8 m0;clear bw m8 m0 K0;clear hs1 t1;have c3 := c2c (jb K1 0 rfl);go_wp2_with fail
 refine (cV5 1048576 (by omega) (by omega) a1 n1 c1 cs a2 n2 c2 ws w.heap.size _ (m6.out _ K1.hb) (m7.out _ K1.hb) K1.hb.size B6.out B7.out B8.out B9.out).mono ?_;rintro e w2 ⟨r1, rfl, D5, t3, bw⟩;have K2 := jw K1 bw;clear bw K1;clear c3;by_cases hc1 : r1 < 0
 ·clear t3;go_wp2_with fail
  go_ret;exact ⟨rfl, K2.hb⟩
 obtain ⟨⟨m1, m0⟩, m2, y3⟩ := t3 (by omega);have y4 := hid m0;have y5 := hid y3;clear t3 m0 y3;obtain ⟨ra, h9⟩ := bD0.ex cs ws;have m9 := hid h9;have a0 : Hid (dD4 ra) := h9.lim (by rw [y2.out]; exact m1) (by rw [B5.out]; exact m2);have i0 : Hid (n1 ≤ 1048576 ∧ n2 ≤ 1048576) := ⟨m1, m2⟩
 have C0 : Hid (∀ W : World, Bw w W → ∀ (u1 u2 : Value) (B : Nat), aJ3 W B u1 n1 cs u2 n2 ws → Calls prog 30 #[.agg #[u1, u2]] W fun e w' => aR3 ra W e w') := fun W _ u1 u2 B ho =>
  (cF6 u1 u2 n1 cs n2 ws B W ho (by have := i0.out; omega) (by have := i0.out; omega) (fun x => Nat.le_trans (bT7 (by have h := y4.out; rw [← y2.out] at h; exact h) y5.out x) (by decide))).mono (fun e w' h => m9.out.got h)
 have y6 : Hid (∀ W : World, Bw w W → ∀ (u1 u2 : Value) (B : Nat), B ≤ W.heap.size → aJ3 W B u1 n1 cs u2 n2 ws → Calls prog 19 #[.agg #[u1, u2]] W fun e w' => aR3 ra W e w') := fun W hW u1 u2 B hB ho =>
  (cF5 u1 u2 n1 cs n2 ws B W ho hB i0.out.1 i0.out.2 y4.out y5.out (HT.out W hW) (HE.out W hW) (HH.out W hW)).mono (fun e w' h => m9.out.got h)
 clear h9;have c3 := c2c (jb K2 0 rfl);go_wp2_with fail
 refine (bB1 a1 n1 c1 cs a2 n2 c2 ws w.heap.size _ (m6.out _ K2.hb) (m7.out _ K2.hb) K2.hb.size m1 m2).mono ?_;rintro e w3 ⟨t5, t6, rfl, ⟨b5, b6⟩, bw⟩;obtain ⟨y7, y8, rfl⟩ := aA0 b5;obtain ⟨y9, z0, rfl⟩ := aA0 b6;have K3 := jj K2 (jcR (jcR (jN bw) b5 jhn) b6 (jhc (jty b6 b5) jhn));have n0 := hhi b5;clear b5;have n3 := hhi b6;clear b6;clear bw K2;clear c3;go_wp2_with fail
 refine (C0.out _ K3.hb _ _ _ ⟨(jo K3 1 rfl), (jo K3 0 rfl)⟩).mono ?_;rintro e w4 ⟨va, vb, vc, vd, m3, rfl, a7, bw⟩;obtain ⟨r7, r8, rfl⟩ := aA0 a7.disk.cells;obtain ⟨r9, s0, rfl⟩ := aA0 a7.disk.pend;obtain ⟨s1, s2, rfl⟩ := a7.kept.len;obtain ⟨s3, s4, rfl⟩ := aA0 a7.bans;obtain ⟨R2, n4⟩ := exq (aP6 (.slice r7 ra.cs.length r8) (.slice r9 ra.ws.length s0) (.slice s1 m3.length s2) (.slice s3 ra.bl.length s4) m3 ra.cs ra.ws ra.bl);obtain ⟨b2, n5⟩ := exq (w3.heap.size);obtain ⟨t2, i1⟩ := exq (w4.heap.size);have t7 := K3.hb.size;have K4 := jw K3 bw;have s5 := hsz bw;clear bw K3;have n6 : Hid (aB2 (w4) b2 (R2)) := by show aB2 _ _ _; rw [n5, n4]; exact a7.1
 have i2 : Hid (m3.map (·.1) = ra.ks) := a7.2;have t9 : Hid (∀ r ∈ R2, ∀ g, r.v.ownBlock = some g → g < t2) := fun r hr g hg => by rw [i1]; rw [n4] at hr; exact a7.1.lt hr hg
 have i3 := hid n4;have C1 : Hid (NoT R2) := fun T h1 h2 h3 h4 h5 r hr => by rw [n4] at hr; exact cN9 T h1 h2 h3 h4 h5 r hr
 clear n4;have i4 := hid i1;clear a7 n5 i1 t7;go_upto_region 6 with fail
 obtain ⟨q2, v0⟩ := exq (w4.heap.size);obtain ⟨w5, n7⟩ := exq (w4.alloc (.cells #[(.slice r7 ra.cs.length r8), (.slice r9 ra.ws.length s0), (.slice s1 m3.length s2), (.slice s3 ra.bl.length s4), .int .i64 ra.nx, .int .i64 ra.sq] 31));have v1 := v0.symm;rw [← n7]; try rw [← v0];have C2 := hsa n7 v1;have bw := bal n7;have K5 := ja K4 n7 v1;have i5 := hsz bw;have n8 := hid (n6.out.below bw);clear bw n7 v1 K4;clear C2 v0;have c3 := c2c (jb K5 3 rfl);go_wp2_with fail
 refine (bB1 a1 n1 c1 cs a2 n2 c2 ws w.heap.size _ (m6.out _ K5.hb) (m7.out _ K5.hb) K5.hb.size m1 m2).mono ?_;rintro e w6 ⟨t5, t6, rfl, ⟨a9, b0⟩, bw⟩;obtain ⟨i6, i7, rfl⟩ := aA0 a9;obtain ⟨i8, i9, rfl⟩ := aA0 b0;have K6 := jj K5 (jcR (jcR (jN bw) a9 jhn) b0 (jhc (jty b0 a9) jhn));have n9 := hsz bw;have o0 := hid (n8.out.below bw);have o1 := hlo a9;have j0 := hhi a9;clear a9;have o2 := hlo b0;have j1 := hhi b0;clear b0;clear bw K5;clear c3;go_upto_region 7 with fail
 obtain ⟨q3, v2⟩ := exq (w6.heap.size);obtain ⟨w7, o3⟩ := exq (w6.alloc (.cells #[.slice i6 n1 i7, .slice i8 n2 i9] 27));have v3 := v2.symm;rw [← o3]; try rw [← v2];have C3 := hsa o3 v3;have bw := bal o3;have K7 := ja K6 o3 v3;have e4 := hsz bw;have o4 := hid (o0.out.below bw);clear bw o3 v3 K6;clear C3 v2;have j2 := c2c (jb K7 0 rfl);go_wp2_with fail
 refine (y6.out _ K7.hb _ _ _ K7.hb.size ⟨(jo K7 2 rfl), (jo K7 1 rfl)⟩).mono ?_;rintro e w8 ⟨va, vb, vc, vd, a8, rfl, a7, bw⟩;obtain ⟨g0, g1, rfl⟩ := aA0 a7.disk.cells;obtain ⟨g2, g3, rfl⟩ := aA0 a7.disk.pend;obtain ⟨g4, g5, rfl⟩ := a7.kept.len;obtain ⟨g6, g7, rfl⟩ := aA0 a7.bans;obtain ⟨R4, o5⟩ := exq (aP6 (.slice g0 ra.cs.length g1) (.slice g2 ra.ws.length g3) (.slice g4 a8.length g5) (.slice g6 ra.bl.length g7) a8 ra.cs ra.ws ra.bl);obtain ⟨b4, e5⟩ := exq (w7.heap.size);obtain ⟨t4, j3⟩ := exq (w8.heap.size);have o6 := K7.hb.size;have K8 := jw K7 bw;have v4 := hsz bw;have o7 := hid (o4.out.below bw);clear bw K7;have o8 : Hid (aB2 (w8) b4 (R4)) := by show aB2 _ _ _; rw [e5, o5]; exact a7.1
 have c7 : Hid (a8.map (·.1) = ra.ks) := a7.2;have z1 : Hid (∀ r ∈ R4, ∀ g, r.v.ownBlock = some g → g < t4) := fun r hr g hg => by rw [j3]; rw [o5] at hr; exact a7.1.lt hr hg
 have e6 := hid o5;have e7 : Hid (NoT R4) := fun T h1 h2 h3 h4 h5 r hr => by rw [o5] at hr; exact cN9 T h1 h2 h3 h4 h5 r hr
 clear o5;have v5 : Hid (b4 ≥ w.heap.size) := by show _ ≤ _; rw [e5]; exact o6
 have b7 := hid e5;have o9 := hid j3;clear a7 e5 j3 o6;clear j2;go_upto_region 8 with fail
 obtain ⟨q4, v6⟩ := exq (w8.heap.size);obtain ⟨w9, p0⟩ := exq (w8.alloc (.cells #[(.slice g0 ra.cs.length g1), (.slice g2 ra.ws.length g3), (.slice g4 a8.length g5), (.slice g6 ra.bl.length g7), .int .i64 ra.nx, .int .i64 ra.sq] 31));have v7 := v6.symm;rw [← p0]; try rw [← v6];have C4 := hsa p0 v7;have bw := bal p0;have K9 := ja K8 p0 v7;have p1 := hsz bw;have g8 := hid (o7.out.below bw);have g9 := hid (o8.out.below bw);clear bw p0 v7 K8;clear C4 v6;have d2 := c6c (jb K9 4 rfl);have b1 := c6c (jb K9 0 rfl);go_wp2_with fail
 refine (bD9 ra _ _ _ _ _ _ _ _ _ _ _ _ _ (bB6 e6.out g9.out c7.out) (bB6 i3.out g8.out i2.out) a0.out.c a0.out.w a0.out.k a0.out.b a0.out.ks).mono ?_;rintro e C5 ⟨rfl, bw⟩;have s6 := jw K9 bw;have d3 := hsz bw;have j4 := hid (g8.out.below bw);have j5 := hid (g9.out.below bw);clear bw K9;clear d2 b1;go_upto_region 10 with fail
 refine wp_region_held_drew (S := fun W => W.heap[q3]? = some (.cells #[.slice i6 n1 i7, .slice i8 n2 i9] 27) ∧ W.heap[q1]? = some (.cells #[.slice a1 n1 c1, .slice a2 n2 c2] 67)) (by kernel_rfl) ⟨(jb s6 1 rfl), (jb s6 7 rfl)⟩ (fun _ => ?_)
 obtain ⟨D6, hX⟩ := exq C5.drew;have bw := bdr hX;rw [← hX];have j6 := jw s6 bw;have d4 := hsz bw;have j7 := hid (j4.out.below bw);have j8 := hid (j5.out.below bw);have j9 := And.intro (jb j6 1 rfl) (jb j6 7 rfl);clear bw hX s6;refine tkL 0 (.agg #[.slice i6 n1 i7, .slice i8 n2 i9]) 27 rfl rfl (Or.inl ⟨by rfl, by intro W hW; obtain ⟨p2, p3⟩ := hW; have y0 := c2c p2; go_simp⟩) j9 ?_;go_frame;refine tkL 1 (.agg #[.slice a1 n1 c1, .slice a2 n2 c2]) 28 rfl rfl (Or.inl ⟨by rfl, by intro W hW; obtain ⟨p2, p3⟩ := hW; have y0 := c2c p3; go_simp⟩) j9 ?_;go_frame;refine rd1 2 rfl (fun K hK => ?_)
 go_simp;refine (bB1 a1 n1 c1 cs a2 n2 c2 ws w.heap.size _ (m6.out _ j6.hb) (m7.out _ j6.hb) j6.hb.size m1 m2).mono ?_;rintro e D7 ⟨t5, t6, rfl, ⟨b9, c0⟩, bw⟩;obtain ⟨z2, z3, rfl⟩ := aA0 b9;obtain ⟨z4, z5, rfl⟩ := aA0 c0;have h0 := jj j6 (jcR (jcR (jN bw) b9 jhn) c0 (jhc (jty c0 b9) jhn));have k0 := hsz bw;have k1 := hid (j7.out.below bw);have k2 := hid (j8.out.below bw);have p4 := hlo b9;clear b9;have p5 := hlo c0;clear c0;clear bw j6;have p6 := And.intro (jb h0 3 rfl) (jb h0 9 rfl);refine hK.out _ _ p6 (fun _ => ?_)
 clear hK K j9;refine rd1 3 rfl (fun K hK => ?_)
 go_simp;refine (bX5 n1 cs n2 ws _ _ _ _ _ _ _ ⟨(jo h0 5 rfl), (jo h0 4 rfl)⟩ ⟨(jo h0 1 rfl), (jo h0 0 rfl)⟩ (by have := i0.out; omega) (by have := i0.out; omega)).mono ?_;rintro e D8 ⟨rfl, bw⟩;have a3 := jw h0 bw;have v8 := hsz bw;have d5 := hid (k1.out.below bw);have b3 := hid (k2.out.below bw);clear bw h0;have k3 := And.intro (jb a3 3 rfl) (jb a3 9 rfl);refine hK.out _ _ k3 (fun _ => ?_)
 clear hK K p6;refine tkP 4 (.bool false) 31 rfl rfl k3 ?_;go_frame;clear k3;refine wdn ?_;have j2 := c2c (jb a3 3 rfl);go_wp2_with fail
 refine (bK5 n1 cs n2 ws _ _ _ _ ⟨(jo a3 5 rfl), (jo a3 4 rfl)⟩ a3.hb.size 1 (by omega) (by have := i0.out; omega)).mono ?_;rintro e c8 ⟨rfl, ⟨z6, z7⟩, bm, a5⟩;have p7 : Bw w (c8) := a3.hb.trans bm;have v9 := hsz bm;have e8 : Hid (c8.ownsRow w.heap.size 9 1 (.slice y7 n1 y8) n1 (cs.map Value.string)) := aA9 (jo a3 8 rfl) (fun g hg => a5 g (aB0 (jo a3 8 rfl) hg) (fun e => by have h1 := o1.out g e; have h2 := n0.out g hg; have := s5.out; have := i5.out; have := n9.out; omega) (aD7 (jo a3 8 rfl) (jo a3 4 rfl) (by decide) g hg))
 have e9 : Hid (c8.ownsRow w.heap.size 128 2 (.slice y9 n2 z0) n2 (aA4 ws)) := aA9 (jo a3 7 rfl) (fun g hg => a5 g (aB0 (jo a3 7 rfl) hg) (aD7 (jo a3 7 rfl) (jo a3 5 rfl) (by decide) g hg) (fun e => by have h1 := o2.out g e; have h2 := n3.out g hg; have := s5.out; have := i5.out; have := n9.out; omega))
 have f0 : Hid (c8.ownsRow w.heap.size 9 1 (.slice z2 n1 z3) n1 (cs.map Value.string)) := aA9 (jo a3 1 rfl) (fun g hg => a5 g (aB0 (jo a3 1 rfl) hg) (fun e => by have h1 := p4.out g hg; have h2 := j0.out g e; have := e4.out; have := v4.out; have := p1.out; have := d3.out; have := d4.out; have := k0.out; omega) (aD7 (jo a3 1 rfl) (jo a3 4 rfl) (by decide) g hg))
 have f1 : Hid (c8.ownsRow w.heap.size 128 2 (.slice z4 n2 z5) n2 (aA4 ws)) := aA9 (jo a3 0 rfl) (fun g hg => a5 g (aB0 (jo a3 0 rfl) hg) (aD7 (jo a3 0 rfl) (jo a3 5 rfl) (by decide) g hg) (fun e => by have h1 := p5.out g hg; have h2 := j1.out g e; have := e4.out; have := v4.out; have := p1.out; have := d3.out; have := d4.out; have := k0.out; omega))
 have p8 : Hid (c8.heap[q1]? = some (.cells #[.slice a1 n1 c1, .slice a2 n2 c2] 67)) := (a5 _ (Array.getElem?_eq_some_iff.1 (jb a3 9 rfl)).1 (fun e => aE8 (jo a3 5 rfl) (jb a3 9 rfl) (by decide) _ e rfl) (fun e => aE8 (jo a3 4 rfl) (jb a3 9 rfl) (by decide) _ e rfl)).trans (jb a3 9 rfl)
 have h6 : Hid (c8.heap[q2]? = some (.cells #[(.slice r7 ra.cs.length r8), (.slice r9 ra.ws.length s0), (.slice s1 m3.length s2), (.slice s3 ra.bl.length s4), .int .i64 ra.nx, .int .i64 ra.sq] 31)) := (a5 _ (Array.getElem?_eq_some_iff.1 (jb a3 6 rfl)).1 (fun e => aE8 (jo a3 5 rfl) (jb a3 6 rfl) (by decide) _ e rfl) (fun e => aE8 (jo a3 4 rfl) (jb a3 6 rfl) (by decide) _ e rfl)).trans (jb a3 6 rfl)
 have p9 : Hid (c8.heap[q3]? = some (.cells #[.slice i6 n1 i7, .slice i8 n2 i9] 27)) := (a5 _ (Array.getElem?_eq_some_iff.1 (jb a3 3 rfl)).1 (fun e => aE8 (jo a3 5 rfl) (jb a3 3 rfl) (by decide) _ e rfl) (fun e => aE8 (jo a3 4 rfl) (jb a3 3 rfl) (by decide) _ e rfl)).trans (jb a3 3 rfl)
 have h7 : Hid (c8.heap[q4]? = some (.cells #[(.slice g0 ra.cs.length g1), (.slice g2 ra.ws.length g3), (.slice g4 a8.length g5), (.slice g6 ra.bl.length g7), .int .i64 ra.nx, .int .i64 ra.sq] 31)) := (a5 _ (Array.getElem?_eq_some_iff.1 (jb a3 2 rfl)).1 (fun e => aE8 (jo a3 5 rfl) (jb a3 2 rfl) (by decide) _ e rfl) (fun e => aE8 (jo a3 4 rfl) (jb a3 2 rfl) (by decide) _ e rfl)).trans (jb a3 2 rfl)
 have d6 : Hid (aB2 (c8) b2 (R2)) := aB2.same d5.out (fun r hr g hg => a5 g (d5.out.lt hr hg) (fun e => by have h1 := o1.out g (by assumption); have h2 := t9.out r hr g (by assumption); have h3 := i4.out; have := i5.out; omega) (fun e => by have h1 := o2.out g (by assumption); have h2 := t9.out r hr g (by assumption); have h3 := i4.out; have := i5.out; omega))
 have d7 : Hid (aB2 (c8) b4 (R4)) := aB2.same b3.out (fun r hr g hg => a5 g (b3.out.lt hr hg) (fun e => by have h1 := j0.out g (by assumption); have h2 := b3.out.ge hr (by assumption); have h4 := b7.out; have := e4.out; omega) (fun e => by have h1 := j1.out g (by assumption); have h2 := b3.out.ge hr (by assumption); have h4 := b7.out; have := e4.out; omega))
 have f2 : Hid (c8.ownsRow w.heap.size 9 1 (.slice i6 n1 i7) n1 ((mkT 1 cs n1).map Value.string)) := z6;have f3 : Hid (c8.ownsRow w.heap.size 128 2 (.slice i8 n2 i9) n2 (aA4 (aE7 (1 + n1) ws n2))) := z7;have z8 := jz a3 p7 (jzr f1.out (jzr f0.out (jzb h7.out (jzb p9.out (jzr f3.out (jzr f2.out (jzb h6.out (jzr e9.out (jzr e8.out (jzb p8.out (jzn _)))))))))));clear z6 z7 bm a5 a3;have C6 : ¬ (((1 + n1 + 2 * n2 : Nat) : Int) < 0) := by omega
 clear j2;have d2 := c6c h6.out;have b1 := c6c h7.out;go_wp2_with fail
 refine (bD9 ra _ _ _ _ _ _ _ _ _ _ _ _ _ (bB6 e6.out d7.out c7.out) (bB6 i3.out d6.out i2.out) a0.out.c a0.out.w a0.out.k a0.out.b a0.out.ks).mono ?_;rintro e z9 ⟨rfl, bw⟩;have a6 := jw z8 bw;have x0 := hsz bw;have d8 := hid (d6.out.below bw);have a4 := hid (d7.out.below bw);clear p7 bw z8;clear d2 b1;have b1 := c6c (jb a6 2 rfl);obtain ⟨k4, A0⟩ := exq (1 + ra.cs.length + 2 * ra.ws.length);obtain ⟨k5, A1⟩ := exq (k4 + wms a8);obtain ⟨m4, A2⟩ := exq (k5 + 4 * ra.bl.length);have c9 := hid A0;have d0 := hid A1;have d1 := hid A2;have C7 : 1 ≤ m4 := by omega
 have C8 : m4 ≤ 99999998 := by have := a0.out.m a8 c7.out; omega
 clear A0 A1 A2;have q0 : Hid (aB2 (z9) b4 (aP6 (.slice g0 ra.cs.length g1) (.slice g2 ra.ws.length g3) (.slice g4 a8.length g5) (.slice g6 ra.bl.length g7) a8 ra.cs ra.ws ra.bl)) := by show aB2 _ _ _; rw [← e6.out]; exact a4.out
 go_wp2_with fail
 refine (cI7 ra _ _ _ _ _ _ _ _ _ _ _ _ a8 b4 _ rfl rfl rfl rfl q0 (by rw [b7.out]; have := v4.out; have := p1.out; have := d3.out; have := d4.out; have := k0.out; have := v8.out; have := v9.out; have := x0.out; omega) 1 (by omega) (by have := c9.out; have := d0.out; have := d1.out; omega) (a0.out.kl a8 c7.out) k4 k5 m4 c9 d0 d1).mono ?_;rintro e c4 ⟨rfl, mk, bm, a5⟩;clear q0;have q6 : FarR R4 z9 c4 := by rw [e6.out]; exact a5
 clear a5;have a5 := q6;clear q6;have q7 : Bw w (c4) := a6.hb.trans (bm.mono v5.out);have f4 : Hid (c4.ownsRow w.heap.size 9 1 (.slice y7 n1 y8) n1 (cs.map Value.string)) := aA9 (jo a6 8 rfl) (fun g hg => a5 g (aB0 (jo a6 8 rfl) hg) (fun r hr e => by have h1 := n0.out g (by assumption); have h2 := a4.out.ge hr (by assumption); have h4 := b7.out; have := s5.out; have := i5.out; have := n9.out; have := e4.out; omega))
 have f5 : Hid (c4.ownsRow w.heap.size 128 2 (.slice y9 n2 z0) n2 (aA4 ws)) := aA9 (jo a6 7 rfl) (fun g hg => a5 g (aB0 (jo a6 7 rfl) hg) (fun r hr e => by have h1 := n3.out g (by assumption); have h2 := a4.out.ge hr (by assumption); have h4 := b7.out; have := s5.out; have := i5.out; have := n9.out; have := e4.out; omega))
 have f6 : Hid (c4.ownsRow w.heap.size 9 1 (.slice i6 n1 i7) n1 ((mkT 1 cs n1).map Value.string)) := aA9 (jo a6 5 rfl) (fun g hg => a5 g (aB0 (jo a6 5 rfl) hg) (fun r hr e => by have h1 := j0.out g (by assumption); have h2 := a4.out.ge hr (by assumption); have h4 := b7.out; have := e4.out; omega))
 have f7 : Hid (c4.ownsRow w.heap.size 128 2 (.slice i8 n2 i9) n2 (aA4 (aE7 (1 + n1) ws n2))) := aA9 (jo a6 4 rfl) (fun g hg => a5 g (aB0 (jo a6 4 rfl) hg) (fun r hr e => by have h1 := j1.out g (by assumption); have h2 := a4.out.ge hr (by assumption); have h4 := b7.out; have := e4.out; omega))
 have f8 : Hid (c4.ownsRow w.heap.size 9 1 (.slice z2 n1 z3) n1 (cs.map Value.string)) := aA9 (jo a6 1 rfl) (fun g hg => a5 g (aB0 (jo a6 1 rfl) hg) (fun r hr e => by have h1 := p4.out g (by assumption); have h2 := z1.out r hr g (by assumption); have h3 := o9.out; have := p1.out; have := d3.out; have := d4.out; omega))
 have f9 : Hid (c4.ownsRow w.heap.size 128 2 (.slice z4 n2 z5) n2 (aA4 ws)) := aA9 (jo a6 0 rfl) (fun g hg => a5 g (aB0 (jo a6 0 rfl) hg) (fun r hr e => by have h1 := p5.out g (by assumption); have h2 := z1.out r hr g (by assumption); have h3 := o9.out; have := p1.out; have := d3.out; have := d4.out; omega))
 have q8 : Hid (c4.heap[q1]? = some (.cells #[.slice a1 n1 c1, .slice a2 n2 c2] 67)) := (a5 _ (Array.getElem?_eq_some_iff.1 (jb a6 9 rfl)).1 (fun r hr e => bI3 (a4.out.own r hr) (e7.out 67 (by decide) (by decide) (by decide) (by decide) (by decide) r hr) (jb a6 9 rfl) e)).trans (jb a6 9 rfl)
 have q9 : Hid (c4.heap[q2]? = some (.cells #[(.slice r7 ra.cs.length r8), (.slice r9 ra.ws.length s0), (.slice s1 m3.length s2), (.slice s3 ra.bl.length s4), .int .i64 ra.nx, .int .i64 ra.sq] 31)) := (a5 _ (Array.getElem?_eq_some_iff.1 (jb a6 6 rfl)).1 (fun r hr e => bI3 (a4.out.own r hr) (e7.out 31 (by decide) (by decide) (by decide) (by decide) (by decide) r hr) (jb a6 6 rfl) e)).trans (jb a6 6 rfl)
 have r0 : Hid (c4.heap[q3]? = some (.cells #[.slice i6 n1 i7, .slice i8 n2 i9] 27)) := (a5 _ (Array.getElem?_eq_some_iff.1 (jb a6 3 rfl)).1 (fun r hr e => bI3 (a4.out.own r hr) (e7.out 27 (by decide) (by decide) (by decide) (by decide) (by decide) r hr) (jb a6 3 rfl) e)).trans (jb a6 3 rfl)
 have h8 : Hid (c4.heap[q4]? = some (.cells #[(.slice g0 ra.cs.length g1), (.slice g2 ra.ws.length g3), (.slice g4 a8.length g5), (.slice g6 ra.bl.length g7), .int .i64 ra.nx, .int .i64 ra.sq] 31)) := (a5 _ (Array.getElem?_eq_some_iff.1 (jb a6 2 rfl)).1 (fun r hr e => bI3 (a4.out.own r hr) (e7.out 31 (by decide) (by decide) (by decide) (by decide) (by decide) r hr) (jb a6 2 rfl) e)).trans (jb a6 2 rfl)
 have k6 : Hid (aB2 (c4) b2 (R2)) := aB2.same d8.out (fun r2 A3 g hg => a5 g (d8.out.lt A3 hg) (fun r hr e => by have h1 := t9.out r2 A3 g hg; have h2 := a4.out.ge hr e; have h3 := i4.out; have h4 := b7.out; have := i5.out; have := n9.out; have := e4.out; omega))
 have A4 := jz a6 q7 (jzr f9.out (jzr f8.out (jzb h8.out (jzb r0.out (jzr f7.out (jzr f6.out (jzb q9.out (jzr f5.out (jzr f4.out (jzb q8.out (jzn _)))))))))));obtain ⟨M4, s7⟩ : ∃ M, M = [(⟨9, 1, (.slice g0 ra.cs.length g1), ra.cs.length, (mkT 1 ra.cs ra.cs.length).map Value.string⟩ : Rw), (⟨128, 2, (.slice g2 ra.ws.length g3), ra.ws.length, aA4 (aE7 (1 + ra.cs.length) ra.ws ra.ws.length)⟩ : Rw)] ++ aF2 (.slice g4 a8.length g5) (mkKs k4 a8) ++ [(⟨44, 4, (.slice g6 ra.bl.length g7), ra.bl.length, aB3 (aP2 k5 ra.bl ra.bl.length)⟩ : Rw)] := ⟨_, rfl⟩;rw [← s7] at mk;have r3 := hid s7;have A5 : Hid (NoT M4) := fun T h1 h2 h3 h4 h5 r hr => by rw [s7] at hr; exact dO3 T h1 h2 h3 h4 h5 r hr
 clear s7;have d9 : Hid (aB2 (c4) b4 (M4)) := mk;clear mk bm a5;have C9 : ¬ ((m4 : Int) < 0) := by omega
 clear b1;have b1 := c6c h8.out;have r4 : Hid (aB2 (c4) b4 ([(⟨9, 1, (.slice g0 ra.cs.length g1), ra.cs.length, (mkT 1 ra.cs ra.cs.length).map Value.string⟩ : Rw), (⟨128, 2, (.slice g2 ra.ws.length g3), ra.ws.length, aA4 (aE7 (1 + ra.cs.length) ra.ws ra.ws.length)⟩ : Rw)] ++ aF2 (.slice g4 a8.length g5) (mkKs k4 a8) ++ [(⟨44, 4, (.slice g6 ra.bl.length g7), ra.bl.length, aB3 (aP2 k5 ra.bl ra.bl.length)⟩ : Rw)])) := by show aB2 _ _ _; rw [← r3.out]; exact d9.out
 go_wp2_with fail
 refine (bK7 ra _ _ _ _ _ _ _ _ _ _ _ _ a8 b4 _ rfl rfl rfl rfl 1 k4 k5 m4 r4 (by omega) (by have := c9.out; have := d0.out; have := d1.out; omega) (a0.out.kl a8 c7.out) c9 d0 d1).mono ?_;rintro e D9 ⟨rfl, bw⟩;clear r4;have m5 := jw A4 bw;have k7 := hid (k6.out.below bw);have k8 := hid (d9.out.below bw);clear q7 bw A4;clear b1;have c3 := c2c (jb m5 9 rfl);go_wp2_with fail
 refine (bB1 a1 n1 c1 cs a2 n2 c2 ws w.heap.size _ (m6.out _ m5.hb) (m7.out _ m5.hb) m5.hb.size m1 m2).mono ?_;rintro e D0 ⟨t5, t6, rfl, ⟨c5, c6⟩, bw⟩;obtain ⟨E0, E1, rfl⟩ := aA0 c5;obtain ⟨E2, E3, rfl⟩ := aA0 c6;have k9 := jj m5 (jcR (jcR (jN bw) c5 jhn) c6 (jhc (jty c6 c5) jhn));have l0 := hid (k7.out.below bw);have l1 := hid (k8.out.below bw);clear c5;clear c6;clear bw m5;clear c3;go_wp2_with fail
 refine (y6.out _ k9.hb _ _ _ k9.hb.size ⟨(jo k9 1 rfl), (jo k9 0 rfl)⟩).mono ?_;rintro e s8 ⟨va, vb, vc, vd, s9, rfl, a7, bw⟩;obtain ⟨A6, A7, rfl⟩ := aA0 a7.disk.cells;obtain ⟨A8, A9, rfl⟩ := aA0 a7.disk.pend;obtain ⟨B0, B1, rfl⟩ := a7.kept.len;obtain ⟨B2, B3, rfl⟩ := aA0 a7.bans;obtain ⟨R8, r5⟩ := exq (aP6 (.slice A6 ra.cs.length A7) (.slice A8 ra.ws.length A9) (.slice B0 s9.length B1) (.slice B2 ra.bl.length B3) s9 ra.cs ra.ws ra.bl);obtain ⟨b8, r6⟩ := exq (D0.heap.size);obtain ⟨t8, l2⟩ := exq (s8.heap.size);have x1 := k9.hb.size;have B4 := jw k9 bw;have l3 := hid (l0.out.below bw);have l4 := hid (l1.out.below bw);clear bw k9;have l5 : Hid (aB2 (s8) b8 (R8)) := by show aB2 _ _ _; rw [r6, r5]; exact a7.1
 have x2 : Hid (s9.map (·.1) = ra.ks) := a7.2;have E4 : Hid (∀ r ∈ R8, ∀ g, r.v.ownBlock = some g → g < t8) := fun r hr g hg => by rw [l2]; rw [r5] at hr; exact a7.1.lt hr hg
 have x3 := hid r5;have D1 : Hid (NoT R8) := fun T h1 h2 h3 h4 h5 r hr => by rw [r5] at hr; exact cN9 T h1 h2 h3 h4 h5 r hr
 clear r5;have D2 := hid l2;clear a7 r6 l2 x1;go_upto_region 25 with fail
 obtain ⟨q5, x4⟩ := exq (s8.heap.size);obtain ⟨E5, e0⟩ := exq (s8.alloc (.cells #[(.slice A6 ra.cs.length A7), (.slice A8 ra.ws.length A9), (.slice B0 s9.length B1), (.slice B2 ra.bl.length B3), .int .i64 ra.nx, .int .i64 ra.sq] 31));have l6 := x4.symm;rw [← e0]; try rw [← x4];have x5 := hsa e0 l6;have bw := bal e0;have t0 := ja B4 e0 l6;have e1 := hid (l3.out.below bw);have l7 := hid (l4.out.below bw);have e2 := hid (l5.out.below bw);clear bw e0 l6 B4;clear x5 x4;have d2 := c6c (jb t0 9 rfl);have x6 := c6c (jb t0 0 rfl);go_wp2_with fail
 refine (bD9 ra _ _ _ _ _ _ _ _ _ _ _ _ _ (bB6 x3.out e2.out x2.out) (bB6 i3.out e1.out i2.out) a0.out.c a0.out.w a0.out.k a0.out.b a0.out.ks).mono ?_;rintro e D3 ⟨rfl, bw⟩;have x7 := jw t0 bw;have l8 := hid (e1.out.below bw);have e3 := hid (l7.out.below bw);have l9 := hid (e2.out.below bw);clear bw t0;clear d2 x6;have b1 := c6c (jb x7 5 rfl);have r4 : Hid (aB2 (D3) b4 ([(⟨9, 1, (.slice g0 ra.cs.length g1), ra.cs.length, (mkT 1 ra.cs ra.cs.length).map Value.string⟩ : Rw), (⟨128, 2, (.slice g2 ra.ws.length g3), ra.ws.length, aA4 (aE7 (1 + ra.cs.length) ra.ws ra.ws.length)⟩ : Rw)] ++ aF2 (.slice g4 a8.length g5) (mkKs k4 a8) ++ [(⟨44, 4, (.slice g6 ra.bl.length g7), ra.bl.length, aB3 (aP2 k5 ra.bl ra.bl.length)⟩ : Rw)])) := by show aB2 _ _ _; rw [← r3.out]; exact e3.out
 go_wp2_with fail
 refine (bK7 ra _ _ _ _ _ _ _ _ _ _ _ _ a8 b4 _ rfl rfl rfl rfl 1 k4 k5 m4 r4 (by omega) (by have := c9.out; have := d0.out; have := d1.out; omega) (a0.out.kl a8 c7.out) c9 d0 d1).mono ?_;rintro e E6 ⟨rfl, bw⟩;clear r4;have D4 := jw x7 bw;have x8 := hid (l8.out.below bw);have x9 := hid (e3.out.below bw);have y1 := hid (l9.out.below bw);clear bw x7;clear b1;go_wp2_with fail
 go_ret;exact ⟨rfl, D4.hb⟩
end Go.Proofs.YtiobfnpmidjijaaGreatDoor
