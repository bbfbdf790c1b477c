/- JudgeHere: at every argument the program answers as the specification (the law answers true), and it writes into no argument: no condition. The card lists the tables that strconv.Itoa's text names. -/
import Derived.Test.YtpacdigfnneoeaaGreatDoorFnExactJudgeHereK
import Derived.Test.YtpacdigfnneoeaaGreatDoorTie
import Derived.Test.YtpacdigfnneoeaaGreatDoorCards
import Derived.Below
import Derived.ChangeOld
import Derived.ShutString
import Derived.Deep.RegionHeld3
import Derived.Deep.DrawnRows
import Derived.Deep.CutRange
import Derived.Deep.DeepCutAuto
namespace Go.Proofs.YtpacdigfnneoeaaGreatDoor
namespace fnExactJudgeHere
open Go.ChangeShapes Go.WideShapes Go.ChangeAt Go.RowKit
open Go.ChangeMaps (open_string shut_string)
attribute [local go_sem ↓] Go.wp_at_zero Go.wp_at_succ

theorem own : ownKnob Tryz.prog.godebug = none := by kernel_rfl
theorem laidOut : laidOutB Tryz.prog = true := by kernel_rfl
open Classical in
theorem bool_is {P : Prop} {prog : Program} {f : FuncId} {args : Array Value} {w : World} (h : Calls prog f args w fun e w' => BoolIs P w e w') : Calls prog f args w fun e w' => e = .returned (.bool (decide P)) ∧ Below w.heap.size w w' :=
  h.mono fun e w' ⟨t, h1, h2, h3⟩ => ⟨by rw [h1, (show t = decide P by rw [Bool.eq_iff_iff, h2, decide_eq_true_iff])], h3⟩
theorem wtKC_ge : ∀ l : List KpD, l.length ≤ wtK l
  | [] => Nat.le_refl _
  | x :: l => by rw [wtK, List.length_cons]; have := wtKC_ge l; omega

open Go.Lib hiding intOf
set_option maxHeartbeats 16000000 in
set_option maxRecDepth 100000 in
theorem walk1 (w : World) (a1 : Oa) (n1 c1 : Nat) (cs : Ts) (a2 : Oa) (n2 c2 : Nat) (ws : List (Int × ByteArray)) (a3 : Oa) (n3 c3 : Nat) (ks : List KpD) (a4 : Oa) (n4 c4 : Nat) (bl : Bs) (nx sq : Int) (a5 : Oa) (n5 c5 : Nat) (fl : List FlD) (now : Int) (a6 : Oa) (n6 c6 : Nat) (se : List SeD) (a7 : Oa) (n7 c7 : Nat) (sn : List RpD) (h1 : ArgT w w.heap.size a1 n1 cs) (h2 : ArgWrite w w.heap.size a2 n2 ws) (h3 : ArgKept w w.heap.size a3 n3 ks) (h4 : ArgBan w w.heap.size a4 n4 bl) (h5 : ArgFlight w w.heap.size a5 n5 fl) (h6 : ArgSeen w w.heap.size a6 n6 se) (h7 : ArgReply w w.heap.size a7 n7 sn) (hm : (n1 ≤ maxLen ∧ n2 ≤ maxLen ∧ n3 ≤ maxLen ∧ n4 ≤ maxLen ∧ (∀ i, i < n1 → (textAt cs i).size ≤ maxLen) ∧ (∀ x ∈ ws, (x.2).size ≤ maxLen) ∧ (∀ k ∈ ks, KpMax k) ∧ ∀ x ∈ bl, (x.2.1).size ≤ maxLen ∧ (x.2.2.1).size ≤ maxLen) ∧ (n5 ≤ maxLen ∧ ∀ k ∈ fl, FlMax k) ∧ (n6 ≤ maxLen ∧ ∀ k ∈ se, SeMax k) ∧ n7 ≤ maxLen ∧ ∀ k ∈ sn, RpMax k) (hT : TabOk w) :
  Calls Tryz.prog 3 #[.agg #[.slice a1 n1 c1, .slice a2 n2 c2, .slice a3 n3 c3, .slice a4 n4 c4, .int .i64 nx, .int .i64 sq, .slice a5 n5 c5, .int .i64 now, .slice a6 n6 c6, .slice a7 n7 c7]] w fun e w' => e = .returned (.bool true) ∧ Below w.heap.size w w' := by
 classical
 have HA1 : Hid (∀ W, Below w.heap.size w W → ArgT W w.heap.size a1 n1 cs) := fun W h => h1.below h
 have HA2 : Hid (∀ W, Below w.heap.size w W → ArgWrite W w.heap.size a2 n2 ws) := fun W h => h2.below h
 have HA3 : Hid (∀ W, Below w.heap.size w W → ArgKept W w.heap.size a3 n3 ks) := fun W h => h3.below h
 have HA4 : Hid (∀ W, Below w.heap.size w W → ArgBan W w.heap.size a4 n4 bl) := fun W h => h4.below h
 have HA5 : Hid (∀ W, Below w.heap.size w W → ArgFlight W w.heap.size a5 n5 fl) := fun W h => h5.below h
 have HA6 : Hid (∀ W, Below w.heap.size w W → ArgSeen W w.heap.size a6 n6 se) := fun W h => h6.below h
 have HA7 : Hid (∀ W, Below w.heap.size w W → ArgReply W w.heap.size a7 n7 sn) := fun W h => h7.below h
 have HL : Hid (cs.length = n1 ∧ ws.length = n2 ∧ ks.length = n3 ∧ bl.length = n4 ∧ fl.length = n5 ∧ se.length = n6 ∧ sn.length = n7) := ⟨h1.len, h2.1, h3.1, h4.1, h5.1, h6.1, h7.1⟩
 have HMX := hid hm
 clear h1 h2 h3 h4 h5 h6 h7 hm
 have HT : Hid (∀ W, Below w.heap.size w W → TabOk W) := fun W h => hT.below h
 clear hT
 have hb0 := Below.refl w.heap.size w
 go_enter Tryz.func3, Tryz.ntmps3
 go_upto_region 1 with fail
 obtain ⟨q1, hq1⟩ := exq (w.heap.size)
 obtain ⟨w1, hW1⟩ := exq (w.alloc (.cells #[.slice a1 n1 c1, .slice a2 n2 c2, .slice a3 n3 c3, .slice a4 n4 c4, .int .i64 nx, .int .i64 sq, .slice a5 n5 c5, .int .i64 now, .slice a6 n6 c6, .slice a7 n7 c7] 34))
 have hz1 := hq1.symm
 rw [← hW1]; try rw [← hq1]
 have hs1 := hsa hW1 hz1
 have bw := bal hW1
 have hb1 := hbt hb0 bw
 have B1_1 := hnew hW1 hz1
 clear hb0 bw hW1 hz1
 clear hs1 hq1
 have c1_0 := (k10c B1_1).1
 have c1_1 := (k10c B1_1).2.1
 have c1_2 := (k10c B1_1).2.2.1
 have c1_3 := (k10c B1_1).2.2.2.1
 have c1_4 := (k10c B1_1).2.2.2.2.1
 have c1_5 := (k10c B1_1).2.2.2.2.2.1
 have c1_6 := (k10c B1_1).2.2.2.2.2.2.1
 have c1_7 := (k10c B1_1).2.2.2.2.2.2.2.1
 have c1_8 := (k10c B1_1).2.2.2.2.2.2.2.2.1
 have c1_9 := (k10c B1_1).2.2.2.2.2.2.2.2.2
 go_wp2_with fail
 refine (szCache_any 1048576 (by omega) (by omega) a1 n1 c1 cs a2 n2 c2 ws a3 n3 c3 ks a4 n4 c4 bl nx sq a5 n5 c5 fl now a6 n6 c6 se a7 n7 c7 sn w.heap.size _ (HA1.out _ hb1) (HA2.out _ hb1) (HA3.out _ hb1) (HA4.out _ hb1) (HA5.out _ hb1) (HA6.out _ hb1) (HA7.out _ hb1) hb1.size HMX.out).mono ?_
 rintro e w2 ⟨r1, rfl, hl1, hr1, bw⟩
 have hb2 := hbt hb1 bw
 have B1_2 := hblk B1_1 bw
 clear hb1 bw
 clear c1_0 c1_1 c1_2 c1_3 c1_4 c1_5 c1_6 c1_7 c1_8 c1_9
 by_cases hc1 : r1 < 0
 ·clear hr1
  go_wp2_with fail
  go_ret
  exact ⟨rfl, hb2⟩
 obtain ⟨hr2, ⟨⟨hm1, hz1⟩, ⟨hm2, hz2⟩, hz3, hm4, hz4⟩, hzf, hze, hzr⟩ := hr1 (by omega)
 obtain ⟨ca, hca⟩ : ∃ s, s = (⟨⟨cs, ws, ks, bl, nx, sq⟩, fl, now, se, sn⟩ : CaD) := ⟨_, rfl⟩
 have hw1 : ks.length ≤ wtK ks := wtKC_ge ks
 have hw2 : fl.length ≤ wtFl fl := wtFl_ge fl
 have hw3 : se.length ≤ wtSe se := wtSe_ge se
 have hw4 : sn.length ≤ wtRp sn := wtRp_ge sn
 have HNN : Hid (n3 ≤ 1048576 ∧ n5 ≤ 1048576 ∧ n6 ≤ 1048576 ∧ n7 ≤ 1048576) := by
  obtain ⟨e1, e2, e3, e4, e5, e6, e7⟩ := HL.out
  refine ⟨?_, ?_, ?_, ?_⟩ <;> omega
 have HSMALL : Hid (CaSmall ca) := by
  show CaSmall ca
  rw [hca]
  obtain ⟨e1, e2, e3, e4, e5, e6, e7⟩ := HL.out
  obtain ⟨m3, m5, m6, m7⟩ := HNN.out
  exact ⟨⟨by rw [e1]; exact hm1, by rw [e2]; exact hm2, by rw [e3]; exact m3, by rw [e4]; exact hm4, by rw [e1]; exact hz1, hz2, hz3, hz4⟩, hzf, hze, hzr, by rw [e5]; exact m5, by rw [e6]; exact m6, by rw [e7]; exact m7⟩
 have HLIM : Hid (CaLim ca) := by
  have hs := HSMALL.out
  exact ⟨Nat.le_trans hs.s.c (by decide), Nat.le_trans hs.s.w (by decide), Nat.le_trans hs.s.k (by decide), Nat.le_trans hs.s.b (by decide), fun k hk => ⟨Nat.le_trans (hs.s.ks k hk).2.1.1 (by decide), Nat.le_trans (hs.s.ks k hk).2.2.1.1 (by decide), Nat.le_trans (hs.s.ks k hk).2.2.2.1 (by decide)⟩, Nat.le_trans hs.nf (by decide), Nat.le_trans hs.ne (by decide), Nat.le_trans hs.nr (by decide), fun k hk => (hs.fl k hk).lens.lim, fun k hk => (hs.se k hk).lens.lim, fun k hk => (hs.sn k hk).lens.lim⟩
 have HTO : Hid (∀ W : World, Below w.heap.size w W → Calls Tryz.prog 6 #[.agg #[.slice a1 n1 c1, .slice a2 n2 c2, .slice a3 n3 c3, .slice a4 n4 c4, .int .i64 nx, .int .i64 sq, .slice a5 n5 c5, .int .i64 now, .slice a6 n6 c6, .slice a7 n7 c7]] W fun e w' => CacheIs ca W e w') := fun W hW => by
  rw [hca]
  exact toCache_any a1 n1 c1 cs a2 n2 c2 ws a3 n3 c3 ks a4 n4 c4 bl nx sq a5 n5 c5 fl now a6 n6 c6 se a7 n7 c7 sn w.heap.size W (HA1.out W hW) (HA2.out W hW) (HA3.out W hW) (HA4.out W hW) (HA5.out W hW) (HA6.out W hW) (HA7.out W hW) hW.size ⟨hm1, hm2, HNN.out.1, hm4, HNN.out.2.1, HNN.out.2.2.1, HNN.out.2.2.2, fun k hk => ⟨(hz3 k hk).2.1.1, (hz3 k hk).2.2.1.1, (hz3 k hk).2.2.2.1⟩, fun k hk => (hzf k hk).lens, fun k hk => (hze k hk).lens, fun k hk => (hzr k hk).lens⟩
 have HTM : Hid (TimesOk ca) := by
  show TimesOk ca
  rw [hca]
  exact fun k hk => (HMX.out.2.2.2.2 k hk).tms
 clear hca hr1 hr2 hz1 hz2 hz3 hz4 hzf hze hzr hw1 hw2 hw3 hw4
 obtain ⟨P, hP⟩ := exq (decide (JHereP ca))
 have HSP : Hid (∀ W : World, Below w.heap.size w W → ∀ (v1 v2 V VB F E R : Value) (kv : Ks) (fv : List FlV) (ev : List SeV) (rv : List RpV) (B : Nat), CacheO W B v1 v2 V VB F E R kv fv ev rv ca → Calls Tryz.prog 5 #[.agg #[v1, v2, V, VB, .int .i64 ca.s.nx, .int .i64 ca.s.sq, F, .int .i64 ca.now, E, R]] W fun e w' => e = .returned (.bool P) ∧ Below W.heap.size W w') := fun W _ v1 v2 V VB F E R kv fv ev rv B ho => by rw [hP]; exact bool_is (specJudgeHere_any v1 v2 V VB F E R kv fv ev rv ca B W ho HSMALL.out HTM.out)
 have HIM : Hid (∀ W : World, Below w.heap.size w W → ∀ (v1 v2 V VB F E R : Value) (kv : Ks) (fv : List FlV) (ev : List SeV) (rv : List RpV) (B : Nat), CacheO W B v1 v2 V VB F E R kv fv ev rv ca → Calls Tryz.prog 7 #[.agg #[v1, v2, V, VB, .int .i64 ca.s.nx, .int .i64 ca.s.sq, F, .int .i64 ca.now, E, R]] W fun e w' => e = .returned (.bool P) ∧ Below W.heap.size W w') := fun W hW v1 v2 V VB F E R kv fv ev rv B ho => by rw [hP]; exact bool_is (implJudgeHere_any v1 v2 V VB F E R kv fv ev rv ca B W ho HSMALL.out (HT.out W hW) HTM.out)
 clear hP
 have hPP : (P != P) = false := by simp
 have c1_0 := (k10c B1_2).1
 have c1_1 := (k10c B1_2).2.1
 have c1_2 := (k10c B1_2).2.2.1
 have c1_3 := (k10c B1_2).2.2.2.1
 have c1_4 := (k10c B1_2).2.2.2.2.1
 have c1_5 := (k10c B1_2).2.2.2.2.2.1
 have c1_6 := (k10c B1_2).2.2.2.2.2.2.1
 have c1_7 := (k10c B1_2).2.2.2.2.2.2.2.1
 have c1_8 := (k10c B1_2).2.2.2.2.2.2.2.2.1
 have c1_9 := (k10c B1_2).2.2.2.2.2.2.2.2.2
 go_wp2_with fail
 refine (HTO.out _ hb2).mono ?_
 rintro e w3 ⟨va, vb, vc, vd, vf, ve, vr, kv1, fv1, ev1, rv1, rfl, hco, bw⟩
 obtain ⟨oC1, pC1, rfl⟩ := slice_of_owns hco.shelf.disk.cells
 obtain ⟨oP1, pP1, rfl⟩ := slice_of_owns hco.shelf.disk.pend
 obtain ⟨oK1, pK1, rfl⟩ := hco.shelf.kept.len
 obtain ⟨oB1, pB1, rfl⟩ := slice_of_owns hco.shelf.bans
 obtain ⟨oF1, pF1, rfl⟩ := hco.fls.len
 obtain ⟨oE1, pE1, rfl⟩ := hco.ses.len
 obtain ⟨oR1, pR1, rfl⟩ := hco.rps.len
 obtain ⟨b1, hbq1⟩ := exq (w2.heap.size)
 have hb3 := hbt hb2 bw
 have B1_3 := hblk B1_2 bw
 clear hb2 bw
 have EC1_3 : Hid (CacheO (w3) b1 (.slice oC1 ca.s.cs.length pC1) (.slice oP1 ca.s.ws.length pP1) (.slice oK1 kv1.length pK1) (.slice oB1 ca.s.bl.length pB1) (.slice oF1 fv1.length pF1) (.slice oE1 ev1.length pE1) (.slice oR1 rv1.length pR1) kv1 fv1 ev1 rv1 ca) := by show CacheO _ _ _ _ _ _ _ _ _ _ _ _ _ _; rw [hbq1]; exact hco
 clear hco hbq1
 clear c1_0 c1_1 c1_2 c1_3 c1_4 c1_5 c1_6 c1_7 c1_8 c1_9
 go_wp2_with fail
 refine (HSP.out _ hb3 _ _ _ _ _ _ _ _ _ _ _ _ EC1_3.out).mono ?_
 rintro e w4 ⟨rfl, bw⟩
 have hb4 := hbt hb3 bw
 have B1_4 := hblk B1_3 bw
 have EC1_4 := hid (EC1_3.out.below bw)
 clear hb3 bw
 have c1_0 := (k10c B1_4).1
 have c1_1 := (k10c B1_4).2.1
 have c1_2 := (k10c B1_4).2.2.1
 have c1_3 := (k10c B1_4).2.2.2.1
 have c1_4 := (k10c B1_4).2.2.2.2.1
 have c1_5 := (k10c B1_4).2.2.2.2.2.1
 have c1_6 := (k10c B1_4).2.2.2.2.2.2.1
 have c1_7 := (k10c B1_4).2.2.2.2.2.2.2.1
 have c1_8 := (k10c B1_4).2.2.2.2.2.2.2.2.1
 have c1_9 := (k10c B1_4).2.2.2.2.2.2.2.2.2
 go_wp2_with fail
 refine (HTO.out _ hb4).mono ?_
 rintro e w5 ⟨va, vb, vc, vd, vf, ve, vr, kv2, fv2, ev2, rv2, rfl, hco, bw⟩
 obtain ⟨oC2, pC2, rfl⟩ := slice_of_owns hco.shelf.disk.cells
 obtain ⟨oP2, pP2, rfl⟩ := slice_of_owns hco.shelf.disk.pend
 obtain ⟨oK2, pK2, rfl⟩ := hco.shelf.kept.len
 obtain ⟨oB2, pB2, rfl⟩ := slice_of_owns hco.shelf.bans
 obtain ⟨oF2, pF2, rfl⟩ := hco.fls.len
 obtain ⟨oE2, pE2, rfl⟩ := hco.ses.len
 obtain ⟨oR2, pR2, rfl⟩ := hco.rps.len
 obtain ⟨b2, hbq2⟩ := exq (w4.heap.size)
 have hb5 := hbt hb4 bw
 have B1_5 := hblk B1_4 bw
 have EC1_5 := hid (EC1_4.out.below bw)
 clear hb4 bw
 have EC2_5 : Hid (CacheO (w5) b2 (.slice oC2 ca.s.cs.length pC2) (.slice oP2 ca.s.ws.length pP2) (.slice oK2 kv2.length pK2) (.slice oB2 ca.s.bl.length pB2) (.slice oF2 fv2.length pF2) (.slice oE2 ev2.length pE2) (.slice oR2 rv2.length pR2) kv2 fv2 ev2 rv2 ca) := by show CacheO _ _ _ _ _ _ _ _ _ _ _ _ _ _; rw [hbq2]; exact hco
 clear hco hbq2
 clear c1_0 c1_1 c1_2 c1_3 c1_4 c1_5 c1_6 c1_7 c1_8 c1_9
 go_upto_region 7 with fail
 obtain ⟨q2, hq2⟩ := exq (w5.heap.size)
 obtain ⟨w6, hW6⟩ := exq (w5.alloc (.cells #[(.slice oC2 ca.s.cs.length pC2), (.slice oP2 ca.s.ws.length pP2), (.slice oK2 kv2.length pK2), (.slice oB2 ca.s.bl.length pB2), .int .i64 ca.s.nx, .int .i64 ca.s.sq, (.slice oF2 fv2.length pF2), .int .i64 ca.now, (.slice oE2 ev2.length pE2), (.slice oR2 rv2.length pR2)] 48))
 have hz6 := hq2.symm
 rw [← hW6]; try rw [← hq2]
 have hs6 := hsa hW6 hz6
 have bw := bal hW6
 have hb6 := hbt hb5 bw
 have B1_6 := hblk B1_5 bw
 have EC1_6 := hid (EC1_5.out.below bw)
 have EC2_6 := hid (EC2_5.out.below bw)
 have B2_6 := hnew hW6 hz6
 clear hb5 bw hW6 hz6
 clear hs6 hq2
 have c2_0 := (k10c B2_6).1
 have c2_1 := (k10c B2_6).2.1
 have c2_2 := (k10c B2_6).2.2.1
 have c2_3 := (k10c B2_6).2.2.2.1
 have c2_4 := (k10c B2_6).2.2.2.2.1
 have c2_5 := (k10c B2_6).2.2.2.2.2.1
 have c2_6 := (k10c B2_6).2.2.2.2.2.2.1
 have c2_7 := (k10c B2_6).2.2.2.2.2.2.2.1
 have c2_8 := (k10c B2_6).2.2.2.2.2.2.2.2.1
 have c2_9 := (k10c B2_6).2.2.2.2.2.2.2.2.2
 go_wp2_with fail
 refine (HIM.out _ hb6 _ _ _ _ _ _ _ _ _ _ _ _ EC2_6.out).mono ?_
 rintro e w7 ⟨rfl, bw⟩
 have hb7 := hbt hb6 bw
 have B1_7 := hblk B1_6 bw
 have B2_7 := hblk B2_6 bw
 have EC1_7 := hid (EC1_6.out.below bw)
 have EC2_7 := hid (EC2_6.out.below bw)
 clear hb6 bw
 clear c2_0 c2_1 c2_2 c2_3 c2_4 c2_5 c2_6 c2_7 c2_8 c2_9
 go_upto_region 10 with fail
 refine wp_region_held_drew (S := fun W => W.heap[q2]? = some (.cells #[(.slice oC2 ca.s.cs.length pC2), (.slice oP2 ca.s.ws.length pP2), (.slice oK2 kv2.length pK2), (.slice oB2 ca.s.bl.length pB2), .int .i64 ca.s.nx, .int .i64 ca.s.sq, (.slice oF2 fv2.length pF2), .int .i64 ca.now, (.slice oE2 ev2.length pE2), (.slice oR2 rv2.length pR2)] 48) ∧ W.heap[q1]? = some (.cells #[.slice a1 n1 c1, .slice a2 n2 c2, .slice a3 n3 c3, .slice a4 n4 c4, .int .i64 nx, .int .i64 sq, .slice a5 n5 c5, .int .i64 now, .slice a6 n6 c6, .slice a7 n7 c7] 34)) (by kernel_rfl) ⟨B2_7.out, B1_7.out⟩ (fun _ => ?_)
 obtain ⟨w8, hX⟩ := exq w7.drew
 have bw := bdr hX
 rw [← hX]
 have hb8 := hbt hb7 bw
 have B1_8 := hblk B1_7 bw
 have B2_8 := hblk B2_7 bw
 have EC1_8 := hid (EC1_7.out.below bw)
 have EC2_8 := hid (EC2_7.out.below bw)
 have hS8 := And.intro B2_8.out B1_8.out
 clear hb7 bw hX
 refine tkL 0 (.agg #[(.slice oC2 ca.s.cs.length pC2), (.slice oP2 ca.s.ws.length pP2), (.slice oK2 kv2.length pK2), (.slice oB2 ca.s.bl.length pB2), .int .i64 ca.s.nx, .int .i64 ca.s.sq, (.slice oF2 fv2.length pF2), .int .i64 ca.now, (.slice oE2 ev2.length pE2), (.slice oR2 rv2.length pR2)]) 22 rfl rfl (Or.inl ⟨by rfl, by intro W hW; obtain ⟨hhv2, hhv1⟩ := hW; have y0 := (cell_of hhv2 0).trans rfl; have y1 := (cell_of hhv2 1).trans rfl; have y2 := (cell_of hhv2 2).trans rfl; have y3 := (cell_of hhv2 3).trans rfl; have y4 := (cell_of hhv2 4).trans rfl; have y5 := (cell_of hhv2 5).trans rfl; have y6 := (cell_of hhv2 6).trans rfl; have y7 := (cell_of hhv2 7).trans rfl; have y8 := (cell_of hhv2 8).trans rfl; have y9 := (cell_of hhv2 9).trans rfl; go_simp⟩) hS8 ?_
 go_frame
 refine tkL 1 (.agg #[.slice a1 n1 c1, .slice a2 n2 c2, .slice a3 n3 c3, .slice a4 n4 c4, .int .i64 nx, .int .i64 sq, .slice a5 n5 c5, .int .i64 now, .slice a6 n6 c6, .slice a7 n7 c7]) 23 rfl rfl (Or.inl ⟨by rfl, by intro W hW; obtain ⟨hhv2, hhv1⟩ := hW; have y0 := (cell_of hhv1 0).trans rfl; have y1 := (cell_of hhv1 1).trans rfl; have y2 := (cell_of hhv1 2).trans rfl; have y3 := (cell_of hhv1 3).trans rfl; have y4 := (cell_of hhv1 4).trans rfl; have y5 := (cell_of hhv1 5).trans rfl; have y6 := (cell_of hhv1 6).trans rfl; have y7 := (cell_of hhv1 7).trans rfl; have y8 := (cell_of hhv1 8).trans rfl; have y9 := (cell_of hhv1 9).trans rfl; go_simp⟩) hS8 ?_
 go_frame
 refine rd1 2 rfl (fun K hK => ?_)
 go_simp
 refine (HTO.out _ hb8).mono ?_
 rintro e w9 ⟨va, vb, vc, vd, vf, ve, vr, kv3, fv3, ev3, rv3, rfl, hco, bw⟩
 obtain ⟨oC3, pC3, rfl⟩ := slice_of_owns hco.shelf.disk.cells
 obtain ⟨oP3, pP3, rfl⟩ := slice_of_owns hco.shelf.disk.pend
 obtain ⟨oK3, pK3, rfl⟩ := hco.shelf.kept.len
 obtain ⟨oB3, pB3, rfl⟩ := slice_of_owns hco.shelf.bans
 obtain ⟨oF3, pF3, rfl⟩ := hco.fls.len
 obtain ⟨oE3, pE3, rfl⟩ := hco.ses.len
 obtain ⟨oR3, pR3, rfl⟩ := hco.rps.len
 obtain ⟨b3, hbq3⟩ := exq (w8.heap.size)
 have hb9 := hbt hb8 bw
 have B1_9 := hblk B1_8 bw
 have B2_9 := hblk B2_8 bw
 have EC1_9 := hid (EC1_8.out.below bw)
 have EC2_9 := hid (EC2_8.out.below bw)
 clear hb8 bw
 have EC3_9 : Hid (CacheO (w9) b3 (.slice oC3 ca.s.cs.length pC3) (.slice oP3 ca.s.ws.length pP3) (.slice oK3 kv3.length pK3) (.slice oB3 ca.s.bl.length pB3) (.slice oF3 fv3.length pF3) (.slice oE3 ev3.length pE3) (.slice oR3 rv3.length pR3) kv3 fv3 ev3 rv3 ca) := by show CacheO _ _ _ _ _ _ _ _ _ _ _ _ _ _; rw [hbq3]; exact hco
 clear hco hbq3
 have hS9 := And.intro B2_9.out B1_9.out
 refine hK.out _ _ hS9 (fun _ => ?_)
 clear hK K hS8
 refine rd1 3 rfl (fun K hK => ?_)
 go_simp
 refine (eqCache_any ca _ _ _ _ _ _ _ _ _ _ _ _ _ _ _ _ _ _ _ _ _ _ _ _ _ EC2_9.out EC3_9.out HLIM.out).mono ?_
 rintro e w10 ⟨rfl, bw⟩
 have hb10 := hbt hb9 bw
 have B1_10 := hblk B1_9 bw
 have B2_10 := hblk B2_9 bw
 have EC1_10 := hid (EC1_9.out.below bw)
 have EC2_10 := hid (EC2_9.out.below bw)
 have EC3_10 := hid (EC3_9.out.below bw)
 clear hb9 bw
 have hS10 := And.intro B2_10.out B1_10.out
 refine hK.out _ _ hS10 (fun _ => ?_)
 clear hK K hS9
 refine tkP 4 (.bool false) 26 rfl rfl hS10 ?_
 go_frame
 clear hS10
 refine wdn ?_
 go_wp2_with fail
 go_ret
 exact ⟨rfl, hb10⟩
set_option maxRecDepth 100000 in
theorem contract (H : Type) (enc : TypeId × Value → H) (W : World) (base : Nat) (args : Array Value) (ds gs : List (DataW H)) (before : List MemPlace)
    (hval : ∀ (j : Nat) t v, Tryz.f3.params[j]? = some t → args[j]? = some v → Value.okWide Tryz.prog W .any base t v)
    (hW : DataW.Whole enc Tryz.prog Tryz.f3.params.toList Rows.fnExactJudgeHereSpec.vars false W args.toList ds gs before) (hL : laidMetH Tryz.prog Rows.fnExactJudgeHereRow.laid W) (_ : W.ShapedOpen Tryz.prog) :
    Calls Tryz.prog 3 args W fun e W' => ∃ v, e = .returned v ∧ Rows.fnExactJudgeHereSpec.post enc Tryz.prog Tryz.f3 false true false false W args v W' := by
  have hT : TabOk W := table hL
  have hW' := hW
  obtain ⟨p, q, hA0, hV, rfl, hfz, hnd⟩ := hW
  have hA : DataW.TrodAll enc Tryz.prog W 0 (fun _ => true) true Tryz.f3.params.toList args.toList ds p := hA0
  rw [Tryz.params3] at hA hval
  obtain ⟨v0, vs0, d0, ds0, p0, q0, hargs, rfl, rfl, h0, r0⟩ := trodAll_cons hA
  obtain ⟨rfl, rfl, rfl⟩ := trodAll_nil r0
  obtain rfl : args = #[v0] := by cases args; simp_all
  obtain ⟨rfl, rfl⟩ := trodVars_none hV
  have k0 := h0
  have lt0 : ∀ x ∈ p0, x.block < W.heap.size := by obtain ⟨m, hm⟩ := k0; exact DataW.trod_lt m _ _ _ hm
  obtain ⟨sa10, sn10, sc10, sd10, sa20, sn20, sc20, sd20, sa30, sn30, sc30, sd30, sa40, sn40, sc40, sd40, sx0, sq0, sa50, sn50, sc50, sd50, sw0, sa60, sn60, sc60, sd60, sa70, sn70, sc70, sd70, rfl, ga0, gb0, gc0, gd0, ge0, gf0, gg0, gh0⟩ := openCache (hval 0 34 v0 rfl rfl) h0
  clear hA0
  refine (walk1 W sa10 sn10 sc10 sd10 sa20 sn20 sc20 sd20 sa30 sn30 sc30 sd30 sa40 sn40 sc40 sd40 sx0 sq0 sa50 sn50 sc50 sd50 sw0 sa60 sn60 sc60 sd60 sa70 sn70 sc70 sd70 ga0 gb0 gc0 gd0 ge0 gf0 gg0 gh0 hT).mono fun e W' ⟨he, bel⟩ => ?_
  subst he
  exact ⟨_, rfl, _, _, _, [], _, [], hW', trodAll_mk1 (shut_bool Tryz.underlying4 _), (trodAll_cons_mk (Below.trod laidOut (by kernel_rfl) (of_decide_eq_true (by kernel_rfl)) k0 bel lt0) trodAll_mk0), rfl, bel.frame _, fun h => by cases h⟩

theorem laid_met (os : Os) : laidMet Tryz.prog Rows.fnExactJudgeHereRow.laid ((withTables (World.holding Tryz.prog os ⟨#[], #[], []⟩)).forCall (fun _ _ => 0) ⟨#[], #[.agg #[.slice none 0 0, .slice none 0 0, .slice none 0 0, .slice none 0 0, .int .i64 0, .int .i64 0, .slice none 0 0, .int .i64 0, .slice none 0 0, .slice none 0 0]], []⟩).memory :=
  laidMet_of_run' 80 (by kernel_rfl) (by kernel_rfl)
theorem reads (os : Os) {H : Type} (enc : TypeId × Value → H) : ∃ places, DataW.whole enc Tryz.prog ((withTables (World.holding Tryz.prog os ⟨#[], #[], []⟩)).forCall (fun _ _ => 0) ⟨#[], #[.agg #[.slice none 0 0, .slice none 0 0, .slice none 0 0, .slice none 0 0, .int .i64 0, .int .i64 0, .slice none 0 0, .int .i64 0, .slice none 0 0, .slice none 0 0]], []⟩).memory Tryz.f3.params.toList Rows.fnExactJudgeHereSpec.vars false #[(.agg #[.slice none 0 0, .slice none 0 0, .slice none 0 0, .slice none 0 0, .int .i64 0, .int .i64 0, .slice none 0 0, .int .i64 0, .slice none 0 0, .slice none 0 0] : Value)].toList 8 = some ([.agg [.agg [.agg [.nil, .nil], .nil, .nil, .lit (.int .i64 0), .lit (.int .i64 0)], .nil, .lit (.int .i64 0), .nil, .nil]], [], places) :=
  ⟨[], by kernel_rfl⟩

set_option maxRecDepth 100000 in
theorem lifted (os : Os) (started : os.Started) (H : Type) (enc : TypeId × Value → H) (F : Stop.Interp) :
    ReturnsInHanded {} Tryz.checked os 3 .any ((OpenSpec.ofChange Rows.fnExactJudgeHereSpec).preRow enc Tryz.prog Tryz.f3 Rows.fnExactJudgeHereRow.domain false Rows.fnExactJudgeHereRow.laid) (((OpenSpec.ofChange Rows.fnExactJudgeHereSpec).at F).post enc Tryz.prog Tryz.f3 false true false false) := by
  obtain ⟨places, hx⟩ := reads os enc
  refine returnsInHanded_of_row (C := Tryz.checked) (s := OpenSpec.ofChange Rows.fnExactJudgeHereSpec) own started (by kernel_rfl) Tryz.func3
    (witness_row_at (enc := enc) (C := Tryz.checked) false (withTables (World.holding Tryz.prog os ⟨#[], #[], []⟩)) #[.agg #[.slice none 0 0, .slice none 0 0, .slice none 0 0, .slice none 0 0, .int .i64 0, .int .i64 0, .slice none 0 0, .int .i64 0, .slice none 0 0, .slice none 0 0]] rfl (by kernel_rfl) (by kernel_rfl) (by kernel_rfl)
      (OpenSpec.preRow_of_cond 8 hx (by kernel_rfl) (fun k hk => by cases hk) (by kernel_rfl) (laid_met os))) ?_
  intro W base args ds gs before hval hW _ _ _ hL hSh _
  exact contract H enc W base args ds gs before hval hW hL hSh

theorem said : Rows.FnExactJudgeHereSaid :=
  OpenClaim.holds_of_cond 3 Tryz.f3 rfl rfl rfl rfl rfl rfl rfl ⟨rfl, rfl, rfl, rfl, rfl⟩ rfl rfl rfl rfl rfl (by kernel_rfl) Tryz.func3 (by kernel_rfl)
    (of_decide_eq_true (by kernel_rfl)) (by unfold Func.isWrapper; first | (rw [if_pos (by decide +kernel)]; kernel_rfl) | (rw [if_neg (by decide +kernel)]; exact ⟨rfl, rfl⟩))
    (fun os started H enc _ F => by rw [OpenClaim.pre_eq_preRow]; exact lifted os started H enc F)

theorem plain (f : FuncId) (fn : Func) (hf : Tryz.pinned.checked.prog.funcNamed "loop.example/g00239/laws.FnExactJudgeHere" = some f) (hfn : Tryz.pinned.checked.prog.funcs[f]? = some fn) :
    true = Tryz.pinned.checked.prog.looks [] ∧ ∀ (j : Nat) t, fn.params[j]? = some t → Tryz.pinned.checked.prog.wantsStandIn t = false := by
  obtain rfl : f = 3 := Option.some.inj ((show Tryz.prog.funcNamed "loop.example/g00239/laws.FnExactJudgeHere" = some 3 by kernel_rfl).symm.trans hf) |>.symm
  obtain rfl : fn = Tryz.f3 := (Option.some.inj (Tryz.func3.symm.trans hfn)).symm
  refine ⟨by kernel_rfl, fun j t ht => ?_⟩
  rw [Tryz.params3] at ht
  obtain rfl : t = 34 := by simpa using Array.mem_of_getElem? ht
  exact (show Tryz.prog.wantsStandIn 34 = false by kernel_rfl)

theorem card : Rows.FnExactJudgeHereCardSaid :=
  Claim7.holds_tied_plain_at .later [] _ _ _ _ said (fun _ h => by cases h) (by kernel_rfl) (fun _ h => by cases h) fnExactJudgeHere_row_tie rfl ⟨rfl, rfl⟩ (by kernel_rfl) rfl plain (by kernel_rfl)
end fnExactJudgeHere

theorem fnExactJudgeHere_holds : Rows.FnExactJudgeHereCardSaid := fnExactJudgeHere.card
#print axioms fnExactJudgeHere_holds
end Go.Proofs.YtpacdigfnneoeaaGreatDoor
