/- Share: at every argument the program answers as the specification (the law answers true), and it writes into no argument: no condition. -/
import Derived.Test.YtajccgffallajaaFnExactShareE
import Derived.Test.YtajccgffallajaaRows
import Derived.WalkKit
import Derived.ProofKit
import Derived.OpenShut
import Derived.ShutString
import Derived.ChangeOld
import Derived.Below
import Derived.Deep.RegionHeld3
import Derived.Deep.DrawnRows
import Derived.Deep.CutRange
import Derived.Deep.DeepCutAuto
namespace Go.Proofs.Ytajccgffallajaa
namespace fnExactShare
open Go.ChangeShapes Go.WideShapes Go.ChangeAt Go.RowKit
open Go.ChangeMaps (open_string shut_string)
attribute [local go_sem ↓] Go.wp_at_zero Go.wp_at_succ

theorem own : ownKnob Try.prog.godebug = none := by kernel_rfl
theorem laidOut : laidOutB Try.prog = true := by kernel_rfl
theorem wtKC_ge : ∀ l : List KpD, l.length ≤ wtK l
  | [] => Nat.le_refl _
  | x :: l => by rw [wtK, List.length_cons]; have := wtKC_ge l; omega

open Go.Lib hiding intOf
set_option maxHeartbeats 16000000 in
set_option maxRecDepth 100000 in
theorem walk1 (w : World) (a1 : Option Addr) (n1 c1 : Nat) (cs : List ByteArray) (a2 : Option Addr) (n2 c2 : Nat) (ws : List (Int × ByteArray)) (a3 : Option Addr) (n3 c3 : Nat) (ks : List KpD) (a4 : Option Addr) (n4 c4 : Nat) (bl : List (Int × ByteArray × ByteArray × Int)) (nx sq : Int) (a5 : Option Addr) (n5 c5 : Nat) (fl : List FlD) (now : Int) (a6 : Option Addr) (n6 c6 : Nat) (se : List SeD) (a7 : Option Addr) (n7 c7 : Nat) (sn : List RpD) (h1 : ArgT w w.heap.size a1 n1 cs) (h2 : ArgWrite w w.heap.size a2 n2 ws) (h3 : ArgKept w w.heap.size a3 n3 ks) (h4 : ArgBan w w.heap.size a4 n4 bl) (h5 : ArgFlight w w.heap.size a5 n5 fl) (h6 : ArgSeen w w.heap.size a6 n6 se) (h7 : ArgReply w w.heap.size a7 n7 sn) (hm : (n1 ≤ maxLen ∧ n2 ≤ maxLen ∧ n3 ≤ maxLen ∧ n4 ≤ maxLen ∧ (∀ i, i < n1 → (textAt cs i).size ≤ maxLen) ∧ (∀ x ∈ ws, (x.2).size ≤ maxLen) ∧ (∀ k ∈ ks, KpMax k) ∧ ∀ x ∈ bl, (x.2.1).size ≤ maxLen ∧ (x.2.2.1).size ≤ maxLen) ∧ (n5 ≤ maxLen ∧ ∀ k ∈ fl, FlMax k) ∧ (n6 ≤ maxLen ∧ ∀ k ∈ se, SeMax k) ∧ n7 ≤ maxLen ∧ ∀ k ∈ sn, RpMax k) :
    Calls Try.prog 4 #[.agg #[.slice a1 n1 c1, .slice a2 n2 c2, .slice a3 n3 c3, .slice a4 n4 c4, .int .i64 nx, .int .i64 sq, .slice a5 n5 c5, .int .i64 now, .slice a6 n6 c6, .slice a7 n7 c7]] w fun e w' => e = .returned (.bool true) ∧ Below w.heap.size w w' := by
  have HA1 : Hid (∀ W, Below w.heap.size w W → ArgT W w.heap.size a1 n1 cs) := fun W h => h1.below h
  have HA2 : Hid (∀ W, Below w.heap.size w W → ArgWrite W w.heap.size a2 n2 ws) := fun W h => h2.below h
  have HA3 : Hid (∀ W, Below w.heap.size w W → ArgKept W w.heap.size a3 n3 ks) := fun W h => h3.below h
  have HA4 : Hid (∀ W, Below w.heap.size w W → ArgBan W w.heap.size a4 n4 bl) := fun W h => h4.below h
  have HA5 : Hid (∀ W, Below w.heap.size w W → ArgFlight W w.heap.size a5 n5 fl) := fun W h => h5.below h
  have HA6 : Hid (∀ W, Below w.heap.size w W → ArgSeen W w.heap.size a6 n6 se) := fun W h => h6.below h
  have HA7 : Hid (∀ W, Below w.heap.size w W → ArgReply W w.heap.size a7 n7 sn) := fun W h => h7.below h
  have HL : Hid (cs.length = n1 ∧ ws.length = n2 ∧ ks.length = n3 ∧ bl.length = n4 ∧ fl.length = n5 ∧ se.length = n6 ∧ sn.length = n7) := ⟨h1.len, h2.1, h3.1, h4.1, h5.1, h6.1, h7.1⟩
  have HMX : Hid ((n1 ≤ maxLen ∧ n2 ≤ maxLen ∧ n3 ≤ maxLen ∧ n4 ≤ maxLen ∧ (∀ i, i < n1 → (textAt cs i).size ≤ maxLen) ∧ (∀ x ∈ ws, (x.2).size ≤ maxLen) ∧ (∀ k ∈ ks, KpMax k) ∧ ∀ x ∈ bl, (x.2.1).size ≤ maxLen ∧ (x.2.2.1).size ≤ maxLen) ∧ (n5 ≤ maxLen ∧ ∀ k ∈ fl, FlMax k) ∧ (n6 ≤ maxLen ∧ ∀ k ∈ se, SeMax k) ∧ n7 ≤ maxLen ∧ ∀ k ∈ sn, RpMax k) := hm
  clear h1 h2 h3 h4 h5 h6 h7 hm
  have hb0 : Below w.heap.size w w := Below.refl _ _
  go_enter Try.func4, Try.ntmps4
  go_upto_region 1 with fail
  obtain ⟨qv1, hqv1⟩ : ∃ q, q = (w).heap.size := ⟨_, rfl⟩
  obtain ⟨w1, hW1⟩ : ∃ W, W = (w).alloc (.cells #[.slice a1 n1 c1, .slice a2 n2 c2, .slice a3 n3 c3, .slice a4 n4 c4, .int .i64 nx, .int .i64 sq, .slice a5 n5 c5, .int .i64 now, .slice a6 n6 c6, .slice a7 n7 c7] 34) := ⟨_, rfl⟩
  have hz1 : (w).heap.size = qv1 := hqv1.symm
  first | rw [← hW1, ← hqv1] | rw [← hW1]
  have hs1 : w1.heap.size = qv1 + 1 := by rw [hW1, ← hz1]; simp
  have bw : Below (w).heap.size (w) w1 := by rw [hW1]; exact (Below.refl _ _).alloc (Nat.le_refl _) _
  have hb1 : Below w.heap.size w (w1) := hb0.trans (bw.mono hb0.size)
  have HBv1_1 : Hid ((w1).heap[qv1]? = some (.cells #[.slice a1 n1 c1, .slice a2 n2 c2, .slice a3 n3 c3, .slice a4 n4 c4, .int .i64 nx, .int .i64 sq, .slice a5 n5 c5, .int .i64 now, .slice a6 n6 c6, .slice a7 n7 c7] 34)) := by show _ = _; rw [hW1, ← hz1]; exact heap_alloc_new _ _
  clear hb0 bw hW1 hz1
  clear hs1 hqv1
  have cv1_0 : (w1).cell? ⟨qv1, 0, none⟩ = some (.slice a1 n1 c1) := (cell_of HBv1_1.out 0).trans rfl
  have cv1_1 : (w1).cell? ⟨qv1, 1, none⟩ = some (.slice a2 n2 c2) := (cell_of HBv1_1.out 1).trans rfl
  have cv1_2 : (w1).cell? ⟨qv1, 2, none⟩ = some (.slice a3 n3 c3) := (cell_of HBv1_1.out 2).trans rfl
  have cv1_3 : (w1).cell? ⟨qv1, 3, none⟩ = some (.slice a4 n4 c4) := (cell_of HBv1_1.out 3).trans rfl
  have cv1_4 : (w1).cell? ⟨qv1, 4, none⟩ = some (.int .i64 nx) := (cell_of HBv1_1.out 4).trans rfl
  have cv1_5 : (w1).cell? ⟨qv1, 5, none⟩ = some (.int .i64 sq) := (cell_of HBv1_1.out 5).trans rfl
  have cv1_6 : (w1).cell? ⟨qv1, 6, none⟩ = some (.slice a5 n5 c5) := (cell_of HBv1_1.out 6).trans rfl
  have cv1_7 : (w1).cell? ⟨qv1, 7, none⟩ = some (.int .i64 now) := (cell_of HBv1_1.out 7).trans rfl
  have cv1_8 : (w1).cell? ⟨qv1, 8, none⟩ = some (.slice a6 n6 c6) := (cell_of HBv1_1.out 8).trans rfl
  have cv1_9 : (w1).cell? ⟨qv1, 9, none⟩ = some (.slice a7 n7 c7) := (cell_of HBv1_1.out 9).trans rfl
  go_wp2_with fail
  refine (szCache_any 1048576 (by omega) (by omega) a1 n1 c1 cs a2 n2 c2 ws a3 n3 c3 ks a4 n4 c4 bl nx sq a5 n5 c5 fl now a6 n6 c6 se a7 n7 c7 sn w.heap.size _ (HA1.out _ hb1) (HA2.out _ hb1) (HA3.out _ hb1) (HA4.out _ hb1) (HA5.out _ hb1) (HA6.out _ hb1) (HA7.out _ hb1) hb1.size HMX.out).mono ?_
  rintro e w2 ⟨r1, rfl, hl1, hr1, bw⟩
  have hb2 : Below w.heap.size w (w2) := hb1.trans (bw.mono hb1.size)
  have HBv1_2 : Hid ((w2).heap[qv1]? = some (.cells #[.slice a1 n1 c1, .slice a2 n2 c2, .slice a3 n3 c3, .slice a4 n4 c4, .int .i64 nx, .int .i64 sq, .slice a5 n5 c5, .int .i64 now, .slice a6 n6 c6, .slice a7 n7 c7] 34)) := blk_below HBv1_1.out bw
  clear hb1 HBv1_1 bw
  clear cv1_0 cv1_1 cv1_2 cv1_3 cv1_4 cv1_5 cv1_6 cv1_7 cv1_8 cv1_9
  by_cases hc1 : r1 < 0
  · clear hr1
    go_wp2_with fail
    go_ret
    exact ⟨rfl, hb2⟩
  · obtain ⟨hr2, ⟨⟨hm1, hz1⟩, ⟨hm2, hz2⟩, hz3, hm4, hz4⟩, hzf, hze, hzr⟩ := hr1 (by omega)
    obtain ⟨ca, hca⟩ : ∃ s, s = (⟨⟨cs, ws, ks, bl, nx, sq⟩, fl, now, se, sn⟩ : CaD) := ⟨_, rfl⟩
    have hw1 : ks.length ≤ wtK ks := wtKC_ge ks
    have hw2 : fl.length ≤ wtFl fl := wtFl_ge fl
    have hw3 : se.length ≤ wtSe se := wtSe_ge se
    have hw4 : sn.length ≤ wtRp sn := wtRp_ge sn
    have HNN : Hid (n3 ≤ 1048576 ∧ n5 ≤ 1048576 ∧ n6 ≤ 1048576 ∧ n7 ≤ 1048576) := by
      obtain ⟨e1, e2, e3, e4, e5, e6, e7⟩ := HL.out
      refine ⟨?_, ?_, ?_, ?_⟩ <;> omega
    have HSMALL : Hid (CaSmall ca) := by
      show CaSmall ca
      rw [hca]
      obtain ⟨e1, e2, e3, e4, e5, e6, e7⟩ := HL.out
      obtain ⟨m3, m5, m6, m7⟩ := HNN.out
      exact ⟨⟨by rw [e1]; exact hm1, by rw [e2]; exact hm2, by rw [e3]; exact m3, by rw [e4]; exact hm4, by rw [e1]; exact hz1, hz2, hz3, hz4⟩, hzf, hze, hzr, by rw [e5]; exact m5, by rw [e6]; exact m6, by rw [e7]; exact m7⟩
    have HLIM : Hid (CaLim ca) := by
      have hs := HSMALL.out
      exact ⟨Nat.le_trans hs.s.c (by decide), Nat.le_trans hs.s.w (by decide), Nat.le_trans hs.s.k (by decide), Nat.le_trans hs.s.b (by decide), fun k hk => ⟨Nat.le_trans (hs.s.ks k hk).2.1.1 (by decide), Nat.le_trans (hs.s.ks k hk).2.2.1.1 (by decide), Nat.le_trans (hs.s.ks k hk).2.2.2.1 (by decide)⟩, Nat.le_trans hs.nf (by decide), Nat.le_trans hs.ne (by decide), Nat.le_trans hs.nr (by decide), fun k hk => (hs.fl k hk).lens.lim, fun k hk => (hs.se k hk).lens.lim, fun k hk => (hs.sn k hk).lens.lim⟩
    have HTO : Hid (∀ W : World, Below w.heap.size w W → Calls Try.prog 7 #[.agg #[.slice a1 n1 c1, .slice a2 n2 c2, .slice a3 n3 c3, .slice a4 n4 c4, .int .i64 nx, .int .i64 sq, .slice a5 n5 c5, .int .i64 now, .slice a6 n6 c6, .slice a7 n7 c7]] W fun e w' => CacheIs ca W e w') := fun W hW => by
      rw [hca]
      exact toCache_any a1 n1 c1 cs a2 n2 c2 ws a3 n3 c3 ks a4 n4 c4 bl nx sq a5 n5 c5 fl now a6 n6 c6 se a7 n7 c7 sn w.heap.size W (HA1.out W hW) (HA2.out W hW) (HA3.out W hW) (HA4.out W hW) (HA5.out W hW) (HA6.out W hW) (HA7.out W hW) hW.size ⟨hm1, hm2, HNN.out.1, hm4, HNN.out.2.1, HNN.out.2.2.1, HNN.out.2.2.2, fun k hk => ⟨(hz3 k hk).2.1.1, (hz3 k hk).2.2.1.1, (hz3 k hk).2.2.2.1⟩, fun k hk => (hzf k hk).lens, fun k hk => (hze k hk).lens, fun k hk => (hzr k hk).lens⟩
    clear hca hr1 hr2 hz1 hz2 hz3 hz4 hzf hze hzr hw1 hw2 hw3 hw4
    obtain ⟨hA, hhA⟩ : ∃ x : Int, x = (hereTo ca.sn ca.sn.length : Int) := ⟨_, rfl⟩
    obtain ⟨hB, hhB⟩ : ∃ x : Int, x = (thereTo ca.sn ca.sn.length : Int) := ⟨_, rfl⟩
    have HSP : Hid (∀ W : World, Below w.heap.size w W → ∀ (v1 v2 V VB F E R : Value) (kv : List (KpD × Value × Value × Value)) (fv : List FlV) (ev : List SeV) (rv : List RpV) (B : Nat), CacheO W B v1 v2 V VB F E R kv fv ev rv ca → Calls Try.prog 14 #[.agg #[v1, v2, V, VB, .int .i64 ca.s.nx, .int .i64 ca.s.sq, F, .int .i64 ca.now, E, R]] W fun e w' => e = .returned (.tuple #[.int .i64 hA, .int .i64 hB]) ∧ Below W.heap.size W w') := fun W _ v1 v2 V VB F E R kv fv ev rv B ho => by rw [hhA, hhB]; exact specShare_any v1 v2 V VB F E R kv fv ev rv ca B W ho HSMALL.out
    have HIM : Hid (∀ W : World, Below w.heap.size w W → ∀ (v1 v2 V VB F E R : Value) (kv : List (KpD × Value × Value × Value)) (fv : List FlV) (ev : List SeV) (rv : List RpV) (B : Nat), CacheO W B v1 v2 V VB F E R kv fv ev rv ca → Calls Try.prog 15 #[.agg #[v1, v2, V, VB, .int .i64 ca.s.nx, .int .i64 ca.s.sq, F, .int .i64 ca.now, E, R]] W fun e w' => e = .returned (.tuple #[.int .i64 hA, .int .i64 hB]) ∧ Below W.heap.size W w') := fun W _ v1 v2 V VB F E R kv fv ev rv B ho => by rw [hhA, hhB]; exact implShare_any v1 v2 V VB F E R kv fv ev rv ca B W ho HSMALL.out
    clear hhA hhB
    have hAA : (hA != hA) = false := by simp
    have hBB : (hB != hB) = false := by simp
    have cv1_0 : (w2).cell? ⟨qv1, 0, none⟩ = some (.slice a1 n1 c1) := (cell_of HBv1_2.out 0).trans rfl
    have cv1_1 : (w2).cell? ⟨qv1, 1, none⟩ = some (.slice a2 n2 c2) := (cell_of HBv1_2.out 1).trans rfl
    have cv1_2 : (w2).cell? ⟨qv1, 2, none⟩ = some (.slice a3 n3 c3) := (cell_of HBv1_2.out 2).trans rfl
    have cv1_3 : (w2).cell? ⟨qv1, 3, none⟩ = some (.slice a4 n4 c4) := (cell_of HBv1_2.out 3).trans rfl
    have cv1_4 : (w2).cell? ⟨qv1, 4, none⟩ = some (.int .i64 nx) := (cell_of HBv1_2.out 4).trans rfl
    have cv1_5 : (w2).cell? ⟨qv1, 5, none⟩ = some (.int .i64 sq) := (cell_of HBv1_2.out 5).trans rfl
    have cv1_6 : (w2).cell? ⟨qv1, 6, none⟩ = some (.slice a5 n5 c5) := (cell_of HBv1_2.out 6).trans rfl
    have cv1_7 : (w2).cell? ⟨qv1, 7, none⟩ = some (.int .i64 now) := (cell_of HBv1_2.out 7).trans rfl
    have cv1_8 : (w2).cell? ⟨qv1, 8, none⟩ = some (.slice a6 n6 c6) := (cell_of HBv1_2.out 8).trans rfl
    have cv1_9 : (w2).cell? ⟨qv1, 9, none⟩ = some (.slice a7 n7 c7) := (cell_of HBv1_2.out 9).trans rfl
    go_wp2_with fail
    refine (HTO.out _ hb2).mono ?_
    rintro e w3 ⟨va, vb, vc, vd, vf, ve, vr, kv1, fv1, ev1, rv1, rfl, hco, bw⟩
    obtain ⟨oC1, pC1, rfl⟩ := slice_of_owns hco.shelf.disk.cells
    obtain ⟨oP1, pP1, rfl⟩ := slice_of_owns hco.shelf.disk.pend
    obtain ⟨oK1, pK1, rfl⟩ := hco.shelf.kept.len
    obtain ⟨oB1, pB1, rfl⟩ := slice_of_owns hco.shelf.bans
    obtain ⟨oF1, pF1, rfl⟩ := hco.fls.len
    obtain ⟨oE1, pE1, rfl⟩ := hco.ses.len
    obtain ⟨oR1, pR1, rfl⟩ := hco.rps.len
    obtain ⟨b1, hbq1⟩ : ∃ b, b = (w2).heap.size := ⟨_, rfl⟩
    have hb3 : Below w.heap.size w (w3) := hb2.trans (bw.mono hb2.size)
    have HBv1_3 : Hid ((w3).heap[qv1]? = some (.cells #[.slice a1 n1 c1, .slice a2 n2 c2, .slice a3 n3 c3, .slice a4 n4 c4, .int .i64 nx, .int .i64 sq, .slice a5 n5 c5, .int .i64 now, .slice a6 n6 c6, .slice a7 n7 c7] 34)) := blk_below HBv1_2.out bw
    clear hb2 HBv1_2 bw
    have EC1_3 : Hid (CacheO (w3) b1 (.slice oC1 ca.s.cs.length pC1) (.slice oP1 ca.s.ws.length pP1) (.slice oK1 kv1.length pK1) (.slice oB1 ca.s.bl.length pB1) (.slice oF1 fv1.length pF1) (.slice oE1 ev1.length pE1) (.slice oR1 rv1.length pR1) kv1 fv1 ev1 rv1 ca) := by show CacheO _ _ _ _ _ _ _ _ _ _ _ _ _ _; rw [hbq1]; exact hco
    clear hco hbq1
    clear cv1_0 cv1_1 cv1_2 cv1_3 cv1_4 cv1_5 cv1_6 cv1_7 cv1_8 cv1_9
    go_wp2_with fail
    refine (HSP.out _ hb3 _ _ _ _ _ _ _ _ _ _ _ _ EC1_3.out).mono ?_
    rintro e w4 ⟨rfl, bw⟩
    have hb4 : Below w.heap.size w (w4) := hb3.trans (bw.mono hb3.size)
    have HBv1_4 : Hid ((w4).heap[qv1]? = some (.cells #[.slice a1 n1 c1, .slice a2 n2 c2, .slice a3 n3 c3, .slice a4 n4 c4, .int .i64 nx, .int .i64 sq, .slice a5 n5 c5, .int .i64 now, .slice a6 n6 c6, .slice a7 n7 c7] 34)) := blk_below HBv1_3.out bw
    have EC1_4 : Hid (CacheO (w4) b1 (.slice oC1 ca.s.cs.length pC1) (.slice oP1 ca.s.ws.length pP1) (.slice oK1 kv1.length pK1) (.slice oB1 ca.s.bl.length pB1) (.slice oF1 fv1.length pF1) (.slice oE1 ev1.length pE1) (.slice oR1 rv1.length pR1) kv1 fv1 ev1 rv1 ca) := EC1_3.out.below bw
    clear hb3 HBv1_3 EC1_3 bw
    have cv1_0 : (w4).cell? ⟨qv1, 0, none⟩ = some (.slice a1 n1 c1) := (cell_of HBv1_4.out 0).trans rfl
    have cv1_1 : (w4).cell? ⟨qv1, 1, none⟩ = some (.slice a2 n2 c2) := (cell_of HBv1_4.out 1).trans rfl
    have cv1_2 : (w4).cell? ⟨qv1, 2, none⟩ = some (.slice a3 n3 c3) := (cell_of HBv1_4.out 2).trans rfl
    have cv1_3 : (w4).cell? ⟨qv1, 3, none⟩ = some (.slice a4 n4 c4) := (cell_of HBv1_4.out 3).trans rfl
    have cv1_4 : (w4).cell? ⟨qv1, 4, none⟩ = some (.int .i64 nx) := (cell_of HBv1_4.out 4).trans rfl
    have cv1_5 : (w4).cell? ⟨qv1, 5, none⟩ = some (.int .i64 sq) := (cell_of HBv1_4.out 5).trans rfl
    have cv1_6 : (w4).cell? ⟨qv1, 6, none⟩ = some (.slice a5 n5 c5) := (cell_of HBv1_4.out 6).trans rfl
    have cv1_7 : (w4).cell? ⟨qv1, 7, none⟩ = some (.int .i64 now) := (cell_of HBv1_4.out 7).trans rfl
    have cv1_8 : (w4).cell? ⟨qv1, 8, none⟩ = some (.slice a6 n6 c6) := (cell_of HBv1_4.out 8).trans rfl
    have cv1_9 : (w4).cell? ⟨qv1, 9, none⟩ = some (.slice a7 n7 c7) := (cell_of HBv1_4.out 9).trans rfl
    go_wp2_with fail
    refine (HTO.out _ hb4).mono ?_
    rintro e w5 ⟨va, vb, vc, vd, vf, ve, vr, kv2, fv2, ev2, rv2, rfl, hco, bw⟩
    obtain ⟨oC2, pC2, rfl⟩ := slice_of_owns hco.shelf.disk.cells
    obtain ⟨oP2, pP2, rfl⟩ := slice_of_owns hco.shelf.disk.pend
    obtain ⟨oK2, pK2, rfl⟩ := hco.shelf.kept.len
    obtain ⟨oB2, pB2, rfl⟩ := slice_of_owns hco.shelf.bans
    obtain ⟨oF2, pF2, rfl⟩ := hco.fls.len
    obtain ⟨oE2, pE2, rfl⟩ := hco.ses.len
    obtain ⟨oR2, pR2, rfl⟩ := hco.rps.len
    obtain ⟨b2, hbq2⟩ : ∃ b, b = (w4).heap.size := ⟨_, rfl⟩
    have hb5 : Below w.heap.size w (w5) := hb4.trans (bw.mono hb4.size)
    have HBv1_5 : Hid ((w5).heap[qv1]? = some (.cells #[.slice a1 n1 c1, .slice a2 n2 c2, .slice a3 n3 c3, .slice a4 n4 c4, .int .i64 nx, .int .i64 sq, .slice a5 n5 c5, .int .i64 now, .slice a6 n6 c6, .slice a7 n7 c7] 34)) := blk_below HBv1_4.out bw
    have EC1_5 : Hid (CacheO (w5) b1 (.slice oC1 ca.s.cs.length pC1) (.slice oP1 ca.s.ws.length pP1) (.slice oK1 kv1.length pK1) (.slice oB1 ca.s.bl.length pB1) (.slice oF1 fv1.length pF1) (.slice oE1 ev1.length pE1) (.slice oR1 rv1.length pR1) kv1 fv1 ev1 rv1 ca) := EC1_4.out.below bw
    clear hb4 HBv1_4 EC1_4 bw
    have EC2_5 : Hid (CacheO (w5) b2 (.slice oC2 ca.s.cs.length pC2) (.slice oP2 ca.s.ws.length pP2) (.slice oK2 kv2.length pK2) (.slice oB2 ca.s.bl.length pB2) (.slice oF2 fv2.length pF2) (.slice oE2 ev2.length pE2) (.slice oR2 rv2.length pR2) kv2 fv2 ev2 rv2 ca) := by show CacheO _ _ _ _ _ _ _ _ _ _ _ _ _ _; rw [hbq2]; exact hco
    clear hco hbq2
    clear cv1_0 cv1_1 cv1_2 cv1_3 cv1_4 cv1_5 cv1_6 cv1_7 cv1_8 cv1_9
    go_upto_region 7 with fail
    obtain ⟨qv2, hqv2⟩ : ∃ q, q = (w5).heap.size := ⟨_, rfl⟩
    obtain ⟨w6, hW6⟩ : ∃ W, W = (w5).alloc (.cells #[(.slice oC2 ca.s.cs.length pC2), (.slice oP2 ca.s.ws.length pP2), (.slice oK2 kv2.length pK2), (.slice oB2 ca.s.bl.length pB2), .int .i64 ca.s.nx, .int .i64 ca.s.sq, (.slice oF2 fv2.length pF2), .int .i64 ca.now, (.slice oE2 ev2.length pE2), (.slice oR2 rv2.length pR2)] 49) := ⟨_, rfl⟩
    have hz6 : (w5).heap.size = qv2 := hqv2.symm
    first | rw [← hW6, ← hqv2] | rw [← hW6]
    have hs6 : w6.heap.size = qv2 + 1 := by rw [hW6, ← hz6]; simp
    have bw : Below (w5).heap.size (w5) w6 := by rw [hW6]; exact (Below.refl _ _).alloc (Nat.le_refl _) _
    have hb6 : Below w.heap.size w (w6) := hb5.trans (bw.mono hb5.size)
    have HBv1_6 : Hid ((w6).heap[qv1]? = some (.cells #[.slice a1 n1 c1, .slice a2 n2 c2, .slice a3 n3 c3, .slice a4 n4 c4, .int .i64 nx, .int .i64 sq, .slice a5 n5 c5, .int .i64 now, .slice a6 n6 c6, .slice a7 n7 c7] 34)) := blk_below HBv1_5.out bw
    have EC1_6 : Hid (CacheO (w6) b1 (.slice oC1 ca.s.cs.length pC1) (.slice oP1 ca.s.ws.length pP1) (.slice oK1 kv1.length pK1) (.slice oB1 ca.s.bl.length pB1) (.slice oF1 fv1.length pF1) (.slice oE1 ev1.length pE1) (.slice oR1 rv1.length pR1) kv1 fv1 ev1 rv1 ca) := EC1_5.out.below bw
    have EC2_6 : Hid (CacheO (w6) b2 (.slice oC2 ca.s.cs.length pC2) (.slice oP2 ca.s.ws.length pP2) (.slice oK2 kv2.length pK2) (.slice oB2 ca.s.bl.length pB2) (.slice oF2 fv2.length pF2) (.slice oE2 ev2.length pE2) (.slice oR2 rv2.length pR2) kv2 fv2 ev2 rv2 ca) := EC2_5.out.below bw
    have HBv2_6 : Hid ((w6).heap[qv2]? = some (.cells #[(.slice oC2 ca.s.cs.length pC2), (.slice oP2 ca.s.ws.length pP2), (.slice oK2 kv2.length pK2), (.slice oB2 ca.s.bl.length pB2), .int .i64 ca.s.nx, .int .i64 ca.s.sq, (.slice oF2 fv2.length pF2), .int .i64 ca.now, (.slice oE2 ev2.length pE2), (.slice oR2 rv2.length pR2)] 49)) := by show _ = _; rw [hW6, ← hz6]; exact heap_alloc_new _ _
    clear hb5 HBv1_5 EC1_5 EC2_5 bw hW6 hz6
    clear hs6 hqv2
    have cv2_0 : (w6).cell? ⟨qv2, 0, none⟩ = some ((.slice oC2 ca.s.cs.length pC2)) := (cell_of HBv2_6.out 0).trans rfl
    have cv2_1 : (w6).cell? ⟨qv2, 1, none⟩ = some ((.slice oP2 ca.s.ws.length pP2)) := (cell_of HBv2_6.out 1).trans rfl
    have cv2_2 : (w6).cell? ⟨qv2, 2, none⟩ = some ((.slice oK2 kv2.length pK2)) := (cell_of HBv2_6.out 2).trans rfl
    have cv2_3 : (w6).cell? ⟨qv2, 3, none⟩ = some ((.slice oB2 ca.s.bl.length pB2)) := (cell_of HBv2_6.out 3).trans rfl
    have cv2_4 : (w6).cell? ⟨qv2, 4, none⟩ = some (.int .i64 ca.s.nx) := (cell_of HBv2_6.out 4).trans rfl
    have cv2_5 : (w6).cell? ⟨qv2, 5, none⟩ = some (.int .i64 ca.s.sq) := (cell_of HBv2_6.out 5).trans rfl
    have cv2_6 : (w6).cell? ⟨qv2, 6, none⟩ = some ((.slice oF2 fv2.length pF2)) := (cell_of HBv2_6.out 6).trans rfl
    have cv2_7 : (w6).cell? ⟨qv2, 7, none⟩ = some (.int .i64 ca.now) := (cell_of HBv2_6.out 7).trans rfl
    have cv2_8 : (w6).cell? ⟨qv2, 8, none⟩ = some ((.slice oE2 ev2.length pE2)) := (cell_of HBv2_6.out 8).trans rfl
    have cv2_9 : (w6).cell? ⟨qv2, 9, none⟩ = some ((.slice oR2 rv2.length pR2)) := (cell_of HBv2_6.out 9).trans rfl
    go_wp2_with fail
    refine (HIM.out _ hb6 _ _ _ _ _ _ _ _ _ _ _ _ EC2_6.out).mono ?_
    rintro e w7 ⟨rfl, bw⟩
    have hb7 : Below w.heap.size w (w7) := hb6.trans (bw.mono hb6.size)
    have HBv1_7 : Hid ((w7).heap[qv1]? = some (.cells #[.slice a1 n1 c1, .slice a2 n2 c2, .slice a3 n3 c3, .slice a4 n4 c4, .int .i64 nx, .int .i64 sq, .slice a5 n5 c5, .int .i64 now, .slice a6 n6 c6, .slice a7 n7 c7] 34)) := blk_below HBv1_6.out bw
    have HBv2_7 : Hid ((w7).heap[qv2]? = some (.cells #[(.slice oC2 ca.s.cs.length pC2), (.slice oP2 ca.s.ws.length pP2), (.slice oK2 kv2.length pK2), (.slice oB2 ca.s.bl.length pB2), .int .i64 ca.s.nx, .int .i64 ca.s.sq, (.slice oF2 fv2.length pF2), .int .i64 ca.now, (.slice oE2 ev2.length pE2), (.slice oR2 rv2.length pR2)] 49)) := blk_below HBv2_6.out bw
    have EC1_7 : Hid (CacheO (w7) b1 (.slice oC1 ca.s.cs.length pC1) (.slice oP1 ca.s.ws.length pP1) (.slice oK1 kv1.length pK1) (.slice oB1 ca.s.bl.length pB1) (.slice oF1 fv1.length pF1) (.slice oE1 ev1.length pE1) (.slice oR1 rv1.length pR1) kv1 fv1 ev1 rv1 ca) := EC1_6.out.below bw
    have EC2_7 : Hid (CacheO (w7) b2 (.slice oC2 ca.s.cs.length pC2) (.slice oP2 ca.s.ws.length pP2) (.slice oK2 kv2.length pK2) (.slice oB2 ca.s.bl.length pB2) (.slice oF2 fv2.length pF2) (.slice oE2 ev2.length pE2) (.slice oR2 rv2.length pR2) kv2 fv2 ev2 rv2 ca) := EC2_6.out.below bw
    clear hb6 HBv1_6 HBv2_6 EC1_6 EC2_6 bw
    clear cv2_0 cv2_1 cv2_2 cv2_3 cv2_4 cv2_5 cv2_6 cv2_7 cv2_8 cv2_9
    go_upto_region 10 with fail
    refine wp_region_held_drew (S := fun W => W.heap[qv2]? = some (.cells #[(.slice oC2 ca.s.cs.length pC2), (.slice oP2 ca.s.ws.length pP2), (.slice oK2 kv2.length pK2), (.slice oB2 ca.s.bl.length pB2), .int .i64 ca.s.nx, .int .i64 ca.s.sq, (.slice oF2 fv2.length pF2), .int .i64 ca.now, (.slice oE2 ev2.length pE2), (.slice oR2 rv2.length pR2)] 49) ∧ W.heap[qv1]? = some (.cells #[.slice a1 n1 c1, .slice a2 n2 c2, .slice a3 n3 c3, .slice a4 n4 c4, .int .i64 nx, .int .i64 sq, .slice a5 n5 c5, .int .i64 now, .slice a6 n6 c6, .slice a7 n7 c7] 34)) (by kernel_rfl) ⟨HBv2_7.out, HBv1_7.out⟩ (fun _ => ?_)
    obtain ⟨w8, hX⟩ : ∃ X, X = w7.drew := ⟨_, rfl⟩
    have bw : Below w7.heap.size w7 w8 := by rw [hX]; exact (Below.refl _ _).drew
    rw [← hX]
    have hb8 : Below w.heap.size w (w8) := hb7.trans (bw.mono hb7.size)
    have HBv1_8 : Hid ((w8).heap[qv1]? = some (.cells #[.slice a1 n1 c1, .slice a2 n2 c2, .slice a3 n3 c3, .slice a4 n4 c4, .int .i64 nx, .int .i64 sq, .slice a5 n5 c5, .int .i64 now, .slice a6 n6 c6, .slice a7 n7 c7] 34)) := blk_below HBv1_7.out bw
    have HBv2_8 : Hid ((w8).heap[qv2]? = some (.cells #[(.slice oC2 ca.s.cs.length pC2), (.slice oP2 ca.s.ws.length pP2), (.slice oK2 kv2.length pK2), (.slice oB2 ca.s.bl.length pB2), .int .i64 ca.s.nx, .int .i64 ca.s.sq, (.slice oF2 fv2.length pF2), .int .i64 ca.now, (.slice oE2 ev2.length pE2), (.slice oR2 rv2.length pR2)] 49)) := blk_below HBv2_7.out bw
    have EC1_8 : Hid (CacheO (w8) b1 (.slice oC1 ca.s.cs.length pC1) (.slice oP1 ca.s.ws.length pP1) (.slice oK1 kv1.length pK1) (.slice oB1 ca.s.bl.length pB1) (.slice oF1 fv1.length pF1) (.slice oE1 ev1.length pE1) (.slice oR1 rv1.length pR1) kv1 fv1 ev1 rv1 ca) := EC1_7.out.below bw
    have EC2_8 : Hid (CacheO (w8) b2 (.slice oC2 ca.s.cs.length pC2) (.slice oP2 ca.s.ws.length pP2) (.slice oK2 kv2.length pK2) (.slice oB2 ca.s.bl.length pB2) (.slice oF2 fv2.length pF2) (.slice oE2 ev2.length pE2) (.slice oR2 rv2.length pR2) kv2 fv2 ev2 rv2 ca) := EC2_7.out.below bw
    have hS8 : w8.heap[qv2]? = some (.cells #[(.slice oC2 ca.s.cs.length pC2), (.slice oP2 ca.s.ws.length pP2), (.slice oK2 kv2.length pK2), (.slice oB2 ca.s.bl.length pB2), .int .i64 ca.s.nx, .int .i64 ca.s.sq, (.slice oF2 fv2.length pF2), .int .i64 ca.now, (.slice oE2 ev2.length pE2), (.slice oR2 rv2.length pR2)] 49) ∧ w8.heap[qv1]? = some (.cells #[.slice a1 n1 c1, .slice a2 n2 c2, .slice a3 n3 c3, .slice a4 n4 c4, .int .i64 nx, .int .i64 sq, .slice a5 n5 c5, .int .i64 now, .slice a6 n6 c6, .slice a7 n7 c7] 34) := ⟨HBv2_8.out, HBv1_8.out⟩
    clear hb7 HBv1_7 HBv2_7 EC1_7 EC2_7 bw hX
    refine wpAnyH_takeD (i := 0) (v := .agg #[(.slice oC2 ca.s.cs.length pC2), (.slice oP2 ca.s.ws.length pP2), (.slice oK2 kv2.length pK2), (.slice oB2 ca.s.bl.length pB2), .int .i64 ca.s.nx, .int .i64 ca.s.sq, (.slice oF2 fv2.length pF2), .int .i64 ca.now, (.slice oE2 ev2.length pE2), (.slice oR2 rv2.length pR2)]) (some 35) rfl rfl (by kernel_rfl) (by kernel_rfl) (by kernel_rfl) (fun _ _ _ h => h) (Or.inl ⟨by rfl, by intro W hW; obtain ⟨hhv2, hhv1⟩ := hW; have y0 := (cell_of hhv2 0).trans rfl; have y1 := (cell_of hhv2 1).trans rfl; have y2 := (cell_of hhv2 2).trans rfl; have y3 := (cell_of hhv2 3).trans rfl; have y4 := (cell_of hhv2 4).trans rfl; have y5 := (cell_of hhv2 5).trans rfl; have y6 := (cell_of hhv2 6).trans rfl; have y7 := (cell_of hhv2 7).trans rfl; have y8 := (cell_of hhv2 8).trans rfl; have y9 := (cell_of hhv2 9).trans rfl; go_simp⟩) hS8 ?_
    simp only [Act.put, List.setIfInBounds_toArray, List.set_cons_zero, List.set_cons_succ]
    refine wpAnyH_takeD (i := 1) (v := .agg #[.slice a1 n1 c1, .slice a2 n2 c2, .slice a3 n3 c3, .slice a4 n4 c4, .int .i64 nx, .int .i64 sq, .slice a5 n5 c5, .int .i64 now, .slice a6 n6 c6, .slice a7 n7 c7]) (some 36) rfl rfl (by kernel_rfl) (by kernel_rfl) (by kernel_rfl) (fun _ _ _ h => h) (Or.inl ⟨by rfl, by intro W hW; obtain ⟨hhv2, hhv1⟩ := hW; have y0 := (cell_of hhv1 0).trans rfl; have y1 := (cell_of hhv1 1).trans rfl; have y2 := (cell_of hhv1 2).trans rfl; have y3 := (cell_of hhv1 3).trans rfl; have y4 := (cell_of hhv1 4).trans rfl; have y5 := (cell_of hhv1 5).trans rfl; have y6 := (cell_of hhv1 6).trans rfl; have y7 := (cell_of hhv1 7).trans rfl; have y8 := (cell_of hhv1 8).trans rfl; have y9 := (cell_of hhv1 9).trans rfl; go_simp⟩) hS8 ?_
    simp only [Act.put, List.setIfInBounds_toArray, List.set_cons_zero, List.set_cons_succ]
    refine wpAnyH_ready (rs := [2]) (by kernel_rfl) (by simp) ?_
    refine AllReadyH.cons rfl (fun K hK => ?_) AllReadyH.nil
    go_simp
    refine (HTO.out _ hb8).mono ?_
    rintro e w9 ⟨va, vb, vc, vd, vf, ve, vr, kv3, fv3, ev3, rv3, rfl, hco, bw⟩
    obtain ⟨oC3, pC3, rfl⟩ := slice_of_owns hco.shelf.disk.cells
    obtain ⟨oP3, pP3, rfl⟩ := slice_of_owns hco.shelf.disk.pend
    obtain ⟨oK3, pK3, rfl⟩ := hco.shelf.kept.len
    obtain ⟨oB3, pB3, rfl⟩ := slice_of_owns hco.shelf.bans
    obtain ⟨oF3, pF3, rfl⟩ := hco.fls.len
    obtain ⟨oE3, pE3, rfl⟩ := hco.ses.len
    obtain ⟨oR3, pR3, rfl⟩ := hco.rps.len
    obtain ⟨b3, hbq3⟩ : ∃ b, b = (w8).heap.size := ⟨_, rfl⟩
    have hb9 : Below w.heap.size w (w9) := hb8.trans (bw.mono hb8.size)
    have HBv1_9 : Hid ((w9).heap[qv1]? = some (.cells #[.slice a1 n1 c1, .slice a2 n2 c2, .slice a3 n3 c3, .slice a4 n4 c4, .int .i64 nx, .int .i64 sq, .slice a5 n5 c5, .int .i64 now, .slice a6 n6 c6, .slice a7 n7 c7] 34)) := blk_below HBv1_8.out bw
    have HBv2_9 : Hid ((w9).heap[qv2]? = some (.cells #[(.slice oC2 ca.s.cs.length pC2), (.slice oP2 ca.s.ws.length pP2), (.slice oK2 kv2.length pK2), (.slice oB2 ca.s.bl.length pB2), .int .i64 ca.s.nx, .int .i64 ca.s.sq, (.slice oF2 fv2.length pF2), .int .i64 ca.now, (.slice oE2 ev2.length pE2), (.slice oR2 rv2.length pR2)] 49)) := blk_below HBv2_8.out bw
    have EC1_9 : Hid (CacheO (w9) b1 (.slice oC1 ca.s.cs.length pC1) (.slice oP1 ca.s.ws.length pP1) (.slice oK1 kv1.length pK1) (.slice oB1 ca.s.bl.length pB1) (.slice oF1 fv1.length pF1) (.slice oE1 ev1.length pE1) (.slice oR1 rv1.length pR1) kv1 fv1 ev1 rv1 ca) := EC1_8.out.below bw
    have EC2_9 : Hid (CacheO (w9) b2 (.slice oC2 ca.s.cs.length pC2) (.slice oP2 ca.s.ws.length pP2) (.slice oK2 kv2.length pK2) (.slice oB2 ca.s.bl.length pB2) (.slice oF2 fv2.length pF2) (.slice oE2 ev2.length pE2) (.slice oR2 rv2.length pR2) kv2 fv2 ev2 rv2 ca) := EC2_8.out.below bw
    clear hb8 HBv1_8 HBv2_8 EC1_8 EC2_8 bw
    have EC3_9 : Hid (CacheO (w9) b3 (.slice oC3 ca.s.cs.length pC3) (.slice oP3 ca.s.ws.length pP3) (.slice oK3 kv3.length pK3) (.slice oB3 ca.s.bl.length pB3) (.slice oF3 fv3.length pF3) (.slice oE3 ev3.length pE3) (.slice oR3 rv3.length pR3) kv3 fv3 ev3 rv3 ca) := by show CacheO _ _ _ _ _ _ _ _ _ _ _ _ _ _; rw [hbq3]; exact hco
    clear hco hbq3
    have hS9 : w9.heap[qv2]? = some (.cells #[(.slice oC2 ca.s.cs.length pC2), (.slice oP2 ca.s.ws.length pP2), (.slice oK2 kv2.length pK2), (.slice oB2 ca.s.bl.length pB2), .int .i64 ca.s.nx, .int .i64 ca.s.sq, (.slice oF2 fv2.length pF2), .int .i64 ca.now, (.slice oE2 ev2.length pE2), (.slice oR2 rv2.length pR2)] 49) ∧ w9.heap[qv1]? = some (.cells #[.slice a1 n1 c1, .slice a2 n2 c2, .slice a3 n3 c3, .slice a4 n4 c4, .int .i64 nx, .int .i64 sq, .slice a5 n5 c5, .int .i64 now, .slice a6 n6 c6, .slice a7 n7 c7] 34) := ⟨HBv2_9.out, HBv1_9.out⟩
    refine hK.out _ _ hS9 (fun _ => ?_)
    clear hK K hS8
    refine wpAnyH_ready (rs := [3]) (by kernel_rfl) (by simp) ?_
    refine AllReadyH.cons rfl (fun K hK => ?_) AllReadyH.nil
    go_simp
    refine (eqCache_any ca _ _ _ _ _ _ _ _ _ _ _ _ _ _ _ _ _ _ _ _ _ _ _ _ _ EC2_9.out EC3_9.out HLIM.out).mono ?_
    rintro e w10 ⟨rfl, bw⟩
    have hb10 : Below w.heap.size w (w10) := hb9.trans (bw.mono hb9.size)
    have HBv1_10 : Hid ((w10).heap[qv1]? = some (.cells #[.slice a1 n1 c1, .slice a2 n2 c2, .slice a3 n3 c3, .slice a4 n4 c4, .int .i64 nx, .int .i64 sq, .slice a5 n5 c5, .int .i64 now, .slice a6 n6 c6, .slice a7 n7 c7] 34)) := blk_below HBv1_9.out bw
    have HBv2_10 : Hid ((w10).heap[qv2]? = some (.cells #[(.slice oC2 ca.s.cs.length pC2), (.slice oP2 ca.s.ws.length pP2), (.slice oK2 kv2.length pK2), (.slice oB2 ca.s.bl.length pB2), .int .i64 ca.s.nx, .int .i64 ca.s.sq, (.slice oF2 fv2.length pF2), .int .i64 ca.now, (.slice oE2 ev2.length pE2), (.slice oR2 rv2.length pR2)] 49)) := blk_below HBv2_9.out bw
    have EC1_10 : Hid (CacheO (w10) b1 (.slice oC1 ca.s.cs.length pC1) (.slice oP1 ca.s.ws.length pP1) (.slice oK1 kv1.length pK1) (.slice oB1 ca.s.bl.length pB1) (.slice oF1 fv1.length pF1) (.slice oE1 ev1.length pE1) (.slice oR1 rv1.length pR1) kv1 fv1 ev1 rv1 ca) := EC1_9.out.below bw
    have EC2_10 : Hid (CacheO (w10) b2 (.slice oC2 ca.s.cs.length pC2) (.slice oP2 ca.s.ws.length pP2) (.slice oK2 kv2.length pK2) (.slice oB2 ca.s.bl.length pB2) (.slice oF2 fv2.length pF2) (.slice oE2 ev2.length pE2) (.slice oR2 rv2.length pR2) kv2 fv2 ev2 rv2 ca) := EC2_9.out.below bw
    have EC3_10 : Hid (CacheO (w10) b3 (.slice oC3 ca.s.cs.length pC3) (.slice oP3 ca.s.ws.length pP3) (.slice oK3 kv3.length pK3) (.slice oB3 ca.s.bl.length pB3) (.slice oF3 fv3.length pF3) (.slice oE3 ev3.length pE3) (.slice oR3 rv3.length pR3) kv3 fv3 ev3 rv3 ca) := EC3_9.out.below bw
    clear hb9 HBv1_9 HBv2_9 EC1_9 EC2_9 EC3_9 bw
    have hS10 : w10.heap[qv2]? = some (.cells #[(.slice oC2 ca.s.cs.length pC2), (.slice oP2 ca.s.ws.length pP2), (.slice oK2 kv2.length pK2), (.slice oB2 ca.s.bl.length pB2), .int .i64 ca.s.nx, .int .i64 ca.s.sq, (.slice oF2 fv2.length pF2), .int .i64 ca.now, (.slice oE2 ev2.length pE2), (.slice oR2 rv2.length pR2)] 49) ∧ w10.heap[qv1]? = some (.cells #[.slice a1 n1 c1, .slice a2 n2 c2, .slice a3 n3 c3, .slice a4 n4 c4, .int .i64 nx, .int .i64 sq, .slice a5 n5 c5, .int .i64 now, .slice a6 n6 c6, .slice a7 n7 c7] 34) := ⟨HBv2_10.out, HBv1_10.out⟩
    refine hK.out _ _ hS10 (fun _ => ?_)
    clear hK K hS9
    refine wpAnyH_takeD (i := 4) (v := .bool false) (some 39) rfl rfl (by kernel_rfl) (by kernel_rfl) (by kernel_rfl) (fun _ _ _ h => h) (Or.inl ⟨by rfl, by intro W _; go_simp⟩) hS10 ?_
    simp only [Act.put, List.setIfInBounds_toArray, List.set_cons_zero, List.set_cons_succ]
    clear hS10
    refine wpAnyH_done (by kernel_rfl) ?_ _
    go_wp2_with fail
    go_ret
    exact ⟨rfl, hb10⟩


set_option maxRecDepth 100000 in
theorem lifted (os : Os) (started : os.Started) (H : Type) (enc : TypeId × Value → H) :
    ReturnsInHanded {} Try.checked os 4 .any (Rows.fnExactShareSpec.pre6 enc Try.prog Try.f4 Rows.fnExactShareRow.domain false) (Rows.fnExactShareSpec.post enc Try.prog Try.f4 false true false false) := by
  refine returnsInHanded_of_change (C := Try.checked) own started (by kernel_rfl) Try.func4
    (ChangeSpec.witness6 (enc := enc) (C := Try.checked) false ⟨#[], #[.agg #[.slice none 0 0, .slice none 0 0, .slice none 0 0, .slice none 0 0, .int .i64 0, .int .i64 0, .slice none 0 0, .int .i64 0, .slice none 0 0, .slice none 0 0]], []⟩ 8 (by kernel_rfl) (by kernel_rfl) (by kernel_rfl) (by kernel_rfl)) ?_
  intro W base args ds gs before hval0 hW _ _
  have hval : ∀ (j : Nat) t v, Try.f4.params[j]? = some t → args[j]? = some v → Value.okWide Try.prog W .any base t v := hval0
  have hW' := hW
  obtain ⟨p, q, hA0, hV, rfl, hfz, hnd⟩ := hW
  have hA : DataW.TrodAll enc Try.prog W 0 (fun _ => true) true Try.f4.params.toList args.toList ds p := hA0
  rw [Try.params4] at hA hval
  obtain ⟨v0, vs0, d0, ds0, p0, q0, hargs, rfl, rfl, h0, r0⟩ := trodAll_cons hA
  obtain ⟨rfl, rfl, rfl⟩ := trodAll_nil r0
  obtain rfl : args = #[v0] := by cases args; simp_all
  obtain ⟨rfl, rfl⟩ := trodVars_none hV
  have k0 := h0
  have lt0 : ∀ x ∈ p0, x.block < W.heap.size := by obtain ⟨m, hm⟩ := k0; exact DataW.trod_lt m _ _ _ hm
  obtain ⟨sa10, sn10, sc10, sd10, sa20, sn20, sc20, sd20, sa30, sn30, sc30, sd30, sa40, sn40, sc40, sd40, sx0, sq0, sa50, sn50, sc50, sd50, sw0, sa60, sn60, sc60, sd60, sa70, sn70, sc70, sd70, rfl, ga0, gb0, gc0, gd0, ge0, gf0, gg0, gh0⟩ := openCache (hval 0 34 v0 rfl rfl) h0
  clear hA0 hval0
  refine (walk1 W sa10 sn10 sc10 sd10 sa20 sn20 sc20 sd20 sa30 sn30 sc30 sd30 sa40 sn40 sc40 sd40 sx0 sq0 sa50 sn50 sc50 sd50 sw0 sa60 sn60 sc60 sd60 sa70 sn70 sc70 sd70 ga0 gb0 gc0 gd0 ge0 gf0 gg0 gh0).mono fun e W' ⟨he, bel⟩ => ?_
  subst he
  exact ⟨_, rfl, _, _, _, [], _, [], hW', trodAll_mk1 (shut_bool Try.underlying4 _), (trodAll_cons_mk (Below.trod laidOut (by kernel_rfl) (of_decide_eq_true (by kernel_rfl)) k0 bel lt0) trodAll_mk0), rfl, bel.frame _, fun h => by cases h⟩

theorem over : Rows.fnExactShareRow.holds Try.pinned (OpenSpec.ofChange Rows.fnExactShareSpec) :=
  OpenClaim.holds_of_wide 4 Try.f4 rfl rfl rfl rfl rfl rfl rfl ⟨rfl, rfl, rfl, rfl, rfl⟩ rfl rfl rfl rfl rfl (by kernel_rfl) Try.func4 (by kernel_rfl)
    (of_decide_eq_true (by kernel_rfl)) (by unfold Func.isWrapper; first | (rw [if_pos (by decide +kernel)]; kernel_rfl) | (rw [if_neg (by decide +kernel)]; exact ⟨rfl, rfl⟩))
    (fun os started H enc _ => lifted os started H enc)
end fnExactShare

theorem fnExactShare_holds : Rows.FnExactShareSaid := fnExactShare.over
#print axioms fnExactShare_holds
end Go.Proofs.Ytajccgffallajaa
