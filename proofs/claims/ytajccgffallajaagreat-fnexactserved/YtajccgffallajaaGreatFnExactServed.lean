/- Served: at every argument the program answers as the specification (the law answers true); it writes into no argument, and its answer owns its memory, behind another call too: no condition. -/
import Derived.Test.YtajccgffallajaaGreatFnExactServedG
import Derived.Test.YtajccgffallajaaGreatRows
import Derived.WalkKit
import Derived.ProofKit
import Derived.OpenShut
import Derived.ShutString
import Derived.ChangeOld
import Derived.Below
import Derived.Deep.RegionHeld3
import Derived.Deep.DrawnRows
import Derived.Deep.CutRange
import Derived.Deep.DeepCutAuto
namespace Go.Proofs.YtajccgffallajaaGreat
namespace fnExactServed
open Go.ChangeShapes Go.WideShapes Go.ChangeAt Go.RowKit
open Go.ChangeMaps (open_string shut_string)
attribute [local go_sem ↓] Go.wp_at_zero Go.wp_at_succ

theorem own : ownKnob Tryz.prog.godebug = none := by kernel_rfl
theorem laidOut : laidOutB Tryz.prog = true := by kernel_rfl
theorem wtKC_ge : ∀ l : List KpD, l.length ≤ wtK l
  | [] => Nat.le_refl _
  | x :: l => by rw [wtK, List.length_cons]; have := wtKC_ge l; omega
theorem wmsC_le : ∀ kv : List (KpD × Value × Value × Value), wms kv ≤ 6 * wtK (kv.map (·.1))
  | [] => Nat.zero_le _
  | x :: l => by
    rw [wms, List.map_cons, wtK]
    have := wmsC_le l
    unfold wm1
    omega
theorem served_len (sn : List RpD) (x : Int) (h : ∀ k ∈ sn, RpSmall k) : (servedD sn x).2.1.length ≤ 1048576 := by
  cases hf : firstTo sn sn.length x with
  | none => rw [served_none hf]; exact Nat.zero_le _
  | some j =>
    rw [served_some hf rfl]
    exact (h _ (getD_mem0 zeroRp sn j (firstTo_lt sn x j _ hf))).rfs.1

open Go.Lib hiding intOf
set_option maxHeartbeats 16000000 in
set_option maxRecDepth 100000 in
theorem walk1 (w : World) (a1 : Option Addr) (n1 c1 : Nat) (cs : List ByteArray) (a2 : Option Addr) (n2 c2 : Nat) (ws : List (Int × ByteArray)) (a3 : Option Addr) (n3 c3 : Nat) (ks : List KpD) (a4 : Option Addr) (n4 c4 : Nat) (bl : List (Int × ByteArray × ByteArray × Int)) (nx sq : Int) (a5 : Option Addr) (n5 c5 : Nat) (fl : List FlD) (now : Int) (a6 : Option Addr) (n6 c6 : Nat) (se : List SeD) (a7 : Option Addr) (n7 c7 : Nat) (sn : List RpD) (h1 : ArgT w w.heap.size a1 n1 cs) (h2 : ArgWrite w w.heap.size a2 n2 ws) (h3 : ArgKept w w.heap.size a3 n3 ks) (h4 : ArgBan w w.heap.size a4 n4 bl) (h5 : ArgFlight w w.heap.size a5 n5 fl) (h6 : ArgSeen w w.heap.size a6 n6 se) (h7 : ArgReply w w.heap.size a7 n7 sn) (hm : (n1 ≤ maxLen ∧ n2 ≤ maxLen ∧ n3 ≤ maxLen ∧ n4 ≤ maxLen ∧ (∀ i, i < n1 → (textAt cs i).size ≤ maxLen) ∧ (∀ x ∈ ws, (x.2).size ≤ maxLen) ∧ (∀ k ∈ ks, KpMax k) ∧ ∀ x ∈ bl, (x.2.1).size ≤ maxLen ∧ (x.2.2.1).size ≤ maxLen) ∧ (n5 ≤ maxLen ∧ ∀ k ∈ fl, FlMax k) ∧ (n6 ≤ maxLen ∧ ∀ k ∈ se, SeMax k) ∧ n7 ≤ maxLen ∧ ∀ k ∈ sn, RpMax k) (cl : Int) (hcl0 : -9223372036854775808 ≤ cl) (hcl1 : cl ≤ 9223372036854775807) :
    Calls Tryz.prog 3 #[.agg #[.slice a1 n1 c1, .slice a2 n2 c2, .slice a3 n3 c3, .slice a4 n4 c4, .int .i64 nx, .int .i64 sq, .slice a5 n5 c5, .int .i64 now, .slice a6 n6 c6, .slice a7 n7 c7], .int .i64 cl] w fun e w' => e = .returned (.bool true) ∧ Below w.heap.size w w' := by
  have HA1 : Hid (∀ W, Below w.heap.size w W → ArgT W w.heap.size a1 n1 cs) := fun W h => h1.below h
  have HA2 : Hid (∀ W, Below w.heap.size w W → ArgWrite W w.heap.size a2 n2 ws) := fun W h => h2.below h
  have HA3 : Hid (∀ W, Below w.heap.size w W → ArgKept W w.heap.size a3 n3 ks) := fun W h => h3.below h
  have HA4 : Hid (∀ W, Below w.heap.size w W → ArgBan W w.heap.size a4 n4 bl) := fun W h => h4.below h
  have HA5 : Hid (∀ W, Below w.heap.size w W → ArgFlight W w.heap.size a5 n5 fl) := fun W h => h5.below h
  have HA6 : Hid (∀ W, Below w.heap.size w W → ArgSeen W w.heap.size a6 n6 se) := fun W h => h6.below h
  have HA7 : Hid (∀ W, Below w.heap.size w W → ArgReply W w.heap.size a7 n7 sn) := fun W h => h7.below h
  have HL : Hid (cs.length = n1 ∧ ws.length = n2 ∧ ks.length = n3 ∧ bl.length = n4 ∧ fl.length = n5 ∧ se.length = n6 ∧ sn.length = n7) := ⟨h1.len, h2.1, h3.1, h4.1, h5.1, h6.1, h7.1⟩
  have HMX : Hid ((n1 ≤ maxLen ∧ n2 ≤ maxLen ∧ n3 ≤ maxLen ∧ n4 ≤ maxLen ∧ (∀ i, i < n1 → (textAt cs i).size ≤ maxLen) ∧ (∀ x ∈ ws, (x.2).size ≤ maxLen) ∧ (∀ k ∈ ks, KpMax k) ∧ ∀ x ∈ bl, (x.2.1).size ≤ maxLen ∧ (x.2.2.1).size ≤ maxLen) ∧ (n5 ≤ maxLen ∧ ∀ k ∈ fl, FlMax k) ∧ (n6 ≤ maxLen ∧ ∀ k ∈ se, SeMax k) ∧ n7 ≤ maxLen ∧ ∀ k ∈ sn, RpMax k) := hm
  clear h1 h2 h3 h4 h5 h6 h7 hm
  have hb0 : Below w.heap.size w w := Below.refl _ _
  go_enter Tryz.func3, Tryz.ntmps3
  go_upto_region 1 with fail
  obtain ⟨qv1, hqv1⟩ : ∃ q, q = (w).heap.size := ⟨_, rfl⟩
  obtain ⟨w1, hW1⟩ : ∃ W, W = (w).alloc (.cells #[.slice a1 n1 c1, .slice a2 n2 c2, .slice a3 n3 c3, .slice a4 n4 c4, .int .i64 nx, .int .i64 sq, .slice a5 n5 c5, .int .i64 now, .slice a6 n6 c6, .slice a7 n7 c7] 34) := ⟨_, rfl⟩
  have hz1 : (w).heap.size = qv1 := hqv1.symm
  first | rw [← hW1, ← hqv1] | rw [← hW1]
  have hs1 : w1.heap.size = qv1 + 1 := by rw [hW1, ← hz1]; simp
  have bw : Below (w).heap.size (w) w1 := by rw [hW1]; exact (Below.refl _ _).alloc (Nat.le_refl _) _
  have hb1 : Below w.heap.size w (w1) := hb0.trans (bw.mono hb0.size)
  have HBv1_1 : Hid ((w1).heap[qv1]? = some (.cells #[.slice a1 n1 c1, .slice a2 n2 c2, .slice a3 n3 c3, .slice a4 n4 c4, .int .i64 nx, .int .i64 sq, .slice a5 n5 c5, .int .i64 now, .slice a6 n6 c6, .slice a7 n7 c7] 34)) := by show _ = _; rw [hW1, ← hz1]; exact heap_alloc_new _ _
  clear hb0 bw hW1 hz1
  clear hs1 hqv1
  have cv1_0 : (w1).cell? ⟨qv1, 0, none⟩ = some (.slice a1 n1 c1) := (cell_of HBv1_1.out 0).trans rfl
  have cv1_1 : (w1).cell? ⟨qv1, 1, none⟩ = some (.slice a2 n2 c2) := (cell_of HBv1_1.out 1).trans rfl
  have cv1_2 : (w1).cell? ⟨qv1, 2, none⟩ = some (.slice a3 n3 c3) := (cell_of HBv1_1.out 2).trans rfl
  have cv1_3 : (w1).cell? ⟨qv1, 3, none⟩ = some (.slice a4 n4 c4) := (cell_of HBv1_1.out 3).trans rfl
  have cv1_4 : (w1).cell? ⟨qv1, 4, none⟩ = some (.int .i64 nx) := (cell_of HBv1_1.out 4).trans rfl
  have cv1_5 : (w1).cell? ⟨qv1, 5, none⟩ = some (.int .i64 sq) := (cell_of HBv1_1.out 5).trans rfl
  have cv1_6 : (w1).cell? ⟨qv1, 6, none⟩ = some (.slice a5 n5 c5) := (cell_of HBv1_1.out 6).trans rfl
  have cv1_7 : (w1).cell? ⟨qv1, 7, none⟩ = some (.int .i64 now) := (cell_of HBv1_1.out 7).trans rfl
  have cv1_8 : (w1).cell? ⟨qv1, 8, none⟩ = some (.slice a6 n6 c6) := (cell_of HBv1_1.out 8).trans rfl
  have cv1_9 : (w1).cell? ⟨qv1, 9, none⟩ = some (.slice a7 n7 c7) := (cell_of HBv1_1.out 9).trans rfl
  go_wp2_with fail
  refine (szCache_any 1048576 (by omega) (by omega) a1 n1 c1 cs a2 n2 c2 ws a3 n3 c3 ks a4 n4 c4 bl nx sq a5 n5 c5 fl now a6 n6 c6 se a7 n7 c7 sn w.heap.size _ (HA1.out _ hb1) (HA2.out _ hb1) (HA3.out _ hb1) (HA4.out _ hb1) (HA5.out _ hb1) (HA6.out _ hb1) (HA7.out _ hb1) hb1.size HMX.out).mono ?_
  rintro e w2 ⟨r1, rfl, hl1, hr1, bw⟩
  have hb2 : Below w.heap.size w (w2) := hb1.trans (bw.mono hb1.size)
  have HBv1_2 : Hid ((w2).heap[qv1]? = some (.cells #[.slice a1 n1 c1, .slice a2 n2 c2, .slice a3 n3 c3, .slice a4 n4 c4, .int .i64 nx, .int .i64 sq, .slice a5 n5 c5, .int .i64 now, .slice a6 n6 c6, .slice a7 n7 c7] 34)) := blk_below HBv1_1.out bw
  clear hb1 HBv1_1 bw
  clear cv1_0 cv1_1 cv1_2 cv1_3 cv1_4 cv1_5 cv1_6 cv1_7 cv1_8 cv1_9
  by_cases hc1 : r1 < 0
  · clear hr1
    go_wp2_with fail
    go_ret
    exact ⟨rfl, hb2⟩
  · obtain ⟨hr2, ⟨⟨hm1, hz1⟩, ⟨hm2, hz2⟩, hz3, hm4, hz4⟩, hzf, hze, hzr⟩ := hr1 (by omega)
    obtain ⟨ca, hca⟩ : ∃ s, s = (⟨⟨cs, ws, ks, bl, nx, sq⟩, fl, now, se, sn⟩ : CaD) := ⟨_, rfl⟩
    have hw1 : ks.length ≤ wtK ks := wtKC_ge ks
    have hw2 : fl.length ≤ wtFl fl := wtFl_ge fl
    have hw3 : se.length ≤ wtSe se := wtSe_ge se
    have hw4 : sn.length ≤ wtRp sn := wtRp_ge sn
    have HNN : Hid (n3 ≤ 1048576 ∧ n5 ≤ 1048576 ∧ n6 ≤ 1048576 ∧ n7 ≤ 1048576) := by
      obtain ⟨e1, e2, e3, e4, e5, e6, e7⟩ := HL.out
      refine ⟨?_, ?_, ?_, ?_⟩ <;> omega
    have HSMALL : Hid (CaSmall ca) := by
      show CaSmall ca
      rw [hca]
      obtain ⟨e1, e2, e3, e4, e5, e6, e7⟩ := HL.out
      obtain ⟨m3, m5, m6, m7⟩ := HNN.out
      exact ⟨⟨by rw [e1]; exact hm1, by rw [e2]; exact hm2, by rw [e3]; exact m3, by rw [e4]; exact hm4, by rw [e1]; exact hz1, hz2, hz3, hz4⟩, hzf, hze, hzr, by rw [e5]; exact m5, by rw [e6]; exact m6, by rw [e7]; exact m7⟩
    have HLIM : Hid (CaLim ca) := by
      have hs := HSMALL.out
      exact ⟨Nat.le_trans hs.s.c (by decide), Nat.le_trans hs.s.w (by decide), Nat.le_trans hs.s.k (by decide), Nat.le_trans hs.s.b (by decide), fun k hk => ⟨Nat.le_trans (hs.s.ks k hk).2.1.1 (by decide), Nat.le_trans (hs.s.ks k hk).2.2.1.1 (by decide), Nat.le_trans (hs.s.ks k hk).2.2.2.1 (by decide)⟩, Nat.le_trans hs.nf (by decide), Nat.le_trans hs.ne (by decide), Nat.le_trans hs.nr (by decide), fun k hk => (hs.fl k hk).lens.lim, fun k hk => (hs.se k hk).lens.lim, fun k hk => (hs.sn k hk).lens.lim⟩
    have HTO : Hid (∀ W : World, Below w.heap.size w W → Calls Tryz.prog 6 #[.agg #[.slice a1 n1 c1, .slice a2 n2 c2, .slice a3 n3 c3, .slice a4 n4 c4, .int .i64 nx, .int .i64 sq, .slice a5 n5 c5, .int .i64 now, .slice a6 n6 c6, .slice a7 n7 c7]] W fun e w' => CacheIs ca W e w') := fun W hW => by
      rw [hca]
      exact toCache_any a1 n1 c1 cs a2 n2 c2 ws a3 n3 c3 ks a4 n4 c4 bl nx sq a5 n5 c5 fl now a6 n6 c6 se a7 n7 c7 sn w.heap.size W (HA1.out W hW) (HA2.out W hW) (HA3.out W hW) (HA4.out W hW) (HA5.out W hW) (HA6.out W hW) (HA7.out W hW) hW.size ⟨hm1, hm2, HNN.out.1, hm4, HNN.out.2.1, HNN.out.2.2.1, HNN.out.2.2.2, fun k hk => ⟨(hz3 k hk).2.1.1, (hz3 k hk).2.2.1.1, (hz3 k hk).2.2.2.1⟩, fun k hk => (hzf k hk).lens, fun k hk => (hze k hk).lens, fun k hk => (hzr k hk).lens⟩
    have HMK : Hid (CaMark ca) := by
      have e := HL.out
      have hm3 := HNN.out
      show CaMark ca
      rw [hca]
      refine ⟨⟨?_, ?_, ?_, ?_⟩, fun kv fv ev rv h1 h2 h3 h4 => ?_⟩
      · show ks.length ≤ 2000000; omega
      · show fl.length ≤ 2000000; omega
      · show se.length ≤ 2000000; omega
      · show sn.length ≤ 2000000; omega
      · have g1 := wmsC_le kv
        have g2 := wmsFl_le fv
        have g3 := wmsSe_le ev
        have g4 := wmsRp_le rv
        have l2 : fv.length = fl.length := by rw [← List.length_map (f := (·.d)), h2]
        have l3 : ev.length = se.length := by rw [← List.length_map (f := (·.d)), h3]
        have l4 : rv.length = sn.length := by rw [← List.length_map (f := (·.d)), h4]
        rw [h1] at g1
        rw [h2] at g2
        rw [h3] at g3
        rw [h4] at g4
        dsimp only at g1 g2 g3 g4 ⊢
        omega
    have HCLS : Hid (∀ k ∈ ca.sn, -9223372036854775808 ≤ k.cli ∧ k.cli ≤ 9223372036854775807) := by
      show ∀ k ∈ ca.sn, _
      rw [hca]
      exact fun k hk => (HMX.out.2.2.2.2 k hk).cls
    obtain ⟨⟨st, fs, bd, ok⟩, hdd⟩ : ∃ d, d = servedD ca.sn cl := ⟨_, rfl⟩
    have hfl : fs.length ≤ 1048576 := by have h := served_len ca.sn cl (fun k hk => HSMALL.out.sn k hk); rw [← hdd] at h; exact h
    clear hca hr1 hr2 hz1 hz2 hz3 hz4 hzf hze hzr hw1 hw2 hw3 hw4
    have HSP : Hid (∀ W : World, Below w.heap.size w W → ∀ (v1 v2 V VB F E R : Value) (kv : List (KpD × Value × Value × Value)) (fv : List FlV) (ev : List SeV) (rv : List RpV) (B : Nat), CacheO W B v1 v2 V VB F E R kv fv ev rv ca → Calls Tryz.prog 5 #[.agg #[v1, v2, V, VB, .int .i64 ca.s.nx, .int .i64 ca.s.sq, F, .int .i64 ca.now, E, R], .int .i64 cl] W fun e w' => ∃ (o : Option Addr) (p : Nat), e = .returned (.tuple #[.agg #[.int .i64 st, .slice o fs.length p, .string bd], .bool ok]) ∧ w'.ownsRow W.heap.size 135 2 (.slice o fs.length p) fs.length (flatF fs) ∧ Below W.heap.size W w') := fun W _ v1 v2 V VB F E R kv fv ev rv B ho => (specServed_any v1 v2 V VB F E R kv fv ev rv ca B W ho HSMALL.out cl).mono fun e w' hw => by
      rw [← hdd] at hw
      obtain ⟨v, h1, h2, h3⟩ := hw
      obtain ⟨o, p, rfl⟩ := slice_of_owns h2
      exact ⟨o, p, h1, h2, h3⟩
    have HIM : Hid (∀ W : World, Below w.heap.size w W → ∀ (v1 v2 V VB F E R : Value) (kv : List (KpD × Value × Value × Value)) (fv : List FlV) (ev : List SeV) (rv : List RpV) (B : Nat), CacheO W B v1 v2 V VB F E R kv fv ev rv ca → Calls Tryz.prog 7 #[.agg #[v1, v2, V, VB, .int .i64 ca.s.nx, .int .i64 ca.s.sq, F, .int .i64 ca.now, E, R], .int .i64 cl] W fun e w' => ∃ (o : Option Addr) (p : Nat), e = .returned (.tuple #[.agg #[.int .i64 st, .slice o fs.length p, .string bd], .bool ok]) ∧ w'.ownsRow W.heap.size 135 2 (.slice o fs.length p) fs.length (flatF fs) ∧ Below W.heap.size W w') := fun W _ v1 v2 V VB F E R kv fv ev rv B ho => (implServed_any v1 v2 V VB F E R kv fv ev rv ca B W ho HSMALL.out HCLS.out cl (WalkArith.wf_i64 ⟨hcl0, hcl1⟩)).mono fun e w' hw => by
      rw [← hdd] at hw
      obtain ⟨v, h1, h2, h3⟩ := hw
      obtain ⟨o, p, rfl⟩ := slice_of_owns h2
      exact ⟨o, p, h1, h2, h3⟩
    clear hdd
    have hokk : (ok != ok) = false := by simp
    have cv1_0 : (w2).cell? ⟨qv1, 0, none⟩ = some (.slice a1 n1 c1) := (cell_of HBv1_2.out 0).trans rfl
    have cv1_1 : (w2).cell? ⟨qv1, 1, none⟩ = some (.slice a2 n2 c2) := (cell_of HBv1_2.out 1).trans rfl
    have cv1_2 : (w2).cell? ⟨qv1, 2, none⟩ = some (.slice a3 n3 c3) := (cell_of HBv1_2.out 2).trans rfl
    have cv1_3 : (w2).cell? ⟨qv1, 3, none⟩ = some (.slice a4 n4 c4) := (cell_of HBv1_2.out 3).trans rfl
    have cv1_4 : (w2).cell? ⟨qv1, 4, none⟩ = some (.int .i64 nx) := (cell_of HBv1_2.out 4).trans rfl
    have cv1_5 : (w2).cell? ⟨qv1, 5, none⟩ = some (.int .i64 sq) := (cell_of HBv1_2.out 5).trans rfl
    have cv1_6 : (w2).cell? ⟨qv1, 6, none⟩ = some (.slice a5 n5 c5) := (cell_of HBv1_2.out 6).trans rfl
    have cv1_7 : (w2).cell? ⟨qv1, 7, none⟩ = some (.int .i64 now) := (cell_of HBv1_2.out 7).trans rfl
    have cv1_8 : (w2).cell? ⟨qv1, 8, none⟩ = some (.slice a6 n6 c6) := (cell_of HBv1_2.out 8).trans rfl
    have cv1_9 : (w2).cell? ⟨qv1, 9, none⟩ = some (.slice a7 n7 c7) := (cell_of HBv1_2.out 9).trans rfl
    go_wp2_with fail
    refine (HTO.out _ hb2).mono ?_
    rintro e w3 ⟨va, vb, vc, vd, vf, ve, vr, kv1, fv1, ev1, rv1, rfl, hco, bw⟩
    obtain ⟨oC1, pC1, rfl⟩ := slice_of_owns hco.shelf.disk.cells
    obtain ⟨oP1, pP1, rfl⟩ := slice_of_owns hco.shelf.disk.pend
    obtain ⟨oK1, pK1, rfl⟩ := hco.shelf.kept.len
    obtain ⟨oB1, pB1, rfl⟩ := slice_of_owns hco.shelf.bans
    obtain ⟨oF1, pF1, rfl⟩ := hco.fls.len
    obtain ⟨oE1, pE1, rfl⟩ := hco.ses.len
    obtain ⟨oR1, pR1, rfl⟩ := hco.rps.len
    obtain ⟨b1, hbq1⟩ : ∃ b, b = (w2).heap.size := ⟨_, rfl⟩
    obtain ⟨t1, htq1⟩ : ∃ t, t = (w3).heap.size := ⟨_, rfl⟩
    have HSZ1 : Hid (w.heap.size ≤ (w2).heap.size) := hb2.size
    have hb3 : Below w.heap.size w (w3) := hb2.trans (bw.mono hb2.size)
    have HBv1_3 : Hid ((w3).heap[qv1]? = some (.cells #[.slice a1 n1 c1, .slice a2 n2 c2, .slice a3 n3 c3, .slice a4 n4 c4, .int .i64 nx, .int .i64 sq, .slice a5 n5 c5, .int .i64 now, .slice a6 n6 c6, .slice a7 n7 c7] 34)) := blk_below HBv1_2.out bw
    clear hb2 HBv1_2 bw
    have HUC1 : Hid (∀ r ∈ caAll (.slice oC1 ca.s.cs.length pC1) (.slice oP1 ca.s.ws.length pP1) (.slice oK1 kv1.length pK1) (.slice oB1 ca.s.bl.length pB1) (.slice oF1 fv1.length pF1) (.slice oE1 ev1.length pE1) (.slice oR1 rv1.length pR1) kv1 fv1 ev1 rv1 ca.s.cs ca.s.ws ca.s.bl, ∀ g, r.v.ownBlock = some g → b1 ≤ g ∧ g < t1) := fun r hr g hg => by rw [hbq1, htq1]; exact ⟨owns_ge (hco.rows.own r hr) hg, hco.rows.lt hr hg⟩
    have HBW1 : Hid (w.heap.size ≤ b1) := by show _ ≤ _; rw [hbq1]; exact HSZ1.out
    have HBK1 : Hid (b1 = w2.heap.size) := hbq1
    have HTK1 : Hid (t1 = w3.heap.size) := htq1
    clear htq1
    have EC1_3 : Hid (CacheO (w3) b1 (.slice oC1 ca.s.cs.length pC1) (.slice oP1 ca.s.ws.length pP1) (.slice oK1 kv1.length pK1) (.slice oB1 ca.s.bl.length pB1) (.slice oF1 fv1.length pF1) (.slice oE1 ev1.length pE1) (.slice oR1 rv1.length pR1) kv1 fv1 ev1 rv1 ca) := by show CacheO _ _ _ _ _ _ _ _ _ _ _ _ _ _; rw [hbq1]; exact hco
    clear hco hbq1
    clear cv1_0 cv1_1 cv1_2 cv1_3 cv1_4 cv1_5 cv1_6 cv1_7 cv1_8 cv1_9
    go_wp2_with fail
    refine (HSP.out _ hb3 _ _ _ _ _ _ _ _ _ _ _ _ EC1_3.out).mono ?_
    rintro e w4 ⟨oy1, py1, rfl, hown, bw⟩
    have hb4 : Below w.heap.size w (w4) := hb3.trans (bw.mono hb3.size)
    have HBv1_4 : Hid ((w4).heap[qv1]? = some (.cells #[.slice a1 n1 c1, .slice a2 n2 c2, .slice a3 n3 c3, .slice a4 n4 c4, .int .i64 nx, .int .i64 sq, .slice a5 n5 c5, .int .i64 now, .slice a6 n6 c6, .slice a7 n7 c7] 34)) := blk_below HBv1_3.out bw
    have EC1_4 : Hid (CacheO (w4) b1 (.slice oC1 ca.s.cs.length pC1) (.slice oP1 ca.s.ws.length pP1) (.slice oK1 kv1.length pK1) (.slice oB1 ca.s.bl.length pB1) (.slice oF1 fv1.length pF1) (.slice oE1 ev1.length pE1) (.slice oR1 rv1.length pR1) kv1 fv1 ev1 rv1 ca) := EC1_3.out.below bw
    have HOy1_4 : Hid ((w4).ownsRow w.heap.size 135 2 (.slice oy1 fs.length py1) fs.length (flatF fs)) := owns_wide hown hb3.size
    have HIy1 : Hid (∀ g, (Value.ownBlock (.slice oy1 fs.length py1)) = some g → g < (w4).heap.size) := fun g hg => owns_lt hown hg
    clear hown
    clear hb3 HBv1_3 EC1_3 bw
    go_upto_region 6 with fail
    obtain ⟨qv2, hqv2⟩ : ∃ q, q = (w4).heap.size := ⟨_, rfl⟩
    obtain ⟨w5, hW5⟩ : ∃ W, W = (w4).alloc (.cells #[.int .i64 st, .slice oy1 fs.length py1, .string bd] 38) := ⟨_, rfl⟩
    have hz5 : (w4).heap.size = qv2 := hqv2.symm
    first | rw [← hW5, ← hqv2] | rw [← hW5]
    have hs5 : w5.heap.size = qv2 + 1 := by rw [hW5, ← hz5]; simp
    have bw : Below (w4).heap.size (w4) w5 := by rw [hW5]; exact (Below.refl _ _).alloc (Nat.le_refl _) _
    have hb5 : Below w.heap.size w (w5) := hb4.trans (bw.mono hb4.size)
    have HM5 : Hid ((w4).heap.size ≤ (w5).heap.size) := bw.size
    have HOy1_5 : Hid ((w5).ownsRow w.heap.size 135 2 (.slice oy1 fs.length py1) fs.length (flatF fs)) := owns_below HOy1_4.out bw (fun g hg => owns_lt HOy1_4.out hg)
    have HBv1_5 : Hid ((w5).heap[qv1]? = some (.cells #[.slice a1 n1 c1, .slice a2 n2 c2, .slice a3 n3 c3, .slice a4 n4 c4, .int .i64 nx, .int .i64 sq, .slice a5 n5 c5, .int .i64 now, .slice a6 n6 c6, .slice a7 n7 c7] 34)) := blk_below HBv1_4.out bw
    have EC1_5 : Hid (CacheO (w5) b1 (.slice oC1 ca.s.cs.length pC1) (.slice oP1 ca.s.ws.length pP1) (.slice oK1 kv1.length pK1) (.slice oB1 ca.s.bl.length pB1) (.slice oF1 fv1.length pF1) (.slice oE1 ev1.length pE1) (.slice oR1 rv1.length pR1) kv1 fv1 ev1 rv1 ca) := EC1_4.out.below bw
    have HBv2_5 : Hid ((w5).heap[qv2]? = some (.cells #[.int .i64 st, .slice oy1 fs.length py1, .string bd] 38)) := by show _ = _; rw [hW5, ← hz5]; exact heap_alloc_new _ _
    clear hb4 HOy1_4 HBv1_4 EC1_4 bw hW5 hz5
    clear hs5 hqv2
    have cv1_0 : (w5).cell? ⟨qv1, 0, none⟩ = some (.slice a1 n1 c1) := (cell_of HBv1_5.out 0).trans rfl
    have cv1_1 : (w5).cell? ⟨qv1, 1, none⟩ = some (.slice a2 n2 c2) := (cell_of HBv1_5.out 1).trans rfl
    have cv1_2 : (w5).cell? ⟨qv1, 2, none⟩ = some (.slice a3 n3 c3) := (cell_of HBv1_5.out 2).trans rfl
    have cv1_3 : (w5).cell? ⟨qv1, 3, none⟩ = some (.slice a4 n4 c4) := (cell_of HBv1_5.out 3).trans rfl
    have cv1_4 : (w5).cell? ⟨qv1, 4, none⟩ = some (.int .i64 nx) := (cell_of HBv1_5.out 4).trans rfl
    have cv1_5 : (w5).cell? ⟨qv1, 5, none⟩ = some (.int .i64 sq) := (cell_of HBv1_5.out 5).trans rfl
    have cv1_6 : (w5).cell? ⟨qv1, 6, none⟩ = some (.slice a5 n5 c5) := (cell_of HBv1_5.out 6).trans rfl
    have cv1_7 : (w5).cell? ⟨qv1, 7, none⟩ = some (.int .i64 now) := (cell_of HBv1_5.out 7).trans rfl
    have cv1_8 : (w5).cell? ⟨qv1, 8, none⟩ = some (.slice a6 n6 c6) := (cell_of HBv1_5.out 8).trans rfl
    have cv1_9 : (w5).cell? ⟨qv1, 9, none⟩ = some (.slice a7 n7 c7) := (cell_of HBv1_5.out 9).trans rfl
    go_wp2_with fail
    refine (HTO.out _ hb5).mono ?_
    rintro e w6 ⟨va, vb, vc, vd, vf, ve, vr, kv2, fv2, ev2, rv2, rfl, hco, bw⟩
    obtain ⟨oC2, pC2, rfl⟩ := slice_of_owns hco.shelf.disk.cells
    obtain ⟨oP2, pP2, rfl⟩ := slice_of_owns hco.shelf.disk.pend
    obtain ⟨oK2, pK2, rfl⟩ := hco.shelf.kept.len
    obtain ⟨oB2, pB2, rfl⟩ := slice_of_owns hco.shelf.bans
    obtain ⟨oF2, pF2, rfl⟩ := hco.fls.len
    obtain ⟨oE2, pE2, rfl⟩ := hco.ses.len
    obtain ⟨oR2, pR2, rfl⟩ := hco.rps.len
    obtain ⟨b2, hbq2⟩ : ∃ b, b = (w5).heap.size := ⟨_, rfl⟩
    obtain ⟨t2, htq2⟩ : ∃ t, t = (w6).heap.size := ⟨_, rfl⟩
    have HSZ2 : Hid (w.heap.size ≤ (w5).heap.size) := hb5.size
    have hb6 : Below w.heap.size w (w6) := hb5.trans (bw.mono hb5.size)
    have HM6 : Hid ((w5).heap.size ≤ (w6).heap.size) := bw.size
    have HOy1_6 : Hid ((w6).ownsRow w.heap.size 135 2 (.slice oy1 fs.length py1) fs.length (flatF fs)) := owns_below HOy1_5.out bw (fun g hg => owns_lt HOy1_5.out hg)
    have HBv1_6 : Hid ((w6).heap[qv1]? = some (.cells #[.slice a1 n1 c1, .slice a2 n2 c2, .slice a3 n3 c3, .slice a4 n4 c4, .int .i64 nx, .int .i64 sq, .slice a5 n5 c5, .int .i64 now, .slice a6 n6 c6, .slice a7 n7 c7] 34)) := blk_below HBv1_5.out bw
    have HBv2_6 : Hid ((w6).heap[qv2]? = some (.cells #[.int .i64 st, .slice oy1 fs.length py1, .string bd] 38)) := blk_below HBv2_5.out bw
    have EC1_6 : Hid (CacheO (w6) b1 (.slice oC1 ca.s.cs.length pC1) (.slice oP1 ca.s.ws.length pP1) (.slice oK1 kv1.length pK1) (.slice oB1 ca.s.bl.length pB1) (.slice oF1 fv1.length pF1) (.slice oE1 ev1.length pE1) (.slice oR1 rv1.length pR1) kv1 fv1 ev1 rv1 ca) := EC1_5.out.below bw
    clear hb5 HOy1_5 HBv1_5 HBv2_5 EC1_5 bw
    have HUC2 : Hid (∀ r ∈ caAll (.slice oC2 ca.s.cs.length pC2) (.slice oP2 ca.s.ws.length pP2) (.slice oK2 kv2.length pK2) (.slice oB2 ca.s.bl.length pB2) (.slice oF2 fv2.length pF2) (.slice oE2 ev2.length pE2) (.slice oR2 rv2.length pR2) kv2 fv2 ev2 rv2 ca.s.cs ca.s.ws ca.s.bl, ∀ g, r.v.ownBlock = some g → b2 ≤ g ∧ g < t2) := fun r hr g hg => by rw [hbq2, htq2]; exact ⟨owns_ge (hco.rows.own r hr) hg, hco.rows.lt hr hg⟩
    have HBW2 : Hid (w.heap.size ≤ b2) := by show _ ≤ _; rw [hbq2]; exact HSZ2.out
    have HBK2 : Hid (b2 = w5.heap.size) := hbq2
    have HTK2 : Hid (t2 = w6.heap.size) := htq2
    clear htq2
    have EC2_6 : Hid (CacheO (w6) b2 (.slice oC2 ca.s.cs.length pC2) (.slice oP2 ca.s.ws.length pP2) (.slice oK2 kv2.length pK2) (.slice oB2 ca.s.bl.length pB2) (.slice oF2 fv2.length pF2) (.slice oE2 ev2.length pE2) (.slice oR2 rv2.length pR2) kv2 fv2 ev2 rv2 ca) := by show CacheO _ _ _ _ _ _ _ _ _ _ _ _ _ _; rw [hbq2]; exact hco
    clear hco hbq2
    clear cv1_0 cv1_1 cv1_2 cv1_3 cv1_4 cv1_5 cv1_6 cv1_7 cv1_8 cv1_9
    go_upto_region 7 with fail
    obtain ⟨qv3, hqv3⟩ : ∃ q, q = (w6).heap.size := ⟨_, rfl⟩
    obtain ⟨w7, hW7⟩ : ∃ W, W = (w6).alloc (.cells #[(.slice oC2 ca.s.cs.length pC2), (.slice oP2 ca.s.ws.length pP2), (.slice oK2 kv2.length pK2), (.slice oB2 ca.s.bl.length pB2), .int .i64 ca.s.nx, .int .i64 ca.s.sq, (.slice oF2 fv2.length pF2), .int .i64 ca.now, (.slice oE2 ev2.length pE2), (.slice oR2 rv2.length pR2)] 52) := ⟨_, rfl⟩
    have hz7 : (w6).heap.size = qv3 := hqv3.symm
    first | rw [← hW7, ← hqv3] | rw [← hW7]
    have hs7 : w7.heap.size = qv3 + 1 := by rw [hW7, ← hz7]; simp
    have bw : Below (w6).heap.size (w6) w7 := by rw [hW7]; exact (Below.refl _ _).alloc (Nat.le_refl _) _
    have hb7 : Below w.heap.size w (w7) := hb6.trans (bw.mono hb6.size)
    have HM7 : Hid ((w6).heap.size ≤ (w7).heap.size) := bw.size
    have HOy1_7 : Hid ((w7).ownsRow w.heap.size 135 2 (.slice oy1 fs.length py1) fs.length (flatF fs)) := owns_below HOy1_6.out bw (fun g hg => owns_lt HOy1_6.out hg)
    have HBv1_7 : Hid ((w7).heap[qv1]? = some (.cells #[.slice a1 n1 c1, .slice a2 n2 c2, .slice a3 n3 c3, .slice a4 n4 c4, .int .i64 nx, .int .i64 sq, .slice a5 n5 c5, .int .i64 now, .slice a6 n6 c6, .slice a7 n7 c7] 34)) := blk_below HBv1_6.out bw
    have HBv2_7 : Hid ((w7).heap[qv2]? = some (.cells #[.int .i64 st, .slice oy1 fs.length py1, .string bd] 38)) := blk_below HBv2_6.out bw
    have EC1_7 : Hid (CacheO (w7) b1 (.slice oC1 ca.s.cs.length pC1) (.slice oP1 ca.s.ws.length pP1) (.slice oK1 kv1.length pK1) (.slice oB1 ca.s.bl.length pB1) (.slice oF1 fv1.length pF1) (.slice oE1 ev1.length pE1) (.slice oR1 rv1.length pR1) kv1 fv1 ev1 rv1 ca) := EC1_6.out.below bw
    have EC2_7 : Hid (CacheO (w7) b2 (.slice oC2 ca.s.cs.length pC2) (.slice oP2 ca.s.ws.length pP2) (.slice oK2 kv2.length pK2) (.slice oB2 ca.s.bl.length pB2) (.slice oF2 fv2.length pF2) (.slice oE2 ev2.length pE2) (.slice oR2 rv2.length pR2) kv2 fv2 ev2 rv2 ca) := EC2_6.out.below bw
    have HBv3_7 : Hid ((w7).heap[qv3]? = some (.cells #[(.slice oC2 ca.s.cs.length pC2), (.slice oP2 ca.s.ws.length pP2), (.slice oK2 kv2.length pK2), (.slice oB2 ca.s.bl.length pB2), .int .i64 ca.s.nx, .int .i64 ca.s.sq, (.slice oF2 fv2.length pF2), .int .i64 ca.now, (.slice oE2 ev2.length pE2), (.slice oR2 rv2.length pR2)] 52)) := by show _ = _; rw [hW7, ← hz7]; exact heap_alloc_new _ _
    clear hb6 HOy1_6 HBv1_6 HBv2_6 EC1_6 EC2_6 bw hW7 hz7
    clear hs7 hqv3
    have cv3_0 : (w7).cell? ⟨qv3, 0, none⟩ = some ((.slice oC2 ca.s.cs.length pC2)) := (cell_of HBv3_7.out 0).trans rfl
    have cv3_1 : (w7).cell? ⟨qv3, 1, none⟩ = some ((.slice oP2 ca.s.ws.length pP2)) := (cell_of HBv3_7.out 1).trans rfl
    have cv3_2 : (w7).cell? ⟨qv3, 2, none⟩ = some ((.slice oK2 kv2.length pK2)) := (cell_of HBv3_7.out 2).trans rfl
    have cv3_3 : (w7).cell? ⟨qv3, 3, none⟩ = some ((.slice oB2 ca.s.bl.length pB2)) := (cell_of HBv3_7.out 3).trans rfl
    have cv3_4 : (w7).cell? ⟨qv3, 4, none⟩ = some (.int .i64 ca.s.nx) := (cell_of HBv3_7.out 4).trans rfl
    have cv3_5 : (w7).cell? ⟨qv3, 5, none⟩ = some (.int .i64 ca.s.sq) := (cell_of HBv3_7.out 5).trans rfl
    have cv3_6 : (w7).cell? ⟨qv3, 6, none⟩ = some ((.slice oF2 fv2.length pF2)) := (cell_of HBv3_7.out 6).trans rfl
    have cv3_7 : (w7).cell? ⟨qv3, 7, none⟩ = some (.int .i64 ca.now) := (cell_of HBv3_7.out 7).trans rfl
    have cv3_8 : (w7).cell? ⟨qv3, 8, none⟩ = some ((.slice oE2 ev2.length pE2)) := (cell_of HBv3_7.out 8).trans rfl
    have cv3_9 : (w7).cell? ⟨qv3, 9, none⟩ = some ((.slice oR2 rv2.length pR2)) := (cell_of HBv3_7.out 9).trans rfl
    go_wp2_with fail
    refine (HIM.out _ hb7 _ _ _ _ _ _ _ _ _ _ _ _ EC2_7.out).mono ?_
    rintro e w8 ⟨oy2, py2, rfl, hown, bw⟩
    have hb8 : Below w.heap.size w (w8) := hb7.trans (bw.mono hb7.size)
    have HM8 : Hid ((w7).heap.size ≤ (w8).heap.size) := bw.size
    have HOy1_8 : Hid ((w8).ownsRow w.heap.size 135 2 (.slice oy1 fs.length py1) fs.length (flatF fs)) := owns_below HOy1_7.out bw (fun g hg => owns_lt HOy1_7.out hg)
    have HBv1_8 : Hid ((w8).heap[qv1]? = some (.cells #[.slice a1 n1 c1, .slice a2 n2 c2, .slice a3 n3 c3, .slice a4 n4 c4, .int .i64 nx, .int .i64 sq, .slice a5 n5 c5, .int .i64 now, .slice a6 n6 c6, .slice a7 n7 c7] 34)) := blk_below HBv1_7.out bw
    have HBv2_8 : Hid ((w8).heap[qv2]? = some (.cells #[.int .i64 st, .slice oy1 fs.length py1, .string bd] 38)) := blk_below HBv2_7.out bw
    have HBv3_8 : Hid ((w8).heap[qv3]? = some (.cells #[(.slice oC2 ca.s.cs.length pC2), (.slice oP2 ca.s.ws.length pP2), (.slice oK2 kv2.length pK2), (.slice oB2 ca.s.bl.length pB2), .int .i64 ca.s.nx, .int .i64 ca.s.sq, (.slice oF2 fv2.length pF2), .int .i64 ca.now, (.slice oE2 ev2.length pE2), (.slice oR2 rv2.length pR2)] 52)) := blk_below HBv3_7.out bw
    have EC1_8 : Hid (CacheO (w8) b1 (.slice oC1 ca.s.cs.length pC1) (.slice oP1 ca.s.ws.length pP1) (.slice oK1 kv1.length pK1) (.slice oB1 ca.s.bl.length pB1) (.slice oF1 fv1.length pF1) (.slice oE1 ev1.length pE1) (.slice oR1 rv1.length pR1) kv1 fv1 ev1 rv1 ca) := EC1_7.out.below bw
    have EC2_8 : Hid (CacheO (w8) b2 (.slice oC2 ca.s.cs.length pC2) (.slice oP2 ca.s.ws.length pP2) (.slice oK2 kv2.length pK2) (.slice oB2 ca.s.bl.length pB2) (.slice oF2 fv2.length pF2) (.slice oE2 ev2.length pE2) (.slice oR2 rv2.length pR2) kv2 fv2 ev2 rv2 ca) := EC2_7.out.below bw
    have HOy2_8 : Hid ((w8).ownsRow w.heap.size 135 2 (.slice oy2 fs.length py2) fs.length (flatF fs)) := owns_wide hown hb7.size
    have LOy2 : Hid (∀ g, (Value.ownBlock (.slice oy2 fs.length py2)) = some g → (w7).heap.size ≤ g) := fun g hg => owns_ge hown hg
    clear hown
    clear hb7 HOy1_7 HBv1_7 HBv2_7 HBv3_7 EC1_7 EC2_7 bw
    clear cv3_0 cv3_1 cv3_2 cv3_3 cv3_4 cv3_5 cv3_6 cv3_7 cv3_8 cv3_9
    go_upto_region 8 with fail
    obtain ⟨qv4, hqv4⟩ : ∃ q, q = (w8).heap.size := ⟨_, rfl⟩
    obtain ⟨w9, hW9⟩ : ∃ W, W = (w8).alloc (.cells #[.int .i64 st, .slice oy2 fs.length py2, .string bd] 38) := ⟨_, rfl⟩
    have hz9 : (w8).heap.size = qv4 := hqv4.symm
    first | rw [← hW9, ← hqv4] | rw [← hW9]
    have hs9 : w9.heap.size = qv4 + 1 := by rw [hW9, ← hz9]; simp
    have bw : Below (w8).heap.size (w8) w9 := by rw [hW9]; exact (Below.refl _ _).alloc (Nat.le_refl _) _
    have hb9 : Below w.heap.size w (w9) := hb8.trans (bw.mono hb8.size)
    have HM9 : Hid ((w8).heap.size ≤ (w9).heap.size) := bw.size
    have HOy1_9 : Hid ((w9).ownsRow w.heap.size 135 2 (.slice oy1 fs.length py1) fs.length (flatF fs)) := owns_below HOy1_8.out bw (fun g hg => owns_lt HOy1_8.out hg)
    have HOy2_9 : Hid ((w9).ownsRow w.heap.size 135 2 (.slice oy2 fs.length py2) fs.length (flatF fs)) := owns_below HOy2_8.out bw (fun g hg => owns_lt HOy2_8.out hg)
    have HBv1_9 : Hid ((w9).heap[qv1]? = some (.cells #[.slice a1 n1 c1, .slice a2 n2 c2, .slice a3 n3 c3, .slice a4 n4 c4, .int .i64 nx, .int .i64 sq, .slice a5 n5 c5, .int .i64 now, .slice a6 n6 c6, .slice a7 n7 c7] 34)) := blk_below HBv1_8.out bw
    have HBv2_9 : Hid ((w9).heap[qv2]? = some (.cells #[.int .i64 st, .slice oy1 fs.length py1, .string bd] 38)) := blk_below HBv2_8.out bw
    have HBv3_9 : Hid ((w9).heap[qv3]? = some (.cells #[(.slice oC2 ca.s.cs.length pC2), (.slice oP2 ca.s.ws.length pP2), (.slice oK2 kv2.length pK2), (.slice oB2 ca.s.bl.length pB2), .int .i64 ca.s.nx, .int .i64 ca.s.sq, (.slice oF2 fv2.length pF2), .int .i64 ca.now, (.slice oE2 ev2.length pE2), (.slice oR2 rv2.length pR2)] 52)) := blk_below HBv3_8.out bw
    have EC1_9 : Hid (CacheO (w9) b1 (.slice oC1 ca.s.cs.length pC1) (.slice oP1 ca.s.ws.length pP1) (.slice oK1 kv1.length pK1) (.slice oB1 ca.s.bl.length pB1) (.slice oF1 fv1.length pF1) (.slice oE1 ev1.length pE1) (.slice oR1 rv1.length pR1) kv1 fv1 ev1 rv1 ca) := EC1_8.out.below bw
    have EC2_9 : Hid (CacheO (w9) b2 (.slice oC2 ca.s.cs.length pC2) (.slice oP2 ca.s.ws.length pP2) (.slice oK2 kv2.length pK2) (.slice oB2 ca.s.bl.length pB2) (.slice oF2 fv2.length pF2) (.slice oE2 ev2.length pE2) (.slice oR2 rv2.length pR2) kv2 fv2 ev2 rv2 ca) := EC2_8.out.below bw
    have HBv4_9 : Hid ((w9).heap[qv4]? = some (.cells #[.int .i64 st, .slice oy2 fs.length py2, .string bd] 38)) := by show _ = _; rw [hW9, ← hz9]; exact heap_alloc_new _ _
    clear hb8 HOy1_8 HOy2_8 HBv1_8 HBv2_8 HBv3_8 EC1_8 EC2_8 bw hW9 hz9
    clear hs9 hqv4
    have cv2_0 : (w9).cell? ⟨qv2, 0, none⟩ = some (.int .i64 st) := (cell_of HBv2_9.out 0).trans rfl
    have cv2_1 : (w9).cell? ⟨qv2, 1, none⟩ = some (.slice oy1 fs.length py1) := (cell_of HBv2_9.out 1).trans rfl
    have cv2_2 : (w9).cell? ⟨qv2, 2, none⟩ = some (.string bd) := (cell_of HBv2_9.out 2).trans rfl
    have cv4_0 : (w9).cell? ⟨qv4, 0, none⟩ = some (.int .i64 st) := (cell_of HBv4_9.out 0).trans rfl
    have cv4_1 : (w9).cell? ⟨qv4, 1, none⟩ = some (.slice oy2 fs.length py2) := (cell_of HBv4_9.out 1).trans rfl
    have cv4_2 : (w9).cell? ⟨qv4, 2, none⟩ = some (.string bd) := (cell_of HBv4_9.out 2).trans rfl
    go_wp2_with fail
    refine (eqResp_any st _ _ bd fs.length _ _ fs _ (FieldsV.of_owns HOy2_9.out) (FieldsV.of_owns HOy1_9.out) (by omega)).mono ?_
    rintro e w10 ⟨rfl, bw⟩
    have hb10 : Below w.heap.size w (w10) := hb9.trans (bw.mono hb9.size)
    have HM10 : Hid ((w9).heap.size ≤ (w10).heap.size) := bw.size
    have HOy1_10 : Hid ((w10).ownsRow w.heap.size 135 2 (.slice oy1 fs.length py1) fs.length (flatF fs)) := owns_below HOy1_9.out bw (fun g hg => owns_lt HOy1_9.out hg)
    have HOy2_10 : Hid ((w10).ownsRow w.heap.size 135 2 (.slice oy2 fs.length py2) fs.length (flatF fs)) := owns_below HOy2_9.out bw (fun g hg => owns_lt HOy2_9.out hg)
    have HBv1_10 : Hid ((w10).heap[qv1]? = some (.cells #[.slice a1 n1 c1, .slice a2 n2 c2, .slice a3 n3 c3, .slice a4 n4 c4, .int .i64 nx, .int .i64 sq, .slice a5 n5 c5, .int .i64 now, .slice a6 n6 c6, .slice a7 n7 c7] 34)) := blk_below HBv1_9.out bw
    have HBv2_10 : Hid ((w10).heap[qv2]? = some (.cells #[.int .i64 st, .slice oy1 fs.length py1, .string bd] 38)) := blk_below HBv2_9.out bw
    have HBv3_10 : Hid ((w10).heap[qv3]? = some (.cells #[(.slice oC2 ca.s.cs.length pC2), (.slice oP2 ca.s.ws.length pP2), (.slice oK2 kv2.length pK2), (.slice oB2 ca.s.bl.length pB2), .int .i64 ca.s.nx, .int .i64 ca.s.sq, (.slice oF2 fv2.length pF2), .int .i64 ca.now, (.slice oE2 ev2.length pE2), (.slice oR2 rv2.length pR2)] 52)) := blk_below HBv3_9.out bw
    have HBv4_10 : Hid ((w10).heap[qv4]? = some (.cells #[.int .i64 st, .slice oy2 fs.length py2, .string bd] 38)) := blk_below HBv4_9.out bw
    have EC1_10 : Hid (CacheO (w10) b1 (.slice oC1 ca.s.cs.length pC1) (.slice oP1 ca.s.ws.length pP1) (.slice oK1 kv1.length pK1) (.slice oB1 ca.s.bl.length pB1) (.slice oF1 fv1.length pF1) (.slice oE1 ev1.length pE1) (.slice oR1 rv1.length pR1) kv1 fv1 ev1 rv1 ca) := EC1_9.out.below bw
    have EC2_10 : Hid (CacheO (w10) b2 (.slice oC2 ca.s.cs.length pC2) (.slice oP2 ca.s.ws.length pP2) (.slice oK2 kv2.length pK2) (.slice oB2 ca.s.bl.length pB2) (.slice oF2 fv2.length pF2) (.slice oE2 ev2.length pE2) (.slice oR2 rv2.length pR2) kv2 fv2 ev2 rv2 ca) := EC2_9.out.below bw
    clear hb9 HOy1_9 HOy2_9 HBv1_9 HBv2_9 HBv3_9 HBv4_9 EC1_9 EC2_9 bw
    clear cv2_0 cv2_1 cv2_2 cv4_0 cv4_1 cv4_2
    go_upto_region 10 with fail
    refine wp_region_held_drew (S := fun W => W.heap[qv3]? = some (.cells #[(.slice oC2 ca.s.cs.length pC2), (.slice oP2 ca.s.ws.length pP2), (.slice oK2 kv2.length pK2), (.slice oB2 ca.s.bl.length pB2), .int .i64 ca.s.nx, .int .i64 ca.s.sq, (.slice oF2 fv2.length pF2), .int .i64 ca.now, (.slice oE2 ev2.length pE2), (.slice oR2 rv2.length pR2)] 52) ∧ W.heap[qv1]? = some (.cells #[.slice a1 n1 c1, .slice a2 n2 c2, .slice a3 n3 c3, .slice a4 n4 c4, .int .i64 nx, .int .i64 sq, .slice a5 n5 c5, .int .i64 now, .slice a6 n6 c6, .slice a7 n7 c7] 34)) (by kernel_rfl) ⟨HBv3_10.out, HBv1_10.out⟩ (fun _ => ?_)
    obtain ⟨w11, hX⟩ : ∃ X, X = w10.drew := ⟨_, rfl⟩
    have bw : Below w10.heap.size w10 w11 := by rw [hX]; exact (Below.refl _ _).drew
    rw [← hX]
    have hb11 : Below w.heap.size w (w11) := hb10.trans (bw.mono hb10.size)
    have HM11 : Hid ((w10).heap.size ≤ (w11).heap.size) := bw.size
    have HOy1_11 : Hid ((w11).ownsRow w.heap.size 135 2 (.slice oy1 fs.length py1) fs.length (flatF fs)) := owns_below HOy1_10.out bw (fun g hg => owns_lt HOy1_10.out hg)
    have HOy2_11 : Hid ((w11).ownsRow w.heap.size 135 2 (.slice oy2 fs.length py2) fs.length (flatF fs)) := owns_below HOy2_10.out bw (fun g hg => owns_lt HOy2_10.out hg)
    have HBv1_11 : Hid ((w11).heap[qv1]? = some (.cells #[.slice a1 n1 c1, .slice a2 n2 c2, .slice a3 n3 c3, .slice a4 n4 c4, .int .i64 nx, .int .i64 sq, .slice a5 n5 c5, .int .i64 now, .slice a6 n6 c6, .slice a7 n7 c7] 34)) := blk_below HBv1_10.out bw
    have HBv2_11 : Hid ((w11).heap[qv2]? = some (.cells #[.int .i64 st, .slice oy1 fs.length py1, .string bd] 38)) := blk_below HBv2_10.out bw
    have HBv3_11 : Hid ((w11).heap[qv3]? = some (.cells #[(.slice oC2 ca.s.cs.length pC2), (.slice oP2 ca.s.ws.length pP2), (.slice oK2 kv2.length pK2), (.slice oB2 ca.s.bl.length pB2), .int .i64 ca.s.nx, .int .i64 ca.s.sq, (.slice oF2 fv2.length pF2), .int .i64 ca.now, (.slice oE2 ev2.length pE2), (.slice oR2 rv2.length pR2)] 52)) := blk_below HBv3_10.out bw
    have HBv4_11 : Hid ((w11).heap[qv4]? = some (.cells #[.int .i64 st, .slice oy2 fs.length py2, .string bd] 38)) := blk_below HBv4_10.out bw
    have EC1_11 : Hid (CacheO (w11) b1 (.slice oC1 ca.s.cs.length pC1) (.slice oP1 ca.s.ws.length pP1) (.slice oK1 kv1.length pK1) (.slice oB1 ca.s.bl.length pB1) (.slice oF1 fv1.length pF1) (.slice oE1 ev1.length pE1) (.slice oR1 rv1.length pR1) kv1 fv1 ev1 rv1 ca) := EC1_10.out.below bw
    have EC2_11 : Hid (CacheO (w11) b2 (.slice oC2 ca.s.cs.length pC2) (.slice oP2 ca.s.ws.length pP2) (.slice oK2 kv2.length pK2) (.slice oB2 ca.s.bl.length pB2) (.slice oF2 fv2.length pF2) (.slice oE2 ev2.length pE2) (.slice oR2 rv2.length pR2) kv2 fv2 ev2 rv2 ca) := EC2_10.out.below bw
    have hS11 : w11.heap[qv3]? = some (.cells #[(.slice oC2 ca.s.cs.length pC2), (.slice oP2 ca.s.ws.length pP2), (.slice oK2 kv2.length pK2), (.slice oB2 ca.s.bl.length pB2), .int .i64 ca.s.nx, .int .i64 ca.s.sq, (.slice oF2 fv2.length pF2), .int .i64 ca.now, (.slice oE2 ev2.length pE2), (.slice oR2 rv2.length pR2)] 52) ∧ w11.heap[qv1]? = some (.cells #[.slice a1 n1 c1, .slice a2 n2 c2, .slice a3 n3 c3, .slice a4 n4 c4, .int .i64 nx, .int .i64 sq, .slice a5 n5 c5, .int .i64 now, .slice a6 n6 c6, .slice a7 n7 c7] 34) := ⟨HBv3_11.out, HBv1_11.out⟩
    clear hb10 HOy1_10 HOy2_10 HBv1_10 HBv2_10 HBv3_10 HBv4_10 EC1_10 EC2_10 bw hX
    refine wpAnyH_takeD (i := 0) (v := .agg #[(.slice oC2 ca.s.cs.length pC2), (.slice oP2 ca.s.ws.length pP2), (.slice oK2 kv2.length pK2), (.slice oB2 ca.s.bl.length pB2), .int .i64 ca.s.nx, .int .i64 ca.s.sq, (.slice oF2 fv2.length pF2), .int .i64 ca.now, (.slice oE2 ev2.length pE2), (.slice oR2 rv2.length pR2)]) (some 45) rfl rfl (by kernel_rfl) (by kernel_rfl) (by kernel_rfl) (fun _ _ _ h => h) (Or.inl ⟨by rfl, by intro W hW; obtain ⟨hhv3, hhv1⟩ := hW; have y0 := (cell_of hhv3 0).trans rfl; have y1 := (cell_of hhv3 1).trans rfl; have y2 := (cell_of hhv3 2).trans rfl; have y3 := (cell_of hhv3 3).trans rfl; have y4 := (cell_of hhv3 4).trans rfl; have y5 := (cell_of hhv3 5).trans rfl; have y6 := (cell_of hhv3 6).trans rfl; have y7 := (cell_of hhv3 7).trans rfl; have y8 := (cell_of hhv3 8).trans rfl; have y9 := (cell_of hhv3 9).trans rfl; go_simp⟩) hS11 ?_
    simp only [Act.put, List.setIfInBounds_toArray, List.set_cons_zero, List.set_cons_succ]
    refine wpAnyH_takeD (i := 1) (v := .agg #[.slice a1 n1 c1, .slice a2 n2 c2, .slice a3 n3 c3, .slice a4 n4 c4, .int .i64 nx, .int .i64 sq, .slice a5 n5 c5, .int .i64 now, .slice a6 n6 c6, .slice a7 n7 c7]) (some 46) rfl rfl (by kernel_rfl) (by kernel_rfl) (by kernel_rfl) (fun _ _ _ h => h) (Or.inl ⟨by rfl, by intro W hW; obtain ⟨hhv3, hhv1⟩ := hW; have y0 := (cell_of hhv1 0).trans rfl; have y1 := (cell_of hhv1 1).trans rfl; have y2 := (cell_of hhv1 2).trans rfl; have y3 := (cell_of hhv1 3).trans rfl; have y4 := (cell_of hhv1 4).trans rfl; have y5 := (cell_of hhv1 5).trans rfl; have y6 := (cell_of hhv1 6).trans rfl; have y7 := (cell_of hhv1 7).trans rfl; have y8 := (cell_of hhv1 8).trans rfl; have y9 := (cell_of hhv1 9).trans rfl; go_simp⟩) hS11 ?_
    simp only [Act.put, List.setIfInBounds_toArray, List.set_cons_zero, List.set_cons_succ]
    refine wpAnyH_ready (rs := [2]) (by kernel_rfl) (by simp) ?_
    refine AllReadyH.cons rfl (fun K hK => ?_) AllReadyH.nil
    go_simp
    refine (HTO.out _ hb11).mono ?_
    rintro e w12 ⟨va, vb, vc, vd, vf, ve, vr, kv3, fv3, ev3, rv3, rfl, hco, bw⟩
    obtain ⟨oC3, pC3, rfl⟩ := slice_of_owns hco.shelf.disk.cells
    obtain ⟨oP3, pP3, rfl⟩ := slice_of_owns hco.shelf.disk.pend
    obtain ⟨oK3, pK3, rfl⟩ := hco.shelf.kept.len
    obtain ⟨oB3, pB3, rfl⟩ := slice_of_owns hco.shelf.bans
    obtain ⟨oF3, pF3, rfl⟩ := hco.fls.len
    obtain ⟨oE3, pE3, rfl⟩ := hco.ses.len
    obtain ⟨oR3, pR3, rfl⟩ := hco.rps.len
    obtain ⟨b3, hbq3⟩ : ∃ b, b = (w11).heap.size := ⟨_, rfl⟩
    obtain ⟨t3, htq3⟩ : ∃ t, t = (w12).heap.size := ⟨_, rfl⟩
    have HSZ3 : Hid (w.heap.size ≤ (w11).heap.size) := hb11.size
    have hb12 : Below w.heap.size w (w12) := hb11.trans (bw.mono hb11.size)
    have HM12 : Hid ((w11).heap.size ≤ (w12).heap.size) := bw.size
    have HOy1_12 : Hid ((w12).ownsRow w.heap.size 135 2 (.slice oy1 fs.length py1) fs.length (flatF fs)) := owns_below HOy1_11.out bw (fun g hg => owns_lt HOy1_11.out hg)
    have HOy2_12 : Hid ((w12).ownsRow w.heap.size 135 2 (.slice oy2 fs.length py2) fs.length (flatF fs)) := owns_below HOy2_11.out bw (fun g hg => owns_lt HOy2_11.out hg)
    have HBv1_12 : Hid ((w12).heap[qv1]? = some (.cells #[.slice a1 n1 c1, .slice a2 n2 c2, .slice a3 n3 c3, .slice a4 n4 c4, .int .i64 nx, .int .i64 sq, .slice a5 n5 c5, .int .i64 now, .slice a6 n6 c6, .slice a7 n7 c7] 34)) := blk_below HBv1_11.out bw
    have HBv2_12 : Hid ((w12).heap[qv2]? = some (.cells #[.int .i64 st, .slice oy1 fs.length py1, .string bd] 38)) := blk_below HBv2_11.out bw
    have HBv3_12 : Hid ((w12).heap[qv3]? = some (.cells #[(.slice oC2 ca.s.cs.length pC2), (.slice oP2 ca.s.ws.length pP2), (.slice oK2 kv2.length pK2), (.slice oB2 ca.s.bl.length pB2), .int .i64 ca.s.nx, .int .i64 ca.s.sq, (.slice oF2 fv2.length pF2), .int .i64 ca.now, (.slice oE2 ev2.length pE2), (.slice oR2 rv2.length pR2)] 52)) := blk_below HBv3_11.out bw
    have HBv4_12 : Hid ((w12).heap[qv4]? = some (.cells #[.int .i64 st, .slice oy2 fs.length py2, .string bd] 38)) := blk_below HBv4_11.out bw
    have EC1_12 : Hid (CacheO (w12) b1 (.slice oC1 ca.s.cs.length pC1) (.slice oP1 ca.s.ws.length pP1) (.slice oK1 kv1.length pK1) (.slice oB1 ca.s.bl.length pB1) (.slice oF1 fv1.length pF1) (.slice oE1 ev1.length pE1) (.slice oR1 rv1.length pR1) kv1 fv1 ev1 rv1 ca) := EC1_11.out.below bw
    have EC2_12 : Hid (CacheO (w12) b2 (.slice oC2 ca.s.cs.length pC2) (.slice oP2 ca.s.ws.length pP2) (.slice oK2 kv2.length pK2) (.slice oB2 ca.s.bl.length pB2) (.slice oF2 fv2.length pF2) (.slice oE2 ev2.length pE2) (.slice oR2 rv2.length pR2) kv2 fv2 ev2 rv2 ca) := EC2_11.out.below bw
    clear hb11 HOy1_11 HOy2_11 HBv1_11 HBv2_11 HBv3_11 HBv4_11 EC1_11 EC2_11 bw
    have HUC3 : Hid (∀ r ∈ caAll (.slice oC3 ca.s.cs.length pC3) (.slice oP3 ca.s.ws.length pP3) (.slice oK3 kv3.length pK3) (.slice oB3 ca.s.bl.length pB3) (.slice oF3 fv3.length pF3) (.slice oE3 ev3.length pE3) (.slice oR3 rv3.length pR3) kv3 fv3 ev3 rv3 ca.s.cs ca.s.ws ca.s.bl, ∀ g, r.v.ownBlock = some g → b3 ≤ g ∧ g < t3) := fun r hr g hg => by rw [hbq3, htq3]; exact ⟨owns_ge (hco.rows.own r hr) hg, hco.rows.lt hr hg⟩
    have HBW3 : Hid (w.heap.size ≤ b3) := by show _ ≤ _; rw [hbq3]; exact HSZ3.out
    have HBK3 : Hid (b3 = w11.heap.size) := hbq3
    have HTK3 : Hid (t3 = w12.heap.size) := htq3
    clear htq3
    have EC3_12 : Hid (CacheO (w12) b3 (.slice oC3 ca.s.cs.length pC3) (.slice oP3 ca.s.ws.length pP3) (.slice oK3 kv3.length pK3) (.slice oB3 ca.s.bl.length pB3) (.slice oF3 fv3.length pF3) (.slice oE3 ev3.length pE3) (.slice oR3 rv3.length pR3) kv3 fv3 ev3 rv3 ca) := by show CacheO _ _ _ _ _ _ _ _ _ _ _ _ _ _; rw [hbq3]; exact hco
    clear hco hbq3
    have hS12 : w12.heap[qv3]? = some (.cells #[(.slice oC2 ca.s.cs.length pC2), (.slice oP2 ca.s.ws.length pP2), (.slice oK2 kv2.length pK2), (.slice oB2 ca.s.bl.length pB2), .int .i64 ca.s.nx, .int .i64 ca.s.sq, (.slice oF2 fv2.length pF2), .int .i64 ca.now, (.slice oE2 ev2.length pE2), (.slice oR2 rv2.length pR2)] 52) ∧ w12.heap[qv1]? = some (.cells #[.slice a1 n1 c1, .slice a2 n2 c2, .slice a3 n3 c3, .slice a4 n4 c4, .int .i64 nx, .int .i64 sq, .slice a5 n5 c5, .int .i64 now, .slice a6 n6 c6, .slice a7 n7 c7] 34) := ⟨HBv3_12.out, HBv1_12.out⟩
    refine hK.out _ _ hS12 (fun _ => ?_)
    clear hK K hS11
    refine wpAnyH_ready (rs := [3]) (by kernel_rfl) (by simp) ?_
    refine AllReadyH.cons rfl (fun K hK => ?_) AllReadyH.nil
    go_simp
    refine (eqCache_any ca _ _ _ _ _ _ _ _ _ _ _ _ _ _ _ _ _ _ _ _ _ _ _ _ _ EC2_12.out EC3_12.out HLIM.out).mono ?_
    rintro e w13 ⟨rfl, bw⟩
    have hb13 : Below w.heap.size w (w13) := hb12.trans (bw.mono hb12.size)
    have HM13 : Hid ((w12).heap.size ≤ (w13).heap.size) := bw.size
    have HOy1_13 : Hid ((w13).ownsRow w.heap.size 135 2 (.slice oy1 fs.length py1) fs.length (flatF fs)) := owns_below HOy1_12.out bw (fun g hg => owns_lt HOy1_12.out hg)
    have HOy2_13 : Hid ((w13).ownsRow w.heap.size 135 2 (.slice oy2 fs.length py2) fs.length (flatF fs)) := owns_below HOy2_12.out bw (fun g hg => owns_lt HOy2_12.out hg)
    have HBv1_13 : Hid ((w13).heap[qv1]? = some (.cells #[.slice a1 n1 c1, .slice a2 n2 c2, .slice a3 n3 c3, .slice a4 n4 c4, .int .i64 nx, .int .i64 sq, .slice a5 n5 c5, .int .i64 now, .slice a6 n6 c6, .slice a7 n7 c7] 34)) := blk_below HBv1_12.out bw
    have HBv2_13 : Hid ((w13).heap[qv2]? = some (.cells #[.int .i64 st, .slice oy1 fs.length py1, .string bd] 38)) := blk_below HBv2_12.out bw
    have HBv3_13 : Hid ((w13).heap[qv3]? = some (.cells #[(.slice oC2 ca.s.cs.length pC2), (.slice oP2 ca.s.ws.length pP2), (.slice oK2 kv2.length pK2), (.slice oB2 ca.s.bl.length pB2), .int .i64 ca.s.nx, .int .i64 ca.s.sq, (.slice oF2 fv2.length pF2), .int .i64 ca.now, (.slice oE2 ev2.length pE2), (.slice oR2 rv2.length pR2)] 52)) := blk_below HBv3_12.out bw
    have HBv4_13 : Hid ((w13).heap[qv4]? = some (.cells #[.int .i64 st, .slice oy2 fs.length py2, .string bd] 38)) := blk_below HBv4_12.out bw
    have EC1_13 : Hid (CacheO (w13) b1 (.slice oC1 ca.s.cs.length pC1) (.slice oP1 ca.s.ws.length pP1) (.slice oK1 kv1.length pK1) (.slice oB1 ca.s.bl.length pB1) (.slice oF1 fv1.length pF1) (.slice oE1 ev1.length pE1) (.slice oR1 rv1.length pR1) kv1 fv1 ev1 rv1 ca) := EC1_12.out.below bw
    have EC2_13 : Hid (CacheO (w13) b2 (.slice oC2 ca.s.cs.length pC2) (.slice oP2 ca.s.ws.length pP2) (.slice oK2 kv2.length pK2) (.slice oB2 ca.s.bl.length pB2) (.slice oF2 fv2.length pF2) (.slice oE2 ev2.length pE2) (.slice oR2 rv2.length pR2) kv2 fv2 ev2 rv2 ca) := EC2_12.out.below bw
    have EC3_13 : Hid (CacheO (w13) b3 (.slice oC3 ca.s.cs.length pC3) (.slice oP3 ca.s.ws.length pP3) (.slice oK3 kv3.length pK3) (.slice oB3 ca.s.bl.length pB3) (.slice oF3 fv3.length pF3) (.slice oE3 ev3.length pE3) (.slice oR3 rv3.length pR3) kv3 fv3 ev3 rv3 ca) := EC3_12.out.below bw
    clear hb12 HOy1_12 HOy2_12 HBv1_12 HBv2_12 HBv3_12 HBv4_12 EC1_12 EC2_12 EC3_12 bw
    have hS13 : w13.heap[qv3]? = some (.cells #[(.slice oC2 ca.s.cs.length pC2), (.slice oP2 ca.s.ws.length pP2), (.slice oK2 kv2.length pK2), (.slice oB2 ca.s.bl.length pB2), .int .i64 ca.s.nx, .int .i64 ca.s.sq, (.slice oF2 fv2.length pF2), .int .i64 ca.now, (.slice oE2 ev2.length pE2), (.slice oR2 rv2.length pR2)] 52) ∧ w13.heap[qv1]? = some (.cells #[.slice a1 n1 c1, .slice a2 n2 c2, .slice a3 n3 c3, .slice a4 n4 c4, .int .i64 nx, .int .i64 sq, .slice a5 n5 c5, .int .i64 now, .slice a6 n6 c6, .slice a7 n7 c7] 34) := ⟨HBv3_13.out, HBv1_13.out⟩
    refine hK.out _ _ hS13 (fun _ => ?_)
    clear hK K hS12
    refine wpAnyH_takeD (i := 4) (v := .bool false) (some 49) rfl rfl (by kernel_rfl) (by kernel_rfl) (by kernel_rfl) (fun _ _ _ h => h) (Or.inl ⟨by rfl, by intro W _; go_simp⟩) hS13 ?_
    simp only [Act.put, List.setIfInBounds_toArray, List.set_cons_zero, List.set_cons_succ]
    clear hS13
    refine wpAnyH_done (by kernel_rfl) ?_ _
    have cv3_0 : (w13).cell? ⟨qv3, 0, none⟩ = some ((.slice oC2 ca.s.cs.length pC2)) := (cell_of HBv3_13.out 0).trans rfl
    have cv3_1 : (w13).cell? ⟨qv3, 1, none⟩ = some ((.slice oP2 ca.s.ws.length pP2)) := (cell_of HBv3_13.out 1).trans rfl
    have cv3_2 : (w13).cell? ⟨qv3, 2, none⟩ = some ((.slice oK2 kv2.length pK2)) := (cell_of HBv3_13.out 2).trans rfl
    have cv3_3 : (w13).cell? ⟨qv3, 3, none⟩ = some ((.slice oB2 ca.s.bl.length pB2)) := (cell_of HBv3_13.out 3).trans rfl
    have cv3_4 : (w13).cell? ⟨qv3, 4, none⟩ = some (.int .i64 ca.s.nx) := (cell_of HBv3_13.out 4).trans rfl
    have cv3_5 : (w13).cell? ⟨qv3, 5, none⟩ = some (.int .i64 ca.s.sq) := (cell_of HBv3_13.out 5).trans rfl
    have cv3_6 : (w13).cell? ⟨qv3, 6, none⟩ = some ((.slice oF2 fv2.length pF2)) := (cell_of HBv3_13.out 6).trans rfl
    have cv3_7 : (w13).cell? ⟨qv3, 7, none⟩ = some (.int .i64 ca.now) := (cell_of HBv3_13.out 7).trans rfl
    have cv3_8 : (w13).cell? ⟨qv3, 8, none⟩ = some ((.slice oE2 ev2.length pE2)) := (cell_of HBv3_13.out 8).trans rfl
    have cv3_9 : (w13).cell? ⟨qv3, 9, none⟩ = some ((.slice oR2 rv2.length pR2)) := (cell_of HBv3_13.out 9).trans rfl
    go_wp2_with fail
    refine (markCache_far _ _ _ _ _ _ _ _ _ _ _ ca b2 _ EC2_13.out (by rw [HBK2.out]; have := HM6.out; have := HM7.out; have := HM8.out; have := HM9.out; have := HM10.out; have := HM11.out; have := HM12.out; have := HM13.out; omega) HMK.out).mono ?_
    rintro e w14 ⟨Kc, rfl, bm, far⟩
    have hb14 : Below w.heap.size w (w14) := hb13.trans (bm.mono HBW2.out)
    have HOy1_14 : Hid ((w14).ownsRow w.heap.size 135 2 (.slice oy1 fs.length py1) fs.length (flatF fs)) := owns_same HOy1_13.out (fun g hg => far g (owns_lt HOy1_13.out hg) (fun r hr e => by have h1 := HIy1.out g hg; have h2 := (HUC2.out r hr g e).1; have h3 := HBK2.out; have := HM5.out; omega))
    have HOy2_14 : Hid ((w14).ownsRow w.heap.size 135 2 (.slice oy2 fs.length py2) fs.length (flatF fs)) := owns_same HOy2_13.out (fun g hg => far g (owns_lt HOy2_13.out hg) (fun r hr e => by have h1 := LOy2.out g hg; have h2 := (HUC2.out r hr g e).2; have h3 := HTK2.out; have := HM7.out; omega))
    have HBv1_14 : Hid ((w14).heap[qv1]? = some (.cells #[.slice a1 n1 c1, .slice a2 n2 c2, .slice a3 n3 c3, .slice a4 n4 c4, .int .i64 nx, .int .i64 sq, .slice a5 n5 c5, .int .i64 now, .slice a6 n6 c6, .slice a7 n7 c7] 34)) := (far _ (Array.getElem?_eq_some_iff.1 HBv1_13.out).1 (fun r hr => own_noR (EC2_13.out.rows.own r hr) (caAll_noC 34 ⟨by decide, by decide, by decide, by decide, by decide, by decide, by decide, by decide, by decide⟩ r hr) HBv1_13.out)).trans HBv1_13.out
    have HBv2_14 : Hid ((w14).heap[qv2]? = some (.cells #[.int .i64 st, .slice oy1 fs.length py1, .string bd] 38)) := (far _ (Array.getElem?_eq_some_iff.1 HBv2_13.out).1 (fun r hr => own_noR (EC2_13.out.rows.own r hr) (caAll_noC 38 ⟨by decide, by decide, by decide, by decide, by decide, by decide, by decide, by decide, by decide⟩ r hr) HBv2_13.out)).trans HBv2_13.out
    have HBv3_14 : Hid ((w14).heap[qv3]? = some (.cells #[(.slice oC2 ca.s.cs.length pC2), (.slice oP2 ca.s.ws.length pP2), (.slice oK2 kv2.length pK2), (.slice oB2 ca.s.bl.length pB2), .int .i64 ca.s.nx, .int .i64 ca.s.sq, (.slice oF2 fv2.length pF2), .int .i64 ca.now, (.slice oE2 ev2.length pE2), (.slice oR2 rv2.length pR2)] 52)) := (far _ (Array.getElem?_eq_some_iff.1 HBv3_13.out).1 (fun r hr => own_noR (EC2_13.out.rows.own r hr) (caAll_noC 52 ⟨by decide, by decide, by decide, by decide, by decide, by decide, by decide, by decide, by decide⟩ r hr) HBv3_13.out)).trans HBv3_13.out
    have HBv4_14 : Hid ((w14).heap[qv4]? = some (.cells #[.int .i64 st, .slice oy2 fs.length py2, .string bd] 38)) := (far _ (Array.getElem?_eq_some_iff.1 HBv4_13.out).1 (fun r hr => own_noR (EC2_13.out.rows.own r hr) (caAll_noC 38 ⟨by decide, by decide, by decide, by decide, by decide, by decide, by decide, by decide, by decide⟩ r hr) HBv4_13.out)).trans HBv4_13.out
    clear hb13 HOy1_13 HOy2_13 HBv1_13 HBv2_13 HBv3_13 HBv4_13 EC1_13 EC2_13 EC3_13 bm far
    have hKc : ¬ (Kc : Int) < 0 := by omega
    clear cv3_0 cv3_1 cv3_2 cv3_3 cv3_4 cv3_5 cv3_6 cv3_7 cv3_8 cv3_9
    have cv2_0 : (w14).cell? ⟨qv2, 0, none⟩ = some (.int .i64 st) := (cell_of HBv2_14.out 0).trans rfl
    have cv2_1 : (w14).cell? ⟨qv2, 1, none⟩ = some (.slice oy1 fs.length py1) := (cell_of HBv2_14.out 1).trans rfl
    have cv2_2 : (w14).cell? ⟨qv2, 2, none⟩ = some (.string bd) := (cell_of HBv2_14.out 2).trans rfl
    have cv4_0 : (w14).cell? ⟨qv4, 0, none⟩ = some (.int .i64 st) := (cell_of HBv4_14.out 0).trans rfl
    have cv4_1 : (w14).cell? ⟨qv4, 1, none⟩ = some (.slice oy2 fs.length py2) := (cell_of HBv4_14.out 1).trans rfl
    have cv4_2 : (w14).cell? ⟨qv4, 2, none⟩ = some (.string bd) := (cell_of HBv4_14.out 2).trans rfl
    go_wp2_with fail
    refine (eqResp_any st _ _ bd fs.length _ _ fs _ (FieldsV.of_owns HOy2_14.out) (FieldsV.of_owns HOy1_14.out) (by omega)).mono ?_
    rintro e w15 ⟨rfl, bw⟩
    have hb15 : Below w.heap.size w (w15) := hb14.trans (bw.mono hb14.size)
    have HOy1_15 : Hid ((w15).ownsRow w.heap.size 135 2 (.slice oy1 fs.length py1) fs.length (flatF fs)) := owns_below HOy1_14.out bw (fun g hg => owns_lt HOy1_14.out hg)
    have HOy2_15 : Hid ((w15).ownsRow w.heap.size 135 2 (.slice oy2 fs.length py2) fs.length (flatF fs)) := owns_below HOy2_14.out bw (fun g hg => owns_lt HOy2_14.out hg)
    have HBv1_15 : Hid ((w15).heap[qv1]? = some (.cells #[.slice a1 n1 c1, .slice a2 n2 c2, .slice a3 n3 c3, .slice a4 n4 c4, .int .i64 nx, .int .i64 sq, .slice a5 n5 c5, .int .i64 now, .slice a6 n6 c6, .slice a7 n7 c7] 34)) := blk_below HBv1_14.out bw
    have HBv2_15 : Hid ((w15).heap[qv2]? = some (.cells #[.int .i64 st, .slice oy1 fs.length py1, .string bd] 38)) := blk_below HBv2_14.out bw
    have HBv3_15 : Hid ((w15).heap[qv3]? = some (.cells #[(.slice oC2 ca.s.cs.length pC2), (.slice oP2 ca.s.ws.length pP2), (.slice oK2 kv2.length pK2), (.slice oB2 ca.s.bl.length pB2), .int .i64 ca.s.nx, .int .i64 ca.s.sq, (.slice oF2 fv2.length pF2), .int .i64 ca.now, (.slice oE2 ev2.length pE2), (.slice oR2 rv2.length pR2)] 52)) := blk_below HBv3_14.out bw
    have HBv4_15 : Hid ((w15).heap[qv4]? = some (.cells #[.int .i64 st, .slice oy2 fs.length py2, .string bd] 38)) := blk_below HBv4_14.out bw
    clear hb14 HOy1_14 HOy2_14 HBv1_14 HBv2_14 HBv3_14 HBv4_14 bw
    clear cv2_0 cv2_1 cv2_2 cv4_0 cv4_1 cv4_2
    have cv4_0 : (w15).cell? ⟨qv4, 0, none⟩ = some (.int .i64 st) := (cell_of HBv4_15.out 0).trans rfl
    have cv4_1 : (w15).cell? ⟨qv4, 1, none⟩ = some (.slice oy2 fs.length py2) := (cell_of HBv4_15.out 1).trans rfl
    have cv4_2 : (w15).cell? ⟨qv4, 2, none⟩ = some (.string bd) := (cell_of HBv4_15.out 2).trans rfl
    go_wp2_with fail
    refine (markRespFrom_any st _ bd fs.length _ fs _ HOy2_15.out hb15.size 1 (by omega) (by omega)).mono ?_
    rintro e w16 ⟨rfl, mk, bm, far⟩
    have hb16 : Below w.heap.size w w16 := hb15.trans bm
    have HOy1_16 : Hid ((w16).ownsRow w.heap.size 135 2 (.slice oy1 fs.length py1) fs.length (flatF fs)) := owns_same HOy1_15.out (fun g hg => far g (owns_lt HOy1_15.out hg) (fun e => by have h1 := LOy2.out g e; have h2 := HIy1.out g hg; have := HM5.out; have := HM6.out; have := HM7.out; have := HM8.out; omega))
    have HBv1_16 : Hid ((w16).heap[qv1]? = some (.cells #[.slice a1 n1 c1, .slice a2 n2 c2, .slice a3 n3 c3, .slice a4 n4 c4, .int .i64 nx, .int .i64 sq, .slice a5 n5 c5, .int .i64 now, .slice a6 n6 c6, .slice a7 n7 c7] 34)) := blk_far HBv1_15.out far HOy2_15.out (by decide)
    have HBv2_16 : Hid ((w16).heap[qv2]? = some (.cells #[.int .i64 st, .slice oy1 fs.length py1, .string bd] 38)) := blk_far HBv2_15.out far HOy2_15.out (by decide)
    have HBv3_16 : Hid ((w16).heap[qv3]? = some (.cells #[(.slice oC2 ca.s.cs.length pC2), (.slice oP2 ca.s.ws.length pP2), (.slice oK2 kv2.length pK2), (.slice oB2 ca.s.bl.length pB2), .int .i64 ca.s.nx, .int .i64 ca.s.sq, (.slice oF2 fv2.length pF2), .int .i64 ca.now, (.slice oE2 ev2.length pE2), (.slice oR2 rv2.length pR2)] 52)) := blk_far HBv3_15.out far HOy2_15.out (by decide)
    have HBv4_16 : Hid ((w16).heap[qv4]? = some (.cells #[.int .i64 st, .slice oy2 fs.length py2, .string bd] 38)) := blk_far HBv4_15.out far HOy2_15.out (by decide)
    have HOy2_16 : Hid ((w16).ownsRow w.heap.size 135 2 (.slice oy2 fs.length py2) fs.length (flatF (mkG 1 fs fs.length))) := mk
    clear hb15 HOy1_15 HOy2_15 HBv1_15 HBv2_15 HBv3_15 HBv4_15 mk bm far
    clear cv4_0 cv4_1 cv4_2
    have cv4_0 : (w16).cell? ⟨qv4, 0, none⟩ = some (.int .i64 st) := (cell_of HBv4_16.out 0).trans rfl
    have cv4_1 : (w16).cell? ⟨qv4, 1, none⟩ = some (.slice oy2 fs.length py2) := (cell_of HBv4_16.out 1).trans rfl
    have cv4_2 : (w16).cell? ⟨qv4, 2, none⟩ = some (.string bd) := (cell_of HBv4_16.out 2).trans rfl
    go_wp2_with fail
    refine (heldRespFrom_any st _ bd fs.length _ (mkG 1 fs fs.length) _ HOy2_16.out 1 (by omega) (by omega) (fun j hj => mkG_at 1 fs j fs.length (Nat.le_refl _) hj)).mono ?_
    rintro e w17 ⟨rfl, bw⟩
    have hb17 : Below w.heap.size w (w17) := hb16.trans (bw.mono hb16.size)
    have HOy1_17 : Hid ((w17).ownsRow w.heap.size 135 2 (.slice oy1 fs.length py1) fs.length (flatF fs)) := owns_below HOy1_16.out bw (fun g hg => owns_lt HOy1_16.out hg)
    have HOy2_17 : Hid ((w17).ownsRow w.heap.size 135 2 (.slice oy2 fs.length py2) fs.length (flatF (mkG 1 fs fs.length))) := owns_below HOy2_16.out bw (fun g hg => owns_lt HOy2_16.out hg)
    have HBv1_17 : Hid ((w17).heap[qv1]? = some (.cells #[.slice a1 n1 c1, .slice a2 n2 c2, .slice a3 n3 c3, .slice a4 n4 c4, .int .i64 nx, .int .i64 sq, .slice a5 n5 c5, .int .i64 now, .slice a6 n6 c6, .slice a7 n7 c7] 34)) := blk_below HBv1_16.out bw
    have HBv2_17 : Hid ((w17).heap[qv2]? = some (.cells #[.int .i64 st, .slice oy1 fs.length py1, .string bd] 38)) := blk_below HBv2_16.out bw
    have HBv3_17 : Hid ((w17).heap[qv3]? = some (.cells #[(.slice oC2 ca.s.cs.length pC2), (.slice oP2 ca.s.ws.length pP2), (.slice oK2 kv2.length pK2), (.slice oB2 ca.s.bl.length pB2), .int .i64 ca.s.nx, .int .i64 ca.s.sq, (.slice oF2 fv2.length pF2), .int .i64 ca.now, (.slice oE2 ev2.length pE2), (.slice oR2 rv2.length pR2)] 52)) := blk_below HBv3_16.out bw
    have HBv4_17 : Hid ((w17).heap[qv4]? = some (.cells #[.int .i64 st, .slice oy2 fs.length py2, .string bd] 38)) := blk_below HBv4_16.out bw
    clear hb16 HOy1_16 HOy2_16 HBv1_16 HBv2_16 HBv3_16 HBv4_16 bw
    have hkh1 : ¬ ((((1 : Nat) : Int) + 2 * (fs.length : Int)) < 0) := by omega
    clear cv4_0 cv4_1 cv4_2
    have cv1_0 : (w17).cell? ⟨qv1, 0, none⟩ = some (.slice a1 n1 c1) := (cell_of HBv1_17.out 0).trans rfl
    have cv1_1 : (w17).cell? ⟨qv1, 1, none⟩ = some (.slice a2 n2 c2) := (cell_of HBv1_17.out 1).trans rfl
    have cv1_2 : (w17).cell? ⟨qv1, 2, none⟩ = some (.slice a3 n3 c3) := (cell_of HBv1_17.out 2).trans rfl
    have cv1_3 : (w17).cell? ⟨qv1, 3, none⟩ = some (.slice a4 n4 c4) := (cell_of HBv1_17.out 3).trans rfl
    have cv1_4 : (w17).cell? ⟨qv1, 4, none⟩ = some (.int .i64 nx) := (cell_of HBv1_17.out 4).trans rfl
    have cv1_5 : (w17).cell? ⟨qv1, 5, none⟩ = some (.int .i64 sq) := (cell_of HBv1_17.out 5).trans rfl
    have cv1_6 : (w17).cell? ⟨qv1, 6, none⟩ = some (.slice a5 n5 c5) := (cell_of HBv1_17.out 6).trans rfl
    have cv1_7 : (w17).cell? ⟨qv1, 7, none⟩ = some (.int .i64 now) := (cell_of HBv1_17.out 7).trans rfl
    have cv1_8 : (w17).cell? ⟨qv1, 8, none⟩ = some (.slice a6 n6 c6) := (cell_of HBv1_17.out 8).trans rfl
    have cv1_9 : (w17).cell? ⟨qv1, 9, none⟩ = some (.slice a7 n7 c7) := (cell_of HBv1_17.out 9).trans rfl
    go_wp2_with fail
    refine (HTO.out _ hb17).mono ?_
    rintro e w18 ⟨va, vb, vc, vd, vf, ve, vr, kv4, fv4, ev4, rv4, rfl, hco, bw⟩
    obtain ⟨oC4, pC4, rfl⟩ := slice_of_owns hco.shelf.disk.cells
    obtain ⟨oP4, pP4, rfl⟩ := slice_of_owns hco.shelf.disk.pend
    obtain ⟨oK4, pK4, rfl⟩ := hco.shelf.kept.len
    obtain ⟨oB4, pB4, rfl⟩ := slice_of_owns hco.shelf.bans
    obtain ⟨oF4, pF4, rfl⟩ := hco.fls.len
    obtain ⟨oE4, pE4, rfl⟩ := hco.ses.len
    obtain ⟨oR4, pR4, rfl⟩ := hco.rps.len
    obtain ⟨b4, hbq4⟩ : ∃ b, b = (w17).heap.size := ⟨_, rfl⟩
    obtain ⟨t4, htq4⟩ : ∃ t, t = (w18).heap.size := ⟨_, rfl⟩
    have HSZ4 : Hid (w.heap.size ≤ (w17).heap.size) := hb17.size
    have hb18 : Below w.heap.size w (w18) := hb17.trans (bw.mono hb17.size)
    have HOy1_18 : Hid ((w18).ownsRow w.heap.size 135 2 (.slice oy1 fs.length py1) fs.length (flatF fs)) := owns_below HOy1_17.out bw (fun g hg => owns_lt HOy1_17.out hg)
    have HOy2_18 : Hid ((w18).ownsRow w.heap.size 135 2 (.slice oy2 fs.length py2) fs.length (flatF (mkG 1 fs fs.length))) := owns_below HOy2_17.out bw (fun g hg => owns_lt HOy2_17.out hg)
    have HBv1_18 : Hid ((w18).heap[qv1]? = some (.cells #[.slice a1 n1 c1, .slice a2 n2 c2, .slice a3 n3 c3, .slice a4 n4 c4, .int .i64 nx, .int .i64 sq, .slice a5 n5 c5, .int .i64 now, .slice a6 n6 c6, .slice a7 n7 c7] 34)) := blk_below HBv1_17.out bw
    have HBv2_18 : Hid ((w18).heap[qv2]? = some (.cells #[.int .i64 st, .slice oy1 fs.length py1, .string bd] 38)) := blk_below HBv2_17.out bw
    have HBv3_18 : Hid ((w18).heap[qv3]? = some (.cells #[(.slice oC2 ca.s.cs.length pC2), (.slice oP2 ca.s.ws.length pP2), (.slice oK2 kv2.length pK2), (.slice oB2 ca.s.bl.length pB2), .int .i64 ca.s.nx, .int .i64 ca.s.sq, (.slice oF2 fv2.length pF2), .int .i64 ca.now, (.slice oE2 ev2.length pE2), (.slice oR2 rv2.length pR2)] 52)) := blk_below HBv3_17.out bw
    have HBv4_18 : Hid ((w18).heap[qv4]? = some (.cells #[.int .i64 st, .slice oy2 fs.length py2, .string bd] 38)) := blk_below HBv4_17.out bw
    clear hb17 HOy1_17 HOy2_17 HBv1_17 HBv2_17 HBv3_17 HBv4_17 bw
    have HUC4 : Hid (∀ r ∈ caAll (.slice oC4 ca.s.cs.length pC4) (.slice oP4 ca.s.ws.length pP4) (.slice oK4 kv4.length pK4) (.slice oB4 ca.s.bl.length pB4) (.slice oF4 fv4.length pF4) (.slice oE4 ev4.length pE4) (.slice oR4 rv4.length pR4) kv4 fv4 ev4 rv4 ca.s.cs ca.s.ws ca.s.bl, ∀ g, r.v.ownBlock = some g → b4 ≤ g ∧ g < t4) := fun r hr g hg => by rw [hbq4, htq4]; exact ⟨owns_ge (hco.rows.own r hr) hg, hco.rows.lt hr hg⟩
    have HBW4 : Hid (w.heap.size ≤ b4) := by show _ ≤ _; rw [hbq4]; exact HSZ4.out
    have HBK4 : Hid (b4 = w17.heap.size) := hbq4
    have HTK4 : Hid (t4 = w18.heap.size) := htq4
    clear htq4
    have EC4_18 : Hid (CacheO (w18) b4 (.slice oC4 ca.s.cs.length pC4) (.slice oP4 ca.s.ws.length pP4) (.slice oK4 kv4.length pK4) (.slice oB4 ca.s.bl.length pB4) (.slice oF4 fv4.length pF4) (.slice oE4 ev4.length pE4) (.slice oR4 rv4.length pR4) kv4 fv4 ev4 rv4 ca) := by show CacheO _ _ _ _ _ _ _ _ _ _ _ _ _ _; rw [hbq4]; exact hco
    clear hco hbq4
    clear cv1_0 cv1_1 cv1_2 cv1_3 cv1_4 cv1_5 cv1_6 cv1_7 cv1_8 cv1_9
    go_wp2_with fail
    refine (HIM.out _ hb18 _ _ _ _ _ _ _ _ _ _ _ _ EC4_18.out).mono ?_
    rintro e w19 ⟨oy3, py3, rfl, hown, bw⟩
    have hb19 : Below w.heap.size w (w19) := hb18.trans (bw.mono hb18.size)
    have HOy1_19 : Hid ((w19).ownsRow w.heap.size 135 2 (.slice oy1 fs.length py1) fs.length (flatF fs)) := owns_below HOy1_18.out bw (fun g hg => owns_lt HOy1_18.out hg)
    have HOy2_19 : Hid ((w19).ownsRow w.heap.size 135 2 (.slice oy2 fs.length py2) fs.length (flatF (mkG 1 fs fs.length))) := owns_below HOy2_18.out bw (fun g hg => owns_lt HOy2_18.out hg)
    have HBv1_19 : Hid ((w19).heap[qv1]? = some (.cells #[.slice a1 n1 c1, .slice a2 n2 c2, .slice a3 n3 c3, .slice a4 n4 c4, .int .i64 nx, .int .i64 sq, .slice a5 n5 c5, .int .i64 now, .slice a6 n6 c6, .slice a7 n7 c7] 34)) := blk_below HBv1_18.out bw
    have HBv2_19 : Hid ((w19).heap[qv2]? = some (.cells #[.int .i64 st, .slice oy1 fs.length py1, .string bd] 38)) := blk_below HBv2_18.out bw
    have HBv3_19 : Hid ((w19).heap[qv3]? = some (.cells #[(.slice oC2 ca.s.cs.length pC2), (.slice oP2 ca.s.ws.length pP2), (.slice oK2 kv2.length pK2), (.slice oB2 ca.s.bl.length pB2), .int .i64 ca.s.nx, .int .i64 ca.s.sq, (.slice oF2 fv2.length pF2), .int .i64 ca.now, (.slice oE2 ev2.length pE2), (.slice oR2 rv2.length pR2)] 52)) := blk_below HBv3_18.out bw
    have HBv4_19 : Hid ((w19).heap[qv4]? = some (.cells #[.int .i64 st, .slice oy2 fs.length py2, .string bd] 38)) := blk_below HBv4_18.out bw
    have EC4_19 : Hid (CacheO (w19) b4 (.slice oC4 ca.s.cs.length pC4) (.slice oP4 ca.s.ws.length pP4) (.slice oK4 kv4.length pK4) (.slice oB4 ca.s.bl.length pB4) (.slice oF4 fv4.length pF4) (.slice oE4 ev4.length pE4) (.slice oR4 rv4.length pR4) kv4 fv4 ev4 rv4 ca) := EC4_18.out.below bw
    have HOy3_19 : Hid ((w19).ownsRow w.heap.size 135 2 (.slice oy3 fs.length py3) fs.length (flatF fs)) := owns_wide hown hb18.size
    clear hown
    clear hb18 HOy1_18 HOy2_18 HBv1_18 HBv2_18 HBv3_18 HBv4_18 EC4_18 bw
    go_upto_region 25 with fail
    obtain ⟨qv5, hqv5⟩ : ∃ q, q = (w19).heap.size := ⟨_, rfl⟩
    obtain ⟨w20, hW20⟩ : ∃ W, W = (w19).alloc (.cells #[.int .i64 st, .slice oy3 fs.length py3, .string bd] 38) := ⟨_, rfl⟩
    have hz20 : (w19).heap.size = qv5 := hqv5.symm
    first | rw [← hW20, ← hqv5] | rw [← hW20]
    have hs20 : w20.heap.size = qv5 + 1 := by rw [hW20, ← hz20]; simp
    have bw : Below (w19).heap.size (w19) w20 := by rw [hW20]; exact (Below.refl _ _).alloc (Nat.le_refl _) _
    have hb20 : Below w.heap.size w (w20) := hb19.trans (bw.mono hb19.size)
    have HOy1_20 : Hid ((w20).ownsRow w.heap.size 135 2 (.slice oy1 fs.length py1) fs.length (flatF fs)) := owns_below HOy1_19.out bw (fun g hg => owns_lt HOy1_19.out hg)
    have HOy2_20 : Hid ((w20).ownsRow w.heap.size 135 2 (.slice oy2 fs.length py2) fs.length (flatF (mkG 1 fs fs.length))) := owns_below HOy2_19.out bw (fun g hg => owns_lt HOy2_19.out hg)
    have HOy3_20 : Hid ((w20).ownsRow w.heap.size 135 2 (.slice oy3 fs.length py3) fs.length (flatF fs)) := owns_below HOy3_19.out bw (fun g hg => owns_lt HOy3_19.out hg)
    have HBv1_20 : Hid ((w20).heap[qv1]? = some (.cells #[.slice a1 n1 c1, .slice a2 n2 c2, .slice a3 n3 c3, .slice a4 n4 c4, .int .i64 nx, .int .i64 sq, .slice a5 n5 c5, .int .i64 now, .slice a6 n6 c6, .slice a7 n7 c7] 34)) := blk_below HBv1_19.out bw
    have HBv2_20 : Hid ((w20).heap[qv2]? = some (.cells #[.int .i64 st, .slice oy1 fs.length py1, .string bd] 38)) := blk_below HBv2_19.out bw
    have HBv3_20 : Hid ((w20).heap[qv3]? = some (.cells #[(.slice oC2 ca.s.cs.length pC2), (.slice oP2 ca.s.ws.length pP2), (.slice oK2 kv2.length pK2), (.slice oB2 ca.s.bl.length pB2), .int .i64 ca.s.nx, .int .i64 ca.s.sq, (.slice oF2 fv2.length pF2), .int .i64 ca.now, (.slice oE2 ev2.length pE2), (.slice oR2 rv2.length pR2)] 52)) := blk_below HBv3_19.out bw
    have HBv4_20 : Hid ((w20).heap[qv4]? = some (.cells #[.int .i64 st, .slice oy2 fs.length py2, .string bd] 38)) := blk_below HBv4_19.out bw
    have EC4_20 : Hid (CacheO (w20) b4 (.slice oC4 ca.s.cs.length pC4) (.slice oP4 ca.s.ws.length pP4) (.slice oK4 kv4.length pK4) (.slice oB4 ca.s.bl.length pB4) (.slice oF4 fv4.length pF4) (.slice oE4 ev4.length pE4) (.slice oR4 rv4.length pR4) kv4 fv4 ev4 rv4 ca) := EC4_19.out.below bw
    have HBv5_20 : Hid ((w20).heap[qv5]? = some (.cells #[.int .i64 st, .slice oy3 fs.length py3, .string bd] 38)) := by show _ = _; rw [hW20, ← hz20]; exact heap_alloc_new _ _
    clear hb19 HOy1_19 HOy2_19 HOy3_19 HBv1_19 HBv2_19 HBv3_19 HBv4_19 EC4_19 bw hW20 hz20
    clear hs20 hqv5
    have cv2_0 : (w20).cell? ⟨qv2, 0, none⟩ = some (.int .i64 st) := (cell_of HBv2_20.out 0).trans rfl
    have cv2_1 : (w20).cell? ⟨qv2, 1, none⟩ = some (.slice oy1 fs.length py1) := (cell_of HBv2_20.out 1).trans rfl
    have cv2_2 : (w20).cell? ⟨qv2, 2, none⟩ = some (.string bd) := (cell_of HBv2_20.out 2).trans rfl
    have cv5_0 : (w20).cell? ⟨qv5, 0, none⟩ = some (.int .i64 st) := (cell_of HBv5_20.out 0).trans rfl
    have cv5_1 : (w20).cell? ⟨qv5, 1, none⟩ = some (.slice oy3 fs.length py3) := (cell_of HBv5_20.out 1).trans rfl
    have cv5_2 : (w20).cell? ⟨qv5, 2, none⟩ = some (.string bd) := (cell_of HBv5_20.out 2).trans rfl
    go_wp2_with fail
    refine (eqResp_any st _ _ bd fs.length _ _ fs _ (FieldsV.of_owns HOy3_20.out) (FieldsV.of_owns HOy1_20.out) (by omega)).mono ?_
    rintro e w21 ⟨rfl, bw⟩
    have hb21 : Below w.heap.size w (w21) := hb20.trans (bw.mono hb20.size)
    have HOy1_21 : Hid ((w21).ownsRow w.heap.size 135 2 (.slice oy1 fs.length py1) fs.length (flatF fs)) := owns_below HOy1_20.out bw (fun g hg => owns_lt HOy1_20.out hg)
    have HOy2_21 : Hid ((w21).ownsRow w.heap.size 135 2 (.slice oy2 fs.length py2) fs.length (flatF (mkG 1 fs fs.length))) := owns_below HOy2_20.out bw (fun g hg => owns_lt HOy2_20.out hg)
    have HOy3_21 : Hid ((w21).ownsRow w.heap.size 135 2 (.slice oy3 fs.length py3) fs.length (flatF fs)) := owns_below HOy3_20.out bw (fun g hg => owns_lt HOy3_20.out hg)
    have HBv1_21 : Hid ((w21).heap[qv1]? = some (.cells #[.slice a1 n1 c1, .slice a2 n2 c2, .slice a3 n3 c3, .slice a4 n4 c4, .int .i64 nx, .int .i64 sq, .slice a5 n5 c5, .int .i64 now, .slice a6 n6 c6, .slice a7 n7 c7] 34)) := blk_below HBv1_20.out bw
    have HBv2_21 : Hid ((w21).heap[qv2]? = some (.cells #[.int .i64 st, .slice oy1 fs.length py1, .string bd] 38)) := blk_below HBv2_20.out bw
    have HBv3_21 : Hid ((w21).heap[qv3]? = some (.cells #[(.slice oC2 ca.s.cs.length pC2), (.slice oP2 ca.s.ws.length pP2), (.slice oK2 kv2.length pK2), (.slice oB2 ca.s.bl.length pB2), .int .i64 ca.s.nx, .int .i64 ca.s.sq, (.slice oF2 fv2.length pF2), .int .i64 ca.now, (.slice oE2 ev2.length pE2), (.slice oR2 rv2.length pR2)] 52)) := blk_below HBv3_20.out bw
    have HBv4_21 : Hid ((w21).heap[qv4]? = some (.cells #[.int .i64 st, .slice oy2 fs.length py2, .string bd] 38)) := blk_below HBv4_20.out bw
    have HBv5_21 : Hid ((w21).heap[qv5]? = some (.cells #[.int .i64 st, .slice oy3 fs.length py3, .string bd] 38)) := blk_below HBv5_20.out bw
    have EC4_21 : Hid (CacheO (w21) b4 (.slice oC4 ca.s.cs.length pC4) (.slice oP4 ca.s.ws.length pP4) (.slice oK4 kv4.length pK4) (.slice oB4 ca.s.bl.length pB4) (.slice oF4 fv4.length pF4) (.slice oE4 ev4.length pE4) (.slice oR4 rv4.length pR4) kv4 fv4 ev4 rv4 ca) := EC4_20.out.below bw
    clear hb20 HOy1_20 HOy2_20 HOy3_20 HBv1_20 HBv2_20 HBv3_20 HBv4_20 HBv5_20 EC4_20 bw
    clear cv2_0 cv2_1 cv2_2 cv5_0 cv5_1 cv5_2
    have cv4_0 : (w21).cell? ⟨qv4, 0, none⟩ = some (.int .i64 st) := (cell_of HBv4_21.out 0).trans rfl
    have cv4_1 : (w21).cell? ⟨qv4, 1, none⟩ = some (.slice oy2 fs.length py2) := (cell_of HBv4_21.out 1).trans rfl
    have cv4_2 : (w21).cell? ⟨qv4, 2, none⟩ = some (.string bd) := (cell_of HBv4_21.out 2).trans rfl
    go_wp2_with fail
    refine (heldRespFrom_any st _ bd fs.length _ (mkG 1 fs fs.length) _ HOy2_21.out 1 (by omega) (by omega) (fun j hj => mkG_at 1 fs j fs.length (Nat.le_refl _) hj)).mono ?_
    rintro e w22 ⟨rfl, bw⟩
    have hb22 : Below w.heap.size w (w22) := hb21.trans (bw.mono hb21.size)
    have HOy1_22 : Hid ((w22).ownsRow w.heap.size 135 2 (.slice oy1 fs.length py1) fs.length (flatF fs)) := owns_below HOy1_21.out bw (fun g hg => owns_lt HOy1_21.out hg)
    have HOy2_22 : Hid ((w22).ownsRow w.heap.size 135 2 (.slice oy2 fs.length py2) fs.length (flatF (mkG 1 fs fs.length))) := owns_below HOy2_21.out bw (fun g hg => owns_lt HOy2_21.out hg)
    have HOy3_22 : Hid ((w22).ownsRow w.heap.size 135 2 (.slice oy3 fs.length py3) fs.length (flatF fs)) := owns_below HOy3_21.out bw (fun g hg => owns_lt HOy3_21.out hg)
    have HBv1_22 : Hid ((w22).heap[qv1]? = some (.cells #[.slice a1 n1 c1, .slice a2 n2 c2, .slice a3 n3 c3, .slice a4 n4 c4, .int .i64 nx, .int .i64 sq, .slice a5 n5 c5, .int .i64 now, .slice a6 n6 c6, .slice a7 n7 c7] 34)) := blk_below HBv1_21.out bw
    have HBv2_22 : Hid ((w22).heap[qv2]? = some (.cells #[.int .i64 st, .slice oy1 fs.length py1, .string bd] 38)) := blk_below HBv2_21.out bw
    have HBv3_22 : Hid ((w22).heap[qv3]? = some (.cells #[(.slice oC2 ca.s.cs.length pC2), (.slice oP2 ca.s.ws.length pP2), (.slice oK2 kv2.length pK2), (.slice oB2 ca.s.bl.length pB2), .int .i64 ca.s.nx, .int .i64 ca.s.sq, (.slice oF2 fv2.length pF2), .int .i64 ca.now, (.slice oE2 ev2.length pE2), (.slice oR2 rv2.length pR2)] 52)) := blk_below HBv3_21.out bw
    have HBv4_22 : Hid ((w22).heap[qv4]? = some (.cells #[.int .i64 st, .slice oy2 fs.length py2, .string bd] 38)) := blk_below HBv4_21.out bw
    have HBv5_22 : Hid ((w22).heap[qv5]? = some (.cells #[.int .i64 st, .slice oy3 fs.length py3, .string bd] 38)) := blk_below HBv5_21.out bw
    have EC4_22 : Hid (CacheO (w22) b4 (.slice oC4 ca.s.cs.length pC4) (.slice oP4 ca.s.ws.length pP4) (.slice oK4 kv4.length pK4) (.slice oB4 ca.s.bl.length pB4) (.slice oF4 fv4.length pF4) (.slice oE4 ev4.length pE4) (.slice oR4 rv4.length pR4) kv4 fv4 ev4 rv4 ca) := EC4_21.out.below bw
    clear hb21 HOy1_21 HOy2_21 HOy3_21 HBv1_21 HBv2_21 HBv3_21 HBv4_21 HBv5_21 EC4_21 bw
    have hkh2 : ¬ ((((1 : Nat) : Int) + 2 * (fs.length : Int)) < 0) := by omega
    clear cv4_0 cv4_1 cv4_2
    go_wp2_with fail
    go_ret
    exact ⟨rfl, hb22⟩


set_option maxRecDepth 100000 in
theorem lifted (os : Os) (started : os.Started) (H : Type) (enc : TypeId × Value → H) :
    ReturnsInHanded {} Tryz.checked os 3 .any (Rows.fnExactServedSpec.pre6 enc Tryz.prog Tryz.f3 Rows.fnExactServedRow.domain false) (Rows.fnExactServedSpec.post enc Tryz.prog Tryz.f3 false true false false) := by
  refine returnsInHanded_of_change (C := Tryz.checked) own started (by kernel_rfl) Tryz.func3
    (ChangeSpec.witness6 (enc := enc) (C := Tryz.checked) false ⟨#[], #[.agg #[.slice none 0 0, .slice none 0 0, .slice none 0 0, .slice none 0 0, .int .i64 0, .int .i64 0, .slice none 0 0, .int .i64 0, .slice none 0 0, .slice none 0 0], .int .i64 0], []⟩ 8 (by kernel_rfl) (by kernel_rfl) (by kernel_rfl) (by kernel_rfl)) ?_
  intro W base args ds gs before hval0 hW _ _
  have hval : ∀ (j : Nat) t v, Tryz.f3.params[j]? = some t → args[j]? = some v → Value.okWide Tryz.prog W .any base t v := hval0
  have hW' := hW
  obtain ⟨p, q, hA0, hV, rfl, hfz, hnd⟩ := hW
  have hA : DataW.TrodAll enc Tryz.prog W 0 (fun _ => true) true Tryz.f3.params.toList args.toList ds p := hA0
  rw [Tryz.params3] at hA hval
  obtain ⟨v0, vs0, d0, ds0, p0, q0, hargs, rfl, rfl, h0, r0⟩ := trodAll_cons hA
  obtain ⟨v1, vs1, d1, ds1, p1, q1, hargs1, rfl, rfl, h1, r1⟩ := trodAll_cons r0
  obtain ⟨rfl, rfl, rfl⟩ := trodAll_nil r1
  obtain rfl : args = #[v0, v1] := by cases args; simp_all
  obtain ⟨rfl, rfl⟩ := trodVars_none hV
  have k0 := h0
  have lt0 : ∀ x ∈ p0, x.block < W.heap.size := by obtain ⟨m, hm⟩ := k0; exact DataW.trod_lt m _ _ _ hm
  obtain ⟨sa10, sn10, sc10, sd10, sa20, sn20, sc20, sd20, sa30, sn30, sc30, sd30, sa40, sn40, sc40, sd40, sx0, sq0, sa50, sn50, sc50, sd50, sw0, sa60, sn60, sc60, sd60, sa70, sn70, sc70, sd70, rfl, ga0, gb0, gc0, gd0, ge0, gf0, gg0, gh0⟩ := openCache (hval 0 34 v0 rfl rfl) h0
  obtain ⟨a1, rfl, rfl, rfl, w1⟩ := open_int Tryz.underlying3 (hval 1 3 v1 rfl rfl) h1
  have bd1 := bounds_i64 w1
  clear hA0 hval0
  simp only [List.append_nil] at hW'
  refine (walk1 W sa10 sn10 sc10 sd10 sa20 sn20 sc20 sd20 sa30 sn30 sc30 sd30 sa40 sn40 sc40 sd40 sx0 sq0 sa50 sn50 sc50 sd50 sw0 sa60 sn60 sc60 sd60 sa70 sn70 sc70 sd70 ga0 gb0 gc0 gd0 ge0 gf0 gg0 gh0 a1 (by omega) (by omega)).mono fun e W' ⟨he, bel⟩ => ?_
  subst he
  exact ⟨_, rfl, _, _, _, [], _, [], hW', trodAll_mk1 (shut_bool Tryz.underlying4 _), (trodAll_cons_mk (Below.trod laidOut (by kernel_rfl) (of_decide_eq_true (by kernel_rfl)) k0 bel lt0) (trodAll_cons_mk (shut_int Tryz.underlying3 w1) trodAll_mk0)), rfl, bel.frame _, fun h => by cases h⟩

theorem over : Rows.fnExactServedRow.holds Tryz.pinned (OpenSpec.ofChange Rows.fnExactServedSpec) :=
  OpenClaim.holds_of_wide 3 Tryz.f3 rfl rfl rfl rfl rfl rfl rfl ⟨rfl, rfl, rfl, rfl, rfl⟩ rfl rfl rfl rfl rfl (by kernel_rfl) Tryz.func3 (by kernel_rfl)
    (of_decide_eq_true (by kernel_rfl)) (by unfold Func.isWrapper; first | (rw [if_pos (by decide +kernel)]; kernel_rfl) | (rw [if_neg (by decide +kernel)]; exact ⟨rfl, rfl⟩))
    (fun os started H enc _ => lifted os started H enc)
end fnExactServed

theorem fnExactServed_holds : Rows.FnExactServedSaid := fnExactServed.over
#print axioms fnExactServed_holds
end Go.Proofs.YtajccgffallajaaGreat
