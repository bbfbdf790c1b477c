/- Short: at every argument the program answers as the specification (the law answers true), it writes into no argument, and its answer owns its memory: no condition. -/
import Derived.Test.YthlmnmbhgkmbfaaFnExactShortB
import Derived.Test.YthlmnmbhgkmbfaaRows
import Derived.WalkKit
import Derived.ProofKit
import Derived.OpenShut
import Derived.ShutString
import Derived.ChangeOld
import Derived.Below
import Derived.Deep.RegionHeld3
import Derived.Deep.DrawnRows
namespace Go.Proofs.Ythlmnmbhgkmbfaa
namespace fnExactShort
open Go.ChangeShapes Go.WideShapes Go.ChangeAt Go.RowKit
open Go.ChangeMaps (open_string shut_string)
attribute [local go_sem ↓] Go.wp_at_zero Go.wp_at_succ

theorem own : ownKnob Try.prog.godebug = none := by kernel_rfl
theorem laidOut : laidOutB Try.prog = true := by kernel_rfl
theorem argWide {w : World} {B B' : Nat} {a : Option Addr} {n : Nat} {fs : List (ByteArray × ByteArray)} (h : ArgF w B a n fs) (hB : B ≤ B') : ArgF w B' a n fs :=
  ⟨h.len, fun i hi => by
    obtain ⟨b, off, h1, h2, h3⟩ := h.get i hi
    exact ⟨b, off, h1, Nat.lt_of_lt_of_le h2 hB, h3⟩⟩

set_option maxHeartbeats 8000000 in
set_option maxRecDepth 100000 in
theorem walk1 (w : World) (am0 : Int) (a0 : Option Addr) (n0 cap0 : Nat) (ab0 : ByteArray) (fs0 : List (ByteArray × ByteArray)) (harg0 : ArgF w w.heap.size a0 n0 fs0) (hn0 : n0 ≤ maxLen) (hs0 : WalkF n0 fs0) (hx0 : ab0.size ≤ maxLen) :
    Calls Try.prog 8 #[.agg #[.int .i64 am0, .slice a0 n0 cap0, .string ab0]] w fun e w' => e = .returned (.bool true) ∧ Below w.heap.size w w' := by
  have HA0 : Hid (∀ W, Below w.heap.size w W → ArgF W w.heap.size a0 n0 fs0) := fun W h => harg0.below h
  have HLEN0 : Hid (fs0.length = n0) := harg0.len
  have HS0 : Hid (WalkF n0 fs0) := hs0
  have HN0 : Hid (n0 ≤ maxLen) := hn0
  have HBX0 : Hid (ab0.size ≤ maxLen) := hx0
  clear hx0
  clear harg0 hs0 hn0
  obtain ⟨rq, hrq⟩ : ∃ r, r = w.heap.size := ⟨_, rfl⟩
  obtain ⟨w0, hw0⟩ : ∃ W, W = (w.alloc (.cells #[.int .i64 am0, .slice a0 n0 cap0, .string ab0] 43)) := ⟨_, rfl⟩
  have HW0 : Hid ((w.alloc (.cells #[.int .i64 am0, .slice a0 n0 cap0, .string ab0] 43)) = w0) := hw0.symm
  have hb0 : Below w.heap.size w w0 := by rw [hw0]; exact (Below.refl _ w).alloc (Nat.le_refl _) _
  have HBa0_0 : Hid ((w0).heap[rq]? = some (.cells #[.int .i64 am0, .slice a0 n0 cap0, .string ab0] 43)) := by
    show _ = _
    have h := heap_alloc_new w (.cells #[.int .i64 am0, .slice a0 n0 cap0, .string ab0] 43)
    have hz : (w).heap.size = rq := by rw [hrq]
    rw [hz] at h
    rw [hw0]
    exact h
  clear hw0
  go_enter Try.func8, Try.ntmps8
  go_upto_region 1 with fail
  rw [HW0.out, ← hrq]
  clear HW0 hrq
  obtain ⟨⟨ca00, ca01, ca02⟩, _⟩ := three_facts HBa0_0.out
  go_wp2_with fail
  refine (szResp_room 1048576 (by omega) (by omega) am0 a0 n0 cap0 ab0 fs0 _ (argWide (HA0.out _ hb0) hb0.size) HN0.out HS0.out HBX0.out).mono ?_
  rintro e w1 ⟨r0, rfl, hrl0, hr0, b⟩
  have hb1 : Below w.heap.size w (w1) := hb0.trans (b.mono hb0.size)
  have HM1 : Hid ((w0).heap.size ≤ (w1).heap.size) := b.size
  have HBa0_1 : Hid ((w1).heap[rq]? = some (.cells #[.int .i64 am0, .slice a0 n0 cap0, .string ab0] 43)) := blk_below HBa0_0.out b
  clear hb0 HBa0_0 ca00 ca01 ca02 b
  by_cases hq0 : r0 < 0
  · clear hr0
    go_wp2_with fail
    go_ret
    exact ⟨rfl, hb1⟩
  obtain ⟨hrm0, hx0, hm0, hz0⟩ := hr0 (by omega)
  clear hr0
  have HC0 : Hid (CopyF fs0) := fun i hi => by
    have := szTo_get fs0 n0 i (by rw [← HLEN0.out]; exact hi)
    omega
  have HG0 : Hid (∀ x, (getV fs0 x).size ≤ 1048576) := fun x => by
    unfold getV
    split
    · rename_i h
      have := szTo_get fs0 n0 (atF fs0 x) (by rw [← HLEN0.out]; exact h)
      omega
    · decide
  clear hz0
  have HX0 : Hid (ab0.size ≤ 1048576) := hx0
  clear hx0
  have hall : n0 ≤ 1048576 := by omega
  clear hrl0 hrm0
  obtain ⟨P, hP⟩ : ∃ P, P = shortF fs0 := ⟨_, rfl⟩
  obtain ⟨np, hnp⟩ : ∃ m, m = P.length := ⟨_, rfl⟩
  have hnp2 : np ≤ 1999999 := by
    rw [hnp, hP]
    have h1 := shortF_le fs0
    rw [HLEN0.out] at h1
    omega
  have HSP : Hid (∀ (u0 : Value) (B0 : Nat) (W : World), FieldsV W B0 u0 n0 fs0 → Calls Try.prog 19 #[.agg #[.int .i64 am0, u0, .string ab0]] W fun e w' => ∃ v, e = .returned (.agg #[.int .i64 304, v, .string ⟨#[]⟩]) ∧ w'.ownsRow W.heap.size 68 2 v np (flatF P) ∧ Below W.heap.size W w') := by
    intro u0 B0 W h0
    rw [hnp, hP]
    exact specShort_any am0 u0 ab0 n0 B0 fs0 W h0 (by omega)
  have HIM : Hid (∀ (u0 : Value) (B0 : Nat) (W : World), FieldsV W B0 u0 n0 fs0 → Calls Try.prog 16 #[.agg #[.int .i64 am0, u0, .string ab0]] W fun e w' => ∃ v, e = .returned (.agg #[.int .i64 304, v, .string ⟨#[]⟩]) ∧ w'.ownsRow W.heap.size 68 2 v np (flatF P) ∧ Below W.heap.size W w') := by
    intro u0 B0 W h0
    rw [hnp, hP]
    exact implShort_any am0 u0 ab0 n0 B0 fs0 W h0 (by omega) HC0.out
  clear hP HC0 HG0 HX0
  have HNP : Hid (P.length = np) := hnp.symm
  clear hnp
  obtain ⟨⟨ca00, ca01, ca02⟩, _⟩ := three_facts HBa0_1.out
  go_wp2_with fail
  refine (toResp_any am0 a0 n0 cap0 ab0 fs0 w.heap.size _ (HA0.out _ hb1) hb1.size hm0).mono ?_
  rintro e w2 ⟨vvt0, rfl, ownt0, b⟩
  obtain ⟨ot0, pt0, rfl⟩ := slice_of_owns ownt0
  have hb2 : Below w.heap.size w (w2) := hb1.trans (b.mono hb1.size)
  have HM2 : Hid ((w1).heap.size ≤ (w2).heap.size) := b.size
  have HBa0_2 : Hid ((w2).heap[rq]? = some (.cells #[.int .i64 am0, .slice a0 n0 cap0, .string ab0] 43)) := blk_below HBa0_1.out b
  have HOt0_2 : Hid ((w2).ownsRow w.heap.size 68 2 (.slice ot0 n0 pt0) n0 (flatF fs0)) := owns_wide ownt0 hb1.size
  have LOt0 : Hid (∀ g, (Value.ownBlock (.slice ot0 n0 pt0)) = some g → (w1).heap.size ≤ g) := fun g hg => owns_ge ownt0 hg
  have HIt0 : Hid (∀ g, (Value.ownBlock (.slice ot0 n0 pt0)) = some g → g < (w2).heap.size) := fun g hg => owns_lt ownt0 hg
  clear ownt0
  clear hb1 HBa0_1 ca00 ca01 ca02 b
  go_wp2_with fail
  refine (HSP.out _ _ _ (FieldsV.of_owns HOt0_2.out)).mono ?_
  rintro e w3 ⟨vvs, rfl, owns, b⟩
  obtain ⟨os, ps, rfl⟩ := slice_of_owns owns
  have hb3 : Below w.heap.size w (w3) := hb2.trans (b.mono hb2.size)
  have HM3 : Hid ((w2).heap.size ≤ (w3).heap.size) := b.size
  have HOt0_3 : Hid ((w3).ownsRow w.heap.size 68 2 (.slice ot0 n0 pt0) n0 (flatF fs0)) := owns_below HOt0_2.out b (fun g hg => owns_lt HOt0_2.out hg)
  have HBa0_3 : Hid ((w3).heap[rq]? = some (.cells #[.int .i64 am0, .slice a0 n0 cap0, .string ab0] 43)) := blk_below HBa0_2.out b
  have HOs_3 : Hid ((w3).ownsRow w.heap.size 68 2 (.slice os np ps) np (flatF P)) := owns_wide owns hb2.size
  have LOs : Hid (∀ g, (Value.ownBlock (.slice os np ps)) = some g → (w2).heap.size ≤ g) := fun g hg => owns_ge owns hg
  have HIs : Hid (∀ g, (Value.ownBlock (.slice os np ps)) = some g → g < (w3).heap.size) := fun g hg => owns_lt owns hg
  clear owns
  clear hb2 HOt0_2 HBa0_2 b
  clear HOt0_3
  go_upto_region 6 with fail
  obtain ⟨qbs, hqbs⟩ : ∃ q, q = (w3).heap.size := ⟨_, rfl⟩
  obtain ⟨w4, hW4⟩ : ∃ W, W = (w3).alloc (.cells #[.int .i64 304, .slice os np ps, .string ⟨#[]⟩] 32) := ⟨_, rfl⟩
  rw [← hW4, ← hqbs]
  have b : Below (w3).heap.size (w3) w4 := by rw [hW4]; exact (Below.refl _ _).alloc (Nat.le_refl _) _
  have hb4 : Below w.heap.size w (w4) := hb3.trans (b.mono hb3.size)
  have HM4 : Hid ((w3).heap.size ≤ (w4).heap.size) := b.size
  have HOs_4 : Hid ((w4).ownsRow w.heap.size 68 2 (.slice os np ps) np (flatF P)) := owns_below HOs_3.out b (fun g hg => owns_lt HOs_3.out hg)
  have HBa0_4 : Hid ((w4).heap[rq]? = some (.cells #[.int .i64 am0, .slice a0 n0 cap0, .string ab0] 43)) := blk_below HBa0_3.out b
  have HBbs_4 : Hid ((w4).heap[qbs]? = some (.cells #[.int .i64 304, .slice os np ps, .string ⟨#[]⟩] 32)) := by show _ = _; rw [hW4, hqbs]; exact heap_alloc_new _ _
  clear hb3 HOs_3 HBa0_3 b hW4 hqbs
  obtain ⟨⟨ca00, ca01, ca02⟩, _⟩ := three_facts HBa0_4.out
  go_wp2_with fail
  refine (toResp_any am0 a0 n0 cap0 ab0 fs0 w.heap.size _ (HA0.out _ hb4) hb4.size hm0).mono ?_
  rintro e w5 ⟨vvx0, rfl, ownx0, b⟩
  obtain ⟨ox0, px0, rfl⟩ := slice_of_owns ownx0
  have hb5 : Below w.heap.size w (w5) := hb4.trans (b.mono hb4.size)
  have HM5 : Hid ((w4).heap.size ≤ (w5).heap.size) := b.size
  have HOs_5 : Hid ((w5).ownsRow w.heap.size 68 2 (.slice os np ps) np (flatF P)) := owns_below HOs_4.out b (fun g hg => owns_lt HOs_4.out hg)
  have HBa0_5 : Hid ((w5).heap[rq]? = some (.cells #[.int .i64 am0, .slice a0 n0 cap0, .string ab0] 43)) := blk_below HBa0_4.out b
  have HBbs_5 : Hid ((w5).heap[qbs]? = some (.cells #[.int .i64 304, .slice os np ps, .string ⟨#[]⟩] 32)) := blk_below HBbs_4.out b
  have HOx0_5 : Hid ((w5).ownsRow w.heap.size 68 2 (.slice ox0 n0 px0) n0 (flatF fs0)) := owns_wide ownx0 hb4.size
  have LOx0 : Hid (∀ g, (Value.ownBlock (.slice ox0 n0 px0)) = some g → (w4).heap.size ≤ g) := fun g hg => owns_ge ownx0 hg
  have HIx0 : Hid (∀ g, (Value.ownBlock (.slice ox0 n0 px0)) = some g → g < (w5).heap.size) := fun g hg => owns_lt ownx0 hg
  clear ownx0
  clear hb4 HOs_4 HBa0_4 HBbs_4 ca00 ca01 ca02 b
  go_upto_region 7 with fail
  obtain ⟨qbx0, hqbx0⟩ : ∃ q, q = (w5).heap.size := ⟨_, rfl⟩
  obtain ⟨w6, hW6⟩ : ∃ W, W = (w5).alloc (.cells #[.int .i64 am0, .slice ox0 n0 px0, .string ab0] 32) := ⟨_, rfl⟩
  rw [← hW6, ← hqbx0]
  have b : Below (w5).heap.size (w5) w6 := by rw [hW6]; exact (Below.refl _ _).alloc (Nat.le_refl _) _
  have hb6 : Below w.heap.size w (w6) := hb5.trans (b.mono hb5.size)
  have HM6 : Hid ((w5).heap.size ≤ (w6).heap.size) := b.size
  have HOs_6 : Hid ((w6).ownsRow w.heap.size 68 2 (.slice os np ps) np (flatF P)) := owns_below HOs_5.out b (fun g hg => owns_lt HOs_5.out hg)
  have HOx0_6 : Hid ((w6).ownsRow w.heap.size 68 2 (.slice ox0 n0 px0) n0 (flatF fs0)) := owns_below HOx0_5.out b (fun g hg => owns_lt HOx0_5.out hg)
  have HBa0_6 : Hid ((w6).heap[rq]? = some (.cells #[.int .i64 am0, .slice a0 n0 cap0, .string ab0] 43)) := blk_below HBa0_5.out b
  have HBbs_6 : Hid ((w6).heap[qbs]? = some (.cells #[.int .i64 304, .slice os np ps, .string ⟨#[]⟩] 32)) := blk_below HBbs_5.out b
  have HBbx0_6 : Hid ((w6).heap[qbx0]? = some (.cells #[.int .i64 am0, .slice ox0 n0 px0, .string ab0] 32)) := by show _ = _; rw [hW6, hqbx0]; exact heap_alloc_new _ _
  clear hb5 HOs_5 HOx0_5 HBa0_5 HBbs_5 b hW6 hqbx0
  obtain ⟨⟨cbx00, cbx01, cbx02⟩, _⟩ := three_facts HBbx0_6.out
  go_wp2_with fail
  refine (HIM.out _ _ _ (FieldsV.of_owns HOx0_6.out)).mono ?_
  rintro e w7 ⟨vvg, rfl, owng, b⟩
  obtain ⟨og, pg, rfl⟩ := slice_of_owns owng
  have hb7 : Below w.heap.size w (w7) := hb6.trans (b.mono hb6.size)
  have HM7 : Hid ((w6).heap.size ≤ (w7).heap.size) := b.size
  have HOs_7 : Hid ((w7).ownsRow w.heap.size 68 2 (.slice os np ps) np (flatF P)) := owns_below HOs_6.out b (fun g hg => owns_lt HOs_6.out hg)
  have HOx0_7 : Hid ((w7).ownsRow w.heap.size 68 2 (.slice ox0 n0 px0) n0 (flatF fs0)) := owns_below HOx0_6.out b (fun g hg => owns_lt HOx0_6.out hg)
  have HBa0_7 : Hid ((w7).heap[rq]? = some (.cells #[.int .i64 am0, .slice a0 n0 cap0, .string ab0] 43)) := blk_below HBa0_6.out b
  have HBbs_7 : Hid ((w7).heap[qbs]? = some (.cells #[.int .i64 304, .slice os np ps, .string ⟨#[]⟩] 32)) := blk_below HBbs_6.out b
  have HBbx0_7 : Hid ((w7).heap[qbx0]? = some (.cells #[.int .i64 am0, .slice ox0 n0 px0, .string ab0] 32)) := blk_below HBbx0_6.out b
  have HOg_7 : Hid ((w7).ownsRow w.heap.size 68 2 (.slice og np pg) np (flatF P)) := owns_wide owng hb6.size
  have LOg : Hid (∀ g, (Value.ownBlock (.slice og np pg)) = some g → (w6).heap.size ≤ g) := fun g hg => owns_ge owng hg
  have HIg : Hid (∀ g, (Value.ownBlock (.slice og np pg)) = some g → g < (w7).heap.size) := fun g hg => owns_lt owng hg
  clear owng
  clear hb6 HOs_6 HOx0_6 HBa0_6 HBbs_6 HBbx0_6 cbx00 cbx01 cbx02 b
  go_upto_region 8 with fail
  obtain ⟨qbg, hqbg⟩ : ∃ q, q = (w7).heap.size := ⟨_, rfl⟩
  obtain ⟨w8, hW8⟩ : ∃ W, W = (w7).alloc (.cells #[.int .i64 304, .slice og np pg, .string ⟨#[]⟩] 32) := ⟨_, rfl⟩
  rw [← hW8, ← hqbg]
  have b : Below (w7).heap.size (w7) w8 := by rw [hW8]; exact (Below.refl _ _).alloc (Nat.le_refl _) _
  have hb8 : Below w.heap.size w (w8) := hb7.trans (b.mono hb7.size)
  have HM8 : Hid ((w7).heap.size ≤ (w8).heap.size) := b.size
  have HOs_8 : Hid ((w8).ownsRow w.heap.size 68 2 (.slice os np ps) np (flatF P)) := owns_below HOs_7.out b (fun g hg => owns_lt HOs_7.out hg)
  have HOx0_8 : Hid ((w8).ownsRow w.heap.size 68 2 (.slice ox0 n0 px0) n0 (flatF fs0)) := owns_below HOx0_7.out b (fun g hg => owns_lt HOx0_7.out hg)
  have HOg_8 : Hid ((w8).ownsRow w.heap.size 68 2 (.slice og np pg) np (flatF P)) := owns_below HOg_7.out b (fun g hg => owns_lt HOg_7.out hg)
  have HBa0_8 : Hid ((w8).heap[rq]? = some (.cells #[.int .i64 am0, .slice a0 n0 cap0, .string ab0] 43)) := blk_below HBa0_7.out b
  have HBbs_8 : Hid ((w8).heap[qbs]? = some (.cells #[.int .i64 304, .slice os np ps, .string ⟨#[]⟩] 32)) := blk_below HBbs_7.out b
  have HBbx0_8 : Hid ((w8).heap[qbx0]? = some (.cells #[.int .i64 am0, .slice ox0 n0 px0, .string ab0] 32)) := blk_below HBbx0_7.out b
  have HBbg_8 : Hid ((w8).heap[qbg]? = some (.cells #[.int .i64 304, .slice og np pg, .string ⟨#[]⟩] 32)) := by show _ = _; rw [hW8, hqbg]; exact heap_alloc_new _ _
  clear hb7 HOs_7 HOx0_7 HOg_7 HBa0_7 HBbs_7 HBbx0_7 b hW8 hqbg
  obtain ⟨⟨cbg0, cbg1, cbg2⟩, _⟩ := three_facts HBbg_8.out
  obtain ⟨⟨cbs0, cbs1, cbs2⟩, _⟩ := three_facts HBbs_8.out
  go_wp2_with fail
  refine (eqResp_any 304 _ _ ⟨#[]⟩ np _ _ P _ (FieldsV.of_owns HOg_8.out) (FieldsV.of_owns HOs_8.out) (by omega)).mono ?_
  rintro e w9 ⟨rfl, b⟩
  have hb9 : Below w.heap.size w (w9) := hb8.trans (b.mono hb8.size)
  have HM9 : Hid ((w8).heap.size ≤ (w9).heap.size) := b.size
  have HOs_9 : Hid ((w9).ownsRow w.heap.size 68 2 (.slice os np ps) np (flatF P)) := owns_below HOs_8.out b (fun g hg => owns_lt HOs_8.out hg)
  have HOx0_9 : Hid ((w9).ownsRow w.heap.size 68 2 (.slice ox0 n0 px0) n0 (flatF fs0)) := owns_below HOx0_8.out b (fun g hg => owns_lt HOx0_8.out hg)
  have HOg_9 : Hid ((w9).ownsRow w.heap.size 68 2 (.slice og np pg) np (flatF P)) := owns_below HOg_8.out b (fun g hg => owns_lt HOg_8.out hg)
  have HBa0_9 : Hid ((w9).heap[rq]? = some (.cells #[.int .i64 am0, .slice a0 n0 cap0, .string ab0] 43)) := blk_below HBa0_8.out b
  have HBbs_9 : Hid ((w9).heap[qbs]? = some (.cells #[.int .i64 304, .slice os np ps, .string ⟨#[]⟩] 32)) := blk_below HBbs_8.out b
  have HBbx0_9 : Hid ((w9).heap[qbx0]? = some (.cells #[.int .i64 am0, .slice ox0 n0 px0, .string ab0] 32)) := blk_below HBbx0_8.out b
  have HBbg_9 : Hid ((w9).heap[qbg]? = some (.cells #[.int .i64 304, .slice og np pg, .string ⟨#[]⟩] 32)) := blk_below HBbg_8.out b
  clear hb8 HOs_8 HOx0_8 HOg_8 HBa0_8 HBbs_8 HBbx0_8 HBbg_8 cbg0 cbg1 cbg2 cbs0 cbs1 cbs2 b
  have bd10 : Below (w9).heap.size (w9) (w9).drew := (Below.refl _ _).drew
  have hb10 : Below w.heap.size w (w9.drew) := hb9.trans (bd10.mono hb9.size)
  have HM10 : Hid ((w9).heap.size ≤ (w9.drew).heap.size) := bd10.size
  have HOs_10 : Hid ((w9.drew).ownsRow w.heap.size 68 2 (.slice os np ps) np (flatF P)) := owns_below HOs_9.out bd10 (fun g hg => owns_lt HOs_9.out hg)
  have HOx0_10 : Hid ((w9.drew).ownsRow w.heap.size 68 2 (.slice ox0 n0 px0) n0 (flatF fs0)) := owns_below HOx0_9.out bd10 (fun g hg => owns_lt HOx0_9.out hg)
  have HOg_10 : Hid ((w9.drew).ownsRow w.heap.size 68 2 (.slice og np pg) np (flatF P)) := owns_below HOg_9.out bd10 (fun g hg => owns_lt HOg_9.out hg)
  have HBa0_10 : Hid ((w9.drew).heap[rq]? = some (.cells #[.int .i64 am0, .slice a0 n0 cap0, .string ab0] 43)) := blk_below HBa0_9.out bd10
  have HBbs_10 : Hid ((w9.drew).heap[qbs]? = some (.cells #[.int .i64 304, .slice os np ps, .string ⟨#[]⟩] 32)) := blk_below HBbs_9.out bd10
  have HBbx0_10 : Hid ((w9.drew).heap[qbx0]? = some (.cells #[.int .i64 am0, .slice ox0 n0 px0, .string ab0] 32)) := blk_below HBbx0_9.out bd10
  have HBbg_10 : Hid ((w9.drew).heap[qbg]? = some (.cells #[.int .i64 304, .slice og np pg, .string ⟨#[]⟩] 32)) := blk_below HBbg_9.out bd10
  obtain ⟨⟨cbx00, cbx01, cbx02⟩, _⟩ := three_facts HBbx0_9.out
  obtain ⟨⟨ca00, ca01, ca02⟩, _⟩ := three_facts HBa0_9.out
  clear hb9 HOs_9 HOx0_9 HOg_9 HBa0_9 HBbs_9 HBbx0_9 HBbg_9 bd10
  go_wp2_with fail
  go_region_held3 (fun W => (W.cell? ⟨qbx0, 0, none⟩ = some (.int .i64 am0) ∧ W.cell? ⟨qbx0, 1, none⟩ = some (.slice ox0 n0 px0) ∧ W.cell? ⟨qbx0, 2, none⟩ = some (.string ab0)) ∧ (W.cell? ⟨rq, 0, none⟩ = some (.int .i64 am0) ∧ W.cell? ⟨rq, 1, none⟩ = some (.slice a0 n0 cap0) ∧ W.cell? ⟨rq, 2, none⟩ = some (.string ab0))) (first | assumption | go_keep) (first | (go_at_call_of 26 (Value.agg #[.int .i64 am0, .slice a0 n0 cap0, .string ab0]); refine (toResp_any am0 a0 n0 cap0 ab0 fs0 w.heap.size _ (HA0.out _ hb10) hb10.size hm0).mono ?_; rintro e w11 ⟨vvz0, rfl, ownz0, b⟩; obtain ⟨oz0, pz0, rfl⟩ := slice_of_owns ownz0; have hb11 : Below w.heap.size w (w11) := hb10.trans (b.mono hb10.size); have HM11 : Hid ((w9.drew).heap.size ≤ (w11).heap.size) := b.size; have HOs_11 : Hid ((w11).ownsRow w.heap.size 68 2 (.slice os np ps) np (flatF P)) := owns_below HOs_10.out b (fun g hg => owns_lt HOs_10.out hg); have HOx0_11 : Hid ((w11).ownsRow w.heap.size 68 2 (.slice ox0 n0 px0) n0 (flatF fs0)) := owns_below HOx0_10.out b (fun g hg => owns_lt HOx0_10.out hg); have HOg_11 : Hid ((w11).ownsRow w.heap.size 68 2 (.slice og np pg) np (flatF P)) := owns_below HOg_10.out b (fun g hg => owns_lt HOg_10.out hg); have HBa0_11 : Hid ((w11).heap[rq]? = some (.cells #[.int .i64 am0, .slice a0 n0 cap0, .string ab0] 43)) := blk_below HBa0_10.out b; have HBbs_11 : Hid ((w11).heap[qbs]? = some (.cells #[.int .i64 304, .slice os np ps, .string ⟨#[]⟩] 32)) := blk_below HBbs_10.out b; have HBbx0_11 : Hid ((w11).heap[qbx0]? = some (.cells #[.int .i64 am0, .slice ox0 n0 px0, .string ab0] 32)) := blk_below HBbx0_10.out b; have HBbg_11 : Hid ((w11).heap[qbg]? = some (.cells #[.int .i64 304, .slice og np pg, .string ⟨#[]⟩] 32)) := blk_below HBbg_10.out b; have HOz0_11 : Hid ((w11).ownsRow w.heap.size 68 2 (.slice oz0 n0 pz0) n0 (flatF fs0)) := owns_wide ownz0 hb10.size; have LOz0 : Hid (∀ g, (Value.ownBlock (.slice oz0 n0 pz0)) = some g → (w9.drew).heap.size ≤ g) := fun g hg => owns_ge ownz0 hg; have HIz0 : Hid (∀ g, (Value.ownBlock (.slice oz0 n0 pz0)) = some g → g < (w11).heap.size) := fun g hg => owns_lt ownz0 hg; clear ownz0; have hSS11 : (w11.cell? ⟨qbx0, 0, none⟩ = some (.int .i64 am0) ∧ w11.cell? ⟨qbx0, 1, none⟩ = some (.slice ox0 n0 px0) ∧ w11.cell? ⟨qbx0, 2, none⟩ = some (.string ab0)) ∧ (w11.cell? ⟨rq, 0, none⟩ = some (.int .i64 am0) ∧ w11.cell? ⟨rq, 1, none⟩ = some (.slice a0 n0 cap0) ∧ w11.cell? ⟨rq, 2, none⟩ = some (.string ab0)) := ⟨(three_facts HBbx0_11.out).1, (three_facts HBa0_11.out).1⟩; clear hb10 HOs_10 HOx0_10 HOg_10 HBa0_10 HBbs_10 HBbx0_10 HBbg_10 b) | (go_at_call 29; refine (eqResp_any am0 _ _ ab0 n0 _ _ fs0 _ (FieldsV.of_owns HOx0_11.out) (FieldsV.of_owns HOz0_11.out) (by omega)).mono ?_; rintro e w12 ⟨rfl, b⟩; have hb12 : Below w.heap.size w (w12) := hb11.trans (b.mono hb11.size); have HM12 : Hid ((w11).heap.size ≤ (w12).heap.size) := b.size; have HOs_12 : Hid ((w12).ownsRow w.heap.size 68 2 (.slice os np ps) np (flatF P)) := owns_below HOs_11.out b (fun g hg => owns_lt HOs_11.out hg); have HOx0_12 : Hid ((w12).ownsRow w.heap.size 68 2 (.slice ox0 n0 px0) n0 (flatF fs0)) := owns_below HOx0_11.out b (fun g hg => owns_lt HOx0_11.out hg); have HOg_12 : Hid ((w12).ownsRow w.heap.size 68 2 (.slice og np pg) np (flatF P)) := owns_below HOg_11.out b (fun g hg => owns_lt HOg_11.out hg); have HOz0_12 : Hid ((w12).ownsRow w.heap.size 68 2 (.slice oz0 n0 pz0) n0 (flatF fs0)) := owns_below HOz0_11.out b (fun g hg => owns_lt HOz0_11.out hg); have HBa0_12 : Hid ((w12).heap[rq]? = some (.cells #[.int .i64 am0, .slice a0 n0 cap0, .string ab0] 43)) := blk_below HBa0_11.out b; have HBbs_12 : Hid ((w12).heap[qbs]? = some (.cells #[.int .i64 304, .slice os np ps, .string ⟨#[]⟩] 32)) := blk_below HBbs_11.out b; have HBbx0_12 : Hid ((w12).heap[qbx0]? = some (.cells #[.int .i64 am0, .slice ox0 n0 px0, .string ab0] 32)) := blk_below HBbx0_11.out b; have HBbg_12 : Hid ((w12).heap[qbg]? = some (.cells #[.int .i64 304, .slice og np pg, .string ⟨#[]⟩] 32)) := blk_below HBbg_11.out b; have hSS12 : (w12.cell? ⟨qbx0, 0, none⟩ = some (.int .i64 am0) ∧ w12.cell? ⟨qbx0, 1, none⟩ = some (.slice ox0 n0 px0) ∧ w12.cell? ⟨qbx0, 2, none⟩ = some (.string ab0)) ∧ (w12.cell? ⟨rq, 0, none⟩ = some (.int .i64 am0) ∧ w12.cell? ⟨rq, 1, none⟩ = some (.slice a0 n0 cap0) ∧ w12.cell? ⟨rq, 2, none⟩ = some (.string ab0)) := ⟨(three_facts HBbx0_12.out).1, (three_facts HBa0_12.out).1⟩; clear hb11 HOs_11 HOx0_11 HOg_11 HOz0_11 HBa0_11 HBbs_11 HBbx0_11 HBbg_11 b; clear HOz0_12))
  clear hSS12
  obtain ⟨⟨cbx00, cbx01, cbx02⟩, _⟩ := three_facts HBbx0_12.out
  go_wp2_with fail
  refine (markRespFrom_any am0 _ ab0 n0 w.heap.size fs0 _ HOx0_12.out hb12.size (1) (by omega) (by omega)).mono ?_
  rintro e w13 ⟨rfl, mk, bm, far⟩
  have hb13 : Below w.heap.size w w13 := hb12.trans bm
  have HM13 : Hid ((w12).heap.size ≤ (w13).heap.size) := bm.size
  have HOs_13 : Hid ((w13).ownsRow w.heap.size 68 2 (.slice os np ps) np (flatF P)) := owns_same HOs_12.out (fun g hg => far g (owns_lt HOs_12.out hg) (fun e => by have h1 := LOx0.out g e; have h2 := HIs.out g hg; have := HM4.out; omega))
  have HOg_13 : Hid ((w13).ownsRow w.heap.size 68 2 (.slice og np pg) np (flatF P)) := owns_same HOg_12.out (fun g hg => far g (owns_lt HOg_12.out hg) (fun e => by have h1 := LOg.out g hg; have h2 := HIx0.out g e; have := HM6.out; omega))
  have HBa0_13 : Hid ((w13).heap[rq]? = some (.cells #[.int .i64 am0, .slice a0 n0 cap0, .string ab0] 43)) := blk_far HBa0_12.out far HOx0_12.out (by decide)
  have HBbs_13 : Hid ((w13).heap[qbs]? = some (.cells #[.int .i64 304, .slice os np ps, .string ⟨#[]⟩] 32)) := blk_far HBbs_12.out far HOx0_12.out (by decide)
  have HBbx0_13 : Hid ((w13).heap[qbx0]? = some (.cells #[.int .i64 am0, .slice ox0 n0 px0, .string ab0] 32)) := blk_far HBbx0_12.out far HOx0_12.out (by decide)
  have HBbg_13 : Hid ((w13).heap[qbg]? = some (.cells #[.int .i64 304, .slice og np pg, .string ⟨#[]⟩] 32)) := blk_far HBbg_12.out far HOx0_12.out (by decide)
  have HOx0_13 : Hid ((w13).ownsRow w.heap.size 68 2 (.slice ox0 n0 px0) n0 (flatF (mkG (1) fs0 n0))) := mk
  clear hb12 HOs_12 HOx0_12 HOg_12 HBa0_12 HBbs_12 HBbx0_12 HBbg_12 cbx00 cbx01 cbx02 mk bm far
  clear HOx0_13 HBbx0_13
  rw [show ((((1 : Nat) : Int)) + 2 * (n0 : Int)) = ((1 + 2 * n0 : Nat) : Int) by omega]
  have hk1 : ¬ (((1 + 2 * n0 : Nat) : Int) < 0) := by omega
  obtain ⟨⟨cbg0, cbg1, cbg2⟩, _⟩ := three_facts HBbg_13.out
  obtain ⟨⟨cbs0, cbs1, cbs2⟩, _⟩ := three_facts HBbs_13.out
  go_wp2_with fail
  refine (eqResp_any 304 _ _ ⟨#[]⟩ np _ _ P _ (FieldsV.of_owns HOg_13.out) (FieldsV.of_owns HOs_13.out) (by omega)).mono ?_
  rintro e w14 ⟨rfl, b⟩
  have hb14 : Below w.heap.size w (w14) := hb13.trans (b.mono hb13.size)
  have HM14 : Hid ((w13).heap.size ≤ (w14).heap.size) := b.size
  have HOs_14 : Hid ((w14).ownsRow w.heap.size 68 2 (.slice os np ps) np (flatF P)) := owns_below HOs_13.out b (fun g hg => owns_lt HOs_13.out hg)
  have HOg_14 : Hid ((w14).ownsRow w.heap.size 68 2 (.slice og np pg) np (flatF P)) := owns_below HOg_13.out b (fun g hg => owns_lt HOg_13.out hg)
  have HBa0_14 : Hid ((w14).heap[rq]? = some (.cells #[.int .i64 am0, .slice a0 n0 cap0, .string ab0] 43)) := blk_below HBa0_13.out b
  have HBbs_14 : Hid ((w14).heap[qbs]? = some (.cells #[.int .i64 304, .slice os np ps, .string ⟨#[]⟩] 32)) := blk_below HBbs_13.out b
  have HBbg_14 : Hid ((w14).heap[qbg]? = some (.cells #[.int .i64 304, .slice og np pg, .string ⟨#[]⟩] 32)) := blk_below HBbg_13.out b
  clear hb13 HOs_13 HOg_13 HBa0_13 HBbs_13 HBbg_13 cbg0 cbg1 cbg2 cbs0 cbs1 cbs2 b
  clear hk1
  obtain ⟨⟨cbg0, cbg1, cbg2⟩, _⟩ := three_facts HBbg_14.out
  go_wp2_with fail
  refine (markRespFrom_any 304 _ ⟨#[]⟩ np w.heap.size P _ HOg_14.out hb14.size 1 (by omega) (by omega)).mono ?_
  rintro e w15 ⟨rfl, mk, bm, far⟩
  have hb15 : Below w.heap.size w w15 := hb14.trans bm
  have HM15 : Hid ((w14).heap.size ≤ (w15).heap.size) := bm.size
  have HOs_15 : Hid ((w15).ownsRow w.heap.size 68 2 (.slice os np ps) np (flatF P)) := owns_same HOs_14.out (fun g hg => far g (owns_lt HOs_14.out hg) (fun e => by have h1 := LOg.out g e; have h2 := HIs.out g hg; have := HM4.out; have := HM5.out; have := HM6.out; omega))
  have HBa0_15 : Hid ((w15).heap[rq]? = some (.cells #[.int .i64 am0, .slice a0 n0 cap0, .string ab0] 43)) := blk_far HBa0_14.out far HOg_14.out (by decide)
  have HBbs_15 : Hid ((w15).heap[qbs]? = some (.cells #[.int .i64 304, .slice os np ps, .string ⟨#[]⟩] 32)) := blk_far HBbs_14.out far HOg_14.out (by decide)
  have HBbg_15 : Hid ((w15).heap[qbg]? = some (.cells #[.int .i64 304, .slice og np pg, .string ⟨#[]⟩] 32)) := blk_far HBbg_14.out far HOg_14.out (by decide)
  have HOg_15 : Hid ((w15).ownsRow w.heap.size 68 2 (.slice og np pg) np (flatF (mkG 1 P np))) := mk
  clear hb14 HOs_14 HOg_14 HBa0_14 HBbs_14 HBbg_14 cbg0 cbg1 cbg2 mk bm far
  rw [show ((((1 : Nat) : Int)) + 2 * (np : Int)) = ((1 + 2 * np : Nat) : Int) by omega]
  have HK : Hid (∀ j, j < np → nameAt (mkG 1 P np) j = markOf (1 + 2 * j) ∧ valAt (mkG 1 P np) j = markOf (1 + 2 * j + 1)) := fun j hj => mkG_at 1 P j np (by rw [HNP.out]; exact Nat.le_refl _) hj
  have hk2 : ¬ (((1 + 2 * np : Nat) : Int) < 0) := by omega
  have hk3 : ((((1 + 2 * np : Nat) : Int)) != (((1 + 2 * np : Nat) : Int))) = false := by simp
  obtain ⟨⟨cbg0, cbg1, cbg2⟩, _⟩ := three_facts HBbg_15.out
  go_wp2_with fail
  refine (heldRespFrom_any 304 _ ⟨#[]⟩ np w.heap.size (mkG 1 P np) _ HOg_15.out 1 (by omega) (by omega) HK.out).mono ?_
  rintro e w16 ⟨rfl, b⟩
  have hb16 : Below w.heap.size w (w16) := hb15.trans (b.mono hb15.size)
  have HM16 : Hid ((w15).heap.size ≤ (w16).heap.size) := b.size
  have HOs_16 : Hid ((w16).ownsRow w.heap.size 68 2 (.slice os np ps) np (flatF P)) := owns_below HOs_15.out b (fun g hg => owns_lt HOs_15.out hg)
  have HOg_16 : Hid ((w16).ownsRow w.heap.size 68 2 (.slice og np pg) np (flatF (mkG 1 P np))) := owns_below HOg_15.out b (fun g hg => owns_lt HOg_15.out hg)
  have HBa0_16 : Hid ((w16).heap[rq]? = some (.cells #[.int .i64 am0, .slice a0 n0 cap0, .string ab0] 43)) := blk_below HBa0_15.out b
  have HBbs_16 : Hid ((w16).heap[qbs]? = some (.cells #[.int .i64 304, .slice os np ps, .string ⟨#[]⟩] 32)) := blk_below HBbs_15.out b
  have HBbg_16 : Hid ((w16).heap[qbg]? = some (.cells #[.int .i64 304, .slice og np pg, .string ⟨#[]⟩] 32)) := blk_below HBbg_15.out b
  clear hb15 HOs_15 HOg_15 HBa0_15 HBbs_15 HBbg_15 cbg0 cbg1 cbg2 b
  rw [show ((((1 : Nat) : Int)) + 2 * (np : Int)) = ((1 + 2 * np : Nat) : Int) by omega]
  obtain ⟨⟨ca00, ca01, ca02⟩, _⟩ := three_facts HBa0_16.out
  go_wp2_with fail
  refine (toResp_any am0 a0 n0 cap0 ab0 fs0 w.heap.size _ (HA0.out _ hb16) hb16.size hm0).mono ?_
  rintro e w17 ⟨vvy0, rfl, owny0, b⟩
  obtain ⟨oy0, py0, rfl⟩ := slice_of_owns owny0
  have hb17 : Below w.heap.size w (w17) := hb16.trans (b.mono hb16.size)
  have HM17 : Hid ((w16).heap.size ≤ (w17).heap.size) := b.size
  have HOs_17 : Hid ((w17).ownsRow w.heap.size 68 2 (.slice os np ps) np (flatF P)) := owns_below HOs_16.out b (fun g hg => owns_lt HOs_16.out hg)
  have HOg_17 : Hid ((w17).ownsRow w.heap.size 68 2 (.slice og np pg) np (flatF (mkG 1 P np))) := owns_below HOg_16.out b (fun g hg => owns_lt HOg_16.out hg)
  have HBa0_17 : Hid ((w17).heap[rq]? = some (.cells #[.int .i64 am0, .slice a0 n0 cap0, .string ab0] 43)) := blk_below HBa0_16.out b
  have HBbs_17 : Hid ((w17).heap[qbs]? = some (.cells #[.int .i64 304, .slice os np ps, .string ⟨#[]⟩] 32)) := blk_below HBbs_16.out b
  have HBbg_17 : Hid ((w17).heap[qbg]? = some (.cells #[.int .i64 304, .slice og np pg, .string ⟨#[]⟩] 32)) := blk_below HBbg_16.out b
  have HOy0_17 : Hid ((w17).ownsRow w.heap.size 68 2 (.slice oy0 n0 py0) n0 (flatF fs0)) := owns_wide owny0 hb16.size
  have LOy0 : Hid (∀ g, (Value.ownBlock (.slice oy0 n0 py0)) = some g → (w16).heap.size ≤ g) := fun g hg => owns_ge owny0 hg
  have HIy0 : Hid (∀ g, (Value.ownBlock (.slice oy0 n0 py0)) = some g → g < (w17).heap.size) := fun g hg => owns_lt owny0 hg
  clear owny0
  clear hb16 HOs_16 HOg_16 HBa0_16 HBbs_16 HBbg_16 ca00 ca01 ca02 b
  go_wp2_with fail
  refine (HIM.out _ _ _ (FieldsV.of_owns HOy0_17.out)).mono ?_
  rintro e w18 ⟨vvh, rfl, ownh, b⟩
  obtain ⟨oh, ph, rfl⟩ := slice_of_owns ownh
  have hb18 : Below w.heap.size w (w18) := hb17.trans (b.mono hb17.size)
  have HM18 : Hid ((w17).heap.size ≤ (w18).heap.size) := b.size
  have HOs_18 : Hid ((w18).ownsRow w.heap.size 68 2 (.slice os np ps) np (flatF P)) := owns_below HOs_17.out b (fun g hg => owns_lt HOs_17.out hg)
  have HOg_18 : Hid ((w18).ownsRow w.heap.size 68 2 (.slice og np pg) np (flatF (mkG 1 P np))) := owns_below HOg_17.out b (fun g hg => owns_lt HOg_17.out hg)
  have HOy0_18 : Hid ((w18).ownsRow w.heap.size 68 2 (.slice oy0 n0 py0) n0 (flatF fs0)) := owns_below HOy0_17.out b (fun g hg => owns_lt HOy0_17.out hg)
  have HBa0_18 : Hid ((w18).heap[rq]? = some (.cells #[.int .i64 am0, .slice a0 n0 cap0, .string ab0] 43)) := blk_below HBa0_17.out b
  have HBbs_18 : Hid ((w18).heap[qbs]? = some (.cells #[.int .i64 304, .slice os np ps, .string ⟨#[]⟩] 32)) := blk_below HBbs_17.out b
  have HBbg_18 : Hid ((w18).heap[qbg]? = some (.cells #[.int .i64 304, .slice og np pg, .string ⟨#[]⟩] 32)) := blk_below HBbg_17.out b
  have HOh_18 : Hid ((w18).ownsRow w.heap.size 68 2 (.slice oh np ph) np (flatF P)) := owns_wide ownh hb17.size
  have LOh : Hid (∀ g, (Value.ownBlock (.slice oh np ph)) = some g → (w17).heap.size ≤ g) := fun g hg => owns_ge ownh hg
  have HIh : Hid (∀ g, (Value.ownBlock (.slice oh np ph)) = some g → g < (w18).heap.size) := fun g hg => owns_lt ownh hg
  clear ownh
  clear hb17 HOs_17 HOg_17 HOy0_17 HBa0_17 HBbs_17 HBbg_17 b
  clear HOy0_18
  go_upto_region 25 with fail
  obtain ⟨qbh, hqbh⟩ : ∃ q, q = (w18).heap.size := ⟨_, rfl⟩
  obtain ⟨w19, hW19⟩ : ∃ W, W = (w18).alloc (.cells #[.int .i64 304, .slice oh np ph, .string ⟨#[]⟩] 32) := ⟨_, rfl⟩
  rw [← hW19, ← hqbh]
  have b : Below (w18).heap.size (w18) w19 := by rw [hW19]; exact (Below.refl _ _).alloc (Nat.le_refl _) _
  have hb19 : Below w.heap.size w (w19) := hb18.trans (b.mono hb18.size)
  have HM19 : Hid ((w18).heap.size ≤ (w19).heap.size) := b.size
  have HOs_19 : Hid ((w19).ownsRow w.heap.size 68 2 (.slice os np ps) np (flatF P)) := owns_below HOs_18.out b (fun g hg => owns_lt HOs_18.out hg)
  have HOg_19 : Hid ((w19).ownsRow w.heap.size 68 2 (.slice og np pg) np (flatF (mkG 1 P np))) := owns_below HOg_18.out b (fun g hg => owns_lt HOg_18.out hg)
  have HOh_19 : Hid ((w19).ownsRow w.heap.size 68 2 (.slice oh np ph) np (flatF P)) := owns_below HOh_18.out b (fun g hg => owns_lt HOh_18.out hg)
  have HBa0_19 : Hid ((w19).heap[rq]? = some (.cells #[.int .i64 am0, .slice a0 n0 cap0, .string ab0] 43)) := blk_below HBa0_18.out b
  have HBbs_19 : Hid ((w19).heap[qbs]? = some (.cells #[.int .i64 304, .slice os np ps, .string ⟨#[]⟩] 32)) := blk_below HBbs_18.out b
  have HBbg_19 : Hid ((w19).heap[qbg]? = some (.cells #[.int .i64 304, .slice og np pg, .string ⟨#[]⟩] 32)) := blk_below HBbg_18.out b
  have HBbh_19 : Hid ((w19).heap[qbh]? = some (.cells #[.int .i64 304, .slice oh np ph, .string ⟨#[]⟩] 32)) := by show _ = _; rw [hW19, hqbh]; exact heap_alloc_new _ _
  clear hb18 HOs_18 HOg_18 HOh_18 HBa0_18 HBbs_18 HBbg_18 b hW19 hqbh
  obtain ⟨⟨cbh0, cbh1, cbh2⟩, _⟩ := three_facts HBbh_19.out
  obtain ⟨⟨cbs0, cbs1, cbs2⟩, _⟩ := three_facts HBbs_19.out
  go_wp2_with fail
  refine (eqResp_any 304 _ _ ⟨#[]⟩ np _ _ P _ (FieldsV.of_owns HOh_19.out) (FieldsV.of_owns HOs_19.out) (by omega)).mono ?_
  rintro e w20 ⟨rfl, b⟩
  have hb20 : Below w.heap.size w (w20) := hb19.trans (b.mono hb19.size)
  have HM20 : Hid ((w19).heap.size ≤ (w20).heap.size) := b.size
  have HOs_20 : Hid ((w20).ownsRow w.heap.size 68 2 (.slice os np ps) np (flatF P)) := owns_below HOs_19.out b (fun g hg => owns_lt HOs_19.out hg)
  have HOg_20 : Hid ((w20).ownsRow w.heap.size 68 2 (.slice og np pg) np (flatF (mkG 1 P np))) := owns_below HOg_19.out b (fun g hg => owns_lt HOg_19.out hg)
  have HOh_20 : Hid ((w20).ownsRow w.heap.size 68 2 (.slice oh np ph) np (flatF P)) := owns_below HOh_19.out b (fun g hg => owns_lt HOh_19.out hg)
  have HBa0_20 : Hid ((w20).heap[rq]? = some (.cells #[.int .i64 am0, .slice a0 n0 cap0, .string ab0] 43)) := blk_below HBa0_19.out b
  have HBbs_20 : Hid ((w20).heap[qbs]? = some (.cells #[.int .i64 304, .slice os np ps, .string ⟨#[]⟩] 32)) := blk_below HBbs_19.out b
  have HBbg_20 : Hid ((w20).heap[qbg]? = some (.cells #[.int .i64 304, .slice og np pg, .string ⟨#[]⟩] 32)) := blk_below HBbg_19.out b
  have HBbh_20 : Hid ((w20).heap[qbh]? = some (.cells #[.int .i64 304, .slice oh np ph, .string ⟨#[]⟩] 32)) := blk_below HBbh_19.out b
  clear hb19 HOs_19 HOg_19 HOh_19 HBa0_19 HBbs_19 HBbg_19 HBbh_19 cbh0 cbh1 cbh2 cbs0 cbs1 cbs2 b
  obtain ⟨⟨cbg0, cbg1, cbg2⟩, _⟩ := three_facts HBbg_20.out
  go_wp2_with fail
  refine (heldRespFrom_any 304 _ ⟨#[]⟩ np w.heap.size (mkG 1 P np) _ HOg_20.out 1 (by omega) (by omega) HK.out).mono ?_
  rintro e w21 ⟨rfl, b⟩
  have hb21 : Below w.heap.size w (w21) := hb20.trans (b.mono hb20.size)
  have HM21 : Hid ((w20).heap.size ≤ (w21).heap.size) := b.size
  have HOs_21 : Hid ((w21).ownsRow w.heap.size 68 2 (.slice os np ps) np (flatF P)) := owns_below HOs_20.out b (fun g hg => owns_lt HOs_20.out hg)
  have HOg_21 : Hid ((w21).ownsRow w.heap.size 68 2 (.slice og np pg) np (flatF (mkG 1 P np))) := owns_below HOg_20.out b (fun g hg => owns_lt HOg_20.out hg)
  have HOh_21 : Hid ((w21).ownsRow w.heap.size 68 2 (.slice oh np ph) np (flatF P)) := owns_below HOh_20.out b (fun g hg => owns_lt HOh_20.out hg)
  have HBa0_21 : Hid ((w21).heap[rq]? = some (.cells #[.int .i64 am0, .slice a0 n0 cap0, .string ab0] 43)) := blk_below HBa0_20.out b
  have HBbs_21 : Hid ((w21).heap[qbs]? = some (.cells #[.int .i64 304, .slice os np ps, .string ⟨#[]⟩] 32)) := blk_below HBbs_20.out b
  have HBbg_21 : Hid ((w21).heap[qbg]? = some (.cells #[.int .i64 304, .slice og np pg, .string ⟨#[]⟩] 32)) := blk_below HBbg_20.out b
  have HBbh_21 : Hid ((w21).heap[qbh]? = some (.cells #[.int .i64 304, .slice oh np ph, .string ⟨#[]⟩] 32)) := blk_below HBbh_20.out b
  clear hb20 HOs_20 HOg_20 HOh_20 HBa0_20 HBbs_20 HBbg_20 HBbh_20 cbg0 cbg1 cbg2 b
  rw [show ((((1 : Nat) : Int)) + 2 * (np : Int)) = ((1 + 2 * np : Nat) : Int) by omega]
  go_wp2_with fail
  go_ret
  exact ⟨rfl, hb21⟩

set_option maxRecDepth 100000 in
theorem lifted (os : Os) (started : os.Started) (H : Type) (enc : TypeId × Value → H) :
    ReturnsInHanded {} Try.checked os 8 .any (Rows.fnExactShortSpec.pre6 enc Try.prog Try.f8 Rows.fnExactShortRow.domain false) (Rows.fnExactShortSpec.post enc Try.prog Try.f8 false true false false) := by
  refine returnsInHanded_of_change (C := Try.checked) own started (by kernel_rfl) Try.func8
    (ChangeSpec.witness6 (enc := enc) (C := Try.checked) false ⟨#[], #[.agg #[.int .i64 0, .slice none 0 0, .string ByteArray.empty]], []⟩ 8 (by kernel_rfl) (by kernel_rfl) (by kernel_rfl) (by kernel_rfl)) ?_
  intro W base args ds gs before hval0 hW _ _
  have hval : ∀ (j : Nat) t v, Try.f8.params[j]? = some t → args[j]? = some v → Value.okWide Try.prog W .any base t v := hval0
  have hW' := hW
  obtain ⟨p, q, hA0, hV, rfl, hfz, hnd⟩ := hW
  have hA : DataW.TrodAll enc Try.prog W 0 (fun _ => true) true Try.f8.params.toList args.toList ds p := hA0
  rw [Try.params8] at hA hval
  obtain ⟨v0, vs0, d0, ds0, p0, q0, hargs, rfl, rfl, h0, r0⟩ := trodAll_cons hA
  obtain ⟨rfl, rfl, rfl⟩ := trodAll_nil r0
  obtain rfl : args = #[v0] := by cases args; simp_all
  obtain ⟨rfl, rfl⟩ := trodVars_none hV
  have k0 := h0
  have lt0 : ∀ x ∈ p0, x.block < W.heap.size := by obtain ⟨m, hm⟩ := k0; exact DataW.trod_lt m _ _ _ hm
  obtain ⟨am0, a0, n0, cap0, ab0, fs0, rfl, ga0, gb0, gc0, ge0⟩ := openResp (hval 0 43 v0 rfl rfl) h0
  clear hA0 hval0
  refine (walk1 W am0 a0 n0 cap0 ab0 fs0 ga0 gb0 gc0 ge0).mono fun e W' ⟨he, bel⟩ => ?_
  subst he
  exact ⟨_, rfl, _, _, _, [], _, [], hW', trodAll_mk1 (shut_bool Try.underlying4 _), (trodAll_cons_mk (Below.trod laidOut (by kernel_rfl) (of_decide_eq_true (by kernel_rfl)) k0 bel lt0) trodAll_mk0), rfl, bel.frame _, fun h => by cases h⟩

theorem over : Rows.fnExactShortRow.holds Try.pinned (OpenSpec.ofChange Rows.fnExactShortSpec) :=
  OpenClaim.holds_of_wide 8 Try.f8 rfl rfl rfl rfl rfl rfl rfl ⟨rfl, rfl, rfl, rfl, rfl⟩ rfl rfl rfl rfl rfl (by kernel_rfl) Try.func8 (by kernel_rfl)
    (of_decide_eq_true (by kernel_rfl)) (by unfold Func.isWrapper; first | (rw [if_pos (by decide +kernel)]; kernel_rfl) | (rw [if_neg (by decide +kernel)]; exact ⟨rfl, rfl⟩))
    (fun os started H enc _ => lifted os started H enc)
end fnExactShort

theorem fnExactShort_holds : Rows.FnExactShortSaid := fnExactShort.over
#print axioms fnExactShort_holds
end Go.Proofs.Ythlmnmbhgkmbfaa
