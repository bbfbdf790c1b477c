/- Ask: at every argument the program answers as the specification (the law answers true), it writes into no argument, and its answer owns its memory: no condition. -/
import Derived.Test.YthlmnmbhgkmbfaaFnExactAskB
import Derived.Test.YthlmnmbhgkmbfaaRows
import Derived.WalkKit
import Derived.ProofKit
import Derived.OpenShut
import Derived.ShutString
import Derived.ChangeOld
import Derived.Below
import Derived.Deep.RegionHeld3
import Derived.Deep.DrawnRows
namespace Go.Proofs.Ythlmnmbhgkmbfaa
namespace fnExactAsk
open Go.ChangeShapes Go.WideShapes Go.ChangeAt Go.RowKit
open Go.ChangeMaps (open_string shut_string)
attribute [local go_sem ↓] Go.wp_at_zero Go.wp_at_succ

theorem own : ownKnob Try.prog.godebug = none := by kernel_rfl
theorem laidOut : laidOutB Try.prog = true := by kernel_rfl
theorem argWide {w : World} {B B' : Nat} {a : Option Addr} {n : Nat} {fs : List (ByteArray × ByteArray)} (h : ArgF w B a n fs) (hB : B ≤ B') : ArgF w B' a n fs :=
  ⟨h.len, fun i hi => by
    obtain ⟨b, off, h1, h2, h3⟩ := h.get i hi
    exact ⟨b, off, h1, Nat.lt_of_lt_of_le h2 hB, h3⟩⟩
theorem ask_le (m : Int) (p : ByteArray) (fs : List (ByteArray × ByteArray)) (b : ByteArray) (gs : List (ByteArray × ByteArray)) : (askF m p fs b gs).length ≤ fs.length + 1 := by
  unfold askF
  split
  · exact putF_le fs inmName _
  · have := dropTo_len fs (atI fs inmName) fs.length
    unfold dropF
    omega
theorem merge_le (st : Int) (fs : List (ByteArray × ByteArray)) (b : ByteArray) (gs : List (ByteArray × ByteArray)) : (mergeF st fs b gs).length ≤ fs.length + gs.length := by
  unfold mergeF
  split
  · exact putAll_le fs gs
  · omega

set_option maxHeartbeats 8000000 in
set_option maxRecDepth 100000 in
theorem walk1 (w : World) (am0 : Int) (ap0 : ByteArray) (a0 : Option Addr) (n0 cap0 : Nat) (ab0 : ByteArray) (fs0 : List (ByteArray × ByteArray)) (harg0 : ArgF w w.heap.size a0 n0 fs0) (hn0 : n0 ≤ maxLen) (hs0 : WalkF n0 fs0) (hp0 : ap0.size ≤ maxLen) (hx0 : ab0.size ≤ maxLen) (a1 : Option Addr) (n1 cap1 : Nat) (fs1 : List (ByteArray × ByteArray)) (harg1 : ArgF w w.heap.size a1 n1 fs1) (hn1 : n1 ≤ maxLen) (hs1 : WalkF n1 fs1) :
    Calls Try.prog 5 #[.agg #[.int .i64 am0, .string ap0, .slice a0 n0 cap0, .string ab0], .slice a1 n1 cap1] w fun e w' => e = .returned (.bool true) ∧ Below w.heap.size w w' := by
  have HA0 : Hid (∀ W, Below w.heap.size w W → ArgF W w.heap.size a0 n0 fs0) := fun W h => harg0.below h
  have HLEN0 : Hid (fs0.length = n0) := harg0.len
  have HS0 : Hid (WalkF n0 fs0) := hs0
  have HN0 : Hid (n0 ≤ maxLen) := hn0
  have HPX0 : Hid (ap0.size ≤ maxLen) := hp0
  clear hp0
  have HBX0 : Hid (ab0.size ≤ maxLen) := hx0
  clear hx0
  clear harg0 hs0 hn0
  have HA1 : Hid (∀ W, Below w.heap.size w W → ArgF W w.heap.size a1 n1 fs1) := fun W h => harg1.below h
  have HLEN1 : Hid (fs1.length = n1) := harg1.len
  have HS1 : Hid (WalkF n1 fs1) := hs1
  have HN1 : Hid (n1 ≤ maxLen) := hn1
  clear harg1 hs1 hn1
  obtain ⟨rq, hrq⟩ : ∃ r, r = w.heap.size := ⟨_, rfl⟩
  obtain ⟨w0, hw0⟩ : ∃ W, W = (w.alloc (.cells #[.int .i64 am0, .string ap0, .slice a0 n0 cap0, .string ab0] 41)) := ⟨_, rfl⟩
  have HW0 : Hid ((w.alloc (.cells #[.int .i64 am0, .string ap0, .slice a0 n0 cap0, .string ab0] 41)) = w0) := hw0.symm
  have hb0 : Below w.heap.size w w0 := by rw [hw0]; exact (Below.refl _ w).alloc (Nat.le_refl _) _
  have HBa0_0 : Hid ((w0).heap[rq]? = some (.cells #[.int .i64 am0, .string ap0, .slice a0 n0 cap0, .string ab0] 41)) := by
    show _ = _
    have h := heap_alloc_new w (.cells #[.int .i64 am0, .string ap0, .slice a0 n0 cap0, .string ab0] 41)
    have hz : (w).heap.size = rq := by rw [hrq]
    rw [hz] at h
    rw [hw0]
    exact h
  clear hw0
  go_enter Try.func5, Try.ntmps5
  go_upto_region 1 with fail
  rw [HW0.out, ← hrq]
  clear HW0 hrq
  obtain ⟨⟨ca00, ca01, ca02, ca03⟩, _⟩ := four_facts HBa0_0.out
  go_wp2_with fail
  refine (szReq_room 1048576 (by omega) (by omega) am0 ap0 a0 n0 cap0 ab0 fs0 _ (argWide (HA0.out _ hb0) hb0.size) HN0.out HS0.out HPX0.out HBX0.out).mono ?_
  rintro e w1 ⟨r0, rfl, hrl0, hr0, b⟩
  have hb1 : Below w.heap.size w (w1) := hb0.trans (b.mono hb0.size)
  have HM1 : Hid ((w0).heap.size ≤ (w1).heap.size) := b.size
  have HBa0_1 : Hid ((w1).heap[rq]? = some (.cells #[.int .i64 am0, .string ap0, .slice a0 n0 cap0, .string ab0] 41)) := blk_below HBa0_0.out b
  clear hb0 HBa0_0 ca00 ca01 ca02 ca03 b
  by_cases hq0 : r0 < 0
  · clear hr0
    go_wp2_with fail
    go_ret
    exact ⟨rfl, hb1⟩
  obtain ⟨hrm0, ⟨hp0, hx0⟩, hm0, hz0⟩ := hr0 (by omega)
  clear hr0
  have HC0 : Hid (CopyF fs0) := fun i hi => by
    have := szTo_get fs0 n0 i (by rw [← HLEN0.out]; exact hi)
    omega
  have HG0 : Hid (∀ x, (getV fs0 x).size ≤ 1048576) := fun x => by
    unfold getV
    split
    · rename_i h
      have := szTo_get fs0 n0 (atF fs0 x) (by rw [← HLEN0.out]; exact h)
      omega
    · decide
  clear hz0
  have HP0 : Hid (ap0.size ≤ 1048576) := hp0
  clear hp0
  have HX0 : Hid (ab0.size ≤ 1048576) := hx0
  clear hx0
  go_wp2_with fail
  refine (szFieldS_exact r0 (by omega) (by omega) w.heap.size a1 n1 cap1 fs1 _ (HA1.out _ hb1) hb1.size HN1.out HS1.out).mono ?_
  rintro e w2 ⟨r1, rfl, hrl1, hr1, b⟩
  have hb2 : Below w.heap.size w (w2) := hb1.trans (b.mono hb1.size)
  have HM2 : Hid ((w1).heap.size ≤ (w2).heap.size) := b.size
  have HBa0_2 : Hid ((w2).heap[rq]? = some (.cells #[.int .i64 am0, .string ap0, .slice a0 n0 cap0, .string ab0] 41)) := blk_below HBa0_1.out b
  clear hb1 HBa0_1 b
  by_cases hq1 : r1 < 0
  · clear hr1
    go_wp2_with fail
    go_ret
    exact ⟨rfl, hb2⟩
  obtain ⟨hrm1, hm1, hz1⟩ := hr1 (by omega)
  clear hr1
  have HC1 : Hid (CopyF fs1) := fun i hi => by
    have := szTo_get fs1 n1 i (by rw [← HLEN1.out]; exact hi)
    omega
  have HG1 : Hid (∀ x, (getV fs1 x).size ≤ 1048576) := fun x => by
    unfold getV
    split
    · rename_i h
      have := szTo_get fs1 n1 (atF fs1 x) (by rw [← HLEN1.out]; exact h)
      omega
    · decide
  clear hz1
  have hall : n0 + n1 ≤ 1048576 := by omega
  clear hrl0 hrl1 hrm0 hrm1
  obtain ⟨P, hP⟩ : ∃ P, P = askF am0 ap0 fs0 ab0 fs1 := ⟨_, rfl⟩
  obtain ⟨np, hnp⟩ : ∃ m, m = P.length := ⟨_, rfl⟩
  have hnp2 : np ≤ 1999999 := by
    rw [hnp, hP]
    have h1 := ask_le am0 ap0 fs0 ab0 fs1
    rw [HLEN0.out] at h1
    omega
  have HSP : Hid (∀ (u0 : Value) (B0 : Nat) (u1 : Value) (B1 : Nat) (W : World), FieldsV W B0 u0 n0 fs0 → FieldsV W B1 u1 n1 fs1 → Calls Try.prog 13 #[.agg #[.int .i64 am0, .string ap0, u0, .string ab0], u1] W fun e w' => ∃ v, e = .returned (.agg #[.int .i64 am0, .string ap0, v, .string ab0]) ∧ w'.ownsRow W.heap.size 68 2 v np (flatF P) ∧ Below W.heap.size W w') := by
    intro u0 B0 u1 B1 W h0 h1
    rw [hnp, hP]
    exact specAsk_any am0 ap0 u0 ab0 n0 B0 fs0 u1 n1 B1 fs1 W h0 (by omega) HS0.out HPX0.out HBX0.out h1 (by omega) (by have := HG1.out tagName; unfold maxLen; omega)
  have HIM : Hid (∀ (u0 : Value) (B0 : Nat) (u1 : Value) (B1 : Nat) (W : World), FieldsV W B0 u0 n0 fs0 → FieldsV W B1 u1 n1 fs1 → Calls Try.prog 11 #[.agg #[.int .i64 am0, .string ap0, u0, .string ab0], u1] W fun e w' => ∃ v, e = .returned (.agg #[.int .i64 am0, .string ap0, v, .string ab0]) ∧ w'.ownsRow W.heap.size 68 2 v np (flatF P) ∧ Below W.heap.size W w') := by
    intro u0 B0 u1 B1 W h0 h1
    rw [hnp, hP]
    exact implAsk_any am0 ap0 u0 ab0 n0 B0 fs0 u1 n1 B1 fs1 W h0 (by omega) h1 (by omega) HC0.out HC1.out (by have := HP0.out; omega) (by have := HX0.out; omega) (by have := HG1.out tagName; omega)
  clear hP HC0 HC1 HG0 HG1 HP0 HX0
  have HNP : Hid (P.length = np) := hnp.symm
  clear hnp
  obtain ⟨⟨ca00, ca01, ca02, ca03⟩, _⟩ := four_facts HBa0_2.out
  go_wp2_with fail
  refine (toReq_any am0 ap0 a0 n0 cap0 ab0 fs0 w.heap.size _ (HA0.out _ hb2) hb2.size hm0).mono ?_
  rintro e w3 ⟨vvt0, rfl, ownt0, b⟩
  obtain ⟨ot0, pt0, rfl⟩ := slice_of_owns ownt0
  have hb3 : Below w.heap.size w (w3) := hb2.trans (b.mono hb2.size)
  have HM3 : Hid ((w2).heap.size ≤ (w3).heap.size) := b.size
  have HBa0_3 : Hid ((w3).heap[rq]? = some (.cells #[.int .i64 am0, .string ap0, .slice a0 n0 cap0, .string ab0] 41)) := blk_below HBa0_2.out b
  have HOt0_3 : Hid ((w3).ownsRow w.heap.size 68 2 (.slice ot0 n0 pt0) n0 (flatF fs0)) := owns_wide ownt0 hb2.size
  have LOt0 : Hid (∀ g, (Value.ownBlock (.slice ot0 n0 pt0)) = some g → (w2).heap.size ≤ g) := fun g hg => owns_ge ownt0 hg
  have HIt0 : Hid (∀ g, (Value.ownBlock (.slice ot0 n0 pt0)) = some g → g < (w3).heap.size) := fun g hg => owns_lt ownt0 hg
  clear ownt0
  clear hb2 HBa0_2 ca00 ca01 ca02 ca03 b
  go_wp2_with fail
  refine (toFieldS_any w.heap.size a1 n1 cap1 fs1 _ (HA1.out _ hb3) hb3.size hm1).mono ?_
  rintro e w4 ⟨vvt1, rfl, ownt1, b⟩
  obtain ⟨ot1, pt1, rfl⟩ := slice_of_owns ownt1
  have hb4 : Below w.heap.size w (w4) := hb3.trans (b.mono hb3.size)
  have HM4 : Hid ((w3).heap.size ≤ (w4).heap.size) := b.size
  have HOt0_4 : Hid ((w4).ownsRow w.heap.size 68 2 (.slice ot0 n0 pt0) n0 (flatF fs0)) := owns_below HOt0_3.out b (fun g hg => owns_lt HOt0_3.out hg)
  have HBa0_4 : Hid ((w4).heap[rq]? = some (.cells #[.int .i64 am0, .string ap0, .slice a0 n0 cap0, .string ab0] 41)) := blk_below HBa0_3.out b
  have HOt1_4 : Hid ((w4).ownsRow w.heap.size 68 2 (.slice ot1 n1 pt1) n1 (flatF fs1)) := owns_wide ownt1 hb3.size
  have LOt1 : Hid (∀ g, (Value.ownBlock (.slice ot1 n1 pt1)) = some g → (w3).heap.size ≤ g) := fun g hg => owns_ge ownt1 hg
  have HIt1 : Hid (∀ g, (Value.ownBlock (.slice ot1 n1 pt1)) = some g → g < (w4).heap.size) := fun g hg => owns_lt ownt1 hg
  clear ownt1
  clear hb3 HOt0_3 HBa0_3 b
  go_wp2_with fail
  refine (HSP.out _ _ _ _ _ (FieldsV.of_owns HOt0_4.out) (FieldsV.of_owns HOt1_4.out)).mono ?_
  rintro e w5 ⟨vvs, rfl, owns, b⟩
  obtain ⟨os, ps, rfl⟩ := slice_of_owns owns
  have hb5 : Below w.heap.size w (w5) := hb4.trans (b.mono hb4.size)
  have HM5 : Hid ((w4).heap.size ≤ (w5).heap.size) := b.size
  have HOt0_5 : Hid ((w5).ownsRow w.heap.size 68 2 (.slice ot0 n0 pt0) n0 (flatF fs0)) := owns_below HOt0_4.out b (fun g hg => owns_lt HOt0_4.out hg)
  have HOt1_5 : Hid ((w5).ownsRow w.heap.size 68 2 (.slice ot1 n1 pt1) n1 (flatF fs1)) := owns_below HOt1_4.out b (fun g hg => owns_lt HOt1_4.out hg)
  have HBa0_5 : Hid ((w5).heap[rq]? = some (.cells #[.int .i64 am0, .string ap0, .slice a0 n0 cap0, .string ab0] 41)) := blk_below HBa0_4.out b
  have HOs_5 : Hid ((w5).ownsRow w.heap.size 68 2 (.slice os np ps) np (flatF P)) := owns_wide owns hb4.size
  have LOs : Hid (∀ g, (Value.ownBlock (.slice os np ps)) = some g → (w4).heap.size ≤ g) := fun g hg => owns_ge owns hg
  have HIs : Hid (∀ g, (Value.ownBlock (.slice os np ps)) = some g → g < (w5).heap.size) := fun g hg => owns_lt owns hg
  clear owns
  clear hb4 HOt0_4 HOt1_4 HBa0_4 b
  clear HOt0_5 HOt1_5
  go_upto_region 9 with fail
  obtain ⟨qbs, hqbs⟩ : ∃ q, q = (w5).heap.size := ⟨_, rfl⟩
  obtain ⟨w6, hW6⟩ : ∃ W, W = (w5).alloc (.cells #[.int .i64 am0, .string ap0, .slice os np ps, .string ab0] 26) := ⟨_, rfl⟩
  rw [← hW6, ← hqbs]
  have b : Below (w5).heap.size (w5) w6 := by rw [hW6]; exact (Below.refl _ _).alloc (Nat.le_refl _) _
  have hb6 : Below w.heap.size w (w6) := hb5.trans (b.mono hb5.size)
  have HM6 : Hid ((w5).heap.size ≤ (w6).heap.size) := b.size
  have HOs_6 : Hid ((w6).ownsRow w.heap.size 68 2 (.slice os np ps) np (flatF P)) := owns_below HOs_5.out b (fun g hg => owns_lt HOs_5.out hg)
  have HBa0_6 : Hid ((w6).heap[rq]? = some (.cells #[.int .i64 am0, .string ap0, .slice a0 n0 cap0, .string ab0] 41)) := blk_below HBa0_5.out b
  have HBbs_6 : Hid ((w6).heap[qbs]? = some (.cells #[.int .i64 am0, .string ap0, .slice os np ps, .string ab0] 26)) := by show _ = _; rw [hW6, hqbs]; exact heap_alloc_new _ _
  clear hb5 HOs_5 HBa0_5 b hW6 hqbs
  obtain ⟨⟨ca00, ca01, ca02, ca03⟩, _⟩ := four_facts HBa0_6.out
  go_wp2_with fail
  refine (toReq_any am0 ap0 a0 n0 cap0 ab0 fs0 w.heap.size _ (HA0.out _ hb6) hb6.size hm0).mono ?_
  rintro e w7 ⟨vvx0, rfl, ownx0, b⟩
  obtain ⟨ox0, px0, rfl⟩ := slice_of_owns ownx0
  have hb7 : Below w.heap.size w (w7) := hb6.trans (b.mono hb6.size)
  have HM7 : Hid ((w6).heap.size ≤ (w7).heap.size) := b.size
  have HOs_7 : Hid ((w7).ownsRow w.heap.size 68 2 (.slice os np ps) np (flatF P)) := owns_below HOs_6.out b (fun g hg => owns_lt HOs_6.out hg)
  have HBa0_7 : Hid ((w7).heap[rq]? = some (.cells #[.int .i64 am0, .string ap0, .slice a0 n0 cap0, .string ab0] 41)) := blk_below HBa0_6.out b
  have HBbs_7 : Hid ((w7).heap[qbs]? = some (.cells #[.int .i64 am0, .string ap0, .slice os np ps, .string ab0] 26)) := blk_below HBbs_6.out b
  have HOx0_7 : Hid ((w7).ownsRow w.heap.size 68 2 (.slice ox0 n0 px0) n0 (flatF fs0)) := owns_wide ownx0 hb6.size
  have LOx0 : Hid (∀ g, (Value.ownBlock (.slice ox0 n0 px0)) = some g → (w6).heap.size ≤ g) := fun g hg => owns_ge ownx0 hg
  have HIx0 : Hid (∀ g, (Value.ownBlock (.slice ox0 n0 px0)) = some g → g < (w7).heap.size) := fun g hg => owns_lt ownx0 hg
  clear ownx0
  clear hb6 HOs_6 HBa0_6 HBbs_6 ca00 ca01 ca02 ca03 b
  go_upto_region 10 with fail
  obtain ⟨qbx0, hqbx0⟩ : ∃ q, q = (w7).heap.size := ⟨_, rfl⟩
  obtain ⟨w8, hW8⟩ : ∃ W, W = (w7).alloc (.cells #[.int .i64 am0, .string ap0, .slice ox0 n0 px0, .string ab0] 26) := ⟨_, rfl⟩
  rw [← hW8, ← hqbx0]
  have b : Below (w7).heap.size (w7) w8 := by rw [hW8]; exact (Below.refl _ _).alloc (Nat.le_refl _) _
  have hb8 : Below w.heap.size w (w8) := hb7.trans (b.mono hb7.size)
  have HM8 : Hid ((w7).heap.size ≤ (w8).heap.size) := b.size
  have HOs_8 : Hid ((w8).ownsRow w.heap.size 68 2 (.slice os np ps) np (flatF P)) := owns_below HOs_7.out b (fun g hg => owns_lt HOs_7.out hg)
  have HOx0_8 : Hid ((w8).ownsRow w.heap.size 68 2 (.slice ox0 n0 px0) n0 (flatF fs0)) := owns_below HOx0_7.out b (fun g hg => owns_lt HOx0_7.out hg)
  have HBa0_8 : Hid ((w8).heap[rq]? = some (.cells #[.int .i64 am0, .string ap0, .slice a0 n0 cap0, .string ab0] 41)) := blk_below HBa0_7.out b
  have HBbs_8 : Hid ((w8).heap[qbs]? = some (.cells #[.int .i64 am0, .string ap0, .slice os np ps, .string ab0] 26)) := blk_below HBbs_7.out b
  have HBbx0_8 : Hid ((w8).heap[qbx0]? = some (.cells #[.int .i64 am0, .string ap0, .slice ox0 n0 px0, .string ab0] 26)) := by show _ = _; rw [hW8, hqbx0]; exact heap_alloc_new _ _
  clear hb7 HOs_7 HOx0_7 HBa0_7 HBbs_7 b hW8 hqbx0
  go_wp2_with fail
  refine (toFieldS_any w.heap.size a1 n1 cap1 fs1 _ (HA1.out _ hb8) hb8.size hm1).mono ?_
  rintro e w9 ⟨vvx1, rfl, ownx1, b⟩
  obtain ⟨ox1, px1, rfl⟩ := slice_of_owns ownx1
  have hb9 : Below w.heap.size w (w9) := hb8.trans (b.mono hb8.size)
  have HM9 : Hid ((w8).heap.size ≤ (w9).heap.size) := b.size
  have HOs_9 : Hid ((w9).ownsRow w.heap.size 68 2 (.slice os np ps) np (flatF P)) := owns_below HOs_8.out b (fun g hg => owns_lt HOs_8.out hg)
  have HOx0_9 : Hid ((w9).ownsRow w.heap.size 68 2 (.slice ox0 n0 px0) n0 (flatF fs0)) := owns_below HOx0_8.out b (fun g hg => owns_lt HOx0_8.out hg)
  have HBa0_9 : Hid ((w9).heap[rq]? = some (.cells #[.int .i64 am0, .string ap0, .slice a0 n0 cap0, .string ab0] 41)) := blk_below HBa0_8.out b
  have HBbs_9 : Hid ((w9).heap[qbs]? = some (.cells #[.int .i64 am0, .string ap0, .slice os np ps, .string ab0] 26)) := blk_below HBbs_8.out b
  have HBbx0_9 : Hid ((w9).heap[qbx0]? = some (.cells #[.int .i64 am0, .string ap0, .slice ox0 n0 px0, .string ab0] 26)) := blk_below HBbx0_8.out b
  have HOx1_9 : Hid ((w9).ownsRow w.heap.size 68 2 (.slice ox1 n1 px1) n1 (flatF fs1)) := owns_wide ownx1 hb8.size
  have LOx1 : Hid (∀ g, (Value.ownBlock (.slice ox1 n1 px1)) = some g → (w8).heap.size ≤ g) := fun g hg => owns_ge ownx1 hg
  have HIx1 : Hid (∀ g, (Value.ownBlock (.slice ox1 n1 px1)) = some g → g < (w9).heap.size) := fun g hg => owns_lt ownx1 hg
  clear ownx1
  clear hb8 HOs_8 HOx0_8 HBa0_8 HBbs_8 HBbx0_8 b
  obtain ⟨⟨cbx00, cbx01, cbx02, cbx03⟩, _⟩ := four_facts HBbx0_9.out
  go_wp2_with fail
  refine (HIM.out _ _ _ _ _ (FieldsV.of_owns HOx0_9.out) (FieldsV.of_owns HOx1_9.out)).mono ?_
  rintro e w10 ⟨vvg, rfl, owng, b⟩
  obtain ⟨og, pg, rfl⟩ := slice_of_owns owng
  have hb10 : Below w.heap.size w (w10) := hb9.trans (b.mono hb9.size)
  have HM10 : Hid ((w9).heap.size ≤ (w10).heap.size) := b.size
  have HOs_10 : Hid ((w10).ownsRow w.heap.size 68 2 (.slice os np ps) np (flatF P)) := owns_below HOs_9.out b (fun g hg => owns_lt HOs_9.out hg)
  have HOx0_10 : Hid ((w10).ownsRow w.heap.size 68 2 (.slice ox0 n0 px0) n0 (flatF fs0)) := owns_below HOx0_9.out b (fun g hg => owns_lt HOx0_9.out hg)
  have HOx1_10 : Hid ((w10).ownsRow w.heap.size 68 2 (.slice ox1 n1 px1) n1 (flatF fs1)) := owns_below HOx1_9.out b (fun g hg => owns_lt HOx1_9.out hg)
  have HBa0_10 : Hid ((w10).heap[rq]? = some (.cells #[.int .i64 am0, .string ap0, .slice a0 n0 cap0, .string ab0] 41)) := blk_below HBa0_9.out b
  have HBbs_10 : Hid ((w10).heap[qbs]? = some (.cells #[.int .i64 am0, .string ap0, .slice os np ps, .string ab0] 26)) := blk_below HBbs_9.out b
  have HBbx0_10 : Hid ((w10).heap[qbx0]? = some (.cells #[.int .i64 am0, .string ap0, .slice ox0 n0 px0, .string ab0] 26)) := blk_below HBbx0_9.out b
  have HOg_10 : Hid ((w10).ownsRow w.heap.size 68 2 (.slice og np pg) np (flatF P)) := owns_wide owng hb9.size
  have LOg : Hid (∀ g, (Value.ownBlock (.slice og np pg)) = some g → (w9).heap.size ≤ g) := fun g hg => owns_ge owng hg
  have HIg : Hid (∀ g, (Value.ownBlock (.slice og np pg)) = some g → g < (w10).heap.size) := fun g hg => owns_lt owng hg
  clear owng
  clear hb9 HOs_9 HOx0_9 HOx1_9 HBa0_9 HBbs_9 HBbx0_9 cbx00 cbx01 cbx02 cbx03 b
  go_upto_region 12 with fail
  obtain ⟨qbg, hqbg⟩ : ∃ q, q = (w10).heap.size := ⟨_, rfl⟩
  obtain ⟨w11, hW11⟩ : ∃ W, W = (w10).alloc (.cells #[.int .i64 am0, .string ap0, .slice og np pg, .string ab0] 26) := ⟨_, rfl⟩
  rw [← hW11, ← hqbg]
  have b : Below (w10).heap.size (w10) w11 := by rw [hW11]; exact (Below.refl _ _).alloc (Nat.le_refl _) _
  have hb11 : Below w.heap.size w (w11) := hb10.trans (b.mono hb10.size)
  have HM11 : Hid ((w10).heap.size ≤ (w11).heap.size) := b.size
  have HOs_11 : Hid ((w11).ownsRow w.heap.size 68 2 (.slice os np ps) np (flatF P)) := owns_below HOs_10.out b (fun g hg => owns_lt HOs_10.out hg)
  have HOx0_11 : Hid ((w11).ownsRow w.heap.size 68 2 (.slice ox0 n0 px0) n0 (flatF fs0)) := owns_below HOx0_10.out b (fun g hg => owns_lt HOx0_10.out hg)
  have HOx1_11 : Hid ((w11).ownsRow w.heap.size 68 2 (.slice ox1 n1 px1) n1 (flatF fs1)) := owns_below HOx1_10.out b (fun g hg => owns_lt HOx1_10.out hg)
  have HOg_11 : Hid ((w11).ownsRow w.heap.size 68 2 (.slice og np pg) np (flatF P)) := owns_below HOg_10.out b (fun g hg => owns_lt HOg_10.out hg)
  have HBa0_11 : Hid ((w11).heap[rq]? = some (.cells #[.int .i64 am0, .string ap0, .slice a0 n0 cap0, .string ab0] 41)) := blk_below HBa0_10.out b
  have HBbs_11 : Hid ((w11).heap[qbs]? = some (.cells #[.int .i64 am0, .string ap0, .slice os np ps, .string ab0] 26)) := blk_below HBbs_10.out b
  have HBbx0_11 : Hid ((w11).heap[qbx0]? = some (.cells #[.int .i64 am0, .string ap0, .slice ox0 n0 px0, .string ab0] 26)) := blk_below HBbx0_10.out b
  have HBbg_11 : Hid ((w11).heap[qbg]? = some (.cells #[.int .i64 am0, .string ap0, .slice og np pg, .string ab0] 26)) := by show _ = _; rw [hW11, hqbg]; exact heap_alloc_new _ _
  clear hb10 HOs_10 HOx0_10 HOx1_10 HOg_10 HBa0_10 HBbs_10 HBbx0_10 b hW11 hqbg
  obtain ⟨⟨cbg0, cbg1, cbg2, cbg3⟩, _⟩ := four_facts HBbg_11.out
  obtain ⟨⟨cbs0, cbs1, cbs2, cbs3⟩, _⟩ := four_facts HBbs_11.out
  go_wp2_with fail
  refine (eqReq_any am0 ap0 _ _ ab0 np _ _ P _ (FieldsV.of_owns HOg_11.out) (FieldsV.of_owns HOs_11.out) (by omega)).mono ?_
  rintro e w12 ⟨rfl, b⟩
  have hb12 : Below w.heap.size w (w12) := hb11.trans (b.mono hb11.size)
  have HM12 : Hid ((w11).heap.size ≤ (w12).heap.size) := b.size
  have HOs_12 : Hid ((w12).ownsRow w.heap.size 68 2 (.slice os np ps) np (flatF P)) := owns_below HOs_11.out b (fun g hg => owns_lt HOs_11.out hg)
  have HOx0_12 : Hid ((w12).ownsRow w.heap.size 68 2 (.slice ox0 n0 px0) n0 (flatF fs0)) := owns_below HOx0_11.out b (fun g hg => owns_lt HOx0_11.out hg)
  have HOx1_12 : Hid ((w12).ownsRow w.heap.size 68 2 (.slice ox1 n1 px1) n1 (flatF fs1)) := owns_below HOx1_11.out b (fun g hg => owns_lt HOx1_11.out hg)
  have HOg_12 : Hid ((w12).ownsRow w.heap.size 68 2 (.slice og np pg) np (flatF P)) := owns_below HOg_11.out b (fun g hg => owns_lt HOg_11.out hg)
  have HBa0_12 : Hid ((w12).heap[rq]? = some (.cells #[.int .i64 am0, .string ap0, .slice a0 n0 cap0, .string ab0] 41)) := blk_below HBa0_11.out b
  have HBbs_12 : Hid ((w12).heap[qbs]? = some (.cells #[.int .i64 am0, .string ap0, .slice os np ps, .string ab0] 26)) := blk_below HBbs_11.out b
  have HBbx0_12 : Hid ((w12).heap[qbx0]? = some (.cells #[.int .i64 am0, .string ap0, .slice ox0 n0 px0, .string ab0] 26)) := blk_below HBbx0_11.out b
  have HBbg_12 : Hid ((w12).heap[qbg]? = some (.cells #[.int .i64 am0, .string ap0, .slice og np pg, .string ab0] 26)) := blk_below HBbg_11.out b
  clear hb11 HOs_11 HOx0_11 HOx1_11 HOg_11 HBa0_11 HBbs_11 HBbx0_11 HBbg_11 cbg0 cbg1 cbg2 cbg3 cbs0 cbs1 cbs2 cbs3 b
  have bd13 : Below (w12).heap.size (w12) (w12).drew := (Below.refl _ _).drew
  have hb13 : Below w.heap.size w (w12.drew) := hb12.trans (bd13.mono hb12.size)
  have HM13 : Hid ((w12).heap.size ≤ (w12.drew).heap.size) := bd13.size
  have HOs_13 : Hid ((w12.drew).ownsRow w.heap.size 68 2 (.slice os np ps) np (flatF P)) := owns_below HOs_12.out bd13 (fun g hg => owns_lt HOs_12.out hg)
  have HOx0_13 : Hid ((w12.drew).ownsRow w.heap.size 68 2 (.slice ox0 n0 px0) n0 (flatF fs0)) := owns_below HOx0_12.out bd13 (fun g hg => owns_lt HOx0_12.out hg)
  have HOx1_13 : Hid ((w12.drew).ownsRow w.heap.size 68 2 (.slice ox1 n1 px1) n1 (flatF fs1)) := owns_below HOx1_12.out bd13 (fun g hg => owns_lt HOx1_12.out hg)
  have HOg_13 : Hid ((w12.drew).ownsRow w.heap.size 68 2 (.slice og np pg) np (flatF P)) := owns_below HOg_12.out bd13 (fun g hg => owns_lt HOg_12.out hg)
  have HBa0_13 : Hid ((w12.drew).heap[rq]? = some (.cells #[.int .i64 am0, .string ap0, .slice a0 n0 cap0, .string ab0] 41)) := blk_below HBa0_12.out bd13
  have HBbs_13 : Hid ((w12.drew).heap[qbs]? = some (.cells #[.int .i64 am0, .string ap0, .slice os np ps, .string ab0] 26)) := blk_below HBbs_12.out bd13
  have HBbx0_13 : Hid ((w12.drew).heap[qbx0]? = some (.cells #[.int .i64 am0, .string ap0, .slice ox0 n0 px0, .string ab0] 26)) := blk_below HBbx0_12.out bd13
  have HBbg_13 : Hid ((w12.drew).heap[qbg]? = some (.cells #[.int .i64 am0, .string ap0, .slice og np pg, .string ab0] 26)) := blk_below HBbg_12.out bd13
  obtain ⟨⟨cbx00, cbx01, cbx02, cbx03⟩, _⟩ := four_facts HBbx0_12.out
  obtain ⟨⟨ca00, ca01, ca02, ca03⟩, _⟩ := four_facts HBa0_12.out
  clear hb12 HOs_12 HOx0_12 HOx1_12 HOg_12 HBa0_12 HBbs_12 HBbx0_12 HBbg_12 bd13
  go_wp2_with fail
  go_region_held3 (fun W => (W.cell? ⟨qbx0, 0, none⟩ = some (.int .i64 am0) ∧ W.cell? ⟨qbx0, 1, none⟩ = some (.string ap0) ∧ W.cell? ⟨qbx0, 2, none⟩ = some (.slice ox0 n0 px0) ∧ W.cell? ⟨qbx0, 3, none⟩ = some (.string ab0)) ∧ (W.cell? ⟨rq, 0, none⟩ = some (.int .i64 am0) ∧ W.cell? ⟨rq, 1, none⟩ = some (.string ap0) ∧ W.cell? ⟨rq, 2, none⟩ = some (.slice a0 n0 cap0) ∧ W.cell? ⟨rq, 3, none⟩ = some (.string ab0))) (first | assumption | go_keep) (first | (go_at_call_of 25 (Value.agg #[.int .i64 am0, .string ap0, .slice a0 n0 cap0, .string ab0]); refine (toReq_any am0 ap0 a0 n0 cap0 ab0 fs0 w.heap.size _ (HA0.out _ hb13) hb13.size hm0).mono ?_; rintro e w14 ⟨vvz0, rfl, ownz0, b⟩; obtain ⟨oz0, pz0, rfl⟩ := slice_of_owns ownz0; have hb14 : Below w.heap.size w (w14) := hb13.trans (b.mono hb13.size); have HM14 : Hid ((w12.drew).heap.size ≤ (w14).heap.size) := b.size; have HOs_14 : Hid ((w14).ownsRow w.heap.size 68 2 (.slice os np ps) np (flatF P)) := owns_below HOs_13.out b (fun g hg => owns_lt HOs_13.out hg); have HOx0_14 : Hid ((w14).ownsRow w.heap.size 68 2 (.slice ox0 n0 px0) n0 (flatF fs0)) := owns_below HOx0_13.out b (fun g hg => owns_lt HOx0_13.out hg); have HOx1_14 : Hid ((w14).ownsRow w.heap.size 68 2 (.slice ox1 n1 px1) n1 (flatF fs1)) := owns_below HOx1_13.out b (fun g hg => owns_lt HOx1_13.out hg); have HOg_14 : Hid ((w14).ownsRow w.heap.size 68 2 (.slice og np pg) np (flatF P)) := owns_below HOg_13.out b (fun g hg => owns_lt HOg_13.out hg); have HBa0_14 : Hid ((w14).heap[rq]? = some (.cells #[.int .i64 am0, .string ap0, .slice a0 n0 cap0, .string ab0] 41)) := blk_below HBa0_13.out b; have HBbs_14 : Hid ((w14).heap[qbs]? = some (.cells #[.int .i64 am0, .string ap0, .slice os np ps, .string ab0] 26)) := blk_below HBbs_13.out b; have HBbx0_14 : Hid ((w14).heap[qbx0]? = some (.cells #[.int .i64 am0, .string ap0, .slice ox0 n0 px0, .string ab0] 26)) := blk_below HBbx0_13.out b; have HBbg_14 : Hid ((w14).heap[qbg]? = some (.cells #[.int .i64 am0, .string ap0, .slice og np pg, .string ab0] 26)) := blk_below HBbg_13.out b; have HOz0_14 : Hid ((w14).ownsRow w.heap.size 68 2 (.slice oz0 n0 pz0) n0 (flatF fs0)) := owns_wide ownz0 hb13.size; have LOz0 : Hid (∀ g, (Value.ownBlock (.slice oz0 n0 pz0)) = some g → (w12.drew).heap.size ≤ g) := fun g hg => owns_ge ownz0 hg; have HIz0 : Hid (∀ g, (Value.ownBlock (.slice oz0 n0 pz0)) = some g → g < (w14).heap.size) := fun g hg => owns_lt ownz0 hg; clear ownz0; have hSS14 : (w14.cell? ⟨qbx0, 0, none⟩ = some (.int .i64 am0) ∧ w14.cell? ⟨qbx0, 1, none⟩ = some (.string ap0) ∧ w14.cell? ⟨qbx0, 2, none⟩ = some (.slice ox0 n0 px0) ∧ w14.cell? ⟨qbx0, 3, none⟩ = some (.string ab0)) ∧ (w14.cell? ⟨rq, 0, none⟩ = some (.int .i64 am0) ∧ w14.cell? ⟨rq, 1, none⟩ = some (.string ap0) ∧ w14.cell? ⟨rq, 2, none⟩ = some (.slice a0 n0 cap0) ∧ w14.cell? ⟨rq, 3, none⟩ = some (.string ab0)) := ⟨(four_facts HBbx0_14.out).1, (four_facts HBa0_14.out).1⟩; clear hb13 HOs_13 HOx0_13 HOx1_13 HOg_13 HBa0_13 HBbs_13 HBbx0_13 HBbg_13 b) | (go_at_call 28; refine (eqReq_any am0 ap0 _ _ ab0 n0 _ _ fs0 _ (FieldsV.of_owns HOx0_14.out) (FieldsV.of_owns HOz0_14.out) (by omega)).mono ?_; rintro e w15 ⟨rfl, b⟩; have hb15 : Below w.heap.size w (w15) := hb14.trans (b.mono hb14.size); have HM15 : Hid ((w14).heap.size ≤ (w15).heap.size) := b.size; have HOs_15 : Hid ((w15).ownsRow w.heap.size 68 2 (.slice os np ps) np (flatF P)) := owns_below HOs_14.out b (fun g hg => owns_lt HOs_14.out hg); have HOx0_15 : Hid ((w15).ownsRow w.heap.size 68 2 (.slice ox0 n0 px0) n0 (flatF fs0)) := owns_below HOx0_14.out b (fun g hg => owns_lt HOx0_14.out hg); have HOx1_15 : Hid ((w15).ownsRow w.heap.size 68 2 (.slice ox1 n1 px1) n1 (flatF fs1)) := owns_below HOx1_14.out b (fun g hg => owns_lt HOx1_14.out hg); have HOg_15 : Hid ((w15).ownsRow w.heap.size 68 2 (.slice og np pg) np (flatF P)) := owns_below HOg_14.out b (fun g hg => owns_lt HOg_14.out hg); have HOz0_15 : Hid ((w15).ownsRow w.heap.size 68 2 (.slice oz0 n0 pz0) n0 (flatF fs0)) := owns_below HOz0_14.out b (fun g hg => owns_lt HOz0_14.out hg); have HBa0_15 : Hid ((w15).heap[rq]? = some (.cells #[.int .i64 am0, .string ap0, .slice a0 n0 cap0, .string ab0] 41)) := blk_below HBa0_14.out b; have HBbs_15 : Hid ((w15).heap[qbs]? = some (.cells #[.int .i64 am0, .string ap0, .slice os np ps, .string ab0] 26)) := blk_below HBbs_14.out b; have HBbx0_15 : Hid ((w15).heap[qbx0]? = some (.cells #[.int .i64 am0, .string ap0, .slice ox0 n0 px0, .string ab0] 26)) := blk_below HBbx0_14.out b; have HBbg_15 : Hid ((w15).heap[qbg]? = some (.cells #[.int .i64 am0, .string ap0, .slice og np pg, .string ab0] 26)) := blk_below HBbg_14.out b; have hSS15 : (w15.cell? ⟨qbx0, 0, none⟩ = some (.int .i64 am0) ∧ w15.cell? ⟨qbx0, 1, none⟩ = some (.string ap0) ∧ w15.cell? ⟨qbx0, 2, none⟩ = some (.slice ox0 n0 px0) ∧ w15.cell? ⟨qbx0, 3, none⟩ = some (.string ab0)) ∧ (w15.cell? ⟨rq, 0, none⟩ = some (.int .i64 am0) ∧ w15.cell? ⟨rq, 1, none⟩ = some (.string ap0) ∧ w15.cell? ⟨rq, 2, none⟩ = some (.slice a0 n0 cap0) ∧ w15.cell? ⟨rq, 3, none⟩ = some (.string ab0)) := ⟨(four_facts HBbx0_15.out).1, (four_facts HBa0_15.out).1⟩; clear hb14 HOs_14 HOx0_14 HOx1_14 HOg_14 HOz0_14 HBa0_14 HBbs_14 HBbx0_14 HBbg_14 b; clear HOz0_15))
  clear hSS15
  go_wp2_with fail
  refine (toFieldS_any w.heap.size a1 n1 cap1 fs1 _ (HA1.out _ hb15) hb15.size hm1).mono ?_
  rintro e w16 ⟨vvz1, rfl, ownz1, b⟩
  obtain ⟨oz1, pz1, rfl⟩ := slice_of_owns ownz1
  have hb16 : Below w.heap.size w (w16) := hb15.trans (b.mono hb15.size)
  have HM16 : Hid ((w15).heap.size ≤ (w16).heap.size) := b.size
  have HOs_16 : Hid ((w16).ownsRow w.heap.size 68 2 (.slice os np ps) np (flatF P)) := owns_below HOs_15.out b (fun g hg => owns_lt HOs_15.out hg)
  have HOx0_16 : Hid ((w16).ownsRow w.heap.size 68 2 (.slice ox0 n0 px0) n0 (flatF fs0)) := owns_below HOx0_15.out b (fun g hg => owns_lt HOx0_15.out hg)
  have HOx1_16 : Hid ((w16).ownsRow w.heap.size 68 2 (.slice ox1 n1 px1) n1 (flatF fs1)) := owns_below HOx1_15.out b (fun g hg => owns_lt HOx1_15.out hg)
  have HOg_16 : Hid ((w16).ownsRow w.heap.size 68 2 (.slice og np pg) np (flatF P)) := owns_below HOg_15.out b (fun g hg => owns_lt HOg_15.out hg)
  have HBa0_16 : Hid ((w16).heap[rq]? = some (.cells #[.int .i64 am0, .string ap0, .slice a0 n0 cap0, .string ab0] 41)) := blk_below HBa0_15.out b
  have HBbs_16 : Hid ((w16).heap[qbs]? = some (.cells #[.int .i64 am0, .string ap0, .slice os np ps, .string ab0] 26)) := blk_below HBbs_15.out b
  have HBbx0_16 : Hid ((w16).heap[qbx0]? = some (.cells #[.int .i64 am0, .string ap0, .slice ox0 n0 px0, .string ab0] 26)) := blk_below HBbx0_15.out b
  have HBbg_16 : Hid ((w16).heap[qbg]? = some (.cells #[.int .i64 am0, .string ap0, .slice og np pg, .string ab0] 26)) := blk_below HBbg_15.out b
  have HOz1_16 : Hid ((w16).ownsRow w.heap.size 68 2 (.slice oz1 n1 pz1) n1 (flatF fs1)) := owns_wide ownz1 hb15.size
  have LOz1 : Hid (∀ g, (Value.ownBlock (.slice oz1 n1 pz1)) = some g → (w15).heap.size ≤ g) := fun g hg => owns_ge ownz1 hg
  have HIz1 : Hid (∀ g, (Value.ownBlock (.slice oz1 n1 pz1)) = some g → g < (w16).heap.size) := fun g hg => owns_lt ownz1 hg
  clear ownz1
  clear hb15 HOs_15 HOx0_15 HOx1_15 HOg_15 HBa0_15 HBbs_15 HBbx0_15 HBbg_15 b
  go_wp2_with fail
  refine (eqFieldS_any _ _ n1 _ _ fs1 _ (FieldsV.of_owns HOx1_16.out) (FieldsV.of_owns HOz1_16.out) (by omega)).mono ?_
  rintro e w17 ⟨rfl, b⟩
  have hb17 : Below w.heap.size w (w17) := hb16.trans (b.mono hb16.size)
  have HM17 : Hid ((w16).heap.size ≤ (w17).heap.size) := b.size
  have HOs_17 : Hid ((w17).ownsRow w.heap.size 68 2 (.slice os np ps) np (flatF P)) := owns_below HOs_16.out b (fun g hg => owns_lt HOs_16.out hg)
  have HOx0_17 : Hid ((w17).ownsRow w.heap.size 68 2 (.slice ox0 n0 px0) n0 (flatF fs0)) := owns_below HOx0_16.out b (fun g hg => owns_lt HOx0_16.out hg)
  have HOx1_17 : Hid ((w17).ownsRow w.heap.size 68 2 (.slice ox1 n1 px1) n1 (flatF fs1)) := owns_below HOx1_16.out b (fun g hg => owns_lt HOx1_16.out hg)
  have HOg_17 : Hid ((w17).ownsRow w.heap.size 68 2 (.slice og np pg) np (flatF P)) := owns_below HOg_16.out b (fun g hg => owns_lt HOg_16.out hg)
  have HOz1_17 : Hid ((w17).ownsRow w.heap.size 68 2 (.slice oz1 n1 pz1) n1 (flatF fs1)) := owns_below HOz1_16.out b (fun g hg => owns_lt HOz1_16.out hg)
  have HBa0_17 : Hid ((w17).heap[rq]? = some (.cells #[.int .i64 am0, .string ap0, .slice a0 n0 cap0, .string ab0] 41)) := blk_below HBa0_16.out b
  have HBbs_17 : Hid ((w17).heap[qbs]? = some (.cells #[.int .i64 am0, .string ap0, .slice os np ps, .string ab0] 26)) := blk_below HBbs_16.out b
  have HBbx0_17 : Hid ((w17).heap[qbx0]? = some (.cells #[.int .i64 am0, .string ap0, .slice ox0 n0 px0, .string ab0] 26)) := blk_below HBbx0_16.out b
  have HBbg_17 : Hid ((w17).heap[qbg]? = some (.cells #[.int .i64 am0, .string ap0, .slice og np pg, .string ab0] 26)) := blk_below HBbg_16.out b
  clear hb16 HOs_16 HOx0_16 HOx1_16 HOg_16 HOz1_16 HBa0_16 HBbs_16 HBbx0_16 HBbg_16 b
  clear HOz1_17
  obtain ⟨⟨cbx00, cbx01, cbx02, cbx03⟩, _⟩ := four_facts HBbx0_17.out
  go_wp2_with fail
  refine (markReqFrom_any am0 ap0 _ ab0 n0 w.heap.size fs0 _ HOx0_17.out hb17.size (1) (by omega) (by omega)).mono ?_
  rintro e w18 ⟨rfl, mk, bm, far⟩
  have hb18 : Below w.heap.size w w18 := hb17.trans bm
  have HM18 : Hid ((w17).heap.size ≤ (w18).heap.size) := bm.size
  have HOs_18 : Hid ((w18).ownsRow w.heap.size 68 2 (.slice os np ps) np (flatF P)) := owns_same HOs_17.out (fun g hg => far g (owns_lt HOs_17.out hg) (fun e => by have h1 := LOx0.out g e; have h2 := HIs.out g hg; have := HM6.out; omega))
  have HOx1_18 : Hid ((w18).ownsRow w.heap.size 68 2 (.slice ox1 n1 px1) n1 (flatF fs1)) := owns_same HOx1_17.out (fun g hg => far g (owns_lt HOx1_17.out hg) (fun e => by have h1 := LOx1.out g hg; have h2 := HIx0.out g e; have := HM8.out; omega))
  have HOg_18 : Hid ((w18).ownsRow w.heap.size 68 2 (.slice og np pg) np (flatF P)) := owns_same HOg_17.out (fun g hg => far g (owns_lt HOg_17.out hg) (fun e => by have h1 := LOg.out g hg; have h2 := HIx0.out g e; have := HM8.out; have := HM9.out; omega))
  have HBa0_18 : Hid ((w18).heap[rq]? = some (.cells #[.int .i64 am0, .string ap0, .slice a0 n0 cap0, .string ab0] 41)) := blk_far HBa0_17.out far HOx0_17.out (by decide)
  have HBbs_18 : Hid ((w18).heap[qbs]? = some (.cells #[.int .i64 am0, .string ap0, .slice os np ps, .string ab0] 26)) := blk_far HBbs_17.out far HOx0_17.out (by decide)
  have HBbx0_18 : Hid ((w18).heap[qbx0]? = some (.cells #[.int .i64 am0, .string ap0, .slice ox0 n0 px0, .string ab0] 26)) := blk_far HBbx0_17.out far HOx0_17.out (by decide)
  have HBbg_18 : Hid ((w18).heap[qbg]? = some (.cells #[.int .i64 am0, .string ap0, .slice og np pg, .string ab0] 26)) := blk_far HBbg_17.out far HOx0_17.out (by decide)
  have HOx0_18 : Hid ((w18).ownsRow w.heap.size 68 2 (.slice ox0 n0 px0) n0 (flatF (mkG (1) fs0 n0))) := mk
  clear hb17 HOs_17 HOx0_17 HOx1_17 HOg_17 HBa0_17 HBbs_17 HBbx0_17 HBbg_17 cbx00 cbx01 cbx02 cbx03 mk bm far
  clear HOx0_18 HBbx0_18
  rw [show ((((1 : Nat) : Int)) + 2 * (n0 : Int)) = ((1 + 2 * n0 : Nat) : Int) by omega]
  go_wp2_with fail
  refine (markFrom_any _ n1 w.heap.size fs1 _ HOx1_18.out hb18.size (1 + 2 * n0) (by omega) (by omega)).mono ?_
  rintro e w19 ⟨rfl, mk, bm, far⟩
  have hb19 : Below w.heap.size w w19 := hb18.trans bm
  have HM19 : Hid ((w18).heap.size ≤ (w19).heap.size) := bm.size
  have HOs_19 : Hid ((w19).ownsRow w.heap.size 68 2 (.slice os np ps) np (flatF P)) := owns_same HOs_18.out (fun g hg => far g (owns_lt HOs_18.out hg) (fun e => by have h1 := LOx1.out g e; have h2 := HIs.out g hg; have := HM6.out; have := HM7.out; have := HM8.out; omega))
  have HOg_19 : Hid ((w19).ownsRow w.heap.size 68 2 (.slice og np pg) np (flatF P)) := owns_same HOg_18.out (fun g hg => far g (owns_lt HOg_18.out hg) (fun e => by have h1 := LOg.out g hg; have h2 := HIx1.out g e; omega))
  have HBa0_19 : Hid ((w19).heap[rq]? = some (.cells #[.int .i64 am0, .string ap0, .slice a0 n0 cap0, .string ab0] 41)) := blk_far HBa0_18.out far HOx1_18.out (by decide)
  have HBbs_19 : Hid ((w19).heap[qbs]? = some (.cells #[.int .i64 am0, .string ap0, .slice os np ps, .string ab0] 26)) := blk_far HBbs_18.out far HOx1_18.out (by decide)
  have HBbg_19 : Hid ((w19).heap[qbg]? = some (.cells #[.int .i64 am0, .string ap0, .slice og np pg, .string ab0] 26)) := blk_far HBbg_18.out far HOx1_18.out (by decide)
  have HOx1_19 : Hid ((w19).ownsRow w.heap.size 68 2 (.slice ox1 n1 px1) n1 (flatF (mkG (1 + 2 * n0) fs1 n1))) := mk
  clear hb18 HOs_18 HOx1_18 HOg_18 HBa0_18 HBbs_18 HBbg_18 mk bm far
  clear HOx1_19
  rw [show ((((1 + 2 * n0 : Nat) : Int)) + 2 * (n1 : Int)) = ((1 + 2 * n0 + 2 * n1 : Nat) : Int) by omega]
  have hk1 : ¬ (((1 + 2 * n0 + 2 * n1 : Nat) : Int) < 0) := by omega
  obtain ⟨⟨cbg0, cbg1, cbg2, cbg3⟩, _⟩ := four_facts HBbg_19.out
  obtain ⟨⟨cbs0, cbs1, cbs2, cbs3⟩, _⟩ := four_facts HBbs_19.out
  go_wp2_with fail
  refine (eqReq_any am0 ap0 _ _ ab0 np _ _ P _ (FieldsV.of_owns HOg_19.out) (FieldsV.of_owns HOs_19.out) (by omega)).mono ?_
  rintro e w20 ⟨rfl, b⟩
  have hb20 : Below w.heap.size w (w20) := hb19.trans (b.mono hb19.size)
  have HM20 : Hid ((w19).heap.size ≤ (w20).heap.size) := b.size
  have HOs_20 : Hid ((w20).ownsRow w.heap.size 68 2 (.slice os np ps) np (flatF P)) := owns_below HOs_19.out b (fun g hg => owns_lt HOs_19.out hg)
  have HOg_20 : Hid ((w20).ownsRow w.heap.size 68 2 (.slice og np pg) np (flatF P)) := owns_below HOg_19.out b (fun g hg => owns_lt HOg_19.out hg)
  have HBa0_20 : Hid ((w20).heap[rq]? = some (.cells #[.int .i64 am0, .string ap0, .slice a0 n0 cap0, .string ab0] 41)) := blk_below HBa0_19.out b
  have HBbs_20 : Hid ((w20).heap[qbs]? = some (.cells #[.int .i64 am0, .string ap0, .slice os np ps, .string ab0] 26)) := blk_below HBbs_19.out b
  have HBbg_20 : Hid ((w20).heap[qbg]? = some (.cells #[.int .i64 am0, .string ap0, .slice og np pg, .string ab0] 26)) := blk_below HBbg_19.out b
  clear hb19 HOs_19 HOg_19 HBa0_19 HBbs_19 HBbg_19 cbg0 cbg1 cbg2 cbg3 cbs0 cbs1 cbs2 cbs3 b
  clear hk1
  obtain ⟨⟨cbg0, cbg1, cbg2, cbg3⟩, _⟩ := four_facts HBbg_20.out
  go_wp2_with fail
  refine (markReqFrom_any am0 ap0 _ ab0 np w.heap.size P _ HOg_20.out hb20.size 1 (by omega) (by omega)).mono ?_
  rintro e w21 ⟨rfl, mk, bm, far⟩
  have hb21 : Below w.heap.size w w21 := hb20.trans bm
  have HM21 : Hid ((w20).heap.size ≤ (w21).heap.size) := bm.size
  have HOs_21 : Hid ((w21).ownsRow w.heap.size 68 2 (.slice os np ps) np (flatF P)) := owns_same HOs_20.out (fun g hg => far g (owns_lt HOs_20.out hg) (fun e => by have h1 := LOg.out g e; have h2 := HIs.out g hg; have := HM6.out; have := HM7.out; have := HM8.out; have := HM9.out; omega))
  have HBa0_21 : Hid ((w21).heap[rq]? = some (.cells #[.int .i64 am0, .string ap0, .slice a0 n0 cap0, .string ab0] 41)) := blk_far HBa0_20.out far HOg_20.out (by decide)
  have HBbs_21 : Hid ((w21).heap[qbs]? = some (.cells #[.int .i64 am0, .string ap0, .slice os np ps, .string ab0] 26)) := blk_far HBbs_20.out far HOg_20.out (by decide)
  have HBbg_21 : Hid ((w21).heap[qbg]? = some (.cells #[.int .i64 am0, .string ap0, .slice og np pg, .string ab0] 26)) := blk_far HBbg_20.out far HOg_20.out (by decide)
  have HOg_21 : Hid ((w21).ownsRow w.heap.size 68 2 (.slice og np pg) np (flatF (mkG 1 P np))) := mk
  clear hb20 HOs_20 HOg_20 HBa0_20 HBbs_20 HBbg_20 cbg0 cbg1 cbg2 cbg3 mk bm far
  rw [show ((((1 : Nat) : Int)) + 2 * (np : Int)) = ((1 + 2 * np : Nat) : Int) by omega]
  have HK : Hid (∀ j, j < np → nameAt (mkG 1 P np) j = markOf (1 + 2 * j) ∧ valAt (mkG 1 P np) j = markOf (1 + 2 * j + 1)) := fun j hj => mkG_at 1 P j np (by rw [HNP.out]; exact Nat.le_refl _) hj
  have hk2 : ¬ (((1 + 2 * np : Nat) : Int) < 0) := by omega
  have hk3 : ((((1 + 2 * np : Nat) : Int)) != (((1 + 2 * np : Nat) : Int))) = false := by simp
  obtain ⟨⟨cbg0, cbg1, cbg2, cbg3⟩, _⟩ := four_facts HBbg_21.out
  go_wp2_with fail
  refine (heldReqFrom_any am0 ap0 _ ab0 np w.heap.size (mkG 1 P np) _ HOg_21.out 1 (by omega) (by omega) HK.out).mono ?_
  rintro e w22 ⟨rfl, b⟩
  have hb22 : Below w.heap.size w (w22) := hb21.trans (b.mono hb21.size)
  have HM22 : Hid ((w21).heap.size ≤ (w22).heap.size) := b.size
  have HOs_22 : Hid ((w22).ownsRow w.heap.size 68 2 (.slice os np ps) np (flatF P)) := owns_below HOs_21.out b (fun g hg => owns_lt HOs_21.out hg)
  have HOg_22 : Hid ((w22).ownsRow w.heap.size 68 2 (.slice og np pg) np (flatF (mkG 1 P np))) := owns_below HOg_21.out b (fun g hg => owns_lt HOg_21.out hg)
  have HBa0_22 : Hid ((w22).heap[rq]? = some (.cells #[.int .i64 am0, .string ap0, .slice a0 n0 cap0, .string ab0] 41)) := blk_below HBa0_21.out b
  have HBbs_22 : Hid ((w22).heap[qbs]? = some (.cells #[.int .i64 am0, .string ap0, .slice os np ps, .string ab0] 26)) := blk_below HBbs_21.out b
  have HBbg_22 : Hid ((w22).heap[qbg]? = some (.cells #[.int .i64 am0, .string ap0, .slice og np pg, .string ab0] 26)) := blk_below HBbg_21.out b
  clear hb21 HOs_21 HOg_21 HBa0_21 HBbs_21 HBbg_21 cbg0 cbg1 cbg2 cbg3 b
  rw [show ((((1 : Nat) : Int)) + 2 * (np : Int)) = ((1 + 2 * np : Nat) : Int) by omega]
  obtain ⟨⟨ca00, ca01, ca02, ca03⟩, _⟩ := four_facts HBa0_22.out
  go_wp2_with fail
  refine (toReq_any am0 ap0 a0 n0 cap0 ab0 fs0 w.heap.size _ (HA0.out _ hb22) hb22.size hm0).mono ?_
  rintro e w23 ⟨vvy0, rfl, owny0, b⟩
  obtain ⟨oy0, py0, rfl⟩ := slice_of_owns owny0
  have hb23 : Below w.heap.size w (w23) := hb22.trans (b.mono hb22.size)
  have HM23 : Hid ((w22).heap.size ≤ (w23).heap.size) := b.size
  have HOs_23 : Hid ((w23).ownsRow w.heap.size 68 2 (.slice os np ps) np (flatF P)) := owns_below HOs_22.out b (fun g hg => owns_lt HOs_22.out hg)
  have HOg_23 : Hid ((w23).ownsRow w.heap.size 68 2 (.slice og np pg) np (flatF (mkG 1 P np))) := owns_below HOg_22.out b (fun g hg => owns_lt HOg_22.out hg)
  have HBa0_23 : Hid ((w23).heap[rq]? = some (.cells #[.int .i64 am0, .string ap0, .slice a0 n0 cap0, .string ab0] 41)) := blk_below HBa0_22.out b
  have HBbs_23 : Hid ((w23).heap[qbs]? = some (.cells #[.int .i64 am0, .string ap0, .slice os np ps, .string ab0] 26)) := blk_below HBbs_22.out b
  have HBbg_23 : Hid ((w23).heap[qbg]? = some (.cells #[.int .i64 am0, .string ap0, .slice og np pg, .string ab0] 26)) := blk_below HBbg_22.out b
  have HOy0_23 : Hid ((w23).ownsRow w.heap.size 68 2 (.slice oy0 n0 py0) n0 (flatF fs0)) := owns_wide owny0 hb22.size
  have LOy0 : Hid (∀ g, (Value.ownBlock (.slice oy0 n0 py0)) = some g → (w22).heap.size ≤ g) := fun g hg => owns_ge owny0 hg
  have HIy0 : Hid (∀ g, (Value.ownBlock (.slice oy0 n0 py0)) = some g → g < (w23).heap.size) := fun g hg => owns_lt owny0 hg
  clear owny0
  clear hb22 HOs_22 HOg_22 HBa0_22 HBbs_22 HBbg_22 ca00 ca01 ca02 ca03 b
  go_wp2_with fail
  refine (toFieldS_any w.heap.size a1 n1 cap1 fs1 _ (HA1.out _ hb23) hb23.size hm1).mono ?_
  rintro e w24 ⟨vvy1, rfl, owny1, b⟩
  obtain ⟨oy1, py1, rfl⟩ := slice_of_owns owny1
  have hb24 : Below w.heap.size w (w24) := hb23.trans (b.mono hb23.size)
  have HM24 : Hid ((w23).heap.size ≤ (w24).heap.size) := b.size
  have HOs_24 : Hid ((w24).ownsRow w.heap.size 68 2 (.slice os np ps) np (flatF P)) := owns_below HOs_23.out b (fun g hg => owns_lt HOs_23.out hg)
  have HOg_24 : Hid ((w24).ownsRow w.heap.size 68 2 (.slice og np pg) np (flatF (mkG 1 P np))) := owns_below HOg_23.out b (fun g hg => owns_lt HOg_23.out hg)
  have HOy0_24 : Hid ((w24).ownsRow w.heap.size 68 2 (.slice oy0 n0 py0) n0 (flatF fs0)) := owns_below HOy0_23.out b (fun g hg => owns_lt HOy0_23.out hg)
  have HBa0_24 : Hid ((w24).heap[rq]? = some (.cells #[.int .i64 am0, .string ap0, .slice a0 n0 cap0, .string ab0] 41)) := blk_below HBa0_23.out b
  have HBbs_24 : Hid ((w24).heap[qbs]? = some (.cells #[.int .i64 am0, .string ap0, .slice os np ps, .string ab0] 26)) := blk_below HBbs_23.out b
  have HBbg_24 : Hid ((w24).heap[qbg]? = some (.cells #[.int .i64 am0, .string ap0, .slice og np pg, .string ab0] 26)) := blk_below HBbg_23.out b
  have HOy1_24 : Hid ((w24).ownsRow w.heap.size 68 2 (.slice oy1 n1 py1) n1 (flatF fs1)) := owns_wide owny1 hb23.size
  have LOy1 : Hid (∀ g, (Value.ownBlock (.slice oy1 n1 py1)) = some g → (w23).heap.size ≤ g) := fun g hg => owns_ge owny1 hg
  have HIy1 : Hid (∀ g, (Value.ownBlock (.slice oy1 n1 py1)) = some g → g < (w24).heap.size) := fun g hg => owns_lt owny1 hg
  clear owny1
  clear hb23 HOs_23 HOg_23 HOy0_23 HBa0_23 HBbs_23 HBbg_23 b
  go_wp2_with fail
  refine (HIM.out _ _ _ _ _ (FieldsV.of_owns HOy0_24.out) (FieldsV.of_owns HOy1_24.out)).mono ?_
  rintro e w25 ⟨vvh, rfl, ownh, b⟩
  obtain ⟨oh, ph, rfl⟩ := slice_of_owns ownh
  have hb25 : Below w.heap.size w (w25) := hb24.trans (b.mono hb24.size)
  have HM25 : Hid ((w24).heap.size ≤ (w25).heap.size) := b.size
  have HOs_25 : Hid ((w25).ownsRow w.heap.size 68 2 (.slice os np ps) np (flatF P)) := owns_below HOs_24.out b (fun g hg => owns_lt HOs_24.out hg)
  have HOg_25 : Hid ((w25).ownsRow w.heap.size 68 2 (.slice og np pg) np (flatF (mkG 1 P np))) := owns_below HOg_24.out b (fun g hg => owns_lt HOg_24.out hg)
  have HOy0_25 : Hid ((w25).ownsRow w.heap.size 68 2 (.slice oy0 n0 py0) n0 (flatF fs0)) := owns_below HOy0_24.out b (fun g hg => owns_lt HOy0_24.out hg)
  have HOy1_25 : Hid ((w25).ownsRow w.heap.size 68 2 (.slice oy1 n1 py1) n1 (flatF fs1)) := owns_below HOy1_24.out b (fun g hg => owns_lt HOy1_24.out hg)
  have HBa0_25 : Hid ((w25).heap[rq]? = some (.cells #[.int .i64 am0, .string ap0, .slice a0 n0 cap0, .string ab0] 41)) := blk_below HBa0_24.out b
  have HBbs_25 : Hid ((w25).heap[qbs]? = some (.cells #[.int .i64 am0, .string ap0, .slice os np ps, .string ab0] 26)) := blk_below HBbs_24.out b
  have HBbg_25 : Hid ((w25).heap[qbg]? = some (.cells #[.int .i64 am0, .string ap0, .slice og np pg, .string ab0] 26)) := blk_below HBbg_24.out b
  have HOh_25 : Hid ((w25).ownsRow w.heap.size 68 2 (.slice oh np ph) np (flatF P)) := owns_wide ownh hb24.size
  have LOh : Hid (∀ g, (Value.ownBlock (.slice oh np ph)) = some g → (w24).heap.size ≤ g) := fun g hg => owns_ge ownh hg
  have HIh : Hid (∀ g, (Value.ownBlock (.slice oh np ph)) = some g → g < (w25).heap.size) := fun g hg => owns_lt ownh hg
  clear ownh
  clear hb24 HOs_24 HOg_24 HOy0_24 HOy1_24 HBa0_24 HBbs_24 HBbg_24 b
  clear HOy0_25 HOy1_25
  go_upto_region 32 with fail
  obtain ⟨qbh, hqbh⟩ : ∃ q, q = (w25).heap.size := ⟨_, rfl⟩
  obtain ⟨w26, hW26⟩ : ∃ W, W = (w25).alloc (.cells #[.int .i64 am0, .string ap0, .slice oh np ph, .string ab0] 26) := ⟨_, rfl⟩
  rw [← hW26, ← hqbh]
  have b : Below (w25).heap.size (w25) w26 := by rw [hW26]; exact (Below.refl _ _).alloc (Nat.le_refl _) _
  have hb26 : Below w.heap.size w (w26) := hb25.trans (b.mono hb25.size)
  have HM26 : Hid ((w25).heap.size ≤ (w26).heap.size) := b.size
  have HOs_26 : Hid ((w26).ownsRow w.heap.size 68 2 (.slice os np ps) np (flatF P)) := owns_below HOs_25.out b (fun g hg => owns_lt HOs_25.out hg)
  have HOg_26 : Hid ((w26).ownsRow w.heap.size 68 2 (.slice og np pg) np (flatF (mkG 1 P np))) := owns_below HOg_25.out b (fun g hg => owns_lt HOg_25.out hg)
  have HOh_26 : Hid ((w26).ownsRow w.heap.size 68 2 (.slice oh np ph) np (flatF P)) := owns_below HOh_25.out b (fun g hg => owns_lt HOh_25.out hg)
  have HBa0_26 : Hid ((w26).heap[rq]? = some (.cells #[.int .i64 am0, .string ap0, .slice a0 n0 cap0, .string ab0] 41)) := blk_below HBa0_25.out b
  have HBbs_26 : Hid ((w26).heap[qbs]? = some (.cells #[.int .i64 am0, .string ap0, .slice os np ps, .string ab0] 26)) := blk_below HBbs_25.out b
  have HBbg_26 : Hid ((w26).heap[qbg]? = some (.cells #[.int .i64 am0, .string ap0, .slice og np pg, .string ab0] 26)) := blk_below HBbg_25.out b
  have HBbh_26 : Hid ((w26).heap[qbh]? = some (.cells #[.int .i64 am0, .string ap0, .slice oh np ph, .string ab0] 26)) := by show _ = _; rw [hW26, hqbh]; exact heap_alloc_new _ _
  clear hb25 HOs_25 HOg_25 HOh_25 HBa0_25 HBbs_25 HBbg_25 b hW26 hqbh
  obtain ⟨⟨cbh0, cbh1, cbh2, cbh3⟩, _⟩ := four_facts HBbh_26.out
  obtain ⟨⟨cbs0, cbs1, cbs2, cbs3⟩, _⟩ := four_facts HBbs_26.out
  go_wp2_with fail
  refine (eqReq_any am0 ap0 _ _ ab0 np _ _ P _ (FieldsV.of_owns HOh_26.out) (FieldsV.of_owns HOs_26.out) (by omega)).mono ?_
  rintro e w27 ⟨rfl, b⟩
  have hb27 : Below w.heap.size w (w27) := hb26.trans (b.mono hb26.size)
  have HM27 : Hid ((w26).heap.size ≤ (w27).heap.size) := b.size
  have HOs_27 : Hid ((w27).ownsRow w.heap.size 68 2 (.slice os np ps) np (flatF P)) := owns_below HOs_26.out b (fun g hg => owns_lt HOs_26.out hg)
  have HOg_27 : Hid ((w27).ownsRow w.heap.size 68 2 (.slice og np pg) np (flatF (mkG 1 P np))) := owns_below HOg_26.out b (fun g hg => owns_lt HOg_26.out hg)
  have HOh_27 : Hid ((w27).ownsRow w.heap.size 68 2 (.slice oh np ph) np (flatF P)) := owns_below HOh_26.out b (fun g hg => owns_lt HOh_26.out hg)
  have HBa0_27 : Hid ((w27).heap[rq]? = some (.cells #[.int .i64 am0, .string ap0, .slice a0 n0 cap0, .string ab0] 41)) := blk_below HBa0_26.out b
  have HBbs_27 : Hid ((w27).heap[qbs]? = some (.cells #[.int .i64 am0, .string ap0, .slice os np ps, .string ab0] 26)) := blk_below HBbs_26.out b
  have HBbg_27 : Hid ((w27).heap[qbg]? = some (.cells #[.int .i64 am0, .string ap0, .slice og np pg, .string ab0] 26)) := blk_below HBbg_26.out b
  have HBbh_27 : Hid ((w27).heap[qbh]? = some (.cells #[.int .i64 am0, .string ap0, .slice oh np ph, .string ab0] 26)) := blk_below HBbh_26.out b
  clear hb26 HOs_26 HOg_26 HOh_26 HBa0_26 HBbs_26 HBbg_26 HBbh_26 cbh0 cbh1 cbh2 cbh3 cbs0 cbs1 cbs2 cbs3 b
  obtain ⟨⟨cbg0, cbg1, cbg2, cbg3⟩, _⟩ := four_facts HBbg_27.out
  go_wp2_with fail
  refine (heldReqFrom_any am0 ap0 _ ab0 np w.heap.size (mkG 1 P np) _ HOg_27.out 1 (by omega) (by omega) HK.out).mono ?_
  rintro e w28 ⟨rfl, b⟩
  have hb28 : Below w.heap.size w (w28) := hb27.trans (b.mono hb27.size)
  have HM28 : Hid ((w27).heap.size ≤ (w28).heap.size) := b.size
  have HOs_28 : Hid ((w28).ownsRow w.heap.size 68 2 (.slice os np ps) np (flatF P)) := owns_below HOs_27.out b (fun g hg => owns_lt HOs_27.out hg)
  have HOg_28 : Hid ((w28).ownsRow w.heap.size 68 2 (.slice og np pg) np (flatF (mkG 1 P np))) := owns_below HOg_27.out b (fun g hg => owns_lt HOg_27.out hg)
  have HOh_28 : Hid ((w28).ownsRow w.heap.size 68 2 (.slice oh np ph) np (flatF P)) := owns_below HOh_27.out b (fun g hg => owns_lt HOh_27.out hg)
  have HBa0_28 : Hid ((w28).heap[rq]? = some (.cells #[.int .i64 am0, .string ap0, .slice a0 n0 cap0, .string ab0] 41)) := blk_below HBa0_27.out b
  have HBbs_28 : Hid ((w28).heap[qbs]? = some (.cells #[.int .i64 am0, .string ap0, .slice os np ps, .string ab0] 26)) := blk_below HBbs_27.out b
  have HBbg_28 : Hid ((w28).heap[qbg]? = some (.cells #[.int .i64 am0, .string ap0, .slice og np pg, .string ab0] 26)) := blk_below HBbg_27.out b
  have HBbh_28 : Hid ((w28).heap[qbh]? = some (.cells #[.int .i64 am0, .string ap0, .slice oh np ph, .string ab0] 26)) := blk_below HBbh_27.out b
  clear hb27 HOs_27 HOg_27 HOh_27 HBa0_27 HBbs_27 HBbg_27 HBbh_27 cbg0 cbg1 cbg2 cbg3 b
  rw [show ((((1 : Nat) : Int)) + 2 * (np : Int)) = ((1 + 2 * np : Nat) : Int) by omega]
  go_wp2_with fail
  go_ret
  exact ⟨rfl, hb28⟩

set_option maxRecDepth 100000 in
theorem lifted (os : Os) (started : os.Started) (H : Type) (enc : TypeId × Value → H) :
    ReturnsInHanded {} Try.checked os 5 .any (Rows.fnExactAskSpec.pre6 enc Try.prog Try.f5 Rows.fnExactAskRow.domain false) (Rows.fnExactAskSpec.post enc Try.prog Try.f5 false true false false) := by
  refine returnsInHanded_of_change (C := Try.checked) own started (by kernel_rfl) Try.func5
    (ChangeSpec.witness6 (enc := enc) (C := Try.checked) false ⟨#[], #[.agg #[.int .i64 0, .string ByteArray.empty, .slice none 0 0, .string ByteArray.empty], .slice none 0 0], []⟩ 8 (by kernel_rfl) (by kernel_rfl) (by kernel_rfl) (by kernel_rfl)) ?_
  intro W base args ds gs before hval0 hW _ _
  have hval : ∀ (j : Nat) t v, Try.f5.params[j]? = some t → args[j]? = some v → Value.okWide Try.prog W .any base t v := hval0
  have hW' := hW
  obtain ⟨p, q, hA0, hV, rfl, hfz, hnd⟩ := hW
  have hA : DataW.TrodAll enc Try.prog W 0 (fun _ => true) true Try.f5.params.toList args.toList ds p := hA0
  rw [Try.params5] at hA hval
  obtain ⟨v0, vs0, d0, ds0, p0, q0, hargs, rfl, rfl, h0, r0⟩ := trodAll_cons hA
  obtain ⟨v1, vs1, d1, ds1, p1, q1, hargs1, rfl, rfl, h1, r1⟩ := trodAll_cons r0
  obtain ⟨rfl, rfl, rfl⟩ := trodAll_nil r1
  obtain rfl : args = #[v0, v1] := by cases args; simp_all
  obtain ⟨rfl, rfl⟩ := trodVars_none hV
  have k0 := h0
  have lt0 : ∀ x ∈ p0, x.block < W.heap.size := by obtain ⟨m, hm⟩ := k0; exact DataW.trod_lt m _ _ _ hm
  obtain ⟨am0, ap0, a0, n0, cap0, ab0, fs0, rfl, ga0, gb0, gc0, gd0, ge0⟩ := openReq (hval 0 41 v0 rfl rfl) h0
  obtain ⟨a1, len1, cap1, rfl⟩ := okWide_slice Try.underlying39 (hval 1 39 v1 rfl rfl)
  have k1 := h1
  have lt1 : ∀ x ∈ p1, x.block < W.heap.size := by obtain ⟨m, hm⟩ := k1; exact DataW.trod_lt m _ _ _ hm
  obtain ⟨f1, g1, m1, s1⟩ : ∃ fs, ArgF W W.heap.size a1 len1 fs ∧ len1 ≤ maxLen ∧ ∀ i, i < len1 → (nameAt fs i).size ≤ maxLen ∧ (valAt fs i).size ≤ maxLen := by
    obtain ⟨fuel, hf⟩ := h1
    exact openFields (by simpa [Value.cells] using hf)
  clear hA0 hval0
  refine (walk1 W am0 ap0 a0 n0 cap0 ab0 fs0 ga0 gb0 gc0 gd0 ge0 a1 len1 cap1 f1 g1 m1 s1).mono fun e W' ⟨he, bel⟩ => ?_
  subst he
  exact ⟨_, rfl, _, _, _, [], _, [], hW', trodAll_mk1 (shut_bool Try.underlying4 _), (trodAll_cons_mk (Below.trod laidOut (by kernel_rfl) (of_decide_eq_true (by kernel_rfl)) k0 bel lt0) (trodAll_cons_mk (Below.trod laidOut (by kernel_rfl) (of_decide_eq_true (by kernel_rfl)) k1 bel lt1) trodAll_mk0)), rfl, bel.frame _, fun h => by cases h⟩

theorem over : Rows.fnExactAskRow.holds Try.pinned (OpenSpec.ofChange Rows.fnExactAskSpec) :=
  OpenClaim.holds_of_wide 5 Try.f5 rfl rfl rfl rfl rfl rfl rfl ⟨rfl, rfl, rfl, rfl, rfl⟩ rfl rfl rfl rfl rfl (by kernel_rfl) Try.func5 (by kernel_rfl)
    (of_decide_eq_true (by kernel_rfl)) (by unfold Func.isWrapper; first | (rw [if_pos (by decide +kernel)]; kernel_rfl) | (rw [if_neg (by decide +kernel)]; exact ⟨rfl, rfl⟩))
    (fun os started H enc _ => lifted os started H enc)
end fnExactAsk

theorem fnExactAsk_holds : Rows.FnExactAskSaid := fnExactAsk.over
#print axioms fnExactAsk_holds
end Go.Proofs.Ythlmnmbhgkmbfaa
