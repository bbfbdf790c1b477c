/- Alike: at every argument the program answers as the specification (the law answers true), it writes into no argument: no condition. -/
import Derived.Test.YtmcmeeibogkpaaaFnExactAlikeB
import Derived.Test.YtmcmeeibogkpaaaRows
import Derived.WalkKit
import Derived.ProofKit
import Derived.OpenShut
import Derived.ShutString
import Derived.ChangeOld
import Derived.Below
import Derived.Deep.RegionHeld3
import Derived.Deep.DrawnRows
import Derived.Deep.CutRange
import Derived.Deep.DeepCutAuto
namespace Go.Proofs.Ytmcmeeibogkpaaa
namespace fnExactAlike
open Go.ChangeShapes Go.WideShapes Go.ChangeAt Go.RowKit
open Go.ChangeMaps (open_string shut_string)
attribute [local go_sem ↓] Go.wp_at_zero Go.wp_at_succ

theorem own : ownKnob Try.prog.godebug = none := by kernel_rfl
theorem laidOut : laidOutB Try.prog = true := by kernel_rfl
theorem argWide {w : World} {B B' : Nat} {a : Option Addr} {n : Nat} {fs : List (ByteArray × ByteArray)} (h : ArgF w B a n fs) (hB : B ≤ B') : ArgF w B' a n fs :=
  ⟨h.len, fun i hi => by
    obtain ⟨b, off, h1, h2, h3⟩ := h.get i hi
    exact ⟨b, off, h1, Nat.lt_of_lt_of_le h2 hB, h3⟩⟩
open Classical in
theorem bool_is {P : Prop} {prog : Program} {f : FuncId} {args : Array Value} {w : World} (h : Calls prog f args w fun e w' => BoolIs P w e w') : Calls prog f args w fun e w' => e = .returned (.bool (decide P)) ∧ Below w.heap.size w w' :=
  h.mono fun e w' ⟨t, h1, h2, h3⟩ => ⟨by rw [h1, (show t = decide P by rw [Bool.eq_iff_iff, h2, decide_eq_true_iff])], h3⟩

set_option maxHeartbeats 8000000 in
set_option maxRecDepth 100000 in
theorem walk1 (w : World) (am0 : Int) (ap0 : ByteArray) (a0 : Option Addr) (n0 cap0 : Nat) (ab0 : ByteArray) (fs0 : List (ByteArray × ByteArray)) (harg0 : ArgF w w.heap.size a0 n0 fs0) (hn0 : n0 ≤ maxLen) (hs0 : WalkF n0 fs0) (hp0 : ap0.size ≤ maxLen) (hx0 : ab0.size ≤ maxLen) (am1 : Int) (ap1 : ByteArray) (a1 : Option Addr) (n1 cap1 : Nat) (ab1 : ByteArray) (fs1 : List (ByteArray × ByteArray)) (harg1 : ArgF w w.heap.size a1 n1 fs1) (hn1 : n1 ≤ maxLen) (hs1 : WalkF n1 fs1) (hp1 : ap1.size ≤ maxLen) (hx1 : ab1.size ≤ maxLen) :
    Calls Try.prog 3 #[.agg #[.int .i64 am0, .string ap0, .slice a0 n0 cap0, .string ab0], .agg #[.int .i64 am1, .string ap1, .slice a1 n1 cap1, .string ab1]] w fun e w' => e = .returned (.bool true) ∧ Below w.heap.size w w' := by
  classical
  have HA0 : Hid (∀ W, Below w.heap.size w W → ArgF W w.heap.size a0 n0 fs0) := fun W h => harg0.below h
  have HLEN0 : Hid (fs0.length = n0) := harg0.len
  have HS0 : Hid (WalkF n0 fs0) := hs0
  have HN0 : Hid (n0 ≤ maxLen) := hn0
  have HPX0 : Hid (ap0.size ≤ maxLen) := hp0
  clear hp0
  have HBX0 : Hid (ab0.size ≤ maxLen) := hx0
  clear hx0
  clear harg0 hs0 hn0
  have HA1 : Hid (∀ W, Below w.heap.size w W → ArgF W w.heap.size a1 n1 fs1) := fun W h => harg1.below h
  have HLEN1 : Hid (fs1.length = n1) := harg1.len
  have HS1 : Hid (WalkF n1 fs1) := hs1
  have HN1 : Hid (n1 ≤ maxLen) := hn1
  have HPX1 : Hid (ap1.size ≤ maxLen) := hp1
  clear hp1
  have HBX1 : Hid (ab1.size ≤ maxLen) := hx1
  clear hx1
  clear harg1 hs1 hn1
  obtain ⟨rq, hrq⟩ : ∃ r, r = w.heap.size := ⟨_, rfl⟩
  obtain ⟨w0, hw0⟩ : ∃ W, W = ((w.alloc (.cells #[.int .i64 am0, .string ap0, .slice a0 n0 cap0, .string ab0] 24)).alloc (.cells #[.int .i64 am1, .string ap1, .slice a1 n1 cap1, .string ab1] 24)) := ⟨_, rfl⟩
  have HW0 : Hid (((w.alloc (.cells #[.int .i64 am0, .string ap0, .slice a0 n0 cap0, .string ab0] 24)).alloc (.cells #[.int .i64 am1, .string ap1, .slice a1 n1 cap1, .string ab1] 24)) = w0) := hw0.symm
  have hb0 : Below w.heap.size w w0 := by rw [hw0]; exact ((Below.refl _ w).alloc (Nat.le_refl _) _).alloc (by simp) _
  have HBa0_0 : Hid ((w0).heap[rq]? = some (.cells #[.int .i64 am0, .string ap0, .slice a0 n0 cap0, .string ab0] 24)) := by
    show _ = _
    have h := heap_alloc_new w (.cells #[.int .i64 am0, .string ap0, .slice a0 n0 cap0, .string ab0] 24)
    have hz : (w).heap.size = rq := by rw [hrq]
    rw [hz] at h
    rw [hw0]
    exact blk_alloc (h) _
  have HBa1_0 : Hid ((w0).heap[rq + 1]? = some (.cells #[.int .i64 am1, .string ap1, .slice a1 n1 cap1, .string ab1] 24)) := by
    show _ = _
    have h := heap_alloc_new (w.alloc (.cells #[.int .i64 am0, .string ap0, .slice a0 n0 cap0, .string ab0] 24)) (.cells #[.int .i64 am1, .string ap1, .slice a1 n1 cap1, .string ab1] 24)
    have hz : ((w.alloc (.cells #[.int .i64 am0, .string ap0, .slice a0 n0 cap0, .string ab0] 24))).heap.size = rq + 1 := by rw [hrq]; simp
    rw [hz] at h
    rw [hw0]
    exact h
  clear hw0
  go_enter Try.func3, Try.ntmps3
  go_upto_region 1 with fail
  rw [HW0.out, ← hrq]
  clear HW0 hrq
  obtain ⟨⟨ca00, ca01, ca02, ca03⟩, _⟩ := four_facts HBa0_0.out
  go_wp2_with fail
  refine (szReq_room 1048576 (by omega) (by omega) am0 ap0 a0 n0 cap0 ab0 fs0 _ (argWide (HA0.out _ hb0) hb0.size) HN0.out HS0.out HPX0.out HBX0.out).mono ?_
  rintro e w1 ⟨r0, rfl, hrl0, hr0, b⟩
  have hb1 : Below w.heap.size w (w1) := hb0.trans (b.mono hb0.size)
  have HBa0_1 : Hid ((w1).heap[rq]? = some (.cells #[.int .i64 am0, .string ap0, .slice a0 n0 cap0, .string ab0] 24)) := blk_below HBa0_0.out b
  have HBa1_1 : Hid ((w1).heap[rq + 1]? = some (.cells #[.int .i64 am1, .string ap1, .slice a1 n1 cap1, .string ab1] 24)) := blk_below HBa1_0.out b
  clear hb0 HBa0_0 HBa1_0 ca00 ca01 ca02 ca03 b
  by_cases hq0 : r0 < 0
  · clear hr0
    go_wp2_with fail
    go_ret
    exact ⟨rfl, hb1⟩
  obtain ⟨hrm0, ⟨hp0, hx0⟩, hm0, hz0⟩ := hr0 (by omega)
  clear hr0
  have HC0 : Hid (CopyF fs0) := fun i hi => by
    have := szTo_get fs0 n0 i (by rw [← HLEN0.out]; exact hi)
    omega
  have HG0 : Hid (∀ x, (getV fs0 x).size ≤ 1048576) := fun x => by
    unfold getV
    split
    · rename_i h
      have := szTo_get fs0 n0 (atF fs0 x) (by rw [← HLEN0.out]; exact h)
      omega
    · decide
  clear hz0
  have HP0 : Hid (ap0.size ≤ 1048576) := hp0
  clear hp0
  have HX0 : Hid (ab0.size ≤ 1048576) := hx0
  clear hx0
  obtain ⟨⟨ca10, ca11, ca12, ca13⟩, _⟩ := four_facts HBa1_1.out
  go_wp2_with fail
  refine (szReq_room r0 (by omega) (by omega) am1 ap1 a1 n1 cap1 ab1 fs1 _ (argWide (HA1.out _ hb1) hb1.size) HN1.out HS1.out HPX1.out HBX1.out).mono ?_
  rintro e w2 ⟨r1, rfl, hrl1, hr1, b⟩
  have hb2 : Below w.heap.size w (w2) := hb1.trans (b.mono hb1.size)
  have HBa0_2 : Hid ((w2).heap[rq]? = some (.cells #[.int .i64 am0, .string ap0, .slice a0 n0 cap0, .string ab0] 24)) := blk_below HBa0_1.out b
  have HBa1_2 : Hid ((w2).heap[rq + 1]? = some (.cells #[.int .i64 am1, .string ap1, .slice a1 n1 cap1, .string ab1] 24)) := blk_below HBa1_1.out b
  clear hb1 HBa0_1 HBa1_1 ca10 ca11 ca12 ca13 b
  by_cases hq1 : r1 < 0
  · clear hr1
    go_wp2_with fail
    go_ret
    exact ⟨rfl, hb2⟩
  obtain ⟨hrm1, ⟨hp1, hx1⟩, hm1, hz1⟩ := hr1 (by omega)
  clear hr1
  have HC1 : Hid (CopyF fs1) := fun i hi => by
    have := szTo_get fs1 n1 i (by rw [← HLEN1.out]; exact hi)
    omega
  have HG1 : Hid (∀ x, (getV fs1 x).size ≤ 1048576) := fun x => by
    unfold getV
    split
    · rename_i h
      have := szTo_get fs1 n1 (atF fs1 x) (by rw [← HLEN1.out]; exact h)
      omega
    · decide
  clear hz1
  have HP1 : Hid (ap1.size ≤ 1048576) := hp1
  clear hp1
  have HX1 : Hid (ab1.size ≤ 1048576) := hx1
  clear hx1
  have hall : n0 + n1 ≤ 1048576 := by omega
  clear hrl0 hrl1 hrm0 hrm1
  obtain ⟨P, hP⟩ : ∃ P, P = decide (AlikeP am0 ap0 fs0 ab0 am1 ap1 fs1 ab1) := ⟨_, rfl⟩
  have HSP : Hid (∀ (u0 : Value) (B0 : Nat) (u1 : Value) (B1 : Nat) (W : World), FieldsV W B0 u0 n0 fs0 → FieldsV W B1 u1 n1 fs1 → Calls Try.prog 5 #[.agg #[.int .i64 am0, .string ap0, u0, .string ab0], .agg #[.int .i64 am1, .string ap1, u1, .string ab1]] W fun e w' => e = .returned (.bool P) ∧ Below W.heap.size W w') := by
    intro u0 B0 u1 B1 W h0 h1
    rw [hP]
    exact bool_is (specAlike_any am0 ap0 u0 ab0 n0 B0 fs0 am1 ap1 u1 ab1 n1 B1 fs1 W h0 (by omega) HS0.out HPX0.out HBX0.out HG0.out h1 (by omega) HS1.out HPX1.out HBX1.out HG1.out)
  have HIM : Hid (∀ (u0 : Value) (B0 : Nat) (u1 : Value) (B1 : Nat) (W : World), FieldsV W B0 u0 n0 fs0 → FieldsV W B1 u1 n1 fs1 → Calls Try.prog 7 #[.agg #[.int .i64 am0, .string ap0, u0, .string ab0], .agg #[.int .i64 am1, .string ap1, u1, .string ab1]] W fun e w' => e = .returned (.bool P) ∧ Below W.heap.size W w') := by
    intro u0 B0 u1 B1 W h0 h1
    rw [hP]
    exact bool_is (implAlike_any am0 ap0 u0 ab0 n0 B0 fs0 am1 ap1 u1 ab1 n1 B1 fs1 W h0 (by omega) HS0.out HPX0.out HBX0.out HG0.out HC0.out h1 (by omega) HS1.out HPX1.out HBX1.out HG1.out HC1.out)
  clear hP HC0 HC1 HG0 HG1 HP0 HP1 HX0 HX1
  have hpp : (P != P) = false := by simp
  have bd3 : Below (w2).heap.size (w2) (w2).drew := (Below.refl _ _).drew
  have hb3 : Below w.heap.size w (w2.drew) := hb2.trans (bd3.mono hb2.size)
  have HBa0_3 : Hid ((w2.drew).heap[rq]? = some (.cells #[.int .i64 am0, .string ap0, .slice a0 n0 cap0, .string ab0] 24)) := blk_below HBa0_2.out bd3
  have HBa1_3 : Hid ((w2.drew).heap[rq + 1]? = some (.cells #[.int .i64 am1, .string ap1, .slice a1 n1 cap1, .string ab1] 24)) := blk_below HBa1_2.out bd3
  obtain ⟨⟨ca00, ca01, ca02, ca03⟩, _⟩ := four_facts HBa0_2.out
  obtain ⟨⟨ca10, ca11, ca12, ca13⟩, _⟩ := four_facts HBa1_2.out
  clear hb2 HBa0_2 HBa1_2 bd3
  go_wp2_with fail
  go_region_held3 (fun W => (W.cell? ⟨rq, 0, none⟩ = some (.int .i64 am0) ∧ W.cell? ⟨rq, 1, none⟩ = some (.string ap0) ∧ W.cell? ⟨rq, 2, none⟩ = some (.slice a0 n0 cap0) ∧ W.cell? ⟨rq, 3, none⟩ = some (.string ab0)) ∧ (W.cell? ⟨rq + 1, 0, none⟩ = some (.int .i64 am1) ∧ W.cell? ⟨rq + 1, 1, none⟩ = some (.string ap1) ∧ W.cell? ⟨rq + 1, 2, none⟩ = some (.slice a1 n1 cap1) ∧ W.cell? ⟨rq + 1, 3, none⟩ = some (.string ab1))) (first | assumption | go_keep) (first | (go_at_call_of 6 (Value.agg #[.int .i64 am0, .string ap0, .slice a0 n0 cap0, .string ab0]); refine (toReq_any am0 ap0 a0 n0 cap0 ab0 fs0 w.heap.size _ (HA0.out _ hb3) hb3.size hm0).mono ?_; rintro e w4 ⟨vvt0, rfl, ownt0, b⟩; obtain ⟨ot0, pt0, rfl⟩ := slice_of_owns ownt0; have hb4 : Below w.heap.size w (w4) := hb3.trans (b.mono hb3.size); have HM4 : Hid ((w2.drew).heap.size ≤ (w4).heap.size) := b.size; have HBa0_4 : Hid ((w4).heap[rq]? = some (.cells #[.int .i64 am0, .string ap0, .slice a0 n0 cap0, .string ab0] 24)) := blk_below HBa0_3.out b; have HBa1_4 : Hid ((w4).heap[rq + 1]? = some (.cells #[.int .i64 am1, .string ap1, .slice a1 n1 cap1, .string ab1] 24)) := blk_below HBa1_3.out b; have HOt0_4 : Hid ((w4).ownsRow w.heap.size 40 2 (.slice ot0 n0 pt0) n0 (flatF fs0)) := owns_wide ownt0 hb3.size; have LOt0 : Hid (∀ g, (Value.ownBlock (.slice ot0 n0 pt0)) = some g → (w2.drew).heap.size ≤ g) := fun g hg => owns_ge ownt0 hg; have HIt0 : Hid (∀ g, (Value.ownBlock (.slice ot0 n0 pt0)) = some g → g < (w4).heap.size) := fun g hg => owns_lt ownt0 hg; clear ownt0; have hSS4 : (w4.cell? ⟨rq, 0, none⟩ = some (.int .i64 am0) ∧ w4.cell? ⟨rq, 1, none⟩ = some (.string ap0) ∧ w4.cell? ⟨rq, 2, none⟩ = some (.slice a0 n0 cap0) ∧ w4.cell? ⟨rq, 3, none⟩ = some (.string ab0)) ∧ (w4.cell? ⟨rq + 1, 0, none⟩ = some (.int .i64 am1) ∧ w4.cell? ⟨rq + 1, 1, none⟩ = some (.string ap1) ∧ w4.cell? ⟨rq + 1, 2, none⟩ = some (.slice a1 n1 cap1) ∧ w4.cell? ⟨rq + 1, 3, none⟩ = some (.string ab1)) := ⟨(four_facts HBa0_4.out).1, (four_facts HBa1_4.out).1⟩; clear hb3 HBa0_3 HBa1_3 b) | (go_at_call_of 6 (Value.agg #[.int .i64 am1, .string ap1, .slice a1 n1 cap1, .string ab1]); refine (toReq_any am1 ap1 a1 n1 cap1 ab1 fs1 w.heap.size _ (HA1.out _ hb4) hb4.size hm1).mono ?_; rintro e w5 ⟨vvt1, rfl, ownt1, b⟩; obtain ⟨ot1, pt1, rfl⟩ := slice_of_owns ownt1; have hb5 : Below w.heap.size w (w5) := hb4.trans (b.mono hb4.size); have HM5 : Hid ((w4).heap.size ≤ (w5).heap.size) := b.size; have HOt0_5 : Hid ((w5).ownsRow w.heap.size 40 2 (.slice ot0 n0 pt0) n0 (flatF fs0)) := owns_below HOt0_4.out b (fun g hg => owns_lt HOt0_4.out hg); have HBa0_5 : Hid ((w5).heap[rq]? = some (.cells #[.int .i64 am0, .string ap0, .slice a0 n0 cap0, .string ab0] 24)) := blk_below HBa0_4.out b; have HBa1_5 : Hid ((w5).heap[rq + 1]? = some (.cells #[.int .i64 am1, .string ap1, .slice a1 n1 cap1, .string ab1] 24)) := blk_below HBa1_4.out b; have HOt1_5 : Hid ((w5).ownsRow w.heap.size 40 2 (.slice ot1 n1 pt1) n1 (flatF fs1)) := owns_wide ownt1 hb4.size; have LOt1 : Hid (∀ g, (Value.ownBlock (.slice ot1 n1 pt1)) = some g → (w4).heap.size ≤ g) := fun g hg => owns_ge ownt1 hg; have HIt1 : Hid (∀ g, (Value.ownBlock (.slice ot1 n1 pt1)) = some g → g < (w5).heap.size) := fun g hg => owns_lt ownt1 hg; clear ownt1; have hSS5 : (w5.cell? ⟨rq, 0, none⟩ = some (.int .i64 am0) ∧ w5.cell? ⟨rq, 1, none⟩ = some (.string ap0) ∧ w5.cell? ⟨rq, 2, none⟩ = some (.slice a0 n0 cap0) ∧ w5.cell? ⟨rq, 3, none⟩ = some (.string ab0)) ∧ (w5.cell? ⟨rq + 1, 0, none⟩ = some (.int .i64 am1) ∧ w5.cell? ⟨rq + 1, 1, none⟩ = some (.string ap1) ∧ w5.cell? ⟨rq + 1, 2, none⟩ = some (.slice a1 n1 cap1) ∧ w5.cell? ⟨rq + 1, 3, none⟩ = some (.string ab1)) := ⟨(four_facts HBa0_5.out).1, (four_facts HBa1_5.out).1⟩; clear hb4 HOt0_4 HBa0_4 HBa1_4 b) | (go_at_call 5; refine (HSP.out _ _ _ _ _ (FieldsV.of_owns HOt0_5.out) (FieldsV.of_owns HOt1_5.out)).mono ?_; rintro e w6 ⟨rfl, b⟩; have hb6 : Below w.heap.size w (w6) := hb5.trans (b.mono hb5.size); have HM6 : Hid ((w5).heap.size ≤ (w6).heap.size) := b.size; have HOt0_6 : Hid ((w6).ownsRow w.heap.size 40 2 (.slice ot0 n0 pt0) n0 (flatF fs0)) := owns_below HOt0_5.out b (fun g hg => owns_lt HOt0_5.out hg); have HOt1_6 : Hid ((w6).ownsRow w.heap.size 40 2 (.slice ot1 n1 pt1) n1 (flatF fs1)) := owns_below HOt1_5.out b (fun g hg => owns_lt HOt1_5.out hg); have HBa0_6 : Hid ((w6).heap[rq]? = some (.cells #[.int .i64 am0, .string ap0, .slice a0 n0 cap0, .string ab0] 24)) := blk_below HBa0_5.out b; have HBa1_6 : Hid ((w6).heap[rq + 1]? = some (.cells #[.int .i64 am1, .string ap1, .slice a1 n1 cap1, .string ab1] 24)) := blk_below HBa1_5.out b; have hSS6 : (w6.cell? ⟨rq, 0, none⟩ = some (.int .i64 am0) ∧ w6.cell? ⟨rq, 1, none⟩ = some (.string ap0) ∧ w6.cell? ⟨rq, 2, none⟩ = some (.slice a0 n0 cap0) ∧ w6.cell? ⟨rq, 3, none⟩ = some (.string ab0)) ∧ (w6.cell? ⟨rq + 1, 0, none⟩ = some (.int .i64 am1) ∧ w6.cell? ⟨rq + 1, 1, none⟩ = some (.string ap1) ∧ w6.cell? ⟨rq + 1, 2, none⟩ = some (.slice a1 n1 cap1) ∧ w6.cell? ⟨rq + 1, 3, none⟩ = some (.string ab1)) := ⟨(four_facts HBa0_6.out).1, (four_facts HBa1_6.out).1⟩; clear hb5 HOt0_5 HOt1_5 HBa0_5 HBa1_5 b; clear HOt0_6 HOt1_6))
  clear hSS6
  obtain ⟨⟨ca00, ca01, ca02, ca03⟩, _⟩ := four_facts HBa0_6.out
  go_wp2_with fail
  refine (toReq_any am0 ap0 a0 n0 cap0 ab0 fs0 w.heap.size _ (HA0.out _ hb6) hb6.size hm0).mono ?_
  rintro e w7 ⟨vvx0, rfl, ownx0, b⟩
  obtain ⟨ox0, px0, rfl⟩ := slice_of_owns ownx0
  have hb7 : Below w.heap.size w (w7) := hb6.trans (b.mono hb6.size)
  have HBa0_7 : Hid ((w7).heap[rq]? = some (.cells #[.int .i64 am0, .string ap0, .slice a0 n0 cap0, .string ab0] 24)) := blk_below HBa0_6.out b
  have HBa1_7 : Hid ((w7).heap[rq + 1]? = some (.cells #[.int .i64 am1, .string ap1, .slice a1 n1 cap1, .string ab1] 24)) := blk_below HBa1_6.out b
  have HOx0_7 : Hid ((w7).ownsRow w.heap.size 40 2 (.slice ox0 n0 px0) n0 (flatF fs0)) := owns_wide ownx0 hb6.size
  clear ownx0
  clear hb6 HBa0_6 HBa1_6 ca00 ca01 ca02 ca03 b
  go_upto_region 10 with fail
  obtain ⟨qbx0, hqbx0⟩ : ∃ q, q = (w7).heap.size := ⟨_, rfl⟩
  obtain ⟨w8, hW8⟩ : ∃ W, W = (w7).alloc (.cells #[.int .i64 am0, .string ap0, .slice ox0 n0 px0, .string ab0] 29) := ⟨_, rfl⟩
  rw [← hW8, ← hqbx0]
  have b : Below (w7).heap.size (w7) w8 := by rw [hW8]; exact (Below.refl _ _).alloc (Nat.le_refl _) _
  have hb8 : Below w.heap.size w (w8) := hb7.trans (b.mono hb7.size)
  have HOx0_8 : Hid ((w8).ownsRow w.heap.size 40 2 (.slice ox0 n0 px0) n0 (flatF fs0)) := owns_below HOx0_7.out b (fun g hg => owns_lt HOx0_7.out hg)
  have HBa0_8 : Hid ((w8).heap[rq]? = some (.cells #[.int .i64 am0, .string ap0, .slice a0 n0 cap0, .string ab0] 24)) := blk_below HBa0_7.out b
  have HBa1_8 : Hid ((w8).heap[rq + 1]? = some (.cells #[.int .i64 am1, .string ap1, .slice a1 n1 cap1, .string ab1] 24)) := blk_below HBa1_7.out b
  have HBbx0_8 : Hid ((w8).heap[qbx0]? = some (.cells #[.int .i64 am0, .string ap0, .slice ox0 n0 px0, .string ab0] 29)) := by show _ = _; rw [hW8, hqbx0]; exact heap_alloc_new _ _
  clear hb7 HOx0_7 HBa0_7 HBa1_7 b hW8 hqbx0
  obtain ⟨⟨ca10, ca11, ca12, ca13⟩, _⟩ := four_facts HBa1_8.out
  go_wp2_with fail
  refine (toReq_any am1 ap1 a1 n1 cap1 ab1 fs1 w.heap.size _ (HA1.out _ hb8) hb8.size hm1).mono ?_
  rintro e w9 ⟨vvx1, rfl, ownx1, b⟩
  obtain ⟨ox1, px1, rfl⟩ := slice_of_owns ownx1
  have hb9 : Below w.heap.size w (w9) := hb8.trans (b.mono hb8.size)
  have HOx0_9 : Hid ((w9).ownsRow w.heap.size 40 2 (.slice ox0 n0 px0) n0 (flatF fs0)) := owns_below HOx0_8.out b (fun g hg => owns_lt HOx0_8.out hg)
  have HBa0_9 : Hid ((w9).heap[rq]? = some (.cells #[.int .i64 am0, .string ap0, .slice a0 n0 cap0, .string ab0] 24)) := blk_below HBa0_8.out b
  have HBa1_9 : Hid ((w9).heap[rq + 1]? = some (.cells #[.int .i64 am1, .string ap1, .slice a1 n1 cap1, .string ab1] 24)) := blk_below HBa1_8.out b
  have HBbx0_9 : Hid ((w9).heap[qbx0]? = some (.cells #[.int .i64 am0, .string ap0, .slice ox0 n0 px0, .string ab0] 29)) := blk_below HBbx0_8.out b
  have HOx1_9 : Hid ((w9).ownsRow w.heap.size 40 2 (.slice ox1 n1 px1) n1 (flatF fs1)) := owns_wide ownx1 hb8.size
  clear ownx1
  clear hb8 HOx0_8 HBa0_8 HBa1_8 HBbx0_8 ca10 ca11 ca12 ca13 b
  go_upto_region 11 with fail
  obtain ⟨qbx1, hqbx1⟩ : ∃ q, q = (w9).heap.size := ⟨_, rfl⟩
  obtain ⟨w10, hW10⟩ : ∃ W, W = (w9).alloc (.cells #[.int .i64 am1, .string ap1, .slice ox1 n1 px1, .string ab1] 29) := ⟨_, rfl⟩
  rw [← hW10, ← hqbx1]
  have b : Below (w9).heap.size (w9) w10 := by rw [hW10]; exact (Below.refl _ _).alloc (Nat.le_refl _) _
  have hb10 : Below w.heap.size w (w10) := hb9.trans (b.mono hb9.size)
  have HOx0_10 : Hid ((w10).ownsRow w.heap.size 40 2 (.slice ox0 n0 px0) n0 (flatF fs0)) := owns_below HOx0_9.out b (fun g hg => owns_lt HOx0_9.out hg)
  have HOx1_10 : Hid ((w10).ownsRow w.heap.size 40 2 (.slice ox1 n1 px1) n1 (flatF fs1)) := owns_below HOx1_9.out b (fun g hg => owns_lt HOx1_9.out hg)
  have HBa0_10 : Hid ((w10).heap[rq]? = some (.cells #[.int .i64 am0, .string ap0, .slice a0 n0 cap0, .string ab0] 24)) := blk_below HBa0_9.out b
  have HBa1_10 : Hid ((w10).heap[rq + 1]? = some (.cells #[.int .i64 am1, .string ap1, .slice a1 n1 cap1, .string ab1] 24)) := blk_below HBa1_9.out b
  have HBbx0_10 : Hid ((w10).heap[qbx0]? = some (.cells #[.int .i64 am0, .string ap0, .slice ox0 n0 px0, .string ab0] 29)) := blk_below HBbx0_9.out b
  have HBbx1_10 : Hid ((w10).heap[qbx1]? = some (.cells #[.int .i64 am1, .string ap1, .slice ox1 n1 px1, .string ab1] 29)) := by show _ = _; rw [hW10, hqbx1]; exact heap_alloc_new _ _
  clear hb9 HOx0_9 HOx1_9 HBa0_9 HBa1_9 HBbx0_9 b hW10 hqbx1
  obtain ⟨⟨cbx00, cbx01, cbx02, cbx03⟩, _⟩ := four_facts HBbx0_10.out
  obtain ⟨⟨cbx10, cbx11, cbx12, cbx13⟩, _⟩ := four_facts HBbx1_10.out
  go_wp2_with fail
  refine (HIM.out _ _ _ _ _ (FieldsV.of_owns HOx0_10.out) (FieldsV.of_owns HOx1_10.out)).mono ?_
  rintro e w11 ⟨rfl, b⟩
  have hb11 : Below w.heap.size w (w11) := hb10.trans (b.mono hb10.size)
  have HOx0_11 : Hid ((w11).ownsRow w.heap.size 40 2 (.slice ox0 n0 px0) n0 (flatF fs0)) := owns_below HOx0_10.out b (fun g hg => owns_lt HOx0_10.out hg)
  have HOx1_11 : Hid ((w11).ownsRow w.heap.size 40 2 (.slice ox1 n1 px1) n1 (flatF fs1)) := owns_below HOx1_10.out b (fun g hg => owns_lt HOx1_10.out hg)
  have HBa0_11 : Hid ((w11).heap[rq]? = some (.cells #[.int .i64 am0, .string ap0, .slice a0 n0 cap0, .string ab0] 24)) := blk_below HBa0_10.out b
  have HBa1_11 : Hid ((w11).heap[rq + 1]? = some (.cells #[.int .i64 am1, .string ap1, .slice a1 n1 cap1, .string ab1] 24)) := blk_below HBa1_10.out b
  have HBbx0_11 : Hid ((w11).heap[qbx0]? = some (.cells #[.int .i64 am0, .string ap0, .slice ox0 n0 px0, .string ab0] 29)) := blk_below HBbx0_10.out b
  have HBbx1_11 : Hid ((w11).heap[qbx1]? = some (.cells #[.int .i64 am1, .string ap1, .slice ox1 n1 px1, .string ab1] 29)) := blk_below HBbx1_10.out b
  clear hb10 HOx0_10 HOx1_10 HBa0_10 HBa1_10 HBbx0_10 HBbx1_10 cbx00 cbx01 cbx02 cbx03 cbx10 cbx11 cbx12 cbx13 b
  have bd12 : Below (w11).heap.size (w11) (w11).drew := (Below.refl _ _).drew
  have hb12 : Below w.heap.size w (w11.drew) := hb11.trans (bd12.mono hb11.size)
  have HOx0_12 : Hid ((w11.drew).ownsRow w.heap.size 40 2 (.slice ox0 n0 px0) n0 (flatF fs0)) := owns_below HOx0_11.out bd12 (fun g hg => owns_lt HOx0_11.out hg)
  have HOx1_12 : Hid ((w11.drew).ownsRow w.heap.size 40 2 (.slice ox1 n1 px1) n1 (flatF fs1)) := owns_below HOx1_11.out bd12 (fun g hg => owns_lt HOx1_11.out hg)
  have HBa0_12 : Hid ((w11.drew).heap[rq]? = some (.cells #[.int .i64 am0, .string ap0, .slice a0 n0 cap0, .string ab0] 24)) := blk_below HBa0_11.out bd12
  have HBa1_12 : Hid ((w11.drew).heap[rq + 1]? = some (.cells #[.int .i64 am1, .string ap1, .slice a1 n1 cap1, .string ab1] 24)) := blk_below HBa1_11.out bd12
  have HBbx0_12 : Hid ((w11.drew).heap[qbx0]? = some (.cells #[.int .i64 am0, .string ap0, .slice ox0 n0 px0, .string ab0] 29)) := blk_below HBbx0_11.out bd12
  have HBbx1_12 : Hid ((w11.drew).heap[qbx1]? = some (.cells #[.int .i64 am1, .string ap1, .slice ox1 n1 px1, .string ab1] 29)) := blk_below HBbx1_11.out bd12
  obtain ⟨⟨cbx00, cbx01, cbx02, cbx03⟩, _⟩ := four_facts HBbx0_11.out
  obtain ⟨⟨ca00, ca01, ca02, ca03⟩, _⟩ := four_facts HBa0_11.out
  clear hb11 HOx0_11 HOx1_11 HBa0_11 HBa1_11 HBbx0_11 HBbx1_11 bd12
  go_wp2_with fail
  go_region_held3 (fun W => (W.cell? ⟨qbx0, 0, none⟩ = some (.int .i64 am0) ∧ W.cell? ⟨qbx0, 1, none⟩ = some (.string ap0) ∧ W.cell? ⟨qbx0, 2, none⟩ = some (.slice ox0 n0 px0) ∧ W.cell? ⟨qbx0, 3, none⟩ = some (.string ab0)) ∧ (W.cell? ⟨rq, 0, none⟩ = some (.int .i64 am0) ∧ W.cell? ⟨rq, 1, none⟩ = some (.string ap0) ∧ W.cell? ⟨rq, 2, none⟩ = some (.slice a0 n0 cap0) ∧ W.cell? ⟨rq, 3, none⟩ = some (.string ab0))) (first | assumption | go_keep) (first | (go_at_call_of 6 (Value.agg #[.int .i64 am0, .string ap0, .slice a0 n0 cap0, .string ab0]); refine (toReq_any am0 ap0 a0 n0 cap0 ab0 fs0 w.heap.size _ (HA0.out _ hb12) hb12.size hm0).mono ?_; rintro e w13 ⟨vvz0, rfl, ownz0, b⟩; obtain ⟨oz0, pz0, rfl⟩ := slice_of_owns ownz0; have hb13 : Below w.heap.size w (w13) := hb12.trans (b.mono hb12.size); have HM13 : Hid ((w11.drew).heap.size ≤ (w13).heap.size) := b.size; have HOx0_13 : Hid ((w13).ownsRow w.heap.size 40 2 (.slice ox0 n0 px0) n0 (flatF fs0)) := owns_below HOx0_12.out b (fun g hg => owns_lt HOx0_12.out hg); have HOx1_13 : Hid ((w13).ownsRow w.heap.size 40 2 (.slice ox1 n1 px1) n1 (flatF fs1)) := owns_below HOx1_12.out b (fun g hg => owns_lt HOx1_12.out hg); have HBa0_13 : Hid ((w13).heap[rq]? = some (.cells #[.int .i64 am0, .string ap0, .slice a0 n0 cap0, .string ab0] 24)) := blk_below HBa0_12.out b; have HBa1_13 : Hid ((w13).heap[rq + 1]? = some (.cells #[.int .i64 am1, .string ap1, .slice a1 n1 cap1, .string ab1] 24)) := blk_below HBa1_12.out b; have HBbx0_13 : Hid ((w13).heap[qbx0]? = some (.cells #[.int .i64 am0, .string ap0, .slice ox0 n0 px0, .string ab0] 29)) := blk_below HBbx0_12.out b; have HBbx1_13 : Hid ((w13).heap[qbx1]? = some (.cells #[.int .i64 am1, .string ap1, .slice ox1 n1 px1, .string ab1] 29)) := blk_below HBbx1_12.out b; have HOz0_13 : Hid ((w13).ownsRow w.heap.size 40 2 (.slice oz0 n0 pz0) n0 (flatF fs0)) := owns_wide ownz0 hb12.size; have LOz0 : Hid (∀ g, (Value.ownBlock (.slice oz0 n0 pz0)) = some g → (w11.drew).heap.size ≤ g) := fun g hg => owns_ge ownz0 hg; have HIz0 : Hid (∀ g, (Value.ownBlock (.slice oz0 n0 pz0)) = some g → g < (w13).heap.size) := fun g hg => owns_lt ownz0 hg; clear ownz0; have hSS13 : (w13.cell? ⟨qbx0, 0, none⟩ = some (.int .i64 am0) ∧ w13.cell? ⟨qbx0, 1, none⟩ = some (.string ap0) ∧ w13.cell? ⟨qbx0, 2, none⟩ = some (.slice ox0 n0 px0) ∧ w13.cell? ⟨qbx0, 3, none⟩ = some (.string ab0)) ∧ (w13.cell? ⟨rq, 0, none⟩ = some (.int .i64 am0) ∧ w13.cell? ⟨rq, 1, none⟩ = some (.string ap0) ∧ w13.cell? ⟨rq, 2, none⟩ = some (.slice a0 n0 cap0) ∧ w13.cell? ⟨rq, 3, none⟩ = some (.string ab0)) := ⟨(four_facts HBbx0_13.out).1, (four_facts HBa0_13.out).1⟩; clear hb12 HOx0_12 HOx1_12 HBa0_12 HBa1_12 HBbx0_12 HBbx1_12 b) | (go_at_call 8; refine (eqReq_any am0 ap0 _ _ ab0 n0 _ _ fs0 _ (FieldsV.of_owns HOx0_13.out) (FieldsV.of_owns HOz0_13.out) (by omega)).mono ?_; rintro e w14 ⟨rfl, b⟩; have hb14 : Below w.heap.size w (w14) := hb13.trans (b.mono hb13.size); have HM14 : Hid ((w13).heap.size ≤ (w14).heap.size) := b.size; have HOx0_14 : Hid ((w14).ownsRow w.heap.size 40 2 (.slice ox0 n0 px0) n0 (flatF fs0)) := owns_below HOx0_13.out b (fun g hg => owns_lt HOx0_13.out hg); have HOx1_14 : Hid ((w14).ownsRow w.heap.size 40 2 (.slice ox1 n1 px1) n1 (flatF fs1)) := owns_below HOx1_13.out b (fun g hg => owns_lt HOx1_13.out hg); have HOz0_14 : Hid ((w14).ownsRow w.heap.size 40 2 (.slice oz0 n0 pz0) n0 (flatF fs0)) := owns_below HOz0_13.out b (fun g hg => owns_lt HOz0_13.out hg); have HBa0_14 : Hid ((w14).heap[rq]? = some (.cells #[.int .i64 am0, .string ap0, .slice a0 n0 cap0, .string ab0] 24)) := blk_below HBa0_13.out b; have HBa1_14 : Hid ((w14).heap[rq + 1]? = some (.cells #[.int .i64 am1, .string ap1, .slice a1 n1 cap1, .string ab1] 24)) := blk_below HBa1_13.out b; have HBbx0_14 : Hid ((w14).heap[qbx0]? = some (.cells #[.int .i64 am0, .string ap0, .slice ox0 n0 px0, .string ab0] 29)) := blk_below HBbx0_13.out b; have HBbx1_14 : Hid ((w14).heap[qbx1]? = some (.cells #[.int .i64 am1, .string ap1, .slice ox1 n1 px1, .string ab1] 29)) := blk_below HBbx1_13.out b; have hSS14 : (w14.cell? ⟨qbx0, 0, none⟩ = some (.int .i64 am0) ∧ w14.cell? ⟨qbx0, 1, none⟩ = some (.string ap0) ∧ w14.cell? ⟨qbx0, 2, none⟩ = some (.slice ox0 n0 px0) ∧ w14.cell? ⟨qbx0, 3, none⟩ = some (.string ab0)) ∧ (w14.cell? ⟨rq, 0, none⟩ = some (.int .i64 am0) ∧ w14.cell? ⟨rq, 1, none⟩ = some (.string ap0) ∧ w14.cell? ⟨rq, 2, none⟩ = some (.slice a0 n0 cap0) ∧ w14.cell? ⟨rq, 3, none⟩ = some (.string ab0)) := ⟨(four_facts HBbx0_14.out).1, (four_facts HBa0_14.out).1⟩; clear hb13 HOx0_13 HOx1_13 HOz0_13 HBa0_13 HBa1_13 HBbx0_13 HBbx1_13 b; clear HOz0_14))
  clear hSS14
  have bd15 : Below (w14).heap.size (w14) (w14).drew := (Below.refl _ _).drew
  have hb15 : Below w.heap.size w (w14.drew) := hb14.trans (bd15.mono hb14.size)
  have HOx0_15 : Hid ((w14.drew).ownsRow w.heap.size 40 2 (.slice ox0 n0 px0) n0 (flatF fs0)) := owns_below HOx0_14.out bd15 (fun g hg => owns_lt HOx0_14.out hg)
  have HOx1_15 : Hid ((w14.drew).ownsRow w.heap.size 40 2 (.slice ox1 n1 px1) n1 (flatF fs1)) := owns_below HOx1_14.out bd15 (fun g hg => owns_lt HOx1_14.out hg)
  have HBa0_15 : Hid ((w14.drew).heap[rq]? = some (.cells #[.int .i64 am0, .string ap0, .slice a0 n0 cap0, .string ab0] 24)) := blk_below HBa0_14.out bd15
  have HBa1_15 : Hid ((w14.drew).heap[rq + 1]? = some (.cells #[.int .i64 am1, .string ap1, .slice a1 n1 cap1, .string ab1] 24)) := blk_below HBa1_14.out bd15
  have HBbx0_15 : Hid ((w14.drew).heap[qbx0]? = some (.cells #[.int .i64 am0, .string ap0, .slice ox0 n0 px0, .string ab0] 29)) := blk_below HBbx0_14.out bd15
  have HBbx1_15 : Hid ((w14.drew).heap[qbx1]? = some (.cells #[.int .i64 am1, .string ap1, .slice ox1 n1 px1, .string ab1] 29)) := blk_below HBbx1_14.out bd15
  obtain ⟨⟨cbx10, cbx11, cbx12, cbx13⟩, _⟩ := four_facts HBbx1_14.out
  obtain ⟨⟨ca10, ca11, ca12, ca13⟩, _⟩ := four_facts HBa1_14.out
  clear hb14 HOx0_14 HOx1_14 HBa0_14 HBa1_14 HBbx0_14 HBbx1_14 bd15
  go_wp2_with fail
  go_region_held3 (fun W => (W.cell? ⟨qbx1, 0, none⟩ = some (.int .i64 am1) ∧ W.cell? ⟨qbx1, 1, none⟩ = some (.string ap1) ∧ W.cell? ⟨qbx1, 2, none⟩ = some (.slice ox1 n1 px1) ∧ W.cell? ⟨qbx1, 3, none⟩ = some (.string ab1)) ∧ (W.cell? ⟨rq + 1, 0, none⟩ = some (.int .i64 am1) ∧ W.cell? ⟨rq + 1, 1, none⟩ = some (.string ap1) ∧ W.cell? ⟨rq + 1, 2, none⟩ = some (.slice a1 n1 cap1) ∧ W.cell? ⟨rq + 1, 3, none⟩ = some (.string ab1))) (first | assumption | go_keep) (first | (go_at_call_of 6 (Value.agg #[.int .i64 am1, .string ap1, .slice a1 n1 cap1, .string ab1]); refine (toReq_any am1 ap1 a1 n1 cap1 ab1 fs1 w.heap.size _ (HA1.out _ hb15) hb15.size hm1).mono ?_; rintro e w16 ⟨vvz1, rfl, ownz1, b⟩; obtain ⟨oz1, pz1, rfl⟩ := slice_of_owns ownz1; have hb16 : Below w.heap.size w (w16) := hb15.trans (b.mono hb15.size); have HM16 : Hid ((w14.drew).heap.size ≤ (w16).heap.size) := b.size; have HOx0_16 : Hid ((w16).ownsRow w.heap.size 40 2 (.slice ox0 n0 px0) n0 (flatF fs0)) := owns_below HOx0_15.out b (fun g hg => owns_lt HOx0_15.out hg); have HOx1_16 : Hid ((w16).ownsRow w.heap.size 40 2 (.slice ox1 n1 px1) n1 (flatF fs1)) := owns_below HOx1_15.out b (fun g hg => owns_lt HOx1_15.out hg); have HBa0_16 : Hid ((w16).heap[rq]? = some (.cells #[.int .i64 am0, .string ap0, .slice a0 n0 cap0, .string ab0] 24)) := blk_below HBa0_15.out b; have HBa1_16 : Hid ((w16).heap[rq + 1]? = some (.cells #[.int .i64 am1, .string ap1, .slice a1 n1 cap1, .string ab1] 24)) := blk_below HBa1_15.out b; have HBbx0_16 : Hid ((w16).heap[qbx0]? = some (.cells #[.int .i64 am0, .string ap0, .slice ox0 n0 px0, .string ab0] 29)) := blk_below HBbx0_15.out b; have HBbx1_16 : Hid ((w16).heap[qbx1]? = some (.cells #[.int .i64 am1, .string ap1, .slice ox1 n1 px1, .string ab1] 29)) := blk_below HBbx1_15.out b; have HOz1_16 : Hid ((w16).ownsRow w.heap.size 40 2 (.slice oz1 n1 pz1) n1 (flatF fs1)) := owns_wide ownz1 hb15.size; have LOz1 : Hid (∀ g, (Value.ownBlock (.slice oz1 n1 pz1)) = some g → (w14.drew).heap.size ≤ g) := fun g hg => owns_ge ownz1 hg; have HIz1 : Hid (∀ g, (Value.ownBlock (.slice oz1 n1 pz1)) = some g → g < (w16).heap.size) := fun g hg => owns_lt ownz1 hg; clear ownz1; have hSS16 : (w16.cell? ⟨qbx1, 0, none⟩ = some (.int .i64 am1) ∧ w16.cell? ⟨qbx1, 1, none⟩ = some (.string ap1) ∧ w16.cell? ⟨qbx1, 2, none⟩ = some (.slice ox1 n1 px1) ∧ w16.cell? ⟨qbx1, 3, none⟩ = some (.string ab1)) ∧ (w16.cell? ⟨rq + 1, 0, none⟩ = some (.int .i64 am1) ∧ w16.cell? ⟨rq + 1, 1, none⟩ = some (.string ap1) ∧ w16.cell? ⟨rq + 1, 2, none⟩ = some (.slice a1 n1 cap1) ∧ w16.cell? ⟨rq + 1, 3, none⟩ = some (.string ab1)) := ⟨(four_facts HBbx1_16.out).1, (four_facts HBa1_16.out).1⟩; clear hb15 HOx0_15 HOx1_15 HBa0_15 HBa1_15 HBbx0_15 HBbx1_15 b) | (go_at_call 8; refine (eqReq_any am1 ap1 _ _ ab1 n1 _ _ fs1 _ (FieldsV.of_owns HOx1_16.out) (FieldsV.of_owns HOz1_16.out) (by omega)).mono ?_; rintro e w17 ⟨rfl, b⟩; have hb17 : Below w.heap.size w (w17) := hb16.trans (b.mono hb16.size); have HM17 : Hid ((w16).heap.size ≤ (w17).heap.size) := b.size; have HOx0_17 : Hid ((w17).ownsRow w.heap.size 40 2 (.slice ox0 n0 px0) n0 (flatF fs0)) := owns_below HOx0_16.out b (fun g hg => owns_lt HOx0_16.out hg); have HOx1_17 : Hid ((w17).ownsRow w.heap.size 40 2 (.slice ox1 n1 px1) n1 (flatF fs1)) := owns_below HOx1_16.out b (fun g hg => owns_lt HOx1_16.out hg); have HOz1_17 : Hid ((w17).ownsRow w.heap.size 40 2 (.slice oz1 n1 pz1) n1 (flatF fs1)) := owns_below HOz1_16.out b (fun g hg => owns_lt HOz1_16.out hg); have HBa0_17 : Hid ((w17).heap[rq]? = some (.cells #[.int .i64 am0, .string ap0, .slice a0 n0 cap0, .string ab0] 24)) := blk_below HBa0_16.out b; have HBa1_17 : Hid ((w17).heap[rq + 1]? = some (.cells #[.int .i64 am1, .string ap1, .slice a1 n1 cap1, .string ab1] 24)) := blk_below HBa1_16.out b; have HBbx0_17 : Hid ((w17).heap[qbx0]? = some (.cells #[.int .i64 am0, .string ap0, .slice ox0 n0 px0, .string ab0] 29)) := blk_below HBbx0_16.out b; have HBbx1_17 : Hid ((w17).heap[qbx1]? = some (.cells #[.int .i64 am1, .string ap1, .slice ox1 n1 px1, .string ab1] 29)) := blk_below HBbx1_16.out b; have hSS17 : (w17.cell? ⟨qbx1, 0, none⟩ = some (.int .i64 am1) ∧ w17.cell? ⟨qbx1, 1, none⟩ = some (.string ap1) ∧ w17.cell? ⟨qbx1, 2, none⟩ = some (.slice ox1 n1 px1) ∧ w17.cell? ⟨qbx1, 3, none⟩ = some (.string ab1)) ∧ (w17.cell? ⟨rq + 1, 0, none⟩ = some (.int .i64 am1) ∧ w17.cell? ⟨rq + 1, 1, none⟩ = some (.string ap1) ∧ w17.cell? ⟨rq + 1, 2, none⟩ = some (.slice a1 n1 cap1) ∧ w17.cell? ⟨rq + 1, 3, none⟩ = some (.string ab1)) := ⟨(four_facts HBbx1_17.out).1, (four_facts HBa1_17.out).1⟩; clear hb16 HOx0_16 HOx1_16 HOz1_16 HBa0_16 HBa1_16 HBbx0_16 HBbx1_16 b; clear HOz1_17))
  clear hSS17
  go_wp2_with fail
  go_ret
  exact ⟨rfl, hb17⟩

set_option maxRecDepth 100000 in
theorem lifted (os : Os) (started : os.Started) (H : Type) (enc : TypeId × Value → H) :
    ReturnsInHanded {} Try.checked os 3 .any (Rows.fnExactAlikeSpec.pre6 enc Try.prog Try.f3 Rows.fnExactAlikeRow.domain false) (Rows.fnExactAlikeSpec.post enc Try.prog Try.f3 false true false false) := by
  refine returnsInHanded_of_change (C := Try.checked) own started (by kernel_rfl) Try.func3
    (ChangeSpec.witness6 (enc := enc) (C := Try.checked) false ⟨#[], #[.agg #[.int .i64 0, .string ByteArray.empty, .slice none 0 0, .string ByteArray.empty], .agg #[.int .i64 0, .string ByteArray.empty, .slice none 0 0, .string ByteArray.empty]], []⟩ 8 (by kernel_rfl) (by kernel_rfl) (by kernel_rfl) (by kernel_rfl)) ?_
  intro W base args ds gs before hval0 hW _ _
  have hval : ∀ (j : Nat) t v, Try.f3.params[j]? = some t → args[j]? = some v → Value.okWide Try.prog W .any base t v := hval0
  have hW' := hW
  obtain ⟨p, q, hA0, hV, rfl, hfz, hnd⟩ := hW
  have hA : DataW.TrodAll enc Try.prog W 0 (fun _ => true) true Try.f3.params.toList args.toList ds p := hA0
  rw [Try.params3] at hA hval
  obtain ⟨v0, vs0, d0, ds0, p0, q0, hargs, rfl, rfl, h0, r0⟩ := trodAll_cons hA
  obtain ⟨v1, vs1, d1, ds1, p1, q1, hargs1, rfl, rfl, h1, r1⟩ := trodAll_cons r0
  obtain ⟨rfl, rfl, rfl⟩ := trodAll_nil r1
  obtain rfl : args = #[v0, v1] := by cases args; simp_all
  obtain ⟨rfl, rfl⟩ := trodVars_none hV
  have k0 := h0
  have lt0 : ∀ x ∈ p0, x.block < W.heap.size := by obtain ⟨m, hm⟩ := k0; exact DataW.trod_lt m _ _ _ hm
  obtain ⟨am0, ap0, a0, n0, cap0, ab0, fs0, rfl, ga0, gb0, gc0, gd0, ge0⟩ := openReq (hval 0 24 v0 rfl rfl) h0
  have k1 := h1
  have lt1 : ∀ x ∈ p1, x.block < W.heap.size := by obtain ⟨m, hm⟩ := k1; exact DataW.trod_lt m _ _ _ hm
  obtain ⟨am1, ap1, a1, n1, cap1, ab1, fs1, rfl, ga1, gb1, gc1, gd1, ge1⟩ := openReq (hval 1 24 v1 rfl rfl) h1
  clear hA0 hval0
  refine (walk1 W am0 ap0 a0 n0 cap0 ab0 fs0 ga0 gb0 gc0 gd0 ge0 am1 ap1 a1 n1 cap1 ab1 fs1 ga1 gb1 gc1 gd1 ge1).mono fun e W' ⟨he, bel⟩ => ?_
  subst he
  exact ⟨_, rfl, _, _, _, [], _, [], hW', trodAll_mk1 (shut_bool Try.underlying4 _), (trodAll_cons_mk (Below.trod laidOut (by kernel_rfl) (of_decide_eq_true (by kernel_rfl)) k0 bel lt0) (trodAll_cons_mk (Below.trod laidOut (by kernel_rfl) (of_decide_eq_true (by kernel_rfl)) k1 bel lt1) trodAll_mk0)), rfl, bel.frame _, fun h => by cases h⟩

theorem over : Rows.fnExactAlikeRow.holds Try.pinned (OpenSpec.ofChange Rows.fnExactAlikeSpec) :=
  OpenClaim.holds_of_wide 3 Try.f3 rfl rfl rfl rfl rfl rfl rfl ⟨rfl, rfl, rfl, rfl, rfl⟩ rfl rfl rfl rfl rfl (by kernel_rfl) Try.func3 (by kernel_rfl)
    (of_decide_eq_true (by kernel_rfl)) (by unfold Func.isWrapper; first | (rw [if_pos (by decide +kernel)]; kernel_rfl) | (rw [if_neg (by decide +kernel)]; exact ⟨rfl, rfl⟩))
    (fun os started H enc _ => lifted os started H enc)
end fnExactAlike

theorem fnExactAlike_holds : Rows.FnExactAlikeSaid := fnExactAlike.over
#print axioms fnExactAlike_holds
end Go.Proofs.Ytmcmeeibogkpaaa
