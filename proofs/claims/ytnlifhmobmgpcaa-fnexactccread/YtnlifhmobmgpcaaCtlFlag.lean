/- 'saidByFlag' of the developers: a contract over the translation. -/
import Derived.Test.YtnlifhmobmgpcaaCtlImpl
namespace Go.Proofs.Ytnlifhmobmgpcaa
open Go.RowKit
open Go.Lib hiding intOf

set_option maxHeartbeats 2000000 in
theorem saidByFlag_any (x : ByteArray) (w : World) :
    Calls Try.prog 66 #[.string x] w fun e w' => e = .returned (saidF x).v ∧ Below w.heap.size w w' := by
  have hR : CcAt (w.alloc (.cells #[.bool false, .bool false, .bool false, .bool false, .bool false, .int .i64 0] 34)) w.heap.size cc0 := heap_alloc_new w _
  have HB0 : Hid (Below w.heap.size w (w.alloc (.cells #[.bool false, .bool false, .bool false, .bool false, .bool false, .int .i64 0] 34))) := (Below.refl _ _).alloc (Nat.le_refl _) _
  obtain ⟨W1, hW1⟩ : ∃ W, W = w.alloc (.cells #[.bool false, .bool false, .bool false, .bool false, .bool false, .int .i64 0] 34) := ⟨_, rfl⟩
  have HW1 : Hid (w.alloc (.cells #[.bool false, .bool false, .bool false, .bool false, .bool false, .int .i64 0] 34) = W1) := hW1.symm
  rw [← hW1] at hR HB0
  obtain ⟨H, hH⟩ : ∃ H, H = w.heap.size := ⟨_, rfl⟩
  have HW : Hid (w.heap.size = H) := hH.symm
  rw [← hH] at hR HB0
  clear hW1
  obtain ⟨r0, r1, r2, r3, r4, r5⟩ := hR.cells
  have f0 := hR.frozen 0
  have f1 := hR.frozen 1
  have f2 := hR.frozen 2
  have f3 := hR.frozen 3
  have f4 := hR.frozen 4
  have f5 := hR.frozen 5
  obtain ⟨c, hc⟩ : ∃ c, c = saidF x := ⟨_, rfl⟩
  have HC : Hid (saidF x = c) := hc.symm
  obtain ⟨m0, m1, m2, m3, m4, m5⟩ := (hR.putAll c).cells
  have HB : Hid (Below H w (putCc W1 H c)) := below_putCc HB0.out (Nat.le_refl _) c
  unfold putCc at m0 m1 m2 m3 m4 m5 HB
  clear hR HB0
  unfold saidF at hc
  by_cases h0 : x = nsW
  · have t0 : (x.toList == nsW.toList) = true := (text_beq _ _).2 h0
    rw [nsW_list] at t0
    rw [if_pos h0] at hc
    subst hc
    clear h0 
    dsimp only at m0 m1 m2 m3 m4 m5 HB
    go_enter Try.func66, Try.ntmps66
    go_upto_region 1 with fail
    rw [HW1.out, ← hH]
    clear hH HW1
    go_wp2_with fail
    refine bodyPost_ret (v := (saidF x).v) (by rw [HC.out]; simp [results, Try.results66, go_sem, m0, m1, m2, m3, m4, m5, CcD.v]) rfl ?_
    exact ⟨rfl, by rw [HW.out]; exact HB.out⟩
  have t0 : (x.toList == nsW.toList) = false := text_beq_no h0
  rw [nsW_list] at t0
  by_cases h1 : x = ncW
  · have t1 : (x.toList == ncW.toList) = true := (text_beq _ _).2 h1
    rw [ncW_list] at t1
    rw [if_neg h0, if_pos h1] at hc
    subst hc
    clear h1 h0
    dsimp only at m0 m1 m2 m3 m4 m5 HB
    go_enter Try.func66, Try.ntmps66
    go_upto_region 1 with fail
    rw [HW1.out, ← hH]
    clear hH HW1
    go_wp2_with fail
    refine bodyPost_ret (v := (saidF x).v) (by rw [HC.out]; simp [results, Try.results66, go_sem, m0, m1, m2, m3, m4, m5, CcD.v]) rfl ?_
    exact ⟨rfl, by rw [HW.out]; exact HB.out⟩
  have t1 : (x.toList == ncW.toList) = false := text_beq_no h1
  rw [ncW_list] at t1
  by_cases h2 : x = prW
  · have t2 : (x.toList == prW.toList) = true := (text_beq _ _).2 h2
    rw [prW_list] at t2
    rw [if_neg h0, if_neg h1, if_pos h2] at hc
    subst hc
    clear h2 h0 h1
    dsimp only at m0 m1 m2 m3 m4 m5 HB
    go_enter Try.func66, Try.ntmps66
    go_upto_region 1 with fail
    rw [HW1.out, ← hH]
    clear hH HW1
    go_wp2_with fail
    refine bodyPost_ret (v := (saidF x).v) (by rw [HC.out]; simp [results, Try.results66, go_sem, m0, m1, m2, m3, m4, m5, CcD.v]) rfl ?_
    exact ⟨rfl, by rw [HW.out]; exact HB.out⟩
  have t2 : (x.toList == prW.toList) = false := text_beq_no h2
  rw [prW_list] at t2
  by_cases h4 : x = muW
  · have t3 : (x.toList == muW.toList) = true := (text_beq _ _).2 h4
    rw [muW_list] at t3
    rw [if_neg h0, if_neg h1, if_neg h2, if_pos h4] at hc
    subst hc
    clear h4 h0 h1 h2
    dsimp only at m0 m1 m2 m3 m4 m5 HB
    go_enter Try.func66, Try.ntmps66
    go_upto_region 1 with fail
    rw [HW1.out, ← hH]
    clear hH HW1
    go_wp2_with fail
    refine bodyPost_ret (v := (saidF x).v) (by rw [HC.out]; simp [results, Try.results66, go_sem, m0, m1, m2, m3, m4, m5, CcD.v]) rfl ?_
    exact ⟨rfl, by rw [HW.out]; exact HB.out⟩
  have t3 : (x.toList == muW.toList) = false := text_beq_no h4
  rw [muW_list] at t3
  rw [if_neg h0, if_neg h1, if_neg h2, if_neg h4] at hc
  subst hc
  clear h0 h1 h2 h4
  dsimp only [cc0] at m0 m1 m2 m3 m4 m5 HB
  go_enter Try.func66, Try.ntmps66
  go_upto_region 1 with fail
  rw [HW1.out, ← hH]
  clear hH HW1
  go_wp2_with fail
  refine bodyPost_ret (v := (saidF x).v) (by rw [HC.out]; simp [results, Try.results66, go_sem, m0, m1, m2, m3, m4, m5, CcD.v, cc0]) rfl ?_
  exact ⟨rfl, by rw [HW.out]; exact HB.out⟩

end Go.Proofs.Ytnlifhmobmgpcaa
