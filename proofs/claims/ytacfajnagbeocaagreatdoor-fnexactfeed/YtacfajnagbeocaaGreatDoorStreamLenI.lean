/- 'bodyLength' of the program: a contract over the translation. -/
import Derived.Test.YtacfajnagbeocaaGreatDoorStreamLenP
import Derived.Test.YtacfajnagbeocaaGreatDoorStreamLenS
import Derived.Test.YtacfajnagbeocaaGreatDoorMsgReadJ
namespace Go.Proofs.YtacfajnagbeocaaGreatDoor
open Go.RowKit
open Go.Lib hiding intOf

/-- The bytes of 'content-length: '. -/
def clenP : ByteArray := ⟨#[99, 111, 110, 116, 101, 110, 116, 45, 108, 101, 110, 103, 116, 104, 58, 32]⟩
theorem clenP_bs : bs clenP = clenM := rfl
theorem lnE_bs : bs lnE = [13, 10] := rfl
theorem lenS_nil (first : Bool) : lenS first [] [] = 0 := rfl

set_option maxHeartbeats 2000000 in
set_option maxRecDepth 100000 in
theorem bodyLength_any (s : ByteArray) (w : World) (hs : s.size ≤ 4000000) (hW : Whole (bs s)) (hne : bs s ≠ []) (hL : LenOk w) :
    Calls Tryz.prog 28 #[.string s] w fun e w' => e = .returned (.int .i64 (lenL (bs s) : Int)) ∧ Below w.heap.size w w' := by
  have HLN0 : Hid (∀ W, Below w.heap.size w W → LenOk W) := fun W h => hL.below h hL.lt
  obtain ⟨k1, k2, k3⟩ := whole_step lnE_bs hW hne
  have HL1 : Hid (lenS false [] (bs (cutB s lnE)) = lenL (bs s)) := by
    show _ = _
    have h := k3 true
    rw [if_pos rfl] at h
    exact h.symm
  have HK1 : Hid (Whole (bs (cutB s lnE))) := k1
  have hcs : (cutB s lnE).size ≤ s.size := by omega
  clear hL k1 k2 k3 hW hne
  obtain ⟨H, hH⟩ : ∃ H, H = w.heap.size := ⟨_, rfl⟩
  have HW : Hid (w.heap.size = H) := hH.symm
  have HLN : Hid (∀ W, Below H w W → LenOk W) := by rw [hH]; exact HLN0
  have hR0 : Reader (w.alloc (Obj.cells #[.string s] 67)) H s := by unfold Reader; rw [hH]; exact heap_alloc_new w _
  have HB0 : Hid (Below H w (w.alloc (Obj.cells #[.string s] 67))) := (Below.refl _ _).alloc (by omega) _
  have HS0 : Hid (H ≤ (w.alloc (Obj.cells #[.string s] 67)).heap.size) := by show _ ≤ _; rw [World.size_alloc]; omega
  clear HLN0
  go_enter Tryz.func28, Tryz.ntmps28
  go_wp2_with fail
  rw [← hH]
  clear hH
  refine (upTo_any H s lnE _ hR0 hs (HLN.out _ HB0.out)).mono ?_
  rintro e w1 ⟨rfl, hr1, hg1⟩
  have HB1 : Hid (Below H w w1) := HB0.out.grown hg1 HS0.out (by intro k hk; cases hk; exact Nat.le_refl _)
  clear hg1 hR0
  go_wp2_with fail
  go_loopw [6] (fun _ wr => ∃ u : ByteArray, u.size ≤ s.size ∧ Reader wr H u ∧ Hid (Whole (bs u)) ∧ Hid (lenS false [] (bs u) = lenL (bs s)) ∧ Hid (Below H w wr)) (fun _ wr => match wr.cell? ⟨H, 0, none⟩ with | some (.string u) => u.size | _ => 0)
  case atStart => exact ⟨cutB s lnE, hcs, hr1, HK1, HL1, HB1⟩
  case round =>
    obtain ⟨u, hu, hr, HWH, HLE, HB⟩ := hrel
    have hc := hr.cell
    by_cases hz : u.size = 0
    · have he : u.toList.isEmpty = true := isEmpty_yes hz
      have HZ : Hid ((0 : Int) = (lenL (bs s) : Int)) := by
        show _ = _
        have hb : bs u = [] := List.length_eq_zero_iff.1 (by rw [bs_len]; exact hz)
        rw [← HLE.out, hb, lenS_nil]
        rfl
      clear hz
      go_wp2_with fail
      go_ret
      exact ⟨by rw [← HZ.out]; rfl, by rw [HW.out]; exact HB.out⟩
    · have he : u.toList.isEmpty = false := isEmpty_no (by omega)
      have hne : bs u ≠ [] := fun e => by have := bs_len u; rw [e] at this; simp at this; omega
      obtain ⟨k1, k2, k3⟩ := whole_step lnE_bs HWH.out hne
      have h3 := k3 false
      rw [if_neg (by decide), HLE.out] at h3
      obtain ⟨line, hline⟩ : ∃ x, x = cutA u lnE := ⟨_, rfl⟩
      obtain ⟨nx, hnx⟩ : ∃ x, x = cutB u lnE := ⟨_, rfl⟩
      have hls : line.size ≤ 4000000 := by rw [hline]; exact Nat.le_trans (cutA_size _ _) (by omega)
      rw [← hline, ← hnx] at h3
      rw [← hnx] at k1 k2
      have HNX : Hid (cutB u lnE = nx) := hnx.symm
      have HLI : Hid (cutA u lnE = line) := hline.symm
      have HK1 : Hid (Whole (bs nx)) := k1
      have HH : Hid (H < wr.heap.size) := (Array.getElem?_eq_some_iff.1 hr).1
      obtain ⟨p1, p2⟩ := clenOf_pre (line := line) (p := clenP) clenP_bs
      have hus : u.size ≤ 4000000 := by omega
      have HCU : Hid (wr.cell? ⟨H, 0, none⟩ = some (.string u)) := hc
      clear hz hne k1 k3 hline hnx HWH HLE
      cases hp : hasP line clenP with
      | true =>
        obtain ⟨p3, p4⟩ := p1 hp
        obtain ⟨dg, hdg⟩ : ∃ x, x = trimP line clenP := ⟨_, rfl⟩
        have hds : dg.size ≤ 4000000 := by rw [hdg]; exact Nat.le_trans (trimP_size _ _) hls
        have HDG : Hid (trimP line clenP = dg) := hdg.symm
        have HPT : Hid (hasP line clenP = true) := hp
        rw [← hdg] at p3 p4
        have HY : Hid (NumOk dg → lenL (bs s) = valL (bs dg)) := fun h => by rw [h3, p3 h]
        have HN : Hid (¬ NumOk dg → lenS false [] (bs nx) = lenL (bs s)) := fun h => by rw [h3, p4 h]
        clear p1 p2 p3 p4 hp hdg h3
        go_wp2_with fail
        refine (upTo_any H u lnE _ hr hus (HLN.out _ HB.out)).mono ?_
        rintro e w2 ⟨rfl, hr2, hg2⟩
        rw [HLI.out]
        rw [HNX.out] at hr2
        have HB2 : Hid (Below H w w2) := HB.out.grown hg2 (Nat.le_of_lt HH.out) (by intro k hk; cases hk; exact Nat.le_refl _)
        have HH2 : Hid (H < w2.heap.size) := Nat.lt_of_lt_of_le HH.out hg2.size
        clear hr hg2 hc
        go_wp2_with fail
        refine (Tryz.strings_CutPrefix line clenP _).mono ?_
        rintro e w3 ⟨rfl, rfl⟩
        rw [show (⟨(Lib.trimPrefix line.data.toList clenP.data.toList).toArray⟩ : ByteArray) = dg from HDG.out, show Lib.hasPrefix line.data.toList clenP.data.toList = true from HPT.out]
        go_wp2_with fail
        refine (implNumRead_any dg _ (by unfold maxLen; omega)).mono ?_
        rintro e w4 ⟨b, n, rfl, hb1, hb2, hb3, b4⟩
        have hr4 : Reader w4 H nx := by unfold Reader; rw [b4.block H HH2.out]; exact hr2
        have HB4 : Hid (Below H w w4) := HB2.out.trans (b4.mono (Nat.le_of_lt HH2.out))
        clear hr2 b4
        cases b with
        | true =>
          have HE : Hid (n = (lenL (bs s) : Int)) := by show _ = _; rw [hb2 rfl, HY.out (hb1.1 rfl)]; rfl
          clear hb1 hb2 hb3
          go_wp2_with fail
          go_ret
          exact ⟨by rw [HE.out]; rfl, by rw [HW.out]; exact HB4.out⟩
        | false =>
          have HE : Hid (lenS false [] (bs nx) = lenL (bs s)) := HN.out (fun h => by cases hb1.2 h)
          have hc4 := hr4.cell
          clear hb1 hb2 hb3
          go_wp2_with fail
          go_roundw
          case rel => exact ⟨nx, by omega, hr4, HK1, HE, HB4⟩
          case measure => rw [hc4, HCU.out]; exact k2
      | false =>
        have HPT : Hid (hasP line clenP = false) := hp
        obtain ⟨dg, hdg⟩ : ∃ x, x = trimP line clenP := ⟨_, rfl⟩
        have hds : dg.size ≤ 4000000 := by rw [hdg]; exact Nat.le_trans (trimP_size _ _) hls
        have HDG : Hid (trimP line clenP = dg) := hdg.symm
        have HE : Hid (lenS false [] (bs nx) = lenL (bs s)) := by show _ = _; rw [h3, p2 hp]
        clear p1 p2 hp hdg h3
        go_wp2_with fail
        refine (upTo_any H u lnE _ hr hus (HLN.out _ HB.out)).mono ?_
        rintro e w2 ⟨rfl, hr2, hg2⟩
        rw [HLI.out]
        rw [HNX.out] at hr2
        have HB2 : Hid (Below H w w2) := HB.out.grown hg2 (Nat.le_of_lt HH.out) (by intro k hk; cases hk; exact Nat.le_refl _)
        have HH2 : Hid (H < w2.heap.size) := Nat.lt_of_lt_of_le HH.out hg2.size
        clear hr hg2 hc
        go_wp2_with fail
        refine (Tryz.strings_CutPrefix line clenP _).mono ?_
        rintro e w3 ⟨rfl, rfl⟩
        rw [show (⟨(Lib.trimPrefix line.data.toList clenP.data.toList).toArray⟩ : ByteArray) = dg from HDG.out, show Lib.hasPrefix line.data.toList clenP.data.toList = false from HPT.out]
        go_wp2_with fail
        refine (implNumRead_any dg _ (by unfold maxLen; omega)).mono ?_
        rintro e w4 ⟨b, n, rfl, hb1, hb2, hb3, b4⟩
        have hr4 : Reader w4 H nx := by unfold Reader; rw [b4.block H HH2.out]; exact hr2
        have HB4 : Hid (Below H w w4) := HB2.out.trans (b4.mono (Nat.le_of_lt HH2.out))
        have hc4 := hr4.cell
        clear hr2 b4 hb1 hb2 hb3
        go_wp2_with fail
        go_roundw
        case rel => exact ⟨nx, by omega, hr4, HK1, HE, HB4⟩
        case measure => rw [hc4, HCU.out]; exact k2

end Go.Proofs.YtacfajnagbeocaaGreatDoor
