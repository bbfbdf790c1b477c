/- 'Pieces' of the program: a contract over the translation. -/
import Derived.Test.YtffjnfaneeejnaaStreamPcs
import Derived.Test.YtffjnfaneeejnaaClone
namespace Go.Proofs.Ytffjnfaneeejnaa
open Go.RowKit
open Go.Lib hiding intOf

theorem piece_front (u : ByteArray) (m : Nat) (z : Int) (hm : m = min u.size z.toNat) : textL ((bs u).take z.toNat) = u.extract 0 m ∧ (bs u).drop z.toNat = bs (u.extract m u.size) := by
  have h := piece_at u 0 m z (by omega)
  rw [List.drop_zero, Nat.zero_add] at h
  refine ⟨h.1, ?_⟩
  rw [h.2, bs_extract, List.take_of_length_le (by rw [bs_len]; exact Nat.le_refl _)]

set_option maxHeartbeats 2000000 in
set_option maxRecDepth 100000 in
theorem implPieces_any (body : ByteArray) (oa : Option Addr) (n cap : Nat) (zs : List Int) (w : World) (hv : IntsV w oa n zs) (hn : n ≤ 1048576) (hb : body.size ≤ 1048576) :
    Calls Try.prog 6 #[.string body, .slice oa n cap] w fun e w' => RowIs w.heap.size (pcsB zs body) w e w' := by
  obtain ⟨i0, hi, hz0, hz1, hz2⟩ := info_parts info9
  have HLEN : Hid (zs.length = n) := hv.1
  have HV : Hid (∀ W, Below w.heap.size w W → IntsV W oa n zs) := fun W h => hv.below h
  clear hv
  go_enter Try.func6, Try.ntmps6
  go_wp2
  go_loopw [5, 6, 13] (fun a b c wr => ∃ (i : Nat) (u : ByteArray) (xs : List ByteArray), b = .string u ∧ c = .int .i64 (i : Int) ∧ i ≤ n ∧ u.size ≤ body.size ∧ xs.length = i ∧ Hid (wr.ownsRow w.heap.size 9 1 a xs.length (xs.map Value.string)) ∧ Below w.heap.size w wr ∧ Hid (xs ++ (pcs (zs.drop i) (bs u)).map textL = pcsB zs body)) (fun _ _ c _ => n - (intOf c).toNat)
  case atStart => exact ⟨0, body, [], rfl, rfl, by omega, by omega, rfl, World.ownsRow_nil _ _ _ _, Below.refl _ _, by show _ = _; simp [pcsB]⟩
  case round =>
    obtain ⟨i, u, xs, rfl, rfl, hi', hu, hxl, HO, hbw, HE⟩ := hrel
    have h63 : xs.length + 1 ≤ maxLen := by unfold maxLen; omega
    have h47 : (xs.length + 1) * 16 ≤ 140737488355328 := by omega
    have HXL : Hid (xs.length = i) := hxl
    by_cases hlt : (i : Int) < (n : Int)
    · obtain ⟨g, rfl, hg, hc⟩ := (HV.out wr hbw).2 i (by omega)
      obtain ⟨z, hz⟩ : ∃ z, z = zs.getD i 0 := ⟨_, rfl⟩
      rw [← hz] at hc
      obtain ⟨m, hm⟩ : ∃ m, m = min u.size z.toNat := ⟨_, rfl⟩
      obtain ⟨p1, p2⟩ := piece_front u m z hm
      have hil : i < zs.length := by rw [HLEN.out]; omega
      have hdz : zs.drop i = z :: zs.drop (i + 1) := by
        rw [List.drop_eq_getElem_cons hil, hz]
        congr 1
        rw [List.getD_eq_getElem?_getD, List.getElem?_eq_getElem hil]
        rfl
      have HE2 : Hid ((xs ++ [u.extract 0 m]) ++ (pcs (zs.drop (i + 1)) (bs (u.extract m u.size))).map textL = pcsB zs body) := by
        have h := HE.out
        rw [hdz, pcs, List.map_cons, p1, p2] at h
        show _ = _
        rw [List.append_assoc]
        exact h
      have HMZ : Hid (max 0 (min z (u.size : Int)) = (m : Int)) := by show _ = _; omega
      have hmt : (m : Int) ≤ (u.size : Int) := by omega
      clear p1 p2 hdz hz hm hxl
      go_wp2_with fail
      rw [HMZ.out, Int.toNat_natCast]
      refine (clone_any (u.extract 0 m) _ (by rw [ByteArray.size_extract]; omega)).mono ?_
      rintro e w2 ⟨rfl, b2⟩
      have HO2 : Hid (w2.ownsRow w.heap.size 9 1 u5 xs.length (xs.map Value.string)) := owns_below HO.out b2 (fun g hg => owns_lt HO.out hg)
      have HW2 : Hid (Below w.heap.size w w2) := hbw.trans (b2.mono hbw.size)
      have HBS : ∀ o, w.heap.size ≤ (w2.alloc o).heap.size := fun o => by have := HW2.out.size; simp; omega
      clear hc b2 hbw
      go_wp2_with (at_builtin; refine wpList_append_own _ rfl _ _ 23 rfl w.heap.size 9 i0 (.string ⟨#[]⟩) 1 16 Try.underlying23 hi hz0 hz1 hz2 rfl (by decide) _ _ _ rfl (HO2.out.alloc _) ⟨w2.heap.size, 0, none⟩ 1 1 [.string (u.extract 0 m)] rfl rfl (cell_one_new _ _ _) (one_text _) h63 h47 (HBS _) ?_)
      intro v3 w3 hown3 hgrow3 _
      have HB3 : Hid (Below w.heap.size w w3) := ((HW2.out.alloc HW2.out.size _).grown hgrow3 (HBS _) (fun g hg => owns_ge HO2.out hg))
      have HO3 : Hid (w3.ownsRow w.heap.size 9 1 v3 (xs ++ [u.extract 0 m]).length ((xs ++ [u.extract 0 m]).map Value.string)) := by
        show World.ownsRow _ _ _ _ _ _ _
        rw [List.length_append, List.map_append]
        exact hown3
      clear hown3 hgrow3 HBS HO HE HO2 HW2
      go_wp2_with fail
      go_roundw
      case rel => exact ⟨i + 1, u.extract m u.size, xs ++ [u.extract 0 m], by go_num, by go_num, by omega, by rw [ByteArray.size_extract]; omega, by rw [List.length_append, HXL.out]; rfl, HO3, HB3.out, HE2⟩
      case measure => simp [intOf]; omega
    · obtain rfl : i = n := by omega
      have hzd : zs.drop i = [] := List.drop_of_length_le (by rw [HLEN.out]; exact Nat.le_refl _)
      have hE := HE.out
      rw [hzd, pcs] at hE
      have hdl : (bs u).length = u.size := bs_len u
      by_cases hend : u.size = 0
      · have he : bs u = [] := List.length_eq_zero_iff.1 (by rw [hdl]; omega)
        rw [if_pos he] at hE
        have HR : Hid (xs = pcsB zs body) := by show _ = _; simpa using hE
        have ht : u.toList.isEmpty = true := isEmpty_yes hend
        clear hE hzd he hdl hxl hend
        go_wp2_with fail
        go_ret
        exact RowIs.of HR.out rfl HO.out hbw
      · have hne : bs u ≠ [] := fun e => by rw [e] at hdl; simp at hdl; omega
        rw [if_neg hne] at hE
        have HR : Hid (xs ++ [u] = pcsB zs body) := by
          show _ = _
          rw [← hE]
          show xs ++ [u] = xs ++ [textL (bs u)]
          rw [textL_bs]
        have ht : u.toList.isEmpty = false := isEmpty_no (by omega)
        clear hE hzd hne hdl hxl hend
        go_wp2_with fail
        refine (clone_any u _ (by omega)).mono ?_
        rintro e w2 ⟨rfl, b2⟩
        have HO2 : Hid (w2.ownsRow w.heap.size 9 1 u5 xs.length (xs.map Value.string)) := owns_below HO.out b2 (fun g hg => owns_lt HO.out hg)
        have HW2 : Hid (Below w.heap.size w w2) := hbw.trans (b2.mono hbw.size)
        have HBS : ∀ o, w.heap.size ≤ (w2.alloc o).heap.size := fun o => by have := HW2.out.size; simp; omega
        clear b2 hbw
        go_wp2_with (at_builtin; refine wpList_append_own _ rfl _ _ 23 rfl w.heap.size 9 i0 (.string ⟨#[]⟩) 1 16 Try.underlying23 hi hz0 hz1 hz2 rfl (by decide) _ _ _ rfl (HO2.out.alloc _) ⟨w2.heap.size, 0, none⟩ 1 1 [.string u] rfl rfl (cell_one_new _ _ _) (one_text _) h63 h47 (HBS _) ?_)
        intro v3 w3 hown3 hgrow3 _
        have HB3 : Hid (Below w.heap.size w w3) := ((HW2.out.alloc HW2.out.size _).grown hgrow3 (HBS _) (fun g hg => owns_ge HO2.out hg))
        have HO3 : Hid (w3.ownsRow w.heap.size 9 1 v3 (xs.length + 1) ((xs ++ [u]).map Value.string)) := by
          show World.ownsRow _ _ _ _ _ _ _
          rw [List.map_append]
          exact hown3
        clear hown3 hgrow3 HBS HO HE HO2 HW2
        go_wp2_with fail
        go_ret
        exact RowIs.of HR.out (by simp) HO3.out HB3.out

end Go.Proofs.Ytffjnfaneeejnaa
