/- 'Pieces' of the specification; lists of ints of the call's own, marked. -/
import Derived.Test.YtffjnfaneeejnaaStreamPlain
import Derived.Test.YtffjnfaneeejnaaChunkTextS
import Derived.Test.YtffjnfaneeejnaaChunkLaw
import Derived.Test.YtffjnfaneeejnaaMsgScan
import Derived.Test.YtffjnfaneeejnaaMsgReq
import Derived.Test.YtffjnfaneeejnaaSplit
namespace Go.Proofs.Ytffjnfaneeejnaa
open Go.RowKit
open Go.Lib hiding intOf

set_option maxHeartbeats 1000000 in
theorem toIntSO_any (B : Nat) (a : Option Addr) (n cap : Nat) (zs : List Int) (w : World) (harg : ArgI w B a n zs) (hB : B ≤ w.heap.size) (hn : n ≤ 1048576) :
    Calls Try.prog 5 #[.slice a n cap] w fun e w' => e = .returned (.slice (some ⟨w.heap.size, 0, none⟩) n n) ∧ PartI w' w.heap.size n n zs ∧ Below w.heap.size w w' := by
  obtain ⟨i0, hi, hz0, hz1, hz2⟩ := info_parts infoI
  obtain ⟨M, hM⟩ : ∃ M, M = madeCells (Value.int .i64 0).cells (((n : Nat) : Int).toNat * i0.size) := ⟨_, rfl⟩
  have hmk : ∀ W : World, (Instr.makeSlice 22 (.int .i64 (n : Int)) (.int .i64 (n : Int))).run Try.prog W = .ok (.slice (some ⟨W.heap.size, 0, none⟩) n n) (W.alloc (.cells M 3)) := fun W => by
    have h := run_make (P := Try.prog) W 22 3 i0 (.int .i64 0) Try.underlying22 hi hz0 .i64 .i64 (n : Int) (n : Int) (by omega) (by omega) (by rw [hz2]; omega) (by omega)
    rw [← hM] at h
    simpa using h
  have hMs : M.size = n := by rw [hM, size_madeCells, hz1]; simp
  have HARG : Hid (∀ W, Below B w W → ArgI W B a n zs) := fun W h => harg.below h
  clear hM harg
  have HP : Hid (PartI (w.alloc (.cells M 3)) w.heap.size n 0 zs) := ⟨M, heap_alloc_new w _, hMs, fun i h => absurd h (by omega)⟩
  go_enter Try.func5, Try.ntmps5
  go_wp2
  go_loopw [4] (fun i wr => ∃ k : Nat, k ≤ n ∧ i = .int .i64 (k : Int) ∧ Hid (PartI wr w.heap.size n k zs) ∧ Below w.heap.size w wr) (fun i _ => n - (intOf i).toNat)
  case atStart => exact ⟨0, Nat.zero_le _, rfl, HP, (Below.refl _ _).alloc (Nat.le_refl _) _⟩
  case round =>
    obtain ⟨k, hk, rfl, hpr, hbw⟩ := hrel
    by_cases hlt : k < n
    · have hlt2 : (k : Int) < (n : Int) := by omega
      obtain ⟨b, off, rfl, hbB, hc1⟩ := (HARG.out wr (hbw.mono hB)).get k hlt
      have HPUT : Hid (PartI (wr.setCell ⟨w.heap.size, k, none⟩ (.int .i64 (zs.getD k 0))) w.heap.size n (k + 1) zs) := hpr.out.put hlt
      obtain ⟨u0, hu0⟩ := hpr.out.cell k hlt
      have f0 := hpr.out.frozen k
      generalize zs.getD k 0 = z at hc1 HPUT
      go_wp2
      go_roundw
      case rel => exact ⟨k + 1, by omega, by go_num, HPUT, hbw.setCell (Nat.le_refl _) _⟩
      case measure => simp [intOf]; omega
    · obtain rfl : k = n := by omega
      go_wp2
      go_ret
      exact ⟨rfl, hpr.out, hbw⟩

theorem PartI.same {w w' : World} {g n k : Nat} {zs : List Int} (h : PartI w g n k zs) (hs : w'.heap[g]? = w.heap[g]?) : PartI w' g n k zs := by
  obtain ⟨cur, h1, h2⟩ := h
  exact ⟨cur, by rw [hs]; exact h1, h2⟩
theorem PartI.any {w : World} {g n : Nat} {zs : List Int} (h : PartI w g n n zs) (j : Nat) (v : Int) : ∃ ys, PartI (w.setCell ⟨g, j, none⟩ (.int .i64 v)) g n n ys := by
  obtain ⟨cur, h1, h2, h3⟩ := h
  refine ⟨(List.range n).map (fun i => if i = j then v else zs.getD i 0), _, heap_set _ _ _ _ _ _ _ h1, by simpa using h2, fun i hi => ?_⟩
  rw [Array.getElem?_setIfInBounds]
  have e : ((List.range n).map (fun i => if i = j then v else zs.getD i 0)).getD i 0 = if i = j then v else zs.getD i 0 := by
    rw [List.getD_eq_getElem?_getD, List.getElem?_map, List.getElem?_range hi]
    rfl
  rw [e]
  by_cases hj : j = i
  · rw [if_pos hj, if_pos (by omega), if_pos hj.symm]
  · rw [if_neg hj, if_neg (fun x => hj x.symm), h3 i hi]

set_option maxHeartbeats 1000000 in
theorem markIntS_any (g n cap : Nat) (zs : List Int) (w : World) (h : PartI w g n n zs) (hn : n ≤ 1048576) :
    Calls Try.prog 9 #[.slice (some ⟨g, 0, none⟩) n cap, .int .i64 1] w fun e w' => e = .returned (.int .i64 ((n : Int) + 1)) ∧ w.grownBy w' (some g) := by
  have H0 : Hid (∃ ys, PartI w g n n ys) := ⟨zs, h⟩
  clear h
  go_enter Try.func9, Try.ntmps9
  go_wp2
  go_loopw [1, 5] (fun q i wr => ∃ k : Nat, k ≤ n ∧ i = .int .i64 (k : Int) ∧ q = .int .i64 ((k : Int) + 1) ∧ Hid (∃ ys, PartI wr g n n ys) ∧ Hid (w.grownBy wr (some g))) (fun _ i _ => n - (intOf i).toNat)
  case atStart => exact ⟨0, Nat.zero_le _, rfl, rfl, H0, ⟨rfl, rfl, rfl, Nat.le_refl _, fun _ _ _ => rfl⟩⟩
  case round =>
    obtain ⟨k, hk, rfl, rfl, HP, HG⟩ := hrel
    by_cases hlt : k < n
    · have hlt2 : (k : Int) < (n : Int) := by omega
      obtain ⟨ys, hp⟩ := HP.out
      obtain ⟨u0, hu0⟩ := hp.cell k hlt
      have f0 := hp.frozen k
      have HP2 : Hid (∃ ys, PartI (wr.setCell ⟨g, k, none⟩ (.int .i64 ((k : Int) + 1))) g n n ys) := hp.any k _
      have HG2 : Hid (w.grownBy (wr.setCell ⟨g, k, none⟩ (.int .i64 ((k : Int) + 1))) (some g)) := grown_then HG.out (grown_set _ _ _ _)
      clear hp
      go_wp2
      go_roundw
      case rel => exact ⟨k + 1, by omega, by go_num, by go_num, HP2, HG2⟩
      case measure => simp [intOf]; omega
    · obtain rfl : k = n := by omega
      go_wp2
      go_ret
      exact ⟨rfl, HG.out⟩

/-- The pieces, as texts. -/
def textL (l : List UInt8) : ByteArray := ⟨l.toArray⟩
def pcsB (zs : List Int) (s : ByteArray) : List ByteArray := (pcs zs (bs s)).map textL
theorem textL_bs (s : ByteArray) : textL (bs s) = s := by
  apply ByteArray.ext
  show s.data.toList.toArray = s.data
  simp
theorem piece_at (s : ByteArray) (t m : Nat) (z : Int) (hm : m = min (s.size - t) z.toNat) : textL (((bs s).drop t).take z.toNat) = s.extract t (t + m) ∧ ((bs s).drop t).drop z.toNat = (bs s).drop (t + m) := by
  have hl : ((bs s).drop t).length = s.size - t := by rw [List.length_drop, bs_len]
  by_cases h : z.toNat ≤ s.size - t
  · have : m = z.toNat := by omega
    subst this
    refine ⟨?_, by rw [List.drop_drop]⟩
    rw [← textL_bs (s.extract t (t + z.toNat)), bs_extract, List.drop_take, show t + z.toNat - t = z.toNat by omega]
  · have : m = s.size - t := by omega
    subst this
    refine ⟨?_, ?_⟩
    · rw [← textL_bs (s.extract t (t + (s.size - t))), bs_extract, List.drop_take, show t + (s.size - t) - t = s.size - t by omega, List.take_of_length_le (by omega), List.take_of_length_le (by omega)]
    · rw [List.drop_of_length_le (by omega), List.drop_of_length_le (by rw [bs_len]; omega)]

set_option maxHeartbeats 2000000 in
set_option maxRecDepth 100000 in
theorem specPieces_any (body : ByteArray) (oa : Option Addr) (n cap : Nat) (zs : List Int) (w : World) (hv : IntsV w oa n zs) (hn : n ≤ 1048576) (hb : body.size ≤ 1048576) :
    Calls Try.prog 4 #[.string body, .slice oa n cap] w fun e w' => RowIs w.heap.size (pcsB zs body) w e w' := by
  obtain ⟨i0, hi, hz0, hz1, hz2⟩ := info_parts info9
  have HLEN : Hid (zs.length = n) := hv.1
  have HV : Hid (∀ W, Below w.heap.size w W → IntsV W oa n zs) := fun W h => hv.below h
  clear hv
  go_enter Try.func4, Try.ntmps4
  have H0 : Hid ((w.alloc (Obj.cells #[] 9)).ownsRow w.heap.size 9 1 (.slice (some ⟨w.heap.size, 0, none⟩) 0 0) 0 (([] : List ByteArray).map Value.string)) := ⟨rfl, .inr ⟨w.heap.size, 0, #[], rfl, Nat.le_refl _, heap_alloc_new w _, Nat.le_refl _, Nat.zero_le _, rfl, rfl⟩⟩
  go_wp2
  go_loopw [5, 6, 7] (fun a b c wr => ∃ (i t : Nat) (xs : List ByteArray), b = .int .i64 (t : Int) ∧ c = .int .i64 (i : Int) ∧ i ≤ n ∧ t ≤ body.size ∧ xs.length = i ∧ Hid (wr.ownsRow w.heap.size 9 1 a xs.length (xs.map Value.string)) ∧ Below w.heap.size w wr ∧ Hid (xs ++ (pcs (zs.drop i) ((bs body).drop t)).map textL = pcsB zs body)) (fun _ _ c _ => n - (intOf c).toNat)
  case atStart => exact ⟨0, 0, [], rfl, rfl, by omega, by omega, rfl, H0, (Below.refl _ _).alloc (Nat.le_refl _) _, by show _ = _; simp [pcsB]⟩
  case round =>
    obtain ⟨i, t, xs, rfl, rfl, hi', ht, hxl, HO, hbw, HE⟩ := hrel
    have h63 : xs.length + 1 ≤ maxLen := by unfold maxLen; omega
    have h47 : (xs.length + 1) * 16 ≤ 140737488355328 := by omega
    have HXL : Hid (xs.length = i) := hxl
    by_cases hlt : (i : Int) < (n : Int)
    · obtain ⟨g, rfl, hg, hc⟩ := (HV.out wr hbw).2 i (by omega)
      obtain ⟨z, hz⟩ : ∃ z, z = zs.getD i 0 := ⟨_, rfl⟩
      rw [← hz] at hc
      obtain ⟨m, hm⟩ : ∃ m, m = min (body.size - t) z.toNat := ⟨_, rfl⟩
      obtain ⟨p1, p2⟩ := piece_at body t m z hm
      have hil : i < zs.length := by rw [HLEN.out]; omega
      have hdz : zs.drop i = z :: zs.drop (i + 1) := by
        rw [List.drop_eq_getElem_cons hil, hz]
        congr 1
        rw [List.getD_eq_getElem?_getD, List.getElem?_eq_getElem hil]
        rfl
      have HE2 : Hid ((xs ++ [body.extract t (t + m)]) ++ (pcs (zs.drop (i + 1)) ((bs body).drop (t + m))).map textL = pcsB zs body) := by
        have h := HE.out
        rw [hdz, pcs, List.map_cons, p1, p2] at h
        show _ = _
        rw [List.append_assoc]
        exact h
      have HMZ : Hid (min (max z 0) ((body.size : Int) - (t : Int)) = (m : Int)) := by show _ = _; omega
      have hmt : (t : Int) + (m : Int) ≤ (body.size : Int) := by omega
      have hmn : ((t : Int) + (m : Int)).toNat = t + m := by omega
      have ht0 : (0 : Int) ≤ (t : Int) := by omega
      have htm : (t : Int) ≤ (t : Int) + (m : Int) := by omega
      clear p1 p2 hdz hz hm hxl
      go_wp2_with fail
      refine (l1Max_any z 0 _).mono ?_
      rintro e w1 ⟨rfl, rfl⟩
      go_wp2_with fail
      refine (l1Min_any _ _ _).mono ?_
      rintro e w2 ⟨rfl, rfl⟩
      rw [HMZ.out]
      have HBS : ∀ o, w.heap.size ≤ (w2.alloc o).heap.size := fun o => by have := hbw.size; simp; omega
      clear hc
      go_wp2_with (at_builtin; refine wpList_append_own _ rfl _ _ 23 rfl w.heap.size 9 i0 (.string ⟨#[]⟩) 1 16 Try.underlying23 hi hz0 hz1 hz2 rfl (by decide) _ _ _ rfl (HO.out.alloc _) ⟨w2.heap.size, 0, none⟩ 1 1 [.string (body.extract t (t + m))] rfl rfl (cell_one_new _ _ _) (one_text _) h63 h47 (HBS _) ?_)
      intro v3 w3 hown3 hgrow3 _
      have HB3 : Hid (Below w.heap.size w w3) := ((hbw.alloc hbw.size _).grown hgrow3 (HBS _) (fun g hg => owns_ge HO.out hg))
      have HO3 : Hid (w3.ownsRow w.heap.size 9 1 v3 (xs ++ [body.extract t (t + m)]).length ((xs ++ [body.extract t (t + m)]).map Value.string)) := by
        show World.ownsRow _ _ _ _ _ _ _
        rw [List.length_append, List.map_append]
        exact hown3
      clear hown3 hgrow3 HBS hbw HO HE
      go_wp2_with fail
      go_roundw
      case rel => exact ⟨i + 1, t + m, xs ++ [body.extract t (t + m)], by go_num, by go_num, by omega, by omega, by rw [List.length_append, HXL.out]; rfl, HO3, HB3.out, HE2⟩
      case measure => simp [intOf]; omega
    · obtain rfl : i = n := by omega
      have hzd : zs.drop i = [] := List.drop_of_length_le (by rw [HLEN.out]; exact Nat.le_refl _)
      have hE := HE.out
      rw [hzd, pcs] at hE
      have hdl : ((bs body).drop t).length = body.size - t := by rw [List.length_drop, bs_len]
      by_cases hend : (t : Int) < (body.size : Int)
      · have hne : (bs body).drop t ≠ [] := fun e => by rw [e] at hdl; simp at hdl; omega
        rw [if_neg hne] at hE
        have HR : Hid (xs ++ [body.extract t body.size] = pcsB zs body) := by
          show _ = _
          rw [← hE]
          congr 1
          show _ = [textL ((bs body).drop t)]
          rw [← textL_bs (body.extract t body.size), bs_extract, List.take_of_length_le (by rw [bs_len]; exact Nat.le_refl _)]
        have HBS : ∀ o, w.heap.size ≤ (wr.alloc o).heap.size := fun o => by have := hbw.size; simp; omega
        clear hE hzd hne hdl hxl
        go_wp2_with (at_builtin; refine wpList_append_own _ rfl _ _ 23 rfl w.heap.size 9 i0 (.string ⟨#[]⟩) 1 16 Try.underlying23 hi hz0 hz1 hz2 rfl (by decide) _ _ _ rfl (HO.out.alloc _) ⟨wr.heap.size, 0, none⟩ 1 1 [.string (body.extract t body.size)] rfl rfl (cell_one_new _ _ _) (one_text _) h63 h47 (HBS _) ?_)
        intro v3 w3 hown3 hgrow3 _
        have HB3 : Hid (Below w.heap.size w w3) := ((hbw.alloc hbw.size _).grown hgrow3 (HBS _) (fun g hg => owns_ge HO.out hg))
        have HO3 : Hid (w3.ownsRow w.heap.size 9 1 v3 (xs.length + 1) ((xs ++ [body.extract t body.size]).map Value.string)) := by
          show World.ownsRow _ _ _ _ _ _ _
          rw [List.map_append]
          exact hown3
        clear hown3 hgrow3 HBS hbw HO HE
        go_wp2_with fail
        go_ret
        exact RowIs.of HR.out (by simp) HO3.out HB3.out
      · have he : (bs body).drop t = [] := List.length_eq_zero_iff.1 (by rw [hdl]; omega)
        rw [if_pos he] at hE
        have HR : Hid (xs = pcsB zs body) := by show _ = _; simpa using hE
        clear hE hzd he hdl hxl
        go_wp2_with fail
        go_ret
        exact RowIs.of HR.out rfl HO.out hbw

end Go.Proofs.Ytffjnfaneeejnaa
