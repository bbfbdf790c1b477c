/- What the proof of FnBans leans on: contracts of the program's and the specification's functions, and plain facts (part 3 of 4). -/
import Derived.Test.YtlmenolcgaakeaaDoorFnBansB
namespace Go.Proofs.YtlmenolcgaakeaaDoor
open Go.RowKit
open Go.Lib hiding intOf

/-- What BanRead tells: the ban of which the text is; or nothing. -/
def BanIs (s : ByteArray) (w : World) (e : Ending) (w' : World) : Prop :=
  Below w.heap.size w w' ∧ ((∃ (k : Int) (a b : ByteArray) (t : Int), e = .returned (.tuple #[.agg #[.int .i64 k, .string a, .string b, .int .i64 t], .bool true]) ∧ IsBan s k a b t) ∨ (e = .returned (.tuple #[.agg #[.int .i64 0, .string ⟨#[]⟩, .string ⟨#[]⟩, .int .i64 0], .bool false]) ∧ ∀ k a b t, ¬ IsBan s k a b t))
/-- Which kind a word names, of the first. -/
def kdTo (x : ByteArray) : Nat → Int
  | 0 => 0
  | j + 1 => if 1 ≤ j ∧ bkW (j : Int) = x then (j : Int) else kdTo x j
theorem kdTo_of {k : Int} (h : k = 1 ∨ k = 2 ∨ k = 3) : kdTo (bkW k) 4 = k := by
  rcases h with rfl | rfl | rfl <;> decide
theorem cell_set_far {W : World} {g q i o : Nat} (v : Value) (h : g ≠ q) : (W.setCell ⟨q, o, none⟩ v).cell? ⟨g, i, none⟩ = W.cell? ⟨g, i, none⟩ := by
  unfold World.cell?
  rw [heap_setCell_other _ _ _ _ h]
/-- What l10Line tells, whichever it is. -/
theorem line_ban {s : ByteArray} {w w' : World} {e : Ending} (hs : s.size ≤ 3000000) (h : LineOut s 0 w e w') : w' = w ∧ ∃ (line : ByteArray) (x : Int), e = .returned (.tuple #[.string line, .int .i64 x]) ∧ line.size ≤ 3000000 ∧ ((x = -1 ∧ ∀ k a b t, IsBan s k a b t → bs s = banLine k a t ∧ (⟨#[]⟩ : ByteArray) = b) ∨ ∃ f : Nat, x = (f : Int) ∧ f ≤ s.size ∧ 1 ≤ s.size ∧ ∀ k a b t, IsBan s k a b t → bs line = banLine k a t ∧ s.extract f s.size = b) := by
  obtain ⟨h1, ⟨i, hl, rfl⟩ | ⟨hno, rfl⟩⟩ := h
  · refine ⟨h1, _, _, rfl, ?_, .inr ⟨i + 1, rfl, hl.1, by have := hl.1; omega, fun k a b t h => ?_⟩⟩
    · have h2 : (bs (s.extract 0 i)).length ≤ (bs s).length := by
        rw [bs_extract, List.length_drop, List.length_take]
        omega
      rw [bs_len, bs_len] at h2
      omega
    · rcases ban_cut h with ⟨hk, e1⟩ | ⟨hk, e1, e2⟩
      · obtain ⟨e3, e4⟩ := line_of (f := 0) e1 rfl (ban_line h.1).1 hl
        refine ⟨e4, bs_inj ?_⟩
        rw [bs_extract, ← bs_len s, List.take_length, e1, e3]
        simp
      · exfalso
        obtain ⟨hi, _, h3, _⟩ := hl
        have h4 := bs_get hi
        rw [e1] at h4
        exact (ban_line h.1).1 _ (List.mem_of_getElem? h4) (UInt8.toNat_inj.1 h3)
  · refine ⟨h1, _, _, rfl, by decide, .inl ⟨rfl, fun k a b t h => ?_⟩⟩
    rcases ban_cut h with ⟨hk, e1⟩ | ⟨hk, e1, e2⟩
    · exact (line_some e1 rfl hno).elim
    · exact ⟨e1, e2.symm⟩

set_option maxHeartbeats 8000000 in
set_option maxRecDepth 100000 in
theorem specBanRead_any (s : ByteArray) (w : World) (hs : s.size ≤ 3000000) :
    Calls Tryd.prog 13 #[.string s] w fun e w' => BanIs s w e w' := by
  obtain ⟨R, hR⟩ : ∃ R, R = w.heap.size := ⟨_, rfl⟩
  obtain ⟨q, hq⟩ : ∃ q, q = w.heap.size + 1 := ⟨_, rfl⟩
  have HRG : Hid (w.heap.size ≤ R) := by show _ ≤ _; omega
  have HQG : Hid (w.heap.size ≤ q) := by show _ ≤ _; omega
  have HRQ : Hid (R ≠ q) := by show _ ≠ _; omega
  obtain ⟨W1, hW1⟩ : ∃ W, W = w.alloc (.cells #[.int .i64 0, .string ⟨#[]⟩, .string ⟨#[]⟩, .int .i64 0] 25) := ⟨_, rfl⟩
  obtain ⟨W2, hW2⟩ : ∃ W, W = W1.alloc (.cells #[.int .i64 0, .string ⟨#[]⟩, .string ⟨#[]⟩, .int .i64 0] 25) := ⟨_, rfl⟩
  have hs1 : W1.heap.size = w.heap.size + 1 := by rw [hW1]; simp
  have b1 : Below w.heap.size w W1 := by rw [hW1]; exact (Below.refl _ _).alloc (Nat.le_refl _) _
  have b2 : Below W1.heap.size W1 W2 := by rw [hW2]; exact (Below.refl _ _).alloc (Nat.le_refl _) _
  have hr1 : W1.heap[R]? = some (.cells #[.int .i64 0, .string ⟨#[]⟩, .string ⟨#[]⟩, .int .i64 0] 25) := by rw [hW1, hR]; exact heap_alloc_new _ _
  have HB2 : Hid (Below w.heap.size w W2) := b1.trans (b2.mono b1.size)
  have HR2 : Hid (W2.heap[R]? = some (.cells #[.int .i64 0, .string ⟨#[]⟩, .string ⟨#[]⟩, .int .i64 0] 25)) := blk_below hr1 b2
  have HQ2 : Hid (W2.heap[q]? = some (.cells #[.int .i64 0, .string ⟨#[]⟩, .string ⟨#[]⟩, .int .i64 0] 25)) := by show _ = _; rw [hW2, hq, ← hs1]; exact heap_alloc_new _ _
  have hq1 : q = W1.heap.size := by omega
  clear b1 b2 hr1 hs1 hq
  go_enter Tryd.func13, Tryd.ntmps13
  go_upto_region 1 with fail
  rw [← hW1, ← hR]
  clear hW1 hR
  go_wp2_with fail
  refine (l10Line_any s 0 _ (by omega) (Nat.zero_le _)).mono ?_
  intro e w2 hlo
  obtain ⟨rfl, line, x, rfl, hlz, hx⟩ := line_ban hs hlo
  clear hlo
  go_upto_region 3 with fail
  rw [← hW2, ← hq1]
  clear hW2 hq1
  rcases hx with ⟨rfl, hst⟩ | ⟨f, rfl, hf, hs0, hst⟩
  · by_cases h0 : s.size = 0
    · have HNO0 : Hid (∀ k a b t, ¬ IsBan s k a b t) := fun k a b t h => by
        have h1 := ban_pos k a b t
        rw [h.2] at h1
        omega
      have HWZ : Hid (wordsL [] [] (bs s) = [[]]) := by
        show _ = _
        rw [show bs s = [] from List.length_eq_zero_iff.1 (by rw [bs_len]; exact h0)]
        rfl
      have hrc := HR2.out
      have hbe := HB2.out
      go_wp2_with fail
      refine (l3Words_any s _ (by omega)).mono ?_
      rintro e w5 ⟨vW, xs, rfl, ownW, hxl, bw, hwd⟩
      obtain ⟨oW, cW, rfl⟩ := slice_of_owns ownW
      have hx1 : xs.length = 1 := by
        have e := congrArg List.length (hwd.symm.trans HWZ.out)
        simpa using e
      have hne4 : ((xs.length : Int) != 4) = true := by rw [bne_iff_ne]; omega
      have hrc := blk_below HR2.out bw
      have hbe := HB2.out.trans (bw.mono HB2.out.size)
      have HNO := HNO0
      have c0 : w5.cell? ⟨R, 0, none⟩ = some (.int .i64 0) := (cell_of hrc 0).trans rfl
      have f0 : w5.frozen? ⟨R, 0, none⟩ = false := frozen_of hrc 0
      have c1 : w5.cell? ⟨R, 1, none⟩ = some (.string ⟨#[]⟩) := (cell_of hrc 1).trans rfl
      have f1 : w5.frozen? ⟨R, 1, none⟩ = false := frozen_of hrc 1
      have c2 : w5.cell? ⟨R, 2, none⟩ = some (.string ⟨#[]⟩) := (cell_of hrc 2).trans rfl
      have f2 : w5.frozen? ⟨R, 2, none⟩ = false := frozen_of hrc 2
      have c3 : w5.cell? ⟨R, 3, none⟩ = some (.int .i64 0) := (cell_of hrc 3).trans rfl
      have f3 : w5.frozen? ⟨R, 3, none⟩ = false := frozen_of hrc 3
      obtain ⟨WE, hWE⟩ : ∃ W, W = ((((w5.setCell ⟨R, 0, none⟩ (.int .i64 0)).setCell ⟨R, 1, none⟩ (.string ⟨#[]⟩)).setCell ⟨R, 2, none⟩ (.string ⟨#[]⟩)).setCell ⟨R, 3, none⟩ (.int .i64 0)) := ⟨_, rfl⟩
      have HWE : Hid (((((w5.setCell ⟨R, 0, none⟩ (.int .i64 0)).setCell ⟨R, 1, none⟩ (.string ⟨#[]⟩)).setCell ⟨R, 2, none⟩ (.string ⟨#[]⟩)).setCell ⟨R, 3, none⟩ (.int .i64 0)) = WE) := hWE.symm
      have HBE : Hid (Below w.heap.size w WE) := by show Below _ _ _; rw [hWE]; exact ((((hbe.setCell (p := ⟨R, 0, none⟩) HRG.out _).setCell (p := ⟨R, 1, none⟩) HRG.out _).setCell (p := ⟨R, 2, none⟩) HRG.out _).setCell (p := ⟨R, 3, none⟩) HRG.out _)
      have hre : WE.heap[R]? = some (.cells #[.int .i64 0, .string ⟨#[]⟩, .string ⟨#[]⟩, .int .i64 0] 25) := by rw [hWE]; have h := (heap_set _ R 3 _ _ _ (.int .i64 0) (heap_set _ R 2 _ _ _ (.string ⟨#[]⟩) (heap_set _ R 1 _ _ _ (.string ⟨#[]⟩) (heap_set _ R 0 _ _ _ (.int .i64 0) hrc)))); simpa using h
      have k0 : WE.cell? ⟨R, 0, none⟩ = some (.int .i64 0) := (cell_of hre 0).trans rfl
      have k1 : WE.cell? ⟨R, 1, none⟩ = some (.string ⟨#[]⟩) := (cell_of hre 1).trans rfl
      have k2 : WE.cell? ⟨R, 2, none⟩ = some (.string ⟨#[]⟩) := (cell_of hre 2).trans rfl
      have k3 : WE.cell? ⟨R, 3, none⟩ = some (.int .i64 0) := (cell_of hre 3).trans rfl
      clear hWE hre hrc hbe
      clear hwd hx1 h0 ownW bw hst HB2 HR2 HQ2 HWZ HNO0
      go_wp2_with fail
      simp only [HWE.out]
      exact bodyPost_ret (v := .tuple #[.agg #[.int .i64 0, .string ⟨#[]⟩, .string ⟨#[]⟩, .int .i64 0], .bool false]) (by simp [results, Tryd.results13, go_sem, k0, k1, k2, k3]) rfl ⟨HBE.out, .inr ⟨rfl, HNO.out⟩⟩
    · have hbz : (⟨#[]⟩ : ByteArray).size ≤ 3000000 := by decide
      have HS0 : Hid (¬ s.size = 0) := h0
      have HST : Hid (∀ k a b t, IsBan s k a b t → bs s = banLine k a t ∧ (⟨#[]⟩ : ByteArray) = b) := hst
      have HBC := HB2
      have HRC := HR2
      have HQC := HQ2
      clear HB2 HR2 HQ2 hst h0
      go_wp2_with fail
      refine (l3Words_any s _ (by omega)).mono ?_
      rintro e w5 ⟨vW, xs, rfl, ownW, hxl, bw, hwd⟩
      obtain ⟨oW, cW, rfl⟩ := slice_of_owns ownW
      have HB5 : Hid (Below w.heap.size w w5) := HBC.out.trans (bw.mono HBC.out.size)
      have HR5 : Hid (w5.heap[R]? = some (.cells #[.int .i64 0, .string ⟨#[]⟩, .string ⟨#[]⟩, .int .i64 0] 25)) := blk_below HRC.out bw
      have HQ5 : Hid (w5.heap[q]? = some (.cells #[.int .i64 0, .string ⟨#[]⟩, .string ⟨#[]⟩, .int .i64 0] 25)) := blk_below HQC.out bw
      have HXS : Hid (∀ k a b t, IsBan s k a b t → xs.map bs = [banL, bs (bkW k), numL t.toNat, bs a]) := fun k a b t h => by
        rw [← hwd, (HST.out k a b t h).1]
        exact (ban_line h.1).2
      have HXZ : Hid (∀ x ∈ xs, x.size ≤ maxLen) := fun x hx => by
        have h1 : bs x ∈ wordsL [] [] (bs s) := by rw [hwd]; exact List.mem_map.2 ⟨x, hx, rfl⟩
        rcases wordsL_len _ _ _ _ h1 with h2 | h2
        · simp at h2
        · rw [bs_len, bs_len] at h2
          simp at h2
          unfold maxLen
          omega
      clear bw hwd HBC HRC HQC
      by_cases h4 : xs.length = 4
      · obtain ⟨x0, x1, x2, x3, rfl⟩ : ∃ x0 x1 x2 x3, xs = [x0, x1, x2, x3] := by
          match xs, h4 with
          | [a, b, c, d], _ => exact ⟨a, b, c, d, rfl⟩
        have HPT : Hid (∀ k a b t, IsBan s k a b t → x1 = bkW k ∧ x2 = numText t.toNat ∧ x3 = a) := fun k a b t h => by
          have e := HXS.out k a b t h
          simp only [List.map_cons, List.map_nil, List.cons.injEq] at e
          exact ⟨bs_inj e.2.1, numL_text e.2.2.1, bs_inj e.2.2.2.1⟩
        have z2 : x2.size ≤ maxLen := HXZ.out _ (by simp)
        have z3 : x3.size ≤ maxLen := HXZ.out _ (by simp)
        obtain ⟨gW, hgW, _⟩ := (texts_view ownW).2 0 (by simp)
        subst hgW
        have hcw : w5.cell? ⟨gW, 1, none⟩ = some (.string x1) ∧ w5.cell? ⟨gW, 2, none⟩ = some (.string x2) ∧ w5.cell? ⟨gW, 3, none⟩ = some (.string x3) := by
          have ht := texts_view ownW
          refine ⟨?_, ?_, ?_⟩
          · obtain ⟨g, e, _, hc⟩ := ht.2 1 (by simp)
            cases e; exact hc
          · obtain ⟨g, e, _, hc⟩ := ht.2 2 (by simp)
            cases e; exact hc
          · obtain ⟨g, e, _, hc⟩ := ht.2 3 (by simp)
            cases e; exact hc
        have HGL : Hid (gW < w5.heap.size) := World.block_lt_of_cell? _ _ hcw.1
        have hlW : ([x0, x1, x2, x3] : List ByteArray).length = 4 := rfl
        rw [hlW]
        have hOW := own_ne ownW HQ5.out (by decide) gW rfl
        have HWQ : Hid (gW ≠ q) := hOW
        obtain ⟨g2, hg2⟩ : ∃ g, g = w5.heap.size := ⟨_, rfl⟩
        obtain ⟨W6, hW6⟩ : ∃ W, W = w5.alloc (.cells #[.string ⟨#[]⟩, .string ⟨#[112, 97, 116, 104]⟩, .string ⟨#[98, 101, 108, 111, 119]⟩, .string ⟨#[102, 105, 101, 108, 100]⟩] 9) := ⟨_, rfl⟩
        have bA : Below w5.heap.size w5 W6 := by rw [hW6]; exact (Below.refl _ _).alloc (Nat.le_refl _) _
        have HG2 : Hid (g2 ≠ q ∧ w.heap.size ≤ q) := ⟨fun e => by have h1 := (Array.getElem?_eq_some_iff.1 HQ5.out).1; omega, HQG.out⟩
        have H6 : Hid (Below w.heap.size w W6 ∧ W6.heap[R]? = some (.cells #[.int .i64 0, .string ⟨#[]⟩, .string ⟨#[]⟩, .int .i64 0] 25) ∧ W6.heap[q]? = some (.cells #[.int .i64 0, .string ⟨#[]⟩, .string ⟨#[]⟩, .int .i64 0] 25) ∧ W6.heap[g2]? = some (.cells #[.string ⟨#[]⟩, .string ⟨#[112, 97, 116, 104]⟩, .string ⟨#[98, 101, 108, 111, 119]⟩, .string ⟨#[102, 105, 101, 108, 100]⟩] 9) ∧ W6.cell? ⟨gW, 1, none⟩ = some (.string x1) ∧ W6.cell? ⟨gW, 2, none⟩ = some (.string x2) ∧ W6.cell? ⟨gW, 3, none⟩ = some (.string x3)) := by
          refine ⟨HB5.out.trans (bA.mono HB5.out.size), blk_below HR5.out bA, blk_below HQ5.out bA, by rw [hW6, hg2]; exact heap_alloc_new _ _, ?_, ?_, ?_⟩
          · rw [bA.cell (p := ⟨gW, 1, none⟩) HGL.out]; exact hcw.1
          · rw [bA.cell (p := ⟨gW, 2, none⟩) HGL.out]; exact hcw.2.1
          · rw [bA.cell (p := ⟨gW, 3, none⟩) HGL.out]; exact hcw.2.2
        clear HXS HXZ hxl h4 hcw ownW bA hlW hOW
        go_upto_region 10 with fail
        rw [← hW6, ← hg2]
        clear hW6 hg2 HB5 HR5 HQ5
        go_wp2_with fail
        go_loopw [9] (fun i wr => ∃ j : Nat, 1 ≤ j ∧ j ≤ 4 ∧ i = .int .i64 (j : Int) ∧ Hid (Below w.heap.size w wr ∧ wr.heap[R]? = some (.cells #[.int .i64 0, .string ⟨#[]⟩, .string ⟨#[]⟩, .int .i64 0] 25) ∧ wr.heap[q]? = some (.cells #[.int .i64 (kdTo x1 j), .string ⟨#[]⟩, .string ⟨#[]⟩, .int .i64 0] 25) ∧ wr.heap[g2]? = some (.cells #[.string ⟨#[]⟩, .string ⟨#[112, 97, 116, 104]⟩, .string ⟨#[98, 101, 108, 111, 119]⟩, .string ⟨#[102, 105, 101, 108, 100]⟩] 9) ∧ wr.cell? ⟨gW, 1, none⟩ = some (.string x1) ∧ wr.cell? ⟨gW, 2, none⟩ = some (.string x2) ∧ wr.cell? ⟨gW, 3, none⟩ = some (.string x3))) (fun i _ => 4 - (intOf i).toNat)
        case atStart => exact ⟨1, by omega, by omega, rfl, H6⟩
        case round =>
          obtain ⟨j, hj1, hj, rfl, HW⟩ := hrel
          by_cases hlt : (j : Int) < 4
          · have cn : wr.cell? ⟨g2, j, none⟩ = some (.string (bkW (j : Int))) := by
              obtain rfl | rfl | rfl : j = 1 ∨ j = 2 ∨ j = 3 := by omega
              · exact (cell_of HW.out.2.2.2.1 1).trans rfl
              · exact (cell_of HW.out.2.2.2.1 2).trans rfl
              · exact (cell_of HW.out.2.2.2.1 3).trans rfl
            have cw := HW.out.2.2.2.2.1
            obtain ⟨bk, hbk⟩ : ∃ x, x = bkW (j : Int) := ⟨_, rfl⟩
            rw [← hbk] at cn
            obtain ⟨kd, hkd⟩ : ∃ x, x = kdTo x1 j := ⟨_, rfl⟩
            have HQ := (show Hid _ from HW.out.2.2.1)
            by_cases heq : bk = x1
            · have te : (bk.toList == x1.toList) = true := (text_beq _ _).2 heq
              have HKD : Hid (kdTo x1 (j + 1) = (j : Int)) := by show _ = _; rw [kdTo, if_pos ⟨hj1, by rw [← hbk]; exact heq⟩]
              clear heq hbk
              go_wp2_with fail
              go_region_held3 (fun W => W.cell? ⟨g2, j, none⟩ = some (.string bk) ∧ W.cell? ⟨gW, 1, none⟩ = some (.string x1)) (first | assumption | go_keep) (fail)
              have hW := HW.out
              have hq0 : wr.drew.heap[q]? = some (.cells #[.int .i64 (kdTo x1 j), .string ⟨#[]⟩, .string ⟨#[]⟩, .int .i64 0] 25) := hW.2.2.1
              have cq : wr.drew.cell? ⟨q, 0, none⟩ = some (.int .i64 (kdTo x1 j)) := (cell_of hq0 0).trans rfl
              have fq := frozen_of hq0 0
              have HW2 : Hid (Below w.heap.size w (wr.drew.setCell ⟨q, 0, none⟩ (.int .i64 (j : Int))) ∧ (wr.drew.setCell ⟨q, 0, none⟩ (.int .i64 (j : Int))).heap[R]? = some (.cells #[.int .i64 0, .string ⟨#[]⟩, .string ⟨#[]⟩, .int .i64 0] 25) ∧ (wr.drew.setCell ⟨q, 0, none⟩ (.int .i64 (j : Int))).heap[q]? = some (.cells #[.int .i64 (kdTo x1 (j + 1)), .string ⟨#[]⟩, .string ⟨#[]⟩, .int .i64 0] 25) ∧ (wr.drew.setCell ⟨q, 0, none⟩ (.int .i64 (j : Int))).heap[g2]? = some (.cells #[.string ⟨#[]⟩, .string ⟨#[112, 97, 116, 104]⟩, .string ⟨#[98, 101, 108, 111, 119]⟩, .string ⟨#[102, 105, 101, 108, 100]⟩] 9) ∧ (wr.drew.setCell ⟨q, 0, none⟩ (.int .i64 (j : Int))).cell? ⟨gW, 1, none⟩ = some (.string x1) ∧ (wr.drew.setCell ⟨q, 0, none⟩ (.int .i64 (j : Int))).cell? ⟨gW, 2, none⟩ = some (.string x2) ∧ (wr.drew.setCell ⟨q, 0, none⟩ (.int .i64 (j : Int))).cell? ⟨gW, 3, none⟩ = some (.string x3)) := by
                rw [HKD.out]
                refine ⟨hW.1.drew.setCell (p := ⟨q, 0, none⟩) HQG.out _, by rw [heap_setCell_other _ _ _ _ HRQ.out]; exact hW.2.1, by have h := heap_set _ _ 0 _ _ _ (.int .i64 (j : Int)) hq0; simpa using h, by rw [heap_setCell_other _ _ _ _ HG2.out.1]; exact hW.2.2.2.1, ?_, ?_, ?_⟩
                · rw [cell_set_far _ HWQ.out]; exact hW.2.2.2.2.1
                · rw [cell_set_far _ HWQ.out]; exact hW.2.2.2.2.2.1
                · rw [cell_set_far _ HWQ.out]; exact hW.2.2.2.2.2.2
              clear hW hq0 HW HQ cn cw hkd
              go_wp2_with fail
              go_roundw
              case rel => exact ⟨j + 1, by omega, by omega, by go_num, HW2⟩
              case measure => simp [intOf]; omega
            · have te := text_beq_no heq
              have HKD : Hid (kdTo x1 (j + 1) = kdTo x1 j) := by show _ = _; rw [kdTo, if_neg (fun h => heq (by rw [hbk]; exact h.2))]
              clear heq hbk
              go_wp2_with fail
              go_region_held3 (fun W => W.cell? ⟨g2, j, none⟩ = some (.string bk) ∧ W.cell? ⟨gW, 1, none⟩ = some (.string x1)) (first | assumption | go_keep) (fail)
              have HW2 : Hid (Below w.heap.size w wr.drew ∧ wr.drew.heap[R]? = some (.cells #[.int .i64 0, .string ⟨#[]⟩, .string ⟨#[]⟩, .int .i64 0] 25) ∧ wr.drew.heap[q]? = some (.cells #[.int .i64 (kdTo x1 (j + 1)), .string ⟨#[]⟩, .string ⟨#[]⟩, .int .i64 0] 25) ∧ wr.drew.heap[g2]? = some (.cells #[.string ⟨#[]⟩, .string ⟨#[112, 97, 116, 104]⟩, .string ⟨#[98, 101, 108, 111, 119]⟩, .string ⟨#[102, 105, 101, 108, 100]⟩] 9) ∧ wr.drew.cell? ⟨gW, 1, none⟩ = some (.string x1) ∧ wr.drew.cell? ⟨gW, 2, none⟩ = some (.string x2) ∧ wr.drew.cell? ⟨gW, 3, none⟩ = some (.string x3)) := by
                rw [HKD.out]
                exact ⟨HW.out.1.drew, HW.out.2⟩
              clear HW HQ cn cw hkd
              go_wp2_with fail
              go_roundw
              case rel => exact ⟨j + 1, by omega, by omega, by go_num, HW2⟩
              case measure => simp [intOf]; omega
          · obtain rfl : j = 4 := by omega
            obtain ⟨kd, hkd⟩ : ∃ x, x = kdTo x1 4 := ⟨_, rfl⟩
            have HKD : Hid (∀ k a b t, IsBan s k a b t → kd = k) := fun k a b t h => by
              rw [hkd, (HPT.out k a b t h).1]
              exact kdTo_of h.1.kinds
            have hW := HW.out
            rw [← hkd] at hW
            have HV := (show Hid _ from hW)
            clear HW hkd hW
            have c2 := HV.out.2.2.2.2.2.1
            go_wp2_with fail
            refine (specNumRead_any x2 _ z2).mono ?_
            rintro e w7 ⟨bo, t, rfl, hn1, hn2, hn3, bw⟩
            have HTV : Hid (NumOk x2 → t = valL x2.data.toList) := fun h => hn2 (hn1.2 h)
            have hq7 := blk_below HV.out.2.2.1 bw
            have c3 : w7.cell? ⟨q, 3, none⟩ = some (.int .i64 0) := (cell_of hq7 3).trans rfl
            have f3 := frozen_of hq7 3
            have gl : gW < wr.heap.size := World.block_lt_of_cell? _ _ c2
            have cx : w7.cell? ⟨gW, 3, none⟩ = some (.string x3) := by rw [bw.cell (p := ⟨gW, 3, none⟩) gl]; exact HV.out.2.2.2.2.2.2
            obtain ⟨W8, hW8⟩ : ∃ W, W = w7.setCell ⟨q, 3, none⟩ (.int .i64 t) := ⟨_, rfl⟩
            have HWE8 : Hid (w7.setCell ⟨q, 3, none⟩ (.int .i64 t) = W8) := hW8.symm
            have HB8 : Hid (Below w.heap.size w W8) := by show Below _ _ _; rw [hW8]; exact (HV.out.1.trans (bw.mono HV.out.1.size)).setCell (p := ⟨q, 3, none⟩) HQG.out _
            have HR8 : Hid (W8.heap[R]? = some (.cells #[.int .i64 0, .string ⟨#[]⟩, .string ⟨#[]⟩, .int .i64 0] 25)) := by show _ = _; rw [hW8, heap_setCell_other _ _ _ _ HRQ.out]; exact blk_below HV.out.2.1 bw
            have hq8 : W8.heap[q]? = some (.cells #[.int .i64 kd, .string ⟨#[]⟩, .string ⟨#[]⟩, .int .i64 t] 25) := by rw [hW8]; have h := heap_set _ _ 3 _ _ _ (.int .i64 t) hq7; simpa using h
            have cx8 : W8.cell? ⟨gW, 3, none⟩ = some (.string x3) := by rw [hW8, cell_set_far _ HWQ.out]; exact cx
            have c1 : W8.cell? ⟨q, 1, none⟩ = some (.string ⟨#[]⟩) := (cell_of hq8 1).trans rfl
            have f1 := frozen_of hq8 1
            obtain ⟨W9, hW9⟩ : ∃ W, W = W8.setCell ⟨q, 1, none⟩ (.string x3) := ⟨_, rfl⟩
            have HWE9 : Hid (W8.setCell ⟨q, 1, none⟩ (.string x3) = W9) := hW9.symm
            have HB9 : Hid (Below w.heap.size w W9) := by show Below _ _ _; rw [hW9]; exact HB8.out.setCell (p := ⟨q, 1, none⟩) HQG.out _
            have HR9 : Hid (W9.heap[R]? = some (.cells #[.int .i64 0, .string ⟨#[]⟩, .string ⟨#[]⟩, .int .i64 0] 25)) := by show _ = _; rw [hW9, heap_setCell_other _ _ _ _ HRQ.out]; exact HR8.out
            have HQ9 : Hid (W9.heap[q]? = some (.cells #[.int .i64 kd, .string x3, .string ⟨#[]⟩, .int .i64 t] 25)) := by show _ = _; rw [hW9]; have h := heap_set _ _ 1 _ _ _ (.string x3) hq8; simpa using h
            have HUN : Hid (∀ k a b u, IsBan s k a b u → kd = k ∧ x3 = a ∧ ⟨#[]⟩ = b ∧ t = u) := fun k a b u h => by
              obtain ⟨e1, e2, e3⟩ := HPT.out k a b u h
              have hu := h.1.1
              have e4 := num_of_text (by omega) e2 HTV.out
              exact ⟨HKD.out k a b u h, e3, (HST.out k a b u h).2, by omega⟩
            clear hn1 hn2 hn3 bw hq7 hq8 hW8 hW9 c2 HV gl
            go_upto_region 16 with fail
            rw [HWE8.out]
            clear c3 f3 cx HWE8
            go_upto_region 17 with fail
            rw [HWE9.out]
            clear c1 f1 cx8 HWE9
            have d0 : W9.cell? ⟨q, 0, none⟩ = some (.int .i64 kd) := (cell_of HQ9.out 0).trans rfl
            have d1 : W9.cell? ⟨q, 1, none⟩ = some (.string x3) := (cell_of HQ9.out 1).trans rfl
            have d2 : W9.cell? ⟨q, 2, none⟩ = some (.string ⟨#[]⟩) := (cell_of HQ9.out 2).trans rfl
            have d3 : W9.cell? ⟨q, 3, none⟩ = some (.int .i64 t) := (cell_of HQ9.out 3).trans rfl
            go_wp2_with fail
            have hcall := specBanText_any kd x3 ⟨#[]⟩ t W9 z3 (Nat.le_trans hbz (by unfold maxLen; decide))
            refine hcall.mono ?_
            clear hcall
            rintro e w10 ⟨u, rfl, hu1, hu2, bw⟩
            have HU1 : Hid (BanP kd x3 ⟨#[]⟩ t → u = banT kd x3 ⟨#[]⟩ t) := hu1
            have HU2 : Hid (¬ BanP kd x3 ⟨#[]⟩ t → u = ⟨#[]⟩) := hu2
            have hrc := blk_below HR9.out bw
            have hbe := HB9.out.trans (bw.mono HB9.out.size)
            have hq10 := blk_below HQ9.out bw
            clear hu1 hu2 bw d0 d1 d2 d3 HR9 HB9 HQ9
            by_cases hus : u = s
            · have HIS : Hid (IsBan s kd x3 ⟨#[]⟩ t) := by
                by_cases hp : BanP kd x3 ⟨#[]⟩ t
                · exact ⟨hp, by rw [← HU1.out hp]; exact hus⟩
                · exfalso
                  have h1 := HU2.out hp
                  exact HS0.out (by rw [← hus, h1]; rfl)
              have hts : (u.toList == s.toList) = true := (text_beq _ _).2 hus
              have d0 : w10.cell? ⟨q, 0, none⟩ = some (.int .i64 kd) := (cell_of hq10 0).trans rfl
              have d1 : w10.cell? ⟨q, 1, none⟩ = some (.string x3) := (cell_of hq10 1).trans rfl
              have d2 : w10.cell? ⟨q, 2, none⟩ = some (.string ⟨#[]⟩) := (cell_of hq10 2).trans rfl
              have d3 : w10.cell? ⟨q, 3, none⟩ = some (.int .i64 t) := (cell_of hq10 3).trans rfl
              have c0 : w10.cell? ⟨R, 0, none⟩ = some (.int .i64 0) := (cell_of hrc 0).trans rfl
              have f0 : w10.frozen? ⟨R, 0, none⟩ = false := frozen_of hrc 0
              have c1 : w10.cell? ⟨R, 1, none⟩ = some (.string ⟨#[]⟩) := (cell_of hrc 1).trans rfl
              have f1 : w10.frozen? ⟨R, 1, none⟩ = false := frozen_of hrc 1
              have c2 : w10.cell? ⟨R, 2, none⟩ = some (.string ⟨#[]⟩) := (cell_of hrc 2).trans rfl
              have f2 : w10.frozen? ⟨R, 2, none⟩ = false := frozen_of hrc 2
              have c3 : w10.cell? ⟨R, 3, none⟩ = some (.int .i64 0) := (cell_of hrc 3).trans rfl
              have f3 : w10.frozen? ⟨R, 3, none⟩ = false := frozen_of hrc 3
              obtain ⟨WE, hWE⟩ : ∃ W, W = ((((w10.setCell ⟨R, 0, none⟩ (.int .i64 kd)).setCell ⟨R, 1, none⟩ (.string x3)).setCell ⟨R, 2, none⟩ (.string ⟨#[]⟩)).setCell ⟨R, 3, none⟩ (.int .i64 t)) := ⟨_, rfl⟩
              have HWE : Hid (((((w10.setCell ⟨R, 0, none⟩ (.int .i64 kd)).setCell ⟨R, 1, none⟩ (.string x3)).setCell ⟨R, 2, none⟩ (.string ⟨#[]⟩)).setCell ⟨R, 3, none⟩ (.int .i64 t)) = WE) := hWE.symm
              have HBE : Hid (Below w.heap.size w WE) := by show Below _ _ _; rw [hWE]; exact ((((hbe.setCell (p := ⟨R, 0, none⟩) HRG.out _).setCell (p := ⟨R, 1, none⟩) HRG.out _).setCell (p := ⟨R, 2, none⟩) HRG.out _).setCell (p := ⟨R, 3, none⟩) HRG.out _)
              have hre : WE.heap[R]? = some (.cells #[.int .i64 kd, .string x3, .string ⟨#[]⟩, .int .i64 t] 25) := by rw [hWE]; have h := (heap_set _ R 3 _ _ _ (.int .i64 t) (heap_set _ R 2 _ _ _ (.string ⟨#[]⟩) (heap_set _ R 1 _ _ _ (.string x3) (heap_set _ R 0 _ _ _ (.int .i64 kd) hrc)))); simpa using h
              have k0 : WE.cell? ⟨R, 0, none⟩ = some (.int .i64 kd) := (cell_of hre 0).trans rfl
              have k1 : WE.cell? ⟨R, 1, none⟩ = some (.string x3) := (cell_of hre 1).trans rfl
              have k2 : WE.cell? ⟨R, 2, none⟩ = some (.string ⟨#[]⟩) := (cell_of hre 2).trans rfl
              have k3 : WE.cell? ⟨R, 3, none⟩ = some (.int .i64 t) := (cell_of hre 3).trans rfl
              clear hWE hre hrc hbe
              clear hus hq10
              go_wp2_with fail
              simp only [HWE.out]
              exact bodyPost_ret (v := .tuple #[.agg #[.int .i64 kd, .string x3, .string ⟨#[]⟩, .int .i64 t], .bool true]) (by simp [results, Tryd.results13, go_sem, k0, k1, k2, k3]) rfl ⟨HBE.out, .inl ⟨kd, x3, ⟨#[]⟩, t, rfl, HIS.out⟩⟩
            · have HNO : Hid (∀ k a b t, ¬ IsBan s k a b t) := fun k a b t h => by
                obtain ⟨rfl, rfl, rfl, rfl⟩ := HUN.out _ _ _ _ h
                exact hus ((HU1.out h.1).trans h.2)
              have hts := text_beq_no hus
              have c0 : w10.cell? ⟨R, 0, none⟩ = some (.int .i64 0) := (cell_of hrc 0).trans rfl
              have f0 : w10.frozen? ⟨R, 0, none⟩ = false := frozen_of hrc 0
              have c1 : w10.cell? ⟨R, 1, none⟩ = some (.string ⟨#[]⟩) := (cell_of hrc 1).trans rfl
              have f1 : w10.frozen? ⟨R, 1, none⟩ = false := frozen_of hrc 1
              have c2 : w10.cell? ⟨R, 2, none⟩ = some (.string ⟨#[]⟩) := (cell_of hrc 2).trans rfl
              have f2 : w10.frozen? ⟨R, 2, none⟩ = false := frozen_of hrc 2
              have c3 : w10.cell? ⟨R, 3, none⟩ = some (.int .i64 0) := (cell_of hrc 3).trans rfl
              have f3 : w10.frozen? ⟨R, 3, none⟩ = false := frozen_of hrc 3
              obtain ⟨WE, hWE⟩ : ∃ W, W = ((((w10.setCell ⟨R, 0, none⟩ (.int .i64 0)).setCell ⟨R, 1, none⟩ (.string ⟨#[]⟩)).setCell ⟨R, 2, none⟩ (.string ⟨#[]⟩)).setCell ⟨R, 3, none⟩ (.int .i64 0)) := ⟨_, rfl⟩
              have HWE : Hid (((((w10.setCell ⟨R, 0, none⟩ (.int .i64 0)).setCell ⟨R, 1, none⟩ (.string ⟨#[]⟩)).setCell ⟨R, 2, none⟩ (.string ⟨#[]⟩)).setCell ⟨R, 3, none⟩ (.int .i64 0)) = WE) := hWE.symm
              have HBE : Hid (Below w.heap.size w WE) := by show Below _ _ _; rw [hWE]; exact ((((hbe.setCell (p := ⟨R, 0, none⟩) HRG.out _).setCell (p := ⟨R, 1, none⟩) HRG.out _).setCell (p := ⟨R, 2, none⟩) HRG.out _).setCell (p := ⟨R, 3, none⟩) HRG.out _)
              have hre : WE.heap[R]? = some (.cells #[.int .i64 0, .string ⟨#[]⟩, .string ⟨#[]⟩, .int .i64 0] 25) := by rw [hWE]; have h := (heap_set _ R 3 _ _ _ (.int .i64 0) (heap_set _ R 2 _ _ _ (.string ⟨#[]⟩) (heap_set _ R 1 _ _ _ (.string ⟨#[]⟩) (heap_set _ R 0 _ _ _ (.int .i64 0) hrc)))); simpa using h
              have k0 : WE.cell? ⟨R, 0, none⟩ = some (.int .i64 0) := (cell_of hre 0).trans rfl
              have k1 : WE.cell? ⟨R, 1, none⟩ = some (.string ⟨#[]⟩) := (cell_of hre 1).trans rfl
              have k2 : WE.cell? ⟨R, 2, none⟩ = some (.string ⟨#[]⟩) := (cell_of hre 2).trans rfl
              have k3 : WE.cell? ⟨R, 3, none⟩ = some (.int .i64 0) := (cell_of hre 3).trans rfl
              clear hWE hre hrc hbe
              clear hus hq10
              go_wp2_with fail
              simp only [HWE.out]
              exact bodyPost_ret (v := .tuple #[.agg #[.int .i64 0, .string ⟨#[]⟩, .string ⟨#[]⟩, .int .i64 0], .bool false]) (by simp [results, Tryd.results13, go_sem, k0, k1, k2, k3]) rfl ⟨HBE.out, .inr ⟨rfl, HNO.out⟩⟩
      · have hne4 : ((xs.length : Int) != 4) = true := by rw [bne_iff_ne]; omega
        have hrc := HR5.out
        have hbe := HB5.out
        have HNO : Hid (∀ k a b t, ¬ IsBan s k a b t) := fun k a b t h => h4 (by
          have e := congrArg List.length (HXS.out k a b t h)
          simpa using e)
        have c0 : w5.cell? ⟨R, 0, none⟩ = some (.int .i64 0) := (cell_of hrc 0).trans rfl
        have f0 : w5.frozen? ⟨R, 0, none⟩ = false := frozen_of hrc 0
        have c1 : w5.cell? ⟨R, 1, none⟩ = some (.string ⟨#[]⟩) := (cell_of hrc 1).trans rfl
        have f1 : w5.frozen? ⟨R, 1, none⟩ = false := frozen_of hrc 1
        have c2 : w5.cell? ⟨R, 2, none⟩ = some (.string ⟨#[]⟩) := (cell_of hrc 2).trans rfl
        have f2 : w5.frozen? ⟨R, 2, none⟩ = false := frozen_of hrc 2
        have c3 : w5.cell? ⟨R, 3, none⟩ = some (.int .i64 0) := (cell_of hrc 3).trans rfl
        have f3 : w5.frozen? ⟨R, 3, none⟩ = false := frozen_of hrc 3
        obtain ⟨WE, hWE⟩ : ∃ W, W = ((((w5.setCell ⟨R, 0, none⟩ (.int .i64 0)).setCell ⟨R, 1, none⟩ (.string ⟨#[]⟩)).setCell ⟨R, 2, none⟩ (.string ⟨#[]⟩)).setCell ⟨R, 3, none⟩ (.int .i64 0)) := ⟨_, rfl⟩
        have HWE : Hid (((((w5.setCell ⟨R, 0, none⟩ (.int .i64 0)).setCell ⟨R, 1, none⟩ (.string ⟨#[]⟩)).setCell ⟨R, 2, none⟩ (.string ⟨#[]⟩)).setCell ⟨R, 3, none⟩ (.int .i64 0)) = WE) := hWE.symm
        have HBE : Hid (Below w.heap.size w WE) := by show Below _ _ _; rw [hWE]; exact ((((hbe.setCell (p := ⟨R, 0, none⟩) HRG.out _).setCell (p := ⟨R, 1, none⟩) HRG.out _).setCell (p := ⟨R, 2, none⟩) HRG.out _).setCell (p := ⟨R, 3, none⟩) HRG.out _)
        have hre : WE.heap[R]? = some (.cells #[.int .i64 0, .string ⟨#[]⟩, .string ⟨#[]⟩, .int .i64 0] 25) := by rw [hWE]; have h := (heap_set _ R 3 _ _ _ (.int .i64 0) (heap_set _ R 2 _ _ _ (.string ⟨#[]⟩) (heap_set _ R 1 _ _ _ (.string ⟨#[]⟩) (heap_set _ R 0 _ _ _ (.int .i64 0) hrc)))); simpa using h
        have k0 : WE.cell? ⟨R, 0, none⟩ = some (.int .i64 0) := (cell_of hre 0).trans rfl
        have k1 : WE.cell? ⟨R, 1, none⟩ = some (.string ⟨#[]⟩) := (cell_of hre 1).trans rfl
        have k2 : WE.cell? ⟨R, 2, none⟩ = some (.string ⟨#[]⟩) := (cell_of hre 2).trans rfl
        have k3 : WE.cell? ⟨R, 3, none⟩ = some (.int .i64 0) := (cell_of hre 3).trans rfl
        clear hWE hre hrc hbe
        clear h4 HR5 HB5 HQ5 HXS HXZ
        go_wp2_with fail
        simp only [HWE.out]
        exact bodyPost_ret (v := .tuple #[.agg #[.int .i64 0, .string ⟨#[]⟩, .string ⟨#[]⟩, .int .i64 0], .bool false]) (by simp [results, Tryd.results13, go_sem, k0, k1, k2, k3]) rfl ⟨HBE.out, .inr ⟨rfl, HNO.out⟩⟩
  · obtain ⟨BB, hBB⟩ : ∃ x, x = s.extract f s.size := ⟨_, rfl⟩
    have hbz : BB.size ≤ 3000000 := by
      have h1 : (bs BB).length ≤ (bs s).length := by
        rw [hBB, bs_extract, List.length_drop, List.length_take]
        omega
      rw [bs_len, bs_len] at h1
      omega
    have HS0 : Hid (¬ s.size = 0) := by show ¬ _; omega
    have HST : Hid (∀ k a b t, IsBan s k a b t → bs line = banLine k a t ∧ BB = b) := by rw [hBB]; exact hst
    have HBX : Hid (s.extract f s.size = BB) := hBB.symm
    have hf2 : (f : Int) ≤ (s.size : Int) := by omega
    have hng : ¬ ((f : Int) < 0) := by omega
    have c2 : W2.cell? ⟨q, 2, none⟩ = some (.string ⟨#[]⟩) := (cell_of HQ2.out 2).trans rfl
    have f2 := frozen_of HQ2.out 2
    obtain ⟨W4, hW4⟩ : ∃ W, W = W2.setCell ⟨q, 2, none⟩ (.string BB) := ⟨_, rfl⟩
    have HWE4 : Hid (W2.setCell ⟨q, 2, none⟩ (.string BB) = W4) := hW4.symm
    have HBC : Hid (Below w.heap.size w W4) := by show Below _ _ _; rw [hW4]; exact HB2.out.setCell (p := ⟨q, 2, none⟩) HQG.out _
    have HRC : Hid (W4.heap[R]? = some (.cells #[.int .i64 0, .string ⟨#[]⟩, .string ⟨#[]⟩, .int .i64 0] 25)) := by show _ = _; rw [hW4, heap_setCell_other _ _ _ _ HRQ.out]; exact HR2.out
    have HQC : Hid (W4.heap[q]? = some (.cells #[.int .i64 0, .string ⟨#[]⟩, .string BB, .int .i64 0] 25)) := by show _ = _; rw [hW4]; have h := heap_set _ _ 2 _ _ _ (.string BB) HQ2.out; simpa using h
    clear hst hBB hW4 HB2 HR2 HQ2
    go_upto_region 6 with fail
    rw [HBX.out, HWE4.out]
    clear c2 f2 HWE4 HBX
    go_wp2_with fail
    refine (l3Words_any line _ (by omega)).mono ?_
    rintro e w5 ⟨vW, xs, rfl, ownW, hxl, bw, hwd⟩
    obtain ⟨oW, cW, rfl⟩ := slice_of_owns ownW
    have HB5 : Hid (Below w.heap.size w w5) := HBC.out.trans (bw.mono HBC.out.size)
    have HR5 : Hid (w5.heap[R]? = some (.cells #[.int .i64 0, .string ⟨#[]⟩, .string ⟨#[]⟩, .int .i64 0] 25)) := blk_below HRC.out bw
    have HQ5 : Hid (w5.heap[q]? = some (.cells #[.int .i64 0, .string ⟨#[]⟩, .string BB, .int .i64 0] 25)) := blk_below HQC.out bw
    have HXS : Hid (∀ k a b t, IsBan s k a b t → xs.map bs = [banL, bs (bkW k), numL t.toNat, bs a]) := fun k a b t h => by
      rw [← hwd, (HST.out k a b t h).1]
      exact (ban_line h.1).2
    have HXZ : Hid (∀ x ∈ xs, x.size ≤ maxLen) := fun x hx => by
      have h1 : bs x ∈ wordsL [] [] (bs line) := by rw [hwd]; exact List.mem_map.2 ⟨x, hx, rfl⟩
      rcases wordsL_len _ _ _ _ h1 with h2 | h2
      · simp at h2
      · rw [bs_len, bs_len] at h2
        simp at h2
        unfold maxLen
        omega
    clear bw hwd HBC HRC HQC
    by_cases h4 : xs.length = 4
    · obtain ⟨x0, x1, x2, x3, rfl⟩ : ∃ x0 x1 x2 x3, xs = [x0, x1, x2, x3] := by
        match xs, h4 with
        | [a, b, c, d], _ => exact ⟨a, b, c, d, rfl⟩
      have HPT : Hid (∀ k a b t, IsBan s k a b t → x1 = bkW k ∧ x2 = numText t.toNat ∧ x3 = a) := fun k a b t h => by
        have e := HXS.out k a b t h
        simp only [List.map_cons, List.map_nil, List.cons.injEq] at e
        exact ⟨bs_inj e.2.1, numL_text e.2.2.1, bs_inj e.2.2.2.1⟩
      have z2 : x2.size ≤ maxLen := HXZ.out _ (by simp)
      have z3 : x3.size ≤ maxLen := HXZ.out _ (by simp)
      obtain ⟨gW, hgW, _⟩ := (texts_view ownW).2 0 (by simp)
      subst hgW
      have hcw : w5.cell? ⟨gW, 1, none⟩ = some (.string x1) ∧ w5.cell? ⟨gW, 2, none⟩ = some (.string x2) ∧ w5.cell? ⟨gW, 3, none⟩ = some (.string x3) := by
        have ht := texts_view ownW
        refine ⟨?_, ?_, ?_⟩
        · obtain ⟨g, e, _, hc⟩ := ht.2 1 (by simp)
          cases e; exact hc
        · obtain ⟨g, e, _, hc⟩ := ht.2 2 (by simp)
          cases e; exact hc
        · obtain ⟨g, e, _, hc⟩ := ht.2 3 (by simp)
          cases e; exact hc
      have HGL : Hid (gW < w5.heap.size) := World.block_lt_of_cell? _ _ hcw.1
      have hlW : ([x0, x1, x2, x3] : List ByteArray).length = 4 := rfl
      rw [hlW]
      have hOW := own_ne ownW HQ5.out (by decide) gW rfl
      have HWQ : Hid (gW ≠ q) := hOW
      obtain ⟨g2, hg2⟩ : ∃ g, g = w5.heap.size := ⟨_, rfl⟩
      obtain ⟨W6, hW6⟩ : ∃ W, W = w5.alloc (.cells #[.string ⟨#[]⟩, .string ⟨#[112, 97, 116, 104]⟩, .string ⟨#[98, 101, 108, 111, 119]⟩, .string ⟨#[102, 105, 101, 108, 100]⟩] 9) := ⟨_, rfl⟩
      have bA : Below w5.heap.size w5 W6 := by rw [hW6]; exact (Below.refl _ _).alloc (Nat.le_refl _) _
      have HG2 : Hid (g2 ≠ q ∧ w.heap.size ≤ q) := ⟨fun e => by have h1 := (Array.getElem?_eq_some_iff.1 HQ5.out).1; omega, HQG.out⟩
      have H6 : Hid (Below w.heap.size w W6 ∧ W6.heap[R]? = some (.cells #[.int .i64 0, .string ⟨#[]⟩, .string ⟨#[]⟩, .int .i64 0] 25) ∧ W6.heap[q]? = some (.cells #[.int .i64 0, .string ⟨#[]⟩, .string BB, .int .i64 0] 25) ∧ W6.heap[g2]? = some (.cells #[.string ⟨#[]⟩, .string ⟨#[112, 97, 116, 104]⟩, .string ⟨#[98, 101, 108, 111, 119]⟩, .string ⟨#[102, 105, 101, 108, 100]⟩] 9) ∧ W6.cell? ⟨gW, 1, none⟩ = some (.string x1) ∧ W6.cell? ⟨gW, 2, none⟩ = some (.string x2) ∧ W6.cell? ⟨gW, 3, none⟩ = some (.string x3)) := by
        refine ⟨HB5.out.trans (bA.mono HB5.out.size), blk_below HR5.out bA, blk_below HQ5.out bA, by rw [hW6, hg2]; exact heap_alloc_new _ _, ?_, ?_, ?_⟩
        · rw [bA.cell (p := ⟨gW, 1, none⟩) HGL.out]; exact hcw.1
        · rw [bA.cell (p := ⟨gW, 2, none⟩) HGL.out]; exact hcw.2.1
        · rw [bA.cell (p := ⟨gW, 3, none⟩) HGL.out]; exact hcw.2.2
      clear HXS HXZ hxl h4 hcw ownW bA hlW hOW
      go_upto_region 10 with fail
      rw [← hW6, ← hg2]
      clear hW6 hg2 HB5 HR5 HQ5
      go_wp2_with fail
      go_loopw [9] (fun i wr => ∃ j : Nat, 1 ≤ j ∧ j ≤ 4 ∧ i = .int .i64 (j : Int) ∧ Hid (Below w.heap.size w wr ∧ wr.heap[R]? = some (.cells #[.int .i64 0, .string ⟨#[]⟩, .string ⟨#[]⟩, .int .i64 0] 25) ∧ wr.heap[q]? = some (.cells #[.int .i64 (kdTo x1 j), .string ⟨#[]⟩, .string BB, .int .i64 0] 25) ∧ wr.heap[g2]? = some (.cells #[.string ⟨#[]⟩, .string ⟨#[112, 97, 116, 104]⟩, .string ⟨#[98, 101, 108, 111, 119]⟩, .string ⟨#[102, 105, 101, 108, 100]⟩] 9) ∧ wr.cell? ⟨gW, 1, none⟩ = some (.string x1) ∧ wr.cell? ⟨gW, 2, none⟩ = some (.string x2) ∧ wr.cell? ⟨gW, 3, none⟩ = some (.string x3))) (fun i _ => 4 - (intOf i).toNat)
      case atStart => exact ⟨1, by omega, by omega, rfl, H6⟩
      case round =>
        obtain ⟨j, hj1, hj, rfl, HW⟩ := hrel
        by_cases hlt : (j : Int) < 4
        · have cn : wr.cell? ⟨g2, j, none⟩ = some (.string (bkW (j : Int))) := by
            obtain rfl | rfl | rfl : j = 1 ∨ j = 2 ∨ j = 3 := by omega
            · exact (cell_of HW.out.2.2.2.1 1).trans rfl
            · exact (cell_of HW.out.2.2.2.1 2).trans rfl
            · exact (cell_of HW.out.2.2.2.1 3).trans rfl
          have cw := HW.out.2.2.2.2.1
          obtain ⟨bk, hbk⟩ : ∃ x, x = bkW (j : Int) := ⟨_, rfl⟩
          rw [← hbk] at cn
          obtain ⟨kd, hkd⟩ : ∃ x, x = kdTo x1 j := ⟨_, rfl⟩
          have HQ := (show Hid _ from HW.out.2.2.1)
          by_cases heq : bk = x1
          · have te : (bk.toList == x1.toList) = true := (text_beq _ _).2 heq
            have HKD : Hid (kdTo x1 (j + 1) = (j : Int)) := by show _ = _; rw [kdTo, if_pos ⟨hj1, by rw [← hbk]; exact heq⟩]
            clear heq hbk
            go_wp2_with fail
            go_region_held3 (fun W => W.cell? ⟨g2, j, none⟩ = some (.string bk) ∧ W.cell? ⟨gW, 1, none⟩ = some (.string x1)) (first | assumption | go_keep) (fail)
            have hW := HW.out
            have hq0 : wr.drew.heap[q]? = some (.cells #[.int .i64 (kdTo x1 j), .string ⟨#[]⟩, .string BB, .int .i64 0] 25) := hW.2.2.1
            have cq : wr.drew.cell? ⟨q, 0, none⟩ = some (.int .i64 (kdTo x1 j)) := (cell_of hq0 0).trans rfl
            have fq := frozen_of hq0 0
            have HW2 : Hid (Below w.heap.size w (wr.drew.setCell ⟨q, 0, none⟩ (.int .i64 (j : Int))) ∧ (wr.drew.setCell ⟨q, 0, none⟩ (.int .i64 (j : Int))).heap[R]? = some (.cells #[.int .i64 0, .string ⟨#[]⟩, .string ⟨#[]⟩, .int .i64 0] 25) ∧ (wr.drew.setCell ⟨q, 0, none⟩ (.int .i64 (j : Int))).heap[q]? = some (.cells #[.int .i64 (kdTo x1 (j + 1)), .string ⟨#[]⟩, .string BB, .int .i64 0] 25) ∧ (wr.drew.setCell ⟨q, 0, none⟩ (.int .i64 (j : Int))).heap[g2]? = some (.cells #[.string ⟨#[]⟩, .string ⟨#[112, 97, 116, 104]⟩, .string ⟨#[98, 101, 108, 111, 119]⟩, .string ⟨#[102, 105, 101, 108, 100]⟩] 9) ∧ (wr.drew.setCell ⟨q, 0, none⟩ (.int .i64 (j : Int))).cell? ⟨gW, 1, none⟩ = some (.string x1) ∧ (wr.drew.setCell ⟨q, 0, none⟩ (.int .i64 (j : Int))).cell? ⟨gW, 2, none⟩ = some (.string x2) ∧ (wr.drew.setCell ⟨q, 0, none⟩ (.int .i64 (j : Int))).cell? ⟨gW, 3, none⟩ = some (.string x3)) := by
              rw [HKD.out]
              refine ⟨hW.1.drew.setCell (p := ⟨q, 0, none⟩) HQG.out _, by rw [heap_setCell_other _ _ _ _ HRQ.out]; exact hW.2.1, by have h := heap_set _ _ 0 _ _ _ (.int .i64 (j : Int)) hq0; simpa using h, by rw [heap_setCell_other _ _ _ _ HG2.out.1]; exact hW.2.2.2.1, ?_, ?_, ?_⟩
              · rw [cell_set_far _ HWQ.out]; exact hW.2.2.2.2.1
              · rw [cell_set_far _ HWQ.out]; exact hW.2.2.2.2.2.1
              · rw [cell_set_far _ HWQ.out]; exact hW.2.2.2.2.2.2
            clear hW hq0 HW HQ cn cw hkd
            go_wp2_with fail
            go_roundw
            case rel => exact ⟨j + 1, by omega, by omega, by go_num, HW2⟩
            case measure => simp [intOf]; omega
          · have te := text_beq_no heq
            have HKD : Hid (kdTo x1 (j + 1) = kdTo x1 j) := by show _ = _; rw [kdTo, if_neg (fun h => heq (by rw [hbk]; exact h.2))]
            clear heq hbk
            go_wp2_with fail
            go_region_held3 (fun W => W.cell? ⟨g2, j, none⟩ = some (.string bk) ∧ W.cell? ⟨gW, 1, none⟩ = some (.string x1)) (first | assumption | go_keep) (fail)
            have HW2 : Hid (Below w.heap.size w wr.drew ∧ wr.drew.heap[R]? = some (.cells #[.int .i64 0, .string ⟨#[]⟩, .string ⟨#[]⟩, .int .i64 0] 25) ∧ wr.drew.heap[q]? = some (.cells #[.int .i64 (kdTo x1 (j + 1)), .string ⟨#[]⟩, .string BB, .int .i64 0] 25) ∧ wr.drew.heap[g2]? = some (.cells #[.string ⟨#[]⟩, .string ⟨#[112, 97, 116, 104]⟩, .string ⟨#[98, 101, 108, 111, 119]⟩, .string ⟨#[102, 105, 101, 108, 100]⟩] 9) ∧ wr.drew.cell? ⟨gW, 1, none⟩ = some (.string x1) ∧ wr.drew.cell? ⟨gW, 2, none⟩ = some (.string x2) ∧ wr.drew.cell? ⟨gW, 3, none⟩ = some (.string x3)) := by
              rw [HKD.out]
              exact ⟨HW.out.1.drew, HW.out.2⟩
            clear HW HQ cn cw hkd
            go_wp2_with fail
            go_roundw
            case rel => exact ⟨j + 1, by omega, by omega, by go_num, HW2⟩
            case measure => simp [intOf]; omega
        · obtain rfl : j = 4 := by omega
          obtain ⟨kd, hkd⟩ : ∃ x, x = kdTo x1 4 := ⟨_, rfl⟩
          have HKD : Hid (∀ k a b t, IsBan s k a b t → kd = k) := fun k a b t h => by
            rw [hkd, (HPT.out k a b t h).1]
            exact kdTo_of h.1.kinds
          have hW := HW.out
          rw [← hkd] at hW
          have HV := (show Hid _ from hW)
          clear HW hkd hW
          have c2 := HV.out.2.2.2.2.2.1
          go_wp2_with fail
          refine (specNumRead_any x2 _ z2).mono ?_
          rintro e w7 ⟨bo, t, rfl, hn1, hn2, hn3, bw⟩
          have HTV : Hid (NumOk x2 → t = valL x2.data.toList) := fun h => hn2 (hn1.2 h)
          have hq7 := blk_below HV.out.2.2.1 bw
          have c3 : w7.cell? ⟨q, 3, none⟩ = some (.int .i64 0) := (cell_of hq7 3).trans rfl
          have f3 := frozen_of hq7 3
          have gl : gW < wr.heap.size := World.block_lt_of_cell? _ _ c2
          have cx : w7.cell? ⟨gW, 3, none⟩ = some (.string x3) := by rw [bw.cell (p := ⟨gW, 3, none⟩) gl]; exact HV.out.2.2.2.2.2.2
          obtain ⟨W8, hW8⟩ : ∃ W, W = w7.setCell ⟨q, 3, none⟩ (.int .i64 t) := ⟨_, rfl⟩
          have HWE8 : Hid (w7.setCell ⟨q, 3, none⟩ (.int .i64 t) = W8) := hW8.symm
          have HB8 : Hid (Below w.heap.size w W8) := by show Below _ _ _; rw [hW8]; exact (HV.out.1.trans (bw.mono HV.out.1.size)).setCell (p := ⟨q, 3, none⟩) HQG.out _
          have HR8 : Hid (W8.heap[R]? = some (.cells #[.int .i64 0, .string ⟨#[]⟩, .string ⟨#[]⟩, .int .i64 0] 25)) := by show _ = _; rw [hW8, heap_setCell_other _ _ _ _ HRQ.out]; exact blk_below HV.out.2.1 bw
          have hq8 : W8.heap[q]? = some (.cells #[.int .i64 kd, .string ⟨#[]⟩, .string BB, .int .i64 t] 25) := by rw [hW8]; have h := heap_set _ _ 3 _ _ _ (.int .i64 t) hq7; simpa using h
          have cx8 : W8.cell? ⟨gW, 3, none⟩ = some (.string x3) := by rw [hW8, cell_set_far _ HWQ.out]; exact cx
          have c1 : W8.cell? ⟨q, 1, none⟩ = some (.string ⟨#[]⟩) := (cell_of hq8 1).trans rfl
          have f1 := frozen_of hq8 1
          obtain ⟨W9, hW9⟩ : ∃ W, W = W8.setCell ⟨q, 1, none⟩ (.string x3) := ⟨_, rfl⟩
          have HWE9 : Hid (W8.setCell ⟨q, 1, none⟩ (.string x3) = W9) := hW9.symm
          have HB9 : Hid (Below w.heap.size w W9) := by show Below _ _ _; rw [hW9]; exact HB8.out.setCell (p := ⟨q, 1, none⟩) HQG.out _
          have HR9 : Hid (W9.heap[R]? = some (.cells #[.int .i64 0, .string ⟨#[]⟩, .string ⟨#[]⟩, .int .i64 0] 25)) := by show _ = _; rw [hW9, heap_setCell_other _ _ _ _ HRQ.out]; exact HR8.out
          have HQ9 : Hid (W9.heap[q]? = some (.cells #[.int .i64 kd, .string x3, .string BB, .int .i64 t] 25)) := by show _ = _; rw [hW9]; have h := heap_set _ _ 1 _ _ _ (.string x3) hq8; simpa using h
          have HUN : Hid (∀ k a b u, IsBan s k a b u → kd = k ∧ x3 = a ∧ BB = b ∧ t = u) := fun k a b u h => by
            obtain ⟨e1, e2, e3⟩ := HPT.out k a b u h
            have hu := h.1.1
            have e4 := num_of_text (by omega) e2 HTV.out
            exact ⟨HKD.out k a b u h, e3, (HST.out k a b u h).2, by omega⟩
          clear hn1 hn2 hn3 bw hq7 hq8 hW8 hW9 c2 HV gl
          go_upto_region 16 with fail
          rw [HWE8.out]
          clear c3 f3 cx HWE8
          go_upto_region 17 with fail
          rw [HWE9.out]
          clear c1 f1 cx8 HWE9
          have d0 : W9.cell? ⟨q, 0, none⟩ = some (.int .i64 kd) := (cell_of HQ9.out 0).trans rfl
          have d1 : W9.cell? ⟨q, 1, none⟩ = some (.string x3) := (cell_of HQ9.out 1).trans rfl
          have d2 : W9.cell? ⟨q, 2, none⟩ = some (.string BB) := (cell_of HQ9.out 2).trans rfl
          have d3 : W9.cell? ⟨q, 3, none⟩ = some (.int .i64 t) := (cell_of HQ9.out 3).trans rfl
          go_wp2_with fail
          have hcall := specBanText_any kd x3 BB t W9 z3 (Nat.le_trans hbz (by unfold maxLen; decide))
          refine hcall.mono ?_
          clear hcall
          rintro e w10 ⟨u, rfl, hu1, hu2, bw⟩
          have HU1 : Hid (BanP kd x3 BB t → u = banT kd x3 BB t) := hu1
          have HU2 : Hid (¬ BanP kd x3 BB t → u = ⟨#[]⟩) := hu2
          have hrc := blk_below HR9.out bw
          have hbe := HB9.out.trans (bw.mono HB9.out.size)
          have hq10 := blk_below HQ9.out bw
          clear hu1 hu2 bw d0 d1 d2 d3 HR9 HB9 HQ9
          by_cases hus : u = s
          · have HIS : Hid (IsBan s kd x3 BB t) := by
              by_cases hp : BanP kd x3 BB t
              · exact ⟨hp, by rw [← HU1.out hp]; exact hus⟩
              · exfalso
                have h1 := HU2.out hp
                exact HS0.out (by rw [← hus, h1]; rfl)
            have hts : (u.toList == s.toList) = true := (text_beq _ _).2 hus
            have d0 : w10.cell? ⟨q, 0, none⟩ = some (.int .i64 kd) := (cell_of hq10 0).trans rfl
            have d1 : w10.cell? ⟨q, 1, none⟩ = some (.string x3) := (cell_of hq10 1).trans rfl
            have d2 : w10.cell? ⟨q, 2, none⟩ = some (.string BB) := (cell_of hq10 2).trans rfl
            have d3 : w10.cell? ⟨q, 3, none⟩ = some (.int .i64 t) := (cell_of hq10 3).trans rfl
            have c0 : w10.cell? ⟨R, 0, none⟩ = some (.int .i64 0) := (cell_of hrc 0).trans rfl
            have f0 : w10.frozen? ⟨R, 0, none⟩ = false := frozen_of hrc 0
            have c1 : w10.cell? ⟨R, 1, none⟩ = some (.string ⟨#[]⟩) := (cell_of hrc 1).trans rfl
            have f1 : w10.frozen? ⟨R, 1, none⟩ = false := frozen_of hrc 1
            have c2 : w10.cell? ⟨R, 2, none⟩ = some (.string ⟨#[]⟩) := (cell_of hrc 2).trans rfl
            have f2 : w10.frozen? ⟨R, 2, none⟩ = false := frozen_of hrc 2
            have c3 : w10.cell? ⟨R, 3, none⟩ = some (.int .i64 0) := (cell_of hrc 3).trans rfl
            have f3 : w10.frozen? ⟨R, 3, none⟩ = false := frozen_of hrc 3
            obtain ⟨WE, hWE⟩ : ∃ W, W = ((((w10.setCell ⟨R, 0, none⟩ (.int .i64 kd)).setCell ⟨R, 1, none⟩ (.string x3)).setCell ⟨R, 2, none⟩ (.string BB)).setCell ⟨R, 3, none⟩ (.int .i64 t)) := ⟨_, rfl⟩
            have HWE : Hid (((((w10.setCell ⟨R, 0, none⟩ (.int .i64 kd)).setCell ⟨R, 1, none⟩ (.string x3)).setCell ⟨R, 2, none⟩ (.string BB)).setCell ⟨R, 3, none⟩ (.int .i64 t)) = WE) := hWE.symm
            have HBE : Hid (Below w.heap.size w WE) := by show Below _ _ _; rw [hWE]; exact ((((hbe.setCell (p := ⟨R, 0, none⟩) HRG.out _).setCell (p := ⟨R, 1, none⟩) HRG.out _).setCell (p := ⟨R, 2, none⟩) HRG.out _).setCell (p := ⟨R, 3, none⟩) HRG.out _)
            have hre : WE.heap[R]? = some (.cells #[.int .i64 kd, .string x3, .string BB, .int .i64 t] 25) := by rw [hWE]; have h := (heap_set _ R 3 _ _ _ (.int .i64 t) (heap_set _ R 2 _ _ _ (.string BB) (heap_set _ R 1 _ _ _ (.string x3) (heap_set _ R 0 _ _ _ (.int .i64 kd) hrc)))); simpa using h
            have k0 : WE.cell? ⟨R, 0, none⟩ = some (.int .i64 kd) := (cell_of hre 0).trans rfl
            have k1 : WE.cell? ⟨R, 1, none⟩ = some (.string x3) := (cell_of hre 1).trans rfl
            have k2 : WE.cell? ⟨R, 2, none⟩ = some (.string BB) := (cell_of hre 2).trans rfl
            have k3 : WE.cell? ⟨R, 3, none⟩ = some (.int .i64 t) := (cell_of hre 3).trans rfl
            clear hWE hre hrc hbe
            clear hus hq10
            go_wp2_with fail
            simp only [HWE.out]
            exact bodyPost_ret (v := .tuple #[.agg #[.int .i64 kd, .string x3, .string BB, .int .i64 t], .bool true]) (by simp [results, Tryd.results13, go_sem, k0, k1, k2, k3]) rfl ⟨HBE.out, .inl ⟨kd, x3, BB, t, rfl, HIS.out⟩⟩
          · have HNO : Hid (∀ k a b t, ¬ IsBan s k a b t) := fun k a b t h => by
              obtain ⟨rfl, rfl, rfl, rfl⟩ := HUN.out _ _ _ _ h
              exact hus ((HU1.out h.1).trans h.2)
            have hts := text_beq_no hus
            have c0 : w10.cell? ⟨R, 0, none⟩ = some (.int .i64 0) := (cell_of hrc 0).trans rfl
            have f0 : w10.frozen? ⟨R, 0, none⟩ = false := frozen_of hrc 0
            have c1 : w10.cell? ⟨R, 1, none⟩ = some (.string ⟨#[]⟩) := (cell_of hrc 1).trans rfl
            have f1 : w10.frozen? ⟨R, 1, none⟩ = false := frozen_of hrc 1
            have c2 : w10.cell? ⟨R, 2, none⟩ = some (.string ⟨#[]⟩) := (cell_of hrc 2).trans rfl
            have f2 : w10.frozen? ⟨R, 2, none⟩ = false := frozen_of hrc 2
            have c3 : w10.cell? ⟨R, 3, none⟩ = some (.int .i64 0) := (cell_of hrc 3).trans rfl
            have f3 : w10.frozen? ⟨R, 3, none⟩ = false := frozen_of hrc 3
            obtain ⟨WE, hWE⟩ : ∃ W, W = ((((w10.setCell ⟨R, 0, none⟩ (.int .i64 0)).setCell ⟨R, 1, none⟩ (.string ⟨#[]⟩)).setCell ⟨R, 2, none⟩ (.string ⟨#[]⟩)).setCell ⟨R, 3, none⟩ (.int .i64 0)) := ⟨_, rfl⟩
            have HWE : Hid (((((w10.setCell ⟨R, 0, none⟩ (.int .i64 0)).setCell ⟨R, 1, none⟩ (.string ⟨#[]⟩)).setCell ⟨R, 2, none⟩ (.string ⟨#[]⟩)).setCell ⟨R, 3, none⟩ (.int .i64 0)) = WE) := hWE.symm
            have HBE : Hid (Below w.heap.size w WE) := by show Below _ _ _; rw [hWE]; exact ((((hbe.setCell (p := ⟨R, 0, none⟩) HRG.out _).setCell (p := ⟨R, 1, none⟩) HRG.out _).setCell (p := ⟨R, 2, none⟩) HRG.out _).setCell (p := ⟨R, 3, none⟩) HRG.out _)
            have hre : WE.heap[R]? = some (.cells #[.int .i64 0, .string ⟨#[]⟩, .string ⟨#[]⟩, .int .i64 0] 25) := by rw [hWE]; have h := (heap_set _ R 3 _ _ _ (.int .i64 0) (heap_set _ R 2 _ _ _ (.string ⟨#[]⟩) (heap_set _ R 1 _ _ _ (.string ⟨#[]⟩) (heap_set _ R 0 _ _ _ (.int .i64 0) hrc)))); simpa using h
            have k0 : WE.cell? ⟨R, 0, none⟩ = some (.int .i64 0) := (cell_of hre 0).trans rfl
            have k1 : WE.cell? ⟨R, 1, none⟩ = some (.string ⟨#[]⟩) := (cell_of hre 1).trans rfl
            have k2 : WE.cell? ⟨R, 2, none⟩ = some (.string ⟨#[]⟩) := (cell_of hre 2).trans rfl
            have k3 : WE.cell? ⟨R, 3, none⟩ = some (.int .i64 0) := (cell_of hre 3).trans rfl
            clear hWE hre hrc hbe
            clear hus hq10
            go_wp2_with fail
            simp only [HWE.out]
            exact bodyPost_ret (v := .tuple #[.agg #[.int .i64 0, .string ⟨#[]⟩, .string ⟨#[]⟩, .int .i64 0], .bool false]) (by simp [results, Tryd.results13, go_sem, k0, k1, k2, k3]) rfl ⟨HBE.out, .inr ⟨rfl, HNO.out⟩⟩
    · have hne4 : ((xs.length : Int) != 4) = true := by rw [bne_iff_ne]; omega
      have hrc := HR5.out
      have hbe := HB5.out
      have HNO : Hid (∀ k a b t, ¬ IsBan s k a b t) := fun k a b t h => h4 (by
        have e := congrArg List.length (HXS.out k a b t h)
        simpa using e)
      have c0 : w5.cell? ⟨R, 0, none⟩ = some (.int .i64 0) := (cell_of hrc 0).trans rfl
      have f0 : w5.frozen? ⟨R, 0, none⟩ = false := frozen_of hrc 0
      have c1 : w5.cell? ⟨R, 1, none⟩ = some (.string ⟨#[]⟩) := (cell_of hrc 1).trans rfl
      have f1 : w5.frozen? ⟨R, 1, none⟩ = false := frozen_of hrc 1
      have c2 : w5.cell? ⟨R, 2, none⟩ = some (.string ⟨#[]⟩) := (cell_of hrc 2).trans rfl
      have f2 : w5.frozen? ⟨R, 2, none⟩ = false := frozen_of hrc 2
      have c3 : w5.cell? ⟨R, 3, none⟩ = some (.int .i64 0) := (cell_of hrc 3).trans rfl
      have f3 : w5.frozen? ⟨R, 3, none⟩ = false := frozen_of hrc 3
      obtain ⟨WE, hWE⟩ : ∃ W, W = ((((w5.setCell ⟨R, 0, none⟩ (.int .i64 0)).setCell ⟨R, 1, none⟩ (.string ⟨#[]⟩)).setCell ⟨R, 2, none⟩ (.string ⟨#[]⟩)).setCell ⟨R, 3, none⟩ (.int .i64 0)) := ⟨_, rfl⟩
      have HWE : Hid (((((w5.setCell ⟨R, 0, none⟩ (.int .i64 0)).setCell ⟨R, 1, none⟩ (.string ⟨#[]⟩)).setCell ⟨R, 2, none⟩ (.string ⟨#[]⟩)).setCell ⟨R, 3, none⟩ (.int .i64 0)) = WE) := hWE.symm
      have HBE : Hid (Below w.heap.size w WE) := by show Below _ _ _; rw [hWE]; exact ((((hbe.setCell (p := ⟨R, 0, none⟩) HRG.out _).setCell (p := ⟨R, 1, none⟩) HRG.out _).setCell (p := ⟨R, 2, none⟩) HRG.out _).setCell (p := ⟨R, 3, none⟩) HRG.out _)
      have hre : WE.heap[R]? = some (.cells #[.int .i64 0, .string ⟨#[]⟩, .string ⟨#[]⟩, .int .i64 0] 25) := by rw [hWE]; have h := (heap_set _ R 3 _ _ _ (.int .i64 0) (heap_set _ R 2 _ _ _ (.string ⟨#[]⟩) (heap_set _ R 1 _ _ _ (.string ⟨#[]⟩) (heap_set _ R 0 _ _ _ (.int .i64 0) hrc)))); simpa using h
      have k0 : WE.cell? ⟨R, 0, none⟩ = some (.int .i64 0) := (cell_of hre 0).trans rfl
      have k1 : WE.cell? ⟨R, 1, none⟩ = some (.string ⟨#[]⟩) := (cell_of hre 1).trans rfl
      have k2 : WE.cell? ⟨R, 2, none⟩ = some (.string ⟨#[]⟩) := (cell_of hre 2).trans rfl
      have k3 : WE.cell? ⟨R, 3, none⟩ = some (.int .i64 0) := (cell_of hre 3).trans rfl
      clear hWE hre hrc hbe
      clear h4 HR5 HB5 HQ5 HXS HXZ
      go_wp2_with fail
      simp only [HWE.out]
      exact bodyPost_ret (v := .tuple #[.agg #[.int .i64 0, .string ⟨#[]⟩, .string ⟨#[]⟩, .int .i64 0], .bool false]) (by simp [results, Tryd.results13, go_sem, k0, k1, k2, k3]) rfl ⟨HBE.out, .inr ⟨rfl, HNO.out⟩⟩

end Go.Proofs.YtlmenolcgaakeaaDoor

namespace Go.Proofs.YtlmenolcgaakeaaDoor
open Go.RowKit
open Go.Lib hiding intOf

theorem path_cls (n : Int) : PathB n ↔ (cls n ≠ 4 ∧ cls n ≠ 7) := by
  have := cls_spec n
  unfold PathB
  constructor
  · intro h; omega
  · intro h; omega
theorem path_small {n : Int} (h : PathB n) : n < 128 := by unfold PathB at h; omega

set_option maxHeartbeats 400000 in
theorem isPathRune_any (r : Int) (w : World) :
    Calls Tryd.prog 104 #[.int .i32 r] w fun e w' => BoolIs (PathB r) w e w' := by
  have HP : Hid (PathB r ↔ (cls r ≠ 4 ∧ cls r ≠ 7)) := path_cls r
  go_enter Tryd.func104, Tryd.ntmps104
  go_wp2_with fail
  refine (classOf_any r _).mono ?_
  rintro e w1 ⟨rfl, hb⟩
  generalize cls r = c at HP ⊢
  by_cases h4 : c = 4
  · have HN : Hid (¬ PathB r) := fun h => (HP.out.1 h).1 h4
    subst h4
    go_wp2_with fail
    go_ret
    exact BoolIs.no HN.out hb
  · have h5 : (c != 4) = true := by rw [bne_iff_ne]; exact h4
    by_cases h7 : c = 7
    · have HN : Hid (¬ PathB r) := fun h => (HP.out.1 h).2 h7
      subst h7
      go_wp2_with fail
      go_ret
      exact BoolIs.no HN.out hb
    · have h8 : (c != 7) = true := by rw [bne_iff_ne]; exact h7
      have HY : Hid (PathB r) := HP.out.2 ⟨h4, h7⟩
      go_wp2_with fail
      go_ret
      exact BoolIs.yes HY.out hb

set_option maxHeartbeats 1000000 in
theorem allRunes_path (s : ByteArray) (w : World) :
    Calls Tryd.prog 103 #[.string s, .func (.func 104) #[] #[]] w fun e w' => BoolIs (AllB PathB s) w e w' := by
  go_enter Tryd.func103, Tryd.ntmps103
  go_wp2
  go_loopw [6] (fun _ wr => ∃ pos : Nat, wr.heap[w.heap.size]? = some (.stringIter s pos) ∧ Below w.heap.size w wr ∧ Hid (AllTo PathB s pos)) (fun _ wr => s.size - wr.iterPos w.heap.size)
  case atStart => exact ⟨0, World.iter_heap _ _ _, (Below.refl _ _).alloc (Nat.le_refl _) _, allTo_zero _ _⟩
  case round =>
    obtain ⟨pos, hh, hbw, hall⟩ := hrel
    by_cases hp : pos < s.size
    · have hnx := fun ty => run_next_any_at (P := Tryd.prog) wr w.heap.size s pos ty hh hp
      go_wp2_with (go_at_call 104; refine (isPathRune_any _ _).mono ?_; rintro e w1 ⟨b, rfl, hbt, hb1⟩)
      · have hbf : b = false := by simpa using ‹(!b) = true›
        have hno : ¬ PathB ((Utf8.decode s pos).1 : Int) := fun h => by rw [hbt.2 h] at hbf; cases hbf
        go_ret
        exact BoolIs.no (rune_no (fun _ => path_small) s pos hp hno) (iter_step hh hbw hb1).2
      · have hbf : b = true := by simpa using ‹(!b) = false›
        obtain ⟨hv, hone⟩ := rune_ok (fun _ => path_small) s pos hp (hbt.1 hbf)
        rw [hone] at hb1
        obtain ⟨h1, h2⟩ := iter_step hh hbw hb1
        exact ⟨⟨pos + 1, h1, h2, allTo_succ hall.out hp hv⟩, by rw [iterPos_of h1, iterPos_of hh]; omega⟩
    · have hnx := fun ty => run_next_end_at (P := Tryd.prog) wr w.heap.size s pos ty hh hp
      go_wp2
      go_ret
      exact BoolIs.yes (allTo_end hall.out hp) hbw

set_option maxHeartbeats 1000000 in
theorem pathOk_any (s : ByteArray) (w : World) (hs : s.size ≤ maxLen) :
    Calls Tryd.prog 102 #[.string s] w fun e w' => BoolIs (PathOk s) w e w' := by
  unfold maxLen at hs
  by_cases h1 : (1 : Int) ≤ (s.size : Int)
  · have h0 : 0 < s.size := by omega
    by_cases h2 : (s.size : Int) ≤ 60
    · by_cases h3 : ((s[0]'h0).toNat : Int) = 47
      · have h4 : (((s[0]'h0).toNat : Int) == 47) = true := by rw [beq_iff_eq]; exact h3
        have H3 : Hid ((s[0]'h0).toNat = 47) := by show _ = _; omega
        clear h3
        go_enter Tryd.func102, Tryd.ntmps102
        go_wp2_with fail
        refine (allRunes_path s _).mono ?_
        rintro e w1 ⟨b, rfl, hbt, hb1⟩
        cases b
        · have HN : Hid (¬ PathOk s) := fun h => by have := hbt.2 h.1; cases this
          clear hbt
          go_wp2_with fail
          go_ret
          exact BoolIs.no HN.out hb1
        · have HY : Hid (PathOk s) := ⟨hbt.1 rfl, by omega, by omega, h0, H3.out⟩
          clear hbt
          go_wp2_with fail
          go_ret
          exact BoolIs.yes HY.out hb1
      · have h4 : (((s[0]'h0).toNat : Int) == 47) = false := by rw [beq_eq_false_iff_ne]; exact h3
        have HN : Hid (¬ PathOk s) := fun h => by obtain ⟨_, _, _, _, h5⟩ := h; omega
        clear h3
        go_enter Tryd.func102, Tryd.ntmps102
        go_wp2_with fail
        go_ret
        exact BoolIs.no HN.out (Below.refl _ _)
    · have HN : Hid (¬ PathOk s) := fun h => by obtain ⟨_, _, h5, _⟩ := h; omega
      have hd : decide ((s.size : Int) ≤ 60) = false := by simpa using h2
      go_enter Tryd.func102, Tryd.ntmps102
      go_wp2_with fail
      go_ret
      exact BoolIs.no HN.out (Below.refl _ _)
  · have HN : Hid (¬ PathOk s) := fun h => by obtain ⟨_, h5, _⟩ := h; omega
    have hd : decide ((1 : Int) ≤ (s.size : Int)) = false := by simpa using h1
    go_enter Tryd.func102, Tryd.ntmps102
    go_wp2_with fail
    go_ret
    exact BoolIs.no HN.out (Below.refl _ _)

end Go.Proofs.YtlmenolcgaakeaaDoor

namespace Go.Proofs.YtlmenolcgaakeaaDoor
open Go.RowKit
open Go.Lib hiding intOf

set_option maxHeartbeats 8000000 in
set_option maxRecDepth 100000 in
theorem ruleOf_1 (a b : ByteArray) (t : Int) (w : World) :
    Calls Tryd.prog 23 #[.agg #[.int .i64 1, .string a, .string b, .int .i64 t]] w fun e w' => e = .returned (.iface 67 (.agg #[.string a])) ∧ Below w.heap.size w w' := by
  have hb0 : Below w.heap.size w w := Below.refl _ _
  go_enter Tryd.func23, Tryd.ntmps23
  go_upto_region 1 with fail
  obtain ⟨qv1, hqv1⟩ : ∃ q, q = (w).heap.size := ⟨_, rfl⟩
  obtain ⟨w1, hW1⟩ : ∃ W, W = (w).alloc (.cells #[.int .i64 1, .string a, .string b, .int .i64 t] 25) := ⟨_, rfl⟩
  have hz1 : (w).heap.size = qv1 := hqv1.symm
  first | rw [← hW1, ← hqv1] | rw [← hW1]
  have hs1 : w1.heap.size = qv1 + 1 := by rw [hW1, ← hz1]; simp
  have bw : Below (w).heap.size (w) w1 := by rw [hW1]; exact (Below.refl _ _).alloc (Nat.le_refl _) _
  have hb1 : Below w.heap.size w (w1) := hb0.trans (bw.mono hb0.size)
  have HM1 : Hid ((w).heap.size ≤ (w1).heap.size) := bw.size
  have HBv1_1 : Hid ((w1).heap[qv1]? = some (.cells #[.int .i64 1, .string a, .string b, .int .i64 t] 25)) := by show _ = _; rw [hW1, ← hz1]; exact heap_alloc_new _ _
  have HGv1 : Hid (w.heap.size ≤ qv1) := by show _ ≤ _; rw [← hz1]; exact hb0.size
  clear hb0 bw hW1 hz1
  clear hs1 hqv1
  have cv1_0 : (w1).cell? ⟨qv1, 0, none⟩ = some (.int .i64 1) := (cell_of HBv1_1.out 0).trans rfl
  have cv1_1 : (w1).cell? ⟨qv1, 1, none⟩ = some (.string a) := (cell_of HBv1_1.out 1).trans rfl
  go_wp2_with fail
  go_ret
  exact ⟨rfl, hb1⟩

set_option maxHeartbeats 8000000 in
set_option maxRecDepth 100000 in
theorem ruleOf_2 (a b : ByteArray) (t : Int) (w : World) :
    Calls Tryd.prog 23 #[.agg #[.int .i64 2, .string a, .string b, .int .i64 t]] w fun e w' => e = .returned (.iface 69 (.agg #[.string a])) ∧ Below w.heap.size w w' := by
  have hb0 : Below w.heap.size w w := Below.refl _ _
  go_enter Tryd.func23, Tryd.ntmps23
  go_upto_region 1 with fail
  obtain ⟨qv1, hqv1⟩ : ∃ q, q = (w).heap.size := ⟨_, rfl⟩
  obtain ⟨w1, hW1⟩ : ∃ W, W = (w).alloc (.cells #[.int .i64 2, .string a, .string b, .int .i64 t] 25) := ⟨_, rfl⟩
  have hz1 : (w).heap.size = qv1 := hqv1.symm
  first | rw [← hW1, ← hqv1] | rw [← hW1]
  have hs1 : w1.heap.size = qv1 + 1 := by rw [hW1, ← hz1]; simp
  have bw : Below (w).heap.size (w) w1 := by rw [hW1]; exact (Below.refl _ _).alloc (Nat.le_refl _) _
  have hb1 : Below w.heap.size w (w1) := hb0.trans (bw.mono hb0.size)
  have HM1 : Hid ((w).heap.size ≤ (w1).heap.size) := bw.size
  have HBv1_1 : Hid ((w1).heap[qv1]? = some (.cells #[.int .i64 2, .string a, .string b, .int .i64 t] 25)) := by show _ = _; rw [hW1, ← hz1]; exact heap_alloc_new _ _
  have HGv1 : Hid (w.heap.size ≤ qv1) := by show _ ≤ _; rw [← hz1]; exact hb0.size
  clear hb0 bw hW1 hz1
  clear hs1 hqv1
  have cv1_0 : (w1).cell? ⟨qv1, 0, none⟩ = some (.int .i64 2) := (cell_of HBv1_1.out 0).trans rfl
  have cv1_1 : (w1).cell? ⟨qv1, 1, none⟩ = some (.string a) := (cell_of HBv1_1.out 1).trans rfl
  go_wp2_with fail
  go_ret
  exact ⟨rfl, hb1⟩

set_option maxHeartbeats 8000000 in
set_option maxRecDepth 100000 in
theorem ruleOf_3 (a b : ByteArray) (t : Int) (w : World) :
    Calls Tryd.prog 23 #[.agg #[.int .i64 3, .string a, .string b, .int .i64 t]] w fun e w' => e = .returned (.iface 71 (.agg #[.string a, .string b])) ∧ Below w.heap.size w w' := by
  have hb0 : Below w.heap.size w w := Below.refl _ _
  go_enter Tryd.func23, Tryd.ntmps23
  go_upto_region 1 with fail
  obtain ⟨qv1, hqv1⟩ : ∃ q, q = (w).heap.size := ⟨_, rfl⟩
  obtain ⟨w1, hW1⟩ : ∃ W, W = (w).alloc (.cells #[.int .i64 3, .string a, .string b, .int .i64 t] 25) := ⟨_, rfl⟩
  have hz1 : (w).heap.size = qv1 := hqv1.symm
  first | rw [← hW1, ← hqv1] | rw [← hW1]
  have hs1 : w1.heap.size = qv1 + 1 := by rw [hW1, ← hz1]; simp
  have bw : Below (w).heap.size (w) w1 := by rw [hW1]; exact (Below.refl _ _).alloc (Nat.le_refl _) _
  have hb1 : Below w.heap.size w (w1) := hb0.trans (bw.mono hb0.size)
  have HM1 : Hid ((w).heap.size ≤ (w1).heap.size) := bw.size
  have HBv1_1 : Hid ((w1).heap[qv1]? = some (.cells #[.int .i64 3, .string a, .string b, .int .i64 t] 25)) := by show _ = _; rw [hW1, ← hz1]; exact heap_alloc_new _ _
  have HGv1 : Hid (w.heap.size ≤ qv1) := by show _ ≤ _; rw [← hz1]; exact hb0.size
  clear hb0 bw hW1 hz1
  clear hs1 hqv1
  have cv1_0 : (w1).cell? ⟨qv1, 0, none⟩ = some (.int .i64 3) := (cell_of HBv1_1.out 0).trans rfl
  have cv1_1 : (w1).cell? ⟨qv1, 1, none⟩ = some (.string a) := (cell_of HBv1_1.out 1).trans rfl
  have cv1_2 : (w1).cell? ⟨qv1, 2, none⟩ = some (.string b) := (cell_of HBv1_1.out 2).trans rfl
  go_wp2_with fail
  go_ret
  exact ⟨rfl, hb1⟩

set_option maxHeartbeats 8000000 in
set_option maxRecDepth 100000 in
theorem ruleOf_no (k : Int) (a b : ByteArray) (t : Int) (w : World) (h1 : ¬ k = 1) (h2 : ¬ k = 2) (h3 : ¬ k = 3) :
    Calls Tryd.prog 23 #[.agg #[.int .i64 k, .string a, .string b, .int .i64 t]] w fun e w' => e = .returned .nilIface ∧ Below w.heap.size w w' := by
  have hk1 : ((k : Int) == (1 : Int)) = false := by simpa using h1
  have hk2 : ((k : Int) == (2 : Int)) = false := by simpa using h2
  have hk3 : ((k : Int) == (3 : Int)) = false := by simpa using h3
  clear h1 h2 h3
  have hb0 : Below w.heap.size w w := Below.refl _ _
  go_enter Tryd.func23, Tryd.ntmps23
  go_upto_region 1 with fail
  obtain ⟨qv1, hqv1⟩ : ∃ q, q = (w).heap.size := ⟨_, rfl⟩
  obtain ⟨w1, hW1⟩ : ∃ W, W = (w).alloc (.cells #[.int .i64 k, .string a, .string b, .int .i64 t] 25) := ⟨_, rfl⟩
  have hz1 : (w).heap.size = qv1 := hqv1.symm
  first | rw [← hW1, ← hqv1] | rw [← hW1]
  have hs1 : w1.heap.size = qv1 + 1 := by rw [hW1, ← hz1]; simp
  have bw : Below (w).heap.size (w) w1 := by rw [hW1]; exact (Below.refl _ _).alloc (Nat.le_refl _) _
  have hb1 : Below w.heap.size w (w1) := hb0.trans (bw.mono hb0.size)
  have HM1 : Hid ((w).heap.size ≤ (w1).heap.size) := bw.size
  have HBv1_1 : Hid ((w1).heap[qv1]? = some (.cells #[.int .i64 k, .string a, .string b, .int .i64 t] 25)) := by show _ = _; rw [hW1, ← hz1]; exact heap_alloc_new _ _
  have HGv1 : Hid (w.heap.size ≤ qv1) := by show _ ≤ _; rw [← hz1]; exact hb0.size
  clear hb0 bw hW1 hz1
  clear hs1 hqv1
  have cv1_0 : (w1).cell? ⟨qv1, 0, none⟩ = some (.int .i64 k) := (cell_of HBv1_1.out 0).trans rfl
  go_wp2_with fail
  go_ret
  exact ⟨rfl, hb1⟩

set_option maxHeartbeats 8000000 in
set_option maxRecDepth 100000 in
theorem banOf_1 (a : ByteArray) (t : Int) (w : World) :
    Calls Tryd.prog 25 #[.iface 67 (.agg #[.string a]), .int .i64 t] w fun e w' => e = .returned (.agg #[.int .i64 1, .string a, .string ⟨#[]⟩, .int .i64 t]) ∧ Below w.heap.size w w' := by
  have hta1 : ∀ W : World, (Instr.typeAssert (.iface 67 (.agg #[.string a])) 44 67 true).run Tryd.prog W = .ok (.tuple #[.agg #[.string a], .bool true]) W := fun _ => by kernel_rfl
  have hta2 : ∀ W : World, (Instr.typeAssert (.iface 67 (.agg #[.string a])) 44 69 true).run Tryd.prog W = .ok (.tuple #[.agg #[.string ⟨#[]⟩], .bool false]) W := fun _ => by kernel_rfl
  have hta3 : ∀ W : World, (Instr.typeAssert (.iface 67 (.agg #[.string a])) 44 71 true).run Tryd.prog W = .ok (.tuple #[.agg #[.string ⟨#[]⟩, .string ⟨#[]⟩], .bool false]) W := fun _ => by kernel_rfl
  have hb0 : Below w.heap.size w w := Below.refl _ _
  go_enter Tryd.func25, Tryd.ntmps25
  go_upto_region 1 with fail
  obtain ⟨qv1, hqv1⟩ : ∃ q, q = (w).heap.size := ⟨_, rfl⟩
  obtain ⟨w1, hW1⟩ : ∃ W, W = (w).alloc (.cells #[.int .i64 0, .string ⟨#[]⟩, .string ⟨#[]⟩, .int .i64 0] 25) := ⟨_, rfl⟩
  have hz1 : (w).heap.size = qv1 := hqv1.symm
  first | rw [← hW1, ← hqv1] | rw [← hW1]
  have hs1 : w1.heap.size = qv1 + 1 := by rw [hW1, ← hz1]; simp
  have bw : Below (w).heap.size (w) w1 := by rw [hW1]; exact (Below.refl _ _).alloc (Nat.le_refl _) _
  have hb1 : Below w.heap.size w (w1) := hb0.trans (bw.mono hb0.size)
  have HM1 : Hid ((w).heap.size ≤ (w1).heap.size) := bw.size
  have HBv1_1 : Hid ((w1).heap[qv1]? = some (.cells #[.int .i64 0, .string ⟨#[]⟩, .string ⟨#[]⟩, .int .i64 0] 25)) := by show _ = _; rw [hW1, ← hz1]; exact heap_alloc_new _ _
  have HGv1 : Hid (w.heap.size ≤ qv1) := by show _ ≤ _; rw [← hz1]; exact hb0.size
  clear hb0 bw hW1 hz1
  clear hs1 hqv1
  go_upto_region 4 with fail
  obtain ⟨qv2, hqv2⟩ : ∃ q, q = (w1).heap.size := ⟨_, rfl⟩
  obtain ⟨w2, hW2⟩ : ∃ W, W = (w1).alloc (.cells #[.string a] 67) := ⟨_, rfl⟩
  have hz2 : (w1).heap.size = qv2 := hqv2.symm
  first | rw [← hW2, ← hqv2] | rw [← hW2]
  have hs2 : w2.heap.size = qv2 + 1 := by rw [hW2, ← hz2]; simp
  have bw : Below (w1).heap.size (w1) w2 := by rw [hW2]; exact (Below.refl _ _).alloc (Nat.le_refl _) _
  have hb2 : Below w.heap.size w (w2) := hb1.trans (bw.mono hb1.size)
  have HM2 : Hid ((w1).heap.size ≤ (w2).heap.size) := bw.size
  have HBv1_2 : Hid ((w2).heap[qv1]? = some (.cells #[.int .i64 0, .string ⟨#[]⟩, .string ⟨#[]⟩, .int .i64 0] 25)) := blk_below HBv1_1.out bw
  have HNv1v2 : Hid (qv1 ≠ qv2) := fun e => by have h1 := (Array.getElem?_eq_some_iff.1 HBv1_1.out).1; omega
  have HBv2_2 : Hid ((w2).heap[qv2]? = some (.cells #[.string a] 67)) := by show _ = _; rw [hW2, ← hz2]; exact heap_alloc_new _ _
  have HGv2 : Hid (w.heap.size ≤ qv2) := by show _ ≤ _; rw [← hz2]; exact hb1.size
  clear hb1 HBv1_1 bw hW2 hz2
  clear hs2 hqv2
  have cv1_0 : (w2).cell? ⟨qv1, 0, none⟩ = some (.int .i64 0) := (cell_of HBv1_2.out 0).trans rfl
  have fcv1_0 : (w2).frozen? ⟨qv1, 0, none⟩ = false := frozen_of HBv1_2.out 0
  have cv1_1 : (w2).cell? ⟨qv1, 1, none⟩ = some (.string ⟨#[]⟩) := (cell_of HBv1_2.out 1).trans rfl
  have fcv1_1 : (w2).frozen? ⟨qv1, 1, none⟩ = false := frozen_of HBv1_2.out 1
  have cv1_2 : (w2).cell? ⟨qv1, 2, none⟩ = some (.string ⟨#[]⟩) := (cell_of HBv1_2.out 2).trans rfl
  have fcv1_2 : (w2).frozen? ⟨qv1, 2, none⟩ = false := frozen_of HBv1_2.out 2
  have cv1_3 : (w2).cell? ⟨qv1, 3, none⟩ = some (.int .i64 0) := (cell_of HBv1_2.out 3).trans rfl
  have fcv1_3 : (w2).frozen? ⟨qv1, 3, none⟩ = false := frozen_of HBv1_2.out 3
  have cv2_0 : (w2).cell? ⟨qv2, 0, none⟩ = some (.string a) := (cell_of HBv2_2.out 0).trans rfl
  go_wp2_with fail
  obtain ⟨w3, hW3⟩ : ∃ W, W = (w2).setCell ⟨qv1, 0, none⟩ (.int .i64 1) := ⟨_, rfl⟩
  rw [← hW3]
  have hb3 : Below w.heap.size w (w3) := by rw [hW3]; exact (hb2.setCell (p := ⟨qv1, 0, none⟩) HGv1.out _)
  have HM3 : Hid ((w2).heap.size ≤ w3.heap.size) := by show _ ≤ _; rw [hW3]; simp
  have HBv2_3 : Hid ((w3).heap[qv2]? = some (.cells #[.string a] 67)) := by show _ = _; rw [hW3, heap_setCell_other _ _ _ _ HNv1v2.out.symm]; exact HBv2_2.out
  have HBv1_3 : Hid ((w3).heap[qv1]? = some (.cells #[.int .i64 1, .string ⟨#[]⟩, .string ⟨#[]⟩, .int .i64 0] 25)) := by show _ = _; rw [hW3]; have h := heap_set _ _ 0 _ _ _ (.int .i64 1) HBv1_2.out; simpa using h
  clear hb2 HBv1_2 HBv2_2 hW3
  obtain ⟨w4, hW4⟩ : ∃ W, W = (w3).setCell ⟨qv1, 1, none⟩ (.string a) := ⟨_, rfl⟩
  rw [← hW4]
  have hb4 : Below w.heap.size w (w4) := by rw [hW4]; exact (hb3.setCell (p := ⟨qv1, 1, none⟩) HGv1.out _)
  have HM4 : Hid ((w3).heap.size ≤ w4.heap.size) := by show _ ≤ _; rw [hW4]; simp
  have HBv2_4 : Hid ((w4).heap[qv2]? = some (.cells #[.string a] 67)) := by show _ = _; rw [hW4, heap_setCell_other _ _ _ _ HNv1v2.out.symm]; exact HBv2_3.out
  have HBv1_4 : Hid ((w4).heap[qv1]? = some (.cells #[.int .i64 1, .string a, .string ⟨#[]⟩, .int .i64 0] 25)) := by show _ = _; rw [hW4]; have h := heap_set _ _ 1 _ _ _ (.string a) HBv1_3.out; simpa using h
  clear hb3 HBv1_3 HBv2_3 hW4
  obtain ⟨w5, hW5⟩ : ∃ W, W = (w4).setCell ⟨qv1, 2, none⟩ (.string ⟨#[]⟩) := ⟨_, rfl⟩
  rw [← hW5]
  have hb5 : Below w.heap.size w (w5) := by rw [hW5]; exact (hb4.setCell (p := ⟨qv1, 2, none⟩) HGv1.out _)
  have HM5 : Hid ((w4).heap.size ≤ w5.heap.size) := by show _ ≤ _; rw [hW5]; simp
  have HBv2_5 : Hid ((w5).heap[qv2]? = some (.cells #[.string a] 67)) := by show _ = _; rw [hW5, heap_setCell_other _ _ _ _ HNv1v2.out.symm]; exact HBv2_4.out
  have HBv1_5 : Hid ((w5).heap[qv1]? = some (.cells #[.int .i64 1, .string a, .string ⟨#[]⟩, .int .i64 0] 25)) := by show _ = _; rw [hW5]; have h := heap_set _ _ 2 _ _ _ (.string ⟨#[]⟩) HBv1_4.out; simpa using h
  clear hb4 HBv1_4 HBv2_4 hW5
  obtain ⟨w6, hW6⟩ : ∃ W, W = (w5).setCell ⟨qv1, 3, none⟩ (.int .i64 t) := ⟨_, rfl⟩
  rw [← hW6]
  have hb6 : Below w.heap.size w (w6) := by rw [hW6]; exact (hb5.setCell (p := ⟨qv1, 3, none⟩) HGv1.out _)
  have HM6 : Hid ((w5).heap.size ≤ w6.heap.size) := by show _ ≤ _; rw [hW6]; simp
  have HBv2_6 : Hid ((w6).heap[qv2]? = some (.cells #[.string a] 67)) := by show _ = _; rw [hW6, heap_setCell_other _ _ _ _ HNv1v2.out.symm]; exact HBv2_5.out
  have HBv1_6 : Hid ((w6).heap[qv1]? = some (.cells #[.int .i64 1, .string a, .string ⟨#[]⟩, .int .i64 t] 25)) := by show _ = _; rw [hW6]; have h := heap_set _ _ 3 _ _ _ (.int .i64 t) HBv1_5.out; simpa using h
  clear hb5 HBv1_5 HBv2_5 hW6
  have kv1_0 : (w6).cell? ⟨qv1, 0, none⟩ = some (.int .i64 1) := (cell_of HBv1_6.out 0).trans rfl
  have kv1_1 : (w6).cell? ⟨qv1, 1, none⟩ = some (.string a) := (cell_of HBv1_6.out 1).trans rfl
  have kv1_2 : (w6).cell? ⟨qv1, 2, none⟩ = some (.string ⟨#[]⟩) := (cell_of HBv1_6.out 2).trans rfl
  have kv1_3 : (w6).cell? ⟨qv1, 3, none⟩ = some (.int .i64 t) := (cell_of HBv1_6.out 3).trans rfl
  refine bodyPost_ret (v := .agg #[.int .i64 1, .string a, .string ⟨#[]⟩, .int .i64 t]) (by simp [results, Tryd.results25, go_sem, kv1_0, kv1_1, kv1_2, kv1_3]) rfl ?_
  exact ⟨rfl, hb6⟩

set_option maxHeartbeats 8000000 in
set_option maxRecDepth 100000 in
theorem banOf_2 (a : ByteArray) (t : Int) (w : World) :
    Calls Tryd.prog 25 #[.iface 69 (.agg #[.string a]), .int .i64 t] w fun e w' => e = .returned (.agg #[.int .i64 2, .string a, .string ⟨#[]⟩, .int .i64 t]) ∧ Below w.heap.size w w' := by
  have hta1 : ∀ W : World, (Instr.typeAssert (.iface 69 (.agg #[.string a])) 44 67 true).run Tryd.prog W = .ok (.tuple #[.agg #[.string ⟨#[]⟩], .bool false]) W := fun _ => by kernel_rfl
  have hta2 : ∀ W : World, (Instr.typeAssert (.iface 69 (.agg #[.string a])) 44 69 true).run Tryd.prog W = .ok (.tuple #[.agg #[.string a], .bool true]) W := fun _ => by kernel_rfl
  have hta3 : ∀ W : World, (Instr.typeAssert (.iface 69 (.agg #[.string a])) 44 71 true).run Tryd.prog W = .ok (.tuple #[.agg #[.string ⟨#[]⟩, .string ⟨#[]⟩], .bool false]) W := fun _ => by kernel_rfl
  have hb0 : Below w.heap.size w w := Below.refl _ _
  go_enter Tryd.func25, Tryd.ntmps25
  go_upto_region 1 with fail
  obtain ⟨qv1, hqv1⟩ : ∃ q, q = (w).heap.size := ⟨_, rfl⟩
  obtain ⟨w1, hW1⟩ : ∃ W, W = (w).alloc (.cells #[.int .i64 0, .string ⟨#[]⟩, .string ⟨#[]⟩, .int .i64 0] 25) := ⟨_, rfl⟩
  have hz1 : (w).heap.size = qv1 := hqv1.symm
  first | rw [← hW1, ← hqv1] | rw [← hW1]
  have hs1 : w1.heap.size = qv1 + 1 := by rw [hW1, ← hz1]; simp
  have bw : Below (w).heap.size (w) w1 := by rw [hW1]; exact (Below.refl _ _).alloc (Nat.le_refl _) _
  have hb1 : Below w.heap.size w (w1) := hb0.trans (bw.mono hb0.size)
  have HM1 : Hid ((w).heap.size ≤ (w1).heap.size) := bw.size
  have HBv1_1 : Hid ((w1).heap[qv1]? = some (.cells #[.int .i64 0, .string ⟨#[]⟩, .string ⟨#[]⟩, .int .i64 0] 25)) := by show _ = _; rw [hW1, ← hz1]; exact heap_alloc_new _ _
  have HGv1 : Hid (w.heap.size ≤ qv1) := by show _ ≤ _; rw [← hz1]; exact hb0.size
  clear hb0 bw hW1 hz1
  clear hs1 hqv1
  go_upto_region 7 with fail
  obtain ⟨qv2, hqv2⟩ : ∃ q, q = (w1).heap.size := ⟨_, rfl⟩
  obtain ⟨w2, hW2⟩ : ∃ W, W = (w1).alloc (.cells #[.string a] 69) := ⟨_, rfl⟩
  have hz2 : (w1).heap.size = qv2 := hqv2.symm
  first | rw [← hW2, ← hqv2] | rw [← hW2]
  have hs2 : w2.heap.size = qv2 + 1 := by rw [hW2, ← hz2]; simp
  have bw : Below (w1).heap.size (w1) w2 := by rw [hW2]; exact (Below.refl _ _).alloc (Nat.le_refl _) _
  have hb2 : Below w.heap.size w (w2) := hb1.trans (bw.mono hb1.size)
  have HM2 : Hid ((w1).heap.size ≤ (w2).heap.size) := bw.size
  have HBv1_2 : Hid ((w2).heap[qv1]? = some (.cells #[.int .i64 0, .string ⟨#[]⟩, .string ⟨#[]⟩, .int .i64 0] 25)) := blk_below HBv1_1.out bw
  have HNv1v2 : Hid (qv1 ≠ qv2) := fun e => by have h1 := (Array.getElem?_eq_some_iff.1 HBv1_1.out).1; omega
  have HBv2_2 : Hid ((w2).heap[qv2]? = some (.cells #[.string a] 69)) := by show _ = _; rw [hW2, ← hz2]; exact heap_alloc_new _ _
  have HGv2 : Hid (w.heap.size ≤ qv2) := by show _ ≤ _; rw [← hz2]; exact hb1.size
  clear hb1 HBv1_1 bw hW2 hz2
  clear hs2 hqv2
  have cv1_0 : (w2).cell? ⟨qv1, 0, none⟩ = some (.int .i64 0) := (cell_of HBv1_2.out 0).trans rfl
  have fcv1_0 : (w2).frozen? ⟨qv1, 0, none⟩ = false := frozen_of HBv1_2.out 0
  have cv1_1 : (w2).cell? ⟨qv1, 1, none⟩ = some (.string ⟨#[]⟩) := (cell_of HBv1_2.out 1).trans rfl
  have fcv1_1 : (w2).frozen? ⟨qv1, 1, none⟩ = false := frozen_of HBv1_2.out 1
  have cv1_2 : (w2).cell? ⟨qv1, 2, none⟩ = some (.string ⟨#[]⟩) := (cell_of HBv1_2.out 2).trans rfl
  have fcv1_2 : (w2).frozen? ⟨qv1, 2, none⟩ = false := frozen_of HBv1_2.out 2
  have cv1_3 : (w2).cell? ⟨qv1, 3, none⟩ = some (.int .i64 0) := (cell_of HBv1_2.out 3).trans rfl
  have fcv1_3 : (w2).frozen? ⟨qv1, 3, none⟩ = false := frozen_of HBv1_2.out 3
  have cv2_0 : (w2).cell? ⟨qv2, 0, none⟩ = some (.string a) := (cell_of HBv2_2.out 0).trans rfl
  go_wp2_with fail
  obtain ⟨w3, hW3⟩ : ∃ W, W = (w2).setCell ⟨qv1, 0, none⟩ (.int .i64 2) := ⟨_, rfl⟩
  rw [← hW3]
  have hb3 : Below w.heap.size w (w3) := by rw [hW3]; exact (hb2.setCell (p := ⟨qv1, 0, none⟩) HGv1.out _)
  have HM3 : Hid ((w2).heap.size ≤ w3.heap.size) := by show _ ≤ _; rw [hW3]; simp
  have HBv2_3 : Hid ((w3).heap[qv2]? = some (.cells #[.string a] 69)) := by show _ = _; rw [hW3, heap_setCell_other _ _ _ _ HNv1v2.out.symm]; exact HBv2_2.out
  have HBv1_3 : Hid ((w3).heap[qv1]? = some (.cells #[.int .i64 2, .string ⟨#[]⟩, .string ⟨#[]⟩, .int .i64 0] 25)) := by show _ = _; rw [hW3]; have h := heap_set _ _ 0 _ _ _ (.int .i64 2) HBv1_2.out; simpa using h
  clear hb2 HBv1_2 HBv2_2 hW3
  obtain ⟨w4, hW4⟩ : ∃ W, W = (w3).setCell ⟨qv1, 1, none⟩ (.string a) := ⟨_, rfl⟩
  rw [← hW4]
  have hb4 : Below w.heap.size w (w4) := by rw [hW4]; exact (hb3.setCell (p := ⟨qv1, 1, none⟩) HGv1.out _)
  have HM4 : Hid ((w3).heap.size ≤ w4.heap.size) := by show _ ≤ _; rw [hW4]; simp
  have HBv2_4 : Hid ((w4).heap[qv2]? = some (.cells #[.string a] 69)) := by show _ = _; rw [hW4, heap_setCell_other _ _ _ _ HNv1v2.out.symm]; exact HBv2_3.out
  have HBv1_4 : Hid ((w4).heap[qv1]? = some (.cells #[.int .i64 2, .string a, .string ⟨#[]⟩, .int .i64 0] 25)) := by show _ = _; rw [hW4]; have h := heap_set _ _ 1 _ _ _ (.string a) HBv1_3.out; simpa using h
  clear hb3 HBv1_3 HBv2_3 hW4
  obtain ⟨w5, hW5⟩ : ∃ W, W = (w4).setCell ⟨qv1, 2, none⟩ (.string ⟨#[]⟩) := ⟨_, rfl⟩
  rw [← hW5]
  have hb5 : Below w.heap.size w (w5) := by rw [hW5]; exact (hb4.setCell (p := ⟨qv1, 2, none⟩) HGv1.out _)
  have HM5 : Hid ((w4).heap.size ≤ w5.heap.size) := by show _ ≤ _; rw [hW5]; simp
  have HBv2_5 : Hid ((w5).heap[qv2]? = some (.cells #[.string a] 69)) := by show _ = _; rw [hW5, heap_setCell_other _ _ _ _ HNv1v2.out.symm]; exact HBv2_4.out
  have HBv1_5 : Hid ((w5).heap[qv1]? = some (.cells #[.int .i64 2, .string a, .string ⟨#[]⟩, .int .i64 0] 25)) := by show _ = _; rw [hW5]; have h := heap_set _ _ 2 _ _ _ (.string ⟨#[]⟩) HBv1_4.out; simpa using h
  clear hb4 HBv1_4 HBv2_4 hW5
  obtain ⟨w6, hW6⟩ : ∃ W, W = (w5).setCell ⟨qv1, 3, none⟩ (.int .i64 t) := ⟨_, rfl⟩
  rw [← hW6]
  have hb6 : Below w.heap.size w (w6) := by rw [hW6]; exact (hb5.setCell (p := ⟨qv1, 3, none⟩) HGv1.out _)
  have HM6 : Hid ((w5).heap.size ≤ w6.heap.size) := by show _ ≤ _; rw [hW6]; simp
  have HBv2_6 : Hid ((w6).heap[qv2]? = some (.cells #[.string a] 69)) := by show _ = _; rw [hW6, heap_setCell_other _ _ _ _ HNv1v2.out.symm]; exact HBv2_5.out
  have HBv1_6 : Hid ((w6).heap[qv1]? = some (.cells #[.int .i64 2, .string a, .string ⟨#[]⟩, .int .i64 t] 25)) := by show _ = _; rw [hW6]; have h := heap_set _ _ 3 _ _ _ (.int .i64 t) HBv1_5.out; simpa using h
  clear hb5 HBv1_5 HBv2_5 hW6
  have kv1_0 : (w6).cell? ⟨qv1, 0, none⟩ = some (.int .i64 2) := (cell_of HBv1_6.out 0).trans rfl
  have kv1_1 : (w6).cell? ⟨qv1, 1, none⟩ = some (.string a) := (cell_of HBv1_6.out 1).trans rfl
  have kv1_2 : (w6).cell? ⟨qv1, 2, none⟩ = some (.string ⟨#[]⟩) := (cell_of HBv1_6.out 2).trans rfl
  have kv1_3 : (w6).cell? ⟨qv1, 3, none⟩ = some (.int .i64 t) := (cell_of HBv1_6.out 3).trans rfl
  refine bodyPost_ret (v := .agg #[.int .i64 2, .string a, .string ⟨#[]⟩, .int .i64 t]) (by simp [results, Tryd.results25, go_sem, kv1_0, kv1_1, kv1_2, kv1_3]) rfl ?_
  exact ⟨rfl, hb6⟩

set_option maxHeartbeats 8000000 in
set_option maxRecDepth 100000 in
theorem banOf_3 (a b : ByteArray) (t : Int) (w : World) :
    Calls Tryd.prog 25 #[.iface 71 (.agg #[.string a, .string b]), .int .i64 t] w fun e w' => e = .returned (.agg #[.int .i64 3, .string a, .string b, .int .i64 t]) ∧ Below w.heap.size w w' := by
  have hta1 : ∀ W : World, (Instr.typeAssert (.iface 71 (.agg #[.string a, .string b])) 44 67 true).run Tryd.prog W = .ok (.tuple #[.agg #[.string ⟨#[]⟩], .bool false]) W := fun _ => by kernel_rfl
  have hta2 : ∀ W : World, (Instr.typeAssert (.iface 71 (.agg #[.string a, .string b])) 44 69 true).run Tryd.prog W = .ok (.tuple #[.agg #[.string ⟨#[]⟩], .bool false]) W := fun _ => by kernel_rfl
  have hta3 : ∀ W : World, (Instr.typeAssert (.iface 71 (.agg #[.string a, .string b])) 44 71 true).run Tryd.prog W = .ok (.tuple #[.agg #[.string a, .string b], .bool true]) W := fun _ => by kernel_rfl
  have hb0 : Below w.heap.size w w := Below.refl _ _
  go_enter Tryd.func25, Tryd.ntmps25
  go_upto_region 1 with fail
  obtain ⟨qv1, hqv1⟩ : ∃ q, q = (w).heap.size := ⟨_, rfl⟩
  obtain ⟨w1, hW1⟩ : ∃ W, W = (w).alloc (.cells #[.int .i64 0, .string ⟨#[]⟩, .string ⟨#[]⟩, .int .i64 0] 25) := ⟨_, rfl⟩
  have hz1 : (w).heap.size = qv1 := hqv1.symm
  first | rw [← hW1, ← hqv1] | rw [← hW1]
  have hs1 : w1.heap.size = qv1 + 1 := by rw [hW1, ← hz1]; simp
  have bw : Below (w).heap.size (w) w1 := by rw [hW1]; exact (Below.refl _ _).alloc (Nat.le_refl _) _
  have hb1 : Below w.heap.size w (w1) := hb0.trans (bw.mono hb0.size)
  have HM1 : Hid ((w).heap.size ≤ (w1).heap.size) := bw.size
  have HBv1_1 : Hid ((w1).heap[qv1]? = some (.cells #[.int .i64 0, .string ⟨#[]⟩, .string ⟨#[]⟩, .int .i64 0] 25)) := by show _ = _; rw [hW1, ← hz1]; exact heap_alloc_new _ _
  have HGv1 : Hid (w.heap.size ≤ qv1) := by show _ ≤ _; rw [← hz1]; exact hb0.size
  clear hb0 bw hW1 hz1
  clear hs1 hqv1
  go_upto_region 10 with fail
  obtain ⟨qv2, hqv2⟩ : ∃ q, q = (w1).heap.size := ⟨_, rfl⟩
  obtain ⟨w2, hW2⟩ : ∃ W, W = (w1).alloc (.cells #[.string a, .string b] 71) := ⟨_, rfl⟩
  have hz2 : (w1).heap.size = qv2 := hqv2.symm
  first | rw [← hW2, ← hqv2] | rw [← hW2]
  have hs2 : w2.heap.size = qv2 + 1 := by rw [hW2, ← hz2]; simp
  have bw : Below (w1).heap.size (w1) w2 := by rw [hW2]; exact (Below.refl _ _).alloc (Nat.le_refl _) _
  have hb2 : Below w.heap.size w (w2) := hb1.trans (bw.mono hb1.size)
  have HM2 : Hid ((w1).heap.size ≤ (w2).heap.size) := bw.size
  have HBv1_2 : Hid ((w2).heap[qv1]? = some (.cells #[.int .i64 0, .string ⟨#[]⟩, .string ⟨#[]⟩, .int .i64 0] 25)) := blk_below HBv1_1.out bw
  have HNv1v2 : Hid (qv1 ≠ qv2) := fun e => by have h1 := (Array.getElem?_eq_some_iff.1 HBv1_1.out).1; omega
  have HBv2_2 : Hid ((w2).heap[qv2]? = some (.cells #[.string a, .string b] 71)) := by show _ = _; rw [hW2, ← hz2]; exact heap_alloc_new _ _
  have HGv2 : Hid (w.heap.size ≤ qv2) := by show _ ≤ _; rw [← hz2]; exact hb1.size
  clear hb1 HBv1_1 bw hW2 hz2
  clear hs2 hqv2
  have cv1_0 : (w2).cell? ⟨qv1, 0, none⟩ = some (.int .i64 0) := (cell_of HBv1_2.out 0).trans rfl
  have fcv1_0 : (w2).frozen? ⟨qv1, 0, none⟩ = false := frozen_of HBv1_2.out 0
  have cv1_1 : (w2).cell? ⟨qv1, 1, none⟩ = some (.string ⟨#[]⟩) := (cell_of HBv1_2.out 1).trans rfl
  have fcv1_1 : (w2).frozen? ⟨qv1, 1, none⟩ = false := frozen_of HBv1_2.out 1
  have cv1_2 : (w2).cell? ⟨qv1, 2, none⟩ = some (.string ⟨#[]⟩) := (cell_of HBv1_2.out 2).trans rfl
  have fcv1_2 : (w2).frozen? ⟨qv1, 2, none⟩ = false := frozen_of HBv1_2.out 2
  have cv1_3 : (w2).cell? ⟨qv1, 3, none⟩ = some (.int .i64 0) := (cell_of HBv1_2.out 3).trans rfl
  have fcv1_3 : (w2).frozen? ⟨qv1, 3, none⟩ = false := frozen_of HBv1_2.out 3
  have cv2_0 : (w2).cell? ⟨qv2, 0, none⟩ = some (.string a) := (cell_of HBv2_2.out 0).trans rfl
  have cv2_1 : (w2).cell? ⟨qv2, 1, none⟩ = some (.string b) := (cell_of HBv2_2.out 1).trans rfl
  go_wp2_with fail
  obtain ⟨w3, hW3⟩ : ∃ W, W = (w2).setCell ⟨qv1, 0, none⟩ (.int .i64 3) := ⟨_, rfl⟩
  rw [← hW3]
  have hb3 : Below w.heap.size w (w3) := by rw [hW3]; exact (hb2.setCell (p := ⟨qv1, 0, none⟩) HGv1.out _)
  have HM3 : Hid ((w2).heap.size ≤ w3.heap.size) := by show _ ≤ _; rw [hW3]; simp
  have HBv2_3 : Hid ((w3).heap[qv2]? = some (.cells #[.string a, .string b] 71)) := by show _ = _; rw [hW3, heap_setCell_other _ _ _ _ HNv1v2.out.symm]; exact HBv2_2.out
  have HBv1_3 : Hid ((w3).heap[qv1]? = some (.cells #[.int .i64 3, .string ⟨#[]⟩, .string ⟨#[]⟩, .int .i64 0] 25)) := by show _ = _; rw [hW3]; have h := heap_set _ _ 0 _ _ _ (.int .i64 3) HBv1_2.out; simpa using h
  clear hb2 HBv1_2 HBv2_2 hW3
  obtain ⟨w4, hW4⟩ : ∃ W, W = (w3).setCell ⟨qv1, 1, none⟩ (.string a) := ⟨_, rfl⟩
  rw [← hW4]
  have hb4 : Below w.heap.size w (w4) := by rw [hW4]; exact (hb3.setCell (p := ⟨qv1, 1, none⟩) HGv1.out _)
  have HM4 : Hid ((w3).heap.size ≤ w4.heap.size) := by show _ ≤ _; rw [hW4]; simp
  have HBv2_4 : Hid ((w4).heap[qv2]? = some (.cells #[.string a, .string b] 71)) := by show _ = _; rw [hW4, heap_setCell_other _ _ _ _ HNv1v2.out.symm]; exact HBv2_3.out
  have HBv1_4 : Hid ((w4).heap[qv1]? = some (.cells #[.int .i64 3, .string a, .string ⟨#[]⟩, .int .i64 0] 25)) := by show _ = _; rw [hW4]; have h := heap_set _ _ 1 _ _ _ (.string a) HBv1_3.out; simpa using h
  clear hb3 HBv1_3 HBv2_3 hW4
  obtain ⟨w5, hW5⟩ : ∃ W, W = (w4).setCell ⟨qv1, 2, none⟩ (.string b) := ⟨_, rfl⟩
  rw [← hW5]
  have hb5 : Below w.heap.size w (w5) := by rw [hW5]; exact (hb4.setCell (p := ⟨qv1, 2, none⟩) HGv1.out _)
  have HM5 : Hid ((w4).heap.size ≤ w5.heap.size) := by show _ ≤ _; rw [hW5]; simp
  have HBv2_5 : Hid ((w5).heap[qv2]? = some (.cells #[.string a, .string b] 71)) := by show _ = _; rw [hW5, heap_setCell_other _ _ _ _ HNv1v2.out.symm]; exact HBv2_4.out
  have HBv1_5 : Hid ((w5).heap[qv1]? = some (.cells #[.int .i64 3, .string a, .string b, .int .i64 0] 25)) := by show _ = _; rw [hW5]; have h := heap_set _ _ 2 _ _ _ (.string b) HBv1_4.out; simpa using h
  clear hb4 HBv1_4 HBv2_4 hW5
  obtain ⟨w6, hW6⟩ : ∃ W, W = (w5).setCell ⟨qv1, 3, none⟩ (.int .i64 t) := ⟨_, rfl⟩
  rw [← hW6]
  have hb6 : Below w.heap.size w (w6) := by rw [hW6]; exact (hb5.setCell (p := ⟨qv1, 3, none⟩) HGv1.out _)
  have HM6 : Hid ((w5).heap.size ≤ w6.heap.size) := by show _ ≤ _; rw [hW6]; simp
  have HBv2_6 : Hid ((w6).heap[qv2]? = some (.cells #[.string a, .string b] 71)) := by show _ = _; rw [hW6, heap_setCell_other _ _ _ _ HNv1v2.out.symm]; exact HBv2_5.out
  have HBv1_6 : Hid ((w6).heap[qv1]? = some (.cells #[.int .i64 3, .string a, .string b, .int .i64 t] 25)) := by show _ = _; rw [hW6]; have h := heap_set _ _ 3 _ _ _ (.int .i64 t) HBv1_5.out; simpa using h
  clear hb5 HBv1_5 HBv2_5 hW6
  have kv1_0 : (w6).cell? ⟨qv1, 0, none⟩ = some (.int .i64 3) := (cell_of HBv1_6.out 0).trans rfl
  have kv1_1 : (w6).cell? ⟨qv1, 1, none⟩ = some (.string a) := (cell_of HBv1_6.out 1).trans rfl
  have kv1_2 : (w6).cell? ⟨qv1, 2, none⟩ = some (.string b) := (cell_of HBv1_6.out 2).trans rfl
  have kv1_3 : (w6).cell? ⟨qv1, 3, none⟩ = some (.int .i64 t) := (cell_of HBv1_6.out 3).trans rfl
  refine bodyPost_ret (v := .agg #[.int .i64 3, .string a, .string b, .int .i64 t]) (by simp [results, Tryd.results25, go_sem, kv1_0, kv1_1, kv1_2, kv1_3]) rfl ?_
  exact ⟨rfl, hb6⟩

set_option maxHeartbeats 8000000 in
set_option maxRecDepth 100000 in
theorem right_1 (a : ByteArray) (w : World) (ha : a.size ≤ maxLen) :
    Calls Tryd.prog 101 #[.agg #[.string a]] w fun e w' => BoolIs (PathOk a) w e w' := by
  have HAM : Hid (a.size ≤ maxLen) := ha
  clear ha
  have hb0 : Below w.heap.size w w := Below.refl _ _
  go_enter Tryd.func101, Tryd.ntmps101
  go_upto_region 1 with fail
  obtain ⟨qv1, hqv1⟩ : ∃ q, q = (w).heap.size := ⟨_, rfl⟩
  obtain ⟨w1, hW1⟩ : ∃ W, W = (w).alloc (.cells #[.string a] 67) := ⟨_, rfl⟩
  have hz1 : (w).heap.size = qv1 := hqv1.symm
  first | rw [← hW1, ← hqv1] | rw [← hW1]
  have hs1 : w1.heap.size = qv1 + 1 := by rw [hW1, ← hz1]; simp
  have bw : Below (w).heap.size (w) w1 := by rw [hW1]; exact (Below.refl _ _).alloc (Nat.le_refl _) _
  have hb1 : Below w.heap.size w (w1) := hb0.trans (bw.mono hb0.size)
  have HM1 : Hid ((w).heap.size ≤ (w1).heap.size) := bw.size
  have HBv1_1 : Hid ((w1).heap[qv1]? = some (.cells #[.string a] 67)) := by show _ = _; rw [hW1, ← hz1]; exact heap_alloc_new _ _
  have HGv1 : Hid (w.heap.size ≤ qv1) := by show _ ≤ _; rw [← hz1]; exact hb0.size
  clear hb0 bw hW1 hz1
  clear hs1 hqv1
  have cv1_0 : (w1).cell? ⟨qv1, 0, none⟩ = some (.string a) := (cell_of HBv1_1.out 0).trans rfl
  go_wp2_with fail
  refine (pathOk_any a _ HAM.out).mono ?_
  rintro e w2 ⟨u, rfl, htu, bw⟩
  have hb2 : Below w.heap.size w (w2) := hb1.trans (bw.mono hb1.size)
  have HM2 : Hid ((w1).heap.size ≤ (w2).heap.size) := bw.size
  have HBv1_2 : Hid ((w2).heap[qv1]? = some (.cells #[.string a] 67)) := blk_below HBv1_1.out bw
  clear hb1 HBv1_1 bw
  clear cv1_0
  go_wp2_with fail
  go_ret
  exact ⟨u, rfl, htu, hb2⟩

set_option maxHeartbeats 8000000 in
set_option maxRecDepth 100000 in
theorem right_2 (a : ByteArray) (w : World) (ha : a.size ≤ maxLen) :
    Calls Tryd.prog 106 #[.agg #[.string a]] w fun e w' => BoolIs (PathOk a) w e w' := by
  have HAM : Hid (a.size ≤ maxLen) := ha
  clear ha
  have hb0 : Below w.heap.size w w := Below.refl _ _
  go_enter Tryd.func106, Tryd.ntmps106
  go_upto_region 1 with fail
  obtain ⟨qv1, hqv1⟩ : ∃ q, q = (w).heap.size := ⟨_, rfl⟩
  obtain ⟨w1, hW1⟩ : ∃ W, W = (w).alloc (.cells #[.string a] 69) := ⟨_, rfl⟩
  have hz1 : (w).heap.size = qv1 := hqv1.symm
  first | rw [← hW1, ← hqv1] | rw [← hW1]
  have hs1 : w1.heap.size = qv1 + 1 := by rw [hW1, ← hz1]; simp
  have bw : Below (w).heap.size (w) w1 := by rw [hW1]; exact (Below.refl _ _).alloc (Nat.le_refl _) _
  have hb1 : Below w.heap.size w (w1) := hb0.trans (bw.mono hb0.size)
  have HM1 : Hid ((w).heap.size ≤ (w1).heap.size) := bw.size
  have HBv1_1 : Hid ((w1).heap[qv1]? = some (.cells #[.string a] 69)) := by show _ = _; rw [hW1, ← hz1]; exact heap_alloc_new _ _
  have HGv1 : Hid (w.heap.size ≤ qv1) := by show _ ≤ _; rw [← hz1]; exact hb0.size
  clear hb0 bw hW1 hz1
  clear hs1 hqv1
  have cv1_0 : (w1).cell? ⟨qv1, 0, none⟩ = some (.string a) := (cell_of HBv1_1.out 0).trans rfl
  go_wp2_with fail
  refine (pathOk_any a _ HAM.out).mono ?_
  rintro e w2 ⟨u, rfl, htu, bw⟩
  have hb2 : Below w.heap.size w (w2) := hb1.trans (bw.mono hb1.size)
  have HM2 : Hid ((w1).heap.size ≤ (w2).heap.size) := bw.size
  have HBv1_2 : Hid ((w2).heap[qv1]? = some (.cells #[.string a] 69)) := blk_below HBv1_1.out bw
  clear hb1 HBv1_1 bw
  clear cv1_0
  go_wp2_with fail
  go_ret
  exact ⟨u, rfl, htu, hb2⟩

set_option maxHeartbeats 8000000 in
set_option maxRecDepth 100000 in
theorem right_3 (a b : ByteArray) (w : World) (ha : a.size ≤ maxLen) (hb : b.size ≤ maxLen) :
    Calls Tryd.prog 108 #[.agg #[.string a, .string b]] w fun e w' => BoolIs (TokOk a ∧ ValOk b) w e w' := by
  have HAM : Hid (a.size ≤ maxLen) := ha
  have HBM : Hid (b.size ≤ maxLen) := hb
  clear ha hb
  have hb0 : Below w.heap.size w w := Below.refl _ _
  go_enter Tryd.func108, Tryd.ntmps108
  go_upto_region 1 with fail
  obtain ⟨qv1, hqv1⟩ : ∃ q, q = (w).heap.size := ⟨_, rfl⟩
  obtain ⟨w1, hW1⟩ : ∃ W, W = (w).alloc (.cells #[.string a, .string b] 71) := ⟨_, rfl⟩
  have hz1 : (w).heap.size = qv1 := hqv1.symm
  first | rw [← hW1, ← hqv1] | rw [← hW1]
  have hs1 : w1.heap.size = qv1 + 1 := by rw [hW1, ← hz1]; simp
  have bw : Below (w).heap.size (w) w1 := by rw [hW1]; exact (Below.refl _ _).alloc (Nat.le_refl _) _
  have hb1 : Below w.heap.size w (w1) := hb0.trans (bw.mono hb0.size)
  have HM1 : Hid ((w).heap.size ≤ (w1).heap.size) := bw.size
  have HBv1_1 : Hid ((w1).heap[qv1]? = some (.cells #[.string a, .string b] 71)) := by show _ = _; rw [hW1, ← hz1]; exact heap_alloc_new _ _
  have HGv1 : Hid (w.heap.size ≤ qv1) := by show _ ≤ _; rw [← hz1]; exact hb0.size
  clear hb0 bw hW1 hz1
  clear hs1 hqv1
  have cv1_0 : (w1).cell? ⟨qv1, 0, none⟩ = some (.string a) := (cell_of HBv1_1.out 0).trans rfl
  go_wp2_with fail
  refine (implTokenOk_any a _ HAM.out).mono ?_
  rintro e w2 ⟨u, rfl, htu, bw⟩
  have hb2 : Below w.heap.size w (w2) := hb1.trans (bw.mono hb1.size)
  have HM2 : Hid ((w1).heap.size ≤ (w2).heap.size) := bw.size
  have HBv1_2 : Hid ((w2).heap[qv1]? = some (.cells #[.string a, .string b] 71)) := blk_below HBv1_1.out bw
  clear hb1 HBv1_1 bw
  clear cv1_0
  cases u with
  | false =>
    have HU : Hid (¬ TokOk a) := fun h => nomatch htu.2 h
    clear htu
    go_wp2_with fail
    go_ret
    exact ⟨false, rfl, ⟨fun h => (by cases h), fun h => absurd h.1 HU.out⟩, hb2⟩
  | true =>
    have HU : Hid (TokOk a) := htu.1 rfl
    clear htu
    have cv1_1 : (w2).cell? ⟨qv1, 1, none⟩ = some (.string b) := (cell_of HBv1_2.out 1).trans rfl
    go_wp2_with fail
    refine (implValueOk_any b _ HBM.out).mono ?_
    rintro e w3 ⟨v, rfl, htv, bw⟩
    have hb3 : Below w.heap.size w (w3) := hb2.trans (bw.mono hb2.size)
    have HM3 : Hid ((w2).heap.size ≤ (w3).heap.size) := bw.size
    have HBv1_3 : Hid ((w3).heap[qv1]? = some (.cells #[.string a, .string b] 71)) := blk_below HBv1_2.out bw
    clear hb2 HBv1_2 bw
    clear cv1_1
    go_wp2_with fail
    go_ret
    exact ⟨v, rfl, ⟨fun h => ⟨HU.out, htv.1 h⟩, fun h => htv.2 h.2⟩, hb3⟩

end Go.Proofs.YtlmenolcgaakeaaDoor

namespace Go.Proofs.YtlmenolcgaakeaaDoor
open Go.RowKit
open Go.Lib hiding intOf

theorem timeOk_any (t : Int) (w : World) :
    Calls Tryd.prog 24 #[.int .i64 t] w fun e w' => e = .returned (.bool (decide ((0 : Int) ≤ t ∧ t ≤ 1000000))) ∧ w' = w := by
  obtain ⟨D, hD⟩ : ∃ D, D = decide ((0 : Int) ≤ t ∧ t ≤ 1000000) := ⟨_, rfl⟩
  rw [← hD]
  by_cases h1 : 0 ≤ t
  · by_cases h2 : t ≤ 1000000
    · have HD : Hid (D = true) := by show _ = _; rw [hD]; exact decide_eq_true ⟨h1, h2⟩
      clear hD
      go_enter Tryd.func24, Tryd.ntmps24
      go_wp2
      go_ret
      exact ⟨by rw [HD.out]; rfl, rfl⟩
    · have HD : Hid (D = false) := by show _ = _; rw [hD]; exact decide_eq_false (fun h => h2 h.2)
      clear hD
      go_enter Tryd.func24, Tryd.ntmps24
      go_wp2
      go_ret
      exact ⟨by rw [HD.out]; rfl, rfl⟩
  · have HD : Hid (D = false) := by show _ = _; rw [hD]; exact decide_eq_false (fun h => h1 h.1)
    clear hD
    go_enter Tryd.func24, Tryd.ntmps24
    go_wp2
    go_ret
    exact ⟨by rw [HD.out]; rfl, rfl⟩

end Go.Proofs.YtlmenolcgaakeaaDoor

namespace Go.Proofs.YtlmenolcgaakeaaDoor
open Go.RowKit
open Go.Lib hiding intOf

theorem guardBan : Tryd.prog.eqGuardType Tryd.prog.depth 25 = false := by kernel_rfl
open Classical in
theorem eqBanIn (k k' : Int) (a a' b b' : ByteArray) (t t' : Int) (w : World) : (Op.equalIn 10000 25 (.agg #[.int .i64 k, .string a, .string b, .int .i64 t]) (.agg #[.int .i64 k', .string a', .string b', .int .i64 t'])).run Tryd.prog w = .ok (decide (k = k' ∧ a = a' ∧ b = b' ∧ t = t')) w := by
  have u3 := Tryd.underlying3
  have a3 := Tryd.isAgg3
  have z3 := Tryd.sizeOf3
  have u9 := Tryd.underlying9
  have a9 := Tryd.isAgg9
  have z9 := Tryd.sizeOf9
  have hS : Tryd.prog.underlying 25 = some (.struct (Tryd.prog.fieldsOf 25)) := by kernel_rfl
  have hp : Tryd.prog.stoodInHeld 25 = false := by kernel_rfl
  rw [show (10000 : Nat) = 9999 + 1 from rfl, run_equalIn_agg w 9999 25 _ _ hS hp]
  simp only [Program.fieldsOf, Tryd.underlying25]
  have ea : ∀ x y : ByteArray, (x.toList == y.toList) = decide (x = y) := fun x y => by
    by_cases h : x = y
    · rw [decide_eq_true h]; exact (text_beq _ _).2 h
    · rw [decide_eq_false h]; exact text_beq_no h
  go_simp
  by_cases h1 : k = k'
  · by_cases h2 : a = a'
    · by_cases h3 : b = b'
      · by_cases h4 : t = t'
        · simp [h1, h2, h3, h4]
        · simp [h1, h2, h3, h4]
      · simp [h1, h2, h3]
    · simp [h1, h2]
  · simp [h1]
open Classical in
theorem eqlBan (k k' : Int) (a a' b b' : ByteArray) (t t' : Int) (w : World) : (binOp .eql 25 (.agg #[.int .i64 k, .string a, .string b, .int .i64 t]) (.agg #[.int .i64 k', .string a', .string b', .int .i64 t'])).run Tryd.prog w = .ok (.bool (decide (k = k' ∧ a = a' ∧ b = b' ∧ t = t'))) w := by
  rw [run_eql_struct, eqBanIn]
  rfl
open Classical in
theorem neqBan (k k' : Int) (a a' b b' : ByteArray) (t t' : Int) (w : World) : (binOp .neq 25 (.agg #[.int .i64 k, .string a, .string b, .int .i64 t]) (.agg #[.int .i64 k', .string a', .string b', .int .i64 t'])).run Tryd.prog w = .ok (.bool (!(decide (k = k' ∧ a = a' ∧ b = b' ∧ t = t')))) w := by
  rw [run_neq_struct, eqBanIn]
  rfl

set_option maxHeartbeats 8000000 in
set_option maxRecDepth 100000 in
theorem implBanOk_1e (a : ByteArray) (t : Int) (w : World) (ha : a.size ≤ maxLen) :
    Calls Tryd.prog 10 #[.agg #[.int .i64 1, .string a, .string ⟨#[]⟩, .int .i64 t]] w fun e w' => BoolIs (BanP 1 a ⟨#[]⟩ t) w e w' := by
  classical
  have HAM : Hid (a.size ≤ maxLen) := ha
  have hnn : ∀ W : World, (binOp .neq 44 (.iface 67 (.agg #[.string a])) .nilIface).run Tryd.prog W = .ok (.bool true) W := fun _ => by kernel_rfl
  have hna : ∀ W : World, (nilAhead 157 67 (.agg #[.string a]) "loop.example/g00239/impl.right").run Tryd.prog W = .ok (some false) W := fun _ => by kernel_rfl
  have hmt : ∀ W : World, (method 157 67 (.agg #[.string a]) "loop.example/g00239/impl.right").run Tryd.prog W = .ok (101, .agg #[.string a]) W := fun _ => by kernel_rfl
  have hgb := guardBan
  have hqe : ∀ W : World, (binOp .eql 25 (.agg #[.int .i64 1, .string a, .string ⟨#[]⟩, .int .i64 t]) (.agg #[.int .i64 1, .string a, .string ⟨#[]⟩, .int .i64 t])).run Tryd.prog W = .ok (.bool true) W := fun W => by
    rw [eqlBan]
    first | (simp; done) | (have z := HB0.out; simp; exact fun e => z e.symm)
  clear ha
  have hb0 : Below w.heap.size w w := Below.refl _ _
  go_enter Tryd.func10, Tryd.ntmps10
  go_upto_region 1 with fail
  obtain ⟨qv1, hqv1⟩ : ∃ q, q = (w).heap.size := ⟨_, rfl⟩
  obtain ⟨w1, hW1⟩ : ∃ W, W = (w).alloc (.cells #[.int .i64 1, .string a, .string ⟨#[]⟩, .int .i64 t] 25) := ⟨_, rfl⟩
  have hz1 : (w).heap.size = qv1 := hqv1.symm
  first | rw [← hW1, ← hqv1] | rw [← hW1]
  have hs1 : w1.heap.size = qv1 + 1 := by rw [hW1, ← hz1]; simp
  have bw : Below (w).heap.size (w) w1 := by rw [hW1]; exact (Below.refl _ _).alloc (Nat.le_refl _) _
  have hb1 : Below w.heap.size w (w1) := hb0.trans (bw.mono hb0.size)
  have HM1 : Hid ((w).heap.size ≤ (w1).heap.size) := bw.size
  have HBv1_1 : Hid ((w1).heap[qv1]? = some (.cells #[.int .i64 1, .string a, .string ⟨#[]⟩, .int .i64 t] 25)) := by show _ = _; rw [hW1, ← hz1]; exact heap_alloc_new _ _
  have HGv1 : Hid (w.heap.size ≤ qv1) := by show _ ≤ _; rw [← hz1]; exact hb0.size
  clear hb0 bw hW1 hz1
  clear hs1 hqv1
  have cv1_0 : (w1).cell? ⟨qv1, 0, none⟩ = some (.int .i64 1) := (cell_of HBv1_1.out 0).trans rfl
  have cv1_1 : (w1).cell? ⟨qv1, 1, none⟩ = some (.string a) := (cell_of HBv1_1.out 1).trans rfl
  have cv1_2 : (w1).cell? ⟨qv1, 2, none⟩ = some (.string ⟨#[]⟩) := (cell_of HBv1_1.out 2).trans rfl
  have cv1_3 : (w1).cell? ⟨qv1, 3, none⟩ = some (.int .i64 t) := (cell_of HBv1_1.out 3).trans rfl
  go_wp2_with fail
  refine (ruleOf_1 a ⟨#[]⟩ t _).mono ?_
  rintro e w2 ⟨rfl, bw⟩
  have hb2 : Below w.heap.size w (w2) := hb1.trans (bw.mono hb1.size)
  have HM2 : Hid ((w1).heap.size ≤ (w2).heap.size) := bw.size
  have HBv1_2 : Hid ((w2).heap[qv1]? = some (.cells #[.int .i64 1, .string a, .string ⟨#[]⟩, .int .i64 t] 25)) := blk_below HBv1_1.out bw
  clear hb1 HBv1_1 bw
  clear cv1_0 cv1_1 cv1_2 cv1_3
  go_upto_region 2 with fail
  refine wp_region_held_drew (S := fun W => W.heap[qv1]? = some (.cells #[.int .i64 1, .string a, .string ⟨#[]⟩, .int .i64 t] 25)) (by kernel_rfl) HBv1_2.out (fun _ => ?_)
  obtain ⟨w3, hX⟩ : ∃ X, X = w2.drew := ⟨_, rfl⟩
  have bw : Below w2.heap.size w2 w3 := by rw [hX]; exact (Below.refl _ _).drew
  rw [← hX]
  have hb3 : Below w.heap.size w (w3) := hb2.trans (bw.mono hb2.size)
  have HM3 : Hid ((w2).heap.size ≤ (w3).heap.size) := bw.size
  have HBv1_3 : Hid ((w3).heap[qv1]? = some (.cells #[.int .i64 1, .string a, .string ⟨#[]⟩, .int .i64 t] 25)) := blk_below HBv1_2.out bw
  have hS3 : w3.heap[qv1]? = some (.cells #[.int .i64 1, .string a, .string ⟨#[]⟩, .int .i64 t] 25) := HBv1_3.out
  clear hb2 HBv1_2 bw hX
  refine wpAnyH_takeD (i := 0) (v := .iface 67 (.agg #[.string a])) (some 6) rfl rfl (by kernel_rfl) (by kernel_rfl) (by kernel_rfl) (fun _ _ _ h => h) (Or.inl ⟨by rfl, by intro W _; go_simp⟩) hS3 ?_
  simp only [Act.put, List.setIfInBounds_toArray, List.set_cons_zero, List.set_cons_succ]
  refine wpAnyH_takeD (i := 1) (v := .bool true) (some 7) rfl rfl (by kernel_rfl) (by kernel_rfl) (by kernel_rfl) (fun _ _ _ h => h) (Or.inl ⟨by rfl, by intro W _; go_simp⟩) hS3 ?_
  simp only [Act.put, List.setIfInBounds_toArray, List.set_cons_zero, List.set_cons_succ]
  refine wpAnyH_takeD (i := 2) (v := .bool true) (some 8) rfl rfl (by kernel_rfl) (by kernel_rfl) (by kernel_rfl) (fun _ _ _ h => h) (Or.inl ⟨by rfl, by intro W _; go_simp⟩) hS3 ?_
  simp only [Act.put, List.setIfInBounds_toArray, List.set_cons_zero, List.set_cons_succ]
  refine wpAnyH_takeD (i := 3) (v := .iface 67 (.agg #[.string a])) (some 9) rfl rfl (by kernel_rfl) (by kernel_rfl) (by kernel_rfl) (fun _ _ _ h => h) (Or.inl ⟨by rfl, by intro W _; go_simp⟩) hS3 ?_
  simp only [Act.put, List.setIfInBounds_toArray, List.set_cons_zero, List.set_cons_succ]
  refine wpAnyH_ready (rs := [4]) (by kernel_rfl) (by simp) ?_
  refine AllReadyH.cons rfl (fun K hK => ?_) AllReadyH.nil
  go_simp
  refine (right_1 a _ HAM.out).mono ?_
  rintro e w4 ⟨ur, rfl, htur, bw⟩
  have hb4 : Below w.heap.size w (w4) := hb3.trans (bw.mono hb3.size)
  have HM4 : Hid ((w3).heap.size ≤ (w4).heap.size) := bw.size
  have HBv1_4 : Hid ((w4).heap[qv1]? = some (.cells #[.int .i64 1, .string a, .string ⟨#[]⟩, .int .i64 t] 25)) := blk_below HBv1_3.out bw
  clear hb3 HBv1_3 bw
  have hS4 : w4.heap[qv1]? = some (.cells #[.int .i64 1, .string a, .string ⟨#[]⟩, .int .i64 t] 25) := HBv1_4.out
  refine hK.out _ _ hS4 (fun _ => ?_)
  clear hK K hS3
  refine wpAnyH_takeD (i := 5) (v := .bool ur) (some 11) rfl rfl (by kernel_rfl) (by kernel_rfl) (by kernel_rfl) (fun _ _ _ h => h) (Or.inl ⟨by rfl, by intro W _; go_simp⟩) hS4 ?_
  simp only [Act.put, List.setIfInBounds_toArray, List.set_cons_zero, List.set_cons_succ]
  refine wpAnyH_takeD (i := 6) (v := .bool ur) (some 12) rfl rfl (by kernel_rfl) (by kernel_rfl) (by kernel_rfl) (fun _ _ _ h => h) (Or.inl ⟨by rfl, by intro W _; go_simp⟩) hS4 ?_
  simp only [Act.put, List.setIfInBounds_toArray, List.set_cons_zero, List.set_cons_succ]
  cases ur with
  | false =>
    have Hur : Hid (¬ (PathOk a)) := fun h => nomatch htur.2 h
    clear htur
    refine wpAnyH_takeD (i := 7) (v := undef) (some 13) rfl rfl (by kernel_rfl) (by kernel_rfl) (by kernel_rfl) (fun _ _ _ h => h) (Or.inr ⟨by rfl, rfl⟩) hS4 ?_
    simp only [Act.put, List.setIfInBounds_toArray, List.set_cons_zero, List.set_cons_succ]
    refine wpAnyH_takeD (i := 8) (v := undef) (some 14) rfl rfl (by kernel_rfl) (by kernel_rfl) (by kernel_rfl) (fun _ _ _ h => h) (Or.inr ⟨by rfl, rfl⟩) hS4 ?_
    simp only [Act.put, List.setIfInBounds_toArray, List.set_cons_zero, List.set_cons_succ]
    refine wpAnyH_takeD (i := 9) (v := undef) (some 15) rfl rfl (by kernel_rfl) (by kernel_rfl) (by kernel_rfl) (fun _ _ _ h => h) (Or.inr ⟨by rfl, rfl⟩) hS4 ?_
    simp only [Act.put, List.setIfInBounds_toArray, List.set_cons_zero, List.set_cons_succ]
    refine wpAnyH_takeD (i := 10) (v := .bool false) (some 16) rfl rfl (by kernel_rfl) (by kernel_rfl) (by kernel_rfl) (fun _ _ _ h => h) (Or.inl ⟨by rfl, by intro W _; go_simp⟩) hS4 ?_
    simp only [Act.put, List.setIfInBounds_toArray, List.set_cons_zero, List.set_cons_succ]
    refine wpAnyH_takeD (i := 11) (v := .bool false) (some 17) rfl rfl (by kernel_rfl) (by kernel_rfl) (by kernel_rfl) (fun _ _ _ h => h) (Or.inl ⟨by rfl, by intro W _; go_simp⟩) hS4 ?_
    simp only [Act.put, List.setIfInBounds_toArray, List.set_cons_zero, List.set_cons_succ]
    refine wpAnyH_takeD (i := 12) (v := undef) (some 18) rfl rfl (by kernel_rfl) (by kernel_rfl) (by kernel_rfl) (fun _ _ _ h => h) (Or.inr ⟨by rfl, rfl⟩) hS4 ?_
    simp only [Act.put, List.setIfInBounds_toArray, List.set_cons_zero, List.set_cons_succ]
    refine wpAnyH_takeD (i := 13) (v := undef) (some 19) rfl rfl (by kernel_rfl) (by kernel_rfl) (by kernel_rfl) (fun _ _ _ h => h) (Or.inr ⟨by rfl, rfl⟩) hS4 ?_
    simp only [Act.put, List.setIfInBounds_toArray, List.set_cons_zero, List.set_cons_succ]
    refine wpAnyH_takeD (i := 14) (v := undef) (some 20) rfl rfl (by kernel_rfl) (by kernel_rfl) (by kernel_rfl) (fun _ _ _ h => h) (Or.inr ⟨by rfl, rfl⟩) hS4 ?_
    simp only [Act.put, List.setIfInBounds_toArray, List.set_cons_zero, List.set_cons_succ]
    refine wpAnyH_takeD (i := 15) (v := undef) (some 21) rfl rfl (by kernel_rfl) (by kernel_rfl) (by kernel_rfl) (fun _ _ _ h => h) (Or.inr ⟨by rfl, rfl⟩) hS4 ?_
    simp only [Act.put, List.setIfInBounds_toArray, List.set_cons_zero, List.set_cons_succ]
    refine wpAnyH_takeD (i := 16) (v := undef) (some 22) rfl rfl (by kernel_rfl) (by kernel_rfl) (by kernel_rfl) (fun _ _ _ h => h) (Or.inr ⟨by rfl, rfl⟩) hS4 ?_
    simp only [Act.put, List.setIfInBounds_toArray, List.set_cons_zero, List.set_cons_succ]
    refine wpAnyH_takeD (i := 17) (v := undef) (some 23) rfl rfl (by kernel_rfl) (by kernel_rfl) (by kernel_rfl) (fun _ _ _ h => h) (Or.inr ⟨by rfl, rfl⟩) hS4 ?_
    simp only [Act.put, List.setIfInBounds_toArray, List.set_cons_zero, List.set_cons_succ]
    refine wpAnyH_takeD (i := 18) (v := .bool false) (some 24) rfl rfl (by kernel_rfl) (by kernel_rfl) (by kernel_rfl) (fun _ _ _ h => h) (Or.inl ⟨by rfl, by intro W _; go_simp⟩) hS4 ?_
    simp only [Act.put, List.setIfInBounds_toArray, List.set_cons_zero, List.set_cons_succ]
    refine wpAnyH_takeD (i := 19) (v := .bool false) (some 2) rfl rfl (by kernel_rfl) (by kernel_rfl) (by kernel_rfl) (fun _ _ _ h => h) (Or.inl ⟨by rfl, by intro W _; go_simp⟩) hS4 ?_
    simp only [Act.put, List.setIfInBounds_toArray, List.set_cons_zero, List.set_cons_succ]
    clear hS4
    refine wpAnyH_done (by kernel_rfl) ?_ _
    go_wp2_with fail
    go_ret
    refine ⟨false, rfl, ?_, hb4⟩
    have zHur := Hur.out
    unfold BanP
    simp_all
  | true =>
    have Hur : Hid (PathOk a) := htur.1 rfl
    clear htur
    refine wpAnyH_takeD (i := 7) (v := .pointer (some ⟨qv1, 3, none⟩)) (some 13) rfl rfl (by kernel_rfl) (by kernel_rfl) (by kernel_rfl) (fun _ _ _ h => h) (Or.inl ⟨by rfl, by intro W _; go_simp⟩) hS4 ?_
    simp only [Act.put, List.setIfInBounds_toArray, List.set_cons_zero, List.set_cons_succ]
    refine wpAnyH_takeD (i := 8) (v := .int .i64 t) (some 14) rfl rfl (by kernel_rfl) (by kernel_rfl) (by kernel_rfl) (fun _ _ _ h => h) (Or.inl ⟨by rfl, by intro W hW; have hhv1 := hW; have y3 := (cell_of hhv1 3).trans rfl; go_simp⟩) hS4 ?_
    simp only [Act.put, List.setIfInBounds_toArray, List.set_cons_zero, List.set_cons_succ]
    refine wpAnyH_ready (rs := [9]) (by kernel_rfl) (by simp) ?_
    refine AllReadyH.cons rfl (fun K hK => ?_) AllReadyH.nil
    go_simp
    refine (timeOk_any t _).mono ?_
    rintro e w5 ⟨rfl, hwe⟩
    have bw : Below (w4).heap.size (w4) w5 := by rw [hwe]; exact Below.refl _ _
    clear hwe
    obtain ⟨ut, hut⟩ : ∃ u, u = decide ((0 : Int) ≤ t ∧ t ≤ 1000000) := ⟨_, rfl⟩
    rw [← hut]
    have hb5 : Below w.heap.size w (w5) := hb4.trans (bw.mono hb4.size)
    have HM5 : Hid ((w4).heap.size ≤ (w5).heap.size) := bw.size
    have HBv1_5 : Hid ((w5).heap[qv1]? = some (.cells #[.int .i64 1, .string a, .string ⟨#[]⟩, .int .i64 t] 25)) := blk_below HBv1_4.out bw
    clear hb4 HBv1_4 bw
    have hS5 : w5.heap[qv1]? = some (.cells #[.int .i64 1, .string a, .string ⟨#[]⟩, .int .i64 t] 25) := HBv1_5.out
    refine hK.out _ _ hS5 (fun _ => ?_)
    clear hK K hS4
    refine wpAnyH_takeD (i := 10) (v := .bool ut) (some 16) rfl rfl (by kernel_rfl) (by kernel_rfl) (by kernel_rfl) (fun _ _ _ h => h) (Or.inl ⟨by rfl, by intro W _; go_simp⟩) hS5 ?_
    simp only [Act.put, List.setIfInBounds_toArray, List.set_cons_zero, List.set_cons_succ]
    refine wpAnyH_takeD (i := 11) (v := .bool ut) (some 17) rfl rfl (by kernel_rfl) (by kernel_rfl) (by kernel_rfl) (fun _ _ _ h => h) (Or.inl ⟨by rfl, by intro W _; go_simp⟩) hS5 ?_
    simp only [Act.put, List.setIfInBounds_toArray, List.set_cons_zero, List.set_cons_succ]
    cases ut with
    | false =>
      have Hut : Hid (¬ (0 ≤ t ∧ t ≤ 1000000)) := (show ¬ (0 ≤ t ∧ t ≤ 1000000) from of_decide_eq_false hut.symm)
      clear hut
      refine wpAnyH_takeD (i := 12) (v := undef) (some 18) rfl rfl (by kernel_rfl) (by kernel_rfl) (by kernel_rfl) (fun _ _ _ h => h) (Or.inr ⟨by rfl, rfl⟩) hS5 ?_
      simp only [Act.put, List.setIfInBounds_toArray, List.set_cons_zero, List.set_cons_succ]
      refine wpAnyH_takeD (i := 13) (v := undef) (some 19) rfl rfl (by kernel_rfl) (by kernel_rfl) (by kernel_rfl) (fun _ _ _ h => h) (Or.inr ⟨by rfl, rfl⟩) hS5 ?_
      simp only [Act.put, List.setIfInBounds_toArray, List.set_cons_zero, List.set_cons_succ]
      refine wpAnyH_takeD (i := 14) (v := undef) (some 20) rfl rfl (by kernel_rfl) (by kernel_rfl) (by kernel_rfl) (fun _ _ _ h => h) (Or.inr ⟨by rfl, rfl⟩) hS5 ?_
      simp only [Act.put, List.setIfInBounds_toArray, List.set_cons_zero, List.set_cons_succ]
      refine wpAnyH_takeD (i := 15) (v := undef) (some 21) rfl rfl (by kernel_rfl) (by kernel_rfl) (by kernel_rfl) (fun _ _ _ h => h) (Or.inr ⟨by rfl, rfl⟩) hS5 ?_
      simp only [Act.put, List.setIfInBounds_toArray, List.set_cons_zero, List.set_cons_succ]
      refine wpAnyH_takeD (i := 16) (v := undef) (some 22) rfl rfl (by kernel_rfl) (by kernel_rfl) (by kernel_rfl) (fun _ _ _ h => h) (Or.inr ⟨by rfl, rfl⟩) hS5 ?_
      simp only [Act.put, List.setIfInBounds_toArray, List.set_cons_zero, List.set_cons_succ]
      refine wpAnyH_takeD (i := 17) (v := undef) (some 23) rfl rfl (by kernel_rfl) (by kernel_rfl) (by kernel_rfl) (fun _ _ _ h => h) (Or.inr ⟨by rfl, rfl⟩) hS5 ?_
      simp only [Act.put, List.setIfInBounds_toArray, List.set_cons_zero, List.set_cons_succ]
      refine wpAnyH_takeD (i := 18) (v := .bool false) (some 24) rfl rfl (by kernel_rfl) (by kernel_rfl) (by kernel_rfl) (fun _ _ _ h => h) (Or.inl ⟨by rfl, by intro W _; go_simp⟩) hS5 ?_
      simp only [Act.put, List.setIfInBounds_toArray, List.set_cons_zero, List.set_cons_succ]
      refine wpAnyH_takeD (i := 19) (v := .bool false) (some 2) rfl rfl (by kernel_rfl) (by kernel_rfl) (by kernel_rfl) (fun _ _ _ h => h) (Or.inl ⟨by rfl, by intro W _; go_simp⟩) hS5 ?_
      simp only [Act.put, List.setIfInBounds_toArray, List.set_cons_zero, List.set_cons_succ]
      clear hS5
      refine wpAnyH_done (by kernel_rfl) ?_ _
      go_wp2_with fail
      go_ret
      refine ⟨false, rfl, ?_, hb5⟩
      have zHur := Hur.out
      have zHut := Hut.out
      unfold BanP
      simp_all
    | true =>
      have Hut : Hid (0 ≤ t ∧ t ≤ 1000000) := (show 0 ≤ t ∧ t ≤ 1000000 from of_decide_eq_true hut.symm)
      clear hut
      refine wpAnyH_takeD (i := 12) (v := .iface 67 (.agg #[.string a])) (some 18) rfl rfl (by kernel_rfl) (by kernel_rfl) (by kernel_rfl) (fun _ _ _ h => h) (Or.inl ⟨by rfl, by intro W _; go_simp⟩) hS5 ?_
      simp only [Act.put, List.setIfInBounds_toArray, List.set_cons_zero, List.set_cons_succ]
      refine wpAnyH_takeD (i := 13) (v := .pointer (some ⟨qv1, 3, none⟩)) (some 19) rfl rfl (by kernel_rfl) (by kernel_rfl) (by kernel_rfl) (fun _ _ _ h => h) (Or.inl ⟨by rfl, by intro W _; go_simp⟩) hS5 ?_
      simp only [Act.put, List.setIfInBounds_toArray, List.set_cons_zero, List.set_cons_succ]
      refine wpAnyH_takeD (i := 14) (v := .int .i64 t) (some 20) rfl rfl (by kernel_rfl) (by kernel_rfl) (by kernel_rfl) (fun _ _ _ h => h) (Or.inl ⟨by rfl, by intro W hW; have hhv1 := hW; have y3 := (cell_of hhv1 3).trans rfl; go_simp⟩) hS5 ?_
      simp only [Act.put, List.setIfInBounds_toArray, List.set_cons_zero, List.set_cons_succ]
      refine wpAnyH_takeD (i := 16) (v := .agg #[.int .i64 1, .string a, .string ⟨#[]⟩, .int .i64 t]) (some 22) rfl rfl (by kernel_rfl) (by kernel_rfl) (by kernel_rfl) (fun _ _ _ h => h) (Or.inl ⟨by rfl, by intro W hW; have hhv1 := hW; have y0 := (cell_of hhv1 0).trans rfl; have y1 := (cell_of hhv1 1).trans rfl; have y2 := (cell_of hhv1 2).trans rfl; have y3 := (cell_of hhv1 3).trans rfl; go_simp⟩) hS5 ?_
      simp only [Act.put, List.setIfInBounds_toArray, List.set_cons_zero, List.set_cons_succ]
      refine wpAnyH_ready (rs := [15]) (by kernel_rfl) (by simp) ?_
      refine AllReadyH.cons rfl (fun K hK => ?_) AllReadyH.nil
      go_simp
      refine (banOf_1 a t _).mono ?_
      rintro e w6 ⟨rfl, bw⟩
      have hb6 : Below w.heap.size w (w6) := hb5.trans (bw.mono hb5.size)
      have HM6 : Hid ((w5).heap.size ≤ (w6).heap.size) := bw.size
      have HBv1_6 : Hid ((w6).heap[qv1]? = some (.cells #[.int .i64 1, .string a, .string ⟨#[]⟩, .int .i64 t] 25)) := blk_below HBv1_5.out bw
      clear hb5 HBv1_5 bw
      have hS6 : w6.heap[qv1]? = some (.cells #[.int .i64 1, .string a, .string ⟨#[]⟩, .int .i64 t] 25) := HBv1_6.out
      refine hK.out _ _ hS6 (fun _ => ?_)
      clear hK K hS5
      refine wpAnyH_takeD (i := 17) (v := .bool true) (some 23) rfl rfl (by kernel_rfl) (by kernel_rfl) (by kernel_rfl) (fun _ _ _ h => h) (Or.inl ⟨by rfl, by intro W _; go_simp⟩) hS6 ?_
      simp only [Act.put, List.setIfInBounds_toArray, List.set_cons_zero, List.set_cons_succ]
      refine wpAnyH_takeD (i := 18) (v := .bool true) (some 24) rfl rfl (by kernel_rfl) (by kernel_rfl) (by kernel_rfl) (fun _ _ _ h => h) (Or.inl ⟨by rfl, by intro W _; go_simp⟩) hS6 ?_
      simp only [Act.put, List.setIfInBounds_toArray, List.set_cons_zero, List.set_cons_succ]
      refine wpAnyH_takeD (i := 19) (v := .bool true) (some 2) rfl rfl (by kernel_rfl) (by kernel_rfl) (by kernel_rfl) (fun _ _ _ h => h) (Or.inl ⟨by rfl, by intro W _; go_simp⟩) hS6 ?_
      simp only [Act.put, List.setIfInBounds_toArray, List.set_cons_zero, List.set_cons_succ]
      clear hS6
      refine wpAnyH_done (by kernel_rfl) ?_ _
      go_wp2_with fail
      go_ret
      refine ⟨true, rfl, ?_, hb6⟩
      have zHur := Hur.out
      have zHut := Hut.out
      unfold BanP
      simp_all

set_option maxHeartbeats 8000000 in
set_option maxRecDepth 100000 in
theorem implBanOk_1n (a b : ByteArray) (t : Int) (w : World) (ha : a.size ≤ maxLen) (hb0 : ¬ b = ⟨#[]⟩) :
    Calls Tryd.prog 10 #[.agg #[.int .i64 1, .string a, .string b, .int .i64 t]] w fun e w' => BoolIs (BanP 1 a b t) w e w' := by
  classical
  have HAM : Hid (a.size ≤ maxLen) := ha
  have HB0 : Hid (¬ b = ⟨#[]⟩) := hb0
  have hnn : ∀ W : World, (binOp .neq 44 (.iface 67 (.agg #[.string a])) .nilIface).run Tryd.prog W = .ok (.bool true) W := fun _ => by kernel_rfl
  have hna : ∀ W : World, (nilAhead 157 67 (.agg #[.string a]) "loop.example/g00239/impl.right").run Tryd.prog W = .ok (some false) W := fun _ => by kernel_rfl
  have hmt : ∀ W : World, (method 157 67 (.agg #[.string a]) "loop.example/g00239/impl.right").run Tryd.prog W = .ok (101, .agg #[.string a]) W := fun _ => by kernel_rfl
  have hgb := guardBan
  have hqe : ∀ W : World, (binOp .eql 25 (.agg #[.int .i64 1, .string a, .string ⟨#[]⟩, .int .i64 t]) (.agg #[.int .i64 1, .string a, .string b, .int .i64 t])).run Tryd.prog W = .ok (.bool false) W := fun W => by
    rw [eqlBan]
    first | (simp; done) | (have z := HB0.out; simp; exact fun e => z e.symm)
  clear ha hb0
  have hb0 : Below w.heap.size w w := Below.refl _ _
  go_enter Tryd.func10, Tryd.ntmps10
  go_upto_region 1 with fail
  obtain ⟨qv1, hqv1⟩ : ∃ q, q = (w).heap.size := ⟨_, rfl⟩
  obtain ⟨w1, hW1⟩ : ∃ W, W = (w).alloc (.cells #[.int .i64 1, .string a, .string b, .int .i64 t] 25) := ⟨_, rfl⟩
  have hz1 : (w).heap.size = qv1 := hqv1.symm
  first | rw [← hW1, ← hqv1] | rw [← hW1]
  have hs1 : w1.heap.size = qv1 + 1 := by rw [hW1, ← hz1]; simp
  have bw : Below (w).heap.size (w) w1 := by rw [hW1]; exact (Below.refl _ _).alloc (Nat.le_refl _) _
  have hb1 : Below w.heap.size w (w1) := hb0.trans (bw.mono hb0.size)
  have HM1 : Hid ((w).heap.size ≤ (w1).heap.size) := bw.size
  have HBv1_1 : Hid ((w1).heap[qv1]? = some (.cells #[.int .i64 1, .string a, .string b, .int .i64 t] 25)) := by show _ = _; rw [hW1, ← hz1]; exact heap_alloc_new _ _
  have HGv1 : Hid (w.heap.size ≤ qv1) := by show _ ≤ _; rw [← hz1]; exact hb0.size
  clear hb0 bw hW1 hz1
  clear hs1 hqv1
  have cv1_0 : (w1).cell? ⟨qv1, 0, none⟩ = some (.int .i64 1) := (cell_of HBv1_1.out 0).trans rfl
  have cv1_1 : (w1).cell? ⟨qv1, 1, none⟩ = some (.string a) := (cell_of HBv1_1.out 1).trans rfl
  have cv1_2 : (w1).cell? ⟨qv1, 2, none⟩ = some (.string b) := (cell_of HBv1_1.out 2).trans rfl
  have cv1_3 : (w1).cell? ⟨qv1, 3, none⟩ = some (.int .i64 t) := (cell_of HBv1_1.out 3).trans rfl
  go_wp2_with fail
  refine (ruleOf_1 a b t _).mono ?_
  rintro e w2 ⟨rfl, bw⟩
  have hb2 : Below w.heap.size w (w2) := hb1.trans (bw.mono hb1.size)
  have HM2 : Hid ((w1).heap.size ≤ (w2).heap.size) := bw.size
  have HBv1_2 : Hid ((w2).heap[qv1]? = some (.cells #[.int .i64 1, .string a, .string b, .int .i64 t] 25)) := blk_below HBv1_1.out bw
  clear hb1 HBv1_1 bw
  clear cv1_0 cv1_1 cv1_2 cv1_3
  go_upto_region 2 with fail
  refine wp_region_held_drew (S := fun W => W.heap[qv1]? = some (.cells #[.int .i64 1, .string a, .string b, .int .i64 t] 25)) (by kernel_rfl) HBv1_2.out (fun _ => ?_)
  obtain ⟨w3, hX⟩ : ∃ X, X = w2.drew := ⟨_, rfl⟩
  have bw : Below w2.heap.size w2 w3 := by rw [hX]; exact (Below.refl _ _).drew
  rw [← hX]
  have hb3 : Below w.heap.size w (w3) := hb2.trans (bw.mono hb2.size)
  have HM3 : Hid ((w2).heap.size ≤ (w3).heap.size) := bw.size
  have HBv1_3 : Hid ((w3).heap[qv1]? = some (.cells #[.int .i64 1, .string a, .string b, .int .i64 t] 25)) := blk_below HBv1_2.out bw
  have hS3 : w3.heap[qv1]? = some (.cells #[.int .i64 1, .string a, .string b, .int .i64 t] 25) := HBv1_3.out
  clear hb2 HBv1_2 bw hX
  refine wpAnyH_takeD (i := 0) (v := .iface 67 (.agg #[.string a])) (some 6) rfl rfl (by kernel_rfl) (by kernel_rfl) (by kernel_rfl) (fun _ _ _ h => h) (Or.inl ⟨by rfl, by intro W _; go_simp⟩) hS3 ?_
  simp only [Act.put, List.setIfInBounds_toArray, List.set_cons_zero, List.set_cons_succ]
  refine wpAnyH_takeD (i := 1) (v := .bool true) (some 7) rfl rfl (by kernel_rfl) (by kernel_rfl) (by kernel_rfl) (fun _ _ _ h => h) (Or.inl ⟨by rfl, by intro W _; go_simp⟩) hS3 ?_
  simp only [Act.put, List.setIfInBounds_toArray, List.set_cons_zero, List.set_cons_succ]
  refine wpAnyH_takeD (i := 2) (v := .bool true) (some 8) rfl rfl (by kernel_rfl) (by kernel_rfl) (by kernel_rfl) (fun _ _ _ h => h) (Or.inl ⟨by rfl, by intro W _; go_simp⟩) hS3 ?_
  simp only [Act.put, List.setIfInBounds_toArray, List.set_cons_zero, List.set_cons_succ]
  refine wpAnyH_takeD (i := 3) (v := .iface 67 (.agg #[.string a])) (some 9) rfl rfl (by kernel_rfl) (by kernel_rfl) (by kernel_rfl) (fun _ _ _ h => h) (Or.inl ⟨by rfl, by intro W _; go_simp⟩) hS3 ?_
  simp only [Act.put, List.setIfInBounds_toArray, List.set_cons_zero, List.set_cons_succ]
  refine wpAnyH_ready (rs := [4]) (by kernel_rfl) (by simp) ?_
  refine AllReadyH.cons rfl (fun K hK => ?_) AllReadyH.nil
  go_simp
  refine (right_1 a _ HAM.out).mono ?_
  rintro e w4 ⟨ur, rfl, htur, bw⟩
  have hb4 : Below w.heap.size w (w4) := hb3.trans (bw.mono hb3.size)
  have HM4 : Hid ((w3).heap.size ≤ (w4).heap.size) := bw.size
  have HBv1_4 : Hid ((w4).heap[qv1]? = some (.cells #[.int .i64 1, .string a, .string b, .int .i64 t] 25)) := blk_below HBv1_3.out bw
  clear hb3 HBv1_3 bw
  have hS4 : w4.heap[qv1]? = some (.cells #[.int .i64 1, .string a, .string b, .int .i64 t] 25) := HBv1_4.out
  refine hK.out _ _ hS4 (fun _ => ?_)
  clear hK K hS3
  refine wpAnyH_takeD (i := 5) (v := .bool ur) (some 11) rfl rfl (by kernel_rfl) (by kernel_rfl) (by kernel_rfl) (fun _ _ _ h => h) (Or.inl ⟨by rfl, by intro W _; go_simp⟩) hS4 ?_
  simp only [Act.put, List.setIfInBounds_toArray, List.set_cons_zero, List.set_cons_succ]
  refine wpAnyH_takeD (i := 6) (v := .bool ur) (some 12) rfl rfl (by kernel_rfl) (by kernel_rfl) (by kernel_rfl) (fun _ _ _ h => h) (Or.inl ⟨by rfl, by intro W _; go_simp⟩) hS4 ?_
  simp only [Act.put, List.setIfInBounds_toArray, List.set_cons_zero, List.set_cons_succ]
  cases ur with
  | false =>
    have Hur : Hid (¬ (PathOk a)) := fun h => nomatch htur.2 h
    clear htur
    refine wpAnyH_takeD (i := 7) (v := undef) (some 13) rfl rfl (by kernel_rfl) (by kernel_rfl) (by kernel_rfl) (fun _ _ _ h => h) (Or.inr ⟨by rfl, rfl⟩) hS4 ?_
    simp only [Act.put, List.setIfInBounds_toArray, List.set_cons_zero, List.set_cons_succ]
    refine wpAnyH_takeD (i := 8) (v := undef) (some 14) rfl rfl (by kernel_rfl) (by kernel_rfl) (by kernel_rfl) (fun _ _ _ h => h) (Or.inr ⟨by rfl, rfl⟩) hS4 ?_
    simp only [Act.put, List.setIfInBounds_toArray, List.set_cons_zero, List.set_cons_succ]
    refine wpAnyH_takeD (i := 9) (v := undef) (some 15) rfl rfl (by kernel_rfl) (by kernel_rfl) (by kernel_rfl) (fun _ _ _ h => h) (Or.inr ⟨by rfl, rfl⟩) hS4 ?_
    simp only [Act.put, List.setIfInBounds_toArray, List.set_cons_zero, List.set_cons_succ]
    refine wpAnyH_takeD (i := 10) (v := .bool false) (some 16) rfl rfl (by kernel_rfl) (by kernel_rfl) (by kernel_rfl) (fun _ _ _ h => h) (Or.inl ⟨by rfl, by intro W _; go_simp⟩) hS4 ?_
    simp only [Act.put, List.setIfInBounds_toArray, List.set_cons_zero, List.set_cons_succ]
    refine wpAnyH_takeD (i := 11) (v := .bool false) (some 17) rfl rfl (by kernel_rfl) (by kernel_rfl) (by kernel_rfl) (fun _ _ _ h => h) (Or.inl ⟨by rfl, by intro W _; go_simp⟩) hS4 ?_
    simp only [Act.put, List.setIfInBounds_toArray, List.set_cons_zero, List.set_cons_succ]
    refine wpAnyH_takeD (i := 12) (v := undef) (some 18) rfl rfl (by kernel_rfl) (by kernel_rfl) (by kernel_rfl) (fun _ _ _ h => h) (Or.inr ⟨by rfl, rfl⟩) hS4 ?_
    simp only [Act.put, List.setIfInBounds_toArray, List.set_cons_zero, List.set_cons_succ]
    refine wpAnyH_takeD (i := 13) (v := undef) (some 19) rfl rfl (by kernel_rfl) (by kernel_rfl) (by kernel_rfl) (fun _ _ _ h => h) (Or.inr ⟨by rfl, rfl⟩) hS4 ?_
    simp only [Act.put, List.setIfInBounds_toArray, List.set_cons_zero, List.set_cons_succ]
    refine wpAnyH_takeD (i := 14) (v := undef) (some 20) rfl rfl (by kernel_rfl) (by kernel_rfl) (by kernel_rfl) (fun _ _ _ h => h) (Or.inr ⟨by rfl, rfl⟩) hS4 ?_
    simp only [Act.put, List.setIfInBounds_toArray, List.set_cons_zero, List.set_cons_succ]
    refine wpAnyH_takeD (i := 15) (v := undef) (some 21) rfl rfl (by kernel_rfl) (by kernel_rfl) (by kernel_rfl) (fun _ _ _ h => h) (Or.inr ⟨by rfl, rfl⟩) hS4 ?_
    simp only [Act.put, List.setIfInBounds_toArray, List.set_cons_zero, List.set_cons_succ]
    refine wpAnyH_takeD (i := 16) (v := undef) (some 22) rfl rfl (by kernel_rfl) (by kernel_rfl) (by kernel_rfl) (fun _ _ _ h => h) (Or.inr ⟨by rfl, rfl⟩) hS4 ?_
    simp only [Act.put, List.setIfInBounds_toArray, List.set_cons_zero, List.set_cons_succ]
    refine wpAnyH_takeD (i := 17) (v := undef) (some 23) rfl rfl (by kernel_rfl) (by kernel_rfl) (by kernel_rfl) (fun _ _ _ h => h) (Or.inr ⟨by rfl, rfl⟩) hS4 ?_
    simp only [Act.put, List.setIfInBounds_toArray, List.set_cons_zero, List.set_cons_succ]
    refine wpAnyH_takeD (i := 18) (v := .bool false) (some 24) rfl rfl (by kernel_rfl) (by kernel_rfl) (by kernel_rfl) (fun _ _ _ h => h) (Or.inl ⟨by rfl, by intro W _; go_simp⟩) hS4 ?_
    simp only [Act.put, List.setIfInBounds_toArray, List.set_cons_zero, List.set_cons_succ]
    refine wpAnyH_takeD (i := 19) (v := .bool false) (some 2) rfl rfl (by kernel_rfl) (by kernel_rfl) (by kernel_rfl) (fun _ _ _ h => h) (Or.inl ⟨by rfl, by intro W _; go_simp⟩) hS4 ?_
    simp only [Act.put, List.setIfInBounds_toArray, List.set_cons_zero, List.set_cons_succ]
    clear hS4
    refine wpAnyH_done (by kernel_rfl) ?_ _
    go_wp2_with fail
    go_ret
    refine ⟨false, rfl, ?_, hb4⟩
    have zHur := Hur.out
    have zHB := HB0.out
    unfold BanP
    simp_all
  | true =>
    have Hur : Hid (PathOk a) := htur.1 rfl
    clear htur
    refine wpAnyH_takeD (i := 7) (v := .pointer (some ⟨qv1, 3, none⟩)) (some 13) rfl rfl (by kernel_rfl) (by kernel_rfl) (by kernel_rfl) (fun _ _ _ h => h) (Or.inl ⟨by rfl, by intro W _; go_simp⟩) hS4 ?_
    simp only [Act.put, List.setIfInBounds_toArray, List.set_cons_zero, List.set_cons_succ]
    refine wpAnyH_takeD (i := 8) (v := .int .i64 t) (some 14) rfl rfl (by kernel_rfl) (by kernel_rfl) (by kernel_rfl) (fun _ _ _ h => h) (Or.inl ⟨by rfl, by intro W hW; have hhv1 := hW; have y3 := (cell_of hhv1 3).trans rfl; go_simp⟩) hS4 ?_
    simp only [Act.put, List.setIfInBounds_toArray, List.set_cons_zero, List.set_cons_succ]
    refine wpAnyH_ready (rs := [9]) (by kernel_rfl) (by simp) ?_
    refine AllReadyH.cons rfl (fun K hK => ?_) AllReadyH.nil
    go_simp
    refine (timeOk_any t _).mono ?_
    rintro e w5 ⟨rfl, hwe⟩
    have bw : Below (w4).heap.size (w4) w5 := by rw [hwe]; exact Below.refl _ _
    clear hwe
    obtain ⟨ut, hut⟩ : ∃ u, u = decide ((0 : Int) ≤ t ∧ t ≤ 1000000) := ⟨_, rfl⟩
    rw [← hut]
    have hb5 : Below w.heap.size w (w5) := hb4.trans (bw.mono hb4.size)
    have HM5 : Hid ((w4).heap.size ≤ (w5).heap.size) := bw.size
    have HBv1_5 : Hid ((w5).heap[qv1]? = some (.cells #[.int .i64 1, .string a, .string b, .int .i64 t] 25)) := blk_below HBv1_4.out bw
    clear hb4 HBv1_4 bw
    have hS5 : w5.heap[qv1]? = some (.cells #[.int .i64 1, .string a, .string b, .int .i64 t] 25) := HBv1_5.out
    refine hK.out _ _ hS5 (fun _ => ?_)
    clear hK K hS4
    refine wpAnyH_takeD (i := 10) (v := .bool ut) (some 16) rfl rfl (by kernel_rfl) (by kernel_rfl) (by kernel_rfl) (fun _ _ _ h => h) (Or.inl ⟨by rfl, by intro W _; go_simp⟩) hS5 ?_
    simp only [Act.put, List.setIfInBounds_toArray, List.set_cons_zero, List.set_cons_succ]
    refine wpAnyH_takeD (i := 11) (v := .bool ut) (some 17) rfl rfl (by kernel_rfl) (by kernel_rfl) (by kernel_rfl) (fun _ _ _ h => h) (Or.inl ⟨by rfl, by intro W _; go_simp⟩) hS5 ?_
    simp only [Act.put, List.setIfInBounds_toArray, List.set_cons_zero, List.set_cons_succ]
    cases ut with
    | false =>
      have Hut : Hid (¬ (0 ≤ t ∧ t ≤ 1000000)) := (show ¬ (0 ≤ t ∧ t ≤ 1000000) from of_decide_eq_false hut.symm)
      clear hut
      refine wpAnyH_takeD (i := 12) (v := undef) (some 18) rfl rfl (by kernel_rfl) (by kernel_rfl) (by kernel_rfl) (fun _ _ _ h => h) (Or.inr ⟨by rfl, rfl⟩) hS5 ?_
      simp only [Act.put, List.setIfInBounds_toArray, List.set_cons_zero, List.set_cons_succ]
      refine wpAnyH_takeD (i := 13) (v := undef) (some 19) rfl rfl (by kernel_rfl) (by kernel_rfl) (by kernel_rfl) (fun _ _ _ h => h) (Or.inr ⟨by rfl, rfl⟩) hS5 ?_
      simp only [Act.put, List.setIfInBounds_toArray, List.set_cons_zero, List.set_cons_succ]
      refine wpAnyH_takeD (i := 14) (v := undef) (some 20) rfl rfl (by kernel_rfl) (by kernel_rfl) (by kernel_rfl) (fun _ _ _ h => h) (Or.inr ⟨by rfl, rfl⟩) hS5 ?_
      simp only [Act.put, List.setIfInBounds_toArray, List.set_cons_zero, List.set_cons_succ]
      refine wpAnyH_takeD (i := 15) (v := undef) (some 21) rfl rfl (by kernel_rfl) (by kernel_rfl) (by kernel_rfl) (fun _ _ _ h => h) (Or.inr ⟨by rfl, rfl⟩) hS5 ?_
      simp only [Act.put, List.setIfInBounds_toArray, List.set_cons_zero, List.set_cons_succ]
      refine wpAnyH_takeD (i := 16) (v := undef) (some 22) rfl rfl (by kernel_rfl) (by kernel_rfl) (by kernel_rfl) (fun _ _ _ h => h) (Or.inr ⟨by rfl, rfl⟩) hS5 ?_
      simp only [Act.put, List.setIfInBounds_toArray, List.set_cons_zero, List.set_cons_succ]
      refine wpAnyH_takeD (i := 17) (v := undef) (some 23) rfl rfl (by kernel_rfl) (by kernel_rfl) (by kernel_rfl) (fun _ _ _ h => h) (Or.inr ⟨by rfl, rfl⟩) hS5 ?_
      simp only [Act.put, List.setIfInBounds_toArray, List.set_cons_zero, List.set_cons_succ]
      refine wpAnyH_takeD (i := 18) (v := .bool false) (some 24) rfl rfl (by kernel_rfl) (by kernel_rfl) (by kernel_rfl) (fun _ _ _ h => h) (Or.inl ⟨by rfl, by intro W _; go_simp⟩) hS5 ?_
      simp only [Act.put, List.setIfInBounds_toArray, List.set_cons_zero, List.set_cons_succ]
      refine wpAnyH_takeD (i := 19) (v := .bool false) (some 2) rfl rfl (by kernel_rfl) (by kernel_rfl) (by kernel_rfl) (fun _ _ _ h => h) (Or.inl ⟨by rfl, by intro W _; go_simp⟩) hS5 ?_
      simp only [Act.put, List.setIfInBounds_toArray, List.set_cons_zero, List.set_cons_succ]
      clear hS5
      refine wpAnyH_done (by kernel_rfl) ?_ _
      go_wp2_with fail
      go_ret
      refine ⟨false, rfl, ?_, hb5⟩
      have zHur := Hur.out
      have zHut := Hut.out
      have zHB := HB0.out
      unfold BanP
      simp_all
    | true =>
      have Hut : Hid (0 ≤ t ∧ t ≤ 1000000) := (show 0 ≤ t ∧ t ≤ 1000000 from of_decide_eq_true hut.symm)
      clear hut
      refine wpAnyH_takeD (i := 12) (v := .iface 67 (.agg #[.string a])) (some 18) rfl rfl (by kernel_rfl) (by kernel_rfl) (by kernel_rfl) (fun _ _ _ h => h) (Or.inl ⟨by rfl, by intro W _; go_simp⟩) hS5 ?_
      simp only [Act.put, List.setIfInBounds_toArray, List.set_cons_zero, List.set_cons_succ]
      refine wpAnyH_takeD (i := 13) (v := .pointer (some ⟨qv1, 3, none⟩)) (some 19) rfl rfl (by kernel_rfl) (by kernel_rfl) (by kernel_rfl) (fun _ _ _ h => h) (Or.inl ⟨by rfl, by intro W _; go_simp⟩) hS5 ?_
      simp only [Act.put, List.setIfInBounds_toArray, List.set_cons_zero, List.set_cons_succ]
      refine wpAnyH_takeD (i := 14) (v := .int .i64 t) (some 20) rfl rfl (by kernel_rfl) (by kernel_rfl) (by kernel_rfl) (fun _ _ _ h => h) (Or.inl ⟨by rfl, by intro W hW; have hhv1 := hW; have y3 := (cell_of hhv1 3).trans rfl; go_simp⟩) hS5 ?_
      simp only [Act.put, List.setIfInBounds_toArray, List.set_cons_zero, List.set_cons_succ]
      refine wpAnyH_takeD (i := 16) (v := .agg #[.int .i64 1, .string a, .string b, .int .i64 t]) (some 22) rfl rfl (by kernel_rfl) (by kernel_rfl) (by kernel_rfl) (fun _ _ _ h => h) (Or.inl ⟨by rfl, by intro W hW; have hhv1 := hW; have y0 := (cell_of hhv1 0).trans rfl; have y1 := (cell_of hhv1 1).trans rfl; have y2 := (cell_of hhv1 2).trans rfl; have y3 := (cell_of hhv1 3).trans rfl; go_simp⟩) hS5 ?_
      simp only [Act.put, List.setIfInBounds_toArray, List.set_cons_zero, List.set_cons_succ]
      refine wpAnyH_ready (rs := [15]) (by kernel_rfl) (by simp) ?_
      refine AllReadyH.cons rfl (fun K hK => ?_) AllReadyH.nil
      go_simp
      refine (banOf_1 a t _).mono ?_
      rintro e w6 ⟨rfl, bw⟩
      have hb6 : Below w.heap.size w (w6) := hb5.trans (bw.mono hb5.size)
      have HM6 : Hid ((w5).heap.size ≤ (w6).heap.size) := bw.size
      have HBv1_6 : Hid ((w6).heap[qv1]? = some (.cells #[.int .i64 1, .string a, .string b, .int .i64 t] 25)) := blk_below HBv1_5.out bw
      clear hb5 HBv1_5 bw
      have hS6 : w6.heap[qv1]? = some (.cells #[.int .i64 1, .string a, .string b, .int .i64 t] 25) := HBv1_6.out
      refine hK.out _ _ hS6 (fun _ => ?_)
      clear hK K hS5
      refine wpAnyH_takeD (i := 17) (v := .bool false) (some 23) rfl rfl (by kernel_rfl) (by kernel_rfl) (by kernel_rfl) (fun _ _ _ h => h) (Or.inl ⟨by rfl, by intro W _; go_simp⟩) hS6 ?_
      simp only [Act.put, List.setIfInBounds_toArray, List.set_cons_zero, List.set_cons_succ]
      refine wpAnyH_takeD (i := 18) (v := .bool false) (some 24) rfl rfl (by kernel_rfl) (by kernel_rfl) (by kernel_rfl) (fun _ _ _ h => h) (Or.inl ⟨by rfl, by intro W _; go_simp⟩) hS6 ?_
      simp only [Act.put, List.setIfInBounds_toArray, List.set_cons_zero, List.set_cons_succ]
      refine wpAnyH_takeD (i := 19) (v := .bool false) (some 2) rfl rfl (by kernel_rfl) (by kernel_rfl) (by kernel_rfl) (fun _ _ _ h => h) (Or.inl ⟨by rfl, by intro W _; go_simp⟩) hS6 ?_
      simp only [Act.put, List.setIfInBounds_toArray, List.set_cons_zero, List.set_cons_succ]
      clear hS6
      refine wpAnyH_done (by kernel_rfl) ?_ _
      go_wp2_with fail
      go_ret
      refine ⟨false, rfl, ?_, hb6⟩
      have zHur := Hur.out
      have zHut := Hut.out
      have zHB := HB0.out
      unfold BanP
      simp_all

set_option maxHeartbeats 8000000 in
set_option maxRecDepth 100000 in
theorem implBanOk_2e (a : ByteArray) (t : Int) (w : World) (ha : a.size ≤ maxLen) :
    Calls Tryd.prog 10 #[.agg #[.int .i64 2, .string a, .string ⟨#[]⟩, .int .i64 t]] w fun e w' => BoolIs (BanP 2 a ⟨#[]⟩ t) w e w' := by
  classical
  have HAM : Hid (a.size ≤ maxLen) := ha
  have hnn : ∀ W : World, (binOp .neq 44 (.iface 69 (.agg #[.string a])) .nilIface).run Tryd.prog W = .ok (.bool true) W := fun _ => by kernel_rfl
  have hna : ∀ W : World, (nilAhead 157 69 (.agg #[.string a]) "loop.example/g00239/impl.right").run Tryd.prog W = .ok (some false) W := fun _ => by kernel_rfl
  have hmt : ∀ W : World, (method 157 69 (.agg #[.string a]) "loop.example/g00239/impl.right").run Tryd.prog W = .ok (106, .agg #[.string a]) W := fun _ => by kernel_rfl
  have hgb := guardBan
  have hqe : ∀ W : World, (binOp .eql 25 (.agg #[.int .i64 2, .string a, .string ⟨#[]⟩, .int .i64 t]) (.agg #[.int .i64 2, .string a, .string ⟨#[]⟩, .int .i64 t])).run Tryd.prog W = .ok (.bool true) W := fun W => by
    rw [eqlBan]
    first | (simp; done) | (have z := HB0.out; simp; exact fun e => z e.symm)
  clear ha
  have hb0 : Below w.heap.size w w := Below.refl _ _
  go_enter Tryd.func10, Tryd.ntmps10
  go_upto_region 1 with fail
  obtain ⟨qv1, hqv1⟩ : ∃ q, q = (w).heap.size := ⟨_, rfl⟩
  obtain ⟨w1, hW1⟩ : ∃ W, W = (w).alloc (.cells #[.int .i64 2, .string a, .string ⟨#[]⟩, .int .i64 t] 25) := ⟨_, rfl⟩
  have hz1 : (w).heap.size = qv1 := hqv1.symm
  first | rw [← hW1, ← hqv1] | rw [← hW1]
  have hs1 : w1.heap.size = qv1 + 1 := by rw [hW1, ← hz1]; simp
  have bw : Below (w).heap.size (w) w1 := by rw [hW1]; exact (Below.refl _ _).alloc (Nat.le_refl _) _
  have hb1 : Below w.heap.size w (w1) := hb0.trans (bw.mono hb0.size)
  have HM1 : Hid ((w).heap.size ≤ (w1).heap.size) := bw.size
  have HBv1_1 : Hid ((w1).heap[qv1]? = some (.cells #[.int .i64 2, .string a, .string ⟨#[]⟩, .int .i64 t] 25)) := by show _ = _; rw [hW1, ← hz1]; exact heap_alloc_new _ _
  have HGv1 : Hid (w.heap.size ≤ qv1) := by show _ ≤ _; rw [← hz1]; exact hb0.size
  clear hb0 bw hW1 hz1
  clear hs1 hqv1
  have cv1_0 : (w1).cell? ⟨qv1, 0, none⟩ = some (.int .i64 2) := (cell_of HBv1_1.out 0).trans rfl
  have cv1_1 : (w1).cell? ⟨qv1, 1, none⟩ = some (.string a) := (cell_of HBv1_1.out 1).trans rfl
  have cv1_2 : (w1).cell? ⟨qv1, 2, none⟩ = some (.string ⟨#[]⟩) := (cell_of HBv1_1.out 2).trans rfl
  have cv1_3 : (w1).cell? ⟨qv1, 3, none⟩ = some (.int .i64 t) := (cell_of HBv1_1.out 3).trans rfl
  go_wp2_with fail
  refine (ruleOf_2 a ⟨#[]⟩ t _).mono ?_
  rintro e w2 ⟨rfl, bw⟩
  have hb2 : Below w.heap.size w (w2) := hb1.trans (bw.mono hb1.size)
  have HM2 : Hid ((w1).heap.size ≤ (w2).heap.size) := bw.size
  have HBv1_2 : Hid ((w2).heap[qv1]? = some (.cells #[.int .i64 2, .string a, .string ⟨#[]⟩, .int .i64 t] 25)) := blk_below HBv1_1.out bw
  clear hb1 HBv1_1 bw
  clear cv1_0 cv1_1 cv1_2 cv1_3
  go_upto_region 2 with fail
  refine wp_region_held_drew (S := fun W => W.heap[qv1]? = some (.cells #[.int .i64 2, .string a, .string ⟨#[]⟩, .int .i64 t] 25)) (by kernel_rfl) HBv1_2.out (fun _ => ?_)
  obtain ⟨w3, hX⟩ : ∃ X, X = w2.drew := ⟨_, rfl⟩
  have bw : Below w2.heap.size w2 w3 := by rw [hX]; exact (Below.refl _ _).drew
  rw [← hX]
  have hb3 : Below w.heap.size w (w3) := hb2.trans (bw.mono hb2.size)
  have HM3 : Hid ((w2).heap.size ≤ (w3).heap.size) := bw.size
  have HBv1_3 : Hid ((w3).heap[qv1]? = some (.cells #[.int .i64 2, .string a, .string ⟨#[]⟩, .int .i64 t] 25)) := blk_below HBv1_2.out bw
  have hS3 : w3.heap[qv1]? = some (.cells #[.int .i64 2, .string a, .string ⟨#[]⟩, .int .i64 t] 25) := HBv1_3.out
  clear hb2 HBv1_2 bw hX
  refine wpAnyH_takeD (i := 0) (v := .iface 69 (.agg #[.string a])) (some 6) rfl rfl (by kernel_rfl) (by kernel_rfl) (by kernel_rfl) (fun _ _ _ h => h) (Or.inl ⟨by rfl, by intro W _; go_simp⟩) hS3 ?_
  simp only [Act.put, List.setIfInBounds_toArray, List.set_cons_zero, List.set_cons_succ]
  refine wpAnyH_takeD (i := 1) (v := .bool true) (some 7) rfl rfl (by kernel_rfl) (by kernel_rfl) (by kernel_rfl) (fun _ _ _ h => h) (Or.inl ⟨by rfl, by intro W _; go_simp⟩) hS3 ?_
  simp only [Act.put, List.setIfInBounds_toArray, List.set_cons_zero, List.set_cons_succ]
  refine wpAnyH_takeD (i := 2) (v := .bool true) (some 8) rfl rfl (by kernel_rfl) (by kernel_rfl) (by kernel_rfl) (fun _ _ _ h => h) (Or.inl ⟨by rfl, by intro W _; go_simp⟩) hS3 ?_
  simp only [Act.put, List.setIfInBounds_toArray, List.set_cons_zero, List.set_cons_succ]
  refine wpAnyH_takeD (i := 3) (v := .iface 69 (.agg #[.string a])) (some 9) rfl rfl (by kernel_rfl) (by kernel_rfl) (by kernel_rfl) (fun _ _ _ h => h) (Or.inl ⟨by rfl, by intro W _; go_simp⟩) hS3 ?_
  simp only [Act.put, List.setIfInBounds_toArray, List.set_cons_zero, List.set_cons_succ]
  refine wpAnyH_ready (rs := [4]) (by kernel_rfl) (by simp) ?_
  refine AllReadyH.cons rfl (fun K hK => ?_) AllReadyH.nil
  go_simp
  refine (right_2 a _ HAM.out).mono ?_
  rintro e w4 ⟨ur, rfl, htur, bw⟩
  have hb4 : Below w.heap.size w (w4) := hb3.trans (bw.mono hb3.size)
  have HM4 : Hid ((w3).heap.size ≤ (w4).heap.size) := bw.size
  have HBv1_4 : Hid ((w4).heap[qv1]? = some (.cells #[.int .i64 2, .string a, .string ⟨#[]⟩, .int .i64 t] 25)) := blk_below HBv1_3.out bw
  clear hb3 HBv1_3 bw
  have hS4 : w4.heap[qv1]? = some (.cells #[.int .i64 2, .string a, .string ⟨#[]⟩, .int .i64 t] 25) := HBv1_4.out
  refine hK.out _ _ hS4 (fun _ => ?_)
  clear hK K hS3
  refine wpAnyH_takeD (i := 5) (v := .bool ur) (some 11) rfl rfl (by kernel_rfl) (by kernel_rfl) (by kernel_rfl) (fun _ _ _ h => h) (Or.inl ⟨by rfl, by intro W _; go_simp⟩) hS4 ?_
  simp only [Act.put, List.setIfInBounds_toArray, List.set_cons_zero, List.set_cons_succ]
  refine wpAnyH_takeD (i := 6) (v := .bool ur) (some 12) rfl rfl (by kernel_rfl) (by kernel_rfl) (by kernel_rfl) (fun _ _ _ h => h) (Or.inl ⟨by rfl, by intro W _; go_simp⟩) hS4 ?_
  simp only [Act.put, List.setIfInBounds_toArray, List.set_cons_zero, List.set_cons_succ]
  cases ur with
  | false =>
    have Hur : Hid (¬ (PathOk a)) := fun h => nomatch htur.2 h
    clear htur
    refine wpAnyH_takeD (i := 7) (v := undef) (some 13) rfl rfl (by kernel_rfl) (by kernel_rfl) (by kernel_rfl) (fun _ _ _ h => h) (Or.inr ⟨by rfl, rfl⟩) hS4 ?_
    simp only [Act.put, List.setIfInBounds_toArray, List.set_cons_zero, List.set_cons_succ]
    refine wpAnyH_takeD (i := 8) (v := undef) (some 14) rfl rfl (by kernel_rfl) (by kernel_rfl) (by kernel_rfl) (fun _ _ _ h => h) (Or.inr ⟨by rfl, rfl⟩) hS4 ?_
    simp only [Act.put, List.setIfInBounds_toArray, List.set_cons_zero, List.set_cons_succ]
    refine wpAnyH_takeD (i := 9) (v := undef) (some 15) rfl rfl (by kernel_rfl) (by kernel_rfl) (by kernel_rfl) (fun _ _ _ h => h) (Or.inr ⟨by rfl, rfl⟩) hS4 ?_
    simp only [Act.put, List.setIfInBounds_toArray, List.set_cons_zero, List.set_cons_succ]
    refine wpAnyH_takeD (i := 10) (v := .bool false) (some 16) rfl rfl (by kernel_rfl) (by kernel_rfl) (by kernel_rfl) (fun _ _ _ h => h) (Or.inl ⟨by rfl, by intro W _; go_simp⟩) hS4 ?_
    simp only [Act.put, List.setIfInBounds_toArray, List.set_cons_zero, List.set_cons_succ]
    refine wpAnyH_takeD (i := 11) (v := .bool false) (some 17) rfl rfl (by kernel_rfl) (by kernel_rfl) (by kernel_rfl) (fun _ _ _ h => h) (Or.inl ⟨by rfl, by intro W _; go_simp⟩) hS4 ?_
    simp only [Act.put, List.setIfInBounds_toArray, List.set_cons_zero, List.set_cons_succ]
    refine wpAnyH_takeD (i := 12) (v := undef) (some 18) rfl rfl (by kernel_rfl) (by kernel_rfl) (by kernel_rfl) (fun _ _ _ h => h) (Or.inr ⟨by rfl, rfl⟩) hS4 ?_
    simp only [Act.put, List.setIfInBounds_toArray, List.set_cons_zero, List.set_cons_succ]
    refine wpAnyH_takeD (i := 13) (v := undef) (some 19) rfl rfl (by kernel_rfl) (by kernel_rfl) (by kernel_rfl) (fun _ _ _ h => h) (Or.inr ⟨by rfl, rfl⟩) hS4 ?_
    simp only [Act.put, List.setIfInBounds_toArray, List.set_cons_zero, List.set_cons_succ]
    refine wpAnyH_takeD (i := 14) (v := undef) (some 20) rfl rfl (by kernel_rfl) (by kernel_rfl) (by kernel_rfl) (fun _ _ _ h => h) (Or.inr ⟨by rfl, rfl⟩) hS4 ?_
    simp only [Act.put, List.setIfInBounds_toArray, List.set_cons_zero, List.set_cons_succ]
    refine wpAnyH_takeD (i := 15) (v := undef) (some 21) rfl rfl (by kernel_rfl) (by kernel_rfl) (by kernel_rfl) (fun _ _ _ h => h) (Or.inr ⟨by rfl, rfl⟩) hS4 ?_
    simp only [Act.put, List.setIfInBounds_toArray, List.set_cons_zero, List.set_cons_succ]
    refine wpAnyH_takeD (i := 16) (v := undef) (some 22) rfl rfl (by kernel_rfl) (by kernel_rfl) (by kernel_rfl) (fun _ _ _ h => h) (Or.inr ⟨by rfl, rfl⟩) hS4 ?_
    simp only [Act.put, List.setIfInBounds_toArray, List.set_cons_zero, List.set_cons_succ]
    refine wpAnyH_takeD (i := 17) (v := undef) (some 23) rfl rfl (by kernel_rfl) (by kernel_rfl) (by kernel_rfl) (fun _ _ _ h => h) (Or.inr ⟨by rfl, rfl⟩) hS4 ?_
    simp only [Act.put, List.setIfInBounds_toArray, List.set_cons_zero, List.set_cons_succ]
    refine wpAnyH_takeD (i := 18) (v := .bool false) (some 24) rfl rfl (by kernel_rfl) (by kernel_rfl) (by kernel_rfl) (fun _ _ _ h => h) (Or.inl ⟨by rfl, by intro W _; go_simp⟩) hS4 ?_
    simp only [Act.put, List.setIfInBounds_toArray, List.set_cons_zero, List.set_cons_succ]
    refine wpAnyH_takeD (i := 19) (v := .bool false) (some 2) rfl rfl (by kernel_rfl) (by kernel_rfl) (by kernel_rfl) (fun _ _ _ h => h) (Or.inl ⟨by rfl, by intro W _; go_simp⟩) hS4 ?_
    simp only [Act.put, List.setIfInBounds_toArray, List.set_cons_zero, List.set_cons_succ]
    clear hS4
    refine wpAnyH_done (by kernel_rfl) ?_ _
    go_wp2_with fail
    go_ret
    refine ⟨false, rfl, ?_, hb4⟩
    have zHur := Hur.out
    unfold BanP
    simp_all
  | true =>
    have Hur : Hid (PathOk a) := htur.1 rfl
    clear htur
    refine wpAnyH_takeD (i := 7) (v := .pointer (some ⟨qv1, 3, none⟩)) (some 13) rfl rfl (by kernel_rfl) (by kernel_rfl) (by kernel_rfl) (fun _ _ _ h => h) (Or.inl ⟨by rfl, by intro W _; go_simp⟩) hS4 ?_
    simp only [Act.put, List.setIfInBounds_toArray, List.set_cons_zero, List.set_cons_succ]
    refine wpAnyH_takeD (i := 8) (v := .int .i64 t) (some 14) rfl rfl (by kernel_rfl) (by kernel_rfl) (by kernel_rfl) (fun _ _ _ h => h) (Or.inl ⟨by rfl, by intro W hW; have hhv1 := hW; have y3 := (cell_of hhv1 3).trans rfl; go_simp⟩) hS4 ?_
    simp only [Act.put, List.setIfInBounds_toArray, List.set_cons_zero, List.set_cons_succ]
    refine wpAnyH_ready (rs := [9]) (by kernel_rfl) (by simp) ?_
    refine AllReadyH.cons rfl (fun K hK => ?_) AllReadyH.nil
    go_simp
    refine (timeOk_any t _).mono ?_
    rintro e w5 ⟨rfl, hwe⟩
    have bw : Below (w4).heap.size (w4) w5 := by rw [hwe]; exact Below.refl _ _
    clear hwe
    obtain ⟨ut, hut⟩ : ∃ u, u = decide ((0 : Int) ≤ t ∧ t ≤ 1000000) := ⟨_, rfl⟩
    rw [← hut]
    have hb5 : Below w.heap.size w (w5) := hb4.trans (bw.mono hb4.size)
    have HM5 : Hid ((w4).heap.size ≤ (w5).heap.size) := bw.size
    have HBv1_5 : Hid ((w5).heap[qv1]? = some (.cells #[.int .i64 2, .string a, .string ⟨#[]⟩, .int .i64 t] 25)) := blk_below HBv1_4.out bw
    clear hb4 HBv1_4 bw
    have hS5 : w5.heap[qv1]? = some (.cells #[.int .i64 2, .string a, .string ⟨#[]⟩, .int .i64 t] 25) := HBv1_5.out
    refine hK.out _ _ hS5 (fun _ => ?_)
    clear hK K hS4
    refine wpAnyH_takeD (i := 10) (v := .bool ut) (some 16) rfl rfl (by kernel_rfl) (by kernel_rfl) (by kernel_rfl) (fun _ _ _ h => h) (Or.inl ⟨by rfl, by intro W _; go_simp⟩) hS5 ?_
    simp only [Act.put, List.setIfInBounds_toArray, List.set_cons_zero, List.set_cons_succ]
    refine wpAnyH_takeD (i := 11) (v := .bool ut) (some 17) rfl rfl (by kernel_rfl) (by kernel_rfl) (by kernel_rfl) (fun _ _ _ h => h) (Or.inl ⟨by rfl, by intro W _; go_simp⟩) hS5 ?_
    simp only [Act.put, List.setIfInBounds_toArray, List.set_cons_zero, List.set_cons_succ]
    cases ut with
    | false =>
      have Hut : Hid (¬ (0 ≤ t ∧ t ≤ 1000000)) := (show ¬ (0 ≤ t ∧ t ≤ 1000000) from of_decide_eq_false hut.symm)
      clear hut
      refine wpAnyH_takeD (i := 12) (v := undef) (some 18) rfl rfl (by kernel_rfl) (by kernel_rfl) (by kernel_rfl) (fun _ _ _ h => h) (Or.inr ⟨by rfl, rfl⟩) hS5 ?_
      simp only [Act.put, List.setIfInBounds_toArray, List.set_cons_zero, List.set_cons_succ]
      refine wpAnyH_takeD (i := 13) (v := undef) (some 19) rfl rfl (by kernel_rfl) (by kernel_rfl) (by kernel_rfl) (fun _ _ _ h => h) (Or.inr ⟨by rfl, rfl⟩) hS5 ?_
      simp only [Act.put, List.setIfInBounds_toArray, List.set_cons_zero, List.set_cons_succ]
      refine wpAnyH_takeD (i := 14) (v := undef) (some 20) rfl rfl (by kernel_rfl) (by kernel_rfl) (by kernel_rfl) (fun _ _ _ h => h) (Or.inr ⟨by rfl, rfl⟩) hS5 ?_
      simp only [Act.put, List.setIfInBounds_toArray, List.set_cons_zero, List.set_cons_succ]
      refine wpAnyH_takeD (i := 15) (v := undef) (some 21) rfl rfl (by kernel_rfl) (by kernel_rfl) (by kernel_rfl) (fun _ _ _ h => h) (Or.inr ⟨by rfl, rfl⟩) hS5 ?_
      simp only [Act.put, List.setIfInBounds_toArray, List.set_cons_zero, List.set_cons_succ]
      refine wpAnyH_takeD (i := 16) (v := undef) (some 22) rfl rfl (by kernel_rfl) (by kernel_rfl) (by kernel_rfl) (fun _ _ _ h => h) (Or.inr ⟨by rfl, rfl⟩) hS5 ?_
      simp only [Act.put, List.setIfInBounds_toArray, List.set_cons_zero, List.set_cons_succ]
      refine wpAnyH_takeD (i := 17) (v := undef) (some 23) rfl rfl (by kernel_rfl) (by kernel_rfl) (by kernel_rfl) (fun _ _ _ h => h) (Or.inr ⟨by rfl, rfl⟩) hS5 ?_
      simp only [Act.put, List.setIfInBounds_toArray, List.set_cons_zero, List.set_cons_succ]
      refine wpAnyH_takeD (i := 18) (v := .bool false) (some 24) rfl rfl (by kernel_rfl) (by kernel_rfl) (by kernel_rfl) (fun _ _ _ h => h) (Or.inl ⟨by rfl, by intro W _; go_simp⟩) hS5 ?_
      simp only [Act.put, List.setIfInBounds_toArray, List.set_cons_zero, List.set_cons_succ]
      refine wpAnyH_takeD (i := 19) (v := .bool false) (some 2) rfl rfl (by kernel_rfl) (by kernel_rfl) (by kernel_rfl) (fun _ _ _ h => h) (Or.inl ⟨by rfl, by intro W _; go_simp⟩) hS5 ?_
      simp only [Act.put, List.setIfInBounds_toArray, List.set_cons_zero, List.set_cons_succ]
      clear hS5
      refine wpAnyH_done (by kernel_rfl) ?_ _
      go_wp2_with fail
      go_ret
      refine ⟨false, rfl, ?_, hb5⟩
      have zHur := Hur.out
      have zHut := Hut.out
      unfold BanP
      simp_all
    | true =>
      have Hut : Hid (0 ≤ t ∧ t ≤ 1000000) := (show 0 ≤ t ∧ t ≤ 1000000 from of_decide_eq_true hut.symm)
      clear hut
      refine wpAnyH_takeD (i := 12) (v := .iface 69 (.agg #[.string a])) (some 18) rfl rfl (by kernel_rfl) (by kernel_rfl) (by kernel_rfl) (fun _ _ _ h => h) (Or.inl ⟨by rfl, by intro W _; go_simp⟩) hS5 ?_
      simp only [Act.put, List.setIfInBounds_toArray, List.set_cons_zero, List.set_cons_succ]
      refine wpAnyH_takeD (i := 13) (v := .pointer (some ⟨qv1, 3, none⟩)) (some 19) rfl rfl (by kernel_rfl) (by kernel_rfl) (by kernel_rfl) (fun _ _ _ h => h) (Or.inl ⟨by rfl, by intro W _; go_simp⟩) hS5 ?_
      simp only [Act.put, List.setIfInBounds_toArray, List.set_cons_zero, List.set_cons_succ]
      refine wpAnyH_takeD (i := 14) (v := .int .i64 t) (some 20) rfl rfl (by kernel_rfl) (by kernel_rfl) (by kernel_rfl) (fun _ _ _ h => h) (Or.inl ⟨by rfl, by intro W hW; have hhv1 := hW; have y3 := (cell_of hhv1 3).trans rfl; go_simp⟩) hS5 ?_
      simp only [Act.put, List.setIfInBounds_toArray, List.set_cons_zero, List.set_cons_succ]
      refine wpAnyH_takeD (i := 16) (v := .agg #[.int .i64 2, .string a, .string ⟨#[]⟩, .int .i64 t]) (some 22) rfl rfl (by kernel_rfl) (by kernel_rfl) (by kernel_rfl) (fun _ _ _ h => h) (Or.inl ⟨by rfl, by intro W hW; have hhv1 := hW; have y0 := (cell_of hhv1 0).trans rfl; have y1 := (cell_of hhv1 1).trans rfl; have y2 := (cell_of hhv1 2).trans rfl; have y3 := (cell_of hhv1 3).trans rfl; go_simp⟩) hS5 ?_
      simp only [Act.put, List.setIfInBounds_toArray, List.set_cons_zero, List.set_cons_succ]
      refine wpAnyH_ready (rs := [15]) (by kernel_rfl) (by simp) ?_
      refine AllReadyH.cons rfl (fun K hK => ?_) AllReadyH.nil
      go_simp
      refine (banOf_2 a t _).mono ?_
      rintro e w6 ⟨rfl, bw⟩
      have hb6 : Below w.heap.size w (w6) := hb5.trans (bw.mono hb5.size)
      have HM6 : Hid ((w5).heap.size ≤ (w6).heap.size) := bw.size
      have HBv1_6 : Hid ((w6).heap[qv1]? = some (.cells #[.int .i64 2, .string a, .string ⟨#[]⟩, .int .i64 t] 25)) := blk_below HBv1_5.out bw
      clear hb5 HBv1_5 bw
      have hS6 : w6.heap[qv1]? = some (.cells #[.int .i64 2, .string a, .string ⟨#[]⟩, .int .i64 t] 25) := HBv1_6.out
      refine hK.out _ _ hS6 (fun _ => ?_)
      clear hK K hS5
      refine wpAnyH_takeD (i := 17) (v := .bool true) (some 23) rfl rfl (by kernel_rfl) (by kernel_rfl) (by kernel_rfl) (fun _ _ _ h => h) (Or.inl ⟨by rfl, by intro W _; go_simp⟩) hS6 ?_
      simp only [Act.put, List.setIfInBounds_toArray, List.set_cons_zero, List.set_cons_succ]
      refine wpAnyH_takeD (i := 18) (v := .bool true) (some 24) rfl rfl (by kernel_rfl) (by kernel_rfl) (by kernel_rfl) (fun _ _ _ h => h) (Or.inl ⟨by rfl, by intro W _; go_simp⟩) hS6 ?_
      simp only [Act.put, List.setIfInBounds_toArray, List.set_cons_zero, List.set_cons_succ]
      refine wpAnyH_takeD (i := 19) (v := .bool true) (some 2) rfl rfl (by kernel_rfl) (by kernel_rfl) (by kernel_rfl) (fun _ _ _ h => h) (Or.inl ⟨by rfl, by intro W _; go_simp⟩) hS6 ?_
      simp only [Act.put, List.setIfInBounds_toArray, List.set_cons_zero, List.set_cons_succ]
      clear hS6
      refine wpAnyH_done (by kernel_rfl) ?_ _
      go_wp2_with fail
      go_ret
      refine ⟨true, rfl, ?_, hb6⟩
      have zHur := Hur.out
      have zHut := Hut.out
      unfold BanP
      simp_all

set_option maxHeartbeats 8000000 in
set_option maxRecDepth 100000 in
theorem implBanOk_2n (a b : ByteArray) (t : Int) (w : World) (ha : a.size ≤ maxLen) (hb0 : ¬ b = ⟨#[]⟩) :
    Calls Tryd.prog 10 #[.agg #[.int .i64 2, .string a, .string b, .int .i64 t]] w fun e w' => BoolIs (BanP 2 a b t) w e w' := by
  classical
  have HAM : Hid (a.size ≤ maxLen) := ha
  have HB0 : Hid (¬ b = ⟨#[]⟩) := hb0
  have hnn : ∀ W : World, (binOp .neq 44 (.iface 69 (.agg #[.string a])) .nilIface).run Tryd.prog W = .ok (.bool true) W := fun _ => by kernel_rfl
  have hna : ∀ W : World, (nilAhead 157 69 (.agg #[.string a]) "loop.example/g00239/impl.right").run Tryd.prog W = .ok (some false) W := fun _ => by kernel_rfl
  have hmt : ∀ W : World, (method 157 69 (.agg #[.string a]) "loop.example/g00239/impl.right").run Tryd.prog W = .ok (106, .agg #[.string a]) W := fun _ => by kernel_rfl
  have hgb := guardBan
  have hqe : ∀ W : World, (binOp .eql 25 (.agg #[.int .i64 2, .string a, .string ⟨#[]⟩, .int .i64 t]) (.agg #[.int .i64 2, .string a, .string b, .int .i64 t])).run Tryd.prog W = .ok (.bool false) W := fun W => by
    rw [eqlBan]
    first | (simp; done) | (have z := HB0.out; simp; exact fun e => z e.symm)
  clear ha hb0
  have hb0 : Below w.heap.size w w := Below.refl _ _
  go_enter Tryd.func10, Tryd.ntmps10
  go_upto_region 1 with fail
  obtain ⟨qv1, hqv1⟩ : ∃ q, q = (w).heap.size := ⟨_, rfl⟩
  obtain ⟨w1, hW1⟩ : ∃ W, W = (w).alloc (.cells #[.int .i64 2, .string a, .string b, .int .i64 t] 25) := ⟨_, rfl⟩
  have hz1 : (w).heap.size = qv1 := hqv1.symm
  first | rw [← hW1, ← hqv1] | rw [← hW1]
  have hs1 : w1.heap.size = qv1 + 1 := by rw [hW1, ← hz1]; simp
  have bw : Below (w).heap.size (w) w1 := by rw [hW1]; exact (Below.refl _ _).alloc (Nat.le_refl _) _
  have hb1 : Below w.heap.size w (w1) := hb0.trans (bw.mono hb0.size)
  have HM1 : Hid ((w).heap.size ≤ (w1).heap.size) := bw.size
  have HBv1_1 : Hid ((w1).heap[qv1]? = some (.cells #[.int .i64 2, .string a, .string b, .int .i64 t] 25)) := by show _ = _; rw [hW1, ← hz1]; exact heap_alloc_new _ _
  have HGv1 : Hid (w.heap.size ≤ qv1) := by show _ ≤ _; rw [← hz1]; exact hb0.size
  clear hb0 bw hW1 hz1
  clear hs1 hqv1
  have cv1_0 : (w1).cell? ⟨qv1, 0, none⟩ = some (.int .i64 2) := (cell_of HBv1_1.out 0).trans rfl
  have cv1_1 : (w1).cell? ⟨qv1, 1, none⟩ = some (.string a) := (cell_of HBv1_1.out 1).trans rfl
  have cv1_2 : (w1).cell? ⟨qv1, 2, none⟩ = some (.string b) := (cell_of HBv1_1.out 2).trans rfl
  have cv1_3 : (w1).cell? ⟨qv1, 3, none⟩ = some (.int .i64 t) := (cell_of HBv1_1.out 3).trans rfl
  go_wp2_with fail
  refine (ruleOf_2 a b t _).mono ?_
  rintro e w2 ⟨rfl, bw⟩
  have hb2 : Below w.heap.size w (w2) := hb1.trans (bw.mono hb1.size)
  have HM2 : Hid ((w1).heap.size ≤ (w2).heap.size) := bw.size
  have HBv1_2 : Hid ((w2).heap[qv1]? = some (.cells #[.int .i64 2, .string a, .string b, .int .i64 t] 25)) := blk_below HBv1_1.out bw
  clear hb1 HBv1_1 bw
  clear cv1_0 cv1_1 cv1_2 cv1_3
  go_upto_region 2 with fail
  refine wp_region_held_drew (S := fun W => W.heap[qv1]? = some (.cells #[.int .i64 2, .string a, .string b, .int .i64 t] 25)) (by kernel_rfl) HBv1_2.out (fun _ => ?_)
  obtain ⟨w3, hX⟩ : ∃ X, X = w2.drew := ⟨_, rfl⟩
  have bw : Below w2.heap.size w2 w3 := by rw [hX]; exact (Below.refl _ _).drew
  rw [← hX]
  have hb3 : Below w.heap.size w (w3) := hb2.trans (bw.mono hb2.size)
  have HM3 : Hid ((w2).heap.size ≤ (w3).heap.size) := bw.size
  have HBv1_3 : Hid ((w3).heap[qv1]? = some (.cells #[.int .i64 2, .string a, .string b, .int .i64 t] 25)) := blk_below HBv1_2.out bw
  have hS3 : w3.heap[qv1]? = some (.cells #[.int .i64 2, .string a, .string b, .int .i64 t] 25) := HBv1_3.out
  clear hb2 HBv1_2 bw hX
  refine wpAnyH_takeD (i := 0) (v := .iface 69 (.agg #[.string a])) (some 6) rfl rfl (by kernel_rfl) (by kernel_rfl) (by kernel_rfl) (fun _ _ _ h => h) (Or.inl ⟨by rfl, by intro W _; go_simp⟩) hS3 ?_
  simp only [Act.put, List.setIfInBounds_toArray, List.set_cons_zero, List.set_cons_succ]
  refine wpAnyH_takeD (i := 1) (v := .bool true) (some 7) rfl rfl (by kernel_rfl) (by kernel_rfl) (by kernel_rfl) (fun _ _ _ h => h) (Or.inl ⟨by rfl, by intro W _; go_simp⟩) hS3 ?_
  simp only [Act.put, List.setIfInBounds_toArray, List.set_cons_zero, List.set_cons_succ]
  refine wpAnyH_takeD (i := 2) (v := .bool true) (some 8) rfl rfl (by kernel_rfl) (by kernel_rfl) (by kernel_rfl) (fun _ _ _ h => h) (Or.inl ⟨by rfl, by intro W _; go_simp⟩) hS3 ?_
  simp only [Act.put, List.setIfInBounds_toArray, List.set_cons_zero, List.set_cons_succ]
  refine wpAnyH_takeD (i := 3) (v := .iface 69 (.agg #[.string a])) (some 9) rfl rfl (by kernel_rfl) (by kernel_rfl) (by kernel_rfl) (fun _ _ _ h => h) (Or.inl ⟨by rfl, by intro W _; go_simp⟩) hS3 ?_
  simp only [Act.put, List.setIfInBounds_toArray, List.set_cons_zero, List.set_cons_succ]
  refine wpAnyH_ready (rs := [4]) (by kernel_rfl) (by simp) ?_
  refine AllReadyH.cons rfl (fun K hK => ?_) AllReadyH.nil
  go_simp
  refine (right_2 a _ HAM.out).mono ?_
  rintro e w4 ⟨ur, rfl, htur, bw⟩
  have hb4 : Below w.heap.size w (w4) := hb3.trans (bw.mono hb3.size)
  have HM4 : Hid ((w3).heap.size ≤ (w4).heap.size) := bw.size
  have HBv1_4 : Hid ((w4).heap[qv1]? = some (.cells #[.int .i64 2, .string a, .string b, .int .i64 t] 25)) := blk_below HBv1_3.out bw
  clear hb3 HBv1_3 bw
  have hS4 : w4.heap[qv1]? = some (.cells #[.int .i64 2, .string a, .string b, .int .i64 t] 25) := HBv1_4.out
  refine hK.out _ _ hS4 (fun _ => ?_)
  clear hK K hS3
  refine wpAnyH_takeD (i := 5) (v := .bool ur) (some 11) rfl rfl (by kernel_rfl) (by kernel_rfl) (by kernel_rfl) (fun _ _ _ h => h) (Or.inl ⟨by rfl, by intro W _; go_simp⟩) hS4 ?_
  simp only [Act.put, List.setIfInBounds_toArray, List.set_cons_zero, List.set_cons_succ]
  refine wpAnyH_takeD (i := 6) (v := .bool ur) (some 12) rfl rfl (by kernel_rfl) (by kernel_rfl) (by kernel_rfl) (fun _ _ _ h => h) (Or.inl ⟨by rfl, by intro W _; go_simp⟩) hS4 ?_
  simp only [Act.put, List.setIfInBounds_toArray, List.set_cons_zero, List.set_cons_succ]
  cases ur with
  | false =>
    have Hur : Hid (¬ (PathOk a)) := fun h => nomatch htur.2 h
    clear htur
    refine wpAnyH_takeD (i := 7) (v := undef) (some 13) rfl rfl (by kernel_rfl) (by kernel_rfl) (by kernel_rfl) (fun _ _ _ h => h) (Or.inr ⟨by rfl, rfl⟩) hS4 ?_
    simp only [Act.put, List.setIfInBounds_toArray, List.set_cons_zero, List.set_cons_succ]
    refine wpAnyH_takeD (i := 8) (v := undef) (some 14) rfl rfl (by kernel_rfl) (by kernel_rfl) (by kernel_rfl) (fun _ _ _ h => h) (Or.inr ⟨by rfl, rfl⟩) hS4 ?_
    simp only [Act.put, List.setIfInBounds_toArray, List.set_cons_zero, List.set_cons_succ]
    refine wpAnyH_takeD (i := 9) (v := undef) (some 15) rfl rfl (by kernel_rfl) (by kernel_rfl) (by kernel_rfl) (fun _ _ _ h => h) (Or.inr ⟨by rfl, rfl⟩) hS4 ?_
    simp only [Act.put, List.setIfInBounds_toArray, List.set_cons_zero, List.set_cons_succ]
    refine wpAnyH_takeD (i := 10) (v := .bool false) (some 16) rfl rfl (by kernel_rfl) (by kernel_rfl) (by kernel_rfl) (fun _ _ _ h => h) (Or.inl ⟨by rfl, by intro W _; go_simp⟩) hS4 ?_
    simp only [Act.put, List.setIfInBounds_toArray, List.set_cons_zero, List.set_cons_succ]
    refine wpAnyH_takeD (i := 11) (v := .bool false) (some 17) rfl rfl (by kernel_rfl) (by kernel_rfl) (by kernel_rfl) (fun _ _ _ h => h) (Or.inl ⟨by rfl, by intro W _; go_simp⟩) hS4 ?_
    simp only [Act.put, List.setIfInBounds_toArray, List.set_cons_zero, List.set_cons_succ]
    refine wpAnyH_takeD (i := 12) (v := undef) (some 18) rfl rfl (by kernel_rfl) (by kernel_rfl) (by kernel_rfl) (fun _ _ _ h => h) (Or.inr ⟨by rfl, rfl⟩) hS4 ?_
    simp only [Act.put, List.setIfInBounds_toArray, List.set_cons_zero, List.set_cons_succ]
    refine wpAnyH_takeD (i := 13) (v := undef) (some 19) rfl rfl (by kernel_rfl) (by kernel_rfl) (by kernel_rfl) (fun _ _ _ h => h) (Or.inr ⟨by rfl, rfl⟩) hS4 ?_
    simp only [Act.put, List.setIfInBounds_toArray, List.set_cons_zero, List.set_cons_succ]
    refine wpAnyH_takeD (i := 14) (v := undef) (some 20) rfl rfl (by kernel_rfl) (by kernel_rfl) (by kernel_rfl) (fun _ _ _ h => h) (Or.inr ⟨by rfl, rfl⟩) hS4 ?_
    simp only [Act.put, List.setIfInBounds_toArray, List.set_cons_zero, List.set_cons_succ]
    refine wpAnyH_takeD (i := 15) (v := undef) (some 21) rfl rfl (by kernel_rfl) (by kernel_rfl) (by kernel_rfl) (fun _ _ _ h => h) (Or.inr ⟨by rfl, rfl⟩) hS4 ?_
    simp only [Act.put, List.setIfInBounds_toArray, List.set_cons_zero, List.set_cons_succ]
    refine wpAnyH_takeD (i := 16) (v := undef) (some 22) rfl rfl (by kernel_rfl) (by kernel_rfl) (by kernel_rfl) (fun _ _ _ h => h) (Or.inr ⟨by rfl, rfl⟩) hS4 ?_
    simp only [Act.put, List.setIfInBounds_toArray, List.set_cons_zero, List.set_cons_succ]
    refine wpAnyH_takeD (i := 17) (v := undef) (some 23) rfl rfl (by kernel_rfl) (by kernel_rfl) (by kernel_rfl) (fun _ _ _ h => h) (Or.inr ⟨by rfl, rfl⟩) hS4 ?_
    simp only [Act.put, List.setIfInBounds_toArray, List.set_cons_zero, List.set_cons_succ]
    refine wpAnyH_takeD (i := 18) (v := .bool false) (some 24) rfl rfl (by kernel_rfl) (by kernel_rfl) (by kernel_rfl) (fun _ _ _ h => h) (Or.inl ⟨by rfl, by intro W _; go_simp⟩) hS4 ?_
    simp only [Act.put, List.setIfInBounds_toArray, List.set_cons_zero, List.set_cons_succ]
    refine wpAnyH_takeD (i := 19) (v := .bool false) (some 2) rfl rfl (by kernel_rfl) (by kernel_rfl) (by kernel_rfl) (fun _ _ _ h => h) (Or.inl ⟨by rfl, by intro W _; go_simp⟩) hS4 ?_
    simp only [Act.put, List.setIfInBounds_toArray, List.set_cons_zero, List.set_cons_succ]
    clear hS4
    refine wpAnyH_done (by kernel_rfl) ?_ _
    go_wp2_with fail
    go_ret
    refine ⟨false, rfl, ?_, hb4⟩
    have zHur := Hur.out
    have zHB := HB0.out
    unfold BanP
    simp_all
  | true =>
    have Hur : Hid (PathOk a) := htur.1 rfl
    clear htur
    refine wpAnyH_takeD (i := 7) (v := .pointer (some ⟨qv1, 3, none⟩)) (some 13) rfl rfl (by kernel_rfl) (by kernel_rfl) (by kernel_rfl) (fun _ _ _ h => h) (Or.inl ⟨by rfl, by intro W _; go_simp⟩) hS4 ?_
    simp only [Act.put, List.setIfInBounds_toArray, List.set_cons_zero, List.set_cons_succ]
    refine wpAnyH_takeD (i := 8) (v := .int .i64 t) (some 14) rfl rfl (by kernel_rfl) (by kernel_rfl) (by kernel_rfl) (fun _ _ _ h => h) (Or.inl ⟨by rfl, by intro W hW; have hhv1 := hW; have y3 := (cell_of hhv1 3).trans rfl; go_simp⟩) hS4 ?_
    simp only [Act.put, List.setIfInBounds_toArray, List.set_cons_zero, List.set_cons_succ]
    refine wpAnyH_ready (rs := [9]) (by kernel_rfl) (by simp) ?_
    refine AllReadyH.cons rfl (fun K hK => ?_) AllReadyH.nil
    go_simp
    refine (timeOk_any t _).mono ?_
    rintro e w5 ⟨rfl, hwe⟩
    have bw : Below (w4).heap.size (w4) w5 := by rw [hwe]; exact Below.refl _ _
    clear hwe
    obtain ⟨ut, hut⟩ : ∃ u, u = decide ((0 : Int) ≤ t ∧ t ≤ 1000000) := ⟨_, rfl⟩
    rw [← hut]
    have hb5 : Below w.heap.size w (w5) := hb4.trans (bw.mono hb4.size)
    have HM5 : Hid ((w4).heap.size ≤ (w5).heap.size) := bw.size
    have HBv1_5 : Hid ((w5).heap[qv1]? = some (.cells #[.int .i64 2, .string a, .string b, .int .i64 t] 25)) := blk_below HBv1_4.out bw
    clear hb4 HBv1_4 bw
    have hS5 : w5.heap[qv1]? = some (.cells #[.int .i64 2, .string a, .string b, .int .i64 t] 25) := HBv1_5.out
    refine hK.out _ _ hS5 (fun _ => ?_)
    clear hK K hS4
    refine wpAnyH_takeD (i := 10) (v := .bool ut) (some 16) rfl rfl (by kernel_rfl) (by kernel_rfl) (by kernel_rfl) (fun _ _ _ h => h) (Or.inl ⟨by rfl, by intro W _; go_simp⟩) hS5 ?_
    simp only [Act.put, List.setIfInBounds_toArray, List.set_cons_zero, List.set_cons_succ]
    refine wpAnyH_takeD (i := 11) (v := .bool ut) (some 17) rfl rfl (by kernel_rfl) (by kernel_rfl) (by kernel_rfl) (fun _ _ _ h => h) (Or.inl ⟨by rfl, by intro W _; go_simp⟩) hS5 ?_
    simp only [Act.put, List.setIfInBounds_toArray, List.set_cons_zero, List.set_cons_succ]
    cases ut with
    | false =>
      have Hut : Hid (¬ (0 ≤ t ∧ t ≤ 1000000)) := (show ¬ (0 ≤ t ∧ t ≤ 1000000) from of_decide_eq_false hut.symm)
      clear hut
      refine wpAnyH_takeD (i := 12) (v := undef) (some 18) rfl rfl (by kernel_rfl) (by kernel_rfl) (by kernel_rfl) (fun _ _ _ h => h) (Or.inr ⟨by rfl, rfl⟩) hS5 ?_
      simp only [Act.put, List.setIfInBounds_toArray, List.set_cons_zero, List.set_cons_succ]
      refine wpAnyH_takeD (i := 13) (v := undef) (some 19) rfl rfl (by kernel_rfl) (by kernel_rfl) (by kernel_rfl) (fun _ _ _ h => h) (Or.inr ⟨by rfl, rfl⟩) hS5 ?_
      simp only [Act.put, List.setIfInBounds_toArray, List.set_cons_zero, List.set_cons_succ]
      refine wpAnyH_takeD (i := 14) (v := undef) (some 20) rfl rfl (by kernel_rfl) (by kernel_rfl) (by kernel_rfl) (fun _ _ _ h => h) (Or.inr ⟨by rfl, rfl⟩) hS5 ?_
      simp only [Act.put, List.setIfInBounds_toArray, List.set_cons_zero, List.set_cons_succ]
      refine wpAnyH_takeD (i := 15) (v := undef) (some 21) rfl rfl (by kernel_rfl) (by kernel_rfl) (by kernel_rfl) (fun _ _ _ h => h) (Or.inr ⟨by rfl, rfl⟩) hS5 ?_
      simp only [Act.put, List.setIfInBounds_toArray, List.set_cons_zero, List.set_cons_succ]
      refine wpAnyH_takeD (i := 16) (v := undef) (some 22) rfl rfl (by kernel_rfl) (by kernel_rfl) (by kernel_rfl) (fun _ _ _ h => h) (Or.inr ⟨by rfl, rfl⟩) hS5 ?_
      simp only [Act.put, List.setIfInBounds_toArray, List.set_cons_zero, List.set_cons_succ]
      refine wpAnyH_takeD (i := 17) (v := undef) (some 23) rfl rfl (by kernel_rfl) (by kernel_rfl) (by kernel_rfl) (fun _ _ _ h => h) (Or.inr ⟨by rfl, rfl⟩) hS5 ?_
      simp only [Act.put, List.setIfInBounds_toArray, List.set_cons_zero, List.set_cons_succ]
      refine wpAnyH_takeD (i := 18) (v := .bool false) (some 24) rfl rfl (by kernel_rfl) (by kernel_rfl) (by kernel_rfl) (fun _ _ _ h => h) (Or.inl ⟨by rfl, by intro W _; go_simp⟩) hS5 ?_
      simp only [Act.put, List.setIfInBounds_toArray, List.set_cons_zero, List.set_cons_succ]
      refine wpAnyH_takeD (i := 19) (v := .bool false) (some 2) rfl rfl (by kernel_rfl) (by kernel_rfl) (by kernel_rfl) (fun _ _ _ h => h) (Or.inl ⟨by rfl, by intro W _; go_simp⟩) hS5 ?_
      simp only [Act.put, List.setIfInBounds_toArray, List.set_cons_zero, List.set_cons_succ]
      clear hS5
      refine wpAnyH_done (by kernel_rfl) ?_ _
      go_wp2_with fail
      go_ret
      refine ⟨false, rfl, ?_, hb5⟩
      have zHur := Hur.out
      have zHut := Hut.out
      have zHB := HB0.out
      unfold BanP
      simp_all
    | true =>
      have Hut : Hid (0 ≤ t ∧ t ≤ 1000000) := (show 0 ≤ t ∧ t ≤ 1000000 from of_decide_eq_true hut.symm)
      clear hut
      refine wpAnyH_takeD (i := 12) (v := .iface 69 (.agg #[.string a])) (some 18) rfl rfl (by kernel_rfl) (by kernel_rfl) (by kernel_rfl) (fun _ _ _ h => h) (Or.inl ⟨by rfl, by intro W _; go_simp⟩) hS5 ?_
      simp only [Act.put, List.setIfInBounds_toArray, List.set_cons_zero, List.set_cons_succ]
      refine wpAnyH_takeD (i := 13) (v := .pointer (some ⟨qv1, 3, none⟩)) (some 19) rfl rfl (by kernel_rfl) (by kernel_rfl) (by kernel_rfl) (fun _ _ _ h => h) (Or.inl ⟨by rfl, by intro W _; go_simp⟩) hS5 ?_
      simp only [Act.put, List.setIfInBounds_toArray, List.set_cons_zero, List.set_cons_succ]
      refine wpAnyH_takeD (i := 14) (v := .int .i64 t) (some 20) rfl rfl (by kernel_rfl) (by kernel_rfl) (by kernel_rfl) (fun _ _ _ h => h) (Or.inl ⟨by rfl, by intro W hW; have hhv1 := hW; have y3 := (cell_of hhv1 3).trans rfl; go_simp⟩) hS5 ?_
      simp only [Act.put, List.setIfInBounds_toArray, List.set_cons_zero, List.set_cons_succ]
      refine wpAnyH_takeD (i := 16) (v := .agg #[.int .i64 2, .string a, .string b, .int .i64 t]) (some 22) rfl rfl (by kernel_rfl) (by kernel_rfl) (by kernel_rfl) (fun _ _ _ h => h) (Or.inl ⟨by rfl, by intro W hW; have hhv1 := hW; have y0 := (cell_of hhv1 0).trans rfl; have y1 := (cell_of hhv1 1).trans rfl; have y2 := (cell_of hhv1 2).trans rfl; have y3 := (cell_of hhv1 3).trans rfl; go_simp⟩) hS5 ?_
      simp only [Act.put, List.setIfInBounds_toArray, List.set_cons_zero, List.set_cons_succ]
      refine wpAnyH_ready (rs := [15]) (by kernel_rfl) (by simp) ?_
      refine AllReadyH.cons rfl (fun K hK => ?_) AllReadyH.nil
      go_simp
      refine (banOf_2 a t _).mono ?_
      rintro e w6 ⟨rfl, bw⟩
      have hb6 : Below w.heap.size w (w6) := hb5.trans (bw.mono hb5.size)
      have HM6 : Hid ((w5).heap.size ≤ (w6).heap.size) := bw.size
      have HBv1_6 : Hid ((w6).heap[qv1]? = some (.cells #[.int .i64 2, .string a, .string b, .int .i64 t] 25)) := blk_below HBv1_5.out bw
      clear hb5 HBv1_5 bw
      have hS6 : w6.heap[qv1]? = some (.cells #[.int .i64 2, .string a, .string b, .int .i64 t] 25) := HBv1_6.out
      refine hK.out _ _ hS6 (fun _ => ?_)
      clear hK K hS5
      refine wpAnyH_takeD (i := 17) (v := .bool false) (some 23) rfl rfl (by kernel_rfl) (by kernel_rfl) (by kernel_rfl) (fun _ _ _ h => h) (Or.inl ⟨by rfl, by intro W _; go_simp⟩) hS6 ?_
      simp only [Act.put, List.setIfInBounds_toArray, List.set_cons_zero, List.set_cons_succ]
      refine wpAnyH_takeD (i := 18) (v := .bool false) (some 24) rfl rfl (by kernel_rfl) (by kernel_rfl) (by kernel_rfl) (fun _ _ _ h => h) (Or.inl ⟨by rfl, by intro W _; go_simp⟩) hS6 ?_
      simp only [Act.put, List.setIfInBounds_toArray, List.set_cons_zero, List.set_cons_succ]
      refine wpAnyH_takeD (i := 19) (v := .bool false) (some 2) rfl rfl (by kernel_rfl) (by kernel_rfl) (by kernel_rfl) (fun _ _ _ h => h) (Or.inl ⟨by rfl, by intro W _; go_simp⟩) hS6 ?_
      simp only [Act.put, List.setIfInBounds_toArray, List.set_cons_zero, List.set_cons_succ]
      clear hS6
      refine wpAnyH_done (by kernel_rfl) ?_ _
      go_wp2_with fail
      go_ret
      refine ⟨false, rfl, ?_, hb6⟩
      have zHur := Hur.out
      have zHut := Hut.out
      have zHB := HB0.out
      unfold BanP
      simp_all

set_option maxHeartbeats 8000000 in
set_option maxRecDepth 100000 in
theorem implBanOk_3 (a b : ByteArray) (t : Int) (w : World) (ha : a.size ≤ maxLen) (hb : b.size ≤ maxLen) :
    Calls Tryd.prog 10 #[.agg #[.int .i64 3, .string a, .string b, .int .i64 t]] w fun e w' => BoolIs (BanP 3 a b t) w e w' := by
  classical
  have HAM : Hid (a.size ≤ maxLen) := ha
  have HBM : Hid (b.size ≤ maxLen) := hb
  have hnn : ∀ W : World, (binOp .neq 44 (.iface 71 (.agg #[.string a, .string b])) .nilIface).run Tryd.prog W = .ok (.bool true) W := fun _ => by kernel_rfl
  have hna : ∀ W : World, (nilAhead 157 71 (.agg #[.string a, .string b]) "loop.example/g00239/impl.right").run Tryd.prog W = .ok (some false) W := fun _ => by kernel_rfl
  have hmt : ∀ W : World, (method 157 71 (.agg #[.string a, .string b]) "loop.example/g00239/impl.right").run Tryd.prog W = .ok (108, .agg #[.string a, .string b]) W := fun _ => by kernel_rfl
  have hgb := guardBan
  have hqe : ∀ W : World, (binOp .eql 25 (.agg #[.int .i64 3, .string a, .string b, .int .i64 t]) (.agg #[.int .i64 3, .string a, .string b, .int .i64 t])).run Tryd.prog W = .ok (.bool true) W := fun W => by
    rw [eqlBan]
    first | (simp; done) | (have z := HB0.out; simp; exact fun e => z e.symm)
  clear ha hb
  have hb0 : Below w.heap.size w w := Below.refl _ _
  go_enter Tryd.func10, Tryd.ntmps10
  go_upto_region 1 with fail
  obtain ⟨qv1, hqv1⟩ : ∃ q, q = (w).heap.size := ⟨_, rfl⟩
  obtain ⟨w1, hW1⟩ : ∃ W, W = (w).alloc (.cells #[.int .i64 3, .string a, .string b, .int .i64 t] 25) := ⟨_, rfl⟩
  have hz1 : (w).heap.size = qv1 := hqv1.symm
  first | rw [← hW1, ← hqv1] | rw [← hW1]
  have hs1 : w1.heap.size = qv1 + 1 := by rw [hW1, ← hz1]; simp
  have bw : Below (w).heap.size (w) w1 := by rw [hW1]; exact (Below.refl _ _).alloc (Nat.le_refl _) _
  have hb1 : Below w.heap.size w (w1) := hb0.trans (bw.mono hb0.size)
  have HM1 : Hid ((w).heap.size ≤ (w1).heap.size) := bw.size
  have HBv1_1 : Hid ((w1).heap[qv1]? = some (.cells #[.int .i64 3, .string a, .string b, .int .i64 t] 25)) := by show _ = _; rw [hW1, ← hz1]; exact heap_alloc_new _ _
  have HGv1 : Hid (w.heap.size ≤ qv1) := by show _ ≤ _; rw [← hz1]; exact hb0.size
  clear hb0 bw hW1 hz1
  clear hs1 hqv1
  have cv1_0 : (w1).cell? ⟨qv1, 0, none⟩ = some (.int .i64 3) := (cell_of HBv1_1.out 0).trans rfl
  have cv1_1 : (w1).cell? ⟨qv1, 1, none⟩ = some (.string a) := (cell_of HBv1_1.out 1).trans rfl
  have cv1_2 : (w1).cell? ⟨qv1, 2, none⟩ = some (.string b) := (cell_of HBv1_1.out 2).trans rfl
  have cv1_3 : (w1).cell? ⟨qv1, 3, none⟩ = some (.int .i64 t) := (cell_of HBv1_1.out 3).trans rfl
  go_wp2_with fail
  refine (ruleOf_3 a b t _).mono ?_
  rintro e w2 ⟨rfl, bw⟩
  have hb2 : Below w.heap.size w (w2) := hb1.trans (bw.mono hb1.size)
  have HM2 : Hid ((w1).heap.size ≤ (w2).heap.size) := bw.size
  have HBv1_2 : Hid ((w2).heap[qv1]? = some (.cells #[.int .i64 3, .string a, .string b, .int .i64 t] 25)) := blk_below HBv1_1.out bw
  clear hb1 HBv1_1 bw
  clear cv1_0 cv1_1 cv1_2 cv1_3
  go_upto_region 2 with fail
  refine wp_region_held_drew (S := fun W => W.heap[qv1]? = some (.cells #[.int .i64 3, .string a, .string b, .int .i64 t] 25)) (by kernel_rfl) HBv1_2.out (fun _ => ?_)
  obtain ⟨w3, hX⟩ : ∃ X, X = w2.drew := ⟨_, rfl⟩
  have bw : Below w2.heap.size w2 w3 := by rw [hX]; exact (Below.refl _ _).drew
  rw [← hX]
  have hb3 : Below w.heap.size w (w3) := hb2.trans (bw.mono hb2.size)
  have HM3 : Hid ((w2).heap.size ≤ (w3).heap.size) := bw.size
  have HBv1_3 : Hid ((w3).heap[qv1]? = some (.cells #[.int .i64 3, .string a, .string b, .int .i64 t] 25)) := blk_below HBv1_2.out bw
  have hS3 : w3.heap[qv1]? = some (.cells #[.int .i64 3, .string a, .string b, .int .i64 t] 25) := HBv1_3.out
  clear hb2 HBv1_2 bw hX
  refine wpAnyH_takeD (i := 0) (v := .iface 71 (.agg #[.string a, .string b])) (some 6) rfl rfl (by kernel_rfl) (by kernel_rfl) (by kernel_rfl) (fun _ _ _ h => h) (Or.inl ⟨by rfl, by intro W _; go_simp⟩) hS3 ?_
  simp only [Act.put, List.setIfInBounds_toArray, List.set_cons_zero, List.set_cons_succ]
  refine wpAnyH_takeD (i := 1) (v := .bool true) (some 7) rfl rfl (by kernel_rfl) (by kernel_rfl) (by kernel_rfl) (fun _ _ _ h => h) (Or.inl ⟨by rfl, by intro W _; go_simp⟩) hS3 ?_
  simp only [Act.put, List.setIfInBounds_toArray, List.set_cons_zero, List.set_cons_succ]
  refine wpAnyH_takeD (i := 2) (v := .bool true) (some 8) rfl rfl (by kernel_rfl) (by kernel_rfl) (by kernel_rfl) (fun _ _ _ h => h) (Or.inl ⟨by rfl, by intro W _; go_simp⟩) hS3 ?_
  simp only [Act.put, List.setIfInBounds_toArray, List.set_cons_zero, List.set_cons_succ]
  refine wpAnyH_takeD (i := 3) (v := .iface 71 (.agg #[.string a, .string b])) (some 9) rfl rfl (by kernel_rfl) (by kernel_rfl) (by kernel_rfl) (fun _ _ _ h => h) (Or.inl ⟨by rfl, by intro W _; go_simp⟩) hS3 ?_
  simp only [Act.put, List.setIfInBounds_toArray, List.set_cons_zero, List.set_cons_succ]
  refine wpAnyH_ready (rs := [4]) (by kernel_rfl) (by simp) ?_
  refine AllReadyH.cons rfl (fun K hK => ?_) AllReadyH.nil
  go_simp
  refine (right_3 a b _ HAM.out HBM.out).mono ?_
  rintro e w4 ⟨ur, rfl, htur, bw⟩
  have hb4 : Below w.heap.size w (w4) := hb3.trans (bw.mono hb3.size)
  have HM4 : Hid ((w3).heap.size ≤ (w4).heap.size) := bw.size
  have HBv1_4 : Hid ((w4).heap[qv1]? = some (.cells #[.int .i64 3, .string a, .string b, .int .i64 t] 25)) := blk_below HBv1_3.out bw
  clear hb3 HBv1_3 bw
  have hS4 : w4.heap[qv1]? = some (.cells #[.int .i64 3, .string a, .string b, .int .i64 t] 25) := HBv1_4.out
  refine hK.out _ _ hS4 (fun _ => ?_)
  clear hK K hS3
  refine wpAnyH_takeD (i := 5) (v := .bool ur) (some 11) rfl rfl (by kernel_rfl) (by kernel_rfl) (by kernel_rfl) (fun _ _ _ h => h) (Or.inl ⟨by rfl, by intro W _; go_simp⟩) hS4 ?_
  simp only [Act.put, List.setIfInBounds_toArray, List.set_cons_zero, List.set_cons_succ]
  refine wpAnyH_takeD (i := 6) (v := .bool ur) (some 12) rfl rfl (by kernel_rfl) (by kernel_rfl) (by kernel_rfl) (fun _ _ _ h => h) (Or.inl ⟨by rfl, by intro W _; go_simp⟩) hS4 ?_
  simp only [Act.put, List.setIfInBounds_toArray, List.set_cons_zero, List.set_cons_succ]
  cases ur with
  | false =>
    have Hur : Hid (¬ (TokOk a ∧ ValOk b)) := fun h => nomatch htur.2 h
    clear htur
    refine wpAnyH_takeD (i := 7) (v := undef) (some 13) rfl rfl (by kernel_rfl) (by kernel_rfl) (by kernel_rfl) (fun _ _ _ h => h) (Or.inr ⟨by rfl, rfl⟩) hS4 ?_
    simp only [Act.put, List.setIfInBounds_toArray, List.set_cons_zero, List.set_cons_succ]
    refine wpAnyH_takeD (i := 8) (v := undef) (some 14) rfl rfl (by kernel_rfl) (by kernel_rfl) (by kernel_rfl) (fun _ _ _ h => h) (Or.inr ⟨by rfl, rfl⟩) hS4 ?_
    simp only [Act.put, List.setIfInBounds_toArray, List.set_cons_zero, List.set_cons_succ]
    refine wpAnyH_takeD (i := 9) (v := undef) (some 15) rfl rfl (by kernel_rfl) (by kernel_rfl) (by kernel_rfl) (fun _ _ _ h => h) (Or.inr ⟨by rfl, rfl⟩) hS4 ?_
    simp only [Act.put, List.setIfInBounds_toArray, List.set_cons_zero, List.set_cons_succ]
    refine wpAnyH_takeD (i := 10) (v := .bool false) (some 16) rfl rfl (by kernel_rfl) (by kernel_rfl) (by kernel_rfl) (fun _ _ _ h => h) (Or.inl ⟨by rfl, by intro W _; go_simp⟩) hS4 ?_
    simp only [Act.put, List.setIfInBounds_toArray, List.set_cons_zero, List.set_cons_succ]
    refine wpAnyH_takeD (i := 11) (v := .bool false) (some 17) rfl rfl (by kernel_rfl) (by kernel_rfl) (by kernel_rfl) (fun _ _ _ h => h) (Or.inl ⟨by rfl, by intro W _; go_simp⟩) hS4 ?_
    simp only [Act.put, List.setIfInBounds_toArray, List.set_cons_zero, List.set_cons_succ]
    refine wpAnyH_takeD (i := 12) (v := undef) (some 18) rfl rfl (by kernel_rfl) (by kernel_rfl) (by kernel_rfl) (fun _ _ _ h => h) (Or.inr ⟨by rfl, rfl⟩) hS4 ?_
    simp only [Act.put, List.setIfInBounds_toArray, List.set_cons_zero, List.set_cons_succ]
    refine wpAnyH_takeD (i := 13) (v := undef) (some 19) rfl rfl (by kernel_rfl) (by kernel_rfl) (by kernel_rfl) (fun _ _ _ h => h) (Or.inr ⟨by rfl, rfl⟩) hS4 ?_
    simp only [Act.put, List.setIfInBounds_toArray, List.set_cons_zero, List.set_cons_succ]
    refine wpAnyH_takeD (i := 14) (v := undef) (some 20) rfl rfl (by kernel_rfl) (by kernel_rfl) (by kernel_rfl) (fun _ _ _ h => h) (Or.inr ⟨by rfl, rfl⟩) hS4 ?_
    simp only [Act.put, List.setIfInBounds_toArray, List.set_cons_zero, List.set_cons_succ]
    refine wpAnyH_takeD (i := 15) (v := undef) (some 21) rfl rfl (by kernel_rfl) (by kernel_rfl) (by kernel_rfl) (fun _ _ _ h => h) (Or.inr ⟨by rfl, rfl⟩) hS4 ?_
    simp only [Act.put, List.setIfInBounds_toArray, List.set_cons_zero, List.set_cons_succ]
    refine wpAnyH_takeD (i := 16) (v := undef) (some 22) rfl rfl (by kernel_rfl) (by kernel_rfl) (by kernel_rfl) (fun _ _ _ h => h) (Or.inr ⟨by rfl, rfl⟩) hS4 ?_
    simp only [Act.put, List.setIfInBounds_toArray, List.set_cons_zero, List.set_cons_succ]
    refine wpAnyH_takeD (i := 17) (v := undef) (some 23) rfl rfl (by kernel_rfl) (by kernel_rfl) (by kernel_rfl) (fun _ _ _ h => h) (Or.inr ⟨by rfl, rfl⟩) hS4 ?_
    simp only [Act.put, List.setIfInBounds_toArray, List.set_cons_zero, List.set_cons_succ]
    refine wpAnyH_takeD (i := 18) (v := .bool false) (some 24) rfl rfl (by kernel_rfl) (by kernel_rfl) (by kernel_rfl) (fun _ _ _ h => h) (Or.inl ⟨by rfl, by intro W _; go_simp⟩) hS4 ?_
    simp only [Act.put, List.setIfInBounds_toArray, List.set_cons_zero, List.set_cons_succ]
    refine wpAnyH_takeD (i := 19) (v := .bool false) (some 2) rfl rfl (by kernel_rfl) (by kernel_rfl) (by kernel_rfl) (fun _ _ _ h => h) (Or.inl ⟨by rfl, by intro W _; go_simp⟩) hS4 ?_
    simp only [Act.put, List.setIfInBounds_toArray, List.set_cons_zero, List.set_cons_succ]
    clear hS4
    refine wpAnyH_done (by kernel_rfl) ?_ _
    go_wp2_with fail
    go_ret
    refine ⟨false, rfl, ?_, hb4⟩
    have zHur := Hur.out
    unfold BanP
    simp_all
  | true =>
    have Hur : Hid (TokOk a ∧ ValOk b) := htur.1 rfl
    clear htur
    refine wpAnyH_takeD (i := 7) (v := .pointer (some ⟨qv1, 3, none⟩)) (some 13) rfl rfl (by kernel_rfl) (by kernel_rfl) (by kernel_rfl) (fun _ _ _ h => h) (Or.inl ⟨by rfl, by intro W _; go_simp⟩) hS4 ?_
    simp only [Act.put, List.setIfInBounds_toArray, List.set_cons_zero, List.set_cons_succ]
    refine wpAnyH_takeD (i := 8) (v := .int .i64 t) (some 14) rfl rfl (by kernel_rfl) (by kernel_rfl) (by kernel_rfl) (fun _ _ _ h => h) (Or.inl ⟨by rfl, by intro W hW; have hhv1 := hW; have y3 := (cell_of hhv1 3).trans rfl; go_simp⟩) hS4 ?_
    simp only [Act.put, List.setIfInBounds_toArray, List.set_cons_zero, List.set_cons_succ]
    refine wpAnyH_ready (rs := [9]) (by kernel_rfl) (by simp) ?_
    refine AllReadyH.cons rfl (fun K hK => ?_) AllReadyH.nil
    go_simp
    refine (timeOk_any t _).mono ?_
    rintro e w5 ⟨rfl, hwe⟩
    have bw : Below (w4).heap.size (w4) w5 := by rw [hwe]; exact Below.refl _ _
    clear hwe
    obtain ⟨ut, hut⟩ : ∃ u, u = decide ((0 : Int) ≤ t ∧ t ≤ 1000000) := ⟨_, rfl⟩
    rw [← hut]
    have hb5 : Below w.heap.size w (w5) := hb4.trans (bw.mono hb4.size)
    have HM5 : Hid ((w4).heap.size ≤ (w5).heap.size) := bw.size
    have HBv1_5 : Hid ((w5).heap[qv1]? = some (.cells #[.int .i64 3, .string a, .string b, .int .i64 t] 25)) := blk_below HBv1_4.out bw
    clear hb4 HBv1_4 bw
    have hS5 : w5.heap[qv1]? = some (.cells #[.int .i64 3, .string a, .string b, .int .i64 t] 25) := HBv1_5.out
    refine hK.out _ _ hS5 (fun _ => ?_)
    clear hK K hS4
    refine wpAnyH_takeD (i := 10) (v := .bool ut) (some 16) rfl rfl (by kernel_rfl) (by kernel_rfl) (by kernel_rfl) (fun _ _ _ h => h) (Or.inl ⟨by rfl, by intro W _; go_simp⟩) hS5 ?_
    simp only [Act.put, List.setIfInBounds_toArray, List.set_cons_zero, List.set_cons_succ]
    refine wpAnyH_takeD (i := 11) (v := .bool ut) (some 17) rfl rfl (by kernel_rfl) (by kernel_rfl) (by kernel_rfl) (fun _ _ _ h => h) (Or.inl ⟨by rfl, by intro W _; go_simp⟩) hS5 ?_
    simp only [Act.put, List.setIfInBounds_toArray, List.set_cons_zero, List.set_cons_succ]
    cases ut with
    | false =>
      have Hut : Hid (¬ (0 ≤ t ∧ t ≤ 1000000)) := (show ¬ (0 ≤ t ∧ t ≤ 1000000) from of_decide_eq_false hut.symm)
      clear hut
      refine wpAnyH_takeD (i := 12) (v := undef) (some 18) rfl rfl (by kernel_rfl) (by kernel_rfl) (by kernel_rfl) (fun _ _ _ h => h) (Or.inr ⟨by rfl, rfl⟩) hS5 ?_
      simp only [Act.put, List.setIfInBounds_toArray, List.set_cons_zero, List.set_cons_succ]
      refine wpAnyH_takeD (i := 13) (v := undef) (some 19) rfl rfl (by kernel_rfl) (by kernel_rfl) (by kernel_rfl) (fun _ _ _ h => h) (Or.inr ⟨by rfl, rfl⟩) hS5 ?_
      simp only [Act.put, List.setIfInBounds_toArray, List.set_cons_zero, List.set_cons_succ]
      refine wpAnyH_takeD (i := 14) (v := undef) (some 20) rfl rfl (by kernel_rfl) (by kernel_rfl) (by kernel_rfl) (fun _ _ _ h => h) (Or.inr ⟨by rfl, rfl⟩) hS5 ?_
      simp only [Act.put, List.setIfInBounds_toArray, List.set_cons_zero, List.set_cons_succ]
      refine wpAnyH_takeD (i := 15) (v := undef) (some 21) rfl rfl (by kernel_rfl) (by kernel_rfl) (by kernel_rfl) (fun _ _ _ h => h) (Or.inr ⟨by rfl, rfl⟩) hS5 ?_
      simp only [Act.put, List.setIfInBounds_toArray, List.set_cons_zero, List.set_cons_succ]
      refine wpAnyH_takeD (i := 16) (v := undef) (some 22) rfl rfl (by kernel_rfl) (by kernel_rfl) (by kernel_rfl) (fun _ _ _ h => h) (Or.inr ⟨by rfl, rfl⟩) hS5 ?_
      simp only [Act.put, List.setIfInBounds_toArray, List.set_cons_zero, List.set_cons_succ]
      refine wpAnyH_takeD (i := 17) (v := undef) (some 23) rfl rfl (by kernel_rfl) (by kernel_rfl) (by kernel_rfl) (fun _ _ _ h => h) (Or.inr ⟨by rfl, rfl⟩) hS5 ?_
      simp only [Act.put, List.setIfInBounds_toArray, List.set_cons_zero, List.set_cons_succ]
      refine wpAnyH_takeD (i := 18) (v := .bool false) (some 24) rfl rfl (by kernel_rfl) (by kernel_rfl) (by kernel_rfl) (fun _ _ _ h => h) (Or.inl ⟨by rfl, by intro W _; go_simp⟩) hS5 ?_
      simp only [Act.put, List.setIfInBounds_toArray, List.set_cons_zero, List.set_cons_succ]
      refine wpAnyH_takeD (i := 19) (v := .bool false) (some 2) rfl rfl (by kernel_rfl) (by kernel_rfl) (by kernel_rfl) (fun _ _ _ h => h) (Or.inl ⟨by rfl, by intro W _; go_simp⟩) hS5 ?_
      simp only [Act.put, List.setIfInBounds_toArray, List.set_cons_zero, List.set_cons_succ]
      clear hS5
      refine wpAnyH_done (by kernel_rfl) ?_ _
      go_wp2_with fail
      go_ret
      refine ⟨false, rfl, ?_, hb5⟩
      have zHur := Hur.out
      have zHut := Hut.out
      unfold BanP
      simp_all
    | true =>
      have Hut : Hid (0 ≤ t ∧ t ≤ 1000000) := (show 0 ≤ t ∧ t ≤ 1000000 from of_decide_eq_true hut.symm)
      clear hut
      refine wpAnyH_takeD (i := 12) (v := .iface 71 (.agg #[.string a, .string b])) (some 18) rfl rfl (by kernel_rfl) (by kernel_rfl) (by kernel_rfl) (fun _ _ _ h => h) (Or.inl ⟨by rfl, by intro W _; go_simp⟩) hS5 ?_
      simp only [Act.put, List.setIfInBounds_toArray, List.set_cons_zero, List.set_cons_succ]
      refine wpAnyH_takeD (i := 13) (v := .pointer (some ⟨qv1, 3, none⟩)) (some 19) rfl rfl (by kernel_rfl) (by kernel_rfl) (by kernel_rfl) (fun _ _ _ h => h) (Or.inl ⟨by rfl, by intro W _; go_simp⟩) hS5 ?_
      simp only [Act.put, List.setIfInBounds_toArray, List.set_cons_zero, List.set_cons_succ]
      refine wpAnyH_takeD (i := 14) (v := .int .i64 t) (some 20) rfl rfl (by kernel_rfl) (by kernel_rfl) (by kernel_rfl) (fun _ _ _ h => h) (Or.inl ⟨by rfl, by intro W hW; have hhv1 := hW; have y3 := (cell_of hhv1 3).trans rfl; go_simp⟩) hS5 ?_
      simp only [Act.put, List.setIfInBounds_toArray, List.set_cons_zero, List.set_cons_succ]
      refine wpAnyH_takeD (i := 16) (v := .agg #[.int .i64 3, .string a, .string b, .int .i64 t]) (some 22) rfl rfl (by kernel_rfl) (by kernel_rfl) (by kernel_rfl) (fun _ _ _ h => h) (Or.inl ⟨by rfl, by intro W hW; have hhv1 := hW; have y0 := (cell_of hhv1 0).trans rfl; have y1 := (cell_of hhv1 1).trans rfl; have y2 := (cell_of hhv1 2).trans rfl; have y3 := (cell_of hhv1 3).trans rfl; go_simp⟩) hS5 ?_
      simp only [Act.put, List.setIfInBounds_toArray, List.set_cons_zero, List.set_cons_succ]
      refine wpAnyH_ready (rs := [15]) (by kernel_rfl) (by simp) ?_
      refine AllReadyH.cons rfl (fun K hK => ?_) AllReadyH.nil
      go_simp
      refine (banOf_3 a b t _).mono ?_
      rintro e w6 ⟨rfl, bw⟩
      have hb6 : Below w.heap.size w (w6) := hb5.trans (bw.mono hb5.size)
      have HM6 : Hid ((w5).heap.size ≤ (w6).heap.size) := bw.size
      have HBv1_6 : Hid ((w6).heap[qv1]? = some (.cells #[.int .i64 3, .string a, .string b, .int .i64 t] 25)) := blk_below HBv1_5.out bw
      clear hb5 HBv1_5 bw
      have hS6 : w6.heap[qv1]? = some (.cells #[.int .i64 3, .string a, .string b, .int .i64 t] 25) := HBv1_6.out
      refine hK.out _ _ hS6 (fun _ => ?_)
      clear hK K hS5
      refine wpAnyH_takeD (i := 17) (v := .bool true) (some 23) rfl rfl (by kernel_rfl) (by kernel_rfl) (by kernel_rfl) (fun _ _ _ h => h) (Or.inl ⟨by rfl, by intro W _; go_simp⟩) hS6 ?_
      simp only [Act.put, List.setIfInBounds_toArray, List.set_cons_zero, List.set_cons_succ]
      refine wpAnyH_takeD (i := 18) (v := .bool true) (some 24) rfl rfl (by kernel_rfl) (by kernel_rfl) (by kernel_rfl) (fun _ _ _ h => h) (Or.inl ⟨by rfl, by intro W _; go_simp⟩) hS6 ?_
      simp only [Act.put, List.setIfInBounds_toArray, List.set_cons_zero, List.set_cons_succ]
      refine wpAnyH_takeD (i := 19) (v := .bool true) (some 2) rfl rfl (by kernel_rfl) (by kernel_rfl) (by kernel_rfl) (fun _ _ _ h => h) (Or.inl ⟨by rfl, by intro W _; go_simp⟩) hS6 ?_
      simp only [Act.put, List.setIfInBounds_toArray, List.set_cons_zero, List.set_cons_succ]
      clear hS6
      refine wpAnyH_done (by kernel_rfl) ?_ _
      go_wp2_with fail
      go_ret
      refine ⟨true, rfl, ?_, hb6⟩
      have zHur := Hur.out
      have zHut := Hut.out
      unfold BanP
      simp_all

set_option maxHeartbeats 8000000 in
set_option maxRecDepth 100000 in
theorem implBanOk_no (k : Int) (a b : ByteArray) (t : Int) (w : World) (h1 : ¬ k = 1) (h2 : ¬ k = 2) (h3 : ¬ k = 3) :
    Calls Tryd.prog 10 #[.agg #[.int .i64 k, .string a, .string b, .int .i64 t]] w fun e w' => BoolIs (BanP k a b t) w e w' := by
  have HK1 : Hid (¬ k = 1) := h1
  have HK2 : Hid (¬ k = 2) := h2
  have HK3 : Hid (¬ k = 3) := h3
  have hnn : ∀ W : World, (binOp .neq 44 .nilIface .nilIface).run Tryd.prog W = .ok (.bool false) W := fun _ => by kernel_rfl
  clear h1 h2 h3
  have hb0 : Below w.heap.size w w := Below.refl _ _
  go_enter Tryd.func10, Tryd.ntmps10
  go_upto_region 1 with fail
  obtain ⟨qv1, hqv1⟩ : ∃ q, q = (w).heap.size := ⟨_, rfl⟩
  obtain ⟨w1, hW1⟩ : ∃ W, W = (w).alloc (.cells #[.int .i64 k, .string a, .string b, .int .i64 t] 25) := ⟨_, rfl⟩
  have hz1 : (w).heap.size = qv1 := hqv1.symm
  first | rw [← hW1, ← hqv1] | rw [← hW1]
  have hs1 : w1.heap.size = qv1 + 1 := by rw [hW1, ← hz1]; simp
  have bw : Below (w).heap.size (w) w1 := by rw [hW1]; exact (Below.refl _ _).alloc (Nat.le_refl _) _
  have hb1 : Below w.heap.size w (w1) := hb0.trans (bw.mono hb0.size)
  have HM1 : Hid ((w).heap.size ≤ (w1).heap.size) := bw.size
  have HBv1_1 : Hid ((w1).heap[qv1]? = some (.cells #[.int .i64 k, .string a, .string b, .int .i64 t] 25)) := by show _ = _; rw [hW1, ← hz1]; exact heap_alloc_new _ _
  have HGv1 : Hid (w.heap.size ≤ qv1) := by show _ ≤ _; rw [← hz1]; exact hb0.size
  clear hb0 bw hW1 hz1
  clear hs1 hqv1
  have cv1_0 : (w1).cell? ⟨qv1, 0, none⟩ = some (.int .i64 k) := (cell_of HBv1_1.out 0).trans rfl
  have cv1_1 : (w1).cell? ⟨qv1, 1, none⟩ = some (.string a) := (cell_of HBv1_1.out 1).trans rfl
  have cv1_2 : (w1).cell? ⟨qv1, 2, none⟩ = some (.string b) := (cell_of HBv1_1.out 2).trans rfl
  have cv1_3 : (w1).cell? ⟨qv1, 3, none⟩ = some (.int .i64 t) := (cell_of HBv1_1.out 3).trans rfl
  go_wp2_with fail
  refine (ruleOf_no k a b t _ HK1.out HK2.out HK3.out).mono ?_
  rintro e w2 ⟨rfl, bw⟩
  have hb2 : Below w.heap.size w (w2) := hb1.trans (bw.mono hb1.size)
  have HM2 : Hid ((w1).heap.size ≤ (w2).heap.size) := bw.size
  have HBv1_2 : Hid ((w2).heap[qv1]? = some (.cells #[.int .i64 k, .string a, .string b, .int .i64 t] 25)) := blk_below HBv1_1.out bw
  clear hb1 HBv1_1 bw
  clear cv1_0 cv1_1 cv1_2 cv1_3
  go_upto_region 2 with fail
  refine wp_region_held_drew (S := fun W => W.heap[qv1]? = some (.cells #[.int .i64 k, .string a, .string b, .int .i64 t] 25)) (by kernel_rfl) HBv1_2.out (fun _ => ?_)
  obtain ⟨w3, hX⟩ : ∃ X, X = w2.drew := ⟨_, rfl⟩
  have bw : Below w2.heap.size w2 w3 := by rw [hX]; exact (Below.refl _ _).drew
  rw [← hX]
  have hb3 : Below w.heap.size w (w3) := hb2.trans (bw.mono hb2.size)
  have HM3 : Hid ((w2).heap.size ≤ (w3).heap.size) := bw.size
  have HBv1_3 : Hid ((w3).heap[qv1]? = some (.cells #[.int .i64 k, .string a, .string b, .int .i64 t] 25)) := blk_below HBv1_2.out bw
  have hS3 : w3.heap[qv1]? = some (.cells #[.int .i64 k, .string a, .string b, .int .i64 t] 25) := HBv1_3.out
  clear hb2 HBv1_2 bw hX
  refine wpAnyH_takeD (i := 0) (v := .nilIface) (some 6) rfl rfl (by kernel_rfl) (by kernel_rfl) (by kernel_rfl) (fun _ _ _ h => h) (Or.inl ⟨by rfl, by intro W _; go_simp⟩) hS3 ?_
  simp only [Act.put, List.setIfInBounds_toArray, List.set_cons_zero, List.set_cons_succ]
  refine wpAnyH_takeD (i := 1) (v := .bool false) (some 7) rfl rfl (by kernel_rfl) (by kernel_rfl) (by kernel_rfl) (fun _ _ _ h => h) (Or.inl ⟨by rfl, by intro W _; go_simp⟩) hS3 ?_
  simp only [Act.put, List.setIfInBounds_toArray, List.set_cons_zero, List.set_cons_succ]
  refine wpAnyH_takeD (i := 2) (v := .bool false) (some 8) rfl rfl (by kernel_rfl) (by kernel_rfl) (by kernel_rfl) (fun _ _ _ h => h) (Or.inl ⟨by rfl, by intro W _; go_simp⟩) hS3 ?_
  simp only [Act.put, List.setIfInBounds_toArray, List.set_cons_zero, List.set_cons_succ]
  refine wpAnyH_takeD (i := 3) (v := undef) (some 9) rfl rfl (by kernel_rfl) (by kernel_rfl) (by kernel_rfl) (fun _ _ _ h => h) (Or.inr ⟨by rfl, rfl⟩) hS3 ?_
  simp only [Act.put, List.setIfInBounds_toArray, List.set_cons_zero, List.set_cons_succ]
  refine wpAnyH_takeD (i := 4) (v := undef) (some 10) rfl rfl (by kernel_rfl) (by kernel_rfl) (by kernel_rfl) (fun _ _ _ h => h) (Or.inr ⟨by rfl, rfl⟩) hS3 ?_
  simp only [Act.put, List.setIfInBounds_toArray, List.set_cons_zero, List.set_cons_succ]
  refine wpAnyH_takeD (i := 5) (v := .bool false) (some 11) rfl rfl (by kernel_rfl) (by kernel_rfl) (by kernel_rfl) (fun _ _ _ h => h) (Or.inl ⟨by rfl, by intro W _; go_simp⟩) hS3 ?_
  simp only [Act.put, List.setIfInBounds_toArray, List.set_cons_zero, List.set_cons_succ]
  refine wpAnyH_takeD (i := 6) (v := .bool false) (some 12) rfl rfl (by kernel_rfl) (by kernel_rfl) (by kernel_rfl) (fun _ _ _ h => h) (Or.inl ⟨by rfl, by intro W _; go_simp⟩) hS3 ?_
  simp only [Act.put, List.setIfInBounds_toArray, List.set_cons_zero, List.set_cons_succ]
  refine wpAnyH_takeD (i := 7) (v := undef) (some 13) rfl rfl (by kernel_rfl) (by kernel_rfl) (by kernel_rfl) (fun _ _ _ h => h) (Or.inr ⟨by rfl, rfl⟩) hS3 ?_
  simp only [Act.put, List.setIfInBounds_toArray, List.set_cons_zero, List.set_cons_succ]
  refine wpAnyH_takeD (i := 8) (v := undef) (some 14) rfl rfl (by kernel_rfl) (by kernel_rfl) (by kernel_rfl) (fun _ _ _ h => h) (Or.inr ⟨by rfl, rfl⟩) hS3 ?_
  simp only [Act.put, List.setIfInBounds_toArray, List.set_cons_zero, List.set_cons_succ]
  refine wpAnyH_takeD (i := 9) (v := undef) (some 15) rfl rfl (by kernel_rfl) (by kernel_rfl) (by kernel_rfl) (fun _ _ _ h => h) (Or.inr ⟨by rfl, rfl⟩) hS3 ?_
  simp only [Act.put, List.setIfInBounds_toArray, List.set_cons_zero, List.set_cons_succ]
  refine wpAnyH_takeD (i := 10) (v := .bool false) (some 16) rfl rfl (by kernel_rfl) (by kernel_rfl) (by kernel_rfl) (fun _ _ _ h => h) (Or.inl ⟨by rfl, by intro W _; go_simp⟩) hS3 ?_
  simp only [Act.put, List.setIfInBounds_toArray, List.set_cons_zero, List.set_cons_succ]
  refine wpAnyH_takeD (i := 11) (v := .bool false) (some 17) rfl rfl (by kernel_rfl) (by kernel_rfl) (by kernel_rfl) (fun _ _ _ h => h) (Or.inl ⟨by rfl, by intro W _; go_simp⟩) hS3 ?_
  simp only [Act.put, List.setIfInBounds_toArray, List.set_cons_zero, List.set_cons_succ]
  refine wpAnyH_takeD (i := 12) (v := undef) (some 18) rfl rfl (by kernel_rfl) (by kernel_rfl) (by kernel_rfl) (fun _ _ _ h => h) (Or.inr ⟨by rfl, rfl⟩) hS3 ?_
  simp only [Act.put, List.setIfInBounds_toArray, List.set_cons_zero, List.set_cons_succ]
  refine wpAnyH_takeD (i := 13) (v := undef) (some 19) rfl rfl (by kernel_rfl) (by kernel_rfl) (by kernel_rfl) (fun _ _ _ h => h) (Or.inr ⟨by rfl, rfl⟩) hS3 ?_
  simp only [Act.put, List.setIfInBounds_toArray, List.set_cons_zero, List.set_cons_succ]
  refine wpAnyH_takeD (i := 14) (v := undef) (some 20) rfl rfl (by kernel_rfl) (by kernel_rfl) (by kernel_rfl) (fun _ _ _ h => h) (Or.inr ⟨by rfl, rfl⟩) hS3 ?_
  simp only [Act.put, List.setIfInBounds_toArray, List.set_cons_zero, List.set_cons_succ]
  refine wpAnyH_takeD (i := 15) (v := undef) (some 21) rfl rfl (by kernel_rfl) (by kernel_rfl) (by kernel_rfl) (fun _ _ _ h => h) (Or.inr ⟨by rfl, rfl⟩) hS3 ?_
  simp only [Act.put, List.setIfInBounds_toArray, List.set_cons_zero, List.set_cons_succ]
  refine wpAnyH_takeD (i := 16) (v := undef) (some 22) rfl rfl (by kernel_rfl) (by kernel_rfl) (by kernel_rfl) (fun _ _ _ h => h) (Or.inr ⟨by rfl, rfl⟩) hS3 ?_
  simp only [Act.put, List.setIfInBounds_toArray, List.set_cons_zero, List.set_cons_succ]
  refine wpAnyH_takeD (i := 17) (v := undef) (some 23) rfl rfl (by kernel_rfl) (by kernel_rfl) (by kernel_rfl) (fun _ _ _ h => h) (Or.inr ⟨by rfl, rfl⟩) hS3 ?_
  simp only [Act.put, List.setIfInBounds_toArray, List.set_cons_zero, List.set_cons_succ]
  refine wpAnyH_takeD (i := 18) (v := .bool false) (some 24) rfl rfl (by kernel_rfl) (by kernel_rfl) (by kernel_rfl) (fun _ _ _ h => h) (Or.inl ⟨by rfl, by intro W _; go_simp⟩) hS3 ?_
  simp only [Act.put, List.setIfInBounds_toArray, List.set_cons_zero, List.set_cons_succ]
  refine wpAnyH_takeD (i := 19) (v := .bool false) (some 2) rfl rfl (by kernel_rfl) (by kernel_rfl) (by kernel_rfl) (fun _ _ _ h => h) (Or.inl ⟨by rfl, by intro W _; go_simp⟩) hS3 ?_
  simp only [Act.put, List.setIfInBounds_toArray, List.set_cons_zero, List.set_cons_succ]
  clear hS3
  refine wpAnyH_done (by kernel_rfl) ?_ _
  go_wp2_with fail
  go_ret
  refine BoolIs.no ?_ hb3
  intro h
  rcases h.kinds with h | h | h
  · exact HK1.out h
  · exact HK2.out h
  · exact HK3.out h

theorem implBanOk_any (k : Int) (a b : ByteArray) (t : Int) (w : World) (ha : a.size ≤ maxLen) (hb : b.size ≤ maxLen) :
    Calls Tryd.prog 10 #[.agg #[.int .i64 k, .string a, .string b, .int .i64 t]] w fun e w' => BoolIs (BanP k a b t) w e w' := by
  classical
  by_cases h1 : k = 1
  · subst h1
    by_cases h : b = ⟨#[]⟩
    · subst h; exact implBanOk_1e a t w ha
    · exact implBanOk_1n a b t w ha h
  · by_cases h2 : k = 2
    · subst h2
      by_cases h : b = ⟨#[]⟩
      · subst h; exact implBanOk_2e a t w ha
      · exact implBanOk_2n a b t w ha h
    · by_cases h3 : k = 3
      · subst h3; exact implBanOk_3 a b t w ha hb
      · exact implBanOk_no k a b t w h1 h2 h3

end Go.Proofs.YtlmenolcgaakeaaDoor
