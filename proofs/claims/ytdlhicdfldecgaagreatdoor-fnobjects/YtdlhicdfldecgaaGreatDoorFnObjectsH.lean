/- What the proof of FnObjects leans on: contracts of the program's and the specification's functions, and plain facts (part 8 of 8). -/
import Derived.Test.YtdlhicdfldecgaaGreatDoorFnObjectsG
namespace Go.Proofs.YtdlhicdfldecgaaGreatDoor
open Go.RowKit
open Go.Lib hiding intOf

/-- A line that is told, and the place behind it; or none. -/
def LineOut (s : ByteArray) (f : Nat) (w : World) (e : Ending) (w' : World) : Prop :=
  w' = w ∧ ((∃ i, LineAt s f i ∧ e = .returned (.tuple #[.string (s.extract f i), .int .i64 ((i + 1 : Nat) : Int)])) ∨ ((∀ j (h : j < s.size), f ≤ j → (s[j]'h).toNat ≠ 10) ∧ e = .returned (.tuple #[.string ⟨#[]⟩, .int .i64 (-1)])))

set_option maxHeartbeats 1000000 in
theorem l10Line_any (s : ByteArray) (f : Nat) (w : World) (hs : s.size ≤ 4000000) (hf : f ≤ s.size) :
    Calls Tryz.prog 45 #[.string s, .int .i64 (f : Int)] w fun e w' => LineOut s f w e w' := by
  go_enter Tryz.func45, Tryz.ntmps45
  go_wp2
  go_loopw [6] (fun i wr => ∃ j : Nat, j ≤ s.size ∧ f ≤ j ∧ i = .int .i64 (j : Int) ∧ wr = w ∧ Hid (∀ q (h : q < s.size), q < j → f ≤ q → (s[q]'h).toNat ≠ 10)) (fun i _ => s.size - (intOf i).toNat)
  case atStart => exact ⟨f, hf, Nat.le_refl _, rfl, rfl, fun q _ h1 h2 => absurd h1 (by omega)⟩
  case round =>
    obtain ⟨j, hj, hfj, rfl, rfl, HN⟩ := hrel
    by_cases hlt : j < s.size
    · have hlt2 : (j : Int) < (s.size : Int) := by omega
      by_cases hc : (s[j]'hlt).toNat = 10
      · have t1 : (((s[j]'hlt).toNat : Int) == 10) = true := by rw [beq_iff_eq]; omega
        have HL : Hid (LineAt s f j) := ⟨hlt, hfj, hc, fun q hq h => HN.out q (by omega) hq h⟩
        have hfj2 : (f : Int) ≤ (j : Int) := by omega
        clear hc HN
        go_wp2
        exact bodyPost_ret (v := .tuple #[.string (s.extract f j), .int .i64 ((j + 1 : Nat) : Int)]) (by simp [results, Tryz.results45, go_sem]) rfl ⟨rfl, .inl ⟨j, HL.out, rfl⟩⟩
      · have t1 : (((s[j]'hlt).toNat : Int) == 10) = false := by rw [beq_eq_false_iff_ne]; omega
        have HN2 : Hid (∀ q (h : q < s.size), q < j + 1 → f ≤ q → (s[q]'h).toNat ≠ 10) := fun q h h1 h2 => by
          by_cases e : q = j
          · subst e; exact hc
          · exact HN.out q h (by omega) h2
        clear hc HN
        go_wp2
        go_roundw
        case rel => exact ⟨j + 1, by omega, by omega, by go_num, trivial, HN2⟩
        case measure => simp [intOf]; omega
    · have hlt2 : ¬ (j : Int) < (s.size : Int) := by omega
      have HF : Hid (∀ q (h : q < s.size), f ≤ q → (s[q]'h).toNat ≠ 10) := fun q h h2 => HN.out q h (by omega) h2
      clear HN
      go_wp2
      exact bodyPost_ret (v := .tuple #[.string ⟨#[]⟩, .int .i64 (-1)]) (by simp [results, Tryz.results45, go_sem]) rfl ⟨rfl, .inr ⟨HF.out, rfl⟩⟩
theorem numL_text {x : ByteArray} {n : Nat} (h : bs x = numL n) : x = numText n := bs_inj (by rw [h, bs_num])
theorem num_of_text {n : Int} {m : Nat} {x : ByteArray} (hm : m ≤ 1000000) (hx : x = numText m) (h : NumOk x → n = valL x.data.toList) : n = (m : Int) := by
  have h1 := h (by rw [hx]; exact num_ok _ hm)
  rw [hx, show (numText m).data.toList = numL m from rfl, numL_val _ hm] at h1
  exact h1

set_option maxHeartbeats 8000000 in
set_option maxRecDepth 100000 in
theorem specObjRead_any (s : ByteArray) (w : World) (hs : s.size ≤ 3000000) :
    Calls Tryz.prog 15 #[.string s] w fun e w' => ObjIs s w e w' := by
  obtain ⟨i0, hi, hz0, hz1, hz2⟩ := info_parts info9
  obtain ⟨R, hR⟩ : ∃ R, R = w.heap.size := ⟨_, rfl⟩
  have HRG : Hid (w.heap.size ≤ R) := by show _ ≤ _; omega
  obtain ⟨W1, hW1⟩ : ∃ W, W = w.alloc (.cells #[.string ⟨#[]⟩, .slice none 0 0, .slice none 0 0, .int .i64 0, .slice none 0 0, .string ⟨#[]⟩, .int .i64 0] 29) := ⟨_, rfl⟩
  have H1 : Hid (Below w.heap.size w W1) := by show Below _ _ _; rw [hW1]; exact (Below.refl _ _).alloc (Nat.le_refl _) _
  have HR1 : Hid (W1.heap[R]? = some (.cells #[.string ⟨#[]⟩, .slice none 0 0, .slice none 0 0, .int .i64 0, .slice none 0 0, .string ⟨#[]⟩, .int .i64 0] 29)) := by
    show _ = _
    rw [hW1, hR]
    exact heap_alloc_new _ _
  go_enter Tryz.func15, Tryz.ntmps15
  go_upto_region 1 with fail
  rw [← hW1, ← hR]
  clear hW1 hR
  go_wp2_with fail
  refine (l10Line_any s 0 _ (by omega) (Nat.zero_le _)).mono ?_
  rintro e w2 ⟨rfl, ⟨k0, hl, rfl⟩ | ⟨hno, rfl⟩⟩
  · obtain ⟨line, hline⟩ : ∃ x, x = s.extract 0 k0 := ⟨_, rfl⟩
    have hk0 : k0 < s.size := hl.1
    have hlz : line.size ≤ 3000000 := by
      have h1 : (bs line).length ≤ (bs s).length := by
        rw [hline, bs_extract, List.drop_zero, List.length_take]
        exact Nat.min_le_right _ _
      rw [bs_len, bs_len] at h1
      omega
    have HLN : Hid (∀ (p' : ByteArray) (ys' : List ByteArray) (st' : Int) (fs' : List (ByteArray × ByteArray)) (b' : ByteArray) (t' : Int), IsObj s p' ys' st' fs' b' t' → bs line = objLine p' t' ys'.length ∧ k0 + 1 = (objHead p' t' ys'.length).size) := fun p' ys' st' fs' b' t' h => by
      obtain ⟨e1, e2, e3, e4⟩ := obj_first h
      obtain ⟨e5, e6⟩ := line_of (f := 0) e1 rfl e2 hl
      rw [← hline] at e6
      exact ⟨e6, by simp at e5; omega⟩
    rw [← hline]
    clear hl hline
    go_wp2_with fail
    refine (l3Words_any line _ (by omega)).mono ?_
    rintro e w3 ⟨vW, xs, rfl, ownW, hxl, bw, hwd⟩
    obtain ⟨oW, cW, rfl⟩ := slice_of_owns ownW
    have HB3 : Hid (Below w.heap.size w w3) := H1.out.trans (bw.mono H1.out.size)
    have HR3 : Hid (w3.heap[R]? = some (.cells #[.string ⟨#[]⟩, .slice none 0 0, .slice none 0 0, .int .i64 0, .slice none 0 0, .string ⟨#[]⟩, .int .i64 0] 29)) := blk_below HR1.out bw
    have HW3 : Hid (w3.ownsRow w.heap.size 9 1 (.slice oW xs.length cW) xs.length (xs.map Value.string)) := owns_wide ownW H1.out.size
    have HXS : Hid (∀ (p' : ByteArray) (ys' : List ByteArray) (st' : Int) (fs' : List (ByteArray × ByteArray)) (b' : ByteArray) (t' : Int), IsObj s p' ys' st' fs' b' t' → xs.map bs = [objL, bs p', numL t'.toNat, numL ys'.length]) := fun p' ys' st' fs' b' t' h => by
      rw [← hwd, (HLN.out _ _ _ _ _ _ h).1]
      exact (obj_first h).2.2.1
    have HXZ : Hid (∀ x ∈ xs, x.size ≤ maxLen) := fun x hx => by
      have h1 : bs x ∈ wordsL [] [] (bs line) := by rw [hwd]; exact List.mem_map.2 ⟨x, hx, rfl⟩
      rcases wordsL_len _ _ _ _ h1 with h2 | h2
      · simp at h2
      · rw [bs_len, bs_len] at h2
        simp at h2
        unfold maxLen
        omega
    clear ownW bw hwd H1 HR1
    by_cases h4 : xs.length = 4
    · obtain ⟨x0, x1, x2, x3, rfl⟩ : ∃ x0 x1 x2 x3, xs = [x0, x1, x2, x3] := by
        match xs, h4 with
        | [a, b, c, d], _ => exact ⟨a, b, c, d, rfl⟩
      have HPT : Hid (∀ (p' : ByteArray) (ys' : List ByteArray) (st' : Int) (fs' : List (ByteArray × ByteArray)) (b' : ByteArray) (t' : Int), IsObj s p' ys' st' fs' b' t' → x1 = p' ∧ x2 = numText t'.toNat ∧ x3 = numText ys'.length) := fun p' ys' st' fs' b' t' h => by
        have e := HXS.out _ _ _ _ _ _ h
        simp only [List.map_cons, List.map_nil, List.cons.injEq] at e
        exact ⟨bs_inj e.2.1, numL_text e.2.2.1, numL_text e.2.2.2.1⟩
      have z1 : x1.size ≤ maxLen := HXZ.out _ (by simp)
      have z2 : x2.size ≤ maxLen := HXZ.out _ (by simp)
      have z3 : x3.size ≤ maxLen := HXZ.out _ (by simp)
      have HTX : Hid (∀ W, Below w3.heap.size w3 W → W.ownsRow w.heap.size 9 1 (.slice oW 4 cW) 4 ([x0, x1, x2, x3].map Value.string)) := fun W h => owns_below HW3.out h (fun g hg => owns_lt HW3.out hg)
      obtain ⟨gW, hgW, _⟩ := (texts_view HW3.out).2 0 (by simp)
      subst hgW
      have HCW : Hid (∀ W, Below w3.heap.size w3 W → W.cell? ⟨gW, 1, none⟩ = some (.string x1) ∧ W.cell? ⟨gW, 2, none⟩ = some (.string x2) ∧ W.cell? ⟨gW, 3, none⟩ = some (.string x3)) := fun W h => by
        have ht := texts_view (HTX.out W h)
        refine ⟨?_, ?_, ?_⟩
        · obtain ⟨g, e, _, hc⟩ := ht.2 1 (by omega)
          cases e; exact hc
        · obtain ⟨g, e, _, hc⟩ := ht.2 2 (by omega)
          cases e; exact hc
        · obtain ⟨g, e, _, hc⟩ := ht.2 3 (by omega)
          cases e; exact hc
      have hlW : ([x0, x1, x2, x3] : List ByteArray).length = 4 := rfl
      rw [hlW]
      obtain ⟨c1, c2, c3⟩ := HCW.out w3 (Below.refl _ _)
      clear HXS HXZ hlW h4 HW3 HTX hxl
      have hng : ¬ ((k0 : Int) + 1 < 0) := by omega
      go_wp2_with fail
      refine (specNumRead_any x2 _ z2).mono ?_
      rintro e w4 ⟨bo, t, rfl, hn1, hn2, hn3, bw⟩
      have HTV : Hid (NumOk x2 → t = valL x2.data.toList) := fun h => hn2 (hn1.2 h)
      have H34 : Hid (Below w3.heap.size w3 w4) := bw
      clear hn1 hn2 hn3 bw c1 c2 c3 z2
      obtain ⟨c1, c2, c3⟩ := HCW.out w4 H34.out
      go_wp2_with fail
      refine (specNumRead_any x3 _ z3).mono ?_
      rintro e w5 ⟨bo2, n, rfl, hn1, hn2, hn3, bw⟩
      have hnb : 0 ≤ n ∧ n ≤ 1000000 := by
        cases bo2 with
        | false => rw [hn3 rfl]; decide
        | true =>
          have h1 := (hn1.1 rfl).2.2.2
          have h2 := hn2 rfl
          omega
      have HNV : Hid (NumOk x3 → n = valL x3.data.toList) := fun h => hn2 (hn1.2 h)
      have H35 : Hid (Below w3.heap.size w3 w5) := H34.out.trans (bw.mono H34.out.size)
      clear hn1 hn2 hn3 bw c1 c2 c3 z3 H34
      obtain ⟨c1, c2, c3⟩ := HCW.out w5 H35.out
      have HB5 : Hid (Below w.heap.size w w5) := HB3.out.trans (H35.out.mono HB3.out.size)
      have HR5 : Hid (w5.heap[R]? = some (.cells #[.string ⟨#[]⟩, .slice none 0 0, .slice none 0 0, .int .i64 0, .slice none 0 0, .string ⟨#[]⟩, .int .i64 0] 29)) := blk_below HR3.out H35.out
      have HTN : Hid (∀ (p' : ByteArray) (ys' : List ByteArray) (st' : Int) (fs' : List (ByteArray × ByteArray)) (b' : ByteArray) (t' : Int), IsObj s p' ys' st' fs' b' t' → x1 = p' ∧ t = t' ∧ n = (ys'.length : Int)) := fun p' ys' st' fs' b' t' h => by
        obtain ⟨e1, e2, e3⟩ := HPT.out _ _ _ _ _ _ h
        have hT := h.1.2.2.1
        have h4 := (obj_read h).2.2.2.2.2
        have e4 := num_of_text (by omega) e2 HTV.out
        have e5 := num_of_text (by omega) e3 HNV.out
        exact ⟨e1, by omega, e5⟩
      obtain ⟨q, hq⟩ : ∃ q, q = w5.heap.size := ⟨_, rfl⟩
      have HQG : Hid (w.heap.size ≤ q) := by show _ ≤ _; rw [hq]; exact HB5.out.size
      obtain ⟨W6, hW6⟩ : ∃ W, W = w5.alloc (.cells #[.string x1, .slice none 0 0, .slice none 0 0, .int .i64 0, .slice none 0 0, .string ⟨#[]⟩, .int .i64 t] 29) := ⟨_, rfl⟩
      have bA : Below w5.heap.size w5 W6 := by rw [hW6]; exact (Below.refl _ _).alloc (Nat.le_refl _) _
      have HB6 : Hid (Below w.heap.size w W6) := HB5.out.trans (bA.mono HB5.out.size)
      have HR6 : Hid (W6.heap[R]? = some (.cells #[.string ⟨#[]⟩, .slice none 0 0, .slice none 0 0, .int .i64 0, .slice none 0 0, .string ⟨#[]⟩, .int .i64 0] 29)) := blk_below HR5.out bA
      have HRQ : Hid (R ≠ q) := fun e => by have h1 := (Array.getElem?_eq_some_iff.1 HR5.out).1; omega
      have HQ6 : Hid (W6.heap[q]? = some (.cells #[.string x1, .slice none 0 0, .slice none 0 0, .int .i64 0, .slice none 0 0, .string ⟨#[]⟩, .int .i64 t] 29)) := by
        show _ = _
        rw [hW6, hq]
        exact heap_alloc_new _ _
      go_upto_region 8 with fail
      rw [← hW6, ← hq]
      clear hW6 hq bA HB3 HR3 HR5 HB5 HCW H35 c1 c2 c3 HTV HNV HPT
      go_wp2_with fail
      go_loopw [5, 12] (fun a i wr => ∃ (j : Nat) (ys : List ByteArray) (v : Value) (x : Int), j ≤ 4 ∧ (j : Int) ≤ n ∧ i = .int .i64 (j : Int) ∧ a = .int .i64 x ∧ Hid (ys.length = j) ∧ (x = -1 ∨ ∃ f : Nat, x = (f : Int) ∧ f ≤ s.size) ∧ Hid (Below w.heap.size w wr ∧ wr.heap[R]? = some (.cells #[.string ⟨#[]⟩, .slice none 0 0, .slice none 0 0, .int .i64 0, .slice none 0 0, .string ⟨#[]⟩, .int .i64 0] 29) ∧ wr.heap[q]? = some (.cells #[.string x1, .slice none 0 0, v, .int .i64 0, .slice none 0 0, .string ⟨#[]⟩, .int .i64 t] 29)) ∧ Hid (wr.ownsRow w.heap.size 9 1 v j (ys.map Value.string)) ∧ Hid (∀ y ∈ ys, y.size ≤ 3000000) ∧ Hid (∀ (p' : ByteArray) (ys' : List ByteArray) (st' : Int) (fs' : List (ByteArray × ByteArray)) (b' : ByteArray) (t' : Int), IsObj s p' ys' st' fs' b' t' → ys = ys'.take j ∧ x = ((valsTo (objHead p' t' ys'.length) ys' j).size : Int))) (fun _ i _ => 4 - (intOf i).toNat)
      case atStart => exact ⟨0, [], _, _, by omega, by omega, rfl, rfl, rfl, .inr ⟨k0 + 1, rfl, by omega⟩, ⟨HB6.out, HR6.out, HQ6.out⟩, World.ownsRow_nil _ _ _ _, (fun y hy => by simp at hy), fun p' ys' st' fs' b' t' h => ⟨rfl, by have e := (HLN.out _ _ _ _ _ _ h).2; show ((k0 + 1 : Nat) : Int) = ((objHead p' t' ys'.length).size : Int); omega⟩⟩
      case round =>
        obtain ⟨j, ys, v, x, hj, hjn, rfl, rfl, hyl, hx, HW, HV, HYZ, HI⟩ := hrel
        by_cases hgo : ((j : Int) < n ∧ (j : Int) < 4) ∧ 0 ≤ x
        · obtain ⟨⟨g1, g2⟩, g3⟩ := hgo
          obtain ⟨f, rfl, hfz⟩ : ∃ f : Nat, x = (f : Int) ∧ f ≤ s.size := by
            rcases hx with hx | hx
            · omega
            · exact hx
          clear hx
          go_wp2_with fail
          refine (l10Line_any s f _ (by omega) hfz).mono ?_
          rintro e w7 ⟨rfl, hlo⟩
          obtain ⟨y, x', rfl, hx', hyz, hst⟩ : ∃ (y : ByteArray) (x' : Int), e = .returned (.tuple #[.string y, .int .i64 x']) ∧ (x' = -1 ∨ ∃ f : Nat, x' = (f : Int) ∧ f ≤ s.size) ∧ y.size ≤ 3000000 ∧ (∀ (p' : ByteArray) (ys' : List ByteArray) (st' : Int) (fs' : List (ByteArray × ByteArray)) (b' : ByteArray) (t' : Int), IsObj s p' ys' st' fs' b' t' → ys ++ [y] = ys'.take (j + 1) ∧ x' = ((valsTo (objHead p' t' ys'.length) ys' (j + 1)).size : Int)) := by
            rcases hlo with ⟨i, hl, rfl⟩ | ⟨hno, rfl⟩
            · refine ⟨_, _, rfl, .inr ⟨i + 1, rfl, hl.1⟩, ?_, fun p' ys' st' fs' b' t' h => ?_⟩
              · have h1 : (bs (s.extract f i)).length ≤ (bs s).length := by
                  rw [bs_extract, List.length_drop, List.length_take]
                  omega
                rw [bs_len, bs_len] at h1
                omega
              · obtain ⟨e1, e2⟩ := HI.out _ _ _ _ _ _ h
                have hnn := (HTN.out _ _ _ _ _ _ h).2.2
                have hlt : j < ys'.length := by omega
                obtain ⟨rest, e3⟩ := obj_line h j hlt
                obtain ⟨e4, e5⟩ := line_of e3 (by rw [bs_len]; omega) (val_no (h.1.2.2.2.2.2.2 _ (textAt_mem ys' j hlt))) hl
                refine ⟨by rw [take_textAt ys' j hlt, e1, bs_inj e5], ?_⟩
                rw [valsTo, ByteArray.size_append, ByteArray.size_append, e4, bs_len]
                have e6 : (⟨#[10]⟩ : ByteArray).size = 1 := rfl
                omega
            · refine ⟨_, _, rfl, .inl rfl, by decide, fun p' ys' st' fs' b' t' h => ?_⟩
              exfalso
              obtain ⟨e1, e2⟩ := HI.out _ _ _ _ _ _ h
              have hnn := (HTN.out _ _ _ _ _ _ h).2.2
              have hlt : j < ys'.length := by omega
              obtain ⟨rest, e3⟩ := obj_line h j hlt
              exact line_some e3 (by rw [bs_len]; omega) hno
          have HI2 : Hid (∀ (p' : ByteArray) (ys' : List ByteArray) (st' : Int) (fs' : List (ByteArray × ByteArray)) (b' : ByteArray) (t' : Int), IsObj s p' ys' st' fs' b' t' → ys ++ [y] = ys'.take (j + 1) ∧ x' = ((valsTo (objHead p' t' ys'.length) ys' (j + 1)).size : Int)) := hst
          have HX2 : Hid (x' = -1 ∨ ∃ f : Nat, x' = (f : Int) ∧ f ≤ s.size) := hx'
          have HYZ2 : Hid (∀ z ∈ ys ++ [y], z.size ≤ 3000000) := fun z hz => by
            rcases List.mem_append.1 hz with hz | hz
            · exact HYZ.out z hz
            · rw [List.mem_singleton.1 hz]; exact hyz
          clear hlo hst hx' hyz HI HYZ
          have cq : w7.cell? ⟨q, 2, none⟩ = some v := (cell_of HW.out.2.2 2).trans rfl
          have hown := HV.out
          have h63 : j + 1 ≤ maxLen := by unfold maxLen; omega
          have h47 : (j + 1) * 16 ≤ 140737488355328 := by omega
          have HBS : ∀ o, w.heap.size ≤ (w7.alloc o).heap.size := fun o => by have := HW.out.1.size; simp; omega
          have cqA : ∀ o, (w7.alloc o).cell? ⟨q, 2, none⟩ = some v := fun o => by
            have h := blk_below HW.out.2.2 ((Below.refl _ _).alloc (Nat.le_refl _) o)
            exact (cell_of h 2).trans rfl
          obtain ⟨ov, cv, rfl⟩ := slice_of_owns hown
          go_wp2_with (at_builtin; refine wpList_append_own _ rfl _ _ 24 rfl w.heap.size 9 i0 (.string ⟨#[]⟩) 1 16 Tryz.underlying24 hi hz0 hz1 hz2 rfl (by decide) _ _ _ rfl (hown.alloc _) ⟨w7.heap.size, 0, none⟩ 1 1 [.string y] rfl rfl (cell_one_new _ _ _) (one_text _) h63 h47 (HBS _) ?_)
          intro v1 w8 hown2 hgrow _
          have hB8 : Below w.heap.size w w8 := (HW.out.1.alloc HW.out.1.size _).grown hgrow (HBS _) (fun g hg => owns_ge hown hg)
          have hr8 : w8.heap[R]? = some (.cells #[.string ⟨#[]⟩, .slice none 0 0, .slice none 0 0, .int .i64 0, .slice none 0 0, .string ⟨#[]⟩, .int .i64 0] 29) := (hgrow.block R (by have := (Array.getElem?_eq_some_iff.1 HW.out.2.1).1; simp; omega) (fun e => own_ne hown HW.out.2.1 (by decide) R e.symm rfl)).trans (blk_below HW.out.2.1 ((Below.refl _ _).alloc (Nat.le_refl _) _))
          have hq8 : w8.heap[q]? = some (.cells #[.string x1, .slice none 0 0, (.slice ov j cv), .int .i64 0, .slice none 0 0, .string ⟨#[]⟩, .int .i64 t] 29) := (hgrow.block q (by have := (Array.getElem?_eq_some_iff.1 HW.out.2.2).1; simp; omega) (fun e => own_ne hown HW.out.2.2 (by decide) q e.symm rfl)).trans (blk_below HW.out.2.2 ((Below.refl _ _).alloc (Nat.le_refl _) _))
          obtain ⟨o8, c8, rfl⟩ := slice_of_owns hown2
          have cq8 : w8.cell? ⟨q, 2, none⟩ = some (.slice ov j cv) := (cell_of hq8 2).trans rfl
          have fq8 := frozen_of hq8 2
          have HW9 : Hid (Below w.heap.size w (w8.setCell ⟨q, 2, none⟩ (.slice o8 (j + 1) c8)) ∧ (w8.setCell ⟨q, 2, none⟩ (.slice o8 (j + 1) c8)).heap[R]? = some (.cells #[.string ⟨#[]⟩, .slice none 0 0, .slice none 0 0, .int .i64 0, .slice none 0 0, .string ⟨#[]⟩, .int .i64 0] 29) ∧ (w8.setCell ⟨q, 2, none⟩ (.slice o8 (j + 1) c8)).heap[q]? = some (.cells #[.string x1, .slice none 0 0, (.slice o8 (j + 1) c8), .int .i64 0, .slice none 0 0, .string ⟨#[]⟩, .int .i64 t] 29)) :=
            ⟨hB8.setCell (p := ⟨q, 2, none⟩) HQG.out _, by rw [heap_setCell_other _ _ _ _ HRQ.out]; exact hr8, by have h := heap_set _ _ 2 _ _ _ (.slice o8 (j + 1) c8) hq8; simpa using h⟩
          have HV9 : Hid ((w8.setCell ⟨q, 2, none⟩ (.slice o8 (j + 1) c8)).ownsRow w.heap.size 9 1 (.slice o8 (j + 1) c8) (j + 1) ((ys ++ [y]).map Value.string)) := by
            show World.ownsRow _ _ _ _ _ _ _
            rw [List.map_append]
            exact owns_same hown2 (fun g hg => heap_setCell_other _ _ g _ (own_ne hown2 hq8 (by decide) g hg))
          have HL9 : Hid ((ys ++ [y]).length = j + 1) := by show _ = _; rw [List.length_append, hyl.out]; rfl
          clear hB8 hr8 hq8 hown2 hgrow hown HW HV cq cqA HBS
          go_wp2_with fail
          go_roundw
          case rel => exact ⟨j + 1, ys ++ [y], _, x', by omega, by omega, by go_num, rfl, HL9, HX2.out, HW9, HV9, HYZ2, HI2⟩
          case measure => simp [intOf]; omega
        · by_cases a1 : (j : Int) < n
          · by_cases a2 : (j : Int) < 4
            · have a3 : ¬ 0 ≤ x := fun h => hgo ⟨⟨a1, a2⟩, h⟩
              clear hgo
              have hrc := HW.out.2.1
              have hbe := HW.out.1
              have HNO : Hid (∀ p ys st fs b t, ¬ IsObj s p ys st fs b t) := fun p ys st fs b t h => by
                have e := (HI.out _ _ _ _ _ _ h).2
                omega
              have c0 : wr.cell? ⟨R, 0, none⟩ = some (.string ⟨#[]⟩) := (cell_of hrc 0).trans rfl
              have f0 : wr.frozen? ⟨R, 0, none⟩ = false := frozen_of hrc 0
              have c1 : wr.cell? ⟨R, 1, none⟩ = some (.slice none 0 0) := (cell_of hrc 1).trans rfl
              have f1 : wr.frozen? ⟨R, 1, none⟩ = false := frozen_of hrc 1
              have c2 : wr.cell? ⟨R, 2, none⟩ = some (.slice none 0 0) := (cell_of hrc 2).trans rfl
              have f2 : wr.frozen? ⟨R, 2, none⟩ = false := frozen_of hrc 2
              have c3 : wr.cell? ⟨R, 3, none⟩ = some (.int .i64 0) := (cell_of hrc 3).trans rfl
              have f3 : wr.frozen? ⟨R, 3, none⟩ = false := frozen_of hrc 3
              have c4 : wr.cell? ⟨R, 4, none⟩ = some (.slice none 0 0) := (cell_of hrc 4).trans rfl
              have f4 : wr.frozen? ⟨R, 4, none⟩ = false := frozen_of hrc 4
              have c5 : wr.cell? ⟨R, 5, none⟩ = some (.string ⟨#[]⟩) := (cell_of hrc 5).trans rfl
              have f5 : wr.frozen? ⟨R, 5, none⟩ = false := frozen_of hrc 5
              have c6 : wr.cell? ⟨R, 6, none⟩ = some (.int .i64 0) := (cell_of hrc 6).trans rfl
              have f6 : wr.frozen? ⟨R, 6, none⟩ = false := frozen_of hrc 6
              obtain ⟨WE, hWE⟩ : ∃ W, W = (((((((wr.setCell ⟨R, 0, none⟩ (.string ⟨#[]⟩)).setCell ⟨R, 1, none⟩ (.slice none 0 0)).setCell ⟨R, 2, none⟩ (.slice none 0 0)).setCell ⟨R, 3, none⟩ (.int .i64 0)).setCell ⟨R, 4, none⟩ (.slice none 0 0)).setCell ⟨R, 5, none⟩ (.string ⟨#[]⟩)).setCell ⟨R, 6, none⟩ (.int .i64 0)) := ⟨_, rfl⟩
              have HWE : Hid ((((((((wr.setCell ⟨R, 0, none⟩ (.string ⟨#[]⟩)).setCell ⟨R, 1, none⟩ (.slice none 0 0)).setCell ⟨R, 2, none⟩ (.slice none 0 0)).setCell ⟨R, 3, none⟩ (.int .i64 0)).setCell ⟨R, 4, none⟩ (.slice none 0 0)).setCell ⟨R, 5, none⟩ (.string ⟨#[]⟩)).setCell ⟨R, 6, none⟩ (.int .i64 0)) = WE) := hWE.symm
              have HBE : Hid (Below w.heap.size w WE) := by show Below _ _ _; rw [hWE]; exact (((((((hbe.setCell (p := ⟨R, 0, none⟩) HRG.out _).setCell (p := ⟨R, 1, none⟩) HRG.out _).setCell (p := ⟨R, 2, none⟩) HRG.out _).setCell (p := ⟨R, 3, none⟩) HRG.out _).setCell (p := ⟨R, 4, none⟩) HRG.out _).setCell (p := ⟨R, 5, none⟩) HRG.out _).setCell (p := ⟨R, 6, none⟩) HRG.out _)
              have hre : WE.heap[R]? = some (.cells #[.string ⟨#[]⟩, .slice none 0 0, .slice none 0 0, .int .i64 0, .slice none 0 0, .string ⟨#[]⟩, .int .i64 0] 29) := by rw [hWE]; have h := (heap_set _ R 6 _ _ _ (.int .i64 0) (heap_set _ R 5 _ _ _ (.string ⟨#[]⟩) (heap_set _ R 4 _ _ _ (.slice none 0 0) (heap_set _ R 3 _ _ _ (.int .i64 0) (heap_set _ R 2 _ _ _ (.slice none 0 0) (heap_set _ R 1 _ _ _ (.slice none 0 0) (heap_set _ R 0 _ _ _ (.string ⟨#[]⟩) hrc))))))); simpa using h
              have k0 : WE.cell? ⟨R, 0, none⟩ = some (.string ⟨#[]⟩) := (cell_of hre 0).trans rfl
              have k1 : WE.cell? ⟨R, 1, none⟩ = some (.slice none 0 0) := (cell_of hre 1).trans rfl
              have k2 : WE.cell? ⟨R, 2, none⟩ = some (.slice none 0 0) := (cell_of hre 2).trans rfl
              have k3 : WE.cell? ⟨R, 3, none⟩ = some (.int .i64 0) := (cell_of hre 3).trans rfl
              have k4 : WE.cell? ⟨R, 4, none⟩ = some (.slice none 0 0) := (cell_of hre 4).trans rfl
              have k5 : WE.cell? ⟨R, 5, none⟩ = some (.string ⟨#[]⟩) := (cell_of hre 5).trans rfl
              have k6 : WE.cell? ⟨R, 6, none⟩ = some (.int .i64 0) := (cell_of hre 6).trans rfl
              clear hWE hre hrc hbe
              clear HW HV HI
              go_wp2_with fail
              simp only [HWE.out]
              exact bodyPost_ret (v := .tuple #[.agg #[.string ⟨#[]⟩, .slice none 0 0, .slice none 0 0, .int .i64 0, .slice none 0 0, .string ⟨#[]⟩, .int .i64 0], .bool false]) (by simp [results, Tryz.results15, go_sem, k0, k1, k2, k3, k4, k5, k6]) rfl ⟨HBE.out, .inr ⟨rfl, HNO.out⟩⟩
            · clear hgo
              have hEND : ∀ (p' : ByteArray) (ys' : List ByteArray) (st' : Int) (fs' : List (ByteArray × ByteArray)) (b' : ByteArray) (t' : Int), IsObj s p' ys' st' fs' b' t' → x1 = p' ∧ ys = ys' ∧ x = ((valsTo (objHead p' t' ys'.length) ys' ys'.length).size : Int) ∧ t = t' := fun p' ys' st' fs' b' t' h => by
                obtain ⟨e1, e2, e3⟩ := HTN.out _ _ _ _ _ _ h
                obtain ⟨e4, e5⟩ := HI.out _ _ _ _ _ _ h
                have h4 := (obj_read h).2.2.2.2.2
                have ej : j = ys'.length := by omega
                rw [ej] at e4 e5
                rw [List.take_length] at e4
                exact ⟨e1, e4, e5, e2⟩
              by_cases hxn : x < 0
              · have hrc := HW.out.2.1
                have hbe := HW.out.1
                have HNO : Hid (∀ p ys st fs b t, ¬ IsObj s p ys st fs b t) := fun p ys st fs b t h => by
                  obtain ⟨_, _, e, _⟩ := hEND _ _ _ _ _ _ h
                  omega
                have c0 : wr.cell? ⟨R, 0, none⟩ = some (.string ⟨#[]⟩) := (cell_of hrc 0).trans rfl
                have f0 : wr.frozen? ⟨R, 0, none⟩ = false := frozen_of hrc 0
                have c1 : wr.cell? ⟨R, 1, none⟩ = some (.slice none 0 0) := (cell_of hrc 1).trans rfl
                have f1 : wr.frozen? ⟨R, 1, none⟩ = false := frozen_of hrc 1
                have c2 : wr.cell? ⟨R, 2, none⟩ = some (.slice none 0 0) := (cell_of hrc 2).trans rfl
                have f2 : wr.frozen? ⟨R, 2, none⟩ = false := frozen_of hrc 2
                have c3 : wr.cell? ⟨R, 3, none⟩ = some (.int .i64 0) := (cell_of hrc 3).trans rfl
                have f3 : wr.frozen? ⟨R, 3, none⟩ = false := frozen_of hrc 3
                have c4 : wr.cell? ⟨R, 4, none⟩ = some (.slice none 0 0) := (cell_of hrc 4).trans rfl
                have f4 : wr.frozen? ⟨R, 4, none⟩ = false := frozen_of hrc 4
                have c5 : wr.cell? ⟨R, 5, none⟩ = some (.string ⟨#[]⟩) := (cell_of hrc 5).trans rfl
                have f5 : wr.frozen? ⟨R, 5, none⟩ = false := frozen_of hrc 5
                have c6 : wr.cell? ⟨R, 6, none⟩ = some (.int .i64 0) := (cell_of hrc 6).trans rfl
                have f6 : wr.frozen? ⟨R, 6, none⟩ = false := frozen_of hrc 6
                obtain ⟨WE, hWE⟩ : ∃ W, W = (((((((wr.setCell ⟨R, 0, none⟩ (.string ⟨#[]⟩)).setCell ⟨R, 1, none⟩ (.slice none 0 0)).setCell ⟨R, 2, none⟩ (.slice none 0 0)).setCell ⟨R, 3, none⟩ (.int .i64 0)).setCell ⟨R, 4, none⟩ (.slice none 0 0)).setCell ⟨R, 5, none⟩ (.string ⟨#[]⟩)).setCell ⟨R, 6, none⟩ (.int .i64 0)) := ⟨_, rfl⟩
                have HWE : Hid ((((((((wr.setCell ⟨R, 0, none⟩ (.string ⟨#[]⟩)).setCell ⟨R, 1, none⟩ (.slice none 0 0)).setCell ⟨R, 2, none⟩ (.slice none 0 0)).setCell ⟨R, 3, none⟩ (.int .i64 0)).setCell ⟨R, 4, none⟩ (.slice none 0 0)).setCell ⟨R, 5, none⟩ (.string ⟨#[]⟩)).setCell ⟨R, 6, none⟩ (.int .i64 0)) = WE) := hWE.symm
                have HBE : Hid (Below w.heap.size w WE) := by show Below _ _ _; rw [hWE]; exact (((((((hbe.setCell (p := ⟨R, 0, none⟩) HRG.out _).setCell (p := ⟨R, 1, none⟩) HRG.out _).setCell (p := ⟨R, 2, none⟩) HRG.out _).setCell (p := ⟨R, 3, none⟩) HRG.out _).setCell (p := ⟨R, 4, none⟩) HRG.out _).setCell (p := ⟨R, 5, none⟩) HRG.out _).setCell (p := ⟨R, 6, none⟩) HRG.out _)
                have hre : WE.heap[R]? = some (.cells #[.string ⟨#[]⟩, .slice none 0 0, .slice none 0 0, .int .i64 0, .slice none 0 0, .string ⟨#[]⟩, .int .i64 0] 29) := by rw [hWE]; have h := (heap_set _ R 6 _ _ _ (.int .i64 0) (heap_set _ R 5 _ _ _ (.string ⟨#[]⟩) (heap_set _ R 4 _ _ _ (.slice none 0 0) (heap_set _ R 3 _ _ _ (.int .i64 0) (heap_set _ R 2 _ _ _ (.slice none 0 0) (heap_set _ R 1 _ _ _ (.slice none 0 0) (heap_set _ R 0 _ _ _ (.string ⟨#[]⟩) hrc))))))); simpa using h
                have k0 : WE.cell? ⟨R, 0, none⟩ = some (.string ⟨#[]⟩) := (cell_of hre 0).trans rfl
                have k1 : WE.cell? ⟨R, 1, none⟩ = some (.slice none 0 0) := (cell_of hre 1).trans rfl
                have k2 : WE.cell? ⟨R, 2, none⟩ = some (.slice none 0 0) := (cell_of hre 2).trans rfl
                have k3 : WE.cell? ⟨R, 3, none⟩ = some (.int .i64 0) := (cell_of hre 3).trans rfl
                have k4 : WE.cell? ⟨R, 4, none⟩ = some (.slice none 0 0) := (cell_of hre 4).trans rfl
                have k5 : WE.cell? ⟨R, 5, none⟩ = some (.string ⟨#[]⟩) := (cell_of hre 5).trans rfl
                have k6 : WE.cell? ⟨R, 6, none⟩ = some (.int .i64 0) := (cell_of hre 6).trans rfl
                clear hWE hre hrc hbe
                clear hEND HW HV HI
                go_wp2_with fail
                simp only [HWE.out]
                exact bodyPost_ret (v := .tuple #[.agg #[.string ⟨#[]⟩, .slice none 0 0, .slice none 0 0, .int .i64 0, .slice none 0 0, .string ⟨#[]⟩, .int .i64 0], .bool false]) (by simp [results, Tryz.results15, go_sem, k0, k1, k2, k3, k4, k5, k6]) rfl ⟨HBE.out, .inr ⟨rfl, HNO.out⟩⟩
              · obtain ⟨f, rfl, hfz⟩ : ∃ f : Nat, x = (f : Int) ∧ f ≤ s.size := by
                  rcases hx with hx | hx
                  · omega
                  · exact hx
                have HEND : Hid (∀ (p' : ByteArray) (ys' : List ByteArray) (st' : Int) (fs' : List (ByteArray × ByteArray)) (b' : ByteArray) (t' : Int), IsObj s p' ys' st' fs' b' t' → x1 = p' ∧ ys = ys' ∧ t = t' ∧ s.extract f s.size = respT st' fs' b') := fun p' ys' st' fs' b' t' h => by
                  obtain ⟨e1, e2, e3, e4⟩ := hEND _ _ _ _ _ _ h
                  refine ⟨e1, e2, e4, ?_⟩
                  rw [show f = (valsTo (objHead p' t' ys'.length) ys' ys'.length).size by omega]
                  exact obj_tail h
                obtain ⟨lf, hlf⟩ : ∃ lf, lf = s.extract f s.size := ⟨_, rfl⟩
                have hlz : lf.size ≤ 3000000 := by
                  have h1 : (bs lf).length ≤ (bs s).length := by
                    rw [hlf, bs_extract, List.length_drop, List.length_take]
                    omega
                  rw [bs_len, bs_len] at h1
                  omega
                have HLF : Hid (s.extract f s.size = lf) := hlf.symm
                rw [← hlf] at HEND
                obtain ⟨oV, cV, rfl⟩ := slice_of_owns HV.out
                have hfz2 : (f : Int) ≤ (s.size : Int) := by omega
                clear hx hEND hlf HI
                go_wp2_with fail
                rw [HLF.out]
                refine (specRespRead_any lf _ hlz).mono ?_
                intro e w8 hr
                obtain ⟨st, fs, bd, vF, tb, rfl, hok, hun, ownF, bw⟩ := resp_out hr
                have HOK : Hid (FldsOk fs ∧ bd.size ≤ 120) := hok
                have HUN : Hid (∀ (p' : ByteArray) (ys' : List ByteArray) (st' : Int) (fs' : List (ByteArray × ByteArray)) (b' : ByteArray) (t' : Int), IsObj s p' ys' st' fs' b' t' → x1 = p' ∧ ys = ys' ∧ st = st' ∧ fs = fs' ∧ bd = b' ∧ t = t') := fun p' ys' st' fs' b' t' h => by
                  obtain ⟨e1, e2, e3, e4⟩ := HEND.out _ _ _ _ _ _ h
                  obtain ⟨e5, e6, e7⟩ := hun st' fs' b' ⟨h.1.1, e4.symm⟩
                  exact ⟨e1, e2, e5, e6, e7, e3⟩
                obtain ⟨oF, cF, rfl⟩ := slice_of_owns ownF
                have hq8 := blk_below HW.out.2.2 bw
                have c3 : w8.cell? ⟨q, 3, none⟩ = some (.int .i64 0) := (cell_of hq8 3).trans rfl
                have c4 : w8.cell? ⟨q, 4, none⟩ = some (.slice none 0 0) := (cell_of hq8 4).trans rfl
                have c5 : w8.cell? ⟨q, 5, none⟩ = some (.string ⟨#[]⟩) := (cell_of hq8 5).trans rfl
                have f3 := frozen_of hq8 3
                have f4 := frozen_of hq8 4
                have f5 := frozen_of hq8 5
                have hV8 := owns_below HV.out bw (fun g hg => owns_lt HV.out hg)
                have hF8 : w8.ownsRow w.heap.size 131 2 (.slice oF fs.length cF) fs.length (flatF fs) := owns_wide ownF HW.out.1.size
                have hb8 := HW.out.1.trans (bw.mono HW.out.1.size)
                have hr8 := blk_below HW.out.2.1 bw
                obtain ⟨W9, hW9⟩ : ∃ W, W = ((w8.setCell ⟨q, 3, none⟩ (.int .i64 st)).setCell ⟨q, 4, none⟩ (.slice oF fs.length cF)).setCell ⟨q, 5, none⟩ (.string bd) := ⟨_, rfl⟩
                have HB9 : Hid (Below w.heap.size w W9) := by
                  show Below _ _ _
                  rw [hW9]
                  exact ((hb8.setCell (p := ⟨q, 3, none⟩) HQG.out _).setCell (p := ⟨q, 4, none⟩) HQG.out _).setCell (p := ⟨q, 5, none⟩) HQG.out _
                have HR9 : Hid (W9.heap[R]? = some (.cells #[.string ⟨#[]⟩, .slice none 0 0, .slice none 0 0, .int .i64 0, .slice none 0 0, .string ⟨#[]⟩, .int .i64 0] 29)) := by
                  show _ = _
                  rw [hW9, heap_setCell_other _ _ _ _ HRQ.out, heap_setCell_other _ _ _ _ HRQ.out, heap_setCell_other _ _ _ _ HRQ.out]
                  exact hr8
                have HQ9 : Hid (W9.heap[q]? = some (.cells #[.string x1, .slice none 0 0, .slice oV j cV, .int .i64 st, .slice oF fs.length cF, .string bd, .int .i64 t] 29)) := by
                  show _ = _
                  rw [hW9]
                  have h := heap_set _ q 5 _ _ _ (.string bd) (heap_set _ q 4 _ _ _ (.slice oF fs.length cF) (heap_set _ q 3 _ _ _ (.int .i64 st) hq8))
                  simpa using h
                have HV9 : Hid (W9.ownsRow w.heap.size 9 1 (.slice oV j cV) j (ys.map Value.string)) := by
                  show World.ownsRow _ _ _ _ _ _ _
                  rw [hW9]
                  refine owns_same hV8 (fun g hg => ?_)
                  have hne := own_ne hV8 hq8 (by decide) g hg
                  rw [heap_setCell_other _ _ g _ hne, heap_setCell_other _ _ g _ hne, heap_setCell_other _ _ g _ hne]
                have HF9 : Hid (W9.ownsRow w.heap.size 131 2 (.slice oF fs.length cF) fs.length (flatF fs)) := by
                  show World.ownsRow _ _ _ _ _ _ _
                  rw [hW9]
                  refine owns_same hF8 (fun g hg => ?_)
                  have hne := own_ne hF8 hq8 (by decide) g hg
                  rw [heap_setCell_other _ _ g _ hne, heap_setCell_other _ _ g _ hne, heap_setCell_other _ _ g _ hne]
                have HWE9 : Hid (((w8.setCell ⟨q, 3, none⟩ (.int .i64 st)).setCell ⟨q, 4, none⟩ (.slice oF fs.length cF)).setCell ⟨q, 5, none⟩ (.string bd) = W9) := hW9.symm
                have c4b : W9.cell? ⟨q, 4, none⟩ = some (.slice oF fs.length cF) := (cell_of HQ9.out 4).trans rfl
                clear hr hok hun ownF bw hq8 hV8 hF8 hb8 hr8 hW9 HW HV HEND HLF
                go_upto_region 17 with fail
                rw [HWE9.out]
                clear c3 c4 c5 f3 f4 f5 HWE9
                go_wp2_with fail
                refine (specVaryOf_any _ fs.length w.heap.size fs _ (FieldsV.of_owns HF9.out) (by have := (flds_sizes HOK.out.1).1; omega) (getV_small HOK.out.1 _)).mono ?_
                rintro e w10 ⟨vN, rfl, ownN, bw⟩
                obtain ⟨oN, cN, rfl⟩ := slice_of_owns ownN
                have hq10 := blk_below HQ9.out bw
                have c1 : w10.cell? ⟨q, 1, none⟩ = some (.slice none 0 0) := (cell_of hq10 1).trans rfl
                have f1 := frozen_of hq10 1
                have hV10 := owns_below HV9.out bw (fun g hg => owns_lt HV9.out hg)
                have hF10 := owns_below HF9.out bw (fun g hg => owns_lt HF9.out hg)
                have hN10 : w10.ownsRow w.heap.size 9 1 (.slice oN (varyP fs).length cN) (varyP fs).length ((varyP fs).map Value.string) := owns_wide ownN HB9.out.size
                have HNEV : Hid (∀ g, (Value.slice oN (varyP fs).length cN).ownBlock = some g → (Value.slice oV j cV).ownBlock ≠ some g) := fun g hg e => by
                  have h1 := owns_ge ownN hg
                  have h2 := owns_lt HV9.out e
                  omega
                obtain ⟨W11, hW11⟩ : ∃ W, W = w10.setCell ⟨q, 1, none⟩ (.slice oN (varyP fs).length cN) := ⟨_, rfl⟩
                have HB11 : Hid (Below w.heap.size w W11) := by
                  show Below _ _ _
                  rw [hW11]
                  exact (HB9.out.trans (bw.mono HB9.out.size)).setCell (p := ⟨q, 1, none⟩) HQG.out _
                have HR11 : Hid (W11.heap[R]? = some (.cells #[.string ⟨#[]⟩, .slice none 0 0, .slice none 0 0, .int .i64 0, .slice none 0 0, .string ⟨#[]⟩, .int .i64 0] 29)) := by
                  show _ = _
                  rw [hW11, heap_setCell_other _ _ _ _ HRQ.out]
                  exact blk_below HR9.out bw
                have HQ11 : Hid (W11.heap[q]? = some (.cells #[.string x1, .slice oN (varyP fs).length cN, .slice oV j cV, .int .i64 st, .slice oF fs.length cF, .string bd, .int .i64 t] 29)) := by
                  show _ = _
                  rw [hW11]
                  have h := heap_set _ q 1 _ _ _ (.slice oN (varyP fs).length cN) hq10
                  simpa using h
                have HV11 : Hid (W11.ownsRow w.heap.size 9 1 (.slice oV j cV) j (ys.map Value.string)) := by
                  show World.ownsRow _ _ _ _ _ _ _
                  rw [hW11]
                  exact owns_same hV10 (fun g hg => heap_setCell_other _ _ g _ (own_ne hV10 hq10 (by decide) g hg))
                have HF11 : Hid (W11.ownsRow w.heap.size 131 2 (.slice oF fs.length cF) fs.length (flatF fs)) := by
                  show World.ownsRow _ _ _ _ _ _ _
                  rw [hW11]
                  exact owns_same hF10 (fun g hg => heap_setCell_other _ _ g _ (own_ne hF10 hq10 (by decide) g hg))
                have HN11 : Hid (W11.ownsRow w.heap.size 9 1 (.slice oN (varyP fs).length cN) (varyP fs).length ((varyP fs).map Value.string)) := by
                  show World.ownsRow _ _ _ _ _ _ _
                  rw [hW11]
                  exact owns_same hN10 (fun g hg => heap_setCell_other _ _ g _ (own_ne hN10 hq10 (by decide) g hg))
                have HWE11 : Hid (w10.setCell ⟨q, 1, none⟩ (.slice oN (varyP fs).length cN) = W11) := hW11.symm
                clear ownN bw hq10 hV10 hF10 hN10 hW11 HB9 HR9 HQ9 HV9 HF9 c4b
                go_upto_region 18 with fail
                rw [HWE11.out]
                clear c1 f1 HWE11
                have d0 : W11.cell? ⟨q, 0, none⟩ = some (.string x1) := (cell_of HQ11.out 0).trans rfl
                have d1 : W11.cell? ⟨q, 1, none⟩ = some (.slice oN (varyP fs).length cN) := (cell_of HQ11.out 1).trans rfl
                have d2 : W11.cell? ⟨q, 2, none⟩ = some (.slice oV j cV) := (cell_of HQ11.out 2).trans rfl
                have d3 : W11.cell? ⟨q, 3, none⟩ = some (.int .i64 st) := (cell_of HQ11.out 3).trans rfl
                have d4 : W11.cell? ⟨q, 4, none⟩ = some (.slice oF fs.length cF) := (cell_of HQ11.out 4).trans rfl
                have d5 : W11.cell? ⟨q, 5, none⟩ = some (.string bd) := (cell_of HQ11.out 5).trans rfl
                have d6 : W11.cell? ⟨q, 6, none⟩ = some (.int .i64 t) := (cell_of HQ11.out 6).trans rfl
                have hvs := vary_small HOK.out.1
                have hf8 := (flds_sizes HOK.out.1).1
                go_wp2_with fail
                have hcall := specObjText_any x1 oN (varyP fs).length cN (varyP fs) oV j cV ys st (.slice oF fs.length cF) fs.length w.heap.size fs bd t W11 (texts_view HN11.out) (texts_view HV11.out) (FieldsV.of_owns HF11.out) hvs.1 (by omega) (by omega) hvs.2 (fun i hi => by have := HYZ.out _ (textAt_mem ys i (by rw [hyl.out]; exact hi)); unfold maxLen; omega) (walkF_small HOK.out.1) z1 (by have := HOK.out.2; unfold maxLen; omega) (getV_small HOK.out.1 _)
                refine hcall.mono ?_
                clear hcall
                rintro e w12 ⟨u, rfl, hu1, hu2, bw⟩
                have HU1 : Hid (ObjP x1 (varyP fs) ys st fs bd t → u = objT x1 ys st fs bd t) := hu1
                have HU2 : Hid (¬ ObjP x1 (varyP fs) ys st fs bd t → u = ⟨#[]⟩) := hu2
                have hrc := blk_below HR11.out bw
                have hbe := HB11.out.trans (bw.mono HB11.out.size)
                have hq12 := blk_below HQ11.out bw
                have F12 := owns_below HF11.out bw (fun g hg => owns_lt HF11.out hg)
                have N12 := owns_below HN11.out bw (fun g hg => owns_lt HN11.out hg)
                have V12 := owns_below HV11.out bw (fun g hg => owns_lt HV11.out hg)
                clear hu1 hu2 bw d0 d1 d2 d3 d4 d5 d6 hvs HR11 HB11 HQ11 HF11 HN11 HV11
                by_cases hus : u = s
                · have HIS : Hid (IsObj s x1 ys st fs bd t) := by
                    by_cases hp : ObjP x1 (varyP fs) ys st fs bd t
                    · exact ⟨hp, by rw [← HU1.out hp]; exact hus⟩
                    · exfalso
                      have h1 := HU2.out hp
                      have h2 : s.size = 0 := by rw [← hus, h1]; rfl
                      omega
                  have hts : (u.toList == s.toList) = true := (text_beq _ _).2 hus
                  have d0 : w12.cell? ⟨q, 0, none⟩ = some (.string x1) := (cell_of hq12 0).trans rfl
                  have d1 : w12.cell? ⟨q, 1, none⟩ = some (.slice oN (varyP fs).length cN) := (cell_of hq12 1).trans rfl
                  have d2 : w12.cell? ⟨q, 2, none⟩ = some (.slice oV j cV) := (cell_of hq12 2).trans rfl
                  have d3 : w12.cell? ⟨q, 3, none⟩ = some (.int .i64 st) := (cell_of hq12 3).trans rfl
                  have d4 : w12.cell? ⟨q, 4, none⟩ = some (.slice oF fs.length cF) := (cell_of hq12 4).trans rfl
                  have d5 : w12.cell? ⟨q, 5, none⟩ = some (.string bd) := (cell_of hq12 5).trans rfl
                  have d6 : w12.cell? ⟨q, 6, none⟩ = some (.int .i64 t) := (cell_of hq12 6).trans rfl
                  have c0 : w12.cell? ⟨R, 0, none⟩ = some (.string ⟨#[]⟩) := (cell_of hrc 0).trans rfl
                  have f0 : w12.frozen? ⟨R, 0, none⟩ = false := frozen_of hrc 0
                  have c1 : w12.cell? ⟨R, 1, none⟩ = some (.slice none 0 0) := (cell_of hrc 1).trans rfl
                  have f1 : w12.frozen? ⟨R, 1, none⟩ = false := frozen_of hrc 1
                  have c2 : w12.cell? ⟨R, 2, none⟩ = some (.slice none 0 0) := (cell_of hrc 2).trans rfl
                  have f2 : w12.frozen? ⟨R, 2, none⟩ = false := frozen_of hrc 2
                  have c3 : w12.cell? ⟨R, 3, none⟩ = some (.int .i64 0) := (cell_of hrc 3).trans rfl
                  have f3 : w12.frozen? ⟨R, 3, none⟩ = false := frozen_of hrc 3
                  have c4 : w12.cell? ⟨R, 4, none⟩ = some (.slice none 0 0) := (cell_of hrc 4).trans rfl
                  have f4 : w12.frozen? ⟨R, 4, none⟩ = false := frozen_of hrc 4
                  have c5 : w12.cell? ⟨R, 5, none⟩ = some (.string ⟨#[]⟩) := (cell_of hrc 5).trans rfl
                  have f5 : w12.frozen? ⟨R, 5, none⟩ = false := frozen_of hrc 5
                  have c6 : w12.cell? ⟨R, 6, none⟩ = some (.int .i64 0) := (cell_of hrc 6).trans rfl
                  have f6 : w12.frozen? ⟨R, 6, none⟩ = false := frozen_of hrc 6
                  obtain ⟨WE, hWE⟩ : ∃ W, W = (((((((w12.setCell ⟨R, 0, none⟩ (.string x1)).setCell ⟨R, 1, none⟩ (.slice oN (varyP fs).length cN)).setCell ⟨R, 2, none⟩ (.slice oV j cV)).setCell ⟨R, 3, none⟩ (.int .i64 st)).setCell ⟨R, 4, none⟩ (.slice oF fs.length cF)).setCell ⟨R, 5, none⟩ (.string bd)).setCell ⟨R, 6, none⟩ (.int .i64 t)) := ⟨_, rfl⟩
                  have HWE : Hid ((((((((w12.setCell ⟨R, 0, none⟩ (.string x1)).setCell ⟨R, 1, none⟩ (.slice oN (varyP fs).length cN)).setCell ⟨R, 2, none⟩ (.slice oV j cV)).setCell ⟨R, 3, none⟩ (.int .i64 st)).setCell ⟨R, 4, none⟩ (.slice oF fs.length cF)).setCell ⟨R, 5, none⟩ (.string bd)).setCell ⟨R, 6, none⟩ (.int .i64 t)) = WE) := hWE.symm
                  have HBE : Hid (Below w.heap.size w WE) := by show Below _ _ _; rw [hWE]; exact (((((((hbe.setCell (p := ⟨R, 0, none⟩) HRG.out _).setCell (p := ⟨R, 1, none⟩) HRG.out _).setCell (p := ⟨R, 2, none⟩) HRG.out _).setCell (p := ⟨R, 3, none⟩) HRG.out _).setCell (p := ⟨R, 4, none⟩) HRG.out _).setCell (p := ⟨R, 5, none⟩) HRG.out _).setCell (p := ⟨R, 6, none⟩) HRG.out _)
                  have hre : WE.heap[R]? = some (.cells #[.string x1, .slice oN (varyP fs).length cN, .slice oV j cV, .int .i64 st, .slice oF fs.length cF, .string bd, .int .i64 t] 29) := by rw [hWE]; have h := (heap_set _ R 6 _ _ _ (.int .i64 t) (heap_set _ R 5 _ _ _ (.string bd) (heap_set _ R 4 _ _ _ (.slice oF fs.length cF) (heap_set _ R 3 _ _ _ (.int .i64 st) (heap_set _ R 2 _ _ _ (.slice oV j cV) (heap_set _ R 1 _ _ _ (.slice oN (varyP fs).length cN) (heap_set _ R 0 _ _ _ (.string x1) hrc))))))); simpa using h
                  have HFE : Hid (WE.ownsRow w.heap.size 131 2 (.slice oF fs.length cF) fs.length (flatF fs)) := by
                    show World.ownsRow _ _ _ _ _ _ _
                    rw [hWE]
                    refine owns_same F12 (fun g hg => ?_)
                    have hne := own_ne F12 hrc (by decide) g hg
                    rw [heap_setCell_other _ _ g _ hne, heap_setCell_other _ _ g _ hne, heap_setCell_other _ _ g _ hne, heap_setCell_other _ _ g _ hne, heap_setCell_other _ _ g _ hne, heap_setCell_other _ _ g _ hne, heap_setCell_other _ _ g _ hne]
                  have HNE : Hid (WE.ownsRow w.heap.size 9 1 (.slice oN (varyP fs).length cN) (varyP fs).length ((varyP fs).map Value.string)) := by
                    show World.ownsRow _ _ _ _ _ _ _
                    rw [hWE]
                    refine owns_same N12 (fun g hg => ?_)
                    have hne := own_ne N12 hrc (by decide) g hg
                    rw [heap_setCell_other _ _ g _ hne, heap_setCell_other _ _ g _ hne, heap_setCell_other _ _ g _ hne, heap_setCell_other _ _ g _ hne, heap_setCell_other _ _ g _ hne, heap_setCell_other _ _ g _ hne, heap_setCell_other _ _ g _ hne]
                  have HVE : Hid (WE.ownsRow w.heap.size 9 1 (.slice oV j cV) j (ys.map Value.string)) := by
                    show World.ownsRow _ _ _ _ _ _ _
                    rw [hWE]
                    refine owns_same V12 (fun g hg => ?_)
                    have hne := own_ne V12 hrc (by decide) g hg
                    rw [heap_setCell_other _ _ g _ hne, heap_setCell_other _ _ g _ hne, heap_setCell_other _ _ g _ hne, heap_setCell_other _ _ g _ hne, heap_setCell_other _ _ g _ hne, heap_setCell_other _ _ g _ hne, heap_setCell_other _ _ g _ hne]
                  have k0 : WE.cell? ⟨R, 0, none⟩ = some (.string x1) := (cell_of hre 0).trans rfl
                  have k1 : WE.cell? ⟨R, 1, none⟩ = some (.slice oN (varyP fs).length cN) := (cell_of hre 1).trans rfl
                  have k2 : WE.cell? ⟨R, 2, none⟩ = some (.slice oV j cV) := (cell_of hre 2).trans rfl
                  have k3 : WE.cell? ⟨R, 3, none⟩ = some (.int .i64 st) := (cell_of hre 3).trans rfl
                  have k4 : WE.cell? ⟨R, 4, none⟩ = some (.slice oF fs.length cF) := (cell_of hre 4).trans rfl
                  have k5 : WE.cell? ⟨R, 5, none⟩ = some (.string bd) := (cell_of hre 5).trans rfl
                  have k6 : WE.cell? ⟨R, 6, none⟩ = some (.int .i64 t) := (cell_of hre 6).trans rfl
                  clear hWE hre hrc hbe
                  clear hus F12 N12 V12 hq12
                  go_wp2_with fail
                  simp only [HWE.out]
                  exact bodyPost_ret (v := .tuple #[.agg #[.string x1, .slice oN (varyP fs).length cN, .slice oV j cV, .int .i64 st, .slice oF fs.length cF, .string bd, .int .i64 t], .bool true]) (by simp [results, Tryz.results15, go_sem, k0, k1, k2, k3, k4, k5, k6]) rfl ⟨HBE.out, .inl ⟨x1, ys, st, fs, bd, t, _, _, _, rfl, HIS.out, ⟨HNE.out, by rw [hyl.out]; exact HVE.out, HFE.out, HNEV.out⟩⟩⟩
                · have HNO : Hid (∀ p ys st fs b t, ¬ IsObj s p ys st fs b t) := fun p' ys' st' fs' b' t' h => by
                    obtain ⟨rfl, rfl, rfl, rfl, rfl, rfl⟩ := HUN.out _ _ _ _ _ _ h
                    exact hus ((HU1.out h.1).trans h.2)
                  have hts := text_beq_no hus
                  have c0 : w12.cell? ⟨R, 0, none⟩ = some (.string ⟨#[]⟩) := (cell_of hrc 0).trans rfl
                  have f0 : w12.frozen? ⟨R, 0, none⟩ = false := frozen_of hrc 0
                  have c1 : w12.cell? ⟨R, 1, none⟩ = some (.slice none 0 0) := (cell_of hrc 1).trans rfl
                  have f1 : w12.frozen? ⟨R, 1, none⟩ = false := frozen_of hrc 1
                  have c2 : w12.cell? ⟨R, 2, none⟩ = some (.slice none 0 0) := (cell_of hrc 2).trans rfl
                  have f2 : w12.frozen? ⟨R, 2, none⟩ = false := frozen_of hrc 2
                  have c3 : w12.cell? ⟨R, 3, none⟩ = some (.int .i64 0) := (cell_of hrc 3).trans rfl
                  have f3 : w12.frozen? ⟨R, 3, none⟩ = false := frozen_of hrc 3
                  have c4 : w12.cell? ⟨R, 4, none⟩ = some (.slice none 0 0) := (cell_of hrc 4).trans rfl
                  have f4 : w12.frozen? ⟨R, 4, none⟩ = false := frozen_of hrc 4
                  have c5 : w12.cell? ⟨R, 5, none⟩ = some (.string ⟨#[]⟩) := (cell_of hrc 5).trans rfl
                  have f5 : w12.frozen? ⟨R, 5, none⟩ = false := frozen_of hrc 5
                  have c6 : w12.cell? ⟨R, 6, none⟩ = some (.int .i64 0) := (cell_of hrc 6).trans rfl
                  have f6 : w12.frozen? ⟨R, 6, none⟩ = false := frozen_of hrc 6
                  obtain ⟨WE, hWE⟩ : ∃ W, W = (((((((w12.setCell ⟨R, 0, none⟩ (.string ⟨#[]⟩)).setCell ⟨R, 1, none⟩ (.slice none 0 0)).setCell ⟨R, 2, none⟩ (.slice none 0 0)).setCell ⟨R, 3, none⟩ (.int .i64 0)).setCell ⟨R, 4, none⟩ (.slice none 0 0)).setCell ⟨R, 5, none⟩ (.string ⟨#[]⟩)).setCell ⟨R, 6, none⟩ (.int .i64 0)) := ⟨_, rfl⟩
                  have HWE : Hid ((((((((w12.setCell ⟨R, 0, none⟩ (.string ⟨#[]⟩)).setCell ⟨R, 1, none⟩ (.slice none 0 0)).setCell ⟨R, 2, none⟩ (.slice none 0 0)).setCell ⟨R, 3, none⟩ (.int .i64 0)).setCell ⟨R, 4, none⟩ (.slice none 0 0)).setCell ⟨R, 5, none⟩ (.string ⟨#[]⟩)).setCell ⟨R, 6, none⟩ (.int .i64 0)) = WE) := hWE.symm
                  have HBE : Hid (Below w.heap.size w WE) := by show Below _ _ _; rw [hWE]; exact (((((((hbe.setCell (p := ⟨R, 0, none⟩) HRG.out _).setCell (p := ⟨R, 1, none⟩) HRG.out _).setCell (p := ⟨R, 2, none⟩) HRG.out _).setCell (p := ⟨R, 3, none⟩) HRG.out _).setCell (p := ⟨R, 4, none⟩) HRG.out _).setCell (p := ⟨R, 5, none⟩) HRG.out _).setCell (p := ⟨R, 6, none⟩) HRG.out _)
                  have hre : WE.heap[R]? = some (.cells #[.string ⟨#[]⟩, .slice none 0 0, .slice none 0 0, .int .i64 0, .slice none 0 0, .string ⟨#[]⟩, .int .i64 0] 29) := by rw [hWE]; have h := (heap_set _ R 6 _ _ _ (.int .i64 0) (heap_set _ R 5 _ _ _ (.string ⟨#[]⟩) (heap_set _ R 4 _ _ _ (.slice none 0 0) (heap_set _ R 3 _ _ _ (.int .i64 0) (heap_set _ R 2 _ _ _ (.slice none 0 0) (heap_set _ R 1 _ _ _ (.slice none 0 0) (heap_set _ R 0 _ _ _ (.string ⟨#[]⟩) hrc))))))); simpa using h
                  have k0 : WE.cell? ⟨R, 0, none⟩ = some (.string ⟨#[]⟩) := (cell_of hre 0).trans rfl
                  have k1 : WE.cell? ⟨R, 1, none⟩ = some (.slice none 0 0) := (cell_of hre 1).trans rfl
                  have k2 : WE.cell? ⟨R, 2, none⟩ = some (.slice none 0 0) := (cell_of hre 2).trans rfl
                  have k3 : WE.cell? ⟨R, 3, none⟩ = some (.int .i64 0) := (cell_of hre 3).trans rfl
                  have k4 : WE.cell? ⟨R, 4, none⟩ = some (.slice none 0 0) := (cell_of hre 4).trans rfl
                  have k5 : WE.cell? ⟨R, 5, none⟩ = some (.string ⟨#[]⟩) := (cell_of hre 5).trans rfl
                  have k6 : WE.cell? ⟨R, 6, none⟩ = some (.int .i64 0) := (cell_of hre 6).trans rfl
                  clear hWE hre hrc hbe
                  clear hus F12 N12 V12 hq12
                  go_wp2_with fail
                  simp only [HWE.out]
                  exact bodyPost_ret (v := .tuple #[.agg #[.string ⟨#[]⟩, .slice none 0 0, .slice none 0 0, .int .i64 0, .slice none 0 0, .string ⟨#[]⟩, .int .i64 0], .bool false]) (by simp [results, Tryz.results15, go_sem, k0, k1, k2, k3, k4, k5, k6]) rfl ⟨HBE.out, .inr ⟨rfl, HNO.out⟩⟩
          · clear hgo
            have hEND : ∀ (p' : ByteArray) (ys' : List ByteArray) (st' : Int) (fs' : List (ByteArray × ByteArray)) (b' : ByteArray) (t' : Int), IsObj s p' ys' st' fs' b' t' → x1 = p' ∧ ys = ys' ∧ x = ((valsTo (objHead p' t' ys'.length) ys' ys'.length).size : Int) ∧ t = t' := fun p' ys' st' fs' b' t' h => by
              obtain ⟨e1, e2, e3⟩ := HTN.out _ _ _ _ _ _ h
              obtain ⟨e4, e5⟩ := HI.out _ _ _ _ _ _ h
              have h4 := (obj_read h).2.2.2.2.2
              have ej : j = ys'.length := by omega
              rw [ej] at e4 e5
              rw [List.take_length] at e4
              exact ⟨e1, e4, e5, e2⟩
            by_cases hxn : x < 0
            · have hrc := HW.out.2.1
              have hbe := HW.out.1
              have HNO : Hid (∀ p ys st fs b t, ¬ IsObj s p ys st fs b t) := fun p ys st fs b t h => by
                obtain ⟨_, _, e, _⟩ := hEND _ _ _ _ _ _ h
                omega
              have c0 : wr.cell? ⟨R, 0, none⟩ = some (.string ⟨#[]⟩) := (cell_of hrc 0).trans rfl
              have f0 : wr.frozen? ⟨R, 0, none⟩ = false := frozen_of hrc 0
              have c1 : wr.cell? ⟨R, 1, none⟩ = some (.slice none 0 0) := (cell_of hrc 1).trans rfl
              have f1 : wr.frozen? ⟨R, 1, none⟩ = false := frozen_of hrc 1
              have c2 : wr.cell? ⟨R, 2, none⟩ = some (.slice none 0 0) := (cell_of hrc 2).trans rfl
              have f2 : wr.frozen? ⟨R, 2, none⟩ = false := frozen_of hrc 2
              have c3 : wr.cell? ⟨R, 3, none⟩ = some (.int .i64 0) := (cell_of hrc 3).trans rfl
              have f3 : wr.frozen? ⟨R, 3, none⟩ = false := frozen_of hrc 3
              have c4 : wr.cell? ⟨R, 4, none⟩ = some (.slice none 0 0) := (cell_of hrc 4).trans rfl
              have f4 : wr.frozen? ⟨R, 4, none⟩ = false := frozen_of hrc 4
              have c5 : wr.cell? ⟨R, 5, none⟩ = some (.string ⟨#[]⟩) := (cell_of hrc 5).trans rfl
              have f5 : wr.frozen? ⟨R, 5, none⟩ = false := frozen_of hrc 5
              have c6 : wr.cell? ⟨R, 6, none⟩ = some (.int .i64 0) := (cell_of hrc 6).trans rfl
              have f6 : wr.frozen? ⟨R, 6, none⟩ = false := frozen_of hrc 6
              obtain ⟨WE, hWE⟩ : ∃ W, W = (((((((wr.setCell ⟨R, 0, none⟩ (.string ⟨#[]⟩)).setCell ⟨R, 1, none⟩ (.slice none 0 0)).setCell ⟨R, 2, none⟩ (.slice none 0 0)).setCell ⟨R, 3, none⟩ (.int .i64 0)).setCell ⟨R, 4, none⟩ (.slice none 0 0)).setCell ⟨R, 5, none⟩ (.string ⟨#[]⟩)).setCell ⟨R, 6, none⟩ (.int .i64 0)) := ⟨_, rfl⟩
              have HWE : Hid ((((((((wr.setCell ⟨R, 0, none⟩ (.string ⟨#[]⟩)).setCell ⟨R, 1, none⟩ (.slice none 0 0)).setCell ⟨R, 2, none⟩ (.slice none 0 0)).setCell ⟨R, 3, none⟩ (.int .i64 0)).setCell ⟨R, 4, none⟩ (.slice none 0 0)).setCell ⟨R, 5, none⟩ (.string ⟨#[]⟩)).setCell ⟨R, 6, none⟩ (.int .i64 0)) = WE) := hWE.symm
              have HBE : Hid (Below w.heap.size w WE) := by show Below _ _ _; rw [hWE]; exact (((((((hbe.setCell (p := ⟨R, 0, none⟩) HRG.out _).setCell (p := ⟨R, 1, none⟩) HRG.out _).setCell (p := ⟨R, 2, none⟩) HRG.out _).setCell (p := ⟨R, 3, none⟩) HRG.out _).setCell (p := ⟨R, 4, none⟩) HRG.out _).setCell (p := ⟨R, 5, none⟩) HRG.out _).setCell (p := ⟨R, 6, none⟩) HRG.out _)
              have hre : WE.heap[R]? = some (.cells #[.string ⟨#[]⟩, .slice none 0 0, .slice none 0 0, .int .i64 0, .slice none 0 0, .string ⟨#[]⟩, .int .i64 0] 29) := by rw [hWE]; have h := (heap_set _ R 6 _ _ _ (.int .i64 0) (heap_set _ R 5 _ _ _ (.string ⟨#[]⟩) (heap_set _ R 4 _ _ _ (.slice none 0 0) (heap_set _ R 3 _ _ _ (.int .i64 0) (heap_set _ R 2 _ _ _ (.slice none 0 0) (heap_set _ R 1 _ _ _ (.slice none 0 0) (heap_set _ R 0 _ _ _ (.string ⟨#[]⟩) hrc))))))); simpa using h
              have k0 : WE.cell? ⟨R, 0, none⟩ = some (.string ⟨#[]⟩) := (cell_of hre 0).trans rfl
              have k1 : WE.cell? ⟨R, 1, none⟩ = some (.slice none 0 0) := (cell_of hre 1).trans rfl
              have k2 : WE.cell? ⟨R, 2, none⟩ = some (.slice none 0 0) := (cell_of hre 2).trans rfl
              have k3 : WE.cell? ⟨R, 3, none⟩ = some (.int .i64 0) := (cell_of hre 3).trans rfl
              have k4 : WE.cell? ⟨R, 4, none⟩ = some (.slice none 0 0) := (cell_of hre 4).trans rfl
              have k5 : WE.cell? ⟨R, 5, none⟩ = some (.string ⟨#[]⟩) := (cell_of hre 5).trans rfl
              have k6 : WE.cell? ⟨R, 6, none⟩ = some (.int .i64 0) := (cell_of hre 6).trans rfl
              clear hWE hre hrc hbe
              clear hEND HW HV HI
              go_wp2_with fail
              simp only [HWE.out]
              exact bodyPost_ret (v := .tuple #[.agg #[.string ⟨#[]⟩, .slice none 0 0, .slice none 0 0, .int .i64 0, .slice none 0 0, .string ⟨#[]⟩, .int .i64 0], .bool false]) (by simp [results, Tryz.results15, go_sem, k0, k1, k2, k3, k4, k5, k6]) rfl ⟨HBE.out, .inr ⟨rfl, HNO.out⟩⟩
            · obtain ⟨f, rfl, hfz⟩ : ∃ f : Nat, x = (f : Int) ∧ f ≤ s.size := by
                rcases hx with hx | hx
                · omega
                · exact hx
              have HEND : Hid (∀ (p' : ByteArray) (ys' : List ByteArray) (st' : Int) (fs' : List (ByteArray × ByteArray)) (b' : ByteArray) (t' : Int), IsObj s p' ys' st' fs' b' t' → x1 = p' ∧ ys = ys' ∧ t = t' ∧ s.extract f s.size = respT st' fs' b') := fun p' ys' st' fs' b' t' h => by
                obtain ⟨e1, e2, e3, e4⟩ := hEND _ _ _ _ _ _ h
                refine ⟨e1, e2, e4, ?_⟩
                rw [show f = (valsTo (objHead p' t' ys'.length) ys' ys'.length).size by omega]
                exact obj_tail h
              obtain ⟨lf, hlf⟩ : ∃ lf, lf = s.extract f s.size := ⟨_, rfl⟩
              have hlz : lf.size ≤ 3000000 := by
                have h1 : (bs lf).length ≤ (bs s).length := by
                  rw [hlf, bs_extract, List.length_drop, List.length_take]
                  omega
                rw [bs_len, bs_len] at h1
                omega
              have HLF : Hid (s.extract f s.size = lf) := hlf.symm
              rw [← hlf] at HEND
              obtain ⟨oV, cV, rfl⟩ := slice_of_owns HV.out
              have hfz2 : (f : Int) ≤ (s.size : Int) := by omega
              clear hx hEND hlf HI
              go_wp2_with fail
              rw [HLF.out]
              refine (specRespRead_any lf _ hlz).mono ?_
              intro e w8 hr
              obtain ⟨st, fs, bd, vF, tb, rfl, hok, hun, ownF, bw⟩ := resp_out hr
              have HOK : Hid (FldsOk fs ∧ bd.size ≤ 120) := hok
              have HUN : Hid (∀ (p' : ByteArray) (ys' : List ByteArray) (st' : Int) (fs' : List (ByteArray × ByteArray)) (b' : ByteArray) (t' : Int), IsObj s p' ys' st' fs' b' t' → x1 = p' ∧ ys = ys' ∧ st = st' ∧ fs = fs' ∧ bd = b' ∧ t = t') := fun p' ys' st' fs' b' t' h => by
                obtain ⟨e1, e2, e3, e4⟩ := HEND.out _ _ _ _ _ _ h
                obtain ⟨e5, e6, e7⟩ := hun st' fs' b' ⟨h.1.1, e4.symm⟩
                exact ⟨e1, e2, e5, e6, e7, e3⟩
              obtain ⟨oF, cF, rfl⟩ := slice_of_owns ownF
              have hq8 := blk_below HW.out.2.2 bw
              have c3 : w8.cell? ⟨q, 3, none⟩ = some (.int .i64 0) := (cell_of hq8 3).trans rfl
              have c4 : w8.cell? ⟨q, 4, none⟩ = some (.slice none 0 0) := (cell_of hq8 4).trans rfl
              have c5 : w8.cell? ⟨q, 5, none⟩ = some (.string ⟨#[]⟩) := (cell_of hq8 5).trans rfl
              have f3 := frozen_of hq8 3
              have f4 := frozen_of hq8 4
              have f5 := frozen_of hq8 5
              have hV8 := owns_below HV.out bw (fun g hg => owns_lt HV.out hg)
              have hF8 : w8.ownsRow w.heap.size 131 2 (.slice oF fs.length cF) fs.length (flatF fs) := owns_wide ownF HW.out.1.size
              have hb8 := HW.out.1.trans (bw.mono HW.out.1.size)
              have hr8 := blk_below HW.out.2.1 bw
              obtain ⟨W9, hW9⟩ : ∃ W, W = ((w8.setCell ⟨q, 3, none⟩ (.int .i64 st)).setCell ⟨q, 4, none⟩ (.slice oF fs.length cF)).setCell ⟨q, 5, none⟩ (.string bd) := ⟨_, rfl⟩
              have HB9 : Hid (Below w.heap.size w W9) := by
                show Below _ _ _
                rw [hW9]
                exact ((hb8.setCell (p := ⟨q, 3, none⟩) HQG.out _).setCell (p := ⟨q, 4, none⟩) HQG.out _).setCell (p := ⟨q, 5, none⟩) HQG.out _
              have HR9 : Hid (W9.heap[R]? = some (.cells #[.string ⟨#[]⟩, .slice none 0 0, .slice none 0 0, .int .i64 0, .slice none 0 0, .string ⟨#[]⟩, .int .i64 0] 29)) := by
                show _ = _
                rw [hW9, heap_setCell_other _ _ _ _ HRQ.out, heap_setCell_other _ _ _ _ HRQ.out, heap_setCell_other _ _ _ _ HRQ.out]
                exact hr8
              have HQ9 : Hid (W9.heap[q]? = some (.cells #[.string x1, .slice none 0 0, .slice oV j cV, .int .i64 st, .slice oF fs.length cF, .string bd, .int .i64 t] 29)) := by
                show _ = _
                rw [hW9]
                have h := heap_set _ q 5 _ _ _ (.string bd) (heap_set _ q 4 _ _ _ (.slice oF fs.length cF) (heap_set _ q 3 _ _ _ (.int .i64 st) hq8))
                simpa using h
              have HV9 : Hid (W9.ownsRow w.heap.size 9 1 (.slice oV j cV) j (ys.map Value.string)) := by
                show World.ownsRow _ _ _ _ _ _ _
                rw [hW9]
                refine owns_same hV8 (fun g hg => ?_)
                have hne := own_ne hV8 hq8 (by decide) g hg
                rw [heap_setCell_other _ _ g _ hne, heap_setCell_other _ _ g _ hne, heap_setCell_other _ _ g _ hne]
              have HF9 : Hid (W9.ownsRow w.heap.size 131 2 (.slice oF fs.length cF) fs.length (flatF fs)) := by
                show World.ownsRow _ _ _ _ _ _ _
                rw [hW9]
                refine owns_same hF8 (fun g hg => ?_)
                have hne := own_ne hF8 hq8 (by decide) g hg
                rw [heap_setCell_other _ _ g _ hne, heap_setCell_other _ _ g _ hne, heap_setCell_other _ _ g _ hne]
              have HWE9 : Hid (((w8.setCell ⟨q, 3, none⟩ (.int .i64 st)).setCell ⟨q, 4, none⟩ (.slice oF fs.length cF)).setCell ⟨q, 5, none⟩ (.string bd) = W9) := hW9.symm
              have c4b : W9.cell? ⟨q, 4, none⟩ = some (.slice oF fs.length cF) := (cell_of HQ9.out 4).trans rfl
              clear hr hok hun ownF bw hq8 hV8 hF8 hb8 hr8 hW9 HW HV HEND HLF
              go_upto_region 17 with fail
              rw [HWE9.out]
              clear c3 c4 c5 f3 f4 f5 HWE9
              go_wp2_with fail
              refine (specVaryOf_any _ fs.length w.heap.size fs _ (FieldsV.of_owns HF9.out) (by have := (flds_sizes HOK.out.1).1; omega) (getV_small HOK.out.1 _)).mono ?_
              rintro e w10 ⟨vN, rfl, ownN, bw⟩
              obtain ⟨oN, cN, rfl⟩ := slice_of_owns ownN
              have hq10 := blk_below HQ9.out bw
              have c1 : w10.cell? ⟨q, 1, none⟩ = some (.slice none 0 0) := (cell_of hq10 1).trans rfl
              have f1 := frozen_of hq10 1
              have hV10 := owns_below HV9.out bw (fun g hg => owns_lt HV9.out hg)
              have hF10 := owns_below HF9.out bw (fun g hg => owns_lt HF9.out hg)
              have hN10 : w10.ownsRow w.heap.size 9 1 (.slice oN (varyP fs).length cN) (varyP fs).length ((varyP fs).map Value.string) := owns_wide ownN HB9.out.size
              have HNEV : Hid (∀ g, (Value.slice oN (varyP fs).length cN).ownBlock = some g → (Value.slice oV j cV).ownBlock ≠ some g) := fun g hg e => by
                have h1 := owns_ge ownN hg
                have h2 := owns_lt HV9.out e
                omega
              obtain ⟨W11, hW11⟩ : ∃ W, W = w10.setCell ⟨q, 1, none⟩ (.slice oN (varyP fs).length cN) := ⟨_, rfl⟩
              have HB11 : Hid (Below w.heap.size w W11) := by
                show Below _ _ _
                rw [hW11]
                exact (HB9.out.trans (bw.mono HB9.out.size)).setCell (p := ⟨q, 1, none⟩) HQG.out _
              have HR11 : Hid (W11.heap[R]? = some (.cells #[.string ⟨#[]⟩, .slice none 0 0, .slice none 0 0, .int .i64 0, .slice none 0 0, .string ⟨#[]⟩, .int .i64 0] 29)) := by
                show _ = _
                rw [hW11, heap_setCell_other _ _ _ _ HRQ.out]
                exact blk_below HR9.out bw
              have HQ11 : Hid (W11.heap[q]? = some (.cells #[.string x1, .slice oN (varyP fs).length cN, .slice oV j cV, .int .i64 st, .slice oF fs.length cF, .string bd, .int .i64 t] 29)) := by
                show _ = _
                rw [hW11]
                have h := heap_set _ q 1 _ _ _ (.slice oN (varyP fs).length cN) hq10
                simpa using h
              have HV11 : Hid (W11.ownsRow w.heap.size 9 1 (.slice oV j cV) j (ys.map Value.string)) := by
                show World.ownsRow _ _ _ _ _ _ _
                rw [hW11]
                exact owns_same hV10 (fun g hg => heap_setCell_other _ _ g _ (own_ne hV10 hq10 (by decide) g hg))
              have HF11 : Hid (W11.ownsRow w.heap.size 131 2 (.slice oF fs.length cF) fs.length (flatF fs)) := by
                show World.ownsRow _ _ _ _ _ _ _
                rw [hW11]
                exact owns_same hF10 (fun g hg => heap_setCell_other _ _ g _ (own_ne hF10 hq10 (by decide) g hg))
              have HN11 : Hid (W11.ownsRow w.heap.size 9 1 (.slice oN (varyP fs).length cN) (varyP fs).length ((varyP fs).map Value.string)) := by
                show World.ownsRow _ _ _ _ _ _ _
                rw [hW11]
                exact owns_same hN10 (fun g hg => heap_setCell_other _ _ g _ (own_ne hN10 hq10 (by decide) g hg))
              have HWE11 : Hid (w10.setCell ⟨q, 1, none⟩ (.slice oN (varyP fs).length cN) = W11) := hW11.symm
              clear ownN bw hq10 hV10 hF10 hN10 hW11 HB9 HR9 HQ9 HV9 HF9 c4b
              go_upto_region 18 with fail
              rw [HWE11.out]
              clear c1 f1 HWE11
              have d0 : W11.cell? ⟨q, 0, none⟩ = some (.string x1) := (cell_of HQ11.out 0).trans rfl
              have d1 : W11.cell? ⟨q, 1, none⟩ = some (.slice oN (varyP fs).length cN) := (cell_of HQ11.out 1).trans rfl
              have d2 : W11.cell? ⟨q, 2, none⟩ = some (.slice oV j cV) := (cell_of HQ11.out 2).trans rfl
              have d3 : W11.cell? ⟨q, 3, none⟩ = some (.int .i64 st) := (cell_of HQ11.out 3).trans rfl
              have d4 : W11.cell? ⟨q, 4, none⟩ = some (.slice oF fs.length cF) := (cell_of HQ11.out 4).trans rfl
              have d5 : W11.cell? ⟨q, 5, none⟩ = some (.string bd) := (cell_of HQ11.out 5).trans rfl
              have d6 : W11.cell? ⟨q, 6, none⟩ = some (.int .i64 t) := (cell_of HQ11.out 6).trans rfl
              have hvs := vary_small HOK.out.1
              have hf8 := (flds_sizes HOK.out.1).1
              go_wp2_with fail
              have hcall := specObjText_any x1 oN (varyP fs).length cN (varyP fs) oV j cV ys st (.slice oF fs.length cF) fs.length w.heap.size fs bd t W11 (texts_view HN11.out) (texts_view HV11.out) (FieldsV.of_owns HF11.out) hvs.1 (by omega) (by omega) hvs.2 (fun i hi => by have := HYZ.out _ (textAt_mem ys i (by rw [hyl.out]; exact hi)); unfold maxLen; omega) (walkF_small HOK.out.1) z1 (by have := HOK.out.2; unfold maxLen; omega) (getV_small HOK.out.1 _)
              refine hcall.mono ?_
              clear hcall
              rintro e w12 ⟨u, rfl, hu1, hu2, bw⟩
              have HU1 : Hid (ObjP x1 (varyP fs) ys st fs bd t → u = objT x1 ys st fs bd t) := hu1
              have HU2 : Hid (¬ ObjP x1 (varyP fs) ys st fs bd t → u = ⟨#[]⟩) := hu2
              have hrc := blk_below HR11.out bw
              have hbe := HB11.out.trans (bw.mono HB11.out.size)
              have hq12 := blk_below HQ11.out bw
              have F12 := owns_below HF11.out bw (fun g hg => owns_lt HF11.out hg)
              have N12 := owns_below HN11.out bw (fun g hg => owns_lt HN11.out hg)
              have V12 := owns_below HV11.out bw (fun g hg => owns_lt HV11.out hg)
              clear hu1 hu2 bw d0 d1 d2 d3 d4 d5 d6 hvs HR11 HB11 HQ11 HF11 HN11 HV11
              by_cases hus : u = s
              · have HIS : Hid (IsObj s x1 ys st fs bd t) := by
                  by_cases hp : ObjP x1 (varyP fs) ys st fs bd t
                  · exact ⟨hp, by rw [← HU1.out hp]; exact hus⟩
                  · exfalso
                    have h1 := HU2.out hp
                    have h2 : s.size = 0 := by rw [← hus, h1]; rfl
                    omega
                have hts : (u.toList == s.toList) = true := (text_beq _ _).2 hus
                have d0 : w12.cell? ⟨q, 0, none⟩ = some (.string x1) := (cell_of hq12 0).trans rfl
                have d1 : w12.cell? ⟨q, 1, none⟩ = some (.slice oN (varyP fs).length cN) := (cell_of hq12 1).trans rfl
                have d2 : w12.cell? ⟨q, 2, none⟩ = some (.slice oV j cV) := (cell_of hq12 2).trans rfl
                have d3 : w12.cell? ⟨q, 3, none⟩ = some (.int .i64 st) := (cell_of hq12 3).trans rfl
                have d4 : w12.cell? ⟨q, 4, none⟩ = some (.slice oF fs.length cF) := (cell_of hq12 4).trans rfl
                have d5 : w12.cell? ⟨q, 5, none⟩ = some (.string bd) := (cell_of hq12 5).trans rfl
                have d6 : w12.cell? ⟨q, 6, none⟩ = some (.int .i64 t) := (cell_of hq12 6).trans rfl
                have c0 : w12.cell? ⟨R, 0, none⟩ = some (.string ⟨#[]⟩) := (cell_of hrc 0).trans rfl
                have f0 : w12.frozen? ⟨R, 0, none⟩ = false := frozen_of hrc 0
                have c1 : w12.cell? ⟨R, 1, none⟩ = some (.slice none 0 0) := (cell_of hrc 1).trans rfl
                have f1 : w12.frozen? ⟨R, 1, none⟩ = false := frozen_of hrc 1
                have c2 : w12.cell? ⟨R, 2, none⟩ = some (.slice none 0 0) := (cell_of hrc 2).trans rfl
                have f2 : w12.frozen? ⟨R, 2, none⟩ = false := frozen_of hrc 2
                have c3 : w12.cell? ⟨R, 3, none⟩ = some (.int .i64 0) := (cell_of hrc 3).trans rfl
                have f3 : w12.frozen? ⟨R, 3, none⟩ = false := frozen_of hrc 3
                have c4 : w12.cell? ⟨R, 4, none⟩ = some (.slice none 0 0) := (cell_of hrc 4).trans rfl
                have f4 : w12.frozen? ⟨R, 4, none⟩ = false := frozen_of hrc 4
                have c5 : w12.cell? ⟨R, 5, none⟩ = some (.string ⟨#[]⟩) := (cell_of hrc 5).trans rfl
                have f5 : w12.frozen? ⟨R, 5, none⟩ = false := frozen_of hrc 5
                have c6 : w12.cell? ⟨R, 6, none⟩ = some (.int .i64 0) := (cell_of hrc 6).trans rfl
                have f6 : w12.frozen? ⟨R, 6, none⟩ = false := frozen_of hrc 6
                obtain ⟨WE, hWE⟩ : ∃ W, W = (((((((w12.setCell ⟨R, 0, none⟩ (.string x1)).setCell ⟨R, 1, none⟩ (.slice oN (varyP fs).length cN)).setCell ⟨R, 2, none⟩ (.slice oV j cV)).setCell ⟨R, 3, none⟩ (.int .i64 st)).setCell ⟨R, 4, none⟩ (.slice oF fs.length cF)).setCell ⟨R, 5, none⟩ (.string bd)).setCell ⟨R, 6, none⟩ (.int .i64 t)) := ⟨_, rfl⟩
                have HWE : Hid ((((((((w12.setCell ⟨R, 0, none⟩ (.string x1)).setCell ⟨R, 1, none⟩ (.slice oN (varyP fs).length cN)).setCell ⟨R, 2, none⟩ (.slice oV j cV)).setCell ⟨R, 3, none⟩ (.int .i64 st)).setCell ⟨R, 4, none⟩ (.slice oF fs.length cF)).setCell ⟨R, 5, none⟩ (.string bd)).setCell ⟨R, 6, none⟩ (.int .i64 t)) = WE) := hWE.symm
                have HBE : Hid (Below w.heap.size w WE) := by show Below _ _ _; rw [hWE]; exact (((((((hbe.setCell (p := ⟨R, 0, none⟩) HRG.out _).setCell (p := ⟨R, 1, none⟩) HRG.out _).setCell (p := ⟨R, 2, none⟩) HRG.out _).setCell (p := ⟨R, 3, none⟩) HRG.out _).setCell (p := ⟨R, 4, none⟩) HRG.out _).setCell (p := ⟨R, 5, none⟩) HRG.out _).setCell (p := ⟨R, 6, none⟩) HRG.out _)
                have hre : WE.heap[R]? = some (.cells #[.string x1, .slice oN (varyP fs).length cN, .slice oV j cV, .int .i64 st, .slice oF fs.length cF, .string bd, .int .i64 t] 29) := by rw [hWE]; have h := (heap_set _ R 6 _ _ _ (.int .i64 t) (heap_set _ R 5 _ _ _ (.string bd) (heap_set _ R 4 _ _ _ (.slice oF fs.length cF) (heap_set _ R 3 _ _ _ (.int .i64 st) (heap_set _ R 2 _ _ _ (.slice oV j cV) (heap_set _ R 1 _ _ _ (.slice oN (varyP fs).length cN) (heap_set _ R 0 _ _ _ (.string x1) hrc))))))); simpa using h
                have HFE : Hid (WE.ownsRow w.heap.size 131 2 (.slice oF fs.length cF) fs.length (flatF fs)) := by
                  show World.ownsRow _ _ _ _ _ _ _
                  rw [hWE]
                  refine owns_same F12 (fun g hg => ?_)
                  have hne := own_ne F12 hrc (by decide) g hg
                  rw [heap_setCell_other _ _ g _ hne, heap_setCell_other _ _ g _ hne, heap_setCell_other _ _ g _ hne, heap_setCell_other _ _ g _ hne, heap_setCell_other _ _ g _ hne, heap_setCell_other _ _ g _ hne, heap_setCell_other _ _ g _ hne]
                have HNE : Hid (WE.ownsRow w.heap.size 9 1 (.slice oN (varyP fs).length cN) (varyP fs).length ((varyP fs).map Value.string)) := by
                  show World.ownsRow _ _ _ _ _ _ _
                  rw [hWE]
                  refine owns_same N12 (fun g hg => ?_)
                  have hne := own_ne N12 hrc (by decide) g hg
                  rw [heap_setCell_other _ _ g _ hne, heap_setCell_other _ _ g _ hne, heap_setCell_other _ _ g _ hne, heap_setCell_other _ _ g _ hne, heap_setCell_other _ _ g _ hne, heap_setCell_other _ _ g _ hne, heap_setCell_other _ _ g _ hne]
                have HVE : Hid (WE.ownsRow w.heap.size 9 1 (.slice oV j cV) j (ys.map Value.string)) := by
                  show World.ownsRow _ _ _ _ _ _ _
                  rw [hWE]
                  refine owns_same V12 (fun g hg => ?_)
                  have hne := own_ne V12 hrc (by decide) g hg
                  rw [heap_setCell_other _ _ g _ hne, heap_setCell_other _ _ g _ hne, heap_setCell_other _ _ g _ hne, heap_setCell_other _ _ g _ hne, heap_setCell_other _ _ g _ hne, heap_setCell_other _ _ g _ hne, heap_setCell_other _ _ g _ hne]
                have k0 : WE.cell? ⟨R, 0, none⟩ = some (.string x1) := (cell_of hre 0).trans rfl
                have k1 : WE.cell? ⟨R, 1, none⟩ = some (.slice oN (varyP fs).length cN) := (cell_of hre 1).trans rfl
                have k2 : WE.cell? ⟨R, 2, none⟩ = some (.slice oV j cV) := (cell_of hre 2).trans rfl
                have k3 : WE.cell? ⟨R, 3, none⟩ = some (.int .i64 st) := (cell_of hre 3).trans rfl
                have k4 : WE.cell? ⟨R, 4, none⟩ = some (.slice oF fs.length cF) := (cell_of hre 4).trans rfl
                have k5 : WE.cell? ⟨R, 5, none⟩ = some (.string bd) := (cell_of hre 5).trans rfl
                have k6 : WE.cell? ⟨R, 6, none⟩ = some (.int .i64 t) := (cell_of hre 6).trans rfl
                clear hWE hre hrc hbe
                clear hus F12 N12 V12 hq12
                go_wp2_with fail
                simp only [HWE.out]
                exact bodyPost_ret (v := .tuple #[.agg #[.string x1, .slice oN (varyP fs).length cN, .slice oV j cV, .int .i64 st, .slice oF fs.length cF, .string bd, .int .i64 t], .bool true]) (by simp [results, Tryz.results15, go_sem, k0, k1, k2, k3, k4, k5, k6]) rfl ⟨HBE.out, .inl ⟨x1, ys, st, fs, bd, t, _, _, _, rfl, HIS.out, ⟨HNE.out, by rw [hyl.out]; exact HVE.out, HFE.out, HNEV.out⟩⟩⟩
              · have HNO : Hid (∀ p ys st fs b t, ¬ IsObj s p ys st fs b t) := fun p' ys' st' fs' b' t' h => by
                  obtain ⟨rfl, rfl, rfl, rfl, rfl, rfl⟩ := HUN.out _ _ _ _ _ _ h
                  exact hus ((HU1.out h.1).trans h.2)
                have hts := text_beq_no hus
                have c0 : w12.cell? ⟨R, 0, none⟩ = some (.string ⟨#[]⟩) := (cell_of hrc 0).trans rfl
                have f0 : w12.frozen? ⟨R, 0, none⟩ = false := frozen_of hrc 0
                have c1 : w12.cell? ⟨R, 1, none⟩ = some (.slice none 0 0) := (cell_of hrc 1).trans rfl
                have f1 : w12.frozen? ⟨R, 1, none⟩ = false := frozen_of hrc 1
                have c2 : w12.cell? ⟨R, 2, none⟩ = some (.slice none 0 0) := (cell_of hrc 2).trans rfl
                have f2 : w12.frozen? ⟨R, 2, none⟩ = false := frozen_of hrc 2
                have c3 : w12.cell? ⟨R, 3, none⟩ = some (.int .i64 0) := (cell_of hrc 3).trans rfl
                have f3 : w12.frozen? ⟨R, 3, none⟩ = false := frozen_of hrc 3
                have c4 : w12.cell? ⟨R, 4, none⟩ = some (.slice none 0 0) := (cell_of hrc 4).trans rfl
                have f4 : w12.frozen? ⟨R, 4, none⟩ = false := frozen_of hrc 4
                have c5 : w12.cell? ⟨R, 5, none⟩ = some (.string ⟨#[]⟩) := (cell_of hrc 5).trans rfl
                have f5 : w12.frozen? ⟨R, 5, none⟩ = false := frozen_of hrc 5
                have c6 : w12.cell? ⟨R, 6, none⟩ = some (.int .i64 0) := (cell_of hrc 6).trans rfl
                have f6 : w12.frozen? ⟨R, 6, none⟩ = false := frozen_of hrc 6
                obtain ⟨WE, hWE⟩ : ∃ W, W = (((((((w12.setCell ⟨R, 0, none⟩ (.string ⟨#[]⟩)).setCell ⟨R, 1, none⟩ (.slice none 0 0)).setCell ⟨R, 2, none⟩ (.slice none 0 0)).setCell ⟨R, 3, none⟩ (.int .i64 0)).setCell ⟨R, 4, none⟩ (.slice none 0 0)).setCell ⟨R, 5, none⟩ (.string ⟨#[]⟩)).setCell ⟨R, 6, none⟩ (.int .i64 0)) := ⟨_, rfl⟩
                have HWE : Hid ((((((((w12.setCell ⟨R, 0, none⟩ (.string ⟨#[]⟩)).setCell ⟨R, 1, none⟩ (.slice none 0 0)).setCell ⟨R, 2, none⟩ (.slice none 0 0)).setCell ⟨R, 3, none⟩ (.int .i64 0)).setCell ⟨R, 4, none⟩ (.slice none 0 0)).setCell ⟨R, 5, none⟩ (.string ⟨#[]⟩)).setCell ⟨R, 6, none⟩ (.int .i64 0)) = WE) := hWE.symm
                have HBE : Hid (Below w.heap.size w WE) := by show Below _ _ _; rw [hWE]; exact (((((((hbe.setCell (p := ⟨R, 0, none⟩) HRG.out _).setCell (p := ⟨R, 1, none⟩) HRG.out _).setCell (p := ⟨R, 2, none⟩) HRG.out _).setCell (p := ⟨R, 3, none⟩) HRG.out _).setCell (p := ⟨R, 4, none⟩) HRG.out _).setCell (p := ⟨R, 5, none⟩) HRG.out _).setCell (p := ⟨R, 6, none⟩) HRG.out _)
                have hre : WE.heap[R]? = some (.cells #[.string ⟨#[]⟩, .slice none 0 0, .slice none 0 0, .int .i64 0, .slice none 0 0, .string ⟨#[]⟩, .int .i64 0] 29) := by rw [hWE]; have h := (heap_set _ R 6 _ _ _ (.int .i64 0) (heap_set _ R 5 _ _ _ (.string ⟨#[]⟩) (heap_set _ R 4 _ _ _ (.slice none 0 0) (heap_set _ R 3 _ _ _ (.int .i64 0) (heap_set _ R 2 _ _ _ (.slice none 0 0) (heap_set _ R 1 _ _ _ (.slice none 0 0) (heap_set _ R 0 _ _ _ (.string ⟨#[]⟩) hrc))))))); simpa using h
                have k0 : WE.cell? ⟨R, 0, none⟩ = some (.string ⟨#[]⟩) := (cell_of hre 0).trans rfl
                have k1 : WE.cell? ⟨R, 1, none⟩ = some (.slice none 0 0) := (cell_of hre 1).trans rfl
                have k2 : WE.cell? ⟨R, 2, none⟩ = some (.slice none 0 0) := (cell_of hre 2).trans rfl
                have k3 : WE.cell? ⟨R, 3, none⟩ = some (.int .i64 0) := (cell_of hre 3).trans rfl
                have k4 : WE.cell? ⟨R, 4, none⟩ = some (.slice none 0 0) := (cell_of hre 4).trans rfl
                have k5 : WE.cell? ⟨R, 5, none⟩ = some (.string ⟨#[]⟩) := (cell_of hre 5).trans rfl
                have k6 : WE.cell? ⟨R, 6, none⟩ = some (.int .i64 0) := (cell_of hre 6).trans rfl
                clear hWE hre hrc hbe
                clear hus F12 N12 V12 hq12
                go_wp2_with fail
                simp only [HWE.out]
                exact bodyPost_ret (v := .tuple #[.agg #[.string ⟨#[]⟩, .slice none 0 0, .slice none 0 0, .int .i64 0, .slice none 0 0, .string ⟨#[]⟩, .int .i64 0], .bool false]) (by simp [results, Tryz.results15, go_sem, k0, k1, k2, k3, k4, k5, k6]) rfl ⟨HBE.out, .inr ⟨rfl, HNO.out⟩⟩
    · have hne4 : ((xs.length : Int) != 4) = true := by rw [bne_iff_ne]; omega
      have hng : ¬ ((k0 : Int) + 1 < 0) := by omega
      have hrc := HR3.out
      have hbe := HB3.out
      have HNO : Hid (∀ p ys st fs b t, ¬ IsObj s p ys st fs b t) := fun p ys st fs b t h => h4 (by
        have e := congrArg List.length (HXS.out _ _ _ _ _ _ h)
        simpa using e)
      have c0 : w3.cell? ⟨R, 0, none⟩ = some (.string ⟨#[]⟩) := (cell_of hrc 0).trans rfl
      have f0 : w3.frozen? ⟨R, 0, none⟩ = false := frozen_of hrc 0
      have c1 : w3.cell? ⟨R, 1, none⟩ = some (.slice none 0 0) := (cell_of hrc 1).trans rfl
      have f1 : w3.frozen? ⟨R, 1, none⟩ = false := frozen_of hrc 1
      have c2 : w3.cell? ⟨R, 2, none⟩ = some (.slice none 0 0) := (cell_of hrc 2).trans rfl
      have f2 : w3.frozen? ⟨R, 2, none⟩ = false := frozen_of hrc 2
      have c3 : w3.cell? ⟨R, 3, none⟩ = some (.int .i64 0) := (cell_of hrc 3).trans rfl
      have f3 : w3.frozen? ⟨R, 3, none⟩ = false := frozen_of hrc 3
      have c4 : w3.cell? ⟨R, 4, none⟩ = some (.slice none 0 0) := (cell_of hrc 4).trans rfl
      have f4 : w3.frozen? ⟨R, 4, none⟩ = false := frozen_of hrc 4
      have c5 : w3.cell? ⟨R, 5, none⟩ = some (.string ⟨#[]⟩) := (cell_of hrc 5).trans rfl
      have f5 : w3.frozen? ⟨R, 5, none⟩ = false := frozen_of hrc 5
      have c6 : w3.cell? ⟨R, 6, none⟩ = some (.int .i64 0) := (cell_of hrc 6).trans rfl
      have f6 : w3.frozen? ⟨R, 6, none⟩ = false := frozen_of hrc 6
      obtain ⟨WE, hWE⟩ : ∃ W, W = (((((((w3.setCell ⟨R, 0, none⟩ (.string ⟨#[]⟩)).setCell ⟨R, 1, none⟩ (.slice none 0 0)).setCell ⟨R, 2, none⟩ (.slice none 0 0)).setCell ⟨R, 3, none⟩ (.int .i64 0)).setCell ⟨R, 4, none⟩ (.slice none 0 0)).setCell ⟨R, 5, none⟩ (.string ⟨#[]⟩)).setCell ⟨R, 6, none⟩ (.int .i64 0)) := ⟨_, rfl⟩
      have HWE : Hid ((((((((w3.setCell ⟨R, 0, none⟩ (.string ⟨#[]⟩)).setCell ⟨R, 1, none⟩ (.slice none 0 0)).setCell ⟨R, 2, none⟩ (.slice none 0 0)).setCell ⟨R, 3, none⟩ (.int .i64 0)).setCell ⟨R, 4, none⟩ (.slice none 0 0)).setCell ⟨R, 5, none⟩ (.string ⟨#[]⟩)).setCell ⟨R, 6, none⟩ (.int .i64 0)) = WE) := hWE.symm
      have HBE : Hid (Below w.heap.size w WE) := by show Below _ _ _; rw [hWE]; exact (((((((hbe.setCell (p := ⟨R, 0, none⟩) HRG.out _).setCell (p := ⟨R, 1, none⟩) HRG.out _).setCell (p := ⟨R, 2, none⟩) HRG.out _).setCell (p := ⟨R, 3, none⟩) HRG.out _).setCell (p := ⟨R, 4, none⟩) HRG.out _).setCell (p := ⟨R, 5, none⟩) HRG.out _).setCell (p := ⟨R, 6, none⟩) HRG.out _)
      have hre : WE.heap[R]? = some (.cells #[.string ⟨#[]⟩, .slice none 0 0, .slice none 0 0, .int .i64 0, .slice none 0 0, .string ⟨#[]⟩, .int .i64 0] 29) := by rw [hWE]; have h := (heap_set _ R 6 _ _ _ (.int .i64 0) (heap_set _ R 5 _ _ _ (.string ⟨#[]⟩) (heap_set _ R 4 _ _ _ (.slice none 0 0) (heap_set _ R 3 _ _ _ (.int .i64 0) (heap_set _ R 2 _ _ _ (.slice none 0 0) (heap_set _ R 1 _ _ _ (.slice none 0 0) (heap_set _ R 0 _ _ _ (.string ⟨#[]⟩) hrc))))))); simpa using h
      have k0 : WE.cell? ⟨R, 0, none⟩ = some (.string ⟨#[]⟩) := (cell_of hre 0).trans rfl
      have k1 : WE.cell? ⟨R, 1, none⟩ = some (.slice none 0 0) := (cell_of hre 1).trans rfl
      have k2 : WE.cell? ⟨R, 2, none⟩ = some (.slice none 0 0) := (cell_of hre 2).trans rfl
      have k3 : WE.cell? ⟨R, 3, none⟩ = some (.int .i64 0) := (cell_of hre 3).trans rfl
      have k4 : WE.cell? ⟨R, 4, none⟩ = some (.slice none 0 0) := (cell_of hre 4).trans rfl
      have k5 : WE.cell? ⟨R, 5, none⟩ = some (.string ⟨#[]⟩) := (cell_of hre 5).trans rfl
      have k6 : WE.cell? ⟨R, 6, none⟩ = some (.int .i64 0) := (cell_of hre 6).trans rfl
      clear hWE hre hrc hbe
      clear h4 HW3 HR3 HB3 HXS HXZ
      go_wp2_with fail
      simp only [HWE.out]
      exact bodyPost_ret (v := .tuple #[.agg #[.string ⟨#[]⟩, .slice none 0 0, .slice none 0 0, .int .i64 0, .slice none 0 0, .string ⟨#[]⟩, .int .i64 0], .bool false]) (by simp [results, Tryz.results15, go_sem, k0, k1, k2, k3, k4, k5, k6]) rfl ⟨HBE.out, .inr ⟨rfl, HNO.out⟩⟩
  · have HNO1 : Hid (∀ p ys st fs b t, ¬ IsObj s p ys st fs b t) := fun p ys st fs b t h => line_some (obj_first h).1 rfl hno
    clear hno
    go_wp2_with fail
    refine (l3Words_any ⟨#[]⟩ _ (by decide)).mono ?_
    rintro e w3 ⟨vW, xs, rfl, ownW, hxl, bw, hwd⟩
    obtain ⟨oW, cW, rfl⟩ := slice_of_owns ownW
    have HB3 : Hid (Below w.heap.size w w3) := H1.out.trans (bw.mono H1.out.size)
    have HR3 : Hid (w3.heap[R]? = some (.cells #[.string ⟨#[]⟩, .slice none 0 0, .slice none 0 0, .int .i64 0, .slice none 0 0, .string ⟨#[]⟩, .int .i64 0] 29)) := blk_below HR1.out bw
    clear ownW bw hwd H1 HR1
    have hrc := HR3.out
    have hbe := HB3.out
    have HNO : Hid (∀ p ys st fs b t, ¬ IsObj s p ys st fs b t) := HNO1.out
    have c0 : w3.cell? ⟨R, 0, none⟩ = some (.string ⟨#[]⟩) := (cell_of hrc 0).trans rfl
    have f0 : w3.frozen? ⟨R, 0, none⟩ = false := frozen_of hrc 0
    have c1 : w3.cell? ⟨R, 1, none⟩ = some (.slice none 0 0) := (cell_of hrc 1).trans rfl
    have f1 : w3.frozen? ⟨R, 1, none⟩ = false := frozen_of hrc 1
    have c2 : w3.cell? ⟨R, 2, none⟩ = some (.slice none 0 0) := (cell_of hrc 2).trans rfl
    have f2 : w3.frozen? ⟨R, 2, none⟩ = false := frozen_of hrc 2
    have c3 : w3.cell? ⟨R, 3, none⟩ = some (.int .i64 0) := (cell_of hrc 3).trans rfl
    have f3 : w3.frozen? ⟨R, 3, none⟩ = false := frozen_of hrc 3
    have c4 : w3.cell? ⟨R, 4, none⟩ = some (.slice none 0 0) := (cell_of hrc 4).trans rfl
    have f4 : w3.frozen? ⟨R, 4, none⟩ = false := frozen_of hrc 4
    have c5 : w3.cell? ⟨R, 5, none⟩ = some (.string ⟨#[]⟩) := (cell_of hrc 5).trans rfl
    have f5 : w3.frozen? ⟨R, 5, none⟩ = false := frozen_of hrc 5
    have c6 : w3.cell? ⟨R, 6, none⟩ = some (.int .i64 0) := (cell_of hrc 6).trans rfl
    have f6 : w3.frozen? ⟨R, 6, none⟩ = false := frozen_of hrc 6
    obtain ⟨WE, hWE⟩ : ∃ W, W = (((((((w3.setCell ⟨R, 0, none⟩ (.string ⟨#[]⟩)).setCell ⟨R, 1, none⟩ (.slice none 0 0)).setCell ⟨R, 2, none⟩ (.slice none 0 0)).setCell ⟨R, 3, none⟩ (.int .i64 0)).setCell ⟨R, 4, none⟩ (.slice none 0 0)).setCell ⟨R, 5, none⟩ (.string ⟨#[]⟩)).setCell ⟨R, 6, none⟩ (.int .i64 0)) := ⟨_, rfl⟩
    have HWE : Hid ((((((((w3.setCell ⟨R, 0, none⟩ (.string ⟨#[]⟩)).setCell ⟨R, 1, none⟩ (.slice none 0 0)).setCell ⟨R, 2, none⟩ (.slice none 0 0)).setCell ⟨R, 3, none⟩ (.int .i64 0)).setCell ⟨R, 4, none⟩ (.slice none 0 0)).setCell ⟨R, 5, none⟩ (.string ⟨#[]⟩)).setCell ⟨R, 6, none⟩ (.int .i64 0)) = WE) := hWE.symm
    have HBE : Hid (Below w.heap.size w WE) := by show Below _ _ _; rw [hWE]; exact (((((((hbe.setCell (p := ⟨R, 0, none⟩) HRG.out _).setCell (p := ⟨R, 1, none⟩) HRG.out _).setCell (p := ⟨R, 2, none⟩) HRG.out _).setCell (p := ⟨R, 3, none⟩) HRG.out _).setCell (p := ⟨R, 4, none⟩) HRG.out _).setCell (p := ⟨R, 5, none⟩) HRG.out _).setCell (p := ⟨R, 6, none⟩) HRG.out _)
    have hre : WE.heap[R]? = some (.cells #[.string ⟨#[]⟩, .slice none 0 0, .slice none 0 0, .int .i64 0, .slice none 0 0, .string ⟨#[]⟩, .int .i64 0] 29) := by rw [hWE]; have h := (heap_set _ R 6 _ _ _ (.int .i64 0) (heap_set _ R 5 _ _ _ (.string ⟨#[]⟩) (heap_set _ R 4 _ _ _ (.slice none 0 0) (heap_set _ R 3 _ _ _ (.int .i64 0) (heap_set _ R 2 _ _ _ (.slice none 0 0) (heap_set _ R 1 _ _ _ (.slice none 0 0) (heap_set _ R 0 _ _ _ (.string ⟨#[]⟩) hrc))))))); simpa using h
    have k0 : WE.cell? ⟨R, 0, none⟩ = some (.string ⟨#[]⟩) := (cell_of hre 0).trans rfl
    have k1 : WE.cell? ⟨R, 1, none⟩ = some (.slice none 0 0) := (cell_of hre 1).trans rfl
    have k2 : WE.cell? ⟨R, 2, none⟩ = some (.slice none 0 0) := (cell_of hre 2).trans rfl
    have k3 : WE.cell? ⟨R, 3, none⟩ = some (.int .i64 0) := (cell_of hre 3).trans rfl
    have k4 : WE.cell? ⟨R, 4, none⟩ = some (.slice none 0 0) := (cell_of hre 4).trans rfl
    have k5 : WE.cell? ⟨R, 5, none⟩ = some (.string ⟨#[]⟩) := (cell_of hre 5).trans rfl
    have k6 : WE.cell? ⟨R, 6, none⟩ = some (.int .i64 0) := (cell_of hre 6).trans rfl
    clear hWE hre hrc hbe
    clear HR3 HB3
    go_wp2_with fail
    simp only [HWE.out]
    exact bodyPost_ret (v := .tuple #[.agg #[.string ⟨#[]⟩, .slice none 0 0, .slice none 0 0, .int .i64 0, .slice none 0 0, .string ⟨#[]⟩, .int .i64 0], .bool false]) (by simp [results, Tryz.results15, go_sem, k0, k1, k2, k3, k4, k5, k6]) rfl ⟨HBE.out, .inr ⟨rfl, HNO.out⟩⟩

end Go.Proofs.YtdlhicdfldecgaaGreatDoor

namespace Go.Proofs.YtdlhicdfldecgaaGreatDoor
open Go.ChangeShapes Go.WideShapes Go.ChangeAt Go.RowKit

theorem gTabType : (Tryz.prog.globals[0]?).map (·.type) = some 180 := by kernel_rfl
theorem cells62 : Tryz.prog.cellsOf 180 = 20 := by kernel_rfl
theorem cells55 : Tryz.prog.cellsOf 172 = 1 := by kernel_rfl
theorem table {W : World} (h : laidMetH Tryz.prog Rows.fnObjectsRow.laid W) : TabOk W := by
  have h1 : laidMet Tryz.prog Rows.fnObjectsRow.laid W := h
  obtain ⟨ps, hl, _⟩ := h1
  obtain ⟨g1, t1, cs1, f1, p1, q1, _, _, _, _, hr1, _⟩ := hl
  obtain ⟨g2, t2, cs2, f2, p2, q2, _, _, _, _, hr2, _⟩ := hr1
  obtain ⟨g3, t3, cs3, f3, p3, q3, hg, ht, hvar, hd, _, _⟩ := hr2
  obtain rfl := Option.some.inj (gTab.symm.trans hg)
  obtain rfl := Option.some.inj (gTabType.symm.trans ht)
  unfold TabOk Lib.TabIs
  rw [hvar, ← Lib.cells_of_tab (zs := Lib.pow10Tab) Tryz.underlying180 Tryz.underlying172 cells55 cells62 hd]

/-- A world with the three tables as their initialisers lay them. -/
def withTables (w : World) : World :=
  { w with heap := ((w.heap.modify 0 fun
      | .cells _ t frozen => .cells #[.int .u64 1, .int .u64 10, .int .u64 100, .int .u64 1000, .int .u64 10000, .int .u64 100000, .int .u64 1000000, .int .u64 10000000, .int .u64 100000000, .int .u64 1000000000, .int .u64 10000000000, .int .u64 100000000000, .int .u64 1000000000000, .int .u64 10000000000000, .int .u64 100000000000000, .int .u64 1000000000000000, .int .u64 10000000000000000, .int .u64 100000000000000000, .int .u64 1000000000000000000, .int .u64 10000000000000000000] t frozen
      | o => o).modify 2 fun
      | .cells _ t frozen => .cells #[.int .u8 0, .int .u8 1, .int .u8 28, .int .u8 2, .int .u8 29, .int .u8 14, .int .u8 24, .int .u8 3, .int .u8 30, .int .u8 22, .int .u8 20, .int .u8 15, .int .u8 25, .int .u8 17, .int .u8 4, .int .u8 8, .int .u8 31, .int .u8 27, .int .u8 13, .int .u8 23, .int .u8 21, .int .u8 19, .int .u8 16, .int .u8 7, .int .u8 26, .int .u8 12, .int .u8 18, .int .u8 6, .int .u8 11, .int .u8 5, .int .u8 10, .int .u8 9] t frozen
      | o => o).modify 3 fun
      | .cells _ t frozen => .cells #[.int .u8 0, .int .u8 1, .int .u8 56, .int .u8 2, .int .u8 57, .int .u8 49, .int .u8 28, .int .u8 3, .int .u8 61, .int .u8 58, .int .u8 42, .int .u8 50, .int .u8 38, .int .u8 29, .int .u8 17, .int .u8 4, .int .u8 62, .int .u8 47, .int .u8 59, .int .u8 36, .int .u8 45, .int .u8 43, .int .u8 51, .int .u8 22, .int .u8 53, .int .u8 39, .int .u8 33, .int .u8 30, .int .u8 24, .int .u8 18, .int .u8 12, .int .u8 5, .int .u8 63, .int .u8 55, .int .u8 48, .int .u8 27, .int .u8 60, .int .u8 41, .int .u8 37, .int .u8 16, .int .u8 46, .int .u8 35, .int .u8 44, .int .u8 21, .int .u8 52, .int .u8 32, .int .u8 23, .int .u8 11, .int .u8 54, .int .u8 26, .int .u8 40, .int .u8 15, .int .u8 34, .int .u8 20, .int .u8 31, .int .u8 10, .int .u8 25, .int .u8 14, .int .u8 19, .int .u8 9, .int .u8 13, .int .u8 8, .int .u8 7, .int .u8 6] t frozen
      | o => o }
end Go.Proofs.YtdlhicdfldecgaaGreatDoor
