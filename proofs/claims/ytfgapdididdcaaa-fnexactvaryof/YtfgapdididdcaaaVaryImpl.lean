/- 'VaryOf', 'ValuesOf', 'Suits' of the developers: contracts over the translation. -/
import Derived.Test.YtfgapdididdcaaaVarySuit
import Derived.Test.YtfgapdididdcaaaVaryTold
import Derived.Test.YtfgapdididdcaaaFieldImpl
import Derived.Test.YtfgapdididdcaaaFieldOpen
import Derived.Test.YtfgapdididdcaaaShelf
namespace Go.Proofs.Ytfgapdididdcaaa
open Go.RowKit
open Go.Lib hiding intOf

attribute [local go_sem] Oper.semAt_some

set_option maxHeartbeats 1000000 in
set_option maxRecDepth 100000 in
theorem implVaryOf_any (v : Value) (n base : Nat) (fs : List (ByteArray × ByteArray)) (w : World) (hv : FieldsV w base v n fs) (hn : n ≤ 1073741824) (hcp : CopyF fs) (hsz : (getV fs varyName).size ≤ 1048576) :
    Calls Try.prog 16 #[v] w fun e w' => RowIs w.heap.size (varyP fs) w e w' := by
  obtain ⟨s, hs⟩ : ∃ s, s = getV fs varyName := ⟨_, rfl⟩
  have HS : Hid (getV fs varyName = s) := hs.symm
  have HE : Hid (varyP fs = (splitL s).map lowerOf) := by show _ = _; unfold varyP; rw [HS.out]
  rw [← hs] at hsz
  have hl1 := (splitL_le s).1
  clear hs
  go_enter Try.func16, Try.ntmps16
  go_wp2_with fail
  refine (implGet_any v n base fs varyName _ hv hn hcp).mono ?_
  rintro e w1 ⟨rfl, b1⟩
  rw [HS.out]
  clear hv
  go_wp2_with fail
  refine (implSplit_any s _ hsz).mono ?_
  rintro e w2 ⟨V, rfl, O, b2⟩
  obtain ⟨xs, hxs⟩ : ∃ xs, xs = splitL s := ⟨_, rfl⟩
  rw [← hxs] at hl1 O HE
  obtain ⟨m, hm⟩ : ∃ m, m = xs.length := ⟨_, rfl⟩
  rw [← hm] at hl1 O
  have HM : Hid (xs.length = m) := hm.symm
  have O := owns_base O b1.size
  have b2 : Below w.heap.size w w2 := b1.trans (b2.mono b1.size)
  clear hxs hm b1
  rcases row_form O with ⟨oa, ca, rfl, h0, h1⟩ | ⟨g, cap, rfl, hp, r1⟩
  · subst h0 h1
    go_wp2_with fail
    refine wp_loop_rounds 1 ?_
    rw [rounds_succ]
    go_wp2_with fail
    go_ret
    exact RowIs.of (by rw [HE.out]; rfl) rfl O b2
  · clear O
    have HB2 : Hid (Below w.heap.size w w2) := b2
    have HR1 : Hid (TextRow w.heap.size w2 g m cap (loTo xs 0)) := by show TextRow _ _ _ _ _ _; rw [loTo_zero]; exact r1
    clear b2 r1
    go_wp2_with fail
    go_loopw [17] (fun i wr => ∃ j : Nat, j ≤ m ∧ i = .int .i64 (j : Int) ∧ Hid (Below w.heap.size w wr) ∧ Hid (TextRow w.heap.size wr g m cap (loTo xs j))) (fun i _ => m - (intOf i).toNat)
    case atStart => exact ⟨0, Nat.zero_le _, rfl, HB2, HR1⟩
    case round =>
      obtain ⟨j, hj, rfl, HB, HR⟩ := hrel
      by_cases hlt : j < m
      · have hlt2 : (j : Int) < (m : Int) := by omega
        obtain ⟨x, hx⟩ : ∃ x, x = textAt xs j := ⟨_, rfl⟩
        have hc := HR.out.cell j hlt
        rw [loTo_at, ← hx] at hc
        have HST : Hid ((loTo xs j).set j (lowerOf x) = loTo xs (j + 1)) := by show _ = _; rw [hx]; exact loTo_step xs j (by rw [HM.out]; exact hlt)
        clear hx
        go_wp2_with fail
        refine (implLower_any x _).mono ?_
        rintro e w3 ⟨rfl, hb3⟩
        have hrow := HR.out.below hb3 HR.out.lt
        have hc3 := hrow.cell j hlt
        have hf3 := hrow.frozen j
        have HB3 : Hid (Below w.heap.size w (w3.setCell ⟨g, j, none⟩ (.string (lowerOf x)))) := (HB.out.trans (hb3.mono HB.out.size)).setCell HR.out.base _
        have HR3 : Hid (TextRow w.heap.size (w3.setCell ⟨g, j, none⟩ (.string (lowerOf x))) g m cap (loTo xs (j + 1))) := by
          show TextRow _ _ _ _ _ _
          rw [← HST.out]
          exact hrow.set j hlt _
        clear hb3 hrow HB HR HST hc
        go_wp2_with fail
        go_roundw
        case rel => exact ⟨j + 1, by omega, by go_num, HB3, HR3⟩
        case measure => simp [intOf]; omega
      · obtain rfl : j = m := by omega
        go_wp2_with fail
        go_ret
        exact RowIs.of (by rw [HE.out, loTo_all xs j (by rw [HM.out]; exact Nat.le_refl _)]) (by rw [loTo_all xs j (by rw [HM.out]; exact Nat.le_refl _), List.length_map, HM.out]) HR.out.owns HB.out

/-- What has been stored when these places have come. -/
def setTo (xs : List ByteArray) (fs : List (ByteArray × ByteArray)) (m : Nat) (pre : List (Fin m)) : List ByteArray := pre.foldl (fun acc j => acc.set j.1 (valOf fs (textAt xs j.1))) (List.replicate m ⟨#[]⟩)
theorem setTo_snoc (xs : List ByteArray) (fs : List (ByteArray × ByteArray)) (m : Nat) (pre : List (Fin m)) (j : Fin m) : setTo xs fs m (pre ++ [j]) = (setTo xs fs m pre).set j.1 (valOf fs (textAt xs j.1)) := by simp [setTo]
theorem setTo_take (xs : List ByteArray) (fs : List (ByteArray × ByteArray)) (m : Nat) (hl : xs.length = m) : ∀ k, k ≤ m → setTo xs fs m ((List.finRange m).take k) = valsP (xs.take k) fs ++ List.replicate (m - k) ⟨#[]⟩
  | 0, _ => by simp [setTo, valsP]
  | k + 1, h => by
    rw [fin_take m k (by omega), setTo_snoc, setTo_take xs fs m hl k (by omega), valsP_snoc xs fs k (by omega)]
    have e : m - k = (m - (k + 1)) + 1 := by omega
    rw [e, List.replicate_succ, List.set_append_right _ _ (by rw [valsP_len]; simp; omega), valsP_len]
    have e2 : k - (xs.take k).length = 0 := by simp; omega
    rw [e2, List.set_cons_zero]
    simp
theorem setTo_all (xs : List ByteArray) (fs : List (ByteArray × ByteArray)) (m : Nat) (hl : xs.length = m) : setTo xs fs m (List.finRange m) = valsP xs fs := by
  have h := setTo_take xs fs m hl m (Nat.le_refl _)
  rw [List.take_of_length_le (by simp), List.take_of_length_le (by omega)] at h
  rw [h]
  simp
theorem boxed_kept {W W' : World} {row : Option Nat} {B B0 : Nat} {t : TypeId} {v : Value} (h : Boxed W B t v) (hg : W.grownBy W' row) (hr : ∀ r, row = some r → B0 ≤ r ∧ ∃ o : Obj, W.heap[r]? = some o ∧ o.isCells = false) : Boxed W' B t v :=
  h.kept hg (fun e => by
    obtain ⟨_, o, ho, hc⟩ := hr B e.symm
    rw [show W.heap[B]? = _ from h] at ho
    cases ho
    cases hc)
theorem TextRow.kept {base : Nat} {W W' : World} {row : Option Nat} {g n cap B0 : Nat} {xs : List ByteArray} (h : TextRow base W g n cap xs) (hg : W.grownBy W' row) (hr : ∀ r, row = some r → B0 ≤ r ∧ ∃ o : Obj, W.heap[r]? = some o ∧ o.isCells = false) : TextRow base W' g n cap xs := by
  obtain ⟨cur, hh, hc⟩ := h.heap
  have := hg.size; have := h.lt
  refine ⟨h.len, h.base, by omega, h.le, h.mx, cur, ?_, hc⟩
  rw [hg.block g h.lt (fun e => by
    obtain ⟨_, o, ho, hc⟩ := hr g e.symm
    rw [hh] at ho
    cases ho
    cases hc)]
  exact hh
theorem boxed_setOther {W : World} {B : Nat} {t : TypeId} {v : Value} (h : Boxed W B t v) {a : Addr} (u : Value) (hne : B ≠ a.block) : Boxed (W.setCell a u) B t v := (Below.heap_setCell W a u B hne).trans h
theorem cell_some {W : World} {a : Addr} {v : Value} (h : W.cell? a = some v) : (W.cell? a).isSome = true := by rw [h]; rfl

set_option maxHeartbeats 2000000 in
set_option maxRecDepth 100000 in
theorem implValuesOf_any (oa : Option Addr) (m cm : Nat) (xs : List ByteArray) (v : Value) (n base : Nat) (fs : List (ByteArray × ByteArray)) (w : World) (hx : TextsA w oa m xs) (hm : m ≤ 1048577) (hv : FieldsV w base v n fs) (hn : n ≤ 1073741824) (hcp : CopyF fs) :
    Calls Try.prog 11 #[.slice oa m cm, v] w fun e w' => RowIs w.heap.size (valsP xs fs) w e w' := by
  obtain ⟨i0, hi, hz0, hz1, hz2⟩ := info_parts info9
  have HLEN : Hid (xs.length = m) := hx.1
  have HX : Hid (∀ W, Below w.heap.size w W → TextsA W oa m xs) := fun W h => hx.below h
  have HV : Hid (∀ W, Below w.heap.size w W → FieldsV W base v n fs) := fun W h => hv.below h
  obtain ⟨oc, cn, hvs, _⟩ := hv.slice
  clear hx hv
  subst hvs
  obtain ⟨M, hM⟩ : ∃ M, M = madeCells (Value.string ⟨#[]⟩).cells (((m : Nat) : Int).toNat * i0.size) := ⟨_, rfl⟩
  have hmk : ∀ W : World, (Instr.makeSlice 24 (.int .i64 (m : Int)) (.int .i64 (m : Int))).run Try.prog W = .ok (.slice (some ⟨W.heap.size, 0, none⟩) m m) (W.alloc (.cells M 9)) := fun W => by
    have h := run_make (P := Try.prog) W 24 9 i0 (.string ⟨#[]⟩) Try.underlying24 hi hz0 .i64 .i64 (m : Int) (m : Int) (by omega) (by omega) (by rw [hz2]; omega) (by omega)
    rw [← hM] at h
    simpa using h
  have HMl : Hid (M.toList = List.replicate m (.string ⟨#[]⟩)) := by
    show _ = _
    rw [hM, hz1, show ((m : Nat) : Int).toNat * 1 = m by omega]
    exact toList_madeCells_one (.string ⟨#[]⟩) m
  clear hM
  have H0 : Hid (∀ o1 o2 o3 : Obj, TextRow w.heap.size ((((w.alloc (.cells M 9)).alloc o1).alloc o2).alloc o3) w.heap.size m m (setTo xs fs m [])) := by
    intro o1 o2 o3
    have hms : M.size = m := by rw [← Array.length_toList, HMl.out]; simp
    refine ⟨by simp [setTo], Nat.le_refl _, by simp; omega, Nat.le_refl _, by unfold maxLen; omega, M, ?_, hms, fun i hi => ?_⟩
    · rw [Below.heap_alloc _ _ _ (by simp; omega), Below.heap_alloc _ _ _ (by simp; omega), Below.heap_alloc _ _ _ (by simp)]
      exact World.alloc_heap_new w _
    · rw [← Array.getElem?_toList, HMl.out]
      simp [setTo, textAt, List.getD_eq_getElem?_getD, hi]
  refine (callsIn_wide (n := 4)).1 ?_
  refine callsIn_of_wp_marks Try.func11 rfl trivial ?_ rfl
  simp only [Try.ntmps11, List.size_toArray, List.length_cons, List.length_nil, Nat.reduceAdd, Nat.reduceSub, Array.replicate_succ, Array.replicate_zero, List.push_toArray, List.append_toArray, List.nil_append, List.cons_append]
  gi_wp2_with fail
  refine ⟨trivial, (callsIn_wide.2 (toldValues_any oa m cm oc n cn _)).mono ?_⟩
  rintro e w1 ⟨rfl, rfl⟩
  gi_wp2_with fail
  obtain ⟨W4, hW4⟩ : ∃ W4, ((((w.alloc (Obj.cells M 9)).alloc (Obj.cells #[Value.slice (some ⟨w.heap.size, 0, none⟩) m m] 24)).alloc (Obj.cells #[Value.slice oa m cm] 24)).alloc (Obj.cells #[Value.slice oc n cn] 25)) = W4 := ⟨_, rfl⟩
  have r0 : TextRow w.heap.size W4 w.heap.size m m (setTo xs fs m []) := by rw [← hW4]; exact H0.out _ _ _
  have x1 : Boxed W4 (w.heap.size + 1) 24 (.slice (some ⟨w.heap.size, 0, none⟩) m m) := by
    rw [← hW4]
    have h := ((Boxed.new (w.alloc (Obj.cells M 9)) 24 (.slice (some ⟨w.heap.size, 0, none⟩) m m)).alloc (Obj.cells #[Value.slice oa m cm] 24)).alloc (Obj.cells #[Value.slice oc n cn] 25)
    simpa using h
  have x2 : Boxed W4 (w.heap.size + 1 + 1) 24 (.slice oa m cm) := by
    rw [← hW4]
    have h := (Boxed.new ((w.alloc (Obj.cells M 9)).alloc (Obj.cells #[Value.slice (some ⟨w.heap.size, 0, none⟩) m m] 24)) 24 (.slice oa m cm)).alloc (Obj.cells #[Value.slice oc n cn] 25)
    simpa using h
  have x3 : Boxed W4 (w.heap.size + 1 + 1 + 1) 25 (.slice oc n cn) := by
    rw [← hW4]
    have h := Boxed.new (((w.alloc (Obj.cells M 9)).alloc (Obj.cells #[Value.slice (some ⟨w.heap.size, 0, none⟩) m m] 24)).alloc (Obj.cells #[Value.slice oa m cm] 24)) 25 (.slice oc n cn)
    simpa using h
  have hs4 : W4.heap.size = w.heap.size + 4 := by rw [← hW4]; simp
  have hB0 : Below w.heap.size w W4 := by rw [← hW4]; exact ((((Below.refl _ w).alloc (Nat.le_refl _) _).alloc (by simp) _).alloc (by simp; omega) _).alloc (by simp; omega) _
  rw [hW4]
  clear hW4 H0 hmk HMl
  refine wpIn_rangeFunc_ownG rfl (by omega) (gf := 52) (lb := #[.pointer (some ⟨w.heap.size + 1 + 1, 0, none⟩), .pointer (some ⟨w.heap.size + 1 + 1 + 1, 0, none⟩)]) rfl trivial (enters_of Try.func52 (by kernel_rfl) rfl)
    (told_stops (4 - 1) (by omega) (w.heap.size + 1 + 1) (w.heap.size + 1 + 1 + 1) w.heap.size oa m cm xs (.slice oc n cn) n base fs w W4 hm hn hcp (by omega) HX.out HV.out hB0 x2 x3) KeepL.trans (keepL_b (by omega) (by omega)) (Below.refl _ _) (fun _ => rfl)
    (fun pre W => (Boxed W (w.heap.size + 1) 24 (.slice (some ⟨w.heap.size, 0, none⟩) m m) ∧ TextRow w.heap.size W w.heap.size m m (setTo xs fs m pre)) ∧ Below w.heap.size w W)
    (fun _ _ _ => False)
    (OwnFrom.and (fun s A B row hs hg hr => ⟨boxed_kept hs.1 hg hr, hs.2.kept hg hr⟩) (ownFrom_below (Nat.le_refl _) (by omega)))
    (fun _ _ _ _ _ hs _ _ => hs)
    ⟨⟨x1, r0⟩, hB0⟩
    (fun x => { tmps := #[.slice oa m cm, .slice oc n cn, undef, undef, .slice none 0 0, .pointer (some ⟨w.heap.size + 1, 0, none⟩), .int .i64 ((x.1 : Nat) : Int), .string (valOf fs (textAt xs x.1)), .slice oa m cm, .int .i64 (m : Int), .slice (some ⟨w.heap.size, 0, none⟩) m m, .slice oa m cm, .slice oc n cn, .func (.func 52) #[] #[.pointer (some ⟨w.heap.size + 1 + 1, 0, none⟩), .pointer (some ⟨w.heap.size + 1 + 1 + 1, 0, none⟩)], .int .i64 ((x.1 : Nat) : Int), .string (valOf fs (textAt xs x.1)), undef, undef, undef, undef, undef], defers := [] }) ?assign ?body ?done ?stop
  case assign =>
    intro l x W K hK
    simp only [toldV]
    gi_wp2
    exact hK
  case body =>
    rintro l pre x W ⟨⟨hb, hr⟩, hB⟩ _
    have hxm : ((x.1 : Nat) : Int) < (m : Int) := by have := x.2; omega
    have hc := hb.cell
    have hcx := hr.cell x.1 x.2
    have hf := hr.frozen x.1
    have HS : Hid (setTo xs fs m (pre ++ [x]) = (setTo xs fs m pre).set x.1 (valOf fs (textAt xs x.1))) := setTo_snoc _ _ _ _ _
    obtain ⟨y, hy⟩ : ∃ y, y = valOf fs (textAt xs x.1) := ⟨_, rfl⟩
    rw [← hy] at HS ⊢
    have HI : Hid (((Boxed (W.setCell ⟨w.heap.size, x.1, none⟩ (.string y)) (w.heap.size + 1) 24 (.slice (some ⟨w.heap.size, 0, none⟩) m m) ∧ TextRow w.heap.size (W.setCell ⟨w.heap.size, x.1, none⟩ (.string y)) w.heap.size m m (setTo xs fs m (pre ++ [x]))) ∧ Below w.heap.size w (W.setCell ⟨w.heap.size, x.1, none⟩ (.string y)))) :=
      ⟨⟨boxed_setOther hb _ (by simp), by rw [HS.out]; exact hr.set x.1 x.2 _⟩, hB.setCell (p := ⟨w.heap.size, x.1, none⟩) (Nat.le_refl _) _⟩
    clear hb hr hB HS hy
    gi_wp2
    exact ⟨(KeepsOthers.setCell _ _ _).from _, ⟨(Below.refl _ W).setCell (p := ⟨w.heap.size, x.1, none⟩) (Nat.le_refl _) _, Below.heap_setCell _ _ _ _ (by simp; omega)⟩, HI.out⟩
  case done =>
    rintro D ys W hD rfl ⟨⟨hb, hr⟩, hB⟩ hK
    have hc := hb.cell
    gi_wp2
    refine ⟨by simp, .inl ⟨_, _, rfl, run_takeDeferred hK, ?_⟩⟩
    exact ⟨_, results_tmp rfl _ _ _, RowIs.of (setTo_all xs fs m HLEN.out) hr.len.symm (ownsRow_putObj hr.owns _ hK rfl) (hB.trans (belowK_b (w := w) (Nat.le_refl _) W D _ _ (by omega) hK rfl rfl))⟩
  case stop =>
    rintro D c pre W _ _ h _
    exact h.elim

open Classical in
theorem contains_any (oa : Option Addr) (m cm : Nat) (xs : List ByteArray) (x : ByteArray) (w : World) (hx : TextsA w oa m xs) (hm : m ≤ 2000000) :
    Calls Try.prog 32 #[.slice oa m cm, .string x] w fun e w' => e = .returned (.bool (decide (x ∈ xs))) ∧ w' = w := by
  by_cases h0 : m = 0
  · subst h0
    refine (Try.slices_Contains_string_empty oa cm x w).mono ?_
    rintro e w1 ⟨rfl, rfl⟩
    refine ⟨?_, rfl⟩
    rw [List.length_eq_zero_iff.1 hx.1]
    simp
  · obtain ⟨g, rfl, _, _⟩ := hx.2 0 (by omega)
    refine (Try.slices_Contains_string g 0 m cm xs x w (by rw [hx.1]; exact Nat.le_refl _) (by omega) (fun j hj => ?_)).mono ?_
    · obtain ⟨g2, e2, _, h3⟩ := hx.2 j (by rw [← hx.1]; exact hj)
      cases e2
      rw [Nat.zero_add]
      exact h3
    · rintro e w1 ⟨rfl, rfl⟩
      refine ⟨?_, rfl⟩
      rw [List.take_of_length_le (by rw [hx.1]; exact Nat.le_refl _)]
      by_cases h : x ∈ xs
      · rw [(Go.Lib.containsS_iff xs x).2 h, decide_eq_true h]
      · rw [decide_eq_false h, Bool.eq_false_iff.2 (fun hc => h ((Go.Lib.containsS_iff xs x).1 hc))]

set_option maxHeartbeats 2000000 in
set_option maxRecDepth 100000 in
theorem implSuits_any (oa ob : Option Addr) (m cm k ck : Nat) (xs ys : List ByteArray) (v : Value) (n base : Nat) (fs : List (ByteArray × ByteArray)) (w : World) (hx : TextsA w oa m xs) (hm : m ≤ 1048577) (hy : TextsA w ob k ys) (hv : FieldsV w base v n fs) (hn : n ≤ 1073741824) (hcp : CopyF fs) (hk : k ≤ 1048577) :
    Calls Try.prog 9 #[.slice oa m cm, .slice ob k ck, v] w fun e w' => e = .returned (.bool (suitsP xs ys fs)) ∧ Below w.heap.size w w' := by
  classical
  have HLX : Hid (xs.length = m) := hx.1
  have HLY : Hid (ys.length = k) := hy.1
  have HX : Hid (∀ W, Below w.heap.size w W → TextsA W oa m xs) := fun W h => hx.below h
  have HY : Hid (∀ W, Below w.heap.size w W → TextsA W ob k ys) := fun W h => hy.below h
  have HV : Hid (∀ W, Below w.heap.size w W → FieldsV W base v n fs) := fun W h => hv.below h
  obtain ⟨oc, cn, hvs, _⟩ := hv.slice
  clear hx hv hy
  subst hvs
  obtain ⟨b, hb⟩ : ∃ b, b = suitsP xs ys fs := ⟨_, rfl⟩
  rw [← hb]
  have HSU : Hid (b = suitsP xs ys fs) := hb
  clear hb
  have HB2 : Hid (Below w.heap.size w ((w.alloc (Obj.cells #[Value.slice ob k ck] 24)).alloc (Obj.cells #[Value.bool false] 4))) := ((Below.refl _ w).alloc (Nat.le_refl _) _).alloc (by simp) _
  have HXB : Hid (Boxed ((w.alloc (Obj.cells #[Value.slice ob k ck] 24)).alloc (Obj.cells #[Value.bool false] 4)) (w.heap.size + 1) 4 (.bool false)) := by
    have h := Boxed.new (w.alloc (Obj.cells #[Value.slice ob k ck] 24)) 4 (.bool false)
    rw [World.size_alloc] at h
    exact h
  refine (callsIn_wide (n := 4)).1 ?_
  refine callsIn_of_wp_marks Try.func9 rfl trivial ?_ rfl
  simp only [Try.ntmps9, List.size_toArray, List.length_cons, List.length_nil, Nat.reduceAdd, Nat.reduceSub, Array.replicate_succ, Array.replicate_zero, List.push_toArray, List.append_toArray, List.nil_append, List.cons_append]
  by_cases hmk : m = k
  · subst hmk
    gi_wp2_with fail
    refine ⟨trivial, (callsIn_wide.2 (contains_any oa m cm xs starT _ (HX.out _ HB2.out) (by omega))).mono ?_⟩
    rintro e w1 ⟨rfl, rfl⟩
    by_cases hst : starT ∈ xs
    · rw [decide_eq_true hst]
      have HE : Hid (b = false) := by show _ = _; rw [HSU.out]; unfold suitsP; exact decide_eq_false (fun h => h.1 hst)
      clear hst
      gi_wp2
      refine ⟨.bool false, ?_, by rw [HE.out], HB2.out⟩
      have hc5 := HXB.out.cell
      simp [results, Try.f9, go_sem, hc5]
    · rw [decide_eq_false hst]
      have HST : Hid (starT ∉ xs) := hst
      clear hst
      gi_wp2_with fail
      refine ⟨trivial, (callsIn_wide.2 (toldValues_any oa m cm oc n cn _)).mono ?_⟩
      rintro e w1 ⟨rfl, rfl⟩
      gi_wp2_with fail
      obtain ⟨W4, hW4⟩ : ∃ W4, ((((w.alloc (Obj.cells #[Value.slice ob m ck] 24)).alloc (Obj.cells #[Value.bool false] 4)).alloc (Obj.cells #[Value.slice oa m cm] 24)).alloc (Obj.cells #[Value.slice oc n cn] 25)) = W4 := ⟨_, rfl⟩
      have x0 : Boxed W4 w.heap.size 24 (.slice ob m ck) := by
        rw [← hW4]
        exact (((Boxed.new w 24 (.slice ob m ck)).alloc _).alloc _).alloc _
      have x1 : Boxed W4 (w.heap.size + 1) 4 (.bool false) := by
        rw [← hW4]
        exact (HXB.out.alloc _).alloc _
      have x2 : Boxed W4 (w.heap.size + 1 + 1) 24 (.slice oa m cm) := by
        rw [← hW4]
        have h := (Boxed.new ((w.alloc (Obj.cells #[Value.slice ob m ck] 24)).alloc (Obj.cells #[Value.bool false] 4)) 24 (.slice oa m cm)).alloc (Obj.cells #[Value.slice oc n cn] 25)
        simpa using h
      have x3 : Boxed W4 (w.heap.size + 1 + 1 + 1) 25 (.slice oc n cn) := by
        rw [← hW4]
        have h := Boxed.new (((w.alloc (Obj.cells #[Value.slice ob m ck] 24)).alloc (Obj.cells #[Value.bool false] 4)).alloc (Obj.cells #[Value.slice oa m cm] 24)) 25 (.slice oc n cn)
        simpa using h
      have hs4 : W4.heap.size = w.heap.size + 4 := by rw [← hW4]; simp
      have hB0 : Below w.heap.size w W4 := by rw [← hW4]; exact (HB2.out.alloc (by simp; omega) _).alloc (by simp; omega) _
      rw [hW4]
      clear hW4 HB2 HXB
      refine wpIn_rangeFunc_ownG rfl (by omega) (gf := 52) (lb := #[.pointer (some ⟨w.heap.size + 1 + 1, 0, none⟩), .pointer (some ⟨w.heap.size + 1 + 1 + 1, 0, none⟩)]) rfl trivial (enters_of Try.func52 (by kernel_rfl) rfl)
        (told_stops (4 - 1) (by omega) (w.heap.size + 1 + 1) (w.heap.size + 1 + 1 + 1) w.heap.size oa m cm xs (.slice oc n cn) n base fs w W4 hm hn hcp (by omega) HX.out HV.out hB0 x2 x3) KeepL.trans (keepL_b (by omega) (by omega)) (Below.refl _ _) (fun _ => rfl)
        (fun pre W => (Boxed W w.heap.size 24 (.slice ob m ck) ∧ Boxed W (w.heap.size + 1) 4 (.bool false) ∧ ∀ j ∈ pre, valOf fs (textAt xs j.1) = textAt ys j.1) ∧ Below w.heap.size w W)
        (fun c pre W => (Boxed W (w.heap.size + 1) 4 (.bool false) ∧ c = .ret ∧ ∃ j : Fin m, valOf fs (textAt xs j.1) ≠ textAt ys j.1) ∧ Below w.heap.size w W)
        (OwnFrom.and (fun s A B row hs hg hr => ⟨boxed_kept hs.1 hg hr, boxed_kept hs.2.1 hg hr, hs.2.2⟩) (ownFrom_below (Nat.le_refl _) (by omega)))
        (fun c => OwnFrom.and (fun s A B row hs hg hr => ⟨boxed_kept hs.1 hg hr, hs.2⟩) (ownFrom_below (Nat.le_refl _) (by omega)))
        ⟨⟨x0, x1, fun j hj => by cases hj⟩, hB0⟩
        (fun x => { tmps := #[.slice oa m cm, .slice ob m ck, .slice oc n cn, undef, .pointer (some ⟨w.heap.size, 0, none⟩), undef, .pointer (some ⟨w.heap.size + 1, 0, none⟩), .int .i64 ((x.1 : Nat) : Int), .string (valOf fs (textAt xs x.1)), .slice oa m cm, .int .i64 (m : Int), .slice ob m ck, .int .i64 (m : Int), .bool false, .bool false, .slice oa m cm, .bool false, .bool false, .slice oa m cm, .slice oc n cn, .func (.func 52) #[] #[.pointer (some ⟨w.heap.size + 1 + 1, 0, none⟩), .pointer (some ⟨w.heap.size + 1 + 1 + 1, 0, none⟩)], .int .i64 ((x.1 : Nat) : Int), .string (valOf fs (textAt xs x.1)), undef, undef, undef, undef, undef, undef], defers := [] }) ?assign ?body ?done ?stop
      case assign =>
        intro l x W K hK
        simp only [toldV]
        gi_wp2
        exact hK
      case body =>
        rintro l pre x W ⟨⟨hb0, hb1, hall⟩, hB⟩ _
        have hxm : ((x.1 : Nat) : Int) < (m : Int) := by have := x.2; omega
        have hc0 := hb0.cell
        have hc1 := hb1.cell
        have hf1 := hb1.frozen
        obtain ⟨g2, hob, _, hcy⟩ := (HY.out W hB).2 x.1 x.2
        subst hob
        have HALL : Hid (∀ j ∈ pre, valOf fs (textAt xs j.1) = textAt ys j.1) := hall
        obtain ⟨y, hy⟩ : ∃ y, y = valOf fs (textAt xs x.1) := ⟨_, rfl⟩
        obtain ⟨z, hz⟩ : ∃ z, z = textAt ys x.1 := ⟨_, rfl⟩
        rw [← hy]
        rw [← hz] at hcy
        have HYy : Hid (y = valOf fs (textAt xs x.1)) := hy
        have HZz : Hid (z = textAt ys x.1) := hz
        clear hy hz hall
        by_cases he : y = z
        · have HI : Hid (∀ j ∈ pre ++ [x], valOf fs (textAt xs j.1) = textAt ys j.1) := by
            intro j hj
            rcases List.mem_append.1 hj with h | h
            · exact HALL.out j h
            · rw [List.mem_singleton.1 h, ← HYy.out, ← HZz.out, he]
          subst he
          clear HYy HZz HALL
          gi_wp2
          exact ⟨KeepsFrom.refl _ _, ⟨Below.refl _ _, rfl⟩, ⟨hb0, hb1, HI.out⟩, hB⟩
        · have t0 : (y.toList == z.toList) = false := text_beq_no he
          have t1 : (y.toList != z.toList) = true := by rw [bne, t0]; rfl
          have HE : Hid (∃ j : Fin m, valOf fs (textAt xs j.1) ≠ textAt ys j.1) := ⟨x, by rw [← HYy.out, ← HZz.out]; exact he⟩
          clear HYy HZz HALL he
          gi_wp2
          exact ⟨(KeepsOthers.setCell _ _ _).from _, ⟨hb1.set _, rfl, HE.out⟩, hB.setCell (p := ⟨w.heap.size + 1, 0, none⟩) (by simp) _⟩
      case done =>
        rintro D zs W hD rfl ⟨⟨hb0, hb1, hall⟩, hB⟩ hK
        have hc1 := hb1.cell
        have hf1 := hb1.frozen
        have HE : Hid (b = true) := by
          show _ = _
          rw [HSU.out]
          unfold suitsP
          refine decide_eq_true ⟨HST.out, List.ext_getElem (by rw [valsP_len, HLX.out, HLY.out]) (fun i h1 h2 => ?_)⟩
          have hi : i < m := by rw [valsP_len, HLX.out] at h1; exact h1
          have h := hall ⟨i, hi⟩ (List.mem_finRange _)
          simp only [valsP, List.getElem_map]
          have e1 : textAt xs i = xs[i]'(by rw [HLX.out]; exact hi) := by unfold textAt; rw [List.getD_eq_getElem?_getD, List.getElem?_eq_getElem (by rw [HLX.out]; exact hi)]; rfl
          have e2 : textAt ys i = ys[i]'h2 := by unfold textAt; rw [List.getD_eq_getElem?_getD, List.getElem?_eq_getElem h2]; rfl
          rw [← e1, ← e2]
          exact h
        have HB5 : Hid (Below w.heap.size w W) := hB
        have HK : Hid (W.heap[D]? = some (.deferred (some []))) := hK
        have HX1 : Hid (Boxed W (w.heap.size + 1) 4 (.bool false)) := hb1
        clear hall hB hK hb1 hb0
        gi_wp2
        have hK' := (KeepsOthers.setCell W ⟨w.heap.size + 1, 0, none⟩ (.bool true)).same D _ HK.out rfl
        refine ⟨by simp, .inl ⟨_, _, rfl, run_takeDeferred hK', ?_⟩⟩
        have hc5 := cell_kept (HX1.out.set (.bool true)).cell (grownBy_putObj' _ D (.deferred none)) (fun r e => by cases e; exact ⟨_, hK', rfl⟩)
        refine ⟨.bool true, ?_, by rw [HE.out], (HB5.out.setCell (p := ⟨w.heap.size + 1, 0, none⟩) (by simp) _).trans (belowK_b (w := w) (Nat.le_refl _) _ D _ _ (by omega) hK' rfl rfl)⟩
        simp [results, Try.f9, go_sem, hc5]
      case stop =>
        rintro D c pre W hD hpre ⟨⟨hb1, rfl, j, hj⟩, hB⟩ hK
        have HE : Hid (b = false) := by
          show _ = _
          rw [HSU.out]
          unfold suitsP
          refine decide_eq_false (fun h => hj ?_)
          have e := h.2
          have h1 : j.1 < xs.length := by rw [HLX.out]; exact j.2
          have h2 : j.1 < ys.length := by rw [HLY.out]; exact j.2
          unfold textAt
          rw [List.getD_eq_getElem?_getD, List.getD_eq_getElem?_getD, List.getElem?_eq_getElem h1, List.getElem?_eq_getElem h2]
          have e3 : (valsP xs fs)[j.1]? = ys[j.1]? := by rw [e]
          unfold valsP at e3
          rw [List.getElem?_map, List.getElem?_eq_getElem h1, List.getElem?_eq_getElem h2] at e3
          simpa using e3
        gi_wp2
        refine ⟨by simp, .inl ⟨_, _, rfl, run_takeDeferred hK, ?_⟩⟩
        have hc5 := cell_kept hb1.cell (grownBy_putObj' _ D (.deferred none)) (fun r e => by cases e; exact ⟨_, hK, rfl⟩)
        refine ⟨.bool false, ?_, by rw [HE.out], hB.trans (belowK_b (w := w) (Nat.le_refl _) W D _ _ (by omega) hK rfl rfl)⟩
        simp [results, Try.f9, go_sem, hc5]
  · have HE : Hid (b = false) := by
      show _ = _; rw [HSU.out]; unfold suitsP
      refine decide_eq_false (fun h => hmk ?_)
      rw [← HLX.out, ← HLY.out, ← h.2, valsP_len]
    have hmi : ((m : Int) != (k : Int)) = true := by simp; omega
    gi_wp2
    refine ⟨trivial, ?_⟩
    gi_wp2
    refine ⟨.bool false, ?_, by rw [HE.out], HB2.out⟩
    have hc5 := HXB.out.cell
    simp [results, Try.f9, go_sem, hc5]

end Go.Proofs.Ytfgapdididdcaaa
