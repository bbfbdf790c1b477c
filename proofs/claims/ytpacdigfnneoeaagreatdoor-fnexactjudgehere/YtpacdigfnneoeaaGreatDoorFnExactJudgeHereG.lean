/- What the proof of FnExactJudgeHere leans on: contracts of the program's and the specification's functions, and plain facts (part 7 of 11). -/
import Derived.Test.YtpacdigfnneoeaaGreatDoorFnExactJudgeHereF
set_option maxHeartbeats 16000000
set_option maxRecDepth 100000
namespace Go.Proofs.YtpacdigfnneoeaaGreatDoor
open Go.RowKit
open Go.Lib hiding intOf
theorem namesOk_any (oa : Oa) (m cm : Nat) (xs : Ts) (w : World) (hx : TextsA w oa m xs) (hm : m ≤ 2000000) (hsz : ∀ i, i < m → (textAt xs i).size ≤ maxLen) :
  Calls Tryz.prog 177 #[.slice oa m cm] w fun e w' => BoolIs (NamesP xs) w e w' := by
 by_cases h4 : (4 : Int) < (m : Int)
 ·have HF : Hid (¬ NamesP xs) := fun h => by have := h.2; rw [hx.1] at this; omega
  clear hx hsz
  go_enter Tryz.func177, Tryz.ntmps177
  go_wp2_with fail
  go_ret
  exact BoolIs.no HF.out (Below.refl _ _)
 have HX : Hid (∀ W, Below w.heap.size w W → TextsA W oa m xs) := fun W h => hx.below h
 have HL : Hid (xs.length = m) := hx.1
 have HS := hid hsz
 clear hx hsz
 go_enter Tryz.func177, Tryz.ntmps177
 go_wp2_with fail
 go_loopw [10] (fun i wr => ∃ j : Nat, j ≤ m ∧ i = .int .i64 (j : Int) ∧ Below w.heap.size w wr ∧ Hid (∀ x ∈ xs.take j, TokOk x)) (fun i _ => m - (intOf i).toNat)
 case atStart => exact ⟨0, Nat.zero_le _, rfl, Below.refl _ _, fun x hx => by simp at hx⟩
 case round =>
  obtain ⟨j, hj, rfl, hbw, HN⟩ := hrel
  by_cases hlt : (j : Int) < (m : Int)
  rotate_left
  ·have HQ : Hid (NamesP xs) := ⟨by
    have h := HN.out
    rw [List.take_of_length_le (by rw [HL.out]; omega)] at h
    exact h, by rw [HL.out]; omega⟩
   clear HN
   go_wp2_with fail
   go_ret
   exact ⟨true, rfl, ⟨fun _ => HQ.out, fun _ => rfl⟩, hbw⟩
  have hjx : j < xs.length := by rw [HL.out]; omega
  obtain ⟨g, rfl, hg, hc⟩ := (HX.out wr hbw).2 j (by omega)
  have hs := HS.out j (by omega)
  obtain ⟨x, hxx⟩ := exq (textAt xs j)
  rw [← hxx] at hc hs
  have HM : Hid (x ∈ xs) := by show _ ∈ _; rw [hxx]; exact textAt_mem xs j hjx
  have HT : Hid (xs.take (j + 1) = xs.take j ++ [x]) := by show _ = _; rw [take_textAt xs j hjx, hxx]
  clear hxx hjx
  go_wp2_with fail
  refine (implTokenOk_any x _ hs).mono ?_
  rintro e w1 ⟨t, rfl, ht, b1⟩
  have hb1 : Below w.heap.size w w1 := hbw.trans (b1.mono hbw.size)
  clear b1 hbw hc
  cases t
  ·have HF : Hid (¬ NamesP xs) := fun h => nomatch ht.2 (h.1 x HM.out)
   clear ht HN
   go_wp2_with fail
   go_ret
   exact BoolIs.no HF.out hb1
  have HN2 : Hid (∀ y ∈ xs.take (j + 1), TokOk y) := by
   intro y hy
   rw [HT.out] at hy
   rcases List.mem_append.1 hy with hy | hy
   · exact HN.out y hy
   · rw [List.mem_singleton.1 hy]; exact ht.1 rfl
  clear ht HN
  go_wp2_with fail
  go_roundw
  case rel => exact ⟨j + 1, by omega, by go_num, hb1, HN2⟩
  case measure => simp [intOf]; omega
theorem two_facts {W : World} {R : Nat} {a b : Value} {t : TypeId} (h : W.heap[R]? = some (.cells #[a, b] t)) : W.cell? ⟨R, 0, none⟩ = some a ∧ W.cell? ⟨R, 1, none⟩ = some b := by
 simp [World.cell?, h]
theorem putTogether_any (v : Value) (n base : Nat) (fs : Fs) (u : Value) (k base2 : Nat) (gs : Fs) (w : World) (hv : FieldsV w base v n fs) (hu : FieldsV w base2 u k gs) (hnk : n + k ≤ 1999999) (hsz : CopyF fs) (hsz2 : CopyF gs) :
  Calls Tryz.prog 168 #[v, u] w fun e w' => RowF (putAll fs gs) w e w' := by
 obtain ⟨i0, hi, hz0, hz1, hz2⟩ := info_parts info33
 have HLA : Hid (fs.length = n) := hv.len
 have HLB : Hid (gs.length = k) := hu.len
 obtain ⟨oa, cap, rfl, _⟩ := hv.slice
 obtain ⟨ob, cb, rfl, hrow⟩ := hu.slice
 have HROW := hid hrow
 have HSZ := hid hsz2
 clear hu hrow hsz2
 go_enter Tryz.func168, Tryz.ntmps168
 go_wp2_with fail
 refine (copied_any _ n base fs _ hv (by omega) hsz).mono ?_
 rintro e w1 ⟨out, rfl, hown, hb1⟩
 obtain ⟨o1, c1, rfl⟩ := slice_of_owns hown
 have HO1 := hid hown
 have HB1 := hid hb1
 clear hv hsz hown hb1
 go_wp2_with fail
 go_loopw [5, 13] (fun s i wr => ∃ (j : Nat) (o : Oa) (c np : Nat) (P : Fs), j ≤ k ∧ i = .int .i64 (j : Int) ∧ s = .slice o np c ∧ Hid (P = putAll fs (gs.take j) ∧ P.length = np ∧ np ≤ n + j) ∧ Hid (wr.ownsRow w.heap.size 185 2 (.slice o np c) np (flatF P)) ∧ Hid (Below w.heap.size w wr)) (fun _ i _ => k - (intOf i).toNat)
 case atStart => exact ⟨0, o1, c1, fs.length, fs, Nat.zero_le _, rfl, rfl, ⟨by simp [putAll], rfl, by rw [HLA.out]; omega⟩, HO1, HB1⟩
 case round =>
  obtain ⟨j, o, c, np, P, hj, rfl, rfl, HP, HO, HB⟩ := hrel
  by_cases hlt : j < k
  rotate_left
  ·have hjk : j = k := by omega
   have HE : Hid (P = putAll fs gs ∧ P.length = np) := ⟨by rw [HP.out.1, List.take_of_length_le (by rw [HLB.out]; omega)], HP.out.2.1⟩
   clear HP
   go_wp2_with fail
   go_ret
   exact ⟨_, rfl, by rw [← HE.out.1, HE.out.2]; exact HO.out, HB.out⟩
  have hlt2 : (j : Int) < (k : Int) := by omega
  obtain ⟨g, rfl, row⟩ := HROW.out j hlt
  have hgr : g < w.heap.size := row.lt
  have row1 := row.below HB.out row.lt
  have hc1 := row1.name j hlt
  have hc2 := row1.val j hlt
  obtain ⟨z1, z2⟩ := HSZ.out j (by rw [HLB.out]; exact hlt)
  have HTK : Hid (gs.take (j + 1) = gs.take j ++ [(nameAt gs j, valAt gs j)]) := take_field gs j (by rw [HLB.out]; exact hlt)
  obtain ⟨nm, hnm⟩ := exq (nameAt gs j)
  obtain ⟨vl, hvl⟩ := exq (valAt gs j)
  rw [← hnm] at hc1 z1 HTK
  rw [← hvl] at hc2 z2 HTK
  clear hnm hvl row row1
  go_upto_region 5 with fail
  obtain ⟨q, hq⟩ := exq (wr.heap.size)
  obtain ⟨W2, hW2⟩ := exq (wr.alloc (.cells #[.string nm, .string vl] 185))
  rw [← hW2, ← hq]
  have HQ2 : Hid (W2.heap[q]? = some (.cells #[.string nm, .string vl] 185)) := by show _ = _; rw [hW2, hq]; exact heap_alloc_new wr _
  have HB2 : Hid (Below w.heap.size w W2) := by show Below _ _ _; rw [hW2]; exact HB.out.alloc HB.out.size _
  have HO2 : Hid (W2.ownsRow w.heap.size 185 2 (.slice o np c) np (flatF P)) := by show World.ownsRow _ _ _ _ _ _ _; rw [hW2]; exact HO.out.alloc _
  have HNE : Hid (∀ x, (Value.slice o np c).ownBlock = some x → x ≠ q) := fun x hx => by have := owns_lt HO.out hx; omega
  obtain ⟨hq0, hq1⟩ := two_facts HQ2.out
  have hvp := FieldsV.of_owns HO2.out
  have hnp : np ≤ 1999999 := by have := HP.out.2.2; omega
  clear hW2 hq HO HB hc1 hc2
  go_wp2_with fail
  refine (place_any _ np _ P nm _ hvp (by omega)).mono ?_
  rintro e w3 ⟨rfl, rfl⟩
  clear hvp hq0 hq1
  have hle := atF_le P nm
  have HL2 := HP.out.2.1
  obtain ⟨a, ha⟩ := exq (atF P nm)
  rw [← ha] at hle ⊢
  by_cases hin : a < P.length
  ·have HPE : Hid (putF P nm vl = P.set a (nm, vl)) := by show _ = _; rw [putF_eq P nm vl (by rw [← ha]; exact hin), ha]
   have hlt3 : a < np := by omega
   have hne : ((a : Int) == (np : Int)) = false := by rw [beq_eq_false_iff_ne]; omega
   have HL3 : Hid (P.length = np) := HL2
   clear ha hle hin HL2 HNE
   have HO3 := HO2
   have HQ3 := HQ2
   have HB3 := HB2
   clear HO2 HQ2 HB2
   rcases frow_form HO3.out with ⟨_, _, _, _, h0, _⟩ | ⟨g1, cc, he, _, row3⟩
   · exact absurd h0 (by omega)
   cases he
   have HROW3 : Hid (FieldRow w.heap.size w3 g1 np c P) := row3
   have hat : ((a : Nat) : Int) < ((np : Nat) : Int) := by omega
   clear row3 HO3
   obtain ⟨hq0, hq1⟩ := two_facts HQ3.out
   go_wp2_with fail
   refine (newField_any nm vl _ z1 z2).mono ?_
   rintro e w5 ⟨rfl, hb5⟩
   have row5 := HROW3.out.below hb5 HROW3.out.lt
   have hb6 : Below w.heap.size w w5 := HB3.out.trans (hb5.mono HB3.out.size)
   have hset := row5.set a (by omega) nm vl _ rfl (by simp)
   have k0 := row5.name a (by omega)
   have k1 := row5.val a (by omega)
   have hf0 := row5.frozen (a * 2)
   have hf1 := row5.frozen (a * 2 + 1)
   have HSET : Hid (((w5.setCell ⟨g1, a * 2, none⟩ (.string nm)).setCell ⟨g1, a * 2 + 1, none⟩ (.string vl)).ownsRow w.heap.size 185 2 (.slice (some ⟨g1, 0, none⟩) (np) c) (np) (flatF (P.set a (nm, vl)))) := hset.owns
   have HB6 : Hid (Below w.heap.size w ((w5.setCell ⟨g1, a * 2, none⟩ (.string nm)).setCell ⟨g1, a * 2 + 1, none⟩ (.string vl))) := (hb6.setCell (p := ⟨g1, a * 2, none⟩) row5.base _).setCell (p := ⟨g1, a * 2 + 1, none⟩) row5.base _
   have HE : Hid (P.set a (nm, vl) = putAll fs (gs.take (j + 1)) ∧ (P.set a (nm, vl)).length = np ∧ np ≤ n + (j + 1)) := by
    show _ ∧ _ ∧ _
    rw [HTK.out, putAll_snoc, ← HP.out.1]
    exact ⟨HPE.out.symm, by rw [List.length_set]; exact HL3.out, by have := HP.out.2.2; omega⟩
   clear hb5 hb6 row5 hset HROW3 HB3 HQ3 hq0 hq1 HP HTK
   go_wp2_with fail
   go_roundw
   case rel => exact ⟨j + 1, _, _, _, _, by omega, by go_num, rfl, HE, HSET, HB6⟩
   case measure => simp [intOf]; omega
  have han : a = np := by omega
  have HPE : Hid (putF P nm vl = P ++ [(nm, vl)]) := by show _ = _; unfold putF; rw [if_neg (by rw [← ha]; exact hin)]
  have HL4 : Hid (P.length = np) := HL2
  clear ha hle hin HL2
  subst han
  have h63 : a + 1 ≤ maxLen := by unfold maxLen; omega
  have h47 : (a + 1) * 32 ≤ 140737488355328 := by omega
  have HBS : ∀ o, w.heap.size ≤ (w3.alloc o).heap.size := fun o => by have := HB2.out.size; simp; omega
  go_wp2_with (at_builtin; refine wpList_append_own _ rfl _ _ 236 rfl w.heap.size 185 i0 (.agg #[.string ⟨#[]⟩, .string ⟨#[]⟩]) 2 32 Tryz.underlying236 hi hz0 hz1 hz2 rfl (by decide) _ _ _ rfl (HO2.out.alloc _) ⟨w3.heap.size, 0, none⟩ 1 1 [.string ⟨#[]⟩, .string ⟨#[]⟩] rfl rfl (cell_two_new _ _ _ _) (two_text _ _) h63 h47 (HBS _) ?_)
  intro v4 w4 hown4 hgrow4 _
  have HB3 : Hid (Below w.heap.size w w4) := (HB2.out.alloc HB2.out.size _).grown hgrow4 (HBS _) (fun g hg => owns_ge HO2.out hg)
  have HO3 : Hid (w4.ownsRow w.heap.size 185 2 v4 (a + 1) (flatF (P ++ [((⟨#[]⟩ : Tx), (⟨#[]⟩ : Tx))]))) := by
   show World.ownsRow _ _ _ _ _ _ _
   rw [flatF_append, flatF_one]
   exact hown4
  have HQ3 : Hid (w4.heap[q]? = some (.cells #[.string nm, .string vl] 185)) := by
   show _ = _
   have hlt := (blt HQ2.out)
   rw [hgrow4.block q (by simp; omega) (fun e => HNE.out q e.symm rfl), Below.heap_alloc _ _ _ hlt]
   exact HQ2.out
  obtain ⟨o4, c4, rfl⟩ := slice_of_owns HO3.out
  have HL3 : Hid ((P ++ [((⟨#[]⟩ : Tx), (⟨#[]⟩ : Tx))]).length = a + 1) := by show _ = _; rw [List.length_append, HL4.out]; rfl
  have HSE : Hid ((P ++ [((⟨#[]⟩ : Tx), (⟨#[]⟩ : Tx))]).set a (nm, vl) = putF P nm vl) := by
   show _ = _
   rw [HPE.out, List.set_append_right _ _ (by rw [HL4.out]; exact Nat.le_refl _), HL4.out, Nat.sub_self, List.set_cons_zero]
  obtain ⟨P1, hP1⟩ : ∃ x, x = P ++ [((⟨#[]⟩ : Tx), (⟨#[]⟩ : Tx))] := ⟨_, rfl⟩
  rw [← hP1] at HO3 HL3 HSE
  clear hgrow4 hown4 HBS HO2 HQ2 HB2 HNE hP1 h63 h47
  rcases frow_form HO3.out with ⟨_, _, _, _, h0, _⟩ | ⟨g1, cc, he, _, row3⟩
  · exact absurd h0 (by omega)
  cases he
  have HROW3 : Hid (FieldRow w.heap.size w4 g1 (a + 1) c4 P1) := row3
  have hat : ((a : Nat) : Int) < (((a + 1) : Nat) : Int) := by omega
  clear row3 HO3
  obtain ⟨hq0, hq1⟩ := two_facts HQ3.out
  go_wp2_with fail
  refine (newField_any nm vl _ z1 z2).mono ?_
  rintro e w5 ⟨rfl, hb5⟩
  have row5 := HROW3.out.below hb5 HROW3.out.lt
  have hb6 : Below w.heap.size w w5 := HB3.out.trans (hb5.mono HB3.out.size)
  have hset := row5.set a (by omega) nm vl _ rfl (by simp)
  have k0 := row5.name a (by omega)
  have k1 := row5.val a (by omega)
  have hf0 := row5.frozen (a * 2)
  have hf1 := row5.frozen (a * 2 + 1)
  have HSET : Hid (((w5.setCell ⟨g1, a * 2, none⟩ (.string nm)).setCell ⟨g1, a * 2 + 1, none⟩ (.string vl)).ownsRow w.heap.size 185 2 (.slice (some ⟨g1, 0, none⟩) ((a + 1)) c4) ((a + 1)) (flatF (P1.set a (nm, vl)))) := hset.owns
  have HB6 : Hid (Below w.heap.size w ((w5.setCell ⟨g1, a * 2, none⟩ (.string nm)).setCell ⟨g1, a * 2 + 1, none⟩ (.string vl))) := (hb6.setCell (p := ⟨g1, a * 2, none⟩) row5.base _).setCell (p := ⟨g1, a * 2 + 1, none⟩) row5.base _
  have HE : Hid (P1.set a (nm, vl) = putAll fs (gs.take (j + 1)) ∧ (P1.set a (nm, vl)).length = (a + 1) ∧ (a + 1) ≤ n + (j + 1)) := by
   show _ ∧ _ ∧ _
   rw [HTK.out, putAll_snoc, ← HP.out.1]
   exact ⟨HSE.out, by rw [List.length_set]; exact HL3.out, by have := HP.out.2.2; omega⟩
  clear hb5 hb6 row5 hset HROW3 HB3 HQ3 hq0 hq1 HP HTK
  go_wp2_with fail
  go_roundw
  case rel => exact ⟨j + 1, _, _, _, _, by omega, by go_num, rfl, HE, HSET, HB6⟩
  case measure => simp [intOf]; omega
open Classical in
noncomputable def namedF (xs : Ts) (gs : Fs) : Fs := gs.filter fun f => decide (f.1 ∈ xs)
open Classical in
theorem namedF_snoc (xs : Ts) (gs : Fs) (f : ByteArray × ByteArray) : namedF xs (gs ++ [f]) = if f.1 ∈ xs then namedF xs gs ++ [f] else namedF xs gs := by
 unfold namedF
 rw [List.filter_append]
 by_cases h : f.1 ∈ xs
 · rw [if_pos h]; simp [h]
 rw [if_neg h]; simp [h]
theorem onlyNamed_any (v : Value) (n base : Nat) (gs : Fs) (oa : Oa) (m cm : Nat) (xs : Ts) (w : World) (hv : FieldsV w base v n gs) (hn : n ≤ 1999999) (hsz : CopyF gs) (hx : TextsA w oa m xs) (hm : m ≤ 2000000) :
  Calls Tryz.prog 166 #[v, .slice oa m cm] w fun e w' => RowF (namedF xs gs) w e w' := by
 classical
 obtain ⟨i0, hi, hz0, hz1, hz2⟩ := info_parts info33
 have HLB : Hid (gs.length = n) := hv.len
 obtain ⟨ob, cb, rfl, hrow⟩ := hv.slice
 have HROW := hid hrow
 have HSZ := hid hsz
 have HX : Hid (∀ W, Below w.heap.size w W → TextsA W oa m xs) := fun W h => hx.below h
 clear hv hrow hsz hx
 go_enter Tryz.func166, Tryz.ntmps166
 go_wp2_with fail
 go_loopw [5, 10] (fun s i wr => ∃ (j : Nat) (o : Oa) (c np : Nat) (P : Fs), j ≤ n ∧ i = .int .i64 (j : Int) ∧ s = .slice o np c ∧ Hid (P = namedF xs (gs.take j) ∧ P.length = np ∧ np ≤ j) ∧ Hid (wr.ownsRow w.heap.size 185 2 (.slice o np c) np (flatF P)) ∧ Hid (Below w.heap.size w wr)) (fun _ i _ => n - (intOf i).toNat)
 case atStart => exact ⟨0, none, 0, 0, [], Nat.zero_le _, rfl, rfl, ⟨by simp [namedF], rfl, Nat.le_refl _⟩, ⟨rfl, .inl ⟨rfl, rfl⟩⟩, Below.refl _ _⟩
 case round =>
  obtain ⟨j, o, c, np, P, hj, rfl, rfl, HP, HO, HB⟩ := hrel
  by_cases hlt : j < n
  rotate_left
  ·have hjk : j = n := by omega
   have HE : Hid (P = namedF xs gs ∧ P.length = np) := ⟨by rw [HP.out.1, List.take_of_length_le (by rw [HLB.out]; omega)], HP.out.2.1⟩
   clear HP
   go_wp2_with fail
   go_ret
   exact ⟨_, rfl, by rw [← HE.out.1, HE.out.2]; exact HO.out, HB.out⟩
  have hlt2 : (j : Int) < (n : Int) := by omega
  obtain ⟨g, rfl, row⟩ := HROW.out j hlt
  have hgr : g < w.heap.size := row.lt
  have row1 := row.below HB.out row.lt
  have hc1 := row1.name j hlt
  have hc2 := row1.val j hlt
  obtain ⟨z1, z2⟩ := HSZ.out j (by rw [HLB.out]; exact hlt)
  have HTK : Hid (gs.take (j + 1) = gs.take j ++ [(nameAt gs j, valAt gs j)]) := take_field gs j (by rw [HLB.out]; exact hlt)
  obtain ⟨nm, hnm⟩ := exq (nameAt gs j)
  obtain ⟨vl, hvl⟩ := exq (valAt gs j)
  rw [← hnm] at hc1 z1 HTK
  rw [← hvl] at hc2 z2 HTK
  clear hnm hvl row row1
  go_upto_region 5 with fail
  obtain ⟨q, hq⟩ := exq (wr.heap.size)
  obtain ⟨W2, hW2⟩ := exq (wr.alloc (.cells #[.string nm, .string vl] 185))
  rw [← hW2, ← hq]
  have HQ2 : Hid (W2.heap[q]? = some (.cells #[.string nm, .string vl] 185)) := by show _ = _; rw [hW2, hq]; exact heap_alloc_new wr _
  have HB2 : Hid (Below w.heap.size w W2) := by show Below _ _ _; rw [hW2]; exact HB.out.alloc HB.out.size _
  have HO2 : Hid (W2.ownsRow w.heap.size 185 2 (.slice o np c) np (flatF P)) := by show World.ownsRow _ _ _ _ _ _ _; rw [hW2]; exact HO.out.alloc _
  obtain ⟨hq0, hq1⟩ := two_facts HQ2.out
  have hx2 := HX.out _ HB2.out
  clear hW2 hq HO HB hc1 hc2
  go_wp2_with fail
  refine (contains_any oa m cm xs nm _ hx2 hm).mono ?_
  rintro e w3 ⟨rfl, rfl⟩
  clear hx2
  by_cases hin : nm ∈ xs
  rotate_left
  ·rw [decide_eq_false hin]
   have HE : Hid (P = namedF xs (gs.take (j + 1)) ∧ P.length = np ∧ np ≤ j + 1) := by
    show _ ∧ _ ∧ _
    rw [HTK.out, namedF_snoc, if_neg (by exact hin), ← HP.out.1]
    exact ⟨rfl, HP.out.2.1, by have := HP.out.2.2; omega⟩
   clear HP HTK hin hq0 hq1
   go_wp2_with fail
   go_roundw
   case rel => exact ⟨j + 1, _, _, _, _, by omega, by go_num, rfl, HE, HO2, HB2⟩
   case measure => simp [intOf]; omega
  rw [decide_eq_true hin]
  have HE : Hid (P ++ [(nm, vl)] = namedF xs (gs.take (j + 1)) ∧ (P ++ [(nm, vl)]).length = np + 1 ∧ np + 1 ≤ j + 1) := by
   show _ ∧ _ ∧ _
   rw [HTK.out, namedF_snoc, if_pos (by exact hin), ← HP.out.1]
   exact ⟨rfl, by rw [List.length_append, HP.out.2.1]; rfl, by have := HP.out.2.2; omega⟩
  have hnp : np ≤ j := HP.out.2.2
  clear HP HTK hin
  go_wp2_with fail
  refine (newField_any nm vl _ z1 z2).mono ?_
  rintro e w5 ⟨rfl, hb5⟩
  have HB5 : Hid (Below w.heap.size w w5) := HB2.out.trans (hb5.mono HB2.out.size)
  have HO5 := hown HO2 hb5
  have h63 : np + 1 ≤ maxLen := by unfold maxLen; omega
  have h47 : (np + 1) * 32 ≤ 140737488355328 := by omega
  have HBS : ∀ o, w.heap.size ≤ (w5.alloc o).heap.size := fun o => by have := HB5.out.size; simp; omega
  clear hb5 HO2 HB2 HQ2 hq0 hq1
  go_wp2_with (at_builtin; refine wpList_append_own _ rfl _ _ 56 rfl w.heap.size 185 i0 (.agg #[.string ⟨#[]⟩, .string ⟨#[]⟩]) 2 32 Tryz.underlying56 hi hz0 hz1 hz2 rfl (by decide) _ _ _ rfl (HO5.out.alloc _) ⟨w5.heap.size, 0, none⟩ 1 1 [.string nm, .string vl] rfl rfl (cell_two_new _ _ _ _) (two_text _ _) h63 h47 (HBS _) ?_)
  intro v6 w6 hown6 hgrow6 _
  have HB6 : Hid (Below w.heap.size w w6) := (HB5.out.alloc HB5.out.size _).grown hgrow6 (HBS _) (fun g hg => owns_ge HO5.out hg)
  have HO6 : Hid (w6.ownsRow w.heap.size 185 2 v6 (np + 1) (flatF (P ++ [(nm, vl)]))) := by
   show World.ownsRow _ _ _ _ _ _ _
   rw [flatF_append, flatF_one]
   exact hown6
  obtain ⟨o6, c6, rfl⟩ := slice_of_owns HO6.out
  clear hown6 hgrow6 HBS HO5 HB5 h63 h47
  go_wp2_with fail
  go_roundw
  case rel => exact ⟨j + 1, _, _, _, _, by omega, by go_num, rfl, HE, HO6, HB6⟩
  case measure => simp [intOf]; omega
theorem fieldOk_any (v : Value) (n base : Nat) (fs : Fs) (k : Nat) (w : World) (hv : FieldsV w base v n fs) (hn : n ≤ 1073741824) (hk : k < n) (hs1 : (nameAt fs k).size ≤ maxLen) (hs2 : (valAt fs k).size ≤ maxLen) :
  Calls Tryz.prog 221 #[v, .int .i64 (k : Int)] w fun e w' => BoolIs (FldOk fs k) w e w' := by
 have HV : Hid (∀ W, Below w.heap.size w W → FieldsV W base v n fs) := fun W h => hv.below h
 obtain ⟨oa, cap, rfl, hrow⟩ := hv.slice
 obtain ⟨g, rfl, row⟩ := hrow k hk
 have hlt2 : (k : Int) < (n : Int) := by omega
 have hc1 := row.name k hk
 have hc2 := row.val k hk
 obtain ⟨nm, hnm⟩ := exq (nameAt fs k)
 obtain ⟨vl, hvl⟩ := exq (valAt fs k)
 have HO : Hid (FldOk fs k ↔ TokOk nm ∧ ValOk vl ∧ atF fs nm = k ∧ nm ≠ clen) := by rw [hnm, hvl]; exact Iff.rfl
 rw [← hnm] at hc1 hs1
 rw [← hvl] at hc2 hs2
 clear hv hrow row hnm hvl
 obtain ⟨r, hr⟩ := exq (w.heap.size)
 have h0 : (w.alloc (.cells #[.string nm, .string vl] 185)).heap.size = w.heap.size + 1 := by simp
 have HB0 : Hid (Below w.heap.size w (w.alloc (.cells #[.string nm, .string vl] 185)) ∧ w.heap.size ≤ (w.alloc (.cells #[.string nm, .string vl] 185)).heap.size) := ⟨(Below.refl _ w).alloc (Nat.le_refl _) _, by omega⟩
 have HR : Hid (∀ W, Below (w.alloc (.cells #[.string nm, .string vl] 185)).heap.size (w.alloc (.cells #[.string nm, .string vl] 185)) W → W.cell? ⟨r, 0, none⟩ = some (.string nm) ∧ W.cell? ⟨r, 1, none⟩ = some (.string vl)) := fun W h => by
  have hh : W.heap[r]? = some (.cells #[.string nm, .string vl] 185) := by rw [hr, h.block _ (by omega)]; exact heap_alloc_new w _
  exact ⟨by simp [World.cell?, hh], by simp [World.cell?, hh]⟩
 go_enter Tryz.func221, Tryz.ntmps221
 go_wp2_with fail
 refine (implTokenOk_any nm _ hs1).mono ?_
 rintro e w1 ⟨b1, rfl, kb1, bb1⟩
 rw [← hr]
 have hb1 : Below w.heap.size w w1 := HB0.out.1.trans (bb1.mono HB0.out.2)
 obtain ⟨d1, d2⟩ := HR.out w1 bb1
 clear h0
 cases b1
 ·have HF : Hid (¬ FldOk fs k) := fun h => by have := kb1.2 (HO.out.1 h).1; cases this
  clear kb1 hc1 hc2 bb1 hr
  go_wp2_with fail
  go_ret
  exact BoolIs.no HF.out hb1
 ·have HT : Hid (TokOk nm) := kb1.1 rfl
  clear kb1 hc1 hc2 hr
  go_wp2_with fail
  refine (implValueOk_any vl _ hs2).mono ?_
  rintro e w2 ⟨b2, rfl, kb2, bb2⟩
  have bb2' := bb1.trans (bb2.mono bb1.size)
  have hb2 : Below w.heap.size w w2 := HB0.out.1.trans (bb2'.mono HB0.out.2)
  obtain ⟨d3, d4⟩ := HR.out w2 bb2'
  cases b2
  ·have HF : Hid (¬ FldOk fs k) := fun h => by have := kb2.2 (HO.out.1 h).2.1; cases this
   clear kb2 bb1 bb2 bb2' hb1 d1 d2
   go_wp2_with fail
   go_ret
   exact BoolIs.no HF.out hb2
  ·have HT2 : Hid (ValOk vl) := kb2.1 rfl
   clear kb2 bb1 bb2 bb2' hb1 d1 d2
   by_cases hcl : nm = clen
   ·have ht := (text_beq _ _).2 hcl
    rw [clen_list] at ht
    have HF : Hid (¬ FldOk fs k) := fun h => (HO.out.1 h).2.2.2 hcl
    clear hcl
    go_wp2_with fail
    go_ret
    exact BoolIs.no HF.out hb2
   have ht := text_beq_no hcl
   rw [clen_list] at ht
   have HC := hid hcl
   clear hcl
   go_wp2_with fail
   refine (place_any _ n base fs nm _ (HV.out w2 hb2) hn).mono ?_
   rintro e w3 ⟨rfl, rfl⟩
   by_cases hat : atF fs nm = k
   ·have HY : Hid (FldOk fs k) := HO.out.2 ⟨HT.out, HT2.out, hat, HC.out⟩
    rw [hat]
    clear hat
    go_wp2
    go_ret
    exact BoolIs.yes HY.out hb2
   have HF : Hid (¬ FldOk fs k) := fun h => hat (HO.out.1 h).2.2.1
   have hne : ((atF fs nm : Int) == (k : Int)) = false := by rw [beq_eq_false_iff_ne]; omega
   clear hat
   go_wp2
   go_ret
   exact BoolIs.no HF.out hb2
theorem ok_any (v : Value) (n base : Nat) (fs : Fs) (w : World) (hv : FieldsV w base v n fs) (hn : n ≤ 1073741824) (hsz : ∀ i, i < n → (nameAt fs i).size ≤ maxLen ∧ (valAt fs i).size ≤ maxLen) :
  Calls Tryz.prog 213 #[v] w fun e w' => BoolIs (FldsOk fs) w e w' := by
 have hl := hv.len
 have HV : Hid (∀ W, Below w.heap.size w W → FieldsV W base v n fs) := fun W h => hv.below h
 have HS := hid hsz
 obtain ⟨oa, cap, rfl, hrow⟩ := hv.slice
 clear hv hrow hsz
 by_cases h8 : (8 : Int) < (n : Int)
 ·have HF : Hid (¬ FldsOk fs) := fun h => by have := h.1; omega
  go_enter Tryz.func213, Tryz.ntmps213
  go_wp2
  go_ret
  exact BoolIs.no HF.out (Below.refl _ _)
 go_enter Tryz.func213, Tryz.ntmps213
 go_wp2
 go_loopw [9] (fun i wr => ∃ k : Nat, k ≤ n ∧ i = .int .i64 (k : Int) ∧ Hid (∀ j, j < k → FldOk fs j) ∧ Below w.heap.size w wr) (fun i _ => n - (intOf i).toNat)
 case atStart => exact ⟨0, Nat.zero_le _, rfl, fun j h => absurd h (by omega), Below.refl _ _⟩
 case round =>
  obtain ⟨k, hk, rfl, hall, hbw⟩ := hrel
  by_cases hlt : k < n
  rotate_left
  ·have HF : Hid (FldsOk fs) := ⟨by omega, fun i hi => hall.out i (by omega)⟩
   go_wp2
   go_ret
   exact BoolIs.yes HF.out hbw
  have hlt2 : (k : Int) < (n : Int) := by omega
  obtain ⟨hs1, hs2⟩ := HS.out k hlt
  go_wp2_with fail
  refine (fieldOk_any _ n base fs k _ (HV.out wr hbw) hn hlt hs1 hs2).mono ?_
  rintro e w1 ⟨b1, rfl, kb1, bb1⟩
  have hb1 : Below w.heap.size w w1 := hbw.trans (bb1.mono hbw.size)
  cases b1
  ·have HF : Hid (¬ FldsOk fs) := fun h => by have := kb1.2 (h.2 k (by omega)); cases this
   clear kb1 bb1
   go_wp2
   go_ret
   exact BoolIs.no HF.out hb1
  ·have HY : Hid (FldOk fs k) := kb1.1 rfl
   clear kb1 bb1
   go_wp2
   go_roundw
   case rel =>
    refine ⟨k + 1, by omega, by go_num, ?_, hb1⟩
    intro j hj
    by_cases e : j = k
    · subst e; exact HY.out
    exact hall.out j (by omega)
   case measure => simp [intOf]; omega
theorem path_cls (n : Int) : PathB n ↔ (cls n ≠ 4 ∧ cls n ≠ 7) := by
 have := cls_spec n
 unfold PathB
 constructor
 · intro h; omega
 · intro h; omega
theorem path_small {n : Int} (h : PathB n) : n < 128 := by unfold PathB at h; omega
theorem isPathRune_any (r : Int) (w : World) :
  Calls Tryz.prog 199 #[.int .i32 r] w fun e w' => BoolIs (PathB r) w e w' := by
 have HP : Hid (PathB r ↔ (cls r ≠ 4 ∧ cls r ≠ 7)) := path_cls r
 go_enter Tryz.func199, Tryz.ntmps199
 go_wp2_with fail
 refine (classOf_any r _).mono ?_
 rintro e w1 ⟨rfl, hb⟩
 generalize cls r = c at HP ⊢
 by_cases h4 : c = 4
 ·have HN : Hid (¬ PathB r) := fun h => (HP.out.1 h).1 h4
  subst h4
  go_wp2_with fail
  go_ret
  exact BoolIs.no HN.out hb
 have h5 : (c != 4) = true := by rw [bne_iff_ne]; exact h4
 by_cases h7 : c = 7
 ·have HN : Hid (¬ PathB r) := fun h => (HP.out.1 h).2 h7
  subst h7
  go_wp2_with fail
  go_ret
  exact BoolIs.no HN.out hb
 have h8 : (c != 7) = true := by rw [bne_iff_ne]; exact h7
 have HY : Hid (PathB r) := HP.out.2 ⟨h4, h7⟩
 go_wp2_with fail
 go_ret
 exact BoolIs.yes HY.out hb
theorem allRunes_path (s : Tx) (w : World) :
  Calls Tryz.prog 198 #[.string s, .func (.func 199) #[] #[]] w fun e w' => BoolIs (AllB PathB s) w e w' := by
 go_enter Tryz.func198, Tryz.ntmps198
 go_wp2
 go_loopw [6] (fun _ wr => ∃ pos : Nat, wr.heap[w.heap.size]? = some (.stringIter s pos) ∧ Below w.heap.size w wr ∧ Hid (AllTo PathB s pos)) (fun _ wr => s.size - wr.iterPos w.heap.size)
 case atStart => exact ⟨0, World.iter_heap _ _ _, (Below.refl _ _).alloc (Nat.le_refl _) _, allTo_zero _ _⟩
 case round =>
  obtain ⟨pos, hh, hbw, hall⟩ := hrel
  by_cases hp : pos < s.size
  rotate_left
  ·have hnx := fun ty => run_next_end_at (P := Tryz.prog) wr w.heap.size s pos ty hh hp
   go_wp2
   go_ret
   exact BoolIs.yes (allTo_end hall.out hp) hbw
  have hnx := fun ty => run_next_any_at (P := Tryz.prog) wr w.heap.size s pos ty hh hp
  go_wp2_with (go_at_call 199; refine (isPathRune_any _ _).mono ?_; rintro e w1 ⟨b, rfl, hbt, hb1⟩)
  ·have hbf : b = false := by simpa using ‹(!b) = true›
   have hno : ¬ PathB ((Utf8.decode s pos).1 : Int) := fun h => by rw [hbt.2 h] at hbf; cases hbf
   go_ret
   exact BoolIs.no (rune_no (fun _ => path_small) s pos hp hno) (iter_step hh hbw hb1).2
  ·have hbf : b = true := by simpa using ‹(!b) = false›
   obtain ⟨hv, hone⟩ := rune_ok (fun _ => path_small) s pos hp (hbt.1 hbf)
   rw [hone] at hb1
   obtain ⟨h1, h2⟩ := iter_step hh hbw hb1
   exact ⟨⟨pos + 1, h1, h2, allTo_succ hall.out hp hv⟩, by rw [iterPos_of h1, iterPos_of hh]; omega⟩
theorem pathOk_any (s : Tx) (w : World) (hs : s.size ≤ maxLen) :
  Calls Tryz.prog 174 #[.string s] w fun e w' => BoolIs (PathOk s) w e w' := by
 unfold maxLen at hs
 by_cases h1 : (1 : Int) ≤ (s.size : Int)
 rotate_left
 ·have HN : Hid (¬ PathOk s) := fun h => by obtain ⟨_, h5, _⟩ := h; omega
  have hd : decide ((1 : Int) ≤ (s.size : Int)) = false := by simpa using h1
  go_enter Tryz.func174, Tryz.ntmps174
  go_wp2_with fail
  go_ret
  exact BoolIs.no HN.out (Below.refl _ _)
 have h0 : 0 < s.size := by omega
 by_cases h2 : (s.size : Int) ≤ 60
 rotate_left
 ·have HN : Hid (¬ PathOk s) := fun h => by obtain ⟨_, _, h5, _⟩ := h; omega
  have hd : decide ((s.size : Int) ≤ 60) = false := by simpa using h2
  go_enter Tryz.func174, Tryz.ntmps174
  go_wp2_with fail
  go_ret
  exact BoolIs.no HN.out (Below.refl _ _)
 by_cases h3 : ((s[0]'h0).toNat : Int) = 47
 rotate_left
 ·have h4 : (((s[0]'h0).toNat : Int) == 47) = false := by rw [beq_eq_false_iff_ne]; exact h3
  have HN : Hid (¬ PathOk s) := fun h => by obtain ⟨_, _, _, _, h5⟩ := h; omega
  clear h3
  go_enter Tryz.func174, Tryz.ntmps174
  go_wp2_with fail
  go_ret
  exact BoolIs.no HN.out (Below.refl _ _)
 have h4 : (((s[0]'h0).toNat : Int) == 47) = true := by rw [beq_iff_eq]; exact h3
 have H3 : Hid ((s[0]'h0).toNat = 47) := by show _ = _; omega
 clear h3
 go_enter Tryz.func174, Tryz.ntmps174
 go_wp2_with fail
 refine (allRunes_path s _).mono ?_
 rintro e w1 ⟨b, rfl, hbt, hb1⟩
 cases b
 ·have HN : Hid (¬ PathOk s) := fun h => by have := hbt.2 h.1; cases this
  clear hbt
  go_wp2_with fail
  go_ret
  exact BoolIs.no HN.out hb1
 ·have HY : Hid (PathOk s) := ⟨hbt.1 rfl, by omega, by omega, h0, H3.out⟩
  clear hbt
  go_wp2_with fail
  go_ret
  exact BoolIs.yes HY.out hb1
theorem methB_none {m : Int} (h : ¬ (1 ≤ m ∧ m ≤ 4)) : methB m = ⟨#[]⟩ := by
 unfold methB
 rw [if_neg (by omega), if_neg (by omega), if_neg (by omega), if_neg (by omega)]
theorem methodName_any (m : Int) (w : World) :
  Calls Tryz.prog 202 #[.int .i64 m] w fun e w' => e = .returned (.string (methB m)) ∧ w' = w := by
 by_cases h1 : m = 1
 ·subst h1
  go_enter Tryz.func202, Tryz.ntmps202
  go_wp2
  go_ret
  exact ⟨rfl, rfl⟩
 by_cases h2 : m = 2
 ·subst h2
  go_enter Tryz.func202, Tryz.ntmps202
  go_wp2
  go_ret
  exact ⟨rfl, rfl⟩
 by_cases h3 : m = 3
 ·subst h3
  go_enter Tryz.func202, Tryz.ntmps202
  go_wp2
  go_ret
  exact ⟨rfl, rfl⟩
 by_cases h4 : m = 4
 ·subst h4
  go_enter Tryz.func202, Tryz.ntmps202
  go_wp2
  go_ret
  exact ⟨rfl, rfl⟩
 have HE : Hid (methB m = ⟨#[]⟩) := methB_none (by omega)
 have e1 : (m == 1) = false := by rw [beq_eq_false_iff_ne]; exact h1
 have e2 : (m == 2) = false := by rw [beq_eq_false_iff_ne]; exact h2
 have e3 : (m == 3) = false := by rw [beq_eq_false_iff_ne]; exact h3
 have e4 : (m == 4) = false := by rw [beq_eq_false_iff_ne]; exact h4
 go_enter Tryz.func202, Tryz.ntmps202
 go_wp2
 go_ret
 exact ⟨by rw [HE.out]; rfl, rfl⟩
def RestP (fs : Fs) (b : Tx) : Prop := FldsOk fs ∧ b.size ≤ 120
theorem restOk_any (v : Value) (b : Tx) (n base : Nat) (fs : Fs) (w : World) (hv : FieldsV w base v n fs) (hn : n ≤ 1073741824) (hsz : WalkF n fs) (hb : b.size ≤ maxLen) :
  Calls Tryz.prog 203 #[.agg #[v, .string b]] w fun e w' => BoolIs (RestP fs b) w e w' := by
 obtain ⟨oa, cap, rfl, _⟩ := hv.slice
 obtain ⟨r, hr⟩ := exq (w.heap.size)
 have HR : Hid (∀ W, Below (w.alloc (.cells #[.slice oa n cap, .string b] 238)).heap.size (w.alloc (.cells #[.slice oa n cap, .string b] 238)) W → (W.cell? ⟨r, 0, none⟩ = some (.slice oa n cap) ∧ W.cell? ⟨r, 1, none⟩ = some (.string b)) ∧ FieldsV W base (.slice oa n cap) n fs ∧ Below w.heap.size w W) := fun W h => by
  have hh := kept_new h
  rw [← hr] at hh
  exact ⟨⟨by simp [World.cell?, hh], by simp [World.cell?, hh]⟩, hv.below (below_new h), below_new h⟩
 obtain ⟨_, hv0, _⟩ := HR.out _ (Below.refl _ _)
 unfold maxLen at hb
 go_enter Tryz.func203, Tryz.ntmps203
 go_wp2_with fail
 refine (ok_any _ n base fs _ hv0 hn hsz).mono ?_
 rintro e w1 ⟨b1, rfl, kb1, bb1⟩
 rw [← hr]
 obtain ⟨⟨c0, c1⟩, _, hbw1⟩ := HR.out w1 bb1
 clear hv hv0 hsz bb1 hr
 cases b1
 ·have HF : Hid (¬ RestP fs b) := fun h => by have := kb1.2 h.1; cases this
  clear kb1
  go_wp2_with fail
  go_ret
  exact BoolIs.no HF.out hbw1
 ·have HT : Hid (FldsOk fs) := kb1.1 rfl
  clear kb1
  by_cases h120 : (b.size : Int) ≤ 120
  ·have HY : Hid (RestP fs b) := ⟨HT.out, by omega⟩
   go_wp2_with fail
   go_ret
   exact BoolIs.yes HY.out hbw1
  have HF : Hid (¬ RestP fs b) := fun h => by have := h.2; omega
  have hd : decide ((b.size : Int) ≤ 120) = false := by simpa using h120
  go_wp2_with fail
  go_ret
  exact BoolIs.no HF.out hbw1
theorem meth_empty {m : Int} (h : 1 ≤ m ∧ m ≤ 4) : (methB m).toList.isEmpty = false := by
 refine isEmpty_no ?_
 rcases meth_cases h with rfl | rfl | rfl | rfl <;> decide
theorem reqOk_any (m : Int) (p : Tx) (v : Value) (b : Tx) (n base : Nat) (fs : Fs) (w : World) (hv : FieldsV w base v n fs) (hn : n ≤ 1073741824) (hsz : WalkF n fs) (hp : p.size ≤ maxLen) (hb : b.size ≤ maxLen) :
  Calls Tryz.prog 182 #[.agg #[v, .string b, .int .i64 m, .string p]] w fun e w' => BoolIs (ReqP m p fs b) w e w' := by
 obtain ⟨oa, cap, rfl, _⟩ := hv.slice
 obtain ⟨r, hr⟩ := exq (w.heap.size)
 have HR : Hid (∀ W, Below (w.alloc (.cells #[.slice oa n cap, .string b, .int .i64 m, .string p] 240)).heap.size (w.alloc (.cells #[.slice oa n cap, .string b, .int .i64 m, .string p] 240)) W → (W.cell? ⟨r, 0, none⟩ = some (.slice oa n cap) ∧ W.cell? ⟨r, 1, none⟩ = some (.string b) ∧ W.cell? ⟨r, 2, none⟩ = some (.int .i64 m) ∧ W.cell? ⟨r, 3, none⟩ = some (.string p)) ∧ FieldsV W base (.slice oa n cap) n fs ∧ Below w.heap.size w W) := fun W h => by
  have hh := kept_new h
  rw [← hr] at hh
  exact ⟨⟨by simp [World.cell?, hh], by simp [World.cell?, hh], by simp [World.cell?, hh], by simp [World.cell?, hh]⟩, hv.below (below_new h), below_new h⟩
 have HSZ := hid hsz
 have HP := hid hp
 have HBS := hid hb
 clear hv hsz hp hb
 go_enter Tryz.func182, Tryz.ntmps182
 go_wp2_with fail
 refine (methodName_any m _).mono ?_
 rintro e w1 ⟨rfl, hw1⟩
 have hb1 : Below (w.alloc (.cells #[.slice oa n cap, .string b, .int .i64 m, .string p] 240)).heap.size (w.alloc (.cells #[.slice oa n cap, .string b, .int .i64 m, .string p] 240)) w1 := by rw [hw1]; exact Below.refl _ _
 clear hw1
 rw [← hr]
 obtain ⟨⟨c0, c1, c2, c3⟩, _, hbw1⟩ := HR.out w1 hb1
 by_cases hm : 1 ≤ m ∧ m ≤ 4
 rotate_left
 ·have HF : Hid (¬ ReqP m p fs b) := fun h => hm h.1
  rw [methB_none hm]
  clear hr hm
  go_wp2_with fail
  go_ret
  exact BoolIs.no HF.out hbw1
 have e1 := meth_empty hm
 have HM := hid hm
 generalize methB m = mt at e1 ⊢
 clear hr hm
 go_wp2_with fail
 refine (pathOk_any p _ HP.out).mono ?_
 rintro e w2 ⟨b1, rfl, kb1, bb2⟩
 have hb2 := hb1.trans (bb2.mono hb1.size)
 clear c0 c1 c2 c3 bb2 hb1 hbw1
 obtain ⟨⟨c0, c1, c2, c3⟩, hv2, hbw2⟩ := HR.out w2 hb2
 have HV2 := hid hv2
 clear hv2
 cases b1
 ·have HF : Hid (¬ ReqP m p fs b) := fun h => by have := kb1.2 h.2.1; cases this
  clear kb1
  go_wp2_with fail
  go_ret
  exact BoolIs.no HF.out hbw2
 ·have HT : Hid (PathOk p) := kb1.1 rfl
  clear kb1
  go_wp2_with fail
  refine (restOk_any _ b n base fs _ HV2.out hn HSZ.out HBS.out).mono ?_
  rintro e w3 ⟨b2, rfl, kb2, bb3⟩
  have hb3 := hb2.trans (bb3.mono hb2.size)
  clear c0 c1 c2 c3 bb3 hb2 hbw2
  obtain ⟨_, _, hbw3⟩ := HR.out w3 hb3
  cases b2
  ·have HF : Hid (¬ ReqP m p fs b) := fun h => by have := kb2.2 h.2.2; cases this
   clear kb2
   go_wp2_with fail
   go_ret
   exact BoolIs.no HF.out hbw3
  ·have HY : Hid (ReqP m p fs b) := ⟨HM.out, HT.out, kb2.1 rfl⟩
   clear kb2
   go_wp2_with fail
   go_ret
   exact BoolIs.yes HY.out hbw3
theorem respOk_any (st : Int) (v : Value) (b : Tx) (n base : Nat) (fs : Fs) (w : World) (hv : FieldsV w base v n fs) (hn : n ≤ 1073741824) (hsz : WalkF n fs) (hb : b.size ≤ maxLen) :
  Calls Tryz.prog 197 #[.agg #[v, .string b, .int .i64 st]] w fun e w' => BoolIs (RespP st fs b) w e w' := by
 obtain ⟨oa, cap, rfl, _⟩ := hv.slice
 obtain ⟨r, hr⟩ := exq (w.heap.size)
 have HR : Hid (∀ W, Below (w.alloc (.cells #[.slice oa n cap, .string b, .int .i64 st] 248)).heap.size (w.alloc (.cells #[.slice oa n cap, .string b, .int .i64 st] 248)) W → (W.cell? ⟨r, 0, none⟩ = some (.slice oa n cap) ∧ W.cell? ⟨r, 1, none⟩ = some (.string b) ∧ W.cell? ⟨r, 2, none⟩ = some (.int .i64 st)) ∧ FieldsV W base (.slice oa n cap) n fs ∧ Below w.heap.size w W) := fun W h => by
  have hh := kept_new h
  rw [← hr] at hh
  exact ⟨⟨by simp [World.cell?, hh], by simp [World.cell?, hh], by simp [World.cell?, hh]⟩, hv.below (below_new h), below_new h⟩
 obtain ⟨_, hv0, hbw0⟩ := HR.out _ (Below.refl _ _)
 have HV0 := hid hv0
 have HSZ := hid hsz
 have HBS := hid hb
 clear hv hv0 hsz hb
 by_cases h1 : 100 ≤ st
 rotate_left
 ·have HF : Hid (¬ RespP st fs b) := fun h => h1 h.1.1
  have hd : decide (100 ≤ st) = false := by simpa using h1
  go_enter Tryz.func197, Tryz.ntmps197
  go_wp2_with fail
  go_ret
  exact BoolIs.no HF.out hbw0
 by_cases h2 : st ≤ 599
 rotate_left
 ·have HF : Hid (¬ RespP st fs b) := fun h => h2 h.1.2
  have hd : decide (st ≤ 599) = false := by simpa using h2
  go_enter Tryz.func197, Tryz.ntmps197
  go_wp2_with fail
  go_ret
  exact BoolIs.no HF.out hbw0
 go_enter Tryz.func197, Tryz.ntmps197
 go_wp2_with fail
 refine (restOk_any _ b n base fs _ HV0.out hn HSZ.out HBS.out).mono ?_
 rintro e w3 ⟨b2, rfl, kb2, bb3⟩
 obtain ⟨_, _, hbw3⟩ := HR.out w3 bb3
 clear bb3 hbw0
 cases b2
 ·have HF : Hid (¬ RespP st fs b) := fun h => by have := kb2.2 h.2; cases this
  clear kb2
  go_wp2_with fail
  go_ret
  exact BoolIs.no HF.out hbw3
 ·have HY : Hid (RespP st fs b) := ⟨⟨h1, h2⟩, kb2.1 rfl⟩
  clear kb2
  go_wp2_with fail
  go_ret
  exact BoolIs.yes HY.out hbw3
theorem requestOf_any (m : Int) (p : Tx) (oa : Oa) (n cap : Nat) (b : Tx) (w : World) :
  Calls Tryz.prog 181 #[.agg #[.int .i64 m, .string p, .slice oa n cap, .string b]] w fun e w' => e = .returned (.agg #[.slice oa n cap, .string b, .int .i64 m, .string p]) ∧ Below w.heap.size w w' := by
 go_enter Tryz.func181, Tryz.ntmps181
 go_wp2
 exact bodyPost_ret (v := .agg #[.slice oa n cap, .string b, .int .i64 m, .string p]) (by simp [results, Tryz.results181, go_sem]) rfl ⟨rfl, ((Below.refl _ _).alloc (Nat.le_refl _) _).alloc (by simp) _⟩
theorem answerOf_any (m : Int) (oa : Oa) (n cap : Nat) (b : Tx) (w : World) :
  Calls Tryz.prog 196 #[.agg #[.int .i64 m, .slice oa n cap, .string b]] w fun e w' => e = .returned (.agg #[.slice oa n cap, .string b, .int .i64 m]) ∧ Below w.heap.size w w' := by
 go_enter Tryz.func196, Tryz.ntmps196
 go_wp2
 exact bodyPost_ret (v := .agg #[.slice oa n cap, .string b, .int .i64 m]) (by simp [results, Tryz.results196, go_sem]) rfl ⟨rfl, ((Below.refl _ _).alloc (Nat.le_refl _) _).alloc (by simp) _⟩
theorem implReqOk_any (m : Int) (p : Tx) (v : Value) (b : Tx) (n base : Nat) (fs : Fs) (w : World) (hv : FieldsV w base v n fs) (hn : n ≤ 1073741824) (hsz : WalkF n fs) (hp : p.size ≤ maxLen) (hb : b.size ≤ maxLen) :
  Calls Tryz.prog 154 #[.agg #[.int .i64 m, .string p, v, .string b]] w fun e w' => BoolIs (ReqP m p fs b) w e w' := by
 obtain ⟨oa, cap, rfl, _⟩ := hv.slice
 have hb0 : Below w.heap.size w (w.alloc (.cells #[.int .i64 m, .string p, .slice oa n cap, .string b] 58)) := (Below.refl _ _).alloc (Nat.le_refl _) _
 go_enter Tryz.func154, Tryz.ntmps154
 go_wp2_with fail
 refine (requestOf_any m p oa n cap b _).mono ?_
 rintro e w1 ⟨rfl, bb1⟩
 have hb1 : Below w.heap.size w w1 := hb0.trans (bb1.mono hb0.size)
 have hv1 := hv.below hb1
 clear bb1 hb0 hv
 go_wp2_with fail
 refine (reqOk_any m p _ b n base fs _ hv1 hn hsz hp hb).mono ?_
 rintro e w2 ⟨b1, rfl, kb, bb2⟩
 have hb2 : Below w.heap.size w w2 := hb1.trans (bb2.mono hb1.size)
 have HK : Hid (b1 = true ↔ ReqP m p fs b) := kb
 clear hv1 hsz hb bb2 hb1 kb hp
 go_wp2_with fail
 go_ret
 exact ⟨b1, rfl, HK.out, hb2⟩
theorem implRespOk_any (m : Int) (v : Value) (b : Tx) (n base : Nat) (fs : Fs) (w : World) (hv : FieldsV w base v n fs) (hn : n ≤ 1073741824) (hsz : WalkF n fs) (hb : b.size ≤ maxLen) :
  Calls Tryz.prog 170 #[.agg #[.int .i64 m, v, .string b]] w fun e w' => BoolIs (RespP m fs b) w e w' := by
 obtain ⟨oa, cap, rfl, _⟩ := hv.slice
 have hb0 : Below w.heap.size w (w.alloc (.cells #[.int .i64 m, .slice oa n cap, .string b] 60)) := (Below.refl _ _).alloc (Nat.le_refl _) _
 go_enter Tryz.func170, Tryz.ntmps170
 go_wp2_with fail
 refine (answerOf_any m oa n cap b _).mono ?_
 rintro e w1 ⟨rfl, bb1⟩
 have hb1 : Below w.heap.size w w1 := hb0.trans (bb1.mono hb0.size)
 have hv1 := hv.below hb1
 clear bb1 hb0 hv
 go_wp2_with fail
 refine (respOk_any m _ b n base fs _ hv1 hn hsz hb).mono ?_
 rintro e w2 ⟨b1, rfl, kb, bb2⟩
 have hb2 : Below w.heap.size w w2 := hb1.trans (bb2.mono hb1.size)
 have HK : Hid (b1 = true ↔ RespP m fs b) := kb
 clear hv1 hsz hb bb2 hb1 kb
 go_wp2_with fail
 go_ret
 exact ⟨b1, rfl, HK.out, hb2⟩
theorem implObjOk_any (p : Tx) (o1 : Oa) (n1 c1 : Nat) (xs : Ts) (o2 : Oa) (n2 c2 : Nat) (ys : Ts) (st : Int) (v3 : Value) (n3 base : Nat) (fs : Fs) (b : Tx) (t : Int) (w : World) (h1 : TextsA w o1 n1 xs) (h2 : TextsA w o2 n2 ys) (h3 : FieldsV w base v3 n3 fs) (hn1 : n1 ≤ 2000000) (hn2 : n2 ≤ 2000000) (hn3 : n3 ≤ 2000000) (hs1 : ∀ i, i < n1 → (textAt xs i).size ≤ maxLen) (hs2 : ∀ i, i < n2 → (textAt ys i).size ≤ maxLen) (hs3 : WalkF n3 fs) (hc : CopyF fs) (hp : p.size ≤ maxLen) (hx : b.size ≤ maxLen) (hg : (getV fs varyName).size ≤ 1048576) :
  Calls Tryz.prog 151 #[.agg #[.string p, .slice o1 n1 c1, .slice o2 n2 c2, .int .i64 st, v3, .string b, .int .i64 t]] w fun e w' => BoolIs (ObjP p xs ys st fs b t) w e w' := by
 obtain ⟨o3, c3, rfl, _⟩ := h3.slice
 have HV1 : Hid (∀ W, Below w.heap.size w W → TextsA W o1 n1 xs) := fun W h => h1.below h
 have HV2 : Hid (∀ W, Below w.heap.size w W → TextsA W o2 n2 ys) := fun W h => h2.below h
 have HV3 : Hid (∀ W, Below w.heap.size w W → FieldsV W base (.slice o3 n3 c3) n3 fs) := fun W h => h3.below h
 have HL1 : Hid (xs.length = n1) := h1.1
 have HL2 : Hid (ys.length = n2) := h2.1
 have HS1 := hid hs1
 have HS2 := hid hs2
 have HS3 := hid hs3
 have HC : Hid (CopyF fs) := hc
 have HPM := hid hp
 have HX := hid hx
 have HG := hid hg
 obtain ⟨vl, hvl⟩ := exq (varyP fs)
 have HVL : Hid (varyP fs = vl) := hvl.symm
 have HVZ : Hid (vl.length ≤ 2000000) := by
  show _ ≤ _
  have hle := splitL_le (getV fs varyName)
  rw [hvl]
  unfold varyP
  rw [List.length_map]
  omega
 clear h1 h2 h3 hs1 hs2 hs3 hc hp hx hg hvl
 have hb0 := Below.refl w.heap.size w
 go_enter Tryz.func151, Tryz.ntmps151
 go_upto_region 1 with fail
 obtain ⟨q1, hq1⟩ := exq (w.heap.size)
 obtain ⟨w1, hW1⟩ := exq (w.alloc (.cells #[.string p, .slice o1 n1 c1, .slice o2 n2 c2, .int .i64 st, .slice o3 n3 c3, .string b, .int .i64 t] 62))
 have hz1 := hq1.symm
 rw [← hW1]; try rw [← hq1]
 have hs1 := hsa hW1 hz1
 have bw := bal hW1
 have hb1 := hbt hb0 bw
 have B1_1 := hnew hW1 hz1
 clear hb0 bw hW1 hz1
 clear hs1 hq1
 have c1_3 := (k7c B1_1).2.2.2.1
 have c1_4 := (k7c B1_1).2.2.2.2.1
 have c1_5 := (k7c B1_1).2.2.2.2.2.1
 go_wp2_with fail
 refine (implRespOk_any st _ b n3 base fs _ (HV3.out _ hb1) (by omega) HS3.out HX.out).mono ?_
 rintro e w2 ⟨u1, rfl, htu1, bw⟩
 have hb2 := hbt hb1 bw
 have B1_2 := hblk B1_1 bw
 clear hb1 bw
 clear c1_3 c1_4 c1_5
 cases u1
 ·have HF : Hid (¬ ObjP p xs ys st fs b t) := fun h => nomatch htu1.2 h.1
  clear htu1
  go_wp2_with fail
  go_ret
  exact BoolIs.no HF.out hb2
 have HR : Hid (RespP st fs b) := htu1.1 rfl
 clear htu1
 have c1_0 := (k7c B1_2).1
 go_wp2_with fail
 refine (pathOk_any p _ HPM.out).mono ?_
 rintro e w3 ⟨u2, rfl, htu2, bw⟩
 have hb3 := hbt hb2 bw
 have B1_3 := hblk B1_2 bw
 clear hb2 bw
 clear c1_0
 cases u2
 ·have HF : Hid (¬ ObjP p xs ys st fs b t) := fun h => nomatch htu2.2 h.2.1
  clear htu2
  go_wp2_with fail
  go_ret
  exact BoolIs.no HF.out hb3
 have HP : Hid (PathOk p) := htu2.1 rfl
 clear htu2
 have c1_6 := (k7c B1_3).2.2.2.2.2.2
 go_wp2_with fail
 refine (timeOk_any t _).mono ?_
 rintro e w4 ⟨rfl, hwe⟩
 have bw : Below w3.heap.size (w3) w4 := by rw [hwe]; exact Below.refl _ _
 clear hwe
 obtain ⟨u3, hu3⟩ : ∃ u3, u3 = decide ((0 : Int) ≤ t ∧ t ≤ 1000000) := ⟨_, rfl⟩
 rw [← hu3]
 have hb4 := hbt hb3 bw
 have B1_4 := hblk B1_3 bw
 clear hb3 bw
 clear c1_6
 cases u3
 ·have HF : Hid (¬ ObjP p xs ys st fs b t) := fun h => absurd h.2.2.1 (of_decide_eq_false hu3.symm)
  clear hu3
  go_wp2_with fail
  go_ret
  exact BoolIs.no HF.out hb4
 have HT : Hid (0 ≤ t ∧ t ≤ 1000000) := (show 0 ≤ t ∧ t ≤ 1000000 from of_decide_eq_true hu3.symm)
 clear hu3
 go_upto_region 3 with fail
 refine wp_region_held_drew (S := fun W => W.heap[q1]? = some (.cells #[.string p, .slice o1 n1 c1, .slice o2 n2 c2, .int .i64 st, .slice o3 n3 c3, .string b, .int .i64 t] 62)) (by kernel_rfl) B1_4.out (fun _ => ?_)
 obtain ⟨w5, hX⟩ := exq w4.drew
 have bw := bdr hX
 rw [← hX]
 have hb5 := hbt hb4 bw
 have B1_5 := hblk B1_4 bw
 have hS5 := B1_5.out
 clear hb4 bw hX
 refine tkP 0 (.pointer (some ⟨q1, 1, none⟩)) 20 rfl rfl hS5 ?_
 go_frame
 refine tkL 1 (.slice o1 n1 c1) 21 rfl rfl (Or.inl ⟨by rfl, by intro W hW; have hhv1 := hW; have y1 := (cell_of hhv1 1).trans rfl; go_simp⟩) hS5 ?_
 go_frame
 refine tkP 2 (.pointer (some ⟨q1, 3, none⟩)) 22 rfl rfl hS5 (tkP 3 (.pointer (some ⟨q1, 4, none⟩)) 23 rfl rfl hS5 ?_)
 go_frame
 refine tkL 4 (.slice o3 n3 c3) 24 rfl rfl (Or.inl ⟨by rfl, by intro W hW; have hhv1 := hW; have y4 := (cell_of hhv1 4).trans rfl; go_simp⟩) hS5 ?_
 go_frame
 refine rd1 5 rfl (fun K hK => ?_)
 go_simp
 refine (implVaryOf_any _ n3 base fs _ (HV3.out _ hb5) (by omega) HC.out HG.out).mono ?_
 rintro e w6 ⟨vv, rfl, ownY, bw⟩
 obtain ⟨oY, pY, rfl⟩ := slice_of_owns ownY
 rw [HVL.out] at ownY ⊢
 have hb6 := hbt hb5 bw
 have B1_6 := hblk B1_5 bw
 have HOY_6 := hwd ownY hb5.size
 clear ownY
 clear hb5 bw
 have hS6 := B1_6.out
 refine hK.out _ _ hS6 (fun _ => ?_)
 clear hK K hS5
 refine rd1 6 rfl (fun K hK => ?_)
 go_simp
 refine (equalT_any _ _ _ _ _ _ xs vl _ (HV1.out _ hb6) (by omega) (texts_view HOY_6.out) HVZ.out).mono ?_
 rintro e w7 ⟨rfl, bw⟩
 obtain ⟨u5, hu5⟩ := exq (decide (xs = vl))
 rw [← hu5]
 have hb7 := hbt hb6 bw
 have HOY_7 := hown HOY_6 bw
 have B1_7 := hblk B1_6 bw
 clear hb6 bw
 have hS7 := B1_7.out
 refine hK.out _ _ hS7 (fun _ => ?_)
 clear hK K hS6
 refine tkP 7 (.bool u5) 27 rfl rfl hS7 ?_
 go_frame
 cases u5
 ·have HF : Hid (¬ ObjP p xs ys st fs b t) := fun h => absurd (h.2.2.2.2.1.trans HVL.out) (of_decide_eq_false hu5.symm)
  clear hu5
  refine tkN 8 28 rfl rfl hS7 (tkN 9 29 rfl rfl hS7 (tkN 10 30 rfl rfl hS7 ?_))
  go_frame
  refine tkP 11 (.bool false) 31 rfl rfl hS7 (tkP 12 (.bool false) 3 rfl rfl hS7 ?_)
  go_frame
  clear hS7
  refine wdn ?_
  go_wp2_with fail
  go_ret
  exact BoolIs.no HF.out hb7
 have HE : Hid (xs = vl) := (show xs = vl from of_decide_eq_true hu5.symm)
 clear hu5
 refine tkP 8 (.pointer (some ⟨q1, 1, none⟩)) 28 rfl rfl hS7 ?_
 go_frame
 refine tkL 9 (.slice o1 n1 c1) 29 rfl rfl (Or.inl ⟨by rfl, by intro W hW; have hhv1 := hW; have y1 := (cell_of hhv1 1).trans rfl; go_simp⟩) hS7 ?_
 go_frame
 refine rd1 10 rfl (fun K hK => ?_)
 go_simp
 refine (namesOk_any _ _ _ xs _ (HV1.out _ hb7) (by omega) HS1.out).mono ?_
 rintro e w8 ⟨u4, rfl, htu4, bw⟩
 have hb8 := hbt hb7 bw
 have HOY_8 := hown HOY_7 bw
 have B1_8 := hblk B1_7 bw
 clear hb7 bw
 have hS8 := B1_8.out
 refine hK.out _ _ hS8 (fun _ => ?_)
 clear hK K hS7
 refine tkP 11 (.bool u4) 31 rfl rfl hS8 (tkP 12 (.bool u4) 3 rfl rfl hS8 ?_)
 go_frame
 clear hS8
 refine wdn ?_
 cases u4
 ·have HF : Hid (¬ ObjP p xs ys st fs b t) := fun h => nomatch htu4.2 h.2.2.2.1
  clear htu4
  go_wp2_with fail
  go_ret
  exact BoolIs.no HF.out hb8
 have HNM : Hid (NamesP xs) := htu4.1 rfl
 clear htu4
 by_cases hc1 : (n2 : Int) = (n1 : Int)
 rotate_left
 ·have hc1b : ((n2 : Int) == (n1 : Int)) = false := by simpa using hc1
  have hc1n : ((n2 : Int) != (n1 : Int)) = true := by simpa using hc1
  have HF : Hid (¬ ObjP p xs ys st fs b t) := fun h => by have h1 := h.2.2.2.2.2.1; have h2 := HL1.out; have h3 := HL2.out; omega
  have hc1H := hid hc1
  clear hc1
  have c1_1 := (k7c B1_8).2.1
  have c1_2 := (k7c B1_8).2.2.1
  go_wp2_with fail
  go_ret
  exact BoolIs.no HF.out hb8
 have hc1b : ((n2 : Int) == (n1 : Int)) = true := by simpa using hc1
 have hc1n : ((n2 : Int) != (n1 : Int)) = false := by simpa using hc1
 have HEQ := hid hc1
 have hc1H := hid hc1
 clear hc1
 have c1_1 := (k7c B1_8).2.1
 have c1_2 := (k7c B1_8).2.2.1
 go_wp2_with fail
 refine (valuesOk_any _ _ _ ys _ (HV2.out _ hb8) (by omega) HS2.out).mono ?_
 rintro e w9 ⟨u6, rfl, htu6, bw⟩
 have hb9 := hbt hb8 bw
 have HOY_9 := hown HOY_8 bw
 have B1_9 := hblk B1_8 bw
 clear hb8 bw
 clear c1_1 c1_2
 go_wp2_with fail
 go_ret
 exact ⟨u6, rfl, ⟨fun h => ⟨HR.out, HP.out, HT.out, HNM.out, HE.out.trans HVL.out.symm, by have h1 := HL1.out; have h2 := HL2.out; have h3 := HEQ.out; omega, htu6.1 h⟩, fun h => htu6.2 h.2.2.2.2.2.2⟩, hb9⟩
theorem ruleOf_1 (a b : Tx) (t : Int) (w : World) :
  Calls Tryz.prog 179 #[.agg #[.int .i64 1, .string a, .string b, .int .i64 t]] w fun e w' => e = .returned (.iface 253 (.agg #[.string a])) ∧ Below w.heap.size w w' := by
 have hb0 := Below.refl w.heap.size w
 go_enter Tryz.func179, Tryz.ntmps179
 go_upto_region 1 with fail
 obtain ⟨q1, hq1⟩ := exq (w.heap.size)
 obtain ⟨w1, hW1⟩ := exq (w.alloc (.cells #[.int .i64 1, .string a, .string b, .int .i64 t] 143))
 have hz1 := hq1.symm
 rw [← hW1]; try rw [← hq1]
 have hs1 := hsa hW1 hz1
 have bw := bal hW1
 have hb1 := hbt hb0 bw
 have B1_1 := hnew hW1 hz1
 clear hb0 bw hW1 hz1
 clear hs1 hq1
 have c1_0 := (k4c B1_1).1
 have c1_1 := (k4c B1_1).2.1
 go_wp2_with fail
 go_ret
 exact ⟨rfl, hb1⟩
theorem ruleOf_2 (a b : Tx) (t : Int) (w : World) :
  Calls Tryz.prog 179 #[.agg #[.int .i64 2, .string a, .string b, .int .i64 t]] w fun e w' => e = .returned (.iface 255 (.agg #[.string a])) ∧ Below w.heap.size w w' := by
 have hb0 := Below.refl w.heap.size w
 go_enter Tryz.func179, Tryz.ntmps179
 go_upto_region 1 with fail
 obtain ⟨q1, hq1⟩ := exq (w.heap.size)
 obtain ⟨w1, hW1⟩ := exq (w.alloc (.cells #[.int .i64 2, .string a, .string b, .int .i64 t] 143))
 have hz1 := hq1.symm
 rw [← hW1]; try rw [← hq1]
 have hs1 := hsa hW1 hz1
 have bw := bal hW1
 have hb1 := hbt hb0 bw
 have B1_1 := hnew hW1 hz1
 clear hb0 bw hW1 hz1
 clear hs1 hq1
 have c1_0 := (k4c B1_1).1
 have c1_1 := (k4c B1_1).2.1
 go_wp2_with fail
 go_ret
 exact ⟨rfl, hb1⟩
theorem ruleOf_3 (a b : Tx) (t : Int) (w : World) :
  Calls Tryz.prog 179 #[.agg #[.int .i64 3, .string a, .string b, .int .i64 t]] w fun e w' => e = .returned (.iface 257 (.agg #[.string a, .string b])) ∧ Below w.heap.size w w' := by
 have hb0 := Below.refl w.heap.size w
 go_enter Tryz.func179, Tryz.ntmps179
 go_upto_region 1 with fail
 obtain ⟨q1, hq1⟩ := exq (w.heap.size)
 obtain ⟨w1, hW1⟩ := exq (w.alloc (.cells #[.int .i64 3, .string a, .string b, .int .i64 t] 143))
 have hz1 := hq1.symm
 rw [← hW1]; try rw [← hq1]
 have hs1 := hsa hW1 hz1
 have bw := bal hW1
 have hb1 := hbt hb0 bw
 have B1_1 := hnew hW1 hz1
 clear hb0 bw hW1 hz1
 clear hs1 hq1
 have c1_0 := (k4c B1_1).1
 have c1_1 := (k4c B1_1).2.1
 have c1_2 := (k4c B1_1).2.2.1
 go_wp2_with fail
 go_ret
 exact ⟨rfl, hb1⟩
theorem ruleOf_no (k : Int) (a b : Tx) (t : Int) (w : World) (h1 : ¬ k = 1) (h2 : ¬ k = 2) (h3 : ¬ k = 3) :
  Calls Tryz.prog 179 #[.agg #[.int .i64 k, .string a, .string b, .int .i64 t]] w fun e w' => e = .returned .nilIface ∧ Below w.heap.size w w' := by
 have hk1 : ((k : Int) == (1 : Int)) = false := by simpa using h1
 have hk2 : ((k : Int) == (2 : Int)) = false := by simpa using h2
 have hk3 : ((k : Int) == (3 : Int)) = false := by simpa using h3
 clear h1 h2 h3
 have hb0 := Below.refl w.heap.size w
 go_enter Tryz.func179, Tryz.ntmps179
 go_upto_region 1 with fail
 obtain ⟨q1, hq1⟩ := exq (w.heap.size)
 obtain ⟨w1, hW1⟩ := exq (w.alloc (.cells #[.int .i64 k, .string a, .string b, .int .i64 t] 143))
 have hz1 := hq1.symm
 rw [← hW1]; try rw [← hq1]
 have hs1 := hsa hW1 hz1
 have bw := bal hW1
 have hb1 := hbt hb0 bw
 have B1_1 := hnew hW1 hz1
 clear hb0 bw hW1 hz1
 clear hs1 hq1
 have c1_0 := (k4c B1_1).1
 go_wp2_with fail
 go_ret
 exact ⟨rfl, hb1⟩
theorem banOf_1 (a : Tx) (t : Int) (w : World) :
  Calls Tryz.prog 180 #[.iface 253 (.agg #[.string a]), .int .i64 t] w fun e w' => e = .returned (.agg #[.int .i64 1, .string a, .string ⟨#[]⟩, .int .i64 t]) ∧ Below w.heap.size w w' := by
 have hta1 : ∀ W : World, (Instr.typeAssert (.iface 253 (.agg #[.string a])) 232 253 true).run Tryz.prog W = .ok (.tuple #[.agg #[.string a], .bool true]) W := fun _ => by kernel_rfl
 have hta2 : ∀ W : World, (Instr.typeAssert (.iface 253 (.agg #[.string a])) 232 255 true).run Tryz.prog W = .ok (.tuple #[.agg #[.string ⟨#[]⟩], .bool false]) W := fun _ => by kernel_rfl
 have hta3 : ∀ W : World, (Instr.typeAssert (.iface 253 (.agg #[.string a])) 232 257 true).run Tryz.prog W = .ok (.tuple #[.agg #[.string ⟨#[]⟩, .string ⟨#[]⟩], .bool false]) W := fun _ => by kernel_rfl
 have hb0 := Below.refl w.heap.size w
 go_enter Tryz.func180, Tryz.ntmps180
 go_upto_region 1 with fail
 obtain ⟨q1, hq1⟩ := exq (w.heap.size)
 obtain ⟨w1, hW1⟩ := exq (w.alloc (.cells #[.int .i64 0, .string ⟨#[]⟩, .string ⟨#[]⟩, .int .i64 0] 143))
 have hz1 := hq1.symm
 rw [← hW1]; try rw [← hq1]
 have hs1 := hsa hW1 hz1
 have bw := bal hW1
 have hb1 := hbt hb0 bw
 have B1_1 := hnew hW1 hz1
 have Gv1 := hge hz1 hb0
 clear hb0 bw hW1 hz1
 clear hs1 hq1
 go_upto_region 4 with fail
 obtain ⟨q2, hq2⟩ := exq (w1.heap.size)
 obtain ⟨w2, hW2⟩ := exq (w1.alloc (.cells #[.string a] 253))
 have hz2 := hq2.symm
 rw [← hW2]; try rw [← hq2]
 have hs2 := hsa hW2 hz2
 have bw := bal hW2
 have hb2 := hbt hb1 bw
 have B1_2 := hblk B1_1 bw
 have Nv1v2 := hnq B1_1 hz2
 have B2_2 := hnew hW2 hz2
 clear hb1 bw hW2 hz2
 clear hs2 hq2
 have c1_0 := (k4c B1_2).1
 have f1_0 := hfz B1_2 0
 have c1_1 := (k4c B1_2).2.1
 have f1_1 := hfz B1_2 1
 have c1_2 := (k4c B1_2).2.2.1
 have f1_2 := hfz B1_2 2
 have c1_3 := (k4c B1_2).2.2.2
 have f1_3 := hfz B1_2 3
 have c2_0 := k1c B2_2
 go_wp2_with fail
 obtain ⟨w3, hW3⟩ := exq (w2.setCell ⟨q1, 0, none⟩ (.int .i64 1))
 rw [← hW3]
 have hb3 := hbS hW3 hb2 Gv1
 have B2_3 := hset hW3 Nv1v2.out.symm B2_2
 have B1_3 := hput hW3 B1_2
 clear hb2 hW3
 obtain ⟨w4, hW4⟩ := exq (w3.setCell ⟨q1, 1, none⟩ (.string a))
 rw [← hW4]
 have hb4 := hbS hW4 hb3 Gv1
 have B2_4 := hset hW4 Nv1v2.out.symm B2_3
 have B1_4 := hput hW4 B1_3
 clear hb3 hW4
 obtain ⟨w5, hW5⟩ := exq (w4.setCell ⟨q1, 2, none⟩ (.string ⟨#[]⟩))
 rw [← hW5]
 have hb5 := hbS hW5 hb4 Gv1
 have B2_5 := hset hW5 Nv1v2.out.symm B2_4
 have B1_5 := hput hW5 B1_4
 clear hb4 hW5
 obtain ⟨w6, hW6⟩ := exq (w5.setCell ⟨q1, 3, none⟩ (.int .i64 t))
 rw [← hW6]
 have hb6 := hbS hW6 hb5 Gv1
 have B2_6 := hset hW6 Nv1v2.out.symm B2_5
 have B1_6 := hput hW6 B1_5
 clear hb5 hW6
 have kv1_0 := (k4c B1_6).1
 have kv1_1 := (k4c B1_6).2.1
 have kv1_2 := (k4c B1_6).2.2.1
 have kv1_3 := (k4c B1_6).2.2.2
 refine bodyPost_ret (v := .agg #[.int .i64 1, .string a, .string ⟨#[]⟩, .int .i64 t]) (by simp [results, Tryz.results180, go_sem, kv1_0, kv1_1, kv1_2, kv1_3]) rfl ?_
 exact ⟨rfl, hb6⟩
theorem banOf_2 (a : Tx) (t : Int) (w : World) :
  Calls Tryz.prog 180 #[.iface 255 (.agg #[.string a]), .int .i64 t] w fun e w' => e = .returned (.agg #[.int .i64 2, .string a, .string ⟨#[]⟩, .int .i64 t]) ∧ Below w.heap.size w w' := by
 have hta1 : ∀ W : World, (Instr.typeAssert (.iface 255 (.agg #[.string a])) 232 253 true).run Tryz.prog W = .ok (.tuple #[.agg #[.string ⟨#[]⟩], .bool false]) W := fun _ => by kernel_rfl
 have hta2 : ∀ W : World, (Instr.typeAssert (.iface 255 (.agg #[.string a])) 232 255 true).run Tryz.prog W = .ok (.tuple #[.agg #[.string a], .bool true]) W := fun _ => by kernel_rfl
 have hta3 : ∀ W : World, (Instr.typeAssert (.iface 255 (.agg #[.string a])) 232 257 true).run Tryz.prog W = .ok (.tuple #[.agg #[.string ⟨#[]⟩, .string ⟨#[]⟩], .bool false]) W := fun _ => by kernel_rfl
 have hb0 := Below.refl w.heap.size w
 go_enter Tryz.func180, Tryz.ntmps180
 go_upto_region 1 with fail
 obtain ⟨q1, hq1⟩ := exq (w.heap.size)
 obtain ⟨w1, hW1⟩ := exq (w.alloc (.cells #[.int .i64 0, .string ⟨#[]⟩, .string ⟨#[]⟩, .int .i64 0] 143))
 have hz1 := hq1.symm
 rw [← hW1]; try rw [← hq1]
 have hs1 := hsa hW1 hz1
 have bw := bal hW1
 have hb1 := hbt hb0 bw
 have B1_1 := hnew hW1 hz1
 have Gv1 := hge hz1 hb0
 clear hb0 bw hW1 hz1
 clear hs1 hq1
 go_upto_region 7 with fail
 obtain ⟨q2, hq2⟩ := exq (w1.heap.size)
 obtain ⟨w2, hW2⟩ := exq (w1.alloc (.cells #[.string a] 255))
 have hz2 := hq2.symm
 rw [← hW2]; try rw [← hq2]
 have hs2 := hsa hW2 hz2
 have bw := bal hW2
 have hb2 := hbt hb1 bw
 have B1_2 := hblk B1_1 bw
 have Nv1v2 := hnq B1_1 hz2
 have B2_2 := hnew hW2 hz2
 clear hb1 bw hW2 hz2
 clear hs2 hq2
 have c1_0 := (k4c B1_2).1
 have f1_0 := hfz B1_2 0
 have c1_1 := (k4c B1_2).2.1
 have f1_1 := hfz B1_2 1
 have c1_2 := (k4c B1_2).2.2.1
 have f1_2 := hfz B1_2 2
 have c1_3 := (k4c B1_2).2.2.2
 have f1_3 := hfz B1_2 3
 have c2_0 := k1c B2_2
 go_wp2_with fail
 obtain ⟨w3, hW3⟩ := exq (w2.setCell ⟨q1, 0, none⟩ (.int .i64 2))
 rw [← hW3]
 have hb3 := hbS hW3 hb2 Gv1
 have B2_3 := hset hW3 Nv1v2.out.symm B2_2
 have B1_3 := hput hW3 B1_2
 clear hb2 hW3
 obtain ⟨w4, hW4⟩ := exq (w3.setCell ⟨q1, 1, none⟩ (.string a))
 rw [← hW4]
 have hb4 := hbS hW4 hb3 Gv1
 have B2_4 := hset hW4 Nv1v2.out.symm B2_3
 have B1_4 := hput hW4 B1_3
 clear hb3 hW4
 obtain ⟨w5, hW5⟩ := exq (w4.setCell ⟨q1, 2, none⟩ (.string ⟨#[]⟩))
 rw [← hW5]
 have hb5 := hbS hW5 hb4 Gv1
 have B2_5 := hset hW5 Nv1v2.out.symm B2_4
 have B1_5 := hput hW5 B1_4
 clear hb4 hW5
 obtain ⟨w6, hW6⟩ := exq (w5.setCell ⟨q1, 3, none⟩ (.int .i64 t))
 rw [← hW6]
 have hb6 := hbS hW6 hb5 Gv1
 have B2_6 := hset hW6 Nv1v2.out.symm B2_5
 have B1_6 := hput hW6 B1_5
 clear hb5 hW6
 have kv1_0 := (k4c B1_6).1
 have kv1_1 := (k4c B1_6).2.1
 have kv1_2 := (k4c B1_6).2.2.1
 have kv1_3 := (k4c B1_6).2.2.2
 refine bodyPost_ret (v := .agg #[.int .i64 2, .string a, .string ⟨#[]⟩, .int .i64 t]) (by simp [results, Tryz.results180, go_sem, kv1_0, kv1_1, kv1_2, kv1_3]) rfl ?_
 exact ⟨rfl, hb6⟩
theorem banOf_3 (a b : Tx) (t : Int) (w : World) :
  Calls Tryz.prog 180 #[.iface 257 (.agg #[.string a, .string b]), .int .i64 t] w fun e w' => e = .returned (.agg #[.int .i64 3, .string a, .string b, .int .i64 t]) ∧ Below w.heap.size w w' := by
 have hta1 : ∀ W : World, (Instr.typeAssert (.iface 257 (.agg #[.string a, .string b])) 232 253 true).run Tryz.prog W = .ok (.tuple #[.agg #[.string ⟨#[]⟩], .bool false]) W := fun _ => by kernel_rfl
 have hta2 : ∀ W : World, (Instr.typeAssert (.iface 257 (.agg #[.string a, .string b])) 232 255 true).run Tryz.prog W = .ok (.tuple #[.agg #[.string ⟨#[]⟩], .bool false]) W := fun _ => by kernel_rfl
 have hta3 : ∀ W : World, (Instr.typeAssert (.iface 257 (.agg #[.string a, .string b])) 232 257 true).run Tryz.prog W = .ok (.tuple #[.agg #[.string a, .string b], .bool true]) W := fun _ => by kernel_rfl
 have hb0 := Below.refl w.heap.size w
 go_enter Tryz.func180, Tryz.ntmps180
 go_upto_region 1 with fail
 obtain ⟨q1, hq1⟩ := exq (w.heap.size)
 obtain ⟨w1, hW1⟩ := exq (w.alloc (.cells #[.int .i64 0, .string ⟨#[]⟩, .string ⟨#[]⟩, .int .i64 0] 143))
 have hz1 := hq1.symm
 rw [← hW1]; try rw [← hq1]
 have hs1 := hsa hW1 hz1
 have bw := bal hW1
 have hb1 := hbt hb0 bw
 have B1_1 := hnew hW1 hz1
 have Gv1 := hge hz1 hb0
 clear hb0 bw hW1 hz1
 clear hs1 hq1
 go_upto_region 10 with fail
 obtain ⟨q2, hq2⟩ := exq (w1.heap.size)
 obtain ⟨w2, hW2⟩ := exq (w1.alloc (.cells #[.string a, .string b] 257))
 have hz2 := hq2.symm
 rw [← hW2]; try rw [← hq2]
 have hs2 := hsa hW2 hz2
 have bw := bal hW2
 have hb2 := hbt hb1 bw
 have B1_2 := hblk B1_1 bw
 have Nv1v2 := hnq B1_1 hz2
 have B2_2 := hnew hW2 hz2
 clear hb1 bw hW2 hz2
 clear hs2 hq2
 have c1_0 := (k4c B1_2).1
 have f1_0 := hfz B1_2 0
 have c1_1 := (k4c B1_2).2.1
 have f1_1 := hfz B1_2 1
 have c1_2 := (k4c B1_2).2.2.1
 have f1_2 := hfz B1_2 2
 have c1_3 := (k4c B1_2).2.2.2
 have f1_3 := hfz B1_2 3
 have c2_0 := (k2c B2_2).1
 have c2_1 := (k2c B2_2).2
 go_wp2_with fail
 obtain ⟨w3, hW3⟩ := exq (w2.setCell ⟨q1, 0, none⟩ (.int .i64 3))
 rw [← hW3]
 have hb3 := hbS hW3 hb2 Gv1
 have B2_3 := hset hW3 Nv1v2.out.symm B2_2
 have B1_3 := hput hW3 B1_2
 clear hb2 hW3
 obtain ⟨w4, hW4⟩ := exq (w3.setCell ⟨q1, 1, none⟩ (.string a))
 rw [← hW4]
 have hb4 := hbS hW4 hb3 Gv1
 have B2_4 := hset hW4 Nv1v2.out.symm B2_3
 have B1_4 := hput hW4 B1_3
 clear hb3 hW4
 obtain ⟨w5, hW5⟩ := exq (w4.setCell ⟨q1, 2, none⟩ (.string b))
 rw [← hW5]
 have hb5 := hbS hW5 hb4 Gv1
 have B2_5 := hset hW5 Nv1v2.out.symm B2_4
 have B1_5 := hput hW5 B1_4
 clear hb4 hW5
 obtain ⟨w6, hW6⟩ := exq (w5.setCell ⟨q1, 3, none⟩ (.int .i64 t))
 rw [← hW6]
 have hb6 := hbS hW6 hb5 Gv1
 have B2_6 := hset hW6 Nv1v2.out.symm B2_5
 have B1_6 := hput hW6 B1_5
 clear hb5 hW6
 have kv1_0 := (k4c B1_6).1
 have kv1_1 := (k4c B1_6).2.1
 have kv1_2 := (k4c B1_6).2.2.1
 have kv1_3 := (k4c B1_6).2.2.2
 refine bodyPost_ret (v := .agg #[.int .i64 3, .string a, .string b, .int .i64 t]) (by simp [results, Tryz.results180, go_sem, kv1_0, kv1_1, kv1_2, kv1_3]) rfl ?_
 exact ⟨rfl, hb6⟩
theorem right_1 (a : Tx) (w : World) (ha : a.size ≤ maxLen) :
  Calls Tryz.prog 255 #[.agg #[.string a]] w fun e w' => BoolIs (PathOk a) w e w' := by
 have HAM := hid ha
 clear ha
 have hb0 := Below.refl w.heap.size w
 go_enter Tryz.func255, Tryz.ntmps255
 go_upto_region 1 with fail
 obtain ⟨q1, hq1⟩ := exq (w.heap.size)
 obtain ⟨w1, hW1⟩ := exq (w.alloc (.cells #[.string a] 253))
 have hz1 := hq1.symm
 rw [← hW1]; try rw [← hq1]
 have hs1 := hsa hW1 hz1
 have bw := bal hW1
 have hb1 := hbt hb0 bw
 have B1_1 := hnew hW1 hz1
 clear hb0 bw hW1 hz1
 clear hs1 hq1
 have c1_0 := k1c B1_1
 go_wp2_with fail
 refine (pathOk_any a _ HAM.out).mono ?_
 rintro e w2 ⟨u, rfl, htu, bw⟩
 have hb2 := hbt hb1 bw
 have B1_2 := hblk B1_1 bw
 clear hb1 bw
 clear c1_0
 go_wp2_with fail
 go_ret
 exact ⟨u, rfl, htu, hb2⟩
theorem right_2 (a : Tx) (w : World) (ha : a.size ≤ maxLen) :
  Calls Tryz.prog 257 #[.agg #[.string a]] w fun e w' => BoolIs (PathOk a) w e w' := by
 have HAM := hid ha
 clear ha
 have hb0 := Below.refl w.heap.size w
 go_enter Tryz.func257, Tryz.ntmps257
 go_upto_region 1 with fail
 obtain ⟨q1, hq1⟩ := exq (w.heap.size)
 obtain ⟨w1, hW1⟩ := exq (w.alloc (.cells #[.string a] 255))
 have hz1 := hq1.symm
 rw [← hW1]; try rw [← hq1]
 have hs1 := hsa hW1 hz1
 have bw := bal hW1
 have hb1 := hbt hb0 bw
 have B1_1 := hnew hW1 hz1
 clear hb0 bw hW1 hz1
 clear hs1 hq1
 have c1_0 := k1c B1_1
 go_wp2_with fail
 refine (pathOk_any a _ HAM.out).mono ?_
 rintro e w2 ⟨u, rfl, htu, bw⟩
 have hb2 := hbt hb1 bw
 have B1_2 := hblk B1_1 bw
 clear hb1 bw
 clear c1_0
 go_wp2_with fail
 go_ret
 exact ⟨u, rfl, htu, hb2⟩
theorem right_3 (a b : Tx) (w : World) (ha : a.size ≤ maxLen) (hb : b.size ≤ maxLen) :
  Calls Tryz.prog 259 #[.agg #[.string a, .string b]] w fun e w' => BoolIs (TokOk a ∧ ValOk b) w e w' := by
 have HAM := hid ha
 have HBM := hid hb
 clear ha hb
 have hb0 := Below.refl w.heap.size w
 go_enter Tryz.func259, Tryz.ntmps259
 go_upto_region 1 with fail
 obtain ⟨q1, hq1⟩ := exq (w.heap.size)
 obtain ⟨w1, hW1⟩ := exq (w.alloc (.cells #[.string a, .string b] 257))
 have hz1 := hq1.symm
 rw [← hW1]; try rw [← hq1]
 have hs1 := hsa hW1 hz1
 have bw := bal hW1
 have hb1 := hbt hb0 bw
 have B1_1 := hnew hW1 hz1
 clear hb0 bw hW1 hz1
 clear hs1 hq1
 have c1_0 := (k2c B1_1).1
 go_wp2_with fail
 refine (implTokenOk_any a _ HAM.out).mono ?_
 rintro e w2 ⟨u, rfl, htu, bw⟩
 have hb2 := hbt hb1 bw
 have B1_2 := hblk B1_1 bw
 clear hb1 bw
 clear c1_0
 cases u
 ·have HU : Hid (¬ TokOk a) := fun h => nomatch htu.2 h
  clear htu
  go_wp2_with fail
  go_ret
  exact ⟨false, rfl, ⟨fun h => (by cases h), fun h => absurd h.1 HU.out⟩, hb2⟩
 have HU : Hid (TokOk a) := htu.1 rfl
 clear htu
 have c1_1 := (k2c B1_2).2
 go_wp2_with fail
 refine (implValueOk_any b _ HBM.out).mono ?_
 rintro e w3 ⟨v, rfl, htv, bw⟩
 have hb3 := hbt hb2 bw
 have B1_3 := hblk B1_2 bw
 clear hb2 bw
 clear c1_1
 go_wp2_with fail
 go_ret
 exact ⟨v, rfl, ⟨fun h => ⟨HU.out, htv.1 h⟩, fun h => htv.2 h.2⟩, hb3⟩
theorem guardBan : Tryz.prog.eqGuardType Tryz.prog.depth 143 = false := by kernel_rfl
open Classical in
theorem eqBanIn (k k' : Int) (a a' b b' : Tx) (t t' : Int) (w : World) : (Op.equalIn 10000 143 (.agg #[.int .i64 k, .string a, .string b, .int .i64 t]) (.agg #[.int .i64 k', .string a', .string b', .int .i64 t'])).run Tryz.prog w = .ok (decide (k = k' ∧ a = a' ∧ b = b' ∧ t = t')) w := by
 have u3 := Tryz.underlying3
 have a3 := Tryz.isAgg3
 have z3 := Tryz.sizeOf3
 have u9 := Tryz.underlying9
 have a9 := Tryz.isAgg9
 have z9 := Tryz.sizeOf9
 have hS : Tryz.prog.underlying 143 = some (.struct (Tryz.prog.fieldsOf 143)) := by kernel_rfl
 have hp : Tryz.prog.stoodInHeld 143 = false := by kernel_rfl
 rw [show (10000 : Nat) = 9999 + 1 from rfl, run_equalIn_agg w 9999 143 _ _ hS hp]
 simp only [Program.fieldsOf, Tryz.underlying143]
 have ea : ∀ x y : ByteArray, (x.toList == y.toList) = decide (x = y) := fun x y => by
  by_cases h : x = y
  · rw [decide_eq_true h]; exact (text_beq _ _).2 h
  · rw [decide_eq_false h]; exact text_beq_no h
 go_simp
 by_cases h1 : k = k'
 rotate_left
 · simp [h1]
 by_cases h2 : a = a'
 rotate_left
 · simp [h1, h2]
 by_cases h3 : b = b'
 rotate_left
 · simp [h1, h2, h3]
 by_cases h4 : t = t'
 · simp [h1, h2, h3, h4]
 simp [h1, h2, h3, h4]
open Classical in
theorem eqlBan (k k' : Int) (a a' b b' : Tx) (t t' : Int) (w : World) : (binOp .eql 143 (.agg #[.int .i64 k, .string a, .string b, .int .i64 t]) (.agg #[.int .i64 k', .string a', .string b', .int .i64 t'])).run Tryz.prog w = .ok (.bool (decide (k = k' ∧ a = a' ∧ b = b' ∧ t = t'))) w := by
 rw [run_eql_struct, eqBanIn]
 rfl
theorem implBanOk_1e (a : Tx) (t : Int) (w : World) (ha : a.size ≤ maxLen) :
  Calls Tryz.prog 153 #[.agg #[.int .i64 1, .string a, .string ⟨#[]⟩, .int .i64 t]] w fun e w' => BoolIs (BanP 1 a ⟨#[]⟩ t) w e w' := by
 classical
 have HAM := hid ha
 have hnn : ∀ W : World, (binOp .neq 232 (.iface 253 (.agg #[.string a])) .nilIface).run Tryz.prog W = .ok (.bool true) W := fun _ => by kernel_rfl
 have hna : ∀ W : World, (nilAhead 157 253 (.agg #[.string a]) "loop.example/g00239/impl.right").run Tryz.prog W = .ok (some false) W := fun _ => by kernel_rfl
 have hmt : ∀ W : World, (method 157 253 (.agg #[.string a]) "loop.example/g00239/impl.right").run Tryz.prog W = .ok (255, .agg #[.string a]) W := fun _ => by kernel_rfl
 have hgb := guardBan
 have hqe : ∀ W : World, (binOp .eql 143 (.agg #[.int .i64 1, .string a, .string ⟨#[]⟩, .int .i64 t]) (.agg #[.int .i64 1, .string a, .string ⟨#[]⟩, .int .i64 t])).run Tryz.prog W = .ok (.bool true) W := fun W => by
  rw [eqlBan]
  first | (simp; done) | (have z := HB0.out; simp; exact fun e => z e.symm)
 clear ha
 have hb0 := Below.refl w.heap.size w
 go_enter Tryz.func153, Tryz.ntmps153
 go_upto_region 1 with fail
 obtain ⟨q1, hq1⟩ := exq (w.heap.size)
 obtain ⟨w1, hW1⟩ := exq (w.alloc (.cells #[.int .i64 1, .string a, .string ⟨#[]⟩, .int .i64 t] 143))
 have hz1 := hq1.symm
 rw [← hW1]; try rw [← hq1]
 have hs1 := hsa hW1 hz1
 have bw := bal hW1
 have hb1 := hbt hb0 bw
 have B1_1 := hnew hW1 hz1
 clear hb0 bw hW1 hz1
 clear hs1 hq1
 have c1_0 := (k4c B1_1).1
 have c1_1 := (k4c B1_1).2.1
 have c1_2 := (k4c B1_1).2.2.1
 have c1_3 := (k4c B1_1).2.2.2
 go_wp2_with fail
 refine (ruleOf_1 a ⟨#[]⟩ t _).mono ?_
 rintro e w2 ⟨rfl, bw⟩
 have hb2 := hbt hb1 bw
 have B1_2 := hblk B1_1 bw
 clear hb1 bw
 clear c1_0 c1_1 c1_2 c1_3
 go_upto_region 2 with fail
 refine wp_region_held_drew (S := fun W => W.heap[q1]? = some (.cells #[.int .i64 1, .string a, .string ⟨#[]⟩, .int .i64 t] 143)) (by kernel_rfl) B1_2.out (fun _ => ?_)
 obtain ⟨w3, hX⟩ := exq w2.drew
 have bw := bdr hX
 rw [← hX]
 have hb3 := hbt hb2 bw
 have B1_3 := hblk B1_2 bw
 have hS3 := B1_3.out
 clear hb2 bw hX
 refine tkP 0 (.iface 253 (.agg #[.string a])) 6 rfl rfl hS3 (tkP 1 (.bool true) 7 rfl rfl hS3 (tkP 2 (.bool true) 8 rfl rfl hS3 ?_))
 go_frame
 refine tkP 3 (.iface 253 (.agg #[.string a])) 9 rfl rfl hS3 ?_
 go_frame
 refine rd1 4 rfl (fun K hK => ?_)
 go_simp
 refine (right_1 a _ HAM.out).mono ?_
 rintro e w4 ⟨ur, rfl, htur, bw⟩
 have hb4 := hbt hb3 bw
 have B1_4 := hblk B1_3 bw
 clear hb3 bw
 have hS4 := B1_4.out
 refine hK.out _ _ hS4 (fun _ => ?_)
 clear hK K hS3
 refine tkP 5 (.bool ur) 11 rfl rfl hS4 (tkP 6 (.bool ur) 12 rfl rfl hS4 ?_)
 go_frame
 cases ur
 ·have Hur : Hid (¬ (PathOk a)) := fun h => nomatch htur.2 h
  clear htur
  refine tkN 7 13 rfl rfl hS4 (tkN 8 14 rfl rfl hS4 (tkN 9 15 rfl rfl hS4 ?_))
  go_frame
  refine tkP 10 (.bool false) 16 rfl rfl hS4 (tkP 11 (.bool false) 17 rfl rfl hS4 (tkN 12 18 rfl rfl hS4 ?_))
  go_frame
  refine tkN 13 19 rfl rfl hS4 (tkN 14 20 rfl rfl hS4 (tkN 15 21 rfl rfl hS4 ?_))
  go_frame
  refine tkN 16 22 rfl rfl hS4 (tkN 17 23 rfl rfl hS4 (tkP 18 (.bool false) 24 rfl rfl hS4 ?_))
  go_frame
  refine tkP 19 (.bool false) 2 rfl rfl hS4 ?_
  go_frame
  clear hS4
  refine wdn ?_
  go_wp2_with fail
  go_ret
  refine ⟨false, rfl, ?_, hb4⟩
  have zHur := Hur.out
  unfold BanP
  simp_all
 have Hur : Hid (PathOk a) := htur.1 rfl
 clear htur
 refine tkP 7 (.pointer (some ⟨q1, 3, none⟩)) 13 rfl rfl hS4 ?_
 go_frame
 refine tkL 8 (.int .i64 t) 14 rfl rfl (Or.inl ⟨by rfl, by intro W hW; have hhv1 := hW; have y3 := (cell_of hhv1 3).trans rfl; go_simp⟩) hS4 ?_
 go_frame
 refine rd1 9 rfl (fun K hK => ?_)
 go_simp
 refine (timeOk_any t _).mono ?_
 rintro e w5 ⟨rfl, hwe⟩
 have bw : Below w4.heap.size (w4) w5 := by rw [hwe]; exact Below.refl _ _
 clear hwe
 obtain ⟨ut, hut⟩ : ∃ u, u = decide ((0 : Int) ≤ t ∧ t ≤ 1000000) := ⟨_, rfl⟩
 rw [← hut]
 have hb5 := hbt hb4 bw
 have B1_5 := hblk B1_4 bw
 clear hb4 bw
 have hS5 := B1_5.out
 refine hK.out _ _ hS5 (fun _ => ?_)
 clear hK K hS4
 refine tkP 10 (.bool ut) 16 rfl rfl hS5 (tkP 11 (.bool ut) 17 rfl rfl hS5 ?_)
 go_frame
 cases ut
 ·have Hut : Hid (¬ (0 ≤ t ∧ t ≤ 1000000)) := (show ¬ (0 ≤ t ∧ t ≤ 1000000) from of_decide_eq_false hut.symm)
  clear hut
  refine tkN 12 18 rfl rfl hS5 (tkN 13 19 rfl rfl hS5 (tkN 14 20 rfl rfl hS5 ?_))
  go_frame
  refine tkN 15 21 rfl rfl hS5 (tkN 16 22 rfl rfl hS5 (tkN 17 23 rfl rfl hS5 ?_))
  go_frame
  refine tkP 18 (.bool false) 24 rfl rfl hS5 (tkP 19 (.bool false) 2 rfl rfl hS5 ?_)
  go_frame
  clear hS5
  refine wdn ?_
  go_wp2_with fail
  go_ret
  refine ⟨false, rfl, ?_, hb5⟩
  have zHur := Hur.out
  have zHut := Hut.out
  unfold BanP
  simp_all
 have Hut : Hid (0 ≤ t ∧ t ≤ 1000000) := (show 0 ≤ t ∧ t ≤ 1000000 from of_decide_eq_true hut.symm)
 clear hut
 refine tkP 12 (.iface 253 (.agg #[.string a])) 18 rfl rfl hS5 (tkP 13 (.pointer (some ⟨q1, 3, none⟩)) 19 rfl rfl hS5 ?_)
 go_frame
 refine tkL 14 (.int .i64 t) 20 rfl rfl (Or.inl ⟨by rfl, by intro W hW; have hhv1 := hW; have y3 := (cell_of hhv1 3).trans rfl; go_simp⟩) hS5 ?_
 go_frame
 refine tkL 16 (.agg #[.int .i64 1, .string a, .string ⟨#[]⟩, .int .i64 t]) 22 rfl rfl (Or.inl ⟨by rfl, by intro W hW; have hhv1 := hW; have y0 := (cell_of hhv1 0).trans rfl; have y1 := (cell_of hhv1 1).trans rfl; have y2 := (cell_of hhv1 2).trans rfl; have y3 := (cell_of hhv1 3).trans rfl; go_simp⟩) hS5 ?_
 go_frame
 refine rd1 15 rfl (fun K hK => ?_)
 go_simp
 refine (banOf_1 a t _).mono ?_
 rintro e w6 ⟨rfl, bw⟩
 have hb6 := hbt hb5 bw
 have B1_6 := hblk B1_5 bw
 clear hb5 bw
 have hS6 := B1_6.out
 refine hK.out _ _ hS6 (fun _ => ?_)
 clear hK K hS5
 refine tkP 17 (.bool true) 23 rfl rfl hS6 (tkP 18 (.bool true) 24 rfl rfl hS6 (tkP 19 (.bool true) 2 rfl rfl hS6 ?_))
 go_frame
 clear hS6
 refine wdn ?_
 go_wp2_with fail
 go_ret
 refine ⟨true, rfl, ?_, hb6⟩
 have zHur := Hur.out
 have zHut := Hut.out
 unfold BanP
 simp_all
theorem implBanOk_1n (a b : Tx) (t : Int) (w : World) (ha : a.size ≤ maxLen) (hb0 : ¬ b = ⟨#[]⟩) :
  Calls Tryz.prog 153 #[.agg #[.int .i64 1, .string a, .string b, .int .i64 t]] w fun e w' => BoolIs (BanP 1 a b t) w e w' := by
 classical
 have HAM := hid ha
 have HB0 := hid hb0
 have hnn : ∀ W : World, (binOp .neq 232 (.iface 253 (.agg #[.string a])) .nilIface).run Tryz.prog W = .ok (.bool true) W := fun _ => by kernel_rfl
 have hna : ∀ W : World, (nilAhead 157 253 (.agg #[.string a]) "loop.example/g00239/impl.right").run Tryz.prog W = .ok (some false) W := fun _ => by kernel_rfl
 have hmt : ∀ W : World, (method 157 253 (.agg #[.string a]) "loop.example/g00239/impl.right").run Tryz.prog W = .ok (255, .agg #[.string a]) W := fun _ => by kernel_rfl
 have hgb := guardBan
 have hqe : ∀ W : World, (binOp .eql 143 (.agg #[.int .i64 1, .string a, .string ⟨#[]⟩, .int .i64 t]) (.agg #[.int .i64 1, .string a, .string b, .int .i64 t])).run Tryz.prog W = .ok (.bool false) W := fun W => by
  rw [eqlBan]
  first | (simp; done) | (have z := HB0.out; simp; exact fun e => z e.symm)
 clear ha hb0
 have hb0 := Below.refl w.heap.size w
 go_enter Tryz.func153, Tryz.ntmps153
 go_upto_region 1 with fail
 obtain ⟨q1, hq1⟩ := exq (w.heap.size)
 obtain ⟨w1, hW1⟩ := exq (w.alloc (.cells #[.int .i64 1, .string a, .string b, .int .i64 t] 143))
 have hz1 := hq1.symm
 rw [← hW1]; try rw [← hq1]
 have hs1 := hsa hW1 hz1
 have bw := bal hW1
 have hb1 := hbt hb0 bw
 have B1_1 := hnew hW1 hz1
 clear hb0 bw hW1 hz1
 clear hs1 hq1
 have c1_0 := (k4c B1_1).1
 have c1_1 := (k4c B1_1).2.1
 have c1_2 := (k4c B1_1).2.2.1
 have c1_3 := (k4c B1_1).2.2.2
 go_wp2_with fail
 refine (ruleOf_1 a b t _).mono ?_
 rintro e w2 ⟨rfl, bw⟩
 have hb2 := hbt hb1 bw
 have B1_2 := hblk B1_1 bw
 clear hb1 bw
 clear c1_0 c1_1 c1_2 c1_3
 go_upto_region 2 with fail
 refine wp_region_held_drew (S := fun W => W.heap[q1]? = some (.cells #[.int .i64 1, .string a, .string b, .int .i64 t] 143)) (by kernel_rfl) B1_2.out (fun _ => ?_)
 obtain ⟨w3, hX⟩ := exq w2.drew
 have bw := bdr hX
 rw [← hX]
 have hb3 := hbt hb2 bw
 have B1_3 := hblk B1_2 bw
 have hS3 := B1_3.out
 clear hb2 bw hX
 refine tkP 0 (.iface 253 (.agg #[.string a])) 6 rfl rfl hS3 (tkP 1 (.bool true) 7 rfl rfl hS3 (tkP 2 (.bool true) 8 rfl rfl hS3 ?_))
 go_frame
 refine tkP 3 (.iface 253 (.agg #[.string a])) 9 rfl rfl hS3 ?_
 go_frame
 refine rd1 4 rfl (fun K hK => ?_)
 go_simp
 refine (right_1 a _ HAM.out).mono ?_
 rintro e w4 ⟨ur, rfl, htur, bw⟩
 have hb4 := hbt hb3 bw
 have B1_4 := hblk B1_3 bw
 clear hb3 bw
 have hS4 := B1_4.out
 refine hK.out _ _ hS4 (fun _ => ?_)
 clear hK K hS3
 refine tkP 5 (.bool ur) 11 rfl rfl hS4 (tkP 6 (.bool ur) 12 rfl rfl hS4 ?_)
 go_frame
 cases ur
 ·have Hur : Hid (¬ (PathOk a)) := fun h => nomatch htur.2 h
  clear htur
  refine tkN 7 13 rfl rfl hS4 (tkN 8 14 rfl rfl hS4 (tkN 9 15 rfl rfl hS4 ?_))
  go_frame
  refine tkP 10 (.bool false) 16 rfl rfl hS4 (tkP 11 (.bool false) 17 rfl rfl hS4 (tkN 12 18 rfl rfl hS4 ?_))
  go_frame
  refine tkN 13 19 rfl rfl hS4 (tkN 14 20 rfl rfl hS4 (tkN 15 21 rfl rfl hS4 ?_))
  go_frame
  refine tkN 16 22 rfl rfl hS4 (tkN 17 23 rfl rfl hS4 (tkP 18 (.bool false) 24 rfl rfl hS4 ?_))
  go_frame
  refine tkP 19 (.bool false) 2 rfl rfl hS4 ?_
  go_frame
  clear hS4
  refine wdn ?_
  go_wp2_with fail
  go_ret
  refine ⟨false, rfl, ?_, hb4⟩
  have zHur := Hur.out
  have zHB := HB0.out
  unfold BanP
  simp_all
 have Hur : Hid (PathOk a) := htur.1 rfl
 clear htur
 refine tkP 7 (.pointer (some ⟨q1, 3, none⟩)) 13 rfl rfl hS4 ?_
 go_frame
 refine tkL 8 (.int .i64 t) 14 rfl rfl (Or.inl ⟨by rfl, by intro W hW; have hhv1 := hW; have y3 := (cell_of hhv1 3).trans rfl; go_simp⟩) hS4 ?_
 go_frame
 refine rd1 9 rfl (fun K hK => ?_)
 go_simp
 refine (timeOk_any t _).mono ?_
 rintro e w5 ⟨rfl, hwe⟩
 have bw : Below w4.heap.size (w4) w5 := by rw [hwe]; exact Below.refl _ _
 clear hwe
 obtain ⟨ut, hut⟩ : ∃ u, u = decide ((0 : Int) ≤ t ∧ t ≤ 1000000) := ⟨_, rfl⟩
 rw [← hut]
 have hb5 := hbt hb4 bw
 have B1_5 := hblk B1_4 bw
 clear hb4 bw
 have hS5 := B1_5.out
 refine hK.out _ _ hS5 (fun _ => ?_)
 clear hK K hS4
 refine tkP 10 (.bool ut) 16 rfl rfl hS5 (tkP 11 (.bool ut) 17 rfl rfl hS5 ?_)
 go_frame
 cases ut
 ·have Hut : Hid (¬ (0 ≤ t ∧ t ≤ 1000000)) := (show ¬ (0 ≤ t ∧ t ≤ 1000000) from of_decide_eq_false hut.symm)
  clear hut
  refine tkN 12 18 rfl rfl hS5 (tkN 13 19 rfl rfl hS5 (tkN 14 20 rfl rfl hS5 ?_))
  go_frame
  refine tkN 15 21 rfl rfl hS5 (tkN 16 22 rfl rfl hS5 (tkN 17 23 rfl rfl hS5 ?_))
  go_frame
  refine tkP 18 (.bool false) 24 rfl rfl hS5 (tkP 19 (.bool false) 2 rfl rfl hS5 ?_)
  go_frame
  clear hS5
  refine wdn ?_
  go_wp2_with fail
  go_ret
  refine ⟨false, rfl, ?_, hb5⟩
  have zHur := Hur.out
  have zHut := Hut.out
  have zHB := HB0.out
  unfold BanP
  simp_all
 have Hut : Hid (0 ≤ t ∧ t ≤ 1000000) := (show 0 ≤ t ∧ t ≤ 1000000 from of_decide_eq_true hut.symm)
 clear hut
 refine tkP 12 (.iface 253 (.agg #[.string a])) 18 rfl rfl hS5 (tkP 13 (.pointer (some ⟨q1, 3, none⟩)) 19 rfl rfl hS5 ?_)
 go_frame
 refine tkL 14 (.int .i64 t) 20 rfl rfl (Or.inl ⟨by rfl, by intro W hW; have hhv1 := hW; have y3 := (cell_of hhv1 3).trans rfl; go_simp⟩) hS5 ?_
 go_frame
 refine tkL 16 (.agg #[.int .i64 1, .string a, .string b, .int .i64 t]) 22 rfl rfl (Or.inl ⟨by rfl, by intro W hW; have hhv1 := hW; have y0 := (cell_of hhv1 0).trans rfl; have y1 := (cell_of hhv1 1).trans rfl; have y2 := (cell_of hhv1 2).trans rfl; have y3 := (cell_of hhv1 3).trans rfl; go_simp⟩) hS5 ?_
 go_frame
 refine rd1 15 rfl (fun K hK => ?_)
 go_simp
 refine (banOf_1 a t _).mono ?_
 rintro e w6 ⟨rfl, bw⟩
 have hb6 := hbt hb5 bw
 have B1_6 := hblk B1_5 bw
 clear hb5 bw
 have hS6 := B1_6.out
 refine hK.out _ _ hS6 (fun _ => ?_)
 clear hK K hS5
 refine tkP 17 (.bool false) 23 rfl rfl hS6 (tkP 18 (.bool false) 24 rfl rfl hS6 (tkP 19 (.bool false) 2 rfl rfl hS6 ?_))
 go_frame
 clear hS6
 refine wdn ?_
 go_wp2_with fail
 go_ret
 refine ⟨false, rfl, ?_, hb6⟩
 have zHur := Hur.out
 have zHut := Hut.out
 have zHB := HB0.out
 unfold BanP
 simp_all
theorem implBanOk_2e (a : Tx) (t : Int) (w : World) (ha : a.size ≤ maxLen) :
  Calls Tryz.prog 153 #[.agg #[.int .i64 2, .string a, .string ⟨#[]⟩, .int .i64 t]] w fun e w' => BoolIs (BanP 2 a ⟨#[]⟩ t) w e w' := by
 classical
 have HAM := hid ha
 have hnn : ∀ W : World, (binOp .neq 232 (.iface 255 (.agg #[.string a])) .nilIface).run Tryz.prog W = .ok (.bool true) W := fun _ => by kernel_rfl
 have hna : ∀ W : World, (nilAhead 157 255 (.agg #[.string a]) "loop.example/g00239/impl.right").run Tryz.prog W = .ok (some false) W := fun _ => by kernel_rfl
 have hmt : ∀ W : World, (method 157 255 (.agg #[.string a]) "loop.example/g00239/impl.right").run Tryz.prog W = .ok (257, .agg #[.string a]) W := fun _ => by kernel_rfl
 have hgb := guardBan
 have hqe : ∀ W : World, (binOp .eql 143 (.agg #[.int .i64 2, .string a, .string ⟨#[]⟩, .int .i64 t]) (.agg #[.int .i64 2, .string a, .string ⟨#[]⟩, .int .i64 t])).run Tryz.prog W = .ok (.bool true) W := fun W => by
  rw [eqlBan]
  first | (simp; done) | (have z := HB0.out; simp; exact fun e => z e.symm)
 clear ha
 have hb0 := Below.refl w.heap.size w
 go_enter Tryz.func153, Tryz.ntmps153
 go_upto_region 1 with fail
 obtain ⟨q1, hq1⟩ := exq (w.heap.size)
 obtain ⟨w1, hW1⟩ := exq (w.alloc (.cells #[.int .i64 2, .string a, .string ⟨#[]⟩, .int .i64 t] 143))
 have hz1 := hq1.symm
 rw [← hW1]; try rw [← hq1]
 have hs1 := hsa hW1 hz1
 have bw := bal hW1
 have hb1 := hbt hb0 bw
 have B1_1 := hnew hW1 hz1
 clear hb0 bw hW1 hz1
 clear hs1 hq1
 have c1_0 := (k4c B1_1).1
 have c1_1 := (k4c B1_1).2.1
 have c1_2 := (k4c B1_1).2.2.1
 have c1_3 := (k4c B1_1).2.2.2
 go_wp2_with fail
 refine (ruleOf_2 a ⟨#[]⟩ t _).mono ?_
 rintro e w2 ⟨rfl, bw⟩
 have hb2 := hbt hb1 bw
 have B1_2 := hblk B1_1 bw
 clear hb1 bw
 clear c1_0 c1_1 c1_2 c1_3
 go_upto_region 2 with fail
 refine wp_region_held_drew (S := fun W => W.heap[q1]? = some (.cells #[.int .i64 2, .string a, .string ⟨#[]⟩, .int .i64 t] 143)) (by kernel_rfl) B1_2.out (fun _ => ?_)
 obtain ⟨w3, hX⟩ := exq w2.drew
 have bw := bdr hX
 rw [← hX]
 have hb3 := hbt hb2 bw
 have B1_3 := hblk B1_2 bw
 have hS3 := B1_3.out
 clear hb2 bw hX
 refine tkP 0 (.iface 255 (.agg #[.string a])) 6 rfl rfl hS3 (tkP 1 (.bool true) 7 rfl rfl hS3 (tkP 2 (.bool true) 8 rfl rfl hS3 ?_))
 go_frame
 refine tkP 3 (.iface 255 (.agg #[.string a])) 9 rfl rfl hS3 ?_
 go_frame
 refine rd1 4 rfl (fun K hK => ?_)
 go_simp
 refine (right_2 a _ HAM.out).mono ?_
 rintro e w4 ⟨ur, rfl, htur, bw⟩
 have hb4 := hbt hb3 bw
 have B1_4 := hblk B1_3 bw
 clear hb3 bw
 have hS4 := B1_4.out
 refine hK.out _ _ hS4 (fun _ => ?_)
 clear hK K hS3
 refine tkP 5 (.bool ur) 11 rfl rfl hS4 (tkP 6 (.bool ur) 12 rfl rfl hS4 ?_)
 go_frame
 cases ur
 ·have Hur : Hid (¬ (PathOk a)) := fun h => nomatch htur.2 h
  clear htur
  refine tkN 7 13 rfl rfl hS4 (tkN 8 14 rfl rfl hS4 (tkN 9 15 rfl rfl hS4 ?_))
  go_frame
  refine tkP 10 (.bool false) 16 rfl rfl hS4 (tkP 11 (.bool false) 17 rfl rfl hS4 (tkN 12 18 rfl rfl hS4 ?_))
  go_frame
  refine tkN 13 19 rfl rfl hS4 (tkN 14 20 rfl rfl hS4 (tkN 15 21 rfl rfl hS4 ?_))
  go_frame
  refine tkN 16 22 rfl rfl hS4 (tkN 17 23 rfl rfl hS4 (tkP 18 (.bool false) 24 rfl rfl hS4 ?_))
  go_frame
  refine tkP 19 (.bool false) 2 rfl rfl hS4 ?_
  go_frame
  clear hS4
  refine wdn ?_
  go_wp2_with fail
  go_ret
  refine ⟨false, rfl, ?_, hb4⟩
  have zHur := Hur.out
  unfold BanP
  simp_all
 have Hur : Hid (PathOk a) := htur.1 rfl
 clear htur
 refine tkP 7 (.pointer (some ⟨q1, 3, none⟩)) 13 rfl rfl hS4 ?_
 go_frame
 refine tkL 8 (.int .i64 t) 14 rfl rfl (Or.inl ⟨by rfl, by intro W hW; have hhv1 := hW; have y3 := (cell_of hhv1 3).trans rfl; go_simp⟩) hS4 ?_
 go_frame
 refine rd1 9 rfl (fun K hK => ?_)
 go_simp
 refine (timeOk_any t _).mono ?_
 rintro e w5 ⟨rfl, hwe⟩
 have bw : Below w4.heap.size (w4) w5 := by rw [hwe]; exact Below.refl _ _
 clear hwe
 obtain ⟨ut, hut⟩ : ∃ u, u = decide ((0 : Int) ≤ t ∧ t ≤ 1000000) := ⟨_, rfl⟩
 rw [← hut]
 have hb5 := hbt hb4 bw
 have B1_5 := hblk B1_4 bw
 clear hb4 bw
 have hS5 := B1_5.out
 refine hK.out _ _ hS5 (fun _ => ?_)
 clear hK K hS4
 refine tkP 10 (.bool ut) 16 rfl rfl hS5 (tkP 11 (.bool ut) 17 rfl rfl hS5 ?_)
 go_frame
 cases ut
 ·have Hut : Hid (¬ (0 ≤ t ∧ t ≤ 1000000)) := (show ¬ (0 ≤ t ∧ t ≤ 1000000) from of_decide_eq_false hut.symm)
  clear hut
  refine tkN 12 18 rfl rfl hS5 (tkN 13 19 rfl rfl hS5 (tkN 14 20 rfl rfl hS5 ?_))
  go_frame
  refine tkN 15 21 rfl rfl hS5 (tkN 16 22 rfl rfl hS5 (tkN 17 23 rfl rfl hS5 ?_))
  go_frame
  refine tkP 18 (.bool false) 24 rfl rfl hS5 (tkP 19 (.bool false) 2 rfl rfl hS5 ?_)
  go_frame
  clear hS5
  refine wdn ?_
  go_wp2_with fail
  go_ret
  refine ⟨false, rfl, ?_, hb5⟩
  have zHur := Hur.out
  have zHut := Hut.out
  unfold BanP
  simp_all
 have Hut : Hid (0 ≤ t ∧ t ≤ 1000000) := (show 0 ≤ t ∧ t ≤ 1000000 from of_decide_eq_true hut.symm)
 clear hut
 refine tkP 12 (.iface 255 (.agg #[.string a])) 18 rfl rfl hS5 (tkP 13 (.pointer (some ⟨q1, 3, none⟩)) 19 rfl rfl hS5 ?_)
 go_frame
 refine tkL 14 (.int .i64 t) 20 rfl rfl (Or.inl ⟨by rfl, by intro W hW; have hhv1 := hW; have y3 := (cell_of hhv1 3).trans rfl; go_simp⟩) hS5 ?_
 go_frame
 refine tkL 16 (.agg #[.int .i64 2, .string a, .string ⟨#[]⟩, .int .i64 t]) 22 rfl rfl (Or.inl ⟨by rfl, by intro W hW; have hhv1 := hW; have y0 := (cell_of hhv1 0).trans rfl; have y1 := (cell_of hhv1 1).trans rfl; have y2 := (cell_of hhv1 2).trans rfl; have y3 := (cell_of hhv1 3).trans rfl; go_simp⟩) hS5 ?_
 go_frame
 refine rd1 15 rfl (fun K hK => ?_)
 go_simp
 refine (banOf_2 a t _).mono ?_
 rintro e w6 ⟨rfl, bw⟩
 have hb6 := hbt hb5 bw
 have B1_6 := hblk B1_5 bw
 clear hb5 bw
 have hS6 := B1_6.out
 refine hK.out _ _ hS6 (fun _ => ?_)
 clear hK K hS5
 refine tkP 17 (.bool true) 23 rfl rfl hS6 (tkP 18 (.bool true) 24 rfl rfl hS6 (tkP 19 (.bool true) 2 rfl rfl hS6 ?_))
 go_frame
 clear hS6
 refine wdn ?_
 go_wp2_with fail
 go_ret
 refine ⟨true, rfl, ?_, hb6⟩
 have zHur := Hur.out
 have zHut := Hut.out
 unfold BanP
 simp_all
theorem implBanOk_2n (a b : Tx) (t : Int) (w : World) (ha : a.size ≤ maxLen) (hb0 : ¬ b = ⟨#[]⟩) :
  Calls Tryz.prog 153 #[.agg #[.int .i64 2, .string a, .string b, .int .i64 t]] w fun e w' => BoolIs (BanP 2 a b t) w e w' := by
 classical
 have HAM := hid ha
 have HB0 := hid hb0
 have hnn : ∀ W : World, (binOp .neq 232 (.iface 255 (.agg #[.string a])) .nilIface).run Tryz.prog W = .ok (.bool true) W := fun _ => by kernel_rfl
 have hna : ∀ W : World, (nilAhead 157 255 (.agg #[.string a]) "loop.example/g00239/impl.right").run Tryz.prog W = .ok (some false) W := fun _ => by kernel_rfl
 have hmt : ∀ W : World, (method 157 255 (.agg #[.string a]) "loop.example/g00239/impl.right").run Tryz.prog W = .ok (257, .agg #[.string a]) W := fun _ => by kernel_rfl
 have hgb := guardBan
 have hqe : ∀ W : World, (binOp .eql 143 (.agg #[.int .i64 2, .string a, .string ⟨#[]⟩, .int .i64 t]) (.agg #[.int .i64 2, .string a, .string b, .int .i64 t])).run Tryz.prog W = .ok (.bool false) W := fun W => by
  rw [eqlBan]
  first | (simp; done) | (have z := HB0.out; simp; exact fun e => z e.symm)
 clear ha hb0
 have hb0 := Below.refl w.heap.size w
 go_enter Tryz.func153, Tryz.ntmps153
 go_upto_region 1 with fail
 obtain ⟨q1, hq1⟩ := exq (w.heap.size)
 obtain ⟨w1, hW1⟩ := exq (w.alloc (.cells #[.int .i64 2, .string a, .string b, .int .i64 t] 143))
 have hz1 := hq1.symm
 rw [← hW1]; try rw [← hq1]
 have hs1 := hsa hW1 hz1
 have bw := bal hW1
 have hb1 := hbt hb0 bw
 have B1_1 := hnew hW1 hz1
 clear hb0 bw hW1 hz1
 clear hs1 hq1
 have c1_0 := (k4c B1_1).1
 have c1_1 := (k4c B1_1).2.1
 have c1_2 := (k4c B1_1).2.2.1
 have c1_3 := (k4c B1_1).2.2.2
 go_wp2_with fail
 refine (ruleOf_2 a b t _).mono ?_
 rintro e w2 ⟨rfl, bw⟩
 have hb2 := hbt hb1 bw
 have B1_2 := hblk B1_1 bw
 clear hb1 bw
 clear c1_0 c1_1 c1_2 c1_3
 go_upto_region 2 with fail
 refine wp_region_held_drew (S := fun W => W.heap[q1]? = some (.cells #[.int .i64 2, .string a, .string b, .int .i64 t] 143)) (by kernel_rfl) B1_2.out (fun _ => ?_)
 obtain ⟨w3, hX⟩ := exq w2.drew
 have bw := bdr hX
 rw [← hX]
 have hb3 := hbt hb2 bw
 have B1_3 := hblk B1_2 bw
 have hS3 := B1_3.out
 clear hb2 bw hX
 refine tkP 0 (.iface 255 (.agg #[.string a])) 6 rfl rfl hS3 (tkP 1 (.bool true) 7 rfl rfl hS3 (tkP 2 (.bool true) 8 rfl rfl hS3 ?_))
 go_frame
 refine tkP 3 (.iface 255 (.agg #[.string a])) 9 rfl rfl hS3 ?_
 go_frame
 refine rd1 4 rfl (fun K hK => ?_)
 go_simp
 refine (right_2 a _ HAM.out).mono ?_
 rintro e w4 ⟨ur, rfl, htur, bw⟩
 have hb4 := hbt hb3 bw
 have B1_4 := hblk B1_3 bw
 clear hb3 bw
 have hS4 := B1_4.out
 refine hK.out _ _ hS4 (fun _ => ?_)
 clear hK K hS3
 refine tkP 5 (.bool ur) 11 rfl rfl hS4 (tkP 6 (.bool ur) 12 rfl rfl hS4 ?_)
 go_frame
 cases ur
 ·have Hur : Hid (¬ (PathOk a)) := fun h => nomatch htur.2 h
  clear htur
  refine tkN 7 13 rfl rfl hS4 (tkN 8 14 rfl rfl hS4 (tkN 9 15 rfl rfl hS4 ?_))
  go_frame
  refine tkP 10 (.bool false) 16 rfl rfl hS4 (tkP 11 (.bool false) 17 rfl rfl hS4 (tkN 12 18 rfl rfl hS4 ?_))
  go_frame
  refine tkN 13 19 rfl rfl hS4 (tkN 14 20 rfl rfl hS4 (tkN 15 21 rfl rfl hS4 ?_))
  go_frame
  refine tkN 16 22 rfl rfl hS4 (tkN 17 23 rfl rfl hS4 (tkP 18 (.bool false) 24 rfl rfl hS4 ?_))
  go_frame
  refine tkP 19 (.bool false) 2 rfl rfl hS4 ?_
  go_frame
  clear hS4
  refine wdn ?_
  go_wp2_with fail
  go_ret
  refine ⟨false, rfl, ?_, hb4⟩
  have zHur := Hur.out
  have zHB := HB0.out
  unfold BanP
  simp_all
 have Hur : Hid (PathOk a) := htur.1 rfl
 clear htur
 refine tkP 7 (.pointer (some ⟨q1, 3, none⟩)) 13 rfl rfl hS4 ?_
 go_frame
 refine tkL 8 (.int .i64 t) 14 rfl rfl (Or.inl ⟨by rfl, by intro W hW; have hhv1 := hW; have y3 := (cell_of hhv1 3).trans rfl; go_simp⟩) hS4 ?_
 go_frame
 refine rd1 9 rfl (fun K hK => ?_)
 go_simp
 refine (timeOk_any t _).mono ?_
 rintro e w5 ⟨rfl, hwe⟩
 have bw : Below w4.heap.size (w4) w5 := by rw [hwe]; exact Below.refl _ _
 clear hwe
 obtain ⟨ut, hut⟩ : ∃ u, u = decide ((0 : Int) ≤ t ∧ t ≤ 1000000) := ⟨_, rfl⟩
 rw [← hut]
 have hb5 := hbt hb4 bw
 have B1_5 := hblk B1_4 bw
 clear hb4 bw
 have hS5 := B1_5.out
 refine hK.out _ _ hS5 (fun _ => ?_)
 clear hK K hS4
 refine tkP 10 (.bool ut) 16 rfl rfl hS5 (tkP 11 (.bool ut) 17 rfl rfl hS5 ?_)
 go_frame
 cases ut
 ·have Hut : Hid (¬ (0 ≤ t ∧ t ≤ 1000000)) := (show ¬ (0 ≤ t ∧ t ≤ 1000000) from of_decide_eq_false hut.symm)
  clear hut
  refine tkN 12 18 rfl rfl hS5 (tkN 13 19 rfl rfl hS5 (tkN 14 20 rfl rfl hS5 ?_))
  go_frame
  refine tkN 15 21 rfl rfl hS5 (tkN 16 22 rfl rfl hS5 (tkN 17 23 rfl rfl hS5 ?_))
  go_frame
  refine tkP 18 (.bool false) 24 rfl rfl hS5 (tkP 19 (.bool false) 2 rfl rfl hS5 ?_)
  go_frame
  clear hS5
  refine wdn ?_
  go_wp2_with fail
  go_ret
  refine ⟨false, rfl, ?_, hb5⟩
  have zHur := Hur.out
  have zHut := Hut.out
  have zHB := HB0.out
  unfold BanP
  simp_all
 have Hut : Hid (0 ≤ t ∧ t ≤ 1000000) := (show 0 ≤ t ∧ t ≤ 1000000 from of_decide_eq_true hut.symm)
 clear hut
 refine tkP 12 (.iface 255 (.agg #[.string a])) 18 rfl rfl hS5 (tkP 13 (.pointer (some ⟨q1, 3, none⟩)) 19 rfl rfl hS5 ?_)
 go_frame
 refine tkL 14 (.int .i64 t) 20 rfl rfl (Or.inl ⟨by rfl, by intro W hW; have hhv1 := hW; have y3 := (cell_of hhv1 3).trans rfl; go_simp⟩) hS5 ?_
 go_frame
 refine tkL 16 (.agg #[.int .i64 2, .string a, .string b, .int .i64 t]) 22 rfl rfl (Or.inl ⟨by rfl, by intro W hW; have hhv1 := hW; have y0 := (cell_of hhv1 0).trans rfl; have y1 := (cell_of hhv1 1).trans rfl; have y2 := (cell_of hhv1 2).trans rfl; have y3 := (cell_of hhv1 3).trans rfl; go_simp⟩) hS5 ?_
 go_frame
 refine rd1 15 rfl (fun K hK => ?_)
 go_simp
 refine (banOf_2 a t _).mono ?_
 rintro e w6 ⟨rfl, bw⟩
 have hb6 := hbt hb5 bw
 have B1_6 := hblk B1_5 bw
 clear hb5 bw
 have hS6 := B1_6.out
 refine hK.out _ _ hS6 (fun _ => ?_)
 clear hK K hS5
 refine tkP 17 (.bool false) 23 rfl rfl hS6 (tkP 18 (.bool false) 24 rfl rfl hS6 (tkP 19 (.bool false) 2 rfl rfl hS6 ?_))
 go_frame
 clear hS6
 refine wdn ?_
 go_wp2_with fail
 go_ret
 refine ⟨false, rfl, ?_, hb6⟩
 have zHur := Hur.out
 have zHut := Hut.out
 have zHB := HB0.out
 unfold BanP
 simp_all
theorem implBanOk_3 (a b : Tx) (t : Int) (w : World) (ha : a.size ≤ maxLen) (hb : b.size ≤ maxLen) :
  Calls Tryz.prog 153 #[.agg #[.int .i64 3, .string a, .string b, .int .i64 t]] w fun e w' => BoolIs (BanP 3 a b t) w e w' := by
 classical
 have HAM := hid ha
 have HBM := hid hb
 have hnn : ∀ W : World, (binOp .neq 232 (.iface 257 (.agg #[.string a, .string b])) .nilIface).run Tryz.prog W = .ok (.bool true) W := fun _ => by kernel_rfl
 have hna : ∀ W : World, (nilAhead 157 257 (.agg #[.string a, .string b]) "loop.example/g00239/impl.right").run Tryz.prog W = .ok (some false) W := fun _ => by kernel_rfl
 have hmt : ∀ W : World, (method 157 257 (.agg #[.string a, .string b]) "loop.example/g00239/impl.right").run Tryz.prog W = .ok (259, .agg #[.string a, .string b]) W := fun _ => by kernel_rfl
 have hgb := guardBan
 have hqe : ∀ W : World, (binOp .eql 143 (.agg #[.int .i64 3, .string a, .string b, .int .i64 t]) (.agg #[.int .i64 3, .string a, .string b, .int .i64 t])).run Tryz.prog W = .ok (.bool true) W := fun W => by
  rw [eqlBan]
  first | (simp; done) | (have z := HB0.out; simp; exact fun e => z e.symm)
 clear ha hb
 have hb0 := Below.refl w.heap.size w
 go_enter Tryz.func153, Tryz.ntmps153
 go_upto_region 1 with fail
 obtain ⟨q1, hq1⟩ := exq (w.heap.size)
 obtain ⟨w1, hW1⟩ := exq (w.alloc (.cells #[.int .i64 3, .string a, .string b, .int .i64 t] 143))
 have hz1 := hq1.symm
 rw [← hW1]; try rw [← hq1]
 have hs1 := hsa hW1 hz1
 have bw := bal hW1
 have hb1 := hbt hb0 bw
 have B1_1 := hnew hW1 hz1
 clear hb0 bw hW1 hz1
 clear hs1 hq1
 have c1_0 := (k4c B1_1).1
 have c1_1 := (k4c B1_1).2.1
 have c1_2 := (k4c B1_1).2.2.1
 have c1_3 := (k4c B1_1).2.2.2
 go_wp2_with fail
 refine (ruleOf_3 a b t _).mono ?_
 rintro e w2 ⟨rfl, bw⟩
 have hb2 := hbt hb1 bw
 have B1_2 := hblk B1_1 bw
 clear hb1 bw
 clear c1_0 c1_1 c1_2 c1_3
 go_upto_region 2 with fail
 refine wp_region_held_drew (S := fun W => W.heap[q1]? = some (.cells #[.int .i64 3, .string a, .string b, .int .i64 t] 143)) (by kernel_rfl) B1_2.out (fun _ => ?_)
 obtain ⟨w3, hX⟩ := exq w2.drew
 have bw := bdr hX
 rw [← hX]
 have hb3 := hbt hb2 bw
 have B1_3 := hblk B1_2 bw
 have hS3 := B1_3.out
 clear hb2 bw hX
 refine tkP 0 (.iface 257 (.agg #[.string a, .string b])) 6 rfl rfl hS3 (tkP 1 (.bool true) 7 rfl rfl hS3 (tkP 2 (.bool true) 8 rfl rfl hS3 ?_))
 go_frame
 refine tkP 3 (.iface 257 (.agg #[.string a, .string b])) 9 rfl rfl hS3 ?_
 go_frame
 refine rd1 4 rfl (fun K hK => ?_)
 go_simp
 refine (right_3 a b _ HAM.out HBM.out).mono ?_
 rintro e w4 ⟨ur, rfl, htur, bw⟩
 have hb4 := hbt hb3 bw
 have B1_4 := hblk B1_3 bw
 clear hb3 bw
 have hS4 := B1_4.out
 refine hK.out _ _ hS4 (fun _ => ?_)
 clear hK K hS3
 refine tkP 5 (.bool ur) 11 rfl rfl hS4 (tkP 6 (.bool ur) 12 rfl rfl hS4 ?_)
 go_frame
 cases ur
 ·have Hur : Hid (¬ (TokOk a ∧ ValOk b)) := fun h => nomatch htur.2 h
  clear htur
  refine tkN 7 13 rfl rfl hS4 (tkN 8 14 rfl rfl hS4 (tkN 9 15 rfl rfl hS4 ?_))
  go_frame
  refine tkP 10 (.bool false) 16 rfl rfl hS4 (tkP 11 (.bool false) 17 rfl rfl hS4 (tkN 12 18 rfl rfl hS4 ?_))
  go_frame
  refine tkN 13 19 rfl rfl hS4 (tkN 14 20 rfl rfl hS4 (tkN 15 21 rfl rfl hS4 ?_))
  go_frame
  refine tkN 16 22 rfl rfl hS4 (tkN 17 23 rfl rfl hS4 (tkP 18 (.bool false) 24 rfl rfl hS4 ?_))
  go_frame
  refine tkP 19 (.bool false) 2 rfl rfl hS4 ?_
  go_frame
  clear hS4
  refine wdn ?_
  go_wp2_with fail
  go_ret
  refine ⟨false, rfl, ?_, hb4⟩
  have zHur := Hur.out
  unfold BanP
  simp_all
 have Hur : Hid (TokOk a ∧ ValOk b) := htur.1 rfl
 clear htur
 refine tkP 7 (.pointer (some ⟨q1, 3, none⟩)) 13 rfl rfl hS4 ?_
 go_frame
 refine tkL 8 (.int .i64 t) 14 rfl rfl (Or.inl ⟨by rfl, by intro W hW; have hhv1 := hW; have y3 := (cell_of hhv1 3).trans rfl; go_simp⟩) hS4 ?_
 go_frame
 refine rd1 9 rfl (fun K hK => ?_)
 go_simp
 refine (timeOk_any t _).mono ?_
 rintro e w5 ⟨rfl, hwe⟩
 have bw : Below w4.heap.size (w4) w5 := by rw [hwe]; exact Below.refl _ _
 clear hwe
 obtain ⟨ut, hut⟩ : ∃ u, u = decide ((0 : Int) ≤ t ∧ t ≤ 1000000) := ⟨_, rfl⟩
 rw [← hut]
 have hb5 := hbt hb4 bw
 have B1_5 := hblk B1_4 bw
 clear hb4 bw
 have hS5 := B1_5.out
 refine hK.out _ _ hS5 (fun _ => ?_)
 clear hK K hS4
 refine tkP 10 (.bool ut) 16 rfl rfl hS5 (tkP 11 (.bool ut) 17 rfl rfl hS5 ?_)
 go_frame
 cases ut
 ·have Hut : Hid (¬ (0 ≤ t ∧ t ≤ 1000000)) := (show ¬ (0 ≤ t ∧ t ≤ 1000000) from of_decide_eq_false hut.symm)
  clear hut
  refine tkN 12 18 rfl rfl hS5 (tkN 13 19 rfl rfl hS5 (tkN 14 20 rfl rfl hS5 ?_))
  go_frame
  refine tkN 15 21 rfl rfl hS5 (tkN 16 22 rfl rfl hS5 (tkN 17 23 rfl rfl hS5 ?_))
  go_frame
  refine tkP 18 (.bool false) 24 rfl rfl hS5 (tkP 19 (.bool false) 2 rfl rfl hS5 ?_)
  go_frame
  clear hS5
  refine wdn ?_
  go_wp2_with fail
  go_ret
  refine ⟨false, rfl, ?_, hb5⟩
  have zHur := Hur.out
  have zHut := Hut.out
  unfold BanP
  simp_all
 have Hut : Hid (0 ≤ t ∧ t ≤ 1000000) := (show 0 ≤ t ∧ t ≤ 1000000 from of_decide_eq_true hut.symm)
 clear hut
 refine tkP 12 (.iface 257 (.agg #[.string a, .string b])) 18 rfl rfl hS5 (tkP 13 (.pointer (some ⟨q1, 3, none⟩)) 19 rfl rfl hS5 ?_)
 go_frame
 refine tkL 14 (.int .i64 t) 20 rfl rfl (Or.inl ⟨by rfl, by intro W hW; have hhv1 := hW; have y3 := (cell_of hhv1 3).trans rfl; go_simp⟩) hS5 ?_
 go_frame
 refine tkL 16 (.agg #[.int .i64 3, .string a, .string b, .int .i64 t]) 22 rfl rfl (Or.inl ⟨by rfl, by intro W hW; have hhv1 := hW; have y0 := (cell_of hhv1 0).trans rfl; have y1 := (cell_of hhv1 1).trans rfl; have y2 := (cell_of hhv1 2).trans rfl; have y3 := (cell_of hhv1 3).trans rfl; go_simp⟩) hS5 ?_
 go_frame
 refine rd1 15 rfl (fun K hK => ?_)
 go_simp
 refine (banOf_3 a b t _).mono ?_
 rintro e w6 ⟨rfl, bw⟩
 have hb6 := hbt hb5 bw
 have B1_6 := hblk B1_5 bw
 clear hb5 bw
 have hS6 := B1_6.out
 refine hK.out _ _ hS6 (fun _ => ?_)
 clear hK K hS5
 refine tkP 17 (.bool true) 23 rfl rfl hS6 (tkP 18 (.bool true) 24 rfl rfl hS6 (tkP 19 (.bool true) 2 rfl rfl hS6 ?_))
 go_frame
 clear hS6
 refine wdn ?_
 go_wp2_with fail
 go_ret
 refine ⟨true, rfl, ?_, hb6⟩
 have zHur := Hur.out
 have zHut := Hut.out
 unfold BanP
 simp_all
theorem implBanOk_no (k : Int) (a b : Tx) (t : Int) (w : World) (h1 : ¬ k = 1) (h2 : ¬ k = 2) (h3 : ¬ k = 3) :
  Calls Tryz.prog 153 #[.agg #[.int .i64 k, .string a, .string b, .int .i64 t]] w fun e w' => BoolIs (BanP k a b t) w e w' := by
 have HK1 : Hid (¬ k = 1) := h1
 have HK2 : Hid (¬ k = 2) := h2
 have HK3 : Hid (¬ k = 3) := h3
 have hnn : ∀ W : World, (binOp .neq 232 .nilIface .nilIface).run Tryz.prog W = .ok (.bool false) W := fun _ => by kernel_rfl
 clear h1 h2 h3
 have hb0 := Below.refl w.heap.size w
 go_enter Tryz.func153, Tryz.ntmps153
 go_upto_region 1 with fail
 obtain ⟨q1, hq1⟩ := exq (w.heap.size)
 obtain ⟨w1, hW1⟩ := exq (w.alloc (.cells #[.int .i64 k, .string a, .string b, .int .i64 t] 143))
 have hz1 := hq1.symm
 rw [← hW1]; try rw [← hq1]
 have hs1 := hsa hW1 hz1
 have bw := bal hW1
 have hb1 := hbt hb0 bw
 have B1_1 := hnew hW1 hz1
 clear hb0 bw hW1 hz1
 clear hs1 hq1
 have c1_0 := (k4c B1_1).1
 have c1_1 := (k4c B1_1).2.1
 have c1_2 := (k4c B1_1).2.2.1
 have c1_3 := (k4c B1_1).2.2.2
 go_wp2_with fail
 refine (ruleOf_no k a b t _ HK1.out HK2.out HK3.out).mono ?_
 rintro e w2 ⟨rfl, bw⟩
 have hb2 := hbt hb1 bw
 have B1_2 := hblk B1_1 bw
 clear hb1 bw
 clear c1_0 c1_1 c1_2 c1_3
 go_upto_region 2 with fail
 refine wp_region_held_drew (S := fun W => W.heap[q1]? = some (.cells #[.int .i64 k, .string a, .string b, .int .i64 t] 143)) (by kernel_rfl) B1_2.out (fun _ => ?_)
 obtain ⟨w3, hX⟩ := exq w2.drew
 have bw := bdr hX
 rw [← hX]
 have hb3 := hbt hb2 bw
 have B1_3 := hblk B1_2 bw
 have hS3 := B1_3.out
 clear hb2 bw hX
 refine tkP 0 (.nilIface) 6 rfl rfl hS3 (tkP 1 (.bool false) 7 rfl rfl hS3 (tkP 2 (.bool false) 8 rfl rfl hS3 ?_))
 go_frame
 refine tkN 3 9 rfl rfl hS3 (tkN 4 10 rfl rfl hS3 (tkP 5 (.bool false) 11 rfl rfl hS3 ?_))
 go_frame
 refine tkP 6 (.bool false) 12 rfl rfl hS3 (tkN 7 13 rfl rfl hS3 (tkN 8 14 rfl rfl hS3 ?_))
 go_frame
 refine tkN 9 15 rfl rfl hS3 (tkP 10 (.bool false) 16 rfl rfl hS3 (tkP 11 (.bool false) 17 rfl rfl hS3 ?_))
 go_frame
 refine tkN 12 18 rfl rfl hS3 (tkN 13 19 rfl rfl hS3 (tkN 14 20 rfl rfl hS3 ?_))
 go_frame
 refine tkN 15 21 rfl rfl hS3 (tkN 16 22 rfl rfl hS3 (tkN 17 23 rfl rfl hS3 ?_))
 go_frame
 refine tkP 18 (.bool false) 24 rfl rfl hS3 (tkP 19 (.bool false) 2 rfl rfl hS3 ?_)
 go_frame
 clear hS3
 refine wdn ?_
 go_wp2_with fail
 go_ret
 refine BoolIs.no ?_ hb3
 intro h
 rcases h.kinds with h | h | h
 · exact HK1.out h
 · exact HK2.out h
 · exact HK3.out h
theorem implBanOk_any (k : Int) (a b : Tx) (t : Int) (w : World) (ha : a.size ≤ maxLen) (hb : b.size ≤ maxLen) :
  Calls Tryz.prog 153 #[.agg #[.int .i64 k, .string a, .string b, .int .i64 t]] w fun e w' => BoolIs (BanP k a b t) w e w' := by
 classical
 by_cases h1 : k = 1
 ·subst h1
  by_cases h : b = ⟨#[]⟩
  rotate_left
  · exact implBanOk_1n a b t w ha h
  subst h; exact implBanOk_1e a t w ha
 by_cases h2 : k = 2
 rotate_left
 ·by_cases h3 : k = 3
  rotate_left
  · exact implBanOk_no k a b t w h1 h2 h3
  subst h3; exact implBanOk_3 a b t w ha hb
 subst h2
 by_cases h : b = ⟨#[]⟩
 rotate_left
 · exact implBanOk_2n a b t w ha h
 subst h; exact implBanOk_2e a t w ha
theorem implObjOk_k (k : KpD) (v1 v2 v3 : Value) (w : World) (h : KpRead w k v1 v2 v3) (hs : KpSmall k) :
  Calls Tryz.prog 151 #[.agg #[.string k.p, v1, v2, .int .i64 k.st, v3, .string k.b, .int .i64 k.t]] w fun e w' => BoolIs (ObjK k) w e w' := by
 obtain ⟨B, h⟩ := h
 have ho : ObjO w B v1 k.xs.length k.xs v2 k.ys.length k.ys v3 k.fs.length k.fs := rows_objO h
 obtain ⟨o1, c1, rfl⟩ := slice_of_owns ho.names
 obtain ⟨o2, c2, rfl⟩ := slice_of_owns ho.vals
 exact implObjOk_any k.p o1 _ c1 k.xs o2 _ c2 k.ys k.st v3 _ B k.fs k.b k.t w (texts_view ho.names) (texts_view ho.vals) (FieldsV.of_owns ho.flds) (by have := hs.2.1.1; omega) (by have := hs.2.2.1.1; omega) (by have := hs.2.2.2.1; omega) (small_text hs.2.1.2) (small_text hs.2.2.1.2) (small_walk hs) (small_copy hs) (by have := hs.1.1; unfold maxLen; omega) (by have := hs.1.2; unfold maxLen; omega) (small_get hs _)
def plusI (a b : Int) : Int := min (min (max a 0) 1000000 + min (max b 0) 1000000) 1000000
def sinceI (t now : Int) : Int := if now ≤ t then 0 else min (now - t) 1000000
def ageName : ByteArray := ⟨#[97, 103, 101]⟩
open Classical in
noncomputable def ageN (fs : Fs) : Int := if getB fs ageName = true ∧ ¬ NumOk (getV fs ageName) then 1000000 else numV (getV fs ageName)
noncomputable def ageAt (fs : Fs) (t now : Int) : Int := plusI (ageN fs) (sinceI t now)
noncomputable def lifeOf (fs : Fs) : Int := (ccR (getV fs ccName)).age
noncomputable def freshOf (fs : Fs) (t now : Int) : Bool := decide (ageAt fs t now < lifeOf fs) && !(ccR (getV fs ccName)).nc
theorem plusI_in (a b : Int) : 0 ≤ plusI a b ∧ plusI a b ≤ 1000000 := by unfold plusI; omega
theorem ageAt_in (fs : Fs) (t now : Int) : 0 ≤ ageAt fs t now ∧ ageAt fs t now ≤ 1000000 := plusI_in _ _
theorem specPlus_any (a b : Int) (w : World) :
  Calls Tryz.prog 121 #[.int .i64 a, .int .i64 b] w fun e w' => e = .returned (.int .i64 (plusI a b)) ∧ w' = w := by
 have u1 : 0 ≤ min (max a 0) 1000000 ∧ min (max a 0) 1000000 ≤ 1000000 := by omega
 have u2 : 0 ≤ min (max b 0) 1000000 ∧ min (max b 0) 1000000 ≤ 1000000 := by omega
 have HP : Hid (plusI a b = min (min (max a 0) 1000000 + min (max b 0) 1000000) 1000000) := rfl
 obtain ⟨x, hx⟩ := exq (min (max a 0) 1000000)
 obtain ⟨y, hy⟩ := exq (min (max b 0) 1000000)
 rw [← hx, ← hy] at HP
 rw [← hx] at u1
 rw [← hy] at u2
 have HX : Hid (min (max a 0) 1000000 = x) := hx.symm
 have HY : Hid (min (max b 0) 1000000 = y) := hy.symm
 clear hx hy
 go_enter Tryz.func121, Tryz.ntmps121
 go_wp2_with fail
 refine (l1Max_any _ _ _).mono ?_
 rintro e w1 ⟨rfl, rfl⟩
 go_wp2_with fail
 refine (l1Min_any _ _ _).mono ?_
 rintro e w2 ⟨rfl, rfl⟩
 rw [HX.out]
 go_wp2_with fail
 refine (l1Max_any _ _ _).mono ?_
 rintro e w3 ⟨rfl, rfl⟩
 go_wp2_with fail
 refine (l1Min_any _ _ _).mono ?_
 rintro e w4 ⟨rfl, rfl⟩
 rw [HY.out]
 go_wp2_with fail
 refine (l1Min_any _ _ _).mono ?_
 rintro e w5 ⟨rfl, rfl⟩
 go_wp2_with fail
 go_ret
 exact ⟨by rw [HP.out]; rfl, rfl⟩
theorem l7Since_any (t now : Int) (w : World) (h0 : -9223372036854775808 ≤ t) (h1 : now ≤ 9223372036854775807) :
  Calls Tryz.prog 122 #[.int .i64 t, .int .i64 now] w fun e w' => e = .returned (.int .i64 (sinceI t now)) ∧ w' = w := by
 by_cases hle : now ≤ t
 ·have HE : Hid (sinceI t now = 0) := by show _ = _; unfold sinceI; rw [if_pos hle]
  go_enter Tryz.func122, Tryz.ntmps122
  go_wp2_with fail
  go_ret
  exact ⟨by rw [HE.out]; rfl, rfl⟩
 by_cases ht : t < 0
 rotate_left
 ·have u2 : -9223372036854775808 ≤ now - t ∧ now - t ≤ 9223372036854775807 := by omega
  have HE : Hid (sinceI t now = min (now - t) 1000000) := by show _ = _; unfold sinceI; rw [if_neg hle]
  go_enter Tryz.func122, Tryz.ntmps122
  go_wp2_with fail
  refine (l1Min_any _ _ _).mono ?_
  rintro e w1 ⟨rfl, rfl⟩
  go_wp2_with fail
  go_ret
  exact ⟨by rw [HE.out]; rfl, rfl⟩
 have u1 : -9223372036854775808 ≤ t + 1000000 ∧ t + 1000000 ≤ 9223372036854775807 := by omega
 by_cases hn : t + 1000000 < now
 ·have HE : Hid (sinceI t now = 1000000) := by show _ = _; unfold sinceI; rw [if_neg hle]; omega
  go_enter Tryz.func122, Tryz.ntmps122
  go_wp2_with fail
  go_ret
  exact ⟨by rw [HE.out]; rfl, rfl⟩
 have u2 : -9223372036854775808 ≤ now - t ∧ now - t ≤ 9223372036854775807 := by omega
 have HE : Hid (sinceI t now = min (now - t) 1000000) := by show _ = _; unfold sinceI; rw [if_neg hle]
 go_enter Tryz.func122, Tryz.ntmps122
 go_wp2_with fail
 refine (l1Min_any _ _ _).mono ?_
 rintro e w1 ⟨rfl, rfl⟩
 go_wp2_with fail
 go_ret
 exact ⟨by rw [HE.out]; rfl, rfl⟩
theorem specAgeAt_any (v : Value) (n base : Nat) (fs : Fs) (t now : Int) (w : World) (hv : FieldsV w base v n fs) (hn : n ≤ 1073741824) (hsz : (getV fs ageName).size ≤ maxLen) (h0 : -9223372036854775808 ≤ t) (h1 : now ≤ 9223372036854775807) :
  Calls Tryz.prog 77 #[v, .int .i64 t, .int .i64 now] w fun e w' => e = .returned (.int .i64 (ageAt fs t now)) ∧ Below w.heap.size w w' := by
 obtain ⟨s, hs⟩ := exq (getV fs ageName)
 obtain ⟨th, hth⟩ := exq (getB fs ageName)
 have HS : Hid (getV fs ageName = s) := hs.symm
 have HT : Hid (getB fs ageName = th) := hth.symm
 rw [← hs] at hsz
 clear hs hth
 go_enter Tryz.func77, Tryz.ntmps77
 go_wp2_with fail
 refine (specGet_any v n base fs ageName _ hv hn).mono ?_
 rintro e w1 ⟨rfl, rfl⟩
 rw [HS.out, HT.out]
 clear hv
 go_wp2_with fail
 refine (specNumRead_any s _ hsz).mono ?_
 rintro e w2 ⟨b, x, rfl, hb1, hb2, hb3, b2⟩
 have HB : Hid (Below w1.heap.size w1 w2) := b2
 have HX : Hid (numV s = x) := by
  show _ = _
  unfold numV
  cases b with
  | true => rw [if_pos (hb1.1 rfl), hb2 rfl]
  | false => rw [if_neg (fun h => nomatch hb1.2 h), hb3 rfl]
 have HA : Hid (ageN fs = if th = true ∧ b = false then 1000000 else x) := by
  show _ = _
  unfold ageN
  rw [HS.out, HT.out, HX.out]
  cases b with
  | true => rw [if_neg (fun h => h.2 (hb1.1 rfl)), if_neg (fun h => nomatch h.2)]
  | false =>
   by_cases hth : th = true
   · rw [if_pos ⟨hth, fun h => nomatch hb1.2 h⟩, if_pos ⟨hth, rfl⟩]
   · rw [if_neg (fun h => hth h.1), if_neg (fun h => hth h.1)]
 clear hb1 hb2 hb3 b2
 cases th with
 | true =>
  cases b with
  | true =>
   have HE : Hid (ageAt fs t now = plusI x (sinceI t now)) := by show _ = _; unfold ageAt; rw [HA.out, if_neg (fun h => nomatch h.2)]
   go_wp2_with fail
   refine (l7Since_any t now _ h0 h1).mono ?_
   rintro e w3 ⟨rfl, rfl⟩
   go_wp2_with fail
   refine (specPlus_any _ _ _).mono ?_
   rintro e w4 ⟨rfl, rfl⟩
   go_wp2_with fail
   go_ret
   exact ⟨by rw [HE.out]; rfl, HB.out⟩
  | false =>
   have HE : Hid (ageAt fs t now = plusI 1000000 (sinceI t now)) := by show _ = _; unfold ageAt; rw [HA.out, if_pos ⟨rfl, rfl⟩]
   go_wp2_with fail
   refine (l7Since_any t now _ h0 h1).mono ?_
   rintro e w3 ⟨rfl, rfl⟩
   go_wp2_with fail
   refine (specPlus_any _ _ _).mono ?_
   rintro e w4 ⟨rfl, rfl⟩
   go_wp2_with fail
   go_ret
   exact ⟨by rw [HE.out]; rfl, HB.out⟩
 | false =>
  have HE : Hid (ageAt fs t now = plusI x (sinceI t now)) := by show _ = _; unfold ageAt; rw [HA.out, if_neg (fun h => nomatch h.1)]
  go_wp2_with fail
  refine (l7Since_any t now _ h0 h1).mono ?_
  rintro e w3 ⟨rfl, rfl⟩
  go_wp2_with fail
  refine (specPlus_any _ _ _).mono ?_
  rintro e w4 ⟨rfl, rfl⟩
  go_wp2_with fail
  go_ret
  exact ⟨by rw [HE.out]; rfl, HB.out⟩
theorem cc_age (c0 c1 c2 c3 c4 : Bool) (c5 : Int) (W : World) : (Instr.field 106 (.agg #[.bool c0, .bool c1, .bool c2, .bool c3, .bool c4, .int .i64 c5]) 5).run Tryz.prog W = .ok (.int .i64 c5) W := by
 first | kernel_rfl | rfl | simp [Instr.field, go_sem]
theorem cc_nc (c0 c1 c2 c3 c4 : Bool) (c5 : Int) (W : World) : (Instr.field 106 (.agg #[.bool c0, .bool c1, .bool c2, .bool c3, .bool c4, .int .i64 c5]) 1).run Tryz.prog W = .ok (.bool c1) W := by
 first | kernel_rfl | rfl | simp [Instr.field, go_sem]
theorem specLife_any (v : Value) (n base : Nat) (fs : Fs) (w : World) (hv : FieldsV w base v n fs) (hn : n ≤ 1073741824) (hsz : (getV fs ccName).size ≤ 1048576) :
  Calls Tryz.prog 78 #[v] w fun e w' => e = .returned (.int .i64 (lifeOf fs)) ∧ Below w.heap.size w w' := by
 have HE : Hid (lifeOf fs = (ccR (getV fs ccName)).age) := rfl
 go_enter Tryz.func78, Tryz.ntmps78
 go_wp2_with fail
 refine (specCcOf_any v n base fs _ hv hn hsz).mono ?_
 rintro e w1 ⟨rfl, b1⟩
 obtain ⟨c, hc⟩ := exq (ccR (getV fs ccName))
 rw [← hc] at HE ⊢
 clear hc hv
 obtain ⟨c0, c1, c2, c3, c4, c5⟩ := c
 rw [show (⟨c0, c1, c2, c3, c4, c5⟩ : CcD).v = .agg #[.bool c0, .bool c1, .bool c2, .bool c3, .bool c4, .int .i64 c5] from rfl]
 have hf := cc_age c0 c1 c2 c3 c4 c5
 go_wp2_with fail
 go_ret
 exact ⟨by rw [HE.out]; rfl, b1⟩
theorem specFresh_any (v : Value) (n base : Nat) (fs : Fs) (t now : Int) (w : World) (hv : FieldsV w base v n fs) (hn : n ≤ 1073741824) (hsz : (getV fs ageName).size ≤ maxLen) (hsz2 : (getV fs ccName).size ≤ 1048576) (h0 : -9223372036854775808 ≤ t) (h1 : now ≤ 9223372036854775807) :
  Calls Tryz.prog 37 #[v, .int .i64 t, .int .i64 now] w fun e w' => e = .returned (.bool (freshOf fs t now)) ∧ Below w.heap.size w w' := by
 have HV : Hid (∀ W, Below w.heap.size w W → FieldsV W base v n fs) := fun W h => hv.below h
 obtain ⟨x, hx⟩ := exq (ageAt fs t now)
 obtain ⟨y, hy⟩ := exq (lifeOf fs)
 obtain ⟨c, hc⟩ := exq (ccR (getV fs ccName))
 obtain ⟨r, hr⟩ := exq (freshOf fs t now)
 have HR : Hid (r = (decide (x < y) && !c.nc)) := by show _ = _; rw [hr, hx, hy, hc]; rfl
 have HX : Hid (ageAt fs t now = x) := hx.symm
 have HY : Hid (lifeOf fs = y) := hy.symm
 have HC : Hid (ccR (getV fs ccName) = c) := hc.symm
 rw [← hr]
 clear hx hy hc hr
 obtain ⟨c0, c1, c2, c3, c4, c5⟩ := c
 have hf := cc_nc c0 c1 c2 c3 c4 c5
 go_enter Tryz.func37, Tryz.ntmps37
 go_wp2_with fail
 refine (specAgeAt_any v n base fs t now _ hv hn hsz h0 h1).mono ?_
 rintro e w1 ⟨rfl, b1⟩
 rw [HX.out]
 have HB1 : Hid (Below w.heap.size w w1) := b1
 clear b1 hv
 go_wp2_with fail
 refine (specLife_any v n base fs _ (HV.out _ HB1.out) hn hsz2).mono ?_
 rintro e w2 ⟨rfl, b2⟩
 rw [HY.out]
 have HB2 : Hid (Below w.heap.size w w2) := HB1.out.trans (b2.mono HB1.out.size)
 clear b2
 by_cases hlt : x < y
 rotate_left
 ·have HE2 : Hid (r = false) := by show _ = _; rw [HR.out, decide_eq_false hlt, Bool.false_and]
  clear hf HX HY HC HR HV hsz hsz2
  go_wp2_with fail
  go_ret
  exact ⟨by rw [HE2.out]; rfl, HB2.out⟩
 have HE2 : Hid (r = !c1) := by show _ = _; rw [HR.out, decide_eq_true hlt, Bool.true_and]
 go_wp2_with fail
 refine (specCcOf_any v n base fs _ (HV.out _ HB2.out) hn hsz2).mono ?_
 rintro e w3 ⟨rfl, b3⟩
 rw [HC.out, show (⟨c0, c1, c2, c3, c4, c5⟩ : CcD).v = .agg #[.bool c0, .bool c1, .bool c2, .bool c3, .bool c4, .int .i64 c5] from rfl]
 have HB3 : Hid (Below w.heap.size w w3) := HB2.out.trans (b3.mono HB2.out.size)
 clear b3
 go_wp2_with fail
 go_ret
 exact ⟨by rw [HE2.out]; rfl, HB3.out⟩
def HereP (m : Int) (p : Tx) (fs : Fs) (b : Tx) : Prop := (ReqP m p fs b ∧ m = 1) ∧ (ccR (getV fs ccName)).ns = false
def AlikeP (m : Int) (p : Tx) (fs : Fs) (b : Tx) (m2 : Int) (p2 : Tx) (gs : Fs) (c : Tx) : Prop := (HereP m p fs b ∧ HereP m2 p2 gs c) ∧ p = p2 ∧ fs = gs
def SameTo (fs gs : Fs) (k : Nat) : Prop := ∀ j, j < k → nameAt fs j = nameAt gs j ∧ valAt fs j = valAt gs j
theorem SameTo.zero (fs gs : Fs) : SameTo fs gs 0 := fun j h => absurd h (Nat.not_lt_zero j)
theorem SameTo.step {fs gs : Fs} {k : Nat} (h : SameTo fs gs k) (h1 : nameAt fs k = nameAt gs k) (h2 : valAt fs k = valAt gs k) : SameTo fs gs (k + 1) := fun j hj => by
 by_cases e : j = k
 · subst e; exact ⟨h1, h2⟩
 · exact h j (by omega)
theorem SameTo.all {fs gs : Fs} {n : Nat} (h : SameTo fs gs n) (h1 : fs.length = n) (h2 : gs.length = n) : fs = gs := by
 apply List.ext_getElem (by omega)
 intro i hi hj
 have := h i (by omega)
 unfold nameAt valAt at this
 rw [List.getD_eq_getElem?_getD, List.getElem?_eq_getElem hi, List.getD_eq_getElem?_getD, List.getElem?_eq_getElem hj] at this
 exact Prod.ext this.1 this.2
theorem cc_ns (c0 c1 c2 c3 c4 : Bool) (c5 : Int) (W : World) : (Instr.field 106 (.agg #[.bool c0, .bool c1, .bool c2, .bool c3, .bool c4, .int .i64 c5]) 0).run Tryz.prog W = .ok (.bool c0) W := by
 first | kernel_rfl | rfl | simp [Instr.field, go_sem]
theorem guardFld : Tryz.prog.eqGuardType Tryz.prog.depth 185 = false := by kernel_rfl
open Classical in
theorem eqFldIn (a a' b b' : Tx) (w : World) : (Op.equalIn 10000 185 (.agg #[.string a, .string b]) (.agg #[.string a', .string b'])).run Tryz.prog w = .ok (decide (a = a' ∧ b = b')) w := by
 have u9 := Tryz.underlying9
 have a9 := Tryz.isAgg9
 have z9 := Tryz.sizeOf9
 have hS : Tryz.prog.underlying 185 = some (.struct (Tryz.prog.fieldsOf 185)) := by kernel_rfl
 have hp : Tryz.prog.stoodInHeld 185 = false := by kernel_rfl
 rw [show (10000 : Nat) = 9999 + 1 from rfl, run_equalIn_agg w 9999 185 _ _ hS hp]
 simp only [Program.fieldsOf, Tryz.underlying185]
 have ea : ∀ x y : ByteArray, (x.toList == y.toList) = decide (x = y) := fun x y => by
  by_cases h : x = y
  · rw [decide_eq_true h]; exact (text_beq _ _).2 h
  · rw [decide_eq_false h]; exact text_beq_no h
 go_simp
 by_cases h1 : a = a'
 rotate_left
 · simp [h1]
 by_cases h2 : b = b'
 · simp [h1, h2]
 simp [h1, h2]
open Classical in
theorem neqFld (a a' b b' : Tx) (w : World) : (binOp .neq 185 (.agg #[.string a, .string b]) (.agg #[.string a', .string b'])).run Tryz.prog w = .ok (.bool (!(decide (a = a' ∧ b = b')))) w := by
 rw [run_neq_struct, eqFldIn]
 rfl
theorem l15Fields_any (v1 v2 : Value) (n m b1 b2 : Nat) (fs gs : Fs) (w : World) (h1 : FieldsV w b1 v1 n fs) (h2 : FieldsV w b2 v2 m gs) (hn : n ≤ 1073741824) (hm : m ≤ 1073741824) :
  Calls Tryz.prog 74 #[v1, v2] w fun e w' => BoolIs (fs = gs) w e w' := by
 classical
 have HL1 : Hid (fs.length = n) := h1.len
 have HL2 : Hid (gs.length = m) := h2.len
 obtain ⟨oa, ca, rfl, ra⟩ := h1.slice
 obtain ⟨ob, cb, rfl, rb⟩ := h2.slice
 have HRA : Hid (∀ k, k < n → ∃ g, oa = some ⟨g, 0, none⟩ ∧ FieldRow b1 w g n ca fs) := ra
 have HRB : Hid (∀ k, k < m → ∃ g, ob = some ⟨g, 0, none⟩ ∧ FieldRow b2 w g m cb gs) := rb
 clear ra rb h1 h2
 have hgd := guardFld
 go_enter Tryz.func74, Tryz.ntmps74
 go_wp2
 go_loopw [5] (fun i wr => ∃ k : Nat, k ≤ n ∧ k ≤ m ∧ i = .int .i64 (k : Int) ∧ Below w.heap.size w wr ∧ Hid (SameTo fs gs k)) (fun i _ => n - (intOf i).toNat)
 case atStart => exact ⟨0, Nat.zero_le _, Nat.zero_le _, rfl, Below.refl _ _, SameTo.zero _ _⟩
 case round =>
  obtain ⟨k, hk, hkm, rfl, hbw, HST⟩ := hrel
  by_cases hlt : k < n
  rotate_left
  ·by_cases hnm : n = m
   ·subst hnm
    have HEQ : Hid (fs = gs) := by
     have h := HST.out
     rw [show k = n by omega] at h
     exact h.all HL1.out HL2.out
    have hnn : ((n : Int) == (n : Int)) = true := by simp
    go_wp2
    go_ret
    exact BoolIs.yes HEQ.out hbw
   have HNE : Hid (¬ fs = gs) := fun e => by
    have h1 := HL1.out
    have h2 := HL2.out
    rw [e] at h1
    omega
   have hnmb : ((n : Int) == (m : Int)) = false := by simpa using (show ¬ (n : Int) = (m : Int) by omega)
   go_wp2
   go_ret
   exact BoolIs.no HNE.out hbw
  by_cases hltm : k < m
  rotate_left
  ·have HNE : Hid (¬ fs = gs) := fun e => by
    have h1 := HL1.out
    have h2 := HL2.out
    rw [e] at h1
    omega
   have hnm : ((n : Int) == (m : Int)) = false := by simpa using (show ¬ (n : Int) = (m : Int) by omega)
   go_wp2
   go_ret
   exact BoolIs.no HNE.out hbw
  have hlt2 : (k : Int) < (n : Int) := by omega
  have hlt3 : (k : Int) < (m : Int) := by omega
  obtain ⟨g1, hoa, r1⟩ := HRA.out k hlt
  obtain ⟨g2, hob, r2⟩ := HRB.out k hltm
  subst hoa hob
  obtain ⟨na, hna⟩ := exq (nameAt fs k)
  obtain ⟨va, hva⟩ := exq (valAt fs k)
  obtain ⟨nb, hnb⟩ := exq (nameAt gs k)
  obtain ⟨vb, hvb⟩ := exq (valAt gs k)
  have ha := (r1.below hbw r1.lt).name k hlt
  have hb := (r1.below hbw r1.lt).val k hlt
  have hc := (r2.below hbw r2.lt).name k hltm
  have hd := (r2.below hbw r2.lt).val k hltm
  rw [← hna] at ha
  rw [← hva] at hb
  rw [← hnb] at hc
  rw [← hvb] at hd
  by_cases he : na = nb ∧ va = vb
  rotate_left
  ·have HNE : Hid (¬ fs = gs) := fun e => he ⟨by rw [hna, hnb, e], by rw [hva, hvb, e]⟩
   have hq : ∀ W : World, (binOp .neq 185 (.agg #[.string na, .string va]) (.agg #[.string nb, .string vb])).run Tryz.prog W = .ok (.bool true) W := fun W => by rw [neqFld, decide_eq_false he]; rfl
   clear hna hva hnb hvb r1 r2 HST he
   go_wp2
   go_region
   go_wp2
   go_ret
   exact BoolIs.no HNE.out hbw.drew
  have HS2 : Hid (SameTo fs gs (k + 1)) := HST.out.step (by rw [← hna, ← hnb]; exact he.1) (by rw [← hva, ← hvb]; exact he.2)
  obtain ⟨e1, e2⟩ := he
  subst e1 e2
  have hq : ∀ W : World, (binOp .neq 185 (.agg #[.string na, .string va]) (.agg #[.string na, .string va])).run Tryz.prog W = .ok (.bool false) W := fun W => by rw [neqFld]; simp
  clear hna hva hnb hvb r1 r2 HST
  go_wp2
  go_region
  go_wp2
  go_roundw
  case rel => exact ⟨k + 1, by omega, by omega, by go_num, hbw.drew, HS2⟩
  case measure => simp [intOf]; omega
theorem specAlike_any (ma : Int) (pa : Tx) (va : Value) (ba : Tx) (na basea : Nat) (fsa : Fs) (mb : Int) (pb : Tx) (vb : Value) (bb : Tx) (nb baseb : Nat) (fsb : Fs) (w : World) (hva : FieldsV w basea va na fsa) (hna : na ≤ 1048576) (hsa : WalkF na fsa) (hpa : pa.size ≤ maxLen) (hba : ba.size ≤ maxLen) (hga : ∀ x, (getV fsa x).size ≤ 1048576) (hvb : FieldsV w baseb vb nb fsb) (hnb : nb ≤ 1048576) (hsb : WalkF nb fsb) (hpb : pb.size ≤ maxLen) (hbb : bb.size ≤ maxLen) (hgb : ∀ x, (getV fsb x).size ≤ 1048576) :
  Calls Tryz.prog 35 #[.agg #[.int .i64 ma, .string pa, va, .string ba], .agg #[.int .i64 mb, .string pb, vb, .string bb]] w fun e w' => BoolIs (AlikeP ma pa fsa ba mb pb fsb bb) w e w' := by
 obtain ⟨oa, ca, hsl, _⟩ := hva.slice
 subst hsl
 have HVa : Hid (∀ W, Below w.heap.size w W → FieldsV W basea (.slice oa na ca) na fsa) := fun W h => hva.below h
 have HLFa : Hid (fsa.length = na) := hva.len
 have HSa := hid hsa
 have HPMa := hid hpa
 have HBMa := hid hba
 have HQVa := hid hga
 clear hva hsa hpa hba hga
 obtain ⟨ka, hka⟩ := exq (ccR (getV fsa ccName))
 have HCCa : Hid (∀ W, Below w.heap.size w W → Calls Tryz.prog 36 #[.slice oa na ca] W fun e w' => e = .returned (.agg #[.bool ka.ns, .bool ka.nc, .bool ka.pr, .bool ka.mu, .bool ka.ha, .int .i64 ka.age]) ∧ Below W.heap.size W w') := fun W hW => by
  have h := specCcOf_any _ na basea fsa W (HVa.out W hW) (by omega) (HQVa.out _)
  rw [← hka] at h
  exact h
 have HCKa : Hid (ccR (getV fsa ccName) = ka) := hka.symm
 clear hka
 obtain ⟨xa0, xa1, xa2, xa3, xa4, xa5⟩ := ka
 dsimp only at HCCa
 obtain ⟨ob, cb, hsl, _⟩ := hvb.slice
 subst hsl
 have HVb : Hid (∀ W, Below w.heap.size w W → FieldsV W baseb (.slice ob nb cb) nb fsb) := fun W h => hvb.below h
 have HLFb : Hid (fsb.length = nb) := hvb.len
 have HSb := hid hsb
 have HPMb := hid hpb
 have HBMb := hid hbb
 have HQVb := hid hgb
 clear hvb hsb hpb hbb hgb
 obtain ⟨kb, hkb⟩ := exq (ccR (getV fsb ccName))
 have HCCb : Hid (∀ W, Below w.heap.size w W → Calls Tryz.prog 36 #[.slice ob nb cb] W fun e w' => e = .returned (.agg #[.bool kb.ns, .bool kb.nc, .bool kb.pr, .bool kb.mu, .bool kb.ha, .int .i64 kb.age]) ∧ Below W.heap.size W w') := fun W hW => by
  have h := specCcOf_any _ nb baseb fsb W (HVb.out W hW) (by omega) (HQVb.out _)
  rw [← hkb] at h
  exact h
 have HCKb : Hid (ccR (getV fsb ccName) = kb) := hkb.symm
 clear hkb
 obtain ⟨xb0, xb1, xb2, xb3, xb4, xb5⟩ := kb
 dsimp only at HCCb
 have hfna := fun W => cc_ns xa0 xa1 xa2 xa3 xa4 xa5 W
 have hfca := fun W => cc_nc xa0 xa1 xa2 xa3 xa4 xa5 W
 have hb0 := Below.refl w.heap.size w
 go_enter Tryz.func35, Tryz.ntmps35
 go_upto_region 1 with fail
 obtain ⟨q1, hq1⟩ := exq (w.heap.size)
 obtain ⟨w1, hW1⟩ := exq (w.alloc (.cells #[.int .i64 ma, .string pa, .slice oa na ca, .string ba] 58))
 have hz1 := hq1.symm
 rw [← hW1]; try rw [← hq1]
 have hs1 := hsa hW1 hz1
 have bw := bal hW1
 have hb1 := hbt hb0 bw
 have B1_1 := hnew hW1 hz1
 clear hb0 bw hW1 hz1
 obtain ⟨q2, hq2⟩ := exq (q1 + 1)
 obtain ⟨w2, hW2⟩ := exq (w1.alloc (.cells #[.int .i64 mb, .string pb, .slice ob nb cb, .string bb] 58))
 have hz2 : w1.heap.size = q2 := by rw [hq2]; exact hs1
 rw [← hW2]; try rw [← hq2]
 have hs2 := hsa hW2 hz2
 have bw := bal hW2
 have hb2 := hbt hb1 bw
 have B1_2 := hblk B1_1 bw
 have B2_2 := hnew hW2 hz2
 clear hb1 bw hW2 hz2
 clear hs2 hq2 hs1 hq1
 have c1_0 := (k4c B1_2).1
 have c1_1 := (k4c B1_2).2.1
 have c1_2 := (k4c B1_2).2.2.1
 have c1_3 := (k4c B1_2).2.2.2
 go_wp2_with fail
 refine (specReqOk_any ma pa _ ba na basea fsa _ (HVa.out _ hb2) (by omega) HSa.out HPMa.out HBMa.out).mono ?_
 rintro e w3 ⟨ra, rfl, hra, bw⟩
 have hb3 := hbt hb2 bw
 have B1_3 := hblk B1_2 bw
 have B2_3 := hblk B2_2 bw
 clear hb2 bw
 clear c1_0 c1_1 c1_2 c1_3
 cases ra
 ·have HNra : Hid (¬ (ReqP ma pa fsa ba)) := fun h => nomatch hra.2 h
  clear hra
  go_wp2_with fail
  go_ret
  exact BoolIs.no (fun h => HNra.out h.1.1.1.1) hb3
 have HYra : Hid (ReqP ma pa fsa ba) := hra.1 rfl
 clear hra
 have c2_0 := (k4c B2_3).1
 have c2_1 := (k4c B2_3).2.1
 have c2_2 := (k4c B2_3).2.2.1
 have c2_3 := (k4c B2_3).2.2.2
 go_wp2_with fail
 refine (specReqOk_any mb pb _ bb nb baseb fsb _ (HVb.out _ hb3) (by omega) HSb.out HPMb.out HBMb.out).mono ?_
 rintro e w4 ⟨rb, rfl, hrb, bw⟩
 have hb4 := hbt hb3 bw
 have B1_4 := hblk B1_3 bw
 have B2_4 := hblk B2_3 bw
 clear hb3 bw
 clear c2_0 c2_1 c2_2 c2_3
 cases rb
 ·have HNrb : Hid (¬ (ReqP mb pb fsb bb)) := fun h => nomatch hrb.2 h
  clear hrb
  go_wp2_with fail
  go_ret
  exact BoolIs.no (fun h => HNrb.out h.1.2.1.1) hb4
 have HYrb : Hid (ReqP mb pb fsb bb) := hrb.1 rfl
 clear hrb
 by_cases hc1 : ma = 1
 rotate_left
 ·have hc1b : ((ma : Int) == (1 : Int)) = false := by simpa using hc1
  have hc1n : ((ma : Int) != (1 : Int)) = true := by simpa using hc1
  have HMEa := hid hc1
  have hc1H := hid hc1
  clear hc1
  have c1_0 := (k4c B1_4).1
  go_wp2_with fail
  go_ret
  exact BoolIs.no (fun h => HMEa.out h.1.1.1.2) hb4
 have hc1b : ((ma : Int) == (1 : Int)) = true := by simpa using hc1
 have hc1n : ((ma : Int) != (1 : Int)) = false := by simpa using hc1
 have HMEa := hid hc1
 have hc1H := hid hc1
 clear hc1
 by_cases hc2 : mb = 1
 rotate_left
 ·have hc2b : ((mb : Int) == (1 : Int)) = false := by simpa using hc2
  have hc2n : ((mb : Int) != (1 : Int)) = true := by simpa using hc2
  have HMEb := hid hc2
  have hc2H := hid hc2
  clear hc2
  have c1_0 := (k4c B1_4).1
  have c2_0 := (k4c B2_4).1
  go_wp2_with fail
  go_ret
  exact BoolIs.no (fun h => HMEb.out h.1.2.1.2) hb4
 have hc2b : ((mb : Int) == (1 : Int)) = true := by simpa using hc2
 have hc2n : ((mb : Int) != (1 : Int)) = false := by simpa using hc2
 have HMEb := hid hc2
 have hc2H := hid hc2
 clear hc2
 have c1_0 := (k4c B1_4).1
 have c1_1 := (k4c B1_4).2.1
 have c2_0 := (k4c B2_4).1
 have c2_1 := (k4c B2_4).2.1
 by_cases hc3 : pa = pb
 rotate_left
 ·have hc3b : ((pa).toList == (pb).toList) = false := text_beq_no hc3
  have HPP := hid hc3
  clear hc3
  go_wp2_with fail
  go_ret
  exact BoolIs.no (fun h => HPP.out h.2.1) hb4
 have hc3b : ((pa).toList == (pb).toList) = true := (text_beq _ _).2 hc3
 have HPP := hid hc3
 clear hc3
 have c1_2 := (k4c B1_4).2.2.1
 have c2_2 := (k4c B2_4).2.2.1
 go_wp2_with fail
 refine (l15Fields_any _ _ na nb _ _ fsa fsb _ (HVa.out _ hb4) (HVb.out _ hb4) (by omega) (by omega)).mono ?_
 rintro e w5 ⟨lf, rfl, hlf, bw⟩
 have hb5 := hbt hb4 bw
 have B1_5 := hblk B1_4 bw
 have B2_5 := hblk B2_4 bw
 clear hb4 bw
 clear c1_0 c1_1 c2_0 c2_1 c1_2 c2_2
 cases lf
 ·have HNlf : Hid (¬ (fsa = fsb)) := fun h => nomatch hlf.2 h
  clear hlf
  go_wp2_with fail
  go_ret
  exact BoolIs.no (fun h => HNlf.out h.2.2) hb5
 have HYlf : Hid (fsa = fsb) := hlf.1 rfl
 clear hlf
 have c1_2 := (k4c B1_5).2.2.1
 go_wp2_with fail
 refine (HCCa.out _ hb5).mono ?_
 rintro e w6 ⟨rfl, bw⟩
 have hb6 := hbt hb5 bw
 have B1_6 := hblk B1_5 bw
 have B2_6 := hblk B2_5 bw
 clear hb5 bw
 clear c1_2
 cases xa0
 rotate_left
 ·have HXNa : Hid ((ccR (getV fsa ccName)).ns = true) := by show _ = _; rw [HCKa.out]
  go_wp2_with fail
  go_ret
  exact BoolIs.no (fun h => (by have h1 := h.1.1.2; rw [HXNa.out] at h1; exact absurd h1 (by decide))) hb6
 have HXNa : Hid ((ccR (getV fsa ccName)).ns = false) := by show _ = _; rw [HCKa.out]
 go_wp2_with fail
 go_ret
 exact BoolIs.yes ⟨⟨⟨⟨HYra.out, HMEa.out⟩, HXNa.out⟩, ⟨HYrb.out, HMEb.out⟩, by rw [← HYlf.out]; exact HXNa.out⟩, HPP.out, HYlf.out⟩ hb6
theorem equalFld_eq (v1 v2 : Value) (n b1 b2 : Nat) (fs gs : Fs) (w : World) (h1 : FieldsV w b1 v1 n fs) (h2 : FieldsV w b2 v2 n gs) (hn : n ≤ 1073741824) :
  Calls Tryz.prog 137 #[v1, v2] w fun e w' => BoolIs (fs = gs) w e w' := by
 classical
 have HL1 : Hid (fs.length = n) := h1.len
 have HL2 : Hid (gs.length = n) := h2.len
 obtain ⟨oa, ca, rfl, ra⟩ := h1.slice
 obtain ⟨ob, cb, rfl, rb⟩ := h2.slice
 have HRA : Hid (∀ k, k < n → ∃ g, oa = some ⟨g, 0, none⟩ ∧ FieldRow b1 w g n ca fs) := ra
 have HRB : Hid (∀ k, k < n → ∃ g, ob = some ⟨g, 0, none⟩ ∧ FieldRow b2 w g n cb gs) := rb
 clear ra rb h1 h2
 have hgd := guardFld
 have hnn : ((n : Int) != (n : Int)) = false := by simp
 go_enter Tryz.func137, Tryz.ntmps137
 go_wp2
 go_loopw [13] (fun i wr => ∃ k : Nat, k ≤ n ∧ i = .int .i64 (k : Int) ∧ Below w.heap.size w wr ∧ Hid (SameTo fs gs k)) (fun i _ => n - (intOf i).toNat)
 case atStart => exact ⟨0, Nat.zero_le _, rfl, Below.refl _ _, SameTo.zero _ _⟩
 case round =>
  obtain ⟨k, hk, rfl, hbw, HST⟩ := hrel
  by_cases hlt : k < n
  rotate_left
  ·have HEQ : Hid (fs = gs) := by
    have h := HST.out
    rw [show k = n by omega] at h
    exact h.all HL1.out HL2.out
   go_wp2
   go_ret
   exact BoolIs.yes HEQ.out hbw
  ·have hlt2 : (k : Int) < (n : Int) := by omega
   obtain ⟨g1, hoa, r1⟩ := HRA.out k hlt
   obtain ⟨g2, hob, r2⟩ := HRB.out k hlt
   subst hoa hob
   obtain ⟨na, hna⟩ := exq (nameAt fs k)
   obtain ⟨va, hva⟩ := exq (valAt fs k)
   obtain ⟨nb, hnb⟩ := exq (nameAt gs k)
   obtain ⟨vb, hvb⟩ := exq (valAt gs k)
   have ha := (r1.below hbw r1.lt).name k hlt
   have hb := (r1.below hbw r1.lt).val k hlt
   have hc := (r2.below hbw r2.lt).name k hlt
   have hd := (r2.below hbw r2.lt).val k hlt
   rw [← hna] at ha
   rw [← hva] at hb
   rw [← hnb] at hc
   rw [← hvb] at hd
   by_cases he : na = nb ∧ va = vb
   rotate_left
   ·have HNE : Hid (¬ fs = gs) := fun e => he ⟨by rw [hna, hnb, e], by rw [hva, hvb, e]⟩
    have hq : ∀ W : World, (binOp .neq 185 (.agg #[.string na, .string va]) (.agg #[.string nb, .string vb])).run Tryz.prog W = .ok (.bool true) W := fun W => by rw [neqFld, decide_eq_false he]; rfl
    clear hna hva hnb hvb r1 r2 HST he
    go_wp2
    go_region
    go_wp2
    go_ret
    exact BoolIs.no HNE.out hbw.drew
   have HS2 : Hid (SameTo fs gs (k + 1)) := HST.out.step (by rw [← hna, ← hnb]; exact he.1) (by rw [← hva, ← hvb]; exact he.2)
   obtain ⟨e1, e2⟩ := he
   subst e1 e2
   have hq : ∀ W : World, (binOp .neq 185 (.agg #[.string na, .string va]) (.agg #[.string na, .string va])).run Tryz.prog W = .ok (.bool false) W := fun W => by rw [neqFld]; simp
   clear hna hva hnb hvb r1 r2 HST
   go_wp2
   go_region
   go_wp2
   go_roundw
   case rel => exact ⟨k + 1, by omega, by go_num, hbw.drew, HS2⟩
   case measure => simp [intOf]; omega
theorem equalFld_any (v1 v2 : Value) (n m b1 b2 : Nat) (fs gs : Fs) (w : World) (h1 : FieldsV w b1 v1 n fs) (h2 : FieldsV w b2 v2 m gs) (hn : n ≤ 1073741824) (hm : m ≤ 1073741824) :
  Calls Tryz.prog 137 #[v1, v2] w fun e w' => BoolIs (fs = gs) w e w' := by
 by_cases hnm : n = m
 ·subst hnm
  exact equalFld_eq v1 v2 n b1 b2 fs gs w h1 h2 hn
 have HNE : Hid (¬ fs = gs) := fun e => by
  have e1 := h1.len
  have e2 := h2.len
  rw [e] at e1
  omega
 have hne : ((n : Int) != (m : Int)) = true := by simpa using (show ¬ (n : Int) = (m : Int) by omega)
 obtain ⟨oa, ca, rfl, _⟩ := h1.slice
 obtain ⟨ob, cb, rfl, _⟩ := h2.slice
 go_enter Tryz.func137, Tryz.ntmps137
 go_wp2
 go_ret
 exact BoolIs.no HNE.out (Below.refl _ _)
def RespRow (st : Int) (fs : Fs) (b : Tx) (w : World) (e : Ending) (w' : World) : Prop :=
 ∃ v, e = .returned (.agg #[.int .i64 st, v, .string b]) ∧ w'.ownsRow w.heap.size 185 2 v fs.length (flatF fs) ∧ Below w.heap.size w w'
theorem three_other (W : World) (r j : Nat) (a b c : Value) (h : j ≠ r) : (threeSet W r a b c).heap[j]? = W.heap[j]? := by
 unfold threeSet
 rw [heap_setCell_other _ _ j _ h, heap_setCell_other _ _ j _ h, heap_setCell_other _ _ j _ h]
theorem l9Resp_any (st : Int) (v : Value) (b : Tx) (n base : Nat) (fs : Fs) (w : World) (hv : FieldsV w base v n fs) (hn : n ≤ 2000000) :
  Calls Tryz.prog 81 #[.agg #[.int .i64 st, v, .string b]] w fun e w' => RespRow st fs b w e w' := by
 obtain ⟨oa, cap, rfl, _⟩ := hv.slice
 obtain ⟨r, hr⟩ := exq (w.heap.size)
 have HR : Hid (w.heap.size = r) := hr.symm
 obtain ⟨W1, hW1⟩ := exq ((w.alloc (.cells #[.int .i64 st, .slice oa n cap, .string b] 60)).alloc (.cells #[.int .i64 0, .slice none 0 0, .string ⟨#[]⟩] 60))
 have HW1 := hsy hW1
 have b1 : Below r w W1 := by rw [hW1, hr]; exact ((Below.refl _ w).alloc (Nat.le_refl _) _).alloc (by simp) _
 have hv1 := hv.below (by rw [hr] at b1; exact b1)
 have s1 : (w.alloc (.cells #[.int .i64 st, .slice oa n cap, .string b] 60)).heap.size = r + 1 := by rw [hr]; simp
 have s2 : W1.heap.size = r + 1 + 1 := by rw [hW1, hr]; simp
 have H0 : Hid (W1.heap[r]? = some (.cells #[.int .i64 st, .slice oa n cap, .string b] 60) ∧ W1.heap[r + 1]? = some (.cells #[.int .i64 0, .slice none 0 0, .string ⟨#[]⟩] 60) ∧ Below r w W1) := by
  have e0 := heap_alloc_new w (.cells #[.int .i64 st, .slice oa n cap, .string b] 60)
  have e1 := heap_alloc_new (w.alloc (.cells #[.int .i64 st, .slice oa n cap, .string b] 60)) (.cells #[.int .i64 0, .slice none 0 0, .string ⟨#[]⟩] 60)
  rw [← hr] at e0
  rw [s1, ← hW1] at e1
  have c1 : Below (r + 1) (w.alloc (.cells #[.int .i64 st, .slice oa n cap, .string b] 60)) W1 := by rw [hW1, ← s1]; exact (Below.refl _ _).alloc (Nat.le_refl _) _
  exact ⟨by rw [c1.block r (by omega)]; exact e0, e1, b1⟩
 obtain ⟨⟨_, c1, _⟩, _⟩ := three_facts H0.out.1
 have HS2 : Hid (W1.heap.size = r + 1 + 1) := s2
 have HL : Hid (fs.length = n) := hv.len
 clear hW1 hv b1 s1 s2
 go_enter Tryz.func81, Tryz.ntmps81
 go_upto_region 1 with fail
 rw [HW1.out, ← hr]
 clear hr HW1
 go_wp2_with fail
 refine (l9Copy_any _ n base fs _ hv1 hn).mono ?_
 rintro e w2 ⟨z, rfl, own, b2⟩
 obtain ⟨oz, cz, rfl⟩ := slice_of_owns own
 rw [HL.out] at own ⊢
 have hs2 := HS2.out
 have b2 : Below _ _ _ := b2
 rw [hs2] at own b2
 have H2 : Hid (w2.heap[r]? = some (.cells #[.int .i64 st, .slice oa n cap, .string b] 60) ∧ w2.heap[r + 1]? = some (.cells #[.int .i64 0, .slice none 0 0, .string ⟨#[]⟩] 60) ∧ Below r w w2) :=
  ⟨by rw [b2.block r (by omega)]; exact H0.out.1, by rw [b2.block (r + 1) (by omega)]; exact H0.out.2.1, H0.out.2.2.trans (b2.mono (by omega))⟩
 have HO2 : Hid (w2.ownsRow (r + 1 + 1) 185 2 (.slice oz n cz) n (flatF fs)) := own
 obtain ⟨⟨_, d1, _⟩, _, y1, _⟩ := three_facts H2.out.1
 clear own b2 hs2 c1 hv1 H0 HS2
 have H3 : Hid ((w2.setCell ⟨r, 1, none⟩ (.slice oz n cz)).heap[r]? = some (.cells #[.int .i64 st, .slice oz n cz, .string b] 60) ∧ (w2.setCell ⟨r, 1, none⟩ (.slice oz n cz)).heap[r + 1]? = some (.cells #[.int .i64 0, .slice none 0 0, .string ⟨#[]⟩] 60)) := by
  refine ⟨?_, by rw [heap_setCell_other _ _ (r + 1) _ (by show r + 1 ≠ r; omega)]; exact H2.out.2.1⟩
  have := heap_set w2 r 1 _ _ _ (.slice oz n cz) H2.out.1
  simpa using this
 obtain ⟨⟨f0, f1, f2⟩, _⟩ := three_facts H3.out.1
 obtain ⟨⟨g0, g1, g2⟩, x0, x1, x2⟩ := three_facts H3.out.2
 have hset := three_set H3.out.2 (.int .i64 st) (.slice oz n cz) (.string b)
 obtain ⟨⟨k0, k1, k2⟩, _⟩ := three_facts hset
 have HFB : Hid (Below r w (threeSet (w2.setCell ⟨r, 1, none⟩ (.slice oz n cz)) (r + 1) (.int .i64 st) (.slice oz n cz) (.string b))) := below_three (H2.out.2.2.setCell (Nat.le_refl _) _) (by omega)
 have HFO : Hid ((threeSet (w2.setCell ⟨r, 1, none⟩ (.slice oz n cz)) (r + 1) (.int .i64 st) (.slice oz n cz) (.string b)).ownsRow r 185 2 (.slice oz n cz) fs.length (flatF fs)) := by
  show World.ownsRow _ _ _ _ _ _ _
  rw [HL.out]
  refine owns_same (owns_wide HO2.out (by omega)) (fun j hj => ?_)
  have hj2 := owns_ge HO2.out hj
  rw [three_other _ _ j _ _ _ (by omega), heap_setCell_other _ _ j _ (by show j ≠ r; omega)]
 unfold threeSet at k0 k1 k2 HFB HFO
 clear hset H2 H3 HO2
 go_wp2_with fail
 refine bodyPost_ret (v := .agg #[.int .i64 st, .slice oz n cz, .string b]) (by simp [results, Tryz.results81, go_sem, k0, k1, k2]) rfl ?_
 exact ⟨_, rfl, by rw [HR.out]; exact HFO.out, by show Below _ _ _; rw [HR.out]; exact HFB.out⟩
structure MgSt (w : World) (r o : Nat) (st : Int) (va : Value) (b : Tx) (st2 : Int) (vb : Value) (c : Tx) (z : Value) (P : Fs) (W : World) : Prop where
 q0 : W.heap[r]? = some (.cells #[.int .i64 st, va, .string b] 60)
 q1 : W.heap[r + 1]? = some (.cells #[.int .i64 st2, vb, .string c] 60)
 q2 : W.heap[r + 1 + 1]? = some (.cells #[.int .i64 0, .slice none 0 0, .string ⟨#[]⟩] 60)
 q3 : W.heap[o]? = some (.cells #[.int .i64 st, z, .string b] 60)
 own : W.ownsRow (r + 1 + 1 + 1) 185 2 z P.length (flatF P)
 ne : ∀ j, z.ownBlock = some j → j ≠ o
 ge : r + 1 + 1 + 1 ≤ o
 low : Below r w W
theorem MgSt.lt {w : World} {r o : Nat} {st : Int} {va : Value} {b : ByteArray} {st2 : Int} {vb : Value} {c : ByteArray} {z : Value} {P : Fs} {W : World} (h : MgSt w r o st va b st2 vb c z P W) : o < W.heap.size := (Array.getElem?_eq_some_iff.1 h.q3).1
theorem MgSt.below {w : World} {r o : Nat} {st : Int} {va : Value} {b : ByteArray} {st2 : Int} {vb : Value} {c : ByteArray} {z : Value} {P : Fs} {W : World} {W' : World} (h : MgSt w r o st va b st2 vb c z P W) (hb : Below W.heap.size W W') : MgSt w r o st va b st2 vb c z P W' := by
 have hs := h.lt
 have hg := h.ge
 exact ⟨by rw [hb.block _ (by omega)]; exact h.q0, by rw [hb.block _ (by omega)]; exact h.q1, by rw [hb.block _ (by omega)]; exact h.q2, by rw [hb.block _ hs]; exact h.q3, owns_same h.own (fun j hj => hb.block j (owns_lt h.own hj)), h.ne, hg, h.low.trans (hb.mono (by omega))⟩
theorem MgSt.set {w : World} {r o : Nat} {st : Int} {va : Value} {b : ByteArray} {st2 : Int} {vb : Value} {c : ByteArray} {z : Value} {P : Fs} {W : World} {W' : World} (h : MgSt w r o st va b st2 vb c z P W) (hb : Below W.heap.size W W') {y : Value} {Q : Fs} (hy : W'.ownsRow W.heap.size 185 2 y Q.length (flatF Q)) : MgSt w r o st va b st2 vb c y Q (W'.setCell ⟨o, 1, none⟩ y) := by
 have h' := h.below hb
 have hs := h.lt
 have hg := h.ge
 have hne : ∀ j, y.ownBlock = some j → j ≠ o := fun j hj => by have := owns_ge hy hj; omega
 refine ⟨by rw [heap_setCell_other _ _ r _ (by show r ≠ o; omega)]; exact h'.q0, by rw [heap_setCell_other _ _ (r + 1) _ (by show r + 1 ≠ o; omega)]; exact h'.q1, by rw [heap_setCell_other _ _ (r + 1 + 1) _ (by show r + 1 + 1 ≠ o; omega)]; exact h'.q2, ?_, owns_same (owns_wide hy (by omega)) (fun j hj => heap_setCell_other _ _ j _ (hne j hj)), hne, hg, h'.low.setCell (by show r ≤ o; omega) _⟩
 have := heap_set W' o 1 _ _ _ y h'.q3
 simpa using this
theorem saidByFlag_any (x : Tx) (w : World) :
  Calls Tryz.prog 209 #[.string x] w fun e w' => e = .returned (saidF x).v ∧ Below w.heap.size w w' := by
 have hR : CcAt (w.alloc (.cells #[.bool false, .bool false, .bool false, .bool false, .bool false, .int .i64 0] 106)) w.heap.size cc0 := heap_alloc_new w _
 have HB0 : Hid (Below w.heap.size w (w.alloc (.cells #[.bool false, .bool false, .bool false, .bool false, .bool false, .int .i64 0] 106))) := (Below.refl _ _).alloc (Nat.le_refl _) _
 obtain ⟨W1, hW1⟩ := exq (w.alloc (.cells #[.bool false, .bool false, .bool false, .bool false, .bool false, .int .i64 0] 106))
 have HW1 := hsy hW1
 rw [← hW1] at hR HB0
 obtain ⟨H, hH⟩ := exq (w.heap.size)
 have HW : Hid (w.heap.size = H) := hH.symm
 rw [← hH] at hR HB0
 clear hW1
 obtain ⟨r0, r1, r2, r3, r4, r5⟩ := hR.cells
 have f0 := hR.frozen 0
 have f1 := hR.frozen 1
 have f2 := hR.frozen 2
 have f3 := hR.frozen 3
 have f4 := hR.frozen 4
 have f5 := hR.frozen 5
 obtain ⟨c, hc⟩ := exq (saidF x)
 have HC : Hid (saidF x = c) := hc.symm
 obtain ⟨m0, m1, m2, m3, m4, m5⟩ := (hR.putAll c).cells
 have HB : Hid (Below H w (putCc W1 H c)) := below_putCc HB0.out (Nat.le_refl _) c
 unfold putCc at m0 m1 m2 m3 m4 m5 HB
 clear hR HB0
 unfold saidF at hc
 by_cases h0 : x = nsW
 ·have t0 : (x.toList == nsW.toList) = true := (text_beq _ _).2 h0
  rw [nsW_list] at t0
  rw [if_pos h0] at hc
  subst hc
  clear h0 
  dsimp only at m0 m1 m2 m3 m4 m5 HB
  go_enter Tryz.func209, Tryz.ntmps209
  go_upto_region 1 with fail
  rw [HW1.out, ← hH]
  clear hH HW1
  go_wp2_with fail
  refine bodyPost_ret (v := (saidF x).v) (by rw [HC.out]; simp [results, Tryz.results209, go_sem, m0, m1, m2, m3, m4, m5, CcD.v]) rfl ?_
  exact ⟨rfl, by rw [HW.out]; exact HB.out⟩
 have t0 : (x.toList == nsW.toList) = false := text_beq_no h0
 rw [nsW_list] at t0
 by_cases h1 : x = ncW
 ·have t1 : (x.toList == ncW.toList) = true := (text_beq _ _).2 h1
  rw [ncW_list] at t1
  rw [if_neg h0, if_pos h1] at hc
  subst hc
  clear h1 h0
  dsimp only at m0 m1 m2 m3 m4 m5 HB
  go_enter Tryz.func209, Tryz.ntmps209
  go_upto_region 1 with fail
  rw [HW1.out, ← hH]
  clear hH HW1
  go_wp2_with fail
  refine bodyPost_ret (v := (saidF x).v) (by rw [HC.out]; simp [results, Tryz.results209, go_sem, m0, m1, m2, m3, m4, m5, CcD.v]) rfl ?_
  exact ⟨rfl, by rw [HW.out]; exact HB.out⟩
 have t1 : (x.toList == ncW.toList) = false := text_beq_no h1
 rw [ncW_list] at t1
 by_cases h2 : x = prW
 ·have t2 : (x.toList == prW.toList) = true := (text_beq _ _).2 h2
  rw [prW_list] at t2
  rw [if_neg h0, if_neg h1, if_pos h2] at hc
  subst hc
  clear h2 h0 h1
  dsimp only at m0 m1 m2 m3 m4 m5 HB
  go_enter Tryz.func209, Tryz.ntmps209
  go_upto_region 1 with fail
  rw [HW1.out, ← hH]
  clear hH HW1
  go_wp2_with fail
  refine bodyPost_ret (v := (saidF x).v) (by rw [HC.out]; simp [results, Tryz.results209, go_sem, m0, m1, m2, m3, m4, m5, CcD.v]) rfl ?_
  exact ⟨rfl, by rw [HW.out]; exact HB.out⟩
 have t2 : (x.toList == prW.toList) = false := text_beq_no h2
 rw [prW_list] at t2
 by_cases h4 : x = muW
 ·have t3 : (x.toList == muW.toList) = true := (text_beq _ _).2 h4
  rw [muW_list] at t3
  rw [if_neg h0, if_neg h1, if_neg h2, if_pos h4] at hc
  subst hc
  clear h4 h0 h1 h2
  dsimp only at m0 m1 m2 m3 m4 m5 HB
  go_enter Tryz.func209, Tryz.ntmps209
  go_upto_region 1 with fail
  rw [HW1.out, ← hH]
  clear hH HW1
  go_wp2_with fail
  refine bodyPost_ret (v := (saidF x).v) (by rw [HC.out]; simp [results, Tryz.results209, go_sem, m0, m1, m2, m3, m4, m5, CcD.v]) rfl ?_
  exact ⟨rfl, by rw [HW.out]; exact HB.out⟩
 have t3 : (x.toList == muW.toList) = false := text_beq_no h4
 rw [muW_list] at t3
 rw [if_neg h0, if_neg h1, if_neg h2, if_neg h4] at hc
 subst hc
 clear h0 h1 h2 h4
 dsimp only [cc0] at m0 m1 m2 m3 m4 m5 HB
 go_enter Tryz.func209, Tryz.ntmps209
 go_upto_region 1 with fail
 rw [HW1.out, ← hH]
 clear hH HW1
 go_wp2_with fail
 refine bodyPost_ret (v := (saidF x).v) (by rw [HC.out]; simp [results, Tryz.results209, go_sem, m0, m1, m2, m3, m4, m5, CcD.v, cc0]) rfl ?_
 exact ⟨rfl, by rw [HW.out]; exact HB.out⟩
end Go.Proofs.YtpacdigfnneoeaaGreatDoor
