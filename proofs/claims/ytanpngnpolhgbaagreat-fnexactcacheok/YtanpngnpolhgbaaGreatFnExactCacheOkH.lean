/- What the proof of FnExactCacheOk leans on: contracts of the program's and the specification's functions, and plain facts (part 8 of 9). -/
import Derived.Test.YtanpngnpolhgbaaGreatFnExactCacheOkG
set_option maxHeartbeats 16000000
set_option maxRecDepth 100000
namespace Go.Proofs.YtanpngnpolhgbaaGreat
open Go.RowKit
open Go.Lib hiding intOf
theorem pre_age {x : ByteArray} (h : Lib.hasPrefix x.data.toList maW.data.toList = true) : ageOf x = some (numV ⟨(Lib.trimPrefix x.data.toList maW.data.toList).toArray⟩) := by
 unfold ageOf
 have e : (bs x).take 8 = bs maW := by
  have := List.isPrefixOf_iff_prefix.1 h
  obtain ⟨t, ht⟩ := this
  show x.data.toList.take 8 = _
  rw [← ht]
  rfl
 rw [if_pos e]
 unfold Lib.trimPrefix
 rw [if_pos h]
 rfl
theorem pre_none {x : ByteArray} (h : Lib.hasPrefix x.data.toList maW.data.toList = false) : ageOf x = none := by
 unfold ageOf
 rw [if_neg]
 intro e
 have : Lib.hasPrefix x.data.toList maW.data.toList = true := by
  refine List.isPrefixOf_iff_prefix.2 ⟨x.data.toList.drop 8, ?_⟩
  have e' : x.data.toList.take 8 = maW.data.toList := e
  rw [← e', List.take_append_drop]
 rw [this] at h
 cases h
theorem saidBy_any (x : ByteArray) (w : World) (hs : x.size ≤ 4000000) :
  Calls Tryz.prog 156 #[.string x] w fun e w' => e = .returned (saidB x).v ∧ Below w.heap.size w w' := by
 have HR0 : Hid (CcAt (w.alloc (.cells cc0.cs 114)) w.heap.size cc0) := heap_alloc_new w _
 have HB0 : Hid (Below w.heap.size w (w.alloc (.cells cc0.cs 114))) := (Below.refl _ _).alloc (Nat.le_refl _) _
 obtain ⟨W1, hW1⟩ := exq (w.alloc (.cells cc0.cs 114))
 have HW1 : Hid (w.alloc (.cells #[.bool false, .bool false, .bool false, .bool false, .bool false, .int .i64 0] 114) = W1) := hW1.symm
 rw [← hW1] at HR0 HB0
 obtain ⟨H, hH⟩ := exq (w.heap.size)
 have HW : Hid (w.heap.size = H) := hH.symm
 rw [← hH] at HR0 HB0
 clear hW1
 cases hp : Lib.hasPrefix x.data.toList maW.data.toList with
 | true =>
  have HA : Hid _ := pre_age hp
  obtain ⟨t, ht⟩ : ∃ t : ByteArray, t = ⟨(Lib.trimPrefix x.data.toList maW.data.toList).toArray⟩ := ⟨_, rfl⟩
  have hts : t.size ≤ maxLen := by
   rw [ht]
   unfold Lib.trimPrefix maxLen
   rw [if_pos hp]
   show (List.toArray _).size ≤ _
   simp
   omega
  rw [← ht] at HA
  have HT : Hid (⟨(Lib.trimPrefix x.data.toList maW.data.toList).toArray⟩ = t) := ht.symm
  clear ht
  go_enter Tryz.func156, Tryz.ntmps156
  go_wp2_with fail
  rw [HW1.out, ← hH]
  refine (Tryz.strings_CutPrefix x maW _).mono ?_
  rintro e w1 ⟨rfl, rfl⟩
  rw [hp, HT.out]
  clear hp hH HW1
  go_wp2_with fail
  refine (implNumRead_any t _ hts).mono ?_
  rintro e w2 ⟨b, n, rfl, hb1, hb2, hb3, b2⟩
  have HV : Hid (numV t = n) := by
   show _ = _
   unfold numV
   cases b with
   | true => rw [if_pos (hb1.1 rfl), hb2 rfl]
   | false => rw [if_neg (fun h => nomatch hb1.2 h), hb3 rfl]
  obtain ⟨c, hc⟩ : ∃ c : CcD, c = ⟨false, false, false, false, true, n⟩ := ⟨_, rfl⟩
  have HC : Hid (saidB x = c) := by show _ = _; unfold saidB; rw [HA.out, HV.out, hc]
  have hR := HR0.out.same (b2.block _ HR0.out.lt)
  have HB : Hid (Below H w (putCc w2 H c)) := below_putCc (HB0.out.trans (b2.mono (Nat.le_of_lt HR0.out.lt))) (Nat.le_refl _) c
  obtain ⟨r0, r1, r2, r3, r4, r5⟩ := hR.cells
  have f0 := hR.frozen 0
  have f1 := hR.frozen 1
  have f2 := hR.frozen 2
  have f3 := hR.frozen 3
  have f4 := hR.frozen 4
  have f5 := hR.frozen 5
  obtain ⟨m0, m1, m2, m3, m4, m5⟩ := (hR.putAll c).cells
  unfold putCc at m0 m1 m2 m3 m4 m5 HB
  subst hc
  dsimp only at m0 m1 m2 m3 m4 m5 HB
  clear hb1 hb2 hb3 hR b2 HR0 HB0 HA
  go_wp2_with fail
  refine bodyPost_ret (v := CcD.v ⟨false, false, false, false, true, n⟩) (by simp [results, Tryz.results156, go_sem, m0, m1, m2, m3, m4, m5, CcD.v]) rfl ?_
  exact ⟨by rw [HC.out], by rw [HW.out]; exact HB.out⟩
 | false =>
  have HA : Hid (saidB x = saidF x) := by show _ = _; unfold saidB; rw [pre_none hp]
  go_enter Tryz.func156, Tryz.ntmps156
  go_wp2_with fail
  rw [HW1.out, ← hH]
  refine (Tryz.strings_CutPrefix x maW _).mono ?_
  rintro e w1 ⟨rfl, rfl⟩
  rw [hp]
  clear hp hH HW1
  go_wp2_with fail
  refine (saidByFlag_any x _).mono ?_
  rintro e w2 ⟨rfl, b2⟩
  obtain ⟨c, hc⟩ := exq (saidF x)
  rw [← hc] at HA ⊢
  have hR := HR0.out.same (b2.block _ HR0.out.lt)
  have HB : Hid (Below H w (putCc w2 H c)) := below_putCc (HB0.out.trans (b2.mono (Nat.le_of_lt HR0.out.lt))) (Nat.le_refl _) c
  obtain ⟨r0, r1, r2, r3, r4, r5⟩ := hR.cells
  have f0 := hR.frozen 0
  have f1 := hR.frozen 1
  have f2 := hR.frozen 2
  have f3 := hR.frozen 3
  have f4 := hR.frozen 4
  have f5 := hR.frozen 5
  obtain ⟨m0, m1, m2, m3, m4, m5⟩ := (hR.putAll c).cells
  unfold putCc at m0 m1 m2 m3 m4 m5 HB
  clear hc hR b2 HR0 HB0
  unfold CcD.v
  go_wp2_with fail
  refine bodyPost_ret (v := c.v) (by simp [results, Tryz.results156, go_sem, m0, m1, m2, m3, m4, m5, CcD.v]) rfl ?_
  exact ⟨by rw [HA.out], by rw [HW.out]; exact HB.out⟩
/-- While words are read, here. -/
structure CiRd (w : World) (H : Nat) (c : CcD) (v : Value) (l : List ByteArray) (wr : World) : Prop where
 res : CcAt wr H cc0
 cur : CcAt wr (H + 1) c
 row : wr.ownsRow (H + 1 + 1) 9 1 v l.length (l.map Value.string)
 low : Below H w wr
theorem CiRd.later {w : World} {H : Nat} {c : CcD} {v : Value} {l : List ByteArray} {wr w' : World} (h : CiRd w H c v l wr) (hb : Below wr.heap.size wr w') : CiRd w H c v l w' :=
 ⟨h.res.same (hb.block _ h.res.lt), h.cur.same (hb.block _ h.cur.lt), owns_below h.row hb (fun _ hg => owns_lt h.row hg), h.low.trans (hb.mono (Nat.le_of_lt h.res.lt))⟩
theorem CiRd.putCc {w : World} {H : Nat} {c : CcD} {v : Value} {l : List ByteArray} {wr : World} (h : CiRd w H c v l wr) (d : CcD) : CiRd w H d v l (putCc wr (H + 1) d) :=
 ⟨h.res.same (putCc_other (by omega)), h.cur.putAll d, owns_same h.row (fun j hj => putCc_other (by have := (own_ltR h.row hj).1; omega)), below_putCc h.low (by omega) d⟩
theorem implCcRead_any (s : ByteArray) (w : World) (hs : s.size ≤ 1048576) :
  Calls Tryz.prog 150 #[.string s] w fun e w' => e = .returned (ccR s).v ∧ Below w.heap.size w w' := by
 obtain ⟨H, hH⟩ := exq (w.heap.size)
 have HW : Hid (w.heap.size = H) := hH.symm
 obtain ⟨W0, hW0⟩ := exq ((w.alloc (.cells cc0.cs 114)).alloc (.cells cc0.cs 114))
 have HA : Hid (CcAt W0 H cc0 ∧ CcAt W0 (H + 1) cc0 ∧ Below H w W0 ∧ W0.heap.size = H + 1 + 1) := by
  have e1 := heap_alloc_new w (.cells cc0.cs 114)
  have e2 := heap_alloc_new (w.alloc (.cells cc0.cs 114)) (.cells cc0.cs 114)
  rw [World.size_alloc] at e2
  refine ⟨?_, ?_, ?_, ?_⟩
  · unfold CcAt; rw [hW0, hH, heap_alloc_old _ _ (by simp)]; exact e1
  · unfold CcAt; rw [hW0, hH]; exact e2
  · rw [hW0, hH]; exact ((Below.refl _ w).alloc (Nat.le_refl _) _).alloc (by simp) _
  · rw [hW0, hH]; simp
 have HW0 : Hid ((w.alloc (.cells #[.bool false, .bool false, .bool false, .bool false, .bool false, .int .i64 0] 114)).alloc (.cells #[.bool false, .bool false, .bool false, .bool false, .bool false, .int .i64 0] 114) = W0) := hW0.symm
 clear hW0
 go_enter Tryz.func150, Tryz.ntmps150
 go_wp2_with fail
 rw [HW0.out, ← hH]
 clear hH
 refine (implSplit_any s _ hs).mono ?_
 rintro e w0 ⟨v, rfl, hown, bb⟩
 rw [HA.out.2.2.2] at hown bb
 obtain ⟨l, hl⟩ := exq (splitL s)
 rw [← hl] at hown
 have HLS : Hid (splitL s = l) := hl.symm
 have HLB : Hid (∀ x ∈ l, x.size ≤ 1048576) := fun x hx => by rw [hl] at hx; have := (splitL_le s).2 x hx; omega
 have hll : l.length ≤ 1048577 := by rw [hl]; have := (splitL_le s).1; omega
 have HS1 : Hid (CiRd w H (ccTo (l.take 0)) v l w0) := ⟨HA.out.1.same (bb.block _ (by omega)), HA.out.2.1.same (bb.block _ (by omega)), hown, HA.out.2.2.1.trans (bb.mono (by omega))⟩
 obtain ⟨oa, cp, rfl⟩ := slice_of_owns hown
 obtain ⟨n, hn⟩ := exq l.length
 have HN : Hid (l.length = n) := hn.symm
 rw [← hn] at hll HS1 ⊢
 clear hown bb hl hn
 go_wp2_with fail
 go_loopw [9] (fun i wr => ∃ k : Nat, k ≤ n ∧ i = .int .i64 (k : Int) ∧ Hid (CiRd w H (ccTo (l.take k)) (.slice oa n cp) l wr)) (fun i _ => n - (intOf i).toNat)
 case atStart => exact ⟨0, Nat.zero_le _, rfl, HS1⟩
 case round =>
  obtain ⟨k, hk, rfl, HS⟩ := hrel
  by_cases hlt : (k : Int) < (n : Int)
  ·
   have hkl : k < l.length := by have := HN.out; omega
   obtain ⟨g, rfl⟩ : ∃ g, oa = some ⟨g, 0, none⟩ := by
    rcases HS.out.row.2 with ⟨e, _⟩ | ⟨g, _, _, e, _⟩
    · injection e with _ e2 _; omega
    · injection e with e1 _ _; exact ⟨g, e1⟩
   obtain ⟨x, hx⟩ := exq (l[k]'hkl)
   have hc0 : wr.cell? ⟨g, k, none⟩ = some (.string x) := by
    have hr := HS.out.row
    rw [HN.out] at hr
    exact (owns_cellC hr k (.string x) (by rw [List.getElem?_map, List.getElem?_eq_getElem hkl, hx]; rfl)).1
   have hxs : x.size ≤ 1048576 := by rw [hx]; exact HLB.out _ (List.getElem_mem hkl)
   obtain ⟨y, hy⟩ := exq (lowerOf x)
   have hys : y.size ≤ 4000000 := by rw [hy, ccLow_size]; omega
   have HY : Hid (lowerOf x = y) := hy.symm
   obtain ⟨d, hd⟩ := exq (ccTo (l.take (k + 1)))
   obtain ⟨c, hc⟩ := exq (ccTo (l.take k))
   obtain ⟨u, hu⟩ := exq (saidB y)
   have HSB : Hid (saidB y = u) := hu.symm
   have HTD : Hid (toge c u = d) := by
    show _ = _
    rw [hd, List.take_succ_eq_append_getElem hkl, ccTo_snoc, ← hx, ← hy, step_toge (ccTo_fit _), hc, hu]
   have HTG : Hid (∀ W, Calls Tryz.prog 155 #[.agg #[.bool c.ns, .bool c.nc, .bool c.pr, .bool c.mu, .bool c.ha, .int .i64 c.age], .agg #[.bool u.ns, .bool u.nc, .bool u.pr, .bool u.mu, .bool u.ha, .int .i64 u.age]] W fun e w' => e = .returned (toge c u).v ∧ Below W.heap.size W w') := fun W => together_any c u W
   have HD : Hid (∀ W, CiRd w H d (.slice (some ⟨g, 0, none⟩) n cp) l W → CiRd w H (ccTo (l.take (k + 1))) (.slice (some ⟨g, 0, none⟩) n cp) l W) := fun W h => by rw [← hd]; exact h
   rw [← hc] at HS
   clear hx hy hkl hc hd hu
   have HT1 : Hid (CiRd w H c (.slice (some ⟨g, 0, none⟩) n cp) l wr.drew) := HS.out.later (Below.refl _ _).drew
   go_upto_region 5 with fail
   clear hc0 HS
   refine wp_region_held_drew (S := fun _ => True) (by kernel_rfl) trivial (fun _ => ?_)
   refine wpAnyH_takeD (i := 1) (v := .string x) (some 14) rfl rfl (by kernel_rfl) (by kernel_rfl) (by kernel_rfl) (fun _ _ _ h => h) (Or.inl ⟨by rfl, by intro W _; go_simp⟩) trivial ?_
   go_frame
   refine wpAnyH_ready (rs := [0, 2]) (by kernel_rfl) (by simp) ?_
   refine AllReadyH.cons rfl (fun K hK => ?_) (AllReadyH.cons rfl (fun K hK => ?_) AllReadyH.nil)
   ·
    obtain ⟨q0, q1, q2, q3, q4, q5⟩ := HT1.out.cur.cells
    go_simp
    refine hK.out _ _ trivial (fun _ => ?_)
    clear hK K q0 q1 q2 q3 q4 q5
    refine rd1 2 rfl (fun K hK => ?_)
    go_simp
    refine (implLower_any x _).mono ?_
    rintro e w2 ⟨rfl, hb2⟩
    rw [HY.out]
    have HT2 : Hid (CiRd w H c (.slice (some ⟨g, 0, none⟩) n cp) l w2) := HT1.out.later hb2
    clear hb2
    refine hK.out _ _ trivial (fun _ => ?_)
    clear hK K HT1
    refine rd1 3 rfl (fun K hK => ?_)
    go_simp
    refine (saidBy_any y _ hys).mono ?_
    rintro e w3 ⟨rfl, hb3⟩
    rw [HSB.out]
    unfold CcD.v
    have HT3 : Hid (CiRd w H c (.slice (some ⟨g, 0, none⟩) n cp) l w3) := HT2.out.later hb3
    clear hb3
    refine hK.out _ _ trivial (fun _ => ?_)
    clear hK K HT2
    refine rd1 4 rfl (fun K hK => ?_)
    go_simp
    refine (HTG.out _).mono ?_
    rintro e w4 ⟨rfl, hb4⟩
    rw [HTD.out]
    unfold CcD.v
    have HT4 : Hid (CiRd w H c (.slice (some ⟨g, 0, none⟩) n cp) l w4) := HT3.out.later hb4
    clear hb4
    refine hK.out _ _ trivial (fun _ => ?_)
    clear hK K HT3
    refine rd1 5 rfl (fun K hK => ?_)
    have HZ : Hid (CiRd w H d (.slice (some ⟨g, 0, none⟩) n cp) l (putCc w4 (H + 1) d)) := HT4.out.putCc d
    obtain ⟨q0, q1, q2, q3, q4, q5⟩ := HT4.out.cur.cells
    have f0 := HT4.out.cur.frozen 0
    have f1 := HT4.out.cur.frozen 1
    have f2 := HT4.out.cur.frozen 2
    have f3 := HT4.out.cur.frozen 3
    have f4 := HT4.out.cur.frozen 4
    have f5 := HT4.out.cur.frozen 5
    unfold putCc at HZ
    clear HT4
    go_simp
    refine hK.out _ _ trivial (fun _ => ?_)
    clear hK K q0 q1 q2 q3 q4 q5 f0 f1 f2 f3 f4 f5
    refine wpAnyH_done (by kernel_rfl) ?_ _
    go_wp2_with fail
    go_roundw
    case rel => exact ⟨k + 1, by omega, by go_num, HD.out _ HZ.out⟩
    case measure => simp [intOf]; omega
   ·
    go_simp
    refine (implLower_any x _).mono ?_
    rintro e w2 ⟨rfl, hb2⟩
    rw [HY.out]
    have HT2 : Hid (CiRd w H c (.slice (some ⟨g, 0, none⟩) n cp) l w2) := HT1.out.later hb2
    clear hb2
    refine hK.out _ _ trivial (fun _ => ?_)
    clear hK K HT1
    refine wpAnyH_ready (rs := [0, 3]) (by kernel_rfl) (by simp) ?_
    refine AllReadyH.cons rfl (fun K hK => ?_) (AllReadyH.cons rfl (fun K hK => ?_) AllReadyH.nil)
    ·
     obtain ⟨q0, q1, q2, q3, q4, q5⟩ := HT2.out.cur.cells
     go_simp
     refine hK.out _ _ trivial (fun _ => ?_)
     clear hK K q0 q1 q2 q3 q4 q5
     refine rd1 3 rfl (fun K hK => ?_)
     go_simp
     refine (saidBy_any y _ hys).mono ?_
     rintro e w3 ⟨rfl, hb3⟩
     rw [HSB.out]
     unfold CcD.v
     have HT3 : Hid (CiRd w H c (.slice (some ⟨g, 0, none⟩) n cp) l w3) := HT2.out.later hb3
     clear hb3
     refine hK.out _ _ trivial (fun _ => ?_)
     clear hK K HT2
     refine rd1 4 rfl (fun K hK => ?_)
     go_simp
     refine (HTG.out _).mono ?_
     rintro e w4 ⟨rfl, hb4⟩
     rw [HTD.out]
     unfold CcD.v
     have HT4 : Hid (CiRd w H c (.slice (some ⟨g, 0, none⟩) n cp) l w4) := HT3.out.later hb4
     clear hb4
     refine hK.out _ _ trivial (fun _ => ?_)
     clear hK K HT3
     refine rd1 5 rfl (fun K hK => ?_)
     have HZ : Hid (CiRd w H d (.slice (some ⟨g, 0, none⟩) n cp) l (putCc w4 (H + 1) d)) := HT4.out.putCc d
     obtain ⟨q0, q1, q2, q3, q4, q5⟩ := HT4.out.cur.cells
     have f0 := HT4.out.cur.frozen 0
     have f1 := HT4.out.cur.frozen 1
     have f2 := HT4.out.cur.frozen 2
     have f3 := HT4.out.cur.frozen 3
     have f4 := HT4.out.cur.frozen 4
     have f5 := HT4.out.cur.frozen 5
     unfold putCc at HZ
     clear HT4
     go_simp
     refine hK.out _ _ trivial (fun _ => ?_)
     clear hK K q0 q1 q2 q3 q4 q5 f0 f1 f2 f3 f4 f5
     refine wpAnyH_done (by kernel_rfl) ?_ _
     go_wp2_with fail
     go_roundw
     case rel => exact ⟨k + 1, by omega, by go_num, HD.out _ HZ.out⟩
     case measure => simp [intOf]; omega
    ·
     go_simp
     refine (saidBy_any y _ hys).mono ?_
     rintro e w3 ⟨rfl, hb3⟩
     rw [HSB.out]
     unfold CcD.v
     have HT3 : Hid (CiRd w H c (.slice (some ⟨g, 0, none⟩) n cp) l w3) := HT2.out.later hb3
     clear hb3
     refine hK.out _ _ trivial (fun _ => ?_)
     clear hK K HT2
     refine rd1 0 rfl (fun K hK => ?_)
     obtain ⟨q0, q1, q2, q3, q4, q5⟩ := HT3.out.cur.cells
     go_simp
     refine hK.out _ _ trivial (fun _ => ?_)
     clear hK K q0 q1 q2 q3 q4 q5
     refine rd1 4 rfl (fun K hK => ?_)
     go_simp
     refine (HTG.out _).mono ?_
     rintro e w4 ⟨rfl, hb4⟩
     rw [HTD.out]
     unfold CcD.v
     have HT4 : Hid (CiRd w H c (.slice (some ⟨g, 0, none⟩) n cp) l w4) := HT3.out.later hb4
     clear hb4
     refine hK.out _ _ trivial (fun _ => ?_)
     clear hK K HT3
     refine rd1 5 rfl (fun K hK => ?_)
     have HZ : Hid (CiRd w H d (.slice (some ⟨g, 0, none⟩) n cp) l (putCc w4 (H + 1) d)) := HT4.out.putCc d
     obtain ⟨q0, q1, q2, q3, q4, q5⟩ := HT4.out.cur.cells
     have f0 := HT4.out.cur.frozen 0
     have f1 := HT4.out.cur.frozen 1
     have f2 := HT4.out.cur.frozen 2
     have f3 := HT4.out.cur.frozen 3
     have f4 := HT4.out.cur.frozen 4
     have f5 := HT4.out.cur.frozen 5
     unfold putCc at HZ
     clear HT4
     go_simp
     refine hK.out _ _ trivial (fun _ => ?_)
     clear hK K q0 q1 q2 q3 q4 q5 f0 f1 f2 f3 f4 f5
     refine wpAnyH_done (by kernel_rfl) ?_ _
     go_wp2_with fail
     go_roundw
     case rel => exact ⟨k + 1, by omega, by go_num, HD.out _ HZ.out⟩
     case measure => simp [intOf]; omega
  ·
   obtain rfl : k = n := by omega
   have HE : Hid (ccTo (l.take k) = ccR s) := by
    show _ = _
    rw [List.take_of_length_le (by rw [HN.out]; exact Nat.le_refl _)]
    unfold ccR
    rw [HLS.out]
   rw [HE.out] at HS
   obtain ⟨c, hc⟩ := exq (ccR s)
   rw [← hc] at HS
   have HC : Hid (c = ccR s) := hc
   obtain ⟨q0, q1, q2, q3, q4, q5⟩ := HS.out.cur.cells
   obtain ⟨r0, r1, r2, r3, r4, r5⟩ := HS.out.res.cells
   have f0 := HS.out.res.frozen 0
   have f1 := HS.out.res.frozen 1
   have f2 := HS.out.res.frozen 2
   have f3 := HS.out.res.frozen 3
   have f4 := HS.out.res.frozen 4
   have f5 := HS.out.res.frozen 5
   obtain ⟨m0, m1, m2, m3, m4, m5⟩ := (HS.out.res.putAll c).cells
   have HB : Hid (Below H w (putCc wr H c)) := below_putCc HS.out.low (Nat.le_refl _) c
   clear hc HE
   unfold putCc at m0 m1 m2 m3 m4 m5 HB
   go_wp2_with fail
   refine bodyPost_ret (v := c.v) (by simp [results, Tryz.results150, go_sem, m0, m1, m2, m3, m4, m5, CcD.v]) rfl ?_
   exact ⟨by rw [HC.out], by rw [HW.out]; exact HB.out⟩
theorem implCcOf_any (v : Value) (n base : Nat) (fs : List (ByteArray × ByteArray)) (w : World) (hv : FieldsV w base v n fs) (hn : n ≤ 1073741824) (hcp : CopyF fs) (hsz : (getV fs ccName).size ≤ 1048576) :
  Calls Tryz.prog 140 #[v] w fun e w' => e = .returned (ccR (getV fs ccName)).v ∧ Below w.heap.size w w' := by
 have hv1 : FieldsV (w.alloc (.cells cc0.cs 114)) base v n fs := hv.below ((Below.refl _ _).alloc (Nat.le_refl _) _)
 have HR0 : Hid (CcAt (w.alloc (.cells cc0.cs 114)) w.heap.size cc0) := heap_alloc_new w _
 have HB0 : Hid (Below w.heap.size w (w.alloc (.cells cc0.cs 114))) := (Below.refl _ _).alloc (Nat.le_refl _) _
 obtain ⟨t, ht⟩ := exq (getV fs ccName)
 have HT : Hid (getV fs ccName = t) := ht.symm
 rw [← ht] at hsz
 obtain ⟨c, hc⟩ := exq (ccR t)
 have HC : Hid (ccR t = c) := hc.symm
 rw [← ht, ← hc]
 clear ht hc hv
 go_enter Tryz.func140, Tryz.ntmps140
 go_wp2_with fail
 refine (implGet_any v n base fs ccName _ hv1 hn hcp).mono ?_
 rintro e w1 ⟨rfl, b1⟩
 rw [HT.out]
 have HR1 : Hid (CcAt w1 w.heap.size cc0) := HR0.out.same (b1.block _ HR0.out.lt)
 have HB1 : Hid (Below w.heap.size w w1) := HB0.out.trans (b1.mono (Nat.le_of_lt HR0.out.lt))
 clear hv1 b1 HR0 HB0
 go_wp2_with fail
 refine (implCcRead_any t _ hsz).mono ?_
 rintro e w2 ⟨rfl, b2⟩
 rw [HC.out]
 have hR := HR1.out.same (b2.block _ HR1.out.lt)
 obtain ⟨r0, r1, r2, r3, r4, r5⟩ := hR.cells
 have f0 := hR.frozen 0
 have f1 := hR.frozen 1
 have f2 := hR.frozen 2
 have f3 := hR.frozen 3
 have f4 := hR.frozen 4
 have f5 := hR.frozen 5
 obtain ⟨m0, m1, m2, m3, m4, m5⟩ := (hR.putAll c).cells
 have HB : Hid (Below w.heap.size w (putCc w2 w.heap.size c)) := below_putCc (HB1.out.trans (b2.mono (Nat.le_of_lt HR1.out.lt))) (Nat.le_refl _) c
 unfold putCc at m0 m1 m2 m3 m4 m5 HB
 clear hR b2 HR1 HB1
 unfold CcD.v
 go_wp2_with fail
 refine bodyPost_ret (v := c.v) (by simp [results, Tryz.results140, go_sem, m0, m1, m2, m3, m4, m5, CcD.v]) rfl ?_
 exact ⟨rfl, HB.out⟩
end Go.Proofs.YtanpngnpolhgbaaGreat
namespace Go.Proofs.YtanpngnpolhgbaaGreat
open Go.RowKit
open Go.Lib hiding intOf
theorem isRightGet_any (m : Int) (p : ByteArray) (v : Value) (b : ByteArray) (n base : Nat) (fs : List (ByteArray × ByteArray)) (w : World) (hv : FieldsV w base v n fs) (hn : n ≤ 1073741824) (hsz : WalkF n fs) (hp : p.size ≤ maxLen) (hb : b.size ≤ maxLen) :
  Calls Tryz.prog 139 #[.agg #[.int .i64 m, .string p, v, .string b]] w fun e w' => BoolIs (ReqP m p fs b ∧ m = 1) w e w' := by
 obtain ⟨oa, cap, rfl, _⟩ := hv.slice
 obtain ⟨r, hr⟩ := exq (w.heap.size)
 obtain ⟨W1, hW1⟩ := exq (w.alloc (.cells #[.int .i64 m, .string p, .slice oa n cap, .string b] 60))
 have HW1 : Hid (w.alloc (.cells #[.int .i64 m, .string p, .slice oa n cap, .string b] 60) = W1) := hW1.symm
 have H1 : Hid (W1.heap[r]? = some (.cells #[.int .i64 m, .string p, .slice oa n cap, .string b] 60)) := by show _ = _; rw [hW1, hr]; exact heap_alloc_new w _
 have HB1 : Hid (Below w.heap.size w W1) := by show Below _ _ _; rw [hW1]; exact (Below.refl _ _).alloc (Nat.le_refl _) _
 have hv1 := hv.below HB1.out
 obtain ⟨⟨c0, c1, c2, c3⟩, _⟩ := four_facts H1.out
 clear hW1 hv
 go_enter Tryz.func139, Tryz.ntmps139
 go_upto_region 1 with fail
 rw [HW1.out, ← hr]
 clear hr HW1
 go_wp2_with fail
 refine (implReqOk_any m p _ b n base fs _ hv1 hn hsz hp hb).mono ?_
 rintro e w2 ⟨t, rfl, ht, b2⟩
 have HB2 : Hid (Below w.heap.size w w2) := HB1.out.trans (b2.mono HB1.out.size)
 have H2 : Hid (w2.heap[r]? = some (.cells #[.int .i64 m, .string p, .slice oa n cap, .string b] 60)) := by show _ = _; rw [b2.block r (Array.getElem?_eq_some_iff.1 H1.out).1]; exact H1.out
 clear c0 c1 c2 c3 hv1 H1 HB1 b2
 cases t with
 | false =>
  have HF : Hid (¬ (ReqP m p fs b ∧ m = 1)) := fun h => nomatch ht.2 h.1
  clear ht
  go_wp2_with fail
  go_ret
  exact BoolIs.no HF.out HB2.out
 | true =>
  have HQ : Hid (ReqP m p fs b) := ht.1 rfl
  obtain ⟨⟨c0, _⟩, _⟩ := four_facts H2.out
  have HT : Hid ((m == 1) = true ↔ (ReqP m p fs b ∧ m = 1)) := by show _ ↔ _; simp [HQ.out]
  clear ht HQ H2
  go_wp2_with fail
  go_ret
  exact ⟨_, rfl, HT.out, HB2.out⟩
end Go.Proofs.YtanpngnpolhgbaaGreat
namespace Go.Proofs.YtanpngnpolhgbaaGreat
open Go.RowKit
open Go.Lib hiding intOf
theorem mayBeFromHere_any (ma : Int) (pa : ByteArray) (va : Value) (ba : ByteArray) (na basea : Nat) (fsa : List (ByteArray × ByteArray)) (w : World) (hva : FieldsV w basea va na fsa) (hna : na ≤ 1048576) (hsa : WalkF na fsa) (hpa : pa.size ≤ maxLen) (hba : ba.size ≤ maxLen) (hga : ∀ x, (getV fsa x).size ≤ 1048576) (hca : CopyF fsa) :
  Calls Tryz.prog 121 #[.agg #[.int .i64 ma, .string pa, va, .string ba]] w fun e w' => BoolIs (HereP ma pa fsa ba) w e w' := by
 obtain ⟨oa, ca, hsl, _⟩ := hva.slice
 subst hsl
 have HVa : Hid (∀ W, Below w.heap.size w W → FieldsV W basea (.slice oa na ca) na fsa) := fun W h => hva.below h
 have HLFa : Hid (fsa.length = na) := hva.len
 have HSa : Hid (WalkF na fsa) := hsa
 have HPMa : Hid (pa.size ≤ maxLen) := hpa
 have HBMa : Hid (ba.size ≤ maxLen) := hba
 have HQVa : Hid (∀ x, (getV fsa x).size ≤ 1048576) := hga
 have HCa : Hid (CopyF fsa) := hca
 clear hva hsa hpa hba hga hca
 obtain ⟨ka, hka⟩ := exq (ccR (getV fsa ccName))
 have HCCa : Hid (∀ W, Below w.heap.size w W → Calls Tryz.prog 140 #[.slice oa na ca] W fun e w' => e = .returned (.agg #[.bool ka.ns, .bool ka.nc, .bool ka.pr, .bool ka.mu, .bool ka.ha, .int .i64 ka.age]) ∧ Below W.heap.size W w') := fun W hW => by
  have h := implCcOf_any _ na basea fsa W (HVa.out W hW) (by omega) HCa.out (HQVa.out _)
  rw [← hka] at h
  exact h
 have HCKa : Hid (ccR (getV fsa ccName) = ka) := hka.symm
 clear hka
 obtain ⟨xa0, xa1, xa2, xa3, xa4, xa5⟩ := ka
 dsimp only at HCCa
 have hfna := fun W => cc_ns xa0 xa1 xa2 xa3 xa4 xa5 W
 have hfca := fun W => cc_nc xa0 xa1 xa2 xa3 xa4 xa5 W
 have hb0 : Below w.heap.size w w := Below.refl _ _
 go_enter Tryz.func121, Tryz.ntmps121
 go_upto_region 1 with fail
 obtain ⟨qv1, hqv1⟩ := exq ((w).heap.size)
 obtain ⟨w1, hW1⟩ := exq ((w).alloc (.cells #[.int .i64 ma, .string pa, .slice oa na ca, .string ba] 60))
 have hz1 : (w).heap.size = qv1 := hqv1.symm
 first | rw [← hW1, ← hqv1] | rw [← hW1]
 have hs1 := hsa hW1 hz1
 have bw := bal hW1
 have hb1 := hbt hb0 bw
 have HBv1_1 := hnew hW1 hz1
 clear hb0 bw hW1 hz1
 clear hs1 hqv1
 have cv1_0 := (k4c HBv1_1).1
 have cv1_1 := (k4c HBv1_1).2.1
 have cv1_2 := (k4c HBv1_1).2.2.1
 have cv1_3 := (k4c HBv1_1).2.2.2
 go_wp2_with fail
 refine (isRightGet_any ma pa _ ba na basea fsa _ (HVa.out _ hb1) (by omega) HSa.out HPMa.out HBMa.out).mono ?_
 rintro e w2 ⟨rg, rfl, hrg, bw⟩
 have hb2 := hbt hb1 bw
 have HBv1_2 := hblk HBv1_1 bw
 clear hb1 HBv1_1 bw
 clear cv1_0 cv1_1 cv1_2 cv1_3
 cases rg with
 | false =>
  have HNrg : Hid (¬ (ReqP ma pa fsa ba ∧ ma = 1)) := fun h => nomatch hrg.2 h
  clear hrg
  go_wp2_with fail
  go_ret
  exact BoolIs.no (fun h => HNrg.out h.1) hb2
 | true =>
  have HYrg : Hid (ReqP ma pa fsa ba ∧ ma = 1) := hrg.1 rfl
  clear hrg
  have cv1_2 := (k4c HBv1_2).2.2.1
  go_wp2_with fail
  refine (HCCa.out _ hb2).mono ?_
  rintro e w3 ⟨rfl, bw⟩
  have hb3 := hbt hb2 bw
  have HBv1_3 := hblk HBv1_2 bw
  clear hb2 HBv1_2 bw
  clear cv1_2
  cases xa0 with
  | false =>
   have HXNa : Hid ((ccR (getV fsa ccName)).ns = false) := by show _ = _; rw [HCKa.out]
   go_wp2_with fail
   go_ret
   exact BoolIs.yes ⟨HYrg.out, HXNa.out⟩ hb3
  | true =>
   have HXNa : Hid ((ccR (getV fsa ccName)).ns = true) := by show _ = _; rw [HCKa.out]
   go_wp2_with fail
   go_ret
   exact BoolIs.no (fun h => by have h1 := h.2; rw [HXNa.out] at h1; exact absurd h1 (by decide)) hb3
end Go.Proofs.YtanpngnpolhgbaaGreat
namespace Go.Proofs.YtanpngnpolhgbaaGreat
open Go.RowKit
open Go.Lib hiding intOf
theorem implAlike_any (ma : Int) (pa : ByteArray) (va : Value) (ba : ByteArray) (na basea : Nat) (fsa : List (ByteArray × ByteArray)) (mb : Int) (pb : ByteArray) (vb : Value) (bb : ByteArray) (nb baseb : Nat) (fsb : List (ByteArray × ByteArray)) (w : World) (hva : FieldsV w basea va na fsa) (hna : na ≤ 1048576) (hsa : WalkF na fsa) (hpa : pa.size ≤ maxLen) (hba : ba.size ≤ maxLen) (hga : ∀ x, (getV fsa x).size ≤ 1048576) (hca : CopyF fsa) (hvb : FieldsV w baseb vb nb fsb) (hnb : nb ≤ 1048576) (hsb : WalkF nb fsb) (hpb : pb.size ≤ maxLen) (hbb : bb.size ≤ maxLen) (hgb : ∀ x, (getV fsb x).size ≤ 1048576) (hcb : CopyF fsb) :
  Calls Tryz.prog 95 #[.agg #[.int .i64 ma, .string pa, va, .string ba], .agg #[.int .i64 mb, .string pb, vb, .string bb]] w fun e w' => BoolIs (AlikeP ma pa fsa ba mb pb fsb bb) w e w' := by
 obtain ⟨oa, ca, hsl, _⟩ := hva.slice
 subst hsl
 have HVa : Hid (∀ W, Below w.heap.size w W → FieldsV W basea (.slice oa na ca) na fsa) := fun W h => hva.below h
 have HLFa : Hid (fsa.length = na) := hva.len
 have HSa : Hid (WalkF na fsa) := hsa
 have HPMa : Hid (pa.size ≤ maxLen) := hpa
 have HBMa : Hid (ba.size ≤ maxLen) := hba
 have HQVa : Hid (∀ x, (getV fsa x).size ≤ 1048576) := hga
 have HCa : Hid (CopyF fsa) := hca
 clear hva hsa hpa hba hga hca
 obtain ⟨ob, cb, hsl, _⟩ := hvb.slice
 subst hsl
 have HVb : Hid (∀ W, Below w.heap.size w W → FieldsV W baseb (.slice ob nb cb) nb fsb) := fun W h => hvb.below h
 have HLFb : Hid (fsb.length = nb) := hvb.len
 have HSb : Hid (WalkF nb fsb) := hsb
 have HPMb : Hid (pb.size ≤ maxLen) := hpb
 have HBMb : Hid (bb.size ≤ maxLen) := hbb
 have HQVb : Hid (∀ x, (getV fsb x).size ≤ 1048576) := hgb
 have HCb : Hid (CopyF fsb) := hcb
 clear hvb hsb hpb hbb hgb hcb
 have hb0 : Below w.heap.size w w := Below.refl _ _
 go_enter Tryz.func95, Tryz.ntmps95
 go_upto_region 1 with fail
 obtain ⟨qv1, hqv1⟩ := exq ((w).heap.size)
 obtain ⟨w1, hW1⟩ := exq ((w).alloc (.cells #[.int .i64 ma, .string pa, .slice oa na ca, .string ba] 60))
 have hz1 : (w).heap.size = qv1 := hqv1.symm
 first | rw [← hW1, ← hqv1] | rw [← hW1]
 have hs1 := hsa hW1 hz1
 have bw := bal hW1
 have hb1 := hbt hb0 bw
 have HBv1_1 := hnew hW1 hz1
 clear hb0 bw hW1 hz1
 obtain ⟨qv2, hqv2⟩ := exq (qv1 + 1)
 obtain ⟨w2, hW2⟩ := exq ((w1).alloc (.cells #[.int .i64 mb, .string pb, .slice ob nb cb, .string bb] 60))
 have hz2 : (w1).heap.size = qv2 := by rw [hqv2]; exact hs1
 first | rw [← hW2, ← hqv2] | rw [← hW2]
 have hs2 := hsa hW2 hz2
 have bw := bal hW2
 have hb2 := hbt hb1 bw
 have HBv1_2 := hblk HBv1_1 bw
 have HBv2_2 := hnew hW2 hz2
 clear hb1 HBv1_1 bw hW2 hz2
 clear hs2 hqv2 hs1 hqv1
 have cv1_0 := (k4c HBv1_2).1
 have cv1_1 := (k4c HBv1_2).2.1
 have cv1_2 := (k4c HBv1_2).2.2.1
 have cv1_3 := (k4c HBv1_2).2.2.2
 go_wp2_with fail
 refine (mayBeFromHere_any ma pa _ ba na basea fsa _ (HVa.out _ hb2) (by omega) HSa.out HPMa.out HBMa.out HQVa.out HCa.out).mono ?_
 rintro e w3 ⟨ha, rfl, hha, bw⟩
 have hb3 := hbt hb2 bw
 have HBv1_3 := hblk HBv1_2 bw
 have HBv2_3 := hblk HBv2_2 bw
 clear hb2 HBv1_2 HBv2_2 bw
 clear cv1_0 cv1_1 cv1_2 cv1_3
 cases ha with
 | false =>
  have HNha : Hid (¬ (HereP ma pa fsa ba)) := fun h => nomatch hha.2 h
  clear hha
  go_wp2_with fail
  go_ret
  exact BoolIs.no (fun h => HNha.out h.1.1) hb3
 | true =>
  have HYha : Hid (HereP ma pa fsa ba) := hha.1 rfl
  clear hha
  have cv2_0 := (k4c HBv2_3).1
  have cv2_1 := (k4c HBv2_3).2.1
  have cv2_2 := (k4c HBv2_3).2.2.1
  have cv2_3 := (k4c HBv2_3).2.2.2
  go_wp2_with fail
  refine (mayBeFromHere_any mb pb _ bb nb baseb fsb _ (HVb.out _ hb3) (by omega) HSb.out HPMb.out HBMb.out HQVb.out HCb.out).mono ?_
  rintro e w4 ⟨hb, rfl, hhb, bw⟩
  have hb4 := hbt hb3 bw
  have HBv1_4 := hblk HBv1_3 bw
  have HBv2_4 := hblk HBv2_3 bw
  clear hb3 HBv1_3 HBv2_3 bw
  clear cv2_0 cv2_1 cv2_2 cv2_3
  cases hb with
  | false =>
   have HNhb : Hid (¬ (HereP mb pb fsb bb)) := fun h => nomatch hhb.2 h
   clear hhb
   go_wp2_with fail
   go_ret
   exact BoolIs.no (fun h => HNhb.out h.1.2) hb4
  | true =>
   have HYhb : Hid (HereP mb pb fsb bb) := hhb.1 rfl
   clear hhb
   by_cases hc1 : pa = pb
   ·
    have hc1b : ((pa).toList == (pb).toList) = true := (text_beq _ _).2 hc1
    have HPP : Hid ((pa = pb)) := hc1
    clear hc1
    have cv1_1 := (k4c HBv1_4).2.1
    have cv1_2 := (k4c HBv1_4).2.2.1
    have cv2_1 := (k4c HBv2_4).2.1
    have cv2_2 := (k4c HBv2_4).2.2.1
    go_wp2_with fail
    refine (equalFld_any _ _ na nb _ _ fsa fsb _ (HVa.out _ hb4) (HVb.out _ hb4) (by omega) (by omega)).mono ?_
    rintro e w5 ⟨lf, rfl, hlf, bw⟩
    have hb5 := hbt hb4 bw
    have HBv1_5 := hblk HBv1_4 bw
    have HBv2_5 := hblk HBv2_4 bw
    clear hb4 HBv1_4 HBv2_4 bw
    clear cv1_1 cv1_2 cv2_1 cv2_2
    cases lf with
    | false =>
     have HNlf : Hid (¬ (fsa = fsb)) := fun h => nomatch hlf.2 h
     clear hlf
     go_wp2_with fail
     go_ret
     exact BoolIs.no (fun h => HNlf.out h.2.2) hb5
    | true =>
     have HYlf : Hid (fsa = fsb) := hlf.1 rfl
     clear hlf
     go_wp2_with fail
     go_ret
     exact BoolIs.yes ⟨⟨HYha.out, HYhb.out⟩, HPP.out, HYlf.out⟩ hb5
   ·
    have hc1b : ((pa).toList == (pb).toList) = false := text_beq_no hc1
    have HPP : Hid (¬ (pa = pb)) := hc1
    clear hc1
    have cv1_1 := (k4c HBv1_4).2.1
    have cv2_1 := (k4c HBv2_4).2.1
    go_wp2_with fail
    go_ret
    exact BoolIs.no (fun h => HPP.out h.2.1) hb4
end Go.Proofs.YtanpngnpolhgbaaGreat
namespace Go.Proofs.YtanpngnpolhgbaaGreat
open Go.RowKit
open Go.Lib hiding intOf
theorem specDiskOk_len (o1 : Option Addr) (n1 c1 : Nat) (v2 : Value) (n2 : Nat) (ws : List (Int × ByteArray)) (B : Nat) (w : World) (h : w.ownsRow B 148 2 v2 n2 (flatWrite ws)) (hn2 : n2 ≤ 2000000) :
  Calls Tryz.prog 35 #[.agg #[.slice o1 n1 c1, v2]] w fun e w' => BoolIs (DiskN n1 ws) w e w' := by
 obtain ⟨oPx, pPx, rfl⟩ := slice_of_owns h
 have HOPx_0 : Hid ((w).ownsRow B 148 2 (.slice oPx n2 pPx) n2 (flatWrite ws)) := h
 have HPL : Hid (ws.length = n2) := write_len h
 clear h
 have hb0 : Below w.heap.size w w := Below.refl _ _
 go_enter Tryz.func35, Tryz.ntmps35
 go_upto_region 1 with fail
 obtain ⟨qv1, hqv1⟩ := exq ((w).heap.size)
 obtain ⟨w1, hW1⟩ := exq ((w).alloc (.cells #[.slice o1 n1 c1, .slice oPx n2 pPx] 39))
 have hz1 : (w).heap.size = qv1 := hqv1.symm
 first | rw [← hW1, ← hqv1] | rw [← hW1]
 have hs1 := hsa hW1 hz1
 have bw := bal hW1
 have hb1 := hbt hb0 bw
 have HOPx_1 := hown HOPx_0 bw
 have HBv1_1 := hnew hW1 hz1
 clear hb0 HOPx_0 bw hW1 hz1
 clear hs1 hqv1
 go_wp2_with fail
 go_loopw [3] (fun i wr => ∃ j : Nat, j ≤ n2 ∧ i = .int .i64 (j : Int) ∧ Hid (Below w.heap.size w (wr) ∧ (wr).heap[qv1]? = some (.cells #[.slice o1 n1 c1, .slice oPx n2 pPx] 39) ∧ (wr).ownsRow B 148 2 (.slice oPx n2 pPx) n2 (flatWrite ws)) ∧ Hid (∀ x ∈ ws.take j, 0 ≤ x.1 ∧ x.1 ≤ 19)) (fun i _ => n2 - (intOf i).toNat)
 case atStart => exact ⟨0, Nat.zero_le _, rfl, ⟨hb1, HBv1_1.out, HOPx_1.out⟩, fun x hx => by simp at hx⟩
 case round =>
  obtain ⟨j, hj, rfl, HW, HN⟩ := hrel
  by_cases hlt : (j : Int) < (n2 : Int)
  ·
   have hb2 := HW.out.1
   have HBv1_2 : Hid ((wr).heap[qv1]? = some (.cells #[.slice o1 n1 c1, .slice oPx n2 pPx] 39)) := HW.out.2.1
   have HOPx_2 : Hid ((wr).ownsRow B 148 2 (.slice oPx n2 pPx) n2 (flatWrite ws)) := HW.out.2.2
   clear HW hb1 HOPx_1 HBv1_1
   have hjx : j < ws.length := by rw [HPL.out]; omega
   obtain ⟨g, rfl⟩ := owns_some HOPx_2.out (by omega)
   obtain ⟨y, hy⟩ := exq (writeAt ws j)
   have HM : Hid (y ∈ ws) := by show _ ∈ _; rw [hy]; exact writeAt_mem ws j hjx
   have HTK : Hid (ws.take (j + 1) = ws.take j ++ [y]) := by show _ = _; rw [hy]; exact take_writeAt ws j hjx
   have HYE : Hid (writeAt ws j = y) := hy.symm
   clear hy hjx
   obtain ⟨y0, y1⟩ := y
   have HELPx : Hid (∀ W : World, (W).ownsRow B 148 2 (.slice (some ⟨g, 0, none⟩) n2 pPx) n2 (flatWrite ws) → (W.cell? ⟨g, j * 2, none⟩ = some (.int .i64 y0) ∧ W.cell? ⟨g, j * 2 + 1, none⟩ = some (.string y1))) := fun W h => by
    obtain ⟨g', hg, _, r0, r1⟩ := (write_view h).2 j (by omega)
    cases hg
    rw [HYE.out] at r0 r1
    exact ⟨r0, r1⟩
   obtain ⟨r0, r1⟩ := HELPx.out _ HOPx_2.out
   have cv1_1 := (k2c HBv1_2).2
   go_wp2_with fail
   refine (l1In_any y0 0 19 _).mono ?_
   rintro e w3 ⟨rfl, hwe⟩
   have bw : Below (wr).heap.size (wr) w3 := by rw [hwe]; exact Below.refl _ _
   clear hwe
   obtain ⟨uy, huy⟩ : ∃ u, u = decide ((0 : Int) ≤ y0 ∧ y0 ≤ 19) := ⟨_, rfl⟩
   rw [← huy]
   have hb3 := hbt hb2 bw
   have HOPx_3 := hown HOPx_2 bw
   have HBv1_3 := hblk HBv1_2 bw
   clear hb2 HOPx_2 HBv1_2 bw
   clear cv1_1 r0 r1
   cases uy with
   | false =>
    have HNY : Hid (¬ (0 ≤ y0 ∧ y0 ≤ 19)) := (show ¬ (0 ≤ y0 ∧ y0 ≤ 19) from of_decide_eq_false huy.symm)
    clear huy
    go_wp2_with fail
    go_ret
    exact BoolIs.no (fun h => HNY.out (h.2.2 _ HM.out)) hb3
   | true =>
    have HY : Hid (0 ≤ y0 ∧ y0 ≤ 19) := (show (0 ≤ y0 ∧ y0 ≤ 19) from of_decide_eq_true huy.symm)
    clear huy
    have HN2 : Hid (∀ x ∈ ws.take (j + 1), 0 ≤ x.1 ∧ x.1 ≤ 19) := fun x hx => by
     rw [HTK.out] at hx
     rcases List.mem_append.1 hx with hx | hx
     · exact HN.out x hx
     · rw [List.mem_singleton.1 hx]; exact HY.out
    go_wp2_with fail
    go_roundw
    case rel => exact ⟨j + 1, by omega, by go_num, ⟨hb3, HBv1_3.out, HOPx_3.out⟩, HN2⟩
    case measure => simp [intOf]; omega
  ·
   have hb2 := HW.out.1
   have HBv1_2 : Hid ((wr).heap[qv1]? = some (.cells #[.slice o1 n1 c1, .slice oPx n2 pPx] 39)) := HW.out.2.1
   have HOPx_2 : Hid ((wr).ownsRow B 148 2 (.slice oPx n2 pPx) n2 (flatWrite ws)) := HW.out.2.2
   clear HW hb1 HOPx_1 HBv1_1
   have HAL : Hid (∀ x ∈ ws, 0 ≤ x.1 ∧ x.1 ≤ 19) := fun x hx => HN.out x (by rw [List.take_of_length_le (by rw [HPL.out]; omega)]; exact hx)
   clear HN
   have cv1_1 := (k2c HBv1_2).2
   by_cases hc1 : (n1 : Int) = 20
   ·
    have hc1b : (((n1 : Int) : Int) == (20 : Int)) = true := by simpa using hc1
    have hc1n : (((n1 : Int) : Int) != (20 : Int)) = false := by simpa using hc1
    have HE : Hid (n1 = 20) := (by have := hc1; show _ = _; omega)
    have hc1H : Hid ((n1 : Int) = 20) := hc1
    clear hc1
    have cv1_0 := (k2c HBv1_2).1
    by_cases hc2 : (n2 : Int) ≤ 16
    ·
     have HLE : Hid (n2 ≤ 16) := (by have := hc2; show _ ≤ _; omega)
     go_wp2_with fail
     go_ret
     exact ⟨true, rfl, ⟨fun _ => ⟨HE.out, by rw [HPL.out]; exact HLE.out, HAL.out⟩, fun _ => rfl⟩, hb2⟩
    ·
     have HLE : Hid (¬ n2 ≤ 16) := (by have := hc2; show ¬ _; omega)
     go_wp2_with fail
     go_ret
     exact BoolIs.no (fun h => HLE.out (by have := h.2.1; rw [HPL.out] at this; exact this)) hb2
   ·
    have hc1b : (((n1 : Int) : Int) == (20 : Int)) = false := by simpa using hc1
    have hc1n : (((n1 : Int) : Int) != (20 : Int)) = true := by simpa using hc1
    have HE : Hid (¬ n1 = 20) := (by have := hc1; show ¬ _; omega)
    have hc1H : Hid (¬ ((n1 : Int) = 20)) := hc1
    clear hc1
    have cv1_0 := (k2c HBv1_2).1
    go_wp2_with fail
    go_ret
    exact BoolIs.no (fun h => HE.out h.1) hb2
theorem specDiskOk_any (v1 v2 : Value) (n1 : Nat) (cs : List ByteArray) (n2 : Nat) (ws : List (Int × ByteArray)) (B : Nat) (w : World) (h : DiskO w B v1 n1 cs v2 n2 ws) (_hn1 : n1 ≤ 2000000) (hn2 : n2 ≤ 2000000) :
  Calls Tryz.prog 35 #[.agg #[v1, v2]] w fun e w' => BoolIs (DiskP cs ws) w e w' := by
 obtain ⟨oCx, pCx, rfl⟩ := slice_of_owns h.cells
 have hl : cs.length = n1 := by have := h.cells.1; rw [List.length_map] at this; omega
 refine (specDiskOk_len oCx n1 pCx v2 n2 ws B w h.pend hn2).mono fun e w' hq => ?_
 show BoolIs (DiskN cs.length ws) w e w'
 rw [hl]
 exact hq
end Go.Proofs.YtanpngnpolhgbaaGreat
namespace Go.Proofs.YtanpngnpolhgbaaGreat
open Go.RowKit
open Go.Lib hiding intOf
theorem specBanOk_any (k : Int) (a b : ByteArray) (t : Int) (w : World) (ha : a.size ≤ maxLen) (hb : b.size ≤ maxLen) :
    Calls Tryz.prog 36 #[.agg #[.int .i64 k, .string a, .string b, .int .i64 t]] w fun e w' => BoolIs (BanP k a b t) w e w' := by
  have HAM : Hid (a.size ≤ maxLen) := ha
  have HBM : Hid (b.size ≤ maxLen) := hb
  clear ha hb
  have hb0 : Below w.heap.size w w := Below.refl _ _
  go_enter Tryz.func36, Tryz.ntmps36
  go_upto_region 1 with fail
  obtain ⟨qv1, hqv1⟩ := exq ((w).heap.size)
  obtain ⟨w1, hW1⟩ := exq ((w).alloc (.cells #[.int .i64 k, .string a, .string b, .int .i64 t] 103))
  have hz1 : (w).heap.size = qv1 := hqv1.symm
  first | rw [← hW1, ← hqv1] | rw [← hW1]
  have hs1 := hsa hW1 hz1
  have bw := bal hW1
  have hb1 := hbt hb0 bw
  have HBv1_1 := hnew hW1 hz1
  clear hb0 bw hW1 hz1
  clear hs1 hqv1
  have cv1_3 := (k4c HBv1_1).2.2.2
  go_wp2_with fail
  refine (l1In_any t 0 1000000 _).mono ?_
  rintro e w2 ⟨rfl, hwe⟩
  have bw : Below (w1).heap.size (w1) w2 := by rw [hwe]; exact Below.refl _ _
  clear hwe
  obtain ⟨ut, hut⟩ : ∃ u, u = decide ((0 : Int) ≤ t ∧ t ≤ 1000000) := ⟨_, rfl⟩
  rw [← hut]
  have hb2 := hbt hb1 bw
  have HBv1_2 := hblk HBv1_1 bw
  clear hb1 HBv1_1 bw
  clear cv1_3
  cases ut with
  | false =>
    have Hut : Hid (¬ (0 ≤ t ∧ t ≤ 1000000)) := (show ¬ (0 ≤ t ∧ t ≤ 1000000) from of_decide_eq_false hut.symm)
    clear hut
    go_wp2_with fail
    go_ret
    refine ⟨false, rfl, ?_, hb2⟩
    have zHut := Hut.out
    unfold BanP
    first
      | (simp_all; done)
      | (constructor
         · intro h
           first
             | (cases h; done)
             | exact ⟨zHut, .inl ⟨.inl zHK1, zHup, zHBE⟩⟩
             | exact ⟨zHut, .inl ⟨.inr zHK2, zHup, zHBE⟩⟩
             | exact ⟨zHut, .inr ⟨zHK3, zHuk, zv.1 h⟩⟩
             | exact ⟨zHut, .inr ⟨zHK3, zHuk, zHuv⟩⟩
         · rintro ⟨h1, (⟨h2 | h2, h3, h4⟩ | ⟨h2, h3, h4⟩)⟩
           all_goals first
             | rfl
             | exact zv.2 h4
             | (exfalso; first | exact zHut h1 | exact zHup h3 | exact zHuk h3 | exact zHBE h4 | exact zHuv h4 | omega))
  | true =>
    have Hut : Hid (0 ≤ t ∧ t ≤ 1000000) := (show 0 ≤ t ∧ t ≤ 1000000 from of_decide_eq_true hut.symm)
    clear hut
    have cv1_0 := (k4c HBv1_2).1
    by_cases hc1 : k = 1
    · have hc1b : ((k : Int) == (1 : Int)) = true := by simpa using hc1
      have hc1n : ((k : Int) != (1 : Int)) = false := by simpa using hc1
      have HK1 : Hid (k = 1) := hc1
      have hc1H : Hid (k = 1) := hc1
      clear hc1
      have cv1_1 := (k4c HBv1_2).2.1
      go_wp2_with fail
      refine (l3Path_any a _ HAM.out).mono ?_
      rintro e w3 ⟨up, rfl, htup, bw⟩
      have hb3 := hbt hb2 bw
      have HM3 := hsz bw
      have HBv1_3 := hblk HBv1_2 bw
      clear hb2 HBv1_2 bw
      clear cv1_0 cv1_1
      cases up with
      | false =>
        have Hup : Hid (¬ PathOk a) := fun h => nomatch htup.2 h
        clear htup
        go_wp2_with fail
        go_ret
        refine ⟨false, rfl, ?_, hb3⟩
        have zHut := Hut.out
        have zHK1 := HK1.out
        have zHup := Hup.out
        unfold BanP
        first
          | (simp_all; done)
          | (constructor
             · intro h
               first
                 | (cases h; done)
                 | exact ⟨zHut, .inl ⟨.inl zHK1, zHup, zHBE⟩⟩
                 | exact ⟨zHut, .inl ⟨.inr zHK2, zHup, zHBE⟩⟩
                 | exact ⟨zHut, .inr ⟨zHK3, zHuk, zv.1 h⟩⟩
                 | exact ⟨zHut, .inr ⟨zHK3, zHuk, zHuv⟩⟩
             · rintro ⟨h1, (⟨h2 | h2, h3, h4⟩ | ⟨h2, h3, h4⟩)⟩
               all_goals first
                 | rfl
                 | exact zv.2 h4
                 | (exfalso; first | exact zHut h1 | exact zHup h3 | exact zHuk h3 | exact zHBE h4 | exact zHuv h4 | omega))
      | true =>
        have Hup : Hid (PathOk a) := htup.1 rfl
        clear htup
        have cv1_2 := (k4c HBv1_3).2.2.1
        by_cases hc2 : b = ⟨#[]⟩
        · have hc2b : (b).toList.isEmpty = true := isEmpty_yes (by rw [hc2]; rfl)
          have HBE : Hid (b = ⟨#[]⟩) := hc2
          go_wp2_with fail
          go_ret
          refine ⟨true, rfl, ?_, hb3⟩
          have zHut := Hut.out
          have zHK1 := HK1.out
          have zHup := Hup.out
          have zHBE := HBE.out
          unfold BanP
          first
            | (simp_all; done)
            | (constructor
               · intro h
                 first
                   | (cases h; done)
                   | exact ⟨zHut, .inl ⟨.inl zHK1, zHup, zHBE⟩⟩
                   | exact ⟨zHut, .inl ⟨.inr zHK2, zHup, zHBE⟩⟩
                   | exact ⟨zHut, .inr ⟨zHK3, zHuk, zv.1 h⟩⟩
                   | exact ⟨zHut, .inr ⟨zHK3, zHuk, zHuv⟩⟩
               · rintro ⟨h1, (⟨h2 | h2, h3, h4⟩ | ⟨h2, h3, h4⟩)⟩
                 all_goals first
                   | rfl
                   | exact zv.2 h4
                   | (exfalso; first | exact zHut h1 | exact zHup h3 | exact zHuk h3 | exact zHBE h4 | exact zHuv h4 | omega))
        · have hc2b : (b).toList.isEmpty = false := isEmpty_no (Nat.pos_of_ne_zero (fun e => hc2 (empty_text e)))
          have HBE : Hid (¬ b = ⟨#[]⟩) := hc2
          go_wp2_with fail
          go_ret
          refine ⟨false, rfl, ?_, hb3⟩
          have zHut := Hut.out
          have zHK1 := HK1.out
          have zHup := Hup.out
          have zHBE := HBE.out
          unfold BanP
          first
            | (simp_all; done)
            | (constructor
               · intro h
                 first
                   | (cases h; done)
                   | exact ⟨zHut, .inl ⟨.inl zHK1, zHup, zHBE⟩⟩
                   | exact ⟨zHut, .inl ⟨.inr zHK2, zHup, zHBE⟩⟩
                   | exact ⟨zHut, .inr ⟨zHK3, zHuk, zv.1 h⟩⟩
                   | exact ⟨zHut, .inr ⟨zHK3, zHuk, zHuv⟩⟩
               · rintro ⟨h1, (⟨h2 | h2, h3, h4⟩ | ⟨h2, h3, h4⟩)⟩
                 all_goals first
                   | rfl
                   | exact zv.2 h4
                   | (exfalso; first | exact zHut h1 | exact zHup h3 | exact zHuk h3 | exact zHBE h4 | exact zHuv h4 | omega))
    · have hc1b : ((k : Int) == (1 : Int)) = false := by simpa using hc1
      have hc1n : ((k : Int) != (1 : Int)) = true := by simpa using hc1
      have HK1 : Hid (¬ k = 1) := hc1
      have hc1H : Hid (¬ (k = 1)) := hc1
      clear hc1
      by_cases hc2 : k = 2
      · have hc2b : ((k : Int) == (2 : Int)) = true := by simpa using hc2
        have hc2n : ((k : Int) != (2 : Int)) = false := by simpa using hc2
        have HK2 : Hid (k = 2) := hc2
        have hc2H : Hid (k = 2) := hc2
        clear hc2
        have cv1_1 := (k4c HBv1_2).2.1
        go_wp2_with fail
        refine (l3Path_any a _ HAM.out).mono ?_
        rintro e w3 ⟨up, rfl, htup, bw⟩
        have hb3 := hbt hb2 bw
        have HM3 := hsz bw
        have HBv1_3 := hblk HBv1_2 bw
        clear hb2 HBv1_2 bw
        clear cv1_0 cv1_1
        cases up with
        | false =>
          have Hup : Hid (¬ PathOk a) := fun h => nomatch htup.2 h
          clear htup
          go_wp2_with fail
          go_ret
          refine ⟨false, rfl, ?_, hb3⟩
          have zHut := Hut.out
          have zHK1 := HK1.out
          have zHK2 := HK2.out
          have zHup := Hup.out
          unfold BanP
          first
            | (simp_all; done)
            | (constructor
               · intro h
                 first
                   | (cases h; done)
                   | exact ⟨zHut, .inl ⟨.inl zHK1, zHup, zHBE⟩⟩
                   | exact ⟨zHut, .inl ⟨.inr zHK2, zHup, zHBE⟩⟩
                   | exact ⟨zHut, .inr ⟨zHK3, zHuk, zv.1 h⟩⟩
                   | exact ⟨zHut, .inr ⟨zHK3, zHuk, zHuv⟩⟩
               · rintro ⟨h1, (⟨h2 | h2, h3, h4⟩ | ⟨h2, h3, h4⟩)⟩
                 all_goals first
                   | rfl
                   | exact zv.2 h4
                   | (exfalso; first | exact zHut h1 | exact zHup h3 | exact zHuk h3 | exact zHBE h4 | exact zHuv h4 | omega))
        | true =>
          have Hup : Hid (PathOk a) := htup.1 rfl
          clear htup
          have cv1_2 := (k4c HBv1_3).2.2.1
          by_cases hc3 : b = ⟨#[]⟩
          · have hc3b : (b).toList.isEmpty = true := isEmpty_yes (by rw [hc3]; rfl)
            have HBE : Hid (b = ⟨#[]⟩) := hc3
            go_wp2_with fail
            go_ret
            refine ⟨true, rfl, ?_, hb3⟩
            have zHut := Hut.out
            have zHK1 := HK1.out
            have zHK2 := HK2.out
            have zHup := Hup.out
            have zHBE := HBE.out
            unfold BanP
            first
              | (simp_all; done)
              | (constructor
                 · intro h
                   first
                     | (cases h; done)
                     | exact ⟨zHut, .inl ⟨.inl zHK1, zHup, zHBE⟩⟩
                     | exact ⟨zHut, .inl ⟨.inr zHK2, zHup, zHBE⟩⟩
                     | exact ⟨zHut, .inr ⟨zHK3, zHuk, zv.1 h⟩⟩
                     | exact ⟨zHut, .inr ⟨zHK3, zHuk, zHuv⟩⟩
                 · rintro ⟨h1, (⟨h2 | h2, h3, h4⟩ | ⟨h2, h3, h4⟩)⟩
                   all_goals first
                     | rfl
                     | exact zv.2 h4
                     | (exfalso; first | exact zHut h1 | exact zHup h3 | exact zHuk h3 | exact zHBE h4 | exact zHuv h4 | omega))
          · have hc3b : (b).toList.isEmpty = false := isEmpty_no (Nat.pos_of_ne_zero (fun e => hc3 (empty_text e)))
            have HBE : Hid (¬ b = ⟨#[]⟩) := hc3
            go_wp2_with fail
            go_ret
            refine ⟨false, rfl, ?_, hb3⟩
            have zHut := Hut.out
            have zHK1 := HK1.out
            have zHK2 := HK2.out
            have zHup := Hup.out
            have zHBE := HBE.out
            unfold BanP
            first
              | (simp_all; done)
              | (constructor
                 · intro h
                   first
                     | (cases h; done)
                     | exact ⟨zHut, .inl ⟨.inl zHK1, zHup, zHBE⟩⟩
                     | exact ⟨zHut, .inl ⟨.inr zHK2, zHup, zHBE⟩⟩
                     | exact ⟨zHut, .inr ⟨zHK3, zHuk, zv.1 h⟩⟩
                     | exact ⟨zHut, .inr ⟨zHK3, zHuk, zHuv⟩⟩
                 · rintro ⟨h1, (⟨h2 | h2, h3, h4⟩ | ⟨h2, h3, h4⟩)⟩
                   all_goals first
                     | rfl
                     | exact zv.2 h4
                     | (exfalso; first | exact zHut h1 | exact zHup h3 | exact zHuk h3 | exact zHBE h4 | exact zHuv h4 | omega))
      · have hc2b : ((k : Int) == (2 : Int)) = false := by simpa using hc2
        have hc2n : ((k : Int) != (2 : Int)) = true := by simpa using hc2
        have HK2 : Hid (¬ k = 2) := hc2
        have hc2H : Hid (¬ (k = 2)) := hc2
        clear hc2
        by_cases hc3 : k = 3
        · have hc3b : ((k : Int) == (3 : Int)) = true := by simpa using hc3
          have hc3n : ((k : Int) != (3 : Int)) = false := by simpa using hc3
          have HK3 : Hid (k = 3) := hc3
          have hc3H : Hid (k = 3) := hc3
          clear hc3
          have cv1_1 := (k4c HBv1_2).2.1
          go_wp2_with fail
          refine (specTokenOk_any a _ HAM.out).mono ?_
          rintro e w3 ⟨uk, rfl, htuk, bw⟩
          have hb3 := hbt hb2 bw
          have HM3 := hsz bw
          have HBv1_3 := hblk HBv1_2 bw
          clear hb2 HBv1_2 bw
          clear cv1_0 cv1_1
          cases uk with
          | false =>
            have Huk : Hid (¬ TokOk a) := fun h => nomatch htuk.2 h
            clear htuk
            go_wp2_with fail
            go_ret
            refine ⟨false, rfl, ?_, hb3⟩
            have zHut := Hut.out
            have zHK1 := HK1.out
            have zHK2 := HK2.out
            have zHK3 := HK3.out
            have zHuk := Huk.out
            unfold BanP
            first
              | (simp_all; done)
              | (constructor
                 · intro h
                   first
                     | (cases h; done)
                     | exact ⟨zHut, .inl ⟨.inl zHK1, zHup, zHBE⟩⟩
                     | exact ⟨zHut, .inl ⟨.inr zHK2, zHup, zHBE⟩⟩
                     | exact ⟨zHut, .inr ⟨zHK3, zHuk, zv.1 h⟩⟩
                     | exact ⟨zHut, .inr ⟨zHK3, zHuk, zHuv⟩⟩
                 · rintro ⟨h1, (⟨h2 | h2, h3, h4⟩ | ⟨h2, h3, h4⟩)⟩
                   all_goals first
                     | rfl
                     | exact zv.2 h4
                     | (exfalso; first | exact zHut h1 | exact zHup h3 | exact zHuk h3 | exact zHBE h4 | exact zHuv h4 | omega))
          | true =>
            have Huk : Hid (TokOk a) := htuk.1 rfl
            clear htuk
            have cv1_2 := (k4c HBv1_3).2.2.1
            go_wp2_with fail
            refine (specValueOk_any b _ HBM.out).mono ?_
            rintro e w4 ⟨uv, rfl, htuv, bw⟩
            have hb4 := hbt hb3 bw
            have HBv1_4 := hblk HBv1_3 bw
            clear hb3 HBv1_3 bw
            clear cv1_2
            go_wp2_with fail
            go_ret
            refine ⟨uv, rfl, ?_, hb4⟩
            have zHut := Hut.out
            have zHK1 := HK1.out
            have zHK2 := HK2.out
            have zHK3 := HK3.out
            have zHuk := Huk.out
            have zv := htuv
            unfold BanP
            first
              | (simp_all; done)
              | (constructor
                 · intro h
                   first
                     | (cases h; done)
                     | exact ⟨zHut, .inl ⟨.inl zHK1, zHup, zHBE⟩⟩
                     | exact ⟨zHut, .inl ⟨.inr zHK2, zHup, zHBE⟩⟩
                     | exact ⟨zHut, .inr ⟨zHK3, zHuk, zv.1 h⟩⟩
                     | exact ⟨zHut, .inr ⟨zHK3, zHuk, zHuv⟩⟩
                 · rintro ⟨h1, (⟨h2 | h2, h3, h4⟩ | ⟨h2, h3, h4⟩)⟩
                   all_goals first
                     | rfl
                     | exact zv.2 h4
                     | (exfalso; first | exact zHut h1 | exact zHup h3 | exact zHuk h3 | exact zHBE h4 | exact zHuv h4 | omega))
        · have hc3b : ((k : Int) == (3 : Int)) = false := by simpa using hc3
          have hc3n : ((k : Int) != (3 : Int)) = true := by simpa using hc3
          have HK3 : Hid (¬ k = 3) := hc3
          have hc3H : Hid (¬ (k = 3)) := hc3
          clear hc3
          go_wp2_with fail
          go_ret
          refine ⟨false, rfl, ?_, hb2⟩
          have zHut := Hut.out
          have zHK1 := HK1.out
          have zHK2 := HK2.out
          have zHK3 := HK3.out
          unfold BanP
          first
            | (simp_all; done)
            | (constructor
               · intro h
                 first
                   | (cases h; done)
                   | exact ⟨zHut, .inl ⟨.inl zHK1, zHup, zHBE⟩⟩
                   | exact ⟨zHut, .inl ⟨.inr zHK2, zHup, zHBE⟩⟩
                   | exact ⟨zHut, .inr ⟨zHK3, zHuk, zv.1 h⟩⟩
                   | exact ⟨zHut, .inr ⟨zHK3, zHuk, zHuv⟩⟩
               · rintro ⟨h1, (⟨h2 | h2, h3, h4⟩ | ⟨h2, h3, h4⟩)⟩
                 all_goals first
                   | rfl
                   | exact zv.2 h4
                   | (exfalso; first | exact zHut h1 | exact zHup h3 | exact zHuk h3 | exact zHBE h4 | exact zHuv h4 | omega))
end Go.Proofs.YtanpngnpolhgbaaGreat
namespace Go.Proofs.YtanpngnpolhgbaaGreat
open Go.RowKit
open Go.Lib hiding intOf
/-- A store that was measured. -/
structure ShSmall (s : ShD) : Prop where
 c : s.cs.length ≤ 1048576
 w : s.ws.length ≤ 1048576
 k : s.ks.length ≤ 1048576
 b : s.bl.length ≤ 1048576
 ct : ∀ i, i < s.cs.length → (textAt s.cs i).size ≤ 1048576
 wt : ∀ x ∈ s.ws, x.2.size ≤ 1048576
 ks : ∀ k ∈ s.ks, KpSmall k
 bt : ∀ x ∈ s.bl, x.2.1.size ≤ 1048576 ∧ x.2.2.1.size ≤ 1048576
theorem ShSmall.bm {s : ShD} (h : ShSmall s) : ∀ x ∈ s.bl, x.2.1.size ≤ maxLen ∧ x.2.2.1.size ≤ maxLen := fun x hx => ⟨Nat.le_trans (h.bt x hx).1 (by decide), Nat.le_trans (h.bt x hx).2 (by decide)⟩
theorem ShSmall.kv {s : ShD} (h : ShSmall s) {kv : List (KpD × Value × Value × Value)} (hk : kv.map (·.1) = s.ks) {x : KpD × Value × Value × Value} (hx : x ∈ kv) : KpSmall x.1 := h.ks x.1 (by rw [← hk]; exact List.mem_map.2 ⟨x, hx, rfl⟩)
theorem specShelfOk_any (v1 v2 V VB : Value) (kv : List (KpD × Value × Value × Value)) (s : ShD) (B : Nat) (w : World) (h : ShelfO w B v1 v2 V VB kv s) (hz : ShSmall s) :
  Calls Tryz.prog 13 #[.agg #[v1, v2, V, VB, .int .i64 s.nx, .int .i64 s.sq]] w fun e w' => BoolIs (ShelfP s) w e w' := by
 obtain ⟨o1, c1, e1⟩ := slice_of_owns h.disk.cells
 obtain ⟨o2, c2, e2⟩ := slice_of_owns h.disk.pend
 obtain ⟨o3, c3, e3⟩ := slice_of_owns h.kept.row
 obtain ⟨o4, c4, e4⟩ := slice_of_owns h.bans
 subst e1 e2 e3 e4
 obtain ⟨n1, hn1⟩ := exq (s.cs.length)
 obtain ⟨n2, hn2⟩ := exq (s.ws.length)
 obtain ⟨n3, hn3⟩ := exq kv.length
 obtain ⟨n4, hn4⟩ := exq (s.bl.length)
 rw [← hn1, ← hn2, ← hn3, ← hn4] at h ⊢
 have HLN : Hid (s.cs.length = n1 ∧ s.ws.length = n2 ∧ kv.length = n3 ∧ s.bl.length = n4) := ⟨hn1.symm, hn2.symm, hn3.symm, hn4.symm⟩
 have HKS : Hid (kv.map (·.1) = s.ks) := h.2
 have HZ : Hid (ShSmall s) := hz
 have bn1 : n1 ≤ 1048576 := by rw [hn1]; exact hz.c
 have bn2 : n2 ≤ 1048576 := by rw [hn2]; exact hz.w
 have bn3 : n3 ≤ 1048576 := by rw [hn3, ← List.length_map (f := (·.1)), h.2]; exact hz.k
 have bn4 : n4 ≤ 1048576 := by rw [hn4]; exact hz.b
 have HSH : Hid (∀ W, Below w.heap.size w W → ShelfO W B (.slice o1 n1 c1) (.slice o2 n2 c2) (.slice o3 n3 c3) (.slice o4 n4 c4) kv s) := fun W hb => h.below hb
 have HKP : Hid (∀ W, Below w.heap.size w W → KeptsO W B (.slice o3 n3 c3) kv) := fun W hb => (h.below hb).kept
 have HLK : Hid (kv.length = n3) := hn3.symm
 clear hn1 hn2 hn3 hn4 h hz
 have hb0 : Below w.heap.size w w := Below.refl _ _
 go_enter Tryz.func13, Tryz.ntmps13
 go_upto_region 1 with fail
 obtain ⟨qv1, hqv1⟩ := exq ((w).heap.size)
 obtain ⟨w1, hW1⟩ := exq ((w).alloc (.cells #[.slice o1 n1 c1, .slice o2 n2 c2, .slice o3 n3 c3, .slice o4 n4 c4, .int .i64 s.nx, .int .i64 s.sq] 43))
 have hz1 : (w).heap.size = qv1 := hqv1.symm
 first | rw [← hW1, ← hqv1] | rw [← hW1]
 have hs1 := hsa hW1 hz1
 have bw := bal hW1
 have hb1 := hbt hb0 bw
 have HBv1_1 := hnew hW1 hz1
 clear hb0 bw hW1 hz1
 clear hs1 hqv1
 have cv1_0 := (k6c HBv1_1).1
 have cv1_1 := (k6c HBv1_1).2.1
 go_wp2_with fail
 refine (specDiskOk_any _ _ n1 s.cs n2 s.ws B _ (by have hd := (HSH.out _ hb1).disk; rw [HLN.out.1, HLN.out.2.1] at hd; exact hd) (by omega) (by omega)).mono ?_
 rintro e w2 ⟨ud, rfl, hud, bw⟩
 have hb2 := hbt hb1 bw
 have HBv1_2 := hblk HBv1_1 bw
 clear hb1 HBv1_1 bw
 clear cv1_0 cv1_1
 cases ud with
 | false =>
  have HNud : Hid (¬ (DiskP s.cs s.ws)) := fun h => nomatch hud.2 h
  clear hud
  go_wp2_with fail
  go_ret
  exact BoolIs.no (fun h => HNud.out h.1) hb2
 | true =>
  have HYud : Hid (DiskP s.cs s.ws) := hud.1 rfl
  clear hud
  by_cases hc1 : 5 < (n4 : Int)
  ·
   have HB5 : Hid (¬ n4 ≤ 5) := (by have := hc1; show ¬ _; omega)
   have cv1_3 := (k6c HBv1_2).2.2.2.1
   go_wp2_with fail
   go_ret
   exact BoolIs.no (fun h => by have h1 := h.2.1; have h5 := HB5.out; rw [HLN.out.2.2.2] at h1; omega) hb2
  ·
   have HB5 : Hid (n4 ≤ 5) := (by have := hc1; show _ ≤ _; omega)
   have cv1_3 := (k6c HBv1_2).2.2.2.1
   have cv1_4 := (k6c HBv1_2).2.2.2.2.1
   go_wp2_with fail
   refine (l1In_any s.nx 5 19 _).mono ?_
   rintro e w3 ⟨rfl, hwe⟩
   have bw : Below (w2).heap.size (w2) w3 := by rw [hwe]; exact Below.refl _ _
   clear hwe
   obtain ⟨unx, hunx⟩ : ∃ u, u = decide ((5 : Int) ≤ s.nx ∧ s.nx ≤ 19) := ⟨_, rfl⟩
   rw [← hunx]
   have hb3 := hbt hb2 bw
   have HBv1_3 := hblk HBv1_2 bw
   clear hb2 HBv1_2 bw
   clear cv1_3 cv1_4
   cases unx with
   | false =>
    have HNunx : Hid (¬ (5 ≤ s.nx ∧ s.nx ≤ 19)) := (show ¬ (5 ≤ s.nx ∧ s.nx ≤ 19) from of_decide_eq_false hunx.symm)
    clear hunx
    go_wp2_with fail
    go_ret
    exact BoolIs.no (fun h => HNunx.out h.2.2.1) hb3
   | true =>
    have HYunx : Hid (5 ≤ s.nx ∧ s.nx ≤ 19) := (show (5 ≤ s.nx ∧ s.nx ≤ 19) from of_decide_eq_true hunx.symm)
    clear hunx
    have cv1_5 := (k6c HBv1_3).2.2.2.2.2
    go_wp2_with fail
    refine (l1In_any s.sq 1 100000 _).mono ?_
    rintro e w4 ⟨rfl, hwe⟩
    have bw : Below (w3).heap.size (w3) w4 := by rw [hwe]; exact Below.refl _ _
    clear hwe
    obtain ⟨usq, husq⟩ : ∃ u, u = decide ((1 : Int) ≤ s.sq ∧ s.sq ≤ 100000) := ⟨_, rfl⟩
    rw [← husq]
    have hb4 := hbt hb3 bw
    have HBv1_4 := hblk HBv1_3 bw
    clear hb3 HBv1_3 bw
    clear cv1_5
    cases usq with
    | false =>
     have HNusq : Hid (¬ (1 ≤ s.sq ∧ s.sq ≤ 100000)) := (show ¬ (1 ≤ s.sq ∧ s.sq ≤ 100000) from of_decide_eq_false husq.symm)
     clear husq
     go_wp2_with fail
     go_ret
     exact BoolIs.no (fun h => HNusq.out h.2.2.2.1) hb4
    | true =>
     have HYusq : Hid (1 ≤ s.sq ∧ s.sq ≤ 100000) := (show (1 ≤ s.sq ∧ s.sq ≤ 100000) from of_decide_eq_true husq.symm)
     clear husq
     have bq1 := HYusq.out.1
     have bq2 := HYusq.out.2
     have hwq : IntKind.i64.wrap (s.sq - 1) = s.sq - 1 := by rw [IntKind.wrap_i64]; omega
     go_wp2_with fail
     go_loopw [3] (fun i wr => ∃ j : Nat, j ≤ n4 ∧ i = .int .i64 (j : Int) ∧ Hid (Below w.heap.size w (wr) ∧ (wr).heap[qv1]? = some (.cells #[.slice o1 n1 c1, .slice o2 n2 c2, .slice o3 n3 c3, .slice o4 n4 c4, .int .i64 s.nx, .int .i64 s.sq] 43)) ∧ Hid (∀ x ∈ s.bl.take j, BanP x.1 x.2.1 x.2.2.1 x.2.2.2)) (fun i _ => n4 - (intOf i).toNat)
     case atStart => exact ⟨0, Nat.zero_le _, rfl, ⟨hb4, HBv1_4.out⟩, fun x hx => by simp at hx⟩
     case round =>
      obtain ⟨j, hj, rfl, HW, HN⟩ := hrel
      by_cases hlt : (j : Int) < (n4 : Int)
      ·
       have hb5 := HW.out.1
       have HBv1_5 : Hid ((wr).heap[qv1]? = some (.cells #[.slice o1 n1 c1, .slice o2 n2 c2, .slice o3 n3 c3, .slice o4 n4 c4, .int .i64 s.nx, .int .i64 s.sq] 43)) := HW.out.2
       clear HW hb4 HBv1_4
       have hbn := (HSH.out _ hb5).bans
       try rw [HLN.out.2.2.2] at hbn
       have hbv := ban_view hbn
       clear hbn
       obtain ⟨g4, hog, hgl, r1, r2, r3, r4⟩ := hbv.2 j (by first | omega | (rw [HLN.out.2.2.2]; omega))
       clear hbv
       subst hog
       obtain ⟨y, hy⟩ := exq (banAt s.bl j)
       rw [← hy] at r1 r2 r3 r4
       have HM : Hid (y ∈ s.bl) := by show _ ∈ _; rw [hy]; exact banAt_mem s.bl j (by rw [HLN.out.2.2.2]; omega)
       have HTK : Hid (s.bl.take (j + 1) = s.bl.take j ++ [y]) := by show _ = _; rw [hy]; exact take_banAt s.bl j (by rw [HLN.out.2.2.2]; omega)
       clear hy hgl
       obtain ⟨y0, y1, y2, y3⟩ := y
       dsimp only at r1 r2 r3 r4
       have cv1_3 := (k6c HBv1_5).2.2.2.1
       go_wp2_with fail
       refine (specBanOk_any y0 y1 y2 y3 _ (HZ.out.bm _ HM.out).1 (HZ.out.bm _ HM.out).2).mono ?_
       rintro e w6 ⟨ub, rfl, hub, bw⟩
       have hb6 := hbt hb5 bw
       have HBv1_6 := hblk HBv1_5 bw
       clear hb5 HBv1_5 bw
       clear r1 r2 r3 r4 cv1_3
       cases ub with
       | false =>
        have HNub : Hid (¬ (BanP y0 y1 y2 y3)) := fun h => nomatch hub.2 h
        clear hub
        go_wp2_with fail
        go_ret
        exact BoolIs.no (fun h => HNub.out (h.2.2.2.2.1 _ HM.out)) hb6
       | true =>
        have HYub : Hid (BanP y0 y1 y2 y3) := hub.1 rfl
        clear hub
        have HN2 : Hid (∀ x ∈ s.bl.take (j + 1), BanP x.1 x.2.1 x.2.2.1 x.2.2.2) := fun x hx => by
         rw [HTK.out] at hx
         rcases List.mem_append.1 hx with hx | hx
         · exact HN.out x hx
         · rw [List.mem_singleton.1 hx]; exact HYub.out
        go_wp2_with fail
        go_roundw
        case rel => exact ⟨j + 1, by omega, by go_num, ⟨hb6, HBv1_6.out⟩, HN2⟩
        case measure => simp [intOf]; omega
      ·
       have hb5 := HW.out.1
       have HBv1_5 : Hid ((wr).heap[qv1]? = some (.cells #[.slice o1 n1 c1, .slice o2 n2 c2, .slice o3 n3 c3, .slice o4 n4 c4, .int .i64 s.nx, .int .i64 s.sq] 43)) := HW.out.2
       clear HW hb4 HBv1_4
       have HAL : Hid (∀ x ∈ s.bl, BanP x.1 x.2.1 x.2.2.1 x.2.2.2) := fun x hx => HN.out x (by rw [List.take_of_length_le (by rw [HLN.out.2.2.2]; omega)]; exact hx)
       clear HN
       have cv1_3 := (k6c HBv1_5).2.2.2.1
       go_wp2_with fail
       clear cv1_3
       obtain ⟨wA, hwA⟩ := exq wr
       rw [← hwA] at hb5 HBv1_5 ⊢
       clear hwA
       go_loopw [4] (fun i wr => ∃ i' : Nat, i' ≤ n3 ∧ i = .int .i64 (i' : Int) ∧ Hid (Below w.heap.size w (wr) ∧ (wr).heap[qv1]? = some (.cells #[.slice o1 n1 c1, .slice o2 n2 c2, .slice o3 n3 c3, .slice o4 n4 c4, .int .i64 s.nx, .int .i64 s.sq] 43)) ∧ Hid (∀ m, m < i' → KpOk s.ks s.sq m)) (fun i _ => n3 - (intOf i).toNat)
       case atStart => exact ⟨0, Nat.zero_le _, rfl, ⟨hb5, HBv1_5.out⟩, fun m hm => absurd hm (by omega)⟩
       case round =>
        obtain ⟨i, hi, rfl, HW, HN⟩ := hrel
        by_cases hlt : (i : Int) < (n3 : Int)
        ·
         have hb6 := HW.out.1
         have HBv1_6 : Hid ((wr).heap[qv1]? = some (.cells #[.slice o1 n1 c1, .slice o2 n2 c2, .slice o3 n3 c3, .slice o4 n4 c4, .int .i64 s.nx, .int .i64 s.sq] 43)) := HW.out.2
         clear HW hb5 HBv1_5
         obtain ⟨g3, p3, hV, _, _⟩ := (HKP.out _ hb6).look i (by rw [HLK.out]; omega)
         rw [HLK.out] at hV
         injection hV with hV1 hV2 hV3
         subst hV1 hV3
         clear hV2
         obtain ⟨xX, hxX⟩ := exq (kvAt kv i)
         have HMx : Hid (xX ∈ kv) := by show _ ∈ _; rw [hxX]; exact kvAt_mem kv i (by rw [HLK.out]; omega)
         have HEx : Hid (kpAt s.ks i = xX.1) := by show _ = _; rw [hxX, ← HKS.out]; exact (kvAt_fst kv i (by rw [HLK.out]; omega)).symm
         have HTKx : Hid (kv.take (i + 1) = kv.take i ++ [xX]) := by show _ = _; rw [hxX]; exact kvAt_take kv i (by rw [HLK.out]; omega)
         have HKx : Hid (∀ W, Below w.heap.size w W → KpAt W g3 i xX) := fun W hb => by
          obtain ⟨g', p', hV, _, hc⟩ := (HKP.out W hb).look i (by rw [HLK.out]; omega)
          injection hV with hV1 _ _
          cases hV1
          rw [hxX]
          exact hc
         clear hxX
         obtain ⟨x, kuv1, kuv2, kuv3⟩ := xX
         obtain ⟨ku1, kuc1, hu⟩ := slice_of_owns ((HKP.out _ hb6).names HMx.out)
         have hu' : kuv1 = .slice ku1 x.xs.length kuc1 := hu
         subst hu'
         clear hu
         obtain ⟨ku2, kuc2, hu⟩ := slice_of_owns ((HKP.out _ hb6).vals HMx.out)
         have hu' : kuv2 = .slice ku2 x.ys.length kuc2 := hu
         subst hu'
         clear hu
         obtain ⟨ku3, kuc3, hu⟩ := slice_of_owns ((HKP.out _ hb6).flds HMx.out)
         have hu' : kuv3 = .slice ku3 x.fs.length kuc3 := hu
         subst hu'
         clear hu
         have r0x := (HKx.out _ hb6).c0
         have r1x := (HKx.out _ hb6).c1
         have r2x := (HKx.out _ hb6).c2
         have r3x := (HKx.out _ hb6).c3
         have r4x := (HKx.out _ hb6).c4
         have r5x := (HKx.out _ hb6).c5
         have r6x := (HKx.out _ hb6).c6
         have r7x := (HKx.out _ hb6).c7
         have r8x := (HKx.out _ hb6).c8
         dsimp only at r0x r1x r2x r3x r4x r5x r6x r7x r8x
         have cv1_2 := (k6c HBv1_6).2.2.1
         go_upto_region 12 with fail
         obtain ⟨qv2, hqv2⟩ := exq ((wr).heap.size)
         obtain ⟨w7, hW7⟩ := exq ((wr).alloc (.cells #[.string x.p, .slice ku1 x.xs.length kuc1, .slice ku2 x.ys.length kuc2, .int .i64 x.st, .slice ku3 x.fs.length kuc3, .string x.b, .int .i64 x.t, .int .i64 x.a, .int .i64 x.q] 105))
         have hz7 : (wr).heap.size = qv2 := hqv2.symm
         first | rw [← hW7, ← hqv2] | rw [← hW7]
         have hs7 := hsa hW7 hz7
         have bw := bal hW7
         have hb7 := hbt hb6 bw
         have HBv1_7 := hblk HBv1_6 bw
         have HBv2_7 := hnew hW7 hz7
         clear hb6 HBv1_6 bw hW7 hz7
         clear hs7 hqv2
         clear r0x r1x r2x r3x r4x r5x r6x r7x r8x cv1_2
         go_upto_region 12 with fail
         by_cases hi0 : (0 : Int) < (i : Int)
         ·
          obtain ⟨m, hm⟩ : ∃ m : Nat, (i : Int) - 1 = (m : Int) := ⟨i - 1, by omega⟩
          have hi0n : 0 < i := by omega
          have hmn : ¬ n3 ≤ m := by omega
          have hwm : IntKind.i64.wrap (m : Int) = (m : Int) := by rw [IntKind.wrap_i64]; omega
          obtain ⟨zX, hzX⟩ := exq (kvAt kv m)
          have HMz : Hid (zX ∈ kv) := by show _ ∈ _; rw [hzX]; exact kvAt_mem kv m (by rw [HLK.out]; omega)
          have HEz : Hid (kpAt s.ks m = zX.1) := by show _ = _; rw [hzX, ← HKS.out]; exact (kvAt_fst kv m (by rw [HLK.out]; omega)).symm
          have HTKz : Hid (kv.take (m + 1) = kv.take m ++ [zX]) := by show _ = _; rw [hzX]; exact kvAt_take kv m (by rw [HLK.out]; omega)
          have HKz : Hid (∀ W, Below w.heap.size w W → KpAt W g3 m zX) := fun W hb => by
           obtain ⟨g', p', hV, _, hc⟩ := (HKP.out W hb).look m (by rw [HLK.out]; omega)
           injection hV with hV1 _ _
           cases hV1
           rw [hzX]
           exact hc
          clear hzX
          obtain ⟨z, ktv1, ktv2, ktv3⟩ := zX
          obtain ⟨kt1, ktc1, hu⟩ := slice_of_owns ((HKP.out _ hb7).names HMz.out)
          have hu' : ktv1 = .slice kt1 z.xs.length ktc1 := hu
          subst hu'
          clear hu
          obtain ⟨kt2, ktc2, hu⟩ := slice_of_owns ((HKP.out _ hb7).vals HMz.out)
          have hu' : ktv2 = .slice kt2 z.ys.length ktc2 := hu
          subst hu'
          clear hu
          obtain ⟨kt3, ktc3, hu⟩ := slice_of_owns ((HKP.out _ hb7).flds HMz.out)
          have hu' : ktv3 = .slice kt3 z.fs.length ktc3 := hu
          subst hu'
          clear hu
          have HEL3 : Hid (∀ W, Below w.heap.size w W → (W.cell? ⟨g3, m * 9, none⟩ = some (.string z.p) ∧ W.cell? ⟨g3, m * 9 + 1, none⟩ = some (.slice kt1 z.xs.length ktc1) ∧ W.cell? ⟨g3, m * 9 + 2, none⟩ = some (.slice kt2 z.ys.length ktc2) ∧ W.cell? ⟨g3, m * 9 + 3, none⟩ = some (.int .i64 z.st) ∧ W.cell? ⟨g3, m * 9 + 4, none⟩ = some (.slice kt3 z.fs.length ktc3) ∧ W.cell? ⟨g3, m * 9 + 5, none⟩ = some (.string z.b) ∧ W.cell? ⟨g3, m * 9 + 6, none⟩ = some (.int .i64 z.t) ∧ W.cell? ⟨g3, m * 9 + 7, none⟩ = some (.int .i64 z.a) ∧ W.cell? ⟨g3, m * 9 + 8, none⟩ = some (.int .i64 z.q))) := fun W hb => by
           have c := HKz.out W hb
           exact ⟨c.c0, c.c1, c.c2, c.c3, c.c4, c.c5, c.c6, c.c7, c.c8⟩
          have HIM : Hid (i = m + 1) := (by show _ = _; omega)
          go_upto_region 12 with fail
          refine wp_region_held_drew (S := fun W => W.heap[qv2]? = some (.cells #[.string x.p, .slice ku1 x.xs.length kuc1, .slice ku2 x.ys.length kuc2, .int .i64 x.st, .slice ku3 x.fs.length kuc3, .string x.b, .int .i64 x.t, .int .i64 x.a, .int .i64 x.q] 105) ∧ W.heap[qv1]? = some (.cells #[.slice o1 n1 c1, .slice o2 n2 c2, .slice (some ⟨g3, 0, none⟩) n3 c3, .slice o4 n4 c4, .int .i64 s.nx, .int .i64 s.sq] 43) ∧ (W.cell? ⟨g3, m * 9, none⟩ = some (.string z.p) ∧ W.cell? ⟨g3, m * 9 + 1, none⟩ = some (.slice kt1 z.xs.length ktc1) ∧ W.cell? ⟨g3, m * 9 + 2, none⟩ = some (.slice kt2 z.ys.length ktc2) ∧ W.cell? ⟨g3, m * 9 + 3, none⟩ = some (.int .i64 z.st) ∧ W.cell? ⟨g3, m * 9 + 4, none⟩ = some (.slice kt3 z.fs.length ktc3) ∧ W.cell? ⟨g3, m * 9 + 5, none⟩ = some (.string z.b) ∧ W.cell? ⟨g3, m * 9 + 6, none⟩ = some (.int .i64 z.t) ∧ W.cell? ⟨g3, m * 9 + 7, none⟩ = some (.int .i64 z.a) ∧ W.cell? ⟨g3, m * 9 + 8, none⟩ = some (.int .i64 z.q))) (by kernel_rfl) ⟨HBv2_7.out, HBv1_7.out, (by first | exact HEL3.out _ hb7 | exact HEL3.out _ hb7.drew)⟩ (fun _ => ?_)
          obtain ⟨w8, hX⟩ := exq w7.drew
          have bw := bdr hX
          rw [← hX]
          have hb8 := hbt hb7 bw
          have HM8 := hsz bw
          have HBv1_8 := hblk HBv1_7 bw
          have HBv2_8 := hblk HBv2_7 bw
          have hS8 : w8.heap[qv2]? = some (.cells #[.string x.p, .slice ku1 x.xs.length kuc1, .slice ku2 x.ys.length kuc2, .int .i64 x.st, .slice ku3 x.fs.length kuc3, .string x.b, .int .i64 x.t, .int .i64 x.a, .int .i64 x.q] 105) ∧ w8.heap[qv1]? = some (.cells #[.slice o1 n1 c1, .slice o2 n2 c2, .slice (some ⟨g3, 0, none⟩) n3 c3, .slice o4 n4 c4, .int .i64 s.nx, .int .i64 s.sq] 43) ∧ (w8.cell? ⟨g3, m * 9, none⟩ = some (.string z.p) ∧ w8.cell? ⟨g3, m * 9 + 1, none⟩ = some (.slice kt1 z.xs.length ktc1) ∧ w8.cell? ⟨g3, m * 9 + 2, none⟩ = some (.slice kt2 z.ys.length ktc2) ∧ w8.cell? ⟨g3, m * 9 + 3, none⟩ = some (.int .i64 z.st) ∧ w8.cell? ⟨g3, m * 9 + 4, none⟩ = some (.slice kt3 z.fs.length ktc3) ∧ w8.cell? ⟨g3, m * 9 + 5, none⟩ = some (.string z.b) ∧ w8.cell? ⟨g3, m * 9 + 6, none⟩ = some (.int .i64 z.t) ∧ w8.cell? ⟨g3, m * 9 + 7, none⟩ = some (.int .i64 z.a) ∧ w8.cell? ⟨g3, m * 9 + 8, none⟩ = some (.int .i64 z.q)) := ⟨HBv2_8.out, HBv1_8.out, (by first | exact HEL3.out _ hb8 | exact HEL3.out _ hb8.drew)⟩
          clear hb7 HBv1_7 HBv2_7 bw hX
          refine tkP 0 (.pointer (some ⟨qv2, 0, none⟩)) 55 rfl rfl hS8 ?_
          go_frame
          refine tkL 1 (.agg #[.string x.p, .slice ku1 x.xs.length kuc1, .slice ku2 x.ys.length kuc2, .int .i64 x.st, .slice ku3 x.fs.length kuc3, .string x.b, .int .i64 x.t]) 56 rfl rfl (Or.inl ⟨by rfl, by intro W hW; obtain ⟨hhv2, hhv1, hhE_3⟩ := hW; have y0 := (cell_of hhv2 0).trans rfl; have y1 := (cell_of hhv2 1).trans rfl; have y2 := (cell_of hhv2 2).trans rfl; have y3 := (cell_of hhv2 3).trans rfl; have y4 := (cell_of hhv2 4).trans rfl; have y5 := (cell_of hhv2 5).trans rfl; have y6 := (cell_of hhv2 6).trans rfl; go_simp⟩) hS8 ?_
          go_frame
          refine rd1 2 rfl (fun K hK => ?_)
          go_simp
          refine (specObjOk_k x _ _ _ _ ((HSH.out _ hb8).kept.read HMx.out) (HZ.out.kv HKS.out HMx.out)).mono ?_
          rintro e w9 ⟨uo, rfl, huo, bw⟩
          have hb9 := hbt hb8 bw
          have HM9 := hsz bw
          have HBv1_9 := hblk HBv1_8 bw
          have HBv2_9 := hblk HBv2_8 bw
          clear hb8 HBv1_8 HBv2_8 bw
          have hS9 : w9.heap[qv2]? = some (.cells #[.string x.p, .slice ku1 x.xs.length kuc1, .slice ku2 x.ys.length kuc2, .int .i64 x.st, .slice ku3 x.fs.length kuc3, .string x.b, .int .i64 x.t, .int .i64 x.a, .int .i64 x.q] 105) ∧ w9.heap[qv1]? = some (.cells #[.slice o1 n1 c1, .slice o2 n2 c2, .slice (some ⟨g3, 0, none⟩) n3 c3, .slice o4 n4 c4, .int .i64 s.nx, .int .i64 s.sq] 43) ∧ (w9.cell? ⟨g3, m * 9, none⟩ = some (.string z.p) ∧ w9.cell? ⟨g3, m * 9 + 1, none⟩ = some (.slice kt1 z.xs.length ktc1) ∧ w9.cell? ⟨g3, m * 9 + 2, none⟩ = some (.slice kt2 z.ys.length ktc2) ∧ w9.cell? ⟨g3, m * 9 + 3, none⟩ = some (.int .i64 z.st) ∧ w9.cell? ⟨g3, m * 9 + 4, none⟩ = some (.slice kt3 z.fs.length ktc3) ∧ w9.cell? ⟨g3, m * 9 + 5, none⟩ = some (.string z.b) ∧ w9.cell? ⟨g3, m * 9 + 6, none⟩ = some (.int .i64 z.t) ∧ w9.cell? ⟨g3, m * 9 + 7, none⟩ = some (.int .i64 z.a) ∧ w9.cell? ⟨g3, m * 9 + 8, none⟩ = some (.int .i64 z.q)) := ⟨HBv2_9.out, HBv1_9.out, (by first | exact HEL3.out _ hb9 | exact HEL3.out _ hb9.drew)⟩
          refine hK.out _ _ hS9 (fun _ => ?_)
          clear hK K hS8
          cases uo with
          | false =>
           have HNuo : Hid (¬ (ObjK x)) := fun h => nomatch huo.2 h
           clear huo
           refine tkP 3 (.bool true) 58 rfl rfl hS9 ?_
           go_frame
           refine tkP 4 (.bool true) 59 rfl rfl hS9 ?_
           go_frame
           refine tkN 5 60 rfl rfl hS9 ?_
           go_frame
           refine tkN 6 61 rfl rfl hS9 ?_
           go_frame
           refine tkN 7 62 rfl rfl hS9 ?_
           go_frame
           refine tkN 8 63 rfl rfl hS9 ?_
           go_frame
           refine tkP 9 (.bool true) 64 rfl rfl hS9 ?_
           go_frame
           refine tkP 10 (.bool true) 65 rfl rfl hS9 ?_
           go_frame
           refine tkN 11 66 rfl rfl hS9 ?_
           go_frame
           refine tkN 12 67 rfl rfl hS9 ?_
           go_frame
           refine tkN 13 68 rfl rfl hS9 ?_
           go_frame
           refine tkN 14 69 rfl rfl hS9 ?_
           go_frame
           refine tkN 15 70 rfl rfl hS9 ?_
           go_frame
           refine tkN 16 71 rfl rfl hS9 ?_
           go_frame
           refine tkN 17 72 rfl rfl hS9 ?_
           go_frame
           refine tkP 18 (.bool true) 73 rfl rfl hS9 ?_
           go_frame
           refine tkP 19 (.bool true) 74 rfl rfl hS9 ?_
           go_frame
           refine tkN 20 75 rfl rfl hS9 ?_
           go_frame
           refine tkN 21 76 rfl rfl hS9 ?_
           go_frame
           refine tkN 22 77 rfl rfl hS9 ?_
           go_frame
           refine tkN 23 78 rfl rfl hS9 ?_
           go_frame
           refine tkN 24 79 rfl rfl hS9 ?_
           go_frame
           refine tkN 25 80 rfl rfl hS9 ?_
           go_frame
           refine tkN 26 81 rfl rfl hS9 ?_
           go_frame
           refine tkN 27 82 rfl rfl hS9 ?_
           go_frame
           refine tkN 28 83 rfl rfl hS9 ?_
           go_frame
           refine tkN 29 84 rfl rfl hS9 ?_
           go_frame
           refine tkN 30 85 rfl rfl hS9 ?_
           go_frame
           refine tkN 31 86 rfl rfl hS9 ?_
           go_frame
           refine tkN 32 87 rfl rfl hS9 ?_
           go_frame
           refine tkN 33 88 rfl rfl hS9 ?_
           go_frame
           refine tkP 34 (.bool true) 89 rfl rfl hS9 ?_
           go_frame
           clear hS9
           refine wpAnyH_done (by kernel_rfl) ?_ _
           go_wp2_with fail
           go_ret
           exact BoolIs.no (fun h => by have hk := h.2.2.2.2.2 i (by rw [← HKS.out, List.length_map, HLN.out.2.2.1]; omega); unfold KpOk at hk; rw [HEx.out] at hk; exact HNuo.out hk.1) hb9
          | true =>
           have HYuo : Hid (ObjK x) := huo.1 rfl
           clear huo
           refine tkP 3 (.bool false) 58 rfl rfl hS9 ?_
           go_frame
           refine tkP 4 (.bool false) 59 rfl rfl hS9 ?_
           go_frame
           refine tkP 5 (.pointer (some ⟨qv2, 7, none⟩)) 60 rfl rfl hS9 ?_
           go_frame
           refine tkL 6 (.int .i64 x.a) 61 rfl rfl (Or.inl ⟨by rfl, by intro W hW; obtain ⟨hhv2, hhv1, hhE_3⟩ := hW; have y7 := (cell_of hhv2 7).trans rfl; go_simp⟩) hS9 ?_
           go_frame
           refine rd1 7 rfl (fun K hK => ?_)
           go_simp
           refine (l1In_any x.a 5 19 _).mono ?_
           rintro e w10 ⟨rfl, hwe⟩
           have bw : Below (w9).heap.size (w9) w10 := by rw [hwe]; exact Below.refl _ _
           clear hwe
           obtain ⟨uka, huka⟩ : ∃ u, u = decide ((5 : Int) ≤ x.a ∧ x.a ≤ 19) := ⟨_, rfl⟩
           rw [← huka]
           have hb10 := hbt hb9 bw
           have HM10 := hsz bw
           have HBv1_10 := hblk HBv1_9 bw
           have HBv2_10 := hblk HBv2_9 bw
           clear hb9 HBv1_9 HBv2_9 bw
           have hS10 : w10.heap[qv2]? = some (.cells #[.string x.p, .slice ku1 x.xs.length kuc1, .slice ku2 x.ys.length kuc2, .int .i64 x.st, .slice ku3 x.fs.length kuc3, .string x.b, .int .i64 x.t, .int .i64 x.a, .int .i64 x.q] 105) ∧ w10.heap[qv1]? = some (.cells #[.slice o1 n1 c1, .slice o2 n2 c2, .slice (some ⟨g3, 0, none⟩) n3 c3, .slice o4 n4 c4, .int .i64 s.nx, .int .i64 s.sq] 43) ∧ (w10.cell? ⟨g3, m * 9, none⟩ = some (.string z.p) ∧ w10.cell? ⟨g3, m * 9 + 1, none⟩ = some (.slice kt1 z.xs.length ktc1) ∧ w10.cell? ⟨g3, m * 9 + 2, none⟩ = some (.slice kt2 z.ys.length ktc2) ∧ w10.cell? ⟨g3, m * 9 + 3, none⟩ = some (.int .i64 z.st) ∧ w10.cell? ⟨g3, m * 9 + 4, none⟩ = some (.slice kt3 z.fs.length ktc3) ∧ w10.cell? ⟨g3, m * 9 + 5, none⟩ = some (.string z.b) ∧ w10.cell? ⟨g3, m * 9 + 6, none⟩ = some (.int .i64 z.t) ∧ w10.cell? ⟨g3, m * 9 + 7, none⟩ = some (.int .i64 z.a) ∧ w10.cell? ⟨g3, m * 9 + 8, none⟩ = some (.int .i64 z.q)) := ⟨HBv2_10.out, HBv1_10.out, (by first | exact HEL3.out _ hb10 | exact HEL3.out _ hb10.drew)⟩
           refine hK.out _ _ hS10 (fun _ => ?_)
           clear hK K hS9
           cases uka with
           | false =>
            have HNuka : Hid (¬ (5 ≤ x.a ∧ x.a ≤ 19)) := (show ¬ (5 ≤ x.a ∧ x.a ≤ 19) from of_decide_eq_false huka.symm)
            clear huka
            refine tkP 8 (.bool true) 63 rfl rfl hS10 ?_
            go_frame
            refine tkP 9 (.bool true) 64 rfl rfl hS10 ?_
            go_frame
            refine tkP 10 (.bool true) 65 rfl rfl hS10 ?_
            go_frame
            refine tkN 11 66 rfl rfl hS10 ?_
            go_frame
            refine tkN 12 67 rfl rfl hS10 ?_
            go_frame
            refine tkN 13 68 rfl rfl hS10 ?_
            go_frame
            refine tkN 14 69 rfl rfl hS10 ?_
            go_frame
            refine tkN 15 70 rfl rfl hS10 ?_
            go_frame
            refine tkN 16 71 rfl rfl hS10 ?_
            go_frame
            refine tkN 17 72 rfl rfl hS10 ?_
            go_frame
            refine tkP 18 (.bool true) 73 rfl rfl hS10 ?_
            go_frame
            refine tkP 19 (.bool true) 74 rfl rfl hS10 ?_
            go_frame
            refine tkN 20 75 rfl rfl hS10 ?_
            go_frame
            refine tkN 21 76 rfl rfl hS10 ?_
            go_frame
            refine tkN 22 77 rfl rfl hS10 ?_
            go_frame
            refine tkN 23 78 rfl rfl hS10 ?_
            go_frame
            refine tkN 24 79 rfl rfl hS10 ?_
            go_frame
            refine tkN 25 80 rfl rfl hS10 ?_
            go_frame
            refine tkN 26 81 rfl rfl hS10 ?_
            go_frame
            refine tkN 27 82 rfl rfl hS10 ?_
            go_frame
            refine tkN 28 83 rfl rfl hS10 ?_
            go_frame
            refine tkN 29 84 rfl rfl hS10 ?_
            go_frame
            refine tkN 30 85 rfl rfl hS10 ?_
            go_frame
            refine tkN 31 86 rfl rfl hS10 ?_
            go_frame
            refine tkN 32 87 rfl rfl hS10 ?_
            go_frame
            refine tkN 33 88 rfl rfl hS10 ?_
            go_frame
            refine tkP 34 (.bool true) 89 rfl rfl hS10 ?_
            go_frame
            clear hS10
            refine wpAnyH_done (by kernel_rfl) ?_ _
            go_wp2_with fail
            go_ret
            exact BoolIs.no (fun h => by have hk := h.2.2.2.2.2 i (by rw [← HKS.out, List.length_map, HLN.out.2.2.1]; omega); unfold KpOk at hk; rw [HEx.out] at hk; exact HNuka.out hk.2.1) hb10
           | true =>
            have HYuka : Hid (5 ≤ x.a ∧ x.a ≤ 19) := (show (5 ≤ x.a ∧ x.a ≤ 19) from of_decide_eq_true huka.symm)
            clear huka
            refine tkP 8 (.bool false) 63 rfl rfl hS10 ?_
            go_frame
            refine tkP 9 (.bool false) 64 rfl rfl hS10 ?_
            go_frame
            refine tkP 10 (.bool false) 65 rfl rfl hS10 ?_
            go_frame
            refine tkP 11 (.pointer (some ⟨qv2, 8, none⟩)) 66 rfl rfl hS10 ?_
            go_frame
            refine tkL 12 (.int .i64 x.q) 67 rfl rfl (Or.inl ⟨by rfl, by intro W hW; obtain ⟨hhv2, hhv1, hhE_3⟩ := hW; have y8 := (cell_of hhv2 8).trans rfl; go_simp⟩) hS10 ?_
            go_frame
            refine tkP 13 (.pointer (some ⟨qv1, 5, none⟩)) 68 rfl rfl hS10 ?_
            go_frame
            refine tkL 14 (.int .i64 s.sq) 69 rfl rfl (Or.inl ⟨by rfl, by intro W hW; obtain ⟨hhv2, hhv1, hhE_3⟩ := hW; have y5 := (cell_of hhv1 5).trans rfl; go_simp⟩) hS10 ?_
            go_frame
            refine tkP 15 (.int .i64 (s.sq - 1)) 70 rfl rfl hS10 ?_
            go_frame
            refine rd1 16 rfl (fun K hK => ?_)
            go_simp
            refine (l1In_any x.q 1 (s.sq - 1) _).mono ?_
            rintro e w11 ⟨rfl, hwe⟩
            have bw : Below (w10).heap.size (w10) w11 := by rw [hwe]; exact Below.refl _ _
            clear hwe
            obtain ⟨ukq, hukq⟩ : ∃ u, u = decide ((1 : Int) ≤ x.q ∧ x.q ≤ (s.sq - 1)) := ⟨_, rfl⟩
            rw [← hukq]
            have hb11 := hbt hb10 bw
            have HM11 := hsz bw
            have HBv1_11 := hblk HBv1_10 bw
            have HBv2_11 := hblk HBv2_10 bw
            clear hb10 HBv1_10 HBv2_10 bw
            have hS11 : w11.heap[qv2]? = some (.cells #[.string x.p, .slice ku1 x.xs.length kuc1, .slice ku2 x.ys.length kuc2, .int .i64 x.st, .slice ku3 x.fs.length kuc3, .string x.b, .int .i64 x.t, .int .i64 x.a, .int .i64 x.q] 105) ∧ w11.heap[qv1]? = some (.cells #[.slice o1 n1 c1, .slice o2 n2 c2, .slice (some ⟨g3, 0, none⟩) n3 c3, .slice o4 n4 c4, .int .i64 s.nx, .int .i64 s.sq] 43) ∧ (w11.cell? ⟨g3, m * 9, none⟩ = some (.string z.p) ∧ w11.cell? ⟨g3, m * 9 + 1, none⟩ = some (.slice kt1 z.xs.length ktc1) ∧ w11.cell? ⟨g3, m * 9 + 2, none⟩ = some (.slice kt2 z.ys.length ktc2) ∧ w11.cell? ⟨g3, m * 9 + 3, none⟩ = some (.int .i64 z.st) ∧ w11.cell? ⟨g3, m * 9 + 4, none⟩ = some (.slice kt3 z.fs.length ktc3) ∧ w11.cell? ⟨g3, m * 9 + 5, none⟩ = some (.string z.b) ∧ w11.cell? ⟨g3, m * 9 + 6, none⟩ = some (.int .i64 z.t) ∧ w11.cell? ⟨g3, m * 9 + 7, none⟩ = some (.int .i64 z.a) ∧ w11.cell? ⟨g3, m * 9 + 8, none⟩ = some (.int .i64 z.q)) := ⟨HBv2_11.out, HBv1_11.out, (by first | exact HEL3.out _ hb11 | exact HEL3.out _ hb11.drew)⟩
            refine hK.out _ _ hS11 (fun _ => ?_)
            clear hK K hS10
            cases ukq with
            | false =>
             have HNukq : Hid (¬ (1 ≤ x.q ∧ x.q ≤ (s.sq - 1))) := (show ¬ (1 ≤ x.q ∧ x.q ≤ (s.sq - 1)) from of_decide_eq_false hukq.symm)
             clear hukq
             refine tkP 17 (.bool true) 72 rfl rfl hS11 ?_
             go_frame
             refine tkP 18 (.bool true) 73 rfl rfl hS11 ?_
             go_frame
             refine tkP 19 (.bool true) 74 rfl rfl hS11 ?_
             go_frame
             refine tkN 20 75 rfl rfl hS11 ?_
             go_frame
             refine tkN 21 76 rfl rfl hS11 ?_
             go_frame
             refine tkN 22 77 rfl rfl hS11 ?_
             go_frame
             refine tkN 23 78 rfl rfl hS11 ?_
             go_frame
             refine tkN 24 79 rfl rfl hS11 ?_
             go_frame
             refine tkN 25 80 rfl rfl hS11 ?_
             go_frame
             refine tkN 26 81 rfl rfl hS11 ?_
             go_frame
             refine tkN 27 82 rfl rfl hS11 ?_
             go_frame
             refine tkN 28 83 rfl rfl hS11 ?_
             go_frame
             refine tkN 29 84 rfl rfl hS11 ?_
             go_frame
             refine tkN 30 85 rfl rfl hS11 ?_
             go_frame
             refine tkN 31 86 rfl rfl hS11 ?_
             go_frame
             refine tkN 32 87 rfl rfl hS11 ?_
             go_frame
             refine tkN 33 88 rfl rfl hS11 ?_
             go_frame
             refine tkP 34 (.bool true) 89 rfl rfl hS11 ?_
             go_frame
             clear hS11
             refine wpAnyH_done (by kernel_rfl) ?_ _
             go_wp2_with fail
             go_ret
             exact BoolIs.no (fun h => by have hk := h.2.2.2.2.2 i (by rw [← HKS.out, List.length_map, HLN.out.2.2.1]; omega); unfold KpOk at hk; rw [HEx.out] at hk; exact HNukq.out hk.2.2.1) hb11
            | true =>
             have HYukq : Hid (1 ≤ x.q ∧ x.q ≤ (s.sq - 1)) := (show (1 ≤ x.q ∧ x.q ≤ (s.sq - 1)) from of_decide_eq_true hukq.symm)
             clear hukq
             refine tkP 17 (.bool false) 72 rfl rfl hS11 ?_
             go_frame
             refine tkP 18 (.bool false) 73 rfl rfl hS11 ?_
             go_frame
             refine tkP 19 (.bool false) 74 rfl rfl hS11 ?_
             go_frame
             refine tkP 20 (.int .i64 (i : Int)) 75 rfl rfl hS11 ?_
             go_frame
             refine tkP 21 (.bool true) 76 rfl rfl hS11 ?_
             go_frame
             refine tkP 22 (.bool true) 77 rfl rfl hS11 ?_
             go_frame
             refine tkP 23 (.pointer (some ⟨qv1, 2, none⟩)) 78 rfl rfl hS11 ?_
             go_frame
             refine tkL 24 (.slice (some ⟨g3, 0, none⟩) n3 c3) 79 rfl rfl (Or.inl ⟨by rfl, by intro W hW; obtain ⟨hhv2, hhv1, hhE_3⟩ := hW; have y2 := (cell_of hhv1 2).trans rfl; go_simp⟩) hS11 ?_
             go_frame
             refine tkP 25 (.int .i64 (i : Int)) 80 rfl rfl hS11 ?_
             go_frame
             refine tkP 26 (.int .i64 (m : Int)) 81 rfl rfl hS11 ?_
             go_frame
             refine tkP 27 (.pointer (some ⟨g3, m * 9, none⟩)) 82 rfl rfl hS11 ?_
             go_frame
             refine tkP 28 (.pointer (some ⟨g3, m * 9 + 8, none⟩)) 83 rfl rfl hS11 ?_
             go_frame
             refine tkL 29 (.int .i64 z.q) 84 rfl rfl (Or.inl ⟨by rfl, by intro W hW; obtain ⟨hhv2, hhv1, hhE_3⟩ := hW; have y8 := hhE_3.2.2.2.2.2.2.2.2; go_simp⟩) hS11 ?_
             go_frame
             refine tkP 30 (.pointer (some ⟨qv2, 8, none⟩)) 85 rfl rfl hS11 ?_
             go_frame
             refine tkL 31 (.int .i64 x.q) 86 rfl rfl (Or.inl ⟨by rfl, by intro W hW; obtain ⟨hhv2, hhv1, hhE_3⟩ := hW; have y8 := (cell_of hhv2 8).trans rfl; go_simp⟩) hS11 ?_
             go_frame
             by_cases hc2 : x.q ≤ z.q
             ·
              have HAS : Hid (¬ z.q < x.q) := (by have := hc2; show ¬ _; omega)
              refine tkP 32 (.bool true) 87 rfl rfl hS11 ?_
              go_frame
              refine tkP 33 (.bool true) 88 rfl rfl hS11 ?_
              go_frame
              refine tkP 34 (.bool true) 89 rfl rfl hS11 ?_
              go_frame
              clear hS11
              refine wpAnyH_done (by kernel_rfl) ?_ _
              go_wp2_with fail
              go_ret
              exact BoolIs.no (fun h => by have hk := h.2.2.2.2.2 i (by rw [← HKS.out, List.length_map, HLN.out.2.2.1]; omega); unfold KpOk at hk; rw [HEx.out] at hk; have h2 := hk.2.2.2.1 (by omega); rw [HIM.out, Nat.add_sub_cancel, HEz.out] at h2; have h3 := HAS.out; omega) hb11
             ·
              have HAS : Hid (z.q < x.q) := (by have := hc2; show _ < _; omega)
              refine tkP 32 (.bool false) 87 rfl rfl hS11 ?_
              go_frame
              refine tkP 33 (.bool false) 88 rfl rfl hS11 ?_
              go_frame
              refine tkP 34 (.bool false) 89 rfl rfl hS11 ?_
              go_frame
              clear hS11
              refine wpAnyH_done (by kernel_rfl) ?_ _
              go_wp2_with fail
              have HASC : Hid (0 < i → (kpAt s.ks (i - 1)).q < x.q) := fun _ => by rw [HIM.out, Nat.add_sub_cancel, HEz.out]; exact HAS.out
              clear HAS
              obtain ⟨wB, hwB⟩ := exq w11
              rw [← hwB] at hb11 HBv1_11 HBv2_11 ⊢
              clear hwB
              go_loopw [6] (fun i0 wr => ∃ j : Nat, j ≤ i ∧ i0 = .int .i64 (j : Int) ∧ Hid (Below w.heap.size w (wr) ∧ (wr).heap[qv1]? = some (.cells #[.slice o1 n1 c1, .slice o2 n2 c2, .slice (some ⟨g3, 0, none⟩) n3 c3, .slice o4 n4 c4, .int .i64 s.nx, .int .i64 s.sq] 43) ∧ (wr).heap[qv2]? = some (.cells #[.string x.p, .slice ku1 x.xs.length kuc1, .slice ku2 x.ys.length kuc2, .int .i64 x.st, .slice ku3 x.fs.length kuc3, .string x.b, .int .i64 x.t, .int .i64 x.a, .int .i64 x.q] 105)) ∧ Hid (∀ m, m < j → (kpAt s.ks m).a ≠ x.a)) (fun i0 _ => i - (intOf i0).toNat)
              case atStart => exact ⟨0, Nat.zero_le _, rfl, ⟨hb11, HBv1_11.out, HBv2_11.out⟩, fun m hm => absurd hm (by omega)⟩
              case round =>
               obtain ⟨j, hj, rfl, HW, HJ⟩ := hrel
               by_cases hlj : (j : Int) < (i : Int)
               ·
                have hb12 := HW.out.1
                have HBv1_12 : Hid ((wr).heap[qv1]? = some (.cells #[.slice o1 n1 c1, .slice o2 n2 c2, .slice (some ⟨g3, 0, none⟩) n3 c3, .slice o4 n4 c4, .int .i64 s.nx, .int .i64 s.sq] 43)) := HW.out.2.1
                have HBv2_12 : Hid ((wr).heap[qv2]? = some (.cells #[.string x.p, .slice ku1 x.xs.length kuc1, .slice ku2 x.ys.length kuc2, .int .i64 x.st, .slice ku3 x.fs.length kuc3, .string x.b, .int .i64 x.t, .int .i64 x.a, .int .i64 x.q] 105)) := HW.out.2.2
                clear HW hb11 HBv1_11 HBv2_11
                obtain ⟨z2X, hz2X⟩ := exq (kvAt kv j)
                have HMz2 : Hid (z2X ∈ kv) := by show _ ∈ _; rw [hz2X]; exact kvAt_mem kv j (by rw [HLK.out]; omega)
                have HEz2 : Hid (kpAt s.ks j = z2X.1) := by show _ = _; rw [hz2X, ← HKS.out]; exact (kvAt_fst kv j (by rw [HLK.out]; omega)).symm
                have HTKz2 : Hid (kv.take (j + 1) = kv.take j ++ [z2X]) := by show _ = _; rw [hz2X]; exact kvAt_take kv j (by rw [HLK.out]; omega)
                have HKz2 : Hid (∀ W, Below w.heap.size w W → KpAt W g3 j z2X) := fun W hb => by
                 obtain ⟨g', p', hV, _, hc⟩ := (HKP.out W hb).look j (by rw [HLK.out]; omega)
                 injection hV with hV1 _ _
                 cases hV1
                 rw [hz2X]
                 exact hc
                clear hz2X
                obtain ⟨z2, kzv1, kzv2, kzv3⟩ := z2X
                obtain ⟨kz1, kzc1, hu⟩ := slice_of_owns ((HKP.out _ hb12).names HMz2.out)
                have hu' : kzv1 = .slice kz1 z2.xs.length kzc1 := hu
                subst hu'
                clear hu
                obtain ⟨kz2, kzc2, hu⟩ := slice_of_owns ((HKP.out _ hb12).vals HMz2.out)
                have hu' : kzv2 = .slice kz2 z2.ys.length kzc2 := hu
                subst hu'
                clear hu
                obtain ⟨kz3, kzc3, hu⟩ := slice_of_owns ((HKP.out _ hb12).flds HMz2.out)
                have hu' : kzv3 = .slice kz3 z2.fs.length kzc3 := hu
                subst hu'
                clear hu
                have hjn : ¬ n3 ≤ j := by omega
                have HEL3 : Hid (∀ W, Below w.heap.size w W → (W.cell? ⟨g3, j * 9, none⟩ = some (.string z2.p) ∧ W.cell? ⟨g3, j * 9 + 1, none⟩ = some (.slice kz1 z2.xs.length kzc1) ∧ W.cell? ⟨g3, j * 9 + 2, none⟩ = some (.slice kz2 z2.ys.length kzc2) ∧ W.cell? ⟨g3, j * 9 + 3, none⟩ = some (.int .i64 z2.st) ∧ W.cell? ⟨g3, j * 9 + 4, none⟩ = some (.slice kz3 z2.fs.length kzc3) ∧ W.cell? ⟨g3, j * 9 + 5, none⟩ = some (.string z2.b) ∧ W.cell? ⟨g3, j * 9 + 6, none⟩ = some (.int .i64 z2.t) ∧ W.cell? ⟨g3, j * 9 + 7, none⟩ = some (.int .i64 z2.a) ∧ W.cell? ⟨g3, j * 9 + 8, none⟩ = some (.int .i64 z2.q))) := fun W hb => by
                 have c := HKz2.out W hb
                 exact ⟨c.c0, c.c1, c.c2, c.c3, c.c4, c.c5, c.c6, c.c7, c.c8⟩
                go_upto_region 17 with fail
                refine wp_region_held_drew (S := fun W => W.heap[qv1]? = some (.cells #[.slice o1 n1 c1, .slice o2 n2 c2, .slice (some ⟨g3, 0, none⟩) n3 c3, .slice o4 n4 c4, .int .i64 s.nx, .int .i64 s.sq] 43) ∧ (W.cell? ⟨g3, j * 9, none⟩ = some (.string z2.p) ∧ W.cell? ⟨g3, j * 9 + 1, none⟩ = some (.slice kz1 z2.xs.length kzc1) ∧ W.cell? ⟨g3, j * 9 + 2, none⟩ = some (.slice kz2 z2.ys.length kzc2) ∧ W.cell? ⟨g3, j * 9 + 3, none⟩ = some (.int .i64 z2.st) ∧ W.cell? ⟨g3, j * 9 + 4, none⟩ = some (.slice kz3 z2.fs.length kzc3) ∧ W.cell? ⟨g3, j * 9 + 5, none⟩ = some (.string z2.b) ∧ W.cell? ⟨g3, j * 9 + 6, none⟩ = some (.int .i64 z2.t) ∧ W.cell? ⟨g3, j * 9 + 7, none⟩ = some (.int .i64 z2.a) ∧ W.cell? ⟨g3, j * 9 + 8, none⟩ = some (.int .i64 z2.q)) ∧ W.heap[qv2]? = some (.cells #[.string x.p, .slice ku1 x.xs.length kuc1, .slice ku2 x.ys.length kuc2, .int .i64 x.st, .slice ku3 x.fs.length kuc3, .string x.b, .int .i64 x.t, .int .i64 x.a, .int .i64 x.q] 105)) (by kernel_rfl) ⟨HBv1_12.out, (by first | exact HEL3.out _ hb12 | exact HEL3.out _ hb12.drew), HBv2_12.out⟩ (fun _ => ?_)
                obtain ⟨w13, hX⟩ := exq wr.drew
                have bw := bdr hX
                rw [← hX]
                have hb13 := hbt hb12 bw
                have HBv1_13 := hblk HBv1_12 bw
                have HBv2_13 := hblk HBv2_12 bw
                have hS13 : w13.heap[qv1]? = some (.cells #[.slice o1 n1 c1, .slice o2 n2 c2, .slice (some ⟨g3, 0, none⟩) n3 c3, .slice o4 n4 c4, .int .i64 s.nx, .int .i64 s.sq] 43) ∧ (w13.cell? ⟨g3, j * 9, none⟩ = some (.string z2.p) ∧ w13.cell? ⟨g3, j * 9 + 1, none⟩ = some (.slice kz1 z2.xs.length kzc1) ∧ w13.cell? ⟨g3, j * 9 + 2, none⟩ = some (.slice kz2 z2.ys.length kzc2) ∧ w13.cell? ⟨g3, j * 9 + 3, none⟩ = some (.int .i64 z2.st) ∧ w13.cell? ⟨g3, j * 9 + 4, none⟩ = some (.slice kz3 z2.fs.length kzc3) ∧ w13.cell? ⟨g3, j * 9 + 5, none⟩ = some (.string z2.b) ∧ w13.cell? ⟨g3, j * 9 + 6, none⟩ = some (.int .i64 z2.t) ∧ w13.cell? ⟨g3, j * 9 + 7, none⟩ = some (.int .i64 z2.a) ∧ w13.cell? ⟨g3, j * 9 + 8, none⟩ = some (.int .i64 z2.q)) ∧ w13.heap[qv2]? = some (.cells #[.string x.p, .slice ku1 x.xs.length kuc1, .slice ku2 x.ys.length kuc2, .int .i64 x.st, .slice ku3 x.fs.length kuc3, .string x.b, .int .i64 x.t, .int .i64 x.a, .int .i64 x.q] 105) := ⟨HBv1_13.out, (by first | exact HEL3.out _ hb13 | exact HEL3.out _ hb13.drew), HBv2_13.out⟩
                clear hb12 HBv1_12 HBv2_12 bw hX
                refine tkP 0 (.pointer (some ⟨qv1, 2, none⟩)) 95 rfl rfl hS13 ?_
                go_frame
                refine tkL 1 (.slice (some ⟨g3, 0, none⟩) n3 c3) 96 rfl rfl (Or.inl ⟨by rfl, by intro W hW; obtain ⟨hhv1, hhE_3, hhv2⟩ := hW; have y2 := (cell_of hhv1 2).trans rfl; go_simp⟩) hS13 ?_
                go_frame
                refine tkP 2 (.int .i64 (j : Int)) 97 rfl rfl hS13 ?_
                go_frame
                refine tkP 3 (.pointer (some ⟨g3, j * 9, none⟩)) 98 rfl rfl hS13 ?_
                go_frame
                refine tkP 4 (.pointer (some ⟨g3, j * 9 + 7, none⟩)) 99 rfl rfl hS13 ?_
                go_frame
                refine tkL 5 (.int .i64 z2.a) 100 rfl rfl (Or.inl ⟨by rfl, by intro W hW; obtain ⟨hhv1, hhE_3, hhv2⟩ := hW; have y7 := hhE_3.2.2.2.2.2.2.2.1; go_simp⟩) hS13 ?_
                go_frame
                refine tkP 6 (.pointer (some ⟨qv2, 7, none⟩)) 101 rfl rfl hS13 ?_
                go_frame
                refine tkL 7 (.int .i64 x.a) 102 rfl rfl (Or.inl ⟨by rfl, by intro W hW; obtain ⟨hhv1, hhE_3, hhv2⟩ := hW; have y7 := (cell_of hhv2 7).trans rfl; go_simp⟩) hS13 ?_
                go_frame
                by_cases hc3 : z2.a = x.a
                ·
                 have hc3b : ((z2.a : Int) == (x.a : Int)) = true := by simpa using hc3
                 have hc3n : ((z2.a : Int) != (x.a : Int)) = false := by simpa using hc3
                 have HTW : Hid ((z2.a = x.a)) := hc3
                 have hc3H : Hid (z2.a = x.a) := hc3
                 clear hc3
                 refine tkP 8 (.bool true) 103 rfl rfl hS13 ?_
                 go_frame
                 clear hS13
                 refine wpAnyH_done (by kernel_rfl) ?_ _
                 go_wp2_with fail
                 go_ret
                 exact BoolIs.no (fun h => by have hk := h.2.2.2.2.2 i (by rw [← HKS.out, List.length_map, HLN.out.2.2.1]; omega); unfold KpOk at hk; rw [HEx.out] at hk; exact hk.2.2.2.2 j (by omega) (by rw [HEz2.out]; exact HTW.out)) hb13
                ·
                 have hc3b : ((z2.a : Int) == (x.a : Int)) = false := by simpa using hc3
                 have hc3n : ((z2.a : Int) != (x.a : Int)) = true := by simpa using hc3
                 have HTW : Hid (¬ (z2.a = x.a)) := hc3
                 have hc3H : Hid (¬ (z2.a = x.a)) := hc3
                 clear hc3
                 refine tkP 8 (.bool false) 103 rfl rfl hS13 ?_
                 go_frame
                 clear hS13
                 refine wpAnyH_done (by kernel_rfl) ?_ _
                 have HJ2 : Hid (∀ m, m < j + 1 → (kpAt s.ks m).a ≠ x.a) := fun m hm => by
                  by_cases e : m = j
                  ·
                   subst e
                   rw [HEz2.out]
                   exact HTW.out
                  · exact HJ.out m (by omega)
                 go_wp2_with fail
                 go_roundw
                 case rel => exact ⟨j + 1, by omega, by go_num, ⟨hb13, HBv1_13.out, HBv2_13.out⟩, HJ2⟩
                 case measure => simp [intOf]; omega
               ·
                have hb12 := HW.out.1
                have HBv1_12 : Hid ((wr).heap[qv1]? = some (.cells #[.slice o1 n1 c1, .slice o2 n2 c2, .slice (some ⟨g3, 0, none⟩) n3 c3, .slice o4 n4 c4, .int .i64 s.nx, .int .i64 s.sq] 43)) := HW.out.2.1
                have HBv2_12 : Hid ((wr).heap[qv2]? = some (.cells #[.string x.p, .slice ku1 x.xs.length kuc1, .slice ku2 x.ys.length kuc2, .int .i64 x.st, .slice ku3 x.fs.length kuc3, .string x.b, .int .i64 x.t, .int .i64 x.a, .int .i64 x.q] 105)) := HW.out.2.2
                clear HW hb11 HBv1_11 HBv2_11
                have HTWS : Hid (∀ m, m < i → (kpAt s.ks m).a ≠ x.a) := fun m hm => HJ.out m (by omega)
                clear HJ
                have HN2 : Hid (∀ m, m < i + 1 → KpOk s.ks s.sq m) := fun m hm => by
                 by_cases e : m = i
                 ·
                  subst e
                  unfold KpOk
                  rw [HEx.out]
                  exact ⟨HYuo.out, HYuka.out, HYukq.out, HASC.out, HTWS.out⟩
                 · exact HN.out m (by omega)
                go_wp2_with fail
                go_roundw
                case rel => exact ⟨i + 1, by omega, by go_num, ⟨hb12, HBv1_12.out⟩, HN2⟩
                case measure => simp [intOf]; omega
         ·
          have hi0z : i = 0 := by omega
          go_upto_region 12 with fail
          refine wp_region_held_drew (S := fun W => W.heap[qv2]? = some (.cells #[.string x.p, .slice ku1 x.xs.length kuc1, .slice ku2 x.ys.length kuc2, .int .i64 x.st, .slice ku3 x.fs.length kuc3, .string x.b, .int .i64 x.t, .int .i64 x.a, .int .i64 x.q] 105) ∧ W.heap[qv1]? = some (.cells #[.slice o1 n1 c1, .slice o2 n2 c2, .slice (some ⟨g3, 0, none⟩) n3 c3, .slice o4 n4 c4, .int .i64 s.nx, .int .i64 s.sq] 43)) (by kernel_rfl) ⟨HBv2_7.out, HBv1_7.out⟩ (fun _ => ?_)
          obtain ⟨w8, hX⟩ := exq w7.drew
          have bw := bdr hX
          rw [← hX]
          have hb8 := hbt hb7 bw
          have HM8 := hsz bw
          have HBv1_8 := hblk HBv1_7 bw
          have HBv2_8 := hblk HBv2_7 bw
          have hS8 := And.intro HBv2_8.out HBv1_8.out
          clear hb7 HBv1_7 HBv2_7 bw hX
          refine tkP 0 (.pointer (some ⟨qv2, 0, none⟩)) 55 rfl rfl hS8 ?_
          go_frame
          refine tkL 1 (.agg #[.string x.p, .slice ku1 x.xs.length kuc1, .slice ku2 x.ys.length kuc2, .int .i64 x.st, .slice ku3 x.fs.length kuc3, .string x.b, .int .i64 x.t]) 56 rfl rfl (Or.inl ⟨by rfl, by intro W hW; obtain ⟨hhv2, hhv1⟩ := hW; have y0 := (cell_of hhv2 0).trans rfl; have y1 := (cell_of hhv2 1).trans rfl; have y2 := (cell_of hhv2 2).trans rfl; have y3 := (cell_of hhv2 3).trans rfl; have y4 := (cell_of hhv2 4).trans rfl; have y5 := (cell_of hhv2 5).trans rfl; have y6 := (cell_of hhv2 6).trans rfl; go_simp⟩) hS8 ?_
          go_frame
          refine rd1 2 rfl (fun K hK => ?_)
          go_simp
          refine (specObjOk_k x _ _ _ _ ((HSH.out _ hb8).kept.read HMx.out) (HZ.out.kv HKS.out HMx.out)).mono ?_
          rintro e w9 ⟨uo, rfl, huo, bw⟩
          have hb9 := hbt hb8 bw
          have HM9 := hsz bw
          have HBv1_9 := hblk HBv1_8 bw
          have HBv2_9 := hblk HBv2_8 bw
          clear hb8 HBv1_8 HBv2_8 bw
          have hS9 := And.intro HBv2_9.out HBv1_9.out
          refine hK.out _ _ hS9 (fun _ => ?_)
          clear hK K hS8
          cases uo with
          | false =>
           have HNuo : Hid (¬ (ObjK x)) := fun h => nomatch huo.2 h
           clear huo
           refine tkP 3 (.bool true) 58 rfl rfl hS9 ?_
           go_frame
           refine tkP 4 (.bool true) 59 rfl rfl hS9 ?_
           go_frame
           refine tkN 5 60 rfl rfl hS9 ?_
           go_frame
           refine tkN 6 61 rfl rfl hS9 ?_
           go_frame
           refine tkN 7 62 rfl rfl hS9 ?_
           go_frame
           refine tkN 8 63 rfl rfl hS9 ?_
           go_frame
           refine tkP 9 (.bool true) 64 rfl rfl hS9 ?_
           go_frame
           refine tkP 10 (.bool true) 65 rfl rfl hS9 ?_
           go_frame
           refine tkN 11 66 rfl rfl hS9 ?_
           go_frame
           refine tkN 12 67 rfl rfl hS9 ?_
           go_frame
           refine tkN 13 68 rfl rfl hS9 ?_
           go_frame
           refine tkN 14 69 rfl rfl hS9 ?_
           go_frame
           refine tkN 15 70 rfl rfl hS9 ?_
           go_frame
           refine tkN 16 71 rfl rfl hS9 ?_
           go_frame
           refine tkN 17 72 rfl rfl hS9 ?_
           go_frame
           refine tkP 18 (.bool true) 73 rfl rfl hS9 ?_
           go_frame
           refine tkP 19 (.bool true) 74 rfl rfl hS9 ?_
           go_frame
           refine tkN 20 75 rfl rfl hS9 ?_
           go_frame
           refine tkN 21 76 rfl rfl hS9 ?_
           go_frame
           refine tkN 22 77 rfl rfl hS9 ?_
           go_frame
           refine tkN 23 78 rfl rfl hS9 ?_
           go_frame
           refine tkN 24 79 rfl rfl hS9 ?_
           go_frame
           refine tkN 25 80 rfl rfl hS9 ?_
           go_frame
           refine tkN 26 81 rfl rfl hS9 ?_
           go_frame
           refine tkN 27 82 rfl rfl hS9 ?_
           go_frame
           refine tkN 28 83 rfl rfl hS9 ?_
           go_frame
           refine tkN 29 84 rfl rfl hS9 ?_
           go_frame
           refine tkN 30 85 rfl rfl hS9 ?_
           go_frame
           refine tkN 31 86 rfl rfl hS9 ?_
           go_frame
           refine tkN 32 87 rfl rfl hS9 ?_
           go_frame
           refine tkN 33 88 rfl rfl hS9 ?_
           go_frame
           refine tkP 34 (.bool true) 89 rfl rfl hS9 ?_
           go_frame
           clear hS9
           refine wpAnyH_done (by kernel_rfl) ?_ _
           go_wp2_with fail
           go_ret
           exact BoolIs.no (fun h => by have hk := h.2.2.2.2.2 i (by rw [← HKS.out, List.length_map, HLN.out.2.2.1]; omega); unfold KpOk at hk; rw [HEx.out] at hk; exact HNuo.out hk.1) hb9
          | true =>
           have HYuo : Hid (ObjK x) := huo.1 rfl
           clear huo
           refine tkP 3 (.bool false) 58 rfl rfl hS9 ?_
           go_frame
           refine tkP 4 (.bool false) 59 rfl rfl hS9 ?_
           go_frame
           refine tkP 5 (.pointer (some ⟨qv2, 7, none⟩)) 60 rfl rfl hS9 ?_
           go_frame
           refine tkL 6 (.int .i64 x.a) 61 rfl rfl (Or.inl ⟨by rfl, by intro W hW; obtain ⟨hhv2, hhv1⟩ := hW; have y7 := (cell_of hhv2 7).trans rfl; go_simp⟩) hS9 ?_
           go_frame
           refine rd1 7 rfl (fun K hK => ?_)
           go_simp
           refine (l1In_any x.a 5 19 _).mono ?_
           rintro e w10 ⟨rfl, hwe⟩
           have bw : Below (w9).heap.size (w9) w10 := by rw [hwe]; exact Below.refl _ _
           clear hwe
           obtain ⟨uka, huka⟩ : ∃ u, u = decide ((5 : Int) ≤ x.a ∧ x.a ≤ 19) := ⟨_, rfl⟩
           rw [← huka]
           have hb10 := hbt hb9 bw
           have HM10 := hsz bw
           have HBv1_10 := hblk HBv1_9 bw
           have HBv2_10 := hblk HBv2_9 bw
           clear hb9 HBv1_9 HBv2_9 bw
           have hS10 := And.intro HBv2_10.out HBv1_10.out
           refine hK.out _ _ hS10 (fun _ => ?_)
           clear hK K hS9
           cases uka with
           | false =>
            have HNuka : Hid (¬ (5 ≤ x.a ∧ x.a ≤ 19)) := (show ¬ (5 ≤ x.a ∧ x.a ≤ 19) from of_decide_eq_false huka.symm)
            clear huka
            refine tkP 8 (.bool true) 63 rfl rfl hS10 ?_
            go_frame
            refine tkP 9 (.bool true) 64 rfl rfl hS10 ?_
            go_frame
            refine tkP 10 (.bool true) 65 rfl rfl hS10 ?_
            go_frame
            refine tkN 11 66 rfl rfl hS10 ?_
            go_frame
            refine tkN 12 67 rfl rfl hS10 ?_
            go_frame
            refine tkN 13 68 rfl rfl hS10 ?_
            go_frame
            refine tkN 14 69 rfl rfl hS10 ?_
            go_frame
            refine tkN 15 70 rfl rfl hS10 ?_
            go_frame
            refine tkN 16 71 rfl rfl hS10 ?_
            go_frame
            refine tkN 17 72 rfl rfl hS10 ?_
            go_frame
            refine tkP 18 (.bool true) 73 rfl rfl hS10 ?_
            go_frame
            refine tkP 19 (.bool true) 74 rfl rfl hS10 ?_
            go_frame
            refine tkN 20 75 rfl rfl hS10 ?_
            go_frame
            refine tkN 21 76 rfl rfl hS10 ?_
            go_frame
            refine tkN 22 77 rfl rfl hS10 ?_
            go_frame
            refine tkN 23 78 rfl rfl hS10 ?_
            go_frame
            refine tkN 24 79 rfl rfl hS10 ?_
            go_frame
            refine tkN 25 80 rfl rfl hS10 ?_
            go_frame
            refine tkN 26 81 rfl rfl hS10 ?_
            go_frame
            refine tkN 27 82 rfl rfl hS10 ?_
            go_frame
            refine tkN 28 83 rfl rfl hS10 ?_
            go_frame
            refine tkN 29 84 rfl rfl hS10 ?_
            go_frame
            refine tkN 30 85 rfl rfl hS10 ?_
            go_frame
            refine tkN 31 86 rfl rfl hS10 ?_
            go_frame
            refine tkN 32 87 rfl rfl hS10 ?_
            go_frame
            refine tkN 33 88 rfl rfl hS10 ?_
            go_frame
            refine tkP 34 (.bool true) 89 rfl rfl hS10 ?_
            go_frame
            clear hS10
            refine wpAnyH_done (by kernel_rfl) ?_ _
            go_wp2_with fail
            go_ret
            exact BoolIs.no (fun h => by have hk := h.2.2.2.2.2 i (by rw [← HKS.out, List.length_map, HLN.out.2.2.1]; omega); unfold KpOk at hk; rw [HEx.out] at hk; exact HNuka.out hk.2.1) hb10
           | true =>
            have HYuka : Hid (5 ≤ x.a ∧ x.a ≤ 19) := (show (5 ≤ x.a ∧ x.a ≤ 19) from of_decide_eq_true huka.symm)
            clear huka
            refine tkP 8 (.bool false) 63 rfl rfl hS10 ?_
            go_frame
            refine tkP 9 (.bool false) 64 rfl rfl hS10 ?_
            go_frame
            refine tkP 10 (.bool false) 65 rfl rfl hS10 ?_
            go_frame
            refine tkP 11 (.pointer (some ⟨qv2, 8, none⟩)) 66 rfl rfl hS10 ?_
            go_frame
            refine tkL 12 (.int .i64 x.q) 67 rfl rfl (Or.inl ⟨by rfl, by intro W hW; obtain ⟨hhv2, hhv1⟩ := hW; have y8 := (cell_of hhv2 8).trans rfl; go_simp⟩) hS10 ?_
            go_frame
            refine tkP 13 (.pointer (some ⟨qv1, 5, none⟩)) 68 rfl rfl hS10 ?_
            go_frame
            refine tkL 14 (.int .i64 s.sq) 69 rfl rfl (Or.inl ⟨by rfl, by intro W hW; obtain ⟨hhv2, hhv1⟩ := hW; have y5 := (cell_of hhv1 5).trans rfl; go_simp⟩) hS10 ?_
            go_frame
            refine tkP 15 (.int .i64 (s.sq - 1)) 70 rfl rfl hS10 ?_
            go_frame
            refine rd1 16 rfl (fun K hK => ?_)
            go_simp
            refine (l1In_any x.q 1 (s.sq - 1) _).mono ?_
            rintro e w11 ⟨rfl, hwe⟩
            have bw : Below (w10).heap.size (w10) w11 := by rw [hwe]; exact Below.refl _ _
            clear hwe
            obtain ⟨ukq, hukq⟩ : ∃ u, u = decide ((1 : Int) ≤ x.q ∧ x.q ≤ (s.sq - 1)) := ⟨_, rfl⟩
            rw [← hukq]
            have hb11 := hbt hb10 bw
            have HM11 := hsz bw
            have HBv1_11 := hblk HBv1_10 bw
            have HBv2_11 := hblk HBv2_10 bw
            clear hb10 HBv1_10 HBv2_10 bw
            have hS11 := And.intro HBv2_11.out HBv1_11.out
            refine hK.out _ _ hS11 (fun _ => ?_)
            clear hK K hS10
            cases ukq with
            | false =>
             have HNukq : Hid (¬ (1 ≤ x.q ∧ x.q ≤ (s.sq - 1))) := (show ¬ (1 ≤ x.q ∧ x.q ≤ (s.sq - 1)) from of_decide_eq_false hukq.symm)
             clear hukq
             refine tkP 17 (.bool true) 72 rfl rfl hS11 ?_
             go_frame
             refine tkP 18 (.bool true) 73 rfl rfl hS11 ?_
             go_frame
             refine tkP 19 (.bool true) 74 rfl rfl hS11 ?_
             go_frame
             refine tkN 20 75 rfl rfl hS11 ?_
             go_frame
             refine tkN 21 76 rfl rfl hS11 ?_
             go_frame
             refine tkN 22 77 rfl rfl hS11 ?_
             go_frame
             refine tkN 23 78 rfl rfl hS11 ?_
             go_frame
             refine tkN 24 79 rfl rfl hS11 ?_
             go_frame
             refine tkN 25 80 rfl rfl hS11 ?_
             go_frame
             refine tkN 26 81 rfl rfl hS11 ?_
             go_frame
             refine tkN 27 82 rfl rfl hS11 ?_
             go_frame
             refine tkN 28 83 rfl rfl hS11 ?_
             go_frame
             refine tkN 29 84 rfl rfl hS11 ?_
             go_frame
             refine tkN 30 85 rfl rfl hS11 ?_
             go_frame
             refine tkN 31 86 rfl rfl hS11 ?_
             go_frame
             refine tkN 32 87 rfl rfl hS11 ?_
             go_frame
             refine tkN 33 88 rfl rfl hS11 ?_
             go_frame
             refine tkP 34 (.bool true) 89 rfl rfl hS11 ?_
             go_frame
             clear hS11
             refine wpAnyH_done (by kernel_rfl) ?_ _
             go_wp2_with fail
             go_ret
             exact BoolIs.no (fun h => by have hk := h.2.2.2.2.2 i (by rw [← HKS.out, List.length_map, HLN.out.2.2.1]; omega); unfold KpOk at hk; rw [HEx.out] at hk; exact HNukq.out hk.2.2.1) hb11
            | true =>
             have HYukq : Hid (1 ≤ x.q ∧ x.q ≤ (s.sq - 1)) := (show (1 ≤ x.q ∧ x.q ≤ (s.sq - 1)) from of_decide_eq_true hukq.symm)
             clear hukq
             refine tkP 17 (.bool false) 72 rfl rfl hS11 ?_
             go_frame
             refine tkP 18 (.bool false) 73 rfl rfl hS11 ?_
             go_frame
             refine tkP 19 (.bool false) 74 rfl rfl hS11 ?_
             go_frame
             refine tkP 20 (.int .i64 (i : Int)) 75 rfl rfl hS11 ?_
             go_frame
             refine tkP 21 (.bool false) 76 rfl rfl hS11 ?_
             go_frame
             refine tkP 22 (.bool false) 77 rfl rfl hS11 ?_
             go_frame
             refine tkN 23 78 rfl rfl hS11 ?_
             go_frame
             refine tkN 24 79 rfl rfl hS11 ?_
             go_frame
             refine tkN 25 80 rfl rfl hS11 ?_
             go_frame
             refine tkN 26 81 rfl rfl hS11 ?_
             go_frame
             refine tkN 27 82 rfl rfl hS11 ?_
             go_frame
             refine tkN 28 83 rfl rfl hS11 ?_
             go_frame
             refine tkN 29 84 rfl rfl hS11 ?_
             go_frame
             refine tkN 30 85 rfl rfl hS11 ?_
             go_frame
             refine tkN 31 86 rfl rfl hS11 ?_
             go_frame
             refine tkN 32 87 rfl rfl hS11 ?_
             go_frame
             refine tkP 33 (.bool false) 88 rfl rfl hS11 ?_
             go_frame
             refine tkP 34 (.bool false) 89 rfl rfl hS11 ?_
             go_frame
             clear hS11
             refine wpAnyH_done (by kernel_rfl) ?_ _
             go_wp2_with fail
             have HASC : Hid (0 < i → (kpAt s.ks (i - 1)).q < x.q) := fun h => absurd h (by omega)
             obtain ⟨wB, hwB⟩ := exq w11
             rw [← hwB] at hb11 HBv1_11 HBv2_11 ⊢
             clear hwB
             go_loopw [6] (fun i0 wr => ∃ j : Nat, j ≤ i ∧ i0 = .int .i64 (j : Int) ∧ Hid (Below w.heap.size w (wr) ∧ (wr).heap[qv1]? = some (.cells #[.slice o1 n1 c1, .slice o2 n2 c2, .slice (some ⟨g3, 0, none⟩) n3 c3, .slice o4 n4 c4, .int .i64 s.nx, .int .i64 s.sq] 43) ∧ (wr).heap[qv2]? = some (.cells #[.string x.p, .slice ku1 x.xs.length kuc1, .slice ku2 x.ys.length kuc2, .int .i64 x.st, .slice ku3 x.fs.length kuc3, .string x.b, .int .i64 x.t, .int .i64 x.a, .int .i64 x.q] 105)) ∧ Hid (∀ m, m < j → (kpAt s.ks m).a ≠ x.a)) (fun i0 _ => i - (intOf i0).toNat)
             case atStart => exact ⟨0, Nat.zero_le _, rfl, ⟨hb11, HBv1_11.out, HBv2_11.out⟩, fun m hm => absurd hm (by omega)⟩
             case round =>
              obtain ⟨j, hj, rfl, HW, HJ⟩ := hrel
              by_cases hlj : (j : Int) < (i : Int)
              ·
               have hb12 := HW.out.1
               have HBv1_12 : Hid ((wr).heap[qv1]? = some (.cells #[.slice o1 n1 c1, .slice o2 n2 c2, .slice (some ⟨g3, 0, none⟩) n3 c3, .slice o4 n4 c4, .int .i64 s.nx, .int .i64 s.sq] 43)) := HW.out.2.1
               have HBv2_12 : Hid ((wr).heap[qv2]? = some (.cells #[.string x.p, .slice ku1 x.xs.length kuc1, .slice ku2 x.ys.length kuc2, .int .i64 x.st, .slice ku3 x.fs.length kuc3, .string x.b, .int .i64 x.t, .int .i64 x.a, .int .i64 x.q] 105)) := HW.out.2.2
               clear HW hb11 HBv1_11 HBv2_11
               exact absurd hlj (by omega)
              ·
               have hb12 := HW.out.1
               have HBv1_12 : Hid ((wr).heap[qv1]? = some (.cells #[.slice o1 n1 c1, .slice o2 n2 c2, .slice (some ⟨g3, 0, none⟩) n3 c3, .slice o4 n4 c4, .int .i64 s.nx, .int .i64 s.sq] 43)) := HW.out.2.1
               have HBv2_12 : Hid ((wr).heap[qv2]? = some (.cells #[.string x.p, .slice ku1 x.xs.length kuc1, .slice ku2 x.ys.length kuc2, .int .i64 x.st, .slice ku3 x.fs.length kuc3, .string x.b, .int .i64 x.t, .int .i64 x.a, .int .i64 x.q] 105)) := HW.out.2.2
               clear HW hb11 HBv1_11 HBv2_11
               have HTWS : Hid (∀ m, m < i → (kpAt s.ks m).a ≠ x.a) := fun m hm => HJ.out m (by omega)
               clear HJ
               have HN2 : Hid (∀ m, m < i + 1 → KpOk s.ks s.sq m) := fun m hm => by
                by_cases e : m = i
                ·
                 subst e
                 unfold KpOk
                 rw [HEx.out]
                 exact ⟨HYuo.out, HYuka.out, HYukq.out, HASC.out, HTWS.out⟩
                · exact HN.out m (by omega)
               go_wp2_with fail
               go_roundw
               case rel => exact ⟨i + 1, by omega, by go_num, ⟨hb12, HBv1_12.out⟩, HN2⟩
               case measure => simp [intOf]; omega
        ·
         have hb6 := HW.out.1
         have HBv1_6 : Hid ((wr).heap[qv1]? = some (.cells #[.slice o1 n1 c1, .slice o2 n2 c2, .slice o3 n3 c3, .slice o4 n4 c4, .int .i64 s.nx, .int .i64 s.sq] 43)) := HW.out.2
         clear HW hb5 HBv1_5
         have HKA : Hid (∀ m, m < s.ks.length → KpOk s.ks s.sq m) := fun m hm => HN.out m (by rw [← HKS.out, List.length_map, HLN.out.2.2.1] at hm; omega)
         clear HN
         have cv1_2 := (k6c HBv1_6).2.2.1
         go_wp2_with fail
         go_ret
         exact BoolIs.yes ⟨HYud.out, by rw [HLN.out.2.2.2]; exact HB5.out, HYunx.out, HYusq.out, HAL.out, HKA.out⟩ hb6
end Go.Proofs.YtanpngnpolhgbaaGreat
namespace Go.Proofs.YtanpngnpolhgbaaGreat
open Go.RowKit
open Go.Lib hiding intOf
/-- What is asked for is right; what is kept of it is. -/
def ReqF (d : FlD) : Prop := ReqP d.qmt d.qpa d.qfs d.qbd
def ObjF (d : FlD) : Prop := ObjP d.opa d.oxs d.oys d.ost d.ofs d.obd d.otm
def AlikeF (d e : FlD) : Prop := AlikeP d.qmt d.qpa d.qfs d.qbd e.qmt e.qpa e.qfs e.qbd
/-- A flight is right. -/
def FlOk (d : FlD) : Prop := ReqF d ∧ (1 ≤ (d.who.length : Int) ∧ (d.who.length : Int) ≤ 5) ∧ (d.has = true → ObjF d)
/-- The one at that place is right, and like none ahead of it. -/
def FlAtOk (fl : List FlD) (i : Nat) : Prop := FlOk (flAt fl i) ∧ ∀ k, k < i → ¬ AlikeF (flAt fl k) (flAt fl i)
def FlsP (fl : List FlD) : Prop := fl.length ≤ 5 ∧ ∀ i, i < fl.length → FlAtOk fl i
/-- A cache is right. -/
def CacheP (c : CaD) : Prop := ShelfP c.s ∧ (0 ≤ c.now ∧ c.now ≤ 1000000) ∧ FlsP c.fl ∧ c.se.length ≤ 1500 ∧ c.sn.length ≤ 1500
/-- A cache that was measured. -/
structure CaSmall (y : CaD) : Prop where
 s : ShSmall y.s
 fl : ∀ k ∈ y.fl, FlSmall k
 se : ∀ k ∈ y.se, SeSmall k
 sn : ∀ k ∈ y.sn, RpSmall k
 nf : y.fl.length ≤ 1048576
 ne : y.se.length ≤ 1048576
 nr : y.sn.length ≤ 1048576
theorem fs_get {fs : List (ByteArray × ByteArray)} (h : szTo fs fs.length ≤ 1048576) (x : ByteArray) : (getV fs x).size ≤ 1048576 := by
 unfold getV
 split
 ·
  rename_i hx
  have := szTo_get fs fs.length (atF fs x) hx
  omega
 · decide
theorem fs_copy {fs : List (ByteArray × ByteArray)} (h : szTo fs fs.length ≤ 1048576) : CopyF fs := fun i hi => by
 have := szTo_get fs fs.length i hi
 omega
theorem fs_walk {fs : List (ByteArray × ByteArray)} (h : szTo fs fs.length ≤ 1048576) : WalkF fs.length fs := fun i hi => by
 have := szTo_get fs fs.length i hi
 unfold maxLen
 omega
theorem flR_req {w : World} {B : Nat} {d : FlD} {u2 u4 u6 u7 u9 : Value} (h : RowsO w B (flR (⟨d, u2, u4, u6, u7, u9⟩ : FlV))) : FieldsV w B u2 d.qfs.length d.qfs := FieldsV.of_owns (h.own (⟨150, 2, u2, d.qfs.length, flatF d.qfs⟩ : Rw) (by simp [flR]))
theorem flR_obj {w : World} {B : Nat} {d : FlD} {u2 u4 u6 u7 u9 : Value} (h : RowsO w B (flR (⟨d, u2, u4, u6, u7, u9⟩ : FlV))) : ObjO w B u6 d.oxs.length d.oxs u7 d.oys.length d.oys u9 d.ofs.length d.ofs :=
 rows_obj3 (RowsO.sub h (by unfold flR; apply List.Sublist.cons; apply List.Sublist.cons; exact List.Sublist.refl _))
theorem specReqOk_f (d : FlD) (u2 u4 u6 u7 u9 : Value) (B : Nat) (w : World) (h : RowsO w B (flR (⟨d, u2, u4, u6, u7, u9⟩ : FlV))) (hs : FlSmall d) :
  Calls Tryz.prog 15 #[.agg #[.int .i64 d.qmt, .string d.qpa, u2, .string d.qbd]] w fun e w' => BoolIs (ReqF d) w e w' :=
 specReqOk_any d.qmt d.qpa u2 d.qbd _ B d.qfs w (flR_req h) (Nat.le_trans hs.qfs.1 (by decide)) (fs_walk hs.qfs.2) (Nat.le_trans hs.qpa (by decide)) (Nat.le_trans hs.qbd (by decide))
theorem specObjOk_f (d : FlD) (u2 u4 u6 u7 u9 : Value) (B : Nat) (w : World) (h : RowsO w B (flR (⟨d, u2, u4, u6, u7, u9⟩ : FlV))) (hs : FlSmall d) :
  Calls Tryz.prog 16 #[.agg #[.string d.opa, u6, u7, .int .i64 d.ost, u9, .string d.obd, .int .i64 d.otm]] w fun e w' => BoolIs (ObjF d) w e w' := by
 have ho := flR_obj h
 obtain ⟨o1, c1, rfl⟩ := slice_of_owns ho.names
 obtain ⟨o2, c2, rfl⟩ := slice_of_owns ho.vals
 exact specObjOk_any d.opa o1 _ c1 d.oxs o2 _ c2 d.oys d.ost u9 _ B d.ofs d.obd d.otm w (texts_view ho.names) (texts_view ho.vals) (FieldsV.of_owns ho.flds) (Nat.le_trans hs.oxs.1 (by decide)) (Nat.le_trans hs.oys.1 (by decide)) (Nat.le_trans hs.ofs.1 (by decide)) (small_text hs.oxs.2) (small_text hs.oys.2) (fs_walk hs.ofs.2) (Nat.le_trans hs.opa (by decide)) (Nat.le_trans hs.obd (by decide)) (fs_get hs.ofs.2 _)
theorem specAlike_f (d e : FlD) (u2 u4 u6 u7 u9 t2 t4 t6 t7 t9 : Value) (B C : Nat) (w : World) (h : RowsO w B (flR (⟨d, u2, u4, u6, u7, u9⟩ : FlV))) (h2 : RowsO w C (flR (⟨e, t2, t4, t6, t7, t9⟩ : FlV))) (hd : FlSmall d) (he : FlSmall e) :
  Calls Tryz.prog 17 #[.agg #[.int .i64 d.qmt, .string d.qpa, u2, .string d.qbd], .agg #[.int .i64 e.qmt, .string e.qpa, t2, .string e.qbd]] w fun e' w' => BoolIs (AlikeF d e) w e' w' :=
 specAlike_any d.qmt d.qpa u2 d.qbd _ B d.qfs e.qmt e.qpa t2 e.qbd _ C e.qfs w (flR_req h) hd.qfs.1 (fs_walk hd.qfs.2) (Nat.le_trans hd.qpa (by decide)) (Nat.le_trans hd.qbd (by decide)) (fs_get hd.qfs.2) (flR_req h2) he.qfs.1 (fs_walk he.qfs.2) (Nat.le_trans he.qpa (by decide)) (Nat.le_trans he.qbd (by decide)) (fs_get he.qfs.2)
theorem implReqOk_f (d : FlD) (u2 u4 u6 u7 u9 : Value) (B : Nat) (w : World) (h : RowsO w B (flR (⟨d, u2, u4, u6, u7, u9⟩ : FlV))) (hs : FlSmall d) :
  Calls Tryz.prog 92 #[.agg #[.int .i64 d.qmt, .string d.qpa, u2, .string d.qbd]] w fun e w' => BoolIs (ReqF d) w e w' :=
 implReqOk_any d.qmt d.qpa u2 d.qbd _ B d.qfs w (flR_req h) (Nat.le_trans hs.qfs.1 (by decide)) (fs_walk hs.qfs.2) (Nat.le_trans hs.qpa (by decide)) (Nat.le_trans hs.qbd (by decide))
theorem implObjOk_f (d : FlD) (u2 u4 u6 u7 u9 : Value) (B : Nat) (w : World) (h : RowsO w B (flR (⟨d, u2, u4, u6, u7, u9⟩ : FlV))) (hs : FlSmall d) :
  Calls Tryz.prog 89 #[.agg #[.string d.opa, u6, u7, .int .i64 d.ost, u9, .string d.obd, .int .i64 d.otm]] w fun e w' => BoolIs (ObjF d) w e w' := by
 have ho := flR_obj h
 obtain ⟨o1, c1, rfl⟩ := slice_of_owns ho.names
 obtain ⟨o2, c2, rfl⟩ := slice_of_owns ho.vals
 exact implObjOk_any d.opa o1 _ c1 d.oxs o2 _ c2 d.oys d.ost u9 _ B d.ofs d.obd d.otm w (texts_view ho.names) (texts_view ho.vals) (FieldsV.of_owns ho.flds) (Nat.le_trans hs.oxs.1 (by decide)) (Nat.le_trans hs.oys.1 (by decide)) (Nat.le_trans hs.ofs.1 (by decide)) (small_text hs.oxs.2) (small_text hs.oys.2) (fs_walk hs.ofs.2) (fs_copy hs.ofs.2) (Nat.le_trans hs.opa (by decide)) (Nat.le_trans hs.obd (by decide)) (fs_get hs.ofs.2 _)
theorem implAlike_f (d e : FlD) (u2 u4 u6 u7 u9 t2 t4 t6 t7 t9 : Value) (B C : Nat) (w : World) (h : RowsO w B (flR (⟨d, u2, u4, u6, u7, u9⟩ : FlV))) (h2 : RowsO w C (flR (⟨e, t2, t4, t6, t7, t9⟩ : FlV))) (hd : FlSmall d) (he : FlSmall e) :
  Calls Tryz.prog 95 #[.agg #[.int .i64 d.qmt, .string d.qpa, u2, .string d.qbd], .agg #[.int .i64 e.qmt, .string e.qpa, t2, .string e.qbd]] w fun e' w' => BoolIs (AlikeF d e) w e' w' :=
 implAlike_any d.qmt d.qpa u2 d.qbd _ B d.qfs e.qmt e.qpa t2 e.qbd _ C e.qfs w (flR_req h) hd.qfs.1 (fs_walk hd.qfs.2) (Nat.le_trans hd.qpa (by decide)) (Nat.le_trans hd.qbd (by decide)) (fs_get hd.qfs.2) (fs_copy hd.qfs.2) (flR_req h2) he.qfs.1 (fs_walk he.qfs.2) (Nat.le_trans he.qpa (by decide)) (Nat.le_trans he.qbd (by decide)) (fs_get he.qfs.2) (fs_copy he.qfs.2)
end Go.Proofs.YtanpngnpolhgbaaGreat
namespace Go.Proofs.YtanpngnpolhgbaaGreat
open Go.RowKit
open Go.Lib hiding intOf
theorem flightOk_any (d : FlD) (u2 u4 u6 u7 u9 : Value) (B : Nat) (w : World) (h : RowsO w B (flR (⟨d, u2, u4, u6, u7, u9⟩ : FlV))) (hs : FlSmall d) :
  Calls Tryz.prog 56 #[.agg #[.int .i64 d.qmt, .string d.qpa, u2, .string d.qbd, u4, .string d.opa, u6, u7, .int .i64 d.ost, u9, .string d.obd, .int .i64 d.otm, .bool d.has]] w fun e w' => BoolIs (FlOk d) w e w' := by
 obtain ⟨ku2, kuc2, hu⟩ := slice_of_owns (h.own (⟨150, 2, u2, d.qfs.length, flatF d.qfs⟩ : Rw) (by simp [flR]))
 obtain rfl : u2 = .slice ku2 d.qfs.length kuc2 := hu
 obtain ⟨ku4, kuc4, hu⟩ := slice_of_owns (h.own (⟨3, 1, u4, d.who.length, d.who.map (Value.int .i64)⟩ : Rw) (by simp [flR]))
 obtain rfl : u4 = .slice ku4 d.who.length kuc4 := hu
 obtain ⟨ku6, kuc6, hu⟩ := slice_of_owns (h.own (⟨9, 1, u6, d.oxs.length, d.oxs.map Value.string⟩ : Rw) (by simp [flR]))
 obtain rfl : u6 = .slice ku6 d.oxs.length kuc6 := hu
 obtain ⟨ku7, kuc7, hu⟩ := slice_of_owns (h.own (⟨9, 1, u7, d.oys.length, d.oys.map Value.string⟩ : Rw) (by simp [flR]))
 obtain rfl : u7 = .slice ku7 d.oys.length kuc7 := hu
 obtain ⟨ku9, kuc9, hu⟩ := slice_of_owns (h.own (⟨150, 2, u9, d.ofs.length, flatF d.ofs⟩ : Rw) (by simp [flR]))
 obtain rfl : u9 = .slice ku9 d.ofs.length kuc9 := hu
 have HRd : Hid (∀ W, Below w.heap.size w W → RowsO W B (flR (⟨d, .slice ku2 d.qfs.length kuc2, .slice ku4 d.who.length kuc4, .slice ku6 d.oxs.length kuc6, .slice ku7 d.oys.length kuc7, .slice ku9 d.ofs.length kuc9⟩ : FlV))) := fun W hb => h.below hb
 have HSd : Hid (FlSmall d) := hs
 have bwho : d.who.length ≤ 1048576 := hs.who
 clear h hs
 obtain ⟨hs, hhs⟩ := exq d.has
 rw [← hhs]
 have HHhs : Hid (hs = d.has) := hhs
 clear hhs
 have hb0 : Below w.heap.size w w := Below.refl _ _
 go_enter Tryz.func56, Tryz.ntmps56
 go_upto_region 1 with fail
 obtain ⟨qv1, hqv1⟩ := exq ((w).heap.size)
 obtain ⟨w1, hW1⟩ := exq ((w).alloc (.cells #[.int .i64 d.qmt, .string d.qpa, .slice ku2 d.qfs.length kuc2, .string d.qbd, .slice ku4 d.who.length kuc4, .string d.opa, .slice ku6 d.oxs.length kuc6, .slice ku7 d.oys.length kuc7, .int .i64 d.ost, .slice ku9 d.ofs.length kuc9, .string d.obd, .int .i64 d.otm, .bool hs] 67))
 have hz1 : (w).heap.size = qv1 := hqv1.symm
 first | rw [← hW1, ← hqv1] | rw [← hW1]
 have hs1 := hsa hW1 hz1
 have bw := bal hW1
 have hb1 := hbt hb0 bw
 have HBv1_1 := hnew hW1 hz1
 clear hb0 bw hW1 hz1
 clear hs1 hqv1
 have cv1_0 : (w1).cell? ⟨qv1, 0, none⟩ = some (.int .i64 d.qmt) := (cell_of HBv1_1.out 0).trans rfl
 have cv1_1 : (w1).cell? ⟨qv1, 1, none⟩ = some (.string d.qpa) := (cell_of HBv1_1.out 1).trans rfl
 have cv1_2 : (w1).cell? ⟨qv1, 2, none⟩ = some (.slice ku2 d.qfs.length kuc2) := (cell_of HBv1_1.out 2).trans rfl
 have cv1_3 : (w1).cell? ⟨qv1, 3, none⟩ = some (.string d.qbd) := (cell_of HBv1_1.out 3).trans rfl
 go_wp2_with fail
 refine (implReqOk_f d _ _ _ _ _ B _ (HRd.out _ hb1) HSd.out).mono ?_
 rintro e w2 ⟨ur, rfl, hur, bw⟩
 have hb2 := hbt hb1 bw
 have HBv1_2 := hblk HBv1_1 bw
 clear hb1 HBv1_1 bw
 clear cv1_0 cv1_1 cv1_2 cv1_3
 cases ur with
 | false =>
  have HNur : Hid (¬ (ReqF d)) := fun h => nomatch hur.2 h
  clear hur
  go_wp2_with fail
  go_ret
  exact BoolIs.no (fun h => HNur.out h.1) hb2
 | true =>
  have HYur : Hid (ReqF d) := hur.1 rfl
  clear hur
  by_cases hc1 : 1 ≤ (d.who.length : Int)
  ·
   have Hlo : Hid (1 ≤ (d.who.length : Int)) := hc1
   by_cases hc2 : (d.who.length : Int) ≤ 5
   ·
    have Hhi : Hid ((d.who.length : Int) ≤ 5) := hc2
    cases hs with
    | false =>
     have cv1_4 : (w2).cell? ⟨qv1, 4, none⟩ = some (.slice ku4 d.who.length kuc4) := (cell_of HBv1_2.out 4).trans rfl
     have cv1_12 : (w2).cell? ⟨qv1, 12, none⟩ = some (.bool false) := (cell_of HBv1_2.out 12).trans rfl
     go_wp2_with fail
     go_ret
     exact BoolIs.yes ⟨HYur.out, ⟨Hlo.out, Hhi.out⟩, fun h => by have e := HHhs.out; rw [h] at e; cases e⟩ hb2
    | true =>
     have cv1_4 : (w2).cell? ⟨qv1, 4, none⟩ = some (.slice ku4 d.who.length kuc4) := (cell_of HBv1_2.out 4).trans rfl
     have cv1_5 : (w2).cell? ⟨qv1, 5, none⟩ = some (.string d.opa) := (cell_of HBv1_2.out 5).trans rfl
     have cv1_6 : (w2).cell? ⟨qv1, 6, none⟩ = some (.slice ku6 d.oxs.length kuc6) := (cell_of HBv1_2.out 6).trans rfl
     have cv1_7 : (w2).cell? ⟨qv1, 7, none⟩ = some (.slice ku7 d.oys.length kuc7) := (cell_of HBv1_2.out 7).trans rfl
     have cv1_8 : (w2).cell? ⟨qv1, 8, none⟩ = some (.int .i64 d.ost) := (cell_of HBv1_2.out 8).trans rfl
     have cv1_9 : (w2).cell? ⟨qv1, 9, none⟩ = some (.slice ku9 d.ofs.length kuc9) := (cell_of HBv1_2.out 9).trans rfl
     have cv1_10 : (w2).cell? ⟨qv1, 10, none⟩ = some (.string d.obd) := (cell_of HBv1_2.out 10).trans rfl
     have cv1_11 : (w2).cell? ⟨qv1, 11, none⟩ = some (.int .i64 d.otm) := (cell_of HBv1_2.out 11).trans rfl
     have cv1_12 : (w2).cell? ⟨qv1, 12, none⟩ = some (.bool true) := (cell_of HBv1_2.out 12).trans rfl
     go_wp2_with fail
     refine (implObjOk_f d _ _ _ _ _ B _ (HRd.out _ hb2) HSd.out).mono ?_
     rintro e w3 ⟨uo, rfl, huo, bw⟩
     have hb3 := hbt hb2 bw
     have HBv1_3 := hblk HBv1_2 bw
     clear hb2 HBv1_2 bw
     clear cv1_4 cv1_5 cv1_6 cv1_7 cv1_8 cv1_9 cv1_10 cv1_11 cv1_12
     go_wp2_with fail
     go_ret
     exact ⟨uo, rfl, ⟨fun h => ⟨HYur.out, ⟨Hlo.out, Hhi.out⟩, fun _ => huo.1 h⟩, fun h => huo.2 (h.2.2 HHhs.out.symm)⟩, hb3⟩
   ·
    have Hhi : Hid (¬ ((d.who.length : Int) ≤ 5)) := hc2
    have cv1_4 : (w2).cell? ⟨qv1, 4, none⟩ = some (.slice ku4 d.who.length kuc4) := (cell_of HBv1_2.out 4).trans rfl
    go_wp2_with fail
    go_ret
    exact BoolIs.no (fun h => absurd h.2.1.2 (by have := Hhi.out; omega)) hb2
  ·
   have Hlo : Hid (¬ (1 ≤ (d.who.length : Int))) := hc1
   have cv1_4 : (w2).cell? ⟨qv1, 4, none⟩ = some (.slice ku4 d.who.length kuc4) := (cell_of HBv1_2.out 4).trans rfl
   go_wp2_with fail
   go_ret
   exact BoolIs.no (fun h => absurd h.2.1.1 (by have := Hlo.out; omega)) hb2
theorem alike1_any (d e : FlD) (u2 u4 u6 u7 u9 t2 t4 t6 t7 t9 : Value) (B C q : Nat) (w : World) (h : RowsO w B (flR (⟨d, u2, u4, u6, u7, u9⟩ : FlV))) (h2 : RowsO w C (flR (⟨e, t2, t4, t6, t7, t9⟩ : FlV))) (hd : FlSmall d) (he : FlSmall e) (hq : w.heap[q]? = some (.cells #[.int .i64 e.qmt, .string e.qpa, t2, .string e.qbd] 60)) :
  Calls Tryz.prog 94 #[.agg #[.int .i64 d.qmt, .string d.qpa, u2, .string d.qbd, u4, .string d.opa, u6, u7, .int .i64 d.ost, u9, .string d.obd, .int .i64 d.otm, .bool d.has], .pointer (some ⟨q, 0, none⟩)] w fun e' w' => BoolIs (AlikeF d e) w e' w' := by
 go_enter Tryz.func94, Tryz.ntmps94
 go_upto_region 1 with fail
 obtain ⟨q1, hq1⟩ := exq (w.heap.size)
 obtain ⟨w1, hw1⟩ := exq (w.alloc (.cells #[.int .i64 d.qmt, .string d.qpa, u2, .string d.qbd, u4, .string d.opa, u6, u7, .int .i64 d.ost, u9, .string d.obd, .int .i64 d.otm, .bool d.has] 67))
 rw [← hw1, ← hq1]
 have HX1 : Hid (w1.heap[q1]? = some (.cells #[.int .i64 d.qmt, .string d.qpa, u2, .string d.qbd, u4, .string d.opa, u6, u7, .int .i64 d.ost, u9, .string d.obd, .int .i64 d.otm, .bool d.has] 67)) := by show _ = _; rw [hw1, hq1]; exact heap_alloc_new _ _
 have bw1 : Below w.heap.size w w1 := by rw [hw1]; exact (Below.refl _ _).alloc (Nat.le_refl _) _
 have HQ1 : Hid (w1.heap[q]? = some (.cells #[.int .i64 e.qmt, .string e.qpa, t2, .string e.qbd] 60)) := blk_below hq bw1
 have H1 : Hid (RowsO w1 B (flR (⟨d, u2, u4, u6, u7, u9⟩ : FlV))) := h.below bw1
 have H2 : Hid (RowsO w1 C (flR (⟨e, t2, t4, t6, t7, t9⟩ : FlV))) := h2.below bw1
 have HB1 : Hid (Below w.heap.size w w1) := bw1
 clear hw1 bw1 hq1 hq h h2
 have c0 : w1.cell? ⟨q1, 0, none⟩ = some (.int .i64 d.qmt) := (cell_of HX1.out 0).trans rfl
 have c1 : w1.cell? ⟨q1, 1, none⟩ = some (.string d.qpa) := (cell_of HX1.out 1).trans rfl
 have c2 : w1.cell? ⟨q1, 2, none⟩ = some u2 := (cell_of HX1.out 2).trans rfl
 have c3 : w1.cell? ⟨q1, 3, none⟩ = some (.string d.qbd) := (cell_of HX1.out 3).trans rfl
 have k0 : w1.cell? ⟨q, 0, none⟩ = some (.int .i64 e.qmt) := (cell_of HQ1.out 0).trans rfl
 have k1 : w1.cell? ⟨q, 1, none⟩ = some (.string e.qpa) := (cell_of HQ1.out 1).trans rfl
 have k2 : w1.cell? ⟨q, 2, none⟩ = some t2 := (cell_of HQ1.out 2).trans rfl
 have k3 : w1.cell? ⟨q, 3, none⟩ = some (.string e.qbd) := (cell_of HQ1.out 3).trans rfl
 go_wp2_with fail
 refine (implAlike_f d e u2 u4 u6 u7 u9 t2 t4 t6 t7 t9 B C _ H1.out H2.out hd he).mono ?_
 rintro e' w2 ⟨b, rfl, hb, bw⟩
 have HB2 : Hid (Below w.heap.size w w2) := HB1.out.trans (bw.mono HB1.out.size)
 have HBB : Hid (b = true ↔ AlikeF d e) := hb
 clear c0 c1 c2 c3 k0 k1 k2 k3 HX1 HQ1 H1 H2 HB1 bw hb
 go_wp2_with fail
 go_ret
 exact ⟨b, rfl, HBB.out, HB2.out⟩
/-- A call answers a place, or less than none: whether one of the first is alike. -/
def PlaceIs (fl : List FlD) (m : Nat) (e : FlD) (w : World) (e' : Ending) (w' : World) : Prop := ∃ r : Int, e' = .returned (.int .i64 r) ∧ (0 ≤ r ↔ ∃ k, k < m ∧ AlikeF (flAt fl k) e) ∧ Below w.heap.size w w'
theorem indexFl_any (V : Value) (fv : List FlV) (fl : List FlD) (o5 : Option Addr) (m cp q : Nat) (e : FlD) (t2 t4 t6 t7 t9 : Value) (B C : Nat) (w : World) (hV : ∃ c, V = .slice o5 fv.length c) (h : FlsO w B V fv) (hfd : fv.map (·.d) = fl) (hs : ∀ x ∈ fv, FlSmall x.d) (hm : m ≤ fv.length) (hm2 : m ≤ 1048576) (h2 : RowsO w C (flR (⟨e, t2, t4, t6, t7, t9⟩ : FlV))) (he : FlSmall e) (hq : w.heap[q]? = some (.cells #[.int .i64 e.qmt, .string e.qpa, t2, .string e.qbd] 60)) :
  Calls Tryz.prog 93 #[.slice o5 m cp, .func (.func 94) #[] #[.pointer (some ⟨q, 0, none⟩)]] w fun e' w' => PlaceIs fl m e w e' w' := by
 have hcf : ∀ (args : Array Value) (W : World), (callFunc 94 args).run Tryz.prog W = .ok (.enter 94 args) W := enters_of Tryz.func94 (by kernel_rfl) rfl
 have HFL : Hid (∀ W, Below w.heap.size w W → FlsO W B V fv) := fun W hb => h.below hb
 have HFD : Hid (fv.map (·.d) = fl) := hfd
 have HFS : Hid (∀ x ∈ fv, FlSmall x.d) := hs
 have HM : Hid (m ≤ fv.length) := hm
 have HV : Hid (∃ c, V = .slice o5 fv.length c) := hV
 have HR2 : Hid (∀ W, Below w.heap.size w W → RowsO W C (flR (⟨e, t2, t4, t6, t7, t9⟩ : FlV))) := fun W hb => h2.below hb
 have HQ : Hid (∀ W, Below w.heap.size w W → W.heap[q]? = some (.cells #[.int .i64 e.qmt, .string e.qpa, t2, .string e.qbd] 60)) := fun W hb => blk_below hq hb
 clear h hfd hs hm hV h2 hq
 go_enter Tryz.func93, Tryz.ntmps93
 go_wp2
 go_loopw [8] (fun i wr => ∃ k : Nat, k ≤ m ∧ i = .int .i64 (k : Int) ∧ Hid (∀ j, j < k → ¬ AlikeF (flAt fl j) e) ∧ Hid (Below w.heap.size w wr)) (fun i _ => m - (intOf i).toNat)
 case atStart => exact ⟨0, Nat.zero_le _, rfl, fun j hj => absurd hj (by omega), Below.refl _ _⟩
 case round =>
  obtain ⟨k, hk, rfl, HN, HBW⟩ := hrel
  by_cases hlt : k < m
  ·
   have hlt2 : (k : Int) < (m : Int) := by omega
   obtain ⟨g5, p5, hV, _, hat⟩ := (HFL.out wr HBW.out).look k (Nat.lt_of_lt_of_le hlt HM.out)
   obtain ⟨cc, hcc⟩ := HV.out
   rw [hcc] at hV
   injection hV with hV1 _ _
   subst hV1
   obtain ⟨x, hx⟩ := exq (flvAt fv k)
   have HMx : Hid (x ∈ fv) := by show _ ∈ _; rw [hx]; exact getD_mem0 _ fv k (Nat.lt_of_lt_of_le hlt HM.out)
   have HEx : Hid (flAt fl k = x.d) := by show _ = _; rw [hx, ← HFD.out]; exact getD_map0 _ _ _ fv k (Nat.lt_of_lt_of_le hlt HM.out)
   rw [← hx] at hat
   have HRx : Hid (∀ W, Below w.heap.size w W → RowsO W B (flR x)) := fun W hb => (HFL.out W hb).item HMx.out
   have HSx : Hid (FlSmall x.d) := HFS.out _ HMx.out
   clear hx hcc
   obtain ⟨d, u2v, u4v, u6v, u7v, u9v⟩ := x
   have r0 := hat.c0
   have r1 := hat.c1
   have r2 := hat.c2
   have r3 := hat.c3
   have r4 := hat.c4
   have r5 := hat.c5
   have r6 := hat.c6
   have r7 := hat.c7
   have r8 := hat.c8
   have r9 := hat.c9
   have r10 := hat.c10
   have r11 := hat.c11
   have r12 := hat.c12
   dsimp only at r0 r1 r2 r3 r4 r5 r6 r7 r8 r9 r10 r11 r12 HEx HSx
   clear hat
   go_wp2_with fail
   refine (alike1_any d e u2v u4v u6v u7v u9v t2 t4 t6 t7 t9 B C q _ (HRx.out _ HBW.out) (HR2.out _ HBW.out) HSx.out he (HQ.out _ HBW.out)).mono ?_
   rintro e' w1 ⟨b, rfl, hb, bw⟩
   have HB2 : Hid (Below w.heap.size w w1) := HBW.out.trans (bw.mono HBW.out.size)
   have HBB : Hid (b = true ↔ AlikeF d e) := hb
   clear r0 r1 r2 r3 r4 r5 r6 r7 r8 r9 r10 r11 r12 bw hb
   cases b with
   | true =>
    have HY : Hid (∃ k, k < m ∧ AlikeF (flAt fl k) e) := ⟨k, hlt, by rw [HEx.out]; exact HBB.out.1 rfl⟩
    go_wp2_with fail
    go_ret
    exact ⟨(k : Int), rfl, ⟨fun _ => HY.out, fun _ => by omega⟩, HB2.out⟩
   | false =>
    have HN2 : Hid (∀ j, j < k + 1 → ¬ AlikeF (flAt fl j) e) := fun j hj => by
     by_cases ej : j = k
     ·
      subst ej
      rw [HEx.out]
      exact fun h => nomatch HBB.out.2 h
     · exact HN.out j (by omega)
    go_wp2_with fail
    go_roundw
    case rel => exact ⟨k + 1, by omega, by go_num, HN2, HB2⟩
    case measure => simp [intOf]; omega
  ·
   obtain rfl : k = m := by omega
   go_wp2_with fail
   go_ret
   exact ⟨-1, rfl, ⟨fun h => absurd h (by omega), fun ⟨j, hj, hA⟩ => absurd hA (HN.out j hj)⟩, HBW.out⟩
theorem alikePlace_any (V : Value) (fv : List FlV) (fl : List FlD) (o5 : Option Addr) (m cp : Nat) (e : FlD) (t2 t4 t6 t7 t9 : Value) (B C : Nat) (w : World) (hV : ∃ c, V = .slice o5 fv.length c) (h : FlsO w B V fv) (hfd : fv.map (·.d) = fl) (hs : ∀ x ∈ fv, FlSmall x.d) (hm : m ≤ fv.length) (hm2 : m ≤ 1048576) (h2 : RowsO w C (flR (⟨e, t2, t4, t6, t7, t9⟩ : FlV))) (he : FlSmall e) :
  Calls Tryz.prog 57 #[.slice o5 m cp, .agg #[.int .i64 e.qmt, .string e.qpa, t2, .string e.qbd]] w fun e' w' => PlaceIs fl m e w e' w' := by
 go_enter Tryz.func57, Tryz.ntmps57
 go_upto_region 1 with fail
 obtain ⟨q1, hq1⟩ := exq (w.heap.size)
 obtain ⟨w1, hw1⟩ := exq (w.alloc (.cells #[.int .i64 e.qmt, .string e.qpa, t2, .string e.qbd] 60))
 rw [← hw1, ← hq1]
 have HX1 : Hid (w1.heap[q1]? = some (.cells #[.int .i64 e.qmt, .string e.qpa, t2, .string e.qbd] 60)) := by show _ = _; rw [hw1, hq1]; exact heap_alloc_new _ _
 have HB1 : Hid (Below w.heap.size w w1) := by show Below _ _ _; rw [hw1]; exact (Below.refl _ _).alloc (Nat.le_refl _) _
 have H1 : Hid (FlsO w1 B V fv) := h.below HB1.out
 have H2 : Hid (RowsO w1 C (flR (⟨e, t2, t4, t6, t7, t9⟩ : FlV))) := h2.below HB1.out
 clear hw1 hq1 h h2
 go_wp2_with fail
 refine (indexFl_any V fv fl o5 m cp q1 e t2 t4 t6 t7 t9 B C _ hV H1.out hfd hs hm hm2 H2.out he HX1.out).mono ?_
 rintro e' w2 ⟨r, rfl, hr, bw⟩
 have HB2 : Hid (Below w.heap.size w w2) := HB1.out.trans (bw.mono HB1.out.size)
 have HRR : Hid (0 ≤ r ↔ ∃ k, k < m ∧ AlikeF (flAt fl k) e) := hr
 clear HX1 HB1 H1 H2 bw hr hV hfd hs
 go_wp2_with fail
 go_ret
 exact ⟨r, rfl, HRR.out, HB2.out⟩
end Go.Proofs.YtanpngnpolhgbaaGreat
namespace Go.Proofs.YtanpngnpolhgbaaGreat
open Go.RowKit
open Go.Lib hiding intOf
/-- One that is known, as a value. -/
def kpX (x : KpD × Value × Value × Value) : Value := .agg #[.string x.1.p, x.2.1, x.2.2.1, .int .i64 x.1.st, x.2.2.2, .string x.1.b, .int .i64 x.1.t, .int .i64 x.1.a, .int .i64 x.1.q]
/-- An element of the map is told as itself. -/
def mpR (v : Value) : Option (DataW Value × List MemPlace) := some (.held v, [])
/-- No two in one cell. -/
def ApartA (kv : List (KpD × Value × Value × Value)) : Prop := kv.Pairwise (fun x y => x.1.a ≠ y.1.a)
/-- The map holds just these, each at its cell. -/
def MapIs (D : DataW Value) (kv : List (KpD × Value × Value × Value)) : Prop := (∀ a : Int, Maps.has D (.int .i64 a) = true ↔ ∃ x ∈ kv, x.1.a = a) ∧ ∀ x ∈ kv, ∀ z, D.atKey (.int .i64 x.1.a) z = .held (kpX x)
theorem lit_ne {a b : Int} (h : a ≠ b) : (Lit.int .i64 a) ≠ Lit.int .i64 b := fun e => h (by injection e)
theorem MapIs.nil : MapIs (.map []) [] := ⟨fun a => by simp [Maps.has], fun x hx => by simp at hx⟩
theorem has_put_int {D : DataW Value} (hD : Maps.IsMap D) (a b : Int) (d : DataW Value) : Maps.has (D.put (.int .i64 b) d) (.int .i64 a) = (decide (a = b) || Maps.has D (.int .i64 a)) := by
 by_cases h : a = b
 ·
  subst h
  rw [Maps.has_put_same hD (show WideAt.IsKeyLit (.int .i64 _) from trivial)]
  simp
 ·
  rw [Maps.has_put_other (lit_ne h), decide_eq_false h]
  rfl
/-- One more at a cell that is free. -/
theorem MapIs.put {D : DataW Value} {kv : List (KpD × Value × Value × Value)} (h : MapIs D kv) (hD : Maps.IsMap D) (y : KpD × Value × Value × Value) (hy : ∀ x ∈ kv, x.1.a ≠ y.1.a) : MapIs (D.put (.int .i64 y.1.a) (.held (kpX y))) (kv ++ [y]) := by
 refine ⟨fun a => ?_, fun x hx z => ?_⟩
 ·
  rw [has_put_int hD, Bool.or_eq_true, decide_eq_true_iff, h.1 a]
  constructor
  ·
   rintro (rfl | ⟨x, hx, e⟩)
   · exact ⟨y, by simp, rfl⟩
   · exact ⟨x, by simp [hx], e⟩
  ·
   rintro ⟨x, hx, e⟩
   rcases List.mem_append.1 hx with hx | hx
   · exact .inr ⟨x, hx, e⟩
   ·
    rw [List.mem_singleton.1 hx] at e
    exact .inl e.symm
 ·
  rcases List.mem_append.1 hx with hx | hx
  ·
   rw [Maps.atKey_put_other (lit_ne (hy x hx))]
   exact h.2 x hx z
  ·
   rw [List.mem_singleton.1 hx]
   exact Maps.atKey_put_same hD (show WideAt.IsKeyLit (.int .i64 _) from trivial) _ _
/-- What a map tells of how many there are. -/
structure MapN (D : DataW Value) (kv : List (KpD × Value × Value × Value)) : Prop where
 tidy : Maps.Tidy D
 has : ∀ a : Int, Maps.has D (.int .i64 a) = true ↔ ∃ x ∈ kv, x.1.a = a
 le : Maps.size D ≤ kv.length
 eq : Maps.size D = kv.length ↔ ApartA kv
 is : ApartA kv → MapIs D kv
theorem MapN.nil : MapN (.map []) [] := ⟨Maps.tidy_empty, MapIs.nil.1, Nat.le_refl _, ⟨fun _ => List.Pairwise.nil, fun _ => rfl⟩, fun _ => MapIs.nil⟩
theorem apart_snoc {kv : List (KpD × Value × Value × Value)} {y : KpD × Value × Value × Value} : ApartA (kv ++ [y]) ↔ ApartA kv ∧ ∀ x ∈ kv, x.1.a ≠ y.1.a := by
 unfold ApartA
 rw [List.pairwise_append]
 simp
theorem MapN.put {D : DataW Value} {kv : List (KpD × Value × Value × Value)} (h : MapN D kv) (y : KpD × Value × Value × Value) : MapN (D.put (.int .i64 y.1.a) (.held (kpX y))) (kv ++ [y]) := by
 have hD := h.tidy.isMap
 have hs := Maps.size_put (k := .int .i64 y.1.a) h.tidy (.held (kpX y))
 have hle := h.le
 refine ⟨h.tidy.put (show WideAt.IsKeyLit (.int .i64 _) from trivial) _, fun a => ?_, ?_, ?_, fun ha => ?_⟩
 ·
  rw [has_put_int hD, Bool.or_eq_true, decide_eq_true_iff, h.has a]
  constructor
  ·
   rintro (rfl | ⟨x, hx, e⟩)
   · exact ⟨y, by simp, rfl⟩
   · exact ⟨x, by simp [hx], e⟩
  ·
   rintro ⟨x, hx, e⟩
   rcases List.mem_append.1 hx with hx | hx
   · exact .inr ⟨x, hx, e⟩
   ·
    rw [List.mem_singleton.1 hx] at e
    exact .inl e.symm
 ·
  rw [hs, List.length_append, List.length_singleton]
  split <;> omega
 ·
  rw [hs, List.length_append, List.length_singleton, apart_snoc, ← h.eq]
  by_cases e : Maps.has D (.int .i64 y.1.a) = true
  ·
   rw [if_pos e]
   obtain ⟨x, hx, ex⟩ := (h.has _).1 e
   constructor
   · intro h1; omega
   · rintro ⟨_, h2⟩; exact absurd ex (h2 x hx)
  ·
   rw [if_neg e]
   constructor
   · intro h1; exact ⟨by omega, fun x hx ex => e ((h.has _).2 ⟨x, hx, ex⟩)⟩
   · rintro ⟨h1, _⟩; omega
 ·
  obtain ⟨h1, h2⟩ := apart_snoc.1 ha
  exact (h.is h1).put hD y h2
theorem run_makeMap_hint {P : Program} {t k e : TypeId} (hu : P.underlying t = some (.map k e)) (n : Int) (w : World) : (Instr.makeMap t (some (.int .i64 n))).run P w = .ok (.map (some w.heap.size)) (w.alloc (.map #[] 0)) := by
 simp [Instr.makeMap, run_underlying hu, asInt, asIntOf, Result.andThen]
theorem map_below {P : Program} {k : TypeId} {R : Value → Option (DataW Value × List MemPlace)} {w w' : World} {b n : Nat} {D : DataW Value} (h : w.ownsMap P k R b n D) (hb : Below w.heap.size w w') : w'.ownsMap P k R b n D := by
 have hlt := h.lt
 obtain ⟨es, clock, h1, h2⟩ := h
 exact ⟨es, clock, (hb.block b hlt).trans h1, h2⟩
theorem map_ne {P : Program} {k : TypeId} {R : Value → Option (DataW Value × List MemPlace)} {w : World} {b n q : Nat} {D : DataW Value} {cs : Array Value} {T : TypeId} {fr : Nat × Nat} (h : w.ownsMap P k R b n D) (hq : w.heap[q]? = some (.cells cs T fr)) : b ≠ q := by
 obtain ⟨es, clock, h1, _⟩ := h
 intro e
 subst e
 rw [h1] at hq
 cases hq
theorem map_blk {P : Program} {k : TypeId} {R : Value → Option (DataW Value × List MemPlace)} {w w' : World} {b n q : Nat} {D : DataW Value} {cs : Array Value} {T : TypeId} {fr : Nat × Nat} (h : w.ownsMap P k R b n D) (hq : w.heap[q]? = some (.cells cs T fr)) (hg : w.grownBy w' (some b)) : w'.heap[q]? = some (.cells cs T fr) :=
 (hg.block q (Array.getElem?_eq_some_iff.1 hq).1 (fun e => map_ne h hq (Option.some.inj e).symm)).trans hq
/-- The keys' type. -/
theorem keyInt : Maps.Keyed Tryz.prog 3 := Maps.int_keyed Tryz.underlying3
theorem key_wf {a : Int} (h0 : 0 ≤ a) (h1 : a ≤ 1000) : keyOf Tryz.prog 3 (.int .i64 a) = some (.int .i64 a) := Maps.keyOf_int_mk Tryz.underlying3 (WalkArith.wf_i64 (by omega))
/-- A map of what is known, in a block of one's own. -/
def KnownO (w : World) (b n : Nat) (D : DataW Value) : Prop := w.ownsMap Tryz.prog 3 mpR b n D
/-- A call answers a map of its own that holds these. -/
def KnownIs (kv : List (KpD × Value × Value × Value)) (w : World) (e : Ending) (w' : World) : Prop := ∃ (b n : Nat) (D : DataW Value), e = .returned (.map (some b)) ∧ n ≤ kv.length ∧ KnownO w' b n D ∧ MapN D kv ∧ w.heap.size ≤ b ∧ Below w.heap.size w w'
end Go.Proofs.YtanpngnpolhgbaaGreat
