/- What the proof of FnExactObjOf leans on: contracts of the program's and the specification's functions, and plain facts (part 5 of 5). -/
import Derived.Test.YtdlhicdfldecgaaGreatFnExactObjOfD
namespace Go.Proofs.YtdlhicdfldecgaaGreat
open Go.RowKit
open Go.Lib hiding intOf

theorem pre_age {x : ByteArray} (h : Lib.hasPrefix x.data.toList maW.data.toList = true) : ageOf x = some (numV ⟨(Lib.trimPrefix x.data.toList maW.data.toList).toArray⟩) := by
  unfold ageOf
  have e : (bs x).take 8 = bs maW := by
    have := List.isPrefixOf_iff_prefix.1 h
    obtain ⟨t, ht⟩ := this
    show x.data.toList.take 8 = _
    rw [← ht]
    rfl
  rw [if_pos e]
  unfold Lib.trimPrefix
  rw [if_pos h]
  rfl
theorem pre_none {x : ByteArray} (h : Lib.hasPrefix x.data.toList maW.data.toList = false) : ageOf x = none := by
  unfold ageOf
  rw [if_neg]
  intro e
  have : Lib.hasPrefix x.data.toList maW.data.toList = true := by
    refine List.isPrefixOf_iff_prefix.2 ⟨x.data.toList.drop 8, ?_⟩
    have e' : x.data.toList.take 8 = maW.data.toList := e
    rw [← e', List.take_append_drop]
  rw [this] at h
  cases h

set_option maxHeartbeats 2000000 in
theorem saidBy_any (x : ByteArray) (w : World) (hs : x.size ≤ 4000000) :
    Calls Tryz.prog 91 #[.string x] w fun e w' => e = .returned (saidB x).v ∧ Below w.heap.size w w' := by
  have HR0 : Hid (CcAt (w.alloc (.cells cc0.cs 66)) w.heap.size cc0) := heap_alloc_new w _
  have HB0 : Hid (Below w.heap.size w (w.alloc (.cells cc0.cs 66))) := (Below.refl _ _).alloc (Nat.le_refl _) _
  obtain ⟨W1, hW1⟩ : ∃ W, W = w.alloc (.cells cc0.cs 66) := ⟨_, rfl⟩
  have HW1 : Hid (w.alloc (.cells #[.bool false, .bool false, .bool false, .bool false, .bool false, .int .i64 0] 66) = W1) := hW1.symm
  rw [← hW1] at HR0 HB0
  obtain ⟨H, hH⟩ : ∃ H, H = w.heap.size := ⟨_, rfl⟩
  have HW : Hid (w.heap.size = H) := hH.symm
  rw [← hH] at HR0 HB0
  clear hW1
  cases hp : Lib.hasPrefix x.data.toList maW.data.toList with
  | true =>
    have HA : Hid _ := pre_age hp
    obtain ⟨t, ht⟩ : ∃ t : ByteArray, t = ⟨(Lib.trimPrefix x.data.toList maW.data.toList).toArray⟩ := ⟨_, rfl⟩
    have hts : t.size ≤ maxLen := by
      rw [ht]
      unfold Lib.trimPrefix maxLen
      rw [if_pos hp]
      show (List.toArray _).size ≤ _
      simp
      omega
    rw [← ht] at HA
    have HT : Hid (⟨(Lib.trimPrefix x.data.toList maW.data.toList).toArray⟩ = t) := ht.symm
    clear ht
    go_enter Tryz.func91, Tryz.ntmps91
    go_wp2_with fail
    rw [HW1.out, ← hH]
    refine (Tryz.strings_CutPrefix x maW _).mono ?_
    rintro e w1 ⟨rfl, rfl⟩
    rw [hp, HT.out]
    clear hp hH HW1
    go_wp2_with fail
    refine (implNumRead_any t _ hts).mono ?_
    rintro e w2 ⟨b, n, rfl, hb1, hb2, hb3, b2⟩
    have HV : Hid (numV t = n) := by
      show _ = _
      unfold numV
      cases b with
      | true => rw [if_pos (hb1.1 rfl), hb2 rfl]
      | false => rw [if_neg (fun h => nomatch hb1.2 h), hb3 rfl]
    obtain ⟨c, hc⟩ : ∃ c : CcD, c = ⟨false, false, false, false, true, n⟩ := ⟨_, rfl⟩
    have HC : Hid (saidB x = c) := by show _ = _; unfold saidB; rw [HA.out, HV.out, hc]
    have hR := HR0.out.same (b2.block _ HR0.out.lt)
    have HB : Hid (Below H w (putCc w2 H c)) := below_putCc (HB0.out.trans (b2.mono (Nat.le_of_lt HR0.out.lt))) (Nat.le_refl _) c
    obtain ⟨r0, r1, r2, r3, r4, r5⟩ := hR.cells
    have f0 := hR.frozen 0
    have f1 := hR.frozen 1
    have f2 := hR.frozen 2
    have f3 := hR.frozen 3
    have f4 := hR.frozen 4
    have f5 := hR.frozen 5
    obtain ⟨m0, m1, m2, m3, m4, m5⟩ := (hR.putAll c).cells
    unfold putCc at m0 m1 m2 m3 m4 m5 HB
    subst hc
    dsimp only at m0 m1 m2 m3 m4 m5 HB
    clear hb1 hb2 hb3 hR b2 HR0 HB0 HA
    go_wp2_with fail
    refine bodyPost_ret (v := CcD.v ⟨false, false, false, false, true, n⟩) (by simp [results, Tryz.results91, go_sem, m0, m1, m2, m3, m4, m5, CcD.v]) rfl ?_
    exact ⟨by rw [HC.out], by rw [HW.out]; exact HB.out⟩
  | false =>
    have HA : Hid (saidB x = saidF x) := by show _ = _; unfold saidB; rw [pre_none hp]
    go_enter Tryz.func91, Tryz.ntmps91
    go_wp2_with fail
    rw [HW1.out, ← hH]
    refine (Tryz.strings_CutPrefix x maW _).mono ?_
    rintro e w1 ⟨rfl, rfl⟩
    rw [hp]
    clear hp hH HW1
    go_wp2_with fail
    refine (saidByFlag_any x _).mono ?_
    rintro e w2 ⟨rfl, b2⟩
    obtain ⟨c, hc⟩ : ∃ c, c = saidF x := ⟨_, rfl⟩
    rw [← hc] at HA ⊢
    have hR := HR0.out.same (b2.block _ HR0.out.lt)
    have HB : Hid (Below H w (putCc w2 H c)) := below_putCc (HB0.out.trans (b2.mono (Nat.le_of_lt HR0.out.lt))) (Nat.le_refl _) c
    obtain ⟨r0, r1, r2, r3, r4, r5⟩ := hR.cells
    have f0 := hR.frozen 0
    have f1 := hR.frozen 1
    have f2 := hR.frozen 2
    have f3 := hR.frozen 3
    have f4 := hR.frozen 4
    have f5 := hR.frozen 5
    obtain ⟨m0, m1, m2, m3, m4, m5⟩ := (hR.putAll c).cells
    unfold putCc at m0 m1 m2 m3 m4 m5 HB
    clear hc hR b2 HR0 HB0
    unfold CcD.v
    go_wp2_with fail
    refine bodyPost_ret (v := c.v) (by simp [results, Tryz.results91, go_sem, m0, m1, m2, m3, m4, m5, CcD.v]) rfl ?_
    exact ⟨by rw [HA.out], by rw [HW.out]; exact HB.out⟩

/-- While words are read, here. -/
structure CiRd (w : World) (H : Nat) (c : CcD) (v : Value) (l : List ByteArray) (wr : World) : Prop where
  res : CcAt wr H cc0
  cur : CcAt wr (H + 1) c
  row : wr.ownsRow (H + 1 + 1) 9 1 v l.length (l.map Value.string)
  low : Below H w wr
theorem CiRd.later {w : World} {H : Nat} {c : CcD} {v : Value} {l : List ByteArray} {wr w' : World} (h : CiRd w H c v l wr) (hb : Below wr.heap.size wr w') : CiRd w H c v l w' :=
  ⟨h.res.same (hb.block _ h.res.lt), h.cur.same (hb.block _ h.cur.lt), owns_below h.row hb (fun _ hg => owns_lt h.row hg), h.low.trans (hb.mono (Nat.le_of_lt h.res.lt))⟩
theorem CiRd.putCc {w : World} {H : Nat} {c : CcD} {v : Value} {l : List ByteArray} {wr : World} (h : CiRd w H c v l wr) (d : CcD) : CiRd w H d v l (putCc wr (H + 1) d) :=
  ⟨h.res.same (putCc_other (by omega)), h.cur.putAll d, owns_same h.row (fun j hj => putCc_other (by have := (own_ltR h.row hj).1; omega)), below_putCc h.low (by omega) d⟩

set_option maxHeartbeats 4000000 in
set_option maxRecDepth 100000 in
theorem implCcRead_any (s : ByteArray) (w : World) (hs : s.size ≤ 1048576) :
    Calls Tryz.prog 74 #[.string s] w fun e w' => e = .returned (ccR s).v ∧ Below w.heap.size w w' := by
  obtain ⟨H, hH⟩ : ∃ H, H = w.heap.size := ⟨_, rfl⟩
  have HW : Hid (w.heap.size = H) := hH.symm
  obtain ⟨W0, hW0⟩ : ∃ W, W = (w.alloc (.cells cc0.cs 66)).alloc (.cells cc0.cs 66) := ⟨_, rfl⟩
  have HA : Hid (CcAt W0 H cc0 ∧ CcAt W0 (H + 1) cc0 ∧ Below H w W0 ∧ W0.heap.size = H + 1 + 1) := by
    have e1 := heap_alloc_new w (.cells cc0.cs 66)
    have e2 := heap_alloc_new (w.alloc (.cells cc0.cs 66)) (.cells cc0.cs 66)
    rw [World.size_alloc] at e2
    refine ⟨?_, ?_, ?_, ?_⟩
    · unfold CcAt; rw [hW0, hH, heap_alloc_old _ _ (by simp)]; exact e1
    · unfold CcAt; rw [hW0, hH]; exact e2
    · rw [hW0, hH]; exact ((Below.refl _ w).alloc (Nat.le_refl _) _).alloc (by simp) _
    · rw [hW0, hH]; simp
  have HW0 : Hid ((w.alloc (.cells #[.bool false, .bool false, .bool false, .bool false, .bool false, .int .i64 0] 66)).alloc (.cells #[.bool false, .bool false, .bool false, .bool false, .bool false, .int .i64 0] 66) = W0) := hW0.symm
  clear hW0
  go_enter Tryz.func74, Tryz.ntmps74
  go_wp2_with fail
  rw [HW0.out, ← hH]
  clear hH
  refine (implSplit_any s _ hs).mono ?_
  rintro e w0 ⟨v, rfl, hown, bb⟩
  rw [HA.out.2.2.2] at hown bb
  obtain ⟨l, hl⟩ : ∃ l, l = splitL s := ⟨_, rfl⟩
  rw [← hl] at hown
  have HLS : Hid (splitL s = l) := hl.symm
  have HLB : Hid (∀ x ∈ l, x.size ≤ 1048576) := fun x hx => by rw [hl] at hx; have := (splitL_le s).2 x hx; omega
  have hll : l.length ≤ 1048577 := by rw [hl]; have := (splitL_le s).1; omega
  have HS1 : Hid (CiRd w H (ccTo (l.take 0)) v l w0) := ⟨HA.out.1.same (bb.block _ (by omega)), HA.out.2.1.same (bb.block _ (by omega)), hown, HA.out.2.2.1.trans (bb.mono (by omega))⟩
  obtain ⟨oa, cp, rfl⟩ := slice_of_owns hown
  obtain ⟨n, hn⟩ : ∃ n, n = l.length := ⟨_, rfl⟩
  have HN : Hid (l.length = n) := hn.symm
  rw [← hn] at hll HS1 ⊢
  clear hown bb hl hn
  go_wp2_with fail
  go_loopw [9] (fun i wr => ∃ k : Nat, k ≤ n ∧ i = .int .i64 (k : Int) ∧ Hid (CiRd w H (ccTo (l.take k)) (.slice oa n cp) l wr)) (fun i _ => n - (intOf i).toNat)
  case atStart => exact ⟨0, Nat.zero_le _, rfl, HS1⟩
  case round =>
    obtain ⟨k, hk, rfl, HS⟩ := hrel
    by_cases hlt : (k : Int) < (n : Int)
    · have hkl : k < l.length := by have := HN.out; omega
      obtain ⟨g, rfl⟩ : ∃ g, oa = some ⟨g, 0, none⟩ := by
        rcases HS.out.row.2 with ⟨e, _⟩ | ⟨g, _, _, e, _⟩
        · injection e with _ e2 _; omega
        · injection e with e1 _ _; exact ⟨g, e1⟩
      obtain ⟨x, hx⟩ : ∃ x, x = l[k]'hkl := ⟨_, rfl⟩
      have hc0 : wr.cell? ⟨g, k, none⟩ = some (.string x) := by
        have hr := HS.out.row
        rw [HN.out] at hr
        exact (owns_cellC hr k (.string x) (by rw [List.getElem?_map, List.getElem?_eq_getElem hkl, hx]; rfl)).1
      have hxs : x.size ≤ 1048576 := by rw [hx]; exact HLB.out _ (List.getElem_mem hkl)
      obtain ⟨y, hy⟩ : ∃ y, y = lowerOf x := ⟨_, rfl⟩
      have hys : y.size ≤ 4000000 := by rw [hy, ccLow_size]; omega
      have HY : Hid (lowerOf x = y) := hy.symm
      obtain ⟨d, hd⟩ : ∃ d, d = ccTo (l.take (k + 1)) := ⟨_, rfl⟩
      obtain ⟨c, hc⟩ : ∃ c, c = ccTo (l.take k) := ⟨_, rfl⟩
      obtain ⟨u, hu⟩ : ∃ u, u = saidB y := ⟨_, rfl⟩
      have HSB : Hid (saidB y = u) := hu.symm
      have HTD : Hid (toge c u = d) := by
        show _ = _
        rw [hd, List.take_succ_eq_append_getElem hkl, ccTo_snoc, ← hx, ← hy, step_toge (ccTo_fit _), hc, hu]
      have HTG : Hid (∀ W, Calls Tryz.prog 90 #[.agg #[.bool c.ns, .bool c.nc, .bool c.pr, .bool c.mu, .bool c.ha, .int .i64 c.age], .agg #[.bool u.ns, .bool u.nc, .bool u.pr, .bool u.mu, .bool u.ha, .int .i64 u.age]] W fun e w' => e = .returned (toge c u).v ∧ Below W.heap.size W w') := fun W => together_any c u W
      have HD : Hid (∀ W, CiRd w H d (.slice (some ⟨g, 0, none⟩) n cp) l W → CiRd w H (ccTo (l.take (k + 1))) (.slice (some ⟨g, 0, none⟩) n cp) l W) := fun W h => by rw [← hd]; exact h
      rw [← hc] at HS
      clear hx hy hkl hc hd hu
      have HT1 : Hid (CiRd w H c (.slice (some ⟨g, 0, none⟩) n cp) l wr.drew) := HS.out.later (Below.refl _ _).drew
      go_upto_region 5 with fail
      clear hc0 HS
      refine wp_region_held_drew (S := fun _ => True) (by kernel_rfl) trivial (fun _ => ?_)
      refine wpAnyH_takeD (i := 1) (v := .string x) (some 14) rfl rfl (by kernel_rfl) (by kernel_rfl) (by kernel_rfl) (fun _ _ _ h => h) (Or.inl ⟨by rfl, by intro W _; go_simp⟩) trivial ?_
      simp only [Act.put, List.setIfInBounds_toArray, List.set_cons_zero, List.set_cons_succ]
      refine wpAnyH_ready (rs := [0, 2]) (by kernel_rfl) (by simp) ?_
      refine AllReadyH.cons rfl (fun K hK => ?_) (AllReadyH.cons rfl (fun K hK => ?_) AllReadyH.nil)
      · obtain ⟨q0, q1, q2, q3, q4, q5⟩ := HT1.out.cur.cells
        go_simp
        refine hK.out _ _ trivial (fun _ => ?_)
        clear hK K q0 q1 q2 q3 q4 q5
        refine wpAnyH_ready (rs := [2]) (by kernel_rfl) (by simp) ?_
        refine AllReadyH.cons rfl (fun K hK => ?_) AllReadyH.nil
        go_simp
        refine (implLower_any x _).mono ?_
        rintro e w2 ⟨rfl, hb2⟩
        rw [HY.out]
        have HT2 : Hid (CiRd w H c (.slice (some ⟨g, 0, none⟩) n cp) l w2) := HT1.out.later hb2
        clear hb2
        refine hK.out _ _ trivial (fun _ => ?_)
        clear hK K HT1
        refine wpAnyH_ready (rs := [3]) (by kernel_rfl) (by simp) ?_
        refine AllReadyH.cons rfl (fun K hK => ?_) AllReadyH.nil
        go_simp
        refine (saidBy_any y _ hys).mono ?_
        rintro e w3 ⟨rfl, hb3⟩
        rw [HSB.out]
        unfold CcD.v
        have HT3 : Hid (CiRd w H c (.slice (some ⟨g, 0, none⟩) n cp) l w3) := HT2.out.later hb3
        clear hb3
        refine hK.out _ _ trivial (fun _ => ?_)
        clear hK K HT2
        refine wpAnyH_ready (rs := [4]) (by kernel_rfl) (by simp) ?_
        refine AllReadyH.cons rfl (fun K hK => ?_) AllReadyH.nil
        go_simp
        refine (HTG.out _).mono ?_
        rintro e w4 ⟨rfl, hb4⟩
        rw [HTD.out]
        unfold CcD.v
        have HT4 : Hid (CiRd w H c (.slice (some ⟨g, 0, none⟩) n cp) l w4) := HT3.out.later hb4
        clear hb4
        refine hK.out _ _ trivial (fun _ => ?_)
        clear hK K HT3
        refine wpAnyH_ready (rs := [5]) (by kernel_rfl) (by simp) ?_
        refine AllReadyH.cons rfl (fun K hK => ?_) AllReadyH.nil
        have HZ : Hid (CiRd w H d (.slice (some ⟨g, 0, none⟩) n cp) l (putCc w4 (H + 1) d)) := HT4.out.putCc d
        obtain ⟨q0, q1, q2, q3, q4, q5⟩ := HT4.out.cur.cells
        have f0 := HT4.out.cur.frozen 0
        have f1 := HT4.out.cur.frozen 1
        have f2 := HT4.out.cur.frozen 2
        have f3 := HT4.out.cur.frozen 3
        have f4 := HT4.out.cur.frozen 4
        have f5 := HT4.out.cur.frozen 5
        unfold putCc at HZ
        clear HT4
        go_simp
        refine hK.out _ _ trivial (fun _ => ?_)
        clear hK K q0 q1 q2 q3 q4 q5 f0 f1 f2 f3 f4 f5
        refine wpAnyH_done (by kernel_rfl) ?_ _
        go_wp2_with fail
        go_roundw
        case rel => exact ⟨k + 1, by omega, by go_num, HD.out _ HZ.out⟩
        case measure => simp [intOf]; omega
      · go_simp
        refine (implLower_any x _).mono ?_
        rintro e w2 ⟨rfl, hb2⟩
        rw [HY.out]
        have HT2 : Hid (CiRd w H c (.slice (some ⟨g, 0, none⟩) n cp) l w2) := HT1.out.later hb2
        clear hb2
        refine hK.out _ _ trivial (fun _ => ?_)
        clear hK K HT1
        refine wpAnyH_ready (rs := [0, 3]) (by kernel_rfl) (by simp) ?_
        refine AllReadyH.cons rfl (fun K hK => ?_) (AllReadyH.cons rfl (fun K hK => ?_) AllReadyH.nil)
        · obtain ⟨q0, q1, q2, q3, q4, q5⟩ := HT2.out.cur.cells
          go_simp
          refine hK.out _ _ trivial (fun _ => ?_)
          clear hK K q0 q1 q2 q3 q4 q5
          refine wpAnyH_ready (rs := [3]) (by kernel_rfl) (by simp) ?_
          refine AllReadyH.cons rfl (fun K hK => ?_) AllReadyH.nil
          go_simp
          refine (saidBy_any y _ hys).mono ?_
          rintro e w3 ⟨rfl, hb3⟩
          rw [HSB.out]
          unfold CcD.v
          have HT3 : Hid (CiRd w H c (.slice (some ⟨g, 0, none⟩) n cp) l w3) := HT2.out.later hb3
          clear hb3
          refine hK.out _ _ trivial (fun _ => ?_)
          clear hK K HT2
          refine wpAnyH_ready (rs := [4]) (by kernel_rfl) (by simp) ?_
          refine AllReadyH.cons rfl (fun K hK => ?_) AllReadyH.nil
          go_simp
          refine (HTG.out _).mono ?_
          rintro e w4 ⟨rfl, hb4⟩
          rw [HTD.out]
          unfold CcD.v
          have HT4 : Hid (CiRd w H c (.slice (some ⟨g, 0, none⟩) n cp) l w4) := HT3.out.later hb4
          clear hb4
          refine hK.out _ _ trivial (fun _ => ?_)
          clear hK K HT3
          refine wpAnyH_ready (rs := [5]) (by kernel_rfl) (by simp) ?_
          refine AllReadyH.cons rfl (fun K hK => ?_) AllReadyH.nil
          have HZ : Hid (CiRd w H d (.slice (some ⟨g, 0, none⟩) n cp) l (putCc w4 (H + 1) d)) := HT4.out.putCc d
          obtain ⟨q0, q1, q2, q3, q4, q5⟩ := HT4.out.cur.cells
          have f0 := HT4.out.cur.frozen 0
          have f1 := HT4.out.cur.frozen 1
          have f2 := HT4.out.cur.frozen 2
          have f3 := HT4.out.cur.frozen 3
          have f4 := HT4.out.cur.frozen 4
          have f5 := HT4.out.cur.frozen 5
          unfold putCc at HZ
          clear HT4
          go_simp
          refine hK.out _ _ trivial (fun _ => ?_)
          clear hK K q0 q1 q2 q3 q4 q5 f0 f1 f2 f3 f4 f5
          refine wpAnyH_done (by kernel_rfl) ?_ _
          go_wp2_with fail
          go_roundw
          case rel => exact ⟨k + 1, by omega, by go_num, HD.out _ HZ.out⟩
          case measure => simp [intOf]; omega
        · go_simp
          refine (saidBy_any y _ hys).mono ?_
          rintro e w3 ⟨rfl, hb3⟩
          rw [HSB.out]
          unfold CcD.v
          have HT3 : Hid (CiRd w H c (.slice (some ⟨g, 0, none⟩) n cp) l w3) := HT2.out.later hb3
          clear hb3
          refine hK.out _ _ trivial (fun _ => ?_)
          clear hK K HT2
          refine wpAnyH_ready (rs := [0]) (by kernel_rfl) (by simp) ?_
          refine AllReadyH.cons rfl (fun K hK => ?_) AllReadyH.nil
          obtain ⟨q0, q1, q2, q3, q4, q5⟩ := HT3.out.cur.cells
          go_simp
          refine hK.out _ _ trivial (fun _ => ?_)
          clear hK K q0 q1 q2 q3 q4 q5
          refine wpAnyH_ready (rs := [4]) (by kernel_rfl) (by simp) ?_
          refine AllReadyH.cons rfl (fun K hK => ?_) AllReadyH.nil
          go_simp
          refine (HTG.out _).mono ?_
          rintro e w4 ⟨rfl, hb4⟩
          rw [HTD.out]
          unfold CcD.v
          have HT4 : Hid (CiRd w H c (.slice (some ⟨g, 0, none⟩) n cp) l w4) := HT3.out.later hb4
          clear hb4
          refine hK.out _ _ trivial (fun _ => ?_)
          clear hK K HT3
          refine wpAnyH_ready (rs := [5]) (by kernel_rfl) (by simp) ?_
          refine AllReadyH.cons rfl (fun K hK => ?_) AllReadyH.nil
          have HZ : Hid (CiRd w H d (.slice (some ⟨g, 0, none⟩) n cp) l (putCc w4 (H + 1) d)) := HT4.out.putCc d
          obtain ⟨q0, q1, q2, q3, q4, q5⟩ := HT4.out.cur.cells
          have f0 := HT4.out.cur.frozen 0
          have f1 := HT4.out.cur.frozen 1
          have f2 := HT4.out.cur.frozen 2
          have f3 := HT4.out.cur.frozen 3
          have f4 := HT4.out.cur.frozen 4
          have f5 := HT4.out.cur.frozen 5
          unfold putCc at HZ
          clear HT4
          go_simp
          refine hK.out _ _ trivial (fun _ => ?_)
          clear hK K q0 q1 q2 q3 q4 q5 f0 f1 f2 f3 f4 f5
          refine wpAnyH_done (by kernel_rfl) ?_ _
          go_wp2_with fail
          go_roundw
          case rel => exact ⟨k + 1, by omega, by go_num, HD.out _ HZ.out⟩
          case measure => simp [intOf]; omega
    · obtain rfl : k = n := by omega
      have HE : Hid (ccTo (l.take k) = ccR s) := by
        show _ = _
        rw [List.take_of_length_le (by rw [HN.out]; exact Nat.le_refl _)]
        unfold ccR
        rw [HLS.out]
      rw [HE.out] at HS
      obtain ⟨c, hc⟩ : ∃ c, c = ccR s := ⟨_, rfl⟩
      rw [← hc] at HS
      have HC : Hid (c = ccR s) := hc
      obtain ⟨q0, q1, q2, q3, q4, q5⟩ := HS.out.cur.cells
      obtain ⟨r0, r1, r2, r3, r4, r5⟩ := HS.out.res.cells
      have f0 := HS.out.res.frozen 0
      have f1 := HS.out.res.frozen 1
      have f2 := HS.out.res.frozen 2
      have f3 := HS.out.res.frozen 3
      have f4 := HS.out.res.frozen 4
      have f5 := HS.out.res.frozen 5
      obtain ⟨m0, m1, m2, m3, m4, m5⟩ := (HS.out.res.putAll c).cells
      have HB : Hid (Below H w (putCc wr H c)) := below_putCc HS.out.low (Nat.le_refl _) c
      clear hc HE
      unfold putCc at m0 m1 m2 m3 m4 m5 HB
      go_wp2_with fail
      refine bodyPost_ret (v := c.v) (by simp [results, Tryz.results74, go_sem, m0, m1, m2, m3, m4, m5, CcD.v]) rfl ?_
      exact ⟨by rw [HC.out], by rw [HW.out]; exact HB.out⟩

set_option maxHeartbeats 1000000 in
theorem implCcOf_any (v : Value) (n base : Nat) (fs : List (ByteArray × ByteArray)) (w : World) (hv : FieldsV w base v n fs) (hn : n ≤ 1073741824) (hcp : CopyF fs) (hsz : (getV fs ccName).size ≤ 1048576) :
    Calls Tryz.prog 50 #[v] w fun e w' => e = .returned (ccR (getV fs ccName)).v ∧ Below w.heap.size w w' := by
  have hv1 : FieldsV (w.alloc (.cells cc0.cs 66)) base v n fs := hv.below ((Below.refl _ _).alloc (Nat.le_refl _) _)
  have HR0 : Hid (CcAt (w.alloc (.cells cc0.cs 66)) w.heap.size cc0) := heap_alloc_new w _
  have HB0 : Hid (Below w.heap.size w (w.alloc (.cells cc0.cs 66))) := (Below.refl _ _).alloc (Nat.le_refl _) _
  obtain ⟨t, ht⟩ : ∃ t, t = getV fs ccName := ⟨_, rfl⟩
  have HT : Hid (getV fs ccName = t) := ht.symm
  rw [← ht] at hsz
  obtain ⟨c, hc⟩ : ∃ c, c = ccR t := ⟨_, rfl⟩
  have HC : Hid (ccR t = c) := hc.symm
  rw [← ht, ← hc]
  clear ht hc hv
  go_enter Tryz.func50, Tryz.ntmps50
  go_wp2_with fail
  refine (implGet_any v n base fs ccName _ hv1 hn hcp).mono ?_
  rintro e w1 ⟨rfl, b1⟩
  rw [HT.out]
  have HR1 : Hid (CcAt w1 w.heap.size cc0) := HR0.out.same (b1.block _ HR0.out.lt)
  have HB1 : Hid (Below w.heap.size w w1) := HB0.out.trans (b1.mono (Nat.le_of_lt HR0.out.lt))
  clear hv1 b1 HR0 HB0
  go_wp2_with fail
  refine (implCcRead_any t _ hsz).mono ?_
  rintro e w2 ⟨rfl, b2⟩
  rw [HC.out]
  have hR := HR1.out.same (b2.block _ HR1.out.lt)
  obtain ⟨r0, r1, r2, r3, r4, r5⟩ := hR.cells
  have f0 := hR.frozen 0
  have f1 := hR.frozen 1
  have f2 := hR.frozen 2
  have f3 := hR.frozen 3
  have f4 := hR.frozen 4
  have f5 := hR.frozen 5
  obtain ⟨m0, m1, m2, m3, m4, m5⟩ := (hR.putAll c).cells
  have HB : Hid (Below w.heap.size w (putCc w2 w.heap.size c)) := below_putCc (HB1.out.trans (b2.mono (Nat.le_of_lt HR1.out.lt))) (Nat.le_refl _) c
  unfold putCc at m0 m1 m2 m3 m4 m5 HB
  clear hR b2 HR1 HB1
  unfold CcD.v
  go_wp2_with fail
  refine bodyPost_ret (v := c.v) (by simp [results, Tryz.results50, go_sem, m0, m1, m2, m3, m4, m5, CcD.v]) rfl ?_
  exact ⟨rfl, HB.out⟩

end Go.Proofs.YtdlhicdfldecgaaGreat

namespace Go.Proofs.YtdlhicdfldecgaaGreat
open Go.RowKit
open Go.Lib hiding intOf

set_option maxHeartbeats 1000000 in
theorem isRightGet_any (m : Int) (p : ByteArray) (v : Value) (b : ByteArray) (n base : Nat) (fs : List (ByteArray × ByteArray)) (w : World) (hv : FieldsV w base v n fs) (hn : n ≤ 1073741824) (hsz : WalkF n fs) (hp : p.size ≤ maxLen) (hb : b.size ≤ maxLen) :
    Calls Tryz.prog 51 #[.agg #[.int .i64 m, .string p, v, .string b]] w fun e w' => BoolIs (ReqP m p fs b ∧ m = 1) w e w' := by
  obtain ⟨oa, cap, rfl, _⟩ := hv.slice
  obtain ⟨r, hr⟩ : ∃ r, r = w.heap.size := ⟨_, rfl⟩
  obtain ⟨W1, hW1⟩ : ∃ W, W = w.alloc (.cells #[.int .i64 m, .string p, .slice oa n cap, .string b] 38) := ⟨_, rfl⟩
  have HW1 : Hid (w.alloc (.cells #[.int .i64 m, .string p, .slice oa n cap, .string b] 38) = W1) := hW1.symm
  have H1 : Hid (W1.heap[r]? = some (.cells #[.int .i64 m, .string p, .slice oa n cap, .string b] 38)) := by show _ = _; rw [hW1, hr]; exact heap_alloc_new w _
  have HB1 : Hid (Below w.heap.size w W1) := by show Below _ _ _; rw [hW1]; exact (Below.refl _ _).alloc (Nat.le_refl _) _
  have hv1 := hv.below HB1.out
  obtain ⟨⟨c0, c1, c2, c3⟩, _⟩ := four_facts H1.out
  clear hW1 hv
  go_enter Tryz.func51, Tryz.ntmps51
  go_upto_region 1 with fail
  rw [HW1.out, ← hr]
  clear hr HW1
  go_wp2_with fail
  refine (implReqOk_any m p _ b n base fs _ hv1 hn hsz hp hb).mono ?_
  rintro e w2 ⟨t, rfl, ht, b2⟩
  have HB2 : Hid (Below w.heap.size w w2) := HB1.out.trans (b2.mono HB1.out.size)
  have H2 : Hid (w2.heap[r]? = some (.cells #[.int .i64 m, .string p, .slice oa n cap, .string b] 38)) := by show _ = _; rw [b2.block r (Array.getElem?_eq_some_iff.1 H1.out).1]; exact H1.out
  clear c0 c1 c2 c3 hv1 H1 HB1 b2
  cases t with
  | false =>
    have HF : Hid (¬ (ReqP m p fs b ∧ m = 1)) := fun h => nomatch ht.2 h.1
    clear ht
    go_wp2_with fail
    go_ret
    exact BoolIs.no HF.out HB2.out
  | true =>
    have HQ : Hid (ReqP m p fs b) := ht.1 rfl
    obtain ⟨⟨c0, _⟩, _⟩ := four_facts H2.out
    have HT : Hid ((m == 1) = true ↔ (ReqP m p fs b ∧ m = 1)) := by show _ ↔ _; simp [HQ.out]
    clear ht HQ H2
    go_wp2_with fail
    go_ret
    exact ⟨_, rfl, HT.out, HB2.out⟩

set_option maxHeartbeats 1000000 in
theorem isRightAnswer_any (st : Int) (v : Value) (b : ByteArray) (n base : Nat) (fs : List (ByteArray × ByteArray)) (w : World) (hv : FieldsV w base v n fs) (hn : n ≤ 1073741824) (hsz : WalkF n fs) (hb : b.size ≤ maxLen) :
    Calls Tryz.prog 52 #[.agg #[.int .i64 st, v, .string b]] w fun e w' => BoolIs (RespP st fs b ∧ st = 200) w e w' := by
  obtain ⟨oa, cap, rfl, _⟩ := hv.slice
  obtain ⟨r, hr⟩ : ∃ r, r = w.heap.size := ⟨_, rfl⟩
  obtain ⟨W1, hW1⟩ : ∃ W, W = w.alloc (.cells #[.int .i64 st, .slice oa n cap, .string b] 32) := ⟨_, rfl⟩
  have HW1 : Hid (w.alloc (.cells #[.int .i64 st, .slice oa n cap, .string b] 32) = W1) := hW1.symm
  have H1 : Hid (W1.heap[r]? = some (.cells #[.int .i64 st, .slice oa n cap, .string b] 32)) := by show _ = _; rw [hW1, hr]; exact heap_alloc_new w _
  have HB1 : Hid (Below w.heap.size w W1) := by show Below _ _ _; rw [hW1]; exact (Below.refl _ _).alloc (Nat.le_refl _) _
  have hv1 := hv.below HB1.out
  obtain ⟨⟨c0, c1, c2⟩, _⟩ := three_facts H1.out
  clear hW1 hv
  go_enter Tryz.func52, Tryz.ntmps52
  go_upto_region 1 with fail
  rw [HW1.out, ← hr]
  clear hr HW1
  go_wp2_with fail
  refine (implRespOk_any st _ b n base fs _ hv1 hn hsz hb).mono ?_
  rintro e w2 ⟨t, rfl, ht, b2⟩
  have HB2 : Hid (Below w.heap.size w w2) := HB1.out.trans (b2.mono HB1.out.size)
  have H2 : Hid (w2.heap[r]? = some (.cells #[.int .i64 st, .slice oa n cap, .string b] 32)) := by show _ = _; rw [b2.block r (Array.getElem?_eq_some_iff.1 H1.out).1]; exact H1.out
  clear c0 c1 c2 hv1 H1 HB1 b2
  cases t with
  | false =>
    have HF : Hid (¬ (RespP st fs b ∧ st = 200)) := fun h => nomatch ht.2 h.1
    clear ht
    go_wp2_with fail
    go_ret
    exact BoolIs.no HF.out HB2.out
  | true =>
    have HQ : Hid (RespP st fs b) := ht.1 rfl
    obtain ⟨⟨c0, _⟩, _⟩ := three_facts H2.out
    have HT : Hid ((st == 200) = true ↔ (RespP st fs b ∧ st = 200)) := by show _ ↔ _; simp [HQ.out]
    clear ht HQ H2
    go_wp2_with fail
    go_ret
    exact ⟨_, rfl, HT.out, HB2.out⟩

set_option maxHeartbeats 1000000 in
theorem nobodySaysNo_any (a b : CcD) (w : World) :
    Calls Tryz.prog 53 #[a.v, b.v] w fun e w' => e = .returned (.bool (!a.ns && (!b.ns && !b.pr))) ∧ Below w.heap.size w w' := by
  obtain ⟨a0, a1, a2, a3, a4, ax⟩ := a
  obtain ⟨b0, b1, b2, b3, b4, bx⟩ := b
  have HB : Hid (∀ o1 o2, Below w.heap.size w ((w.alloc o1).alloc o2)) := fun o1 o2 => ((Below.refl _ w).alloc (Nat.le_refl _) _).alloc (by simp) _
  show Calls _ _ #[.agg #[.bool a0, .bool a1, .bool a2, .bool a3, .bool a4, .int .i64 ax], .agg #[.bool b0, .bool b1, .bool b2, .bool b3, .bool b4, .int .i64 bx]] _ _
  cases a0 <;> cases b0 <;> cases b2 <;>
  · go_enter Tryz.func53, Tryz.ntmps53
    go_wp2
    go_ret
    exact ⟨rfl, HB.out _ _⟩

set_option maxHeartbeats 8000000 in
set_option maxRecDepth 100000 in
theorem implMayKeep_any (m : Int) (p : ByteArray) (v : Value) (b : ByteArray) (n base : Nat) (fs : List (ByteArray × ByteArray)) (st : Int) (u : Value) (c : ByteArray) (k base2 : Nat) (gs : List (ByteArray × ByteArray)) (w : World) (hv : FieldsV w base v n fs) (hn : n ≤ 1073741824) (hsz : WalkF n fs) (hp : p.size ≤ maxLen) (hb : b.size ≤ maxLen) (hu : FieldsV w base2 u k gs) (hk : k ≤ 1073741824) (hsz2 : WalkF k gs) (hc : c.size ≤ maxLen) (hg1 : (getV fs ccName).size ≤ 1048576) (hg2 : (getV gs ccName).size ≤ 1048576) (hg3 : (getV gs varyName).size ≤ 1048576) (hcp : CopyF fs) (hcg : CopyF gs) :
    Calls Tryz.prog 24 #[.agg #[.int .i64 m, .string p, v, .string b], .agg #[.int .i64 st, u, .string c]] w fun e w' => BoolIs (MayP m p fs b st gs c) w e w' := by
  obtain ⟨oa, cap, rfl, _⟩ := hv.slice
  obtain ⟨ob, cb, rfl, _⟩ := hu.slice
  obtain ⟨r, hr⟩ : ∃ r, r = w.heap.size := ⟨_, rfl⟩
  obtain ⟨W1, hW1⟩ : ∃ W, W = (w.alloc (.cells #[.int .i64 m, .string p, .slice oa n cap, .string b] 38)).alloc (.cells #[.int .i64 st, .slice ob k cb, .string c] 32) := ⟨_, rfl⟩
  have HW1 : Hid ((w.alloc (.cells #[.int .i64 m, .string p, .slice oa n cap, .string b] 38)).alloc (.cells #[.int .i64 st, .slice ob k cb, .string c] 32) = W1) := hW1.symm
  have HKEEP1 : Hid (∀ W, Below W1.heap.size W1 W → (W.heap[r]? = some (.cells #[.int .i64 m, .string p, .slice oa n cap, .string b] 38) ∧ W.heap[r + 1]? = some (.cells #[.int .i64 st, .slice ob k cb, .string c] 32)) ∧ FieldsV W base (.slice oa n cap) n fs ∧ FieldsV W base2 (.slice ob k cb) k gs ∧ Below w.heap.size w W) := by
    intro W hW
    have b1 : Below r w W1 := by rw [hW1, hr]; exact ((Below.refl _ w).alloc (Nat.le_refl _) _).alloc (by simp) _
    have s1 : (w.alloc (.cells #[.int .i64 m, .string p, .slice oa n cap, .string b] 38)).heap.size = r + 1 := by rw [hr]; simp
    have s2 : W1.heap.size = r + 1 + 1 := by rw [hW1, hr]; simp
    have e0 := heap_alloc_new w (.cells #[.int .i64 m, .string p, .slice oa n cap, .string b] 38)
    have e1 := heap_alloc_new (w.alloc (.cells #[.int .i64 m, .string p, .slice oa n cap, .string b] 38)) (.cells #[.int .i64 st, .slice ob k cb, .string c] 32)
    rw [← hr] at e0
    rw [s1, ← hW1] at e1
    have c1 : Below (r + 1) (w.alloc (.cells #[.int .i64 m, .string p, .slice oa n cap, .string b] 38)) W1 := by rw [hW1, ← s1]; exact (Below.refl _ _).alloc (Nat.le_refl _) _
    rw [s2] at hW
    have b2 : Below r w W := b1.trans (hW.mono (by omega))
    rw [hr] at b2
    exact ⟨⟨by rw [hW.block r (by omega), c1.block r (by omega)]; exact e0, by rw [hW.block (r + 1) (by omega)]; exact e1⟩, hv.below b2, hu.below b2, b2⟩
  have HSZ : Hid (WalkF n fs) := hsz
  have HSB : Hid (WalkF k gs) := hsz2
  have HPM : Hid (p.size ≤ maxLen) := hp
  have HBM : Hid (b.size ≤ maxLen) := hb
  have HCM : Hid (c.size ≤ maxLen) := hc
  have HG1 : Hid ((getV fs ccName).size ≤ 1048576) := hg1
  have HG2 : Hid ((getV gs ccName).size ≤ 1048576) := hg2
  have HG3 : Hid ((getV gs varyName).size ≤ 1048576) := hg3
  have HCF : Hid (CopyF fs) := hcp
  have HCG : Hid (CopyF gs) := hcg
  obtain ⟨tq, htq⟩ : ∃ t, t = getV fs ccName := ⟨_, rfl⟩
  obtain ⟨cq, hcq⟩ : ∃ t, t = ccR tq := ⟨_, rfl⟩
  obtain ⟨tr, htr⟩ : ∃ t, t = getV gs ccName := ⟨_, rfl⟩
  obtain ⟨cr, hcr⟩ : ∃ t, t = ccR tr := ⟨_, rfl⟩
  have HQ0 : Hid (MayP m p fs b st gs c ↔ (ReqP m p fs b ∧ RespP st gs c ∧ m = 1 ∧ st = 200) ∧ cq.ns = false ∧ cr.ns = false ∧ cr.pr = false ∧ cr.ha = true ∧ NamesP (varyP gs)) := by
    show _ ↔ _
    unfold MayP
    rw [← htq, ← htr, ← hcq, ← hcr]
  have HC1 : Hid (∀ W, FieldsV W base (.slice oa n cap) n fs → Calls Tryz.prog 50 #[.slice oa n cap] W fun e w' => e = .returned (.agg #[.bool cq.ns, .bool cq.nc, .bool cq.pr, .bool cq.mu, .bool cq.ha, .int .i64 cq.age]) ∧ Below W.heap.size W w') := fun W h => by
    have := implCcOf_any (.slice oa n cap) n base fs W h hn HCF.out HG1.out
    rw [← htq, ← hcq] at this
    exact this
  have HC2 : Hid (∀ W, FieldsV W base2 (.slice ob k cb) k gs → Calls Tryz.prog 50 #[.slice ob k cb] W fun e w' => e = .returned (.agg #[.bool cr.ns, .bool cr.nc, .bool cr.pr, .bool cr.mu, .bool cr.ha, .int .i64 cr.age]) ∧ Below W.heap.size W w') := fun W h => by
    have := implCcOf_any (.slice ob k cb) k base2 gs W h hk HCG.out HG2.out
    rw [← htr, ← hcr] at this
    exact this
  clear htq hcq htr hcr
  obtain ⟨q0, q1, q2, q3, q4, q5⟩ := cq
  obtain ⟨z0, z1, z2, z3, z4, z5⟩ := cr
  dsimp only at HQ0 HC1 HC2
  obtain ⟨vl, hvl⟩ : ∃ l, l = varyP gs := ⟨_, rfl⟩
  have HVL : Hid (varyP gs = vl) := hvl.symm
  have HVZ : Hid (vl.length ≤ 1048577 ∧ ∀ i, i < vl.length → (textAt vl i).size ≤ maxLen) := by
    show _ ∧ _
    rw [hvl]
    have hle := splitL_le (getV gs varyName)
    have hg := HG3.out
    unfold varyP
    refine ⟨by rw [List.length_map]; omega, fun i hi => ?_⟩
    rw [List.length_map] at hi
    unfold textAt
    rw [List.getD_eq_getElem?_getD, List.getElem?_map, List.getElem?_eq_getElem hi]
    have := hle.2 _ (List.getElem_mem hi)
    show (lowerOf _).size ≤ _
    rw [lower_size]
    unfold maxLen
    omega
  rw [hvl.symm] at HQ0
  obtain ⟨⟨_, h1⟩, _, hu1, _⟩ := HKEEP1.out W1 (Below.refl _ _)
  obtain ⟨⟨c0, c1, c2⟩, _⟩ := three_facts h1
  clear hW1 hv hu hsz hsz2 hp hb hc hg1 hg2 hg3 h1 hcp hcg hvl
  go_enter Tryz.func24, Tryz.ntmps24
  go_upto_region 1 with fail
  rw [HW1.out, ← hr]
  clear hr HW1
  go_wp2_with fail
  refine (HC2.out _ hu1).mono ?_
  rintro e w2 ⟨rfl, b2⟩
  obtain ⟨o, ho⟩ : ∃ o, o = w2.heap.size := ⟨_, rfl⟩
  obtain ⟨W2, hW2⟩ : ∃ W, W = w2.alloc (.cells #[.bool z0, .bool z1, .bool z2, .bool z3, .bool z4, .int .i64 z5] 66) := ⟨_, rfl⟩
  have HKEEP : Hid (∀ W, Below W2.heap.size W2 W → (W.heap[r]? = some (.cells #[.int .i64 m, .string p, .slice oa n cap, .string b] 38) ∧ W.heap[r + 1]? = some (.cells #[.int .i64 st, .slice ob k cb, .string c] 32) ∧ CcAt W o ⟨z0, z1, z2, z3, z4, z5⟩) ∧ FieldsV W base (.slice oa n cap) n fs ∧ FieldsV W base2 (.slice ob k cb) k gs ∧ Below w.heap.size w W) := by
    intro W hW
    have b3 : Below w2.heap.size w2 W2 := by rw [hW2]; exact (Below.refl _ _).alloc (Nat.le_refl _) _
    have b4 : Below W1.heap.size W1 W := (b2.trans (b3.mono b2.size)).trans (hW.mono (Nat.le_trans b2.size b3.size))
    obtain ⟨⟨k0, k1⟩, k2⟩ := HKEEP1.out W b4
    refine ⟨⟨k0, k1, ?_⟩, k2⟩
    have h3 : W2.heap[o]? = some (.cells #[.bool z0, .bool z1, .bool z2, .bool z3, .bool z4, .int .i64 z5] 66) := by rw [hW2, ho]; exact heap_alloc_new w2 _
    show W.heap[o]? = _
    rw [hW.block o (Array.getElem?_eq_some_iff.1 h3).1]
    exact h3
  have HSS : Hid (∀ W, Below W2.heap.size W2 W → W.heap[r]? = some (.cells #[.int .i64 m, .string p, .slice oa n cap, .string b] 38) ∧ W.heap[r + 1]? = some (.cells #[.int .i64 st, .slice ob k cb, .string c] 32) ∧ CcAt W o ⟨z0, z1, z2, z3, z4, z5⟩) := fun W h => (HKEEP.out W h).1
  go_upto_region 2 with fail
  rw [← hW2, ← ho]
  clear hW2 ho b2 c0 c1 c2 hu1 HKEEP1 HC2
  refine wp_region_held_drew (S := fun W => W.heap[r]? = some (.cells #[.int .i64 m, .string p, .slice oa n cap, .string b] 38) ∧ W.heap[r + 1]? = some (.cells #[.int .i64 st, .slice ob k cb, .string c] 32) ∧ CcAt W o ⟨z0, z1, z2, z3, z4, z5⟩) (by kernel_rfl) (HSS.out _ (Below.refl _ _).drew) (fun hS0 => ?_)
  have HX : Hid (Below W2.heap.size W2 W2.drew) := (Below.refl _ _).drew
  obtain ⟨X0, hX0⟩ : ∃ X, X = W2.drew := ⟨_, rfl⟩
  rw [← hX0] at HX ⊢
  clear hX0 hS0
  refine wpAnyH_takeD (i := 0) (v := .agg #[.int .i64 m, .string p, .slice oa n cap, .string b]) (some 9) rfl rfl (by kernel_rfl) (by kernel_rfl) (by kernel_rfl) (fun _ _ _ h => h) (Or.inl ⟨by rfl, by intro W hW; obtain ⟨h1, h2, h3⟩ := hW; obtain ⟨⟨s0, s1, s2, s3⟩, _⟩ := four_facts h1; obtain ⟨⟨t0, t1, t2⟩, _⟩ := three_facts h2; obtain ⟨y0, y1, y2, y3, y4, y5⟩ := h3.cells; dsimp only at y0 y1 y2 y3 y4 y5; go_simp⟩) (HSS.out _ HX.out) ?_
  simp only [Act.put, List.setIfInBounds_toArray, List.set_cons_zero, List.set_cons_succ]
  refine wpAnyH_ready (rs := [1]) (by kernel_rfl) (by simp) ?_
  refine AllReadyH.cons rfl (fun K hK => ?_) AllReadyH.nil
  go_simp
  refine (isRightGet_any m p _ b n base fs _ (HKEEP.out _ HX.out).2.1 hn HSZ.out HPM.out HBM.out).mono ?_
  rintro e X1 ⟨t1, rfl, ht1, bx⟩
  have HXN : Hid (Below W2.heap.size W2 X1) := HX.out.trans (bx.mono HX.out.size)
  refine hK.out _ _ (HSS.out _ HXN.out) (fun _ => ?_)
  clear hK K HX bx
  have HX := HXN
  clear HXN
  cases t1 with
  | false =>
    have HF : Hid (¬ MayP m p fs b st gs c) := fun h => nomatch ht1.2 ⟨h.1.1, h.1.2.2.1⟩
    clear ht1
    refine wpAnyH_takeD (i := 2) (v := .bool false) (some 11) rfl rfl (by kernel_rfl) (by kernel_rfl) (by kernel_rfl) (fun _ _ _ h => h) (Or.inl ⟨by rfl, by intro W _; go_simp⟩) (HSS.out _ HX.out) ?_
    simp only [Act.put, List.setIfInBounds_toArray, List.set_cons_zero, List.set_cons_succ]
    refine wpAnyH_takeD (i := 3) (v := undef) (some 12) rfl rfl (by kernel_rfl) (by kernel_rfl) (by kernel_rfl) (fun _ _ _ h => h) (Or.inr ⟨by rfl, rfl⟩) (HSS.out _ HX.out) ?_
    simp only [Act.put, List.setIfInBounds_toArray, List.set_cons_zero, List.set_cons_succ]
    refine wpAnyH_takeD (i := 4) (v := undef) (some 13) rfl rfl (by kernel_rfl) (by kernel_rfl) (by kernel_rfl) (fun _ _ _ h => h) (Or.inr ⟨by rfl, rfl⟩) (HSS.out _ HX.out) ?_
    simp only [Act.put, List.setIfInBounds_toArray, List.set_cons_zero, List.set_cons_succ]
    refine wpAnyH_takeD (i := 5) (v := .bool false) (some 14) rfl rfl (by kernel_rfl) (by kernel_rfl) (by kernel_rfl) (fun _ _ _ h => h) (Or.inl ⟨by rfl, by intro W _; go_simp⟩) (HSS.out _ HX.out) ?_
    simp only [Act.put, List.setIfInBounds_toArray, List.set_cons_zero, List.set_cons_succ]
    refine wpAnyH_takeD (i := 6) (v := .bool false) (some 15) rfl rfl (by kernel_rfl) (by kernel_rfl) (by kernel_rfl) (fun _ _ _ h => h) (Or.inl ⟨by rfl, by intro W _; go_simp⟩) (HSS.out _ HX.out) ?_
    simp only [Act.put, List.setIfInBounds_toArray, List.set_cons_zero, List.set_cons_succ]
    refine wpAnyH_takeD (i := 7) (v := undef) (some 16) rfl rfl (by kernel_rfl) (by kernel_rfl) (by kernel_rfl) (fun _ _ _ h => h) (Or.inr ⟨by rfl, rfl⟩) (HSS.out _ HX.out) ?_
    simp only [Act.put, List.setIfInBounds_toArray, List.set_cons_zero, List.set_cons_succ]
    refine wpAnyH_takeD (i := 8) (v := undef) (some 17) rfl rfl (by kernel_rfl) (by kernel_rfl) (by kernel_rfl) (fun _ _ _ h => h) (Or.inr ⟨by rfl, rfl⟩) (HSS.out _ HX.out) ?_
    simp only [Act.put, List.setIfInBounds_toArray, List.set_cons_zero, List.set_cons_succ]
    refine wpAnyH_takeD (i := 9) (v := undef) (some 18) rfl rfl (by kernel_rfl) (by kernel_rfl) (by kernel_rfl) (fun _ _ _ h => h) (Or.inr ⟨by rfl, rfl⟩) (HSS.out _ HX.out) ?_
    simp only [Act.put, List.setIfInBounds_toArray, List.set_cons_zero, List.set_cons_succ]
    refine wpAnyH_takeD (i := 10) (v := undef) (some 19) rfl rfl (by kernel_rfl) (by kernel_rfl) (by kernel_rfl) (fun _ _ _ h => h) (Or.inr ⟨by rfl, rfl⟩) (HSS.out _ HX.out) ?_
    simp only [Act.put, List.setIfInBounds_toArray, List.set_cons_zero, List.set_cons_succ]
    refine wpAnyH_takeD (i := 11) (v := undef) (some 20) rfl rfl (by kernel_rfl) (by kernel_rfl) (by kernel_rfl) (fun _ _ _ h => h) (Or.inr ⟨by rfl, rfl⟩) (HSS.out _ HX.out) ?_
    simp only [Act.put, List.setIfInBounds_toArray, List.set_cons_zero, List.set_cons_succ]
    refine wpAnyH_takeD (i := 12) (v := .bool false) (some 21) rfl rfl (by kernel_rfl) (by kernel_rfl) (by kernel_rfl) (fun _ _ _ h => h) (Or.inl ⟨by rfl, by intro W _; go_simp⟩) (HSS.out _ HX.out) ?_
    simp only [Act.put, List.setIfInBounds_toArray, List.set_cons_zero, List.set_cons_succ]
    refine wpAnyH_takeD (i := 13) (v := .bool false) (some 22) rfl rfl (by kernel_rfl) (by kernel_rfl) (by kernel_rfl) (fun _ _ _ h => h) (Or.inl ⟨by rfl, by intro W _; go_simp⟩) (HSS.out _ HX.out) ?_
    simp only [Act.put, List.setIfInBounds_toArray, List.set_cons_zero, List.set_cons_succ]
    refine wpAnyH_takeD (i := 14) (v := undef) (some 23) rfl rfl (by kernel_rfl) (by kernel_rfl) (by kernel_rfl) (fun _ _ _ h => h) (Or.inr ⟨by rfl, rfl⟩) (HSS.out _ HX.out) ?_
    simp only [Act.put, List.setIfInBounds_toArray, List.set_cons_zero, List.set_cons_succ]
    refine wpAnyH_takeD (i := 15) (v := undef) (some 24) rfl rfl (by kernel_rfl) (by kernel_rfl) (by kernel_rfl) (fun _ _ _ h => h) (Or.inr ⟨by rfl, rfl⟩) (HSS.out _ HX.out) ?_
    simp only [Act.put, List.setIfInBounds_toArray, List.set_cons_zero, List.set_cons_succ]
    refine wpAnyH_takeD (i := 16) (v := .bool false) (some 25) rfl rfl (by kernel_rfl) (by kernel_rfl) (by kernel_rfl) (fun _ _ _ h => h) (Or.inl ⟨by rfl, by intro W _; go_simp⟩) (HSS.out _ HX.out) ?_
    simp only [Act.put, List.setIfInBounds_toArray, List.set_cons_zero, List.set_cons_succ]
    refine wpAnyH_takeD (i := 17) (v := .bool false) (some 26) rfl rfl (by kernel_rfl) (by kernel_rfl) (by kernel_rfl) (fun _ _ _ h => h) (Or.inl ⟨by rfl, by intro W _; go_simp⟩) (HSS.out _ HX.out) ?_
    simp only [Act.put, List.setIfInBounds_toArray, List.set_cons_zero, List.set_cons_succ]
    refine wpAnyH_takeD (i := 18) (v := undef) (some 27) rfl rfl (by kernel_rfl) (by kernel_rfl) (by kernel_rfl) (fun _ _ _ h => h) (Or.inr ⟨by rfl, rfl⟩) (HSS.out _ HX.out) ?_
    simp only [Act.put, List.setIfInBounds_toArray, List.set_cons_zero, List.set_cons_succ]
    refine wpAnyH_takeD (i := 19) (v := undef) (some 28) rfl rfl (by kernel_rfl) (by kernel_rfl) (by kernel_rfl) (fun _ _ _ h => h) (Or.inr ⟨by rfl, rfl⟩) (HSS.out _ HX.out) ?_
    simp only [Act.put, List.setIfInBounds_toArray, List.set_cons_zero, List.set_cons_succ]
    refine wpAnyH_takeD (i := 20) (v := undef) (some 29) rfl rfl (by kernel_rfl) (by kernel_rfl) (by kernel_rfl) (fun _ _ _ h => h) (Or.inr ⟨by rfl, rfl⟩) (HSS.out _ HX.out) ?_
    simp only [Act.put, List.setIfInBounds_toArray, List.set_cons_zero, List.set_cons_succ]
    refine wpAnyH_takeD (i := 21) (v := undef) (some 30) rfl rfl (by kernel_rfl) (by kernel_rfl) (by kernel_rfl) (fun _ _ _ h => h) (Or.inr ⟨by rfl, rfl⟩) (HSS.out _ HX.out) ?_
    simp only [Act.put, List.setIfInBounds_toArray, List.set_cons_zero, List.set_cons_succ]
    refine wpAnyH_takeD (i := 22) (v := .bool false) (some 31) rfl rfl (by kernel_rfl) (by kernel_rfl) (by kernel_rfl) (fun _ _ _ h => h) (Or.inl ⟨by rfl, by intro W _; go_simp⟩) (HSS.out _ HX.out) ?_
    simp only [Act.put, List.setIfInBounds_toArray, List.set_cons_zero, List.set_cons_succ]
    refine wpAnyH_takeD (i := 23) (v := .bool false) (some 4) rfl rfl (by kernel_rfl) (by kernel_rfl) (by kernel_rfl) (fun _ _ _ h => h) (Or.inl ⟨by rfl, by intro W _; go_simp⟩) (HSS.out _ HX.out) ?_
    simp only [Act.put, List.setIfInBounds_toArray, List.set_cons_zero, List.set_cons_succ]
    refine wpAnyH_done (by kernel_rfl) ?_ _
    have HB : Hid (Below w.heap.size w X1) := (HKEEP.out _ HX.out).2.2.2
    clear HX HSS HKEEP
    go_wp2_with fail
    go_ret
    exact BoolIs.no HF.out HB.out
  | true =>
    have HRQ : Hid (ReqP m p fs b ∧ m = 1) := ht1.1 rfl
    clear ht1
    refine wpAnyH_takeD (i := 2) (v := .bool true) (some 11) rfl rfl (by kernel_rfl) (by kernel_rfl) (by kernel_rfl) (fun _ _ _ h => h) (Or.inl ⟨by rfl, by intro W _; go_simp⟩) (HSS.out _ HX.out) ?_
    simp only [Act.put, List.setIfInBounds_toArray, List.set_cons_zero, List.set_cons_succ]
    refine wpAnyH_takeD (i := 3) (v := .agg #[.int .i64 st, .slice ob k cb, .string c]) (some 12) rfl rfl (by kernel_rfl) (by kernel_rfl) (by kernel_rfl) (fun _ _ _ h => h) (Or.inl ⟨by rfl, by intro W hW; obtain ⟨h1, h2, h3⟩ := hW; obtain ⟨⟨s0, s1, s2, s3⟩, _⟩ := four_facts h1; obtain ⟨⟨t0, t1, t2⟩, _⟩ := three_facts h2; obtain ⟨y0, y1, y2, y3, y4, y5⟩ := h3.cells; dsimp only at y0 y1 y2 y3 y4 y5; go_simp⟩) (HSS.out _ HX.out) ?_
    simp only [Act.put, List.setIfInBounds_toArray, List.set_cons_zero, List.set_cons_succ]
    refine wpAnyH_ready (rs := [4]) (by kernel_rfl) (by simp) ?_
    refine AllReadyH.cons rfl (fun K hK => ?_) AllReadyH.nil
    go_simp
    refine (isRightAnswer_any st _ c k base2 gs _ (HKEEP.out _ HX.out).2.2.1 hk HSB.out HCM.out).mono ?_
    rintro e X2 ⟨t2, rfl, ht2, bx⟩
    have HXN : Hid (Below W2.heap.size W2 X2) := HX.out.trans (bx.mono HX.out.size)
    refine hK.out _ _ (HSS.out _ HXN.out) (fun _ => ?_)
    clear hK K HX bx
    have HX := HXN
    clear HXN
    cases t2 with
    | false =>
      have HF : Hid (¬ MayP m p fs b st gs c) := fun h => nomatch ht2.2 ⟨h.1.2.1, h.1.2.2.2⟩
      clear ht2
      refine wpAnyH_takeD (i := 5) (v := .bool false) (some 14) rfl rfl (by kernel_rfl) (by kernel_rfl) (by kernel_rfl) (fun _ _ _ h => h) (Or.inl ⟨by rfl, by intro W _; go_simp⟩) (HSS.out _ HX.out) ?_
      simp only [Act.put, List.setIfInBounds_toArray, List.set_cons_zero, List.set_cons_succ]
      refine wpAnyH_takeD (i := 6) (v := .bool false) (some 15) rfl rfl (by kernel_rfl) (by kernel_rfl) (by kernel_rfl) (fun _ _ _ h => h) (Or.inl ⟨by rfl, by intro W _; go_simp⟩) (HSS.out _ HX.out) ?_
      simp only [Act.put, List.setIfInBounds_toArray, List.set_cons_zero, List.set_cons_succ]
      refine wpAnyH_takeD (i := 7) (v := undef) (some 16) rfl rfl (by kernel_rfl) (by kernel_rfl) (by kernel_rfl) (fun _ _ _ h => h) (Or.inr ⟨by rfl, rfl⟩) (HSS.out _ HX.out) ?_
      simp only [Act.put, List.setIfInBounds_toArray, List.set_cons_zero, List.set_cons_succ]
      refine wpAnyH_takeD (i := 8) (v := undef) (some 17) rfl rfl (by kernel_rfl) (by kernel_rfl) (by kernel_rfl) (fun _ _ _ h => h) (Or.inr ⟨by rfl, rfl⟩) (HSS.out _ HX.out) ?_
      simp only [Act.put, List.setIfInBounds_toArray, List.set_cons_zero, List.set_cons_succ]
      refine wpAnyH_takeD (i := 9) (v := undef) (some 18) rfl rfl (by kernel_rfl) (by kernel_rfl) (by kernel_rfl) (fun _ _ _ h => h) (Or.inr ⟨by rfl, rfl⟩) (HSS.out _ HX.out) ?_
      simp only [Act.put, List.setIfInBounds_toArray, List.set_cons_zero, List.set_cons_succ]
      refine wpAnyH_takeD (i := 10) (v := undef) (some 19) rfl rfl (by kernel_rfl) (by kernel_rfl) (by kernel_rfl) (fun _ _ _ h => h) (Or.inr ⟨by rfl, rfl⟩) (HSS.out _ HX.out) ?_
      simp only [Act.put, List.setIfInBounds_toArray, List.set_cons_zero, List.set_cons_succ]
      refine wpAnyH_takeD (i := 11) (v := undef) (some 20) rfl rfl (by kernel_rfl) (by kernel_rfl) (by kernel_rfl) (fun _ _ _ h => h) (Or.inr ⟨by rfl, rfl⟩) (HSS.out _ HX.out) ?_
      simp only [Act.put, List.setIfInBounds_toArray, List.set_cons_zero, List.set_cons_succ]
      refine wpAnyH_takeD (i := 12) (v := .bool false) (some 21) rfl rfl (by kernel_rfl) (by kernel_rfl) (by kernel_rfl) (fun _ _ _ h => h) (Or.inl ⟨by rfl, by intro W _; go_simp⟩) (HSS.out _ HX.out) ?_
      simp only [Act.put, List.setIfInBounds_toArray, List.set_cons_zero, List.set_cons_succ]
      refine wpAnyH_takeD (i := 13) (v := .bool false) (some 22) rfl rfl (by kernel_rfl) (by kernel_rfl) (by kernel_rfl) (fun _ _ _ h => h) (Or.inl ⟨by rfl, by intro W _; go_simp⟩) (HSS.out _ HX.out) ?_
      simp only [Act.put, List.setIfInBounds_toArray, List.set_cons_zero, List.set_cons_succ]
      refine wpAnyH_takeD (i := 14) (v := undef) (some 23) rfl rfl (by kernel_rfl) (by kernel_rfl) (by kernel_rfl) (fun _ _ _ h => h) (Or.inr ⟨by rfl, rfl⟩) (HSS.out _ HX.out) ?_
      simp only [Act.put, List.setIfInBounds_toArray, List.set_cons_zero, List.set_cons_succ]
      refine wpAnyH_takeD (i := 15) (v := undef) (some 24) rfl rfl (by kernel_rfl) (by kernel_rfl) (by kernel_rfl) (fun _ _ _ h => h) (Or.inr ⟨by rfl, rfl⟩) (HSS.out _ HX.out) ?_
      simp only [Act.put, List.setIfInBounds_toArray, List.set_cons_zero, List.set_cons_succ]
      refine wpAnyH_takeD (i := 16) (v := .bool false) (some 25) rfl rfl (by kernel_rfl) (by kernel_rfl) (by kernel_rfl) (fun _ _ _ h => h) (Or.inl ⟨by rfl, by intro W _; go_simp⟩) (HSS.out _ HX.out) ?_
      simp only [Act.put, List.setIfInBounds_toArray, List.set_cons_zero, List.set_cons_succ]
      refine wpAnyH_takeD (i := 17) (v := .bool false) (some 26) rfl rfl (by kernel_rfl) (by kernel_rfl) (by kernel_rfl) (fun _ _ _ h => h) (Or.inl ⟨by rfl, by intro W _; go_simp⟩) (HSS.out _ HX.out) ?_
      simp only [Act.put, List.setIfInBounds_toArray, List.set_cons_zero, List.set_cons_succ]
      refine wpAnyH_takeD (i := 18) (v := undef) (some 27) rfl rfl (by kernel_rfl) (by kernel_rfl) (by kernel_rfl) (fun _ _ _ h => h) (Or.inr ⟨by rfl, rfl⟩) (HSS.out _ HX.out) ?_
      simp only [Act.put, List.setIfInBounds_toArray, List.set_cons_zero, List.set_cons_succ]
      refine wpAnyH_takeD (i := 19) (v := undef) (some 28) rfl rfl (by kernel_rfl) (by kernel_rfl) (by kernel_rfl) (fun _ _ _ h => h) (Or.inr ⟨by rfl, rfl⟩) (HSS.out _ HX.out) ?_
      simp only [Act.put, List.setIfInBounds_toArray, List.set_cons_zero, List.set_cons_succ]
      refine wpAnyH_takeD (i := 20) (v := undef) (some 29) rfl rfl (by kernel_rfl) (by kernel_rfl) (by kernel_rfl) (fun _ _ _ h => h) (Or.inr ⟨by rfl, rfl⟩) (HSS.out _ HX.out) ?_
      simp only [Act.put, List.setIfInBounds_toArray, List.set_cons_zero, List.set_cons_succ]
      refine wpAnyH_takeD (i := 21) (v := undef) (some 30) rfl rfl (by kernel_rfl) (by kernel_rfl) (by kernel_rfl) (fun _ _ _ h => h) (Or.inr ⟨by rfl, rfl⟩) (HSS.out _ HX.out) ?_
      simp only [Act.put, List.setIfInBounds_toArray, List.set_cons_zero, List.set_cons_succ]
      refine wpAnyH_takeD (i := 22) (v := .bool false) (some 31) rfl rfl (by kernel_rfl) (by kernel_rfl) (by kernel_rfl) (fun _ _ _ h => h) (Or.inl ⟨by rfl, by intro W _; go_simp⟩) (HSS.out _ HX.out) ?_
      simp only [Act.put, List.setIfInBounds_toArray, List.set_cons_zero, List.set_cons_succ]
      refine wpAnyH_takeD (i := 23) (v := .bool false) (some 4) rfl rfl (by kernel_rfl) (by kernel_rfl) (by kernel_rfl) (fun _ _ _ h => h) (Or.inl ⟨by rfl, by intro W _; go_simp⟩) (HSS.out _ HX.out) ?_
      simp only [Act.put, List.setIfInBounds_toArray, List.set_cons_zero, List.set_cons_succ]
      refine wpAnyH_done (by kernel_rfl) ?_ _
      have HB : Hid (Below w.heap.size w X2) := (HKEEP.out _ HX.out).2.2.2
      clear HX HSS HKEEP
      go_wp2_with fail
      go_ret
      exact BoolIs.no HF.out HB.out
    | true =>
      have HRP : Hid (RespP st gs c ∧ st = 200) := ht2.1 rfl
      clear ht2
      refine wpAnyH_takeD (i := 5) (v := .bool true) (some 14) rfl rfl (by kernel_rfl) (by kernel_rfl) (by kernel_rfl) (fun _ _ _ h => h) (Or.inl ⟨by rfl, by intro W _; go_simp⟩) (HSS.out _ HX.out) ?_
      simp only [Act.put, List.setIfInBounds_toArray, List.set_cons_zero, List.set_cons_succ]
      refine wpAnyH_takeD (i := 6) (v := .bool true) (some 15) rfl rfl (by kernel_rfl) (by kernel_rfl) (by kernel_rfl) (fun _ _ _ h => h) (Or.inl ⟨by rfl, by intro W _; go_simp⟩) (HSS.out _ HX.out) ?_
      simp only [Act.put, List.setIfInBounds_toArray, List.set_cons_zero, List.set_cons_succ]
      refine wpAnyH_takeD (i := 7) (v := .pointer (some ⟨r, 2, none⟩)) (some 16) rfl rfl (by kernel_rfl) (by kernel_rfl) (by kernel_rfl) (fun _ _ _ h => h) (Or.inl ⟨by rfl, by intro W _; go_simp⟩) (HSS.out _ HX.out) ?_
      simp only [Act.put, List.setIfInBounds_toArray, List.set_cons_zero, List.set_cons_succ]
      refine wpAnyH_takeD (i := 8) (v := .slice oa n cap) (some 17) rfl rfl (by kernel_rfl) (by kernel_rfl) (by kernel_rfl) (fun _ _ _ h => h) (Or.inl ⟨by rfl, by intro W hW; obtain ⟨h1, h2, h3⟩ := hW; obtain ⟨⟨s0, s1, s2, s3⟩, _⟩ := four_facts h1; obtain ⟨⟨t0, t1, t2⟩, _⟩ := three_facts h2; obtain ⟨y0, y1, y2, y3, y4, y5⟩ := h3.cells; dsimp only at y0 y1 y2 y3 y4 y5; go_simp⟩) (HSS.out _ HX.out) ?_
      simp only [Act.put, List.setIfInBounds_toArray, List.set_cons_zero, List.set_cons_succ]
      refine wpAnyH_takeD (i := 10) (v := .agg #[.bool z0, .bool z1, .bool z2, .bool z3, .bool z4, .int .i64 z5]) (some 19) rfl rfl (by kernel_rfl) (by kernel_rfl) (by kernel_rfl) (fun _ _ _ h => h) (Or.inl ⟨by rfl, by intro W hW; obtain ⟨h1, h2, h3⟩ := hW; obtain ⟨⟨s0, s1, s2, s3⟩, _⟩ := four_facts h1; obtain ⟨⟨t0, t1, t2⟩, _⟩ := three_facts h2; obtain ⟨y0, y1, y2, y3, y4, y5⟩ := h3.cells; dsimp only at y0 y1 y2 y3 y4 y5; go_simp⟩) (HSS.out _ HX.out) ?_
      simp only [Act.put, List.setIfInBounds_toArray, List.set_cons_zero, List.set_cons_succ]
      refine wpAnyH_ready (rs := [9]) (by kernel_rfl) (by simp) ?_
      refine AllReadyH.cons rfl (fun K hK => ?_) AllReadyH.nil
      go_simp
      refine (HC1.out _ (HKEEP.out _ HX.out).2.1).mono ?_
      rintro e X3 ⟨rfl, bx⟩
      have HXN : Hid (Below W2.heap.size W2 X3) := HX.out.trans (bx.mono HX.out.size)
      refine hK.out _ _ (HSS.out _ HXN.out) (fun _ => ?_)
      clear hK K HX bx
      have HX := HXN
      clear HXN
      refine wpAnyH_ready (rs := [11]) (by kernel_rfl) (by simp) ?_
      refine AllReadyH.cons rfl (fun K hK => ?_) AllReadyH.nil
      go_simp
      refine (nobodySaysNo_any ⟨q0, q1, q2, q3, q4, q5⟩ ⟨z0, z1, z2, z3, z4, z5⟩ _).mono ?_
      rintro e X4 ⟨rfl, bx⟩
      have HXN : Hid (Below W2.heap.size W2 X4) := HX.out.trans (bx.mono HX.out.size)
      refine hK.out _ _ (HSS.out _ HXN.out) (fun _ => ?_)
      clear hK K HX bx
      have HX := HXN
      clear HXN
      cases q0 with
      | true =>
        dsimp only [Bool.not_true, Bool.false_and]
        have HF : Hid (¬ MayP m p fs b st gs c) := fun h => nomatch ((HQ0.out.1 h).2).1
        refine wpAnyH_takeD (i := 12) (v := .bool false) (some 21) rfl rfl (by kernel_rfl) (by kernel_rfl) (by kernel_rfl) (fun _ _ _ h => h) (Or.inl ⟨by rfl, by intro W _; go_simp⟩) (HSS.out _ HX.out) ?_
        simp only [Act.put, List.setIfInBounds_toArray, List.set_cons_zero, List.set_cons_succ]
        refine wpAnyH_takeD (i := 13) (v := .bool false) (some 22) rfl rfl (by kernel_rfl) (by kernel_rfl) (by kernel_rfl) (fun _ _ _ h => h) (Or.inl ⟨by rfl, by intro W _; go_simp⟩) (HSS.out _ HX.out) ?_
        simp only [Act.put, List.setIfInBounds_toArray, List.set_cons_zero, List.set_cons_succ]
        refine wpAnyH_takeD (i := 14) (v := undef) (some 23) rfl rfl (by kernel_rfl) (by kernel_rfl) (by kernel_rfl) (fun _ _ _ h => h) (Or.inr ⟨by rfl, rfl⟩) (HSS.out _ HX.out) ?_
        simp only [Act.put, List.setIfInBounds_toArray, List.set_cons_zero, List.set_cons_succ]
        refine wpAnyH_takeD (i := 15) (v := undef) (some 24) rfl rfl (by kernel_rfl) (by kernel_rfl) (by kernel_rfl) (fun _ _ _ h => h) (Or.inr ⟨by rfl, rfl⟩) (HSS.out _ HX.out) ?_
        simp only [Act.put, List.setIfInBounds_toArray, List.set_cons_zero, List.set_cons_succ]
        refine wpAnyH_takeD (i := 16) (v := .bool false) (some 25) rfl rfl (by kernel_rfl) (by kernel_rfl) (by kernel_rfl) (fun _ _ _ h => h) (Or.inl ⟨by rfl, by intro W _; go_simp⟩) (HSS.out _ HX.out) ?_
        simp only [Act.put, List.setIfInBounds_toArray, List.set_cons_zero, List.set_cons_succ]
        refine wpAnyH_takeD (i := 17) (v := .bool false) (some 26) rfl rfl (by kernel_rfl) (by kernel_rfl) (by kernel_rfl) (fun _ _ _ h => h) (Or.inl ⟨by rfl, by intro W _; go_simp⟩) (HSS.out _ HX.out) ?_
        simp only [Act.put, List.setIfInBounds_toArray, List.set_cons_zero, List.set_cons_succ]
        refine wpAnyH_takeD (i := 18) (v := undef) (some 27) rfl rfl (by kernel_rfl) (by kernel_rfl) (by kernel_rfl) (fun _ _ _ h => h) (Or.inr ⟨by rfl, rfl⟩) (HSS.out _ HX.out) ?_
        simp only [Act.put, List.setIfInBounds_toArray, List.set_cons_zero, List.set_cons_succ]
        refine wpAnyH_takeD (i := 19) (v := undef) (some 28) rfl rfl (by kernel_rfl) (by kernel_rfl) (by kernel_rfl) (fun _ _ _ h => h) (Or.inr ⟨by rfl, rfl⟩) (HSS.out _ HX.out) ?_
        simp only [Act.put, List.setIfInBounds_toArray, List.set_cons_zero, List.set_cons_succ]
        refine wpAnyH_takeD (i := 20) (v := undef) (some 29) rfl rfl (by kernel_rfl) (by kernel_rfl) (by kernel_rfl) (fun _ _ _ h => h) (Or.inr ⟨by rfl, rfl⟩) (HSS.out _ HX.out) ?_
        simp only [Act.put, List.setIfInBounds_toArray, List.set_cons_zero, List.set_cons_succ]
        refine wpAnyH_takeD (i := 21) (v := undef) (some 30) rfl rfl (by kernel_rfl) (by kernel_rfl) (by kernel_rfl) (fun _ _ _ h => h) (Or.inr ⟨by rfl, rfl⟩) (HSS.out _ HX.out) ?_
        simp only [Act.put, List.setIfInBounds_toArray, List.set_cons_zero, List.set_cons_succ]
        refine wpAnyH_takeD (i := 22) (v := .bool false) (some 31) rfl rfl (by kernel_rfl) (by kernel_rfl) (by kernel_rfl) (fun _ _ _ h => h) (Or.inl ⟨by rfl, by intro W _; go_simp⟩) (HSS.out _ HX.out) ?_
        simp only [Act.put, List.setIfInBounds_toArray, List.set_cons_zero, List.set_cons_succ]
        refine wpAnyH_takeD (i := 23) (v := .bool false) (some 4) rfl rfl (by kernel_rfl) (by kernel_rfl) (by kernel_rfl) (fun _ _ _ h => h) (Or.inl ⟨by rfl, by intro W _; go_simp⟩) (HSS.out _ HX.out) ?_
        simp only [Act.put, List.setIfInBounds_toArray, List.set_cons_zero, List.set_cons_succ]
        refine wpAnyH_done (by kernel_rfl) ?_ _
        have HB : Hid (Below w.heap.size w X4) := (HKEEP.out _ HX.out).2.2.2
        clear HX HSS HKEEP
        go_wp2_with fail
        go_ret
        exact BoolIs.no HF.out HB.out
      | false =>
        cases z0 with
        | true =>
          dsimp only [Bool.not_true, Bool.not_false, Bool.false_and, Bool.true_and]
          have HF : Hid (¬ MayP m p fs b st gs c) := fun h => nomatch ((HQ0.out.1 h).2).2.1
          refine wpAnyH_takeD (i := 12) (v := .bool false) (some 21) rfl rfl (by kernel_rfl) (by kernel_rfl) (by kernel_rfl) (fun _ _ _ h => h) (Or.inl ⟨by rfl, by intro W _; go_simp⟩) (HSS.out _ HX.out) ?_
          simp only [Act.put, List.setIfInBounds_toArray, List.set_cons_zero, List.set_cons_succ]
          refine wpAnyH_takeD (i := 13) (v := .bool false) (some 22) rfl rfl (by kernel_rfl) (by kernel_rfl) (by kernel_rfl) (fun _ _ _ h => h) (Or.inl ⟨by rfl, by intro W _; go_simp⟩) (HSS.out _ HX.out) ?_
          simp only [Act.put, List.setIfInBounds_toArray, List.set_cons_zero, List.set_cons_succ]
          refine wpAnyH_takeD (i := 14) (v := undef) (some 23) rfl rfl (by kernel_rfl) (by kernel_rfl) (by kernel_rfl) (fun _ _ _ h => h) (Or.inr ⟨by rfl, rfl⟩) (HSS.out _ HX.out) ?_
          simp only [Act.put, List.setIfInBounds_toArray, List.set_cons_zero, List.set_cons_succ]
          refine wpAnyH_takeD (i := 15) (v := undef) (some 24) rfl rfl (by kernel_rfl) (by kernel_rfl) (by kernel_rfl) (fun _ _ _ h => h) (Or.inr ⟨by rfl, rfl⟩) (HSS.out _ HX.out) ?_
          simp only [Act.put, List.setIfInBounds_toArray, List.set_cons_zero, List.set_cons_succ]
          refine wpAnyH_takeD (i := 16) (v := .bool false) (some 25) rfl rfl (by kernel_rfl) (by kernel_rfl) (by kernel_rfl) (fun _ _ _ h => h) (Or.inl ⟨by rfl, by intro W _; go_simp⟩) (HSS.out _ HX.out) ?_
          simp only [Act.put, List.setIfInBounds_toArray, List.set_cons_zero, List.set_cons_succ]
          refine wpAnyH_takeD (i := 17) (v := .bool false) (some 26) rfl rfl (by kernel_rfl) (by kernel_rfl) (by kernel_rfl) (fun _ _ _ h => h) (Or.inl ⟨by rfl, by intro W _; go_simp⟩) (HSS.out _ HX.out) ?_
          simp only [Act.put, List.setIfInBounds_toArray, List.set_cons_zero, List.set_cons_succ]
          refine wpAnyH_takeD (i := 18) (v := undef) (some 27) rfl rfl (by kernel_rfl) (by kernel_rfl) (by kernel_rfl) (fun _ _ _ h => h) (Or.inr ⟨by rfl, rfl⟩) (HSS.out _ HX.out) ?_
          simp only [Act.put, List.setIfInBounds_toArray, List.set_cons_zero, List.set_cons_succ]
          refine wpAnyH_takeD (i := 19) (v := undef) (some 28) rfl rfl (by kernel_rfl) (by kernel_rfl) (by kernel_rfl) (fun _ _ _ h => h) (Or.inr ⟨by rfl, rfl⟩) (HSS.out _ HX.out) ?_
          simp only [Act.put, List.setIfInBounds_toArray, List.set_cons_zero, List.set_cons_succ]
          refine wpAnyH_takeD (i := 20) (v := undef) (some 29) rfl rfl (by kernel_rfl) (by kernel_rfl) (by kernel_rfl) (fun _ _ _ h => h) (Or.inr ⟨by rfl, rfl⟩) (HSS.out _ HX.out) ?_
          simp only [Act.put, List.setIfInBounds_toArray, List.set_cons_zero, List.set_cons_succ]
          refine wpAnyH_takeD (i := 21) (v := undef) (some 30) rfl rfl (by kernel_rfl) (by kernel_rfl) (by kernel_rfl) (fun _ _ _ h => h) (Or.inr ⟨by rfl, rfl⟩) (HSS.out _ HX.out) ?_
          simp only [Act.put, List.setIfInBounds_toArray, List.set_cons_zero, List.set_cons_succ]
          refine wpAnyH_takeD (i := 22) (v := .bool false) (some 31) rfl rfl (by kernel_rfl) (by kernel_rfl) (by kernel_rfl) (fun _ _ _ h => h) (Or.inl ⟨by rfl, by intro W _; go_simp⟩) (HSS.out _ HX.out) ?_
          simp only [Act.put, List.setIfInBounds_toArray, List.set_cons_zero, List.set_cons_succ]
          refine wpAnyH_takeD (i := 23) (v := .bool false) (some 4) rfl rfl (by kernel_rfl) (by kernel_rfl) (by kernel_rfl) (fun _ _ _ h => h) (Or.inl ⟨by rfl, by intro W _; go_simp⟩) (HSS.out _ HX.out) ?_
          simp only [Act.put, List.setIfInBounds_toArray, List.set_cons_zero, List.set_cons_succ]
          refine wpAnyH_done (by kernel_rfl) ?_ _
          have HB : Hid (Below w.heap.size w X4) := (HKEEP.out _ HX.out).2.2.2
          clear HX HSS HKEEP
          go_wp2_with fail
          go_ret
          exact BoolIs.no HF.out HB.out
        | false =>
          cases z2 with
          | true =>
            dsimp only [Bool.not_true, Bool.not_false, Bool.false_and, Bool.true_and]
            have HF : Hid (¬ MayP m p fs b st gs c) := fun h => nomatch ((HQ0.out.1 h).2).2.2.1
            refine wpAnyH_takeD (i := 12) (v := .bool false) (some 21) rfl rfl (by kernel_rfl) (by kernel_rfl) (by kernel_rfl) (fun _ _ _ h => h) (Or.inl ⟨by rfl, by intro W _; go_simp⟩) (HSS.out _ HX.out) ?_
            simp only [Act.put, List.setIfInBounds_toArray, List.set_cons_zero, List.set_cons_succ]
            refine wpAnyH_takeD (i := 13) (v := .bool false) (some 22) rfl rfl (by kernel_rfl) (by kernel_rfl) (by kernel_rfl) (fun _ _ _ h => h) (Or.inl ⟨by rfl, by intro W _; go_simp⟩) (HSS.out _ HX.out) ?_
            simp only [Act.put, List.setIfInBounds_toArray, List.set_cons_zero, List.set_cons_succ]
            refine wpAnyH_takeD (i := 14) (v := undef) (some 23) rfl rfl (by kernel_rfl) (by kernel_rfl) (by kernel_rfl) (fun _ _ _ h => h) (Or.inr ⟨by rfl, rfl⟩) (HSS.out _ HX.out) ?_
            simp only [Act.put, List.setIfInBounds_toArray, List.set_cons_zero, List.set_cons_succ]
            refine wpAnyH_takeD (i := 15) (v := undef) (some 24) rfl rfl (by kernel_rfl) (by kernel_rfl) (by kernel_rfl) (fun _ _ _ h => h) (Or.inr ⟨by rfl, rfl⟩) (HSS.out _ HX.out) ?_
            simp only [Act.put, List.setIfInBounds_toArray, List.set_cons_zero, List.set_cons_succ]
            refine wpAnyH_takeD (i := 16) (v := .bool false) (some 25) rfl rfl (by kernel_rfl) (by kernel_rfl) (by kernel_rfl) (fun _ _ _ h => h) (Or.inl ⟨by rfl, by intro W _; go_simp⟩) (HSS.out _ HX.out) ?_
            simp only [Act.put, List.setIfInBounds_toArray, List.set_cons_zero, List.set_cons_succ]
            refine wpAnyH_takeD (i := 17) (v := .bool false) (some 26) rfl rfl (by kernel_rfl) (by kernel_rfl) (by kernel_rfl) (fun _ _ _ h => h) (Or.inl ⟨by rfl, by intro W _; go_simp⟩) (HSS.out _ HX.out) ?_
            simp only [Act.put, List.setIfInBounds_toArray, List.set_cons_zero, List.set_cons_succ]
            refine wpAnyH_takeD (i := 18) (v := undef) (some 27) rfl rfl (by kernel_rfl) (by kernel_rfl) (by kernel_rfl) (fun _ _ _ h => h) (Or.inr ⟨by rfl, rfl⟩) (HSS.out _ HX.out) ?_
            simp only [Act.put, List.setIfInBounds_toArray, List.set_cons_zero, List.set_cons_succ]
            refine wpAnyH_takeD (i := 19) (v := undef) (some 28) rfl rfl (by kernel_rfl) (by kernel_rfl) (by kernel_rfl) (fun _ _ _ h => h) (Or.inr ⟨by rfl, rfl⟩) (HSS.out _ HX.out) ?_
            simp only [Act.put, List.setIfInBounds_toArray, List.set_cons_zero, List.set_cons_succ]
            refine wpAnyH_takeD (i := 20) (v := undef) (some 29) rfl rfl (by kernel_rfl) (by kernel_rfl) (by kernel_rfl) (fun _ _ _ h => h) (Or.inr ⟨by rfl, rfl⟩) (HSS.out _ HX.out) ?_
            simp only [Act.put, List.setIfInBounds_toArray, List.set_cons_zero, List.set_cons_succ]
            refine wpAnyH_takeD (i := 21) (v := undef) (some 30) rfl rfl (by kernel_rfl) (by kernel_rfl) (by kernel_rfl) (fun _ _ _ h => h) (Or.inr ⟨by rfl, rfl⟩) (HSS.out _ HX.out) ?_
            simp only [Act.put, List.setIfInBounds_toArray, List.set_cons_zero, List.set_cons_succ]
            refine wpAnyH_takeD (i := 22) (v := .bool false) (some 31) rfl rfl (by kernel_rfl) (by kernel_rfl) (by kernel_rfl) (fun _ _ _ h => h) (Or.inl ⟨by rfl, by intro W _; go_simp⟩) (HSS.out _ HX.out) ?_
            simp only [Act.put, List.setIfInBounds_toArray, List.set_cons_zero, List.set_cons_succ]
            refine wpAnyH_takeD (i := 23) (v := .bool false) (some 4) rfl rfl (by kernel_rfl) (by kernel_rfl) (by kernel_rfl) (fun _ _ _ h => h) (Or.inl ⟨by rfl, by intro W _; go_simp⟩) (HSS.out _ HX.out) ?_
            simp only [Act.put, List.setIfInBounds_toArray, List.set_cons_zero, List.set_cons_succ]
            refine wpAnyH_done (by kernel_rfl) ?_ _
            have HB : Hid (Below w.heap.size w X4) := (HKEEP.out _ HX.out).2.2.2
            clear HX HSS HKEEP
            go_wp2_with fail
            go_ret
            exact BoolIs.no HF.out HB.out
          | false =>
            dsimp only [Bool.not_true, Bool.not_false, Bool.false_and, Bool.true_and]
            refine wpAnyH_takeD (i := 12) (v := .bool true) (some 21) rfl rfl (by kernel_rfl) (by kernel_rfl) (by kernel_rfl) (fun _ _ _ h => h) (Or.inl ⟨by rfl, by intro W _; go_simp⟩) (HSS.out _ HX.out) ?_
            simp only [Act.put, List.setIfInBounds_toArray, List.set_cons_zero, List.set_cons_succ]
            refine wpAnyH_takeD (i := 13) (v := .bool true) (some 22) rfl rfl (by kernel_rfl) (by kernel_rfl) (by kernel_rfl) (fun _ _ _ h => h) (Or.inl ⟨by rfl, by intro W _; go_simp⟩) (HSS.out _ HX.out) ?_
            simp only [Act.put, List.setIfInBounds_toArray, List.set_cons_zero, List.set_cons_succ]
            refine wpAnyH_takeD (i := 14) (v := .pointer (some ⟨o, 4, none⟩)) (some 23) rfl rfl (by kernel_rfl) (by kernel_rfl) (by kernel_rfl) (fun _ _ _ h => h) (Or.inl ⟨by rfl, by intro W _; go_simp⟩) (HSS.out _ HX.out) ?_
            simp only [Act.put, List.setIfInBounds_toArray, List.set_cons_zero, List.set_cons_succ]
            refine wpAnyH_takeD (i := 15) (v := .bool z4) (some 24) rfl rfl (by kernel_rfl) (by kernel_rfl) (by kernel_rfl) (fun _ _ _ h => h) (Or.inl ⟨by rfl, by intro W hW; obtain ⟨h1, h2, h3⟩ := hW; obtain ⟨⟨s0, s1, s2, s3⟩, _⟩ := four_facts h1; obtain ⟨⟨t0, t1, t2⟩, _⟩ := three_facts h2; obtain ⟨y0, y1, y2, y3, y4, y5⟩ := h3.cells; dsimp only at y0 y1 y2 y3 y4 y5; go_simp⟩) (HSS.out _ HX.out) ?_
            simp only [Act.put, List.setIfInBounds_toArray, List.set_cons_zero, List.set_cons_succ]
            cases z4 with
            | false =>
              have HF : Hid (¬ MayP m p fs b st gs c) := fun h => nomatch ((HQ0.out.1 h).2).2.2.2.1
              refine wpAnyH_takeD (i := 16) (v := .bool false) (some 25) rfl rfl (by kernel_rfl) (by kernel_rfl) (by kernel_rfl) (fun _ _ _ h => h) (Or.inl ⟨by rfl, by intro W _; go_simp⟩) (HSS.out _ HX.out) ?_
              simp only [Act.put, List.setIfInBounds_toArray, List.set_cons_zero, List.set_cons_succ]
              refine wpAnyH_takeD (i := 17) (v := .bool false) (some 26) rfl rfl (by kernel_rfl) (by kernel_rfl) (by kernel_rfl) (fun _ _ _ h => h) (Or.inl ⟨by rfl, by intro W _; go_simp⟩) (HSS.out _ HX.out) ?_
              simp only [Act.put, List.setIfInBounds_toArray, List.set_cons_zero, List.set_cons_succ]
              refine wpAnyH_takeD (i := 18) (v := undef) (some 27) rfl rfl (by kernel_rfl) (by kernel_rfl) (by kernel_rfl) (fun _ _ _ h => h) (Or.inr ⟨by rfl, rfl⟩) (HSS.out _ HX.out) ?_
              simp only [Act.put, List.setIfInBounds_toArray, List.set_cons_zero, List.set_cons_succ]
              refine wpAnyH_takeD (i := 19) (v := undef) (some 28) rfl rfl (by kernel_rfl) (by kernel_rfl) (by kernel_rfl) (fun _ _ _ h => h) (Or.inr ⟨by rfl, rfl⟩) (HSS.out _ HX.out) ?_
              simp only [Act.put, List.setIfInBounds_toArray, List.set_cons_zero, List.set_cons_succ]
              refine wpAnyH_takeD (i := 20) (v := undef) (some 29) rfl rfl (by kernel_rfl) (by kernel_rfl) (by kernel_rfl) (fun _ _ _ h => h) (Or.inr ⟨by rfl, rfl⟩) (HSS.out _ HX.out) ?_
              simp only [Act.put, List.setIfInBounds_toArray, List.set_cons_zero, List.set_cons_succ]
              refine wpAnyH_takeD (i := 21) (v := undef) (some 30) rfl rfl (by kernel_rfl) (by kernel_rfl) (by kernel_rfl) (fun _ _ _ h => h) (Or.inr ⟨by rfl, rfl⟩) (HSS.out _ HX.out) ?_
              simp only [Act.put, List.setIfInBounds_toArray, List.set_cons_zero, List.set_cons_succ]
              refine wpAnyH_takeD (i := 22) (v := .bool false) (some 31) rfl rfl (by kernel_rfl) (by kernel_rfl) (by kernel_rfl) (fun _ _ _ h => h) (Or.inl ⟨by rfl, by intro W _; go_simp⟩) (HSS.out _ HX.out) ?_
              simp only [Act.put, List.setIfInBounds_toArray, List.set_cons_zero, List.set_cons_succ]
              refine wpAnyH_takeD (i := 23) (v := .bool false) (some 4) rfl rfl (by kernel_rfl) (by kernel_rfl) (by kernel_rfl) (fun _ _ _ h => h) (Or.inl ⟨by rfl, by intro W _; go_simp⟩) (HSS.out _ HX.out) ?_
              simp only [Act.put, List.setIfInBounds_toArray, List.set_cons_zero, List.set_cons_succ]
              refine wpAnyH_done (by kernel_rfl) ?_ _
              have HB : Hid (Below w.heap.size w X4) := (HKEEP.out _ HX.out).2.2.2
              clear HX HSS HKEEP
              go_wp2_with fail
              go_ret
              exact BoolIs.no HF.out HB.out
            | true =>
              refine wpAnyH_takeD (i := 16) (v := .bool true) (some 25) rfl rfl (by kernel_rfl) (by kernel_rfl) (by kernel_rfl) (fun _ _ _ h => h) (Or.inl ⟨by rfl, by intro W _; go_simp⟩) (HSS.out _ HX.out) ?_
              simp only [Act.put, List.setIfInBounds_toArray, List.set_cons_zero, List.set_cons_succ]
              refine wpAnyH_takeD (i := 17) (v := .bool true) (some 26) rfl rfl (by kernel_rfl) (by kernel_rfl) (by kernel_rfl) (fun _ _ _ h => h) (Or.inl ⟨by rfl, by intro W _; go_simp⟩) (HSS.out _ HX.out) ?_
              simp only [Act.put, List.setIfInBounds_toArray, List.set_cons_zero, List.set_cons_succ]
              refine wpAnyH_takeD (i := 18) (v := .pointer (some ⟨r + 1, 1, none⟩)) (some 27) rfl rfl (by kernel_rfl) (by kernel_rfl) (by kernel_rfl) (fun _ _ _ h => h) (Or.inl ⟨by rfl, by intro W _; go_simp⟩) (HSS.out _ HX.out) ?_
              simp only [Act.put, List.setIfInBounds_toArray, List.set_cons_zero, List.set_cons_succ]
              refine wpAnyH_takeD (i := 19) (v := .slice ob k cb) (some 28) rfl rfl (by kernel_rfl) (by kernel_rfl) (by kernel_rfl) (fun _ _ _ h => h) (Or.inl ⟨by rfl, by intro W hW; obtain ⟨h1, h2, h3⟩ := hW; obtain ⟨⟨s0, s1, s2, s3⟩, _⟩ := four_facts h1; obtain ⟨⟨t0, t1, t2⟩, _⟩ := three_facts h2; obtain ⟨y0, y1, y2, y3, y4, y5⟩ := h3.cells; dsimp only at y0 y1 y2 y3 y4 y5; go_simp⟩) (HSS.out _ HX.out) ?_
              simp only [Act.put, List.setIfInBounds_toArray, List.set_cons_zero, List.set_cons_succ]
              refine wpAnyH_ready (rs := [20]) (by kernel_rfl) (by simp) ?_
              refine AllReadyH.cons rfl (fun K hK => ?_) AllReadyH.nil
              go_simp
              refine (implVaryOf_any _ k base2 gs _ (HKEEP.out _ HX.out).2.2.1 hk HCG.out HG3.out).mono ?_
              rintro e X5 ⟨V, rfl, O, bx⟩
              have HXN : Hid (Below W2.heap.size W2 X5) := HX.out.trans (bx.mono HX.out.size)
              refine hK.out _ _ (HSS.out _ HXN.out) (fun _ => ?_)
              obtain ⟨ov, cv, rfl, hx⟩ := texts_own O
              have HXT : Hid (TextsA X5 ov (varyP gs).length (varyP gs)) := hx
              clear hK K HX bx O hx
              have HX := HXN
              clear HXN
              rw [HVL.out] at HXT ⊢
              refine wpAnyH_ready (rs := [21]) (by kernel_rfl) (by simp) ?_
              refine AllReadyH.cons rfl (fun K hK => ?_) AllReadyH.nil
              go_simp
              refine (namesOk_any ov vl.length cv vl _ HXT.out (by have := HVZ.out.1; omega) HVZ.out.2).mono ?_
              rintro e X6 ⟨t, rfl, ht, bx⟩
              have HXN : Hid (Below W2.heap.size W2 X6) := HX.out.trans (bx.mono HX.out.size)
              refine hK.out _ _ (HSS.out _ HXN.out) (fun _ => ?_)
              clear hK K HX bx
              have HX := HXN
              clear HXN
              refine wpAnyH_takeD (i := 22) (v := .bool t) (some 31) rfl rfl (by kernel_rfl) (by kernel_rfl) (by kernel_rfl) (fun _ _ _ h => h) (Or.inl ⟨by rfl, by intro W _; go_simp⟩) (HSS.out _ HX.out) ?_
              simp only [Act.put, List.setIfInBounds_toArray, List.set_cons_zero, List.set_cons_succ]
              refine wpAnyH_takeD (i := 23) (v := .bool t) (some 4) rfl rfl (by kernel_rfl) (by kernel_rfl) (by kernel_rfl) (fun _ _ _ h => h) (Or.inl ⟨by rfl, by intro W _; go_simp⟩) (HSS.out _ HX.out) ?_
              simp only [Act.put, List.setIfInBounds_toArray, List.set_cons_zero, List.set_cons_succ]
              refine wpAnyH_done (by kernel_rfl) ?_ _
              have HB : Hid (Below w.heap.size w X6) := (HKEEP.out _ HX.out).2.2.2
              have HT : Hid (t = true ↔ MayP m p fs b st gs c) := by
                show _ ↔ _
                rw [ht, HQ0.out]
                exact ⟨fun h => ⟨⟨HRQ.out.1, HRP.out.1, HRQ.out.2, HRP.out.2⟩, rfl, rfl, rfl, rfl, h⟩, fun h => h.2.2.2.2.2⟩
              clear HX HSS HKEEP ht HXT
              go_wp2_with fail
              go_ret
              exact ⟨t, rfl, HT.out, HB.out⟩

end Go.Proofs.YtdlhicdfldecgaaGreat

namespace Go.Proofs.YtdlhicdfldecgaaGreat
open Go.RowKit
open Go.Lib hiding intOf

set_option maxHeartbeats 8000000 in
set_option maxRecDepth 100000 in
theorem copiedAnswer_any (st : Int) (u : Value) (d : ByteArray) (k base : Nat) (gs : List (ByteArray × ByteArray)) (w : World) (hu : FieldsV w base u k gs) (hk : k ≤ 1999999) (hc2 : CopyF gs) (hd : d.size ≤ 281474976710656) :
    Calls Tryz.prog 28 #[.agg #[.int .i64 st, u, .string d]] w fun e w' => RespRow st gs d w e w' := by
  obtain ⟨ob, cb, rfl, _⟩ := hu.slice
  have HV2 : Hid (∀ W, Below w.heap.size w W → FieldsV W base (.slice ob k cb) k gs) := fun W h => hu.below h
  have HLG : Hid (gs.length = k) := hu.len
  have HC2 : Hid (CopyF gs) := hc2
  have HDM : Hid (d.size ≤ 281474976710656) := hd
  clear hu hc2 hd
  have hb0 : Below w.heap.size w w := Below.refl _ _
  go_enter Tryz.func28, Tryz.ntmps28
  go_upto_region 1 with fail
  obtain ⟨qv1, hqv1⟩ : ∃ q, q = (w).heap.size := ⟨_, rfl⟩
  obtain ⟨w1, hW1⟩ : ∃ W, W = (w).alloc (.cells #[.int .i64 st, .slice ob k cb, .string d] 32) := ⟨_, rfl⟩
  have hz1 : (w).heap.size = qv1 := hqv1.symm
  first | rw [← hW1, ← hqv1] | rw [← hW1]
  have hs1 : w1.heap.size = qv1 + 1 := by rw [hW1, ← hz1]; simp
  have bw : Below (w).heap.size (w) w1 := by rw [hW1]; exact (Below.refl _ _).alloc (Nat.le_refl _) _
  have hb1 : Below w.heap.size w (w1) := hb0.trans (bw.mono hb0.size)
  have HM1 : Hid ((w).heap.size ≤ (w1).heap.size) := bw.size
  have HBv1_1 : Hid ((w1).heap[qv1]? = some (.cells #[.int .i64 st, .slice ob k cb, .string d] 32)) := by show _ = _; rw [hW1, ← hz1]; exact heap_alloc_new _ _
  have HGv1 : Hid (w.heap.size ≤ qv1) := by show _ ≤ _; rw [← hz1]; exact hb0.size
  clear hb0 bw hW1 hz1
  obtain ⟨qv2, hqv2⟩ : ∃ q, q = qv1 + 1 := ⟨_, rfl⟩
  obtain ⟨w2, hW2⟩ : ∃ W, W = (w1).alloc (.cells #[.int .i64 0, .slice none 0 0, .string ⟨#[]⟩] 32) := ⟨_, rfl⟩
  have hz2 : (w1).heap.size = qv2 := by rw [hqv2]; exact hs1
  first | rw [← hW2, ← hqv2] | rw [← hW2]
  have hs2 : w2.heap.size = qv2 + 1 := by rw [hW2, ← hz2]; simp
  have bw : Below (w1).heap.size (w1) w2 := by rw [hW2]; exact (Below.refl _ _).alloc (Nat.le_refl _) _
  have hb2 : Below w.heap.size w (w2) := hb1.trans (bw.mono hb1.size)
  have HM2 : Hid ((w1).heap.size ≤ (w2).heap.size) := bw.size
  have HBv1_2 : Hid ((w2).heap[qv1]? = some (.cells #[.int .i64 st, .slice ob k cb, .string d] 32)) := blk_below HBv1_1.out bw
  have HNv1v2 : Hid (qv1 ≠ qv2) := fun e => by have h1 := (Array.getElem?_eq_some_iff.1 HBv1_1.out).1; omega
  have HBv2_2 : Hid ((w2).heap[qv2]? = some (.cells #[.int .i64 0, .slice none 0 0, .string ⟨#[]⟩] 32)) := by show _ = _; rw [hW2, ← hz2]; exact heap_alloc_new _ _
  have HGv2 : Hid (w.heap.size ≤ qv2) := by show _ ≤ _; rw [← hz2]; exact hb1.size
  clear hb1 HBv1_1 bw hW2 hz2
  clear hs2 hqv2 hs1 hqv1
  go_upto_region 1 with fail
  refine wp_region_held_drew (S := fun W => W.heap[qv1]? = some (.cells #[.int .i64 st, .slice ob k cb, .string d] 32)) (by kernel_rfl) HBv1_2.out (fun _ => ?_)
  obtain ⟨w3, hX⟩ : ∃ X, X = w2.drew := ⟨_, rfl⟩
  have bw : Below w2.heap.size w2 w3 := by rw [hX]; exact (Below.refl _ _).drew
  rw [← hX]
  have hb3 : Below w.heap.size w (w3) := hb2.trans (bw.mono hb2.size)
  have HM3 : Hid ((w2).heap.size ≤ (w3).heap.size) := bw.size
  have HBv1_3 : Hid ((w3).heap[qv1]? = some (.cells #[.int .i64 st, .slice ob k cb, .string d] 32)) := blk_below HBv1_2.out bw
  have HBv2_3 : Hid ((w3).heap[qv2]? = some (.cells #[.int .i64 0, .slice none 0 0, .string ⟨#[]⟩] 32)) := blk_below HBv2_2.out bw
  have hS3 : w3.heap[qv1]? = some (.cells #[.int .i64 st, .slice ob k cb, .string d] 32) := HBv1_3.out
  clear hb2 HBv1_2 HBv2_2 bw hX
  refine wpAnyH_takeD (i := 0) (v := .pointer (some ⟨qv1, 0, none⟩)) (some 3) rfl rfl (by kernel_rfl) (by kernel_rfl) (by kernel_rfl) (fun _ _ _ h => h) (Or.inl ⟨by rfl, by intro W _; go_simp⟩) hS3 ?_
  simp only [Act.put, List.setIfInBounds_toArray, List.set_cons_zero, List.set_cons_succ]
  refine wpAnyH_takeD (i := 1) (v := .int .i64 st) (some 4) rfl rfl (by kernel_rfl) (by kernel_rfl) (by kernel_rfl) (fun _ _ _ h => h) (Or.inl ⟨by rfl, by intro W hW; have hhv1 := hW; have y0 := (cell_of hhv1 0).trans rfl; go_simp⟩) hS3 ?_
  simp only [Act.put, List.setIfInBounds_toArray, List.set_cons_zero, List.set_cons_succ]
  refine wpAnyH_takeD (i := 2) (v := .pointer (some ⟨qv1, 1, none⟩)) (some 5) rfl rfl (by kernel_rfl) (by kernel_rfl) (by kernel_rfl) (fun _ _ _ h => h) (Or.inl ⟨by rfl, by intro W _; go_simp⟩) hS3 ?_
  simp only [Act.put, List.setIfInBounds_toArray, List.set_cons_zero, List.set_cons_succ]
  refine wpAnyH_takeD (i := 3) (v := .slice ob k cb) (some 6) rfl rfl (by kernel_rfl) (by kernel_rfl) (by kernel_rfl) (fun _ _ _ h => h) (Or.inl ⟨by rfl, by intro W hW; have hhv1 := hW; have y1 := (cell_of hhv1 1).trans rfl; go_simp⟩) hS3 ?_
  simp only [Act.put, List.setIfInBounds_toArray, List.set_cons_zero, List.set_cons_succ]
  refine wpAnyH_takeD (i := 5) (v := .pointer (some ⟨qv1, 2, none⟩)) (some 8) rfl rfl (by kernel_rfl) (by kernel_rfl) (by kernel_rfl) (fun _ _ _ h => h) (Or.inl ⟨by rfl, by intro W _; go_simp⟩) hS3 ?_
  simp only [Act.put, List.setIfInBounds_toArray, List.set_cons_zero, List.set_cons_succ]
  refine wpAnyH_takeD (i := 6) (v := .string d) (some 9) rfl rfl (by kernel_rfl) (by kernel_rfl) (by kernel_rfl) (fun _ _ _ h => h) (Or.inl ⟨by rfl, by intro W hW; have hhv1 := hW; have y2 := (cell_of hhv1 2).trans rfl; go_simp⟩) hS3 ?_
  simp only [Act.put, List.setIfInBounds_toArray, List.set_cons_zero, List.set_cons_succ]
  refine wpAnyH_ready (rs := [4]) (by kernel_rfl) (by simp) ?_
  refine AllReadyH.cons rfl (fun K hK => ?_) AllReadyH.nil
  go_simp
  refine (copied_any _ k base gs _ (HV2.out _ hb3) (by omega) HC2.out).mono ?_
  rintro e w4 ⟨vv, rfl, ownG, bw⟩
  obtain ⟨oG, pG, rfl⟩ := slice_of_owns ownG
  rw [HLG.out] at ownG ⊢
  have hb4 : Below w.heap.size w (w4) := hb3.trans (bw.mono hb3.size)
  have HM4 : Hid ((w3).heap.size ≤ (w4).heap.size) := bw.size
  have HBv1_4 : Hid ((w4).heap[qv1]? = some (.cells #[.int .i64 st, .slice ob k cb, .string d] 32)) := blk_below HBv1_3.out bw
  have HBv2_4 : Hid ((w4).heap[qv2]? = some (.cells #[.int .i64 0, .slice none 0 0, .string ⟨#[]⟩] 32)) := blk_below HBv2_3.out bw
  have HOG_4 : Hid ((w4).ownsRow w.heap.size 75 2 (.slice oG k pG) k (flatF gs)) := owns_wide ownG hb3.size
  have LOG : Hid (∀ g, (Value.ownBlock (.slice oG k pG)) = some g → (w3).heap.size ≤ g) := fun g hg => owns_ge ownG hg
  have HIG : Hid (∀ g, (Value.ownBlock (.slice oG k pG)) = some g → g < (w4).heap.size) := fun g hg => owns_lt ownG hg
  clear ownG
  clear hb3 HBv1_3 HBv2_3 bw
  have hS4 : w4.heap[qv1]? = some (.cells #[.int .i64 st, .slice ob k cb, .string d] 32) := HBv1_4.out
  refine hK.out _ _ hS4 (fun _ => ?_)
  clear hK K hS3
  refine wpAnyH_ready (rs := [7]) (by kernel_rfl) (by simp) ?_
  refine AllReadyH.cons rfl (fun K hK => ?_) AllReadyH.nil
  go_simp
  refine (clone_any d _ HDM.out).mono ?_
  rintro e w5 ⟨rfl, bw⟩
  have hb5 : Below w.heap.size w (w5) := hb4.trans (bw.mono hb4.size)
  have HM5 : Hid ((w4).heap.size ≤ (w5).heap.size) := bw.size
  have HOG_5 : Hid ((w5).ownsRow w.heap.size 75 2 (.slice oG k pG) k (flatF gs)) := owns_below HOG_4.out bw (fun g hg => owns_lt HOG_4.out hg)
  have HBv1_5 : Hid ((w5).heap[qv1]? = some (.cells #[.int .i64 st, .slice ob k cb, .string d] 32)) := blk_below HBv1_4.out bw
  have HBv2_5 : Hid ((w5).heap[qv2]? = some (.cells #[.int .i64 0, .slice none 0 0, .string ⟨#[]⟩] 32)) := blk_below HBv2_4.out bw
  clear hb4 HOG_4 HBv1_4 HBv2_4 bw
  have hS5 : w5.heap[qv1]? = some (.cells #[.int .i64 st, .slice ob k cb, .string d] 32) := HBv1_5.out
  refine hK.out _ _ hS5 (fun _ => ?_)
  clear hK K hS4
  refine wpAnyH_takeD (i := 8) (v := .agg #[.int .i64 st, .slice oG k pG, .string d]) (some 11) rfl rfl (by kernel_rfl) (by kernel_rfl) (by kernel_rfl) (fun _ _ _ h => h) (Or.inl ⟨by rfl, by intro W _; go_simp⟩) hS5 ?_
  simp only [Act.put, List.setIfInBounds_toArray, List.set_cons_zero, List.set_cons_succ]
  refine wpAnyH_ready (rs := [9]) (by kernel_rfl) (by simp) ?_
  refine AllReadyH.cons rfl (fun K hK => ?_) AllReadyH.nil
  have ce0 : (w5).cell? ⟨qv2, 0, none⟩ = some (.int .i64 0) := (cell_of HBv2_5.out 0).trans rfl
  have fe0 : (w5).frozen? ⟨qv2, 0, none⟩ = false := frozen_of HBv2_5.out 0
  have ce1 : (w5).cell? ⟨qv2, 1, none⟩ = some (.slice none 0 0) := (cell_of HBv2_5.out 1).trans rfl
  have fe1 : (w5).frozen? ⟨qv2, 1, none⟩ = false := frozen_of HBv2_5.out 1
  have ce2 : (w5).cell? ⟨qv2, 2, none⟩ = some (.string ⟨#[]⟩) := (cell_of HBv2_5.out 2).trans rfl
  have fe2 : (w5).frozen? ⟨qv2, 2, none⟩ = false := frozen_of HBv2_5.out 2
  obtain ⟨w6, hY⟩ : ∃ Y, Y = (((w5.setCell ⟨qv2, 0, none⟩ (.int .i64 st)).setCell ⟨qv2, 1, none⟩ (.slice oG k pG)).setCell ⟨qv2, 2, none⟩ (.string d)) := ⟨_, rfl⟩
  have HY : Hid ((((w5.setCell ⟨qv2, 0, none⟩ (.int .i64 st)).setCell ⟨qv2, 1, none⟩ (.slice oG k pG)).setCell ⟨qv2, 2, none⟩ (.string d)) = w6) := hY.symm
  have hb6 : Below w.heap.size w w6 := by rw [hY]; exact (((hb5.setCell (p := ⟨qv2, 0, none⟩) HGv2.out _).setCell (p := ⟨qv2, 1, none⟩) HGv2.out _).setCell (p := ⟨qv2, 2, none⟩) HGv2.out _)
  have HM6 : Hid ((w5).heap.size ≤ w6.heap.size) := by show _ ≤ _; rw [hY]; simp
  have HOG_6 : Hid ((w6).ownsRow w.heap.size 75 2 (.slice oG k pG) k (flatF gs)) := by show World.ownsRow _ _ _ _ _ _ _; rw [hY]; exact owns_same HOG_5.out (fun g hg => by have hne := own_ne HOG_5.out HBv2_5.out (by decide) g hg; rw [heap_setCell_other _ _ g _ hne, heap_setCell_other _ _ g _ hne, heap_setCell_other _ _ g _ hne])
  have HBv1_6 : Hid ((w6).heap[qv1]? = some (.cells #[.int .i64 st, .slice ob k cb, .string d] 32)) := by show _ = _; rw [hY, heap_setCell_other _ _ _ _ HNv1v2.out, heap_setCell_other _ _ _ _ HNv1v2.out, heap_setCell_other _ _ _ _ HNv1v2.out]; exact HBv1_5.out
  have HBv2_6 : Hid ((w6).heap[qv2]? = some (.cells #[.int .i64 st, .slice oG k pG, .string d] 32)) := by show _ = _; rw [hY]; have h := (heap_set _ qv2 2 _ _ _ (.string d) (heap_set _ qv2 1 _ _ _ (.slice oG k pG) (heap_set _ qv2 0 _ _ _ (.int .i64 st) HBv2_5.out))); simpa using h
  clear hY hb5 HOG_5 HBv1_5 HBv2_5
  go_simp
  rw [HY.out]
  have hS6 : w6.heap[qv1]? = some (.cells #[.int .i64 st, .slice ob k cb, .string d] 32) := HBv1_6.out
  refine hK.out _ _ hS6 (fun _ => ?_)
  clear hK K HY hS5 ce0 fe0 ce1 fe1 ce2 fe2
  clear hS6
  refine wpAnyH_done (by kernel_rfl) ?_ _
  go_wp2_with fail
  have kv2_0 : (w6).cell? ⟨qv2, 0, none⟩ = some (.int .i64 st) := (cell_of HBv2_6.out 0).trans rfl
  have kv2_1 : (w6).cell? ⟨qv2, 1, none⟩ = some (.slice oG k pG) := (cell_of HBv2_6.out 1).trans rfl
  have kv2_2 : (w6).cell? ⟨qv2, 2, none⟩ = some (.string d) := (cell_of HBv2_6.out 2).trans rfl
  refine bodyPost_ret (v := .agg #[.int .i64 st, .slice oG k pG, .string d]) (by simp [results, Tryz.results28, go_sem, kv2_0, kv2_1, kv2_2]) rfl ?_
  refine ⟨_, rfl, ?_, hb6⟩
  rw [HLG.out]
  exact HOG_6.out

set_option maxHeartbeats 8000000 in
set_option maxRecDepth 100000 in
theorem implObjOf_any (m : Int) (p : ByteArray) (v : Value) (b : ByteArray) (n base : Nat) (fs : List (ByteArray × ByteArray)) (st : Int) (u : Value) (d : ByteArray) (k base2 : Nat) (gs : List (ByteArray × ByteArray)) (t : Int) (vl yl : List ByteArray) (w : World) (hv : FieldsV w base v n fs) (hn : n ≤ 1999999) (hs1 : WalkF n fs) (hlf : fs.length = n) (hp : p.size ≤ maxLen) (hb : b.size ≤ maxLen) (hu : FieldsV w base2 u k gs) (hk : k ≤ 1999999) (hs2 : WalkF k gs) (hd : d.size ≤ maxLen) (hg1 : (getV fs ccName).size ≤ 1048576) (hg2 : (getV gs ccName).size ≤ 1048576) (hg3 : (getV gs varyName).size ≤ 1048576) (hvl : vl = varyP gs) (hyl : yl = valsP vl fs) (hc1 : CopyF fs) (hc2 : CopyF gs) :
    Calls Tryz.prog 9 #[.agg #[.int .i64 m, .string p, v, .string b], .agg #[.int .i64 st, u, .string d], .int .i64 t] w fun e w' => ObjOfIs m p fs b st gs d t vl yl k w e w' := by
  obtain ⟨oa, cap, rfl, _⟩ := hv.slice
  obtain ⟨ob, cb, rfl, _⟩ := hu.slice
  have HV1 : Hid (∀ W, Below w.heap.size w W → FieldsV W base (.slice oa n cap) n fs) := fun W h => hv.below h
  have HV2 : Hid (∀ W, Below w.heap.size w W → FieldsV W base2 (.slice ob k cb) k gs) := fun W h => hu.below h
  have HLG : Hid (gs.length = k) := hu.len
  have HS1 : Hid (WalkF n fs) := hs1
  have HS2 : Hid (WalkF k gs) := hs2
  have HPM : Hid (p.size ≤ maxLen) := hp
  have HBM : Hid (b.size ≤ maxLen) := hb
  have HDM : Hid (d.size ≤ maxLen) := hd
  have HG1 : Hid ((getV fs ccName).size ≤ 1048576) := hg1
  have HG2 : Hid ((getV gs ccName).size ≤ 1048576) := hg2
  have HG3 : Hid ((getV gs varyName).size ≤ 1048576) := hg3
  have HVL : Hid (varyP gs = vl) := hvl.symm
  have HYL : Hid (valsP vl fs = yl) := hyl.symm
  have HVZ : Hid (vl.length ≤ 1048577 ∧ ∀ i, i < vl.length → (textAt vl i).size ≤ maxLen) := by
    show _ ∧ _
    rw [hvl]
    have hle := splitL_le (getV gs varyName)
    have hg := HG3.out
    unfold varyP
    refine ⟨by rw [List.length_map]; omega, fun i hi => ?_⟩
    rw [List.length_map] at hi
    unfold textAt
    rw [List.getD_eq_getElem?_getD, List.getElem?_map, List.getElem?_eq_getElem hi]
    have := hle.2 _ (List.getElem_mem hi)
    show (lowerOf _).size ≤ _
    rw [lower_size]
    unfold maxLen
    omega
  have HYZ : Hid (yl.length = vl.length ∧ ∀ i, i < yl.length → (textAt yl i).size ≤ maxLen) := by
    show _ ∧ _
    rw [hyl]
    refine ⟨valsP_len vl fs, fun i hi => ?_⟩
    rw [valsP_len] at hi
    unfold textAt valsP
    rw [List.getD_eq_getElem?_getD, List.getElem?_map, List.getElem?_eq_getElem hi]
    exact valOf_size hs1 hlf _
  have HC1 : Hid (CopyF fs) := hc1
  have HC2 : Hid (CopyF gs) := hc2
  clear hc1 hc2 hv hu hs1 hs2 hp hb hd hg1 hg2 hg3 hvl hyl hlf
  have hb0 : Below w.heap.size w w := Below.refl _ _
  go_enter Tryz.func9, Tryz.ntmps9
  go_upto_region 1 with fail
  obtain ⟨qv1, hqv1⟩ : ∃ q, q = (w).heap.size := ⟨_, rfl⟩
  obtain ⟨w1, hW1⟩ : ∃ W, W = (w).alloc (.cells #[.int .i64 m, .string p, .slice oa n cap, .string b] 38) := ⟨_, rfl⟩
  have hz1 : (w).heap.size = qv1 := hqv1.symm
  first | rw [← hW1, ← hqv1] | rw [← hW1]
  have hs1 : w1.heap.size = qv1 + 1 := by rw [hW1, ← hz1]; simp
  have bw : Below (w).heap.size (w) w1 := by rw [hW1]; exact (Below.refl _ _).alloc (Nat.le_refl _) _
  have hb1 : Below w.heap.size w (w1) := hb0.trans (bw.mono hb0.size)
  have HM1 : Hid ((w).heap.size ≤ (w1).heap.size) := bw.size
  have HBv1_1 : Hid ((w1).heap[qv1]? = some (.cells #[.int .i64 m, .string p, .slice oa n cap, .string b] 38)) := by show _ = _; rw [hW1, ← hz1]; exact heap_alloc_new _ _
  have HGv1 : Hid (w.heap.size ≤ qv1) := by show _ ≤ _; rw [← hz1]; exact hb0.size
  clear hb0 bw hW1 hz1
  obtain ⟨qv2, hqv2⟩ : ∃ q, q = qv1 + 1 := ⟨_, rfl⟩
  obtain ⟨w2, hW2⟩ : ∃ W, W = (w1).alloc (.cells #[.int .i64 st, .slice ob k cb, .string d] 32) := ⟨_, rfl⟩
  have hz2 : (w1).heap.size = qv2 := by rw [hqv2]; exact hs1
  first | rw [← hW2, ← hqv2] | rw [← hW2]
  have hs2 : w2.heap.size = qv2 + 1 := by rw [hW2, ← hz2]; simp
  have bw : Below (w1).heap.size (w1) w2 := by rw [hW2]; exact (Below.refl _ _).alloc (Nat.le_refl _) _
  have hb2 : Below w.heap.size w (w2) := hb1.trans (bw.mono hb1.size)
  have HM2 : Hid ((w1).heap.size ≤ (w2).heap.size) := bw.size
  have HBv1_2 : Hid ((w2).heap[qv1]? = some (.cells #[.int .i64 m, .string p, .slice oa n cap, .string b] 38)) := blk_below HBv1_1.out bw
  have HNv1v2 : Hid (qv1 ≠ qv2) := fun e => by have h1 := (Array.getElem?_eq_some_iff.1 HBv1_1.out).1; omega
  have HBv2_2 : Hid ((w2).heap[qv2]? = some (.cells #[.int .i64 st, .slice ob k cb, .string d] 32)) := by show _ = _; rw [hW2, ← hz2]; exact heap_alloc_new _ _
  have HGv2 : Hid (w.heap.size ≤ qv2) := by show _ ≤ _; rw [← hz2]; exact hb1.size
  clear hb1 HBv1_1 bw hW2 hz2
  obtain ⟨qv3, hqv3⟩ : ∃ q, q = qv2 + 1 := ⟨_, rfl⟩
  obtain ⟨w3, hW3⟩ : ∃ W, W = (w2).alloc (.cells #[.string ⟨#[]⟩, .slice none 0 0, .slice none 0 0, .int .i64 0, .slice none 0 0, .string ⟨#[]⟩, .int .i64 0] 34) := ⟨_, rfl⟩
  have hz3 : (w2).heap.size = qv3 := by rw [hqv3]; exact hs2
  first | rw [← hW3, ← hqv3] | rw [← hW3]
  have hs3 : w3.heap.size = qv3 + 1 := by rw [hW3, ← hz3]; simp
  have bw : Below (w2).heap.size (w2) w3 := by rw [hW3]; exact (Below.refl _ _).alloc (Nat.le_refl _) _
  have hb3 : Below w.heap.size w (w3) := hb2.trans (bw.mono hb2.size)
  have HM3 : Hid ((w2).heap.size ≤ (w3).heap.size) := bw.size
  have HBv1_3 : Hid ((w3).heap[qv1]? = some (.cells #[.int .i64 m, .string p, .slice oa n cap, .string b] 38)) := blk_below HBv1_2.out bw
  have HBv2_3 : Hid ((w3).heap[qv2]? = some (.cells #[.int .i64 st, .slice ob k cb, .string d] 32)) := blk_below HBv2_2.out bw
  have HNv1v3 : Hid (qv1 ≠ qv3) := fun e => by have h1 := (Array.getElem?_eq_some_iff.1 HBv1_2.out).1; omega
  have HNv2v3 : Hid (qv2 ≠ qv3) := fun e => by have h1 := (Array.getElem?_eq_some_iff.1 HBv2_2.out).1; omega
  have HBv3_3 : Hid ((w3).heap[qv3]? = some (.cells #[.string ⟨#[]⟩, .slice none 0 0, .slice none 0 0, .int .i64 0, .slice none 0 0, .string ⟨#[]⟩, .int .i64 0] 34)) := by show _ = _; rw [hW3, ← hz3]; exact heap_alloc_new _ _
  have HGv3 : Hid (w.heap.size ≤ qv3) := by show _ ≤ _; rw [← hz3]; exact hb2.size
  clear hb2 HBv1_2 HBv2_2 bw hW3 hz3
  clear hs3 hqv3 hs2 hqv2 hs1 hqv1
  have cv1_0 : (w3).cell? ⟨qv1, 0, none⟩ = some (.int .i64 m) := (cell_of HBv1_3.out 0).trans rfl
  have cv1_1 : (w3).cell? ⟨qv1, 1, none⟩ = some (.string p) := (cell_of HBv1_3.out 1).trans rfl
  have cv1_2 : (w3).cell? ⟨qv1, 2, none⟩ = some (.slice oa n cap) := (cell_of HBv1_3.out 2).trans rfl
  have cv1_3 : (w3).cell? ⟨qv1, 3, none⟩ = some (.string b) := (cell_of HBv1_3.out 3).trans rfl
  have cv2_0 : (w3).cell? ⟨qv2, 0, none⟩ = some (.int .i64 st) := (cell_of HBv2_3.out 0).trans rfl
  have cv2_1 : (w3).cell? ⟨qv2, 1, none⟩ = some (.slice ob k cb) := (cell_of HBv2_3.out 1).trans rfl
  have cv2_2 : (w3).cell? ⟨qv2, 2, none⟩ = some (.string d) := (cell_of HBv2_3.out 2).trans rfl
  go_wp2_with fail
  refine (implMayKeep_any m p _ b n base fs st _ d k base2 gs _ (HV1.out _ hb3) (by omega) HS1.out HPM.out HBM.out (HV2.out _ hb3) (by omega) HS2.out HDM.out HG1.out HG2.out HG3.out HC1.out HC2.out).mono ?_
  rintro e w4 ⟨u1, rfl, htu1, bw⟩
  have hb4 : Below w.heap.size w (w4) := hb3.trans (bw.mono hb3.size)
  have HM4 : Hid ((w3).heap.size ≤ (w4).heap.size) := bw.size
  have HBv1_4 : Hid ((w4).heap[qv1]? = some (.cells #[.int .i64 m, .string p, .slice oa n cap, .string b] 38)) := blk_below HBv1_3.out bw
  have HBv2_4 : Hid ((w4).heap[qv2]? = some (.cells #[.int .i64 st, .slice ob k cb, .string d] 32)) := blk_below HBv2_3.out bw
  have HBv3_4 : Hid ((w4).heap[qv3]? = some (.cells #[.string ⟨#[]⟩, .slice none 0 0, .slice none 0 0, .int .i64 0, .slice none 0 0, .string ⟨#[]⟩, .int .i64 0] 34)) := blk_below HBv3_3.out bw
  clear hb3 HBv1_3 HBv2_3 HBv3_3 bw
  clear cv1_0 cv1_1 cv1_2 cv1_3 cv2_0 cv2_1 cv2_2
  cases u1 with
  | false =>
    have HF : Hid (¬ (MayP m p fs b st gs d ∧ ObjP p vl yl st gs d t)) := fun h => nomatch htu1.2 h.1
    clear htu1
    have cv3_0 : (w4).cell? ⟨qv3, 0, none⟩ = some (.string ⟨#[]⟩) := (cell_of HBv3_4.out 0).trans rfl
    have fcv3_0 : (w4).frozen? ⟨qv3, 0, none⟩ = false := frozen_of HBv3_4.out 0
    have cv3_1 : (w4).cell? ⟨qv3, 1, none⟩ = some (.slice none 0 0) := (cell_of HBv3_4.out 1).trans rfl
    have fcv3_1 : (w4).frozen? ⟨qv3, 1, none⟩ = false := frozen_of HBv3_4.out 1
    have cv3_2 : (w4).cell? ⟨qv3, 2, none⟩ = some (.slice none 0 0) := (cell_of HBv3_4.out 2).trans rfl
    have fcv3_2 : (w4).frozen? ⟨qv3, 2, none⟩ = false := frozen_of HBv3_4.out 2
    have cv3_3 : (w4).cell? ⟨qv3, 3, none⟩ = some (.int .i64 0) := (cell_of HBv3_4.out 3).trans rfl
    have fcv3_3 : (w4).frozen? ⟨qv3, 3, none⟩ = false := frozen_of HBv3_4.out 3
    have cv3_4 : (w4).cell? ⟨qv3, 4, none⟩ = some (.slice none 0 0) := (cell_of HBv3_4.out 4).trans rfl
    have fcv3_4 : (w4).frozen? ⟨qv3, 4, none⟩ = false := frozen_of HBv3_4.out 4
    have cv3_5 : (w4).cell? ⟨qv3, 5, none⟩ = some (.string ⟨#[]⟩) := (cell_of HBv3_4.out 5).trans rfl
    have fcv3_5 : (w4).frozen? ⟨qv3, 5, none⟩ = false := frozen_of HBv3_4.out 5
    have cv3_6 : (w4).cell? ⟨qv3, 6, none⟩ = some (.int .i64 0) := (cell_of HBv3_4.out 6).trans rfl
    have fcv3_6 : (w4).frozen? ⟨qv3, 6, none⟩ = false := frozen_of HBv3_4.out 6
    go_wp2_with fail
    obtain ⟨w5, hW5⟩ : ∃ W, W = (w4).setCell ⟨qv3, 0, none⟩ (.string ⟨#[]⟩) := ⟨_, rfl⟩
    rw [← hW5]
    have hb5 : Below w.heap.size w w5 := by rw [hW5]; exact hb4.setCell (p := ⟨qv3, 0, none⟩) HGv3.out _
    have HM5 : Hid ((w4).heap.size ≤ w5.heap.size) := by show _ ≤ _; rw [hW5]; simp
    have HBv1_5 : Hid ((w5).heap[qv1]? = some (.cells #[.int .i64 m, .string p, .slice oa n cap, .string b] 38)) := by show _ = _; rw [hW5, heap_setCell_other _ _ _ _ HNv1v3.out]; exact HBv1_4.out
    have HBv2_5 : Hid ((w5).heap[qv2]? = some (.cells #[.int .i64 st, .slice ob k cb, .string d] 32)) := by show _ = _; rw [hW5, heap_setCell_other _ _ _ _ HNv2v3.out]; exact HBv2_4.out
    have HBv3_5 : Hid ((w5).heap[qv3]? = some (.cells #[.string ⟨#[]⟩, .slice none 0 0, .slice none 0 0, .int .i64 0, .slice none 0 0, .string ⟨#[]⟩, .int .i64 0] 34)) := by show _ = _; rw [hW5]; have h := heap_set _ _ 0 _ _ _ (.string ⟨#[]⟩) HBv3_4.out; simpa using h
    clear hb4 HBv1_4 HBv2_4 HBv3_4 hW5
    obtain ⟨w6, hW6⟩ : ∃ W, W = (w5).setCell ⟨qv3, 1, none⟩ (.slice none 0 0) := ⟨_, rfl⟩
    rw [← hW6]
    have hb6 : Below w.heap.size w w6 := by rw [hW6]; exact hb5.setCell (p := ⟨qv3, 1, none⟩) HGv3.out _
    have HM6 : Hid ((w5).heap.size ≤ w6.heap.size) := by show _ ≤ _; rw [hW6]; simp
    have HBv1_6 : Hid ((w6).heap[qv1]? = some (.cells #[.int .i64 m, .string p, .slice oa n cap, .string b] 38)) := by show _ = _; rw [hW6, heap_setCell_other _ _ _ _ HNv1v3.out]; exact HBv1_5.out
    have HBv2_6 : Hid ((w6).heap[qv2]? = some (.cells #[.int .i64 st, .slice ob k cb, .string d] 32)) := by show _ = _; rw [hW6, heap_setCell_other _ _ _ _ HNv2v3.out]; exact HBv2_5.out
    have HBv3_6 : Hid ((w6).heap[qv3]? = some (.cells #[.string ⟨#[]⟩, .slice none 0 0, .slice none 0 0, .int .i64 0, .slice none 0 0, .string ⟨#[]⟩, .int .i64 0] 34)) := by show _ = _; rw [hW6]; have h := heap_set _ _ 1 _ _ _ (.slice none 0 0) HBv3_5.out; simpa using h
    clear hb5 HBv1_5 HBv2_5 HBv3_5 hW6
    obtain ⟨w7, hW7⟩ : ∃ W, W = (w6).setCell ⟨qv3, 2, none⟩ (.slice none 0 0) := ⟨_, rfl⟩
    rw [← hW7]
    have hb7 : Below w.heap.size w w7 := by rw [hW7]; exact hb6.setCell (p := ⟨qv3, 2, none⟩) HGv3.out _
    have HM7 : Hid ((w6).heap.size ≤ w7.heap.size) := by show _ ≤ _; rw [hW7]; simp
    have HBv1_7 : Hid ((w7).heap[qv1]? = some (.cells #[.int .i64 m, .string p, .slice oa n cap, .string b] 38)) := by show _ = _; rw [hW7, heap_setCell_other _ _ _ _ HNv1v3.out]; exact HBv1_6.out
    have HBv2_7 : Hid ((w7).heap[qv2]? = some (.cells #[.int .i64 st, .slice ob k cb, .string d] 32)) := by show _ = _; rw [hW7, heap_setCell_other _ _ _ _ HNv2v3.out]; exact HBv2_6.out
    have HBv3_7 : Hid ((w7).heap[qv3]? = some (.cells #[.string ⟨#[]⟩, .slice none 0 0, .slice none 0 0, .int .i64 0, .slice none 0 0, .string ⟨#[]⟩, .int .i64 0] 34)) := by show _ = _; rw [hW7]; have h := heap_set _ _ 2 _ _ _ (.slice none 0 0) HBv3_6.out; simpa using h
    clear hb6 HBv1_6 HBv2_6 HBv3_6 hW7
    obtain ⟨w8, hW8⟩ : ∃ W, W = (w7).setCell ⟨qv3, 3, none⟩ (.int .i64 0) := ⟨_, rfl⟩
    rw [← hW8]
    have hb8 : Below w.heap.size w w8 := by rw [hW8]; exact hb7.setCell (p := ⟨qv3, 3, none⟩) HGv3.out _
    have HM8 : Hid ((w7).heap.size ≤ w8.heap.size) := by show _ ≤ _; rw [hW8]; simp
    have HBv1_8 : Hid ((w8).heap[qv1]? = some (.cells #[.int .i64 m, .string p, .slice oa n cap, .string b] 38)) := by show _ = _; rw [hW8, heap_setCell_other _ _ _ _ HNv1v3.out]; exact HBv1_7.out
    have HBv2_8 : Hid ((w8).heap[qv2]? = some (.cells #[.int .i64 st, .slice ob k cb, .string d] 32)) := by show _ = _; rw [hW8, heap_setCell_other _ _ _ _ HNv2v3.out]; exact HBv2_7.out
    have HBv3_8 : Hid ((w8).heap[qv3]? = some (.cells #[.string ⟨#[]⟩, .slice none 0 0, .slice none 0 0, .int .i64 0, .slice none 0 0, .string ⟨#[]⟩, .int .i64 0] 34)) := by show _ = _; rw [hW8]; have h := heap_set _ _ 3 _ _ _ (.int .i64 0) HBv3_7.out; simpa using h
    clear hb7 HBv1_7 HBv2_7 HBv3_7 hW8
    obtain ⟨w9, hW9⟩ : ∃ W, W = (w8).setCell ⟨qv3, 4, none⟩ (.slice none 0 0) := ⟨_, rfl⟩
    rw [← hW9]
    have hb9 : Below w.heap.size w w9 := by rw [hW9]; exact hb8.setCell (p := ⟨qv3, 4, none⟩) HGv3.out _
    have HM9 : Hid ((w8).heap.size ≤ w9.heap.size) := by show _ ≤ _; rw [hW9]; simp
    have HBv1_9 : Hid ((w9).heap[qv1]? = some (.cells #[.int .i64 m, .string p, .slice oa n cap, .string b] 38)) := by show _ = _; rw [hW9, heap_setCell_other _ _ _ _ HNv1v3.out]; exact HBv1_8.out
    have HBv2_9 : Hid ((w9).heap[qv2]? = some (.cells #[.int .i64 st, .slice ob k cb, .string d] 32)) := by show _ = _; rw [hW9, heap_setCell_other _ _ _ _ HNv2v3.out]; exact HBv2_8.out
    have HBv3_9 : Hid ((w9).heap[qv3]? = some (.cells #[.string ⟨#[]⟩, .slice none 0 0, .slice none 0 0, .int .i64 0, .slice none 0 0, .string ⟨#[]⟩, .int .i64 0] 34)) := by show _ = _; rw [hW9]; have h := heap_set _ _ 4 _ _ _ (.slice none 0 0) HBv3_8.out; simpa using h
    clear hb8 HBv1_8 HBv2_8 HBv3_8 hW9
    obtain ⟨w10, hW10⟩ : ∃ W, W = (w9).setCell ⟨qv3, 5, none⟩ (.string ⟨#[]⟩) := ⟨_, rfl⟩
    rw [← hW10]
    have hb10 : Below w.heap.size w w10 := by rw [hW10]; exact hb9.setCell (p := ⟨qv3, 5, none⟩) HGv3.out _
    have HM10 : Hid ((w9).heap.size ≤ w10.heap.size) := by show _ ≤ _; rw [hW10]; simp
    have HBv1_10 : Hid ((w10).heap[qv1]? = some (.cells #[.int .i64 m, .string p, .slice oa n cap, .string b] 38)) := by show _ = _; rw [hW10, heap_setCell_other _ _ _ _ HNv1v3.out]; exact HBv1_9.out
    have HBv2_10 : Hid ((w10).heap[qv2]? = some (.cells #[.int .i64 st, .slice ob k cb, .string d] 32)) := by show _ = _; rw [hW10, heap_setCell_other _ _ _ _ HNv2v3.out]; exact HBv2_9.out
    have HBv3_10 : Hid ((w10).heap[qv3]? = some (.cells #[.string ⟨#[]⟩, .slice none 0 0, .slice none 0 0, .int .i64 0, .slice none 0 0, .string ⟨#[]⟩, .int .i64 0] 34)) := by show _ = _; rw [hW10]; have h := heap_set _ _ 5 _ _ _ (.string ⟨#[]⟩) HBv3_9.out; simpa using h
    clear hb9 HBv1_9 HBv2_9 HBv3_9 hW10
    obtain ⟨w11, hW11⟩ : ∃ W, W = (w10).setCell ⟨qv3, 6, none⟩ (.int .i64 0) := ⟨_, rfl⟩
    rw [← hW11]
    have hb11 : Below w.heap.size w w11 := by rw [hW11]; exact hb10.setCell (p := ⟨qv3, 6, none⟩) HGv3.out _
    have HM11 : Hid ((w10).heap.size ≤ w11.heap.size) := by show _ ≤ _; rw [hW11]; simp
    have HBv1_11 : Hid ((w11).heap[qv1]? = some (.cells #[.int .i64 m, .string p, .slice oa n cap, .string b] 38)) := by show _ = _; rw [hW11, heap_setCell_other _ _ _ _ HNv1v3.out]; exact HBv1_10.out
    have HBv2_11 : Hid ((w11).heap[qv2]? = some (.cells #[.int .i64 st, .slice ob k cb, .string d] 32)) := by show _ = _; rw [hW11, heap_setCell_other _ _ _ _ HNv2v3.out]; exact HBv2_10.out
    have HBv3_11 : Hid ((w11).heap[qv3]? = some (.cells #[.string ⟨#[]⟩, .slice none 0 0, .slice none 0 0, .int .i64 0, .slice none 0 0, .string ⟨#[]⟩, .int .i64 0] 34)) := by show _ = _; rw [hW11]; have h := heap_set _ _ 6 _ _ _ (.int .i64 0) HBv3_10.out; simpa using h
    clear hb10 HBv1_10 HBv2_10 HBv3_10 hW11
    have kv3_0 : (w11).cell? ⟨qv3, 0, none⟩ = some (.string ⟨#[]⟩) := (cell_of HBv3_11.out 0).trans rfl
    have kv3_1 : (w11).cell? ⟨qv3, 1, none⟩ = some (.slice none 0 0) := (cell_of HBv3_11.out 1).trans rfl
    have kv3_2 : (w11).cell? ⟨qv3, 2, none⟩ = some (.slice none 0 0) := (cell_of HBv3_11.out 2).trans rfl
    have kv3_3 : (w11).cell? ⟨qv3, 3, none⟩ = some (.int .i64 0) := (cell_of HBv3_11.out 3).trans rfl
    have kv3_4 : (w11).cell? ⟨qv3, 4, none⟩ = some (.slice none 0 0) := (cell_of HBv3_11.out 4).trans rfl
    have kv3_5 : (w11).cell? ⟨qv3, 5, none⟩ = some (.string ⟨#[]⟩) := (cell_of HBv3_11.out 5).trans rfl
    have kv3_6 : (w11).cell? ⟨qv3, 6, none⟩ = some (.int .i64 0) := (cell_of HBv3_11.out 6).trans rfl
    refine bodyPost_ret (v := .tuple #[.agg #[.string ⟨#[]⟩, .slice none 0 0, .slice none 0 0, .int .i64 0, .slice none 0 0, .string ⟨#[]⟩, .int .i64 0], .bool false]) (by simp [results, Tryz.results9, go_sem, kv3_0, kv3_1, kv3_2, kv3_3, kv3_4, kv3_5, kv3_6]) rfl ?_
    exact ⟨hb11, .inr ⟨HF.out, rfl⟩⟩
  | true =>
    have HMK : Hid (MayP m p fs b st gs d) := htu1.1 rfl
    clear htu1
    have cv2_1 : (w4).cell? ⟨qv2, 1, none⟩ = some (.slice ob k cb) := (cell_of HBv2_4.out 1).trans rfl
    go_wp2_with fail
    refine (implVaryOf_any _ k base2 gs _ (HV2.out _ hb4) (by omega) HC2.out HG3.out).mono ?_
    rintro e w5 ⟨vv, rfl, ownX, bw⟩
    obtain ⟨oX, pX, rfl⟩ := slice_of_owns ownX
    rw [HVL.out] at ownX ⊢
    have hb5 : Below w.heap.size w (w5) := hb4.trans (bw.mono hb4.size)
    have HM5 : Hid ((w4).heap.size ≤ (w5).heap.size) := bw.size
    have HBv1_5 : Hid ((w5).heap[qv1]? = some (.cells #[.int .i64 m, .string p, .slice oa n cap, .string b] 38)) := blk_below HBv1_4.out bw
    have HBv2_5 : Hid ((w5).heap[qv2]? = some (.cells #[.int .i64 st, .slice ob k cb, .string d] 32)) := blk_below HBv2_4.out bw
    have HBv3_5 : Hid ((w5).heap[qv3]? = some (.cells #[.string ⟨#[]⟩, .slice none 0 0, .slice none 0 0, .int .i64 0, .slice none 0 0, .string ⟨#[]⟩, .int .i64 0] 34)) := blk_below HBv3_4.out bw
    have HOX_5 : Hid ((w5).ownsRow w.heap.size 9 1 (.slice oX vl.length pX) vl.length (vl.map Value.string)) := owns_wide ownX hb4.size
    have LOX : Hid (∀ g, (Value.ownBlock (.slice oX vl.length pX)) = some g → (w4).heap.size ≤ g) := fun g hg => owns_ge ownX hg
    have HIX : Hid (∀ g, (Value.ownBlock (.slice oX vl.length pX)) = some g → g < (w5).heap.size) := fun g hg => owns_lt ownX hg
    clear ownX
    clear hb4 HBv1_4 HBv2_4 HBv3_4 bw
    clear cv2_1
    go_upto_region 4 with fail
    have HSS : Hid (∀ W, Below w5.heap.size w5 W → W.heap[qv1]? = some (.cells #[.int .i64 m, .string p, .slice oa n cap, .string b] 38) ∧ W.heap[qv2]? = some (.cells #[.int .i64 st, .slice ob k cb, .string d] 32)) := fun W h => ⟨blk_below HBv1_5.out h, blk_below HBv2_5.out h⟩
    go_cut [9] (fun sx wx => ∃ (q : Nat) (oY : Option Addr) (pY : Nat) (oG : Option Addr) (pG : Nat), sx = .pointer (some ⟨q, 0, none⟩) ∧ Hid (Below w5.heap.size w5 wx ∧ wx.heap[q]? = some (.cells #[.string p, .slice oX vl.length pX, .slice oY yl.length pY, .int .i64 st, .slice oG k pG, .string d, .int .i64 t] 34) ∧ w5.heap.size ≤ q ∧ (wx).ownsRow w5.heap.size 9 1 (.slice oY yl.length pY) yl.length (yl.map Value.string) ∧ (wx).ownsRow w5.heap.size 75 2 (.slice oG k pG) k (flatF gs)))
    case first =>
      refine wp_region_held_drew (S := fun W => W.heap[qv1]? = some (.cells #[.int .i64 m, .string p, .slice oa n cap, .string b] 38) ∧ W.heap[qv2]? = some (.cells #[.int .i64 st, .slice ob k cb, .string d] 32)) (by kernel_rfl) (HSS.out _ (Below.refl _ _).drew) (fun _ => ?_)
      obtain ⟨w6, hX⟩ : ∃ X, X = w5.drew := ⟨_, rfl⟩
      have bw : Below w5.heap.size w5 w6 := by rw [hX]; exact (Below.refl _ _).drew
      rw [← hX]
      have hb6 : Below w.heap.size w (w6) := hb5.trans (bw.mono hb5.size)
      have HM6 : Hid ((w5).heap.size ≤ (w6).heap.size) := bw.size
      have HOX_6 : Hid ((w6).ownsRow w.heap.size 9 1 (.slice oX vl.length pX) vl.length (vl.map Value.string)) := owns_below HOX_5.out bw (fun g hg => owns_lt HOX_5.out hg)
      have HBv1_6 : Hid ((w6).heap[qv1]? = some (.cells #[.int .i64 m, .string p, .slice oa n cap, .string b] 38)) := blk_below HBv1_5.out bw
      have HBv2_6 : Hid ((w6).heap[qv2]? = some (.cells #[.int .i64 st, .slice ob k cb, .string d] 32)) := blk_below HBv2_5.out bw
      have HBv3_6 : Hid ((w6).heap[qv3]? = some (.cells #[.string ⟨#[]⟩, .slice none 0 0, .slice none 0 0, .int .i64 0, .slice none 0 0, .string ⟨#[]⟩, .int .i64 0] 34)) := blk_below HBv3_5.out bw
      have HX_6 : Hid (Below w5.heap.size w5 w6) := bw
      clear bw hX
      refine wpAnyH_takeD (i := 0) (v := .pointer (some ⟨qv1, 1, none⟩)) (some 18) rfl rfl (by kernel_rfl) (by kernel_rfl) (by kernel_rfl) (fun _ _ _ h => h) (Or.inl ⟨by rfl, by intro W _; go_simp⟩) (HSS.out _ HX_6.out) ?_
      simp only [Act.put, List.setIfInBounds_toArray, List.set_cons_zero, List.set_cons_succ]
      refine wpAnyH_takeD (i := 1) (v := .string p) (some 19) rfl rfl (by kernel_rfl) (by kernel_rfl) (by kernel_rfl) (fun _ _ _ h => h) (Or.inl ⟨by rfl, by intro W hW; obtain ⟨hhv1, hhv2⟩ := hW; have y1 := (cell_of hhv1 1).trans rfl; go_simp⟩) (HSS.out _ HX_6.out) ?_
      simp only [Act.put, List.setIfInBounds_toArray, List.set_cons_zero, List.set_cons_succ]
      refine wpAnyH_takeD (i := 3) (v := .slice oX vl.length pX) (some 21) rfl rfl (by kernel_rfl) (by kernel_rfl) (by kernel_rfl) (fun _ _ _ h => h) (Or.inl ⟨by rfl, by intro W _; go_simp⟩) (HSS.out _ HX_6.out) ?_
      simp only [Act.put, List.setIfInBounds_toArray, List.set_cons_zero, List.set_cons_succ]
      refine wpAnyH_takeD (i := 4) (v := .slice oX vl.length pX) (some 22) rfl rfl (by kernel_rfl) (by kernel_rfl) (by kernel_rfl) (fun _ _ _ h => h) (Or.inl ⟨by rfl, by intro W _; go_simp⟩) (HSS.out _ HX_6.out) ?_
      simp only [Act.put, List.setIfInBounds_toArray, List.set_cons_zero, List.set_cons_succ]
      refine wpAnyH_takeD (i := 5) (v := .pointer (some ⟨qv1, 2, none⟩)) (some 23) rfl rfl (by kernel_rfl) (by kernel_rfl) (by kernel_rfl) (fun _ _ _ h => h) (Or.inl ⟨by rfl, by intro W _; go_simp⟩) (HSS.out _ HX_6.out) ?_
      simp only [Act.put, List.setIfInBounds_toArray, List.set_cons_zero, List.set_cons_succ]
      refine wpAnyH_takeD (i := 6) (v := .slice oa n cap) (some 24) rfl rfl (by kernel_rfl) (by kernel_rfl) (by kernel_rfl) (fun _ _ _ h => h) (Or.inl ⟨by rfl, by intro W hW; obtain ⟨hhv1, hhv2⟩ := hW; have y2 := (cell_of hhv1 2).trans rfl; go_simp⟩) (HSS.out _ HX_6.out) ?_
      simp only [Act.put, List.setIfInBounds_toArray, List.set_cons_zero, List.set_cons_succ]
      refine wpAnyH_takeD (i := 8) (v := .agg #[.int .i64 st, .slice ob k cb, .string d]) (some 26) rfl rfl (by kernel_rfl) (by kernel_rfl) (by kernel_rfl) (fun _ _ _ h => h) (Or.inl ⟨by rfl, by intro W hW; obtain ⟨hhv1, hhv2⟩ := hW; have y0 := (cell_of hhv2 0).trans rfl; have y1 := (cell_of hhv2 1).trans rfl; have y2 := (cell_of hhv2 2).trans rfl; go_simp⟩) (HSS.out _ HX_6.out) ?_
      simp only [Act.put, List.setIfInBounds_toArray, List.set_cons_zero, List.set_cons_succ]
      refine wpAnyH_takeD (i := 10) (v := .int .i64 t) (some 28) rfl rfl (by kernel_rfl) (by kernel_rfl) (by kernel_rfl) (fun _ _ _ h => h) (Or.inl ⟨by rfl, by intro W _; go_simp⟩) (HSS.out _ HX_6.out) ?_
      simp only [Act.put, List.setIfInBounds_toArray, List.set_cons_zero, List.set_cons_succ]
      refine wpAnyH_ready (rs := [2, 12]) (by kernel_rfl) (by simp) ?_
      refine AllReadyH.cons rfl (fun K hK => ?_) (AllReadyH.cons rfl (fun K hK => ?_) AllReadyH.nil)
      · go_simp
        refine (clone_any p _ (by have := HMK.out.1.1.2.1.2.2.1; omega)).mono ?_
        rintro e w7 ⟨rfl, bw⟩
        have hb7 : Below w.heap.size w (w7) := hb6.trans (bw.mono hb6.size)
        have HM7 : Hid ((w6).heap.size ≤ (w7).heap.size) := bw.size
        have HOX_7 : Hid ((w7).ownsRow w.heap.size 9 1 (.slice oX vl.length pX) vl.length (vl.map Value.string)) := owns_below HOX_6.out bw (fun g hg => owns_lt HOX_6.out hg)
        have HBv1_7 : Hid ((w7).heap[qv1]? = some (.cells #[.int .i64 m, .string p, .slice oa n cap, .string b] 38)) := blk_below HBv1_6.out bw
        have HBv2_7 : Hid ((w7).heap[qv2]? = some (.cells #[.int .i64 st, .slice ob k cb, .string d] 32)) := blk_below HBv2_6.out bw
        have HBv3_7 : Hid ((w7).heap[qv3]? = some (.cells #[.string ⟨#[]⟩, .slice none 0 0, .slice none 0 0, .int .i64 0, .slice none 0 0, .string ⟨#[]⟩, .int .i64 0] 34)) := blk_below HBv3_6.out bw
        clear hb6 HOX_6 HBv1_6 HBv2_6 HBv3_6
        have HX_7 : Hid (Below w5.heap.size w5 w7) := HX_6.out.trans (bw.mono HX_6.out.size)
        refine hK.out _ _ (HSS.out _ HX_7.out) (fun _ => ?_)
        clear hK K bw HX_6
        refine wpAnyH_ready (rs := [7, 12]) (by kernel_rfl) (by simp) ?_
        refine AllReadyH.cons rfl (fun K hK => ?_) (AllReadyH.cons rfl (fun K hK => ?_) AllReadyH.nil)
        · go_simp
          refine (implValuesOf_any _ _ _ vl _ n base fs _ (texts_view HOX_7.out) HVZ.out.1 (HV1.out _ hb7) (by omega) HC1.out).mono ?_
          rintro e w8 ⟨vv, rfl, ownY, bw⟩
          obtain ⟨oY, pY, rfl⟩ := slice_of_owns ownY
          rw [HYL.out] at ownY ⊢
          have hb8 : Below w.heap.size w (w8) := hb7.trans (bw.mono hb7.size)
          have HM8 : Hid ((w7).heap.size ≤ (w8).heap.size) := bw.size
          have HOX_8 : Hid ((w8).ownsRow w.heap.size 9 1 (.slice oX vl.length pX) vl.length (vl.map Value.string)) := owns_below HOX_7.out bw (fun g hg => owns_lt HOX_7.out hg)
          have HBv1_8 : Hid ((w8).heap[qv1]? = some (.cells #[.int .i64 m, .string p, .slice oa n cap, .string b] 38)) := blk_below HBv1_7.out bw
          have HBv2_8 : Hid ((w8).heap[qv2]? = some (.cells #[.int .i64 st, .slice ob k cb, .string d] 32)) := blk_below HBv2_7.out bw
          have HBv3_8 : Hid ((w8).heap[qv3]? = some (.cells #[.string ⟨#[]⟩, .slice none 0 0, .slice none 0 0, .int .i64 0, .slice none 0 0, .string ⟨#[]⟩, .int .i64 0] 34)) := blk_below HBv3_7.out bw
          have HOY_8 : Hid ((w8).ownsRow w.heap.size 9 1 (.slice oY yl.length pY) yl.length (yl.map Value.string)) := owns_wide ownY hb7.size
          have LOY : Hid (∀ g, (Value.ownBlock (.slice oY yl.length pY)) = some g → (w7).heap.size ≤ g) := fun g hg => owns_ge ownY hg
          have HIY : Hid (∀ g, (Value.ownBlock (.slice oY yl.length pY)) = some g → g < (w8).heap.size) := fun g hg => owns_lt ownY hg
          clear ownY
          clear hb7 HOX_7 HBv1_7 HBv2_7 HBv3_7
          have HX_8 : Hid (Below w5.heap.size w5 w8) := HX_7.out.trans (bw.mono HX_7.out.size)
          have HRXY_8 : Hid ((w8).ownsRow w5.heap.size 9 1 (.slice oY yl.length pY) yl.length (yl.map Value.string)) := owns_lift HOY_8.out (fun g hg => Nat.le_trans HX_7.out.size (LOY.out g hg))
          refine hK.out _ _ (HSS.out _ HX_8.out) (fun _ => ?_)
          clear hK K bw HX_7
          refine wpAnyH_ready (rs := [9, 12]) (by kernel_rfl) (by simp) ?_
          refine AllReadyH.cons rfl (fun K hK => ?_) (AllReadyH.cons rfl (fun K hK => ?_) AllReadyH.nil)
          · go_simp
            refine (copiedAnswer_any st _ d k base2 gs _ (HV2.out _ hb8) (by omega) HC2.out (by have := HMK.out.1.2.1.2.2; omega)).mono ?_
            rintro e w9 ⟨vv, rfl, ownG, bw⟩
            obtain ⟨oG, pG, rfl⟩ := slice_of_owns ownG
            rw [HLG.out] at ownG ⊢
            have hb9 : Below w.heap.size w (w9) := hb8.trans (bw.mono hb8.size)
            have HM9 : Hid ((w8).heap.size ≤ (w9).heap.size) := bw.size
            have HOX_9 : Hid ((w9).ownsRow w.heap.size 9 1 (.slice oX vl.length pX) vl.length (vl.map Value.string)) := owns_below HOX_8.out bw (fun g hg => owns_lt HOX_8.out hg)
            have HOY_9 : Hid ((w9).ownsRow w.heap.size 9 1 (.slice oY yl.length pY) yl.length (yl.map Value.string)) := owns_below HOY_8.out bw (fun g hg => owns_lt HOY_8.out hg)
            have HBv1_9 : Hid ((w9).heap[qv1]? = some (.cells #[.int .i64 m, .string p, .slice oa n cap, .string b] 38)) := blk_below HBv1_8.out bw
            have HBv2_9 : Hid ((w9).heap[qv2]? = some (.cells #[.int .i64 st, .slice ob k cb, .string d] 32)) := blk_below HBv2_8.out bw
            have HBv3_9 : Hid ((w9).heap[qv3]? = some (.cells #[.string ⟨#[]⟩, .slice none 0 0, .slice none 0 0, .int .i64 0, .slice none 0 0, .string ⟨#[]⟩, .int .i64 0] 34)) := blk_below HBv3_8.out bw
            have HOG_9 : Hid ((w9).ownsRow w.heap.size 75 2 (.slice oG k pG) k (flatF gs)) := owns_wide ownG hb8.size
            have LOG : Hid (∀ g, (Value.ownBlock (.slice oG k pG)) = some g → (w8).heap.size ≤ g) := fun g hg => owns_ge ownG hg
            have HIG : Hid (∀ g, (Value.ownBlock (.slice oG k pG)) = some g → g < (w9).heap.size) := fun g hg => owns_lt ownG hg
            clear ownG
            clear hb8 HOX_8 HOY_8 HBv1_8 HBv2_8 HBv3_8
            have HX_9 : Hid (Below w5.heap.size w5 w9) := HX_8.out.trans (bw.mono HX_8.out.size)
            have HRXY_9 : Hid ((w9).ownsRow w5.heap.size 9 1 (.slice oY yl.length pY) yl.length (yl.map Value.string)) := owns_below HRXY_8.out bw (fun g hg => owns_lt HRXY_8.out hg)
            have HRXG_9 : Hid ((w9).ownsRow w5.heap.size 75 2 (.slice oG k pG) k (flatF gs)) := owns_lift HOG_9.out (fun g hg => Nat.le_trans HX_8.out.size (LOG.out g hg))
            refine hK.out _ _ (HSS.out _ HX_9.out) (fun _ => ?_)
            clear hK K bw HX_8
            refine wpAnyH_takeD (i := 11) (v := .agg #[.string p, .slice oX vl.length pX, .slice oY yl.length pY, .int .i64 st, .slice oG k pG, .string d, .int .i64 t]) (some 29) rfl rfl (by kernel_rfl) (by kernel_rfl) (by kernel_rfl) (fun _ _ _ h => h) (Or.inl ⟨by rfl, by intro W _; go_simp⟩) (HSS.out _ HX_9.out) ?_
            simp only [Act.put, List.setIfInBounds_toArray, List.set_cons_zero, List.set_cons_succ]
            refine wpAnyH_ready (rs := [12]) (by kernel_rfl) (by simp) ?_
            refine AllReadyH.cons rfl (fun K hK => ?_) AllReadyH.nil
            go_simp
            have HXA : Hid (Below w5.heap.size w5 (w9.alloc (.cells #[.string ⟨#[]⟩, .slice none 0 0, .slice none 0 0, .int .i64 0, .slice none 0 0, .string ⟨#[]⟩, .int .i64 0] 34))) := HX_9.out.alloc HX_9.out.size _
            refine hK.out _ _ (HSS.out _ HXA.out) (fun _ => ?_)
            clear hK K HXA
            obtain ⟨pa, ho⟩ : ∃ o, o = w9.heap.size := ⟨_, rfl⟩
            obtain ⟨w10, hXj⟩ : ∃ X, X = w9.alloc (.cells #[.string ⟨#[]⟩, .slice none 0 0, .slice none 0 0, .int .i64 0, .slice none 0 0, .string ⟨#[]⟩, .int .i64 0] 34) := ⟨_, rfl⟩
            rw [← ho, ← hXj]
            have HGA : Hid (w5.heap.size ≤ pa) := by show _ ≤ _; rw [ho]; exact HX_9.out.size
            have bw : Below w9.heap.size w9 w10 := by rw [hXj]; exact (Below.refl _ _).alloc (Nat.le_refl _) _
            have hb10 : Below w.heap.size w (w10) := hb9.trans (bw.mono hb9.size)
            have HM10 : Hid ((w9).heap.size ≤ (w10).heap.size) := bw.size
            have HOX_10 : Hid ((w10).ownsRow w.heap.size 9 1 (.slice oX vl.length pX) vl.length (vl.map Value.string)) := owns_below HOX_9.out bw (fun g hg => owns_lt HOX_9.out hg)
            have HOY_10 : Hid ((w10).ownsRow w.heap.size 9 1 (.slice oY yl.length pY) yl.length (yl.map Value.string)) := owns_below HOY_9.out bw (fun g hg => owns_lt HOY_9.out hg)
            have HOG_10 : Hid ((w10).ownsRow w.heap.size 75 2 (.slice oG k pG) k (flatF gs)) := owns_below HOG_9.out bw (fun g hg => owns_lt HOG_9.out hg)
            have HBv1_10 : Hid ((w10).heap[qv1]? = some (.cells #[.int .i64 m, .string p, .slice oa n cap, .string b] 38)) := blk_below HBv1_9.out bw
            have HBv2_10 : Hid ((w10).heap[qv2]? = some (.cells #[.int .i64 st, .slice ob k cb, .string d] 32)) := blk_below HBv2_9.out bw
            have HBv3_10 : Hid ((w10).heap[qv3]? = some (.cells #[.string ⟨#[]⟩, .slice none 0 0, .slice none 0 0, .int .i64 0, .slice none 0 0, .string ⟨#[]⟩, .int .i64 0] 34)) := blk_below HBv3_9.out bw
            have HX_10 : Hid (Below w5.heap.size w5 w10) := HX_9.out.trans (bw.mono HX_9.out.size)
            have HRXY_10 : Hid ((w10).ownsRow w5.heap.size 9 1 (.slice oY yl.length pY) yl.length (yl.map Value.string)) := owns_below HRXY_9.out bw (fun g hg => owns_lt HRXY_9.out hg)
            have HRXG_10 : Hid ((w10).ownsRow w5.heap.size 75 2 (.slice oG k pG) k (flatF gs)) := owns_below HRXG_9.out bw (fun g hg => owns_lt HRXG_9.out hg)
            have HPA_10 : Hid (w10.heap[pa]? = some (.cells #[.string ⟨#[]⟩, .slice none 0 0, .slice none 0 0, .int .i64 0, .slice none 0 0, .string ⟨#[]⟩, .int .i64 0] 34)) := by show _ = _; rw [hXj, ho]; exact heap_alloc_new _ _
            clear hb9 HOX_9 HOY_9 HOG_9 HBv1_9 HBv2_9 HBv3_9 bw ho hXj HX_9
            refine wpAnyH_ready (rs := [13]) (by kernel_rfl) (by simp) ?_
            refine AllReadyH.cons rfl (fun K hK => ?_) AllReadyH.nil
            have ce0 : w10.cell? ⟨pa, 0, none⟩ = some (.string ⟨#[]⟩) := (cell_of HPA_10.out 0).trans rfl
            have fe0 : w10.frozen? ⟨pa, 0, none⟩ = false := frozen_of HPA_10.out 0
            have ce1 : w10.cell? ⟨pa, 1, none⟩ = some (.slice none 0 0) := (cell_of HPA_10.out 1).trans rfl
            have fe1 : w10.frozen? ⟨pa, 1, none⟩ = false := frozen_of HPA_10.out 1
            have ce2 : w10.cell? ⟨pa, 2, none⟩ = some (.slice none 0 0) := (cell_of HPA_10.out 2).trans rfl
            have fe2 : w10.frozen? ⟨pa, 2, none⟩ = false := frozen_of HPA_10.out 2
            have ce3 : w10.cell? ⟨pa, 3, none⟩ = some (.int .i64 0) := (cell_of HPA_10.out 3).trans rfl
            have fe3 : w10.frozen? ⟨pa, 3, none⟩ = false := frozen_of HPA_10.out 3
            have ce4 : w10.cell? ⟨pa, 4, none⟩ = some (.slice none 0 0) := (cell_of HPA_10.out 4).trans rfl
            have fe4 : w10.frozen? ⟨pa, 4, none⟩ = false := frozen_of HPA_10.out 4
            have ce5 : w10.cell? ⟨pa, 5, none⟩ = some (.string ⟨#[]⟩) := (cell_of HPA_10.out 5).trans rfl
            have fe5 : w10.frozen? ⟨pa, 5, none⟩ = false := frozen_of HPA_10.out 5
            have ce6 : w10.cell? ⟨pa, 6, none⟩ = some (.int .i64 0) := (cell_of HPA_10.out 6).trans rfl
            have fe6 : w10.frozen? ⟨pa, 6, none⟩ = false := frozen_of HPA_10.out 6
            obtain ⟨w11, hY⟩ : ∃ Y, Y = (((((((w10.setCell ⟨pa, 0, none⟩ (.string p)).setCell ⟨pa, 1, none⟩ (.slice oX vl.length pX)).setCell ⟨pa, 2, none⟩ (.slice oY yl.length pY)).setCell ⟨pa, 3, none⟩ (.int .i64 st)).setCell ⟨pa, 4, none⟩ (.slice oG k pG)).setCell ⟨pa, 5, none⟩ (.string d)).setCell ⟨pa, 6, none⟩ (.int .i64 t)) := ⟨_, rfl⟩
            have HY : Hid ((((((((w10.setCell ⟨pa, 0, none⟩ (.string p)).setCell ⟨pa, 1, none⟩ (.slice oX vl.length pX)).setCell ⟨pa, 2, none⟩ (.slice oY yl.length pY)).setCell ⟨pa, 3, none⟩ (.int .i64 st)).setCell ⟨pa, 4, none⟩ (.slice oG k pG)).setCell ⟨pa, 5, none⟩ (.string d)).setCell ⟨pa, 6, none⟩ (.int .i64 t)) = w11) := hY.symm
            have HX_11 : Hid (Below w5.heap.size w5 w11) := by show Below _ _ _; rw [hY]; exact (((((((HX_10.out.setCell (p := ⟨pa, 0, none⟩) HGA.out _).setCell (p := ⟨pa, 1, none⟩) HGA.out _).setCell (p := ⟨pa, 2, none⟩) HGA.out _).setCell (p := ⟨pa, 3, none⟩) HGA.out _).setCell (p := ⟨pa, 4, none⟩) HGA.out _).setCell (p := ⟨pa, 5, none⟩) HGA.out _).setCell (p := ⟨pa, 6, none⟩) HGA.out _)
            have HPA_11 : Hid (w11.heap[pa]? = some (.cells #[.string p, .slice oX vl.length pX, .slice oY yl.length pY, .int .i64 st, .slice oG k pG, .string d, .int .i64 t] 34)) := by show _ = _; rw [hY]; have h := (heap_set _ pa 6 _ _ _ (.int .i64 t) (heap_set _ pa 5 _ _ _ (.string d) (heap_set _ pa 4 _ _ _ (.slice oG k pG) (heap_set _ pa 3 _ _ _ (.int .i64 st) (heap_set _ pa 2 _ _ _ (.slice oY yl.length pY) (heap_set _ pa 1 _ _ _ (.slice oX vl.length pX) (heap_set _ pa 0 _ _ _ (.string p) HPA_10.out))))))); simpa using h
            have HRXY_11 : Hid ((w11).ownsRow w5.heap.size 9 1 (.slice oY yl.length pY) yl.length (yl.map Value.string)) := by show World.ownsRow _ _ _ _ _ _ _; rw [hY]; exact owns_same HRXY_10.out (fun g hg => by have hne := own_ne HRXY_10.out HPA_10.out (by decide) g hg; rw [heap_setCell_other _ _ g _ hne, heap_setCell_other _ _ g _ hne, heap_setCell_other _ _ g _ hne, heap_setCell_other _ _ g _ hne, heap_setCell_other _ _ g _ hne, heap_setCell_other _ _ g _ hne, heap_setCell_other _ _ g _ hne])
            have HRXG_11 : Hid ((w11).ownsRow w5.heap.size 75 2 (.slice oG k pG) k (flatF gs)) := by show World.ownsRow _ _ _ _ _ _ _; rw [hY]; exact owns_same HRXG_10.out (fun g hg => by have hne := own_ne HRXG_10.out HPA_10.out (by decide) g hg; rw [heap_setCell_other _ _ g _ hne, heap_setCell_other _ _ g _ hne, heap_setCell_other _ _ g _ hne, heap_setCell_other _ _ g _ hne, heap_setCell_other _ _ g _ hne, heap_setCell_other _ _ g _ hne, heap_setCell_other _ _ g _ hne])
            clear hY hb10 HOX_10 HOY_10 HOG_10 HBv1_10 HBv2_10 HBv3_10
            go_simp
            rw [HY.out]
            refine hK.out _ _ (HSS.out _ HX_11.out) (fun _ => ?_)
            clear hK K HY ce0 fe0 ce1 fe1 ce2 fe2 ce3 fe3 ce4 fe4 ce5 fe5 ce6 fe6
            refine wpAnyH_done (by kernel_rfl) ?_ _
            go_wp2_with fail
            go_meet
            exact ⟨pa, oY, pY, oG, pG, rfl, ⟨HX_11.out, HPA_11.out, HGA.out, HRXY_11.out, HRXG_11.out⟩⟩
          · go_simp
            have HXA : Hid (Below w5.heap.size w5 (w8.alloc (.cells #[.string ⟨#[]⟩, .slice none 0 0, .slice none 0 0, .int .i64 0, .slice none 0 0, .string ⟨#[]⟩, .int .i64 0] 34))) := HX_8.out.alloc HX_8.out.size _
            refine hK.out _ _ (HSS.out _ HXA.out) (fun _ => ?_)
            clear hK K HXA
            obtain ⟨pa, ho⟩ : ∃ o, o = w8.heap.size := ⟨_, rfl⟩
            obtain ⟨w9, hXj⟩ : ∃ X, X = w8.alloc (.cells #[.string ⟨#[]⟩, .slice none 0 0, .slice none 0 0, .int .i64 0, .slice none 0 0, .string ⟨#[]⟩, .int .i64 0] 34) := ⟨_, rfl⟩
            rw [← ho, ← hXj]
            have HGA : Hid (w5.heap.size ≤ pa) := by show _ ≤ _; rw [ho]; exact HX_8.out.size
            have bw : Below w8.heap.size w8 w9 := by rw [hXj]; exact (Below.refl _ _).alloc (Nat.le_refl _) _
            have hb9 : Below w.heap.size w (w9) := hb8.trans (bw.mono hb8.size)
            have HM9 : Hid ((w8).heap.size ≤ (w9).heap.size) := bw.size
            have HOX_9 : Hid ((w9).ownsRow w.heap.size 9 1 (.slice oX vl.length pX) vl.length (vl.map Value.string)) := owns_below HOX_8.out bw (fun g hg => owns_lt HOX_8.out hg)
            have HOY_9 : Hid ((w9).ownsRow w.heap.size 9 1 (.slice oY yl.length pY) yl.length (yl.map Value.string)) := owns_below HOY_8.out bw (fun g hg => owns_lt HOY_8.out hg)
            have HBv1_9 : Hid ((w9).heap[qv1]? = some (.cells #[.int .i64 m, .string p, .slice oa n cap, .string b] 38)) := blk_below HBv1_8.out bw
            have HBv2_9 : Hid ((w9).heap[qv2]? = some (.cells #[.int .i64 st, .slice ob k cb, .string d] 32)) := blk_below HBv2_8.out bw
            have HBv3_9 : Hid ((w9).heap[qv3]? = some (.cells #[.string ⟨#[]⟩, .slice none 0 0, .slice none 0 0, .int .i64 0, .slice none 0 0, .string ⟨#[]⟩, .int .i64 0] 34)) := blk_below HBv3_8.out bw
            have HX_9 : Hid (Below w5.heap.size w5 w9) := HX_8.out.trans (bw.mono HX_8.out.size)
            have HRXY_9 : Hid ((w9).ownsRow w5.heap.size 9 1 (.slice oY yl.length pY) yl.length (yl.map Value.string)) := owns_below HRXY_8.out bw (fun g hg => owns_lt HRXY_8.out hg)
            have HPA_9 : Hid (w9.heap[pa]? = some (.cells #[.string ⟨#[]⟩, .slice none 0 0, .slice none 0 0, .int .i64 0, .slice none 0 0, .string ⟨#[]⟩, .int .i64 0] 34)) := by show _ = _; rw [hXj, ho]; exact heap_alloc_new _ _
            clear hb8 HOX_8 HOY_8 HBv1_8 HBv2_8 HBv3_8 bw ho hXj HX_8
            refine wpAnyH_ready (rs := [9]) (by kernel_rfl) (by simp) ?_
            refine AllReadyH.cons rfl (fun K hK => ?_) AllReadyH.nil
            go_simp
            refine (copiedAnswer_any st _ d k base2 gs _ (HV2.out _ hb9) (by omega) HC2.out (by have := HMK.out.1.2.1.2.2; omega)).mono ?_
            rintro e w10 ⟨vv, rfl, ownG, bw⟩
            obtain ⟨oG, pG, rfl⟩ := slice_of_owns ownG
            rw [HLG.out] at ownG ⊢
            have hb10 : Below w.heap.size w (w10) := hb9.trans (bw.mono hb9.size)
            have HM10 : Hid ((w9).heap.size ≤ (w10).heap.size) := bw.size
            have HOX_10 : Hid ((w10).ownsRow w.heap.size 9 1 (.slice oX vl.length pX) vl.length (vl.map Value.string)) := owns_below HOX_9.out bw (fun g hg => owns_lt HOX_9.out hg)
            have HOY_10 : Hid ((w10).ownsRow w.heap.size 9 1 (.slice oY yl.length pY) yl.length (yl.map Value.string)) := owns_below HOY_9.out bw (fun g hg => owns_lt HOY_9.out hg)
            have HBv1_10 : Hid ((w10).heap[qv1]? = some (.cells #[.int .i64 m, .string p, .slice oa n cap, .string b] 38)) := blk_below HBv1_9.out bw
            have HBv2_10 : Hid ((w10).heap[qv2]? = some (.cells #[.int .i64 st, .slice ob k cb, .string d] 32)) := blk_below HBv2_9.out bw
            have HBv3_10 : Hid ((w10).heap[qv3]? = some (.cells #[.string ⟨#[]⟩, .slice none 0 0, .slice none 0 0, .int .i64 0, .slice none 0 0, .string ⟨#[]⟩, .int .i64 0] 34)) := blk_below HBv3_9.out bw
            have HOG_10 : Hid ((w10).ownsRow w.heap.size 75 2 (.slice oG k pG) k (flatF gs)) := owns_wide ownG hb9.size
            have LOG : Hid (∀ g, (Value.ownBlock (.slice oG k pG)) = some g → (w9).heap.size ≤ g) := fun g hg => owns_ge ownG hg
            have HIG : Hid (∀ g, (Value.ownBlock (.slice oG k pG)) = some g → g < (w10).heap.size) := fun g hg => owns_lt ownG hg
            clear ownG
            clear hb9 HOX_9 HOY_9 HBv1_9 HBv2_9 HBv3_9
            have HX_10 : Hid (Below w5.heap.size w5 w10) := HX_9.out.trans (bw.mono HX_9.out.size)
            have HPA_10 : Hid (w10.heap[pa]? = some (.cells #[.string ⟨#[]⟩, .slice none 0 0, .slice none 0 0, .int .i64 0, .slice none 0 0, .string ⟨#[]⟩, .int .i64 0] 34)) := blk_below HPA_9.out bw
            have HRXY_10 : Hid ((w10).ownsRow w5.heap.size 9 1 (.slice oY yl.length pY) yl.length (yl.map Value.string)) := owns_below HRXY_9.out bw (fun g hg => owns_lt HRXY_9.out hg)
            have HRXG_10 : Hid ((w10).ownsRow w5.heap.size 75 2 (.slice oG k pG) k (flatF gs)) := owns_lift HOG_10.out (fun g hg => Nat.le_trans HX_9.out.size (LOG.out g hg))
            refine hK.out _ _ (HSS.out _ HX_10.out) (fun _ => ?_)
            clear hK K bw HX_9
            refine wpAnyH_takeD (i := 11) (v := .agg #[.string p, .slice oX vl.length pX, .slice oY yl.length pY, .int .i64 st, .slice oG k pG, .string d, .int .i64 t]) (some 29) rfl rfl (by kernel_rfl) (by kernel_rfl) (by kernel_rfl) (fun _ _ _ h => h) (Or.inl ⟨by rfl, by intro W _; go_simp⟩) (HSS.out _ HX_10.out) ?_
            simp only [Act.put, List.setIfInBounds_toArray, List.set_cons_zero, List.set_cons_succ]
            refine wpAnyH_ready (rs := [13]) (by kernel_rfl) (by simp) ?_
            refine AllReadyH.cons rfl (fun K hK => ?_) AllReadyH.nil
            have ce0 : w10.cell? ⟨pa, 0, none⟩ = some (.string ⟨#[]⟩) := (cell_of HPA_10.out 0).trans rfl
            have fe0 : w10.frozen? ⟨pa, 0, none⟩ = false := frozen_of HPA_10.out 0
            have ce1 : w10.cell? ⟨pa, 1, none⟩ = some (.slice none 0 0) := (cell_of HPA_10.out 1).trans rfl
            have fe1 : w10.frozen? ⟨pa, 1, none⟩ = false := frozen_of HPA_10.out 1
            have ce2 : w10.cell? ⟨pa, 2, none⟩ = some (.slice none 0 0) := (cell_of HPA_10.out 2).trans rfl
            have fe2 : w10.frozen? ⟨pa, 2, none⟩ = false := frozen_of HPA_10.out 2
            have ce3 : w10.cell? ⟨pa, 3, none⟩ = some (.int .i64 0) := (cell_of HPA_10.out 3).trans rfl
            have fe3 : w10.frozen? ⟨pa, 3, none⟩ = false := frozen_of HPA_10.out 3
            have ce4 : w10.cell? ⟨pa, 4, none⟩ = some (.slice none 0 0) := (cell_of HPA_10.out 4).trans rfl
            have fe4 : w10.frozen? ⟨pa, 4, none⟩ = false := frozen_of HPA_10.out 4
            have ce5 : w10.cell? ⟨pa, 5, none⟩ = some (.string ⟨#[]⟩) := (cell_of HPA_10.out 5).trans rfl
            have fe5 : w10.frozen? ⟨pa, 5, none⟩ = false := frozen_of HPA_10.out 5
            have ce6 : w10.cell? ⟨pa, 6, none⟩ = some (.int .i64 0) := (cell_of HPA_10.out 6).trans rfl
            have fe6 : w10.frozen? ⟨pa, 6, none⟩ = false := frozen_of HPA_10.out 6
            obtain ⟨w11, hY⟩ : ∃ Y, Y = (((((((w10.setCell ⟨pa, 0, none⟩ (.string p)).setCell ⟨pa, 1, none⟩ (.slice oX vl.length pX)).setCell ⟨pa, 2, none⟩ (.slice oY yl.length pY)).setCell ⟨pa, 3, none⟩ (.int .i64 st)).setCell ⟨pa, 4, none⟩ (.slice oG k pG)).setCell ⟨pa, 5, none⟩ (.string d)).setCell ⟨pa, 6, none⟩ (.int .i64 t)) := ⟨_, rfl⟩
            have HY : Hid ((((((((w10.setCell ⟨pa, 0, none⟩ (.string p)).setCell ⟨pa, 1, none⟩ (.slice oX vl.length pX)).setCell ⟨pa, 2, none⟩ (.slice oY yl.length pY)).setCell ⟨pa, 3, none⟩ (.int .i64 st)).setCell ⟨pa, 4, none⟩ (.slice oG k pG)).setCell ⟨pa, 5, none⟩ (.string d)).setCell ⟨pa, 6, none⟩ (.int .i64 t)) = w11) := hY.symm
            have HX_11 : Hid (Below w5.heap.size w5 w11) := by show Below _ _ _; rw [hY]; exact (((((((HX_10.out.setCell (p := ⟨pa, 0, none⟩) HGA.out _).setCell (p := ⟨pa, 1, none⟩) HGA.out _).setCell (p := ⟨pa, 2, none⟩) HGA.out _).setCell (p := ⟨pa, 3, none⟩) HGA.out _).setCell (p := ⟨pa, 4, none⟩) HGA.out _).setCell (p := ⟨pa, 5, none⟩) HGA.out _).setCell (p := ⟨pa, 6, none⟩) HGA.out _)
            have HPA_11 : Hid (w11.heap[pa]? = some (.cells #[.string p, .slice oX vl.length pX, .slice oY yl.length pY, .int .i64 st, .slice oG k pG, .string d, .int .i64 t] 34)) := by show _ = _; rw [hY]; have h := (heap_set _ pa 6 _ _ _ (.int .i64 t) (heap_set _ pa 5 _ _ _ (.string d) (heap_set _ pa 4 _ _ _ (.slice oG k pG) (heap_set _ pa 3 _ _ _ (.int .i64 st) (heap_set _ pa 2 _ _ _ (.slice oY yl.length pY) (heap_set _ pa 1 _ _ _ (.slice oX vl.length pX) (heap_set _ pa 0 _ _ _ (.string p) HPA_10.out))))))); simpa using h
            have HRXY_11 : Hid ((w11).ownsRow w5.heap.size 9 1 (.slice oY yl.length pY) yl.length (yl.map Value.string)) := by show World.ownsRow _ _ _ _ _ _ _; rw [hY]; exact owns_same HRXY_10.out (fun g hg => by have hne := own_ne HRXY_10.out HPA_10.out (by decide) g hg; rw [heap_setCell_other _ _ g _ hne, heap_setCell_other _ _ g _ hne, heap_setCell_other _ _ g _ hne, heap_setCell_other _ _ g _ hne, heap_setCell_other _ _ g _ hne, heap_setCell_other _ _ g _ hne, heap_setCell_other _ _ g _ hne])
            have HRXG_11 : Hid ((w11).ownsRow w5.heap.size 75 2 (.slice oG k pG) k (flatF gs)) := by show World.ownsRow _ _ _ _ _ _ _; rw [hY]; exact owns_same HRXG_10.out (fun g hg => by have hne := own_ne HRXG_10.out HPA_10.out (by decide) g hg; rw [heap_setCell_other _ _ g _ hne, heap_setCell_other _ _ g _ hne, heap_setCell_other _ _ g _ hne, heap_setCell_other _ _ g _ hne, heap_setCell_other _ _ g _ hne, heap_setCell_other _ _ g _ hne, heap_setCell_other _ _ g _ hne])
            clear hY hb10 HOX_10 HOY_10 HOG_10 HBv1_10 HBv2_10 HBv3_10
            go_simp
            rw [HY.out]
            refine hK.out _ _ (HSS.out _ HX_11.out) (fun _ => ?_)
            clear hK K HY ce0 fe0 ce1 fe1 ce2 fe2 ce3 fe3 ce4 fe4 ce5 fe5 ce6 fe6
            refine wpAnyH_done (by kernel_rfl) ?_ _
            go_wp2_with fail
            go_meet
            exact ⟨pa, oY, pY, oG, pG, rfl, ⟨HX_11.out, HPA_11.out, HGA.out, HRXY_11.out, HRXG_11.out⟩⟩
        · go_simp
          have HXA : Hid (Below w5.heap.size w5 (w7.alloc (.cells #[.string ⟨#[]⟩, .slice none 0 0, .slice none 0 0, .int .i64 0, .slice none 0 0, .string ⟨#[]⟩, .int .i64 0] 34))) := HX_7.out.alloc HX_7.out.size _
          refine hK.out _ _ (HSS.out _ HXA.out) (fun _ => ?_)
          clear hK K HXA
          obtain ⟨pa, ho⟩ : ∃ o, o = w7.heap.size := ⟨_, rfl⟩
          obtain ⟨w8, hXj⟩ : ∃ X, X = w7.alloc (.cells #[.string ⟨#[]⟩, .slice none 0 0, .slice none 0 0, .int .i64 0, .slice none 0 0, .string ⟨#[]⟩, .int .i64 0] 34) := ⟨_, rfl⟩
          rw [← ho, ← hXj]
          have HGA : Hid (w5.heap.size ≤ pa) := by show _ ≤ _; rw [ho]; exact HX_7.out.size
          have bw : Below w7.heap.size w7 w8 := by rw [hXj]; exact (Below.refl _ _).alloc (Nat.le_refl _) _
          have hb8 : Below w.heap.size w (w8) := hb7.trans (bw.mono hb7.size)
          have HM8 : Hid ((w7).heap.size ≤ (w8).heap.size) := bw.size
          have HOX_8 : Hid ((w8).ownsRow w.heap.size 9 1 (.slice oX vl.length pX) vl.length (vl.map Value.string)) := owns_below HOX_7.out bw (fun g hg => owns_lt HOX_7.out hg)
          have HBv1_8 : Hid ((w8).heap[qv1]? = some (.cells #[.int .i64 m, .string p, .slice oa n cap, .string b] 38)) := blk_below HBv1_7.out bw
          have HBv2_8 : Hid ((w8).heap[qv2]? = some (.cells #[.int .i64 st, .slice ob k cb, .string d] 32)) := blk_below HBv2_7.out bw
          have HBv3_8 : Hid ((w8).heap[qv3]? = some (.cells #[.string ⟨#[]⟩, .slice none 0 0, .slice none 0 0, .int .i64 0, .slice none 0 0, .string ⟨#[]⟩, .int .i64 0] 34)) := blk_below HBv3_7.out bw
          have HX_8 : Hid (Below w5.heap.size w5 w8) := HX_7.out.trans (bw.mono HX_7.out.size)
          have HPA_8 : Hid (w8.heap[pa]? = some (.cells #[.string ⟨#[]⟩, .slice none 0 0, .slice none 0 0, .int .i64 0, .slice none 0 0, .string ⟨#[]⟩, .int .i64 0] 34)) := by show _ = _; rw [hXj, ho]; exact heap_alloc_new _ _
          clear hb7 HOX_7 HBv1_7 HBv2_7 HBv3_7 bw ho hXj HX_7
          refine wpAnyH_ready (rs := [7]) (by kernel_rfl) (by simp) ?_
          refine AllReadyH.cons rfl (fun K hK => ?_) AllReadyH.nil
          go_simp
          refine (implValuesOf_any _ _ _ vl _ n base fs _ (texts_view HOX_8.out) HVZ.out.1 (HV1.out _ hb8) (by omega) HC1.out).mono ?_
          rintro e w9 ⟨vv, rfl, ownY, bw⟩
          obtain ⟨oY, pY, rfl⟩ := slice_of_owns ownY
          rw [HYL.out] at ownY ⊢
          have hb9 : Below w.heap.size w (w9) := hb8.trans (bw.mono hb8.size)
          have HM9 : Hid ((w8).heap.size ≤ (w9).heap.size) := bw.size
          have HOX_9 : Hid ((w9).ownsRow w.heap.size 9 1 (.slice oX vl.length pX) vl.length (vl.map Value.string)) := owns_below HOX_8.out bw (fun g hg => owns_lt HOX_8.out hg)
          have HBv1_9 : Hid ((w9).heap[qv1]? = some (.cells #[.int .i64 m, .string p, .slice oa n cap, .string b] 38)) := blk_below HBv1_8.out bw
          have HBv2_9 : Hid ((w9).heap[qv2]? = some (.cells #[.int .i64 st, .slice ob k cb, .string d] 32)) := blk_below HBv2_8.out bw
          have HBv3_9 : Hid ((w9).heap[qv3]? = some (.cells #[.string ⟨#[]⟩, .slice none 0 0, .slice none 0 0, .int .i64 0, .slice none 0 0, .string ⟨#[]⟩, .int .i64 0] 34)) := blk_below HBv3_8.out bw
          have HOY_9 : Hid ((w9).ownsRow w.heap.size 9 1 (.slice oY yl.length pY) yl.length (yl.map Value.string)) := owns_wide ownY hb8.size
          have LOY : Hid (∀ g, (Value.ownBlock (.slice oY yl.length pY)) = some g → (w8).heap.size ≤ g) := fun g hg => owns_ge ownY hg
          have HIY : Hid (∀ g, (Value.ownBlock (.slice oY yl.length pY)) = some g → g < (w9).heap.size) := fun g hg => owns_lt ownY hg
          clear ownY
          clear hb8 HOX_8 HBv1_8 HBv2_8 HBv3_8
          have HX_9 : Hid (Below w5.heap.size w5 w9) := HX_8.out.trans (bw.mono HX_8.out.size)
          have HPA_9 : Hid (w9.heap[pa]? = some (.cells #[.string ⟨#[]⟩, .slice none 0 0, .slice none 0 0, .int .i64 0, .slice none 0 0, .string ⟨#[]⟩, .int .i64 0] 34)) := blk_below HPA_8.out bw
          have HRXY_9 : Hid ((w9).ownsRow w5.heap.size 9 1 (.slice oY yl.length pY) yl.length (yl.map Value.string)) := owns_lift HOY_9.out (fun g hg => Nat.le_trans HX_8.out.size (LOY.out g hg))
          refine hK.out _ _ (HSS.out _ HX_9.out) (fun _ => ?_)
          clear hK K bw HX_8
          refine wpAnyH_ready (rs := [9]) (by kernel_rfl) (by simp) ?_
          refine AllReadyH.cons rfl (fun K hK => ?_) AllReadyH.nil
          go_simp
          refine (copiedAnswer_any st _ d k base2 gs _ (HV2.out _ hb9) (by omega) HC2.out (by have := HMK.out.1.2.1.2.2; omega)).mono ?_
          rintro e w10 ⟨vv, rfl, ownG, bw⟩
          obtain ⟨oG, pG, rfl⟩ := slice_of_owns ownG
          rw [HLG.out] at ownG ⊢
          have hb10 : Below w.heap.size w (w10) := hb9.trans (bw.mono hb9.size)
          have HM10 : Hid ((w9).heap.size ≤ (w10).heap.size) := bw.size
          have HOX_10 : Hid ((w10).ownsRow w.heap.size 9 1 (.slice oX vl.length pX) vl.length (vl.map Value.string)) := owns_below HOX_9.out bw (fun g hg => owns_lt HOX_9.out hg)
          have HOY_10 : Hid ((w10).ownsRow w.heap.size 9 1 (.slice oY yl.length pY) yl.length (yl.map Value.string)) := owns_below HOY_9.out bw (fun g hg => owns_lt HOY_9.out hg)
          have HBv1_10 : Hid ((w10).heap[qv1]? = some (.cells #[.int .i64 m, .string p, .slice oa n cap, .string b] 38)) := blk_below HBv1_9.out bw
          have HBv2_10 : Hid ((w10).heap[qv2]? = some (.cells #[.int .i64 st, .slice ob k cb, .string d] 32)) := blk_below HBv2_9.out bw
          have HBv3_10 : Hid ((w10).heap[qv3]? = some (.cells #[.string ⟨#[]⟩, .slice none 0 0, .slice none 0 0, .int .i64 0, .slice none 0 0, .string ⟨#[]⟩, .int .i64 0] 34)) := blk_below HBv3_9.out bw
          have HOG_10 : Hid ((w10).ownsRow w.heap.size 75 2 (.slice oG k pG) k (flatF gs)) := owns_wide ownG hb9.size
          have LOG : Hid (∀ g, (Value.ownBlock (.slice oG k pG)) = some g → (w9).heap.size ≤ g) := fun g hg => owns_ge ownG hg
          have HIG : Hid (∀ g, (Value.ownBlock (.slice oG k pG)) = some g → g < (w10).heap.size) := fun g hg => owns_lt ownG hg
          clear ownG
          clear hb9 HOX_9 HOY_9 HBv1_9 HBv2_9 HBv3_9
          have HX_10 : Hid (Below w5.heap.size w5 w10) := HX_9.out.trans (bw.mono HX_9.out.size)
          have HPA_10 : Hid (w10.heap[pa]? = some (.cells #[.string ⟨#[]⟩, .slice none 0 0, .slice none 0 0, .int .i64 0, .slice none 0 0, .string ⟨#[]⟩, .int .i64 0] 34)) := blk_below HPA_9.out bw
          have HRXY_10 : Hid ((w10).ownsRow w5.heap.size 9 1 (.slice oY yl.length pY) yl.length (yl.map Value.string)) := owns_below HRXY_9.out bw (fun g hg => owns_lt HRXY_9.out hg)
          have HRXG_10 : Hid ((w10).ownsRow w5.heap.size 75 2 (.slice oG k pG) k (flatF gs)) := owns_lift HOG_10.out (fun g hg => Nat.le_trans HX_9.out.size (LOG.out g hg))
          refine hK.out _ _ (HSS.out _ HX_10.out) (fun _ => ?_)
          clear hK K bw HX_9
          refine wpAnyH_takeD (i := 11) (v := .agg #[.string p, .slice oX vl.length pX, .slice oY yl.length pY, .int .i64 st, .slice oG k pG, .string d, .int .i64 t]) (some 29) rfl rfl (by kernel_rfl) (by kernel_rfl) (by kernel_rfl) (fun _ _ _ h => h) (Or.inl ⟨by rfl, by intro W _; go_simp⟩) (HSS.out _ HX_10.out) ?_
          simp only [Act.put, List.setIfInBounds_toArray, List.set_cons_zero, List.set_cons_succ]
          refine wpAnyH_ready (rs := [13]) (by kernel_rfl) (by simp) ?_
          refine AllReadyH.cons rfl (fun K hK => ?_) AllReadyH.nil
          have ce0 : w10.cell? ⟨pa, 0, none⟩ = some (.string ⟨#[]⟩) := (cell_of HPA_10.out 0).trans rfl
          have fe0 : w10.frozen? ⟨pa, 0, none⟩ = false := frozen_of HPA_10.out 0
          have ce1 : w10.cell? ⟨pa, 1, none⟩ = some (.slice none 0 0) := (cell_of HPA_10.out 1).trans rfl
          have fe1 : w10.frozen? ⟨pa, 1, none⟩ = false := frozen_of HPA_10.out 1
          have ce2 : w10.cell? ⟨pa, 2, none⟩ = some (.slice none 0 0) := (cell_of HPA_10.out 2).trans rfl
          have fe2 : w10.frozen? ⟨pa, 2, none⟩ = false := frozen_of HPA_10.out 2
          have ce3 : w10.cell? ⟨pa, 3, none⟩ = some (.int .i64 0) := (cell_of HPA_10.out 3).trans rfl
          have fe3 : w10.frozen? ⟨pa, 3, none⟩ = false := frozen_of HPA_10.out 3
          have ce4 : w10.cell? ⟨pa, 4, none⟩ = some (.slice none 0 0) := (cell_of HPA_10.out 4).trans rfl
          have fe4 : w10.frozen? ⟨pa, 4, none⟩ = false := frozen_of HPA_10.out 4
          have ce5 : w10.cell? ⟨pa, 5, none⟩ = some (.string ⟨#[]⟩) := (cell_of HPA_10.out 5).trans rfl
          have fe5 : w10.frozen? ⟨pa, 5, none⟩ = false := frozen_of HPA_10.out 5
          have ce6 : w10.cell? ⟨pa, 6, none⟩ = some (.int .i64 0) := (cell_of HPA_10.out 6).trans rfl
          have fe6 : w10.frozen? ⟨pa, 6, none⟩ = false := frozen_of HPA_10.out 6
          obtain ⟨w11, hY⟩ : ∃ Y, Y = (((((((w10.setCell ⟨pa, 0, none⟩ (.string p)).setCell ⟨pa, 1, none⟩ (.slice oX vl.length pX)).setCell ⟨pa, 2, none⟩ (.slice oY yl.length pY)).setCell ⟨pa, 3, none⟩ (.int .i64 st)).setCell ⟨pa, 4, none⟩ (.slice oG k pG)).setCell ⟨pa, 5, none⟩ (.string d)).setCell ⟨pa, 6, none⟩ (.int .i64 t)) := ⟨_, rfl⟩
          have HY : Hid ((((((((w10.setCell ⟨pa, 0, none⟩ (.string p)).setCell ⟨pa, 1, none⟩ (.slice oX vl.length pX)).setCell ⟨pa, 2, none⟩ (.slice oY yl.length pY)).setCell ⟨pa, 3, none⟩ (.int .i64 st)).setCell ⟨pa, 4, none⟩ (.slice oG k pG)).setCell ⟨pa, 5, none⟩ (.string d)).setCell ⟨pa, 6, none⟩ (.int .i64 t)) = w11) := hY.symm
          have HX_11 : Hid (Below w5.heap.size w5 w11) := by show Below _ _ _; rw [hY]; exact (((((((HX_10.out.setCell (p := ⟨pa, 0, none⟩) HGA.out _).setCell (p := ⟨pa, 1, none⟩) HGA.out _).setCell (p := ⟨pa, 2, none⟩) HGA.out _).setCell (p := ⟨pa, 3, none⟩) HGA.out _).setCell (p := ⟨pa, 4, none⟩) HGA.out _).setCell (p := ⟨pa, 5, none⟩) HGA.out _).setCell (p := ⟨pa, 6, none⟩) HGA.out _)
          have HPA_11 : Hid (w11.heap[pa]? = some (.cells #[.string p, .slice oX vl.length pX, .slice oY yl.length pY, .int .i64 st, .slice oG k pG, .string d, .int .i64 t] 34)) := by show _ = _; rw [hY]; have h := (heap_set _ pa 6 _ _ _ (.int .i64 t) (heap_set _ pa 5 _ _ _ (.string d) (heap_set _ pa 4 _ _ _ (.slice oG k pG) (heap_set _ pa 3 _ _ _ (.int .i64 st) (heap_set _ pa 2 _ _ _ (.slice oY yl.length pY) (heap_set _ pa 1 _ _ _ (.slice oX vl.length pX) (heap_set _ pa 0 _ _ _ (.string p) HPA_10.out))))))); simpa using h
          have HRXY_11 : Hid ((w11).ownsRow w5.heap.size 9 1 (.slice oY yl.length pY) yl.length (yl.map Value.string)) := by show World.ownsRow _ _ _ _ _ _ _; rw [hY]; exact owns_same HRXY_10.out (fun g hg => by have hne := own_ne HRXY_10.out HPA_10.out (by decide) g hg; rw [heap_setCell_other _ _ g _ hne, heap_setCell_other _ _ g _ hne, heap_setCell_other _ _ g _ hne, heap_setCell_other _ _ g _ hne, heap_setCell_other _ _ g _ hne, heap_setCell_other _ _ g _ hne, heap_setCell_other _ _ g _ hne])
          have HRXG_11 : Hid ((w11).ownsRow w5.heap.size 75 2 (.slice oG k pG) k (flatF gs)) := by show World.ownsRow _ _ _ _ _ _ _; rw [hY]; exact owns_same HRXG_10.out (fun g hg => by have hne := own_ne HRXG_10.out HPA_10.out (by decide) g hg; rw [heap_setCell_other _ _ g _ hne, heap_setCell_other _ _ g _ hne, heap_setCell_other _ _ g _ hne, heap_setCell_other _ _ g _ hne, heap_setCell_other _ _ g _ hne, heap_setCell_other _ _ g _ hne, heap_setCell_other _ _ g _ hne])
          clear hY hb10 HOX_10 HOY_10 HOG_10 HBv1_10 HBv2_10 HBv3_10
          go_simp
          rw [HY.out]
          refine hK.out _ _ (HSS.out _ HX_11.out) (fun _ => ?_)
          clear hK K HY ce0 fe0 ce1 fe1 ce2 fe2 ce3 fe3 ce4 fe4 ce5 fe5 ce6 fe6
          refine wpAnyH_done (by kernel_rfl) ?_ _
          go_wp2_with fail
          go_meet
          exact ⟨pa, oY, pY, oG, pG, rfl, ⟨HX_11.out, HPA_11.out, HGA.out, HRXY_11.out, HRXG_11.out⟩⟩
      · go_simp
        have HXA : Hid (Below w5.heap.size w5 (w6.alloc (.cells #[.string ⟨#[]⟩, .slice none 0 0, .slice none 0 0, .int .i64 0, .slice none 0 0, .string ⟨#[]⟩, .int .i64 0] 34))) := HX_6.out.alloc HX_6.out.size _
        refine hK.out _ _ (HSS.out _ HXA.out) (fun _ => ?_)
        clear hK K HXA
        obtain ⟨pa, ho⟩ : ∃ o, o = w6.heap.size := ⟨_, rfl⟩
        obtain ⟨w7, hXj⟩ : ∃ X, X = w6.alloc (.cells #[.string ⟨#[]⟩, .slice none 0 0, .slice none 0 0, .int .i64 0, .slice none 0 0, .string ⟨#[]⟩, .int .i64 0] 34) := ⟨_, rfl⟩
        rw [← ho, ← hXj]
        have HGA : Hid (w5.heap.size ≤ pa) := by show _ ≤ _; rw [ho]; exact HX_6.out.size
        have bw : Below w6.heap.size w6 w7 := by rw [hXj]; exact (Below.refl _ _).alloc (Nat.le_refl _) _
        have hb7 : Below w.heap.size w (w7) := hb6.trans (bw.mono hb6.size)
        have HM7 : Hid ((w6).heap.size ≤ (w7).heap.size) := bw.size
        have HOX_7 : Hid ((w7).ownsRow w.heap.size 9 1 (.slice oX vl.length pX) vl.length (vl.map Value.string)) := owns_below HOX_6.out bw (fun g hg => owns_lt HOX_6.out hg)
        have HBv1_7 : Hid ((w7).heap[qv1]? = some (.cells #[.int .i64 m, .string p, .slice oa n cap, .string b] 38)) := blk_below HBv1_6.out bw
        have HBv2_7 : Hid ((w7).heap[qv2]? = some (.cells #[.int .i64 st, .slice ob k cb, .string d] 32)) := blk_below HBv2_6.out bw
        have HBv3_7 : Hid ((w7).heap[qv3]? = some (.cells #[.string ⟨#[]⟩, .slice none 0 0, .slice none 0 0, .int .i64 0, .slice none 0 0, .string ⟨#[]⟩, .int .i64 0] 34)) := blk_below HBv3_6.out bw
        have HX_7 : Hid (Below w5.heap.size w5 w7) := HX_6.out.trans (bw.mono HX_6.out.size)
        have HPA_7 : Hid (w7.heap[pa]? = some (.cells #[.string ⟨#[]⟩, .slice none 0 0, .slice none 0 0, .int .i64 0, .slice none 0 0, .string ⟨#[]⟩, .int .i64 0] 34)) := by show _ = _; rw [hXj, ho]; exact heap_alloc_new _ _
        clear hb6 HOX_6 HBv1_6 HBv2_6 HBv3_6 bw ho hXj HX_6
        refine wpAnyH_ready (rs := [2]) (by kernel_rfl) (by simp) ?_
        refine AllReadyH.cons rfl (fun K hK => ?_) AllReadyH.nil
        go_simp
        refine (clone_any p _ (by have := HMK.out.1.1.2.1.2.2.1; omega)).mono ?_
        rintro e w8 ⟨rfl, bw⟩
        have hb8 : Below w.heap.size w (w8) := hb7.trans (bw.mono hb7.size)
        have HM8 : Hid ((w7).heap.size ≤ (w8).heap.size) := bw.size
        have HOX_8 : Hid ((w8).ownsRow w.heap.size 9 1 (.slice oX vl.length pX) vl.length (vl.map Value.string)) := owns_below HOX_7.out bw (fun g hg => owns_lt HOX_7.out hg)
        have HBv1_8 : Hid ((w8).heap[qv1]? = some (.cells #[.int .i64 m, .string p, .slice oa n cap, .string b] 38)) := blk_below HBv1_7.out bw
        have HBv2_8 : Hid ((w8).heap[qv2]? = some (.cells #[.int .i64 st, .slice ob k cb, .string d] 32)) := blk_below HBv2_7.out bw
        have HBv3_8 : Hid ((w8).heap[qv3]? = some (.cells #[.string ⟨#[]⟩, .slice none 0 0, .slice none 0 0, .int .i64 0, .slice none 0 0, .string ⟨#[]⟩, .int .i64 0] 34)) := blk_below HBv3_7.out bw
        clear hb7 HOX_7 HBv1_7 HBv2_7 HBv3_7
        have HX_8 : Hid (Below w5.heap.size w5 w8) := HX_7.out.trans (bw.mono HX_7.out.size)
        have HPA_8 : Hid (w8.heap[pa]? = some (.cells #[.string ⟨#[]⟩, .slice none 0 0, .slice none 0 0, .int .i64 0, .slice none 0 0, .string ⟨#[]⟩, .int .i64 0] 34)) := blk_below HPA_7.out bw
        refine hK.out _ _ (HSS.out _ HX_8.out) (fun _ => ?_)
        clear hK K bw HX_7
        refine wpAnyH_ready (rs := [7]) (by kernel_rfl) (by simp) ?_
        refine AllReadyH.cons rfl (fun K hK => ?_) AllReadyH.nil
        go_simp
        refine (implValuesOf_any _ _ _ vl _ n base fs _ (texts_view HOX_8.out) HVZ.out.1 (HV1.out _ hb8) (by omega) HC1.out).mono ?_
        rintro e w9 ⟨vv, rfl, ownY, bw⟩
        obtain ⟨oY, pY, rfl⟩ := slice_of_owns ownY
        rw [HYL.out] at ownY ⊢
        have hb9 : Below w.heap.size w (w9) := hb8.trans (bw.mono hb8.size)
        have HM9 : Hid ((w8).heap.size ≤ (w9).heap.size) := bw.size
        have HOX_9 : Hid ((w9).ownsRow w.heap.size 9 1 (.slice oX vl.length pX) vl.length (vl.map Value.string)) := owns_below HOX_8.out bw (fun g hg => owns_lt HOX_8.out hg)
        have HBv1_9 : Hid ((w9).heap[qv1]? = some (.cells #[.int .i64 m, .string p, .slice oa n cap, .string b] 38)) := blk_below HBv1_8.out bw
        have HBv2_9 : Hid ((w9).heap[qv2]? = some (.cells #[.int .i64 st, .slice ob k cb, .string d] 32)) := blk_below HBv2_8.out bw
        have HBv3_9 : Hid ((w9).heap[qv3]? = some (.cells #[.string ⟨#[]⟩, .slice none 0 0, .slice none 0 0, .int .i64 0, .slice none 0 0, .string ⟨#[]⟩, .int .i64 0] 34)) := blk_below HBv3_8.out bw
        have HOY_9 : Hid ((w9).ownsRow w.heap.size 9 1 (.slice oY yl.length pY) yl.length (yl.map Value.string)) := owns_wide ownY hb8.size
        have LOY : Hid (∀ g, (Value.ownBlock (.slice oY yl.length pY)) = some g → (w8).heap.size ≤ g) := fun g hg => owns_ge ownY hg
        have HIY : Hid (∀ g, (Value.ownBlock (.slice oY yl.length pY)) = some g → g < (w9).heap.size) := fun g hg => owns_lt ownY hg
        clear ownY
        clear hb8 HOX_8 HBv1_8 HBv2_8 HBv3_8
        have HX_9 : Hid (Below w5.heap.size w5 w9) := HX_8.out.trans (bw.mono HX_8.out.size)
        have HPA_9 : Hid (w9.heap[pa]? = some (.cells #[.string ⟨#[]⟩, .slice none 0 0, .slice none 0 0, .int .i64 0, .slice none 0 0, .string ⟨#[]⟩, .int .i64 0] 34)) := blk_below HPA_8.out bw
        have HRXY_9 : Hid ((w9).ownsRow w5.heap.size 9 1 (.slice oY yl.length pY) yl.length (yl.map Value.string)) := owns_lift HOY_9.out (fun g hg => Nat.le_trans HX_8.out.size (LOY.out g hg))
        refine hK.out _ _ (HSS.out _ HX_9.out) (fun _ => ?_)
        clear hK K bw HX_8
        refine wpAnyH_ready (rs := [9]) (by kernel_rfl) (by simp) ?_
        refine AllReadyH.cons rfl (fun K hK => ?_) AllReadyH.nil
        go_simp
        refine (copiedAnswer_any st _ d k base2 gs _ (HV2.out _ hb9) (by omega) HC2.out (by have := HMK.out.1.2.1.2.2; omega)).mono ?_
        rintro e w10 ⟨vv, rfl, ownG, bw⟩
        obtain ⟨oG, pG, rfl⟩ := slice_of_owns ownG
        rw [HLG.out] at ownG ⊢
        have hb10 : Below w.heap.size w (w10) := hb9.trans (bw.mono hb9.size)
        have HM10 : Hid ((w9).heap.size ≤ (w10).heap.size) := bw.size
        have HOX_10 : Hid ((w10).ownsRow w.heap.size 9 1 (.slice oX vl.length pX) vl.length (vl.map Value.string)) := owns_below HOX_9.out bw (fun g hg => owns_lt HOX_9.out hg)
        have HOY_10 : Hid ((w10).ownsRow w.heap.size 9 1 (.slice oY yl.length pY) yl.length (yl.map Value.string)) := owns_below HOY_9.out bw (fun g hg => owns_lt HOY_9.out hg)
        have HBv1_10 : Hid ((w10).heap[qv1]? = some (.cells #[.int .i64 m, .string p, .slice oa n cap, .string b] 38)) := blk_below HBv1_9.out bw
        have HBv2_10 : Hid ((w10).heap[qv2]? = some (.cells #[.int .i64 st, .slice ob k cb, .string d] 32)) := blk_below HBv2_9.out bw
        have HBv3_10 : Hid ((w10).heap[qv3]? = some (.cells #[.string ⟨#[]⟩, .slice none 0 0, .slice none 0 0, .int .i64 0, .slice none 0 0, .string ⟨#[]⟩, .int .i64 0] 34)) := blk_below HBv3_9.out bw
        have HOG_10 : Hid ((w10).ownsRow w.heap.size 75 2 (.slice oG k pG) k (flatF gs)) := owns_wide ownG hb9.size
        have LOG : Hid (∀ g, (Value.ownBlock (.slice oG k pG)) = some g → (w9).heap.size ≤ g) := fun g hg => owns_ge ownG hg
        have HIG : Hid (∀ g, (Value.ownBlock (.slice oG k pG)) = some g → g < (w10).heap.size) := fun g hg => owns_lt ownG hg
        clear ownG
        clear hb9 HOX_9 HOY_9 HBv1_9 HBv2_9 HBv3_9
        have HX_10 : Hid (Below w5.heap.size w5 w10) := HX_9.out.trans (bw.mono HX_9.out.size)
        have HPA_10 : Hid (w10.heap[pa]? = some (.cells #[.string ⟨#[]⟩, .slice none 0 0, .slice none 0 0, .int .i64 0, .slice none 0 0, .string ⟨#[]⟩, .int .i64 0] 34)) := blk_below HPA_9.out bw
        have HRXY_10 : Hid ((w10).ownsRow w5.heap.size 9 1 (.slice oY yl.length pY) yl.length (yl.map Value.string)) := owns_below HRXY_9.out bw (fun g hg => owns_lt HRXY_9.out hg)
        have HRXG_10 : Hid ((w10).ownsRow w5.heap.size 75 2 (.slice oG k pG) k (flatF gs)) := owns_lift HOG_10.out (fun g hg => Nat.le_trans HX_9.out.size (LOG.out g hg))
        refine hK.out _ _ (HSS.out _ HX_10.out) (fun _ => ?_)
        clear hK K bw HX_9
        refine wpAnyH_takeD (i := 11) (v := .agg #[.string p, .slice oX vl.length pX, .slice oY yl.length pY, .int .i64 st, .slice oG k pG, .string d, .int .i64 t]) (some 29) rfl rfl (by kernel_rfl) (by kernel_rfl) (by kernel_rfl) (fun _ _ _ h => h) (Or.inl ⟨by rfl, by intro W _; go_simp⟩) (HSS.out _ HX_10.out) ?_
        simp only [Act.put, List.setIfInBounds_toArray, List.set_cons_zero, List.set_cons_succ]
        refine wpAnyH_ready (rs := [13]) (by kernel_rfl) (by simp) ?_
        refine AllReadyH.cons rfl (fun K hK => ?_) AllReadyH.nil
        have ce0 : w10.cell? ⟨pa, 0, none⟩ = some (.string ⟨#[]⟩) := (cell_of HPA_10.out 0).trans rfl
        have fe0 : w10.frozen? ⟨pa, 0, none⟩ = false := frozen_of HPA_10.out 0
        have ce1 : w10.cell? ⟨pa, 1, none⟩ = some (.slice none 0 0) := (cell_of HPA_10.out 1).trans rfl
        have fe1 : w10.frozen? ⟨pa, 1, none⟩ = false := frozen_of HPA_10.out 1
        have ce2 : w10.cell? ⟨pa, 2, none⟩ = some (.slice none 0 0) := (cell_of HPA_10.out 2).trans rfl
        have fe2 : w10.frozen? ⟨pa, 2, none⟩ = false := frozen_of HPA_10.out 2
        have ce3 : w10.cell? ⟨pa, 3, none⟩ = some (.int .i64 0) := (cell_of HPA_10.out 3).trans rfl
        have fe3 : w10.frozen? ⟨pa, 3, none⟩ = false := frozen_of HPA_10.out 3
        have ce4 : w10.cell? ⟨pa, 4, none⟩ = some (.slice none 0 0) := (cell_of HPA_10.out 4).trans rfl
        have fe4 : w10.frozen? ⟨pa, 4, none⟩ = false := frozen_of HPA_10.out 4
        have ce5 : w10.cell? ⟨pa, 5, none⟩ = some (.string ⟨#[]⟩) := (cell_of HPA_10.out 5).trans rfl
        have fe5 : w10.frozen? ⟨pa, 5, none⟩ = false := frozen_of HPA_10.out 5
        have ce6 : w10.cell? ⟨pa, 6, none⟩ = some (.int .i64 0) := (cell_of HPA_10.out 6).trans rfl
        have fe6 : w10.frozen? ⟨pa, 6, none⟩ = false := frozen_of HPA_10.out 6
        obtain ⟨w11, hY⟩ : ∃ Y, Y = (((((((w10.setCell ⟨pa, 0, none⟩ (.string p)).setCell ⟨pa, 1, none⟩ (.slice oX vl.length pX)).setCell ⟨pa, 2, none⟩ (.slice oY yl.length pY)).setCell ⟨pa, 3, none⟩ (.int .i64 st)).setCell ⟨pa, 4, none⟩ (.slice oG k pG)).setCell ⟨pa, 5, none⟩ (.string d)).setCell ⟨pa, 6, none⟩ (.int .i64 t)) := ⟨_, rfl⟩
        have HY : Hid ((((((((w10.setCell ⟨pa, 0, none⟩ (.string p)).setCell ⟨pa, 1, none⟩ (.slice oX vl.length pX)).setCell ⟨pa, 2, none⟩ (.slice oY yl.length pY)).setCell ⟨pa, 3, none⟩ (.int .i64 st)).setCell ⟨pa, 4, none⟩ (.slice oG k pG)).setCell ⟨pa, 5, none⟩ (.string d)).setCell ⟨pa, 6, none⟩ (.int .i64 t)) = w11) := hY.symm
        have HX_11 : Hid (Below w5.heap.size w5 w11) := by show Below _ _ _; rw [hY]; exact (((((((HX_10.out.setCell (p := ⟨pa, 0, none⟩) HGA.out _).setCell (p := ⟨pa, 1, none⟩) HGA.out _).setCell (p := ⟨pa, 2, none⟩) HGA.out _).setCell (p := ⟨pa, 3, none⟩) HGA.out _).setCell (p := ⟨pa, 4, none⟩) HGA.out _).setCell (p := ⟨pa, 5, none⟩) HGA.out _).setCell (p := ⟨pa, 6, none⟩) HGA.out _)
        have HPA_11 : Hid (w11.heap[pa]? = some (.cells #[.string p, .slice oX vl.length pX, .slice oY yl.length pY, .int .i64 st, .slice oG k pG, .string d, .int .i64 t] 34)) := by show _ = _; rw [hY]; have h := (heap_set _ pa 6 _ _ _ (.int .i64 t) (heap_set _ pa 5 _ _ _ (.string d) (heap_set _ pa 4 _ _ _ (.slice oG k pG) (heap_set _ pa 3 _ _ _ (.int .i64 st) (heap_set _ pa 2 _ _ _ (.slice oY yl.length pY) (heap_set _ pa 1 _ _ _ (.slice oX vl.length pX) (heap_set _ pa 0 _ _ _ (.string p) HPA_10.out))))))); simpa using h
        have HRXY_11 : Hid ((w11).ownsRow w5.heap.size 9 1 (.slice oY yl.length pY) yl.length (yl.map Value.string)) := by show World.ownsRow _ _ _ _ _ _ _; rw [hY]; exact owns_same HRXY_10.out (fun g hg => by have hne := own_ne HRXY_10.out HPA_10.out (by decide) g hg; rw [heap_setCell_other _ _ g _ hne, heap_setCell_other _ _ g _ hne, heap_setCell_other _ _ g _ hne, heap_setCell_other _ _ g _ hne, heap_setCell_other _ _ g _ hne, heap_setCell_other _ _ g _ hne, heap_setCell_other _ _ g _ hne])
        have HRXG_11 : Hid ((w11).ownsRow w5.heap.size 75 2 (.slice oG k pG) k (flatF gs)) := by show World.ownsRow _ _ _ _ _ _ _; rw [hY]; exact owns_same HRXG_10.out (fun g hg => by have hne := own_ne HRXG_10.out HPA_10.out (by decide) g hg; rw [heap_setCell_other _ _ g _ hne, heap_setCell_other _ _ g _ hne, heap_setCell_other _ _ g _ hne, heap_setCell_other _ _ g _ hne, heap_setCell_other _ _ g _ hne, heap_setCell_other _ _ g _ hne, heap_setCell_other _ _ g _ hne])
        clear hY hb10 HOX_10 HOY_10 HOG_10 HBv1_10 HBv2_10 HBv3_10
        go_simp
        rw [HY.out]
        refine hK.out _ _ (HSS.out _ HX_11.out) (fun _ => ?_)
        clear hK K HY ce0 fe0 ce1 fe1 ce2 fe2 ce3 fe3 ce4 fe4 ce5 fe5 ce6 fe6
        refine wpAnyH_done (by kernel_rfl) ?_ _
        go_wp2_with fail
        go_meet
        exact ⟨pa, oY, pY, oG, pG, rfl, ⟨HX_11.out, HPA_11.out, HGA.out, HRXY_11.out, HRXG_11.out⟩⟩
    case rest =>
    obtain ⟨qv4, oY, pY, oG, pG, hsx, HF⟩ := hcut
    rw [hsx]
    obtain ⟨w6, hwj⟩ : ∃ W, W = wc := ⟨_, rfl⟩
    rw [← hwj] at HF ⊢
    clear hsx hwj HSS
    obtain ⟨bw, hcell, hga, ownY, ownG⟩ := HF.out
    have HNv1v4 : Hid (qv1 ≠ qv4) := fun e => by have h1 := (Array.getElem?_eq_some_iff.1 HBv1_5.out).1; omega
    have HNv2v4 : Hid (qv2 ≠ qv4) := fun e => by have h1 := (Array.getElem?_eq_some_iff.1 HBv2_5.out).1; omega
    have HNv3v4 : Hid (qv3 ≠ qv4) := fun e => by have h1 := (Array.getElem?_eq_some_iff.1 HBv3_5.out).1; omega
    have hb6 : Below w.heap.size w (w6) := hb5.trans (bw.mono hb5.size)
    have HM6 : Hid ((w5).heap.size ≤ (w6).heap.size) := bw.size
    have HOX_6 : Hid ((w6).ownsRow w.heap.size 9 1 (.slice oX vl.length pX) vl.length (vl.map Value.string)) := owns_below HOX_5.out bw (fun g hg => owns_lt HOX_5.out hg)
    have HBv1_6 : Hid ((w6).heap[qv1]? = some (.cells #[.int .i64 m, .string p, .slice oa n cap, .string b] 38)) := blk_below HBv1_5.out bw
    have HBv2_6 : Hid ((w6).heap[qv2]? = some (.cells #[.int .i64 st, .slice ob k cb, .string d] 32)) := blk_below HBv2_5.out bw
    have HBv3_6 : Hid ((w6).heap[qv3]? = some (.cells #[.string ⟨#[]⟩, .slice none 0 0, .slice none 0 0, .int .i64 0, .slice none 0 0, .string ⟨#[]⟩, .int .i64 0] 34)) := blk_below HBv3_5.out bw
    have HOY_6 : Hid ((w6).ownsRow w.heap.size 9 1 (.slice oY yl.length pY) yl.length (yl.map Value.string)) := owns_wide ownY hb5.size
    have LOY : Hid (∀ g, (Value.ownBlock (.slice oY yl.length pY)) = some g → (w5).heap.size ≤ g) := fun g hg => owns_ge ownY hg
    have HIY : Hid (∀ g, (Value.ownBlock (.slice oY yl.length pY)) = some g → g < (w6).heap.size) := fun g hg => owns_lt ownY hg
    have HOG_6 : Hid ((w6).ownsRow w.heap.size 75 2 (.slice oG k pG) k (flatF gs)) := owns_wide ownG hb5.size
    have LOG : Hid (∀ g, (Value.ownBlock (.slice oG k pG)) = some g → (w5).heap.size ≤ g) := fun g hg => owns_ge ownG hg
    have HIG : Hid (∀ g, (Value.ownBlock (.slice oG k pG)) = some g → g < (w6).heap.size) := fun g hg => owns_lt ownG hg
    have HBv4_6 : Hid ((w6).heap[qv4]? = some (.cells #[.string p, .slice oX vl.length pX, .slice oY yl.length pY, .int .i64 st, .slice oG k pG, .string d, .int .i64 t] 34)) := hcell
    have HGv4 : Hid (w.heap.size ≤ qv4) := Nat.le_trans hb5.size hga
    clear hb5 HOX_5 HBv1_5 HBv2_5 HBv3_5 bw hcell hga HF ownY ownG
    have cv4_0 : (w6).cell? ⟨qv4, 0, none⟩ = some (.string p) := (cell_of HBv4_6.out 0).trans rfl
    have cv4_1 : (w6).cell? ⟨qv4, 1, none⟩ = some (.slice oX vl.length pX) := (cell_of HBv4_6.out 1).trans rfl
    have cv4_2 : (w6).cell? ⟨qv4, 2, none⟩ = some (.slice oY yl.length pY) := (cell_of HBv4_6.out 2).trans rfl
    have cv4_3 : (w6).cell? ⟨qv4, 3, none⟩ = some (.int .i64 st) := (cell_of HBv4_6.out 3).trans rfl
    have cv4_4 : (w6).cell? ⟨qv4, 4, none⟩ = some (.slice oG k pG) := (cell_of HBv4_6.out 4).trans rfl
    have cv4_5 : (w6).cell? ⟨qv4, 5, none⟩ = some (.string d) := (cell_of HBv4_6.out 5).trans rfl
    have cv4_6 : (w6).cell? ⟨qv4, 6, none⟩ = some (.int .i64 t) := (cell_of HBv4_6.out 6).trans rfl
    go_wp2_with fail
    refine (implObjOk_any p _ vl.length _ vl _ yl.length _ yl st _ k _ gs d t _ (texts_view HOX_6.out) (texts_view HOY_6.out) (FieldsV.of_owns HOG_6.out) (by have := HVZ.out.1; omega) (by have := HVZ.out.1; have := HYZ.out.1; omega) (by omega) HVZ.out.2 HYZ.out.2 HS2.out HC2.out HPM.out HDM.out HG3.out).mono ?_
    rintro e w7 ⟨u2, rfl, htu2, bw⟩
    have hb7 : Below w.heap.size w (w7) := hb6.trans (bw.mono hb6.size)
    have HM7 : Hid ((w6).heap.size ≤ (w7).heap.size) := bw.size
    have HOX_7 : Hid ((w7).ownsRow w.heap.size 9 1 (.slice oX vl.length pX) vl.length (vl.map Value.string)) := owns_below HOX_6.out bw (fun g hg => owns_lt HOX_6.out hg)
    have HOY_7 : Hid ((w7).ownsRow w.heap.size 9 1 (.slice oY yl.length pY) yl.length (yl.map Value.string)) := owns_below HOY_6.out bw (fun g hg => owns_lt HOY_6.out hg)
    have HOG_7 : Hid ((w7).ownsRow w.heap.size 75 2 (.slice oG k pG) k (flatF gs)) := owns_below HOG_6.out bw (fun g hg => owns_lt HOG_6.out hg)
    have HBv1_7 : Hid ((w7).heap[qv1]? = some (.cells #[.int .i64 m, .string p, .slice oa n cap, .string b] 38)) := blk_below HBv1_6.out bw
    have HBv2_7 : Hid ((w7).heap[qv2]? = some (.cells #[.int .i64 st, .slice ob k cb, .string d] 32)) := blk_below HBv2_6.out bw
    have HBv3_7 : Hid ((w7).heap[qv3]? = some (.cells #[.string ⟨#[]⟩, .slice none 0 0, .slice none 0 0, .int .i64 0, .slice none 0 0, .string ⟨#[]⟩, .int .i64 0] 34)) := blk_below HBv3_6.out bw
    have HBv4_7 : Hid ((w7).heap[qv4]? = some (.cells #[.string p, .slice oX vl.length pX, .slice oY yl.length pY, .int .i64 st, .slice oG k pG, .string d, .int .i64 t] 34)) := blk_below HBv4_6.out bw
    clear hb6 HOX_6 HOY_6 HOG_6 HBv1_6 HBv2_6 HBv3_6 HBv4_6 bw
    clear cv4_0 cv4_1 cv4_2 cv4_3 cv4_4 cv4_5 cv4_6
    cases u2 with
    | false =>
      have HF : Hid (¬ (MayP m p fs b st gs d ∧ ObjP p vl yl st gs d t)) := fun h => nomatch htu2.2 h.2
      clear htu2
      have cv3_0 : (w7).cell? ⟨qv3, 0, none⟩ = some (.string ⟨#[]⟩) := (cell_of HBv3_7.out 0).trans rfl
      have fcv3_0 : (w7).frozen? ⟨qv3, 0, none⟩ = false := frozen_of HBv3_7.out 0
      have cv3_1 : (w7).cell? ⟨qv3, 1, none⟩ = some (.slice none 0 0) := (cell_of HBv3_7.out 1).trans rfl
      have fcv3_1 : (w7).frozen? ⟨qv3, 1, none⟩ = false := frozen_of HBv3_7.out 1
      have cv3_2 : (w7).cell? ⟨qv3, 2, none⟩ = some (.slice none 0 0) := (cell_of HBv3_7.out 2).trans rfl
      have fcv3_2 : (w7).frozen? ⟨qv3, 2, none⟩ = false := frozen_of HBv3_7.out 2
      have cv3_3 : (w7).cell? ⟨qv3, 3, none⟩ = some (.int .i64 0) := (cell_of HBv3_7.out 3).trans rfl
      have fcv3_3 : (w7).frozen? ⟨qv3, 3, none⟩ = false := frozen_of HBv3_7.out 3
      have cv3_4 : (w7).cell? ⟨qv3, 4, none⟩ = some (.slice none 0 0) := (cell_of HBv3_7.out 4).trans rfl
      have fcv3_4 : (w7).frozen? ⟨qv3, 4, none⟩ = false := frozen_of HBv3_7.out 4
      have cv3_5 : (w7).cell? ⟨qv3, 5, none⟩ = some (.string ⟨#[]⟩) := (cell_of HBv3_7.out 5).trans rfl
      have fcv3_5 : (w7).frozen? ⟨qv3, 5, none⟩ = false := frozen_of HBv3_7.out 5
      have cv3_6 : (w7).cell? ⟨qv3, 6, none⟩ = some (.int .i64 0) := (cell_of HBv3_7.out 6).trans rfl
      have fcv3_6 : (w7).frozen? ⟨qv3, 6, none⟩ = false := frozen_of HBv3_7.out 6
      go_wp2_with fail
      obtain ⟨w8, hW8⟩ : ∃ W, W = (w7).setCell ⟨qv3, 0, none⟩ (.string ⟨#[]⟩) := ⟨_, rfl⟩
      rw [← hW8]
      have hb8 : Below w.heap.size w w8 := by rw [hW8]; exact hb7.setCell (p := ⟨qv3, 0, none⟩) HGv3.out _
      have HM8 : Hid ((w7).heap.size ≤ w8.heap.size) := by show _ ≤ _; rw [hW8]; simp
      have HOX_8 : Hid ((w8).ownsRow w.heap.size 9 1 (.slice oX vl.length pX) vl.length (vl.map Value.string)) := by show World.ownsRow _ _ _ _ _ _ _; rw [hW8]; exact owns_same HOX_7.out (fun g hg => heap_setCell_other _ _ g _ (own_ne HOX_7.out HBv3_7.out (by decide) g hg))
      have HOY_8 : Hid ((w8).ownsRow w.heap.size 9 1 (.slice oY yl.length pY) yl.length (yl.map Value.string)) := by show World.ownsRow _ _ _ _ _ _ _; rw [hW8]; exact owns_same HOY_7.out (fun g hg => heap_setCell_other _ _ g _ (own_ne HOY_7.out HBv3_7.out (by decide) g hg))
      have HOG_8 : Hid ((w8).ownsRow w.heap.size 75 2 (.slice oG k pG) k (flatF gs)) := by show World.ownsRow _ _ _ _ _ _ _; rw [hW8]; exact owns_same HOG_7.out (fun g hg => heap_setCell_other _ _ g _ (own_ne HOG_7.out HBv3_7.out (by decide) g hg))
      have HBv1_8 : Hid ((w8).heap[qv1]? = some (.cells #[.int .i64 m, .string p, .slice oa n cap, .string b] 38)) := by show _ = _; rw [hW8, heap_setCell_other _ _ _ _ HNv1v3.out]; exact HBv1_7.out
      have HBv2_8 : Hid ((w8).heap[qv2]? = some (.cells #[.int .i64 st, .slice ob k cb, .string d] 32)) := by show _ = _; rw [hW8, heap_setCell_other _ _ _ _ HNv2v3.out]; exact HBv2_7.out
      have HBv4_8 : Hid ((w8).heap[qv4]? = some (.cells #[.string p, .slice oX vl.length pX, .slice oY yl.length pY, .int .i64 st, .slice oG k pG, .string d, .int .i64 t] 34)) := by show _ = _; rw [hW8, heap_setCell_other _ _ _ _ HNv3v4.out.symm]; exact HBv4_7.out
      have HBv3_8 : Hid ((w8).heap[qv3]? = some (.cells #[.string ⟨#[]⟩, .slice none 0 0, .slice none 0 0, .int .i64 0, .slice none 0 0, .string ⟨#[]⟩, .int .i64 0] 34)) := by show _ = _; rw [hW8]; have h := heap_set _ _ 0 _ _ _ (.string ⟨#[]⟩) HBv3_7.out; simpa using h
      clear hb7 HOX_7 HOY_7 HOG_7 HBv1_7 HBv2_7 HBv3_7 HBv4_7 hW8
      obtain ⟨w9, hW9⟩ : ∃ W, W = (w8).setCell ⟨qv3, 1, none⟩ (.slice none 0 0) := ⟨_, rfl⟩
      rw [← hW9]
      have hb9 : Below w.heap.size w w9 := by rw [hW9]; exact hb8.setCell (p := ⟨qv3, 1, none⟩) HGv3.out _
      have HM9 : Hid ((w8).heap.size ≤ w9.heap.size) := by show _ ≤ _; rw [hW9]; simp
      have HOX_9 : Hid ((w9).ownsRow w.heap.size 9 1 (.slice oX vl.length pX) vl.length (vl.map Value.string)) := by show World.ownsRow _ _ _ _ _ _ _; rw [hW9]; exact owns_same HOX_8.out (fun g hg => heap_setCell_other _ _ g _ (own_ne HOX_8.out HBv3_8.out (by decide) g hg))
      have HOY_9 : Hid ((w9).ownsRow w.heap.size 9 1 (.slice oY yl.length pY) yl.length (yl.map Value.string)) := by show World.ownsRow _ _ _ _ _ _ _; rw [hW9]; exact owns_same HOY_8.out (fun g hg => heap_setCell_other _ _ g _ (own_ne HOY_8.out HBv3_8.out (by decide) g hg))
      have HOG_9 : Hid ((w9).ownsRow w.heap.size 75 2 (.slice oG k pG) k (flatF gs)) := by show World.ownsRow _ _ _ _ _ _ _; rw [hW9]; exact owns_same HOG_8.out (fun g hg => heap_setCell_other _ _ g _ (own_ne HOG_8.out HBv3_8.out (by decide) g hg))
      have HBv1_9 : Hid ((w9).heap[qv1]? = some (.cells #[.int .i64 m, .string p, .slice oa n cap, .string b] 38)) := by show _ = _; rw [hW9, heap_setCell_other _ _ _ _ HNv1v3.out]; exact HBv1_8.out
      have HBv2_9 : Hid ((w9).heap[qv2]? = some (.cells #[.int .i64 st, .slice ob k cb, .string d] 32)) := by show _ = _; rw [hW9, heap_setCell_other _ _ _ _ HNv2v3.out]; exact HBv2_8.out
      have HBv4_9 : Hid ((w9).heap[qv4]? = some (.cells #[.string p, .slice oX vl.length pX, .slice oY yl.length pY, .int .i64 st, .slice oG k pG, .string d, .int .i64 t] 34)) := by show _ = _; rw [hW9, heap_setCell_other _ _ _ _ HNv3v4.out.symm]; exact HBv4_8.out
      have HBv3_9 : Hid ((w9).heap[qv3]? = some (.cells #[.string ⟨#[]⟩, .slice none 0 0, .slice none 0 0, .int .i64 0, .slice none 0 0, .string ⟨#[]⟩, .int .i64 0] 34)) := by show _ = _; rw [hW9]; have h := heap_set _ _ 1 _ _ _ (.slice none 0 0) HBv3_8.out; simpa using h
      clear hb8 HOX_8 HOY_8 HOG_8 HBv1_8 HBv2_8 HBv3_8 HBv4_8 hW9
      obtain ⟨w10, hW10⟩ : ∃ W, W = (w9).setCell ⟨qv3, 2, none⟩ (.slice none 0 0) := ⟨_, rfl⟩
      rw [← hW10]
      have hb10 : Below w.heap.size w w10 := by rw [hW10]; exact hb9.setCell (p := ⟨qv3, 2, none⟩) HGv3.out _
      have HM10 : Hid ((w9).heap.size ≤ w10.heap.size) := by show _ ≤ _; rw [hW10]; simp
      have HOX_10 : Hid ((w10).ownsRow w.heap.size 9 1 (.slice oX vl.length pX) vl.length (vl.map Value.string)) := by show World.ownsRow _ _ _ _ _ _ _; rw [hW10]; exact owns_same HOX_9.out (fun g hg => heap_setCell_other _ _ g _ (own_ne HOX_9.out HBv3_9.out (by decide) g hg))
      have HOY_10 : Hid ((w10).ownsRow w.heap.size 9 1 (.slice oY yl.length pY) yl.length (yl.map Value.string)) := by show World.ownsRow _ _ _ _ _ _ _; rw [hW10]; exact owns_same HOY_9.out (fun g hg => heap_setCell_other _ _ g _ (own_ne HOY_9.out HBv3_9.out (by decide) g hg))
      have HOG_10 : Hid ((w10).ownsRow w.heap.size 75 2 (.slice oG k pG) k (flatF gs)) := by show World.ownsRow _ _ _ _ _ _ _; rw [hW10]; exact owns_same HOG_9.out (fun g hg => heap_setCell_other _ _ g _ (own_ne HOG_9.out HBv3_9.out (by decide) g hg))
      have HBv1_10 : Hid ((w10).heap[qv1]? = some (.cells #[.int .i64 m, .string p, .slice oa n cap, .string b] 38)) := by show _ = _; rw [hW10, heap_setCell_other _ _ _ _ HNv1v3.out]; exact HBv1_9.out
      have HBv2_10 : Hid ((w10).heap[qv2]? = some (.cells #[.int .i64 st, .slice ob k cb, .string d] 32)) := by show _ = _; rw [hW10, heap_setCell_other _ _ _ _ HNv2v3.out]; exact HBv2_9.out
      have HBv4_10 : Hid ((w10).heap[qv4]? = some (.cells #[.string p, .slice oX vl.length pX, .slice oY yl.length pY, .int .i64 st, .slice oG k pG, .string d, .int .i64 t] 34)) := by show _ = _; rw [hW10, heap_setCell_other _ _ _ _ HNv3v4.out.symm]; exact HBv4_9.out
      have HBv3_10 : Hid ((w10).heap[qv3]? = some (.cells #[.string ⟨#[]⟩, .slice none 0 0, .slice none 0 0, .int .i64 0, .slice none 0 0, .string ⟨#[]⟩, .int .i64 0] 34)) := by show _ = _; rw [hW10]; have h := heap_set _ _ 2 _ _ _ (.slice none 0 0) HBv3_9.out; simpa using h
      clear hb9 HOX_9 HOY_9 HOG_9 HBv1_9 HBv2_9 HBv3_9 HBv4_9 hW10
      obtain ⟨w11, hW11⟩ : ∃ W, W = (w10).setCell ⟨qv3, 3, none⟩ (.int .i64 0) := ⟨_, rfl⟩
      rw [← hW11]
      have hb11 : Below w.heap.size w w11 := by rw [hW11]; exact hb10.setCell (p := ⟨qv3, 3, none⟩) HGv3.out _
      have HM11 : Hid ((w10).heap.size ≤ w11.heap.size) := by show _ ≤ _; rw [hW11]; simp
      have HOX_11 : Hid ((w11).ownsRow w.heap.size 9 1 (.slice oX vl.length pX) vl.length (vl.map Value.string)) := by show World.ownsRow _ _ _ _ _ _ _; rw [hW11]; exact owns_same HOX_10.out (fun g hg => heap_setCell_other _ _ g _ (own_ne HOX_10.out HBv3_10.out (by decide) g hg))
      have HOY_11 : Hid ((w11).ownsRow w.heap.size 9 1 (.slice oY yl.length pY) yl.length (yl.map Value.string)) := by show World.ownsRow _ _ _ _ _ _ _; rw [hW11]; exact owns_same HOY_10.out (fun g hg => heap_setCell_other _ _ g _ (own_ne HOY_10.out HBv3_10.out (by decide) g hg))
      have HOG_11 : Hid ((w11).ownsRow w.heap.size 75 2 (.slice oG k pG) k (flatF gs)) := by show World.ownsRow _ _ _ _ _ _ _; rw [hW11]; exact owns_same HOG_10.out (fun g hg => heap_setCell_other _ _ g _ (own_ne HOG_10.out HBv3_10.out (by decide) g hg))
      have HBv1_11 : Hid ((w11).heap[qv1]? = some (.cells #[.int .i64 m, .string p, .slice oa n cap, .string b] 38)) := by show _ = _; rw [hW11, heap_setCell_other _ _ _ _ HNv1v3.out]; exact HBv1_10.out
      have HBv2_11 : Hid ((w11).heap[qv2]? = some (.cells #[.int .i64 st, .slice ob k cb, .string d] 32)) := by show _ = _; rw [hW11, heap_setCell_other _ _ _ _ HNv2v3.out]; exact HBv2_10.out
      have HBv4_11 : Hid ((w11).heap[qv4]? = some (.cells #[.string p, .slice oX vl.length pX, .slice oY yl.length pY, .int .i64 st, .slice oG k pG, .string d, .int .i64 t] 34)) := by show _ = _; rw [hW11, heap_setCell_other _ _ _ _ HNv3v4.out.symm]; exact HBv4_10.out
      have HBv3_11 : Hid ((w11).heap[qv3]? = some (.cells #[.string ⟨#[]⟩, .slice none 0 0, .slice none 0 0, .int .i64 0, .slice none 0 0, .string ⟨#[]⟩, .int .i64 0] 34)) := by show _ = _; rw [hW11]; have h := heap_set _ _ 3 _ _ _ (.int .i64 0) HBv3_10.out; simpa using h
      clear hb10 HOX_10 HOY_10 HOG_10 HBv1_10 HBv2_10 HBv3_10 HBv4_10 hW11
      obtain ⟨w12, hW12⟩ : ∃ W, W = (w11).setCell ⟨qv3, 4, none⟩ (.slice none 0 0) := ⟨_, rfl⟩
      rw [← hW12]
      have hb12 : Below w.heap.size w w12 := by rw [hW12]; exact hb11.setCell (p := ⟨qv3, 4, none⟩) HGv3.out _
      have HM12 : Hid ((w11).heap.size ≤ w12.heap.size) := by show _ ≤ _; rw [hW12]; simp
      have HOX_12 : Hid ((w12).ownsRow w.heap.size 9 1 (.slice oX vl.length pX) vl.length (vl.map Value.string)) := by show World.ownsRow _ _ _ _ _ _ _; rw [hW12]; exact owns_same HOX_11.out (fun g hg => heap_setCell_other _ _ g _ (own_ne HOX_11.out HBv3_11.out (by decide) g hg))
      have HOY_12 : Hid ((w12).ownsRow w.heap.size 9 1 (.slice oY yl.length pY) yl.length (yl.map Value.string)) := by show World.ownsRow _ _ _ _ _ _ _; rw [hW12]; exact owns_same HOY_11.out (fun g hg => heap_setCell_other _ _ g _ (own_ne HOY_11.out HBv3_11.out (by decide) g hg))
      have HOG_12 : Hid ((w12).ownsRow w.heap.size 75 2 (.slice oG k pG) k (flatF gs)) := by show World.ownsRow _ _ _ _ _ _ _; rw [hW12]; exact owns_same HOG_11.out (fun g hg => heap_setCell_other _ _ g _ (own_ne HOG_11.out HBv3_11.out (by decide) g hg))
      have HBv1_12 : Hid ((w12).heap[qv1]? = some (.cells #[.int .i64 m, .string p, .slice oa n cap, .string b] 38)) := by show _ = _; rw [hW12, heap_setCell_other _ _ _ _ HNv1v3.out]; exact HBv1_11.out
      have HBv2_12 : Hid ((w12).heap[qv2]? = some (.cells #[.int .i64 st, .slice ob k cb, .string d] 32)) := by show _ = _; rw [hW12, heap_setCell_other _ _ _ _ HNv2v3.out]; exact HBv2_11.out
      have HBv4_12 : Hid ((w12).heap[qv4]? = some (.cells #[.string p, .slice oX vl.length pX, .slice oY yl.length pY, .int .i64 st, .slice oG k pG, .string d, .int .i64 t] 34)) := by show _ = _; rw [hW12, heap_setCell_other _ _ _ _ HNv3v4.out.symm]; exact HBv4_11.out
      have HBv3_12 : Hid ((w12).heap[qv3]? = some (.cells #[.string ⟨#[]⟩, .slice none 0 0, .slice none 0 0, .int .i64 0, .slice none 0 0, .string ⟨#[]⟩, .int .i64 0] 34)) := by show _ = _; rw [hW12]; have h := heap_set _ _ 4 _ _ _ (.slice none 0 0) HBv3_11.out; simpa using h
      clear hb11 HOX_11 HOY_11 HOG_11 HBv1_11 HBv2_11 HBv3_11 HBv4_11 hW12
      obtain ⟨w13, hW13⟩ : ∃ W, W = (w12).setCell ⟨qv3, 5, none⟩ (.string ⟨#[]⟩) := ⟨_, rfl⟩
      rw [← hW13]
      have hb13 : Below w.heap.size w w13 := by rw [hW13]; exact hb12.setCell (p := ⟨qv3, 5, none⟩) HGv3.out _
      have HM13 : Hid ((w12).heap.size ≤ w13.heap.size) := by show _ ≤ _; rw [hW13]; simp
      have HOX_13 : Hid ((w13).ownsRow w.heap.size 9 1 (.slice oX vl.length pX) vl.length (vl.map Value.string)) := by show World.ownsRow _ _ _ _ _ _ _; rw [hW13]; exact owns_same HOX_12.out (fun g hg => heap_setCell_other _ _ g _ (own_ne HOX_12.out HBv3_12.out (by decide) g hg))
      have HOY_13 : Hid ((w13).ownsRow w.heap.size 9 1 (.slice oY yl.length pY) yl.length (yl.map Value.string)) := by show World.ownsRow _ _ _ _ _ _ _; rw [hW13]; exact owns_same HOY_12.out (fun g hg => heap_setCell_other _ _ g _ (own_ne HOY_12.out HBv3_12.out (by decide) g hg))
      have HOG_13 : Hid ((w13).ownsRow w.heap.size 75 2 (.slice oG k pG) k (flatF gs)) := by show World.ownsRow _ _ _ _ _ _ _; rw [hW13]; exact owns_same HOG_12.out (fun g hg => heap_setCell_other _ _ g _ (own_ne HOG_12.out HBv3_12.out (by decide) g hg))
      have HBv1_13 : Hid ((w13).heap[qv1]? = some (.cells #[.int .i64 m, .string p, .slice oa n cap, .string b] 38)) := by show _ = _; rw [hW13, heap_setCell_other _ _ _ _ HNv1v3.out]; exact HBv1_12.out
      have HBv2_13 : Hid ((w13).heap[qv2]? = some (.cells #[.int .i64 st, .slice ob k cb, .string d] 32)) := by show _ = _; rw [hW13, heap_setCell_other _ _ _ _ HNv2v3.out]; exact HBv2_12.out
      have HBv4_13 : Hid ((w13).heap[qv4]? = some (.cells #[.string p, .slice oX vl.length pX, .slice oY yl.length pY, .int .i64 st, .slice oG k pG, .string d, .int .i64 t] 34)) := by show _ = _; rw [hW13, heap_setCell_other _ _ _ _ HNv3v4.out.symm]; exact HBv4_12.out
      have HBv3_13 : Hid ((w13).heap[qv3]? = some (.cells #[.string ⟨#[]⟩, .slice none 0 0, .slice none 0 0, .int .i64 0, .slice none 0 0, .string ⟨#[]⟩, .int .i64 0] 34)) := by show _ = _; rw [hW13]; have h := heap_set _ _ 5 _ _ _ (.string ⟨#[]⟩) HBv3_12.out; simpa using h
      clear hb12 HOX_12 HOY_12 HOG_12 HBv1_12 HBv2_12 HBv3_12 HBv4_12 hW13
      obtain ⟨w14, hW14⟩ : ∃ W, W = (w13).setCell ⟨qv3, 6, none⟩ (.int .i64 0) := ⟨_, rfl⟩
      rw [← hW14]
      have hb14 : Below w.heap.size w w14 := by rw [hW14]; exact hb13.setCell (p := ⟨qv3, 6, none⟩) HGv3.out _
      have HM14 : Hid ((w13).heap.size ≤ w14.heap.size) := by show _ ≤ _; rw [hW14]; simp
      have HOX_14 : Hid ((w14).ownsRow w.heap.size 9 1 (.slice oX vl.length pX) vl.length (vl.map Value.string)) := by show World.ownsRow _ _ _ _ _ _ _; rw [hW14]; exact owns_same HOX_13.out (fun g hg => heap_setCell_other _ _ g _ (own_ne HOX_13.out HBv3_13.out (by decide) g hg))
      have HOY_14 : Hid ((w14).ownsRow w.heap.size 9 1 (.slice oY yl.length pY) yl.length (yl.map Value.string)) := by show World.ownsRow _ _ _ _ _ _ _; rw [hW14]; exact owns_same HOY_13.out (fun g hg => heap_setCell_other _ _ g _ (own_ne HOY_13.out HBv3_13.out (by decide) g hg))
      have HOG_14 : Hid ((w14).ownsRow w.heap.size 75 2 (.slice oG k pG) k (flatF gs)) := by show World.ownsRow _ _ _ _ _ _ _; rw [hW14]; exact owns_same HOG_13.out (fun g hg => heap_setCell_other _ _ g _ (own_ne HOG_13.out HBv3_13.out (by decide) g hg))
      have HBv1_14 : Hid ((w14).heap[qv1]? = some (.cells #[.int .i64 m, .string p, .slice oa n cap, .string b] 38)) := by show _ = _; rw [hW14, heap_setCell_other _ _ _ _ HNv1v3.out]; exact HBv1_13.out
      have HBv2_14 : Hid ((w14).heap[qv2]? = some (.cells #[.int .i64 st, .slice ob k cb, .string d] 32)) := by show _ = _; rw [hW14, heap_setCell_other _ _ _ _ HNv2v3.out]; exact HBv2_13.out
      have HBv4_14 : Hid ((w14).heap[qv4]? = some (.cells #[.string p, .slice oX vl.length pX, .slice oY yl.length pY, .int .i64 st, .slice oG k pG, .string d, .int .i64 t] 34)) := by show _ = _; rw [hW14, heap_setCell_other _ _ _ _ HNv3v4.out.symm]; exact HBv4_13.out
      have HBv3_14 : Hid ((w14).heap[qv3]? = some (.cells #[.string ⟨#[]⟩, .slice none 0 0, .slice none 0 0, .int .i64 0, .slice none 0 0, .string ⟨#[]⟩, .int .i64 0] 34)) := by show _ = _; rw [hW14]; have h := heap_set _ _ 6 _ _ _ (.int .i64 0) HBv3_13.out; simpa using h
      clear hb13 HOX_13 HOY_13 HOG_13 HBv1_13 HBv2_13 HBv3_13 HBv4_13 hW14
      have kv3_0 : (w14).cell? ⟨qv3, 0, none⟩ = some (.string ⟨#[]⟩) := (cell_of HBv3_14.out 0).trans rfl
      have kv3_1 : (w14).cell? ⟨qv3, 1, none⟩ = some (.slice none 0 0) := (cell_of HBv3_14.out 1).trans rfl
      have kv3_2 : (w14).cell? ⟨qv3, 2, none⟩ = some (.slice none 0 0) := (cell_of HBv3_14.out 2).trans rfl
      have kv3_3 : (w14).cell? ⟨qv3, 3, none⟩ = some (.int .i64 0) := (cell_of HBv3_14.out 3).trans rfl
      have kv3_4 : (w14).cell? ⟨qv3, 4, none⟩ = some (.slice none 0 0) := (cell_of HBv3_14.out 4).trans rfl
      have kv3_5 : (w14).cell? ⟨qv3, 5, none⟩ = some (.string ⟨#[]⟩) := (cell_of HBv3_14.out 5).trans rfl
      have kv3_6 : (w14).cell? ⟨qv3, 6, none⟩ = some (.int .i64 0) := (cell_of HBv3_14.out 6).trans rfl
      refine bodyPost_ret (v := .tuple #[.agg #[.string ⟨#[]⟩, .slice none 0 0, .slice none 0 0, .int .i64 0, .slice none 0 0, .string ⟨#[]⟩, .int .i64 0], .bool false]) (by simp [results, Tryz.results9, go_sem, kv3_0, kv3_1, kv3_2, kv3_3, kv3_4, kv3_5, kv3_6]) rfl ?_
      exact ⟨hb14, .inr ⟨HF.out, rfl⟩⟩
    | true =>
      have HOK : Hid (ObjP p vl yl st gs d t) := htu2.1 rfl
      clear htu2
      have cv3_0 : (w7).cell? ⟨qv3, 0, none⟩ = some (.string ⟨#[]⟩) := (cell_of HBv3_7.out 0).trans rfl
      have fcv3_0 : (w7).frozen? ⟨qv3, 0, none⟩ = false := frozen_of HBv3_7.out 0
      have cv3_1 : (w7).cell? ⟨qv3, 1, none⟩ = some (.slice none 0 0) := (cell_of HBv3_7.out 1).trans rfl
      have fcv3_1 : (w7).frozen? ⟨qv3, 1, none⟩ = false := frozen_of HBv3_7.out 1
      have cv3_2 : (w7).cell? ⟨qv3, 2, none⟩ = some (.slice none 0 0) := (cell_of HBv3_7.out 2).trans rfl
      have fcv3_2 : (w7).frozen? ⟨qv3, 2, none⟩ = false := frozen_of HBv3_7.out 2
      have cv3_3 : (w7).cell? ⟨qv3, 3, none⟩ = some (.int .i64 0) := (cell_of HBv3_7.out 3).trans rfl
      have fcv3_3 : (w7).frozen? ⟨qv3, 3, none⟩ = false := frozen_of HBv3_7.out 3
      have cv3_4 : (w7).cell? ⟨qv3, 4, none⟩ = some (.slice none 0 0) := (cell_of HBv3_7.out 4).trans rfl
      have fcv3_4 : (w7).frozen? ⟨qv3, 4, none⟩ = false := frozen_of HBv3_7.out 4
      have cv3_5 : (w7).cell? ⟨qv3, 5, none⟩ = some (.string ⟨#[]⟩) := (cell_of HBv3_7.out 5).trans rfl
      have fcv3_5 : (w7).frozen? ⟨qv3, 5, none⟩ = false := frozen_of HBv3_7.out 5
      have cv3_6 : (w7).cell? ⟨qv3, 6, none⟩ = some (.int .i64 0) := (cell_of HBv3_7.out 6).trans rfl
      have fcv3_6 : (w7).frozen? ⟨qv3, 6, none⟩ = false := frozen_of HBv3_7.out 6
      have cv4_0 : (w7).cell? ⟨qv4, 0, none⟩ = some (.string p) := (cell_of HBv4_7.out 0).trans rfl
      have cv4_1 : (w7).cell? ⟨qv4, 1, none⟩ = some (.slice oX vl.length pX) := (cell_of HBv4_7.out 1).trans rfl
      have cv4_2 : (w7).cell? ⟨qv4, 2, none⟩ = some (.slice oY yl.length pY) := (cell_of HBv4_7.out 2).trans rfl
      have cv4_3 : (w7).cell? ⟨qv4, 3, none⟩ = some (.int .i64 st) := (cell_of HBv4_7.out 3).trans rfl
      have cv4_4 : (w7).cell? ⟨qv4, 4, none⟩ = some (.slice oG k pG) := (cell_of HBv4_7.out 4).trans rfl
      have cv4_5 : (w7).cell? ⟨qv4, 5, none⟩ = some (.string d) := (cell_of HBv4_7.out 5).trans rfl
      have cv4_6 : (w7).cell? ⟨qv4, 6, none⟩ = some (.int .i64 t) := (cell_of HBv4_7.out 6).trans rfl
      go_wp2_with fail
      obtain ⟨w8, hW8⟩ : ∃ W, W = (w7).setCell ⟨qv3, 0, none⟩ (.string p) := ⟨_, rfl⟩
      rw [← hW8]
      have hb8 : Below w.heap.size w w8 := by rw [hW8]; exact hb7.setCell (p := ⟨qv3, 0, none⟩) HGv3.out _
      have HM8 : Hid ((w7).heap.size ≤ w8.heap.size) := by show _ ≤ _; rw [hW8]; simp
      have HOX_8 : Hid ((w8).ownsRow w.heap.size 9 1 (.slice oX vl.length pX) vl.length (vl.map Value.string)) := by show World.ownsRow _ _ _ _ _ _ _; rw [hW8]; exact owns_same HOX_7.out (fun g hg => heap_setCell_other _ _ g _ (own_ne HOX_7.out HBv3_7.out (by decide) g hg))
      have HOY_8 : Hid ((w8).ownsRow w.heap.size 9 1 (.slice oY yl.length pY) yl.length (yl.map Value.string)) := by show World.ownsRow _ _ _ _ _ _ _; rw [hW8]; exact owns_same HOY_7.out (fun g hg => heap_setCell_other _ _ g _ (own_ne HOY_7.out HBv3_7.out (by decide) g hg))
      have HOG_8 : Hid ((w8).ownsRow w.heap.size 75 2 (.slice oG k pG) k (flatF gs)) := by show World.ownsRow _ _ _ _ _ _ _; rw [hW8]; exact owns_same HOG_7.out (fun g hg => heap_setCell_other _ _ g _ (own_ne HOG_7.out HBv3_7.out (by decide) g hg))
      have HBv1_8 : Hid ((w8).heap[qv1]? = some (.cells #[.int .i64 m, .string p, .slice oa n cap, .string b] 38)) := by show _ = _; rw [hW8, heap_setCell_other _ _ _ _ HNv1v3.out]; exact HBv1_7.out
      have HBv2_8 : Hid ((w8).heap[qv2]? = some (.cells #[.int .i64 st, .slice ob k cb, .string d] 32)) := by show _ = _; rw [hW8, heap_setCell_other _ _ _ _ HNv2v3.out]; exact HBv2_7.out
      have HBv4_8 : Hid ((w8).heap[qv4]? = some (.cells #[.string p, .slice oX vl.length pX, .slice oY yl.length pY, .int .i64 st, .slice oG k pG, .string d, .int .i64 t] 34)) := by show _ = _; rw [hW8, heap_setCell_other _ _ _ _ HNv3v4.out.symm]; exact HBv4_7.out
      have HBv3_8 : Hid ((w8).heap[qv3]? = some (.cells #[.string p, .slice none 0 0, .slice none 0 0, .int .i64 0, .slice none 0 0, .string ⟨#[]⟩, .int .i64 0] 34)) := by show _ = _; rw [hW8]; have h := heap_set _ _ 0 _ _ _ (.string p) HBv3_7.out; simpa using h
      clear hb7 HOX_7 HOY_7 HOG_7 HBv1_7 HBv2_7 HBv3_7 HBv4_7 hW8
      obtain ⟨w9, hW9⟩ : ∃ W, W = (w8).setCell ⟨qv3, 1, none⟩ (.slice oX vl.length pX) := ⟨_, rfl⟩
      rw [← hW9]
      have hb9 : Below w.heap.size w w9 := by rw [hW9]; exact hb8.setCell (p := ⟨qv3, 1, none⟩) HGv3.out _
      have HM9 : Hid ((w8).heap.size ≤ w9.heap.size) := by show _ ≤ _; rw [hW9]; simp
      have HOX_9 : Hid ((w9).ownsRow w.heap.size 9 1 (.slice oX vl.length pX) vl.length (vl.map Value.string)) := by show World.ownsRow _ _ _ _ _ _ _; rw [hW9]; exact owns_same HOX_8.out (fun g hg => heap_setCell_other _ _ g _ (own_ne HOX_8.out HBv3_8.out (by decide) g hg))
      have HOY_9 : Hid ((w9).ownsRow w.heap.size 9 1 (.slice oY yl.length pY) yl.length (yl.map Value.string)) := by show World.ownsRow _ _ _ _ _ _ _; rw [hW9]; exact owns_same HOY_8.out (fun g hg => heap_setCell_other _ _ g _ (own_ne HOY_8.out HBv3_8.out (by decide) g hg))
      have HOG_9 : Hid ((w9).ownsRow w.heap.size 75 2 (.slice oG k pG) k (flatF gs)) := by show World.ownsRow _ _ _ _ _ _ _; rw [hW9]; exact owns_same HOG_8.out (fun g hg => heap_setCell_other _ _ g _ (own_ne HOG_8.out HBv3_8.out (by decide) g hg))
      have HBv1_9 : Hid ((w9).heap[qv1]? = some (.cells #[.int .i64 m, .string p, .slice oa n cap, .string b] 38)) := by show _ = _; rw [hW9, heap_setCell_other _ _ _ _ HNv1v3.out]; exact HBv1_8.out
      have HBv2_9 : Hid ((w9).heap[qv2]? = some (.cells #[.int .i64 st, .slice ob k cb, .string d] 32)) := by show _ = _; rw [hW9, heap_setCell_other _ _ _ _ HNv2v3.out]; exact HBv2_8.out
      have HBv4_9 : Hid ((w9).heap[qv4]? = some (.cells #[.string p, .slice oX vl.length pX, .slice oY yl.length pY, .int .i64 st, .slice oG k pG, .string d, .int .i64 t] 34)) := by show _ = _; rw [hW9, heap_setCell_other _ _ _ _ HNv3v4.out.symm]; exact HBv4_8.out
      have HBv3_9 : Hid ((w9).heap[qv3]? = some (.cells #[.string p, .slice oX vl.length pX, .slice none 0 0, .int .i64 0, .slice none 0 0, .string ⟨#[]⟩, .int .i64 0] 34)) := by show _ = _; rw [hW9]; have h := heap_set _ _ 1 _ _ _ (.slice oX vl.length pX) HBv3_8.out; simpa using h
      clear hb8 HOX_8 HOY_8 HOG_8 HBv1_8 HBv2_8 HBv3_8 HBv4_8 hW9
      obtain ⟨w10, hW10⟩ : ∃ W, W = (w9).setCell ⟨qv3, 2, none⟩ (.slice oY yl.length pY) := ⟨_, rfl⟩
      rw [← hW10]
      have hb10 : Below w.heap.size w w10 := by rw [hW10]; exact hb9.setCell (p := ⟨qv3, 2, none⟩) HGv3.out _
      have HM10 : Hid ((w9).heap.size ≤ w10.heap.size) := by show _ ≤ _; rw [hW10]; simp
      have HOX_10 : Hid ((w10).ownsRow w.heap.size 9 1 (.slice oX vl.length pX) vl.length (vl.map Value.string)) := by show World.ownsRow _ _ _ _ _ _ _; rw [hW10]; exact owns_same HOX_9.out (fun g hg => heap_setCell_other _ _ g _ (own_ne HOX_9.out HBv3_9.out (by decide) g hg))
      have HOY_10 : Hid ((w10).ownsRow w.heap.size 9 1 (.slice oY yl.length pY) yl.length (yl.map Value.string)) := by show World.ownsRow _ _ _ _ _ _ _; rw [hW10]; exact owns_same HOY_9.out (fun g hg => heap_setCell_other _ _ g _ (own_ne HOY_9.out HBv3_9.out (by decide) g hg))
      have HOG_10 : Hid ((w10).ownsRow w.heap.size 75 2 (.slice oG k pG) k (flatF gs)) := by show World.ownsRow _ _ _ _ _ _ _; rw [hW10]; exact owns_same HOG_9.out (fun g hg => heap_setCell_other _ _ g _ (own_ne HOG_9.out HBv3_9.out (by decide) g hg))
      have HBv1_10 : Hid ((w10).heap[qv1]? = some (.cells #[.int .i64 m, .string p, .slice oa n cap, .string b] 38)) := by show _ = _; rw [hW10, heap_setCell_other _ _ _ _ HNv1v3.out]; exact HBv1_9.out
      have HBv2_10 : Hid ((w10).heap[qv2]? = some (.cells #[.int .i64 st, .slice ob k cb, .string d] 32)) := by show _ = _; rw [hW10, heap_setCell_other _ _ _ _ HNv2v3.out]; exact HBv2_9.out
      have HBv4_10 : Hid ((w10).heap[qv4]? = some (.cells #[.string p, .slice oX vl.length pX, .slice oY yl.length pY, .int .i64 st, .slice oG k pG, .string d, .int .i64 t] 34)) := by show _ = _; rw [hW10, heap_setCell_other _ _ _ _ HNv3v4.out.symm]; exact HBv4_9.out
      have HBv3_10 : Hid ((w10).heap[qv3]? = some (.cells #[.string p, .slice oX vl.length pX, .slice oY yl.length pY, .int .i64 0, .slice none 0 0, .string ⟨#[]⟩, .int .i64 0] 34)) := by show _ = _; rw [hW10]; have h := heap_set _ _ 2 _ _ _ (.slice oY yl.length pY) HBv3_9.out; simpa using h
      clear hb9 HOX_9 HOY_9 HOG_9 HBv1_9 HBv2_9 HBv3_9 HBv4_9 hW10
      obtain ⟨w11, hW11⟩ : ∃ W, W = (w10).setCell ⟨qv3, 3, none⟩ (.int .i64 st) := ⟨_, rfl⟩
      rw [← hW11]
      have hb11 : Below w.heap.size w w11 := by rw [hW11]; exact hb10.setCell (p := ⟨qv3, 3, none⟩) HGv3.out _
      have HM11 : Hid ((w10).heap.size ≤ w11.heap.size) := by show _ ≤ _; rw [hW11]; simp
      have HOX_11 : Hid ((w11).ownsRow w.heap.size 9 1 (.slice oX vl.length pX) vl.length (vl.map Value.string)) := by show World.ownsRow _ _ _ _ _ _ _; rw [hW11]; exact owns_same HOX_10.out (fun g hg => heap_setCell_other _ _ g _ (own_ne HOX_10.out HBv3_10.out (by decide) g hg))
      have HOY_11 : Hid ((w11).ownsRow w.heap.size 9 1 (.slice oY yl.length pY) yl.length (yl.map Value.string)) := by show World.ownsRow _ _ _ _ _ _ _; rw [hW11]; exact owns_same HOY_10.out (fun g hg => heap_setCell_other _ _ g _ (own_ne HOY_10.out HBv3_10.out (by decide) g hg))
      have HOG_11 : Hid ((w11).ownsRow w.heap.size 75 2 (.slice oG k pG) k (flatF gs)) := by show World.ownsRow _ _ _ _ _ _ _; rw [hW11]; exact owns_same HOG_10.out (fun g hg => heap_setCell_other _ _ g _ (own_ne HOG_10.out HBv3_10.out (by decide) g hg))
      have HBv1_11 : Hid ((w11).heap[qv1]? = some (.cells #[.int .i64 m, .string p, .slice oa n cap, .string b] 38)) := by show _ = _; rw [hW11, heap_setCell_other _ _ _ _ HNv1v3.out]; exact HBv1_10.out
      have HBv2_11 : Hid ((w11).heap[qv2]? = some (.cells #[.int .i64 st, .slice ob k cb, .string d] 32)) := by show _ = _; rw [hW11, heap_setCell_other _ _ _ _ HNv2v3.out]; exact HBv2_10.out
      have HBv4_11 : Hid ((w11).heap[qv4]? = some (.cells #[.string p, .slice oX vl.length pX, .slice oY yl.length pY, .int .i64 st, .slice oG k pG, .string d, .int .i64 t] 34)) := by show _ = _; rw [hW11, heap_setCell_other _ _ _ _ HNv3v4.out.symm]; exact HBv4_10.out
      have HBv3_11 : Hid ((w11).heap[qv3]? = some (.cells #[.string p, .slice oX vl.length pX, .slice oY yl.length pY, .int .i64 st, .slice none 0 0, .string ⟨#[]⟩, .int .i64 0] 34)) := by show _ = _; rw [hW11]; have h := heap_set _ _ 3 _ _ _ (.int .i64 st) HBv3_10.out; simpa using h
      clear hb10 HOX_10 HOY_10 HOG_10 HBv1_10 HBv2_10 HBv3_10 HBv4_10 hW11
      obtain ⟨w12, hW12⟩ : ∃ W, W = (w11).setCell ⟨qv3, 4, none⟩ (.slice oG k pG) := ⟨_, rfl⟩
      rw [← hW12]
      have hb12 : Below w.heap.size w w12 := by rw [hW12]; exact hb11.setCell (p := ⟨qv3, 4, none⟩) HGv3.out _
      have HM12 : Hid ((w11).heap.size ≤ w12.heap.size) := by show _ ≤ _; rw [hW12]; simp
      have HOX_12 : Hid ((w12).ownsRow w.heap.size 9 1 (.slice oX vl.length pX) vl.length (vl.map Value.string)) := by show World.ownsRow _ _ _ _ _ _ _; rw [hW12]; exact owns_same HOX_11.out (fun g hg => heap_setCell_other _ _ g _ (own_ne HOX_11.out HBv3_11.out (by decide) g hg))
      have HOY_12 : Hid ((w12).ownsRow w.heap.size 9 1 (.slice oY yl.length pY) yl.length (yl.map Value.string)) := by show World.ownsRow _ _ _ _ _ _ _; rw [hW12]; exact owns_same HOY_11.out (fun g hg => heap_setCell_other _ _ g _ (own_ne HOY_11.out HBv3_11.out (by decide) g hg))
      have HOG_12 : Hid ((w12).ownsRow w.heap.size 75 2 (.slice oG k pG) k (flatF gs)) := by show World.ownsRow _ _ _ _ _ _ _; rw [hW12]; exact owns_same HOG_11.out (fun g hg => heap_setCell_other _ _ g _ (own_ne HOG_11.out HBv3_11.out (by decide) g hg))
      have HBv1_12 : Hid ((w12).heap[qv1]? = some (.cells #[.int .i64 m, .string p, .slice oa n cap, .string b] 38)) := by show _ = _; rw [hW12, heap_setCell_other _ _ _ _ HNv1v3.out]; exact HBv1_11.out
      have HBv2_12 : Hid ((w12).heap[qv2]? = some (.cells #[.int .i64 st, .slice ob k cb, .string d] 32)) := by show _ = _; rw [hW12, heap_setCell_other _ _ _ _ HNv2v3.out]; exact HBv2_11.out
      have HBv4_12 : Hid ((w12).heap[qv4]? = some (.cells #[.string p, .slice oX vl.length pX, .slice oY yl.length pY, .int .i64 st, .slice oG k pG, .string d, .int .i64 t] 34)) := by show _ = _; rw [hW12, heap_setCell_other _ _ _ _ HNv3v4.out.symm]; exact HBv4_11.out
      have HBv3_12 : Hid ((w12).heap[qv3]? = some (.cells #[.string p, .slice oX vl.length pX, .slice oY yl.length pY, .int .i64 st, .slice oG k pG, .string ⟨#[]⟩, .int .i64 0] 34)) := by show _ = _; rw [hW12]; have h := heap_set _ _ 4 _ _ _ (.slice oG k pG) HBv3_11.out; simpa using h
      clear hb11 HOX_11 HOY_11 HOG_11 HBv1_11 HBv2_11 HBv3_11 HBv4_11 hW12
      obtain ⟨w13, hW13⟩ : ∃ W, W = (w12).setCell ⟨qv3, 5, none⟩ (.string d) := ⟨_, rfl⟩
      rw [← hW13]
      have hb13 : Below w.heap.size w w13 := by rw [hW13]; exact hb12.setCell (p := ⟨qv3, 5, none⟩) HGv3.out _
      have HM13 : Hid ((w12).heap.size ≤ w13.heap.size) := by show _ ≤ _; rw [hW13]; simp
      have HOX_13 : Hid ((w13).ownsRow w.heap.size 9 1 (.slice oX vl.length pX) vl.length (vl.map Value.string)) := by show World.ownsRow _ _ _ _ _ _ _; rw [hW13]; exact owns_same HOX_12.out (fun g hg => heap_setCell_other _ _ g _ (own_ne HOX_12.out HBv3_12.out (by decide) g hg))
      have HOY_13 : Hid ((w13).ownsRow w.heap.size 9 1 (.slice oY yl.length pY) yl.length (yl.map Value.string)) := by show World.ownsRow _ _ _ _ _ _ _; rw [hW13]; exact owns_same HOY_12.out (fun g hg => heap_setCell_other _ _ g _ (own_ne HOY_12.out HBv3_12.out (by decide) g hg))
      have HOG_13 : Hid ((w13).ownsRow w.heap.size 75 2 (.slice oG k pG) k (flatF gs)) := by show World.ownsRow _ _ _ _ _ _ _; rw [hW13]; exact owns_same HOG_12.out (fun g hg => heap_setCell_other _ _ g _ (own_ne HOG_12.out HBv3_12.out (by decide) g hg))
      have HBv1_13 : Hid ((w13).heap[qv1]? = some (.cells #[.int .i64 m, .string p, .slice oa n cap, .string b] 38)) := by show _ = _; rw [hW13, heap_setCell_other _ _ _ _ HNv1v3.out]; exact HBv1_12.out
      have HBv2_13 : Hid ((w13).heap[qv2]? = some (.cells #[.int .i64 st, .slice ob k cb, .string d] 32)) := by show _ = _; rw [hW13, heap_setCell_other _ _ _ _ HNv2v3.out]; exact HBv2_12.out
      have HBv4_13 : Hid ((w13).heap[qv4]? = some (.cells #[.string p, .slice oX vl.length pX, .slice oY yl.length pY, .int .i64 st, .slice oG k pG, .string d, .int .i64 t] 34)) := by show _ = _; rw [hW13, heap_setCell_other _ _ _ _ HNv3v4.out.symm]; exact HBv4_12.out
      have HBv3_13 : Hid ((w13).heap[qv3]? = some (.cells #[.string p, .slice oX vl.length pX, .slice oY yl.length pY, .int .i64 st, .slice oG k pG, .string d, .int .i64 0] 34)) := by show _ = _; rw [hW13]; have h := heap_set _ _ 5 _ _ _ (.string d) HBv3_12.out; simpa using h
      clear hb12 HOX_12 HOY_12 HOG_12 HBv1_12 HBv2_12 HBv3_12 HBv4_12 hW13
      obtain ⟨w14, hW14⟩ : ∃ W, W = (w13).setCell ⟨qv3, 6, none⟩ (.int .i64 t) := ⟨_, rfl⟩
      rw [← hW14]
      have hb14 : Below w.heap.size w w14 := by rw [hW14]; exact hb13.setCell (p := ⟨qv3, 6, none⟩) HGv3.out _
      have HM14 : Hid ((w13).heap.size ≤ w14.heap.size) := by show _ ≤ _; rw [hW14]; simp
      have HOX_14 : Hid ((w14).ownsRow w.heap.size 9 1 (.slice oX vl.length pX) vl.length (vl.map Value.string)) := by show World.ownsRow _ _ _ _ _ _ _; rw [hW14]; exact owns_same HOX_13.out (fun g hg => heap_setCell_other _ _ g _ (own_ne HOX_13.out HBv3_13.out (by decide) g hg))
      have HOY_14 : Hid ((w14).ownsRow w.heap.size 9 1 (.slice oY yl.length pY) yl.length (yl.map Value.string)) := by show World.ownsRow _ _ _ _ _ _ _; rw [hW14]; exact owns_same HOY_13.out (fun g hg => heap_setCell_other _ _ g _ (own_ne HOY_13.out HBv3_13.out (by decide) g hg))
      have HOG_14 : Hid ((w14).ownsRow w.heap.size 75 2 (.slice oG k pG) k (flatF gs)) := by show World.ownsRow _ _ _ _ _ _ _; rw [hW14]; exact owns_same HOG_13.out (fun g hg => heap_setCell_other _ _ g _ (own_ne HOG_13.out HBv3_13.out (by decide) g hg))
      have HBv1_14 : Hid ((w14).heap[qv1]? = some (.cells #[.int .i64 m, .string p, .slice oa n cap, .string b] 38)) := by show _ = _; rw [hW14, heap_setCell_other _ _ _ _ HNv1v3.out]; exact HBv1_13.out
      have HBv2_14 : Hid ((w14).heap[qv2]? = some (.cells #[.int .i64 st, .slice ob k cb, .string d] 32)) := by show _ = _; rw [hW14, heap_setCell_other _ _ _ _ HNv2v3.out]; exact HBv2_13.out
      have HBv4_14 : Hid ((w14).heap[qv4]? = some (.cells #[.string p, .slice oX vl.length pX, .slice oY yl.length pY, .int .i64 st, .slice oG k pG, .string d, .int .i64 t] 34)) := by show _ = _; rw [hW14, heap_setCell_other _ _ _ _ HNv3v4.out.symm]; exact HBv4_13.out
      have HBv3_14 : Hid ((w14).heap[qv3]? = some (.cells #[.string p, .slice oX vl.length pX, .slice oY yl.length pY, .int .i64 st, .slice oG k pG, .string d, .int .i64 t] 34)) := by show _ = _; rw [hW14]; have h := heap_set _ _ 6 _ _ _ (.int .i64 t) HBv3_13.out; simpa using h
      clear hb13 HOX_13 HOY_13 HOG_13 HBv1_13 HBv2_13 HBv3_13 HBv4_13 hW14
      have kv3_0 : (w14).cell? ⟨qv3, 0, none⟩ = some (.string p) := (cell_of HBv3_14.out 0).trans rfl
      have kv3_1 : (w14).cell? ⟨qv3, 1, none⟩ = some (.slice oX vl.length pX) := (cell_of HBv3_14.out 1).trans rfl
      have kv3_2 : (w14).cell? ⟨qv3, 2, none⟩ = some (.slice oY yl.length pY) := (cell_of HBv3_14.out 2).trans rfl
      have kv3_3 : (w14).cell? ⟨qv3, 3, none⟩ = some (.int .i64 st) := (cell_of HBv3_14.out 3).trans rfl
      have kv3_4 : (w14).cell? ⟨qv3, 4, none⟩ = some (.slice oG k pG) := (cell_of HBv3_14.out 4).trans rfl
      have kv3_5 : (w14).cell? ⟨qv3, 5, none⟩ = some (.string d) := (cell_of HBv3_14.out 5).trans rfl
      have kv3_6 : (w14).cell? ⟨qv3, 6, none⟩ = some (.int .i64 t) := (cell_of HBv3_14.out 6).trans rfl
      refine bodyPost_ret (v := .tuple #[.agg #[.string p, .slice oX vl.length pX, .slice oY yl.length pY, .int .i64 st, .slice oG k pG, .string d, .int .i64 t], .bool true]) (by simp [results, Tryz.results9, go_sem, kv3_0, kv3_1, kv3_2, kv3_3, kv3_4, kv3_5, kv3_6]) rfl ?_
      exact ⟨hb14, .inl ⟨⟨HMK.out, HOK.out⟩, _, _, _, rfl, ⟨HOX_14.out, HOY_14.out, HOG_14.out, fun g hg e => by have h1 := LOY.out g e; have h2 := HIX.out g hg; have := HM6.out; omega⟩⟩⟩

end Go.Proofs.YtdlhicdfldecgaaGreat
