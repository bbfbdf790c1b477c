/- What the proof of FnExactJudgeHere leans on: contracts of the program's and the specification's functions, and plain facts (part 8 of 11). -/
import Derived.Test.YtpacdigfnneoeaaGreatDoorFnExactJudgeHereG
set_option maxHeartbeats 16000000
set_option maxRecDepth 100000
namespace Go.Proofs.YtpacdigfnneoeaaGreatDoor
open Go.RowKit
open Go.Lib hiding intOf
theorem pre_age {x : ByteArray} (h : Lib.hasPrefix x.data.toList maW.data.toList = true) : ageOf x = some (numV ⟨(Lib.trimPrefix x.data.toList maW.data.toList).toArray⟩) := by
 unfold ageOf
 have e : (bs x).take 8 = bs maW := by
  have := List.isPrefixOf_iff_prefix.1 h
  obtain ⟨t, ht⟩ := this
  show x.data.toList.take 8 = _
  rw [← ht]
  rfl
 rw [if_pos e]
 unfold Lib.trimPrefix
 rw [if_pos h]
 rfl
theorem pre_none {x : ByteArray} (h : Lib.hasPrefix x.data.toList maW.data.toList = false) : ageOf x = none := by
 unfold ageOf
 rw [if_neg]
 intro e
 have : Lib.hasPrefix x.data.toList maW.data.toList = true := by
  refine List.isPrefixOf_iff_prefix.2 ⟨x.data.toList.drop 8, ?_⟩
  have e' : x.data.toList.take 8 = maW.data.toList := e
  rw [← e', List.take_append_drop]
 rw [this] at h
 cases h
theorem saidBy_any (x : ByteArray) (w : World) (hs : x.size ≤ 4000000) :
    Calls Tryz.prog 190 #[.string x] w fun e w' => e = .returned (saidB x).v ∧ Below w.heap.size w w' := by
  have HR0 : Hid (CcAt (w.alloc (.cells cc0.cs 106)) w.heap.size cc0) := heap_alloc_new w _
  have HB0 : Hid (Below w.heap.size w (w.alloc (.cells cc0.cs 106))) := (Below.refl _ _).alloc (Nat.le_refl _) _
  obtain ⟨W1, hW1⟩ : ∃ W, W = w.alloc (.cells cc0.cs 106) := ⟨_, rfl⟩
  have HW1 : Hid (w.alloc (.cells #[.bool false, .bool false, .bool false, .bool false, .bool false, .int .i64 0] 106) = W1) := hW1.symm
  rw [← hW1] at HR0 HB0
  obtain ⟨H, hH⟩ : ∃ H, H = w.heap.size := ⟨_, rfl⟩
  have HW : Hid (w.heap.size = H) := hH.symm
  rw [← hH] at HR0 HB0
  clear hW1
  cases hp : Lib.hasPrefix x.data.toList maW.data.toList with
  | true =>
    have HA : Hid _ := pre_age hp
    obtain ⟨t, ht⟩ : ∃ t : ByteArray, t = ⟨(Lib.trimPrefix x.data.toList maW.data.toList).toArray⟩ := ⟨_, rfl⟩
    have hts : t.size ≤ maxLen := by
      rw [ht]
      unfold Lib.trimPrefix maxLen
      rw [if_pos hp]
      show (List.toArray _).size ≤ _
      simp
      omega
    rw [← ht] at HA
    have HT : Hid (⟨(Lib.trimPrefix x.data.toList maW.data.toList).toArray⟩ = t) := ht.symm
    clear ht
    go_enter Tryz.func190, Tryz.ntmps190
    go_wp2_with fail
    rw [HW1.out, ← hH]
    refine (Tryz.strings_CutPrefix x maW _).mono ?_
    rintro e w1 ⟨rfl, rfl⟩
    rw [hp, HT.out]
    clear hp hH HW1
    go_wp2_with fail
    refine (implNumRead_any t _ hts).mono ?_
    rintro e w2 ⟨b, n, rfl, hb1, hb2, hb3, b2⟩
    have HV : Hid (numV t = n) := by
      show _ = _
      unfold numV
      cases b with
      | true => rw [if_pos (hb1.1 rfl), hb2 rfl]
      | false => rw [if_neg (fun h => nomatch hb1.2 h), hb3 rfl]
    obtain ⟨c, hc⟩ : ∃ c : CcD, c = ⟨false, false, false, false, true, n⟩ := ⟨_, rfl⟩
    have HC : Hid (saidB x = c) := by show _ = _; unfold saidB; rw [HA.out, HV.out, hc]
    have hR := HR0.out.same (b2.block _ HR0.out.lt)
    have HB : Hid (Below H w (putCc w2 H c)) := below_putCc (HB0.out.trans (b2.mono (Nat.le_of_lt HR0.out.lt))) (Nat.le_refl _) c
    obtain ⟨r0, r1, r2, r3, r4, r5⟩ := hR.cells
    have f0 := hR.frozen 0
    have f1 := hR.frozen 1
    have f2 := hR.frozen 2
    have f3 := hR.frozen 3
    have f4 := hR.frozen 4
    have f5 := hR.frozen 5
    obtain ⟨m0, m1, m2, m3, m4, m5⟩ := (hR.putAll c).cells
    unfold putCc at m0 m1 m2 m3 m4 m5 HB
    subst hc
    dsimp only at m0 m1 m2 m3 m4 m5 HB
    clear hb1 hb2 hb3 hR b2 HR0 HB0 HA
    go_wp2_with fail
    refine bodyPost_ret (v := CcD.v ⟨false, false, false, false, true, n⟩) (by simp [results, Tryz.results190, go_sem, m0, m1, m2, m3, m4, m5, CcD.v]) rfl ?_
    exact ⟨by rw [HC.out], by rw [HW.out]; exact HB.out⟩
  | false =>
    have HA : Hid (saidB x = saidF x) := by show _ = _; unfold saidB; rw [pre_none hp]
    go_enter Tryz.func190, Tryz.ntmps190
    go_wp2_with fail
    rw [HW1.out, ← hH]
    refine (Tryz.strings_CutPrefix x maW _).mono ?_
    rintro e w1 ⟨rfl, rfl⟩
    rw [hp]
    clear hp hH HW1
    go_wp2_with fail
    refine (saidByFlag_any x _).mono ?_
    rintro e w2 ⟨rfl, b2⟩
    obtain ⟨c, hc⟩ : ∃ c, c = saidF x := ⟨_, rfl⟩
    rw [← hc] at HA ⊢
    have hR := HR0.out.same (b2.block _ HR0.out.lt)
    have HB : Hid (Below H w (putCc w2 H c)) := below_putCc (HB0.out.trans (b2.mono (Nat.le_of_lt HR0.out.lt))) (Nat.le_refl _) c
    obtain ⟨r0, r1, r2, r3, r4, r5⟩ := hR.cells
    have f0 := hR.frozen 0
    have f1 := hR.frozen 1
    have f2 := hR.frozen 2
    have f3 := hR.frozen 3
    have f4 := hR.frozen 4
    have f5 := hR.frozen 5
    obtain ⟨m0, m1, m2, m3, m4, m5⟩ := (hR.putAll c).cells
    unfold putCc at m0 m1 m2 m3 m4 m5 HB
    clear hc hR b2 HR0 HB0
    unfold CcD.v
    go_wp2_with fail
    refine bodyPost_ret (v := c.v) (by simp [results, Tryz.results190, go_sem, m0, m1, m2, m3, m4, m5, CcD.v]) rfl ?_
    exact ⟨by rw [HA.out], by rw [HW.out]; exact HB.out⟩
structure CiRd (w : World) (H : Nat) (c : CcD) (v : Value) (l : Ts) (wr : World) : Prop where
 res : CcAt wr H cc0
 cur : CcAt wr (H + 1) c
 row : wr.ownsRow (H + 1 + 1) 9 1 v l.length (l.map Value.string)
 low : Below H w wr
theorem CiRd.later {w : World} {H : Nat} {c : CcD} {v : Value} {l : Ts} {wr w' : World} (h : CiRd w H c v l wr) (hb : Below wr.heap.size wr w') : CiRd w H c v l w' :=
 ⟨h.res.same (hb.block _ h.res.lt), h.cur.same (hb.block _ h.cur.lt), owns_below h.row hb (fun _ hg => owns_lt h.row hg), h.low.trans (hb.mono (Nat.le_of_lt h.res.lt))⟩
theorem CiRd.putCc {w : World} {H : Nat} {c : CcD} {v : Value} {l : Ts} {wr : World} (h : CiRd w H c v l wr) (d : CcD) : CiRd w H d v l (putCc wr (H + 1) d) :=
 ⟨h.res.same (putCc_other (by omega)), h.cur.putAll d, owns_same h.row (fun j hj => putCc_other (by have := (own_ltR h.row hj).1; omega)), below_putCc h.low (by omega) d⟩
theorem implCcRead_any (s : ByteArray) (w : World) (hs : s.size ≤ 1048576) :
    Calls Tryz.prog 165 #[.string s] w fun e w' => e = .returned (ccR s).v ∧ Below w.heap.size w w' := by
  obtain ⟨H, hH⟩ : ∃ H, H = w.heap.size := ⟨_, rfl⟩
  have HW : Hid (w.heap.size = H) := hH.symm
  obtain ⟨W0, hW0⟩ : ∃ W, W = (w.alloc (.cells cc0.cs 106)).alloc (.cells cc0.cs 106) := ⟨_, rfl⟩
  have HA : Hid (CcAt W0 H cc0 ∧ CcAt W0 (H + 1) cc0 ∧ Below H w W0 ∧ W0.heap.size = H + 1 + 1) := by
    have e1 := heap_alloc_new w (.cells cc0.cs 106)
    have e2 := heap_alloc_new (w.alloc (.cells cc0.cs 106)) (.cells cc0.cs 106)
    rw [World.size_alloc] at e2
    refine ⟨?_, ?_, ?_, ?_⟩
    · unfold CcAt; rw [hW0, hH, heap_alloc_old _ _ (by simp)]; exact e1
    · unfold CcAt; rw [hW0, hH]; exact e2
    · rw [hW0, hH]; exact ((Below.refl _ w).alloc (Nat.le_refl _) _).alloc (by simp) _
    · rw [hW0, hH]; simp
  have HW0 : Hid ((w.alloc (.cells #[.bool false, .bool false, .bool false, .bool false, .bool false, .int .i64 0] 106)).alloc (.cells #[.bool false, .bool false, .bool false, .bool false, .bool false, .int .i64 0] 106) = W0) := hW0.symm
  clear hW0
  go_enter Tryz.func165, Tryz.ntmps165
  go_wp2_with fail
  rw [HW0.out, ← hH]
  clear hH
  refine (implSplit_any s _ hs).mono ?_
  rintro e w0 ⟨v, rfl, hown, bb⟩
  rw [HA.out.2.2.2] at hown bb
  obtain ⟨l, hl⟩ : ∃ l, l = splitL s := ⟨_, rfl⟩
  rw [← hl] at hown
  have HLS : Hid (splitL s = l) := hl.symm
  have HLB : Hid (∀ x ∈ l, x.size ≤ 1048576) := fun x hx => by rw [hl] at hx; have := (splitL_le s).2 x hx; omega
  have hll : l.length ≤ 1048577 := by rw [hl]; have := (splitL_le s).1; omega
  have HS1 : Hid (CiRd w H (ccTo (l.take 0)) v l w0) := ⟨HA.out.1.same (bb.block _ (by omega)), HA.out.2.1.same (bb.block _ (by omega)), hown, HA.out.2.2.1.trans (bb.mono (by omega))⟩
  obtain ⟨oa, cp, rfl⟩ := slice_of_owns hown
  obtain ⟨n, hn⟩ : ∃ n, n = l.length := ⟨_, rfl⟩
  have HN : Hid (l.length = n) := hn.symm
  rw [← hn] at hll HS1 ⊢
  clear hown bb hl hn
  go_wp2_with fail
  go_loopw [9] (fun i wr => ∃ k : Nat, k ≤ n ∧ i = .int .i64 (k : Int) ∧ Hid (CiRd w H (ccTo (l.take k)) (.slice oa n cp) l wr)) (fun i _ => n - (intOf i).toNat)
  case atStart => exact ⟨0, Nat.zero_le _, rfl, HS1⟩
  case round =>
    obtain ⟨k, hk, rfl, HS⟩ := hrel
    by_cases hlt : (k : Int) < (n : Int)
    · have hkl : k < l.length := by have := HN.out; omega
      obtain ⟨g, rfl⟩ : ∃ g, oa = some ⟨g, 0, none⟩ := by
        rcases HS.out.row.2 with ⟨e, _⟩ | ⟨g, _, _, e, _⟩
        · injection e with _ e2 _; omega
        · injection e with e1 _ _; exact ⟨g, e1⟩
      obtain ⟨x, hx⟩ : ∃ x, x = l[k]'hkl := ⟨_, rfl⟩
      have hc0 : wr.cell? ⟨g, k, none⟩ = some (.string x) := by
        have hr := HS.out.row
        rw [HN.out] at hr
        exact (owns_cellC hr k (.string x) (by rw [List.getElem?_map, List.getElem?_eq_getElem hkl, hx]; rfl)).1
      have hxs : x.size ≤ 1048576 := by rw [hx]; exact HLB.out _ (List.getElem_mem hkl)
      obtain ⟨y, hy⟩ : ∃ y, y = lowerOf x := ⟨_, rfl⟩
      have hys : y.size ≤ 4000000 := by rw [hy, ccLow_size]; omega
      have HY : Hid (lowerOf x = y) := hy.symm
      obtain ⟨d, hd⟩ : ∃ d, d = ccTo (l.take (k + 1)) := ⟨_, rfl⟩
      obtain ⟨c, hc⟩ : ∃ c, c = ccTo (l.take k) := ⟨_, rfl⟩
      obtain ⟨u, hu⟩ : ∃ u, u = saidB y := ⟨_, rfl⟩
      have HSB : Hid (saidB y = u) := hu.symm
      have HTD : Hid (toge c u = d) := by
        show _ = _
        rw [hd, List.take_succ_eq_append_getElem hkl, ccTo_snoc, ← hx, ← hy, step_toge (ccTo_fit _), hc, hu]
      have HTG : Hid (∀ W, Calls Tryz.prog 189 #[.agg #[.bool c.ns, .bool c.nc, .bool c.pr, .bool c.mu, .bool c.ha, .int .i64 c.age], .agg #[.bool u.ns, .bool u.nc, .bool u.pr, .bool u.mu, .bool u.ha, .int .i64 u.age]] W fun e w' => e = .returned (toge c u).v ∧ Below W.heap.size W w') := fun W => together_any c u W
      have HD : Hid (∀ W, CiRd w H d (.slice (some ⟨g, 0, none⟩) n cp) l W → CiRd w H (ccTo (l.take (k + 1))) (.slice (some ⟨g, 0, none⟩) n cp) l W) := fun W h => by rw [← hd]; exact h
      rw [← hc] at HS
      clear hx hy hkl hc hd hu
      have HT1 : Hid (CiRd w H c (.slice (some ⟨g, 0, none⟩) n cp) l wr.drew) := HS.out.later (Below.refl _ _).drew
      go_upto_region 5 with fail
      clear hc0 HS
      refine wp_region_held_drew (S := fun _ => True) (by kernel_rfl) trivial (fun _ => ?_)
      refine wpAnyH_takeD (i := 1) (v := .string x) (some 14) rfl rfl (by kernel_rfl) (by kernel_rfl) (by kernel_rfl) (fun _ _ _ h => h) (Or.inl ⟨by rfl, by intro W _; go_simp⟩) trivial ?_
      go_frame
      refine wpAnyH_ready (rs := [0, 2]) (by kernel_rfl) (by simp) ?_
      refine AllReadyH.cons rfl (fun K hK => ?_) (AllReadyH.cons rfl (fun K hK => ?_) AllReadyH.nil)
      · obtain ⟨q0, q1, q2, q3, q4, q5⟩ := HT1.out.cur.cells
        go_simp
        refine hK.out _ _ trivial (fun _ => ?_)
        clear hK K q0 q1 q2 q3 q4 q5
        refine wpAnyH_ready (rs := [2]) (by kernel_rfl) (by simp) ?_
        refine AllReadyH.cons rfl (fun K hK => ?_) AllReadyH.nil
        go_simp
        refine (implLower_any x _).mono ?_
        rintro e w2 ⟨rfl, hb2⟩
        rw [HY.out]
        have HT2 : Hid (CiRd w H c (.slice (some ⟨g, 0, none⟩) n cp) l w2) := HT1.out.later hb2
        clear hb2
        refine hK.out _ _ trivial (fun _ => ?_)
        clear hK K HT1
        refine wpAnyH_ready (rs := [3]) (by kernel_rfl) (by simp) ?_
        refine AllReadyH.cons rfl (fun K hK => ?_) AllReadyH.nil
        go_simp
        refine (saidBy_any y _ hys).mono ?_
        rintro e w3 ⟨rfl, hb3⟩
        rw [HSB.out]
        unfold CcD.v
        have HT3 : Hid (CiRd w H c (.slice (some ⟨g, 0, none⟩) n cp) l w3) := HT2.out.later hb3
        clear hb3
        refine hK.out _ _ trivial (fun _ => ?_)
        clear hK K HT2
        refine wpAnyH_ready (rs := [4]) (by kernel_rfl) (by simp) ?_
        refine AllReadyH.cons rfl (fun K hK => ?_) AllReadyH.nil
        go_simp
        refine (HTG.out _).mono ?_
        rintro e w4 ⟨rfl, hb4⟩
        rw [HTD.out]
        unfold CcD.v
        have HT4 : Hid (CiRd w H c (.slice (some ⟨g, 0, none⟩) n cp) l w4) := HT3.out.later hb4
        clear hb4
        refine hK.out _ _ trivial (fun _ => ?_)
        clear hK K HT3
        refine wpAnyH_ready (rs := [5]) (by kernel_rfl) (by simp) ?_
        refine AllReadyH.cons rfl (fun K hK => ?_) AllReadyH.nil
        have HZ : Hid (CiRd w H d (.slice (some ⟨g, 0, none⟩) n cp) l (putCc w4 (H + 1) d)) := HT4.out.putCc d
        obtain ⟨q0, q1, q2, q3, q4, q5⟩ := HT4.out.cur.cells
        have f0 := HT4.out.cur.frozen 0
        have f1 := HT4.out.cur.frozen 1
        have f2 := HT4.out.cur.frozen 2
        have f3 := HT4.out.cur.frozen 3
        have f4 := HT4.out.cur.frozen 4
        have f5 := HT4.out.cur.frozen 5
        unfold putCc at HZ
        clear HT4
        go_simp
        refine hK.out _ _ trivial (fun _ => ?_)
        clear hK K q0 q1 q2 q3 q4 q5 f0 f1 f2 f3 f4 f5
        refine wpAnyH_done (by kernel_rfl) ?_ _
        go_wp2_with fail
        go_roundw
        case rel => exact ⟨k + 1, by omega, by go_num, HD.out _ HZ.out⟩
        case measure => simp [intOf]; omega
      · go_simp
        refine (implLower_any x _).mono ?_
        rintro e w2 ⟨rfl, hb2⟩
        rw [HY.out]
        have HT2 : Hid (CiRd w H c (.slice (some ⟨g, 0, none⟩) n cp) l w2) := HT1.out.later hb2
        clear hb2
        refine hK.out _ _ trivial (fun _ => ?_)
        clear hK K HT1
        refine wpAnyH_ready (rs := [0, 3]) (by kernel_rfl) (by simp) ?_
        refine AllReadyH.cons rfl (fun K hK => ?_) (AllReadyH.cons rfl (fun K hK => ?_) AllReadyH.nil)
        · obtain ⟨q0, q1, q2, q3, q4, q5⟩ := HT2.out.cur.cells
          go_simp
          refine hK.out _ _ trivial (fun _ => ?_)
          clear hK K q0 q1 q2 q3 q4 q5
          refine wpAnyH_ready (rs := [3]) (by kernel_rfl) (by simp) ?_
          refine AllReadyH.cons rfl (fun K hK => ?_) AllReadyH.nil
          go_simp
          refine (saidBy_any y _ hys).mono ?_
          rintro e w3 ⟨rfl, hb3⟩
          rw [HSB.out]
          unfold CcD.v
          have HT3 : Hid (CiRd w H c (.slice (some ⟨g, 0, none⟩) n cp) l w3) := HT2.out.later hb3
          clear hb3
          refine hK.out _ _ trivial (fun _ => ?_)
          clear hK K HT2
          refine wpAnyH_ready (rs := [4]) (by kernel_rfl) (by simp) ?_
          refine AllReadyH.cons rfl (fun K hK => ?_) AllReadyH.nil
          go_simp
          refine (HTG.out _).mono ?_
          rintro e w4 ⟨rfl, hb4⟩
          rw [HTD.out]
          unfold CcD.v
          have HT4 : Hid (CiRd w H c (.slice (some ⟨g, 0, none⟩) n cp) l w4) := HT3.out.later hb4
          clear hb4
          refine hK.out _ _ trivial (fun _ => ?_)
          clear hK K HT3
          refine wpAnyH_ready (rs := [5]) (by kernel_rfl) (by simp) ?_
          refine AllReadyH.cons rfl (fun K hK => ?_) AllReadyH.nil
          have HZ : Hid (CiRd w H d (.slice (some ⟨g, 0, none⟩) n cp) l (putCc w4 (H + 1) d)) := HT4.out.putCc d
          obtain ⟨q0, q1, q2, q3, q4, q5⟩ := HT4.out.cur.cells
          have f0 := HT4.out.cur.frozen 0
          have f1 := HT4.out.cur.frozen 1
          have f2 := HT4.out.cur.frozen 2
          have f3 := HT4.out.cur.frozen 3
          have f4 := HT4.out.cur.frozen 4
          have f5 := HT4.out.cur.frozen 5
          unfold putCc at HZ
          clear HT4
          go_simp
          refine hK.out _ _ trivial (fun _ => ?_)
          clear hK K q0 q1 q2 q3 q4 q5 f0 f1 f2 f3 f4 f5
          refine wpAnyH_done (by kernel_rfl) ?_ _
          go_wp2_with fail
          go_roundw
          case rel => exact ⟨k + 1, by omega, by go_num, HD.out _ HZ.out⟩
          case measure => simp [intOf]; omega
        · go_simp
          refine (saidBy_any y _ hys).mono ?_
          rintro e w3 ⟨rfl, hb3⟩
          rw [HSB.out]
          unfold CcD.v
          have HT3 : Hid (CiRd w H c (.slice (some ⟨g, 0, none⟩) n cp) l w3) := HT2.out.later hb3
          clear hb3
          refine hK.out _ _ trivial (fun _ => ?_)
          clear hK K HT2
          refine wpAnyH_ready (rs := [0]) (by kernel_rfl) (by simp) ?_
          refine AllReadyH.cons rfl (fun K hK => ?_) AllReadyH.nil
          obtain ⟨q0, q1, q2, q3, q4, q5⟩ := HT3.out.cur.cells
          go_simp
          refine hK.out _ _ trivial (fun _ => ?_)
          clear hK K q0 q1 q2 q3 q4 q5
          refine wpAnyH_ready (rs := [4]) (by kernel_rfl) (by simp) ?_
          refine AllReadyH.cons rfl (fun K hK => ?_) AllReadyH.nil
          go_simp
          refine (HTG.out _).mono ?_
          rintro e w4 ⟨rfl, hb4⟩
          rw [HTD.out]
          unfold CcD.v
          have HT4 : Hid (CiRd w H c (.slice (some ⟨g, 0, none⟩) n cp) l w4) := HT3.out.later hb4
          clear hb4
          refine hK.out _ _ trivial (fun _ => ?_)
          clear hK K HT3
          refine wpAnyH_ready (rs := [5]) (by kernel_rfl) (by simp) ?_
          refine AllReadyH.cons rfl (fun K hK => ?_) AllReadyH.nil
          have HZ : Hid (CiRd w H d (.slice (some ⟨g, 0, none⟩) n cp) l (putCc w4 (H + 1) d)) := HT4.out.putCc d
          obtain ⟨q0, q1, q2, q3, q4, q5⟩ := HT4.out.cur.cells
          have f0 := HT4.out.cur.frozen 0
          have f1 := HT4.out.cur.frozen 1
          have f2 := HT4.out.cur.frozen 2
          have f3 := HT4.out.cur.frozen 3
          have f4 := HT4.out.cur.frozen 4
          have f5 := HT4.out.cur.frozen 5
          unfold putCc at HZ
          clear HT4
          go_simp
          refine hK.out _ _ trivial (fun _ => ?_)
          clear hK K q0 q1 q2 q3 q4 q5 f0 f1 f2 f3 f4 f5
          refine wpAnyH_done (by kernel_rfl) ?_ _
          go_wp2_with fail
          go_roundw
          case rel => exact ⟨k + 1, by omega, by go_num, HD.out _ HZ.out⟩
          case measure => simp [intOf]; omega
    · obtain rfl : k = n := by omega
      have HE : Hid (ccTo (l.take k) = ccR s) := by
        show _ = _
        rw [List.take_of_length_le (by rw [HN.out]; exact Nat.le_refl _)]
        unfold ccR
        rw [HLS.out]
      rw [HE.out] at HS
      obtain ⟨c, hc⟩ : ∃ c, c = ccR s := ⟨_, rfl⟩
      rw [← hc] at HS
      have HC : Hid (c = ccR s) := hc
      obtain ⟨q0, q1, q2, q3, q4, q5⟩ := HS.out.cur.cells
      obtain ⟨r0, r1, r2, r3, r4, r5⟩ := HS.out.res.cells
      have f0 := HS.out.res.frozen 0
      have f1 := HS.out.res.frozen 1
      have f2 := HS.out.res.frozen 2
      have f3 := HS.out.res.frozen 3
      have f4 := HS.out.res.frozen 4
      have f5 := HS.out.res.frozen 5
      obtain ⟨m0, m1, m2, m3, m4, m5⟩ := (HS.out.res.putAll c).cells
      have HB : Hid (Below H w (putCc wr H c)) := below_putCc HS.out.low (Nat.le_refl _) c
      clear hc HE
      unfold putCc at m0 m1 m2 m3 m4 m5 HB
      go_wp2_with fail
      refine bodyPost_ret (v := c.v) (by simp [results, Tryz.results165, go_sem, m0, m1, m2, m3, m4, m5, CcD.v]) rfl ?_
      exact ⟨by rw [HC.out], by rw [HW.out]; exact HB.out⟩
theorem implCcOf_any (v : Value) (n base : Nat) (fs : Fs) (w : World) (hv : FieldsV w base v n fs) (hn : n ≤ 1073741824) (hcp : CopyF fs) (hsz : (getV fs ccName).size ≤ 1048576) :
  Calls Tryz.prog 136 #[v] w fun e w' => e = .returned (ccR (getV fs ccName)).v ∧ Below w.heap.size w w' := by
 have hv1 : FieldsV (w.alloc (.cells cc0.cs 106)) base v n fs := hv.below ((Below.refl _ _).alloc (Nat.le_refl _) _)
 have HR0 : Hid (CcAt (w.alloc (.cells cc0.cs 106)) w.heap.size cc0) := heap_alloc_new w _
 have HB0 : Hid (Below w.heap.size w (w.alloc (.cells cc0.cs 106))) := (Below.refl _ _).alloc (Nat.le_refl _) _
 obtain ⟨t, ht⟩ := exq (getV fs ccName)
 have HT : Hid (getV fs ccName = t) := ht.symm
 rw [← ht] at hsz
 obtain ⟨c, hc⟩ := exq (ccR t)
 have HC : Hid (ccR t = c) := hc.symm
 rw [← ht, ← hc]
 clear ht hc hv
 go_enter Tryz.func136, Tryz.ntmps136
 go_wp2_with fail
 refine (implGet_any v n base fs ccName _ hv1 hn hcp).mono ?_
 rintro e w1 ⟨rfl, b1⟩
 rw [HT.out]
 have HR1 : Hid (CcAt w1 w.heap.size cc0) := HR0.out.same (b1.block _ HR0.out.lt)
 have HB1 : Hid (Below w.heap.size w w1) := HB0.out.trans (b1.mono (Nat.le_of_lt HR0.out.lt))
 clear hv1 b1 HR0 HB0
 go_wp2_with fail
 refine (implCcRead_any t _ hsz).mono ?_
 rintro e w2 ⟨rfl, b2⟩
 rw [HC.out]
 have hR := HR1.out.same (b2.block _ HR1.out.lt)
 obtain ⟨r0, r1, r2, r3, r4, r5⟩ := hR.cells
 have f0 := hR.frozen 0
 have f1 := hR.frozen 1
 have f2 := hR.frozen 2
 have f3 := hR.frozen 3
 have f4 := hR.frozen 4
 have f5 := hR.frozen 5
 obtain ⟨m0, m1, m2, m3, m4, m5⟩ := (hR.putAll c).cells
 have HB : Hid (Below w.heap.size w (putCc w2 w.heap.size c)) := below_putCc (HB1.out.trans (b2.mono (Nat.le_of_lt HR1.out.lt))) (Nat.le_refl _) c
 unfold putCc at m0 m1 m2 m3 m4 m5 HB
 clear hR b2 HR1 HB1
 unfold CcD.v
 go_wp2_with fail
 refine bodyPost_ret (v := c.v) (by simp [results, Tryz.results136, go_sem, m0, m1, m2, m3, m4, m5, CcD.v]) rfl ?_
 exact ⟨rfl, HB.out⟩
theorem isRightGet_any (m : Int) (p : Tx) (v : Value) (b : Tx) (n base : Nat) (fs : Fs) (w : World) (hv : FieldsV w base v n fs) (hn : n ≤ 1073741824) (hsz : WalkF n fs) (hp : p.size ≤ maxLen) (hb : b.size ≤ maxLen) :
  Calls Tryz.prog 204 #[.agg #[.int .i64 m, .string p, v, .string b]] w fun e w' => BoolIs (ReqP m p fs b ∧ m = 1) w e w' := by
 obtain ⟨oa, cap, rfl, _⟩ := hv.slice
 obtain ⟨r, hr⟩ := exq (w.heap.size)
 obtain ⟨W1, hW1⟩ := exq (w.alloc (.cells #[.int .i64 m, .string p, .slice oa n cap, .string b] 58))
 have HW1 := hsy hW1
 have H1 : Hid (W1.heap[r]? = some (.cells #[.int .i64 m, .string p, .slice oa n cap, .string b] 58)) := by show _ = _; rw [hW1, hr]; exact heap_alloc_new w _
 have HB1 : Hid (Below w.heap.size w W1) := by show Below _ _ _; rw [hW1]; exact (Below.refl _ _).alloc (Nat.le_refl _) _
 have hv1 := hv.below HB1.out
 obtain ⟨⟨c0, c1, c2, c3⟩, _⟩ := four_facts H1.out
 clear hW1 hv
 go_enter Tryz.func204, Tryz.ntmps204
 go_upto_region 1 with fail
 rw [HW1.out, ← hr]
 clear hr HW1
 go_wp2_with fail
 refine (implReqOk_any m p _ b n base fs _ hv1 hn hsz hp hb).mono ?_
 rintro e w2 ⟨t, rfl, ht, b2⟩
 have HB2 : Hid (Below w.heap.size w w2) := HB1.out.trans (b2.mono HB1.out.size)
 have H2 : Hid (w2.heap[r]? = some (.cells #[.int .i64 m, .string p, .slice oa n cap, .string b] 58)) := by show _ = _; rw [b2.block r (blt H1.out)]; exact H1.out
 clear c0 c1 c2 c3 hv1 H1 HB1 b2
 cases t
 ·have HF : Hid (¬ (ReqP m p fs b ∧ m = 1)) := fun h => nomatch ht.2 h.1
  clear ht
  go_wp2_with fail
  go_ret
  exact BoolIs.no HF.out HB2.out
 have HQ : Hid (ReqP m p fs b) := ht.1 rfl
 obtain ⟨⟨c0, _⟩, _⟩ := four_facts H2.out
 have HT : Hid ((m == 1) = true ↔ (ReqP m p fs b ∧ m = 1)) := by show _ ↔ _; simp [HQ.out]
 clear ht HQ H2
 go_wp2_with fail
 go_ret
 exact ⟨_, rfl, HT.out, HB2.out⟩
theorem mayBeFromHere_any (ma : Int) (pa : Tx) (va : Value) (ba : Tx) (na basea : Nat) (fsa : Fs) (w : World) (hva : FieldsV w basea va na fsa) (hna : na ≤ 1048576) (hsa : WalkF na fsa) (hpa : pa.size ≤ maxLen) (hba : ba.size ≤ maxLen) (hga : ∀ x, (getV fsa x).size ≤ 1048576) (hca : CopyF fsa) :
  Calls Tryz.prog 183 #[.agg #[.int .i64 ma, .string pa, va, .string ba]] w fun e w' => BoolIs (HereP ma pa fsa ba) w e w' := by
 obtain ⟨oa, ca, hsl, _⟩ := hva.slice
 subst hsl
 have HVa : Hid (∀ W, Below w.heap.size w W → FieldsV W basea (.slice oa na ca) na fsa) := fun W h => hva.below h
 have HLFa : Hid (fsa.length = na) := hva.len
 have HSa := hid hsa
 have HPMa := hid hpa
 have HBMa := hid hba
 have HQVa := hid hga
 have HCa := hid hca
 clear hva hsa hpa hba hga hca
 obtain ⟨ka, hka⟩ := exq (ccR (getV fsa ccName))
 have HCCa : Hid (∀ W, Below w.heap.size w W → Calls Tryz.prog 136 #[.slice oa na ca] W fun e w' => e = .returned (.agg #[.bool ka.ns, .bool ka.nc, .bool ka.pr, .bool ka.mu, .bool ka.ha, .int .i64 ka.age]) ∧ Below W.heap.size W w') := fun W hW => by
  have h := implCcOf_any _ na basea fsa W (HVa.out W hW) (by omega) HCa.out (HQVa.out _)
  rw [← hka] at h
  exact h
 have HCKa : Hid (ccR (getV fsa ccName) = ka) := hka.symm
 clear hka
 obtain ⟨xa0, xa1, xa2, xa3, xa4, xa5⟩ := ka
 dsimp only at HCCa
 have hfna := fun W => cc_ns xa0 xa1 xa2 xa3 xa4 xa5 W
 have hfca := fun W => cc_nc xa0 xa1 xa2 xa3 xa4 xa5 W
 have hb0 := Below.refl w.heap.size w
 go_enter Tryz.func183, Tryz.ntmps183
 go_upto_region 1 with fail
 obtain ⟨q1, hq1⟩ := exq (w.heap.size)
 obtain ⟨w1, hW1⟩ := exq (w.alloc (.cells #[.int .i64 ma, .string pa, .slice oa na ca, .string ba] 58))
 have hz1 := hq1.symm
 rw [← hW1]; try rw [← hq1]
 have hs1 := hsa hW1 hz1
 have bw := bal hW1
 have hb1 := hbt hb0 bw
 have B1_1 := hnew hW1 hz1
 clear hb0 bw hW1 hz1
 clear hs1 hq1
 have c1_0 := (k4c B1_1).1
 have c1_1 := (k4c B1_1).2.1
 have c1_2 := (k4c B1_1).2.2.1
 have c1_3 := (k4c B1_1).2.2.2
 go_wp2_with fail
 refine (isRightGet_any ma pa _ ba na basea fsa _ (HVa.out _ hb1) (by omega) HSa.out HPMa.out HBMa.out).mono ?_
 rintro e w2 ⟨rg, rfl, hrg, bw⟩
 have hb2 := hbt hb1 bw
 have B1_2 := hblk B1_1 bw
 clear hb1 bw
 clear c1_0 c1_1 c1_2 c1_3
 cases rg
 ·have HNrg : Hid (¬ (ReqP ma pa fsa ba ∧ ma = 1)) := fun h => nomatch hrg.2 h
  clear hrg
  go_wp2_with fail
  go_ret
  exact BoolIs.no (fun h => HNrg.out h.1) hb2
 have HYrg : Hid (ReqP ma pa fsa ba ∧ ma = 1) := hrg.1 rfl
 clear hrg
 have c1_2 := (k4c B1_2).2.2.1
 go_wp2_with fail
 refine (HCCa.out _ hb2).mono ?_
 rintro e w3 ⟨rfl, bw⟩
 have hb3 := hbt hb2 bw
 have B1_3 := hblk B1_2 bw
 clear hb2 bw
 clear c1_2
 cases xa0
 ·have HXNa : Hid ((ccR (getV fsa ccName)).ns = false) := by show _ = _; rw [HCKa.out]
  go_wp2_with fail
  go_ret
  exact BoolIs.yes ⟨HYrg.out, HXNa.out⟩ hb3
 have HXNa : Hid ((ccR (getV fsa ccName)).ns = true) := by show _ = _; rw [HCKa.out]
 go_wp2_with fail
 go_ret
 exact BoolIs.no (fun h => by have h1 := h.2; rw [HXNa.out] at h1; exact absurd h1 (by decide)) hb3
theorem implAlike_any (ma : Int) (pa : Tx) (va : Value) (ba : Tx) (na basea : Nat) (fsa : Fs) (mb : Int) (pb : Tx) (vb : Value) (bb : Tx) (nb baseb : Nat) (fsb : Fs) (w : World) (hva : FieldsV w basea va na fsa) (hna : na ≤ 1048576) (hsa : WalkF na fsa) (hpa : pa.size ≤ maxLen) (hba : ba.size ≤ maxLen) (hga : ∀ x, (getV fsa x).size ≤ 1048576) (hca : CopyF fsa) (hvb : FieldsV w baseb vb nb fsb) (hnb : nb ≤ 1048576) (hsb : WalkF nb fsb) (hpb : pb.size ≤ maxLen) (hbb : bb.size ≤ maxLen) (hgb : ∀ x, (getV fsb x).size ≤ 1048576) (hcb : CopyF fsb) :
  Calls Tryz.prog 157 #[.agg #[.int .i64 ma, .string pa, va, .string ba], .agg #[.int .i64 mb, .string pb, vb, .string bb]] w fun e w' => BoolIs (AlikeP ma pa fsa ba mb pb fsb bb) w e w' := by
 obtain ⟨oa, ca, hsl, _⟩ := hva.slice
 subst hsl
 have HVa : Hid (∀ W, Below w.heap.size w W → FieldsV W basea (.slice oa na ca) na fsa) := fun W h => hva.below h
 have HLFa : Hid (fsa.length = na) := hva.len
 have HSa := hid hsa
 have HPMa := hid hpa
 have HBMa := hid hba
 have HQVa := hid hga
 have HCa := hid hca
 clear hva hsa hpa hba hga hca
 obtain ⟨ob, cb, hsl, _⟩ := hvb.slice
 subst hsl
 have HVb : Hid (∀ W, Below w.heap.size w W → FieldsV W baseb (.slice ob nb cb) nb fsb) := fun W h => hvb.below h
 have HLFb : Hid (fsb.length = nb) := hvb.len
 have HSb := hid hsb
 have HPMb := hid hpb
 have HBMb := hid hbb
 have HQVb := hid hgb
 have HCb := hid hcb
 clear hvb hsb hpb hbb hgb hcb
 have hb0 := Below.refl w.heap.size w
 go_enter Tryz.func157, Tryz.ntmps157
 go_upto_region 1 with fail
 obtain ⟨q1, hq1⟩ := exq (w.heap.size)
 obtain ⟨w1, hW1⟩ := exq (w.alloc (.cells #[.int .i64 ma, .string pa, .slice oa na ca, .string ba] 58))
 have hz1 := hq1.symm
 rw [← hW1]; try rw [← hq1]
 have hs1 := hsa hW1 hz1
 have bw := bal hW1
 have hb1 := hbt hb0 bw
 have B1_1 := hnew hW1 hz1
 clear hb0 bw hW1 hz1
 obtain ⟨q2, hq2⟩ := exq (q1 + 1)
 obtain ⟨w2, hW2⟩ := exq (w1.alloc (.cells #[.int .i64 mb, .string pb, .slice ob nb cb, .string bb] 58))
 have hz2 : w1.heap.size = q2 := by rw [hq2]; exact hs1
 rw [← hW2]; try rw [← hq2]
 have hs2 := hsa hW2 hz2
 have bw := bal hW2
 have hb2 := hbt hb1 bw
 have B1_2 := hblk B1_1 bw
 have B2_2 := hnew hW2 hz2
 clear hb1 bw hW2 hz2
 clear hs2 hq2 hs1 hq1
 have c1_0 := (k4c B1_2).1
 have c1_1 := (k4c B1_2).2.1
 have c1_2 := (k4c B1_2).2.2.1
 have c1_3 := (k4c B1_2).2.2.2
 go_wp2_with fail
 refine (mayBeFromHere_any ma pa _ ba na basea fsa _ (HVa.out _ hb2) (by omega) HSa.out HPMa.out HBMa.out HQVa.out HCa.out).mono ?_
 rintro e w3 ⟨ha, rfl, hha, bw⟩
 have hb3 := hbt hb2 bw
 have B1_3 := hblk B1_2 bw
 have B2_3 := hblk B2_2 bw
 clear hb2 bw
 clear c1_0 c1_1 c1_2 c1_3
 cases ha
 ·have HNha : Hid (¬ (HereP ma pa fsa ba)) := fun h => nomatch hha.2 h
  clear hha
  go_wp2_with fail
  go_ret
  exact BoolIs.no (fun h => HNha.out h.1.1) hb3
 have HYha : Hid (HereP ma pa fsa ba) := hha.1 rfl
 clear hha
 have c2_0 := (k4c B2_3).1
 have c2_1 := (k4c B2_3).2.1
 have c2_2 := (k4c B2_3).2.2.1
 have c2_3 := (k4c B2_3).2.2.2
 go_wp2_with fail
 refine (mayBeFromHere_any mb pb _ bb nb baseb fsb _ (HVb.out _ hb3) (by omega) HSb.out HPMb.out HBMb.out HQVb.out HCb.out).mono ?_
 rintro e w4 ⟨hb, rfl, hhb, bw⟩
 have hb4 := hbt hb3 bw
 have B1_4 := hblk B1_3 bw
 have B2_4 := hblk B2_3 bw
 clear hb3 bw
 clear c2_0 c2_1 c2_2 c2_3
 cases hb
 ·have HNhb : Hid (¬ (HereP mb pb fsb bb)) := fun h => nomatch hhb.2 h
  clear hhb
  go_wp2_with fail
  go_ret
  exact BoolIs.no (fun h => HNhb.out h.1.2) hb4
 have HYhb : Hid (HereP mb pb fsb bb) := hhb.1 rfl
 clear hhb
 by_cases hc1 : pa = pb
 rotate_left
 ·have hc1b : ((pa).toList == (pb).toList) = false := text_beq_no hc1
  have HPP := hid hc1
  clear hc1
  have c1_1 := (k4c B1_4).2.1
  have c2_1 := (k4c B2_4).2.1
  go_wp2_with fail
  go_ret
  exact BoolIs.no (fun h => HPP.out h.2.1) hb4
 have hc1b : ((pa).toList == (pb).toList) = true := (text_beq _ _).2 hc1
 have HPP := hid hc1
 clear hc1
 have c1_1 := (k4c B1_4).2.1
 have c1_2 := (k4c B1_4).2.2.1
 have c2_1 := (k4c B2_4).2.1
 have c2_2 := (k4c B2_4).2.2.1
 go_wp2_with fail
 refine (equalFld_any _ _ na nb _ _ fsa fsb _ (HVa.out _ hb4) (HVb.out _ hb4) (by omega) (by omega)).mono ?_
 rintro e w5 ⟨lf, rfl, hlf, bw⟩
 have hb5 := hbt hb4 bw
 have B1_5 := hblk B1_4 bw
 have B2_5 := hblk B2_4 bw
 clear hb4 bw
 clear c1_1 c1_2 c2_1 c2_2
 cases lf
 rotate_left
 ·have HYlf : Hid (fsa = fsb) := hlf.1 rfl
  clear hlf
  go_wp2_with fail
  go_ret
  exact BoolIs.yes ⟨⟨HYha.out, HYhb.out⟩, HPP.out, HYlf.out⟩ hb5
 have HNlf : Hid (¬ (fsa = fsb)) := fun h => nomatch hlf.2 h
 clear hlf
 go_wp2_with fail
 go_ret
 exact BoolIs.no (fun h => HNlf.out h.2.2) hb5
def ReqF (d : FlD) : Prop := ReqP d.qmt d.qpa d.qfs d.qbd
def ObjF (d : FlD) : Prop := ObjP d.opa d.oxs d.oys d.ost d.ofs d.obd d.otm
def AlikeF (d e : FlD) : Prop := AlikeP d.qmt d.qpa d.qfs d.qbd e.qmt e.qpa e.qfs e.qbd
def FlOk (d : FlD) : Prop := ReqF d ∧ (1 ≤ (d.who.length : Int) ∧ (d.who.length : Int) ≤ 5) ∧ (d.has = true → ObjF d)
def FlAtOk (fl : List FlD) (i : Nat) : Prop := FlOk (flAt fl i) ∧ ∀ k, k < i → ¬ AlikeF (flAt fl k) (flAt fl i)
def FlsP (fl : List FlD) : Prop := fl.length ≤ 5 ∧ ∀ i, i < fl.length → FlAtOk fl i
def CacheP (c : CaD) : Prop := ShelfP c.s ∧ (0 ≤ c.now ∧ c.now ≤ 1000000) ∧ FlsP c.fl ∧ c.se.length ≤ 1500 ∧ c.sn.length ≤ 1500
theorem flR_req {w : World} {B : Nat} {d : FlD} {u2 u4 u6 u7 u9 : Value} (h : RowsO w B (flR (⟨d, u2, u4, u6, u7, u9⟩ : FlV))) : FieldsV w B u2 d.qfs.length d.qfs := FieldsV.of_owns (h.own (⟨185, 2, u2, d.qfs.length, flatF d.qfs⟩ : Rw) (by simp [flR]))
theorem flR_obj {w : World} {B : Nat} {d : FlD} {u2 u4 u6 u7 u9 : Value} (h : RowsO w B (flR (⟨d, u2, u4, u6, u7, u9⟩ : FlV))) : ObjO w B u6 d.oxs.length d.oxs u7 d.oys.length d.oys u9 d.ofs.length d.ofs :=
 rows_obj3 (RowsO.sub h (by unfold flR; apply List.Sublist.cons; apply List.Sublist.cons; exact List.Sublist.refl _))
theorem specReqOk_f (d : FlD) (u2 u4 u6 u7 u9 : Value) (B : Nat) (w : World) (h : RowsO w B (flR (⟨d, u2, u4, u6, u7, u9⟩ : FlV))) (hs : FlSmall d) :
  Calls Tryz.prog 33 #[.agg #[.int .i64 d.qmt, .string d.qpa, u2, .string d.qbd]] w fun e w' => BoolIs (ReqF d) w e w' :=
 specReqOk_any d.qmt d.qpa u2 d.qbd _ B d.qfs w (flR_req h) (ltd hs.qfs.1) (fs_walk hs.qfs.2) (ltd hs.qpa) (ltd hs.qbd)
theorem specObjOk_f (d : FlD) (u2 u4 u6 u7 u9 : Value) (B : Nat) (w : World) (h : RowsO w B (flR (⟨d, u2, u4, u6, u7, u9⟩ : FlV))) (hs : FlSmall d) :
  Calls Tryz.prog 34 #[.agg #[.string d.opa, u6, u7, .int .i64 d.ost, u9, .string d.obd, .int .i64 d.otm]] w fun e w' => BoolIs (ObjF d) w e w' := by
 have ho := flR_obj h
 obtain ⟨o1, c1, rfl⟩ := slice_of_owns ho.names
 obtain ⟨o2, c2, rfl⟩ := slice_of_owns ho.vals
 exact specObjOk_any d.opa o1 _ c1 d.oxs o2 _ c2 d.oys d.ost u9 _ B d.ofs d.obd d.otm w (texts_view ho.names) (texts_view ho.vals) (FieldsV.of_owns ho.flds) (ltd hs.oxs.1) (ltd hs.oys.1) (ltd hs.ofs.1) (small_text hs.oxs.2) (small_text hs.oys.2) (fs_walk hs.ofs.2) (ltd hs.opa) (ltd hs.obd) (fs_get hs.ofs.2 _)
theorem specAlike_f (d e : FlD) (u2 u4 u6 u7 u9 t2 t4 t6 t7 t9 : Value) (B C : Nat) (w : World) (h : RowsO w B (flR (⟨d, u2, u4, u6, u7, u9⟩ : FlV))) (h2 : RowsO w C (flR (⟨e, t2, t4, t6, t7, t9⟩ : FlV))) (hd : FlSmall d) (he : FlSmall e) :
  Calls Tryz.prog 35 #[.agg #[.int .i64 d.qmt, .string d.qpa, u2, .string d.qbd], .agg #[.int .i64 e.qmt, .string e.qpa, t2, .string e.qbd]] w fun e' w' => BoolIs (AlikeF d e) w e' w' :=
 specAlike_any d.qmt d.qpa u2 d.qbd _ B d.qfs e.qmt e.qpa t2 e.qbd _ C e.qfs w (flR_req h) hd.qfs.1 (fs_walk hd.qfs.2) (ltd hd.qpa) (ltd hd.qbd) (fs_get hd.qfs.2) (flR_req h2) he.qfs.1 (fs_walk he.qfs.2) (ltd he.qpa) (ltd he.qbd) (fs_get he.qfs.2)
theorem implReqOk_f (d : FlD) (u2 u4 u6 u7 u9 : Value) (B : Nat) (w : World) (h : RowsO w B (flR (⟨d, u2, u4, u6, u7, u9⟩ : FlV))) (hs : FlSmall d) :
  Calls Tryz.prog 154 #[.agg #[.int .i64 d.qmt, .string d.qpa, u2, .string d.qbd]] w fun e w' => BoolIs (ReqF d) w e w' :=
 implReqOk_any d.qmt d.qpa u2 d.qbd _ B d.qfs w (flR_req h) (ltd hs.qfs.1) (fs_walk hs.qfs.2) (ltd hs.qpa) (ltd hs.qbd)
theorem implObjOk_f (d : FlD) (u2 u4 u6 u7 u9 : Value) (B : Nat) (w : World) (h : RowsO w B (flR (⟨d, u2, u4, u6, u7, u9⟩ : FlV))) (hs : FlSmall d) :
  Calls Tryz.prog 151 #[.agg #[.string d.opa, u6, u7, .int .i64 d.ost, u9, .string d.obd, .int .i64 d.otm]] w fun e w' => BoolIs (ObjF d) w e w' := by
 have ho := flR_obj h
 obtain ⟨o1, c1, rfl⟩ := slice_of_owns ho.names
 obtain ⟨o2, c2, rfl⟩ := slice_of_owns ho.vals
 exact implObjOk_any d.opa o1 _ c1 d.oxs o2 _ c2 d.oys d.ost u9 _ B d.ofs d.obd d.otm w (texts_view ho.names) (texts_view ho.vals) (FieldsV.of_owns ho.flds) (ltd hs.oxs.1) (ltd hs.oys.1) (ltd hs.ofs.1) (small_text hs.oxs.2) (small_text hs.oys.2) (fs_walk hs.ofs.2) (fs_copy hs.ofs.2) (ltd hs.opa) (ltd hs.obd) (fs_get hs.ofs.2 _)
theorem implAlike_f (d e : FlD) (u2 u4 u6 u7 u9 t2 t4 t6 t7 t9 : Value) (B C : Nat) (w : World) (h : RowsO w B (flR (⟨d, u2, u4, u6, u7, u9⟩ : FlV))) (h2 : RowsO w C (flR (⟨e, t2, t4, t6, t7, t9⟩ : FlV))) (hd : FlSmall d) (he : FlSmall e) :
  Calls Tryz.prog 157 #[.agg #[.int .i64 d.qmt, .string d.qpa, u2, .string d.qbd], .agg #[.int .i64 e.qmt, .string e.qpa, t2, .string e.qbd]] w fun e' w' => BoolIs (AlikeF d e) w e' w' :=
 implAlike_any d.qmt d.qpa u2 d.qbd _ B d.qfs e.qmt e.qpa t2 e.qbd _ C e.qfs w (flR_req h) hd.qfs.1 (fs_walk hd.qfs.2) (ltd hd.qpa) (ltd hd.qbd) (fs_get hd.qfs.2) (fs_copy hd.qfs.2) (flR_req h2) he.qfs.1 (fs_walk he.qfs.2) (ltd he.qpa) (ltd he.qbd) (fs_get he.qfs.2) (fs_copy he.qfs.2)
theorem owns_cap {w : World} {B T z : Nat} {o : Oa} {n c : Nat} {cs : List Value} (h : w.ownsRow B T z (.slice o n c) n cs) : n ≤ c := by
 rcases h.2 with ⟨h1, _⟩ | ⟨g, cap, cur, h1, _, _, h2, _⟩
 ·injection h1 with _ h3 _
  omega
 ·injection h1 with _ h3 h4
  omega
theorem RpAt.range {w : World} {g i : Nat} {x : RpV} (h : RpAt w g i x) : w.rangeAt g (i * 18) (rpC x) := range_cons h.c0 (range_cons h.c1 (range_cons h.c2 (range_cons h.c3 (range_cons h.c4 (range_cons h.c5 (range_cons h.c6 (range_cons h.c7 (range_cons h.c8 (range_cons h.c9 (range_cons h.c10 (range_cons h.c11 (range_cons h.c12 (range_cons h.c13 (range_cons h.c14 (range_cons h.c15 (range_cons h.c16 (range_cons h.c17 (range_nil _ _ _))))))))))))))))))
theorem wpList_load_midG {P : Program} {ops : Array Oper} {rest : List Oper} {op : Oper} {a : Act} {w : World} {Q : Exit → Act → World → Prop} (hw : Region.wanted op (yielded ops a.tmps) = true) (ty : TypeId) (x : Operand) (ho : op.op = .load ty x)
  (b o : Nat) (hx : a.eval x = .pointer (some ⟨b, o, none⟩)) (cs : List Value) (d : TypeDesc) (hc : w.rangeAt b o cs)
  (hu : P.underlying ty = some d) (hd : d.isRow = true) (hi : (P.info? ty).map (·.size) = some cs.length)
  (h : wpList P ops Q rest (a.put op.dst (.agg cs.toArray)) w) : wpList P ops Q (op :: rest) a w :=
 wpList_step fun K hK => by simp only [hw, if_true]; exact wp_load_mid ty x ho b o hx cs d hc hu hd hi (hK _ _ h)
theorem run_equalIn_func_nil {P : Program} (w : World) (d : Nat) (t : TypeId) {ps rs : Array TypeId} {vd : Bool} (f : Fn) (a c : Array Value) (h : P.underlying t = some (.func ps rs vd)) : (Op.equalIn (d + 1) t (.func f a c) .nilFunc).run P w = .ok false w := by
 simp [Op.equalIn, run_underlying h]
theorem run_equalIn_nil_nil {P : Program} (w : World) (d : Nat) (t : TypeId) {ps rs : Array TypeId} {vd : Bool} (h : P.underlying t = some (.func ps rs vd)) : (Op.equalIn (d + 1) t .nilFunc .nilFunc).run P w = .ok true w := by
 simp [Op.equalIn, run_underlying h]
theorem run_neq_func_nil {P : Program} (w : World) (t : TypeId) {ps rs : Array TypeId} {vd : Bool} (f : Fn) (a c : Array Value) (h : P.underlying t = some (.func ps rs vd)) : (binOp .neq t (.func f a c) .nilFunc).run P w = .ok (.bool true) w := by
 have e : (Op.equal t (.func f a c) .nilFunc).run P w = .ok false w := run_equalIn_func_nil w 9999 t f a c h
 simp only [binOp]
 simp [e]
theorem run_neq_nil_nil {P : Program} (w : World) (t : TypeId) {ps rs : Array TypeId} {vd : Bool} (h : P.underlying t = some (.func ps rs vd)) : (binOp .neq t .nilFunc .nilFunc).run P w = .ok (.bool false) w := by
 have e : (Op.equal t .nilFunc .nilFunc).run P w = .ok true w := run_equalIn_nil_nil w 9999 t h
 simp only [binOp]
 simp [e]
def EachHere (P : RpD → Prop) (sn : List RpD) : Prop := ∀ i, i < sn.length → (rpAt sn i).knd = 1 → P (rpAt sn i)
theorem rpR_objJ {w : World} {B : Nat} {a : RpD} {t3 t6 t11 t12 t14 : Value} (h : RowsO w B (rpR (⟨a, t3, t6, t11, t12, t14⟩ : RpV))) : ObjO w B t11 a.oxs.length a.oxs t12 a.oys.length a.oys t14 a.ofs.length a.ofs :=
 rows_obj3 (RowsO.sub h (by unfold rpR; apply List.Sublist.cons; apply List.Sublist.cons; exact List.Sublist.refl _))
def CameP (x : SeD) (a : RpD) : Prop := x.rst = 200 ∧ x.tim ≤ a.otm ∧ x.qmt = 1 ∧ x.qpa = a.opa ∧ x.rbd = a.obd ∧ suitsP a.oxs a.oys x.qfs = true
def LastIs (se : List SeD) (a : RpD) (n : Nat) (r : Int) : Prop := (r = -1 ∧ ∀ j, j < n → ¬ CameP (seAt se j) a) ∨ ∃ j, j < n ∧ r = (j : Int) ∧ CameP (seAt se j) a ∧ ∀ m, j < m → m < n → ¬ CameP (seAt se m) a
theorem LastIs.zero (se : List SeD) (a : RpD) : LastIs se a 0 (-1) := .inl ⟨rfl, fun j hj => absurd hj (by omega)⟩
theorem LastIs.yes {se : List SeD} {a : RpD} {n : Nat} (h : CameP (seAt se n) a) : LastIs se a (n + 1) (n : Int) := .inr ⟨n, by omega, rfl, h, fun m h1 h2 => absurd h1 (by omega)⟩
theorem LastIs.no {se : List SeD} {a : RpD} {n : Nat} {r : Int} (h : LastIs se a n r) (hn : ¬ CameP (seAt se n) a) : LastIs se a (n + 1) r := by
 rcases h with ⟨h1, h2⟩ | ⟨j, h1, h2, h3, h4⟩
 ·exact .inl ⟨h1, fun j hj => by
   by_cases e : j = n
   · subst e; exact hn
   · exact h2 j (by omega)⟩
 ·exact .inr ⟨j, by omega, h2, h3, fun m m1 m2 => by
   by_cases e : m = n
   · subst e; exact hn
   · exact h4 m m1 (by omega)⟩
def ComesIs (se : List SeD) (a : RpD) (w : World) (e : Ending) (w' : World) : Prop := ∃ r : Int, e = .returned (.int .i64 r) ∧ LastIs se a se.length r ∧ Below w.heap.size w w'
theorem rpR_obj {w : World} {B : Nat} {a : RpD} {t3 t6 t11 t12 t14 : Value} (h : RowsO w B (rpR (⟨a, t3, t6, t11, t12, t14⟩ : RpV))) : ObjO w B t11 a.oxs.length a.oxs t12 a.oys.length a.oys t14 a.ofs.length a.ofs :=
 rows_obj3 (RowsO.sub h (by unfold rpR; apply List.Sublist.cons; apply List.Sublist.cons; exact List.Sublist.refl _))
theorem specComes_any (v1 v2 V VB F E R : Value) (kv : Ks) (fv : List FlV) (ev : List SeV) (rv : List RpV) (c : CaD) (B : Nat) (w : World) (h : CacheO w B v1 v2 V VB F E R kv fv ev rv c) (hz : CaSmall c) (a : RpD) (t3 t6 t11 t12 t14 : Value) (C : Nat) (hr : RowsO w C (rpR (⟨a, t3, t6, t11, t12, t14⟩ : RpV))) (ha : RpSmall a) :
  Calls Tryz.prog 41 #[.agg #[v1, v2, V, VB, .int .i64 c.s.nx, .int .i64 c.s.sq, F, .int .i64 c.now, E, R], .agg #[.int .i64 a.cli, .int .i64 a.qmt, .string a.qpa, t3, .string a.qbd, .int .i64 a.rst, t6, .string a.rbd, .int .i64 a.knd, .int .i64 a.tim, .string a.opa, t11, t12, .int .i64 a.ost, t14, .string a.obd, .int .i64 a.otm, .int .i64 a.bns]] w fun e w' => ComesIs c.se a w e w' := by
 obtain ⟨o1, c1, rfl⟩ := slice_of_owns h.shelf.disk.cells
 obtain ⟨o2, c2, rfl⟩ := slice_of_owns h.shelf.disk.pend
 obtain ⟨o3, c3, rfl⟩ := h.shelf.kept.len
 obtain ⟨o4, c4, rfl⟩ := slice_of_owns h.shelf.bans
 obtain ⟨o5, c5, rfl⟩ := h.fls.len
 obtain ⟨o6, c6, rfl⟩ := h.ses.len
 obtain ⟨o7, c7, rfl⟩ := h.rps.len
 obtain ⟨n5, hn5⟩ := exq fv.length
 obtain ⟨n6, hn6⟩ := exq ev.length
 obtain ⟨n7, hn7⟩ := exq rv.length
 rw [← hn5, ← hn6, ← hn7] at h ⊢
 have HLF : Hid (fv.length = n5) := hn5.symm
 have HLC : Hid (c.fl.length = n5 ∧ c.se.length = n6 ∧ c.sn.length = n7) := ⟨by rw [← h.hf, List.length_map, hn5], by rw [← h.he, List.length_map, hn6], by rw [← h.hr, List.length_map, hn7]⟩
 have HFD : Hid (fv.map (·.d) = c.fl) := h.hf
 have HZ := hid hz
 have bn5 : n5 ≤ 1048576 := by rw [← HLC.out.1]; exact hz.nf
 have bn6 : n6 ≤ 1048576 := by rw [← HLC.out.2.1]; exact hz.ne
 have bn7 : n7 ≤ 1048576 := by rw [← HLC.out.2.2]; exact hz.nr
 have HCA : Hid (∀ W, Below w.heap.size w W → CacheO W B (.slice o1 c.s.cs.length c1) (.slice o2 c.s.ws.length c2) (.slice o3 kv.length c3) (.slice o4 c.s.bl.length c4) (.slice o5 n5 c5) (.slice o6 n6 c6) (.slice o7 n7 c7) kv fv ev rv c) := fun W hb => h.below hb
 clear hn5 hn6 hn7 h hz
 obtain ⟨ka3, kac3, hu⟩ := slice_of_owns (hr.own (⟨185, 2, t3, a.qfs.length, flatF a.qfs⟩ : Rw) (by simp [rpR]))
 obtain rfl : t3 = .slice ka3 a.qfs.length kac3 := hu
 obtain ⟨ka6, kac6, hu⟩ := slice_of_owns (hr.own (⟨185, 2, t6, a.rfs.length, flatF a.rfs⟩ : Rw) (by simp [rpR]))
 obtain rfl : t6 = .slice ka6 a.rfs.length kac6 := hu
 obtain ⟨ka11, kac11, hu⟩ := slice_of_owns (hr.own (⟨9, 1, t11, a.oxs.length, a.oxs.map Value.string⟩ : Rw) (by simp [rpR]))
 obtain rfl : t11 = .slice ka11 a.oxs.length kac11 := hu
 obtain ⟨ka12, kac12, hu⟩ := slice_of_owns (hr.own (⟨9, 1, t12, a.oys.length, a.oys.map Value.string⟩ : Rw) (by simp [rpR]))
 obtain rfl : t12 = .slice ka12 a.oys.length kac12 := hu
 obtain ⟨ka14, kac14, hu⟩ := slice_of_owns (hr.own (⟨185, 2, t14, a.ofs.length, flatF a.ofs⟩ : Rw) (by simp [rpR]))
 obtain rfl : t14 = .slice ka14 a.ofs.length kac14 := hu
 have HRa : Hid (∀ W, Below w.heap.size w W → ObjO W C (.slice ka11 a.oxs.length kac11) a.oxs.length a.oxs (.slice ka12 a.oys.length kac12) a.oys.length a.oys (.slice ka14 a.ofs.length kac14) a.ofs.length a.ofs) := fun W hb => rpR_obj (hr.below hb)
 have HSa := hid ha
 have HLE : Hid (ev.length = n6) := by show _ = _; rw [← HLC.out.2.1, ← (HCA.out w (Below.refl _ _)).he, List.length_map]
 have HED : Hid (ev.map (·.d) = c.se) := (HCA.out w (Below.refl _ _)).he
 clear hr ha
 have hb0 := Below.refl w.heap.size w
 go_enter Tryz.func41, Tryz.ntmps41
 go_upto_region 1 with fail
 obtain ⟨q1, hq1⟩ := exq (w.heap.size)
 obtain ⟨w1, hW1⟩ := exq (w.alloc (.cells #[.slice o1 c.s.cs.length c1, .slice o2 c.s.ws.length c2, .slice o3 kv.length c3, .slice o4 c.s.bl.length c4, .int .i64 c.s.nx, .int .i64 c.s.sq, .slice o5 n5 c5, .int .i64 c.now, .slice o6 n6 c6, .slice o7 n7 c7] 48))
 have hz1 := hq1.symm
 rw [← hW1]; try rw [← hq1]
 have hs1 := hsa hW1 hz1
 have bw := bal hW1
 have hb1 := hbt hb0 bw
 have B1_1 := hnew hW1 hz1
 clear hb0 bw hW1 hz1
 obtain ⟨q2, hq2⟩ := exq (q1 + 1)
 obtain ⟨w2, hW2⟩ := exq (w1.alloc (.cells #[.int .i64 a.cli, .int .i64 a.qmt, .string a.qpa, .slice ka3 a.qfs.length kac3, .string a.qbd, .int .i64 a.rst, .slice ka6 a.rfs.length kac6, .string a.rbd, .int .i64 a.knd, .int .i64 a.tim, .string a.opa, .slice ka11 a.oxs.length kac11, .slice ka12 a.oys.length kac12, .int .i64 a.ost, .slice ka14 a.ofs.length kac14, .string a.obd, .int .i64 a.otm, .int .i64 a.bns] 64))
 have hz2 : w1.heap.size = q2 := by rw [hq2]; exact hs1
 rw [← hW2]; try rw [← hq2]
 have hs2 := hsa hW2 hz2
 have bw := bal hW2
 have hb2 := hbt hb1 bw
 have B1_2 := hblk B1_1 bw
 have B2_2 := hnew hW2 hz2
 clear hb1 bw hW2 hz2
 clear hs2 hq2 hs1 hq1
 go_wp2_with fail
 obtain ⟨wA, hwA⟩ := exq w2
 rw [← hwA] at hb2 B1_2 B2_2 ⊢
 clear hwA
 go_loopw [5, 6] (fun x0 i wr => ∃ (i' : Nat) (r : Int), i' ≤ n6 ∧ i = .int .i64 (i' : Int) ∧ x0 = .int .i64 r ∧ Hid (Below w.heap.size w (wr) ∧ wr.heap[q1]? = some (.cells #[.slice o1 c.s.cs.length c1, .slice o2 c.s.ws.length c2, .slice o3 kv.length c3, .slice o4 c.s.bl.length c4, .int .i64 c.s.nx, .int .i64 c.s.sq, .slice o5 n5 c5, .int .i64 c.now, .slice o6 n6 c6, .slice o7 n7 c7] 48) ∧ wr.heap[q2]? = some (.cells #[.int .i64 a.cli, .int .i64 a.qmt, .string a.qpa, .slice ka3 a.qfs.length kac3, .string a.qbd, .int .i64 a.rst, .slice ka6 a.rfs.length kac6, .string a.rbd, .int .i64 a.knd, .int .i64 a.tim, .string a.opa, .slice ka11 a.oxs.length kac11, .slice ka12 a.oys.length kac12, .int .i64 a.ost, .slice ka14 a.ofs.length kac14, .string a.obd, .int .i64 a.otm, .int .i64 a.bns] 64)) ∧ Hid (LastIs c.se a i' r)) (fun _ i _ => n6 - (intOf i).toNat)
 case atStart => exact ⟨0, -1, Nat.zero_le _, rfl, rfl, ⟨hb2, B1_2.out, B2_2.out⟩, LastIs.zero _ _⟩
 case round =>
  obtain ⟨i, r, hi, rfl, rfl, HW, HN⟩ := hrel
  by_cases hlt : (i : Int) < (n6 : Int)
  rotate_left
  ·have hb3 := HW.out.1
   have B1_3 := hid HW.out.2.1
   have B2_3 := hid HW.out.2.2
   clear HW hb2
   have HFA : Hid (LastIs c.se a c.se.length r) := by show LastIs _ _ _ _; rw [HLC.out.2.1, show n6 = i by omega]; exact HN.out
   clear HN
   have c1_8 := (k10c B1_3).2.2.2.2.2.2.2.2.1
   go_wp2_with fail
   go_ret
   exact ⟨r, rfl, HFA.out, hb3⟩
  have hb3 := HW.out.1
  have B1_3 := hid HW.out.2.1
  have B2_3 := hid HW.out.2.2
  clear HW hb2
  obtain ⟨g6, p6, hV, _, _⟩ := (HCA.out _ hb3).ses.look i (by rw [HLE.out]; omega)
  rw [HLE.out] at hV
  injection hV with hV1 hV2 hV3
  subst hV1 hV3
  clear hV2
  obtain ⟨dX, hdX⟩ := exq (sevAt ev i)
  have HMd : Hid (dX ∈ ev) := by show _ ∈ _; rw [hdX]; exact getD_mem0 _ ev i (by rw [HLE.out]; omega)
  have HEd : Hid (seAt c.se i = dX.d) := by show _ = _; rw [hdX, ← HED.out]; exact getD_map0 _ _ _ ev i (by rw [HLE.out]; omega)
  have HKd : Hid (∀ W, Below w.heap.size w W → SeAt W g6 i dX) := fun W hb => by
   obtain ⟨g', p', hV, _, hc⟩ := (HCA.out W hb).ses.look i (by rw [HLE.out]; omega)
   injection hV with hV1 _ _
   cases hV1
   rw [hdX]
   exact hc
  have HRd : Hid (∀ W, Below w.heap.size w W → RowsO W B (seR dX)) := fun W hb => (HCA.out W hb).ses.item HMd.out
  have HSd : Hid (SeSmall dX.d) := HZ.out.se _ (by rw [← HED.out]; exact List.mem_map.2 ⟨_, HMd.out, rfl⟩)
  clear hdX
  obtain ⟨d, kuv2, kuv5⟩ := dX
  obtain ⟨ku2, kc2, hu⟩ := slice_of_owns ((HRd.out _ hb3).own (⟨185, 2, kuv2, d.qfs.length, flatF d.qfs⟩ : Rw) (by simp [seR]))
  obtain rfl : kuv2 = .slice ku2 d.qfs.length kc2 := hu
  obtain ⟨ku5, kc5, hu⟩ := slice_of_owns ((HRd.out _ hb3).own (⟨185, 2, kuv5, d.rfs.length, flatF d.rfs⟩ : Rw) (by simp [seR]))
  obtain rfl : kuv5 = .slice ku5 d.rfs.length kc5 := hu
  have r0d := (HKd.out _ hb3).c0
  have r1d := (HKd.out _ hb3).c1
  have r2d := (HKd.out _ hb3).c2
  have r3d := (HKd.out _ hb3).c3
  have r4d := (HKd.out _ hb3).c4
  have r5d := (HKd.out _ hb3).c5
  have r6d := (HKd.out _ hb3).c6
  have r7d := (HKd.out _ hb3).c7
  dsimp only at r0d r1d r2d r3d r4d r5d r6d r7d
  have c1_8 := (k10c B1_3).2.2.2.2.2.2.2.2.1
  go_upto_region 6 with fail
  obtain ⟨q3, hq3⟩ := exq (wr.heap.size)
  obtain ⟨w4, hW4⟩ := exq (wr.alloc (.cells #[.int .i64 d.qmt, .string d.qpa, .slice ku2 d.qfs.length kc2, .string d.qbd, .int .i64 d.rst, .slice ku5 d.rfs.length kc5, .string d.rbd, .int .i64 d.tim] 118))
  have hz4 := hq3.symm
  rw [← hW4]; try rw [← hq3]
  have hs4 := hsa hW4 hz4
  have bw := bal hW4
  have hb4 := hbt hb3 bw
  have B1_4 := hblk B1_3 bw
  have B2_4 := hblk B2_3 bw
  have B3_4 := hnew hW4 hz4
  clear hb3 bw hW4 hz4
  clear hs4 hq3
  clear r0d r1d r2d r3d r4d r5d r6d r7d c1_8
  by_cases hc1 : d.rst = 200
  rotate_left
  ·have hc1b : ((d.rst : Int) == (200 : Int)) = false := by simpa using hc1
   have hc1n : ((d.rst : Int) != (200 : Int)) = true := by simpa using hc1
   have HCst := hid hc1
   have hc1H := hid hc1
   clear hc1
   have c3_4 := (k8c B3_4).2.2.2.2.1
   have HN2 : Hid (LastIs c.se a (i + 1) r) := (HN.out.no (by rw [HEd.out]; exact fun h => HCst.out h.1))
   go_wp2_with fail
   go_roundw
   case rel => exact ⟨i + 1, r, by omega, by go_num, rfl, ⟨hb4, B1_4.out, B2_4.out⟩, HN2⟩
   case measure => simp [intOf]; omega
  have hc1b : ((d.rst : Int) == (200 : Int)) = true := by simpa using hc1
  have hc1n : ((d.rst : Int) != (200 : Int)) = false := by simpa using hc1
  have HCst := hid hc1
  have hc1H := hid hc1
  clear hc1
  by_cases hc2 : d.tim ≤ a.otm
  rotate_left
  ·have HCtm := hid hc2
   have c2_16 := hcl B2_4 16 rfl
   have c3_4 := (k8c B3_4).2.2.2.2.1
   have c3_7 := (k8c B3_4).2.2.2.2.2.2.2
   have HN2 : Hid (LastIs c.se a (i + 1) r) := (HN.out.no (by rw [HEd.out]; exact fun h => HCtm.out h.2.1))
   go_wp2_with fail
   go_roundw
   case rel => exact ⟨i + 1, r, by omega, by go_num, rfl, ⟨hb4, B1_4.out, B2_4.out⟩, HN2⟩
   case measure => simp [intOf]; omega
  have HCtm := hid hc2
  by_cases hc3 : d.qmt = 1
  rotate_left
  ·have hc3b : ((d.qmt : Int) == (1 : Int)) = false := by simpa using hc3
   have hc3n : ((d.qmt : Int) != (1 : Int)) = true := by simpa using hc3
   have HCmt := hid hc3
   have hc3H := hid hc3
   clear hc3
   have c2_16 := hcl B2_4 16 rfl
   have c3_0 := (k8c B3_4).1
   have c3_4 := (k8c B3_4).2.2.2.2.1
   have c3_7 := (k8c B3_4).2.2.2.2.2.2.2
   have HN2 : Hid (LastIs c.se a (i + 1) r) := (HN.out.no (by rw [HEd.out]; exact fun h => HCmt.out h.2.2.1))
   go_wp2_with fail
   go_roundw
   case rel => exact ⟨i + 1, r, by omega, by go_num, rfl, ⟨hb4, B1_4.out, B2_4.out⟩, HN2⟩
   case measure => simp [intOf]; omega
  have hc3b : ((d.qmt : Int) == (1 : Int)) = true := by simpa using hc3
  have hc3n : ((d.qmt : Int) != (1 : Int)) = false := by simpa using hc3
  have HCmt := hid hc3
  have hc3H := hid hc3
  clear hc3
  by_cases hc4 : d.qpa = a.opa
  rotate_left
  ·have hc4b : ((d.qpa).toList == (a.opa).toList) = false := text_beq_no hc4
   have HCpa := hid hc4
   have c2_10 := hcl B2_4 10 rfl
   have c2_16 := hcl B2_4 16 rfl
   have c3_0 := (k8c B3_4).1
   have c3_1 := (k8c B3_4).2.1
   have c3_4 := (k8c B3_4).2.2.2.2.1
   have c3_7 := (k8c B3_4).2.2.2.2.2.2.2
   have HN2 : Hid (LastIs c.se a (i + 1) r) := (HN.out.no (by rw [HEd.out]; exact fun h => HCpa.out h.2.2.2.1))
   go_wp2_with fail
   go_roundw
   case rel => exact ⟨i + 1, r, by omega, by go_num, rfl, ⟨hb4, B1_4.out, B2_4.out⟩, HN2⟩
   case measure => simp [intOf]; omega
  have hc4b : ((d.qpa).toList == (a.opa).toList) = true := (text_beq _ _).2 hc4
  have HCpa := hid hc4
  by_cases hc5 : d.rbd = a.obd
  rotate_left
  ·have hc5b : ((d.rbd).toList == (a.obd).toList) = false := text_beq_no hc5
   have HCbd := hid hc5
   have c2_10 := hcl B2_4 10 rfl
   have c2_15 := hcl B2_4 15 rfl
   have c2_16 := hcl B2_4 16 rfl
   have c3_0 := (k8c B3_4).1
   have c3_1 := (k8c B3_4).2.1
   have c3_4 := (k8c B3_4).2.2.2.2.1
   have c3_6 := (k8c B3_4).2.2.2.2.2.2.1
   have c3_7 := (k8c B3_4).2.2.2.2.2.2.2
   have HN2 : Hid (LastIs c.se a (i + 1) r) := (HN.out.no (by rw [HEd.out]; exact fun h => HCbd.out h.2.2.2.2.1))
   go_wp2_with fail
   go_roundw
   case rel => exact ⟨i + 1, r, by omega, by go_num, rfl, ⟨hb4, B1_4.out, B2_4.out⟩, HN2⟩
   case measure => simp [intOf]; omega
  have hc5b : ((d.rbd).toList == (a.obd).toList) = true := (text_beq _ _).2 hc5
  have HCbd := hid hc5
  have c2_10 := hcl B2_4 10 rfl
  have c2_11 := hcl B2_4 11 rfl
  have c2_12 := hcl B2_4 12 rfl
  have c2_15 := hcl B2_4 15 rfl
  have c2_16 := hcl B2_4 16 rfl
  have c3_0 := (k8c B3_4).1
  have c3_1 := (k8c B3_4).2.1
  have c3_2 := (k8c B3_4).2.2.1
  have c3_4 := (k8c B3_4).2.2.2.2.1
  have c3_6 := (k8c B3_4).2.2.2.2.2.2.1
  have c3_7 := (k8c B3_4).2.2.2.2.2.2.2
  go_wp2_with fail
  refine (specSuits_any _ _ _ _ _ _ a.oxs a.oys _ _ B d.qfs _ (texts_view (HRa.out _ hb4).names) (Nat.le_trans (show a.oxs.length ≤ 1048576 from HSa.out.oxs.1) (by decide)) (texts_view (HRa.out _ hb4).vals) (FieldsV.of_owns ((HRd.out _ hb4).own (⟨185, 2, (.slice ku2 d.qfs.length kc2), d.qfs.length, flatF d.qfs⟩ : Rw) (by simp [seR]))) (Nat.le_trans (show d.qfs.length ≤ 1048576 from HSd.out.qfs.1) (by decide))).mono ?_
  rintro e w5 ⟨rfl, bw⟩
  obtain ⟨us, hus⟩ := exq (suitsP a.oxs a.oys d.qfs)
  rw [← hus]
  have hb5 := hbt hb4 bw
  have B1_5 := hblk B1_4 bw
  have B2_5 := hblk B2_4 bw
  have B3_5 := hblk B3_4 bw
  clear hb4 bw
  clear c2_10 c2_11 c2_12 c2_15 c2_16 c3_0 c3_1 c3_2 c3_4 c3_6 c3_7
  cases us
  ·have HNus : Hid (suitsP a.oxs a.oys d.qfs = false) := hus.symm
   clear hus
   have HN2 : Hid (LastIs c.se a (i + 1) r) := (HN.out.no (by rw [HEd.out]; exact fun h => by have h1 := h.2.2.2.2.2; rw [HNus.out] at h1; cases h1))
   go_wp2_with fail
   go_roundw
   case rel => exact ⟨i + 1, r, by omega, by go_num, rfl, ⟨hb5, B1_5.out, B2_5.out⟩, HN2⟩
   case measure => simp [intOf]; omega
  have HYus : Hid (suitsP a.oxs a.oys d.qfs = true) := hus.symm
  clear hus
  have HN2 : Hid (LastIs c.se a (i + 1) (i : Int)) := (LastIs.yes (by rw [HEd.out]; exact ⟨HCst.out, HCtm.out, HCmt.out, HCpa.out, HCbd.out, HYus.out⟩))
  go_wp2_with fail
  go_roundw
  case rel => exact ⟨i + 1, (i : Int), by omega, by go_num, rfl, ⟨hb5, B1_5.out, B2_5.out⟩, HN2⟩
  case measure => simp [intOf]; omega
open Classical in
noncomputable def ansS (fs gs : Fs) (st : Int) : Int := if SameP fs gs then 304 else st
open Classical in
noncomputable def ansG (fs gs : Fs) : Fs := if SameP fs gs then shortF gs else gs
open Classical in
noncomputable def ansB (fs gs : Fs) (d : Tx) : ByteArray := if SameP fs gs then ⟨#[]⟩ else d
noncomputable def ageT (gs : Fs) (t now : Int) : ByteArray := numTextI (ageAt gs t now)
noncomputable def ansF (fs gs : Fs) (st : Int) (d : Tx) (t now : Int) : Fs := mergeF (ansS fs gs st) (ansG fs gs) (ansB fs gs d) [(ageName, ageT gs t now)]
theorem ansS_yes {fs gs : Fs} (h : SameP fs gs) (st : Int) : ansS fs gs st = 304 := if_pos h
theorem ansS_no {fs gs : Fs} (h : ¬ SameP fs gs) (st : Int) : ansS fs gs st = st := if_neg h
theorem ansG_yes {fs gs : Fs} (h : SameP fs gs) : ansG fs gs = shortF gs := if_pos h
theorem ansG_no {fs gs : Fs} (h : ¬ SameP fs gs) : ansG fs gs = gs := if_neg h
theorem ansB_yes {fs gs : Fs} (h : SameP fs gs) (d : Tx) : ansB fs gs d = ⟨#[]⟩ := if_pos h
theorem ansB_no {fs gs : Fs} (h : ¬ SameP fs gs) (d : Tx) : ansB fs gs d = d := if_neg h
theorem merge_put {st : Int} {fs : Fs} {b a v : ByteArray} (h : RespP st (putF fs a v) b) : mergeF st fs b [(a, v)] = putF fs a v := if_pos h
theorem merge_not {st : Int} {fs : Fs} {b a v : ByteArray} (h : ¬ RespP st (putF fs a v) b) : mergeF st fs b [(a, v)] = fs := if_neg h
theorem ageT_size (gs : Fs) (t now : Int) : (ageT gs t now).size ≤ 8 := by
 unfold ageT numTextI
 split
 · decide
 · exact numText_size _
theorem mergeL_le (st : Int) (fs : Fs) (b a v : Tx) : (mergeF st fs b [(a, v)]).length ≤ fs.length + 1 := by
 unfold mergeF
 split
 · exact putAll_le fs [(a, v)]
 · omega
theorem ansG_le (fs gs : Fs) : (ansG fs gs).length ≤ gs.length := by
 unfold ansG
 split
 · exact shortF_le gs
 · exact Nat.le_refl _
theorem ansF_le (fs gs : Fs) (st : Int) (d : Tx) (t now : Int) : (ansF fs gs st d t now).length ≤ gs.length + 1 := by
 have h1 := mergeL_le (ansS fs gs st) (ansG fs gs) (ansB fs gs d) ageName (ageT gs t now)
 have h2 := ansG_le fs gs
 unfold ansF
 omega
theorem walk_of {n : Nat} {fs : Fs} (hl : fs.length = n) (h : ∀ f ∈ fs, f.1.size ≤ maxLen ∧ f.2.size ≤ maxLen) : WalkF n fs := fun i hi => by
 have hj : i < fs.length := by omega
 have := h _ (List.getElem_mem hj)
 unfold nameAt valAt
 rw [List.getD_eq_getElem?_getD, List.getElem?_eq_getElem hj]
 exact this
theorem walk_mem {n : Nat} {fs : Fs} (hl : fs.length = n) (h : WalkF n fs) : ∀ f ∈ fs, f.1.size ≤ maxLen ∧ f.2.size ≤ maxLen := fun f hf => by
 obtain ⟨j, hj, e⟩ := List.getElem_of_mem hf
 have := h j (by omega)
 unfold nameAt valAt at this
 rw [List.getD_eq_getElem?_getD, List.getElem?_eq_getElem hj] at this
 rw [← e]
 exact this
theorem walk_short {n : Nat} {gs : Fs} (hl : gs.length = n) (h : WalkF n gs) : WalkF (shortF gs).length (shortF gs) := walk_of rfl fun f hf => by
 unfold shortF at hf
 exact walk_mem hl h f (List.mem_filter.1 hf).1
theorem walk_put {n : Nat} {fs : Fs} {a v : ByteArray} (hl : fs.length = n) (h : WalkF n fs) (ha : a.size ≤ maxLen) (hv : v.size ≤ maxLen) : WalkF (putF fs a v).length (putF fs a v) := fun i hi => put_at fs a v i maxLen (fun j hj => h j (by omega)) ha hv hi
theorem copy_short {gs : Fs} (h : CopyF gs) : CopyF (shortF gs) := fun i hi => by
 have hm : ∀ f ∈ gs, f.1.size ≤ 281474976710656 ∧ f.2.size ≤ 281474976710656 := fun f hf => by
  obtain ⟨j, hj, e⟩ := List.getElem_of_mem hf
  have := h j hj
  unfold nameAt valAt at this
  rw [List.getD_eq_getElem?_getD, List.getElem?_eq_getElem hj] at this
  rw [← e]
  exact this
 have h2 := hm _ (List.mem_filter.1 (List.getElem_mem hi)).1
 unfold nameAt valAt
 rw [List.getD_eq_getElem?_getD, List.getElem?_eq_getElem hi]
 exact h2
theorem below_grownO {B : Nat} {w w' : World} {r : Option Nat} (hg : w.grownBy w' r) (hB : B ≤ w.heap.size) (hr : ∀ g, r = some g → B ≤ g) : Below B w w' :=
 ⟨hg.os, hg.tape, hg.output, hg.size, fun k hk => hg.block k (Nat.lt_of_lt_of_le hk hB) (fun e => by have := hr k e.symm; omega)⟩
theorem tag_list : tagName.toList = [101, 116, 97, 103] := by rw [ByteArray.toList_eq]; rfl
theorem vary_list : varyName.toList = [118, 97, 114, 121] := by rw [ByteArray.toList_eq]; rfl
theorem ccN_list : ccName.toList = [99, 97, 99, 104, 101, 45, 99, 111, 110, 116, 114, 111, 108] := by rw [ByteArray.toList_eq]; rfl
structure ShSt (w : World) (r : Nat) (st : Int) (va : Value) (b : Tx) (z : Value) (P : Fs) (W : World) : Prop where
 q0 : W.heap[r]? = some (.cells #[.int .i64 st, va, .string b] 60)
 q1 : W.heap[r + 1]? = some (.cells #[.int .i64 0, .slice none 0 0, .string ⟨#[]⟩] 60)
 q2 : W.heap[r + 1 + 1]? = some (.cells #[.int .i64 304, z, .string ⟨#[]⟩] 60)
 own : W.ownsRow (r + 1 + 1 + 1) 185 2 z P.length (flatF P)
 low : Below r w W
theorem ShSt.size {w : World} {r : Nat} {st : Int} {va : Value} {b : ByteArray} {z : Value} {P : Fs} {W : World} (h : ShSt w r st va b z P W) : r + 1 + 1 + 1 ≤ W.heap.size := (Array.getElem?_eq_some_iff.1 h.q2).1
theorem ShSt.below {w : World} {r : Nat} {st : Int} {va : Value} {b : ByteArray} {z : Value} {P : Fs} {W : World} {W' : World} (h : ShSt w r st va b z P W) (hb : Below W.heap.size W W') : ShSt w r st va b z P W' := by
 have hs := h.size
 exact ⟨by rw [hb.block _ (by omega)]; exact h.q0, by rw [hb.block _ (by omega)]; exact h.q1, by rw [hb.block _ (by omega)]; exact h.q2, owns_same h.own (fun j hj => hb.block j (owns_lt h.own hj)), h.low.trans (hb.mono (by omega))⟩
theorem specShort_any (st : Int) (v : Value) (b : Tx) (n base : Nat) (gs : Fs) (w : World) (hv : FieldsV w base v n gs) (hn : n ≤ 2000000) :
  Calls Tryz.prog 83 #[.agg #[.int .i64 st, v, .string b]] w fun e w' => RespRow 304 (shortF gs) ⟨#[]⟩ w e w' := by
 obtain ⟨i0, hi, hz0, hz1, hz2⟩ := info_parts info33
 obtain ⟨oa, cap, rfl, hrow0⟩ := hv.slice
 have HLB : Hid (gs.length = n) := hv.len
 obtain ⟨r, hr⟩ := exq (w.heap.size)
 have HR : Hid (w.heap.size = r) := hr.symm
 have HGR : Hid (∀ j, j < n → ∃ g, oa = some ⟨g, 0, none⟩ ∧ g < r) := fun j hj => by obtain ⟨g, h1, h2⟩ := hrow0 j hj; exact ⟨g, h1, by rw [hr]; exact h2.lt⟩
 clear hrow0
 obtain ⟨W1, hW1⟩ := exq (((w.alloc (.cells #[.int .i64 st, .slice oa n cap, .string b] 60)).alloc (.cells #[.int .i64 0, .slice none 0 0, .string ⟨#[]⟩] 60)).alloc (.cells #[.int .i64 304, .slice none 0 0, .string ⟨#[]⟩] 60))
 have HW1 := hsy hW1
 have HVA : Hid (∀ W, Below r w W → FieldsV W base (.slice oa n cap) n gs) := fun W h => hv.below (by rw [hr] at h; exact h)
 have HS0 : Hid (ShSt w r st (.slice oa n cap) b (.slice none 0 0) [] W1) := by
  have b1 : Below r w W1 := by rw [hW1, hr]; exact (((Below.refl _ w).alloc (Nat.le_refl _) _).alloc (by simp) _).alloc (by simp; omega) _
  have s1 : (w.alloc (.cells #[.int .i64 st, .slice oa n cap, .string b] 60)).heap.size = r + 1 := by rw [hr]; simp
  have s2 : ((w.alloc (.cells #[.int .i64 st, .slice oa n cap, .string b] 60)).alloc (.cells #[.int .i64 0, .slice none 0 0, .string ⟨#[]⟩] 60)).heap.size = r + 1 + 1 := by rw [hr]; simp
  have e0 := heap_alloc_new w (.cells #[.int .i64 st, .slice oa n cap, .string b] 60)
  have e1 := heap_alloc_new (w.alloc (.cells #[.int .i64 st, .slice oa n cap, .string b] 60)) (.cells #[.int .i64 0, .slice none 0 0, .string ⟨#[]⟩] 60)
  have e2 := heap_alloc_new ((w.alloc (.cells #[.int .i64 st, .slice oa n cap, .string b] 60)).alloc (.cells #[.int .i64 0, .slice none 0 0, .string ⟨#[]⟩] 60)) (.cells #[.int .i64 304, .slice none 0 0, .string ⟨#[]⟩] 60)
  rw [← hr] at e0
  rw [s1] at e1
  rw [s2, ← hW1] at e2
  have c1 : Below (r + 1) (w.alloc (.cells #[.int .i64 st, .slice oa n cap, .string b] 60)) W1 := by rw [hW1, ← s1]; exact ((Below.refl _ _).alloc (Nat.le_refl _) _).alloc (by simp) _
  have c2 : Below (r + 1 + 1) ((w.alloc (.cells #[.int .i64 st, .slice oa n cap, .string b] 60)).alloc (.cells #[.int .i64 0, .slice none 0 0, .string ⟨#[]⟩] 60)) W1 := by rw [hW1, ← s2]; exact (Below.refl _ _).alloc (Nat.le_refl _) _
  exact ⟨by rw [c1.block r (by omega)]; exact e0, by rw [c2.block (r + 1) (by omega)]; exact e1, e2, ⟨rfl, .inl ⟨rfl, rfl⟩⟩, b1⟩
 clear hW1 hv
 go_enter Tryz.func83, Tryz.ntmps83
 go_upto_region 2 with fail
 rw [HW1.out, ← hr]
 clear hr HW1
 go_wp2_with fail
 go_loopw [4] (fun i wr => ∃ (j : Nat) (z : Value) (P : Fs), j ≤ n ∧ i = .int .i64 (j : Int) ∧ Hid (ShSt w r st (.slice oa n cap) b z P wr) ∧ Hid (P = shortF (gs.take j))) (fun i _ => n - (intOf i).toNat)
 case atStart => exact ⟨0, _, [], Nat.zero_le _, rfl, HS0, by show _ = _; simp [shortF]⟩
 case round =>
  obtain ⟨j, z, P, hj, rfl, HS, HP⟩ := hrel
  obtain ⟨oz, cz, rfl⟩ := slice_of_owns HS.out.own
  obtain ⟨⟨_, t1, _⟩, _⟩ := three_facts HS.out.q0
  have HPL : Hid (P.length ≤ 2000000) := by
   show _ ≤ _
   rw [HP.out]
   have h1 := shortF_le (gs.take j)
   rw [List.length_take, HLB.out] at h1
   omega
  by_cases hlt : (j : Int) < (n : Int)
  rotate_left
  ·have hjn : j = n := by omega
   have HPE : Hid (P = shortF gs) := by
    have h := HP.out
    rw [List.take_of_length_le (by rw [HLB.out]; omega)] at h
    exact h
   obtain ⟨⟨u0, u1, u2⟩, _⟩ := three_facts HS.out.q2
   obtain ⟨⟨e0, e1, e2⟩, g0, g1, g2⟩ := three_facts HS.out.q1
   have hset := three_set HS.out.q1 (.int .i64 304) (.slice oz P.length cz) (.string ⟨#[]⟩)
   obtain ⟨⟨k0, k1, k2⟩, _⟩ := three_facts hset
   have HFB : Hid (Below r w (threeSet wr (r + 1) (.int .i64 304) (.slice oz P.length cz) (.string ⟨#[]⟩))) := below_three HS.out.low (by omega)
   have HFO : Hid ((threeSet wr (r + 1) (.int .i64 304) (.slice oz P.length cz) (.string ⟨#[]⟩)).ownsRow r 185 2 (.slice oz P.length cz) (shortF gs).length (flatF (shortF gs))) := by
    show World.ownsRow _ _ _ _ _ _ _
    rw [← HPE.out]
    refine owns_same (owns_wide HS.out.own (by omega)) (fun q hq => ?_)
    have hq2 := owns_ge HS.out.own hq
    rw [three_other _ _ q _ _ _ (by omega)]
   unfold threeSet at k0 k1 k2 HFB HFO
   clear hset HS HP HPE
   go_wp2_with fail
   refine bodyPost_ret (v := .agg #[.int .i64 304, .slice oz P.length cz, .string ⟨#[]⟩]) (by simp [results, Tryz.results83, go_sem, k0, k1, k2]) rfl ?_
   exact ⟨_, rfl, by rw [HR.out]; exact HFO.out, by show Below _ _ _; rw [HR.out]; exact HFB.out⟩
  have hjg : j < gs.length := by rw [HLB.out]; omega
  obtain ⟨_, _, hsl, hrow⟩ := (HVA.out wr HS.out.low).slice
  cases hsl
  obtain ⟨g, rfl, row⟩ := hrow j (by omega)
  obtain ⟨g', hg1, hgr⟩ := HGR.out j (by omega)
  cases hg1
  have n1 := row.name j (by omega)
  have n2 := row.val j (by omega)
  obtain ⟨x, hx⟩ := exq (nameAt gs j)
  obtain ⟨y, hy⟩ := exq (valAt gs j)
  rw [← hx] at n1
  rw [← hy] at n2
  have HTK : Hid (gs.take (j + 1) = gs.take j ++ [(x, y)]) := by show _ = _; rw [take_field gs j hjg, hx, hy]
  clear hx hy row hjg
  by_cases h1 : x = tagName
  ·have t0 : (x.toList == tagName.toList) = true := (text_beq _ _).2 h1
   rw [tag_list] at t0
   have HYES : Hid ((x, y).1 = tagName ∨ (x, y).1 = varyName ∨ (x, y).1 = ccName) := .inl h1
   clear h1
   have HP2 : Hid (P ++ [(x, y)] = shortF (gs.take (j + 1))) := by show _ = _; rw [HTK.out, shortF_snoc, if_pos HYES.out, ← HP.out]
   have h63 : P.length + 1 ≤ maxLen := by have := HPL.out; unfold maxLen; omega
   have h47 : (P.length + 1) * 32 ≤ 140737488355328 := by have := HPL.out; omega
   obtain ⟨⟨_, u1, _⟩, _⟩ := three_facts HS.out.q2
   have HOA : Hid ((wr.drew.alloc (.cells #[.string x, .string y] 185)).ownsRow (r + 1 + 1 + 1) 185 2 (.slice oz P.length cz) P.length (flatF P)) := ((HS.out.below (Below.refl _ _).drew).own).alloc _
   have HSA : Hid (r + 1 + 1 + 1 ≤ (wr.drew.alloc (.cells #[.string x, .string y] 185)).heap.size) := by show _ ≤ _; have := HS.out.size; simp; omega
   have hsz := HS.out.size
   have hgw : g < wr.heap.size := by omega
   have hSA : (wr.drew.alloc (.cells #[.string x, .string y] 185)).cell? ⟨r, 1, none⟩ = some (.slice (some ⟨g, 0, none⟩) n cap) ∧ (wr.drew.alloc (.cells #[.string x, .string y] 185)).cell? ⟨g, j * 2, none⟩ = some (.string x) ∧ (wr.drew.alloc (.cells #[.string x, .string y] 185)).cell? ⟨g, j * 2 + 1, none⟩ = some (.string y) := by
    have b0 : Below wr.heap.size wr (wr.drew.alloc (.cells #[.string x, .string y] 185)) := (Below.refl _ wr).drew.alloc (Nat.le_refl _) _
    exact ⟨(b0.cell (p := ⟨r, 1, none⟩) (by show r < _; omega)).trans t1, (b0.cell (p := ⟨g, j * 2, none⟩) hgw).trans n1, (b0.cell (p := ⟨g, j * 2 + 1, none⟩) hgw).trans n2⟩
   have c1a : (wr.drew.alloc (.cells #[.string x, .string y] 185)).cell? ⟨r + 1 + 1, 1, none⟩ = some (.slice oz P.length cz) := by
    have b0 : Below wr.heap.size wr (wr.drew.alloc (.cells #[.string x, .string y] 185)) := (Below.refl _ wr).drew.alloc (Nat.le_refl _) _
    exact (b0.cell (p := ⟨r + 1 + 1, 1, none⟩) (by show r + 1 + 1 < _; omega)).trans u1
   have c1b : (wr.alloc (.cells #[.string x, .string y] 185)).cell? ⟨r + 1 + 1, 1, none⟩ = some (.slice oz P.length cz) := c1a
   have hnews : ∀ i v, [Value.string x, .string y][i]? = some v → (wr.drew.alloc (.cells #[.string x, .string y] 185)).cell? ((⟨wr.heap.size, 0, none⟩ : Addr).add i) = some v := World.news_of_block (heap_alloc_new wr.drew _)
   have HMORE : Hid (∀ W4 g4 cap4, (wr.drew.alloc (.cells #[.string x, .string y] 185)).grownBy W4 (Value.slice oz P.length cz).ownBlock → W4.ownsRow (r + 1 + 1 + 1) 185 2 (.slice (some ⟨g4, 0, none⟩) (P.length + 1) cap4) (P.length + 1) (flatF P ++ [.string x, .string y]) →
     (W4.cell? ⟨r, 1, none⟩ = some (.slice (some ⟨g, 0, none⟩) n cap) ∧ W4.cell? ⟨g, j * 2, none⟩ = some (.string x) ∧ W4.cell? ⟨g, j * 2 + 1, none⟩ = some (.string y)) ∧ ((W4.setCell ⟨r + 1 + 1, 1, none⟩ (.slice (some ⟨g4, 0, none⟩) (P.length + 1) cap4)).cell? ⟨r, 1, none⟩ = some (.slice (some ⟨g, 0, none⟩) n cap) ∧ (W4.setCell ⟨r + 1 + 1, 1, none⟩ (.slice (some ⟨g4, 0, none⟩) (P.length + 1) cap4)).cell? ⟨g, j * 2, none⟩ = some (.string x) ∧ (W4.setCell ⟨r + 1 + 1, 1, none⟩ (.slice (some ⟨g4, 0, none⟩) (P.length + 1) cap4)).cell? ⟨g, j * 2 + 1, none⟩ = some (.string y)) ∧ (∃ q, W4.cell? ⟨r + 1 + 1, 1, none⟩ = some q) ∧ W4.frozen? ⟨r + 1 + 1, 1, none⟩ = false ∧
     ShSt w r st (.slice (some ⟨g, 0, none⟩) n cap) b (.slice (some ⟨g4, 0, none⟩) (P.length + 1) cap4) (P ++ [(x, y)]) (W4.setCell ⟨r + 1 + 1, 1, none⟩ (.slice (some ⟨g4, 0, none⟩) (P.length + 1) cap4))) := by
    intro W4 g4 cap4 hg4 ho4
    have b0 : Below wr.heap.size wr (wr.drew.alloc (.cells #[.string x, .string y] 185)) := (Below.refl _ wr).drew.alloc (Nat.le_refl _) _
    have h1 := HS.out.below b0
    have bg : Below (r + 1 + 1 + 1) (wr.drew.alloc (.cells #[.string x, .string y] 185)) W4 := below_grownO hg4 HSA.out (fun q hq => owns_ge HOA.out hq)
    have e0 := (bg.block r (by omega)).trans h1.q0
    have e1 := (bg.block (r + 1) (by omega)).trans h1.q1
    have e2 := (bg.block (r + 1 + 1) (by omega)).trans h1.q2
    obtain ⟨⟨_, a1, _⟩, _⟩ := three_facts e0
    obtain ⟨⟨_, a2, _⟩, _, a3, _⟩ := three_facts e2
    have m1 : W4.cell? ⟨g, j * 2, none⟩ = some (.string x) := (bg.cell (p := ⟨g, j * 2, none⟩) (by show g < _; omega)).trans hSA.2.1
    have m2 : W4.cell? ⟨g, j * 2 + 1, none⟩ = some (.string y) := (bg.cell (p := ⟨g, j * 2 + 1, none⟩) (by show g < _; omega)).trans hSA.2.2
    refine ⟨⟨a1, m1, m2⟩, ⟨by rw [cell_set_other _ _ _ _ _ _ (by omega)]; exact a1, by rw [cell_set_other _ _ _ _ _ _ (by omega)]; exact m1, by rw [cell_set_other _ _ _ _ _ _ (by omega)]; exact m2⟩, ⟨_, a2⟩, a3, ⟨by rw [heap_setCell_other _ _ r _ (by show r ≠ r + 1 + 1; omega)]; exact e0, by rw [heap_setCell_other _ _ (r + 1) _ (by show r + 1 ≠ r + 1 + 1; omega)]; exact e1, ?_, ?_, (h1.low.trans (bg.mono (by omega))).setCell (by show r ≤ r + 1 + 1; omega) _⟩⟩
    ·have := heap_set W4 (r + 1 + 1) 1 _ _ _ (.slice (some ⟨g4, 0, none⟩) (P.length + 1) cap4) e2
     simpa using this
    ·rw [List.length_append, flatF_append, flatF_one]
     refine owns_same ho4 (fun q hq => heap_setCell_other _ _ q _ ?_)
     have := owns_ge ho4 hq
     show q ≠ r + 1 + 1
     omega
   clear HS HP HTK HYES hgw hsz
   go_upto_region 7 with fail
   refine wp_region_held_drew (S := fun W => W.cell? ⟨r, 1, none⟩ = some (.slice (some ⟨g, 0, none⟩) n cap) ∧ W.cell? ⟨g, j * 2, none⟩ = some (.string x) ∧ W.cell? ⟨g, j * 2 + 1, none⟩ = some (.string y)) (by kernel_rfl) ⟨t1, n1, n2⟩ (fun hS0 => ?_)
   refine tkP 0 (.pointer (some ⟨r + 1 + 1, 1, none⟩)) 30 rfl rfl hS0 (tkP 2 (.pointer (some ⟨r, 1, none⟩)) 32 rfl rfl hS0 ?_)
   go_frame
   refine tkL 3 (.slice (some ⟨g, 0, none⟩) n cap) 33 rfl rfl (Or.inl ⟨by rfl, by intro W hW; obtain ⟨h1, h2, h3⟩ := hW; go_simp⟩) hS0 ?_
   go_frame
   refine tkP 4 (.int .i64 (j : Int)) 34 rfl rfl hS0 (tkP 5 (.pointer (some ⟨g, j * 2, none⟩)) 35 rfl rfl hS0 ?_)
   go_frame
   refine tkL 6 (.agg #[.string x, .string y]) 36 rfl rfl (Or.inl ⟨by rfl, by intro W hW; obtain ⟨h1, h2, h3⟩ := hW; go_simp⟩) hS0 ?_
   go_frame
   refine wpAnyH_ready (rs := [1, 7]) (by kernel_rfl) (by simp) ?_
   refine AllReadyH.cons rfl (fun K hK => ?_) (AllReadyH.cons rfl (fun K hK => ?_) AllReadyH.nil)
   ·go_simp
    refine hK.out _ _ hS0 (fun _ => ?_)
    clear hK K
    refine rd1 7 rfl (fun K hK => ?_)
    go_simp
    refine hK.out _ _ hSA (fun _ => ?_)
    clear hK K
    refine rd1 8 rfl (fun K hK => ?_)
    refine step_append_lies _ (by rfl) _ _ _ (by rfl) (r + 1 + 1 + 1) 185 i0 (.agg #[.string ⟨#[]⟩, .string ⟨#[]⟩]) 2 32 Tryz.underlying56 hi hz0 hz1 hz2 rfl (by omega) (.slice oz P.length cz) P.length (flatF P) (by rfl) HOA.out ⟨wr.heap.size, 0, none⟩ 1 1 [.string x, .string y] (by rfl) (by rfl) hnews (by simp [Value.oneCell']) (by omega) h63 h47 HSA.out (wr.heap.size + 1) (by simp) ?_
    intro g4 cap4 w4 hown4 hgrow4 _ _
    obtain ⟨hS4, hS5, ⟨q5, hq5⟩, f5, hM⟩ := HMORE.out w4 g4 cap4 hgrow4 hown4
    have HM := hid hM
    clear hown4 hgrow4 hM HMORE
    simp only [Act.put, List.setIfInBounds_toArray]
    refine hK.out _ _ hS4 (fun _ => ?_)
    clear hK K
    refine tkP 9 (.pointer (some ⟨r + 1 + 1, 1, none⟩)) 39 rfl rfl hS4 ?_
    simp only [Act.put]
    refine rd1 10 rfl (fun K hK => ?_)
    go_simp
    refine hK.out _ _ hS5 (fun _ => ?_)
    clear hK K hq5 f5 hS4 hS5 hS0 hSA t1 n1 n2 u1 c1a c1b hnews
    refine wdn ?_
    go_wp2_with fail
    go_roundw
    case rel => exact ⟨j + 1, _, P ++ [(x, y)], by omega, by go_num, HM, HP2⟩
    case measure => simp [intOf]; omega
   ·go_simp
    refine hK.out _ _ hSA (fun _ => ?_)
    clear hK K
    refine rd1 1 rfl (fun K hK => ?_)
    go_simp
    refine hK.out _ _ hSA (fun _ => ?_)
    clear hK K
    refine rd1 8 rfl (fun K hK => ?_)
    refine step_append_lies _ (by rfl) _ _ _ (by rfl) (r + 1 + 1 + 1) 185 i0 (.agg #[.string ⟨#[]⟩, .string ⟨#[]⟩]) 2 32 Tryz.underlying56 hi hz0 hz1 hz2 rfl (by omega) (.slice oz P.length cz) P.length (flatF P) (by rfl) HOA.out ⟨wr.heap.size, 0, none⟩ 1 1 [.string x, .string y] (by rfl) (by rfl) hnews (by simp [Value.oneCell']) (by omega) h63 h47 HSA.out (wr.heap.size + 1) (by simp) ?_
    intro g4 cap4 w4 hown4 hgrow4 _ _
    obtain ⟨hS4, hS5, ⟨q5, hq5⟩, f5, hM⟩ := HMORE.out w4 g4 cap4 hgrow4 hown4
    have HM := hid hM
    clear hown4 hgrow4 hM HMORE
    simp only [Act.put, List.setIfInBounds_toArray]
    refine hK.out _ _ hS4 (fun _ => ?_)
    clear hK K
    refine tkP 9 (.pointer (some ⟨r + 1 + 1, 1, none⟩)) 39 rfl rfl hS4 ?_
    simp only [Act.put]
    refine rd1 10 rfl (fun K hK => ?_)
    go_simp
    refine hK.out _ _ hS5 (fun _ => ?_)
    clear hK K hq5 f5 hS4 hS5 hS0 hSA t1 n1 n2 u1 c1a c1b hnews
    refine wdn ?_
    go_wp2_with fail
    go_roundw
    case rel => exact ⟨j + 1, _, P ++ [(x, y)], by omega, by go_num, HM, HP2⟩
    case measure => simp [intOf]; omega
  have t0 : (x.toList == tagName.toList) = false := text_beq_no h1
  rw [tag_list] at t0
  by_cases h2 : x = varyName
  ·have t2 : (x.toList == varyName.toList) = true := (text_beq _ _).2 h2
   rw [vary_list] at t2
   have HYES : Hid ((x, y).1 = tagName ∨ (x, y).1 = varyName ∨ (x, y).1 = ccName) := .inr (.inl h2)
   clear h1 h2
   have HP2 : Hid (P ++ [(x, y)] = shortF (gs.take (j + 1))) := by show _ = _; rw [HTK.out, shortF_snoc, if_pos HYES.out, ← HP.out]
   have h63 : P.length + 1 ≤ maxLen := by have := HPL.out; unfold maxLen; omega
   have h47 : (P.length + 1) * 32 ≤ 140737488355328 := by have := HPL.out; omega
   obtain ⟨⟨_, u1, _⟩, _⟩ := three_facts HS.out.q2
   have HOA : Hid ((wr.drew.alloc (.cells #[.string x, .string y] 185)).ownsRow (r + 1 + 1 + 1) 185 2 (.slice oz P.length cz) P.length (flatF P)) := ((HS.out.below (Below.refl _ _).drew).own).alloc _
   have HSA : Hid (r + 1 + 1 + 1 ≤ (wr.drew.alloc (.cells #[.string x, .string y] 185)).heap.size) := by show _ ≤ _; have := HS.out.size; simp; omega
   have hsz := HS.out.size
   have hgw : g < wr.heap.size := by omega
   have hSA : (wr.drew.alloc (.cells #[.string x, .string y] 185)).cell? ⟨r, 1, none⟩ = some (.slice (some ⟨g, 0, none⟩) n cap) ∧ (wr.drew.alloc (.cells #[.string x, .string y] 185)).cell? ⟨g, j * 2, none⟩ = some (.string x) ∧ (wr.drew.alloc (.cells #[.string x, .string y] 185)).cell? ⟨g, j * 2 + 1, none⟩ = some (.string y) := by
    have b0 : Below wr.heap.size wr (wr.drew.alloc (.cells #[.string x, .string y] 185)) := (Below.refl _ wr).drew.alloc (Nat.le_refl _) _
    exact ⟨(b0.cell (p := ⟨r, 1, none⟩) (by show r < _; omega)).trans t1, (b0.cell (p := ⟨g, j * 2, none⟩) hgw).trans n1, (b0.cell (p := ⟨g, j * 2 + 1, none⟩) hgw).trans n2⟩
   have c1a : (wr.drew.alloc (.cells #[.string x, .string y] 185)).cell? ⟨r + 1 + 1, 1, none⟩ = some (.slice oz P.length cz) := by
    have b0 : Below wr.heap.size wr (wr.drew.alloc (.cells #[.string x, .string y] 185)) := (Below.refl _ wr).drew.alloc (Nat.le_refl _) _
    exact (b0.cell (p := ⟨r + 1 + 1, 1, none⟩) (by show r + 1 + 1 < _; omega)).trans u1
   have c1b : (wr.alloc (.cells #[.string x, .string y] 185)).cell? ⟨r + 1 + 1, 1, none⟩ = some (.slice oz P.length cz) := c1a
   have hnews : ∀ i v, [Value.string x, .string y][i]? = some v → (wr.drew.alloc (.cells #[.string x, .string y] 185)).cell? ((⟨wr.heap.size, 0, none⟩ : Addr).add i) = some v := World.news_of_block (heap_alloc_new wr.drew _)
   have HMORE : Hid (∀ W4 g4 cap4, (wr.drew.alloc (.cells #[.string x, .string y] 185)).grownBy W4 (Value.slice oz P.length cz).ownBlock → W4.ownsRow (r + 1 + 1 + 1) 185 2 (.slice (some ⟨g4, 0, none⟩) (P.length + 1) cap4) (P.length + 1) (flatF P ++ [.string x, .string y]) →
     (W4.cell? ⟨r, 1, none⟩ = some (.slice (some ⟨g, 0, none⟩) n cap) ∧ W4.cell? ⟨g, j * 2, none⟩ = some (.string x) ∧ W4.cell? ⟨g, j * 2 + 1, none⟩ = some (.string y)) ∧ ((W4.setCell ⟨r + 1 + 1, 1, none⟩ (.slice (some ⟨g4, 0, none⟩) (P.length + 1) cap4)).cell? ⟨r, 1, none⟩ = some (.slice (some ⟨g, 0, none⟩) n cap) ∧ (W4.setCell ⟨r + 1 + 1, 1, none⟩ (.slice (some ⟨g4, 0, none⟩) (P.length + 1) cap4)).cell? ⟨g, j * 2, none⟩ = some (.string x) ∧ (W4.setCell ⟨r + 1 + 1, 1, none⟩ (.slice (some ⟨g4, 0, none⟩) (P.length + 1) cap4)).cell? ⟨g, j * 2 + 1, none⟩ = some (.string y)) ∧ (∃ q, W4.cell? ⟨r + 1 + 1, 1, none⟩ = some q) ∧ W4.frozen? ⟨r + 1 + 1, 1, none⟩ = false ∧
     ShSt w r st (.slice (some ⟨g, 0, none⟩) n cap) b (.slice (some ⟨g4, 0, none⟩) (P.length + 1) cap4) (P ++ [(x, y)]) (W4.setCell ⟨r + 1 + 1, 1, none⟩ (.slice (some ⟨g4, 0, none⟩) (P.length + 1) cap4))) := by
    intro W4 g4 cap4 hg4 ho4
    have b0 : Below wr.heap.size wr (wr.drew.alloc (.cells #[.string x, .string y] 185)) := (Below.refl _ wr).drew.alloc (Nat.le_refl _) _
    have h1 := HS.out.below b0
    have bg : Below (r + 1 + 1 + 1) (wr.drew.alloc (.cells #[.string x, .string y] 185)) W4 := below_grownO hg4 HSA.out (fun q hq => owns_ge HOA.out hq)
    have e0 := (bg.block r (by omega)).trans h1.q0
    have e1 := (bg.block (r + 1) (by omega)).trans h1.q1
    have e2 := (bg.block (r + 1 + 1) (by omega)).trans h1.q2
    obtain ⟨⟨_, a1, _⟩, _⟩ := three_facts e0
    obtain ⟨⟨_, a2, _⟩, _, a3, _⟩ := three_facts e2
    have m1 : W4.cell? ⟨g, j * 2, none⟩ = some (.string x) := (bg.cell (p := ⟨g, j * 2, none⟩) (by show g < _; omega)).trans hSA.2.1
    have m2 : W4.cell? ⟨g, j * 2 + 1, none⟩ = some (.string y) := (bg.cell (p := ⟨g, j * 2 + 1, none⟩) (by show g < _; omega)).trans hSA.2.2
    refine ⟨⟨a1, m1, m2⟩, ⟨by rw [cell_set_other _ _ _ _ _ _ (by omega)]; exact a1, by rw [cell_set_other _ _ _ _ _ _ (by omega)]; exact m1, by rw [cell_set_other _ _ _ _ _ _ (by omega)]; exact m2⟩, ⟨_, a2⟩, a3, ⟨by rw [heap_setCell_other _ _ r _ (by show r ≠ r + 1 + 1; omega)]; exact e0, by rw [heap_setCell_other _ _ (r + 1) _ (by show r + 1 ≠ r + 1 + 1; omega)]; exact e1, ?_, ?_, (h1.low.trans (bg.mono (by omega))).setCell (by show r ≤ r + 1 + 1; omega) _⟩⟩
    ·have := heap_set W4 (r + 1 + 1) 1 _ _ _ (.slice (some ⟨g4, 0, none⟩) (P.length + 1) cap4) e2
     simpa using this
    ·rw [List.length_append, flatF_append, flatF_one]
     refine owns_same ho4 (fun q hq => heap_setCell_other _ _ q _ ?_)
     have := owns_ge ho4 hq
     show q ≠ r + 1 + 1
     omega
   clear HS HP HTK HYES hgw hsz
   go_upto_region 7 with fail
   refine wp_region_held_drew (S := fun W => W.cell? ⟨r, 1, none⟩ = some (.slice (some ⟨g, 0, none⟩) n cap) ∧ W.cell? ⟨g, j * 2, none⟩ = some (.string x) ∧ W.cell? ⟨g, j * 2 + 1, none⟩ = some (.string y)) (by kernel_rfl) ⟨t1, n1, n2⟩ (fun hS0 => ?_)
   refine tkP 0 (.pointer (some ⟨r + 1 + 1, 1, none⟩)) 30 rfl rfl hS0 (tkP 2 (.pointer (some ⟨r, 1, none⟩)) 32 rfl rfl hS0 ?_)
   go_frame
   refine tkL 3 (.slice (some ⟨g, 0, none⟩) n cap) 33 rfl rfl (Or.inl ⟨by rfl, by intro W hW; obtain ⟨h1, h2, h3⟩ := hW; go_simp⟩) hS0 ?_
   go_frame
   refine tkP 4 (.int .i64 (j : Int)) 34 rfl rfl hS0 (tkP 5 (.pointer (some ⟨g, j * 2, none⟩)) 35 rfl rfl hS0 ?_)
   go_frame
   refine tkL 6 (.agg #[.string x, .string y]) 36 rfl rfl (Or.inl ⟨by rfl, by intro W hW; obtain ⟨h1, h2, h3⟩ := hW; go_simp⟩) hS0 ?_
   go_frame
   refine wpAnyH_ready (rs := [1, 7]) (by kernel_rfl) (by simp) ?_
   refine AllReadyH.cons rfl (fun K hK => ?_) (AllReadyH.cons rfl (fun K hK => ?_) AllReadyH.nil)
   ·go_simp
    refine hK.out _ _ hS0 (fun _ => ?_)
    clear hK K
    refine rd1 7 rfl (fun K hK => ?_)
    go_simp
    refine hK.out _ _ hSA (fun _ => ?_)
    clear hK K
    refine rd1 8 rfl (fun K hK => ?_)
    refine step_append_lies _ (by rfl) _ _ _ (by rfl) (r + 1 + 1 + 1) 185 i0 (.agg #[.string ⟨#[]⟩, .string ⟨#[]⟩]) 2 32 Tryz.underlying56 hi hz0 hz1 hz2 rfl (by omega) (.slice oz P.length cz) P.length (flatF P) (by rfl) HOA.out ⟨wr.heap.size, 0, none⟩ 1 1 [.string x, .string y] (by rfl) (by rfl) hnews (by simp [Value.oneCell']) (by omega) h63 h47 HSA.out (wr.heap.size + 1) (by simp) ?_
    intro g4 cap4 w4 hown4 hgrow4 _ _
    obtain ⟨hS4, hS5, ⟨q5, hq5⟩, f5, hM⟩ := HMORE.out w4 g4 cap4 hgrow4 hown4
    have HM := hid hM
    clear hown4 hgrow4 hM HMORE
    simp only [Act.put, List.setIfInBounds_toArray]
    refine hK.out _ _ hS4 (fun _ => ?_)
    clear hK K
    refine tkP 9 (.pointer (some ⟨r + 1 + 1, 1, none⟩)) 39 rfl rfl hS4 ?_
    simp only [Act.put]
    refine rd1 10 rfl (fun K hK => ?_)
    go_simp
    refine hK.out _ _ hS5 (fun _ => ?_)
    clear hK K hq5 f5 hS4 hS5 hS0 hSA t1 n1 n2 u1 c1a c1b hnews
    refine wdn ?_
    go_wp2_with fail
    go_roundw
    case rel => exact ⟨j + 1, _, P ++ [(x, y)], by omega, by go_num, HM, HP2⟩
    case measure => simp [intOf]; omega
   ·go_simp
    refine hK.out _ _ hSA (fun _ => ?_)
    clear hK K
    refine rd1 1 rfl (fun K hK => ?_)
    go_simp
    refine hK.out _ _ hSA (fun _ => ?_)
    clear hK K
    refine rd1 8 rfl (fun K hK => ?_)
    refine step_append_lies _ (by rfl) _ _ _ (by rfl) (r + 1 + 1 + 1) 185 i0 (.agg #[.string ⟨#[]⟩, .string ⟨#[]⟩]) 2 32 Tryz.underlying56 hi hz0 hz1 hz2 rfl (by omega) (.slice oz P.length cz) P.length (flatF P) (by rfl) HOA.out ⟨wr.heap.size, 0, none⟩ 1 1 [.string x, .string y] (by rfl) (by rfl) hnews (by simp [Value.oneCell']) (by omega) h63 h47 HSA.out (wr.heap.size + 1) (by simp) ?_
    intro g4 cap4 w4 hown4 hgrow4 _ _
    obtain ⟨hS4, hS5, ⟨q5, hq5⟩, f5, hM⟩ := HMORE.out w4 g4 cap4 hgrow4 hown4
    have HM := hid hM
    clear hown4 hgrow4 hM HMORE
    simp only [Act.put, List.setIfInBounds_toArray]
    refine hK.out _ _ hS4 (fun _ => ?_)
    clear hK K
    refine tkP 9 (.pointer (some ⟨r + 1 + 1, 1, none⟩)) 39 rfl rfl hS4 ?_
    simp only [Act.put]
    refine rd1 10 rfl (fun K hK => ?_)
    go_simp
    refine hK.out _ _ hS5 (fun _ => ?_)
    clear hK K hq5 f5 hS4 hS5 hS0 hSA t1 n1 n2 u1 c1a c1b hnews
    refine wdn ?_
    go_wp2_with fail
    go_roundw
    case rel => exact ⟨j + 1, _, P ++ [(x, y)], by omega, by go_num, HM, HP2⟩
    case measure => simp [intOf]; omega
  have t2 : (x.toList == varyName.toList) = false := text_beq_no h2
  rw [vary_list] at t2
  by_cases h3 : x = ccName
  rotate_left
  ·have t3 : (x.toList == ccName.toList) = false := text_beq_no h3
   rw [ccN_list] at t3
   have HNOT : Hid (¬ ((x, y).1 = tagName ∨ (x, y).1 = varyName ∨ (x, y).1 = ccName)) := fun h => by
    rcases h with h | h | h
    · exact h1 h
    · exact h2 h
    · exact h3 h
   clear h1 h2 h3
   have HS2 : Hid (ShSt w r st (.slice (some ⟨g, 0, none⟩) n cap) b (.slice oz P.length cz) P wr) := HS.out
   have HP2 : Hid (P = shortF (gs.take (j + 1))) := by show _ = _; rw [HTK.out, shortF_snoc, if_neg HNOT.out]; exact HP.out
   clear HP HTK HNOT
   go_wp2_with fail
   go_roundw
   case rel => exact ⟨j + 1, _, P, by omega, by go_num, HS2, HP2⟩
   case measure => simp [intOf]; omega
  have t3 : (x.toList == ccName.toList) = true := (text_beq _ _).2 h3
  rw [ccN_list] at t3
  have HYES : Hid ((x, y).1 = tagName ∨ (x, y).1 = varyName ∨ (x, y).1 = ccName) := .inr (.inr h3)
  clear h1 h2 h3
  have HP2 : Hid (P ++ [(x, y)] = shortF (gs.take (j + 1))) := by show _ = _; rw [HTK.out, shortF_snoc, if_pos HYES.out, ← HP.out]
  have h63 : P.length + 1 ≤ maxLen := by have := HPL.out; unfold maxLen; omega
  have h47 : (P.length + 1) * 32 ≤ 140737488355328 := by have := HPL.out; omega
  obtain ⟨⟨_, u1, _⟩, _⟩ := three_facts HS.out.q2
  have HOA : Hid ((wr.drew.alloc (.cells #[.string x, .string y] 185)).ownsRow (r + 1 + 1 + 1) 185 2 (.slice oz P.length cz) P.length (flatF P)) := ((HS.out.below (Below.refl _ _).drew).own).alloc _
  have HSA : Hid (r + 1 + 1 + 1 ≤ (wr.drew.alloc (.cells #[.string x, .string y] 185)).heap.size) := by show _ ≤ _; have := HS.out.size; simp; omega
  have hsz := HS.out.size
  have hgw : g < wr.heap.size := by omega
  have hSA : (wr.drew.alloc (.cells #[.string x, .string y] 185)).cell? ⟨r, 1, none⟩ = some (.slice (some ⟨g, 0, none⟩) n cap) ∧ (wr.drew.alloc (.cells #[.string x, .string y] 185)).cell? ⟨g, j * 2, none⟩ = some (.string x) ∧ (wr.drew.alloc (.cells #[.string x, .string y] 185)).cell? ⟨g, j * 2 + 1, none⟩ = some (.string y) := by
   have b0 : Below wr.heap.size wr (wr.drew.alloc (.cells #[.string x, .string y] 185)) := (Below.refl _ wr).drew.alloc (Nat.le_refl _) _
   exact ⟨(b0.cell (p := ⟨r, 1, none⟩) (by show r < _; omega)).trans t1, (b0.cell (p := ⟨g, j * 2, none⟩) hgw).trans n1, (b0.cell (p := ⟨g, j * 2 + 1, none⟩) hgw).trans n2⟩
  have c1a : (wr.drew.alloc (.cells #[.string x, .string y] 185)).cell? ⟨r + 1 + 1, 1, none⟩ = some (.slice oz P.length cz) := by
   have b0 : Below wr.heap.size wr (wr.drew.alloc (.cells #[.string x, .string y] 185)) := (Below.refl _ wr).drew.alloc (Nat.le_refl _) _
   exact (b0.cell (p := ⟨r + 1 + 1, 1, none⟩) (by show r + 1 + 1 < _; omega)).trans u1
  have c1b : (wr.alloc (.cells #[.string x, .string y] 185)).cell? ⟨r + 1 + 1, 1, none⟩ = some (.slice oz P.length cz) := c1a
  have hnews : ∀ i v, [Value.string x, .string y][i]? = some v → (wr.drew.alloc (.cells #[.string x, .string y] 185)).cell? ((⟨wr.heap.size, 0, none⟩ : Addr).add i) = some v := World.news_of_block (heap_alloc_new wr.drew _)
  have HMORE : Hid (∀ W4 g4 cap4, (wr.drew.alloc (.cells #[.string x, .string y] 185)).grownBy W4 (Value.slice oz P.length cz).ownBlock → W4.ownsRow (r + 1 + 1 + 1) 185 2 (.slice (some ⟨g4, 0, none⟩) (P.length + 1) cap4) (P.length + 1) (flatF P ++ [.string x, .string y]) →
    (W4.cell? ⟨r, 1, none⟩ = some (.slice (some ⟨g, 0, none⟩) n cap) ∧ W4.cell? ⟨g, j * 2, none⟩ = some (.string x) ∧ W4.cell? ⟨g, j * 2 + 1, none⟩ = some (.string y)) ∧ ((W4.setCell ⟨r + 1 + 1, 1, none⟩ (.slice (some ⟨g4, 0, none⟩) (P.length + 1) cap4)).cell? ⟨r, 1, none⟩ = some (.slice (some ⟨g, 0, none⟩) n cap) ∧ (W4.setCell ⟨r + 1 + 1, 1, none⟩ (.slice (some ⟨g4, 0, none⟩) (P.length + 1) cap4)).cell? ⟨g, j * 2, none⟩ = some (.string x) ∧ (W4.setCell ⟨r + 1 + 1, 1, none⟩ (.slice (some ⟨g4, 0, none⟩) (P.length + 1) cap4)).cell? ⟨g, j * 2 + 1, none⟩ = some (.string y)) ∧ (∃ q, W4.cell? ⟨r + 1 + 1, 1, none⟩ = some q) ∧ W4.frozen? ⟨r + 1 + 1, 1, none⟩ = false ∧
    ShSt w r st (.slice (some ⟨g, 0, none⟩) n cap) b (.slice (some ⟨g4, 0, none⟩) (P.length + 1) cap4) (P ++ [(x, y)]) (W4.setCell ⟨r + 1 + 1, 1, none⟩ (.slice (some ⟨g4, 0, none⟩) (P.length + 1) cap4))) := by
   intro W4 g4 cap4 hg4 ho4
   have b0 : Below wr.heap.size wr (wr.drew.alloc (.cells #[.string x, .string y] 185)) := (Below.refl _ wr).drew.alloc (Nat.le_refl _) _
   have h1 := HS.out.below b0
   have bg : Below (r + 1 + 1 + 1) (wr.drew.alloc (.cells #[.string x, .string y] 185)) W4 := below_grownO hg4 HSA.out (fun q hq => owns_ge HOA.out hq)
   have e0 := (bg.block r (by omega)).trans h1.q0
   have e1 := (bg.block (r + 1) (by omega)).trans h1.q1
   have e2 := (bg.block (r + 1 + 1) (by omega)).trans h1.q2
   obtain ⟨⟨_, a1, _⟩, _⟩ := three_facts e0
   obtain ⟨⟨_, a2, _⟩, _, a3, _⟩ := three_facts e2
   have m1 : W4.cell? ⟨g, j * 2, none⟩ = some (.string x) := (bg.cell (p := ⟨g, j * 2, none⟩) (by show g < _; omega)).trans hSA.2.1
   have m2 : W4.cell? ⟨g, j * 2 + 1, none⟩ = some (.string y) := (bg.cell (p := ⟨g, j * 2 + 1, none⟩) (by show g < _; omega)).trans hSA.2.2
   refine ⟨⟨a1, m1, m2⟩, ⟨by rw [cell_set_other _ _ _ _ _ _ (by omega)]; exact a1, by rw [cell_set_other _ _ _ _ _ _ (by omega)]; exact m1, by rw [cell_set_other _ _ _ _ _ _ (by omega)]; exact m2⟩, ⟨_, a2⟩, a3, ⟨by rw [heap_setCell_other _ _ r _ (by show r ≠ r + 1 + 1; omega)]; exact e0, by rw [heap_setCell_other _ _ (r + 1) _ (by show r + 1 ≠ r + 1 + 1; omega)]; exact e1, ?_, ?_, (h1.low.trans (bg.mono (by omega))).setCell (by show r ≤ r + 1 + 1; omega) _⟩⟩
   ·have := heap_set W4 (r + 1 + 1) 1 _ _ _ (.slice (some ⟨g4, 0, none⟩) (P.length + 1) cap4) e2
    simpa using this
   ·rw [List.length_append, flatF_append, flatF_one]
    refine owns_same ho4 (fun q hq => heap_setCell_other _ _ q _ ?_)
    have := owns_ge ho4 hq
    show q ≠ r + 1 + 1
    omega
  clear HS HP HTK HYES hgw hsz
  go_upto_region 7 with fail
  refine wp_region_held_drew (S := fun W => W.cell? ⟨r, 1, none⟩ = some (.slice (some ⟨g, 0, none⟩) n cap) ∧ W.cell? ⟨g, j * 2, none⟩ = some (.string x) ∧ W.cell? ⟨g, j * 2 + 1, none⟩ = some (.string y)) (by kernel_rfl) ⟨t1, n1, n2⟩ (fun hS0 => ?_)
  refine tkP 0 (.pointer (some ⟨r + 1 + 1, 1, none⟩)) 30 rfl rfl hS0 (tkP 2 (.pointer (some ⟨r, 1, none⟩)) 32 rfl rfl hS0 ?_)
  go_frame
  refine tkL 3 (.slice (some ⟨g, 0, none⟩) n cap) 33 rfl rfl (Or.inl ⟨by rfl, by intro W hW; obtain ⟨h1, h2, h3⟩ := hW; go_simp⟩) hS0 ?_
  go_frame
  refine tkP 4 (.int .i64 (j : Int)) 34 rfl rfl hS0 (tkP 5 (.pointer (some ⟨g, j * 2, none⟩)) 35 rfl rfl hS0 ?_)
  go_frame
  refine tkL 6 (.agg #[.string x, .string y]) 36 rfl rfl (Or.inl ⟨by rfl, by intro W hW; obtain ⟨h1, h2, h3⟩ := hW; go_simp⟩) hS0 ?_
  go_frame
  refine wpAnyH_ready (rs := [1, 7]) (by kernel_rfl) (by simp) ?_
  refine AllReadyH.cons rfl (fun K hK => ?_) (AllReadyH.cons rfl (fun K hK => ?_) AllReadyH.nil)
  ·go_simp
   refine hK.out _ _ hS0 (fun _ => ?_)
   clear hK K
   refine rd1 7 rfl (fun K hK => ?_)
   go_simp
   refine hK.out _ _ hSA (fun _ => ?_)
   clear hK K
   refine rd1 8 rfl (fun K hK => ?_)
   refine step_append_lies _ (by rfl) _ _ _ (by rfl) (r + 1 + 1 + 1) 185 i0 (.agg #[.string ⟨#[]⟩, .string ⟨#[]⟩]) 2 32 Tryz.underlying56 hi hz0 hz1 hz2 rfl (by omega) (.slice oz P.length cz) P.length (flatF P) (by rfl) HOA.out ⟨wr.heap.size, 0, none⟩ 1 1 [.string x, .string y] (by rfl) (by rfl) hnews (by simp [Value.oneCell']) (by omega) h63 h47 HSA.out (wr.heap.size + 1) (by simp) ?_
   intro g4 cap4 w4 hown4 hgrow4 _ _
   obtain ⟨hS4, hS5, ⟨q5, hq5⟩, f5, hM⟩ := HMORE.out w4 g4 cap4 hgrow4 hown4
   have HM := hid hM
   clear hown4 hgrow4 hM HMORE
   simp only [Act.put, List.setIfInBounds_toArray]
   refine hK.out _ _ hS4 (fun _ => ?_)
   clear hK K
   refine tkP 9 (.pointer (some ⟨r + 1 + 1, 1, none⟩)) 39 rfl rfl hS4 ?_
   simp only [Act.put]
   refine rd1 10 rfl (fun K hK => ?_)
   go_simp
   refine hK.out _ _ hS5 (fun _ => ?_)
   clear hK K hq5 f5 hS4 hS5 hS0 hSA t1 n1 n2 u1 c1a c1b hnews
   refine wdn ?_
   go_wp2_with fail
   go_roundw
   case rel => exact ⟨j + 1, _, P ++ [(x, y)], by omega, by go_num, HM, HP2⟩
   case measure => simp [intOf]; omega
  ·go_simp
   refine hK.out _ _ hSA (fun _ => ?_)
   clear hK K
   refine rd1 1 rfl (fun K hK => ?_)
   go_simp
   refine hK.out _ _ hSA (fun _ => ?_)
   clear hK K
   refine rd1 8 rfl (fun K hK => ?_)
   refine step_append_lies _ (by rfl) _ _ _ (by rfl) (r + 1 + 1 + 1) 185 i0 (.agg #[.string ⟨#[]⟩, .string ⟨#[]⟩]) 2 32 Tryz.underlying56 hi hz0 hz1 hz2 rfl (by omega) (.slice oz P.length cz) P.length (flatF P) (by rfl) HOA.out ⟨wr.heap.size, 0, none⟩ 1 1 [.string x, .string y] (by rfl) (by rfl) hnews (by simp [Value.oneCell']) (by omega) h63 h47 HSA.out (wr.heap.size + 1) (by simp) ?_
   intro g4 cap4 w4 hown4 hgrow4 _ _
   obtain ⟨hS4, hS5, ⟨q5, hq5⟩, f5, hM⟩ := HMORE.out w4 g4 cap4 hgrow4 hown4
   have HM := hid hM
   clear hown4 hgrow4 hM HMORE
   simp only [Act.put, List.setIfInBounds_toArray]
   refine hK.out _ _ hS4 (fun _ => ?_)
   clear hK K
   refine tkP 9 (.pointer (some ⟨r + 1 + 1, 1, none⟩)) 39 rfl rfl hS4 ?_
   simp only [Act.put]
   refine rd1 10 rfl (fun K hK => ?_)
   go_simp
   refine hK.out _ _ hS5 (fun _ => ?_)
   clear hK K hq5 f5 hS4 hS5 hS0 hSA t1 n1 n2 u1 c1a c1b hnews
   refine wdn ?_
   go_wp2_with fail
   go_roundw
   case rel => exact ⟨j + 1, _, P ++ [(x, y)], by omega, by go_num, HM, HP2⟩
   case measure => simp [intOf]; omega
theorem specAnswer_any (ma : Int) (pa : Tx) (va : Value) (ba : Tx) (na basea : Nat) (fsa : Fs) (op : Tx) (o1 o2 : Oa) (n1 c1 n2 c2 : Nat) (st : Int) (u : Value) (d : Tx) (t : Int) (k baseo : Nat) (gs : Fs) (now : Int) (w : World) (hva : FieldsV w basea va na fsa) (hna : na ≤ 1048576) (hsa : WalkF na fsa) (hpa : pa.size ≤ maxLen) (hba : ba.size ≤ maxLen) (hga : ∀ x, (getV fsa x).size ≤ 1048576) (hu : FieldsV w baseo u k gs) (hk : k ≤ 1048576) (hso : WalkF k gs) (hd : d.size ≤ maxLen) (hgo : ∀ x, (getV gs x).size ≤ 1048576) (ht : -9223372036854775808 ≤ t) (hnow : now ≤ 9223372036854775807) :
  Calls Tryz.prog 40 #[.agg #[.int .i64 ma, .string pa, va, .string ba], .agg #[.string op, .slice o1 n1 c1, .slice o2 n2 c2, .int .i64 st, u, .string d, .int .i64 t], .int .i64 now] w fun e w' => RespRow (ansS fsa gs st) (ansF fsa gs st d t now) (ansB fsa gs d) w e w' := by
 obtain ⟨oa, ca, hsl, _⟩ := hva.slice
 subst hsl
 have HVa : Hid (∀ W, Below w.heap.size w W → FieldsV W basea (.slice oa na ca) na fsa) := fun W h => hva.below h
 have HLFa : Hid (fsa.length = na) := hva.len
 have HSa := hid hsa
 have HPMa := hid hpa
 have HBMa := hid hba
 have HQVa := hid hga
 clear hva hsa hpa hba hga
 obtain ⟨o3, c3, hsl, _⟩ := hu.slice
 subst hsl
 have HVo : Hid (∀ W, Below w.heap.size w W → FieldsV W baseo (.slice o3 k c3) k gs) := fun W h => hu.below h
 have HLo : Hid (gs.length = k) := hu.len
 have HSo := hid hso
 have HDM := hid hd
 have HGo := hid hgo
 have HTN : Hid (-9223372036854775808 ≤ t ∧ now ≤ 9223372036854775807) := ⟨ht, hnow⟩
 clear hu hso hd hgo ht hnow
 obtain ⟨sg, hsg⟩ := exq (shortF gs)
 have HSG : Hid (shortF gs = sg) := hsg.symm
 have HSL : Hid (sg.length ≤ k) := by show _ ≤ _; rw [hsg, ← HLo.out]; exact shortF_le gs
 have bsl : sg.length ≤ 1048576 := by have := HSL.out; omega
 have HSW : Hid (WalkF sg.length sg) := by show WalkF _ _; rw [hsg]; exact walk_short HLo.out HSo.out
 clear hsg
 obtain ⟨ag, hag⟩ := exq (ageAt gs t now)
 have HAG : Hid (ageAt gs t now = ag) := hag.symm
 have HAB : Hid (0 ≤ ag ∧ ag ≤ 1000000) := by show _ ∧ _; rw [hag]; exact ageAt_in gs t now
 have hab0 : -9223372036854775808 ≤ ag := by have := HAB.out.1; omega
 have hab1 : ag ≤ 9223372036854775807 := by have := HAB.out.2; omega
 clear hag
 obtain ⟨tx, htx⟩ := exq (numTextI ag)
 have HTX : Hid (numTextI ag = tx) := htx.symm
 have HAT : Hid (ageT gs t now = tx) := by show _ = _; rw [htx, ← HAG.out]; rfl
 have HTZ : Hid (tx.size ≤ 8) := by show _ ≤ _; rw [← HAT.out]; exact ageT_size gs t now
 clear htx
 have hb0 := Below.refl w.heap.size w
 go_enter Tryz.func40, Tryz.ntmps40
 go_upto_region 1 with fail
 obtain ⟨q1, hq1⟩ := exq (w.heap.size)
 obtain ⟨w1, hW1⟩ := exq (w.alloc (.cells #[.int .i64 ma, .string pa, .slice oa na ca, .string ba] 58))
 have hz1 := hq1.symm
 rw [← hW1]; try rw [← hq1]
 have hs1 := hsa hW1 hz1
 have bw := bal hW1
 have hb1 := hbt hb0 bw
 have B1_1 := hnew hW1 hz1
 clear hb0 bw hW1 hz1
 obtain ⟨q2, hq2⟩ := exq (q1 + 1)
 obtain ⟨w2, hW2⟩ := exq (w1.alloc (.cells #[.string op, .slice o1 n1 c1, .slice o2 n2 c2, .int .i64 st, .slice o3 k c3, .string d, .int .i64 t] 62))
 have hz2 : w1.heap.size = q2 := by rw [hq2]; exact hs1
 rw [← hW2]; try rw [← hq2]
 have hs2 := hsa hW2 hz2
 have bw := bal hW2
 have hb2 := hbt hb1 bw
 have B1_2 := hblk B1_1 bw
 have B2_2 := hnew hW2 hz2
 clear hb1 bw hW2 hz2
 obtain ⟨q3, hq3⟩ := exq (q2 + 1)
 obtain ⟨w3, hW3⟩ := exq (w2.alloc (.cells #[.int .i64 0, .slice none 0 0, .string ⟨#[]⟩] 60))
 have hz3 : w2.heap.size = q3 := by rw [hq3]; exact hs2
 rw [← hW3]; try rw [← hq3]
 have hs3 := hsa hW3 hz3
 have bw := bal hW3
 have hb3 := hbt hb2 bw
 have B1_3 := hblk B1_2 bw
 have B2_3 := hblk B2_2 bw
 have Nv1v3 := hnq B1_2 hz3
 have Nv2v3 := hnq B2_2 hz3
 have B3_3 := hnew hW3 hz3
 have Gv3 := hge hz3 hb2
 clear hb2 bw hW3 hz3
 clear hs3 hq3 hs2 hq2 hs1 hq1
 have c2_3 := (k7c B2_3).2.2.2.1
 have c2_4 := (k7c B2_3).2.2.2.2.1
 have c2_5 := (k7c B2_3).2.2.2.2.2.1
 go_wp2_with fail
 refine (l9Resp_any st _ d k baseo gs _ (HVo.out _ hb3) (by omega)).mono ?_
 rintro e w4 ⟨vv, rfl, ownCG, bw⟩
 obtain ⟨oCG, pCG, rfl⟩ := slice_of_owns ownCG
 rw [HLo.out] at ownCG ⊢
 have hb4 := hbt hb3 bw
 have B1_4 := hblk B1_3 bw
 have B2_4 := hblk B2_3 bw
 have B3_4 := hblk B3_3 bw
 have HOCG_4 := hwd ownCG hb3.size
 clear ownCG
 clear hb3 bw
 clear c2_3 c2_4 c2_5
 go_upto_region 2 with fail
 obtain ⟨q4, hq4⟩ := exq (w4.heap.size)
 obtain ⟨w5, hW5⟩ := exq (w4.alloc (.cells #[.int .i64 st, .slice oCG k pCG, .string d] 60))
 have hz5 := hq4.symm
 rw [← hW5]; try rw [← hq4]
 have hs5 := hsa hW5 hz5
 have bw := bal hW5
 have hb5 := hbt hb4 bw
 have HOCG_5 := hown HOCG_4 bw
 have B1_5 := hblk B1_4 bw
 have B2_5 := hblk B2_4 bw
 have B3_5 := hblk B3_4 bw
 have Nv1v4 := hnq B1_4 hz5
 have Nv2v4 := hnq B2_4 hz5
 have Nv3v4 := hnq B3_4 hz5
 have B4_5 := hnew hW5 hz5
 have Gv4 := hge hz5 hb4
 clear hb4 bw hW5 hz5
 clear hs5 hq4
 have c1_0 := (k4c B1_5).1
 have c1_1 := (k4c B1_5).2.1
 have c1_2 := (k4c B1_5).2.2.1
 have c1_3 := (k4c B1_5).2.2.2
 have c2_4 := (k7c B2_5).2.2.2.2.1
 go_wp2_with fail
 refine (specSame_any ma pa _ ba na basea fsa _ k baseo gs _ (HVa.out _ hb5) (by omega) (HVo.out _ hb5) (by omega)).mono ?_
 rintro e w6 ⟨sm, rfl, hsm, bw⟩
 have hb6 := hbt hb5 bw
 have HOCG_6 := hown HOCG_5 bw
 have B1_6 := hblk B1_5 bw
 have B2_6 := hblk B2_5 bw
 have B3_6 := hblk B3_5 bw
 have B4_6 := hblk B4_5 bw
 clear hb5 bw
 clear c1_0 c1_1 c1_2 c1_3 c2_4
 cases sm
 ·have HNsm : Hid (¬ (SameP fsa gs)) := fun h => nomatch hsm.2 h
  clear hsm
  have c4_0 := (k3c B4_6).1
  have Acv4_0 := hca B4_6 0 rfl
  have Afcv4_0 := hfa B4_6 0
  have c4_1 := (k3c B4_6).2.1
  have Acv4_1 := hca B4_6 1 rfl
  have Afcv4_1 := hfa B4_6 1
  have c4_2 := (k3c B4_6).2.2
  have Acv4_2 := hca B4_6 2 rfl
  have Afcv4_2 := hfa B4_6 2
  go_upto_region 5 with fail
  obtain ⟨q5, hq5⟩ := exq (w6.heap.size)
  obtain ⟨w7, hW7⟩ := exq (w6.alloc (.cells #[.int .i64 st, .slice oCG k pCG, .string d] 60))
  have hz7 := hq5.symm
  rw [← hW7]; try rw [← hq5]
  have hs7 := hsa hW7 hz7
  have bw := bal hW7
  have hb7 := hbt hb6 bw
  have HM7 := hsz bw
  have HOCG_7 := hown HOCG_6 bw
  have B1_7 := hblk B1_6 bw
  have B2_7 := hblk B2_6 bw
  have B3_7 := hblk B3_6 bw
  have B4_7 := hblk B4_6 bw
  have Nv1v5 := hnq B1_6 hz7
  have Nv2v5 := hnq B2_6 hz7
  have Nv3v5 := hnq B3_6 hz7
  have Nv4v5 := hnq B4_6 hz7
  have B5_7 := hnew hW7 hz7
  have Gv5 := hge hz7 hb6
  clear hb6 bw hW7 hz7
  clear hs7 hq5
  clear c4_0 Acv4_0 Afcv4_0 c4_1 Acv4_1 Afcv4_1 c4_2 Acv4_2 Afcv4_2
  go_upto_region 5 with fail
  refine wp_region_held_drew (S := fun W => W.heap[q4]? = some (.cells #[.int .i64 st, .slice oCG k pCG, .string d] 60) ∧ W.heap[q2]? = some (.cells #[.string op, .slice o1 n1 c1, .slice o2 n2 c2, .int .i64 st, .slice o3 k c3, .string d, .int .i64 t] 62)) (by kernel_rfl) ⟨B4_7.out, B2_7.out⟩ (fun _ => ?_)
  obtain ⟨w8, hX⟩ := exq w7.drew
  have bw := bdr hX
  rw [← hX]
  have hb8 := hbt hb7 bw
  have HM8 := hsz bw
  have HOCG_8 := hown HOCG_7 bw
  have B1_8 := hblk B1_7 bw
  have B2_8 := hblk B2_7 bw
  have B3_8 := hblk B3_7 bw
  have B4_8 := hblk B4_7 bw
  have B5_8 := hblk B5_7 bw
  have hS8 := And.intro B4_8.out B2_8.out
  clear hb7 bw hX
  refine tkP 0 (.pointer (some ⟨q4, 1, none⟩)) 21 rfl rfl hS8 ?_
  go_frame
  refine tkL 1 (.slice oCG k pCG) 22 rfl rfl (Or.inl ⟨by rfl, by intro W hW; obtain ⟨hhv4, hhv2⟩ := hW; have y1 := (cell_of hhv4 1).trans rfl; go_simp⟩) hS8 ?_
  go_frame
  refine tkP 2 (.pointer (some ⟨q2, 3, none⟩)) 23 rfl rfl hS8 (tkP 3 (.pointer (some ⟨q2, 4, none⟩)) 24 rfl rfl hS8 ?_)
  go_frame
  refine tkL 4 (.slice o3 k c3) 25 rfl rfl (Or.inl ⟨by rfl, by intro W hW; obtain ⟨hhv4, hhv2⟩ := hW; have y4 := (cell_of hhv2 4).trans rfl; go_simp⟩) hS8 ?_
  go_frame
  refine tkP 5 (.pointer (some ⟨q2, 6, none⟩)) 26 rfl rfl hS8 ?_
  go_frame
  refine tkL 6 (.int .i64 t) 27 rfl rfl (Or.inl ⟨by rfl, by intro W hW; obtain ⟨hhv4, hhv2⟩ := hW; have y6 := (cell_of hhv2 6).trans rfl; go_simp⟩) hS8 ?_
  go_frame
  refine tkP 7 (.int .i64 now) 28 rfl rfl hS8 ?_
  go_frame
  refine rd1 8 rfl (fun K hK => ?_)
  go_simp
  refine (specAgeAt_any _ k baseo gs t now _ (HVo.out _ hb8) (by omega) (by have := HGo.out ageName; unfold maxLen; omega) HTN.out.1 HTN.out.2).mono ?_
  rintro e w9 ⟨rfl, bw⟩
  rw [HAG.out]
  have hb9 := hbt hb8 bw
  have HM9 := hsz bw
  have HOCG_9 := hown HOCG_8 bw
  have B1_9 := hblk B1_8 bw
  have B2_9 := hblk B2_8 bw
  have B3_9 := hblk B3_8 bw
  have B4_9 := hblk B4_8 bw
  have B5_9 := hblk B5_8 bw
  clear hb8 bw
  have hS9 := And.intro B4_9.out B2_9.out
  refine hK.out _ _ hS9 (fun _ => ?_)
  clear hK K hS8
  refine rd1 9 rfl (fun K hK => ?_)
  go_simp
  refine (specNumText_int ag _ hab0 hab1).mono ?_
  rintro e w10 ⟨rfl, bw⟩
  rw [HTX.out]
  have hb10 := hbt hb9 bw
  have HM10 := hsz bw
  have HOCG_10 := hown HOCG_9 bw
  have B1_10 := hblk B1_9 bw
  have B2_10 := hblk B2_9 bw
  have B3_10 := hblk B3_9 bw
  have B4_10 := hblk B4_9 bw
  have B5_10 := hblk B5_9 bw
  clear hb9 bw
  have hS10 := And.intro B4_10.out B2_10.out
  refine hK.out _ _ hS10 (fun _ => ?_)
  clear hK K hS9
  refine rd1 10 rfl (fun K hK => ?_)
  go_simp
  refine (specPut_any _ k _ gs ageName tx _ (FieldsV.of_owns HOCG_10.out) (by omega)).mono ?_
  rintro e w11 ⟨vv, rfl, ownPG, bw⟩
  obtain ⟨pg, hpg⟩ := exq (putF gs ageName tx)
  have HPG : Hid (putF gs ageName tx = pg) := hpg.symm
  rw [← hpg] at ownPG
  have HPL : Hid (pg.length ≤ k + 1) := by show _ ≤ _; rw [hpg]; have := putF_le gs ageName tx; have h2 := HLo.out; rw [h2] at this; exact this
  have bpl : pg.length ≤ 1048577 := by have := HPL.out; omega
  have HPW : Hid (WalkF pg.length pg) := by show WalkF _ _; rw [hpg]; exact walk_put HLo.out HSo.out (by decide) (by have := HTZ.out; unfold maxLen; omega)
  clear hpg
  obtain ⟨oPG, pPG, rfl⟩ := slice_of_owns ownPG
  have hb11 := hbt hb10 bw
  have HM11 := hsz bw
  have HOCG_11 := hown HOCG_10 bw
  have B1_11 := hblk B1_10 bw
  have B2_11 := hblk B2_10 bw
  have B3_11 := hblk B3_10 bw
  have B4_11 := hblk B4_10 bw
  have B5_11 := hblk B5_10 bw
  have HOPG_11 := hwd ownPG hb10.size
  have LOPG := hlo ownPG
  have HIPG := hhi ownPG
  clear ownPG
  clear hb10 bw
  have hS11 := And.intro B4_11.out B2_11.out
  refine hK.out _ _ hS11 (fun _ => ?_)
  clear hK K hS10
  refine tkP 11 (.pointer (some ⟨q5, 1, none⟩)) 32 rfl rfl hS11 ?_
  go_frame
  refine rd1 12 rfl (fun K hK => ?_)
  have ce1 := (k3c B5_11).2.1
  have fe1 := hfz B5_11 1
  obtain ⟨w12, hY⟩ := exq ((w11.setCell ⟨q5, 1, none⟩ (.slice oPG pg.length pPG)))
  have HY := hsy hY
  have hb12 : Below w.heap.size w (w12) := by rw [hY]; exact (hb11.setCell (p := ⟨q5, 1, none⟩) Gv5.out _)
  have HM12 : Hid (w11.heap.size ≤ w12.heap.size) := by show _ ≤ _; rw [hY]; simp
  have HOCG_12 : Hid (w12.ownsRow w.heap.size 185 2 (.slice oCG k pCG) k (flatF gs)) := by show World.ownsRow _ _ _ _ _ _ _; rw [hY]; exact owns_same HOCG_11.out (fun g hg => by have hne := own_ne HOCG_11.out B5_11.out (by decide) g hg; rw [heap_setCell_other _ _ g _ hne])
  have HOPG_12 : Hid (w12.ownsRow w.heap.size 185 2 (.slice oPG pg.length pPG) pg.length (flatF pg)) := by show World.ownsRow _ _ _ _ _ _ _; rw [hY]; exact owns_same HOPG_11.out (fun g hg => by have hne := own_ne HOPG_11.out B5_11.out (by decide) g hg; rw [heap_setCell_other _ _ g _ hne])
  have B1_12 : Hid (w12.heap[q1]? = some (.cells #[.int .i64 ma, .string pa, .slice oa na ca, .string ba] 58)) := by show _ = _; rw [hY, heap_setCell_other _ _ _ _ Nv1v5.out]; exact B1_11.out
  have B2_12 : Hid (w12.heap[q2]? = some (.cells #[.string op, .slice o1 n1 c1, .slice o2 n2 c2, .int .i64 st, .slice o3 k c3, .string d, .int .i64 t] 62)) := by show _ = _; rw [hY, heap_setCell_other _ _ _ _ Nv2v5.out]; exact B2_11.out
  have B3_12 : Hid (w12.heap[q3]? = some (.cells #[.int .i64 0, .slice none 0 0, .string ⟨#[]⟩] 60)) := by show _ = _; rw [hY, heap_setCell_other _ _ _ _ Nv3v5.out]; exact B3_11.out
  have B4_12 : Hid (w12.heap[q4]? = some (.cells #[.int .i64 st, .slice oCG k pCG, .string d] 60)) := by show _ = _; rw [hY, heap_setCell_other _ _ _ _ Nv4v5.out]; exact B4_11.out
  have B5_12 : Hid (w12.heap[q5]? = some (.cells #[.int .i64 st, .slice oPG pg.length pPG, .string d] 60)) := by show _ = _; rw [hY]; have h := (heap_set _ q5 1 _ _ _ (.slice oPG pg.length pPG) B5_11.out); simpa using h
  clear hY hb11
  go_simp
  rw [HY.out]
  have hS12 := And.intro B4_12.out B2_12.out
  refine hK.out _ _ hS12 (fun _ => ?_)
  clear hK K HY hS11 ce1 fe1
  clear hS12
  refine wdn ?_
  have c5_0 := (k3c B5_12).1
  have c5_1 := (k3c B5_12).2.1
  have c5_2 := (k3c B5_12).2.2
  go_wp2_with fail
  refine (specRespOk_any st _ d pg.length _ pg _ (FieldsV.of_owns HOPG_12.out) (by omega) HPW.out HDM.out).mono ?_
  rintro e w13 ⟨ro, rfl, hro, bw⟩
  have hb13 := hbt hb12 bw
  have HM13 := hsz bw
  have HOCG_13 := hown HOCG_12 bw
  have HOPG_13 := hown HOPG_12 bw
  have B1_13 := hblk B1_12 bw
  have B2_13 := hblk B2_12 bw
  have B3_13 := hblk B3_12 bw
  have B4_13 := hblk B4_12 bw
  have B5_13 := hblk B5_12 bw
  clear hb12 bw
  clear c5_0 c5_1 c5_2
  cases ro
  rotate_left
  ·have HYro : Hid (RespP st pg d) := hro.1 rfl
   clear hro
   have c3_0 := (k3c B3_13).1
   have f3_0 := hfz B3_13 0
   have c3_1 := (k3c B3_13).2.1
   have f3_1 := hfz B3_13 1
   have c3_2 := (k3c B3_13).2.2
   have f3_2 := hfz B3_13 2
   have c5_0 := (k3c B5_13).1
   have c5_1 := (k3c B5_13).2.1
   have c5_2 := (k3c B5_13).2.2
   go_wp2_with fail
   obtain ⟨w14, hW14⟩ := exq (w13.setCell ⟨q3, 0, none⟩ (.int .i64 st))
   rw [← hW14]
   have hb14 := hbS hW14 hb13 Gv3
   have HM14 : Hid (w13.heap.size ≤ w14.heap.size) := by show _ ≤ _; rw [hW14]; simp
   have HOCG_14 := hsetR hW14 (own_ne HOCG_13.out B3_13.out (by decide)) HOCG_13
   have HOPG_14 := hsetR hW14 (own_ne HOPG_13.out B3_13.out (by decide)) HOPG_13
   have B1_14 := hset hW14 Nv1v3.out B1_13
   have B2_14 := hset hW14 Nv2v3.out B2_13
   have B4_14 := hset hW14 Nv3v4.out.symm B4_13
   have B5_14 := hset hW14 Nv3v5.out.symm B5_13
   have B3_14 := hput hW14 B3_13
   clear hb13 hW14
   obtain ⟨w15, hW15⟩ := exq (w14.setCell ⟨q3, 1, none⟩ (.slice oPG pg.length pPG))
   rw [← hW15]
   have hb15 := hbS hW15 hb14 Gv3
   have HM15 : Hid (w14.heap.size ≤ w15.heap.size) := by show _ ≤ _; rw [hW15]; simp
   have HOCG_15 := hsetR hW15 (own_ne HOCG_14.out B3_14.out (by decide)) HOCG_14
   have HOPG_15 := hsetR hW15 (own_ne HOPG_14.out B3_14.out (by decide)) HOPG_14
   have B1_15 := hset hW15 Nv1v3.out B1_14
   have B2_15 := hset hW15 Nv2v3.out B2_14
   have B4_15 := hset hW15 Nv3v4.out.symm B4_14
   have B5_15 := hset hW15 Nv3v5.out.symm B5_14
   have B3_15 := hput hW15 B3_14
   clear hb14 hW15
   obtain ⟨w16, hW16⟩ := exq (w15.setCell ⟨q3, 2, none⟩ (.string d))
   rw [← hW16]
   have hb16 := hbS hW16 hb15 Gv3
   have HM16 : Hid (w15.heap.size ≤ w16.heap.size) := by show _ ≤ _; rw [hW16]; simp
   have HOCG_16 := hsetR hW16 (own_ne HOCG_15.out B3_15.out (by decide)) HOCG_15
   have HOPG_16 := hsetR hW16 (own_ne HOPG_15.out B3_15.out (by decide)) HOPG_15
   have B1_16 := hset hW16 Nv1v3.out B1_15
   have B2_16 := hset hW16 Nv2v3.out B2_15
   have B4_16 := hset hW16 Nv3v4.out.symm B4_15
   have B5_16 := hset hW16 Nv3v5.out.symm B5_15
   have B3_16 := hput hW16 B3_15
   clear hb15 hW16
   have kv3_0 := (k3c B3_16).1
   have kv3_1 := (k3c B3_16).2.1
   have kv3_2 := (k3c B3_16).2.2
   refine bodyPost_ret (v := .agg #[.int .i64 st, .slice oPG pg.length pPG, .string d]) (by simp [results, Tryz.results40, go_sem, kv3_0, kv3_1, kv3_2]) rfl ?_
   unfold ansF
   rw [ansS_no HNsm.out, ansB_no HNsm.out, ansG_no HNsm.out, HAT.out]
   rw [merge_put (by rw [HPG.out]; exact HYro.out), HPG.out]
   exact ⟨_, rfl, HOPG_16.out, hb16⟩
  have HNro : Hid (¬ (RespP st pg d)) := fun h => nomatch hro.2 h
  clear hro
  have c3_0 := (k3c B3_13).1
  have f3_0 := hfz B3_13 0
  have c3_1 := (k3c B3_13).2.1
  have f3_1 := hfz B3_13 1
  have c3_2 := (k3c B3_13).2.2
  have f3_2 := hfz B3_13 2
  have c4_0 := (k3c B4_13).1
  have c4_1 := (k3c B4_13).2.1
  have c4_2 := (k3c B4_13).2.2
  go_wp2_with fail
  obtain ⟨w14, hW14⟩ := exq (w13.setCell ⟨q3, 0, none⟩ (.int .i64 st))
  rw [← hW14]
  have hb14 := hbS hW14 hb13 Gv3
  have HM14 : Hid (w13.heap.size ≤ w14.heap.size) := by show _ ≤ _; rw [hW14]; simp
  have HOCG_14 := hsetR hW14 (own_ne HOCG_13.out B3_13.out (by decide)) HOCG_13
  have HOPG_14 := hsetR hW14 (own_ne HOPG_13.out B3_13.out (by decide)) HOPG_13
  have B1_14 := hset hW14 Nv1v3.out B1_13
  have B2_14 := hset hW14 Nv2v3.out B2_13
  have B4_14 := hset hW14 Nv3v4.out.symm B4_13
  have B5_14 := hset hW14 Nv3v5.out.symm B5_13
  have B3_14 := hput hW14 B3_13
  clear hb13 hW14
  obtain ⟨w15, hW15⟩ := exq (w14.setCell ⟨q3, 1, none⟩ (.slice oCG k pCG))
  rw [← hW15]
  have hb15 := hbS hW15 hb14 Gv3
  have HM15 : Hid (w14.heap.size ≤ w15.heap.size) := by show _ ≤ _; rw [hW15]; simp
  have HOCG_15 := hsetR hW15 (own_ne HOCG_14.out B3_14.out (by decide)) HOCG_14
  have HOPG_15 := hsetR hW15 (own_ne HOPG_14.out B3_14.out (by decide)) HOPG_14
  have B1_15 := hset hW15 Nv1v3.out B1_14
  have B2_15 := hset hW15 Nv2v3.out B2_14
  have B4_15 := hset hW15 Nv3v4.out.symm B4_14
  have B5_15 := hset hW15 Nv3v5.out.symm B5_14
  have B3_15 := hput hW15 B3_14
  clear hb14 hW15
  obtain ⟨w16, hW16⟩ := exq (w15.setCell ⟨q3, 2, none⟩ (.string d))
  rw [← hW16]
  have hb16 := hbS hW16 hb15 Gv3
  have HM16 : Hid (w15.heap.size ≤ w16.heap.size) := by show _ ≤ _; rw [hW16]; simp
  have HOCG_16 := hsetR hW16 (own_ne HOCG_15.out B3_15.out (by decide)) HOCG_15
  have HOPG_16 := hsetR hW16 (own_ne HOPG_15.out B3_15.out (by decide)) HOPG_15
  have B1_16 := hset hW16 Nv1v3.out B1_15
  have B2_16 := hset hW16 Nv2v3.out B2_15
  have B4_16 := hset hW16 Nv3v4.out.symm B4_15
  have B5_16 := hset hW16 Nv3v5.out.symm B5_15
  have B3_16 := hput hW16 B3_15
  clear hb15 hW16
  have kv3_0 := (k3c B3_16).1
  have kv3_1 := (k3c B3_16).2.1
  have kv3_2 := (k3c B3_16).2.2
  refine bodyPost_ret (v := .agg #[.int .i64 st, .slice oCG k pCG, .string d]) (by simp [results, Tryz.results40, go_sem, kv3_0, kv3_1, kv3_2]) rfl ?_
  unfold ansF
  rw [ansS_no HNsm.out, ansB_no HNsm.out, ansG_no HNsm.out, HAT.out]
  rw [merge_not (by rw [HPG.out]; exact HNro.out)]
  exact ⟨_, rfl, by rw [HLo.out]; exact HOCG_16.out, hb16⟩
 have HYsm : Hid (SameP fsa gs) := hsm.1 rfl
 clear hsm
 have c2_3 := (k7c B2_6).2.2.2.1
 have c2_4 := (k7c B2_6).2.2.2.2.1
 have c2_5 := (k7c B2_6).2.2.2.2.2.1
 go_wp2_with fail
 refine (specShort_any st _ d k baseo gs _ (HVo.out _ hb6) (by omega)).mono ?_
 rintro e w7 ⟨vv, rfl, ownSG, bw⟩
 rw [HSG.out] at ownSG
 obtain ⟨oSG, pSG, rfl⟩ := slice_of_owns ownSG
 have hb7 := hbt hb6 bw
 have HM7 := hsz bw
 have HOCG_7 := hown HOCG_6 bw
 have B1_7 := hblk B1_6 bw
 have B2_7 := hblk B2_6 bw
 have B3_7 := hblk B3_6 bw
 have B4_7 := hblk B4_6 bw
 have HOSG_7 := hwd ownSG hb6.size
 clear ownSG
 clear hb6 bw
 clear c2_3 c2_4 c2_5
 have c4_0 := (k3c B4_7).1
 have f4_0 := hfz B4_7 0
 have c4_1 := (k3c B4_7).2.1
 have f4_1 := hfz B4_7 1
 have c4_2 := (k3c B4_7).2.2
 have f4_2 := hfz B4_7 2
 go_upto_region 4 with fail
 obtain ⟨w8, hW8⟩ := exq (w7.setCell ⟨q4, 0, none⟩ (.int .i64 304))
 rw [← hW8]
 have hb8 := hbS hW8 hb7 Gv4
 have HM8 : Hid (w7.heap.size ≤ w8.heap.size) := by show _ ≤ _; rw [hW8]; simp
 have HOCG_8 := hsetR hW8 (own_ne HOCG_7.out B4_7.out (by decide)) HOCG_7
 have HOSG_8 := hsetR hW8 (own_ne HOSG_7.out B4_7.out (by decide)) HOSG_7
 have B1_8 := hset hW8 Nv1v4.out B1_7
 have B2_8 := hset hW8 Nv2v4.out B2_7
 have B3_8 := hset hW8 Nv3v4.out B3_7
 have B4_8 := hput hW8 B4_7
 clear hb7 hW8
 obtain ⟨w9, hW9⟩ := exq (w8.setCell ⟨q4, 1, none⟩ (.slice oSG sg.length pSG))
 rw [← hW9]
 have hb9 := hbS hW9 hb8 Gv4
 have HM9 : Hid (w8.heap.size ≤ w9.heap.size) := by show _ ≤ _; rw [hW9]; simp
 have HOCG_9 := hsetR hW9 (own_ne HOCG_8.out B4_8.out (by decide)) HOCG_8
 have HOSG_9 := hsetR hW9 (own_ne HOSG_8.out B4_8.out (by decide)) HOSG_8
 have B1_9 := hset hW9 Nv1v4.out B1_8
 have B2_9 := hset hW9 Nv2v4.out B2_8
 have B3_9 := hset hW9 Nv3v4.out B3_8
 have B4_9 := hput hW9 B4_8
 clear hb8 hW9
 obtain ⟨w10, hW10⟩ := exq (w9.setCell ⟨q4, 2, none⟩ (.string ⟨#[]⟩))
 rw [← hW10]
 have hb10 := hbS hW10 hb9 Gv4
 have HM10 : Hid (w9.heap.size ≤ w10.heap.size) := by show _ ≤ _; rw [hW10]; simp
 have HOCG_10 := hsetR hW10 (own_ne HOCG_9.out B4_9.out (by decide)) HOCG_9
 have HOSG_10 := hsetR hW10 (own_ne HOSG_9.out B4_9.out (by decide)) HOSG_9
 have B1_10 := hset hW10 Nv1v4.out B1_9
 have B2_10 := hset hW10 Nv2v4.out B2_9
 have B3_10 := hset hW10 Nv3v4.out B3_9
 have B4_10 := hput hW10 B4_9
 clear hb9 hW10
 clear c4_0 f4_0 c4_1 f4_1 c4_2 f4_2
 have c4_0 := (k3c B4_10).1
 have Acv4_0 := hca B4_10 0 rfl
 have Afcv4_0 := hfa B4_10 0
 have c4_1 := (k3c B4_10).2.1
 have Acv4_1 := hca B4_10 1 rfl
 have Afcv4_1 := hfa B4_10 1
 have c4_2 := (k3c B4_10).2.2
 have Acv4_2 := hca B4_10 2 rfl
 have Afcv4_2 := hfa B4_10 2
 go_upto_region 5 with fail
 obtain ⟨q5, hq5⟩ := exq (w10.heap.size)
 obtain ⟨w11, hW11⟩ := exq (w10.alloc (.cells #[.int .i64 304, .slice oSG sg.length pSG, .string ⟨#[]⟩] 60))
 have hz11 := hq5.symm
 rw [← hW11]; try rw [← hq5]
 have hs11 := hsa hW11 hz11
 have bw := bal hW11
 have hb11 := hbt hb10 bw
 have HM11 := hsz bw
 have HOCG_11 := hown HOCG_10 bw
 have HOSG_11 := hown HOSG_10 bw
 have B1_11 := hblk B1_10 bw
 have B2_11 := hblk B2_10 bw
 have B3_11 := hblk B3_10 bw
 have B4_11 := hblk B4_10 bw
 have Nv1v5 := hnq B1_10 hz11
 have Nv2v5 := hnq B2_10 hz11
 have Nv3v5 := hnq B3_10 hz11
 have Nv4v5 := hnq B4_10 hz11
 have B5_11 := hnew hW11 hz11
 have Gv5 := hge hz11 hb10
 clear hb10 bw hW11 hz11
 clear hs11 hq5
 clear c4_0 Acv4_0 Afcv4_0 c4_1 Acv4_1 Afcv4_1 c4_2 Acv4_2 Afcv4_2
 go_upto_region 5 with fail
 refine wp_region_held_drew (S := fun W => W.heap[q4]? = some (.cells #[.int .i64 304, .slice oSG sg.length pSG, .string ⟨#[]⟩] 60) ∧ W.heap[q2]? = some (.cells #[.string op, .slice o1 n1 c1, .slice o2 n2 c2, .int .i64 st, .slice o3 k c3, .string d, .int .i64 t] 62)) (by kernel_rfl) ⟨B4_11.out, B2_11.out⟩ (fun _ => ?_)
 obtain ⟨w12, hX⟩ := exq w11.drew
 have bw := bdr hX
 rw [← hX]
 have hb12 := hbt hb11 bw
 have HM12 := hsz bw
 have HOCG_12 := hown HOCG_11 bw
 have HOSG_12 := hown HOSG_11 bw
 have B1_12 := hblk B1_11 bw
 have B2_12 := hblk B2_11 bw
 have B3_12 := hblk B3_11 bw
 have B4_12 := hblk B4_11 bw
 have B5_12 := hblk B5_11 bw
 have hS12 := And.intro B4_12.out B2_12.out
 clear hb11 bw hX
 refine tkP 0 (.pointer (some ⟨q4, 1, none⟩)) 21 rfl rfl hS12 ?_
 go_frame
 refine tkL 1 (.slice oSG sg.length pSG) 22 rfl rfl (Or.inl ⟨by rfl, by intro W hW; obtain ⟨hhv4, hhv2⟩ := hW; have y1 := (cell_of hhv4 1).trans rfl; go_simp⟩) hS12 ?_
 go_frame
 refine tkP 2 (.pointer (some ⟨q2, 3, none⟩)) 23 rfl rfl hS12 (tkP 3 (.pointer (some ⟨q2, 4, none⟩)) 24 rfl rfl hS12 ?_)
 go_frame
 refine tkL 4 (.slice o3 k c3) 25 rfl rfl (Or.inl ⟨by rfl, by intro W hW; obtain ⟨hhv4, hhv2⟩ := hW; have y4 := (cell_of hhv2 4).trans rfl; go_simp⟩) hS12 ?_
 go_frame
 refine tkP 5 (.pointer (some ⟨q2, 6, none⟩)) 26 rfl rfl hS12 ?_
 go_frame
 refine tkL 6 (.int .i64 t) 27 rfl rfl (Or.inl ⟨by rfl, by intro W hW; obtain ⟨hhv4, hhv2⟩ := hW; have y6 := (cell_of hhv2 6).trans rfl; go_simp⟩) hS12 ?_
 go_frame
 refine tkP 7 (.int .i64 now) 28 rfl rfl hS12 ?_
 go_frame
 refine rd1 8 rfl (fun K hK => ?_)
 go_simp
 refine (specAgeAt_any _ k baseo gs t now _ (HVo.out _ hb12) (by omega) (by have := HGo.out ageName; unfold maxLen; omega) HTN.out.1 HTN.out.2).mono ?_
 rintro e w13 ⟨rfl, bw⟩
 rw [HAG.out]
 have hb13 := hbt hb12 bw
 have HM13 := hsz bw
 have HOCG_13 := hown HOCG_12 bw
 have HOSG_13 := hown HOSG_12 bw
 have B1_13 := hblk B1_12 bw
 have B2_13 := hblk B2_12 bw
 have B3_13 := hblk B3_12 bw
 have B4_13 := hblk B4_12 bw
 have B5_13 := hblk B5_12 bw
 clear hb12 bw
 have hS13 := And.intro B4_13.out B2_13.out
 refine hK.out _ _ hS13 (fun _ => ?_)
 clear hK K hS12
 refine rd1 9 rfl (fun K hK => ?_)
 go_simp
 refine (specNumText_int ag _ hab0 hab1).mono ?_
 rintro e w14 ⟨rfl, bw⟩
 rw [HTX.out]
 have hb14 := hbt hb13 bw
 have HM14 := hsz bw
 have HOCG_14 := hown HOCG_13 bw
 have HOSG_14 := hown HOSG_13 bw
 have B1_14 := hblk B1_13 bw
 have B2_14 := hblk B2_13 bw
 have B3_14 := hblk B3_13 bw
 have B4_14 := hblk B4_13 bw
 have B5_14 := hblk B5_13 bw
 clear hb13 bw
 have hS14 := And.intro B4_14.out B2_14.out
 refine hK.out _ _ hS14 (fun _ => ?_)
 clear hK K hS13
 refine rd1 10 rfl (fun K hK => ?_)
 go_simp
 refine (specPut_any _ sg.length _ sg ageName tx _ (FieldsV.of_owns HOSG_14.out) (by omega)).mono ?_
 rintro e w15 ⟨vv, rfl, ownPG, bw⟩
 obtain ⟨pg, hpg⟩ := exq (putF sg ageName tx)
 have HPG : Hid (putF sg ageName tx = pg) := hpg.symm
 rw [← hpg] at ownPG
 have HPL : Hid (pg.length ≤ sg.length + 1) := by show _ ≤ _; rw [hpg]; have := putF_le sg ageName tx; exact this
 have bpl : pg.length ≤ 1048577 := by have := HPL.out; omega
 have HPW : Hid (WalkF pg.length pg) := by show WalkF _ _; rw [hpg]; exact walk_put rfl HSW.out (by decide) (by have := HTZ.out; unfold maxLen; omega)
 clear hpg
 obtain ⟨oPG, pPG, rfl⟩ := slice_of_owns ownPG
 have hb15 := hbt hb14 bw
 have HM15 := hsz bw
 have HOCG_15 := hown HOCG_14 bw
 have HOSG_15 := hown HOSG_14 bw
 have B1_15 := hblk B1_14 bw
 have B2_15 := hblk B2_14 bw
 have B3_15 := hblk B3_14 bw
 have B4_15 := hblk B4_14 bw
 have B5_15 := hblk B5_14 bw
 have HOPG_15 := hwd ownPG hb14.size
 have LOPG := hlo ownPG
 have HIPG := hhi ownPG
 clear ownPG
 clear hb14 bw
 have hS15 := And.intro B4_15.out B2_15.out
 refine hK.out _ _ hS15 (fun _ => ?_)
 clear hK K hS14
 refine tkP 11 (.pointer (some ⟨q5, 1, none⟩)) 32 rfl rfl hS15 ?_
 go_frame
 refine rd1 12 rfl (fun K hK => ?_)
 have ce1 := (k3c B5_15).2.1
 have fe1 := hfz B5_15 1
 obtain ⟨w16, hY⟩ := exq ((w15.setCell ⟨q5, 1, none⟩ (.slice oPG pg.length pPG)))
 have HY := hsy hY
 have hb16 : Below w.heap.size w (w16) := by rw [hY]; exact (hb15.setCell (p := ⟨q5, 1, none⟩) Gv5.out _)
 have HM16 : Hid (w15.heap.size ≤ w16.heap.size) := by show _ ≤ _; rw [hY]; simp
 have HOCG_16 : Hid (w16.ownsRow w.heap.size 185 2 (.slice oCG k pCG) k (flatF gs)) := by show World.ownsRow _ _ _ _ _ _ _; rw [hY]; exact owns_same HOCG_15.out (fun g hg => by have hne := own_ne HOCG_15.out B5_15.out (by decide) g hg; rw [heap_setCell_other _ _ g _ hne])
 have HOSG_16 : Hid (w16.ownsRow w.heap.size 185 2 (.slice oSG sg.length pSG) sg.length (flatF sg)) := by show World.ownsRow _ _ _ _ _ _ _; rw [hY]; exact owns_same HOSG_15.out (fun g hg => by have hne := own_ne HOSG_15.out B5_15.out (by decide) g hg; rw [heap_setCell_other _ _ g _ hne])
 have HOPG_16 : Hid (w16.ownsRow w.heap.size 185 2 (.slice oPG pg.length pPG) pg.length (flatF pg)) := by show World.ownsRow _ _ _ _ _ _ _; rw [hY]; exact owns_same HOPG_15.out (fun g hg => by have hne := own_ne HOPG_15.out B5_15.out (by decide) g hg; rw [heap_setCell_other _ _ g _ hne])
 have B1_16 : Hid (w16.heap[q1]? = some (.cells #[.int .i64 ma, .string pa, .slice oa na ca, .string ba] 58)) := by show _ = _; rw [hY, heap_setCell_other _ _ _ _ Nv1v5.out]; exact B1_15.out
 have B2_16 : Hid (w16.heap[q2]? = some (.cells #[.string op, .slice o1 n1 c1, .slice o2 n2 c2, .int .i64 st, .slice o3 k c3, .string d, .int .i64 t] 62)) := by show _ = _; rw [hY, heap_setCell_other _ _ _ _ Nv2v5.out]; exact B2_15.out
 have B3_16 : Hid (w16.heap[q3]? = some (.cells #[.int .i64 0, .slice none 0 0, .string ⟨#[]⟩] 60)) := by show _ = _; rw [hY, heap_setCell_other _ _ _ _ Nv3v5.out]; exact B3_15.out
 have B4_16 : Hid (w16.heap[q4]? = some (.cells #[.int .i64 304, .slice oSG sg.length pSG, .string ⟨#[]⟩] 60)) := by show _ = _; rw [hY, heap_setCell_other _ _ _ _ Nv4v5.out]; exact B4_15.out
 have B5_16 : Hid (w16.heap[q5]? = some (.cells #[.int .i64 304, .slice oPG pg.length pPG, .string ⟨#[]⟩] 60)) := by show _ = _; rw [hY]; have h := (heap_set _ q5 1 _ _ _ (.slice oPG pg.length pPG) B5_15.out); simpa using h
 clear hY hb15
 go_simp
 rw [HY.out]
 have hS16 := And.intro B4_16.out B2_16.out
 refine hK.out _ _ hS16 (fun _ => ?_)
 clear hK K HY hS15 ce1 fe1
 clear hS16
 refine wdn ?_
 have c5_0 := (k3c B5_16).1
 have c5_1 := (k3c B5_16).2.1
 have c5_2 := (k3c B5_16).2.2
 go_wp2_with fail
 refine (specRespOk_any 304 _ ⟨#[]⟩ pg.length _ pg _ (FieldsV.of_owns HOPG_16.out) (by omega) HPW.out (by decide)).mono ?_
 rintro e w17 ⟨ro, rfl, hro, bw⟩
 have hb17 := hbt hb16 bw
 have HOCG_17 := hown HOCG_16 bw
 have HOSG_17 := hown HOSG_16 bw
 have HOPG_17 := hown HOPG_16 bw
 have B1_17 := hblk B1_16 bw
 have B2_17 := hblk B2_16 bw
 have B3_17 := hblk B3_16 bw
 have B4_17 := hblk B4_16 bw
 have B5_17 := hblk B5_16 bw
 clear hb16 bw
 clear c5_0 c5_1 c5_2
 cases ro
 rotate_left
 ·have HYro : Hid (RespP 304 pg ⟨#[]⟩) := hro.1 rfl
  clear hro
  have c3_0 := (k3c B3_17).1
  have f3_0 := hfz B3_17 0
  have c3_1 := (k3c B3_17).2.1
  have f3_1 := hfz B3_17 1
  have c3_2 := (k3c B3_17).2.2
  have f3_2 := hfz B3_17 2
  have c5_0 := (k3c B5_17).1
  have c5_1 := (k3c B5_17).2.1
  have c5_2 := (k3c B5_17).2.2
  go_wp2_with fail
  obtain ⟨w18, hW18⟩ := exq (w17.setCell ⟨q3, 0, none⟩ (.int .i64 304))
  rw [← hW18]
  have hb18 := hbS hW18 hb17 Gv3
  have HM18 : Hid (w17.heap.size ≤ w18.heap.size) := by show _ ≤ _; rw [hW18]; simp
  have HOCG_18 := hsetR hW18 (own_ne HOCG_17.out B3_17.out (by decide)) HOCG_17
  have HOSG_18 := hsetR hW18 (own_ne HOSG_17.out B3_17.out (by decide)) HOSG_17
  have HOPG_18 := hsetR hW18 (own_ne HOPG_17.out B3_17.out (by decide)) HOPG_17
  have B1_18 := hset hW18 Nv1v3.out B1_17
  have B2_18 := hset hW18 Nv2v3.out B2_17
  have B4_18 := hset hW18 Nv3v4.out.symm B4_17
  have B5_18 := hset hW18 Nv3v5.out.symm B5_17
  have B3_18 := hput hW18 B3_17
  clear hb17 hW18
  obtain ⟨w19, hW19⟩ := exq (w18.setCell ⟨q3, 1, none⟩ (.slice oPG pg.length pPG))
  rw [← hW19]
  have hb19 := hbS hW19 hb18 Gv3
  have HM19 : Hid (w18.heap.size ≤ w19.heap.size) := by show _ ≤ _; rw [hW19]; simp
  have HOCG_19 := hsetR hW19 (own_ne HOCG_18.out B3_18.out (by decide)) HOCG_18
  have HOSG_19 := hsetR hW19 (own_ne HOSG_18.out B3_18.out (by decide)) HOSG_18
  have HOPG_19 := hsetR hW19 (own_ne HOPG_18.out B3_18.out (by decide)) HOPG_18
  have B1_19 := hset hW19 Nv1v3.out B1_18
  have B2_19 := hset hW19 Nv2v3.out B2_18
  have B4_19 := hset hW19 Nv3v4.out.symm B4_18
  have B5_19 := hset hW19 Nv3v5.out.symm B5_18
  have B3_19 := hput hW19 B3_18
  clear hb18 hW19
  obtain ⟨w20, hW20⟩ := exq (w19.setCell ⟨q3, 2, none⟩ (.string ⟨#[]⟩))
  rw [← hW20]
  have hb20 := hbS hW20 hb19 Gv3
  have HM20 : Hid (w19.heap.size ≤ w20.heap.size) := by show _ ≤ _; rw [hW20]; simp
  have HOCG_20 := hsetR hW20 (own_ne HOCG_19.out B3_19.out (by decide)) HOCG_19
  have HOSG_20 := hsetR hW20 (own_ne HOSG_19.out B3_19.out (by decide)) HOSG_19
  have HOPG_20 := hsetR hW20 (own_ne HOPG_19.out B3_19.out (by decide)) HOPG_19
  have B1_20 := hset hW20 Nv1v3.out B1_19
  have B2_20 := hset hW20 Nv2v3.out B2_19
  have B4_20 := hset hW20 Nv3v4.out.symm B4_19
  have B5_20 := hset hW20 Nv3v5.out.symm B5_19
  have B3_20 := hput hW20 B3_19
  clear hb19 hW20
  have kv3_0 := (k3c B3_20).1
  have kv3_1 := (k3c B3_20).2.1
  have kv3_2 := (k3c B3_20).2.2
  refine bodyPost_ret (v := .agg #[.int .i64 304, .slice oPG pg.length pPG, .string ⟨#[]⟩]) (by simp [results, Tryz.results40, go_sem, kv3_0, kv3_1, kv3_2]) rfl ?_
  unfold ansF
  rw [ansS_yes HYsm.out, ansB_yes HYsm.out, ansG_yes HYsm.out, HAT.out, HSG.out]
  rw [merge_put (by rw [HPG.out]; exact HYro.out), HPG.out]
  exact ⟨_, rfl, HOPG_20.out, hb20⟩
 have HNro : Hid (¬ (RespP 304 pg ⟨#[]⟩)) := fun h => nomatch hro.2 h
 clear hro
 have c3_0 := (k3c B3_17).1
 have f3_0 := hfz B3_17 0
 have c3_1 := (k3c B3_17).2.1
 have f3_1 := hfz B3_17 1
 have c3_2 := (k3c B3_17).2.2
 have f3_2 := hfz B3_17 2
 have c4_0 := (k3c B4_17).1
 have c4_1 := (k3c B4_17).2.1
 have c4_2 := (k3c B4_17).2.2
 go_wp2_with fail
 obtain ⟨w18, hW18⟩ := exq (w17.setCell ⟨q3, 0, none⟩ (.int .i64 304))
 rw [← hW18]
 have hb18 := hbS hW18 hb17 Gv3
 have HM18 : Hid (w17.heap.size ≤ w18.heap.size) := by show _ ≤ _; rw [hW18]; simp
 have HOCG_18 := hsetR hW18 (own_ne HOCG_17.out B3_17.out (by decide)) HOCG_17
 have HOSG_18 := hsetR hW18 (own_ne HOSG_17.out B3_17.out (by decide)) HOSG_17
 have HOPG_18 := hsetR hW18 (own_ne HOPG_17.out B3_17.out (by decide)) HOPG_17
 have B1_18 := hset hW18 Nv1v3.out B1_17
 have B2_18 := hset hW18 Nv2v3.out B2_17
 have B4_18 := hset hW18 Nv3v4.out.symm B4_17
 have B5_18 := hset hW18 Nv3v5.out.symm B5_17
 have B3_18 := hput hW18 B3_17
 clear hb17 hW18
 obtain ⟨w19, hW19⟩ := exq (w18.setCell ⟨q3, 1, none⟩ (.slice oSG sg.length pSG))
 rw [← hW19]
 have hb19 := hbS hW19 hb18 Gv3
 have HM19 : Hid (w18.heap.size ≤ w19.heap.size) := by show _ ≤ _; rw [hW19]; simp
 have HOCG_19 := hsetR hW19 (own_ne HOCG_18.out B3_18.out (by decide)) HOCG_18
 have HOSG_19 := hsetR hW19 (own_ne HOSG_18.out B3_18.out (by decide)) HOSG_18
 have HOPG_19 := hsetR hW19 (own_ne HOPG_18.out B3_18.out (by decide)) HOPG_18
 have B1_19 := hset hW19 Nv1v3.out B1_18
 have B2_19 := hset hW19 Nv2v3.out B2_18
 have B4_19 := hset hW19 Nv3v4.out.symm B4_18
 have B5_19 := hset hW19 Nv3v5.out.symm B5_18
 have B3_19 := hput hW19 B3_18
 clear hb18 hW19
 obtain ⟨w20, hW20⟩ := exq (w19.setCell ⟨q3, 2, none⟩ (.string ⟨#[]⟩))
 rw [← hW20]
 have hb20 := hbS hW20 hb19 Gv3
 have HM20 : Hid (w19.heap.size ≤ w20.heap.size) := by show _ ≤ _; rw [hW20]; simp
 have HOCG_20 := hsetR hW20 (own_ne HOCG_19.out B3_19.out (by decide)) HOCG_19
 have HOSG_20 := hsetR hW20 (own_ne HOSG_19.out B3_19.out (by decide)) HOSG_19
 have HOPG_20 := hsetR hW20 (own_ne HOPG_19.out B3_19.out (by decide)) HOPG_19
 have B1_20 := hset hW20 Nv1v3.out B1_19
 have B2_20 := hset hW20 Nv2v3.out B2_19
 have B4_20 := hset hW20 Nv3v4.out.symm B4_19
 have B5_20 := hset hW20 Nv3v5.out.symm B5_19
 have B3_20 := hput hW20 B3_19
 clear hb19 hW20
 have kv3_0 := (k3c B3_20).1
 have kv3_1 := (k3c B3_20).2.1
 have kv3_2 := (k3c B3_20).2.2
 refine bodyPost_ret (v := .agg #[.int .i64 304, .slice oSG sg.length pSG, .string ⟨#[]⟩]) (by simp [results, Tryz.results40, go_sem, kv3_0, kv3_1, kv3_2]) rfl ?_
 unfold ansF
 rw [ansS_yes HYsm.out, ansB_yes HYsm.out, ansG_yes HYsm.out, HAT.out, HSG.out]
 rw [merge_not (by rw [HPG.out]; exact HNro.out)]
 exact ⟨_, rfl, HOSG_20.out, hb20⟩
theorem implSame_any (m : Int) (p : Tx) (v : Value) (b : Tx) (n base : Nat) (fs : Fs) (u : Value) (k base2 : Nat) (gs : Fs) (w : World) (hv : FieldsV w base v n fs) (hn : n ≤ 1073741824) (hu : FieldsV w base2 u k gs) (hk : k ≤ 1073741824) (hcp : CopyF fs) (hcg : CopyF gs) :
  Calls Tryz.prog 138 #[.agg #[.int .i64 m, .string p, v, .string b], u] w fun e w' => BoolIs (SameP fs gs) w e w' := by
 obtain ⟨oa, cap, rfl, _⟩ := hv.slice
 obtain ⟨W0, hW0⟩ := exq (w.alloc (.cells #[.int .i64 m, .string p, .slice oa n cap, .string b] 58))
 have HW0 := hsy hW0
 have b0 : Below w.heap.size w W0 := by rw [hW0]; exact (Below.refl _ w).alloc (Nat.le_refl _) _
 have hv0 := hv.below b0
 have HU : Hid (∀ W, Below w.heap.size w W → FieldsV W base2 u k gs) := fun W h => hu.below h
 obtain ⟨⟨_, _, c2, _⟩, _⟩ := four_facts (show W0.heap[w.heap.size]? = some (.cells #[.int .i64 m, .string p, .slice oa n cap, .string b] 58) by rw [hW0]; exact heap_alloc_new w _)
 have HB : Hid (Below w.heap.size w W0) := b0
 have HCF := hid hcp
 have HCG := hid hcg
 obtain ⟨s, hs⟩ := exq (getV fs inmName)
 obtain ⟨t, ht⟩ := exq (getV gs tagName)
 obtain ⟨f1, hf1⟩ := exq (getB fs inmName)
 obtain ⟨f2, hf2⟩ := exq (getB gs tagName)
 have HQ : Hid (SameP fs gs ↔ f1 = true ∧ f2 = true ∧ s = t) := by show _ ↔ _; rw [hs, ht, hf1, hf2]; rfl
 have HE1 : Hid (getV fs inmName = s) := hs.symm
 have HE2 : Hid (getV gs tagName = t) := ht.symm
 have HE3 : Hid (getB fs inmName = f1) := hf1.symm
 have HE4 : Hid (getB gs tagName = f2) := hf2.symm
 obtain ⟨r, hr⟩ := exq (w.heap.size)
 have HR : Hid (w.heap.size = r) := hr.symm
 rw [← hr] at c2
 clear hW0 b0 hv hu hs ht hf1 hf2 hcp hcg
 go_enter Tryz.func138, Tryz.ntmps138
 go_upto_region 1 with fail
 rw [HW0.out, ← hr]
 clear hr HW0
 go_wp2_with fail
 refine (implGet_any _ n base fs inmName _ hv0 hn HCF.out).mono ?_
 rintro e w1 ⟨rfl, b1⟩
 rw [HE1.out, HE3.out]
 have HB1 : Hid (Below w.heap.size w w1) := HB.out.trans (b1.mono HB.out.size)
 clear hv0 c2 b1 HB
 go_wp2_with fail
 refine (implGet_any u k base2 gs tagName _ (HU.out _ HB1.out) hk HCG.out).mono ?_
 rintro e w2 ⟨rfl, b2⟩
 rw [HE2.out, HE4.out]
 have HB2 : Hid (Below w.heap.size w w2) := HB1.out.trans (b2.mono HB1.out.size)
 clear b2 HB1 HU HE1 HE2 HE3 HE4
 cases f1
 ·have HF : Hid (¬ SameP fs gs) := fun h => nomatch (HQ.out.1 h).1
  go_wp2_with fail
  go_ret
  exact BoolIs.no HF.out HB2.out
 cases f2
 ·have HF : Hid (¬ SameP fs gs) := fun h => nomatch (HQ.out.1 h).2.1
  go_wp2_with fail
  go_ret
  exact BoolIs.no HF.out HB2.out
 have HT : Hid ((s.toList == t.toList) = true ↔ SameP fs gs) := by show _ ↔ _; rw [HQ.out, text_beq]; simp
 go_wp2_with fail
 go_ret
 exact ⟨_, rfl, HT.out, HB2.out⟩
open Classical in
theorem short_named (gs : Fs) : namedF [tagName, varyName, ccName] gs = shortF gs := by
 unfold namedF shortF
 congr 1
 funext f
 simp
theorem implShort_any (st : Int) (v : Value) (b : ByteArray) (n base : Nat) (gs : List (ByteArray × ByteArray)) (w : World) (hv : FieldsV w base v n gs) (hn : n ≤ 1999999) (hcp : CopyF gs) :
    Calls Tryz.prog 139 #[.agg #[.int .i64 st, v, .string b]] w fun e w' => RespRow 304 (shortF gs) ⟨#[]⟩ w e w' := by
  obtain ⟨oa, cap, rfl, _⟩ := hv.slice
  obtain ⟨r, hr⟩ : ∃ r, r = w.heap.size := ⟨_, rfl⟩
  have HR : Hid (w.heap.size = r) := hr.symm
  obtain ⟨W1, hW1⟩ : ∃ W, W = (w.alloc (.cells #[.int .i64 st, .slice oa n cap, .string b] 60)).alloc (.cells #[.int .i64 0, .slice none 0 0, .string ⟨#[]⟩] 60) := ⟨_, rfl⟩
  have HW1 : Hid ((w.alloc (.cells #[.int .i64 st, .slice oa n cap, .string b] 60)).alloc (.cells #[.int .i64 0, .slice none 0 0, .string ⟨#[]⟩] 60) = W1) := hW1.symm
  have b1 : Below r w W1 := by rw [hW1, hr]; exact ((Below.refl _ w).alloc (Nat.le_refl _) _).alloc (by simp) _
  have s1 : (w.alloc (.cells #[.int .i64 st, .slice oa n cap, .string b] 60)).heap.size = r + 1 := by rw [hr]; simp
  have s2 : W1.heap.size = r + 1 + 1 := by rw [hW1, hr]; simp
  have H0 : Hid (W1.heap[r]? = some (.cells #[.int .i64 st, .slice oa n cap, .string b] 60) ∧ W1.heap[r + 1]? = some (.cells #[.int .i64 0, .slice none 0 0, .string ⟨#[]⟩] 60) ∧ Below r w W1) := by
    have e0 := heap_alloc_new w (.cells #[.int .i64 st, .slice oa n cap, .string b] 60)
    have e1 := heap_alloc_new (w.alloc (.cells #[.int .i64 st, .slice oa n cap, .string b] 60)) (.cells #[.int .i64 0, .slice none 0 0, .string ⟨#[]⟩] 60)
    rw [← hr] at e0
    rw [s1, ← hW1] at e1
    have c1 : Below (r + 1) (w.alloc (.cells #[.int .i64 st, .slice oa n cap, .string b] 60)) W1 := by rw [hW1, ← s1]; exact (Below.refl _ _).alloc (Nat.le_refl _) _
    exact ⟨by rw [c1.block r (by omega)]; exact e0, e1, b1⟩
  obtain ⟨⟨_, c1, _⟩, _⟩ := three_facts H0.out.1
  obtain ⟨W2, hW2⟩ : ∃ W, W = W1.alloc (.cells #[.string tagName, .string varyName, .string ccName] 9) := ⟨_, rfl⟩
  have HW2 : Hid (W1.alloc (.cells #[.string ⟨#[101, 116, 97, 103]⟩, .string ⟨#[118, 97, 114, 121]⟩, .string ⟨#[99, 97, 99, 104, 101, 45, 99, 111, 110, 116, 114, 111, 108]⟩] 9) = W2) := hW2.symm
  have HX2 : Hid (TextsA W2 (some ⟨r + 1 + 1, 0, none⟩) 3 [tagName, varyName, ccName]) := by
    refine ⟨rfl, fun i hi => ⟨r + 1 + 1, rfl, by rw [hW2]; simp; omega, ?_⟩⟩
    have h := heap_alloc_new W1 (.cells #[.string tagName, .string varyName, .string ccName] 9)
    rw [← hW2, s2] at h
    rcases (by omega : i = 0 ∨ i = 1 ∨ i = 2) with rfl | rfl | rfl <;> simp [World.cell?, h, textAt]
  have HB2 : Hid (Below (r + 1 + 1) W1 W2) := by show Below _ _ _; rw [hW2]; exact (Below.refl _ _).alloc (by omega) _
  have HL2 : Hid (r + 1 + 1 + 1 = W2.heap.size) := by show _ = _; rw [hW2]; simp; omega
  have HV2 : Hid (FieldsV W2 base (.slice oa n cap) n gs) := hv.below (by show Below _ _ _; rw [← hr]; exact b1.trans (HB2.out.mono (by omega)))
  have HS2 : Hid (W1.heap.size = r + 1 + 1) := s2
  have HCP : Hid (CopyF gs) := hcp
  clear hW1 hW2 hv b1 s1 s2 hcp
  go_enter Tryz.func139, Tryz.ntmps139
  go_upto_region 1 with fail
  rw [HW1.out, ← hr]
  clear hr HW1
  go_wp2_with fail
  rw [HW2.out, HS2.out]
  refine (onlyNamed_any _ n base gs _ 3 3 [tagName, varyName, ccName] _ HV2.out hn HCP.out HX2.out (by omega)).mono ?_
  rintro e w3 ⟨z, rfl, own, b3⟩
  rw [short_named] at own
  obtain ⟨oz, cz, rfl⟩ := slice_of_owns own
  have hl2 := HL2.out
  have b3 : Below _ _ _ := b3
  rw [← hl2] at own b3
  have H3 : Hid (w3.heap[r + 1]? = some (.cells #[.int .i64 0, .slice none 0 0, .string ⟨#[]⟩] 60) ∧ Below r w w3) := by
    have b4 := HB2.out.trans (b3.mono (by omega))
    exact ⟨by rw [b4.block (r + 1) (by omega)]; exact H0.out.2.1, H0.out.2.2.trans (b4.mono (by omega))⟩
  obtain ⟨⟨g0, g1, g2⟩, x0, x1, x2⟩ := three_facts H3.out.1
  obtain ⟨nz, hnz⟩ : ∃ x, x = (shortF gs).length := ⟨_, rfl⟩
  rw [← hnz] at own ⊢
  have HNZ : Hid ((shortF gs).length = nz) := hnz.symm
  have hset := three_set H3.out.1 (.int .i64 304) (.slice oz nz cz) (.string ⟨#[]⟩)
  obtain ⟨⟨k0, k1, k2⟩, _⟩ := three_facts hset
  have HFB : Hid (Below r w (threeSet w3 (r + 1) (.int .i64 304) (.slice oz nz cz) (.string ⟨#[]⟩))) := below_three H3.out.2 (by omega)
  have HFO : Hid ((threeSet w3 (r + 1) (.int .i64 304) (.slice oz nz cz) (.string ⟨#[]⟩)).ownsRow r 185 2 (.slice oz nz cz) nz (flatF (shortF gs))) := by
    refine owns_same (owns_wide own (by omega)) (fun j hj => ?_)
    have hj2 := owns_ge own hj
    rw [three_other _ _ j _ _ _ (by omega)]
  unfold threeSet at k0 k1 k2 HFB HFO
  clear hset H0 H3 own b3 hl2 hnz c1 HV2 HX2 HB2 HL2 HS2
  go_wp2_with fail
  refine bodyPost_ret (v := .agg #[.int .i64 304, .slice oz nz cz, .string ⟨#[]⟩]) (by simp [results, Tryz.results139, go_sem, k0, k1, k2]) rfl ?_
  exact ⟨_, rfl, by rw [HR.out, HNZ.out]; exact HFO.out, by show Below _ _ _; rw [HR.out]; exact HFB.out⟩
end Go.Proofs.YtpacdigfnneoeaaGreatDoor
