/- What the proof of FnExactJudgeHere leans on: contracts of the program's and the specification's functions, and plain facts (part 4 of 11). -/
import Derived.Test.YtpacdigfnneoeaaGreatDoorFnExactJudgeHereC
set_option maxHeartbeats 16000000
set_option maxRecDepth 100000
namespace Go.Proofs.YtpacdigfnneoeaaGreatDoor
open Go.RowKit
open Go.Lib hiding intOf
theorem RowsO.other {W : World} {base q o : Nat} {rs : List Rw} {cs : Array Value} {T : TypeId} {fr : Nat × Nat} {u : Value} (h : RowsO W base rs) (hq : W.heap[q]? = some (.cells cs T fr)) (hT : ∀ r ∈ rs, T ≠ r.T) : RowsO (W.setCell ⟨q, o, none⟩ u) base rs :=
 h.same (fun r hr g hg => heap_setCell_other _ _ g _ (fun e => own_noR (h.own r hr) (hT r hr) hq (by have e' : g = q := e; rw [← e']; exact hg)))
theorem erS {W W' : World} {base q i : Nat} {v : Value} {rs : List Rw} {cs : Array Value} {T : TypeId} {fr : Nat × Nat} (hW : W' = W.setCell ⟨q, i, none⟩ v) (h : Hid (RowsO W base rs)) (hb : Hid (W.heap[q]? = some (.cells cs T fr))) (hT : ∀ r ∈ rs, T ≠ r.T) : Hid (RowsO W' base rs) := by show RowsO _ _ _; rw [hW]; exact RowsO.other h.out hb.out hT
theorem kpAll_T {V : Value} {kv : Ks} {r : Rw} (h : r ∈ kpAll V kv) : r.T = 145 ∨ r.T = 9 ∨ r.T = 185 := by
 rcases List.mem_cons.1 h with h | h
 · exact .inl (by rw [h]; rfl)
 ·obtain ⟨x, _, hx⟩ := List.mem_flatMap.1 h
  simp only [kpR, List.mem_cons, List.not_mem_nil, or_false] at hx
  rcases hx with rfl | rfl | rfl
  · exact .inr (.inl rfl)
  · exact .inr (.inl rfl)
  · exact .inr (.inr rfl)
theorem disk_rows {W : World} {base : Nat} {v1 v2 : Value} {n1 n2 : Nat} {cs : Ts} {ws : List (Int × ByteArray)} (h : DiskO W base v1 n1 cs v2 n2 ws) : RowsO W base [(⟨9, 1, v1, n1, cs.map Value.string⟩ : Rw), (⟨183, 2, v2, n2, flatWrite ws⟩ : Rw)] := by
 refine ⟨fun r hr => ?_, List.pairwise_cons.2 ⟨fun r hr => ?_, List.pairwise_singleton _ _⟩⟩
 ·simp only [List.mem_cons, List.not_mem_nil, or_false] at hr
  rcases hr with rfl | rfl
  · exact h.cells
  · exact h.pend
 ·rw [List.mem_singleton.1 hr]
  exact fun g hg => own_two h.cells h.pend (by decide) hg
def shAll (v1 v2 V VB : Value) (kv : Ks) (cs : Ts) (ws : List (Int × ByteArray)) (bl : Bs) : List Rw := ([(⟨9, 1, v1, cs.length, cs.map Value.string⟩ : Rw), (⟨183, 2, v2, ws.length, flatWrite ws⟩ : Rw)] ++ kpAll V kv) ++ [(⟨143, 4, VB, bl.length, flatBan bl⟩ : Rw)]
def ShelfO (w : World) (base : Nat) (v1 v2 V VB : Value) (kv : Ks) (s : ShD) : Prop := RowsO w base (shAll v1 v2 V VB kv s.cs s.ws s.bl) ∧ kv.map (·.1) = s.ks
theorem ShelfO.disk {w : World} {base : Nat} {v1 v2 V VB : Value} {kv : Ks} {s : ShD} (h : ShelfO w base v1 v2 V VB kv s) : DiskO w base v1 s.cs.length s.cs v2 s.ws.length s.ws := ⟨h.1.own (⟨9, 1, v1, s.cs.length, s.cs.map Value.string⟩ : Rw) (by simp [shAll]), h.1.own (⟨183, 2, v2, s.ws.length, flatWrite s.ws⟩ : Rw) (by simp [shAll])⟩
theorem ShelfO.kept {w : World} {base : Nat} {v1 v2 V VB : Value} {kv : Ks} {s : ShD} (h : ShelfO w base v1 v2 V VB kv s) : KeptsO w base V kv := RowsO.sub h.1 ((List.sublist_append_right _ _).trans (List.sublist_append_left _ _))
theorem ShelfO.bans {w : World} {base : Nat} {v1 v2 V VB : Value} {kv : Ks} {s : ShD} (h : ShelfO w base v1 v2 V VB kv s) : w.ownsRow base 143 4 VB s.bl.length (flatBan s.bl) := h.1.own (⟨143, 4, VB, s.bl.length, flatBan s.bl⟩ : Rw) (by simp [shAll])
theorem ShelfO.below {w w' : World} {base : Nat} {v1 v2 V VB : Value} {kv : Ks} {s : ShD} (h : ShelfO w base v1 v2 V VB kv s) (hb : Below w.heap.size w w') : ShelfO w' base v1 v2 V VB kv s := ⟨h.1.below hb, h.2⟩
def ShelfIs (s : ShD) (w : World) (e : Ending) (w' : World) : Prop := ∃ (v1 v2 V VB : Value) (kv : Ks), e = .returned (.agg #[v1, v2, V, VB, .int .i64 s.nx, .int .i64 s.sq]) ∧ ShelfO w' w.heap.size v1 v2 V VB kv s ∧ Below w.heap.size w w'
theorem toShelf_any (a1 : Oa) (n1 c1 : Nat) (cs : Ts) (a2 : Oa) (n2 c2 : Nat) (ws : List (Int × ByteArray)) (a3 : Oa) (n3 c3 : Nat) (ks : List KpD) (a4 : Oa) (n4 c4 : Nat) (bl : Bs) (nx sq : Int) (B : Nat) (w : World) (h1 : ArgT w B a1 n1 cs) (h2 : ArgWrite w B a2 n2 ws) (h3 : ArgKept w B a3 n3 ks) (h4 : ArgBan w B a4 n4 bl) (hB : B ≤ w.heap.size) (hn1 : n1 ≤ 1048576) (hn2 : n2 ≤ 1048576) (hn3 : n3 ≤ 1048576) (hn4 : n4 ≤ 1048576) (hsm : ∀ k ∈ ks, k.xs.length ≤ 1048576 ∧ k.ys.length ≤ 1048576 ∧ k.fs.length ≤ 1048576) :
  Calls Tryz.prog 15 #[.agg #[.slice a1 n1 c1, .slice a2 n2 c2, .slice a3 n3 c3, .slice a4 n4 c4, .int .i64 nx, .int .i64 sq]] w fun e w' => ShelfIs ⟨cs, ws, ks, bl, nx, sq⟩ w e w' := by
 have HA1 : Hid (∀ W, Below w.heap.size w W → ArgT W B a1 n1 cs) := fun W h => h1.below (h.mono hB)
 have HA2 : Hid (∀ W, Below w.heap.size w W → ArgWrite W B a2 n2 ws) := fun W h => h2.below (h.mono hB)
 have HA3 : Hid (∀ W, Below w.heap.size w W → ArgKept W B a3 n3 ks) := fun W h => h3.below (h.mono hB)
 have HA4 : Hid (∀ W, Below w.heap.size w W → ArgBan W B a4 n4 bl) := fun W h => h4.below (h.mono hB)
 have HBB : Hid (∀ W, Below w.heap.size w W → B ≤ W.heap.size) := fun W h => Nat.le_trans hB h.size
 have HN : Hid (n1 ≤ 1048576 ∧ n2 ≤ 1048576 ∧ n3 ≤ 1048576 ∧ n4 ≤ 1048576) := ⟨hn1, hn2, hn3, hn4⟩
 have HSM := hid hsm
 have HL : Hid (cs.length = n1 ∧ ws.length = n2 ∧ ks.length = n3 ∧ bl.length = n4) := ⟨h1.len, h2.1, h3.1, h4.1⟩
 clear h1 h2 h3 h4 hn1 hn2 hn3 hn4 hsm hB
 have hb0 := Below.refl w.heap.size w
 go_enter Tryz.func15, Tryz.ntmps15
 go_upto_region 1 with fail
 obtain ⟨q1, hq1⟩ := exq (w.heap.size)
 obtain ⟨w1, hW1⟩ := exq (w.alloc (.cells #[.slice a1 n1 c1, .slice a2 n2 c2, .slice a3 n3 c3, .slice a4 n4 c4, .int .i64 nx, .int .i64 sq] 29))
 have hz1 := hq1.symm
 rw [← hW1]; try rw [← hq1]
 have hs1 := hsa hW1 hz1
 have bw := bal hW1
 have hb1 := hbt hb0 bw
 have B1_1 := hnew hW1 hz1
 clear hb0 bw hW1 hz1
 obtain ⟨q2, hq2⟩ := exq (q1 + 1)
 obtain ⟨w2, hW2⟩ := exq (w1.alloc (.cells #[.slice none 0 0, .slice none 0 0, .slice none 0 0, .slice none 0 0, .int .i64 0, .int .i64 0] 43))
 have hz2 : w1.heap.size = q2 := by rw [hq2]; exact hs1
 rw [← hW2]; try rw [← hq2]
 have hs2 := hsa hW2 hz2
 have bw := bal hW2
 have hb2 := hbt hb1 bw
 have B1_2 := hblk B1_1 bw
 have Nv1v2 := hnq B1_1 hz2
 have B2_2 := hnew hW2 hz2
 have Gv2 := hge hz2 hb1
 clear hb1 bw hW2 hz2
 clear hs2 hq2 hs1 hq1
 go_upto_region 2 with fail
 obtain ⟨q3, hq3⟩ := exq (w2.heap.size)
 obtain ⟨w3, hW3⟩ := exq (w2.alloc (.cells #[.slice none 0 0, .slice none 0 0, .slice none 0 0, .slice none 0 0, .int .i64 0, .int .i64 0] 43))
 have hz3 := hq3.symm
 rw [← hW3]; try rw [← hq3]
 have hs3 := hsa hW3 hz3
 have bw := bal hW3
 have hb3 := hbt hb2 bw
 have B1_3 := hblk B1_2 bw
 have B2_3 := hblk B2_2 bw
 have Nv1v3 := hnq B1_2 hz3
 have Nv2v3 := hnq B2_2 hz3
 have B3_3 := hnew hW3 hz3
 have Gv3 := hge hz3 hb2
 clear hb2 bw hW3 hz3
 clear hs3 hq3
 have c1_0 := (k6c B1_3).1
 have c1_1 := (k6c B1_3).2.1
 go_wp2_with fail
 refine (toDisk_any a1 n1 c1 cs a2 n2 c2 ws B _ (HA1.out _ hb3) (HA2.out _ hb3) (HBB.out _ hb3) HN.out.1 HN.out.2.1).mono ?_
 rintro e w4 ⟨vv1, vv2, rfl, hdk, bw⟩
 obtain ⟨oC, pC, rfl⟩ := slice_of_owns hdk.cells
 obtain ⟨oP, pP, rfl⟩ := slice_of_owns hdk.pend
 have HRN0 : Hid (RowsO w4 w.heap.size ([(⟨9, 1, (.slice oC n1 pC), n1, cs.map Value.string⟩ : Rw), (⟨183, 2, (.slice oP n2 pP), n2, flatWrite ws⟩ : Rw)])) := (disk_rows hdk).wide hb3.size
 have HT0 : Hid (∀ r ∈ ([(⟨9, 1, (.slice oC n1 pC), n1, cs.map Value.string⟩ : Rw), (⟨183, 2, (.slice oP n2 pP), n2, flatWrite ws⟩ : Rw)]), 43 ≠ r.T) := by
  intro r hr
  simp only [List.mem_cons, List.not_mem_nil, or_false] at hr
  rcases hr with rfl | rfl
  · exact (by decide : (43 : TypeId) ≠ 9)
  · exact (by decide : (43 : TypeId) ≠ 183)
 clear hdk
 have hb4 := hbt hb3 bw
 have B1_4 := hblk B1_3 bw
 have B2_4 := hblk B2_3 bw
 have B3_4 := hblk B3_3 bw
 clear hb3 bw
 have ER_4 : Hid (RowsO (w4) w.heap.size ([(⟨9, 1, (.slice oC n1 pC), n1, cs.map Value.string⟩ : Rw), (⟨183, 2, (.slice oP n2 pP), n2, flatWrite ws⟩ : Rw)])) := HRN0.out
 clear HRN0
 clear c1_0 c1_1
 have c3_0 := (k6c B3_4).1
 have f3_0 := hfz B3_4 0
 have c3_1 := (k6c B3_4).2.1
 have f3_1 := hfz B3_4 1
 go_upto_region 3 with fail
 obtain ⟨w5, hW5⟩ := exq (w4.setCell ⟨q3, 0, none⟩ (.slice oC n1 pC))
 rw [← hW5]
 have hb5 := hbS hW5 hb4 Gv3
 have B1_5 := hset hW5 Nv1v3.out B1_4
 have B2_5 := hset hW5 Nv2v3.out B2_4
 have ER_5 := erS hW5 ER_4 B3_4 HT0.out
 have B3_5 := hput hW5 B3_4
 clear hb4 hW5
 obtain ⟨w6, hW6⟩ := exq (w5.setCell ⟨q3, 1, none⟩ (.slice oP n2 pP))
 rw [← hW6]
 have hb6 := hbS hW6 hb5 Gv3
 have B1_6 := hset hW6 Nv1v3.out B1_5
 have B2_6 := hset hW6 Nv2v3.out B2_5
 have ER_6 := erS hW6 ER_5 B3_5 HT0.out
 have B3_6 := hput hW6 B3_5
 clear hb5 hW6
 clear c3_0 f3_0 c3_1 f3_1
 have c1_2 := (k6c B1_6).2.2.1
 go_wp2_with fail
 refine (toKeptS_any B a3 n3 c3 ks _ (HA3.out _ hb6) (HBB.out _ hb6) HN.out.2.2.1 HSM.out).mono ?_
 rintro e w7 ⟨VK, kv, rfl, hkm, hko, bw⟩
 have HKM := hid hkm
 obtain ⟨oK, pK, hVK⟩ := hko.len
 rw [show kv.length = n3 from by rw [← HL.out.2.2.1, ← hkm, List.length_map]] at hVK
 subst hVK
 have HRN1 : Hid (RowsO w7 w.heap.size ([(⟨9, 1, (.slice oC n1 pC), n1, cs.map Value.string⟩ : Rw), (⟨183, 2, (.slice oP n2 pP), n2, flatWrite ws⟩ : Rw)] ++ kpAll (.slice oK n3 pK) kv)) := ER_6.out.more bw hko (Nat.le_refl _) hb6.size
 have HT1 : Hid (∀ r ∈ ([(⟨9, 1, (.slice oC n1 pC), n1, cs.map Value.string⟩ : Rw), (⟨183, 2, (.slice oP n2 pP), n2, flatWrite ws⟩ : Rw)] ++ kpAll (.slice oK n3 pK) kv), 43 ≠ r.T) := by
  intro r hr
  rcases List.mem_append.1 hr with hr | hr
  · exact HT0.out r hr
  · rcases kpAll_T hr with e | e | e <;> rw [e] <;> decide
 clear hkm hko
 have hb7 := hbt hb6 bw
 have B1_7 := hblk B1_6 bw
 have B2_7 := hblk B2_6 bw
 have B3_7 := hblk B3_6 bw
 have ER_7 := hid (ER_6.out.below bw)
 clear hb6 bw
 clear ER_7
 have ER_7 : Hid (RowsO (w7) w.heap.size ([(⟨9, 1, (.slice oC n1 pC), n1, cs.map Value.string⟩ : Rw), (⟨183, 2, (.slice oP n2 pP), n2, flatWrite ws⟩ : Rw)] ++ kpAll (.slice oK n3 pK) kv)) := HRN1.out
 clear HRN1
 clear c1_2
 have c3_2 := (k6c B3_7).2.2.1
 have f3_2 := hfz B3_7 2
 go_upto_region 4 with fail
 obtain ⟨w8, hW8⟩ := exq (w7.setCell ⟨q3, 2, none⟩ (.slice oK n3 pK))
 rw [← hW8]
 have hb8 := hbS hW8 hb7 Gv3
 have B1_8 := hset hW8 Nv1v3.out B1_7
 have B2_8 := hset hW8 Nv2v3.out B2_7
 have ER_8 := erS hW8 ER_7 B3_7 HT1.out
 have B3_8 := hput hW8 B3_7
 clear hb7 hW8
 clear c3_2 f3_2
 have c1_3 := (k6c B1_8).2.2.2.1
 go_wp2_with fail
 refine (toBanS_any B a4 n4 c4 bl _ (HA4.out _ hb8) (HBB.out _ hb8) HN.out.2.2.2).mono ?_
 rintro e w9 ⟨vb, rfl, hbo, bw⟩
 obtain ⟨oB, pB, rfl⟩ := slice_of_owns hbo
 have HRN2 : Hid (RowsO w9 w.heap.size (([(⟨9, 1, (.slice oC n1 pC), n1, cs.map Value.string⟩ : Rw), (⟨183, 2, (.slice oP n2 pP), n2, flatWrite ws⟩ : Rw)] ++ kpAll (.slice oK n3 pK) kv) ++ [(⟨143, 4, (.slice oB n4 pB), n4, flatBan bl⟩ : Rw)])) := ER_8.out.more bw (RowsO.one (r := (⟨143, 4, (.slice oB n4 pB), n4, flatBan bl⟩ : Rw)) hbo) (Nat.le_refl _) hb8.size
 have HT2 : Hid (∀ r ∈ (([(⟨9, 1, (.slice oC n1 pC), n1, cs.map Value.string⟩ : Rw), (⟨183, 2, (.slice oP n2 pP), n2, flatWrite ws⟩ : Rw)] ++ kpAll (.slice oK n3 pK) kv) ++ [(⟨143, 4, (.slice oB n4 pB), n4, flatBan bl⟩ : Rw)]), 43 ≠ r.T) := by
  intro r hr
  rcases List.mem_append.1 hr with hr | hr
  · exact HT1.out r hr
  ·rw [List.mem_singleton.1 hr]
   exact (by decide : (43 : TypeId) ≠ 143)
 clear hbo
 have hb9 := hbt hb8 bw
 have B1_9 := hblk B1_8 bw
 have B2_9 := hblk B2_8 bw
 have B3_9 := hblk B3_8 bw
 have ER_9 := hid (ER_8.out.below bw)
 clear hb8 bw
 clear ER_9
 have ER_9 : Hid (RowsO (w9) w.heap.size (([(⟨9, 1, (.slice oC n1 pC), n1, cs.map Value.string⟩ : Rw), (⟨183, 2, (.slice oP n2 pP), n2, flatWrite ws⟩ : Rw)] ++ kpAll (.slice oK n3 pK) kv) ++ [(⟨143, 4, (.slice oB n4 pB), n4, flatBan bl⟩ : Rw)])) := HRN2.out
 clear HRN2
 clear c1_3
 have c3_3 := (k6c B3_9).2.2.2.1
 have f3_3 := hfz B3_9 3
 go_upto_region 5 with fail
 obtain ⟨w10, hW10⟩ := exq (w9.setCell ⟨q3, 3, none⟩ (.slice oB n4 pB))
 rw [← hW10]
 have hb10 := hbS hW10 hb9 Gv3
 have B1_10 := hset hW10 Nv1v3.out B1_9
 have B2_10 := hset hW10 Nv2v3.out B2_9
 have ER_10 := erS hW10 ER_9 B3_9 HT2.out
 have B3_10 := hput hW10 B3_9
 clear hb9 hW10
 clear c3_3 f3_3
 have c1_4 := (k6c B1_10).2.2.2.2.1
 have c3_4 := (k6c B3_10).2.2.2.2.1
 have f3_4 := hfz B3_10 4
 go_upto_region 6 with fail
 obtain ⟨w11, hW11⟩ := exq (w10.setCell ⟨q3, 4, none⟩ (.int .i64 nx))
 rw [← hW11]
 have hb11 := hbS hW11 hb10 Gv3
 have B1_11 := hset hW11 Nv1v3.out B1_10
 have B2_11 := hset hW11 Nv2v3.out B2_10
 have ER_11 := erS hW11 ER_10 B3_10 HT2.out
 have B3_11 := hput hW11 B3_10
 clear hb10 hW11
 clear c1_4 c3_4 f3_4
 have c1_5 := (k6c B1_11).2.2.2.2.2
 have c3_5 := (k6c B3_11).2.2.2.2.2
 have f3_5 := hfz B3_11 5
 go_upto_region 7 with fail
 obtain ⟨w12, hW12⟩ := exq (w11.setCell ⟨q3, 5, none⟩ (.int .i64 sq))
 rw [← hW12]
 have hb12 := hbS hW12 hb11 Gv3
 have B1_12 := hset hW12 Nv1v3.out B1_11
 have B2_12 := hset hW12 Nv2v3.out B2_11
 have ER_12 := erS hW12 ER_11 B3_11 HT2.out
 have B3_12 := hput hW12 B3_11
 clear hb11 hW12
 clear c1_5 c3_5 f3_5
 have c2_0 := (k6c B2_12).1
 have f2_0 := hfz B2_12 0
 have c2_1 := (k6c B2_12).2.1
 have f2_1 := hfz B2_12 1
 have c2_2 := (k6c B2_12).2.2.1
 have f2_2 := hfz B2_12 2
 have c2_3 := (k6c B2_12).2.2.2.1
 have f2_3 := hfz B2_12 3
 have c2_4 := (k6c B2_12).2.2.2.2.1
 have f2_4 := hfz B2_12 4
 have c2_5 := (k6c B2_12).2.2.2.2.2
 have f2_5 := hfz B2_12 5
 have c3_0 := (k6c B3_12).1
 have c3_1 := (k6c B3_12).2.1
 have c3_2 := (k6c B3_12).2.2.1
 have c3_3 := (k6c B3_12).2.2.2.1
 have c3_4 := (k6c B3_12).2.2.2.2.1
 have c3_5 := (k6c B3_12).2.2.2.2.2
 go_wp2_with fail
 obtain ⟨w13, hW13⟩ := exq (w12.setCell ⟨q2, 0, none⟩ (.slice oC n1 pC))
 rw [← hW13]
 have hb13 := hbS hW13 hb12 Gv2
 have B1_13 := hset hW13 Nv1v2.out B1_12
 have B3_13 := hset hW13 Nv2v3.out.symm B3_12
 have ER_13 := erS hW13 ER_12 B2_12 HT2.out
 have B2_13 := hput hW13 B2_12
 clear hb12 hW13
 obtain ⟨w14, hW14⟩ := exq (w13.setCell ⟨q2, 1, none⟩ (.slice oP n2 pP))
 rw [← hW14]
 have hb14 := hbS hW14 hb13 Gv2
 have B1_14 := hset hW14 Nv1v2.out B1_13
 have B3_14 := hset hW14 Nv2v3.out.symm B3_13
 have ER_14 := erS hW14 ER_13 B2_13 HT2.out
 have B2_14 := hput hW14 B2_13
 clear hb13 hW14
 obtain ⟨w15, hW15⟩ := exq (w14.setCell ⟨q2, 2, none⟩ (.slice oK n3 pK))
 rw [← hW15]
 have hb15 := hbS hW15 hb14 Gv2
 have B1_15 := hset hW15 Nv1v2.out B1_14
 have B3_15 := hset hW15 Nv2v3.out.symm B3_14
 have ER_15 := erS hW15 ER_14 B2_14 HT2.out
 have B2_15 := hput hW15 B2_14
 clear hb14 hW15
 obtain ⟨w16, hW16⟩ := exq (w15.setCell ⟨q2, 3, none⟩ (.slice oB n4 pB))
 rw [← hW16]
 have hb16 := hbS hW16 hb15 Gv2
 have B1_16 := hset hW16 Nv1v2.out B1_15
 have B3_16 := hset hW16 Nv2v3.out.symm B3_15
 have ER_16 := erS hW16 ER_15 B2_15 HT2.out
 have B2_16 := hput hW16 B2_15
 clear hb15 hW16
 obtain ⟨w17, hW17⟩ := exq (w16.setCell ⟨q2, 4, none⟩ (.int .i64 nx))
 rw [← hW17]
 have hb17 := hbS hW17 hb16 Gv2
 have B1_17 := hset hW17 Nv1v2.out B1_16
 have B3_17 := hset hW17 Nv2v3.out.symm B3_16
 have ER_17 := erS hW17 ER_16 B2_16 HT2.out
 have B2_17 := hput hW17 B2_16
 clear hb16 hW17
 obtain ⟨w18, hW18⟩ := exq (w17.setCell ⟨q2, 5, none⟩ (.int .i64 sq))
 rw [← hW18]
 have hb18 := hbS hW18 hb17 Gv2
 have B1_18 := hset hW18 Nv1v2.out B1_17
 have B3_18 := hset hW18 Nv2v3.out.symm B3_17
 have ER_18 := erS hW18 ER_17 B2_17 HT2.out
 have B2_18 := hput hW18 B2_17
 clear hb17 hW18
 have kv2_0 := (k6c B2_18).1
 have kv2_1 := (k6c B2_18).2.1
 have kv2_2 := (k6c B2_18).2.2.1
 have kv2_3 := (k6c B2_18).2.2.2.1
 have kv2_4 := (k6c B2_18).2.2.2.2.1
 have kv2_5 := (k6c B2_18).2.2.2.2.2
 refine bodyPost_ret (v := .agg #[.slice oC n1 pC, .slice oP n2 pP, .slice oK n3 pK, .slice oB n4 pB, .int .i64 nx, .int .i64 sq]) (by simp [results, Tryz.results15, go_sem, kv2_0, kv2_1, kv2_2, kv2_3, kv2_4, kv2_5]) rfl ?_
 refine ⟨.slice oC n1 pC, .slice oP n2 pP, .slice oK n3 pK, .slice oB n4 pB, kv, rfl, ⟨?_, HKM.out⟩, hb18⟩
 have h := ER_18.out
 unfold shAll
 rw [HL.out.1, HL.out.2.1, HL.out.2.2.2]
 exact h
structure FlLen (d : FlD) : Prop where
 qfs : d.qfs.length ≤ 1048576
 who : d.who.length ≤ 1048576
 oxs : d.oxs.length ≤ 1048576
 oys : d.oys.length ≤ 1048576
 ofs : d.ofs.length ≤ 1048576
theorem toFlight_any (d : FlD) (a2 : Oa) (c2 : Nat) (a4 : Oa) (c4 : Nat) (a6 : Oa) (c6 : Nat) (a7 : Oa) (c7 : Nat) (a9 : Oa) (c9 : Nat) (B : Nat) (w : World) (h2 : ArgF w B a2 d.qfs.length d.qfs) (h4 : ArgI w B a4 d.who.length d.who) (h6 : ArgT w B a6 d.oxs.length d.oxs) (h7 : ArgT w B a7 d.oys.length d.oys) (h9 : ArgF w B a9 d.ofs.length d.ofs) (hB : B ≤ w.heap.size) (hn : FlLen d) :
  Calls Tryz.prog 45 #[.agg #[.int .i64 d.qmt, .string d.qpa, .slice a2 d.qfs.length c2, .string d.qbd, .slice a4 d.who.length c4, .string d.opa, .slice a6 d.oxs.length c6, .slice a7 d.oys.length c7, .int .i64 d.ost, .slice a9 d.ofs.length c9, .string d.obd, .int .i64 d.otm, .bool d.has]] w fun e w' => ∃ x : FlV, e = .returned (.agg #[.int .i64 x.d.qmt, .string x.d.qpa, x.v2, .string x.d.qbd, x.v4, .string x.d.opa, x.v6, x.v7, .int .i64 x.d.ost, x.v9, .string x.d.obd, .int .i64 x.d.otm, .bool x.d.has]) ∧ x.d = d ∧ RowsO w' w.heap.size (flR x) ∧ Below w.heap.size w w' := by
 have HA2 : Hid (∀ W, Below w.heap.size w W → ArgF W B a2 d.qfs.length d.qfs) := fun W h => h2.below (h.mono hB)
 have HA4 : Hid (∀ W, Below w.heap.size w W → ArgI W B a4 d.who.length d.who) := fun W h => h4.below (h.mono hB)
 have HA6 : Hid (∀ W, Below w.heap.size w W → ArgT W B a6 d.oxs.length d.oxs) := fun W h => h6.below (h.mono hB)
 have HA7 : Hid (∀ W, Below w.heap.size w W → ArgT W B a7 d.oys.length d.oys) := fun W h => h7.below (h.mono hB)
 have HA9 : Hid (∀ W, Below w.heap.size w W → ArgF W B a9 d.ofs.length d.ofs) := fun W h => h9.below (h.mono hB)
 have HBB : Hid (∀ W, Below w.heap.size w W → B ≤ W.heap.size) := fun W h => Nat.le_trans hB h.size
 clear h2 h4 h6 h7 h9
 have hb0 := Below.refl w.heap.size w
 go_enter Tryz.func45, Tryz.ntmps45
 go_upto_region 1 with fail
 obtain ⟨q1, hq1⟩ := exq (w.heap.size)
 obtain ⟨w1, hW1⟩ := exq (w.alloc (.cells #[.int .i64 d.qmt, .string d.qpa, .slice a2 d.qfs.length c2, .string d.qbd, .slice a4 d.who.length c4, .string d.opa, .slice a6 d.oxs.length c6, .slice a7 d.oys.length c7, .int .i64 d.ost, .slice a9 d.ofs.length c9, .string d.obd, .int .i64 d.otm, .bool d.has] 91))
 have hz1 := hq1.symm
 rw [← hW1]; try rw [← hq1]
 have hs1 := hsa hW1 hz1
 have bw := bal hW1
 have hb1 := hbt hb0 bw
 have B1_1 := hnew hW1 hz1
 clear hb0 bw hW1 hz1
 obtain ⟨q2, hq2⟩ := exq (q1 + 1)
 obtain ⟨w2, hW2⟩ := exq (w1.alloc (.cells #[.int .i64 0, .string ⟨#[]⟩, .slice none 0 0, .string ⟨#[]⟩, .slice none 0 0, .string ⟨#[]⟩, .slice none 0 0, .slice none 0 0, .int .i64 0, .slice none 0 0, .string ⟨#[]⟩, .int .i64 0, .bool false] 101))
 have hz2 : w1.heap.size = q2 := by rw [hq2]; exact hs1
 rw [← hW2]; try rw [← hq2]
 have hs2 := hsa hW2 hz2
 have bw := bal hW2
 have hb2 := hbt hb1 bw
 have B1_2 := hblk B1_1 bw
 have Nv1v2 := hnq B1_1 hz2
 have B2_2 := hnew hW2 hz2
 have Gv2 := hge hz2 hb1
 clear hb1 bw hW2 hz2
 clear hs2 hq2 hs1 hq1
 go_upto_region 2 with fail
 obtain ⟨q3, hq3⟩ := exq (w2.heap.size)
 obtain ⟨w3, hW3⟩ := exq (w2.alloc (.cells #[.int .i64 0, .string ⟨#[]⟩, .slice none 0 0, .string ⟨#[]⟩, .slice none 0 0, .string ⟨#[]⟩, .slice none 0 0, .slice none 0 0, .int .i64 0, .slice none 0 0, .string ⟨#[]⟩, .int .i64 0, .bool false] 101))
 have hz3 := hq3.symm
 rw [← hW3]; try rw [← hq3]
 have hs3 := hsa hW3 hz3
 have bw := bal hW3
 have hb3 := hbt hb2 bw
 have B1_3 := hblk B1_2 bw
 have B2_3 := hblk B2_2 bw
 have Nv1v3 := hnq B1_2 hz3
 have Nv2v3 := hnq B2_2 hz3
 have B3_3 := hnew hW3 hz3
 have Gv3 := hge hz3 hb2
 clear hb2 bw hW3 hz3
 clear hs3 hq3
 have c1_0 := hcl B1_3 0 rfl
 have c1_1 := hcl B1_3 1 rfl
 have c1_2 := hcl B1_3 2 rfl
 have c1_3 := hcl B1_3 3 rfl
 go_wp2_with fail
 refine (toReq_any d.qmt d.qpa a2 d.qfs.length c2 d.qbd d.qfs B _ (HA2.out _ hb3) (HBB.out _ hb3) hn.qfs).mono ?_
 rintro e w4 ⟨vv, rfl, hown, bw⟩
 obtain ⟨o2, p2, rfl⟩ := slice_of_owns hown
 have HRN : Hid (RowsO w4 w.heap.size ([(⟨185, 2, (.slice o2 d.qfs.length p2), d.qfs.length, flatF d.qfs⟩ : Rw)])) := RowsO.wide (RowsO.one (r := (⟨185, 2, (.slice o2 d.qfs.length p2), d.qfs.length, flatF d.qfs⟩ : Rw)) hown) hb3.size
 have HT1 : Hid (∀ r ∈ ([(⟨185, 2, (.slice o2 d.qfs.length p2), d.qfs.length, flatF d.qfs⟩ : Rw)]), 101 ≠ r.T) := by
  intro r hr
  simp only [List.mem_cons, List.not_mem_nil, or_false] at hr
  rcases hr with rfl
  · exact (by decide : (101 : TypeId) ≠ 185)
 clear hown
 have hb4 := hbt hb3 bw
 have B1_4 := hblk B1_3 bw
 have B2_4 := hblk B2_3 bw
 have B3_4 := hblk B3_3 bw
 clear hb3 bw
 have ER_4 := HRN
 clear HRN
 clear c1_0 c1_1 c1_2 c1_3
 have c3_0 := hcl B3_4 0 rfl
 have f3_0 := hfz B3_4 0
 have c3_1 := hcl B3_4 1 rfl
 have f3_1 := hfz B3_4 1
 have c3_2 := hcl B3_4 2 rfl
 have f3_2 := hfz B3_4 2
 have c3_3 := hcl B3_4 3 rfl
 have f3_3 := hfz B3_4 3
 go_upto_region 3 with fail
 obtain ⟨w5, hW5⟩ := exq (w4.setCell ⟨q3, 0, none⟩ (.int .i64 d.qmt))
 rw [← hW5]
 have hb5 := hbS hW5 hb4 Gv3
 have B1_5 := hset hW5 Nv1v3.out B1_4
 have B2_5 := hset hW5 Nv2v3.out B2_4
 have ER_5 := erS hW5 ER_4 B3_4 HT1.out
 have B3_5 := hput hW5 B3_4
 clear hb4 hW5
 obtain ⟨w6, hW6⟩ := exq (w5.setCell ⟨q3, 1, none⟩ (.string d.qpa))
 rw [← hW6]
 have hb6 := hbS hW6 hb5 Gv3
 have B1_6 := hset hW6 Nv1v3.out B1_5
 have B2_6 := hset hW6 Nv2v3.out B2_5
 have ER_6 := erS hW6 ER_5 B3_5 HT1.out
 have B3_6 := hput hW6 B3_5
 clear hb5 hW6
 obtain ⟨w7, hW7⟩ := exq (w6.setCell ⟨q3, 2, none⟩ (.slice o2 d.qfs.length p2))
 rw [← hW7]
 have hb7 := hbS hW7 hb6 Gv3
 have B1_7 := hset hW7 Nv1v3.out B1_6
 have B2_7 := hset hW7 Nv2v3.out B2_6
 have ER_7 := erS hW7 ER_6 B3_6 HT1.out
 have B3_7 := hput hW7 B3_6
 clear hb6 hW7
 obtain ⟨w8, hW8⟩ := exq (w7.setCell ⟨q3, 3, none⟩ (.string d.qbd))
 rw [← hW8]
 have hb8 := hbS hW8 hb7 Gv3
 have B1_8 := hset hW8 Nv1v3.out B1_7
 have B2_8 := hset hW8 Nv2v3.out B2_7
 have ER_8 := erS hW8 ER_7 B3_7 HT1.out
 have B3_8 := hput hW8 B3_7
 clear hb7 hW8
 clear c3_0 f3_0 c3_1 f3_1 c3_2 f3_2 c3_3 f3_3
 have c1_4 := hcl B1_8 4 rfl
 go_wp2_with fail
 refine (toIntSO_any B a4 d.who.length c4 d.who _ (HA4.out _ hb8) (HBB.out _ hb8) hn.who).mono ?_
 rintro e w9 ⟨rfl, hprt, bw⟩
 have hown := part_ints hprt rfl (ltd hn.who) (Nat.le_refl _)
 clear hprt
 obtain ⟨o4, ho4⟩ : ∃ o : Oa, o = some ⟨w8.heap.size, 0, none⟩ := ⟨_, rfl⟩
 obtain ⟨p4, hp4⟩ : ∃ p : Nat, p = d.who.length := ⟨_, rfl⟩
 have hvv : Value.slice (some ⟨w8.heap.size, 0, none⟩) d.who.length d.who.length = .slice o4 d.who.length p4 := by rw [ho4, hp4]
 rw [hvv] at hown ⊢
 clear hvv ho4 hp4
 have HRN : Hid (RowsO w9 w.heap.size ([(⟨185, 2, (.slice o2 d.qfs.length p2), d.qfs.length, flatF d.qfs⟩ : Rw), (⟨3, 1, (.slice o4 d.who.length p4), d.who.length, d.who.map (Value.int .i64)⟩ : Rw)])) := ER_8.out.more bw (RowsO.one (r := (⟨3, 1, (.slice o4 d.who.length p4), d.who.length, d.who.map (Value.int .i64)⟩ : Rw)) hown) (Nat.le_refl _) hb8.size
 have HT2 : Hid (∀ r ∈ ([(⟨185, 2, (.slice o2 d.qfs.length p2), d.qfs.length, flatF d.qfs⟩ : Rw), (⟨3, 1, (.slice o4 d.who.length p4), d.who.length, d.who.map (Value.int .i64)⟩ : Rw)]), 101 ≠ r.T) := by
  intro r hr
  simp only [List.mem_cons, List.not_mem_nil, or_false] at hr
  rcases hr with rfl | rfl
  · exact (by decide : (101 : TypeId) ≠ 185)
  · exact (by decide : (101 : TypeId) ≠ 3)
 clear hown
 have hb9 := hbt hb8 bw
 have B1_9 := hblk B1_8 bw
 have B2_9 := hblk B2_8 bw
 have B3_9 := hblk B3_8 bw
 have ER_9 := hid (ER_8.out.below bw)
 clear hb8 bw
 clear ER_9
 have ER_9 := HRN
 clear HRN
 clear c1_4
 have c3_4 := hcl B3_9 4 rfl
 have f3_4 := hfz B3_9 4
 go_upto_region 4 with fail
 obtain ⟨w10, hW10⟩ := exq (w9.setCell ⟨q3, 4, none⟩ (.slice o4 d.who.length p4))
 rw [← hW10]
 have hb10 := hbS hW10 hb9 Gv3
 have B1_10 := hset hW10 Nv1v3.out B1_9
 have B2_10 := hset hW10 Nv2v3.out B2_9
 have ER_10 := erS hW10 ER_9 B3_9 HT2.out
 have B3_10 := hput hW10 B3_9
 clear hb9 hW10
 clear c3_4 f3_4
 have c1_5 := hcl B1_10 5 rfl
 have c1_6 := hcl B1_10 6 rfl
 have c1_7 := hcl B1_10 7 rfl
 have c1_8 := hcl B1_10 8 rfl
 have c1_9 := hcl B1_10 9 rfl
 have c1_10 := hcl B1_10 10 rfl
 have c1_11 := hcl B1_10 11 rfl
 go_wp2_with fail
 refine (toObj_any d.opa a6 d.oxs.length c6 d.oxs a7 d.oys.length c7 d.oys d.ost a9 d.ofs.length c9 d.ofs d.obd d.otm B _ (HA6.out _ hb10) (HA7.out _ hb10) (HA9.out _ hb10) (HBB.out _ hb10) hn.oxs hn.oys hn.ofs).mono ?_
 rintro e w11 ⟨vv1, vv2, vv3, rfl, hobj, bw⟩
 obtain ⟨o6, p6, rfl⟩ := slice_of_owns hobj.names
 obtain ⟨o7, p7, rfl⟩ := slice_of_owns hobj.vals
 obtain ⟨o9, p9, rfl⟩ := slice_of_owns hobj.flds
 have HRN : Hid (RowsO w11 w.heap.size ([(⟨185, 2, (.slice o2 d.qfs.length p2), d.qfs.length, flatF d.qfs⟩ : Rw), (⟨3, 1, (.slice o4 d.who.length p4), d.who.length, d.who.map (Value.int .i64)⟩ : Rw), (⟨9, 1, (.slice o6 d.oxs.length p6), d.oxs.length, d.oxs.map Value.string⟩ : Rw), (⟨9, 1, (.slice o7 d.oys.length p7), d.oys.length, d.oys.map Value.string⟩ : Rw), (⟨185, 2, (.slice o9 d.ofs.length p9), d.ofs.length, flatF d.ofs⟩ : Rw)])) := ER_10.out.more bw (obj_rows3 hobj) (Nat.le_refl _) hb10.size
 have HT5 : Hid (∀ r ∈ ([(⟨185, 2, (.slice o2 d.qfs.length p2), d.qfs.length, flatF d.qfs⟩ : Rw), (⟨3, 1, (.slice o4 d.who.length p4), d.who.length, d.who.map (Value.int .i64)⟩ : Rw), (⟨9, 1, (.slice o6 d.oxs.length p6), d.oxs.length, d.oxs.map Value.string⟩ : Rw), (⟨9, 1, (.slice o7 d.oys.length p7), d.oys.length, d.oys.map Value.string⟩ : Rw), (⟨185, 2, (.slice o9 d.ofs.length p9), d.ofs.length, flatF d.ofs⟩ : Rw)]), 101 ≠ r.T) := by
  intro r hr
  simp only [List.mem_cons, List.not_mem_nil, or_false] at hr
  rcases hr with rfl | rfl | rfl | rfl | rfl
  · exact (by decide : (101 : TypeId) ≠ 185)
  · exact (by decide : (101 : TypeId) ≠ 3)
  · exact (by decide : (101 : TypeId) ≠ 9)
  · exact (by decide : (101 : TypeId) ≠ 9)
  · exact (by decide : (101 : TypeId) ≠ 185)
 clear hobj
 have hb11 := hbt hb10 bw
 have B1_11 := hblk B1_10 bw
 have B2_11 := hblk B2_10 bw
 have B3_11 := hblk B3_10 bw
 have ER_11 := hid (ER_10.out.below bw)
 clear hb10 bw
 clear ER_11
 have ER_11 := HRN
 clear HRN
 clear c1_5 c1_6 c1_7 c1_8 c1_9 c1_10 c1_11
 have c3_5 := hcl B3_11 5 rfl
 have f3_5 := hfz B3_11 5
 have c3_6 := hcl B3_11 6 rfl
 have f3_6 := hfz B3_11 6
 have c3_7 := hcl B3_11 7 rfl
 have f3_7 := hfz B3_11 7
 have c3_8 := hcl B3_11 8 rfl
 have f3_8 := hfz B3_11 8
 have c3_9 := hcl B3_11 9 rfl
 have f3_9 := hfz B3_11 9
 have c3_10 := hcl B3_11 10 rfl
 have f3_10 := hfz B3_11 10
 have c3_11 := hcl B3_11 11 rfl
 have f3_11 := hfz B3_11 11
 go_upto_region 5 with fail
 obtain ⟨w12, hW12⟩ := exq (w11.setCell ⟨q3, 5, none⟩ (.string d.opa))
 rw [← hW12]
 have hb12 := hbS hW12 hb11 Gv3
 have B1_12 := hset hW12 Nv1v3.out B1_11
 have B2_12 := hset hW12 Nv2v3.out B2_11
 have ER_12 := erS hW12 ER_11 B3_11 HT5.out
 have B3_12 := hput hW12 B3_11
 clear hb11 hW12
 obtain ⟨w13, hW13⟩ := exq (w12.setCell ⟨q3, 6, none⟩ (.slice o6 d.oxs.length p6))
 rw [← hW13]
 have hb13 := hbS hW13 hb12 Gv3
 have B1_13 := hset hW13 Nv1v3.out B1_12
 have B2_13 := hset hW13 Nv2v3.out B2_12
 have ER_13 := erS hW13 ER_12 B3_12 HT5.out
 have B3_13 := hput hW13 B3_12
 clear hb12 hW13
 obtain ⟨w14, hW14⟩ := exq (w13.setCell ⟨q3, 7, none⟩ (.slice o7 d.oys.length p7))
 rw [← hW14]
 have hb14 := hbS hW14 hb13 Gv3
 have B1_14 := hset hW14 Nv1v3.out B1_13
 have B2_14 := hset hW14 Nv2v3.out B2_13
 have ER_14 := erS hW14 ER_13 B3_13 HT5.out
 have B3_14 := hput hW14 B3_13
 clear hb13 hW14
 obtain ⟨w15, hW15⟩ := exq (w14.setCell ⟨q3, 8, none⟩ (.int .i64 d.ost))
 rw [← hW15]
 have hb15 := hbS hW15 hb14 Gv3
 have B1_15 := hset hW15 Nv1v3.out B1_14
 have B2_15 := hset hW15 Nv2v3.out B2_14
 have ER_15 := erS hW15 ER_14 B3_14 HT5.out
 have B3_15 := hput hW15 B3_14
 clear hb14 hW15
 obtain ⟨w16, hW16⟩ := exq (w15.setCell ⟨q3, 9, none⟩ (.slice o9 d.ofs.length p9))
 rw [← hW16]
 have hb16 := hbS hW16 hb15 Gv3
 have B1_16 := hset hW16 Nv1v3.out B1_15
 have B2_16 := hset hW16 Nv2v3.out B2_15
 have ER_16 := erS hW16 ER_15 B3_15 HT5.out
 have B3_16 := hput hW16 B3_15
 clear hb15 hW16
 obtain ⟨w17, hW17⟩ := exq (w16.setCell ⟨q3, 10, none⟩ (.string d.obd))
 rw [← hW17]
 have hb17 := hbS hW17 hb16 Gv3
 have B1_17 := hset hW17 Nv1v3.out B1_16
 have B2_17 := hset hW17 Nv2v3.out B2_16
 have ER_17 := erS hW17 ER_16 B3_16 HT5.out
 have B3_17 := hput hW17 B3_16
 clear hb16 hW17
 obtain ⟨w18, hW18⟩ := exq (w17.setCell ⟨q3, 11, none⟩ (.int .i64 d.otm))
 rw [← hW18]
 have hb18 := hbS hW18 hb17 Gv3
 have B1_18 := hset hW18 Nv1v3.out B1_17
 have B2_18 := hset hW18 Nv2v3.out B2_17
 have ER_18 := erS hW18 ER_17 B3_17 HT5.out
 have B3_18 := hput hW18 B3_17
 clear hb17 hW18
 clear c3_5 f3_5 c3_6 f3_6 c3_7 f3_7 c3_8 f3_8 c3_9 f3_9 c3_10 f3_10 c3_11 f3_11
 have c1_12 := hcl B1_18 12 rfl
 have c3_12 := hcl B3_18 12 rfl
 have f3_12 := hfz B3_18 12
 go_upto_region 6 with fail
 obtain ⟨w19, hW19⟩ := exq (w18.setCell ⟨q3, 12, none⟩ (.bool d.has))
 rw [← hW19]
 have hb19 := hbS hW19 hb18 Gv3
 have B1_19 := hset hW19 Nv1v3.out B1_18
 have B2_19 := hset hW19 Nv2v3.out B2_18
 have ER_19 := erS hW19 ER_18 B3_18 HT5.out
 have B3_19 := hput hW19 B3_18
 clear hb18 hW19
 clear c1_12 c3_12 f3_12
 have c2_0 := hcl B2_19 0 rfl
 have f2_0 := hfz B2_19 0
 have c2_1 := hcl B2_19 1 rfl
 have f2_1 := hfz B2_19 1
 have c2_2 := hcl B2_19 2 rfl
 have f2_2 := hfz B2_19 2
 have c2_3 := hcl B2_19 3 rfl
 have f2_3 := hfz B2_19 3
 have c2_4 := hcl B2_19 4 rfl
 have f2_4 := hfz B2_19 4
 have c2_5 := hcl B2_19 5 rfl
 have f2_5 := hfz B2_19 5
 have c2_6 := hcl B2_19 6 rfl
 have f2_6 := hfz B2_19 6
 have c2_7 := hcl B2_19 7 rfl
 have f2_7 := hfz B2_19 7
 have c2_8 := hcl B2_19 8 rfl
 have f2_8 := hfz B2_19 8
 have c2_9 := hcl B2_19 9 rfl
 have f2_9 := hfz B2_19 9
 have c2_10 := hcl B2_19 10 rfl
 have f2_10 := hfz B2_19 10
 have c2_11 := hcl B2_19 11 rfl
 have f2_11 := hfz B2_19 11
 have c2_12 := hcl B2_19 12 rfl
 have f2_12 := hfz B2_19 12
 have c3_0 := hcl B3_19 0 rfl
 have c3_1 := hcl B3_19 1 rfl
 have c3_2 := hcl B3_19 2 rfl
 have c3_3 := hcl B3_19 3 rfl
 have c3_4 := hcl B3_19 4 rfl
 have c3_5 := hcl B3_19 5 rfl
 have c3_6 := hcl B3_19 6 rfl
 have c3_7 := hcl B3_19 7 rfl
 have c3_8 := hcl B3_19 8 rfl
 have c3_9 := hcl B3_19 9 rfl
 have c3_10 := hcl B3_19 10 rfl
 have c3_11 := hcl B3_19 11 rfl
 have c3_12 := hcl B3_19 12 rfl
 go_wp2_with fail
 obtain ⟨w20, hW20⟩ := exq (w19.setCell ⟨q2, 0, none⟩ (.int .i64 d.qmt))
 rw [← hW20]
 have hb20 := hbS hW20 hb19 Gv2
 have B1_20 := hset hW20 Nv1v2.out B1_19
 have B3_20 := hset hW20 Nv2v3.out.symm B3_19
 have ER_20 := erS hW20 ER_19 B2_19 HT5.out
 have B2_20 := hput hW20 B2_19
 clear hb19 hW20
 obtain ⟨w21, hW21⟩ := exq (w20.setCell ⟨q2, 1, none⟩ (.string d.qpa))
 rw [← hW21]
 have hb21 := hbS hW21 hb20 Gv2
 have B1_21 := hset hW21 Nv1v2.out B1_20
 have B3_21 := hset hW21 Nv2v3.out.symm B3_20
 have ER_21 := erS hW21 ER_20 B2_20 HT5.out
 have B2_21 := hput hW21 B2_20
 clear hb20 hW21
 obtain ⟨w22, hW22⟩ := exq (w21.setCell ⟨q2, 2, none⟩ (.slice o2 d.qfs.length p2))
 rw [← hW22]
 have hb22 := hbS hW22 hb21 Gv2
 have B1_22 := hset hW22 Nv1v2.out B1_21
 have B3_22 := hset hW22 Nv2v3.out.symm B3_21
 have ER_22 := erS hW22 ER_21 B2_21 HT5.out
 have B2_22 := hput hW22 B2_21
 clear hb21 hW22
 obtain ⟨w23, hW23⟩ := exq (w22.setCell ⟨q2, 3, none⟩ (.string d.qbd))
 rw [← hW23]
 have hb23 := hbS hW23 hb22 Gv2
 have B1_23 := hset hW23 Nv1v2.out B1_22
 have B3_23 := hset hW23 Nv2v3.out.symm B3_22
 have ER_23 := erS hW23 ER_22 B2_22 HT5.out
 have B2_23 := hput hW23 B2_22
 clear hb22 hW23
 obtain ⟨w24, hW24⟩ := exq (w23.setCell ⟨q2, 4, none⟩ (.slice o4 d.who.length p4))
 rw [← hW24]
 have hb24 := hbS hW24 hb23 Gv2
 have B1_24 := hset hW24 Nv1v2.out B1_23
 have B3_24 := hset hW24 Nv2v3.out.symm B3_23
 have ER_24 := erS hW24 ER_23 B2_23 HT5.out
 have B2_24 := hput hW24 B2_23
 clear hb23 hW24
 obtain ⟨w25, hW25⟩ := exq (w24.setCell ⟨q2, 5, none⟩ (.string d.opa))
 rw [← hW25]
 have hb25 := hbS hW25 hb24 Gv2
 have B1_25 := hset hW25 Nv1v2.out B1_24
 have B3_25 := hset hW25 Nv2v3.out.symm B3_24
 have ER_25 := erS hW25 ER_24 B2_24 HT5.out
 have B2_25 := hput hW25 B2_24
 clear hb24 hW25
 obtain ⟨w26, hW26⟩ := exq (w25.setCell ⟨q2, 6, none⟩ (.slice o6 d.oxs.length p6))
 rw [← hW26]
 have hb26 := hbS hW26 hb25 Gv2
 have B1_26 := hset hW26 Nv1v2.out B1_25
 have B3_26 := hset hW26 Nv2v3.out.symm B3_25
 have ER_26 := erS hW26 ER_25 B2_25 HT5.out
 have B2_26 := hput hW26 B2_25
 clear hb25 hW26
 obtain ⟨w27, hW27⟩ := exq (w26.setCell ⟨q2, 7, none⟩ (.slice o7 d.oys.length p7))
 rw [← hW27]
 have hb27 := hbS hW27 hb26 Gv2
 have B1_27 := hset hW27 Nv1v2.out B1_26
 have B3_27 := hset hW27 Nv2v3.out.symm B3_26
 have ER_27 := erS hW27 ER_26 B2_26 HT5.out
 have B2_27 := hput hW27 B2_26
 clear hb26 hW27
 obtain ⟨w28, hW28⟩ := exq (w27.setCell ⟨q2, 8, none⟩ (.int .i64 d.ost))
 rw [← hW28]
 have hb28 := hbS hW28 hb27 Gv2
 have B1_28 := hset hW28 Nv1v2.out B1_27
 have B3_28 := hset hW28 Nv2v3.out.symm B3_27
 have ER_28 := erS hW28 ER_27 B2_27 HT5.out
 have B2_28 := hput hW28 B2_27
 clear hb27 hW28
 obtain ⟨w29, hW29⟩ := exq (w28.setCell ⟨q2, 9, none⟩ (.slice o9 d.ofs.length p9))
 rw [← hW29]
 have hb29 := hbS hW29 hb28 Gv2
 have B1_29 := hset hW29 Nv1v2.out B1_28
 have B3_29 := hset hW29 Nv2v3.out.symm B3_28
 have ER_29 := erS hW29 ER_28 B2_28 HT5.out
 have B2_29 := hput hW29 B2_28
 clear hb28 hW29
 obtain ⟨w30, hW30⟩ := exq (w29.setCell ⟨q2, 10, none⟩ (.string d.obd))
 rw [← hW30]
 have hb30 := hbS hW30 hb29 Gv2
 have B1_30 := hset hW30 Nv1v2.out B1_29
 have B3_30 := hset hW30 Nv2v3.out.symm B3_29
 have ER_30 := erS hW30 ER_29 B2_29 HT5.out
 have B2_30 := hput hW30 B2_29
 clear hb29 hW30
 obtain ⟨w31, hW31⟩ := exq (w30.setCell ⟨q2, 11, none⟩ (.int .i64 d.otm))
 rw [← hW31]
 have hb31 := hbS hW31 hb30 Gv2
 have B1_31 := hset hW31 Nv1v2.out B1_30
 have B3_31 := hset hW31 Nv2v3.out.symm B3_30
 have ER_31 := erS hW31 ER_30 B2_30 HT5.out
 have B2_31 := hput hW31 B2_30
 clear hb30 hW31
 obtain ⟨w32, hW32⟩ := exq (w31.setCell ⟨q2, 12, none⟩ (.bool d.has))
 rw [← hW32]
 have hb32 := hbS hW32 hb31 Gv2
 have B1_32 := hset hW32 Nv1v2.out B1_31
 have B3_32 := hset hW32 Nv2v3.out.symm B3_31
 have ER_32 := erS hW32 ER_31 B2_31 HT5.out
 have B2_32 := hput hW32 B2_31
 clear hb31 hW32
 have kv2_0 := hcl B2_32 0 rfl
 have kv2_1 := hcl B2_32 1 rfl
 have kv2_2 := hcl B2_32 2 rfl
 have kv2_3 := hcl B2_32 3 rfl
 have kv2_4 := hcl B2_32 4 rfl
 have kv2_5 := hcl B2_32 5 rfl
 have kv2_6 := hcl B2_32 6 rfl
 have kv2_7 := hcl B2_32 7 rfl
 have kv2_8 := hcl B2_32 8 rfl
 have kv2_9 := hcl B2_32 9 rfl
 have kv2_10 := hcl B2_32 10 rfl
 have kv2_11 := hcl B2_32 11 rfl
 have kv2_12 := hcl B2_32 12 rfl
 refine bodyPost_ret (v := .agg #[.int .i64 d.qmt, .string d.qpa, .slice o2 d.qfs.length p2, .string d.qbd, .slice o4 d.who.length p4, .string d.opa, .slice o6 d.oxs.length p6, .slice o7 d.oys.length p7, .int .i64 d.ost, .slice o9 d.ofs.length p9, .string d.obd, .int .i64 d.otm, .bool d.has]) (by simp [results, Tryz.results45, go_sem, kv2_0, kv2_1, kv2_2, kv2_3, kv2_4, kv2_5, kv2_6, kv2_7, kv2_8, kv2_9, kv2_10, kv2_11, kv2_12]) rfl ?_
 exact ⟨⟨d, .slice o2 d.qfs.length p2, .slice o4 d.who.length p4, .slice o6 d.oxs.length p6, .slice o7 d.oys.length p7, .slice o9 d.ofs.length p9⟩, rfl, rfl, ER_32.out, hb32⟩
structure FlMax (d : FlD) : Prop where
 qpa : d.qpa.size ≤ maxLen
 qfs : d.qfs.length ≤ maxLen ∧ WalkF d.qfs.length d.qfs
 qbd : d.qbd.size ≤ maxLen
 who : d.who.length ≤ maxLen
 opa : d.opa.size ≤ maxLen
 oxs : d.oxs.length ≤ maxLen ∧ ∀ i, i < d.oxs.length → (textAt d.oxs i).size ≤ maxLen
 oys : d.oys.length ≤ maxLen ∧ ∀ i, i < d.oys.length → (textAt d.oys i).size ≤ maxLen
 ofs : d.ofs.length ≤ maxLen ∧ WalkF d.ofs.length d.ofs
 obd : d.obd.size ≤ maxLen
structure FlSmall (d : FlD) : Prop where
 qpa : d.qpa.size ≤ 1048576
 qfs : d.qfs.length ≤ 1048576 ∧ szTo d.qfs d.qfs.length ≤ 1048576
 qbd : d.qbd.size ≤ 1048576
 who : d.who.length ≤ 1048576
 opa : d.opa.size ≤ 1048576
 oxs : d.oxs.length ≤ 1048576 ∧ ∀ i, i < d.oxs.length → (textAt d.oxs i).size ≤ 1048576
 oys : d.oys.length ≤ 1048576 ∧ ∀ i, i < d.oys.length → (textAt d.oys i).size ≤ 1048576
 ofs : d.ofs.length ≤ 1048576 ∧ szTo d.ofs d.ofs.length ≤ 1048576
 obd : d.obd.size ≤ 1048576
theorem FlSmall.lens {d : FlD} (h : FlSmall d) : FlLen d := ⟨h.qfs.1, h.who, h.oxs.1, h.oys.1, h.ofs.1⟩
def wtFl : List FlD → Nat
 | [] => 0
 | d :: r => 1 + (d.qfs.length + d.who.length + d.oxs.length + d.oys.length + d.ofs.length) + wtFl r
theorem wtFl_snoc (d : FlD) : ∀ l : List FlD, wtFl (l ++ [d]) = wtFl l + (1 + (d.qfs.length + d.who.length + d.oxs.length + d.oys.length + d.ofs.length))
 | [] => by simp [wtFl]
 | x :: l => by rw [List.cons_append, wtFl, wtFl_snoc d l, wtFl]; omega
theorem wtFl_ge : ∀ l : List FlD, l.length ≤ wtFl l
 | [] => Nat.le_refl _
 | x :: l => by rw [wtFl, List.length_cons]; have := wtFl_ge l; omega
def SzFl (L : Int) (d : FlD) (w : World) (e : Ending) (w' : World) : Prop :=
 ∃ r : Int, e = .returned (.int .i64 r) ∧ r ≤ L ∧ (0 ≤ r → r + ((d.qfs.length + d.who.length + d.oxs.length + d.oys.length + d.ofs.length : Nat) : Int) ≤ L ∧ FlSmall d) ∧ Below w.heap.size w w'
theorem szFlight_any (L : Int) (hL0 : 0 ≤ L) (hL1 : L ≤ 1048576) (d : FlD) (a2 : Oa) (c2 : Nat) (a4 : Oa) (c4 : Nat) (a6 : Oa) (c6 : Nat) (a7 : Oa) (c7 : Nat) (a9 : Oa) (c9 : Nat) (B : Nat) (w : World) (h2 : ArgF w B a2 d.qfs.length d.qfs) (h4 : ArgI w B a4 d.who.length d.who) (h6 : ArgT w B a6 d.oxs.length d.oxs) (h7 : ArgT w B a7 d.oys.length d.oys) (h9 : ArgF w B a9 d.ofs.length d.ofs) (hB : B ≤ w.heap.size) (hm : FlMax d) :
  Calls Tryz.prog 28 #[.agg #[.int .i64 d.qmt, .string d.qpa, .slice a2 d.qfs.length c2, .string d.qbd, .slice a4 d.who.length c4, .string d.opa, .slice a6 d.oxs.length c6, .slice a7 d.oys.length c7, .int .i64 d.ost, .slice a9 d.ofs.length c9, .string d.obd, .int .i64 d.otm, .bool d.has], .int .i64 L] w fun e w' => SzFl L d w e w' := by
 have HA2 : Hid (∀ W, Below w.heap.size w W → ArgF W B a2 d.qfs.length d.qfs) := fun W h => h2.below (h.mono hB)
 have HA4 : Hid (∀ W, Below w.heap.size w W → ArgI W B a4 d.who.length d.who) := fun W h => h4.below (h.mono hB)
 have HA6 : Hid (∀ W, Below w.heap.size w W → ArgT W B a6 d.oxs.length d.oxs) := fun W h => h6.below (h.mono hB)
 have HA7 : Hid (∀ W, Below w.heap.size w W → ArgT W B a7 d.oys.length d.oys) := fun W h => h7.below (h.mono hB)
 have HA9 : Hid (∀ W, Below w.heap.size w W → ArgF W B a9 d.ofs.length d.ofs) := fun W h => h9.below (h.mono hB)
 have HBB : Hid (∀ W, Below w.heap.size w W → B ≤ W.heap.size) := fun W h => Nat.le_trans hB h.size
 clear h2 h4 h6 h7 h9
 have HMX : Hid (FlMax d) := hm
 clear hm
 have hb0 := Below.refl w.heap.size w
 go_enter Tryz.func28, Tryz.ntmps28
 go_upto_region 1 with fail
 obtain ⟨q1, hq1⟩ := exq (w.heap.size)
 obtain ⟨w1, hW1⟩ := exq (w.alloc (.cells #[.int .i64 d.qmt, .string d.qpa, .slice a2 d.qfs.length c2, .string d.qbd, .slice a4 d.who.length c4, .string d.opa, .slice a6 d.oxs.length c6, .slice a7 d.oys.length c7, .int .i64 d.ost, .slice a9 d.ofs.length c9, .string d.obd, .int .i64 d.otm, .bool d.has] 91))
 have hz1 := hq1.symm
 rw [← hW1]; try rw [← hq1]
 have hs1 := hsa hW1 hz1
 have bw := bal hW1
 have hb1 := hbt hb0 bw
 have B1_1 := hnew hW1 hz1
 clear hb0 bw hW1 hz1
 clear hs1 hq1
 have c1_0 := hcl B1_1 0 rfl
 have c1_1 := hcl B1_1 1 rfl
 have c1_2 := hcl B1_1 2 rfl
 have c1_3 := hcl B1_1 3 rfl
 go_wp2_with fail
 refine (szReq_room L (by omega) (by omega) d.qmt d.qpa a2 d.qfs.length c2 d.qbd d.qfs _ (argUpF (HA2.out _ hb1) (HBB.out _ hb1)) HMX.out.qfs.1 HMX.out.qfs.2 HMX.out.qpa HMX.out.qbd).mono ?_
 rintro e w2 ⟨r1, rfl, hl1, hr1, bw⟩
 have hb2 := hbt hb1 bw
 have B1_2 := hblk B1_1 bw
 clear hb1 bw
 clear c1_0 c1_1 c1_2 c1_3
 by_cases hc1 : r1 < 0
 ·clear hr1
  go_wp2_with fail
  go_ret
  exact ⟨-1, rfl, by omega, fun h => absurd h (by omega), hb2⟩
 have HR1 : Hid _ := hr1 (by omega)
 clear hr1
 have mr1 := HR1.out.1
 have c1_4 := hcl B1_2 4 rfl
 go_wp2_with fail
 refine (szIntS_room r1 (by omega) (by omega) a4 d.who.length c4 _ HMX.out.who).mono ?_
 rintro e w3 ⟨r2, rfl, hl2, hr2, bw⟩
 have hb3 := hbt hb2 bw
 have B1_3 := hblk B1_2 bw
 clear hb2 bw
 clear c1_4
 by_cases hc2 : r2 < 0
 ·clear hr2
  go_wp2_with fail
  go_ret
  exact ⟨-1, rfl, by omega, fun h => absurd h (by omega), hb3⟩
 have HR2 : Hid _ := hr2 (by omega)
 clear hr2
 have mr2 := HR2.out.1
 have c1_5 := hcl B1_3 5 rfl
 have c1_6 := hcl B1_3 6 rfl
 have c1_7 := hcl B1_3 7 rfl
 have c1_8 := hcl B1_3 8 rfl
 have c1_9 := hcl B1_3 9 rfl
 have c1_10 := hcl B1_3 10 rfl
 have c1_11 := hcl B1_3 11 rfl
 go_wp2_with fail
 refine (szObj_any r2 (by omega) (by omega) d.opa a6 d.oxs.length c6 d.oxs a7 d.oys.length c7 d.oys d.ost a9 d.ofs.length c9 d.ofs d.obd d.otm B _ (HA6.out _ hb3) (HA7.out _ hb3) (HA9.out _ hb3) (HBB.out _ hb3) HMX.out.oxs.1 HMX.out.oys.1 HMX.out.ofs.1 HMX.out.oxs.2 HMX.out.oys.2 HMX.out.ofs.2 HMX.out.opa HMX.out.obd).mono ?_
 rintro e w4 ⟨r3, rfl, hl3, hr3, bw⟩
 have hb4 := hbt hb3 bw
 have B1_4 := hblk B1_3 bw
 clear hb3 bw
 clear c1_5 c1_6 c1_7 c1_8 c1_9 c1_10 c1_11
 by_cases hc3 : r3 < 0
 ·clear hr3
  go_wp2_with fail
  go_ret
  exact ⟨-1, rfl, by omega, fun h => absurd h (by omega), hb4⟩
 have HR3 : Hid _ := hr3 (by omega)
 clear hr3
 have mr3 := HR3.out.1
 go_wp2_with fail
 go_ret
 exact ⟨r3, rfl, by omega, fun _ => ⟨by omega, ⟨HR1.out.2.1.1, ⟨HR1.out.2.2.1, HR1.out.2.2.2⟩, HR1.out.2.1.2, HR2.out.2, HR3.out.2.1.1, HR3.out.2.2.1, HR3.out.2.2.2.1, ⟨HR3.out.2.2.2.2.1, HR3.out.2.2.2.2.2⟩, HR3.out.2.1.2⟩⟩, hb4⟩
structure FlLim (d : FlD) : Prop where
 qfs : d.qfs.length ≤ 2000000
 who : d.who.length ≤ 2000000
 oxs : d.oxs.length ≤ 2000000
 oys : d.oys.length ≤ 2000000
 ofs : d.ofs.length ≤ 2000000
theorem FlLen.lim {d : FlD} (h : FlLen d) : FlLim d := ⟨Nat.le_trans h.qfs (by decide), Nat.le_trans h.who (by decide), Nat.le_trans h.oxs (by decide), Nat.le_trans h.oys (by decide), Nat.le_trans h.ofs (by decide)⟩
theorem eqIntS_any2 {B1 B2 : Nat} (v u : Value) (zs : List Int) (w : World) (h1 : w.ownsRow B1 3 1 v zs.length (zs.map (Value.int .i64))) (h2 : w.ownsRow B2 3 1 u zs.length (zs.map (Value.int .i64))) (hn : zs.length ≤ 2000000) :
  Calls Tryz.prog 108 #[v, u] w fun e w' => e = .returned (.bool true) ∧ Below w.heap.size w w' := by
 obtain ⟨o1, c1, rfl, i1⟩ := ints_view h1
 obtain ⟨o2, c2, rfl, i2⟩ := ints_view h2
 exact eqIntS_any o1 o2 zs.length c1 c2 zs w i1 i2 hn
theorem eqFlight_any (d : FlD) (x y : FlV) (B1 B2 : Nat) (w : World) (hxd : x.d = d) (hyd : y.d = d) (hx : RowsO w B1 (flR x)) (hy : RowsO w B2 (flR y)) (hn : FlLim d) :
  Calls Tryz.prog 54 #[.agg #[.int .i64 x.d.qmt, .string x.d.qpa, x.v2, .string x.d.qbd, x.v4, .string x.d.opa, x.v6, x.v7, .int .i64 x.d.ost, x.v9, .string x.d.obd, .int .i64 x.d.otm, .bool x.d.has], .agg #[.int .i64 y.d.qmt, .string y.d.qpa, y.v2, .string y.d.qbd, y.v4, .string y.d.opa, y.v6, y.v7, .int .i64 y.d.ost, y.v9, .string y.d.obd, .int .i64 y.d.otm, .bool y.d.has]] w fun e w' => e = .returned (.bool true) ∧ Below w.heap.size w w' := by
 have hd : y.d = d := hyd
 have hd2 : x.d = d := hxd
 have HxO2 : Hid (∀ W : World, RowsO W B1 (flR x) → W.ownsRow B1 185 2 x.v2 d.qfs.length (flatF d.qfs)) := fun W h => by
  have h2 := h.own (⟨185, 2, x.v2, x.d.qfs.length, flatF x.d.qfs⟩ : Rw) (by simp [flR])
  unfold Rw.own at h2
  dsimp only at h2
  rw [hxd] at h2
  exact h2
 have HxO4 : Hid (∀ W : World, RowsO W B1 (flR x) → W.ownsRow B1 3 1 x.v4 d.who.length (d.who.map (Value.int .i64))) := fun W h => by
  have h2 := h.own (⟨3, 1, x.v4, x.d.who.length, x.d.who.map (Value.int .i64)⟩ : Rw) (by simp [flR])
  unfold Rw.own at h2
  dsimp only at h2
  rw [hxd] at h2
  exact h2
 have HxO6 : Hid (∀ W : World, RowsO W B1 (flR x) → W.ownsRow B1 9 1 x.v6 d.oxs.length (d.oxs.map Value.string)) := fun W h => by
  have h2 := h.own (⟨9, 1, x.v6, x.d.oxs.length, x.d.oxs.map Value.string⟩ : Rw) (by simp [flR])
  unfold Rw.own at h2
  dsimp only at h2
  rw [hxd] at h2
  exact h2
 have HxO7 : Hid (∀ W : World, RowsO W B1 (flR x) → W.ownsRow B1 9 1 x.v7 d.oys.length (d.oys.map Value.string)) := fun W h => by
  have h2 := h.own (⟨9, 1, x.v7, x.d.oys.length, x.d.oys.map Value.string⟩ : Rw) (by simp [flR])
  unfold Rw.own at h2
  dsimp only at h2
  rw [hxd] at h2
  exact h2
 have HxO9 : Hid (∀ W : World, RowsO W B1 (flR x) → W.ownsRow B1 185 2 x.v9 d.ofs.length (flatF d.ofs)) := fun W h => by
  have h2 := h.own (⟨185, 2, x.v9, x.d.ofs.length, flatF x.d.ofs⟩ : Rw) (by simp [flR])
  unfold Rw.own at h2
  dsimp only at h2
  rw [hxd] at h2
  exact h2
 have HxOO : Hid (∀ W : World, RowsO W B1 (flR x) → ObjO W B1 x.v6 d.oxs.length d.oxs x.v7 d.oys.length d.oys x.v9 d.ofs.length d.ofs) := fun W h => by
  have h2 : RowsO W B1 [(⟨9, 1, x.v6, x.d.oxs.length, x.d.oxs.map Value.string⟩ : Rw), (⟨9, 1, x.v7, x.d.oys.length, x.d.oys.map Value.string⟩ : Rw), (⟨185, 2, x.v9, x.d.ofs.length, flatF x.d.ofs⟩ : Rw)] := RowsO.sub h (by unfold flR; apply List.Sublist.cons; apply List.Sublist.cons; exact List.Sublist.refl _)
  have h3 := rows_obj3 h2
  rw [hxd] at h3
  exact h3
 have HyO2 : Hid (∀ W : World, RowsO W B2 (flR y) → W.ownsRow B2 185 2 y.v2 d.qfs.length (flatF d.qfs)) := fun W h => by
  have h2 := h.own (⟨185, 2, y.v2, y.d.qfs.length, flatF y.d.qfs⟩ : Rw) (by simp [flR])
  unfold Rw.own at h2
  dsimp only at h2
  rw [hyd] at h2
  exact h2
 have HyO4 : Hid (∀ W : World, RowsO W B2 (flR y) → W.ownsRow B2 3 1 y.v4 d.who.length (d.who.map (Value.int .i64))) := fun W h => by
  have h2 := h.own (⟨3, 1, y.v4, y.d.who.length, y.d.who.map (Value.int .i64)⟩ : Rw) (by simp [flR])
  unfold Rw.own at h2
  dsimp only at h2
  rw [hyd] at h2
  exact h2
 have HyO6 : Hid (∀ W : World, RowsO W B2 (flR y) → W.ownsRow B2 9 1 y.v6 d.oxs.length (d.oxs.map Value.string)) := fun W h => by
  have h2 := h.own (⟨9, 1, y.v6, y.d.oxs.length, y.d.oxs.map Value.string⟩ : Rw) (by simp [flR])
  unfold Rw.own at h2
  dsimp only at h2
  rw [hyd] at h2
  exact h2
 have HyO7 : Hid (∀ W : World, RowsO W B2 (flR y) → W.ownsRow B2 9 1 y.v7 d.oys.length (d.oys.map Value.string)) := fun W h => by
  have h2 := h.own (⟨9, 1, y.v7, y.d.oys.length, y.d.oys.map Value.string⟩ : Rw) (by simp [flR])
  unfold Rw.own at h2
  dsimp only at h2
  rw [hyd] at h2
  exact h2
 have HyO9 : Hid (∀ W : World, RowsO W B2 (flR y) → W.ownsRow B2 185 2 y.v9 d.ofs.length (flatF d.ofs)) := fun W h => by
  have h2 := h.own (⟨185, 2, y.v9, y.d.ofs.length, flatF y.d.ofs⟩ : Rw) (by simp [flR])
  unfold Rw.own at h2
  dsimp only at h2
  rw [hyd] at h2
  exact h2
 have HyOO : Hid (∀ W : World, RowsO W B2 (flR y) → ObjO W B2 y.v6 d.oxs.length d.oxs y.v7 d.oys.length d.oys y.v9 d.ofs.length d.ofs) := fun W h => by
  have h2 : RowsO W B2 [(⟨9, 1, y.v6, y.d.oxs.length, y.d.oxs.map Value.string⟩ : Rw), (⟨9, 1, y.v7, y.d.oys.length, y.d.oys.map Value.string⟩ : Rw), (⟨185, 2, y.v9, y.d.ofs.length, flatF y.d.ofs⟩ : Rw)] := RowsO.sub h (by unfold flR; apply List.Sublist.cons; apply List.Sublist.cons; exact List.Sublist.refl _)
  have h3 := rows_obj3 h2
  rw [hyd] at h3
  exact h3
 have eqmt : (d.qmt != d.qmt) = false := by simp
 have eost : (d.ost != d.ost) = false := by simp
 have eotm : (d.otm != d.otm) = false := by simp
 have ehas : (d.has != d.has) = false := by simp
 have Ex_0 : Hid (RowsO w B1 (flR x)) := hx
 have Ey_0 : Hid (RowsO w B2 (flR y)) := hy
 rw [hxd, hyd]
 clear hx hy hd hd2 hxd hyd
 have hb0 := Below.refl w.heap.size w
 go_enter Tryz.func54, Tryz.ntmps54
 go_upto_region 1 with fail
 obtain ⟨q1, hq1⟩ := exq (w.heap.size)
 obtain ⟨w1, hW1⟩ := exq (w.alloc (.cells #[.int .i64 d.qmt, .string d.qpa, x.v2, .string d.qbd, x.v4, .string d.opa, x.v6, x.v7, .int .i64 d.ost, x.v9, .string d.obd, .int .i64 d.otm, .bool d.has] 101))
 have hz1 := hq1.symm
 rw [← hW1]; try rw [← hq1]
 have hs1 := hsa hW1 hz1
 have bw := bal hW1
 have hb1 := hbt hb0 bw
 have Ex_1 := hid (Ex_0.out.below bw)
 have Ey_1 := hid (Ey_0.out.below bw)
 have B1_1 := hnew hW1 hz1
 clear hb0 Ex_0 Ey_0 bw hW1 hz1
 obtain ⟨q2, hq2⟩ := exq (q1 + 1)
 obtain ⟨w2, hW2⟩ := exq (w1.alloc (.cells #[.int .i64 d.qmt, .string d.qpa, y.v2, .string d.qbd, y.v4, .string d.opa, y.v6, y.v7, .int .i64 d.ost, y.v9, .string d.obd, .int .i64 d.otm, .bool d.has] 101))
 have hz2 : w1.heap.size = q2 := by rw [hq2]; exact hs1
 rw [← hW2]; try rw [← hq2]
 have hs2 := hsa hW2 hz2
 have bw := bal hW2
 have hb2 := hbt hb1 bw
 have B1_2 := hblk B1_1 bw
 have Ex_2 := hid (Ex_1.out.below bw)
 have Ey_2 := hid (Ey_1.out.below bw)
 have B2_2 := hnew hW2 hz2
 clear hb1 Ex_1 Ey_1 bw hW2 hz2
 clear hs2 hq2 hs1 hq1
 have c1_0 := hcl B1_2 0 rfl
 have c1_1 := hcl B1_2 1 rfl
 have c1_2 := hcl B1_2 2 rfl
 have c1_3 := hcl B1_2 3 rfl
 have c2_0 := hcl B2_2 0 rfl
 have c2_1 := hcl B2_2 1 rfl
 have c2_2 := hcl B2_2 2 rfl
 have c2_3 := hcl B2_2 3 rfl
 go_wp2_with fail
 refine (eqReq_any d.qmt d.qpa _ _ d.qbd d.qfs.length _ _ d.qfs _ (FieldsV.of_owns (show World.ownsRow _ B1 185 2 x.v2 d.qfs.length _ from HxO2.out _ Ex_2.out)) (FieldsV.of_owns (show World.ownsRow _ B2 185 2 y.v2 d.qfs.length _ from HyO2.out _ Ey_2.out)) hn.qfs).mono ?_
 rintro e w3 ⟨rfl, bw⟩
 have hb3 := hbt hb2 bw
 have B1_3 := hblk B1_2 bw
 have B2_3 := hblk B2_2 bw
 have Ex_3 := hid (Ex_2.out.below bw)
 have Ey_3 := hid (Ey_2.out.below bw)
 clear hb2 Ex_2 Ey_2 bw
 clear c1_0 c1_1 c1_2 c1_3 c2_0 c2_1 c2_2 c2_3
 have c1_4 := hcl B1_3 4 rfl
 have c2_4 := hcl B2_3 4 rfl
 go_wp2_with fail
 refine (eqIntS_any2 _ _ d.who _ (show World.ownsRow _ B1 3 1 x.v4 d.who.length _ from HxO4.out _ Ex_3.out) (show World.ownsRow _ B2 3 1 y.v4 d.who.length _ from HyO4.out _ Ey_3.out) hn.who).mono ?_
 rintro e w4 ⟨rfl, bw⟩
 have hb4 := hbt hb3 bw
 have B1_4 := hblk B1_3 bw
 have B2_4 := hblk B2_3 bw
 have Ex_4 := hid (Ex_3.out.below bw)
 have Ey_4 := hid (Ey_3.out.below bw)
 clear hb3 Ex_3 Ey_3 bw
 clear c1_4 c2_4
 have c1_5 := hcl B1_4 5 rfl
 have c1_6 := hcl B1_4 6 rfl
 have c1_7 := hcl B1_4 7 rfl
 have c1_8 := hcl B1_4 8 rfl
 have c1_9 := hcl B1_4 9 rfl
 have c1_10 := hcl B1_4 10 rfl
 have c1_11 := hcl B1_4 11 rfl
 have c2_5 := hcl B2_4 5 rfl
 have c2_6 := hcl B2_4 6 rfl
 have c2_7 := hcl B2_4 7 rfl
 have c2_8 := hcl B2_4 8 rfl
 have c2_9 := hcl B2_4 9 rfl
 have c2_10 := hcl B2_4 10 rfl
 have c2_11 := hcl B2_4 11 rfl
 go_wp2_with fail
 refine (eqObj_any d.opa d.oxs.length d.oxs d.oys.length d.oys d.ost d.ofs.length d.ofs d.obd d.otm _ _ _ _ _ _ _ _ _ (HxOO.out _ Ex_4.out) (HyOO.out _ Ey_4.out) hn.oxs hn.oys hn.ofs).mono ?_
 rintro e w5 ⟨rfl, bw⟩
 have hb5 := hbt hb4 bw
 have B1_5 := hblk B1_4 bw
 have B2_5 := hblk B2_4 bw
 have Ex_5 := hid (Ex_4.out.below bw)
 have Ey_5 := hid (Ey_4.out.below bw)
 clear hb4 Ex_4 Ey_4 bw
 clear c1_5 c1_6 c1_7 c1_8 c1_9 c1_10 c1_11 c2_5 c2_6 c2_7 c2_8 c2_9 c2_10 c2_11
 have c1_12 := hcl B1_5 12 rfl
 have c2_12 := hcl B2_5 12 rfl
 go_wp2_with fail
 go_ret
 exact ⟨rfl, hb5⟩
def FlArg (w : World) (B b off i : Nat) (d : FlD) : Prop :=
 ∃ (a2 : Oa) (c2 : Nat) (a4 : Oa) (c4 : Nat) (a6 : Oa) (c6 : Nat) (a7 : Oa) (c7 : Nat) (a9 : Oa) (c9 : Nat), (w.cell? ⟨b, off + i * 13, none⟩ = some (.int .i64 d.qmt) ∧ w.cell? ⟨b, off + i * 13 + 1, none⟩ = some (.string d.qpa) ∧ w.cell? ⟨b, off + i * 13 + 2, none⟩ = some (.slice a2 d.qfs.length c2) ∧ w.cell? ⟨b, off + i * 13 + 3, none⟩ = some (.string d.qbd) ∧ w.cell? ⟨b, off + i * 13 + 4, none⟩ = some (.slice a4 d.who.length c4) ∧ w.cell? ⟨b, off + i * 13 + 5, none⟩ = some (.string d.opa) ∧ w.cell? ⟨b, off + i * 13 + 6, none⟩ = some (.slice a6 d.oxs.length c6) ∧ w.cell? ⟨b, off + i * 13 + 7, none⟩ = some (.slice a7 d.oys.length c7) ∧ w.cell? ⟨b, off + i * 13 + 8, none⟩ = some (.int .i64 d.ost) ∧ w.cell? ⟨b, off + i * 13 + 9, none⟩ = some (.slice a9 d.ofs.length c9) ∧ w.cell? ⟨b, off + i * 13 + 10, none⟩ = some (.string d.obd) ∧ w.cell? ⟨b, off + i * 13 + 11, none⟩ = some (.int .i64 d.otm) ∧ w.cell? ⟨b, off + i * 13 + 12, none⟩ = some (.bool d.has)) ∧ ArgF w B a2 d.qfs.length d.qfs ∧ ArgI w B a4 d.who.length d.who ∧ ArgT w B a6 d.oxs.length d.oxs ∧ ArgT w B a7 d.oys.length d.oys ∧ ArgF w B a9 d.ofs.length d.ofs
def ArgFlight (w : World) (B : Nat) (a : Oa) (n : Nat) (ks : List FlD) : Prop :=
 ks.length = n ∧ ∀ i, i < n → ∃ b off, a = some ⟨b, off, none⟩ ∧ b < B ∧ FlArg w B b off i (flAt ks i)
theorem ArgFlight.below {w w' : World} {B : Nat} {a : Oa} {n : Nat} {ks : List FlD} (h : ArgFlight w B a n ks) (hb : Below B w w') : ArgFlight w' B a n ks :=
 ⟨h.1, fun i hi => by
  obtain ⟨b, off, h1, h2, a2, c2, a4, c4, a6, c6, a7, c7, a9, c9, ⟨r0, r1, r2, r3, r4, r5, r6, r7, r8, r9, r10, r11, r12⟩, g2, g4, g6, g7, g9⟩ := h.2 i hi
  exact ⟨b, off, h1, h2, a2, c2, a4, c4, a6, c6, a7, c7, a9, c9, ⟨by rw [hb.cell (p := ⟨b, off + i * 13, none⟩) h2]; exact r0, by rw [hb.cell (p := ⟨b, off + i * 13 + 1, none⟩) h2]; exact r1, by rw [hb.cell (p := ⟨b, off + i * 13 + 2, none⟩) h2]; exact r2, by rw [hb.cell (p := ⟨b, off + i * 13 + 3, none⟩) h2]; exact r3, by rw [hb.cell (p := ⟨b, off + i * 13 + 4, none⟩) h2]; exact r4, by rw [hb.cell (p := ⟨b, off + i * 13 + 5, none⟩) h2]; exact r5, by rw [hb.cell (p := ⟨b, off + i * 13 + 6, none⟩) h2]; exact r6, by rw [hb.cell (p := ⟨b, off + i * 13 + 7, none⟩) h2]; exact r7, by rw [hb.cell (p := ⟨b, off + i * 13 + 8, none⟩) h2]; exact r8, by rw [hb.cell (p := ⟨b, off + i * 13 + 9, none⟩) h2]; exact r9, by rw [hb.cell (p := ⟨b, off + i * 13 + 10, none⟩) h2]; exact r10, by rw [hb.cell (p := ⟨b, off + i * 13 + 11, none⟩) h2]; exact r11, by rw [hb.cell (p := ⟨b, off + i * 13 + 12, none⟩) h2]; exact r12⟩, g2.below hb, g4.below hb, g6.below hb, g7.below hb, g9.below hb⟩⟩
def SzFlightS (L : Int) (ks : List FlD) (w : World) (e : Ending) (w' : World) : Prop :=
 ∃ r : Int, e = .returned (.int .i64 r) ∧ r ≤ L ∧ (0 ≤ r → r + (wtFl ks : Int) ≤ L ∧ ∀ k ∈ ks, FlSmall k) ∧ Below w.heap.size w w'
theorem szFlightS_any (L : Int) (hL0 : 0 ≤ L) (hL1 : L ≤ 1048576) (B : Nat) (a : Oa) (n cap : Nat) (ks : List FlD) (w : World) (harg : ArgFlight w B a n ks) (hB : B ≤ w.heap.size) (hn : n ≤ maxLen) (hsz : ∀ k ∈ ks, FlMax k) :
  Calls Tryz.prog 10 #[.slice a n cap, .int .i64 L] w fun e w' => SzFlightS L ks w e w' := by
 unfold maxLen at hn
 have HS := hid hsz
 have HLN : Hid (ks.length = n) := harg.1
 have HA : Hid (∀ W, Below w.heap.size w W → ArgFlight W B a n ks) := fun W h => harg.below (h.mono hB)
 have HBB : Hid (∀ W, Below w.heap.size w W → B ≤ W.heap.size) := fun W h => Nat.le_trans hB h.size
 clear hsz harg hB
 by_cases c1 : L - (n : Int) < 0
 ·go_enter Tryz.func10, Tryz.ntmps10
  go_wp2
  go_ret
  exact ⟨-1, rfl, by omega, fun h => absurd h (by omega), Below.refl _ _⟩
 go_enter Tryz.func10, Tryz.ntmps10
 go_wp2
 go_loopw [1, 5] (fun lf i wr => ∃ (k : Nat) (x : Int), k ≤ n ∧ i = .int .i64 (k : Int) ∧ lf = .int .i64 x ∧ 0 ≤ x ∧ x ≤ L ∧ Hid (x + (wtFl (ks.take k) : Int) + ((n : Int) - (k : Int)) ≤ L ∧ ∀ y ∈ ks.take k, FlSmall y) ∧ Hid (Below w.heap.size w wr)) (fun _ i _ => n - (intOf i).toNat)
 case atStart => exact ⟨0, _, Nat.zero_le _, rfl, rfl, by omega, by omega, ⟨by simp [wtFl], fun x hx => by simp at hx⟩, Below.refl _ _⟩
 case round =>
  obtain ⟨k, x, hk, rfl, rfl, hx0, hx1, HX, HBW⟩ := hrel
  by_cases hlt : k < n
  rotate_left
  ·have HF : Hid (x + (wtFl ks : Int) ≤ L ∧ ∀ k ∈ ks, FlSmall k) := by
    obtain ⟨m1, m2⟩ := HX.out
    rw [List.take_of_length_le (by rw [HLN.out]; omega)] at m1 m2
    exact ⟨by omega, m2⟩
   go_wp2
   go_ret
   exact ⟨x, rfl, by omega, fun _ => HF.out, HBW.out⟩
  have hlt2 : (k : Int) < (n : Int) := by omega
  obtain ⟨b, off, rfl, hbB, a2, c2, a4, c4, a6, c6, a7, c7, a9, c9, ⟨r0, r1, r2, r3, r4, r5, r6, r7, r8, r9, r10, r11, r12⟩, g2, g4, g6, g7, g9⟩ := (HA.out wr HBW.out).2 k hlt
  obtain ⟨y, hy⟩ := exq (flAt ks k)
  have HM : Hid (y ∈ ks) := by show _ ∈ _; rw [hy]; exact getD_mem0 _ ks k (by rw [HLN.out]; exact hlt)
  have HTK : Hid (ks.take (k + 1) = ks.take k ++ [y]) := by show _ = _; rw [hy]; exact getD_take0 _ ks k (by rw [HLN.out]; exact hlt)
  rw [← hy] at r0 r1 r2 r3 r4 r5 r6 r7 r8 r9 r10 r11 r12 g2 g4 g6 g7 g9
  have HG2 := hid g2
  have HG4 := hid g4
  have HG6 := hid g6
  have HG7 := hid g7
  have HG9 := hid g9
  clear hy g2 g4 g6 g7 g9
  go_wp2_with fail
  skip
  refine (szFlight_any x hx0 (by omega) y a2 c2 a4 c4 a6 c6 a7 c7 a9 c9 B _ HG2.out HG4.out HG6.out HG7.out HG9.out (HBB.out _ HBW.out) (HS.out y HM.out)).mono ?_
  rintro e w1 ⟨r, rfl, hr1, hr2, bw⟩
  have HB2 : Hid (Below w.heap.size w w1) := HBW.out.trans (bw.mono HBW.out.size)
  clear r0 r1 r2 r3 r4 r5 r6 r7 r8 r9 r10 r11 r12 bw
  by_cases d1 : r < 0
  ·clear hr2
   go_wp2
   go_ret
   exact ⟨-1, rfl, by omega, fun h => absurd h (by omega), HB2.out⟩
  have HX2 : Hid (r + (wtFl (ks.take (k + 1)) : Int) + ((n : Int) - ((k + 1 : Nat) : Int)) ≤ L ∧ ∀ y ∈ ks.take (k + 1), FlSmall y) := by
   obtain ⟨q1, q2⟩ := hr2 (by omega)
   obtain ⟨m1, m2⟩ := HX.out
   refine ⟨?_, fun z hz => ?_⟩
   ·rw [HTK.out, wtFl_snoc]
    omega
   ·rw [HTK.out] at hz
    rcases List.mem_append.1 hz with hz | hz
    · exact m2 z hz
    · rw [List.mem_singleton.1 hz]; exact q2
  clear hr2
  go_wp2
  go_roundw
  case rel => exact ⟨k + 1, r, by omega, by go_num, rfl, by omega, by omega, HX2, HB2⟩
  case measure => simp [intOf]; omega
theorem infoFlight : (Tryz.prog.info? 101).map (fun i => (i.zero, i.size, i.bytes)) = some (some (.agg #[.int .i64 0, .string ⟨#[]⟩, .slice none 0 0, .string ⟨#[]⟩, .slice none 0 0, .string ⟨#[]⟩, .slice none 0 0, .slice none 0 0, .int .i64 0, .slice none 0 0, .string ⟨#[]⟩, .int .i64 0, .bool false]), 13, 216) := by kernel_rfl
def FlightIs (ks : List FlD) (w : World) (e : Ending) (w' : World) : Prop := ∃ (V : Value) (kv : List FlV), e = .returned V ∧ kv.map (·.d) = ks ∧ FlsO w' w.heap.size V kv ∧ Below w.heap.size w w'
theorem parts_Flight {w : World} {g n base : Nat} {kv : List FlV} (hp : PartO flC 13 101 w g n kv) (hl : kv.length = n) (hm : n ≤ maxLen) (hb : base ≤ g) (hr : RowsO w (g + 1) (kv.flatMap flR)) : FlsO w base (.slice (some ⟨g, 0, none⟩) n n) kv := by
 have hrow : (flRow (.slice (some ⟨g, 0, none⟩) n n) kv).own w base := by
  have h := hp.owns flC_len (by decide) hl hm hb
  unfold Rw.own flRow
  rw [hl]
  exact h
 refine ⟨fun r h => ?_, List.pairwise_cons.2 ⟨fun r h g' h1 h2 => ?_, hr.apart⟩⟩
 ·rcases List.mem_cons.1 h with h | h
  · rw [h]; exact hrow
  · exact owns_wide (hr.own r h) (by omega)
 ·have e1 : some g = some g' := h1
  have e2 := hr.ge h h2
  have e3 := Option.some.inj e1
  omega
theorem toFlightS_any (B : Nat) (a : Oa) (n cap : Nat) (ks : List FlD) (w : World) (harg : ArgFlight w B a n ks) (hB : B ≤ w.heap.size) (hn : n ≤ 1048576) (hsm : ∀ k ∈ ks, FlLen k) :
  Calls Tryz.prog 16 #[.slice a n cap] w fun e w' => FlightIs ks w e w' := by
 obtain ⟨i0, hi, hz0, hz1, hz2⟩ := info_parts infoFlight
 obtain ⟨M, hM⟩ : ∃ M, M = madeCells (Value.agg #[.int .i64 0, .string ⟨#[]⟩, .slice none 0 0, .string ⟨#[]⟩, .slice none 0 0, .string ⟨#[]⟩, .slice none 0 0, .slice none 0 0, .int .i64 0, .slice none 0 0, .string ⟨#[]⟩, .int .i64 0, .bool false]).cells (((n : Nat) : Int).toNat * i0.size) := ⟨_, rfl⟩
 have hmk : ∀ W : World, (Instr.makeSlice 44 (.int .i64 (n : Int)) (.int .i64 (n : Int))).run Tryz.prog W = .ok (.slice (some ⟨W.heap.size, 0, none⟩) n n) (W.alloc (.cells M 101)) := fun W => by
  have h := run_make (P := Tryz.prog) W 44 101 i0 (.agg #[.int .i64 0, .string ⟨#[]⟩, .slice none 0 0, .string ⟨#[]⟩, .slice none 0 0, .string ⟨#[]⟩, .slice none 0 0, .slice none 0 0, .int .i64 0, .slice none 0 0, .string ⟨#[]⟩, .int .i64 0, .bool false]) Tryz.underlying44 hi hz0 .i64 .i64 (n : Int) (n : Int) (by omega) (by omega) (by rw [hz2]; omega) (by omega)
  rw [← hM] at h
  simpa using h
 have hMs : M.size = n * 13 := by rw [hM, size_madeCells, hz1]; simp
 have HLN : Hid (ks.length = n) := harg.1
 have HSM := hid hsm
 have HA : Hid (∀ W, Below w.heap.size w W → ArgFlight W B a n ks) := fun W h => harg.below (h.mono hB)
 have HBB : Hid (∀ W, Below w.heap.size w W → B ≤ W.heap.size) := fun W h => Nat.le_trans hB h.size
 clear hM harg hsm hB
 obtain ⟨g, hg⟩ := exq (w.heap.size)
 have HG : Hid (w.heap.size = g) := hg.symm
 have HP : Hid (([] : List FlV).length = 0 ∧ ([] : List FlV).map (·.d) = ks.take 0 ∧ PartO flC 13 101 (w.alloc (.cells M 101)) g n [] ∧ RowsO (w.alloc (.cells M 101)) (g + 1) (([] : List FlV).flatMap flR)) := ⟨rfl, by simp, ⟨M, by rw [hg]; exact heap_alloc_new w _, hMs, fun i h => absurd h (by simp)⟩, RowsO.nil _ _⟩
 have HPB : Hid (Below w.heap.size w (w.alloc (.cells M 101))) := (Below.refl _ _).alloc (Nat.le_refl _) _
 go_enter Tryz.func16, Tryz.ntmps16
 go_wp2
 rw [HG.out]
 clear hg hMs
 go_loopw [4] (fun i wr => ∃ (k : Nat) (kv : List FlV), k ≤ n ∧ i = .int .i64 (k : Int) ∧ Hid (kv.length = k ∧ kv.map (·.d) = ks.take k ∧ PartO flC 13 101 wr g n kv ∧ RowsO wr (g + 1) (kv.flatMap flR)) ∧ Hid (Below w.heap.size w wr)) (fun i _ => n - (intOf i).toNat)
 case atStart => exact ⟨0, [], Nat.zero_le _, rfl, HP, HPB⟩
 case round =>
  obtain ⟨k, kv, hk, rfl, hpr, HBW⟩ := hrel
  by_cases hlt : k < n
  rotate_left
  ·obtain rfl : k = n := by omega
   obtain ⟨q1, q2, q3, q4⟩ := hpr.out
   have HF : Hid (kv.map (·.d) = ks ∧ FlsO wr w.heap.size (.slice (some ⟨g, 0, none⟩) k k) kv) := by
    refine ⟨?_, parts_Flight q3 q1 (by unfold maxLen; omega) (by rw [HG.out]; exact Nat.le_refl _) q4⟩
    rw [q2, List.take_of_length_le (by rw [HLN.out]; exact Nat.le_refl _)]
   clear q1 q2 q3 q4
   go_wp2
   go_ret
   exact ⟨_, kv, rfl, HF.out.1, HF.out.2, HBW.out⟩
  have hlt2 : (k : Int) < (n : Int) := by omega
  obtain ⟨b, off, rfl, hbB, a2, c2, a4, c4, a6, c6, a7, c7, a9, c9, ⟨r0, r1, r2, r3, r4, r5, r6, r7, r8, r9, r10, r11, r12⟩, g2, g4, g6, g7, g9⟩ := (HA.out wr HBW.out).2 k hlt
  obtain ⟨y, hy⟩ := exq (flAt ks k)
  have HM : Hid (y ∈ ks) := by show _ ∈ _; rw [hy]; exact getD_mem0 _ ks k (by rw [HLN.out]; exact hlt)
  have HTK : Hid (ks.take (k + 1) = ks.take k ++ [y]) := by show _ = _; rw [hy]; exact getD_take0 _ ks k (by rw [HLN.out]; exact hlt)
  rw [← hy] at r0 r1 r2 r3 r4 r5 r6 r7 r8 r9 r10 r11 r12 g2 g4 g6 g7 g9
  have HG2 := hid g2
  have HG4 := hid g4
  have HG6 := hid g6
  have HG7 := hid g7
  have HG9 := hid g9
  clear hy g2 g4 g6 g7 g9
  go_wp2_with fail
  skip
  refine (toFlight_any y a2 c2 a4 c4 a6 c6 a7 c7 a9 c9 B _ HG2.out HG4.out HG6.out HG7.out HG9.out (HBB.out _ HBW.out) (HSM.out y HM.out)).mono ?_
  rintro e w1 ⟨⟨xd, v2, v4, v6, v7, v9⟩, rfl, hxd, hrows, bw⟩
  clear r0 r1 r2 r3 r4 r5 r6 r7 r8 r9 r10 r11 r12
  obtain rfl : xd = y := hxd
  obtain ⟨o2, p2, hv⟩ := slice_of_owns (hrows.own (⟨185, 2, v2, xd.qfs.length, flatF xd.qfs⟩ : Rw) (by simp [flR]))
  obtain rfl : v2 = .slice o2 xd.qfs.length p2 := hv
  obtain ⟨o4, p4, hv⟩ := slice_of_owns (hrows.own (⟨3, 1, v4, xd.who.length, xd.who.map (Value.int .i64)⟩ : Rw) (by simp [flR]))
  obtain rfl : v4 = .slice o4 xd.who.length p4 := hv
  obtain ⟨o6, p6, hv⟩ := slice_of_owns (hrows.own (⟨9, 1, v6, xd.oxs.length, xd.oxs.map Value.string⟩ : Rw) (by simp [flR]))
  obtain rfl : v6 = .slice o6 xd.oxs.length p6 := hv
  obtain ⟨o7, p7, hv⟩ := slice_of_owns (hrows.own (⟨9, 1, v7, xd.oys.length, xd.oys.map Value.string⟩ : Rw) (by simp [flR]))
  obtain rfl : v7 = .slice o7 xd.oys.length p7 := hv
  obtain ⟨o9, p9, hv⟩ := slice_of_owns (hrows.own (⟨185, 2, v9, xd.ofs.length, flatF xd.ofs⟩ : Rw) (by simp [flR]))
  obtain rfl : v9 = .slice o9 xd.ofs.length p9 := hv
  obtain ⟨x, hx⟩ : ∃ x : FlV, x = ⟨xd, .slice o2 xd.qfs.length p2, .slice o4 xd.who.length p4, .slice o6 xd.oxs.length p6, .slice o7 xd.oys.length p7, .slice o9 xd.ofs.length p9⟩ := ⟨_, rfl⟩
  rw [← hx] at hrows
  obtain ⟨q1, q2, q3, q4⟩ := hpr.out
  have hgl : g < wr.heap.size := q3.lt
  have HB2 : Hid (Below w.heap.size w w1) := HBW.out.trans (bw.mono HBW.out.size)
  have hpr1 := q3.below bw
  have hall : RowsO w1 (g + 1) (kv.flatMap flR ++ flR x) := q4.more bw hrows (Nat.le_refl _) hgl
  have HALL : Hid ((kv ++ [x]).length = k + 1 ∧ (kv ++ [x]).map (·.d) = ks.take (k + 1) ∧ PartO flC 13 101 (setW w1 g (k * 13) (flC x)) g n (kv ++ [x]) ∧ RowsO (setW w1 g (k * 13) (flC x)) (g + 1) ((kv ++ [x]).flatMap flR)) := by
   refine ⟨by rw [List.length_append, q1]; rfl, by rw [List.map_append, q2, HTK.out, hx]; rfl, ?_, ?_⟩
   ·have h := hpr1.put flC_len x (by omega)
    rw [q1] at h
    exact h
   ·rw [List.flatMap_append]
    have h2 : RowsO (setW w1 g (k * 13) (flC x)) (g + 1) (kv.flatMap flR ++ flR x) := hall.same (fun r hr j hj => setW_other g j (by have := hall.ge hr hj; omega) _ _ _)
    simpa using h2
  have HBE : Hid (Below w.heap.size w (setW w1 g (k * 13) (flC x))) := setW_below (by rw [HG.out]; exact Nat.le_refl _) _ _ _ _ HB2.out
  rw [hx] at HALL HBE
  obtain ⟨u0, hu0⟩ := hpr1.cell (k * 13) (by omega)
  have f0 := hpr1.frozen (k * 13)
  obtain ⟨u1, hu1⟩ := hpr1.cell (k * 13 + 1) (by omega)
  have f1 := hpr1.frozen (k * 13 + 1)
  obtain ⟨u2, hu2⟩ := hpr1.cell (k * 13 + 2) (by omega)
  have f2 := hpr1.frozen (k * 13 + 2)
  obtain ⟨u3, hu3⟩ := hpr1.cell (k * 13 + 3) (by omega)
  have f3 := hpr1.frozen (k * 13 + 3)
  obtain ⟨u4, hu4⟩ := hpr1.cell (k * 13 + 4) (by omega)
  have f4 := hpr1.frozen (k * 13 + 4)
  obtain ⟨u5, hu5⟩ := hpr1.cell (k * 13 + 5) (by omega)
  have f5 := hpr1.frozen (k * 13 + 5)
  obtain ⟨u6, hu6⟩ := hpr1.cell (k * 13 + 6) (by omega)
  have f6 := hpr1.frozen (k * 13 + 6)
  obtain ⟨u7, hu7⟩ := hpr1.cell (k * 13 + 7) (by omega)
  have f7 := hpr1.frozen (k * 13 + 7)
  obtain ⟨u8, hu8⟩ := hpr1.cell (k * 13 + 8) (by omega)
  have f8 := hpr1.frozen (k * 13 + 8)
  obtain ⟨u9, hu9⟩ := hpr1.cell (k * 13 + 9) (by omega)
  have f9 := hpr1.frozen (k * 13 + 9)
  obtain ⟨u10, hu10⟩ := hpr1.cell (k * 13 + 10) (by omega)
  have f10 := hpr1.frozen (k * 13 + 10)
  obtain ⟨u11, hu11⟩ := hpr1.cell (k * 13 + 11) (by omega)
  have f11 := hpr1.frozen (k * 13 + 11)
  obtain ⟨u12, hu12⟩ := hpr1.cell (k * 13 + 12) (by omega)
  have f12 := hpr1.frozen (k * 13 + 12)
  clear hpr1 hall hrows hx q1 q2 q3 q4 bw hpr
  go_wp2
  go_roundw
  case rel => exact ⟨k + 1, _, by omega, by go_num, HALL, HBE⟩
  case measure => simp [intOf]; omega
theorem eqFlightS_any (V1 V2 : Value) (kv1 kv2 : List FlV) (B1 B2 : Nat) (w : World) (he : kv1.map (·.d) = kv2.map (·.d)) (h1 : FlsO w B1 V1 kv1) (h2 : FlsO w B2 V2 kv2) (hn : kv1.length ≤ 2000000) (hs : ∀ x ∈ kv1, FlLim x.d) :
  Calls Tryz.prog 22 #[V1, V2] w fun e w' => e = .returned (.bool true) ∧ Below w.heap.size w w' := by
 have hlen : kv2.length = kv1.length := by have := congrArg List.length he; simpa using this.symm
 obtain ⟨n, hnn⟩ := exq kv1.length
 obtain ⟨o1, c1, e1⟩ := h1.len
 obtain ⟨o2, c2, e2⟩ := h2.len
 rw [← hnn] at e1 hn
 rw [hlen, ← hnn] at e2
 subst e1 e2
 have HL1 : Hid (kv1.length = n) := hnn.symm
 have HL2 : Hid (kv2.length = n) := hlen.trans hnn.symm
 have HE := hid he
 have HS := hid hs
 have H1 : Hid (∀ W, Below w.heap.size w W → FlsO W B1 (.slice o1 n c1) kv1) := fun W h => h1.below h
 have H2 : Hid (∀ W, Below w.heap.size w W → FlsO W B2 (.slice o2 n c2) kv2) := fun W h => h2.below h
 clear h1 h2 hlen hnn he hs
 go_enter Tryz.func22, Tryz.ntmps22
 go_wp2
 go_loopw [5] (fun i wr => ∃ k : Nat, k ≤ n ∧ i = .int .i64 (k : Int) ∧ Hid (Below w.heap.size w wr)) (fun i _ => n - (intOf i).toNat)
 case atStart => exact ⟨0, Nat.zero_le _, rfl, Below.refl _ _⟩
 case round =>
  obtain ⟨k, hk, rfl, HBW⟩ := hrel
  by_cases hlt : k < n
  rotate_left
  ·go_wp2
   go_ret
   exact ⟨rfl, HBW.out⟩
  have hlt2 : (k : Int) < (n : Int) := by omega
  obtain ⟨g1, cp1, ev1, hg1, at1⟩ := (H1.out wr HBW.out).at k (by rw [HL1.out]; exact hlt)
  obtain ⟨g2, cp2, ev2, hg2, at2⟩ := (H2.out wr HBW.out).at k (by rw [HL2.out]; exact hlt)
  obtain rfl : o1 = some ⟨g1, 0, none⟩ := (Value.slice.inj ev1).1
  obtain rfl : o2 = some ⟨g2, 0, none⟩ := (Value.slice.inj ev2).1
  have exy : (kv1[k]'(by rw [HL1.out]; exact hlt)).d = (kv2[k]'(by rw [HL2.out]; exact hlt)).d := by
   have h := congrArg (fun l : List FlD => l[k]?) HE.out
   simpa [List.getElem?_map, List.getElem?_eq_getElem (show k < kv1.length by rw [HL1.out]; exact hlt), List.getElem?_eq_getElem (show k < kv2.length by rw [HL2.out]; exact hlt)] using h
  have m1 : kv1[k]'(by rw [HL1.out]; exact hlt) ∈ kv1 := List.getElem_mem _
  have m2 : kv2[k]'(by rw [HL2.out]; exact hlt) ∈ kv2 := List.getElem_mem _
  generalize kv1[k]'(by rw [HL1.out]; exact hlt) = x at at1 exy m1
  generalize kv2[k]'(by rw [HL2.out]; exact hlt) = y at at2 exy m2
  have HXY : Hid (x.d = y.d) := exy
  have HO1 : Hid (∀ W, Below wr.heap.size wr W → RowsO W B1 (flR x)) := fun W h => ((H1.out wr HBW.out).below h).item m1
  have HO2 : Hid (∀ W, Below wr.heap.size wr W → RowsO W B2 (flR y)) := fun W h => ((H2.out wr HBW.out).below h).item m2
  have HSZ : Hid (FlLim x.d) := HS.out _ m1
  have a0 := at1.c0
  have a1 := at1.c1
  have a2 := at1.c2
  have a3 := at1.c3
  have a4 := at1.c4
  have a5 := at1.c5
  have a6 := at1.c6
  have a7 := at1.c7
  have a8 := at1.c8
  have a9 := at1.c9
  have a10 := at1.c10
  have a11 := at1.c11
  have a12 := at1.c12
  have b0 := at2.c0
  have b1 := at2.c1
  have b2 := at2.c2
  have b3 := at2.c3
  have b4 := at2.c4
  have b5 := at2.c5
  have b6 := at2.c6
  have b7 := at2.c7
  have b8 := at2.c8
  have b9 := at2.c9
  have b10 := at2.c10
  have b11 := at2.c11
  have b12 := at2.c12
  clear at1 at2 m1 m2 ev1 ev2 exy
  have HA : Hid (∀ w0 w1, Below wr.heap.size wr w0 → Below w0.heap.size w0 w1 → (w1.cell? ⟨g1, k * 13, none⟩ = some (.int .i64 x.d.qmt) ∧ w1.cell? ⟨g1, k * 13 + 1, none⟩ = some (.string x.d.qpa) ∧ w1.cell? ⟨g1, k * 13 + 2, none⟩ = some (x.v2) ∧ w1.cell? ⟨g1, k * 13 + 3, none⟩ = some (.string x.d.qbd) ∧ w1.cell? ⟨g1, k * 13 + 4, none⟩ = some (x.v4) ∧ w1.cell? ⟨g1, k * 13 + 5, none⟩ = some (.string x.d.opa) ∧ w1.cell? ⟨g1, k * 13 + 6, none⟩ = some (x.v6) ∧ w1.cell? ⟨g1, k * 13 + 7, none⟩ = some (x.v7) ∧ w1.cell? ⟨g1, k * 13 + 8, none⟩ = some (.int .i64 x.d.ost) ∧ w1.cell? ⟨g1, k * 13 + 9, none⟩ = some (x.v9) ∧ w1.cell? ⟨g1, k * 13 + 10, none⟩ = some (.string x.d.obd) ∧ w1.cell? ⟨g1, k * 13 + 11, none⟩ = some (.int .i64 x.d.otm) ∧ w1.cell? ⟨g1, k * 13 + 12, none⟩ = some (.bool x.d.has) ∧ w1.cell? ⟨g2, k * 13, none⟩ = some (.int .i64 y.d.qmt) ∧ w1.cell? ⟨g2, k * 13 + 1, none⟩ = some (.string y.d.qpa) ∧ w1.cell? ⟨g2, k * 13 + 2, none⟩ = some (y.v2) ∧ w1.cell? ⟨g2, k * 13 + 3, none⟩ = some (.string y.d.qbd) ∧ w1.cell? ⟨g2, k * 13 + 4, none⟩ = some (y.v4) ∧ w1.cell? ⟨g2, k * 13 + 5, none⟩ = some (.string y.d.opa) ∧ w1.cell? ⟨g2, k * 13 + 6, none⟩ = some (y.v6) ∧ w1.cell? ⟨g2, k * 13 + 7, none⟩ = some (y.v7) ∧ w1.cell? ⟨g2, k * 13 + 8, none⟩ = some (.int .i64 y.d.ost) ∧ w1.cell? ⟨g2, k * 13 + 9, none⟩ = some (y.v9) ∧ w1.cell? ⟨g2, k * 13 + 10, none⟩ = some (.string y.d.obd) ∧ w1.cell? ⟨g2, k * 13 + 11, none⟩ = some (.int .i64 y.d.otm) ∧ w1.cell? ⟨g2, k * 13 + 12, none⟩ = some (.bool y.d.has)) ∧ Below wr.heap.size wr w1) := fun w0 w1 h h' => by
   have hx := h.trans (h'.mono h.size)
   exact ⟨⟨by rw [hx.cell (p := ⟨g1, k * 13, none⟩) hg1]; exact a0, by rw [hx.cell (p := ⟨g1, k * 13 + 1, none⟩) hg1]; exact a1, by rw [hx.cell (p := ⟨g1, k * 13 + 2, none⟩) hg1]; exact a2, by rw [hx.cell (p := ⟨g1, k * 13 + 3, none⟩) hg1]; exact a3, by rw [hx.cell (p := ⟨g1, k * 13 + 4, none⟩) hg1]; exact a4, by rw [hx.cell (p := ⟨g1, k * 13 + 5, none⟩) hg1]; exact a5, by rw [hx.cell (p := ⟨g1, k * 13 + 6, none⟩) hg1]; exact a6, by rw [hx.cell (p := ⟨g1, k * 13 + 7, none⟩) hg1]; exact a7, by rw [hx.cell (p := ⟨g1, k * 13 + 8, none⟩) hg1]; exact a8, by rw [hx.cell (p := ⟨g1, k * 13 + 9, none⟩) hg1]; exact a9, by rw [hx.cell (p := ⟨g1, k * 13 + 10, none⟩) hg1]; exact a10, by rw [hx.cell (p := ⟨g1, k * 13 + 11, none⟩) hg1]; exact a11, by rw [hx.cell (p := ⟨g1, k * 13 + 12, none⟩) hg1]; exact a12, by rw [hx.cell (p := ⟨g2, k * 13, none⟩) hg2]; exact b0, by rw [hx.cell (p := ⟨g2, k * 13 + 1, none⟩) hg2]; exact b1, by rw [hx.cell (p := ⟨g2, k * 13 + 2, none⟩) hg2]; exact b2, by rw [hx.cell (p := ⟨g2, k * 13 + 3, none⟩) hg2]; exact b3, by rw [hx.cell (p := ⟨g2, k * 13 + 4, none⟩) hg2]; exact b4, by rw [hx.cell (p := ⟨g2, k * 13 + 5, none⟩) hg2]; exact b5, by rw [hx.cell (p := ⟨g2, k * 13 + 6, none⟩) hg2]; exact b6, by rw [hx.cell (p := ⟨g2, k * 13 + 7, none⟩) hg2]; exact b7, by rw [hx.cell (p := ⟨g2, k * 13 + 8, none⟩) hg2]; exact b8, by rw [hx.cell (p := ⟨g2, k * 13 + 9, none⟩) hg2]; exact b9, by rw [hx.cell (p := ⟨g2, k * 13 + 10, none⟩) hg2]; exact b10, by rw [hx.cell (p := ⟨g2, k * 13 + 11, none⟩) hg2]; exact b11, by rw [hx.cell (p := ⟨g2, k * 13 + 12, none⟩) hg2]; exact b12⟩, hx⟩
  go_wp2
  go_region_held3 (fun w' => w'.cell? ⟨g1, k * 13, none⟩ = some (.int .i64 x.d.qmt) ∧ w'.cell? ⟨g1, k * 13 + 1, none⟩ = some (.string x.d.qpa) ∧ w'.cell? ⟨g1, k * 13 + 2, none⟩ = some (x.v2) ∧ w'.cell? ⟨g1, k * 13 + 3, none⟩ = some (.string x.d.qbd) ∧ w'.cell? ⟨g1, k * 13 + 4, none⟩ = some (x.v4) ∧ w'.cell? ⟨g1, k * 13 + 5, none⟩ = some (.string x.d.opa) ∧ w'.cell? ⟨g1, k * 13 + 6, none⟩ = some (x.v6) ∧ w'.cell? ⟨g1, k * 13 + 7, none⟩ = some (x.v7) ∧ w'.cell? ⟨g1, k * 13 + 8, none⟩ = some (.int .i64 x.d.ost) ∧ w'.cell? ⟨g1, k * 13 + 9, none⟩ = some (x.v9) ∧ w'.cell? ⟨g1, k * 13 + 10, none⟩ = some (.string x.d.obd) ∧ w'.cell? ⟨g1, k * 13 + 11, none⟩ = some (.int .i64 x.d.otm) ∧ w'.cell? ⟨g1, k * 13 + 12, none⟩ = some (.bool x.d.has) ∧ w'.cell? ⟨g2, k * 13, none⟩ = some (.int .i64 y.d.qmt) ∧ w'.cell? ⟨g2, k * 13 + 1, none⟩ = some (.string y.d.qpa) ∧ w'.cell? ⟨g2, k * 13 + 2, none⟩ = some (y.v2) ∧ w'.cell? ⟨g2, k * 13 + 3, none⟩ = some (.string y.d.qbd) ∧ w'.cell? ⟨g2, k * 13 + 4, none⟩ = some (y.v4) ∧ w'.cell? ⟨g2, k * 13 + 5, none⟩ = some (.string y.d.opa) ∧ w'.cell? ⟨g2, k * 13 + 6, none⟩ = some (y.v6) ∧ w'.cell? ⟨g2, k * 13 + 7, none⟩ = some (y.v7) ∧ w'.cell? ⟨g2, k * 13 + 8, none⟩ = some (.int .i64 y.d.ost) ∧ w'.cell? ⟨g2, k * 13 + 9, none⟩ = some (y.v9) ∧ w'.cell? ⟨g2, k * 13 + 10, none⟩ = some (.string y.d.obd) ∧ w'.cell? ⟨g2, k * 13 + 11, none⟩ = some (.int .i64 y.d.otm) ∧ w'.cell? ⟨g2, k * 13 + 12, none⟩ = some (.bool y.d.has)) (first | assumption | go_keep) (first | (go_at_call 54; refine (eqFlight_any x.d x y B1 B2 _ rfl HXY.out.symm (HO1.out _ ((Below.refl _ wr).drew)) (HO2.out _ ((Below.refl _ wr).drew)) HSZ.out).mono ?_; rintro e w1 ⟨rfl, hb1⟩; obtain ⟨hcc, hbx⟩ := HA.out _ w1 ((Below.refl _ wr).drew) hb1))
  go_wp2
  go_roundw
  case rel => exact ⟨k + 1, by omega, by go_num, HBW.out.trans (hbx.mono HBW.out.size)⟩
  case measure => simp [intOf]; omega
structure SeD where
 qmt : Int
 qpa : ByteArray
 qfs : Fs
 qbd : ByteArray
 rst : Int
 rfs : Fs
 rbd : ByteArray
 tim : Int
structure SeV where
 d : SeD
 v2 : Value
 v5 : Value
def zeroSe : SeD := ⟨0, ⟨#[]⟩, [], ⟨#[]⟩, 0, [], ⟨#[]⟩, 0⟩
def seAt (ks : List SeD) (i : Nat) : SeD := ks.getD i zeroSe
def zeroSeV : SeV := ⟨zeroSe, .slice none 0 0, .slice none 0 0⟩
def sevAt (kv : List SeV) (i : Nat) : SeV := kv.getD i zeroSeV
def seC (x : SeV) : List Value := [.int .i64 x.d.qmt, .string x.d.qpa, x.v2, .string x.d.qbd, .int .i64 x.d.rst, x.v5, .string x.d.rbd, .int .i64 x.d.tim]
theorem seC_len (x : SeV) : (seC x).length = 8 := rfl
def seR (x : SeV) : List Rw := [(⟨185, 2, x.v2, x.d.qfs.length, flatF x.d.qfs⟩ : Rw), (⟨185, 2, x.v5, x.d.rfs.length, flatF x.d.rfs⟩ : Rw)]
def seRow (V : Value) (kv : List SeV) : Rw := ⟨118, 8, V, kv.length, kv.flatMap seC⟩
def seAll (V : Value) (kv : List SeV) : List Rw := seRow V kv :: kv.flatMap seR
def SesO (w : World) (base : Nat) (V : Value) (kv : List SeV) : Prop := RowsO w base (seAll V kv)
theorem SesO.row {w : World} {base : Nat} {V : Value} {kv : List SeV} (h : SesO w base V kv) : w.ownsRow base 118 8 V kv.length (kv.flatMap seC) := h.own (seRow V kv) (by simp [seAll])
theorem SesO.len {w : World} {base : Nat} {V : Value} {kv : List SeV} (h : SesO w base V kv) : ∃ oa cp, V = .slice oa kv.length cp := slice_of_owns h.row
theorem SesO.below {w w' : World} {base : Nat} {V : Value} {kv : List SeV} (h : SesO w base V kv) (hb : Below w.heap.size w w') : SesO w' base V kv := RowsO.below h hb
theorem SesO.item {w : World} {base : Nat} {V : Value} {kv : List SeV} (h : SesO w base V kv) {x : SeV} (hx : x ∈ kv) : RowsO w base (seR x) := by
 obtain ⟨s, t, e⟩ := List.append_of_mem hx
 refine RowsO.sub h ?_
 unfold seAll
 rw [e, List.flatMap_append, List.flatMap_cons]
 exact ((List.sublist_append_left _ _).trans (List.sublist_append_right _ _)).trans (List.sublist_cons_self _ _)
theorem seR_T {x : SeV} {r : Rw} (h : r ∈ seR x) : r.T = 185 := by
 simp only [seR, List.mem_cons, List.not_mem_nil, or_false] at h
 rcases h with rfl | rfl <;> simp
structure SeAt (w : World) (g i : Nat) (x : SeV) : Prop where
 c0 : w.cell? ⟨g, i * 8, none⟩ = some (.int .i64 x.d.qmt)
 c1 : w.cell? ⟨g, i * 8 + 1, none⟩ = some (.string x.d.qpa)
 c2 : w.cell? ⟨g, i * 8 + 2, none⟩ = some (x.v2)
 c3 : w.cell? ⟨g, i * 8 + 3, none⟩ = some (.string x.d.qbd)
 c4 : w.cell? ⟨g, i * 8 + 4, none⟩ = some (.int .i64 x.d.rst)
 c5 : w.cell? ⟨g, i * 8 + 5, none⟩ = some (x.v5)
 c6 : w.cell? ⟨g, i * 8 + 6, none⟩ = some (.string x.d.rbd)
 c7 : w.cell? ⟨g, i * 8 + 7, none⟩ = some (.int .i64 x.d.tim)
theorem SesO.at {w : World} {base : Nat} {V : Value} {kv : List SeV} (h : SesO w base V kv) (i : Nat) (hi : i < kv.length) : ∃ g cap, V = .slice (some ⟨g, 0, none⟩) kv.length cap ∧ g < w.heap.size ∧ SeAt w g i (kv[i]'hi) := by
 have hr := h.row
 rcases hr.2 with ⟨_, h0⟩ | ⟨g, cap, cur, rfl, _, h1, _⟩
 · omega
 ·have key : ∀ j, j < 8 → ∀ u, (seC (kv[i]'hi))[j]? = some u → w.cell? ⟨g, i * 8 + j, none⟩ = some u := fun j hj u hu => (owns_cellC hr (i * 8 + j) u (by rw [items_at seC 8 seC_len kv i j hi hj]; exact hu)).1
  exact ⟨g, cap, rfl, (blt h1), ⟨key 0 (by decide) _ rfl, key 1 (by decide) _ rfl, key 2 (by decide) _ rfl, key 3 (by decide) _ rfl, key 4 (by decide) _ rfl, key 5 (by decide) _ rfl, key 6 (by decide) _ rfl, key 7 (by decide) _ rfl⟩⟩
theorem SesO.look {w : World} {base : Nat} {V : Value} {kv : List SeV} (h : SesO w base V kv) (i : Nat) (hi : i < kv.length) : ∃ g cap, V = .slice (some ⟨g, 0, none⟩) kv.length cap ∧ g < w.heap.size ∧ SeAt w g i (sevAt kv i) := by
 have h2 := h.at i hi
 have e : sevAt kv i = kv[i]'hi := by
  unfold sevAt
  rw [List.getD_eq_getElem?_getD, List.getElem?_eq_getElem hi]
  rfl
 rw [e]
 exact h2
structure SeLen (d : SeD) : Prop where
 qfs : d.qfs.length ≤ 1048576
 rfs : d.rfs.length ≤ 1048576
theorem toSeen_any (d : SeD) (a2 : Oa) (c2 : Nat) (a5 : Oa) (c5 : Nat) (B : Nat) (w : World) (h2 : ArgF w B a2 d.qfs.length d.qfs) (h5 : ArgF w B a5 d.rfs.length d.rfs) (hB : B ≤ w.heap.size) (hn : SeLen d) :
  Calls Tryz.prog 46 #[.agg #[.int .i64 d.qmt, .string d.qpa, .slice a2 d.qfs.length c2, .string d.qbd, .int .i64 d.rst, .slice a5 d.rfs.length c5, .string d.rbd, .int .i64 d.tim]] w fun e w' => ∃ x : SeV, e = .returned (.agg #[.int .i64 x.d.qmt, .string x.d.qpa, x.v2, .string x.d.qbd, .int .i64 x.d.rst, x.v5, .string x.d.rbd, .int .i64 x.d.tim]) ∧ x.d = d ∧ RowsO w' w.heap.size (seR x) ∧ Below w.heap.size w w' := by
 have HA2 : Hid (∀ W, Below w.heap.size w W → ArgF W B a2 d.qfs.length d.qfs) := fun W h => h2.below (h.mono hB)
 have HA5 : Hid (∀ W, Below w.heap.size w W → ArgF W B a5 d.rfs.length d.rfs) := fun W h => h5.below (h.mono hB)
 have HBB : Hid (∀ W, Below w.heap.size w W → B ≤ W.heap.size) := fun W h => Nat.le_trans hB h.size
 clear h2 h5
 have hb0 := Below.refl w.heap.size w
 go_enter Tryz.func46, Tryz.ntmps46
 go_upto_region 1 with fail
 obtain ⟨q1, hq1⟩ := exq (w.heap.size)
 obtain ⟨w1, hW1⟩ := exq (w.alloc (.cells #[.int .i64 d.qmt, .string d.qpa, .slice a2 d.qfs.length c2, .string d.qbd, .int .i64 d.rst, .slice a5 d.rfs.length c5, .string d.rbd, .int .i64 d.tim] 94))
 have hz1 := hq1.symm
 rw [← hW1]; try rw [← hq1]
 have hs1 := hsa hW1 hz1
 have bw := bal hW1
 have hb1 := hbt hb0 bw
 have B1_1 := hnew hW1 hz1
 clear hb0 bw hW1 hz1
 obtain ⟨q2, hq2⟩ := exq (q1 + 1)
 obtain ⟨w2, hW2⟩ := exq (w1.alloc (.cells #[.int .i64 0, .string ⟨#[]⟩, .slice none 0 0, .string ⟨#[]⟩, .int .i64 0, .slice none 0 0, .string ⟨#[]⟩, .int .i64 0] 118))
 have hz2 : w1.heap.size = q2 := by rw [hq2]; exact hs1
 rw [← hW2]; try rw [← hq2]
 have hs2 := hsa hW2 hz2
 have bw := bal hW2
 have hb2 := hbt hb1 bw
 have B1_2 := hblk B1_1 bw
 have Nv1v2 := hnq B1_1 hz2
 have B2_2 := hnew hW2 hz2
 have Gv2 := hge hz2 hb1
 clear hb1 bw hW2 hz2
 clear hs2 hq2 hs1 hq1
 go_upto_region 2 with fail
 obtain ⟨q3, hq3⟩ := exq (w2.heap.size)
 obtain ⟨w3, hW3⟩ := exq (w2.alloc (.cells #[.int .i64 0, .string ⟨#[]⟩, .slice none 0 0, .string ⟨#[]⟩, .int .i64 0, .slice none 0 0, .string ⟨#[]⟩, .int .i64 0] 118))
 have hz3 := hq3.symm
 rw [← hW3]; try rw [← hq3]
 have hs3 := hsa hW3 hz3
 have bw := bal hW3
 have hb3 := hbt hb2 bw
 have B1_3 := hblk B1_2 bw
 have B2_3 := hblk B2_2 bw
 have Nv1v3 := hnq B1_2 hz3
 have Nv2v3 := hnq B2_2 hz3
 have B3_3 := hnew hW3 hz3
 have Gv3 := hge hz3 hb2
 clear hb2 bw hW3 hz3
 clear hs3 hq3
 have c1_0 := (k8c B1_3).1
 have c1_1 := (k8c B1_3).2.1
 have c1_2 := (k8c B1_3).2.2.1
 have c1_3 := (k8c B1_3).2.2.2.1
 go_wp2_with fail
 refine (toReq_any d.qmt d.qpa a2 d.qfs.length c2 d.qbd d.qfs B _ (HA2.out _ hb3) (HBB.out _ hb3) hn.qfs).mono ?_
 rintro e w4 ⟨vv, rfl, hown, bw⟩
 obtain ⟨o2, p2, rfl⟩ := slice_of_owns hown
 have HRN : Hid (RowsO w4 w.heap.size ([(⟨185, 2, (.slice o2 d.qfs.length p2), d.qfs.length, flatF d.qfs⟩ : Rw)])) := RowsO.wide (RowsO.one (r := (⟨185, 2, (.slice o2 d.qfs.length p2), d.qfs.length, flatF d.qfs⟩ : Rw)) hown) hb3.size
 have HT1 : Hid (∀ r ∈ ([(⟨185, 2, (.slice o2 d.qfs.length p2), d.qfs.length, flatF d.qfs⟩ : Rw)]), 118 ≠ r.T) := by
  intro r hr
  simp only [List.mem_cons, List.not_mem_nil, or_false] at hr
  rcases hr with rfl
  · exact (by decide : (118 : TypeId) ≠ 185)
 clear hown
 have hb4 := hbt hb3 bw
 have B1_4 := hblk B1_3 bw
 have B2_4 := hblk B2_3 bw
 have B3_4 := hblk B3_3 bw
 clear hb3 bw
 have ER_4 := HRN
 clear HRN
 clear c1_0 c1_1 c1_2 c1_3
 have c3_0 := (k8c B3_4).1
 have f3_0 := hfz B3_4 0
 have c3_1 := (k8c B3_4).2.1
 have f3_1 := hfz B3_4 1
 have c3_2 := (k8c B3_4).2.2.1
 have f3_2 := hfz B3_4 2
 have c3_3 := (k8c B3_4).2.2.2.1
 have f3_3 := hfz B3_4 3
 go_upto_region 3 with fail
 obtain ⟨w5, hW5⟩ := exq (w4.setCell ⟨q3, 0, none⟩ (.int .i64 d.qmt))
 rw [← hW5]
 have hb5 := hbS hW5 hb4 Gv3
 have B1_5 := hset hW5 Nv1v3.out B1_4
 have B2_5 := hset hW5 Nv2v3.out B2_4
 have ER_5 := erS hW5 ER_4 B3_4 HT1.out
 have B3_5 := hput hW5 B3_4
 clear hb4 hW5
 obtain ⟨w6, hW6⟩ := exq (w5.setCell ⟨q3, 1, none⟩ (.string d.qpa))
 rw [← hW6]
 have hb6 := hbS hW6 hb5 Gv3
 have B1_6 := hset hW6 Nv1v3.out B1_5
 have B2_6 := hset hW6 Nv2v3.out B2_5
 have ER_6 := erS hW6 ER_5 B3_5 HT1.out
 have B3_6 := hput hW6 B3_5
 clear hb5 hW6
 obtain ⟨w7, hW7⟩ := exq (w6.setCell ⟨q3, 2, none⟩ (.slice o2 d.qfs.length p2))
 rw [← hW7]
 have hb7 := hbS hW7 hb6 Gv3
 have B1_7 := hset hW7 Nv1v3.out B1_6
 have B2_7 := hset hW7 Nv2v3.out B2_6
 have ER_7 := erS hW7 ER_6 B3_6 HT1.out
 have B3_7 := hput hW7 B3_6
 clear hb6 hW7
 obtain ⟨w8, hW8⟩ := exq (w7.setCell ⟨q3, 3, none⟩ (.string d.qbd))
 rw [← hW8]
 have hb8 := hbS hW8 hb7 Gv3
 have B1_8 := hset hW8 Nv1v3.out B1_7
 have B2_8 := hset hW8 Nv2v3.out B2_7
 have ER_8 := erS hW8 ER_7 B3_7 HT1.out
 have B3_8 := hput hW8 B3_7
 clear hb7 hW8
 clear c3_0 f3_0 c3_1 f3_1 c3_2 f3_2 c3_3 f3_3
 have c1_4 := (k8c B1_8).2.2.2.2.1
 have c1_5 := (k8c B1_8).2.2.2.2.2.1
 have c1_6 := (k8c B1_8).2.2.2.2.2.2.1
 go_wp2_with fail
 refine (toResp_any d.rst a5 d.rfs.length c5 d.rbd d.rfs B _ (HA5.out _ hb8) (HBB.out _ hb8) hn.rfs).mono ?_
 rintro e w9 ⟨vv, rfl, hown, bw⟩
 obtain ⟨o5, p5, rfl⟩ := slice_of_owns hown
 have HRN : Hid (RowsO w9 w.heap.size ([(⟨185, 2, (.slice o2 d.qfs.length p2), d.qfs.length, flatF d.qfs⟩ : Rw), (⟨185, 2, (.slice o5 d.rfs.length p5), d.rfs.length, flatF d.rfs⟩ : Rw)])) := ER_8.out.more bw (RowsO.one (r := (⟨185, 2, (.slice o5 d.rfs.length p5), d.rfs.length, flatF d.rfs⟩ : Rw)) hown) (Nat.le_refl _) hb8.size
 have HT2 : Hid (∀ r ∈ ([(⟨185, 2, (.slice o2 d.qfs.length p2), d.qfs.length, flatF d.qfs⟩ : Rw), (⟨185, 2, (.slice o5 d.rfs.length p5), d.rfs.length, flatF d.rfs⟩ : Rw)]), 118 ≠ r.T) := by
  intro r hr
  simp only [List.mem_cons, List.not_mem_nil, or_false] at hr
  rcases hr with rfl | rfl
  · exact (by decide : (118 : TypeId) ≠ 185)
  · exact (by decide : (118 : TypeId) ≠ 185)
 clear hown
 have hb9 := hbt hb8 bw
 have B1_9 := hblk B1_8 bw
 have B2_9 := hblk B2_8 bw
 have B3_9 := hblk B3_8 bw
 have ER_9 := hid (ER_8.out.below bw)
 clear hb8 bw
 clear ER_9
 have ER_9 := HRN
 clear HRN
 clear c1_4 c1_5 c1_6
 have c3_4 := (k8c B3_9).2.2.2.2.1
 have f3_4 := hfz B3_9 4
 have c3_5 := (k8c B3_9).2.2.2.2.2.1
 have f3_5 := hfz B3_9 5
 have c3_6 := (k8c B3_9).2.2.2.2.2.2.1
 have f3_6 := hfz B3_9 6
 go_upto_region 4 with fail
 obtain ⟨w10, hW10⟩ := exq (w9.setCell ⟨q3, 4, none⟩ (.int .i64 d.rst))
 rw [← hW10]
 have hb10 := hbS hW10 hb9 Gv3
 have B1_10 := hset hW10 Nv1v3.out B1_9
 have B2_10 := hset hW10 Nv2v3.out B2_9
 have ER_10 := erS hW10 ER_9 B3_9 HT2.out
 have B3_10 := hput hW10 B3_9
 clear hb9 hW10
 obtain ⟨w11, hW11⟩ := exq (w10.setCell ⟨q3, 5, none⟩ (.slice o5 d.rfs.length p5))
 rw [← hW11]
 have hb11 := hbS hW11 hb10 Gv3
 have B1_11 := hset hW11 Nv1v3.out B1_10
 have B2_11 := hset hW11 Nv2v3.out B2_10
 have ER_11 := erS hW11 ER_10 B3_10 HT2.out
 have B3_11 := hput hW11 B3_10
 clear hb10 hW11
 obtain ⟨w12, hW12⟩ := exq (w11.setCell ⟨q3, 6, none⟩ (.string d.rbd))
 rw [← hW12]
 have hb12 := hbS hW12 hb11 Gv3
 have B1_12 := hset hW12 Nv1v3.out B1_11
 have B2_12 := hset hW12 Nv2v3.out B2_11
 have ER_12 := erS hW12 ER_11 B3_11 HT2.out
 have B3_12 := hput hW12 B3_11
 clear hb11 hW12
 clear c3_4 f3_4 c3_5 f3_5 c3_6 f3_6
 have c1_7 := (k8c B1_12).2.2.2.2.2.2.2
 have c3_7 := (k8c B3_12).2.2.2.2.2.2.2
 have f3_7 := hfz B3_12 7
 go_upto_region 5 with fail
 obtain ⟨w13, hW13⟩ := exq (w12.setCell ⟨q3, 7, none⟩ (.int .i64 d.tim))
 rw [← hW13]
 have hb13 := hbS hW13 hb12 Gv3
 have B1_13 := hset hW13 Nv1v3.out B1_12
 have B2_13 := hset hW13 Nv2v3.out B2_12
 have ER_13 := erS hW13 ER_12 B3_12 HT2.out
 have B3_13 := hput hW13 B3_12
 clear hb12 hW13
 clear c1_7 c3_7 f3_7
 have c2_0 := (k8c B2_13).1
 have f2_0 := hfz B2_13 0
 have c2_1 := (k8c B2_13).2.1
 have f2_1 := hfz B2_13 1
 have c2_2 := (k8c B2_13).2.2.1
 have f2_2 := hfz B2_13 2
 have c2_3 := (k8c B2_13).2.2.2.1
 have f2_3 := hfz B2_13 3
 have c2_4 := (k8c B2_13).2.2.2.2.1
 have f2_4 := hfz B2_13 4
 have c2_5 := (k8c B2_13).2.2.2.2.2.1
 have f2_5 := hfz B2_13 5
 have c2_6 := (k8c B2_13).2.2.2.2.2.2.1
 have f2_6 := hfz B2_13 6
 have c2_7 := (k8c B2_13).2.2.2.2.2.2.2
 have f2_7 := hfz B2_13 7
 have c3_0 := (k8c B3_13).1
 have c3_1 := (k8c B3_13).2.1
 have c3_2 := (k8c B3_13).2.2.1
 have c3_3 := (k8c B3_13).2.2.2.1
 have c3_4 := (k8c B3_13).2.2.2.2.1
 have c3_5 := (k8c B3_13).2.2.2.2.2.1
 have c3_6 := (k8c B3_13).2.2.2.2.2.2.1
 have c3_7 := (k8c B3_13).2.2.2.2.2.2.2
 go_wp2_with fail
 obtain ⟨w14, hW14⟩ := exq (w13.setCell ⟨q2, 0, none⟩ (.int .i64 d.qmt))
 rw [← hW14]
 have hb14 := hbS hW14 hb13 Gv2
 have B1_14 := hset hW14 Nv1v2.out B1_13
 have B3_14 := hset hW14 Nv2v3.out.symm B3_13
 have ER_14 := erS hW14 ER_13 B2_13 HT2.out
 have B2_14 := hput hW14 B2_13
 clear hb13 hW14
 obtain ⟨w15, hW15⟩ := exq (w14.setCell ⟨q2, 1, none⟩ (.string d.qpa))
 rw [← hW15]
 have hb15 := hbS hW15 hb14 Gv2
 have B1_15 := hset hW15 Nv1v2.out B1_14
 have B3_15 := hset hW15 Nv2v3.out.symm B3_14
 have ER_15 := erS hW15 ER_14 B2_14 HT2.out
 have B2_15 := hput hW15 B2_14
 clear hb14 hW15
 obtain ⟨w16, hW16⟩ := exq (w15.setCell ⟨q2, 2, none⟩ (.slice o2 d.qfs.length p2))
 rw [← hW16]
 have hb16 := hbS hW16 hb15 Gv2
 have B1_16 := hset hW16 Nv1v2.out B1_15
 have B3_16 := hset hW16 Nv2v3.out.symm B3_15
 have ER_16 := erS hW16 ER_15 B2_15 HT2.out
 have B2_16 := hput hW16 B2_15
 clear hb15 hW16
 obtain ⟨w17, hW17⟩ := exq (w16.setCell ⟨q2, 3, none⟩ (.string d.qbd))
 rw [← hW17]
 have hb17 := hbS hW17 hb16 Gv2
 have B1_17 := hset hW17 Nv1v2.out B1_16
 have B3_17 := hset hW17 Nv2v3.out.symm B3_16
 have ER_17 := erS hW17 ER_16 B2_16 HT2.out
 have B2_17 := hput hW17 B2_16
 clear hb16 hW17
 obtain ⟨w18, hW18⟩ := exq (w17.setCell ⟨q2, 4, none⟩ (.int .i64 d.rst))
 rw [← hW18]
 have hb18 := hbS hW18 hb17 Gv2
 have B1_18 := hset hW18 Nv1v2.out B1_17
 have B3_18 := hset hW18 Nv2v3.out.symm B3_17
 have ER_18 := erS hW18 ER_17 B2_17 HT2.out
 have B2_18 := hput hW18 B2_17
 clear hb17 hW18
 obtain ⟨w19, hW19⟩ := exq (w18.setCell ⟨q2, 5, none⟩ (.slice o5 d.rfs.length p5))
 rw [← hW19]
 have hb19 := hbS hW19 hb18 Gv2
 have B1_19 := hset hW19 Nv1v2.out B1_18
 have B3_19 := hset hW19 Nv2v3.out.symm B3_18
 have ER_19 := erS hW19 ER_18 B2_18 HT2.out
 have B2_19 := hput hW19 B2_18
 clear hb18 hW19
 obtain ⟨w20, hW20⟩ := exq (w19.setCell ⟨q2, 6, none⟩ (.string d.rbd))
 rw [← hW20]
 have hb20 := hbS hW20 hb19 Gv2
 have B1_20 := hset hW20 Nv1v2.out B1_19
 have B3_20 := hset hW20 Nv2v3.out.symm B3_19
 have ER_20 := erS hW20 ER_19 B2_19 HT2.out
 have B2_20 := hput hW20 B2_19
 clear hb19 hW20
 obtain ⟨w21, hW21⟩ := exq (w20.setCell ⟨q2, 7, none⟩ (.int .i64 d.tim))
 rw [← hW21]
 have hb21 := hbS hW21 hb20 Gv2
 have B1_21 := hset hW21 Nv1v2.out B1_20
 have B3_21 := hset hW21 Nv2v3.out.symm B3_20
 have ER_21 := erS hW21 ER_20 B2_20 HT2.out
 have B2_21 := hput hW21 B2_20
 clear hb20 hW21
 have kv2_0 := (k8c B2_21).1
 have kv2_1 := (k8c B2_21).2.1
 have kv2_2 := (k8c B2_21).2.2.1
 have kv2_3 := (k8c B2_21).2.2.2.1
 have kv2_4 := (k8c B2_21).2.2.2.2.1
 have kv2_5 := (k8c B2_21).2.2.2.2.2.1
 have kv2_6 := (k8c B2_21).2.2.2.2.2.2.1
 have kv2_7 := (k8c B2_21).2.2.2.2.2.2.2
 refine bodyPost_ret (v := .agg #[.int .i64 d.qmt, .string d.qpa, .slice o2 d.qfs.length p2, .string d.qbd, .int .i64 d.rst, .slice o5 d.rfs.length p5, .string d.rbd, .int .i64 d.tim]) (by simp [results, Tryz.results46, go_sem, kv2_0, kv2_1, kv2_2, kv2_3, kv2_4, kv2_5, kv2_6, kv2_7]) rfl ?_
 exact ⟨⟨d, .slice o2 d.qfs.length p2, .slice o5 d.rfs.length p5⟩, rfl, rfl, ER_21.out, hb21⟩
structure SeMax (d : SeD) : Prop where
 qpa : d.qpa.size ≤ maxLen
 qfs : d.qfs.length ≤ maxLen ∧ WalkF d.qfs.length d.qfs
 qbd : d.qbd.size ≤ maxLen
 rfs : d.rfs.length ≤ maxLen ∧ WalkF d.rfs.length d.rfs
 rbd : d.rbd.size ≤ maxLen
structure SeSmall (d : SeD) : Prop where
 qpa : d.qpa.size ≤ 1048576
 qfs : d.qfs.length ≤ 1048576 ∧ szTo d.qfs d.qfs.length ≤ 1048576
 qbd : d.qbd.size ≤ 1048576
 rfs : d.rfs.length ≤ 1048576 ∧ szTo d.rfs d.rfs.length ≤ 1048576
 rbd : d.rbd.size ≤ 1048576
theorem SeSmall.lens {d : SeD} (h : SeSmall d) : SeLen d := ⟨h.qfs.1, h.rfs.1⟩
def wtSe : List SeD → Nat
 | [] => 0
 | d :: r => 1 + (d.qfs.length + d.rfs.length) + wtSe r
theorem wtSe_snoc (d : SeD) : ∀ l : List SeD, wtSe (l ++ [d]) = wtSe l + (1 + (d.qfs.length + d.rfs.length))
 | [] => by simp [wtSe]
 | x :: l => by rw [List.cons_append, wtSe, wtSe_snoc d l, wtSe]; omega
theorem wtSe_ge : ∀ l : List SeD, l.length ≤ wtSe l
 | [] => Nat.le_refl _
 | x :: l => by rw [wtSe, List.length_cons]; have := wtSe_ge l; omega
def SzSe (L : Int) (d : SeD) (w : World) (e : Ending) (w' : World) : Prop :=
 ∃ r : Int, e = .returned (.int .i64 r) ∧ r ≤ L ∧ (0 ≤ r → r + ((d.qfs.length + d.rfs.length : Nat) : Int) ≤ L ∧ SeSmall d) ∧ Below w.heap.size w w'
theorem szSeen_any (L : Int) (hL0 : 0 ≤ L) (hL1 : L ≤ 1048576) (d : SeD) (a2 : Oa) (c2 : Nat) (a5 : Oa) (c5 : Nat) (B : Nat) (w : World) (h2 : ArgF w B a2 d.qfs.length d.qfs) (h5 : ArgF w B a5 d.rfs.length d.rfs) (hB : B ≤ w.heap.size) (hm : SeMax d) :
  Calls Tryz.prog 29 #[.agg #[.int .i64 d.qmt, .string d.qpa, .slice a2 d.qfs.length c2, .string d.qbd, .int .i64 d.rst, .slice a5 d.rfs.length c5, .string d.rbd, .int .i64 d.tim], .int .i64 L] w fun e w' => SzSe L d w e w' := by
 have HA2 : Hid (∀ W, Below w.heap.size w W → ArgF W B a2 d.qfs.length d.qfs) := fun W h => h2.below (h.mono hB)
 have HA5 : Hid (∀ W, Below w.heap.size w W → ArgF W B a5 d.rfs.length d.rfs) := fun W h => h5.below (h.mono hB)
 have HBB : Hid (∀ W, Below w.heap.size w W → B ≤ W.heap.size) := fun W h => Nat.le_trans hB h.size
 clear h2 h5
 have HMX : Hid (SeMax d) := hm
 clear hm
 have hb0 := Below.refl w.heap.size w
 go_enter Tryz.func29, Tryz.ntmps29
 go_upto_region 1 with fail
 obtain ⟨q1, hq1⟩ := exq (w.heap.size)
 obtain ⟨w1, hW1⟩ := exq (w.alloc (.cells #[.int .i64 d.qmt, .string d.qpa, .slice a2 d.qfs.length c2, .string d.qbd, .int .i64 d.rst, .slice a5 d.rfs.length c5, .string d.rbd, .int .i64 d.tim] 94))
 have hz1 := hq1.symm
 rw [← hW1]; try rw [← hq1]
 have hs1 := hsa hW1 hz1
 have bw := bal hW1
 have hb1 := hbt hb0 bw
 have B1_1 := hnew hW1 hz1
 clear hb0 bw hW1 hz1
 clear hs1 hq1
 have c1_0 := (k8c B1_1).1
 have c1_1 := (k8c B1_1).2.1
 have c1_2 := (k8c B1_1).2.2.1
 have c1_3 := (k8c B1_1).2.2.2.1
 go_wp2_with fail
 refine (szReq_room L (by omega) (by omega) d.qmt d.qpa a2 d.qfs.length c2 d.qbd d.qfs _ (argUpF (HA2.out _ hb1) (HBB.out _ hb1)) HMX.out.qfs.1 HMX.out.qfs.2 HMX.out.qpa HMX.out.qbd).mono ?_
 rintro e w2 ⟨r1, rfl, hl1, hr1, bw⟩
 have hb2 := hbt hb1 bw
 have B1_2 := hblk B1_1 bw
 clear hb1 bw
 clear c1_0 c1_1 c1_2 c1_3
 by_cases hc1 : r1 < 0
 ·clear hr1
  go_wp2_with fail
  go_ret
  exact ⟨-1, rfl, by omega, fun h => absurd h (by omega), hb2⟩
 have HR1 : Hid _ := hr1 (by omega)
 clear hr1
 have mr1 := HR1.out.1
 have c1_4 := (k8c B1_2).2.2.2.2.1
 have c1_5 := (k8c B1_2).2.2.2.2.2.1
 have c1_6 := (k8c B1_2).2.2.2.2.2.2.1
 go_wp2_with fail
 refine (szResp_room r1 (by omega) (by omega) d.rst a5 d.rfs.length c5 d.rbd d.rfs _ (argUpF (HA5.out _ hb2) (HBB.out _ hb2)) HMX.out.rfs.1 HMX.out.rfs.2 HMX.out.rbd).mono ?_
 rintro e w3 ⟨r2, rfl, hl2, hr2, bw⟩
 have hb3 := hbt hb2 bw
 have B1_3 := hblk B1_2 bw
 clear hb2 bw
 clear c1_4 c1_5 c1_6
 by_cases hc2 : r2 < 0
 ·clear hr2
  go_wp2_with fail
  go_ret
  exact ⟨-1, rfl, by omega, fun h => absurd h (by omega), hb3⟩
 have HR2 : Hid _ := hr2 (by omega)
 clear hr2
 have mr2 := HR2.out.1
 go_wp2_with fail
 go_ret
 exact ⟨r2, rfl, by omega, fun _ => ⟨by omega, ⟨HR1.out.2.1.1, ⟨HR1.out.2.2.1, HR1.out.2.2.2⟩, HR1.out.2.1.2, ⟨HR2.out.2.2.1, HR2.out.2.2.2⟩, HR2.out.2.1⟩⟩, hb3⟩
structure SeLim (d : SeD) : Prop where
 qfs : d.qfs.length ≤ 2000000
 rfs : d.rfs.length ≤ 2000000
theorem SeLen.lim {d : SeD} (h : SeLen d) : SeLim d := ⟨Nat.le_trans h.qfs (by decide), Nat.le_trans h.rfs (by decide)⟩
theorem eqSeen_any (d : SeD) (x y : SeV) (B1 B2 : Nat) (w : World) (hxd : x.d = d) (hyd : y.d = d) (hx : RowsO w B1 (seR x)) (hy : RowsO w B2 (seR y)) (hn : SeLim d) :
  Calls Tryz.prog 55 #[.agg #[.int .i64 x.d.qmt, .string x.d.qpa, x.v2, .string x.d.qbd, .int .i64 x.d.rst, x.v5, .string x.d.rbd, .int .i64 x.d.tim], .agg #[.int .i64 y.d.qmt, .string y.d.qpa, y.v2, .string y.d.qbd, .int .i64 y.d.rst, y.v5, .string y.d.rbd, .int .i64 y.d.tim]] w fun e w' => e = .returned (.bool true) ∧ Below w.heap.size w w' := by
 have hd : y.d = d := hyd
 have hd2 : x.d = d := hxd
 have HxO2 : Hid (∀ W : World, RowsO W B1 (seR x) → W.ownsRow B1 185 2 x.v2 d.qfs.length (flatF d.qfs)) := fun W h => by
  have h2 := h.own (⟨185, 2, x.v2, x.d.qfs.length, flatF x.d.qfs⟩ : Rw) (by simp [seR])
  unfold Rw.own at h2
  dsimp only at h2
  rw [hxd] at h2
  exact h2
 have HxO5 : Hid (∀ W : World, RowsO W B1 (seR x) → W.ownsRow B1 185 2 x.v5 d.rfs.length (flatF d.rfs)) := fun W h => by
  have h2 := h.own (⟨185, 2, x.v5, x.d.rfs.length, flatF x.d.rfs⟩ : Rw) (by simp [seR])
  unfold Rw.own at h2
  dsimp only at h2
  rw [hxd] at h2
  exact h2
 have HyO2 : Hid (∀ W : World, RowsO W B2 (seR y) → W.ownsRow B2 185 2 y.v2 d.qfs.length (flatF d.qfs)) := fun W h => by
  have h2 := h.own (⟨185, 2, y.v2, y.d.qfs.length, flatF y.d.qfs⟩ : Rw) (by simp [seR])
  unfold Rw.own at h2
  dsimp only at h2
  rw [hyd] at h2
  exact h2
 have HyO5 : Hid (∀ W : World, RowsO W B2 (seR y) → W.ownsRow B2 185 2 y.v5 d.rfs.length (flatF d.rfs)) := fun W h => by
  have h2 := h.own (⟨185, 2, y.v5, y.d.rfs.length, flatF y.d.rfs⟩ : Rw) (by simp [seR])
  unfold Rw.own at h2
  dsimp only at h2
  rw [hyd] at h2
  exact h2
 have eqmt : (d.qmt != d.qmt) = false := by simp
 have erst : (d.rst != d.rst) = false := by simp
 have etim : (d.tim != d.tim) = false := by simp
 have Ex_0 : Hid (RowsO w B1 (seR x)) := hx
 have Ey_0 : Hid (RowsO w B2 (seR y)) := hy
 rw [hxd, hyd]
 clear hx hy hd hd2 hxd hyd
 have hb0 := Below.refl w.heap.size w
 go_enter Tryz.func55, Tryz.ntmps55
 go_upto_region 1 with fail
 obtain ⟨q1, hq1⟩ := exq (w.heap.size)
 obtain ⟨w1, hW1⟩ := exq (w.alloc (.cells #[.int .i64 d.qmt, .string d.qpa, x.v2, .string d.qbd, .int .i64 d.rst, x.v5, .string d.rbd, .int .i64 d.tim] 118))
 have hz1 := hq1.symm
 rw [← hW1]; try rw [← hq1]
 have hs1 := hsa hW1 hz1
 have bw := bal hW1
 have hb1 := hbt hb0 bw
 have Ex_1 := hid (Ex_0.out.below bw)
 have Ey_1 := hid (Ey_0.out.below bw)
 have B1_1 := hnew hW1 hz1
 clear hb0 Ex_0 Ey_0 bw hW1 hz1
 obtain ⟨q2, hq2⟩ := exq (q1 + 1)
 obtain ⟨w2, hW2⟩ := exq (w1.alloc (.cells #[.int .i64 d.qmt, .string d.qpa, y.v2, .string d.qbd, .int .i64 d.rst, y.v5, .string d.rbd, .int .i64 d.tim] 118))
 have hz2 : w1.heap.size = q2 := by rw [hq2]; exact hs1
 rw [← hW2]; try rw [← hq2]
 have hs2 := hsa hW2 hz2
 have bw := bal hW2
 have hb2 := hbt hb1 bw
 have B1_2 := hblk B1_1 bw
 have Ex_2 := hid (Ex_1.out.below bw)
 have Ey_2 := hid (Ey_1.out.below bw)
 have B2_2 := hnew hW2 hz2
 clear hb1 Ex_1 Ey_1 bw hW2 hz2
 clear hs2 hq2 hs1 hq1
 have c1_0 := (k8c B1_2).1
 have c1_1 := (k8c B1_2).2.1
 have c1_2 := (k8c B1_2).2.2.1
 have c1_3 := (k8c B1_2).2.2.2.1
 have c2_0 := (k8c B2_2).1
 have c2_1 := (k8c B2_2).2.1
 have c2_2 := (k8c B2_2).2.2.1
 have c2_3 := (k8c B2_2).2.2.2.1
 go_wp2_with fail
 refine (eqReq_any d.qmt d.qpa _ _ d.qbd d.qfs.length _ _ d.qfs _ (FieldsV.of_owns (show World.ownsRow _ B1 185 2 x.v2 d.qfs.length _ from HxO2.out _ Ex_2.out)) (FieldsV.of_owns (show World.ownsRow _ B2 185 2 y.v2 d.qfs.length _ from HyO2.out _ Ey_2.out)) hn.qfs).mono ?_
 rintro e w3 ⟨rfl, bw⟩
 have hb3 := hbt hb2 bw
 have B1_3 := hblk B1_2 bw
 have B2_3 := hblk B2_2 bw
 have Ex_3 := hid (Ex_2.out.below bw)
 have Ey_3 := hid (Ey_2.out.below bw)
 clear hb2 Ex_2 Ey_2 bw
 clear c1_0 c1_1 c1_2 c1_3 c2_0 c2_1 c2_2 c2_3
 have c1_4 := (k8c B1_3).2.2.2.2.1
 have c1_5 := (k8c B1_3).2.2.2.2.2.1
 have c1_6 := (k8c B1_3).2.2.2.2.2.2.1
 have c2_4 := (k8c B2_3).2.2.2.2.1
 have c2_5 := (k8c B2_3).2.2.2.2.2.1
 have c2_6 := (k8c B2_3).2.2.2.2.2.2.1
 go_wp2_with fail
 refine (eqResp_any d.rst _ _ d.rbd d.rfs.length _ _ d.rfs _ (FieldsV.of_owns (show World.ownsRow _ B1 185 2 x.v5 d.rfs.length _ from HxO5.out _ Ex_3.out)) (FieldsV.of_owns (show World.ownsRow _ B2 185 2 y.v5 d.rfs.length _ from HyO5.out _ Ey_3.out)) hn.rfs).mono ?_
 rintro e w4 ⟨rfl, bw⟩
 have hb4 := hbt hb3 bw
 have B1_4 := hblk B1_3 bw
 have B2_4 := hblk B2_3 bw
 have Ex_4 := hid (Ex_3.out.below bw)
 have Ey_4 := hid (Ey_3.out.below bw)
 clear hb3 Ex_3 Ey_3 bw
 clear c1_4 c1_5 c1_6 c2_4 c2_5 c2_6
 have c1_7 := (k8c B1_4).2.2.2.2.2.2.2
 have c2_7 := (k8c B2_4).2.2.2.2.2.2.2
 go_wp2_with fail
 go_ret
 exact ⟨rfl, hb4⟩
def SeArg (w : World) (B b off i : Nat) (d : SeD) : Prop :=
 ∃ (a2 : Oa) (c2 : Nat) (a5 : Oa) (c5 : Nat), (w.cell? ⟨b, off + i * 8, none⟩ = some (.int .i64 d.qmt) ∧ w.cell? ⟨b, off + i * 8 + 1, none⟩ = some (.string d.qpa) ∧ w.cell? ⟨b, off + i * 8 + 2, none⟩ = some (.slice a2 d.qfs.length c2) ∧ w.cell? ⟨b, off + i * 8 + 3, none⟩ = some (.string d.qbd) ∧ w.cell? ⟨b, off + i * 8 + 4, none⟩ = some (.int .i64 d.rst) ∧ w.cell? ⟨b, off + i * 8 + 5, none⟩ = some (.slice a5 d.rfs.length c5) ∧ w.cell? ⟨b, off + i * 8 + 6, none⟩ = some (.string d.rbd) ∧ w.cell? ⟨b, off + i * 8 + 7, none⟩ = some (.int .i64 d.tim)) ∧ ArgF w B a2 d.qfs.length d.qfs ∧ ArgF w B a5 d.rfs.length d.rfs
def ArgSeen (w : World) (B : Nat) (a : Oa) (n : Nat) (ks : List SeD) : Prop :=
 ks.length = n ∧ ∀ i, i < n → ∃ b off, a = some ⟨b, off, none⟩ ∧ b < B ∧ SeArg w B b off i (seAt ks i)
theorem ArgSeen.below {w w' : World} {B : Nat} {a : Oa} {n : Nat} {ks : List SeD} (h : ArgSeen w B a n ks) (hb : Below B w w') : ArgSeen w' B a n ks :=
 ⟨h.1, fun i hi => by
  obtain ⟨b, off, h1, h2, a2, c2, a5, c5, ⟨r0, r1, r2, r3, r4, r5, r6, r7⟩, g2, g5⟩ := h.2 i hi
  exact ⟨b, off, h1, h2, a2, c2, a5, c5, ⟨by rw [hb.cell (p := ⟨b, off + i * 8, none⟩) h2]; exact r0, by rw [hb.cell (p := ⟨b, off + i * 8 + 1, none⟩) h2]; exact r1, by rw [hb.cell (p := ⟨b, off + i * 8 + 2, none⟩) h2]; exact r2, by rw [hb.cell (p := ⟨b, off + i * 8 + 3, none⟩) h2]; exact r3, by rw [hb.cell (p := ⟨b, off + i * 8 + 4, none⟩) h2]; exact r4, by rw [hb.cell (p := ⟨b, off + i * 8 + 5, none⟩) h2]; exact r5, by rw [hb.cell (p := ⟨b, off + i * 8 + 6, none⟩) h2]; exact r6, by rw [hb.cell (p := ⟨b, off + i * 8 + 7, none⟩) h2]; exact r7⟩, g2.below hb, g5.below hb⟩⟩
def SzSeenS (L : Int) (ks : List SeD) (w : World) (e : Ending) (w' : World) : Prop :=
 ∃ r : Int, e = .returned (.int .i64 r) ∧ r ≤ L ∧ (0 ≤ r → r + (wtSe ks : Int) ≤ L ∧ ∀ k ∈ ks, SeSmall k) ∧ Below w.heap.size w w'
theorem szSeenS_any (L : Int) (hL0 : 0 ≤ L) (hL1 : L ≤ 1048576) (B : Nat) (a : Oa) (n cap : Nat) (ks : List SeD) (w : World) (harg : ArgSeen w B a n ks) (hB : B ≤ w.heap.size) (hn : n ≤ maxLen) (hsz : ∀ k ∈ ks, SeMax k) :
  Calls Tryz.prog 11 #[.slice a n cap, .int .i64 L] w fun e w' => SzSeenS L ks w e w' := by
 unfold maxLen at hn
 have HS := hid hsz
 have HLN : Hid (ks.length = n) := harg.1
 have HA : Hid (∀ W, Below w.heap.size w W → ArgSeen W B a n ks) := fun W h => harg.below (h.mono hB)
 have HBB : Hid (∀ W, Below w.heap.size w W → B ≤ W.heap.size) := fun W h => Nat.le_trans hB h.size
 clear hsz harg hB
 by_cases c1 : L - (n : Int) < 0
 ·go_enter Tryz.func11, Tryz.ntmps11
  go_wp2
  go_ret
  exact ⟨-1, rfl, by omega, fun h => absurd h (by omega), Below.refl _ _⟩
 go_enter Tryz.func11, Tryz.ntmps11
 go_wp2
 go_loopw [1, 5] (fun lf i wr => ∃ (k : Nat) (x : Int), k ≤ n ∧ i = .int .i64 (k : Int) ∧ lf = .int .i64 x ∧ 0 ≤ x ∧ x ≤ L ∧ Hid (x + (wtSe (ks.take k) : Int) + ((n : Int) - (k : Int)) ≤ L ∧ ∀ y ∈ ks.take k, SeSmall y) ∧ Hid (Below w.heap.size w wr)) (fun _ i _ => n - (intOf i).toNat)
 case atStart => exact ⟨0, _, Nat.zero_le _, rfl, rfl, by omega, by omega, ⟨by simp [wtSe], fun x hx => by simp at hx⟩, Below.refl _ _⟩
 case round =>
  obtain ⟨k, x, hk, rfl, rfl, hx0, hx1, HX, HBW⟩ := hrel
  by_cases hlt : k < n
  rotate_left
  ·have HF : Hid (x + (wtSe ks : Int) ≤ L ∧ ∀ k ∈ ks, SeSmall k) := by
    obtain ⟨m1, m2⟩ := HX.out
    rw [List.take_of_length_le (by rw [HLN.out]; omega)] at m1 m2
    exact ⟨by omega, m2⟩
   go_wp2
   go_ret
   exact ⟨x, rfl, by omega, fun _ => HF.out, HBW.out⟩
  have hlt2 : (k : Int) < (n : Int) := by omega
  obtain ⟨b, off, rfl, hbB, a2, c2, a5, c5, ⟨r0, r1, r2, r3, r4, r5, r6, r7⟩, g2, g5⟩ := (HA.out wr HBW.out).2 k hlt
  obtain ⟨y, hy⟩ := exq (seAt ks k)
  have HM : Hid (y ∈ ks) := by show _ ∈ _; rw [hy]; exact getD_mem0 _ ks k (by rw [HLN.out]; exact hlt)
  have HTK : Hid (ks.take (k + 1) = ks.take k ++ [y]) := by show _ = _; rw [hy]; exact getD_take0 _ ks k (by rw [HLN.out]; exact hlt)
  rw [← hy] at r0 r1 r2 r3 r4 r5 r6 r7 g2 g5
  have HG2 := hid g2
  have HG5 := hid g5
  clear hy g2 g5
  go_wp2_with fail
  skip
  refine (szSeen_any x hx0 (by omega) y a2 c2 a5 c5 B _ HG2.out HG5.out (HBB.out _ HBW.out) (HS.out y HM.out)).mono ?_
  rintro e w1 ⟨r, rfl, hr1, hr2, bw⟩
  have HB2 : Hid (Below w.heap.size w w1) := HBW.out.trans (bw.mono HBW.out.size)
  clear r0 r1 r2 r3 r4 r5 r6 r7 bw
  by_cases d1 : r < 0
  ·clear hr2
   go_wp2
   go_ret
   exact ⟨-1, rfl, by omega, fun h => absurd h (by omega), HB2.out⟩
  have HX2 : Hid (r + (wtSe (ks.take (k + 1)) : Int) + ((n : Int) - ((k + 1 : Nat) : Int)) ≤ L ∧ ∀ y ∈ ks.take (k + 1), SeSmall y) := by
   obtain ⟨q1, q2⟩ := hr2 (by omega)
   obtain ⟨m1, m2⟩ := HX.out
   refine ⟨?_, fun z hz => ?_⟩
   ·rw [HTK.out, wtSe_snoc]
    omega
   ·rw [HTK.out] at hz
    rcases List.mem_append.1 hz with hz | hz
    · exact m2 z hz
    · rw [List.mem_singleton.1 hz]; exact q2
  clear hr2
  go_wp2
  go_roundw
  case rel => exact ⟨k + 1, r, by omega, by go_num, rfl, by omega, by omega, HX2, HB2⟩
  case measure => simp [intOf]; omega
theorem infoSeen : (Tryz.prog.info? 118).map (fun i => (i.zero, i.size, i.bytes)) = some (some (.agg #[.int .i64 0, .string ⟨#[]⟩, .slice none 0 0, .string ⟨#[]⟩, .int .i64 0, .slice none 0 0, .string ⟨#[]⟩, .int .i64 0]), 8, 120) := by kernel_rfl
def SeenIs (ks : List SeD) (w : World) (e : Ending) (w' : World) : Prop := ∃ (V : Value) (kv : List SeV), e = .returned V ∧ kv.map (·.d) = ks ∧ SesO w' w.heap.size V kv ∧ Below w.heap.size w w'
theorem parts_Seen {w : World} {g n base : Nat} {kv : List SeV} (hp : PartO seC 8 118 w g n kv) (hl : kv.length = n) (hm : n ≤ maxLen) (hb : base ≤ g) (hr : RowsO w (g + 1) (kv.flatMap seR)) : SesO w base (.slice (some ⟨g, 0, none⟩) n n) kv := by
 have hrow : (seRow (.slice (some ⟨g, 0, none⟩) n n) kv).own w base := by
  have h := hp.owns seC_len (by decide) hl hm hb
  unfold Rw.own seRow
  rw [hl]
  exact h
 refine ⟨fun r h => ?_, List.pairwise_cons.2 ⟨fun r h g' h1 h2 => ?_, hr.apart⟩⟩
 ·rcases List.mem_cons.1 h with h | h
  · rw [h]; exact hrow
  · exact owns_wide (hr.own r h) (by omega)
 ·have e1 : some g = some g' := h1
  have e2 := hr.ge h h2
  have e3 := Option.some.inj e1
  omega
theorem toSeenS_any (B : Nat) (a : Oa) (n cap : Nat) (ks : List SeD) (w : World) (harg : ArgSeen w B a n ks) (hB : B ≤ w.heap.size) (hn : n ≤ 1048576) (hsm : ∀ k ∈ ks, SeLen k) :
  Calls Tryz.prog 17 #[.slice a n cap] w fun e w' => SeenIs ks w e w' := by
 obtain ⟨i0, hi, hz0, hz1, hz2⟩ := info_parts infoSeen
 obtain ⟨M, hM⟩ : ∃ M, M = madeCells (Value.agg #[.int .i64 0, .string ⟨#[]⟩, .slice none 0 0, .string ⟨#[]⟩, .int .i64 0, .slice none 0 0, .string ⟨#[]⟩, .int .i64 0]).cells (((n : Nat) : Int).toNat * i0.size) := ⟨_, rfl⟩
 have hmk : ∀ W : World, (Instr.makeSlice 45 (.int .i64 (n : Int)) (.int .i64 (n : Int))).run Tryz.prog W = .ok (.slice (some ⟨W.heap.size, 0, none⟩) n n) (W.alloc (.cells M 118)) := fun W => by
  have h := run_make (P := Tryz.prog) W 45 118 i0 (.agg #[.int .i64 0, .string ⟨#[]⟩, .slice none 0 0, .string ⟨#[]⟩, .int .i64 0, .slice none 0 0, .string ⟨#[]⟩, .int .i64 0]) Tryz.underlying45 hi hz0 .i64 .i64 (n : Int) (n : Int) (by omega) (by omega) (by rw [hz2]; omega) (by omega)
  rw [← hM] at h
  simpa using h
 have hMs : M.size = n * 8 := by rw [hM, size_madeCells, hz1]; simp
 have HLN : Hid (ks.length = n) := harg.1
 have HSM := hid hsm
 have HA : Hid (∀ W, Below w.heap.size w W → ArgSeen W B a n ks) := fun W h => harg.below (h.mono hB)
 have HBB : Hid (∀ W, Below w.heap.size w W → B ≤ W.heap.size) := fun W h => Nat.le_trans hB h.size
 clear hM harg hsm hB
 obtain ⟨g, hg⟩ := exq (w.heap.size)
 have HG : Hid (w.heap.size = g) := hg.symm
 have HP : Hid (([] : List SeV).length = 0 ∧ ([] : List SeV).map (·.d) = ks.take 0 ∧ PartO seC 8 118 (w.alloc (.cells M 118)) g n [] ∧ RowsO (w.alloc (.cells M 118)) (g + 1) (([] : List SeV).flatMap seR)) := ⟨rfl, by simp, ⟨M, by rw [hg]; exact heap_alloc_new w _, hMs, fun i h => absurd h (by simp)⟩, RowsO.nil _ _⟩
 have HPB : Hid (Below w.heap.size w (w.alloc (.cells M 118))) := (Below.refl _ _).alloc (Nat.le_refl _) _
 go_enter Tryz.func17, Tryz.ntmps17
 go_wp2
 rw [HG.out]
 clear hg hMs
 go_loopw [4] (fun i wr => ∃ (k : Nat) (kv : List SeV), k ≤ n ∧ i = .int .i64 (k : Int) ∧ Hid (kv.length = k ∧ kv.map (·.d) = ks.take k ∧ PartO seC 8 118 wr g n kv ∧ RowsO wr (g + 1) (kv.flatMap seR)) ∧ Hid (Below w.heap.size w wr)) (fun i _ => n - (intOf i).toNat)
 case atStart => exact ⟨0, [], Nat.zero_le _, rfl, HP, HPB⟩
 case round =>
  obtain ⟨k, kv, hk, rfl, hpr, HBW⟩ := hrel
  by_cases hlt : k < n
  rotate_left
  ·obtain rfl : k = n := by omega
   obtain ⟨q1, q2, q3, q4⟩ := hpr.out
   have HF : Hid (kv.map (·.d) = ks ∧ SesO wr w.heap.size (.slice (some ⟨g, 0, none⟩) k k) kv) := by
    refine ⟨?_, parts_Seen q3 q1 (by unfold maxLen; omega) (by rw [HG.out]; exact Nat.le_refl _) q4⟩
    rw [q2, List.take_of_length_le (by rw [HLN.out]; exact Nat.le_refl _)]
   clear q1 q2 q3 q4
   go_wp2
   go_ret
   exact ⟨_, kv, rfl, HF.out.1, HF.out.2, HBW.out⟩
  have hlt2 : (k : Int) < (n : Int) := by omega
  obtain ⟨b, off, rfl, hbB, a2, c2, a5, c5, ⟨r0, r1, r2, r3, r4, r5, r6, r7⟩, g2, g5⟩ := (HA.out wr HBW.out).2 k hlt
  obtain ⟨y, hy⟩ := exq (seAt ks k)
  have HM : Hid (y ∈ ks) := by show _ ∈ _; rw [hy]; exact getD_mem0 _ ks k (by rw [HLN.out]; exact hlt)
  have HTK : Hid (ks.take (k + 1) = ks.take k ++ [y]) := by show _ = _; rw [hy]; exact getD_take0 _ ks k (by rw [HLN.out]; exact hlt)
  rw [← hy] at r0 r1 r2 r3 r4 r5 r6 r7 g2 g5
  have HG2 := hid g2
  have HG5 := hid g5
  clear hy g2 g5
  go_wp2_with fail
  skip
  refine (toSeen_any y a2 c2 a5 c5 B _ HG2.out HG5.out (HBB.out _ HBW.out) (HSM.out y HM.out)).mono ?_
  rintro e w1 ⟨⟨xd, v2, v5⟩, rfl, hxd, hrows, bw⟩
  clear r0 r1 r2 r3 r4 r5 r6 r7
  obtain rfl : xd = y := hxd
  obtain ⟨o2, p2, hv⟩ := slice_of_owns (hrows.own (⟨185, 2, v2, xd.qfs.length, flatF xd.qfs⟩ : Rw) (by simp [seR]))
  obtain rfl : v2 = .slice o2 xd.qfs.length p2 := hv
  obtain ⟨o5, p5, hv⟩ := slice_of_owns (hrows.own (⟨185, 2, v5, xd.rfs.length, flatF xd.rfs⟩ : Rw) (by simp [seR]))
  obtain rfl : v5 = .slice o5 xd.rfs.length p5 := hv
  obtain ⟨x, hx⟩ : ∃ x : SeV, x = ⟨xd, .slice o2 xd.qfs.length p2, .slice o5 xd.rfs.length p5⟩ := ⟨_, rfl⟩
  rw [← hx] at hrows
  obtain ⟨q1, q2, q3, q4⟩ := hpr.out
  have hgl : g < wr.heap.size := q3.lt
  have HB2 : Hid (Below w.heap.size w w1) := HBW.out.trans (bw.mono HBW.out.size)
  have hpr1 := q3.below bw
  have hall : RowsO w1 (g + 1) (kv.flatMap seR ++ seR x) := q4.more bw hrows (Nat.le_refl _) hgl
  have HALL : Hid ((kv ++ [x]).length = k + 1 ∧ (kv ++ [x]).map (·.d) = ks.take (k + 1) ∧ PartO seC 8 118 (setW w1 g (k * 8) (seC x)) g n (kv ++ [x]) ∧ RowsO (setW w1 g (k * 8) (seC x)) (g + 1) ((kv ++ [x]).flatMap seR)) := by
   refine ⟨by rw [List.length_append, q1]; rfl, by rw [List.map_append, q2, HTK.out, hx]; rfl, ?_, ?_⟩
   ·have h := hpr1.put seC_len x (by omega)
    rw [q1] at h
    exact h
   ·rw [List.flatMap_append]
    have h2 : RowsO (setW w1 g (k * 8) (seC x)) (g + 1) (kv.flatMap seR ++ seR x) := hall.same (fun r hr j hj => setW_other g j (by have := hall.ge hr hj; omega) _ _ _)
    simpa using h2
  have HBE : Hid (Below w.heap.size w (setW w1 g (k * 8) (seC x))) := setW_below (by rw [HG.out]; exact Nat.le_refl _) _ _ _ _ HB2.out
  rw [hx] at HALL HBE
  obtain ⟨u0, hu0⟩ := hpr1.cell (k * 8) (by omega)
  have f0 := hpr1.frozen (k * 8)
  obtain ⟨u1, hu1⟩ := hpr1.cell (k * 8 + 1) (by omega)
  have f1 := hpr1.frozen (k * 8 + 1)
  obtain ⟨u2, hu2⟩ := hpr1.cell (k * 8 + 2) (by omega)
  have f2 := hpr1.frozen (k * 8 + 2)
  obtain ⟨u3, hu3⟩ := hpr1.cell (k * 8 + 3) (by omega)
  have f3 := hpr1.frozen (k * 8 + 3)
  obtain ⟨u4, hu4⟩ := hpr1.cell (k * 8 + 4) (by omega)
  have f4 := hpr1.frozen (k * 8 + 4)
  obtain ⟨u5, hu5⟩ := hpr1.cell (k * 8 + 5) (by omega)
  have f5 := hpr1.frozen (k * 8 + 5)
  obtain ⟨u6, hu6⟩ := hpr1.cell (k * 8 + 6) (by omega)
  have f6 := hpr1.frozen (k * 8 + 6)
  obtain ⟨u7, hu7⟩ := hpr1.cell (k * 8 + 7) (by omega)
  have f7 := hpr1.frozen (k * 8 + 7)
  clear hpr1 hall hrows hx q1 q2 q3 q4 bw hpr
  go_wp2
  go_roundw
  case rel => exact ⟨k + 1, _, by omega, by go_num, HALL, HBE⟩
  case measure => simp [intOf]; omega
theorem eqSeenS_any (V1 V2 : Value) (kv1 kv2 : List SeV) (B1 B2 : Nat) (w : World) (he : kv1.map (·.d) = kv2.map (·.d)) (h1 : SesO w B1 V1 kv1) (h2 : SesO w B2 V2 kv2) (hn : kv1.length ≤ 2000000) (hs : ∀ x ∈ kv1, SeLim x.d) :
  Calls Tryz.prog 23 #[V1, V2] w fun e w' => e = .returned (.bool true) ∧ Below w.heap.size w w' := by
 have hlen : kv2.length = kv1.length := by have := congrArg List.length he; simpa using this.symm
 obtain ⟨n, hnn⟩ := exq kv1.length
 obtain ⟨o1, c1, e1⟩ := h1.len
 obtain ⟨o2, c2, e2⟩ := h2.len
 rw [← hnn] at e1 hn
 rw [hlen, ← hnn] at e2
 subst e1 e2
 have HL1 : Hid (kv1.length = n) := hnn.symm
 have HL2 : Hid (kv2.length = n) := hlen.trans hnn.symm
 have HE := hid he
 have HS := hid hs
 have H1 : Hid (∀ W, Below w.heap.size w W → SesO W B1 (.slice o1 n c1) kv1) := fun W h => h1.below h
 have H2 : Hid (∀ W, Below w.heap.size w W → SesO W B2 (.slice o2 n c2) kv2) := fun W h => h2.below h
 clear h1 h2 hlen hnn he hs
 go_enter Tryz.func23, Tryz.ntmps23
 go_wp2
 go_loopw [5] (fun i wr => ∃ k : Nat, k ≤ n ∧ i = .int .i64 (k : Int) ∧ Hid (Below w.heap.size w wr)) (fun i _ => n - (intOf i).toNat)
 case atStart => exact ⟨0, Nat.zero_le _, rfl, Below.refl _ _⟩
 case round =>
  obtain ⟨k, hk, rfl, HBW⟩ := hrel
  by_cases hlt : k < n
  rotate_left
  ·go_wp2
   go_ret
   exact ⟨rfl, HBW.out⟩
  have hlt2 : (k : Int) < (n : Int) := by omega
  obtain ⟨g1, cp1, ev1, hg1, at1⟩ := (H1.out wr HBW.out).at k (by rw [HL1.out]; exact hlt)
  obtain ⟨g2, cp2, ev2, hg2, at2⟩ := (H2.out wr HBW.out).at k (by rw [HL2.out]; exact hlt)
  obtain rfl : o1 = some ⟨g1, 0, none⟩ := (Value.slice.inj ev1).1
  obtain rfl : o2 = some ⟨g2, 0, none⟩ := (Value.slice.inj ev2).1
  have exy : (kv1[k]'(by rw [HL1.out]; exact hlt)).d = (kv2[k]'(by rw [HL2.out]; exact hlt)).d := by
   have h := congrArg (fun l : List SeD => l[k]?) HE.out
   simpa [List.getElem?_map, List.getElem?_eq_getElem (show k < kv1.length by rw [HL1.out]; exact hlt), List.getElem?_eq_getElem (show k < kv2.length by rw [HL2.out]; exact hlt)] using h
  have m1 : kv1[k]'(by rw [HL1.out]; exact hlt) ∈ kv1 := List.getElem_mem _
  have m2 : kv2[k]'(by rw [HL2.out]; exact hlt) ∈ kv2 := List.getElem_mem _
  generalize kv1[k]'(by rw [HL1.out]; exact hlt) = x at at1 exy m1
  generalize kv2[k]'(by rw [HL2.out]; exact hlt) = y at at2 exy m2
  have HXY : Hid (x.d = y.d) := exy
  have HO1 : Hid (∀ W, Below wr.heap.size wr W → RowsO W B1 (seR x)) := fun W h => ((H1.out wr HBW.out).below h).item m1
  have HO2 : Hid (∀ W, Below wr.heap.size wr W → RowsO W B2 (seR y)) := fun W h => ((H2.out wr HBW.out).below h).item m2
  have HSZ : Hid (SeLim x.d) := HS.out _ m1
  have a0 := at1.c0
  have a1 := at1.c1
  have a2 := at1.c2
  have a3 := at1.c3
  have a4 := at1.c4
  have a5 := at1.c5
  have a6 := at1.c6
  have a7 := at1.c7
  have b0 := at2.c0
  have b1 := at2.c1
  have b2 := at2.c2
  have b3 := at2.c3
  have b4 := at2.c4
  have b5 := at2.c5
  have b6 := at2.c6
  have b7 := at2.c7
  clear at1 at2 m1 m2 ev1 ev2 exy
  have HA : Hid (∀ w0 w1, Below wr.heap.size wr w0 → Below w0.heap.size w0 w1 → (w1.cell? ⟨g1, k * 8, none⟩ = some (.int .i64 x.d.qmt) ∧ w1.cell? ⟨g1, k * 8 + 1, none⟩ = some (.string x.d.qpa) ∧ w1.cell? ⟨g1, k * 8 + 2, none⟩ = some (x.v2) ∧ w1.cell? ⟨g1, k * 8 + 3, none⟩ = some (.string x.d.qbd) ∧ w1.cell? ⟨g1, k * 8 + 4, none⟩ = some (.int .i64 x.d.rst) ∧ w1.cell? ⟨g1, k * 8 + 5, none⟩ = some (x.v5) ∧ w1.cell? ⟨g1, k * 8 + 6, none⟩ = some (.string x.d.rbd) ∧ w1.cell? ⟨g1, k * 8 + 7, none⟩ = some (.int .i64 x.d.tim) ∧ w1.cell? ⟨g2, k * 8, none⟩ = some (.int .i64 y.d.qmt) ∧ w1.cell? ⟨g2, k * 8 + 1, none⟩ = some (.string y.d.qpa) ∧ w1.cell? ⟨g2, k * 8 + 2, none⟩ = some (y.v2) ∧ w1.cell? ⟨g2, k * 8 + 3, none⟩ = some (.string y.d.qbd) ∧ w1.cell? ⟨g2, k * 8 + 4, none⟩ = some (.int .i64 y.d.rst) ∧ w1.cell? ⟨g2, k * 8 + 5, none⟩ = some (y.v5) ∧ w1.cell? ⟨g2, k * 8 + 6, none⟩ = some (.string y.d.rbd) ∧ w1.cell? ⟨g2, k * 8 + 7, none⟩ = some (.int .i64 y.d.tim)) ∧ Below wr.heap.size wr w1) := fun w0 w1 h h' => by
   have hx := h.trans (h'.mono h.size)
   exact ⟨⟨by rw [hx.cell (p := ⟨g1, k * 8, none⟩) hg1]; exact a0, by rw [hx.cell (p := ⟨g1, k * 8 + 1, none⟩) hg1]; exact a1, by rw [hx.cell (p := ⟨g1, k * 8 + 2, none⟩) hg1]; exact a2, by rw [hx.cell (p := ⟨g1, k * 8 + 3, none⟩) hg1]; exact a3, by rw [hx.cell (p := ⟨g1, k * 8 + 4, none⟩) hg1]; exact a4, by rw [hx.cell (p := ⟨g1, k * 8 + 5, none⟩) hg1]; exact a5, by rw [hx.cell (p := ⟨g1, k * 8 + 6, none⟩) hg1]; exact a6, by rw [hx.cell (p := ⟨g1, k * 8 + 7, none⟩) hg1]; exact a7, by rw [hx.cell (p := ⟨g2, k * 8, none⟩) hg2]; exact b0, by rw [hx.cell (p := ⟨g2, k * 8 + 1, none⟩) hg2]; exact b1, by rw [hx.cell (p := ⟨g2, k * 8 + 2, none⟩) hg2]; exact b2, by rw [hx.cell (p := ⟨g2, k * 8 + 3, none⟩) hg2]; exact b3, by rw [hx.cell (p := ⟨g2, k * 8 + 4, none⟩) hg2]; exact b4, by rw [hx.cell (p := ⟨g2, k * 8 + 5, none⟩) hg2]; exact b5, by rw [hx.cell (p := ⟨g2, k * 8 + 6, none⟩) hg2]; exact b6, by rw [hx.cell (p := ⟨g2, k * 8 + 7, none⟩) hg2]; exact b7⟩, hx⟩
  go_wp2
  go_region_held3 (fun w' => w'.cell? ⟨g1, k * 8, none⟩ = some (.int .i64 x.d.qmt) ∧ w'.cell? ⟨g1, k * 8 + 1, none⟩ = some (.string x.d.qpa) ∧ w'.cell? ⟨g1, k * 8 + 2, none⟩ = some (x.v2) ∧ w'.cell? ⟨g1, k * 8 + 3, none⟩ = some (.string x.d.qbd) ∧ w'.cell? ⟨g1, k * 8 + 4, none⟩ = some (.int .i64 x.d.rst) ∧ w'.cell? ⟨g1, k * 8 + 5, none⟩ = some (x.v5) ∧ w'.cell? ⟨g1, k * 8 + 6, none⟩ = some (.string x.d.rbd) ∧ w'.cell? ⟨g1, k * 8 + 7, none⟩ = some (.int .i64 x.d.tim) ∧ w'.cell? ⟨g2, k * 8, none⟩ = some (.int .i64 y.d.qmt) ∧ w'.cell? ⟨g2, k * 8 + 1, none⟩ = some (.string y.d.qpa) ∧ w'.cell? ⟨g2, k * 8 + 2, none⟩ = some (y.v2) ∧ w'.cell? ⟨g2, k * 8 + 3, none⟩ = some (.string y.d.qbd) ∧ w'.cell? ⟨g2, k * 8 + 4, none⟩ = some (.int .i64 y.d.rst) ∧ w'.cell? ⟨g2, k * 8 + 5, none⟩ = some (y.v5) ∧ w'.cell? ⟨g2, k * 8 + 6, none⟩ = some (.string y.d.rbd) ∧ w'.cell? ⟨g2, k * 8 + 7, none⟩ = some (.int .i64 y.d.tim)) (first | assumption | go_keep) (first | (go_at_call 55; refine (eqSeen_any x.d x y B1 B2 _ rfl HXY.out.symm (HO1.out _ ((Below.refl _ wr).drew)) (HO2.out _ ((Below.refl _ wr).drew)) HSZ.out).mono ?_; rintro e w1 ⟨rfl, hb1⟩; obtain ⟨hcc, hbx⟩ := HA.out _ w1 ((Below.refl _ wr).drew) hb1))
  go_wp2
  go_roundw
  case rel => exact ⟨k + 1, by omega, by go_num, HBW.out.trans (hbx.mono HBW.out.size)⟩
  case measure => simp [intOf]; omega
structure RpD where
 cli : Int
 qmt : Int
 qpa : ByteArray
 qfs : Fs
 qbd : ByteArray
 rst : Int
 rfs : Fs
 rbd : ByteArray
 knd : Int
 tim : Int
 opa : ByteArray
 oxs : Ts
 oys : Ts
 ost : Int
 ofs : Fs
 obd : ByteArray
 otm : Int
 bns : Int
structure RpV where
 d : RpD
 v3 : Value
 v6 : Value
 v11 : Value
 v12 : Value
 v14 : Value
def zeroRp : RpD := ⟨0, 0, ⟨#[]⟩, [], ⟨#[]⟩, 0, [], ⟨#[]⟩, 0, 0, ⟨#[]⟩, [], [], 0, [], ⟨#[]⟩, 0, 0⟩
def rpAt (ks : List RpD) (i : Nat) : RpD := ks.getD i zeroRp
def zeroRpV : RpV := ⟨zeroRp, .slice none 0 0, .slice none 0 0, .slice none 0 0, .slice none 0 0, .slice none 0 0⟩
def rpvAt (kv : List RpV) (i : Nat) : RpV := kv.getD i zeroRpV
def rpC (x : RpV) : List Value := [.int .i64 x.d.cli, .int .i64 x.d.qmt, .string x.d.qpa, x.v3, .string x.d.qbd, .int .i64 x.d.rst, x.v6, .string x.d.rbd, .int .i64 x.d.knd, .int .i64 x.d.tim, .string x.d.opa, x.v11, x.v12, .int .i64 x.d.ost, x.v14, .string x.d.obd, .int .i64 x.d.otm, .int .i64 x.d.bns]
theorem rpC_len (x : RpV) : (rpC x).length = 18 := rfl
def rpR (x : RpV) : List Rw := [(⟨185, 2, x.v3, x.d.qfs.length, flatF x.d.qfs⟩ : Rw), (⟨185, 2, x.v6, x.d.rfs.length, flatF x.d.rfs⟩ : Rw), (⟨9, 1, x.v11, x.d.oxs.length, x.d.oxs.map Value.string⟩ : Rw), (⟨9, 1, x.v12, x.d.oys.length, x.d.oys.map Value.string⟩ : Rw), (⟨185, 2, x.v14, x.d.ofs.length, flatF x.d.ofs⟩ : Rw)]
def rpRow (V : Value) (kv : List RpV) : Rw := ⟨64, 18, V, kv.length, kv.flatMap rpC⟩
def rpAll (V : Value) (kv : List RpV) : List Rw := rpRow V kv :: kv.flatMap rpR
def RpsO (w : World) (base : Nat) (V : Value) (kv : List RpV) : Prop := RowsO w base (rpAll V kv)
theorem RpsO.row {w : World} {base : Nat} {V : Value} {kv : List RpV} (h : RpsO w base V kv) : w.ownsRow base 64 18 V kv.length (kv.flatMap rpC) := h.own (rpRow V kv) (by simp [rpAll])
theorem RpsO.len {w : World} {base : Nat} {V : Value} {kv : List RpV} (h : RpsO w base V kv) : ∃ oa cp, V = .slice oa kv.length cp := slice_of_owns h.row
theorem RpsO.below {w w' : World} {base : Nat} {V : Value} {kv : List RpV} (h : RpsO w base V kv) (hb : Below w.heap.size w w') : RpsO w' base V kv := RowsO.below h hb
theorem RpsO.item {w : World} {base : Nat} {V : Value} {kv : List RpV} (h : RpsO w base V kv) {x : RpV} (hx : x ∈ kv) : RowsO w base (rpR x) := by
 obtain ⟨s, t, e⟩ := List.append_of_mem hx
 refine RowsO.sub h ?_
 unfold rpAll
 rw [e, List.flatMap_append, List.flatMap_cons]
 exact ((List.sublist_append_left _ _).trans (List.sublist_append_right _ _)).trans (List.sublist_cons_self _ _)
theorem rpR_T {x : RpV} {r : Rw} (h : r ∈ rpR x) : r.T = 185 ∨ r.T = 9 := by
 simp only [rpR, List.mem_cons, List.not_mem_nil, or_false] at h
 rcases h with rfl | rfl | rfl | rfl | rfl <;> simp
structure RpAt (w : World) (g i : Nat) (x : RpV) : Prop where
 c0 : w.cell? ⟨g, i * 18, none⟩ = some (.int .i64 x.d.cli)
 c1 : w.cell? ⟨g, i * 18 + 1, none⟩ = some (.int .i64 x.d.qmt)
 c2 : w.cell? ⟨g, i * 18 + 2, none⟩ = some (.string x.d.qpa)
 c3 : w.cell? ⟨g, i * 18 + 3, none⟩ = some (x.v3)
 c4 : w.cell? ⟨g, i * 18 + 4, none⟩ = some (.string x.d.qbd)
 c5 : w.cell? ⟨g, i * 18 + 5, none⟩ = some (.int .i64 x.d.rst)
 c6 : w.cell? ⟨g, i * 18 + 6, none⟩ = some (x.v6)
 c7 : w.cell? ⟨g, i * 18 + 7, none⟩ = some (.string x.d.rbd)
 c8 : w.cell? ⟨g, i * 18 + 8, none⟩ = some (.int .i64 x.d.knd)
 c9 : w.cell? ⟨g, i * 18 + 9, none⟩ = some (.int .i64 x.d.tim)
 c10 : w.cell? ⟨g, i * 18 + 10, none⟩ = some (.string x.d.opa)
 c11 : w.cell? ⟨g, i * 18 + 11, none⟩ = some (x.v11)
 c12 : w.cell? ⟨g, i * 18 + 12, none⟩ = some (x.v12)
 c13 : w.cell? ⟨g, i * 18 + 13, none⟩ = some (.int .i64 x.d.ost)
 c14 : w.cell? ⟨g, i * 18 + 14, none⟩ = some (x.v14)
 c15 : w.cell? ⟨g, i * 18 + 15, none⟩ = some (.string x.d.obd)
 c16 : w.cell? ⟨g, i * 18 + 16, none⟩ = some (.int .i64 x.d.otm)
 c17 : w.cell? ⟨g, i * 18 + 17, none⟩ = some (.int .i64 x.d.bns)
theorem RpsO.at {w : World} {base : Nat} {V : Value} {kv : List RpV} (h : RpsO w base V kv) (i : Nat) (hi : i < kv.length) : ∃ g cap, V = .slice (some ⟨g, 0, none⟩) kv.length cap ∧ g < w.heap.size ∧ RpAt w g i (kv[i]'hi) := by
 have hr := h.row
 rcases hr.2 with ⟨_, h0⟩ | ⟨g, cap, cur, rfl, _, h1, _⟩
 · omega
 ·have key : ∀ j, j < 18 → ∀ u, (rpC (kv[i]'hi))[j]? = some u → w.cell? ⟨g, i * 18 + j, none⟩ = some u := fun j hj u hu => (owns_cellC hr (i * 18 + j) u (by rw [items_at rpC 18 rpC_len kv i j hi hj]; exact hu)).1
  exact ⟨g, cap, rfl, (blt h1), ⟨key 0 (by decide) _ rfl, key 1 (by decide) _ rfl, key 2 (by decide) _ rfl, key 3 (by decide) _ rfl, key 4 (by decide) _ rfl, key 5 (by decide) _ rfl, key 6 (by decide) _ rfl, key 7 (by decide) _ rfl, key 8 (by decide) _ rfl, key 9 (by decide) _ rfl, key 10 (by decide) _ rfl, key 11 (by decide) _ rfl, key 12 (by decide) _ rfl, key 13 (by decide) _ rfl, key 14 (by decide) _ rfl, key 15 (by decide) _ rfl, key 16 (by decide) _ rfl, key 17 (by decide) _ rfl⟩⟩
theorem RpsO.look {w : World} {base : Nat} {V : Value} {kv : List RpV} (h : RpsO w base V kv) (i : Nat) (hi : i < kv.length) : ∃ g cap, V = .slice (some ⟨g, 0, none⟩) kv.length cap ∧ g < w.heap.size ∧ RpAt w g i (rpvAt kv i) := by
 have h2 := h.at i hi
 have e : rpvAt kv i = kv[i]'hi := by
  unfold rpvAt
  rw [List.getD_eq_getElem?_getD, List.getElem?_eq_getElem hi]
  rfl
 rw [e]
 exact h2
end Go.Proofs.YtpacdigfnneoeaaGreatDoor
