/- What the proof of FnExactJudgeOnce leans on: contracts of the program's and the specification's functions, and plain facts (part 7 of 11). -/
import Derived.Test.YtbmhonfgffjpcaaGreatFnExactJudgeOnceF
set_option maxHeartbeats 16000000
set_option maxRecDepth 100000
namespace Go.Proofs.YtbmhonfgffjpcaaGreat
open Go.RowKit Go.WideShapes
open Go.Lib hiding intOf
/-- What a cache tells. -/
structure CaD where
 s : ShD
 fl : List FlD
 now : Int
 se : List SeD
 sn : List RpD
/-- All rows of a cache. -/
def caAll (v1 v2 V VB F E R : Value) (kv : List (KpD × Value × Value × Value)) (fv : List FlV) (ev : List SeV) (rv : List RpV) (cs : List ByteArray) (ws : List (Int × ByteArray)) (bl : List (Int × ByteArray × ByteArray × Int)) : List Rw := ((shAll v1 v2 V VB kv cs ws bl ++ flAll F fv) ++ seAll E ev) ++ rpAll R rv
/-- A cache of one's own. -/
structure CacheO (w : World) (base : Nat) (v1 v2 V VB F E R : Value) (kv : List (KpD × Value × Value × Value)) (fv : List FlV) (ev : List SeV) (rv : List RpV) (c : CaD) : Prop where
 rows : RowsO w base (caAll v1 v2 V VB F E R kv fv ev rv c.s.cs c.s.ws c.s.bl)
 hk : kv.map (·.1) = c.s.ks
 hf : fv.map (·.d) = c.fl
 he : ev.map (·.d) = c.se
 hr : rv.map (·.d) = c.sn
theorem CacheO.shelf {w : World} {base : Nat} {v1 v2 V VB F E R : Value} {kv : List (KpD × Value × Value × Value)} {fv : List FlV} {ev : List SeV} {rv : List RpV} {c : CaD} (h : CacheO w base v1 v2 V VB F E R kv fv ev rv c) : ShelfO w base v1 v2 V VB kv c.s := ⟨RowsO.sub h.rows ((List.sublist_append_left _ _).trans ((List.sublist_append_left _ _).trans (List.sublist_append_left _ _))), h.hk⟩
theorem CacheO.fls {w : World} {base : Nat} {v1 v2 V VB F E R : Value} {kv : List (KpD × Value × Value × Value)} {fv : List FlV} {ev : List SeV} {rv : List RpV} {c : CaD} (h : CacheO w base v1 v2 V VB F E R kv fv ev rv c) : FlsO w base F fv := RowsO.sub h.rows ((List.sublist_append_right _ _).trans ((List.sublist_append_left _ _).trans (List.sublist_append_left _ _)))
theorem CacheO.ses {w : World} {base : Nat} {v1 v2 V VB F E R : Value} {kv : List (KpD × Value × Value × Value)} {fv : List FlV} {ev : List SeV} {rv : List RpV} {c : CaD} (h : CacheO w base v1 v2 V VB F E R kv fv ev rv c) : SesO w base E ev := RowsO.sub h.rows ((List.sublist_append_right _ _).trans (List.sublist_append_left _ _))
theorem CacheO.rps {w : World} {base : Nat} {v1 v2 V VB F E R : Value} {kv : List (KpD × Value × Value × Value)} {fv : List FlV} {ev : List SeV} {rv : List RpV} {c : CaD} (h : CacheO w base v1 v2 V VB F E R kv fv ev rv c) : RpsO w base R rv := RowsO.sub h.rows (List.sublist_append_right _ _)
theorem CacheO.below {w : World} {base : Nat} {v1 v2 V VB F E R : Value} {kv : List (KpD × Value × Value × Value)} {fv : List FlV} {ev : List SeV} {rv : List RpV} {c : CaD} {w' : World} (h : CacheO w base v1 v2 V VB F E R kv fv ev rv c) (hb : Below w.heap.size w w') : CacheO w' base v1 v2 V VB F E R kv fv ev rv c := ⟨h.rows.below hb, h.hk, h.hf, h.he, h.hr⟩
theorem flAll_T {V : Value} {kv : List FlV} {r : Rw} (h : r ∈ flAll V kv) : r.T = 129 ∨ r.T = 171 ∨ r.T = 3 ∨ r.T = 9 := by
 rcases List.mem_cons.1 h with h | h
 · exact .inl (by rw [h]; rfl)
 ·
  obtain ⟨x, _, hx⟩ := List.mem_flatMap.1 h
  exact .inr (flR_T hx)
theorem seAll_T {V : Value} {kv : List SeV} {r : Rw} (h : r ∈ seAll V kv) : r.T = 83 ∨ r.T = 171 := by
 rcases List.mem_cons.1 h with h | h
 · exact .inl (by rw [h]; rfl)
 ·
  obtain ⟨x, _, hx⟩ := List.mem_flatMap.1 h
  exact .inr (seR_T hx)
theorem rpAll_T {V : Value} {kv : List RpV} {r : Rw} (h : r ∈ rpAll V kv) : r.T = 68 ∨ r.T = 171 ∨ r.T = 9 := by
 rcases List.mem_cons.1 h with h | h
 · exact .inl (by rw [h]; rfl)
 ·
  obtain ⟨x, _, hx⟩ := List.mem_flatMap.1 h
  exact .inr (rpR_T hx)
theorem shAll_noC (T : TypeId) (hT : T ≠ 9 ∧ T ≠ 199 ∧ T ≠ 103 ∧ T ≠ 152 ∧ T ≠ 171 ∧ T ≠ 3 ∧ T ≠ 129 ∧ T ≠ 83 ∧ T ≠ 68) {v1 v2 V VB : Value} {kv : List (KpD × Value × Value × Value)} {cs : List ByteArray} {ws : List (Int × ByteArray)} {bl : List (Int × ByteArray × ByteArray × Int)} : ∀ r ∈ shAll v1 v2 V VB kv cs ws bl, T ≠ r.T := by
 intro r hr
 unfold shAll at hr
 rcases List.mem_append.1 hr with hr | hr
 ·
  rcases List.mem_append.1 hr with hr | hr
  ·
   simp only [List.mem_cons, List.not_mem_nil, or_false] at hr
   rcases hr with rfl | rfl
   · exact hT.1
   · exact hT.2.1
  ·
   rcases kpAll_T hr with e | e | e
   · rw [e]; exact hT.2.2.1
   · rw [e]; exact hT.1
   · rw [e]; exact hT.2.2.2.2.1
 · rw [List.mem_singleton.1 hr]; exact hT.2.2.2.1
/-- A call answers a cache of its own. -/
def CacheIs (c : CaD) (w : World) (e : Ending) (w' : World) : Prop := ∃ (v1 v2 V VB F E R : Value) (kv : List (KpD × Value × Value × Value)) (fv : List FlV) (ev : List SeV) (rv : List RpV), e = .returned (.agg #[v1, v2, V, VB, .int .i64 c.s.nx, .int .i64 c.s.sq, F, .int .i64 c.now, E, R]) ∧ CacheO w' w.heap.size v1 v2 V VB F E R kv fv ev rv c ∧ Below w.heap.size w w'
/-- Short enough to be copied. -/
structure CaLen (n1 n2 n3 n4 n5 n6 n7 : Nat) (ks : List KpD) (fl : List FlD) (se : List SeD) (sn : List RpD) : Prop where
 a : n1 ≤ 1048576
 b : n2 ≤ 1048576
 c : n3 ≤ 1048576
 d : n4 ≤ 1048576
 e : n5 ≤ 1048576
 f : n6 ≤ 1048576
 g : n7 ≤ 1048576
 ks : ∀ k ∈ ks, k.xs.length ≤ 1048576 ∧ k.ys.length ≤ 1048576 ∧ k.fs.length ≤ 1048576
 fl : ∀ k ∈ fl, FlLen k
 se : ∀ k ∈ se, SeLen k
 sn : ∀ k ∈ sn, RpLen k
theorem toCache_any (a1 : Option Addr) (n1 c1 : Nat) (cs : List ByteArray) (a2 : Option Addr) (n2 c2 : Nat) (ws : List (Int × ByteArray)) (a3 : Option Addr) (n3 c3 : Nat) (ks : List KpD) (a4 : Option Addr) (n4 c4 : Nat) (bl : List (Int × ByteArray × ByteArray × Int)) (nx sq : Int) (a5 : Option Addr) (n5 c5 : Nat) (fl : List FlD) (now : Int) (a6 : Option Addr) (n6 c6 : Nat) (se : List SeD) (a7 : Option Addr) (n7 c7 : Nat) (sn : List RpD) (B : Nat) (w : World) (h1 : ArgT w B a1 n1 cs) (h2 : ArgWrite w B a2 n2 ws) (h3 : ArgKept w B a3 n3 ks) (h4 : ArgBan w B a4 n4 bl) (h5 : ArgFlight w B a5 n5 fl) (h6 : ArgSeen w B a6 n6 se) (h7 : ArgReply w B a7 n7 sn) (hB : B ≤ w.heap.size) (hn : CaLen n1 n2 n3 n4 n5 n6 n7 ks fl se sn) :
  Calls Tryz.prog 9 #[.agg #[.slice a1 n1 c1, .slice a2 n2 c2, .slice a3 n3 c3, .slice a4 n4 c4, .int .i64 nx, .int .i64 sq, .slice a5 n5 c5, .int .i64 now, .slice a6 n6 c6, .slice a7 n7 c7]] w fun e w' => CacheIs ⟨⟨cs, ws, ks, bl, nx, sq⟩, fl, now, se, sn⟩ w e w' := by
 have HA1 : Hid (∀ W, Below w.heap.size w W → ArgT W B a1 n1 cs) := fun W h => h1.below (h.mono hB)
 have HA2 : Hid (∀ W, Below w.heap.size w W → ArgWrite W B a2 n2 ws) := fun W h => h2.below (h.mono hB)
 have HA3 : Hid (∀ W, Below w.heap.size w W → ArgKept W B a3 n3 ks) := fun W h => h3.below (h.mono hB)
 have HA4 : Hid (∀ W, Below w.heap.size w W → ArgBan W B a4 n4 bl) := fun W h => h4.below (h.mono hB)
 have HA5 : Hid (∀ W, Below w.heap.size w W → ArgFlight W B a5 n5 fl) := fun W h => h5.below (h.mono hB)
 have HA6 : Hid (∀ W, Below w.heap.size w W → ArgSeen W B a6 n6 se) := fun W h => h6.below (h.mono hB)
 have HA7 : Hid (∀ W, Below w.heap.size w W → ArgReply W B a7 n7 sn) := fun W h => h7.below (h.mono hB)
 have HBB : Hid (∀ W, Below w.heap.size w W → B ≤ W.heap.size) := fun W h => Nat.le_trans hB h.size
 have HN : Hid (CaLen n1 n2 n3 n4 n5 n6 n7 ks fl se sn) := hn
 clear h1 h2 h3 h4 h5 h6 h7 hn hB
 have hb0 : Below w.heap.size w w := Below.refl _ _
 go_enter Tryz.func9, Tryz.ntmps9
 go_upto_region 1 with fail
 obtain ⟨qv1, hqv1⟩ := exq ((w).heap.size)
 obtain ⟨w1, hW1⟩ := exq ((w).alloc (.cells #[.slice a1 n1 c1, .slice a2 n2 c2, .slice a3 n3 c3, .slice a4 n4 c4, .int .i64 nx, .int .i64 sq, .slice a5 n5 c5, .int .i64 now, .slice a6 n6 c6, .slice a7 n7 c7] 34))
 have hz1 : (w).heap.size = qv1 := hqv1.symm
 first | rw [← hW1, ← hqv1] | rw [← hW1]
 have hs1 := hsa hW1 hz1
 have bw := bal hW1
 have hb1 := hbt hb0 bw
 have HBv1_1 := hnew hW1 hz1
 clear hb0 bw hW1 hz1
 obtain ⟨qv2, hqv2⟩ := exq (qv1 + 1)
 obtain ⟨w2, hW2⟩ := exq ((w1).alloc (.cells #[.slice none 0 0, .slice none 0 0, .slice none 0 0, .slice none 0 0, .int .i64 0, .int .i64 0, .slice none 0 0, .int .i64 0, .slice none 0 0, .slice none 0 0] 58))
 have hz2 : (w1).heap.size = qv2 := by rw [hqv2]; exact hs1
 first | rw [← hW2, ← hqv2] | rw [← hW2]
 have hs2 := hsa hW2 hz2
 have bw := bal hW2
 have hb2 := hbt hb1 bw
 have HBv1_2 := hblk HBv1_1 bw
 have HNv1v2 : Hid (qv1 ≠ qv2) := fun e => by have h1 := (Array.getElem?_eq_some_iff.1 HBv1_1.out).1; omega
 have HBv2_2 := hnew hW2 hz2
 have HGv2 := hge hz2 hb1
 clear hb1 HBv1_1 bw hW2 hz2
 clear hs2 hqv2 hs1 hqv1
 go_upto_region 2 with fail
 obtain ⟨qv3, hqv3⟩ := exq ((w2).heap.size)
 obtain ⟨w3, hW3⟩ := exq ((w2).alloc (.cells #[.slice none 0 0, .slice none 0 0, .slice none 0 0, .slice none 0 0, .int .i64 0, .int .i64 0, .slice none 0 0, .int .i64 0, .slice none 0 0, .slice none 0 0] 58))
 have hz3 : (w2).heap.size = qv3 := hqv3.symm
 first | rw [← hW3, ← hqv3] | rw [← hW3]
 have hs3 := hsa hW3 hz3
 have bw := bal hW3
 have hb3 := hbt hb2 bw
 have HBv1_3 := hblk HBv1_2 bw
 have HBv2_3 := hblk HBv2_2 bw
 have HNv1v3 : Hid (qv1 ≠ qv3) := fun e => by have h1 := (Array.getElem?_eq_some_iff.1 HBv1_2.out).1; omega
 have HNv2v3 : Hid (qv2 ≠ qv3) := fun e => by have h1 := (Array.getElem?_eq_some_iff.1 HBv2_2.out).1; omega
 have HBv3_3 := hnew hW3 hz3
 have HGv3 := hge hz3 hb2
 clear hb2 HBv1_2 HBv2_2 bw hW3 hz3
 clear hs3 hqv3
 have cv1_0 := (k10c HBv1_3).1
 have cv1_1 := (k10c HBv1_3).2.1
 have cv1_2 := (k10c HBv1_3).2.2.1
 have cv1_3 := (k10c HBv1_3).2.2.2.1
 have cv1_4 := (k10c HBv1_3).2.2.2.2.1
 have cv1_5 := (k10c HBv1_3).2.2.2.2.2.1
 go_wp2_with fail
 refine (toShelf_any a1 n1 c1 cs a2 n2 c2 ws a3 n3 c3 ks a4 n4 c4 bl nx sq B _ (HA1.out _ hb3) (HA2.out _ hb3) (HA3.out _ hb3) (HA4.out _ hb3) (HBB.out _ hb3) HN.out.a HN.out.b HN.out.c HN.out.d HN.out.ks).mono ?_
 rintro e w4 ⟨va, vb, vc, vd, kv, rfl, hso, bw⟩
 have HKM : Hid (kv.map (·.1) = ks) := hso.2
 obtain ⟨oC, pC, rfl⟩ := slice_of_owns hso.disk.cells
 obtain ⟨oP, pP, rfl⟩ := slice_of_owns hso.disk.pend
 obtain ⟨oK, pK, rfl⟩ := hso.kept.len
 obtain ⟨oB, pB, rfl⟩ := slice_of_owns hso.bans
 dsimp only at hso ⊢
 have HRN : Hid (RowsO w4 w.heap.size (shAll (.slice oC cs.length pC) (.slice oP ws.length pP) (.slice oK kv.length pK) (.slice oB bl.length pB) kv cs ws bl)) := RowsO.wide hso.1 hb3.size
 have HT0 : Hid (∀ r ∈ (shAll (.slice oC cs.length pC) (.slice oP ws.length pP) (.slice oK kv.length pK) (.slice oB bl.length pB) kv cs ws bl), 58 ≠ r.T) := shAll_noC 58 ⟨by decide, by decide, by decide, by decide, by decide, by decide, by decide, by decide, by decide⟩
 have hb4 := hbt hb3 bw
 have HBv1_4 := hblk HBv1_3 bw
 have HBv2_4 := hblk HBv2_3 bw
 have HBv3_4 := hblk HBv3_3 bw
 clear hb3 HBv1_3 HBv2_3 HBv3_3 bw
 have ER_4 : Hid (RowsO (w4) w.heap.size (shAll (.slice oC cs.length pC) (.slice oP ws.length pP) (.slice oK kv.length pK) (.slice oB bl.length pB) kv cs ws bl)) := HRN.out
 clear HRN
 clear cv1_0 cv1_1 cv1_2 cv1_3 cv1_4 cv1_5
 have cv3_0 := (k10c HBv3_4).1
 have fcv3_0 := hfz HBv3_4 0
 have cv3_1 := (k10c HBv3_4).2.1
 have fcv3_1 := hfz HBv3_4 1
 have cv3_2 := (k10c HBv3_4).2.2.1
 have fcv3_2 := hfz HBv3_4 2
 have cv3_3 := (k10c HBv3_4).2.2.2.1
 have fcv3_3 := hfz HBv3_4 3
 have cv3_4 := (k10c HBv3_4).2.2.2.2.1
 have fcv3_4 := hfz HBv3_4 4
 have cv3_5 := (k10c HBv3_4).2.2.2.2.2.1
 have fcv3_5 := hfz HBv3_4 5
 go_upto_region 3 with fail
 obtain ⟨w5, hW5⟩ := exq ((w4).setCell ⟨qv3, 0, none⟩ (.slice oC cs.length pC))
 rw [← hW5]
 have hb5 := hbS hW5 hb4 HGv3
 have HBv1_5 := hset hW5 HNv1v3.out HBv1_4
 have HBv2_5 := hset hW5 HNv2v3.out HBv2_4
 have ER_5 := erS hW5 ER_4 HBv3_4 HT0.out
 have HBv3_5 : Hid ((w5).heap[qv3]? = some (.cells #[.slice oC cs.length pC, .slice none 0 0, .slice none 0 0, .slice none 0 0, .int .i64 0, .int .i64 0, .slice none 0 0, .int .i64 0, .slice none 0 0, .slice none 0 0] 58)) := by show _ = _; rw [hW5]; have h := heap_set _ _ 0 _ _ _ (.slice oC cs.length pC) HBv3_4.out; simpa using h
 clear hb4 HBv1_4 HBv2_4 HBv3_4 ER_4 hW5
 obtain ⟨w6, hW6⟩ := exq ((w5).setCell ⟨qv3, 1, none⟩ (.slice oP ws.length pP))
 rw [← hW6]
 have hb6 := hbS hW6 hb5 HGv3
 have HBv1_6 := hset hW6 HNv1v3.out HBv1_5
 have HBv2_6 := hset hW6 HNv2v3.out HBv2_5
 have ER_6 := erS hW6 ER_5 HBv3_5 HT0.out
 have HBv3_6 : Hid ((w6).heap[qv3]? = some (.cells #[.slice oC cs.length pC, .slice oP ws.length pP, .slice none 0 0, .slice none 0 0, .int .i64 0, .int .i64 0, .slice none 0 0, .int .i64 0, .slice none 0 0, .slice none 0 0] 58)) := by show _ = _; rw [hW6]; have h := heap_set _ _ 1 _ _ _ (.slice oP ws.length pP) HBv3_5.out; simpa using h
 clear hb5 HBv1_5 HBv2_5 HBv3_5 ER_5 hW6
 obtain ⟨w7, hW7⟩ := exq ((w6).setCell ⟨qv3, 2, none⟩ (.slice oK kv.length pK))
 rw [← hW7]
 have hb7 := hbS hW7 hb6 HGv3
 have HBv1_7 := hset hW7 HNv1v3.out HBv1_6
 have HBv2_7 := hset hW7 HNv2v3.out HBv2_6
 have ER_7 := erS hW7 ER_6 HBv3_6 HT0.out
 have HBv3_7 : Hid ((w7).heap[qv3]? = some (.cells #[.slice oC cs.length pC, .slice oP ws.length pP, .slice oK kv.length pK, .slice none 0 0, .int .i64 0, .int .i64 0, .slice none 0 0, .int .i64 0, .slice none 0 0, .slice none 0 0] 58)) := by show _ = _; rw [hW7]; have h := heap_set _ _ 2 _ _ _ (.slice oK kv.length pK) HBv3_6.out; simpa using h
 clear hb6 HBv1_6 HBv2_6 HBv3_6 ER_6 hW7
 obtain ⟨w8, hW8⟩ := exq ((w7).setCell ⟨qv3, 3, none⟩ (.slice oB bl.length pB))
 rw [← hW8]
 have hb8 := hbS hW8 hb7 HGv3
 have HBv1_8 := hset hW8 HNv1v3.out HBv1_7
 have HBv2_8 := hset hW8 HNv2v3.out HBv2_7
 have ER_8 := erS hW8 ER_7 HBv3_7 HT0.out
 have HBv3_8 : Hid ((w8).heap[qv3]? = some (.cells #[.slice oC cs.length pC, .slice oP ws.length pP, .slice oK kv.length pK, .slice oB bl.length pB, .int .i64 0, .int .i64 0, .slice none 0 0, .int .i64 0, .slice none 0 0, .slice none 0 0] 58)) := by show _ = _; rw [hW8]; have h := heap_set _ _ 3 _ _ _ (.slice oB bl.length pB) HBv3_7.out; simpa using h
 clear hb7 HBv1_7 HBv2_7 HBv3_7 ER_7 hW8
 obtain ⟨w9, hW9⟩ := exq ((w8).setCell ⟨qv3, 4, none⟩ (.int .i64 nx))
 rw [← hW9]
 have hb9 := hbS hW9 hb8 HGv3
 have HBv1_9 := hset hW9 HNv1v3.out HBv1_8
 have HBv2_9 := hset hW9 HNv2v3.out HBv2_8
 have ER_9 := erS hW9 ER_8 HBv3_8 HT0.out
 have HBv3_9 : Hid ((w9).heap[qv3]? = some (.cells #[.slice oC cs.length pC, .slice oP ws.length pP, .slice oK kv.length pK, .slice oB bl.length pB, .int .i64 nx, .int .i64 0, .slice none 0 0, .int .i64 0, .slice none 0 0, .slice none 0 0] 58)) := by show _ = _; rw [hW9]; have h := heap_set _ _ 4 _ _ _ (.int .i64 nx) HBv3_8.out; simpa using h
 clear hb8 HBv1_8 HBv2_8 HBv3_8 ER_8 hW9
 obtain ⟨w10, hW10⟩ := exq ((w9).setCell ⟨qv3, 5, none⟩ (.int .i64 sq))
 rw [← hW10]
 have hb10 := hbS hW10 hb9 HGv3
 have HBv1_10 := hset hW10 HNv1v3.out HBv1_9
 have HBv2_10 := hset hW10 HNv2v3.out HBv2_9
 have ER_10 := erS hW10 ER_9 HBv3_9 HT0.out
 have HBv3_10 : Hid ((w10).heap[qv3]? = some (.cells #[.slice oC cs.length pC, .slice oP ws.length pP, .slice oK kv.length pK, .slice oB bl.length pB, .int .i64 nx, .int .i64 sq, .slice none 0 0, .int .i64 0, .slice none 0 0, .slice none 0 0] 58)) := by show _ = _; rw [hW10]; have h := heap_set _ _ 5 _ _ _ (.int .i64 sq) HBv3_9.out; simpa using h
 clear hb9 HBv1_9 HBv2_9 HBv3_9 ER_9 hW10
 clear cv3_0 fcv3_0 cv3_1 fcv3_1 cv3_2 fcv3_2 cv3_3 fcv3_3 cv3_4 fcv3_4 cv3_5 fcv3_5
 have cv1_6 := (k10c HBv1_10).2.2.2.2.2.2.1
 go_wp2_with fail
 refine (toFlightS_any B a5 n5 c5 fl _ (HA5.out _ hb10) (HBB.out _ hb10) HN.out.e HN.out.fl).mono ?_
 rintro e w11 ⟨VF, fv, rfl, hfm, hfo, bw⟩
 have HFM : Hid (fv.map (·.d) = fl) := hfm
 obtain ⟨oF, pF, rfl⟩ := hfo.len
 have HRN : Hid (RowsO w11 w.heap.size (shAll (.slice oC cs.length pC) (.slice oP ws.length pP) (.slice oK kv.length pK) (.slice oB bl.length pB) kv cs ws bl ++ flAll (.slice oF fv.length pF) fv)) := ER_10.out.more bw hfo (Nat.le_refl _) hb10.size
 have HT1 : Hid (∀ r ∈ (shAll (.slice oC cs.length pC) (.slice oP ws.length pP) (.slice oK kv.length pK) (.slice oB bl.length pB) kv cs ws bl ++ flAll (.slice oF fv.length pF) fv), 58 ≠ r.T) := by
  intro r hr
  rcases List.mem_append.1 hr with hr | hr
  · exact HT0.out r hr
  · rcases flAll_T hr with e | e | e | e <;> rw [e] <;> decide
 have hb11 := hbt hb10 bw
 have HBv1_11 := hblk HBv1_10 bw
 have HBv2_11 := hblk HBv2_10 bw
 have HBv3_11 := hblk HBv3_10 bw
 have ER_11 : Hid (RowsO (w11) w.heap.size (shAll (.slice oC cs.length pC) (.slice oP ws.length pP) (.slice oK kv.length pK) (.slice oB bl.length pB) kv cs ws bl)) := ER_10.out.below bw
 clear hb10 HBv1_10 HBv2_10 HBv3_10 ER_10 bw
 clear ER_11
 have ER_11 : Hid (RowsO (w11) w.heap.size (shAll (.slice oC cs.length pC) (.slice oP ws.length pP) (.slice oK kv.length pK) (.slice oB bl.length pB) kv cs ws bl ++ flAll (.slice oF fv.length pF) fv)) := HRN.out
 clear HRN
 clear cv1_6
 have cv3_6 := (k10c HBv3_11).2.2.2.2.2.2.1
 have fcv3_6 := hfz HBv3_11 6
 go_upto_region 4 with fail
 obtain ⟨w12, hW12⟩ := exq ((w11).setCell ⟨qv3, 6, none⟩ (.slice oF fv.length pF))
 rw [← hW12]
 have hb12 := hbS hW12 hb11 HGv3
 have HBv1_12 := hset hW12 HNv1v3.out HBv1_11
 have HBv2_12 := hset hW12 HNv2v3.out HBv2_11
 have ER_12 := erS hW12 ER_11 HBv3_11 HT1.out
 have HBv3_12 : Hid ((w12).heap[qv3]? = some (.cells #[.slice oC cs.length pC, .slice oP ws.length pP, .slice oK kv.length pK, .slice oB bl.length pB, .int .i64 nx, .int .i64 sq, .slice oF fv.length pF, .int .i64 0, .slice none 0 0, .slice none 0 0] 58)) := by show _ = _; rw [hW12]; have h := heap_set _ _ 6 _ _ _ (.slice oF fv.length pF) HBv3_11.out; simpa using h
 clear hb11 HBv1_11 HBv2_11 HBv3_11 ER_11 hW12
 clear cv3_6 fcv3_6
 have cv1_7 := (k10c HBv1_12).2.2.2.2.2.2.2.1
 have cv3_7 := (k10c HBv3_12).2.2.2.2.2.2.2.1
 have fcv3_7 := hfz HBv3_12 7
 go_upto_region 5 with fail
 obtain ⟨w13, hW13⟩ := exq ((w12).setCell ⟨qv3, 7, none⟩ (.int .i64 now))
 rw [← hW13]
 have hb13 := hbS hW13 hb12 HGv3
 have HBv1_13 := hset hW13 HNv1v3.out HBv1_12
 have HBv2_13 := hset hW13 HNv2v3.out HBv2_12
 have ER_13 := erS hW13 ER_12 HBv3_12 HT1.out
 have HBv3_13 : Hid ((w13).heap[qv3]? = some (.cells #[.slice oC cs.length pC, .slice oP ws.length pP, .slice oK kv.length pK, .slice oB bl.length pB, .int .i64 nx, .int .i64 sq, .slice oF fv.length pF, .int .i64 now, .slice none 0 0, .slice none 0 0] 58)) := by show _ = _; rw [hW13]; have h := heap_set _ _ 7 _ _ _ (.int .i64 now) HBv3_12.out; simpa using h
 clear hb12 HBv1_12 HBv2_12 HBv3_12 ER_12 hW13
 clear cv1_7 cv3_7 fcv3_7
 have cv1_8 := (k10c HBv1_13).2.2.2.2.2.2.2.2.1
 go_wp2_with fail
 refine (toSeenS_any B a6 n6 c6 se _ (HA6.out _ hb13) (HBB.out _ hb13) HN.out.f HN.out.se).mono ?_
 rintro e w14 ⟨VE, ev, rfl, hem, heo, bw⟩
 have HEM : Hid (ev.map (·.d) = se) := hem
 obtain ⟨oE, pE, rfl⟩ := heo.len
 have HRN : Hid (RowsO w14 w.heap.size ((shAll (.slice oC cs.length pC) (.slice oP ws.length pP) (.slice oK kv.length pK) (.slice oB bl.length pB) kv cs ws bl ++ flAll (.slice oF fv.length pF) fv) ++ seAll (.slice oE ev.length pE) ev)) := ER_13.out.more bw heo (Nat.le_refl _) hb13.size
 have HT2 : Hid (∀ r ∈ ((shAll (.slice oC cs.length pC) (.slice oP ws.length pP) (.slice oK kv.length pK) (.slice oB bl.length pB) kv cs ws bl ++ flAll (.slice oF fv.length pF) fv) ++ seAll (.slice oE ev.length pE) ev), 58 ≠ r.T) := by
  intro r hr
  rcases List.mem_append.1 hr with hr | hr
  · exact HT1.out r hr
  · rcases seAll_T hr with e | e <;> rw [e] <;> decide
 have hb14 := hbt hb13 bw
 have HBv1_14 := hblk HBv1_13 bw
 have HBv2_14 := hblk HBv2_13 bw
 have HBv3_14 := hblk HBv3_13 bw
 have ER_14 : Hid (RowsO (w14) w.heap.size (shAll (.slice oC cs.length pC) (.slice oP ws.length pP) (.slice oK kv.length pK) (.slice oB bl.length pB) kv cs ws bl ++ flAll (.slice oF fv.length pF) fv)) := ER_13.out.below bw
 clear hb13 HBv1_13 HBv2_13 HBv3_13 ER_13 bw
 clear ER_14
 have ER_14 : Hid (RowsO (w14) w.heap.size ((shAll (.slice oC cs.length pC) (.slice oP ws.length pP) (.slice oK kv.length pK) (.slice oB bl.length pB) kv cs ws bl ++ flAll (.slice oF fv.length pF) fv) ++ seAll (.slice oE ev.length pE) ev)) := HRN.out
 clear HRN
 clear cv1_8
 have cv3_8 := (k10c HBv3_14).2.2.2.2.2.2.2.2.1
 have fcv3_8 := hfz HBv3_14 8
 go_upto_region 6 with fail
 obtain ⟨w15, hW15⟩ := exq ((w14).setCell ⟨qv3, 8, none⟩ (.slice oE ev.length pE))
 rw [← hW15]
 have hb15 := hbS hW15 hb14 HGv3
 have HBv1_15 := hset hW15 HNv1v3.out HBv1_14
 have HBv2_15 := hset hW15 HNv2v3.out HBv2_14
 have ER_15 := erS hW15 ER_14 HBv3_14 HT2.out
 have HBv3_15 : Hid ((w15).heap[qv3]? = some (.cells #[.slice oC cs.length pC, .slice oP ws.length pP, .slice oK kv.length pK, .slice oB bl.length pB, .int .i64 nx, .int .i64 sq, .slice oF fv.length pF, .int .i64 now, .slice oE ev.length pE, .slice none 0 0] 58)) := by show _ = _; rw [hW15]; have h := heap_set _ _ 8 _ _ _ (.slice oE ev.length pE) HBv3_14.out; simpa using h
 clear hb14 HBv1_14 HBv2_14 HBv3_14 ER_14 hW15
 clear cv3_8 fcv3_8
 have cv1_9 := (k10c HBv1_15).2.2.2.2.2.2.2.2.2
 go_wp2_with fail
 refine (toReplyS_any B a7 n7 c7 sn _ (HA7.out _ hb15) (HBB.out _ hb15) HN.out.g HN.out.sn).mono ?_
 rintro e w16 ⟨VR, rv, rfl, hrm, hro, bw⟩
 have HRM : Hid (rv.map (·.d) = sn) := hrm
 obtain ⟨oR, pR, rfl⟩ := hro.len
 have HRN : Hid (RowsO w16 w.heap.size (((shAll (.slice oC cs.length pC) (.slice oP ws.length pP) (.slice oK kv.length pK) (.slice oB bl.length pB) kv cs ws bl ++ flAll (.slice oF fv.length pF) fv) ++ seAll (.slice oE ev.length pE) ev) ++ rpAll (.slice oR rv.length pR) rv)) := ER_15.out.more bw hro (Nat.le_refl _) hb15.size
 have HT3 : Hid (∀ r ∈ (((shAll (.slice oC cs.length pC) (.slice oP ws.length pP) (.slice oK kv.length pK) (.slice oB bl.length pB) kv cs ws bl ++ flAll (.slice oF fv.length pF) fv) ++ seAll (.slice oE ev.length pE) ev) ++ rpAll (.slice oR rv.length pR) rv), 58 ≠ r.T) := by
  intro r hr
  rcases List.mem_append.1 hr with hr | hr
  · exact HT2.out r hr
  · rcases rpAll_T hr with e | e | e <;> rw [e] <;> decide
 have hb16 := hbt hb15 bw
 have HBv1_16 := hblk HBv1_15 bw
 have HBv2_16 := hblk HBv2_15 bw
 have HBv3_16 := hblk HBv3_15 bw
 have ER_16 : Hid (RowsO (w16) w.heap.size ((shAll (.slice oC cs.length pC) (.slice oP ws.length pP) (.slice oK kv.length pK) (.slice oB bl.length pB) kv cs ws bl ++ flAll (.slice oF fv.length pF) fv) ++ seAll (.slice oE ev.length pE) ev)) := ER_15.out.below bw
 clear hb15 HBv1_15 HBv2_15 HBv3_15 ER_15 bw
 clear ER_16
 have ER_16 : Hid (RowsO (w16) w.heap.size (((shAll (.slice oC cs.length pC) (.slice oP ws.length pP) (.slice oK kv.length pK) (.slice oB bl.length pB) kv cs ws bl ++ flAll (.slice oF fv.length pF) fv) ++ seAll (.slice oE ev.length pE) ev) ++ rpAll (.slice oR rv.length pR) rv)) := HRN.out
 clear HRN
 clear cv1_9
 have cv3_9 := (k10c HBv3_16).2.2.2.2.2.2.2.2.2
 have fcv3_9 := hfz HBv3_16 9
 go_upto_region 7 with fail
 obtain ⟨w17, hW17⟩ := exq ((w16).setCell ⟨qv3, 9, none⟩ (.slice oR rv.length pR))
 rw [← hW17]
 have hb17 := hbS hW17 hb16 HGv3
 have HBv1_17 := hset hW17 HNv1v3.out HBv1_16
 have HBv2_17 := hset hW17 HNv2v3.out HBv2_16
 have ER_17 := erS hW17 ER_16 HBv3_16 HT3.out
 have HBv3_17 : Hid ((w17).heap[qv3]? = some (.cells #[.slice oC cs.length pC, .slice oP ws.length pP, .slice oK kv.length pK, .slice oB bl.length pB, .int .i64 nx, .int .i64 sq, .slice oF fv.length pF, .int .i64 now, .slice oE ev.length pE, .slice oR rv.length pR] 58)) := by show _ = _; rw [hW17]; have h := heap_set _ _ 9 _ _ _ (.slice oR rv.length pR) HBv3_16.out; simpa using h
 clear hb16 HBv1_16 HBv2_16 HBv3_16 ER_16 hW17
 clear cv3_9 fcv3_9
 have cv2_0 := (k10c HBv2_17).1
 have fcv2_0 := hfz HBv2_17 0
 have cv2_1 := (k10c HBv2_17).2.1
 have fcv2_1 := hfz HBv2_17 1
 have cv2_2 := (k10c HBv2_17).2.2.1
 have fcv2_2 := hfz HBv2_17 2
 have cv2_3 := (k10c HBv2_17).2.2.2.1
 have fcv2_3 := hfz HBv2_17 3
 have cv2_4 := (k10c HBv2_17).2.2.2.2.1
 have fcv2_4 := hfz HBv2_17 4
 have cv2_5 := (k10c HBv2_17).2.2.2.2.2.1
 have fcv2_5 := hfz HBv2_17 5
 have cv2_6 := (k10c HBv2_17).2.2.2.2.2.2.1
 have fcv2_6 := hfz HBv2_17 6
 have cv2_7 := (k10c HBv2_17).2.2.2.2.2.2.2.1
 have fcv2_7 := hfz HBv2_17 7
 have cv2_8 := (k10c HBv2_17).2.2.2.2.2.2.2.2.1
 have fcv2_8 := hfz HBv2_17 8
 have cv2_9 := (k10c HBv2_17).2.2.2.2.2.2.2.2.2
 have fcv2_9 := hfz HBv2_17 9
 have cv3_0 := (k10c HBv3_17).1
 have cv3_1 := (k10c HBv3_17).2.1
 have cv3_2 := (k10c HBv3_17).2.2.1
 have cv3_3 := (k10c HBv3_17).2.2.2.1
 have cv3_4 := (k10c HBv3_17).2.2.2.2.1
 have cv3_5 := (k10c HBv3_17).2.2.2.2.2.1
 have cv3_6 := (k10c HBv3_17).2.2.2.2.2.2.1
 have cv3_7 := (k10c HBv3_17).2.2.2.2.2.2.2.1
 have cv3_8 := (k10c HBv3_17).2.2.2.2.2.2.2.2.1
 have cv3_9 := (k10c HBv3_17).2.2.2.2.2.2.2.2.2
 go_wp2_with fail
 obtain ⟨w18, hW18⟩ := exq ((w17).setCell ⟨qv2, 0, none⟩ (.slice oC cs.length pC))
 rw [← hW18]
 have hb18 := hbS hW18 hb17 HGv2
 have HBv1_18 := hset hW18 HNv1v2.out HBv1_17
 have HBv3_18 := hset hW18 HNv2v3.out.symm HBv3_17
 have ER_18 := erS hW18 ER_17 HBv2_17 HT3.out
 have HBv2_18 : Hid ((w18).heap[qv2]? = some (.cells #[.slice oC cs.length pC, .slice none 0 0, .slice none 0 0, .slice none 0 0, .int .i64 0, .int .i64 0, .slice none 0 0, .int .i64 0, .slice none 0 0, .slice none 0 0] 58)) := by show _ = _; rw [hW18]; have h := heap_set _ _ 0 _ _ _ (.slice oC cs.length pC) HBv2_17.out; simpa using h
 clear hb17 HBv1_17 HBv2_17 HBv3_17 ER_17 hW18
 obtain ⟨w19, hW19⟩ := exq ((w18).setCell ⟨qv2, 1, none⟩ (.slice oP ws.length pP))
 rw [← hW19]
 have hb19 := hbS hW19 hb18 HGv2
 have HBv1_19 := hset hW19 HNv1v2.out HBv1_18
 have HBv3_19 := hset hW19 HNv2v3.out.symm HBv3_18
 have ER_19 := erS hW19 ER_18 HBv2_18 HT3.out
 have HBv2_19 : Hid ((w19).heap[qv2]? = some (.cells #[.slice oC cs.length pC, .slice oP ws.length pP, .slice none 0 0, .slice none 0 0, .int .i64 0, .int .i64 0, .slice none 0 0, .int .i64 0, .slice none 0 0, .slice none 0 0] 58)) := by show _ = _; rw [hW19]; have h := heap_set _ _ 1 _ _ _ (.slice oP ws.length pP) HBv2_18.out; simpa using h
 clear hb18 HBv1_18 HBv2_18 HBv3_18 ER_18 hW19
 obtain ⟨w20, hW20⟩ := exq ((w19).setCell ⟨qv2, 2, none⟩ (.slice oK kv.length pK))
 rw [← hW20]
 have hb20 := hbS hW20 hb19 HGv2
 have HBv1_20 := hset hW20 HNv1v2.out HBv1_19
 have HBv3_20 := hset hW20 HNv2v3.out.symm HBv3_19
 have ER_20 := erS hW20 ER_19 HBv2_19 HT3.out
 have HBv2_20 : Hid ((w20).heap[qv2]? = some (.cells #[.slice oC cs.length pC, .slice oP ws.length pP, .slice oK kv.length pK, .slice none 0 0, .int .i64 0, .int .i64 0, .slice none 0 0, .int .i64 0, .slice none 0 0, .slice none 0 0] 58)) := by show _ = _; rw [hW20]; have h := heap_set _ _ 2 _ _ _ (.slice oK kv.length pK) HBv2_19.out; simpa using h
 clear hb19 HBv1_19 HBv2_19 HBv3_19 ER_19 hW20
 obtain ⟨w21, hW21⟩ := exq ((w20).setCell ⟨qv2, 3, none⟩ (.slice oB bl.length pB))
 rw [← hW21]
 have hb21 := hbS hW21 hb20 HGv2
 have HBv1_21 := hset hW21 HNv1v2.out HBv1_20
 have HBv3_21 := hset hW21 HNv2v3.out.symm HBv3_20
 have ER_21 := erS hW21 ER_20 HBv2_20 HT3.out
 have HBv2_21 : Hid ((w21).heap[qv2]? = some (.cells #[.slice oC cs.length pC, .slice oP ws.length pP, .slice oK kv.length pK, .slice oB bl.length pB, .int .i64 0, .int .i64 0, .slice none 0 0, .int .i64 0, .slice none 0 0, .slice none 0 0] 58)) := by show _ = _; rw [hW21]; have h := heap_set _ _ 3 _ _ _ (.slice oB bl.length pB) HBv2_20.out; simpa using h
 clear hb20 HBv1_20 HBv2_20 HBv3_20 ER_20 hW21
 obtain ⟨w22, hW22⟩ := exq ((w21).setCell ⟨qv2, 4, none⟩ (.int .i64 nx))
 rw [← hW22]
 have hb22 := hbS hW22 hb21 HGv2
 have HBv1_22 := hset hW22 HNv1v2.out HBv1_21
 have HBv3_22 := hset hW22 HNv2v3.out.symm HBv3_21
 have ER_22 := erS hW22 ER_21 HBv2_21 HT3.out
 have HBv2_22 : Hid ((w22).heap[qv2]? = some (.cells #[.slice oC cs.length pC, .slice oP ws.length pP, .slice oK kv.length pK, .slice oB bl.length pB, .int .i64 nx, .int .i64 0, .slice none 0 0, .int .i64 0, .slice none 0 0, .slice none 0 0] 58)) := by show _ = _; rw [hW22]; have h := heap_set _ _ 4 _ _ _ (.int .i64 nx) HBv2_21.out; simpa using h
 clear hb21 HBv1_21 HBv2_21 HBv3_21 ER_21 hW22
 obtain ⟨w23, hW23⟩ := exq ((w22).setCell ⟨qv2, 5, none⟩ (.int .i64 sq))
 rw [← hW23]
 have hb23 := hbS hW23 hb22 HGv2
 have HBv1_23 := hset hW23 HNv1v2.out HBv1_22
 have HBv3_23 := hset hW23 HNv2v3.out.symm HBv3_22
 have ER_23 := erS hW23 ER_22 HBv2_22 HT3.out
 have HBv2_23 : Hid ((w23).heap[qv2]? = some (.cells #[.slice oC cs.length pC, .slice oP ws.length pP, .slice oK kv.length pK, .slice oB bl.length pB, .int .i64 nx, .int .i64 sq, .slice none 0 0, .int .i64 0, .slice none 0 0, .slice none 0 0] 58)) := by show _ = _; rw [hW23]; have h := heap_set _ _ 5 _ _ _ (.int .i64 sq) HBv2_22.out; simpa using h
 clear hb22 HBv1_22 HBv2_22 HBv3_22 ER_22 hW23
 obtain ⟨w24, hW24⟩ := exq ((w23).setCell ⟨qv2, 6, none⟩ (.slice oF fv.length pF))
 rw [← hW24]
 have hb24 := hbS hW24 hb23 HGv2
 have HBv1_24 := hset hW24 HNv1v2.out HBv1_23
 have HBv3_24 := hset hW24 HNv2v3.out.symm HBv3_23
 have ER_24 := erS hW24 ER_23 HBv2_23 HT3.out
 have HBv2_24 : Hid ((w24).heap[qv2]? = some (.cells #[.slice oC cs.length pC, .slice oP ws.length pP, .slice oK kv.length pK, .slice oB bl.length pB, .int .i64 nx, .int .i64 sq, .slice oF fv.length pF, .int .i64 0, .slice none 0 0, .slice none 0 0] 58)) := by show _ = _; rw [hW24]; have h := heap_set _ _ 6 _ _ _ (.slice oF fv.length pF) HBv2_23.out; simpa using h
 clear hb23 HBv1_23 HBv2_23 HBv3_23 ER_23 hW24
 obtain ⟨w25, hW25⟩ := exq ((w24).setCell ⟨qv2, 7, none⟩ (.int .i64 now))
 rw [← hW25]
 have hb25 := hbS hW25 hb24 HGv2
 have HBv1_25 := hset hW25 HNv1v2.out HBv1_24
 have HBv3_25 := hset hW25 HNv2v3.out.symm HBv3_24
 have ER_25 := erS hW25 ER_24 HBv2_24 HT3.out
 have HBv2_25 : Hid ((w25).heap[qv2]? = some (.cells #[.slice oC cs.length pC, .slice oP ws.length pP, .slice oK kv.length pK, .slice oB bl.length pB, .int .i64 nx, .int .i64 sq, .slice oF fv.length pF, .int .i64 now, .slice none 0 0, .slice none 0 0] 58)) := by show _ = _; rw [hW25]; have h := heap_set _ _ 7 _ _ _ (.int .i64 now) HBv2_24.out; simpa using h
 clear hb24 HBv1_24 HBv2_24 HBv3_24 ER_24 hW25
 obtain ⟨w26, hW26⟩ := exq ((w25).setCell ⟨qv2, 8, none⟩ (.slice oE ev.length pE))
 rw [← hW26]
 have hb26 := hbS hW26 hb25 HGv2
 have HBv1_26 := hset hW26 HNv1v2.out HBv1_25
 have HBv3_26 := hset hW26 HNv2v3.out.symm HBv3_25
 have ER_26 := erS hW26 ER_25 HBv2_25 HT3.out
 have HBv2_26 : Hid ((w26).heap[qv2]? = some (.cells #[.slice oC cs.length pC, .slice oP ws.length pP, .slice oK kv.length pK, .slice oB bl.length pB, .int .i64 nx, .int .i64 sq, .slice oF fv.length pF, .int .i64 now, .slice oE ev.length pE, .slice none 0 0] 58)) := by show _ = _; rw [hW26]; have h := heap_set _ _ 8 _ _ _ (.slice oE ev.length pE) HBv2_25.out; simpa using h
 clear hb25 HBv1_25 HBv2_25 HBv3_25 ER_25 hW26
 obtain ⟨w27, hW27⟩ := exq ((w26).setCell ⟨qv2, 9, none⟩ (.slice oR rv.length pR))
 rw [← hW27]
 have hb27 := hbS hW27 hb26 HGv2
 have HBv1_27 := hset hW27 HNv1v2.out HBv1_26
 have HBv3_27 := hset hW27 HNv2v3.out.symm HBv3_26
 have ER_27 := erS hW27 ER_26 HBv2_26 HT3.out
 have HBv2_27 : Hid ((w27).heap[qv2]? = some (.cells #[.slice oC cs.length pC, .slice oP ws.length pP, .slice oK kv.length pK, .slice oB bl.length pB, .int .i64 nx, .int .i64 sq, .slice oF fv.length pF, .int .i64 now, .slice oE ev.length pE, .slice oR rv.length pR] 58)) := by show _ = _; rw [hW27]; have h := heap_set _ _ 9 _ _ _ (.slice oR rv.length pR) HBv2_26.out; simpa using h
 clear hb26 HBv1_26 HBv2_26 HBv3_26 ER_26 hW27
 have kv2_0 := (k10c HBv2_27).1
 have kv2_1 := (k10c HBv2_27).2.1
 have kv2_2 := (k10c HBv2_27).2.2.1
 have kv2_3 := (k10c HBv2_27).2.2.2.1
 have kv2_4 := (k10c HBv2_27).2.2.2.2.1
 have kv2_5 := (k10c HBv2_27).2.2.2.2.2.1
 have kv2_6 := (k10c HBv2_27).2.2.2.2.2.2.1
 have kv2_7 := (k10c HBv2_27).2.2.2.2.2.2.2.1
 have kv2_8 := (k10c HBv2_27).2.2.2.2.2.2.2.2.1
 have kv2_9 := (k10c HBv2_27).2.2.2.2.2.2.2.2.2
 refine bodyPost_ret (v := .agg #[.slice oC cs.length pC, .slice oP ws.length pP, .slice oK kv.length pK, .slice oB bl.length pB, .int .i64 nx, .int .i64 sq, .slice oF fv.length pF, .int .i64 now, .slice oE ev.length pE, .slice oR rv.length pR]) (by simp [results, Tryz.results9, go_sem, kv2_0, kv2_1, kv2_2, kv2_3, kv2_4, kv2_5, kv2_6, kv2_7, kv2_8, kv2_9]) rfl ?_
 exact ⟨_, _, _, _, _, _, _, kv, fv, ev, rv, rfl, ⟨ER_27.out, HKM.out, HFM.out, HEM.out, HRM.out⟩, hb27⟩
/-- A cache's measure: negative, or what is left of L. -/
def SzCache (L : Int) (n1 : Nat) (cs : List ByteArray) (n2 : Nat) (ws : List (Int × ByteArray)) (ks : List KpD) (n4 : Nat) (bl : List (Int × ByteArray × ByteArray × Int)) (fl : List FlD) (se : List SeD) (sn : List RpD) (w : World) (e : Ending) (w' : World) : Prop :=
 ∃ r : Int, e = .returned (.int .i64 r) ∧ r ≤ L ∧ (0 ≤ r → r + (n1 : Int) + (n2 : Int) + (wtK ks : Int) + (n4 : Int) + (wtFl fl : Int) + (wtSe se : Int) + (wtRp sn : Int) ≤ L ∧ ((n1 ≤ 1048576 ∧ ∀ i, i < n1 → (textAt cs i).size ≤ 1048576) ∧ (n2 ≤ 1048576 ∧ ∀ x ∈ ws, (x.2).size ≤ 1048576) ∧ (∀ k ∈ ks, KpSmall k) ∧ (n4 ≤ 1048576 ∧ ∀ x ∈ bl, (x.2.1).size ≤ 1048576 ∧ (x.2.2.1).size ≤ 1048576)) ∧ (∀ k ∈ fl, FlSmall k) ∧ (∀ k ∈ se, SeSmall k) ∧ ∀ k ∈ sn, RpSmall k) ∧ Below w.heap.size w w'
theorem szCache_any (L : Int) (hL0 : 0 ≤ L) (hL1 : L ≤ 1048576) (a1 : Option Addr) (n1 c1 : Nat) (cs : List ByteArray) (a2 : Option Addr) (n2 c2 : Nat) (ws : List (Int × ByteArray)) (a3 : Option Addr) (n3 c3 : Nat) (ks : List KpD) (a4 : Option Addr) (n4 c4 : Nat) (bl : List (Int × ByteArray × ByteArray × Int)) (nx sq : Int) (a5 : Option Addr) (n5 c5 : Nat) (fl : List FlD) (now : Int) (a6 : Option Addr) (n6 c6 : Nat) (se : List SeD) (a7 : Option Addr) (n7 c7 : Nat) (sn : List RpD) (B : Nat) (w : World) (h1 : ArgT w B a1 n1 cs) (h2 : ArgWrite w B a2 n2 ws) (h3 : ArgKept w B a3 n3 ks) (h4 : ArgBan w B a4 n4 bl) (h5 : ArgFlight w B a5 n5 fl) (h6 : ArgSeen w B a6 n6 se) (h7 : ArgReply w B a7 n7 sn) (hB : B ≤ w.heap.size) (hm : (n1 ≤ maxLen ∧ n2 ≤ maxLen ∧ n3 ≤ maxLen ∧ n4 ≤ maxLen ∧ (∀ i, i < n1 → (textAt cs i).size ≤ maxLen) ∧ (∀ x ∈ ws, (x.2).size ≤ maxLen) ∧ (∀ k ∈ ks, KpMax k) ∧ ∀ x ∈ bl, (x.2.1).size ≤ maxLen ∧ (x.2.2.1).size ≤ maxLen) ∧ (n5 ≤ maxLen ∧ ∀ k ∈ fl, FlMax k) ∧ (n6 ≤ maxLen ∧ ∀ k ∈ se, SeMax k) ∧ n7 ≤ maxLen ∧ ∀ k ∈ sn, RpMax k) :
  Calls Tryz.prog 6 #[.agg #[.slice a1 n1 c1, .slice a2 n2 c2, .slice a3 n3 c3, .slice a4 n4 c4, .int .i64 nx, .int .i64 sq, .slice a5 n5 c5, .int .i64 now, .slice a6 n6 c6, .slice a7 n7 c7], .int .i64 L] w fun e w' => SzCache L n1 cs n2 ws ks n4 bl fl se sn w e w' := by
 have HA1 : Hid (∀ W, Below w.heap.size w W → ArgT W B a1 n1 cs) := fun W h => h1.below (h.mono hB)
 have HA2 : Hid (∀ W, Below w.heap.size w W → ArgWrite W B a2 n2 ws) := fun W h => h2.below (h.mono hB)
 have HA3 : Hid (∀ W, Below w.heap.size w W → ArgKept W B a3 n3 ks) := fun W h => h3.below (h.mono hB)
 have HA4 : Hid (∀ W, Below w.heap.size w W → ArgBan W B a4 n4 bl) := fun W h => h4.below (h.mono hB)
 have HA5 : Hid (∀ W, Below w.heap.size w W → ArgFlight W B a5 n5 fl) := fun W h => h5.below (h.mono hB)
 have HA6 : Hid (∀ W, Below w.heap.size w W → ArgSeen W B a6 n6 se) := fun W h => h6.below (h.mono hB)
 have HA7 : Hid (∀ W, Below w.heap.size w W → ArgReply W B a7 n7 sn) := fun W h => h7.below (h.mono hB)
 have HBB : Hid (∀ W, Below w.heap.size w W → B ≤ W.heap.size) := fun W h => Nat.le_trans hB h.size
 have HM : Hid ((n1 ≤ maxLen ∧ n2 ≤ maxLen ∧ n3 ≤ maxLen ∧ n4 ≤ maxLen ∧ (∀ i, i < n1 → (textAt cs i).size ≤ maxLen) ∧ (∀ x ∈ ws, (x.2).size ≤ maxLen) ∧ (∀ k ∈ ks, KpMax k) ∧ ∀ x ∈ bl, (x.2.1).size ≤ maxLen ∧ (x.2.2.1).size ≤ maxLen) ∧ (n5 ≤ maxLen ∧ ∀ k ∈ fl, FlMax k) ∧ (n6 ≤ maxLen ∧ ∀ k ∈ se, SeMax k) ∧ n7 ≤ maxLen ∧ ∀ k ∈ sn, RpMax k) := hm
 clear h1 h2 h3 h4 h5 h6 h7 hm hB
 have hb0 : Below w.heap.size w w := Below.refl _ _
 go_enter Tryz.func6, Tryz.ntmps6
 go_upto_region 1 with fail
 obtain ⟨qv1, hqv1⟩ := exq ((w).heap.size)
 obtain ⟨w1, hW1⟩ := exq ((w).alloc (.cells #[.slice a1 n1 c1, .slice a2 n2 c2, .slice a3 n3 c3, .slice a4 n4 c4, .int .i64 nx, .int .i64 sq, .slice a5 n5 c5, .int .i64 now, .slice a6 n6 c6, .slice a7 n7 c7] 34))
 have hz1 : (w).heap.size = qv1 := hqv1.symm
 first | rw [← hW1, ← hqv1] | rw [← hW1]
 have hs1 := hsa hW1 hz1
 have bw := bal hW1
 have hb1 := hbt hb0 bw
 have HBv1_1 := hnew hW1 hz1
 clear hb0 bw hW1 hz1
 clear hs1 hqv1
 have cv1_0 := (k10c HBv1_1).1
 have cv1_1 := (k10c HBv1_1).2.1
 have cv1_2 := (k10c HBv1_1).2.2.1
 have cv1_3 := (k10c HBv1_1).2.2.2.1
 have cv1_4 := (k10c HBv1_1).2.2.2.2.1
 have cv1_5 := (k10c HBv1_1).2.2.2.2.2.1
 go_wp2_with fail
 refine (szShelf_any L (by omega) (by omega) a1 n1 c1 cs a2 n2 c2 ws a3 n3 c3 ks a4 n4 c4 bl nx sq B _ (HA1.out _ hb1) (HA2.out _ hb1) (HA3.out _ hb1) (HA4.out _ hb1) (HBB.out _ hb1) HM.out.1).mono ?_
 rintro e w2 ⟨r1, rfl, hl1, hr1, bw⟩
 have hb2 := hbt hb1 bw
 have HBv1_2 := hblk HBv1_1 bw
 clear hb1 HBv1_1 bw
 clear cv1_0 cv1_1 cv1_2 cv1_3 cv1_4 cv1_5
 by_cases hc1 : r1 < 0
 ·
  clear hr1
  go_wp2_with fail
  go_ret
  exact ⟨-1, rfl, by omega, fun h => absurd h (by omega), hb2⟩
 ·
  have HR1 : Hid _ := hr1 (by omega)
  clear hr1
  have mr1 := HR1.out.1
  have cv1_6 := (k10c HBv1_2).2.2.2.2.2.2.1
  go_wp2_with fail
  refine (szFlightS_any r1 (by omega) (by omega) B a5 n5 c5 fl _ (HA5.out _ hb2) (HBB.out _ hb2) HM.out.2.1.1 HM.out.2.1.2).mono ?_
  rintro e w3 ⟨r2, rfl, hl2, hr2, bw⟩
  have hb3 := hbt hb2 bw
  have HBv1_3 := hblk HBv1_2 bw
  clear hb2 HBv1_2 bw
  clear cv1_6
  by_cases hc2 : r2 < 0
  ·
   clear hr2
   go_wp2_with fail
   go_ret
   exact ⟨-1, rfl, by omega, fun h => absurd h (by omega), hb3⟩
  ·
   have HR2 : Hid _ := hr2 (by omega)
   clear hr2
   have mr2 := HR2.out.1
   have cv1_8 := (k10c HBv1_3).2.2.2.2.2.2.2.2.1
   go_wp2_with fail
   refine (szSeenS_any r2 (by omega) (by omega) B a6 n6 c6 se _ (HA6.out _ hb3) (HBB.out _ hb3) HM.out.2.2.1.1 HM.out.2.2.1.2).mono ?_
   rintro e w4 ⟨r3, rfl, hl3, hr3, bw⟩
   have hb4 := hbt hb3 bw
   have HBv1_4 := hblk HBv1_3 bw
   clear hb3 HBv1_3 bw
   clear cv1_8
   by_cases hc3 : r3 < 0
   ·
    clear hr3
    go_wp2_with fail
    go_ret
    exact ⟨-1, rfl, by omega, fun h => absurd h (by omega), hb4⟩
   ·
    have HR3 : Hid _ := hr3 (by omega)
    clear hr3
    have mr3 := HR3.out.1
    have cv1_9 := (k10c HBv1_4).2.2.2.2.2.2.2.2.2
    go_wp2_with fail
    refine (szReplyS_any r3 (by omega) (by omega) B a7 n7 c7 sn _ (HA7.out _ hb4) (HBB.out _ hb4) HM.out.2.2.2.1 HM.out.2.2.2.2).mono ?_
    rintro e w5 ⟨r4, rfl, hl4, hr4, bw⟩
    have hb5 := hbt hb4 bw
    have HBv1_5 := hblk HBv1_4 bw
    clear hb4 HBv1_4 bw
    clear cv1_9
    by_cases hc4 : r4 < 0
    ·
     clear hr4
     go_wp2_with fail
     go_ret
     exact ⟨-1, rfl, by omega, fun h => absurd h (by omega), hb5⟩
    ·
     have HR4 : Hid _ := hr4 (by omega)
     clear hr4
     have mr4 := HR4.out.1
     go_wp2_with fail
     go_ret
     exact ⟨r4, rfl, by omega, fun _ => ⟨by omega, HR1.out.2, HR2.out.2, HR3.out.2, HR4.out.2⟩, hb5⟩
/-- A cache of bounded size. -/
structure CaLim (y : CaD) : Prop where
 c : y.s.cs.length ≤ 2000000
 w : y.s.ws.length ≤ 2000000
 k : y.s.ks.length ≤ 2000000
 b : y.s.bl.length ≤ 2000000
 ks : ∀ k ∈ y.s.ks, k.xs.length ≤ 2000000 ∧ k.ys.length ≤ 2000000 ∧ k.fs.length ≤ 2000000
 nfl : y.fl.length ≤ 2000000
 nse : y.se.length ≤ 2000000
 nsn : y.sn.length ≤ 2000000
 fl : ∀ k ∈ y.fl, FlLim k
 se : ∀ k ∈ y.se, SeLim k
 sn : ∀ k ∈ y.sn, RpLim k
theorem eqCache_any (c : CaD) (x1 x2 x3 x4 x5 x6 x7 y1 y2 y3 y4 y5 y6 y7 : Value) (kvx kvy : List (KpD × Value × Value × Value)) (fvx fvy : List FlV) (evx evy : List SeV) (rvx rvy : List RpV) (Bx By : Nat) (w : World) (hx : CacheO (w) Bx x1 x2 x3 x4 x5 x6 x7 kvx fvx evx rvx c) (hy : CacheO (w) By y1 y2 y3 y4 y5 y6 y7 kvy fvy evy rvy c) (hl : CaLim c) :
  Calls Tryz.prog 12 #[.agg #[x1, x2, x3, x4, .int .i64 c.s.nx, .int .i64 c.s.sq, x5, .int .i64 c.now, x6, x7], .agg #[y1, y2, y3, y4, .int .i64 c.s.nx, .int .i64 c.s.sq, y5, .int .i64 c.now, y6, y7]] w fun e w' => e = .returned (.bool true) ∧ Below w.heap.size w w' := by
 have HLM : Hid (CaLim c) := hl
 have Ex_0 : Hid (CacheO (w) Bx x1 x2 x3 x4 x5 x6 x7 kvx fvx evx rvx c) := hx
 have Ey_0 : Hid (CacheO (w) By y1 y2 y3 y4 y5 y6 y7 kvy fvy evy rvy c) := hy
 clear hx hy hl
 have hnw : (c.now != c.now) = false := by simp
 have hb0 : Below w.heap.size w w := Below.refl _ _
 go_enter Tryz.func12, Tryz.ntmps12
 go_upto_region 1 with fail
 obtain ⟨qv1, hqv1⟩ := exq ((w).heap.size)
 obtain ⟨w1, hW1⟩ := exq ((w).alloc (.cells #[x1, x2, x3, x4, .int .i64 c.s.nx, .int .i64 c.s.sq, x5, .int .i64 c.now, x6, x7] 58))
 have hz1 : (w).heap.size = qv1 := hqv1.symm
 first | rw [← hW1, ← hqv1] | rw [← hW1]
 have hs1 := hsa hW1 hz1
 have bw := bal hW1
 have hb1 := hbt hb0 bw
 have Ex_1 : Hid (CacheO (w1) Bx x1 x2 x3 x4 x5 x6 x7 kvx fvx evx rvx c) := Ex_0.out.below bw
 have Ey_1 : Hid (CacheO (w1) By y1 y2 y3 y4 y5 y6 y7 kvy fvy evy rvy c) := Ey_0.out.below bw
 have HBv1_1 := hnew hW1 hz1
 clear hb0 Ex_0 Ey_0 bw hW1 hz1
 obtain ⟨qv2, hqv2⟩ := exq (qv1 + 1)
 obtain ⟨w2, hW2⟩ := exq ((w1).alloc (.cells #[y1, y2, y3, y4, .int .i64 c.s.nx, .int .i64 c.s.sq, y5, .int .i64 c.now, y6, y7] 58))
 have hz2 : (w1).heap.size = qv2 := by rw [hqv2]; exact hs1
 first | rw [← hW2, ← hqv2] | rw [← hW2]
 have hs2 := hsa hW2 hz2
 have bw := bal hW2
 have hb2 := hbt hb1 bw
 have HBv1_2 := hblk HBv1_1 bw
 have Ex_2 : Hid (CacheO (w2) Bx x1 x2 x3 x4 x5 x6 x7 kvx fvx evx rvx c) := Ex_1.out.below bw
 have Ey_2 : Hid (CacheO (w2) By y1 y2 y3 y4 y5 y6 y7 kvy fvy evy rvy c) := Ey_1.out.below bw
 have HBv2_2 := hnew hW2 hz2
 clear hb1 HBv1_1 Ex_1 Ey_1 bw hW2 hz2
 clear hs2 hqv2 hs1 hqv1
 have cv1_0 := (k10c HBv1_2).1
 have cv1_1 := (k10c HBv1_2).2.1
 have cv1_2 := (k10c HBv1_2).2.2.1
 have cv1_3 := (k10c HBv1_2).2.2.2.1
 have cv1_4 := (k10c HBv1_2).2.2.2.2.1
 have cv1_5 := (k10c HBv1_2).2.2.2.2.2.1
 have cv2_0 := (k10c HBv2_2).1
 have cv2_1 := (k10c HBv2_2).2.1
 have cv2_2 := (k10c HBv2_2).2.2.1
 have cv2_3 := (k10c HBv2_2).2.2.2.1
 have cv2_4 := (k10c HBv2_2).2.2.2.2.1
 have cv2_5 := (k10c HBv2_2).2.2.2.2.2.1
 go_wp2_with fail
 refine (eqShelf_any c.s _ _ _ _ _ _ _ _ kvx kvy Bx By _ Ex_2.out.shelf Ey_2.out.shelf HLM.out.c HLM.out.w HLM.out.k HLM.out.b HLM.out.ks).mono ?_
 rintro e w3 ⟨rfl, bw⟩
 have hb3 := hbt hb2 bw
 have HBv1_3 := hblk HBv1_2 bw
 have HBv2_3 := hblk HBv2_2 bw
 have Ex_3 : Hid (CacheO (w3) Bx x1 x2 x3 x4 x5 x6 x7 kvx fvx evx rvx c) := Ex_2.out.below bw
 have Ey_3 : Hid (CacheO (w3) By y1 y2 y3 y4 y5 y6 y7 kvy fvy evy rvy c) := Ey_2.out.below bw
 clear hb2 HBv1_2 HBv2_2 Ex_2 Ey_2 bw
 clear cv1_0 cv1_1 cv1_2 cv1_3 cv1_4 cv1_5 cv2_0 cv2_1 cv2_2 cv2_3 cv2_4 cv2_5
 have cv1_6 := (k10c HBv1_3).2.2.2.2.2.2.1
 have cv2_6 := (k10c HBv2_3).2.2.2.2.2.2.1
 go_wp2_with fail
 refine (eqFlightS_any _ _ fvx fvy Bx By _ (Ex_3.out.hf.trans Ey_3.out.hf.symm) Ex_3.out.fls Ey_3.out.fls (by rw [← List.length_map (f := (·.d)), Ex_3.out.hf]; exact HLM.out.nfl) (fun x hx => HLM.out.fl x.d (by rw [← Ex_3.out.hf]; exact List.mem_map.2 ⟨x, hx, rfl⟩))).mono ?_
 rintro e w4 ⟨rfl, bw⟩
 have hb4 := hbt hb3 bw
 have HBv1_4 := hblk HBv1_3 bw
 have HBv2_4 := hblk HBv2_3 bw
 have Ex_4 : Hid (CacheO (w4) Bx x1 x2 x3 x4 x5 x6 x7 kvx fvx evx rvx c) := Ex_3.out.below bw
 have Ey_4 : Hid (CacheO (w4) By y1 y2 y3 y4 y5 y6 y7 kvy fvy evy rvy c) := Ey_3.out.below bw
 clear hb3 HBv1_3 HBv2_3 Ex_3 Ey_3 bw
 clear cv1_6 cv2_6
 have cv1_7 := (k10c HBv1_4).2.2.2.2.2.2.2.1
 have cv2_7 := (k10c HBv2_4).2.2.2.2.2.2.2.1
 have cv1_8 := (k10c HBv1_4).2.2.2.2.2.2.2.2.1
 have cv2_8 := (k10c HBv2_4).2.2.2.2.2.2.2.2.1
 go_wp2_with fail
 refine (eqSeenS_any _ _ evx evy Bx By _ (Ex_4.out.he.trans Ey_4.out.he.symm) Ex_4.out.ses Ey_4.out.ses (by rw [← List.length_map (f := (·.d)), Ex_4.out.he]; exact HLM.out.nse) (fun x hx => HLM.out.se x.d (by rw [← Ex_4.out.he]; exact List.mem_map.2 ⟨x, hx, rfl⟩))).mono ?_
 rintro e w5 ⟨rfl, bw⟩
 have hb5 := hbt hb4 bw
 have HBv1_5 := hblk HBv1_4 bw
 have HBv2_5 := hblk HBv2_4 bw
 have Ex_5 : Hid (CacheO (w5) Bx x1 x2 x3 x4 x5 x6 x7 kvx fvx evx rvx c) := Ex_4.out.below bw
 have Ey_5 : Hid (CacheO (w5) By y1 y2 y3 y4 y5 y6 y7 kvy fvy evy rvy c) := Ey_4.out.below bw
 clear hb4 HBv1_4 HBv2_4 Ex_4 Ey_4 bw
 clear cv1_7 cv2_7 cv1_8 cv2_8
 have cv1_9 := (k10c HBv1_5).2.2.2.2.2.2.2.2.2
 have cv2_9 := (k10c HBv2_5).2.2.2.2.2.2.2.2.2
 go_wp2_with fail
 refine (eqReplyS_any _ _ rvx rvy Bx By _ (Ex_5.out.hr.trans Ey_5.out.hr.symm) Ex_5.out.rps Ey_5.out.rps (by rw [← List.length_map (f := (·.d)), Ex_5.out.hr]; exact HLM.out.nsn) (fun x hx => HLM.out.sn x.d (by rw [← Ex_5.out.hr]; exact List.mem_map.2 ⟨x, hx, rfl⟩))).mono ?_
 rintro e w6 ⟨rfl, bw⟩
 have hb6 := hbt hb5 bw
 have HBv1_6 := hblk HBv1_5 bw
 have HBv2_6 := hblk HBv2_5 bw
 have Ex_6 : Hid (CacheO (w6) Bx x1 x2 x3 x4 x5 x6 x7 kvx fvx evx rvx c) := Ex_5.out.below bw
 have Ey_6 : Hid (CacheO (w6) By y1 y2 y3 y4 y5 y6 y7 kvy fvy evy rvy c) := Ey_5.out.below bw
 clear hb5 HBv1_5 HBv2_5 Ex_5 Ey_5 bw
 clear cv1_9 cv2_9
 go_wp2_with fail
 go_ret
 exact ⟨rfl, hb6⟩
end Go.Proofs.YtbmhonfgffjpcaaGreat
namespace Go.Proofs.YtbmhonfgffjpcaaGreat
open Go.RowKit
open Go.Lib hiding intOf
/-- One of a list, with its slices. -/
def kvAt (kv : List (KpD × Value × Value × Value)) (i : Nat) : KpD × Value × Value × Value := kv.getD i (zeroK, .slice none 0 0, .slice none 0 0, .slice none 0 0)
theorem kvAt_get (kv : List (KpD × Value × Value × Value)) (i : Nat) (h : i < kv.length) : kv[i]'h = kvAt kv i := by
 unfold kvAt
 rw [List.getD_eq_getElem?_getD, List.getElem?_eq_getElem h]
 rfl
theorem kvAt_mem (kv : List (KpD × Value × Value × Value)) (i : Nat) (h : i < kv.length) : kvAt kv i ∈ kv := by rw [← kvAt_get kv i h]; exact List.getElem_mem h
theorem kvAt_take (kv : List (KpD × Value × Value × Value)) (i : Nat) (h : i < kv.length) : kv.take (i + 1) = kv.take i ++ [kvAt kv i] := by rw [← kvAt_get kv i h, List.take_succ_eq_append_getElem h]
theorem kvAt_fst (kv : List (KpD × Value × Value × Value)) (i : Nat) (h : i < kv.length) : (kvAt kv i).1 = kpAt (kv.map (·.1)) i := by
 rw [← kvAt_get kv i h, ← kpAt_get _ i (by rw [List.length_map]; exact h)]
 simp
/-- One that is kept can be read. -/
def KpRead (w : World) (k : KpD) (v1 v2 v3 : Value) : Prop := ∃ B, RowsO w B (kpR (k, v1, v2, v3))
theorem KeptsO.read {w : World} {base : Nat} {V : Value} {kv : List (KpD × Value × Value × Value)} (h : KeptsO w base V kv) {k : KpD} {v1 v2 v3 : Value} (hx : (k, v1, v2, v3) ∈ kv) : KpRead w k v1 v2 v3 := ⟨base, h.obj hx⟩
theorem KeptsO.look {w : World} {base : Nat} {V : Value} {kv : List (KpD × Value × Value × Value)} (h : KeptsO w base V kv) (i : Nat) (hi : i < kv.length) : ∃ g cap, V = .slice (some ⟨g, 0, none⟩) kv.length cap ∧ g < w.heap.size ∧ KpAt w g i (kvAt kv i) := by
 rw [← kvAt_get kv i hi]
 exact h.at i hi
theorem small_get {k : KpD} (h : KpSmall k) (x : ByteArray) : (getV k.fs x).size ≤ 1048576 := by
 unfold getV
 split
 ·
  rename_i hx
  have := szTo_get k.fs k.fs.length (atF k.fs x) hx
  have := h.2.2.2.2
  omega
 · decide
theorem small_copy {k : KpD} (h : KpSmall k) : CopyF k.fs := fun i hi => by
 have := szTo_get k.fs k.fs.length i hi
 have := h.2.2.2.2
 omega
theorem small_walk {k : KpD} (h : KpSmall k) : WalkF k.fs.length k.fs := fun i hi => by
 have := szTo_get k.fs k.fs.length i hi
 have := h.2.2.2.2
 unfold maxLen
 omega
theorem small_text {xs : List ByteArray} (h : ∀ i, i < xs.length → (textAt xs i).size ≤ 1048576) : ∀ i, i < xs.length → (textAt xs i).size ≤ maxLen := fun i hi => Nat.le_trans (h i hi) (by decide)
/-- ObjOk of one that is kept. -/
theorem specObjOk_k (k : KpD) (v1 v2 v3 : Value) (w : World) (h : KpRead w k v1 v2 v3) (hs : KpSmall k) :
  Calls Tryz.prog 82 #[.agg #[.string k.p, v1, v2, .int .i64 k.st, v3, .string k.b, .int .i64 k.t]] w fun e w' => BoolIs (ObjK k) w e w' := by
 obtain ⟨B, h⟩ := h
 have ho : ObjO w B v1 k.xs.length k.xs v2 k.ys.length k.ys v3 k.fs.length k.fs := rows_objO h
 obtain ⟨o1, c1, rfl⟩ := slice_of_owns ho.names
 obtain ⟨o2, c2, rfl⟩ := slice_of_owns ho.vals
 exact specObjOk_any k.p o1 _ c1 k.xs o2 _ c2 k.ys k.st v3 _ B k.fs k.b k.t w (texts_view ho.names) (texts_view ho.vals) (FieldsV.of_owns ho.flds) (by have := hs.2.1.1; omega) (by have := hs.2.2.1.1; omega) (by have := hs.2.2.2.1; omega) (small_text hs.2.1.2) (small_text hs.2.2.1.2) (small_walk hs) (by have := hs.1.1; unfold maxLen; omega) (by have := hs.1.2; unfold maxLen; omega) (small_get hs _)
end Go.Proofs.YtbmhonfgffjpcaaGreat
namespace Go.Proofs.YtbmhonfgffjpcaaGreat
open Go.RowKit
open Go.Lib hiding intOf
/-- A list whose cells can be read, nil or not. -/
def Src (w : World) (size : Nat) (v : Value) (m : Nat) (news : List Value) : Prop :=
 news.length = m * size ∧ (∀ u ∈ news, u.oneCell' = true) ∧ ((v = .slice none 0 0 ∧ m = 0) ∨ ∃ ad c, v = .slice (some ad) m c ∧ ∀ j u, news[j]? = some u → w.cell? (ad.add j) = some u)
theorem Src.of_owns {w : World} {base : Nat} {t : TypeId} {size n : Nat} {v : Value} {xs : List Value} (h : w.ownsRow base t size v n xs) (h1 : ∀ u ∈ xs, u.oneCell' = true) : Src w size v n xs := by
 obtain ⟨hl, hv⟩ := h
 refine ⟨hl, h1, ?_⟩
 rcases hv with ⟨rfl, h0⟩ | ⟨g, cap, cur, rfl, hb, hg, hn, hm, hcs, htk⟩
 · exact .inl ⟨rfl, h0⟩
 ·
  refine .inr ⟨⟨g, 0, none⟩, cap, rfl, fun j u hj => ?_⟩
  have e : (⟨g, 0, none⟩ : Addr).add j = ⟨g, j, none⟩ := by unfold Addr.add; split <;> simp_all
  rw [e, ← htk, List.getElem?_take] at *
  split at hj
  · simpa [World.cell?, hg] using hj
  · cases hj
theorem run_append_src {P : Program} {w : World} (t ty : TypeId) (base : Nat) (e : TypeId) (i : TypeInfo) (z : Value) (size bytes : Nat) (ht : P.underlying t = some (.slice e)) (hi : P.info? e = some i) (hz : i.zero = some z)
    (hsize : i.size = size) (hby : i.bytes = bytes) (hzs : z.cells.size = size) (hsz : 0 < size)
    (v : Value) (n : Nat) (xs : List Value) (hown : w.ownsRow base e size v n xs) (x : Value) (m : Nat) (news : List Value) (hsrc : Src w size x m news)
    (h63 : n + m ≤ maxLen) (hbytes : (n + m) * bytes ≤ 140737488355328) (hbase : base ≤ w.heap.size) :
    ∃ v' w', (Builtin.append_ #[t, t] ty #[v, x]).run P w = .ok v' w' ∧ w'.ownsRow base e size v' (n + m) (xs ++ news) ∧ w.grownBy w' v.ownBlock := by
  obtain ⟨hl, h1, ⟨rfl, rfl⟩ | ⟨ad, c, rfl, hnews⟩⟩ := hsrc
  · have hn : news = [] := List.length_eq_zero_iff.1 (by omega)
    subst hn
    exact ⟨v, w, run_append_owned_none (P := P) (w := w) base t ty e i size ht hi v n xs hown, by simpa using hown, World.grownBy.refl _ _⟩
  · obtain ⟨v', w', hr, h2, h3, _, _⟩ := run_append_own_at (P := P) w base t ty e i z size bytes ht hi hz hsize hby hzs hsz v n xs hown ad m c news hl hnews h1 h63 hbytes hbase
    exact ⟨v', w', hr, h2, h3⟩
theorem wp_append_src {P : Program} {w : World} {o : Oper} {a : Act} {K : Act → World → Prop} {Q : Exit → Act → World → Prop} (s x : Operand) (t : TypeId)
    (ho : o.op = .call { callee := .builtin .append, args := #[s, x], argTypes := #[t, t] })
    (base : Nat) (e : TypeId) (i : TypeInfo) (z : Value) (size bytes : Nat) (ht : P.underlying t = some (.slice e)) (hi : P.info? e = some i) (hz : i.zero = some z)
    (hsize : i.size = size) (hby : i.bytes = bytes) (hzs : z.cells.size = size) (hsz : 0 < size)
    (v : Value) (n : Nat) (xs : List Value) (hs : a.eval s = v) (hown : w.ownsRow base e size v n xs) (y : Value) (m : Nat) (news : List Value) (hx : a.eval x = y) (hsrc : Src w size y m news)
    (h63 : n + m ≤ maxLen) (hbytes : (n + m) * bytes ≤ 140737488355328) (hbase : base ≤ w.heap.size)
    (h : ∀ v' w', w'.ownsRow base e size v' (n + m) (xs ++ news) → w.grownBy w' v.ownBlock → K (a.put o.dst v') w') : Oper.wp P o a w K Q := by
  obtain ⟨v', w', hr, h2, h3⟩ := run_append_src (P := P) (w := w) t o.type base e i z size bytes ht hi hz hsize hby hzs hsz v n xs hown y m news hsrc h63 hbytes hbase
  unfold Oper.wp execOp
  simp only [ho, resolve, invoke, builtin, Sem.run_bind, Sem.run_pure, Result.andThen_ok, List.map_toArray, List.map_cons, List.map_nil, hs, hx, hr]
  exact h v' w' h2 h3
theorem wpList_append_src {P : Program} {w : World} {ops : Array Oper} {rest : List Oper} {o : Oper} {a : Act} {Q : Exit → Act → World → Prop} (hgd : o.guard = none) (s x : Operand) (t : TypeId)
    (ho : o.op = .call { callee := .builtin .append, args := #[s, x], argTypes := #[t, t] })
    (base : Nat) (e : TypeId) (i : TypeInfo) (z : Value) (size bytes : Nat) (ht : P.underlying t = some (.slice e)) (hi : P.info? e = some i) (hz : i.zero = some z)
    (hsize : i.size = size) (hby : i.bytes = bytes) (hzs : z.cells.size = size) (hsz : 0 < size)
    (v : Value) (n : Nat) (xs : List Value) (hs : a.eval s = v) (hown : w.ownsRow base e size v n xs) (y : Value) (m : Nat) (news : List Value) (hx : a.eval x = y) (hsrc : Src w size y m news)
    (h63 : n + m ≤ maxLen) (hbytes : (n + m) * bytes ≤ 140737488355328) (hbase : base ≤ w.heap.size)
    (h : ∀ v' w', w'.ownsRow base e size v' (n + m) (xs ++ news) → w.grownBy w' v.ownBlock → wpList P ops Q rest (a.put o.dst v') w') : wpList P ops Q (o :: rest) a w :=
  wpList_plain hgd fun _ hK => wp_append_src s x t ho base e i z size bytes ht hi hz hsize hby hzs hsz v n xs hs hown y m news hx hsrc h63 hbytes hbase fun v' w' h2 h3 => hK _ _ (h v' w' h2 h3)
end Go.Proofs.YtbmhonfgffjpcaaGreat
namespace Go.Proofs.YtbmhonfgffjpcaaGreat
open Go.RowKit
open Go.Lib hiding intOf
theorem specDiskOk_len (o1 : Option Addr) (n1 c1 : Nat) (v2 : Value) (n2 : Nat) (ws : List (Int × ByteArray)) (B : Nat) (w : World) (h : w.ownsRow B 199 2 v2 n2 (flatWrite ws)) (hn2 : n2 ≤ 2000000) :
  Calls Tryz.prog 113 #[.agg #[.slice o1 n1 c1, v2]] w fun e w' => BoolIs (DiskN n1 ws) w e w' := by
 obtain ⟨oPx, pPx, rfl⟩ := slice_of_owns h
 have HOPx_0 : Hid ((w).ownsRow B 199 2 (.slice oPx n2 pPx) n2 (flatWrite ws)) := h
 have HPL : Hid (ws.length = n2) := write_len h
 clear h
 have hb0 : Below w.heap.size w w := Below.refl _ _
 go_enter Tryz.func113, Tryz.ntmps113
 go_upto_region 1 with fail
 obtain ⟨qv1, hqv1⟩ := exq ((w).heap.size)
 obtain ⟨w1, hW1⟩ := exq ((w).alloc (.cells #[.slice o1 n1 c1, .slice oPx n2 pPx] 49))
 have hz1 : (w).heap.size = qv1 := hqv1.symm
 first | rw [← hW1, ← hqv1] | rw [← hW1]
 have hs1 := hsa hW1 hz1
 have bw := bal hW1
 have hb1 := hbt hb0 bw
 have HOPx_1 := hown HOPx_0 bw
 have HBv1_1 := hnew hW1 hz1
 clear hb0 HOPx_0 bw hW1 hz1
 clear hs1 hqv1
 go_wp2_with fail
 go_loopw [3] (fun i wr => ∃ j : Nat, j ≤ n2 ∧ i = .int .i64 (j : Int) ∧ Hid (Below w.heap.size w (wr) ∧ (wr).heap[qv1]? = some (.cells #[.slice o1 n1 c1, .slice oPx n2 pPx] 49) ∧ (wr).ownsRow B 199 2 (.slice oPx n2 pPx) n2 (flatWrite ws)) ∧ Hid (∀ x ∈ ws.take j, 0 ≤ x.1 ∧ x.1 ≤ 19)) (fun i _ => n2 - (intOf i).toNat)
 case atStart => exact ⟨0, Nat.zero_le _, rfl, ⟨hb1, HBv1_1.out, HOPx_1.out⟩, fun x hx => by simp at hx⟩
 case round =>
  obtain ⟨j, hj, rfl, HW, HN⟩ := hrel
  by_cases hlt : (j : Int) < (n2 : Int)
  ·
   have hb2 := HW.out.1
   have HBv1_2 : Hid ((wr).heap[qv1]? = some (.cells #[.slice o1 n1 c1, .slice oPx n2 pPx] 49)) := HW.out.2.1
   have HOPx_2 : Hid ((wr).ownsRow B 199 2 (.slice oPx n2 pPx) n2 (flatWrite ws)) := HW.out.2.2
   clear HW hb1 HOPx_1 HBv1_1
   have hjx : j < ws.length := by rw [HPL.out]; omega
   obtain ⟨g, rfl⟩ := owns_some HOPx_2.out (by omega)
   obtain ⟨y, hy⟩ := exq (writeAt ws j)
   have HM : Hid (y ∈ ws) := by show _ ∈ _; rw [hy]; exact writeAt_mem ws j hjx
   have HTK : Hid (ws.take (j + 1) = ws.take j ++ [y]) := by show _ = _; rw [hy]; exact take_writeAt ws j hjx
   have HYE : Hid (writeAt ws j = y) := hy.symm
   clear hy hjx
   obtain ⟨y0, y1⟩ := y
   have HELPx : Hid (∀ W : World, (W).ownsRow B 199 2 (.slice (some ⟨g, 0, none⟩) n2 pPx) n2 (flatWrite ws) → (W.cell? ⟨g, j * 2, none⟩ = some (.int .i64 y0) ∧ W.cell? ⟨g, j * 2 + 1, none⟩ = some (.string y1))) := fun W h => by
    obtain ⟨g', hg, _, r0, r1⟩ := (write_view h).2 j (by omega)
    cases hg
    rw [HYE.out] at r0 r1
    exact ⟨r0, r1⟩
   obtain ⟨r0, r1⟩ := HELPx.out _ HOPx_2.out
   have cv1_1 := (k2c HBv1_2).2
   go_wp2_with fail
   refine (l1In_any y0 0 19 _).mono ?_
   rintro e w3 ⟨rfl, hwe⟩
   have bw : Below (wr).heap.size (wr) w3 := by rw [hwe]; exact Below.refl _ _
   clear hwe
   obtain ⟨uy, huy⟩ : ∃ u, u = decide ((0 : Int) ≤ y0 ∧ y0 ≤ 19) := ⟨_, rfl⟩
   rw [← huy]
   have hb3 := hbt hb2 bw
   have HOPx_3 := hown HOPx_2 bw
   have HBv1_3 := hblk HBv1_2 bw
   clear hb2 HOPx_2 HBv1_2 bw
   clear cv1_1 r0 r1
   cases uy with
   | false =>
    have HNY : Hid (¬ (0 ≤ y0 ∧ y0 ≤ 19)) := (show ¬ (0 ≤ y0 ∧ y0 ≤ 19) from of_decide_eq_false huy.symm)
    clear huy
    go_wp2_with fail
    go_ret
    exact BoolIs.no (fun h => HNY.out (h.2.2 _ HM.out)) hb3
   | true =>
    have HY : Hid (0 ≤ y0 ∧ y0 ≤ 19) := (show (0 ≤ y0 ∧ y0 ≤ 19) from of_decide_eq_true huy.symm)
    clear huy
    have HN2 : Hid (∀ x ∈ ws.take (j + 1), 0 ≤ x.1 ∧ x.1 ≤ 19) := fun x hx => by
     rw [HTK.out] at hx
     rcases List.mem_append.1 hx with hx | hx
     · exact HN.out x hx
     · rw [List.mem_singleton.1 hx]; exact HY.out
    go_wp2_with fail
    go_roundw
    case rel => exact ⟨j + 1, by omega, by go_num, ⟨hb3, HBv1_3.out, HOPx_3.out⟩, HN2⟩
    case measure => simp [intOf]; omega
  ·
   have hb2 := HW.out.1
   have HBv1_2 : Hid ((wr).heap[qv1]? = some (.cells #[.slice o1 n1 c1, .slice oPx n2 pPx] 49)) := HW.out.2.1
   have HOPx_2 : Hid ((wr).ownsRow B 199 2 (.slice oPx n2 pPx) n2 (flatWrite ws)) := HW.out.2.2
   clear HW hb1 HOPx_1 HBv1_1
   have HAL : Hid (∀ x ∈ ws, 0 ≤ x.1 ∧ x.1 ≤ 19) := fun x hx => HN.out x (by rw [List.take_of_length_le (by rw [HPL.out]; omega)]; exact hx)
   clear HN
   have cv1_1 := (k2c HBv1_2).2
   by_cases hc1 : (n1 : Int) = 20
   ·
    have hc1b : (((n1 : Int) : Int) == (20 : Int)) = true := by simpa using hc1
    have hc1n : (((n1 : Int) : Int) != (20 : Int)) = false := by simpa using hc1
    have HE : Hid (n1 = 20) := (by have := hc1; show _ = _; omega)
    have hc1H : Hid ((n1 : Int) = 20) := hc1
    clear hc1
    have cv1_0 := (k2c HBv1_2).1
    by_cases hc2 : (n2 : Int) ≤ 16
    ·
     have HLE : Hid (n2 ≤ 16) := (by have := hc2; show _ ≤ _; omega)
     go_wp2_with fail
     go_ret
     exact ⟨true, rfl, ⟨fun _ => ⟨HE.out, by rw [HPL.out]; exact HLE.out, HAL.out⟩, fun _ => rfl⟩, hb2⟩
    ·
     have HLE : Hid (¬ n2 ≤ 16) := (by have := hc2; show ¬ _; omega)
     go_wp2_with fail
     go_ret
     exact BoolIs.no (fun h => HLE.out (by have := h.2.1; rw [HPL.out] at this; exact this)) hb2
   ·
    have hc1b : (((n1 : Int) : Int) == (20 : Int)) = false := by simpa using hc1
    have hc1n : (((n1 : Int) : Int) != (20 : Int)) = true := by simpa using hc1
    have HE : Hid (¬ n1 = 20) := (by have := hc1; show ¬ _; omega)
    have hc1H : Hid (¬ ((n1 : Int) = 20)) := hc1
    clear hc1
    have cv1_0 := (k2c HBv1_2).1
    go_wp2_with fail
    go_ret
    exact BoolIs.no (fun h => HE.out h.1) hb2
theorem specDiskOk_any (v1 v2 : Value) (n1 : Nat) (cs : List ByteArray) (n2 : Nat) (ws : List (Int × ByteArray)) (B : Nat) (w : World) (h : DiskO w B v1 n1 cs v2 n2 ws) (_hn1 : n1 ≤ 2000000) (hn2 : n2 ≤ 2000000) :
  Calls Tryz.prog 113 #[.agg #[v1, v2]] w fun e w' => BoolIs (DiskP cs ws) w e w' := by
 obtain ⟨oCx, pCx, rfl⟩ := slice_of_owns h.cells
 have hl : cs.length = n1 := by have := h.cells.1; rw [List.length_map] at this; omega
 refine (specDiskOk_len oCx n1 pCx v2 n2 ws B w h.pend hn2).mono fun e w' hq => ?_
 show BoolIs (DiskN cs.length ws) w e w'
 rw [hl]
 exact hq
end Go.Proofs.YtbmhonfgffjpcaaGreat
namespace Go.Proofs.YtbmhonfgffjpcaaGreat
open Go.RowKit
open Go.Lib hiding intOf
/-- A store that was measured. -/
structure ShSmall (s : ShD) : Prop where
 c : s.cs.length ≤ 1048576
 w : s.ws.length ≤ 1048576
 k : s.ks.length ≤ 1048576
 b : s.bl.length ≤ 1048576
 ct : ∀ i, i < s.cs.length → (textAt s.cs i).size ≤ 1048576
 wt : ∀ x ∈ s.ws, x.2.size ≤ 1048576
 ks : ∀ k ∈ s.ks, KpSmall k
 bt : ∀ x ∈ s.bl, x.2.1.size ≤ 1048576 ∧ x.2.2.1.size ≤ 1048576
theorem ShSmall.bm {s : ShD} (h : ShSmall s) : ∀ x ∈ s.bl, x.2.1.size ≤ maxLen ∧ x.2.2.1.size ≤ maxLen := fun x hx => ⟨Nat.le_trans (h.bt x hx).1 (by decide), Nat.le_trans (h.bt x hx).2 (by decide)⟩
theorem ShSmall.kv {s : ShD} (h : ShSmall s) {kv : List (KpD × Value × Value × Value)} (hk : kv.map (·.1) = s.ks) {x : KpD × Value × Value × Value} (hx : x ∈ kv) : KpSmall x.1 := h.ks x.1 (by rw [← hk]; exact List.mem_map.2 ⟨x, hx, rfl⟩)
theorem specShelfOk_any (v1 v2 V VB : Value) (kv : List (KpD × Value × Value × Value)) (s : ShD) (B : Nat) (w : World) (h : ShelfO w B v1 v2 V VB kv s) (hz : ShSmall s) :
  Calls Tryz.prog 79 #[.agg #[v1, v2, V, VB, .int .i64 s.nx, .int .i64 s.sq]] w fun e w' => BoolIs (ShelfP s) w e w' := by
 obtain ⟨o1, c1, e1⟩ := slice_of_owns h.disk.cells
 obtain ⟨o2, c2, e2⟩ := slice_of_owns h.disk.pend
 obtain ⟨o3, c3, e3⟩ := slice_of_owns h.kept.row
 obtain ⟨o4, c4, e4⟩ := slice_of_owns h.bans
 subst e1 e2 e3 e4
 obtain ⟨n1, hn1⟩ := exq (s.cs.length)
 obtain ⟨n2, hn2⟩ := exq (s.ws.length)
 obtain ⟨n3, hn3⟩ := exq kv.length
 obtain ⟨n4, hn4⟩ := exq (s.bl.length)
 rw [← hn1, ← hn2, ← hn3, ← hn4] at h ⊢
 have HLN : Hid (s.cs.length = n1 ∧ s.ws.length = n2 ∧ kv.length = n3 ∧ s.bl.length = n4) := ⟨hn1.symm, hn2.symm, hn3.symm, hn4.symm⟩
 have HKS : Hid (kv.map (·.1) = s.ks) := h.2
 have HZ : Hid (ShSmall s) := hz
 have bn1 : n1 ≤ 1048576 := by rw [hn1]; exact hz.c
 have bn2 : n2 ≤ 1048576 := by rw [hn2]; exact hz.w
 have bn3 : n3 ≤ 1048576 := by rw [hn3, ← List.length_map (f := (·.1)), h.2]; exact hz.k
 have bn4 : n4 ≤ 1048576 := by rw [hn4]; exact hz.b
 have HSH : Hid (∀ W, Below w.heap.size w W → ShelfO W B (.slice o1 n1 c1) (.slice o2 n2 c2) (.slice o3 n3 c3) (.slice o4 n4 c4) kv s) := fun W hb => h.below hb
 have HKP : Hid (∀ W, Below w.heap.size w W → KeptsO W B (.slice o3 n3 c3) kv) := fun W hb => (h.below hb).kept
 have HLK : Hid (kv.length = n3) := hn3.symm
 clear hn1 hn2 hn3 hn4 h hz
 have hb0 : Below w.heap.size w w := Below.refl _ _
 go_enter Tryz.func79, Tryz.ntmps79
 go_upto_region 1 with fail
 obtain ⟨qv1, hqv1⟩ := exq ((w).heap.size)
 obtain ⟨w1, hW1⟩ := exq ((w).alloc (.cells #[.slice o1 n1 c1, .slice o2 n2 c2, .slice o3 n3 c3, .slice o4 n4 c4, .int .i64 s.nx, .int .i64 s.sq] 53))
 have hz1 : (w).heap.size = qv1 := hqv1.symm
 first | rw [← hW1, ← hqv1] | rw [← hW1]
 have hs1 := hsa hW1 hz1
 have bw := bal hW1
 have hb1 := hbt hb0 bw
 have HBv1_1 := hnew hW1 hz1
 clear hb0 bw hW1 hz1
 clear hs1 hqv1
 have cv1_0 := (k6c HBv1_1).1
 have cv1_1 := (k6c HBv1_1).2.1
 go_wp2_with fail
 refine (specDiskOk_any _ _ n1 s.cs n2 s.ws B _ (by have hd := (HSH.out _ hb1).disk; rw [HLN.out.1, HLN.out.2.1] at hd; exact hd) (by omega) (by omega)).mono ?_
 rintro e w2 ⟨ud, rfl, hud, bw⟩
 have hb2 := hbt hb1 bw
 have HBv1_2 := hblk HBv1_1 bw
 clear hb1 HBv1_1 bw
 clear cv1_0 cv1_1
 cases ud with
 | false =>
  have HNud : Hid (¬ (DiskP s.cs s.ws)) := fun h => nomatch hud.2 h
  clear hud
  go_wp2_with fail
  go_ret
  exact BoolIs.no (fun h => HNud.out h.1) hb2
 | true =>
  have HYud : Hid (DiskP s.cs s.ws) := hud.1 rfl
  clear hud
  by_cases hc1 : 5 < (n4 : Int)
  ·
   have HB5 : Hid (¬ n4 ≤ 5) := (by have := hc1; show ¬ _; omega)
   have cv1_3 := (k6c HBv1_2).2.2.2.1
   go_wp2_with fail
   go_ret
   exact BoolIs.no (fun h => by have h1 := h.2.1; have h5 := HB5.out; rw [HLN.out.2.2.2] at h1; omega) hb2
  ·
   have HB5 : Hid (n4 ≤ 5) := (by have := hc1; show _ ≤ _; omega)
   have cv1_3 := (k6c HBv1_2).2.2.2.1
   have cv1_4 := (k6c HBv1_2).2.2.2.2.1
   go_wp2_with fail
   refine (l1In_any s.nx 5 19 _).mono ?_
   rintro e w3 ⟨rfl, hwe⟩
   have bw : Below (w2).heap.size (w2) w3 := by rw [hwe]; exact Below.refl _ _
   clear hwe
   obtain ⟨unx, hunx⟩ : ∃ u, u = decide ((5 : Int) ≤ s.nx ∧ s.nx ≤ 19) := ⟨_, rfl⟩
   rw [← hunx]
   have hb3 := hbt hb2 bw
   have HBv1_3 := hblk HBv1_2 bw
   clear hb2 HBv1_2 bw
   clear cv1_3 cv1_4
   cases unx with
   | false =>
    have HNunx : Hid (¬ (5 ≤ s.nx ∧ s.nx ≤ 19)) := (show ¬ (5 ≤ s.nx ∧ s.nx ≤ 19) from of_decide_eq_false hunx.symm)
    clear hunx
    go_wp2_with fail
    go_ret
    exact BoolIs.no (fun h => HNunx.out h.2.2.1) hb3
   | true =>
    have HYunx : Hid (5 ≤ s.nx ∧ s.nx ≤ 19) := (show (5 ≤ s.nx ∧ s.nx ≤ 19) from of_decide_eq_true hunx.symm)
    clear hunx
    have cv1_5 := (k6c HBv1_3).2.2.2.2.2
    go_wp2_with fail
    refine (l1In_any s.sq 1 100000 _).mono ?_
    rintro e w4 ⟨rfl, hwe⟩
    have bw : Below (w3).heap.size (w3) w4 := by rw [hwe]; exact Below.refl _ _
    clear hwe
    obtain ⟨usq, husq⟩ : ∃ u, u = decide ((1 : Int) ≤ s.sq ∧ s.sq ≤ 100000) := ⟨_, rfl⟩
    rw [← husq]
    have hb4 := hbt hb3 bw
    have HBv1_4 := hblk HBv1_3 bw
    clear hb3 HBv1_3 bw
    clear cv1_5
    cases usq with
    | false =>
     have HNusq : Hid (¬ (1 ≤ s.sq ∧ s.sq ≤ 100000)) := (show ¬ (1 ≤ s.sq ∧ s.sq ≤ 100000) from of_decide_eq_false husq.symm)
     clear husq
     go_wp2_with fail
     go_ret
     exact BoolIs.no (fun h => HNusq.out h.2.2.2.1) hb4
    | true =>
     have HYusq : Hid (1 ≤ s.sq ∧ s.sq ≤ 100000) := (show (1 ≤ s.sq ∧ s.sq ≤ 100000) from of_decide_eq_true husq.symm)
     clear husq
     have bq1 := HYusq.out.1
     have bq2 := HYusq.out.2
     have hwq : IntKind.i64.wrap (s.sq - 1) = s.sq - 1 := by rw [IntKind.wrap_i64]; omega
     go_wp2_with fail
     go_loopw [3] (fun i wr => ∃ j : Nat, j ≤ n4 ∧ i = .int .i64 (j : Int) ∧ Hid (Below w.heap.size w (wr) ∧ (wr).heap[qv1]? = some (.cells #[.slice o1 n1 c1, .slice o2 n2 c2, .slice o3 n3 c3, .slice o4 n4 c4, .int .i64 s.nx, .int .i64 s.sq] 53)) ∧ Hid (∀ x ∈ s.bl.take j, BanP x.1 x.2.1 x.2.2.1 x.2.2.2)) (fun i _ => n4 - (intOf i).toNat)
     case atStart => exact ⟨0, Nat.zero_le _, rfl, ⟨hb4, HBv1_4.out⟩, fun x hx => by simp at hx⟩
     case round =>
      obtain ⟨j, hj, rfl, HW, HN⟩ := hrel
      by_cases hlt : (j : Int) < (n4 : Int)
      ·
       have hb5 := HW.out.1
       have HBv1_5 : Hid ((wr).heap[qv1]? = some (.cells #[.slice o1 n1 c1, .slice o2 n2 c2, .slice o3 n3 c3, .slice o4 n4 c4, .int .i64 s.nx, .int .i64 s.sq] 53)) := HW.out.2
       clear HW hb4 HBv1_4
       have hbn := (HSH.out _ hb5).bans
       try rw [HLN.out.2.2.2] at hbn
       have hbv := ban_view hbn
       clear hbn
       obtain ⟨g4, hog, hgl, r1, r2, r3, r4⟩ := hbv.2 j (by first | omega | (rw [HLN.out.2.2.2]; omega))
       clear hbv
       subst hog
       obtain ⟨y, hy⟩ := exq (banAt s.bl j)
       rw [← hy] at r1 r2 r3 r4
       have HM : Hid (y ∈ s.bl) := by show _ ∈ _; rw [hy]; exact banAt_mem s.bl j (by rw [HLN.out.2.2.2]; omega)
       have HTK : Hid (s.bl.take (j + 1) = s.bl.take j ++ [y]) := by show _ = _; rw [hy]; exact take_banAt s.bl j (by rw [HLN.out.2.2.2]; omega)
       clear hy hgl
       obtain ⟨y0, y1, y2, y3⟩ := y
       dsimp only at r1 r2 r3 r4
       have cv1_3 := (k6c HBv1_5).2.2.2.1
       go_wp2_with fail
       refine (specBanOk_any y0 y1 y2 y3 _ (HZ.out.bm _ HM.out).1 (HZ.out.bm _ HM.out).2).mono ?_
       rintro e w6 ⟨ub, rfl, hub, bw⟩
       have hb6 := hbt hb5 bw
       have HBv1_6 := hblk HBv1_5 bw
       clear hb5 HBv1_5 bw
       clear r1 r2 r3 r4 cv1_3
       cases ub with
       | false =>
        have HNub : Hid (¬ (BanP y0 y1 y2 y3)) := fun h => nomatch hub.2 h
        clear hub
        go_wp2_with fail
        go_ret
        exact BoolIs.no (fun h => HNub.out (h.2.2.2.2.1 _ HM.out)) hb6
       | true =>
        have HYub : Hid (BanP y0 y1 y2 y3) := hub.1 rfl
        clear hub
        have HN2 : Hid (∀ x ∈ s.bl.take (j + 1), BanP x.1 x.2.1 x.2.2.1 x.2.2.2) := fun x hx => by
         rw [HTK.out] at hx
         rcases List.mem_append.1 hx with hx | hx
         · exact HN.out x hx
         · rw [List.mem_singleton.1 hx]; exact HYub.out
        go_wp2_with fail
        go_roundw
        case rel => exact ⟨j + 1, by omega, by go_num, ⟨hb6, HBv1_6.out⟩, HN2⟩
        case measure => simp [intOf]; omega
      ·
       have hb5 := HW.out.1
       have HBv1_5 : Hid ((wr).heap[qv1]? = some (.cells #[.slice o1 n1 c1, .slice o2 n2 c2, .slice o3 n3 c3, .slice o4 n4 c4, .int .i64 s.nx, .int .i64 s.sq] 53)) := HW.out.2
       clear HW hb4 HBv1_4
       have HAL : Hid (∀ x ∈ s.bl, BanP x.1 x.2.1 x.2.2.1 x.2.2.2) := fun x hx => HN.out x (by rw [List.take_of_length_le (by rw [HLN.out.2.2.2]; omega)]; exact hx)
       clear HN
       have cv1_3 := (k6c HBv1_5).2.2.2.1
       go_wp2_with fail
       clear cv1_3
       obtain ⟨wA, hwA⟩ := exq wr
       rw [← hwA] at hb5 HBv1_5 ⊢
       clear hwA
       go_loopw [4] (fun i wr => ∃ i' : Nat, i' ≤ n3 ∧ i = .int .i64 (i' : Int) ∧ Hid (Below w.heap.size w (wr) ∧ (wr).heap[qv1]? = some (.cells #[.slice o1 n1 c1, .slice o2 n2 c2, .slice o3 n3 c3, .slice o4 n4 c4, .int .i64 s.nx, .int .i64 s.sq] 53)) ∧ Hid (∀ m, m < i' → KpOk s.ks s.sq m)) (fun i _ => n3 - (intOf i).toNat)
       case atStart => exact ⟨0, Nat.zero_le _, rfl, ⟨hb5, HBv1_5.out⟩, fun m hm => absurd hm (by omega)⟩
       case round =>
        obtain ⟨i, hi, rfl, HW, HN⟩ := hrel
        by_cases hlt : (i : Int) < (n3 : Int)
        ·
         have hb6 := HW.out.1
         have HBv1_6 : Hid ((wr).heap[qv1]? = some (.cells #[.slice o1 n1 c1, .slice o2 n2 c2, .slice o3 n3 c3, .slice o4 n4 c4, .int .i64 s.nx, .int .i64 s.sq] 53)) := HW.out.2
         clear HW hb5 HBv1_5
         obtain ⟨g3, p3, hV, _, _⟩ := (HKP.out _ hb6).look i (by rw [HLK.out]; omega)
         rw [HLK.out] at hV
         injection hV with hV1 hV2 hV3
         subst hV1 hV3
         clear hV2
         obtain ⟨xX, hxX⟩ := exq (kvAt kv i)
         have HMx : Hid (xX ∈ kv) := by show _ ∈ _; rw [hxX]; exact kvAt_mem kv i (by rw [HLK.out]; omega)
         have HEx : Hid (kpAt s.ks i = xX.1) := by show _ = _; rw [hxX, ← HKS.out]; exact (kvAt_fst kv i (by rw [HLK.out]; omega)).symm
         have HTKx : Hid (kv.take (i + 1) = kv.take i ++ [xX]) := by show _ = _; rw [hxX]; exact kvAt_take kv i (by rw [HLK.out]; omega)
         have HKx : Hid (∀ W, Below w.heap.size w W → KpAt W g3 i xX) := fun W hb => by
          obtain ⟨g', p', hV, _, hc⟩ := (HKP.out W hb).look i (by rw [HLK.out]; omega)
          injection hV with hV1 _ _
          cases hV1
          rw [hxX]
          exact hc
         clear hxX
         obtain ⟨x, kuv1, kuv2, kuv3⟩ := xX
         obtain ⟨ku1, kuc1, hu⟩ := slice_of_owns ((HKP.out _ hb6).names HMx.out)
         have hu' : kuv1 = .slice ku1 x.xs.length kuc1 := hu
         subst hu'
         clear hu
         obtain ⟨ku2, kuc2, hu⟩ := slice_of_owns ((HKP.out _ hb6).vals HMx.out)
         have hu' : kuv2 = .slice ku2 x.ys.length kuc2 := hu
         subst hu'
         clear hu
         obtain ⟨ku3, kuc3, hu⟩ := slice_of_owns ((HKP.out _ hb6).flds HMx.out)
         have hu' : kuv3 = .slice ku3 x.fs.length kuc3 := hu
         subst hu'
         clear hu
         have r0x := (HKx.out _ hb6).c0
         have r1x := (HKx.out _ hb6).c1
         have r2x := (HKx.out _ hb6).c2
         have r3x := (HKx.out _ hb6).c3
         have r4x := (HKx.out _ hb6).c4
         have r5x := (HKx.out _ hb6).c5
         have r6x := (HKx.out _ hb6).c6
         have r7x := (HKx.out _ hb6).c7
         have r8x := (HKx.out _ hb6).c8
         dsimp only at r0x r1x r2x r3x r4x r5x r6x r7x r8x
         have cv1_2 := (k6c HBv1_6).2.2.1
         go_upto_region 12 with fail
         obtain ⟨qv2, hqv2⟩ := exq ((wr).heap.size)
         obtain ⟨w7, hW7⟩ := exq ((wr).alloc (.cells #[.string x.p, .slice ku1 x.xs.length kuc1, .slice ku2 x.ys.length kuc2, .int .i64 x.st, .slice ku3 x.fs.length kuc3, .string x.b, .int .i64 x.t, .int .i64 x.a, .int .i64 x.q] 103))
         have hz7 : (wr).heap.size = qv2 := hqv2.symm
         first | rw [← hW7, ← hqv2] | rw [← hW7]
         have hs7 := hsa hW7 hz7
         have bw := bal hW7
         have hb7 := hbt hb6 bw
         have HBv1_7 := hblk HBv1_6 bw
         have HBv2_7 := hnew hW7 hz7
         clear hb6 HBv1_6 bw hW7 hz7
         clear hs7 hqv2
         clear r0x r1x r2x r3x r4x r5x r6x r7x r8x cv1_2
         go_upto_region 12 with fail
         by_cases hi0 : (0 : Int) < (i : Int)
         ·
          obtain ⟨m, hm⟩ : ∃ m : Nat, (i : Int) - 1 = (m : Int) := ⟨i - 1, by omega⟩
          have hi0n : 0 < i := by omega
          have hmn : ¬ n3 ≤ m := by omega
          have hwm : IntKind.i64.wrap (m : Int) = (m : Int) := by rw [IntKind.wrap_i64]; omega
          obtain ⟨zX, hzX⟩ := exq (kvAt kv m)
          have HMz : Hid (zX ∈ kv) := by show _ ∈ _; rw [hzX]; exact kvAt_mem kv m (by rw [HLK.out]; omega)
          have HEz : Hid (kpAt s.ks m = zX.1) := by show _ = _; rw [hzX, ← HKS.out]; exact (kvAt_fst kv m (by rw [HLK.out]; omega)).symm
          have HTKz : Hid (kv.take (m + 1) = kv.take m ++ [zX]) := by show _ = _; rw [hzX]; exact kvAt_take kv m (by rw [HLK.out]; omega)
          have HKz : Hid (∀ W, Below w.heap.size w W → KpAt W g3 m zX) := fun W hb => by
           obtain ⟨g', p', hV, _, hc⟩ := (HKP.out W hb).look m (by rw [HLK.out]; omega)
           injection hV with hV1 _ _
           cases hV1
           rw [hzX]
           exact hc
          clear hzX
          obtain ⟨z, ktv1, ktv2, ktv3⟩ := zX
          obtain ⟨kt1, ktc1, hu⟩ := slice_of_owns ((HKP.out _ hb7).names HMz.out)
          have hu' : ktv1 = .slice kt1 z.xs.length ktc1 := hu
          subst hu'
          clear hu
          obtain ⟨kt2, ktc2, hu⟩ := slice_of_owns ((HKP.out _ hb7).vals HMz.out)
          have hu' : ktv2 = .slice kt2 z.ys.length ktc2 := hu
          subst hu'
          clear hu
          obtain ⟨kt3, ktc3, hu⟩ := slice_of_owns ((HKP.out _ hb7).flds HMz.out)
          have hu' : ktv3 = .slice kt3 z.fs.length ktc3 := hu
          subst hu'
          clear hu
          have HEL3 : Hid (∀ W, Below w.heap.size w W → (W.cell? ⟨g3, m * 9, none⟩ = some (.string z.p) ∧ W.cell? ⟨g3, m * 9 + 1, none⟩ = some (.slice kt1 z.xs.length ktc1) ∧ W.cell? ⟨g3, m * 9 + 2, none⟩ = some (.slice kt2 z.ys.length ktc2) ∧ W.cell? ⟨g3, m * 9 + 3, none⟩ = some (.int .i64 z.st) ∧ W.cell? ⟨g3, m * 9 + 4, none⟩ = some (.slice kt3 z.fs.length ktc3) ∧ W.cell? ⟨g3, m * 9 + 5, none⟩ = some (.string z.b) ∧ W.cell? ⟨g3, m * 9 + 6, none⟩ = some (.int .i64 z.t) ∧ W.cell? ⟨g3, m * 9 + 7, none⟩ = some (.int .i64 z.a) ∧ W.cell? ⟨g3, m * 9 + 8, none⟩ = some (.int .i64 z.q))) := fun W hb => by
           have c := HKz.out W hb
           exact ⟨c.c0, c.c1, c.c2, c.c3, c.c4, c.c5, c.c6, c.c7, c.c8⟩
          have HIM : Hid (i = m + 1) := (by show _ = _; omega)
          go_upto_region 12 with fail
          refine wp_region_held_drew (S := fun W => W.heap[qv2]? = some (.cells #[.string x.p, .slice ku1 x.xs.length kuc1, .slice ku2 x.ys.length kuc2, .int .i64 x.st, .slice ku3 x.fs.length kuc3, .string x.b, .int .i64 x.t, .int .i64 x.a, .int .i64 x.q] 103) ∧ W.heap[qv1]? = some (.cells #[.slice o1 n1 c1, .slice o2 n2 c2, .slice (some ⟨g3, 0, none⟩) n3 c3, .slice o4 n4 c4, .int .i64 s.nx, .int .i64 s.sq] 53) ∧ (W.cell? ⟨g3, m * 9, none⟩ = some (.string z.p) ∧ W.cell? ⟨g3, m * 9 + 1, none⟩ = some (.slice kt1 z.xs.length ktc1) ∧ W.cell? ⟨g3, m * 9 + 2, none⟩ = some (.slice kt2 z.ys.length ktc2) ∧ W.cell? ⟨g3, m * 9 + 3, none⟩ = some (.int .i64 z.st) ∧ W.cell? ⟨g3, m * 9 + 4, none⟩ = some (.slice kt3 z.fs.length ktc3) ∧ W.cell? ⟨g3, m * 9 + 5, none⟩ = some (.string z.b) ∧ W.cell? ⟨g3, m * 9 + 6, none⟩ = some (.int .i64 z.t) ∧ W.cell? ⟨g3, m * 9 + 7, none⟩ = some (.int .i64 z.a) ∧ W.cell? ⟨g3, m * 9 + 8, none⟩ = some (.int .i64 z.q))) (by kernel_rfl) ⟨HBv2_7.out, HBv1_7.out, (by first | exact HEL3.out _ hb7 | exact HEL3.out _ hb7.drew)⟩ (fun _ => ?_)
          obtain ⟨w8, hX⟩ := exq w7.drew
          have bw := bdr hX
          rw [← hX]
          have hb8 := hbt hb7 bw
          have HM8 := hsz bw
          have HBv1_8 := hblk HBv1_7 bw
          have HBv2_8 := hblk HBv2_7 bw
          have hS8 : w8.heap[qv2]? = some (.cells #[.string x.p, .slice ku1 x.xs.length kuc1, .slice ku2 x.ys.length kuc2, .int .i64 x.st, .slice ku3 x.fs.length kuc3, .string x.b, .int .i64 x.t, .int .i64 x.a, .int .i64 x.q] 103) ∧ w8.heap[qv1]? = some (.cells #[.slice o1 n1 c1, .slice o2 n2 c2, .slice (some ⟨g3, 0, none⟩) n3 c3, .slice o4 n4 c4, .int .i64 s.nx, .int .i64 s.sq] 53) ∧ (w8.cell? ⟨g3, m * 9, none⟩ = some (.string z.p) ∧ w8.cell? ⟨g3, m * 9 + 1, none⟩ = some (.slice kt1 z.xs.length ktc1) ∧ w8.cell? ⟨g3, m * 9 + 2, none⟩ = some (.slice kt2 z.ys.length ktc2) ∧ w8.cell? ⟨g3, m * 9 + 3, none⟩ = some (.int .i64 z.st) ∧ w8.cell? ⟨g3, m * 9 + 4, none⟩ = some (.slice kt3 z.fs.length ktc3) ∧ w8.cell? ⟨g3, m * 9 + 5, none⟩ = some (.string z.b) ∧ w8.cell? ⟨g3, m * 9 + 6, none⟩ = some (.int .i64 z.t) ∧ w8.cell? ⟨g3, m * 9 + 7, none⟩ = some (.int .i64 z.a) ∧ w8.cell? ⟨g3, m * 9 + 8, none⟩ = some (.int .i64 z.q)) := ⟨HBv2_8.out, HBv1_8.out, (by first | exact HEL3.out _ hb8 | exact HEL3.out _ hb8.drew)⟩
          clear hb7 HBv1_7 HBv2_7 bw hX
          refine tkP 0 (.pointer (some ⟨qv2, 0, none⟩)) 55 rfl rfl hS8 ?_
          go_frame
          refine tkL 1 (.agg #[.string x.p, .slice ku1 x.xs.length kuc1, .slice ku2 x.ys.length kuc2, .int .i64 x.st, .slice ku3 x.fs.length kuc3, .string x.b, .int .i64 x.t]) 56 rfl rfl (Or.inl ⟨by rfl, by intro W hW; obtain ⟨hhv2, hhv1, hhE_3⟩ := hW; have y0 := (cell_of hhv2 0).trans rfl; have y1 := (cell_of hhv2 1).trans rfl; have y2 := (cell_of hhv2 2).trans rfl; have y3 := (cell_of hhv2 3).trans rfl; have y4 := (cell_of hhv2 4).trans rfl; have y5 := (cell_of hhv2 5).trans rfl; have y6 := (cell_of hhv2 6).trans rfl; go_simp⟩) hS8 ?_
          go_frame
          refine rd1 2 rfl (fun K hK => ?_)
          go_simp
          refine (specObjOk_k x _ _ _ _ ((HSH.out _ hb8).kept.read HMx.out) (HZ.out.kv HKS.out HMx.out)).mono ?_
          rintro e w9 ⟨uo, rfl, huo, bw⟩
          have hb9 := hbt hb8 bw
          have HM9 := hsz bw
          have HBv1_9 := hblk HBv1_8 bw
          have HBv2_9 := hblk HBv2_8 bw
          clear hb8 HBv1_8 HBv2_8 bw
          have hS9 : w9.heap[qv2]? = some (.cells #[.string x.p, .slice ku1 x.xs.length kuc1, .slice ku2 x.ys.length kuc2, .int .i64 x.st, .slice ku3 x.fs.length kuc3, .string x.b, .int .i64 x.t, .int .i64 x.a, .int .i64 x.q] 103) ∧ w9.heap[qv1]? = some (.cells #[.slice o1 n1 c1, .slice o2 n2 c2, .slice (some ⟨g3, 0, none⟩) n3 c3, .slice o4 n4 c4, .int .i64 s.nx, .int .i64 s.sq] 53) ∧ (w9.cell? ⟨g3, m * 9, none⟩ = some (.string z.p) ∧ w9.cell? ⟨g3, m * 9 + 1, none⟩ = some (.slice kt1 z.xs.length ktc1) ∧ w9.cell? ⟨g3, m * 9 + 2, none⟩ = some (.slice kt2 z.ys.length ktc2) ∧ w9.cell? ⟨g3, m * 9 + 3, none⟩ = some (.int .i64 z.st) ∧ w9.cell? ⟨g3, m * 9 + 4, none⟩ = some (.slice kt3 z.fs.length ktc3) ∧ w9.cell? ⟨g3, m * 9 + 5, none⟩ = some (.string z.b) ∧ w9.cell? ⟨g3, m * 9 + 6, none⟩ = some (.int .i64 z.t) ∧ w9.cell? ⟨g3, m * 9 + 7, none⟩ = some (.int .i64 z.a) ∧ w9.cell? ⟨g3, m * 9 + 8, none⟩ = some (.int .i64 z.q)) := ⟨HBv2_9.out, HBv1_9.out, (by first | exact HEL3.out _ hb9 | exact HEL3.out _ hb9.drew)⟩
          refine hK.out _ _ hS9 (fun _ => ?_)
          clear hK K hS8
          cases uo with
          | false =>
           have HNuo : Hid (¬ (ObjK x)) := fun h => nomatch huo.2 h
           clear huo
           refine tkP 3 (.bool true) 58 rfl rfl hS9 ?_
           go_frame
           refine tkP 4 (.bool true) 59 rfl rfl hS9 ?_
           go_frame
           refine tkN 5 60 rfl rfl hS9 ?_
           go_frame
           refine tkN 6 61 rfl rfl hS9 ?_
           go_frame
           refine tkN 7 62 rfl rfl hS9 ?_
           go_frame
           refine tkN 8 63 rfl rfl hS9 ?_
           go_frame
           refine tkP 9 (.bool true) 64 rfl rfl hS9 ?_
           go_frame
           refine tkP 10 (.bool true) 65 rfl rfl hS9 ?_
           go_frame
           refine tkN 11 66 rfl rfl hS9 ?_
           go_frame
           refine tkN 12 67 rfl rfl hS9 ?_
           go_frame
           refine tkN 13 68 rfl rfl hS9 ?_
           go_frame
           refine tkN 14 69 rfl rfl hS9 ?_
           go_frame
           refine tkN 15 70 rfl rfl hS9 ?_
           go_frame
           refine tkN 16 71 rfl rfl hS9 ?_
           go_frame
           refine tkN 17 72 rfl rfl hS9 ?_
           go_frame
           refine tkP 18 (.bool true) 73 rfl rfl hS9 ?_
           go_frame
           refine tkP 19 (.bool true) 74 rfl rfl hS9 ?_
           go_frame
           refine tkN 20 75 rfl rfl hS9 ?_
           go_frame
           refine tkN 21 76 rfl rfl hS9 ?_
           go_frame
           refine tkN 22 77 rfl rfl hS9 ?_
           go_frame
           refine tkN 23 78 rfl rfl hS9 ?_
           go_frame
           refine tkN 24 79 rfl rfl hS9 ?_
           go_frame
           refine tkN 25 80 rfl rfl hS9 ?_
           go_frame
           refine tkN 26 81 rfl rfl hS9 ?_
           go_frame
           refine tkN 27 82 rfl rfl hS9 ?_
           go_frame
           refine tkN 28 83 rfl rfl hS9 ?_
           go_frame
           refine tkN 29 84 rfl rfl hS9 ?_
           go_frame
           refine tkN 30 85 rfl rfl hS9 ?_
           go_frame
           refine tkN 31 86 rfl rfl hS9 ?_
           go_frame
           refine tkN 32 87 rfl rfl hS9 ?_
           go_frame
           refine tkN 33 88 rfl rfl hS9 ?_
           go_frame
           refine tkP 34 (.bool true) 89 rfl rfl hS9 ?_
           go_frame
           clear hS9
           refine wpAnyH_done (by kernel_rfl) ?_ _
           go_wp2_with fail
           go_ret
           exact BoolIs.no (fun h => by have hk := h.2.2.2.2.2 i (by rw [← HKS.out, List.length_map, HLN.out.2.2.1]; omega); unfold KpOk at hk; rw [HEx.out] at hk; exact HNuo.out hk.1) hb9
          | true =>
           have HYuo : Hid (ObjK x) := huo.1 rfl
           clear huo
           refine tkP 3 (.bool false) 58 rfl rfl hS9 ?_
           go_frame
           refine tkP 4 (.bool false) 59 rfl rfl hS9 ?_
           go_frame
           refine tkP 5 (.pointer (some ⟨qv2, 7, none⟩)) 60 rfl rfl hS9 ?_
           go_frame
           refine tkL 6 (.int .i64 x.a) 61 rfl rfl (Or.inl ⟨by rfl, by intro W hW; obtain ⟨hhv2, hhv1, hhE_3⟩ := hW; have y7 := (cell_of hhv2 7).trans rfl; go_simp⟩) hS9 ?_
           go_frame
           refine rd1 7 rfl (fun K hK => ?_)
           go_simp
           refine (l1In_any x.a 5 19 _).mono ?_
           rintro e w10 ⟨rfl, hwe⟩
           have bw : Below (w9).heap.size (w9) w10 := by rw [hwe]; exact Below.refl _ _
           clear hwe
           obtain ⟨uka, huka⟩ : ∃ u, u = decide ((5 : Int) ≤ x.a ∧ x.a ≤ 19) := ⟨_, rfl⟩
           rw [← huka]
           have hb10 := hbt hb9 bw
           have HM10 := hsz bw
           have HBv1_10 := hblk HBv1_9 bw
           have HBv2_10 := hblk HBv2_9 bw
           clear hb9 HBv1_9 HBv2_9 bw
           have hS10 : w10.heap[qv2]? = some (.cells #[.string x.p, .slice ku1 x.xs.length kuc1, .slice ku2 x.ys.length kuc2, .int .i64 x.st, .slice ku3 x.fs.length kuc3, .string x.b, .int .i64 x.t, .int .i64 x.a, .int .i64 x.q] 103) ∧ w10.heap[qv1]? = some (.cells #[.slice o1 n1 c1, .slice o2 n2 c2, .slice (some ⟨g3, 0, none⟩) n3 c3, .slice o4 n4 c4, .int .i64 s.nx, .int .i64 s.sq] 53) ∧ (w10.cell? ⟨g3, m * 9, none⟩ = some (.string z.p) ∧ w10.cell? ⟨g3, m * 9 + 1, none⟩ = some (.slice kt1 z.xs.length ktc1) ∧ w10.cell? ⟨g3, m * 9 + 2, none⟩ = some (.slice kt2 z.ys.length ktc2) ∧ w10.cell? ⟨g3, m * 9 + 3, none⟩ = some (.int .i64 z.st) ∧ w10.cell? ⟨g3, m * 9 + 4, none⟩ = some (.slice kt3 z.fs.length ktc3) ∧ w10.cell? ⟨g3, m * 9 + 5, none⟩ = some (.string z.b) ∧ w10.cell? ⟨g3, m * 9 + 6, none⟩ = some (.int .i64 z.t) ∧ w10.cell? ⟨g3, m * 9 + 7, none⟩ = some (.int .i64 z.a) ∧ w10.cell? ⟨g3, m * 9 + 8, none⟩ = some (.int .i64 z.q)) := ⟨HBv2_10.out, HBv1_10.out, (by first | exact HEL3.out _ hb10 | exact HEL3.out _ hb10.drew)⟩
           refine hK.out _ _ hS10 (fun _ => ?_)
           clear hK K hS9
           cases uka with
           | false =>
            have HNuka : Hid (¬ (5 ≤ x.a ∧ x.a ≤ 19)) := (show ¬ (5 ≤ x.a ∧ x.a ≤ 19) from of_decide_eq_false huka.symm)
            clear huka
            refine tkP 8 (.bool true) 63 rfl rfl hS10 ?_
            go_frame
            refine tkP 9 (.bool true) 64 rfl rfl hS10 ?_
            go_frame
            refine tkP 10 (.bool true) 65 rfl rfl hS10 ?_
            go_frame
            refine tkN 11 66 rfl rfl hS10 ?_
            go_frame
            refine tkN 12 67 rfl rfl hS10 ?_
            go_frame
            refine tkN 13 68 rfl rfl hS10 ?_
            go_frame
            refine tkN 14 69 rfl rfl hS10 ?_
            go_frame
            refine tkN 15 70 rfl rfl hS10 ?_
            go_frame
            refine tkN 16 71 rfl rfl hS10 ?_
            go_frame
            refine tkN 17 72 rfl rfl hS10 ?_
            go_frame
            refine tkP 18 (.bool true) 73 rfl rfl hS10 ?_
            go_frame
            refine tkP 19 (.bool true) 74 rfl rfl hS10 ?_
            go_frame
            refine tkN 20 75 rfl rfl hS10 ?_
            go_frame
            refine tkN 21 76 rfl rfl hS10 ?_
            go_frame
            refine tkN 22 77 rfl rfl hS10 ?_
            go_frame
            refine tkN 23 78 rfl rfl hS10 ?_
            go_frame
            refine tkN 24 79 rfl rfl hS10 ?_
            go_frame
            refine tkN 25 80 rfl rfl hS10 ?_
            go_frame
            refine tkN 26 81 rfl rfl hS10 ?_
            go_frame
            refine tkN 27 82 rfl rfl hS10 ?_
            go_frame
            refine tkN 28 83 rfl rfl hS10 ?_
            go_frame
            refine tkN 29 84 rfl rfl hS10 ?_
            go_frame
            refine tkN 30 85 rfl rfl hS10 ?_
            go_frame
            refine tkN 31 86 rfl rfl hS10 ?_
            go_frame
            refine tkN 32 87 rfl rfl hS10 ?_
            go_frame
            refine tkN 33 88 rfl rfl hS10 ?_
            go_frame
            refine tkP 34 (.bool true) 89 rfl rfl hS10 ?_
            go_frame
            clear hS10
            refine wpAnyH_done (by kernel_rfl) ?_ _
            go_wp2_with fail
            go_ret
            exact BoolIs.no (fun h => by have hk := h.2.2.2.2.2 i (by rw [← HKS.out, List.length_map, HLN.out.2.2.1]; omega); unfold KpOk at hk; rw [HEx.out] at hk; exact HNuka.out hk.2.1) hb10
           | true =>
            have HYuka : Hid (5 ≤ x.a ∧ x.a ≤ 19) := (show (5 ≤ x.a ∧ x.a ≤ 19) from of_decide_eq_true huka.symm)
            clear huka
            refine tkP 8 (.bool false) 63 rfl rfl hS10 ?_
            go_frame
            refine tkP 9 (.bool false) 64 rfl rfl hS10 ?_
            go_frame
            refine tkP 10 (.bool false) 65 rfl rfl hS10 ?_
            go_frame
            refine tkP 11 (.pointer (some ⟨qv2, 8, none⟩)) 66 rfl rfl hS10 ?_
            go_frame
            refine tkL 12 (.int .i64 x.q) 67 rfl rfl (Or.inl ⟨by rfl, by intro W hW; obtain ⟨hhv2, hhv1, hhE_3⟩ := hW; have y8 := (cell_of hhv2 8).trans rfl; go_simp⟩) hS10 ?_
            go_frame
            refine tkP 13 (.pointer (some ⟨qv1, 5, none⟩)) 68 rfl rfl hS10 ?_
            go_frame
            refine tkL 14 (.int .i64 s.sq) 69 rfl rfl (Or.inl ⟨by rfl, by intro W hW; obtain ⟨hhv2, hhv1, hhE_3⟩ := hW; have y5 := (cell_of hhv1 5).trans rfl; go_simp⟩) hS10 ?_
            go_frame
            refine tkP 15 (.int .i64 (s.sq - 1)) 70 rfl rfl hS10 ?_
            go_frame
            refine rd1 16 rfl (fun K hK => ?_)
            go_simp
            refine (l1In_any x.q 1 (s.sq - 1) _).mono ?_
            rintro e w11 ⟨rfl, hwe⟩
            have bw : Below (w10).heap.size (w10) w11 := by rw [hwe]; exact Below.refl _ _
            clear hwe
            obtain ⟨ukq, hukq⟩ : ∃ u, u = decide ((1 : Int) ≤ x.q ∧ x.q ≤ (s.sq - 1)) := ⟨_, rfl⟩
            rw [← hukq]
            have hb11 := hbt hb10 bw
            have HM11 := hsz bw
            have HBv1_11 := hblk HBv1_10 bw
            have HBv2_11 := hblk HBv2_10 bw
            clear hb10 HBv1_10 HBv2_10 bw
            have hS11 : w11.heap[qv2]? = some (.cells #[.string x.p, .slice ku1 x.xs.length kuc1, .slice ku2 x.ys.length kuc2, .int .i64 x.st, .slice ku3 x.fs.length kuc3, .string x.b, .int .i64 x.t, .int .i64 x.a, .int .i64 x.q] 103) ∧ w11.heap[qv1]? = some (.cells #[.slice o1 n1 c1, .slice o2 n2 c2, .slice (some ⟨g3, 0, none⟩) n3 c3, .slice o4 n4 c4, .int .i64 s.nx, .int .i64 s.sq] 53) ∧ (w11.cell? ⟨g3, m * 9, none⟩ = some (.string z.p) ∧ w11.cell? ⟨g3, m * 9 + 1, none⟩ = some (.slice kt1 z.xs.length ktc1) ∧ w11.cell? ⟨g3, m * 9 + 2, none⟩ = some (.slice kt2 z.ys.length ktc2) ∧ w11.cell? ⟨g3, m * 9 + 3, none⟩ = some (.int .i64 z.st) ∧ w11.cell? ⟨g3, m * 9 + 4, none⟩ = some (.slice kt3 z.fs.length ktc3) ∧ w11.cell? ⟨g3, m * 9 + 5, none⟩ = some (.string z.b) ∧ w11.cell? ⟨g3, m * 9 + 6, none⟩ = some (.int .i64 z.t) ∧ w11.cell? ⟨g3, m * 9 + 7, none⟩ = some (.int .i64 z.a) ∧ w11.cell? ⟨g3, m * 9 + 8, none⟩ = some (.int .i64 z.q)) := ⟨HBv2_11.out, HBv1_11.out, (by first | exact HEL3.out _ hb11 | exact HEL3.out _ hb11.drew)⟩
            refine hK.out _ _ hS11 (fun _ => ?_)
            clear hK K hS10
            cases ukq with
            | false =>
             have HNukq : Hid (¬ (1 ≤ x.q ∧ x.q ≤ (s.sq - 1))) := (show ¬ (1 ≤ x.q ∧ x.q ≤ (s.sq - 1)) from of_decide_eq_false hukq.symm)
             clear hukq
             refine tkP 17 (.bool true) 72 rfl rfl hS11 ?_
             go_frame
             refine tkP 18 (.bool true) 73 rfl rfl hS11 ?_
             go_frame
             refine tkP 19 (.bool true) 74 rfl rfl hS11 ?_
             go_frame
             refine tkN 20 75 rfl rfl hS11 ?_
             go_frame
             refine tkN 21 76 rfl rfl hS11 ?_
             go_frame
             refine tkN 22 77 rfl rfl hS11 ?_
             go_frame
             refine tkN 23 78 rfl rfl hS11 ?_
             go_frame
             refine tkN 24 79 rfl rfl hS11 ?_
             go_frame
             refine tkN 25 80 rfl rfl hS11 ?_
             go_frame
             refine tkN 26 81 rfl rfl hS11 ?_
             go_frame
             refine tkN 27 82 rfl rfl hS11 ?_
             go_frame
             refine tkN 28 83 rfl rfl hS11 ?_
             go_frame
             refine tkN 29 84 rfl rfl hS11 ?_
             go_frame
             refine tkN 30 85 rfl rfl hS11 ?_
             go_frame
             refine tkN 31 86 rfl rfl hS11 ?_
             go_frame
             refine tkN 32 87 rfl rfl hS11 ?_
             go_frame
             refine tkN 33 88 rfl rfl hS11 ?_
             go_frame
             refine tkP 34 (.bool true) 89 rfl rfl hS11 ?_
             go_frame
             clear hS11
             refine wpAnyH_done (by kernel_rfl) ?_ _
             go_wp2_with fail
             go_ret
             exact BoolIs.no (fun h => by have hk := h.2.2.2.2.2 i (by rw [← HKS.out, List.length_map, HLN.out.2.2.1]; omega); unfold KpOk at hk; rw [HEx.out] at hk; exact HNukq.out hk.2.2.1) hb11
            | true =>
             have HYukq : Hid (1 ≤ x.q ∧ x.q ≤ (s.sq - 1)) := (show (1 ≤ x.q ∧ x.q ≤ (s.sq - 1)) from of_decide_eq_true hukq.symm)
             clear hukq
             refine tkP 17 (.bool false) 72 rfl rfl hS11 ?_
             go_frame
             refine tkP 18 (.bool false) 73 rfl rfl hS11 ?_
             go_frame
             refine tkP 19 (.bool false) 74 rfl rfl hS11 ?_
             go_frame
             refine tkP 20 (.int .i64 (i : Int)) 75 rfl rfl hS11 ?_
             go_frame
             refine tkP 21 (.bool true) 76 rfl rfl hS11 ?_
             go_frame
             refine tkP 22 (.bool true) 77 rfl rfl hS11 ?_
             go_frame
             refine tkP 23 (.pointer (some ⟨qv1, 2, none⟩)) 78 rfl rfl hS11 ?_
             go_frame
             refine tkL 24 (.slice (some ⟨g3, 0, none⟩) n3 c3) 79 rfl rfl (Or.inl ⟨by rfl, by intro W hW; obtain ⟨hhv2, hhv1, hhE_3⟩ := hW; have y2 := (cell_of hhv1 2).trans rfl; go_simp⟩) hS11 ?_
             go_frame
             refine tkP 25 (.int .i64 (i : Int)) 80 rfl rfl hS11 ?_
             go_frame
             refine tkP 26 (.int .i64 (m : Int)) 81 rfl rfl hS11 ?_
             go_frame
             refine tkP 27 (.pointer (some ⟨g3, m * 9, none⟩)) 82 rfl rfl hS11 ?_
             go_frame
             refine tkP 28 (.pointer (some ⟨g3, m * 9 + 8, none⟩)) 83 rfl rfl hS11 ?_
             go_frame
             refine tkL 29 (.int .i64 z.q) 84 rfl rfl (Or.inl ⟨by rfl, by intro W hW; obtain ⟨hhv2, hhv1, hhE_3⟩ := hW; have y8 := hhE_3.2.2.2.2.2.2.2.2; go_simp⟩) hS11 ?_
             go_frame
             refine tkP 30 (.pointer (some ⟨qv2, 8, none⟩)) 85 rfl rfl hS11 ?_
             go_frame
             refine tkL 31 (.int .i64 x.q) 86 rfl rfl (Or.inl ⟨by rfl, by intro W hW; obtain ⟨hhv2, hhv1, hhE_3⟩ := hW; have y8 := (cell_of hhv2 8).trans rfl; go_simp⟩) hS11 ?_
             go_frame
             by_cases hc2 : x.q ≤ z.q
             ·
              have HAS : Hid (¬ z.q < x.q) := (by have := hc2; show ¬ _; omega)
              refine tkP 32 (.bool true) 87 rfl rfl hS11 ?_
              go_frame
              refine tkP 33 (.bool true) 88 rfl rfl hS11 ?_
              go_frame
              refine tkP 34 (.bool true) 89 rfl rfl hS11 ?_
              go_frame
              clear hS11
              refine wpAnyH_done (by kernel_rfl) ?_ _
              go_wp2_with fail
              go_ret
              exact BoolIs.no (fun h => by have hk := h.2.2.2.2.2 i (by rw [← HKS.out, List.length_map, HLN.out.2.2.1]; omega); unfold KpOk at hk; rw [HEx.out] at hk; have h2 := hk.2.2.2.1 (by omega); rw [HIM.out, Nat.add_sub_cancel, HEz.out] at h2; have h3 := HAS.out; omega) hb11
             ·
              have HAS : Hid (z.q < x.q) := (by have := hc2; show _ < _; omega)
              refine tkP 32 (.bool false) 87 rfl rfl hS11 ?_
              go_frame
              refine tkP 33 (.bool false) 88 rfl rfl hS11 ?_
              go_frame
              refine tkP 34 (.bool false) 89 rfl rfl hS11 ?_
              go_frame
              clear hS11
              refine wpAnyH_done (by kernel_rfl) ?_ _
              go_wp2_with fail
              have HASC : Hid (0 < i → (kpAt s.ks (i - 1)).q < x.q) := fun _ => by rw [HIM.out, Nat.add_sub_cancel, HEz.out]; exact HAS.out
              clear HAS
              obtain ⟨wB, hwB⟩ := exq w11
              rw [← hwB] at hb11 HBv1_11 HBv2_11 ⊢
              clear hwB
              go_loopw [6] (fun i0 wr => ∃ j : Nat, j ≤ i ∧ i0 = .int .i64 (j : Int) ∧ Hid (Below w.heap.size w (wr) ∧ (wr).heap[qv1]? = some (.cells #[.slice o1 n1 c1, .slice o2 n2 c2, .slice (some ⟨g3, 0, none⟩) n3 c3, .slice o4 n4 c4, .int .i64 s.nx, .int .i64 s.sq] 53) ∧ (wr).heap[qv2]? = some (.cells #[.string x.p, .slice ku1 x.xs.length kuc1, .slice ku2 x.ys.length kuc2, .int .i64 x.st, .slice ku3 x.fs.length kuc3, .string x.b, .int .i64 x.t, .int .i64 x.a, .int .i64 x.q] 103)) ∧ Hid (∀ m, m < j → (kpAt s.ks m).a ≠ x.a)) (fun i0 _ => i - (intOf i0).toNat)
              case atStart => exact ⟨0, Nat.zero_le _, rfl, ⟨hb11, HBv1_11.out, HBv2_11.out⟩, fun m hm => absurd hm (by omega)⟩
              case round =>
               obtain ⟨j, hj, rfl, HW, HJ⟩ := hrel
               by_cases hlj : (j : Int) < (i : Int)
               ·
                have hb12 := HW.out.1
                have HBv1_12 : Hid ((wr).heap[qv1]? = some (.cells #[.slice o1 n1 c1, .slice o2 n2 c2, .slice (some ⟨g3, 0, none⟩) n3 c3, .slice o4 n4 c4, .int .i64 s.nx, .int .i64 s.sq] 53)) := HW.out.2.1
                have HBv2_12 : Hid ((wr).heap[qv2]? = some (.cells #[.string x.p, .slice ku1 x.xs.length kuc1, .slice ku2 x.ys.length kuc2, .int .i64 x.st, .slice ku3 x.fs.length kuc3, .string x.b, .int .i64 x.t, .int .i64 x.a, .int .i64 x.q] 103)) := HW.out.2.2
                clear HW hb11 HBv1_11 HBv2_11
                obtain ⟨z2X, hz2X⟩ := exq (kvAt kv j)
                have HMz2 : Hid (z2X ∈ kv) := by show _ ∈ _; rw [hz2X]; exact kvAt_mem kv j (by rw [HLK.out]; omega)
                have HEz2 : Hid (kpAt s.ks j = z2X.1) := by show _ = _; rw [hz2X, ← HKS.out]; exact (kvAt_fst kv j (by rw [HLK.out]; omega)).symm
                have HTKz2 : Hid (kv.take (j + 1) = kv.take j ++ [z2X]) := by show _ = _; rw [hz2X]; exact kvAt_take kv j (by rw [HLK.out]; omega)
                have HKz2 : Hid (∀ W, Below w.heap.size w W → KpAt W g3 j z2X) := fun W hb => by
                 obtain ⟨g', p', hV, _, hc⟩ := (HKP.out W hb).look j (by rw [HLK.out]; omega)
                 injection hV with hV1 _ _
                 cases hV1
                 rw [hz2X]
                 exact hc
                clear hz2X
                obtain ⟨z2, kzv1, kzv2, kzv3⟩ := z2X
                obtain ⟨kz1, kzc1, hu⟩ := slice_of_owns ((HKP.out _ hb12).names HMz2.out)
                have hu' : kzv1 = .slice kz1 z2.xs.length kzc1 := hu
                subst hu'
                clear hu
                obtain ⟨kz2, kzc2, hu⟩ := slice_of_owns ((HKP.out _ hb12).vals HMz2.out)
                have hu' : kzv2 = .slice kz2 z2.ys.length kzc2 := hu
                subst hu'
                clear hu
                obtain ⟨kz3, kzc3, hu⟩ := slice_of_owns ((HKP.out _ hb12).flds HMz2.out)
                have hu' : kzv3 = .slice kz3 z2.fs.length kzc3 := hu
                subst hu'
                clear hu
                have hjn : ¬ n3 ≤ j := by omega
                have HEL3 : Hid (∀ W, Below w.heap.size w W → (W.cell? ⟨g3, j * 9, none⟩ = some (.string z2.p) ∧ W.cell? ⟨g3, j * 9 + 1, none⟩ = some (.slice kz1 z2.xs.length kzc1) ∧ W.cell? ⟨g3, j * 9 + 2, none⟩ = some (.slice kz2 z2.ys.length kzc2) ∧ W.cell? ⟨g3, j * 9 + 3, none⟩ = some (.int .i64 z2.st) ∧ W.cell? ⟨g3, j * 9 + 4, none⟩ = some (.slice kz3 z2.fs.length kzc3) ∧ W.cell? ⟨g3, j * 9 + 5, none⟩ = some (.string z2.b) ∧ W.cell? ⟨g3, j * 9 + 6, none⟩ = some (.int .i64 z2.t) ∧ W.cell? ⟨g3, j * 9 + 7, none⟩ = some (.int .i64 z2.a) ∧ W.cell? ⟨g3, j * 9 + 8, none⟩ = some (.int .i64 z2.q))) := fun W hb => by
                 have c := HKz2.out W hb
                 exact ⟨c.c0, c.c1, c.c2, c.c3, c.c4, c.c5, c.c6, c.c7, c.c8⟩
                go_upto_region 17 with fail
                refine wp_region_held_drew (S := fun W => W.heap[qv1]? = some (.cells #[.slice o1 n1 c1, .slice o2 n2 c2, .slice (some ⟨g3, 0, none⟩) n3 c3, .slice o4 n4 c4, .int .i64 s.nx, .int .i64 s.sq] 53) ∧ (W.cell? ⟨g3, j * 9, none⟩ = some (.string z2.p) ∧ W.cell? ⟨g3, j * 9 + 1, none⟩ = some (.slice kz1 z2.xs.length kzc1) ∧ W.cell? ⟨g3, j * 9 + 2, none⟩ = some (.slice kz2 z2.ys.length kzc2) ∧ W.cell? ⟨g3, j * 9 + 3, none⟩ = some (.int .i64 z2.st) ∧ W.cell? ⟨g3, j * 9 + 4, none⟩ = some (.slice kz3 z2.fs.length kzc3) ∧ W.cell? ⟨g3, j * 9 + 5, none⟩ = some (.string z2.b) ∧ W.cell? ⟨g3, j * 9 + 6, none⟩ = some (.int .i64 z2.t) ∧ W.cell? ⟨g3, j * 9 + 7, none⟩ = some (.int .i64 z2.a) ∧ W.cell? ⟨g3, j * 9 + 8, none⟩ = some (.int .i64 z2.q)) ∧ W.heap[qv2]? = some (.cells #[.string x.p, .slice ku1 x.xs.length kuc1, .slice ku2 x.ys.length kuc2, .int .i64 x.st, .slice ku3 x.fs.length kuc3, .string x.b, .int .i64 x.t, .int .i64 x.a, .int .i64 x.q] 103)) (by kernel_rfl) ⟨HBv1_12.out, (by first | exact HEL3.out _ hb12 | exact HEL3.out _ hb12.drew), HBv2_12.out⟩ (fun _ => ?_)
                obtain ⟨w13, hX⟩ := exq wr.drew
                have bw := bdr hX
                rw [← hX]
                have hb13 := hbt hb12 bw
                have HBv1_13 := hblk HBv1_12 bw
                have HBv2_13 := hblk HBv2_12 bw
                have hS13 : w13.heap[qv1]? = some (.cells #[.slice o1 n1 c1, .slice o2 n2 c2, .slice (some ⟨g3, 0, none⟩) n3 c3, .slice o4 n4 c4, .int .i64 s.nx, .int .i64 s.sq] 53) ∧ (w13.cell? ⟨g3, j * 9, none⟩ = some (.string z2.p) ∧ w13.cell? ⟨g3, j * 9 + 1, none⟩ = some (.slice kz1 z2.xs.length kzc1) ∧ w13.cell? ⟨g3, j * 9 + 2, none⟩ = some (.slice kz2 z2.ys.length kzc2) ∧ w13.cell? ⟨g3, j * 9 + 3, none⟩ = some (.int .i64 z2.st) ∧ w13.cell? ⟨g3, j * 9 + 4, none⟩ = some (.slice kz3 z2.fs.length kzc3) ∧ w13.cell? ⟨g3, j * 9 + 5, none⟩ = some (.string z2.b) ∧ w13.cell? ⟨g3, j * 9 + 6, none⟩ = some (.int .i64 z2.t) ∧ w13.cell? ⟨g3, j * 9 + 7, none⟩ = some (.int .i64 z2.a) ∧ w13.cell? ⟨g3, j * 9 + 8, none⟩ = some (.int .i64 z2.q)) ∧ w13.heap[qv2]? = some (.cells #[.string x.p, .slice ku1 x.xs.length kuc1, .slice ku2 x.ys.length kuc2, .int .i64 x.st, .slice ku3 x.fs.length kuc3, .string x.b, .int .i64 x.t, .int .i64 x.a, .int .i64 x.q] 103) := ⟨HBv1_13.out, (by first | exact HEL3.out _ hb13 | exact HEL3.out _ hb13.drew), HBv2_13.out⟩
                clear hb12 HBv1_12 HBv2_12 bw hX
                refine tkP 0 (.pointer (some ⟨qv1, 2, none⟩)) 95 rfl rfl hS13 ?_
                go_frame
                refine tkL 1 (.slice (some ⟨g3, 0, none⟩) n3 c3) 96 rfl rfl (Or.inl ⟨by rfl, by intro W hW; obtain ⟨hhv1, hhE_3, hhv2⟩ := hW; have y2 := (cell_of hhv1 2).trans rfl; go_simp⟩) hS13 ?_
                go_frame
                refine tkP 2 (.int .i64 (j : Int)) 97 rfl rfl hS13 ?_
                go_frame
                refine tkP 3 (.pointer (some ⟨g3, j * 9, none⟩)) 98 rfl rfl hS13 ?_
                go_frame
                refine tkP 4 (.pointer (some ⟨g3, j * 9 + 7, none⟩)) 99 rfl rfl hS13 ?_
                go_frame
                refine tkL 5 (.int .i64 z2.a) 100 rfl rfl (Or.inl ⟨by rfl, by intro W hW; obtain ⟨hhv1, hhE_3, hhv2⟩ := hW; have y7 := hhE_3.2.2.2.2.2.2.2.1; go_simp⟩) hS13 ?_
                go_frame
                refine tkP 6 (.pointer (some ⟨qv2, 7, none⟩)) 101 rfl rfl hS13 ?_
                go_frame
                refine tkL 7 (.int .i64 x.a) 102 rfl rfl (Or.inl ⟨by rfl, by intro W hW; obtain ⟨hhv1, hhE_3, hhv2⟩ := hW; have y7 := (cell_of hhv2 7).trans rfl; go_simp⟩) hS13 ?_
                go_frame
                by_cases hc3 : z2.a = x.a
                ·
                 have hc3b : ((z2.a : Int) == (x.a : Int)) = true := by simpa using hc3
                 have hc3n : ((z2.a : Int) != (x.a : Int)) = false := by simpa using hc3
                 have HTW : Hid ((z2.a = x.a)) := hc3
                 have hc3H : Hid (z2.a = x.a) := hc3
                 clear hc3
                 refine tkP 8 (.bool true) 103 rfl rfl hS13 ?_
                 go_frame
                 clear hS13
                 refine wpAnyH_done (by kernel_rfl) ?_ _
                 go_wp2_with fail
                 go_ret
                 exact BoolIs.no (fun h => by have hk := h.2.2.2.2.2 i (by rw [← HKS.out, List.length_map, HLN.out.2.2.1]; omega); unfold KpOk at hk; rw [HEx.out] at hk; exact hk.2.2.2.2 j (by omega) (by rw [HEz2.out]; exact HTW.out)) hb13
                ·
                 have hc3b : ((z2.a : Int) == (x.a : Int)) = false := by simpa using hc3
                 have hc3n : ((z2.a : Int) != (x.a : Int)) = true := by simpa using hc3
                 have HTW : Hid (¬ (z2.a = x.a)) := hc3
                 have hc3H : Hid (¬ (z2.a = x.a)) := hc3
                 clear hc3
                 refine tkP 8 (.bool false) 103 rfl rfl hS13 ?_
                 go_frame
                 clear hS13
                 refine wpAnyH_done (by kernel_rfl) ?_ _
                 have HJ2 : Hid (∀ m, m < j + 1 → (kpAt s.ks m).a ≠ x.a) := fun m hm => by
                  by_cases e : m = j
                  ·
                   subst e
                   rw [HEz2.out]
                   exact HTW.out
                  · exact HJ.out m (by omega)
                 go_wp2_with fail
                 go_roundw
                 case rel => exact ⟨j + 1, by omega, by go_num, ⟨hb13, HBv1_13.out, HBv2_13.out⟩, HJ2⟩
                 case measure => simp [intOf]; omega
               ·
                have hb12 := HW.out.1
                have HBv1_12 : Hid ((wr).heap[qv1]? = some (.cells #[.slice o1 n1 c1, .slice o2 n2 c2, .slice (some ⟨g3, 0, none⟩) n3 c3, .slice o4 n4 c4, .int .i64 s.nx, .int .i64 s.sq] 53)) := HW.out.2.1
                have HBv2_12 : Hid ((wr).heap[qv2]? = some (.cells #[.string x.p, .slice ku1 x.xs.length kuc1, .slice ku2 x.ys.length kuc2, .int .i64 x.st, .slice ku3 x.fs.length kuc3, .string x.b, .int .i64 x.t, .int .i64 x.a, .int .i64 x.q] 103)) := HW.out.2.2
                clear HW hb11 HBv1_11 HBv2_11
                have HTWS : Hid (∀ m, m < i → (kpAt s.ks m).a ≠ x.a) := fun m hm => HJ.out m (by omega)
                clear HJ
                have HN2 : Hid (∀ m, m < i + 1 → KpOk s.ks s.sq m) := fun m hm => by
                 by_cases e : m = i
                 ·
                  subst e
                  unfold KpOk
                  rw [HEx.out]
                  exact ⟨HYuo.out, HYuka.out, HYukq.out, HASC.out, HTWS.out⟩
                 · exact HN.out m (by omega)
                go_wp2_with fail
                go_roundw
                case rel => exact ⟨i + 1, by omega, by go_num, ⟨hb12, HBv1_12.out⟩, HN2⟩
                case measure => simp [intOf]; omega
         ·
          have hi0z : i = 0 := by omega
          go_upto_region 12 with fail
          refine wp_region_held_drew (S := fun W => W.heap[qv2]? = some (.cells #[.string x.p, .slice ku1 x.xs.length kuc1, .slice ku2 x.ys.length kuc2, .int .i64 x.st, .slice ku3 x.fs.length kuc3, .string x.b, .int .i64 x.t, .int .i64 x.a, .int .i64 x.q] 103) ∧ W.heap[qv1]? = some (.cells #[.slice o1 n1 c1, .slice o2 n2 c2, .slice (some ⟨g3, 0, none⟩) n3 c3, .slice o4 n4 c4, .int .i64 s.nx, .int .i64 s.sq] 53)) (by kernel_rfl) ⟨HBv2_7.out, HBv1_7.out⟩ (fun _ => ?_)
          obtain ⟨w8, hX⟩ := exq w7.drew
          have bw := bdr hX
          rw [← hX]
          have hb8 := hbt hb7 bw
          have HM8 := hsz bw
          have HBv1_8 := hblk HBv1_7 bw
          have HBv2_8 := hblk HBv2_7 bw
          have hS8 := And.intro HBv2_8.out HBv1_8.out
          clear hb7 HBv1_7 HBv2_7 bw hX
          refine tkP 0 (.pointer (some ⟨qv2, 0, none⟩)) 55 rfl rfl hS8 ?_
          go_frame
          refine tkL 1 (.agg #[.string x.p, .slice ku1 x.xs.length kuc1, .slice ku2 x.ys.length kuc2, .int .i64 x.st, .slice ku3 x.fs.length kuc3, .string x.b, .int .i64 x.t]) 56 rfl rfl (Or.inl ⟨by rfl, by intro W hW; obtain ⟨hhv2, hhv1⟩ := hW; have y0 := (cell_of hhv2 0).trans rfl; have y1 := (cell_of hhv2 1).trans rfl; have y2 := (cell_of hhv2 2).trans rfl; have y3 := (cell_of hhv2 3).trans rfl; have y4 := (cell_of hhv2 4).trans rfl; have y5 := (cell_of hhv2 5).trans rfl; have y6 := (cell_of hhv2 6).trans rfl; go_simp⟩) hS8 ?_
          go_frame
          refine rd1 2 rfl (fun K hK => ?_)
          go_simp
          refine (specObjOk_k x _ _ _ _ ((HSH.out _ hb8).kept.read HMx.out) (HZ.out.kv HKS.out HMx.out)).mono ?_
          rintro e w9 ⟨uo, rfl, huo, bw⟩
          have hb9 := hbt hb8 bw
          have HM9 := hsz bw
          have HBv1_9 := hblk HBv1_8 bw
          have HBv2_9 := hblk HBv2_8 bw
          clear hb8 HBv1_8 HBv2_8 bw
          have hS9 := And.intro HBv2_9.out HBv1_9.out
          refine hK.out _ _ hS9 (fun _ => ?_)
          clear hK K hS8
          cases uo with
          | false =>
           have HNuo : Hid (¬ (ObjK x)) := fun h => nomatch huo.2 h
           clear huo
           refine tkP 3 (.bool true) 58 rfl rfl hS9 ?_
           go_frame
           refine tkP 4 (.bool true) 59 rfl rfl hS9 ?_
           go_frame
           refine tkN 5 60 rfl rfl hS9 ?_
           go_frame
           refine tkN 6 61 rfl rfl hS9 ?_
           go_frame
           refine tkN 7 62 rfl rfl hS9 ?_
           go_frame
           refine tkN 8 63 rfl rfl hS9 ?_
           go_frame
           refine tkP 9 (.bool true) 64 rfl rfl hS9 ?_
           go_frame
           refine tkP 10 (.bool true) 65 rfl rfl hS9 ?_
           go_frame
           refine tkN 11 66 rfl rfl hS9 ?_
           go_frame
           refine tkN 12 67 rfl rfl hS9 ?_
           go_frame
           refine tkN 13 68 rfl rfl hS9 ?_
           go_frame
           refine tkN 14 69 rfl rfl hS9 ?_
           go_frame
           refine tkN 15 70 rfl rfl hS9 ?_
           go_frame
           refine tkN 16 71 rfl rfl hS9 ?_
           go_frame
           refine tkN 17 72 rfl rfl hS9 ?_
           go_frame
           refine tkP 18 (.bool true) 73 rfl rfl hS9 ?_
           go_frame
           refine tkP 19 (.bool true) 74 rfl rfl hS9 ?_
           go_frame
           refine tkN 20 75 rfl rfl hS9 ?_
           go_frame
           refine tkN 21 76 rfl rfl hS9 ?_
           go_frame
           refine tkN 22 77 rfl rfl hS9 ?_
           go_frame
           refine tkN 23 78 rfl rfl hS9 ?_
           go_frame
           refine tkN 24 79 rfl rfl hS9 ?_
           go_frame
           refine tkN 25 80 rfl rfl hS9 ?_
           go_frame
           refine tkN 26 81 rfl rfl hS9 ?_
           go_frame
           refine tkN 27 82 rfl rfl hS9 ?_
           go_frame
           refine tkN 28 83 rfl rfl hS9 ?_
           go_frame
           refine tkN 29 84 rfl rfl hS9 ?_
           go_frame
           refine tkN 30 85 rfl rfl hS9 ?_
           go_frame
           refine tkN 31 86 rfl rfl hS9 ?_
           go_frame
           refine tkN 32 87 rfl rfl hS9 ?_
           go_frame
           refine tkN 33 88 rfl rfl hS9 ?_
           go_frame
           refine tkP 34 (.bool true) 89 rfl rfl hS9 ?_
           go_frame
           clear hS9
           refine wpAnyH_done (by kernel_rfl) ?_ _
           go_wp2_with fail
           go_ret
           exact BoolIs.no (fun h => by have hk := h.2.2.2.2.2 i (by rw [← HKS.out, List.length_map, HLN.out.2.2.1]; omega); unfold KpOk at hk; rw [HEx.out] at hk; exact HNuo.out hk.1) hb9
          | true =>
           have HYuo : Hid (ObjK x) := huo.1 rfl
           clear huo
           refine tkP 3 (.bool false) 58 rfl rfl hS9 ?_
           go_frame
           refine tkP 4 (.bool false) 59 rfl rfl hS9 ?_
           go_frame
           refine tkP 5 (.pointer (some ⟨qv2, 7, none⟩)) 60 rfl rfl hS9 ?_
           go_frame
           refine tkL 6 (.int .i64 x.a) 61 rfl rfl (Or.inl ⟨by rfl, by intro W hW; obtain ⟨hhv2, hhv1⟩ := hW; have y7 := (cell_of hhv2 7).trans rfl; go_simp⟩) hS9 ?_
           go_frame
           refine rd1 7 rfl (fun K hK => ?_)
           go_simp
           refine (l1In_any x.a 5 19 _).mono ?_
           rintro e w10 ⟨rfl, hwe⟩
           have bw : Below (w9).heap.size (w9) w10 := by rw [hwe]; exact Below.refl _ _
           clear hwe
           obtain ⟨uka, huka⟩ : ∃ u, u = decide ((5 : Int) ≤ x.a ∧ x.a ≤ 19) := ⟨_, rfl⟩
           rw [← huka]
           have hb10 := hbt hb9 bw
           have HM10 := hsz bw
           have HBv1_10 := hblk HBv1_9 bw
           have HBv2_10 := hblk HBv2_9 bw
           clear hb9 HBv1_9 HBv2_9 bw
           have hS10 := And.intro HBv2_10.out HBv1_10.out
           refine hK.out _ _ hS10 (fun _ => ?_)
           clear hK K hS9
           cases uka with
           | false =>
            have HNuka : Hid (¬ (5 ≤ x.a ∧ x.a ≤ 19)) := (show ¬ (5 ≤ x.a ∧ x.a ≤ 19) from of_decide_eq_false huka.symm)
            clear huka
            refine tkP 8 (.bool true) 63 rfl rfl hS10 ?_
            go_frame
            refine tkP 9 (.bool true) 64 rfl rfl hS10 ?_
            go_frame
            refine tkP 10 (.bool true) 65 rfl rfl hS10 ?_
            go_frame
            refine tkN 11 66 rfl rfl hS10 ?_
            go_frame
            refine tkN 12 67 rfl rfl hS10 ?_
            go_frame
            refine tkN 13 68 rfl rfl hS10 ?_
            go_frame
            refine tkN 14 69 rfl rfl hS10 ?_
            go_frame
            refine tkN 15 70 rfl rfl hS10 ?_
            go_frame
            refine tkN 16 71 rfl rfl hS10 ?_
            go_frame
            refine tkN 17 72 rfl rfl hS10 ?_
            go_frame
            refine tkP 18 (.bool true) 73 rfl rfl hS10 ?_
            go_frame
            refine tkP 19 (.bool true) 74 rfl rfl hS10 ?_
            go_frame
            refine tkN 20 75 rfl rfl hS10 ?_
            go_frame
            refine tkN 21 76 rfl rfl hS10 ?_
            go_frame
            refine tkN 22 77 rfl rfl hS10 ?_
            go_frame
            refine tkN 23 78 rfl rfl hS10 ?_
            go_frame
            refine tkN 24 79 rfl rfl hS10 ?_
            go_frame
            refine tkN 25 80 rfl rfl hS10 ?_
            go_frame
            refine tkN 26 81 rfl rfl hS10 ?_
            go_frame
            refine tkN 27 82 rfl rfl hS10 ?_
            go_frame
            refine tkN 28 83 rfl rfl hS10 ?_
            go_frame
            refine tkN 29 84 rfl rfl hS10 ?_
            go_frame
            refine tkN 30 85 rfl rfl hS10 ?_
            go_frame
            refine tkN 31 86 rfl rfl hS10 ?_
            go_frame
            refine tkN 32 87 rfl rfl hS10 ?_
            go_frame
            refine tkN 33 88 rfl rfl hS10 ?_
            go_frame
            refine tkP 34 (.bool true) 89 rfl rfl hS10 ?_
            go_frame
            clear hS10
            refine wpAnyH_done (by kernel_rfl) ?_ _
            go_wp2_with fail
            go_ret
            exact BoolIs.no (fun h => by have hk := h.2.2.2.2.2 i (by rw [← HKS.out, List.length_map, HLN.out.2.2.1]; omega); unfold KpOk at hk; rw [HEx.out] at hk; exact HNuka.out hk.2.1) hb10
           | true =>
            have HYuka : Hid (5 ≤ x.a ∧ x.a ≤ 19) := (show (5 ≤ x.a ∧ x.a ≤ 19) from of_decide_eq_true huka.symm)
            clear huka
            refine tkP 8 (.bool false) 63 rfl rfl hS10 ?_
            go_frame
            refine tkP 9 (.bool false) 64 rfl rfl hS10 ?_
            go_frame
            refine tkP 10 (.bool false) 65 rfl rfl hS10 ?_
            go_frame
            refine tkP 11 (.pointer (some ⟨qv2, 8, none⟩)) 66 rfl rfl hS10 ?_
            go_frame
            refine tkL 12 (.int .i64 x.q) 67 rfl rfl (Or.inl ⟨by rfl, by intro W hW; obtain ⟨hhv2, hhv1⟩ := hW; have y8 := (cell_of hhv2 8).trans rfl; go_simp⟩) hS10 ?_
            go_frame
            refine tkP 13 (.pointer (some ⟨qv1, 5, none⟩)) 68 rfl rfl hS10 ?_
            go_frame
            refine tkL 14 (.int .i64 s.sq) 69 rfl rfl (Or.inl ⟨by rfl, by intro W hW; obtain ⟨hhv2, hhv1⟩ := hW; have y5 := (cell_of hhv1 5).trans rfl; go_simp⟩) hS10 ?_
            go_frame
            refine tkP 15 (.int .i64 (s.sq - 1)) 70 rfl rfl hS10 ?_
            go_frame
            refine rd1 16 rfl (fun K hK => ?_)
            go_simp
            refine (l1In_any x.q 1 (s.sq - 1) _).mono ?_
            rintro e w11 ⟨rfl, hwe⟩
            have bw : Below (w10).heap.size (w10) w11 := by rw [hwe]; exact Below.refl _ _
            clear hwe
            obtain ⟨ukq, hukq⟩ : ∃ u, u = decide ((1 : Int) ≤ x.q ∧ x.q ≤ (s.sq - 1)) := ⟨_, rfl⟩
            rw [← hukq]
            have hb11 := hbt hb10 bw
            have HM11 := hsz bw
            have HBv1_11 := hblk HBv1_10 bw
            have HBv2_11 := hblk HBv2_10 bw
            clear hb10 HBv1_10 HBv2_10 bw
            have hS11 := And.intro HBv2_11.out HBv1_11.out
            refine hK.out _ _ hS11 (fun _ => ?_)
            clear hK K hS10
            cases ukq with
            | false =>
             have HNukq : Hid (¬ (1 ≤ x.q ∧ x.q ≤ (s.sq - 1))) := (show ¬ (1 ≤ x.q ∧ x.q ≤ (s.sq - 1)) from of_decide_eq_false hukq.symm)
             clear hukq
             refine tkP 17 (.bool true) 72 rfl rfl hS11 ?_
             go_frame
             refine tkP 18 (.bool true) 73 rfl rfl hS11 ?_
             go_frame
             refine tkP 19 (.bool true) 74 rfl rfl hS11 ?_
             go_frame
             refine tkN 20 75 rfl rfl hS11 ?_
             go_frame
             refine tkN 21 76 rfl rfl hS11 ?_
             go_frame
             refine tkN 22 77 rfl rfl hS11 ?_
             go_frame
             refine tkN 23 78 rfl rfl hS11 ?_
             go_frame
             refine tkN 24 79 rfl rfl hS11 ?_
             go_frame
             refine tkN 25 80 rfl rfl hS11 ?_
             go_frame
             refine tkN 26 81 rfl rfl hS11 ?_
             go_frame
             refine tkN 27 82 rfl rfl hS11 ?_
             go_frame
             refine tkN 28 83 rfl rfl hS11 ?_
             go_frame
             refine tkN 29 84 rfl rfl hS11 ?_
             go_frame
             refine tkN 30 85 rfl rfl hS11 ?_
             go_frame
             refine tkN 31 86 rfl rfl hS11 ?_
             go_frame
             refine tkN 32 87 rfl rfl hS11 ?_
             go_frame
             refine tkN 33 88 rfl rfl hS11 ?_
             go_frame
             refine tkP 34 (.bool true) 89 rfl rfl hS11 ?_
             go_frame
             clear hS11
             refine wpAnyH_done (by kernel_rfl) ?_ _
             go_wp2_with fail
             go_ret
             exact BoolIs.no (fun h => by have hk := h.2.2.2.2.2 i (by rw [← HKS.out, List.length_map, HLN.out.2.2.1]; omega); unfold KpOk at hk; rw [HEx.out] at hk; exact HNukq.out hk.2.2.1) hb11
            | true =>
             have HYukq : Hid (1 ≤ x.q ∧ x.q ≤ (s.sq - 1)) := (show (1 ≤ x.q ∧ x.q ≤ (s.sq - 1)) from of_decide_eq_true hukq.symm)
             clear hukq
             refine tkP 17 (.bool false) 72 rfl rfl hS11 ?_
             go_frame
             refine tkP 18 (.bool false) 73 rfl rfl hS11 ?_
             go_frame
             refine tkP 19 (.bool false) 74 rfl rfl hS11 ?_
             go_frame
             refine tkP 20 (.int .i64 (i : Int)) 75 rfl rfl hS11 ?_
             go_frame
             refine tkP 21 (.bool false) 76 rfl rfl hS11 ?_
             go_frame
             refine tkP 22 (.bool false) 77 rfl rfl hS11 ?_
             go_frame
             refine tkN 23 78 rfl rfl hS11 ?_
             go_frame
             refine tkN 24 79 rfl rfl hS11 ?_
             go_frame
             refine tkN 25 80 rfl rfl hS11 ?_
             go_frame
             refine tkN 26 81 rfl rfl hS11 ?_
             go_frame
             refine tkN 27 82 rfl rfl hS11 ?_
             go_frame
             refine tkN 28 83 rfl rfl hS11 ?_
             go_frame
             refine tkN 29 84 rfl rfl hS11 ?_
             go_frame
             refine tkN 30 85 rfl rfl hS11 ?_
             go_frame
             refine tkN 31 86 rfl rfl hS11 ?_
             go_frame
             refine tkN 32 87 rfl rfl hS11 ?_
             go_frame
             refine tkP 33 (.bool false) 88 rfl rfl hS11 ?_
             go_frame
             refine tkP 34 (.bool false) 89 rfl rfl hS11 ?_
             go_frame
             clear hS11
             refine wpAnyH_done (by kernel_rfl) ?_ _
             go_wp2_with fail
             have HASC : Hid (0 < i → (kpAt s.ks (i - 1)).q < x.q) := fun h => absurd h (by omega)
             obtain ⟨wB, hwB⟩ := exq w11
             rw [← hwB] at hb11 HBv1_11 HBv2_11 ⊢
             clear hwB
             go_loopw [6] (fun i0 wr => ∃ j : Nat, j ≤ i ∧ i0 = .int .i64 (j : Int) ∧ Hid (Below w.heap.size w (wr) ∧ (wr).heap[qv1]? = some (.cells #[.slice o1 n1 c1, .slice o2 n2 c2, .slice (some ⟨g3, 0, none⟩) n3 c3, .slice o4 n4 c4, .int .i64 s.nx, .int .i64 s.sq] 53) ∧ (wr).heap[qv2]? = some (.cells #[.string x.p, .slice ku1 x.xs.length kuc1, .slice ku2 x.ys.length kuc2, .int .i64 x.st, .slice ku3 x.fs.length kuc3, .string x.b, .int .i64 x.t, .int .i64 x.a, .int .i64 x.q] 103)) ∧ Hid (∀ m, m < j → (kpAt s.ks m).a ≠ x.a)) (fun i0 _ => i - (intOf i0).toNat)
             case atStart => exact ⟨0, Nat.zero_le _, rfl, ⟨hb11, HBv1_11.out, HBv2_11.out⟩, fun m hm => absurd hm (by omega)⟩
             case round =>
              obtain ⟨j, hj, rfl, HW, HJ⟩ := hrel
              by_cases hlj : (j : Int) < (i : Int)
              ·
               have hb12 := HW.out.1
               have HBv1_12 : Hid ((wr).heap[qv1]? = some (.cells #[.slice o1 n1 c1, .slice o2 n2 c2, .slice (some ⟨g3, 0, none⟩) n3 c3, .slice o4 n4 c4, .int .i64 s.nx, .int .i64 s.sq] 53)) := HW.out.2.1
               have HBv2_12 : Hid ((wr).heap[qv2]? = some (.cells #[.string x.p, .slice ku1 x.xs.length kuc1, .slice ku2 x.ys.length kuc2, .int .i64 x.st, .slice ku3 x.fs.length kuc3, .string x.b, .int .i64 x.t, .int .i64 x.a, .int .i64 x.q] 103)) := HW.out.2.2
               clear HW hb11 HBv1_11 HBv2_11
               exact absurd hlj (by omega)
              ·
               have hb12 := HW.out.1
               have HBv1_12 : Hid ((wr).heap[qv1]? = some (.cells #[.slice o1 n1 c1, .slice o2 n2 c2, .slice (some ⟨g3, 0, none⟩) n3 c3, .slice o4 n4 c4, .int .i64 s.nx, .int .i64 s.sq] 53)) := HW.out.2.1
               have HBv2_12 : Hid ((wr).heap[qv2]? = some (.cells #[.string x.p, .slice ku1 x.xs.length kuc1, .slice ku2 x.ys.length kuc2, .int .i64 x.st, .slice ku3 x.fs.length kuc3, .string x.b, .int .i64 x.t, .int .i64 x.a, .int .i64 x.q] 103)) := HW.out.2.2
               clear HW hb11 HBv1_11 HBv2_11
               have HTWS : Hid (∀ m, m < i → (kpAt s.ks m).a ≠ x.a) := fun m hm => HJ.out m (by omega)
               clear HJ
               have HN2 : Hid (∀ m, m < i + 1 → KpOk s.ks s.sq m) := fun m hm => by
                by_cases e : m = i
                ·
                 subst e
                 unfold KpOk
                 rw [HEx.out]
                 exact ⟨HYuo.out, HYuka.out, HYukq.out, HASC.out, HTWS.out⟩
                · exact HN.out m (by omega)
               go_wp2_with fail
               go_roundw
               case rel => exact ⟨i + 1, by omega, by go_num, ⟨hb12, HBv1_12.out⟩, HN2⟩
               case measure => simp [intOf]; omega
        ·
         have hb6 := HW.out.1
         have HBv1_6 : Hid ((wr).heap[qv1]? = some (.cells #[.slice o1 n1 c1, .slice o2 n2 c2, .slice o3 n3 c3, .slice o4 n4 c4, .int .i64 s.nx, .int .i64 s.sq] 53)) := HW.out.2
         clear HW hb5 HBv1_5
         have HKA : Hid (∀ m, m < s.ks.length → KpOk s.ks s.sq m) := fun m hm => HN.out m (by rw [← HKS.out, List.length_map, HLN.out.2.2.1] at hm; omega)
         clear HN
         have cv1_2 := (k6c HBv1_6).2.2.1
         go_wp2_with fail
         go_ret
         exact BoolIs.yes ⟨HYud.out, by rw [HLN.out.2.2.2]; exact HB5.out, HYunx.out, HYusq.out, HAL.out, HKA.out⟩ hb6
end Go.Proofs.YtbmhonfgffjpcaaGreat
namespace Go.Proofs.YtbmhonfgffjpcaaGreat
open Go.RowKit
open Go.Lib hiding intOf
/-- A cache that was measured. -/
structure CaSmall (y : CaD) : Prop where
 s : ShSmall y.s
 fl : ∀ k ∈ y.fl, FlSmall k
 se : ∀ k ∈ y.se, SeSmall k
 sn : ∀ k ∈ y.sn, RpSmall k
 nf : y.fl.length ≤ 1048576
 ne : y.se.length ≤ 1048576
 nr : y.sn.length ≤ 1048576
theorem fs_get {fs : List (ByteArray × ByteArray)} (h : szTo fs fs.length ≤ 1048576) (x : ByteArray) : (getV fs x).size ≤ 1048576 := by
 unfold getV
 split
 ·
  rename_i hx
  have := szTo_get fs fs.length (atF fs x) hx
  omega
 · decide
theorem fs_copy {fs : List (ByteArray × ByteArray)} (h : szTo fs fs.length ≤ 1048576) : CopyF fs := fun i hi => by
 have := szTo_get fs fs.length i hi
 omega
theorem fs_walk {fs : List (ByteArray × ByteArray)} (h : szTo fs fs.length ≤ 1048576) : WalkF fs.length fs := fun i hi => by
 have := szTo_get fs fs.length i hi
 unfold maxLen
 omega
end Go.Proofs.YtbmhonfgffjpcaaGreat
namespace Go.Proofs.YtbmhonfgffjpcaaGreat
open Go.RowKit
open Go.Lib hiding intOf
theorem timeOk_any (t : Int) (w : World) :
  Calls Tryz.prog 68 #[.int .i64 t] w fun e w' => e = .returned (.bool (decide ((0 : Int) ≤ t ∧ t ≤ 1000000))) ∧ w' = w := by
 obtain ⟨D, hD⟩ : ∃ D, D = decide ((0 : Int) ≤ t ∧ t ≤ 1000000) := ⟨_, rfl⟩
 rw [← hD]
 by_cases h1 : 0 ≤ t
 ·
  by_cases h2 : t ≤ 1000000
  ·
   have HD : Hid (D = true) := by show _ = _; rw [hD]; exact decide_eq_true ⟨h1, h2⟩
   clear hD
   go_enter Tryz.func68, Tryz.ntmps68
   go_wp2
   go_ret
   exact ⟨by rw [HD.out]; rfl, rfl⟩
  ·
   have HD : Hid (D = false) := by show _ = _; rw [hD]; exact decide_eq_false (fun h => h2 h.2)
   clear hD
   go_enter Tryz.func68, Tryz.ntmps68
   go_wp2
   go_ret
   exact ⟨by rw [HD.out]; rfl, rfl⟩
 ·
  have HD : Hid (D = false) := by show _ = _; rw [hD]; exact decide_eq_false (fun h => h1 h.1)
  clear hD
  go_enter Tryz.func68, Tryz.ntmps68
  go_wp2
  go_ret
  exact ⟨by rw [HD.out]; rfl, rfl⟩
theorem valuesOk_any (oa : Option Addr) (m cm : Nat) (xs : List ByteArray) (w : World) (hx : TextsA w oa m xs) (hm : m ≤ 2000000) (hsz : ∀ i, i < m → (textAt xs i).size ≤ maxLen) :
  Calls Tryz.prog 158 #[.slice oa m cm] w fun e w' => BoolIs (∀ y ∈ xs, ValOk y) w e w' := by
 have HV : Hid (∀ W, Below w.heap.size w W → TextsA W oa m xs) := fun W h => hx.below h
 have HL : Hid (xs.length = m) := hx.1
 have HS : Hid (∀ i, i < m → (textAt xs i).size ≤ maxLen) := hsz
 clear hx hsz
 go_enter Tryz.func158, Tryz.ntmps158
 go_wp2
 go_loopw [7] (fun i wr => ∃ j : Nat, j ≤ m ∧ i = .int .i64 (j : Int) ∧ Hid (Below w.heap.size w wr) ∧ Hid (∀ x ∈ xs.take j, ValOk x)) (fun i _ => m - (intOf i).toNat)
 case atStart => exact ⟨0, Nat.zero_le _, rfl, Below.refl _ _, fun x hx => by simp at hx⟩
 case round =>
  obtain ⟨j, hj, rfl, HW, HN⟩ := hrel
  by_cases hlt : (j : Int) < (m : Int)
  ·
   have hjx : j < xs.length := by rw [HL.out]; omega
   obtain ⟨g, hog, hg, hc⟩ := (HV.out wr HW.out).2 j (by omega)
   subst hog
   have hs := HS.out j (by omega)
   obtain ⟨x, hxx⟩ := exq (textAt xs j)
   rw [← hxx] at hc hs
   have HM : Hid (x ∈ xs) := by show _ ∈ _; rw [hxx]; exact textAt_mem xs j hjx
   have HTK : Hid (xs.take (j + 1) = xs.take j ++ [x]) := by show _ = _; rw [take_textAt xs j hjx, hxx]
   clear hxx hjx
   go_wp2_with fail
   refine (implValueOk_any x _ hs).mono ?_
   rintro e w90 ⟨tx, rfl, htx, bw⟩
   have HW2 : Hid (Below w.heap.size w w90) := HW.out.trans (bw.mono HW.out.size)
   clear bw hc HW
   cases tx with
   | false =>
    have HF : Hid (¬ ∀ y ∈ xs, ValOk y) := fun h => nomatch htx.2 (h x HM.out)
    clear htx HN
    go_wp2_with fail
    go_ret
    exact BoolIs.no HF.out HW2.out
   | true =>
    have HN2 : Hid (∀ y ∈ xs.take (j + 1), ValOk y) := by
     intro y hy
     rw [HTK.out] at hy
     rcases List.mem_append.1 hy with hy | hy
     · exact HN.out y hy
     · rw [List.mem_singleton.1 hy]; exact htx.1 rfl
    clear htx HN
    go_wp2_with fail
    go_roundw
    case rel => exact ⟨j + 1, by omega, by go_num, HW2, HN2⟩
    case measure => simp [intOf]; omega
  ·
   have HA : Hid (∀ y ∈ xs, ValOk y) := by
    have h := HN.out
    rw [List.take_of_length_le (by rw [HL.out]; omega)] at h
    exact h
   clear HN
   go_wp2_with fail
   go_ret
   exact ⟨true, rfl, ⟨fun _ => HA.out, fun _ => rfl⟩, HW.out⟩
theorem equalT_any (oa ob : Option Addr) (m cm k ck : Nat) (xs ys : List ByteArray) (w : World) (hx : TextsA w oa m xs) (hm : m ≤ 2000000) (hy : TextsA w ob k ys) (hk : k ≤ 2000000) :
  Calls Tryz.prog 155 #[.slice oa m cm, .slice ob k ck] w fun e w' => e = .returned (.bool (decide (xs = ys))) ∧ Below w.heap.size w w' := by
 by_cases hmk : m = k
 ·
  subst hmk
  by_cases h0 : m = 0
  ·
   subst h0
   refine (Tryz.slices_Equal_string_empty oa ob cm 0 ck w (by omega)).mono ?_
   rintro e w1 ⟨rfl, rfl⟩
   refine ⟨?_, Below.refl _ _⟩
   rw [List.length_eq_zero_iff.1 hx.1, List.length_eq_zero_iff.1 hy.1]
   simp
  ·
   obtain ⟨g, rfl, _, _⟩ := hx.2 0 (by omega)
   obtain ⟨q, rfl, _, _⟩ := hy.2 0 (by omega)
   refine (Tryz.slices_Equal_string g 0 m cm q 0 m ck xs ys w (by rw [hx.1]; exact Nat.le_refl _) (by rw [hy.1]; exact Nat.le_refl _) (by omega) (by omega) (fun j hj => ?_) (fun j hj => ?_)).mono ?_
   ·
    obtain ⟨g2, e2, _, h3⟩ := hx.2 j (by rw [← hx.1]; exact hj)
    cases e2
    rw [Nat.zero_add]
    exact h3
   ·
    obtain ⟨g2, e2, _, h3⟩ := hy.2 j (by rw [← hy.1]; exact hj)
    cases e2
    rw [Nat.zero_add]
    exact h3
   ·
    rintro e w1 ⟨rfl, n, rfl⟩
    refine ⟨?_, ⟨rfl, rfl, rfl, Nat.le_refl _, fun _ _ => rfl⟩⟩
    rw [List.take_of_length_le (by rw [hx.1]; exact Nat.le_refl _), List.take_of_length_le (by rw [hy.1]; exact Nat.le_refl _)]
 ·
  refine (Tryz.slices_Equal_string_lens oa ob m cm k ck w hmk).mono ?_
  rintro e w1 ⟨rfl, rfl⟩
  refine ⟨?_, Below.refl _ _⟩
  rw [decide_eq_false (fun h => hmk (by rw [← hx.1, ← hy.1, h]))]
end Go.Proofs.YtbmhonfgffjpcaaGreat
namespace Go.Proofs.YtbmhonfgffjpcaaGreat
open Go.RowKit
open Go.Lib hiding intOf
attribute [local go_sem] Oper.semAt_some
theorem implVaryOf_any (v : Value) (n base : Nat) (fs : List (ByteArray × ByteArray)) (w : World) (hv : FieldsV w base v n fs) (hn : n ≤ 1073741824) (hcp : CopyF fs) (hsz : (getV fs varyName).size ≤ 1048576) :
  Calls Tryz.prog 156 #[v] w fun e w' => RowIs w.heap.size (varyP fs) w e w' := by
 obtain ⟨s, hs⟩ := exq (getV fs varyName)
 have HS : Hid (getV fs varyName = s) := hs.symm
 have HE : Hid (varyP fs = (splitL s).map lowerOf) := by show _ = _; unfold varyP; rw [HS.out]
 rw [← hs] at hsz
 have hl1 := (splitL_le s).1
 clear hs
 go_enter Tryz.func156, Tryz.ntmps156
 go_wp2_with fail
 refine (implGet_any v n base fs varyName _ hv hn hcp).mono ?_
 rintro e w1 ⟨rfl, b1⟩
 rw [HS.out]
 clear hv
 go_wp2_with fail
 refine (implSplit_any s _ hsz).mono ?_
 rintro e w2 ⟨V, rfl, O, b2⟩
 obtain ⟨xs, hxs⟩ := exq (splitL s)
 rw [← hxs] at hl1 O HE
 obtain ⟨m, hm⟩ := exq xs.length
 rw [← hm] at hl1 O
 have HM : Hid (xs.length = m) := hm.symm
 have O := owns_base O b1.size
 have b2 : Below w.heap.size w w2 := b1.trans (b2.mono b1.size)
 clear hxs hm b1
 rcases row_form O with ⟨oa, ca, rfl, h0, h1⟩ | ⟨g, cap, rfl, hp, r1⟩
 ·
  subst h0 h1
  go_wp2_with fail
  refine wp_loop_rounds 1 ?_
  rw [rounds_succ]
  go_wp2_with fail
  go_ret
  exact RowIs.of (by rw [HE.out]; rfl) rfl O b2
 ·
  clear O
  have HB2 : Hid (Below w.heap.size w w2) := b2
  have HR1 : Hid (TextRow w.heap.size w2 g m cap (loTo xs 0)) := by show TextRow _ _ _ _ _ _; rw [loTo_zero]; exact r1
  clear b2 r1
  go_wp2_with fail
  go_loopw [17] (fun i wr => ∃ j : Nat, j ≤ m ∧ i = .int .i64 (j : Int) ∧ Hid (Below w.heap.size w wr) ∧ Hid (TextRow w.heap.size wr g m cap (loTo xs j))) (fun i _ => m - (intOf i).toNat)
  case atStart => exact ⟨0, Nat.zero_le _, rfl, HB2, HR1⟩
  case round =>
   obtain ⟨j, hj, rfl, HB, HR⟩ := hrel
   by_cases hlt : j < m
   ·
    have hlt2 : (j : Int) < (m : Int) := by omega
    obtain ⟨x, hx⟩ := exq (textAt xs j)
    have hc := HR.out.cell j hlt
    rw [loTo_at, ← hx] at hc
    have HST : Hid ((loTo xs j).set j (lowerOf x) = loTo xs (j + 1)) := by show _ = _; rw [hx]; exact loTo_step xs j (by rw [HM.out]; exact hlt)
    clear hx
    go_wp2_with fail
    refine (implLower_any x _).mono ?_
    rintro e w3 ⟨rfl, hb3⟩
    have hrow := HR.out.below hb3 HR.out.lt
    have hc3 := hrow.cell j hlt
    have hf3 := hrow.frozen j
    have HB3 : Hid (Below w.heap.size w (w3.setCell ⟨g, j, none⟩ (.string (lowerOf x)))) := (HB.out.trans (hb3.mono HB.out.size)).setCell HR.out.base _
    have HR3 : Hid (TextRow w.heap.size (w3.setCell ⟨g, j, none⟩ (.string (lowerOf x))) g m cap (loTo xs (j + 1))) := by
     show TextRow _ _ _ _ _ _
     rw [← HST.out]
     exact hrow.set j hlt _
    clear hb3 hrow HB HR HST hc
    go_wp2_with fail
    go_roundw
    case rel => exact ⟨j + 1, by omega, by go_num, HB3, HR3⟩
    case measure => simp [intOf]; omega
   ·
    obtain rfl : j = m := by omega
    go_wp2_with fail
    go_ret
    exact RowIs.of (by rw [HE.out, loTo_all xs j (by rw [HM.out]; exact Nat.le_refl _)]) (by rw [loTo_all xs j (by rw [HM.out]; exact Nat.le_refl _), List.length_map, HM.out]) HR.out.owns HB.out
end Go.Proofs.YtbmhonfgffjpcaaGreat
namespace Go.Proofs.YtbmhonfgffjpcaaGreat
open Go.RowKit
open Go.Lib hiding intOf
theorem namesOk_any (oa : Option Addr) (m cm : Nat) (xs : List ByteArray) (w : World) (hx : TextsA w oa m xs) (hm : m ≤ 2000000) (hsz : ∀ i, i < m → (textAt xs i).size ≤ maxLen) :
  Calls Tryz.prog 157 #[.slice oa m cm] w fun e w' => BoolIs (NamesP xs) w e w' := by
 by_cases h4 : (4 : Int) < (m : Int)
 ·
  have HF : Hid (¬ NamesP xs) := fun h => by have := h.2; rw [hx.1] at this; omega
  clear hx hsz
  go_enter Tryz.func157, Tryz.ntmps157
  go_wp2_with fail
  go_ret
  exact BoolIs.no HF.out (Below.refl _ _)
 have HX : Hid (∀ W, Below w.heap.size w W → TextsA W oa m xs) := fun W h => hx.below h
 have HL : Hid (xs.length = m) := hx.1
 have HS : Hid (∀ i, i < m → (textAt xs i).size ≤ maxLen) := hsz
 clear hx hsz
 go_enter Tryz.func157, Tryz.ntmps157
 go_wp2_with fail
 go_loopw [10] (fun i wr => ∃ j : Nat, j ≤ m ∧ i = .int .i64 (j : Int) ∧ Below w.heap.size w wr ∧ Hid (∀ x ∈ xs.take j, TokOk x)) (fun i _ => m - (intOf i).toNat)
 case atStart => exact ⟨0, Nat.zero_le _, rfl, Below.refl _ _, fun x hx => by simp at hx⟩
 case round =>
  obtain ⟨j, hj, rfl, hbw, HN⟩ := hrel
  by_cases hlt : (j : Int) < (m : Int)
  ·
   have hjx : j < xs.length := by rw [HL.out]; omega
   obtain ⟨g, rfl, hg, hc⟩ := (HX.out wr hbw).2 j (by omega)
   have hs := HS.out j (by omega)
   obtain ⟨x, hxx⟩ := exq (textAt xs j)
   rw [← hxx] at hc hs
   have HM : Hid (x ∈ xs) := by show _ ∈ _; rw [hxx]; exact textAt_mem xs j hjx
   have HT : Hid (xs.take (j + 1) = xs.take j ++ [x]) := by show _ = _; rw [take_textAt xs j hjx, hxx]
   clear hxx hjx
   go_wp2_with fail
   refine (implTokenOk_any x _ hs).mono ?_
   rintro e w1 ⟨t, rfl, ht, b1⟩
   have hb1 : Below w.heap.size w w1 := hbw.trans (b1.mono hbw.size)
   clear b1 hbw hc
   cases t with
   | false =>
    have HF : Hid (¬ NamesP xs) := fun h => nomatch ht.2 (h.1 x HM.out)
    clear ht HN
    go_wp2_with fail
    go_ret
    exact BoolIs.no HF.out hb1
   | true =>
    have HN2 : Hid (∀ y ∈ xs.take (j + 1), TokOk y) := by
     intro y hy
     rw [HT.out] at hy
     rcases List.mem_append.1 hy with hy | hy
     · exact HN.out y hy
     · rw [List.mem_singleton.1 hy]; exact ht.1 rfl
    clear ht HN
    go_wp2_with fail
    go_roundw
    case rel => exact ⟨j + 1, by omega, by go_num, hb1, HN2⟩
    case measure => simp [intOf]; omega
  ·
   have HQ : Hid (NamesP xs) := ⟨by
    have h := HN.out
    rw [List.take_of_length_le (by rw [HL.out]; omega)] at h
    exact h, by rw [HL.out]; omega⟩
   clear HN
   go_wp2_with fail
   go_ret
   exact ⟨true, rfl, ⟨fun _ => HQ.out, fun _ => rfl⟩, hbw⟩
end Go.Proofs.YtbmhonfgffjpcaaGreat
namespace Go.Proofs.YtbmhonfgffjpcaaGreat
open Go.RowKit
open Go.Lib hiding intOf
theorem fieldOk_any (v : Value) (n base : Nat) (fs : List (ByteArray × ByteArray)) (k : Nat) (w : World) (hv : FieldsV w base v n fs) (hn : n ≤ 1073741824) (hk : k < n) (hs1 : (nameAt fs k).size ≤ maxLen) (hs2 : (valAt fs k).size ≤ maxLen) :
  Calls Tryz.prog 213 #[v, .int .i64 (k : Int)] w fun e w' => BoolIs (FldOk fs k) w e w' := by
 have HV : Hid (∀ W, Below w.heap.size w W → FieldsV W base v n fs) := fun W h => hv.below h
 obtain ⟨oa, cap, rfl, hrow⟩ := hv.slice
 obtain ⟨g, rfl, row⟩ := hrow k hk
 have hlt2 : (k : Int) < (n : Int) := by omega
 have hc1 := row.name k hk
 have hc2 := row.val k hk
 obtain ⟨nm, hnm⟩ := exq (nameAt fs k)
 obtain ⟨vl, hvl⟩ := exq (valAt fs k)
 have HO : Hid (FldOk fs k ↔ TokOk nm ∧ ValOk vl ∧ atF fs nm = k ∧ nm ≠ clen) := by rw [hnm, hvl]; exact Iff.rfl
 rw [← hnm] at hc1 hs1
 rw [← hvl] at hc2 hs2
 clear hv hrow row hnm hvl
 obtain ⟨r, hr⟩ := exq (w.heap.size)
 have h0 : (w.alloc (.cells #[.string nm, .string vl] 171)).heap.size = w.heap.size + 1 := by simp
 have HB0 : Hid (Below w.heap.size w (w.alloc (.cells #[.string nm, .string vl] 171)) ∧ w.heap.size ≤ (w.alloc (.cells #[.string nm, .string vl] 171)).heap.size) := ⟨(Below.refl _ w).alloc (Nat.le_refl _) _, by omega⟩
 have HR : Hid (∀ W, Below (w.alloc (.cells #[.string nm, .string vl] 171)).heap.size (w.alloc (.cells #[.string nm, .string vl] 171)) W → W.cell? ⟨r, 0, none⟩ = some (.string nm) ∧ W.cell? ⟨r, 1, none⟩ = some (.string vl)) := fun W h => by
  have hh : W.heap[r]? = some (.cells #[.string nm, .string vl] 171) := by rw [hr, h.block _ (by omega)]; exact heap_alloc_new w _
  exact ⟨by simp [World.cell?, hh], by simp [World.cell?, hh]⟩
 go_enter Tryz.func213, Tryz.ntmps213
 go_wp2_with fail
 refine (implTokenOk_any nm _ hs1).mono ?_
 rintro e w1 ⟨b1, rfl, kb1, bb1⟩
 rw [← hr]
 have hb1 : Below w.heap.size w w1 := HB0.out.1.trans (bb1.mono HB0.out.2)
 obtain ⟨d1, d2⟩ := HR.out w1 bb1
 clear h0
 cases b1
 ·
  have HF : Hid (¬ FldOk fs k) := fun h => by have := kb1.2 (HO.out.1 h).1; cases this
  clear kb1 hc1 hc2 bb1 hr
  go_wp2_with fail
  go_ret
  exact BoolIs.no HF.out hb1
 ·
  have HT : Hid (TokOk nm) := kb1.1 rfl
  clear kb1 hc1 hc2 hr
  go_wp2_with fail
  refine (implValueOk_any vl _ hs2).mono ?_
  rintro e w2 ⟨b2, rfl, kb2, bb2⟩
  have bb2' := bb1.trans (bb2.mono bb1.size)
  have hb2 : Below w.heap.size w w2 := HB0.out.1.trans (bb2'.mono HB0.out.2)
  obtain ⟨d3, d4⟩ := HR.out w2 bb2'
  cases b2
  ·
   have HF : Hid (¬ FldOk fs k) := fun h => by have := kb2.2 (HO.out.1 h).2.1; cases this
   clear kb2 bb1 bb2 bb2' hb1 d1 d2
   go_wp2_with fail
   go_ret
   exact BoolIs.no HF.out hb2
  ·
   have HT2 : Hid (ValOk vl) := kb2.1 rfl
   clear kb2 bb1 bb2 bb2' hb1 d1 d2
   by_cases hcl : nm = clen
   ·
    have ht := (text_beq _ _).2 hcl
    rw [clen_list] at ht
    have HF : Hid (¬ FldOk fs k) := fun h => (HO.out.1 h).2.2.2 hcl
    clear hcl
    go_wp2_with fail
    go_ret
    exact BoolIs.no HF.out hb2
   ·
    have ht := text_beq_no hcl
    rw [clen_list] at ht
    have HC : Hid (nm ≠ clen) := hcl
    clear hcl
    go_wp2_with fail
    refine (place_any _ n base fs nm _ (HV.out w2 hb2) hn).mono ?_
    rintro e w3 ⟨rfl, rfl⟩
    by_cases hat : atF fs nm = k
    ·
     have HY : Hid (FldOk fs k) := HO.out.2 ⟨HT.out, HT2.out, hat, HC.out⟩
     rw [hat]
     clear hat
     go_wp2
     go_ret
     exact BoolIs.yes HY.out hb2
    ·
     have HF : Hid (¬ FldOk fs k) := fun h => hat (HO.out.1 h).2.2.1
     have hne : ((atF fs nm : Int) == (k : Int)) = false := by rw [beq_eq_false_iff_ne]; omega
     clear hat
     go_wp2
     go_ret
     exact BoolIs.no HF.out hb2
theorem ok_any (v : Value) (n base : Nat) (fs : List (ByteArray × ByteArray)) (w : World) (hv : FieldsV w base v n fs) (hn : n ≤ 1073741824) (hsz : ∀ i, i < n → (nameAt fs i).size ≤ maxLen ∧ (valAt fs i).size ≤ maxLen) :
  Calls Tryz.prog 206 #[v] w fun e w' => BoolIs (FldsOk fs) w e w' := by
 have hl := hv.len
 have HV : Hid (∀ W, Below w.heap.size w W → FieldsV W base v n fs) := fun W h => hv.below h
 have HS : Hid (∀ i, i < n → (nameAt fs i).size ≤ maxLen ∧ (valAt fs i).size ≤ maxLen) := hsz
 obtain ⟨oa, cap, rfl, hrow⟩ := hv.slice
 clear hv hrow hsz
 by_cases h8 : (8 : Int) < (n : Int)
 ·
  have HF : Hid (¬ FldsOk fs) := fun h => by have := h.1; omega
  go_enter Tryz.func206, Tryz.ntmps206
  go_wp2
  go_ret
  exact BoolIs.no HF.out (Below.refl _ _)
 ·
  go_enter Tryz.func206, Tryz.ntmps206
  go_wp2
  go_loopw [9] (fun i wr => ∃ k : Nat, k ≤ n ∧ i = .int .i64 (k : Int) ∧ Hid (∀ j, j < k → FldOk fs j) ∧ Below w.heap.size w wr) (fun i _ => n - (intOf i).toNat)
  case atStart => exact ⟨0, Nat.zero_le _, rfl, fun j h => absurd h (by omega), Below.refl _ _⟩
  case round =>
   obtain ⟨k, hk, rfl, hall, hbw⟩ := hrel
   by_cases hlt : k < n
   ·
    have hlt2 : (k : Int) < (n : Int) := by omega
    obtain ⟨hs1, hs2⟩ := HS.out k hlt
    go_wp2_with fail
    refine (fieldOk_any _ n base fs k _ (HV.out wr hbw) hn hlt hs1 hs2).mono ?_
    rintro e w1 ⟨b1, rfl, kb1, bb1⟩
    have hb1 : Below w.heap.size w w1 := hbw.trans (bb1.mono hbw.size)
    cases b1
    ·
     have HF : Hid (¬ FldsOk fs) := fun h => by have := kb1.2 (h.2 k (by omega)); cases this
     clear kb1 bb1
     go_wp2
     go_ret
     exact BoolIs.no HF.out hb1
    ·
     have HY : Hid (FldOk fs k) := kb1.1 rfl
     clear kb1 bb1
     go_wp2
     go_roundw
     case rel =>
      refine ⟨k + 1, by omega, by go_num, ?_, hb1⟩
      intro j hj
      by_cases e : j = k
      · subst e; exact HY.out
      · exact hall.out j (by omega)
     case measure => simp [intOf]; omega
   ·
    have HF : Hid (FldsOk fs) := ⟨by omega, fun i hi => hall.out i (by omega)⟩
    go_wp2
    go_ret
    exact BoolIs.yes HF.out hbw
end Go.Proofs.YtbmhonfgffjpcaaGreat
