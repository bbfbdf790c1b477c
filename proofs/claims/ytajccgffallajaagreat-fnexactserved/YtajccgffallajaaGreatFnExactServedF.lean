/- What the proof of FnExactServed leans on: contracts of the program's and the specification's functions, and plain facts (part 6 of 7). -/
import Derived.Test.YtajccgffallajaaGreatFnExactServedE
namespace Go.Proofs.YtajccgffallajaaGreat
open Go.RowKit Go.WideShapes
open Go.Lib hiding intOf

/-- What a cache tells. -/
structure CaD where
  s : ShD
  fl : List FlD
  now : Int
  se : List SeD
  sn : List RpD
/-- All rows of a cache. -/
def caAll (v1 v2 V VB F E R : Value) (kv : List (KpD × Value × Value × Value)) (fv : List FlV) (ev : List SeV) (rv : List RpV) (cs : List ByteArray) (ws : List (Int × ByteArray)) (bl : List (Int × ByteArray × ByteArray × Int)) : List Rw := ((shAll v1 v2 V VB kv cs ws bl ++ flAll F fv) ++ seAll E ev) ++ rpAll R rv
/-- A cache of one's own. -/
structure CacheO (w : World) (base : Nat) (v1 v2 V VB F E R : Value) (kv : List (KpD × Value × Value × Value)) (fv : List FlV) (ev : List SeV) (rv : List RpV) (c : CaD) : Prop where
  rows : RowsO w base (caAll v1 v2 V VB F E R kv fv ev rv c.s.cs c.s.ws c.s.bl)
  hk : kv.map (·.1) = c.s.ks
  hf : fv.map (·.d) = c.fl
  he : ev.map (·.d) = c.se
  hr : rv.map (·.d) = c.sn
theorem CacheO.shelf {w : World} {base : Nat} {v1 v2 V VB F E R : Value} {kv : List (KpD × Value × Value × Value)} {fv : List FlV} {ev : List SeV} {rv : List RpV} {c : CaD} (h : CacheO w base v1 v2 V VB F E R kv fv ev rv c) : ShelfO w base v1 v2 V VB kv c.s := ⟨RowsO.sub h.rows ((List.sublist_append_left _ _).trans ((List.sublist_append_left _ _).trans (List.sublist_append_left _ _))), h.hk⟩
theorem CacheO.fls {w : World} {base : Nat} {v1 v2 V VB F E R : Value} {kv : List (KpD × Value × Value × Value)} {fv : List FlV} {ev : List SeV} {rv : List RpV} {c : CaD} (h : CacheO w base v1 v2 V VB F E R kv fv ev rv c) : FlsO w base F fv := RowsO.sub h.rows ((List.sublist_append_right _ _).trans ((List.sublist_append_left _ _).trans (List.sublist_append_left _ _)))
theorem CacheO.ses {w : World} {base : Nat} {v1 v2 V VB F E R : Value} {kv : List (KpD × Value × Value × Value)} {fv : List FlV} {ev : List SeV} {rv : List RpV} {c : CaD} (h : CacheO w base v1 v2 V VB F E R kv fv ev rv c) : SesO w base E ev := RowsO.sub h.rows ((List.sublist_append_right _ _).trans (List.sublist_append_left _ _))
theorem CacheO.rps {w : World} {base : Nat} {v1 v2 V VB F E R : Value} {kv : List (KpD × Value × Value × Value)} {fv : List FlV} {ev : List SeV} {rv : List RpV} {c : CaD} (h : CacheO w base v1 v2 V VB F E R kv fv ev rv c) : RpsO w base R rv := RowsO.sub h.rows (List.sublist_append_right _ _)
theorem CacheO.below {w : World} {base : Nat} {v1 v2 V VB F E R : Value} {kv : List (KpD × Value × Value × Value)} {fv : List FlV} {ev : List SeV} {rv : List RpV} {c : CaD} {w' : World} (h : CacheO w base v1 v2 V VB F E R kv fv ev rv c) (hb : Below w.heap.size w w') : CacheO w' base v1 v2 V VB F E R kv fv ev rv c := ⟨h.rows.below hb, h.hk, h.hf, h.he, h.hr⟩
theorem flAll_T {V : Value} {kv : List FlV} {r : Rw} (h : r ∈ flAll V kv) : r.T = 113 ∨ r.T = 135 ∨ r.T = 3 ∨ r.T = 9 := by
  rcases List.mem_cons.1 h with h | h
  · exact .inl (by rw [h]; rfl)
  · obtain ⟨x, _, hx⟩ := List.mem_flatMap.1 h
    exact .inr (flR_T hx)
theorem seAll_T {V : Value} {kv : List SeV} {r : Rw} (h : r ∈ seAll V kv) : r.T = 116 ∨ r.T = 135 := by
  rcases List.mem_cons.1 h with h | h
  · exact .inl (by rw [h]; rfl)
  · obtain ⟨x, _, hx⟩ := List.mem_flatMap.1 h
    exact .inr (seR_T hx)
theorem rpAll_T {V : Value} {kv : List RpV} {r : Rw} (h : r ∈ rpAll V kv) : r.T = 68 ∨ r.T = 135 ∨ r.T = 9 := by
  rcases List.mem_cons.1 h with h | h
  · exact .inl (by rw [h]; rfl)
  · obtain ⟨x, _, hx⟩ := List.mem_flatMap.1 h
    exact .inr (rpR_T hx)
theorem shAll_noC (T : TypeId) (hT : T ≠ 9 ∧ T ≠ 184 ∧ T ≠ 161 ∧ T ≠ 163 ∧ T ≠ 135 ∧ T ≠ 3 ∧ T ≠ 113 ∧ T ≠ 116 ∧ T ≠ 68) {v1 v2 V VB : Value} {kv : List (KpD × Value × Value × Value)} {cs : List ByteArray} {ws : List (Int × ByteArray)} {bl : List (Int × ByteArray × ByteArray × Int)} : ∀ r ∈ shAll v1 v2 V VB kv cs ws bl, T ≠ r.T := by
  intro r hr
  unfold shAll at hr
  rcases List.mem_append.1 hr with hr | hr
  · rcases List.mem_append.1 hr with hr | hr
    · simp only [List.mem_cons, List.not_mem_nil, or_false] at hr
      rcases hr with rfl | rfl
      · exact hT.1
      · exact hT.2.1
    · rcases kpAll_T hr with e | e | e
      · rw [e]; exact hT.2.2.1
      · rw [e]; exact hT.1
      · rw [e]; exact hT.2.2.2.2.1
  · rw [List.mem_singleton.1 hr]; exact hT.2.2.2.1
theorem caAll_noC (T : TypeId) (hT : T ≠ 9 ∧ T ≠ 184 ∧ T ≠ 161 ∧ T ≠ 163 ∧ T ≠ 135 ∧ T ≠ 3 ∧ T ≠ 113 ∧ T ≠ 116 ∧ T ≠ 68) {v1 v2 V VB F E R : Value} {kv : List (KpD × Value × Value × Value)} {fv : List FlV} {ev : List SeV} {rv : List RpV} {cs : List ByteArray} {ws : List (Int × ByteArray)} {bl : List (Int × ByteArray × ByteArray × Int)} : ∀ r ∈ caAll v1 v2 V VB F E R kv fv ev rv cs ws bl, T ≠ r.T := by
  intro r hr
  unfold caAll at hr
  rcases List.mem_append.1 hr with hr | hr
  · rcases List.mem_append.1 hr with hr | hr
    · rcases List.mem_append.1 hr with hr | hr
      · exact shAll_noC T hT r hr
      · rcases flAll_T hr with e | e | e | e
        · rw [e]; exact hT.2.2.2.2.2.2.1
        · rw [e]; exact hT.2.2.2.2.1
        · rw [e]; exact hT.2.2.2.2.2.1
        · rw [e]; exact hT.1
    · rcases seAll_T hr with e | e
      · rw [e]; exact hT.2.2.2.2.2.2.2.1
      · rw [e]; exact hT.2.2.2.2.1
  · rcases rpAll_T hr with e | e | e
    · rw [e]; exact hT.2.2.2.2.2.2.2.2
    · rw [e]; exact hT.2.2.2.2.1
    · rw [e]; exact hT.1
/-- A call answers a cache of its own. -/
def CacheIs (c : CaD) (w : World) (e : Ending) (w' : World) : Prop := ∃ (v1 v2 V VB F E R : Value) (kv : List (KpD × Value × Value × Value)) (fv : List FlV) (ev : List SeV) (rv : List RpV), e = .returned (.agg #[v1, v2, V, VB, .int .i64 c.s.nx, .int .i64 c.s.sq, F, .int .i64 c.now, E, R]) ∧ CacheO w' w.heap.size v1 v2 V VB F E R kv fv ev rv c ∧ Below w.heap.size w w'

/-- Short enough to be copied. -/
structure CaLen (n1 n2 n3 n4 n5 n6 n7 : Nat) (ks : List KpD) (fl : List FlD) (se : List SeD) (sn : List RpD) : Prop where
  a : n1 ≤ 1048576
  b : n2 ≤ 1048576
  c : n3 ≤ 1048576
  d : n4 ≤ 1048576
  e : n5 ≤ 1048576
  f : n6 ≤ 1048576
  g : n7 ≤ 1048576
  ks : ∀ k ∈ ks, k.xs.length ≤ 1048576 ∧ k.ys.length ≤ 1048576 ∧ k.fs.length ≤ 1048576
  fl : ∀ k ∈ fl, FlLen k
  se : ∀ k ∈ se, SeLen k
  sn : ∀ k ∈ sn, RpLen k

set_option maxHeartbeats 8000000 in
set_option maxRecDepth 100000 in
theorem toCache_any (a1 : Option Addr) (n1 c1 : Nat) (cs : List ByteArray) (a2 : Option Addr) (n2 c2 : Nat) (ws : List (Int × ByteArray)) (a3 : Option Addr) (n3 c3 : Nat) (ks : List KpD) (a4 : Option Addr) (n4 c4 : Nat) (bl : List (Int × ByteArray × ByteArray × Int)) (nx sq : Int) (a5 : Option Addr) (n5 c5 : Nat) (fl : List FlD) (now : Int) (a6 : Option Addr) (n6 c6 : Nat) (se : List SeD) (a7 : Option Addr) (n7 c7 : Nat) (sn : List RpD) (B : Nat) (w : World) (h1 : ArgT w B a1 n1 cs) (h2 : ArgWrite w B a2 n2 ws) (h3 : ArgKept w B a3 n3 ks) (h4 : ArgBan w B a4 n4 bl) (h5 : ArgFlight w B a5 n5 fl) (h6 : ArgSeen w B a6 n6 se) (h7 : ArgReply w B a7 n7 sn) (hB : B ≤ w.heap.size) (hn : CaLen n1 n2 n3 n4 n5 n6 n7 ks fl se sn) :
    Calls Tryz.prog 6 #[.agg #[.slice a1 n1 c1, .slice a2 n2 c2, .slice a3 n3 c3, .slice a4 n4 c4, .int .i64 nx, .int .i64 sq, .slice a5 n5 c5, .int .i64 now, .slice a6 n6 c6, .slice a7 n7 c7]] w fun e w' => CacheIs ⟨⟨cs, ws, ks, bl, nx, sq⟩, fl, now, se, sn⟩ w e w' := by
  have HA1 : Hid (∀ W, Below w.heap.size w W → ArgT W B a1 n1 cs) := fun W h => h1.below (h.mono hB)
  have HA2 : Hid (∀ W, Below w.heap.size w W → ArgWrite W B a2 n2 ws) := fun W h => h2.below (h.mono hB)
  have HA3 : Hid (∀ W, Below w.heap.size w W → ArgKept W B a3 n3 ks) := fun W h => h3.below (h.mono hB)
  have HA4 : Hid (∀ W, Below w.heap.size w W → ArgBan W B a4 n4 bl) := fun W h => h4.below (h.mono hB)
  have HA5 : Hid (∀ W, Below w.heap.size w W → ArgFlight W B a5 n5 fl) := fun W h => h5.below (h.mono hB)
  have HA6 : Hid (∀ W, Below w.heap.size w W → ArgSeen W B a6 n6 se) := fun W h => h6.below (h.mono hB)
  have HA7 : Hid (∀ W, Below w.heap.size w W → ArgReply W B a7 n7 sn) := fun W h => h7.below (h.mono hB)
  have HBB : Hid (∀ W, Below w.heap.size w W → B ≤ W.heap.size) := fun W h => Nat.le_trans hB h.size
  have HN : Hid (CaLen n1 n2 n3 n4 n5 n6 n7 ks fl se sn) := hn
  clear h1 h2 h3 h4 h5 h6 h7 hn hB
  have hb0 : Below w.heap.size w w := Below.refl _ _
  go_enter Tryz.func6, Tryz.ntmps6
  go_upto_region 1 with fail
  obtain ⟨qv1, hqv1⟩ : ∃ q, q = (w).heap.size := ⟨_, rfl⟩
  obtain ⟨w1, hW1⟩ : ∃ W, W = (w).alloc (.cells #[.slice a1 n1 c1, .slice a2 n2 c2, .slice a3 n3 c3, .slice a4 n4 c4, .int .i64 nx, .int .i64 sq, .slice a5 n5 c5, .int .i64 now, .slice a6 n6 c6, .slice a7 n7 c7] 34) := ⟨_, rfl⟩
  have hz1 : (w).heap.size = qv1 := hqv1.symm
  first | rw [← hW1, ← hqv1] | rw [← hW1]
  have hs1 : w1.heap.size = qv1 + 1 := by rw [hW1, ← hz1]; simp
  have bw : Below (w).heap.size (w) w1 := by rw [hW1]; exact (Below.refl _ _).alloc (Nat.le_refl _) _
  have hb1 : Below w.heap.size w (w1) := hb0.trans (bw.mono hb0.size)
  have HBv1_1 : Hid ((w1).heap[qv1]? = some (.cells #[.slice a1 n1 c1, .slice a2 n2 c2, .slice a3 n3 c3, .slice a4 n4 c4, .int .i64 nx, .int .i64 sq, .slice a5 n5 c5, .int .i64 now, .slice a6 n6 c6, .slice a7 n7 c7] 34)) := by show _ = _; rw [hW1, ← hz1]; exact heap_alloc_new _ _
  clear hb0 bw hW1 hz1
  obtain ⟨qv2, hqv2⟩ : ∃ q, q = qv1 + 1 := ⟨_, rfl⟩
  obtain ⟨w2, hW2⟩ : ∃ W, W = (w1).alloc (.cells #[.slice none 0 0, .slice none 0 0, .slice none 0 0, .slice none 0 0, .int .i64 0, .int .i64 0, .slice none 0 0, .int .i64 0, .slice none 0 0, .slice none 0 0] 52) := ⟨_, rfl⟩
  have hz2 : (w1).heap.size = qv2 := by rw [hqv2]; exact hs1
  first | rw [← hW2, ← hqv2] | rw [← hW2]
  have hs2 : w2.heap.size = qv2 + 1 := by rw [hW2, ← hz2]; simp
  have bw : Below (w1).heap.size (w1) w2 := by rw [hW2]; exact (Below.refl _ _).alloc (Nat.le_refl _) _
  have hb2 : Below w.heap.size w (w2) := hb1.trans (bw.mono hb1.size)
  have HBv1_2 : Hid ((w2).heap[qv1]? = some (.cells #[.slice a1 n1 c1, .slice a2 n2 c2, .slice a3 n3 c3, .slice a4 n4 c4, .int .i64 nx, .int .i64 sq, .slice a5 n5 c5, .int .i64 now, .slice a6 n6 c6, .slice a7 n7 c7] 34)) := blk_below HBv1_1.out bw
  have HNv1v2 : Hid (qv1 ≠ qv2) := fun e => by have h1 := (Array.getElem?_eq_some_iff.1 HBv1_1.out).1; omega
  have HBv2_2 : Hid ((w2).heap[qv2]? = some (.cells #[.slice none 0 0, .slice none 0 0, .slice none 0 0, .slice none 0 0, .int .i64 0, .int .i64 0, .slice none 0 0, .int .i64 0, .slice none 0 0, .slice none 0 0] 52)) := by show _ = _; rw [hW2, ← hz2]; exact heap_alloc_new _ _
  have HGv2 : Hid (w.heap.size ≤ qv2) := by show _ ≤ _; rw [← hz2]; exact hb1.size
  clear hb1 HBv1_1 bw hW2 hz2
  clear hs2 hqv2 hs1 hqv1
  go_upto_region 2 with fail
  obtain ⟨qv3, hqv3⟩ : ∃ q, q = (w2).heap.size := ⟨_, rfl⟩
  obtain ⟨w3, hW3⟩ : ∃ W, W = (w2).alloc (.cells #[.slice none 0 0, .slice none 0 0, .slice none 0 0, .slice none 0 0, .int .i64 0, .int .i64 0, .slice none 0 0, .int .i64 0, .slice none 0 0, .slice none 0 0] 52) := ⟨_, rfl⟩
  have hz3 : (w2).heap.size = qv3 := hqv3.symm
  first | rw [← hW3, ← hqv3] | rw [← hW3]
  have hs3 : w3.heap.size = qv3 + 1 := by rw [hW3, ← hz3]; simp
  have bw : Below (w2).heap.size (w2) w3 := by rw [hW3]; exact (Below.refl _ _).alloc (Nat.le_refl _) _
  have hb3 : Below w.heap.size w (w3) := hb2.trans (bw.mono hb2.size)
  have HBv1_3 : Hid ((w3).heap[qv1]? = some (.cells #[.slice a1 n1 c1, .slice a2 n2 c2, .slice a3 n3 c3, .slice a4 n4 c4, .int .i64 nx, .int .i64 sq, .slice a5 n5 c5, .int .i64 now, .slice a6 n6 c6, .slice a7 n7 c7] 34)) := blk_below HBv1_2.out bw
  have HBv2_3 : Hid ((w3).heap[qv2]? = some (.cells #[.slice none 0 0, .slice none 0 0, .slice none 0 0, .slice none 0 0, .int .i64 0, .int .i64 0, .slice none 0 0, .int .i64 0, .slice none 0 0, .slice none 0 0] 52)) := blk_below HBv2_2.out bw
  have HNv1v3 : Hid (qv1 ≠ qv3) := fun e => by have h1 := (Array.getElem?_eq_some_iff.1 HBv1_2.out).1; omega
  have HNv2v3 : Hid (qv2 ≠ qv3) := fun e => by have h1 := (Array.getElem?_eq_some_iff.1 HBv2_2.out).1; omega
  have HBv3_3 : Hid ((w3).heap[qv3]? = some (.cells #[.slice none 0 0, .slice none 0 0, .slice none 0 0, .slice none 0 0, .int .i64 0, .int .i64 0, .slice none 0 0, .int .i64 0, .slice none 0 0, .slice none 0 0] 52)) := by show _ = _; rw [hW3, ← hz3]; exact heap_alloc_new _ _
  have HGv3 : Hid (w.heap.size ≤ qv3) := by show _ ≤ _; rw [← hz3]; exact hb2.size
  clear hb2 HBv1_2 HBv2_2 bw hW3 hz3
  clear hs3 hqv3
  have cv1_0 : (w3).cell? ⟨qv1, 0, none⟩ = some (.slice a1 n1 c1) := (cell_of HBv1_3.out 0).trans rfl
  have cv1_1 : (w3).cell? ⟨qv1, 1, none⟩ = some (.slice a2 n2 c2) := (cell_of HBv1_3.out 1).trans rfl
  have cv1_2 : (w3).cell? ⟨qv1, 2, none⟩ = some (.slice a3 n3 c3) := (cell_of HBv1_3.out 2).trans rfl
  have cv1_3 : (w3).cell? ⟨qv1, 3, none⟩ = some (.slice a4 n4 c4) := (cell_of HBv1_3.out 3).trans rfl
  have cv1_4 : (w3).cell? ⟨qv1, 4, none⟩ = some (.int .i64 nx) := (cell_of HBv1_3.out 4).trans rfl
  have cv1_5 : (w3).cell? ⟨qv1, 5, none⟩ = some (.int .i64 sq) := (cell_of HBv1_3.out 5).trans rfl
  go_wp2_with fail
  refine (toShelf_any a1 n1 c1 cs a2 n2 c2 ws a3 n3 c3 ks a4 n4 c4 bl nx sq B _ (HA1.out _ hb3) (HA2.out _ hb3) (HA3.out _ hb3) (HA4.out _ hb3) (HBB.out _ hb3) HN.out.a HN.out.b HN.out.c HN.out.d HN.out.ks).mono ?_
  rintro e w4 ⟨va, vb, vc, vd, kv, rfl, hso, bw⟩
  have HKM : Hid (kv.map (·.1) = ks) := hso.2
  obtain ⟨oC, pC, rfl⟩ := slice_of_owns hso.disk.cells
  obtain ⟨oP, pP, rfl⟩ := slice_of_owns hso.disk.pend
  obtain ⟨oK, pK, rfl⟩ := hso.kept.len
  obtain ⟨oB, pB, rfl⟩ := slice_of_owns hso.bans
  dsimp only at hso ⊢
  have HRN : Hid (RowsO w4 w.heap.size (shAll (.slice oC cs.length pC) (.slice oP ws.length pP) (.slice oK kv.length pK) (.slice oB bl.length pB) kv cs ws bl)) := RowsO.wide hso.1 hb3.size
  have HT0 : Hid (∀ r ∈ (shAll (.slice oC cs.length pC) (.slice oP ws.length pP) (.slice oK kv.length pK) (.slice oB bl.length pB) kv cs ws bl), 52 ≠ r.T) := shAll_noC 52 ⟨by decide, by decide, by decide, by decide, by decide, by decide, by decide, by decide, by decide⟩
  have hb4 : Below w.heap.size w (w4) := hb3.trans (bw.mono hb3.size)
  have HBv1_4 : Hid ((w4).heap[qv1]? = some (.cells #[.slice a1 n1 c1, .slice a2 n2 c2, .slice a3 n3 c3, .slice a4 n4 c4, .int .i64 nx, .int .i64 sq, .slice a5 n5 c5, .int .i64 now, .slice a6 n6 c6, .slice a7 n7 c7] 34)) := blk_below HBv1_3.out bw
  have HBv2_4 : Hid ((w4).heap[qv2]? = some (.cells #[.slice none 0 0, .slice none 0 0, .slice none 0 0, .slice none 0 0, .int .i64 0, .int .i64 0, .slice none 0 0, .int .i64 0, .slice none 0 0, .slice none 0 0] 52)) := blk_below HBv2_3.out bw
  have HBv3_4 : Hid ((w4).heap[qv3]? = some (.cells #[.slice none 0 0, .slice none 0 0, .slice none 0 0, .slice none 0 0, .int .i64 0, .int .i64 0, .slice none 0 0, .int .i64 0, .slice none 0 0, .slice none 0 0] 52)) := blk_below HBv3_3.out bw
  clear hb3 HBv1_3 HBv2_3 HBv3_3 bw
  have ER_4 : Hid (RowsO (w4) w.heap.size (shAll (.slice oC cs.length pC) (.slice oP ws.length pP) (.slice oK kv.length pK) (.slice oB bl.length pB) kv cs ws bl)) := HRN.out
  clear HRN
  clear cv1_0 cv1_1 cv1_2 cv1_3 cv1_4 cv1_5
  have cv3_0 : (w4).cell? ⟨qv3, 0, none⟩ = some (.slice none 0 0) := (cell_of HBv3_4.out 0).trans rfl
  have fcv3_0 : (w4).frozen? ⟨qv3, 0, none⟩ = false := frozen_of HBv3_4.out 0
  have cv3_1 : (w4).cell? ⟨qv3, 1, none⟩ = some (.slice none 0 0) := (cell_of HBv3_4.out 1).trans rfl
  have fcv3_1 : (w4).frozen? ⟨qv3, 1, none⟩ = false := frozen_of HBv3_4.out 1
  have cv3_2 : (w4).cell? ⟨qv3, 2, none⟩ = some (.slice none 0 0) := (cell_of HBv3_4.out 2).trans rfl
  have fcv3_2 : (w4).frozen? ⟨qv3, 2, none⟩ = false := frozen_of HBv3_4.out 2
  have cv3_3 : (w4).cell? ⟨qv3, 3, none⟩ = some (.slice none 0 0) := (cell_of HBv3_4.out 3).trans rfl
  have fcv3_3 : (w4).frozen? ⟨qv3, 3, none⟩ = false := frozen_of HBv3_4.out 3
  have cv3_4 : (w4).cell? ⟨qv3, 4, none⟩ = some (.int .i64 0) := (cell_of HBv3_4.out 4).trans rfl
  have fcv3_4 : (w4).frozen? ⟨qv3, 4, none⟩ = false := frozen_of HBv3_4.out 4
  have cv3_5 : (w4).cell? ⟨qv3, 5, none⟩ = some (.int .i64 0) := (cell_of HBv3_4.out 5).trans rfl
  have fcv3_5 : (w4).frozen? ⟨qv3, 5, none⟩ = false := frozen_of HBv3_4.out 5
  go_upto_region 3 with fail
  obtain ⟨w5, hW5⟩ : ∃ W, W = (w4).setCell ⟨qv3, 0, none⟩ (.slice oC cs.length pC) := ⟨_, rfl⟩
  rw [← hW5]
  have hb5 : Below w.heap.size w (w5) := by rw [hW5]; exact (hb4.setCell (p := ⟨qv3, 0, none⟩) HGv3.out _)
  have HBv1_5 : Hid ((w5).heap[qv1]? = some (.cells #[.slice a1 n1 c1, .slice a2 n2 c2, .slice a3 n3 c3, .slice a4 n4 c4, .int .i64 nx, .int .i64 sq, .slice a5 n5 c5, .int .i64 now, .slice a6 n6 c6, .slice a7 n7 c7] 34)) := by show _ = _; rw [hW5, heap_setCell_other _ _ _ _ HNv1v3.out]; exact HBv1_4.out
  have HBv2_5 : Hid ((w5).heap[qv2]? = some (.cells #[.slice none 0 0, .slice none 0 0, .slice none 0 0, .slice none 0 0, .int .i64 0, .int .i64 0, .slice none 0 0, .int .i64 0, .slice none 0 0, .slice none 0 0] 52)) := by show _ = _; rw [hW5, heap_setCell_other _ _ _ _ HNv2v3.out]; exact HBv2_4.out
  have ER_5 : Hid (RowsO (w5) w.heap.size (shAll (.slice oC cs.length pC) (.slice oP ws.length pP) (.slice oK kv.length pK) (.slice oB bl.length pB) kv cs ws bl)) := by show RowsO _ _ _; rw [hW5]; exact RowsO.other ER_4.out HBv3_4.out HT0.out
  have HBv3_5 : Hid ((w5).heap[qv3]? = some (.cells #[.slice oC cs.length pC, .slice none 0 0, .slice none 0 0, .slice none 0 0, .int .i64 0, .int .i64 0, .slice none 0 0, .int .i64 0, .slice none 0 0, .slice none 0 0] 52)) := by show _ = _; rw [hW5]; have h := heap_set _ _ 0 _ _ _ (.slice oC cs.length pC) HBv3_4.out; simpa using h
  clear hb4 HBv1_4 HBv2_4 HBv3_4 ER_4 hW5
  obtain ⟨w6, hW6⟩ : ∃ W, W = (w5).setCell ⟨qv3, 1, none⟩ (.slice oP ws.length pP) := ⟨_, rfl⟩
  rw [← hW6]
  have hb6 : Below w.heap.size w (w6) := by rw [hW6]; exact (hb5.setCell (p := ⟨qv3, 1, none⟩) HGv3.out _)
  have HBv1_6 : Hid ((w6).heap[qv1]? = some (.cells #[.slice a1 n1 c1, .slice a2 n2 c2, .slice a3 n3 c3, .slice a4 n4 c4, .int .i64 nx, .int .i64 sq, .slice a5 n5 c5, .int .i64 now, .slice a6 n6 c6, .slice a7 n7 c7] 34)) := by show _ = _; rw [hW6, heap_setCell_other _ _ _ _ HNv1v3.out]; exact HBv1_5.out
  have HBv2_6 : Hid ((w6).heap[qv2]? = some (.cells #[.slice none 0 0, .slice none 0 0, .slice none 0 0, .slice none 0 0, .int .i64 0, .int .i64 0, .slice none 0 0, .int .i64 0, .slice none 0 0, .slice none 0 0] 52)) := by show _ = _; rw [hW6, heap_setCell_other _ _ _ _ HNv2v3.out]; exact HBv2_5.out
  have ER_6 : Hid (RowsO (w6) w.heap.size (shAll (.slice oC cs.length pC) (.slice oP ws.length pP) (.slice oK kv.length pK) (.slice oB bl.length pB) kv cs ws bl)) := by show RowsO _ _ _; rw [hW6]; exact RowsO.other ER_5.out HBv3_5.out HT0.out
  have HBv3_6 : Hid ((w6).heap[qv3]? = some (.cells #[.slice oC cs.length pC, .slice oP ws.length pP, .slice none 0 0, .slice none 0 0, .int .i64 0, .int .i64 0, .slice none 0 0, .int .i64 0, .slice none 0 0, .slice none 0 0] 52)) := by show _ = _; rw [hW6]; have h := heap_set _ _ 1 _ _ _ (.slice oP ws.length pP) HBv3_5.out; simpa using h
  clear hb5 HBv1_5 HBv2_5 HBv3_5 ER_5 hW6
  obtain ⟨w7, hW7⟩ : ∃ W, W = (w6).setCell ⟨qv3, 2, none⟩ (.slice oK kv.length pK) := ⟨_, rfl⟩
  rw [← hW7]
  have hb7 : Below w.heap.size w (w7) := by rw [hW7]; exact (hb6.setCell (p := ⟨qv3, 2, none⟩) HGv3.out _)
  have HBv1_7 : Hid ((w7).heap[qv1]? = some (.cells #[.slice a1 n1 c1, .slice a2 n2 c2, .slice a3 n3 c3, .slice a4 n4 c4, .int .i64 nx, .int .i64 sq, .slice a5 n5 c5, .int .i64 now, .slice a6 n6 c6, .slice a7 n7 c7] 34)) := by show _ = _; rw [hW7, heap_setCell_other _ _ _ _ HNv1v3.out]; exact HBv1_6.out
  have HBv2_7 : Hid ((w7).heap[qv2]? = some (.cells #[.slice none 0 0, .slice none 0 0, .slice none 0 0, .slice none 0 0, .int .i64 0, .int .i64 0, .slice none 0 0, .int .i64 0, .slice none 0 0, .slice none 0 0] 52)) := by show _ = _; rw [hW7, heap_setCell_other _ _ _ _ HNv2v3.out]; exact HBv2_6.out
  have ER_7 : Hid (RowsO (w7) w.heap.size (shAll (.slice oC cs.length pC) (.slice oP ws.length pP) (.slice oK kv.length pK) (.slice oB bl.length pB) kv cs ws bl)) := by show RowsO _ _ _; rw [hW7]; exact RowsO.other ER_6.out HBv3_6.out HT0.out
  have HBv3_7 : Hid ((w7).heap[qv3]? = some (.cells #[.slice oC cs.length pC, .slice oP ws.length pP, .slice oK kv.length pK, .slice none 0 0, .int .i64 0, .int .i64 0, .slice none 0 0, .int .i64 0, .slice none 0 0, .slice none 0 0] 52)) := by show _ = _; rw [hW7]; have h := heap_set _ _ 2 _ _ _ (.slice oK kv.length pK) HBv3_6.out; simpa using h
  clear hb6 HBv1_6 HBv2_6 HBv3_6 ER_6 hW7
  obtain ⟨w8, hW8⟩ : ∃ W, W = (w7).setCell ⟨qv3, 3, none⟩ (.slice oB bl.length pB) := ⟨_, rfl⟩
  rw [← hW8]
  have hb8 : Below w.heap.size w (w8) := by rw [hW8]; exact (hb7.setCell (p := ⟨qv3, 3, none⟩) HGv3.out _)
  have HBv1_8 : Hid ((w8).heap[qv1]? = some (.cells #[.slice a1 n1 c1, .slice a2 n2 c2, .slice a3 n3 c3, .slice a4 n4 c4, .int .i64 nx, .int .i64 sq, .slice a5 n5 c5, .int .i64 now, .slice a6 n6 c6, .slice a7 n7 c7] 34)) := by show _ = _; rw [hW8, heap_setCell_other _ _ _ _ HNv1v3.out]; exact HBv1_7.out
  have HBv2_8 : Hid ((w8).heap[qv2]? = some (.cells #[.slice none 0 0, .slice none 0 0, .slice none 0 0, .slice none 0 0, .int .i64 0, .int .i64 0, .slice none 0 0, .int .i64 0, .slice none 0 0, .slice none 0 0] 52)) := by show _ = _; rw [hW8, heap_setCell_other _ _ _ _ HNv2v3.out]; exact HBv2_7.out
  have ER_8 : Hid (RowsO (w8) w.heap.size (shAll (.slice oC cs.length pC) (.slice oP ws.length pP) (.slice oK kv.length pK) (.slice oB bl.length pB) kv cs ws bl)) := by show RowsO _ _ _; rw [hW8]; exact RowsO.other ER_7.out HBv3_7.out HT0.out
  have HBv3_8 : Hid ((w8).heap[qv3]? = some (.cells #[.slice oC cs.length pC, .slice oP ws.length pP, .slice oK kv.length pK, .slice oB bl.length pB, .int .i64 0, .int .i64 0, .slice none 0 0, .int .i64 0, .slice none 0 0, .slice none 0 0] 52)) := by show _ = _; rw [hW8]; have h := heap_set _ _ 3 _ _ _ (.slice oB bl.length pB) HBv3_7.out; simpa using h
  clear hb7 HBv1_7 HBv2_7 HBv3_7 ER_7 hW8
  obtain ⟨w9, hW9⟩ : ∃ W, W = (w8).setCell ⟨qv3, 4, none⟩ (.int .i64 nx) := ⟨_, rfl⟩
  rw [← hW9]
  have hb9 : Below w.heap.size w (w9) := by rw [hW9]; exact (hb8.setCell (p := ⟨qv3, 4, none⟩) HGv3.out _)
  have HBv1_9 : Hid ((w9).heap[qv1]? = some (.cells #[.slice a1 n1 c1, .slice a2 n2 c2, .slice a3 n3 c3, .slice a4 n4 c4, .int .i64 nx, .int .i64 sq, .slice a5 n5 c5, .int .i64 now, .slice a6 n6 c6, .slice a7 n7 c7] 34)) := by show _ = _; rw [hW9, heap_setCell_other _ _ _ _ HNv1v3.out]; exact HBv1_8.out
  have HBv2_9 : Hid ((w9).heap[qv2]? = some (.cells #[.slice none 0 0, .slice none 0 0, .slice none 0 0, .slice none 0 0, .int .i64 0, .int .i64 0, .slice none 0 0, .int .i64 0, .slice none 0 0, .slice none 0 0] 52)) := by show _ = _; rw [hW9, heap_setCell_other _ _ _ _ HNv2v3.out]; exact HBv2_8.out
  have ER_9 : Hid (RowsO (w9) w.heap.size (shAll (.slice oC cs.length pC) (.slice oP ws.length pP) (.slice oK kv.length pK) (.slice oB bl.length pB) kv cs ws bl)) := by show RowsO _ _ _; rw [hW9]; exact RowsO.other ER_8.out HBv3_8.out HT0.out
  have HBv3_9 : Hid ((w9).heap[qv3]? = some (.cells #[.slice oC cs.length pC, .slice oP ws.length pP, .slice oK kv.length pK, .slice oB bl.length pB, .int .i64 nx, .int .i64 0, .slice none 0 0, .int .i64 0, .slice none 0 0, .slice none 0 0] 52)) := by show _ = _; rw [hW9]; have h := heap_set _ _ 4 _ _ _ (.int .i64 nx) HBv3_8.out; simpa using h
  clear hb8 HBv1_8 HBv2_8 HBv3_8 ER_8 hW9
  obtain ⟨w10, hW10⟩ : ∃ W, W = (w9).setCell ⟨qv3, 5, none⟩ (.int .i64 sq) := ⟨_, rfl⟩
  rw [← hW10]
  have hb10 : Below w.heap.size w (w10) := by rw [hW10]; exact (hb9.setCell (p := ⟨qv3, 5, none⟩) HGv3.out _)
  have HBv1_10 : Hid ((w10).heap[qv1]? = some (.cells #[.slice a1 n1 c1, .slice a2 n2 c2, .slice a3 n3 c3, .slice a4 n4 c4, .int .i64 nx, .int .i64 sq, .slice a5 n5 c5, .int .i64 now, .slice a6 n6 c6, .slice a7 n7 c7] 34)) := by show _ = _; rw [hW10, heap_setCell_other _ _ _ _ HNv1v3.out]; exact HBv1_9.out
  have HBv2_10 : Hid ((w10).heap[qv2]? = some (.cells #[.slice none 0 0, .slice none 0 0, .slice none 0 0, .slice none 0 0, .int .i64 0, .int .i64 0, .slice none 0 0, .int .i64 0, .slice none 0 0, .slice none 0 0] 52)) := by show _ = _; rw [hW10, heap_setCell_other _ _ _ _ HNv2v3.out]; exact HBv2_9.out
  have ER_10 : Hid (RowsO (w10) w.heap.size (shAll (.slice oC cs.length pC) (.slice oP ws.length pP) (.slice oK kv.length pK) (.slice oB bl.length pB) kv cs ws bl)) := by show RowsO _ _ _; rw [hW10]; exact RowsO.other ER_9.out HBv3_9.out HT0.out
  have HBv3_10 : Hid ((w10).heap[qv3]? = some (.cells #[.slice oC cs.length pC, .slice oP ws.length pP, .slice oK kv.length pK, .slice oB bl.length pB, .int .i64 nx, .int .i64 sq, .slice none 0 0, .int .i64 0, .slice none 0 0, .slice none 0 0] 52)) := by show _ = _; rw [hW10]; have h := heap_set _ _ 5 _ _ _ (.int .i64 sq) HBv3_9.out; simpa using h
  clear hb9 HBv1_9 HBv2_9 HBv3_9 ER_9 hW10
  clear cv3_0 fcv3_0 cv3_1 fcv3_1 cv3_2 fcv3_2 cv3_3 fcv3_3 cv3_4 fcv3_4 cv3_5 fcv3_5
  have cv1_6 : (w10).cell? ⟨qv1, 6, none⟩ = some (.slice a5 n5 c5) := (cell_of HBv1_10.out 6).trans rfl
  go_wp2_with fail
  refine (toFlightS_any B a5 n5 c5 fl _ (HA5.out _ hb10) (HBB.out _ hb10) HN.out.e HN.out.fl).mono ?_
  rintro e w11 ⟨VF, fv, rfl, hfm, hfo, bw⟩
  have HFM : Hid (fv.map (·.d) = fl) := hfm
  obtain ⟨oF, pF, rfl⟩ := hfo.len
  have HRN : Hid (RowsO w11 w.heap.size (shAll (.slice oC cs.length pC) (.slice oP ws.length pP) (.slice oK kv.length pK) (.slice oB bl.length pB) kv cs ws bl ++ flAll (.slice oF fv.length pF) fv)) := ER_10.out.more bw hfo (Nat.le_refl _) hb10.size
  have HT1 : Hid (∀ r ∈ (shAll (.slice oC cs.length pC) (.slice oP ws.length pP) (.slice oK kv.length pK) (.slice oB bl.length pB) kv cs ws bl ++ flAll (.slice oF fv.length pF) fv), 52 ≠ r.T) := by
    intro r hr
    rcases List.mem_append.1 hr with hr | hr
    · exact HT0.out r hr
    · rcases flAll_T hr with e | e | e | e <;> rw [e] <;> decide
  have hb11 : Below w.heap.size w (w11) := hb10.trans (bw.mono hb10.size)
  have HBv1_11 : Hid ((w11).heap[qv1]? = some (.cells #[.slice a1 n1 c1, .slice a2 n2 c2, .slice a3 n3 c3, .slice a4 n4 c4, .int .i64 nx, .int .i64 sq, .slice a5 n5 c5, .int .i64 now, .slice a6 n6 c6, .slice a7 n7 c7] 34)) := blk_below HBv1_10.out bw
  have HBv2_11 : Hid ((w11).heap[qv2]? = some (.cells #[.slice none 0 0, .slice none 0 0, .slice none 0 0, .slice none 0 0, .int .i64 0, .int .i64 0, .slice none 0 0, .int .i64 0, .slice none 0 0, .slice none 0 0] 52)) := blk_below HBv2_10.out bw
  have HBv3_11 : Hid ((w11).heap[qv3]? = some (.cells #[.slice oC cs.length pC, .slice oP ws.length pP, .slice oK kv.length pK, .slice oB bl.length pB, .int .i64 nx, .int .i64 sq, .slice none 0 0, .int .i64 0, .slice none 0 0, .slice none 0 0] 52)) := blk_below HBv3_10.out bw
  have ER_11 : Hid (RowsO (w11) w.heap.size (shAll (.slice oC cs.length pC) (.slice oP ws.length pP) (.slice oK kv.length pK) (.slice oB bl.length pB) kv cs ws bl)) := ER_10.out.below bw
  clear hb10 HBv1_10 HBv2_10 HBv3_10 ER_10 bw
  clear ER_11
  have ER_11 : Hid (RowsO (w11) w.heap.size (shAll (.slice oC cs.length pC) (.slice oP ws.length pP) (.slice oK kv.length pK) (.slice oB bl.length pB) kv cs ws bl ++ flAll (.slice oF fv.length pF) fv)) := HRN.out
  clear HRN
  clear cv1_6
  have cv3_6 : (w11).cell? ⟨qv3, 6, none⟩ = some (.slice none 0 0) := (cell_of HBv3_11.out 6).trans rfl
  have fcv3_6 : (w11).frozen? ⟨qv3, 6, none⟩ = false := frozen_of HBv3_11.out 6
  go_upto_region 4 with fail
  obtain ⟨w12, hW12⟩ : ∃ W, W = (w11).setCell ⟨qv3, 6, none⟩ (.slice oF fv.length pF) := ⟨_, rfl⟩
  rw [← hW12]
  have hb12 : Below w.heap.size w (w12) := by rw [hW12]; exact (hb11.setCell (p := ⟨qv3, 6, none⟩) HGv3.out _)
  have HBv1_12 : Hid ((w12).heap[qv1]? = some (.cells #[.slice a1 n1 c1, .slice a2 n2 c2, .slice a3 n3 c3, .slice a4 n4 c4, .int .i64 nx, .int .i64 sq, .slice a5 n5 c5, .int .i64 now, .slice a6 n6 c6, .slice a7 n7 c7] 34)) := by show _ = _; rw [hW12, heap_setCell_other _ _ _ _ HNv1v3.out]; exact HBv1_11.out
  have HBv2_12 : Hid ((w12).heap[qv2]? = some (.cells #[.slice none 0 0, .slice none 0 0, .slice none 0 0, .slice none 0 0, .int .i64 0, .int .i64 0, .slice none 0 0, .int .i64 0, .slice none 0 0, .slice none 0 0] 52)) := by show _ = _; rw [hW12, heap_setCell_other _ _ _ _ HNv2v3.out]; exact HBv2_11.out
  have ER_12 : Hid (RowsO (w12) w.heap.size (shAll (.slice oC cs.length pC) (.slice oP ws.length pP) (.slice oK kv.length pK) (.slice oB bl.length pB) kv cs ws bl ++ flAll (.slice oF fv.length pF) fv)) := by show RowsO _ _ _; rw [hW12]; exact RowsO.other ER_11.out HBv3_11.out HT1.out
  have HBv3_12 : Hid ((w12).heap[qv3]? = some (.cells #[.slice oC cs.length pC, .slice oP ws.length pP, .slice oK kv.length pK, .slice oB bl.length pB, .int .i64 nx, .int .i64 sq, .slice oF fv.length pF, .int .i64 0, .slice none 0 0, .slice none 0 0] 52)) := by show _ = _; rw [hW12]; have h := heap_set _ _ 6 _ _ _ (.slice oF fv.length pF) HBv3_11.out; simpa using h
  clear hb11 HBv1_11 HBv2_11 HBv3_11 ER_11 hW12
  clear cv3_6 fcv3_6
  have cv1_7 : (w12).cell? ⟨qv1, 7, none⟩ = some (.int .i64 now) := (cell_of HBv1_12.out 7).trans rfl
  have cv3_7 : (w12).cell? ⟨qv3, 7, none⟩ = some (.int .i64 0) := (cell_of HBv3_12.out 7).trans rfl
  have fcv3_7 : (w12).frozen? ⟨qv3, 7, none⟩ = false := frozen_of HBv3_12.out 7
  go_upto_region 5 with fail
  obtain ⟨w13, hW13⟩ : ∃ W, W = (w12).setCell ⟨qv3, 7, none⟩ (.int .i64 now) := ⟨_, rfl⟩
  rw [← hW13]
  have hb13 : Below w.heap.size w (w13) := by rw [hW13]; exact (hb12.setCell (p := ⟨qv3, 7, none⟩) HGv3.out _)
  have HBv1_13 : Hid ((w13).heap[qv1]? = some (.cells #[.slice a1 n1 c1, .slice a2 n2 c2, .slice a3 n3 c3, .slice a4 n4 c4, .int .i64 nx, .int .i64 sq, .slice a5 n5 c5, .int .i64 now, .slice a6 n6 c6, .slice a7 n7 c7] 34)) := by show _ = _; rw [hW13, heap_setCell_other _ _ _ _ HNv1v3.out]; exact HBv1_12.out
  have HBv2_13 : Hid ((w13).heap[qv2]? = some (.cells #[.slice none 0 0, .slice none 0 0, .slice none 0 0, .slice none 0 0, .int .i64 0, .int .i64 0, .slice none 0 0, .int .i64 0, .slice none 0 0, .slice none 0 0] 52)) := by show _ = _; rw [hW13, heap_setCell_other _ _ _ _ HNv2v3.out]; exact HBv2_12.out
  have ER_13 : Hid (RowsO (w13) w.heap.size (shAll (.slice oC cs.length pC) (.slice oP ws.length pP) (.slice oK kv.length pK) (.slice oB bl.length pB) kv cs ws bl ++ flAll (.slice oF fv.length pF) fv)) := by show RowsO _ _ _; rw [hW13]; exact RowsO.other ER_12.out HBv3_12.out HT1.out
  have HBv3_13 : Hid ((w13).heap[qv3]? = some (.cells #[.slice oC cs.length pC, .slice oP ws.length pP, .slice oK kv.length pK, .slice oB bl.length pB, .int .i64 nx, .int .i64 sq, .slice oF fv.length pF, .int .i64 now, .slice none 0 0, .slice none 0 0] 52)) := by show _ = _; rw [hW13]; have h := heap_set _ _ 7 _ _ _ (.int .i64 now) HBv3_12.out; simpa using h
  clear hb12 HBv1_12 HBv2_12 HBv3_12 ER_12 hW13
  clear cv1_7 cv3_7 fcv3_7
  have cv1_8 : (w13).cell? ⟨qv1, 8, none⟩ = some (.slice a6 n6 c6) := (cell_of HBv1_13.out 8).trans rfl
  go_wp2_with fail
  refine (toSeenS_any B a6 n6 c6 se _ (HA6.out _ hb13) (HBB.out _ hb13) HN.out.f HN.out.se).mono ?_
  rintro e w14 ⟨VE, ev, rfl, hem, heo, bw⟩
  have HEM : Hid (ev.map (·.d) = se) := hem
  obtain ⟨oE, pE, rfl⟩ := heo.len
  have HRN : Hid (RowsO w14 w.heap.size ((shAll (.slice oC cs.length pC) (.slice oP ws.length pP) (.slice oK kv.length pK) (.slice oB bl.length pB) kv cs ws bl ++ flAll (.slice oF fv.length pF) fv) ++ seAll (.slice oE ev.length pE) ev)) := ER_13.out.more bw heo (Nat.le_refl _) hb13.size
  have HT2 : Hid (∀ r ∈ ((shAll (.slice oC cs.length pC) (.slice oP ws.length pP) (.slice oK kv.length pK) (.slice oB bl.length pB) kv cs ws bl ++ flAll (.slice oF fv.length pF) fv) ++ seAll (.slice oE ev.length pE) ev), 52 ≠ r.T) := by
    intro r hr
    rcases List.mem_append.1 hr with hr | hr
    · exact HT1.out r hr
    · rcases seAll_T hr with e | e <;> rw [e] <;> decide
  have hb14 : Below w.heap.size w (w14) := hb13.trans (bw.mono hb13.size)
  have HBv1_14 : Hid ((w14).heap[qv1]? = some (.cells #[.slice a1 n1 c1, .slice a2 n2 c2, .slice a3 n3 c3, .slice a4 n4 c4, .int .i64 nx, .int .i64 sq, .slice a5 n5 c5, .int .i64 now, .slice a6 n6 c6, .slice a7 n7 c7] 34)) := blk_below HBv1_13.out bw
  have HBv2_14 : Hid ((w14).heap[qv2]? = some (.cells #[.slice none 0 0, .slice none 0 0, .slice none 0 0, .slice none 0 0, .int .i64 0, .int .i64 0, .slice none 0 0, .int .i64 0, .slice none 0 0, .slice none 0 0] 52)) := blk_below HBv2_13.out bw
  have HBv3_14 : Hid ((w14).heap[qv3]? = some (.cells #[.slice oC cs.length pC, .slice oP ws.length pP, .slice oK kv.length pK, .slice oB bl.length pB, .int .i64 nx, .int .i64 sq, .slice oF fv.length pF, .int .i64 now, .slice none 0 0, .slice none 0 0] 52)) := blk_below HBv3_13.out bw
  have ER_14 : Hid (RowsO (w14) w.heap.size (shAll (.slice oC cs.length pC) (.slice oP ws.length pP) (.slice oK kv.length pK) (.slice oB bl.length pB) kv cs ws bl ++ flAll (.slice oF fv.length pF) fv)) := ER_13.out.below bw
  clear hb13 HBv1_13 HBv2_13 HBv3_13 ER_13 bw
  clear ER_14
  have ER_14 : Hid (RowsO (w14) w.heap.size ((shAll (.slice oC cs.length pC) (.slice oP ws.length pP) (.slice oK kv.length pK) (.slice oB bl.length pB) kv cs ws bl ++ flAll (.slice oF fv.length pF) fv) ++ seAll (.slice oE ev.length pE) ev)) := HRN.out
  clear HRN
  clear cv1_8
  have cv3_8 : (w14).cell? ⟨qv3, 8, none⟩ = some (.slice none 0 0) := (cell_of HBv3_14.out 8).trans rfl
  have fcv3_8 : (w14).frozen? ⟨qv3, 8, none⟩ = false := frozen_of HBv3_14.out 8
  go_upto_region 6 with fail
  obtain ⟨w15, hW15⟩ : ∃ W, W = (w14).setCell ⟨qv3, 8, none⟩ (.slice oE ev.length pE) := ⟨_, rfl⟩
  rw [← hW15]
  have hb15 : Below w.heap.size w (w15) := by rw [hW15]; exact (hb14.setCell (p := ⟨qv3, 8, none⟩) HGv3.out _)
  have HBv1_15 : Hid ((w15).heap[qv1]? = some (.cells #[.slice a1 n1 c1, .slice a2 n2 c2, .slice a3 n3 c3, .slice a4 n4 c4, .int .i64 nx, .int .i64 sq, .slice a5 n5 c5, .int .i64 now, .slice a6 n6 c6, .slice a7 n7 c7] 34)) := by show _ = _; rw [hW15, heap_setCell_other _ _ _ _ HNv1v3.out]; exact HBv1_14.out
  have HBv2_15 : Hid ((w15).heap[qv2]? = some (.cells #[.slice none 0 0, .slice none 0 0, .slice none 0 0, .slice none 0 0, .int .i64 0, .int .i64 0, .slice none 0 0, .int .i64 0, .slice none 0 0, .slice none 0 0] 52)) := by show _ = _; rw [hW15, heap_setCell_other _ _ _ _ HNv2v3.out]; exact HBv2_14.out
  have ER_15 : Hid (RowsO (w15) w.heap.size ((shAll (.slice oC cs.length pC) (.slice oP ws.length pP) (.slice oK kv.length pK) (.slice oB bl.length pB) kv cs ws bl ++ flAll (.slice oF fv.length pF) fv) ++ seAll (.slice oE ev.length pE) ev)) := by show RowsO _ _ _; rw [hW15]; exact RowsO.other ER_14.out HBv3_14.out HT2.out
  have HBv3_15 : Hid ((w15).heap[qv3]? = some (.cells #[.slice oC cs.length pC, .slice oP ws.length pP, .slice oK kv.length pK, .slice oB bl.length pB, .int .i64 nx, .int .i64 sq, .slice oF fv.length pF, .int .i64 now, .slice oE ev.length pE, .slice none 0 0] 52)) := by show _ = _; rw [hW15]; have h := heap_set _ _ 8 _ _ _ (.slice oE ev.length pE) HBv3_14.out; simpa using h
  clear hb14 HBv1_14 HBv2_14 HBv3_14 ER_14 hW15
  clear cv3_8 fcv3_8
  have cv1_9 : (w15).cell? ⟨qv1, 9, none⟩ = some (.slice a7 n7 c7) := (cell_of HBv1_15.out 9).trans rfl
  go_wp2_with fail
  refine (toReplyS_any B a7 n7 c7 sn _ (HA7.out _ hb15) (HBB.out _ hb15) HN.out.g HN.out.sn).mono ?_
  rintro e w16 ⟨VR, rv, rfl, hrm, hro, bw⟩
  have HRM : Hid (rv.map (·.d) = sn) := hrm
  obtain ⟨oR, pR, rfl⟩ := hro.len
  have HRN : Hid (RowsO w16 w.heap.size (((shAll (.slice oC cs.length pC) (.slice oP ws.length pP) (.slice oK kv.length pK) (.slice oB bl.length pB) kv cs ws bl ++ flAll (.slice oF fv.length pF) fv) ++ seAll (.slice oE ev.length pE) ev) ++ rpAll (.slice oR rv.length pR) rv)) := ER_15.out.more bw hro (Nat.le_refl _) hb15.size
  have HT3 : Hid (∀ r ∈ (((shAll (.slice oC cs.length pC) (.slice oP ws.length pP) (.slice oK kv.length pK) (.slice oB bl.length pB) kv cs ws bl ++ flAll (.slice oF fv.length pF) fv) ++ seAll (.slice oE ev.length pE) ev) ++ rpAll (.slice oR rv.length pR) rv), 52 ≠ r.T) := by
    intro r hr
    rcases List.mem_append.1 hr with hr | hr
    · exact HT2.out r hr
    · rcases rpAll_T hr with e | e | e <;> rw [e] <;> decide
  have hb16 : Below w.heap.size w (w16) := hb15.trans (bw.mono hb15.size)
  have HBv1_16 : Hid ((w16).heap[qv1]? = some (.cells #[.slice a1 n1 c1, .slice a2 n2 c2, .slice a3 n3 c3, .slice a4 n4 c4, .int .i64 nx, .int .i64 sq, .slice a5 n5 c5, .int .i64 now, .slice a6 n6 c6, .slice a7 n7 c7] 34)) := blk_below HBv1_15.out bw
  have HBv2_16 : Hid ((w16).heap[qv2]? = some (.cells #[.slice none 0 0, .slice none 0 0, .slice none 0 0, .slice none 0 0, .int .i64 0, .int .i64 0, .slice none 0 0, .int .i64 0, .slice none 0 0, .slice none 0 0] 52)) := blk_below HBv2_15.out bw
  have HBv3_16 : Hid ((w16).heap[qv3]? = some (.cells #[.slice oC cs.length pC, .slice oP ws.length pP, .slice oK kv.length pK, .slice oB bl.length pB, .int .i64 nx, .int .i64 sq, .slice oF fv.length pF, .int .i64 now, .slice oE ev.length pE, .slice none 0 0] 52)) := blk_below HBv3_15.out bw
  have ER_16 : Hid (RowsO (w16) w.heap.size ((shAll (.slice oC cs.length pC) (.slice oP ws.length pP) (.slice oK kv.length pK) (.slice oB bl.length pB) kv cs ws bl ++ flAll (.slice oF fv.length pF) fv) ++ seAll (.slice oE ev.length pE) ev)) := ER_15.out.below bw
  clear hb15 HBv1_15 HBv2_15 HBv3_15 ER_15 bw
  clear ER_16
  have ER_16 : Hid (RowsO (w16) w.heap.size (((shAll (.slice oC cs.length pC) (.slice oP ws.length pP) (.slice oK kv.length pK) (.slice oB bl.length pB) kv cs ws bl ++ flAll (.slice oF fv.length pF) fv) ++ seAll (.slice oE ev.length pE) ev) ++ rpAll (.slice oR rv.length pR) rv)) := HRN.out
  clear HRN
  clear cv1_9
  have cv3_9 : (w16).cell? ⟨qv3, 9, none⟩ = some (.slice none 0 0) := (cell_of HBv3_16.out 9).trans rfl
  have fcv3_9 : (w16).frozen? ⟨qv3, 9, none⟩ = false := frozen_of HBv3_16.out 9
  go_upto_region 7 with fail
  obtain ⟨w17, hW17⟩ : ∃ W, W = (w16).setCell ⟨qv3, 9, none⟩ (.slice oR rv.length pR) := ⟨_, rfl⟩
  rw [← hW17]
  have hb17 : Below w.heap.size w (w17) := by rw [hW17]; exact (hb16.setCell (p := ⟨qv3, 9, none⟩) HGv3.out _)
  have HBv1_17 : Hid ((w17).heap[qv1]? = some (.cells #[.slice a1 n1 c1, .slice a2 n2 c2, .slice a3 n3 c3, .slice a4 n4 c4, .int .i64 nx, .int .i64 sq, .slice a5 n5 c5, .int .i64 now, .slice a6 n6 c6, .slice a7 n7 c7] 34)) := by show _ = _; rw [hW17, heap_setCell_other _ _ _ _ HNv1v3.out]; exact HBv1_16.out
  have HBv2_17 : Hid ((w17).heap[qv2]? = some (.cells #[.slice none 0 0, .slice none 0 0, .slice none 0 0, .slice none 0 0, .int .i64 0, .int .i64 0, .slice none 0 0, .int .i64 0, .slice none 0 0, .slice none 0 0] 52)) := by show _ = _; rw [hW17, heap_setCell_other _ _ _ _ HNv2v3.out]; exact HBv2_16.out
  have ER_17 : Hid (RowsO (w17) w.heap.size (((shAll (.slice oC cs.length pC) (.slice oP ws.length pP) (.slice oK kv.length pK) (.slice oB bl.length pB) kv cs ws bl ++ flAll (.slice oF fv.length pF) fv) ++ seAll (.slice oE ev.length pE) ev) ++ rpAll (.slice oR rv.length pR) rv)) := by show RowsO _ _ _; rw [hW17]; exact RowsO.other ER_16.out HBv3_16.out HT3.out
  have HBv3_17 : Hid ((w17).heap[qv3]? = some (.cells #[.slice oC cs.length pC, .slice oP ws.length pP, .slice oK kv.length pK, .slice oB bl.length pB, .int .i64 nx, .int .i64 sq, .slice oF fv.length pF, .int .i64 now, .slice oE ev.length pE, .slice oR rv.length pR] 52)) := by show _ = _; rw [hW17]; have h := heap_set _ _ 9 _ _ _ (.slice oR rv.length pR) HBv3_16.out; simpa using h
  clear hb16 HBv1_16 HBv2_16 HBv3_16 ER_16 hW17
  clear cv3_9 fcv3_9
  have cv2_0 : (w17).cell? ⟨qv2, 0, none⟩ = some (.slice none 0 0) := (cell_of HBv2_17.out 0).trans rfl
  have fcv2_0 : (w17).frozen? ⟨qv2, 0, none⟩ = false := frozen_of HBv2_17.out 0
  have cv2_1 : (w17).cell? ⟨qv2, 1, none⟩ = some (.slice none 0 0) := (cell_of HBv2_17.out 1).trans rfl
  have fcv2_1 : (w17).frozen? ⟨qv2, 1, none⟩ = false := frozen_of HBv2_17.out 1
  have cv2_2 : (w17).cell? ⟨qv2, 2, none⟩ = some (.slice none 0 0) := (cell_of HBv2_17.out 2).trans rfl
  have fcv2_2 : (w17).frozen? ⟨qv2, 2, none⟩ = false := frozen_of HBv2_17.out 2
  have cv2_3 : (w17).cell? ⟨qv2, 3, none⟩ = some (.slice none 0 0) := (cell_of HBv2_17.out 3).trans rfl
  have fcv2_3 : (w17).frozen? ⟨qv2, 3, none⟩ = false := frozen_of HBv2_17.out 3
  have cv2_4 : (w17).cell? ⟨qv2, 4, none⟩ = some (.int .i64 0) := (cell_of HBv2_17.out 4).trans rfl
  have fcv2_4 : (w17).frozen? ⟨qv2, 4, none⟩ = false := frozen_of HBv2_17.out 4
  have cv2_5 : (w17).cell? ⟨qv2, 5, none⟩ = some (.int .i64 0) := (cell_of HBv2_17.out 5).trans rfl
  have fcv2_5 : (w17).frozen? ⟨qv2, 5, none⟩ = false := frozen_of HBv2_17.out 5
  have cv2_6 : (w17).cell? ⟨qv2, 6, none⟩ = some (.slice none 0 0) := (cell_of HBv2_17.out 6).trans rfl
  have fcv2_6 : (w17).frozen? ⟨qv2, 6, none⟩ = false := frozen_of HBv2_17.out 6
  have cv2_7 : (w17).cell? ⟨qv2, 7, none⟩ = some (.int .i64 0) := (cell_of HBv2_17.out 7).trans rfl
  have fcv2_7 : (w17).frozen? ⟨qv2, 7, none⟩ = false := frozen_of HBv2_17.out 7
  have cv2_8 : (w17).cell? ⟨qv2, 8, none⟩ = some (.slice none 0 0) := (cell_of HBv2_17.out 8).trans rfl
  have fcv2_8 : (w17).frozen? ⟨qv2, 8, none⟩ = false := frozen_of HBv2_17.out 8
  have cv2_9 : (w17).cell? ⟨qv2, 9, none⟩ = some (.slice none 0 0) := (cell_of HBv2_17.out 9).trans rfl
  have fcv2_9 : (w17).frozen? ⟨qv2, 9, none⟩ = false := frozen_of HBv2_17.out 9
  have cv3_0 : (w17).cell? ⟨qv3, 0, none⟩ = some (.slice oC cs.length pC) := (cell_of HBv3_17.out 0).trans rfl
  have cv3_1 : (w17).cell? ⟨qv3, 1, none⟩ = some (.slice oP ws.length pP) := (cell_of HBv3_17.out 1).trans rfl
  have cv3_2 : (w17).cell? ⟨qv3, 2, none⟩ = some (.slice oK kv.length pK) := (cell_of HBv3_17.out 2).trans rfl
  have cv3_3 : (w17).cell? ⟨qv3, 3, none⟩ = some (.slice oB bl.length pB) := (cell_of HBv3_17.out 3).trans rfl
  have cv3_4 : (w17).cell? ⟨qv3, 4, none⟩ = some (.int .i64 nx) := (cell_of HBv3_17.out 4).trans rfl
  have cv3_5 : (w17).cell? ⟨qv3, 5, none⟩ = some (.int .i64 sq) := (cell_of HBv3_17.out 5).trans rfl
  have cv3_6 : (w17).cell? ⟨qv3, 6, none⟩ = some (.slice oF fv.length pF) := (cell_of HBv3_17.out 6).trans rfl
  have cv3_7 : (w17).cell? ⟨qv3, 7, none⟩ = some (.int .i64 now) := (cell_of HBv3_17.out 7).trans rfl
  have cv3_8 : (w17).cell? ⟨qv3, 8, none⟩ = some (.slice oE ev.length pE) := (cell_of HBv3_17.out 8).trans rfl
  have cv3_9 : (w17).cell? ⟨qv3, 9, none⟩ = some (.slice oR rv.length pR) := (cell_of HBv3_17.out 9).trans rfl
  go_wp2_with fail
  obtain ⟨w18, hW18⟩ : ∃ W, W = (w17).setCell ⟨qv2, 0, none⟩ (.slice oC cs.length pC) := ⟨_, rfl⟩
  rw [← hW18]
  have hb18 : Below w.heap.size w (w18) := by rw [hW18]; exact (hb17.setCell (p := ⟨qv2, 0, none⟩) HGv2.out _)
  have HBv1_18 : Hid ((w18).heap[qv1]? = some (.cells #[.slice a1 n1 c1, .slice a2 n2 c2, .slice a3 n3 c3, .slice a4 n4 c4, .int .i64 nx, .int .i64 sq, .slice a5 n5 c5, .int .i64 now, .slice a6 n6 c6, .slice a7 n7 c7] 34)) := by show _ = _; rw [hW18, heap_setCell_other _ _ _ _ HNv1v2.out]; exact HBv1_17.out
  have HBv3_18 : Hid ((w18).heap[qv3]? = some (.cells #[.slice oC cs.length pC, .slice oP ws.length pP, .slice oK kv.length pK, .slice oB bl.length pB, .int .i64 nx, .int .i64 sq, .slice oF fv.length pF, .int .i64 now, .slice oE ev.length pE, .slice oR rv.length pR] 52)) := by show _ = _; rw [hW18, heap_setCell_other _ _ _ _ HNv2v3.out.symm]; exact HBv3_17.out
  have ER_18 : Hid (RowsO (w18) w.heap.size (((shAll (.slice oC cs.length pC) (.slice oP ws.length pP) (.slice oK kv.length pK) (.slice oB bl.length pB) kv cs ws bl ++ flAll (.slice oF fv.length pF) fv) ++ seAll (.slice oE ev.length pE) ev) ++ rpAll (.slice oR rv.length pR) rv)) := by show RowsO _ _ _; rw [hW18]; exact RowsO.other ER_17.out HBv2_17.out HT3.out
  have HBv2_18 : Hid ((w18).heap[qv2]? = some (.cells #[.slice oC cs.length pC, .slice none 0 0, .slice none 0 0, .slice none 0 0, .int .i64 0, .int .i64 0, .slice none 0 0, .int .i64 0, .slice none 0 0, .slice none 0 0] 52)) := by show _ = _; rw [hW18]; have h := heap_set _ _ 0 _ _ _ (.slice oC cs.length pC) HBv2_17.out; simpa using h
  clear hb17 HBv1_17 HBv2_17 HBv3_17 ER_17 hW18
  obtain ⟨w19, hW19⟩ : ∃ W, W = (w18).setCell ⟨qv2, 1, none⟩ (.slice oP ws.length pP) := ⟨_, rfl⟩
  rw [← hW19]
  have hb19 : Below w.heap.size w (w19) := by rw [hW19]; exact (hb18.setCell (p := ⟨qv2, 1, none⟩) HGv2.out _)
  have HBv1_19 : Hid ((w19).heap[qv1]? = some (.cells #[.slice a1 n1 c1, .slice a2 n2 c2, .slice a3 n3 c3, .slice a4 n4 c4, .int .i64 nx, .int .i64 sq, .slice a5 n5 c5, .int .i64 now, .slice a6 n6 c6, .slice a7 n7 c7] 34)) := by show _ = _; rw [hW19, heap_setCell_other _ _ _ _ HNv1v2.out]; exact HBv1_18.out
  have HBv3_19 : Hid ((w19).heap[qv3]? = some (.cells #[.slice oC cs.length pC, .slice oP ws.length pP, .slice oK kv.length pK, .slice oB bl.length pB, .int .i64 nx, .int .i64 sq, .slice oF fv.length pF, .int .i64 now, .slice oE ev.length pE, .slice oR rv.length pR] 52)) := by show _ = _; rw [hW19, heap_setCell_other _ _ _ _ HNv2v3.out.symm]; exact HBv3_18.out
  have ER_19 : Hid (RowsO (w19) w.heap.size (((shAll (.slice oC cs.length pC) (.slice oP ws.length pP) (.slice oK kv.length pK) (.slice oB bl.length pB) kv cs ws bl ++ flAll (.slice oF fv.length pF) fv) ++ seAll (.slice oE ev.length pE) ev) ++ rpAll (.slice oR rv.length pR) rv)) := by show RowsO _ _ _; rw [hW19]; exact RowsO.other ER_18.out HBv2_18.out HT3.out
  have HBv2_19 : Hid ((w19).heap[qv2]? = some (.cells #[.slice oC cs.length pC, .slice oP ws.length pP, .slice none 0 0, .slice none 0 0, .int .i64 0, .int .i64 0, .slice none 0 0, .int .i64 0, .slice none 0 0, .slice none 0 0] 52)) := by show _ = _; rw [hW19]; have h := heap_set _ _ 1 _ _ _ (.slice oP ws.length pP) HBv2_18.out; simpa using h
  clear hb18 HBv1_18 HBv2_18 HBv3_18 ER_18 hW19
  obtain ⟨w20, hW20⟩ : ∃ W, W = (w19).setCell ⟨qv2, 2, none⟩ (.slice oK kv.length pK) := ⟨_, rfl⟩
  rw [← hW20]
  have hb20 : Below w.heap.size w (w20) := by rw [hW20]; exact (hb19.setCell (p := ⟨qv2, 2, none⟩) HGv2.out _)
  have HBv1_20 : Hid ((w20).heap[qv1]? = some (.cells #[.slice a1 n1 c1, .slice a2 n2 c2, .slice a3 n3 c3, .slice a4 n4 c4, .int .i64 nx, .int .i64 sq, .slice a5 n5 c5, .int .i64 now, .slice a6 n6 c6, .slice a7 n7 c7] 34)) := by show _ = _; rw [hW20, heap_setCell_other _ _ _ _ HNv1v2.out]; exact HBv1_19.out
  have HBv3_20 : Hid ((w20).heap[qv3]? = some (.cells #[.slice oC cs.length pC, .slice oP ws.length pP, .slice oK kv.length pK, .slice oB bl.length pB, .int .i64 nx, .int .i64 sq, .slice oF fv.length pF, .int .i64 now, .slice oE ev.length pE, .slice oR rv.length pR] 52)) := by show _ = _; rw [hW20, heap_setCell_other _ _ _ _ HNv2v3.out.symm]; exact HBv3_19.out
  have ER_20 : Hid (RowsO (w20) w.heap.size (((shAll (.slice oC cs.length pC) (.slice oP ws.length pP) (.slice oK kv.length pK) (.slice oB bl.length pB) kv cs ws bl ++ flAll (.slice oF fv.length pF) fv) ++ seAll (.slice oE ev.length pE) ev) ++ rpAll (.slice oR rv.length pR) rv)) := by show RowsO _ _ _; rw [hW20]; exact RowsO.other ER_19.out HBv2_19.out HT3.out
  have HBv2_20 : Hid ((w20).heap[qv2]? = some (.cells #[.slice oC cs.length pC, .slice oP ws.length pP, .slice oK kv.length pK, .slice none 0 0, .int .i64 0, .int .i64 0, .slice none 0 0, .int .i64 0, .slice none 0 0, .slice none 0 0] 52)) := by show _ = _; rw [hW20]; have h := heap_set _ _ 2 _ _ _ (.slice oK kv.length pK) HBv2_19.out; simpa using h
  clear hb19 HBv1_19 HBv2_19 HBv3_19 ER_19 hW20
  obtain ⟨w21, hW21⟩ : ∃ W, W = (w20).setCell ⟨qv2, 3, none⟩ (.slice oB bl.length pB) := ⟨_, rfl⟩
  rw [← hW21]
  have hb21 : Below w.heap.size w (w21) := by rw [hW21]; exact (hb20.setCell (p := ⟨qv2, 3, none⟩) HGv2.out _)
  have HBv1_21 : Hid ((w21).heap[qv1]? = some (.cells #[.slice a1 n1 c1, .slice a2 n2 c2, .slice a3 n3 c3, .slice a4 n4 c4, .int .i64 nx, .int .i64 sq, .slice a5 n5 c5, .int .i64 now, .slice a6 n6 c6, .slice a7 n7 c7] 34)) := by show _ = _; rw [hW21, heap_setCell_other _ _ _ _ HNv1v2.out]; exact HBv1_20.out
  have HBv3_21 : Hid ((w21).heap[qv3]? = some (.cells #[.slice oC cs.length pC, .slice oP ws.length pP, .slice oK kv.length pK, .slice oB bl.length pB, .int .i64 nx, .int .i64 sq, .slice oF fv.length pF, .int .i64 now, .slice oE ev.length pE, .slice oR rv.length pR] 52)) := by show _ = _; rw [hW21, heap_setCell_other _ _ _ _ HNv2v3.out.symm]; exact HBv3_20.out
  have ER_21 : Hid (RowsO (w21) w.heap.size (((shAll (.slice oC cs.length pC) (.slice oP ws.length pP) (.slice oK kv.length pK) (.slice oB bl.length pB) kv cs ws bl ++ flAll (.slice oF fv.length pF) fv) ++ seAll (.slice oE ev.length pE) ev) ++ rpAll (.slice oR rv.length pR) rv)) := by show RowsO _ _ _; rw [hW21]; exact RowsO.other ER_20.out HBv2_20.out HT3.out
  have HBv2_21 : Hid ((w21).heap[qv2]? = some (.cells #[.slice oC cs.length pC, .slice oP ws.length pP, .slice oK kv.length pK, .slice oB bl.length pB, .int .i64 0, .int .i64 0, .slice none 0 0, .int .i64 0, .slice none 0 0, .slice none 0 0] 52)) := by show _ = _; rw [hW21]; have h := heap_set _ _ 3 _ _ _ (.slice oB bl.length pB) HBv2_20.out; simpa using h
  clear hb20 HBv1_20 HBv2_20 HBv3_20 ER_20 hW21
  obtain ⟨w22, hW22⟩ : ∃ W, W = (w21).setCell ⟨qv2, 4, none⟩ (.int .i64 nx) := ⟨_, rfl⟩
  rw [← hW22]
  have hb22 : Below w.heap.size w (w22) := by rw [hW22]; exact (hb21.setCell (p := ⟨qv2, 4, none⟩) HGv2.out _)
  have HBv1_22 : Hid ((w22).heap[qv1]? = some (.cells #[.slice a1 n1 c1, .slice a2 n2 c2, .slice a3 n3 c3, .slice a4 n4 c4, .int .i64 nx, .int .i64 sq, .slice a5 n5 c5, .int .i64 now, .slice a6 n6 c6, .slice a7 n7 c7] 34)) := by show _ = _; rw [hW22, heap_setCell_other _ _ _ _ HNv1v2.out]; exact HBv1_21.out
  have HBv3_22 : Hid ((w22).heap[qv3]? = some (.cells #[.slice oC cs.length pC, .slice oP ws.length pP, .slice oK kv.length pK, .slice oB bl.length pB, .int .i64 nx, .int .i64 sq, .slice oF fv.length pF, .int .i64 now, .slice oE ev.length pE, .slice oR rv.length pR] 52)) := by show _ = _; rw [hW22, heap_setCell_other _ _ _ _ HNv2v3.out.symm]; exact HBv3_21.out
  have ER_22 : Hid (RowsO (w22) w.heap.size (((shAll (.slice oC cs.length pC) (.slice oP ws.length pP) (.slice oK kv.length pK) (.slice oB bl.length pB) kv cs ws bl ++ flAll (.slice oF fv.length pF) fv) ++ seAll (.slice oE ev.length pE) ev) ++ rpAll (.slice oR rv.length pR) rv)) := by show RowsO _ _ _; rw [hW22]; exact RowsO.other ER_21.out HBv2_21.out HT3.out
  have HBv2_22 : Hid ((w22).heap[qv2]? = some (.cells #[.slice oC cs.length pC, .slice oP ws.length pP, .slice oK kv.length pK, .slice oB bl.length pB, .int .i64 nx, .int .i64 0, .slice none 0 0, .int .i64 0, .slice none 0 0, .slice none 0 0] 52)) := by show _ = _; rw [hW22]; have h := heap_set _ _ 4 _ _ _ (.int .i64 nx) HBv2_21.out; simpa using h
  clear hb21 HBv1_21 HBv2_21 HBv3_21 ER_21 hW22
  obtain ⟨w23, hW23⟩ : ∃ W, W = (w22).setCell ⟨qv2, 5, none⟩ (.int .i64 sq) := ⟨_, rfl⟩
  rw [← hW23]
  have hb23 : Below w.heap.size w (w23) := by rw [hW23]; exact (hb22.setCell (p := ⟨qv2, 5, none⟩) HGv2.out _)
  have HBv1_23 : Hid ((w23).heap[qv1]? = some (.cells #[.slice a1 n1 c1, .slice a2 n2 c2, .slice a3 n3 c3, .slice a4 n4 c4, .int .i64 nx, .int .i64 sq, .slice a5 n5 c5, .int .i64 now, .slice a6 n6 c6, .slice a7 n7 c7] 34)) := by show _ = _; rw [hW23, heap_setCell_other _ _ _ _ HNv1v2.out]; exact HBv1_22.out
  have HBv3_23 : Hid ((w23).heap[qv3]? = some (.cells #[.slice oC cs.length pC, .slice oP ws.length pP, .slice oK kv.length pK, .slice oB bl.length pB, .int .i64 nx, .int .i64 sq, .slice oF fv.length pF, .int .i64 now, .slice oE ev.length pE, .slice oR rv.length pR] 52)) := by show _ = _; rw [hW23, heap_setCell_other _ _ _ _ HNv2v3.out.symm]; exact HBv3_22.out
  have ER_23 : Hid (RowsO (w23) w.heap.size (((shAll (.slice oC cs.length pC) (.slice oP ws.length pP) (.slice oK kv.length pK) (.slice oB bl.length pB) kv cs ws bl ++ flAll (.slice oF fv.length pF) fv) ++ seAll (.slice oE ev.length pE) ev) ++ rpAll (.slice oR rv.length pR) rv)) := by show RowsO _ _ _; rw [hW23]; exact RowsO.other ER_22.out HBv2_22.out HT3.out
  have HBv2_23 : Hid ((w23).heap[qv2]? = some (.cells #[.slice oC cs.length pC, .slice oP ws.length pP, .slice oK kv.length pK, .slice oB bl.length pB, .int .i64 nx, .int .i64 sq, .slice none 0 0, .int .i64 0, .slice none 0 0, .slice none 0 0] 52)) := by show _ = _; rw [hW23]; have h := heap_set _ _ 5 _ _ _ (.int .i64 sq) HBv2_22.out; simpa using h
  clear hb22 HBv1_22 HBv2_22 HBv3_22 ER_22 hW23
  obtain ⟨w24, hW24⟩ : ∃ W, W = (w23).setCell ⟨qv2, 6, none⟩ (.slice oF fv.length pF) := ⟨_, rfl⟩
  rw [← hW24]
  have hb24 : Below w.heap.size w (w24) := by rw [hW24]; exact (hb23.setCell (p := ⟨qv2, 6, none⟩) HGv2.out _)
  have HBv1_24 : Hid ((w24).heap[qv1]? = some (.cells #[.slice a1 n1 c1, .slice a2 n2 c2, .slice a3 n3 c3, .slice a4 n4 c4, .int .i64 nx, .int .i64 sq, .slice a5 n5 c5, .int .i64 now, .slice a6 n6 c6, .slice a7 n7 c7] 34)) := by show _ = _; rw [hW24, heap_setCell_other _ _ _ _ HNv1v2.out]; exact HBv1_23.out
  have HBv3_24 : Hid ((w24).heap[qv3]? = some (.cells #[.slice oC cs.length pC, .slice oP ws.length pP, .slice oK kv.length pK, .slice oB bl.length pB, .int .i64 nx, .int .i64 sq, .slice oF fv.length pF, .int .i64 now, .slice oE ev.length pE, .slice oR rv.length pR] 52)) := by show _ = _; rw [hW24, heap_setCell_other _ _ _ _ HNv2v3.out.symm]; exact HBv3_23.out
  have ER_24 : Hid (RowsO (w24) w.heap.size (((shAll (.slice oC cs.length pC) (.slice oP ws.length pP) (.slice oK kv.length pK) (.slice oB bl.length pB) kv cs ws bl ++ flAll (.slice oF fv.length pF) fv) ++ seAll (.slice oE ev.length pE) ev) ++ rpAll (.slice oR rv.length pR) rv)) := by show RowsO _ _ _; rw [hW24]; exact RowsO.other ER_23.out HBv2_23.out HT3.out
  have HBv2_24 : Hid ((w24).heap[qv2]? = some (.cells #[.slice oC cs.length pC, .slice oP ws.length pP, .slice oK kv.length pK, .slice oB bl.length pB, .int .i64 nx, .int .i64 sq, .slice oF fv.length pF, .int .i64 0, .slice none 0 0, .slice none 0 0] 52)) := by show _ = _; rw [hW24]; have h := heap_set _ _ 6 _ _ _ (.slice oF fv.length pF) HBv2_23.out; simpa using h
  clear hb23 HBv1_23 HBv2_23 HBv3_23 ER_23 hW24
  obtain ⟨w25, hW25⟩ : ∃ W, W = (w24).setCell ⟨qv2, 7, none⟩ (.int .i64 now) := ⟨_, rfl⟩
  rw [← hW25]
  have hb25 : Below w.heap.size w (w25) := by rw [hW25]; exact (hb24.setCell (p := ⟨qv2, 7, none⟩) HGv2.out _)
  have HBv1_25 : Hid ((w25).heap[qv1]? = some (.cells #[.slice a1 n1 c1, .slice a2 n2 c2, .slice a3 n3 c3, .slice a4 n4 c4, .int .i64 nx, .int .i64 sq, .slice a5 n5 c5, .int .i64 now, .slice a6 n6 c6, .slice a7 n7 c7] 34)) := by show _ = _; rw [hW25, heap_setCell_other _ _ _ _ HNv1v2.out]; exact HBv1_24.out
  have HBv3_25 : Hid ((w25).heap[qv3]? = some (.cells #[.slice oC cs.length pC, .slice oP ws.length pP, .slice oK kv.length pK, .slice oB bl.length pB, .int .i64 nx, .int .i64 sq, .slice oF fv.length pF, .int .i64 now, .slice oE ev.length pE, .slice oR rv.length pR] 52)) := by show _ = _; rw [hW25, heap_setCell_other _ _ _ _ HNv2v3.out.symm]; exact HBv3_24.out
  have ER_25 : Hid (RowsO (w25) w.heap.size (((shAll (.slice oC cs.length pC) (.slice oP ws.length pP) (.slice oK kv.length pK) (.slice oB bl.length pB) kv cs ws bl ++ flAll (.slice oF fv.length pF) fv) ++ seAll (.slice oE ev.length pE) ev) ++ rpAll (.slice oR rv.length pR) rv)) := by show RowsO _ _ _; rw [hW25]; exact RowsO.other ER_24.out HBv2_24.out HT3.out
  have HBv2_25 : Hid ((w25).heap[qv2]? = some (.cells #[.slice oC cs.length pC, .slice oP ws.length pP, .slice oK kv.length pK, .slice oB bl.length pB, .int .i64 nx, .int .i64 sq, .slice oF fv.length pF, .int .i64 now, .slice none 0 0, .slice none 0 0] 52)) := by show _ = _; rw [hW25]; have h := heap_set _ _ 7 _ _ _ (.int .i64 now) HBv2_24.out; simpa using h
  clear hb24 HBv1_24 HBv2_24 HBv3_24 ER_24 hW25
  obtain ⟨w26, hW26⟩ : ∃ W, W = (w25).setCell ⟨qv2, 8, none⟩ (.slice oE ev.length pE) := ⟨_, rfl⟩
  rw [← hW26]
  have hb26 : Below w.heap.size w (w26) := by rw [hW26]; exact (hb25.setCell (p := ⟨qv2, 8, none⟩) HGv2.out _)
  have HBv1_26 : Hid ((w26).heap[qv1]? = some (.cells #[.slice a1 n1 c1, .slice a2 n2 c2, .slice a3 n3 c3, .slice a4 n4 c4, .int .i64 nx, .int .i64 sq, .slice a5 n5 c5, .int .i64 now, .slice a6 n6 c6, .slice a7 n7 c7] 34)) := by show _ = _; rw [hW26, heap_setCell_other _ _ _ _ HNv1v2.out]; exact HBv1_25.out
  have HBv3_26 : Hid ((w26).heap[qv3]? = some (.cells #[.slice oC cs.length pC, .slice oP ws.length pP, .slice oK kv.length pK, .slice oB bl.length pB, .int .i64 nx, .int .i64 sq, .slice oF fv.length pF, .int .i64 now, .slice oE ev.length pE, .slice oR rv.length pR] 52)) := by show _ = _; rw [hW26, heap_setCell_other _ _ _ _ HNv2v3.out.symm]; exact HBv3_25.out
  have ER_26 : Hid (RowsO (w26) w.heap.size (((shAll (.slice oC cs.length pC) (.slice oP ws.length pP) (.slice oK kv.length pK) (.slice oB bl.length pB) kv cs ws bl ++ flAll (.slice oF fv.length pF) fv) ++ seAll (.slice oE ev.length pE) ev) ++ rpAll (.slice oR rv.length pR) rv)) := by show RowsO _ _ _; rw [hW26]; exact RowsO.other ER_25.out HBv2_25.out HT3.out
  have HBv2_26 : Hid ((w26).heap[qv2]? = some (.cells #[.slice oC cs.length pC, .slice oP ws.length pP, .slice oK kv.length pK, .slice oB bl.length pB, .int .i64 nx, .int .i64 sq, .slice oF fv.length pF, .int .i64 now, .slice oE ev.length pE, .slice none 0 0] 52)) := by show _ = _; rw [hW26]; have h := heap_set _ _ 8 _ _ _ (.slice oE ev.length pE) HBv2_25.out; simpa using h
  clear hb25 HBv1_25 HBv2_25 HBv3_25 ER_25 hW26
  obtain ⟨w27, hW27⟩ : ∃ W, W = (w26).setCell ⟨qv2, 9, none⟩ (.slice oR rv.length pR) := ⟨_, rfl⟩
  rw [← hW27]
  have hb27 : Below w.heap.size w (w27) := by rw [hW27]; exact (hb26.setCell (p := ⟨qv2, 9, none⟩) HGv2.out _)
  have HBv1_27 : Hid ((w27).heap[qv1]? = some (.cells #[.slice a1 n1 c1, .slice a2 n2 c2, .slice a3 n3 c3, .slice a4 n4 c4, .int .i64 nx, .int .i64 sq, .slice a5 n5 c5, .int .i64 now, .slice a6 n6 c6, .slice a7 n7 c7] 34)) := by show _ = _; rw [hW27, heap_setCell_other _ _ _ _ HNv1v2.out]; exact HBv1_26.out
  have HBv3_27 : Hid ((w27).heap[qv3]? = some (.cells #[.slice oC cs.length pC, .slice oP ws.length pP, .slice oK kv.length pK, .slice oB bl.length pB, .int .i64 nx, .int .i64 sq, .slice oF fv.length pF, .int .i64 now, .slice oE ev.length pE, .slice oR rv.length pR] 52)) := by show _ = _; rw [hW27, heap_setCell_other _ _ _ _ HNv2v3.out.symm]; exact HBv3_26.out
  have ER_27 : Hid (RowsO (w27) w.heap.size (((shAll (.slice oC cs.length pC) (.slice oP ws.length pP) (.slice oK kv.length pK) (.slice oB bl.length pB) kv cs ws bl ++ flAll (.slice oF fv.length pF) fv) ++ seAll (.slice oE ev.length pE) ev) ++ rpAll (.slice oR rv.length pR) rv)) := by show RowsO _ _ _; rw [hW27]; exact RowsO.other ER_26.out HBv2_26.out HT3.out
  have HBv2_27 : Hid ((w27).heap[qv2]? = some (.cells #[.slice oC cs.length pC, .slice oP ws.length pP, .slice oK kv.length pK, .slice oB bl.length pB, .int .i64 nx, .int .i64 sq, .slice oF fv.length pF, .int .i64 now, .slice oE ev.length pE, .slice oR rv.length pR] 52)) := by show _ = _; rw [hW27]; have h := heap_set _ _ 9 _ _ _ (.slice oR rv.length pR) HBv2_26.out; simpa using h
  clear hb26 HBv1_26 HBv2_26 HBv3_26 ER_26 hW27
  have kv2_0 : (w27).cell? ⟨qv2, 0, none⟩ = some (.slice oC cs.length pC) := (cell_of HBv2_27.out 0).trans rfl
  have kv2_1 : (w27).cell? ⟨qv2, 1, none⟩ = some (.slice oP ws.length pP) := (cell_of HBv2_27.out 1).trans rfl
  have kv2_2 : (w27).cell? ⟨qv2, 2, none⟩ = some (.slice oK kv.length pK) := (cell_of HBv2_27.out 2).trans rfl
  have kv2_3 : (w27).cell? ⟨qv2, 3, none⟩ = some (.slice oB bl.length pB) := (cell_of HBv2_27.out 3).trans rfl
  have kv2_4 : (w27).cell? ⟨qv2, 4, none⟩ = some (.int .i64 nx) := (cell_of HBv2_27.out 4).trans rfl
  have kv2_5 : (w27).cell? ⟨qv2, 5, none⟩ = some (.int .i64 sq) := (cell_of HBv2_27.out 5).trans rfl
  have kv2_6 : (w27).cell? ⟨qv2, 6, none⟩ = some (.slice oF fv.length pF) := (cell_of HBv2_27.out 6).trans rfl
  have kv2_7 : (w27).cell? ⟨qv2, 7, none⟩ = some (.int .i64 now) := (cell_of HBv2_27.out 7).trans rfl
  have kv2_8 : (w27).cell? ⟨qv2, 8, none⟩ = some (.slice oE ev.length pE) := (cell_of HBv2_27.out 8).trans rfl
  have kv2_9 : (w27).cell? ⟨qv2, 9, none⟩ = some (.slice oR rv.length pR) := (cell_of HBv2_27.out 9).trans rfl
  refine bodyPost_ret (v := .agg #[.slice oC cs.length pC, .slice oP ws.length pP, .slice oK kv.length pK, .slice oB bl.length pB, .int .i64 nx, .int .i64 sq, .slice oF fv.length pF, .int .i64 now, .slice oE ev.length pE, .slice oR rv.length pR]) (by simp [results, Tryz.results6, go_sem, kv2_0, kv2_1, kv2_2, kv2_3, kv2_4, kv2_5, kv2_6, kv2_7, kv2_8, kv2_9]) rfl ?_
  exact ⟨_, _, _, _, _, _, _, kv, fv, ev, rv, rfl, ⟨ER_27.out, HKM.out, HFM.out, HEM.out, HRM.out⟩, hb27⟩

/-- A cache's measure: negative, or what is left of L. -/
def SzCache (L : Int) (n1 : Nat) (cs : List ByteArray) (n2 : Nat) (ws : List (Int × ByteArray)) (ks : List KpD) (n4 : Nat) (bl : List (Int × ByteArray × ByteArray × Int)) (fl : List FlD) (se : List SeD) (sn : List RpD) (w : World) (e : Ending) (w' : World) : Prop :=
  ∃ r : Int, e = .returned (.int .i64 r) ∧ r ≤ L ∧ (0 ≤ r → r + (n1 : Int) + (n2 : Int) + (wtK ks : Int) + (n4 : Int) + (wtFl fl : Int) + (wtSe se : Int) + (wtRp sn : Int) ≤ L ∧ ((n1 ≤ 1048576 ∧ ∀ i, i < n1 → (textAt cs i).size ≤ 1048576) ∧ (n2 ≤ 1048576 ∧ ∀ x ∈ ws, (x.2).size ≤ 1048576) ∧ (∀ k ∈ ks, KpSmall k) ∧ (n4 ≤ 1048576 ∧ ∀ x ∈ bl, (x.2.1).size ≤ 1048576 ∧ (x.2.2.1).size ≤ 1048576)) ∧ (∀ k ∈ fl, FlSmall k) ∧ (∀ k ∈ se, SeSmall k) ∧ ∀ k ∈ sn, RpSmall k) ∧ Below w.heap.size w w'
set_option maxHeartbeats 8000000 in
set_option maxRecDepth 100000 in
theorem szCache_any (L : Int) (hL0 : 0 ≤ L) (hL1 : L ≤ 1048576) (a1 : Option Addr) (n1 c1 : Nat) (cs : List ByteArray) (a2 : Option Addr) (n2 c2 : Nat) (ws : List (Int × ByteArray)) (a3 : Option Addr) (n3 c3 : Nat) (ks : List KpD) (a4 : Option Addr) (n4 c4 : Nat) (bl : List (Int × ByteArray × ByteArray × Int)) (nx sq : Int) (a5 : Option Addr) (n5 c5 : Nat) (fl : List FlD) (now : Int) (a6 : Option Addr) (n6 c6 : Nat) (se : List SeD) (a7 : Option Addr) (n7 c7 : Nat) (sn : List RpD) (B : Nat) (w : World) (h1 : ArgT w B a1 n1 cs) (h2 : ArgWrite w B a2 n2 ws) (h3 : ArgKept w B a3 n3 ks) (h4 : ArgBan w B a4 n4 bl) (h5 : ArgFlight w B a5 n5 fl) (h6 : ArgSeen w B a6 n6 se) (h7 : ArgReply w B a7 n7 sn) (hB : B ≤ w.heap.size) (hm : (n1 ≤ maxLen ∧ n2 ≤ maxLen ∧ n3 ≤ maxLen ∧ n4 ≤ maxLen ∧ (∀ i, i < n1 → (textAt cs i).size ≤ maxLen) ∧ (∀ x ∈ ws, (x.2).size ≤ maxLen) ∧ (∀ k ∈ ks, KpMax k) ∧ ∀ x ∈ bl, (x.2.1).size ≤ maxLen ∧ (x.2.2.1).size ≤ maxLen) ∧ (n5 ≤ maxLen ∧ ∀ k ∈ fl, FlMax k) ∧ (n6 ≤ maxLen ∧ ∀ k ∈ se, SeMax k) ∧ n7 ≤ maxLen ∧ ∀ k ∈ sn, RpMax k) :
    Calls Tryz.prog 4 #[.agg #[.slice a1 n1 c1, .slice a2 n2 c2, .slice a3 n3 c3, .slice a4 n4 c4, .int .i64 nx, .int .i64 sq, .slice a5 n5 c5, .int .i64 now, .slice a6 n6 c6, .slice a7 n7 c7], .int .i64 L] w fun e w' => SzCache L n1 cs n2 ws ks n4 bl fl se sn w e w' := by
  have HA1 : Hid (∀ W, Below w.heap.size w W → ArgT W B a1 n1 cs) := fun W h => h1.below (h.mono hB)
  have HA2 : Hid (∀ W, Below w.heap.size w W → ArgWrite W B a2 n2 ws) := fun W h => h2.below (h.mono hB)
  have HA3 : Hid (∀ W, Below w.heap.size w W → ArgKept W B a3 n3 ks) := fun W h => h3.below (h.mono hB)
  have HA4 : Hid (∀ W, Below w.heap.size w W → ArgBan W B a4 n4 bl) := fun W h => h4.below (h.mono hB)
  have HA5 : Hid (∀ W, Below w.heap.size w W → ArgFlight W B a5 n5 fl) := fun W h => h5.below (h.mono hB)
  have HA6 : Hid (∀ W, Below w.heap.size w W → ArgSeen W B a6 n6 se) := fun W h => h6.below (h.mono hB)
  have HA7 : Hid (∀ W, Below w.heap.size w W → ArgReply W B a7 n7 sn) := fun W h => h7.below (h.mono hB)
  have HBB : Hid (∀ W, Below w.heap.size w W → B ≤ W.heap.size) := fun W h => Nat.le_trans hB h.size
  have HM : Hid ((n1 ≤ maxLen ∧ n2 ≤ maxLen ∧ n3 ≤ maxLen ∧ n4 ≤ maxLen ∧ (∀ i, i < n1 → (textAt cs i).size ≤ maxLen) ∧ (∀ x ∈ ws, (x.2).size ≤ maxLen) ∧ (∀ k ∈ ks, KpMax k) ∧ ∀ x ∈ bl, (x.2.1).size ≤ maxLen ∧ (x.2.2.1).size ≤ maxLen) ∧ (n5 ≤ maxLen ∧ ∀ k ∈ fl, FlMax k) ∧ (n6 ≤ maxLen ∧ ∀ k ∈ se, SeMax k) ∧ n7 ≤ maxLen ∧ ∀ k ∈ sn, RpMax k) := hm
  clear h1 h2 h3 h4 h5 h6 h7 hm hB
  have hb0 : Below w.heap.size w w := Below.refl _ _
  go_enter Tryz.func4, Tryz.ntmps4
  go_upto_region 1 with fail
  obtain ⟨qv1, hqv1⟩ : ∃ q, q = (w).heap.size := ⟨_, rfl⟩
  obtain ⟨w1, hW1⟩ : ∃ W, W = (w).alloc (.cells #[.slice a1 n1 c1, .slice a2 n2 c2, .slice a3 n3 c3, .slice a4 n4 c4, .int .i64 nx, .int .i64 sq, .slice a5 n5 c5, .int .i64 now, .slice a6 n6 c6, .slice a7 n7 c7] 34) := ⟨_, rfl⟩
  have hz1 : (w).heap.size = qv1 := hqv1.symm
  first | rw [← hW1, ← hqv1] | rw [← hW1]
  have hs1 : w1.heap.size = qv1 + 1 := by rw [hW1, ← hz1]; simp
  have bw : Below (w).heap.size (w) w1 := by rw [hW1]; exact (Below.refl _ _).alloc (Nat.le_refl _) _
  have hb1 : Below w.heap.size w (w1) := hb0.trans (bw.mono hb0.size)
  have HBv1_1 : Hid ((w1).heap[qv1]? = some (.cells #[.slice a1 n1 c1, .slice a2 n2 c2, .slice a3 n3 c3, .slice a4 n4 c4, .int .i64 nx, .int .i64 sq, .slice a5 n5 c5, .int .i64 now, .slice a6 n6 c6, .slice a7 n7 c7] 34)) := by show _ = _; rw [hW1, ← hz1]; exact heap_alloc_new _ _
  clear hb0 bw hW1 hz1
  clear hs1 hqv1
  have cv1_0 : (w1).cell? ⟨qv1, 0, none⟩ = some (.slice a1 n1 c1) := (cell_of HBv1_1.out 0).trans rfl
  have cv1_1 : (w1).cell? ⟨qv1, 1, none⟩ = some (.slice a2 n2 c2) := (cell_of HBv1_1.out 1).trans rfl
  have cv1_2 : (w1).cell? ⟨qv1, 2, none⟩ = some (.slice a3 n3 c3) := (cell_of HBv1_1.out 2).trans rfl
  have cv1_3 : (w1).cell? ⟨qv1, 3, none⟩ = some (.slice a4 n4 c4) := (cell_of HBv1_1.out 3).trans rfl
  have cv1_4 : (w1).cell? ⟨qv1, 4, none⟩ = some (.int .i64 nx) := (cell_of HBv1_1.out 4).trans rfl
  have cv1_5 : (w1).cell? ⟨qv1, 5, none⟩ = some (.int .i64 sq) := (cell_of HBv1_1.out 5).trans rfl
  go_wp2_with fail
  refine (szShelf_any L (by omega) (by omega) a1 n1 c1 cs a2 n2 c2 ws a3 n3 c3 ks a4 n4 c4 bl nx sq B _ (HA1.out _ hb1) (HA2.out _ hb1) (HA3.out _ hb1) (HA4.out _ hb1) (HBB.out _ hb1) HM.out.1).mono ?_
  rintro e w2 ⟨r1, rfl, hl1, hr1, bw⟩
  have hb2 : Below w.heap.size w (w2) := hb1.trans (bw.mono hb1.size)
  have HBv1_2 : Hid ((w2).heap[qv1]? = some (.cells #[.slice a1 n1 c1, .slice a2 n2 c2, .slice a3 n3 c3, .slice a4 n4 c4, .int .i64 nx, .int .i64 sq, .slice a5 n5 c5, .int .i64 now, .slice a6 n6 c6, .slice a7 n7 c7] 34)) := blk_below HBv1_1.out bw
  clear hb1 HBv1_1 bw
  clear cv1_0 cv1_1 cv1_2 cv1_3 cv1_4 cv1_5
  by_cases hc1 : r1 < 0
  · clear hr1
    go_wp2_with fail
    go_ret
    exact ⟨-1, rfl, by omega, fun h => absurd h (by omega), hb2⟩
  · have HR1 : Hid _ := hr1 (by omega)
    clear hr1
    have mr1 := HR1.out.1
    have cv1_6 : (w2).cell? ⟨qv1, 6, none⟩ = some (.slice a5 n5 c5) := (cell_of HBv1_2.out 6).trans rfl
    go_wp2_with fail
    refine (szFlightS_any r1 (by omega) (by omega) B a5 n5 c5 fl _ (HA5.out _ hb2) (HBB.out _ hb2) HM.out.2.1.1 HM.out.2.1.2).mono ?_
    rintro e w3 ⟨r2, rfl, hl2, hr2, bw⟩
    have hb3 : Below w.heap.size w (w3) := hb2.trans (bw.mono hb2.size)
    have HBv1_3 : Hid ((w3).heap[qv1]? = some (.cells #[.slice a1 n1 c1, .slice a2 n2 c2, .slice a3 n3 c3, .slice a4 n4 c4, .int .i64 nx, .int .i64 sq, .slice a5 n5 c5, .int .i64 now, .slice a6 n6 c6, .slice a7 n7 c7] 34)) := blk_below HBv1_2.out bw
    clear hb2 HBv1_2 bw
    clear cv1_6
    by_cases hc2 : r2 < 0
    · clear hr2
      go_wp2_with fail
      go_ret
      exact ⟨-1, rfl, by omega, fun h => absurd h (by omega), hb3⟩
    · have HR2 : Hid _ := hr2 (by omega)
      clear hr2
      have mr2 := HR2.out.1
      have cv1_8 : (w3).cell? ⟨qv1, 8, none⟩ = some (.slice a6 n6 c6) := (cell_of HBv1_3.out 8).trans rfl
      go_wp2_with fail
      refine (szSeenS_any r2 (by omega) (by omega) B a6 n6 c6 se _ (HA6.out _ hb3) (HBB.out _ hb3) HM.out.2.2.1.1 HM.out.2.2.1.2).mono ?_
      rintro e w4 ⟨r3, rfl, hl3, hr3, bw⟩
      have hb4 : Below w.heap.size w (w4) := hb3.trans (bw.mono hb3.size)
      have HBv1_4 : Hid ((w4).heap[qv1]? = some (.cells #[.slice a1 n1 c1, .slice a2 n2 c2, .slice a3 n3 c3, .slice a4 n4 c4, .int .i64 nx, .int .i64 sq, .slice a5 n5 c5, .int .i64 now, .slice a6 n6 c6, .slice a7 n7 c7] 34)) := blk_below HBv1_3.out bw
      clear hb3 HBv1_3 bw
      clear cv1_8
      by_cases hc3 : r3 < 0
      · clear hr3
        go_wp2_with fail
        go_ret
        exact ⟨-1, rfl, by omega, fun h => absurd h (by omega), hb4⟩
      · have HR3 : Hid _ := hr3 (by omega)
        clear hr3
        have mr3 := HR3.out.1
        have cv1_9 : (w4).cell? ⟨qv1, 9, none⟩ = some (.slice a7 n7 c7) := (cell_of HBv1_4.out 9).trans rfl
        go_wp2_with fail
        refine (szReplyS_any r3 (by omega) (by omega) B a7 n7 c7 sn _ (HA7.out _ hb4) (HBB.out _ hb4) HM.out.2.2.2.1 HM.out.2.2.2.2).mono ?_
        rintro e w5 ⟨r4, rfl, hl4, hr4, bw⟩
        have hb5 : Below w.heap.size w (w5) := hb4.trans (bw.mono hb4.size)
        have HBv1_5 : Hid ((w5).heap[qv1]? = some (.cells #[.slice a1 n1 c1, .slice a2 n2 c2, .slice a3 n3 c3, .slice a4 n4 c4, .int .i64 nx, .int .i64 sq, .slice a5 n5 c5, .int .i64 now, .slice a6 n6 c6, .slice a7 n7 c7] 34)) := blk_below HBv1_4.out bw
        clear hb4 HBv1_4 bw
        clear cv1_9
        by_cases hc4 : r4 < 0
        · clear hr4
          go_wp2_with fail
          go_ret
          exact ⟨-1, rfl, by omega, fun h => absurd h (by omega), hb5⟩
        · have HR4 : Hid _ := hr4 (by omega)
          clear hr4
          have mr4 := HR4.out.1
          go_wp2_with fail
          go_ret
          exact ⟨r4, rfl, by omega, fun _ => ⟨by omega, HR1.out.2, HR2.out.2, HR3.out.2, HR4.out.2⟩, hb5⟩

/-- A cache of bounded size. -/
structure CaLim (y : CaD) : Prop where
  c : y.s.cs.length ≤ 2000000
  w : y.s.ws.length ≤ 2000000
  k : y.s.ks.length ≤ 2000000
  b : y.s.bl.length ≤ 2000000
  ks : ∀ k ∈ y.s.ks, k.xs.length ≤ 2000000 ∧ k.ys.length ≤ 2000000 ∧ k.fs.length ≤ 2000000
  nfl : y.fl.length ≤ 2000000
  nse : y.se.length ≤ 2000000
  nsn : y.sn.length ≤ 2000000
  fl : ∀ k ∈ y.fl, FlLim k
  se : ∀ k ∈ y.se, SeLim k
  sn : ∀ k ∈ y.sn, RpLim k
set_option maxHeartbeats 8000000 in
set_option maxRecDepth 100000 in
theorem eqCache_any (c : CaD) (x1 x2 x3 x4 x5 x6 x7 y1 y2 y3 y4 y5 y6 y7 : Value) (kvx kvy : List (KpD × Value × Value × Value)) (fvx fvy : List FlV) (evx evy : List SeV) (rvx rvy : List RpV) (Bx By : Nat) (w : World) (hx : CacheO (w) Bx x1 x2 x3 x4 x5 x6 x7 kvx fvx evx rvx c) (hy : CacheO (w) By y1 y2 y3 y4 y5 y6 y7 kvy fvy evy rvy c) (hl : CaLim c) :
    Calls Tryz.prog 9 #[.agg #[x1, x2, x3, x4, .int .i64 c.s.nx, .int .i64 c.s.sq, x5, .int .i64 c.now, x6, x7], .agg #[y1, y2, y3, y4, .int .i64 c.s.nx, .int .i64 c.s.sq, y5, .int .i64 c.now, y6, y7]] w fun e w' => e = .returned (.bool true) ∧ Below w.heap.size w w' := by
  have HLM : Hid (CaLim c) := hl
  have Ex_0 : Hid (CacheO (w) Bx x1 x2 x3 x4 x5 x6 x7 kvx fvx evx rvx c) := hx
  have Ey_0 : Hid (CacheO (w) By y1 y2 y3 y4 y5 y6 y7 kvy fvy evy rvy c) := hy
  clear hx hy hl
  have hnw : (c.now != c.now) = false := by simp
  have hb0 : Below w.heap.size w w := Below.refl _ _
  go_enter Tryz.func9, Tryz.ntmps9
  go_upto_region 1 with fail
  obtain ⟨qv1, hqv1⟩ : ∃ q, q = (w).heap.size := ⟨_, rfl⟩
  obtain ⟨w1, hW1⟩ : ∃ W, W = (w).alloc (.cells #[x1, x2, x3, x4, .int .i64 c.s.nx, .int .i64 c.s.sq, x5, .int .i64 c.now, x6, x7] 52) := ⟨_, rfl⟩
  have hz1 : (w).heap.size = qv1 := hqv1.symm
  first | rw [← hW1, ← hqv1] | rw [← hW1]
  have hs1 : w1.heap.size = qv1 + 1 := by rw [hW1, ← hz1]; simp
  have bw : Below (w).heap.size (w) w1 := by rw [hW1]; exact (Below.refl _ _).alloc (Nat.le_refl _) _
  have hb1 : Below w.heap.size w (w1) := hb0.trans (bw.mono hb0.size)
  have Ex_1 : Hid (CacheO (w1) Bx x1 x2 x3 x4 x5 x6 x7 kvx fvx evx rvx c) := Ex_0.out.below bw
  have Ey_1 : Hid (CacheO (w1) By y1 y2 y3 y4 y5 y6 y7 kvy fvy evy rvy c) := Ey_0.out.below bw
  have HBv1_1 : Hid ((w1).heap[qv1]? = some (.cells #[x1, x2, x3, x4, .int .i64 c.s.nx, .int .i64 c.s.sq, x5, .int .i64 c.now, x6, x7] 52)) := by show _ = _; rw [hW1, ← hz1]; exact heap_alloc_new _ _
  clear hb0 Ex_0 Ey_0 bw hW1 hz1
  obtain ⟨qv2, hqv2⟩ : ∃ q, q = qv1 + 1 := ⟨_, rfl⟩
  obtain ⟨w2, hW2⟩ : ∃ W, W = (w1).alloc (.cells #[y1, y2, y3, y4, .int .i64 c.s.nx, .int .i64 c.s.sq, y5, .int .i64 c.now, y6, y7] 52) := ⟨_, rfl⟩
  have hz2 : (w1).heap.size = qv2 := by rw [hqv2]; exact hs1
  first | rw [← hW2, ← hqv2] | rw [← hW2]
  have hs2 : w2.heap.size = qv2 + 1 := by rw [hW2, ← hz2]; simp
  have bw : Below (w1).heap.size (w1) w2 := by rw [hW2]; exact (Below.refl _ _).alloc (Nat.le_refl _) _
  have hb2 : Below w.heap.size w (w2) := hb1.trans (bw.mono hb1.size)
  have HBv1_2 : Hid ((w2).heap[qv1]? = some (.cells #[x1, x2, x3, x4, .int .i64 c.s.nx, .int .i64 c.s.sq, x5, .int .i64 c.now, x6, x7] 52)) := blk_below HBv1_1.out bw
  have Ex_2 : Hid (CacheO (w2) Bx x1 x2 x3 x4 x5 x6 x7 kvx fvx evx rvx c) := Ex_1.out.below bw
  have Ey_2 : Hid (CacheO (w2) By y1 y2 y3 y4 y5 y6 y7 kvy fvy evy rvy c) := Ey_1.out.below bw
  have HBv2_2 : Hid ((w2).heap[qv2]? = some (.cells #[y1, y2, y3, y4, .int .i64 c.s.nx, .int .i64 c.s.sq, y5, .int .i64 c.now, y6, y7] 52)) := by show _ = _; rw [hW2, ← hz2]; exact heap_alloc_new _ _
  clear hb1 HBv1_1 Ex_1 Ey_1 bw hW2 hz2
  clear hs2 hqv2 hs1 hqv1
  have cv1_0 : (w2).cell? ⟨qv1, 0, none⟩ = some (x1) := (cell_of HBv1_2.out 0).trans rfl
  have cv1_1 : (w2).cell? ⟨qv1, 1, none⟩ = some (x2) := (cell_of HBv1_2.out 1).trans rfl
  have cv1_2 : (w2).cell? ⟨qv1, 2, none⟩ = some (x3) := (cell_of HBv1_2.out 2).trans rfl
  have cv1_3 : (w2).cell? ⟨qv1, 3, none⟩ = some (x4) := (cell_of HBv1_2.out 3).trans rfl
  have cv1_4 : (w2).cell? ⟨qv1, 4, none⟩ = some (.int .i64 c.s.nx) := (cell_of HBv1_2.out 4).trans rfl
  have cv1_5 : (w2).cell? ⟨qv1, 5, none⟩ = some (.int .i64 c.s.sq) := (cell_of HBv1_2.out 5).trans rfl
  have cv2_0 : (w2).cell? ⟨qv2, 0, none⟩ = some (y1) := (cell_of HBv2_2.out 0).trans rfl
  have cv2_1 : (w2).cell? ⟨qv2, 1, none⟩ = some (y2) := (cell_of HBv2_2.out 1).trans rfl
  have cv2_2 : (w2).cell? ⟨qv2, 2, none⟩ = some (y3) := (cell_of HBv2_2.out 2).trans rfl
  have cv2_3 : (w2).cell? ⟨qv2, 3, none⟩ = some (y4) := (cell_of HBv2_2.out 3).trans rfl
  have cv2_4 : (w2).cell? ⟨qv2, 4, none⟩ = some (.int .i64 c.s.nx) := (cell_of HBv2_2.out 4).trans rfl
  have cv2_5 : (w2).cell? ⟨qv2, 5, none⟩ = some (.int .i64 c.s.sq) := (cell_of HBv2_2.out 5).trans rfl
  go_wp2_with fail
  refine (eqShelf_any c.s _ _ _ _ _ _ _ _ kvx kvy Bx By _ Ex_2.out.shelf Ey_2.out.shelf HLM.out.c HLM.out.w HLM.out.k HLM.out.b HLM.out.ks).mono ?_
  rintro e w3 ⟨rfl, bw⟩
  have hb3 : Below w.heap.size w (w3) := hb2.trans (bw.mono hb2.size)
  have HBv1_3 : Hid ((w3).heap[qv1]? = some (.cells #[x1, x2, x3, x4, .int .i64 c.s.nx, .int .i64 c.s.sq, x5, .int .i64 c.now, x6, x7] 52)) := blk_below HBv1_2.out bw
  have HBv2_3 : Hid ((w3).heap[qv2]? = some (.cells #[y1, y2, y3, y4, .int .i64 c.s.nx, .int .i64 c.s.sq, y5, .int .i64 c.now, y6, y7] 52)) := blk_below HBv2_2.out bw
  have Ex_3 : Hid (CacheO (w3) Bx x1 x2 x3 x4 x5 x6 x7 kvx fvx evx rvx c) := Ex_2.out.below bw
  have Ey_3 : Hid (CacheO (w3) By y1 y2 y3 y4 y5 y6 y7 kvy fvy evy rvy c) := Ey_2.out.below bw
  clear hb2 HBv1_2 HBv2_2 Ex_2 Ey_2 bw
  clear cv1_0 cv1_1 cv1_2 cv1_3 cv1_4 cv1_5 cv2_0 cv2_1 cv2_2 cv2_3 cv2_4 cv2_5
  have cv1_6 : (w3).cell? ⟨qv1, 6, none⟩ = some (x5) := (cell_of HBv1_3.out 6).trans rfl
  have cv2_6 : (w3).cell? ⟨qv2, 6, none⟩ = some (y5) := (cell_of HBv2_3.out 6).trans rfl
  go_wp2_with fail
  refine (eqFlightS_any _ _ fvx fvy Bx By _ (Ex_3.out.hf.trans Ey_3.out.hf.symm) Ex_3.out.fls Ey_3.out.fls (by rw [← List.length_map (f := (·.d)), Ex_3.out.hf]; exact HLM.out.nfl) (fun x hx => HLM.out.fl x.d (by rw [← Ex_3.out.hf]; exact List.mem_map.2 ⟨x, hx, rfl⟩))).mono ?_
  rintro e w4 ⟨rfl, bw⟩
  have hb4 : Below w.heap.size w (w4) := hb3.trans (bw.mono hb3.size)
  have HBv1_4 : Hid ((w4).heap[qv1]? = some (.cells #[x1, x2, x3, x4, .int .i64 c.s.nx, .int .i64 c.s.sq, x5, .int .i64 c.now, x6, x7] 52)) := blk_below HBv1_3.out bw
  have HBv2_4 : Hid ((w4).heap[qv2]? = some (.cells #[y1, y2, y3, y4, .int .i64 c.s.nx, .int .i64 c.s.sq, y5, .int .i64 c.now, y6, y7] 52)) := blk_below HBv2_3.out bw
  have Ex_4 : Hid (CacheO (w4) Bx x1 x2 x3 x4 x5 x6 x7 kvx fvx evx rvx c) := Ex_3.out.below bw
  have Ey_4 : Hid (CacheO (w4) By y1 y2 y3 y4 y5 y6 y7 kvy fvy evy rvy c) := Ey_3.out.below bw
  clear hb3 HBv1_3 HBv2_3 Ex_3 Ey_3 bw
  clear cv1_6 cv2_6
  have cv1_7 : (w4).cell? ⟨qv1, 7, none⟩ = some (.int .i64 c.now) := (cell_of HBv1_4.out 7).trans rfl
  have cv2_7 : (w4).cell? ⟨qv2, 7, none⟩ = some (.int .i64 c.now) := (cell_of HBv2_4.out 7).trans rfl
  have cv1_8 : (w4).cell? ⟨qv1, 8, none⟩ = some (x6) := (cell_of HBv1_4.out 8).trans rfl
  have cv2_8 : (w4).cell? ⟨qv2, 8, none⟩ = some (y6) := (cell_of HBv2_4.out 8).trans rfl
  go_wp2_with fail
  refine (eqSeenS_any _ _ evx evy Bx By _ (Ex_4.out.he.trans Ey_4.out.he.symm) Ex_4.out.ses Ey_4.out.ses (by rw [← List.length_map (f := (·.d)), Ex_4.out.he]; exact HLM.out.nse) (fun x hx => HLM.out.se x.d (by rw [← Ex_4.out.he]; exact List.mem_map.2 ⟨x, hx, rfl⟩))).mono ?_
  rintro e w5 ⟨rfl, bw⟩
  have hb5 : Below w.heap.size w (w5) := hb4.trans (bw.mono hb4.size)
  have HBv1_5 : Hid ((w5).heap[qv1]? = some (.cells #[x1, x2, x3, x4, .int .i64 c.s.nx, .int .i64 c.s.sq, x5, .int .i64 c.now, x6, x7] 52)) := blk_below HBv1_4.out bw
  have HBv2_5 : Hid ((w5).heap[qv2]? = some (.cells #[y1, y2, y3, y4, .int .i64 c.s.nx, .int .i64 c.s.sq, y5, .int .i64 c.now, y6, y7] 52)) := blk_below HBv2_4.out bw
  have Ex_5 : Hid (CacheO (w5) Bx x1 x2 x3 x4 x5 x6 x7 kvx fvx evx rvx c) := Ex_4.out.below bw
  have Ey_5 : Hid (CacheO (w5) By y1 y2 y3 y4 y5 y6 y7 kvy fvy evy rvy c) := Ey_4.out.below bw
  clear hb4 HBv1_4 HBv2_4 Ex_4 Ey_4 bw
  clear cv1_7 cv2_7 cv1_8 cv2_8
  have cv1_9 : (w5).cell? ⟨qv1, 9, none⟩ = some (x7) := (cell_of HBv1_5.out 9).trans rfl
  have cv2_9 : (w5).cell? ⟨qv2, 9, none⟩ = some (y7) := (cell_of HBv2_5.out 9).trans rfl
  go_wp2_with fail
  refine (eqReplyS_any _ _ rvx rvy Bx By _ (Ex_5.out.hr.trans Ey_5.out.hr.symm) Ex_5.out.rps Ey_5.out.rps (by rw [← List.length_map (f := (·.d)), Ex_5.out.hr]; exact HLM.out.nsn) (fun x hx => HLM.out.sn x.d (by rw [← Ex_5.out.hr]; exact List.mem_map.2 ⟨x, hx, rfl⟩))).mono ?_
  rintro e w6 ⟨rfl, bw⟩
  have hb6 : Below w.heap.size w (w6) := hb5.trans (bw.mono hb5.size)
  have HBv1_6 : Hid ((w6).heap[qv1]? = some (.cells #[x1, x2, x3, x4, .int .i64 c.s.nx, .int .i64 c.s.sq, x5, .int .i64 c.now, x6, x7] 52)) := blk_below HBv1_5.out bw
  have HBv2_6 : Hid ((w6).heap[qv2]? = some (.cells #[y1, y2, y3, y4, .int .i64 c.s.nx, .int .i64 c.s.sq, y5, .int .i64 c.now, y6, y7] 52)) := blk_below HBv2_5.out bw
  have Ex_6 : Hid (CacheO (w6) Bx x1 x2 x3 x4 x5 x6 x7 kvx fvx evx rvx c) := Ex_5.out.below bw
  have Ey_6 : Hid (CacheO (w6) By y1 y2 y3 y4 y5 y6 y7 kvy fvy evy rvy c) := Ey_5.out.below bw
  clear hb5 HBv1_5 HBv2_5 Ex_5 Ey_5 bw
  clear cv1_9 cv2_9
  go_wp2_with fail
  go_ret
  exact ⟨rfl, hb6⟩

end Go.Proofs.YtajccgffallajaaGreat

namespace Go.Proofs.YtajccgffallajaaGreat
open Go.RowKit
open Go.Lib hiding intOf

set_option maxHeartbeats 1000000 in
set_option maxRecDepth 100000 in
theorem l9Copy_any (v : Value) (n base : Nat) (fs : List (ByteArray × ByteArray)) (w : World) (hv : FieldsV w base v n fs) (hn : n ≤ 2000000) :
    Calls Tryz.prog 42 #[v] w fun e w' => RowF fs w e w' := by
  obtain ⟨i0, hi, hz0, hz1, hz2⟩ := info_parts info33
  have hl := hv.len
  have h63a : 0 + n ≤ maxLen := by unfold maxLen; omega
  have h47a : (0 + n) * 32 ≤ 140737488355328 := by omega
  have hown0 : (w.alloc (.cells #[] 135)).ownsRow w.heap.size 135 2 (.slice (some ⟨w.heap.size, 0, none⟩) 0 0) 0 [] := ⟨rfl, .inr ⟨w.heap.size, 0, #[], rfl, Nat.le_refl _, heap_alloc_new w _, Nat.le_refl _, Nat.zero_le _, rfl, rfl⟩⟩
  have hbs0 : w.heap.size ≤ (w.alloc (.cells #[] 135)).heap.size := by simp
  have hv1 := hv.below ((Below.refl _ w).alloc (Nat.le_refl _) (.cells #[] 135))
  rcases hv1.src with ⟨rfl, rfl, rfl⟩ | ⟨ad, cap, rfl, hcs⟩
  · have hb2 : Below w.heap.size w (w.alloc (.cells #[] 135)) := (Below.refl _ w).alloc (Nat.le_refl _) _
    clear hv
    go_enter Tryz.func42, Tryz.ntmps42
    go_wp2_with (at_builtin; refine wpList_append_own_none rfl _ _ 36 rfl w.heap.size 135 i0 2 Tryz.underlying36 hi _ _ _ rfl hown0 rfl ?_)
    go_wp2
    go_ret
    exact ⟨_, rfl, hown0, hb2⟩
  · have hnl : (flatF fs).length = n * 2 := by rw [flatF_len, hl]
    go_enter Tryz.func42, Tryz.ntmps42
    go_wp2_with (at_builtin; refine wpList_append_own _ rfl _ _ 36 rfl w.heap.size 135 i0 (.agg #[.string ⟨#[]⟩, .string ⟨#[]⟩]) 2 32 Tryz.underlying36 hi hz0 hz1 hz2 rfl (by decide) _ _ _ rfl hown0 ad n cap (flatF fs) rfl hnl hcs (flat_one _) h63a h47a hbs0 ?_)
    intro v1 w2 hown1 hgrow _
    have hb2 : Below w.heap.size w w2 := ((Below.refl _ w).alloc (Nat.le_refl _) _).grown hgrow hbs0 (fun g hg => owns_ge hown0 hg)
    have hown2 : w2.ownsRow w.heap.size 135 2 v1 fs.length (flatF fs) := by rw [hl]; simpa using hown1
    clear hgrow hown1 hown0 hbs0 hv1 hcs hv
    go_wp2
    go_ret
    exact ⟨_, rfl, hown2, hb2⟩

end Go.Proofs.YtajccgffallajaaGreat

namespace Go.Proofs.YtajccgffallajaaGreat
open Go.RowKit
open Go.Lib hiding intOf

/-- The two cells of a field's memory, written. -/
def twoSet (w : World) (r : Nat) (nm vl : ByteArray) : World := (w.setCell ⟨r, 0, none⟩ (.string nm)).setCell ⟨r, 1, none⟩ (.string vl)
theorem twoSet_heap {w : World} {r : Nat} (nm vl : ByteArray) (h : w.heap[r]? = some (.cells #[.string ⟨#[]⟩, .string ⟨#[]⟩] 135)) : (twoSet w r nm vl).heap[r]? = some (.cells #[.string nm, .string vl] 135) := by
  have := heap_set _ r 1 _ _ _ (.string vl) (heap_set w r 0 _ _ _ (.string nm) h)
  simpa [twoSet] using this
end Go.Proofs.YtajccgffallajaaGreat

namespace Go.Proofs.YtajccgffallajaaGreat
open Go.RowKit
open Go.Lib hiding intOf

set_option maxHeartbeats 1000000 in
theorem newField_any (nm vl : ByteArray) (w : World) (h1 : nm.size ≤ 281474976710656) (h2 : vl.size ≤ 281474976710656) :
    Calls Tryz.prog 85 #[.string nm, .string vl] w fun e w' => e = .returned (.agg #[.string nm, .string vl]) ∧ Below w.heap.size w w' := by
  go_enter Tryz.func85, Tryz.ntmps85
  go_wp2_with fail
  refine (clone_any nm _ h1).mono ?_
  rintro e w1 ⟨rfl, hb1⟩
  go_wp2_with fail
  refine (clone_any vl _ h2).mono ?_
  rintro e w2 ⟨rfl, hb2⟩
  obtain ⟨r, hr⟩ : ∃ r, r = w.heap.size := ⟨_, rfl⟩
  have h0 : (w.alloc (.cells #[.string ⟨#[]⟩, .string ⟨#[]⟩] 135)).heap.size = w.heap.size + 1 := by simp
  have hb : Below w.heap.size w w2 := ((Below.refl _ w).alloc (Nat.le_refl _) _).trans ((hb1.trans (hb2.mono hb1.size)).mono (by omega))
  have hre2 : w2.heap[r]? = some (.cells #[.string ⟨#[]⟩, .string ⟨#[]⟩] 135) := by
    rw [hr, (hb1.trans (hb2.mono hb1.size)).block _ (by omega)]; exact heap_alloc_new w _
  have hc0 : w2.cell? ⟨r, 0, none⟩ = some (.string ⟨#[]⟩) := by simp [World.cell?, hre2]
  have hc1 : w2.cell? ⟨r, 1, none⟩ = some (.string ⟨#[]⟩) := by simp [World.cell?, hre2]
  have hf0 : w2.frozen? ⟨r, 0, none⟩ = false := by simp [World.frozen?, hre2]
  have hf1 : w2.frozen? ⟨r, 1, none⟩ = false := by simp [World.frozen?, hre2]
  have hre3 := twoSet_heap nm vl hre2
  have k0 : (twoSet w2 r nm vl).cell? ⟨r, 0, none⟩ = some (.string nm) := by simp [World.cell?, hre3]
  have k1 : (twoSet w2 r nm vl).cell? ⟨r, 1, none⟩ = some (.string vl) := by simp [World.cell?, hre3]
  have hb3 : Below w.heap.size w (twoSet w2 r nm vl) := (hb.setCell (p := ⟨r, 0, none⟩) (by simp [hr]) _).setCell (p := ⟨r, 1, none⟩) (by simp [hr]) _
  have HB3 : Hid (Below w.heap.size w (twoSet w2 r nm vl)) := hb3
  rw [← hr]
  unfold twoSet at k0 k1
  clear hre3 hre2 hb hb3 hb1 hb2 hr h0
  go_wp2
  exact bodyPost_ret (v := .agg #[.string nm, .string vl]) (by simp [results, Tryz.results85, go_sem, k0, k1]) rfl ⟨rfl, HB3.out⟩

theorem cell_set_other (w : World) (r o g p : Nat) (v : Value) (h : g ≠ r) : (w.setCell ⟨r, o, none⟩ v).cell? ⟨g, p, none⟩ = w.cell? ⟨g, p, none⟩ := by
  unfold World.cell?
  rw [heap_setCell_other _ _ g _ (fun e => h e)]
/-- Every text of the fields is short enough to be copied. -/
def CopyF (fs : List (ByteArray × ByteArray)) : Prop := ∀ i, i < fs.length → (nameAt fs i).size ≤ 281474976710656 ∧ (valAt fs i).size ≤ 281474976710656

set_option maxHeartbeats 1000000 in
theorem copied_any (v : Value) (n base : Nat) (fs : List (ByteArray × ByteArray)) (w : World) (hv : FieldsV w base v n fs) (hn : n ≤ 2000000) (hsz : CopyF fs) :
    Calls Tryz.prog 52 #[v] w fun e w' => RowF fs w e w' := by
  obtain ⟨i0, hi, hz0, hz1, hz2⟩ := info_parts info33
  obtain ⟨M, hM⟩ : ∃ M, M = madeCells (Value.agg #[.string ⟨#[]⟩, .string ⟨#[]⟩]).cells (((n : Nat) : Int).toNat * i0.size) := ⟨_, rfl⟩
  have hmk : ∀ W : World, (Instr.makeSlice 130 (.int .i64 (n : Int)) (.int .i64 (n : Int))).run Tryz.prog W = .ok (.slice (some ⟨W.heap.size, 0, none⟩) n n) (W.alloc (.cells M 135)) := fun W => by
    have h := run_make (P := Tryz.prog) W 130 135 i0 (.agg #[.string ⟨#[]⟩, .string ⟨#[]⟩]) Tryz.underlying130 hi hz0 .i64 .i64 (n : Int) (n : Int) (by omega) (by omega) (by rw [hz2]; omega) (by omega)
    rw [← hM] at h
    simpa using h
  have hMs : M.size = n * 2 := by rw [hM, size_madeCells, hz1]; simp
  have hlen := hv.len
  obtain ⟨oa, cap, rfl, hrow⟩ := hv.slice
  have HROW : Hid (∀ k, k < n → ∃ g, oa = some ⟨g, 0, none⟩ ∧ FieldRow base w g n cap fs) := hrow
  have HSZ : Hid (CopyF fs) := hsz
  clear hM hv hrow hsz
  have HP : Hid (PartRow (w.alloc (.cells M 135)) w.heap.size n 0 fs) := ⟨M, heap_alloc_new w _, hMs, fun i h => absurd h (by omega)⟩
  go_enter Tryz.func52, Tryz.ntmps52
  go_wp2
  go_loopw [10] (fun i wr => ∃ k : Nat, k ≤ n ∧ i = .int .i64 (k : Int) ∧ Hid (PartRow wr w.heap.size n k fs) ∧ Below w.heap.size w wr) (fun i _ => n - (intOf i).toNat)
  case atStart => exact ⟨0, Nat.zero_le _, rfl, HP, (Below.refl _ _).alloc (Nat.le_refl _) _⟩
  case round =>
    obtain ⟨k, hk, rfl, hpr, hbw⟩ := hrel
    by_cases hlt : k < n
    · have hlt2 : (k : Int) < (n : Int) := by omega
      obtain ⟨g, rfl, row⟩ := HROW.out k hlt
      have hrowlt := row.lt
      have HRW : Hid (FieldRow base w g n cap fs) := row
      have row1 := row.below hbw row.lt
      have hc1 := row1.name k hlt
      have hc2 := row1.val k hlt
      obtain ⟨z1, z2⟩ := HSZ.out k (by omega)
      obtain ⟨nm, hnm⟩ : ∃ y, y = nameAt fs k := ⟨_, rfl⟩
      obtain ⟨vl, hvl⟩ : ∃ y, y = valAt fs k := ⟨_, rfl⟩
      rw [← hnm] at hc1 z1
      rw [← hvl] at hc2 z2
      have HNM : Hid (nm = nameAt fs k) := hnm
      have HVL : Hid (vl = valAt fs k) := hvl
      clear hnm hvl row row1
      have hgr : g < w.heap.size := hrowlt
      have HA : Hid (∀ w0 w1, Below wr.heap.size wr w0 → Below w0.heap.size w0 w1 → (w1.cell? ⟨g, k * 2, none⟩ = some (.string nm) ∧ w1.cell? ⟨g, k * 2 + 1, none⟩ = some (.string vl)) ∧ (∃ u, w1.cell? ⟨w.heap.size, k * 2, none⟩ = some u) ∧ (∃ u, w1.cell? ⟨w.heap.size, k * 2 + 1, none⟩ = some u) ∧ w1.frozen? ⟨w.heap.size, k * 2, none⟩ = false ∧ w1.frozen? ⟨w.heap.size, k * 2 + 1, none⟩ = false ∧ Hid (PartRow ((w1.setCell ⟨w.heap.size, k * 2, none⟩ (.string nm)).setCell ⟨w.heap.size, k * 2 + 1, none⟩ (.string vl)) w.heap.size n (k + 1) fs) ∧ Below w.heap.size w w1 ∧ (((w1.setCell ⟨w.heap.size, k * 2, none⟩ (.string nm)).setCell ⟨w.heap.size, k * 2 + 1, none⟩ (.string vl)).cell? ⟨g, k * 2, none⟩ = some (.string nm) ∧ ((w1.setCell ⟨w.heap.size, k * 2, none⟩ (.string nm)).setCell ⟨w.heap.size, k * 2 + 1, none⟩ (.string vl)).cell? ⟨g, k * 2 + 1, none⟩ = some (.string vl))) := fun w0 w1 h h' => by
        have hx := h.trans (h'.mono h.size)
        have hy := hbw.trans (hx.mono hbw.size)
        have row1 := HRW.out.below hy hgr
        have a1 := row1.name k hlt
        have a2 := row1.val k hlt
        rw [← HNM.out] at a1
        rw [← HVL.out] at a2
        have hpr1 := hpr.out.below hx hpr.out.lt
        have hput := hpr1.put hlt
        rw [← HNM.out, ← HVL.out] at hput
        exact ⟨⟨a1, a2⟩, hpr1.cell (k * 2) (by omega), hpr1.cell (k * 2 + 1) (by omega), hpr1.frozen _, hpr1.frozen _, hput, hy, by rw [cell_set_other _ _ _ _ _ _ (by omega), cell_set_other _ _ _ _ _ _ (by omega)]; exact a1, by rw [cell_set_other _ _ _ _ _ _ (by omega), cell_set_other _ _ _ _ _ _ (by omega)]; exact a2⟩
      go_wp2
      go_region_held3 (fun w' => w'.cell? ⟨g, k * 2, none⟩ = some (.string nm) ∧ w'.cell? ⟨g, k * 2 + 1, none⟩ = some (.string vl)) (first | assumption | go_keep) (first | (go_at_call 85; refine (newField_any nm vl _ z1 z2).mono ?_; rintro e w1 ⟨rfl, hb1⟩; obtain ⟨hcc, ⟨u0, hu0⟩, ⟨u1, hu1⟩, f0, f1, HPUT, hb2, hs1, hs2⟩ := HA.out _ w1 ((Below.refl _ wr).drew) hb1))
      go_wp2
      go_roundw
      case rel => exact ⟨k + 1, by omega, by go_num, HPUT, (hb2.setCell (Nat.le_refl _) _).setCell (Nat.le_refl _) _⟩
      case measure => simp [intOf]; omega
    · obtain rfl : k = n := by omega
      go_wp2
      go_ret
      exact ⟨_, rfl, by rw [hlen]; exact hpr.out.owns hlen (by unfold maxLen; omega) (Nat.le_refl _), hbw⟩

end Go.Proofs.YtajccgffallajaaGreat

namespace Go.Proofs.YtajccgffallajaaGreat
open Go.RowKit
open Go.Lib hiding intOf

/-- 'wpAnyH_take', its place named. -/
theorem wpAnyH_takeD {P : Program} {ops : Array Oper} {Q : Exit → Act → World → Prop} {md : Region.Mode} {S : World → Prop} {i : Nat} {oi : Oper} {v : Value} {fuel : Nat} {listed : Array Bool} {a : Act} {w : World} (d : Option Tmp) (hi : ops[i]? = some oi) (hd : oi.dst = d)
    (hs : Region.noSelect ops = true) (hf : Region.free md ops listed i = true) (hr : (Region.ready md ops listed).contains i = true)
    (hQ : ∀ c a w, Q (.panic c) (a.put oi.dst v) w → Q (.panic c) a w) (hy : YieldsIf P ops S oi v a) (hS : S w)
    (h : wpAnyH P md ops Q S fuel (listed.setIfInBounds i true) (a.put d v) w) : wpAnyH P md ops Q S (fuel + 1) listed a w :=
  wpAnyH_take hi hs hf hr hQ hy hS (hd ▸ h)
end Go.Proofs.YtajccgffallajaaGreat

namespace Go.Proofs.YtajccgffallajaaGreat
open Go.RowKit
open Go.Lib hiding intOf

/-- A store that was measured. -/
structure ShSmall (s : ShD) : Prop where
  c : s.cs.length ≤ 1048576
  w : s.ws.length ≤ 1048576
  k : s.ks.length ≤ 1048576
  b : s.bl.length ≤ 1048576
  ct : ∀ i, i < s.cs.length → (textAt s.cs i).size ≤ 1048576
  wt : ∀ x ∈ s.ws, x.2.size ≤ 1048576
  ks : ∀ k ∈ s.ks, KpSmall k
  bt : ∀ x ∈ s.bl, x.2.1.size ≤ 1048576 ∧ x.2.2.1.size ≤ 1048576
end Go.Proofs.YtajccgffallajaaGreat

namespace Go.Proofs.YtajccgffallajaaGreat
open Go.RowKit
open Go.Lib hiding intOf

/-- A cache that was measured. -/
structure CaSmall (y : CaD) : Prop where
  s : ShSmall y.s
  fl : ∀ k ∈ y.fl, FlSmall k
  se : ∀ k ∈ y.se, SeSmall k
  sn : ∀ k ∈ y.sn, RpSmall k
  nf : y.fl.length ≤ 1048576
  ne : y.se.length ≤ 1048576
  nr : y.sn.length ≤ 1048576
end Go.Proofs.YtajccgffallajaaGreat

namespace Go.Proofs.YtajccgffallajaaGreat
open Go.RowKit
open Go.Lib hiding intOf

theorem owns_cap {w : World} {B T z : Nat} {o : Option Addr} {n c : Nat} {cs : List Value} (h : w.ownsRow B T z (.slice o n c) n cs) : n ≤ c := by
  rcases h.2 with ⟨h1, _⟩ | ⟨g, cap, cur, h1, _, _, h2, _⟩
  · injection h1 with _ h3 _
    omega
  · injection h1 with _ h3 h4
    omega
theorem RpAt.range {w : World} {g i : Nat} {x : RpV} (h : RpAt w g i x) : w.rangeAt g (i * 18) (rpC x) := range_cons h.c0 (range_cons h.c1 (range_cons h.c2 (range_cons h.c3 (range_cons h.c4 (range_cons h.c5 (range_cons h.c6 (range_cons h.c7 (range_cons h.c8 (range_cons h.c9 (range_cons h.c10 (range_cons h.c11 (range_cons h.c12 (range_cons h.c13 (range_cons h.c14 (range_cons h.c15 (range_cons h.c16 (range_cons h.c17 (range_nil _ _ _))))))))))))))))))
end Go.Proofs.YtajccgffallajaaGreat

namespace Go.Proofs.YtajccgffallajaaGreat
open Go.RowKit
open Go.Lib hiding intOf

/-- A call answers a register. -/
def RegIs (f : Int → Option Nat) (w : World) (e : Ending) (w' : World) : Prop := ∃ (sb bm n : Nat) (D : DataW Value), e = .returned (.pointer (some ⟨sb, 0, none⟩)) ∧ RegO w' sb bm n D f ∧ w.heap.size ≤ sb ∧ w.heap.size ≤ bm ∧ Below w.heap.size w w'

set_option maxHeartbeats 8000000 in
set_option maxRecDepth 100000 in
theorem registerOf_any (v1 v2 V VB F E R : Value) (kv : List (KpD × Value × Value × Value)) (fv : List FlV) (ev : List SeV) (rv : List RpV) (c : CaD) (B : Nat) (w : World) (h : CacheO w B v1 v2 V VB F E R kv fv ev rv c) (hz : CaSmall c) (hcl : ∀ k ∈ c.sn, -9223372036854775808 ≤ k.cli ∧ k.cli ≤ 9223372036854775807) :
    Calls Tryz.prog 22 #[R] w fun e w' => RegIs (firstTo c.sn c.sn.length) w e w' := by
  obtain ⟨o1, c1, rfl⟩ := slice_of_owns h.shelf.disk.cells
  obtain ⟨o2, c2, rfl⟩ := slice_of_owns h.shelf.disk.pend
  obtain ⟨o3, c3, rfl⟩ := h.shelf.kept.len
  obtain ⟨o4, c4, rfl⟩ := slice_of_owns h.shelf.bans
  obtain ⟨o5, c5, rfl⟩ := h.fls.len
  obtain ⟨o6, c6, rfl⟩ := h.ses.len
  obtain ⟨o7, c7, rfl⟩ := h.rps.len
  obtain ⟨n3, hn3⟩ : ∃ n, n = kv.length := ⟨_, rfl⟩
  obtain ⟨n4, hn4⟩ : ∃ n, n = c.s.bl.length := ⟨_, rfl⟩
  obtain ⟨n5, hn5⟩ : ∃ n, n = fv.length := ⟨_, rfl⟩
  obtain ⟨n6, hn6⟩ : ∃ n, n = ev.length := ⟨_, rfl⟩
  obtain ⟨n7, hn7⟩ : ∃ n, n = rv.length := ⟨_, rfl⟩
  rw [← hn3, ← hn4, ← hn5, ← hn6, ← hn7] at h
  rw [← hn7]
  have HLK : Hid (kv.length = n3) := hn3.symm
  have HLB : Hid (c.s.bl.length = n4) := hn4.symm
  have HLF : Hid (fv.length = n5) := hn5.symm
  have HLE : Hid (ev.length = n6) := hn6.symm
  have HLR : Hid (rv.length = n7) := hn7.symm
  have HLC : Hid (c.fl.length = n5 ∧ c.se.length = n6 ∧ c.sn.length = n7 ∧ c.s.ks.length = n3) := ⟨by rw [← h.hf, List.length_map, hn5], by rw [← h.he, List.length_map, hn6], by rw [← h.hr, List.length_map, hn7], by rw [← h.hk, List.length_map, hn3]⟩
  have HFD : Hid (fv.map (·.d) = c.fl) := h.hf
  have HED : Hid (ev.map (·.d) = c.se) := h.he
  have HRD : Hid (rv.map (·.d) = c.sn) := h.hr
  have HKS : Hid (kv.map (·.1) = c.s.ks) := h.hk
  have HZ : Hid (CaSmall c) := hz
  have bn3 : n3 ≤ 1048576 := by rw [← HLC.out.2.2.2]; exact hz.s.k
  have bn4 : n4 ≤ 1048576 := by rw [← HLB.out]; exact hz.s.b
  have bn5 : n5 ≤ 1048576 := by rw [← HLC.out.1]; exact hz.nf
  have bn6 : n6 ≤ 1048576 := by rw [← HLC.out.2.1]; exact hz.ne
  have bn7 : n7 ≤ 1048576 := by rw [← HLC.out.2.2.1]; exact hz.nr
  have HCA : Hid (∀ W, Below w.heap.size w W → CacheO W B (.slice o1 c.s.cs.length c1) (.slice o2 c.s.ws.length c2) (.slice o3 n3 c3) (.slice o4 n4 c4) (.slice o5 n5 c5) (.slice o6 n6 c6) (.slice o7 n7 c7) kv fv ev rv c) := fun W hb => h.below hb
  have HKP : Hid (∀ W, Below w.heap.size w W → KeptsO W B (.slice o3 n3 c3) kv) := fun W hb => (h.below hb).shelf.kept
  have HBN : Hid (∀ W, Below w.heap.size w W → BanA W o4 n4 c.s.bl) := fun W hb => by
    have h1 := (h.below hb).shelf.bans
    rw [HLB.out] at h1
    exact ban_view h1
  have HC4 : Hid (n4 ≤ c4) := by
    have h1 := h.shelf.bans
    rw [HLB.out] at h1
    exact owns_cap h1
  clear hn3 hn4 hn5 hn6 hn7 h hz
  have HCL : Hid (∀ k ∈ c.sn, (Lit.int .i64 k.cli).wf = true) := fun k hk => WalkArith.wf_i64 (hcl k hk)
  clear hcl
  have hmm : ∀ W : World, (Instr.makeMap 119 none).run Tryz.prog W = .ok (.map (some W.heap.size)) (W.alloc (.map #[] 0)) := fun W => run_makeMap _ W
  have hb0 : Below w.heap.size w w := Below.refl _ _
  go_enter Tryz.func22, Tryz.ntmps22
  go_wp2_with fail
  obtain ⟨bm, hbm⟩ : ∃ q, q = w.heap.size := ⟨_, rfl⟩
  obtain ⟨w1, hw1⟩ : ∃ W, W = w.alloc (.map #[] 0) := ⟨_, rfl⟩
  have hs1 : w1.heap.size = bm + 1 := by rw [hw1, hbm]; simp
  have bw1 : Below w.heap.size w w1 := by rw [hw1]; exact (Below.refl _ _).alloc (Nat.le_refl _) _
  have HM1 : Hid (w1.ownsMap Tryz.prog 3 (plainElem Tryz.prog 3) bm 0 (.map [] : DataW Value)) := by show World.ownsMap _ _ _ _ _ _ _; rw [hw1, hbm]; exact World.ownsMap_made _ _ _ _
  obtain ⟨sb, hsb⟩ : ∃ q, q = w1.heap.size := ⟨_, rfl⟩
  obtain ⟨w2, hw2⟩ : ∃ W, W = w1.alloc (.cells #[.int .i32 0, .int .u32 0, .map (some bm)] 128) := ⟨_, rfl⟩
  have bw2 : Below w1.heap.size w1 w2 := by rw [hw2]; exact (Below.refl _ _).alloc (Nat.le_refl _) _
  have HREG : Hid (RegO w2 sb bm 0 (.map []) (firstTo c.sn 0)) := ⟨by rw [hw2, hsb]; exact heap_alloc_new _ _, map_below HM1.out bw2, fun x _ => rfl, fun x j _ h => nomatch h⟩
  have HBL : Hid (Below w.heap.size w w2) := bw1.trans (bw2.mono bw1.size)
  have HSB : Hid (w.heap.size ≤ sb) := by show _ ≤ _; rw [hsb]; exact bw1.size
  have HBM : Hid (w.heap.size ≤ bm) := by show _ ≤ _; omega
  have hsb2 : sb = w.heap.size + 1 := by rw [hsb, hs1, hbm]
  have hw2e : ((w.alloc (.map #[] 0)).alloc (.cells #[.int .i32 0, .int .u32 0, .map (some w.heap.size)] 128)) = w2 := by rw [hw2, hw1, hbm]
  first | rw [hw2e] | (simp only [World.alloc] at hw2e ⊢; rw [hw2e])
  first | rw [← hsb2] | skip
  clear hbm hw1 hs1 bw1 hsb hw2 bw2 hsb2 hw2e HM1 hb0
  go_loopw [11] (fun i wr => ∃ (i' m : Nat) (D : DataW Value), i' ≤ n7 ∧ m ≤ i' ∧ i = .int .i64 (i' : Int) ∧ Hid (Below w.heap.size w wr) ∧ Hid (RegO wr sb bm m D (firstTo c.sn i'))) (fun i _ => n7 - (intOf i).toNat)
  case atStart => exact ⟨0, 0, .map [], Nat.zero_le _, Nat.le_refl _, rfl, HBL, HREG⟩
  case round =>
    clear HBL HREG
    obtain ⟨i, m, D, hi', hm', rfl, HW, HG⟩ := hrel
    by_cases hlt : (i : Int) < (n7 : Int)
    · have hb1 := HW.out
      clear HW
      have EG_1 : Hid (RegO wr sb bm m D (firstTo c.sn i)) := HG.out
      clear HG
      obtain ⟨g7, p7, hV, _, _⟩ := (HCA.out _ hb1).rps.look i (by rw [HLR.out]; omega)
      rw [HLR.out] at hV
      injection hV with hV1 hV2 hV3
      subst hV1 hV3
      clear hV2
      obtain ⟨dX, hdX⟩ : ∃ x, x = rpvAt rv i := ⟨_, rfl⟩
      have HMd : Hid (dX ∈ rv) := by show _ ∈ _; rw [hdX]; exact getD_mem0 _ rv i (by rw [HLR.out]; omega)
      have HEd : Hid (rpAt c.sn i = dX.d) := by show _ = _; rw [hdX, ← HRD.out]; exact getD_map0 _ _ _ rv i (by rw [HLR.out]; omega)
      have HKd : Hid (∀ W, Below w.heap.size w W → RpAt W g7 i dX) := fun W hb => by
        obtain ⟨g', p', hV, _, hc⟩ := (HCA.out W hb).rps.look i (by rw [HLR.out]; omega)
        injection hV with hV1 _ _
        cases hV1
        rw [hdX]
        exact hc
      have HRd : Hid (∀ W, Below w.heap.size w W → RowsO W B (rpR dX)) := fun W hb => (HCA.out W hb).rps.item HMd.out
      have HSd : Hid (RpSmall dX.d) := HZ.out.sn _ (by rw [← HRD.out]; exact List.mem_map.2 ⟨_, HMd.out, rfl⟩)
      clear hdX
      obtain ⟨d, kuv3, kuv6, kuv11, kuv12, kuv14⟩ := dX
      obtain ⟨ku3, kuc3, hu⟩ := slice_of_owns ((HRd.out _ hb1).own (⟨135, 2, kuv3, d.qfs.length, flatF d.qfs⟩ : Rw) (by simp [rpR]))
      obtain rfl : kuv3 = .slice ku3 d.qfs.length kuc3 := hu
      obtain ⟨ku6, kuc6, hu⟩ := slice_of_owns ((HRd.out _ hb1).own (⟨135, 2, kuv6, d.rfs.length, flatF d.rfs⟩ : Rw) (by simp [rpR]))
      obtain rfl : kuv6 = .slice ku6 d.rfs.length kuc6 := hu
      obtain ⟨ku11, kuc11, hu⟩ := slice_of_owns ((HRd.out _ hb1).own (⟨9, 1, kuv11, d.oxs.length, d.oxs.map Value.string⟩ : Rw) (by simp [rpR]))
      obtain rfl : kuv11 = .slice ku11 d.oxs.length kuc11 := hu
      obtain ⟨ku12, kuc12, hu⟩ := slice_of_owns ((HRd.out _ hb1).own (⟨9, 1, kuv12, d.oys.length, d.oys.map Value.string⟩ : Rw) (by simp [rpR]))
      obtain rfl : kuv12 = .slice ku12 d.oys.length kuc12 := hu
      obtain ⟨ku14, kuc14, hu⟩ := slice_of_owns ((HRd.out _ hb1).own (⟨135, 2, kuv14, d.ofs.length, flatF d.ofs⟩ : Rw) (by simp [rpR]))
      obtain rfl : kuv14 = .slice ku14 d.ofs.length kuc14 := hu
      have hwd : (Lit.int .i64 d.cli).wf = true := HCL.out d (by rw [← HRD.out]; exact List.mem_map.2 ⟨_, HMd.out, rfl⟩)
      have HRGe7 : World.rangeAt (wr) g7 (i * 18) [.int .i64 d.cli, .int .i64 d.qmt, .string d.qpa, .slice ku3 d.qfs.length kuc3, .string d.qbd, .int .i64 d.rst, .slice ku6 d.rfs.length kuc6, .string d.rbd, .int .i64 d.knd, .int .i64 d.tim, .string d.opa, .slice ku11 d.oxs.length kuc11, .slice ku12 d.oys.length kuc12, .int .i64 d.ost, .slice ku14 d.ofs.length kuc14, .string d.obd, .int .i64 d.otm, .int .i64 d.bns] := RpAt.range (HKd.out _ hb1)
      have HIFe7 : (Tryz.prog.info? 68).map (·.size) = some 18 := by kernel_rfl
      have HTHa : World.there ((wr).alloc (.cells #[.int .i64 0, .int .i64 0, .string ⟨#[]⟩, .slice none 0 0, .string ⟨#[]⟩, .int .i64 0, .slice none 0 0, .string ⟨#[]⟩, .int .i64 0, .int .i64 0, .string ⟨#[]⟩, .slice none 0 0, .slice none 0 0, .int .i64 0, .slice none 0 0, .string ⟨#[]⟩, .int .i64 0, .int .i64 0] 68)) (wr).heap.size 0 18 := there_of (heap_alloc_new _ _) rfl
      have HIFa : (Tryz.prog.info? 68).map (·.size) = some 18 := by kernel_rfl
      have HWEa : Hid (((wr).alloc (.cells #[.int .i64 0, .int .i64 0, .string ⟨#[]⟩, .slice none 0 0, .string ⟨#[]⟩, .int .i64 0, .slice none 0 0, .string ⟨#[]⟩, .int .i64 0, .int .i64 0, .string ⟨#[]⟩, .slice none 0 0, .slice none 0 0, .int .i64 0, .slice none 0 0, .string ⟨#[]⟩, .int .i64 0, .int .i64 0] 68)).setCells (wr).heap.size 0 (#[.int .i64 d.cli, .int .i64 d.qmt, .string d.qpa, .slice ku3 d.qfs.length kuc3, .string d.qbd, .int .i64 d.rst, .slice ku6 d.rfs.length kuc6, .string d.rbd, .int .i64 d.knd, .int .i64 d.tim, .string d.opa, .slice ku11 d.oxs.length kuc11, .slice ku12 d.oys.length kuc12, .int .i64 d.ost, .slice ku14 d.ofs.length kuc14, .string d.obd, .int .i64 d.otm, .int .i64 d.bns] : Array Value).toList = (wr).alloc (.cells #[.int .i64 d.cli, .int .i64 d.qmt, .string d.qpa, .slice ku3 d.qfs.length kuc3, .string d.qbd, .int .i64 d.rst, .slice ku6 d.rfs.length kuc6, .string d.rbd, .int .i64 d.knd, .int .i64 d.tim, .string d.opa, .slice ku11 d.oxs.length kuc11, .slice ku12 d.oys.length kuc12, .int .i64 d.ost, .slice ku14 d.ofs.length kuc14, .string d.obd, .int .i64 d.otm, .int .i64 d.bns] 68)) := alloc_whole rfl
      go_upto_region 5 with (first | (refine wpList_load_mid rfl 68 _ rfl g7 (i * 18) rfl [.int .i64 d.cli, .int .i64 d.qmt, .string d.qpa, .slice ku3 d.qfs.length kuc3, .string d.qbd, .int .i64 d.rst, .slice ku6 d.rfs.length kuc6, .string d.rbd, .int .i64 d.knd, .int .i64 d.tim, .string d.opa, .slice ku11 d.oxs.length kuc11, .slice ku12 d.oys.length kuc12, .int .i64 d.ost, .slice ku14 d.ofs.length kuc14, .string d.obd, .int .i64 d.otm, .int .i64 d.bns] _ HRGe7 Tryz.underlying68 rfl HIFe7 ?_) | (refine wpList_store_mid rfl 68 _ _ rfl (wr).heap.size 0 #[.int .i64 d.cli, .int .i64 d.qmt, .string d.qpa, .slice ku3 d.qfs.length kuc3, .string d.qbd, .int .i64 d.rst, .slice ku6 d.rfs.length kuc6, .string d.rbd, .int .i64 d.knd, .int .i64 d.tim, .string d.opa, .slice ku11 d.oxs.length kuc11, .slice ku12 d.oys.length kuc12, .int .i64 d.ost, .slice ku14 d.ofs.length kuc14, .string d.obd, .int .i64 d.otm, .int .i64 d.bns] rfl rfl HTHa HIFa (by simp [Value.oneCell']) ?_; rw [HWEa.out]) | fail)
      clear HTHa HIFa HWEa
      obtain ⟨qv1, hqv1⟩ : ∃ q, q = (wr).heap.size := ⟨_, rfl⟩
      obtain ⟨w2, hW2⟩ : ∃ W, W = (wr).alloc (.cells #[.int .i64 d.cli, .int .i64 d.qmt, .string d.qpa, .slice ku3 d.qfs.length kuc3, .string d.qbd, .int .i64 d.rst, .slice ku6 d.rfs.length kuc6, .string d.rbd, .int .i64 d.knd, .int .i64 d.tim, .string d.opa, .slice ku11 d.oxs.length kuc11, .slice ku12 d.oys.length kuc12, .int .i64 d.ost, .slice ku14 d.ofs.length kuc14, .string d.obd, .int .i64 d.otm, .int .i64 d.bns] 68) := ⟨_, rfl⟩
      have hz2 : (wr).heap.size = qv1 := hqv1.symm
      first | rw [← hW2, ← hqv1] | rw [← hW2]
      have hs2 : w2.heap.size = qv1 + 1 := by rw [hW2, ← hz2]; simp
      have bw : Below (wr).heap.size (wr) w2 := by rw [hW2]; exact (Below.refl _ _).alloc (Nat.le_refl _) _
      have hb2 : Below w.heap.size w (w2) := hb1.trans (bw.mono hb1.size)
      have EG_2 : Hid (RegO w2 sb bm m D (firstTo c.sn i)) := EG_1.out.below bw
      have HBv1_2 : Hid ((w2).heap[qv1]? = some (.cells #[.int .i64 d.cli, .int .i64 d.qmt, .string d.qpa, .slice ku3 d.qfs.length kuc3, .string d.qbd, .int .i64 d.rst, .slice ku6 d.rfs.length kuc6, .string d.rbd, .int .i64 d.knd, .int .i64 d.tim, .string d.opa, .slice ku11 d.oxs.length kuc11, .slice ku12 d.oys.length kuc12, .int .i64 d.ost, .slice ku14 d.ofs.length kuc14, .string d.obd, .int .i64 d.otm, .int .i64 d.bns] 68)) := by show _ = _; rw [hW2, ← hz2]; exact heap_alloc_new _ _
      clear hb1 EG_1 bw hW2 hz2
      clear hs2 hqv1
      clear HRGe7 HIFe7
      have cv1_0 : (w2).cell? ⟨qv1, 0, none⟩ = some (.int .i64 d.cli) := (cell_of HBv1_2.out 0).trans rfl
      clear HBv1_2
      go_wp2_with fail
      refine (enter_any sb bm m D (firstTo c.sn i) d.cli i _ EG_2.out (by unfold maxLen; omega) (by omega) hwd w.heap.size hb2.size HSB.out HBM.out).mono ?_
      rintro e w3 ⟨rfl, m2, D2, hm2, hreg2, bwb⟩
      have HREG2 : Hid (RegO w3 sb bm m2 D2 (updF (firstTo c.sn i) d.cli i)) := hreg2
      have bw : Below w.heap.size (w2) w3 := bwb
      clear hreg2 bwb EG_2
      have hb3 : Below w.heap.size w (w3) := hb2.trans bw
      clear bw hwd hb2
      clear cv1_0
      go_wp2_with fail
      go_roundw
      case rel => exact ⟨i + 1, m2, D2, by omega, by omega, by go_num, hb3, by show RegO _ _ _ _ _ _; rw [firstTo, HEd.out]; exact HREG2.out⟩
      case measure => simp [intOf]; omega
    · have hb1 := HW.out
      clear HW
      have EG_1 : Hid (RegO wr sb bm m D (firstTo c.sn i)) := HG.out
      clear HG
      obtain rfl : n7 = i := by omega
      go_wp2_with fail
      go_ret
      exact ⟨sb, bm, m, D, rfl, by show RegO _ _ _ _ _ _; rw [HLC.out.2.2.1]; exact EG_1.out, HSB.out, HBM.out, hb1⟩

end Go.Proofs.YtajccgffallajaaGreat

namespace Go.Proofs.YtajccgffallajaaGreat
open Go.RowKit
open Go.Lib hiding intOf

set_option maxHeartbeats 8000000 in
set_option maxRecDepth 100000 in
theorem copiedResp_any (st : Int) (u : Value) (d : ByteArray) (k base : Nat) (gs : List (ByteArray × ByteArray)) (w : World) (hu : FieldsV w base u k gs) (hk : k ≤ 1999999) (hc2 : CopyF gs) (hd : d.size ≤ 281474976710656) :
    Calls Tryz.prog 24 #[.agg #[.int .i64 st, u, .string d]] w fun e w' => ∃ v, e = .returned (.agg #[.int .i64 st, v, .string d]) ∧ w'.ownsRow w.heap.size 135 2 v gs.length (flatF gs) ∧ Below w.heap.size w w' := by
  obtain ⟨ob, cb, rfl, _⟩ := hu.slice
  have HV2 : Hid (∀ W, Below w.heap.size w W → FieldsV W base (.slice ob k cb) k gs) := fun W h => hu.below h
  have HLG : Hid (gs.length = k) := hu.len
  have HC2 : Hid (CopyF gs) := hc2
  have HDM : Hid (d.size ≤ 281474976710656) := hd
  clear hu hc2 hd
  have hb0 : Below w.heap.size w w := Below.refl _ _
  go_enter Tryz.func24, Tryz.ntmps24
  go_upto_region 1 with fail
  obtain ⟨qv1, hqv1⟩ : ∃ q, q = (w).heap.size := ⟨_, rfl⟩
  obtain ⟨w1, hW1⟩ : ∃ W, W = (w).alloc (.cells #[.int .i64 st, .slice ob k cb, .string d] 38) := ⟨_, rfl⟩
  have hz1 : (w).heap.size = qv1 := hqv1.symm
  first | rw [← hW1, ← hqv1] | rw [← hW1]
  have hs1 : w1.heap.size = qv1 + 1 := by rw [hW1, ← hz1]; simp
  have bw : Below (w).heap.size (w) w1 := by rw [hW1]; exact (Below.refl _ _).alloc (Nat.le_refl _) _
  have hb1 : Below w.heap.size w (w1) := hb0.trans (bw.mono hb0.size)
  have HBv1_1 : Hid ((w1).heap[qv1]? = some (.cells #[.int .i64 st, .slice ob k cb, .string d] 38)) := by show _ = _; rw [hW1, ← hz1]; exact heap_alloc_new _ _
  clear hb0 bw hW1 hz1
  obtain ⟨qv2, hqv2⟩ : ∃ q, q = qv1 + 1 := ⟨_, rfl⟩
  obtain ⟨w2, hW2⟩ : ∃ W, W = (w1).alloc (.cells #[.int .i64 0, .slice none 0 0, .string ⟨#[]⟩] 38) := ⟨_, rfl⟩
  have hz2 : (w1).heap.size = qv2 := by rw [hqv2]; exact hs1
  first | rw [← hW2, ← hqv2] | rw [← hW2]
  have hs2 : w2.heap.size = qv2 + 1 := by rw [hW2, ← hz2]; simp
  have bw : Below (w1).heap.size (w1) w2 := by rw [hW2]; exact (Below.refl _ _).alloc (Nat.le_refl _) _
  have hb2 : Below w.heap.size w (w2) := hb1.trans (bw.mono hb1.size)
  have HBv1_2 : Hid ((w2).heap[qv1]? = some (.cells #[.int .i64 st, .slice ob k cb, .string d] 38)) := blk_below HBv1_1.out bw
  have HNv1v2 : Hid (qv1 ≠ qv2) := fun e => by have h1 := (Array.getElem?_eq_some_iff.1 HBv1_1.out).1; omega
  have HBv2_2 : Hid ((w2).heap[qv2]? = some (.cells #[.int .i64 0, .slice none 0 0, .string ⟨#[]⟩] 38)) := by show _ = _; rw [hW2, ← hz2]; exact heap_alloc_new _ _
  have HGv2 : Hid (w.heap.size ≤ qv2) := by show _ ≤ _; rw [← hz2]; exact hb1.size
  clear hb1 HBv1_1 bw hW2 hz2
  clear hs2 hqv2 hs1 hqv1
  go_upto_region 1 with fail
  refine wp_region_held_drew (S := fun W => W.heap[qv1]? = some (.cells #[.int .i64 st, .slice ob k cb, .string d] 38)) (by kernel_rfl) HBv1_2.out (fun _ => ?_)
  obtain ⟨w3, hX⟩ : ∃ X, X = w2.drew := ⟨_, rfl⟩
  have bw : Below w2.heap.size w2 w3 := by rw [hX]; exact (Below.refl _ _).drew
  rw [← hX]
  have hb3 : Below w.heap.size w (w3) := hb2.trans (bw.mono hb2.size)
  have HBv1_3 : Hid ((w3).heap[qv1]? = some (.cells #[.int .i64 st, .slice ob k cb, .string d] 38)) := blk_below HBv1_2.out bw
  have HBv2_3 : Hid ((w3).heap[qv2]? = some (.cells #[.int .i64 0, .slice none 0 0, .string ⟨#[]⟩] 38)) := blk_below HBv2_2.out bw
  have hS3 : w3.heap[qv1]? = some (.cells #[.int .i64 st, .slice ob k cb, .string d] 38) := HBv1_3.out
  clear hb2 HBv1_2 HBv2_2 bw hX
  refine wpAnyH_takeD (i := 0) (v := .pointer (some ⟨qv1, 0, none⟩)) (some 3) rfl rfl (by kernel_rfl) (by kernel_rfl) (by kernel_rfl) (fun _ _ _ h => h) (Or.inl ⟨by rfl, by intro W _; go_simp⟩) hS3 ?_
  simp only [Act.put, List.setIfInBounds_toArray, List.set_cons_zero, List.set_cons_succ]
  refine wpAnyH_takeD (i := 1) (v := .int .i64 st) (some 4) rfl rfl (by kernel_rfl) (by kernel_rfl) (by kernel_rfl) (fun _ _ _ h => h) (Or.inl ⟨by rfl, by intro W hW; have hhv1 := hW; have y0 := (cell_of hhv1 0).trans rfl; go_simp⟩) hS3 ?_
  simp only [Act.put, List.setIfInBounds_toArray, List.set_cons_zero, List.set_cons_succ]
  refine wpAnyH_takeD (i := 2) (v := .pointer (some ⟨qv1, 1, none⟩)) (some 5) rfl rfl (by kernel_rfl) (by kernel_rfl) (by kernel_rfl) (fun _ _ _ h => h) (Or.inl ⟨by rfl, by intro W _; go_simp⟩) hS3 ?_
  simp only [Act.put, List.setIfInBounds_toArray, List.set_cons_zero, List.set_cons_succ]
  refine wpAnyH_takeD (i := 3) (v := .slice ob k cb) (some 6) rfl rfl (by kernel_rfl) (by kernel_rfl) (by kernel_rfl) (fun _ _ _ h => h) (Or.inl ⟨by rfl, by intro W hW; have hhv1 := hW; have y1 := (cell_of hhv1 1).trans rfl; go_simp⟩) hS3 ?_
  simp only [Act.put, List.setIfInBounds_toArray, List.set_cons_zero, List.set_cons_succ]
  refine wpAnyH_takeD (i := 5) (v := .pointer (some ⟨qv1, 2, none⟩)) (some 8) rfl rfl (by kernel_rfl) (by kernel_rfl) (by kernel_rfl) (fun _ _ _ h => h) (Or.inl ⟨by rfl, by intro W _; go_simp⟩) hS3 ?_
  simp only [Act.put, List.setIfInBounds_toArray, List.set_cons_zero, List.set_cons_succ]
  refine wpAnyH_takeD (i := 6) (v := .string d) (some 9) rfl rfl (by kernel_rfl) (by kernel_rfl) (by kernel_rfl) (fun _ _ _ h => h) (Or.inl ⟨by rfl, by intro W hW; have hhv1 := hW; have y2 := (cell_of hhv1 2).trans rfl; go_simp⟩) hS3 ?_
  simp only [Act.put, List.setIfInBounds_toArray, List.set_cons_zero, List.set_cons_succ]
  refine wpAnyH_ready (rs := [4]) (by kernel_rfl) (by simp) ?_
  refine AllReadyH.cons rfl (fun K hK => ?_) AllReadyH.nil
  go_simp
  refine (copied_any _ k base gs _ (HV2.out _ hb3) (by omega) HC2.out).mono ?_
  rintro e w4 ⟨vv, rfl, ownG, bw⟩
  obtain ⟨oG, pG, rfl⟩ := slice_of_owns ownG
  rw [HLG.out] at ownG ⊢
  have hb4 : Below w.heap.size w (w4) := hb3.trans (bw.mono hb3.size)
  have HBv1_4 : Hid ((w4).heap[qv1]? = some (.cells #[.int .i64 st, .slice ob k cb, .string d] 38)) := blk_below HBv1_3.out bw
  have HBv2_4 : Hid ((w4).heap[qv2]? = some (.cells #[.int .i64 0, .slice none 0 0, .string ⟨#[]⟩] 38)) := blk_below HBv2_3.out bw
  have HOG_4 : Hid ((w4).ownsRow w.heap.size 135 2 (.slice oG k pG) k (flatF gs)) := owns_wide ownG hb3.size
  clear ownG
  clear hb3 HBv1_3 HBv2_3 bw
  have hS4 : w4.heap[qv1]? = some (.cells #[.int .i64 st, .slice ob k cb, .string d] 38) := HBv1_4.out
  refine hK.out _ _ hS4 (fun _ => ?_)
  clear hK K hS3
  refine wpAnyH_ready (rs := [7]) (by kernel_rfl) (by simp) ?_
  refine AllReadyH.cons rfl (fun K hK => ?_) AllReadyH.nil
  go_simp
  refine (clone_any d _ HDM.out).mono ?_
  rintro e w5 ⟨rfl, bw⟩
  have hb5 : Below w.heap.size w (w5) := hb4.trans (bw.mono hb4.size)
  have HOG_5 : Hid ((w5).ownsRow w.heap.size 135 2 (.slice oG k pG) k (flatF gs)) := owns_below HOG_4.out bw (fun g hg => owns_lt HOG_4.out hg)
  have HBv1_5 : Hid ((w5).heap[qv1]? = some (.cells #[.int .i64 st, .slice ob k cb, .string d] 38)) := blk_below HBv1_4.out bw
  have HBv2_5 : Hid ((w5).heap[qv2]? = some (.cells #[.int .i64 0, .slice none 0 0, .string ⟨#[]⟩] 38)) := blk_below HBv2_4.out bw
  clear hb4 HOG_4 HBv1_4 HBv2_4 bw
  have hS5 : w5.heap[qv1]? = some (.cells #[.int .i64 st, .slice ob k cb, .string d] 38) := HBv1_5.out
  refine hK.out _ _ hS5 (fun _ => ?_)
  clear hK K hS4
  refine wpAnyH_takeD (i := 8) (v := .agg #[.int .i64 st, .slice oG k pG, .string d]) (some 11) rfl rfl (by kernel_rfl) (by kernel_rfl) (by kernel_rfl) (fun _ _ _ h => h) (Or.inl ⟨by rfl, by intro W _; go_simp⟩) hS5 ?_
  simp only [Act.put, List.setIfInBounds_toArray, List.set_cons_zero, List.set_cons_succ]
  refine wpAnyH_ready (rs := [9]) (by kernel_rfl) (by simp) ?_
  refine AllReadyH.cons rfl (fun K hK => ?_) AllReadyH.nil
  have ce0 : (w5).cell? ⟨qv2, 0, none⟩ = some (.int .i64 0) := (cell_of HBv2_5.out 0).trans rfl
  have fe0 : (w5).frozen? ⟨qv2, 0, none⟩ = false := frozen_of HBv2_5.out 0
  have ce1 : (w5).cell? ⟨qv2, 1, none⟩ = some (.slice none 0 0) := (cell_of HBv2_5.out 1).trans rfl
  have fe1 : (w5).frozen? ⟨qv2, 1, none⟩ = false := frozen_of HBv2_5.out 1
  have ce2 : (w5).cell? ⟨qv2, 2, none⟩ = some (.string ⟨#[]⟩) := (cell_of HBv2_5.out 2).trans rfl
  have fe2 : (w5).frozen? ⟨qv2, 2, none⟩ = false := frozen_of HBv2_5.out 2
  obtain ⟨w6, hY⟩ : ∃ Y, Y = (((w5.setCell ⟨qv2, 0, none⟩ (.int .i64 st)).setCell ⟨qv2, 1, none⟩ (.slice oG k pG)).setCell ⟨qv2, 2, none⟩ (.string d)) := ⟨_, rfl⟩
  have HY : Hid ((((w5.setCell ⟨qv2, 0, none⟩ (.int .i64 st)).setCell ⟨qv2, 1, none⟩ (.slice oG k pG)).setCell ⟨qv2, 2, none⟩ (.string d)) = w6) := hY.symm
  have hb6 : Below w.heap.size w (w6) := by rw [hY]; exact (((hb5.setCell (p := ⟨qv2, 0, none⟩) HGv2.out _).setCell (p := ⟨qv2, 1, none⟩) HGv2.out _).setCell (p := ⟨qv2, 2, none⟩) HGv2.out _)
  have HOG_6 : Hid ((w6).ownsRow w.heap.size 135 2 (.slice oG k pG) k (flatF gs)) := by show World.ownsRow _ _ _ _ _ _ _; rw [hY]; exact owns_same HOG_5.out (fun g hg => by have hne := own_ne HOG_5.out HBv2_5.out (by decide) g hg; rw [heap_setCell_other _ _ g _ hne, heap_setCell_other _ _ g _ hne, heap_setCell_other _ _ g _ hne])
  have HBv1_6 : Hid ((w6).heap[qv1]? = some (.cells #[.int .i64 st, .slice ob k cb, .string d] 38)) := by show _ = _; rw [hY, heap_setCell_other _ _ _ _ HNv1v2.out, heap_setCell_other _ _ _ _ HNv1v2.out, heap_setCell_other _ _ _ _ HNv1v2.out]; exact HBv1_5.out
  have HBv2_6 : Hid ((w6).heap[qv2]? = some (.cells #[.int .i64 st, .slice oG k pG, .string d] 38)) := by show _ = _; rw [hY]; have h := (heap_set _ qv2 2 _ _ _ (.string d) (heap_set _ qv2 1 _ _ _ (.slice oG k pG) (heap_set _ qv2 0 _ _ _ (.int .i64 st) HBv2_5.out))); simpa using h
  clear hY hb5 HOG_5 HBv1_5 HBv2_5
  go_simp
  rw [HY.out]
  have hS6 : w6.heap[qv1]? = some (.cells #[.int .i64 st, .slice ob k cb, .string d] 38) := HBv1_6.out
  refine hK.out _ _ hS6 (fun _ => ?_)
  clear hK K HY hS5 ce0 fe0 ce1 fe1 ce2 fe2
  clear hS6
  refine wpAnyH_done (by kernel_rfl) ?_ _
  go_wp2_with fail
  have kv2_0 : (w6).cell? ⟨qv2, 0, none⟩ = some (.int .i64 st) := (cell_of HBv2_6.out 0).trans rfl
  have kv2_1 : (w6).cell? ⟨qv2, 1, none⟩ = some (.slice oG k pG) := (cell_of HBv2_6.out 1).trans rfl
  have kv2_2 : (w6).cell? ⟨qv2, 2, none⟩ = some (.string d) := (cell_of HBv2_6.out 2).trans rfl
  refine bodyPost_ret (v := .agg #[.int .i64 st, .slice oG k pG, .string d]) (by simp [results, Tryz.results24, go_sem, kv2_0, kv2_1, kv2_2]) rfl ?_
  refine ⟨_, rfl, ?_, hb6⟩
  rw [HLG.out]
  exact HOG_6.out

end Go.Proofs.YtajccgffallajaaGreat

namespace Go.Proofs.YtajccgffallajaaGreat
open Go.RowKit
open Go.Lib hiding intOf

/-- A call answers an answer with these fields, in memory of its own. -/
def RespRow (st : Int) (fs : List (ByteArray × ByteArray)) (b : ByteArray) (w : World) (e : Ending) (w' : World) : Prop :=
  ∃ v, e = .returned (.agg #[.int .i64 st, v, .string b]) ∧ w'.ownsRow w.heap.size 135 2 v fs.length (flatF fs) ∧ Below w.heap.size w w'
theorem three_other (W : World) (r j : Nat) (a b c : Value) (h : j ≠ r) : (threeSet W r a b c).heap[j]? = W.heap[j]? := by
  unfold threeSet
  rw [heap_setCell_other _ _ j _ h, heap_setCell_other _ _ j _ h, heap_setCell_other _ _ j _ h]

set_option maxHeartbeats 1000000 in
set_option maxRecDepth 100000 in
theorem l9Resp_any (st : Int) (v : Value) (b : ByteArray) (n base : Nat) (fs : List (ByteArray × ByteArray)) (w : World) (hv : FieldsV w base v n fs) (hn : n ≤ 2000000) :
    Calls Tryz.prog 17 #[.agg #[.int .i64 st, v, .string b]] w fun e w' => RespRow st fs b w e w' := by
  obtain ⟨oa, cap, rfl, _⟩ := hv.slice
  obtain ⟨r, hr⟩ : ∃ r, r = w.heap.size := ⟨_, rfl⟩
  have HR : Hid (w.heap.size = r) := hr.symm
  obtain ⟨W1, hW1⟩ : ∃ W, W = (w.alloc (.cells #[.int .i64 st, .slice oa n cap, .string b] 38)).alloc (.cells #[.int .i64 0, .slice none 0 0, .string ⟨#[]⟩] 38) := ⟨_, rfl⟩
  have HW1 : Hid ((w.alloc (.cells #[.int .i64 st, .slice oa n cap, .string b] 38)).alloc (.cells #[.int .i64 0, .slice none 0 0, .string ⟨#[]⟩] 38) = W1) := hW1.symm
  have b1 : Below r w W1 := by rw [hW1, hr]; exact ((Below.refl _ w).alloc (Nat.le_refl _) _).alloc (by simp) _
  have hv1 := hv.below (by rw [hr] at b1; exact b1)
  have s1 : (w.alloc (.cells #[.int .i64 st, .slice oa n cap, .string b] 38)).heap.size = r + 1 := by rw [hr]; simp
  have s2 : W1.heap.size = r + 1 + 1 := by rw [hW1, hr]; simp
  have H0 : Hid (W1.heap[r]? = some (.cells #[.int .i64 st, .slice oa n cap, .string b] 38) ∧ W1.heap[r + 1]? = some (.cells #[.int .i64 0, .slice none 0 0, .string ⟨#[]⟩] 38) ∧ Below r w W1) := by
    have e0 := heap_alloc_new w (.cells #[.int .i64 st, .slice oa n cap, .string b] 38)
    have e1 := heap_alloc_new (w.alloc (.cells #[.int .i64 st, .slice oa n cap, .string b] 38)) (.cells #[.int .i64 0, .slice none 0 0, .string ⟨#[]⟩] 38)
    rw [← hr] at e0
    rw [s1, ← hW1] at e1
    have c1 : Below (r + 1) (w.alloc (.cells #[.int .i64 st, .slice oa n cap, .string b] 38)) W1 := by rw [hW1, ← s1]; exact (Below.refl _ _).alloc (Nat.le_refl _) _
    exact ⟨by rw [c1.block r (by omega)]; exact e0, e1, b1⟩
  obtain ⟨⟨_, c1, _⟩, _⟩ := three_facts H0.out.1
  have HS2 : Hid (W1.heap.size = r + 1 + 1) := s2
  have HL : Hid (fs.length = n) := hv.len
  clear hW1 hv b1 s1 s2
  go_enter Tryz.func17, Tryz.ntmps17
  go_upto_region 1 with fail
  rw [HW1.out, ← hr]
  clear hr HW1
  go_wp2_with fail
  refine (l9Copy_any _ n base fs _ hv1 hn).mono ?_
  rintro e w2 ⟨z, rfl, own, b2⟩
  obtain ⟨oz, cz, rfl⟩ := slice_of_owns own
  rw [HL.out] at own ⊢
  have hs2 := HS2.out
  have b2 : Below _ _ _ := b2
  rw [hs2] at own b2
  have H2 : Hid (w2.heap[r]? = some (.cells #[.int .i64 st, .slice oa n cap, .string b] 38) ∧ w2.heap[r + 1]? = some (.cells #[.int .i64 0, .slice none 0 0, .string ⟨#[]⟩] 38) ∧ Below r w w2) :=
    ⟨by rw [b2.block r (by omega)]; exact H0.out.1, by rw [b2.block (r + 1) (by omega)]; exact H0.out.2.1, H0.out.2.2.trans (b2.mono (by omega))⟩
  have HO2 : Hid (w2.ownsRow (r + 1 + 1) 135 2 (.slice oz n cz) n (flatF fs)) := own
  obtain ⟨⟨_, d1, _⟩, _, y1, _⟩ := three_facts H2.out.1
  clear own b2 hs2 c1 hv1 H0 HS2
  have H3 : Hid ((w2.setCell ⟨r, 1, none⟩ (.slice oz n cz)).heap[r]? = some (.cells #[.int .i64 st, .slice oz n cz, .string b] 38) ∧ (w2.setCell ⟨r, 1, none⟩ (.slice oz n cz)).heap[r + 1]? = some (.cells #[.int .i64 0, .slice none 0 0, .string ⟨#[]⟩] 38)) := by
    refine ⟨?_, by rw [heap_setCell_other _ _ (r + 1) _ (by show r + 1 ≠ r; omega)]; exact H2.out.2.1⟩
    have := heap_set w2 r 1 _ _ _ (.slice oz n cz) H2.out.1
    simpa using this
  obtain ⟨⟨f0, f1, f2⟩, _⟩ := three_facts H3.out.1
  obtain ⟨⟨g0, g1, g2⟩, x0, x1, x2⟩ := three_facts H3.out.2
  have hset := three_set H3.out.2 (.int .i64 st) (.slice oz n cz) (.string b)
  obtain ⟨⟨k0, k1, k2⟩, _⟩ := three_facts hset
  have HFB : Hid (Below r w (threeSet (w2.setCell ⟨r, 1, none⟩ (.slice oz n cz)) (r + 1) (.int .i64 st) (.slice oz n cz) (.string b))) := below_three (H2.out.2.2.setCell (Nat.le_refl _) _) (by omega)
  have HFO : Hid ((threeSet (w2.setCell ⟨r, 1, none⟩ (.slice oz n cz)) (r + 1) (.int .i64 st) (.slice oz n cz) (.string b)).ownsRow r 135 2 (.slice oz n cz) fs.length (flatF fs)) := by
    show World.ownsRow _ _ _ _ _ _ _
    rw [HL.out]
    refine owns_same (owns_wide HO2.out (by omega)) (fun j hj => ?_)
    have hj2 := owns_ge HO2.out hj
    rw [three_other _ _ j _ _ _ (by omega), heap_setCell_other _ _ j _ (by show j ≠ r; omega)]
  unfold threeSet at k0 k1 k2 HFB HFO
  clear hset H2 H3 HO2
  go_wp2_with fail
  refine bodyPost_ret (v := .agg #[.int .i64 st, .slice oz n cz, .string b]) (by simp [results, Tryz.results17, go_sem, k0, k1, k2]) rfl ?_
  exact ⟨_, rfl, by rw [HR.out]; exact HFO.out, by show Below _ _ _; rw [HR.out]; exact HFB.out⟩

end Go.Proofs.YtajccgffallajaaGreat

namespace Go.Proofs.YtajccgffallajaaGreat
open Go.RowKit
open Go.Lib hiding intOf

theorem copyF_of {fs : List (ByteArray × ByteArray)} (h : szTo fs fs.length ≤ 1048576) : CopyF fs := fun i hi => by
  have := szTo_get fs fs.length i hi
  omega
theorem firstTo_stay (sn : List RpD) (x : Int) (j : Nat) : ∀ (n i : Nat), firstTo sn i x = some j → firstTo sn (i + n) x = some j
  | 0, i, h => h
  | n + 1, i, h => by
    have h1 := firstTo_stay sn x j n i h
    show updF (firstTo sn (i + n)) (rpAt sn (i + n)).cli (i + n) x = some j
    unfold updF
    rw [h1]
theorem firstTo_lt (sn : List RpD) (x : Int) (j : Nat) : ∀ n : Nat, firstTo sn n x = some j → j < n
  | 0, h => nomatch h
  | n + 1, h => by
    have h1 : updF (firstTo sn n) (rpAt sn n).cli n x = some j := h
    unfold updF at h1
    cases hf : firstTo sn n x with
    | some k => rw [hf] at h1; cases h1; exact Nat.lt_succ_of_lt (firstTo_lt sn x _ n hf)
    | none =>
      rw [hf] at h1
      by_cases e : (rpAt sn n).cli = x
      · simp only [if_pos e] at h1; cases h1; exact Nat.lt_succ_self _
      · simp only [if_neg e] at h1; cases h1
theorem firstTo_hit {sn : List RpD} {x : Int} {i : Nat} (h : firstTo sn i x = none) (hx : (rpAt sn i).cli = x) : firstTo sn (i + 1) x = some i := by
  show updF _ _ _ _ = _
  unfold updF
  rw [h]
  exact if_pos hx
theorem firstTo_miss {sn : List RpD} {x : Int} {i : Nat} (h : firstTo sn i x = none) (hx : ¬ (rpAt sn i).cli = x) : firstTo sn (i + 1) x = none := by
  show updF _ _ _ _ = _
  unfold updF
  rw [h]
  exact if_neg hx
/-- What a client was told first: the answer, and whether there was one. -/
def servedD (sn : List RpD) (x : Int) : Int × List (ByteArray × ByteArray) × ByteArray × Bool := match firstTo sn sn.length x with
  | some j => ((rpAt sn j).rst, (rpAt sn j).rfs, (rpAt sn j).rbd, true)
  | none => (0, [], ⟨#[]⟩, false)
theorem served_some {sn : List RpD} {x : Int} {j : Nat} {d : RpD} (h : firstTo sn sn.length x = some j) (hd : rpAt sn j = d) : servedD sn x = (d.rst, d.rfs, d.rbd, true) := by
  unfold servedD
  rw [h, ← hd]
theorem served_at {sn : List RpD} {x : Int} {i : Nat} {d : RpD} (h : firstTo sn i x = none) (hi : i < sn.length) (hd : rpAt sn i = d) (hx : d.cli = x) : servedD sn x = (d.rst, d.rfs, d.rbd, true) := by
  have h1 := firstTo_stay sn x i (sn.length - (i + 1)) (i + 1) (firstTo_hit h (by rw [hd]; exact hx))
  rw [show i + 1 + (sn.length - (i + 1)) = sn.length by omega] at h1
  exact served_some h1 hd
theorem served_none {sn : List RpD} {x : Int} (h : firstTo sn sn.length x = none) : servedD sn x = (0, [], ⟨#[]⟩, false) := by
  unfold servedD
  rw [h]
def ServedIs (d : Int × List (ByteArray × ByteArray) × ByteArray × Bool) (w : World) (e : Ending) (w' : World) : Prop := ∃ v, e = .returned (.tuple #[.agg #[.int .i64 d.1, v, .string d.2.2.1], .bool d.2.2.2]) ∧ w'.ownsRow w.heap.size 135 2 v d.2.1.length (flatF d.2.1) ∧ Below w.heap.size w w'

set_option maxHeartbeats 8000000 in
set_option maxRecDepth 100000 in
theorem specServed_any (v1 v2 V VB F E R : Value) (kv : List (KpD × Value × Value × Value)) (fv : List FlV) (ev : List SeV) (rv : List RpV) (c : CaD) (B : Nat) (w : World) (h : CacheO w B v1 v2 V VB F E R kv fv ev rv c) (hz : CaSmall c) (x : Int) :
    Calls Tryz.prog 5 #[.agg #[v1, v2, V, VB, .int .i64 c.s.nx, .int .i64 c.s.sq, F, .int .i64 c.now, E, R], .int .i64 x] w fun e w' => ServedIs (servedD c.sn x) w e w' := by
  obtain ⟨o1, c1, rfl⟩ := slice_of_owns h.shelf.disk.cells
  obtain ⟨o2, c2, rfl⟩ := slice_of_owns h.shelf.disk.pend
  obtain ⟨o3, c3, rfl⟩ := h.shelf.kept.len
  obtain ⟨o4, c4, rfl⟩ := slice_of_owns h.shelf.bans
  obtain ⟨o5, c5, rfl⟩ := h.fls.len
  obtain ⟨o6, c6, rfl⟩ := h.ses.len
  obtain ⟨o7, c7, rfl⟩ := h.rps.len
  obtain ⟨n3, hn3⟩ : ∃ n, n = kv.length := ⟨_, rfl⟩
  obtain ⟨n4, hn4⟩ : ∃ n, n = c.s.bl.length := ⟨_, rfl⟩
  obtain ⟨n5, hn5⟩ : ∃ n, n = fv.length := ⟨_, rfl⟩
  obtain ⟨n6, hn6⟩ : ∃ n, n = ev.length := ⟨_, rfl⟩
  obtain ⟨n7, hn7⟩ : ∃ n, n = rv.length := ⟨_, rfl⟩
  rw [← hn3, ← hn4, ← hn5, ← hn6, ← hn7] at h ⊢
  have HLK : Hid (kv.length = n3) := hn3.symm
  have HLB : Hid (c.s.bl.length = n4) := hn4.symm
  have HLF : Hid (fv.length = n5) := hn5.symm
  have HLE : Hid (ev.length = n6) := hn6.symm
  have HLR : Hid (rv.length = n7) := hn7.symm
  have HLC : Hid (c.fl.length = n5 ∧ c.se.length = n6 ∧ c.sn.length = n7 ∧ c.s.ks.length = n3) := ⟨by rw [← h.hf, List.length_map, hn5], by rw [← h.he, List.length_map, hn6], by rw [← h.hr, List.length_map, hn7], by rw [← h.hk, List.length_map, hn3]⟩
  have HFD : Hid (fv.map (·.d) = c.fl) := h.hf
  have HED : Hid (ev.map (·.d) = c.se) := h.he
  have HRD : Hid (rv.map (·.d) = c.sn) := h.hr
  have HKS : Hid (kv.map (·.1) = c.s.ks) := h.hk
  have HZ : Hid (CaSmall c) := hz
  have bn3 : n3 ≤ 1048576 := by rw [← HLC.out.2.2.2]; exact hz.s.k
  have bn4 : n4 ≤ 1048576 := by rw [← HLB.out]; exact hz.s.b
  have bn5 : n5 ≤ 1048576 := by rw [← HLC.out.1]; exact hz.nf
  have bn6 : n6 ≤ 1048576 := by rw [← HLC.out.2.1]; exact hz.ne
  have bn7 : n7 ≤ 1048576 := by rw [← HLC.out.2.2.1]; exact hz.nr
  have HCA : Hid (∀ W, Below w.heap.size w W → CacheO W B (.slice o1 c.s.cs.length c1) (.slice o2 c.s.ws.length c2) (.slice o3 n3 c3) (.slice o4 n4 c4) (.slice o5 n5 c5) (.slice o6 n6 c6) (.slice o7 n7 c7) kv fv ev rv c) := fun W hb => h.below hb
  have HKP : Hid (∀ W, Below w.heap.size w W → KeptsO W B (.slice o3 n3 c3) kv) := fun W hb => (h.below hb).shelf.kept
  have HBN : Hid (∀ W, Below w.heap.size w W → BanA W o4 n4 c.s.bl) := fun W hb => by
    have h1 := (h.below hb).shelf.bans
    rw [HLB.out] at h1
    exact ban_view h1
  have HC4 : Hid (n4 ≤ c4) := by
    have h1 := h.shelf.bans
    rw [HLB.out] at h1
    exact owns_cap h1
  clear hn3 hn4 hn5 hn6 hn7 h hz
  have hb0 : Below w.heap.size w w := Below.refl _ _
  go_enter Tryz.func5, Tryz.ntmps5
  go_upto_region 1 with fail
  obtain ⟨qv1, hqv1⟩ : ∃ q, q = (w).heap.size := ⟨_, rfl⟩
  obtain ⟨w1, hW1⟩ : ∃ W, W = (w).alloc (.cells #[.slice o1 c.s.cs.length c1, .slice o2 c.s.ws.length c2, .slice o3 n3 c3, .slice o4 n4 c4, .int .i64 c.s.nx, .int .i64 c.s.sq, .slice o5 n5 c5, .int .i64 c.now, .slice o6 n6 c6, .slice o7 n7 c7] 52) := ⟨_, rfl⟩
  have hz1 : (w).heap.size = qv1 := hqv1.symm
  first | rw [← hW1, ← hqv1] | rw [← hW1]
  have hs1 : w1.heap.size = qv1 + 1 := by rw [hW1, ← hz1]; simp
  have bw : Below (w).heap.size (w) w1 := by rw [hW1]; exact (Below.refl _ _).alloc (Nat.le_refl _) _
  have hb1 : Below w.heap.size w (w1) := hb0.trans (bw.mono hb0.size)
  have HBv1_1 : Hid ((w1).heap[qv1]? = some (.cells #[.slice o1 c.s.cs.length c1, .slice o2 c.s.ws.length c2, .slice o3 n3 c3, .slice o4 n4 c4, .int .i64 c.s.nx, .int .i64 c.s.sq, .slice o5 n5 c5, .int .i64 c.now, .slice o6 n6 c6, .slice o7 n7 c7] 52)) := by show _ = _; rw [hW1, ← hz1]; exact heap_alloc_new _ _
  clear hb0 bw hW1 hz1
  obtain ⟨qv2, hqv2⟩ : ∃ q, q = qv1 + 1 := ⟨_, rfl⟩
  obtain ⟨w2, hW2⟩ : ∃ W, W = (w1).alloc (.cells #[.int .i64 0, .slice none 0 0, .string ⟨#[]⟩] 38) := ⟨_, rfl⟩
  have hz2 : (w1).heap.size = qv2 := by rw [hqv2]; exact hs1
  first | rw [← hW2, ← hqv2] | rw [← hW2]
  have hs2 : w2.heap.size = qv2 + 1 := by rw [hW2, ← hz2]; simp
  have bw : Below (w1).heap.size (w1) w2 := by rw [hW2]; exact (Below.refl _ _).alloc (Nat.le_refl _) _
  have hb2 : Below w.heap.size w (w2) := hb1.trans (bw.mono hb1.size)
  have HBv1_2 : Hid ((w2).heap[qv1]? = some (.cells #[.slice o1 c.s.cs.length c1, .slice o2 c.s.ws.length c2, .slice o3 n3 c3, .slice o4 n4 c4, .int .i64 c.s.nx, .int .i64 c.s.sq, .slice o5 n5 c5, .int .i64 c.now, .slice o6 n6 c6, .slice o7 n7 c7] 52)) := blk_below HBv1_1.out bw
  have HNv1v2 : Hid (qv1 ≠ qv2) := fun e => by have h1 := (Array.getElem?_eq_some_iff.1 HBv1_1.out).1; omega
  have HBv2_2 : Hid ((w2).heap[qv2]? = some (.cells #[.int .i64 0, .slice none 0 0, .string ⟨#[]⟩] 38)) := by show _ = _; rw [hW2, ← hz2]; exact heap_alloc_new _ _
  have HGv2 : Hid (w.heap.size ≤ qv2) := by show _ ≤ _; rw [← hz2]; exact hb1.size
  clear hb1 HBv1_1 bw hW2 hz2
  clear hs2 hqv2 hs1 hqv1
  go_wp2_with fail
  obtain ⟨wL, hwL⟩ : ∃ W, W = w2 := ⟨_, rfl⟩
  rw [← hwL] at hb2 HBv1_2 HBv2_2 ⊢
  clear hwL
  go_loopw [6] (fun i wr => ∃ (i' : Nat), i' ≤ n7 ∧ i = .int .i64 (i' : Int) ∧ Hid (Below w.heap.size w (wr) ∧ (wr).heap[qv1]? = some (.cells #[.slice o1 c.s.cs.length c1, .slice o2 c.s.ws.length c2, .slice o3 n3 c3, .slice o4 n4 c4, .int .i64 c.s.nx, .int .i64 c.s.sq, .slice o5 n5 c5, .int .i64 c.now, .slice o6 n6 c6, .slice o7 n7 c7] 52) ∧ (wr).heap[qv2]? = some (.cells #[.int .i64 0, .slice none 0 0, .string ⟨#[]⟩] 38)) ∧ Hid (firstTo c.sn i' x = none)) (fun i _ => n7 - (intOf i).toNat)
  case atStart => exact ⟨0, Nat.zero_le _, rfl, ⟨hb2, HBv1_2.out, HBv2_2.out⟩, rfl⟩
  case round =>
    obtain ⟨i, hi', rfl, HW, HN⟩ := hrel
    by_cases hlt : (i : Int) < (n7 : Int)
    · have hb3 := HW.out.1
      have HBv1_3 : Hid ((wr).heap[qv1]? = some (.cells #[.slice o1 c.s.cs.length c1, .slice o2 c.s.ws.length c2, .slice o3 n3 c3, .slice o4 n4 c4, .int .i64 c.s.nx, .int .i64 c.s.sq, .slice o5 n5 c5, .int .i64 c.now, .slice o6 n6 c6, .slice o7 n7 c7] 52)) := HW.out.2.1
      have HBv2_3 : Hid ((wr).heap[qv2]? = some (.cells #[.int .i64 0, .slice none 0 0, .string ⟨#[]⟩] 38)) := HW.out.2.2
      clear HW hb2 HBv1_2 HBv2_2
      obtain ⟨g7, p7, hV, _, _⟩ := (HCA.out _ hb3).rps.look i (by rw [HLR.out]; omega)
      rw [HLR.out] at hV
      injection hV with hV1 hV2 hV3
      subst hV1 hV3
      clear hV2
      obtain ⟨dX, hdX⟩ : ∃ x, x = rpvAt rv i := ⟨_, rfl⟩
      have HMd : Hid (dX ∈ rv) := by show _ ∈ _; rw [hdX]; exact getD_mem0 _ rv i (by rw [HLR.out]; omega)
      have HEd : Hid (rpAt c.sn i = dX.d) := by show _ = _; rw [hdX, ← HRD.out]; exact getD_map0 _ _ _ rv i (by rw [HLR.out]; omega)
      have HKd : Hid (∀ W, Below w.heap.size w W → RpAt W g7 i dX) := fun W hb => by
        obtain ⟨g', p', hV, _, hc⟩ := (HCA.out W hb).rps.look i (by rw [HLR.out]; omega)
        injection hV with hV1 _ _
        cases hV1
        rw [hdX]
        exact hc
      have HRd : Hid (∀ W, Below w.heap.size w W → RowsO W B (rpR dX)) := fun W hb => (HCA.out W hb).rps.item HMd.out
      have HSd : Hid (RpSmall dX.d) := HZ.out.sn _ (by rw [← HRD.out]; exact List.mem_map.2 ⟨_, HMd.out, rfl⟩)
      clear hdX
      obtain ⟨d, kuv3, kuv6, kuv11, kuv12, kuv14⟩ := dX
      obtain ⟨ku3, kuc3, hu⟩ := slice_of_owns ((HRd.out _ hb3).own (⟨135, 2, kuv3, d.qfs.length, flatF d.qfs⟩ : Rw) (by simp [rpR]))
      obtain rfl : kuv3 = .slice ku3 d.qfs.length kuc3 := hu
      obtain ⟨ku6, kuc6, hu⟩ := slice_of_owns ((HRd.out _ hb3).own (⟨135, 2, kuv6, d.rfs.length, flatF d.rfs⟩ : Rw) (by simp [rpR]))
      obtain rfl : kuv6 = .slice ku6 d.rfs.length kuc6 := hu
      obtain ⟨ku11, kuc11, hu⟩ := slice_of_owns ((HRd.out _ hb3).own (⟨9, 1, kuv11, d.oxs.length, d.oxs.map Value.string⟩ : Rw) (by simp [rpR]))
      obtain rfl : kuv11 = .slice ku11 d.oxs.length kuc11 := hu
      obtain ⟨ku12, kuc12, hu⟩ := slice_of_owns ((HRd.out _ hb3).own (⟨9, 1, kuv12, d.oys.length, d.oys.map Value.string⟩ : Rw) (by simp [rpR]))
      obtain rfl : kuv12 = .slice ku12 d.oys.length kuc12 := hu
      obtain ⟨ku14, kuc14, hu⟩ := slice_of_owns ((HRd.out _ hb3).own (⟨135, 2, kuv14, d.ofs.length, flatF d.ofs⟩ : Rw) (by simp [rpR]))
      obtain rfl : kuv14 = .slice ku14 d.ofs.length kuc14 := hu
      have r0d := (HKd.out _ hb3).c0
      have r5d := (HKd.out _ hb3).c5
      have r6d := (HKd.out _ hb3).c6
      have r7d := (HKd.out _ hb3).c7
      dsimp only at r0d r5d r6d r7d
      have cv1_9 : (wr).cell? ⟨qv1, 9, none⟩ = some (.slice (some ⟨g7, 0, none⟩) n7 c7) := (cell_of HBv1_3.out 9).trans rfl
      by_cases hc1 : d.cli = x
      · have hc1b : ((d.cli : Int) == (x : Int)) = true := by simpa using hc1
        have hc1n : ((d.cli : Int) != (x : Int)) = false := by simpa using hc1
        have hc1H : Hid (d.cli = x) := hc1
        clear hc1
        go_wp2_with fail
        refine (l9Resp_any d.rst _ d.rbd d.rfs.length B d.rfs _ (FieldsV.of_owns ((HRd.out _ hb3).own (⟨135, 2, (.slice ku6 d.rfs.length kuc6), d.rfs.length, flatF d.rfs⟩ : Rw) (by simp [rpR]))) (Nat.le_trans HSd.out.lens.rfs (by decide))).mono ?_
        rintro e w4 ⟨vv, rfl, ownG, bw⟩
        obtain ⟨oG, pG, rfl⟩ := slice_of_owns ownG
        have hb4 : Below w.heap.size w (w4) := hb3.trans (bw.mono hb3.size)
        have HM4 : Hid ((wr).heap.size ≤ (w4).heap.size) := bw.size
        have HBv1_4 : Hid ((w4).heap[qv1]? = some (.cells #[.slice o1 c.s.cs.length c1, .slice o2 c.s.ws.length c2, .slice o3 n3 c3, .slice o4 n4 c4, .int .i64 c.s.nx, .int .i64 c.s.sq, .slice o5 n5 c5, .int .i64 c.now, .slice o6 n6 c6, .slice (some ⟨g7, 0, none⟩) n7 c7] 52)) := blk_below HBv1_3.out bw
        have HBv2_4 : Hid ((w4).heap[qv2]? = some (.cells #[.int .i64 0, .slice none 0 0, .string ⟨#[]⟩] 38)) := blk_below HBv2_3.out bw
        have HOG_4 : Hid ((w4).ownsRow w.heap.size 135 2 (.slice oG d.rfs.length pG) d.rfs.length (flatF d.rfs)) := owns_wide ownG hb3.size
        clear ownG
        clear hb3 HBv1_3 HBv2_3 bw
        clear r0d r5d r6d r7d cv1_9
        have cv2_0 : (w4).cell? ⟨qv2, 0, none⟩ = some (.int .i64 0) := (cell_of HBv2_4.out 0).trans rfl
        have fcv2_0 : (w4).frozen? ⟨qv2, 0, none⟩ = false := frozen_of HBv2_4.out 0
        have cv2_1 : (w4).cell? ⟨qv2, 1, none⟩ = some (.slice none 0 0) := (cell_of HBv2_4.out 1).trans rfl
        have fcv2_1 : (w4).frozen? ⟨qv2, 1, none⟩ = false := frozen_of HBv2_4.out 1
        have cv2_2 : (w4).cell? ⟨qv2, 2, none⟩ = some (.string ⟨#[]⟩) := (cell_of HBv2_4.out 2).trans rfl
        have fcv2_2 : (w4).frozen? ⟨qv2, 2, none⟩ = false := frozen_of HBv2_4.out 2
        go_wp2_with fail
        obtain ⟨w5, hW5⟩ : ∃ W, W = (w4).setCell ⟨qv2, 0, none⟩ (.int .i64 d.rst) := ⟨_, rfl⟩
        rw [← hW5]
        have hb5 : Below w.heap.size w (w5) := by rw [hW5]; exact (hb4.setCell (p := ⟨qv2, 0, none⟩) HGv2.out _)
        have HM5 : Hid ((w4).heap.size ≤ w5.heap.size) := by show _ ≤ _; rw [hW5]; simp
        have HOG_5 : Hid ((w5).ownsRow w.heap.size 135 2 (.slice oG d.rfs.length pG) d.rfs.length (flatF d.rfs)) := by show World.ownsRow _ _ _ _ _ _ _; rw [hW5]; exact owns_same HOG_4.out (fun g hg => heap_setCell_other _ _ g _ (own_ne HOG_4.out HBv2_4.out (by decide) g hg))
        have HBv1_5 : Hid ((w5).heap[qv1]? = some (.cells #[.slice o1 c.s.cs.length c1, .slice o2 c.s.ws.length c2, .slice o3 n3 c3, .slice o4 n4 c4, .int .i64 c.s.nx, .int .i64 c.s.sq, .slice o5 n5 c5, .int .i64 c.now, .slice o6 n6 c6, .slice (some ⟨g7, 0, none⟩) n7 c7] 52)) := by show _ = _; rw [hW5, heap_setCell_other _ _ _ _ HNv1v2.out]; exact HBv1_4.out
        have HBv2_5 : Hid ((w5).heap[qv2]? = some (.cells #[.int .i64 d.rst, .slice none 0 0, .string ⟨#[]⟩] 38)) := by show _ = _; rw [hW5]; have h := heap_set _ _ 0 _ _ _ (.int .i64 d.rst) HBv2_4.out; simpa using h
        clear hb4 HOG_4 HBv1_4 HBv2_4 hW5
        obtain ⟨w6, hW6⟩ : ∃ W, W = (w5).setCell ⟨qv2, 1, none⟩ (.slice oG d.rfs.length pG) := ⟨_, rfl⟩
        rw [← hW6]
        have hb6 : Below w.heap.size w (w6) := by rw [hW6]; exact (hb5.setCell (p := ⟨qv2, 1, none⟩) HGv2.out _)
        have HM6 : Hid ((w5).heap.size ≤ w6.heap.size) := by show _ ≤ _; rw [hW6]; simp
        have HOG_6 : Hid ((w6).ownsRow w.heap.size 135 2 (.slice oG d.rfs.length pG) d.rfs.length (flatF d.rfs)) := by show World.ownsRow _ _ _ _ _ _ _; rw [hW6]; exact owns_same HOG_5.out (fun g hg => heap_setCell_other _ _ g _ (own_ne HOG_5.out HBv2_5.out (by decide) g hg))
        have HBv1_6 : Hid ((w6).heap[qv1]? = some (.cells #[.slice o1 c.s.cs.length c1, .slice o2 c.s.ws.length c2, .slice o3 n3 c3, .slice o4 n4 c4, .int .i64 c.s.nx, .int .i64 c.s.sq, .slice o5 n5 c5, .int .i64 c.now, .slice o6 n6 c6, .slice (some ⟨g7, 0, none⟩) n7 c7] 52)) := by show _ = _; rw [hW6, heap_setCell_other _ _ _ _ HNv1v2.out]; exact HBv1_5.out
        have HBv2_6 : Hid ((w6).heap[qv2]? = some (.cells #[.int .i64 d.rst, .slice oG d.rfs.length pG, .string ⟨#[]⟩] 38)) := by show _ = _; rw [hW6]; have h := heap_set _ _ 1 _ _ _ (.slice oG d.rfs.length pG) HBv2_5.out; simpa using h
        clear hb5 HOG_5 HBv1_5 HBv2_5 hW6
        obtain ⟨w7, hW7⟩ : ∃ W, W = (w6).setCell ⟨qv2, 2, none⟩ (.string d.rbd) := ⟨_, rfl⟩
        rw [← hW7]
        have hb7 : Below w.heap.size w (w7) := by rw [hW7]; exact (hb6.setCell (p := ⟨qv2, 2, none⟩) HGv2.out _)
        have HOG_7 : Hid ((w7).ownsRow w.heap.size 135 2 (.slice oG d.rfs.length pG) d.rfs.length (flatF d.rfs)) := by show World.ownsRow _ _ _ _ _ _ _; rw [hW7]; exact owns_same HOG_6.out (fun g hg => heap_setCell_other _ _ g _ (own_ne HOG_6.out HBv2_6.out (by decide) g hg))
        have HBv1_7 : Hid ((w7).heap[qv1]? = some (.cells #[.slice o1 c.s.cs.length c1, .slice o2 c.s.ws.length c2, .slice o3 n3 c3, .slice o4 n4 c4, .int .i64 c.s.nx, .int .i64 c.s.sq, .slice o5 n5 c5, .int .i64 c.now, .slice o6 n6 c6, .slice (some ⟨g7, 0, none⟩) n7 c7] 52)) := by show _ = _; rw [hW7, heap_setCell_other _ _ _ _ HNv1v2.out]; exact HBv1_6.out
        have HBv2_7 : Hid ((w7).heap[qv2]? = some (.cells #[.int .i64 d.rst, .slice oG d.rfs.length pG, .string d.rbd] 38)) := by show _ = _; rw [hW7]; have h := heap_set _ _ 2 _ _ _ (.string d.rbd) HBv2_6.out; simpa using h
        clear hb6 HOG_6 HBv1_6 HBv2_6 hW7
        have kv2_0 : (w7).cell? ⟨qv2, 0, none⟩ = some (.int .i64 d.rst) := (cell_of HBv2_7.out 0).trans rfl
        have kv2_1 : (w7).cell? ⟨qv2, 1, none⟩ = some (.slice oG d.rfs.length pG) := (cell_of HBv2_7.out 1).trans rfl
        have kv2_2 : (w7).cell? ⟨qv2, 2, none⟩ = some (.string d.rbd) := (cell_of HBv2_7.out 2).trans rfl
        refine bodyPost_ret (v := .tuple #[.agg #[.int .i64 d.rst, .slice oG d.rfs.length pG, .string d.rbd], .bool true]) (by simp [results, Tryz.results5, go_sem, kv2_0, kv2_1, kv2_2]) rfl ?_
        rw [served_at HN.out (by rw [HLC.out.2.2.1]; omega) HEd.out hc1H.out]
        exact ⟨.slice oG d.rfs.length pG, rfl, HOG_7.out, hb7⟩
      · have hc1b : ((d.cli : Int) == (x : Int)) = false := by simpa using hc1
        have hc1n : ((d.cli : Int) != (x : Int)) = true := by simpa using hc1
        have hc1H : Hid (¬ (d.cli = x)) := hc1
        clear hc1
        have HN2 : Hid (firstTo c.sn (i + 1) x = none) := firstTo_miss HN.out (by rw [HEd.out]; exact hc1H.out)
        go_wp2_with fail
        go_roundw
        case rel => exact ⟨i + 1, by omega, by go_num, ⟨hb3, HBv1_3.out, HBv2_3.out⟩, HN2⟩
        case measure => simp [intOf]; omega
    · have hb3 := HW.out.1
      have HBv1_3 : Hid ((wr).heap[qv1]? = some (.cells #[.slice o1 c.s.cs.length c1, .slice o2 c.s.ws.length c2, .slice o3 n3 c3, .slice o4 n4 c4, .int .i64 c.s.nx, .int .i64 c.s.sq, .slice o5 n5 c5, .int .i64 c.now, .slice o6 n6 c6, .slice o7 n7 c7] 52)) := HW.out.2.1
      have HBv2_3 : Hid ((wr).heap[qv2]? = some (.cells #[.int .i64 0, .slice none 0 0, .string ⟨#[]⟩] 38)) := HW.out.2.2
      clear HW hb2 HBv1_2 HBv2_2
      obtain rfl : n7 = i := by omega
      have cv1_9 : (wr).cell? ⟨qv1, 9, none⟩ = some (.slice o7 n7 c7) := (cell_of HBv1_3.out 9).trans rfl
      have cv2_0 : (wr).cell? ⟨qv2, 0, none⟩ = some (.int .i64 0) := (cell_of HBv2_3.out 0).trans rfl
      have fcv2_0 : (wr).frozen? ⟨qv2, 0, none⟩ = false := frozen_of HBv2_3.out 0
      have cv2_1 : (wr).cell? ⟨qv2, 1, none⟩ = some (.slice none 0 0) := (cell_of HBv2_3.out 1).trans rfl
      have fcv2_1 : (wr).frozen? ⟨qv2, 1, none⟩ = false := frozen_of HBv2_3.out 1
      have cv2_2 : (wr).cell? ⟨qv2, 2, none⟩ = some (.string ⟨#[]⟩) := (cell_of HBv2_3.out 2).trans rfl
      have fcv2_2 : (wr).frozen? ⟨qv2, 2, none⟩ = false := frozen_of HBv2_3.out 2
      go_wp2_with fail
      obtain ⟨w4, hW4⟩ : ∃ W, W = (wr).setCell ⟨qv2, 0, none⟩ (.int .i64 0) := ⟨_, rfl⟩
      rw [← hW4]
      have hb4 : Below w.heap.size w (w4) := by rw [hW4]; exact (hb3.setCell (p := ⟨qv2, 0, none⟩) HGv2.out _)
      have HM4 : Hid ((wr).heap.size ≤ w4.heap.size) := by show _ ≤ _; rw [hW4]; simp
      have HBv1_4 : Hid ((w4).heap[qv1]? = some (.cells #[.slice o1 c.s.cs.length c1, .slice o2 c.s.ws.length c2, .slice o3 n3 c3, .slice o4 n4 c4, .int .i64 c.s.nx, .int .i64 c.s.sq, .slice o5 n5 c5, .int .i64 c.now, .slice o6 n6 c6, .slice o7 n7 c7] 52)) := by show _ = _; rw [hW4, heap_setCell_other _ _ _ _ HNv1v2.out]; exact HBv1_3.out
      have HBv2_4 : Hid ((w4).heap[qv2]? = some (.cells #[.int .i64 0, .slice none 0 0, .string ⟨#[]⟩] 38)) := by show _ = _; rw [hW4]; have h := heap_set _ _ 0 _ _ _ (.int .i64 0) HBv2_3.out; simpa using h
      clear hb3 HBv1_3 HBv2_3 hW4
      obtain ⟨w5, hW5⟩ : ∃ W, W = (w4).setCell ⟨qv2, 1, none⟩ (.slice none 0 0) := ⟨_, rfl⟩
      rw [← hW5]
      have hb5 : Below w.heap.size w (w5) := by rw [hW5]; exact (hb4.setCell (p := ⟨qv2, 1, none⟩) HGv2.out _)
      have HM5 : Hid ((w4).heap.size ≤ w5.heap.size) := by show _ ≤ _; rw [hW5]; simp
      have HBv1_5 : Hid ((w5).heap[qv1]? = some (.cells #[.slice o1 c.s.cs.length c1, .slice o2 c.s.ws.length c2, .slice o3 n3 c3, .slice o4 n4 c4, .int .i64 c.s.nx, .int .i64 c.s.sq, .slice o5 n5 c5, .int .i64 c.now, .slice o6 n6 c6, .slice o7 n7 c7] 52)) := by show _ = _; rw [hW5, heap_setCell_other _ _ _ _ HNv1v2.out]; exact HBv1_4.out
      have HBv2_5 : Hid ((w5).heap[qv2]? = some (.cells #[.int .i64 0, .slice none 0 0, .string ⟨#[]⟩] 38)) := by show _ = _; rw [hW5]; have h := heap_set _ _ 1 _ _ _ (.slice none 0 0) HBv2_4.out; simpa using h
      clear hb4 HBv1_4 HBv2_4 hW5
      obtain ⟨w6, hW6⟩ : ∃ W, W = (w5).setCell ⟨qv2, 2, none⟩ (.string ⟨#[]⟩) := ⟨_, rfl⟩
      rw [← hW6]
      have hb6 : Below w.heap.size w (w6) := by rw [hW6]; exact (hb5.setCell (p := ⟨qv2, 2, none⟩) HGv2.out _)
      have HM6 : Hid ((w5).heap.size ≤ w6.heap.size) := by show _ ≤ _; rw [hW6]; simp
      have HBv1_6 : Hid ((w6).heap[qv1]? = some (.cells #[.slice o1 c.s.cs.length c1, .slice o2 c.s.ws.length c2, .slice o3 n3 c3, .slice o4 n4 c4, .int .i64 c.s.nx, .int .i64 c.s.sq, .slice o5 n5 c5, .int .i64 c.now, .slice o6 n6 c6, .slice o7 n7 c7] 52)) := by show _ = _; rw [hW6, heap_setCell_other _ _ _ _ HNv1v2.out]; exact HBv1_5.out
      have HBv2_6 : Hid ((w6).heap[qv2]? = some (.cells #[.int .i64 0, .slice none 0 0, .string ⟨#[]⟩] 38)) := by show _ = _; rw [hW6]; have h := heap_set _ _ 2 _ _ _ (.string ⟨#[]⟩) HBv2_5.out; simpa using h
      clear hb5 HBv1_5 HBv2_5 hW6
      have kv2_0 : (w6).cell? ⟨qv2, 0, none⟩ = some (.int .i64 0) := (cell_of HBv2_6.out 0).trans rfl
      have kv2_1 : (w6).cell? ⟨qv2, 1, none⟩ = some (.slice none 0 0) := (cell_of HBv2_6.out 1).trans rfl
      have kv2_2 : (w6).cell? ⟨qv2, 2, none⟩ = some (.string ⟨#[]⟩) := (cell_of HBv2_6.out 2).trans rfl
      refine bodyPost_ret (v := .tuple #[.agg #[.int .i64 0, .slice none 0 0, .string ⟨#[]⟩], .bool false]) (by simp [results, Tryz.results5, go_sem, kv2_0, kv2_1, kv2_2]) rfl ?_
      rw [served_none (by rw [HLC.out.2.2.1]; exact HN.out)]
      exact ⟨.slice none 0 0, rfl, ⟨rfl, .inl ⟨rfl, rfl⟩⟩, hb6⟩

set_option maxHeartbeats 8000000 in
set_option maxRecDepth 100000 in
theorem implServed_any (v1 v2 V VB F E R : Value) (kv : List (KpD × Value × Value × Value)) (fv : List FlV) (ev : List SeV) (rv : List RpV) (c : CaD) (B : Nat) (w : World) (h : CacheO w B v1 v2 V VB F E R kv fv ev rv c) (hz : CaSmall c) (hcl : ∀ k ∈ c.sn, -9223372036854775808 ≤ k.cli ∧ k.cli ≤ 9223372036854775807) (x : Int) (hwx : (Lit.int .i64 x).wf = true) :
    Calls Tryz.prog 7 #[.agg #[v1, v2, V, VB, .int .i64 c.s.nx, .int .i64 c.s.sq, F, .int .i64 c.now, E, R], .int .i64 x] w fun e w' => ServedIs (servedD c.sn x) w e w' := by
  have HCL0 : Hid (∀ k ∈ c.sn, -9223372036854775808 ≤ k.cli ∧ k.cli ≤ 9223372036854775807) := hcl
  clear hcl
  obtain ⟨o1, c1, rfl⟩ := slice_of_owns h.shelf.disk.cells
  obtain ⟨o2, c2, rfl⟩ := slice_of_owns h.shelf.disk.pend
  obtain ⟨o3, c3, rfl⟩ := h.shelf.kept.len
  obtain ⟨o4, c4, rfl⟩ := slice_of_owns h.shelf.bans
  obtain ⟨o5, c5, rfl⟩ := h.fls.len
  obtain ⟨o6, c6, rfl⟩ := h.ses.len
  obtain ⟨o7, c7, rfl⟩ := h.rps.len
  obtain ⟨n3, hn3⟩ : ∃ n, n = kv.length := ⟨_, rfl⟩
  obtain ⟨n4, hn4⟩ : ∃ n, n = c.s.bl.length := ⟨_, rfl⟩
  obtain ⟨n5, hn5⟩ : ∃ n, n = fv.length := ⟨_, rfl⟩
  obtain ⟨n6, hn6⟩ : ∃ n, n = ev.length := ⟨_, rfl⟩
  obtain ⟨n7, hn7⟩ : ∃ n, n = rv.length := ⟨_, rfl⟩
  rw [← hn3, ← hn4, ← hn5, ← hn6, ← hn7] at h ⊢
  have HLK : Hid (kv.length = n3) := hn3.symm
  have HLB : Hid (c.s.bl.length = n4) := hn4.symm
  have HLF : Hid (fv.length = n5) := hn5.symm
  have HLE : Hid (ev.length = n6) := hn6.symm
  have HLR : Hid (rv.length = n7) := hn7.symm
  have HLC : Hid (c.fl.length = n5 ∧ c.se.length = n6 ∧ c.sn.length = n7 ∧ c.s.ks.length = n3) := ⟨by rw [← h.hf, List.length_map, hn5], by rw [← h.he, List.length_map, hn6], by rw [← h.hr, List.length_map, hn7], by rw [← h.hk, List.length_map, hn3]⟩
  have HFD : Hid (fv.map (·.d) = c.fl) := h.hf
  have HED : Hid (ev.map (·.d) = c.se) := h.he
  have HRD : Hid (rv.map (·.d) = c.sn) := h.hr
  have HKS : Hid (kv.map (·.1) = c.s.ks) := h.hk
  have HZ : Hid (CaSmall c) := hz
  have bn3 : n3 ≤ 1048576 := by rw [← HLC.out.2.2.2]; exact hz.s.k
  have bn4 : n4 ≤ 1048576 := by rw [← HLB.out]; exact hz.s.b
  have bn5 : n5 ≤ 1048576 := by rw [← HLC.out.1]; exact hz.nf
  have bn6 : n6 ≤ 1048576 := by rw [← HLC.out.2.1]; exact hz.ne
  have bn7 : n7 ≤ 1048576 := by rw [← HLC.out.2.2.1]; exact hz.nr
  have HCA : Hid (∀ W, Below w.heap.size w W → CacheO W B (.slice o1 c.s.cs.length c1) (.slice o2 c.s.ws.length c2) (.slice o3 n3 c3) (.slice o4 n4 c4) (.slice o5 n5 c5) (.slice o6 n6 c6) (.slice o7 n7 c7) kv fv ev rv c) := fun W hb => h.below hb
  have HKP : Hid (∀ W, Below w.heap.size w W → KeptsO W B (.slice o3 n3 c3) kv) := fun W hb => (h.below hb).shelf.kept
  have HBN : Hid (∀ W, Below w.heap.size w W → BanA W o4 n4 c.s.bl) := fun W hb => by
    have h1 := (h.below hb).shelf.bans
    rw [HLB.out] at h1
    exact ban_view h1
  have HC4 : Hid (n4 ≤ c4) := by
    have h1 := h.shelf.bans
    rw [HLB.out] at h1
    exact owns_cap h1
  clear hn3 hn4 hn5 hn6 hn7 h hz
  have hb0 : Below w.heap.size w w := Below.refl _ _
  go_enter Tryz.func7, Tryz.ntmps7
  go_upto_region 1 with fail
  obtain ⟨qv1, hqv1⟩ : ∃ q, q = (w).heap.size := ⟨_, rfl⟩
  obtain ⟨w1, hW1⟩ : ∃ W, W = (w).alloc (.cells #[.slice o1 c.s.cs.length c1, .slice o2 c.s.ws.length c2, .slice o3 n3 c3, .slice o4 n4 c4, .int .i64 c.s.nx, .int .i64 c.s.sq, .slice o5 n5 c5, .int .i64 c.now, .slice o6 n6 c6, .slice o7 n7 c7] 52) := ⟨_, rfl⟩
  have hz1 : (w).heap.size = qv1 := hqv1.symm
  first | rw [← hW1, ← hqv1] | rw [← hW1]
  have hs1 : w1.heap.size = qv1 + 1 := by rw [hW1, ← hz1]; simp
  have bw : Below (w).heap.size (w) w1 := by rw [hW1]; exact (Below.refl _ _).alloc (Nat.le_refl _) _
  have hb1 : Below w.heap.size w (w1) := hb0.trans (bw.mono hb0.size)
  have HBv1_1 : Hid ((w1).heap[qv1]? = some (.cells #[.slice o1 c.s.cs.length c1, .slice o2 c.s.ws.length c2, .slice o3 n3 c3, .slice o4 n4 c4, .int .i64 c.s.nx, .int .i64 c.s.sq, .slice o5 n5 c5, .int .i64 c.now, .slice o6 n6 c6, .slice o7 n7 c7] 52)) := by show _ = _; rw [hW1, ← hz1]; exact heap_alloc_new _ _
  clear hb0 bw hW1 hz1
  obtain ⟨qv2, hqv2⟩ : ∃ q, q = qv1 + 1 := ⟨_, rfl⟩
  obtain ⟨w2, hW2⟩ : ∃ W, W = (w1).alloc (.cells #[.int .i64 0, .slice none 0 0, .string ⟨#[]⟩] 38) := ⟨_, rfl⟩
  have hz2 : (w1).heap.size = qv2 := by rw [hqv2]; exact hs1
  first | rw [← hW2, ← hqv2] | rw [← hW2]
  have hs2 : w2.heap.size = qv2 + 1 := by rw [hW2, ← hz2]; simp
  have bw : Below (w1).heap.size (w1) w2 := by rw [hW2]; exact (Below.refl _ _).alloc (Nat.le_refl _) _
  have hb2 : Below w.heap.size w (w2) := hb1.trans (bw.mono hb1.size)
  have HBv1_2 : Hid ((w2).heap[qv1]? = some (.cells #[.slice o1 c.s.cs.length c1, .slice o2 c.s.ws.length c2, .slice o3 n3 c3, .slice o4 n4 c4, .int .i64 c.s.nx, .int .i64 c.s.sq, .slice o5 n5 c5, .int .i64 c.now, .slice o6 n6 c6, .slice o7 n7 c7] 52)) := blk_below HBv1_1.out bw
  have HNv1v2 : Hid (qv1 ≠ qv2) := fun e => by have h1 := (Array.getElem?_eq_some_iff.1 HBv1_1.out).1; omega
  have HBv2_2 : Hid ((w2).heap[qv2]? = some (.cells #[.int .i64 0, .slice none 0 0, .string ⟨#[]⟩] 38)) := by show _ = _; rw [hW2, ← hz2]; exact heap_alloc_new _ _
  have HGv2 : Hid (w.heap.size ≤ qv2) := by show _ ≤ _; rw [← hz2]; exact hb1.size
  clear hb1 HBv1_1 bw hW2 hz2
  clear hs2 hqv2 hs1 hqv1
  have cv1_9 : (w2).cell? ⟨qv1, 9, none⟩ = some (.slice o7 n7 c7) := (cell_of HBv1_2.out 9).trans rfl
  go_wp2_with fail
  refine (registerOf_any _ _ _ _ _ _ _ kv fv ev rv c B _ (HCA.out _ hb2) HZ.out HCL0.out).mono ?_
  rintro e wr0 ⟨sb, bm, mr, Dr, rfl, hreg, hsb, hbm, bwR⟩
  clear hbm
  clear cv1_9
  go_wp2_with fail
  refine (placeOf_any sb bm mr Dr _ x _ hreg hwx (w2).heap.size bwR.size hsb).mono ?_
  rintro e w3 ⟨cp, rfl, hcp, bw2⟩
  have bw : Below (w2).heap.size (w2) w3 := bwR.trans bw2
  clear bw2 bwR hsb hreg
  obtain ⟨fb, hfb⟩ : ∃ b, b = (firstTo c.sn c.sn.length x).isSome := ⟨_, rfl⟩
  rw [← hfb]
  have hb3 : Below w.heap.size w (w3) := hb2.trans (bw.mono hb2.size)
  have HBv1_3 : Hid ((w3).heap[qv1]? = some (.cells #[.slice o1 c.s.cs.length c1, .slice o2 c.s.ws.length c2, .slice o3 n3 c3, .slice o4 n4 c4, .int .i64 c.s.nx, .int .i64 c.s.sq, .slice o5 n5 c5, .int .i64 c.now, .slice o6 n6 c6, .slice o7 n7 c7] 52)) := blk_below HBv1_2.out bw
  have HBv2_3 : Hid ((w3).heap[qv2]? = some (.cells #[.int .i64 0, .slice none 0 0, .string ⟨#[]⟩] 38)) := blk_below HBv2_2.out bw
  clear hb2 HBv1_2 HBv2_2 bw
  cases fb with
  | false =>
    have HNJ : Hid (firstTo c.sn c.sn.length x = none) := Option.isNone_iff_eq_none.1 (by rw [← Option.not_isSome, ← hfb]; rfl)
    clear hcp hfb
    have cv2_0 : (w3).cell? ⟨qv2, 0, none⟩ = some (.int .i64 0) := (cell_of HBv2_3.out 0).trans rfl
    have fcv2_0 : (w3).frozen? ⟨qv2, 0, none⟩ = false := frozen_of HBv2_3.out 0
    have cv2_1 : (w3).cell? ⟨qv2, 1, none⟩ = some (.slice none 0 0) := (cell_of HBv2_3.out 1).trans rfl
    have fcv2_1 : (w3).frozen? ⟨qv2, 1, none⟩ = false := frozen_of HBv2_3.out 1
    have cv2_2 : (w3).cell? ⟨qv2, 2, none⟩ = some (.string ⟨#[]⟩) := (cell_of HBv2_3.out 2).trans rfl
    have fcv2_2 : (w3).frozen? ⟨qv2, 2, none⟩ = false := frozen_of HBv2_3.out 2
    go_wp2_with fail
    obtain ⟨w4, hW4⟩ : ∃ W, W = (w3).setCell ⟨qv2, 0, none⟩ (.int .i64 0) := ⟨_, rfl⟩
    rw [← hW4]
    have hb4 : Below w.heap.size w (w4) := by rw [hW4]; exact (hb3.setCell (p := ⟨qv2, 0, none⟩) HGv2.out _)
    have HM4 : Hid ((w3).heap.size ≤ w4.heap.size) := by show _ ≤ _; rw [hW4]; simp
    have HBv1_4 : Hid ((w4).heap[qv1]? = some (.cells #[.slice o1 c.s.cs.length c1, .slice o2 c.s.ws.length c2, .slice o3 n3 c3, .slice o4 n4 c4, .int .i64 c.s.nx, .int .i64 c.s.sq, .slice o5 n5 c5, .int .i64 c.now, .slice o6 n6 c6, .slice o7 n7 c7] 52)) := by show _ = _; rw [hW4, heap_setCell_other _ _ _ _ HNv1v2.out]; exact HBv1_3.out
    have HBv2_4 : Hid ((w4).heap[qv2]? = some (.cells #[.int .i64 0, .slice none 0 0, .string ⟨#[]⟩] 38)) := by show _ = _; rw [hW4]; have h := heap_set _ _ 0 _ _ _ (.int .i64 0) HBv2_3.out; simpa using h
    clear hb3 HBv1_3 HBv2_3 hW4
    obtain ⟨w5, hW5⟩ : ∃ W, W = (w4).setCell ⟨qv2, 1, none⟩ (.slice none 0 0) := ⟨_, rfl⟩
    rw [← hW5]
    have hb5 : Below w.heap.size w (w5) := by rw [hW5]; exact (hb4.setCell (p := ⟨qv2, 1, none⟩) HGv2.out _)
    have HM5 : Hid ((w4).heap.size ≤ w5.heap.size) := by show _ ≤ _; rw [hW5]; simp
    have HBv1_5 : Hid ((w5).heap[qv1]? = some (.cells #[.slice o1 c.s.cs.length c1, .slice o2 c.s.ws.length c2, .slice o3 n3 c3, .slice o4 n4 c4, .int .i64 c.s.nx, .int .i64 c.s.sq, .slice o5 n5 c5, .int .i64 c.now, .slice o6 n6 c6, .slice o7 n7 c7] 52)) := by show _ = _; rw [hW5, heap_setCell_other _ _ _ _ HNv1v2.out]; exact HBv1_4.out
    have HBv2_5 : Hid ((w5).heap[qv2]? = some (.cells #[.int .i64 0, .slice none 0 0, .string ⟨#[]⟩] 38)) := by show _ = _; rw [hW5]; have h := heap_set _ _ 1 _ _ _ (.slice none 0 0) HBv2_4.out; simpa using h
    clear hb4 HBv1_4 HBv2_4 hW5
    obtain ⟨w6, hW6⟩ : ∃ W, W = (w5).setCell ⟨qv2, 2, none⟩ (.string ⟨#[]⟩) := ⟨_, rfl⟩
    rw [← hW6]
    have hb6 : Below w.heap.size w (w6) := by rw [hW6]; exact (hb5.setCell (p := ⟨qv2, 2, none⟩) HGv2.out _)
    have HM6 : Hid ((w5).heap.size ≤ w6.heap.size) := by show _ ≤ _; rw [hW6]; simp
    have HBv1_6 : Hid ((w6).heap[qv1]? = some (.cells #[.slice o1 c.s.cs.length c1, .slice o2 c.s.ws.length c2, .slice o3 n3 c3, .slice o4 n4 c4, .int .i64 c.s.nx, .int .i64 c.s.sq, .slice o5 n5 c5, .int .i64 c.now, .slice o6 n6 c6, .slice o7 n7 c7] 52)) := by show _ = _; rw [hW6, heap_setCell_other _ _ _ _ HNv1v2.out]; exact HBv1_5.out
    have HBv2_6 : Hid ((w6).heap[qv2]? = some (.cells #[.int .i64 0, .slice none 0 0, .string ⟨#[]⟩] 38)) := by show _ = _; rw [hW6]; have h := heap_set _ _ 2 _ _ _ (.string ⟨#[]⟩) HBv2_5.out; simpa using h
    clear hb5 HBv1_5 HBv2_5 hW6
    have kv2_0 : (w6).cell? ⟨qv2, 0, none⟩ = some (.int .i64 0) := (cell_of HBv2_6.out 0).trans rfl
    have kv2_1 : (w6).cell? ⟨qv2, 1, none⟩ = some (.slice none 0 0) := (cell_of HBv2_6.out 1).trans rfl
    have kv2_2 : (w6).cell? ⟨qv2, 2, none⟩ = some (.string ⟨#[]⟩) := (cell_of HBv2_6.out 2).trans rfl
    refine bodyPost_ret (v := .tuple #[.agg #[.int .i64 0, .slice none 0 0, .string ⟨#[]⟩], .bool false]) (by simp [results, Tryz.results7, go_sem, kv2_0, kv2_1, kv2_2]) rfl ?_
    rw [served_none HNJ.out]
    exact ⟨.slice none 0 0, rfl, ⟨rfl, .inl ⟨rfl, rfl⟩⟩, hb6⟩
  | true =>
    obtain ⟨j, hj⟩ := Option.isSome_iff_exists.1 hfb.symm
    have HCJ : Hid (cp = (j : Int)) := hcp j hj
    have HJ : Hid (firstTo c.sn c.sn.length x = some j) := hj
    have hjn : j < n7 := by have h1 := firstTo_lt c.sn x j _ hj; rw [HLC.out.2.2.1] at h1; exact h1
    clear hj hcp hfb
    obtain rfl : cp = (j : Int) := HCJ.out
    clear HCJ
    obtain ⟨g7, p7, hV, _, _⟩ := (HCA.out _ hb3).rps.look j (by rw [HLR.out]; omega)
    rw [HLR.out] at hV
    injection hV with hV1 hV2 hV3
    subst hV1 hV3
    clear hV2
    obtain ⟨dX, hdX⟩ : ∃ x, x = rpvAt rv j := ⟨_, rfl⟩
    have HMd : Hid (dX ∈ rv) := by show _ ∈ _; rw [hdX]; exact getD_mem0 _ rv j (by rw [HLR.out]; omega)
    have HEd : Hid (rpAt c.sn j = dX.d) := by show _ = _; rw [hdX, ← HRD.out]; exact getD_map0 _ _ _ rv j (by rw [HLR.out]; omega)
    have HKd : Hid (∀ W, Below w.heap.size w W → RpAt W g7 j dX) := fun W hb => by
      obtain ⟨g', p', hV, _, hc⟩ := (HCA.out W hb).rps.look j (by rw [HLR.out]; omega)
      injection hV with hV1 _ _
      cases hV1
      rw [hdX]
      exact hc
    have HRd : Hid (∀ W, Below w.heap.size w W → RowsO W B (rpR dX)) := fun W hb => (HCA.out W hb).rps.item HMd.out
    have HSd : Hid (RpSmall dX.d) := HZ.out.sn _ (by rw [← HRD.out]; exact List.mem_map.2 ⟨_, HMd.out, rfl⟩)
    clear hdX
    obtain ⟨d, kuv3, kuv6, kuv11, kuv12, kuv14⟩ := dX
    obtain ⟨ku3, kuc3, hu⟩ := slice_of_owns ((HRd.out _ hb3).own (⟨135, 2, kuv3, d.qfs.length, flatF d.qfs⟩ : Rw) (by simp [rpR]))
    obtain rfl : kuv3 = .slice ku3 d.qfs.length kuc3 := hu
    obtain ⟨ku6, kuc6, hu⟩ := slice_of_owns ((HRd.out _ hb3).own (⟨135, 2, kuv6, d.rfs.length, flatF d.rfs⟩ : Rw) (by simp [rpR]))
    obtain rfl : kuv6 = .slice ku6 d.rfs.length kuc6 := hu
    obtain ⟨ku11, kuc11, hu⟩ := slice_of_owns ((HRd.out _ hb3).own (⟨9, 1, kuv11, d.oxs.length, d.oxs.map Value.string⟩ : Rw) (by simp [rpR]))
    obtain rfl : kuv11 = .slice ku11 d.oxs.length kuc11 := hu
    obtain ⟨ku12, kuc12, hu⟩ := slice_of_owns ((HRd.out _ hb3).own (⟨9, 1, kuv12, d.oys.length, d.oys.map Value.string⟩ : Rw) (by simp [rpR]))
    obtain rfl : kuv12 = .slice ku12 d.oys.length kuc12 := hu
    obtain ⟨ku14, kuc14, hu⟩ := slice_of_owns ((HRd.out _ hb3).own (⟨135, 2, kuv14, d.ofs.length, flatF d.ofs⟩ : Rw) (by simp [rpR]))
    obtain rfl : kuv14 = .slice ku14 d.ofs.length kuc14 := hu
    have r0d := (HKd.out _ hb3).c0
    have r5d := (HKd.out _ hb3).c5
    have r6d := (HKd.out _ hb3).c6
    have r7d := (HKd.out _ hb3).c7
    dsimp only at r0d r5d r6d r7d
    have cv1_9 : (w3).cell? ⟨qv1, 9, none⟩ = some (.slice (some ⟨g7, 0, none⟩) n7 c7) := (cell_of HBv1_3.out 9).trans rfl
    go_wp2_with fail
    refine (copiedResp_any d.rst _ d.rbd d.rfs.length B d.rfs _ (FieldsV.of_owns ((HRd.out _ hb3).own (⟨135, 2, (.slice ku6 d.rfs.length kuc6), d.rfs.length, flatF d.rfs⟩ : Rw) (by simp [rpR]))) (Nat.le_trans HSd.out.lens.rfs (by decide)) (copyF_of HSd.out.rfs.2) (Nat.le_trans HSd.out.rbd (by decide))).mono ?_
    rintro e w4 ⟨vv, rfl, ownG, bw⟩
    obtain ⟨oG, pG, rfl⟩ := slice_of_owns ownG
    have hb4 : Below w.heap.size w (w4) := hb3.trans (bw.mono hb3.size)
    have HM4 : Hid ((w3).heap.size ≤ (w4).heap.size) := bw.size
    have HBv1_4 : Hid ((w4).heap[qv1]? = some (.cells #[.slice o1 c.s.cs.length c1, .slice o2 c.s.ws.length c2, .slice o3 n3 c3, .slice o4 n4 c4, .int .i64 c.s.nx, .int .i64 c.s.sq, .slice o5 n5 c5, .int .i64 c.now, .slice o6 n6 c6, .slice (some ⟨g7, 0, none⟩) n7 c7] 52)) := blk_below HBv1_3.out bw
    have HBv2_4 : Hid ((w4).heap[qv2]? = some (.cells #[.int .i64 0, .slice none 0 0, .string ⟨#[]⟩] 38)) := blk_below HBv2_3.out bw
    have HOG_4 : Hid ((w4).ownsRow w.heap.size 135 2 (.slice oG d.rfs.length pG) d.rfs.length (flatF d.rfs)) := owns_wide ownG hb3.size
    clear ownG
    clear hb3 HBv1_3 HBv2_3 bw
    clear r0d r5d r6d r7d cv1_9
    have cv2_0 : (w4).cell? ⟨qv2, 0, none⟩ = some (.int .i64 0) := (cell_of HBv2_4.out 0).trans rfl
    have fcv2_0 : (w4).frozen? ⟨qv2, 0, none⟩ = false := frozen_of HBv2_4.out 0
    have cv2_1 : (w4).cell? ⟨qv2, 1, none⟩ = some (.slice none 0 0) := (cell_of HBv2_4.out 1).trans rfl
    have fcv2_1 : (w4).frozen? ⟨qv2, 1, none⟩ = false := frozen_of HBv2_4.out 1
    have cv2_2 : (w4).cell? ⟨qv2, 2, none⟩ = some (.string ⟨#[]⟩) := (cell_of HBv2_4.out 2).trans rfl
    have fcv2_2 : (w4).frozen? ⟨qv2, 2, none⟩ = false := frozen_of HBv2_4.out 2
    go_wp2_with fail
    obtain ⟨w5, hW5⟩ : ∃ W, W = (w4).setCell ⟨qv2, 0, none⟩ (.int .i64 d.rst) := ⟨_, rfl⟩
    rw [← hW5]
    have hb5 : Below w.heap.size w (w5) := by rw [hW5]; exact (hb4.setCell (p := ⟨qv2, 0, none⟩) HGv2.out _)
    have HM5 : Hid ((w4).heap.size ≤ w5.heap.size) := by show _ ≤ _; rw [hW5]; simp
    have HOG_5 : Hid ((w5).ownsRow w.heap.size 135 2 (.slice oG d.rfs.length pG) d.rfs.length (flatF d.rfs)) := by show World.ownsRow _ _ _ _ _ _ _; rw [hW5]; exact owns_same HOG_4.out (fun g hg => heap_setCell_other _ _ g _ (own_ne HOG_4.out HBv2_4.out (by decide) g hg))
    have HBv1_5 : Hid ((w5).heap[qv1]? = some (.cells #[.slice o1 c.s.cs.length c1, .slice o2 c.s.ws.length c2, .slice o3 n3 c3, .slice o4 n4 c4, .int .i64 c.s.nx, .int .i64 c.s.sq, .slice o5 n5 c5, .int .i64 c.now, .slice o6 n6 c6, .slice (some ⟨g7, 0, none⟩) n7 c7] 52)) := by show _ = _; rw [hW5, heap_setCell_other _ _ _ _ HNv1v2.out]; exact HBv1_4.out
    have HBv2_5 : Hid ((w5).heap[qv2]? = some (.cells #[.int .i64 d.rst, .slice none 0 0, .string ⟨#[]⟩] 38)) := by show _ = _; rw [hW5]; have h := heap_set _ _ 0 _ _ _ (.int .i64 d.rst) HBv2_4.out; simpa using h
    clear hb4 HOG_4 HBv1_4 HBv2_4 hW5
    obtain ⟨w6, hW6⟩ : ∃ W, W = (w5).setCell ⟨qv2, 1, none⟩ (.slice oG d.rfs.length pG) := ⟨_, rfl⟩
    rw [← hW6]
    have hb6 : Below w.heap.size w (w6) := by rw [hW6]; exact (hb5.setCell (p := ⟨qv2, 1, none⟩) HGv2.out _)
    have HM6 : Hid ((w5).heap.size ≤ w6.heap.size) := by show _ ≤ _; rw [hW6]; simp
    have HOG_6 : Hid ((w6).ownsRow w.heap.size 135 2 (.slice oG d.rfs.length pG) d.rfs.length (flatF d.rfs)) := by show World.ownsRow _ _ _ _ _ _ _; rw [hW6]; exact owns_same HOG_5.out (fun g hg => heap_setCell_other _ _ g _ (own_ne HOG_5.out HBv2_5.out (by decide) g hg))
    have HBv1_6 : Hid ((w6).heap[qv1]? = some (.cells #[.slice o1 c.s.cs.length c1, .slice o2 c.s.ws.length c2, .slice o3 n3 c3, .slice o4 n4 c4, .int .i64 c.s.nx, .int .i64 c.s.sq, .slice o5 n5 c5, .int .i64 c.now, .slice o6 n6 c6, .slice (some ⟨g7, 0, none⟩) n7 c7] 52)) := by show _ = _; rw [hW6, heap_setCell_other _ _ _ _ HNv1v2.out]; exact HBv1_5.out
    have HBv2_6 : Hid ((w6).heap[qv2]? = some (.cells #[.int .i64 d.rst, .slice oG d.rfs.length pG, .string ⟨#[]⟩] 38)) := by show _ = _; rw [hW6]; have h := heap_set _ _ 1 _ _ _ (.slice oG d.rfs.length pG) HBv2_5.out; simpa using h
    clear hb5 HOG_5 HBv1_5 HBv2_5 hW6
    obtain ⟨w7, hW7⟩ : ∃ W, W = (w6).setCell ⟨qv2, 2, none⟩ (.string d.rbd) := ⟨_, rfl⟩
    rw [← hW7]
    have hb7 : Below w.heap.size w (w7) := by rw [hW7]; exact (hb6.setCell (p := ⟨qv2, 2, none⟩) HGv2.out _)
    have HOG_7 : Hid ((w7).ownsRow w.heap.size 135 2 (.slice oG d.rfs.length pG) d.rfs.length (flatF d.rfs)) := by show World.ownsRow _ _ _ _ _ _ _; rw [hW7]; exact owns_same HOG_6.out (fun g hg => heap_setCell_other _ _ g _ (own_ne HOG_6.out HBv2_6.out (by decide) g hg))
    have HBv1_7 : Hid ((w7).heap[qv1]? = some (.cells #[.slice o1 c.s.cs.length c1, .slice o2 c.s.ws.length c2, .slice o3 n3 c3, .slice o4 n4 c4, .int .i64 c.s.nx, .int .i64 c.s.sq, .slice o5 n5 c5, .int .i64 c.now, .slice o6 n6 c6, .slice (some ⟨g7, 0, none⟩) n7 c7] 52)) := by show _ = _; rw [hW7, heap_setCell_other _ _ _ _ HNv1v2.out]; exact HBv1_6.out
    have HBv2_7 : Hid ((w7).heap[qv2]? = some (.cells #[.int .i64 d.rst, .slice oG d.rfs.length pG, .string d.rbd] 38)) := by show _ = _; rw [hW7]; have h := heap_set _ _ 2 _ _ _ (.string d.rbd) HBv2_6.out; simpa using h
    clear hb6 HOG_6 HBv1_6 HBv2_6 hW7
    have kv2_0 : (w7).cell? ⟨qv2, 0, none⟩ = some (.int .i64 d.rst) := (cell_of HBv2_7.out 0).trans rfl
    have kv2_1 : (w7).cell? ⟨qv2, 1, none⟩ = some (.slice oG d.rfs.length pG) := (cell_of HBv2_7.out 1).trans rfl
    have kv2_2 : (w7).cell? ⟨qv2, 2, none⟩ = some (.string d.rbd) := (cell_of HBv2_7.out 2).trans rfl
    refine bodyPost_ret (v := .tuple #[.agg #[.int .i64 d.rst, .slice oG d.rfs.length pG, .string d.rbd], .bool true]) (by simp [results, Tryz.results7, go_sem, kv2_0, kv2_1, kv2_2]) rfl ?_
    rw [served_some HJ.out HEd.out]
    exact ⟨.slice oG d.rfs.length pG, rfl, HOG_7.out, hb7⟩

end Go.Proofs.YtajccgffallajaaGreat

namespace Go.Proofs.YtajccgffallajaaGreat
open Go.RowKit Go.WideShapes
open Go.Lib hiding intOf

set_option maxRecDepth 100000 in
/-- An object's seven cells among the arguments. -/
theorem objCells {H : Type} {enc : TypeId × Value → H} {W : World} {fuel : Nat} {d0 d1 d2 d3 d4 d5 d6 : Value} {x : DataW H × List MemPlace} (hf : DataW.trod enc Tryz.prog W 0 (fun _ => true) true fuel 99 [d0, d1, d2, d3, d4, d5, d6] = some x) :
    ∃ (p : ByteArray) (a1 : Option Addr) (n1 c1 : Nat) (xs : List ByteArray) (a2 : Option Addr) (n2 c2 : Nat) (ys : List ByteArray) (st : Int) (a3 : Option Addr) (n3 c3 : Nat) (fs : List (ByteArray × ByteArray)) (b : ByteArray) (t : Int), (d0 = .string p ∧ d1 = .slice a1 n1 c1 ∧ d2 = .slice a2 n2 c2 ∧ d3 = .int .i64 st ∧ d4 = .slice a3 n3 c3 ∧ d5 = .string b ∧ d6 = .int .i64 t) ∧ ArgT W W.heap.size a1 n1 xs ∧ ArgT W W.heap.size a2 n2 ys ∧ ArgF W W.heap.size a3 n3 fs ∧ n1 ≤ maxLen ∧ n2 ≤ maxLen ∧ n3 ≤ maxLen ∧ (∀ i, i < n1 → (textAt xs i).size ≤ maxLen) ∧ (∀ i, i < n2 → (textAt ys i).size ≤ maxLen) ∧ WalkF n3 fs ∧ p.size ≤ maxLen ∧ b.size ≤ maxLen := by
  obtain ⟨ys, q, _, _, _, hyl, hg⟩ := DataW.trod_struct Tryz.underlying99 hf
  have hcR : Tryz.prog.cellsOf 97 = 3 := by kernel_rfl
  have e3 : Tryz.prog.cellsOf 3 = 1 := by kernel_rfl
  have e9 : Tryz.prog.cellsOf 9 = 1 := by kernel_rfl
  have eL : Tryz.prog.cellsOf 92 = 1 := by kernel_rfl
  have eS : Tryz.prog.cellsOf 22 = 1 := by kernel_rfl
  have g0 := hg 0 _ rfl
  have g1 := hg 1 _ rfl
  have g2 := hg 2 _ rfl
  have g3 := hg 3 _ rfl
  have g4 := hg 4 _ rfl
  simp [e3, e9, eS, hcR] at g0 g1 g2 g3 g4
  have hy5 : ys.length = 5 := hyl
  rw [List.getElem?_eq_getElem (show 0 < ys.length by omega)] at g0
  rw [List.getElem?_eq_getElem (show 1 < ys.length by omega)] at g1
  rw [List.getElem?_eq_getElem (show 2 < ys.length by omega)] at g2
  rw [List.getElem?_eq_getElem (show 3 < ys.length by omega)] at g3
  rw [List.getElem?_eq_getElem (show 4 < ys.length by omega)] at g4
  obtain ⟨zs, q2, _, _, _, hzl, hk⟩ := DataW.trod_struct Tryz.underlying97 g3
  have k0 := hk 0 _ rfl
  have k1 := hk 1 _ rfl
  have k2 := hk 2 _ rfl
  simp [e3, e9, eL] at k0 k1 k2
  have hz3 : zs.length = 3 := hzl
  rw [List.getElem?_eq_getElem (show 0 < zs.length by omega)] at k0
  rw [List.getElem?_eq_getElem (show 1 < zs.length by omega)] at k1
  rw [List.getElem?_eq_getElem (show 2 < zs.length by omega)] at k2
  obtain ⟨p, hp, _, hps⟩ := DataW.trod_string Tryz.underlying9 g0
  obtain ⟨t, ht, _, _⟩ := DataW.trod_int Tryz.underlying3 g4
  obtain ⟨st, hst, _, _⟩ := DataW.trod_int Tryz.underlying3 k0
  obtain ⟨b, hb, _, hbs⟩ := DataW.trod_string Tryz.underlying9 k2
  obtain ⟨a1, n1, c1, rfl⟩ : ∃ a n cap, d1 = .slice a n cap := by
    rcases DataW.trod_slice Tryz.underlying22 g1 with ⟨h, _⟩ | ⟨a, n, cap, _, _, _, _, h, _⟩
    · exact ⟨none, 0, 0, by simpa using h⟩
    · exact ⟨_, n, cap, by simpa using h⟩
  obtain ⟨a2, n2, c2, rfl⟩ : ∃ a n cap, d2 = .slice a n cap := by
    rcases DataW.trod_slice Tryz.underlying22 g2 with ⟨h, _⟩ | ⟨a, n, cap, _, _, _, _, h, _⟩
    · exact ⟨none, 0, 0, by simpa using h⟩
    · exact ⟨_, n, cap, by simpa using h⟩
  obtain ⟨a3, n3, c3, rfl⟩ : ∃ a n cap, d4 = .slice a n cap := by
    rcases DataW.trod_slice Tryz.underlying92 k1 with ⟨h, _⟩ | ⟨a, n, cap, _, _, _, _, h, _⟩
    · exact ⟨none, 0, 0, by simpa using h⟩
    · exact ⟨_, n, cap, by simpa using h⟩
  obtain ⟨xs, x1, x2, x3⟩ := openTexts g1
  obtain ⟨ws, y1, y2, y3⟩ := openTexts g2
  obtain ⟨fs, z1, z2, z3⟩ := openFields k1
  simp only [List.cons.injEq, and_true] at hp ht hst hb
  subst hp ht hst hb
  exact ⟨p, a1, n1, c1, xs, a2, n2, c2, ws, st, a3, n3, c3, fs, b, t, ⟨rfl, rfl, rfl, rfl, rfl, rfl, rfl⟩, x1, y1, z1, x2, y2, z2, x3, y3, z3, hps, hbs⟩

set_option maxRecDepth 100000 in
/-- A list of what is kept among the arguments. -/
theorem openKeptS {H : Type} {enc : TypeId × Value → H} {W : World} {fuel : Nat} {a : Option Addr} {n cap : Nat} {x : DataW H × List MemPlace} (h : DataW.trod enc Tryz.prog W 0 (fun _ => true) true fuel 26 [.slice a n cap] = some x) :
    ∃ ks, ArgKept W W.heap.size a n ks ∧ n ≤ maxLen ∧ ∀ k ∈ ks, KpMax k := by
  rcases Go.Deep.open_slice Tryz.underlying26 h with ⟨hcs, _⟩ | ⟨ad, len, c, m, q, Dd, Pl, hcs, _, hl, hm, hmm, _, hx⟩
  · simp at hcs
    obtain ⟨rfl, rfl, rfl⟩ := hcs
    exact ⟨[], ⟨rfl, fun i hi => absurd hi (by omega)⟩, Nat.zero_le _, fun x hx => by simp at hx⟩
  · simp at hcs
    obtain ⟨rfl, rfl, rfl⟩ := hcs
    have hm2 : m = cap := by simpa using hmm
    have ce : Tryz.prog.cellsOf 151 = 9 := by kernel_rfl
    have co : Tryz.prog.cellsOf 99 = 7 := by kernel_rfl
    have ci : Tryz.prog.cellsOf 3 = 1 := by kernel_rfl
    have each : ∀ i, i < n → ∃ y : KpD, (∃ (a1 : Option Addr) (n1 c1 : Nat) (a2 : Option Addr) (n2 c2 : Nat) (a3 : Option Addr) (n3 c3 : Nat), (W.cell? (ad.add (i * 9 + 0)) = some (.string y.p) ∧ W.cell? (ad.add (i * 9 + 1)) = some (.slice a1 n1 c1) ∧ W.cell? (ad.add (i * 9 + 2)) = some (.slice a2 n2 c2) ∧ W.cell? (ad.add (i * 9 + 3)) = some (.int .i64 y.st) ∧ W.cell? (ad.add (i * 9 + 4)) = some (.slice a3 n3 c3) ∧ W.cell? (ad.add (i * 9 + 5)) = some (.string y.b) ∧ W.cell? (ad.add (i * 9 + 6)) = some (.int .i64 y.t) ∧ W.cell? (ad.add (i * 9 + 7)) = some (.int .i64 y.a) ∧ W.cell? (ad.add (i * 9 + 8)) = some (.int .i64 y.q)) ∧ ArgT W W.heap.size a1 n1 y.xs ∧ ArgT W W.heap.size a2 n2 y.ys ∧ ArgF W W.heap.size a3 n3 y.fs) ∧ KpMax y := by
      intro i hi
      obtain ⟨cs', h1, h2⟩ := hx i (by omega)
      rw [ce] at h1
      obtain ⟨_, hlen, hcell⟩ := World.cells?_some h1
      obtain ⟨xs, k, hk, hxy, _, hxl, hf⟩ := DataW.trod_struct Tryz.underlying151 h2
      match xs, hxl, cs', hlen with
      | [x0, x1, x2], _, [v0, v1, v2, v3, v4, v5, v6, v7, v8], _ =>
        have g0 := hf 0 _ rfl
        have g1 := hf 1 _ rfl
        have g2 := hf 2 _ rfl
        simp [ci, co] at g0 g1 g2
        obtain ⟨p, a1, n1, c1, xs, a2, n2, c2, ys, st, a3, n3, c3, fs, b, t, ⟨rfl, rfl, rfl, rfl, rfl, rfl, rfl⟩, w1, w2, w3, m1, m2, m3, s1, s2, s3, s4, s5⟩ := objCells g0
        obtain ⟨ka, e1, _, _⟩ := DataW.trod_int Tryz.underlying3 g1
        obtain ⟨kq, e2, _, _⟩ := DataW.trod_int Tryz.underlying3 g2
        simp only [List.cons.injEq, and_true] at e1 e2
        subst e1 e2
        have c0x := hcell 0 (by omega)
        have c1x := hcell 1 (by omega)
        have c2x := hcell 2 (by omega)
        have c3x := hcell 3 (by omega)
        have c4x := hcell 4 (by omega)
        have c5x := hcell 5 (by omega)
        have c6x := hcell 6 (by omega)
        have c7x := hcell 7 (by omega)
        have c8x := hcell 8 (by omega)
        rw [Go.Deep.add_add] at c0x c1x c2x c3x c4x c5x c6x c7x c8x
        refine ⟨⟨p, xs, ys, st, fs, b, t, ka, kq⟩, ⟨a1, n1, c1, a2, n2, c2, a3, n3, c3, ⟨by simpa using c0x, by simpa using c1x, by simpa using c2x, by simpa using c3x, by simpa using c4x, by simpa using c5x, by simpa using c6x, by simpa using c7x, by simpa using c8x⟩, w1, w2, w3⟩, ?_⟩
        unfold KpMax
        show xs.length ≤ maxLen ∧ ys.length ≤ maxLen ∧ fs.length ≤ maxLen ∧ (∀ i, i < xs.length → (textAt xs i).size ≤ maxLen) ∧ (∀ i, i < ys.length → (textAt ys i).size ≤ maxLen) ∧ WalkF fs.length fs ∧ p.size ≤ maxLen ∧ b.size ≤ maxLen
        rw [w1.len, w2.len, w3.len]
        exact ⟨m1, m2, m3, s1, s2, s3, s4, s5⟩
    haveI : Inhabited KpD := ⟨zeroK⟩
    obtain ⟨q, hq⟩ := Go.Deep.choose_lt each
    have hat : ∀ i, i < n → kpAt ((List.range n).map q) i = q i := fun i hi => by
      unfold kpAt
      rw [List.getD_eq_getElem?_getD, List.getElem?_map, List.getElem?_range hi]
      rfl
    refine ⟨(List.range n).map q, ⟨by simp, fun i hi => ?_⟩, by omega, fun x hx => ?_⟩
    · obtain ⟨⟨a1, n1, c1, a2, n2, c2, a3, n3, c3, cc, w1, w2, w3⟩, _⟩ := hq i hi
      have hsp : ad.spot = none := by
        obtain ⟨⟨_, _, _, _, _, _, _, _, _, c3, _⟩, _⟩ := hq 0 (by omega)
        have := World.cell?_spot c3.1
        simpa [Addr.add] using this
      obtain ⟨b, off, sp⟩ := ad
      simp only at hsp
      subst hsp
      simp only [addr_add] at cc
      rw [hat i hi]
      have hlt := World.block_lt_of_cell? W _ cc.1
      exact ⟨b, off, rfl, hlt, a1, n1, c1, a2, n2, c2, a3, n3, c3, ⟨by simpa [Nat.add_assoc] using cc.1, by simpa [Nat.add_assoc] using cc.2.1, by simpa [Nat.add_assoc] using cc.2.2.1, by simpa [Nat.add_assoc] using cc.2.2.2.1, by simpa [Nat.add_assoc] using cc.2.2.2.2.1, by simpa [Nat.add_assoc] using cc.2.2.2.2.2.1, by simpa [Nat.add_assoc] using cc.2.2.2.2.2.2.1, by simpa [Nat.add_assoc] using cc.2.2.2.2.2.2.2.1, by simpa [Nat.add_assoc] using cc.2.2.2.2.2.2.2.2⟩, w1, w2, w3⟩
    · obtain ⟨i, hi, rfl⟩ := List.mem_map.1 hx
      exact (hq i (List.mem_range.1 hi)).2

end Go.Proofs.YtajccgffallajaaGreat

namespace Go.Proofs.YtajccgffallajaaGreat
open Go.RowKit
open Go.Lib hiding intOf

set_option maxRecDepth 100000 in
theorem cellsReq {H : Type} {enc : TypeId × Value → H} {W : World} {fuel : Nat} {d0 d1 d2 d3 : Value} {x : DataW H × List MemPlace} (hf : DataW.trod enc Tryz.prog W 0 (fun _ => true) true fuel 94 [d0, d1, d2, d3] = some x) :
    ∃ (mt : Int) (pa : ByteArray) (fs : List (ByteArray × ByteArray)) (bd : ByteArray) (a : Option Addr) (n cap : Nat), (d0 = .int .i64 mt ∧ d1 = .string pa ∧ d2 = .slice a n cap ∧ d3 = .string bd) ∧ ArgF W W.heap.size a n fs ∧ n ≤ maxLen ∧ WalkF n fs ∧ pa.size ≤ maxLen ∧ bd.size ≤ maxLen := by
  obtain ⟨ys, q, _, _, _, hyl, hg⟩ := DataW.trod_struct Tryz.underlying94 hf
  have e3 : Tryz.prog.cellsOf 3 = 1 := by kernel_rfl
  have e9 : Tryz.prog.cellsOf 9 = 1 := by kernel_rfl
  have eL : Tryz.prog.cellsOf 92 = 1 := by kernel_rfl
  have g0 := hg 0 _ rfl
  have g1 := hg 1 _ rfl
  have g2 := hg 2 _ rfl
  have g3 := hg 3 _ rfl
  simp [e3, e9, eL] at g0 g1 g2 g3
  have hyz : ys.length = 4 := hyl
  rw [List.getElem?_eq_getElem (show 0 < ys.length by omega)] at g0
  rw [List.getElem?_eq_getElem (show 1 < ys.length by omega)] at g1
  rw [List.getElem?_eq_getElem (show 2 < ys.length by omega)] at g2
  rw [List.getElem?_eq_getElem (show 3 < ys.length by omega)] at g3
  obtain ⟨mt, hmt, _, _⟩ := DataW.trod_int Tryz.underlying3 g0
  obtain ⟨pa, hpa, _, spa⟩ := DataW.trod_string Tryz.underlying9 g1
  obtain ⟨a, n, cap, rfl⟩ : ∃ a n cap, d2 = .slice a n cap := by
    rcases DataW.trod_slice Tryz.underlying92 g2 with ⟨h, _⟩ | ⟨a, n, cap, _, _, _, _, h, _⟩
    · exact ⟨none, 0, 0, by simpa using h⟩
    · exact ⟨_, n, cap, by simpa using h⟩
  obtain ⟨fs, h1, h2, h3⟩ := openFields g2
  obtain ⟨bd, hbd, _, sbd⟩ := DataW.trod_string Tryz.underlying9 g3
  simp only [List.cons.injEq, and_true] at hmt hpa hbd
  subst hmt hpa hbd
  exact ⟨mt, pa, fs, bd, a, n, cap, ⟨rfl, rfl, rfl, rfl⟩, h1, h2, h3, spa, sbd⟩

set_option maxRecDepth 100000 in
theorem cellsResp {H : Type} {enc : TypeId × Value → H} {W : World} {fuel : Nat} {d0 d1 d2 : Value} {x : DataW H × List MemPlace} (hf : DataW.trod enc Tryz.prog W 0 (fun _ => true) true fuel 97 [d0, d1, d2] = some x) :
    ∃ (st : Int) (fs : List (ByteArray × ByteArray)) (bd : ByteArray) (a : Option Addr) (n cap : Nat), (d0 = .int .i64 st ∧ d1 = .slice a n cap ∧ d2 = .string bd) ∧ ArgF W W.heap.size a n fs ∧ n ≤ maxLen ∧ WalkF n fs ∧ bd.size ≤ maxLen := by
  obtain ⟨ys, q, _, _, _, hyl, hg⟩ := DataW.trod_struct Tryz.underlying97 hf
  have e3 : Tryz.prog.cellsOf 3 = 1 := by kernel_rfl
  have e9 : Tryz.prog.cellsOf 9 = 1 := by kernel_rfl
  have eL : Tryz.prog.cellsOf 92 = 1 := by kernel_rfl
  have g0 := hg 0 _ rfl
  have g1 := hg 1 _ rfl
  have g2 := hg 2 _ rfl
  simp [e3, e9, eL] at g0 g1 g2
  have hyz : ys.length = 3 := hyl
  rw [List.getElem?_eq_getElem (show 0 < ys.length by omega)] at g0
  rw [List.getElem?_eq_getElem (show 1 < ys.length by omega)] at g1
  rw [List.getElem?_eq_getElem (show 2 < ys.length by omega)] at g2
  obtain ⟨st, hst, _, _⟩ := DataW.trod_int Tryz.underlying3 g0
  obtain ⟨a, n, cap, rfl⟩ : ∃ a n cap, d1 = .slice a n cap := by
    rcases DataW.trod_slice Tryz.underlying92 g1 with ⟨h, _⟩ | ⟨a, n, cap, _, _, _, _, h, _⟩
    · exact ⟨none, 0, 0, by simpa using h⟩
    · exact ⟨_, n, cap, by simpa using h⟩
  obtain ⟨fs, h1, h2, h3⟩ := openFields g1
  obtain ⟨bd, hbd, _, sbd⟩ := DataW.trod_string Tryz.underlying9 g2
  simp only [List.cons.injEq, and_true] at hst hbd
  subst hst hbd
  exact ⟨st, fs, bd, a, n, cap, ⟨rfl, rfl, rfl⟩, h1, h2, h3, sbd⟩

end Go.Proofs.YtajccgffallajaaGreat

namespace Go.Proofs.YtajccgffallajaaGreat
open Go.RowKit
open Go.Lib hiding intOf

set_option maxRecDepth 100000 in
set_option maxHeartbeats 4000000 in
/-- A list of Flight among the arguments. -/
theorem openFlightS {H : Type} {enc : TypeId × Value → H} {W : World} {fuel : Nat} {a : Option Addr} {n cap : Nat} {x : DataW H × List MemPlace} (h : DataW.trod enc Tryz.prog W 0 (fun _ => true) true fuel 30 [.slice a n cap] = some x) :
    ∃ ks, ArgFlight W W.heap.size a n ks ∧ n ≤ maxLen ∧ ∀ k ∈ ks, FlMax k := by
  rcases Go.Deep.open_slice Tryz.underlying30 h with ⟨hcs, _⟩ | ⟨ad, len, c, m, q, Dd, Pl, hcs, _, hl, hm, hmm, _, hx⟩
  · simp at hcs
    obtain ⟨rfl, rfl, rfl⟩ := hcs
    exact ⟨[], ⟨rfl, fun i hi => absurd hi (by omega)⟩, Nat.zero_le _, fun x hx => by simp at hx⟩
  · simp at hcs
    obtain ⟨rfl, rfl, rfl⟩ := hcs
    have hm2 : m = cap := by simpa using hmm
    have ce : Tryz.prog.cellsOf 101 = 13 := by kernel_rfl
    have cReq : Tryz.prog.cellsOf 94 = 4 := by kernel_rfl
    have cIntS : Tryz.prog.cellsOf 95 = 1 := by kernel_rfl
    have cObj : Tryz.prog.cellsOf 99 = 7 := by kernel_rfl
    have cb : Tryz.prog.cellsOf 4 = 1 := by kernel_rfl
    have each : ∀ i, i < n → ∃ y : FlD, (∃ (a2 : Option Addr) (c2 : Nat) (a4 : Option Addr) (c4 : Nat) (a6 : Option Addr) (c6 : Nat) (a7 : Option Addr) (c7 : Nat) (a9 : Option Addr) (c9 : Nat), (W.cell? (ad.add (i * 13 + 0)) = some (.int .i64 y.qmt) ∧ W.cell? (ad.add (i * 13 + 1)) = some (.string y.qpa) ∧ W.cell? (ad.add (i * 13 + 2)) = some (.slice a2 y.qfs.length c2) ∧ W.cell? (ad.add (i * 13 + 3)) = some (.string y.qbd) ∧ W.cell? (ad.add (i * 13 + 4)) = some (.slice a4 y.who.length c4) ∧ W.cell? (ad.add (i * 13 + 5)) = some (.string y.opa) ∧ W.cell? (ad.add (i * 13 + 6)) = some (.slice a6 y.oxs.length c6) ∧ W.cell? (ad.add (i * 13 + 7)) = some (.slice a7 y.oys.length c7) ∧ W.cell? (ad.add (i * 13 + 8)) = some (.int .i64 y.ost) ∧ W.cell? (ad.add (i * 13 + 9)) = some (.slice a9 y.ofs.length c9) ∧ W.cell? (ad.add (i * 13 + 10)) = some (.string y.obd) ∧ W.cell? (ad.add (i * 13 + 11)) = some (.int .i64 y.otm) ∧ W.cell? (ad.add (i * 13 + 12)) = some (.bool y.has)) ∧ ArgF W W.heap.size a2 y.qfs.length y.qfs ∧ ArgI W W.heap.size a4 y.who.length y.who ∧ ArgT W W.heap.size a6 y.oxs.length y.oxs ∧ ArgT W W.heap.size a7 y.oys.length y.oys ∧ ArgF W W.heap.size a9 y.ofs.length y.ofs) ∧ FlMax y := by
      intro i hi
      obtain ⟨cs', h1, h2⟩ := hx i (by omega)
      rw [ce] at h1
      obtain ⟨_, hlen, hcell⟩ := World.cells?_some h1
      obtain ⟨xs, k, hk, hxy, _, hxl, hf⟩ := DataW.trod_struct Tryz.underlying101 h2
      match xs, hxl, cs', hlen with
      | [x0, x1, x2, x3], _, [v0, v1, v2, v3, v4, v5, v6, v7, v8, v9, v10, v11, v12], _ =>
        have g0 := hf 0 _ rfl
        have g1 := hf 1 _ rfl
        have g2 := hf 2 _ rfl
        have g3 := hf 3 _ rfl
        simp [cReq, cIntS, cObj, cb] at g0 g1 g2 g3
        obtain ⟨qmt, qpa, qfs, qbd, a2, n2, c2, ⟨rfl, rfl, rfl, rfl⟩, w2, m2, s2, zqpa, zqbd⟩ := cellsReq g0
        obtain ⟨a4, n4, c4, rfl⟩ : ∃ a n cap, v4 = .slice a n cap := by
          rcases DataW.trod_slice Tryz.underlying95 g1 with ⟨h, _⟩ | ⟨a, n, cap, _, _, _, _, h, _⟩
          · exact ⟨none, 0, 0, by simpa using h⟩
          · exact ⟨_, n, cap, by simpa using h⟩
        obtain ⟨who, w4, m4⟩ := openIntsT g1
        obtain ⟨opa, a6, n6, c6, oxs, a7, n7, c7, oys, ost, a9, n9, c9, ofs, obd, otm, ⟨rfl, rfl, rfl, rfl, rfl, rfl, rfl⟩, w6, w7, w9, m6, m7, m9, s6, s7, s9, zopa, zobd⟩ := objCells g2
        obtain ⟨has, e3, _⟩ := DataW.trod_bool Tryz.underlying4 g3
        simp only [List.cons.injEq, and_true] at e3
        subst e3
        obtain rfl := w2.len
        obtain rfl := w4.len
        obtain rfl := w6.len
        obtain rfl := w7.len
        obtain rfl := w9.len
        have c0x := hcell 0 (by omega)
        have c1x := hcell 1 (by omega)
        have c2x := hcell 2 (by omega)
        have c3x := hcell 3 (by omega)
        have c4x := hcell 4 (by omega)
        have c5x := hcell 5 (by omega)
        have c6x := hcell 6 (by omega)
        have c7x := hcell 7 (by omega)
        have c8x := hcell 8 (by omega)
        have c9x := hcell 9 (by omega)
        have c10x := hcell 10 (by omega)
        have c11x := hcell 11 (by omega)
        have c12x := hcell 12 (by omega)
        rw [Go.Deep.add_add] at c0x c1x c2x c3x c4x c5x c6x c7x c8x c9x c10x c11x c12x
        refine ⟨⟨qmt, qpa, qfs, qbd, who, opa, oxs, oys, ost, ofs, obd, otm, has⟩, ⟨a2, c2, a4, c4, a6, c6, a7, c7, a9, c9, ⟨by simpa using c0x, by simpa using c1x, by simpa using c2x, by simpa using c3x, by simpa using c4x, by simpa using c5x, by simpa using c6x, by simpa using c7x, by simpa using c8x, by simpa using c9x, by simpa using c10x, by simpa using c11x, by simpa using c12x⟩, w2, w4, w6, w7, w9⟩, ⟨zqpa, ⟨m2, s2⟩, zqbd, m4, zopa, ⟨m6, s6⟩, ⟨m7, s7⟩, ⟨m9, s9⟩, zobd⟩⟩
    haveI : Inhabited FlD := ⟨zeroFl⟩
    obtain ⟨q, hq⟩ := Go.Deep.choose_lt each
    have hat : ∀ i, i < n → flAt ((List.range n).map q) i = q i := fun i hi => by
      unfold flAt
      rw [List.getD_eq_getElem?_getD, List.getElem?_map, List.getElem?_range hi]
      rfl
    refine ⟨(List.range n).map q, ⟨by simp, fun i hi => ?_⟩, by omega, fun x hx => ?_⟩
    · obtain ⟨⟨a2, c2, a4, c4, a6, c6, a7, c7, a9, c9, cc, w2, w4, w6, w7, w9⟩, _⟩ := hq i hi
      have hsp : ad.spot = none := by
        obtain ⟨⟨_, _, _, _, _, _, _, _, _, _, c3, _⟩, _⟩ := hq 0 (by omega)
        have := World.cell?_spot c3.1
        simpa [Addr.add] using this
      obtain ⟨b, off, sp⟩ := ad
      simp only at hsp
      subst hsp
      simp only [addr_add] at cc
      rw [hat i hi]
      have hlt := World.block_lt_of_cell? W _ cc.1
      exact ⟨b, off, rfl, hlt, a2, c2, a4, c4, a6, c6, a7, c7, a9, c9, ⟨by simpa [Nat.add_assoc] using cc.1, by simpa [Nat.add_assoc] using cc.2.1, by simpa [Nat.add_assoc] using cc.2.2.1, by simpa [Nat.add_assoc] using cc.2.2.2.1, by simpa [Nat.add_assoc] using cc.2.2.2.2.1, by simpa [Nat.add_assoc] using cc.2.2.2.2.2.1, by simpa [Nat.add_assoc] using cc.2.2.2.2.2.2.1, by simpa [Nat.add_assoc] using cc.2.2.2.2.2.2.2.1, by simpa [Nat.add_assoc] using cc.2.2.2.2.2.2.2.2.1, by simpa [Nat.add_assoc] using cc.2.2.2.2.2.2.2.2.2.1, by simpa [Nat.add_assoc] using cc.2.2.2.2.2.2.2.2.2.2.1, by simpa [Nat.add_assoc] using cc.2.2.2.2.2.2.2.2.2.2.2.1, by simpa [Nat.add_assoc] using cc.2.2.2.2.2.2.2.2.2.2.2.2⟩, w2, w4, w6, w7, w9⟩
    · obtain ⟨i, hi, rfl⟩ := List.mem_map.1 hx
      exact (hq i (List.mem_range.1 hi)).2

end Go.Proofs.YtajccgffallajaaGreat

namespace Go.Proofs.YtajccgffallajaaGreat
open Go.RowKit
open Go.Lib hiding intOf

set_option maxRecDepth 100000 in
set_option maxHeartbeats 4000000 in
/-- A list of Seen among the arguments. -/
theorem openSeenS {H : Type} {enc : TypeId × Value → H} {W : World} {fuel : Nat} {a : Option Addr} {n cap : Nat} {x : DataW H × List MemPlace} (h : DataW.trod enc Tryz.prog W 0 (fun _ => true) true fuel 31 [.slice a n cap] = some x) :
    ∃ ks, ArgSeen W W.heap.size a n ks ∧ n ≤ maxLen ∧ ∀ k ∈ ks, SeMax k := by
  rcases Go.Deep.open_slice Tryz.underlying31 h with ⟨hcs, _⟩ | ⟨ad, len, c, m, q, Dd, Pl, hcs, _, hl, hm, hmm, _, hx⟩
  · simp at hcs
    obtain ⟨rfl, rfl, rfl⟩ := hcs
    exact ⟨[], ⟨rfl, fun i hi => absurd hi (by omega)⟩, Nat.zero_le _, fun x hx => by simp at hx⟩
  · simp at hcs
    obtain ⟨rfl, rfl, rfl⟩ := hcs
    have hm2 : m = cap := by simpa using hmm
    have ce : Tryz.prog.cellsOf 104 = 8 := by kernel_rfl
    have cReq : Tryz.prog.cellsOf 94 = 4 := by kernel_rfl
    have cResp : Tryz.prog.cellsOf 97 = 3 := by kernel_rfl
    have ci : Tryz.prog.cellsOf 3 = 1 := by kernel_rfl
    have each : ∀ i, i < n → ∃ y : SeD, (∃ (a2 : Option Addr) (c2 : Nat) (a5 : Option Addr) (c5 : Nat), (W.cell? (ad.add (i * 8 + 0)) = some (.int .i64 y.qmt) ∧ W.cell? (ad.add (i * 8 + 1)) = some (.string y.qpa) ∧ W.cell? (ad.add (i * 8 + 2)) = some (.slice a2 y.qfs.length c2) ∧ W.cell? (ad.add (i * 8 + 3)) = some (.string y.qbd) ∧ W.cell? (ad.add (i * 8 + 4)) = some (.int .i64 y.rst) ∧ W.cell? (ad.add (i * 8 + 5)) = some (.slice a5 y.rfs.length c5) ∧ W.cell? (ad.add (i * 8 + 6)) = some (.string y.rbd) ∧ W.cell? (ad.add (i * 8 + 7)) = some (.int .i64 y.tim)) ∧ ArgF W W.heap.size a2 y.qfs.length y.qfs ∧ ArgF W W.heap.size a5 y.rfs.length y.rfs) ∧ SeMax y := by
      intro i hi
      obtain ⟨cs', h1, h2⟩ := hx i (by omega)
      rw [ce] at h1
      obtain ⟨_, hlen, hcell⟩ := World.cells?_some h1
      obtain ⟨xs, k, hk, hxy, _, hxl, hf⟩ := DataW.trod_struct Tryz.underlying104 h2
      match xs, hxl, cs', hlen with
      | [x0, x1, x2], _, [v0, v1, v2, v3, v4, v5, v6, v7], _ =>
        have g0 := hf 0 _ rfl
        have g1 := hf 1 _ rfl
        have g2 := hf 2 _ rfl
        simp [cReq, cResp, ci] at g0 g1 g2
        obtain ⟨qmt, qpa, qfs, qbd, a2, n2, c2, ⟨rfl, rfl, rfl, rfl⟩, w2, m2, s2, zqpa, zqbd⟩ := cellsReq g0
        obtain ⟨rst, rfs, rbd, a5, n5, c5, ⟨rfl, rfl, rfl⟩, w5, m5, s5, zrbd⟩ := cellsResp g1
        obtain ⟨tim, e2, _, _⟩ := DataW.trod_int Tryz.underlying3 g2
        simp only [List.cons.injEq, and_true] at e2
        subst e2
        obtain rfl := w2.len
        obtain rfl := w5.len
        have c0x := hcell 0 (by omega)
        have c1x := hcell 1 (by omega)
        have c2x := hcell 2 (by omega)
        have c3x := hcell 3 (by omega)
        have c4x := hcell 4 (by omega)
        have c5x := hcell 5 (by omega)
        have c6x := hcell 6 (by omega)
        have c7x := hcell 7 (by omega)
        rw [Go.Deep.add_add] at c0x c1x c2x c3x c4x c5x c6x c7x
        refine ⟨⟨qmt, qpa, qfs, qbd, rst, rfs, rbd, tim⟩, ⟨a2, c2, a5, c5, ⟨by simpa using c0x, by simpa using c1x, by simpa using c2x, by simpa using c3x, by simpa using c4x, by simpa using c5x, by simpa using c6x, by simpa using c7x⟩, w2, w5⟩, ⟨zqpa, ⟨m2, s2⟩, zqbd, ⟨m5, s5⟩, zrbd⟩⟩
    haveI : Inhabited SeD := ⟨zeroSe⟩
    obtain ⟨q, hq⟩ := Go.Deep.choose_lt each
    have hat : ∀ i, i < n → seAt ((List.range n).map q) i = q i := fun i hi => by
      unfold seAt
      rw [List.getD_eq_getElem?_getD, List.getElem?_map, List.getElem?_range hi]
      rfl
    refine ⟨(List.range n).map q, ⟨by simp, fun i hi => ?_⟩, by omega, fun x hx => ?_⟩
    · obtain ⟨⟨a2, c2, a5, c5, cc, w2, w5⟩, _⟩ := hq i hi
      have hsp : ad.spot = none := by
        obtain ⟨⟨_, _, _, _, c3, _⟩, _⟩ := hq 0 (by omega)
        have := World.cell?_spot c3.1
        simpa [Addr.add] using this
      obtain ⟨b, off, sp⟩ := ad
      simp only at hsp
      subst hsp
      simp only [addr_add] at cc
      rw [hat i hi]
      have hlt := World.block_lt_of_cell? W _ cc.1
      exact ⟨b, off, rfl, hlt, a2, c2, a5, c5, ⟨by simpa [Nat.add_assoc] using cc.1, by simpa [Nat.add_assoc] using cc.2.1, by simpa [Nat.add_assoc] using cc.2.2.1, by simpa [Nat.add_assoc] using cc.2.2.2.1, by simpa [Nat.add_assoc] using cc.2.2.2.2.1, by simpa [Nat.add_assoc] using cc.2.2.2.2.2.1, by simpa [Nat.add_assoc] using cc.2.2.2.2.2.2.1, by simpa [Nat.add_assoc] using cc.2.2.2.2.2.2.2⟩, w2, w5⟩
    · obtain ⟨i, hi, rfl⟩ := List.mem_map.1 hx
      exact (hq i (List.mem_range.1 hi)).2

end Go.Proofs.YtajccgffallajaaGreat
