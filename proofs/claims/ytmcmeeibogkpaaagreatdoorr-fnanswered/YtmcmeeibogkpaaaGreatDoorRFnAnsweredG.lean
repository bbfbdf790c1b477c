/- What the proof of FnAnswered leans on: contracts of the program's and the specification's functions, and plain facts (part 7 of 9). -/
import Derived.Test.YtmcmeeibogkpaaaGreatDoorRFnAnsweredF
set_option maxHeartbeats 16000000
set_option maxRecDepth 100000
namespace Go.Proofs.YtmcmeeibogkpaaaGreatDoorR
open Go.RowKit
open Go.Lib hiding intOf
/-- A request of few and short texts. -/
def SmallQ (p : ByteArray) (fs : List (ByteArray × ByteArray)) (b : ByteArray) : Prop := p.size ≤ 64 ∧ fs.length ≤ 40 ∧ ShortF fs ∧ b.size ≤ 140
/-- A request, an object and a time are drawn. -/
def DrewQOT (w : World) (e : Ending) (w' : World) : Prop :=
 ∃ (ma : Int) (pa : ByteArray) (va : Value) (fsa : List (ByteArray × ByteArray)) (ba : ByteArray) (p : ByteArray) (v1 : Value) (xs : List ByteArray) (v2 : Value) (ys : List ByteArray) (st : Int) (v3 : Value) (fs : List (ByteArray × ByteArray)) (d : ByteArray) (u : Int) (t : Int), e = .returned (.tuple #[.agg #[.int .i64 ma, .string pa, va, .string ba], .agg #[.string p, v1, v2, .int .i64 st, v3, .string d, .int .i64 u], .int .i64 t]) ∧ (w'.ownsRow w.heap.size 74 2 va fsa.length (flatF fsa) ∧ SmallQ pa fsa ba) ∧ (w'.ownsRow w.heap.size 9 1 v1 xs.length (xs.map Value.string) ∧ w'.ownsRow w.heap.size 9 1 v2 ys.length (ys.map Value.string) ∧ w'.ownsRow w.heap.size 74 2 v3 fs.length (flatF fs)) ∧ SmallO p xs ys fs d u ∧ (-9223372036854775808 ≤ t ∧ t ≤ 9223372036854775807) ∧ Below w.heap.size w w'
/-- Two requests are drawn. -/
def DrewQQ (w : World) (e : Ending) (w' : World) : Prop :=
 ∃ (ma : Int) (pa : ByteArray) (va : Value) (fsa : List (ByteArray × ByteArray)) (ba : ByteArray) (mb : Int) (pb : ByteArray) (vb : Value) (fsb : List (ByteArray × ByteArray)) (bb : ByteArray), e = .returned (.tuple #[.agg #[.int .i64 ma, .string pa, va, .string ba], .agg #[.int .i64 mb, .string pb, vb, .string bb]]) ∧ (w'.ownsRow w.heap.size 74 2 va fsa.length (flatF fsa) ∧ SmallQ pa fsa ba) ∧ (w'.ownsRow w.heap.size 74 2 vb fsb.length (flatF fsb) ∧ SmallQ pb fsb bb) ∧ Below w.heap.size w w'
theorem l9Req_any (m : Int) (p : ByteArray) (v : Value) (b : ByteArray) (n base : Nat) (fs : List (ByteArray × ByteArray)) (w : World) (hv : FieldsV w base v n fs) (hn : n ≤ 1999999) :
  Calls Tryz.prog 50 #[.agg #[.int .i64 m, .string p, v, .string b]] w fun e w' => ∃ u, e = .returned (.agg #[.int .i64 m, .string p, u, .string b]) ∧ w'.ownsRow w.heap.size 74 2 u fs.length (flatF fs) ∧ Below w.heap.size w w' := by
 obtain ⟨oa, cap, rfl, _⟩ := hv.slice
 have HV : Hid (∀ W, Below w.heap.size w W → FieldsV W base (.slice oa n cap) n fs) := fun W h => hv.below h
 have HL : Hid (fs.length = n) := hv.len
 clear hv
 have hb0 : Below w.heap.size w w := Below.refl _ _
 go_enter Tryz.func50, Tryz.ntmps50
 go_upto_region 1 with fail
 obtain ⟨qv1, hqv1⟩ := exq ((w).heap.size)
 obtain ⟨w1, hW1⟩ := exq ((w).alloc (.cells #[.int .i64 m, .string p, .slice oa n cap, .string b] 26))
 have hz1 : (w).heap.size = qv1 := hqv1.symm
 first | rw [← hW1, ← hqv1] | rw [← hW1]
 have hs1 := hsa hW1 hz1
 have bw := bal hW1
 have hb1 := hbt hb0 bw
 have HBv1_1 := hnew hW1 hz1
 have HGv1 := hge hz1 hb0
 clear hb0 bw hW1 hz1
 obtain ⟨qv2, hqv2⟩ := exq (qv1 + 1)
 obtain ⟨w2, hW2⟩ := exq ((w1).alloc (.cells #[.int .i64 0, .string ⟨#[]⟩, .slice none 0 0, .string ⟨#[]⟩] 26))
 have hz2 : (w1).heap.size = qv2 := by rw [hqv2]; exact hs1
 first | rw [← hW2, ← hqv2] | rw [← hW2]
 have hs2 := hsa hW2 hz2
 have bw := bal hW2
 have hb2 := hbt hb1 bw
 have HBv1_2 := hblk HBv1_1 bw
 have HNv1v2 : Hid (qv1 ≠ qv2) := fun e => by have h1 := (Array.getElem?_eq_some_iff.1 HBv1_1.out).1; omega
 have HBv2_2 := hnew hW2 hz2
 have HGv2 := hge hz2 hb1
 clear hb1 HBv1_1 bw hW2 hz2
 clear hs2 hqv2 hs1 hqv1
 have cv1_2 := (k4c HBv1_2).2.2.1
 go_wp2_with fail
 refine (l9Copy_any _ n base fs _ (HV.out _ hb2) (by omega)).mono ?_
 rintro e w3 ⟨vv, rfl, ownG, bw⟩
 obtain ⟨oG, pG, rfl⟩ := slice_of_owns ownG
 rw [HL.out] at ownG ⊢
 have hb3 := hbt hb2 bw
 have HBv1_3 := hblk HBv1_2 bw
 have HBv2_3 := hblk HBv2_2 bw
 have HOG_3 := hwd ownG hb2.size
 clear ownG
 clear hb2 HBv1_2 HBv2_2 bw
 clear cv1_2
 have cv1_2 := (k4c HBv1_3).2.2.1
 have fcv1_2 := hfz HBv1_3 2
 go_upto_region 2 with fail
 obtain ⟨w4, hW4⟩ := exq ((w3).setCell ⟨qv1, 2, none⟩ (.slice oG n pG))
 rw [← hW4]
 have hb4 : Below w.heap.size w (w4) := by rw [hW4]; exact (hb3.setCell (p := ⟨qv1, 2, none⟩) HGv1.out _)
 have HOG_4 := hsetR hW4 (own_ne HOG_3.out HBv1_3.out (by decide)) HOG_3
 have HBv2_4 := hset hW4 HNv1v2.out.symm HBv2_3
 have HBv1_4 : Hid ((w4).heap[qv1]? = some (.cells #[.int .i64 m, .string p, .slice oG n pG, .string b] 26)) := by show _ = _; rw [hW4]; have h := heap_set _ _ 2 _ _ _ (.slice oG n pG) HBv1_3.out; simpa using h
 clear hb3 HOG_3 HBv1_3 HBv2_3 hW4
 clear cv1_2 fcv1_2
 have cv1_0 := (k4c HBv1_4).1
 have cv1_1 := (k4c HBv1_4).2.1
 have cv1_2 := (k4c HBv1_4).2.2.1
 have cv1_3 := (k4c HBv1_4).2.2.2
 have cv2_0 := (k4c HBv2_4).1
 have fcv2_0 := hfz HBv2_4 0
 have cv2_1 := (k4c HBv2_4).2.1
 have fcv2_1 := hfz HBv2_4 1
 have cv2_2 := (k4c HBv2_4).2.2.1
 have fcv2_2 := hfz HBv2_4 2
 have cv2_3 := (k4c HBv2_4).2.2.2
 have fcv2_3 := hfz HBv2_4 3
 go_wp2_with fail
 obtain ⟨w5, hW5⟩ := exq ((w4).setCell ⟨qv2, 0, none⟩ (.int .i64 m))
 rw [← hW5]
 have hb5 : Below w.heap.size w (w5) := by rw [hW5]; exact (hb4.setCell (p := ⟨qv2, 0, none⟩) HGv2.out _)
 have HOG_5 := hsetR hW5 (own_ne HOG_4.out HBv2_4.out (by decide)) HOG_4
 have HBv1_5 := hset hW5 HNv1v2.out HBv1_4
 have HBv2_5 : Hid ((w5).heap[qv2]? = some (.cells #[.int .i64 m, .string ⟨#[]⟩, .slice none 0 0, .string ⟨#[]⟩] 26)) := by show _ = _; rw [hW5]; have h := heap_set _ _ 0 _ _ _ (.int .i64 m) HBv2_4.out; simpa using h
 clear hb4 HOG_4 HBv1_4 HBv2_4 hW5
 obtain ⟨w6, hW6⟩ := exq ((w5).setCell ⟨qv2, 1, none⟩ (.string p))
 rw [← hW6]
 have hb6 : Below w.heap.size w (w6) := by rw [hW6]; exact (hb5.setCell (p := ⟨qv2, 1, none⟩) HGv2.out _)
 have HOG_6 := hsetR hW6 (own_ne HOG_5.out HBv2_5.out (by decide)) HOG_5
 have HBv1_6 := hset hW6 HNv1v2.out HBv1_5
 have HBv2_6 : Hid ((w6).heap[qv2]? = some (.cells #[.int .i64 m, .string p, .slice none 0 0, .string ⟨#[]⟩] 26)) := by show _ = _; rw [hW6]; have h := heap_set _ _ 1 _ _ _ (.string p) HBv2_5.out; simpa using h
 clear hb5 HOG_5 HBv1_5 HBv2_5 hW6
 obtain ⟨w7, hW7⟩ := exq ((w6).setCell ⟨qv2, 2, none⟩ (.slice oG n pG))
 rw [← hW7]
 have hb7 : Below w.heap.size w (w7) := by rw [hW7]; exact (hb6.setCell (p := ⟨qv2, 2, none⟩) HGv2.out _)
 have HOG_7 := hsetR hW7 (own_ne HOG_6.out HBv2_6.out (by decide)) HOG_6
 have HBv1_7 := hset hW7 HNv1v2.out HBv1_6
 have HBv2_7 : Hid ((w7).heap[qv2]? = some (.cells #[.int .i64 m, .string p, .slice oG n pG, .string ⟨#[]⟩] 26)) := by show _ = _; rw [hW7]; have h := heap_set _ _ 2 _ _ _ (.slice oG n pG) HBv2_6.out; simpa using h
 clear hb6 HOG_6 HBv1_6 HBv2_6 hW7
 obtain ⟨w8, hW8⟩ := exq ((w7).setCell ⟨qv2, 3, none⟩ (.string b))
 rw [← hW8]
 have hb8 : Below w.heap.size w (w8) := by rw [hW8]; exact (hb7.setCell (p := ⟨qv2, 3, none⟩) HGv2.out _)
 have HOG_8 := hsetR hW8 (own_ne HOG_7.out HBv2_7.out (by decide)) HOG_7
 have HBv1_8 := hset hW8 HNv1v2.out HBv1_7
 have HBv2_8 : Hid ((w8).heap[qv2]? = some (.cells #[.int .i64 m, .string p, .slice oG n pG, .string b] 26)) := by show _ = _; rw [hW8]; have h := heap_set _ _ 3 _ _ _ (.string b) HBv2_7.out; simpa using h
 clear hb7 HOG_7 HBv1_7 HBv2_7 hW8
 have kv2_0 := (k4c HBv2_8).1
 have kv2_1 := (k4c HBv2_8).2.1
 have kv2_2 := (k4c HBv2_8).2.2.1
 have kv2_3 := (k4c HBv2_8).2.2.2
 refine bodyPost_ret (v := .agg #[.int .i64 m, .string p, .slice oG n pG, .string b]) (by simp [results, Tryz.results50, go_sem, kv2_0, kv2_1, kv2_2, kv2_3]) rfl ?_
 refine ⟨_, rfl, ?_, hb8⟩
 rw [HL.out]
 exact HOG_8.out
theorem drawAnswer_any (a : Option Addr) (len cap : Nat) (zs : List Int) (w : World) (hcode : CodeAt w w.heap.size a len zs) :
  Calls Tryz.prog 6 #[.slice a len cap] w fun e w' => DrewQOT w e w' := by
 have HCO : Hid (∀ W, Below w.heap.size w W → CodeAt W w.heap.size a len zs) := fun W h => hcode.below h
 clear hcode
 have hb0 : Below w.heap.size w w := Below.refl _ _
 go_enter Tryz.func6, Tryz.ntmps6
 go_upto_region 1 with fail
 obtain ⟨qv1, hqv1⟩ := exq ((w).heap.size)
 obtain ⟨w1, hW1⟩ := exq ((w).alloc (.cells #[.int .i64 0, .string ⟨#[]⟩, .slice none 0 0, .string ⟨#[]⟩] 26))
 have hz1 : (w).heap.size = qv1 := hqv1.symm
 first | rw [← hW1, ← hqv1] | rw [← hW1]
 have hs1 := hsa hW1 hz1
 have bw := bal hW1
 have hb1 := hbt hb0 bw
 have HBv1_1 := hnew hW1 hz1
 have HGv1 := hge hz1 hb0
 clear hb0 bw hW1 hz1
 obtain ⟨qv2, hqv2⟩ := exq (qv1 + 1)
 obtain ⟨w2, hW2⟩ := exq ((w1).alloc (.cells #[.string ⟨#[]⟩, .slice none 0 0, .slice none 0 0, .int .i64 0, .slice none 0 0, .string ⟨#[]⟩, .int .i64 0] 31))
 have hz2 : (w1).heap.size = qv2 := by rw [hqv2]; exact hs1
 first | rw [← hW2, ← hqv2] | rw [← hW2]
 have hs2 := hsa hW2 hz2
 have bw := bal hW2
 have hb2 := hbt hb1 bw
 have HBv1_2 := hblk HBv1_1 bw
 have HNv1v2 : Hid (qv1 ≠ qv2) := fun e => by have h1 := (Array.getElem?_eq_some_iff.1 HBv1_1.out).1; omega
 have HBv2_2 := hnew hW2 hz2
 have HGv2 := hge hz2 hb1
 clear hb1 HBv1_1 bw hW2 hz2
 clear hs2 hqv2 hs1 hqv1
 go_wp2_with fail
 refine (l1New_any w.heap.size a len cap zs _ (HCO.out _ hb2)).mono ?_
 rintro e w3 ⟨rfl, hcu, bw⟩
 obtain ⟨c1, hc⟩ := exq (w2.heap.size)
 rw [← hc] at hcu ⊢
 have HGC : Hid (w.heap.size ≤ c1) := by show _ ≤ _; rw [hc]; exact hb2.size
 have HBC : Hid (w.heap.size ≤ c1) := HGC.out
 have HCU : Hid (CurAt w3 c1 a len cap) := hcu
 have HNCv1 : Hid (qv1 ≠ c1) := fun e => by have h1 := (Array.getElem?_eq_some_iff.1 HBv1_2.out).1; omega
 have HNCv2 : Hid (qv2 ≠ c1) := fun e => by have h1 := (Array.getElem?_eq_some_iff.1 HBv2_2.out).1; omega
 clear hc hcu
 have hb3 := hbt hb2 bw
 have HBv1_3 := hblk HBv1_2 bw
 have HBv2_3 := hblk HBv2_2 bw
 clear hb2 HBv1_2 HBv2_2 bw
 have EU_3 : Hid (CurAt w3 c1 a len cap) := HCU.out
 clear HCU
 go_wp2_with fail
 refine (l3DrawBadReq_any c1 w.heap.size a len cap zs _ EU_3.out (HCO.out _ hb3) HBC.out).mono ?_
 rintro e w4 ⟨m2, pp2, vv, f2, b2, rfl, hm2, hp2, ownQ2, hl2, hs2, hbz2, hcu, hg⟩
 obtain ⟨oQ2, pQ2, rfl⟩ := slice_of_owns ownQ2
 have HF2 : Hid (SmallQ pp2 f2 b2) := ⟨hp2, hl2, hs2, Nat.le_trans hbz2 (by decide)⟩
 clear hl2 hs2 hm2 hbz2 hp2
 have hb4 : Below w.heap.size w (w4) := hb3.grown hg hb3.size (by intro k hk; cases hk; exact HGC.out)
 have HBv1_4 : Hid ((w4).heap[qv1]? = some (.cells #[.int .i64 0, .string ⟨#[]⟩, .slice none 0 0, .string ⟨#[]⟩] 26)) := (hg.block _ (Array.getElem?_eq_some_iff.1 HBv1_3.out).1 (fun e => HNCv1.out (Option.some.inj e))).trans HBv1_3.out
 have HBv2_4 : Hid ((w4).heap[qv2]? = some (.cells #[.string ⟨#[]⟩, .slice none 0 0, .slice none 0 0, .int .i64 0, .slice none 0 0, .string ⟨#[]⟩, .int .i64 0] 31)) := (hg.block _ (Array.getElem?_eq_some_iff.1 HBv2_3.out).1 (fun e => HNCv2.out (Option.some.inj e))).trans HBv2_3.out
 have EU_4 : Hid (CurAt w4 c1 a len cap) := hcu
 have HOQ2_4 := hwd ownQ2 hb3.size
 clear ownQ2
 clear hb3 HBv1_3 HBv2_3 EU_3 hg hcu
 go_upto_region 3 with fail
 obtain ⟨qv3, hqv3⟩ := exq ((w4).heap.size)
 obtain ⟨w5, hW5⟩ := exq ((w4).alloc (.cells #[.int .i64 m2, .string pp2, .slice oQ2 f2.length pQ2, .string b2] 26))
 have hz5 : (w4).heap.size = qv3 := hqv3.symm
 first | rw [← hW5, ← hqv3] | rw [← hW5]
 have hs5 := hsa hW5 hz5
 have bw := bal hW5
 have hb5 := hbt hb4 bw
 have HOQ2_5 := hown HOQ2_4 bw
 have HBv1_5 := hblk HBv1_4 bw
 have HBv2_5 := hblk HBv2_4 bw
 have EU_5 : Hid (CurAt w5 c1 a len cap) := EU_4.out.below bw EU_4.out.lt
 have HNv1v3 : Hid (qv1 ≠ qv3) := fun e => by have h1 := (Array.getElem?_eq_some_iff.1 HBv1_4.out).1; omega
 have HNv2v3 : Hid (qv2 ≠ qv3) := fun e => by have h1 := (Array.getElem?_eq_some_iff.1 HBv2_4.out).1; omega
 have HBv3_5 := hnew hW5 hz5
 have HNCv3 : Hid (qv3 ≠ c1) := fun e => by have h1 := EU_4.out.lt; omega
 clear hb4 HOQ2_4 HBv1_4 HBv2_4 EU_4 bw hW5 hz5
 clear hs5 hqv3
 go_wp2_with fail
 refine (l10Draw_any c1 w.heap.size a len cap zs _ EU_5.out (HCO.out _ hb5) HBC.out).mono ?_
 rintro e w6 ⟨p3, vv1, xs3, vv2, ys3, st3, vv3, fs3, d3, u3, rfl, ⟨ownX3, ownY3, ownG3⟩, hsm3, hcu, hg⟩
 obtain ⟨oX3, pX3, rfl⟩ := slice_of_owns ownX3
 obtain ⟨oY3, pY3, rfl⟩ := slice_of_owns ownY3
 obtain ⟨oG3, pG3, rfl⟩ := slice_of_owns ownG3
 have HSM3 : Hid (SmallO p3 xs3 ys3 fs3 d3 u3) := hsm3
 clear hsm3
 have hb6 : Below w.heap.size w (w6) := hb5.grown hg hb5.size (by intro k hk; cases hk; exact HGC.out)
 have HOQ2_6 : Hid ((w6).ownsRow w.heap.size 74 2 (.slice oQ2 f2.length pQ2) f2.length (flatF f2)) := owns_same HOQ2_5.out (fun g hgg => hg.block g (owns_lt HOQ2_5.out hgg) (fun e => own_cur HOQ2_5.out EU_5.out (by decide) g hgg (Option.some.inj e)))
 have HBv1_6 : Hid ((w6).heap[qv1]? = some (.cells #[.int .i64 0, .string ⟨#[]⟩, .slice none 0 0, .string ⟨#[]⟩] 26)) := (hg.block _ (Array.getElem?_eq_some_iff.1 HBv1_5.out).1 (fun e => HNCv1.out (Option.some.inj e))).trans HBv1_5.out
 have HBv2_6 : Hid ((w6).heap[qv2]? = some (.cells #[.string ⟨#[]⟩, .slice none 0 0, .slice none 0 0, .int .i64 0, .slice none 0 0, .string ⟨#[]⟩, .int .i64 0] 31)) := (hg.block _ (Array.getElem?_eq_some_iff.1 HBv2_5.out).1 (fun e => HNCv2.out (Option.some.inj e))).trans HBv2_5.out
 have HBv3_6 : Hid ((w6).heap[qv3]? = some (.cells #[.int .i64 m2, .string pp2, .slice oQ2 f2.length pQ2, .string b2] 26)) := (hg.block _ (Array.getElem?_eq_some_iff.1 HBv3_5.out).1 (fun e => HNCv3.out (Option.some.inj e))).trans HBv3_5.out
 have EU_6 : Hid (CurAt w6 c1 a len cap) := hcu
 have HOX3_6 := hwd ownX3 hb5.size
 clear ownX3
 have HOY3_6 := hwd ownY3 hb5.size
 clear ownY3
 have HOG3_6 := hwd ownG3 hb5.size
 clear ownG3
 clear hb5 HOQ2_5 HBv1_5 HBv2_5 HBv3_5 EU_5 hg hcu
 go_upto_region 4 with fail
 obtain ⟨qv4, hqv4⟩ := exq ((w6).heap.size)
 obtain ⟨w7, hW7⟩ := exq ((w6).alloc (.cells #[.string p3, .slice oX3 xs3.length pX3, .slice oY3 ys3.length pY3, .int .i64 st3, .slice oG3 fs3.length pG3, .string d3, .int .i64 u3] 31))
 have hz7 : (w6).heap.size = qv4 := hqv4.symm
 first | rw [← hW7, ← hqv4] | rw [← hW7]
 have hs7 := hsa hW7 hz7
 have bw := bal hW7
 have hb7 := hbt hb6 bw
 have HOQ2_7 := hown HOQ2_6 bw
 have HOX3_7 := hown HOX3_6 bw
 have HOY3_7 := hown HOY3_6 bw
 have HOG3_7 := hown HOG3_6 bw
 have HBv1_7 := hblk HBv1_6 bw
 have HBv2_7 := hblk HBv2_6 bw
 have HBv3_7 := hblk HBv3_6 bw
 have EU_7 : Hid (CurAt w7 c1 a len cap) := EU_6.out.below bw EU_6.out.lt
 have HNv1v4 : Hid (qv1 ≠ qv4) := fun e => by have h1 := (Array.getElem?_eq_some_iff.1 HBv1_6.out).1; omega
 have HNv2v4 : Hid (qv2 ≠ qv4) := fun e => by have h1 := (Array.getElem?_eq_some_iff.1 HBv2_6.out).1; omega
 have HBv4_7 := hnew hW7 hz7
 have HNCv4 : Hid (qv4 ≠ c1) := fun e => by have h1 := EU_6.out.lt; omega
 clear hb6 HOQ2_6 HOX3_6 HOY3_6 HOG3_6 HBv1_6 HBv2_6 HBv3_6 EU_6 bw hW7 hz7
 clear hs7 hqv4
 go_upto_region 4 with fail
 refine wp_region_held_drew (S := fun W => W.heap[qv3]? = some (.cells #[.int .i64 m2, .string pp2, .slice oQ2 f2.length pQ2, .string b2] 26) ∧ W.heap[qv4]? = some (.cells #[.string p3, .slice oX3 xs3.length pX3, .slice oY3 ys3.length pY3, .int .i64 st3, .slice oG3 fs3.length pG3, .string d3, .int .i64 u3] 31)) (by kernel_rfl) ⟨HBv3_7.out, HBv4_7.out⟩ (fun _ => ?_)
 obtain ⟨w8, hX⟩ := exq w7.drew
 have bw := bdr hX
 rw [← hX]
 have hb8 := hbt hb7 bw
 have HOQ2_8 := hown HOQ2_7 bw
 have HOX3_8 := hown HOX3_7 bw
 have HOY3_8 := hown HOY3_7 bw
 have HOG3_8 := hown HOG3_7 bw
 have HBv1_8 := hblk HBv1_7 bw
 have HBv2_8 := hblk HBv2_7 bw
 have HBv3_8 := hblk HBv3_7 bw
 have HBv4_8 := hblk HBv4_7 bw
 have EU_8 : Hid (CurAt w8 c1 a len cap) := EU_7.out.below bw EU_7.out.lt
 have hS8 := And.intro HBv3_8.out HBv4_8.out
 clear hb7 HOQ2_7 HOX3_7 HOY3_7 HOG3_7 HBv1_7 HBv2_7 HBv3_7 HBv4_7 EU_7 bw hX
 refine tkL 0 (.agg #[.int .i64 m2, .string pp2, .slice oQ2 f2.length pQ2, .string b2]) 14 rfl rfl (Or.inl ⟨by rfl, by intro W hW; obtain ⟨hhv3, hhv4⟩ := hW; have y0 := (cell_of hhv3 0).trans rfl; have y1 := (cell_of hhv3 1).trans rfl; have y2 := (cell_of hhv3 2).trans rfl; have y3 := (cell_of hhv3 3).trans rfl; go_simp⟩) hS8 ?_
 go_frame
 refine tkL 1 (.agg #[.string p3, .slice oX3 xs3.length pX3, .slice oY3 ys3.length pY3, .int .i64 st3, .slice oG3 fs3.length pG3, .string d3, .int .i64 u3]) 15 rfl rfl (Or.inl ⟨by rfl, by intro W hW; obtain ⟨hhv3, hhv4⟩ := hW; have y0 := (cell_of hhv4 0).trans rfl; have y1 := (cell_of hhv4 1).trans rfl; have y2 := (cell_of hhv4 2).trans rfl; have y3 := (cell_of hhv4 3).trans rfl; have y4 := (cell_of hhv4 4).trans rfl; have y5 := (cell_of hhv4 5).trans rfl; have y6 := (cell_of hhv4 6).trans rfl; go_simp⟩) hS8 ?_
 go_frame
 refine tkP 2 (.pointer (some ⟨c1, 0, none⟩)) 16 rfl rfl hS8 ?_
 go_frame
 refine rd1 3 rfl (fun K hK => ?_)
 go_simp
 refine (l7DrawTime_any c1 w.heap.size a len cap zs _ EU_8.out (HCO.out _ hb8) HBC.out).mono ?_
 rintro e w9 ⟨tm4, rfl, ht04, ht14, hcu, hg⟩
 have HTM4 : Hid (-9223372036854775808 ≤ tm4 ∧ tm4 ≤ 9223372036854775807) := ⟨ht04, ht14⟩
 clear ht04 ht14
 have hb9 : Below w.heap.size w (w9) := hb8.grown hg hb8.size (by intro k hk; cases hk; exact HGC.out)
 have HOQ2_9 : Hid ((w9).ownsRow w.heap.size 74 2 (.slice oQ2 f2.length pQ2) f2.length (flatF f2)) := owns_same HOQ2_8.out (fun g hgg => hg.block g (owns_lt HOQ2_8.out hgg) (fun e => own_cur HOQ2_8.out EU_8.out (by decide) g hgg (Option.some.inj e)))
 have HOX3_9 : Hid ((w9).ownsRow w.heap.size 9 1 (.slice oX3 xs3.length pX3) xs3.length (xs3.map Value.string)) := owns_same HOX3_8.out (fun g hgg => hg.block g (owns_lt HOX3_8.out hgg) (fun e => own_cur HOX3_8.out EU_8.out (by decide) g hgg (Option.some.inj e)))
 have HOY3_9 : Hid ((w9).ownsRow w.heap.size 9 1 (.slice oY3 ys3.length pY3) ys3.length (ys3.map Value.string)) := owns_same HOY3_8.out (fun g hgg => hg.block g (owns_lt HOY3_8.out hgg) (fun e => own_cur HOY3_8.out EU_8.out (by decide) g hgg (Option.some.inj e)))
 have HOG3_9 : Hid ((w9).ownsRow w.heap.size 74 2 (.slice oG3 fs3.length pG3) fs3.length (flatF fs3)) := owns_same HOG3_8.out (fun g hgg => hg.block g (owns_lt HOG3_8.out hgg) (fun e => own_cur HOG3_8.out EU_8.out (by decide) g hgg (Option.some.inj e)))
 have HBv1_9 : Hid ((w9).heap[qv1]? = some (.cells #[.int .i64 0, .string ⟨#[]⟩, .slice none 0 0, .string ⟨#[]⟩] 26)) := (hg.block _ (Array.getElem?_eq_some_iff.1 HBv1_8.out).1 (fun e => HNCv1.out (Option.some.inj e))).trans HBv1_8.out
 have HBv2_9 : Hid ((w9).heap[qv2]? = some (.cells #[.string ⟨#[]⟩, .slice none 0 0, .slice none 0 0, .int .i64 0, .slice none 0 0, .string ⟨#[]⟩, .int .i64 0] 31)) := (hg.block _ (Array.getElem?_eq_some_iff.1 HBv2_8.out).1 (fun e => HNCv2.out (Option.some.inj e))).trans HBv2_8.out
 have HBv3_9 : Hid ((w9).heap[qv3]? = some (.cells #[.int .i64 m2, .string pp2, .slice oQ2 f2.length pQ2, .string b2] 26)) := (hg.block _ (Array.getElem?_eq_some_iff.1 HBv3_8.out).1 (fun e => HNCv3.out (Option.some.inj e))).trans HBv3_8.out
 have HBv4_9 : Hid ((w9).heap[qv4]? = some (.cells #[.string p3, .slice oX3 xs3.length pX3, .slice oY3 ys3.length pY3, .int .i64 st3, .slice oG3 fs3.length pG3, .string d3, .int .i64 u3] 31)) := (hg.block _ (Array.getElem?_eq_some_iff.1 HBv4_8.out).1 (fun e => HNCv4.out (Option.some.inj e))).trans HBv4_8.out
 have EU_9 : Hid (CurAt w9 c1 a len cap) := hcu
 clear hb8 HOQ2_8 HOX3_8 HOY3_8 HOG3_8 HBv1_8 HBv2_8 HBv3_8 HBv4_8 EU_8 hg hcu
 have hS9 := And.intro HBv3_9.out HBv4_9.out
 refine hK.out _ _ hS9 (fun _ => ?_)
 clear hK K hS8
 refine rd1 4 rfl (fun K hK => ?_)
 have ce0 := (k4c HBv1_9).1
 have fe0 := hfz HBv1_9 0
 have ce1 := (k4c HBv1_9).2.1
 have fe1 := hfz HBv1_9 1
 have ce2 := (k4c HBv1_9).2.2.1
 have fe2 := hfz HBv1_9 2
 have ce3 := (k4c HBv1_9).2.2.2
 have fe3 := hfz HBv1_9 3
 obtain ⟨w10, hY⟩ := exq (((((w9.setCell ⟨qv1, 0, none⟩ (.int .i64 m2)).setCell ⟨qv1, 1, none⟩ (.string pp2)).setCell ⟨qv1, 2, none⟩ (.slice oQ2 f2.length pQ2)).setCell ⟨qv1, 3, none⟩ (.string b2)))
 have HY := hsy hY
 have hb10 : Below w.heap.size w (w10) := by rw [hY]; exact ((((hb9.setCell (p := ⟨qv1, 0, none⟩) HGv1.out _).setCell (p := ⟨qv1, 1, none⟩) HGv1.out _).setCell (p := ⟨qv1, 2, none⟩) HGv1.out _).setCell (p := ⟨qv1, 3, none⟩) HGv1.out _)
 have HOQ2_10 : Hid ((w10).ownsRow w.heap.size 74 2 (.slice oQ2 f2.length pQ2) f2.length (flatF f2)) := by show World.ownsRow _ _ _ _ _ _ _; rw [hY]; exact owns_same HOQ2_9.out (fun g hg => by have hne := own_ne HOQ2_9.out HBv1_9.out (by decide) g hg; rw [heap_setCell_other _ _ g _ hne, heap_setCell_other _ _ g _ hne, heap_setCell_other _ _ g _ hne, heap_setCell_other _ _ g _ hne])
 have HOX3_10 : Hid ((w10).ownsRow w.heap.size 9 1 (.slice oX3 xs3.length pX3) xs3.length (xs3.map Value.string)) := by show World.ownsRow _ _ _ _ _ _ _; rw [hY]; exact owns_same HOX3_9.out (fun g hg => by have hne := own_ne HOX3_9.out HBv1_9.out (by decide) g hg; rw [heap_setCell_other _ _ g _ hne, heap_setCell_other _ _ g _ hne, heap_setCell_other _ _ g _ hne, heap_setCell_other _ _ g _ hne])
 have HOY3_10 : Hid ((w10).ownsRow w.heap.size 9 1 (.slice oY3 ys3.length pY3) ys3.length (ys3.map Value.string)) := by show World.ownsRow _ _ _ _ _ _ _; rw [hY]; exact owns_same HOY3_9.out (fun g hg => by have hne := own_ne HOY3_9.out HBv1_9.out (by decide) g hg; rw [heap_setCell_other _ _ g _ hne, heap_setCell_other _ _ g _ hne, heap_setCell_other _ _ g _ hne, heap_setCell_other _ _ g _ hne])
 have HOG3_10 : Hid ((w10).ownsRow w.heap.size 74 2 (.slice oG3 fs3.length pG3) fs3.length (flatF fs3)) := by show World.ownsRow _ _ _ _ _ _ _; rw [hY]; exact owns_same HOG3_9.out (fun g hg => by have hne := own_ne HOG3_9.out HBv1_9.out (by decide) g hg; rw [heap_setCell_other _ _ g _ hne, heap_setCell_other _ _ g _ hne, heap_setCell_other _ _ g _ hne, heap_setCell_other _ _ g _ hne])
 have HBv2_10 : Hid ((w10).heap[qv2]? = some (.cells #[.string ⟨#[]⟩, .slice none 0 0, .slice none 0 0, .int .i64 0, .slice none 0 0, .string ⟨#[]⟩, .int .i64 0] 31)) := by show _ = _; rw [hY, heap_setCell_other _ _ _ _ HNv1v2.out.symm, heap_setCell_other _ _ _ _ HNv1v2.out.symm, heap_setCell_other _ _ _ _ HNv1v2.out.symm, heap_setCell_other _ _ _ _ HNv1v2.out.symm]; exact HBv2_9.out
 have HBv3_10 : Hid ((w10).heap[qv3]? = some (.cells #[.int .i64 m2, .string pp2, .slice oQ2 f2.length pQ2, .string b2] 26)) := by show _ = _; rw [hY, heap_setCell_other _ _ _ _ HNv1v3.out.symm, heap_setCell_other _ _ _ _ HNv1v3.out.symm, heap_setCell_other _ _ _ _ HNv1v3.out.symm, heap_setCell_other _ _ _ _ HNv1v3.out.symm]; exact HBv3_9.out
 have HBv4_10 : Hid ((w10).heap[qv4]? = some (.cells #[.string p3, .slice oX3 xs3.length pX3, .slice oY3 ys3.length pY3, .int .i64 st3, .slice oG3 fs3.length pG3, .string d3, .int .i64 u3] 31)) := by show _ = _; rw [hY, heap_setCell_other _ _ _ _ HNv1v4.out.symm, heap_setCell_other _ _ _ _ HNv1v4.out.symm, heap_setCell_other _ _ _ _ HNv1v4.out.symm, heap_setCell_other _ _ _ _ HNv1v4.out.symm]; exact HBv4_9.out
 have EU_10 : Hid (CurAt w10 c1 a len cap) := by show CurAt _ _ _ _ _; rw [hY]; exact (cur_set (cur_set (cur_set (cur_set EU_9.out HNCv1.out 0 _) HNCv1.out 1 _) HNCv1.out 2 _) HNCv1.out 3 _)
 have HBv1_10 : Hid ((w10).heap[qv1]? = some (.cells #[.int .i64 m2, .string pp2, .slice oQ2 f2.length pQ2, .string b2] 26)) := by show _ = _; rw [hY]; have h := (heap_set _ qv1 3 _ _ _ (.string b2) (heap_set _ qv1 2 _ _ _ (.slice oQ2 f2.length pQ2) (heap_set _ qv1 1 _ _ _ (.string pp2) (heap_set _ qv1 0 _ _ _ (.int .i64 m2) HBv1_9.out)))); simpa using h
 clear hY hb9 HOQ2_9 HOX3_9 HOY3_9 HOG3_9 HBv1_9 HBv2_9 HBv3_9 HBv4_9 EU_9
 go_simp
 rw [HY.out]
 have hS10 := And.intro HBv3_10.out HBv4_10.out
 refine hK.out _ _ hS10 (fun _ => ?_)
 clear hK K HY hS9 ce0 fe0 ce1 fe1 ce2 fe2 ce3 fe3
 refine rd1 5 rfl (fun K hK => ?_)
 have ce0 := (k7c HBv2_10).1
 have fe0 := hfz HBv2_10 0
 have ce1 := (k7c HBv2_10).2.1
 have fe1 := hfz HBv2_10 1
 have ce2 := (k7c HBv2_10).2.2.1
 have fe2 := hfz HBv2_10 2
 have ce3 := (k7c HBv2_10).2.2.2.1
 have fe3 := hfz HBv2_10 3
 have ce4 := (k7c HBv2_10).2.2.2.2.1
 have fe4 := hfz HBv2_10 4
 have ce5 := (k7c HBv2_10).2.2.2.2.2.1
 have fe5 := hfz HBv2_10 5
 have ce6 := (k7c HBv2_10).2.2.2.2.2.2
 have fe6 := hfz HBv2_10 6
 obtain ⟨w11, hY⟩ := exq ((((((((w10.setCell ⟨qv2, 0, none⟩ (.string p3)).setCell ⟨qv2, 1, none⟩ (.slice oX3 xs3.length pX3)).setCell ⟨qv2, 2, none⟩ (.slice oY3 ys3.length pY3)).setCell ⟨qv2, 3, none⟩ (.int .i64 st3)).setCell ⟨qv2, 4, none⟩ (.slice oG3 fs3.length pG3)).setCell ⟨qv2, 5, none⟩ (.string d3)).setCell ⟨qv2, 6, none⟩ (.int .i64 u3)))
 have HY := hsy hY
 have hb11 : Below w.heap.size w (w11) := by rw [hY]; exact (((((((hb10.setCell (p := ⟨qv2, 0, none⟩) HGv2.out _).setCell (p := ⟨qv2, 1, none⟩) HGv2.out _).setCell (p := ⟨qv2, 2, none⟩) HGv2.out _).setCell (p := ⟨qv2, 3, none⟩) HGv2.out _).setCell (p := ⟨qv2, 4, none⟩) HGv2.out _).setCell (p := ⟨qv2, 5, none⟩) HGv2.out _).setCell (p := ⟨qv2, 6, none⟩) HGv2.out _)
 have HOQ2_11 : Hid ((w11).ownsRow w.heap.size 74 2 (.slice oQ2 f2.length pQ2) f2.length (flatF f2)) := by show World.ownsRow _ _ _ _ _ _ _; rw [hY]; exact owns_same HOQ2_10.out (fun g hg => by have hne := own_ne HOQ2_10.out HBv2_10.out (by decide) g hg; rw [heap_setCell_other _ _ g _ hne, heap_setCell_other _ _ g _ hne, heap_setCell_other _ _ g _ hne, heap_setCell_other _ _ g _ hne, heap_setCell_other _ _ g _ hne, heap_setCell_other _ _ g _ hne, heap_setCell_other _ _ g _ hne])
 have HOX3_11 : Hid ((w11).ownsRow w.heap.size 9 1 (.slice oX3 xs3.length pX3) xs3.length (xs3.map Value.string)) := by show World.ownsRow _ _ _ _ _ _ _; rw [hY]; exact owns_same HOX3_10.out (fun g hg => by have hne := own_ne HOX3_10.out HBv2_10.out (by decide) g hg; rw [heap_setCell_other _ _ g _ hne, heap_setCell_other _ _ g _ hne, heap_setCell_other _ _ g _ hne, heap_setCell_other _ _ g _ hne, heap_setCell_other _ _ g _ hne, heap_setCell_other _ _ g _ hne, heap_setCell_other _ _ g _ hne])
 have HOY3_11 : Hid ((w11).ownsRow w.heap.size 9 1 (.slice oY3 ys3.length pY3) ys3.length (ys3.map Value.string)) := by show World.ownsRow _ _ _ _ _ _ _; rw [hY]; exact owns_same HOY3_10.out (fun g hg => by have hne := own_ne HOY3_10.out HBv2_10.out (by decide) g hg; rw [heap_setCell_other _ _ g _ hne, heap_setCell_other _ _ g _ hne, heap_setCell_other _ _ g _ hne, heap_setCell_other _ _ g _ hne, heap_setCell_other _ _ g _ hne, heap_setCell_other _ _ g _ hne, heap_setCell_other _ _ g _ hne])
 have HOG3_11 : Hid ((w11).ownsRow w.heap.size 74 2 (.slice oG3 fs3.length pG3) fs3.length (flatF fs3)) := by show World.ownsRow _ _ _ _ _ _ _; rw [hY]; exact owns_same HOG3_10.out (fun g hg => by have hne := own_ne HOG3_10.out HBv2_10.out (by decide) g hg; rw [heap_setCell_other _ _ g _ hne, heap_setCell_other _ _ g _ hne, heap_setCell_other _ _ g _ hne, heap_setCell_other _ _ g _ hne, heap_setCell_other _ _ g _ hne, heap_setCell_other _ _ g _ hne, heap_setCell_other _ _ g _ hne])
 have HBv1_11 : Hid ((w11).heap[qv1]? = some (.cells #[.int .i64 m2, .string pp2, .slice oQ2 f2.length pQ2, .string b2] 26)) := by show _ = _; rw [hY, heap_setCell_other _ _ _ _ HNv1v2.out, heap_setCell_other _ _ _ _ HNv1v2.out, heap_setCell_other _ _ _ _ HNv1v2.out, heap_setCell_other _ _ _ _ HNv1v2.out, heap_setCell_other _ _ _ _ HNv1v2.out, heap_setCell_other _ _ _ _ HNv1v2.out, heap_setCell_other _ _ _ _ HNv1v2.out]; exact HBv1_10.out
 have HBv3_11 : Hid ((w11).heap[qv3]? = some (.cells #[.int .i64 m2, .string pp2, .slice oQ2 f2.length pQ2, .string b2] 26)) := by show _ = _; rw [hY, heap_setCell_other _ _ _ _ HNv2v3.out.symm, heap_setCell_other _ _ _ _ HNv2v3.out.symm, heap_setCell_other _ _ _ _ HNv2v3.out.symm, heap_setCell_other _ _ _ _ HNv2v3.out.symm, heap_setCell_other _ _ _ _ HNv2v3.out.symm, heap_setCell_other _ _ _ _ HNv2v3.out.symm, heap_setCell_other _ _ _ _ HNv2v3.out.symm]; exact HBv3_10.out
 have HBv4_11 : Hid ((w11).heap[qv4]? = some (.cells #[.string p3, .slice oX3 xs3.length pX3, .slice oY3 ys3.length pY3, .int .i64 st3, .slice oG3 fs3.length pG3, .string d3, .int .i64 u3] 31)) := by show _ = _; rw [hY, heap_setCell_other _ _ _ _ HNv2v4.out.symm, heap_setCell_other _ _ _ _ HNv2v4.out.symm, heap_setCell_other _ _ _ _ HNv2v4.out.symm, heap_setCell_other _ _ _ _ HNv2v4.out.symm, heap_setCell_other _ _ _ _ HNv2v4.out.symm, heap_setCell_other _ _ _ _ HNv2v4.out.symm, heap_setCell_other _ _ _ _ HNv2v4.out.symm]; exact HBv4_10.out
 have EU_11 : Hid (CurAt w11 c1 a len cap) := by show CurAt _ _ _ _ _; rw [hY]; exact (cur_set (cur_set (cur_set (cur_set (cur_set (cur_set (cur_set EU_10.out HNCv2.out 0 _) HNCv2.out 1 _) HNCv2.out 2 _) HNCv2.out 3 _) HNCv2.out 4 _) HNCv2.out 5 _) HNCv2.out 6 _)
 have HBv2_11 : Hid ((w11).heap[qv2]? = some (.cells #[.string p3, .slice oX3 xs3.length pX3, .slice oY3 ys3.length pY3, .int .i64 st3, .slice oG3 fs3.length pG3, .string d3, .int .i64 u3] 31)) := by show _ = _; rw [hY]; have h := (heap_set _ qv2 6 _ _ _ (.int .i64 u3) (heap_set _ qv2 5 _ _ _ (.string d3) (heap_set _ qv2 4 _ _ _ (.slice oG3 fs3.length pG3) (heap_set _ qv2 3 _ _ _ (.int .i64 st3) (heap_set _ qv2 2 _ _ _ (.slice oY3 ys3.length pY3) (heap_set _ qv2 1 _ _ _ (.slice oX3 xs3.length pX3) (heap_set _ qv2 0 _ _ _ (.string p3) HBv2_10.out))))))); simpa using h
 clear hY hb10 HOQ2_10 HOX3_10 HOY3_10 HOG3_10 HBv1_10 HBv2_10 HBv3_10 HBv4_10 EU_10
 go_simp
 rw [HY.out]
 have hS11 := And.intro HBv3_11.out HBv4_11.out
 refine hK.out _ _ hS11 (fun _ => ?_)
 clear hK K HY hS10 ce0 fe0 ce1 fe1 ce2 fe2 ce3 fe3 ce4 fe4 ce5 fe5 ce6 fe6
 refine tkP 6 (.int .i64 tm4) 4 rfl rfl hS11 ?_
 go_frame
 clear hS11
 refine wpAnyH_done (by kernel_rfl) ?_ _
 go_wp2_with fail
 have kv1_0 := (k4c HBv1_11).1
 have kv1_1 := (k4c HBv1_11).2.1
 have kv1_2 := (k4c HBv1_11).2.2.1
 have kv1_3 := (k4c HBv1_11).2.2.2
 have kv2_0 := (k7c HBv2_11).1
 have kv2_1 := (k7c HBv2_11).2.1
 have kv2_2 := (k7c HBv2_11).2.2.1
 have kv2_3 := (k7c HBv2_11).2.2.2.1
 have kv2_4 := (k7c HBv2_11).2.2.2.2.1
 have kv2_5 := (k7c HBv2_11).2.2.2.2.2.1
 have kv2_6 := (k7c HBv2_11).2.2.2.2.2.2
 refine bodyPost_ret (v := .tuple #[.agg #[.int .i64 m2, .string pp2, .slice oQ2 f2.length pQ2, .string b2], .agg #[.string p3, .slice oX3 xs3.length pX3, .slice oY3 ys3.length pY3, .int .i64 st3, .slice oG3 fs3.length pG3, .string d3, .int .i64 u3], .int .i64 tm4]) (by simp [results, Tryz.results6, go_sem, kv1_0, kv1_1, kv1_2, kv1_3, kv2_0, kv2_1, kv2_2, kv2_3, kv2_4, kv2_5, kv2_6]) rfl ?_
 exact ⟨_, _, _, _, _, _, _, _, _, _, _, _, _, _, _, _, rfl, ⟨HOQ2_11.out, HF2.out⟩, ⟨HOX3_11.out, HOY3_11.out, HOG3_11.out⟩, HSM3.out, HTM4.out, hb11⟩
theorem drawAlike_any (a : Option Addr) (len cap : Nat) (zs : List Int) (w : World) (hcode : CodeAt w w.heap.size a len zs) :
    Calls Tryz.prog 11 #[.slice a len cap] w fun e w' => DrewQQ w e w' := by
  have HCO : Hid (∀ W, Below w.heap.size w W → CodeAt W w.heap.size a len zs) := fun W h => hcode.below h
  clear hcode
  have hb0 : Below w.heap.size w w := Below.refl _ _
  go_enter Tryz.func11, Tryz.ntmps11
  go_upto_region 1 with fail
  obtain ⟨qv1, hqv1⟩ : ∃ q, q = (w).heap.size := ⟨_, rfl⟩
  obtain ⟨w1, hW1⟩ : ∃ W, W = (w).alloc (.cells #[.int .i64 0, .string ⟨#[]⟩, .slice none 0 0, .string ⟨#[]⟩] 26) := ⟨_, rfl⟩
  have hz1 : (w).heap.size = qv1 := hqv1.symm
  first | rw [← hW1, ← hqv1] | rw [← hW1]
  have hs1 : w1.heap.size = qv1 + 1 := by rw [hW1, ← hz1]; simp
  have bw : Below (w).heap.size (w) w1 := by rw [hW1]; exact (Below.refl _ _).alloc (Nat.le_refl _) _
  have hb1 := hbt hb0 bw
  have HBv1_1 : Hid ((w1).heap[qv1]? = some (.cells #[.int .i64 0, .string ⟨#[]⟩, .slice none 0 0, .string ⟨#[]⟩] 26)) := by show _ = _; rw [hW1, ← hz1]; exact heap_alloc_new _ _
  have HGv1 : Hid (w.heap.size ≤ qv1) := by show _ ≤ _; rw [← hz1]; exact hb0.size
  clear hb0 bw hW1 hz1
  obtain ⟨qv2, hqv2⟩ : ∃ q, q = qv1 + 1 := ⟨_, rfl⟩
  obtain ⟨w2, hW2⟩ : ∃ W, W = (w1).alloc (.cells #[.int .i64 0, .string ⟨#[]⟩, .slice none 0 0, .string ⟨#[]⟩] 26) := ⟨_, rfl⟩
  have hz2 : (w1).heap.size = qv2 := by rw [hqv2]; exact hs1
  first | rw [← hW2, ← hqv2] | rw [← hW2]
  have hs2 : w2.heap.size = qv2 + 1 := by rw [hW2, ← hz2]; simp
  have bw : Below (w1).heap.size (w1) w2 := by rw [hW2]; exact (Below.refl _ _).alloc (Nat.le_refl _) _
  have hb2 := hbt hb1 bw
  have HBv1_2 := hblk HBv1_1 bw
  have HNv1v2 : Hid (qv1 ≠ qv2) := fun e => by have h1 := (Array.getElem?_eq_some_iff.1 HBv1_1.out).1; omega
  have HBv2_2 : Hid ((w2).heap[qv2]? = some (.cells #[.int .i64 0, .string ⟨#[]⟩, .slice none 0 0, .string ⟨#[]⟩] 26)) := by show _ = _; rw [hW2, ← hz2]; exact heap_alloc_new _ _
  have HGv2 : Hid (w.heap.size ≤ qv2) := by show _ ≤ _; rw [← hz2]; exact hb1.size
  clear hb1 HBv1_1 bw hW2 hz2
  clear hs2 hqv2 hs1 hqv1
  go_wp2_with fail
  refine (l1New_any w.heap.size a len cap zs _ (HCO.out _ hb2)).mono ?_
  rintro e w3 ⟨rfl, hcu, bw⟩
  obtain ⟨c1, hc⟩ : ∃ c, c = w2.heap.size := ⟨_, rfl⟩
  rw [← hc] at hcu ⊢
  have HGC : Hid (w.heap.size ≤ c1) := by show _ ≤ _; rw [hc]; exact hb2.size
  have HBC : Hid (w.heap.size ≤ c1) := HGC.out
  have HCU : Hid (CurAt w3 c1 a len cap) := hcu
  have HNCv1 : Hid (qv1 ≠ c1) := fun e => by have h1 := (Array.getElem?_eq_some_iff.1 HBv1_2.out).1; omega
  have HNCv2 : Hid (qv2 ≠ c1) := fun e => by have h1 := (Array.getElem?_eq_some_iff.1 HBv2_2.out).1; omega
  clear hc hcu
  have hb3 := hbt hb2 bw
  have HBv1_3 := hblk HBv1_2 bw
  have HBv2_3 := hblk HBv2_2 bw
  clear hb2 HBv1_2 HBv2_2 bw
  have EU_3 : Hid (CurAt w3 c1 a len cap) := HCU.out
  clear HCU
  go_wp2_with fail
  refine (l3DrawBadReq_any c1 w.heap.size a len cap zs _ EU_3.out (HCO.out _ hb3) HBC.out).mono ?_
  rintro e w4 ⟨m2, pp2, vv, f2, b2, rfl, hm2, hp2, ownQ2, hl2, hs2, hbz2, hcu, hg⟩
  obtain ⟨oQ2, pQ2, rfl⟩ := slice_of_owns ownQ2
  have HF2 : Hid (SmallQ pp2 f2 b2) := ⟨hp2, hl2, hs2, Nat.le_trans hbz2 (by decide)⟩
  clear hl2 hs2 hm2 hbz2 hp2
  have hb4 : Below w.heap.size w (w4) := hb3.grown hg hb3.size (by intro k hk; cases hk; exact HGC.out)
  have HBv1_4 : Hid ((w4).heap[qv1]? = some (.cells #[.int .i64 0, .string ⟨#[]⟩, .slice none 0 0, .string ⟨#[]⟩] 26)) := (hg.block _ (Array.getElem?_eq_some_iff.1 HBv1_3.out).1 (fun e => HNCv1.out (Option.some.inj e))).trans HBv1_3.out
  have HBv2_4 : Hid ((w4).heap[qv2]? = some (.cells #[.int .i64 0, .string ⟨#[]⟩, .slice none 0 0, .string ⟨#[]⟩] 26)) := (hg.block _ (Array.getElem?_eq_some_iff.1 HBv2_3.out).1 (fun e => HNCv2.out (Option.some.inj e))).trans HBv2_3.out
  have EU_4 : Hid (CurAt w4 c1 a len cap) := hcu
  have HOQ2_4 : Hid ((w4).ownsRow w.heap.size 74 2 (.slice oQ2 f2.length pQ2) f2.length (flatF f2)) := owns_wide ownQ2 hb3.size
  clear ownQ2
  clear hb3 HBv1_3 HBv2_3 EU_3 hg hcu
  go_upto_region 3 with fail
  obtain ⟨qv3, hqv3⟩ : ∃ q, q = (w4).heap.size := ⟨_, rfl⟩
  obtain ⟨w5, hW5⟩ : ∃ W, W = (w4).alloc (.cells #[.int .i64 m2, .string pp2, .slice oQ2 f2.length pQ2, .string b2] 26) := ⟨_, rfl⟩
  have hz5 : (w4).heap.size = qv3 := hqv3.symm
  first | rw [← hW5, ← hqv3] | rw [← hW5]
  have hs5 : w5.heap.size = qv3 + 1 := by rw [hW5, ← hz5]; simp
  have bw : Below (w4).heap.size (w4) w5 := by rw [hW5]; exact (Below.refl _ _).alloc (Nat.le_refl _) _
  have hb5 := hbt hb4 bw
  have HOQ2_5 := hown HOQ2_4 bw
  have HBv1_5 := hblk HBv1_4 bw
  have HBv2_5 := hblk HBv2_4 bw
  have EU_5 : Hid (CurAt w5 c1 a len cap) := EU_4.out.below bw EU_4.out.lt
  have HNv1v3 : Hid (qv1 ≠ qv3) := fun e => by have h1 := (Array.getElem?_eq_some_iff.1 HBv1_4.out).1; omega
  have HNv2v3 : Hid (qv2 ≠ qv3) := fun e => by have h1 := (Array.getElem?_eq_some_iff.1 HBv2_4.out).1; omega
  have HBv3_5 : Hid ((w5).heap[qv3]? = some (.cells #[.int .i64 m2, .string pp2, .slice oQ2 f2.length pQ2, .string b2] 26)) := by show _ = _; rw [hW5, ← hz5]; exact heap_alloc_new _ _
  have HNCv3 : Hid (qv3 ≠ c1) := fun e => by have h1 := EU_4.out.lt; omega
  clear hb4 HOQ2_4 HBv1_4 HBv2_4 EU_4 bw hW5 hz5
  clear hs5 hqv3
  go_wp2_with fail
  refine (l1Once_any c1 w.heap.size 2 a len cap zs _ EU_5.out (HCO.out _ hb5) HBC.out (by omega) (by omega)).mono ?_
  rintro e w6 ⟨hone, hcu, hg⟩
  obtain ⟨o3, rfl⟩ := hone.out
  clear hone
  have hb6 : Below w.heap.size w (w6) := hb5.grown hg hb5.size (by intro k hk; cases hk; exact HGC.out)
  have HOQ2_6 : Hid ((w6).ownsRow w.heap.size 74 2 (.slice oQ2 f2.length pQ2) f2.length (flatF f2)) := owns_same HOQ2_5.out (fun g hgg => hg.block g (owns_lt HOQ2_5.out hgg) (fun e => own_cur HOQ2_5.out EU_5.out (by decide) g hgg (Option.some.inj e)))
  have HBv1_6 : Hid ((w6).heap[qv1]? = some (.cells #[.int .i64 0, .string ⟨#[]⟩, .slice none 0 0, .string ⟨#[]⟩] 26)) := (hg.block _ (Array.getElem?_eq_some_iff.1 HBv1_5.out).1 (fun e => HNCv1.out (Option.some.inj e))).trans HBv1_5.out
  have HBv2_6 : Hid ((w6).heap[qv2]? = some (.cells #[.int .i64 0, .string ⟨#[]⟩, .slice none 0 0, .string ⟨#[]⟩] 26)) := (hg.block _ (Array.getElem?_eq_some_iff.1 HBv2_5.out).1 (fun e => HNCv2.out (Option.some.inj e))).trans HBv2_5.out
  have HBv3_6 : Hid ((w6).heap[qv3]? = some (.cells #[.int .i64 m2, .string pp2, .slice oQ2 f2.length pQ2, .string b2] 26)) := (hg.block _ (Array.getElem?_eq_some_iff.1 HBv3_5.out).1 (fun e => HNCv3.out (Option.some.inj e))).trans HBv3_5.out
  have EU_6 : Hid (CurAt w6 c1 a len cap) := hcu
  clear hb5 HOQ2_5 HBv1_5 HBv2_5 HBv3_5 EU_5 hg hcu
  cases o3 with
  | false =>
    go_upto_region 8 with fail
    refine wp_region_held_drew (S := fun W => W.heap[qv3]? = some (.cells #[.int .i64 m2, .string pp2, .slice oQ2 f2.length pQ2, .string b2] 26)) (by kernel_rfl) HBv3_6.out (fun _ => ?_)
    obtain ⟨w7, hX⟩ : ∃ X, X = w6.drew := ⟨_, rfl⟩
    have bw : Below w6.heap.size w6 w7 := by rw [hX]; exact (Below.refl _ _).drew
    rw [← hX]
    have hb7 := hbt hb6 bw
    have HM7 : Hid ((w6).heap.size ≤ (w7).heap.size) := bw.size
    have HOQ2_7 := hown HOQ2_6 bw
    have HBv1_7 := hblk HBv1_6 bw
    have HBv2_7 := hblk HBv2_6 bw
    have HBv3_7 := hblk HBv3_6 bw
    have EU_7 : Hid (CurAt w7 c1 a len cap) := EU_6.out.below bw EU_6.out.lt
    have hS7 : w7.heap[qv3]? = some (.cells #[.int .i64 m2, .string pp2, .slice oQ2 f2.length pQ2, .string b2] 26) := HBv3_7.out
    clear hb6 HOQ2_6 HBv1_6 HBv2_6 HBv3_6 EU_6 bw hX
    refine tkL 0 (.agg #[.int .i64 m2, .string pp2, .slice oQ2 f2.length pQ2, .string b2]) 20 rfl rfl (Or.inl ⟨by rfl, by intro W hW; have hhv3 := hW; have y0 := (cell_of hhv3 0).trans rfl; have y1 := (cell_of hhv3 1).trans rfl; have y2 := (cell_of hhv3 2).trans rfl; have y3 := (cell_of hhv3 3).trans rfl; go_simp⟩) hS7 ?_
    go_frame
    refine tkP 1 (.pointer (some ⟨c1, 0, none⟩)) 21 rfl rfl hS7 ?_
    go_frame
    refine wpAnyH_ready (rs := [2]) (by kernel_rfl) (by simp) ?_
    refine AllReadyH.cons rfl (fun K hK => ?_) AllReadyH.nil
    go_simp
    refine (l3DrawReq_any c1 w.heap.size a len cap zs _ EU_7.out (HCO.out _ hb7) HBC.out).mono ?_
    rintro e w8 ⟨m4, pp4, vv, f4, b4, rfl, hm4, hp4, ownQ4, hl4, hs4, hbz4, hcu, hg⟩
    obtain ⟨oQ4, pQ4, rfl⟩ := slice_of_owns ownQ4
    have HF4 : Hid (SmallQ pp4 f4 b4) := ⟨hp4, hl4, hs4, Nat.le_trans hbz4 (by decide)⟩
    clear hl4 hs4 hm4 hbz4 hp4
    have hb8 : Below w.heap.size w (w8) := hb7.grown hg hb7.size (by intro k hk; cases hk; exact HGC.out)
    have HM8 : Hid ((w7).heap.size ≤ (w8).heap.size) := hg.size
    have HOQ2_8 : Hid ((w8).ownsRow w.heap.size 74 2 (.slice oQ2 f2.length pQ2) f2.length (flatF f2)) := owns_same HOQ2_7.out (fun g hgg => hg.block g (owns_lt HOQ2_7.out hgg) (fun e => own_cur HOQ2_7.out EU_7.out (by decide) g hgg (Option.some.inj e)))
    have HBv1_8 : Hid ((w8).heap[qv1]? = some (.cells #[.int .i64 0, .string ⟨#[]⟩, .slice none 0 0, .string ⟨#[]⟩] 26)) := (hg.block _ (Array.getElem?_eq_some_iff.1 HBv1_7.out).1 (fun e => HNCv1.out (Option.some.inj e))).trans HBv1_7.out
    have HBv2_8 : Hid ((w8).heap[qv2]? = some (.cells #[.int .i64 0, .string ⟨#[]⟩, .slice none 0 0, .string ⟨#[]⟩] 26)) := (hg.block _ (Array.getElem?_eq_some_iff.1 HBv2_7.out).1 (fun e => HNCv2.out (Option.some.inj e))).trans HBv2_7.out
    have HBv3_8 : Hid ((w8).heap[qv3]? = some (.cells #[.int .i64 m2, .string pp2, .slice oQ2 f2.length pQ2, .string b2] 26)) := (hg.block _ (Array.getElem?_eq_some_iff.1 HBv3_7.out).1 (fun e => HNCv3.out (Option.some.inj e))).trans HBv3_7.out
    have EU_8 : Hid (CurAt w8 c1 a len cap) := hcu
    have HOQ4_8 : Hid ((w8).ownsRow w.heap.size 74 2 (.slice oQ4 f4.length pQ4) f4.length (flatF f4)) := owns_wide ownQ4 hb7.size
    have LOQ4 : Hid (∀ g, (Value.ownBlock (.slice oQ4 f4.length pQ4)) = some g → (w7).heap.size ≤ g) := fun g hg => owns_ge ownQ4 hg
    have HIQ4 : Hid (∀ g, (Value.ownBlock (.slice oQ4 f4.length pQ4)) = some g → g < (w8).heap.size) := fun g hg => owns_lt ownQ4 hg
    clear ownQ4
    clear hb7 HOQ2_7 HBv1_7 HBv2_7 HBv3_7 EU_7 hg hcu
    have hS8 : w8.heap[qv3]? = some (.cells #[.int .i64 m2, .string pp2, .slice oQ2 f2.length pQ2, .string b2] 26) := HBv3_8.out
    refine hK.out _ _ hS8 (fun _ => ?_)
    clear hK K hS7
    refine wpAnyH_ready (rs := [3]) (by kernel_rfl) (by simp) ?_
    refine AllReadyH.cons rfl (fun K hK => ?_) AllReadyH.nil
    have ce0 : (w8).cell? ⟨qv1, 0, none⟩ = some (.int .i64 0) := (cell_of HBv1_8.out 0).trans rfl
    have fe0 : (w8).frozen? ⟨qv1, 0, none⟩ = false := frozen_of HBv1_8.out 0
    have ce1 : (w8).cell? ⟨qv1, 1, none⟩ = some (.string ⟨#[]⟩) := (cell_of HBv1_8.out 1).trans rfl
    have fe1 : (w8).frozen? ⟨qv1, 1, none⟩ = false := frozen_of HBv1_8.out 1
    have ce2 : (w8).cell? ⟨qv1, 2, none⟩ = some (.slice none 0 0) := (cell_of HBv1_8.out 2).trans rfl
    have fe2 : (w8).frozen? ⟨qv1, 2, none⟩ = false := frozen_of HBv1_8.out 2
    have ce3 : (w8).cell? ⟨qv1, 3, none⟩ = some (.string ⟨#[]⟩) := (cell_of HBv1_8.out 3).trans rfl
    have fe3 : (w8).frozen? ⟨qv1, 3, none⟩ = false := frozen_of HBv1_8.out 3
    obtain ⟨w9, hY⟩ : ∃ Y, Y = ((((w8.setCell ⟨qv1, 0, none⟩ (.int .i64 m2)).setCell ⟨qv1, 1, none⟩ (.string pp2)).setCell ⟨qv1, 2, none⟩ (.slice oQ2 f2.length pQ2)).setCell ⟨qv1, 3, none⟩ (.string b2)) := ⟨_, rfl⟩
    have HY : Hid (((((w8.setCell ⟨qv1, 0, none⟩ (.int .i64 m2)).setCell ⟨qv1, 1, none⟩ (.string pp2)).setCell ⟨qv1, 2, none⟩ (.slice oQ2 f2.length pQ2)).setCell ⟨qv1, 3, none⟩ (.string b2)) = w9) := hY.symm
    have hb9 : Below w.heap.size w (w9) := by rw [hY]; exact ((((hb8.setCell (p := ⟨qv1, 0, none⟩) HGv1.out _).setCell (p := ⟨qv1, 1, none⟩) HGv1.out _).setCell (p := ⟨qv1, 2, none⟩) HGv1.out _).setCell (p := ⟨qv1, 3, none⟩) HGv1.out _)
    have HM9 : Hid ((w8).heap.size ≤ w9.heap.size) := by show _ ≤ _; rw [hY]; simp
    have HOQ2_9 : Hid ((w9).ownsRow w.heap.size 74 2 (.slice oQ2 f2.length pQ2) f2.length (flatF f2)) := by show World.ownsRow _ _ _ _ _ _ _; rw [hY]; exact owns_same HOQ2_8.out (fun g hg => by have hne := own_ne HOQ2_8.out HBv1_8.out (by decide) g hg; rw [heap_setCell_other _ _ g _ hne, heap_setCell_other _ _ g _ hne, heap_setCell_other _ _ g _ hne, heap_setCell_other _ _ g _ hne])
    have HOQ4_9 : Hid ((w9).ownsRow w.heap.size 74 2 (.slice oQ4 f4.length pQ4) f4.length (flatF f4)) := by show World.ownsRow _ _ _ _ _ _ _; rw [hY]; exact owns_same HOQ4_8.out (fun g hg => by have hne := own_ne HOQ4_8.out HBv1_8.out (by decide) g hg; rw [heap_setCell_other _ _ g _ hne, heap_setCell_other _ _ g _ hne, heap_setCell_other _ _ g _ hne, heap_setCell_other _ _ g _ hne])
    have HBv2_9 : Hid ((w9).heap[qv2]? = some (.cells #[.int .i64 0, .string ⟨#[]⟩, .slice none 0 0, .string ⟨#[]⟩] 26)) := by show _ = _; rw [hY, heap_setCell_other _ _ _ _ HNv1v2.out.symm, heap_setCell_other _ _ _ _ HNv1v2.out.symm, heap_setCell_other _ _ _ _ HNv1v2.out.symm, heap_setCell_other _ _ _ _ HNv1v2.out.symm]; exact HBv2_8.out
    have HBv3_9 : Hid ((w9).heap[qv3]? = some (.cells #[.int .i64 m2, .string pp2, .slice oQ2 f2.length pQ2, .string b2] 26)) := by show _ = _; rw [hY, heap_setCell_other _ _ _ _ HNv1v3.out.symm, heap_setCell_other _ _ _ _ HNv1v3.out.symm, heap_setCell_other _ _ _ _ HNv1v3.out.symm, heap_setCell_other _ _ _ _ HNv1v3.out.symm]; exact HBv3_8.out
    have EU_9 : Hid (CurAt w9 c1 a len cap) := by show CurAt _ _ _ _ _; rw [hY]; exact (cur_set (cur_set (cur_set (cur_set EU_8.out HNCv1.out 0 _) HNCv1.out 1 _) HNCv1.out 2 _) HNCv1.out 3 _)
    have HBv1_9 : Hid ((w9).heap[qv1]? = some (.cells #[.int .i64 m2, .string pp2, .slice oQ2 f2.length pQ2, .string b2] 26)) := by show _ = _; rw [hY]; have h := (heap_set _ qv1 3 _ _ _ (.string b2) (heap_set _ qv1 2 _ _ _ (.slice oQ2 f2.length pQ2) (heap_set _ qv1 1 _ _ _ (.string pp2) (heap_set _ qv1 0 _ _ _ (.int .i64 m2) HBv1_8.out)))); simpa using h
    clear hY hb8 HOQ2_8 HOQ4_8 HBv1_8 HBv2_8 HBv3_8 EU_8
    go_simp
    rw [HY.out]
    have hS9 : w9.heap[qv3]? = some (.cells #[.int .i64 m2, .string pp2, .slice oQ2 f2.length pQ2, .string b2] 26) := HBv3_9.out
    refine hK.out _ _ hS9 (fun _ => ?_)
    clear hK K HY hS8 ce0 fe0 ce1 fe1 ce2 fe2 ce3 fe3
    refine wpAnyH_ready (rs := [4]) (by kernel_rfl) (by simp) ?_
    refine AllReadyH.cons rfl (fun K hK => ?_) AllReadyH.nil
    have ce0 : (w9).cell? ⟨qv2, 0, none⟩ = some (.int .i64 0) := (cell_of HBv2_9.out 0).trans rfl
    have fe0 : (w9).frozen? ⟨qv2, 0, none⟩ = false := frozen_of HBv2_9.out 0
    have ce1 : (w9).cell? ⟨qv2, 1, none⟩ = some (.string ⟨#[]⟩) := (cell_of HBv2_9.out 1).trans rfl
    have fe1 : (w9).frozen? ⟨qv2, 1, none⟩ = false := frozen_of HBv2_9.out 1
    have ce2 : (w9).cell? ⟨qv2, 2, none⟩ = some (.slice none 0 0) := (cell_of HBv2_9.out 2).trans rfl
    have fe2 : (w9).frozen? ⟨qv2, 2, none⟩ = false := frozen_of HBv2_9.out 2
    have ce3 : (w9).cell? ⟨qv2, 3, none⟩ = some (.string ⟨#[]⟩) := (cell_of HBv2_9.out 3).trans rfl
    have fe3 : (w9).frozen? ⟨qv2, 3, none⟩ = false := frozen_of HBv2_9.out 3
    obtain ⟨w10, hY⟩ : ∃ Y, Y = ((((w9.setCell ⟨qv2, 0, none⟩ (.int .i64 m4)).setCell ⟨qv2, 1, none⟩ (.string pp4)).setCell ⟨qv2, 2, none⟩ (.slice oQ4 f4.length pQ4)).setCell ⟨qv2, 3, none⟩ (.string b4)) := ⟨_, rfl⟩
    have HY : Hid (((((w9.setCell ⟨qv2, 0, none⟩ (.int .i64 m4)).setCell ⟨qv2, 1, none⟩ (.string pp4)).setCell ⟨qv2, 2, none⟩ (.slice oQ4 f4.length pQ4)).setCell ⟨qv2, 3, none⟩ (.string b4)) = w10) := hY.symm
    have hb10 : Below w.heap.size w (w10) := by rw [hY]; exact ((((hb9.setCell (p := ⟨qv2, 0, none⟩) HGv2.out _).setCell (p := ⟨qv2, 1, none⟩) HGv2.out _).setCell (p := ⟨qv2, 2, none⟩) HGv2.out _).setCell (p := ⟨qv2, 3, none⟩) HGv2.out _)
    have HM10 : Hid ((w9).heap.size ≤ w10.heap.size) := by show _ ≤ _; rw [hY]; simp
    have HOQ2_10 : Hid ((w10).ownsRow w.heap.size 74 2 (.slice oQ2 f2.length pQ2) f2.length (flatF f2)) := by show World.ownsRow _ _ _ _ _ _ _; rw [hY]; exact owns_same HOQ2_9.out (fun g hg => by have hne := own_ne HOQ2_9.out HBv2_9.out (by decide) g hg; rw [heap_setCell_other _ _ g _ hne, heap_setCell_other _ _ g _ hne, heap_setCell_other _ _ g _ hne, heap_setCell_other _ _ g _ hne])
    have HOQ4_10 : Hid ((w10).ownsRow w.heap.size 74 2 (.slice oQ4 f4.length pQ4) f4.length (flatF f4)) := by show World.ownsRow _ _ _ _ _ _ _; rw [hY]; exact owns_same HOQ4_9.out (fun g hg => by have hne := own_ne HOQ4_9.out HBv2_9.out (by decide) g hg; rw [heap_setCell_other _ _ g _ hne, heap_setCell_other _ _ g _ hne, heap_setCell_other _ _ g _ hne, heap_setCell_other _ _ g _ hne])
    have HBv1_10 : Hid ((w10).heap[qv1]? = some (.cells #[.int .i64 m2, .string pp2, .slice oQ2 f2.length pQ2, .string b2] 26)) := by show _ = _; rw [hY, heap_setCell_other _ _ _ _ HNv1v2.out, heap_setCell_other _ _ _ _ HNv1v2.out, heap_setCell_other _ _ _ _ HNv1v2.out, heap_setCell_other _ _ _ _ HNv1v2.out]; exact HBv1_9.out
    have HBv3_10 : Hid ((w10).heap[qv3]? = some (.cells #[.int .i64 m2, .string pp2, .slice oQ2 f2.length pQ2, .string b2] 26)) := by show _ = _; rw [hY, heap_setCell_other _ _ _ _ HNv2v3.out.symm, heap_setCell_other _ _ _ _ HNv2v3.out.symm, heap_setCell_other _ _ _ _ HNv2v3.out.symm, heap_setCell_other _ _ _ _ HNv2v3.out.symm]; exact HBv3_9.out
    have EU_10 : Hid (CurAt w10 c1 a len cap) := by show CurAt _ _ _ _ _; rw [hY]; exact (cur_set (cur_set (cur_set (cur_set EU_9.out HNCv2.out 0 _) HNCv2.out 1 _) HNCv2.out 2 _) HNCv2.out 3 _)
    have HBv2_10 : Hid ((w10).heap[qv2]? = some (.cells #[.int .i64 m4, .string pp4, .slice oQ4 f4.length pQ4, .string b4] 26)) := by show _ = _; rw [hY]; have h := (heap_set _ qv2 3 _ _ _ (.string b4) (heap_set _ qv2 2 _ _ _ (.slice oQ4 f4.length pQ4) (heap_set _ qv2 1 _ _ _ (.string pp4) (heap_set _ qv2 0 _ _ _ (.int .i64 m4) HBv2_9.out)))); simpa using h
    clear hY hb9 HOQ2_9 HOQ4_9 HBv1_9 HBv2_9 HBv3_9 EU_9
    go_simp
    rw [HY.out]
    have hS10 : w10.heap[qv3]? = some (.cells #[.int .i64 m2, .string pp2, .slice oQ2 f2.length pQ2, .string b2] 26) := HBv3_10.out
    refine hK.out _ _ hS10 (fun _ => ?_)
    clear hK K HY hS9 ce0 fe0 ce1 fe1 ce2 fe2 ce3 fe3
    clear hS10
    refine wpAnyH_done (by kernel_rfl) ?_ _
    go_wp2_with fail
    have kv1_0 : (w10).cell? ⟨qv1, 0, none⟩ = some (.int .i64 m2) := (cell_of HBv1_10.out 0).trans rfl
    have kv1_1 : (w10).cell? ⟨qv1, 1, none⟩ = some (.string pp2) := (cell_of HBv1_10.out 1).trans rfl
    have kv1_2 : (w10).cell? ⟨qv1, 2, none⟩ = some (.slice oQ2 f2.length pQ2) := (cell_of HBv1_10.out 2).trans rfl
    have kv1_3 : (w10).cell? ⟨qv1, 3, none⟩ = some (.string b2) := (cell_of HBv1_10.out 3).trans rfl
    have kv2_0 : (w10).cell? ⟨qv2, 0, none⟩ = some (.int .i64 m4) := (cell_of HBv2_10.out 0).trans rfl
    have kv2_1 : (w10).cell? ⟨qv2, 1, none⟩ = some (.string pp4) := (cell_of HBv2_10.out 1).trans rfl
    have kv2_2 : (w10).cell? ⟨qv2, 2, none⟩ = some (.slice oQ4 f4.length pQ4) := (cell_of HBv2_10.out 2).trans rfl
    have kv2_3 : (w10).cell? ⟨qv2, 3, none⟩ = some (.string b4) := (cell_of HBv2_10.out 3).trans rfl
    refine bodyPost_ret (v := .tuple #[.agg #[.int .i64 m2, .string pp2, .slice oQ2 f2.length pQ2, .string b2], .agg #[.int .i64 m4, .string pp4, .slice oQ4 f4.length pQ4, .string b4]]) (by simp [results, Tryz.results11, go_sem, kv1_0, kv1_1, kv1_2, kv1_3, kv2_0, kv2_1, kv2_2, kv2_3]) rfl ?_
    exact ⟨_, _, _, _, _, _, _, _, _, _, rfl, ⟨HOQ2_10.out, HF2.out⟩, ⟨HOQ4_10.out, HF4.out⟩, hb10⟩
  | true =>
    have cv3_0 : (w6).cell? ⟨qv3, 0, none⟩ = some (.int .i64 m2) := (cell_of HBv3_6.out 0).trans rfl
    have cv3_1 : (w6).cell? ⟨qv3, 1, none⟩ = some (.string pp2) := (cell_of HBv3_6.out 1).trans rfl
    have cv3_2 : (w6).cell? ⟨qv3, 2, none⟩ = some (.slice oQ2 f2.length pQ2) := (cell_of HBv3_6.out 2).trans rfl
    have cv3_3 : (w6).cell? ⟨qv3, 3, none⟩ = some (.string b2) := (cell_of HBv3_6.out 3).trans rfl
    go_wp2_with fail
    refine (l9Req_any m2 pp2 _ b2 f2.length _ f2 _ (FieldsV.of_owns HOQ2_6.out) (by have := HF2.out.2.1; omega)).mono ?_
    rintro e w7 ⟨vv, rfl, ownQ4, bw⟩
    obtain ⟨oQ4, pQ4, rfl⟩ := slice_of_owns ownQ4
    have hb7 := hbt hb6 bw
    have HM7 : Hid ((w6).heap.size ≤ (w7).heap.size) := bw.size
    have HOQ2_7 := hown HOQ2_6 bw
    have HBv1_7 := hblk HBv1_6 bw
    have HBv2_7 := hblk HBv2_6 bw
    have HBv3_7 := hblk HBv3_6 bw
    have EU_7 : Hid (CurAt w7 c1 a len cap) := EU_6.out.below bw EU_6.out.lt
    have HOQ4_7 : Hid ((w7).ownsRow w.heap.size 74 2 (.slice oQ4 f2.length pQ4) f2.length (flatF f2)) := owns_wide ownQ4 hb6.size
    have LOQ4 : Hid (∀ g, (Value.ownBlock (.slice oQ4 f2.length pQ4)) = some g → (w6).heap.size ≤ g) := fun g hg => owns_ge ownQ4 hg
    have HIQ4 : Hid (∀ g, (Value.ownBlock (.slice oQ4 f2.length pQ4)) = some g → g < (w7).heap.size) := fun g hg => owns_lt ownQ4 hg
    clear ownQ4
    clear hb6 HOQ2_6 HBv1_6 HBv2_6 HBv3_6 EU_6 bw
    clear cv3_0 cv3_1 cv3_2 cv3_3
    go_upto_region 5 with fail
    obtain ⟨qv4, hqv4⟩ : ∃ q, q = (w7).heap.size := ⟨_, rfl⟩
    obtain ⟨w8, hW8⟩ : ∃ W, W = (w7).alloc (.cells #[.int .i64 m2, .string pp2, .slice oQ4 f2.length pQ4, .string b2] 26) := ⟨_, rfl⟩
    have hz8 : (w7).heap.size = qv4 := hqv4.symm
    first | rw [← hW8, ← hqv4] | rw [← hW8]
    have hs8 : w8.heap.size = qv4 + 1 := by rw [hW8, ← hz8]; simp
    have bw : Below (w7).heap.size (w7) w8 := by rw [hW8]; exact (Below.refl _ _).alloc (Nat.le_refl _) _
    have hb8 := hbt hb7 bw
    have HM8 : Hid ((w7).heap.size ≤ (w8).heap.size) := bw.size
    have HOQ2_8 := hown HOQ2_7 bw
    have HOQ4_8 := hown HOQ4_7 bw
    have HBv1_8 := hblk HBv1_7 bw
    have HBv2_8 := hblk HBv2_7 bw
    have HBv3_8 := hblk HBv3_7 bw
    have EU_8 : Hid (CurAt w8 c1 a len cap) := EU_7.out.below bw EU_7.out.lt
    have HNv1v4 : Hid (qv1 ≠ qv4) := fun e => by have h1 := (Array.getElem?_eq_some_iff.1 HBv1_7.out).1; omega
    have HNv2v4 : Hid (qv2 ≠ qv4) := fun e => by have h1 := (Array.getElem?_eq_some_iff.1 HBv2_7.out).1; omega
    have HNv3v4 : Hid (qv3 ≠ qv4) := fun e => by have h1 := (Array.getElem?_eq_some_iff.1 HBv3_7.out).1; omega
    have HBv4_8 : Hid ((w8).heap[qv4]? = some (.cells #[.int .i64 m2, .string pp2, .slice oQ4 f2.length pQ4, .string b2] 26)) := by show _ = _; rw [hW8, ← hz8]; exact heap_alloc_new _ _
    have HGv4 : Hid (w.heap.size ≤ qv4) := by show _ ≤ _; rw [← hz8]; exact hb7.size
    have HNCv4 : Hid (qv4 ≠ c1) := fun e => by have h1 := EU_7.out.lt; omega
    clear hb7 HOQ2_7 HOQ4_7 HBv1_7 HBv2_7 HBv3_7 EU_7 bw hW8 hz8
    clear hs8 hqv4
    go_wp2_with fail
    refine (l1Once_any c1 w.heap.size 3 a len cap zs _ EU_8.out (HCO.out _ hb8) HBC.out (by omega) (by omega)).mono ?_
    rintro e w9 ⟨hone, hcu, hg⟩
    obtain ⟨o5, rfl⟩ := hone.out
    clear hone
    have hb9 : Below w.heap.size w (w9) := hb8.grown hg hb8.size (by intro k hk; cases hk; exact HGC.out)
    have HM9 : Hid ((w8).heap.size ≤ (w9).heap.size) := hg.size
    have HOQ2_9 : Hid ((w9).ownsRow w.heap.size 74 2 (.slice oQ2 f2.length pQ2) f2.length (flatF f2)) := owns_same HOQ2_8.out (fun g hgg => hg.block g (owns_lt HOQ2_8.out hgg) (fun e => own_cur HOQ2_8.out EU_8.out (by decide) g hgg (Option.some.inj e)))
    have HOQ4_9 : Hid ((w9).ownsRow w.heap.size 74 2 (.slice oQ4 f2.length pQ4) f2.length (flatF f2)) := owns_same HOQ4_8.out (fun g hgg => hg.block g (owns_lt HOQ4_8.out hgg) (fun e => own_cur HOQ4_8.out EU_8.out (by decide) g hgg (Option.some.inj e)))
    have HBv1_9 : Hid ((w9).heap[qv1]? = some (.cells #[.int .i64 0, .string ⟨#[]⟩, .slice none 0 0, .string ⟨#[]⟩] 26)) := (hg.block _ (Array.getElem?_eq_some_iff.1 HBv1_8.out).1 (fun e => HNCv1.out (Option.some.inj e))).trans HBv1_8.out
    have HBv2_9 : Hid ((w9).heap[qv2]? = some (.cells #[.int .i64 0, .string ⟨#[]⟩, .slice none 0 0, .string ⟨#[]⟩] 26)) := (hg.block _ (Array.getElem?_eq_some_iff.1 HBv2_8.out).1 (fun e => HNCv2.out (Option.some.inj e))).trans HBv2_8.out
    have HBv3_9 : Hid ((w9).heap[qv3]? = some (.cells #[.int .i64 m2, .string pp2, .slice oQ2 f2.length pQ2, .string b2] 26)) := (hg.block _ (Array.getElem?_eq_some_iff.1 HBv3_8.out).1 (fun e => HNCv3.out (Option.some.inj e))).trans HBv3_8.out
    have HBv4_9 : Hid ((w9).heap[qv4]? = some (.cells #[.int .i64 m2, .string pp2, .slice oQ4 f2.length pQ4, .string b2] 26)) := (hg.block _ (Array.getElem?_eq_some_iff.1 HBv4_8.out).1 (fun e => HNCv4.out (Option.some.inj e))).trans HBv4_8.out
    have EU_9 : Hid (CurAt w9 c1 a len cap) := hcu
    clear hb8 HOQ2_8 HOQ4_8 HBv1_8 HBv2_8 HBv3_8 HBv4_8 EU_8 hg hcu
    cases o5 with
    | false =>
      go_upto_region 7 with fail
      refine wp_region_held_drew (S := fun W => W.heap[qv3]? = some (.cells #[.int .i64 m2, .string pp2, .slice oQ2 f2.length pQ2, .string b2] 26) ∧ W.heap[qv4]? = some (.cells #[.int .i64 m2, .string pp2, .slice oQ4 f2.length pQ4, .string b2] 26)) (by kernel_rfl) ⟨HBv3_9.out, HBv4_9.out⟩ (fun _ => ?_)
      obtain ⟨w10, hX⟩ : ∃ X, X = w9.drew := ⟨_, rfl⟩
      have bw : Below w9.heap.size w9 w10 := by rw [hX]; exact (Below.refl _ _).drew
      rw [← hX]
      have hb10 := hbt hb9 bw
      have HM10 : Hid ((w9).heap.size ≤ (w10).heap.size) := bw.size
      have HOQ2_10 := hown HOQ2_9 bw
      have HOQ4_10 := hown HOQ4_9 bw
      have HBv1_10 := hblk HBv1_9 bw
      have HBv2_10 := hblk HBv2_9 bw
      have HBv3_10 := hblk HBv3_9 bw
      have HBv4_10 := hblk HBv4_9 bw
      have EU_10 : Hid (CurAt w10 c1 a len cap) := EU_9.out.below bw EU_9.out.lt
      have hS10 : w10.heap[qv3]? = some (.cells #[.int .i64 m2, .string pp2, .slice oQ2 f2.length pQ2, .string b2] 26) ∧ w10.heap[qv4]? = some (.cells #[.int .i64 m2, .string pp2, .slice oQ4 f2.length pQ4, .string b2] 26) := ⟨HBv3_10.out, HBv4_10.out⟩
      clear hb9 HOQ2_9 HOQ4_9 HBv1_9 HBv2_9 HBv3_9 HBv4_9 EU_9 bw hX
      refine tkL 0 (.agg #[.int .i64 m2, .string pp2, .slice oQ2 f2.length pQ2, .string b2]) 18 rfl rfl (Or.inl ⟨by rfl, by intro W hW; obtain ⟨hhv3, hhv4⟩ := hW; have y0 := (cell_of hhv3 0).trans rfl; have y1 := (cell_of hhv3 1).trans rfl; have y2 := (cell_of hhv3 2).trans rfl; have y3 := (cell_of hhv3 3).trans rfl; go_simp⟩) hS10 ?_
      go_frame
      refine tkL 1 (.agg #[.int .i64 m2, .string pp2, .slice oQ4 f2.length pQ4, .string b2]) 19 rfl rfl (Or.inl ⟨by rfl, by intro W hW; obtain ⟨hhv3, hhv4⟩ := hW; have y0 := (cell_of hhv4 0).trans rfl; have y1 := (cell_of hhv4 1).trans rfl; have y2 := (cell_of hhv4 2).trans rfl; have y3 := (cell_of hhv4 3).trans rfl; go_simp⟩) hS10 ?_
      go_frame
      refine wpAnyH_ready (rs := [2]) (by kernel_rfl) (by simp) ?_
      refine AllReadyH.cons rfl (fun K hK => ?_) AllReadyH.nil
      have ce0 : (w10).cell? ⟨qv1, 0, none⟩ = some (.int .i64 0) := (cell_of HBv1_10.out 0).trans rfl
      have fe0 : (w10).frozen? ⟨qv1, 0, none⟩ = false := frozen_of HBv1_10.out 0
      have ce1 : (w10).cell? ⟨qv1, 1, none⟩ = some (.string ⟨#[]⟩) := (cell_of HBv1_10.out 1).trans rfl
      have fe1 : (w10).frozen? ⟨qv1, 1, none⟩ = false := frozen_of HBv1_10.out 1
      have ce2 : (w10).cell? ⟨qv1, 2, none⟩ = some (.slice none 0 0) := (cell_of HBv1_10.out 2).trans rfl
      have fe2 : (w10).frozen? ⟨qv1, 2, none⟩ = false := frozen_of HBv1_10.out 2
      have ce3 : (w10).cell? ⟨qv1, 3, none⟩ = some (.string ⟨#[]⟩) := (cell_of HBv1_10.out 3).trans rfl
      have fe3 : (w10).frozen? ⟨qv1, 3, none⟩ = false := frozen_of HBv1_10.out 3
      obtain ⟨w11, hY⟩ : ∃ Y, Y = ((((w10.setCell ⟨qv1, 0, none⟩ (.int .i64 m2)).setCell ⟨qv1, 1, none⟩ (.string pp2)).setCell ⟨qv1, 2, none⟩ (.slice oQ2 f2.length pQ2)).setCell ⟨qv1, 3, none⟩ (.string b2)) := ⟨_, rfl⟩
      have HY : Hid (((((w10.setCell ⟨qv1, 0, none⟩ (.int .i64 m2)).setCell ⟨qv1, 1, none⟩ (.string pp2)).setCell ⟨qv1, 2, none⟩ (.slice oQ2 f2.length pQ2)).setCell ⟨qv1, 3, none⟩ (.string b2)) = w11) := hY.symm
      have hb11 : Below w.heap.size w (w11) := by rw [hY]; exact ((((hb10.setCell (p := ⟨qv1, 0, none⟩) HGv1.out _).setCell (p := ⟨qv1, 1, none⟩) HGv1.out _).setCell (p := ⟨qv1, 2, none⟩) HGv1.out _).setCell (p := ⟨qv1, 3, none⟩) HGv1.out _)
      have HM11 : Hid ((w10).heap.size ≤ w11.heap.size) := by show _ ≤ _; rw [hY]; simp
      have HOQ2_11 : Hid ((w11).ownsRow w.heap.size 74 2 (.slice oQ2 f2.length pQ2) f2.length (flatF f2)) := by show World.ownsRow _ _ _ _ _ _ _; rw [hY]; exact owns_same HOQ2_10.out (fun g hg => by have hne := own_ne HOQ2_10.out HBv1_10.out (by decide) g hg; rw [heap_setCell_other _ _ g _ hne, heap_setCell_other _ _ g _ hne, heap_setCell_other _ _ g _ hne, heap_setCell_other _ _ g _ hne])
      have HOQ4_11 : Hid ((w11).ownsRow w.heap.size 74 2 (.slice oQ4 f2.length pQ4) f2.length (flatF f2)) := by show World.ownsRow _ _ _ _ _ _ _; rw [hY]; exact owns_same HOQ4_10.out (fun g hg => by have hne := own_ne HOQ4_10.out HBv1_10.out (by decide) g hg; rw [heap_setCell_other _ _ g _ hne, heap_setCell_other _ _ g _ hne, heap_setCell_other _ _ g _ hne, heap_setCell_other _ _ g _ hne])
      have HBv2_11 : Hid ((w11).heap[qv2]? = some (.cells #[.int .i64 0, .string ⟨#[]⟩, .slice none 0 0, .string ⟨#[]⟩] 26)) := by show _ = _; rw [hY, heap_setCell_other _ _ _ _ HNv1v2.out.symm, heap_setCell_other _ _ _ _ HNv1v2.out.symm, heap_setCell_other _ _ _ _ HNv1v2.out.symm, heap_setCell_other _ _ _ _ HNv1v2.out.symm]; exact HBv2_10.out
      have HBv3_11 : Hid ((w11).heap[qv3]? = some (.cells #[.int .i64 m2, .string pp2, .slice oQ2 f2.length pQ2, .string b2] 26)) := by show _ = _; rw [hY, heap_setCell_other _ _ _ _ HNv1v3.out.symm, heap_setCell_other _ _ _ _ HNv1v3.out.symm, heap_setCell_other _ _ _ _ HNv1v3.out.symm, heap_setCell_other _ _ _ _ HNv1v3.out.symm]; exact HBv3_10.out
      have HBv4_11 : Hid ((w11).heap[qv4]? = some (.cells #[.int .i64 m2, .string pp2, .slice oQ4 f2.length pQ4, .string b2] 26)) := by show _ = _; rw [hY, heap_setCell_other _ _ _ _ HNv1v4.out.symm, heap_setCell_other _ _ _ _ HNv1v4.out.symm, heap_setCell_other _ _ _ _ HNv1v4.out.symm, heap_setCell_other _ _ _ _ HNv1v4.out.symm]; exact HBv4_10.out
      have EU_11 : Hid (CurAt w11 c1 a len cap) := by show CurAt _ _ _ _ _; rw [hY]; exact (cur_set (cur_set (cur_set (cur_set EU_10.out HNCv1.out 0 _) HNCv1.out 1 _) HNCv1.out 2 _) HNCv1.out 3 _)
      have HBv1_11 : Hid ((w11).heap[qv1]? = some (.cells #[.int .i64 m2, .string pp2, .slice oQ2 f2.length pQ2, .string b2] 26)) := by show _ = _; rw [hY]; have h := (heap_set _ qv1 3 _ _ _ (.string b2) (heap_set _ qv1 2 _ _ _ (.slice oQ2 f2.length pQ2) (heap_set _ qv1 1 _ _ _ (.string pp2) (heap_set _ qv1 0 _ _ _ (.int .i64 m2) HBv1_10.out)))); simpa using h
      clear hY hb10 HOQ2_10 HOQ4_10 HBv1_10 HBv2_10 HBv3_10 HBv4_10 EU_10
      go_simp
      rw [HY.out]
      have hS11 : w11.heap[qv3]? = some (.cells #[.int .i64 m2, .string pp2, .slice oQ2 f2.length pQ2, .string b2] 26) ∧ w11.heap[qv4]? = some (.cells #[.int .i64 m2, .string pp2, .slice oQ4 f2.length pQ4, .string b2] 26) := ⟨HBv3_11.out, HBv4_11.out⟩
      refine hK.out _ _ hS11 (fun _ => ?_)
      clear hK K HY hS10 ce0 fe0 ce1 fe1 ce2 fe2 ce3 fe3
      refine wpAnyH_ready (rs := [3]) (by kernel_rfl) (by simp) ?_
      refine AllReadyH.cons rfl (fun K hK => ?_) AllReadyH.nil
      have ce0 : (w11).cell? ⟨qv2, 0, none⟩ = some (.int .i64 0) := (cell_of HBv2_11.out 0).trans rfl
      have fe0 : (w11).frozen? ⟨qv2, 0, none⟩ = false := frozen_of HBv2_11.out 0
      have ce1 : (w11).cell? ⟨qv2, 1, none⟩ = some (.string ⟨#[]⟩) := (cell_of HBv2_11.out 1).trans rfl
      have fe1 : (w11).frozen? ⟨qv2, 1, none⟩ = false := frozen_of HBv2_11.out 1
      have ce2 : (w11).cell? ⟨qv2, 2, none⟩ = some (.slice none 0 0) := (cell_of HBv2_11.out 2).trans rfl
      have fe2 : (w11).frozen? ⟨qv2, 2, none⟩ = false := frozen_of HBv2_11.out 2
      have ce3 : (w11).cell? ⟨qv2, 3, none⟩ = some (.string ⟨#[]⟩) := (cell_of HBv2_11.out 3).trans rfl
      have fe3 : (w11).frozen? ⟨qv2, 3, none⟩ = false := frozen_of HBv2_11.out 3
      obtain ⟨w12, hY⟩ : ∃ Y, Y = ((((w11.setCell ⟨qv2, 0, none⟩ (.int .i64 m2)).setCell ⟨qv2, 1, none⟩ (.string pp2)).setCell ⟨qv2, 2, none⟩ (.slice oQ4 f2.length pQ4)).setCell ⟨qv2, 3, none⟩ (.string b2)) := ⟨_, rfl⟩
      have HY : Hid (((((w11.setCell ⟨qv2, 0, none⟩ (.int .i64 m2)).setCell ⟨qv2, 1, none⟩ (.string pp2)).setCell ⟨qv2, 2, none⟩ (.slice oQ4 f2.length pQ4)).setCell ⟨qv2, 3, none⟩ (.string b2)) = w12) := hY.symm
      have hb12 : Below w.heap.size w (w12) := by rw [hY]; exact ((((hb11.setCell (p := ⟨qv2, 0, none⟩) HGv2.out _).setCell (p := ⟨qv2, 1, none⟩) HGv2.out _).setCell (p := ⟨qv2, 2, none⟩) HGv2.out _).setCell (p := ⟨qv2, 3, none⟩) HGv2.out _)
      have HM12 : Hid ((w11).heap.size ≤ w12.heap.size) := by show _ ≤ _; rw [hY]; simp
      have HOQ2_12 : Hid ((w12).ownsRow w.heap.size 74 2 (.slice oQ2 f2.length pQ2) f2.length (flatF f2)) := by show World.ownsRow _ _ _ _ _ _ _; rw [hY]; exact owns_same HOQ2_11.out (fun g hg => by have hne := own_ne HOQ2_11.out HBv2_11.out (by decide) g hg; rw [heap_setCell_other _ _ g _ hne, heap_setCell_other _ _ g _ hne, heap_setCell_other _ _ g _ hne, heap_setCell_other _ _ g _ hne])
      have HOQ4_12 : Hid ((w12).ownsRow w.heap.size 74 2 (.slice oQ4 f2.length pQ4) f2.length (flatF f2)) := by show World.ownsRow _ _ _ _ _ _ _; rw [hY]; exact owns_same HOQ4_11.out (fun g hg => by have hne := own_ne HOQ4_11.out HBv2_11.out (by decide) g hg; rw [heap_setCell_other _ _ g _ hne, heap_setCell_other _ _ g _ hne, heap_setCell_other _ _ g _ hne, heap_setCell_other _ _ g _ hne])
      have HBv1_12 : Hid ((w12).heap[qv1]? = some (.cells #[.int .i64 m2, .string pp2, .slice oQ2 f2.length pQ2, .string b2] 26)) := by show _ = _; rw [hY, heap_setCell_other _ _ _ _ HNv1v2.out, heap_setCell_other _ _ _ _ HNv1v2.out, heap_setCell_other _ _ _ _ HNv1v2.out, heap_setCell_other _ _ _ _ HNv1v2.out]; exact HBv1_11.out
      have HBv3_12 : Hid ((w12).heap[qv3]? = some (.cells #[.int .i64 m2, .string pp2, .slice oQ2 f2.length pQ2, .string b2] 26)) := by show _ = _; rw [hY, heap_setCell_other _ _ _ _ HNv2v3.out.symm, heap_setCell_other _ _ _ _ HNv2v3.out.symm, heap_setCell_other _ _ _ _ HNv2v3.out.symm, heap_setCell_other _ _ _ _ HNv2v3.out.symm]; exact HBv3_11.out
      have HBv4_12 : Hid ((w12).heap[qv4]? = some (.cells #[.int .i64 m2, .string pp2, .slice oQ4 f2.length pQ4, .string b2] 26)) := by show _ = _; rw [hY, heap_setCell_other _ _ _ _ HNv2v4.out.symm, heap_setCell_other _ _ _ _ HNv2v4.out.symm, heap_setCell_other _ _ _ _ HNv2v4.out.symm, heap_setCell_other _ _ _ _ HNv2v4.out.symm]; exact HBv4_11.out
      have EU_12 : Hid (CurAt w12 c1 a len cap) := by show CurAt _ _ _ _ _; rw [hY]; exact (cur_set (cur_set (cur_set (cur_set EU_11.out HNCv2.out 0 _) HNCv2.out 1 _) HNCv2.out 2 _) HNCv2.out 3 _)
      have HBv2_12 : Hid ((w12).heap[qv2]? = some (.cells #[.int .i64 m2, .string pp2, .slice oQ4 f2.length pQ4, .string b2] 26)) := by show _ = _; rw [hY]; have h := (heap_set _ qv2 3 _ _ _ (.string b2) (heap_set _ qv2 2 _ _ _ (.slice oQ4 f2.length pQ4) (heap_set _ qv2 1 _ _ _ (.string pp2) (heap_set _ qv2 0 _ _ _ (.int .i64 m2) HBv2_11.out)))); simpa using h
      clear hY hb11 HOQ2_11 HOQ4_11 HBv1_11 HBv2_11 HBv3_11 HBv4_11 EU_11
      go_simp
      rw [HY.out]
      have hS12 : w12.heap[qv3]? = some (.cells #[.int .i64 m2, .string pp2, .slice oQ2 f2.length pQ2, .string b2] 26) ∧ w12.heap[qv4]? = some (.cells #[.int .i64 m2, .string pp2, .slice oQ4 f2.length pQ4, .string b2] 26) := ⟨HBv3_12.out, HBv4_12.out⟩
      refine hK.out _ _ hS12 (fun _ => ?_)
      clear hK K HY hS11 ce0 fe0 ce1 fe1 ce2 fe2 ce3 fe3
      clear hS12
      refine wpAnyH_done (by kernel_rfl) ?_ _
      go_wp2_with fail
      have kv1_0 : (w12).cell? ⟨qv1, 0, none⟩ = some (.int .i64 m2) := (cell_of HBv1_12.out 0).trans rfl
      have kv1_1 : (w12).cell? ⟨qv1, 1, none⟩ = some (.string pp2) := (cell_of HBv1_12.out 1).trans rfl
      have kv1_2 : (w12).cell? ⟨qv1, 2, none⟩ = some (.slice oQ2 f2.length pQ2) := (cell_of HBv1_12.out 2).trans rfl
      have kv1_3 : (w12).cell? ⟨qv1, 3, none⟩ = some (.string b2) := (cell_of HBv1_12.out 3).trans rfl
      have kv2_0 : (w12).cell? ⟨qv2, 0, none⟩ = some (.int .i64 m2) := (cell_of HBv2_12.out 0).trans rfl
      have kv2_1 : (w12).cell? ⟨qv2, 1, none⟩ = some (.string pp2) := (cell_of HBv2_12.out 1).trans rfl
      have kv2_2 : (w12).cell? ⟨qv2, 2, none⟩ = some (.slice oQ4 f2.length pQ4) := (cell_of HBv2_12.out 2).trans rfl
      have kv2_3 : (w12).cell? ⟨qv2, 3, none⟩ = some (.string b2) := (cell_of HBv2_12.out 3).trans rfl
      refine bodyPost_ret (v := .tuple #[.agg #[.int .i64 m2, .string pp2, .slice oQ2 f2.length pQ2, .string b2], .agg #[.int .i64 m2, .string pp2, .slice oQ4 f2.length pQ4, .string b2]]) (by simp [results, Tryz.results11, go_sem, kv1_0, kv1_1, kv1_2, kv1_3, kv2_0, kv2_1, kv2_2, kv2_3]) rfl ?_
      exact ⟨_, _, _, _, _, _, _, _, _, _, rfl, ⟨HOQ2_12.out, HF2.out⟩, ⟨HOQ4_12.out, HF2.out⟩, hb12⟩
    | true =>
      have cv4_3 : (w9).cell? ⟨qv4, 3, none⟩ = some (.string b2) := (cell_of HBv4_9.out 3).trans rfl
      have fcv4_3 : (w9).frozen? ⟨qv4, 3, none⟩ = false := frozen_of HBv4_9.out 3
      go_upto_region 7 with fail
      obtain ⟨w10, hW10⟩ : ∃ W, W = (w9).setCell ⟨qv4, 3, none⟩ (.string ⟨#[120]⟩) := ⟨_, rfl⟩
      rw [← hW10]
      have hb10 : Below w.heap.size w (w10) := by rw [hW10]; exact (hb9.setCell (p := ⟨qv4, 3, none⟩) HGv4.out _)
      have HM10 : Hid ((w9).heap.size ≤ w10.heap.size) := by show _ ≤ _; rw [hW10]; simp
      have HOQ2_10 := hsetR hW10 (own_ne HOQ2_9.out HBv4_9.out (by decide)) HOQ2_9
      have HOQ4_10 := hsetR hW10 (own_ne HOQ4_9.out HBv4_9.out (by decide)) HOQ4_9
      have HBv1_10 := hset hW10 HNv1v4.out HBv1_9
      have HBv2_10 := hset hW10 HNv2v4.out HBv2_9
      have HBv3_10 := hset hW10 HNv3v4.out HBv3_9
      have EU_10 : Hid (CurAt w10 c1 a len cap) := by show CurAt _ _ _ _ _; rw [hW10]; exact cur_set EU_9.out HNCv4.out _ _
      have HBv4_10 : Hid ((w10).heap[qv4]? = some (.cells #[.int .i64 m2, .string pp2, .slice oQ4 f2.length pQ4, .string ⟨#[120]⟩] 26)) := by show _ = _; rw [hW10]; have h := heap_set _ _ 3 _ _ _ (.string ⟨#[120]⟩) HBv4_9.out; simpa using h
      clear hb9 HOQ2_9 HOQ4_9 HBv1_9 HBv2_9 HBv3_9 HBv4_9 EU_9 hW10
      clear cv4_3 fcv4_3
      go_upto_region 7 with fail
      refine wp_region_held_drew (S := fun W => W.heap[qv3]? = some (.cells #[.int .i64 m2, .string pp2, .slice oQ2 f2.length pQ2, .string b2] 26) ∧ W.heap[qv4]? = some (.cells #[.int .i64 m2, .string pp2, .slice oQ4 f2.length pQ4, .string ⟨#[120]⟩] 26)) (by kernel_rfl) ⟨HBv3_10.out, HBv4_10.out⟩ (fun _ => ?_)
      obtain ⟨w11, hX⟩ : ∃ X, X = w10.drew := ⟨_, rfl⟩
      have bw : Below w10.heap.size w10 w11 := by rw [hX]; exact (Below.refl _ _).drew
      rw [← hX]
      have hb11 := hbt hb10 bw
      have HM11 : Hid ((w10).heap.size ≤ (w11).heap.size) := bw.size
      have HOQ2_11 := hown HOQ2_10 bw
      have HOQ4_11 := hown HOQ4_10 bw
      have HBv1_11 := hblk HBv1_10 bw
      have HBv2_11 := hblk HBv2_10 bw
      have HBv3_11 := hblk HBv3_10 bw
      have HBv4_11 := hblk HBv4_10 bw
      have EU_11 : Hid (CurAt w11 c1 a len cap) := EU_10.out.below bw EU_10.out.lt
      have hS11 : w11.heap[qv3]? = some (.cells #[.int .i64 m2, .string pp2, .slice oQ2 f2.length pQ2, .string b2] 26) ∧ w11.heap[qv4]? = some (.cells #[.int .i64 m2, .string pp2, .slice oQ4 f2.length pQ4, .string ⟨#[120]⟩] 26) := ⟨HBv3_11.out, HBv4_11.out⟩
      clear hb10 HOQ2_10 HOQ4_10 HBv1_10 HBv2_10 HBv3_10 HBv4_10 EU_10 bw hX
      refine tkL 0 (.agg #[.int .i64 m2, .string pp2, .slice oQ2 f2.length pQ2, .string b2]) 18 rfl rfl (Or.inl ⟨by rfl, by intro W hW; obtain ⟨hhv3, hhv4⟩ := hW; have y0 := (cell_of hhv3 0).trans rfl; have y1 := (cell_of hhv3 1).trans rfl; have y2 := (cell_of hhv3 2).trans rfl; have y3 := (cell_of hhv3 3).trans rfl; go_simp⟩) hS11 ?_
      go_frame
      refine tkL 1 (.agg #[.int .i64 m2, .string pp2, .slice oQ4 f2.length pQ4, .string ⟨#[120]⟩]) 19 rfl rfl (Or.inl ⟨by rfl, by intro W hW; obtain ⟨hhv3, hhv4⟩ := hW; have y0 := (cell_of hhv4 0).trans rfl; have y1 := (cell_of hhv4 1).trans rfl; have y2 := (cell_of hhv4 2).trans rfl; have y3 := (cell_of hhv4 3).trans rfl; go_simp⟩) hS11 ?_
      go_frame
      refine wpAnyH_ready (rs := [2]) (by kernel_rfl) (by simp) ?_
      refine AllReadyH.cons rfl (fun K hK => ?_) AllReadyH.nil
      have ce0 : (w11).cell? ⟨qv1, 0, none⟩ = some (.int .i64 0) := (cell_of HBv1_11.out 0).trans rfl
      have fe0 : (w11).frozen? ⟨qv1, 0, none⟩ = false := frozen_of HBv1_11.out 0
      have ce1 : (w11).cell? ⟨qv1, 1, none⟩ = some (.string ⟨#[]⟩) := (cell_of HBv1_11.out 1).trans rfl
      have fe1 : (w11).frozen? ⟨qv1, 1, none⟩ = false := frozen_of HBv1_11.out 1
      have ce2 : (w11).cell? ⟨qv1, 2, none⟩ = some (.slice none 0 0) := (cell_of HBv1_11.out 2).trans rfl
      have fe2 : (w11).frozen? ⟨qv1, 2, none⟩ = false := frozen_of HBv1_11.out 2
      have ce3 : (w11).cell? ⟨qv1, 3, none⟩ = some (.string ⟨#[]⟩) := (cell_of HBv1_11.out 3).trans rfl
      have fe3 : (w11).frozen? ⟨qv1, 3, none⟩ = false := frozen_of HBv1_11.out 3
      obtain ⟨w12, hY⟩ : ∃ Y, Y = ((((w11.setCell ⟨qv1, 0, none⟩ (.int .i64 m2)).setCell ⟨qv1, 1, none⟩ (.string pp2)).setCell ⟨qv1, 2, none⟩ (.slice oQ2 f2.length pQ2)).setCell ⟨qv1, 3, none⟩ (.string b2)) := ⟨_, rfl⟩
      have HY : Hid (((((w11.setCell ⟨qv1, 0, none⟩ (.int .i64 m2)).setCell ⟨qv1, 1, none⟩ (.string pp2)).setCell ⟨qv1, 2, none⟩ (.slice oQ2 f2.length pQ2)).setCell ⟨qv1, 3, none⟩ (.string b2)) = w12) := hY.symm
      have hb12 : Below w.heap.size w (w12) := by rw [hY]; exact ((((hb11.setCell (p := ⟨qv1, 0, none⟩) HGv1.out _).setCell (p := ⟨qv1, 1, none⟩) HGv1.out _).setCell (p := ⟨qv1, 2, none⟩) HGv1.out _).setCell (p := ⟨qv1, 3, none⟩) HGv1.out _)
      have HM12 : Hid ((w11).heap.size ≤ w12.heap.size) := by show _ ≤ _; rw [hY]; simp
      have HOQ2_12 : Hid ((w12).ownsRow w.heap.size 74 2 (.slice oQ2 f2.length pQ2) f2.length (flatF f2)) := by show World.ownsRow _ _ _ _ _ _ _; rw [hY]; exact owns_same HOQ2_11.out (fun g hg => by have hne := own_ne HOQ2_11.out HBv1_11.out (by decide) g hg; rw [heap_setCell_other _ _ g _ hne, heap_setCell_other _ _ g _ hne, heap_setCell_other _ _ g _ hne, heap_setCell_other _ _ g _ hne])
      have HOQ4_12 : Hid ((w12).ownsRow w.heap.size 74 2 (.slice oQ4 f2.length pQ4) f2.length (flatF f2)) := by show World.ownsRow _ _ _ _ _ _ _; rw [hY]; exact owns_same HOQ4_11.out (fun g hg => by have hne := own_ne HOQ4_11.out HBv1_11.out (by decide) g hg; rw [heap_setCell_other _ _ g _ hne, heap_setCell_other _ _ g _ hne, heap_setCell_other _ _ g _ hne, heap_setCell_other _ _ g _ hne])
      have HBv2_12 : Hid ((w12).heap[qv2]? = some (.cells #[.int .i64 0, .string ⟨#[]⟩, .slice none 0 0, .string ⟨#[]⟩] 26)) := by show _ = _; rw [hY, heap_setCell_other _ _ _ _ HNv1v2.out.symm, heap_setCell_other _ _ _ _ HNv1v2.out.symm, heap_setCell_other _ _ _ _ HNv1v2.out.symm, heap_setCell_other _ _ _ _ HNv1v2.out.symm]; exact HBv2_11.out
      have HBv3_12 : Hid ((w12).heap[qv3]? = some (.cells #[.int .i64 m2, .string pp2, .slice oQ2 f2.length pQ2, .string b2] 26)) := by show _ = _; rw [hY, heap_setCell_other _ _ _ _ HNv1v3.out.symm, heap_setCell_other _ _ _ _ HNv1v3.out.symm, heap_setCell_other _ _ _ _ HNv1v3.out.symm, heap_setCell_other _ _ _ _ HNv1v3.out.symm]; exact HBv3_11.out
      have HBv4_12 : Hid ((w12).heap[qv4]? = some (.cells #[.int .i64 m2, .string pp2, .slice oQ4 f2.length pQ4, .string ⟨#[120]⟩] 26)) := by show _ = _; rw [hY, heap_setCell_other _ _ _ _ HNv1v4.out.symm, heap_setCell_other _ _ _ _ HNv1v4.out.symm, heap_setCell_other _ _ _ _ HNv1v4.out.symm, heap_setCell_other _ _ _ _ HNv1v4.out.symm]; exact HBv4_11.out
      have EU_12 : Hid (CurAt w12 c1 a len cap) := by show CurAt _ _ _ _ _; rw [hY]; exact (cur_set (cur_set (cur_set (cur_set EU_11.out HNCv1.out 0 _) HNCv1.out 1 _) HNCv1.out 2 _) HNCv1.out 3 _)
      have HBv1_12 : Hid ((w12).heap[qv1]? = some (.cells #[.int .i64 m2, .string pp2, .slice oQ2 f2.length pQ2, .string b2] 26)) := by show _ = _; rw [hY]; have h := (heap_set _ qv1 3 _ _ _ (.string b2) (heap_set _ qv1 2 _ _ _ (.slice oQ2 f2.length pQ2) (heap_set _ qv1 1 _ _ _ (.string pp2) (heap_set _ qv1 0 _ _ _ (.int .i64 m2) HBv1_11.out)))); simpa using h
      clear hY hb11 HOQ2_11 HOQ4_11 HBv1_11 HBv2_11 HBv3_11 HBv4_11 EU_11
      go_simp
      rw [HY.out]
      have hS12 : w12.heap[qv3]? = some (.cells #[.int .i64 m2, .string pp2, .slice oQ2 f2.length pQ2, .string b2] 26) ∧ w12.heap[qv4]? = some (.cells #[.int .i64 m2, .string pp2, .slice oQ4 f2.length pQ4, .string ⟨#[120]⟩] 26) := ⟨HBv3_12.out, HBv4_12.out⟩
      refine hK.out _ _ hS12 (fun _ => ?_)
      clear hK K HY hS11 ce0 fe0 ce1 fe1 ce2 fe2 ce3 fe3
      refine wpAnyH_ready (rs := [3]) (by kernel_rfl) (by simp) ?_
      refine AllReadyH.cons rfl (fun K hK => ?_) AllReadyH.nil
      have ce0 : (w12).cell? ⟨qv2, 0, none⟩ = some (.int .i64 0) := (cell_of HBv2_12.out 0).trans rfl
      have fe0 : (w12).frozen? ⟨qv2, 0, none⟩ = false := frozen_of HBv2_12.out 0
      have ce1 : (w12).cell? ⟨qv2, 1, none⟩ = some (.string ⟨#[]⟩) := (cell_of HBv2_12.out 1).trans rfl
      have fe1 : (w12).frozen? ⟨qv2, 1, none⟩ = false := frozen_of HBv2_12.out 1
      have ce2 : (w12).cell? ⟨qv2, 2, none⟩ = some (.slice none 0 0) := (cell_of HBv2_12.out 2).trans rfl
      have fe2 : (w12).frozen? ⟨qv2, 2, none⟩ = false := frozen_of HBv2_12.out 2
      have ce3 : (w12).cell? ⟨qv2, 3, none⟩ = some (.string ⟨#[]⟩) := (cell_of HBv2_12.out 3).trans rfl
      have fe3 : (w12).frozen? ⟨qv2, 3, none⟩ = false := frozen_of HBv2_12.out 3
      obtain ⟨w13, hY⟩ : ∃ Y, Y = ((((w12.setCell ⟨qv2, 0, none⟩ (.int .i64 m2)).setCell ⟨qv2, 1, none⟩ (.string pp2)).setCell ⟨qv2, 2, none⟩ (.slice oQ4 f2.length pQ4)).setCell ⟨qv2, 3, none⟩ (.string ⟨#[120]⟩)) := ⟨_, rfl⟩
      have HY : Hid (((((w12.setCell ⟨qv2, 0, none⟩ (.int .i64 m2)).setCell ⟨qv2, 1, none⟩ (.string pp2)).setCell ⟨qv2, 2, none⟩ (.slice oQ4 f2.length pQ4)).setCell ⟨qv2, 3, none⟩ (.string ⟨#[120]⟩)) = w13) := hY.symm
      have hb13 : Below w.heap.size w (w13) := by rw [hY]; exact ((((hb12.setCell (p := ⟨qv2, 0, none⟩) HGv2.out _).setCell (p := ⟨qv2, 1, none⟩) HGv2.out _).setCell (p := ⟨qv2, 2, none⟩) HGv2.out _).setCell (p := ⟨qv2, 3, none⟩) HGv2.out _)
      have HOQ2_13 : Hid ((w13).ownsRow w.heap.size 74 2 (.slice oQ2 f2.length pQ2) f2.length (flatF f2)) := by show World.ownsRow _ _ _ _ _ _ _; rw [hY]; exact owns_same HOQ2_12.out (fun g hg => by have hne := own_ne HOQ2_12.out HBv2_12.out (by decide) g hg; rw [heap_setCell_other _ _ g _ hne, heap_setCell_other _ _ g _ hne, heap_setCell_other _ _ g _ hne, heap_setCell_other _ _ g _ hne])
      have HOQ4_13 : Hid ((w13).ownsRow w.heap.size 74 2 (.slice oQ4 f2.length pQ4) f2.length (flatF f2)) := by show World.ownsRow _ _ _ _ _ _ _; rw [hY]; exact owns_same HOQ4_12.out (fun g hg => by have hne := own_ne HOQ4_12.out HBv2_12.out (by decide) g hg; rw [heap_setCell_other _ _ g _ hne, heap_setCell_other _ _ g _ hne, heap_setCell_other _ _ g _ hne, heap_setCell_other _ _ g _ hne])
      have HBv1_13 : Hid ((w13).heap[qv1]? = some (.cells #[.int .i64 m2, .string pp2, .slice oQ2 f2.length pQ2, .string b2] 26)) := by show _ = _; rw [hY, heap_setCell_other _ _ _ _ HNv1v2.out, heap_setCell_other _ _ _ _ HNv1v2.out, heap_setCell_other _ _ _ _ HNv1v2.out, heap_setCell_other _ _ _ _ HNv1v2.out]; exact HBv1_12.out
      have HBv3_13 : Hid ((w13).heap[qv3]? = some (.cells #[.int .i64 m2, .string pp2, .slice oQ2 f2.length pQ2, .string b2] 26)) := by show _ = _; rw [hY, heap_setCell_other _ _ _ _ HNv2v3.out.symm, heap_setCell_other _ _ _ _ HNv2v3.out.symm, heap_setCell_other _ _ _ _ HNv2v3.out.symm, heap_setCell_other _ _ _ _ HNv2v3.out.symm]; exact HBv3_12.out
      have HBv4_13 : Hid ((w13).heap[qv4]? = some (.cells #[.int .i64 m2, .string pp2, .slice oQ4 f2.length pQ4, .string ⟨#[120]⟩] 26)) := by show _ = _; rw [hY, heap_setCell_other _ _ _ _ HNv2v4.out.symm, heap_setCell_other _ _ _ _ HNv2v4.out.symm, heap_setCell_other _ _ _ _ HNv2v4.out.symm, heap_setCell_other _ _ _ _ HNv2v4.out.symm]; exact HBv4_12.out
      have EU_13 : Hid (CurAt w13 c1 a len cap) := by show CurAt _ _ _ _ _; rw [hY]; exact (cur_set (cur_set (cur_set (cur_set EU_12.out HNCv2.out 0 _) HNCv2.out 1 _) HNCv2.out 2 _) HNCv2.out 3 _)
      have HBv2_13 : Hid ((w13).heap[qv2]? = some (.cells #[.int .i64 m2, .string pp2, .slice oQ4 f2.length pQ4, .string ⟨#[120]⟩] 26)) := by show _ = _; rw [hY]; have h := (heap_set _ qv2 3 _ _ _ (.string ⟨#[120]⟩) (heap_set _ qv2 2 _ _ _ (.slice oQ4 f2.length pQ4) (heap_set _ qv2 1 _ _ _ (.string pp2) (heap_set _ qv2 0 _ _ _ (.int .i64 m2) HBv2_12.out)))); simpa using h
      clear hY hb12 HOQ2_12 HOQ4_12 HBv1_12 HBv2_12 HBv3_12 HBv4_12 EU_12
      go_simp
      rw [HY.out]
      have hS13 : w13.heap[qv3]? = some (.cells #[.int .i64 m2, .string pp2, .slice oQ2 f2.length pQ2, .string b2] 26) ∧ w13.heap[qv4]? = some (.cells #[.int .i64 m2, .string pp2, .slice oQ4 f2.length pQ4, .string ⟨#[120]⟩] 26) := ⟨HBv3_13.out, HBv4_13.out⟩
      refine hK.out _ _ hS13 (fun _ => ?_)
      clear hK K HY hS12 ce0 fe0 ce1 fe1 ce2 fe2 ce3 fe3
      clear hS13
      refine wpAnyH_done (by kernel_rfl) ?_ _
      go_wp2_with fail
      have kv1_0 : (w13).cell? ⟨qv1, 0, none⟩ = some (.int .i64 m2) := (cell_of HBv1_13.out 0).trans rfl
      have kv1_1 : (w13).cell? ⟨qv1, 1, none⟩ = some (.string pp2) := (cell_of HBv1_13.out 1).trans rfl
      have kv1_2 : (w13).cell? ⟨qv1, 2, none⟩ = some (.slice oQ2 f2.length pQ2) := (cell_of HBv1_13.out 2).trans rfl
      have kv1_3 : (w13).cell? ⟨qv1, 3, none⟩ = some (.string b2) := (cell_of HBv1_13.out 3).trans rfl
      have kv2_0 : (w13).cell? ⟨qv2, 0, none⟩ = some (.int .i64 m2) := (cell_of HBv2_13.out 0).trans rfl
      have kv2_1 : (w13).cell? ⟨qv2, 1, none⟩ = some (.string pp2) := (cell_of HBv2_13.out 1).trans rfl
      have kv2_2 : (w13).cell? ⟨qv2, 2, none⟩ = some (.slice oQ4 f2.length pQ4) := (cell_of HBv2_13.out 2).trans rfl
      have kv2_3 : (w13).cell? ⟨qv2, 3, none⟩ = some (.string ⟨#[120]⟩) := (cell_of HBv2_13.out 3).trans rfl
      refine bodyPost_ret (v := .tuple #[.agg #[.int .i64 m2, .string pp2, .slice oQ2 f2.length pQ2, .string b2], .agg #[.int .i64 m2, .string pp2, .slice oQ4 f2.length pQ4, .string ⟨#[120]⟩]]) (by simp [results, Tryz.results11, go_sem, kv1_0, kv1_1, kv1_2, kv1_3, kv2_0, kv2_1, kv2_2, kv2_3]) rfl ?_
      exact ⟨_, _, _, _, _, _, _, _, _, _, rfl, ⟨HOQ2_13.out, HF2.out⟩, ⟨HOQ4_13.out, ⟨HF2.out.1, HF2.out.2.1, HF2.out.2.2.1, by decide⟩⟩, hb13⟩
end Go.Proofs.YtmcmeeibogkpaaaGreatDoorR
namespace Go.Proofs.YtmcmeeibogkpaaaGreatDoorR
open Go.RowKit
open Go.Lib hiding intOf
def plusI (a b : Int) : Int := min (min (max a 0) 1000000 + min (max b 0) 1000000) 1000000
def sinceI (t now : Int) : Int := if now ≤ t then 0 else min (now - t) 1000000
def ageName : ByteArray := ⟨#[97, 103, 101]⟩
open Classical in
/-- The age that fields tell. -/
noncomputable def ageN (fs : List (ByteArray × ByteArray)) : Int := if getB fs ageName = true ∧ ¬ NumOk (getV fs ageName) then 1000000 else numV (getV fs ageName)
noncomputable def ageAt (fs : List (ByteArray × ByteArray)) (t now : Int) : Int := plusI (ageN fs) (sinceI t now)
theorem plusI_in (a b : Int) : 0 ≤ plusI a b ∧ plusI a b ≤ 1000000 := by unfold plusI; omega
theorem ageAt_in (fs : List (ByteArray × ByteArray)) (t now : Int) : 0 ≤ ageAt fs t now ∧ ageAt fs t now ≤ 1000000 := plusI_in _ _
theorem specPlus_any (a b : Int) (w : World) :
  Calls Tryz.prog 98 #[.int .i64 a, .int .i64 b] w fun e w' => e = .returned (.int .i64 (plusI a b)) ∧ w' = w := by
 have u1 : 0 ≤ min (max a 0) 1000000 ∧ min (max a 0) 1000000 ≤ 1000000 := by omega
 have u2 : 0 ≤ min (max b 0) 1000000 ∧ min (max b 0) 1000000 ≤ 1000000 := by omega
 have HP : Hid (plusI a b = min (min (max a 0) 1000000 + min (max b 0) 1000000) 1000000) := rfl
 obtain ⟨x, hx⟩ := exq (min (max a 0) 1000000)
 obtain ⟨y, hy⟩ := exq (min (max b 0) 1000000)
 rw [← hx, ← hy] at HP
 rw [← hx] at u1
 rw [← hy] at u2
 have HX : Hid (min (max a 0) 1000000 = x) := hx.symm
 have HY : Hid (min (max b 0) 1000000 = y) := hy.symm
 clear hx hy
 go_enter Tryz.func98, Tryz.ntmps98
 go_wp2_with fail
 refine (l1Max_any _ _ _).mono ?_
 rintro e w1 ⟨rfl, rfl⟩
 go_wp2_with fail
 refine (l1Min_any _ _ _).mono ?_
 rintro e w2 ⟨rfl, rfl⟩
 rw [HX.out]
 go_wp2_with fail
 refine (l1Max_any _ _ _).mono ?_
 rintro e w3 ⟨rfl, rfl⟩
 go_wp2_with fail
 refine (l1Min_any _ _ _).mono ?_
 rintro e w4 ⟨rfl, rfl⟩
 rw [HY.out]
 go_wp2_with fail
 refine (l1Min_any _ _ _).mono ?_
 rintro e w5 ⟨rfl, rfl⟩
 go_wp2_with fail
 go_ret
 exact ⟨by rw [HP.out]; rfl, rfl⟩
theorem l7Since_any (t now : Int) (w : World) (h0 : -9223372036854775808 ≤ t) (h1 : now ≤ 9223372036854775807) :
  Calls Tryz.prog 99 #[.int .i64 t, .int .i64 now] w fun e w' => e = .returned (.int .i64 (sinceI t now)) ∧ w' = w := by
 by_cases hle : now ≤ t
 ·
  have HE : Hid (sinceI t now = 0) := by show _ = _; unfold sinceI; rw [if_pos hle]
  go_enter Tryz.func99, Tryz.ntmps99
  go_wp2_with fail
  go_ret
  exact ⟨by rw [HE.out]; rfl, rfl⟩
 ·
  by_cases ht : t < 0
  ·
   have u1 : -9223372036854775808 ≤ t + 1000000 ∧ t + 1000000 ≤ 9223372036854775807 := by omega
   by_cases hn : t + 1000000 < now
   ·
    have HE : Hid (sinceI t now = 1000000) := by show _ = _; unfold sinceI; rw [if_neg hle]; omega
    go_enter Tryz.func99, Tryz.ntmps99
    go_wp2_with fail
    go_ret
    exact ⟨by rw [HE.out]; rfl, rfl⟩
   ·
    have u2 : -9223372036854775808 ≤ now - t ∧ now - t ≤ 9223372036854775807 := by omega
    have HE : Hid (sinceI t now = min (now - t) 1000000) := by show _ = _; unfold sinceI; rw [if_neg hle]
    go_enter Tryz.func99, Tryz.ntmps99
    go_wp2_with fail
    refine (l1Min_any _ _ _).mono ?_
    rintro e w1 ⟨rfl, rfl⟩
    go_wp2_with fail
    go_ret
    exact ⟨by rw [HE.out]; rfl, rfl⟩
  ·
   have u2 : -9223372036854775808 ≤ now - t ∧ now - t ≤ 9223372036854775807 := by omega
   have HE : Hid (sinceI t now = min (now - t) 1000000) := by show _ = _; unfold sinceI; rw [if_neg hle]
   go_enter Tryz.func99, Tryz.ntmps99
   go_wp2_with fail
   refine (l1Min_any _ _ _).mono ?_
   rintro e w1 ⟨rfl, rfl⟩
   go_wp2_with fail
   go_ret
   exact ⟨by rw [HE.out]; rfl, rfl⟩
theorem specAgeAt_any (v : Value) (n base : Nat) (fs : List (ByteArray × ByteArray)) (t now : Int) (w : World) (hv : FieldsV w base v n fs) (hn : n ≤ 1073741824) (hsz : (getV fs ageName).size ≤ maxLen) (h0 : -9223372036854775808 ≤ t) (h1 : now ≤ 9223372036854775807) :
  Calls Tryz.prog 48 #[v, .int .i64 t, .int .i64 now] w fun e w' => e = .returned (.int .i64 (ageAt fs t now)) ∧ Below w.heap.size w w' := by
 obtain ⟨s, hs⟩ := exq (getV fs ageName)
 obtain ⟨th, hth⟩ := exq (getB fs ageName)
 have HS : Hid (getV fs ageName = s) := hs.symm
 have HT : Hid (getB fs ageName = th) := hth.symm
 rw [← hs] at hsz
 clear hs hth
 go_enter Tryz.func48, Tryz.ntmps48
 go_wp2_with fail
 refine (specGet_any v n base fs ageName _ hv hn).mono ?_
 rintro e w1 ⟨rfl, rfl⟩
 rw [HS.out, HT.out]
 clear hv
 go_wp2_with fail
 refine (specNumRead_any s _ hsz).mono ?_
 rintro e w2 ⟨b, x, rfl, hb1, hb2, hb3, b2⟩
 have HB : Hid (Below w1.heap.size w1 w2) := b2
 have HX : Hid (numV s = x) := by
  show _ = _
  unfold numV
  cases b with
  | true => rw [if_pos (hb1.1 rfl), hb2 rfl]
  | false => rw [if_neg (fun h => nomatch hb1.2 h), hb3 rfl]
 have HA : Hid (ageN fs = if th = true ∧ b = false then 1000000 else x) := by
  show _ = _
  unfold ageN
  rw [HS.out, HT.out, HX.out]
  cases b with
  | true => rw [if_neg (fun h => h.2 (hb1.1 rfl)), if_neg (fun h => nomatch h.2)]
  | false =>
   by_cases hth : th = true
   · rw [if_pos ⟨hth, fun h => nomatch hb1.2 h⟩, if_pos ⟨hth, rfl⟩]
   · rw [if_neg (fun h => hth h.1), if_neg (fun h => hth h.1)]
 clear hb1 hb2 hb3 b2
 cases th with
 | true =>
  cases b with
  | true =>
   have HE : Hid (ageAt fs t now = plusI x (sinceI t now)) := by show _ = _; unfold ageAt; rw [HA.out, if_neg (fun h => nomatch h.2)]
   go_wp2_with fail
   refine (l7Since_any t now _ h0 h1).mono ?_
   rintro e w3 ⟨rfl, rfl⟩
   go_wp2_with fail
   refine (specPlus_any _ _ _).mono ?_
   rintro e w4 ⟨rfl, rfl⟩
   go_wp2_with fail
   go_ret
   exact ⟨by rw [HE.out]; rfl, HB.out⟩
  | false =>
   have HE : Hid (ageAt fs t now = plusI 1000000 (sinceI t now)) := by show _ = _; unfold ageAt; rw [HA.out, if_pos ⟨rfl, rfl⟩]
   go_wp2_with fail
   refine (l7Since_any t now _ h0 h1).mono ?_
   rintro e w3 ⟨rfl, rfl⟩
   go_wp2_with fail
   refine (specPlus_any _ _ _).mono ?_
   rintro e w4 ⟨rfl, rfl⟩
   go_wp2_with fail
   go_ret
   exact ⟨by rw [HE.out]; rfl, HB.out⟩
 | false =>
  have HE : Hid (ageAt fs t now = plusI x (sinceI t now)) := by show _ = _; unfold ageAt; rw [HA.out, if_neg (fun h => nomatch h.1)]
  go_wp2_with fail
  refine (l7Since_any t now _ h0 h1).mono ?_
  rintro e w3 ⟨rfl, rfl⟩
  go_wp2_with fail
  refine (specPlus_any _ _ _).mono ?_
  rintro e w4 ⟨rfl, rfl⟩
  go_wp2_with fail
  go_ret
  exact ⟨by rw [HE.out]; rfl, HB.out⟩
theorem cc_nc (c0 c1 c2 c3 c4 : Bool) (c5 : Int) (W : World) : (Instr.field 89 (.agg #[.bool c0, .bool c1, .bool c2, .bool c3, .bool c4, .int .i64 c5]) 1).run Tryz.prog W = .ok (.bool c1) W := by
 first | kernel_rfl | rfl | simp [Instr.field, go_sem]
end Go.Proofs.YtmcmeeibogkpaaaGreatDoorR
namespace Go.Proofs.YtmcmeeibogkpaaaGreatDoorR
open Go.RowKit
open Go.Lib hiding intOf
/-- Who may be answered from here. -/
def HereP (m : Int) (p : ByteArray) (fs : List (ByteArray × ByteArray)) (b : ByteArray) : Prop := (ReqP m p fs b ∧ m = 1) ∧ (ccR (getV fs ccName)).ns = false
/-- Both ask for the same. -/
def AlikeP (m : Int) (p : ByteArray) (fs : List (ByteArray × ByteArray)) (b : ByteArray) (m2 : Int) (p2 : ByteArray) (gs : List (ByteArray × ByteArray)) (c : ByteArray) : Prop := (HereP m p fs b ∧ HereP m2 p2 gs c) ∧ p = p2 ∧ fs = gs
/-- The first fields of both are the same. -/
def SameTo (fs gs : List (ByteArray × ByteArray)) (k : Nat) : Prop := ∀ j, j < k → nameAt fs j = nameAt gs j ∧ valAt fs j = valAt gs j
theorem SameTo.zero (fs gs : List (ByteArray × ByteArray)) : SameTo fs gs 0 := fun j h => absurd h (Nat.not_lt_zero j)
theorem SameTo.step {fs gs : List (ByteArray × ByteArray)} {k : Nat} (h : SameTo fs gs k) (h1 : nameAt fs k = nameAt gs k) (h2 : valAt fs k = valAt gs k) : SameTo fs gs (k + 1) := fun j hj => by
 by_cases e : j = k
 · subst e; exact ⟨h1, h2⟩
 · exact h j (by omega)
theorem SameTo.all {fs gs : List (ByteArray × ByteArray)} {n : Nat} (h : SameTo fs gs n) (h1 : fs.length = n) (h2 : gs.length = n) : fs = gs := by
 apply List.ext_getElem (by omega)
 intro i hi hj
 have := h i (by omega)
 unfold nameAt valAt at this
 rw [List.getD_eq_getElem?_getD, List.getElem?_eq_getElem hi, List.getD_eq_getElem?_getD, List.getElem?_eq_getElem hj] at this
 exact Prod.ext this.1 this.2
end Go.Proofs.YtmcmeeibogkpaaaGreatDoorR
namespace Go.Proofs.YtmcmeeibogkpaaaGreatDoorR
open Go.RowKit
open Go.Lib hiding intOf
open Classical in
noncomputable def ansS (fs gs : List (ByteArray × ByteArray)) (st : Int) : Int := if SameP fs gs then 304 else st
open Classical in
noncomputable def ansG (fs gs : List (ByteArray × ByteArray)) : List (ByteArray × ByteArray) := if SameP fs gs then shortF gs else gs
open Classical in
noncomputable def ansB (fs gs : List (ByteArray × ByteArray)) (d : ByteArray) : ByteArray := if SameP fs gs then ⟨#[]⟩ else d
/-- The age that is put, as a text. -/
noncomputable def ageT (gs : List (ByteArray × ByteArray)) (t now : Int) : ByteArray := numTextI (ageAt gs t now)
/-- The fields of what is answered with an object. -/
noncomputable def ansF (fs gs : List (ByteArray × ByteArray)) (st : Int) (d : ByteArray) (t now : Int) : List (ByteArray × ByteArray) := mergeF (ansS fs gs st) (ansG fs gs) (ansB fs gs d) [(ageName, ageT gs t now)]
theorem ansS_yes {fs gs : List (ByteArray × ByteArray)} (h : SameP fs gs) (st : Int) : ansS fs gs st = 304 := if_pos h
theorem ansS_no {fs gs : List (ByteArray × ByteArray)} (h : ¬ SameP fs gs) (st : Int) : ansS fs gs st = st := if_neg h
theorem ansG_yes {fs gs : List (ByteArray × ByteArray)} (h : SameP fs gs) : ansG fs gs = shortF gs := if_pos h
theorem ansG_no {fs gs : List (ByteArray × ByteArray)} (h : ¬ SameP fs gs) : ansG fs gs = gs := if_neg h
theorem ansB_yes {fs gs : List (ByteArray × ByteArray)} (h : SameP fs gs) (d : ByteArray) : ansB fs gs d = ⟨#[]⟩ := if_pos h
theorem ansB_no {fs gs : List (ByteArray × ByteArray)} (h : ¬ SameP fs gs) (d : ByteArray) : ansB fs gs d = d := if_neg h
theorem merge_put {st : Int} {fs : List (ByteArray × ByteArray)} {b a v : ByteArray} (h : RespP st (putF fs a v) b) : mergeF st fs b [(a, v)] = putF fs a v := if_pos h
theorem merge_not {st : Int} {fs : List (ByteArray × ByteArray)} {b a v : ByteArray} (h : ¬ RespP st (putF fs a v) b) : mergeF st fs b [(a, v)] = fs := if_neg h
theorem ageT_size (gs : List (ByteArray × ByteArray)) (t now : Int) : (ageT gs t now).size ≤ 8 := by
 unfold ageT numTextI
 split
 · decide
 · exact numText_size _
theorem mergeL_le (st : Int) (fs : List (ByteArray × ByteArray)) (b a v : ByteArray) : (mergeF st fs b [(a, v)]).length ≤ fs.length + 1 := by
 unfold mergeF
 split
 · exact putAll_le fs [(a, v)]
 · omega
theorem ansG_le (fs gs : List (ByteArray × ByteArray)) : (ansG fs gs).length ≤ gs.length := by
 unfold ansG
 split
 · exact shortF_le gs
 · exact Nat.le_refl _
theorem ansF_le (fs gs : List (ByteArray × ByteArray)) (st : Int) (d : ByteArray) (t now : Int) : (ansF fs gs st d t now).length ≤ gs.length + 1 := by
 have h1 := mergeL_le (ansS fs gs st) (ansG fs gs) (ansB fs gs d) ageName (ageT gs t now)
 have h2 := ansG_le fs gs
 unfold ansF
 omega
/-- What a list's texts are bounded by. -/
theorem walk_of {n : Nat} {fs : List (ByteArray × ByteArray)} (hl : fs.length = n) (h : ∀ f ∈ fs, f.1.size ≤ maxLen ∧ f.2.size ≤ maxLen) : WalkF n fs := fun i hi => by
 have hj : i < fs.length := by omega
 have := h _ (List.getElem_mem hj)
 unfold nameAt valAt
 rw [List.getD_eq_getElem?_getD, List.getElem?_eq_getElem hj]
 exact this
theorem walk_mem {n : Nat} {fs : List (ByteArray × ByteArray)} (hl : fs.length = n) (h : WalkF n fs) : ∀ f ∈ fs, f.1.size ≤ maxLen ∧ f.2.size ≤ maxLen := fun f hf => by
 obtain ⟨j, hj, e⟩ := List.getElem_of_mem hf
 have := h j (by omega)
 unfold nameAt valAt at this
 rw [List.getD_eq_getElem?_getD, List.getElem?_eq_getElem hj] at this
 rw [← e]
 exact this
theorem walk_short {n : Nat} {gs : List (ByteArray × ByteArray)} (hl : gs.length = n) (h : WalkF n gs) : WalkF (shortF gs).length (shortF gs) := walk_of rfl fun f hf => by
 unfold shortF at hf
 exact walk_mem hl h f (List.mem_filter.1 hf).1
theorem walk_put {n : Nat} {fs : List (ByteArray × ByteArray)} {a v : ByteArray} (hl : fs.length = n) (h : WalkF n fs) (ha : a.size ≤ maxLen) (hv : v.size ≤ maxLen) : WalkF (putF fs a v).length (putF fs a v) := fun i hi => put_at fs a v i maxLen (fun j hj => h j (by omega)) ha hv hi
theorem copy_short {gs : List (ByteArray × ByteArray)} (h : CopyF gs) : CopyF (shortF gs) := fun i hi => by
 have hm : ∀ f ∈ gs, f.1.size ≤ 281474976710656 ∧ f.2.size ≤ 281474976710656 := fun f hf => by
  obtain ⟨j, hj, e⟩ := List.getElem_of_mem hf
  have := h j hj
  unfold nameAt valAt at this
  rw [List.getD_eq_getElem?_getD, List.getElem?_eq_getElem hj] at this
  rw [← e]
  exact this
 have h2 := hm _ (List.mem_filter.1 (List.getElem_mem hi)).1
 unfold nameAt valAt
 rw [List.getD_eq_getElem?_getD, List.getElem?_eq_getElem hi]
 exact h2
end Go.Proofs.YtmcmeeibogkpaaaGreatDoorR
namespace Go.Proofs.YtmcmeeibogkpaaaGreatDoorR
open Go.RowKit
open Go.Lib hiding intOf
theorem below_grownO {B : Nat} {w w' : World} {r : Option Nat} (hg : w.grownBy w' r) (hB : B ≤ w.heap.size) (hr : ∀ g, r = some g → B ≤ g) : Below B w w' :=
 ⟨hg.os, hg.tape, hg.output, hg.size, fun k hk => hg.block k (Nat.lt_of_lt_of_le hk hB) (fun e => by have := hr k e.symm; omega)⟩
theorem tag_list : tagName.toList = [101, 116, 97, 103] := by rw [ByteArray.toList_eq]; rfl
theorem vary_list : varyName.toList = [118, 97, 114, 121] := by rw [ByteArray.toList_eq]; rfl
theorem ccN_list : ccName.toList = [99, 97, 99, 104, 101, 45, 99, 111, 110, 116, 114, 111, 108] := by rw [ByteArray.toList_eq]; rfl
/-- While a short answer is made. -/
structure ShSt (w : World) (r : Nat) (st : Int) (va : Value) (b : ByteArray) (z : Value) (P : List (ByteArray × ByteArray)) (W : World) : Prop where
 q0 : W.heap[r]? = some (.cells #[.int .i64 st, va, .string b] 29)
 q1 : W.heap[r + 1]? = some (.cells #[.int .i64 0, .slice none 0 0, .string ⟨#[]⟩] 29)
 q2 : W.heap[r + 1 + 1]? = some (.cells #[.int .i64 304, z, .string ⟨#[]⟩] 29)
 own : W.ownsRow (r + 1 + 1 + 1) 74 2 z P.length (flatF P)
 low : Below r w W
theorem ShSt.size {w : World} {r : Nat} {st : Int} {va : Value} {b : ByteArray} {z : Value} {P : List (ByteArray × ByteArray)} {W : World} (h : ShSt w r st va b z P W) : r + 1 + 1 + 1 ≤ W.heap.size := (Array.getElem?_eq_some_iff.1 h.q2).1
theorem ShSt.below {w : World} {r : Nat} {st : Int} {va : Value} {b : ByteArray} {z : Value} {P : List (ByteArray × ByteArray)} {W : World} {W' : World} (h : ShSt w r st va b z P W) (hb : Below W.heap.size W W') : ShSt w r st va b z P W' := by
 have hs := h.size
 exact ⟨by rw [hb.block _ (by omega)]; exact h.q0, by rw [hb.block _ (by omega)]; exact h.q1, by rw [hb.block _ (by omega)]; exact h.q2, owns_same h.own (fun j hj => hb.block j (owns_lt h.own hj)), h.low.trans (hb.mono (by omega))⟩
theorem specShort_any (st : Int) (v : Value) (b : ByteArray) (n base : Nat) (gs : List (ByteArray × ByteArray)) (w : World) (hv : FieldsV w base v n gs) (hn : n ≤ 2000000) :
  Calls Tryz.prog 46 #[.agg #[.int .i64 st, v, .string b]] w fun e w' => RespRow 304 (shortF gs) ⟨#[]⟩ w e w' := by
 obtain ⟨i0, hi, hz0, hz1, hz2⟩ := info_parts info33
 obtain ⟨oa, cap, rfl, hrow0⟩ := hv.slice
 have HLB : Hid (gs.length = n) := hv.len
 obtain ⟨r, hr⟩ := exq (w.heap.size)
 have HR : Hid (w.heap.size = r) := hr.symm
 have HGR : Hid (∀ j, j < n → ∃ g, oa = some ⟨g, 0, none⟩ ∧ g < r) := fun j hj => by obtain ⟨g, h1, h2⟩ := hrow0 j hj; exact ⟨g, h1, by rw [hr]; exact h2.lt⟩
 clear hrow0
 obtain ⟨W1, hW1⟩ := exq (((w.alloc (.cells #[.int .i64 st, .slice oa n cap, .string b] 29)).alloc (.cells #[.int .i64 0, .slice none 0 0, .string ⟨#[]⟩] 29)).alloc (.cells #[.int .i64 304, .slice none 0 0, .string ⟨#[]⟩] 29))
 have HW1 : Hid (((w.alloc (.cells #[.int .i64 st, .slice oa n cap, .string b] 29)).alloc (.cells #[.int .i64 0, .slice none 0 0, .string ⟨#[]⟩] 29)).alloc (.cells #[.int .i64 304, .slice none 0 0, .string ⟨#[]⟩] 29) = W1) := hW1.symm
 have HVA : Hid (∀ W, Below r w W → FieldsV W base (.slice oa n cap) n gs) := fun W h => hv.below (by rw [hr] at h; exact h)
 have HS0 : Hid (ShSt w r st (.slice oa n cap) b (.slice none 0 0) [] W1) := by
  have b1 : Below r w W1 := by rw [hW1, hr]; exact (((Below.refl _ w).alloc (Nat.le_refl _) _).alloc (by simp) _).alloc (by simp; omega) _
  have s1 : (w.alloc (.cells #[.int .i64 st, .slice oa n cap, .string b] 29)).heap.size = r + 1 := by rw [hr]; simp
  have s2 : ((w.alloc (.cells #[.int .i64 st, .slice oa n cap, .string b] 29)).alloc (.cells #[.int .i64 0, .slice none 0 0, .string ⟨#[]⟩] 29)).heap.size = r + 1 + 1 := by rw [hr]; simp
  have e0 := heap_alloc_new w (.cells #[.int .i64 st, .slice oa n cap, .string b] 29)
  have e1 := heap_alloc_new (w.alloc (.cells #[.int .i64 st, .slice oa n cap, .string b] 29)) (.cells #[.int .i64 0, .slice none 0 0, .string ⟨#[]⟩] 29)
  have e2 := heap_alloc_new ((w.alloc (.cells #[.int .i64 st, .slice oa n cap, .string b] 29)).alloc (.cells #[.int .i64 0, .slice none 0 0, .string ⟨#[]⟩] 29)) (.cells #[.int .i64 304, .slice none 0 0, .string ⟨#[]⟩] 29)
  rw [← hr] at e0
  rw [s1] at e1
  rw [s2, ← hW1] at e2
  have c1 : Below (r + 1) (w.alloc (.cells #[.int .i64 st, .slice oa n cap, .string b] 29)) W1 := by rw [hW1, ← s1]; exact ((Below.refl _ _).alloc (Nat.le_refl _) _).alloc (by simp) _
  have c2 : Below (r + 1 + 1) ((w.alloc (.cells #[.int .i64 st, .slice oa n cap, .string b] 29)).alloc (.cells #[.int .i64 0, .slice none 0 0, .string ⟨#[]⟩] 29)) W1 := by rw [hW1, ← s2]; exact (Below.refl _ _).alloc (Nat.le_refl _) _
  exact ⟨by rw [c1.block r (by omega)]; exact e0, by rw [c2.block (r + 1) (by omega)]; exact e1, e2, ⟨rfl, .inl ⟨rfl, rfl⟩⟩, b1⟩
 clear hW1 hv
 go_enter Tryz.func46, Tryz.ntmps46
 go_upto_region 2 with fail
 rw [HW1.out, ← hr]
 clear hr HW1
 go_wp2_with fail
 go_loopw [4] (fun i wr => ∃ (j : Nat) (z : Value) (P : List (ByteArray × ByteArray)), j ≤ n ∧ i = .int .i64 (j : Int) ∧ Hid (ShSt w r st (.slice oa n cap) b z P wr) ∧ Hid (P = shortF (gs.take j))) (fun i _ => n - (intOf i).toNat)
 case atStart => exact ⟨0, _, [], Nat.zero_le _, rfl, HS0, by show _ = _; simp [shortF]⟩
 case round =>
  obtain ⟨j, z, P, hj, rfl, HS, HP⟩ := hrel
  obtain ⟨oz, cz, rfl⟩ := slice_of_owns HS.out.own
  obtain ⟨⟨_, t1, _⟩, _⟩ := three_facts HS.out.q0
  have HPL : Hid (P.length ≤ 2000000) := by
   show _ ≤ _
   rw [HP.out]
   have h1 := shortF_le (gs.take j)
   rw [List.length_take, HLB.out] at h1
   omega
  by_cases hlt : (j : Int) < (n : Int)
  ·
   have hjg : j < gs.length := by rw [HLB.out]; omega
   obtain ⟨_, _, hsl, hrow⟩ := (HVA.out wr HS.out.low).slice
   cases hsl
   obtain ⟨g, rfl, row⟩ := hrow j (by omega)
   obtain ⟨g', hg1, hgr⟩ := HGR.out j (by omega)
   cases hg1
   have n1 := row.name j (by omega)
   have n2 := row.val j (by omega)
   obtain ⟨x, hx⟩ := exq (nameAt gs j)
   obtain ⟨y, hy⟩ := exq (valAt gs j)
   rw [← hx] at n1
   rw [← hy] at n2
   have HTK : Hid (gs.take (j + 1) = gs.take j ++ [(x, y)]) := by show _ = _; rw [take_field gs j hjg, hx, hy]
   clear hx hy row hjg
   by_cases h1 : x = tagName
   ·
    have t0 : (x.toList == tagName.toList) = true := (text_beq _ _).2 h1
    rw [tag_list] at t0
    have HYES : Hid ((x, y).1 = tagName ∨ (x, y).1 = varyName ∨ (x, y).1 = ccName) := .inl h1
    clear h1
    have HP2 : Hid (P ++ [(x, y)] = shortF (gs.take (j + 1))) := by show _ = _; rw [HTK.out, shortF_snoc, if_pos HYES.out, ← HP.out]
    have h63 : P.length + 1 ≤ maxLen := by have := HPL.out; unfold maxLen; omega
    have h47 : (P.length + 1) * 32 ≤ 140737488355328 := by have := HPL.out; omega
    obtain ⟨⟨_, u1, _⟩, _⟩ := three_facts HS.out.q2
    have HOA : Hid ((wr.drew.alloc (.cells #[.string x, .string y] 74)).ownsRow (r + 1 + 1 + 1) 74 2 (.slice oz P.length cz) P.length (flatF P)) := ((HS.out.below (Below.refl _ _).drew).own).alloc _
    have HSA : Hid (r + 1 + 1 + 1 ≤ (wr.drew.alloc (.cells #[.string x, .string y] 74)).heap.size) := by show _ ≤ _; have := HS.out.size; simp; omega
    have hsz := HS.out.size
    have hgw : g < wr.heap.size := by omega
    have hSA : (wr.drew.alloc (.cells #[.string x, .string y] 74)).cell? ⟨r, 1, none⟩ = some (.slice (some ⟨g, 0, none⟩) n cap) ∧ (wr.drew.alloc (.cells #[.string x, .string y] 74)).cell? ⟨g, j * 2, none⟩ = some (.string x) ∧ (wr.drew.alloc (.cells #[.string x, .string y] 74)).cell? ⟨g, j * 2 + 1, none⟩ = some (.string y) := by
     have b0 : Below wr.heap.size wr (wr.drew.alloc (.cells #[.string x, .string y] 74)) := (Below.refl _ wr).drew.alloc (Nat.le_refl _) _
     exact ⟨(b0.cell (p := ⟨r, 1, none⟩) (by show r < _; omega)).trans t1, (b0.cell (p := ⟨g, j * 2, none⟩) hgw).trans n1, (b0.cell (p := ⟨g, j * 2 + 1, none⟩) hgw).trans n2⟩
    have c1a : (wr.drew.alloc (.cells #[.string x, .string y] 74)).cell? ⟨r + 1 + 1, 1, none⟩ = some (.slice oz P.length cz) := by
     have b0 : Below wr.heap.size wr (wr.drew.alloc (.cells #[.string x, .string y] 74)) := (Below.refl _ wr).drew.alloc (Nat.le_refl _) _
     exact (b0.cell (p := ⟨r + 1 + 1, 1, none⟩) (by show r + 1 + 1 < _; omega)).trans u1
    have c1b : (wr.alloc (.cells #[.string x, .string y] 74)).cell? ⟨r + 1 + 1, 1, none⟩ = some (.slice oz P.length cz) := c1a
    have hnews : ∀ i v, [Value.string x, .string y][i]? = some v → (wr.drew.alloc (.cells #[.string x, .string y] 74)).cell? ((⟨wr.heap.size, 0, none⟩ : Addr).add i) = some v := World.news_of_block (heap_alloc_new wr.drew _)
    have HMORE : Hid (∀ W4 g4 cap4, (wr.drew.alloc (.cells #[.string x, .string y] 74)).grownBy W4 (Value.slice oz P.length cz).ownBlock → W4.ownsRow (r + 1 + 1 + 1) 74 2 (.slice (some ⟨g4, 0, none⟩) (P.length + 1) cap4) (P.length + 1) (flatF P ++ [.string x, .string y]) →
      (W4.cell? ⟨r, 1, none⟩ = some (.slice (some ⟨g, 0, none⟩) n cap) ∧ W4.cell? ⟨g, j * 2, none⟩ = some (.string x) ∧ W4.cell? ⟨g, j * 2 + 1, none⟩ = some (.string y)) ∧ ((W4.setCell ⟨r + 1 + 1, 1, none⟩ (.slice (some ⟨g4, 0, none⟩) (P.length + 1) cap4)).cell? ⟨r, 1, none⟩ = some (.slice (some ⟨g, 0, none⟩) n cap) ∧ (W4.setCell ⟨r + 1 + 1, 1, none⟩ (.slice (some ⟨g4, 0, none⟩) (P.length + 1) cap4)).cell? ⟨g, j * 2, none⟩ = some (.string x) ∧ (W4.setCell ⟨r + 1 + 1, 1, none⟩ (.slice (some ⟨g4, 0, none⟩) (P.length + 1) cap4)).cell? ⟨g, j * 2 + 1, none⟩ = some (.string y)) ∧ (∃ q, W4.cell? ⟨r + 1 + 1, 1, none⟩ = some q) ∧ W4.frozen? ⟨r + 1 + 1, 1, none⟩ = false ∧
      ShSt w r st (.slice (some ⟨g, 0, none⟩) n cap) b (.slice (some ⟨g4, 0, none⟩) (P.length + 1) cap4) (P ++ [(x, y)]) (W4.setCell ⟨r + 1 + 1, 1, none⟩ (.slice (some ⟨g4, 0, none⟩) (P.length + 1) cap4))) := by
     intro W4 g4 cap4 hg4 ho4
     have b0 : Below wr.heap.size wr (wr.drew.alloc (.cells #[.string x, .string y] 74)) := (Below.refl _ wr).drew.alloc (Nat.le_refl _) _
     have h1 := HS.out.below b0
     have bg : Below (r + 1 + 1 + 1) (wr.drew.alloc (.cells #[.string x, .string y] 74)) W4 := below_grownO hg4 HSA.out (fun q hq => owns_ge HOA.out hq)
     have e0 := (bg.block r (by omega)).trans h1.q0
     have e1 := (bg.block (r + 1) (by omega)).trans h1.q1
     have e2 := (bg.block (r + 1 + 1) (by omega)).trans h1.q2
     obtain ⟨⟨_, a1, _⟩, _⟩ := three_facts e0
     obtain ⟨⟨_, a2, _⟩, _, a3, _⟩ := three_facts e2
     have m1 : W4.cell? ⟨g, j * 2, none⟩ = some (.string x) := (bg.cell (p := ⟨g, j * 2, none⟩) (by show g < _; omega)).trans hSA.2.1
     have m2 : W4.cell? ⟨g, j * 2 + 1, none⟩ = some (.string y) := (bg.cell (p := ⟨g, j * 2 + 1, none⟩) (by show g < _; omega)).trans hSA.2.2
     refine ⟨⟨a1, m1, m2⟩, ⟨by rw [cell_set_other _ _ _ _ _ _ (by omega)]; exact a1, by rw [cell_set_other _ _ _ _ _ _ (by omega)]; exact m1, by rw [cell_set_other _ _ _ _ _ _ (by omega)]; exact m2⟩, ⟨_, a2⟩, a3, ⟨by rw [heap_setCell_other _ _ r _ (by show r ≠ r + 1 + 1; omega)]; exact e0, by rw [heap_setCell_other _ _ (r + 1) _ (by show r + 1 ≠ r + 1 + 1; omega)]; exact e1, ?_, ?_, (h1.low.trans (bg.mono (by omega))).setCell (by show r ≤ r + 1 + 1; omega) _⟩⟩
     ·
      have := heap_set W4 (r + 1 + 1) 1 _ _ _ (.slice (some ⟨g4, 0, none⟩) (P.length + 1) cap4) e2
      simpa using this
     ·
      rw [List.length_append, flatF_append, flatF_one]
      refine owns_same ho4 (fun q hq => heap_setCell_other _ _ q _ ?_)
      have := owns_ge ho4 hq
      show q ≠ r + 1 + 1
      omega
    clear HS HP HTK HYES hgw hsz
    go_upto_region 7 with fail
    refine wp_region_held_drew (S := fun W => W.cell? ⟨r, 1, none⟩ = some (.slice (some ⟨g, 0, none⟩) n cap) ∧ W.cell? ⟨g, j * 2, none⟩ = some (.string x) ∧ W.cell? ⟨g, j * 2 + 1, none⟩ = some (.string y)) (by kernel_rfl) ⟨t1, n1, n2⟩ (fun hS0 => ?_)
    refine tkP 0 (.pointer (some ⟨r + 1 + 1, 1, none⟩)) 30 rfl rfl hS0 ?_
    go_frame
    refine tkP 2 (.pointer (some ⟨r, 1, none⟩)) 32 rfl rfl hS0 ?_
    go_frame
    refine tkL 3 (.slice (some ⟨g, 0, none⟩) n cap) 33 rfl rfl (Or.inl ⟨by rfl, by intro W hW; obtain ⟨h1, h2, h3⟩ := hW; go_simp⟩) hS0 ?_
    go_frame
    refine tkP 4 (.int .i64 (j : Int)) 34 rfl rfl hS0 ?_
    go_frame
    refine tkP 5 (.pointer (some ⟨g, j * 2, none⟩)) 35 rfl rfl hS0 ?_
    go_frame
    refine tkL 6 (.agg #[.string x, .string y]) 36 rfl rfl (Or.inl ⟨by rfl, by intro W hW; obtain ⟨h1, h2, h3⟩ := hW; go_simp⟩) hS0 ?_
    go_frame
    refine wpAnyH_ready (rs := [1, 7]) (by kernel_rfl) (by simp) ?_
    refine AllReadyH.cons rfl (fun K hK => ?_) (AllReadyH.cons rfl (fun K hK => ?_) AllReadyH.nil)
    ·
     go_simp
     refine hK.out _ _ hS0 (fun _ => ?_)
     clear hK K
     refine rd1 7 rfl (fun K hK => ?_)
     go_simp
     refine hK.out _ _ hSA (fun _ => ?_)
     clear hK K
     refine rd1 8 rfl (fun K hK => ?_)
     refine step_append_lies _ (by rfl) _ _ _ (by rfl) (r + 1 + 1 + 1) 74 i0 (.agg #[.string ⟨#[]⟩, .string ⟨#[]⟩]) 2 32 Tryz.underlying24 hi hz0 hz1 hz2 rfl (by omega) (.slice oz P.length cz) P.length (flatF P) (by rfl) HOA.out ⟨wr.heap.size, 0, none⟩ 1 1 [.string x, .string y] (by rfl) (by rfl) hnews (by simp [Value.oneCell']) (by omega) h63 h47 HSA.out (wr.heap.size + 1) (by simp) ?_
     intro g4 cap4 w4 hown4 hgrow4 _ _
     obtain ⟨hS4, hS5, ⟨q5, hq5⟩, f5, hM⟩ := HMORE.out w4 g4 cap4 hgrow4 hown4
     have HM : Hid (ShSt w r st (.slice (some ⟨g, 0, none⟩) n cap) b (.slice (some ⟨g4, 0, none⟩) (P.length + 1) cap4) (P ++ [(x, y)]) (w4.setCell ⟨r + 1 + 1, 1, none⟩ (.slice (some ⟨g4, 0, none⟩) (P.length + 1) cap4))) := hM
     clear hown4 hgrow4 hM HMORE
     simp only [Act.put, List.setIfInBounds_toArray]
     refine hK.out _ _ hS4 (fun _ => ?_)
     clear hK K
     refine tkP 9 (.pointer (some ⟨r + 1 + 1, 1, none⟩)) 39 rfl rfl hS4 ?_
     simp only [Act.put]
     refine rd1 10 rfl (fun K hK => ?_)
     go_simp
     refine hK.out _ _ hS5 (fun _ => ?_)
     clear hK K hq5 f5 hS4 hS5 hS0 hSA t1 n1 n2 u1 c1a c1b hnews
     refine wpAnyH_done (by kernel_rfl) ?_ _
     go_wp2_with fail
     go_roundw
     case rel => exact ⟨j + 1, _, P ++ [(x, y)], by omega, by go_num, HM, HP2⟩
     case measure => simp [intOf]; omega
    ·
     go_simp
     refine hK.out _ _ hSA (fun _ => ?_)
     clear hK K
     refine rd1 1 rfl (fun K hK => ?_)
     go_simp
     refine hK.out _ _ hSA (fun _ => ?_)
     clear hK K
     refine rd1 8 rfl (fun K hK => ?_)
     refine step_append_lies _ (by rfl) _ _ _ (by rfl) (r + 1 + 1 + 1) 74 i0 (.agg #[.string ⟨#[]⟩, .string ⟨#[]⟩]) 2 32 Tryz.underlying24 hi hz0 hz1 hz2 rfl (by omega) (.slice oz P.length cz) P.length (flatF P) (by rfl) HOA.out ⟨wr.heap.size, 0, none⟩ 1 1 [.string x, .string y] (by rfl) (by rfl) hnews (by simp [Value.oneCell']) (by omega) h63 h47 HSA.out (wr.heap.size + 1) (by simp) ?_
     intro g4 cap4 w4 hown4 hgrow4 _ _
     obtain ⟨hS4, hS5, ⟨q5, hq5⟩, f5, hM⟩ := HMORE.out w4 g4 cap4 hgrow4 hown4
     have HM : Hid (ShSt w r st (.slice (some ⟨g, 0, none⟩) n cap) b (.slice (some ⟨g4, 0, none⟩) (P.length + 1) cap4) (P ++ [(x, y)]) (w4.setCell ⟨r + 1 + 1, 1, none⟩ (.slice (some ⟨g4, 0, none⟩) (P.length + 1) cap4))) := hM
     clear hown4 hgrow4 hM HMORE
     simp only [Act.put, List.setIfInBounds_toArray]
     refine hK.out _ _ hS4 (fun _ => ?_)
     clear hK K
     refine tkP 9 (.pointer (some ⟨r + 1 + 1, 1, none⟩)) 39 rfl rfl hS4 ?_
     simp only [Act.put]
     refine rd1 10 rfl (fun K hK => ?_)
     go_simp
     refine hK.out _ _ hS5 (fun _ => ?_)
     clear hK K hq5 f5 hS4 hS5 hS0 hSA t1 n1 n2 u1 c1a c1b hnews
     refine wpAnyH_done (by kernel_rfl) ?_ _
     go_wp2_with fail
     go_roundw
     case rel => exact ⟨j + 1, _, P ++ [(x, y)], by omega, by go_num, HM, HP2⟩
     case measure => simp [intOf]; omega
   ·
    have t0 : (x.toList == tagName.toList) = false := text_beq_no h1
    rw [tag_list] at t0
    by_cases h2 : x = varyName
    ·
     have t2 : (x.toList == varyName.toList) = true := (text_beq _ _).2 h2
     rw [vary_list] at t2
     have HYES : Hid ((x, y).1 = tagName ∨ (x, y).1 = varyName ∨ (x, y).1 = ccName) := .inr (.inl h2)
     clear h1 h2
     have HP2 : Hid (P ++ [(x, y)] = shortF (gs.take (j + 1))) := by show _ = _; rw [HTK.out, shortF_snoc, if_pos HYES.out, ← HP.out]
     have h63 : P.length + 1 ≤ maxLen := by have := HPL.out; unfold maxLen; omega
     have h47 : (P.length + 1) * 32 ≤ 140737488355328 := by have := HPL.out; omega
     obtain ⟨⟨_, u1, _⟩, _⟩ := three_facts HS.out.q2
     have HOA : Hid ((wr.drew.alloc (.cells #[.string x, .string y] 74)).ownsRow (r + 1 + 1 + 1) 74 2 (.slice oz P.length cz) P.length (flatF P)) := ((HS.out.below (Below.refl _ _).drew).own).alloc _
     have HSA : Hid (r + 1 + 1 + 1 ≤ (wr.drew.alloc (.cells #[.string x, .string y] 74)).heap.size) := by show _ ≤ _; have := HS.out.size; simp; omega
     have hsz := HS.out.size
     have hgw : g < wr.heap.size := by omega
     have hSA : (wr.drew.alloc (.cells #[.string x, .string y] 74)).cell? ⟨r, 1, none⟩ = some (.slice (some ⟨g, 0, none⟩) n cap) ∧ (wr.drew.alloc (.cells #[.string x, .string y] 74)).cell? ⟨g, j * 2, none⟩ = some (.string x) ∧ (wr.drew.alloc (.cells #[.string x, .string y] 74)).cell? ⟨g, j * 2 + 1, none⟩ = some (.string y) := by
      have b0 : Below wr.heap.size wr (wr.drew.alloc (.cells #[.string x, .string y] 74)) := (Below.refl _ wr).drew.alloc (Nat.le_refl _) _
      exact ⟨(b0.cell (p := ⟨r, 1, none⟩) (by show r < _; omega)).trans t1, (b0.cell (p := ⟨g, j * 2, none⟩) hgw).trans n1, (b0.cell (p := ⟨g, j * 2 + 1, none⟩) hgw).trans n2⟩
     have c1a : (wr.drew.alloc (.cells #[.string x, .string y] 74)).cell? ⟨r + 1 + 1, 1, none⟩ = some (.slice oz P.length cz) := by
      have b0 : Below wr.heap.size wr (wr.drew.alloc (.cells #[.string x, .string y] 74)) := (Below.refl _ wr).drew.alloc (Nat.le_refl _) _
      exact (b0.cell (p := ⟨r + 1 + 1, 1, none⟩) (by show r + 1 + 1 < _; omega)).trans u1
     have c1b : (wr.alloc (.cells #[.string x, .string y] 74)).cell? ⟨r + 1 + 1, 1, none⟩ = some (.slice oz P.length cz) := c1a
     have hnews : ∀ i v, [Value.string x, .string y][i]? = some v → (wr.drew.alloc (.cells #[.string x, .string y] 74)).cell? ((⟨wr.heap.size, 0, none⟩ : Addr).add i) = some v := World.news_of_block (heap_alloc_new wr.drew _)
     have HMORE : Hid (∀ W4 g4 cap4, (wr.drew.alloc (.cells #[.string x, .string y] 74)).grownBy W4 (Value.slice oz P.length cz).ownBlock → W4.ownsRow (r + 1 + 1 + 1) 74 2 (.slice (some ⟨g4, 0, none⟩) (P.length + 1) cap4) (P.length + 1) (flatF P ++ [.string x, .string y]) →
       (W4.cell? ⟨r, 1, none⟩ = some (.slice (some ⟨g, 0, none⟩) n cap) ∧ W4.cell? ⟨g, j * 2, none⟩ = some (.string x) ∧ W4.cell? ⟨g, j * 2 + 1, none⟩ = some (.string y)) ∧ ((W4.setCell ⟨r + 1 + 1, 1, none⟩ (.slice (some ⟨g4, 0, none⟩) (P.length + 1) cap4)).cell? ⟨r, 1, none⟩ = some (.slice (some ⟨g, 0, none⟩) n cap) ∧ (W4.setCell ⟨r + 1 + 1, 1, none⟩ (.slice (some ⟨g4, 0, none⟩) (P.length + 1) cap4)).cell? ⟨g, j * 2, none⟩ = some (.string x) ∧ (W4.setCell ⟨r + 1 + 1, 1, none⟩ (.slice (some ⟨g4, 0, none⟩) (P.length + 1) cap4)).cell? ⟨g, j * 2 + 1, none⟩ = some (.string y)) ∧ (∃ q, W4.cell? ⟨r + 1 + 1, 1, none⟩ = some q) ∧ W4.frozen? ⟨r + 1 + 1, 1, none⟩ = false ∧
       ShSt w r st (.slice (some ⟨g, 0, none⟩) n cap) b (.slice (some ⟨g4, 0, none⟩) (P.length + 1) cap4) (P ++ [(x, y)]) (W4.setCell ⟨r + 1 + 1, 1, none⟩ (.slice (some ⟨g4, 0, none⟩) (P.length + 1) cap4))) := by
      intro W4 g4 cap4 hg4 ho4
      have b0 : Below wr.heap.size wr (wr.drew.alloc (.cells #[.string x, .string y] 74)) := (Below.refl _ wr).drew.alloc (Nat.le_refl _) _
      have h1 := HS.out.below b0
      have bg : Below (r + 1 + 1 + 1) (wr.drew.alloc (.cells #[.string x, .string y] 74)) W4 := below_grownO hg4 HSA.out (fun q hq => owns_ge HOA.out hq)
      have e0 := (bg.block r (by omega)).trans h1.q0
      have e1 := (bg.block (r + 1) (by omega)).trans h1.q1
      have e2 := (bg.block (r + 1 + 1) (by omega)).trans h1.q2
      obtain ⟨⟨_, a1, _⟩, _⟩ := three_facts e0
      obtain ⟨⟨_, a2, _⟩, _, a3, _⟩ := three_facts e2
      have m1 : W4.cell? ⟨g, j * 2, none⟩ = some (.string x) := (bg.cell (p := ⟨g, j * 2, none⟩) (by show g < _; omega)).trans hSA.2.1
      have m2 : W4.cell? ⟨g, j * 2 + 1, none⟩ = some (.string y) := (bg.cell (p := ⟨g, j * 2 + 1, none⟩) (by show g < _; omega)).trans hSA.2.2
      refine ⟨⟨a1, m1, m2⟩, ⟨by rw [cell_set_other _ _ _ _ _ _ (by omega)]; exact a1, by rw [cell_set_other _ _ _ _ _ _ (by omega)]; exact m1, by rw [cell_set_other _ _ _ _ _ _ (by omega)]; exact m2⟩, ⟨_, a2⟩, a3, ⟨by rw [heap_setCell_other _ _ r _ (by show r ≠ r + 1 + 1; omega)]; exact e0, by rw [heap_setCell_other _ _ (r + 1) _ (by show r + 1 ≠ r + 1 + 1; omega)]; exact e1, ?_, ?_, (h1.low.trans (bg.mono (by omega))).setCell (by show r ≤ r + 1 + 1; omega) _⟩⟩
      ·
       have := heap_set W4 (r + 1 + 1) 1 _ _ _ (.slice (some ⟨g4, 0, none⟩) (P.length + 1) cap4) e2
       simpa using this
      ·
       rw [List.length_append, flatF_append, flatF_one]
       refine owns_same ho4 (fun q hq => heap_setCell_other _ _ q _ ?_)
       have := owns_ge ho4 hq
       show q ≠ r + 1 + 1
       omega
     clear HS HP HTK HYES hgw hsz
     go_upto_region 7 with fail
     refine wp_region_held_drew (S := fun W => W.cell? ⟨r, 1, none⟩ = some (.slice (some ⟨g, 0, none⟩) n cap) ∧ W.cell? ⟨g, j * 2, none⟩ = some (.string x) ∧ W.cell? ⟨g, j * 2 + 1, none⟩ = some (.string y)) (by kernel_rfl) ⟨t1, n1, n2⟩ (fun hS0 => ?_)
     refine tkP 0 (.pointer (some ⟨r + 1 + 1, 1, none⟩)) 30 rfl rfl hS0 ?_
     go_frame
     refine tkP 2 (.pointer (some ⟨r, 1, none⟩)) 32 rfl rfl hS0 ?_
     go_frame
     refine tkL 3 (.slice (some ⟨g, 0, none⟩) n cap) 33 rfl rfl (Or.inl ⟨by rfl, by intro W hW; obtain ⟨h1, h2, h3⟩ := hW; go_simp⟩) hS0 ?_
     go_frame
     refine tkP 4 (.int .i64 (j : Int)) 34 rfl rfl hS0 ?_
     go_frame
     refine tkP 5 (.pointer (some ⟨g, j * 2, none⟩)) 35 rfl rfl hS0 ?_
     go_frame
     refine tkL 6 (.agg #[.string x, .string y]) 36 rfl rfl (Or.inl ⟨by rfl, by intro W hW; obtain ⟨h1, h2, h3⟩ := hW; go_simp⟩) hS0 ?_
     go_frame
     refine wpAnyH_ready (rs := [1, 7]) (by kernel_rfl) (by simp) ?_
     refine AllReadyH.cons rfl (fun K hK => ?_) (AllReadyH.cons rfl (fun K hK => ?_) AllReadyH.nil)
     ·
      go_simp
      refine hK.out _ _ hS0 (fun _ => ?_)
      clear hK K
      refine rd1 7 rfl (fun K hK => ?_)
      go_simp
      refine hK.out _ _ hSA (fun _ => ?_)
      clear hK K
      refine rd1 8 rfl (fun K hK => ?_)
      refine step_append_lies _ (by rfl) _ _ _ (by rfl) (r + 1 + 1 + 1) 74 i0 (.agg #[.string ⟨#[]⟩, .string ⟨#[]⟩]) 2 32 Tryz.underlying24 hi hz0 hz1 hz2 rfl (by omega) (.slice oz P.length cz) P.length (flatF P) (by rfl) HOA.out ⟨wr.heap.size, 0, none⟩ 1 1 [.string x, .string y] (by rfl) (by rfl) hnews (by simp [Value.oneCell']) (by omega) h63 h47 HSA.out (wr.heap.size + 1) (by simp) ?_
      intro g4 cap4 w4 hown4 hgrow4 _ _
      obtain ⟨hS4, hS5, ⟨q5, hq5⟩, f5, hM⟩ := HMORE.out w4 g4 cap4 hgrow4 hown4
      have HM : Hid (ShSt w r st (.slice (some ⟨g, 0, none⟩) n cap) b (.slice (some ⟨g4, 0, none⟩) (P.length + 1) cap4) (P ++ [(x, y)]) (w4.setCell ⟨r + 1 + 1, 1, none⟩ (.slice (some ⟨g4, 0, none⟩) (P.length + 1) cap4))) := hM
      clear hown4 hgrow4 hM HMORE
      simp only [Act.put, List.setIfInBounds_toArray]
      refine hK.out _ _ hS4 (fun _ => ?_)
      clear hK K
      refine tkP 9 (.pointer (some ⟨r + 1 + 1, 1, none⟩)) 39 rfl rfl hS4 ?_
      simp only [Act.put]
      refine rd1 10 rfl (fun K hK => ?_)
      go_simp
      refine hK.out _ _ hS5 (fun _ => ?_)
      clear hK K hq5 f5 hS4 hS5 hS0 hSA t1 n1 n2 u1 c1a c1b hnews
      refine wpAnyH_done (by kernel_rfl) ?_ _
      go_wp2_with fail
      go_roundw
      case rel => exact ⟨j + 1, _, P ++ [(x, y)], by omega, by go_num, HM, HP2⟩
      case measure => simp [intOf]; omega
     ·
      go_simp
      refine hK.out _ _ hSA (fun _ => ?_)
      clear hK K
      refine rd1 1 rfl (fun K hK => ?_)
      go_simp
      refine hK.out _ _ hSA (fun _ => ?_)
      clear hK K
      refine rd1 8 rfl (fun K hK => ?_)
      refine step_append_lies _ (by rfl) _ _ _ (by rfl) (r + 1 + 1 + 1) 74 i0 (.agg #[.string ⟨#[]⟩, .string ⟨#[]⟩]) 2 32 Tryz.underlying24 hi hz0 hz1 hz2 rfl (by omega) (.slice oz P.length cz) P.length (flatF P) (by rfl) HOA.out ⟨wr.heap.size, 0, none⟩ 1 1 [.string x, .string y] (by rfl) (by rfl) hnews (by simp [Value.oneCell']) (by omega) h63 h47 HSA.out (wr.heap.size + 1) (by simp) ?_
      intro g4 cap4 w4 hown4 hgrow4 _ _
      obtain ⟨hS4, hS5, ⟨q5, hq5⟩, f5, hM⟩ := HMORE.out w4 g4 cap4 hgrow4 hown4
      have HM : Hid (ShSt w r st (.slice (some ⟨g, 0, none⟩) n cap) b (.slice (some ⟨g4, 0, none⟩) (P.length + 1) cap4) (P ++ [(x, y)]) (w4.setCell ⟨r + 1 + 1, 1, none⟩ (.slice (some ⟨g4, 0, none⟩) (P.length + 1) cap4))) := hM
      clear hown4 hgrow4 hM HMORE
      simp only [Act.put, List.setIfInBounds_toArray]
      refine hK.out _ _ hS4 (fun _ => ?_)
      clear hK K
      refine tkP 9 (.pointer (some ⟨r + 1 + 1, 1, none⟩)) 39 rfl rfl hS4 ?_
      simp only [Act.put]
      refine rd1 10 rfl (fun K hK => ?_)
      go_simp
      refine hK.out _ _ hS5 (fun _ => ?_)
      clear hK K hq5 f5 hS4 hS5 hS0 hSA t1 n1 n2 u1 c1a c1b hnews
      refine wpAnyH_done (by kernel_rfl) ?_ _
      go_wp2_with fail
      go_roundw
      case rel => exact ⟨j + 1, _, P ++ [(x, y)], by omega, by go_num, HM, HP2⟩
      case measure => simp [intOf]; omega
    ·
     have t2 : (x.toList == varyName.toList) = false := text_beq_no h2
     rw [vary_list] at t2
     by_cases h3 : x = ccName
     ·
      have t3 : (x.toList == ccName.toList) = true := (text_beq _ _).2 h3
      rw [ccN_list] at t3
      have HYES : Hid ((x, y).1 = tagName ∨ (x, y).1 = varyName ∨ (x, y).1 = ccName) := .inr (.inr h3)
      clear h1 h2 h3
      have HP2 : Hid (P ++ [(x, y)] = shortF (gs.take (j + 1))) := by show _ = _; rw [HTK.out, shortF_snoc, if_pos HYES.out, ← HP.out]
      have h63 : P.length + 1 ≤ maxLen := by have := HPL.out; unfold maxLen; omega
      have h47 : (P.length + 1) * 32 ≤ 140737488355328 := by have := HPL.out; omega
      obtain ⟨⟨_, u1, _⟩, _⟩ := three_facts HS.out.q2
      have HOA : Hid ((wr.drew.alloc (.cells #[.string x, .string y] 74)).ownsRow (r + 1 + 1 + 1) 74 2 (.slice oz P.length cz) P.length (flatF P)) := ((HS.out.below (Below.refl _ _).drew).own).alloc _
      have HSA : Hid (r + 1 + 1 + 1 ≤ (wr.drew.alloc (.cells #[.string x, .string y] 74)).heap.size) := by show _ ≤ _; have := HS.out.size; simp; omega
      have hsz := HS.out.size
      have hgw : g < wr.heap.size := by omega
      have hSA : (wr.drew.alloc (.cells #[.string x, .string y] 74)).cell? ⟨r, 1, none⟩ = some (.slice (some ⟨g, 0, none⟩) n cap) ∧ (wr.drew.alloc (.cells #[.string x, .string y] 74)).cell? ⟨g, j * 2, none⟩ = some (.string x) ∧ (wr.drew.alloc (.cells #[.string x, .string y] 74)).cell? ⟨g, j * 2 + 1, none⟩ = some (.string y) := by
       have b0 : Below wr.heap.size wr (wr.drew.alloc (.cells #[.string x, .string y] 74)) := (Below.refl _ wr).drew.alloc (Nat.le_refl _) _
       exact ⟨(b0.cell (p := ⟨r, 1, none⟩) (by show r < _; omega)).trans t1, (b0.cell (p := ⟨g, j * 2, none⟩) hgw).trans n1, (b0.cell (p := ⟨g, j * 2 + 1, none⟩) hgw).trans n2⟩
      have c1a : (wr.drew.alloc (.cells #[.string x, .string y] 74)).cell? ⟨r + 1 + 1, 1, none⟩ = some (.slice oz P.length cz) := by
       have b0 : Below wr.heap.size wr (wr.drew.alloc (.cells #[.string x, .string y] 74)) := (Below.refl _ wr).drew.alloc (Nat.le_refl _) _
       exact (b0.cell (p := ⟨r + 1 + 1, 1, none⟩) (by show r + 1 + 1 < _; omega)).trans u1
      have c1b : (wr.alloc (.cells #[.string x, .string y] 74)).cell? ⟨r + 1 + 1, 1, none⟩ = some (.slice oz P.length cz) := c1a
      have hnews : ∀ i v, [Value.string x, .string y][i]? = some v → (wr.drew.alloc (.cells #[.string x, .string y] 74)).cell? ((⟨wr.heap.size, 0, none⟩ : Addr).add i) = some v := World.news_of_block (heap_alloc_new wr.drew _)
      have HMORE : Hid (∀ W4 g4 cap4, (wr.drew.alloc (.cells #[.string x, .string y] 74)).grownBy W4 (Value.slice oz P.length cz).ownBlock → W4.ownsRow (r + 1 + 1 + 1) 74 2 (.slice (some ⟨g4, 0, none⟩) (P.length + 1) cap4) (P.length + 1) (flatF P ++ [.string x, .string y]) →
        (W4.cell? ⟨r, 1, none⟩ = some (.slice (some ⟨g, 0, none⟩) n cap) ∧ W4.cell? ⟨g, j * 2, none⟩ = some (.string x) ∧ W4.cell? ⟨g, j * 2 + 1, none⟩ = some (.string y)) ∧ ((W4.setCell ⟨r + 1 + 1, 1, none⟩ (.slice (some ⟨g4, 0, none⟩) (P.length + 1) cap4)).cell? ⟨r, 1, none⟩ = some (.slice (some ⟨g, 0, none⟩) n cap) ∧ (W4.setCell ⟨r + 1 + 1, 1, none⟩ (.slice (some ⟨g4, 0, none⟩) (P.length + 1) cap4)).cell? ⟨g, j * 2, none⟩ = some (.string x) ∧ (W4.setCell ⟨r + 1 + 1, 1, none⟩ (.slice (some ⟨g4, 0, none⟩) (P.length + 1) cap4)).cell? ⟨g, j * 2 + 1, none⟩ = some (.string y)) ∧ (∃ q, W4.cell? ⟨r + 1 + 1, 1, none⟩ = some q) ∧ W4.frozen? ⟨r + 1 + 1, 1, none⟩ = false ∧
        ShSt w r st (.slice (some ⟨g, 0, none⟩) n cap) b (.slice (some ⟨g4, 0, none⟩) (P.length + 1) cap4) (P ++ [(x, y)]) (W4.setCell ⟨r + 1 + 1, 1, none⟩ (.slice (some ⟨g4, 0, none⟩) (P.length + 1) cap4))) := by
       intro W4 g4 cap4 hg4 ho4
       have b0 : Below wr.heap.size wr (wr.drew.alloc (.cells #[.string x, .string y] 74)) := (Below.refl _ wr).drew.alloc (Nat.le_refl _) _
       have h1 := HS.out.below b0
       have bg : Below (r + 1 + 1 + 1) (wr.drew.alloc (.cells #[.string x, .string y] 74)) W4 := below_grownO hg4 HSA.out (fun q hq => owns_ge HOA.out hq)
       have e0 := (bg.block r (by omega)).trans h1.q0
       have e1 := (bg.block (r + 1) (by omega)).trans h1.q1
       have e2 := (bg.block (r + 1 + 1) (by omega)).trans h1.q2
       obtain ⟨⟨_, a1, _⟩, _⟩ := three_facts e0
       obtain ⟨⟨_, a2, _⟩, _, a3, _⟩ := three_facts e2
       have m1 : W4.cell? ⟨g, j * 2, none⟩ = some (.string x) := (bg.cell (p := ⟨g, j * 2, none⟩) (by show g < _; omega)).trans hSA.2.1
       have m2 : W4.cell? ⟨g, j * 2 + 1, none⟩ = some (.string y) := (bg.cell (p := ⟨g, j * 2 + 1, none⟩) (by show g < _; omega)).trans hSA.2.2
       refine ⟨⟨a1, m1, m2⟩, ⟨by rw [cell_set_other _ _ _ _ _ _ (by omega)]; exact a1, by rw [cell_set_other _ _ _ _ _ _ (by omega)]; exact m1, by rw [cell_set_other _ _ _ _ _ _ (by omega)]; exact m2⟩, ⟨_, a2⟩, a3, ⟨by rw [heap_setCell_other _ _ r _ (by show r ≠ r + 1 + 1; omega)]; exact e0, by rw [heap_setCell_other _ _ (r + 1) _ (by show r + 1 ≠ r + 1 + 1; omega)]; exact e1, ?_, ?_, (h1.low.trans (bg.mono (by omega))).setCell (by show r ≤ r + 1 + 1; omega) _⟩⟩
       ·
        have := heap_set W4 (r + 1 + 1) 1 _ _ _ (.slice (some ⟨g4, 0, none⟩) (P.length + 1) cap4) e2
        simpa using this
       ·
        rw [List.length_append, flatF_append, flatF_one]
        refine owns_same ho4 (fun q hq => heap_setCell_other _ _ q _ ?_)
        have := owns_ge ho4 hq
        show q ≠ r + 1 + 1
        omega
      clear HS HP HTK HYES hgw hsz
      go_upto_region 7 with fail
      refine wp_region_held_drew (S := fun W => W.cell? ⟨r, 1, none⟩ = some (.slice (some ⟨g, 0, none⟩) n cap) ∧ W.cell? ⟨g, j * 2, none⟩ = some (.string x) ∧ W.cell? ⟨g, j * 2 + 1, none⟩ = some (.string y)) (by kernel_rfl) ⟨t1, n1, n2⟩ (fun hS0 => ?_)
      refine tkP 0 (.pointer (some ⟨r + 1 + 1, 1, none⟩)) 30 rfl rfl hS0 ?_
      go_frame
      refine tkP 2 (.pointer (some ⟨r, 1, none⟩)) 32 rfl rfl hS0 ?_
      go_frame
      refine tkL 3 (.slice (some ⟨g, 0, none⟩) n cap) 33 rfl rfl (Or.inl ⟨by rfl, by intro W hW; obtain ⟨h1, h2, h3⟩ := hW; go_simp⟩) hS0 ?_
      go_frame
      refine tkP 4 (.int .i64 (j : Int)) 34 rfl rfl hS0 ?_
      go_frame
      refine tkP 5 (.pointer (some ⟨g, j * 2, none⟩)) 35 rfl rfl hS0 ?_
      go_frame
      refine tkL 6 (.agg #[.string x, .string y]) 36 rfl rfl (Or.inl ⟨by rfl, by intro W hW; obtain ⟨h1, h2, h3⟩ := hW; go_simp⟩) hS0 ?_
      go_frame
      refine wpAnyH_ready (rs := [1, 7]) (by kernel_rfl) (by simp) ?_
      refine AllReadyH.cons rfl (fun K hK => ?_) (AllReadyH.cons rfl (fun K hK => ?_) AllReadyH.nil)
      ·
       go_simp
       refine hK.out _ _ hS0 (fun _ => ?_)
       clear hK K
       refine rd1 7 rfl (fun K hK => ?_)
       go_simp
       refine hK.out _ _ hSA (fun _ => ?_)
       clear hK K
       refine rd1 8 rfl (fun K hK => ?_)
       refine step_append_lies _ (by rfl) _ _ _ (by rfl) (r + 1 + 1 + 1) 74 i0 (.agg #[.string ⟨#[]⟩, .string ⟨#[]⟩]) 2 32 Tryz.underlying24 hi hz0 hz1 hz2 rfl (by omega) (.slice oz P.length cz) P.length (flatF P) (by rfl) HOA.out ⟨wr.heap.size, 0, none⟩ 1 1 [.string x, .string y] (by rfl) (by rfl) hnews (by simp [Value.oneCell']) (by omega) h63 h47 HSA.out (wr.heap.size + 1) (by simp) ?_
       intro g4 cap4 w4 hown4 hgrow4 _ _
       obtain ⟨hS4, hS5, ⟨q5, hq5⟩, f5, hM⟩ := HMORE.out w4 g4 cap4 hgrow4 hown4
       have HM : Hid (ShSt w r st (.slice (some ⟨g, 0, none⟩) n cap) b (.slice (some ⟨g4, 0, none⟩) (P.length + 1) cap4) (P ++ [(x, y)]) (w4.setCell ⟨r + 1 + 1, 1, none⟩ (.slice (some ⟨g4, 0, none⟩) (P.length + 1) cap4))) := hM
       clear hown4 hgrow4 hM HMORE
       simp only [Act.put, List.setIfInBounds_toArray]
       refine hK.out _ _ hS4 (fun _ => ?_)
       clear hK K
       refine tkP 9 (.pointer (some ⟨r + 1 + 1, 1, none⟩)) 39 rfl rfl hS4 ?_
       simp only [Act.put]
       refine rd1 10 rfl (fun K hK => ?_)
       go_simp
       refine hK.out _ _ hS5 (fun _ => ?_)
       clear hK K hq5 f5 hS4 hS5 hS0 hSA t1 n1 n2 u1 c1a c1b hnews
       refine wpAnyH_done (by kernel_rfl) ?_ _
       go_wp2_with fail
       go_roundw
       case rel => exact ⟨j + 1, _, P ++ [(x, y)], by omega, by go_num, HM, HP2⟩
       case measure => simp [intOf]; omega
      ·
       go_simp
       refine hK.out _ _ hSA (fun _ => ?_)
       clear hK K
       refine rd1 1 rfl (fun K hK => ?_)
       go_simp
       refine hK.out _ _ hSA (fun _ => ?_)
       clear hK K
       refine rd1 8 rfl (fun K hK => ?_)
       refine step_append_lies _ (by rfl) _ _ _ (by rfl) (r + 1 + 1 + 1) 74 i0 (.agg #[.string ⟨#[]⟩, .string ⟨#[]⟩]) 2 32 Tryz.underlying24 hi hz0 hz1 hz2 rfl (by omega) (.slice oz P.length cz) P.length (flatF P) (by rfl) HOA.out ⟨wr.heap.size, 0, none⟩ 1 1 [.string x, .string y] (by rfl) (by rfl) hnews (by simp [Value.oneCell']) (by omega) h63 h47 HSA.out (wr.heap.size + 1) (by simp) ?_
       intro g4 cap4 w4 hown4 hgrow4 _ _
       obtain ⟨hS4, hS5, ⟨q5, hq5⟩, f5, hM⟩ := HMORE.out w4 g4 cap4 hgrow4 hown4
       have HM : Hid (ShSt w r st (.slice (some ⟨g, 0, none⟩) n cap) b (.slice (some ⟨g4, 0, none⟩) (P.length + 1) cap4) (P ++ [(x, y)]) (w4.setCell ⟨r + 1 + 1, 1, none⟩ (.slice (some ⟨g4, 0, none⟩) (P.length + 1) cap4))) := hM
       clear hown4 hgrow4 hM HMORE
       simp only [Act.put, List.setIfInBounds_toArray]
       refine hK.out _ _ hS4 (fun _ => ?_)
       clear hK K
       refine tkP 9 (.pointer (some ⟨r + 1 + 1, 1, none⟩)) 39 rfl rfl hS4 ?_
       simp only [Act.put]
       refine rd1 10 rfl (fun K hK => ?_)
       go_simp
       refine hK.out _ _ hS5 (fun _ => ?_)
       clear hK K hq5 f5 hS4 hS5 hS0 hSA t1 n1 n2 u1 c1a c1b hnews
       refine wpAnyH_done (by kernel_rfl) ?_ _
       go_wp2_with fail
       go_roundw
       case rel => exact ⟨j + 1, _, P ++ [(x, y)], by omega, by go_num, HM, HP2⟩
       case measure => simp [intOf]; omega
     ·
      have t3 : (x.toList == ccName.toList) = false := text_beq_no h3
      rw [ccN_list] at t3
      have HNOT : Hid (¬ ((x, y).1 = tagName ∨ (x, y).1 = varyName ∨ (x, y).1 = ccName)) := fun h => by
       rcases h with h | h | h
       · exact h1 h
       · exact h2 h
       · exact h3 h
      clear h1 h2 h3
      have HS2 : Hid (ShSt w r st (.slice (some ⟨g, 0, none⟩) n cap) b (.slice oz P.length cz) P wr) := HS.out
      have HP2 : Hid (P = shortF (gs.take (j + 1))) := by show _ = _; rw [HTK.out, shortF_snoc, if_neg HNOT.out]; exact HP.out
      clear HP HTK HNOT
      go_wp2_with fail
      go_roundw
      case rel => exact ⟨j + 1, _, P, by omega, by go_num, HS2, HP2⟩
      case measure => simp [intOf]; omega
  ·
   have hjn : j = n := by omega
   have HPE : Hid (P = shortF gs) := by
    have h := HP.out
    rw [List.take_of_length_le (by rw [HLB.out]; omega)] at h
    exact h
   obtain ⟨⟨u0, u1, u2⟩, _⟩ := three_facts HS.out.q2
   obtain ⟨⟨e0, e1, e2⟩, g0, g1, g2⟩ := three_facts HS.out.q1
   have hset := three_set HS.out.q1 (.int .i64 304) (.slice oz P.length cz) (.string ⟨#[]⟩)
   obtain ⟨⟨k0, k1, k2⟩, _⟩ := three_facts hset
   have HFB : Hid (Below r w (threeSet wr (r + 1) (.int .i64 304) (.slice oz P.length cz) (.string ⟨#[]⟩))) := below_three HS.out.low (by omega)
   have HFO : Hid ((threeSet wr (r + 1) (.int .i64 304) (.slice oz P.length cz) (.string ⟨#[]⟩)).ownsRow r 74 2 (.slice oz P.length cz) (shortF gs).length (flatF (shortF gs))) := by
    show World.ownsRow _ _ _ _ _ _ _
    rw [← HPE.out]
    refine owns_same (owns_wide HS.out.own (by omega)) (fun q hq => ?_)
    have hq2 := owns_ge HS.out.own hq
    rw [three_other _ _ q _ _ _ (by omega)]
   unfold threeSet at k0 k1 k2 HFB HFO
   clear hset HS HP HPE
   go_wp2_with fail
   refine bodyPost_ret (v := .agg #[.int .i64 304, .slice oz P.length cz, .string ⟨#[]⟩]) (by simp [results, Tryz.results46, go_sem, k0, k1, k2]) rfl ?_
   exact ⟨_, rfl, by rw [HR.out]; exact HFO.out, by rw [HR.out]; exact HFB.out⟩
end Go.Proofs.YtmcmeeibogkpaaaGreatDoorR
