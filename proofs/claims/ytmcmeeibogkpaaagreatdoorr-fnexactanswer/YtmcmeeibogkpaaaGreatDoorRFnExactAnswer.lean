/- Answer: at every argument the program answers as the specification (the law answers true), it writes into no argument, and its answer owns its memory: no condition. The card lists the tables that strconv.Itoa's text names. -/
import Derived.Test.YtmcmeeibogkpaaaGreatDoorRFnExactAnswerC
import Derived.Test.YtmcmeeibogkpaaaGreatDoorRTie
import Derived.Test.YtmcmeeibogkpaaaGreatDoorRCards
import Derived.Below
import Derived.ChangeOld
import Derived.ShutString
import Derived.Deep.RegionHeld3
import Derived.Deep.DrawnRows
import Derived.Deep.CutRange
import Derived.Deep.DeepCutAuto
namespace Go.Proofs.YtmcmeeibogkpaaaGreatDoorR
namespace fnExactAnswer
open Go.ChangeShapes Go.WideShapes Go.ChangeAt Go.RowKit
open Go.ChangeMaps (open_string shut_string)
attribute [local go_sem ↓] Go.wp_at_zero Go.wp_at_succ

theorem own : ownKnob Tryz.prog.godebug = none := by kernel_rfl
theorem laidOut : laidOutB Tryz.prog = true := by kernel_rfl
theorem argUpA {w : World} {B B' : Nat} {a : Option Addr} {n : Nat} {fs : List (ByteArray × ByteArray)} (h : ArgF w B a n fs) (hB : B ≤ B') : ArgF w B' a n fs :=
  ⟨h.len, fun i hi => by
    obtain ⟨b, off, h1, h2, h3⟩ := h.get i hi
    exact ⟨b, off, h1, Nat.lt_of_lt_of_le h2 hB, h3⟩⟩

open Go.Lib hiding intOf
set_option maxHeartbeats 16000000 in
set_option maxRecDepth 100000 in
theorem walk1 (w : World) (m : Int) (p : ByteArray) (a : Option Addr) (n cap : Nat) (b : ByteArray) (fs : List (ByteArray × ByteArray)) (h1 : ArgF w w.heap.size a n fs) (hn1 : n ≤ maxLen) (hs1 : WalkF n fs) (hp : p.size ≤ maxLen) (hb : b.size ≤ maxLen) (op : ByteArray) (a1 : Option Addr) (n1 c1 : Nat) (xs : List ByteArray) (a2 : Option Addr) (n2 c2 : Nat) (ys : List ByteArray) (st : Int) (a3 : Option Addr) (k c3 : Nat) (gs : List (ByteArray × ByteArray)) (d : ByteArray) (t : Int) (g1 : ArgT w w.heap.size a1 n1 xs) (g2 : ArgT w w.heap.size a2 n2 ys) (g3 : ArgF w w.heap.size a3 k gs) (gn1 : n1 ≤ maxLen) (gn2 : n2 ≤ maxLen) (gn3 : k ≤ maxLen) (gs1 : ∀ i, i < n1 → (textAt xs i).size ≤ maxLen) (gs2 : ∀ i, i < n2 → (textAt ys i).size ≤ maxLen) (gs3 : WalkF k gs) (gp : op.size ≤ maxLen) (gx : d.size ≤ maxLen) (ht0 : -9223372036854775808 ≤ t) (_ht1 : t ≤ 9223372036854775807) (now : Int) (_hw0 : -9223372036854775808 ≤ now) (hw1 : now ≤ 9223372036854775807) (hT : TabOk w) :
    Calls Tryz.prog 4 #[.agg #[.int .i64 m, .string p, .slice a n cap, .string b], .agg #[.string op, .slice a1 n1 c1, .slice a2 n2 c2, .int .i64 st, .slice a3 k c3, .string d, .int .i64 t], .int .i64 now] w fun e w' => e = .returned (.bool true) ∧ Below w.heap.size w w' := by
  have HA1 : Hid (∀ W, Below w.heap.size w W → ArgF W w.heap.size a n fs) := fun W h => h1.below h
  have HL1 : Hid (fs.length = n) := h1.len
  have HN1 : Hid (n ≤ maxLen) := hn1
  have HS1 : Hid (WalkF n fs) := hs1
  have HPM : Hid (p.size ≤ maxLen) := hp
  have HBM : Hid (b.size ≤ maxLen) := hb
  have HX1 : Hid (∀ W, Below w.heap.size w W → ArgT W w.heap.size a1 n1 xs) := fun W h => g1.below h
  have HX2 : Hid (∀ W, Below w.heap.size w W → ArgT W w.heap.size a2 n2 ys) := fun W h => g2.below h
  have HX3 : Hid (∀ W, Below w.heap.size w W → ArgF W w.heap.size a3 k gs) := fun W h => g3.below h
  have HL3 : Hid (gs.length = k) := g3.len
  have HGN : Hid (n1 ≤ maxLen ∧ n2 ≤ maxLen ∧ k ≤ maxLen) := ⟨gn1, gn2, gn3⟩
  have HT1 : Hid (∀ i, i < n1 → (textAt xs i).size ≤ maxLen) := gs1
  have HT2 : Hid (∀ i, i < n2 → (textAt ys i).size ≤ maxLen) := gs2
  have HS3 : Hid (WalkF k gs) := gs3
  have HOP : Hid (op.size ≤ maxLen) := gp
  have HDM : Hid (d.size ≤ maxLen) := gx
  have HTT : Hid (-9223372036854775808 ≤ t ∧ now ≤ 9223372036854775807) := ⟨ht0, hw1⟩
  have HT : Hid (∀ W, Below w.heap.size w W → TabOk W) := fun W h => hT.below h
  obtain ⟨rs, hrs⟩ : ∃ x, x = ansS fs gs st := ⟨_, rfl⟩
  obtain ⟨rb, hrb⟩ : ∃ x, x = ansB fs gs d := ⟨_, rfl⟩
  obtain ⟨P, hP⟩ : ∃ x, x = ansF fs gs st d t now := ⟨_, rfl⟩
  obtain ⟨np, hnp⟩ : ∃ x, x = P.length := ⟨_, rfl⟩
  have HRS : Hid (rs = ansS fs gs st ∧ rb = ansB fs gs d ∧ P = ansF fs gs st d t now ∧ np = P.length) := ⟨hrs, hrb, hP, hnp⟩
  have HNP : Hid (P.length = np) := hnp.symm
  have HNQ : Hid (np ≤ k + 1) := by show _ ≤ _; rw [hnp, hP, ← HL3.out]; exact ansF_le fs gs st d t now
  clear hrs hrb hP hnp h1 hn1 hs1 hp hb g1 g2 g3 gn1 gn2 gn3 gs1 gs2 gs3 gp gx ht0 _ht1 _hw0 hw1 hT
  have hb0 : Below w.heap.size w w := Below.refl _ _
  go_enter Tryz.func4, Tryz.ntmps4
  go_upto_region 1 with fail
  obtain ⟨qv1, hqv1⟩ : ∃ q, q = (w).heap.size := ⟨_, rfl⟩
  obtain ⟨w1, hW1⟩ : ∃ W, W = (w).alloc (.cells #[.int .i64 m, .string p, .slice a n cap, .string b] 50) := ⟨_, rfl⟩
  have hz1 : (w).heap.size = qv1 := hqv1.symm
  first | rw [← hW1, ← hqv1] | rw [← hW1]
  have hs1 : w1.heap.size = qv1 + 1 := by rw [hW1, ← hz1]; simp
  have bw : Below (w).heap.size (w) w1 := by rw [hW1]; exact (Below.refl _ _).alloc (Nat.le_refl _) _
  have hb1 : Below w.heap.size w (w1) := hb0.trans (bw.mono hb0.size)
  have HBv1_1 : Hid ((w1).heap[qv1]? = some (.cells #[.int .i64 m, .string p, .slice a n cap, .string b] 50)) := by show _ = _; rw [hW1, ← hz1]; exact heap_alloc_new _ _
  clear hb0 bw hW1 hz1
  obtain ⟨qv2, hqv2⟩ : ∃ q, q = qv1 + 1 := ⟨_, rfl⟩
  obtain ⟨w2, hW2⟩ : ∃ W, W = (w1).alloc (.cells #[.string op, .slice a1 n1 c1, .slice a2 n2 c2, .int .i64 st, .slice a3 k c3, .string d, .int .i64 t] 54) := ⟨_, rfl⟩
  have hz2 : (w1).heap.size = qv2 := by rw [hqv2]; exact hs1
  first | rw [← hW2, ← hqv2] | rw [← hW2]
  have hs2 : w2.heap.size = qv2 + 1 := by rw [hW2, ← hz2]; simp
  have bw : Below (w1).heap.size (w1) w2 := by rw [hW2]; exact (Below.refl _ _).alloc (Nat.le_refl _) _
  have hb2 : Below w.heap.size w (w2) := hb1.trans (bw.mono hb1.size)
  have HBv1_2 : Hid ((w2).heap[qv1]? = some (.cells #[.int .i64 m, .string p, .slice a n cap, .string b] 50)) := blk_below HBv1_1.out bw
  have HBv2_2 : Hid ((w2).heap[qv2]? = some (.cells #[.string op, .slice a1 n1 c1, .slice a2 n2 c2, .int .i64 st, .slice a3 k c3, .string d, .int .i64 t] 54)) := by show _ = _; rw [hW2, ← hz2]; exact heap_alloc_new _ _
  clear hb1 HBv1_1 bw hW2 hz2
  clear hs2 hqv2 hs1 hqv1
  have cv1_0 : (w2).cell? ⟨qv1, 0, none⟩ = some (.int .i64 m) := (cell_of HBv1_2.out 0).trans rfl
  have cv1_1 : (w2).cell? ⟨qv1, 1, none⟩ = some (.string p) := (cell_of HBv1_2.out 1).trans rfl
  have cv1_2 : (w2).cell? ⟨qv1, 2, none⟩ = some (.slice a n cap) := (cell_of HBv1_2.out 2).trans rfl
  have cv1_3 : (w2).cell? ⟨qv1, 3, none⟩ = some (.string b) := (cell_of HBv1_2.out 3).trans rfl
  go_wp2_with fail
  refine (szReq_room 1048576 (by omega) (by omega) m p a n cap b fs _ (argUpA (HA1.out _ hb2) hb2.size) HN1.out HS1.out HPM.out HBM.out).mono ?_
  rintro e w3 ⟨r1, rfl, hl1, hr1, bw⟩
  have hb3 : Below w.heap.size w (w3) := hb2.trans (bw.mono hb2.size)
  have HBv1_3 : Hid ((w3).heap[qv1]? = some (.cells #[.int .i64 m, .string p, .slice a n cap, .string b] 50)) := blk_below HBv1_2.out bw
  have HBv2_3 : Hid ((w3).heap[qv2]? = some (.cells #[.string op, .slice a1 n1 c1, .slice a2 n2 c2, .int .i64 st, .slice a3 k c3, .string d, .int .i64 t] 54)) := blk_below HBv2_2.out bw
  clear hb2 HBv1_2 HBv2_2 bw
  clear cv1_0 cv1_1 cv1_2 cv1_3
  by_cases hc1 : r1 < 0
  · clear hr1
    go_wp2_with fail
    go_ret
    exact ⟨rfl, hb3⟩
  · obtain ⟨hrm1, _, hm1, hz1⟩ := hr1 (by omega)
    clear hr1
    have cv2_0 : (w3).cell? ⟨qv2, 0, none⟩ = some (.string op) := (cell_of HBv2_3.out 0).trans rfl
    have cv2_1 : (w3).cell? ⟨qv2, 1, none⟩ = some (.slice a1 n1 c1) := (cell_of HBv2_3.out 1).trans rfl
    have cv2_2 : (w3).cell? ⟨qv2, 2, none⟩ = some (.slice a2 n2 c2) := (cell_of HBv2_3.out 2).trans rfl
    have cv2_3 : (w3).cell? ⟨qv2, 3, none⟩ = some (.int .i64 st) := (cell_of HBv2_3.out 3).trans rfl
    have cv2_4 : (w3).cell? ⟨qv2, 4, none⟩ = some (.slice a3 k c3) := (cell_of HBv2_3.out 4).trans rfl
    have cv2_5 : (w3).cell? ⟨qv2, 5, none⟩ = some (.string d) := (cell_of HBv2_3.out 5).trans rfl
    have cv2_6 : (w3).cell? ⟨qv2, 6, none⟩ = some (.int .i64 t) := (cell_of HBv2_3.out 6).trans rfl
    go_wp2_with fail
    refine (szObj_any r1 (by omega) (by omega) op a1 n1 c1 xs a2 n2 c2 ys st a3 k c3 gs d t w.heap.size _ (HX1.out _ hb3) (HX2.out _ hb3) (HX3.out _ hb3) hb3.size HGN.out.1 HGN.out.2.1 HGN.out.2.2 HT1.out HT2.out HS3.out HOP.out HDM.out).mono ?_
    rintro e w4 ⟨r2, rfl, hl2, hr2, bw⟩
    have hb4 : Below w.heap.size w (w4) := hb3.trans (bw.mono hb3.size)
    have HBv1_4 : Hid ((w4).heap[qv1]? = some (.cells #[.int .i64 m, .string p, .slice a n cap, .string b] 50)) := blk_below HBv1_3.out bw
    have HBv2_4 : Hid ((w4).heap[qv2]? = some (.cells #[.string op, .slice a1 n1 c1, .slice a2 n2 c2, .int .i64 st, .slice a3 k c3, .string d, .int .i64 t] 54)) := blk_below HBv2_3.out bw
    clear hb3 HBv1_3 HBv2_3 bw
    clear cv2_0 cv2_1 cv2_2 cv2_3 cv2_4 cv2_5 cv2_6
    by_cases hc2 : r2 < 0
    · clear hr2
      go_wp2_with fail
      go_ret
      exact ⟨rfl, hb4⟩
    · obtain ⟨hrm2, ⟨_, hxx⟩, ⟨hm3, _⟩, ⟨hm4, _⟩, hm5, hz3⟩ := hr2 (by omega)
      clear hr2
      have HG1 : Hid (∀ x, (getV fs x).size ≤ 1048576) := fun x => by
        unfold getV
        split
        · rename_i h
          have := szTo_get fs n (atF fs x) (by rw [← HL1.out]; exact h)
          omega
        · decide
      have HG1C : Hid (CopyF fs) := fun i hi => by
        have := szTo_get fs n i (by rw [← HL1.out]; exact hi)
        omega
      have HG3 : Hid (∀ x, (getV gs x).size ≤ 1048576) := fun x => by
        unfold getV
        split
        · rename_i h
          have := szTo_get gs k (atF gs x) (by rw [← HL3.out]; exact h)
          omega
        · decide
      have HG3C : Hid (CopyF gs) := fun i hi => by
        have := szTo_get gs k i (by rw [← HL3.out]; exact hi)
        omega
      have HSP : Hid (∀ W, Below w.heap.size w W → ∀ (u1 : Value) (o1 o2 : Option Addr) (m1 q1 m2 q2 : Nat) (u3 : Value) (B : Nat), W.ownsRow w.heap.size 74 2 u1 n (flatF fs) → W.ownsRow B 74 2 u3 k (flatF gs) → Calls Tryz.prog 10 #[.agg #[.int .i64 m, .string p, u1, .string b], .agg #[.string op, .slice o1 m1 q1, .slice o2 m2 q2, .int .i64 st, u3, .string d, .int .i64 t], .int .i64 now] W fun e w' => ∃ v, e = .returned (.agg #[.int .i64 rs, v, .string rb]) ∧ w'.ownsRow W.heap.size 74 2 v np (flatF P) ∧ Below W.heap.size W w') := fun W hW u1 o1 o2 m1 q1 m2 q2 u3 B k1 k3 => by
        obtain ⟨e1, e2, e3, e4⟩ := HRS.out
        rw [e4, e1, e2, e3]
        exact specAnswer_any m p u1 b n _ fs op o1 o2 m1 q1 m2 q2 st u3 d t k _ gs now W (FieldsV.of_owns k1) (by omega) HS1.out HPM.out HBM.out HG1.out (FieldsV.of_owns k3) (by omega) HS3.out HDM.out HG3.out HTT.out.1 HTT.out.2
      have HIM : Hid (∀ W, Below w.heap.size w W → ∀ (u1 : Value) (o1 o2 : Option Addr) (m1 q1 m2 q2 : Nat) (u3 : Value) (B : Nat), W.ownsRow w.heap.size 74 2 u1 n (flatF fs) → W.ownsRow B 74 2 u3 k (flatF gs) → Calls Tryz.prog 7 #[.agg #[.int .i64 m, .string p, u1, .string b], .agg #[.string op, .slice o1 m1 q1, .slice o2 m2 q2, .int .i64 st, u3, .string d, .int .i64 t], .int .i64 now] W fun e w' => ∃ v, e = .returned (.agg #[.int .i64 rs, v, .string rb]) ∧ w'.ownsRow W.heap.size 74 2 v np (flatF P) ∧ Below W.heap.size W w') := fun W hW u1 o1 o2 m1 q1 m2 q2 u3 B k1 k3 => by
        obtain ⟨e1, e2, e3, e4⟩ := HRS.out
        rw [e4, e1, e2, e3]
        exact implAnswer_any m p u1 b n _ fs op o1 o2 m1 q1 m2 q2 st u3 d t k _ gs now W (FieldsV.of_owns k1) (by omega) HS1.out HPM.out HBM.out HG1.out HG1C.out (FieldsV.of_owns k3) (by omega) HS3.out HDM.out HG3.out HTT.out.1 HTT.out.2 HG3C.out (by omega) (HT.out W hW)
      have hnpb : np ≤ 1048577 := by have := HNQ.out; omega
      clear hz1 hz3 hxx
      go_upto_region 8 with fail
      have HSS : Hid (∀ W, Below w4.heap.size w4 W → W.heap[qv1]? = some (.cells #[.int .i64 m, .string p, .slice a n cap, .string b] 50) ∧ W.heap[qv2]? = some (.cells #[.string op, .slice a1 n1 c1, .slice a2 n2 c2, .int .i64 st, .slice a3 k c3, .string d, .int .i64 t] 54)) := fun W h => ⟨blk_below HBv1_4.out h, blk_below HBv2_4.out h⟩
      go_cut [8] (fun sx wx => ∃ (q : Nat) (oR3 : Option Addr) (pR3 : Nat), sx = .pointer (some ⟨q, 0, none⟩) ∧ Hid (Below w4.heap.size w4 wx ∧ wx.heap[q]? = some (.cells #[.int .i64 rs, .slice oR3 np pR3, .string rb] 29) ∧ w4.heap.size ≤ q ∧ (wx).ownsRow w4.heap.size 74 2 (.slice oR3 np pR3) np (flatF P)))
      case first =>
        refine wp_region_held_drew (S := fun W => W.heap[qv1]? = some (.cells #[.int .i64 m, .string p, .slice a n cap, .string b] 50) ∧ W.heap[qv2]? = some (.cells #[.string op, .slice a1 n1 c1, .slice a2 n2 c2, .int .i64 st, .slice a3 k c3, .string d, .int .i64 t] 54)) (by kernel_rfl) (HSS.out _ (Below.refl _ _).drew) (fun _ => ?_)
        obtain ⟨w5, hX⟩ : ∃ X, X = w4.drew := ⟨_, rfl⟩
        have bw : Below w4.heap.size w4 w5 := by rw [hX]; exact (Below.refl _ _).drew
        rw [← hX]
        have hb5 : Below w.heap.size w (w5) := hb4.trans (bw.mono hb4.size)
        have HM5 : Hid ((w4).heap.size ≤ (w5).heap.size) := bw.size
        have HBv1_5 : Hid ((w5).heap[qv1]? = some (.cells #[.int .i64 m, .string p, .slice a n cap, .string b] 50)) := blk_below HBv1_4.out bw
        have HBv2_5 : Hid ((w5).heap[qv2]? = some (.cells #[.string op, .slice a1 n1 c1, .slice a2 n2 c2, .int .i64 st, .slice a3 k c3, .string d, .int .i64 t] 54)) := blk_below HBv2_4.out bw
        have HX_5 : Hid (Below w4.heap.size w4 w5) := bw
        clear bw hX
        refine wpAnyH_takeD (i := 0) (v := .agg #[.int .i64 m, .string p, .slice a n cap, .string b]) (some 26) rfl rfl (by kernel_rfl) (by kernel_rfl) (by kernel_rfl) (fun _ _ _ h => h) (Or.inl ⟨by rfl, by intro W hW; obtain ⟨hhv1, hhv2⟩ := hW; have y0 := (cell_of hhv1 0).trans rfl; have y1 := (cell_of hhv1 1).trans rfl; have y2 := (cell_of hhv1 2).trans rfl; have y3 := (cell_of hhv1 3).trans rfl; go_simp⟩) (HSS.out _ HX_5.out) ?_
        simp only [Act.put, List.setIfInBounds_toArray, List.set_cons_zero, List.set_cons_succ]
        refine wpAnyH_takeD (i := 2) (v := .agg #[.string op, .slice a1 n1 c1, .slice a2 n2 c2, .int .i64 st, .slice a3 k c3, .string d, .int .i64 t]) (some 28) rfl rfl (by kernel_rfl) (by kernel_rfl) (by kernel_rfl) (fun _ _ _ h => h) (Or.inl ⟨by rfl, by intro W hW; obtain ⟨hhv1, hhv2⟩ := hW; have y0 := (cell_of hhv2 0).trans rfl; have y1 := (cell_of hhv2 1).trans rfl; have y2 := (cell_of hhv2 2).trans rfl; have y3 := (cell_of hhv2 3).trans rfl; have y4 := (cell_of hhv2 4).trans rfl; have y5 := (cell_of hhv2 5).trans rfl; have y6 := (cell_of hhv2 6).trans rfl; go_simp⟩) (HSS.out _ HX_5.out) ?_
        simp only [Act.put, List.setIfInBounds_toArray, List.set_cons_zero, List.set_cons_succ]
        refine wpAnyH_takeD (i := 4) (v := .int .i64 now) (some 30) rfl rfl (by kernel_rfl) (by kernel_rfl) (by kernel_rfl) (fun _ _ _ h => h) (Or.inl ⟨by rfl, by intro W _; go_simp⟩) (HSS.out _ HX_5.out) ?_
        simp only [Act.put, List.setIfInBounds_toArray, List.set_cons_zero, List.set_cons_succ]
        refine wpAnyH_ready (rs := [1, 6]) (by kernel_rfl) (by simp) ?_
        refine AllReadyH.cons rfl (fun K hK => ?_) (AllReadyH.cons rfl (fun K hK => ?_) AllReadyH.nil)
        · go_simp
          refine (toReq_any m p a n cap b fs w.heap.size _ (HA1.out _ hb5) hb5.size hm1).mono ?_
          rintro e w6 ⟨vv, rfl, ownQ1, bw⟩
          obtain ⟨oQ1, pQ1, rfl⟩ := slice_of_owns ownQ1
          have hb6 : Below w.heap.size w (w6) := hb5.trans (bw.mono hb5.size)
          have HM6 : Hid ((w5).heap.size ≤ (w6).heap.size) := bw.size
          have HBv1_6 : Hid ((w6).heap[qv1]? = some (.cells #[.int .i64 m, .string p, .slice a n cap, .string b] 50)) := blk_below HBv1_5.out bw
          have HBv2_6 : Hid ((w6).heap[qv2]? = some (.cells #[.string op, .slice a1 n1 c1, .slice a2 n2 c2, .int .i64 st, .slice a3 k c3, .string d, .int .i64 t] 54)) := blk_below HBv2_5.out bw
          have HOQ1_6 : Hid ((w6).ownsRow w.heap.size 74 2 (.slice oQ1 n pQ1) n (flatF fs)) := owns_wide ownQ1 hb5.size
          have LOQ1 : Hid (∀ g, (Value.ownBlock (.slice oQ1 n pQ1)) = some g → (w5).heap.size ≤ g) := fun g hg => owns_ge ownQ1 hg
          have HIQ1 : Hid (∀ g, (Value.ownBlock (.slice oQ1 n pQ1)) = some g → g < (w6).heap.size) := fun g hg => owns_lt ownQ1 hg
          clear ownQ1
          clear hb5 HBv1_5 HBv2_5
          have HX_6 : Hid (Below w4.heap.size w4 w6) := HX_5.out.trans (bw.mono HX_5.out.size)
          refine hK.out _ _ (HSS.out _ HX_6.out) (fun _ => ?_)
          clear hK K bw HX_5
          refine wpAnyH_ready (rs := [3, 6]) (by kernel_rfl) (by simp) ?_
          refine AllReadyH.cons rfl (fun K hK => ?_) (AllReadyH.cons rfl (fun K hK => ?_) AllReadyH.nil)
          · go_simp
            refine (toObj_any op a1 n1 c1 xs a2 n2 c2 ys st a3 k c3 gs d t w.heap.size _ (HX1.out _ hb6) (HX2.out _ hb6) (HX3.out _ hb6) hb6.size hm3 hm4 hm5).mono ?_
            rintro e w7 ⟨vv1, vv2, vv3, rfl, ⟨ownN2, ownV2, ownF2, ne2⟩, bw⟩
            obtain ⟨oN2, pN2, rfl⟩ := slice_of_owns ownN2
            obtain ⟨oV2, pV2, rfl⟩ := slice_of_owns ownV2
            obtain ⟨oF2, pF2, rfl⟩ := slice_of_owns ownF2
            have AP2 : Hid (∀ j, (Value.slice oN2 n1 pN2).ownBlock = some j → (Value.slice oV2 n2 pV2).ownBlock ≠ some j) := ne2
            clear ne2
            have hb7 : Below w.heap.size w (w7) := hb6.trans (bw.mono hb6.size)
            have HM7 : Hid ((w6).heap.size ≤ (w7).heap.size) := bw.size
            have HOQ1_7 : Hid ((w7).ownsRow w.heap.size 74 2 (.slice oQ1 n pQ1) n (flatF fs)) := owns_below HOQ1_6.out bw (fun g hg => owns_lt HOQ1_6.out hg)
            have HBv1_7 : Hid ((w7).heap[qv1]? = some (.cells #[.int .i64 m, .string p, .slice a n cap, .string b] 50)) := blk_below HBv1_6.out bw
            have HBv2_7 : Hid ((w7).heap[qv2]? = some (.cells #[.string op, .slice a1 n1 c1, .slice a2 n2 c2, .int .i64 st, .slice a3 k c3, .string d, .int .i64 t] 54)) := blk_below HBv2_6.out bw
            have HON2_7 : Hid ((w7).ownsRow w.heap.size 9 1 (.slice oN2 n1 pN2) n1 (xs.map Value.string)) := owns_wide ownN2 hb6.size
            have LON2 : Hid (∀ g, (Value.ownBlock (.slice oN2 n1 pN2)) = some g → (w6).heap.size ≤ g) := fun g hg => owns_ge ownN2 hg
            have HIN2 : Hid (∀ g, (Value.ownBlock (.slice oN2 n1 pN2)) = some g → g < (w7).heap.size) := fun g hg => owns_lt ownN2 hg
            clear ownN2
            have HOV2_7 : Hid ((w7).ownsRow w.heap.size 9 1 (.slice oV2 n2 pV2) n2 (ys.map Value.string)) := owns_wide ownV2 hb6.size
            have LOV2 : Hid (∀ g, (Value.ownBlock (.slice oV2 n2 pV2)) = some g → (w6).heap.size ≤ g) := fun g hg => owns_ge ownV2 hg
            have HIV2 : Hid (∀ g, (Value.ownBlock (.slice oV2 n2 pV2)) = some g → g < (w7).heap.size) := fun g hg => owns_lt ownV2 hg
            clear ownV2
            have HOF2_7 : Hid ((w7).ownsRow w.heap.size 74 2 (.slice oF2 k pF2) k (flatF gs)) := owns_wide ownF2 hb6.size
            have LOF2 : Hid (∀ g, (Value.ownBlock (.slice oF2 k pF2)) = some g → (w6).heap.size ≤ g) := fun g hg => owns_ge ownF2 hg
            have HIF2 : Hid (∀ g, (Value.ownBlock (.slice oF2 k pF2)) = some g → g < (w7).heap.size) := fun g hg => owns_lt ownF2 hg
            clear ownF2
            clear hb6 HOQ1_6 HBv1_6 HBv2_6
            have HX_7 : Hid (Below w4.heap.size w4 w7) := HX_6.out.trans (bw.mono HX_6.out.size)
            refine hK.out _ _ (HSS.out _ HX_7.out) (fun _ => ?_)
            clear hK K bw HX_6
            refine wpAnyH_ready (rs := [5, 6]) (by kernel_rfl) (by simp) ?_
            refine AllReadyH.cons rfl (fun K hK => ?_) (AllReadyH.cons rfl (fun K hK => ?_) AllReadyH.nil)
            · go_simp
              refine (HSP.out _ hb7 _ _ _ _ _ _ _ _ _ HOQ1_7.out HOF2_7.out).mono ?_
              rintro e w8 ⟨vv, rfl, ownR3, bw⟩
              obtain ⟨oR3, pR3, rfl⟩ := slice_of_owns ownR3
              have hb8 : Below w.heap.size w (w8) := hb7.trans (bw.mono hb7.size)
              have HM8 : Hid ((w7).heap.size ≤ (w8).heap.size) := bw.size
              have HOQ1_8 : Hid ((w8).ownsRow w.heap.size 74 2 (.slice oQ1 n pQ1) n (flatF fs)) := owns_below HOQ1_7.out bw (fun g hg => owns_lt HOQ1_7.out hg)
              have HON2_8 : Hid ((w8).ownsRow w.heap.size 9 1 (.slice oN2 n1 pN2) n1 (xs.map Value.string)) := owns_below HON2_7.out bw (fun g hg => owns_lt HON2_7.out hg)
              have HOV2_8 : Hid ((w8).ownsRow w.heap.size 9 1 (.slice oV2 n2 pV2) n2 (ys.map Value.string)) := owns_below HOV2_7.out bw (fun g hg => owns_lt HOV2_7.out hg)
              have HOF2_8 : Hid ((w8).ownsRow w.heap.size 74 2 (.slice oF2 k pF2) k (flatF gs)) := owns_below HOF2_7.out bw (fun g hg => owns_lt HOF2_7.out hg)
              have HBv1_8 : Hid ((w8).heap[qv1]? = some (.cells #[.int .i64 m, .string p, .slice a n cap, .string b] 50)) := blk_below HBv1_7.out bw
              have HBv2_8 : Hid ((w8).heap[qv2]? = some (.cells #[.string op, .slice a1 n1 c1, .slice a2 n2 c2, .int .i64 st, .slice a3 k c3, .string d, .int .i64 t] 54)) := blk_below HBv2_7.out bw
              have HOR3_8 : Hid ((w8).ownsRow w.heap.size 74 2 (.slice oR3 np pR3) np (flatF P)) := owns_wide ownR3 hb7.size
              have LOR3 : Hid (∀ g, (Value.ownBlock (.slice oR3 np pR3)) = some g → (w7).heap.size ≤ g) := fun g hg => owns_ge ownR3 hg
              have HIR3 : Hid (∀ g, (Value.ownBlock (.slice oR3 np pR3)) = some g → g < (w8).heap.size) := fun g hg => owns_lt ownR3 hg
              clear ownR3
              clear hb7 HOQ1_7 HON2_7 HOV2_7 HOF2_7 HBv1_7 HBv2_7
              have HX_8 : Hid (Below w4.heap.size w4 w8) := HX_7.out.trans (bw.mono HX_7.out.size)
              have HRXR3_8 : Hid ((w8).ownsRow w4.heap.size 74 2 (.slice oR3 np pR3) np (flatF P)) := owns_lift HOR3_8.out (fun g hg => Nat.le_trans HX_7.out.size (LOR3.out g hg))
              refine hK.out _ _ (HSS.out _ HX_8.out) (fun _ => ?_)
              clear hK K bw HX_7
              refine wpAnyH_ready (rs := [6]) (by kernel_rfl) (by simp) ?_
              refine AllReadyH.cons rfl (fun K hK => ?_) AllReadyH.nil
              go_simp
              have HXA : Hid (Below w4.heap.size w4 (w8.alloc (.cells #[.int .i64 0, .slice none 0 0, .string ⟨#[]⟩] 29))) := HX_8.out.alloc HX_8.out.size _
              refine hK.out _ _ (HSS.out _ HXA.out) (fun _ => ?_)
              clear hK K HXA
              obtain ⟨pa, ho⟩ : ∃ o, o = w8.heap.size := ⟨_, rfl⟩
              obtain ⟨w9, hXj⟩ : ∃ X, X = w8.alloc (.cells #[.int .i64 0, .slice none 0 0, .string ⟨#[]⟩] 29) := ⟨_, rfl⟩
              rw [← ho, ← hXj]
              have HGA : Hid (w4.heap.size ≤ pa) := by show _ ≤ _; rw [ho]; exact HX_8.out.size
              have bw : Below w8.heap.size w8 w9 := by rw [hXj]; exact (Below.refl _ _).alloc (Nat.le_refl _) _
              have hb9 : Below w.heap.size w (w9) := hb8.trans (bw.mono hb8.size)
              have HM9 : Hid ((w8).heap.size ≤ (w9).heap.size) := bw.size
              have HOQ1_9 : Hid ((w9).ownsRow w.heap.size 74 2 (.slice oQ1 n pQ1) n (flatF fs)) := owns_below HOQ1_8.out bw (fun g hg => owns_lt HOQ1_8.out hg)
              have HON2_9 : Hid ((w9).ownsRow w.heap.size 9 1 (.slice oN2 n1 pN2) n1 (xs.map Value.string)) := owns_below HON2_8.out bw (fun g hg => owns_lt HON2_8.out hg)
              have HOV2_9 : Hid ((w9).ownsRow w.heap.size 9 1 (.slice oV2 n2 pV2) n2 (ys.map Value.string)) := owns_below HOV2_8.out bw (fun g hg => owns_lt HOV2_8.out hg)
              have HOF2_9 : Hid ((w9).ownsRow w.heap.size 74 2 (.slice oF2 k pF2) k (flatF gs)) := owns_below HOF2_8.out bw (fun g hg => owns_lt HOF2_8.out hg)
              have HOR3_9 : Hid ((w9).ownsRow w.heap.size 74 2 (.slice oR3 np pR3) np (flatF P)) := owns_below HOR3_8.out bw (fun g hg => owns_lt HOR3_8.out hg)
              have HBv1_9 : Hid ((w9).heap[qv1]? = some (.cells #[.int .i64 m, .string p, .slice a n cap, .string b] 50)) := blk_below HBv1_8.out bw
              have HBv2_9 : Hid ((w9).heap[qv2]? = some (.cells #[.string op, .slice a1 n1 c1, .slice a2 n2 c2, .int .i64 st, .slice a3 k c3, .string d, .int .i64 t] 54)) := blk_below HBv2_8.out bw
              have HX_9 : Hid (Below w4.heap.size w4 w9) := HX_8.out.trans (bw.mono HX_8.out.size)
              have HRXR3_9 : Hid ((w9).ownsRow w4.heap.size 74 2 (.slice oR3 np pR3) np (flatF P)) := owns_below HRXR3_8.out bw (fun g hg => owns_lt HRXR3_8.out hg)
              have HPA_9 : Hid (w9.heap[pa]? = some (.cells #[.int .i64 0, .slice none 0 0, .string ⟨#[]⟩] 29)) := by show _ = _; rw [hXj, ho]; exact heap_alloc_new _ _
              clear hb8 HOQ1_8 HON2_8 HOV2_8 HOF2_8 HOR3_8 HBv1_8 HBv2_8 bw ho hXj HX_8
              refine wpAnyH_ready (rs := [7]) (by kernel_rfl) (by simp) ?_
              refine AllReadyH.cons rfl (fun K hK => ?_) AllReadyH.nil
              have ce0 : w9.cell? ⟨pa, 0, none⟩ = some (.int .i64 0) := (cell_of HPA_9.out 0).trans rfl
              have fe0 : w9.frozen? ⟨pa, 0, none⟩ = false := frozen_of HPA_9.out 0
              have ce1 : w9.cell? ⟨pa, 1, none⟩ = some (.slice none 0 0) := (cell_of HPA_9.out 1).trans rfl
              have fe1 : w9.frozen? ⟨pa, 1, none⟩ = false := frozen_of HPA_9.out 1
              have ce2 : w9.cell? ⟨pa, 2, none⟩ = some (.string ⟨#[]⟩) := (cell_of HPA_9.out 2).trans rfl
              have fe2 : w9.frozen? ⟨pa, 2, none⟩ = false := frozen_of HPA_9.out 2
              obtain ⟨w10, hY⟩ : ∃ Y, Y = (((w9.setCell ⟨pa, 0, none⟩ (.int .i64 rs)).setCell ⟨pa, 1, none⟩ (.slice oR3 np pR3)).setCell ⟨pa, 2, none⟩ (.string rb)) := ⟨_, rfl⟩
              have HY : Hid ((((w9.setCell ⟨pa, 0, none⟩ (.int .i64 rs)).setCell ⟨pa, 1, none⟩ (.slice oR3 np pR3)).setCell ⟨pa, 2, none⟩ (.string rb)) = w10) := hY.symm
              have HX_10 : Hid (Below w4.heap.size w4 w10) := by show Below _ _ _; rw [hY]; exact (((HX_9.out.setCell (p := ⟨pa, 0, none⟩) HGA.out _).setCell (p := ⟨pa, 1, none⟩) HGA.out _).setCell (p := ⟨pa, 2, none⟩) HGA.out _)
              have HPA_10 : Hid (w10.heap[pa]? = some (.cells #[.int .i64 rs, .slice oR3 np pR3, .string rb] 29)) := by show _ = _; rw [hY]; have h := (heap_set _ pa 2 _ _ _ (.string rb) (heap_set _ pa 1 _ _ _ (.slice oR3 np pR3) (heap_set _ pa 0 _ _ _ (.int .i64 rs) HPA_9.out))); simpa using h
              have HRXR3_10 : Hid ((w10).ownsRow w4.heap.size 74 2 (.slice oR3 np pR3) np (flatF P)) := by show World.ownsRow _ _ _ _ _ _ _; rw [hY]; exact owns_same HRXR3_9.out (fun g hg => by have hne := own_ne HRXR3_9.out HPA_9.out (by decide) g hg; rw [heap_setCell_other _ _ g _ hne, heap_setCell_other _ _ g _ hne, heap_setCell_other _ _ g _ hne])
              clear hY hb9 HOQ1_9 HON2_9 HOV2_9 HOF2_9 HOR3_9 HBv1_9 HBv2_9
              go_simp
              rw [HY.out]
              refine hK.out _ _ (HSS.out _ HX_10.out) (fun _ => ?_)
              clear hK K HY ce0 fe0 ce1 fe1 ce2 fe2
              refine wpAnyH_done (by kernel_rfl) ?_ _
              go_wp2_with fail
              go_meet
              exact ⟨pa, oR3, pR3, rfl, ⟨HX_10.out, HPA_10.out, HGA.out, HRXR3_10.out⟩⟩
            · go_simp
              have HXA : Hid (Below w4.heap.size w4 (w7.alloc (.cells #[.int .i64 0, .slice none 0 0, .string ⟨#[]⟩] 29))) := HX_7.out.alloc HX_7.out.size _
              refine hK.out _ _ (HSS.out _ HXA.out) (fun _ => ?_)
              clear hK K HXA
              obtain ⟨pa, ho⟩ : ∃ o, o = w7.heap.size := ⟨_, rfl⟩
              obtain ⟨w8, hXj⟩ : ∃ X, X = w7.alloc (.cells #[.int .i64 0, .slice none 0 0, .string ⟨#[]⟩] 29) := ⟨_, rfl⟩
              rw [← ho, ← hXj]
              have HGA : Hid (w4.heap.size ≤ pa) := by show _ ≤ _; rw [ho]; exact HX_7.out.size
              have bw : Below w7.heap.size w7 w8 := by rw [hXj]; exact (Below.refl _ _).alloc (Nat.le_refl _) _
              have hb8 : Below w.heap.size w (w8) := hb7.trans (bw.mono hb7.size)
              have HM8 : Hid ((w7).heap.size ≤ (w8).heap.size) := bw.size
              have HOQ1_8 : Hid ((w8).ownsRow w.heap.size 74 2 (.slice oQ1 n pQ1) n (flatF fs)) := owns_below HOQ1_7.out bw (fun g hg => owns_lt HOQ1_7.out hg)
              have HON2_8 : Hid ((w8).ownsRow w.heap.size 9 1 (.slice oN2 n1 pN2) n1 (xs.map Value.string)) := owns_below HON2_7.out bw (fun g hg => owns_lt HON2_7.out hg)
              have HOV2_8 : Hid ((w8).ownsRow w.heap.size 9 1 (.slice oV2 n2 pV2) n2 (ys.map Value.string)) := owns_below HOV2_7.out bw (fun g hg => owns_lt HOV2_7.out hg)
              have HOF2_8 : Hid ((w8).ownsRow w.heap.size 74 2 (.slice oF2 k pF2) k (flatF gs)) := owns_below HOF2_7.out bw (fun g hg => owns_lt HOF2_7.out hg)
              have HBv1_8 : Hid ((w8).heap[qv1]? = some (.cells #[.int .i64 m, .string p, .slice a n cap, .string b] 50)) := blk_below HBv1_7.out bw
              have HBv2_8 : Hid ((w8).heap[qv2]? = some (.cells #[.string op, .slice a1 n1 c1, .slice a2 n2 c2, .int .i64 st, .slice a3 k c3, .string d, .int .i64 t] 54)) := blk_below HBv2_7.out bw
              have HX_8 : Hid (Below w4.heap.size w4 w8) := HX_7.out.trans (bw.mono HX_7.out.size)
              have HPA_8 : Hid (w8.heap[pa]? = some (.cells #[.int .i64 0, .slice none 0 0, .string ⟨#[]⟩] 29)) := by show _ = _; rw [hXj, ho]; exact heap_alloc_new _ _
              clear hb7 HOQ1_7 HON2_7 HOV2_7 HOF2_7 HBv1_7 HBv2_7 bw ho hXj HX_7
              refine wpAnyH_ready (rs := [5]) (by kernel_rfl) (by simp) ?_
              refine AllReadyH.cons rfl (fun K hK => ?_) AllReadyH.nil
              go_simp
              refine (HSP.out _ hb8 _ _ _ _ _ _ _ _ _ HOQ1_8.out HOF2_8.out).mono ?_
              rintro e w9 ⟨vv, rfl, ownR3, bw⟩
              obtain ⟨oR3, pR3, rfl⟩ := slice_of_owns ownR3
              have hb9 : Below w.heap.size w (w9) := hb8.trans (bw.mono hb8.size)
              have HM9 : Hid ((w8).heap.size ≤ (w9).heap.size) := bw.size
              have HOQ1_9 : Hid ((w9).ownsRow w.heap.size 74 2 (.slice oQ1 n pQ1) n (flatF fs)) := owns_below HOQ1_8.out bw (fun g hg => owns_lt HOQ1_8.out hg)
              have HON2_9 : Hid ((w9).ownsRow w.heap.size 9 1 (.slice oN2 n1 pN2) n1 (xs.map Value.string)) := owns_below HON2_8.out bw (fun g hg => owns_lt HON2_8.out hg)
              have HOV2_9 : Hid ((w9).ownsRow w.heap.size 9 1 (.slice oV2 n2 pV2) n2 (ys.map Value.string)) := owns_below HOV2_8.out bw (fun g hg => owns_lt HOV2_8.out hg)
              have HOF2_9 : Hid ((w9).ownsRow w.heap.size 74 2 (.slice oF2 k pF2) k (flatF gs)) := owns_below HOF2_8.out bw (fun g hg => owns_lt HOF2_8.out hg)
              have HBv1_9 : Hid ((w9).heap[qv1]? = some (.cells #[.int .i64 m, .string p, .slice a n cap, .string b] 50)) := blk_below HBv1_8.out bw
              have HBv2_9 : Hid ((w9).heap[qv2]? = some (.cells #[.string op, .slice a1 n1 c1, .slice a2 n2 c2, .int .i64 st, .slice a3 k c3, .string d, .int .i64 t] 54)) := blk_below HBv2_8.out bw
              have HOR3_9 : Hid ((w9).ownsRow w.heap.size 74 2 (.slice oR3 np pR3) np (flatF P)) := owns_wide ownR3 hb8.size
              have LOR3 : Hid (∀ g, (Value.ownBlock (.slice oR3 np pR3)) = some g → (w8).heap.size ≤ g) := fun g hg => owns_ge ownR3 hg
              have HIR3 : Hid (∀ g, (Value.ownBlock (.slice oR3 np pR3)) = some g → g < (w9).heap.size) := fun g hg => owns_lt ownR3 hg
              clear ownR3
              clear hb8 HOQ1_8 HON2_8 HOV2_8 HOF2_8 HBv1_8 HBv2_8
              have HX_9 : Hid (Below w4.heap.size w4 w9) := HX_8.out.trans (bw.mono HX_8.out.size)
              have HPA_9 : Hid (w9.heap[pa]? = some (.cells #[.int .i64 0, .slice none 0 0, .string ⟨#[]⟩] 29)) := blk_below HPA_8.out bw
              have HRXR3_9 : Hid ((w9).ownsRow w4.heap.size 74 2 (.slice oR3 np pR3) np (flatF P)) := owns_lift HOR3_9.out (fun g hg => Nat.le_trans HX_8.out.size (LOR3.out g hg))
              refine hK.out _ _ (HSS.out _ HX_9.out) (fun _ => ?_)
              clear hK K bw HX_8
              refine wpAnyH_ready (rs := [7]) (by kernel_rfl) (by simp) ?_
              refine AllReadyH.cons rfl (fun K hK => ?_) AllReadyH.nil
              have ce0 : w9.cell? ⟨pa, 0, none⟩ = some (.int .i64 0) := (cell_of HPA_9.out 0).trans rfl
              have fe0 : w9.frozen? ⟨pa, 0, none⟩ = false := frozen_of HPA_9.out 0
              have ce1 : w9.cell? ⟨pa, 1, none⟩ = some (.slice none 0 0) := (cell_of HPA_9.out 1).trans rfl
              have fe1 : w9.frozen? ⟨pa, 1, none⟩ = false := frozen_of HPA_9.out 1
              have ce2 : w9.cell? ⟨pa, 2, none⟩ = some (.string ⟨#[]⟩) := (cell_of HPA_9.out 2).trans rfl
              have fe2 : w9.frozen? ⟨pa, 2, none⟩ = false := frozen_of HPA_9.out 2
              obtain ⟨w10, hY⟩ : ∃ Y, Y = (((w9.setCell ⟨pa, 0, none⟩ (.int .i64 rs)).setCell ⟨pa, 1, none⟩ (.slice oR3 np pR3)).setCell ⟨pa, 2, none⟩ (.string rb)) := ⟨_, rfl⟩
              have HY : Hid ((((w9.setCell ⟨pa, 0, none⟩ (.int .i64 rs)).setCell ⟨pa, 1, none⟩ (.slice oR3 np pR3)).setCell ⟨pa, 2, none⟩ (.string rb)) = w10) := hY.symm
              have HX_10 : Hid (Below w4.heap.size w4 w10) := by show Below _ _ _; rw [hY]; exact (((HX_9.out.setCell (p := ⟨pa, 0, none⟩) HGA.out _).setCell (p := ⟨pa, 1, none⟩) HGA.out _).setCell (p := ⟨pa, 2, none⟩) HGA.out _)
              have HPA_10 : Hid (w10.heap[pa]? = some (.cells #[.int .i64 rs, .slice oR3 np pR3, .string rb] 29)) := by show _ = _; rw [hY]; have h := (heap_set _ pa 2 _ _ _ (.string rb) (heap_set _ pa 1 _ _ _ (.slice oR3 np pR3) (heap_set _ pa 0 _ _ _ (.int .i64 rs) HPA_9.out))); simpa using h
              have HRXR3_10 : Hid ((w10).ownsRow w4.heap.size 74 2 (.slice oR3 np pR3) np (flatF P)) := by show World.ownsRow _ _ _ _ _ _ _; rw [hY]; exact owns_same HRXR3_9.out (fun g hg => by have hne := own_ne HRXR3_9.out HPA_9.out (by decide) g hg; rw [heap_setCell_other _ _ g _ hne, heap_setCell_other _ _ g _ hne, heap_setCell_other _ _ g _ hne])
              clear hY hb9 HOQ1_9 HON2_9 HOV2_9 HOF2_9 HOR3_9 HBv1_9 HBv2_9
              go_simp
              rw [HY.out]
              refine hK.out _ _ (HSS.out _ HX_10.out) (fun _ => ?_)
              clear hK K HY ce0 fe0 ce1 fe1 ce2 fe2
              refine wpAnyH_done (by kernel_rfl) ?_ _
              go_wp2_with fail
              go_meet
              exact ⟨pa, oR3, pR3, rfl, ⟨HX_10.out, HPA_10.out, HGA.out, HRXR3_10.out⟩⟩
          · go_simp
            have HXA : Hid (Below w4.heap.size w4 (w6.alloc (.cells #[.int .i64 0, .slice none 0 0, .string ⟨#[]⟩] 29))) := HX_6.out.alloc HX_6.out.size _
            refine hK.out _ _ (HSS.out _ HXA.out) (fun _ => ?_)
            clear hK K HXA
            obtain ⟨pa, ho⟩ : ∃ o, o = w6.heap.size := ⟨_, rfl⟩
            obtain ⟨w7, hXj⟩ : ∃ X, X = w6.alloc (.cells #[.int .i64 0, .slice none 0 0, .string ⟨#[]⟩] 29) := ⟨_, rfl⟩
            rw [← ho, ← hXj]
            have HGA : Hid (w4.heap.size ≤ pa) := by show _ ≤ _; rw [ho]; exact HX_6.out.size
            have bw : Below w6.heap.size w6 w7 := by rw [hXj]; exact (Below.refl _ _).alloc (Nat.le_refl _) _
            have hb7 : Below w.heap.size w (w7) := hb6.trans (bw.mono hb6.size)
            have HM7 : Hid ((w6).heap.size ≤ (w7).heap.size) := bw.size
            have HOQ1_7 : Hid ((w7).ownsRow w.heap.size 74 2 (.slice oQ1 n pQ1) n (flatF fs)) := owns_below HOQ1_6.out bw (fun g hg => owns_lt HOQ1_6.out hg)
            have HBv1_7 : Hid ((w7).heap[qv1]? = some (.cells #[.int .i64 m, .string p, .slice a n cap, .string b] 50)) := blk_below HBv1_6.out bw
            have HBv2_7 : Hid ((w7).heap[qv2]? = some (.cells #[.string op, .slice a1 n1 c1, .slice a2 n2 c2, .int .i64 st, .slice a3 k c3, .string d, .int .i64 t] 54)) := blk_below HBv2_6.out bw
            have HX_7 : Hid (Below w4.heap.size w4 w7) := HX_6.out.trans (bw.mono HX_6.out.size)
            have HPA_7 : Hid (w7.heap[pa]? = some (.cells #[.int .i64 0, .slice none 0 0, .string ⟨#[]⟩] 29)) := by show _ = _; rw [hXj, ho]; exact heap_alloc_new _ _
            clear hb6 HOQ1_6 HBv1_6 HBv2_6 bw ho hXj HX_6
            refine wpAnyH_ready (rs := [3]) (by kernel_rfl) (by simp) ?_
            refine AllReadyH.cons rfl (fun K hK => ?_) AllReadyH.nil
            go_simp
            refine (toObj_any op a1 n1 c1 xs a2 n2 c2 ys st a3 k c3 gs d t w.heap.size _ (HX1.out _ hb7) (HX2.out _ hb7) (HX3.out _ hb7) hb7.size hm3 hm4 hm5).mono ?_
            rintro e w8 ⟨vv1, vv2, vv3, rfl, ⟨ownN2, ownV2, ownF2, ne2⟩, bw⟩
            obtain ⟨oN2, pN2, rfl⟩ := slice_of_owns ownN2
            obtain ⟨oV2, pV2, rfl⟩ := slice_of_owns ownV2
            obtain ⟨oF2, pF2, rfl⟩ := slice_of_owns ownF2
            have AP2 : Hid (∀ j, (Value.slice oN2 n1 pN2).ownBlock = some j → (Value.slice oV2 n2 pV2).ownBlock ≠ some j) := ne2
            clear ne2
            have hb8 : Below w.heap.size w (w8) := hb7.trans (bw.mono hb7.size)
            have HM8 : Hid ((w7).heap.size ≤ (w8).heap.size) := bw.size
            have HOQ1_8 : Hid ((w8).ownsRow w.heap.size 74 2 (.slice oQ1 n pQ1) n (flatF fs)) := owns_below HOQ1_7.out bw (fun g hg => owns_lt HOQ1_7.out hg)
            have HBv1_8 : Hid ((w8).heap[qv1]? = some (.cells #[.int .i64 m, .string p, .slice a n cap, .string b] 50)) := blk_below HBv1_7.out bw
            have HBv2_8 : Hid ((w8).heap[qv2]? = some (.cells #[.string op, .slice a1 n1 c1, .slice a2 n2 c2, .int .i64 st, .slice a3 k c3, .string d, .int .i64 t] 54)) := blk_below HBv2_7.out bw
            have HON2_8 : Hid ((w8).ownsRow w.heap.size 9 1 (.slice oN2 n1 pN2) n1 (xs.map Value.string)) := owns_wide ownN2 hb7.size
            have LON2 : Hid (∀ g, (Value.ownBlock (.slice oN2 n1 pN2)) = some g → (w7).heap.size ≤ g) := fun g hg => owns_ge ownN2 hg
            have HIN2 : Hid (∀ g, (Value.ownBlock (.slice oN2 n1 pN2)) = some g → g < (w8).heap.size) := fun g hg => owns_lt ownN2 hg
            clear ownN2
            have HOV2_8 : Hid ((w8).ownsRow w.heap.size 9 1 (.slice oV2 n2 pV2) n2 (ys.map Value.string)) := owns_wide ownV2 hb7.size
            have LOV2 : Hid (∀ g, (Value.ownBlock (.slice oV2 n2 pV2)) = some g → (w7).heap.size ≤ g) := fun g hg => owns_ge ownV2 hg
            have HIV2 : Hid (∀ g, (Value.ownBlock (.slice oV2 n2 pV2)) = some g → g < (w8).heap.size) := fun g hg => owns_lt ownV2 hg
            clear ownV2
            have HOF2_8 : Hid ((w8).ownsRow w.heap.size 74 2 (.slice oF2 k pF2) k (flatF gs)) := owns_wide ownF2 hb7.size
            have LOF2 : Hid (∀ g, (Value.ownBlock (.slice oF2 k pF2)) = some g → (w7).heap.size ≤ g) := fun g hg => owns_ge ownF2 hg
            have HIF2 : Hid (∀ g, (Value.ownBlock (.slice oF2 k pF2)) = some g → g < (w8).heap.size) := fun g hg => owns_lt ownF2 hg
            clear ownF2
            clear hb7 HOQ1_7 HBv1_7 HBv2_7
            have HX_8 : Hid (Below w4.heap.size w4 w8) := HX_7.out.trans (bw.mono HX_7.out.size)
            have HPA_8 : Hid (w8.heap[pa]? = some (.cells #[.int .i64 0, .slice none 0 0, .string ⟨#[]⟩] 29)) := blk_below HPA_7.out bw
            refine hK.out _ _ (HSS.out _ HX_8.out) (fun _ => ?_)
            clear hK K bw HX_7
            refine wpAnyH_ready (rs := [5]) (by kernel_rfl) (by simp) ?_
            refine AllReadyH.cons rfl (fun K hK => ?_) AllReadyH.nil
            go_simp
            refine (HSP.out _ hb8 _ _ _ _ _ _ _ _ _ HOQ1_8.out HOF2_8.out).mono ?_
            rintro e w9 ⟨vv, rfl, ownR3, bw⟩
            obtain ⟨oR3, pR3, rfl⟩ := slice_of_owns ownR3
            have hb9 : Below w.heap.size w (w9) := hb8.trans (bw.mono hb8.size)
            have HM9 : Hid ((w8).heap.size ≤ (w9).heap.size) := bw.size
            have HOQ1_9 : Hid ((w9).ownsRow w.heap.size 74 2 (.slice oQ1 n pQ1) n (flatF fs)) := owns_below HOQ1_8.out bw (fun g hg => owns_lt HOQ1_8.out hg)
            have HON2_9 : Hid ((w9).ownsRow w.heap.size 9 1 (.slice oN2 n1 pN2) n1 (xs.map Value.string)) := owns_below HON2_8.out bw (fun g hg => owns_lt HON2_8.out hg)
            have HOV2_9 : Hid ((w9).ownsRow w.heap.size 9 1 (.slice oV2 n2 pV2) n2 (ys.map Value.string)) := owns_below HOV2_8.out bw (fun g hg => owns_lt HOV2_8.out hg)
            have HOF2_9 : Hid ((w9).ownsRow w.heap.size 74 2 (.slice oF2 k pF2) k (flatF gs)) := owns_below HOF2_8.out bw (fun g hg => owns_lt HOF2_8.out hg)
            have HBv1_9 : Hid ((w9).heap[qv1]? = some (.cells #[.int .i64 m, .string p, .slice a n cap, .string b] 50)) := blk_below HBv1_8.out bw
            have HBv2_9 : Hid ((w9).heap[qv2]? = some (.cells #[.string op, .slice a1 n1 c1, .slice a2 n2 c2, .int .i64 st, .slice a3 k c3, .string d, .int .i64 t] 54)) := blk_below HBv2_8.out bw
            have HOR3_9 : Hid ((w9).ownsRow w.heap.size 74 2 (.slice oR3 np pR3) np (flatF P)) := owns_wide ownR3 hb8.size
            have LOR3 : Hid (∀ g, (Value.ownBlock (.slice oR3 np pR3)) = some g → (w8).heap.size ≤ g) := fun g hg => owns_ge ownR3 hg
            have HIR3 : Hid (∀ g, (Value.ownBlock (.slice oR3 np pR3)) = some g → g < (w9).heap.size) := fun g hg => owns_lt ownR3 hg
            clear ownR3
            clear hb8 HOQ1_8 HON2_8 HOV2_8 HOF2_8 HBv1_8 HBv2_8
            have HX_9 : Hid (Below w4.heap.size w4 w9) := HX_8.out.trans (bw.mono HX_8.out.size)
            have HPA_9 : Hid (w9.heap[pa]? = some (.cells #[.int .i64 0, .slice none 0 0, .string ⟨#[]⟩] 29)) := blk_below HPA_8.out bw
            have HRXR3_9 : Hid ((w9).ownsRow w4.heap.size 74 2 (.slice oR3 np pR3) np (flatF P)) := owns_lift HOR3_9.out (fun g hg => Nat.le_trans HX_8.out.size (LOR3.out g hg))
            refine hK.out _ _ (HSS.out _ HX_9.out) (fun _ => ?_)
            clear hK K bw HX_8
            refine wpAnyH_ready (rs := [7]) (by kernel_rfl) (by simp) ?_
            refine AllReadyH.cons rfl (fun K hK => ?_) AllReadyH.nil
            have ce0 : w9.cell? ⟨pa, 0, none⟩ = some (.int .i64 0) := (cell_of HPA_9.out 0).trans rfl
            have fe0 : w9.frozen? ⟨pa, 0, none⟩ = false := frozen_of HPA_9.out 0
            have ce1 : w9.cell? ⟨pa, 1, none⟩ = some (.slice none 0 0) := (cell_of HPA_9.out 1).trans rfl
            have fe1 : w9.frozen? ⟨pa, 1, none⟩ = false := frozen_of HPA_9.out 1
            have ce2 : w9.cell? ⟨pa, 2, none⟩ = some (.string ⟨#[]⟩) := (cell_of HPA_9.out 2).trans rfl
            have fe2 : w9.frozen? ⟨pa, 2, none⟩ = false := frozen_of HPA_9.out 2
            obtain ⟨w10, hY⟩ : ∃ Y, Y = (((w9.setCell ⟨pa, 0, none⟩ (.int .i64 rs)).setCell ⟨pa, 1, none⟩ (.slice oR3 np pR3)).setCell ⟨pa, 2, none⟩ (.string rb)) := ⟨_, rfl⟩
            have HY : Hid ((((w9.setCell ⟨pa, 0, none⟩ (.int .i64 rs)).setCell ⟨pa, 1, none⟩ (.slice oR3 np pR3)).setCell ⟨pa, 2, none⟩ (.string rb)) = w10) := hY.symm
            have HX_10 : Hid (Below w4.heap.size w4 w10) := by show Below _ _ _; rw [hY]; exact (((HX_9.out.setCell (p := ⟨pa, 0, none⟩) HGA.out _).setCell (p := ⟨pa, 1, none⟩) HGA.out _).setCell (p := ⟨pa, 2, none⟩) HGA.out _)
            have HPA_10 : Hid (w10.heap[pa]? = some (.cells #[.int .i64 rs, .slice oR3 np pR3, .string rb] 29)) := by show _ = _; rw [hY]; have h := (heap_set _ pa 2 _ _ _ (.string rb) (heap_set _ pa 1 _ _ _ (.slice oR3 np pR3) (heap_set _ pa 0 _ _ _ (.int .i64 rs) HPA_9.out))); simpa using h
            have HRXR3_10 : Hid ((w10).ownsRow w4.heap.size 74 2 (.slice oR3 np pR3) np (flatF P)) := by show World.ownsRow _ _ _ _ _ _ _; rw [hY]; exact owns_same HRXR3_9.out (fun g hg => by have hne := own_ne HRXR3_9.out HPA_9.out (by decide) g hg; rw [heap_setCell_other _ _ g _ hne, heap_setCell_other _ _ g _ hne, heap_setCell_other _ _ g _ hne])
            clear hY hb9 HOQ1_9 HON2_9 HOV2_9 HOF2_9 HOR3_9 HBv1_9 HBv2_9
            go_simp
            rw [HY.out]
            refine hK.out _ _ (HSS.out _ HX_10.out) (fun _ => ?_)
            clear hK K HY ce0 fe0 ce1 fe1 ce2 fe2
            refine wpAnyH_done (by kernel_rfl) ?_ _
            go_wp2_with fail
            go_meet
            exact ⟨pa, oR3, pR3, rfl, ⟨HX_10.out, HPA_10.out, HGA.out, HRXR3_10.out⟩⟩
        · go_simp
          have HXA : Hid (Below w4.heap.size w4 (w5.alloc (.cells #[.int .i64 0, .slice none 0 0, .string ⟨#[]⟩] 29))) := HX_5.out.alloc HX_5.out.size _
          refine hK.out _ _ (HSS.out _ HXA.out) (fun _ => ?_)
          clear hK K HXA
          obtain ⟨pa, ho⟩ : ∃ o, o = w5.heap.size := ⟨_, rfl⟩
          obtain ⟨w6, hXj⟩ : ∃ X, X = w5.alloc (.cells #[.int .i64 0, .slice none 0 0, .string ⟨#[]⟩] 29) := ⟨_, rfl⟩
          rw [← ho, ← hXj]
          have HGA : Hid (w4.heap.size ≤ pa) := by show _ ≤ _; rw [ho]; exact HX_5.out.size
          have bw : Below w5.heap.size w5 w6 := by rw [hXj]; exact (Below.refl _ _).alloc (Nat.le_refl _) _
          have hb6 : Below w.heap.size w (w6) := hb5.trans (bw.mono hb5.size)
          have HM6 : Hid ((w5).heap.size ≤ (w6).heap.size) := bw.size
          have HBv1_6 : Hid ((w6).heap[qv1]? = some (.cells #[.int .i64 m, .string p, .slice a n cap, .string b] 50)) := blk_below HBv1_5.out bw
          have HBv2_6 : Hid ((w6).heap[qv2]? = some (.cells #[.string op, .slice a1 n1 c1, .slice a2 n2 c2, .int .i64 st, .slice a3 k c3, .string d, .int .i64 t] 54)) := blk_below HBv2_5.out bw
          have HX_6 : Hid (Below w4.heap.size w4 w6) := HX_5.out.trans (bw.mono HX_5.out.size)
          have HPA_6 : Hid (w6.heap[pa]? = some (.cells #[.int .i64 0, .slice none 0 0, .string ⟨#[]⟩] 29)) := by show _ = _; rw [hXj, ho]; exact heap_alloc_new _ _
          clear hb5 HBv1_5 HBv2_5 bw ho hXj HX_5
          refine wpAnyH_ready (rs := [1]) (by kernel_rfl) (by simp) ?_
          refine AllReadyH.cons rfl (fun K hK => ?_) AllReadyH.nil
          go_simp
          refine (toReq_any m p a n cap b fs w.heap.size _ (HA1.out _ hb6) hb6.size hm1).mono ?_
          rintro e w7 ⟨vv, rfl, ownQ1, bw⟩
          obtain ⟨oQ1, pQ1, rfl⟩ := slice_of_owns ownQ1
          have hb7 : Below w.heap.size w (w7) := hb6.trans (bw.mono hb6.size)
          have HM7 : Hid ((w6).heap.size ≤ (w7).heap.size) := bw.size
          have HBv1_7 : Hid ((w7).heap[qv1]? = some (.cells #[.int .i64 m, .string p, .slice a n cap, .string b] 50)) := blk_below HBv1_6.out bw
          have HBv2_7 : Hid ((w7).heap[qv2]? = some (.cells #[.string op, .slice a1 n1 c1, .slice a2 n2 c2, .int .i64 st, .slice a3 k c3, .string d, .int .i64 t] 54)) := blk_below HBv2_6.out bw
          have HOQ1_7 : Hid ((w7).ownsRow w.heap.size 74 2 (.slice oQ1 n pQ1) n (flatF fs)) := owns_wide ownQ1 hb6.size
          have LOQ1 : Hid (∀ g, (Value.ownBlock (.slice oQ1 n pQ1)) = some g → (w6).heap.size ≤ g) := fun g hg => owns_ge ownQ1 hg
          have HIQ1 : Hid (∀ g, (Value.ownBlock (.slice oQ1 n pQ1)) = some g → g < (w7).heap.size) := fun g hg => owns_lt ownQ1 hg
          clear ownQ1
          clear hb6 HBv1_6 HBv2_6
          have HX_7 : Hid (Below w4.heap.size w4 w7) := HX_6.out.trans (bw.mono HX_6.out.size)
          have HPA_7 : Hid (w7.heap[pa]? = some (.cells #[.int .i64 0, .slice none 0 0, .string ⟨#[]⟩] 29)) := blk_below HPA_6.out bw
          refine hK.out _ _ (HSS.out _ HX_7.out) (fun _ => ?_)
          clear hK K bw HX_6
          refine wpAnyH_ready (rs := [3]) (by kernel_rfl) (by simp) ?_
          refine AllReadyH.cons rfl (fun K hK => ?_) AllReadyH.nil
          go_simp
          refine (toObj_any op a1 n1 c1 xs a2 n2 c2 ys st a3 k c3 gs d t w.heap.size _ (HX1.out _ hb7) (HX2.out _ hb7) (HX3.out _ hb7) hb7.size hm3 hm4 hm5).mono ?_
          rintro e w8 ⟨vv1, vv2, vv3, rfl, ⟨ownN2, ownV2, ownF2, ne2⟩, bw⟩
          obtain ⟨oN2, pN2, rfl⟩ := slice_of_owns ownN2
          obtain ⟨oV2, pV2, rfl⟩ := slice_of_owns ownV2
          obtain ⟨oF2, pF2, rfl⟩ := slice_of_owns ownF2
          have AP2 : Hid (∀ j, (Value.slice oN2 n1 pN2).ownBlock = some j → (Value.slice oV2 n2 pV2).ownBlock ≠ some j) := ne2
          clear ne2
          have hb8 : Below w.heap.size w (w8) := hb7.trans (bw.mono hb7.size)
          have HM8 : Hid ((w7).heap.size ≤ (w8).heap.size) := bw.size
          have HOQ1_8 : Hid ((w8).ownsRow w.heap.size 74 2 (.slice oQ1 n pQ1) n (flatF fs)) := owns_below HOQ1_7.out bw (fun g hg => owns_lt HOQ1_7.out hg)
          have HBv1_8 : Hid ((w8).heap[qv1]? = some (.cells #[.int .i64 m, .string p, .slice a n cap, .string b] 50)) := blk_below HBv1_7.out bw
          have HBv2_8 : Hid ((w8).heap[qv2]? = some (.cells #[.string op, .slice a1 n1 c1, .slice a2 n2 c2, .int .i64 st, .slice a3 k c3, .string d, .int .i64 t] 54)) := blk_below HBv2_7.out bw
          have HON2_8 : Hid ((w8).ownsRow w.heap.size 9 1 (.slice oN2 n1 pN2) n1 (xs.map Value.string)) := owns_wide ownN2 hb7.size
          have LON2 : Hid (∀ g, (Value.ownBlock (.slice oN2 n1 pN2)) = some g → (w7).heap.size ≤ g) := fun g hg => owns_ge ownN2 hg
          have HIN2 : Hid (∀ g, (Value.ownBlock (.slice oN2 n1 pN2)) = some g → g < (w8).heap.size) := fun g hg => owns_lt ownN2 hg
          clear ownN2
          have HOV2_8 : Hid ((w8).ownsRow w.heap.size 9 1 (.slice oV2 n2 pV2) n2 (ys.map Value.string)) := owns_wide ownV2 hb7.size
          have LOV2 : Hid (∀ g, (Value.ownBlock (.slice oV2 n2 pV2)) = some g → (w7).heap.size ≤ g) := fun g hg => owns_ge ownV2 hg
          have HIV2 : Hid (∀ g, (Value.ownBlock (.slice oV2 n2 pV2)) = some g → g < (w8).heap.size) := fun g hg => owns_lt ownV2 hg
          clear ownV2
          have HOF2_8 : Hid ((w8).ownsRow w.heap.size 74 2 (.slice oF2 k pF2) k (flatF gs)) := owns_wide ownF2 hb7.size
          have LOF2 : Hid (∀ g, (Value.ownBlock (.slice oF2 k pF2)) = some g → (w7).heap.size ≤ g) := fun g hg => owns_ge ownF2 hg
          have HIF2 : Hid (∀ g, (Value.ownBlock (.slice oF2 k pF2)) = some g → g < (w8).heap.size) := fun g hg => owns_lt ownF2 hg
          clear ownF2
          clear hb7 HOQ1_7 HBv1_7 HBv2_7
          have HX_8 : Hid (Below w4.heap.size w4 w8) := HX_7.out.trans (bw.mono HX_7.out.size)
          have HPA_8 : Hid (w8.heap[pa]? = some (.cells #[.int .i64 0, .slice none 0 0, .string ⟨#[]⟩] 29)) := blk_below HPA_7.out bw
          refine hK.out _ _ (HSS.out _ HX_8.out) (fun _ => ?_)
          clear hK K bw HX_7
          refine wpAnyH_ready (rs := [5]) (by kernel_rfl) (by simp) ?_
          refine AllReadyH.cons rfl (fun K hK => ?_) AllReadyH.nil
          go_simp
          refine (HSP.out _ hb8 _ _ _ _ _ _ _ _ _ HOQ1_8.out HOF2_8.out).mono ?_
          rintro e w9 ⟨vv, rfl, ownR3, bw⟩
          obtain ⟨oR3, pR3, rfl⟩ := slice_of_owns ownR3
          have hb9 : Below w.heap.size w (w9) := hb8.trans (bw.mono hb8.size)
          have HM9 : Hid ((w8).heap.size ≤ (w9).heap.size) := bw.size
          have HOQ1_9 : Hid ((w9).ownsRow w.heap.size 74 2 (.slice oQ1 n pQ1) n (flatF fs)) := owns_below HOQ1_8.out bw (fun g hg => owns_lt HOQ1_8.out hg)
          have HON2_9 : Hid ((w9).ownsRow w.heap.size 9 1 (.slice oN2 n1 pN2) n1 (xs.map Value.string)) := owns_below HON2_8.out bw (fun g hg => owns_lt HON2_8.out hg)
          have HOV2_9 : Hid ((w9).ownsRow w.heap.size 9 1 (.slice oV2 n2 pV2) n2 (ys.map Value.string)) := owns_below HOV2_8.out bw (fun g hg => owns_lt HOV2_8.out hg)
          have HOF2_9 : Hid ((w9).ownsRow w.heap.size 74 2 (.slice oF2 k pF2) k (flatF gs)) := owns_below HOF2_8.out bw (fun g hg => owns_lt HOF2_8.out hg)
          have HBv1_9 : Hid ((w9).heap[qv1]? = some (.cells #[.int .i64 m, .string p, .slice a n cap, .string b] 50)) := blk_below HBv1_8.out bw
          have HBv2_9 : Hid ((w9).heap[qv2]? = some (.cells #[.string op, .slice a1 n1 c1, .slice a2 n2 c2, .int .i64 st, .slice a3 k c3, .string d, .int .i64 t] 54)) := blk_below HBv2_8.out bw
          have HOR3_9 : Hid ((w9).ownsRow w.heap.size 74 2 (.slice oR3 np pR3) np (flatF P)) := owns_wide ownR3 hb8.size
          have LOR3 : Hid (∀ g, (Value.ownBlock (.slice oR3 np pR3)) = some g → (w8).heap.size ≤ g) := fun g hg => owns_ge ownR3 hg
          have HIR3 : Hid (∀ g, (Value.ownBlock (.slice oR3 np pR3)) = some g → g < (w9).heap.size) := fun g hg => owns_lt ownR3 hg
          clear ownR3
          clear hb8 HOQ1_8 HON2_8 HOV2_8 HOF2_8 HBv1_8 HBv2_8
          have HX_9 : Hid (Below w4.heap.size w4 w9) := HX_8.out.trans (bw.mono HX_8.out.size)
          have HPA_9 : Hid (w9.heap[pa]? = some (.cells #[.int .i64 0, .slice none 0 0, .string ⟨#[]⟩] 29)) := blk_below HPA_8.out bw
          have HRXR3_9 : Hid ((w9).ownsRow w4.heap.size 74 2 (.slice oR3 np pR3) np (flatF P)) := owns_lift HOR3_9.out (fun g hg => Nat.le_trans HX_8.out.size (LOR3.out g hg))
          refine hK.out _ _ (HSS.out _ HX_9.out) (fun _ => ?_)
          clear hK K bw HX_8
          refine wpAnyH_ready (rs := [7]) (by kernel_rfl) (by simp) ?_
          refine AllReadyH.cons rfl (fun K hK => ?_) AllReadyH.nil
          have ce0 : w9.cell? ⟨pa, 0, none⟩ = some (.int .i64 0) := (cell_of HPA_9.out 0).trans rfl
          have fe0 : w9.frozen? ⟨pa, 0, none⟩ = false := frozen_of HPA_9.out 0
          have ce1 : w9.cell? ⟨pa, 1, none⟩ = some (.slice none 0 0) := (cell_of HPA_9.out 1).trans rfl
          have fe1 : w9.frozen? ⟨pa, 1, none⟩ = false := frozen_of HPA_9.out 1
          have ce2 : w9.cell? ⟨pa, 2, none⟩ = some (.string ⟨#[]⟩) := (cell_of HPA_9.out 2).trans rfl
          have fe2 : w9.frozen? ⟨pa, 2, none⟩ = false := frozen_of HPA_9.out 2
          obtain ⟨w10, hY⟩ : ∃ Y, Y = (((w9.setCell ⟨pa, 0, none⟩ (.int .i64 rs)).setCell ⟨pa, 1, none⟩ (.slice oR3 np pR3)).setCell ⟨pa, 2, none⟩ (.string rb)) := ⟨_, rfl⟩
          have HY : Hid ((((w9.setCell ⟨pa, 0, none⟩ (.int .i64 rs)).setCell ⟨pa, 1, none⟩ (.slice oR3 np pR3)).setCell ⟨pa, 2, none⟩ (.string rb)) = w10) := hY.symm
          have HX_10 : Hid (Below w4.heap.size w4 w10) := by show Below _ _ _; rw [hY]; exact (((HX_9.out.setCell (p := ⟨pa, 0, none⟩) HGA.out _).setCell (p := ⟨pa, 1, none⟩) HGA.out _).setCell (p := ⟨pa, 2, none⟩) HGA.out _)
          have HPA_10 : Hid (w10.heap[pa]? = some (.cells #[.int .i64 rs, .slice oR3 np pR3, .string rb] 29)) := by show _ = _; rw [hY]; have h := (heap_set _ pa 2 _ _ _ (.string rb) (heap_set _ pa 1 _ _ _ (.slice oR3 np pR3) (heap_set _ pa 0 _ _ _ (.int .i64 rs) HPA_9.out))); simpa using h
          have HRXR3_10 : Hid ((w10).ownsRow w4.heap.size 74 2 (.slice oR3 np pR3) np (flatF P)) := by show World.ownsRow _ _ _ _ _ _ _; rw [hY]; exact owns_same HRXR3_9.out (fun g hg => by have hne := own_ne HRXR3_9.out HPA_9.out (by decide) g hg; rw [heap_setCell_other _ _ g _ hne, heap_setCell_other _ _ g _ hne, heap_setCell_other _ _ g _ hne])
          clear hY hb9 HOQ1_9 HON2_9 HOV2_9 HOF2_9 HOR3_9 HBv1_9 HBv2_9
          go_simp
          rw [HY.out]
          refine hK.out _ _ (HSS.out _ HX_10.out) (fun _ => ?_)
          clear hK K HY ce0 fe0 ce1 fe1 ce2 fe2
          refine wpAnyH_done (by kernel_rfl) ?_ _
          go_wp2_with fail
          go_meet
          exact ⟨pa, oR3, pR3, rfl, ⟨HX_10.out, HPA_10.out, HGA.out, HRXR3_10.out⟩⟩
      case rest =>
      obtain ⟨qv3, oR3, pR3, hsx, HF⟩ := hcut
      rw [hsx]
      obtain ⟨w5, hwj⟩ : ∃ W, W = wc := ⟨_, rfl⟩
      rw [← hwj] at HF ⊢
      clear hsx hwj HSS
      obtain ⟨bw, hcell, hga, ownR3⟩ := HF.out
      have hb5 : Below w.heap.size w (w5) := hb4.trans (bw.mono hb4.size)
      have HM5 : Hid ((w4).heap.size ≤ (w5).heap.size) := bw.size
      have HBv1_5 : Hid ((w5).heap[qv1]? = some (.cells #[.int .i64 m, .string p, .slice a n cap, .string b] 50)) := blk_below HBv1_4.out bw
      have HBv2_5 : Hid ((w5).heap[qv2]? = some (.cells #[.string op, .slice a1 n1 c1, .slice a2 n2 c2, .int .i64 st, .slice a3 k c3, .string d, .int .i64 t] 54)) := blk_below HBv2_4.out bw
      have HOR3_5 : Hid ((w5).ownsRow w.heap.size 74 2 (.slice oR3 np pR3) np (flatF P)) := owns_wide ownR3 hb4.size
      have LOR3 : Hid (∀ g, (Value.ownBlock (.slice oR3 np pR3)) = some g → (w4).heap.size ≤ g) := fun g hg => owns_ge ownR3 hg
      have HIR3 : Hid (∀ g, (Value.ownBlock (.slice oR3 np pR3)) = some g → g < (w5).heap.size) := fun g hg => owns_lt ownR3 hg
      have HBv3_5 : Hid ((w5).heap[qv3]? = some (.cells #[.int .i64 rs, .slice oR3 np pR3, .string rb] 29)) := hcell
      clear hb4 HBv1_4 HBv2_4 bw hcell hga HF ownR3
      have cv1_0 : (w5).cell? ⟨qv1, 0, none⟩ = some (.int .i64 m) := (cell_of HBv1_5.out 0).trans rfl
      have cv1_1 : (w5).cell? ⟨qv1, 1, none⟩ = some (.string p) := (cell_of HBv1_5.out 1).trans rfl
      have cv1_2 : (w5).cell? ⟨qv1, 2, none⟩ = some (.slice a n cap) := (cell_of HBv1_5.out 2).trans rfl
      have cv1_3 : (w5).cell? ⟨qv1, 3, none⟩ = some (.string b) := (cell_of HBv1_5.out 3).trans rfl
      go_wp2_with fail
      refine (toReq_any m p a n cap b fs w.heap.size _ (HA1.out _ hb5) hb5.size hm1).mono ?_
      rintro e w6 ⟨vv, rfl, ownQ4, bw⟩
      obtain ⟨oQ4, pQ4, rfl⟩ := slice_of_owns ownQ4
      have hb6 : Below w.heap.size w (w6) := hb5.trans (bw.mono hb5.size)
      have HM6 : Hid ((w5).heap.size ≤ (w6).heap.size) := bw.size
      have HOR3_6 : Hid ((w6).ownsRow w.heap.size 74 2 (.slice oR3 np pR3) np (flatF P)) := owns_below HOR3_5.out bw (fun g hg => owns_lt HOR3_5.out hg)
      have HBv1_6 : Hid ((w6).heap[qv1]? = some (.cells #[.int .i64 m, .string p, .slice a n cap, .string b] 50)) := blk_below HBv1_5.out bw
      have HBv2_6 : Hid ((w6).heap[qv2]? = some (.cells #[.string op, .slice a1 n1 c1, .slice a2 n2 c2, .int .i64 st, .slice a3 k c3, .string d, .int .i64 t] 54)) := blk_below HBv2_5.out bw
      have HBv3_6 : Hid ((w6).heap[qv3]? = some (.cells #[.int .i64 rs, .slice oR3 np pR3, .string rb] 29)) := blk_below HBv3_5.out bw
      have HOQ4_6 : Hid ((w6).ownsRow w.heap.size 74 2 (.slice oQ4 n pQ4) n (flatF fs)) := owns_wide ownQ4 hb5.size
      have LOQ4 : Hid (∀ g, (Value.ownBlock (.slice oQ4 n pQ4)) = some g → (w5).heap.size ≤ g) := fun g hg => owns_ge ownQ4 hg
      have HIQ4 : Hid (∀ g, (Value.ownBlock (.slice oQ4 n pQ4)) = some g → g < (w6).heap.size) := fun g hg => owns_lt ownQ4 hg
      clear ownQ4
      clear hb5 HOR3_5 HBv1_5 HBv2_5 HBv3_5 bw
      clear cv1_0 cv1_1 cv1_2 cv1_3
      go_upto_region 10 with fail
      obtain ⟨qv4, hqv4⟩ : ∃ q, q = (w6).heap.size := ⟨_, rfl⟩
      obtain ⟨w7, hW7⟩ : ∃ W, W = (w6).alloc (.cells #[.int .i64 m, .string p, .slice oQ4 n pQ4, .string b] 26) := ⟨_, rfl⟩
      have hz7 : (w6).heap.size = qv4 := hqv4.symm
      first | rw [← hW7, ← hqv4] | rw [← hW7]
      have hs7 : w7.heap.size = qv4 + 1 := by rw [hW7, ← hz7]; simp
      have bw : Below (w6).heap.size (w6) w7 := by rw [hW7]; exact (Below.refl _ _).alloc (Nat.le_refl _) _
      have hb7 : Below w.heap.size w (w7) := hb6.trans (bw.mono hb6.size)
      have HM7 : Hid ((w6).heap.size ≤ (w7).heap.size) := bw.size
      have HOR3_7 : Hid ((w7).ownsRow w.heap.size 74 2 (.slice oR3 np pR3) np (flatF P)) := owns_below HOR3_6.out bw (fun g hg => owns_lt HOR3_6.out hg)
      have HOQ4_7 : Hid ((w7).ownsRow w.heap.size 74 2 (.slice oQ4 n pQ4) n (flatF fs)) := owns_below HOQ4_6.out bw (fun g hg => owns_lt HOQ4_6.out hg)
      have HBv1_7 : Hid ((w7).heap[qv1]? = some (.cells #[.int .i64 m, .string p, .slice a n cap, .string b] 50)) := blk_below HBv1_6.out bw
      have HBv2_7 : Hid ((w7).heap[qv2]? = some (.cells #[.string op, .slice a1 n1 c1, .slice a2 n2 c2, .int .i64 st, .slice a3 k c3, .string d, .int .i64 t] 54)) := blk_below HBv2_6.out bw
      have HBv3_7 : Hid ((w7).heap[qv3]? = some (.cells #[.int .i64 rs, .slice oR3 np pR3, .string rb] 29)) := blk_below HBv3_6.out bw
      have HBv4_7 : Hid ((w7).heap[qv4]? = some (.cells #[.int .i64 m, .string p, .slice oQ4 n pQ4, .string b] 26)) := by show _ = _; rw [hW7, ← hz7]; exact heap_alloc_new _ _
      clear hb6 HOR3_6 HOQ4_6 HBv1_6 HBv2_6 HBv3_6 bw hW7 hz7
      clear hs7 hqv4
      have cv2_0 : (w7).cell? ⟨qv2, 0, none⟩ = some (.string op) := (cell_of HBv2_7.out 0).trans rfl
      have cv2_1 : (w7).cell? ⟨qv2, 1, none⟩ = some (.slice a1 n1 c1) := (cell_of HBv2_7.out 1).trans rfl
      have cv2_2 : (w7).cell? ⟨qv2, 2, none⟩ = some (.slice a2 n2 c2) := (cell_of HBv2_7.out 2).trans rfl
      have cv2_3 : (w7).cell? ⟨qv2, 3, none⟩ = some (.int .i64 st) := (cell_of HBv2_7.out 3).trans rfl
      have cv2_4 : (w7).cell? ⟨qv2, 4, none⟩ = some (.slice a3 k c3) := (cell_of HBv2_7.out 4).trans rfl
      have cv2_5 : (w7).cell? ⟨qv2, 5, none⟩ = some (.string d) := (cell_of HBv2_7.out 5).trans rfl
      have cv2_6 : (w7).cell? ⟨qv2, 6, none⟩ = some (.int .i64 t) := (cell_of HBv2_7.out 6).trans rfl
      go_wp2_with fail
      refine (toObj_any op a1 n1 c1 xs a2 n2 c2 ys st a3 k c3 gs d t w.heap.size _ (HX1.out _ hb7) (HX2.out _ hb7) (HX3.out _ hb7) hb7.size hm3 hm4 hm5).mono ?_
      rintro e w8 ⟨vv1, vv2, vv3, rfl, ⟨ownN5, ownV5, ownF5, ne5⟩, bw⟩
      obtain ⟨oN5, pN5, rfl⟩ := slice_of_owns ownN5
      obtain ⟨oV5, pV5, rfl⟩ := slice_of_owns ownV5
      obtain ⟨oF5, pF5, rfl⟩ := slice_of_owns ownF5
      have AP5 : Hid (∀ j, (Value.slice oN5 n1 pN5).ownBlock = some j → (Value.slice oV5 n2 pV5).ownBlock ≠ some j) := ne5
      clear ne5
      have hb8 : Below w.heap.size w (w8) := hb7.trans (bw.mono hb7.size)
      have HM8 : Hid ((w7).heap.size ≤ (w8).heap.size) := bw.size
      have HOR3_8 : Hid ((w8).ownsRow w.heap.size 74 2 (.slice oR3 np pR3) np (flatF P)) := owns_below HOR3_7.out bw (fun g hg => owns_lt HOR3_7.out hg)
      have HOQ4_8 : Hid ((w8).ownsRow w.heap.size 74 2 (.slice oQ4 n pQ4) n (flatF fs)) := owns_below HOQ4_7.out bw (fun g hg => owns_lt HOQ4_7.out hg)
      have HBv1_8 : Hid ((w8).heap[qv1]? = some (.cells #[.int .i64 m, .string p, .slice a n cap, .string b] 50)) := blk_below HBv1_7.out bw
      have HBv2_8 : Hid ((w8).heap[qv2]? = some (.cells #[.string op, .slice a1 n1 c1, .slice a2 n2 c2, .int .i64 st, .slice a3 k c3, .string d, .int .i64 t] 54)) := blk_below HBv2_7.out bw
      have HBv3_8 : Hid ((w8).heap[qv3]? = some (.cells #[.int .i64 rs, .slice oR3 np pR3, .string rb] 29)) := blk_below HBv3_7.out bw
      have HBv4_8 : Hid ((w8).heap[qv4]? = some (.cells #[.int .i64 m, .string p, .slice oQ4 n pQ4, .string b] 26)) := blk_below HBv4_7.out bw
      have HON5_8 : Hid ((w8).ownsRow w.heap.size 9 1 (.slice oN5 n1 pN5) n1 (xs.map Value.string)) := owns_wide ownN5 hb7.size
      have HIN5 : Hid (∀ g, (Value.ownBlock (.slice oN5 n1 pN5)) = some g → g < (w8).heap.size) := fun g hg => owns_lt ownN5 hg
      clear ownN5
      have HOV5_8 : Hid ((w8).ownsRow w.heap.size 9 1 (.slice oV5 n2 pV5) n2 (ys.map Value.string)) := owns_wide ownV5 hb7.size
      have HIV5 : Hid (∀ g, (Value.ownBlock (.slice oV5 n2 pV5)) = some g → g < (w8).heap.size) := fun g hg => owns_lt ownV5 hg
      clear ownV5
      have HOF5_8 : Hid ((w8).ownsRow w.heap.size 74 2 (.slice oF5 k pF5) k (flatF gs)) := owns_wide ownF5 hb7.size
      have LOF5 : Hid (∀ g, (Value.ownBlock (.slice oF5 k pF5)) = some g → (w7).heap.size ≤ g) := fun g hg => owns_ge ownF5 hg
      have HIF5 : Hid (∀ g, (Value.ownBlock (.slice oF5 k pF5)) = some g → g < (w8).heap.size) := fun g hg => owns_lt ownF5 hg
      clear ownF5
      clear hb7 HOR3_7 HOQ4_7 HBv1_7 HBv2_7 HBv3_7 HBv4_7 bw
      clear cv2_0 cv2_1 cv2_2 cv2_3 cv2_4 cv2_5 cv2_6
      go_upto_region 11 with fail
      obtain ⟨qv5, hqv5⟩ : ∃ q, q = (w8).heap.size := ⟨_, rfl⟩
      obtain ⟨w9, hW9⟩ : ∃ W, W = (w8).alloc (.cells #[.string op, .slice oN5 n1 pN5, .slice oV5 n2 pV5, .int .i64 st, .slice oF5 k pF5, .string d, .int .i64 t] 31) := ⟨_, rfl⟩
      have hz9 : (w8).heap.size = qv5 := hqv5.symm
      first | rw [← hW9, ← hqv5] | rw [← hW9]
      have hs9 : w9.heap.size = qv5 + 1 := by rw [hW9, ← hz9]; simp
      have bw : Below (w8).heap.size (w8) w9 := by rw [hW9]; exact (Below.refl _ _).alloc (Nat.le_refl _) _
      have hb9 : Below w.heap.size w (w9) := hb8.trans (bw.mono hb8.size)
      have HM9 : Hid ((w8).heap.size ≤ (w9).heap.size) := bw.size
      have HOR3_9 : Hid ((w9).ownsRow w.heap.size 74 2 (.slice oR3 np pR3) np (flatF P)) := owns_below HOR3_8.out bw (fun g hg => owns_lt HOR3_8.out hg)
      have HOQ4_9 : Hid ((w9).ownsRow w.heap.size 74 2 (.slice oQ4 n pQ4) n (flatF fs)) := owns_below HOQ4_8.out bw (fun g hg => owns_lt HOQ4_8.out hg)
      have HON5_9 : Hid ((w9).ownsRow w.heap.size 9 1 (.slice oN5 n1 pN5) n1 (xs.map Value.string)) := owns_below HON5_8.out bw (fun g hg => owns_lt HON5_8.out hg)
      have HOV5_9 : Hid ((w9).ownsRow w.heap.size 9 1 (.slice oV5 n2 pV5) n2 (ys.map Value.string)) := owns_below HOV5_8.out bw (fun g hg => owns_lt HOV5_8.out hg)
      have HOF5_9 : Hid ((w9).ownsRow w.heap.size 74 2 (.slice oF5 k pF5) k (flatF gs)) := owns_below HOF5_8.out bw (fun g hg => owns_lt HOF5_8.out hg)
      have HBv1_9 : Hid ((w9).heap[qv1]? = some (.cells #[.int .i64 m, .string p, .slice a n cap, .string b] 50)) := blk_below HBv1_8.out bw
      have HBv2_9 : Hid ((w9).heap[qv2]? = some (.cells #[.string op, .slice a1 n1 c1, .slice a2 n2 c2, .int .i64 st, .slice a3 k c3, .string d, .int .i64 t] 54)) := blk_below HBv2_8.out bw
      have HBv3_9 : Hid ((w9).heap[qv3]? = some (.cells #[.int .i64 rs, .slice oR3 np pR3, .string rb] 29)) := blk_below HBv3_8.out bw
      have HBv4_9 : Hid ((w9).heap[qv4]? = some (.cells #[.int .i64 m, .string p, .slice oQ4 n pQ4, .string b] 26)) := blk_below HBv4_8.out bw
      have HBv5_9 : Hid ((w9).heap[qv5]? = some (.cells #[.string op, .slice oN5 n1 pN5, .slice oV5 n2 pV5, .int .i64 st, .slice oF5 k pF5, .string d, .int .i64 t] 31)) := by show _ = _; rw [hW9, ← hz9]; exact heap_alloc_new _ _
      clear hb8 HOR3_8 HOQ4_8 HON5_8 HOV5_8 HOF5_8 HBv1_8 HBv2_8 HBv3_8 HBv4_8 bw hW9 hz9
      clear hs9 hqv5
      have cv4_0 : (w9).cell? ⟨qv4, 0, none⟩ = some (.int .i64 m) := (cell_of HBv4_9.out 0).trans rfl
      have cv4_1 : (w9).cell? ⟨qv4, 1, none⟩ = some (.string p) := (cell_of HBv4_9.out 1).trans rfl
      have cv4_2 : (w9).cell? ⟨qv4, 2, none⟩ = some (.slice oQ4 n pQ4) := (cell_of HBv4_9.out 2).trans rfl
      have cv4_3 : (w9).cell? ⟨qv4, 3, none⟩ = some (.string b) := (cell_of HBv4_9.out 3).trans rfl
      have cv5_0 : (w9).cell? ⟨qv5, 0, none⟩ = some (.string op) := (cell_of HBv5_9.out 0).trans rfl
      have cv5_1 : (w9).cell? ⟨qv5, 1, none⟩ = some (.slice oN5 n1 pN5) := (cell_of HBv5_9.out 1).trans rfl
      have cv5_2 : (w9).cell? ⟨qv5, 2, none⟩ = some (.slice oV5 n2 pV5) := (cell_of HBv5_9.out 2).trans rfl
      have cv5_3 : (w9).cell? ⟨qv5, 3, none⟩ = some (.int .i64 st) := (cell_of HBv5_9.out 3).trans rfl
      have cv5_4 : (w9).cell? ⟨qv5, 4, none⟩ = some (.slice oF5 k pF5) := (cell_of HBv5_9.out 4).trans rfl
      have cv5_5 : (w9).cell? ⟨qv5, 5, none⟩ = some (.string d) := (cell_of HBv5_9.out 5).trans rfl
      have cv5_6 : (w9).cell? ⟨qv5, 6, none⟩ = some (.int .i64 t) := (cell_of HBv5_9.out 6).trans rfl
      go_wp2_with fail
      refine (HIM.out _ hb9 _ _ _ _ _ _ _ _ _ HOQ4_9.out HOF5_9.out).mono ?_
      rintro e w10 ⟨vv, rfl, ownR6, bw⟩
      obtain ⟨oR6, pR6, rfl⟩ := slice_of_owns ownR6
      have hb10 : Below w.heap.size w (w10) := hb9.trans (bw.mono hb9.size)
      have HM10 : Hid ((w9).heap.size ≤ (w10).heap.size) := bw.size
      have HOR3_10 : Hid ((w10).ownsRow w.heap.size 74 2 (.slice oR3 np pR3) np (flatF P)) := owns_below HOR3_9.out bw (fun g hg => owns_lt HOR3_9.out hg)
      have HOQ4_10 : Hid ((w10).ownsRow w.heap.size 74 2 (.slice oQ4 n pQ4) n (flatF fs)) := owns_below HOQ4_9.out bw (fun g hg => owns_lt HOQ4_9.out hg)
      have HON5_10 : Hid ((w10).ownsRow w.heap.size 9 1 (.slice oN5 n1 pN5) n1 (xs.map Value.string)) := owns_below HON5_9.out bw (fun g hg => owns_lt HON5_9.out hg)
      have HOV5_10 : Hid ((w10).ownsRow w.heap.size 9 1 (.slice oV5 n2 pV5) n2 (ys.map Value.string)) := owns_below HOV5_9.out bw (fun g hg => owns_lt HOV5_9.out hg)
      have HOF5_10 : Hid ((w10).ownsRow w.heap.size 74 2 (.slice oF5 k pF5) k (flatF gs)) := owns_below HOF5_9.out bw (fun g hg => owns_lt HOF5_9.out hg)
      have HBv1_10 : Hid ((w10).heap[qv1]? = some (.cells #[.int .i64 m, .string p, .slice a n cap, .string b] 50)) := blk_below HBv1_9.out bw
      have HBv2_10 : Hid ((w10).heap[qv2]? = some (.cells #[.string op, .slice a1 n1 c1, .slice a2 n2 c2, .int .i64 st, .slice a3 k c3, .string d, .int .i64 t] 54)) := blk_below HBv2_9.out bw
      have HBv3_10 : Hid ((w10).heap[qv3]? = some (.cells #[.int .i64 rs, .slice oR3 np pR3, .string rb] 29)) := blk_below HBv3_9.out bw
      have HBv4_10 : Hid ((w10).heap[qv4]? = some (.cells #[.int .i64 m, .string p, .slice oQ4 n pQ4, .string b] 26)) := blk_below HBv4_9.out bw
      have HBv5_10 : Hid ((w10).heap[qv5]? = some (.cells #[.string op, .slice oN5 n1 pN5, .slice oV5 n2 pV5, .int .i64 st, .slice oF5 k pF5, .string d, .int .i64 t] 31)) := blk_below HBv5_9.out bw
      have HOR6_10 : Hid ((w10).ownsRow w.heap.size 74 2 (.slice oR6 np pR6) np (flatF P)) := owns_wide ownR6 hb9.size
      have LOR6 : Hid (∀ g, (Value.ownBlock (.slice oR6 np pR6)) = some g → (w9).heap.size ≤ g) := fun g hg => owns_ge ownR6 hg
      have HIR6 : Hid (∀ g, (Value.ownBlock (.slice oR6 np pR6)) = some g → g < (w10).heap.size) := fun g hg => owns_lt ownR6 hg
      clear ownR6
      clear hb9 HOR3_9 HOQ4_9 HON5_9 HOV5_9 HOF5_9 HBv1_9 HBv2_9 HBv3_9 HBv4_9 HBv5_9 bw
      clear cv4_0 cv4_1 cv4_2 cv4_3 cv5_0 cv5_1 cv5_2 cv5_3 cv5_4 cv5_5 cv5_6
      go_upto_region 12 with fail
      obtain ⟨qv6, hqv6⟩ : ∃ q, q = (w10).heap.size := ⟨_, rfl⟩
      obtain ⟨w11, hW11⟩ : ∃ W, W = (w10).alloc (.cells #[.int .i64 rs, .slice oR6 np pR6, .string rb] 29) := ⟨_, rfl⟩
      have hz11 : (w10).heap.size = qv6 := hqv6.symm
      first | rw [← hW11, ← hqv6] | rw [← hW11]
      have hs11 : w11.heap.size = qv6 + 1 := by rw [hW11, ← hz11]; simp
      have bw : Below (w10).heap.size (w10) w11 := by rw [hW11]; exact (Below.refl _ _).alloc (Nat.le_refl _) _
      have hb11 : Below w.heap.size w (w11) := hb10.trans (bw.mono hb10.size)
      have HM11 : Hid ((w10).heap.size ≤ (w11).heap.size) := bw.size
      have HOR3_11 : Hid ((w11).ownsRow w.heap.size 74 2 (.slice oR3 np pR3) np (flatF P)) := owns_below HOR3_10.out bw (fun g hg => owns_lt HOR3_10.out hg)
      have HOQ4_11 : Hid ((w11).ownsRow w.heap.size 74 2 (.slice oQ4 n pQ4) n (flatF fs)) := owns_below HOQ4_10.out bw (fun g hg => owns_lt HOQ4_10.out hg)
      have HON5_11 : Hid ((w11).ownsRow w.heap.size 9 1 (.slice oN5 n1 pN5) n1 (xs.map Value.string)) := owns_below HON5_10.out bw (fun g hg => owns_lt HON5_10.out hg)
      have HOV5_11 : Hid ((w11).ownsRow w.heap.size 9 1 (.slice oV5 n2 pV5) n2 (ys.map Value.string)) := owns_below HOV5_10.out bw (fun g hg => owns_lt HOV5_10.out hg)
      have HOF5_11 : Hid ((w11).ownsRow w.heap.size 74 2 (.slice oF5 k pF5) k (flatF gs)) := owns_below HOF5_10.out bw (fun g hg => owns_lt HOF5_10.out hg)
      have HOR6_11 : Hid ((w11).ownsRow w.heap.size 74 2 (.slice oR6 np pR6) np (flatF P)) := owns_below HOR6_10.out bw (fun g hg => owns_lt HOR6_10.out hg)
      have HBv1_11 : Hid ((w11).heap[qv1]? = some (.cells #[.int .i64 m, .string p, .slice a n cap, .string b] 50)) := blk_below HBv1_10.out bw
      have HBv2_11 : Hid ((w11).heap[qv2]? = some (.cells #[.string op, .slice a1 n1 c1, .slice a2 n2 c2, .int .i64 st, .slice a3 k c3, .string d, .int .i64 t] 54)) := blk_below HBv2_10.out bw
      have HBv3_11 : Hid ((w11).heap[qv3]? = some (.cells #[.int .i64 rs, .slice oR3 np pR3, .string rb] 29)) := blk_below HBv3_10.out bw
      have HBv4_11 : Hid ((w11).heap[qv4]? = some (.cells #[.int .i64 m, .string p, .slice oQ4 n pQ4, .string b] 26)) := blk_below HBv4_10.out bw
      have HBv5_11 : Hid ((w11).heap[qv5]? = some (.cells #[.string op, .slice oN5 n1 pN5, .slice oV5 n2 pV5, .int .i64 st, .slice oF5 k pF5, .string d, .int .i64 t] 31)) := blk_below HBv5_10.out bw
      have HBv6_11 : Hid ((w11).heap[qv6]? = some (.cells #[.int .i64 rs, .slice oR6 np pR6, .string rb] 29)) := by show _ = _; rw [hW11, ← hz11]; exact heap_alloc_new _ _
      clear hb10 HOR3_10 HOQ4_10 HON5_10 HOV5_10 HOF5_10 HOR6_10 HBv1_10 HBv2_10 HBv3_10 HBv4_10 HBv5_10 bw hW11 hz11
      clear hs11 hqv6
      have cv3_0 : (w11).cell? ⟨qv3, 0, none⟩ = some (.int .i64 rs) := (cell_of HBv3_11.out 0).trans rfl
      have cv3_1 : (w11).cell? ⟨qv3, 1, none⟩ = some (.slice oR3 np pR3) := (cell_of HBv3_11.out 1).trans rfl
      have cv3_2 : (w11).cell? ⟨qv3, 2, none⟩ = some (.string rb) := (cell_of HBv3_11.out 2).trans rfl
      have cv6_0 : (w11).cell? ⟨qv6, 0, none⟩ = some (.int .i64 rs) := (cell_of HBv6_11.out 0).trans rfl
      have cv6_1 : (w11).cell? ⟨qv6, 1, none⟩ = some (.slice oR6 np pR6) := (cell_of HBv6_11.out 1).trans rfl
      have cv6_2 : (w11).cell? ⟨qv6, 2, none⟩ = some (.string rb) := (cell_of HBv6_11.out 2).trans rfl
      go_wp2_with fail
      refine (eqResp_any rs _ _ rb np _ _ P _ (FieldsV.of_owns HOR6_11.out) (FieldsV.of_owns HOR3_11.out) (by omega)).mono ?_
      rintro e w12 ⟨rfl, bw⟩
      have hb12 : Below w.heap.size w (w12) := hb11.trans (bw.mono hb11.size)
      have HM12 : Hid ((w11).heap.size ≤ (w12).heap.size) := bw.size
      have HOR3_12 : Hid ((w12).ownsRow w.heap.size 74 2 (.slice oR3 np pR3) np (flatF P)) := owns_below HOR3_11.out bw (fun g hg => owns_lt HOR3_11.out hg)
      have HOQ4_12 : Hid ((w12).ownsRow w.heap.size 74 2 (.slice oQ4 n pQ4) n (flatF fs)) := owns_below HOQ4_11.out bw (fun g hg => owns_lt HOQ4_11.out hg)
      have HON5_12 : Hid ((w12).ownsRow w.heap.size 9 1 (.slice oN5 n1 pN5) n1 (xs.map Value.string)) := owns_below HON5_11.out bw (fun g hg => owns_lt HON5_11.out hg)
      have HOV5_12 : Hid ((w12).ownsRow w.heap.size 9 1 (.slice oV5 n2 pV5) n2 (ys.map Value.string)) := owns_below HOV5_11.out bw (fun g hg => owns_lt HOV5_11.out hg)
      have HOF5_12 : Hid ((w12).ownsRow w.heap.size 74 2 (.slice oF5 k pF5) k (flatF gs)) := owns_below HOF5_11.out bw (fun g hg => owns_lt HOF5_11.out hg)
      have HOR6_12 : Hid ((w12).ownsRow w.heap.size 74 2 (.slice oR6 np pR6) np (flatF P)) := owns_below HOR6_11.out bw (fun g hg => owns_lt HOR6_11.out hg)
      have HBv1_12 : Hid ((w12).heap[qv1]? = some (.cells #[.int .i64 m, .string p, .slice a n cap, .string b] 50)) := blk_below HBv1_11.out bw
      have HBv2_12 : Hid ((w12).heap[qv2]? = some (.cells #[.string op, .slice a1 n1 c1, .slice a2 n2 c2, .int .i64 st, .slice a3 k c3, .string d, .int .i64 t] 54)) := blk_below HBv2_11.out bw
      have HBv3_12 : Hid ((w12).heap[qv3]? = some (.cells #[.int .i64 rs, .slice oR3 np pR3, .string rb] 29)) := blk_below HBv3_11.out bw
      have HBv4_12 : Hid ((w12).heap[qv4]? = some (.cells #[.int .i64 m, .string p, .slice oQ4 n pQ4, .string b] 26)) := blk_below HBv4_11.out bw
      have HBv5_12 : Hid ((w12).heap[qv5]? = some (.cells #[.string op, .slice oN5 n1 pN5, .slice oV5 n2 pV5, .int .i64 st, .slice oF5 k pF5, .string d, .int .i64 t] 31)) := blk_below HBv5_11.out bw
      have HBv6_12 : Hid ((w12).heap[qv6]? = some (.cells #[.int .i64 rs, .slice oR6 np pR6, .string rb] 29)) := blk_below HBv6_11.out bw
      clear hb11 HOR3_11 HOQ4_11 HON5_11 HOV5_11 HOF5_11 HOR6_11 HBv1_11 HBv2_11 HBv3_11 HBv4_11 HBv5_11 HBv6_11 bw
      clear cv3_0 cv3_1 cv3_2 cv6_0 cv6_1 cv6_2
      go_upto_region 14 with fail
      refine wp_region_held_drew (S := fun W => W.heap[qv4]? = some (.cells #[.int .i64 m, .string p, .slice oQ4 n pQ4, .string b] 26) ∧ W.heap[qv1]? = some (.cells #[.int .i64 m, .string p, .slice a n cap, .string b] 50)) (by kernel_rfl) ⟨HBv4_12.out, HBv1_12.out⟩ (fun _ => ?_)
      obtain ⟨w13, hX⟩ : ∃ X, X = w12.drew := ⟨_, rfl⟩
      have bw : Below w12.heap.size w12 w13 := by rw [hX]; exact (Below.refl _ _).drew
      rw [← hX]
      have hb13 : Below w.heap.size w (w13) := hb12.trans (bw.mono hb12.size)
      have HM13 : Hid ((w12).heap.size ≤ (w13).heap.size) := bw.size
      have HOR3_13 : Hid ((w13).ownsRow w.heap.size 74 2 (.slice oR3 np pR3) np (flatF P)) := owns_below HOR3_12.out bw (fun g hg => owns_lt HOR3_12.out hg)
      have HOQ4_13 : Hid ((w13).ownsRow w.heap.size 74 2 (.slice oQ4 n pQ4) n (flatF fs)) := owns_below HOQ4_12.out bw (fun g hg => owns_lt HOQ4_12.out hg)
      have HON5_13 : Hid ((w13).ownsRow w.heap.size 9 1 (.slice oN5 n1 pN5) n1 (xs.map Value.string)) := owns_below HON5_12.out bw (fun g hg => owns_lt HON5_12.out hg)
      have HOV5_13 : Hid ((w13).ownsRow w.heap.size 9 1 (.slice oV5 n2 pV5) n2 (ys.map Value.string)) := owns_below HOV5_12.out bw (fun g hg => owns_lt HOV5_12.out hg)
      have HOF5_13 : Hid ((w13).ownsRow w.heap.size 74 2 (.slice oF5 k pF5) k (flatF gs)) := owns_below HOF5_12.out bw (fun g hg => owns_lt HOF5_12.out hg)
      have HOR6_13 : Hid ((w13).ownsRow w.heap.size 74 2 (.slice oR6 np pR6) np (flatF P)) := owns_below HOR6_12.out bw (fun g hg => owns_lt HOR6_12.out hg)
      have HBv1_13 : Hid ((w13).heap[qv1]? = some (.cells #[.int .i64 m, .string p, .slice a n cap, .string b] 50)) := blk_below HBv1_12.out bw
      have HBv2_13 : Hid ((w13).heap[qv2]? = some (.cells #[.string op, .slice a1 n1 c1, .slice a2 n2 c2, .int .i64 st, .slice a3 k c3, .string d, .int .i64 t] 54)) := blk_below HBv2_12.out bw
      have HBv3_13 : Hid ((w13).heap[qv3]? = some (.cells #[.int .i64 rs, .slice oR3 np pR3, .string rb] 29)) := blk_below HBv3_12.out bw
      have HBv4_13 : Hid ((w13).heap[qv4]? = some (.cells #[.int .i64 m, .string p, .slice oQ4 n pQ4, .string b] 26)) := blk_below HBv4_12.out bw
      have HBv5_13 : Hid ((w13).heap[qv5]? = some (.cells #[.string op, .slice oN5 n1 pN5, .slice oV5 n2 pV5, .int .i64 st, .slice oF5 k pF5, .string d, .int .i64 t] 31)) := blk_below HBv5_12.out bw
      have HBv6_13 : Hid ((w13).heap[qv6]? = some (.cells #[.int .i64 rs, .slice oR6 np pR6, .string rb] 29)) := blk_below HBv6_12.out bw
      have hS13 : w13.heap[qv4]? = some (.cells #[.int .i64 m, .string p, .slice oQ4 n pQ4, .string b] 26) ∧ w13.heap[qv1]? = some (.cells #[.int .i64 m, .string p, .slice a n cap, .string b] 50) := ⟨HBv4_13.out, HBv1_13.out⟩
      clear hb12 HOR3_12 HOQ4_12 HON5_12 HOV5_12 HOF5_12 HOR6_12 HBv1_12 HBv2_12 HBv3_12 HBv4_12 HBv5_12 HBv6_12 bw hX
      refine wpAnyH_takeD (i := 0) (v := .agg #[.int .i64 m, .string p, .slice oQ4 n pQ4, .string b]) (some 44) rfl rfl (by kernel_rfl) (by kernel_rfl) (by kernel_rfl) (fun _ _ _ h => h) (Or.inl ⟨by rfl, by intro W hW; obtain ⟨hhv4, hhv1⟩ := hW; have y0 := (cell_of hhv4 0).trans rfl; have y1 := (cell_of hhv4 1).trans rfl; have y2 := (cell_of hhv4 2).trans rfl; have y3 := (cell_of hhv4 3).trans rfl; go_simp⟩) hS13 ?_
      simp only [Act.put, List.setIfInBounds_toArray, List.set_cons_zero, List.set_cons_succ]
      refine wpAnyH_takeD (i := 1) (v := .agg #[.int .i64 m, .string p, .slice a n cap, .string b]) (some 45) rfl rfl (by kernel_rfl) (by kernel_rfl) (by kernel_rfl) (fun _ _ _ h => h) (Or.inl ⟨by rfl, by intro W hW; obtain ⟨hhv4, hhv1⟩ := hW; have y0 := (cell_of hhv1 0).trans rfl; have y1 := (cell_of hhv1 1).trans rfl; have y2 := (cell_of hhv1 2).trans rfl; have y3 := (cell_of hhv1 3).trans rfl; go_simp⟩) hS13 ?_
      simp only [Act.put, List.setIfInBounds_toArray, List.set_cons_zero, List.set_cons_succ]
      refine wpAnyH_ready (rs := [2]) (by kernel_rfl) (by simp) ?_
      refine AllReadyH.cons rfl (fun K hK => ?_) AllReadyH.nil
      go_simp
      refine (toReq_any m p a n cap b fs w.heap.size _ (HA1.out _ hb13) hb13.size hm1).mono ?_
      rintro e w14 ⟨vv, rfl, ownQ7, bw⟩
      obtain ⟨oQ7, pQ7, rfl⟩ := slice_of_owns ownQ7
      have hb14 : Below w.heap.size w (w14) := hb13.trans (bw.mono hb13.size)
      have HM14 : Hid ((w13).heap.size ≤ (w14).heap.size) := bw.size
      have HOR3_14 : Hid ((w14).ownsRow w.heap.size 74 2 (.slice oR3 np pR3) np (flatF P)) := owns_below HOR3_13.out bw (fun g hg => owns_lt HOR3_13.out hg)
      have HOQ4_14 : Hid ((w14).ownsRow w.heap.size 74 2 (.slice oQ4 n pQ4) n (flatF fs)) := owns_below HOQ4_13.out bw (fun g hg => owns_lt HOQ4_13.out hg)
      have HON5_14 : Hid ((w14).ownsRow w.heap.size 9 1 (.slice oN5 n1 pN5) n1 (xs.map Value.string)) := owns_below HON5_13.out bw (fun g hg => owns_lt HON5_13.out hg)
      have HOV5_14 : Hid ((w14).ownsRow w.heap.size 9 1 (.slice oV5 n2 pV5) n2 (ys.map Value.string)) := owns_below HOV5_13.out bw (fun g hg => owns_lt HOV5_13.out hg)
      have HOF5_14 : Hid ((w14).ownsRow w.heap.size 74 2 (.slice oF5 k pF5) k (flatF gs)) := owns_below HOF5_13.out bw (fun g hg => owns_lt HOF5_13.out hg)
      have HOR6_14 : Hid ((w14).ownsRow w.heap.size 74 2 (.slice oR6 np pR6) np (flatF P)) := owns_below HOR6_13.out bw (fun g hg => owns_lt HOR6_13.out hg)
      have HBv1_14 : Hid ((w14).heap[qv1]? = some (.cells #[.int .i64 m, .string p, .slice a n cap, .string b] 50)) := blk_below HBv1_13.out bw
      have HBv2_14 : Hid ((w14).heap[qv2]? = some (.cells #[.string op, .slice a1 n1 c1, .slice a2 n2 c2, .int .i64 st, .slice a3 k c3, .string d, .int .i64 t] 54)) := blk_below HBv2_13.out bw
      have HBv3_14 : Hid ((w14).heap[qv3]? = some (.cells #[.int .i64 rs, .slice oR3 np pR3, .string rb] 29)) := blk_below HBv3_13.out bw
      have HBv4_14 : Hid ((w14).heap[qv4]? = some (.cells #[.int .i64 m, .string p, .slice oQ4 n pQ4, .string b] 26)) := blk_below HBv4_13.out bw
      have HBv5_14 : Hid ((w14).heap[qv5]? = some (.cells #[.string op, .slice oN5 n1 pN5, .slice oV5 n2 pV5, .int .i64 st, .slice oF5 k pF5, .string d, .int .i64 t] 31)) := blk_below HBv5_13.out bw
      have HBv6_14 : Hid ((w14).heap[qv6]? = some (.cells #[.int .i64 rs, .slice oR6 np pR6, .string rb] 29)) := blk_below HBv6_13.out bw
      have HOQ7_14 : Hid ((w14).ownsRow w.heap.size 74 2 (.slice oQ7 n pQ7) n (flatF fs)) := owns_wide ownQ7 hb13.size
      have LOQ7 : Hid (∀ g, (Value.ownBlock (.slice oQ7 n pQ7)) = some g → (w13).heap.size ≤ g) := fun g hg => owns_ge ownQ7 hg
      clear ownQ7
      clear hb13 HOR3_13 HOQ4_13 HON5_13 HOV5_13 HOF5_13 HOR6_13 HBv1_13 HBv2_13 HBv3_13 HBv4_13 HBv5_13 HBv6_13 bw
      have hS14 : w14.heap[qv4]? = some (.cells #[.int .i64 m, .string p, .slice oQ4 n pQ4, .string b] 26) ∧ w14.heap[qv1]? = some (.cells #[.int .i64 m, .string p, .slice a n cap, .string b] 50) := ⟨HBv4_14.out, HBv1_14.out⟩
      refine hK.out _ _ hS14 (fun _ => ?_)
      clear hK K hS13
      refine wpAnyH_ready (rs := [3]) (by kernel_rfl) (by simp) ?_
      refine AllReadyH.cons rfl (fun K hK => ?_) AllReadyH.nil
      go_simp
      refine (eqReq_any m p _ _ b n _ _ fs _ (FieldsV.of_owns HOQ4_14.out) (FieldsV.of_owns HOQ7_14.out) (by omega)).mono ?_
      rintro e w15 ⟨rfl, bw⟩
      have hb15 : Below w.heap.size w (w15) := hb14.trans (bw.mono hb14.size)
      have HM15 : Hid ((w14).heap.size ≤ (w15).heap.size) := bw.size
      have HOR3_15 : Hid ((w15).ownsRow w.heap.size 74 2 (.slice oR3 np pR3) np (flatF P)) := owns_below HOR3_14.out bw (fun g hg => owns_lt HOR3_14.out hg)
      have HOQ4_15 : Hid ((w15).ownsRow w.heap.size 74 2 (.slice oQ4 n pQ4) n (flatF fs)) := owns_below HOQ4_14.out bw (fun g hg => owns_lt HOQ4_14.out hg)
      have HON5_15 : Hid ((w15).ownsRow w.heap.size 9 1 (.slice oN5 n1 pN5) n1 (xs.map Value.string)) := owns_below HON5_14.out bw (fun g hg => owns_lt HON5_14.out hg)
      have HOV5_15 : Hid ((w15).ownsRow w.heap.size 9 1 (.slice oV5 n2 pV5) n2 (ys.map Value.string)) := owns_below HOV5_14.out bw (fun g hg => owns_lt HOV5_14.out hg)
      have HOF5_15 : Hid ((w15).ownsRow w.heap.size 74 2 (.slice oF5 k pF5) k (flatF gs)) := owns_below HOF5_14.out bw (fun g hg => owns_lt HOF5_14.out hg)
      have HOR6_15 : Hid ((w15).ownsRow w.heap.size 74 2 (.slice oR6 np pR6) np (flatF P)) := owns_below HOR6_14.out bw (fun g hg => owns_lt HOR6_14.out hg)
      have HOQ7_15 : Hid ((w15).ownsRow w.heap.size 74 2 (.slice oQ7 n pQ7) n (flatF fs)) := owns_below HOQ7_14.out bw (fun g hg => owns_lt HOQ7_14.out hg)
      have HBv1_15 : Hid ((w15).heap[qv1]? = some (.cells #[.int .i64 m, .string p, .slice a n cap, .string b] 50)) := blk_below HBv1_14.out bw
      have HBv2_15 : Hid ((w15).heap[qv2]? = some (.cells #[.string op, .slice a1 n1 c1, .slice a2 n2 c2, .int .i64 st, .slice a3 k c3, .string d, .int .i64 t] 54)) := blk_below HBv2_14.out bw
      have HBv3_15 : Hid ((w15).heap[qv3]? = some (.cells #[.int .i64 rs, .slice oR3 np pR3, .string rb] 29)) := blk_below HBv3_14.out bw
      have HBv4_15 : Hid ((w15).heap[qv4]? = some (.cells #[.int .i64 m, .string p, .slice oQ4 n pQ4, .string b] 26)) := blk_below HBv4_14.out bw
      have HBv5_15 : Hid ((w15).heap[qv5]? = some (.cells #[.string op, .slice oN5 n1 pN5, .slice oV5 n2 pV5, .int .i64 st, .slice oF5 k pF5, .string d, .int .i64 t] 31)) := blk_below HBv5_14.out bw
      have HBv6_15 : Hid ((w15).heap[qv6]? = some (.cells #[.int .i64 rs, .slice oR6 np pR6, .string rb] 29)) := blk_below HBv6_14.out bw
      clear hb14 HOR3_14 HOQ4_14 HON5_14 HOV5_14 HOF5_14 HOR6_14 HOQ7_14 HBv1_14 HBv2_14 HBv3_14 HBv4_14 HBv5_14 HBv6_14 bw
      have hS15 : w15.heap[qv4]? = some (.cells #[.int .i64 m, .string p, .slice oQ4 n pQ4, .string b] 26) ∧ w15.heap[qv1]? = some (.cells #[.int .i64 m, .string p, .slice a n cap, .string b] 50) := ⟨HBv4_15.out, HBv1_15.out⟩
      refine hK.out _ _ hS15 (fun _ => ?_)
      clear hK K hS14
      refine wpAnyH_takeD (i := 4) (v := .bool false) (some 48) rfl rfl (by kernel_rfl) (by kernel_rfl) (by kernel_rfl) (fun _ _ _ h => h) (Or.inl ⟨by rfl, by intro W _; go_simp⟩) hS15 ?_
      simp only [Act.put, List.setIfInBounds_toArray, List.set_cons_zero, List.set_cons_succ]
      clear hS15
      refine wpAnyH_done (by kernel_rfl) ?_ _
      go_upto_region 16 with fail
      refine wp_region_held_drew (S := fun W => W.heap[qv5]? = some (.cells #[.string op, .slice oN5 n1 pN5, .slice oV5 n2 pV5, .int .i64 st, .slice oF5 k pF5, .string d, .int .i64 t] 31) ∧ W.heap[qv2]? = some (.cells #[.string op, .slice a1 n1 c1, .slice a2 n2 c2, .int .i64 st, .slice a3 k c3, .string d, .int .i64 t] 54)) (by kernel_rfl) ⟨HBv5_15.out, HBv2_15.out⟩ (fun _ => ?_)
      obtain ⟨w16, hX⟩ : ∃ X, X = w15.drew := ⟨_, rfl⟩
      have bw : Below w15.heap.size w15 w16 := by rw [hX]; exact (Below.refl _ _).drew
      rw [← hX]
      have hb16 : Below w.heap.size w (w16) := hb15.trans (bw.mono hb15.size)
      have HM16 : Hid ((w15).heap.size ≤ (w16).heap.size) := bw.size
      have HOR3_16 : Hid ((w16).ownsRow w.heap.size 74 2 (.slice oR3 np pR3) np (flatF P)) := owns_below HOR3_15.out bw (fun g hg => owns_lt HOR3_15.out hg)
      have HOQ4_16 : Hid ((w16).ownsRow w.heap.size 74 2 (.slice oQ4 n pQ4) n (flatF fs)) := owns_below HOQ4_15.out bw (fun g hg => owns_lt HOQ4_15.out hg)
      have HON5_16 : Hid ((w16).ownsRow w.heap.size 9 1 (.slice oN5 n1 pN5) n1 (xs.map Value.string)) := owns_below HON5_15.out bw (fun g hg => owns_lt HON5_15.out hg)
      have HOV5_16 : Hid ((w16).ownsRow w.heap.size 9 1 (.slice oV5 n2 pV5) n2 (ys.map Value.string)) := owns_below HOV5_15.out bw (fun g hg => owns_lt HOV5_15.out hg)
      have HOF5_16 : Hid ((w16).ownsRow w.heap.size 74 2 (.slice oF5 k pF5) k (flatF gs)) := owns_below HOF5_15.out bw (fun g hg => owns_lt HOF5_15.out hg)
      have HOR6_16 : Hid ((w16).ownsRow w.heap.size 74 2 (.slice oR6 np pR6) np (flatF P)) := owns_below HOR6_15.out bw (fun g hg => owns_lt HOR6_15.out hg)
      have HOQ7_16 : Hid ((w16).ownsRow w.heap.size 74 2 (.slice oQ7 n pQ7) n (flatF fs)) := owns_below HOQ7_15.out bw (fun g hg => owns_lt HOQ7_15.out hg)
      have HBv1_16 : Hid ((w16).heap[qv1]? = some (.cells #[.int .i64 m, .string p, .slice a n cap, .string b] 50)) := blk_below HBv1_15.out bw
      have HBv2_16 : Hid ((w16).heap[qv2]? = some (.cells #[.string op, .slice a1 n1 c1, .slice a2 n2 c2, .int .i64 st, .slice a3 k c3, .string d, .int .i64 t] 54)) := blk_below HBv2_15.out bw
      have HBv3_16 : Hid ((w16).heap[qv3]? = some (.cells #[.int .i64 rs, .slice oR3 np pR3, .string rb] 29)) := blk_below HBv3_15.out bw
      have HBv4_16 : Hid ((w16).heap[qv4]? = some (.cells #[.int .i64 m, .string p, .slice oQ4 n pQ4, .string b] 26)) := blk_below HBv4_15.out bw
      have HBv5_16 : Hid ((w16).heap[qv5]? = some (.cells #[.string op, .slice oN5 n1 pN5, .slice oV5 n2 pV5, .int .i64 st, .slice oF5 k pF5, .string d, .int .i64 t] 31)) := blk_below HBv5_15.out bw
      have HBv6_16 : Hid ((w16).heap[qv6]? = some (.cells #[.int .i64 rs, .slice oR6 np pR6, .string rb] 29)) := blk_below HBv6_15.out bw
      have hS16 : w16.heap[qv5]? = some (.cells #[.string op, .slice oN5 n1 pN5, .slice oV5 n2 pV5, .int .i64 st, .slice oF5 k pF5, .string d, .int .i64 t] 31) ∧ w16.heap[qv2]? = some (.cells #[.string op, .slice a1 n1 c1, .slice a2 n2 c2, .int .i64 st, .slice a3 k c3, .string d, .int .i64 t] 54) := ⟨HBv5_16.out, HBv2_16.out⟩
      clear hb15 HOR3_15 HOQ4_15 HON5_15 HOV5_15 HOF5_15 HOR6_15 HOQ7_15 HBv1_15 HBv2_15 HBv3_15 HBv4_15 HBv5_15 HBv6_15 bw hX
      refine wpAnyH_takeD (i := 0) (v := .agg #[.string op, .slice oN5 n1 pN5, .slice oV5 n2 pV5, .int .i64 st, .slice oF5 k pF5, .string d, .int .i64 t]) (some 49) rfl rfl (by kernel_rfl) (by kernel_rfl) (by kernel_rfl) (fun _ _ _ h => h) (Or.inl ⟨by rfl, by intro W hW; obtain ⟨hhv5, hhv2⟩ := hW; have y0 := (cell_of hhv5 0).trans rfl; have y1 := (cell_of hhv5 1).trans rfl; have y2 := (cell_of hhv5 2).trans rfl; have y3 := (cell_of hhv5 3).trans rfl; have y4 := (cell_of hhv5 4).trans rfl; have y5 := (cell_of hhv5 5).trans rfl; have y6 := (cell_of hhv5 6).trans rfl; go_simp⟩) hS16 ?_
      simp only [Act.put, List.setIfInBounds_toArray, List.set_cons_zero, List.set_cons_succ]
      refine wpAnyH_takeD (i := 1) (v := .agg #[.string op, .slice a1 n1 c1, .slice a2 n2 c2, .int .i64 st, .slice a3 k c3, .string d, .int .i64 t]) (some 50) rfl rfl (by kernel_rfl) (by kernel_rfl) (by kernel_rfl) (fun _ _ _ h => h) (Or.inl ⟨by rfl, by intro W hW; obtain ⟨hhv5, hhv2⟩ := hW; have y0 := (cell_of hhv2 0).trans rfl; have y1 := (cell_of hhv2 1).trans rfl; have y2 := (cell_of hhv2 2).trans rfl; have y3 := (cell_of hhv2 3).trans rfl; have y4 := (cell_of hhv2 4).trans rfl; have y5 := (cell_of hhv2 5).trans rfl; have y6 := (cell_of hhv2 6).trans rfl; go_simp⟩) hS16 ?_
      simp only [Act.put, List.setIfInBounds_toArray, List.set_cons_zero, List.set_cons_succ]
      refine wpAnyH_ready (rs := [2]) (by kernel_rfl) (by simp) ?_
      refine AllReadyH.cons rfl (fun K hK => ?_) AllReadyH.nil
      go_simp
      refine (toObj_any op a1 n1 c1 xs a2 n2 c2 ys st a3 k c3 gs d t w.heap.size _ (HX1.out _ hb16) (HX2.out _ hb16) (HX3.out _ hb16) hb16.size hm3 hm4 hm5).mono ?_
      rintro e w17 ⟨vv1, vv2, vv3, rfl, ⟨ownN8, ownV8, ownF8, ne8⟩, bw⟩
      obtain ⟨oN8, pN8, rfl⟩ := slice_of_owns ownN8
      obtain ⟨oV8, pV8, rfl⟩ := slice_of_owns ownV8
      obtain ⟨oF8, pF8, rfl⟩ := slice_of_owns ownF8
      have AP8 : Hid (∀ j, (Value.slice oN8 n1 pN8).ownBlock = some j → (Value.slice oV8 n2 pV8).ownBlock ≠ some j) := ne8
      clear ne8
      have hb17 : Below w.heap.size w (w17) := hb16.trans (bw.mono hb16.size)
      have HM17 : Hid ((w16).heap.size ≤ (w17).heap.size) := bw.size
      have HOR3_17 : Hid ((w17).ownsRow w.heap.size 74 2 (.slice oR3 np pR3) np (flatF P)) := owns_below HOR3_16.out bw (fun g hg => owns_lt HOR3_16.out hg)
      have HOQ4_17 : Hid ((w17).ownsRow w.heap.size 74 2 (.slice oQ4 n pQ4) n (flatF fs)) := owns_below HOQ4_16.out bw (fun g hg => owns_lt HOQ4_16.out hg)
      have HON5_17 : Hid ((w17).ownsRow w.heap.size 9 1 (.slice oN5 n1 pN5) n1 (xs.map Value.string)) := owns_below HON5_16.out bw (fun g hg => owns_lt HON5_16.out hg)
      have HOV5_17 : Hid ((w17).ownsRow w.heap.size 9 1 (.slice oV5 n2 pV5) n2 (ys.map Value.string)) := owns_below HOV5_16.out bw (fun g hg => owns_lt HOV5_16.out hg)
      have HOF5_17 : Hid ((w17).ownsRow w.heap.size 74 2 (.slice oF5 k pF5) k (flatF gs)) := owns_below HOF5_16.out bw (fun g hg => owns_lt HOF5_16.out hg)
      have HOR6_17 : Hid ((w17).ownsRow w.heap.size 74 2 (.slice oR6 np pR6) np (flatF P)) := owns_below HOR6_16.out bw (fun g hg => owns_lt HOR6_16.out hg)
      have HOQ7_17 : Hid ((w17).ownsRow w.heap.size 74 2 (.slice oQ7 n pQ7) n (flatF fs)) := owns_below HOQ7_16.out bw (fun g hg => owns_lt HOQ7_16.out hg)
      have HBv1_17 : Hid ((w17).heap[qv1]? = some (.cells #[.int .i64 m, .string p, .slice a n cap, .string b] 50)) := blk_below HBv1_16.out bw
      have HBv2_17 : Hid ((w17).heap[qv2]? = some (.cells #[.string op, .slice a1 n1 c1, .slice a2 n2 c2, .int .i64 st, .slice a3 k c3, .string d, .int .i64 t] 54)) := blk_below HBv2_16.out bw
      have HBv3_17 : Hid ((w17).heap[qv3]? = some (.cells #[.int .i64 rs, .slice oR3 np pR3, .string rb] 29)) := blk_below HBv3_16.out bw
      have HBv4_17 : Hid ((w17).heap[qv4]? = some (.cells #[.int .i64 m, .string p, .slice oQ4 n pQ4, .string b] 26)) := blk_below HBv4_16.out bw
      have HBv5_17 : Hid ((w17).heap[qv5]? = some (.cells #[.string op, .slice oN5 n1 pN5, .slice oV5 n2 pV5, .int .i64 st, .slice oF5 k pF5, .string d, .int .i64 t] 31)) := blk_below HBv5_16.out bw
      have HBv6_17 : Hid ((w17).heap[qv6]? = some (.cells #[.int .i64 rs, .slice oR6 np pR6, .string rb] 29)) := blk_below HBv6_16.out bw
      have HON8_17 : Hid ((w17).ownsRow w.heap.size 9 1 (.slice oN8 n1 pN8) n1 (xs.map Value.string)) := owns_wide ownN8 hb16.size
      have LON8 : Hid (∀ g, (Value.ownBlock (.slice oN8 n1 pN8)) = some g → (w16).heap.size ≤ g) := fun g hg => owns_ge ownN8 hg
      clear ownN8
      have HOV8_17 : Hid ((w17).ownsRow w.heap.size 9 1 (.slice oV8 n2 pV8) n2 (ys.map Value.string)) := owns_wide ownV8 hb16.size
      have LOV8 : Hid (∀ g, (Value.ownBlock (.slice oV8 n2 pV8)) = some g → (w16).heap.size ≤ g) := fun g hg => owns_ge ownV8 hg
      clear ownV8
      have HOF8_17 : Hid ((w17).ownsRow w.heap.size 74 2 (.slice oF8 k pF8) k (flatF gs)) := owns_wide ownF8 hb16.size
      have LOF8 : Hid (∀ g, (Value.ownBlock (.slice oF8 k pF8)) = some g → (w16).heap.size ≤ g) := fun g hg => owns_ge ownF8 hg
      clear ownF8
      clear hb16 HOR3_16 HOQ4_16 HON5_16 HOV5_16 HOF5_16 HOR6_16 HOQ7_16 HBv1_16 HBv2_16 HBv3_16 HBv4_16 HBv5_16 HBv6_16 bw
      have hS17 : w17.heap[qv5]? = some (.cells #[.string op, .slice oN5 n1 pN5, .slice oV5 n2 pV5, .int .i64 st, .slice oF5 k pF5, .string d, .int .i64 t] 31) ∧ w17.heap[qv2]? = some (.cells #[.string op, .slice a1 n1 c1, .slice a2 n2 c2, .int .i64 st, .slice a3 k c3, .string d, .int .i64 t] 54) := ⟨HBv5_17.out, HBv2_17.out⟩
      refine hK.out _ _ hS17 (fun _ => ?_)
      clear hK K hS16
      refine wpAnyH_ready (rs := [3]) (by kernel_rfl) (by simp) ?_
      refine AllReadyH.cons rfl (fun K hK => ?_) AllReadyH.nil
      go_simp
      refine (eqObj_any op n1 xs n2 ys st k gs d t _ _ _ _ _ _ _ _ _ ⟨HON5_17.out, HOV5_17.out, HOF5_17.out, AP5.out⟩ ⟨HON8_17.out, HOV8_17.out, HOF8_17.out, AP8.out⟩ (by omega) (by omega) (by omega)).mono ?_
      rintro e w18 ⟨rfl, bw⟩
      have hb18 : Below w.heap.size w (w18) := hb17.trans (bw.mono hb17.size)
      have HOR3_18 : Hid ((w18).ownsRow w.heap.size 74 2 (.slice oR3 np pR3) np (flatF P)) := owns_below HOR3_17.out bw (fun g hg => owns_lt HOR3_17.out hg)
      have HOQ4_18 : Hid ((w18).ownsRow w.heap.size 74 2 (.slice oQ4 n pQ4) n (flatF fs)) := owns_below HOQ4_17.out bw (fun g hg => owns_lt HOQ4_17.out hg)
      have HON5_18 : Hid ((w18).ownsRow w.heap.size 9 1 (.slice oN5 n1 pN5) n1 (xs.map Value.string)) := owns_below HON5_17.out bw (fun g hg => owns_lt HON5_17.out hg)
      have HOV5_18 : Hid ((w18).ownsRow w.heap.size 9 1 (.slice oV5 n2 pV5) n2 (ys.map Value.string)) := owns_below HOV5_17.out bw (fun g hg => owns_lt HOV5_17.out hg)
      have HOF5_18 : Hid ((w18).ownsRow w.heap.size 74 2 (.slice oF5 k pF5) k (flatF gs)) := owns_below HOF5_17.out bw (fun g hg => owns_lt HOF5_17.out hg)
      have HOR6_18 : Hid ((w18).ownsRow w.heap.size 74 2 (.slice oR6 np pR6) np (flatF P)) := owns_below HOR6_17.out bw (fun g hg => owns_lt HOR6_17.out hg)
      have HOQ7_18 : Hid ((w18).ownsRow w.heap.size 74 2 (.slice oQ7 n pQ7) n (flatF fs)) := owns_below HOQ7_17.out bw (fun g hg => owns_lt HOQ7_17.out hg)
      have HON8_18 : Hid ((w18).ownsRow w.heap.size 9 1 (.slice oN8 n1 pN8) n1 (xs.map Value.string)) := owns_below HON8_17.out bw (fun g hg => owns_lt HON8_17.out hg)
      have HOV8_18 : Hid ((w18).ownsRow w.heap.size 9 1 (.slice oV8 n2 pV8) n2 (ys.map Value.string)) := owns_below HOV8_17.out bw (fun g hg => owns_lt HOV8_17.out hg)
      have HOF8_18 : Hid ((w18).ownsRow w.heap.size 74 2 (.slice oF8 k pF8) k (flatF gs)) := owns_below HOF8_17.out bw (fun g hg => owns_lt HOF8_17.out hg)
      have HBv1_18 : Hid ((w18).heap[qv1]? = some (.cells #[.int .i64 m, .string p, .slice a n cap, .string b] 50)) := blk_below HBv1_17.out bw
      have HBv2_18 : Hid ((w18).heap[qv2]? = some (.cells #[.string op, .slice a1 n1 c1, .slice a2 n2 c2, .int .i64 st, .slice a3 k c3, .string d, .int .i64 t] 54)) := blk_below HBv2_17.out bw
      have HBv3_18 : Hid ((w18).heap[qv3]? = some (.cells #[.int .i64 rs, .slice oR3 np pR3, .string rb] 29)) := blk_below HBv3_17.out bw
      have HBv4_18 : Hid ((w18).heap[qv4]? = some (.cells #[.int .i64 m, .string p, .slice oQ4 n pQ4, .string b] 26)) := blk_below HBv4_17.out bw
      have HBv5_18 : Hid ((w18).heap[qv5]? = some (.cells #[.string op, .slice oN5 n1 pN5, .slice oV5 n2 pV5, .int .i64 st, .slice oF5 k pF5, .string d, .int .i64 t] 31)) := blk_below HBv5_17.out bw
      have HBv6_18 : Hid ((w18).heap[qv6]? = some (.cells #[.int .i64 rs, .slice oR6 np pR6, .string rb] 29)) := blk_below HBv6_17.out bw
      clear hb17 HOR3_17 HOQ4_17 HON5_17 HOV5_17 HOF5_17 HOR6_17 HOQ7_17 HON8_17 HOV8_17 HOF8_17 HBv1_17 HBv2_17 HBv3_17 HBv4_17 HBv5_17 HBv6_17 bw
      have hS18 : w18.heap[qv5]? = some (.cells #[.string op, .slice oN5 n1 pN5, .slice oV5 n2 pV5, .int .i64 st, .slice oF5 k pF5, .string d, .int .i64 t] 31) ∧ w18.heap[qv2]? = some (.cells #[.string op, .slice a1 n1 c1, .slice a2 n2 c2, .int .i64 st, .slice a3 k c3, .string d, .int .i64 t] 54) := ⟨HBv5_18.out, HBv2_18.out⟩
      refine hK.out _ _ hS18 (fun _ => ?_)
      clear hK K hS17
      refine wpAnyH_takeD (i := 4) (v := .bool false) (some 53) rfl rfl (by kernel_rfl) (by kernel_rfl) (by kernel_rfl) (fun _ _ _ h => h) (Or.inl ⟨by rfl, by intro W _; go_simp⟩) hS18 ?_
      simp only [Act.put, List.setIfInBounds_toArray, List.set_cons_zero, List.set_cons_succ]
      clear hS18
      refine wpAnyH_done (by kernel_rfl) ?_ _
      have cv4_0 : (w18).cell? ⟨qv4, 0, none⟩ = some (.int .i64 m) := (cell_of HBv4_18.out 0).trans rfl
      have cv4_1 : (w18).cell? ⟨qv4, 1, none⟩ = some (.string p) := (cell_of HBv4_18.out 1).trans rfl
      have cv4_2 : (w18).cell? ⟨qv4, 2, none⟩ = some (.slice oQ4 n pQ4) := (cell_of HBv4_18.out 2).trans rfl
      have cv4_3 : (w18).cell? ⟨qv4, 3, none⟩ = some (.string b) := (cell_of HBv4_18.out 3).trans rfl
      go_wp2_with fail
      refine (markReqFrom_any m p _ b n _ fs _ HOQ4_18.out hb18.size 1 (by omega) (by omega)).mono ?_
      rintro e w19 ⟨rfl, mk, bm, far⟩
      have hb19 : Below w.heap.size w w19 := hb18.trans bm
      have HOR3_19 : Hid ((w19).ownsRow w.heap.size 74 2 (.slice oR3 np pR3) np (flatF P)) := owns_same HOR3_18.out (fun g hg => far g (owns_lt HOR3_18.out hg) (fun e => by have h1 := LOQ4.out g e; have h2 := HIR3.out g hg; have := HM6.out; omega))
      have HON5_19 : Hid ((w19).ownsRow w.heap.size 9 1 (.slice oN5 n1 pN5) n1 (xs.map Value.string)) := owns_same HON5_18.out (fun g hg => far g (owns_lt HON5_18.out hg) (own_type_ne HON5_18.out HOQ4_18.out (by decide) g hg))
      have HOV5_19 : Hid ((w19).ownsRow w.heap.size 9 1 (.slice oV5 n2 pV5) n2 (ys.map Value.string)) := owns_same HOV5_18.out (fun g hg => far g (owns_lt HOV5_18.out hg) (own_type_ne HOV5_18.out HOQ4_18.out (by decide) g hg))
      have HOF5_19 : Hid ((w19).ownsRow w.heap.size 74 2 (.slice oF5 k pF5) k (flatF gs)) := owns_same HOF5_18.out (fun g hg => far g (owns_lt HOF5_18.out hg) (fun e => by have h1 := LOF5.out g hg; have h2 := HIQ4.out g e; have := HM7.out; have := HM8.out; omega))
      have HOR6_19 : Hid ((w19).ownsRow w.heap.size 74 2 (.slice oR6 np pR6) np (flatF P)) := owns_same HOR6_18.out (fun g hg => far g (owns_lt HOR6_18.out hg) (fun e => by have h1 := LOR6.out g hg; have h2 := HIQ4.out g e; have := HM7.out; have := HM8.out; have := HM9.out; have := HM10.out; omega))
      have HOQ7_19 : Hid ((w19).ownsRow w.heap.size 74 2 (.slice oQ7 n pQ7) n (flatF fs)) := owns_same HOQ7_18.out (fun g hg => far g (owns_lt HOQ7_18.out hg) (fun e => by have h1 := LOQ7.out g hg; have h2 := HIQ4.out g e; have := HM7.out; have := HM8.out; have := HM9.out; have := HM10.out; have := HM11.out; have := HM12.out; have := HM13.out; have := HM14.out; omega))
      have HON8_19 : Hid ((w19).ownsRow w.heap.size 9 1 (.slice oN8 n1 pN8) n1 (xs.map Value.string)) := owns_same HON8_18.out (fun g hg => far g (owns_lt HON8_18.out hg) (own_type_ne HON8_18.out HOQ4_18.out (by decide) g hg))
      have HOV8_19 : Hid ((w19).ownsRow w.heap.size 9 1 (.slice oV8 n2 pV8) n2 (ys.map Value.string)) := owns_same HOV8_18.out (fun g hg => far g (owns_lt HOV8_18.out hg) (own_type_ne HOV8_18.out HOQ4_18.out (by decide) g hg))
      have HOF8_19 : Hid ((w19).ownsRow w.heap.size 74 2 (.slice oF8 k pF8) k (flatF gs)) := owns_same HOF8_18.out (fun g hg => far g (owns_lt HOF8_18.out hg) (fun e => by have h1 := LOF8.out g hg; have h2 := HIQ4.out g e; have := HM7.out; have := HM8.out; have := HM9.out; have := HM10.out; have := HM11.out; have := HM12.out; have := HM13.out; have := HM14.out; have := HM15.out; have := HM16.out; have := HM17.out; omega))
      have HBv1_19 : Hid ((w19).heap[qv1]? = some (.cells #[.int .i64 m, .string p, .slice a n cap, .string b] 50)) := blk_far HBv1_18.out far HOQ4_18.out (by decide)
      have HBv2_19 : Hid ((w19).heap[qv2]? = some (.cells #[.string op, .slice a1 n1 c1, .slice a2 n2 c2, .int .i64 st, .slice a3 k c3, .string d, .int .i64 t] 54)) := blk_far HBv2_18.out far HOQ4_18.out (by decide)
      have HBv3_19 : Hid ((w19).heap[qv3]? = some (.cells #[.int .i64 rs, .slice oR3 np pR3, .string rb] 29)) := blk_far HBv3_18.out far HOQ4_18.out (by decide)
      have HBv4_19 : Hid ((w19).heap[qv4]? = some (.cells #[.int .i64 m, .string p, .slice oQ4 n pQ4, .string b] 26)) := blk_far HBv4_18.out far HOQ4_18.out (by decide)
      have HBv5_19 : Hid ((w19).heap[qv5]? = some (.cells #[.string op, .slice oN5 n1 pN5, .slice oV5 n2 pV5, .int .i64 st, .slice oF5 k pF5, .string d, .int .i64 t] 31)) := blk_far HBv5_18.out far HOQ4_18.out (by decide)
      have HBv6_19 : Hid ((w19).heap[qv6]? = some (.cells #[.int .i64 rs, .slice oR6 np pR6, .string rb] 29)) := blk_far HBv6_18.out far HOQ4_18.out (by decide)
      have HOQ4_19 : Hid ((w19).ownsRow w.heap.size 74 2 (.slice oQ4 n pQ4) n (flatF (mkG 1 fs n))) := mk
      clear hb18 HOR3_18 HOQ4_18 HON5_18 HOV5_18 HOF5_18 HOR6_18 HOQ7_18 HON8_18 HOV8_18 HOF8_18 HBv1_18 HBv2_18 HBv3_18 HBv4_18 HBv5_18 HBv6_18 mk bm far
      clear cv4_0 cv4_1 cv4_2 cv4_3
      have cv5_0 : (w19).cell? ⟨qv5, 0, none⟩ = some (.string op) := (cell_of HBv5_19.out 0).trans rfl
      have cv5_1 : (w19).cell? ⟨qv5, 1, none⟩ = some (.slice oN5 n1 pN5) := (cell_of HBv5_19.out 1).trans rfl
      have cv5_2 : (w19).cell? ⟨qv5, 2, none⟩ = some (.slice oV5 n2 pV5) := (cell_of HBv5_19.out 2).trans rfl
      have cv5_3 : (w19).cell? ⟨qv5, 3, none⟩ = some (.int .i64 st) := (cell_of HBv5_19.out 3).trans rfl
      have cv5_4 : (w19).cell? ⟨qv5, 4, none⟩ = some (.slice oF5 k pF5) := (cell_of HBv5_19.out 4).trans rfl
      have cv5_5 : (w19).cell? ⟨qv5, 5, none⟩ = some (.string d) := (cell_of HBv5_19.out 5).trans rfl
      have cv5_6 : (w19).cell? ⟨qv5, 6, none⟩ = some (.int .i64 t) := (cell_of HBv5_19.out 6).trans rfl
      rw [show (((1 : Nat) : Int) + 2 * (n : Int)) = ((1 + 2 * n : Nat) : Int) by omega]
      go_wp2_with fail
      refine (markObj_any op n1 xs n2 ys st k gs d t _ _ _ _ _ ⟨HON5_19.out, HOV5_19.out, HOF5_19.out, AP5.out⟩ hb19.size (1 + 2 * n) (by omega) (by omega)).mono ?_
      rintro e w20 ⟨rfl, ⟨mk0, mk1, mk2, _⟩, bm, far⟩
      have hb20 : Below w.heap.size w w20 := hb19.trans bm
      have HOR3_20 : Hid ((w20).ownsRow w.heap.size 74 2 (.slice oR3 np pR3) np (flatF P)) := owns_same HOR3_19.out (fun g hg => far g (owns_lt HOR3_19.out hg) (own_type_ne HOR3_19.out HON5_19.out (by decide) g hg) (own_type_ne HOR3_19.out HOV5_19.out (by decide) g hg) (fun e => by have h1 := LOF5.out g e; have h2 := HIR3.out g hg; have := HM6.out; have := HM7.out; have := HM8.out; omega))
      have HOQ4_20 : Hid ((w20).ownsRow w.heap.size 74 2 (.slice oQ4 n pQ4) n (flatF (mkG 1 fs n))) := owns_same HOQ4_19.out (fun g hg => far g (owns_lt HOQ4_19.out hg) (own_type_ne HOQ4_19.out HON5_19.out (by decide) g hg) (own_type_ne HOQ4_19.out HOV5_19.out (by decide) g hg) (fun e => by have h1 := LOF5.out g e; have h2 := HIQ4.out g hg; have := HM7.out; have := HM8.out; omega))
      have HOR6_20 : Hid ((w20).ownsRow w.heap.size 74 2 (.slice oR6 np pR6) np (flatF P)) := owns_same HOR6_19.out (fun g hg => far g (owns_lt HOR6_19.out hg) (own_type_ne HOR6_19.out HON5_19.out (by decide) g hg) (own_type_ne HOR6_19.out HOV5_19.out (by decide) g hg) (fun e => by have h1 := LOR6.out g hg; have h2 := HIF5.out g e; have := HM9.out; have := HM10.out; omega))
      have HOQ7_20 : Hid ((w20).ownsRow w.heap.size 74 2 (.slice oQ7 n pQ7) n (flatF fs)) := owns_same HOQ7_19.out (fun g hg => far g (owns_lt HOQ7_19.out hg) (own_type_ne HOQ7_19.out HON5_19.out (by decide) g hg) (own_type_ne HOQ7_19.out HOV5_19.out (by decide) g hg) (fun e => by have h1 := LOQ7.out g hg; have h2 := HIF5.out g e; have := HM9.out; have := HM10.out; have := HM11.out; have := HM12.out; have := HM13.out; have := HM14.out; omega))
      have HON8_20 : Hid ((w20).ownsRow w.heap.size 9 1 (.slice oN8 n1 pN8) n1 (xs.map Value.string)) := owns_same HON8_19.out (fun g hg => far g (owns_lt HON8_19.out hg) (fun e => by have h1 := LON8.out g hg; have h2 := HIN5.out g e; have := HM9.out; have := HM10.out; have := HM11.out; have := HM12.out; have := HM13.out; have := HM14.out; have := HM15.out; have := HM16.out; have := HM17.out; omega) (fun e => by have h1 := LON8.out g hg; have h2 := HIV5.out g e; have := HM9.out; have := HM10.out; have := HM11.out; have := HM12.out; have := HM13.out; have := HM14.out; have := HM15.out; have := HM16.out; have := HM17.out; omega) (own_type_ne HON8_19.out HOF5_19.out (by decide) g hg))
      have HOV8_20 : Hid ((w20).ownsRow w.heap.size 9 1 (.slice oV8 n2 pV8) n2 (ys.map Value.string)) := owns_same HOV8_19.out (fun g hg => far g (owns_lt HOV8_19.out hg) (fun e => by have h1 := LOV8.out g hg; have h2 := HIN5.out g e; have := HM9.out; have := HM10.out; have := HM11.out; have := HM12.out; have := HM13.out; have := HM14.out; have := HM15.out; have := HM16.out; have := HM17.out; omega) (fun e => by have h1 := LOV8.out g hg; have h2 := HIV5.out g e; have := HM9.out; have := HM10.out; have := HM11.out; have := HM12.out; have := HM13.out; have := HM14.out; have := HM15.out; have := HM16.out; have := HM17.out; omega) (own_type_ne HOV8_19.out HOF5_19.out (by decide) g hg))
      have HOF8_20 : Hid ((w20).ownsRow w.heap.size 74 2 (.slice oF8 k pF8) k (flatF gs)) := owns_same HOF8_19.out (fun g hg => far g (owns_lt HOF8_19.out hg) (own_type_ne HOF8_19.out HON5_19.out (by decide) g hg) (own_type_ne HOF8_19.out HOV5_19.out (by decide) g hg) (fun e => by have h1 := LOF8.out g hg; have h2 := HIF5.out g e; have := HM9.out; have := HM10.out; have := HM11.out; have := HM12.out; have := HM13.out; have := HM14.out; have := HM15.out; have := HM16.out; have := HM17.out; omega))
      have HBv1_20 : Hid ((w20).heap[qv1]? = some (.cells #[.int .i64 m, .string p, .slice a n cap, .string b] 50)) := (far _ (Array.getElem?_eq_some_iff.1 HBv1_19.out).1 (fun e => own_ne HON5_19.out HBv1_19.out (by decide) _ e rfl) (fun e => own_ne HOV5_19.out HBv1_19.out (by decide) _ e rfl) (fun e => own_ne HOF5_19.out HBv1_19.out (by decide) _ e rfl)).trans HBv1_19.out
      have HBv2_20 : Hid ((w20).heap[qv2]? = some (.cells #[.string op, .slice a1 n1 c1, .slice a2 n2 c2, .int .i64 st, .slice a3 k c3, .string d, .int .i64 t] 54)) := (far _ (Array.getElem?_eq_some_iff.1 HBv2_19.out).1 (fun e => own_ne HON5_19.out HBv2_19.out (by decide) _ e rfl) (fun e => own_ne HOV5_19.out HBv2_19.out (by decide) _ e rfl) (fun e => own_ne HOF5_19.out HBv2_19.out (by decide) _ e rfl)).trans HBv2_19.out
      have HBv3_20 : Hid ((w20).heap[qv3]? = some (.cells #[.int .i64 rs, .slice oR3 np pR3, .string rb] 29)) := (far _ (Array.getElem?_eq_some_iff.1 HBv3_19.out).1 (fun e => own_ne HON5_19.out HBv3_19.out (by decide) _ e rfl) (fun e => own_ne HOV5_19.out HBv3_19.out (by decide) _ e rfl) (fun e => own_ne HOF5_19.out HBv3_19.out (by decide) _ e rfl)).trans HBv3_19.out
      have HBv4_20 : Hid ((w20).heap[qv4]? = some (.cells #[.int .i64 m, .string p, .slice oQ4 n pQ4, .string b] 26)) := (far _ (Array.getElem?_eq_some_iff.1 HBv4_19.out).1 (fun e => own_ne HON5_19.out HBv4_19.out (by decide) _ e rfl) (fun e => own_ne HOV5_19.out HBv4_19.out (by decide) _ e rfl) (fun e => own_ne HOF5_19.out HBv4_19.out (by decide) _ e rfl)).trans HBv4_19.out
      have HBv5_20 : Hid ((w20).heap[qv5]? = some (.cells #[.string op, .slice oN5 n1 pN5, .slice oV5 n2 pV5, .int .i64 st, .slice oF5 k pF5, .string d, .int .i64 t] 31)) := (far _ (Array.getElem?_eq_some_iff.1 HBv5_19.out).1 (fun e => own_ne HON5_19.out HBv5_19.out (by decide) _ e rfl) (fun e => own_ne HOV5_19.out HBv5_19.out (by decide) _ e rfl) (fun e => own_ne HOF5_19.out HBv5_19.out (by decide) _ e rfl)).trans HBv5_19.out
      have HBv6_20 : Hid ((w20).heap[qv6]? = some (.cells #[.int .i64 rs, .slice oR6 np pR6, .string rb] 29)) := (far _ (Array.getElem?_eq_some_iff.1 HBv6_19.out).1 (fun e => own_ne HON5_19.out HBv6_19.out (by decide) _ e rfl) (fun e => own_ne HOV5_19.out HBv6_19.out (by decide) _ e rfl) (fun e => own_ne HOF5_19.out HBv6_19.out (by decide) _ e rfl)).trans HBv6_19.out
      have HON5_20 : Hid ((w20).ownsRow w.heap.size 9 1 (.slice oN5 n1 pN5) n1 ((mkT (1 + 2 * n) xs n1).map Value.string)) := mk0
      have HOV5_20 : Hid ((w20).ownsRow w.heap.size 9 1 (.slice oV5 n2 pV5) n2 ((mkT (1 + 2 * n + n1) ys n2).map Value.string)) := mk1
      have HOF5_20 : Hid ((w20).ownsRow w.heap.size 74 2 (.slice oF5 k pF5) k (flatF (mkG (1 + 2 * n + n1 + n2) gs k))) := mk2
      clear hb19 HOR3_19 HOQ4_19 HON5_19 HOV5_19 HOF5_19 HOR6_19 HOQ7_19 HON8_19 HOV8_19 HOF8_19 HBv1_19 HBv2_19 HBv3_19 HBv4_19 HBv5_19 HBv6_19 mk0 mk1 mk2 bm far
      have hkk : ¬ (((1 + 2 * n + n1 + n2 + 2 * k : Nat) : Int) < 0) := by omega
      clear cv5_0 cv5_1 cv5_2 cv5_3 cv5_4 cv5_5 cv5_6
      have cv3_0 : (w20).cell? ⟨qv3, 0, none⟩ = some (.int .i64 rs) := (cell_of HBv3_20.out 0).trans rfl
      have cv3_1 : (w20).cell? ⟨qv3, 1, none⟩ = some (.slice oR3 np pR3) := (cell_of HBv3_20.out 1).trans rfl
      have cv3_2 : (w20).cell? ⟨qv3, 2, none⟩ = some (.string rb) := (cell_of HBv3_20.out 2).trans rfl
      have cv6_0 : (w20).cell? ⟨qv6, 0, none⟩ = some (.int .i64 rs) := (cell_of HBv6_20.out 0).trans rfl
      have cv6_1 : (w20).cell? ⟨qv6, 1, none⟩ = some (.slice oR6 np pR6) := (cell_of HBv6_20.out 1).trans rfl
      have cv6_2 : (w20).cell? ⟨qv6, 2, none⟩ = some (.string rb) := (cell_of HBv6_20.out 2).trans rfl
      go_wp2_with fail
      refine (eqResp_any rs _ _ rb np _ _ P _ (FieldsV.of_owns HOR6_20.out) (FieldsV.of_owns HOR3_20.out) (by omega)).mono ?_
      rintro e w21 ⟨rfl, bw⟩
      have hb21 : Below w.heap.size w (w21) := hb20.trans (bw.mono hb20.size)
      have HOR3_21 : Hid ((w21).ownsRow w.heap.size 74 2 (.slice oR3 np pR3) np (flatF P)) := owns_below HOR3_20.out bw (fun g hg => owns_lt HOR3_20.out hg)
      have HOQ4_21 : Hid ((w21).ownsRow w.heap.size 74 2 (.slice oQ4 n pQ4) n (flatF (mkG 1 fs n))) := owns_below HOQ4_20.out bw (fun g hg => owns_lt HOQ4_20.out hg)
      have HON5_21 : Hid ((w21).ownsRow w.heap.size 9 1 (.slice oN5 n1 pN5) n1 ((mkT (1 + 2 * n) xs n1).map Value.string)) := owns_below HON5_20.out bw (fun g hg => owns_lt HON5_20.out hg)
      have HOV5_21 : Hid ((w21).ownsRow w.heap.size 9 1 (.slice oV5 n2 pV5) n2 ((mkT (1 + 2 * n + n1) ys n2).map Value.string)) := owns_below HOV5_20.out bw (fun g hg => owns_lt HOV5_20.out hg)
      have HOF5_21 : Hid ((w21).ownsRow w.heap.size 74 2 (.slice oF5 k pF5) k (flatF (mkG (1 + 2 * n + n1 + n2) gs k))) := owns_below HOF5_20.out bw (fun g hg => owns_lt HOF5_20.out hg)
      have HOR6_21 : Hid ((w21).ownsRow w.heap.size 74 2 (.slice oR6 np pR6) np (flatF P)) := owns_below HOR6_20.out bw (fun g hg => owns_lt HOR6_20.out hg)
      have HOQ7_21 : Hid ((w21).ownsRow w.heap.size 74 2 (.slice oQ7 n pQ7) n (flatF fs)) := owns_below HOQ7_20.out bw (fun g hg => owns_lt HOQ7_20.out hg)
      have HON8_21 : Hid ((w21).ownsRow w.heap.size 9 1 (.slice oN8 n1 pN8) n1 (xs.map Value.string)) := owns_below HON8_20.out bw (fun g hg => owns_lt HON8_20.out hg)
      have HOV8_21 : Hid ((w21).ownsRow w.heap.size 9 1 (.slice oV8 n2 pV8) n2 (ys.map Value.string)) := owns_below HOV8_20.out bw (fun g hg => owns_lt HOV8_20.out hg)
      have HOF8_21 : Hid ((w21).ownsRow w.heap.size 74 2 (.slice oF8 k pF8) k (flatF gs)) := owns_below HOF8_20.out bw (fun g hg => owns_lt HOF8_20.out hg)
      have HBv1_21 : Hid ((w21).heap[qv1]? = some (.cells #[.int .i64 m, .string p, .slice a n cap, .string b] 50)) := blk_below HBv1_20.out bw
      have HBv2_21 : Hid ((w21).heap[qv2]? = some (.cells #[.string op, .slice a1 n1 c1, .slice a2 n2 c2, .int .i64 st, .slice a3 k c3, .string d, .int .i64 t] 54)) := blk_below HBv2_20.out bw
      have HBv3_21 : Hid ((w21).heap[qv3]? = some (.cells #[.int .i64 rs, .slice oR3 np pR3, .string rb] 29)) := blk_below HBv3_20.out bw
      have HBv4_21 : Hid ((w21).heap[qv4]? = some (.cells #[.int .i64 m, .string p, .slice oQ4 n pQ4, .string b] 26)) := blk_below HBv4_20.out bw
      have HBv5_21 : Hid ((w21).heap[qv5]? = some (.cells #[.string op, .slice oN5 n1 pN5, .slice oV5 n2 pV5, .int .i64 st, .slice oF5 k pF5, .string d, .int .i64 t] 31)) := blk_below HBv5_20.out bw
      have HBv6_21 : Hid ((w21).heap[qv6]? = some (.cells #[.int .i64 rs, .slice oR6 np pR6, .string rb] 29)) := blk_below HBv6_20.out bw
      clear hb20 HOR3_20 HOQ4_20 HON5_20 HOV5_20 HOF5_20 HOR6_20 HOQ7_20 HON8_20 HOV8_20 HOF8_20 HBv1_20 HBv2_20 HBv3_20 HBv4_20 HBv5_20 HBv6_20 bw
      clear cv3_0 cv3_1 cv3_2 cv6_0 cv6_1 cv6_2
      have cv6_0 : (w21).cell? ⟨qv6, 0, none⟩ = some (.int .i64 rs) := (cell_of HBv6_21.out 0).trans rfl
      have cv6_1 : (w21).cell? ⟨qv6, 1, none⟩ = some (.slice oR6 np pR6) := (cell_of HBv6_21.out 1).trans rfl
      have cv6_2 : (w21).cell? ⟨qv6, 2, none⟩ = some (.string rb) := (cell_of HBv6_21.out 2).trans rfl
      go_wp2_with fail
      refine (markRespFrom_any rs _ rb np _ P _ HOR6_21.out hb21.size 1 (by omega) (by omega)).mono ?_
      rintro e w22 ⟨rfl, mk, bm, far⟩
      have hb22 : Below w.heap.size w w22 := hb21.trans bm
      have HOR3_22 : Hid ((w22).ownsRow w.heap.size 74 2 (.slice oR3 np pR3) np (flatF P)) := owns_same HOR3_21.out (fun g hg => far g (owns_lt HOR3_21.out hg) (fun e => by have h1 := LOR6.out g e; have h2 := HIR3.out g hg; have := HM6.out; have := HM7.out; have := HM8.out; have := HM9.out; have := HM10.out; omega))
      have HOQ4_22 : Hid ((w22).ownsRow w.heap.size 74 2 (.slice oQ4 n pQ4) n (flatF (mkG 1 fs n))) := owns_same HOQ4_21.out (fun g hg => far g (owns_lt HOQ4_21.out hg) (fun e => by have h1 := LOR6.out g e; have h2 := HIQ4.out g hg; have := HM7.out; have := HM8.out; have := HM9.out; have := HM10.out; omega))
      have HON5_22 : Hid ((w22).ownsRow w.heap.size 9 1 (.slice oN5 n1 pN5) n1 ((mkT (1 + 2 * n) xs n1).map Value.string)) := owns_same HON5_21.out (fun g hg => far g (owns_lt HON5_21.out hg) (own_type_ne HON5_21.out HOR6_21.out (by decide) g hg))
      have HOV5_22 : Hid ((w22).ownsRow w.heap.size 9 1 (.slice oV5 n2 pV5) n2 ((mkT (1 + 2 * n + n1) ys n2).map Value.string)) := owns_same HOV5_21.out (fun g hg => far g (owns_lt HOV5_21.out hg) (own_type_ne HOV5_21.out HOR6_21.out (by decide) g hg))
      have HOF5_22 : Hid ((w22).ownsRow w.heap.size 74 2 (.slice oF5 k pF5) k (flatF (mkG (1 + 2 * n + n1 + n2) gs k))) := owns_same HOF5_21.out (fun g hg => far g (owns_lt HOF5_21.out hg) (fun e => by have h1 := LOR6.out g e; have h2 := HIF5.out g hg; have := HM9.out; have := HM10.out; omega))
      have HOQ7_22 : Hid ((w22).ownsRow w.heap.size 74 2 (.slice oQ7 n pQ7) n (flatF fs)) := owns_same HOQ7_21.out (fun g hg => far g (owns_lt HOQ7_21.out hg) (fun e => by have h1 := LOQ7.out g hg; have h2 := HIR6.out g e; have := HM11.out; have := HM12.out; have := HM13.out; have := HM14.out; omega))
      have HON8_22 : Hid ((w22).ownsRow w.heap.size 9 1 (.slice oN8 n1 pN8) n1 (xs.map Value.string)) := owns_same HON8_21.out (fun g hg => far g (owns_lt HON8_21.out hg) (own_type_ne HON8_21.out HOR6_21.out (by decide) g hg))
      have HOV8_22 : Hid ((w22).ownsRow w.heap.size 9 1 (.slice oV8 n2 pV8) n2 (ys.map Value.string)) := owns_same HOV8_21.out (fun g hg => far g (owns_lt HOV8_21.out hg) (own_type_ne HOV8_21.out HOR6_21.out (by decide) g hg))
      have HOF8_22 : Hid ((w22).ownsRow w.heap.size 74 2 (.slice oF8 k pF8) k (flatF gs)) := owns_same HOF8_21.out (fun g hg => far g (owns_lt HOF8_21.out hg) (fun e => by have h1 := LOF8.out g hg; have h2 := HIR6.out g e; have := HM11.out; have := HM12.out; have := HM13.out; have := HM14.out; have := HM15.out; have := HM16.out; have := HM17.out; omega))
      have HBv1_22 : Hid ((w22).heap[qv1]? = some (.cells #[.int .i64 m, .string p, .slice a n cap, .string b] 50)) := blk_far HBv1_21.out far HOR6_21.out (by decide)
      have HBv2_22 : Hid ((w22).heap[qv2]? = some (.cells #[.string op, .slice a1 n1 c1, .slice a2 n2 c2, .int .i64 st, .slice a3 k c3, .string d, .int .i64 t] 54)) := blk_far HBv2_21.out far HOR6_21.out (by decide)
      have HBv3_22 : Hid ((w22).heap[qv3]? = some (.cells #[.int .i64 rs, .slice oR3 np pR3, .string rb] 29)) := blk_far HBv3_21.out far HOR6_21.out (by decide)
      have HBv4_22 : Hid ((w22).heap[qv4]? = some (.cells #[.int .i64 m, .string p, .slice oQ4 n pQ4, .string b] 26)) := blk_far HBv4_21.out far HOR6_21.out (by decide)
      have HBv5_22 : Hid ((w22).heap[qv5]? = some (.cells #[.string op, .slice oN5 n1 pN5, .slice oV5 n2 pV5, .int .i64 st, .slice oF5 k pF5, .string d, .int .i64 t] 31)) := blk_far HBv5_21.out far HOR6_21.out (by decide)
      have HBv6_22 : Hid ((w22).heap[qv6]? = some (.cells #[.int .i64 rs, .slice oR6 np pR6, .string rb] 29)) := blk_far HBv6_21.out far HOR6_21.out (by decide)
      have HOR6_22 : Hid ((w22).ownsRow w.heap.size 74 2 (.slice oR6 np pR6) np (flatF (mkG 1 P np))) := mk
      clear hb21 HOR3_21 HOQ4_21 HON5_21 HOV5_21 HOF5_21 HOR6_21 HOQ7_21 HON8_21 HOV8_21 HOF8_21 HBv1_21 HBv2_21 HBv3_21 HBv4_21 HBv5_21 HBv6_21 mk bm far
      clear cv6_0 cv6_1 cv6_2
      have cv6_0 : (w22).cell? ⟨qv6, 0, none⟩ = some (.int .i64 rs) := (cell_of HBv6_22.out 0).trans rfl
      have cv6_1 : (w22).cell? ⟨qv6, 1, none⟩ = some (.slice oR6 np pR6) := (cell_of HBv6_22.out 1).trans rfl
      have cv6_2 : (w22).cell? ⟨qv6, 2, none⟩ = some (.string rb) := (cell_of HBv6_22.out 2).trans rfl
      go_wp2_with fail
      refine (heldRespFrom_any rs _ rb np _ (mkG 1 P np) _ HOR6_22.out 1 (by omega) (by omega) (fun j hj => mkG_at 1 P j np (by rw [HNP.out]; exact Nat.le_refl _) hj)).mono ?_
      rintro e w23 ⟨rfl, bw⟩
      have hb23 : Below w.heap.size w (w23) := hb22.trans (bw.mono hb22.size)
      have HOR3_23 : Hid ((w23).ownsRow w.heap.size 74 2 (.slice oR3 np pR3) np (flatF P)) := owns_below HOR3_22.out bw (fun g hg => owns_lt HOR3_22.out hg)
      have HOQ4_23 : Hid ((w23).ownsRow w.heap.size 74 2 (.slice oQ4 n pQ4) n (flatF (mkG 1 fs n))) := owns_below HOQ4_22.out bw (fun g hg => owns_lt HOQ4_22.out hg)
      have HON5_23 : Hid ((w23).ownsRow w.heap.size 9 1 (.slice oN5 n1 pN5) n1 ((mkT (1 + 2 * n) xs n1).map Value.string)) := owns_below HON5_22.out bw (fun g hg => owns_lt HON5_22.out hg)
      have HOV5_23 : Hid ((w23).ownsRow w.heap.size 9 1 (.slice oV5 n2 pV5) n2 ((mkT (1 + 2 * n + n1) ys n2).map Value.string)) := owns_below HOV5_22.out bw (fun g hg => owns_lt HOV5_22.out hg)
      have HOF5_23 : Hid ((w23).ownsRow w.heap.size 74 2 (.slice oF5 k pF5) k (flatF (mkG (1 + 2 * n + n1 + n2) gs k))) := owns_below HOF5_22.out bw (fun g hg => owns_lt HOF5_22.out hg)
      have HOR6_23 : Hid ((w23).ownsRow w.heap.size 74 2 (.slice oR6 np pR6) np (flatF (mkG 1 P np))) := owns_below HOR6_22.out bw (fun g hg => owns_lt HOR6_22.out hg)
      have HOQ7_23 : Hid ((w23).ownsRow w.heap.size 74 2 (.slice oQ7 n pQ7) n (flatF fs)) := owns_below HOQ7_22.out bw (fun g hg => owns_lt HOQ7_22.out hg)
      have HON8_23 : Hid ((w23).ownsRow w.heap.size 9 1 (.slice oN8 n1 pN8) n1 (xs.map Value.string)) := owns_below HON8_22.out bw (fun g hg => owns_lt HON8_22.out hg)
      have HOV8_23 : Hid ((w23).ownsRow w.heap.size 9 1 (.slice oV8 n2 pV8) n2 (ys.map Value.string)) := owns_below HOV8_22.out bw (fun g hg => owns_lt HOV8_22.out hg)
      have HOF8_23 : Hid ((w23).ownsRow w.heap.size 74 2 (.slice oF8 k pF8) k (flatF gs)) := owns_below HOF8_22.out bw (fun g hg => owns_lt HOF8_22.out hg)
      have HBv1_23 : Hid ((w23).heap[qv1]? = some (.cells #[.int .i64 m, .string p, .slice a n cap, .string b] 50)) := blk_below HBv1_22.out bw
      have HBv2_23 : Hid ((w23).heap[qv2]? = some (.cells #[.string op, .slice a1 n1 c1, .slice a2 n2 c2, .int .i64 st, .slice a3 k c3, .string d, .int .i64 t] 54)) := blk_below HBv2_22.out bw
      have HBv3_23 : Hid ((w23).heap[qv3]? = some (.cells #[.int .i64 rs, .slice oR3 np pR3, .string rb] 29)) := blk_below HBv3_22.out bw
      have HBv4_23 : Hid ((w23).heap[qv4]? = some (.cells #[.int .i64 m, .string p, .slice oQ4 n pQ4, .string b] 26)) := blk_below HBv4_22.out bw
      have HBv5_23 : Hid ((w23).heap[qv5]? = some (.cells #[.string op, .slice oN5 n1 pN5, .slice oV5 n2 pV5, .int .i64 st, .slice oF5 k pF5, .string d, .int .i64 t] 31)) := blk_below HBv5_22.out bw
      have HBv6_23 : Hid ((w23).heap[qv6]? = some (.cells #[.int .i64 rs, .slice oR6 np pR6, .string rb] 29)) := blk_below HBv6_22.out bw
      clear hb22 HOR3_22 HOQ4_22 HON5_22 HOV5_22 HOF5_22 HOR6_22 HOQ7_22 HON8_22 HOV8_22 HOF8_22 HBv1_22 HBv2_22 HBv3_22 HBv4_22 HBv5_22 HBv6_22 bw
      have hkh9 : ¬ ((((1 : Nat) : Int) + 2 * (np : Int)) < 0) := by omega
      clear cv6_0 cv6_1 cv6_2
      go_upto_region 31 with fail
      have HSS : Hid (∀ W, Below w23.heap.size w23 W → W.heap[qv1]? = some (.cells #[.int .i64 m, .string p, .slice a n cap, .string b] 50) ∧ W.heap[qv2]? = some (.cells #[.string op, .slice a1 n1 c1, .slice a2 n2 c2, .int .i64 st, .slice a3 k c3, .string d, .int .i64 t] 54)) := fun W h => ⟨blk_below HBv1_23.out h, blk_below HBv2_23.out h⟩
      go_cut [15] (fun sx wx => ∃ (q : Nat) (oR12 : Option Addr) (pR12 : Nat), sx = .pointer (some ⟨q, 0, none⟩) ∧ Hid (Below w23.heap.size w23 wx ∧ wx.heap[q]? = some (.cells #[.int .i64 rs, .slice oR12 np pR12, .string rb] 29) ∧ w23.heap.size ≤ q ∧ (wx).ownsRow w23.heap.size 74 2 (.slice oR12 np pR12) np (flatF P)))
      case first =>
        refine wp_region_held_drew (S := fun W => W.heap[qv1]? = some (.cells #[.int .i64 m, .string p, .slice a n cap, .string b] 50) ∧ W.heap[qv2]? = some (.cells #[.string op, .slice a1 n1 c1, .slice a2 n2 c2, .int .i64 st, .slice a3 k c3, .string d, .int .i64 t] 54)) (by kernel_rfl) (HSS.out _ (Below.refl _ _).drew) (fun _ => ?_)
        obtain ⟨w24, hX⟩ : ∃ X, X = w23.drew := ⟨_, rfl⟩
        have bw : Below w23.heap.size w23 w24 := by rw [hX]; exact (Below.refl _ _).drew
        rw [← hX]
        have hb24 : Below w.heap.size w (w24) := hb23.trans (bw.mono hb23.size)
        have HM24 : Hid ((w23).heap.size ≤ (w24).heap.size) := bw.size
        have HOR3_24 : Hid ((w24).ownsRow w.heap.size 74 2 (.slice oR3 np pR3) np (flatF P)) := owns_below HOR3_23.out bw (fun g hg => owns_lt HOR3_23.out hg)
        have HOQ4_24 : Hid ((w24).ownsRow w.heap.size 74 2 (.slice oQ4 n pQ4) n (flatF (mkG 1 fs n))) := owns_below HOQ4_23.out bw (fun g hg => owns_lt HOQ4_23.out hg)
        have HON5_24 : Hid ((w24).ownsRow w.heap.size 9 1 (.slice oN5 n1 pN5) n1 ((mkT (1 + 2 * n) xs n1).map Value.string)) := owns_below HON5_23.out bw (fun g hg => owns_lt HON5_23.out hg)
        have HOV5_24 : Hid ((w24).ownsRow w.heap.size 9 1 (.slice oV5 n2 pV5) n2 ((mkT (1 + 2 * n + n1) ys n2).map Value.string)) := owns_below HOV5_23.out bw (fun g hg => owns_lt HOV5_23.out hg)
        have HOF5_24 : Hid ((w24).ownsRow w.heap.size 74 2 (.slice oF5 k pF5) k (flatF (mkG (1 + 2 * n + n1 + n2) gs k))) := owns_below HOF5_23.out bw (fun g hg => owns_lt HOF5_23.out hg)
        have HOR6_24 : Hid ((w24).ownsRow w.heap.size 74 2 (.slice oR6 np pR6) np (flatF (mkG 1 P np))) := owns_below HOR6_23.out bw (fun g hg => owns_lt HOR6_23.out hg)
        have HOQ7_24 : Hid ((w24).ownsRow w.heap.size 74 2 (.slice oQ7 n pQ7) n (flatF fs)) := owns_below HOQ7_23.out bw (fun g hg => owns_lt HOQ7_23.out hg)
        have HON8_24 : Hid ((w24).ownsRow w.heap.size 9 1 (.slice oN8 n1 pN8) n1 (xs.map Value.string)) := owns_below HON8_23.out bw (fun g hg => owns_lt HON8_23.out hg)
        have HOV8_24 : Hid ((w24).ownsRow w.heap.size 9 1 (.slice oV8 n2 pV8) n2 (ys.map Value.string)) := owns_below HOV8_23.out bw (fun g hg => owns_lt HOV8_23.out hg)
        have HOF8_24 : Hid ((w24).ownsRow w.heap.size 74 2 (.slice oF8 k pF8) k (flatF gs)) := owns_below HOF8_23.out bw (fun g hg => owns_lt HOF8_23.out hg)
        have HBv1_24 : Hid ((w24).heap[qv1]? = some (.cells #[.int .i64 m, .string p, .slice a n cap, .string b] 50)) := blk_below HBv1_23.out bw
        have HBv2_24 : Hid ((w24).heap[qv2]? = some (.cells #[.string op, .slice a1 n1 c1, .slice a2 n2 c2, .int .i64 st, .slice a3 k c3, .string d, .int .i64 t] 54)) := blk_below HBv2_23.out bw
        have HBv3_24 : Hid ((w24).heap[qv3]? = some (.cells #[.int .i64 rs, .slice oR3 np pR3, .string rb] 29)) := blk_below HBv3_23.out bw
        have HBv4_24 : Hid ((w24).heap[qv4]? = some (.cells #[.int .i64 m, .string p, .slice oQ4 n pQ4, .string b] 26)) := blk_below HBv4_23.out bw
        have HBv5_24 : Hid ((w24).heap[qv5]? = some (.cells #[.string op, .slice oN5 n1 pN5, .slice oV5 n2 pV5, .int .i64 st, .slice oF5 k pF5, .string d, .int .i64 t] 31)) := blk_below HBv5_23.out bw
        have HBv6_24 : Hid ((w24).heap[qv6]? = some (.cells #[.int .i64 rs, .slice oR6 np pR6, .string rb] 29)) := blk_below HBv6_23.out bw
        have HX_24 : Hid (Below w23.heap.size w23 w24) := bw
        clear bw hX
        refine wpAnyH_takeD (i := 0) (v := .agg #[.int .i64 m, .string p, .slice a n cap, .string b]) (some 79) rfl rfl (by kernel_rfl) (by kernel_rfl) (by kernel_rfl) (fun _ _ _ h => h) (Or.inl ⟨by rfl, by intro W hW; obtain ⟨hhv1, hhv2⟩ := hW; have y0 := (cell_of hhv1 0).trans rfl; have y1 := (cell_of hhv1 1).trans rfl; have y2 := (cell_of hhv1 2).trans rfl; have y3 := (cell_of hhv1 3).trans rfl; go_simp⟩) (HSS.out _ HX_24.out) ?_
        simp only [Act.put, List.setIfInBounds_toArray, List.set_cons_zero, List.set_cons_succ]
        refine wpAnyH_takeD (i := 2) (v := .agg #[.string op, .slice a1 n1 c1, .slice a2 n2 c2, .int .i64 st, .slice a3 k c3, .string d, .int .i64 t]) (some 81) rfl rfl (by kernel_rfl) (by kernel_rfl) (by kernel_rfl) (fun _ _ _ h => h) (Or.inl ⟨by rfl, by intro W hW; obtain ⟨hhv1, hhv2⟩ := hW; have y0 := (cell_of hhv2 0).trans rfl; have y1 := (cell_of hhv2 1).trans rfl; have y2 := (cell_of hhv2 2).trans rfl; have y3 := (cell_of hhv2 3).trans rfl; have y4 := (cell_of hhv2 4).trans rfl; have y5 := (cell_of hhv2 5).trans rfl; have y6 := (cell_of hhv2 6).trans rfl; go_simp⟩) (HSS.out _ HX_24.out) ?_
        simp only [Act.put, List.setIfInBounds_toArray, List.set_cons_zero, List.set_cons_succ]
        refine wpAnyH_takeD (i := 4) (v := .int .i64 now) (some 83) rfl rfl (by kernel_rfl) (by kernel_rfl) (by kernel_rfl) (fun _ _ _ h => h) (Or.inl ⟨by rfl, by intro W _; go_simp⟩) (HSS.out _ HX_24.out) ?_
        simp only [Act.put, List.setIfInBounds_toArray, List.set_cons_zero, List.set_cons_succ]
        refine wpAnyH_ready (rs := [1, 6]) (by kernel_rfl) (by simp) ?_
        refine AllReadyH.cons rfl (fun K hK => ?_) (AllReadyH.cons rfl (fun K hK => ?_) AllReadyH.nil)
        · go_simp
          refine (toReq_any m p a n cap b fs w.heap.size _ (HA1.out _ hb24) hb24.size hm1).mono ?_
          rintro e w25 ⟨vv, rfl, ownQ10, bw⟩
          obtain ⟨oQ10, pQ10, rfl⟩ := slice_of_owns ownQ10
          have hb25 : Below w.heap.size w (w25) := hb24.trans (bw.mono hb24.size)
          have HM25 : Hid ((w24).heap.size ≤ (w25).heap.size) := bw.size
          have HOR3_25 : Hid ((w25).ownsRow w.heap.size 74 2 (.slice oR3 np pR3) np (flatF P)) := owns_below HOR3_24.out bw (fun g hg => owns_lt HOR3_24.out hg)
          have HOQ4_25 : Hid ((w25).ownsRow w.heap.size 74 2 (.slice oQ4 n pQ4) n (flatF (mkG 1 fs n))) := owns_below HOQ4_24.out bw (fun g hg => owns_lt HOQ4_24.out hg)
          have HON5_25 : Hid ((w25).ownsRow w.heap.size 9 1 (.slice oN5 n1 pN5) n1 ((mkT (1 + 2 * n) xs n1).map Value.string)) := owns_below HON5_24.out bw (fun g hg => owns_lt HON5_24.out hg)
          have HOV5_25 : Hid ((w25).ownsRow w.heap.size 9 1 (.slice oV5 n2 pV5) n2 ((mkT (1 + 2 * n + n1) ys n2).map Value.string)) := owns_below HOV5_24.out bw (fun g hg => owns_lt HOV5_24.out hg)
          have HOF5_25 : Hid ((w25).ownsRow w.heap.size 74 2 (.slice oF5 k pF5) k (flatF (mkG (1 + 2 * n + n1 + n2) gs k))) := owns_below HOF5_24.out bw (fun g hg => owns_lt HOF5_24.out hg)
          have HOR6_25 : Hid ((w25).ownsRow w.heap.size 74 2 (.slice oR6 np pR6) np (flatF (mkG 1 P np))) := owns_below HOR6_24.out bw (fun g hg => owns_lt HOR6_24.out hg)
          have HOQ7_25 : Hid ((w25).ownsRow w.heap.size 74 2 (.slice oQ7 n pQ7) n (flatF fs)) := owns_below HOQ7_24.out bw (fun g hg => owns_lt HOQ7_24.out hg)
          have HON8_25 : Hid ((w25).ownsRow w.heap.size 9 1 (.slice oN8 n1 pN8) n1 (xs.map Value.string)) := owns_below HON8_24.out bw (fun g hg => owns_lt HON8_24.out hg)
          have HOV8_25 : Hid ((w25).ownsRow w.heap.size 9 1 (.slice oV8 n2 pV8) n2 (ys.map Value.string)) := owns_below HOV8_24.out bw (fun g hg => owns_lt HOV8_24.out hg)
          have HOF8_25 : Hid ((w25).ownsRow w.heap.size 74 2 (.slice oF8 k pF8) k (flatF gs)) := owns_below HOF8_24.out bw (fun g hg => owns_lt HOF8_24.out hg)
          have HBv1_25 : Hid ((w25).heap[qv1]? = some (.cells #[.int .i64 m, .string p, .slice a n cap, .string b] 50)) := blk_below HBv1_24.out bw
          have HBv2_25 : Hid ((w25).heap[qv2]? = some (.cells #[.string op, .slice a1 n1 c1, .slice a2 n2 c2, .int .i64 st, .slice a3 k c3, .string d, .int .i64 t] 54)) := blk_below HBv2_24.out bw
          have HBv3_25 : Hid ((w25).heap[qv3]? = some (.cells #[.int .i64 rs, .slice oR3 np pR3, .string rb] 29)) := blk_below HBv3_24.out bw
          have HBv4_25 : Hid ((w25).heap[qv4]? = some (.cells #[.int .i64 m, .string p, .slice oQ4 n pQ4, .string b] 26)) := blk_below HBv4_24.out bw
          have HBv5_25 : Hid ((w25).heap[qv5]? = some (.cells #[.string op, .slice oN5 n1 pN5, .slice oV5 n2 pV5, .int .i64 st, .slice oF5 k pF5, .string d, .int .i64 t] 31)) := blk_below HBv5_24.out bw
          have HBv6_25 : Hid ((w25).heap[qv6]? = some (.cells #[.int .i64 rs, .slice oR6 np pR6, .string rb] 29)) := blk_below HBv6_24.out bw
          have HOQ10_25 : Hid ((w25).ownsRow w.heap.size 74 2 (.slice oQ10 n pQ10) n (flatF fs)) := owns_wide ownQ10 hb24.size
          have LOQ10 : Hid (∀ g, (Value.ownBlock (.slice oQ10 n pQ10)) = some g → (w24).heap.size ≤ g) := fun g hg => owns_ge ownQ10 hg
          have HIQ10 : Hid (∀ g, (Value.ownBlock (.slice oQ10 n pQ10)) = some g → g < (w25).heap.size) := fun g hg => owns_lt ownQ10 hg
          clear ownQ10
          clear hb24 HOR3_24 HOQ4_24 HON5_24 HOV5_24 HOF5_24 HOR6_24 HOQ7_24 HON8_24 HOV8_24 HOF8_24 HBv1_24 HBv2_24 HBv3_24 HBv4_24 HBv5_24 HBv6_24
          have HX_25 : Hid (Below w23.heap.size w23 w25) := HX_24.out.trans (bw.mono HX_24.out.size)
          refine hK.out _ _ (HSS.out _ HX_25.out) (fun _ => ?_)
          clear hK K bw HX_24
          refine wpAnyH_ready (rs := [3, 6]) (by kernel_rfl) (by simp) ?_
          refine AllReadyH.cons rfl (fun K hK => ?_) (AllReadyH.cons rfl (fun K hK => ?_) AllReadyH.nil)
          · go_simp
            refine (toObj_any op a1 n1 c1 xs a2 n2 c2 ys st a3 k c3 gs d t w.heap.size _ (HX1.out _ hb25) (HX2.out _ hb25) (HX3.out _ hb25) hb25.size hm3 hm4 hm5).mono ?_
            rintro e w26 ⟨vv1, vv2, vv3, rfl, ⟨ownN11, ownV11, ownF11, ne11⟩, bw⟩
            obtain ⟨oN11, pN11, rfl⟩ := slice_of_owns ownN11
            obtain ⟨oV11, pV11, rfl⟩ := slice_of_owns ownV11
            obtain ⟨oF11, pF11, rfl⟩ := slice_of_owns ownF11
            have AP11 : Hid (∀ j, (Value.slice oN11 n1 pN11).ownBlock = some j → (Value.slice oV11 n2 pV11).ownBlock ≠ some j) := ne11
            clear ne11
            have hb26 : Below w.heap.size w (w26) := hb25.trans (bw.mono hb25.size)
            have HM26 : Hid ((w25).heap.size ≤ (w26).heap.size) := bw.size
            have HOR3_26 : Hid ((w26).ownsRow w.heap.size 74 2 (.slice oR3 np pR3) np (flatF P)) := owns_below HOR3_25.out bw (fun g hg => owns_lt HOR3_25.out hg)
            have HOQ4_26 : Hid ((w26).ownsRow w.heap.size 74 2 (.slice oQ4 n pQ4) n (flatF (mkG 1 fs n))) := owns_below HOQ4_25.out bw (fun g hg => owns_lt HOQ4_25.out hg)
            have HON5_26 : Hid ((w26).ownsRow w.heap.size 9 1 (.slice oN5 n1 pN5) n1 ((mkT (1 + 2 * n) xs n1).map Value.string)) := owns_below HON5_25.out bw (fun g hg => owns_lt HON5_25.out hg)
            have HOV5_26 : Hid ((w26).ownsRow w.heap.size 9 1 (.slice oV5 n2 pV5) n2 ((mkT (1 + 2 * n + n1) ys n2).map Value.string)) := owns_below HOV5_25.out bw (fun g hg => owns_lt HOV5_25.out hg)
            have HOF5_26 : Hid ((w26).ownsRow w.heap.size 74 2 (.slice oF5 k pF5) k (flatF (mkG (1 + 2 * n + n1 + n2) gs k))) := owns_below HOF5_25.out bw (fun g hg => owns_lt HOF5_25.out hg)
            have HOR6_26 : Hid ((w26).ownsRow w.heap.size 74 2 (.slice oR6 np pR6) np (flatF (mkG 1 P np))) := owns_below HOR6_25.out bw (fun g hg => owns_lt HOR6_25.out hg)
            have HOQ7_26 : Hid ((w26).ownsRow w.heap.size 74 2 (.slice oQ7 n pQ7) n (flatF fs)) := owns_below HOQ7_25.out bw (fun g hg => owns_lt HOQ7_25.out hg)
            have HON8_26 : Hid ((w26).ownsRow w.heap.size 9 1 (.slice oN8 n1 pN8) n1 (xs.map Value.string)) := owns_below HON8_25.out bw (fun g hg => owns_lt HON8_25.out hg)
            have HOV8_26 : Hid ((w26).ownsRow w.heap.size 9 1 (.slice oV8 n2 pV8) n2 (ys.map Value.string)) := owns_below HOV8_25.out bw (fun g hg => owns_lt HOV8_25.out hg)
            have HOF8_26 : Hid ((w26).ownsRow w.heap.size 74 2 (.slice oF8 k pF8) k (flatF gs)) := owns_below HOF8_25.out bw (fun g hg => owns_lt HOF8_25.out hg)
            have HOQ10_26 : Hid ((w26).ownsRow w.heap.size 74 2 (.slice oQ10 n pQ10) n (flatF fs)) := owns_below HOQ10_25.out bw (fun g hg => owns_lt HOQ10_25.out hg)
            have HBv1_26 : Hid ((w26).heap[qv1]? = some (.cells #[.int .i64 m, .string p, .slice a n cap, .string b] 50)) := blk_below HBv1_25.out bw
            have HBv2_26 : Hid ((w26).heap[qv2]? = some (.cells #[.string op, .slice a1 n1 c1, .slice a2 n2 c2, .int .i64 st, .slice a3 k c3, .string d, .int .i64 t] 54)) := blk_below HBv2_25.out bw
            have HBv3_26 : Hid ((w26).heap[qv3]? = some (.cells #[.int .i64 rs, .slice oR3 np pR3, .string rb] 29)) := blk_below HBv3_25.out bw
            have HBv4_26 : Hid ((w26).heap[qv4]? = some (.cells #[.int .i64 m, .string p, .slice oQ4 n pQ4, .string b] 26)) := blk_below HBv4_25.out bw
            have HBv5_26 : Hid ((w26).heap[qv5]? = some (.cells #[.string op, .slice oN5 n1 pN5, .slice oV5 n2 pV5, .int .i64 st, .slice oF5 k pF5, .string d, .int .i64 t] 31)) := blk_below HBv5_25.out bw
            have HBv6_26 : Hid ((w26).heap[qv6]? = some (.cells #[.int .i64 rs, .slice oR6 np pR6, .string rb] 29)) := blk_below HBv6_25.out bw
            have HON11_26 : Hid ((w26).ownsRow w.heap.size 9 1 (.slice oN11 n1 pN11) n1 (xs.map Value.string)) := owns_wide ownN11 hb25.size
            have LON11 : Hid (∀ g, (Value.ownBlock (.slice oN11 n1 pN11)) = some g → (w25).heap.size ≤ g) := fun g hg => owns_ge ownN11 hg
            have HIN11 : Hid (∀ g, (Value.ownBlock (.slice oN11 n1 pN11)) = some g → g < (w26).heap.size) := fun g hg => owns_lt ownN11 hg
            clear ownN11
            have HOV11_26 : Hid ((w26).ownsRow w.heap.size 9 1 (.slice oV11 n2 pV11) n2 (ys.map Value.string)) := owns_wide ownV11 hb25.size
            have LOV11 : Hid (∀ g, (Value.ownBlock (.slice oV11 n2 pV11)) = some g → (w25).heap.size ≤ g) := fun g hg => owns_ge ownV11 hg
            have HIV11 : Hid (∀ g, (Value.ownBlock (.slice oV11 n2 pV11)) = some g → g < (w26).heap.size) := fun g hg => owns_lt ownV11 hg
            clear ownV11
            have HOF11_26 : Hid ((w26).ownsRow w.heap.size 74 2 (.slice oF11 k pF11) k (flatF gs)) := owns_wide ownF11 hb25.size
            have LOF11 : Hid (∀ g, (Value.ownBlock (.slice oF11 k pF11)) = some g → (w25).heap.size ≤ g) := fun g hg => owns_ge ownF11 hg
            have HIF11 : Hid (∀ g, (Value.ownBlock (.slice oF11 k pF11)) = some g → g < (w26).heap.size) := fun g hg => owns_lt ownF11 hg
            clear ownF11
            clear hb25 HOR3_25 HOQ4_25 HON5_25 HOV5_25 HOF5_25 HOR6_25 HOQ7_25 HON8_25 HOV8_25 HOF8_25 HOQ10_25 HBv1_25 HBv2_25 HBv3_25 HBv4_25 HBv5_25 HBv6_25
            have HX_26 : Hid (Below w23.heap.size w23 w26) := HX_25.out.trans (bw.mono HX_25.out.size)
            refine hK.out _ _ (HSS.out _ HX_26.out) (fun _ => ?_)
            clear hK K bw HX_25
            refine wpAnyH_ready (rs := [5, 6]) (by kernel_rfl) (by simp) ?_
            refine AllReadyH.cons rfl (fun K hK => ?_) (AllReadyH.cons rfl (fun K hK => ?_) AllReadyH.nil)
            · go_simp
              refine (HIM.out _ hb26 _ _ _ _ _ _ _ _ _ HOQ10_26.out HOF11_26.out).mono ?_
              rintro e w27 ⟨vv, rfl, ownR12, bw⟩
              obtain ⟨oR12, pR12, rfl⟩ := slice_of_owns ownR12
              have hb27 : Below w.heap.size w (w27) := hb26.trans (bw.mono hb26.size)
              have HM27 : Hid ((w26).heap.size ≤ (w27).heap.size) := bw.size
              have HOR3_27 : Hid ((w27).ownsRow w.heap.size 74 2 (.slice oR3 np pR3) np (flatF P)) := owns_below HOR3_26.out bw (fun g hg => owns_lt HOR3_26.out hg)
              have HOQ4_27 : Hid ((w27).ownsRow w.heap.size 74 2 (.slice oQ4 n pQ4) n (flatF (mkG 1 fs n))) := owns_below HOQ4_26.out bw (fun g hg => owns_lt HOQ4_26.out hg)
              have HON5_27 : Hid ((w27).ownsRow w.heap.size 9 1 (.slice oN5 n1 pN5) n1 ((mkT (1 + 2 * n) xs n1).map Value.string)) := owns_below HON5_26.out bw (fun g hg => owns_lt HON5_26.out hg)
              have HOV5_27 : Hid ((w27).ownsRow w.heap.size 9 1 (.slice oV5 n2 pV5) n2 ((mkT (1 + 2 * n + n1) ys n2).map Value.string)) := owns_below HOV5_26.out bw (fun g hg => owns_lt HOV5_26.out hg)
              have HOF5_27 : Hid ((w27).ownsRow w.heap.size 74 2 (.slice oF5 k pF5) k (flatF (mkG (1 + 2 * n + n1 + n2) gs k))) := owns_below HOF5_26.out bw (fun g hg => owns_lt HOF5_26.out hg)
              have HOR6_27 : Hid ((w27).ownsRow w.heap.size 74 2 (.slice oR6 np pR6) np (flatF (mkG 1 P np))) := owns_below HOR6_26.out bw (fun g hg => owns_lt HOR6_26.out hg)
              have HOQ7_27 : Hid ((w27).ownsRow w.heap.size 74 2 (.slice oQ7 n pQ7) n (flatF fs)) := owns_below HOQ7_26.out bw (fun g hg => owns_lt HOQ7_26.out hg)
              have HON8_27 : Hid ((w27).ownsRow w.heap.size 9 1 (.slice oN8 n1 pN8) n1 (xs.map Value.string)) := owns_below HON8_26.out bw (fun g hg => owns_lt HON8_26.out hg)
              have HOV8_27 : Hid ((w27).ownsRow w.heap.size 9 1 (.slice oV8 n2 pV8) n2 (ys.map Value.string)) := owns_below HOV8_26.out bw (fun g hg => owns_lt HOV8_26.out hg)
              have HOF8_27 : Hid ((w27).ownsRow w.heap.size 74 2 (.slice oF8 k pF8) k (flatF gs)) := owns_below HOF8_26.out bw (fun g hg => owns_lt HOF8_26.out hg)
              have HOQ10_27 : Hid ((w27).ownsRow w.heap.size 74 2 (.slice oQ10 n pQ10) n (flatF fs)) := owns_below HOQ10_26.out bw (fun g hg => owns_lt HOQ10_26.out hg)
              have HON11_27 : Hid ((w27).ownsRow w.heap.size 9 1 (.slice oN11 n1 pN11) n1 (xs.map Value.string)) := owns_below HON11_26.out bw (fun g hg => owns_lt HON11_26.out hg)
              have HOV11_27 : Hid ((w27).ownsRow w.heap.size 9 1 (.slice oV11 n2 pV11) n2 (ys.map Value.string)) := owns_below HOV11_26.out bw (fun g hg => owns_lt HOV11_26.out hg)
              have HOF11_27 : Hid ((w27).ownsRow w.heap.size 74 2 (.slice oF11 k pF11) k (flatF gs)) := owns_below HOF11_26.out bw (fun g hg => owns_lt HOF11_26.out hg)
              have HBv1_27 : Hid ((w27).heap[qv1]? = some (.cells #[.int .i64 m, .string p, .slice a n cap, .string b] 50)) := blk_below HBv1_26.out bw
              have HBv2_27 : Hid ((w27).heap[qv2]? = some (.cells #[.string op, .slice a1 n1 c1, .slice a2 n2 c2, .int .i64 st, .slice a3 k c3, .string d, .int .i64 t] 54)) := blk_below HBv2_26.out bw
              have HBv3_27 : Hid ((w27).heap[qv3]? = some (.cells #[.int .i64 rs, .slice oR3 np pR3, .string rb] 29)) := blk_below HBv3_26.out bw
              have HBv4_27 : Hid ((w27).heap[qv4]? = some (.cells #[.int .i64 m, .string p, .slice oQ4 n pQ4, .string b] 26)) := blk_below HBv4_26.out bw
              have HBv5_27 : Hid ((w27).heap[qv5]? = some (.cells #[.string op, .slice oN5 n1 pN5, .slice oV5 n2 pV5, .int .i64 st, .slice oF5 k pF5, .string d, .int .i64 t] 31)) := blk_below HBv5_26.out bw
              have HBv6_27 : Hid ((w27).heap[qv6]? = some (.cells #[.int .i64 rs, .slice oR6 np pR6, .string rb] 29)) := blk_below HBv6_26.out bw
              have HOR12_27 : Hid ((w27).ownsRow w.heap.size 74 2 (.slice oR12 np pR12) np (flatF P)) := owns_wide ownR12 hb26.size
              have LOR12 : Hid (∀ g, (Value.ownBlock (.slice oR12 np pR12)) = some g → (w26).heap.size ≤ g) := fun g hg => owns_ge ownR12 hg
              have HIR12 : Hid (∀ g, (Value.ownBlock (.slice oR12 np pR12)) = some g → g < (w27).heap.size) := fun g hg => owns_lt ownR12 hg
              clear ownR12
              clear hb26 HOR3_26 HOQ4_26 HON5_26 HOV5_26 HOF5_26 HOR6_26 HOQ7_26 HON8_26 HOV8_26 HOF8_26 HOQ10_26 HON11_26 HOV11_26 HOF11_26 HBv1_26 HBv2_26 HBv3_26 HBv4_26 HBv5_26 HBv6_26
              have HX_27 : Hid (Below w23.heap.size w23 w27) := HX_26.out.trans (bw.mono HX_26.out.size)
              have HRXR12_27 : Hid ((w27).ownsRow w23.heap.size 74 2 (.slice oR12 np pR12) np (flatF P)) := owns_lift HOR12_27.out (fun g hg => Nat.le_trans HX_26.out.size (LOR12.out g hg))
              refine hK.out _ _ (HSS.out _ HX_27.out) (fun _ => ?_)
              clear hK K bw HX_26
              refine wpAnyH_ready (rs := [6]) (by kernel_rfl) (by simp) ?_
              refine AllReadyH.cons rfl (fun K hK => ?_) AllReadyH.nil
              go_simp
              have HXA : Hid (Below w23.heap.size w23 (w27.alloc (.cells #[.int .i64 0, .slice none 0 0, .string ⟨#[]⟩] 29))) := HX_27.out.alloc HX_27.out.size _
              refine hK.out _ _ (HSS.out _ HXA.out) (fun _ => ?_)
              clear hK K HXA
              obtain ⟨pa, ho⟩ : ∃ o, o = w27.heap.size := ⟨_, rfl⟩
              obtain ⟨w28, hXj⟩ : ∃ X, X = w27.alloc (.cells #[.int .i64 0, .slice none 0 0, .string ⟨#[]⟩] 29) := ⟨_, rfl⟩
              rw [← ho, ← hXj]
              have HGA : Hid (w23.heap.size ≤ pa) := by show _ ≤ _; rw [ho]; exact HX_27.out.size
              have bw : Below w27.heap.size w27 w28 := by rw [hXj]; exact (Below.refl _ _).alloc (Nat.le_refl _) _
              have hb28 : Below w.heap.size w (w28) := hb27.trans (bw.mono hb27.size)
              have HM28 : Hid ((w27).heap.size ≤ (w28).heap.size) := bw.size
              have HOR3_28 : Hid ((w28).ownsRow w.heap.size 74 2 (.slice oR3 np pR3) np (flatF P)) := owns_below HOR3_27.out bw (fun g hg => owns_lt HOR3_27.out hg)
              have HOQ4_28 : Hid ((w28).ownsRow w.heap.size 74 2 (.slice oQ4 n pQ4) n (flatF (mkG 1 fs n))) := owns_below HOQ4_27.out bw (fun g hg => owns_lt HOQ4_27.out hg)
              have HON5_28 : Hid ((w28).ownsRow w.heap.size 9 1 (.slice oN5 n1 pN5) n1 ((mkT (1 + 2 * n) xs n1).map Value.string)) := owns_below HON5_27.out bw (fun g hg => owns_lt HON5_27.out hg)
              have HOV5_28 : Hid ((w28).ownsRow w.heap.size 9 1 (.slice oV5 n2 pV5) n2 ((mkT (1 + 2 * n + n1) ys n2).map Value.string)) := owns_below HOV5_27.out bw (fun g hg => owns_lt HOV5_27.out hg)
              have HOF5_28 : Hid ((w28).ownsRow w.heap.size 74 2 (.slice oF5 k pF5) k (flatF (mkG (1 + 2 * n + n1 + n2) gs k))) := owns_below HOF5_27.out bw (fun g hg => owns_lt HOF5_27.out hg)
              have HOR6_28 : Hid ((w28).ownsRow w.heap.size 74 2 (.slice oR6 np pR6) np (flatF (mkG 1 P np))) := owns_below HOR6_27.out bw (fun g hg => owns_lt HOR6_27.out hg)
              have HOQ7_28 : Hid ((w28).ownsRow w.heap.size 74 2 (.slice oQ7 n pQ7) n (flatF fs)) := owns_below HOQ7_27.out bw (fun g hg => owns_lt HOQ7_27.out hg)
              have HON8_28 : Hid ((w28).ownsRow w.heap.size 9 1 (.slice oN8 n1 pN8) n1 (xs.map Value.string)) := owns_below HON8_27.out bw (fun g hg => owns_lt HON8_27.out hg)
              have HOV8_28 : Hid ((w28).ownsRow w.heap.size 9 1 (.slice oV8 n2 pV8) n2 (ys.map Value.string)) := owns_below HOV8_27.out bw (fun g hg => owns_lt HOV8_27.out hg)
              have HOF8_28 : Hid ((w28).ownsRow w.heap.size 74 2 (.slice oF8 k pF8) k (flatF gs)) := owns_below HOF8_27.out bw (fun g hg => owns_lt HOF8_27.out hg)
              have HOQ10_28 : Hid ((w28).ownsRow w.heap.size 74 2 (.slice oQ10 n pQ10) n (flatF fs)) := owns_below HOQ10_27.out bw (fun g hg => owns_lt HOQ10_27.out hg)
              have HON11_28 : Hid ((w28).ownsRow w.heap.size 9 1 (.slice oN11 n1 pN11) n1 (xs.map Value.string)) := owns_below HON11_27.out bw (fun g hg => owns_lt HON11_27.out hg)
              have HOV11_28 : Hid ((w28).ownsRow w.heap.size 9 1 (.slice oV11 n2 pV11) n2 (ys.map Value.string)) := owns_below HOV11_27.out bw (fun g hg => owns_lt HOV11_27.out hg)
              have HOF11_28 : Hid ((w28).ownsRow w.heap.size 74 2 (.slice oF11 k pF11) k (flatF gs)) := owns_below HOF11_27.out bw (fun g hg => owns_lt HOF11_27.out hg)
              have HOR12_28 : Hid ((w28).ownsRow w.heap.size 74 2 (.slice oR12 np pR12) np (flatF P)) := owns_below HOR12_27.out bw (fun g hg => owns_lt HOR12_27.out hg)
              have HBv1_28 : Hid ((w28).heap[qv1]? = some (.cells #[.int .i64 m, .string p, .slice a n cap, .string b] 50)) := blk_below HBv1_27.out bw
              have HBv2_28 : Hid ((w28).heap[qv2]? = some (.cells #[.string op, .slice a1 n1 c1, .slice a2 n2 c2, .int .i64 st, .slice a3 k c3, .string d, .int .i64 t] 54)) := blk_below HBv2_27.out bw
              have HBv3_28 : Hid ((w28).heap[qv3]? = some (.cells #[.int .i64 rs, .slice oR3 np pR3, .string rb] 29)) := blk_below HBv3_27.out bw
              have HBv4_28 : Hid ((w28).heap[qv4]? = some (.cells #[.int .i64 m, .string p, .slice oQ4 n pQ4, .string b] 26)) := blk_below HBv4_27.out bw
              have HBv5_28 : Hid ((w28).heap[qv5]? = some (.cells #[.string op, .slice oN5 n1 pN5, .slice oV5 n2 pV5, .int .i64 st, .slice oF5 k pF5, .string d, .int .i64 t] 31)) := blk_below HBv5_27.out bw
              have HBv6_28 : Hid ((w28).heap[qv6]? = some (.cells #[.int .i64 rs, .slice oR6 np pR6, .string rb] 29)) := blk_below HBv6_27.out bw
              have HX_28 : Hid (Below w23.heap.size w23 w28) := HX_27.out.trans (bw.mono HX_27.out.size)
              have HRXR12_28 : Hid ((w28).ownsRow w23.heap.size 74 2 (.slice oR12 np pR12) np (flatF P)) := owns_below HRXR12_27.out bw (fun g hg => owns_lt HRXR12_27.out hg)
              have HPA_28 : Hid (w28.heap[pa]? = some (.cells #[.int .i64 0, .slice none 0 0, .string ⟨#[]⟩] 29)) := by show _ = _; rw [hXj, ho]; exact heap_alloc_new _ _
              clear hb27 HOR3_27 HOQ4_27 HON5_27 HOV5_27 HOF5_27 HOR6_27 HOQ7_27 HON8_27 HOV8_27 HOF8_27 HOQ10_27 HON11_27 HOV11_27 HOF11_27 HOR12_27 HBv1_27 HBv2_27 HBv3_27 HBv4_27 HBv5_27 HBv6_27 bw ho hXj HX_27
              refine wpAnyH_ready (rs := [7]) (by kernel_rfl) (by simp) ?_
              refine AllReadyH.cons rfl (fun K hK => ?_) AllReadyH.nil
              have ce0 : w28.cell? ⟨pa, 0, none⟩ = some (.int .i64 0) := (cell_of HPA_28.out 0).trans rfl
              have fe0 : w28.frozen? ⟨pa, 0, none⟩ = false := frozen_of HPA_28.out 0
              have ce1 : w28.cell? ⟨pa, 1, none⟩ = some (.slice none 0 0) := (cell_of HPA_28.out 1).trans rfl
              have fe1 : w28.frozen? ⟨pa, 1, none⟩ = false := frozen_of HPA_28.out 1
              have ce2 : w28.cell? ⟨pa, 2, none⟩ = some (.string ⟨#[]⟩) := (cell_of HPA_28.out 2).trans rfl
              have fe2 : w28.frozen? ⟨pa, 2, none⟩ = false := frozen_of HPA_28.out 2
              obtain ⟨w29, hY⟩ : ∃ Y, Y = (((w28.setCell ⟨pa, 0, none⟩ (.int .i64 rs)).setCell ⟨pa, 1, none⟩ (.slice oR12 np pR12)).setCell ⟨pa, 2, none⟩ (.string rb)) := ⟨_, rfl⟩
              have HY : Hid ((((w28.setCell ⟨pa, 0, none⟩ (.int .i64 rs)).setCell ⟨pa, 1, none⟩ (.slice oR12 np pR12)).setCell ⟨pa, 2, none⟩ (.string rb)) = w29) := hY.symm
              have HX_29 : Hid (Below w23.heap.size w23 w29) := by show Below _ _ _; rw [hY]; exact (((HX_28.out.setCell (p := ⟨pa, 0, none⟩) HGA.out _).setCell (p := ⟨pa, 1, none⟩) HGA.out _).setCell (p := ⟨pa, 2, none⟩) HGA.out _)
              have HPA_29 : Hid (w29.heap[pa]? = some (.cells #[.int .i64 rs, .slice oR12 np pR12, .string rb] 29)) := by show _ = _; rw [hY]; have h := (heap_set _ pa 2 _ _ _ (.string rb) (heap_set _ pa 1 _ _ _ (.slice oR12 np pR12) (heap_set _ pa 0 _ _ _ (.int .i64 rs) HPA_28.out))); simpa using h
              have HRXR12_29 : Hid ((w29).ownsRow w23.heap.size 74 2 (.slice oR12 np pR12) np (flatF P)) := by show World.ownsRow _ _ _ _ _ _ _; rw [hY]; exact owns_same HRXR12_28.out (fun g hg => by have hne := own_ne HRXR12_28.out HPA_28.out (by decide) g hg; rw [heap_setCell_other _ _ g _ hne, heap_setCell_other _ _ g _ hne, heap_setCell_other _ _ g _ hne])
              clear hY hb28 HOR3_28 HOQ4_28 HON5_28 HOV5_28 HOF5_28 HOR6_28 HOQ7_28 HON8_28 HOV8_28 HOF8_28 HOQ10_28 HON11_28 HOV11_28 HOF11_28 HOR12_28 HBv1_28 HBv2_28 HBv3_28 HBv4_28 HBv5_28 HBv6_28
              go_simp
              rw [HY.out]
              refine hK.out _ _ (HSS.out _ HX_29.out) (fun _ => ?_)
              clear hK K HY ce0 fe0 ce1 fe1 ce2 fe2
              refine wpAnyH_done (by kernel_rfl) ?_ _
              go_wp2_with fail
              go_meet
              exact ⟨pa, oR12, pR12, rfl, ⟨HX_29.out, HPA_29.out, HGA.out, HRXR12_29.out⟩⟩
            · go_simp
              have HXA : Hid (Below w23.heap.size w23 (w26.alloc (.cells #[.int .i64 0, .slice none 0 0, .string ⟨#[]⟩] 29))) := HX_26.out.alloc HX_26.out.size _
              refine hK.out _ _ (HSS.out _ HXA.out) (fun _ => ?_)
              clear hK K HXA
              obtain ⟨pa, ho⟩ : ∃ o, o = w26.heap.size := ⟨_, rfl⟩
              obtain ⟨w27, hXj⟩ : ∃ X, X = w26.alloc (.cells #[.int .i64 0, .slice none 0 0, .string ⟨#[]⟩] 29) := ⟨_, rfl⟩
              rw [← ho, ← hXj]
              have HGA : Hid (w23.heap.size ≤ pa) := by show _ ≤ _; rw [ho]; exact HX_26.out.size
              have bw : Below w26.heap.size w26 w27 := by rw [hXj]; exact (Below.refl _ _).alloc (Nat.le_refl _) _
              have hb27 : Below w.heap.size w (w27) := hb26.trans (bw.mono hb26.size)
              have HM27 : Hid ((w26).heap.size ≤ (w27).heap.size) := bw.size
              have HOR3_27 : Hid ((w27).ownsRow w.heap.size 74 2 (.slice oR3 np pR3) np (flatF P)) := owns_below HOR3_26.out bw (fun g hg => owns_lt HOR3_26.out hg)
              have HOQ4_27 : Hid ((w27).ownsRow w.heap.size 74 2 (.slice oQ4 n pQ4) n (flatF (mkG 1 fs n))) := owns_below HOQ4_26.out bw (fun g hg => owns_lt HOQ4_26.out hg)
              have HON5_27 : Hid ((w27).ownsRow w.heap.size 9 1 (.slice oN5 n1 pN5) n1 ((mkT (1 + 2 * n) xs n1).map Value.string)) := owns_below HON5_26.out bw (fun g hg => owns_lt HON5_26.out hg)
              have HOV5_27 : Hid ((w27).ownsRow w.heap.size 9 1 (.slice oV5 n2 pV5) n2 ((mkT (1 + 2 * n + n1) ys n2).map Value.string)) := owns_below HOV5_26.out bw (fun g hg => owns_lt HOV5_26.out hg)
              have HOF5_27 : Hid ((w27).ownsRow w.heap.size 74 2 (.slice oF5 k pF5) k (flatF (mkG (1 + 2 * n + n1 + n2) gs k))) := owns_below HOF5_26.out bw (fun g hg => owns_lt HOF5_26.out hg)
              have HOR6_27 : Hid ((w27).ownsRow w.heap.size 74 2 (.slice oR6 np pR6) np (flatF (mkG 1 P np))) := owns_below HOR6_26.out bw (fun g hg => owns_lt HOR6_26.out hg)
              have HOQ7_27 : Hid ((w27).ownsRow w.heap.size 74 2 (.slice oQ7 n pQ7) n (flatF fs)) := owns_below HOQ7_26.out bw (fun g hg => owns_lt HOQ7_26.out hg)
              have HON8_27 : Hid ((w27).ownsRow w.heap.size 9 1 (.slice oN8 n1 pN8) n1 (xs.map Value.string)) := owns_below HON8_26.out bw (fun g hg => owns_lt HON8_26.out hg)
              have HOV8_27 : Hid ((w27).ownsRow w.heap.size 9 1 (.slice oV8 n2 pV8) n2 (ys.map Value.string)) := owns_below HOV8_26.out bw (fun g hg => owns_lt HOV8_26.out hg)
              have HOF8_27 : Hid ((w27).ownsRow w.heap.size 74 2 (.slice oF8 k pF8) k (flatF gs)) := owns_below HOF8_26.out bw (fun g hg => owns_lt HOF8_26.out hg)
              have HOQ10_27 : Hid ((w27).ownsRow w.heap.size 74 2 (.slice oQ10 n pQ10) n (flatF fs)) := owns_below HOQ10_26.out bw (fun g hg => owns_lt HOQ10_26.out hg)
              have HON11_27 : Hid ((w27).ownsRow w.heap.size 9 1 (.slice oN11 n1 pN11) n1 (xs.map Value.string)) := owns_below HON11_26.out bw (fun g hg => owns_lt HON11_26.out hg)
              have HOV11_27 : Hid ((w27).ownsRow w.heap.size 9 1 (.slice oV11 n2 pV11) n2 (ys.map Value.string)) := owns_below HOV11_26.out bw (fun g hg => owns_lt HOV11_26.out hg)
              have HOF11_27 : Hid ((w27).ownsRow w.heap.size 74 2 (.slice oF11 k pF11) k (flatF gs)) := owns_below HOF11_26.out bw (fun g hg => owns_lt HOF11_26.out hg)
              have HBv1_27 : Hid ((w27).heap[qv1]? = some (.cells #[.int .i64 m, .string p, .slice a n cap, .string b] 50)) := blk_below HBv1_26.out bw
              have HBv2_27 : Hid ((w27).heap[qv2]? = some (.cells #[.string op, .slice a1 n1 c1, .slice a2 n2 c2, .int .i64 st, .slice a3 k c3, .string d, .int .i64 t] 54)) := blk_below HBv2_26.out bw
              have HBv3_27 : Hid ((w27).heap[qv3]? = some (.cells #[.int .i64 rs, .slice oR3 np pR3, .string rb] 29)) := blk_below HBv3_26.out bw
              have HBv4_27 : Hid ((w27).heap[qv4]? = some (.cells #[.int .i64 m, .string p, .slice oQ4 n pQ4, .string b] 26)) := blk_below HBv4_26.out bw
              have HBv5_27 : Hid ((w27).heap[qv5]? = some (.cells #[.string op, .slice oN5 n1 pN5, .slice oV5 n2 pV5, .int .i64 st, .slice oF5 k pF5, .string d, .int .i64 t] 31)) := blk_below HBv5_26.out bw
              have HBv6_27 : Hid ((w27).heap[qv6]? = some (.cells #[.int .i64 rs, .slice oR6 np pR6, .string rb] 29)) := blk_below HBv6_26.out bw
              have HX_27 : Hid (Below w23.heap.size w23 w27) := HX_26.out.trans (bw.mono HX_26.out.size)
              have HPA_27 : Hid (w27.heap[pa]? = some (.cells #[.int .i64 0, .slice none 0 0, .string ⟨#[]⟩] 29)) := by show _ = _; rw [hXj, ho]; exact heap_alloc_new _ _
              clear hb26 HOR3_26 HOQ4_26 HON5_26 HOV5_26 HOF5_26 HOR6_26 HOQ7_26 HON8_26 HOV8_26 HOF8_26 HOQ10_26 HON11_26 HOV11_26 HOF11_26 HBv1_26 HBv2_26 HBv3_26 HBv4_26 HBv5_26 HBv6_26 bw ho hXj HX_26
              refine wpAnyH_ready (rs := [5]) (by kernel_rfl) (by simp) ?_
              refine AllReadyH.cons rfl (fun K hK => ?_) AllReadyH.nil
              go_simp
              refine (HIM.out _ hb27 _ _ _ _ _ _ _ _ _ HOQ10_27.out HOF11_27.out).mono ?_
              rintro e w28 ⟨vv, rfl, ownR12, bw⟩
              obtain ⟨oR12, pR12, rfl⟩ := slice_of_owns ownR12
              have hb28 : Below w.heap.size w (w28) := hb27.trans (bw.mono hb27.size)
              have HM28 : Hid ((w27).heap.size ≤ (w28).heap.size) := bw.size
              have HOR3_28 : Hid ((w28).ownsRow w.heap.size 74 2 (.slice oR3 np pR3) np (flatF P)) := owns_below HOR3_27.out bw (fun g hg => owns_lt HOR3_27.out hg)
              have HOQ4_28 : Hid ((w28).ownsRow w.heap.size 74 2 (.slice oQ4 n pQ4) n (flatF (mkG 1 fs n))) := owns_below HOQ4_27.out bw (fun g hg => owns_lt HOQ4_27.out hg)
              have HON5_28 : Hid ((w28).ownsRow w.heap.size 9 1 (.slice oN5 n1 pN5) n1 ((mkT (1 + 2 * n) xs n1).map Value.string)) := owns_below HON5_27.out bw (fun g hg => owns_lt HON5_27.out hg)
              have HOV5_28 : Hid ((w28).ownsRow w.heap.size 9 1 (.slice oV5 n2 pV5) n2 ((mkT (1 + 2 * n + n1) ys n2).map Value.string)) := owns_below HOV5_27.out bw (fun g hg => owns_lt HOV5_27.out hg)
              have HOF5_28 : Hid ((w28).ownsRow w.heap.size 74 2 (.slice oF5 k pF5) k (flatF (mkG (1 + 2 * n + n1 + n2) gs k))) := owns_below HOF5_27.out bw (fun g hg => owns_lt HOF5_27.out hg)
              have HOR6_28 : Hid ((w28).ownsRow w.heap.size 74 2 (.slice oR6 np pR6) np (flatF (mkG 1 P np))) := owns_below HOR6_27.out bw (fun g hg => owns_lt HOR6_27.out hg)
              have HOQ7_28 : Hid ((w28).ownsRow w.heap.size 74 2 (.slice oQ7 n pQ7) n (flatF fs)) := owns_below HOQ7_27.out bw (fun g hg => owns_lt HOQ7_27.out hg)
              have HON8_28 : Hid ((w28).ownsRow w.heap.size 9 1 (.slice oN8 n1 pN8) n1 (xs.map Value.string)) := owns_below HON8_27.out bw (fun g hg => owns_lt HON8_27.out hg)
              have HOV8_28 : Hid ((w28).ownsRow w.heap.size 9 1 (.slice oV8 n2 pV8) n2 (ys.map Value.string)) := owns_below HOV8_27.out bw (fun g hg => owns_lt HOV8_27.out hg)
              have HOF8_28 : Hid ((w28).ownsRow w.heap.size 74 2 (.slice oF8 k pF8) k (flatF gs)) := owns_below HOF8_27.out bw (fun g hg => owns_lt HOF8_27.out hg)
              have HOQ10_28 : Hid ((w28).ownsRow w.heap.size 74 2 (.slice oQ10 n pQ10) n (flatF fs)) := owns_below HOQ10_27.out bw (fun g hg => owns_lt HOQ10_27.out hg)
              have HON11_28 : Hid ((w28).ownsRow w.heap.size 9 1 (.slice oN11 n1 pN11) n1 (xs.map Value.string)) := owns_below HON11_27.out bw (fun g hg => owns_lt HON11_27.out hg)
              have HOV11_28 : Hid ((w28).ownsRow w.heap.size 9 1 (.slice oV11 n2 pV11) n2 (ys.map Value.string)) := owns_below HOV11_27.out bw (fun g hg => owns_lt HOV11_27.out hg)
              have HOF11_28 : Hid ((w28).ownsRow w.heap.size 74 2 (.slice oF11 k pF11) k (flatF gs)) := owns_below HOF11_27.out bw (fun g hg => owns_lt HOF11_27.out hg)
              have HBv1_28 : Hid ((w28).heap[qv1]? = some (.cells #[.int .i64 m, .string p, .slice a n cap, .string b] 50)) := blk_below HBv1_27.out bw
              have HBv2_28 : Hid ((w28).heap[qv2]? = some (.cells #[.string op, .slice a1 n1 c1, .slice a2 n2 c2, .int .i64 st, .slice a3 k c3, .string d, .int .i64 t] 54)) := blk_below HBv2_27.out bw
              have HBv3_28 : Hid ((w28).heap[qv3]? = some (.cells #[.int .i64 rs, .slice oR3 np pR3, .string rb] 29)) := blk_below HBv3_27.out bw
              have HBv4_28 : Hid ((w28).heap[qv4]? = some (.cells #[.int .i64 m, .string p, .slice oQ4 n pQ4, .string b] 26)) := blk_below HBv4_27.out bw
              have HBv5_28 : Hid ((w28).heap[qv5]? = some (.cells #[.string op, .slice oN5 n1 pN5, .slice oV5 n2 pV5, .int .i64 st, .slice oF5 k pF5, .string d, .int .i64 t] 31)) := blk_below HBv5_27.out bw
              have HBv6_28 : Hid ((w28).heap[qv6]? = some (.cells #[.int .i64 rs, .slice oR6 np pR6, .string rb] 29)) := blk_below HBv6_27.out bw
              have HOR12_28 : Hid ((w28).ownsRow w.heap.size 74 2 (.slice oR12 np pR12) np (flatF P)) := owns_wide ownR12 hb27.size
              have LOR12 : Hid (∀ g, (Value.ownBlock (.slice oR12 np pR12)) = some g → (w27).heap.size ≤ g) := fun g hg => owns_ge ownR12 hg
              have HIR12 : Hid (∀ g, (Value.ownBlock (.slice oR12 np pR12)) = some g → g < (w28).heap.size) := fun g hg => owns_lt ownR12 hg
              clear ownR12
              clear hb27 HOR3_27 HOQ4_27 HON5_27 HOV5_27 HOF5_27 HOR6_27 HOQ7_27 HON8_27 HOV8_27 HOF8_27 HOQ10_27 HON11_27 HOV11_27 HOF11_27 HBv1_27 HBv2_27 HBv3_27 HBv4_27 HBv5_27 HBv6_27
              have HX_28 : Hid (Below w23.heap.size w23 w28) := HX_27.out.trans (bw.mono HX_27.out.size)
              have HPA_28 : Hid (w28.heap[pa]? = some (.cells #[.int .i64 0, .slice none 0 0, .string ⟨#[]⟩] 29)) := blk_below HPA_27.out bw
              have HRXR12_28 : Hid ((w28).ownsRow w23.heap.size 74 2 (.slice oR12 np pR12) np (flatF P)) := owns_lift HOR12_28.out (fun g hg => Nat.le_trans HX_27.out.size (LOR12.out g hg))
              refine hK.out _ _ (HSS.out _ HX_28.out) (fun _ => ?_)
              clear hK K bw HX_27
              refine wpAnyH_ready (rs := [7]) (by kernel_rfl) (by simp) ?_
              refine AllReadyH.cons rfl (fun K hK => ?_) AllReadyH.nil
              have ce0 : w28.cell? ⟨pa, 0, none⟩ = some (.int .i64 0) := (cell_of HPA_28.out 0).trans rfl
              have fe0 : w28.frozen? ⟨pa, 0, none⟩ = false := frozen_of HPA_28.out 0
              have ce1 : w28.cell? ⟨pa, 1, none⟩ = some (.slice none 0 0) := (cell_of HPA_28.out 1).trans rfl
              have fe1 : w28.frozen? ⟨pa, 1, none⟩ = false := frozen_of HPA_28.out 1
              have ce2 : w28.cell? ⟨pa, 2, none⟩ = some (.string ⟨#[]⟩) := (cell_of HPA_28.out 2).trans rfl
              have fe2 : w28.frozen? ⟨pa, 2, none⟩ = false := frozen_of HPA_28.out 2
              obtain ⟨w29, hY⟩ : ∃ Y, Y = (((w28.setCell ⟨pa, 0, none⟩ (.int .i64 rs)).setCell ⟨pa, 1, none⟩ (.slice oR12 np pR12)).setCell ⟨pa, 2, none⟩ (.string rb)) := ⟨_, rfl⟩
              have HY : Hid ((((w28.setCell ⟨pa, 0, none⟩ (.int .i64 rs)).setCell ⟨pa, 1, none⟩ (.slice oR12 np pR12)).setCell ⟨pa, 2, none⟩ (.string rb)) = w29) := hY.symm
              have HX_29 : Hid (Below w23.heap.size w23 w29) := by show Below _ _ _; rw [hY]; exact (((HX_28.out.setCell (p := ⟨pa, 0, none⟩) HGA.out _).setCell (p := ⟨pa, 1, none⟩) HGA.out _).setCell (p := ⟨pa, 2, none⟩) HGA.out _)
              have HPA_29 : Hid (w29.heap[pa]? = some (.cells #[.int .i64 rs, .slice oR12 np pR12, .string rb] 29)) := by show _ = _; rw [hY]; have h := (heap_set _ pa 2 _ _ _ (.string rb) (heap_set _ pa 1 _ _ _ (.slice oR12 np pR12) (heap_set _ pa 0 _ _ _ (.int .i64 rs) HPA_28.out))); simpa using h
              have HRXR12_29 : Hid ((w29).ownsRow w23.heap.size 74 2 (.slice oR12 np pR12) np (flatF P)) := by show World.ownsRow _ _ _ _ _ _ _; rw [hY]; exact owns_same HRXR12_28.out (fun g hg => by have hne := own_ne HRXR12_28.out HPA_28.out (by decide) g hg; rw [heap_setCell_other _ _ g _ hne, heap_setCell_other _ _ g _ hne, heap_setCell_other _ _ g _ hne])
              clear hY hb28 HOR3_28 HOQ4_28 HON5_28 HOV5_28 HOF5_28 HOR6_28 HOQ7_28 HON8_28 HOV8_28 HOF8_28 HOQ10_28 HON11_28 HOV11_28 HOF11_28 HOR12_28 HBv1_28 HBv2_28 HBv3_28 HBv4_28 HBv5_28 HBv6_28
              go_simp
              rw [HY.out]
              refine hK.out _ _ (HSS.out _ HX_29.out) (fun _ => ?_)
              clear hK K HY ce0 fe0 ce1 fe1 ce2 fe2
              refine wpAnyH_done (by kernel_rfl) ?_ _
              go_wp2_with fail
              go_meet
              exact ⟨pa, oR12, pR12, rfl, ⟨HX_29.out, HPA_29.out, HGA.out, HRXR12_29.out⟩⟩
          · go_simp
            have HXA : Hid (Below w23.heap.size w23 (w25.alloc (.cells #[.int .i64 0, .slice none 0 0, .string ⟨#[]⟩] 29))) := HX_25.out.alloc HX_25.out.size _
            refine hK.out _ _ (HSS.out _ HXA.out) (fun _ => ?_)
            clear hK K HXA
            obtain ⟨pa, ho⟩ : ∃ o, o = w25.heap.size := ⟨_, rfl⟩
            obtain ⟨w26, hXj⟩ : ∃ X, X = w25.alloc (.cells #[.int .i64 0, .slice none 0 0, .string ⟨#[]⟩] 29) := ⟨_, rfl⟩
            rw [← ho, ← hXj]
            have HGA : Hid (w23.heap.size ≤ pa) := by show _ ≤ _; rw [ho]; exact HX_25.out.size
            have bw : Below w25.heap.size w25 w26 := by rw [hXj]; exact (Below.refl _ _).alloc (Nat.le_refl _) _
            have hb26 : Below w.heap.size w (w26) := hb25.trans (bw.mono hb25.size)
            have HM26 : Hid ((w25).heap.size ≤ (w26).heap.size) := bw.size
            have HOR3_26 : Hid ((w26).ownsRow w.heap.size 74 2 (.slice oR3 np pR3) np (flatF P)) := owns_below HOR3_25.out bw (fun g hg => owns_lt HOR3_25.out hg)
            have HOQ4_26 : Hid ((w26).ownsRow w.heap.size 74 2 (.slice oQ4 n pQ4) n (flatF (mkG 1 fs n))) := owns_below HOQ4_25.out bw (fun g hg => owns_lt HOQ4_25.out hg)
            have HON5_26 : Hid ((w26).ownsRow w.heap.size 9 1 (.slice oN5 n1 pN5) n1 ((mkT (1 + 2 * n) xs n1).map Value.string)) := owns_below HON5_25.out bw (fun g hg => owns_lt HON5_25.out hg)
            have HOV5_26 : Hid ((w26).ownsRow w.heap.size 9 1 (.slice oV5 n2 pV5) n2 ((mkT (1 + 2 * n + n1) ys n2).map Value.string)) := owns_below HOV5_25.out bw (fun g hg => owns_lt HOV5_25.out hg)
            have HOF5_26 : Hid ((w26).ownsRow w.heap.size 74 2 (.slice oF5 k pF5) k (flatF (mkG (1 + 2 * n + n1 + n2) gs k))) := owns_below HOF5_25.out bw (fun g hg => owns_lt HOF5_25.out hg)
            have HOR6_26 : Hid ((w26).ownsRow w.heap.size 74 2 (.slice oR6 np pR6) np (flatF (mkG 1 P np))) := owns_below HOR6_25.out bw (fun g hg => owns_lt HOR6_25.out hg)
            have HOQ7_26 : Hid ((w26).ownsRow w.heap.size 74 2 (.slice oQ7 n pQ7) n (flatF fs)) := owns_below HOQ7_25.out bw (fun g hg => owns_lt HOQ7_25.out hg)
            have HON8_26 : Hid ((w26).ownsRow w.heap.size 9 1 (.slice oN8 n1 pN8) n1 (xs.map Value.string)) := owns_below HON8_25.out bw (fun g hg => owns_lt HON8_25.out hg)
            have HOV8_26 : Hid ((w26).ownsRow w.heap.size 9 1 (.slice oV8 n2 pV8) n2 (ys.map Value.string)) := owns_below HOV8_25.out bw (fun g hg => owns_lt HOV8_25.out hg)
            have HOF8_26 : Hid ((w26).ownsRow w.heap.size 74 2 (.slice oF8 k pF8) k (flatF gs)) := owns_below HOF8_25.out bw (fun g hg => owns_lt HOF8_25.out hg)
            have HOQ10_26 : Hid ((w26).ownsRow w.heap.size 74 2 (.slice oQ10 n pQ10) n (flatF fs)) := owns_below HOQ10_25.out bw (fun g hg => owns_lt HOQ10_25.out hg)
            have HBv1_26 : Hid ((w26).heap[qv1]? = some (.cells #[.int .i64 m, .string p, .slice a n cap, .string b] 50)) := blk_below HBv1_25.out bw
            have HBv2_26 : Hid ((w26).heap[qv2]? = some (.cells #[.string op, .slice a1 n1 c1, .slice a2 n2 c2, .int .i64 st, .slice a3 k c3, .string d, .int .i64 t] 54)) := blk_below HBv2_25.out bw
            have HBv3_26 : Hid ((w26).heap[qv3]? = some (.cells #[.int .i64 rs, .slice oR3 np pR3, .string rb] 29)) := blk_below HBv3_25.out bw
            have HBv4_26 : Hid ((w26).heap[qv4]? = some (.cells #[.int .i64 m, .string p, .slice oQ4 n pQ4, .string b] 26)) := blk_below HBv4_25.out bw
            have HBv5_26 : Hid ((w26).heap[qv5]? = some (.cells #[.string op, .slice oN5 n1 pN5, .slice oV5 n2 pV5, .int .i64 st, .slice oF5 k pF5, .string d, .int .i64 t] 31)) := blk_below HBv5_25.out bw
            have HBv6_26 : Hid ((w26).heap[qv6]? = some (.cells #[.int .i64 rs, .slice oR6 np pR6, .string rb] 29)) := blk_below HBv6_25.out bw
            have HX_26 : Hid (Below w23.heap.size w23 w26) := HX_25.out.trans (bw.mono HX_25.out.size)
            have HPA_26 : Hid (w26.heap[pa]? = some (.cells #[.int .i64 0, .slice none 0 0, .string ⟨#[]⟩] 29)) := by show _ = _; rw [hXj, ho]; exact heap_alloc_new _ _
            clear hb25 HOR3_25 HOQ4_25 HON5_25 HOV5_25 HOF5_25 HOR6_25 HOQ7_25 HON8_25 HOV8_25 HOF8_25 HOQ10_25 HBv1_25 HBv2_25 HBv3_25 HBv4_25 HBv5_25 HBv6_25 bw ho hXj HX_25
            refine wpAnyH_ready (rs := [3]) (by kernel_rfl) (by simp) ?_
            refine AllReadyH.cons rfl (fun K hK => ?_) AllReadyH.nil
            go_simp
            refine (toObj_any op a1 n1 c1 xs a2 n2 c2 ys st a3 k c3 gs d t w.heap.size _ (HX1.out _ hb26) (HX2.out _ hb26) (HX3.out _ hb26) hb26.size hm3 hm4 hm5).mono ?_
            rintro e w27 ⟨vv1, vv2, vv3, rfl, ⟨ownN11, ownV11, ownF11, ne11⟩, bw⟩
            obtain ⟨oN11, pN11, rfl⟩ := slice_of_owns ownN11
            obtain ⟨oV11, pV11, rfl⟩ := slice_of_owns ownV11
            obtain ⟨oF11, pF11, rfl⟩ := slice_of_owns ownF11
            have AP11 : Hid (∀ j, (Value.slice oN11 n1 pN11).ownBlock = some j → (Value.slice oV11 n2 pV11).ownBlock ≠ some j) := ne11
            clear ne11
            have hb27 : Below w.heap.size w (w27) := hb26.trans (bw.mono hb26.size)
            have HM27 : Hid ((w26).heap.size ≤ (w27).heap.size) := bw.size
            have HOR3_27 : Hid ((w27).ownsRow w.heap.size 74 2 (.slice oR3 np pR3) np (flatF P)) := owns_below HOR3_26.out bw (fun g hg => owns_lt HOR3_26.out hg)
            have HOQ4_27 : Hid ((w27).ownsRow w.heap.size 74 2 (.slice oQ4 n pQ4) n (flatF (mkG 1 fs n))) := owns_below HOQ4_26.out bw (fun g hg => owns_lt HOQ4_26.out hg)
            have HON5_27 : Hid ((w27).ownsRow w.heap.size 9 1 (.slice oN5 n1 pN5) n1 ((mkT (1 + 2 * n) xs n1).map Value.string)) := owns_below HON5_26.out bw (fun g hg => owns_lt HON5_26.out hg)
            have HOV5_27 : Hid ((w27).ownsRow w.heap.size 9 1 (.slice oV5 n2 pV5) n2 ((mkT (1 + 2 * n + n1) ys n2).map Value.string)) := owns_below HOV5_26.out bw (fun g hg => owns_lt HOV5_26.out hg)
            have HOF5_27 : Hid ((w27).ownsRow w.heap.size 74 2 (.slice oF5 k pF5) k (flatF (mkG (1 + 2 * n + n1 + n2) gs k))) := owns_below HOF5_26.out bw (fun g hg => owns_lt HOF5_26.out hg)
            have HOR6_27 : Hid ((w27).ownsRow w.heap.size 74 2 (.slice oR6 np pR6) np (flatF (mkG 1 P np))) := owns_below HOR6_26.out bw (fun g hg => owns_lt HOR6_26.out hg)
            have HOQ7_27 : Hid ((w27).ownsRow w.heap.size 74 2 (.slice oQ7 n pQ7) n (flatF fs)) := owns_below HOQ7_26.out bw (fun g hg => owns_lt HOQ7_26.out hg)
            have HON8_27 : Hid ((w27).ownsRow w.heap.size 9 1 (.slice oN8 n1 pN8) n1 (xs.map Value.string)) := owns_below HON8_26.out bw (fun g hg => owns_lt HON8_26.out hg)
            have HOV8_27 : Hid ((w27).ownsRow w.heap.size 9 1 (.slice oV8 n2 pV8) n2 (ys.map Value.string)) := owns_below HOV8_26.out bw (fun g hg => owns_lt HOV8_26.out hg)
            have HOF8_27 : Hid ((w27).ownsRow w.heap.size 74 2 (.slice oF8 k pF8) k (flatF gs)) := owns_below HOF8_26.out bw (fun g hg => owns_lt HOF8_26.out hg)
            have HOQ10_27 : Hid ((w27).ownsRow w.heap.size 74 2 (.slice oQ10 n pQ10) n (flatF fs)) := owns_below HOQ10_26.out bw (fun g hg => owns_lt HOQ10_26.out hg)
            have HBv1_27 : Hid ((w27).heap[qv1]? = some (.cells #[.int .i64 m, .string p, .slice a n cap, .string b] 50)) := blk_below HBv1_26.out bw
            have HBv2_27 : Hid ((w27).heap[qv2]? = some (.cells #[.string op, .slice a1 n1 c1, .slice a2 n2 c2, .int .i64 st, .slice a3 k c3, .string d, .int .i64 t] 54)) := blk_below HBv2_26.out bw
            have HBv3_27 : Hid ((w27).heap[qv3]? = some (.cells #[.int .i64 rs, .slice oR3 np pR3, .string rb] 29)) := blk_below HBv3_26.out bw
            have HBv4_27 : Hid ((w27).heap[qv4]? = some (.cells #[.int .i64 m, .string p, .slice oQ4 n pQ4, .string b] 26)) := blk_below HBv4_26.out bw
            have HBv5_27 : Hid ((w27).heap[qv5]? = some (.cells #[.string op, .slice oN5 n1 pN5, .slice oV5 n2 pV5, .int .i64 st, .slice oF5 k pF5, .string d, .int .i64 t] 31)) := blk_below HBv5_26.out bw
            have HBv6_27 : Hid ((w27).heap[qv6]? = some (.cells #[.int .i64 rs, .slice oR6 np pR6, .string rb] 29)) := blk_below HBv6_26.out bw
            have HON11_27 : Hid ((w27).ownsRow w.heap.size 9 1 (.slice oN11 n1 pN11) n1 (xs.map Value.string)) := owns_wide ownN11 hb26.size
            have LON11 : Hid (∀ g, (Value.ownBlock (.slice oN11 n1 pN11)) = some g → (w26).heap.size ≤ g) := fun g hg => owns_ge ownN11 hg
            have HIN11 : Hid (∀ g, (Value.ownBlock (.slice oN11 n1 pN11)) = some g → g < (w27).heap.size) := fun g hg => owns_lt ownN11 hg
            clear ownN11
            have HOV11_27 : Hid ((w27).ownsRow w.heap.size 9 1 (.slice oV11 n2 pV11) n2 (ys.map Value.string)) := owns_wide ownV11 hb26.size
            have LOV11 : Hid (∀ g, (Value.ownBlock (.slice oV11 n2 pV11)) = some g → (w26).heap.size ≤ g) := fun g hg => owns_ge ownV11 hg
            have HIV11 : Hid (∀ g, (Value.ownBlock (.slice oV11 n2 pV11)) = some g → g < (w27).heap.size) := fun g hg => owns_lt ownV11 hg
            clear ownV11
            have HOF11_27 : Hid ((w27).ownsRow w.heap.size 74 2 (.slice oF11 k pF11) k (flatF gs)) := owns_wide ownF11 hb26.size
            have LOF11 : Hid (∀ g, (Value.ownBlock (.slice oF11 k pF11)) = some g → (w26).heap.size ≤ g) := fun g hg => owns_ge ownF11 hg
            have HIF11 : Hid (∀ g, (Value.ownBlock (.slice oF11 k pF11)) = some g → g < (w27).heap.size) := fun g hg => owns_lt ownF11 hg
            clear ownF11
            clear hb26 HOR3_26 HOQ4_26 HON5_26 HOV5_26 HOF5_26 HOR6_26 HOQ7_26 HON8_26 HOV8_26 HOF8_26 HOQ10_26 HBv1_26 HBv2_26 HBv3_26 HBv4_26 HBv5_26 HBv6_26
            have HX_27 : Hid (Below w23.heap.size w23 w27) := HX_26.out.trans (bw.mono HX_26.out.size)
            have HPA_27 : Hid (w27.heap[pa]? = some (.cells #[.int .i64 0, .slice none 0 0, .string ⟨#[]⟩] 29)) := blk_below HPA_26.out bw
            refine hK.out _ _ (HSS.out _ HX_27.out) (fun _ => ?_)
            clear hK K bw HX_26
            refine wpAnyH_ready (rs := [5]) (by kernel_rfl) (by simp) ?_
            refine AllReadyH.cons rfl (fun K hK => ?_) AllReadyH.nil
            go_simp
            refine (HIM.out _ hb27 _ _ _ _ _ _ _ _ _ HOQ10_27.out HOF11_27.out).mono ?_
            rintro e w28 ⟨vv, rfl, ownR12, bw⟩
            obtain ⟨oR12, pR12, rfl⟩ := slice_of_owns ownR12
            have hb28 : Below w.heap.size w (w28) := hb27.trans (bw.mono hb27.size)
            have HM28 : Hid ((w27).heap.size ≤ (w28).heap.size) := bw.size
            have HOR3_28 : Hid ((w28).ownsRow w.heap.size 74 2 (.slice oR3 np pR3) np (flatF P)) := owns_below HOR3_27.out bw (fun g hg => owns_lt HOR3_27.out hg)
            have HOQ4_28 : Hid ((w28).ownsRow w.heap.size 74 2 (.slice oQ4 n pQ4) n (flatF (mkG 1 fs n))) := owns_below HOQ4_27.out bw (fun g hg => owns_lt HOQ4_27.out hg)
            have HON5_28 : Hid ((w28).ownsRow w.heap.size 9 1 (.slice oN5 n1 pN5) n1 ((mkT (1 + 2 * n) xs n1).map Value.string)) := owns_below HON5_27.out bw (fun g hg => owns_lt HON5_27.out hg)
            have HOV5_28 : Hid ((w28).ownsRow w.heap.size 9 1 (.slice oV5 n2 pV5) n2 ((mkT (1 + 2 * n + n1) ys n2).map Value.string)) := owns_below HOV5_27.out bw (fun g hg => owns_lt HOV5_27.out hg)
            have HOF5_28 : Hid ((w28).ownsRow w.heap.size 74 2 (.slice oF5 k pF5) k (flatF (mkG (1 + 2 * n + n1 + n2) gs k))) := owns_below HOF5_27.out bw (fun g hg => owns_lt HOF5_27.out hg)
            have HOR6_28 : Hid ((w28).ownsRow w.heap.size 74 2 (.slice oR6 np pR6) np (flatF (mkG 1 P np))) := owns_below HOR6_27.out bw (fun g hg => owns_lt HOR6_27.out hg)
            have HOQ7_28 : Hid ((w28).ownsRow w.heap.size 74 2 (.slice oQ7 n pQ7) n (flatF fs)) := owns_below HOQ7_27.out bw (fun g hg => owns_lt HOQ7_27.out hg)
            have HON8_28 : Hid ((w28).ownsRow w.heap.size 9 1 (.slice oN8 n1 pN8) n1 (xs.map Value.string)) := owns_below HON8_27.out bw (fun g hg => owns_lt HON8_27.out hg)
            have HOV8_28 : Hid ((w28).ownsRow w.heap.size 9 1 (.slice oV8 n2 pV8) n2 (ys.map Value.string)) := owns_below HOV8_27.out bw (fun g hg => owns_lt HOV8_27.out hg)
            have HOF8_28 : Hid ((w28).ownsRow w.heap.size 74 2 (.slice oF8 k pF8) k (flatF gs)) := owns_below HOF8_27.out bw (fun g hg => owns_lt HOF8_27.out hg)
            have HOQ10_28 : Hid ((w28).ownsRow w.heap.size 74 2 (.slice oQ10 n pQ10) n (flatF fs)) := owns_below HOQ10_27.out bw (fun g hg => owns_lt HOQ10_27.out hg)
            have HON11_28 : Hid ((w28).ownsRow w.heap.size 9 1 (.slice oN11 n1 pN11) n1 (xs.map Value.string)) := owns_below HON11_27.out bw (fun g hg => owns_lt HON11_27.out hg)
            have HOV11_28 : Hid ((w28).ownsRow w.heap.size 9 1 (.slice oV11 n2 pV11) n2 (ys.map Value.string)) := owns_below HOV11_27.out bw (fun g hg => owns_lt HOV11_27.out hg)
            have HOF11_28 : Hid ((w28).ownsRow w.heap.size 74 2 (.slice oF11 k pF11) k (flatF gs)) := owns_below HOF11_27.out bw (fun g hg => owns_lt HOF11_27.out hg)
            have HBv1_28 : Hid ((w28).heap[qv1]? = some (.cells #[.int .i64 m, .string p, .slice a n cap, .string b] 50)) := blk_below HBv1_27.out bw
            have HBv2_28 : Hid ((w28).heap[qv2]? = some (.cells #[.string op, .slice a1 n1 c1, .slice a2 n2 c2, .int .i64 st, .slice a3 k c3, .string d, .int .i64 t] 54)) := blk_below HBv2_27.out bw
            have HBv3_28 : Hid ((w28).heap[qv3]? = some (.cells #[.int .i64 rs, .slice oR3 np pR3, .string rb] 29)) := blk_below HBv3_27.out bw
            have HBv4_28 : Hid ((w28).heap[qv4]? = some (.cells #[.int .i64 m, .string p, .slice oQ4 n pQ4, .string b] 26)) := blk_below HBv4_27.out bw
            have HBv5_28 : Hid ((w28).heap[qv5]? = some (.cells #[.string op, .slice oN5 n1 pN5, .slice oV5 n2 pV5, .int .i64 st, .slice oF5 k pF5, .string d, .int .i64 t] 31)) := blk_below HBv5_27.out bw
            have HBv6_28 : Hid ((w28).heap[qv6]? = some (.cells #[.int .i64 rs, .slice oR6 np pR6, .string rb] 29)) := blk_below HBv6_27.out bw
            have HOR12_28 : Hid ((w28).ownsRow w.heap.size 74 2 (.slice oR12 np pR12) np (flatF P)) := owns_wide ownR12 hb27.size
            have LOR12 : Hid (∀ g, (Value.ownBlock (.slice oR12 np pR12)) = some g → (w27).heap.size ≤ g) := fun g hg => owns_ge ownR12 hg
            have HIR12 : Hid (∀ g, (Value.ownBlock (.slice oR12 np pR12)) = some g → g < (w28).heap.size) := fun g hg => owns_lt ownR12 hg
            clear ownR12
            clear hb27 HOR3_27 HOQ4_27 HON5_27 HOV5_27 HOF5_27 HOR6_27 HOQ7_27 HON8_27 HOV8_27 HOF8_27 HOQ10_27 HON11_27 HOV11_27 HOF11_27 HBv1_27 HBv2_27 HBv3_27 HBv4_27 HBv5_27 HBv6_27
            have HX_28 : Hid (Below w23.heap.size w23 w28) := HX_27.out.trans (bw.mono HX_27.out.size)
            have HPA_28 : Hid (w28.heap[pa]? = some (.cells #[.int .i64 0, .slice none 0 0, .string ⟨#[]⟩] 29)) := blk_below HPA_27.out bw
            have HRXR12_28 : Hid ((w28).ownsRow w23.heap.size 74 2 (.slice oR12 np pR12) np (flatF P)) := owns_lift HOR12_28.out (fun g hg => Nat.le_trans HX_27.out.size (LOR12.out g hg))
            refine hK.out _ _ (HSS.out _ HX_28.out) (fun _ => ?_)
            clear hK K bw HX_27
            refine wpAnyH_ready (rs := [7]) (by kernel_rfl) (by simp) ?_
            refine AllReadyH.cons rfl (fun K hK => ?_) AllReadyH.nil
            have ce0 : w28.cell? ⟨pa, 0, none⟩ = some (.int .i64 0) := (cell_of HPA_28.out 0).trans rfl
            have fe0 : w28.frozen? ⟨pa, 0, none⟩ = false := frozen_of HPA_28.out 0
            have ce1 : w28.cell? ⟨pa, 1, none⟩ = some (.slice none 0 0) := (cell_of HPA_28.out 1).trans rfl
            have fe1 : w28.frozen? ⟨pa, 1, none⟩ = false := frozen_of HPA_28.out 1
            have ce2 : w28.cell? ⟨pa, 2, none⟩ = some (.string ⟨#[]⟩) := (cell_of HPA_28.out 2).trans rfl
            have fe2 : w28.frozen? ⟨pa, 2, none⟩ = false := frozen_of HPA_28.out 2
            obtain ⟨w29, hY⟩ : ∃ Y, Y = (((w28.setCell ⟨pa, 0, none⟩ (.int .i64 rs)).setCell ⟨pa, 1, none⟩ (.slice oR12 np pR12)).setCell ⟨pa, 2, none⟩ (.string rb)) := ⟨_, rfl⟩
            have HY : Hid ((((w28.setCell ⟨pa, 0, none⟩ (.int .i64 rs)).setCell ⟨pa, 1, none⟩ (.slice oR12 np pR12)).setCell ⟨pa, 2, none⟩ (.string rb)) = w29) := hY.symm
            have HX_29 : Hid (Below w23.heap.size w23 w29) := by show Below _ _ _; rw [hY]; exact (((HX_28.out.setCell (p := ⟨pa, 0, none⟩) HGA.out _).setCell (p := ⟨pa, 1, none⟩) HGA.out _).setCell (p := ⟨pa, 2, none⟩) HGA.out _)
            have HPA_29 : Hid (w29.heap[pa]? = some (.cells #[.int .i64 rs, .slice oR12 np pR12, .string rb] 29)) := by show _ = _; rw [hY]; have h := (heap_set _ pa 2 _ _ _ (.string rb) (heap_set _ pa 1 _ _ _ (.slice oR12 np pR12) (heap_set _ pa 0 _ _ _ (.int .i64 rs) HPA_28.out))); simpa using h
            have HRXR12_29 : Hid ((w29).ownsRow w23.heap.size 74 2 (.slice oR12 np pR12) np (flatF P)) := by show World.ownsRow _ _ _ _ _ _ _; rw [hY]; exact owns_same HRXR12_28.out (fun g hg => by have hne := own_ne HRXR12_28.out HPA_28.out (by decide) g hg; rw [heap_setCell_other _ _ g _ hne, heap_setCell_other _ _ g _ hne, heap_setCell_other _ _ g _ hne])
            clear hY hb28 HOR3_28 HOQ4_28 HON5_28 HOV5_28 HOF5_28 HOR6_28 HOQ7_28 HON8_28 HOV8_28 HOF8_28 HOQ10_28 HON11_28 HOV11_28 HOF11_28 HOR12_28 HBv1_28 HBv2_28 HBv3_28 HBv4_28 HBv5_28 HBv6_28
            go_simp
            rw [HY.out]
            refine hK.out _ _ (HSS.out _ HX_29.out) (fun _ => ?_)
            clear hK K HY ce0 fe0 ce1 fe1 ce2 fe2
            refine wpAnyH_done (by kernel_rfl) ?_ _
            go_wp2_with fail
            go_meet
            exact ⟨pa, oR12, pR12, rfl, ⟨HX_29.out, HPA_29.out, HGA.out, HRXR12_29.out⟩⟩
        · go_simp
          have HXA : Hid (Below w23.heap.size w23 (w24.alloc (.cells #[.int .i64 0, .slice none 0 0, .string ⟨#[]⟩] 29))) := HX_24.out.alloc HX_24.out.size _
          refine hK.out _ _ (HSS.out _ HXA.out) (fun _ => ?_)
          clear hK K HXA
          obtain ⟨pa, ho⟩ : ∃ o, o = w24.heap.size := ⟨_, rfl⟩
          obtain ⟨w25, hXj⟩ : ∃ X, X = w24.alloc (.cells #[.int .i64 0, .slice none 0 0, .string ⟨#[]⟩] 29) := ⟨_, rfl⟩
          rw [← ho, ← hXj]
          have HGA : Hid (w23.heap.size ≤ pa) := by show _ ≤ _; rw [ho]; exact HX_24.out.size
          have bw : Below w24.heap.size w24 w25 := by rw [hXj]; exact (Below.refl _ _).alloc (Nat.le_refl _) _
          have hb25 : Below w.heap.size w (w25) := hb24.trans (bw.mono hb24.size)
          have HM25 : Hid ((w24).heap.size ≤ (w25).heap.size) := bw.size
          have HOR3_25 : Hid ((w25).ownsRow w.heap.size 74 2 (.slice oR3 np pR3) np (flatF P)) := owns_below HOR3_24.out bw (fun g hg => owns_lt HOR3_24.out hg)
          have HOQ4_25 : Hid ((w25).ownsRow w.heap.size 74 2 (.slice oQ4 n pQ4) n (flatF (mkG 1 fs n))) := owns_below HOQ4_24.out bw (fun g hg => owns_lt HOQ4_24.out hg)
          have HON5_25 : Hid ((w25).ownsRow w.heap.size 9 1 (.slice oN5 n1 pN5) n1 ((mkT (1 + 2 * n) xs n1).map Value.string)) := owns_below HON5_24.out bw (fun g hg => owns_lt HON5_24.out hg)
          have HOV5_25 : Hid ((w25).ownsRow w.heap.size 9 1 (.slice oV5 n2 pV5) n2 ((mkT (1 + 2 * n + n1) ys n2).map Value.string)) := owns_below HOV5_24.out bw (fun g hg => owns_lt HOV5_24.out hg)
          have HOF5_25 : Hid ((w25).ownsRow w.heap.size 74 2 (.slice oF5 k pF5) k (flatF (mkG (1 + 2 * n + n1 + n2) gs k))) := owns_below HOF5_24.out bw (fun g hg => owns_lt HOF5_24.out hg)
          have HOR6_25 : Hid ((w25).ownsRow w.heap.size 74 2 (.slice oR6 np pR6) np (flatF (mkG 1 P np))) := owns_below HOR6_24.out bw (fun g hg => owns_lt HOR6_24.out hg)
          have HOQ7_25 : Hid ((w25).ownsRow w.heap.size 74 2 (.slice oQ7 n pQ7) n (flatF fs)) := owns_below HOQ7_24.out bw (fun g hg => owns_lt HOQ7_24.out hg)
          have HON8_25 : Hid ((w25).ownsRow w.heap.size 9 1 (.slice oN8 n1 pN8) n1 (xs.map Value.string)) := owns_below HON8_24.out bw (fun g hg => owns_lt HON8_24.out hg)
          have HOV8_25 : Hid ((w25).ownsRow w.heap.size 9 1 (.slice oV8 n2 pV8) n2 (ys.map Value.string)) := owns_below HOV8_24.out bw (fun g hg => owns_lt HOV8_24.out hg)
          have HOF8_25 : Hid ((w25).ownsRow w.heap.size 74 2 (.slice oF8 k pF8) k (flatF gs)) := owns_below HOF8_24.out bw (fun g hg => owns_lt HOF8_24.out hg)
          have HBv1_25 : Hid ((w25).heap[qv1]? = some (.cells #[.int .i64 m, .string p, .slice a n cap, .string b] 50)) := blk_below HBv1_24.out bw
          have HBv2_25 : Hid ((w25).heap[qv2]? = some (.cells #[.string op, .slice a1 n1 c1, .slice a2 n2 c2, .int .i64 st, .slice a3 k c3, .string d, .int .i64 t] 54)) := blk_below HBv2_24.out bw
          have HBv3_25 : Hid ((w25).heap[qv3]? = some (.cells #[.int .i64 rs, .slice oR3 np pR3, .string rb] 29)) := blk_below HBv3_24.out bw
          have HBv4_25 : Hid ((w25).heap[qv4]? = some (.cells #[.int .i64 m, .string p, .slice oQ4 n pQ4, .string b] 26)) := blk_below HBv4_24.out bw
          have HBv5_25 : Hid ((w25).heap[qv5]? = some (.cells #[.string op, .slice oN5 n1 pN5, .slice oV5 n2 pV5, .int .i64 st, .slice oF5 k pF5, .string d, .int .i64 t] 31)) := blk_below HBv5_24.out bw
          have HBv6_25 : Hid ((w25).heap[qv6]? = some (.cells #[.int .i64 rs, .slice oR6 np pR6, .string rb] 29)) := blk_below HBv6_24.out bw
          have HX_25 : Hid (Below w23.heap.size w23 w25) := HX_24.out.trans (bw.mono HX_24.out.size)
          have HPA_25 : Hid (w25.heap[pa]? = some (.cells #[.int .i64 0, .slice none 0 0, .string ⟨#[]⟩] 29)) := by show _ = _; rw [hXj, ho]; exact heap_alloc_new _ _
          clear hb24 HOR3_24 HOQ4_24 HON5_24 HOV5_24 HOF5_24 HOR6_24 HOQ7_24 HON8_24 HOV8_24 HOF8_24 HBv1_24 HBv2_24 HBv3_24 HBv4_24 HBv5_24 HBv6_24 bw ho hXj HX_24
          refine wpAnyH_ready (rs := [1]) (by kernel_rfl) (by simp) ?_
          refine AllReadyH.cons rfl (fun K hK => ?_) AllReadyH.nil
          go_simp
          refine (toReq_any m p a n cap b fs w.heap.size _ (HA1.out _ hb25) hb25.size hm1).mono ?_
          rintro e w26 ⟨vv, rfl, ownQ10, bw⟩
          obtain ⟨oQ10, pQ10, rfl⟩ := slice_of_owns ownQ10
          have hb26 : Below w.heap.size w (w26) := hb25.trans (bw.mono hb25.size)
          have HM26 : Hid ((w25).heap.size ≤ (w26).heap.size) := bw.size
          have HOR3_26 : Hid ((w26).ownsRow w.heap.size 74 2 (.slice oR3 np pR3) np (flatF P)) := owns_below HOR3_25.out bw (fun g hg => owns_lt HOR3_25.out hg)
          have HOQ4_26 : Hid ((w26).ownsRow w.heap.size 74 2 (.slice oQ4 n pQ4) n (flatF (mkG 1 fs n))) := owns_below HOQ4_25.out bw (fun g hg => owns_lt HOQ4_25.out hg)
          have HON5_26 : Hid ((w26).ownsRow w.heap.size 9 1 (.slice oN5 n1 pN5) n1 ((mkT (1 + 2 * n) xs n1).map Value.string)) := owns_below HON5_25.out bw (fun g hg => owns_lt HON5_25.out hg)
          have HOV5_26 : Hid ((w26).ownsRow w.heap.size 9 1 (.slice oV5 n2 pV5) n2 ((mkT (1 + 2 * n + n1) ys n2).map Value.string)) := owns_below HOV5_25.out bw (fun g hg => owns_lt HOV5_25.out hg)
          have HOF5_26 : Hid ((w26).ownsRow w.heap.size 74 2 (.slice oF5 k pF5) k (flatF (mkG (1 + 2 * n + n1 + n2) gs k))) := owns_below HOF5_25.out bw (fun g hg => owns_lt HOF5_25.out hg)
          have HOR6_26 : Hid ((w26).ownsRow w.heap.size 74 2 (.slice oR6 np pR6) np (flatF (mkG 1 P np))) := owns_below HOR6_25.out bw (fun g hg => owns_lt HOR6_25.out hg)
          have HOQ7_26 : Hid ((w26).ownsRow w.heap.size 74 2 (.slice oQ7 n pQ7) n (flatF fs)) := owns_below HOQ7_25.out bw (fun g hg => owns_lt HOQ7_25.out hg)
          have HON8_26 : Hid ((w26).ownsRow w.heap.size 9 1 (.slice oN8 n1 pN8) n1 (xs.map Value.string)) := owns_below HON8_25.out bw (fun g hg => owns_lt HON8_25.out hg)
          have HOV8_26 : Hid ((w26).ownsRow w.heap.size 9 1 (.slice oV8 n2 pV8) n2 (ys.map Value.string)) := owns_below HOV8_25.out bw (fun g hg => owns_lt HOV8_25.out hg)
          have HOF8_26 : Hid ((w26).ownsRow w.heap.size 74 2 (.slice oF8 k pF8) k (flatF gs)) := owns_below HOF8_25.out bw (fun g hg => owns_lt HOF8_25.out hg)
          have HBv1_26 : Hid ((w26).heap[qv1]? = some (.cells #[.int .i64 m, .string p, .slice a n cap, .string b] 50)) := blk_below HBv1_25.out bw
          have HBv2_26 : Hid ((w26).heap[qv2]? = some (.cells #[.string op, .slice a1 n1 c1, .slice a2 n2 c2, .int .i64 st, .slice a3 k c3, .string d, .int .i64 t] 54)) := blk_below HBv2_25.out bw
          have HBv3_26 : Hid ((w26).heap[qv3]? = some (.cells #[.int .i64 rs, .slice oR3 np pR3, .string rb] 29)) := blk_below HBv3_25.out bw
          have HBv4_26 : Hid ((w26).heap[qv4]? = some (.cells #[.int .i64 m, .string p, .slice oQ4 n pQ4, .string b] 26)) := blk_below HBv4_25.out bw
          have HBv5_26 : Hid ((w26).heap[qv5]? = some (.cells #[.string op, .slice oN5 n1 pN5, .slice oV5 n2 pV5, .int .i64 st, .slice oF5 k pF5, .string d, .int .i64 t] 31)) := blk_below HBv5_25.out bw
          have HBv6_26 : Hid ((w26).heap[qv6]? = some (.cells #[.int .i64 rs, .slice oR6 np pR6, .string rb] 29)) := blk_below HBv6_25.out bw
          have HOQ10_26 : Hid ((w26).ownsRow w.heap.size 74 2 (.slice oQ10 n pQ10) n (flatF fs)) := owns_wide ownQ10 hb25.size
          have LOQ10 : Hid (∀ g, (Value.ownBlock (.slice oQ10 n pQ10)) = some g → (w25).heap.size ≤ g) := fun g hg => owns_ge ownQ10 hg
          have HIQ10 : Hid (∀ g, (Value.ownBlock (.slice oQ10 n pQ10)) = some g → g < (w26).heap.size) := fun g hg => owns_lt ownQ10 hg
          clear ownQ10
          clear hb25 HOR3_25 HOQ4_25 HON5_25 HOV5_25 HOF5_25 HOR6_25 HOQ7_25 HON8_25 HOV8_25 HOF8_25 HBv1_25 HBv2_25 HBv3_25 HBv4_25 HBv5_25 HBv6_25
          have HX_26 : Hid (Below w23.heap.size w23 w26) := HX_25.out.trans (bw.mono HX_25.out.size)
          have HPA_26 : Hid (w26.heap[pa]? = some (.cells #[.int .i64 0, .slice none 0 0, .string ⟨#[]⟩] 29)) := blk_below HPA_25.out bw
          refine hK.out _ _ (HSS.out _ HX_26.out) (fun _ => ?_)
          clear hK K bw HX_25
          refine wpAnyH_ready (rs := [3]) (by kernel_rfl) (by simp) ?_
          refine AllReadyH.cons rfl (fun K hK => ?_) AllReadyH.nil
          go_simp
          refine (toObj_any op a1 n1 c1 xs a2 n2 c2 ys st a3 k c3 gs d t w.heap.size _ (HX1.out _ hb26) (HX2.out _ hb26) (HX3.out _ hb26) hb26.size hm3 hm4 hm5).mono ?_
          rintro e w27 ⟨vv1, vv2, vv3, rfl, ⟨ownN11, ownV11, ownF11, ne11⟩, bw⟩
          obtain ⟨oN11, pN11, rfl⟩ := slice_of_owns ownN11
          obtain ⟨oV11, pV11, rfl⟩ := slice_of_owns ownV11
          obtain ⟨oF11, pF11, rfl⟩ := slice_of_owns ownF11
          have AP11 : Hid (∀ j, (Value.slice oN11 n1 pN11).ownBlock = some j → (Value.slice oV11 n2 pV11).ownBlock ≠ some j) := ne11
          clear ne11
          have hb27 : Below w.heap.size w (w27) := hb26.trans (bw.mono hb26.size)
          have HM27 : Hid ((w26).heap.size ≤ (w27).heap.size) := bw.size
          have HOR3_27 : Hid ((w27).ownsRow w.heap.size 74 2 (.slice oR3 np pR3) np (flatF P)) := owns_below HOR3_26.out bw (fun g hg => owns_lt HOR3_26.out hg)
          have HOQ4_27 : Hid ((w27).ownsRow w.heap.size 74 2 (.slice oQ4 n pQ4) n (flatF (mkG 1 fs n))) := owns_below HOQ4_26.out bw (fun g hg => owns_lt HOQ4_26.out hg)
          have HON5_27 : Hid ((w27).ownsRow w.heap.size 9 1 (.slice oN5 n1 pN5) n1 ((mkT (1 + 2 * n) xs n1).map Value.string)) := owns_below HON5_26.out bw (fun g hg => owns_lt HON5_26.out hg)
          have HOV5_27 : Hid ((w27).ownsRow w.heap.size 9 1 (.slice oV5 n2 pV5) n2 ((mkT (1 + 2 * n + n1) ys n2).map Value.string)) := owns_below HOV5_26.out bw (fun g hg => owns_lt HOV5_26.out hg)
          have HOF5_27 : Hid ((w27).ownsRow w.heap.size 74 2 (.slice oF5 k pF5) k (flatF (mkG (1 + 2 * n + n1 + n2) gs k))) := owns_below HOF5_26.out bw (fun g hg => owns_lt HOF5_26.out hg)
          have HOR6_27 : Hid ((w27).ownsRow w.heap.size 74 2 (.slice oR6 np pR6) np (flatF (mkG 1 P np))) := owns_below HOR6_26.out bw (fun g hg => owns_lt HOR6_26.out hg)
          have HOQ7_27 : Hid ((w27).ownsRow w.heap.size 74 2 (.slice oQ7 n pQ7) n (flatF fs)) := owns_below HOQ7_26.out bw (fun g hg => owns_lt HOQ7_26.out hg)
          have HON8_27 : Hid ((w27).ownsRow w.heap.size 9 1 (.slice oN8 n1 pN8) n1 (xs.map Value.string)) := owns_below HON8_26.out bw (fun g hg => owns_lt HON8_26.out hg)
          have HOV8_27 : Hid ((w27).ownsRow w.heap.size 9 1 (.slice oV8 n2 pV8) n2 (ys.map Value.string)) := owns_below HOV8_26.out bw (fun g hg => owns_lt HOV8_26.out hg)
          have HOF8_27 : Hid ((w27).ownsRow w.heap.size 74 2 (.slice oF8 k pF8) k (flatF gs)) := owns_below HOF8_26.out bw (fun g hg => owns_lt HOF8_26.out hg)
          have HOQ10_27 : Hid ((w27).ownsRow w.heap.size 74 2 (.slice oQ10 n pQ10) n (flatF fs)) := owns_below HOQ10_26.out bw (fun g hg => owns_lt HOQ10_26.out hg)
          have HBv1_27 : Hid ((w27).heap[qv1]? = some (.cells #[.int .i64 m, .string p, .slice a n cap, .string b] 50)) := blk_below HBv1_26.out bw
          have HBv2_27 : Hid ((w27).heap[qv2]? = some (.cells #[.string op, .slice a1 n1 c1, .slice a2 n2 c2, .int .i64 st, .slice a3 k c3, .string d, .int .i64 t] 54)) := blk_below HBv2_26.out bw
          have HBv3_27 : Hid ((w27).heap[qv3]? = some (.cells #[.int .i64 rs, .slice oR3 np pR3, .string rb] 29)) := blk_below HBv3_26.out bw
          have HBv4_27 : Hid ((w27).heap[qv4]? = some (.cells #[.int .i64 m, .string p, .slice oQ4 n pQ4, .string b] 26)) := blk_below HBv4_26.out bw
          have HBv5_27 : Hid ((w27).heap[qv5]? = some (.cells #[.string op, .slice oN5 n1 pN5, .slice oV5 n2 pV5, .int .i64 st, .slice oF5 k pF5, .string d, .int .i64 t] 31)) := blk_below HBv5_26.out bw
          have HBv6_27 : Hid ((w27).heap[qv6]? = some (.cells #[.int .i64 rs, .slice oR6 np pR6, .string rb] 29)) := blk_below HBv6_26.out bw
          have HON11_27 : Hid ((w27).ownsRow w.heap.size 9 1 (.slice oN11 n1 pN11) n1 (xs.map Value.string)) := owns_wide ownN11 hb26.size
          have LON11 : Hid (∀ g, (Value.ownBlock (.slice oN11 n1 pN11)) = some g → (w26).heap.size ≤ g) := fun g hg => owns_ge ownN11 hg
          have HIN11 : Hid (∀ g, (Value.ownBlock (.slice oN11 n1 pN11)) = some g → g < (w27).heap.size) := fun g hg => owns_lt ownN11 hg
          clear ownN11
          have HOV11_27 : Hid ((w27).ownsRow w.heap.size 9 1 (.slice oV11 n2 pV11) n2 (ys.map Value.string)) := owns_wide ownV11 hb26.size
          have LOV11 : Hid (∀ g, (Value.ownBlock (.slice oV11 n2 pV11)) = some g → (w26).heap.size ≤ g) := fun g hg => owns_ge ownV11 hg
          have HIV11 : Hid (∀ g, (Value.ownBlock (.slice oV11 n2 pV11)) = some g → g < (w27).heap.size) := fun g hg => owns_lt ownV11 hg
          clear ownV11
          have HOF11_27 : Hid ((w27).ownsRow w.heap.size 74 2 (.slice oF11 k pF11) k (flatF gs)) := owns_wide ownF11 hb26.size
          have LOF11 : Hid (∀ g, (Value.ownBlock (.slice oF11 k pF11)) = some g → (w26).heap.size ≤ g) := fun g hg => owns_ge ownF11 hg
          have HIF11 : Hid (∀ g, (Value.ownBlock (.slice oF11 k pF11)) = some g → g < (w27).heap.size) := fun g hg => owns_lt ownF11 hg
          clear ownF11
          clear hb26 HOR3_26 HOQ4_26 HON5_26 HOV5_26 HOF5_26 HOR6_26 HOQ7_26 HON8_26 HOV8_26 HOF8_26 HOQ10_26 HBv1_26 HBv2_26 HBv3_26 HBv4_26 HBv5_26 HBv6_26
          have HX_27 : Hid (Below w23.heap.size w23 w27) := HX_26.out.trans (bw.mono HX_26.out.size)
          have HPA_27 : Hid (w27.heap[pa]? = some (.cells #[.int .i64 0, .slice none 0 0, .string ⟨#[]⟩] 29)) := blk_below HPA_26.out bw
          refine hK.out _ _ (HSS.out _ HX_27.out) (fun _ => ?_)
          clear hK K bw HX_26
          refine wpAnyH_ready (rs := [5]) (by kernel_rfl) (by simp) ?_
          refine AllReadyH.cons rfl (fun K hK => ?_) AllReadyH.nil
          go_simp
          refine (HIM.out _ hb27 _ _ _ _ _ _ _ _ _ HOQ10_27.out HOF11_27.out).mono ?_
          rintro e w28 ⟨vv, rfl, ownR12, bw⟩
          obtain ⟨oR12, pR12, rfl⟩ := slice_of_owns ownR12
          have hb28 : Below w.heap.size w (w28) := hb27.trans (bw.mono hb27.size)
          have HM28 : Hid ((w27).heap.size ≤ (w28).heap.size) := bw.size
          have HOR3_28 : Hid ((w28).ownsRow w.heap.size 74 2 (.slice oR3 np pR3) np (flatF P)) := owns_below HOR3_27.out bw (fun g hg => owns_lt HOR3_27.out hg)
          have HOQ4_28 : Hid ((w28).ownsRow w.heap.size 74 2 (.slice oQ4 n pQ4) n (flatF (mkG 1 fs n))) := owns_below HOQ4_27.out bw (fun g hg => owns_lt HOQ4_27.out hg)
          have HON5_28 : Hid ((w28).ownsRow w.heap.size 9 1 (.slice oN5 n1 pN5) n1 ((mkT (1 + 2 * n) xs n1).map Value.string)) := owns_below HON5_27.out bw (fun g hg => owns_lt HON5_27.out hg)
          have HOV5_28 : Hid ((w28).ownsRow w.heap.size 9 1 (.slice oV5 n2 pV5) n2 ((mkT (1 + 2 * n + n1) ys n2).map Value.string)) := owns_below HOV5_27.out bw (fun g hg => owns_lt HOV5_27.out hg)
          have HOF5_28 : Hid ((w28).ownsRow w.heap.size 74 2 (.slice oF5 k pF5) k (flatF (mkG (1 + 2 * n + n1 + n2) gs k))) := owns_below HOF5_27.out bw (fun g hg => owns_lt HOF5_27.out hg)
          have HOR6_28 : Hid ((w28).ownsRow w.heap.size 74 2 (.slice oR6 np pR6) np (flatF (mkG 1 P np))) := owns_below HOR6_27.out bw (fun g hg => owns_lt HOR6_27.out hg)
          have HOQ7_28 : Hid ((w28).ownsRow w.heap.size 74 2 (.slice oQ7 n pQ7) n (flatF fs)) := owns_below HOQ7_27.out bw (fun g hg => owns_lt HOQ7_27.out hg)
          have HON8_28 : Hid ((w28).ownsRow w.heap.size 9 1 (.slice oN8 n1 pN8) n1 (xs.map Value.string)) := owns_below HON8_27.out bw (fun g hg => owns_lt HON8_27.out hg)
          have HOV8_28 : Hid ((w28).ownsRow w.heap.size 9 1 (.slice oV8 n2 pV8) n2 (ys.map Value.string)) := owns_below HOV8_27.out bw (fun g hg => owns_lt HOV8_27.out hg)
          have HOF8_28 : Hid ((w28).ownsRow w.heap.size 74 2 (.slice oF8 k pF8) k (flatF gs)) := owns_below HOF8_27.out bw (fun g hg => owns_lt HOF8_27.out hg)
          have HOQ10_28 : Hid ((w28).ownsRow w.heap.size 74 2 (.slice oQ10 n pQ10) n (flatF fs)) := owns_below HOQ10_27.out bw (fun g hg => owns_lt HOQ10_27.out hg)
          have HON11_28 : Hid ((w28).ownsRow w.heap.size 9 1 (.slice oN11 n1 pN11) n1 (xs.map Value.string)) := owns_below HON11_27.out bw (fun g hg => owns_lt HON11_27.out hg)
          have HOV11_28 : Hid ((w28).ownsRow w.heap.size 9 1 (.slice oV11 n2 pV11) n2 (ys.map Value.string)) := owns_below HOV11_27.out bw (fun g hg => owns_lt HOV11_27.out hg)
          have HOF11_28 : Hid ((w28).ownsRow w.heap.size 74 2 (.slice oF11 k pF11) k (flatF gs)) := owns_below HOF11_27.out bw (fun g hg => owns_lt HOF11_27.out hg)
          have HBv1_28 : Hid ((w28).heap[qv1]? = some (.cells #[.int .i64 m, .string p, .slice a n cap, .string b] 50)) := blk_below HBv1_27.out bw
          have HBv2_28 : Hid ((w28).heap[qv2]? = some (.cells #[.string op, .slice a1 n1 c1, .slice a2 n2 c2, .int .i64 st, .slice a3 k c3, .string d, .int .i64 t] 54)) := blk_below HBv2_27.out bw
          have HBv3_28 : Hid ((w28).heap[qv3]? = some (.cells #[.int .i64 rs, .slice oR3 np pR3, .string rb] 29)) := blk_below HBv3_27.out bw
          have HBv4_28 : Hid ((w28).heap[qv4]? = some (.cells #[.int .i64 m, .string p, .slice oQ4 n pQ4, .string b] 26)) := blk_below HBv4_27.out bw
          have HBv5_28 : Hid ((w28).heap[qv5]? = some (.cells #[.string op, .slice oN5 n1 pN5, .slice oV5 n2 pV5, .int .i64 st, .slice oF5 k pF5, .string d, .int .i64 t] 31)) := blk_below HBv5_27.out bw
          have HBv6_28 : Hid ((w28).heap[qv6]? = some (.cells #[.int .i64 rs, .slice oR6 np pR6, .string rb] 29)) := blk_below HBv6_27.out bw
          have HOR12_28 : Hid ((w28).ownsRow w.heap.size 74 2 (.slice oR12 np pR12) np (flatF P)) := owns_wide ownR12 hb27.size
          have LOR12 : Hid (∀ g, (Value.ownBlock (.slice oR12 np pR12)) = some g → (w27).heap.size ≤ g) := fun g hg => owns_ge ownR12 hg
          have HIR12 : Hid (∀ g, (Value.ownBlock (.slice oR12 np pR12)) = some g → g < (w28).heap.size) := fun g hg => owns_lt ownR12 hg
          clear ownR12
          clear hb27 HOR3_27 HOQ4_27 HON5_27 HOV5_27 HOF5_27 HOR6_27 HOQ7_27 HON8_27 HOV8_27 HOF8_27 HOQ10_27 HON11_27 HOV11_27 HOF11_27 HBv1_27 HBv2_27 HBv3_27 HBv4_27 HBv5_27 HBv6_27
          have HX_28 : Hid (Below w23.heap.size w23 w28) := HX_27.out.trans (bw.mono HX_27.out.size)
          have HPA_28 : Hid (w28.heap[pa]? = some (.cells #[.int .i64 0, .slice none 0 0, .string ⟨#[]⟩] 29)) := blk_below HPA_27.out bw
          have HRXR12_28 : Hid ((w28).ownsRow w23.heap.size 74 2 (.slice oR12 np pR12) np (flatF P)) := owns_lift HOR12_28.out (fun g hg => Nat.le_trans HX_27.out.size (LOR12.out g hg))
          refine hK.out _ _ (HSS.out _ HX_28.out) (fun _ => ?_)
          clear hK K bw HX_27
          refine wpAnyH_ready (rs := [7]) (by kernel_rfl) (by simp) ?_
          refine AllReadyH.cons rfl (fun K hK => ?_) AllReadyH.nil
          have ce0 : w28.cell? ⟨pa, 0, none⟩ = some (.int .i64 0) := (cell_of HPA_28.out 0).trans rfl
          have fe0 : w28.frozen? ⟨pa, 0, none⟩ = false := frozen_of HPA_28.out 0
          have ce1 : w28.cell? ⟨pa, 1, none⟩ = some (.slice none 0 0) := (cell_of HPA_28.out 1).trans rfl
          have fe1 : w28.frozen? ⟨pa, 1, none⟩ = false := frozen_of HPA_28.out 1
          have ce2 : w28.cell? ⟨pa, 2, none⟩ = some (.string ⟨#[]⟩) := (cell_of HPA_28.out 2).trans rfl
          have fe2 : w28.frozen? ⟨pa, 2, none⟩ = false := frozen_of HPA_28.out 2
          obtain ⟨w29, hY⟩ : ∃ Y, Y = (((w28.setCell ⟨pa, 0, none⟩ (.int .i64 rs)).setCell ⟨pa, 1, none⟩ (.slice oR12 np pR12)).setCell ⟨pa, 2, none⟩ (.string rb)) := ⟨_, rfl⟩
          have HY : Hid ((((w28.setCell ⟨pa, 0, none⟩ (.int .i64 rs)).setCell ⟨pa, 1, none⟩ (.slice oR12 np pR12)).setCell ⟨pa, 2, none⟩ (.string rb)) = w29) := hY.symm
          have HX_29 : Hid (Below w23.heap.size w23 w29) := by show Below _ _ _; rw [hY]; exact (((HX_28.out.setCell (p := ⟨pa, 0, none⟩) HGA.out _).setCell (p := ⟨pa, 1, none⟩) HGA.out _).setCell (p := ⟨pa, 2, none⟩) HGA.out _)
          have HPA_29 : Hid (w29.heap[pa]? = some (.cells #[.int .i64 rs, .slice oR12 np pR12, .string rb] 29)) := by show _ = _; rw [hY]; have h := (heap_set _ pa 2 _ _ _ (.string rb) (heap_set _ pa 1 _ _ _ (.slice oR12 np pR12) (heap_set _ pa 0 _ _ _ (.int .i64 rs) HPA_28.out))); simpa using h
          have HRXR12_29 : Hid ((w29).ownsRow w23.heap.size 74 2 (.slice oR12 np pR12) np (flatF P)) := by show World.ownsRow _ _ _ _ _ _ _; rw [hY]; exact owns_same HRXR12_28.out (fun g hg => by have hne := own_ne HRXR12_28.out HPA_28.out (by decide) g hg; rw [heap_setCell_other _ _ g _ hne, heap_setCell_other _ _ g _ hne, heap_setCell_other _ _ g _ hne])
          clear hY hb28 HOR3_28 HOQ4_28 HON5_28 HOV5_28 HOF5_28 HOR6_28 HOQ7_28 HON8_28 HOV8_28 HOF8_28 HOQ10_28 HON11_28 HOV11_28 HOF11_28 HOR12_28 HBv1_28 HBv2_28 HBv3_28 HBv4_28 HBv5_28 HBv6_28
          go_simp
          rw [HY.out]
          refine hK.out _ _ (HSS.out _ HX_29.out) (fun _ => ?_)
          clear hK K HY ce0 fe0 ce1 fe1 ce2 fe2
          refine wpAnyH_done (by kernel_rfl) ?_ _
          go_wp2_with fail
          go_meet
          exact ⟨pa, oR12, pR12, rfl, ⟨HX_29.out, HPA_29.out, HGA.out, HRXR12_29.out⟩⟩
      case rest =>
      obtain ⟨qv7, oR12, pR12, hsx, HF⟩ := hcut
      rw [hsx]
      obtain ⟨w24, hwj⟩ : ∃ W, W = wc := ⟨_, rfl⟩
      rw [← hwj] at HF ⊢
      clear hsx hwj HSS
      obtain ⟨bw, hcell, hga, ownR12⟩ := HF.out
      have hb24 : Below w.heap.size w (w24) := hb23.trans (bw.mono hb23.size)
      have HM24 : Hid ((w23).heap.size ≤ (w24).heap.size) := bw.size
      have HOR3_24 : Hid ((w24).ownsRow w.heap.size 74 2 (.slice oR3 np pR3) np (flatF P)) := owns_below HOR3_23.out bw (fun g hg => owns_lt HOR3_23.out hg)
      have HOQ4_24 : Hid ((w24).ownsRow w.heap.size 74 2 (.slice oQ4 n pQ4) n (flatF (mkG 1 fs n))) := owns_below HOQ4_23.out bw (fun g hg => owns_lt HOQ4_23.out hg)
      have HON5_24 : Hid ((w24).ownsRow w.heap.size 9 1 (.slice oN5 n1 pN5) n1 ((mkT (1 + 2 * n) xs n1).map Value.string)) := owns_below HON5_23.out bw (fun g hg => owns_lt HON5_23.out hg)
      have HOV5_24 : Hid ((w24).ownsRow w.heap.size 9 1 (.slice oV5 n2 pV5) n2 ((mkT (1 + 2 * n + n1) ys n2).map Value.string)) := owns_below HOV5_23.out bw (fun g hg => owns_lt HOV5_23.out hg)
      have HOF5_24 : Hid ((w24).ownsRow w.heap.size 74 2 (.slice oF5 k pF5) k (flatF (mkG (1 + 2 * n + n1 + n2) gs k))) := owns_below HOF5_23.out bw (fun g hg => owns_lt HOF5_23.out hg)
      have HOR6_24 : Hid ((w24).ownsRow w.heap.size 74 2 (.slice oR6 np pR6) np (flatF (mkG 1 P np))) := owns_below HOR6_23.out bw (fun g hg => owns_lt HOR6_23.out hg)
      have HOQ7_24 : Hid ((w24).ownsRow w.heap.size 74 2 (.slice oQ7 n pQ7) n (flatF fs)) := owns_below HOQ7_23.out bw (fun g hg => owns_lt HOQ7_23.out hg)
      have HON8_24 : Hid ((w24).ownsRow w.heap.size 9 1 (.slice oN8 n1 pN8) n1 (xs.map Value.string)) := owns_below HON8_23.out bw (fun g hg => owns_lt HON8_23.out hg)
      have HOV8_24 : Hid ((w24).ownsRow w.heap.size 9 1 (.slice oV8 n2 pV8) n2 (ys.map Value.string)) := owns_below HOV8_23.out bw (fun g hg => owns_lt HOV8_23.out hg)
      have HOF8_24 : Hid ((w24).ownsRow w.heap.size 74 2 (.slice oF8 k pF8) k (flatF gs)) := owns_below HOF8_23.out bw (fun g hg => owns_lt HOF8_23.out hg)
      have HBv1_24 : Hid ((w24).heap[qv1]? = some (.cells #[.int .i64 m, .string p, .slice a n cap, .string b] 50)) := blk_below HBv1_23.out bw
      have HBv2_24 : Hid ((w24).heap[qv2]? = some (.cells #[.string op, .slice a1 n1 c1, .slice a2 n2 c2, .int .i64 st, .slice a3 k c3, .string d, .int .i64 t] 54)) := blk_below HBv2_23.out bw
      have HBv3_24 : Hid ((w24).heap[qv3]? = some (.cells #[.int .i64 rs, .slice oR3 np pR3, .string rb] 29)) := blk_below HBv3_23.out bw
      have HBv4_24 : Hid ((w24).heap[qv4]? = some (.cells #[.int .i64 m, .string p, .slice oQ4 n pQ4, .string b] 26)) := blk_below HBv4_23.out bw
      have HBv5_24 : Hid ((w24).heap[qv5]? = some (.cells #[.string op, .slice oN5 n1 pN5, .slice oV5 n2 pV5, .int .i64 st, .slice oF5 k pF5, .string d, .int .i64 t] 31)) := blk_below HBv5_23.out bw
      have HBv6_24 : Hid ((w24).heap[qv6]? = some (.cells #[.int .i64 rs, .slice oR6 np pR6, .string rb] 29)) := blk_below HBv6_23.out bw
      have HOR12_24 : Hid ((w24).ownsRow w.heap.size 74 2 (.slice oR12 np pR12) np (flatF P)) := owns_wide ownR12 hb23.size
      have LOR12 : Hid (∀ g, (Value.ownBlock (.slice oR12 np pR12)) = some g → (w23).heap.size ≤ g) := fun g hg => owns_ge ownR12 hg
      have HIR12 : Hid (∀ g, (Value.ownBlock (.slice oR12 np pR12)) = some g → g < (w24).heap.size) := fun g hg => owns_lt ownR12 hg
      have HBv7_24 : Hid ((w24).heap[qv7]? = some (.cells #[.int .i64 rs, .slice oR12 np pR12, .string rb] 29)) := hcell
      clear hb23 HOR3_23 HOQ4_23 HON5_23 HOV5_23 HOF5_23 HOR6_23 HOQ7_23 HON8_23 HOV8_23 HOF8_23 HBv1_23 HBv2_23 HBv3_23 HBv4_23 HBv5_23 HBv6_23 bw hcell hga HF ownR12
      have cv3_0 : (w24).cell? ⟨qv3, 0, none⟩ = some (.int .i64 rs) := (cell_of HBv3_24.out 0).trans rfl
      have cv3_1 : (w24).cell? ⟨qv3, 1, none⟩ = some (.slice oR3 np pR3) := (cell_of HBv3_24.out 1).trans rfl
      have cv3_2 : (w24).cell? ⟨qv3, 2, none⟩ = some (.string rb) := (cell_of HBv3_24.out 2).trans rfl
      have cv7_0 : (w24).cell? ⟨qv7, 0, none⟩ = some (.int .i64 rs) := (cell_of HBv7_24.out 0).trans rfl
      have cv7_1 : (w24).cell? ⟨qv7, 1, none⟩ = some (.slice oR12 np pR12) := (cell_of HBv7_24.out 1).trans rfl
      have cv7_2 : (w24).cell? ⟨qv7, 2, none⟩ = some (.string rb) := (cell_of HBv7_24.out 2).trans rfl
      go_wp2_with fail
      refine (eqResp_any rs _ _ rb np _ _ P _ (FieldsV.of_owns HOR12_24.out) (FieldsV.of_owns HOR3_24.out) (by omega)).mono ?_
      rintro e w25 ⟨rfl, bw⟩
      have hb25 : Below w.heap.size w (w25) := hb24.trans (bw.mono hb24.size)
      have HM25 : Hid ((w24).heap.size ≤ (w25).heap.size) := bw.size
      have HOR3_25 : Hid ((w25).ownsRow w.heap.size 74 2 (.slice oR3 np pR3) np (flatF P)) := owns_below HOR3_24.out bw (fun g hg => owns_lt HOR3_24.out hg)
      have HOQ4_25 : Hid ((w25).ownsRow w.heap.size 74 2 (.slice oQ4 n pQ4) n (flatF (mkG 1 fs n))) := owns_below HOQ4_24.out bw (fun g hg => owns_lt HOQ4_24.out hg)
      have HON5_25 : Hid ((w25).ownsRow w.heap.size 9 1 (.slice oN5 n1 pN5) n1 ((mkT (1 + 2 * n) xs n1).map Value.string)) := owns_below HON5_24.out bw (fun g hg => owns_lt HON5_24.out hg)
      have HOV5_25 : Hid ((w25).ownsRow w.heap.size 9 1 (.slice oV5 n2 pV5) n2 ((mkT (1 + 2 * n + n1) ys n2).map Value.string)) := owns_below HOV5_24.out bw (fun g hg => owns_lt HOV5_24.out hg)
      have HOF5_25 : Hid ((w25).ownsRow w.heap.size 74 2 (.slice oF5 k pF5) k (flatF (mkG (1 + 2 * n + n1 + n2) gs k))) := owns_below HOF5_24.out bw (fun g hg => owns_lt HOF5_24.out hg)
      have HOR6_25 : Hid ((w25).ownsRow w.heap.size 74 2 (.slice oR6 np pR6) np (flatF (mkG 1 P np))) := owns_below HOR6_24.out bw (fun g hg => owns_lt HOR6_24.out hg)
      have HOQ7_25 : Hid ((w25).ownsRow w.heap.size 74 2 (.slice oQ7 n pQ7) n (flatF fs)) := owns_below HOQ7_24.out bw (fun g hg => owns_lt HOQ7_24.out hg)
      have HON8_25 : Hid ((w25).ownsRow w.heap.size 9 1 (.slice oN8 n1 pN8) n1 (xs.map Value.string)) := owns_below HON8_24.out bw (fun g hg => owns_lt HON8_24.out hg)
      have HOV8_25 : Hid ((w25).ownsRow w.heap.size 9 1 (.slice oV8 n2 pV8) n2 (ys.map Value.string)) := owns_below HOV8_24.out bw (fun g hg => owns_lt HOV8_24.out hg)
      have HOF8_25 : Hid ((w25).ownsRow w.heap.size 74 2 (.slice oF8 k pF8) k (flatF gs)) := owns_below HOF8_24.out bw (fun g hg => owns_lt HOF8_24.out hg)
      have HOR12_25 : Hid ((w25).ownsRow w.heap.size 74 2 (.slice oR12 np pR12) np (flatF P)) := owns_below HOR12_24.out bw (fun g hg => owns_lt HOR12_24.out hg)
      have HBv1_25 : Hid ((w25).heap[qv1]? = some (.cells #[.int .i64 m, .string p, .slice a n cap, .string b] 50)) := blk_below HBv1_24.out bw
      have HBv2_25 : Hid ((w25).heap[qv2]? = some (.cells #[.string op, .slice a1 n1 c1, .slice a2 n2 c2, .int .i64 st, .slice a3 k c3, .string d, .int .i64 t] 54)) := blk_below HBv2_24.out bw
      have HBv3_25 : Hid ((w25).heap[qv3]? = some (.cells #[.int .i64 rs, .slice oR3 np pR3, .string rb] 29)) := blk_below HBv3_24.out bw
      have HBv4_25 : Hid ((w25).heap[qv4]? = some (.cells #[.int .i64 m, .string p, .slice oQ4 n pQ4, .string b] 26)) := blk_below HBv4_24.out bw
      have HBv5_25 : Hid ((w25).heap[qv5]? = some (.cells #[.string op, .slice oN5 n1 pN5, .slice oV5 n2 pV5, .int .i64 st, .slice oF5 k pF5, .string d, .int .i64 t] 31)) := blk_below HBv5_24.out bw
      have HBv6_25 : Hid ((w25).heap[qv6]? = some (.cells #[.int .i64 rs, .slice oR6 np pR6, .string rb] 29)) := blk_below HBv6_24.out bw
      have HBv7_25 : Hid ((w25).heap[qv7]? = some (.cells #[.int .i64 rs, .slice oR12 np pR12, .string rb] 29)) := blk_below HBv7_24.out bw
      clear hb24 HOR3_24 HOQ4_24 HON5_24 HOV5_24 HOF5_24 HOR6_24 HOQ7_24 HON8_24 HOV8_24 HOF8_24 HOR12_24 HBv1_24 HBv2_24 HBv3_24 HBv4_24 HBv5_24 HBv6_24 HBv7_24 bw
      clear cv3_0 cv3_1 cv3_2 cv7_0 cv7_1 cv7_2
      have cv6_0 : (w25).cell? ⟨qv6, 0, none⟩ = some (.int .i64 rs) := (cell_of HBv6_25.out 0).trans rfl
      have cv6_1 : (w25).cell? ⟨qv6, 1, none⟩ = some (.slice oR6 np pR6) := (cell_of HBv6_25.out 1).trans rfl
      have cv6_2 : (w25).cell? ⟨qv6, 2, none⟩ = some (.string rb) := (cell_of HBv6_25.out 2).trans rfl
      go_wp2_with fail
      refine (heldRespFrom_any rs _ rb np _ (mkG 1 P np) _ HOR6_25.out 1 (by omega) (by omega) (fun j hj => mkG_at 1 P j np (by rw [HNP.out]; exact Nat.le_refl _) hj)).mono ?_
      rintro e w26 ⟨rfl, bw⟩
      have hb26 : Below w.heap.size w (w26) := hb25.trans (bw.mono hb25.size)
      have HM26 : Hid ((w25).heap.size ≤ (w26).heap.size) := bw.size
      have HOR3_26 : Hid ((w26).ownsRow w.heap.size 74 2 (.slice oR3 np pR3) np (flatF P)) := owns_below HOR3_25.out bw (fun g hg => owns_lt HOR3_25.out hg)
      have HOQ4_26 : Hid ((w26).ownsRow w.heap.size 74 2 (.slice oQ4 n pQ4) n (flatF (mkG 1 fs n))) := owns_below HOQ4_25.out bw (fun g hg => owns_lt HOQ4_25.out hg)
      have HON5_26 : Hid ((w26).ownsRow w.heap.size 9 1 (.slice oN5 n1 pN5) n1 ((mkT (1 + 2 * n) xs n1).map Value.string)) := owns_below HON5_25.out bw (fun g hg => owns_lt HON5_25.out hg)
      have HOV5_26 : Hid ((w26).ownsRow w.heap.size 9 1 (.slice oV5 n2 pV5) n2 ((mkT (1 + 2 * n + n1) ys n2).map Value.string)) := owns_below HOV5_25.out bw (fun g hg => owns_lt HOV5_25.out hg)
      have HOF5_26 : Hid ((w26).ownsRow w.heap.size 74 2 (.slice oF5 k pF5) k (flatF (mkG (1 + 2 * n + n1 + n2) gs k))) := owns_below HOF5_25.out bw (fun g hg => owns_lt HOF5_25.out hg)
      have HOR6_26 : Hid ((w26).ownsRow w.heap.size 74 2 (.slice oR6 np pR6) np (flatF (mkG 1 P np))) := owns_below HOR6_25.out bw (fun g hg => owns_lt HOR6_25.out hg)
      have HOQ7_26 : Hid ((w26).ownsRow w.heap.size 74 2 (.slice oQ7 n pQ7) n (flatF fs)) := owns_below HOQ7_25.out bw (fun g hg => owns_lt HOQ7_25.out hg)
      have HON8_26 : Hid ((w26).ownsRow w.heap.size 9 1 (.slice oN8 n1 pN8) n1 (xs.map Value.string)) := owns_below HON8_25.out bw (fun g hg => owns_lt HON8_25.out hg)
      have HOV8_26 : Hid ((w26).ownsRow w.heap.size 9 1 (.slice oV8 n2 pV8) n2 (ys.map Value.string)) := owns_below HOV8_25.out bw (fun g hg => owns_lt HOV8_25.out hg)
      have HOF8_26 : Hid ((w26).ownsRow w.heap.size 74 2 (.slice oF8 k pF8) k (flatF gs)) := owns_below HOF8_25.out bw (fun g hg => owns_lt HOF8_25.out hg)
      have HOR12_26 : Hid ((w26).ownsRow w.heap.size 74 2 (.slice oR12 np pR12) np (flatF P)) := owns_below HOR12_25.out bw (fun g hg => owns_lt HOR12_25.out hg)
      have HBv1_26 : Hid ((w26).heap[qv1]? = some (.cells #[.int .i64 m, .string p, .slice a n cap, .string b] 50)) := blk_below HBv1_25.out bw
      have HBv2_26 : Hid ((w26).heap[qv2]? = some (.cells #[.string op, .slice a1 n1 c1, .slice a2 n2 c2, .int .i64 st, .slice a3 k c3, .string d, .int .i64 t] 54)) := blk_below HBv2_25.out bw
      have HBv3_26 : Hid ((w26).heap[qv3]? = some (.cells #[.int .i64 rs, .slice oR3 np pR3, .string rb] 29)) := blk_below HBv3_25.out bw
      have HBv4_26 : Hid ((w26).heap[qv4]? = some (.cells #[.int .i64 m, .string p, .slice oQ4 n pQ4, .string b] 26)) := blk_below HBv4_25.out bw
      have HBv5_26 : Hid ((w26).heap[qv5]? = some (.cells #[.string op, .slice oN5 n1 pN5, .slice oV5 n2 pV5, .int .i64 st, .slice oF5 k pF5, .string d, .int .i64 t] 31)) := blk_below HBv5_25.out bw
      have HBv6_26 : Hid ((w26).heap[qv6]? = some (.cells #[.int .i64 rs, .slice oR6 np pR6, .string rb] 29)) := blk_below HBv6_25.out bw
      have HBv7_26 : Hid ((w26).heap[qv7]? = some (.cells #[.int .i64 rs, .slice oR12 np pR12, .string rb] 29)) := blk_below HBv7_25.out bw
      clear hb25 HOR3_25 HOQ4_25 HON5_25 HOV5_25 HOF5_25 HOR6_25 HOQ7_25 HON8_25 HOV8_25 HOF8_25 HOR12_25 HBv1_25 HBv2_25 HBv3_25 HBv4_25 HBv5_25 HBv6_25 HBv7_25 bw
      have hkh13 : ¬ ((((1 : Nat) : Int) + 2 * (np : Int)) < 0) := by omega
      clear cv6_0 cv6_1 cv6_2
      go_wp2_with fail
      go_ret
      exact ⟨rfl, hb26⟩


set_option maxRecDepth 100000 in
theorem contract (H : Type) (enc : TypeId × Value → H) (W : World) (base : Nat) (args : Array Value) (ds gs : List (DataW H)) (before : List MemPlace)
    (hval : ∀ (j : Nat) t v, Tryz.f4.params[j]? = some t → args[j]? = some v → Value.okWide Tryz.prog W .any base t v)
    (hW : DataW.Whole enc Tryz.prog Tryz.f4.params.toList Rows.fnExactAnswerSpec.vars false W args.toList ds gs before) (hL : laidMetH Tryz.prog Rows.fnExactAnswerRow.laid W) (_ : W.ShapedOpen Tryz.prog) :
    Calls Tryz.prog 4 args W fun e W' => ∃ v, e = .returned v ∧ Rows.fnExactAnswerSpec.post enc Tryz.prog Tryz.f4 false true false false W args v W' := by
  have hT : TabOk W := table hL
  have hW' := hW
  obtain ⟨p, q, hA0, hV, rfl, hfz, hnd⟩ := hW
  have hA : DataW.TrodAll enc Tryz.prog W 0 (fun _ => true) true Tryz.f4.params.toList args.toList ds p := hA0
  rw [Tryz.params4] at hA hval
  obtain ⟨v0, vs0, d0, ds0, p0, q0, hargs, rfl, rfl, h0, r0⟩ := trodAll_cons hA
  obtain ⟨v1, vs1, d1, ds1, p1, q1, hargs1, rfl, rfl, h1, r1⟩ := trodAll_cons r0
  obtain ⟨v2, vs2, d2, ds2, p2, q2, hargs2, rfl, rfl, h2, r2⟩ := trodAll_cons r1
  obtain ⟨rfl, rfl, rfl⟩ := trodAll_nil r2
  obtain rfl : args = #[v0, v1, v2] := by cases args; simp_all
  obtain ⟨rfl, rfl⟩ := trodVars_none hV
  have k0 := h0
  have lt0 : ∀ x ∈ p0, x.block < W.heap.size := by obtain ⟨m, hm⟩ := k0; exact DataW.trod_lt m _ _ _ hm
  obtain ⟨am0, ap0, a0, n0, cap0, ab0, fs0, rfl, ga0, gb0, gc0, gd0, ge0⟩ := openReq (hval 0 50 v0 rfl rfl) h0
  have k1 := h1
  have lt1 : ∀ x ∈ p1, x.block < W.heap.size := by obtain ⟨m, hm⟩ := k1; exact DataW.trod_lt m _ _ _ hm
  obtain ⟨op1, a1, n1, cap1, xs1, b1, m1, capb1, ys1, st1, e1, l1, cape1, fs1, ob1, ot1, rfl, ga1, gb1, gc1, gd1, ge1, gf1, gg1, gh1, gi1, gj1, gk1⟩ := openObj (hval 1 54 v1 rfl rfl) h1
  have gt1 := objTime h1
  obtain ⟨a2, rfl, rfl, rfl, w2⟩ := open_int Tryz.underlying3 (hval 2 3 v2 rfl rfl) h2
  have bd2 := bounds_i64 w2
  clear hA0
  simp only [List.append_nil] at hW'
  refine (walk1 W am0 ap0 a0 n0 cap0 ab0 fs0 ga0 gb0 gc0 gd0 ge0 op1 a1 n1 cap1 xs1 b1 m1 capb1 ys1 st1 e1 l1 cape1 fs1 ob1 ot1 ga1 gb1 gc1 gd1 ge1 gf1 gg1 gh1 gi1 gj1 gk1 gt1.1 gt1.2 a2 (by omega) (by omega) hT).mono fun e W' ⟨he, bel⟩ => ?_
  subst he
  exact ⟨_, rfl, _, _, _, [], _, [], hW', trodAll_mk1 (shut_bool Tryz.underlying4 _), (trodAll_cons_mk (Below.trod laidOut (by kernel_rfl) (of_decide_eq_true (by kernel_rfl)) k0 bel lt0) (trodAll_cons_mk (Below.trod laidOut (by kernel_rfl) (of_decide_eq_true (by kernel_rfl)) k1 bel lt1) (trodAll_cons_mk (shut_int Tryz.underlying3 w2) trodAll_mk0))), rfl, bel.frame _, fun h => by cases h⟩

theorem laid_met (os : Os) : laidMet Tryz.prog Rows.fnExactAnswerRow.laid ((withTables (World.holding Tryz.prog os ⟨#[], #[], []⟩)).forCall (fun _ _ => 0) ⟨#[], #[.agg #[.int .i64 0, .string ByteArray.empty, .slice none 0 0, .string ByteArray.empty], .agg #[.string ByteArray.empty, .slice none 0 0, .slice none 0 0, .int .i64 0, .slice none 0 0, .string ByteArray.empty, .int .i64 0], .int .i64 0], []⟩).memory :=
  laidMet_of_run' 80 (by kernel_rfl) (by kernel_rfl)
theorem reads (os : Os) {H : Type} (enc : TypeId × Value → H) : ∃ places, DataW.whole enc Tryz.prog ((withTables (World.holding Tryz.prog os ⟨#[], #[], []⟩)).forCall (fun _ _ => 0) ⟨#[], #[.agg #[.int .i64 0, .string ByteArray.empty, .slice none 0 0, .string ByteArray.empty], .agg #[.string ByteArray.empty, .slice none 0 0, .slice none 0 0, .int .i64 0, .slice none 0 0, .string ByteArray.empty, .int .i64 0], .int .i64 0], []⟩).memory Tryz.f4.params.toList Rows.fnExactAnswerSpec.vars false #[(.agg #[.int .i64 0, .string ByteArray.empty, .slice none 0 0, .string ByteArray.empty] : Value), (.agg #[.string ByteArray.empty, .slice none 0 0, .slice none 0 0, .int .i64 0, .slice none 0 0, .string ByteArray.empty, .int .i64 0] : Value), (.int .i64 0 : Value)].toList 8 = some ([.agg [.lit (.int .i64 0), .lit (.string []), .nil, .lit (.string [])], .agg [.lit (.string []), .nil, .nil, .agg [.lit (.int .i64 0), .nil, .lit (.string [])], .lit (.int .i64 0)], .lit (.int .i64 0)], [], places) :=
  ⟨[], by kernel_rfl⟩

set_option maxRecDepth 100000 in
theorem lifted (os : Os) (started : os.Started) (H : Type) (enc : TypeId × Value → H) (F : Stop.Interp) :
    ReturnsInHanded {} Tryz.checked os 4 .any ((OpenSpec.ofChange Rows.fnExactAnswerSpec).preRow enc Tryz.prog Tryz.f4 Rows.fnExactAnswerRow.domain false Rows.fnExactAnswerRow.laid) (((OpenSpec.ofChange Rows.fnExactAnswerSpec).at F).post enc Tryz.prog Tryz.f4 false true false false) := by
  obtain ⟨places, hx⟩ := reads os enc
  refine returnsInHanded_of_row (C := Tryz.checked) (s := OpenSpec.ofChange Rows.fnExactAnswerSpec) own started (by kernel_rfl) Tryz.func4
    (witness_row_at (enc := enc) (C := Tryz.checked) false (withTables (World.holding Tryz.prog os ⟨#[], #[], []⟩)) #[.agg #[.int .i64 0, .string ByteArray.empty, .slice none 0 0, .string ByteArray.empty], .agg #[.string ByteArray.empty, .slice none 0 0, .slice none 0 0, .int .i64 0, .slice none 0 0, .string ByteArray.empty, .int .i64 0], .int .i64 0] rfl (by kernel_rfl) (by kernel_rfl) (by kernel_rfl)
      (OpenSpec.preRow_of_cond 8 hx (by kernel_rfl) (fun k hk => by cases hk) (by kernel_rfl) (laid_met os))) ?_
  intro W base args ds gs before hval hW _ _ _ hL hSh _
  exact contract H enc W base args ds gs before hval hW hL hSh

theorem said : Rows.FnExactAnswerSaid :=
  OpenClaim.holds_of_cond 4 Tryz.f4 rfl rfl rfl rfl rfl rfl rfl ⟨rfl, rfl, rfl, rfl, rfl⟩ rfl rfl rfl rfl rfl (by kernel_rfl) Tryz.func4 (by kernel_rfl)
    (of_decide_eq_true (by kernel_rfl)) (by unfold Func.isWrapper; first | (rw [if_pos (by decide +kernel)]; kernel_rfl) | (rw [if_neg (by decide +kernel)]; exact ⟨rfl, rfl⟩))
    (fun os started H enc _ F => by rw [OpenClaim.pre_eq_preRow]; exact lifted os started H enc F)

theorem plain (f : FuncId) (fn : Func) (hf : Tryz.pinned.checked.prog.funcNamed "loop.example/g00239/laws.FnExactAnswer" = some f) (hfn : Tryz.pinned.checked.prog.funcs[f]? = some fn) :
    false = Tryz.pinned.checked.prog.looks [] ∧ ∀ (j : Nat) t, fn.params[j]? = some t → Tryz.pinned.checked.prog.wantsStandIn t = false := by
  obtain rfl : f = 4 := Option.some.inj ((show Tryz.prog.funcNamed "loop.example/g00239/laws.FnExactAnswer" = some 4 by kernel_rfl).symm.trans hf) |>.symm
  obtain rfl : fn = Tryz.f4 := (Option.some.inj (Tryz.func4.symm.trans hfn)).symm
  refine ⟨by kernel_rfl, fun j t ht => ?_⟩
  rw [Tryz.params4] at ht
  have hm : t = 50 ∨ t = 54 ∨ t = 3 := by simpa using Array.mem_of_getElem? ht
  rcases hm with rfl | rfl | rfl
  · exact (show Tryz.prog.wantsStandIn 50 = false by kernel_rfl)
  · exact (show Tryz.prog.wantsStandIn 54 = false by kernel_rfl)
  · exact (show Tryz.prog.wantsStandIn 3 = false by kernel_rfl)

theorem card : Rows.FnExactAnswerCardSaid :=
  Claim7.holds_tied_plain_at .later [] _ _ _ _ said (fun _ h => by cases h) (by kernel_rfl) (fun _ h => by cases h) fnExactAnswer_row_tie rfl ⟨rfl, rfl⟩ (by kernel_rfl) rfl plain (by kernel_rfl)
end fnExactAnswer

theorem fnExactAnswer_holds : Rows.FnExactAnswerCardSaid := fnExactAnswer.card
#print axioms fnExactAnswer_holds
end Go.Proofs.YtmcmeeibogkpaaaGreatDoorR
