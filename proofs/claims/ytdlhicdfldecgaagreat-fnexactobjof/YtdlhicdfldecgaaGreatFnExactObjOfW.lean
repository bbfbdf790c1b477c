/- What the proof of FnExactObjOf leans on: the walk where an object is kept. -/
import Derived.Test.YtdlhicdfldecgaaGreatFnExactObjOfE
import Derived.Test.YtdlhicdfldecgaaGreatRows
import Derived.WalkKit
import Derived.ProofKit
import Derived.OpenShut
import Derived.ShutString
import Derived.ChangeOld
import Derived.Below
import Derived.Deep.RegionHeld3
import Derived.Deep.DrawnRows
import Derived.Deep.CutRange
import Derived.Deep.DeepCutAuto
namespace Go.Proofs.YtdlhicdfldecgaaGreat
namespace fnExactObjOf
open Go.ChangeShapes Go.WideShapes Go.ChangeAt Go.RowKit
open Go.ChangeMaps (open_string shut_string)
attribute [local go_sem ↓] Go.wp_at_zero Go.wp_at_succ

theorem own : ownKnob Tryz.prog.godebug = none := by kernel_rfl
theorem laidOut : laidOutB Tryz.prog = true := by kernel_rfl
theorem argUp {w : World} {B B' : Nat} {a : Option Addr} {n : Nat} {fs : List (ByteArray × ByteArray)} (h : ArgF w B a n fs) (hB : B ≤ B') : ArgF w B' a n fs :=
  ⟨h.len, fun i hi => by
    obtain ⟨b, off, h1, h2, h3⟩ := h.get i hi
    exact ⟨b, off, h1, Nat.lt_of_lt_of_le h2 hB, h3⟩⟩
theorem nilO (W : World) (B : Nat) : ObjO W B (.slice none 0 0) 0 [] (.slice none 0 0) 0 [] (.slice none 0 0) 0 [] :=
  ⟨World.ownsRow_nil _ _ _ _, World.ownsRow_nil _ _ _ _, World.ownsRow_nil _ _ _ _, fun _ h => by simp [Value.ownBlock] at h⟩
theorem blk_lt {w : World} {q : Nat} {x} (h : w.heap[q]? = some x) : q < w.heap.size := (Array.getElem?_eq_some_iff.1 h).1
/-- What is kept. -/
def OfT (p : ByteArray) (st : Int) (gs : List (ByteArray × ByteArray)) (d : ByteArray) (t : Int) (vl yl : List ByteArray) (k : Nat) (w : World) (e : Ending) (w' : World) : Prop :=
  ∃ v1 v2 v3, e = .returned (.tuple #[.agg #[.string p, v1, v2, .int .i64 st, v3, .string d, .int .i64 t], .bool true]) ∧ ObjO w' w.heap.size v1 vl.length vl v2 yl.length yl v3 k gs ∧ Below w.heap.size w w'
theorem ofT {m : Int} {p : ByteArray} {fs : List (ByteArray × ByteArray)} {b : ByteArray} {st : Int} {gs : List (ByteArray × ByteArray)} {d : ByteArray} {t : Int} {vl yl : List ByteArray} {k : Nat} {prog : Program} {f : FuncId} {args : Array Value} {w : World} (hK : (MayP m p fs b st gs d ∧ ObjP p vl yl st gs d t)) (h : Calls prog f args w fun e w' => ObjOfIs m p fs b st gs d t vl yl k w e w') : Calls prog f args w fun e w' => OfT p st gs d t vl yl k w e w' :=
  h.mono fun e w' ⟨h1, h2⟩ => by
    rcases h2 with ⟨_, v1, v2, v3, h3, h4⟩ | ⟨h3, _⟩
    · exact ⟨v1, v2, v3, h3, h4, h1⟩
    · exact absurd hK h3
theorem ofF {m : Int} {p : ByteArray} {fs : List (ByteArray × ByteArray)} {b : ByteArray} {st : Int} {gs : List (ByteArray × ByteArray)} {d : ByteArray} {t : Int} {vl yl : List ByteArray} {k : Nat} {prog : Program} {f : FuncId} {args : Array Value} {w : World} (hK : ¬ (MayP m p fs b st gs d ∧ ObjP p vl yl st gs d t)) (h : Calls prog f args w fun e w' => ObjOfIs m p fs b st gs d t vl yl k w e w') : Calls prog f args w fun e w' => e = .returned (.tuple #[.agg #[.string ⟨#[]⟩, .slice none 0 0, .slice none 0 0, .int .i64 0, .slice none 0 0, .string ⟨#[]⟩, .int .i64 0], .bool false]) ∧ Below w.heap.size w w' :=
  h.mono fun e w' ⟨h1, h2⟩ => by
    rcases h2 with ⟨h3, _⟩ | ⟨_, h3⟩
    · exact absurd h3 hK
    · exact ⟨h3, h1⟩

open Go.Lib hiding intOf
set_option maxHeartbeats 16000000 in
set_option maxRecDepth 100000 in
theorem walkT (w : World) (m : Int) (p : ByteArray) (a : Option Addr) (n cap : Nat) (b : ByteArray) (fs : List (ByteArray × ByteArray)) (h1 : ArgF w w.heap.size a n fs) (hn1 : n ≤ maxLen) (hs1 : WalkF n fs) (hp : p.size ≤ maxLen) (hb : b.size ≤ maxLen) (st : Int) (a2 : Option Addr) (k cap2 : Nat) (d : ByteArray) (gs : List (ByteArray × ByteArray)) (h2 : ArgF w w.heap.size a2 k gs) (hn2 : k ≤ maxLen) (hs2 : WalkF k gs) (hd : d.size ≤ maxLen) (t : Int) (vl yl : List ByteArray) (hvl : vl = varyP gs) (hyl : yl = valsP vl fs) (hK : (MayP m p fs b st gs d ∧ ObjP p vl yl st gs d t)) :
    Calls Tryz.prog 3 #[.agg #[.int .i64 m, .string p, .slice a n cap, .string b], .agg #[.int .i64 st, .slice a2 k cap2, .string d], .int .i64 t] w fun e w' => e = .returned (.bool true) ∧ Below w.heap.size w w' := by
  have HA1 : Hid (∀ W, Below w.heap.size w W → ArgF W w.heap.size a n fs) := fun W h => h1.below h
  have HA2 : Hid (∀ W, Below w.heap.size w W → ArgF W w.heap.size a2 k gs) := fun W h => h2.below h
  have HL1 : Hid (fs.length = n) := h1.len
  have HL2 : Hid (gs.length = k) := h2.len
  have HN1 : Hid (n ≤ maxLen) := hn1
  have HN2 : Hid (k ≤ maxLen) := hn2
  have HS1 : Hid (WalkF n fs) := hs1
  have HS2 : Hid (WalkF k gs) := hs2
  have HPM : Hid (p.size ≤ maxLen) := hp
  have HBM : Hid (b.size ≤ maxLen) := hb
  have HDM : Hid (d.size ≤ maxLen) := hd
  have HVL : Hid (vl = varyP gs) := hvl
  have HYL : Hid (yl = valsP vl fs) := hyl
  have HKK : Hid (MayP m p fs b st gs d ∧ ObjP p vl yl st gs d t) := hK
  have HLV : Hid (vl.length ≤ 4 ∧ yl.length ≤ 4) := by have h := hK.2.2.2.2.1.2; have h2 := hK.2.2.2.2.2.2.1; exact ⟨h, by omega⟩
  clear h1 h2 hn1 hn2 hs1 hs2 hp hb hd hvl hyl hK
  have hb0 : Below w.heap.size w w := Below.refl _ _
  go_enter Tryz.func3, Tryz.ntmps3
  go_upto_region 1 with fail
  obtain ⟨qv1, hqv1⟩ : ∃ q, q = (w).heap.size := ⟨_, rfl⟩
  obtain ⟨w1, hW1⟩ : ∃ W, W = (w).alloc (.cells #[.int .i64 m, .string p, .slice a n cap, .string b] 24) := ⟨_, rfl⟩
  have hz1 : (w).heap.size = qv1 := hqv1.symm
  first | rw [← hW1, ← hqv1] | rw [← hW1]
  have hs1 : w1.heap.size = qv1 + 1 := by rw [hW1, ← hz1]; simp
  have bw : Below (w).heap.size (w) w1 := by rw [hW1]; exact (Below.refl _ _).alloc (Nat.le_refl _) _
  have hb1 : Below w.heap.size w (w1) := hb0.trans (bw.mono hb0.size)
  have HM1 : Hid ((w).heap.size ≤ (w1).heap.size) := bw.size
  have HBv1_1 : Hid ((w1).heap[qv1]? = some (.cells #[.int .i64 m, .string p, .slice a n cap, .string b] 24)) := by show _ = _; rw [hW1, ← hz1]; exact heap_alloc_new _ _
  have HGv1 : Hid (w.heap.size ≤ qv1) := by show _ ≤ _; rw [← hz1]; exact hb0.size
  clear hb0 bw hW1 hz1
  obtain ⟨qv2, hqv2⟩ : ∃ q, q = qv1 + 1 := ⟨_, rfl⟩
  obtain ⟨w2, hW2⟩ : ∃ W, W = (w1).alloc (.cells #[.int .i64 st, .slice a2 k cap2, .string d] 26) := ⟨_, rfl⟩
  have hz2 : (w1).heap.size = qv2 := by rw [hqv2]; exact hs1
  first | rw [← hW2, ← hqv2] | rw [← hW2]
  have hs2 : w2.heap.size = qv2 + 1 := by rw [hW2, ← hz2]; simp
  have bw : Below (w1).heap.size (w1) w2 := by rw [hW2]; exact (Below.refl _ _).alloc (Nat.le_refl _) _
  have hb2 : Below w.heap.size w (w2) := hb1.trans (bw.mono hb1.size)
  have HM2 : Hid ((w1).heap.size ≤ (w2).heap.size) := bw.size
  have HBv1_2 : Hid ((w2).heap[qv1]? = some (.cells #[.int .i64 m, .string p, .slice a n cap, .string b] 24)) := blk_below HBv1_1.out bw
  have HNv1v2 : Hid (qv1 ≠ qv2) := fun e => by have h1 := (Array.getElem?_eq_some_iff.1 HBv1_1.out).1; omega
  have HBv2_2 : Hid ((w2).heap[qv2]? = some (.cells #[.int .i64 st, .slice a2 k cap2, .string d] 26)) := by show _ = _; rw [hW2, ← hz2]; exact heap_alloc_new _ _
  have HGv2 : Hid (w.heap.size ≤ qv2) := by show _ ≤ _; rw [← hz2]; exact hb1.size
  clear hb1 HBv1_1 bw hW2 hz2
  clear hs2 hqv2 hs1 hqv1
  have cv1_0 : (w2).cell? ⟨qv1, 0, none⟩ = some (.int .i64 m) := (cell_of HBv1_2.out 0).trans rfl
  have cv1_1 : (w2).cell? ⟨qv1, 1, none⟩ = some (.string p) := (cell_of HBv1_2.out 1).trans rfl
  have cv1_2 : (w2).cell? ⟨qv1, 2, none⟩ = some (.slice a n cap) := (cell_of HBv1_2.out 2).trans rfl
  have cv1_3 : (w2).cell? ⟨qv1, 3, none⟩ = some (.string b) := (cell_of HBv1_2.out 3).trans rfl
  go_wp2_with fail
  refine (szReq_room 1048576 (by omega) (by omega) m p a n cap b fs _ (argUp (HA1.out _ hb2) hb2.size) HN1.out HS1.out HPM.out HBM.out).mono ?_
  rintro e w3 ⟨r1, rfl, hl1, hr1, bw⟩
  have hb3 : Below w.heap.size w (w3) := hb2.trans (bw.mono hb2.size)
  have HM3 : Hid ((w2).heap.size ≤ (w3).heap.size) := bw.size
  have HBv1_3 : Hid ((w3).heap[qv1]? = some (.cells #[.int .i64 m, .string p, .slice a n cap, .string b] 24)) := blk_below HBv1_2.out bw
  have HBv2_3 : Hid ((w3).heap[qv2]? = some (.cells #[.int .i64 st, .slice a2 k cap2, .string d] 26)) := blk_below HBv2_2.out bw
  clear hb2 HBv1_2 HBv2_2 bw
  clear cv1_0 cv1_1 cv1_2 cv1_3
  by_cases hc1 : r1 < 0
  · clear hr1
    go_wp2_with fail
    go_ret
    exact ⟨rfl, hb3⟩
  · obtain ⟨hrm1, _, hm1, hz1⟩ := hr1 (by omega)
    clear hr1
    have cv2_0 : (w3).cell? ⟨qv2, 0, none⟩ = some (.int .i64 st) := (cell_of HBv2_3.out 0).trans rfl
    have cv2_1 : (w3).cell? ⟨qv2, 1, none⟩ = some (.slice a2 k cap2) := (cell_of HBv2_3.out 1).trans rfl
    have cv2_2 : (w3).cell? ⟨qv2, 2, none⟩ = some (.string d) := (cell_of HBv2_3.out 2).trans rfl
    go_wp2_with fail
    refine (szResp_room r1 (by omega) (by omega) st a2 k cap2 d gs _ (argUp (HA2.out _ hb3) hb3.size) HN2.out HS2.out HDM.out).mono ?_
    rintro e w4 ⟨r2, rfl, hl2, hr2, bw⟩
    have hb4 : Below w.heap.size w (w4) := hb3.trans (bw.mono hb3.size)
    have HM4 : Hid ((w3).heap.size ≤ (w4).heap.size) := bw.size
    have HBv1_4 : Hid ((w4).heap[qv1]? = some (.cells #[.int .i64 m, .string p, .slice a n cap, .string b] 24)) := blk_below HBv1_3.out bw
    have HBv2_4 : Hid ((w4).heap[qv2]? = some (.cells #[.int .i64 st, .slice a2 k cap2, .string d] 26)) := blk_below HBv2_3.out bw
    clear hb3 HBv1_3 HBv2_3 bw
    clear cv2_0 cv2_1 cv2_2
    by_cases hc2 : r2 < 0
    · clear hr2
      go_wp2_with fail
      go_ret
      exact ⟨rfl, hb4⟩
    · obtain ⟨hrm2, _, hm2, hz2⟩ := hr2 (by omega)
      clear hr2
      have HG1 : Hid (∀ x, (getV fs x).size ≤ 1048576) := fun x => by
        unfold getV
        split
        · rename_i h
          have := szTo_get fs n (atF fs x) (by rw [← HL1.out]; exact h)
          omega
        · decide
      have HG2 : Hid (∀ x, (getV gs x).size ≤ 1048576) := fun x => by
        unfold getV
        split
        · rename_i h
          have := szTo_get gs k (atF gs x) (by rw [← HL2.out]; exact h)
          omega
        · decide
      have HCF1 : Hid (CopyF fs) := fun i hi => by
        have := szTo_get fs n i (by rw [← HL1.out]; exact hi)
        omega
      have HCF2 : Hid (CopyF gs) := fun i hi => by
        have := szTo_get gs k i (by rw [← HL2.out]; exact hi)
        omega
      have HSP : Hid (∀ (u1 u2 : Value) (B1 B2 : Nat) (W : World), W.ownsRow B1 75 2 u1 n (flatF fs) → W.ownsRow B2 75 2 u2 k (flatF gs) → Calls Tryz.prog 6 #[.agg #[.int .i64 m, .string p, u1, .string b], .agg #[.int .i64 st, u2, .string d], .int .i64 t] W fun e w' => OfT p st gs d t vl yl k W e w') := fun u1 u2 B1 B2 W h1 h2 => ofT HKK.out (specObjOf_any m p u1 b n B1 fs st u2 d k B2 gs t vl yl W (FieldsV.of_owns h1) (by omega) HS1.out HL1.out HPM.out HBM.out (FieldsV.of_owns h2) (by omega) HS2.out HDM.out (HG1.out _) (HG2.out _) (HG2.out _) HVL.out HYL.out)
      have HIM : Hid (∀ (u1 u2 : Value) (B1 B2 : Nat) (W : World), W.ownsRow B1 75 2 u1 n (flatF fs) → W.ownsRow B2 75 2 u2 k (flatF gs) → Calls Tryz.prog 9 #[.agg #[.int .i64 m, .string p, u1, .string b], .agg #[.int .i64 st, u2, .string d], .int .i64 t] W fun e w' => OfT p st gs d t vl yl k W e w') := fun u1 u2 B1 B2 W h1 h2 => ofT HKK.out (implObjOf_any m p u1 b n B1 fs st u2 d k B2 gs t vl yl W (FieldsV.of_owns h1) (by omega) HS1.out HL1.out HPM.out HBM.out (FieldsV.of_owns h2) (by omega) HS2.out HDM.out (HG1.out _) (HG2.out _) (HG2.out _) HVL.out HYL.out HCF1.out HCF2.out)
      clear hz1 hz2 HG1 HG2
      go_upto_region 8 with fail
      have HSS : Hid (∀ W, Below w4.heap.size w4 W → W.heap[qv1]? = some (.cells #[.int .i64 m, .string p, .slice a n cap, .string b] 24) ∧ W.heap[qv2]? = some (.cells #[.int .i64 st, .slice a2 k cap2, .string d] 26)) := fun W h => ⟨blk_below HBv1_4.out h, blk_below HBv2_4.out h⟩
      go_cut [8, 9] (fun sx sx9 wx => ∃ (q : Nat) (oX3 : Option Addr) (pX3 : Nat) (oY3 : Option Addr) (pY3 : Nat) (oG3 : Option Addr) (pG3 : Nat), sx = .pointer (some ⟨q, 0, none⟩) ∧ sx9 = .bool true ∧ Hid (Below w4.heap.size w4 wx ∧ wx.heap[q]? = some (.cells #[.string p, .slice oX3 vl.length pX3, .slice oY3 yl.length pY3, .int .i64 st, .slice oG3 k pG3, .string d, .int .i64 t] 34) ∧ w4.heap.size ≤ q ∧ (wx).ownsRow w4.heap.size 9 1 (.slice oX3 vl.length pX3) vl.length (vl.map Value.string) ∧ (wx).ownsRow w4.heap.size 9 1 (.slice oY3 yl.length pY3) yl.length (yl.map Value.string) ∧ (wx).ownsRow w4.heap.size 75 2 (.slice oG3 k pG3) k (flatF gs) ∧ (∀ g, (Value.ownBlock (.slice oX3 vl.length pX3)) = some g → (Value.ownBlock (.slice oY3 yl.length pY3)) ≠ some g)))
      case first =>
        refine wp_region_held_drew (S := fun W => W.heap[qv1]? = some (.cells #[.int .i64 m, .string p, .slice a n cap, .string b] 24) ∧ W.heap[qv2]? = some (.cells #[.int .i64 st, .slice a2 k cap2, .string d] 26)) (by kernel_rfl) (HSS.out _ (Below.refl _ _).drew) (fun _ => ?_)
        obtain ⟨w5, hX⟩ : ∃ X, X = w4.drew := ⟨_, rfl⟩
        have bw : Below w4.heap.size w4 w5 := by rw [hX]; exact (Below.refl _ _).drew
        rw [← hX]
        have hb5 : Below w.heap.size w (w5) := hb4.trans (bw.mono hb4.size)
        have HM5 : Hid ((w4).heap.size ≤ (w5).heap.size) := bw.size
        have HBv1_5 : Hid ((w5).heap[qv1]? = some (.cells #[.int .i64 m, .string p, .slice a n cap, .string b] 24)) := blk_below HBv1_4.out bw
        have HBv2_5 : Hid ((w5).heap[qv2]? = some (.cells #[.int .i64 st, .slice a2 k cap2, .string d] 26)) := blk_below HBv2_4.out bw
        have HX_5 : Hid (Below w4.heap.size w4 w5) := bw
        clear bw hX
        refine wpAnyH_takeD (i := 0) (v := .agg #[.int .i64 m, .string p, .slice a n cap, .string b]) (some 30) rfl rfl (by kernel_rfl) (by kernel_rfl) (by kernel_rfl) (fun _ _ _ h => h) (Or.inl ⟨by rfl, by intro W hW; obtain ⟨hhv1, hhv2⟩ := hW; have y0 := (cell_of hhv1 0).trans rfl; have y1 := (cell_of hhv1 1).trans rfl; have y2 := (cell_of hhv1 2).trans rfl; have y3 := (cell_of hhv1 3).trans rfl; go_simp⟩) (HSS.out _ HX_5.out) ?_
        simp only [Act.put, List.setIfInBounds_toArray, List.set_cons_zero, List.set_cons_succ]
        refine wpAnyH_takeD (i := 2) (v := .agg #[.int .i64 st, .slice a2 k cap2, .string d]) (some 32) rfl rfl (by kernel_rfl) (by kernel_rfl) (by kernel_rfl) (fun _ _ _ h => h) (Or.inl ⟨by rfl, by intro W hW; obtain ⟨hhv1, hhv2⟩ := hW; have y0 := (cell_of hhv2 0).trans rfl; have y1 := (cell_of hhv2 1).trans rfl; have y2 := (cell_of hhv2 2).trans rfl; go_simp⟩) (HSS.out _ HX_5.out) ?_
        simp only [Act.put, List.setIfInBounds_toArray, List.set_cons_zero, List.set_cons_succ]
        refine wpAnyH_takeD (i := 4) (v := .int .i64 t) (some 34) rfl rfl (by kernel_rfl) (by kernel_rfl) (by kernel_rfl) (fun _ _ _ h => h) (Or.inl ⟨by rfl, by intro W _; go_simp⟩) (HSS.out _ HX_5.out) ?_
        simp only [Act.put, List.setIfInBounds_toArray, List.set_cons_zero, List.set_cons_succ]
        refine wpAnyH_ready (rs := [1, 9]) (by kernel_rfl) (by simp) ?_
        refine AllReadyH.cons rfl (fun K hK => ?_) (AllReadyH.cons rfl (fun K hK => ?_) AllReadyH.nil)
        · go_simp
          refine (toReq_any m p a n cap b fs w.heap.size _ (HA1.out _ hb5) hb5.size hm1).mono ?_
          rintro e w6 ⟨vv, rfl, ownQ1, bw⟩
          obtain ⟨oQ1, pQ1, rfl⟩ := slice_of_owns ownQ1
          have hb6 : Below w.heap.size w (w6) := hb5.trans (bw.mono hb5.size)
          have HM6 : Hid ((w5).heap.size ≤ (w6).heap.size) := bw.size
          have HBv1_6 : Hid ((w6).heap[qv1]? = some (.cells #[.int .i64 m, .string p, .slice a n cap, .string b] 24)) := blk_below HBv1_5.out bw
          have HBv2_6 : Hid ((w6).heap[qv2]? = some (.cells #[.int .i64 st, .slice a2 k cap2, .string d] 26)) := blk_below HBv2_5.out bw
          have HOQ1_6 : Hid ((w6).ownsRow w.heap.size 75 2 (.slice oQ1 n pQ1) n (flatF fs)) := owns_wide ownQ1 hb5.size
          have LOQ1 : Hid (∀ g, (Value.ownBlock (.slice oQ1 n pQ1)) = some g → (w5).heap.size ≤ g) := fun g hg => owns_ge ownQ1 hg
          have HIQ1 : Hid (∀ g, (Value.ownBlock (.slice oQ1 n pQ1)) = some g → g < (w6).heap.size) := fun g hg => owns_lt ownQ1 hg
          clear ownQ1
          clear hb5 HBv1_5 HBv2_5
          have HX_6 : Hid (Below w4.heap.size w4 w6) := HX_5.out.trans (bw.mono HX_5.out.size)
          refine hK.out _ _ (HSS.out _ HX_6.out) (fun _ => ?_)
          clear hK K bw HX_5
          refine wpAnyH_ready (rs := [3, 9]) (by kernel_rfl) (by simp) ?_
          refine AllReadyH.cons rfl (fun K hK => ?_) (AllReadyH.cons rfl (fun K hK => ?_) AllReadyH.nil)
          · go_simp
            refine (toResp_any st a2 k cap2 d gs w.heap.size _ (HA2.out _ hb6) hb6.size hm2).mono ?_
            rintro e w7 ⟨vv, rfl, ownR2, bw⟩
            obtain ⟨oR2, pR2, rfl⟩ := slice_of_owns ownR2
            have hb7 : Below w.heap.size w (w7) := hb6.trans (bw.mono hb6.size)
            have HM7 : Hid ((w6).heap.size ≤ (w7).heap.size) := bw.size
            have HOQ1_7 : Hid ((w7).ownsRow w.heap.size 75 2 (.slice oQ1 n pQ1) n (flatF fs)) := owns_below HOQ1_6.out bw (fun g hg => owns_lt HOQ1_6.out hg)
            have HBv1_7 : Hid ((w7).heap[qv1]? = some (.cells #[.int .i64 m, .string p, .slice a n cap, .string b] 24)) := blk_below HBv1_6.out bw
            have HBv2_7 : Hid ((w7).heap[qv2]? = some (.cells #[.int .i64 st, .slice a2 k cap2, .string d] 26)) := blk_below HBv2_6.out bw
            have HOR2_7 : Hid ((w7).ownsRow w.heap.size 75 2 (.slice oR2 k pR2) k (flatF gs)) := owns_wide ownR2 hb6.size
            have LOR2 : Hid (∀ g, (Value.ownBlock (.slice oR2 k pR2)) = some g → (w6).heap.size ≤ g) := fun g hg => owns_ge ownR2 hg
            have HIR2 : Hid (∀ g, (Value.ownBlock (.slice oR2 k pR2)) = some g → g < (w7).heap.size) := fun g hg => owns_lt ownR2 hg
            clear ownR2
            clear hb6 HOQ1_6 HBv1_6 HBv2_6
            have HX_7 : Hid (Below w4.heap.size w4 w7) := HX_6.out.trans (bw.mono HX_6.out.size)
            refine hK.out _ _ (HSS.out _ HX_7.out) (fun _ => ?_)
            clear hK K bw HX_6
            refine wpAnyH_ready (rs := [5, 9]) (by kernel_rfl) (by simp) ?_
            refine AllReadyH.cons rfl (fun K hK => ?_) (AllReadyH.cons rfl (fun K hK => ?_) AllReadyH.nil)
            · go_simp
              refine (HSP.out _ _ _ _ _ HOQ1_7.out HOR2_7.out).mono ?_
              rintro e w8 ⟨vv1, vv2, vv3, rfl, ⟨ownX3, ownY3, ownG3, ne3⟩, bw⟩
              obtain ⟨oX3, pX3, rfl⟩ := slice_of_owns ownX3
              obtain ⟨oY3, pY3, rfl⟩ := slice_of_owns ownY3
              obtain ⟨oG3, pG3, rfl⟩ := slice_of_owns ownG3
              have AP3 : Hid (∀ j, (Value.slice oX3 vl.length pX3).ownBlock = some j → (Value.slice oY3 yl.length pY3).ownBlock ≠ some j) := ne3
              clear ne3
              have hb8 : Below w.heap.size w (w8) := hb7.trans (bw.mono hb7.size)
              have HM8 : Hid ((w7).heap.size ≤ (w8).heap.size) := bw.size
              have HOQ1_8 : Hid ((w8).ownsRow w.heap.size 75 2 (.slice oQ1 n pQ1) n (flatF fs)) := owns_below HOQ1_7.out bw (fun g hg => owns_lt HOQ1_7.out hg)
              have HOR2_8 : Hid ((w8).ownsRow w.heap.size 75 2 (.slice oR2 k pR2) k (flatF gs)) := owns_below HOR2_7.out bw (fun g hg => owns_lt HOR2_7.out hg)
              have HBv1_8 : Hid ((w8).heap[qv1]? = some (.cells #[.int .i64 m, .string p, .slice a n cap, .string b] 24)) := blk_below HBv1_7.out bw
              have HBv2_8 : Hid ((w8).heap[qv2]? = some (.cells #[.int .i64 st, .slice a2 k cap2, .string d] 26)) := blk_below HBv2_7.out bw
              have HOX3_8 : Hid ((w8).ownsRow w.heap.size 9 1 (.slice oX3 vl.length pX3) vl.length (vl.map Value.string)) := owns_wide ownX3 hb7.size
              have LOX3 : Hid (∀ g, (Value.ownBlock (.slice oX3 vl.length pX3)) = some g → (w7).heap.size ≤ g) := fun g hg => owns_ge ownX3 hg
              have HIX3 : Hid (∀ g, (Value.ownBlock (.slice oX3 vl.length pX3)) = some g → g < (w8).heap.size) := fun g hg => owns_lt ownX3 hg
              clear ownX3
              have HOY3_8 : Hid ((w8).ownsRow w.heap.size 9 1 (.slice oY3 yl.length pY3) yl.length (yl.map Value.string)) := owns_wide ownY3 hb7.size
              have LOY3 : Hid (∀ g, (Value.ownBlock (.slice oY3 yl.length pY3)) = some g → (w7).heap.size ≤ g) := fun g hg => owns_ge ownY3 hg
              have HIY3 : Hid (∀ g, (Value.ownBlock (.slice oY3 yl.length pY3)) = some g → g < (w8).heap.size) := fun g hg => owns_lt ownY3 hg
              clear ownY3
              have HOG3_8 : Hid ((w8).ownsRow w.heap.size 75 2 (.slice oG3 k pG3) k (flatF gs)) := owns_wide ownG3 hb7.size
              have LOG3 : Hid (∀ g, (Value.ownBlock (.slice oG3 k pG3)) = some g → (w7).heap.size ≤ g) := fun g hg => owns_ge ownG3 hg
              have HIG3 : Hid (∀ g, (Value.ownBlock (.slice oG3 k pG3)) = some g → g < (w8).heap.size) := fun g hg => owns_lt ownG3 hg
              clear ownG3
              clear hb7 HOQ1_7 HOR2_7 HBv1_7 HBv2_7
              have HX_8 : Hid (Below w4.heap.size w4 w8) := HX_7.out.trans (bw.mono HX_7.out.size)
              have HRXX3_8 : Hid ((w8).ownsRow w4.heap.size 9 1 (.slice oX3 vl.length pX3) vl.length (vl.map Value.string)) := owns_lift HOX3_8.out (fun g hg => Nat.le_trans HX_7.out.size (LOX3.out g hg))
              have HRXY3_8 : Hid ((w8).ownsRow w4.heap.size 9 1 (.slice oY3 yl.length pY3) yl.length (yl.map Value.string)) := owns_lift HOY3_8.out (fun g hg => Nat.le_trans HX_7.out.size (LOY3.out g hg))
              have HRXG3_8 : Hid ((w8).ownsRow w4.heap.size 75 2 (.slice oG3 k pG3) k (flatF gs)) := owns_lift HOG3_8.out (fun g hg => Nat.le_trans HX_7.out.size (LOG3.out g hg))
              refine hK.out _ _ (HSS.out _ HX_8.out) (fun _ => ?_)
              clear hK K bw HX_7
              refine wpAnyH_takeD (i := 6) (v := .tuple #[.agg #[.string p, .slice oX3 vl.length pX3, .slice oY3 yl.length pY3, .int .i64 st, .slice oG3 k pG3, .string d, .int .i64 t], .bool true]) (some 29) rfl rfl (by kernel_rfl) (by kernel_rfl) (by kernel_rfl) (fun _ _ _ h => h) (Or.inl ⟨by rfl, by intro W _; go_simp⟩) (HSS.out _ HX_8.out) ?_
              simp only [Act.put, List.setIfInBounds_toArray, List.set_cons_zero, List.set_cons_succ]
              refine wpAnyH_takeD (i := 7) (v := .agg #[.string p, .slice oX3 vl.length pX3, .slice oY3 yl.length pY3, .int .i64 st, .slice oG3 k pG3, .string d, .int .i64 t]) (some 36) rfl rfl (by kernel_rfl) (by kernel_rfl) (by kernel_rfl) (fun _ _ _ h => h) (Or.inl ⟨by rfl, by intro W _; go_simp⟩) (HSS.out _ HX_8.out) ?_
              simp only [Act.put, List.setIfInBounds_toArray, List.set_cons_zero, List.set_cons_succ]
              refine wpAnyH_takeD (i := 8) (v := .bool true) (some 37) rfl rfl (by kernel_rfl) (by kernel_rfl) (by kernel_rfl) (fun _ _ _ h => h) (Or.inl ⟨by rfl, by intro W _; go_simp⟩) (HSS.out _ HX_8.out) ?_
              simp only [Act.put, List.setIfInBounds_toArray, List.set_cons_zero, List.set_cons_succ]
              refine wpAnyH_ready (rs := [9]) (by kernel_rfl) (by simp) ?_
              refine AllReadyH.cons rfl (fun K hK => ?_) AllReadyH.nil
              go_simp
              have HXA : Hid (Below w4.heap.size w4 (w8.alloc (.cells #[.string ⟨#[]⟩, .slice none 0 0, .slice none 0 0, .int .i64 0, .slice none 0 0, .string ⟨#[]⟩, .int .i64 0] 34))) := HX_8.out.alloc HX_8.out.size _
              refine hK.out _ _ (HSS.out _ HXA.out) (fun _ => ?_)
              clear hK K HXA
              obtain ⟨pa, ho⟩ : ∃ o, o = w8.heap.size := ⟨_, rfl⟩
              obtain ⟨w9, hXj⟩ : ∃ X, X = w8.alloc (.cells #[.string ⟨#[]⟩, .slice none 0 0, .slice none 0 0, .int .i64 0, .slice none 0 0, .string ⟨#[]⟩, .int .i64 0] 34) := ⟨_, rfl⟩
              rw [← ho, ← hXj]
              have HGA : Hid (w4.heap.size ≤ pa) := by show _ ≤ _; rw [ho]; exact HX_8.out.size
              have bw : Below w8.heap.size w8 w9 := by rw [hXj]; exact (Below.refl _ _).alloc (Nat.le_refl _) _
              have hb9 : Below w.heap.size w (w9) := hb8.trans (bw.mono hb8.size)
              have HM9 : Hid ((w8).heap.size ≤ (w9).heap.size) := bw.size
              have HOQ1_9 : Hid ((w9).ownsRow w.heap.size 75 2 (.slice oQ1 n pQ1) n (flatF fs)) := owns_below HOQ1_8.out bw (fun g hg => owns_lt HOQ1_8.out hg)
              have HOR2_9 : Hid ((w9).ownsRow w.heap.size 75 2 (.slice oR2 k pR2) k (flatF gs)) := owns_below HOR2_8.out bw (fun g hg => owns_lt HOR2_8.out hg)
              have HOX3_9 : Hid ((w9).ownsRow w.heap.size 9 1 (.slice oX3 vl.length pX3) vl.length (vl.map Value.string)) := owns_below HOX3_8.out bw (fun g hg => owns_lt HOX3_8.out hg)
              have HOY3_9 : Hid ((w9).ownsRow w.heap.size 9 1 (.slice oY3 yl.length pY3) yl.length (yl.map Value.string)) := owns_below HOY3_8.out bw (fun g hg => owns_lt HOY3_8.out hg)
              have HOG3_9 : Hid ((w9).ownsRow w.heap.size 75 2 (.slice oG3 k pG3) k (flatF gs)) := owns_below HOG3_8.out bw (fun g hg => owns_lt HOG3_8.out hg)
              have HBv1_9 : Hid ((w9).heap[qv1]? = some (.cells #[.int .i64 m, .string p, .slice a n cap, .string b] 24)) := blk_below HBv1_8.out bw
              have HBv2_9 : Hid ((w9).heap[qv2]? = some (.cells #[.int .i64 st, .slice a2 k cap2, .string d] 26)) := blk_below HBv2_8.out bw
              have HX_9 : Hid (Below w4.heap.size w4 w9) := HX_8.out.trans (bw.mono HX_8.out.size)
              have HRXX3_9 : Hid ((w9).ownsRow w4.heap.size 9 1 (.slice oX3 vl.length pX3) vl.length (vl.map Value.string)) := owns_below HRXX3_8.out bw (fun g hg => owns_lt HRXX3_8.out hg)
              have HRXY3_9 : Hid ((w9).ownsRow w4.heap.size 9 1 (.slice oY3 yl.length pY3) yl.length (yl.map Value.string)) := owns_below HRXY3_8.out bw (fun g hg => owns_lt HRXY3_8.out hg)
              have HRXG3_9 : Hid ((w9).ownsRow w4.heap.size 75 2 (.slice oG3 k pG3) k (flatF gs)) := owns_below HRXG3_8.out bw (fun g hg => owns_lt HRXG3_8.out hg)
              have HPA_9 : Hid (w9.heap[pa]? = some (.cells #[.string ⟨#[]⟩, .slice none 0 0, .slice none 0 0, .int .i64 0, .slice none 0 0, .string ⟨#[]⟩, .int .i64 0] 34)) := by show _ = _; rw [hXj, ho]; exact heap_alloc_new _ _
              clear hb8 HOQ1_8 HOR2_8 HOX3_8 HOY3_8 HOG3_8 HBv1_8 HBv2_8 bw ho hXj HX_8
              refine wpAnyH_ready (rs := [10]) (by kernel_rfl) (by simp) ?_
              refine AllReadyH.cons rfl (fun K hK => ?_) AllReadyH.nil
              have ce0 : w9.cell? ⟨pa, 0, none⟩ = some (.string ⟨#[]⟩) := (cell_of HPA_9.out 0).trans rfl
              have fe0 : w9.frozen? ⟨pa, 0, none⟩ = false := frozen_of HPA_9.out 0
              have ce1 : w9.cell? ⟨pa, 1, none⟩ = some (.slice none 0 0) := (cell_of HPA_9.out 1).trans rfl
              have fe1 : w9.frozen? ⟨pa, 1, none⟩ = false := frozen_of HPA_9.out 1
              have ce2 : w9.cell? ⟨pa, 2, none⟩ = some (.slice none 0 0) := (cell_of HPA_9.out 2).trans rfl
              have fe2 : w9.frozen? ⟨pa, 2, none⟩ = false := frozen_of HPA_9.out 2
              have ce3 : w9.cell? ⟨pa, 3, none⟩ = some (.int .i64 0) := (cell_of HPA_9.out 3).trans rfl
              have fe3 : w9.frozen? ⟨pa, 3, none⟩ = false := frozen_of HPA_9.out 3
              have ce4 : w9.cell? ⟨pa, 4, none⟩ = some (.slice none 0 0) := (cell_of HPA_9.out 4).trans rfl
              have fe4 : w9.frozen? ⟨pa, 4, none⟩ = false := frozen_of HPA_9.out 4
              have ce5 : w9.cell? ⟨pa, 5, none⟩ = some (.string ⟨#[]⟩) := (cell_of HPA_9.out 5).trans rfl
              have fe5 : w9.frozen? ⟨pa, 5, none⟩ = false := frozen_of HPA_9.out 5
              have ce6 : w9.cell? ⟨pa, 6, none⟩ = some (.int .i64 0) := (cell_of HPA_9.out 6).trans rfl
              have fe6 : w9.frozen? ⟨pa, 6, none⟩ = false := frozen_of HPA_9.out 6
              obtain ⟨w10, hY⟩ : ∃ Y, Y = (((((((w9.setCell ⟨pa, 0, none⟩ (.string p)).setCell ⟨pa, 1, none⟩ (.slice oX3 vl.length pX3)).setCell ⟨pa, 2, none⟩ (.slice oY3 yl.length pY3)).setCell ⟨pa, 3, none⟩ (.int .i64 st)).setCell ⟨pa, 4, none⟩ (.slice oG3 k pG3)).setCell ⟨pa, 5, none⟩ (.string d)).setCell ⟨pa, 6, none⟩ (.int .i64 t)) := ⟨_, rfl⟩
              have HY : Hid ((((((((w9.setCell ⟨pa, 0, none⟩ (.string p)).setCell ⟨pa, 1, none⟩ (.slice oX3 vl.length pX3)).setCell ⟨pa, 2, none⟩ (.slice oY3 yl.length pY3)).setCell ⟨pa, 3, none⟩ (.int .i64 st)).setCell ⟨pa, 4, none⟩ (.slice oG3 k pG3)).setCell ⟨pa, 5, none⟩ (.string d)).setCell ⟨pa, 6, none⟩ (.int .i64 t)) = w10) := hY.symm
              have HX_10 : Hid (Below w4.heap.size w4 w10) := by show Below _ _ _; rw [hY]; exact (((((((HX_9.out.setCell (p := ⟨pa, 0, none⟩) HGA.out _).setCell (p := ⟨pa, 1, none⟩) HGA.out _).setCell (p := ⟨pa, 2, none⟩) HGA.out _).setCell (p := ⟨pa, 3, none⟩) HGA.out _).setCell (p := ⟨pa, 4, none⟩) HGA.out _).setCell (p := ⟨pa, 5, none⟩) HGA.out _).setCell (p := ⟨pa, 6, none⟩) HGA.out _)
              have HPA_10 : Hid (w10.heap[pa]? = some (.cells #[.string p, .slice oX3 vl.length pX3, .slice oY3 yl.length pY3, .int .i64 st, .slice oG3 k pG3, .string d, .int .i64 t] 34)) := by show _ = _; rw [hY]; have h := (heap_set _ pa 6 _ _ _ (.int .i64 t) (heap_set _ pa 5 _ _ _ (.string d) (heap_set _ pa 4 _ _ _ (.slice oG3 k pG3) (heap_set _ pa 3 _ _ _ (.int .i64 st) (heap_set _ pa 2 _ _ _ (.slice oY3 yl.length pY3) (heap_set _ pa 1 _ _ _ (.slice oX3 vl.length pX3) (heap_set _ pa 0 _ _ _ (.string p) HPA_9.out))))))); simpa using h
              have HRXX3_10 : Hid ((w10).ownsRow w4.heap.size 9 1 (.slice oX3 vl.length pX3) vl.length (vl.map Value.string)) := by show World.ownsRow _ _ _ _ _ _ _; rw [hY]; exact owns_same HRXX3_9.out (fun g hg => by have hne := own_ne HRXX3_9.out HPA_9.out (by decide) g hg; rw [heap_setCell_other _ _ g _ hne, heap_setCell_other _ _ g _ hne, heap_setCell_other _ _ g _ hne, heap_setCell_other _ _ g _ hne, heap_setCell_other _ _ g _ hne, heap_setCell_other _ _ g _ hne, heap_setCell_other _ _ g _ hne])
              have HRXY3_10 : Hid ((w10).ownsRow w4.heap.size 9 1 (.slice oY3 yl.length pY3) yl.length (yl.map Value.string)) := by show World.ownsRow _ _ _ _ _ _ _; rw [hY]; exact owns_same HRXY3_9.out (fun g hg => by have hne := own_ne HRXY3_9.out HPA_9.out (by decide) g hg; rw [heap_setCell_other _ _ g _ hne, heap_setCell_other _ _ g _ hne, heap_setCell_other _ _ g _ hne, heap_setCell_other _ _ g _ hne, heap_setCell_other _ _ g _ hne, heap_setCell_other _ _ g _ hne, heap_setCell_other _ _ g _ hne])
              have HRXG3_10 : Hid ((w10).ownsRow w4.heap.size 75 2 (.slice oG3 k pG3) k (flatF gs)) := by show World.ownsRow _ _ _ _ _ _ _; rw [hY]; exact owns_same HRXG3_9.out (fun g hg => by have hne := own_ne HRXG3_9.out HPA_9.out (by decide) g hg; rw [heap_setCell_other _ _ g _ hne, heap_setCell_other _ _ g _ hne, heap_setCell_other _ _ g _ hne, heap_setCell_other _ _ g _ hne, heap_setCell_other _ _ g _ hne, heap_setCell_other _ _ g _ hne, heap_setCell_other _ _ g _ hne])
              have APXX3Y3 : Hid (∀ g, (Value.ownBlock (.slice oX3 vl.length pX3)) = some g → (Value.ownBlock (.slice oY3 yl.length pY3)) ≠ some g) := AP3.out
              clear hY hb9 HOQ1_9 HOR2_9 HOX3_9 HOY3_9 HOG3_9 HBv1_9 HBv2_9
              go_simp
              rw [HY.out]
              refine hK.out _ _ (HSS.out _ HX_10.out) (fun _ => ?_)
              clear hK K HY ce0 fe0 ce1 fe1 ce2 fe2 ce3 fe3 ce4 fe4 ce5 fe5 ce6 fe6
              refine wpAnyH_takeD (i := 11) (v := .bool true) (some 9) rfl rfl (by kernel_rfl) (by kernel_rfl) (by kernel_rfl) (fun _ _ _ h => h) (Or.inl ⟨by rfl, by intro W _; go_simp⟩) (HSS.out _ HX_10.out) ?_
              simp only [Act.put, List.setIfInBounds_toArray, List.set_cons_zero, List.set_cons_succ]
              refine wpAnyH_done (by kernel_rfl) ?_ _
              go_wp2_with fail
              go_meet
              exact ⟨pa, oX3, pX3, oY3, pY3, oG3, pG3, rfl, rfl, ⟨HX_10.out, HPA_10.out, HGA.out, HRXX3_10.out, HRXY3_10.out, HRXG3_10.out, APXX3Y3.out⟩⟩
            · go_simp
              have HXA : Hid (Below w4.heap.size w4 (w7.alloc (.cells #[.string ⟨#[]⟩, .slice none 0 0, .slice none 0 0, .int .i64 0, .slice none 0 0, .string ⟨#[]⟩, .int .i64 0] 34))) := HX_7.out.alloc HX_7.out.size _
              refine hK.out _ _ (HSS.out _ HXA.out) (fun _ => ?_)
              clear hK K HXA
              obtain ⟨pa, ho⟩ : ∃ o, o = w7.heap.size := ⟨_, rfl⟩
              obtain ⟨w8, hXj⟩ : ∃ X, X = w7.alloc (.cells #[.string ⟨#[]⟩, .slice none 0 0, .slice none 0 0, .int .i64 0, .slice none 0 0, .string ⟨#[]⟩, .int .i64 0] 34) := ⟨_, rfl⟩
              rw [← ho, ← hXj]
              have HGA : Hid (w4.heap.size ≤ pa) := by show _ ≤ _; rw [ho]; exact HX_7.out.size
              have bw : Below w7.heap.size w7 w8 := by rw [hXj]; exact (Below.refl _ _).alloc (Nat.le_refl _) _
              have hb8 : Below w.heap.size w (w8) := hb7.trans (bw.mono hb7.size)
              have HM8 : Hid ((w7).heap.size ≤ (w8).heap.size) := bw.size
              have HOQ1_8 : Hid ((w8).ownsRow w.heap.size 75 2 (.slice oQ1 n pQ1) n (flatF fs)) := owns_below HOQ1_7.out bw (fun g hg => owns_lt HOQ1_7.out hg)
              have HOR2_8 : Hid ((w8).ownsRow w.heap.size 75 2 (.slice oR2 k pR2) k (flatF gs)) := owns_below HOR2_7.out bw (fun g hg => owns_lt HOR2_7.out hg)
              have HBv1_8 : Hid ((w8).heap[qv1]? = some (.cells #[.int .i64 m, .string p, .slice a n cap, .string b] 24)) := blk_below HBv1_7.out bw
              have HBv2_8 : Hid ((w8).heap[qv2]? = some (.cells #[.int .i64 st, .slice a2 k cap2, .string d] 26)) := blk_below HBv2_7.out bw
              have HX_8 : Hid (Below w4.heap.size w4 w8) := HX_7.out.trans (bw.mono HX_7.out.size)
              have HPA_8 : Hid (w8.heap[pa]? = some (.cells #[.string ⟨#[]⟩, .slice none 0 0, .slice none 0 0, .int .i64 0, .slice none 0 0, .string ⟨#[]⟩, .int .i64 0] 34)) := by show _ = _; rw [hXj, ho]; exact heap_alloc_new _ _
              clear hb7 HOQ1_7 HOR2_7 HBv1_7 HBv2_7 bw ho hXj HX_7
              refine wpAnyH_ready (rs := [5]) (by kernel_rfl) (by simp) ?_
              refine AllReadyH.cons rfl (fun K hK => ?_) AllReadyH.nil
              go_simp
              refine (HSP.out _ _ _ _ _ HOQ1_8.out HOR2_8.out).mono ?_
              rintro e w9 ⟨vv1, vv2, vv3, rfl, ⟨ownX3, ownY3, ownG3, ne3⟩, bw⟩
              obtain ⟨oX3, pX3, rfl⟩ := slice_of_owns ownX3
              obtain ⟨oY3, pY3, rfl⟩ := slice_of_owns ownY3
              obtain ⟨oG3, pG3, rfl⟩ := slice_of_owns ownG3
              have AP3 : Hid (∀ j, (Value.slice oX3 vl.length pX3).ownBlock = some j → (Value.slice oY3 yl.length pY3).ownBlock ≠ some j) := ne3
              clear ne3
              have hb9 : Below w.heap.size w (w9) := hb8.trans (bw.mono hb8.size)
              have HM9 : Hid ((w8).heap.size ≤ (w9).heap.size) := bw.size
              have HOQ1_9 : Hid ((w9).ownsRow w.heap.size 75 2 (.slice oQ1 n pQ1) n (flatF fs)) := owns_below HOQ1_8.out bw (fun g hg => owns_lt HOQ1_8.out hg)
              have HOR2_9 : Hid ((w9).ownsRow w.heap.size 75 2 (.slice oR2 k pR2) k (flatF gs)) := owns_below HOR2_8.out bw (fun g hg => owns_lt HOR2_8.out hg)
              have HBv1_9 : Hid ((w9).heap[qv1]? = some (.cells #[.int .i64 m, .string p, .slice a n cap, .string b] 24)) := blk_below HBv1_8.out bw
              have HBv2_9 : Hid ((w9).heap[qv2]? = some (.cells #[.int .i64 st, .slice a2 k cap2, .string d] 26)) := blk_below HBv2_8.out bw
              have HOX3_9 : Hid ((w9).ownsRow w.heap.size 9 1 (.slice oX3 vl.length pX3) vl.length (vl.map Value.string)) := owns_wide ownX3 hb8.size
              have LOX3 : Hid (∀ g, (Value.ownBlock (.slice oX3 vl.length pX3)) = some g → (w8).heap.size ≤ g) := fun g hg => owns_ge ownX3 hg
              have HIX3 : Hid (∀ g, (Value.ownBlock (.slice oX3 vl.length pX3)) = some g → g < (w9).heap.size) := fun g hg => owns_lt ownX3 hg
              clear ownX3
              have HOY3_9 : Hid ((w9).ownsRow w.heap.size 9 1 (.slice oY3 yl.length pY3) yl.length (yl.map Value.string)) := owns_wide ownY3 hb8.size
              have LOY3 : Hid (∀ g, (Value.ownBlock (.slice oY3 yl.length pY3)) = some g → (w8).heap.size ≤ g) := fun g hg => owns_ge ownY3 hg
              have HIY3 : Hid (∀ g, (Value.ownBlock (.slice oY3 yl.length pY3)) = some g → g < (w9).heap.size) := fun g hg => owns_lt ownY3 hg
              clear ownY3
              have HOG3_9 : Hid ((w9).ownsRow w.heap.size 75 2 (.slice oG3 k pG3) k (flatF gs)) := owns_wide ownG3 hb8.size
              have LOG3 : Hid (∀ g, (Value.ownBlock (.slice oG3 k pG3)) = some g → (w8).heap.size ≤ g) := fun g hg => owns_ge ownG3 hg
              have HIG3 : Hid (∀ g, (Value.ownBlock (.slice oG3 k pG3)) = some g → g < (w9).heap.size) := fun g hg => owns_lt ownG3 hg
              clear ownG3
              clear hb8 HOQ1_8 HOR2_8 HBv1_8 HBv2_8
              have HX_9 : Hid (Below w4.heap.size w4 w9) := HX_8.out.trans (bw.mono HX_8.out.size)
              have HPA_9 : Hid (w9.heap[pa]? = some (.cells #[.string ⟨#[]⟩, .slice none 0 0, .slice none 0 0, .int .i64 0, .slice none 0 0, .string ⟨#[]⟩, .int .i64 0] 34)) := blk_below HPA_8.out bw
              have HRXX3_9 : Hid ((w9).ownsRow w4.heap.size 9 1 (.slice oX3 vl.length pX3) vl.length (vl.map Value.string)) := owns_lift HOX3_9.out (fun g hg => Nat.le_trans HX_8.out.size (LOX3.out g hg))
              have HRXY3_9 : Hid ((w9).ownsRow w4.heap.size 9 1 (.slice oY3 yl.length pY3) yl.length (yl.map Value.string)) := owns_lift HOY3_9.out (fun g hg => Nat.le_trans HX_8.out.size (LOY3.out g hg))
              have HRXG3_9 : Hid ((w9).ownsRow w4.heap.size 75 2 (.slice oG3 k pG3) k (flatF gs)) := owns_lift HOG3_9.out (fun g hg => Nat.le_trans HX_8.out.size (LOG3.out g hg))
              refine hK.out _ _ (HSS.out _ HX_9.out) (fun _ => ?_)
              clear hK K bw HX_8
              refine wpAnyH_takeD (i := 6) (v := .tuple #[.agg #[.string p, .slice oX3 vl.length pX3, .slice oY3 yl.length pY3, .int .i64 st, .slice oG3 k pG3, .string d, .int .i64 t], .bool true]) (some 29) rfl rfl (by kernel_rfl) (by kernel_rfl) (by kernel_rfl) (fun _ _ _ h => h) (Or.inl ⟨by rfl, by intro W _; go_simp⟩) (HSS.out _ HX_9.out) ?_
              simp only [Act.put, List.setIfInBounds_toArray, List.set_cons_zero, List.set_cons_succ]
              refine wpAnyH_takeD (i := 7) (v := .agg #[.string p, .slice oX3 vl.length pX3, .slice oY3 yl.length pY3, .int .i64 st, .slice oG3 k pG3, .string d, .int .i64 t]) (some 36) rfl rfl (by kernel_rfl) (by kernel_rfl) (by kernel_rfl) (fun _ _ _ h => h) (Or.inl ⟨by rfl, by intro W _; go_simp⟩) (HSS.out _ HX_9.out) ?_
              simp only [Act.put, List.setIfInBounds_toArray, List.set_cons_zero, List.set_cons_succ]
              refine wpAnyH_takeD (i := 8) (v := .bool true) (some 37) rfl rfl (by kernel_rfl) (by kernel_rfl) (by kernel_rfl) (fun _ _ _ h => h) (Or.inl ⟨by rfl, by intro W _; go_simp⟩) (HSS.out _ HX_9.out) ?_
              simp only [Act.put, List.setIfInBounds_toArray, List.set_cons_zero, List.set_cons_succ]
              refine wpAnyH_ready (rs := [10]) (by kernel_rfl) (by simp) ?_
              refine AllReadyH.cons rfl (fun K hK => ?_) AllReadyH.nil
              have ce0 : w9.cell? ⟨pa, 0, none⟩ = some (.string ⟨#[]⟩) := (cell_of HPA_9.out 0).trans rfl
              have fe0 : w9.frozen? ⟨pa, 0, none⟩ = false := frozen_of HPA_9.out 0
              have ce1 : w9.cell? ⟨pa, 1, none⟩ = some (.slice none 0 0) := (cell_of HPA_9.out 1).trans rfl
              have fe1 : w9.frozen? ⟨pa, 1, none⟩ = false := frozen_of HPA_9.out 1
              have ce2 : w9.cell? ⟨pa, 2, none⟩ = some (.slice none 0 0) := (cell_of HPA_9.out 2).trans rfl
              have fe2 : w9.frozen? ⟨pa, 2, none⟩ = false := frozen_of HPA_9.out 2
              have ce3 : w9.cell? ⟨pa, 3, none⟩ = some (.int .i64 0) := (cell_of HPA_9.out 3).trans rfl
              have fe3 : w9.frozen? ⟨pa, 3, none⟩ = false := frozen_of HPA_9.out 3
              have ce4 : w9.cell? ⟨pa, 4, none⟩ = some (.slice none 0 0) := (cell_of HPA_9.out 4).trans rfl
              have fe4 : w9.frozen? ⟨pa, 4, none⟩ = false := frozen_of HPA_9.out 4
              have ce5 : w9.cell? ⟨pa, 5, none⟩ = some (.string ⟨#[]⟩) := (cell_of HPA_9.out 5).trans rfl
              have fe5 : w9.frozen? ⟨pa, 5, none⟩ = false := frozen_of HPA_9.out 5
              have ce6 : w9.cell? ⟨pa, 6, none⟩ = some (.int .i64 0) := (cell_of HPA_9.out 6).trans rfl
              have fe6 : w9.frozen? ⟨pa, 6, none⟩ = false := frozen_of HPA_9.out 6
              obtain ⟨w10, hY⟩ : ∃ Y, Y = (((((((w9.setCell ⟨pa, 0, none⟩ (.string p)).setCell ⟨pa, 1, none⟩ (.slice oX3 vl.length pX3)).setCell ⟨pa, 2, none⟩ (.slice oY3 yl.length pY3)).setCell ⟨pa, 3, none⟩ (.int .i64 st)).setCell ⟨pa, 4, none⟩ (.slice oG3 k pG3)).setCell ⟨pa, 5, none⟩ (.string d)).setCell ⟨pa, 6, none⟩ (.int .i64 t)) := ⟨_, rfl⟩
              have HY : Hid ((((((((w9.setCell ⟨pa, 0, none⟩ (.string p)).setCell ⟨pa, 1, none⟩ (.slice oX3 vl.length pX3)).setCell ⟨pa, 2, none⟩ (.slice oY3 yl.length pY3)).setCell ⟨pa, 3, none⟩ (.int .i64 st)).setCell ⟨pa, 4, none⟩ (.slice oG3 k pG3)).setCell ⟨pa, 5, none⟩ (.string d)).setCell ⟨pa, 6, none⟩ (.int .i64 t)) = w10) := hY.symm
              have HX_10 : Hid (Below w4.heap.size w4 w10) := by show Below _ _ _; rw [hY]; exact (((((((HX_9.out.setCell (p := ⟨pa, 0, none⟩) HGA.out _).setCell (p := ⟨pa, 1, none⟩) HGA.out _).setCell (p := ⟨pa, 2, none⟩) HGA.out _).setCell (p := ⟨pa, 3, none⟩) HGA.out _).setCell (p := ⟨pa, 4, none⟩) HGA.out _).setCell (p := ⟨pa, 5, none⟩) HGA.out _).setCell (p := ⟨pa, 6, none⟩) HGA.out _)
              have HPA_10 : Hid (w10.heap[pa]? = some (.cells #[.string p, .slice oX3 vl.length pX3, .slice oY3 yl.length pY3, .int .i64 st, .slice oG3 k pG3, .string d, .int .i64 t] 34)) := by show _ = _; rw [hY]; have h := (heap_set _ pa 6 _ _ _ (.int .i64 t) (heap_set _ pa 5 _ _ _ (.string d) (heap_set _ pa 4 _ _ _ (.slice oG3 k pG3) (heap_set _ pa 3 _ _ _ (.int .i64 st) (heap_set _ pa 2 _ _ _ (.slice oY3 yl.length pY3) (heap_set _ pa 1 _ _ _ (.slice oX3 vl.length pX3) (heap_set _ pa 0 _ _ _ (.string p) HPA_9.out))))))); simpa using h
              have HRXX3_10 : Hid ((w10).ownsRow w4.heap.size 9 1 (.slice oX3 vl.length pX3) vl.length (vl.map Value.string)) := by show World.ownsRow _ _ _ _ _ _ _; rw [hY]; exact owns_same HRXX3_9.out (fun g hg => by have hne := own_ne HRXX3_9.out HPA_9.out (by decide) g hg; rw [heap_setCell_other _ _ g _ hne, heap_setCell_other _ _ g _ hne, heap_setCell_other _ _ g _ hne, heap_setCell_other _ _ g _ hne, heap_setCell_other _ _ g _ hne, heap_setCell_other _ _ g _ hne, heap_setCell_other _ _ g _ hne])
              have HRXY3_10 : Hid ((w10).ownsRow w4.heap.size 9 1 (.slice oY3 yl.length pY3) yl.length (yl.map Value.string)) := by show World.ownsRow _ _ _ _ _ _ _; rw [hY]; exact owns_same HRXY3_9.out (fun g hg => by have hne := own_ne HRXY3_9.out HPA_9.out (by decide) g hg; rw [heap_setCell_other _ _ g _ hne, heap_setCell_other _ _ g _ hne, heap_setCell_other _ _ g _ hne, heap_setCell_other _ _ g _ hne, heap_setCell_other _ _ g _ hne, heap_setCell_other _ _ g _ hne, heap_setCell_other _ _ g _ hne])
              have HRXG3_10 : Hid ((w10).ownsRow w4.heap.size 75 2 (.slice oG3 k pG3) k (flatF gs)) := by show World.ownsRow _ _ _ _ _ _ _; rw [hY]; exact owns_same HRXG3_9.out (fun g hg => by have hne := own_ne HRXG3_9.out HPA_9.out (by decide) g hg; rw [heap_setCell_other _ _ g _ hne, heap_setCell_other _ _ g _ hne, heap_setCell_other _ _ g _ hne, heap_setCell_other _ _ g _ hne, heap_setCell_other _ _ g _ hne, heap_setCell_other _ _ g _ hne, heap_setCell_other _ _ g _ hne])
              have APXX3Y3 : Hid (∀ g, (Value.ownBlock (.slice oX3 vl.length pX3)) = some g → (Value.ownBlock (.slice oY3 yl.length pY3)) ≠ some g) := AP3.out
              clear hY hb9 HOQ1_9 HOR2_9 HOX3_9 HOY3_9 HOG3_9 HBv1_9 HBv2_9
              go_simp
              rw [HY.out]
              refine hK.out _ _ (HSS.out _ HX_10.out) (fun _ => ?_)
              clear hK K HY ce0 fe0 ce1 fe1 ce2 fe2 ce3 fe3 ce4 fe4 ce5 fe5 ce6 fe6
              refine wpAnyH_takeD (i := 11) (v := .bool true) (some 9) rfl rfl (by kernel_rfl) (by kernel_rfl) (by kernel_rfl) (fun _ _ _ h => h) (Or.inl ⟨by rfl, by intro W _; go_simp⟩) (HSS.out _ HX_10.out) ?_
              simp only [Act.put, List.setIfInBounds_toArray, List.set_cons_zero, List.set_cons_succ]
              refine wpAnyH_done (by kernel_rfl) ?_ _
              go_wp2_with fail
              go_meet
              exact ⟨pa, oX3, pX3, oY3, pY3, oG3, pG3, rfl, rfl, ⟨HX_10.out, HPA_10.out, HGA.out, HRXX3_10.out, HRXY3_10.out, HRXG3_10.out, APXX3Y3.out⟩⟩
          · go_simp
            have HXA : Hid (Below w4.heap.size w4 (w6.alloc (.cells #[.string ⟨#[]⟩, .slice none 0 0, .slice none 0 0, .int .i64 0, .slice none 0 0, .string ⟨#[]⟩, .int .i64 0] 34))) := HX_6.out.alloc HX_6.out.size _
            refine hK.out _ _ (HSS.out _ HXA.out) (fun _ => ?_)
            clear hK K HXA
            obtain ⟨pa, ho⟩ : ∃ o, o = w6.heap.size := ⟨_, rfl⟩
            obtain ⟨w7, hXj⟩ : ∃ X, X = w6.alloc (.cells #[.string ⟨#[]⟩, .slice none 0 0, .slice none 0 0, .int .i64 0, .slice none 0 0, .string ⟨#[]⟩, .int .i64 0] 34) := ⟨_, rfl⟩
            rw [← ho, ← hXj]
            have HGA : Hid (w4.heap.size ≤ pa) := by show _ ≤ _; rw [ho]; exact HX_6.out.size
            have bw : Below w6.heap.size w6 w7 := by rw [hXj]; exact (Below.refl _ _).alloc (Nat.le_refl _) _
            have hb7 : Below w.heap.size w (w7) := hb6.trans (bw.mono hb6.size)
            have HM7 : Hid ((w6).heap.size ≤ (w7).heap.size) := bw.size
            have HOQ1_7 : Hid ((w7).ownsRow w.heap.size 75 2 (.slice oQ1 n pQ1) n (flatF fs)) := owns_below HOQ1_6.out bw (fun g hg => owns_lt HOQ1_6.out hg)
            have HBv1_7 : Hid ((w7).heap[qv1]? = some (.cells #[.int .i64 m, .string p, .slice a n cap, .string b] 24)) := blk_below HBv1_6.out bw
            have HBv2_7 : Hid ((w7).heap[qv2]? = some (.cells #[.int .i64 st, .slice a2 k cap2, .string d] 26)) := blk_below HBv2_6.out bw
            have HX_7 : Hid (Below w4.heap.size w4 w7) := HX_6.out.trans (bw.mono HX_6.out.size)
            have HPA_7 : Hid (w7.heap[pa]? = some (.cells #[.string ⟨#[]⟩, .slice none 0 0, .slice none 0 0, .int .i64 0, .slice none 0 0, .string ⟨#[]⟩, .int .i64 0] 34)) := by show _ = _; rw [hXj, ho]; exact heap_alloc_new _ _
            clear hb6 HOQ1_6 HBv1_6 HBv2_6 bw ho hXj HX_6
            refine wpAnyH_ready (rs := [3]) (by kernel_rfl) (by simp) ?_
            refine AllReadyH.cons rfl (fun K hK => ?_) AllReadyH.nil
            go_simp
            refine (toResp_any st a2 k cap2 d gs w.heap.size _ (HA2.out _ hb7) hb7.size hm2).mono ?_
            rintro e w8 ⟨vv, rfl, ownR2, bw⟩
            obtain ⟨oR2, pR2, rfl⟩ := slice_of_owns ownR2
            have hb8 : Below w.heap.size w (w8) := hb7.trans (bw.mono hb7.size)
            have HM8 : Hid ((w7).heap.size ≤ (w8).heap.size) := bw.size
            have HOQ1_8 : Hid ((w8).ownsRow w.heap.size 75 2 (.slice oQ1 n pQ1) n (flatF fs)) := owns_below HOQ1_7.out bw (fun g hg => owns_lt HOQ1_7.out hg)
            have HBv1_8 : Hid ((w8).heap[qv1]? = some (.cells #[.int .i64 m, .string p, .slice a n cap, .string b] 24)) := blk_below HBv1_7.out bw
            have HBv2_8 : Hid ((w8).heap[qv2]? = some (.cells #[.int .i64 st, .slice a2 k cap2, .string d] 26)) := blk_below HBv2_7.out bw
            have HOR2_8 : Hid ((w8).ownsRow w.heap.size 75 2 (.slice oR2 k pR2) k (flatF gs)) := owns_wide ownR2 hb7.size
            have LOR2 : Hid (∀ g, (Value.ownBlock (.slice oR2 k pR2)) = some g → (w7).heap.size ≤ g) := fun g hg => owns_ge ownR2 hg
            have HIR2 : Hid (∀ g, (Value.ownBlock (.slice oR2 k pR2)) = some g → g < (w8).heap.size) := fun g hg => owns_lt ownR2 hg
            clear ownR2
            clear hb7 HOQ1_7 HBv1_7 HBv2_7
            have HX_8 : Hid (Below w4.heap.size w4 w8) := HX_7.out.trans (bw.mono HX_7.out.size)
            have HPA_8 : Hid (w8.heap[pa]? = some (.cells #[.string ⟨#[]⟩, .slice none 0 0, .slice none 0 0, .int .i64 0, .slice none 0 0, .string ⟨#[]⟩, .int .i64 0] 34)) := blk_below HPA_7.out bw
            refine hK.out _ _ (HSS.out _ HX_8.out) (fun _ => ?_)
            clear hK K bw HX_7
            refine wpAnyH_ready (rs := [5]) (by kernel_rfl) (by simp) ?_
            refine AllReadyH.cons rfl (fun K hK => ?_) AllReadyH.nil
            go_simp
            refine (HSP.out _ _ _ _ _ HOQ1_8.out HOR2_8.out).mono ?_
            rintro e w9 ⟨vv1, vv2, vv3, rfl, ⟨ownX3, ownY3, ownG3, ne3⟩, bw⟩
            obtain ⟨oX3, pX3, rfl⟩ := slice_of_owns ownX3
            obtain ⟨oY3, pY3, rfl⟩ := slice_of_owns ownY3
            obtain ⟨oG3, pG3, rfl⟩ := slice_of_owns ownG3
            have AP3 : Hid (∀ j, (Value.slice oX3 vl.length pX3).ownBlock = some j → (Value.slice oY3 yl.length pY3).ownBlock ≠ some j) := ne3
            clear ne3
            have hb9 : Below w.heap.size w (w9) := hb8.trans (bw.mono hb8.size)
            have HM9 : Hid ((w8).heap.size ≤ (w9).heap.size) := bw.size
            have HOQ1_9 : Hid ((w9).ownsRow w.heap.size 75 2 (.slice oQ1 n pQ1) n (flatF fs)) := owns_below HOQ1_8.out bw (fun g hg => owns_lt HOQ1_8.out hg)
            have HOR2_9 : Hid ((w9).ownsRow w.heap.size 75 2 (.slice oR2 k pR2) k (flatF gs)) := owns_below HOR2_8.out bw (fun g hg => owns_lt HOR2_8.out hg)
            have HBv1_9 : Hid ((w9).heap[qv1]? = some (.cells #[.int .i64 m, .string p, .slice a n cap, .string b] 24)) := blk_below HBv1_8.out bw
            have HBv2_9 : Hid ((w9).heap[qv2]? = some (.cells #[.int .i64 st, .slice a2 k cap2, .string d] 26)) := blk_below HBv2_8.out bw
            have HOX3_9 : Hid ((w9).ownsRow w.heap.size 9 1 (.slice oX3 vl.length pX3) vl.length (vl.map Value.string)) := owns_wide ownX3 hb8.size
            have LOX3 : Hid (∀ g, (Value.ownBlock (.slice oX3 vl.length pX3)) = some g → (w8).heap.size ≤ g) := fun g hg => owns_ge ownX3 hg
            have HIX3 : Hid (∀ g, (Value.ownBlock (.slice oX3 vl.length pX3)) = some g → g < (w9).heap.size) := fun g hg => owns_lt ownX3 hg
            clear ownX3
            have HOY3_9 : Hid ((w9).ownsRow w.heap.size 9 1 (.slice oY3 yl.length pY3) yl.length (yl.map Value.string)) := owns_wide ownY3 hb8.size
            have LOY3 : Hid (∀ g, (Value.ownBlock (.slice oY3 yl.length pY3)) = some g → (w8).heap.size ≤ g) := fun g hg => owns_ge ownY3 hg
            have HIY3 : Hid (∀ g, (Value.ownBlock (.slice oY3 yl.length pY3)) = some g → g < (w9).heap.size) := fun g hg => owns_lt ownY3 hg
            clear ownY3
            have HOG3_9 : Hid ((w9).ownsRow w.heap.size 75 2 (.slice oG3 k pG3) k (flatF gs)) := owns_wide ownG3 hb8.size
            have LOG3 : Hid (∀ g, (Value.ownBlock (.slice oG3 k pG3)) = some g → (w8).heap.size ≤ g) := fun g hg => owns_ge ownG3 hg
            have HIG3 : Hid (∀ g, (Value.ownBlock (.slice oG3 k pG3)) = some g → g < (w9).heap.size) := fun g hg => owns_lt ownG3 hg
            clear ownG3
            clear hb8 HOQ1_8 HOR2_8 HBv1_8 HBv2_8
            have HX_9 : Hid (Below w4.heap.size w4 w9) := HX_8.out.trans (bw.mono HX_8.out.size)
            have HPA_9 : Hid (w9.heap[pa]? = some (.cells #[.string ⟨#[]⟩, .slice none 0 0, .slice none 0 0, .int .i64 0, .slice none 0 0, .string ⟨#[]⟩, .int .i64 0] 34)) := blk_below HPA_8.out bw
            have HRXX3_9 : Hid ((w9).ownsRow w4.heap.size 9 1 (.slice oX3 vl.length pX3) vl.length (vl.map Value.string)) := owns_lift HOX3_9.out (fun g hg => Nat.le_trans HX_8.out.size (LOX3.out g hg))
            have HRXY3_9 : Hid ((w9).ownsRow w4.heap.size 9 1 (.slice oY3 yl.length pY3) yl.length (yl.map Value.string)) := owns_lift HOY3_9.out (fun g hg => Nat.le_trans HX_8.out.size (LOY3.out g hg))
            have HRXG3_9 : Hid ((w9).ownsRow w4.heap.size 75 2 (.slice oG3 k pG3) k (flatF gs)) := owns_lift HOG3_9.out (fun g hg => Nat.le_trans HX_8.out.size (LOG3.out g hg))
            refine hK.out _ _ (HSS.out _ HX_9.out) (fun _ => ?_)
            clear hK K bw HX_8
            refine wpAnyH_takeD (i := 6) (v := .tuple #[.agg #[.string p, .slice oX3 vl.length pX3, .slice oY3 yl.length pY3, .int .i64 st, .slice oG3 k pG3, .string d, .int .i64 t], .bool true]) (some 29) rfl rfl (by kernel_rfl) (by kernel_rfl) (by kernel_rfl) (fun _ _ _ h => h) (Or.inl ⟨by rfl, by intro W _; go_simp⟩) (HSS.out _ HX_9.out) ?_
            simp only [Act.put, List.setIfInBounds_toArray, List.set_cons_zero, List.set_cons_succ]
            refine wpAnyH_takeD (i := 7) (v := .agg #[.string p, .slice oX3 vl.length pX3, .slice oY3 yl.length pY3, .int .i64 st, .slice oG3 k pG3, .string d, .int .i64 t]) (some 36) rfl rfl (by kernel_rfl) (by kernel_rfl) (by kernel_rfl) (fun _ _ _ h => h) (Or.inl ⟨by rfl, by intro W _; go_simp⟩) (HSS.out _ HX_9.out) ?_
            simp only [Act.put, List.setIfInBounds_toArray, List.set_cons_zero, List.set_cons_succ]
            refine wpAnyH_takeD (i := 8) (v := .bool true) (some 37) rfl rfl (by kernel_rfl) (by kernel_rfl) (by kernel_rfl) (fun _ _ _ h => h) (Or.inl ⟨by rfl, by intro W _; go_simp⟩) (HSS.out _ HX_9.out) ?_
            simp only [Act.put, List.setIfInBounds_toArray, List.set_cons_zero, List.set_cons_succ]
            refine wpAnyH_ready (rs := [10]) (by kernel_rfl) (by simp) ?_
            refine AllReadyH.cons rfl (fun K hK => ?_) AllReadyH.nil
            have ce0 : w9.cell? ⟨pa, 0, none⟩ = some (.string ⟨#[]⟩) := (cell_of HPA_9.out 0).trans rfl
            have fe0 : w9.frozen? ⟨pa, 0, none⟩ = false := frozen_of HPA_9.out 0
            have ce1 : w9.cell? ⟨pa, 1, none⟩ = some (.slice none 0 0) := (cell_of HPA_9.out 1).trans rfl
            have fe1 : w9.frozen? ⟨pa, 1, none⟩ = false := frozen_of HPA_9.out 1
            have ce2 : w9.cell? ⟨pa, 2, none⟩ = some (.slice none 0 0) := (cell_of HPA_9.out 2).trans rfl
            have fe2 : w9.frozen? ⟨pa, 2, none⟩ = false := frozen_of HPA_9.out 2
            have ce3 : w9.cell? ⟨pa, 3, none⟩ = some (.int .i64 0) := (cell_of HPA_9.out 3).trans rfl
            have fe3 : w9.frozen? ⟨pa, 3, none⟩ = false := frozen_of HPA_9.out 3
            have ce4 : w9.cell? ⟨pa, 4, none⟩ = some (.slice none 0 0) := (cell_of HPA_9.out 4).trans rfl
            have fe4 : w9.frozen? ⟨pa, 4, none⟩ = false := frozen_of HPA_9.out 4
            have ce5 : w9.cell? ⟨pa, 5, none⟩ = some (.string ⟨#[]⟩) := (cell_of HPA_9.out 5).trans rfl
            have fe5 : w9.frozen? ⟨pa, 5, none⟩ = false := frozen_of HPA_9.out 5
            have ce6 : w9.cell? ⟨pa, 6, none⟩ = some (.int .i64 0) := (cell_of HPA_9.out 6).trans rfl
            have fe6 : w9.frozen? ⟨pa, 6, none⟩ = false := frozen_of HPA_9.out 6
            obtain ⟨w10, hY⟩ : ∃ Y, Y = (((((((w9.setCell ⟨pa, 0, none⟩ (.string p)).setCell ⟨pa, 1, none⟩ (.slice oX3 vl.length pX3)).setCell ⟨pa, 2, none⟩ (.slice oY3 yl.length pY3)).setCell ⟨pa, 3, none⟩ (.int .i64 st)).setCell ⟨pa, 4, none⟩ (.slice oG3 k pG3)).setCell ⟨pa, 5, none⟩ (.string d)).setCell ⟨pa, 6, none⟩ (.int .i64 t)) := ⟨_, rfl⟩
            have HY : Hid ((((((((w9.setCell ⟨pa, 0, none⟩ (.string p)).setCell ⟨pa, 1, none⟩ (.slice oX3 vl.length pX3)).setCell ⟨pa, 2, none⟩ (.slice oY3 yl.length pY3)).setCell ⟨pa, 3, none⟩ (.int .i64 st)).setCell ⟨pa, 4, none⟩ (.slice oG3 k pG3)).setCell ⟨pa, 5, none⟩ (.string d)).setCell ⟨pa, 6, none⟩ (.int .i64 t)) = w10) := hY.symm
            have HX_10 : Hid (Below w4.heap.size w4 w10) := by show Below _ _ _; rw [hY]; exact (((((((HX_9.out.setCell (p := ⟨pa, 0, none⟩) HGA.out _).setCell (p := ⟨pa, 1, none⟩) HGA.out _).setCell (p := ⟨pa, 2, none⟩) HGA.out _).setCell (p := ⟨pa, 3, none⟩) HGA.out _).setCell (p := ⟨pa, 4, none⟩) HGA.out _).setCell (p := ⟨pa, 5, none⟩) HGA.out _).setCell (p := ⟨pa, 6, none⟩) HGA.out _)
            have HPA_10 : Hid (w10.heap[pa]? = some (.cells #[.string p, .slice oX3 vl.length pX3, .slice oY3 yl.length pY3, .int .i64 st, .slice oG3 k pG3, .string d, .int .i64 t] 34)) := by show _ = _; rw [hY]; have h := (heap_set _ pa 6 _ _ _ (.int .i64 t) (heap_set _ pa 5 _ _ _ (.string d) (heap_set _ pa 4 _ _ _ (.slice oG3 k pG3) (heap_set _ pa 3 _ _ _ (.int .i64 st) (heap_set _ pa 2 _ _ _ (.slice oY3 yl.length pY3) (heap_set _ pa 1 _ _ _ (.slice oX3 vl.length pX3) (heap_set _ pa 0 _ _ _ (.string p) HPA_9.out))))))); simpa using h
            have HRXX3_10 : Hid ((w10).ownsRow w4.heap.size 9 1 (.slice oX3 vl.length pX3) vl.length (vl.map Value.string)) := by show World.ownsRow _ _ _ _ _ _ _; rw [hY]; exact owns_same HRXX3_9.out (fun g hg => by have hne := own_ne HRXX3_9.out HPA_9.out (by decide) g hg; rw [heap_setCell_other _ _ g _ hne, heap_setCell_other _ _ g _ hne, heap_setCell_other _ _ g _ hne, heap_setCell_other _ _ g _ hne, heap_setCell_other _ _ g _ hne, heap_setCell_other _ _ g _ hne, heap_setCell_other _ _ g _ hne])
            have HRXY3_10 : Hid ((w10).ownsRow w4.heap.size 9 1 (.slice oY3 yl.length pY3) yl.length (yl.map Value.string)) := by show World.ownsRow _ _ _ _ _ _ _; rw [hY]; exact owns_same HRXY3_9.out (fun g hg => by have hne := own_ne HRXY3_9.out HPA_9.out (by decide) g hg; rw [heap_setCell_other _ _ g _ hne, heap_setCell_other _ _ g _ hne, heap_setCell_other _ _ g _ hne, heap_setCell_other _ _ g _ hne, heap_setCell_other _ _ g _ hne, heap_setCell_other _ _ g _ hne, heap_setCell_other _ _ g _ hne])
            have HRXG3_10 : Hid ((w10).ownsRow w4.heap.size 75 2 (.slice oG3 k pG3) k (flatF gs)) := by show World.ownsRow _ _ _ _ _ _ _; rw [hY]; exact owns_same HRXG3_9.out (fun g hg => by have hne := own_ne HRXG3_9.out HPA_9.out (by decide) g hg; rw [heap_setCell_other _ _ g _ hne, heap_setCell_other _ _ g _ hne, heap_setCell_other _ _ g _ hne, heap_setCell_other _ _ g _ hne, heap_setCell_other _ _ g _ hne, heap_setCell_other _ _ g _ hne, heap_setCell_other _ _ g _ hne])
            have APXX3Y3 : Hid (∀ g, (Value.ownBlock (.slice oX3 vl.length pX3)) = some g → (Value.ownBlock (.slice oY3 yl.length pY3)) ≠ some g) := AP3.out
            clear hY hb9 HOQ1_9 HOR2_9 HOX3_9 HOY3_9 HOG3_9 HBv1_9 HBv2_9
            go_simp
            rw [HY.out]
            refine hK.out _ _ (HSS.out _ HX_10.out) (fun _ => ?_)
            clear hK K HY ce0 fe0 ce1 fe1 ce2 fe2 ce3 fe3 ce4 fe4 ce5 fe5 ce6 fe6
            refine wpAnyH_takeD (i := 11) (v := .bool true) (some 9) rfl rfl (by kernel_rfl) (by kernel_rfl) (by kernel_rfl) (fun _ _ _ h => h) (Or.inl ⟨by rfl, by intro W _; go_simp⟩) (HSS.out _ HX_10.out) ?_
            simp only [Act.put, List.setIfInBounds_toArray, List.set_cons_zero, List.set_cons_succ]
            refine wpAnyH_done (by kernel_rfl) ?_ _
            go_wp2_with fail
            go_meet
            exact ⟨pa, oX3, pX3, oY3, pY3, oG3, pG3, rfl, rfl, ⟨HX_10.out, HPA_10.out, HGA.out, HRXX3_10.out, HRXY3_10.out, HRXG3_10.out, APXX3Y3.out⟩⟩
        · go_simp
          have HXA : Hid (Below w4.heap.size w4 (w5.alloc (.cells #[.string ⟨#[]⟩, .slice none 0 0, .slice none 0 0, .int .i64 0, .slice none 0 0, .string ⟨#[]⟩, .int .i64 0] 34))) := HX_5.out.alloc HX_5.out.size _
          refine hK.out _ _ (HSS.out _ HXA.out) (fun _ => ?_)
          clear hK K HXA
          obtain ⟨pa, ho⟩ : ∃ o, o = w5.heap.size := ⟨_, rfl⟩
          obtain ⟨w6, hXj⟩ : ∃ X, X = w5.alloc (.cells #[.string ⟨#[]⟩, .slice none 0 0, .slice none 0 0, .int .i64 0, .slice none 0 0, .string ⟨#[]⟩, .int .i64 0] 34) := ⟨_, rfl⟩
          rw [← ho, ← hXj]
          have HGA : Hid (w4.heap.size ≤ pa) := by show _ ≤ _; rw [ho]; exact HX_5.out.size
          have bw : Below w5.heap.size w5 w6 := by rw [hXj]; exact (Below.refl _ _).alloc (Nat.le_refl _) _
          have hb6 : Below w.heap.size w (w6) := hb5.trans (bw.mono hb5.size)
          have HM6 : Hid ((w5).heap.size ≤ (w6).heap.size) := bw.size
          have HBv1_6 : Hid ((w6).heap[qv1]? = some (.cells #[.int .i64 m, .string p, .slice a n cap, .string b] 24)) := blk_below HBv1_5.out bw
          have HBv2_6 : Hid ((w6).heap[qv2]? = some (.cells #[.int .i64 st, .slice a2 k cap2, .string d] 26)) := blk_below HBv2_5.out bw
          have HX_6 : Hid (Below w4.heap.size w4 w6) := HX_5.out.trans (bw.mono HX_5.out.size)
          have HPA_6 : Hid (w6.heap[pa]? = some (.cells #[.string ⟨#[]⟩, .slice none 0 0, .slice none 0 0, .int .i64 0, .slice none 0 0, .string ⟨#[]⟩, .int .i64 0] 34)) := by show _ = _; rw [hXj, ho]; exact heap_alloc_new _ _
          clear hb5 HBv1_5 HBv2_5 bw ho hXj HX_5
          refine wpAnyH_ready (rs := [1]) (by kernel_rfl) (by simp) ?_
          refine AllReadyH.cons rfl (fun K hK => ?_) AllReadyH.nil
          go_simp
          refine (toReq_any m p a n cap b fs w.heap.size _ (HA1.out _ hb6) hb6.size hm1).mono ?_
          rintro e w7 ⟨vv, rfl, ownQ1, bw⟩
          obtain ⟨oQ1, pQ1, rfl⟩ := slice_of_owns ownQ1
          have hb7 : Below w.heap.size w (w7) := hb6.trans (bw.mono hb6.size)
          have HM7 : Hid ((w6).heap.size ≤ (w7).heap.size) := bw.size
          have HBv1_7 : Hid ((w7).heap[qv1]? = some (.cells #[.int .i64 m, .string p, .slice a n cap, .string b] 24)) := blk_below HBv1_6.out bw
          have HBv2_7 : Hid ((w7).heap[qv2]? = some (.cells #[.int .i64 st, .slice a2 k cap2, .string d] 26)) := blk_below HBv2_6.out bw
          have HOQ1_7 : Hid ((w7).ownsRow w.heap.size 75 2 (.slice oQ1 n pQ1) n (flatF fs)) := owns_wide ownQ1 hb6.size
          have LOQ1 : Hid (∀ g, (Value.ownBlock (.slice oQ1 n pQ1)) = some g → (w6).heap.size ≤ g) := fun g hg => owns_ge ownQ1 hg
          have HIQ1 : Hid (∀ g, (Value.ownBlock (.slice oQ1 n pQ1)) = some g → g < (w7).heap.size) := fun g hg => owns_lt ownQ1 hg
          clear ownQ1
          clear hb6 HBv1_6 HBv2_6
          have HX_7 : Hid (Below w4.heap.size w4 w7) := HX_6.out.trans (bw.mono HX_6.out.size)
          have HPA_7 : Hid (w7.heap[pa]? = some (.cells #[.string ⟨#[]⟩, .slice none 0 0, .slice none 0 0, .int .i64 0, .slice none 0 0, .string ⟨#[]⟩, .int .i64 0] 34)) := blk_below HPA_6.out bw
          refine hK.out _ _ (HSS.out _ HX_7.out) (fun _ => ?_)
          clear hK K bw HX_6
          refine wpAnyH_ready (rs := [3]) (by kernel_rfl) (by simp) ?_
          refine AllReadyH.cons rfl (fun K hK => ?_) AllReadyH.nil
          go_simp
          refine (toResp_any st a2 k cap2 d gs w.heap.size _ (HA2.out _ hb7) hb7.size hm2).mono ?_
          rintro e w8 ⟨vv, rfl, ownR2, bw⟩
          obtain ⟨oR2, pR2, rfl⟩ := slice_of_owns ownR2
          have hb8 : Below w.heap.size w (w8) := hb7.trans (bw.mono hb7.size)
          have HM8 : Hid ((w7).heap.size ≤ (w8).heap.size) := bw.size
          have HOQ1_8 : Hid ((w8).ownsRow w.heap.size 75 2 (.slice oQ1 n pQ1) n (flatF fs)) := owns_below HOQ1_7.out bw (fun g hg => owns_lt HOQ1_7.out hg)
          have HBv1_8 : Hid ((w8).heap[qv1]? = some (.cells #[.int .i64 m, .string p, .slice a n cap, .string b] 24)) := blk_below HBv1_7.out bw
          have HBv2_8 : Hid ((w8).heap[qv2]? = some (.cells #[.int .i64 st, .slice a2 k cap2, .string d] 26)) := blk_below HBv2_7.out bw
          have HOR2_8 : Hid ((w8).ownsRow w.heap.size 75 2 (.slice oR2 k pR2) k (flatF gs)) := owns_wide ownR2 hb7.size
          have LOR2 : Hid (∀ g, (Value.ownBlock (.slice oR2 k pR2)) = some g → (w7).heap.size ≤ g) := fun g hg => owns_ge ownR2 hg
          have HIR2 : Hid (∀ g, (Value.ownBlock (.slice oR2 k pR2)) = some g → g < (w8).heap.size) := fun g hg => owns_lt ownR2 hg
          clear ownR2
          clear hb7 HOQ1_7 HBv1_7 HBv2_7
          have HX_8 : Hid (Below w4.heap.size w4 w8) := HX_7.out.trans (bw.mono HX_7.out.size)
          have HPA_8 : Hid (w8.heap[pa]? = some (.cells #[.string ⟨#[]⟩, .slice none 0 0, .slice none 0 0, .int .i64 0, .slice none 0 0, .string ⟨#[]⟩, .int .i64 0] 34)) := blk_below HPA_7.out bw
          refine hK.out _ _ (HSS.out _ HX_8.out) (fun _ => ?_)
          clear hK K bw HX_7
          refine wpAnyH_ready (rs := [5]) (by kernel_rfl) (by simp) ?_
          refine AllReadyH.cons rfl (fun K hK => ?_) AllReadyH.nil
          go_simp
          refine (HSP.out _ _ _ _ _ HOQ1_8.out HOR2_8.out).mono ?_
          rintro e w9 ⟨vv1, vv2, vv3, rfl, ⟨ownX3, ownY3, ownG3, ne3⟩, bw⟩
          obtain ⟨oX3, pX3, rfl⟩ := slice_of_owns ownX3
          obtain ⟨oY3, pY3, rfl⟩ := slice_of_owns ownY3
          obtain ⟨oG3, pG3, rfl⟩ := slice_of_owns ownG3
          have AP3 : Hid (∀ j, (Value.slice oX3 vl.length pX3).ownBlock = some j → (Value.slice oY3 yl.length pY3).ownBlock ≠ some j) := ne3
          clear ne3
          have hb9 : Below w.heap.size w (w9) := hb8.trans (bw.mono hb8.size)
          have HM9 : Hid ((w8).heap.size ≤ (w9).heap.size) := bw.size
          have HOQ1_9 : Hid ((w9).ownsRow w.heap.size 75 2 (.slice oQ1 n pQ1) n (flatF fs)) := owns_below HOQ1_8.out bw (fun g hg => owns_lt HOQ1_8.out hg)
          have HOR2_9 : Hid ((w9).ownsRow w.heap.size 75 2 (.slice oR2 k pR2) k (flatF gs)) := owns_below HOR2_8.out bw (fun g hg => owns_lt HOR2_8.out hg)
          have HBv1_9 : Hid ((w9).heap[qv1]? = some (.cells #[.int .i64 m, .string p, .slice a n cap, .string b] 24)) := blk_below HBv1_8.out bw
          have HBv2_9 : Hid ((w9).heap[qv2]? = some (.cells #[.int .i64 st, .slice a2 k cap2, .string d] 26)) := blk_below HBv2_8.out bw
          have HOX3_9 : Hid ((w9).ownsRow w.heap.size 9 1 (.slice oX3 vl.length pX3) vl.length (vl.map Value.string)) := owns_wide ownX3 hb8.size
          have LOX3 : Hid (∀ g, (Value.ownBlock (.slice oX3 vl.length pX3)) = some g → (w8).heap.size ≤ g) := fun g hg => owns_ge ownX3 hg
          have HIX3 : Hid (∀ g, (Value.ownBlock (.slice oX3 vl.length pX3)) = some g → g < (w9).heap.size) := fun g hg => owns_lt ownX3 hg
          clear ownX3
          have HOY3_9 : Hid ((w9).ownsRow w.heap.size 9 1 (.slice oY3 yl.length pY3) yl.length (yl.map Value.string)) := owns_wide ownY3 hb8.size
          have LOY3 : Hid (∀ g, (Value.ownBlock (.slice oY3 yl.length pY3)) = some g → (w8).heap.size ≤ g) := fun g hg => owns_ge ownY3 hg
          have HIY3 : Hid (∀ g, (Value.ownBlock (.slice oY3 yl.length pY3)) = some g → g < (w9).heap.size) := fun g hg => owns_lt ownY3 hg
          clear ownY3
          have HOG3_9 : Hid ((w9).ownsRow w.heap.size 75 2 (.slice oG3 k pG3) k (flatF gs)) := owns_wide ownG3 hb8.size
          have LOG3 : Hid (∀ g, (Value.ownBlock (.slice oG3 k pG3)) = some g → (w8).heap.size ≤ g) := fun g hg => owns_ge ownG3 hg
          have HIG3 : Hid (∀ g, (Value.ownBlock (.slice oG3 k pG3)) = some g → g < (w9).heap.size) := fun g hg => owns_lt ownG3 hg
          clear ownG3
          clear hb8 HOQ1_8 HOR2_8 HBv1_8 HBv2_8
          have HX_9 : Hid (Below w4.heap.size w4 w9) := HX_8.out.trans (bw.mono HX_8.out.size)
          have HPA_9 : Hid (w9.heap[pa]? = some (.cells #[.string ⟨#[]⟩, .slice none 0 0, .slice none 0 0, .int .i64 0, .slice none 0 0, .string ⟨#[]⟩, .int .i64 0] 34)) := blk_below HPA_8.out bw
          have HRXX3_9 : Hid ((w9).ownsRow w4.heap.size 9 1 (.slice oX3 vl.length pX3) vl.length (vl.map Value.string)) := owns_lift HOX3_9.out (fun g hg => Nat.le_trans HX_8.out.size (LOX3.out g hg))
          have HRXY3_9 : Hid ((w9).ownsRow w4.heap.size 9 1 (.slice oY3 yl.length pY3) yl.length (yl.map Value.string)) := owns_lift HOY3_9.out (fun g hg => Nat.le_trans HX_8.out.size (LOY3.out g hg))
          have HRXG3_9 : Hid ((w9).ownsRow w4.heap.size 75 2 (.slice oG3 k pG3) k (flatF gs)) := owns_lift HOG3_9.out (fun g hg => Nat.le_trans HX_8.out.size (LOG3.out g hg))
          refine hK.out _ _ (HSS.out _ HX_9.out) (fun _ => ?_)
          clear hK K bw HX_8
          refine wpAnyH_takeD (i := 6) (v := .tuple #[.agg #[.string p, .slice oX3 vl.length pX3, .slice oY3 yl.length pY3, .int .i64 st, .slice oG3 k pG3, .string d, .int .i64 t], .bool true]) (some 29) rfl rfl (by kernel_rfl) (by kernel_rfl) (by kernel_rfl) (fun _ _ _ h => h) (Or.inl ⟨by rfl, by intro W _; go_simp⟩) (HSS.out _ HX_9.out) ?_
          simp only [Act.put, List.setIfInBounds_toArray, List.set_cons_zero, List.set_cons_succ]
          refine wpAnyH_takeD (i := 7) (v := .agg #[.string p, .slice oX3 vl.length pX3, .slice oY3 yl.length pY3, .int .i64 st, .slice oG3 k pG3, .string d, .int .i64 t]) (some 36) rfl rfl (by kernel_rfl) (by kernel_rfl) (by kernel_rfl) (fun _ _ _ h => h) (Or.inl ⟨by rfl, by intro W _; go_simp⟩) (HSS.out _ HX_9.out) ?_
          simp only [Act.put, List.setIfInBounds_toArray, List.set_cons_zero, List.set_cons_succ]
          refine wpAnyH_takeD (i := 8) (v := .bool true) (some 37) rfl rfl (by kernel_rfl) (by kernel_rfl) (by kernel_rfl) (fun _ _ _ h => h) (Or.inl ⟨by rfl, by intro W _; go_simp⟩) (HSS.out _ HX_9.out) ?_
          simp only [Act.put, List.setIfInBounds_toArray, List.set_cons_zero, List.set_cons_succ]
          refine wpAnyH_ready (rs := [10]) (by kernel_rfl) (by simp) ?_
          refine AllReadyH.cons rfl (fun K hK => ?_) AllReadyH.nil
          have ce0 : w9.cell? ⟨pa, 0, none⟩ = some (.string ⟨#[]⟩) := (cell_of HPA_9.out 0).trans rfl
          have fe0 : w9.frozen? ⟨pa, 0, none⟩ = false := frozen_of HPA_9.out 0
          have ce1 : w9.cell? ⟨pa, 1, none⟩ = some (.slice none 0 0) := (cell_of HPA_9.out 1).trans rfl
          have fe1 : w9.frozen? ⟨pa, 1, none⟩ = false := frozen_of HPA_9.out 1
          have ce2 : w9.cell? ⟨pa, 2, none⟩ = some (.slice none 0 0) := (cell_of HPA_9.out 2).trans rfl
          have fe2 : w9.frozen? ⟨pa, 2, none⟩ = false := frozen_of HPA_9.out 2
          have ce3 : w9.cell? ⟨pa, 3, none⟩ = some (.int .i64 0) := (cell_of HPA_9.out 3).trans rfl
          have fe3 : w9.frozen? ⟨pa, 3, none⟩ = false := frozen_of HPA_9.out 3
          have ce4 : w9.cell? ⟨pa, 4, none⟩ = some (.slice none 0 0) := (cell_of HPA_9.out 4).trans rfl
          have fe4 : w9.frozen? ⟨pa, 4, none⟩ = false := frozen_of HPA_9.out 4
          have ce5 : w9.cell? ⟨pa, 5, none⟩ = some (.string ⟨#[]⟩) := (cell_of HPA_9.out 5).trans rfl
          have fe5 : w9.frozen? ⟨pa, 5, none⟩ = false := frozen_of HPA_9.out 5
          have ce6 : w9.cell? ⟨pa, 6, none⟩ = some (.int .i64 0) := (cell_of HPA_9.out 6).trans rfl
          have fe6 : w9.frozen? ⟨pa, 6, none⟩ = false := frozen_of HPA_9.out 6
          obtain ⟨w10, hY⟩ : ∃ Y, Y = (((((((w9.setCell ⟨pa, 0, none⟩ (.string p)).setCell ⟨pa, 1, none⟩ (.slice oX3 vl.length pX3)).setCell ⟨pa, 2, none⟩ (.slice oY3 yl.length pY3)).setCell ⟨pa, 3, none⟩ (.int .i64 st)).setCell ⟨pa, 4, none⟩ (.slice oG3 k pG3)).setCell ⟨pa, 5, none⟩ (.string d)).setCell ⟨pa, 6, none⟩ (.int .i64 t)) := ⟨_, rfl⟩
          have HY : Hid ((((((((w9.setCell ⟨pa, 0, none⟩ (.string p)).setCell ⟨pa, 1, none⟩ (.slice oX3 vl.length pX3)).setCell ⟨pa, 2, none⟩ (.slice oY3 yl.length pY3)).setCell ⟨pa, 3, none⟩ (.int .i64 st)).setCell ⟨pa, 4, none⟩ (.slice oG3 k pG3)).setCell ⟨pa, 5, none⟩ (.string d)).setCell ⟨pa, 6, none⟩ (.int .i64 t)) = w10) := hY.symm
          have HX_10 : Hid (Below w4.heap.size w4 w10) := by show Below _ _ _; rw [hY]; exact (((((((HX_9.out.setCell (p := ⟨pa, 0, none⟩) HGA.out _).setCell (p := ⟨pa, 1, none⟩) HGA.out _).setCell (p := ⟨pa, 2, none⟩) HGA.out _).setCell (p := ⟨pa, 3, none⟩) HGA.out _).setCell (p := ⟨pa, 4, none⟩) HGA.out _).setCell (p := ⟨pa, 5, none⟩) HGA.out _).setCell (p := ⟨pa, 6, none⟩) HGA.out _)
          have HPA_10 : Hid (w10.heap[pa]? = some (.cells #[.string p, .slice oX3 vl.length pX3, .slice oY3 yl.length pY3, .int .i64 st, .slice oG3 k pG3, .string d, .int .i64 t] 34)) := by show _ = _; rw [hY]; have h := (heap_set _ pa 6 _ _ _ (.int .i64 t) (heap_set _ pa 5 _ _ _ (.string d) (heap_set _ pa 4 _ _ _ (.slice oG3 k pG3) (heap_set _ pa 3 _ _ _ (.int .i64 st) (heap_set _ pa 2 _ _ _ (.slice oY3 yl.length pY3) (heap_set _ pa 1 _ _ _ (.slice oX3 vl.length pX3) (heap_set _ pa 0 _ _ _ (.string p) HPA_9.out))))))); simpa using h
          have HRXX3_10 : Hid ((w10).ownsRow w4.heap.size 9 1 (.slice oX3 vl.length pX3) vl.length (vl.map Value.string)) := by show World.ownsRow _ _ _ _ _ _ _; rw [hY]; exact owns_same HRXX3_9.out (fun g hg => by have hne := own_ne HRXX3_9.out HPA_9.out (by decide) g hg; rw [heap_setCell_other _ _ g _ hne, heap_setCell_other _ _ g _ hne, heap_setCell_other _ _ g _ hne, heap_setCell_other _ _ g _ hne, heap_setCell_other _ _ g _ hne, heap_setCell_other _ _ g _ hne, heap_setCell_other _ _ g _ hne])
          have HRXY3_10 : Hid ((w10).ownsRow w4.heap.size 9 1 (.slice oY3 yl.length pY3) yl.length (yl.map Value.string)) := by show World.ownsRow _ _ _ _ _ _ _; rw [hY]; exact owns_same HRXY3_9.out (fun g hg => by have hne := own_ne HRXY3_9.out HPA_9.out (by decide) g hg; rw [heap_setCell_other _ _ g _ hne, heap_setCell_other _ _ g _ hne, heap_setCell_other _ _ g _ hne, heap_setCell_other _ _ g _ hne, heap_setCell_other _ _ g _ hne, heap_setCell_other _ _ g _ hne, heap_setCell_other _ _ g _ hne])
          have HRXG3_10 : Hid ((w10).ownsRow w4.heap.size 75 2 (.slice oG3 k pG3) k (flatF gs)) := by show World.ownsRow _ _ _ _ _ _ _; rw [hY]; exact owns_same HRXG3_9.out (fun g hg => by have hne := own_ne HRXG3_9.out HPA_9.out (by decide) g hg; rw [heap_setCell_other _ _ g _ hne, heap_setCell_other _ _ g _ hne, heap_setCell_other _ _ g _ hne, heap_setCell_other _ _ g _ hne, heap_setCell_other _ _ g _ hne, heap_setCell_other _ _ g _ hne, heap_setCell_other _ _ g _ hne])
          have APXX3Y3 : Hid (∀ g, (Value.ownBlock (.slice oX3 vl.length pX3)) = some g → (Value.ownBlock (.slice oY3 yl.length pY3)) ≠ some g) := AP3.out
          clear hY hb9 HOQ1_9 HOR2_9 HOX3_9 HOY3_9 HOG3_9 HBv1_9 HBv2_9
          go_simp
          rw [HY.out]
          refine hK.out _ _ (HSS.out _ HX_10.out) (fun _ => ?_)
          clear hK K HY ce0 fe0 ce1 fe1 ce2 fe2 ce3 fe3 ce4 fe4 ce5 fe5 ce6 fe6
          refine wpAnyH_takeD (i := 11) (v := .bool true) (some 9) rfl rfl (by kernel_rfl) (by kernel_rfl) (by kernel_rfl) (fun _ _ _ h => h) (Or.inl ⟨by rfl, by intro W _; go_simp⟩) (HSS.out _ HX_10.out) ?_
          simp only [Act.put, List.setIfInBounds_toArray, List.set_cons_zero, List.set_cons_succ]
          refine wpAnyH_done (by kernel_rfl) ?_ _
          go_wp2_with fail
          go_meet
          exact ⟨pa, oX3, pX3, oY3, pY3, oG3, pG3, rfl, rfl, ⟨HX_10.out, HPA_10.out, HGA.out, HRXX3_10.out, HRXY3_10.out, HRXG3_10.out, APXX3Y3.out⟩⟩
      case rest =>
      obtain ⟨qv3, oX3, pX3, oY3, pY3, oG3, pG3, hsx, hsx9, HF⟩ := hcut
      rw [hsx, hsx9]
      obtain ⟨w5, hwj⟩ : ∃ W, W = wc := ⟨_, rfl⟩
      rw [← hwj] at HF ⊢
      clear hsx hsx9 hwj HSS
      obtain ⟨bw, hcell, hga, ownX3, ownY3, ownG3, apX3Y3⟩ := HF.out
      have HNv1v3 : Hid (qv1 ≠ qv3) := fun e => by have h1 := (Array.getElem?_eq_some_iff.1 HBv1_4.out).1; omega
      have HNv2v3 : Hid (qv2 ≠ qv3) := fun e => by have h1 := (Array.getElem?_eq_some_iff.1 HBv2_4.out).1; omega
      have hb5 : Below w.heap.size w (w5) := hb4.trans (bw.mono hb4.size)
      have HM5 : Hid ((w4).heap.size ≤ (w5).heap.size) := bw.size
      have HBv1_5 : Hid ((w5).heap[qv1]? = some (.cells #[.int .i64 m, .string p, .slice a n cap, .string b] 24)) := blk_below HBv1_4.out bw
      have HBv2_5 : Hid ((w5).heap[qv2]? = some (.cells #[.int .i64 st, .slice a2 k cap2, .string d] 26)) := blk_below HBv2_4.out bw
      have HOX3_5 : Hid ((w5).ownsRow w.heap.size 9 1 (.slice oX3 vl.length pX3) vl.length (vl.map Value.string)) := owns_wide ownX3 hb4.size
      have LOX3 : Hid (∀ g, (Value.ownBlock (.slice oX3 vl.length pX3)) = some g → (w4).heap.size ≤ g) := fun g hg => owns_ge ownX3 hg
      have HIX3 : Hid (∀ g, (Value.ownBlock (.slice oX3 vl.length pX3)) = some g → g < (w5).heap.size) := fun g hg => owns_lt ownX3 hg
      have HOY3_5 : Hid ((w5).ownsRow w.heap.size 9 1 (.slice oY3 yl.length pY3) yl.length (yl.map Value.string)) := owns_wide ownY3 hb4.size
      have LOY3 : Hid (∀ g, (Value.ownBlock (.slice oY3 yl.length pY3)) = some g → (w4).heap.size ≤ g) := fun g hg => owns_ge ownY3 hg
      have HIY3 : Hid (∀ g, (Value.ownBlock (.slice oY3 yl.length pY3)) = some g → g < (w5).heap.size) := fun g hg => owns_lt ownY3 hg
      have HOG3_5 : Hid ((w5).ownsRow w.heap.size 75 2 (.slice oG3 k pG3) k (flatF gs)) := owns_wide ownG3 hb4.size
      have LOG3 : Hid (∀ g, (Value.ownBlock (.slice oG3 k pG3)) = some g → (w4).heap.size ≤ g) := fun g hg => owns_ge ownG3 hg
      have HIG3 : Hid (∀ g, (Value.ownBlock (.slice oG3 k pG3)) = some g → g < (w5).heap.size) := fun g hg => owns_lt ownG3 hg
      have APX3Y3 : Hid (∀ g, (Value.ownBlock (.slice oX3 vl.length pX3)) = some g → (Value.ownBlock (.slice oY3 yl.length pY3)) ≠ some g) := apX3Y3
      have HBv3_5 : Hid ((w5).heap[qv3]? = some (.cells #[.string p, .slice oX3 vl.length pX3, .slice oY3 yl.length pY3, .int .i64 st, .slice oG3 k pG3, .string d, .int .i64 t] 34)) := hcell
      have HGv3 : Hid (w.heap.size ≤ qv3) := Nat.le_trans hb4.size hga
      clear hb4 HBv1_4 HBv2_4 bw hcell hga HF ownX3 ownY3 ownG3 apX3Y3
      have cv1_0 : (w5).cell? ⟨qv1, 0, none⟩ = some (.int .i64 m) := (cell_of HBv1_5.out 0).trans rfl
      have cv1_1 : (w5).cell? ⟨qv1, 1, none⟩ = some (.string p) := (cell_of HBv1_5.out 1).trans rfl
      have cv1_2 : (w5).cell? ⟨qv1, 2, none⟩ = some (.slice a n cap) := (cell_of HBv1_5.out 2).trans rfl
      have cv1_3 : (w5).cell? ⟨qv1, 3, none⟩ = some (.string b) := (cell_of HBv1_5.out 3).trans rfl
      go_wp2_with fail
      refine (toReq_any m p a n cap b fs w.heap.size _ (HA1.out _ hb5) hb5.size hm1).mono ?_
      rintro e w6 ⟨vv, rfl, ownQ4, bw⟩
      obtain ⟨oQ4, pQ4, rfl⟩ := slice_of_owns ownQ4
      have hb6 : Below w.heap.size w (w6) := hb5.trans (bw.mono hb5.size)
      have HM6 : Hid ((w5).heap.size ≤ (w6).heap.size) := bw.size
      have HOX3_6 : Hid ((w6).ownsRow w.heap.size 9 1 (.slice oX3 vl.length pX3) vl.length (vl.map Value.string)) := owns_below HOX3_5.out bw (fun g hg => owns_lt HOX3_5.out hg)
      have HOY3_6 : Hid ((w6).ownsRow w.heap.size 9 1 (.slice oY3 yl.length pY3) yl.length (yl.map Value.string)) := owns_below HOY3_5.out bw (fun g hg => owns_lt HOY3_5.out hg)
      have HOG3_6 : Hid ((w6).ownsRow w.heap.size 75 2 (.slice oG3 k pG3) k (flatF gs)) := owns_below HOG3_5.out bw (fun g hg => owns_lt HOG3_5.out hg)
      have HBv1_6 : Hid ((w6).heap[qv1]? = some (.cells #[.int .i64 m, .string p, .slice a n cap, .string b] 24)) := blk_below HBv1_5.out bw
      have HBv2_6 : Hid ((w6).heap[qv2]? = some (.cells #[.int .i64 st, .slice a2 k cap2, .string d] 26)) := blk_below HBv2_5.out bw
      have HBv3_6 : Hid ((w6).heap[qv3]? = some (.cells #[.string p, .slice oX3 vl.length pX3, .slice oY3 yl.length pY3, .int .i64 st, .slice oG3 k pG3, .string d, .int .i64 t] 34)) := blk_below HBv3_5.out bw
      have HOQ4_6 : Hid ((w6).ownsRow w.heap.size 75 2 (.slice oQ4 n pQ4) n (flatF fs)) := owns_wide ownQ4 hb5.size
      have LOQ4 : Hid (∀ g, (Value.ownBlock (.slice oQ4 n pQ4)) = some g → (w5).heap.size ≤ g) := fun g hg => owns_ge ownQ4 hg
      have HIQ4 : Hid (∀ g, (Value.ownBlock (.slice oQ4 n pQ4)) = some g → g < (w6).heap.size) := fun g hg => owns_lt ownQ4 hg
      clear ownQ4
      clear hb5 HOX3_5 HOY3_5 HOG3_5 HBv1_5 HBv2_5 HBv3_5 bw
      clear cv1_0 cv1_1 cv1_2 cv1_3
      go_upto_region 10 with fail
      obtain ⟨qv4, hqv4⟩ : ∃ q, q = (w6).heap.size := ⟨_, rfl⟩
      obtain ⟨w7, hW7⟩ : ∃ W, W = (w6).alloc (.cells #[.int .i64 m, .string p, .slice oQ4 n pQ4, .string b] 38) := ⟨_, rfl⟩
      have hz7 : (w6).heap.size = qv4 := hqv4.symm
      first | rw [← hW7, ← hqv4] | rw [← hW7]
      have hs7 : w7.heap.size = qv4 + 1 := by rw [hW7, ← hz7]; simp
      have bw : Below (w6).heap.size (w6) w7 := by rw [hW7]; exact (Below.refl _ _).alloc (Nat.le_refl _) _
      have hb7 : Below w.heap.size w (w7) := hb6.trans (bw.mono hb6.size)
      have HM7 : Hid ((w6).heap.size ≤ (w7).heap.size) := bw.size
      have HOX3_7 : Hid ((w7).ownsRow w.heap.size 9 1 (.slice oX3 vl.length pX3) vl.length (vl.map Value.string)) := owns_below HOX3_6.out bw (fun g hg => owns_lt HOX3_6.out hg)
      have HOY3_7 : Hid ((w7).ownsRow w.heap.size 9 1 (.slice oY3 yl.length pY3) yl.length (yl.map Value.string)) := owns_below HOY3_6.out bw (fun g hg => owns_lt HOY3_6.out hg)
      have HOG3_7 : Hid ((w7).ownsRow w.heap.size 75 2 (.slice oG3 k pG3) k (flatF gs)) := owns_below HOG3_6.out bw (fun g hg => owns_lt HOG3_6.out hg)
      have HOQ4_7 : Hid ((w7).ownsRow w.heap.size 75 2 (.slice oQ4 n pQ4) n (flatF fs)) := owns_below HOQ4_6.out bw (fun g hg => owns_lt HOQ4_6.out hg)
      have HBv1_7 : Hid ((w7).heap[qv1]? = some (.cells #[.int .i64 m, .string p, .slice a n cap, .string b] 24)) := blk_below HBv1_6.out bw
      have HBv2_7 : Hid ((w7).heap[qv2]? = some (.cells #[.int .i64 st, .slice a2 k cap2, .string d] 26)) := blk_below HBv2_6.out bw
      have HBv3_7 : Hid ((w7).heap[qv3]? = some (.cells #[.string p, .slice oX3 vl.length pX3, .slice oY3 yl.length pY3, .int .i64 st, .slice oG3 k pG3, .string d, .int .i64 t] 34)) := blk_below HBv3_6.out bw
      have HNv1v4 : Hid (qv1 ≠ qv4) := fun e => by have h1 := (Array.getElem?_eq_some_iff.1 HBv1_6.out).1; omega
      have HNv2v4 : Hid (qv2 ≠ qv4) := fun e => by have h1 := (Array.getElem?_eq_some_iff.1 HBv2_6.out).1; omega
      have HNv3v4 : Hid (qv3 ≠ qv4) := fun e => by have h1 := (Array.getElem?_eq_some_iff.1 HBv3_6.out).1; omega
      have HBv4_7 : Hid ((w7).heap[qv4]? = some (.cells #[.int .i64 m, .string p, .slice oQ4 n pQ4, .string b] 38)) := by show _ = _; rw [hW7, ← hz7]; exact heap_alloc_new _ _
      have HGv4 : Hid (w.heap.size ≤ qv4) := by show _ ≤ _; rw [← hz7]; exact hb6.size
      clear hb6 HOX3_6 HOY3_6 HOG3_6 HOQ4_6 HBv1_6 HBv2_6 HBv3_6 bw hW7 hz7
      clear hs7 hqv4
      have cv2_0 : (w7).cell? ⟨qv2, 0, none⟩ = some (.int .i64 st) := (cell_of HBv2_7.out 0).trans rfl
      have cv2_1 : (w7).cell? ⟨qv2, 1, none⟩ = some (.slice a2 k cap2) := (cell_of HBv2_7.out 1).trans rfl
      have cv2_2 : (w7).cell? ⟨qv2, 2, none⟩ = some (.string d) := (cell_of HBv2_7.out 2).trans rfl
      go_wp2_with fail
      refine (toResp_any st a2 k cap2 d gs w.heap.size _ (HA2.out _ hb7) hb7.size hm2).mono ?_
      rintro e w8 ⟨vv, rfl, ownR5, bw⟩
      obtain ⟨oR5, pR5, rfl⟩ := slice_of_owns ownR5
      have hb8 : Below w.heap.size w (w8) := hb7.trans (bw.mono hb7.size)
      have HM8 : Hid ((w7).heap.size ≤ (w8).heap.size) := bw.size
      have HOX3_8 : Hid ((w8).ownsRow w.heap.size 9 1 (.slice oX3 vl.length pX3) vl.length (vl.map Value.string)) := owns_below HOX3_7.out bw (fun g hg => owns_lt HOX3_7.out hg)
      have HOY3_8 : Hid ((w8).ownsRow w.heap.size 9 1 (.slice oY3 yl.length pY3) yl.length (yl.map Value.string)) := owns_below HOY3_7.out bw (fun g hg => owns_lt HOY3_7.out hg)
      have HOG3_8 : Hid ((w8).ownsRow w.heap.size 75 2 (.slice oG3 k pG3) k (flatF gs)) := owns_below HOG3_7.out bw (fun g hg => owns_lt HOG3_7.out hg)
      have HOQ4_8 : Hid ((w8).ownsRow w.heap.size 75 2 (.slice oQ4 n pQ4) n (flatF fs)) := owns_below HOQ4_7.out bw (fun g hg => owns_lt HOQ4_7.out hg)
      have HBv1_8 : Hid ((w8).heap[qv1]? = some (.cells #[.int .i64 m, .string p, .slice a n cap, .string b] 24)) := blk_below HBv1_7.out bw
      have HBv2_8 : Hid ((w8).heap[qv2]? = some (.cells #[.int .i64 st, .slice a2 k cap2, .string d] 26)) := blk_below HBv2_7.out bw
      have HBv3_8 : Hid ((w8).heap[qv3]? = some (.cells #[.string p, .slice oX3 vl.length pX3, .slice oY3 yl.length pY3, .int .i64 st, .slice oG3 k pG3, .string d, .int .i64 t] 34)) := blk_below HBv3_7.out bw
      have HBv4_8 : Hid ((w8).heap[qv4]? = some (.cells #[.int .i64 m, .string p, .slice oQ4 n pQ4, .string b] 38)) := blk_below HBv4_7.out bw
      have HOR5_8 : Hid ((w8).ownsRow w.heap.size 75 2 (.slice oR5 k pR5) k (flatF gs)) := owns_wide ownR5 hb7.size
      have LOR5 : Hid (∀ g, (Value.ownBlock (.slice oR5 k pR5)) = some g → (w7).heap.size ≤ g) := fun g hg => owns_ge ownR5 hg
      have HIR5 : Hid (∀ g, (Value.ownBlock (.slice oR5 k pR5)) = some g → g < (w8).heap.size) := fun g hg => owns_lt ownR5 hg
      clear ownR5
      clear hb7 HOX3_7 HOY3_7 HOG3_7 HOQ4_7 HBv1_7 HBv2_7 HBv3_7 HBv4_7 bw
      clear cv2_0 cv2_1 cv2_2
      go_upto_region 11 with fail
      obtain ⟨qv5, hqv5⟩ : ∃ q, q = (w8).heap.size := ⟨_, rfl⟩
      obtain ⟨w9, hW9⟩ : ∃ W, W = (w8).alloc (.cells #[.int .i64 st, .slice oR5 k pR5, .string d] 32) := ⟨_, rfl⟩
      have hz9 : (w8).heap.size = qv5 := hqv5.symm
      first | rw [← hW9, ← hqv5] | rw [← hW9]
      have hs9 : w9.heap.size = qv5 + 1 := by rw [hW9, ← hz9]; simp
      have bw : Below (w8).heap.size (w8) w9 := by rw [hW9]; exact (Below.refl _ _).alloc (Nat.le_refl _) _
      have hb9 : Below w.heap.size w (w9) := hb8.trans (bw.mono hb8.size)
      have HM9 : Hid ((w8).heap.size ≤ (w9).heap.size) := bw.size
      have HOX3_9 : Hid ((w9).ownsRow w.heap.size 9 1 (.slice oX3 vl.length pX3) vl.length (vl.map Value.string)) := owns_below HOX3_8.out bw (fun g hg => owns_lt HOX3_8.out hg)
      have HOY3_9 : Hid ((w9).ownsRow w.heap.size 9 1 (.slice oY3 yl.length pY3) yl.length (yl.map Value.string)) := owns_below HOY3_8.out bw (fun g hg => owns_lt HOY3_8.out hg)
      have HOG3_9 : Hid ((w9).ownsRow w.heap.size 75 2 (.slice oG3 k pG3) k (flatF gs)) := owns_below HOG3_8.out bw (fun g hg => owns_lt HOG3_8.out hg)
      have HOQ4_9 : Hid ((w9).ownsRow w.heap.size 75 2 (.slice oQ4 n pQ4) n (flatF fs)) := owns_below HOQ4_8.out bw (fun g hg => owns_lt HOQ4_8.out hg)
      have HOR5_9 : Hid ((w9).ownsRow w.heap.size 75 2 (.slice oR5 k pR5) k (flatF gs)) := owns_below HOR5_8.out bw (fun g hg => owns_lt HOR5_8.out hg)
      have HBv1_9 : Hid ((w9).heap[qv1]? = some (.cells #[.int .i64 m, .string p, .slice a n cap, .string b] 24)) := blk_below HBv1_8.out bw
      have HBv2_9 : Hid ((w9).heap[qv2]? = some (.cells #[.int .i64 st, .slice a2 k cap2, .string d] 26)) := blk_below HBv2_8.out bw
      have HBv3_9 : Hid ((w9).heap[qv3]? = some (.cells #[.string p, .slice oX3 vl.length pX3, .slice oY3 yl.length pY3, .int .i64 st, .slice oG3 k pG3, .string d, .int .i64 t] 34)) := blk_below HBv3_8.out bw
      have HBv4_9 : Hid ((w9).heap[qv4]? = some (.cells #[.int .i64 m, .string p, .slice oQ4 n pQ4, .string b] 38)) := blk_below HBv4_8.out bw
      have HNv1v5 : Hid (qv1 ≠ qv5) := fun e => by have h1 := (Array.getElem?_eq_some_iff.1 HBv1_8.out).1; omega
      have HNv2v5 : Hid (qv2 ≠ qv5) := fun e => by have h1 := (Array.getElem?_eq_some_iff.1 HBv2_8.out).1; omega
      have HNv3v5 : Hid (qv3 ≠ qv5) := fun e => by have h1 := (Array.getElem?_eq_some_iff.1 HBv3_8.out).1; omega
      have HNv4v5 : Hid (qv4 ≠ qv5) := fun e => by have h1 := (Array.getElem?_eq_some_iff.1 HBv4_8.out).1; omega
      have HBv5_9 : Hid ((w9).heap[qv5]? = some (.cells #[.int .i64 st, .slice oR5 k pR5, .string d] 32)) := by show _ = _; rw [hW9, ← hz9]; exact heap_alloc_new _ _
      have HGv5 : Hid (w.heap.size ≤ qv5) := by show _ ≤ _; rw [← hz9]; exact hb8.size
      clear hb8 HOX3_8 HOY3_8 HOG3_8 HOQ4_8 HOR5_8 HBv1_8 HBv2_8 HBv3_8 HBv4_8 bw hW9 hz9
      clear hs9 hqv5
      have cv4_0 : (w9).cell? ⟨qv4, 0, none⟩ = some (.int .i64 m) := (cell_of HBv4_9.out 0).trans rfl
      have cv4_1 : (w9).cell? ⟨qv4, 1, none⟩ = some (.string p) := (cell_of HBv4_9.out 1).trans rfl
      have cv4_2 : (w9).cell? ⟨qv4, 2, none⟩ = some (.slice oQ4 n pQ4) := (cell_of HBv4_9.out 2).trans rfl
      have cv4_3 : (w9).cell? ⟨qv4, 3, none⟩ = some (.string b) := (cell_of HBv4_9.out 3).trans rfl
      have cv5_0 : (w9).cell? ⟨qv5, 0, none⟩ = some (.int .i64 st) := (cell_of HBv5_9.out 0).trans rfl
      have cv5_1 : (w9).cell? ⟨qv5, 1, none⟩ = some (.slice oR5 k pR5) := (cell_of HBv5_9.out 1).trans rfl
      have cv5_2 : (w9).cell? ⟨qv5, 2, none⟩ = some (.string d) := (cell_of HBv5_9.out 2).trans rfl
      go_wp2_with fail
      refine (HIM.out _ _ _ _ _ HOQ4_9.out HOR5_9.out).mono ?_
      rintro e w10 ⟨vv1, vv2, vv3, rfl, ⟨ownX6, ownY6, ownG6, ne6⟩, bw⟩
      obtain ⟨oX6, pX6, rfl⟩ := slice_of_owns ownX6
      obtain ⟨oY6, pY6, rfl⟩ := slice_of_owns ownY6
      obtain ⟨oG6, pG6, rfl⟩ := slice_of_owns ownG6
      have AP6 : Hid (∀ j, (Value.slice oX6 vl.length pX6).ownBlock = some j → (Value.slice oY6 yl.length pY6).ownBlock ≠ some j) := ne6
      clear ne6
      have hb10 : Below w.heap.size w (w10) := hb9.trans (bw.mono hb9.size)
      have HM10 : Hid ((w9).heap.size ≤ (w10).heap.size) := bw.size
      have HOX3_10 : Hid ((w10).ownsRow w.heap.size 9 1 (.slice oX3 vl.length pX3) vl.length (vl.map Value.string)) := owns_below HOX3_9.out bw (fun g hg => owns_lt HOX3_9.out hg)
      have HOY3_10 : Hid ((w10).ownsRow w.heap.size 9 1 (.slice oY3 yl.length pY3) yl.length (yl.map Value.string)) := owns_below HOY3_9.out bw (fun g hg => owns_lt HOY3_9.out hg)
      have HOG3_10 : Hid ((w10).ownsRow w.heap.size 75 2 (.slice oG3 k pG3) k (flatF gs)) := owns_below HOG3_9.out bw (fun g hg => owns_lt HOG3_9.out hg)
      have HOQ4_10 : Hid ((w10).ownsRow w.heap.size 75 2 (.slice oQ4 n pQ4) n (flatF fs)) := owns_below HOQ4_9.out bw (fun g hg => owns_lt HOQ4_9.out hg)
      have HOR5_10 : Hid ((w10).ownsRow w.heap.size 75 2 (.slice oR5 k pR5) k (flatF gs)) := owns_below HOR5_9.out bw (fun g hg => owns_lt HOR5_9.out hg)
      have HBv1_10 : Hid ((w10).heap[qv1]? = some (.cells #[.int .i64 m, .string p, .slice a n cap, .string b] 24)) := blk_below HBv1_9.out bw
      have HBv2_10 : Hid ((w10).heap[qv2]? = some (.cells #[.int .i64 st, .slice a2 k cap2, .string d] 26)) := blk_below HBv2_9.out bw
      have HBv3_10 : Hid ((w10).heap[qv3]? = some (.cells #[.string p, .slice oX3 vl.length pX3, .slice oY3 yl.length pY3, .int .i64 st, .slice oG3 k pG3, .string d, .int .i64 t] 34)) := blk_below HBv3_9.out bw
      have HBv4_10 : Hid ((w10).heap[qv4]? = some (.cells #[.int .i64 m, .string p, .slice oQ4 n pQ4, .string b] 38)) := blk_below HBv4_9.out bw
      have HBv5_10 : Hid ((w10).heap[qv5]? = some (.cells #[.int .i64 st, .slice oR5 k pR5, .string d] 32)) := blk_below HBv5_9.out bw
      have HOX6_10 : Hid ((w10).ownsRow w.heap.size 9 1 (.slice oX6 vl.length pX6) vl.length (vl.map Value.string)) := owns_wide ownX6 hb9.size
      have LOX6 : Hid (∀ g, (Value.ownBlock (.slice oX6 vl.length pX6)) = some g → (w9).heap.size ≤ g) := fun g hg => owns_ge ownX6 hg
      have HIX6 : Hid (∀ g, (Value.ownBlock (.slice oX6 vl.length pX6)) = some g → g < (w10).heap.size) := fun g hg => owns_lt ownX6 hg
      clear ownX6
      have HOY6_10 : Hid ((w10).ownsRow w.heap.size 9 1 (.slice oY6 yl.length pY6) yl.length (yl.map Value.string)) := owns_wide ownY6 hb9.size
      have LOY6 : Hid (∀ g, (Value.ownBlock (.slice oY6 yl.length pY6)) = some g → (w9).heap.size ≤ g) := fun g hg => owns_ge ownY6 hg
      have HIY6 : Hid (∀ g, (Value.ownBlock (.slice oY6 yl.length pY6)) = some g → g < (w10).heap.size) := fun g hg => owns_lt ownY6 hg
      clear ownY6
      have HOG6_10 : Hid ((w10).ownsRow w.heap.size 75 2 (.slice oG6 k pG6) k (flatF gs)) := owns_wide ownG6 hb9.size
      have LOG6 : Hid (∀ g, (Value.ownBlock (.slice oG6 k pG6)) = some g → (w9).heap.size ≤ g) := fun g hg => owns_ge ownG6 hg
      have HIG6 : Hid (∀ g, (Value.ownBlock (.slice oG6 k pG6)) = some g → g < (w10).heap.size) := fun g hg => owns_lt ownG6 hg
      clear ownG6
      clear hb9 HOX3_9 HOY3_9 HOG3_9 HOQ4_9 HOR5_9 HBv1_9 HBv2_9 HBv3_9 HBv4_9 HBv5_9 bw
      clear cv4_0 cv4_1 cv4_2 cv4_3 cv5_0 cv5_1 cv5_2
      go_upto_region 12 with fail
      obtain ⟨qv6, hqv6⟩ : ∃ q, q = (w10).heap.size := ⟨_, rfl⟩
      obtain ⟨w11, hW11⟩ : ∃ W, W = (w10).alloc (.cells #[.string p, .slice oX6 vl.length pX6, .slice oY6 yl.length pY6, .int .i64 st, .slice oG6 k pG6, .string d, .int .i64 t] 34) := ⟨_, rfl⟩
      have hz11 : (w10).heap.size = qv6 := hqv6.symm
      first | rw [← hW11, ← hqv6] | rw [← hW11]
      have hs11 : w11.heap.size = qv6 + 1 := by rw [hW11, ← hz11]; simp
      have bw : Below (w10).heap.size (w10) w11 := by rw [hW11]; exact (Below.refl _ _).alloc (Nat.le_refl _) _
      have hb11 : Below w.heap.size w (w11) := hb10.trans (bw.mono hb10.size)
      have HM11 : Hid ((w10).heap.size ≤ (w11).heap.size) := bw.size
      have HOX3_11 : Hid ((w11).ownsRow w.heap.size 9 1 (.slice oX3 vl.length pX3) vl.length (vl.map Value.string)) := owns_below HOX3_10.out bw (fun g hg => owns_lt HOX3_10.out hg)
      have HOY3_11 : Hid ((w11).ownsRow w.heap.size 9 1 (.slice oY3 yl.length pY3) yl.length (yl.map Value.string)) := owns_below HOY3_10.out bw (fun g hg => owns_lt HOY3_10.out hg)
      have HOG3_11 : Hid ((w11).ownsRow w.heap.size 75 2 (.slice oG3 k pG3) k (flatF gs)) := owns_below HOG3_10.out bw (fun g hg => owns_lt HOG3_10.out hg)
      have HOQ4_11 : Hid ((w11).ownsRow w.heap.size 75 2 (.slice oQ4 n pQ4) n (flatF fs)) := owns_below HOQ4_10.out bw (fun g hg => owns_lt HOQ4_10.out hg)
      have HOR5_11 : Hid ((w11).ownsRow w.heap.size 75 2 (.slice oR5 k pR5) k (flatF gs)) := owns_below HOR5_10.out bw (fun g hg => owns_lt HOR5_10.out hg)
      have HOX6_11 : Hid ((w11).ownsRow w.heap.size 9 1 (.slice oX6 vl.length pX6) vl.length (vl.map Value.string)) := owns_below HOX6_10.out bw (fun g hg => owns_lt HOX6_10.out hg)
      have HOY6_11 : Hid ((w11).ownsRow w.heap.size 9 1 (.slice oY6 yl.length pY6) yl.length (yl.map Value.string)) := owns_below HOY6_10.out bw (fun g hg => owns_lt HOY6_10.out hg)
      have HOG6_11 : Hid ((w11).ownsRow w.heap.size 75 2 (.slice oG6 k pG6) k (flatF gs)) := owns_below HOG6_10.out bw (fun g hg => owns_lt HOG6_10.out hg)
      have HBv1_11 : Hid ((w11).heap[qv1]? = some (.cells #[.int .i64 m, .string p, .slice a n cap, .string b] 24)) := blk_below HBv1_10.out bw
      have HBv2_11 : Hid ((w11).heap[qv2]? = some (.cells #[.int .i64 st, .slice a2 k cap2, .string d] 26)) := blk_below HBv2_10.out bw
      have HBv3_11 : Hid ((w11).heap[qv3]? = some (.cells #[.string p, .slice oX3 vl.length pX3, .slice oY3 yl.length pY3, .int .i64 st, .slice oG3 k pG3, .string d, .int .i64 t] 34)) := blk_below HBv3_10.out bw
      have HBv4_11 : Hid ((w11).heap[qv4]? = some (.cells #[.int .i64 m, .string p, .slice oQ4 n pQ4, .string b] 38)) := blk_below HBv4_10.out bw
      have HBv5_11 : Hid ((w11).heap[qv5]? = some (.cells #[.int .i64 st, .slice oR5 k pR5, .string d] 32)) := blk_below HBv5_10.out bw
      have HNv1v6 : Hid (qv1 ≠ qv6) := fun e => by have h1 := (Array.getElem?_eq_some_iff.1 HBv1_10.out).1; omega
      have HNv2v6 : Hid (qv2 ≠ qv6) := fun e => by have h1 := (Array.getElem?_eq_some_iff.1 HBv2_10.out).1; omega
      have HNv3v6 : Hid (qv3 ≠ qv6) := fun e => by have h1 := (Array.getElem?_eq_some_iff.1 HBv3_10.out).1; omega
      have HNv4v6 : Hid (qv4 ≠ qv6) := fun e => by have h1 := (Array.getElem?_eq_some_iff.1 HBv4_10.out).1; omega
      have HNv5v6 : Hid (qv5 ≠ qv6) := fun e => by have h1 := (Array.getElem?_eq_some_iff.1 HBv5_10.out).1; omega
      have HBv6_11 : Hid ((w11).heap[qv6]? = some (.cells #[.string p, .slice oX6 vl.length pX6, .slice oY6 yl.length pY6, .int .i64 st, .slice oG6 k pG6, .string d, .int .i64 t] 34)) := by show _ = _; rw [hW11, ← hz11]; exact heap_alloc_new _ _
      have HGv6 : Hid (w.heap.size ≤ qv6) := by show _ ≤ _; rw [← hz11]; exact hb10.size
      clear hb10 HOX3_10 HOY3_10 HOG3_10 HOQ4_10 HOR5_10 HOX6_10 HOY6_10 HOG6_10 HBv1_10 HBv2_10 HBv3_10 HBv4_10 HBv5_10 bw hW11 hz11
      clear hs11 hqv6
      have cv3_0 : (w11).cell? ⟨qv3, 0, none⟩ = some (.string p) := (cell_of HBv3_11.out 0).trans rfl
      have cv3_1 : (w11).cell? ⟨qv3, 1, none⟩ = some (.slice oX3 vl.length pX3) := (cell_of HBv3_11.out 1).trans rfl
      have cv3_2 : (w11).cell? ⟨qv3, 2, none⟩ = some (.slice oY3 yl.length pY3) := (cell_of HBv3_11.out 2).trans rfl
      have cv3_3 : (w11).cell? ⟨qv3, 3, none⟩ = some (.int .i64 st) := (cell_of HBv3_11.out 3).trans rfl
      have cv3_4 : (w11).cell? ⟨qv3, 4, none⟩ = some (.slice oG3 k pG3) := (cell_of HBv3_11.out 4).trans rfl
      have cv3_5 : (w11).cell? ⟨qv3, 5, none⟩ = some (.string d) := (cell_of HBv3_11.out 5).trans rfl
      have cv3_6 : (w11).cell? ⟨qv3, 6, none⟩ = some (.int .i64 t) := (cell_of HBv3_11.out 6).trans rfl
      have cv6_0 : (w11).cell? ⟨qv6, 0, none⟩ = some (.string p) := (cell_of HBv6_11.out 0).trans rfl
      have cv6_1 : (w11).cell? ⟨qv6, 1, none⟩ = some (.slice oX6 vl.length pX6) := (cell_of HBv6_11.out 1).trans rfl
      have cv6_2 : (w11).cell? ⟨qv6, 2, none⟩ = some (.slice oY6 yl.length pY6) := (cell_of HBv6_11.out 2).trans rfl
      have cv6_3 : (w11).cell? ⟨qv6, 3, none⟩ = some (.int .i64 st) := (cell_of HBv6_11.out 3).trans rfl
      have cv6_4 : (w11).cell? ⟨qv6, 4, none⟩ = some (.slice oG6 k pG6) := (cell_of HBv6_11.out 4).trans rfl
      have cv6_5 : (w11).cell? ⟨qv6, 5, none⟩ = some (.string d) := (cell_of HBv6_11.out 5).trans rfl
      have cv6_6 : (w11).cell? ⟨qv6, 6, none⟩ = some (.int .i64 t) := (cell_of HBv6_11.out 6).trans rfl
      go_wp2_with fail
      refine (eqObj_any p vl.length vl yl.length yl st k gs d t _ _ _ _ _ _ _ _ _ ⟨HOX6_11.out, HOY6_11.out, HOG6_11.out, AP6.out⟩ ⟨HOX3_11.out, HOY3_11.out, HOG3_11.out, APX3Y3.out⟩ (by have := HLV.out; omega) (by have := HLV.out; omega) (by omega)).mono ?_
      rintro e w12 ⟨rfl, bw⟩
      have hb12 : Below w.heap.size w (w12) := hb11.trans (bw.mono hb11.size)
      have HM12 : Hid ((w11).heap.size ≤ (w12).heap.size) := bw.size
      have HOX3_12 : Hid ((w12).ownsRow w.heap.size 9 1 (.slice oX3 vl.length pX3) vl.length (vl.map Value.string)) := owns_below HOX3_11.out bw (fun g hg => owns_lt HOX3_11.out hg)
      have HOY3_12 : Hid ((w12).ownsRow w.heap.size 9 1 (.slice oY3 yl.length pY3) yl.length (yl.map Value.string)) := owns_below HOY3_11.out bw (fun g hg => owns_lt HOY3_11.out hg)
      have HOG3_12 : Hid ((w12).ownsRow w.heap.size 75 2 (.slice oG3 k pG3) k (flatF gs)) := owns_below HOG3_11.out bw (fun g hg => owns_lt HOG3_11.out hg)
      have HOQ4_12 : Hid ((w12).ownsRow w.heap.size 75 2 (.slice oQ4 n pQ4) n (flatF fs)) := owns_below HOQ4_11.out bw (fun g hg => owns_lt HOQ4_11.out hg)
      have HOR5_12 : Hid ((w12).ownsRow w.heap.size 75 2 (.slice oR5 k pR5) k (flatF gs)) := owns_below HOR5_11.out bw (fun g hg => owns_lt HOR5_11.out hg)
      have HOX6_12 : Hid ((w12).ownsRow w.heap.size 9 1 (.slice oX6 vl.length pX6) vl.length (vl.map Value.string)) := owns_below HOX6_11.out bw (fun g hg => owns_lt HOX6_11.out hg)
      have HOY6_12 : Hid ((w12).ownsRow w.heap.size 9 1 (.slice oY6 yl.length pY6) yl.length (yl.map Value.string)) := owns_below HOY6_11.out bw (fun g hg => owns_lt HOY6_11.out hg)
      have HOG6_12 : Hid ((w12).ownsRow w.heap.size 75 2 (.slice oG6 k pG6) k (flatF gs)) := owns_below HOG6_11.out bw (fun g hg => owns_lt HOG6_11.out hg)
      have HBv1_12 : Hid ((w12).heap[qv1]? = some (.cells #[.int .i64 m, .string p, .slice a n cap, .string b] 24)) := blk_below HBv1_11.out bw
      have HBv2_12 : Hid ((w12).heap[qv2]? = some (.cells #[.int .i64 st, .slice a2 k cap2, .string d] 26)) := blk_below HBv2_11.out bw
      have HBv3_12 : Hid ((w12).heap[qv3]? = some (.cells #[.string p, .slice oX3 vl.length pX3, .slice oY3 yl.length pY3, .int .i64 st, .slice oG3 k pG3, .string d, .int .i64 t] 34)) := blk_below HBv3_11.out bw
      have HBv4_12 : Hid ((w12).heap[qv4]? = some (.cells #[.int .i64 m, .string p, .slice oQ4 n pQ4, .string b] 38)) := blk_below HBv4_11.out bw
      have HBv5_12 : Hid ((w12).heap[qv5]? = some (.cells #[.int .i64 st, .slice oR5 k pR5, .string d] 32)) := blk_below HBv5_11.out bw
      have HBv6_12 : Hid ((w12).heap[qv6]? = some (.cells #[.string p, .slice oX6 vl.length pX6, .slice oY6 yl.length pY6, .int .i64 st, .slice oG6 k pG6, .string d, .int .i64 t] 34)) := blk_below HBv6_11.out bw
      clear hb11 HOX3_11 HOY3_11 HOG3_11 HOQ4_11 HOR5_11 HOX6_11 HOY6_11 HOG6_11 HBv1_11 HBv2_11 HBv3_11 HBv4_11 HBv5_11 HBv6_11 bw
      clear cv3_0 cv3_1 cv3_2 cv3_3 cv3_4 cv3_5 cv3_6 cv6_0 cv6_1 cv6_2 cv6_3 cv6_4 cv6_5 cv6_6
      go_upto_region 14 with fail
      refine wp_region_held_drew (S := fun W => W.heap[qv4]? = some (.cells #[.int .i64 m, .string p, .slice oQ4 n pQ4, .string b] 38) ∧ W.heap[qv1]? = some (.cells #[.int .i64 m, .string p, .slice a n cap, .string b] 24)) (by kernel_rfl) ⟨HBv4_12.out, HBv1_12.out⟩ (fun _ => ?_)
      obtain ⟨w13, hX⟩ : ∃ X, X = w12.drew := ⟨_, rfl⟩
      have bw : Below w12.heap.size w12 w13 := by rw [hX]; exact (Below.refl _ _).drew
      rw [← hX]
      have hb13 : Below w.heap.size w (w13) := hb12.trans (bw.mono hb12.size)
      have HM13 : Hid ((w12).heap.size ≤ (w13).heap.size) := bw.size
      have HOX3_13 : Hid ((w13).ownsRow w.heap.size 9 1 (.slice oX3 vl.length pX3) vl.length (vl.map Value.string)) := owns_below HOX3_12.out bw (fun g hg => owns_lt HOX3_12.out hg)
      have HOY3_13 : Hid ((w13).ownsRow w.heap.size 9 1 (.slice oY3 yl.length pY3) yl.length (yl.map Value.string)) := owns_below HOY3_12.out bw (fun g hg => owns_lt HOY3_12.out hg)
      have HOG3_13 : Hid ((w13).ownsRow w.heap.size 75 2 (.slice oG3 k pG3) k (flatF gs)) := owns_below HOG3_12.out bw (fun g hg => owns_lt HOG3_12.out hg)
      have HOQ4_13 : Hid ((w13).ownsRow w.heap.size 75 2 (.slice oQ4 n pQ4) n (flatF fs)) := owns_below HOQ4_12.out bw (fun g hg => owns_lt HOQ4_12.out hg)
      have HOR5_13 : Hid ((w13).ownsRow w.heap.size 75 2 (.slice oR5 k pR5) k (flatF gs)) := owns_below HOR5_12.out bw (fun g hg => owns_lt HOR5_12.out hg)
      have HOX6_13 : Hid ((w13).ownsRow w.heap.size 9 1 (.slice oX6 vl.length pX6) vl.length (vl.map Value.string)) := owns_below HOX6_12.out bw (fun g hg => owns_lt HOX6_12.out hg)
      have HOY6_13 : Hid ((w13).ownsRow w.heap.size 9 1 (.slice oY6 yl.length pY6) yl.length (yl.map Value.string)) := owns_below HOY6_12.out bw (fun g hg => owns_lt HOY6_12.out hg)
      have HOG6_13 : Hid ((w13).ownsRow w.heap.size 75 2 (.slice oG6 k pG6) k (flatF gs)) := owns_below HOG6_12.out bw (fun g hg => owns_lt HOG6_12.out hg)
      have HBv1_13 : Hid ((w13).heap[qv1]? = some (.cells #[.int .i64 m, .string p, .slice a n cap, .string b] 24)) := blk_below HBv1_12.out bw
      have HBv2_13 : Hid ((w13).heap[qv2]? = some (.cells #[.int .i64 st, .slice a2 k cap2, .string d] 26)) := blk_below HBv2_12.out bw
      have HBv3_13 : Hid ((w13).heap[qv3]? = some (.cells #[.string p, .slice oX3 vl.length pX3, .slice oY3 yl.length pY3, .int .i64 st, .slice oG3 k pG3, .string d, .int .i64 t] 34)) := blk_below HBv3_12.out bw
      have HBv4_13 : Hid ((w13).heap[qv4]? = some (.cells #[.int .i64 m, .string p, .slice oQ4 n pQ4, .string b] 38)) := blk_below HBv4_12.out bw
      have HBv5_13 : Hid ((w13).heap[qv5]? = some (.cells #[.int .i64 st, .slice oR5 k pR5, .string d] 32)) := blk_below HBv5_12.out bw
      have HBv6_13 : Hid ((w13).heap[qv6]? = some (.cells #[.string p, .slice oX6 vl.length pX6, .slice oY6 yl.length pY6, .int .i64 st, .slice oG6 k pG6, .string d, .int .i64 t] 34)) := blk_below HBv6_12.out bw
      have hS13 : w13.heap[qv4]? = some (.cells #[.int .i64 m, .string p, .slice oQ4 n pQ4, .string b] 38) ∧ w13.heap[qv1]? = some (.cells #[.int .i64 m, .string p, .slice a n cap, .string b] 24) := ⟨HBv4_13.out, HBv1_13.out⟩
      clear hb12 HOX3_12 HOY3_12 HOG3_12 HOQ4_12 HOR5_12 HOX6_12 HOY6_12 HOG6_12 HBv1_12 HBv2_12 HBv3_12 HBv4_12 HBv5_12 HBv6_12 bw hX
      refine wpAnyH_takeD (i := 0) (v := .agg #[.int .i64 m, .string p, .slice oQ4 n pQ4, .string b]) (some 58) rfl rfl (by kernel_rfl) (by kernel_rfl) (by kernel_rfl) (fun _ _ _ h => h) (Or.inl ⟨by rfl, by intro W hW; obtain ⟨hhv4, hhv1⟩ := hW; have y0 := (cell_of hhv4 0).trans rfl; have y1 := (cell_of hhv4 1).trans rfl; have y2 := (cell_of hhv4 2).trans rfl; have y3 := (cell_of hhv4 3).trans rfl; go_simp⟩) hS13 ?_
      simp only [Act.put, List.setIfInBounds_toArray, List.set_cons_zero, List.set_cons_succ]
      refine wpAnyH_takeD (i := 1) (v := .agg #[.int .i64 m, .string p, .slice a n cap, .string b]) (some 59) rfl rfl (by kernel_rfl) (by kernel_rfl) (by kernel_rfl) (fun _ _ _ h => h) (Or.inl ⟨by rfl, by intro W hW; obtain ⟨hhv4, hhv1⟩ := hW; have y0 := (cell_of hhv1 0).trans rfl; have y1 := (cell_of hhv1 1).trans rfl; have y2 := (cell_of hhv1 2).trans rfl; have y3 := (cell_of hhv1 3).trans rfl; go_simp⟩) hS13 ?_
      simp only [Act.put, List.setIfInBounds_toArray, List.set_cons_zero, List.set_cons_succ]
      refine wpAnyH_ready (rs := [2]) (by kernel_rfl) (by simp) ?_
      refine AllReadyH.cons rfl (fun K hK => ?_) AllReadyH.nil
      go_simp
      refine (toReq_any m p a n cap b fs w.heap.size _ (HA1.out _ hb13) hb13.size hm1).mono ?_
      rintro e w14 ⟨vv, rfl, ownQ7, bw⟩
      obtain ⟨oQ7, pQ7, rfl⟩ := slice_of_owns ownQ7
      have hb14 : Below w.heap.size w (w14) := hb13.trans (bw.mono hb13.size)
      have HM14 : Hid ((w13).heap.size ≤ (w14).heap.size) := bw.size
      have HOX3_14 : Hid ((w14).ownsRow w.heap.size 9 1 (.slice oX3 vl.length pX3) vl.length (vl.map Value.string)) := owns_below HOX3_13.out bw (fun g hg => owns_lt HOX3_13.out hg)
      have HOY3_14 : Hid ((w14).ownsRow w.heap.size 9 1 (.slice oY3 yl.length pY3) yl.length (yl.map Value.string)) := owns_below HOY3_13.out bw (fun g hg => owns_lt HOY3_13.out hg)
      have HOG3_14 : Hid ((w14).ownsRow w.heap.size 75 2 (.slice oG3 k pG3) k (flatF gs)) := owns_below HOG3_13.out bw (fun g hg => owns_lt HOG3_13.out hg)
      have HOQ4_14 : Hid ((w14).ownsRow w.heap.size 75 2 (.slice oQ4 n pQ4) n (flatF fs)) := owns_below HOQ4_13.out bw (fun g hg => owns_lt HOQ4_13.out hg)
      have HOR5_14 : Hid ((w14).ownsRow w.heap.size 75 2 (.slice oR5 k pR5) k (flatF gs)) := owns_below HOR5_13.out bw (fun g hg => owns_lt HOR5_13.out hg)
      have HOX6_14 : Hid ((w14).ownsRow w.heap.size 9 1 (.slice oX6 vl.length pX6) vl.length (vl.map Value.string)) := owns_below HOX6_13.out bw (fun g hg => owns_lt HOX6_13.out hg)
      have HOY6_14 : Hid ((w14).ownsRow w.heap.size 9 1 (.slice oY6 yl.length pY6) yl.length (yl.map Value.string)) := owns_below HOY6_13.out bw (fun g hg => owns_lt HOY6_13.out hg)
      have HOG6_14 : Hid ((w14).ownsRow w.heap.size 75 2 (.slice oG6 k pG6) k (flatF gs)) := owns_below HOG6_13.out bw (fun g hg => owns_lt HOG6_13.out hg)
      have HBv1_14 : Hid ((w14).heap[qv1]? = some (.cells #[.int .i64 m, .string p, .slice a n cap, .string b] 24)) := blk_below HBv1_13.out bw
      have HBv2_14 : Hid ((w14).heap[qv2]? = some (.cells #[.int .i64 st, .slice a2 k cap2, .string d] 26)) := blk_below HBv2_13.out bw
      have HBv3_14 : Hid ((w14).heap[qv3]? = some (.cells #[.string p, .slice oX3 vl.length pX3, .slice oY3 yl.length pY3, .int .i64 st, .slice oG3 k pG3, .string d, .int .i64 t] 34)) := blk_below HBv3_13.out bw
      have HBv4_14 : Hid ((w14).heap[qv4]? = some (.cells #[.int .i64 m, .string p, .slice oQ4 n pQ4, .string b] 38)) := blk_below HBv4_13.out bw
      have HBv5_14 : Hid ((w14).heap[qv5]? = some (.cells #[.int .i64 st, .slice oR5 k pR5, .string d] 32)) := blk_below HBv5_13.out bw
      have HBv6_14 : Hid ((w14).heap[qv6]? = some (.cells #[.string p, .slice oX6 vl.length pX6, .slice oY6 yl.length pY6, .int .i64 st, .slice oG6 k pG6, .string d, .int .i64 t] 34)) := blk_below HBv6_13.out bw
      have HOQ7_14 : Hid ((w14).ownsRow w.heap.size 75 2 (.slice oQ7 n pQ7) n (flatF fs)) := owns_wide ownQ7 hb13.size
      have LOQ7 : Hid (∀ g, (Value.ownBlock (.slice oQ7 n pQ7)) = some g → (w13).heap.size ≤ g) := fun g hg => owns_ge ownQ7 hg
      have HIQ7 : Hid (∀ g, (Value.ownBlock (.slice oQ7 n pQ7)) = some g → g < (w14).heap.size) := fun g hg => owns_lt ownQ7 hg
      clear ownQ7
      clear hb13 HOX3_13 HOY3_13 HOG3_13 HOQ4_13 HOR5_13 HOX6_13 HOY6_13 HOG6_13 HBv1_13 HBv2_13 HBv3_13 HBv4_13 HBv5_13 HBv6_13 bw
      have hS14 : w14.heap[qv4]? = some (.cells #[.int .i64 m, .string p, .slice oQ4 n pQ4, .string b] 38) ∧ w14.heap[qv1]? = some (.cells #[.int .i64 m, .string p, .slice a n cap, .string b] 24) := ⟨HBv4_14.out, HBv1_14.out⟩
      refine hK.out _ _ hS14 (fun _ => ?_)
      clear hK K hS13
      refine wpAnyH_ready (rs := [3]) (by kernel_rfl) (by simp) ?_
      refine AllReadyH.cons rfl (fun K hK => ?_) AllReadyH.nil
      go_simp
      refine (eqReq_any m p _ _ b n _ _ fs _ (FieldsV.of_owns HOQ4_14.out) (FieldsV.of_owns HOQ7_14.out) (by omega)).mono ?_
      rintro e w15 ⟨rfl, bw⟩
      have hb15 : Below w.heap.size w (w15) := hb14.trans (bw.mono hb14.size)
      have HM15 : Hid ((w14).heap.size ≤ (w15).heap.size) := bw.size
      have HOX3_15 : Hid ((w15).ownsRow w.heap.size 9 1 (.slice oX3 vl.length pX3) vl.length (vl.map Value.string)) := owns_below HOX3_14.out bw (fun g hg => owns_lt HOX3_14.out hg)
      have HOY3_15 : Hid ((w15).ownsRow w.heap.size 9 1 (.slice oY3 yl.length pY3) yl.length (yl.map Value.string)) := owns_below HOY3_14.out bw (fun g hg => owns_lt HOY3_14.out hg)
      have HOG3_15 : Hid ((w15).ownsRow w.heap.size 75 2 (.slice oG3 k pG3) k (flatF gs)) := owns_below HOG3_14.out bw (fun g hg => owns_lt HOG3_14.out hg)
      have HOQ4_15 : Hid ((w15).ownsRow w.heap.size 75 2 (.slice oQ4 n pQ4) n (flatF fs)) := owns_below HOQ4_14.out bw (fun g hg => owns_lt HOQ4_14.out hg)
      have HOR5_15 : Hid ((w15).ownsRow w.heap.size 75 2 (.slice oR5 k pR5) k (flatF gs)) := owns_below HOR5_14.out bw (fun g hg => owns_lt HOR5_14.out hg)
      have HOX6_15 : Hid ((w15).ownsRow w.heap.size 9 1 (.slice oX6 vl.length pX6) vl.length (vl.map Value.string)) := owns_below HOX6_14.out bw (fun g hg => owns_lt HOX6_14.out hg)
      have HOY6_15 : Hid ((w15).ownsRow w.heap.size 9 1 (.slice oY6 yl.length pY6) yl.length (yl.map Value.string)) := owns_below HOY6_14.out bw (fun g hg => owns_lt HOY6_14.out hg)
      have HOG6_15 : Hid ((w15).ownsRow w.heap.size 75 2 (.slice oG6 k pG6) k (flatF gs)) := owns_below HOG6_14.out bw (fun g hg => owns_lt HOG6_14.out hg)
      have HOQ7_15 : Hid ((w15).ownsRow w.heap.size 75 2 (.slice oQ7 n pQ7) n (flatF fs)) := owns_below HOQ7_14.out bw (fun g hg => owns_lt HOQ7_14.out hg)
      have HBv1_15 : Hid ((w15).heap[qv1]? = some (.cells #[.int .i64 m, .string p, .slice a n cap, .string b] 24)) := blk_below HBv1_14.out bw
      have HBv2_15 : Hid ((w15).heap[qv2]? = some (.cells #[.int .i64 st, .slice a2 k cap2, .string d] 26)) := blk_below HBv2_14.out bw
      have HBv3_15 : Hid ((w15).heap[qv3]? = some (.cells #[.string p, .slice oX3 vl.length pX3, .slice oY3 yl.length pY3, .int .i64 st, .slice oG3 k pG3, .string d, .int .i64 t] 34)) := blk_below HBv3_14.out bw
      have HBv4_15 : Hid ((w15).heap[qv4]? = some (.cells #[.int .i64 m, .string p, .slice oQ4 n pQ4, .string b] 38)) := blk_below HBv4_14.out bw
      have HBv5_15 : Hid ((w15).heap[qv5]? = some (.cells #[.int .i64 st, .slice oR5 k pR5, .string d] 32)) := blk_below HBv5_14.out bw
      have HBv6_15 : Hid ((w15).heap[qv6]? = some (.cells #[.string p, .slice oX6 vl.length pX6, .slice oY6 yl.length pY6, .int .i64 st, .slice oG6 k pG6, .string d, .int .i64 t] 34)) := blk_below HBv6_14.out bw
      clear hb14 HOX3_14 HOY3_14 HOG3_14 HOQ4_14 HOR5_14 HOX6_14 HOY6_14 HOG6_14 HOQ7_14 HBv1_14 HBv2_14 HBv3_14 HBv4_14 HBv5_14 HBv6_14 bw
      have hS15 : w15.heap[qv4]? = some (.cells #[.int .i64 m, .string p, .slice oQ4 n pQ4, .string b] 38) ∧ w15.heap[qv1]? = some (.cells #[.int .i64 m, .string p, .slice a n cap, .string b] 24) := ⟨HBv4_15.out, HBv1_15.out⟩
      refine hK.out _ _ hS15 (fun _ => ?_)
      clear hK K hS14
      refine wpAnyH_takeD (i := 4) (v := .bool false) (some 62) rfl rfl (by kernel_rfl) (by kernel_rfl) (by kernel_rfl) (fun _ _ _ h => h) (Or.inl ⟨by rfl, by intro W _; go_simp⟩) hS15 ?_
      simp only [Act.put, List.setIfInBounds_toArray, List.set_cons_zero, List.set_cons_succ]
      clear hS15
      refine wpAnyH_done (by kernel_rfl) ?_ _
      go_upto_region 16 with fail
      refine wp_region_held_drew (S := fun W => W.heap[qv5]? = some (.cells #[.int .i64 st, .slice oR5 k pR5, .string d] 32) ∧ W.heap[qv2]? = some (.cells #[.int .i64 st, .slice a2 k cap2, .string d] 26)) (by kernel_rfl) ⟨HBv5_15.out, HBv2_15.out⟩ (fun _ => ?_)
      obtain ⟨w16, hX⟩ : ∃ X, X = w15.drew := ⟨_, rfl⟩
      have bw : Below w15.heap.size w15 w16 := by rw [hX]; exact (Below.refl _ _).drew
      rw [← hX]
      have hb16 : Below w.heap.size w (w16) := hb15.trans (bw.mono hb15.size)
      have HM16 : Hid ((w15).heap.size ≤ (w16).heap.size) := bw.size
      have HOX3_16 : Hid ((w16).ownsRow w.heap.size 9 1 (.slice oX3 vl.length pX3) vl.length (vl.map Value.string)) := owns_below HOX3_15.out bw (fun g hg => owns_lt HOX3_15.out hg)
      have HOY3_16 : Hid ((w16).ownsRow w.heap.size 9 1 (.slice oY3 yl.length pY3) yl.length (yl.map Value.string)) := owns_below HOY3_15.out bw (fun g hg => owns_lt HOY3_15.out hg)
      have HOG3_16 : Hid ((w16).ownsRow w.heap.size 75 2 (.slice oG3 k pG3) k (flatF gs)) := owns_below HOG3_15.out bw (fun g hg => owns_lt HOG3_15.out hg)
      have HOQ4_16 : Hid ((w16).ownsRow w.heap.size 75 2 (.slice oQ4 n pQ4) n (flatF fs)) := owns_below HOQ4_15.out bw (fun g hg => owns_lt HOQ4_15.out hg)
      have HOR5_16 : Hid ((w16).ownsRow w.heap.size 75 2 (.slice oR5 k pR5) k (flatF gs)) := owns_below HOR5_15.out bw (fun g hg => owns_lt HOR5_15.out hg)
      have HOX6_16 : Hid ((w16).ownsRow w.heap.size 9 1 (.slice oX6 vl.length pX6) vl.length (vl.map Value.string)) := owns_below HOX6_15.out bw (fun g hg => owns_lt HOX6_15.out hg)
      have HOY6_16 : Hid ((w16).ownsRow w.heap.size 9 1 (.slice oY6 yl.length pY6) yl.length (yl.map Value.string)) := owns_below HOY6_15.out bw (fun g hg => owns_lt HOY6_15.out hg)
      have HOG6_16 : Hid ((w16).ownsRow w.heap.size 75 2 (.slice oG6 k pG6) k (flatF gs)) := owns_below HOG6_15.out bw (fun g hg => owns_lt HOG6_15.out hg)
      have HOQ7_16 : Hid ((w16).ownsRow w.heap.size 75 2 (.slice oQ7 n pQ7) n (flatF fs)) := owns_below HOQ7_15.out bw (fun g hg => owns_lt HOQ7_15.out hg)
      have HBv1_16 : Hid ((w16).heap[qv1]? = some (.cells #[.int .i64 m, .string p, .slice a n cap, .string b] 24)) := blk_below HBv1_15.out bw
      have HBv2_16 : Hid ((w16).heap[qv2]? = some (.cells #[.int .i64 st, .slice a2 k cap2, .string d] 26)) := blk_below HBv2_15.out bw
      have HBv3_16 : Hid ((w16).heap[qv3]? = some (.cells #[.string p, .slice oX3 vl.length pX3, .slice oY3 yl.length pY3, .int .i64 st, .slice oG3 k pG3, .string d, .int .i64 t] 34)) := blk_below HBv3_15.out bw
      have HBv4_16 : Hid ((w16).heap[qv4]? = some (.cells #[.int .i64 m, .string p, .slice oQ4 n pQ4, .string b] 38)) := blk_below HBv4_15.out bw
      have HBv5_16 : Hid ((w16).heap[qv5]? = some (.cells #[.int .i64 st, .slice oR5 k pR5, .string d] 32)) := blk_below HBv5_15.out bw
      have HBv6_16 : Hid ((w16).heap[qv6]? = some (.cells #[.string p, .slice oX6 vl.length pX6, .slice oY6 yl.length pY6, .int .i64 st, .slice oG6 k pG6, .string d, .int .i64 t] 34)) := blk_below HBv6_15.out bw
      have hS16 : w16.heap[qv5]? = some (.cells #[.int .i64 st, .slice oR5 k pR5, .string d] 32) ∧ w16.heap[qv2]? = some (.cells #[.int .i64 st, .slice a2 k cap2, .string d] 26) := ⟨HBv5_16.out, HBv2_16.out⟩
      clear hb15 HOX3_15 HOY3_15 HOG3_15 HOQ4_15 HOR5_15 HOX6_15 HOY6_15 HOG6_15 HOQ7_15 HBv1_15 HBv2_15 HBv3_15 HBv4_15 HBv5_15 HBv6_15 bw hX
      refine wpAnyH_takeD (i := 0) (v := .agg #[.int .i64 st, .slice oR5 k pR5, .string d]) (some 63) rfl rfl (by kernel_rfl) (by kernel_rfl) (by kernel_rfl) (fun _ _ _ h => h) (Or.inl ⟨by rfl, by intro W hW; obtain ⟨hhv5, hhv2⟩ := hW; have y0 := (cell_of hhv5 0).trans rfl; have y1 := (cell_of hhv5 1).trans rfl; have y2 := (cell_of hhv5 2).trans rfl; go_simp⟩) hS16 ?_
      simp only [Act.put, List.setIfInBounds_toArray, List.set_cons_zero, List.set_cons_succ]
      refine wpAnyH_takeD (i := 1) (v := .agg #[.int .i64 st, .slice a2 k cap2, .string d]) (some 64) rfl rfl (by kernel_rfl) (by kernel_rfl) (by kernel_rfl) (fun _ _ _ h => h) (Or.inl ⟨by rfl, by intro W hW; obtain ⟨hhv5, hhv2⟩ := hW; have y0 := (cell_of hhv2 0).trans rfl; have y1 := (cell_of hhv2 1).trans rfl; have y2 := (cell_of hhv2 2).trans rfl; go_simp⟩) hS16 ?_
      simp only [Act.put, List.setIfInBounds_toArray, List.set_cons_zero, List.set_cons_succ]
      refine wpAnyH_ready (rs := [2]) (by kernel_rfl) (by simp) ?_
      refine AllReadyH.cons rfl (fun K hK => ?_) AllReadyH.nil
      go_simp
      refine (toResp_any st a2 k cap2 d gs w.heap.size _ (HA2.out _ hb16) hb16.size hm2).mono ?_
      rintro e w17 ⟨vv, rfl, ownR8, bw⟩
      obtain ⟨oR8, pR8, rfl⟩ := slice_of_owns ownR8
      have hb17 : Below w.heap.size w (w17) := hb16.trans (bw.mono hb16.size)
      have HM17 : Hid ((w16).heap.size ≤ (w17).heap.size) := bw.size
      have HOX3_17 : Hid ((w17).ownsRow w.heap.size 9 1 (.slice oX3 vl.length pX3) vl.length (vl.map Value.string)) := owns_below HOX3_16.out bw (fun g hg => owns_lt HOX3_16.out hg)
      have HOY3_17 : Hid ((w17).ownsRow w.heap.size 9 1 (.slice oY3 yl.length pY3) yl.length (yl.map Value.string)) := owns_below HOY3_16.out bw (fun g hg => owns_lt HOY3_16.out hg)
      have HOG3_17 : Hid ((w17).ownsRow w.heap.size 75 2 (.slice oG3 k pG3) k (flatF gs)) := owns_below HOG3_16.out bw (fun g hg => owns_lt HOG3_16.out hg)
      have HOQ4_17 : Hid ((w17).ownsRow w.heap.size 75 2 (.slice oQ4 n pQ4) n (flatF fs)) := owns_below HOQ4_16.out bw (fun g hg => owns_lt HOQ4_16.out hg)
      have HOR5_17 : Hid ((w17).ownsRow w.heap.size 75 2 (.slice oR5 k pR5) k (flatF gs)) := owns_below HOR5_16.out bw (fun g hg => owns_lt HOR5_16.out hg)
      have HOX6_17 : Hid ((w17).ownsRow w.heap.size 9 1 (.slice oX6 vl.length pX6) vl.length (vl.map Value.string)) := owns_below HOX6_16.out bw (fun g hg => owns_lt HOX6_16.out hg)
      have HOY6_17 : Hid ((w17).ownsRow w.heap.size 9 1 (.slice oY6 yl.length pY6) yl.length (yl.map Value.string)) := owns_below HOY6_16.out bw (fun g hg => owns_lt HOY6_16.out hg)
      have HOG6_17 : Hid ((w17).ownsRow w.heap.size 75 2 (.slice oG6 k pG6) k (flatF gs)) := owns_below HOG6_16.out bw (fun g hg => owns_lt HOG6_16.out hg)
      have HOQ7_17 : Hid ((w17).ownsRow w.heap.size 75 2 (.slice oQ7 n pQ7) n (flatF fs)) := owns_below HOQ7_16.out bw (fun g hg => owns_lt HOQ7_16.out hg)
      have HBv1_17 : Hid ((w17).heap[qv1]? = some (.cells #[.int .i64 m, .string p, .slice a n cap, .string b] 24)) := blk_below HBv1_16.out bw
      have HBv2_17 : Hid ((w17).heap[qv2]? = some (.cells #[.int .i64 st, .slice a2 k cap2, .string d] 26)) := blk_below HBv2_16.out bw
      have HBv3_17 : Hid ((w17).heap[qv3]? = some (.cells #[.string p, .slice oX3 vl.length pX3, .slice oY3 yl.length pY3, .int .i64 st, .slice oG3 k pG3, .string d, .int .i64 t] 34)) := blk_below HBv3_16.out bw
      have HBv4_17 : Hid ((w17).heap[qv4]? = some (.cells #[.int .i64 m, .string p, .slice oQ4 n pQ4, .string b] 38)) := blk_below HBv4_16.out bw
      have HBv5_17 : Hid ((w17).heap[qv5]? = some (.cells #[.int .i64 st, .slice oR5 k pR5, .string d] 32)) := blk_below HBv5_16.out bw
      have HBv6_17 : Hid ((w17).heap[qv6]? = some (.cells #[.string p, .slice oX6 vl.length pX6, .slice oY6 yl.length pY6, .int .i64 st, .slice oG6 k pG6, .string d, .int .i64 t] 34)) := blk_below HBv6_16.out bw
      have HOR8_17 : Hid ((w17).ownsRow w.heap.size 75 2 (.slice oR8 k pR8) k (flatF gs)) := owns_wide ownR8 hb16.size
      have LOR8 : Hid (∀ g, (Value.ownBlock (.slice oR8 k pR8)) = some g → (w16).heap.size ≤ g) := fun g hg => owns_ge ownR8 hg
      have HIR8 : Hid (∀ g, (Value.ownBlock (.slice oR8 k pR8)) = some g → g < (w17).heap.size) := fun g hg => owns_lt ownR8 hg
      clear ownR8
      clear hb16 HOX3_16 HOY3_16 HOG3_16 HOQ4_16 HOR5_16 HOX6_16 HOY6_16 HOG6_16 HOQ7_16 HBv1_16 HBv2_16 HBv3_16 HBv4_16 HBv5_16 HBv6_16 bw
      have hS17 : w17.heap[qv5]? = some (.cells #[.int .i64 st, .slice oR5 k pR5, .string d] 32) ∧ w17.heap[qv2]? = some (.cells #[.int .i64 st, .slice a2 k cap2, .string d] 26) := ⟨HBv5_17.out, HBv2_17.out⟩
      refine hK.out _ _ hS17 (fun _ => ?_)
      clear hK K hS16
      refine wpAnyH_ready (rs := [3]) (by kernel_rfl) (by simp) ?_
      refine AllReadyH.cons rfl (fun K hK => ?_) AllReadyH.nil
      go_simp
      refine (eqResp_any st _ _ d k _ _ gs _ (FieldsV.of_owns HOR5_17.out) (FieldsV.of_owns HOR8_17.out) (by omega)).mono ?_
      rintro e w18 ⟨rfl, bw⟩
      have hb18 : Below w.heap.size w (w18) := hb17.trans (bw.mono hb17.size)
      have HM18 : Hid ((w17).heap.size ≤ (w18).heap.size) := bw.size
      have HOX3_18 : Hid ((w18).ownsRow w.heap.size 9 1 (.slice oX3 vl.length pX3) vl.length (vl.map Value.string)) := owns_below HOX3_17.out bw (fun g hg => owns_lt HOX3_17.out hg)
      have HOY3_18 : Hid ((w18).ownsRow w.heap.size 9 1 (.slice oY3 yl.length pY3) yl.length (yl.map Value.string)) := owns_below HOY3_17.out bw (fun g hg => owns_lt HOY3_17.out hg)
      have HOG3_18 : Hid ((w18).ownsRow w.heap.size 75 2 (.slice oG3 k pG3) k (flatF gs)) := owns_below HOG3_17.out bw (fun g hg => owns_lt HOG3_17.out hg)
      have HOQ4_18 : Hid ((w18).ownsRow w.heap.size 75 2 (.slice oQ4 n pQ4) n (flatF fs)) := owns_below HOQ4_17.out bw (fun g hg => owns_lt HOQ4_17.out hg)
      have HOR5_18 : Hid ((w18).ownsRow w.heap.size 75 2 (.slice oR5 k pR5) k (flatF gs)) := owns_below HOR5_17.out bw (fun g hg => owns_lt HOR5_17.out hg)
      have HOX6_18 : Hid ((w18).ownsRow w.heap.size 9 1 (.slice oX6 vl.length pX6) vl.length (vl.map Value.string)) := owns_below HOX6_17.out bw (fun g hg => owns_lt HOX6_17.out hg)
      have HOY6_18 : Hid ((w18).ownsRow w.heap.size 9 1 (.slice oY6 yl.length pY6) yl.length (yl.map Value.string)) := owns_below HOY6_17.out bw (fun g hg => owns_lt HOY6_17.out hg)
      have HOG6_18 : Hid ((w18).ownsRow w.heap.size 75 2 (.slice oG6 k pG6) k (flatF gs)) := owns_below HOG6_17.out bw (fun g hg => owns_lt HOG6_17.out hg)
      have HOQ7_18 : Hid ((w18).ownsRow w.heap.size 75 2 (.slice oQ7 n pQ7) n (flatF fs)) := owns_below HOQ7_17.out bw (fun g hg => owns_lt HOQ7_17.out hg)
      have HOR8_18 : Hid ((w18).ownsRow w.heap.size 75 2 (.slice oR8 k pR8) k (flatF gs)) := owns_below HOR8_17.out bw (fun g hg => owns_lt HOR8_17.out hg)
      have HBv1_18 : Hid ((w18).heap[qv1]? = some (.cells #[.int .i64 m, .string p, .slice a n cap, .string b] 24)) := blk_below HBv1_17.out bw
      have HBv2_18 : Hid ((w18).heap[qv2]? = some (.cells #[.int .i64 st, .slice a2 k cap2, .string d] 26)) := blk_below HBv2_17.out bw
      have HBv3_18 : Hid ((w18).heap[qv3]? = some (.cells #[.string p, .slice oX3 vl.length pX3, .slice oY3 yl.length pY3, .int .i64 st, .slice oG3 k pG3, .string d, .int .i64 t] 34)) := blk_below HBv3_17.out bw
      have HBv4_18 : Hid ((w18).heap[qv4]? = some (.cells #[.int .i64 m, .string p, .slice oQ4 n pQ4, .string b] 38)) := blk_below HBv4_17.out bw
      have HBv5_18 : Hid ((w18).heap[qv5]? = some (.cells #[.int .i64 st, .slice oR5 k pR5, .string d] 32)) := blk_below HBv5_17.out bw
      have HBv6_18 : Hid ((w18).heap[qv6]? = some (.cells #[.string p, .slice oX6 vl.length pX6, .slice oY6 yl.length pY6, .int .i64 st, .slice oG6 k pG6, .string d, .int .i64 t] 34)) := blk_below HBv6_17.out bw
      clear hb17 HOX3_17 HOY3_17 HOG3_17 HOQ4_17 HOR5_17 HOX6_17 HOY6_17 HOG6_17 HOQ7_17 HOR8_17 HBv1_17 HBv2_17 HBv3_17 HBv4_17 HBv5_17 HBv6_17 bw
      have hS18 : w18.heap[qv5]? = some (.cells #[.int .i64 st, .slice oR5 k pR5, .string d] 32) ∧ w18.heap[qv2]? = some (.cells #[.int .i64 st, .slice a2 k cap2, .string d] 26) := ⟨HBv5_18.out, HBv2_18.out⟩
      refine hK.out _ _ hS18 (fun _ => ?_)
      clear hK K hS17
      refine wpAnyH_takeD (i := 4) (v := .bool false) (some 67) rfl rfl (by kernel_rfl) (by kernel_rfl) (by kernel_rfl) (fun _ _ _ h => h) (Or.inl ⟨by rfl, by intro W _; go_simp⟩) hS18 ?_
      simp only [Act.put, List.setIfInBounds_toArray, List.set_cons_zero, List.set_cons_succ]
      clear hS18
      refine wpAnyH_done (by kernel_rfl) ?_ _
      have cv4_0 : (w18).cell? ⟨qv4, 0, none⟩ = some (.int .i64 m) := (cell_of HBv4_18.out 0).trans rfl
      have cv4_1 : (w18).cell? ⟨qv4, 1, none⟩ = some (.string p) := (cell_of HBv4_18.out 1).trans rfl
      have cv4_2 : (w18).cell? ⟨qv4, 2, none⟩ = some (.slice oQ4 n pQ4) := (cell_of HBv4_18.out 2).trans rfl
      have cv4_3 : (w18).cell? ⟨qv4, 3, none⟩ = some (.string b) := (cell_of HBv4_18.out 3).trans rfl
      go_wp2_with fail
      refine (markReqFrom_any m p _ b n _ fs _ HOQ4_18.out hb18.size 1 (by omega) (by omega)).mono ?_
      rintro e w19 ⟨rfl, mk, bm, far⟩
      have hb19 : Below w.heap.size w w19 := hb18.trans bm
      have HM19 : Hid ((w18).heap.size ≤ w19.heap.size) := bm.size
      have HOX3_19 : Hid ((w19).ownsRow w.heap.size 9 1 (.slice oX3 vl.length pX3) vl.length (vl.map Value.string)) := owns_same HOX3_18.out (fun g hg => far g (owns_lt HOX3_18.out hg) (own_type_ne HOX3_18.out HOQ4_18.out (by decide) g hg))
      have HOY3_19 : Hid ((w19).ownsRow w.heap.size 9 1 (.slice oY3 yl.length pY3) yl.length (yl.map Value.string)) := owns_same HOY3_18.out (fun g hg => far g (owns_lt HOY3_18.out hg) (own_type_ne HOY3_18.out HOQ4_18.out (by decide) g hg))
      have HOG3_19 : Hid ((w19).ownsRow w.heap.size 75 2 (.slice oG3 k pG3) k (flatF gs)) := owns_same HOG3_18.out (fun g hg => far g (owns_lt HOG3_18.out hg) (fun e => by have h1 := LOQ4.out g e; have h2 := HIG3.out g hg; have := HM6.out; omega))
      have HOR5_19 : Hid ((w19).ownsRow w.heap.size 75 2 (.slice oR5 k pR5) k (flatF gs)) := owns_same HOR5_18.out (fun g hg => far g (owns_lt HOR5_18.out hg) (fun e => by have h1 := LOR5.out g hg; have h2 := HIQ4.out g e; have := HM7.out; have := HM8.out; omega))
      have HOX6_19 : Hid ((w19).ownsRow w.heap.size 9 1 (.slice oX6 vl.length pX6) vl.length (vl.map Value.string)) := owns_same HOX6_18.out (fun g hg => far g (owns_lt HOX6_18.out hg) (own_type_ne HOX6_18.out HOQ4_18.out (by decide) g hg))
      have HOY6_19 : Hid ((w19).ownsRow w.heap.size 9 1 (.slice oY6 yl.length pY6) yl.length (yl.map Value.string)) := owns_same HOY6_18.out (fun g hg => far g (owns_lt HOY6_18.out hg) (own_type_ne HOY6_18.out HOQ4_18.out (by decide) g hg))
      have HOG6_19 : Hid ((w19).ownsRow w.heap.size 75 2 (.slice oG6 k pG6) k (flatF gs)) := owns_same HOG6_18.out (fun g hg => far g (owns_lt HOG6_18.out hg) (fun e => by have h1 := LOG6.out g hg; have h2 := HIQ4.out g e; have := HM7.out; have := HM8.out; have := HM9.out; have := HM10.out; omega))
      have HOQ7_19 : Hid ((w19).ownsRow w.heap.size 75 2 (.slice oQ7 n pQ7) n (flatF fs)) := owns_same HOQ7_18.out (fun g hg => far g (owns_lt HOQ7_18.out hg) (fun e => by have h1 := LOQ7.out g hg; have h2 := HIQ4.out g e; have := HM7.out; have := HM8.out; have := HM9.out; have := HM10.out; have := HM11.out; have := HM12.out; have := HM13.out; have := HM14.out; omega))
      have HOR8_19 : Hid ((w19).ownsRow w.heap.size 75 2 (.slice oR8 k pR8) k (flatF gs)) := owns_same HOR8_18.out (fun g hg => far g (owns_lt HOR8_18.out hg) (fun e => by have h1 := LOR8.out g hg; have h2 := HIQ4.out g e; have := HM7.out; have := HM8.out; have := HM9.out; have := HM10.out; have := HM11.out; have := HM12.out; have := HM13.out; have := HM14.out; have := HM15.out; have := HM16.out; have := HM17.out; omega))
      have HBv1_19 : Hid ((w19).heap[qv1]? = some (.cells #[.int .i64 m, .string p, .slice a n cap, .string b] 24)) := blk_far HBv1_18.out far HOQ4_18.out (by decide)
      have HBv2_19 : Hid ((w19).heap[qv2]? = some (.cells #[.int .i64 st, .slice a2 k cap2, .string d] 26)) := blk_far HBv2_18.out far HOQ4_18.out (by decide)
      have HBv3_19 : Hid ((w19).heap[qv3]? = some (.cells #[.string p, .slice oX3 vl.length pX3, .slice oY3 yl.length pY3, .int .i64 st, .slice oG3 k pG3, .string d, .int .i64 t] 34)) := blk_far HBv3_18.out far HOQ4_18.out (by decide)
      have HBv4_19 : Hid ((w19).heap[qv4]? = some (.cells #[.int .i64 m, .string p, .slice oQ4 n pQ4, .string b] 38)) := blk_far HBv4_18.out far HOQ4_18.out (by decide)
      have HBv5_19 : Hid ((w19).heap[qv5]? = some (.cells #[.int .i64 st, .slice oR5 k pR5, .string d] 32)) := blk_far HBv5_18.out far HOQ4_18.out (by decide)
      have HBv6_19 : Hid ((w19).heap[qv6]? = some (.cells #[.string p, .slice oX6 vl.length pX6, .slice oY6 yl.length pY6, .int .i64 st, .slice oG6 k pG6, .string d, .int .i64 t] 34)) := blk_far HBv6_18.out far HOQ4_18.out (by decide)
      have HOQ4_19 : Hid ((w19).ownsRow w.heap.size 75 2 (.slice oQ4 n pQ4) n (flatF (mkG 1 fs n))) := mk
      clear hb18 HOX3_18 HOY3_18 HOG3_18 HOQ4_18 HOR5_18 HOX6_18 HOY6_18 HOG6_18 HOQ7_18 HOR8_18 HBv1_18 HBv2_18 HBv3_18 HBv4_18 HBv5_18 HBv6_18 mk bm far
      clear cv4_0 cv4_1 cv4_2 cv4_3
      have cv5_0 : (w19).cell? ⟨qv5, 0, none⟩ = some (.int .i64 st) := (cell_of HBv5_19.out 0).trans rfl
      have cv5_1 : (w19).cell? ⟨qv5, 1, none⟩ = some (.slice oR5 k pR5) := (cell_of HBv5_19.out 1).trans rfl
      have cv5_2 : (w19).cell? ⟨qv5, 2, none⟩ = some (.string d) := (cell_of HBv5_19.out 2).trans rfl
      rw [show (((1 : Nat) : Int) + 2 * (n : Int)) = ((1 + 2 * n : Nat) : Int) by omega]
      go_wp2_with fail
      refine (markRespFrom_any st _ d k _ gs _ HOR5_19.out hb19.size (1 + 2 * n) (by omega) (by omega)).mono ?_
      rintro e w20 ⟨rfl, mk, bm, far⟩
      have hb20 : Below w.heap.size w w20 := hb19.trans bm
      have HM20 : Hid ((w19).heap.size ≤ w20.heap.size) := bm.size
      have HOX3_20 : Hid ((w20).ownsRow w.heap.size 9 1 (.slice oX3 vl.length pX3) vl.length (vl.map Value.string)) := owns_same HOX3_19.out (fun g hg => far g (owns_lt HOX3_19.out hg) (own_type_ne HOX3_19.out HOR5_19.out (by decide) g hg))
      have HOY3_20 : Hid ((w20).ownsRow w.heap.size 9 1 (.slice oY3 yl.length pY3) yl.length (yl.map Value.string)) := owns_same HOY3_19.out (fun g hg => far g (owns_lt HOY3_19.out hg) (own_type_ne HOY3_19.out HOR5_19.out (by decide) g hg))
      have HOG3_20 : Hid ((w20).ownsRow w.heap.size 75 2 (.slice oG3 k pG3) k (flatF gs)) := owns_same HOG3_19.out (fun g hg => far g (owns_lt HOG3_19.out hg) (fun e => by have h1 := LOR5.out g e; have h2 := HIG3.out g hg; have := HM6.out; have := HM7.out; have := HM8.out; omega))
      have HOQ4_20 : Hid ((w20).ownsRow w.heap.size 75 2 (.slice oQ4 n pQ4) n (flatF (mkG 1 fs n))) := owns_same HOQ4_19.out (fun g hg => far g (owns_lt HOQ4_19.out hg) (fun e => by have h1 := LOR5.out g e; have h2 := HIQ4.out g hg; have := HM7.out; have := HM8.out; omega))
      have HOX6_20 : Hid ((w20).ownsRow w.heap.size 9 1 (.slice oX6 vl.length pX6) vl.length (vl.map Value.string)) := owns_same HOX6_19.out (fun g hg => far g (owns_lt HOX6_19.out hg) (own_type_ne HOX6_19.out HOR5_19.out (by decide) g hg))
      have HOY6_20 : Hid ((w20).ownsRow w.heap.size 9 1 (.slice oY6 yl.length pY6) yl.length (yl.map Value.string)) := owns_same HOY6_19.out (fun g hg => far g (owns_lt HOY6_19.out hg) (own_type_ne HOY6_19.out HOR5_19.out (by decide) g hg))
      have HOG6_20 : Hid ((w20).ownsRow w.heap.size 75 2 (.slice oG6 k pG6) k (flatF gs)) := owns_same HOG6_19.out (fun g hg => far g (owns_lt HOG6_19.out hg) (fun e => by have h1 := LOG6.out g hg; have h2 := HIR5.out g e; have := HM9.out; have := HM10.out; omega))
      have HOQ7_20 : Hid ((w20).ownsRow w.heap.size 75 2 (.slice oQ7 n pQ7) n (flatF fs)) := owns_same HOQ7_19.out (fun g hg => far g (owns_lt HOQ7_19.out hg) (fun e => by have h1 := LOQ7.out g hg; have h2 := HIR5.out g e; have := HM9.out; have := HM10.out; have := HM11.out; have := HM12.out; have := HM13.out; have := HM14.out; omega))
      have HOR8_20 : Hid ((w20).ownsRow w.heap.size 75 2 (.slice oR8 k pR8) k (flatF gs)) := owns_same HOR8_19.out (fun g hg => far g (owns_lt HOR8_19.out hg) (fun e => by have h1 := LOR8.out g hg; have h2 := HIR5.out g e; have := HM9.out; have := HM10.out; have := HM11.out; have := HM12.out; have := HM13.out; have := HM14.out; have := HM15.out; have := HM16.out; have := HM17.out; omega))
      have HBv1_20 : Hid ((w20).heap[qv1]? = some (.cells #[.int .i64 m, .string p, .slice a n cap, .string b] 24)) := blk_far HBv1_19.out far HOR5_19.out (by decide)
      have HBv2_20 : Hid ((w20).heap[qv2]? = some (.cells #[.int .i64 st, .slice a2 k cap2, .string d] 26)) := blk_far HBv2_19.out far HOR5_19.out (by decide)
      have HBv3_20 : Hid ((w20).heap[qv3]? = some (.cells #[.string p, .slice oX3 vl.length pX3, .slice oY3 yl.length pY3, .int .i64 st, .slice oG3 k pG3, .string d, .int .i64 t] 34)) := blk_far HBv3_19.out far HOR5_19.out (by decide)
      have HBv4_20 : Hid ((w20).heap[qv4]? = some (.cells #[.int .i64 m, .string p, .slice oQ4 n pQ4, .string b] 38)) := blk_far HBv4_19.out far HOR5_19.out (by decide)
      have HBv5_20 : Hid ((w20).heap[qv5]? = some (.cells #[.int .i64 st, .slice oR5 k pR5, .string d] 32)) := blk_far HBv5_19.out far HOR5_19.out (by decide)
      have HBv6_20 : Hid ((w20).heap[qv6]? = some (.cells #[.string p, .slice oX6 vl.length pX6, .slice oY6 yl.length pY6, .int .i64 st, .slice oG6 k pG6, .string d, .int .i64 t] 34)) := blk_far HBv6_19.out far HOR5_19.out (by decide)
      have HOR5_20 : Hid ((w20).ownsRow w.heap.size 75 2 (.slice oR5 k pR5) k (flatF (mkG (1 + 2 * n) gs k))) := mk
      clear hb19 HOX3_19 HOY3_19 HOG3_19 HOQ4_19 HOR5_19 HOX6_19 HOY6_19 HOG6_19 HOQ7_19 HOR8_19 HBv1_19 HBv2_19 HBv3_19 HBv4_19 HBv5_19 HBv6_19 mk bm far
      have hkk : ¬ ((((1 + 2 * n : Nat) : Int) + 2 * (k : Int)) < 0) := by omega
      clear cv5_0 cv5_1 cv5_2
      have cv3_0 : (w20).cell? ⟨qv3, 0, none⟩ = some (.string p) := (cell_of HBv3_20.out 0).trans rfl
      have cv3_1 : (w20).cell? ⟨qv3, 1, none⟩ = some (.slice oX3 vl.length pX3) := (cell_of HBv3_20.out 1).trans rfl
      have cv3_2 : (w20).cell? ⟨qv3, 2, none⟩ = some (.slice oY3 yl.length pY3) := (cell_of HBv3_20.out 2).trans rfl
      have cv3_3 : (w20).cell? ⟨qv3, 3, none⟩ = some (.int .i64 st) := (cell_of HBv3_20.out 3).trans rfl
      have cv3_4 : (w20).cell? ⟨qv3, 4, none⟩ = some (.slice oG3 k pG3) := (cell_of HBv3_20.out 4).trans rfl
      have cv3_5 : (w20).cell? ⟨qv3, 5, none⟩ = some (.string d) := (cell_of HBv3_20.out 5).trans rfl
      have cv3_6 : (w20).cell? ⟨qv3, 6, none⟩ = some (.int .i64 t) := (cell_of HBv3_20.out 6).trans rfl
      have cv6_0 : (w20).cell? ⟨qv6, 0, none⟩ = some (.string p) := (cell_of HBv6_20.out 0).trans rfl
      have cv6_1 : (w20).cell? ⟨qv6, 1, none⟩ = some (.slice oX6 vl.length pX6) := (cell_of HBv6_20.out 1).trans rfl
      have cv6_2 : (w20).cell? ⟨qv6, 2, none⟩ = some (.slice oY6 yl.length pY6) := (cell_of HBv6_20.out 2).trans rfl
      have cv6_3 : (w20).cell? ⟨qv6, 3, none⟩ = some (.int .i64 st) := (cell_of HBv6_20.out 3).trans rfl
      have cv6_4 : (w20).cell? ⟨qv6, 4, none⟩ = some (.slice oG6 k pG6) := (cell_of HBv6_20.out 4).trans rfl
      have cv6_5 : (w20).cell? ⟨qv6, 5, none⟩ = some (.string d) := (cell_of HBv6_20.out 5).trans rfl
      have cv6_6 : (w20).cell? ⟨qv6, 6, none⟩ = some (.int .i64 t) := (cell_of HBv6_20.out 6).trans rfl
      go_wp2_with fail
      refine (eqObj_any p vl.length vl yl.length yl st k gs d t _ _ _ _ _ _ _ _ _ ⟨HOX6_20.out, HOY6_20.out, HOG6_20.out, AP6.out⟩ ⟨HOX3_20.out, HOY3_20.out, HOG3_20.out, APX3Y3.out⟩ (by have := HLV.out; omega) (by have := HLV.out; omega) (by omega)).mono ?_
      rintro e w21 ⟨rfl, bw⟩
      have hb21 : Below w.heap.size w (w21) := hb20.trans (bw.mono hb20.size)
      have HM21 : Hid ((w20).heap.size ≤ (w21).heap.size) := bw.size
      have HOX3_21 : Hid ((w21).ownsRow w.heap.size 9 1 (.slice oX3 vl.length pX3) vl.length (vl.map Value.string)) := owns_below HOX3_20.out bw (fun g hg => owns_lt HOX3_20.out hg)
      have HOY3_21 : Hid ((w21).ownsRow w.heap.size 9 1 (.slice oY3 yl.length pY3) yl.length (yl.map Value.string)) := owns_below HOY3_20.out bw (fun g hg => owns_lt HOY3_20.out hg)
      have HOG3_21 : Hid ((w21).ownsRow w.heap.size 75 2 (.slice oG3 k pG3) k (flatF gs)) := owns_below HOG3_20.out bw (fun g hg => owns_lt HOG3_20.out hg)
      have HOQ4_21 : Hid ((w21).ownsRow w.heap.size 75 2 (.slice oQ4 n pQ4) n (flatF (mkG 1 fs n))) := owns_below HOQ4_20.out bw (fun g hg => owns_lt HOQ4_20.out hg)
      have HOR5_21 : Hid ((w21).ownsRow w.heap.size 75 2 (.slice oR5 k pR5) k (flatF (mkG (1 + 2 * n) gs k))) := owns_below HOR5_20.out bw (fun g hg => owns_lt HOR5_20.out hg)
      have HOX6_21 : Hid ((w21).ownsRow w.heap.size 9 1 (.slice oX6 vl.length pX6) vl.length (vl.map Value.string)) := owns_below HOX6_20.out bw (fun g hg => owns_lt HOX6_20.out hg)
      have HOY6_21 : Hid ((w21).ownsRow w.heap.size 9 1 (.slice oY6 yl.length pY6) yl.length (yl.map Value.string)) := owns_below HOY6_20.out bw (fun g hg => owns_lt HOY6_20.out hg)
      have HOG6_21 : Hid ((w21).ownsRow w.heap.size 75 2 (.slice oG6 k pG6) k (flatF gs)) := owns_below HOG6_20.out bw (fun g hg => owns_lt HOG6_20.out hg)
      have HOQ7_21 : Hid ((w21).ownsRow w.heap.size 75 2 (.slice oQ7 n pQ7) n (flatF fs)) := owns_below HOQ7_20.out bw (fun g hg => owns_lt HOQ7_20.out hg)
      have HOR8_21 : Hid ((w21).ownsRow w.heap.size 75 2 (.slice oR8 k pR8) k (flatF gs)) := owns_below HOR8_20.out bw (fun g hg => owns_lt HOR8_20.out hg)
      have HBv1_21 : Hid ((w21).heap[qv1]? = some (.cells #[.int .i64 m, .string p, .slice a n cap, .string b] 24)) := blk_below HBv1_20.out bw
      have HBv2_21 : Hid ((w21).heap[qv2]? = some (.cells #[.int .i64 st, .slice a2 k cap2, .string d] 26)) := blk_below HBv2_20.out bw
      have HBv3_21 : Hid ((w21).heap[qv3]? = some (.cells #[.string p, .slice oX3 vl.length pX3, .slice oY3 yl.length pY3, .int .i64 st, .slice oG3 k pG3, .string d, .int .i64 t] 34)) := blk_below HBv3_20.out bw
      have HBv4_21 : Hid ((w21).heap[qv4]? = some (.cells #[.int .i64 m, .string p, .slice oQ4 n pQ4, .string b] 38)) := blk_below HBv4_20.out bw
      have HBv5_21 : Hid ((w21).heap[qv5]? = some (.cells #[.int .i64 st, .slice oR5 k pR5, .string d] 32)) := blk_below HBv5_20.out bw
      have HBv6_21 : Hid ((w21).heap[qv6]? = some (.cells #[.string p, .slice oX6 vl.length pX6, .slice oY6 yl.length pY6, .int .i64 st, .slice oG6 k pG6, .string d, .int .i64 t] 34)) := blk_below HBv6_20.out bw
      clear hb20 HOX3_20 HOY3_20 HOG3_20 HOQ4_20 HOR5_20 HOX6_20 HOY6_20 HOG6_20 HOQ7_20 HOR8_20 HBv1_20 HBv2_20 HBv3_20 HBv4_20 HBv5_20 HBv6_20 bw
      clear cv3_0 cv3_1 cv3_2 cv3_3 cv3_4 cv3_5 cv3_6 cv6_0 cv6_1 cv6_2 cv6_3 cv6_4 cv6_5 cv6_6
      have cv6_0 : (w21).cell? ⟨qv6, 0, none⟩ = some (.string p) := (cell_of HBv6_21.out 0).trans rfl
      have cv6_1 : (w21).cell? ⟨qv6, 1, none⟩ = some (.slice oX6 vl.length pX6) := (cell_of HBv6_21.out 1).trans rfl
      have cv6_2 : (w21).cell? ⟨qv6, 2, none⟩ = some (.slice oY6 yl.length pY6) := (cell_of HBv6_21.out 2).trans rfl
      have cv6_3 : (w21).cell? ⟨qv6, 3, none⟩ = some (.int .i64 st) := (cell_of HBv6_21.out 3).trans rfl
      have cv6_4 : (w21).cell? ⟨qv6, 4, none⟩ = some (.slice oG6 k pG6) := (cell_of HBv6_21.out 4).trans rfl
      have cv6_5 : (w21).cell? ⟨qv6, 5, none⟩ = some (.string d) := (cell_of HBv6_21.out 5).trans rfl
      have cv6_6 : (w21).cell? ⟨qv6, 6, none⟩ = some (.int .i64 t) := (cell_of HBv6_21.out 6).trans rfl
      go_wp2_with fail
      refine (markObj_any p vl.length vl yl.length yl st k gs d t _ _ _ _ _ ⟨HOX6_21.out, HOY6_21.out, HOG6_21.out, AP6.out⟩ hb21.size 1 (by omega) (by have := HLV.out; omega)).mono ?_
      rintro e w22 ⟨rfl, ⟨mk0, mk1, mk2, _⟩, bm, far⟩
      have hb22 : Below w.heap.size w w22 := hb21.trans bm
      have HM22 : Hid ((w21).heap.size ≤ w22.heap.size) := bm.size
      have HOX3_22 : Hid ((w22).ownsRow w.heap.size 9 1 (.slice oX3 vl.length pX3) vl.length (vl.map Value.string)) := owns_same HOX3_21.out (fun g hg => far g (owns_lt HOX3_21.out hg) (fun e => by have h1 := LOX6.out g e; have h2 := HIX3.out g hg; have := HM6.out; have := HM7.out; have := HM8.out; have := HM9.out; have := HM10.out; omega) (fun e => by have h1 := LOY6.out g e; have h2 := HIX3.out g hg; have := HM6.out; have := HM7.out; have := HM8.out; have := HM9.out; have := HM10.out; omega) (own_type_ne HOX3_21.out HOG6_21.out (by decide) g hg))
      have HOY3_22 : Hid ((w22).ownsRow w.heap.size 9 1 (.slice oY3 yl.length pY3) yl.length (yl.map Value.string)) := owns_same HOY3_21.out (fun g hg => far g (owns_lt HOY3_21.out hg) (fun e => by have h1 := LOX6.out g e; have h2 := HIY3.out g hg; have := HM6.out; have := HM7.out; have := HM8.out; have := HM9.out; have := HM10.out; omega) (fun e => by have h1 := LOY6.out g e; have h2 := HIY3.out g hg; have := HM6.out; have := HM7.out; have := HM8.out; have := HM9.out; have := HM10.out; omega) (own_type_ne HOY3_21.out HOG6_21.out (by decide) g hg))
      have HOG3_22 : Hid ((w22).ownsRow w.heap.size 75 2 (.slice oG3 k pG3) k (flatF gs)) := owns_same HOG3_21.out (fun g hg => far g (owns_lt HOG3_21.out hg) (own_type_ne HOG3_21.out HOX6_21.out (by decide) g hg) (own_type_ne HOG3_21.out HOY6_21.out (by decide) g hg) (fun e => by have h1 := LOG6.out g e; have h2 := HIG3.out g hg; have := HM6.out; have := HM7.out; have := HM8.out; have := HM9.out; have := HM10.out; omega))
      have HOQ4_22 : Hid ((w22).ownsRow w.heap.size 75 2 (.slice oQ4 n pQ4) n (flatF (mkG 1 fs n))) := owns_same HOQ4_21.out (fun g hg => far g (owns_lt HOQ4_21.out hg) (own_type_ne HOQ4_21.out HOX6_21.out (by decide) g hg) (own_type_ne HOQ4_21.out HOY6_21.out (by decide) g hg) (fun e => by have h1 := LOG6.out g e; have h2 := HIQ4.out g hg; have := HM7.out; have := HM8.out; have := HM9.out; have := HM10.out; omega))
      have HOR5_22 : Hid ((w22).ownsRow w.heap.size 75 2 (.slice oR5 k pR5) k (flatF (mkG (1 + 2 * n) gs k))) := owns_same HOR5_21.out (fun g hg => far g (owns_lt HOR5_21.out hg) (own_type_ne HOR5_21.out HOX6_21.out (by decide) g hg) (own_type_ne HOR5_21.out HOY6_21.out (by decide) g hg) (fun e => by have h1 := LOG6.out g e; have h2 := HIR5.out g hg; have := HM9.out; have := HM10.out; omega))
      have HOQ7_22 : Hid ((w22).ownsRow w.heap.size 75 2 (.slice oQ7 n pQ7) n (flatF fs)) := owns_same HOQ7_21.out (fun g hg => far g (owns_lt HOQ7_21.out hg) (own_type_ne HOQ7_21.out HOX6_21.out (by decide) g hg) (own_type_ne HOQ7_21.out HOY6_21.out (by decide) g hg) (fun e => by have h1 := LOQ7.out g hg; have h2 := HIG6.out g e; have := HM11.out; have := HM12.out; have := HM13.out; have := HM14.out; omega))
      have HOR8_22 : Hid ((w22).ownsRow w.heap.size 75 2 (.slice oR8 k pR8) k (flatF gs)) := owns_same HOR8_21.out (fun g hg => far g (owns_lt HOR8_21.out hg) (own_type_ne HOR8_21.out HOX6_21.out (by decide) g hg) (own_type_ne HOR8_21.out HOY6_21.out (by decide) g hg) (fun e => by have h1 := LOR8.out g hg; have h2 := HIG6.out g e; have := HM11.out; have := HM12.out; have := HM13.out; have := HM14.out; have := HM15.out; have := HM16.out; have := HM17.out; omega))
      have HBv1_22 : Hid ((w22).heap[qv1]? = some (.cells #[.int .i64 m, .string p, .slice a n cap, .string b] 24)) := (far _ (blk_lt HBv1_21.out) (fun e => own_ne HOX6_21.out HBv1_21.out (by decide) _ e rfl) (fun e => own_ne HOY6_21.out HBv1_21.out (by decide) _ e rfl) (fun e => own_ne HOG6_21.out HBv1_21.out (by decide) _ e rfl)).trans HBv1_21.out
      have HBv2_22 : Hid ((w22).heap[qv2]? = some (.cells #[.int .i64 st, .slice a2 k cap2, .string d] 26)) := (far _ (blk_lt HBv2_21.out) (fun e => own_ne HOX6_21.out HBv2_21.out (by decide) _ e rfl) (fun e => own_ne HOY6_21.out HBv2_21.out (by decide) _ e rfl) (fun e => own_ne HOG6_21.out HBv2_21.out (by decide) _ e rfl)).trans HBv2_21.out
      have HBv3_22 : Hid ((w22).heap[qv3]? = some (.cells #[.string p, .slice oX3 vl.length pX3, .slice oY3 yl.length pY3, .int .i64 st, .slice oG3 k pG3, .string d, .int .i64 t] 34)) := (far _ (blk_lt HBv3_21.out) (fun e => own_ne HOX6_21.out HBv3_21.out (by decide) _ e rfl) (fun e => own_ne HOY6_21.out HBv3_21.out (by decide) _ e rfl) (fun e => own_ne HOG6_21.out HBv3_21.out (by decide) _ e rfl)).trans HBv3_21.out
      have HBv4_22 : Hid ((w22).heap[qv4]? = some (.cells #[.int .i64 m, .string p, .slice oQ4 n pQ4, .string b] 38)) := (far _ (blk_lt HBv4_21.out) (fun e => own_ne HOX6_21.out HBv4_21.out (by decide) _ e rfl) (fun e => own_ne HOY6_21.out HBv4_21.out (by decide) _ e rfl) (fun e => own_ne HOG6_21.out HBv4_21.out (by decide) _ e rfl)).trans HBv4_21.out
      have HBv5_22 : Hid ((w22).heap[qv5]? = some (.cells #[.int .i64 st, .slice oR5 k pR5, .string d] 32)) := (far _ (blk_lt HBv5_21.out) (fun e => own_ne HOX6_21.out HBv5_21.out (by decide) _ e rfl) (fun e => own_ne HOY6_21.out HBv5_21.out (by decide) _ e rfl) (fun e => own_ne HOG6_21.out HBv5_21.out (by decide) _ e rfl)).trans HBv5_21.out
      have HBv6_22 : Hid ((w22).heap[qv6]? = some (.cells #[.string p, .slice oX6 vl.length pX6, .slice oY6 yl.length pY6, .int .i64 st, .slice oG6 k pG6, .string d, .int .i64 t] 34)) := (far _ (blk_lt HBv6_21.out) (fun e => own_ne HOX6_21.out HBv6_21.out (by decide) _ e rfl) (fun e => own_ne HOY6_21.out HBv6_21.out (by decide) _ e rfl) (fun e => own_ne HOG6_21.out HBv6_21.out (by decide) _ e rfl)).trans HBv6_21.out
      have HOX6_22 : Hid ((w22).ownsRow w.heap.size 9 1 (.slice oX6 vl.length pX6) vl.length ((mkT 1 vl vl.length).map Value.string)) := mk0
      have HOY6_22 : Hid ((w22).ownsRow w.heap.size 9 1 (.slice oY6 yl.length pY6) yl.length ((mkT (1 + vl.length) yl yl.length).map Value.string)) := mk1
      have HOG6_22 : Hid ((w22).ownsRow w.heap.size 75 2 (.slice oG6 k pG6) k (flatF (mkG (1 + vl.length + yl.length) gs k))) := mk2
      clear hb21 HOX3_21 HOY3_21 HOG3_21 HOQ4_21 HOR5_21 HOX6_21 HOY6_21 HOG6_21 HOQ7_21 HOR8_21 HBv1_21 HBv2_21 HBv3_21 HBv4_21 HBv5_21 HBv6_21 mk0 mk1 mk2 bm far
      clear cv6_0 cv6_1 cv6_2 cv6_3 cv6_4 cv6_5 cv6_6
      have cv6_0 : (w22).cell? ⟨qv6, 0, none⟩ = some (.string p) := (cell_of HBv6_22.out 0).trans rfl
      have cv6_1 : (w22).cell? ⟨qv6, 1, none⟩ = some (.slice oX6 vl.length pX6) := (cell_of HBv6_22.out 1).trans rfl
      have cv6_2 : (w22).cell? ⟨qv6, 2, none⟩ = some (.slice oY6 yl.length pY6) := (cell_of HBv6_22.out 2).trans rfl
      have cv6_3 : (w22).cell? ⟨qv6, 3, none⟩ = some (.int .i64 st) := (cell_of HBv6_22.out 3).trans rfl
      have cv6_4 : (w22).cell? ⟨qv6, 4, none⟩ = some (.slice oG6 k pG6) := (cell_of HBv6_22.out 4).trans rfl
      have cv6_5 : (w22).cell? ⟨qv6, 5, none⟩ = some (.string d) := (cell_of HBv6_22.out 5).trans rfl
      have cv6_6 : (w22).cell? ⟨qv6, 6, none⟩ = some (.int .i64 t) := (cell_of HBv6_22.out 6).trans rfl
      go_wp2_with fail
      refine (heldObj_any p vl.length (mkT 1 vl vl.length) yl.length (mkT (1 + vl.length) yl yl.length) st k (mkG (1 + vl.length + yl.length) gs k) d t _ _ _ _ _ ⟨HOX6_22.out, HOY6_22.out, HOG6_22.out, AP6.out⟩ 1 (by omega) (by have := HLV.out; omega) (fun j hj => mkT_at 1 vl j hj _ hj) (fun j hj => mkT_at (1 + vl.length) yl j hj _ hj) (fun j hj => mkG_at (1 + vl.length + yl.length) gs j k (by have := HL2.out; omega) hj)).mono ?_
      rintro e w23 ⟨rfl, bw⟩
      have hb23 : Below w.heap.size w (w23) := hb22.trans (bw.mono hb22.size)
      have HM23 : Hid ((w22).heap.size ≤ (w23).heap.size) := bw.size
      have HOX3_23 : Hid ((w23).ownsRow w.heap.size 9 1 (.slice oX3 vl.length pX3) vl.length (vl.map Value.string)) := owns_below HOX3_22.out bw (fun g hg => owns_lt HOX3_22.out hg)
      have HOY3_23 : Hid ((w23).ownsRow w.heap.size 9 1 (.slice oY3 yl.length pY3) yl.length (yl.map Value.string)) := owns_below HOY3_22.out bw (fun g hg => owns_lt HOY3_22.out hg)
      have HOG3_23 : Hid ((w23).ownsRow w.heap.size 75 2 (.slice oG3 k pG3) k (flatF gs)) := owns_below HOG3_22.out bw (fun g hg => owns_lt HOG3_22.out hg)
      have HOQ4_23 : Hid ((w23).ownsRow w.heap.size 75 2 (.slice oQ4 n pQ4) n (flatF (mkG 1 fs n))) := owns_below HOQ4_22.out bw (fun g hg => owns_lt HOQ4_22.out hg)
      have HOR5_23 : Hid ((w23).ownsRow w.heap.size 75 2 (.slice oR5 k pR5) k (flatF (mkG (1 + 2 * n) gs k))) := owns_below HOR5_22.out bw (fun g hg => owns_lt HOR5_22.out hg)
      have HOX6_23 : Hid ((w23).ownsRow w.heap.size 9 1 (.slice oX6 vl.length pX6) vl.length ((mkT 1 vl vl.length).map Value.string)) := owns_below HOX6_22.out bw (fun g hg => owns_lt HOX6_22.out hg)
      have HOY6_23 : Hid ((w23).ownsRow w.heap.size 9 1 (.slice oY6 yl.length pY6) yl.length ((mkT (1 + vl.length) yl yl.length).map Value.string)) := owns_below HOY6_22.out bw (fun g hg => owns_lt HOY6_22.out hg)
      have HOG6_23 : Hid ((w23).ownsRow w.heap.size 75 2 (.slice oG6 k pG6) k (flatF (mkG (1 + vl.length + yl.length) gs k))) := owns_below HOG6_22.out bw (fun g hg => owns_lt HOG6_22.out hg)
      have HOQ7_23 : Hid ((w23).ownsRow w.heap.size 75 2 (.slice oQ7 n pQ7) n (flatF fs)) := owns_below HOQ7_22.out bw (fun g hg => owns_lt HOQ7_22.out hg)
      have HOR8_23 : Hid ((w23).ownsRow w.heap.size 75 2 (.slice oR8 k pR8) k (flatF gs)) := owns_below HOR8_22.out bw (fun g hg => owns_lt HOR8_22.out hg)
      have HBv1_23 : Hid ((w23).heap[qv1]? = some (.cells #[.int .i64 m, .string p, .slice a n cap, .string b] 24)) := blk_below HBv1_22.out bw
      have HBv2_23 : Hid ((w23).heap[qv2]? = some (.cells #[.int .i64 st, .slice a2 k cap2, .string d] 26)) := blk_below HBv2_22.out bw
      have HBv3_23 : Hid ((w23).heap[qv3]? = some (.cells #[.string p, .slice oX3 vl.length pX3, .slice oY3 yl.length pY3, .int .i64 st, .slice oG3 k pG3, .string d, .int .i64 t] 34)) := blk_below HBv3_22.out bw
      have HBv4_23 : Hid ((w23).heap[qv4]? = some (.cells #[.int .i64 m, .string p, .slice oQ4 n pQ4, .string b] 38)) := blk_below HBv4_22.out bw
      have HBv5_23 : Hid ((w23).heap[qv5]? = some (.cells #[.int .i64 st, .slice oR5 k pR5, .string d] 32)) := blk_below HBv5_22.out bw
      have HBv6_23 : Hid ((w23).heap[qv6]? = some (.cells #[.string p, .slice oX6 vl.length pX6, .slice oY6 yl.length pY6, .int .i64 st, .slice oG6 k pG6, .string d, .int .i64 t] 34)) := blk_below HBv6_22.out bw
      clear hb22 HOX3_22 HOY3_22 HOG3_22 HOQ4_22 HOR5_22 HOX6_22 HOY6_22 HOG6_22 HOQ7_22 HOR8_22 HBv1_22 HBv2_22 HBv3_22 HBv4_22 HBv5_22 HBv6_22 bw
      have hkh9 : ¬ (((1 + vl.length + yl.length + 2 * k : Nat) : Int) < 0) := by omega
      clear cv6_0 cv6_1 cv6_2 cv6_3 cv6_4 cv6_5 cv6_6
      go_upto_region 31 with fail
      have HSS : Hid (∀ W, Below w23.heap.size w23 W → W.heap[qv1]? = some (.cells #[.int .i64 m, .string p, .slice a n cap, .string b] 24) ∧ W.heap[qv2]? = some (.cells #[.int .i64 st, .slice a2 k cap2, .string d] 26)) := fun W h => ⟨blk_below HBv1_23.out h, blk_below HBv2_23.out h⟩
      go_cut [17, 18] (fun sx sx18 wx => ∃ (q : Nat) (oX12 : Option Addr) (pX12 : Nat) (oY12 : Option Addr) (pY12 : Nat) (oG12 : Option Addr) (pG12 : Nat), sx = .pointer (some ⟨q, 0, none⟩) ∧ sx18 = .bool true ∧ Hid (Below w23.heap.size w23 wx ∧ wx.heap[q]? = some (.cells #[.string p, .slice oX12 vl.length pX12, .slice oY12 yl.length pY12, .int .i64 st, .slice oG12 k pG12, .string d, .int .i64 t] 34) ∧ w23.heap.size ≤ q ∧ (wx).ownsRow w23.heap.size 9 1 (.slice oX12 vl.length pX12) vl.length (vl.map Value.string) ∧ (wx).ownsRow w23.heap.size 9 1 (.slice oY12 yl.length pY12) yl.length (yl.map Value.string) ∧ (wx).ownsRow w23.heap.size 75 2 (.slice oG12 k pG12) k (flatF gs) ∧ (∀ g, (Value.ownBlock (.slice oX12 vl.length pX12)) = some g → (Value.ownBlock (.slice oY12 yl.length pY12)) ≠ some g)))
      case first =>
        refine wp_region_held_drew (S := fun W => W.heap[qv1]? = some (.cells #[.int .i64 m, .string p, .slice a n cap, .string b] 24) ∧ W.heap[qv2]? = some (.cells #[.int .i64 st, .slice a2 k cap2, .string d] 26)) (by kernel_rfl) (HSS.out _ (Below.refl _ _).drew) (fun _ => ?_)
        obtain ⟨w24, hX⟩ : ∃ X, X = w23.drew := ⟨_, rfl⟩
        have bw : Below w23.heap.size w23 w24 := by rw [hX]; exact (Below.refl _ _).drew
        rw [← hX]
        have hb24 : Below w.heap.size w (w24) := hb23.trans (bw.mono hb23.size)
        have HM24 : Hid ((w23).heap.size ≤ (w24).heap.size) := bw.size
        have HOX3_24 : Hid ((w24).ownsRow w.heap.size 9 1 (.slice oX3 vl.length pX3) vl.length (vl.map Value.string)) := owns_below HOX3_23.out bw (fun g hg => owns_lt HOX3_23.out hg)
        have HOY3_24 : Hid ((w24).ownsRow w.heap.size 9 1 (.slice oY3 yl.length pY3) yl.length (yl.map Value.string)) := owns_below HOY3_23.out bw (fun g hg => owns_lt HOY3_23.out hg)
        have HOG3_24 : Hid ((w24).ownsRow w.heap.size 75 2 (.slice oG3 k pG3) k (flatF gs)) := owns_below HOG3_23.out bw (fun g hg => owns_lt HOG3_23.out hg)
        have HOQ4_24 : Hid ((w24).ownsRow w.heap.size 75 2 (.slice oQ4 n pQ4) n (flatF (mkG 1 fs n))) := owns_below HOQ4_23.out bw (fun g hg => owns_lt HOQ4_23.out hg)
        have HOR5_24 : Hid ((w24).ownsRow w.heap.size 75 2 (.slice oR5 k pR5) k (flatF (mkG (1 + 2 * n) gs k))) := owns_below HOR5_23.out bw (fun g hg => owns_lt HOR5_23.out hg)
        have HOX6_24 : Hid ((w24).ownsRow w.heap.size 9 1 (.slice oX6 vl.length pX6) vl.length ((mkT 1 vl vl.length).map Value.string)) := owns_below HOX6_23.out bw (fun g hg => owns_lt HOX6_23.out hg)
        have HOY6_24 : Hid ((w24).ownsRow w.heap.size 9 1 (.slice oY6 yl.length pY6) yl.length ((mkT (1 + vl.length) yl yl.length).map Value.string)) := owns_below HOY6_23.out bw (fun g hg => owns_lt HOY6_23.out hg)
        have HOG6_24 : Hid ((w24).ownsRow w.heap.size 75 2 (.slice oG6 k pG6) k (flatF (mkG (1 + vl.length + yl.length) gs k))) := owns_below HOG6_23.out bw (fun g hg => owns_lt HOG6_23.out hg)
        have HOQ7_24 : Hid ((w24).ownsRow w.heap.size 75 2 (.slice oQ7 n pQ7) n (flatF fs)) := owns_below HOQ7_23.out bw (fun g hg => owns_lt HOQ7_23.out hg)
        have HOR8_24 : Hid ((w24).ownsRow w.heap.size 75 2 (.slice oR8 k pR8) k (flatF gs)) := owns_below HOR8_23.out bw (fun g hg => owns_lt HOR8_23.out hg)
        have HBv1_24 : Hid ((w24).heap[qv1]? = some (.cells #[.int .i64 m, .string p, .slice a n cap, .string b] 24)) := blk_below HBv1_23.out bw
        have HBv2_24 : Hid ((w24).heap[qv2]? = some (.cells #[.int .i64 st, .slice a2 k cap2, .string d] 26)) := blk_below HBv2_23.out bw
        have HBv3_24 : Hid ((w24).heap[qv3]? = some (.cells #[.string p, .slice oX3 vl.length pX3, .slice oY3 yl.length pY3, .int .i64 st, .slice oG3 k pG3, .string d, .int .i64 t] 34)) := blk_below HBv3_23.out bw
        have HBv4_24 : Hid ((w24).heap[qv4]? = some (.cells #[.int .i64 m, .string p, .slice oQ4 n pQ4, .string b] 38)) := blk_below HBv4_23.out bw
        have HBv5_24 : Hid ((w24).heap[qv5]? = some (.cells #[.int .i64 st, .slice oR5 k pR5, .string d] 32)) := blk_below HBv5_23.out bw
        have HBv6_24 : Hid ((w24).heap[qv6]? = some (.cells #[.string p, .slice oX6 vl.length pX6, .slice oY6 yl.length pY6, .int .i64 st, .slice oG6 k pG6, .string d, .int .i64 t] 34)) := blk_below HBv6_23.out bw
        have HX_24 : Hid (Below w23.heap.size w23 w24) := bw
        clear bw hX
        refine wpAnyH_takeD (i := 0) (v := .agg #[.int .i64 m, .string p, .slice a n cap, .string b]) (some 99) rfl rfl (by kernel_rfl) (by kernel_rfl) (by kernel_rfl) (fun _ _ _ h => h) (Or.inl ⟨by rfl, by intro W hW; obtain ⟨hhv1, hhv2⟩ := hW; have y0 := (cell_of hhv1 0).trans rfl; have y1 := (cell_of hhv1 1).trans rfl; have y2 := (cell_of hhv1 2).trans rfl; have y3 := (cell_of hhv1 3).trans rfl; go_simp⟩) (HSS.out _ HX_24.out) ?_
        simp only [Act.put, List.setIfInBounds_toArray, List.set_cons_zero, List.set_cons_succ]
        refine wpAnyH_takeD (i := 2) (v := .agg #[.int .i64 st, .slice a2 k cap2, .string d]) (some 101) rfl rfl (by kernel_rfl) (by kernel_rfl) (by kernel_rfl) (fun _ _ _ h => h) (Or.inl ⟨by rfl, by intro W hW; obtain ⟨hhv1, hhv2⟩ := hW; have y0 := (cell_of hhv2 0).trans rfl; have y1 := (cell_of hhv2 1).trans rfl; have y2 := (cell_of hhv2 2).trans rfl; go_simp⟩) (HSS.out _ HX_24.out) ?_
        simp only [Act.put, List.setIfInBounds_toArray, List.set_cons_zero, List.set_cons_succ]
        refine wpAnyH_takeD (i := 4) (v := .int .i64 t) (some 103) rfl rfl (by kernel_rfl) (by kernel_rfl) (by kernel_rfl) (fun _ _ _ h => h) (Or.inl ⟨by rfl, by intro W _; go_simp⟩) (HSS.out _ HX_24.out) ?_
        simp only [Act.put, List.setIfInBounds_toArray, List.set_cons_zero, List.set_cons_succ]
        refine wpAnyH_ready (rs := [1, 9]) (by kernel_rfl) (by simp) ?_
        refine AllReadyH.cons rfl (fun K hK => ?_) (AllReadyH.cons rfl (fun K hK => ?_) AllReadyH.nil)
        · go_simp
          refine (toReq_any m p a n cap b fs w.heap.size _ (HA1.out _ hb24) hb24.size hm1).mono ?_
          rintro e w25 ⟨vv, rfl, ownQ10, bw⟩
          obtain ⟨oQ10, pQ10, rfl⟩ := slice_of_owns ownQ10
          have hb25 : Below w.heap.size w (w25) := hb24.trans (bw.mono hb24.size)
          have HM25 : Hid ((w24).heap.size ≤ (w25).heap.size) := bw.size
          have HOX3_25 : Hid ((w25).ownsRow w.heap.size 9 1 (.slice oX3 vl.length pX3) vl.length (vl.map Value.string)) := owns_below HOX3_24.out bw (fun g hg => owns_lt HOX3_24.out hg)
          have HOY3_25 : Hid ((w25).ownsRow w.heap.size 9 1 (.slice oY3 yl.length pY3) yl.length (yl.map Value.string)) := owns_below HOY3_24.out bw (fun g hg => owns_lt HOY3_24.out hg)
          have HOG3_25 : Hid ((w25).ownsRow w.heap.size 75 2 (.slice oG3 k pG3) k (flatF gs)) := owns_below HOG3_24.out bw (fun g hg => owns_lt HOG3_24.out hg)
          have HOQ4_25 : Hid ((w25).ownsRow w.heap.size 75 2 (.slice oQ4 n pQ4) n (flatF (mkG 1 fs n))) := owns_below HOQ4_24.out bw (fun g hg => owns_lt HOQ4_24.out hg)
          have HOR5_25 : Hid ((w25).ownsRow w.heap.size 75 2 (.slice oR5 k pR5) k (flatF (mkG (1 + 2 * n) gs k))) := owns_below HOR5_24.out bw (fun g hg => owns_lt HOR5_24.out hg)
          have HOX6_25 : Hid ((w25).ownsRow w.heap.size 9 1 (.slice oX6 vl.length pX6) vl.length ((mkT 1 vl vl.length).map Value.string)) := owns_below HOX6_24.out bw (fun g hg => owns_lt HOX6_24.out hg)
          have HOY6_25 : Hid ((w25).ownsRow w.heap.size 9 1 (.slice oY6 yl.length pY6) yl.length ((mkT (1 + vl.length) yl yl.length).map Value.string)) := owns_below HOY6_24.out bw (fun g hg => owns_lt HOY6_24.out hg)
          have HOG6_25 : Hid ((w25).ownsRow w.heap.size 75 2 (.slice oG6 k pG6) k (flatF (mkG (1 + vl.length + yl.length) gs k))) := owns_below HOG6_24.out bw (fun g hg => owns_lt HOG6_24.out hg)
          have HOQ7_25 : Hid ((w25).ownsRow w.heap.size 75 2 (.slice oQ7 n pQ7) n (flatF fs)) := owns_below HOQ7_24.out bw (fun g hg => owns_lt HOQ7_24.out hg)
          have HOR8_25 : Hid ((w25).ownsRow w.heap.size 75 2 (.slice oR8 k pR8) k (flatF gs)) := owns_below HOR8_24.out bw (fun g hg => owns_lt HOR8_24.out hg)
          have HBv1_25 : Hid ((w25).heap[qv1]? = some (.cells #[.int .i64 m, .string p, .slice a n cap, .string b] 24)) := blk_below HBv1_24.out bw
          have HBv2_25 : Hid ((w25).heap[qv2]? = some (.cells #[.int .i64 st, .slice a2 k cap2, .string d] 26)) := blk_below HBv2_24.out bw
          have HBv3_25 : Hid ((w25).heap[qv3]? = some (.cells #[.string p, .slice oX3 vl.length pX3, .slice oY3 yl.length pY3, .int .i64 st, .slice oG3 k pG3, .string d, .int .i64 t] 34)) := blk_below HBv3_24.out bw
          have HBv4_25 : Hid ((w25).heap[qv4]? = some (.cells #[.int .i64 m, .string p, .slice oQ4 n pQ4, .string b] 38)) := blk_below HBv4_24.out bw
          have HBv5_25 : Hid ((w25).heap[qv5]? = some (.cells #[.int .i64 st, .slice oR5 k pR5, .string d] 32)) := blk_below HBv5_24.out bw
          have HBv6_25 : Hid ((w25).heap[qv6]? = some (.cells #[.string p, .slice oX6 vl.length pX6, .slice oY6 yl.length pY6, .int .i64 st, .slice oG6 k pG6, .string d, .int .i64 t] 34)) := blk_below HBv6_24.out bw
          have HOQ10_25 : Hid ((w25).ownsRow w.heap.size 75 2 (.slice oQ10 n pQ10) n (flatF fs)) := owns_wide ownQ10 hb24.size
          have LOQ10 : Hid (∀ g, (Value.ownBlock (.slice oQ10 n pQ10)) = some g → (w24).heap.size ≤ g) := fun g hg => owns_ge ownQ10 hg
          have HIQ10 : Hid (∀ g, (Value.ownBlock (.slice oQ10 n pQ10)) = some g → g < (w25).heap.size) := fun g hg => owns_lt ownQ10 hg
          clear ownQ10
          clear hb24 HOX3_24 HOY3_24 HOG3_24 HOQ4_24 HOR5_24 HOX6_24 HOY6_24 HOG6_24 HOQ7_24 HOR8_24 HBv1_24 HBv2_24 HBv3_24 HBv4_24 HBv5_24 HBv6_24
          have HX_25 : Hid (Below w23.heap.size w23 w25) := HX_24.out.trans (bw.mono HX_24.out.size)
          refine hK.out _ _ (HSS.out _ HX_25.out) (fun _ => ?_)
          clear hK K bw HX_24
          refine wpAnyH_ready (rs := [3, 9]) (by kernel_rfl) (by simp) ?_
          refine AllReadyH.cons rfl (fun K hK => ?_) (AllReadyH.cons rfl (fun K hK => ?_) AllReadyH.nil)
          · go_simp
            refine (toResp_any st a2 k cap2 d gs w.heap.size _ (HA2.out _ hb25) hb25.size hm2).mono ?_
            rintro e w26 ⟨vv, rfl, ownR11, bw⟩
            obtain ⟨oR11, pR11, rfl⟩ := slice_of_owns ownR11
            have hb26 : Below w.heap.size w (w26) := hb25.trans (bw.mono hb25.size)
            have HM26 : Hid ((w25).heap.size ≤ (w26).heap.size) := bw.size
            have HOX3_26 : Hid ((w26).ownsRow w.heap.size 9 1 (.slice oX3 vl.length pX3) vl.length (vl.map Value.string)) := owns_below HOX3_25.out bw (fun g hg => owns_lt HOX3_25.out hg)
            have HOY3_26 : Hid ((w26).ownsRow w.heap.size 9 1 (.slice oY3 yl.length pY3) yl.length (yl.map Value.string)) := owns_below HOY3_25.out bw (fun g hg => owns_lt HOY3_25.out hg)
            have HOG3_26 : Hid ((w26).ownsRow w.heap.size 75 2 (.slice oG3 k pG3) k (flatF gs)) := owns_below HOG3_25.out bw (fun g hg => owns_lt HOG3_25.out hg)
            have HOQ4_26 : Hid ((w26).ownsRow w.heap.size 75 2 (.slice oQ4 n pQ4) n (flatF (mkG 1 fs n))) := owns_below HOQ4_25.out bw (fun g hg => owns_lt HOQ4_25.out hg)
            have HOR5_26 : Hid ((w26).ownsRow w.heap.size 75 2 (.slice oR5 k pR5) k (flatF (mkG (1 + 2 * n) gs k))) := owns_below HOR5_25.out bw (fun g hg => owns_lt HOR5_25.out hg)
            have HOX6_26 : Hid ((w26).ownsRow w.heap.size 9 1 (.slice oX6 vl.length pX6) vl.length ((mkT 1 vl vl.length).map Value.string)) := owns_below HOX6_25.out bw (fun g hg => owns_lt HOX6_25.out hg)
            have HOY6_26 : Hid ((w26).ownsRow w.heap.size 9 1 (.slice oY6 yl.length pY6) yl.length ((mkT (1 + vl.length) yl yl.length).map Value.string)) := owns_below HOY6_25.out bw (fun g hg => owns_lt HOY6_25.out hg)
            have HOG6_26 : Hid ((w26).ownsRow w.heap.size 75 2 (.slice oG6 k pG6) k (flatF (mkG (1 + vl.length + yl.length) gs k))) := owns_below HOG6_25.out bw (fun g hg => owns_lt HOG6_25.out hg)
            have HOQ7_26 : Hid ((w26).ownsRow w.heap.size 75 2 (.slice oQ7 n pQ7) n (flatF fs)) := owns_below HOQ7_25.out bw (fun g hg => owns_lt HOQ7_25.out hg)
            have HOR8_26 : Hid ((w26).ownsRow w.heap.size 75 2 (.slice oR8 k pR8) k (flatF gs)) := owns_below HOR8_25.out bw (fun g hg => owns_lt HOR8_25.out hg)
            have HOQ10_26 : Hid ((w26).ownsRow w.heap.size 75 2 (.slice oQ10 n pQ10) n (flatF fs)) := owns_below HOQ10_25.out bw (fun g hg => owns_lt HOQ10_25.out hg)
            have HBv1_26 : Hid ((w26).heap[qv1]? = some (.cells #[.int .i64 m, .string p, .slice a n cap, .string b] 24)) := blk_below HBv1_25.out bw
            have HBv2_26 : Hid ((w26).heap[qv2]? = some (.cells #[.int .i64 st, .slice a2 k cap2, .string d] 26)) := blk_below HBv2_25.out bw
            have HBv3_26 : Hid ((w26).heap[qv3]? = some (.cells #[.string p, .slice oX3 vl.length pX3, .slice oY3 yl.length pY3, .int .i64 st, .slice oG3 k pG3, .string d, .int .i64 t] 34)) := blk_below HBv3_25.out bw
            have HBv4_26 : Hid ((w26).heap[qv4]? = some (.cells #[.int .i64 m, .string p, .slice oQ4 n pQ4, .string b] 38)) := blk_below HBv4_25.out bw
            have HBv5_26 : Hid ((w26).heap[qv5]? = some (.cells #[.int .i64 st, .slice oR5 k pR5, .string d] 32)) := blk_below HBv5_25.out bw
            have HBv6_26 : Hid ((w26).heap[qv6]? = some (.cells #[.string p, .slice oX6 vl.length pX6, .slice oY6 yl.length pY6, .int .i64 st, .slice oG6 k pG6, .string d, .int .i64 t] 34)) := blk_below HBv6_25.out bw
            have HOR11_26 : Hid ((w26).ownsRow w.heap.size 75 2 (.slice oR11 k pR11) k (flatF gs)) := owns_wide ownR11 hb25.size
            have LOR11 : Hid (∀ g, (Value.ownBlock (.slice oR11 k pR11)) = some g → (w25).heap.size ≤ g) := fun g hg => owns_ge ownR11 hg
            have HIR11 : Hid (∀ g, (Value.ownBlock (.slice oR11 k pR11)) = some g → g < (w26).heap.size) := fun g hg => owns_lt ownR11 hg
            clear ownR11
            clear hb25 HOX3_25 HOY3_25 HOG3_25 HOQ4_25 HOR5_25 HOX6_25 HOY6_25 HOG6_25 HOQ7_25 HOR8_25 HOQ10_25 HBv1_25 HBv2_25 HBv3_25 HBv4_25 HBv5_25 HBv6_25
            have HX_26 : Hid (Below w23.heap.size w23 w26) := HX_25.out.trans (bw.mono HX_25.out.size)
            refine hK.out _ _ (HSS.out _ HX_26.out) (fun _ => ?_)
            clear hK K bw HX_25
            refine wpAnyH_ready (rs := [5, 9]) (by kernel_rfl) (by simp) ?_
            refine AllReadyH.cons rfl (fun K hK => ?_) (AllReadyH.cons rfl (fun K hK => ?_) AllReadyH.nil)
            · go_simp
              refine (HIM.out _ _ _ _ _ HOQ10_26.out HOR11_26.out).mono ?_
              rintro e w27 ⟨vv1, vv2, vv3, rfl, ⟨ownX12, ownY12, ownG12, ne12⟩, bw⟩
              obtain ⟨oX12, pX12, rfl⟩ := slice_of_owns ownX12
              obtain ⟨oY12, pY12, rfl⟩ := slice_of_owns ownY12
              obtain ⟨oG12, pG12, rfl⟩ := slice_of_owns ownG12
              have AP12 : Hid (∀ j, (Value.slice oX12 vl.length pX12).ownBlock = some j → (Value.slice oY12 yl.length pY12).ownBlock ≠ some j) := ne12
              clear ne12
              have hb27 : Below w.heap.size w (w27) := hb26.trans (bw.mono hb26.size)
              have HM27 : Hid ((w26).heap.size ≤ (w27).heap.size) := bw.size
              have HOX3_27 : Hid ((w27).ownsRow w.heap.size 9 1 (.slice oX3 vl.length pX3) vl.length (vl.map Value.string)) := owns_below HOX3_26.out bw (fun g hg => owns_lt HOX3_26.out hg)
              have HOY3_27 : Hid ((w27).ownsRow w.heap.size 9 1 (.slice oY3 yl.length pY3) yl.length (yl.map Value.string)) := owns_below HOY3_26.out bw (fun g hg => owns_lt HOY3_26.out hg)
              have HOG3_27 : Hid ((w27).ownsRow w.heap.size 75 2 (.slice oG3 k pG3) k (flatF gs)) := owns_below HOG3_26.out bw (fun g hg => owns_lt HOG3_26.out hg)
              have HOQ4_27 : Hid ((w27).ownsRow w.heap.size 75 2 (.slice oQ4 n pQ4) n (flatF (mkG 1 fs n))) := owns_below HOQ4_26.out bw (fun g hg => owns_lt HOQ4_26.out hg)
              have HOR5_27 : Hid ((w27).ownsRow w.heap.size 75 2 (.slice oR5 k pR5) k (flatF (mkG (1 + 2 * n) gs k))) := owns_below HOR5_26.out bw (fun g hg => owns_lt HOR5_26.out hg)
              have HOX6_27 : Hid ((w27).ownsRow w.heap.size 9 1 (.slice oX6 vl.length pX6) vl.length ((mkT 1 vl vl.length).map Value.string)) := owns_below HOX6_26.out bw (fun g hg => owns_lt HOX6_26.out hg)
              have HOY6_27 : Hid ((w27).ownsRow w.heap.size 9 1 (.slice oY6 yl.length pY6) yl.length ((mkT (1 + vl.length) yl yl.length).map Value.string)) := owns_below HOY6_26.out bw (fun g hg => owns_lt HOY6_26.out hg)
              have HOG6_27 : Hid ((w27).ownsRow w.heap.size 75 2 (.slice oG6 k pG6) k (flatF (mkG (1 + vl.length + yl.length) gs k))) := owns_below HOG6_26.out bw (fun g hg => owns_lt HOG6_26.out hg)
              have HOQ7_27 : Hid ((w27).ownsRow w.heap.size 75 2 (.slice oQ7 n pQ7) n (flatF fs)) := owns_below HOQ7_26.out bw (fun g hg => owns_lt HOQ7_26.out hg)
              have HOR8_27 : Hid ((w27).ownsRow w.heap.size 75 2 (.slice oR8 k pR8) k (flatF gs)) := owns_below HOR8_26.out bw (fun g hg => owns_lt HOR8_26.out hg)
              have HOQ10_27 : Hid ((w27).ownsRow w.heap.size 75 2 (.slice oQ10 n pQ10) n (flatF fs)) := owns_below HOQ10_26.out bw (fun g hg => owns_lt HOQ10_26.out hg)
              have HOR11_27 : Hid ((w27).ownsRow w.heap.size 75 2 (.slice oR11 k pR11) k (flatF gs)) := owns_below HOR11_26.out bw (fun g hg => owns_lt HOR11_26.out hg)
              have HBv1_27 : Hid ((w27).heap[qv1]? = some (.cells #[.int .i64 m, .string p, .slice a n cap, .string b] 24)) := blk_below HBv1_26.out bw
              have HBv2_27 : Hid ((w27).heap[qv2]? = some (.cells #[.int .i64 st, .slice a2 k cap2, .string d] 26)) := blk_below HBv2_26.out bw
              have HBv3_27 : Hid ((w27).heap[qv3]? = some (.cells #[.string p, .slice oX3 vl.length pX3, .slice oY3 yl.length pY3, .int .i64 st, .slice oG3 k pG3, .string d, .int .i64 t] 34)) := blk_below HBv3_26.out bw
              have HBv4_27 : Hid ((w27).heap[qv4]? = some (.cells #[.int .i64 m, .string p, .slice oQ4 n pQ4, .string b] 38)) := blk_below HBv4_26.out bw
              have HBv5_27 : Hid ((w27).heap[qv5]? = some (.cells #[.int .i64 st, .slice oR5 k pR5, .string d] 32)) := blk_below HBv5_26.out bw
              have HBv6_27 : Hid ((w27).heap[qv6]? = some (.cells #[.string p, .slice oX6 vl.length pX6, .slice oY6 yl.length pY6, .int .i64 st, .slice oG6 k pG6, .string d, .int .i64 t] 34)) := blk_below HBv6_26.out bw
              have HOX12_27 : Hid ((w27).ownsRow w.heap.size 9 1 (.slice oX12 vl.length pX12) vl.length (vl.map Value.string)) := owns_wide ownX12 hb26.size
              have LOX12 : Hid (∀ g, (Value.ownBlock (.slice oX12 vl.length pX12)) = some g → (w26).heap.size ≤ g) := fun g hg => owns_ge ownX12 hg
              have HIX12 : Hid (∀ g, (Value.ownBlock (.slice oX12 vl.length pX12)) = some g → g < (w27).heap.size) := fun g hg => owns_lt ownX12 hg
              clear ownX12
              have HOY12_27 : Hid ((w27).ownsRow w.heap.size 9 1 (.slice oY12 yl.length pY12) yl.length (yl.map Value.string)) := owns_wide ownY12 hb26.size
              have LOY12 : Hid (∀ g, (Value.ownBlock (.slice oY12 yl.length pY12)) = some g → (w26).heap.size ≤ g) := fun g hg => owns_ge ownY12 hg
              have HIY12 : Hid (∀ g, (Value.ownBlock (.slice oY12 yl.length pY12)) = some g → g < (w27).heap.size) := fun g hg => owns_lt ownY12 hg
              clear ownY12
              have HOG12_27 : Hid ((w27).ownsRow w.heap.size 75 2 (.slice oG12 k pG12) k (flatF gs)) := owns_wide ownG12 hb26.size
              have LOG12 : Hid (∀ g, (Value.ownBlock (.slice oG12 k pG12)) = some g → (w26).heap.size ≤ g) := fun g hg => owns_ge ownG12 hg
              have HIG12 : Hid (∀ g, (Value.ownBlock (.slice oG12 k pG12)) = some g → g < (w27).heap.size) := fun g hg => owns_lt ownG12 hg
              clear ownG12
              clear hb26 HOX3_26 HOY3_26 HOG3_26 HOQ4_26 HOR5_26 HOX6_26 HOY6_26 HOG6_26 HOQ7_26 HOR8_26 HOQ10_26 HOR11_26 HBv1_26 HBv2_26 HBv3_26 HBv4_26 HBv5_26 HBv6_26
              have HX_27 : Hid (Below w23.heap.size w23 w27) := HX_26.out.trans (bw.mono HX_26.out.size)
              have HRXX12_27 : Hid ((w27).ownsRow w23.heap.size 9 1 (.slice oX12 vl.length pX12) vl.length (vl.map Value.string)) := owns_lift HOX12_27.out (fun g hg => Nat.le_trans HX_26.out.size (LOX12.out g hg))
              have HRXY12_27 : Hid ((w27).ownsRow w23.heap.size 9 1 (.slice oY12 yl.length pY12) yl.length (yl.map Value.string)) := owns_lift HOY12_27.out (fun g hg => Nat.le_trans HX_26.out.size (LOY12.out g hg))
              have HRXG12_27 : Hid ((w27).ownsRow w23.heap.size 75 2 (.slice oG12 k pG12) k (flatF gs)) := owns_lift HOG12_27.out (fun g hg => Nat.le_trans HX_26.out.size (LOG12.out g hg))
              refine hK.out _ _ (HSS.out _ HX_27.out) (fun _ => ?_)
              clear hK K bw HX_26
              refine wpAnyH_takeD (i := 6) (v := .tuple #[.agg #[.string p, .slice oX12 vl.length pX12, .slice oY12 yl.length pY12, .int .i64 st, .slice oG12 k pG12, .string d, .int .i64 t], .bool true]) (some 98) rfl rfl (by kernel_rfl) (by kernel_rfl) (by kernel_rfl) (fun _ _ _ h => h) (Or.inl ⟨by rfl, by intro W _; go_simp⟩) (HSS.out _ HX_27.out) ?_
              simp only [Act.put, List.setIfInBounds_toArray, List.set_cons_zero, List.set_cons_succ]
              refine wpAnyH_takeD (i := 7) (v := .agg #[.string p, .slice oX12 vl.length pX12, .slice oY12 yl.length pY12, .int .i64 st, .slice oG12 k pG12, .string d, .int .i64 t]) (some 105) rfl rfl (by kernel_rfl) (by kernel_rfl) (by kernel_rfl) (fun _ _ _ h => h) (Or.inl ⟨by rfl, by intro W _; go_simp⟩) (HSS.out _ HX_27.out) ?_
              simp only [Act.put, List.setIfInBounds_toArray, List.set_cons_zero, List.set_cons_succ]
              refine wpAnyH_takeD (i := 8) (v := .bool true) (some 106) rfl rfl (by kernel_rfl) (by kernel_rfl) (by kernel_rfl) (fun _ _ _ h => h) (Or.inl ⟨by rfl, by intro W _; go_simp⟩) (HSS.out _ HX_27.out) ?_
              simp only [Act.put, List.setIfInBounds_toArray, List.set_cons_zero, List.set_cons_succ]
              refine wpAnyH_ready (rs := [9]) (by kernel_rfl) (by simp) ?_
              refine AllReadyH.cons rfl (fun K hK => ?_) AllReadyH.nil
              go_simp
              have HXA : Hid (Below w23.heap.size w23 (w27.alloc (.cells #[.string ⟨#[]⟩, .slice none 0 0, .slice none 0 0, .int .i64 0, .slice none 0 0, .string ⟨#[]⟩, .int .i64 0] 34))) := HX_27.out.alloc HX_27.out.size _
              refine hK.out _ _ (HSS.out _ HXA.out) (fun _ => ?_)
              clear hK K HXA
              obtain ⟨pa, ho⟩ : ∃ o, o = w27.heap.size := ⟨_, rfl⟩
              obtain ⟨w28, hXj⟩ : ∃ X, X = w27.alloc (.cells #[.string ⟨#[]⟩, .slice none 0 0, .slice none 0 0, .int .i64 0, .slice none 0 0, .string ⟨#[]⟩, .int .i64 0] 34) := ⟨_, rfl⟩
              rw [← ho, ← hXj]
              have HGA : Hid (w23.heap.size ≤ pa) := by show _ ≤ _; rw [ho]; exact HX_27.out.size
              have bw : Below w27.heap.size w27 w28 := by rw [hXj]; exact (Below.refl _ _).alloc (Nat.le_refl _) _
              have hb28 : Below w.heap.size w (w28) := hb27.trans (bw.mono hb27.size)
              have HM28 : Hid ((w27).heap.size ≤ (w28).heap.size) := bw.size
              have HOX3_28 : Hid ((w28).ownsRow w.heap.size 9 1 (.slice oX3 vl.length pX3) vl.length (vl.map Value.string)) := owns_below HOX3_27.out bw (fun g hg => owns_lt HOX3_27.out hg)
              have HOY3_28 : Hid ((w28).ownsRow w.heap.size 9 1 (.slice oY3 yl.length pY3) yl.length (yl.map Value.string)) := owns_below HOY3_27.out bw (fun g hg => owns_lt HOY3_27.out hg)
              have HOG3_28 : Hid ((w28).ownsRow w.heap.size 75 2 (.slice oG3 k pG3) k (flatF gs)) := owns_below HOG3_27.out bw (fun g hg => owns_lt HOG3_27.out hg)
              have HOQ4_28 : Hid ((w28).ownsRow w.heap.size 75 2 (.slice oQ4 n pQ4) n (flatF (mkG 1 fs n))) := owns_below HOQ4_27.out bw (fun g hg => owns_lt HOQ4_27.out hg)
              have HOR5_28 : Hid ((w28).ownsRow w.heap.size 75 2 (.slice oR5 k pR5) k (flatF (mkG (1 + 2 * n) gs k))) := owns_below HOR5_27.out bw (fun g hg => owns_lt HOR5_27.out hg)
              have HOX6_28 : Hid ((w28).ownsRow w.heap.size 9 1 (.slice oX6 vl.length pX6) vl.length ((mkT 1 vl vl.length).map Value.string)) := owns_below HOX6_27.out bw (fun g hg => owns_lt HOX6_27.out hg)
              have HOY6_28 : Hid ((w28).ownsRow w.heap.size 9 1 (.slice oY6 yl.length pY6) yl.length ((mkT (1 + vl.length) yl yl.length).map Value.string)) := owns_below HOY6_27.out bw (fun g hg => owns_lt HOY6_27.out hg)
              have HOG6_28 : Hid ((w28).ownsRow w.heap.size 75 2 (.slice oG6 k pG6) k (flatF (mkG (1 + vl.length + yl.length) gs k))) := owns_below HOG6_27.out bw (fun g hg => owns_lt HOG6_27.out hg)
              have HOQ7_28 : Hid ((w28).ownsRow w.heap.size 75 2 (.slice oQ7 n pQ7) n (flatF fs)) := owns_below HOQ7_27.out bw (fun g hg => owns_lt HOQ7_27.out hg)
              have HOR8_28 : Hid ((w28).ownsRow w.heap.size 75 2 (.slice oR8 k pR8) k (flatF gs)) := owns_below HOR8_27.out bw (fun g hg => owns_lt HOR8_27.out hg)
              have HOQ10_28 : Hid ((w28).ownsRow w.heap.size 75 2 (.slice oQ10 n pQ10) n (flatF fs)) := owns_below HOQ10_27.out bw (fun g hg => owns_lt HOQ10_27.out hg)
              have HOR11_28 : Hid ((w28).ownsRow w.heap.size 75 2 (.slice oR11 k pR11) k (flatF gs)) := owns_below HOR11_27.out bw (fun g hg => owns_lt HOR11_27.out hg)
              have HOX12_28 : Hid ((w28).ownsRow w.heap.size 9 1 (.slice oX12 vl.length pX12) vl.length (vl.map Value.string)) := owns_below HOX12_27.out bw (fun g hg => owns_lt HOX12_27.out hg)
              have HOY12_28 : Hid ((w28).ownsRow w.heap.size 9 1 (.slice oY12 yl.length pY12) yl.length (yl.map Value.string)) := owns_below HOY12_27.out bw (fun g hg => owns_lt HOY12_27.out hg)
              have HOG12_28 : Hid ((w28).ownsRow w.heap.size 75 2 (.slice oG12 k pG12) k (flatF gs)) := owns_below HOG12_27.out bw (fun g hg => owns_lt HOG12_27.out hg)
              have HBv1_28 : Hid ((w28).heap[qv1]? = some (.cells #[.int .i64 m, .string p, .slice a n cap, .string b] 24)) := blk_below HBv1_27.out bw
              have HBv2_28 : Hid ((w28).heap[qv2]? = some (.cells #[.int .i64 st, .slice a2 k cap2, .string d] 26)) := blk_below HBv2_27.out bw
              have HBv3_28 : Hid ((w28).heap[qv3]? = some (.cells #[.string p, .slice oX3 vl.length pX3, .slice oY3 yl.length pY3, .int .i64 st, .slice oG3 k pG3, .string d, .int .i64 t] 34)) := blk_below HBv3_27.out bw
              have HBv4_28 : Hid ((w28).heap[qv4]? = some (.cells #[.int .i64 m, .string p, .slice oQ4 n pQ4, .string b] 38)) := blk_below HBv4_27.out bw
              have HBv5_28 : Hid ((w28).heap[qv5]? = some (.cells #[.int .i64 st, .slice oR5 k pR5, .string d] 32)) := blk_below HBv5_27.out bw
              have HBv6_28 : Hid ((w28).heap[qv6]? = some (.cells #[.string p, .slice oX6 vl.length pX6, .slice oY6 yl.length pY6, .int .i64 st, .slice oG6 k pG6, .string d, .int .i64 t] 34)) := blk_below HBv6_27.out bw
              have HX_28 : Hid (Below w23.heap.size w23 w28) := HX_27.out.trans (bw.mono HX_27.out.size)
              have HRXX12_28 : Hid ((w28).ownsRow w23.heap.size 9 1 (.slice oX12 vl.length pX12) vl.length (vl.map Value.string)) := owns_below HRXX12_27.out bw (fun g hg => owns_lt HRXX12_27.out hg)
              have HRXY12_28 : Hid ((w28).ownsRow w23.heap.size 9 1 (.slice oY12 yl.length pY12) yl.length (yl.map Value.string)) := owns_below HRXY12_27.out bw (fun g hg => owns_lt HRXY12_27.out hg)
              have HRXG12_28 : Hid ((w28).ownsRow w23.heap.size 75 2 (.slice oG12 k pG12) k (flatF gs)) := owns_below HRXG12_27.out bw (fun g hg => owns_lt HRXG12_27.out hg)
              have HPA_28 : Hid (w28.heap[pa]? = some (.cells #[.string ⟨#[]⟩, .slice none 0 0, .slice none 0 0, .int .i64 0, .slice none 0 0, .string ⟨#[]⟩, .int .i64 0] 34)) := by show _ = _; rw [hXj, ho]; exact heap_alloc_new _ _
              clear hb27 HOX3_27 HOY3_27 HOG3_27 HOQ4_27 HOR5_27 HOX6_27 HOY6_27 HOG6_27 HOQ7_27 HOR8_27 HOQ10_27 HOR11_27 HOX12_27 HOY12_27 HOG12_27 HBv1_27 HBv2_27 HBv3_27 HBv4_27 HBv5_27 HBv6_27 bw ho hXj HX_27
              refine wpAnyH_ready (rs := [10]) (by kernel_rfl) (by simp) ?_
              refine AllReadyH.cons rfl (fun K hK => ?_) AllReadyH.nil
              have ce0 : w28.cell? ⟨pa, 0, none⟩ = some (.string ⟨#[]⟩) := (cell_of HPA_28.out 0).trans rfl
              have fe0 : w28.frozen? ⟨pa, 0, none⟩ = false := frozen_of HPA_28.out 0
              have ce1 : w28.cell? ⟨pa, 1, none⟩ = some (.slice none 0 0) := (cell_of HPA_28.out 1).trans rfl
              have fe1 : w28.frozen? ⟨pa, 1, none⟩ = false := frozen_of HPA_28.out 1
              have ce2 : w28.cell? ⟨pa, 2, none⟩ = some (.slice none 0 0) := (cell_of HPA_28.out 2).trans rfl
              have fe2 : w28.frozen? ⟨pa, 2, none⟩ = false := frozen_of HPA_28.out 2
              have ce3 : w28.cell? ⟨pa, 3, none⟩ = some (.int .i64 0) := (cell_of HPA_28.out 3).trans rfl
              have fe3 : w28.frozen? ⟨pa, 3, none⟩ = false := frozen_of HPA_28.out 3
              have ce4 : w28.cell? ⟨pa, 4, none⟩ = some (.slice none 0 0) := (cell_of HPA_28.out 4).trans rfl
              have fe4 : w28.frozen? ⟨pa, 4, none⟩ = false := frozen_of HPA_28.out 4
              have ce5 : w28.cell? ⟨pa, 5, none⟩ = some (.string ⟨#[]⟩) := (cell_of HPA_28.out 5).trans rfl
              have fe5 : w28.frozen? ⟨pa, 5, none⟩ = false := frozen_of HPA_28.out 5
              have ce6 : w28.cell? ⟨pa, 6, none⟩ = some (.int .i64 0) := (cell_of HPA_28.out 6).trans rfl
              have fe6 : w28.frozen? ⟨pa, 6, none⟩ = false := frozen_of HPA_28.out 6
              obtain ⟨w29, hY⟩ : ∃ Y, Y = (((((((w28.setCell ⟨pa, 0, none⟩ (.string p)).setCell ⟨pa, 1, none⟩ (.slice oX12 vl.length pX12)).setCell ⟨pa, 2, none⟩ (.slice oY12 yl.length pY12)).setCell ⟨pa, 3, none⟩ (.int .i64 st)).setCell ⟨pa, 4, none⟩ (.slice oG12 k pG12)).setCell ⟨pa, 5, none⟩ (.string d)).setCell ⟨pa, 6, none⟩ (.int .i64 t)) := ⟨_, rfl⟩
              have HY : Hid ((((((((w28.setCell ⟨pa, 0, none⟩ (.string p)).setCell ⟨pa, 1, none⟩ (.slice oX12 vl.length pX12)).setCell ⟨pa, 2, none⟩ (.slice oY12 yl.length pY12)).setCell ⟨pa, 3, none⟩ (.int .i64 st)).setCell ⟨pa, 4, none⟩ (.slice oG12 k pG12)).setCell ⟨pa, 5, none⟩ (.string d)).setCell ⟨pa, 6, none⟩ (.int .i64 t)) = w29) := hY.symm
              have HX_29 : Hid (Below w23.heap.size w23 w29) := by show Below _ _ _; rw [hY]; exact (((((((HX_28.out.setCell (p := ⟨pa, 0, none⟩) HGA.out _).setCell (p := ⟨pa, 1, none⟩) HGA.out _).setCell (p := ⟨pa, 2, none⟩) HGA.out _).setCell (p := ⟨pa, 3, none⟩) HGA.out _).setCell (p := ⟨pa, 4, none⟩) HGA.out _).setCell (p := ⟨pa, 5, none⟩) HGA.out _).setCell (p := ⟨pa, 6, none⟩) HGA.out _)
              have HPA_29 : Hid (w29.heap[pa]? = some (.cells #[.string p, .slice oX12 vl.length pX12, .slice oY12 yl.length pY12, .int .i64 st, .slice oG12 k pG12, .string d, .int .i64 t] 34)) := by show _ = _; rw [hY]; have h := (heap_set _ pa 6 _ _ _ (.int .i64 t) (heap_set _ pa 5 _ _ _ (.string d) (heap_set _ pa 4 _ _ _ (.slice oG12 k pG12) (heap_set _ pa 3 _ _ _ (.int .i64 st) (heap_set _ pa 2 _ _ _ (.slice oY12 yl.length pY12) (heap_set _ pa 1 _ _ _ (.slice oX12 vl.length pX12) (heap_set _ pa 0 _ _ _ (.string p) HPA_28.out))))))); simpa using h
              have HRXX12_29 : Hid ((w29).ownsRow w23.heap.size 9 1 (.slice oX12 vl.length pX12) vl.length (vl.map Value.string)) := by show World.ownsRow _ _ _ _ _ _ _; rw [hY]; exact owns_same HRXX12_28.out (fun g hg => by have hne := own_ne HRXX12_28.out HPA_28.out (by decide) g hg; rw [heap_setCell_other _ _ g _ hne, heap_setCell_other _ _ g _ hne, heap_setCell_other _ _ g _ hne, heap_setCell_other _ _ g _ hne, heap_setCell_other _ _ g _ hne, heap_setCell_other _ _ g _ hne, heap_setCell_other _ _ g _ hne])
              have HRXY12_29 : Hid ((w29).ownsRow w23.heap.size 9 1 (.slice oY12 yl.length pY12) yl.length (yl.map Value.string)) := by show World.ownsRow _ _ _ _ _ _ _; rw [hY]; exact owns_same HRXY12_28.out (fun g hg => by have hne := own_ne HRXY12_28.out HPA_28.out (by decide) g hg; rw [heap_setCell_other _ _ g _ hne, heap_setCell_other _ _ g _ hne, heap_setCell_other _ _ g _ hne, heap_setCell_other _ _ g _ hne, heap_setCell_other _ _ g _ hne, heap_setCell_other _ _ g _ hne, heap_setCell_other _ _ g _ hne])
              have HRXG12_29 : Hid ((w29).ownsRow w23.heap.size 75 2 (.slice oG12 k pG12) k (flatF gs)) := by show World.ownsRow _ _ _ _ _ _ _; rw [hY]; exact owns_same HRXG12_28.out (fun g hg => by have hne := own_ne HRXG12_28.out HPA_28.out (by decide) g hg; rw [heap_setCell_other _ _ g _ hne, heap_setCell_other _ _ g _ hne, heap_setCell_other _ _ g _ hne, heap_setCell_other _ _ g _ hne, heap_setCell_other _ _ g _ hne, heap_setCell_other _ _ g _ hne, heap_setCell_other _ _ g _ hne])
              have APXX12Y12 : Hid (∀ g, (Value.ownBlock (.slice oX12 vl.length pX12)) = some g → (Value.ownBlock (.slice oY12 yl.length pY12)) ≠ some g) := AP12.out
              clear hY hb28 HOX3_28 HOY3_28 HOG3_28 HOQ4_28 HOR5_28 HOX6_28 HOY6_28 HOG6_28 HOQ7_28 HOR8_28 HOQ10_28 HOR11_28 HOX12_28 HOY12_28 HOG12_28 HBv1_28 HBv2_28 HBv3_28 HBv4_28 HBv5_28 HBv6_28
              go_simp
              rw [HY.out]
              refine hK.out _ _ (HSS.out _ HX_29.out) (fun _ => ?_)
              clear hK K HY ce0 fe0 ce1 fe1 ce2 fe2 ce3 fe3 ce4 fe4 ce5 fe5 ce6 fe6
              refine wpAnyH_takeD (i := 11) (v := .bool true) (some 18) rfl rfl (by kernel_rfl) (by kernel_rfl) (by kernel_rfl) (fun _ _ _ h => h) (Or.inl ⟨by rfl, by intro W _; go_simp⟩) (HSS.out _ HX_29.out) ?_
              simp only [Act.put, List.setIfInBounds_toArray, List.set_cons_zero, List.set_cons_succ]
              refine wpAnyH_done (by kernel_rfl) ?_ _
              go_wp2_with fail
              go_meet
              exact ⟨pa, oX12, pX12, oY12, pY12, oG12, pG12, rfl, rfl, ⟨HX_29.out, HPA_29.out, HGA.out, HRXX12_29.out, HRXY12_29.out, HRXG12_29.out, APXX12Y12.out⟩⟩
            · go_simp
              have HXA : Hid (Below w23.heap.size w23 (w26.alloc (.cells #[.string ⟨#[]⟩, .slice none 0 0, .slice none 0 0, .int .i64 0, .slice none 0 0, .string ⟨#[]⟩, .int .i64 0] 34))) := HX_26.out.alloc HX_26.out.size _
              refine hK.out _ _ (HSS.out _ HXA.out) (fun _ => ?_)
              clear hK K HXA
              obtain ⟨pa, ho⟩ : ∃ o, o = w26.heap.size := ⟨_, rfl⟩
              obtain ⟨w27, hXj⟩ : ∃ X, X = w26.alloc (.cells #[.string ⟨#[]⟩, .slice none 0 0, .slice none 0 0, .int .i64 0, .slice none 0 0, .string ⟨#[]⟩, .int .i64 0] 34) := ⟨_, rfl⟩
              rw [← ho, ← hXj]
              have HGA : Hid (w23.heap.size ≤ pa) := by show _ ≤ _; rw [ho]; exact HX_26.out.size
              have bw : Below w26.heap.size w26 w27 := by rw [hXj]; exact (Below.refl _ _).alloc (Nat.le_refl _) _
              have hb27 : Below w.heap.size w (w27) := hb26.trans (bw.mono hb26.size)
              have HM27 : Hid ((w26).heap.size ≤ (w27).heap.size) := bw.size
              have HOX3_27 : Hid ((w27).ownsRow w.heap.size 9 1 (.slice oX3 vl.length pX3) vl.length (vl.map Value.string)) := owns_below HOX3_26.out bw (fun g hg => owns_lt HOX3_26.out hg)
              have HOY3_27 : Hid ((w27).ownsRow w.heap.size 9 1 (.slice oY3 yl.length pY3) yl.length (yl.map Value.string)) := owns_below HOY3_26.out bw (fun g hg => owns_lt HOY3_26.out hg)
              have HOG3_27 : Hid ((w27).ownsRow w.heap.size 75 2 (.slice oG3 k pG3) k (flatF gs)) := owns_below HOG3_26.out bw (fun g hg => owns_lt HOG3_26.out hg)
              have HOQ4_27 : Hid ((w27).ownsRow w.heap.size 75 2 (.slice oQ4 n pQ4) n (flatF (mkG 1 fs n))) := owns_below HOQ4_26.out bw (fun g hg => owns_lt HOQ4_26.out hg)
              have HOR5_27 : Hid ((w27).ownsRow w.heap.size 75 2 (.slice oR5 k pR5) k (flatF (mkG (1 + 2 * n) gs k))) := owns_below HOR5_26.out bw (fun g hg => owns_lt HOR5_26.out hg)
              have HOX6_27 : Hid ((w27).ownsRow w.heap.size 9 1 (.slice oX6 vl.length pX6) vl.length ((mkT 1 vl vl.length).map Value.string)) := owns_below HOX6_26.out bw (fun g hg => owns_lt HOX6_26.out hg)
              have HOY6_27 : Hid ((w27).ownsRow w.heap.size 9 1 (.slice oY6 yl.length pY6) yl.length ((mkT (1 + vl.length) yl yl.length).map Value.string)) := owns_below HOY6_26.out bw (fun g hg => owns_lt HOY6_26.out hg)
              have HOG6_27 : Hid ((w27).ownsRow w.heap.size 75 2 (.slice oG6 k pG6) k (flatF (mkG (1 + vl.length + yl.length) gs k))) := owns_below HOG6_26.out bw (fun g hg => owns_lt HOG6_26.out hg)
              have HOQ7_27 : Hid ((w27).ownsRow w.heap.size 75 2 (.slice oQ7 n pQ7) n (flatF fs)) := owns_below HOQ7_26.out bw (fun g hg => owns_lt HOQ7_26.out hg)
              have HOR8_27 : Hid ((w27).ownsRow w.heap.size 75 2 (.slice oR8 k pR8) k (flatF gs)) := owns_below HOR8_26.out bw (fun g hg => owns_lt HOR8_26.out hg)
              have HOQ10_27 : Hid ((w27).ownsRow w.heap.size 75 2 (.slice oQ10 n pQ10) n (flatF fs)) := owns_below HOQ10_26.out bw (fun g hg => owns_lt HOQ10_26.out hg)
              have HOR11_27 : Hid ((w27).ownsRow w.heap.size 75 2 (.slice oR11 k pR11) k (flatF gs)) := owns_below HOR11_26.out bw (fun g hg => owns_lt HOR11_26.out hg)
              have HBv1_27 : Hid ((w27).heap[qv1]? = some (.cells #[.int .i64 m, .string p, .slice a n cap, .string b] 24)) := blk_below HBv1_26.out bw
              have HBv2_27 : Hid ((w27).heap[qv2]? = some (.cells #[.int .i64 st, .slice a2 k cap2, .string d] 26)) := blk_below HBv2_26.out bw
              have HBv3_27 : Hid ((w27).heap[qv3]? = some (.cells #[.string p, .slice oX3 vl.length pX3, .slice oY3 yl.length pY3, .int .i64 st, .slice oG3 k pG3, .string d, .int .i64 t] 34)) := blk_below HBv3_26.out bw
              have HBv4_27 : Hid ((w27).heap[qv4]? = some (.cells #[.int .i64 m, .string p, .slice oQ4 n pQ4, .string b] 38)) := blk_below HBv4_26.out bw
              have HBv5_27 : Hid ((w27).heap[qv5]? = some (.cells #[.int .i64 st, .slice oR5 k pR5, .string d] 32)) := blk_below HBv5_26.out bw
              have HBv6_27 : Hid ((w27).heap[qv6]? = some (.cells #[.string p, .slice oX6 vl.length pX6, .slice oY6 yl.length pY6, .int .i64 st, .slice oG6 k pG6, .string d, .int .i64 t] 34)) := blk_below HBv6_26.out bw
              have HX_27 : Hid (Below w23.heap.size w23 w27) := HX_26.out.trans (bw.mono HX_26.out.size)
              have HPA_27 : Hid (w27.heap[pa]? = some (.cells #[.string ⟨#[]⟩, .slice none 0 0, .slice none 0 0, .int .i64 0, .slice none 0 0, .string ⟨#[]⟩, .int .i64 0] 34)) := by show _ = _; rw [hXj, ho]; exact heap_alloc_new _ _
              clear hb26 HOX3_26 HOY3_26 HOG3_26 HOQ4_26 HOR5_26 HOX6_26 HOY6_26 HOG6_26 HOQ7_26 HOR8_26 HOQ10_26 HOR11_26 HBv1_26 HBv2_26 HBv3_26 HBv4_26 HBv5_26 HBv6_26 bw ho hXj HX_26
              refine wpAnyH_ready (rs := [5]) (by kernel_rfl) (by simp) ?_
              refine AllReadyH.cons rfl (fun K hK => ?_) AllReadyH.nil
              go_simp
              refine (HIM.out _ _ _ _ _ HOQ10_27.out HOR11_27.out).mono ?_
              rintro e w28 ⟨vv1, vv2, vv3, rfl, ⟨ownX12, ownY12, ownG12, ne12⟩, bw⟩
              obtain ⟨oX12, pX12, rfl⟩ := slice_of_owns ownX12
              obtain ⟨oY12, pY12, rfl⟩ := slice_of_owns ownY12
              obtain ⟨oG12, pG12, rfl⟩ := slice_of_owns ownG12
              have AP12 : Hid (∀ j, (Value.slice oX12 vl.length pX12).ownBlock = some j → (Value.slice oY12 yl.length pY12).ownBlock ≠ some j) := ne12
              clear ne12
              have hb28 : Below w.heap.size w (w28) := hb27.trans (bw.mono hb27.size)
              have HM28 : Hid ((w27).heap.size ≤ (w28).heap.size) := bw.size
              have HOX3_28 : Hid ((w28).ownsRow w.heap.size 9 1 (.slice oX3 vl.length pX3) vl.length (vl.map Value.string)) := owns_below HOX3_27.out bw (fun g hg => owns_lt HOX3_27.out hg)
              have HOY3_28 : Hid ((w28).ownsRow w.heap.size 9 1 (.slice oY3 yl.length pY3) yl.length (yl.map Value.string)) := owns_below HOY3_27.out bw (fun g hg => owns_lt HOY3_27.out hg)
              have HOG3_28 : Hid ((w28).ownsRow w.heap.size 75 2 (.slice oG3 k pG3) k (flatF gs)) := owns_below HOG3_27.out bw (fun g hg => owns_lt HOG3_27.out hg)
              have HOQ4_28 : Hid ((w28).ownsRow w.heap.size 75 2 (.slice oQ4 n pQ4) n (flatF (mkG 1 fs n))) := owns_below HOQ4_27.out bw (fun g hg => owns_lt HOQ4_27.out hg)
              have HOR5_28 : Hid ((w28).ownsRow w.heap.size 75 2 (.slice oR5 k pR5) k (flatF (mkG (1 + 2 * n) gs k))) := owns_below HOR5_27.out bw (fun g hg => owns_lt HOR5_27.out hg)
              have HOX6_28 : Hid ((w28).ownsRow w.heap.size 9 1 (.slice oX6 vl.length pX6) vl.length ((mkT 1 vl vl.length).map Value.string)) := owns_below HOX6_27.out bw (fun g hg => owns_lt HOX6_27.out hg)
              have HOY6_28 : Hid ((w28).ownsRow w.heap.size 9 1 (.slice oY6 yl.length pY6) yl.length ((mkT (1 + vl.length) yl yl.length).map Value.string)) := owns_below HOY6_27.out bw (fun g hg => owns_lt HOY6_27.out hg)
              have HOG6_28 : Hid ((w28).ownsRow w.heap.size 75 2 (.slice oG6 k pG6) k (flatF (mkG (1 + vl.length + yl.length) gs k))) := owns_below HOG6_27.out bw (fun g hg => owns_lt HOG6_27.out hg)
              have HOQ7_28 : Hid ((w28).ownsRow w.heap.size 75 2 (.slice oQ7 n pQ7) n (flatF fs)) := owns_below HOQ7_27.out bw (fun g hg => owns_lt HOQ7_27.out hg)
              have HOR8_28 : Hid ((w28).ownsRow w.heap.size 75 2 (.slice oR8 k pR8) k (flatF gs)) := owns_below HOR8_27.out bw (fun g hg => owns_lt HOR8_27.out hg)
              have HOQ10_28 : Hid ((w28).ownsRow w.heap.size 75 2 (.slice oQ10 n pQ10) n (flatF fs)) := owns_below HOQ10_27.out bw (fun g hg => owns_lt HOQ10_27.out hg)
              have HOR11_28 : Hid ((w28).ownsRow w.heap.size 75 2 (.slice oR11 k pR11) k (flatF gs)) := owns_below HOR11_27.out bw (fun g hg => owns_lt HOR11_27.out hg)
              have HBv1_28 : Hid ((w28).heap[qv1]? = some (.cells #[.int .i64 m, .string p, .slice a n cap, .string b] 24)) := blk_below HBv1_27.out bw
              have HBv2_28 : Hid ((w28).heap[qv2]? = some (.cells #[.int .i64 st, .slice a2 k cap2, .string d] 26)) := blk_below HBv2_27.out bw
              have HBv3_28 : Hid ((w28).heap[qv3]? = some (.cells #[.string p, .slice oX3 vl.length pX3, .slice oY3 yl.length pY3, .int .i64 st, .slice oG3 k pG3, .string d, .int .i64 t] 34)) := blk_below HBv3_27.out bw
              have HBv4_28 : Hid ((w28).heap[qv4]? = some (.cells #[.int .i64 m, .string p, .slice oQ4 n pQ4, .string b] 38)) := blk_below HBv4_27.out bw
              have HBv5_28 : Hid ((w28).heap[qv5]? = some (.cells #[.int .i64 st, .slice oR5 k pR5, .string d] 32)) := blk_below HBv5_27.out bw
              have HBv6_28 : Hid ((w28).heap[qv6]? = some (.cells #[.string p, .slice oX6 vl.length pX6, .slice oY6 yl.length pY6, .int .i64 st, .slice oG6 k pG6, .string d, .int .i64 t] 34)) := blk_below HBv6_27.out bw
              have HOX12_28 : Hid ((w28).ownsRow w.heap.size 9 1 (.slice oX12 vl.length pX12) vl.length (vl.map Value.string)) := owns_wide ownX12 hb27.size
              have LOX12 : Hid (∀ g, (Value.ownBlock (.slice oX12 vl.length pX12)) = some g → (w27).heap.size ≤ g) := fun g hg => owns_ge ownX12 hg
              have HIX12 : Hid (∀ g, (Value.ownBlock (.slice oX12 vl.length pX12)) = some g → g < (w28).heap.size) := fun g hg => owns_lt ownX12 hg
              clear ownX12
              have HOY12_28 : Hid ((w28).ownsRow w.heap.size 9 1 (.slice oY12 yl.length pY12) yl.length (yl.map Value.string)) := owns_wide ownY12 hb27.size
              have LOY12 : Hid (∀ g, (Value.ownBlock (.slice oY12 yl.length pY12)) = some g → (w27).heap.size ≤ g) := fun g hg => owns_ge ownY12 hg
              have HIY12 : Hid (∀ g, (Value.ownBlock (.slice oY12 yl.length pY12)) = some g → g < (w28).heap.size) := fun g hg => owns_lt ownY12 hg
              clear ownY12
              have HOG12_28 : Hid ((w28).ownsRow w.heap.size 75 2 (.slice oG12 k pG12) k (flatF gs)) := owns_wide ownG12 hb27.size
              have LOG12 : Hid (∀ g, (Value.ownBlock (.slice oG12 k pG12)) = some g → (w27).heap.size ≤ g) := fun g hg => owns_ge ownG12 hg
              have HIG12 : Hid (∀ g, (Value.ownBlock (.slice oG12 k pG12)) = some g → g < (w28).heap.size) := fun g hg => owns_lt ownG12 hg
              clear ownG12
              clear hb27 HOX3_27 HOY3_27 HOG3_27 HOQ4_27 HOR5_27 HOX6_27 HOY6_27 HOG6_27 HOQ7_27 HOR8_27 HOQ10_27 HOR11_27 HBv1_27 HBv2_27 HBv3_27 HBv4_27 HBv5_27 HBv6_27
              have HX_28 : Hid (Below w23.heap.size w23 w28) := HX_27.out.trans (bw.mono HX_27.out.size)
              have HPA_28 : Hid (w28.heap[pa]? = some (.cells #[.string ⟨#[]⟩, .slice none 0 0, .slice none 0 0, .int .i64 0, .slice none 0 0, .string ⟨#[]⟩, .int .i64 0] 34)) := blk_below HPA_27.out bw
              have HRXX12_28 : Hid ((w28).ownsRow w23.heap.size 9 1 (.slice oX12 vl.length pX12) vl.length (vl.map Value.string)) := owns_lift HOX12_28.out (fun g hg => Nat.le_trans HX_27.out.size (LOX12.out g hg))
              have HRXY12_28 : Hid ((w28).ownsRow w23.heap.size 9 1 (.slice oY12 yl.length pY12) yl.length (yl.map Value.string)) := owns_lift HOY12_28.out (fun g hg => Nat.le_trans HX_27.out.size (LOY12.out g hg))
              have HRXG12_28 : Hid ((w28).ownsRow w23.heap.size 75 2 (.slice oG12 k pG12) k (flatF gs)) := owns_lift HOG12_28.out (fun g hg => Nat.le_trans HX_27.out.size (LOG12.out g hg))
              refine hK.out _ _ (HSS.out _ HX_28.out) (fun _ => ?_)
              clear hK K bw HX_27
              refine wpAnyH_takeD (i := 6) (v := .tuple #[.agg #[.string p, .slice oX12 vl.length pX12, .slice oY12 yl.length pY12, .int .i64 st, .slice oG12 k pG12, .string d, .int .i64 t], .bool true]) (some 98) rfl rfl (by kernel_rfl) (by kernel_rfl) (by kernel_rfl) (fun _ _ _ h => h) (Or.inl ⟨by rfl, by intro W _; go_simp⟩) (HSS.out _ HX_28.out) ?_
              simp only [Act.put, List.setIfInBounds_toArray, List.set_cons_zero, List.set_cons_succ]
              refine wpAnyH_takeD (i := 7) (v := .agg #[.string p, .slice oX12 vl.length pX12, .slice oY12 yl.length pY12, .int .i64 st, .slice oG12 k pG12, .string d, .int .i64 t]) (some 105) rfl rfl (by kernel_rfl) (by kernel_rfl) (by kernel_rfl) (fun _ _ _ h => h) (Or.inl ⟨by rfl, by intro W _; go_simp⟩) (HSS.out _ HX_28.out) ?_
              simp only [Act.put, List.setIfInBounds_toArray, List.set_cons_zero, List.set_cons_succ]
              refine wpAnyH_takeD (i := 8) (v := .bool true) (some 106) rfl rfl (by kernel_rfl) (by kernel_rfl) (by kernel_rfl) (fun _ _ _ h => h) (Or.inl ⟨by rfl, by intro W _; go_simp⟩) (HSS.out _ HX_28.out) ?_
              simp only [Act.put, List.setIfInBounds_toArray, List.set_cons_zero, List.set_cons_succ]
              refine wpAnyH_ready (rs := [10]) (by kernel_rfl) (by simp) ?_
              refine AllReadyH.cons rfl (fun K hK => ?_) AllReadyH.nil
              have ce0 : w28.cell? ⟨pa, 0, none⟩ = some (.string ⟨#[]⟩) := (cell_of HPA_28.out 0).trans rfl
              have fe0 : w28.frozen? ⟨pa, 0, none⟩ = false := frozen_of HPA_28.out 0
              have ce1 : w28.cell? ⟨pa, 1, none⟩ = some (.slice none 0 0) := (cell_of HPA_28.out 1).trans rfl
              have fe1 : w28.frozen? ⟨pa, 1, none⟩ = false := frozen_of HPA_28.out 1
              have ce2 : w28.cell? ⟨pa, 2, none⟩ = some (.slice none 0 0) := (cell_of HPA_28.out 2).trans rfl
              have fe2 : w28.frozen? ⟨pa, 2, none⟩ = false := frozen_of HPA_28.out 2
              have ce3 : w28.cell? ⟨pa, 3, none⟩ = some (.int .i64 0) := (cell_of HPA_28.out 3).trans rfl
              have fe3 : w28.frozen? ⟨pa, 3, none⟩ = false := frozen_of HPA_28.out 3
              have ce4 : w28.cell? ⟨pa, 4, none⟩ = some (.slice none 0 0) := (cell_of HPA_28.out 4).trans rfl
              have fe4 : w28.frozen? ⟨pa, 4, none⟩ = false := frozen_of HPA_28.out 4
              have ce5 : w28.cell? ⟨pa, 5, none⟩ = some (.string ⟨#[]⟩) := (cell_of HPA_28.out 5).trans rfl
              have fe5 : w28.frozen? ⟨pa, 5, none⟩ = false := frozen_of HPA_28.out 5
              have ce6 : w28.cell? ⟨pa, 6, none⟩ = some (.int .i64 0) := (cell_of HPA_28.out 6).trans rfl
              have fe6 : w28.frozen? ⟨pa, 6, none⟩ = false := frozen_of HPA_28.out 6
              obtain ⟨w29, hY⟩ : ∃ Y, Y = (((((((w28.setCell ⟨pa, 0, none⟩ (.string p)).setCell ⟨pa, 1, none⟩ (.slice oX12 vl.length pX12)).setCell ⟨pa, 2, none⟩ (.slice oY12 yl.length pY12)).setCell ⟨pa, 3, none⟩ (.int .i64 st)).setCell ⟨pa, 4, none⟩ (.slice oG12 k pG12)).setCell ⟨pa, 5, none⟩ (.string d)).setCell ⟨pa, 6, none⟩ (.int .i64 t)) := ⟨_, rfl⟩
              have HY : Hid ((((((((w28.setCell ⟨pa, 0, none⟩ (.string p)).setCell ⟨pa, 1, none⟩ (.slice oX12 vl.length pX12)).setCell ⟨pa, 2, none⟩ (.slice oY12 yl.length pY12)).setCell ⟨pa, 3, none⟩ (.int .i64 st)).setCell ⟨pa, 4, none⟩ (.slice oG12 k pG12)).setCell ⟨pa, 5, none⟩ (.string d)).setCell ⟨pa, 6, none⟩ (.int .i64 t)) = w29) := hY.symm
              have HX_29 : Hid (Below w23.heap.size w23 w29) := by show Below _ _ _; rw [hY]; exact (((((((HX_28.out.setCell (p := ⟨pa, 0, none⟩) HGA.out _).setCell (p := ⟨pa, 1, none⟩) HGA.out _).setCell (p := ⟨pa, 2, none⟩) HGA.out _).setCell (p := ⟨pa, 3, none⟩) HGA.out _).setCell (p := ⟨pa, 4, none⟩) HGA.out _).setCell (p := ⟨pa, 5, none⟩) HGA.out _).setCell (p := ⟨pa, 6, none⟩) HGA.out _)
              have HPA_29 : Hid (w29.heap[pa]? = some (.cells #[.string p, .slice oX12 vl.length pX12, .slice oY12 yl.length pY12, .int .i64 st, .slice oG12 k pG12, .string d, .int .i64 t] 34)) := by show _ = _; rw [hY]; have h := (heap_set _ pa 6 _ _ _ (.int .i64 t) (heap_set _ pa 5 _ _ _ (.string d) (heap_set _ pa 4 _ _ _ (.slice oG12 k pG12) (heap_set _ pa 3 _ _ _ (.int .i64 st) (heap_set _ pa 2 _ _ _ (.slice oY12 yl.length pY12) (heap_set _ pa 1 _ _ _ (.slice oX12 vl.length pX12) (heap_set _ pa 0 _ _ _ (.string p) HPA_28.out))))))); simpa using h
              have HRXX12_29 : Hid ((w29).ownsRow w23.heap.size 9 1 (.slice oX12 vl.length pX12) vl.length (vl.map Value.string)) := by show World.ownsRow _ _ _ _ _ _ _; rw [hY]; exact owns_same HRXX12_28.out (fun g hg => by have hne := own_ne HRXX12_28.out HPA_28.out (by decide) g hg; rw [heap_setCell_other _ _ g _ hne, heap_setCell_other _ _ g _ hne, heap_setCell_other _ _ g _ hne, heap_setCell_other _ _ g _ hne, heap_setCell_other _ _ g _ hne, heap_setCell_other _ _ g _ hne, heap_setCell_other _ _ g _ hne])
              have HRXY12_29 : Hid ((w29).ownsRow w23.heap.size 9 1 (.slice oY12 yl.length pY12) yl.length (yl.map Value.string)) := by show World.ownsRow _ _ _ _ _ _ _; rw [hY]; exact owns_same HRXY12_28.out (fun g hg => by have hne := own_ne HRXY12_28.out HPA_28.out (by decide) g hg; rw [heap_setCell_other _ _ g _ hne, heap_setCell_other _ _ g _ hne, heap_setCell_other _ _ g _ hne, heap_setCell_other _ _ g _ hne, heap_setCell_other _ _ g _ hne, heap_setCell_other _ _ g _ hne, heap_setCell_other _ _ g _ hne])
              have HRXG12_29 : Hid ((w29).ownsRow w23.heap.size 75 2 (.slice oG12 k pG12) k (flatF gs)) := by show World.ownsRow _ _ _ _ _ _ _; rw [hY]; exact owns_same HRXG12_28.out (fun g hg => by have hne := own_ne HRXG12_28.out HPA_28.out (by decide) g hg; rw [heap_setCell_other _ _ g _ hne, heap_setCell_other _ _ g _ hne, heap_setCell_other _ _ g _ hne, heap_setCell_other _ _ g _ hne, heap_setCell_other _ _ g _ hne, heap_setCell_other _ _ g _ hne, heap_setCell_other _ _ g _ hne])
              have APXX12Y12 : Hid (∀ g, (Value.ownBlock (.slice oX12 vl.length pX12)) = some g → (Value.ownBlock (.slice oY12 yl.length pY12)) ≠ some g) := AP12.out
              clear hY hb28 HOX3_28 HOY3_28 HOG3_28 HOQ4_28 HOR5_28 HOX6_28 HOY6_28 HOG6_28 HOQ7_28 HOR8_28 HOQ10_28 HOR11_28 HOX12_28 HOY12_28 HOG12_28 HBv1_28 HBv2_28 HBv3_28 HBv4_28 HBv5_28 HBv6_28
              go_simp
              rw [HY.out]
              refine hK.out _ _ (HSS.out _ HX_29.out) (fun _ => ?_)
              clear hK K HY ce0 fe0 ce1 fe1 ce2 fe2 ce3 fe3 ce4 fe4 ce5 fe5 ce6 fe6
              refine wpAnyH_takeD (i := 11) (v := .bool true) (some 18) rfl rfl (by kernel_rfl) (by kernel_rfl) (by kernel_rfl) (fun _ _ _ h => h) (Or.inl ⟨by rfl, by intro W _; go_simp⟩) (HSS.out _ HX_29.out) ?_
              simp only [Act.put, List.setIfInBounds_toArray, List.set_cons_zero, List.set_cons_succ]
              refine wpAnyH_done (by kernel_rfl) ?_ _
              go_wp2_with fail
              go_meet
              exact ⟨pa, oX12, pX12, oY12, pY12, oG12, pG12, rfl, rfl, ⟨HX_29.out, HPA_29.out, HGA.out, HRXX12_29.out, HRXY12_29.out, HRXG12_29.out, APXX12Y12.out⟩⟩
          · go_simp
            have HXA : Hid (Below w23.heap.size w23 (w25.alloc (.cells #[.string ⟨#[]⟩, .slice none 0 0, .slice none 0 0, .int .i64 0, .slice none 0 0, .string ⟨#[]⟩, .int .i64 0] 34))) := HX_25.out.alloc HX_25.out.size _
            refine hK.out _ _ (HSS.out _ HXA.out) (fun _ => ?_)
            clear hK K HXA
            obtain ⟨pa, ho⟩ : ∃ o, o = w25.heap.size := ⟨_, rfl⟩
            obtain ⟨w26, hXj⟩ : ∃ X, X = w25.alloc (.cells #[.string ⟨#[]⟩, .slice none 0 0, .slice none 0 0, .int .i64 0, .slice none 0 0, .string ⟨#[]⟩, .int .i64 0] 34) := ⟨_, rfl⟩
            rw [← ho, ← hXj]
            have HGA : Hid (w23.heap.size ≤ pa) := by show _ ≤ _; rw [ho]; exact HX_25.out.size
            have bw : Below w25.heap.size w25 w26 := by rw [hXj]; exact (Below.refl _ _).alloc (Nat.le_refl _) _
            have hb26 : Below w.heap.size w (w26) := hb25.trans (bw.mono hb25.size)
            have HM26 : Hid ((w25).heap.size ≤ (w26).heap.size) := bw.size
            have HOX3_26 : Hid ((w26).ownsRow w.heap.size 9 1 (.slice oX3 vl.length pX3) vl.length (vl.map Value.string)) := owns_below HOX3_25.out bw (fun g hg => owns_lt HOX3_25.out hg)
            have HOY3_26 : Hid ((w26).ownsRow w.heap.size 9 1 (.slice oY3 yl.length pY3) yl.length (yl.map Value.string)) := owns_below HOY3_25.out bw (fun g hg => owns_lt HOY3_25.out hg)
            have HOG3_26 : Hid ((w26).ownsRow w.heap.size 75 2 (.slice oG3 k pG3) k (flatF gs)) := owns_below HOG3_25.out bw (fun g hg => owns_lt HOG3_25.out hg)
            have HOQ4_26 : Hid ((w26).ownsRow w.heap.size 75 2 (.slice oQ4 n pQ4) n (flatF (mkG 1 fs n))) := owns_below HOQ4_25.out bw (fun g hg => owns_lt HOQ4_25.out hg)
            have HOR5_26 : Hid ((w26).ownsRow w.heap.size 75 2 (.slice oR5 k pR5) k (flatF (mkG (1 + 2 * n) gs k))) := owns_below HOR5_25.out bw (fun g hg => owns_lt HOR5_25.out hg)
            have HOX6_26 : Hid ((w26).ownsRow w.heap.size 9 1 (.slice oX6 vl.length pX6) vl.length ((mkT 1 vl vl.length).map Value.string)) := owns_below HOX6_25.out bw (fun g hg => owns_lt HOX6_25.out hg)
            have HOY6_26 : Hid ((w26).ownsRow w.heap.size 9 1 (.slice oY6 yl.length pY6) yl.length ((mkT (1 + vl.length) yl yl.length).map Value.string)) := owns_below HOY6_25.out bw (fun g hg => owns_lt HOY6_25.out hg)
            have HOG6_26 : Hid ((w26).ownsRow w.heap.size 75 2 (.slice oG6 k pG6) k (flatF (mkG (1 + vl.length + yl.length) gs k))) := owns_below HOG6_25.out bw (fun g hg => owns_lt HOG6_25.out hg)
            have HOQ7_26 : Hid ((w26).ownsRow w.heap.size 75 2 (.slice oQ7 n pQ7) n (flatF fs)) := owns_below HOQ7_25.out bw (fun g hg => owns_lt HOQ7_25.out hg)
            have HOR8_26 : Hid ((w26).ownsRow w.heap.size 75 2 (.slice oR8 k pR8) k (flatF gs)) := owns_below HOR8_25.out bw (fun g hg => owns_lt HOR8_25.out hg)
            have HOQ10_26 : Hid ((w26).ownsRow w.heap.size 75 2 (.slice oQ10 n pQ10) n (flatF fs)) := owns_below HOQ10_25.out bw (fun g hg => owns_lt HOQ10_25.out hg)
            have HBv1_26 : Hid ((w26).heap[qv1]? = some (.cells #[.int .i64 m, .string p, .slice a n cap, .string b] 24)) := blk_below HBv1_25.out bw
            have HBv2_26 : Hid ((w26).heap[qv2]? = some (.cells #[.int .i64 st, .slice a2 k cap2, .string d] 26)) := blk_below HBv2_25.out bw
            have HBv3_26 : Hid ((w26).heap[qv3]? = some (.cells #[.string p, .slice oX3 vl.length pX3, .slice oY3 yl.length pY3, .int .i64 st, .slice oG3 k pG3, .string d, .int .i64 t] 34)) := blk_below HBv3_25.out bw
            have HBv4_26 : Hid ((w26).heap[qv4]? = some (.cells #[.int .i64 m, .string p, .slice oQ4 n pQ4, .string b] 38)) := blk_below HBv4_25.out bw
            have HBv5_26 : Hid ((w26).heap[qv5]? = some (.cells #[.int .i64 st, .slice oR5 k pR5, .string d] 32)) := blk_below HBv5_25.out bw
            have HBv6_26 : Hid ((w26).heap[qv6]? = some (.cells #[.string p, .slice oX6 vl.length pX6, .slice oY6 yl.length pY6, .int .i64 st, .slice oG6 k pG6, .string d, .int .i64 t] 34)) := blk_below HBv6_25.out bw
            have HX_26 : Hid (Below w23.heap.size w23 w26) := HX_25.out.trans (bw.mono HX_25.out.size)
            have HPA_26 : Hid (w26.heap[pa]? = some (.cells #[.string ⟨#[]⟩, .slice none 0 0, .slice none 0 0, .int .i64 0, .slice none 0 0, .string ⟨#[]⟩, .int .i64 0] 34)) := by show _ = _; rw [hXj, ho]; exact heap_alloc_new _ _
            clear hb25 HOX3_25 HOY3_25 HOG3_25 HOQ4_25 HOR5_25 HOX6_25 HOY6_25 HOG6_25 HOQ7_25 HOR8_25 HOQ10_25 HBv1_25 HBv2_25 HBv3_25 HBv4_25 HBv5_25 HBv6_25 bw ho hXj HX_25
            refine wpAnyH_ready (rs := [3]) (by kernel_rfl) (by simp) ?_
            refine AllReadyH.cons rfl (fun K hK => ?_) AllReadyH.nil
            go_simp
            refine (toResp_any st a2 k cap2 d gs w.heap.size _ (HA2.out _ hb26) hb26.size hm2).mono ?_
            rintro e w27 ⟨vv, rfl, ownR11, bw⟩
            obtain ⟨oR11, pR11, rfl⟩ := slice_of_owns ownR11
            have hb27 : Below w.heap.size w (w27) := hb26.trans (bw.mono hb26.size)
            have HM27 : Hid ((w26).heap.size ≤ (w27).heap.size) := bw.size
            have HOX3_27 : Hid ((w27).ownsRow w.heap.size 9 1 (.slice oX3 vl.length pX3) vl.length (vl.map Value.string)) := owns_below HOX3_26.out bw (fun g hg => owns_lt HOX3_26.out hg)
            have HOY3_27 : Hid ((w27).ownsRow w.heap.size 9 1 (.slice oY3 yl.length pY3) yl.length (yl.map Value.string)) := owns_below HOY3_26.out bw (fun g hg => owns_lt HOY3_26.out hg)
            have HOG3_27 : Hid ((w27).ownsRow w.heap.size 75 2 (.slice oG3 k pG3) k (flatF gs)) := owns_below HOG3_26.out bw (fun g hg => owns_lt HOG3_26.out hg)
            have HOQ4_27 : Hid ((w27).ownsRow w.heap.size 75 2 (.slice oQ4 n pQ4) n (flatF (mkG 1 fs n))) := owns_below HOQ4_26.out bw (fun g hg => owns_lt HOQ4_26.out hg)
            have HOR5_27 : Hid ((w27).ownsRow w.heap.size 75 2 (.slice oR5 k pR5) k (flatF (mkG (1 + 2 * n) gs k))) := owns_below HOR5_26.out bw (fun g hg => owns_lt HOR5_26.out hg)
            have HOX6_27 : Hid ((w27).ownsRow w.heap.size 9 1 (.slice oX6 vl.length pX6) vl.length ((mkT 1 vl vl.length).map Value.string)) := owns_below HOX6_26.out bw (fun g hg => owns_lt HOX6_26.out hg)
            have HOY6_27 : Hid ((w27).ownsRow w.heap.size 9 1 (.slice oY6 yl.length pY6) yl.length ((mkT (1 + vl.length) yl yl.length).map Value.string)) := owns_below HOY6_26.out bw (fun g hg => owns_lt HOY6_26.out hg)
            have HOG6_27 : Hid ((w27).ownsRow w.heap.size 75 2 (.slice oG6 k pG6) k (flatF (mkG (1 + vl.length + yl.length) gs k))) := owns_below HOG6_26.out bw (fun g hg => owns_lt HOG6_26.out hg)
            have HOQ7_27 : Hid ((w27).ownsRow w.heap.size 75 2 (.slice oQ7 n pQ7) n (flatF fs)) := owns_below HOQ7_26.out bw (fun g hg => owns_lt HOQ7_26.out hg)
            have HOR8_27 : Hid ((w27).ownsRow w.heap.size 75 2 (.slice oR8 k pR8) k (flatF gs)) := owns_below HOR8_26.out bw (fun g hg => owns_lt HOR8_26.out hg)
            have HOQ10_27 : Hid ((w27).ownsRow w.heap.size 75 2 (.slice oQ10 n pQ10) n (flatF fs)) := owns_below HOQ10_26.out bw (fun g hg => owns_lt HOQ10_26.out hg)
            have HBv1_27 : Hid ((w27).heap[qv1]? = some (.cells #[.int .i64 m, .string p, .slice a n cap, .string b] 24)) := blk_below HBv1_26.out bw
            have HBv2_27 : Hid ((w27).heap[qv2]? = some (.cells #[.int .i64 st, .slice a2 k cap2, .string d] 26)) := blk_below HBv2_26.out bw
            have HBv3_27 : Hid ((w27).heap[qv3]? = some (.cells #[.string p, .slice oX3 vl.length pX3, .slice oY3 yl.length pY3, .int .i64 st, .slice oG3 k pG3, .string d, .int .i64 t] 34)) := blk_below HBv3_26.out bw
            have HBv4_27 : Hid ((w27).heap[qv4]? = some (.cells #[.int .i64 m, .string p, .slice oQ4 n pQ4, .string b] 38)) := blk_below HBv4_26.out bw
            have HBv5_27 : Hid ((w27).heap[qv5]? = some (.cells #[.int .i64 st, .slice oR5 k pR5, .string d] 32)) := blk_below HBv5_26.out bw
            have HBv6_27 : Hid ((w27).heap[qv6]? = some (.cells #[.string p, .slice oX6 vl.length pX6, .slice oY6 yl.length pY6, .int .i64 st, .slice oG6 k pG6, .string d, .int .i64 t] 34)) := blk_below HBv6_26.out bw
            have HOR11_27 : Hid ((w27).ownsRow w.heap.size 75 2 (.slice oR11 k pR11) k (flatF gs)) := owns_wide ownR11 hb26.size
            have LOR11 : Hid (∀ g, (Value.ownBlock (.slice oR11 k pR11)) = some g → (w26).heap.size ≤ g) := fun g hg => owns_ge ownR11 hg
            have HIR11 : Hid (∀ g, (Value.ownBlock (.slice oR11 k pR11)) = some g → g < (w27).heap.size) := fun g hg => owns_lt ownR11 hg
            clear ownR11
            clear hb26 HOX3_26 HOY3_26 HOG3_26 HOQ4_26 HOR5_26 HOX6_26 HOY6_26 HOG6_26 HOQ7_26 HOR8_26 HOQ10_26 HBv1_26 HBv2_26 HBv3_26 HBv4_26 HBv5_26 HBv6_26
            have HX_27 : Hid (Below w23.heap.size w23 w27) := HX_26.out.trans (bw.mono HX_26.out.size)
            have HPA_27 : Hid (w27.heap[pa]? = some (.cells #[.string ⟨#[]⟩, .slice none 0 0, .slice none 0 0, .int .i64 0, .slice none 0 0, .string ⟨#[]⟩, .int .i64 0] 34)) := blk_below HPA_26.out bw
            refine hK.out _ _ (HSS.out _ HX_27.out) (fun _ => ?_)
            clear hK K bw HX_26
            refine wpAnyH_ready (rs := [5]) (by kernel_rfl) (by simp) ?_
            refine AllReadyH.cons rfl (fun K hK => ?_) AllReadyH.nil
            go_simp
            refine (HIM.out _ _ _ _ _ HOQ10_27.out HOR11_27.out).mono ?_
            rintro e w28 ⟨vv1, vv2, vv3, rfl, ⟨ownX12, ownY12, ownG12, ne12⟩, bw⟩
            obtain ⟨oX12, pX12, rfl⟩ := slice_of_owns ownX12
            obtain ⟨oY12, pY12, rfl⟩ := slice_of_owns ownY12
            obtain ⟨oG12, pG12, rfl⟩ := slice_of_owns ownG12
            have AP12 : Hid (∀ j, (Value.slice oX12 vl.length pX12).ownBlock = some j → (Value.slice oY12 yl.length pY12).ownBlock ≠ some j) := ne12
            clear ne12
            have hb28 : Below w.heap.size w (w28) := hb27.trans (bw.mono hb27.size)
            have HM28 : Hid ((w27).heap.size ≤ (w28).heap.size) := bw.size
            have HOX3_28 : Hid ((w28).ownsRow w.heap.size 9 1 (.slice oX3 vl.length pX3) vl.length (vl.map Value.string)) := owns_below HOX3_27.out bw (fun g hg => owns_lt HOX3_27.out hg)
            have HOY3_28 : Hid ((w28).ownsRow w.heap.size 9 1 (.slice oY3 yl.length pY3) yl.length (yl.map Value.string)) := owns_below HOY3_27.out bw (fun g hg => owns_lt HOY3_27.out hg)
            have HOG3_28 : Hid ((w28).ownsRow w.heap.size 75 2 (.slice oG3 k pG3) k (flatF gs)) := owns_below HOG3_27.out bw (fun g hg => owns_lt HOG3_27.out hg)
            have HOQ4_28 : Hid ((w28).ownsRow w.heap.size 75 2 (.slice oQ4 n pQ4) n (flatF (mkG 1 fs n))) := owns_below HOQ4_27.out bw (fun g hg => owns_lt HOQ4_27.out hg)
            have HOR5_28 : Hid ((w28).ownsRow w.heap.size 75 2 (.slice oR5 k pR5) k (flatF (mkG (1 + 2 * n) gs k))) := owns_below HOR5_27.out bw (fun g hg => owns_lt HOR5_27.out hg)
            have HOX6_28 : Hid ((w28).ownsRow w.heap.size 9 1 (.slice oX6 vl.length pX6) vl.length ((mkT 1 vl vl.length).map Value.string)) := owns_below HOX6_27.out bw (fun g hg => owns_lt HOX6_27.out hg)
            have HOY6_28 : Hid ((w28).ownsRow w.heap.size 9 1 (.slice oY6 yl.length pY6) yl.length ((mkT (1 + vl.length) yl yl.length).map Value.string)) := owns_below HOY6_27.out bw (fun g hg => owns_lt HOY6_27.out hg)
            have HOG6_28 : Hid ((w28).ownsRow w.heap.size 75 2 (.slice oG6 k pG6) k (flatF (mkG (1 + vl.length + yl.length) gs k))) := owns_below HOG6_27.out bw (fun g hg => owns_lt HOG6_27.out hg)
            have HOQ7_28 : Hid ((w28).ownsRow w.heap.size 75 2 (.slice oQ7 n pQ7) n (flatF fs)) := owns_below HOQ7_27.out bw (fun g hg => owns_lt HOQ7_27.out hg)
            have HOR8_28 : Hid ((w28).ownsRow w.heap.size 75 2 (.slice oR8 k pR8) k (flatF gs)) := owns_below HOR8_27.out bw (fun g hg => owns_lt HOR8_27.out hg)
            have HOQ10_28 : Hid ((w28).ownsRow w.heap.size 75 2 (.slice oQ10 n pQ10) n (flatF fs)) := owns_below HOQ10_27.out bw (fun g hg => owns_lt HOQ10_27.out hg)
            have HOR11_28 : Hid ((w28).ownsRow w.heap.size 75 2 (.slice oR11 k pR11) k (flatF gs)) := owns_below HOR11_27.out bw (fun g hg => owns_lt HOR11_27.out hg)
            have HBv1_28 : Hid ((w28).heap[qv1]? = some (.cells #[.int .i64 m, .string p, .slice a n cap, .string b] 24)) := blk_below HBv1_27.out bw
            have HBv2_28 : Hid ((w28).heap[qv2]? = some (.cells #[.int .i64 st, .slice a2 k cap2, .string d] 26)) := blk_below HBv2_27.out bw
            have HBv3_28 : Hid ((w28).heap[qv3]? = some (.cells #[.string p, .slice oX3 vl.length pX3, .slice oY3 yl.length pY3, .int .i64 st, .slice oG3 k pG3, .string d, .int .i64 t] 34)) := blk_below HBv3_27.out bw
            have HBv4_28 : Hid ((w28).heap[qv4]? = some (.cells #[.int .i64 m, .string p, .slice oQ4 n pQ4, .string b] 38)) := blk_below HBv4_27.out bw
            have HBv5_28 : Hid ((w28).heap[qv5]? = some (.cells #[.int .i64 st, .slice oR5 k pR5, .string d] 32)) := blk_below HBv5_27.out bw
            have HBv6_28 : Hid ((w28).heap[qv6]? = some (.cells #[.string p, .slice oX6 vl.length pX6, .slice oY6 yl.length pY6, .int .i64 st, .slice oG6 k pG6, .string d, .int .i64 t] 34)) := blk_below HBv6_27.out bw
            have HOX12_28 : Hid ((w28).ownsRow w.heap.size 9 1 (.slice oX12 vl.length pX12) vl.length (vl.map Value.string)) := owns_wide ownX12 hb27.size
            have LOX12 : Hid (∀ g, (Value.ownBlock (.slice oX12 vl.length pX12)) = some g → (w27).heap.size ≤ g) := fun g hg => owns_ge ownX12 hg
            have HIX12 : Hid (∀ g, (Value.ownBlock (.slice oX12 vl.length pX12)) = some g → g < (w28).heap.size) := fun g hg => owns_lt ownX12 hg
            clear ownX12
            have HOY12_28 : Hid ((w28).ownsRow w.heap.size 9 1 (.slice oY12 yl.length pY12) yl.length (yl.map Value.string)) := owns_wide ownY12 hb27.size
            have LOY12 : Hid (∀ g, (Value.ownBlock (.slice oY12 yl.length pY12)) = some g → (w27).heap.size ≤ g) := fun g hg => owns_ge ownY12 hg
            have HIY12 : Hid (∀ g, (Value.ownBlock (.slice oY12 yl.length pY12)) = some g → g < (w28).heap.size) := fun g hg => owns_lt ownY12 hg
            clear ownY12
            have HOG12_28 : Hid ((w28).ownsRow w.heap.size 75 2 (.slice oG12 k pG12) k (flatF gs)) := owns_wide ownG12 hb27.size
            have LOG12 : Hid (∀ g, (Value.ownBlock (.slice oG12 k pG12)) = some g → (w27).heap.size ≤ g) := fun g hg => owns_ge ownG12 hg
            have HIG12 : Hid (∀ g, (Value.ownBlock (.slice oG12 k pG12)) = some g → g < (w28).heap.size) := fun g hg => owns_lt ownG12 hg
            clear ownG12
            clear hb27 HOX3_27 HOY3_27 HOG3_27 HOQ4_27 HOR5_27 HOX6_27 HOY6_27 HOG6_27 HOQ7_27 HOR8_27 HOQ10_27 HOR11_27 HBv1_27 HBv2_27 HBv3_27 HBv4_27 HBv5_27 HBv6_27
            have HX_28 : Hid (Below w23.heap.size w23 w28) := HX_27.out.trans (bw.mono HX_27.out.size)
            have HPA_28 : Hid (w28.heap[pa]? = some (.cells #[.string ⟨#[]⟩, .slice none 0 0, .slice none 0 0, .int .i64 0, .slice none 0 0, .string ⟨#[]⟩, .int .i64 0] 34)) := blk_below HPA_27.out bw
            have HRXX12_28 : Hid ((w28).ownsRow w23.heap.size 9 1 (.slice oX12 vl.length pX12) vl.length (vl.map Value.string)) := owns_lift HOX12_28.out (fun g hg => Nat.le_trans HX_27.out.size (LOX12.out g hg))
            have HRXY12_28 : Hid ((w28).ownsRow w23.heap.size 9 1 (.slice oY12 yl.length pY12) yl.length (yl.map Value.string)) := owns_lift HOY12_28.out (fun g hg => Nat.le_trans HX_27.out.size (LOY12.out g hg))
            have HRXG12_28 : Hid ((w28).ownsRow w23.heap.size 75 2 (.slice oG12 k pG12) k (flatF gs)) := owns_lift HOG12_28.out (fun g hg => Nat.le_trans HX_27.out.size (LOG12.out g hg))
            refine hK.out _ _ (HSS.out _ HX_28.out) (fun _ => ?_)
            clear hK K bw HX_27
            refine wpAnyH_takeD (i := 6) (v := .tuple #[.agg #[.string p, .slice oX12 vl.length pX12, .slice oY12 yl.length pY12, .int .i64 st, .slice oG12 k pG12, .string d, .int .i64 t], .bool true]) (some 98) rfl rfl (by kernel_rfl) (by kernel_rfl) (by kernel_rfl) (fun _ _ _ h => h) (Or.inl ⟨by rfl, by intro W _; go_simp⟩) (HSS.out _ HX_28.out) ?_
            simp only [Act.put, List.setIfInBounds_toArray, List.set_cons_zero, List.set_cons_succ]
            refine wpAnyH_takeD (i := 7) (v := .agg #[.string p, .slice oX12 vl.length pX12, .slice oY12 yl.length pY12, .int .i64 st, .slice oG12 k pG12, .string d, .int .i64 t]) (some 105) rfl rfl (by kernel_rfl) (by kernel_rfl) (by kernel_rfl) (fun _ _ _ h => h) (Or.inl ⟨by rfl, by intro W _; go_simp⟩) (HSS.out _ HX_28.out) ?_
            simp only [Act.put, List.setIfInBounds_toArray, List.set_cons_zero, List.set_cons_succ]
            refine wpAnyH_takeD (i := 8) (v := .bool true) (some 106) rfl rfl (by kernel_rfl) (by kernel_rfl) (by kernel_rfl) (fun _ _ _ h => h) (Or.inl ⟨by rfl, by intro W _; go_simp⟩) (HSS.out _ HX_28.out) ?_
            simp only [Act.put, List.setIfInBounds_toArray, List.set_cons_zero, List.set_cons_succ]
            refine wpAnyH_ready (rs := [10]) (by kernel_rfl) (by simp) ?_
            refine AllReadyH.cons rfl (fun K hK => ?_) AllReadyH.nil
            have ce0 : w28.cell? ⟨pa, 0, none⟩ = some (.string ⟨#[]⟩) := (cell_of HPA_28.out 0).trans rfl
            have fe0 : w28.frozen? ⟨pa, 0, none⟩ = false := frozen_of HPA_28.out 0
            have ce1 : w28.cell? ⟨pa, 1, none⟩ = some (.slice none 0 0) := (cell_of HPA_28.out 1).trans rfl
            have fe1 : w28.frozen? ⟨pa, 1, none⟩ = false := frozen_of HPA_28.out 1
            have ce2 : w28.cell? ⟨pa, 2, none⟩ = some (.slice none 0 0) := (cell_of HPA_28.out 2).trans rfl
            have fe2 : w28.frozen? ⟨pa, 2, none⟩ = false := frozen_of HPA_28.out 2
            have ce3 : w28.cell? ⟨pa, 3, none⟩ = some (.int .i64 0) := (cell_of HPA_28.out 3).trans rfl
            have fe3 : w28.frozen? ⟨pa, 3, none⟩ = false := frozen_of HPA_28.out 3
            have ce4 : w28.cell? ⟨pa, 4, none⟩ = some (.slice none 0 0) := (cell_of HPA_28.out 4).trans rfl
            have fe4 : w28.frozen? ⟨pa, 4, none⟩ = false := frozen_of HPA_28.out 4
            have ce5 : w28.cell? ⟨pa, 5, none⟩ = some (.string ⟨#[]⟩) := (cell_of HPA_28.out 5).trans rfl
            have fe5 : w28.frozen? ⟨pa, 5, none⟩ = false := frozen_of HPA_28.out 5
            have ce6 : w28.cell? ⟨pa, 6, none⟩ = some (.int .i64 0) := (cell_of HPA_28.out 6).trans rfl
            have fe6 : w28.frozen? ⟨pa, 6, none⟩ = false := frozen_of HPA_28.out 6
            obtain ⟨w29, hY⟩ : ∃ Y, Y = (((((((w28.setCell ⟨pa, 0, none⟩ (.string p)).setCell ⟨pa, 1, none⟩ (.slice oX12 vl.length pX12)).setCell ⟨pa, 2, none⟩ (.slice oY12 yl.length pY12)).setCell ⟨pa, 3, none⟩ (.int .i64 st)).setCell ⟨pa, 4, none⟩ (.slice oG12 k pG12)).setCell ⟨pa, 5, none⟩ (.string d)).setCell ⟨pa, 6, none⟩ (.int .i64 t)) := ⟨_, rfl⟩
            have HY : Hid ((((((((w28.setCell ⟨pa, 0, none⟩ (.string p)).setCell ⟨pa, 1, none⟩ (.slice oX12 vl.length pX12)).setCell ⟨pa, 2, none⟩ (.slice oY12 yl.length pY12)).setCell ⟨pa, 3, none⟩ (.int .i64 st)).setCell ⟨pa, 4, none⟩ (.slice oG12 k pG12)).setCell ⟨pa, 5, none⟩ (.string d)).setCell ⟨pa, 6, none⟩ (.int .i64 t)) = w29) := hY.symm
            have HX_29 : Hid (Below w23.heap.size w23 w29) := by show Below _ _ _; rw [hY]; exact (((((((HX_28.out.setCell (p := ⟨pa, 0, none⟩) HGA.out _).setCell (p := ⟨pa, 1, none⟩) HGA.out _).setCell (p := ⟨pa, 2, none⟩) HGA.out _).setCell (p := ⟨pa, 3, none⟩) HGA.out _).setCell (p := ⟨pa, 4, none⟩) HGA.out _).setCell (p := ⟨pa, 5, none⟩) HGA.out _).setCell (p := ⟨pa, 6, none⟩) HGA.out _)
            have HPA_29 : Hid (w29.heap[pa]? = some (.cells #[.string p, .slice oX12 vl.length pX12, .slice oY12 yl.length pY12, .int .i64 st, .slice oG12 k pG12, .string d, .int .i64 t] 34)) := by show _ = _; rw [hY]; have h := (heap_set _ pa 6 _ _ _ (.int .i64 t) (heap_set _ pa 5 _ _ _ (.string d) (heap_set _ pa 4 _ _ _ (.slice oG12 k pG12) (heap_set _ pa 3 _ _ _ (.int .i64 st) (heap_set _ pa 2 _ _ _ (.slice oY12 yl.length pY12) (heap_set _ pa 1 _ _ _ (.slice oX12 vl.length pX12) (heap_set _ pa 0 _ _ _ (.string p) HPA_28.out))))))); simpa using h
            have HRXX12_29 : Hid ((w29).ownsRow w23.heap.size 9 1 (.slice oX12 vl.length pX12) vl.length (vl.map Value.string)) := by show World.ownsRow _ _ _ _ _ _ _; rw [hY]; exact owns_same HRXX12_28.out (fun g hg => by have hne := own_ne HRXX12_28.out HPA_28.out (by decide) g hg; rw [heap_setCell_other _ _ g _ hne, heap_setCell_other _ _ g _ hne, heap_setCell_other _ _ g _ hne, heap_setCell_other _ _ g _ hne, heap_setCell_other _ _ g _ hne, heap_setCell_other _ _ g _ hne, heap_setCell_other _ _ g _ hne])
            have HRXY12_29 : Hid ((w29).ownsRow w23.heap.size 9 1 (.slice oY12 yl.length pY12) yl.length (yl.map Value.string)) := by show World.ownsRow _ _ _ _ _ _ _; rw [hY]; exact owns_same HRXY12_28.out (fun g hg => by have hne := own_ne HRXY12_28.out HPA_28.out (by decide) g hg; rw [heap_setCell_other _ _ g _ hne, heap_setCell_other _ _ g _ hne, heap_setCell_other _ _ g _ hne, heap_setCell_other _ _ g _ hne, heap_setCell_other _ _ g _ hne, heap_setCell_other _ _ g _ hne, heap_setCell_other _ _ g _ hne])
            have HRXG12_29 : Hid ((w29).ownsRow w23.heap.size 75 2 (.slice oG12 k pG12) k (flatF gs)) := by show World.ownsRow _ _ _ _ _ _ _; rw [hY]; exact owns_same HRXG12_28.out (fun g hg => by have hne := own_ne HRXG12_28.out HPA_28.out (by decide) g hg; rw [heap_setCell_other _ _ g _ hne, heap_setCell_other _ _ g _ hne, heap_setCell_other _ _ g _ hne, heap_setCell_other _ _ g _ hne, heap_setCell_other _ _ g _ hne, heap_setCell_other _ _ g _ hne, heap_setCell_other _ _ g _ hne])
            have APXX12Y12 : Hid (∀ g, (Value.ownBlock (.slice oX12 vl.length pX12)) = some g → (Value.ownBlock (.slice oY12 yl.length pY12)) ≠ some g) := AP12.out
            clear hY hb28 HOX3_28 HOY3_28 HOG3_28 HOQ4_28 HOR5_28 HOX6_28 HOY6_28 HOG6_28 HOQ7_28 HOR8_28 HOQ10_28 HOR11_28 HOX12_28 HOY12_28 HOG12_28 HBv1_28 HBv2_28 HBv3_28 HBv4_28 HBv5_28 HBv6_28
            go_simp
            rw [HY.out]
            refine hK.out _ _ (HSS.out _ HX_29.out) (fun _ => ?_)
            clear hK K HY ce0 fe0 ce1 fe1 ce2 fe2 ce3 fe3 ce4 fe4 ce5 fe5 ce6 fe6
            refine wpAnyH_takeD (i := 11) (v := .bool true) (some 18) rfl rfl (by kernel_rfl) (by kernel_rfl) (by kernel_rfl) (fun _ _ _ h => h) (Or.inl ⟨by rfl, by intro W _; go_simp⟩) (HSS.out _ HX_29.out) ?_
            simp only [Act.put, List.setIfInBounds_toArray, List.set_cons_zero, List.set_cons_succ]
            refine wpAnyH_done (by kernel_rfl) ?_ _
            go_wp2_with fail
            go_meet
            exact ⟨pa, oX12, pX12, oY12, pY12, oG12, pG12, rfl, rfl, ⟨HX_29.out, HPA_29.out, HGA.out, HRXX12_29.out, HRXY12_29.out, HRXG12_29.out, APXX12Y12.out⟩⟩
        · go_simp
          have HXA : Hid (Below w23.heap.size w23 (w24.alloc (.cells #[.string ⟨#[]⟩, .slice none 0 0, .slice none 0 0, .int .i64 0, .slice none 0 0, .string ⟨#[]⟩, .int .i64 0] 34))) := HX_24.out.alloc HX_24.out.size _
          refine hK.out _ _ (HSS.out _ HXA.out) (fun _ => ?_)
          clear hK K HXA
          obtain ⟨pa, ho⟩ : ∃ o, o = w24.heap.size := ⟨_, rfl⟩
          obtain ⟨w25, hXj⟩ : ∃ X, X = w24.alloc (.cells #[.string ⟨#[]⟩, .slice none 0 0, .slice none 0 0, .int .i64 0, .slice none 0 0, .string ⟨#[]⟩, .int .i64 0] 34) := ⟨_, rfl⟩
          rw [← ho, ← hXj]
          have HGA : Hid (w23.heap.size ≤ pa) := by show _ ≤ _; rw [ho]; exact HX_24.out.size
          have bw : Below w24.heap.size w24 w25 := by rw [hXj]; exact (Below.refl _ _).alloc (Nat.le_refl _) _
          have hb25 : Below w.heap.size w (w25) := hb24.trans (bw.mono hb24.size)
          have HM25 : Hid ((w24).heap.size ≤ (w25).heap.size) := bw.size
          have HOX3_25 : Hid ((w25).ownsRow w.heap.size 9 1 (.slice oX3 vl.length pX3) vl.length (vl.map Value.string)) := owns_below HOX3_24.out bw (fun g hg => owns_lt HOX3_24.out hg)
          have HOY3_25 : Hid ((w25).ownsRow w.heap.size 9 1 (.slice oY3 yl.length pY3) yl.length (yl.map Value.string)) := owns_below HOY3_24.out bw (fun g hg => owns_lt HOY3_24.out hg)
          have HOG3_25 : Hid ((w25).ownsRow w.heap.size 75 2 (.slice oG3 k pG3) k (flatF gs)) := owns_below HOG3_24.out bw (fun g hg => owns_lt HOG3_24.out hg)
          have HOQ4_25 : Hid ((w25).ownsRow w.heap.size 75 2 (.slice oQ4 n pQ4) n (flatF (mkG 1 fs n))) := owns_below HOQ4_24.out bw (fun g hg => owns_lt HOQ4_24.out hg)
          have HOR5_25 : Hid ((w25).ownsRow w.heap.size 75 2 (.slice oR5 k pR5) k (flatF (mkG (1 + 2 * n) gs k))) := owns_below HOR5_24.out bw (fun g hg => owns_lt HOR5_24.out hg)
          have HOX6_25 : Hid ((w25).ownsRow w.heap.size 9 1 (.slice oX6 vl.length pX6) vl.length ((mkT 1 vl vl.length).map Value.string)) := owns_below HOX6_24.out bw (fun g hg => owns_lt HOX6_24.out hg)
          have HOY6_25 : Hid ((w25).ownsRow w.heap.size 9 1 (.slice oY6 yl.length pY6) yl.length ((mkT (1 + vl.length) yl yl.length).map Value.string)) := owns_below HOY6_24.out bw (fun g hg => owns_lt HOY6_24.out hg)
          have HOG6_25 : Hid ((w25).ownsRow w.heap.size 75 2 (.slice oG6 k pG6) k (flatF (mkG (1 + vl.length + yl.length) gs k))) := owns_below HOG6_24.out bw (fun g hg => owns_lt HOG6_24.out hg)
          have HOQ7_25 : Hid ((w25).ownsRow w.heap.size 75 2 (.slice oQ7 n pQ7) n (flatF fs)) := owns_below HOQ7_24.out bw (fun g hg => owns_lt HOQ7_24.out hg)
          have HOR8_25 : Hid ((w25).ownsRow w.heap.size 75 2 (.slice oR8 k pR8) k (flatF gs)) := owns_below HOR8_24.out bw (fun g hg => owns_lt HOR8_24.out hg)
          have HBv1_25 : Hid ((w25).heap[qv1]? = some (.cells #[.int .i64 m, .string p, .slice a n cap, .string b] 24)) := blk_below HBv1_24.out bw
          have HBv2_25 : Hid ((w25).heap[qv2]? = some (.cells #[.int .i64 st, .slice a2 k cap2, .string d] 26)) := blk_below HBv2_24.out bw
          have HBv3_25 : Hid ((w25).heap[qv3]? = some (.cells #[.string p, .slice oX3 vl.length pX3, .slice oY3 yl.length pY3, .int .i64 st, .slice oG3 k pG3, .string d, .int .i64 t] 34)) := blk_below HBv3_24.out bw
          have HBv4_25 : Hid ((w25).heap[qv4]? = some (.cells #[.int .i64 m, .string p, .slice oQ4 n pQ4, .string b] 38)) := blk_below HBv4_24.out bw
          have HBv5_25 : Hid ((w25).heap[qv5]? = some (.cells #[.int .i64 st, .slice oR5 k pR5, .string d] 32)) := blk_below HBv5_24.out bw
          have HBv6_25 : Hid ((w25).heap[qv6]? = some (.cells #[.string p, .slice oX6 vl.length pX6, .slice oY6 yl.length pY6, .int .i64 st, .slice oG6 k pG6, .string d, .int .i64 t] 34)) := blk_below HBv6_24.out bw
          have HX_25 : Hid (Below w23.heap.size w23 w25) := HX_24.out.trans (bw.mono HX_24.out.size)
          have HPA_25 : Hid (w25.heap[pa]? = some (.cells #[.string ⟨#[]⟩, .slice none 0 0, .slice none 0 0, .int .i64 0, .slice none 0 0, .string ⟨#[]⟩, .int .i64 0] 34)) := by show _ = _; rw [hXj, ho]; exact heap_alloc_new _ _
          clear hb24 HOX3_24 HOY3_24 HOG3_24 HOQ4_24 HOR5_24 HOX6_24 HOY6_24 HOG6_24 HOQ7_24 HOR8_24 HBv1_24 HBv2_24 HBv3_24 HBv4_24 HBv5_24 HBv6_24 bw ho hXj HX_24
          refine wpAnyH_ready (rs := [1]) (by kernel_rfl) (by simp) ?_
          refine AllReadyH.cons rfl (fun K hK => ?_) AllReadyH.nil
          go_simp
          refine (toReq_any m p a n cap b fs w.heap.size _ (HA1.out _ hb25) hb25.size hm1).mono ?_
          rintro e w26 ⟨vv, rfl, ownQ10, bw⟩
          obtain ⟨oQ10, pQ10, rfl⟩ := slice_of_owns ownQ10
          have hb26 : Below w.heap.size w (w26) := hb25.trans (bw.mono hb25.size)
          have HM26 : Hid ((w25).heap.size ≤ (w26).heap.size) := bw.size
          have HOX3_26 : Hid ((w26).ownsRow w.heap.size 9 1 (.slice oX3 vl.length pX3) vl.length (vl.map Value.string)) := owns_below HOX3_25.out bw (fun g hg => owns_lt HOX3_25.out hg)
          have HOY3_26 : Hid ((w26).ownsRow w.heap.size 9 1 (.slice oY3 yl.length pY3) yl.length (yl.map Value.string)) := owns_below HOY3_25.out bw (fun g hg => owns_lt HOY3_25.out hg)
          have HOG3_26 : Hid ((w26).ownsRow w.heap.size 75 2 (.slice oG3 k pG3) k (flatF gs)) := owns_below HOG3_25.out bw (fun g hg => owns_lt HOG3_25.out hg)
          have HOQ4_26 : Hid ((w26).ownsRow w.heap.size 75 2 (.slice oQ4 n pQ4) n (flatF (mkG 1 fs n))) := owns_below HOQ4_25.out bw (fun g hg => owns_lt HOQ4_25.out hg)
          have HOR5_26 : Hid ((w26).ownsRow w.heap.size 75 2 (.slice oR5 k pR5) k (flatF (mkG (1 + 2 * n) gs k))) := owns_below HOR5_25.out bw (fun g hg => owns_lt HOR5_25.out hg)
          have HOX6_26 : Hid ((w26).ownsRow w.heap.size 9 1 (.slice oX6 vl.length pX6) vl.length ((mkT 1 vl vl.length).map Value.string)) := owns_below HOX6_25.out bw (fun g hg => owns_lt HOX6_25.out hg)
          have HOY6_26 : Hid ((w26).ownsRow w.heap.size 9 1 (.slice oY6 yl.length pY6) yl.length ((mkT (1 + vl.length) yl yl.length).map Value.string)) := owns_below HOY6_25.out bw (fun g hg => owns_lt HOY6_25.out hg)
          have HOG6_26 : Hid ((w26).ownsRow w.heap.size 75 2 (.slice oG6 k pG6) k (flatF (mkG (1 + vl.length + yl.length) gs k))) := owns_below HOG6_25.out bw (fun g hg => owns_lt HOG6_25.out hg)
          have HOQ7_26 : Hid ((w26).ownsRow w.heap.size 75 2 (.slice oQ7 n pQ7) n (flatF fs)) := owns_below HOQ7_25.out bw (fun g hg => owns_lt HOQ7_25.out hg)
          have HOR8_26 : Hid ((w26).ownsRow w.heap.size 75 2 (.slice oR8 k pR8) k (flatF gs)) := owns_below HOR8_25.out bw (fun g hg => owns_lt HOR8_25.out hg)
          have HBv1_26 : Hid ((w26).heap[qv1]? = some (.cells #[.int .i64 m, .string p, .slice a n cap, .string b] 24)) := blk_below HBv1_25.out bw
          have HBv2_26 : Hid ((w26).heap[qv2]? = some (.cells #[.int .i64 st, .slice a2 k cap2, .string d] 26)) := blk_below HBv2_25.out bw
          have HBv3_26 : Hid ((w26).heap[qv3]? = some (.cells #[.string p, .slice oX3 vl.length pX3, .slice oY3 yl.length pY3, .int .i64 st, .slice oG3 k pG3, .string d, .int .i64 t] 34)) := blk_below HBv3_25.out bw
          have HBv4_26 : Hid ((w26).heap[qv4]? = some (.cells #[.int .i64 m, .string p, .slice oQ4 n pQ4, .string b] 38)) := blk_below HBv4_25.out bw
          have HBv5_26 : Hid ((w26).heap[qv5]? = some (.cells #[.int .i64 st, .slice oR5 k pR5, .string d] 32)) := blk_below HBv5_25.out bw
          have HBv6_26 : Hid ((w26).heap[qv6]? = some (.cells #[.string p, .slice oX6 vl.length pX6, .slice oY6 yl.length pY6, .int .i64 st, .slice oG6 k pG6, .string d, .int .i64 t] 34)) := blk_below HBv6_25.out bw
          have HOQ10_26 : Hid ((w26).ownsRow w.heap.size 75 2 (.slice oQ10 n pQ10) n (flatF fs)) := owns_wide ownQ10 hb25.size
          have LOQ10 : Hid (∀ g, (Value.ownBlock (.slice oQ10 n pQ10)) = some g → (w25).heap.size ≤ g) := fun g hg => owns_ge ownQ10 hg
          have HIQ10 : Hid (∀ g, (Value.ownBlock (.slice oQ10 n pQ10)) = some g → g < (w26).heap.size) := fun g hg => owns_lt ownQ10 hg
          clear ownQ10
          clear hb25 HOX3_25 HOY3_25 HOG3_25 HOQ4_25 HOR5_25 HOX6_25 HOY6_25 HOG6_25 HOQ7_25 HOR8_25 HBv1_25 HBv2_25 HBv3_25 HBv4_25 HBv5_25 HBv6_25
          have HX_26 : Hid (Below w23.heap.size w23 w26) := HX_25.out.trans (bw.mono HX_25.out.size)
          have HPA_26 : Hid (w26.heap[pa]? = some (.cells #[.string ⟨#[]⟩, .slice none 0 0, .slice none 0 0, .int .i64 0, .slice none 0 0, .string ⟨#[]⟩, .int .i64 0] 34)) := blk_below HPA_25.out bw
          refine hK.out _ _ (HSS.out _ HX_26.out) (fun _ => ?_)
          clear hK K bw HX_25
          refine wpAnyH_ready (rs := [3]) (by kernel_rfl) (by simp) ?_
          refine AllReadyH.cons rfl (fun K hK => ?_) AllReadyH.nil
          go_simp
          refine (toResp_any st a2 k cap2 d gs w.heap.size _ (HA2.out _ hb26) hb26.size hm2).mono ?_
          rintro e w27 ⟨vv, rfl, ownR11, bw⟩
          obtain ⟨oR11, pR11, rfl⟩ := slice_of_owns ownR11
          have hb27 : Below w.heap.size w (w27) := hb26.trans (bw.mono hb26.size)
          have HM27 : Hid ((w26).heap.size ≤ (w27).heap.size) := bw.size
          have HOX3_27 : Hid ((w27).ownsRow w.heap.size 9 1 (.slice oX3 vl.length pX3) vl.length (vl.map Value.string)) := owns_below HOX3_26.out bw (fun g hg => owns_lt HOX3_26.out hg)
          have HOY3_27 : Hid ((w27).ownsRow w.heap.size 9 1 (.slice oY3 yl.length pY3) yl.length (yl.map Value.string)) := owns_below HOY3_26.out bw (fun g hg => owns_lt HOY3_26.out hg)
          have HOG3_27 : Hid ((w27).ownsRow w.heap.size 75 2 (.slice oG3 k pG3) k (flatF gs)) := owns_below HOG3_26.out bw (fun g hg => owns_lt HOG3_26.out hg)
          have HOQ4_27 : Hid ((w27).ownsRow w.heap.size 75 2 (.slice oQ4 n pQ4) n (flatF (mkG 1 fs n))) := owns_below HOQ4_26.out bw (fun g hg => owns_lt HOQ4_26.out hg)
          have HOR5_27 : Hid ((w27).ownsRow w.heap.size 75 2 (.slice oR5 k pR5) k (flatF (mkG (1 + 2 * n) gs k))) := owns_below HOR5_26.out bw (fun g hg => owns_lt HOR5_26.out hg)
          have HOX6_27 : Hid ((w27).ownsRow w.heap.size 9 1 (.slice oX6 vl.length pX6) vl.length ((mkT 1 vl vl.length).map Value.string)) := owns_below HOX6_26.out bw (fun g hg => owns_lt HOX6_26.out hg)
          have HOY6_27 : Hid ((w27).ownsRow w.heap.size 9 1 (.slice oY6 yl.length pY6) yl.length ((mkT (1 + vl.length) yl yl.length).map Value.string)) := owns_below HOY6_26.out bw (fun g hg => owns_lt HOY6_26.out hg)
          have HOG6_27 : Hid ((w27).ownsRow w.heap.size 75 2 (.slice oG6 k pG6) k (flatF (mkG (1 + vl.length + yl.length) gs k))) := owns_below HOG6_26.out bw (fun g hg => owns_lt HOG6_26.out hg)
          have HOQ7_27 : Hid ((w27).ownsRow w.heap.size 75 2 (.slice oQ7 n pQ7) n (flatF fs)) := owns_below HOQ7_26.out bw (fun g hg => owns_lt HOQ7_26.out hg)
          have HOR8_27 : Hid ((w27).ownsRow w.heap.size 75 2 (.slice oR8 k pR8) k (flatF gs)) := owns_below HOR8_26.out bw (fun g hg => owns_lt HOR8_26.out hg)
          have HOQ10_27 : Hid ((w27).ownsRow w.heap.size 75 2 (.slice oQ10 n pQ10) n (flatF fs)) := owns_below HOQ10_26.out bw (fun g hg => owns_lt HOQ10_26.out hg)
          have HBv1_27 : Hid ((w27).heap[qv1]? = some (.cells #[.int .i64 m, .string p, .slice a n cap, .string b] 24)) := blk_below HBv1_26.out bw
          have HBv2_27 : Hid ((w27).heap[qv2]? = some (.cells #[.int .i64 st, .slice a2 k cap2, .string d] 26)) := blk_below HBv2_26.out bw
          have HBv3_27 : Hid ((w27).heap[qv3]? = some (.cells #[.string p, .slice oX3 vl.length pX3, .slice oY3 yl.length pY3, .int .i64 st, .slice oG3 k pG3, .string d, .int .i64 t] 34)) := blk_below HBv3_26.out bw
          have HBv4_27 : Hid ((w27).heap[qv4]? = some (.cells #[.int .i64 m, .string p, .slice oQ4 n pQ4, .string b] 38)) := blk_below HBv4_26.out bw
          have HBv5_27 : Hid ((w27).heap[qv5]? = some (.cells #[.int .i64 st, .slice oR5 k pR5, .string d] 32)) := blk_below HBv5_26.out bw
          have HBv6_27 : Hid ((w27).heap[qv6]? = some (.cells #[.string p, .slice oX6 vl.length pX6, .slice oY6 yl.length pY6, .int .i64 st, .slice oG6 k pG6, .string d, .int .i64 t] 34)) := blk_below HBv6_26.out bw
          have HOR11_27 : Hid ((w27).ownsRow w.heap.size 75 2 (.slice oR11 k pR11) k (flatF gs)) := owns_wide ownR11 hb26.size
          have LOR11 : Hid (∀ g, (Value.ownBlock (.slice oR11 k pR11)) = some g → (w26).heap.size ≤ g) := fun g hg => owns_ge ownR11 hg
          have HIR11 : Hid (∀ g, (Value.ownBlock (.slice oR11 k pR11)) = some g → g < (w27).heap.size) := fun g hg => owns_lt ownR11 hg
          clear ownR11
          clear hb26 HOX3_26 HOY3_26 HOG3_26 HOQ4_26 HOR5_26 HOX6_26 HOY6_26 HOG6_26 HOQ7_26 HOR8_26 HOQ10_26 HBv1_26 HBv2_26 HBv3_26 HBv4_26 HBv5_26 HBv6_26
          have HX_27 : Hid (Below w23.heap.size w23 w27) := HX_26.out.trans (bw.mono HX_26.out.size)
          have HPA_27 : Hid (w27.heap[pa]? = some (.cells #[.string ⟨#[]⟩, .slice none 0 0, .slice none 0 0, .int .i64 0, .slice none 0 0, .string ⟨#[]⟩, .int .i64 0] 34)) := blk_below HPA_26.out bw
          refine hK.out _ _ (HSS.out _ HX_27.out) (fun _ => ?_)
          clear hK K bw HX_26
          refine wpAnyH_ready (rs := [5]) (by kernel_rfl) (by simp) ?_
          refine AllReadyH.cons rfl (fun K hK => ?_) AllReadyH.nil
          go_simp
          refine (HIM.out _ _ _ _ _ HOQ10_27.out HOR11_27.out).mono ?_
          rintro e w28 ⟨vv1, vv2, vv3, rfl, ⟨ownX12, ownY12, ownG12, ne12⟩, bw⟩
          obtain ⟨oX12, pX12, rfl⟩ := slice_of_owns ownX12
          obtain ⟨oY12, pY12, rfl⟩ := slice_of_owns ownY12
          obtain ⟨oG12, pG12, rfl⟩ := slice_of_owns ownG12
          have AP12 : Hid (∀ j, (Value.slice oX12 vl.length pX12).ownBlock = some j → (Value.slice oY12 yl.length pY12).ownBlock ≠ some j) := ne12
          clear ne12
          have hb28 : Below w.heap.size w (w28) := hb27.trans (bw.mono hb27.size)
          have HM28 : Hid ((w27).heap.size ≤ (w28).heap.size) := bw.size
          have HOX3_28 : Hid ((w28).ownsRow w.heap.size 9 1 (.slice oX3 vl.length pX3) vl.length (vl.map Value.string)) := owns_below HOX3_27.out bw (fun g hg => owns_lt HOX3_27.out hg)
          have HOY3_28 : Hid ((w28).ownsRow w.heap.size 9 1 (.slice oY3 yl.length pY3) yl.length (yl.map Value.string)) := owns_below HOY3_27.out bw (fun g hg => owns_lt HOY3_27.out hg)
          have HOG3_28 : Hid ((w28).ownsRow w.heap.size 75 2 (.slice oG3 k pG3) k (flatF gs)) := owns_below HOG3_27.out bw (fun g hg => owns_lt HOG3_27.out hg)
          have HOQ4_28 : Hid ((w28).ownsRow w.heap.size 75 2 (.slice oQ4 n pQ4) n (flatF (mkG 1 fs n))) := owns_below HOQ4_27.out bw (fun g hg => owns_lt HOQ4_27.out hg)
          have HOR5_28 : Hid ((w28).ownsRow w.heap.size 75 2 (.slice oR5 k pR5) k (flatF (mkG (1 + 2 * n) gs k))) := owns_below HOR5_27.out bw (fun g hg => owns_lt HOR5_27.out hg)
          have HOX6_28 : Hid ((w28).ownsRow w.heap.size 9 1 (.slice oX6 vl.length pX6) vl.length ((mkT 1 vl vl.length).map Value.string)) := owns_below HOX6_27.out bw (fun g hg => owns_lt HOX6_27.out hg)
          have HOY6_28 : Hid ((w28).ownsRow w.heap.size 9 1 (.slice oY6 yl.length pY6) yl.length ((mkT (1 + vl.length) yl yl.length).map Value.string)) := owns_below HOY6_27.out bw (fun g hg => owns_lt HOY6_27.out hg)
          have HOG6_28 : Hid ((w28).ownsRow w.heap.size 75 2 (.slice oG6 k pG6) k (flatF (mkG (1 + vl.length + yl.length) gs k))) := owns_below HOG6_27.out bw (fun g hg => owns_lt HOG6_27.out hg)
          have HOQ7_28 : Hid ((w28).ownsRow w.heap.size 75 2 (.slice oQ7 n pQ7) n (flatF fs)) := owns_below HOQ7_27.out bw (fun g hg => owns_lt HOQ7_27.out hg)
          have HOR8_28 : Hid ((w28).ownsRow w.heap.size 75 2 (.slice oR8 k pR8) k (flatF gs)) := owns_below HOR8_27.out bw (fun g hg => owns_lt HOR8_27.out hg)
          have HOQ10_28 : Hid ((w28).ownsRow w.heap.size 75 2 (.slice oQ10 n pQ10) n (flatF fs)) := owns_below HOQ10_27.out bw (fun g hg => owns_lt HOQ10_27.out hg)
          have HOR11_28 : Hid ((w28).ownsRow w.heap.size 75 2 (.slice oR11 k pR11) k (flatF gs)) := owns_below HOR11_27.out bw (fun g hg => owns_lt HOR11_27.out hg)
          have HBv1_28 : Hid ((w28).heap[qv1]? = some (.cells #[.int .i64 m, .string p, .slice a n cap, .string b] 24)) := blk_below HBv1_27.out bw
          have HBv2_28 : Hid ((w28).heap[qv2]? = some (.cells #[.int .i64 st, .slice a2 k cap2, .string d] 26)) := blk_below HBv2_27.out bw
          have HBv3_28 : Hid ((w28).heap[qv3]? = some (.cells #[.string p, .slice oX3 vl.length pX3, .slice oY3 yl.length pY3, .int .i64 st, .slice oG3 k pG3, .string d, .int .i64 t] 34)) := blk_below HBv3_27.out bw
          have HBv4_28 : Hid ((w28).heap[qv4]? = some (.cells #[.int .i64 m, .string p, .slice oQ4 n pQ4, .string b] 38)) := blk_below HBv4_27.out bw
          have HBv5_28 : Hid ((w28).heap[qv5]? = some (.cells #[.int .i64 st, .slice oR5 k pR5, .string d] 32)) := blk_below HBv5_27.out bw
          have HBv6_28 : Hid ((w28).heap[qv6]? = some (.cells #[.string p, .slice oX6 vl.length pX6, .slice oY6 yl.length pY6, .int .i64 st, .slice oG6 k pG6, .string d, .int .i64 t] 34)) := blk_below HBv6_27.out bw
          have HOX12_28 : Hid ((w28).ownsRow w.heap.size 9 1 (.slice oX12 vl.length pX12) vl.length (vl.map Value.string)) := owns_wide ownX12 hb27.size
          have LOX12 : Hid (∀ g, (Value.ownBlock (.slice oX12 vl.length pX12)) = some g → (w27).heap.size ≤ g) := fun g hg => owns_ge ownX12 hg
          have HIX12 : Hid (∀ g, (Value.ownBlock (.slice oX12 vl.length pX12)) = some g → g < (w28).heap.size) := fun g hg => owns_lt ownX12 hg
          clear ownX12
          have HOY12_28 : Hid ((w28).ownsRow w.heap.size 9 1 (.slice oY12 yl.length pY12) yl.length (yl.map Value.string)) := owns_wide ownY12 hb27.size
          have LOY12 : Hid (∀ g, (Value.ownBlock (.slice oY12 yl.length pY12)) = some g → (w27).heap.size ≤ g) := fun g hg => owns_ge ownY12 hg
          have HIY12 : Hid (∀ g, (Value.ownBlock (.slice oY12 yl.length pY12)) = some g → g < (w28).heap.size) := fun g hg => owns_lt ownY12 hg
          clear ownY12
          have HOG12_28 : Hid ((w28).ownsRow w.heap.size 75 2 (.slice oG12 k pG12) k (flatF gs)) := owns_wide ownG12 hb27.size
          have LOG12 : Hid (∀ g, (Value.ownBlock (.slice oG12 k pG12)) = some g → (w27).heap.size ≤ g) := fun g hg => owns_ge ownG12 hg
          have HIG12 : Hid (∀ g, (Value.ownBlock (.slice oG12 k pG12)) = some g → g < (w28).heap.size) := fun g hg => owns_lt ownG12 hg
          clear ownG12
          clear hb27 HOX3_27 HOY3_27 HOG3_27 HOQ4_27 HOR5_27 HOX6_27 HOY6_27 HOG6_27 HOQ7_27 HOR8_27 HOQ10_27 HOR11_27 HBv1_27 HBv2_27 HBv3_27 HBv4_27 HBv5_27 HBv6_27
          have HX_28 : Hid (Below w23.heap.size w23 w28) := HX_27.out.trans (bw.mono HX_27.out.size)
          have HPA_28 : Hid (w28.heap[pa]? = some (.cells #[.string ⟨#[]⟩, .slice none 0 0, .slice none 0 0, .int .i64 0, .slice none 0 0, .string ⟨#[]⟩, .int .i64 0] 34)) := blk_below HPA_27.out bw
          have HRXX12_28 : Hid ((w28).ownsRow w23.heap.size 9 1 (.slice oX12 vl.length pX12) vl.length (vl.map Value.string)) := owns_lift HOX12_28.out (fun g hg => Nat.le_trans HX_27.out.size (LOX12.out g hg))
          have HRXY12_28 : Hid ((w28).ownsRow w23.heap.size 9 1 (.slice oY12 yl.length pY12) yl.length (yl.map Value.string)) := owns_lift HOY12_28.out (fun g hg => Nat.le_trans HX_27.out.size (LOY12.out g hg))
          have HRXG12_28 : Hid ((w28).ownsRow w23.heap.size 75 2 (.slice oG12 k pG12) k (flatF gs)) := owns_lift HOG12_28.out (fun g hg => Nat.le_trans HX_27.out.size (LOG12.out g hg))
          refine hK.out _ _ (HSS.out _ HX_28.out) (fun _ => ?_)
          clear hK K bw HX_27
          refine wpAnyH_takeD (i := 6) (v := .tuple #[.agg #[.string p, .slice oX12 vl.length pX12, .slice oY12 yl.length pY12, .int .i64 st, .slice oG12 k pG12, .string d, .int .i64 t], .bool true]) (some 98) rfl rfl (by kernel_rfl) (by kernel_rfl) (by kernel_rfl) (fun _ _ _ h => h) (Or.inl ⟨by rfl, by intro W _; go_simp⟩) (HSS.out _ HX_28.out) ?_
          simp only [Act.put, List.setIfInBounds_toArray, List.set_cons_zero, List.set_cons_succ]
          refine wpAnyH_takeD (i := 7) (v := .agg #[.string p, .slice oX12 vl.length pX12, .slice oY12 yl.length pY12, .int .i64 st, .slice oG12 k pG12, .string d, .int .i64 t]) (some 105) rfl rfl (by kernel_rfl) (by kernel_rfl) (by kernel_rfl) (fun _ _ _ h => h) (Or.inl ⟨by rfl, by intro W _; go_simp⟩) (HSS.out _ HX_28.out) ?_
          simp only [Act.put, List.setIfInBounds_toArray, List.set_cons_zero, List.set_cons_succ]
          refine wpAnyH_takeD (i := 8) (v := .bool true) (some 106) rfl rfl (by kernel_rfl) (by kernel_rfl) (by kernel_rfl) (fun _ _ _ h => h) (Or.inl ⟨by rfl, by intro W _; go_simp⟩) (HSS.out _ HX_28.out) ?_
          simp only [Act.put, List.setIfInBounds_toArray, List.set_cons_zero, List.set_cons_succ]
          refine wpAnyH_ready (rs := [10]) (by kernel_rfl) (by simp) ?_
          refine AllReadyH.cons rfl (fun K hK => ?_) AllReadyH.nil
          have ce0 : w28.cell? ⟨pa, 0, none⟩ = some (.string ⟨#[]⟩) := (cell_of HPA_28.out 0).trans rfl
          have fe0 : w28.frozen? ⟨pa, 0, none⟩ = false := frozen_of HPA_28.out 0
          have ce1 : w28.cell? ⟨pa, 1, none⟩ = some (.slice none 0 0) := (cell_of HPA_28.out 1).trans rfl
          have fe1 : w28.frozen? ⟨pa, 1, none⟩ = false := frozen_of HPA_28.out 1
          have ce2 : w28.cell? ⟨pa, 2, none⟩ = some (.slice none 0 0) := (cell_of HPA_28.out 2).trans rfl
          have fe2 : w28.frozen? ⟨pa, 2, none⟩ = false := frozen_of HPA_28.out 2
          have ce3 : w28.cell? ⟨pa, 3, none⟩ = some (.int .i64 0) := (cell_of HPA_28.out 3).trans rfl
          have fe3 : w28.frozen? ⟨pa, 3, none⟩ = false := frozen_of HPA_28.out 3
          have ce4 : w28.cell? ⟨pa, 4, none⟩ = some (.slice none 0 0) := (cell_of HPA_28.out 4).trans rfl
          have fe4 : w28.frozen? ⟨pa, 4, none⟩ = false := frozen_of HPA_28.out 4
          have ce5 : w28.cell? ⟨pa, 5, none⟩ = some (.string ⟨#[]⟩) := (cell_of HPA_28.out 5).trans rfl
          have fe5 : w28.frozen? ⟨pa, 5, none⟩ = false := frozen_of HPA_28.out 5
          have ce6 : w28.cell? ⟨pa, 6, none⟩ = some (.int .i64 0) := (cell_of HPA_28.out 6).trans rfl
          have fe6 : w28.frozen? ⟨pa, 6, none⟩ = false := frozen_of HPA_28.out 6
          obtain ⟨w29, hY⟩ : ∃ Y, Y = (((((((w28.setCell ⟨pa, 0, none⟩ (.string p)).setCell ⟨pa, 1, none⟩ (.slice oX12 vl.length pX12)).setCell ⟨pa, 2, none⟩ (.slice oY12 yl.length pY12)).setCell ⟨pa, 3, none⟩ (.int .i64 st)).setCell ⟨pa, 4, none⟩ (.slice oG12 k pG12)).setCell ⟨pa, 5, none⟩ (.string d)).setCell ⟨pa, 6, none⟩ (.int .i64 t)) := ⟨_, rfl⟩
          have HY : Hid ((((((((w28.setCell ⟨pa, 0, none⟩ (.string p)).setCell ⟨pa, 1, none⟩ (.slice oX12 vl.length pX12)).setCell ⟨pa, 2, none⟩ (.slice oY12 yl.length pY12)).setCell ⟨pa, 3, none⟩ (.int .i64 st)).setCell ⟨pa, 4, none⟩ (.slice oG12 k pG12)).setCell ⟨pa, 5, none⟩ (.string d)).setCell ⟨pa, 6, none⟩ (.int .i64 t)) = w29) := hY.symm
          have HX_29 : Hid (Below w23.heap.size w23 w29) := by show Below _ _ _; rw [hY]; exact (((((((HX_28.out.setCell (p := ⟨pa, 0, none⟩) HGA.out _).setCell (p := ⟨pa, 1, none⟩) HGA.out _).setCell (p := ⟨pa, 2, none⟩) HGA.out _).setCell (p := ⟨pa, 3, none⟩) HGA.out _).setCell (p := ⟨pa, 4, none⟩) HGA.out _).setCell (p := ⟨pa, 5, none⟩) HGA.out _).setCell (p := ⟨pa, 6, none⟩) HGA.out _)
          have HPA_29 : Hid (w29.heap[pa]? = some (.cells #[.string p, .slice oX12 vl.length pX12, .slice oY12 yl.length pY12, .int .i64 st, .slice oG12 k pG12, .string d, .int .i64 t] 34)) := by show _ = _; rw [hY]; have h := (heap_set _ pa 6 _ _ _ (.int .i64 t) (heap_set _ pa 5 _ _ _ (.string d) (heap_set _ pa 4 _ _ _ (.slice oG12 k pG12) (heap_set _ pa 3 _ _ _ (.int .i64 st) (heap_set _ pa 2 _ _ _ (.slice oY12 yl.length pY12) (heap_set _ pa 1 _ _ _ (.slice oX12 vl.length pX12) (heap_set _ pa 0 _ _ _ (.string p) HPA_28.out))))))); simpa using h
          have HRXX12_29 : Hid ((w29).ownsRow w23.heap.size 9 1 (.slice oX12 vl.length pX12) vl.length (vl.map Value.string)) := by show World.ownsRow _ _ _ _ _ _ _; rw [hY]; exact owns_same HRXX12_28.out (fun g hg => by have hne := own_ne HRXX12_28.out HPA_28.out (by decide) g hg; rw [heap_setCell_other _ _ g _ hne, heap_setCell_other _ _ g _ hne, heap_setCell_other _ _ g _ hne, heap_setCell_other _ _ g _ hne, heap_setCell_other _ _ g _ hne, heap_setCell_other _ _ g _ hne, heap_setCell_other _ _ g _ hne])
          have HRXY12_29 : Hid ((w29).ownsRow w23.heap.size 9 1 (.slice oY12 yl.length pY12) yl.length (yl.map Value.string)) := by show World.ownsRow _ _ _ _ _ _ _; rw [hY]; exact owns_same HRXY12_28.out (fun g hg => by have hne := own_ne HRXY12_28.out HPA_28.out (by decide) g hg; rw [heap_setCell_other _ _ g _ hne, heap_setCell_other _ _ g _ hne, heap_setCell_other _ _ g _ hne, heap_setCell_other _ _ g _ hne, heap_setCell_other _ _ g _ hne, heap_setCell_other _ _ g _ hne, heap_setCell_other _ _ g _ hne])
          have HRXG12_29 : Hid ((w29).ownsRow w23.heap.size 75 2 (.slice oG12 k pG12) k (flatF gs)) := by show World.ownsRow _ _ _ _ _ _ _; rw [hY]; exact owns_same HRXG12_28.out (fun g hg => by have hne := own_ne HRXG12_28.out HPA_28.out (by decide) g hg; rw [heap_setCell_other _ _ g _ hne, heap_setCell_other _ _ g _ hne, heap_setCell_other _ _ g _ hne, heap_setCell_other _ _ g _ hne, heap_setCell_other _ _ g _ hne, heap_setCell_other _ _ g _ hne, heap_setCell_other _ _ g _ hne])
          have APXX12Y12 : Hid (∀ g, (Value.ownBlock (.slice oX12 vl.length pX12)) = some g → (Value.ownBlock (.slice oY12 yl.length pY12)) ≠ some g) := AP12.out
          clear hY hb28 HOX3_28 HOY3_28 HOG3_28 HOQ4_28 HOR5_28 HOX6_28 HOY6_28 HOG6_28 HOQ7_28 HOR8_28 HOQ10_28 HOR11_28 HOX12_28 HOY12_28 HOG12_28 HBv1_28 HBv2_28 HBv3_28 HBv4_28 HBv5_28 HBv6_28
          go_simp
          rw [HY.out]
          refine hK.out _ _ (HSS.out _ HX_29.out) (fun _ => ?_)
          clear hK K HY ce0 fe0 ce1 fe1 ce2 fe2 ce3 fe3 ce4 fe4 ce5 fe5 ce6 fe6
          refine wpAnyH_takeD (i := 11) (v := .bool true) (some 18) rfl rfl (by kernel_rfl) (by kernel_rfl) (by kernel_rfl) (fun _ _ _ h => h) (Or.inl ⟨by rfl, by intro W _; go_simp⟩) (HSS.out _ HX_29.out) ?_
          simp only [Act.put, List.setIfInBounds_toArray, List.set_cons_zero, List.set_cons_succ]
          refine wpAnyH_done (by kernel_rfl) ?_ _
          go_wp2_with fail
          go_meet
          exact ⟨pa, oX12, pX12, oY12, pY12, oG12, pG12, rfl, rfl, ⟨HX_29.out, HPA_29.out, HGA.out, HRXX12_29.out, HRXY12_29.out, HRXG12_29.out, APXX12Y12.out⟩⟩
      case rest =>
      obtain ⟨qv7, oX12, pX12, oY12, pY12, oG12, pG12, hsx, hsx18, HF⟩ := hcut
      rw [hsx, hsx18]
      obtain ⟨w24, hwj⟩ : ∃ W, W = wc := ⟨_, rfl⟩
      rw [← hwj] at HF ⊢
      clear hsx hsx18 hwj HSS
      obtain ⟨bw, hcell, hga, ownX12, ownY12, ownG12, apX12Y12⟩ := HF.out
      have HNv1v7 : Hid (qv1 ≠ qv7) := fun e => by have h1 := (Array.getElem?_eq_some_iff.1 HBv1_23.out).1; omega
      have HNv2v7 : Hid (qv2 ≠ qv7) := fun e => by have h1 := (Array.getElem?_eq_some_iff.1 HBv2_23.out).1; omega
      have HNv3v7 : Hid (qv3 ≠ qv7) := fun e => by have h1 := (Array.getElem?_eq_some_iff.1 HBv3_23.out).1; omega
      have HNv4v7 : Hid (qv4 ≠ qv7) := fun e => by have h1 := (Array.getElem?_eq_some_iff.1 HBv4_23.out).1; omega
      have HNv5v7 : Hid (qv5 ≠ qv7) := fun e => by have h1 := (Array.getElem?_eq_some_iff.1 HBv5_23.out).1; omega
      have HNv6v7 : Hid (qv6 ≠ qv7) := fun e => by have h1 := (Array.getElem?_eq_some_iff.1 HBv6_23.out).1; omega
      have hb24 : Below w.heap.size w (w24) := hb23.trans (bw.mono hb23.size)
      have HM24 : Hid ((w23).heap.size ≤ (w24).heap.size) := bw.size
      have HOX3_24 : Hid ((w24).ownsRow w.heap.size 9 1 (.slice oX3 vl.length pX3) vl.length (vl.map Value.string)) := owns_below HOX3_23.out bw (fun g hg => owns_lt HOX3_23.out hg)
      have HOY3_24 : Hid ((w24).ownsRow w.heap.size 9 1 (.slice oY3 yl.length pY3) yl.length (yl.map Value.string)) := owns_below HOY3_23.out bw (fun g hg => owns_lt HOY3_23.out hg)
      have HOG3_24 : Hid ((w24).ownsRow w.heap.size 75 2 (.slice oG3 k pG3) k (flatF gs)) := owns_below HOG3_23.out bw (fun g hg => owns_lt HOG3_23.out hg)
      have HOQ4_24 : Hid ((w24).ownsRow w.heap.size 75 2 (.slice oQ4 n pQ4) n (flatF (mkG 1 fs n))) := owns_below HOQ4_23.out bw (fun g hg => owns_lt HOQ4_23.out hg)
      have HOR5_24 : Hid ((w24).ownsRow w.heap.size 75 2 (.slice oR5 k pR5) k (flatF (mkG (1 + 2 * n) gs k))) := owns_below HOR5_23.out bw (fun g hg => owns_lt HOR5_23.out hg)
      have HOX6_24 : Hid ((w24).ownsRow w.heap.size 9 1 (.slice oX6 vl.length pX6) vl.length ((mkT 1 vl vl.length).map Value.string)) := owns_below HOX6_23.out bw (fun g hg => owns_lt HOX6_23.out hg)
      have HOY6_24 : Hid ((w24).ownsRow w.heap.size 9 1 (.slice oY6 yl.length pY6) yl.length ((mkT (1 + vl.length) yl yl.length).map Value.string)) := owns_below HOY6_23.out bw (fun g hg => owns_lt HOY6_23.out hg)
      have HOG6_24 : Hid ((w24).ownsRow w.heap.size 75 2 (.slice oG6 k pG6) k (flatF (mkG (1 + vl.length + yl.length) gs k))) := owns_below HOG6_23.out bw (fun g hg => owns_lt HOG6_23.out hg)
      have HOQ7_24 : Hid ((w24).ownsRow w.heap.size 75 2 (.slice oQ7 n pQ7) n (flatF fs)) := owns_below HOQ7_23.out bw (fun g hg => owns_lt HOQ7_23.out hg)
      have HOR8_24 : Hid ((w24).ownsRow w.heap.size 75 2 (.slice oR8 k pR8) k (flatF gs)) := owns_below HOR8_23.out bw (fun g hg => owns_lt HOR8_23.out hg)
      have HBv1_24 : Hid ((w24).heap[qv1]? = some (.cells #[.int .i64 m, .string p, .slice a n cap, .string b] 24)) := blk_below HBv1_23.out bw
      have HBv2_24 : Hid ((w24).heap[qv2]? = some (.cells #[.int .i64 st, .slice a2 k cap2, .string d] 26)) := blk_below HBv2_23.out bw
      have HBv3_24 : Hid ((w24).heap[qv3]? = some (.cells #[.string p, .slice oX3 vl.length pX3, .slice oY3 yl.length pY3, .int .i64 st, .slice oG3 k pG3, .string d, .int .i64 t] 34)) := blk_below HBv3_23.out bw
      have HBv4_24 : Hid ((w24).heap[qv4]? = some (.cells #[.int .i64 m, .string p, .slice oQ4 n pQ4, .string b] 38)) := blk_below HBv4_23.out bw
      have HBv5_24 : Hid ((w24).heap[qv5]? = some (.cells #[.int .i64 st, .slice oR5 k pR5, .string d] 32)) := blk_below HBv5_23.out bw
      have HBv6_24 : Hid ((w24).heap[qv6]? = some (.cells #[.string p, .slice oX6 vl.length pX6, .slice oY6 yl.length pY6, .int .i64 st, .slice oG6 k pG6, .string d, .int .i64 t] 34)) := blk_below HBv6_23.out bw
      have HOX12_24 : Hid ((w24).ownsRow w.heap.size 9 1 (.slice oX12 vl.length pX12) vl.length (vl.map Value.string)) := owns_wide ownX12 hb23.size
      have LOX12 : Hid (∀ g, (Value.ownBlock (.slice oX12 vl.length pX12)) = some g → (w23).heap.size ≤ g) := fun g hg => owns_ge ownX12 hg
      have HIX12 : Hid (∀ g, (Value.ownBlock (.slice oX12 vl.length pX12)) = some g → g < (w24).heap.size) := fun g hg => owns_lt ownX12 hg
      have HOY12_24 : Hid ((w24).ownsRow w.heap.size 9 1 (.slice oY12 yl.length pY12) yl.length (yl.map Value.string)) := owns_wide ownY12 hb23.size
      have LOY12 : Hid (∀ g, (Value.ownBlock (.slice oY12 yl.length pY12)) = some g → (w23).heap.size ≤ g) := fun g hg => owns_ge ownY12 hg
      have HIY12 : Hid (∀ g, (Value.ownBlock (.slice oY12 yl.length pY12)) = some g → g < (w24).heap.size) := fun g hg => owns_lt ownY12 hg
      have HOG12_24 : Hid ((w24).ownsRow w.heap.size 75 2 (.slice oG12 k pG12) k (flatF gs)) := owns_wide ownG12 hb23.size
      have LOG12 : Hid (∀ g, (Value.ownBlock (.slice oG12 k pG12)) = some g → (w23).heap.size ≤ g) := fun g hg => owns_ge ownG12 hg
      have HIG12 : Hid (∀ g, (Value.ownBlock (.slice oG12 k pG12)) = some g → g < (w24).heap.size) := fun g hg => owns_lt ownG12 hg
      have APX12Y12 : Hid (∀ g, (Value.ownBlock (.slice oX12 vl.length pX12)) = some g → (Value.ownBlock (.slice oY12 yl.length pY12)) ≠ some g) := apX12Y12
      have HBv7_24 : Hid ((w24).heap[qv7]? = some (.cells #[.string p, .slice oX12 vl.length pX12, .slice oY12 yl.length pY12, .int .i64 st, .slice oG12 k pG12, .string d, .int .i64 t] 34)) := hcell
      have HGv7 : Hid (w.heap.size ≤ qv7) := Nat.le_trans hb23.size hga
      clear hb23 HOX3_23 HOY3_23 HOG3_23 HOQ4_23 HOR5_23 HOX6_23 HOY6_23 HOG6_23 HOQ7_23 HOR8_23 HBv1_23 HBv2_23 HBv3_23 HBv4_23 HBv5_23 HBv6_23 bw hcell hga HF ownX12 ownY12 ownG12 apX12Y12
      have cv3_0 : (w24).cell? ⟨qv3, 0, none⟩ = some (.string p) := (cell_of HBv3_24.out 0).trans rfl
      have cv3_1 : (w24).cell? ⟨qv3, 1, none⟩ = some (.slice oX3 vl.length pX3) := (cell_of HBv3_24.out 1).trans rfl
      have cv3_2 : (w24).cell? ⟨qv3, 2, none⟩ = some (.slice oY3 yl.length pY3) := (cell_of HBv3_24.out 2).trans rfl
      have cv3_3 : (w24).cell? ⟨qv3, 3, none⟩ = some (.int .i64 st) := (cell_of HBv3_24.out 3).trans rfl
      have cv3_4 : (w24).cell? ⟨qv3, 4, none⟩ = some (.slice oG3 k pG3) := (cell_of HBv3_24.out 4).trans rfl
      have cv3_5 : (w24).cell? ⟨qv3, 5, none⟩ = some (.string d) := (cell_of HBv3_24.out 5).trans rfl
      have cv3_6 : (w24).cell? ⟨qv3, 6, none⟩ = some (.int .i64 t) := (cell_of HBv3_24.out 6).trans rfl
      have cv7_0 : (w24).cell? ⟨qv7, 0, none⟩ = some (.string p) := (cell_of HBv7_24.out 0).trans rfl
      have cv7_1 : (w24).cell? ⟨qv7, 1, none⟩ = some (.slice oX12 vl.length pX12) := (cell_of HBv7_24.out 1).trans rfl
      have cv7_2 : (w24).cell? ⟨qv7, 2, none⟩ = some (.slice oY12 yl.length pY12) := (cell_of HBv7_24.out 2).trans rfl
      have cv7_3 : (w24).cell? ⟨qv7, 3, none⟩ = some (.int .i64 st) := (cell_of HBv7_24.out 3).trans rfl
      have cv7_4 : (w24).cell? ⟨qv7, 4, none⟩ = some (.slice oG12 k pG12) := (cell_of HBv7_24.out 4).trans rfl
      have cv7_5 : (w24).cell? ⟨qv7, 5, none⟩ = some (.string d) := (cell_of HBv7_24.out 5).trans rfl
      have cv7_6 : (w24).cell? ⟨qv7, 6, none⟩ = some (.int .i64 t) := (cell_of HBv7_24.out 6).trans rfl
      go_wp2_with fail
      refine (eqObj_any p vl.length vl yl.length yl st k gs d t _ _ _ _ _ _ _ _ _ ⟨HOX12_24.out, HOY12_24.out, HOG12_24.out, APX12Y12.out⟩ ⟨HOX3_24.out, HOY3_24.out, HOG3_24.out, APX3Y3.out⟩ (by have := HLV.out; omega) (by have := HLV.out; omega) (by omega)).mono ?_
      rintro e w25 ⟨rfl, bw⟩
      have hb25 : Below w.heap.size w (w25) := hb24.trans (bw.mono hb24.size)
      have HM25 : Hid ((w24).heap.size ≤ (w25).heap.size) := bw.size
      have HOX3_25 : Hid ((w25).ownsRow w.heap.size 9 1 (.slice oX3 vl.length pX3) vl.length (vl.map Value.string)) := owns_below HOX3_24.out bw (fun g hg => owns_lt HOX3_24.out hg)
      have HOY3_25 : Hid ((w25).ownsRow w.heap.size 9 1 (.slice oY3 yl.length pY3) yl.length (yl.map Value.string)) := owns_below HOY3_24.out bw (fun g hg => owns_lt HOY3_24.out hg)
      have HOG3_25 : Hid ((w25).ownsRow w.heap.size 75 2 (.slice oG3 k pG3) k (flatF gs)) := owns_below HOG3_24.out bw (fun g hg => owns_lt HOG3_24.out hg)
      have HOQ4_25 : Hid ((w25).ownsRow w.heap.size 75 2 (.slice oQ4 n pQ4) n (flatF (mkG 1 fs n))) := owns_below HOQ4_24.out bw (fun g hg => owns_lt HOQ4_24.out hg)
      have HOR5_25 : Hid ((w25).ownsRow w.heap.size 75 2 (.slice oR5 k pR5) k (flatF (mkG (1 + 2 * n) gs k))) := owns_below HOR5_24.out bw (fun g hg => owns_lt HOR5_24.out hg)
      have HOX6_25 : Hid ((w25).ownsRow w.heap.size 9 1 (.slice oX6 vl.length pX6) vl.length ((mkT 1 vl vl.length).map Value.string)) := owns_below HOX6_24.out bw (fun g hg => owns_lt HOX6_24.out hg)
      have HOY6_25 : Hid ((w25).ownsRow w.heap.size 9 1 (.slice oY6 yl.length pY6) yl.length ((mkT (1 + vl.length) yl yl.length).map Value.string)) := owns_below HOY6_24.out bw (fun g hg => owns_lt HOY6_24.out hg)
      have HOG6_25 : Hid ((w25).ownsRow w.heap.size 75 2 (.slice oG6 k pG6) k (flatF (mkG (1 + vl.length + yl.length) gs k))) := owns_below HOG6_24.out bw (fun g hg => owns_lt HOG6_24.out hg)
      have HOQ7_25 : Hid ((w25).ownsRow w.heap.size 75 2 (.slice oQ7 n pQ7) n (flatF fs)) := owns_below HOQ7_24.out bw (fun g hg => owns_lt HOQ7_24.out hg)
      have HOR8_25 : Hid ((w25).ownsRow w.heap.size 75 2 (.slice oR8 k pR8) k (flatF gs)) := owns_below HOR8_24.out bw (fun g hg => owns_lt HOR8_24.out hg)
      have HOX12_25 : Hid ((w25).ownsRow w.heap.size 9 1 (.slice oX12 vl.length pX12) vl.length (vl.map Value.string)) := owns_below HOX12_24.out bw (fun g hg => owns_lt HOX12_24.out hg)
      have HOY12_25 : Hid ((w25).ownsRow w.heap.size 9 1 (.slice oY12 yl.length pY12) yl.length (yl.map Value.string)) := owns_below HOY12_24.out bw (fun g hg => owns_lt HOY12_24.out hg)
      have HOG12_25 : Hid ((w25).ownsRow w.heap.size 75 2 (.slice oG12 k pG12) k (flatF gs)) := owns_below HOG12_24.out bw (fun g hg => owns_lt HOG12_24.out hg)
      have HBv1_25 : Hid ((w25).heap[qv1]? = some (.cells #[.int .i64 m, .string p, .slice a n cap, .string b] 24)) := blk_below HBv1_24.out bw
      have HBv2_25 : Hid ((w25).heap[qv2]? = some (.cells #[.int .i64 st, .slice a2 k cap2, .string d] 26)) := blk_below HBv2_24.out bw
      have HBv3_25 : Hid ((w25).heap[qv3]? = some (.cells #[.string p, .slice oX3 vl.length pX3, .slice oY3 yl.length pY3, .int .i64 st, .slice oG3 k pG3, .string d, .int .i64 t] 34)) := blk_below HBv3_24.out bw
      have HBv4_25 : Hid ((w25).heap[qv4]? = some (.cells #[.int .i64 m, .string p, .slice oQ4 n pQ4, .string b] 38)) := blk_below HBv4_24.out bw
      have HBv5_25 : Hid ((w25).heap[qv5]? = some (.cells #[.int .i64 st, .slice oR5 k pR5, .string d] 32)) := blk_below HBv5_24.out bw
      have HBv6_25 : Hid ((w25).heap[qv6]? = some (.cells #[.string p, .slice oX6 vl.length pX6, .slice oY6 yl.length pY6, .int .i64 st, .slice oG6 k pG6, .string d, .int .i64 t] 34)) := blk_below HBv6_24.out bw
      have HBv7_25 : Hid ((w25).heap[qv7]? = some (.cells #[.string p, .slice oX12 vl.length pX12, .slice oY12 yl.length pY12, .int .i64 st, .slice oG12 k pG12, .string d, .int .i64 t] 34)) := blk_below HBv7_24.out bw
      clear hb24 HOX3_24 HOY3_24 HOG3_24 HOQ4_24 HOR5_24 HOX6_24 HOY6_24 HOG6_24 HOQ7_24 HOR8_24 HOX12_24 HOY12_24 HOG12_24 HBv1_24 HBv2_24 HBv3_24 HBv4_24 HBv5_24 HBv6_24 HBv7_24 bw
      clear cv3_0 cv3_1 cv3_2 cv3_3 cv3_4 cv3_5 cv3_6 cv7_0 cv7_1 cv7_2 cv7_3 cv7_4 cv7_5 cv7_6
      have cv6_0 : (w25).cell? ⟨qv6, 0, none⟩ = some (.string p) := (cell_of HBv6_25.out 0).trans rfl
      have cv6_1 : (w25).cell? ⟨qv6, 1, none⟩ = some (.slice oX6 vl.length pX6) := (cell_of HBv6_25.out 1).trans rfl
      have cv6_2 : (w25).cell? ⟨qv6, 2, none⟩ = some (.slice oY6 yl.length pY6) := (cell_of HBv6_25.out 2).trans rfl
      have cv6_3 : (w25).cell? ⟨qv6, 3, none⟩ = some (.int .i64 st) := (cell_of HBv6_25.out 3).trans rfl
      have cv6_4 : (w25).cell? ⟨qv6, 4, none⟩ = some (.slice oG6 k pG6) := (cell_of HBv6_25.out 4).trans rfl
      have cv6_5 : (w25).cell? ⟨qv6, 5, none⟩ = some (.string d) := (cell_of HBv6_25.out 5).trans rfl
      have cv6_6 : (w25).cell? ⟨qv6, 6, none⟩ = some (.int .i64 t) := (cell_of HBv6_25.out 6).trans rfl
      go_wp2_with fail
      refine (heldObj_any p vl.length (mkT 1 vl vl.length) yl.length (mkT (1 + vl.length) yl yl.length) st k (mkG (1 + vl.length + yl.length) gs k) d t _ _ _ _ _ ⟨HOX6_25.out, HOY6_25.out, HOG6_25.out, AP6.out⟩ 1 (by omega) (by have := HLV.out; omega) (fun j hj => mkT_at 1 vl j hj _ hj) (fun j hj => mkT_at (1 + vl.length) yl j hj _ hj) (fun j hj => mkG_at (1 + vl.length + yl.length) gs j k (by have := HL2.out; omega) hj)).mono ?_
      rintro e w26 ⟨rfl, bw⟩
      have hb26 : Below w.heap.size w (w26) := hb25.trans (bw.mono hb25.size)
      have HM26 : Hid ((w25).heap.size ≤ (w26).heap.size) := bw.size
      have HOX3_26 : Hid ((w26).ownsRow w.heap.size 9 1 (.slice oX3 vl.length pX3) vl.length (vl.map Value.string)) := owns_below HOX3_25.out bw (fun g hg => owns_lt HOX3_25.out hg)
      have HOY3_26 : Hid ((w26).ownsRow w.heap.size 9 1 (.slice oY3 yl.length pY3) yl.length (yl.map Value.string)) := owns_below HOY3_25.out bw (fun g hg => owns_lt HOY3_25.out hg)
      have HOG3_26 : Hid ((w26).ownsRow w.heap.size 75 2 (.slice oG3 k pG3) k (flatF gs)) := owns_below HOG3_25.out bw (fun g hg => owns_lt HOG3_25.out hg)
      have HOQ4_26 : Hid ((w26).ownsRow w.heap.size 75 2 (.slice oQ4 n pQ4) n (flatF (mkG 1 fs n))) := owns_below HOQ4_25.out bw (fun g hg => owns_lt HOQ4_25.out hg)
      have HOR5_26 : Hid ((w26).ownsRow w.heap.size 75 2 (.slice oR5 k pR5) k (flatF (mkG (1 + 2 * n) gs k))) := owns_below HOR5_25.out bw (fun g hg => owns_lt HOR5_25.out hg)
      have HOX6_26 : Hid ((w26).ownsRow w.heap.size 9 1 (.slice oX6 vl.length pX6) vl.length ((mkT 1 vl vl.length).map Value.string)) := owns_below HOX6_25.out bw (fun g hg => owns_lt HOX6_25.out hg)
      have HOY6_26 : Hid ((w26).ownsRow w.heap.size 9 1 (.slice oY6 yl.length pY6) yl.length ((mkT (1 + vl.length) yl yl.length).map Value.string)) := owns_below HOY6_25.out bw (fun g hg => owns_lt HOY6_25.out hg)
      have HOG6_26 : Hid ((w26).ownsRow w.heap.size 75 2 (.slice oG6 k pG6) k (flatF (mkG (1 + vl.length + yl.length) gs k))) := owns_below HOG6_25.out bw (fun g hg => owns_lt HOG6_25.out hg)
      have HOQ7_26 : Hid ((w26).ownsRow w.heap.size 75 2 (.slice oQ7 n pQ7) n (flatF fs)) := owns_below HOQ7_25.out bw (fun g hg => owns_lt HOQ7_25.out hg)
      have HOR8_26 : Hid ((w26).ownsRow w.heap.size 75 2 (.slice oR8 k pR8) k (flatF gs)) := owns_below HOR8_25.out bw (fun g hg => owns_lt HOR8_25.out hg)
      have HOX12_26 : Hid ((w26).ownsRow w.heap.size 9 1 (.slice oX12 vl.length pX12) vl.length (vl.map Value.string)) := owns_below HOX12_25.out bw (fun g hg => owns_lt HOX12_25.out hg)
      have HOY12_26 : Hid ((w26).ownsRow w.heap.size 9 1 (.slice oY12 yl.length pY12) yl.length (yl.map Value.string)) := owns_below HOY12_25.out bw (fun g hg => owns_lt HOY12_25.out hg)
      have HOG12_26 : Hid ((w26).ownsRow w.heap.size 75 2 (.slice oG12 k pG12) k (flatF gs)) := owns_below HOG12_25.out bw (fun g hg => owns_lt HOG12_25.out hg)
      have HBv1_26 : Hid ((w26).heap[qv1]? = some (.cells #[.int .i64 m, .string p, .slice a n cap, .string b] 24)) := blk_below HBv1_25.out bw
      have HBv2_26 : Hid ((w26).heap[qv2]? = some (.cells #[.int .i64 st, .slice a2 k cap2, .string d] 26)) := blk_below HBv2_25.out bw
      have HBv3_26 : Hid ((w26).heap[qv3]? = some (.cells #[.string p, .slice oX3 vl.length pX3, .slice oY3 yl.length pY3, .int .i64 st, .slice oG3 k pG3, .string d, .int .i64 t] 34)) := blk_below HBv3_25.out bw
      have HBv4_26 : Hid ((w26).heap[qv4]? = some (.cells #[.int .i64 m, .string p, .slice oQ4 n pQ4, .string b] 38)) := blk_below HBv4_25.out bw
      have HBv5_26 : Hid ((w26).heap[qv5]? = some (.cells #[.int .i64 st, .slice oR5 k pR5, .string d] 32)) := blk_below HBv5_25.out bw
      have HBv6_26 : Hid ((w26).heap[qv6]? = some (.cells #[.string p, .slice oX6 vl.length pX6, .slice oY6 yl.length pY6, .int .i64 st, .slice oG6 k pG6, .string d, .int .i64 t] 34)) := blk_below HBv6_25.out bw
      have HBv7_26 : Hid ((w26).heap[qv7]? = some (.cells #[.string p, .slice oX12 vl.length pX12, .slice oY12 yl.length pY12, .int .i64 st, .slice oG12 k pG12, .string d, .int .i64 t] 34)) := blk_below HBv7_25.out bw
      clear hb25 HOX3_25 HOY3_25 HOG3_25 HOQ4_25 HOR5_25 HOX6_25 HOY6_25 HOG6_25 HOQ7_25 HOR8_25 HOX12_25 HOY12_25 HOG12_25 HBv1_25 HBv2_25 HBv3_25 HBv4_25 HBv5_25 HBv6_25 HBv7_25 bw
      have hkh13 : ¬ (((1 + vl.length + yl.length + 2 * k : Nat) : Int) < 0) := by omega
      clear cv6_0 cv6_1 cv6_2 cv6_3 cv6_4 cv6_5 cv6_6
      go_wp2_with fail
      go_ret
      exact ⟨rfl, hb26⟩

end fnExactObjOf
end Go.Proofs.YtdlhicdfldecgaaGreat
