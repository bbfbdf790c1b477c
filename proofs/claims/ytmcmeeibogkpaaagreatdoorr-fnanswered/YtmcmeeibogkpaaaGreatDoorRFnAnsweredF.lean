/- What the proof of FnAnswered leans on: contracts of the program's and the specification's functions, and plain facts (part 6 of 9). -/
import Derived.Test.YtmcmeeibogkpaaaGreatDoorRFnAnsweredE
set_option maxHeartbeats 16000000
set_option maxRecDepth 100000
namespace Go.Proofs.YtmcmeeibogkpaaaGreatDoorR
open Go.RowKit
open Go.Lib hiding intOf
/-- An object of few and short texts. -/
def SmallO (p : ByteArray) (xs ys : List ByteArray) (fs : List (ByteArray × ByteArray)) (b : ByteArray) (t : Int) : Prop :=
 p.size ≤ 64 ∧ (xs.length ≤ 5 ∧ ∀ x ∈ xs, x.size ≤ 64) ∧ (ys.length ≤ 5 ∧ ∀ y ∈ ys, y.size ≤ 64) ∧ (fs.length ≤ 41 ∧ ShortF fs) ∧ b.size ≤ 140 ∧ -9223372036854775808 ≤ t ∧ t ≤ 9223372036854775807
theorem shortF_flds {fs : List (ByteArray × ByteArray)} (h : FldsOk fs) : ShortF fs := fun f hf => by
 obtain ⟨h1, h2, _⟩ := flds_mem h f hf
 exact ⟨Nat.le_trans h1.2.1 (by decide), Nat.le_trans h2.2.1 (by decide)⟩
theorem small_of {p : ByteArray} {xs ys : List ByteArray} {st : Int} {fs : List (ByteArray × ByteArray)} {b : ByteArray} {t : Int} (h : ObjP p xs ys st fs b t) : SmallO p xs ys fs b t ∧ xs.length ≤ 4 ∧ ys.length ≤ 4 ∧ fs.length ≤ 8 := by
 obtain ⟨h1, h2, h3, h4, _, h6, h7⟩ := h
 have e1 := h4.2
 have e2 := h1.2.1.1
 have e3 := h1.2.2
 have e4 := h2.2.2.1
 exact ⟨⟨by omega, ⟨by omega, fun x hx => Nat.le_trans (h4.1 x hx).2.1 (by decide)⟩, ⟨by omega, fun y hy => Nat.le_trans (h7 y hy).2.1 (by decide)⟩, ⟨by omega, shortF_flds h1.2.1⟩, by omega, by omega, by omega⟩, e1, by omega, e2⟩
/-- What ObjOf tells of what is drawn, whichever it is. -/
def OfOut (w : World) (e : Ending) (w' : World) : Prop :=
 ∃ (p : ByteArray) (v1 : Value) (xs : List ByteArray) (v2 : Value) (ys : List ByteArray) (st : Int) (v3 : Value) (fs : List (ByteArray × ByteArray)) (b : ByteArray) (t : Int) (ok : Bool), e = .returned (.tuple #[.agg #[.string p, v1, v2, .int .i64 st, v3, .string b, .int .i64 t], .bool ok]) ∧ ObjO w' w.heap.size v1 xs.length xs v2 ys.length ys v3 fs.length fs ∧ (SmallO p xs ys fs b t ∧ xs.length ≤ 4 ∧ ys.length ≤ 4 ∧ fs.length ≤ 8) ∧ Below w.heap.size w w'
theorem of_out {m : Int} {p : ByteArray} {fs : List (ByteArray × ByteArray)} {b : ByteArray} {st : Int} {gs : List (ByteArray × ByteArray)} {d : ByteArray} {t : Int} {vl yl : List ByteArray} {k : Nat} {w w' : World} {e : Ending} (hk : gs.length = k) (h : ObjOfIs m p fs b st gs d t vl yl k w e w') : OfOut w e w' := by
 obtain ⟨h1, h2⟩ := h
 rcases h2 with ⟨h3, v1, v2, v3, h4, h5⟩ | ⟨h3, h4⟩
 ·
  rw [← hk] at h5
  exact ⟨p, v1, vl, v2, yl, st, v3, gs, d, t, true, h4, h5, small_of h3.2, h1⟩
 · exact ⟨⟨#[]⟩, .slice none 0 0, [], .slice none 0 0, [], 0, .slice none 0 0, [], ⟨#[]⟩, 0, false, h4, ⟨World.ownsRow_nil _ _ _ _, World.ownsRow_nil _ _ _ _, World.ownsRow_nil _ _ _ _, fun _ h => by simp [Value.ownBlock] at h⟩, ⟨⟨by decide, ⟨by decide, fun x hx => by simp at hx⟩, ⟨by decide, fun x hx => by simp at hx⟩, ⟨by decide, fun x hx => by simp at hx⟩, by decide, by decide, by decide⟩, by decide, by decide, by decide⟩, h1⟩
/-- A drawn object, its lists in memory of its own, no two in one block; the cursor alone was turned. -/
def ObjDrawn (w : World) (c : Nat) (a : Option Addr) (len cap : Nat) (e : Ending) (w' : World) : Prop :=
 ∃ (p : ByteArray) (v1 : Value) (xs : List ByteArray) (v2 : Value) (ys : List ByteArray) (st : Int) (v3 : Value) (fs : List (ByteArray × ByteArray)) (b : ByteArray) (t : Int), e = .returned (.agg #[.string p, v1, v2, .int .i64 st, v3, .string b, .int .i64 t]) ∧ ObjO w' w.heap.size v1 xs.length xs v2 ys.length ys v3 fs.length fs ∧ (SmallO p xs ys fs b t ∧ xs.length ≤ 4 ∧ ys.length ≤ 4 ∧ fs.length ≤ 8) ∧ CurAt w' c a len cap ∧ w.grownBy w' (some c)
/-- The same, no more said of the lists' blocks. -/
def ObjGot (w : World) (c : Nat) (a : Option Addr) (len cap : Nat) (e : Ending) (w' : World) : Prop :=
 ∃ (p : ByteArray) (v1 : Value) (xs : List ByteArray) (v2 : Value) (ys : List ByteArray) (st : Int) (v3 : Value) (fs : List (ByteArray × ByteArray)) (b : ByteArray) (t : Int), e = .returned (.agg #[.string p, v1, v2, .int .i64 st, v3, .string b, .int .i64 t]) ∧ (w'.ownsRow w.heap.size 9 1 v1 xs.length (xs.map Value.string) ∧ w'.ownsRow w.heap.size 9 1 v2 ys.length (ys.map Value.string) ∧ w'.ownsRow w.heap.size 74 2 v3 fs.length (flatF fs)) ∧ SmallO p xs ys fs b t ∧ CurAt w' c a len cap ∧ w.grownBy w' (some c)
theorem l10DrawRight_any (t : Int) (ht : -9223372036854775808 ≤ t ∧ t ≤ 9223372036854775807) (c B : Nat) (a : Option Addr) (len cap : Nat) (zs : List Int) (w : World) (hcur : CurAt w c a len cap) (hcode : CodeAt w B a len zs) (hB : B ≤ c) :
    Calls Tryz.prog 86 #[.pointer (some ⟨c, 0, none⟩), .int .i64 t] w fun e w' => ObjDrawn w c a len cap e w' := by
  have HCO : Hid (∀ W, w.grownBy W (some c) → CodeAt W B a len zs) := fun W h => hcode.grown h hB
  have HBC : Hid (B ≤ c) := hB
  have EU_0 : Hid (CurAt w c a len cap) := hcur
  clear hcode hB hcur
  have HTT : Hid (-9223372036854775808 ≤ t ∧ t ≤ 9223372036854775807) := ht
  clear ht
  have hb0 : w.grownBy w (some c) := World.grownBy.refl _ _
  go_enter Tryz.func86, Tryz.ntmps86
  go_upto_region 1 with fail
  obtain ⟨qv1, hqv1⟩ : ∃ q, q = (w).heap.size := ⟨_, rfl⟩
  obtain ⟨w1, hW1⟩ : ∃ W, W = (w).alloc (.cells #[.string ⟨#[]⟩, .slice none 0 0, .slice none 0 0, .int .i64 0, .slice none 0 0, .string ⟨#[]⟩, .int .i64 0] 31) := ⟨_, rfl⟩
  have hz1 : (w).heap.size = qv1 := hqv1.symm
  first | rw [← hW1, ← hqv1] | rw [← hW1]
  have hs1 : w1.heap.size = qv1 + 1 := by rw [hW1, ← hz1]; simp
  have bw : Below (w).heap.size (w) w1 := by rw [hW1]; exact (Below.refl _ _).alloc (Nat.le_refl _) _
  have hb1 : w.grownBy w1 (some c) := grown_then hb0 (grown_below bw _)
  have EU_1 : Hid (CurAt w1 c a len cap) := EU_0.out.below bw EU_0.out.lt
  have HBv1_1 : Hid ((w1).heap[qv1]? = some (.cells #[.string ⟨#[]⟩, .slice none 0 0, .slice none 0 0, .int .i64 0, .slice none 0 0, .string ⟨#[]⟩, .int .i64 0] 31)) := by show _ = _; rw [hW1, ← hz1]; exact heap_alloc_new _ _
  have HGv1 : Hid (w.heap.size ≤ qv1) := by show _ ≤ _; rw [← hz1]; exact hb0.size
  have HNCv1 : Hid (qv1 ≠ c) := fun e => by have h1 := EU_0.out.lt; omega
  clear hb0 EU_0 bw hW1 hz1
  clear hs1 hqv1
  go_wp2_with fail
  go_loopw [5] (fun i wr => ∃ j : Nat, j ≤ 4 ∧ i = .int .i64 (j : Int) ∧ Hid (w.grownBy wr (some c) ∧ CurAt wr c a len cap ∧ (wr).heap[qv1]? = some (.cells #[.string ⟨#[]⟩, .slice none 0 0, .slice none 0 0, .int .i64 0, .slice none 0 0, .string ⟨#[]⟩, .int .i64 0] 31))) (fun i _ => 4 - (intOf i).toNat)
  case atStart => exact ⟨0, by omega, rfl, ⟨hb1, EU_1.out, HBv1_1.out⟩⟩
  case round =>
    obtain ⟨j, hj, rfl, HW⟩ := hrel
    by_cases hlt : (j : Int) < 4
    · have hb2 := HW.out.1
      have EU_2 : Hid (CurAt wr c a len cap) := HW.out.2.1
      have HBv1_2 : Hid ((wr).heap[qv1]? = some (.cells #[.string ⟨#[]⟩, .slice none 0 0, .slice none 0 0, .int .i64 0, .slice none 0 0, .string ⟨#[]⟩, .int .i64 0] 31)) := HW.out.2.2
      clear HW hb1 EU_1 HBv1_1
      go_wp2_with fail
      refine (l3DrawResp_any c B a len cap zs _ EU_2.out (HCO.out _ hb2) HBC.out).mono ?_
      rintro e w3 ⟨m1, vv, f1, b1, rfl, hm1, ownR1, hl1, hs1, hbz1, hcu, hg⟩
      obtain ⟨oR1, pR1, rfl⟩ := slice_of_owns ownR1
      have HFR1 : Hid (f1.length ≤ 40 ∧ ShortF f1) := ⟨hl1, hs1⟩
      have HDR1 : Hid (b1.size ≤ 14) := hbz1
      clear hl1 hs1 hm1 hbz1
      have hb3 : w.grownBy w3 (some c) := grown_then hb2 hg
      have HM3 : Hid ((wr).heap.size ≤ (w3).heap.size) := hg.size
      have HBv1_3 : Hid ((w3).heap[qv1]? = some (.cells #[.string ⟨#[]⟩, .slice none 0 0, .slice none 0 0, .int .i64 0, .slice none 0 0, .string ⟨#[]⟩, .int .i64 0] 31)) := (hg.block _ (Array.getElem?_eq_some_iff.1 HBv1_2.out).1 (fun e => HNCv1.out (Option.some.inj e))).trans HBv1_2.out
      have EU_3 : Hid (CurAt w3 c a len cap) := hcu
      have HOR1_3 : Hid ((w3).ownsRow w.heap.size 74 2 (.slice oR1 f1.length pR1) f1.length (flatF f1)) := owns_wide ownR1 hb2.size
      clear ownR1
      clear hb2 HBv1_2 EU_2 hg hcu
      go_upto_region 5 with fail
      obtain ⟨qv2, hqv2⟩ : ∃ q, q = (w3).heap.size := ⟨_, rfl⟩
      obtain ⟨w4, hW4⟩ : ∃ W, W = (w3).alloc (.cells #[.int .i64 m1, .slice oR1 f1.length pR1, .string b1] 29) := ⟨_, rfl⟩
      have hz4 : (w3).heap.size = qv2 := hqv2.symm
      first | rw [← hW4, ← hqv2] | rw [← hW4]
      have hs4 : w4.heap.size = qv2 + 1 := by rw [hW4, ← hz4]; simp
      have bw : Below (w3).heap.size (w3) w4 := by rw [hW4]; exact (Below.refl _ _).alloc (Nat.le_refl _) _
      have hb4 : w.grownBy w4 (some c) := grown_then hb3 (grown_below bw _)
      have HM4 : Hid ((w3).heap.size ≤ (w4).heap.size) := bw.size
      have HOR1_4 := hown HOR1_3 bw
      have HBv1_4 := hblk HBv1_3 bw
      have EU_4 : Hid (CurAt w4 c a len cap) := EU_3.out.below bw EU_3.out.lt
      have HNv1v2 : Hid (qv1 ≠ qv2) := fun e => by have h1 := (Array.getElem?_eq_some_iff.1 HBv1_3.out).1; omega
      have HBv2_4 : Hid ((w4).heap[qv2]? = some (.cells #[.int .i64 m1, .slice oR1 f1.length pR1, .string b1] 29)) := by show _ = _; rw [hW4, ← hz4]; exact heap_alloc_new _ _
      have HGv2 : Hid (w.heap.size ≤ qv2) := by show _ ≤ _; rw [← hz4]; exact hb3.size
      have HNCv2 : Hid (qv2 ≠ c) := fun e => by have h1 := EU_3.out.lt; omega
      clear hb3 HOR1_3 HBv1_3 EU_3 bw hW4 hz4
      clear hs4 hqv2
      have cv2_0 : (w4).cell? ⟨qv2, 0, none⟩ = some (.int .i64 m1) := (cell_of HBv2_4.out 0).trans rfl
      have fcv2_0 : (w4).frozen? ⟨qv2, 0, none⟩ = false := frozen_of HBv2_4.out 0
      go_upto_region 6 with fail
      obtain ⟨w5, hW5⟩ : ∃ W, W = (w4).setCell ⟨qv2, 0, none⟩ (.int .i64 200) := ⟨_, rfl⟩
      rw [← hW5]
      have hb5 : w.grownBy w5 (some c) := by rw [hW5]; exact (grown_own hb4 HGv2.out 0 _)
      have HM5 : Hid ((w4).heap.size ≤ w5.heap.size) := by show _ ≤ _; rw [hW5]; simp
      have HOR1_5 := hsetR hW5 (own_ne HOR1_4.out HBv2_4.out (by decide)) HOR1_4
      have HBv1_5 := hset hW5 HNv1v2.out HBv1_4
      have EU_5 : Hid (CurAt w5 c a len cap) := by show CurAt _ _ _ _ _; rw [hW5]; exact cur_set EU_4.out HNCv2.out _ _
      have HBv2_5 : Hid ((w5).heap[qv2]? = some (.cells #[.int .i64 200, .slice oR1 f1.length pR1, .string b1] 29)) := by show _ = _; rw [hW5]; have h := heap_set _ _ 0 _ _ _ (.int .i64 200) HBv2_4.out; simpa using h
      clear hb4 HOR1_4 HBv1_4 HBv2_4 EU_4 hW5
      clear cv2_0 fcv2_0
      have cv2_1 : (w5).cell? ⟨qv2, 1, none⟩ = some (.slice oR1 f1.length pR1) := (cell_of HBv2_5.out 1).trans rfl
      go_wp2_with fail
      refine (specDrop_any _ _ _ f1 ⟨#[99, 97, 99, 104, 101, 45, 99, 111, 110, 116, 114, 111, 108]⟩ _ (FieldsV.of_owns HOR1_5.out) (by have := HFR1.out.1; omega)).mono ?_
      rintro e w6 ⟨vv, rfl, ownD2, bw⟩
      obtain ⟨f2, hf2⟩ : ∃ l, l = dropF f1 ⟨#[99, 97, 99, 104, 101, 45, 99, 111, 110, 116, 114, 111, 108]⟩ := ⟨_, rfl⟩
      rw [← hf2] at ownD2
      have HFD2 : Hid (f2.length ≤ 40 ∧ ShortF f2) := by show _ ∧ _; rw [hf2]; exact ⟨Nat.le_trans (drop_len _ _) HFR1.out.1, HFR1.out.2.drop _⟩
      clear hf2
      obtain ⟨oD2, pD2, rfl⟩ := slice_of_owns ownD2
      have hb6 : w.grownBy w6 (some c) := grown_then hb5 (grown_below bw _)
      have HM6 : Hid ((w5).heap.size ≤ (w6).heap.size) := bw.size
      have HOR1_6 := hown HOR1_5 bw
      have HBv1_6 := hblk HBv1_5 bw
      have HBv2_6 := hblk HBv2_5 bw
      have EU_6 : Hid (CurAt w6 c a len cap) := EU_5.out.below bw EU_5.out.lt
      have HOD2_6 : Hid ((w6).ownsRow w.heap.size 74 2 (.slice oD2 f2.length pD2) f2.length (flatF f2)) := owns_wide ownD2 hb5.size
      clear ownD2
      clear hb5 HOR1_5 HBv1_5 HBv2_5 EU_5 bw
      clear cv2_1
      go_wp2_with fail
      obtain ⟨qv3, hqv3⟩ : ∃ q, q = (w6).heap.size := ⟨_, rfl⟩
      obtain ⟨w7, hW7⟩ : ∃ W, W = (w6).alloc (.cells #[.string ⟨#[109, 97, 120, 45, 97, 103, 101, 61, 53]⟩, .string ⟨#[109, 97, 120, 45, 97, 103, 101, 61, 50, 48]⟩] 9) := ⟨_, rfl⟩
      have hz7 : (w6).heap.size = qv3 := hqv3.symm
      first | rw [← hW7, ← hqv3] | rw [← hW7]
      have hs7 : w7.heap.size = qv3 + 1 := by rw [hW7, ← hz7]; simp
      have bw : Below (w6).heap.size (w6) w7 := by rw [hW7]; exact (Below.refl _ _).alloc (Nat.le_refl _) _
      have hb7 : w.grownBy w7 (some c) := grown_then hb6 (grown_below bw _)
      have HM7 : Hid ((w6).heap.size ≤ (w7).heap.size) := bw.size
      have HOR1_7 := hown HOR1_6 bw
      have HOD2_7 := hown HOD2_6 bw
      have HBv1_7 := hblk HBv1_6 bw
      have HBv2_7 := hblk HBv2_6 bw
      have EU_7 : Hid (CurAt w7 c a len cap) := EU_6.out.below bw EU_6.out.lt
      have HBv3_7 : Hid ((w7).heap[qv3]? = some (.cells #[.string ⟨#[109, 97, 120, 45, 97, 103, 101, 61, 53]⟩, .string ⟨#[109, 97, 120, 45, 97, 103, 101, 61, 50, 48]⟩] 9)) := by show _ = _; rw [hW7, ← hz7]; exact heap_alloc_new _ _
      have HNCv3 : Hid (qv3 ≠ c) := fun e => by have h1 := EU_6.out.lt; omega
      clear hb6 HOR1_6 HOD2_6 HBv1_6 HBv2_6 EU_6 bw hW7 hz7
      clear hs7 hqv3
      have HLS : Hid (ListAt w7 qv3 2 (textAt [⟨#[109, 97, 120, 45, 97, 103, 101, 61, 53]⟩, ⟨#[109, 97, 120, 45, 97, 103, 101, 61, 50, 48]⟩])) := by
        intro j hj
        match j, hj with
        | 0, _ => exact (cell_of HBv3_7.out 0).trans rfl
        | 1, _ => exact (cell_of HBv3_7.out 1).trans rfl
      refine (l1Pick_any c B qv3 2 (textAt [⟨#[109, 97, 120, 45, 97, 103, 101, 61, 53]⟩, ⟨#[109, 97, 120, 45, 97, 103, 101, 61, 50, 48]⟩]) a len cap zs _ EU_7.out (HCO.out _ hb7) HBC.out (by decide) (by decide) HLS.out HNCv3.out).mono ?_
      rintro e w8 ⟨jx, hjx, rfl, hcu, hg⟩
      obtain ⟨x3, hx3⟩ : ∃ x, x = textAt [⟨#[109, 97, 120, 45, 97, 103, 101, 61, 53]⟩, ⟨#[109, 97, 120, 45, 97, 103, 101, 61, 50, 48]⟩] jx := ⟨_, rfl⟩
      rw [← hx3]
      have HXx3 : Hid (x3.size ≤ 64) := by show _ ≤ _; rw [hx3]; exact (show ∀ j, j < 2 → (textAt [⟨#[109, 97, 120, 45, 97, 103, 101, 61, 53]⟩, ⟨#[109, 97, 120, 45, 97, 103, 101, 61, 50, 48]⟩] j).size ≤ 64 by decide) jx hjx
      clear hx3 hjx HLS
      have hb8 : w.grownBy w8 (some c) := grown_then hb7 hg
      have HM8 : Hid ((w7).heap.size ≤ (w8).heap.size) := hg.size
      have HOR1_8 : Hid ((w8).ownsRow w.heap.size 74 2 (.slice oR1 f1.length pR1) f1.length (flatF f1)) := owns_same HOR1_7.out (fun g hgg => hg.block g (owns_lt HOR1_7.out hgg) (fun e => own_cur HOR1_7.out EU_7.out (by decide) g hgg (Option.some.inj e)))
      have HOD2_8 : Hid ((w8).ownsRow w.heap.size 74 2 (.slice oD2 f2.length pD2) f2.length (flatF f2)) := owns_same HOD2_7.out (fun g hgg => hg.block g (owns_lt HOD2_7.out hgg) (fun e => own_cur HOD2_7.out EU_7.out (by decide) g hgg (Option.some.inj e)))
      have HBv1_8 : Hid ((w8).heap[qv1]? = some (.cells #[.string ⟨#[]⟩, .slice none 0 0, .slice none 0 0, .int .i64 0, .slice none 0 0, .string ⟨#[]⟩, .int .i64 0] 31)) := (hg.block _ (Array.getElem?_eq_some_iff.1 HBv1_7.out).1 (fun e => HNCv1.out (Option.some.inj e))).trans HBv1_7.out
      have HBv2_8 : Hid ((w8).heap[qv2]? = some (.cells #[.int .i64 200, .slice oR1 f1.length pR1, .string b1] 29)) := (hg.block _ (Array.getElem?_eq_some_iff.1 HBv2_7.out).1 (fun e => HNCv2.out (Option.some.inj e))).trans HBv2_7.out
      have HBv3_8 : Hid ((w8).heap[qv3]? = some (.cells #[.string ⟨#[109, 97, 120, 45, 97, 103, 101, 61, 53]⟩, .string ⟨#[109, 97, 120, 45, 97, 103, 101, 61, 50, 48]⟩] 9)) := (hg.block _ (Array.getElem?_eq_some_iff.1 HBv3_7.out).1 (fun e => HNCv3.out (Option.some.inj e))).trans HBv3_7.out
      have EU_8 : Hid (CurAt w8 c a len cap) := hcu
      clear hb7 HOR1_7 HOD2_7 HBv1_7 HBv2_7 HBv3_7 EU_7 hg hcu
      clear HBv3_8
      go_wp2_with fail
      refine (specPut_any _ _ _ f2 ⟨#[99, 97, 99, 104, 101, 45, 99, 111, 110, 116, 114, 111, 108]⟩ x3 _ (FieldsV.of_owns HOD2_8.out) (by have := HFD2.out.1; omega)).mono ?_
      rintro e w9 ⟨vv, rfl, ownD4, bw⟩
      obtain ⟨f4, hf4⟩ : ∃ l, l = putF f2 ⟨#[99, 97, 99, 104, 101, 45, 99, 111, 110, 116, 114, 111, 108]⟩ x3 := ⟨_, rfl⟩
      rw [← hf4] at ownD4
      have HFD4 : Hid (f4.length ≤ 41 ∧ ShortF f4) := by show _ ∧ _; rw [hf4]; exact ⟨Nat.le_trans (put_len _ _ _) (Nat.succ_le_succ HFD2.out.1), HFD2.out.2.put (by decide) HXx3.out⟩
      clear hf4
      obtain ⟨oD4, pD4, rfl⟩ := slice_of_owns ownD4
      have hb9 : w.grownBy w9 (some c) := grown_then hb8 (grown_below bw _)
      have HM9 : Hid ((w8).heap.size ≤ (w9).heap.size) := bw.size
      have HOR1_9 := hown HOR1_8 bw
      have HOD2_9 := hown HOD2_8 bw
      have HBv1_9 := hblk HBv1_8 bw
      have HBv2_9 := hblk HBv2_8 bw
      have EU_9 : Hid (CurAt w9 c a len cap) := EU_8.out.below bw EU_8.out.lt
      have HOD4_9 : Hid ((w9).ownsRow w.heap.size 74 2 (.slice oD4 f4.length pD4) f4.length (flatF f4)) := owns_wide ownD4 hb8.size
      clear ownD4
      clear hb8 HOR1_8 HOD2_8 HBv1_8 HBv2_8 EU_8 bw
      have cv2_1 : (w9).cell? ⟨qv2, 1, none⟩ = some (.slice oR1 f1.length pR1) := (cell_of HBv2_9.out 1).trans rfl
      have fcv2_1 : (w9).frozen? ⟨qv2, 1, none⟩ = false := frozen_of HBv2_9.out 1
      go_upto_region 7 with fail
      obtain ⟨w10, hW10⟩ : ∃ W, W = (w9).setCell ⟨qv2, 1, none⟩ (.slice oD4 f4.length pD4) := ⟨_, rfl⟩
      rw [← hW10]
      have hb10 : w.grownBy w10 (some c) := by rw [hW10]; exact (grown_own hb9 HGv2.out 1 _)
      have HOR1_10 := hsetR hW10 (own_ne HOR1_9.out HBv2_9.out (by decide)) HOR1_9
      have HOD2_10 := hsetR hW10 (own_ne HOD2_9.out HBv2_9.out (by decide)) HOD2_9
      have HOD4_10 := hsetR hW10 (own_ne HOD4_9.out HBv2_9.out (by decide)) HOD4_9
      have HBv1_10 := hset hW10 HNv1v2.out HBv1_9
      have EU_10 : Hid (CurAt w10 c a len cap) := by show CurAt _ _ _ _ _; rw [hW10]; exact cur_set EU_9.out HNCv2.out _ _
      have HBv2_10 : Hid ((w10).heap[qv2]? = some (.cells #[.int .i64 200, .slice oD4 f4.length pD4, .string b1] 29)) := by show _ = _; rw [hW10]; have h := heap_set _ _ 1 _ _ _ (.slice oD4 f4.length pD4) HBv2_9.out; simpa using h
      clear hb9 HOR1_9 HOD2_9 HOD4_9 HBv1_9 HBv2_9 EU_9 hW10
      clear cv2_1 fcv2_1
      go_wp2_with fail
      refine (l3DrawReq_any c B a len cap zs _ EU_10.out (HCO.out _ hb10) HBC.out).mono ?_
      rintro e w11 ⟨m5, pp5, vv, f5, b5, rfl, hm5, hp5, ownQ5, hl5, hs5, hbz5, hcu, hg⟩
      obtain ⟨oQ5, pQ5, rfl⟩ := slice_of_owns ownQ5
      have HFQ5 : Hid (f5.length ≤ 40 ∧ ShortF f5) := ⟨hl5, hs5⟩
      have HPQ5 : Hid (pp5.size ≤ 64) := hp5
      clear hl5 hs5 hm5 hbz5 hp5
      have hb11 : w.grownBy w11 (some c) := grown_then hb10 hg
      have HOR1_11 : Hid ((w11).ownsRow w.heap.size 74 2 (.slice oR1 f1.length pR1) f1.length (flatF f1)) := owns_same HOR1_10.out (fun g hgg => hg.block g (owns_lt HOR1_10.out hgg) (fun e => own_cur HOR1_10.out EU_10.out (by decide) g hgg (Option.some.inj e)))
      have HOD2_11 : Hid ((w11).ownsRow w.heap.size 74 2 (.slice oD2 f2.length pD2) f2.length (flatF f2)) := owns_same HOD2_10.out (fun g hgg => hg.block g (owns_lt HOD2_10.out hgg) (fun e => own_cur HOD2_10.out EU_10.out (by decide) g hgg (Option.some.inj e)))
      have HOD4_11 : Hid ((w11).ownsRow w.heap.size 74 2 (.slice oD4 f4.length pD4) f4.length (flatF f4)) := owns_same HOD4_10.out (fun g hgg => hg.block g (owns_lt HOD4_10.out hgg) (fun e => own_cur HOD4_10.out EU_10.out (by decide) g hgg (Option.some.inj e)))
      have HBv1_11 : Hid ((w11).heap[qv1]? = some (.cells #[.string ⟨#[]⟩, .slice none 0 0, .slice none 0 0, .int .i64 0, .slice none 0 0, .string ⟨#[]⟩, .int .i64 0] 31)) := (hg.block _ (Array.getElem?_eq_some_iff.1 HBv1_10.out).1 (fun e => HNCv1.out (Option.some.inj e))).trans HBv1_10.out
      have HBv2_11 : Hid ((w11).heap[qv2]? = some (.cells #[.int .i64 200, .slice oD4 f4.length pD4, .string b1] 29)) := (hg.block _ (Array.getElem?_eq_some_iff.1 HBv2_10.out).1 (fun e => HNCv2.out (Option.some.inj e))).trans HBv2_10.out
      have EU_11 : Hid (CurAt w11 c a len cap) := hcu
      have HOQ5_11 : Hid ((w11).ownsRow w.heap.size 74 2 (.slice oQ5 f5.length pQ5) f5.length (flatF f5)) := owns_wide ownQ5 hb10.size
      clear ownQ5
      clear hb10 HOR1_10 HOD2_10 HOD4_10 HBv1_10 HBv2_10 EU_10 hg hcu
      go_upto_region 8 with fail
      obtain ⟨qv4, hqv4⟩ : ∃ q, q = (w11).heap.size := ⟨_, rfl⟩
      obtain ⟨w12, hW12⟩ : ∃ W, W = (w11).alloc (.cells #[.int .i64 m5, .string pp5, .slice oQ5 f5.length pQ5, .string b5] 26) := ⟨_, rfl⟩
      have hz12 : (w11).heap.size = qv4 := hqv4.symm
      first | rw [← hW12, ← hqv4] | rw [← hW12]
      have hs12 : w12.heap.size = qv4 + 1 := by rw [hW12, ← hz12]; simp
      have bw : Below (w11).heap.size (w11) w12 := by rw [hW12]; exact (Below.refl _ _).alloc (Nat.le_refl _) _
      have hb12 : w.grownBy w12 (some c) := grown_then hb11 (grown_below bw _)
      have HOR1_12 := hown HOR1_11 bw
      have HOD2_12 := hown HOD2_11 bw
      have HOD4_12 := hown HOD4_11 bw
      have HOQ5_12 := hown HOQ5_11 bw
      have HBv1_12 := hblk HBv1_11 bw
      have HBv2_12 := hblk HBv2_11 bw
      have EU_12 : Hid (CurAt w12 c a len cap) := EU_11.out.below bw EU_11.out.lt
      have HNv1v4 : Hid (qv1 ≠ qv4) := fun e => by have h1 := (Array.getElem?_eq_some_iff.1 HBv1_11.out).1; omega
      have HNv2v4 : Hid (qv2 ≠ qv4) := fun e => by have h1 := (Array.getElem?_eq_some_iff.1 HBv2_11.out).1; omega
      have HBv4_12 : Hid ((w12).heap[qv4]? = some (.cells #[.int .i64 m5, .string pp5, .slice oQ5 f5.length pQ5, .string b5] 26)) := by show _ = _; rw [hW12, ← hz12]; exact heap_alloc_new _ _
      have HGv4 : Hid (w.heap.size ≤ qv4) := by show _ ≤ _; rw [← hz12]; exact hb11.size
      have HNCv4 : Hid (qv4 ≠ c) := fun e => by have h1 := EU_11.out.lt; omega
      clear hb11 HOR1_11 HOD2_11 HOD4_11 HOQ5_11 HBv1_11 HBv2_11 EU_11 bw hW12 hz12
      clear hs12 hqv4
      have cv4_0 : (w12).cell? ⟨qv4, 0, none⟩ = some (.int .i64 m5) := (cell_of HBv4_12.out 0).trans rfl
      have fcv4_0 : (w12).frozen? ⟨qv4, 0, none⟩ = false := frozen_of HBv4_12.out 0
      go_upto_region 9 with fail
      obtain ⟨w13, hW13⟩ : ∃ W, W = (w12).setCell ⟨qv4, 0, none⟩ (.int .i64 1) := ⟨_, rfl⟩
      rw [← hW13]
      have hb13 : w.grownBy w13 (some c) := by rw [hW13]; exact (grown_own hb12 HGv4.out 0 _)
      have HOR1_13 := hsetR hW13 (own_ne HOR1_12.out HBv4_12.out (by decide)) HOR1_12
      have HOD2_13 := hsetR hW13 (own_ne HOD2_12.out HBv4_12.out (by decide)) HOD2_12
      have HOD4_13 := hsetR hW13 (own_ne HOD4_12.out HBv4_12.out (by decide)) HOD4_12
      have HOQ5_13 := hsetR hW13 (own_ne HOQ5_12.out HBv4_12.out (by decide)) HOQ5_12
      have HBv1_13 := hset hW13 HNv1v4.out HBv1_12
      have HBv2_13 := hset hW13 HNv2v4.out HBv2_12
      have EU_13 : Hid (CurAt w13 c a len cap) := by show CurAt _ _ _ _ _; rw [hW13]; exact cur_set EU_12.out HNCv4.out _ _
      have HBv4_13 : Hid ((w13).heap[qv4]? = some (.cells #[.int .i64 1, .string pp5, .slice oQ5 f5.length pQ5, .string b5] 26)) := by show _ = _; rw [hW13]; have h := heap_set _ _ 0 _ _ _ (.int .i64 1) HBv4_12.out; simpa using h
      clear hb12 HOR1_12 HOD2_12 HOD4_12 HOQ5_12 HBv1_12 HBv2_12 HBv4_12 EU_12 hW13
      clear cv4_0 fcv4_0
      have cv4_3 : (w13).cell? ⟨qv4, 3, none⟩ = some (.string b5) := (cell_of HBv4_13.out 3).trans rfl
      have fcv4_3 : (w13).frozen? ⟨qv4, 3, none⟩ = false := frozen_of HBv4_13.out 3
      go_upto_region 10 with fail
      obtain ⟨w14, hW14⟩ : ∃ W, W = (w13).setCell ⟨qv4, 3, none⟩ (.string ⟨#[]⟩) := ⟨_, rfl⟩
      rw [← hW14]
      have hb14 : w.grownBy w14 (some c) := by rw [hW14]; exact (grown_own hb13 HGv4.out 3 _)
      have HOR1_14 := hsetR hW14 (own_ne HOR1_13.out HBv4_13.out (by decide)) HOR1_13
      have HOD2_14 := hsetR hW14 (own_ne HOD2_13.out HBv4_13.out (by decide)) HOD2_13
      have HOD4_14 := hsetR hW14 (own_ne HOD4_13.out HBv4_13.out (by decide)) HOD4_13
      have HOQ5_14 := hsetR hW14 (own_ne HOQ5_13.out HBv4_13.out (by decide)) HOQ5_13
      have HBv1_14 := hset hW14 HNv1v4.out HBv1_13
      have HBv2_14 := hset hW14 HNv2v4.out HBv2_13
      have EU_14 : Hid (CurAt w14 c a len cap) := by show CurAt _ _ _ _ _; rw [hW14]; exact cur_set EU_13.out HNCv4.out _ _
      have HBv4_14 : Hid ((w14).heap[qv4]? = some (.cells #[.int .i64 1, .string pp5, .slice oQ5 f5.length pQ5, .string ⟨#[]⟩] 26)) := by show _ = _; rw [hW14]; have h := heap_set _ _ 3 _ _ _ (.string ⟨#[]⟩) HBv4_13.out; simpa using h
      clear hb13 HOR1_13 HOD2_13 HOD4_13 HOQ5_13 HBv1_13 HBv2_13 HBv4_13 EU_13 hW14
      clear cv4_3 fcv4_3
      have cv4_2 : (w14).cell? ⟨qv4, 2, none⟩ = some (.slice oQ5 f5.length pQ5) := (cell_of HBv4_14.out 2).trans rfl
      go_wp2_with fail
      refine (specDrop_any _ _ _ f5 ⟨#[99, 97, 99, 104, 101, 45, 99, 111, 110, 116, 114, 111, 108]⟩ _ (FieldsV.of_owns HOQ5_14.out) (by have := HFQ5.out.1; omega)).mono ?_
      rintro e w15 ⟨vv, rfl, ownD6, bw⟩
      obtain ⟨f6, hf6⟩ : ∃ l, l = dropF f5 ⟨#[99, 97, 99, 104, 101, 45, 99, 111, 110, 116, 114, 111, 108]⟩ := ⟨_, rfl⟩
      rw [← hf6] at ownD6
      have HFD6 : Hid (f6.length ≤ 40 ∧ ShortF f6) := by show _ ∧ _; rw [hf6]; exact ⟨Nat.le_trans (drop_len _ _) HFQ5.out.1, HFQ5.out.2.drop _⟩
      clear hf6
      obtain ⟨oD6, pD6, rfl⟩ := slice_of_owns ownD6
      have hb15 : w.grownBy w15 (some c) := grown_then hb14 (grown_below bw _)
      have HOR1_15 := hown HOR1_14 bw
      have HOD2_15 := hown HOD2_14 bw
      have HOD4_15 := hown HOD4_14 bw
      have HOQ5_15 := hown HOQ5_14 bw
      have HBv1_15 := hblk HBv1_14 bw
      have HBv2_15 := hblk HBv2_14 bw
      have HBv4_15 := hblk HBv4_14 bw
      have EU_15 : Hid (CurAt w15 c a len cap) := EU_14.out.below bw EU_14.out.lt
      have HOD6_15 : Hid ((w15).ownsRow w.heap.size 74 2 (.slice oD6 f6.length pD6) f6.length (flatF f6)) := owns_wide ownD6 hb14.size
      clear ownD6
      clear hb14 HOR1_14 HOD2_14 HOD4_14 HOQ5_14 HBv1_14 HBv2_14 HBv4_14 EU_14 bw
      clear cv4_2
      have cv4_2 : (w15).cell? ⟨qv4, 2, none⟩ = some (.slice oQ5 f5.length pQ5) := (cell_of HBv4_15.out 2).trans rfl
      have fcv4_2 : (w15).frozen? ⟨qv4, 2, none⟩ = false := frozen_of HBv4_15.out 2
      go_upto_region 11 with fail
      obtain ⟨w16, hW16⟩ : ∃ W, W = (w15).setCell ⟨qv4, 2, none⟩ (.slice oD6 f6.length pD6) := ⟨_, rfl⟩
      rw [← hW16]
      have hb16 : w.grownBy w16 (some c) := by rw [hW16]; exact (grown_own hb15 HGv4.out 2 _)
      have HOR1_16 := hsetR hW16 (own_ne HOR1_15.out HBv4_15.out (by decide)) HOR1_15
      have HOD2_16 := hsetR hW16 (own_ne HOD2_15.out HBv4_15.out (by decide)) HOD2_15
      have HOD4_16 := hsetR hW16 (own_ne HOD4_15.out HBv4_15.out (by decide)) HOD4_15
      have HOQ5_16 := hsetR hW16 (own_ne HOQ5_15.out HBv4_15.out (by decide)) HOQ5_15
      have HOD6_16 := hsetR hW16 (own_ne HOD6_15.out HBv4_15.out (by decide)) HOD6_15
      have HBv1_16 := hset hW16 HNv1v4.out HBv1_15
      have HBv2_16 := hset hW16 HNv2v4.out HBv2_15
      have EU_16 : Hid (CurAt w16 c a len cap) := by show CurAt _ _ _ _ _; rw [hW16]; exact cur_set EU_15.out HNCv4.out _ _
      have HBv4_16 : Hid ((w16).heap[qv4]? = some (.cells #[.int .i64 1, .string pp5, .slice oD6 f6.length pD6, .string ⟨#[]⟩] 26)) := by show _ = _; rw [hW16]; have h := heap_set _ _ 2 _ _ _ (.slice oD6 f6.length pD6) HBv4_15.out; simpa using h
      clear hb15 HOR1_15 HOD2_15 HOD4_15 HOQ5_15 HOD6_15 HBv1_15 HBv2_15 HBv4_15 EU_15 hW16
      clear cv4_2 fcv4_2
      have cv2_0 : (w16).cell? ⟨qv2, 0, none⟩ = some (.int .i64 200) := (cell_of HBv2_16.out 0).trans rfl
      have cv2_1 : (w16).cell? ⟨qv2, 1, none⟩ = some (.slice oD4 f4.length pD4) := (cell_of HBv2_16.out 1).trans rfl
      have cv2_2 : (w16).cell? ⟨qv2, 2, none⟩ = some (.string b1) := (cell_of HBv2_16.out 2).trans rfl
      have cv4_0 : (w16).cell? ⟨qv4, 0, none⟩ = some (.int .i64 1) := (cell_of HBv4_16.out 0).trans rfl
      have cv4_1 : (w16).cell? ⟨qv4, 1, none⟩ = some (.string pp5) := (cell_of HBv4_16.out 1).trans rfl
      have cv4_2 : (w16).cell? ⟨qv4, 2, none⟩ = some (.slice oD6 f6.length pD6) := (cell_of HBv4_16.out 2).trans rfl
      have cv4_3 : (w16).cell? ⟨qv4, 3, none⟩ = some (.string ⟨#[]⟩) := (cell_of HBv4_16.out 3).trans rfl
      go_wp2_with fail
      refine ((specObjOf_any 1 pp5 _ ⟨#[]⟩ _ _ f6 200 _ b1 _ _ f4 t _ _ _ (FieldsV.of_owns HOD6_16.out) (by have := HFD6.out.1; omega) (shortWalk HFD6.out.2) rfl (by have := HPQ5.out; unfold maxLen; omega) (by unfold maxLen; decide) (FieldsV.of_owns HOD4_16.out) (by have := HFD4.out.1; omega) (shortWalk HFD4.out.2) (by have := HDR1.out; unfold maxLen; omega) (by have := short_get2 HFD6.out.2 ccName; omega) (by have := short_get2 HFD4.out.2 ccName; omega) (by have := short_get2 HFD4.out.2 varyName; omega) rfl rfl).mono (fun _ _ h => of_out rfl h)).mono ?_
      rintro e w17 ⟨p7, vv1, xs7, vv2, ys7, st7, vv3, fs7, d7, t7, ok7, rfl, ⟨ownX7, ownY7, ownG7, ne7⟩, hsm7, bw⟩
      obtain ⟨oX7, pX7, rfl⟩ := slice_of_owns ownX7
      obtain ⟨oY7, pY7, rfl⟩ := slice_of_owns ownY7
      obtain ⟨oG7, pG7, rfl⟩ := slice_of_owns ownG7
      have AP7 : Hid (∀ j, (Value.slice oX7 xs7.length pX7).ownBlock = some j → (Value.slice oY7 ys7.length pY7).ownBlock ≠ some j) := ne7
      have HSM7 : Hid (SmallO p7 xs7 ys7 fs7 d7 t7 ∧ xs7.length ≤ 4 ∧ ys7.length ≤ 4 ∧ fs7.length ≤ 8) := hsm7
      clear ne7 hsm7
      have hb17 : w.grownBy w17 (some c) := grown_then hb16 (grown_below bw _)
      have HOR1_17 := hown HOR1_16 bw
      have HOD2_17 := hown HOD2_16 bw
      have HOD4_17 := hown HOD4_16 bw
      have HOQ5_17 := hown HOQ5_16 bw
      have HOD6_17 := hown HOD6_16 bw
      have HBv1_17 := hblk HBv1_16 bw
      have HBv2_17 := hblk HBv2_16 bw
      have HBv4_17 := hblk HBv4_16 bw
      have EU_17 : Hid (CurAt w17 c a len cap) := EU_16.out.below bw EU_16.out.lt
      have HOX7_17 : Hid ((w17).ownsRow w.heap.size 9 1 (.slice oX7 xs7.length pX7) xs7.length (xs7.map Value.string)) := owns_wide ownX7 hb16.size
      clear ownX7
      have HOY7_17 : Hid ((w17).ownsRow w.heap.size 9 1 (.slice oY7 ys7.length pY7) ys7.length (ys7.map Value.string)) := owns_wide ownY7 hb16.size
      clear ownY7
      have HOG7_17 : Hid ((w17).ownsRow w.heap.size 74 2 (.slice oG7 fs7.length pG7) fs7.length (flatF fs7)) := owns_wide ownG7 hb16.size
      clear ownG7
      clear hb16 HOR1_16 HOD2_16 HOD4_16 HOQ5_16 HOD6_16 HBv1_16 HBv2_16 HBv4_16 EU_16 bw
      clear cv2_0 cv2_1 cv2_2 cv4_0 cv4_1 cv4_2 cv4_3
      go_upto_region 12 with fail
      obtain ⟨qv5, hqv5⟩ : ∃ q, q = (w17).heap.size := ⟨_, rfl⟩
      obtain ⟨w18, hW18⟩ : ∃ W, W = (w17).alloc (.cells #[.string p7, .slice oX7 xs7.length pX7, .slice oY7 ys7.length pY7, .int .i64 st7, .slice oG7 fs7.length pG7, .string d7, .int .i64 t7] 31) := ⟨_, rfl⟩
      have hz18 : (w17).heap.size = qv5 := hqv5.symm
      first | rw [← hW18, ← hqv5] | rw [← hW18]
      have hs18 : w18.heap.size = qv5 + 1 := by rw [hW18, ← hz18]; simp
      have bw : Below (w17).heap.size (w17) w18 := by rw [hW18]; exact (Below.refl _ _).alloc (Nat.le_refl _) _
      have hb18 : w.grownBy w18 (some c) := grown_then hb17 (grown_below bw _)
      have HOR1_18 := hown HOR1_17 bw
      have HOD2_18 := hown HOD2_17 bw
      have HOD4_18 := hown HOD4_17 bw
      have HOQ5_18 := hown HOQ5_17 bw
      have HOD6_18 := hown HOD6_17 bw
      have HOX7_18 := hown HOX7_17 bw
      have HOY7_18 := hown HOY7_17 bw
      have HOG7_18 := hown HOG7_17 bw
      have HBv1_18 := hblk HBv1_17 bw
      have HBv2_18 := hblk HBv2_17 bw
      have HBv4_18 := hblk HBv4_17 bw
      have EU_18 : Hid (CurAt w18 c a len cap) := EU_17.out.below bw EU_17.out.lt
      have HNv1v5 : Hid (qv1 ≠ qv5) := fun e => by have h1 := (Array.getElem?_eq_some_iff.1 HBv1_17.out).1; omega
      have HBv5_18 : Hid ((w18).heap[qv5]? = some (.cells #[.string p7, .slice oX7 xs7.length pX7, .slice oY7 ys7.length pY7, .int .i64 st7, .slice oG7 fs7.length pG7, .string d7, .int .i64 t7] 31)) := by show _ = _; rw [hW18, ← hz18]; exact heap_alloc_new _ _
      clear hb17 HOR1_17 HOD2_17 HOD4_17 HOQ5_17 HOD6_17 HOX7_17 HOY7_17 HOG7_17 HBv1_17 HBv2_17 HBv4_17 EU_17 bw hW18 hz18
      clear hs18 hqv5
      cases ok7 with
      | false =>
        go_wp2_with fail
        go_roundw
        case rel => exact ⟨j + 1, by omega, by go_num, ⟨hb18, EU_18.out, HBv1_18.out⟩⟩
        case measure => simp [intOf]; omega
      | true =>
        have cv1_0 : (w18).cell? ⟨qv1, 0, none⟩ = some (.string ⟨#[]⟩) := (cell_of HBv1_18.out 0).trans rfl
        have fcv1_0 : (w18).frozen? ⟨qv1, 0, none⟩ = false := frozen_of HBv1_18.out 0
        have cv1_1 : (w18).cell? ⟨qv1, 1, none⟩ = some (.slice none 0 0) := (cell_of HBv1_18.out 1).trans rfl
        have fcv1_1 : (w18).frozen? ⟨qv1, 1, none⟩ = false := frozen_of HBv1_18.out 1
        have cv1_2 : (w18).cell? ⟨qv1, 2, none⟩ = some (.slice none 0 0) := (cell_of HBv1_18.out 2).trans rfl
        have fcv1_2 : (w18).frozen? ⟨qv1, 2, none⟩ = false := frozen_of HBv1_18.out 2
        have cv1_3 : (w18).cell? ⟨qv1, 3, none⟩ = some (.int .i64 0) := (cell_of HBv1_18.out 3).trans rfl
        have fcv1_3 : (w18).frozen? ⟨qv1, 3, none⟩ = false := frozen_of HBv1_18.out 3
        have cv1_4 : (w18).cell? ⟨qv1, 4, none⟩ = some (.slice none 0 0) := (cell_of HBv1_18.out 4).trans rfl
        have fcv1_4 : (w18).frozen? ⟨qv1, 4, none⟩ = false := frozen_of HBv1_18.out 4
        have cv1_5 : (w18).cell? ⟨qv1, 5, none⟩ = some (.string ⟨#[]⟩) := (cell_of HBv1_18.out 5).trans rfl
        have fcv1_5 : (w18).frozen? ⟨qv1, 5, none⟩ = false := frozen_of HBv1_18.out 5
        have cv1_6 : (w18).cell? ⟨qv1, 6, none⟩ = some (.int .i64 0) := (cell_of HBv1_18.out 6).trans rfl
        have fcv1_6 : (w18).frozen? ⟨qv1, 6, none⟩ = false := frozen_of HBv1_18.out 6
        have cv5_0 : (w18).cell? ⟨qv5, 0, none⟩ = some (.string p7) := (cell_of HBv5_18.out 0).trans rfl
        have cv5_1 : (w18).cell? ⟨qv5, 1, none⟩ = some (.slice oX7 xs7.length pX7) := (cell_of HBv5_18.out 1).trans rfl
        have cv5_2 : (w18).cell? ⟨qv5, 2, none⟩ = some (.slice oY7 ys7.length pY7) := (cell_of HBv5_18.out 2).trans rfl
        have cv5_3 : (w18).cell? ⟨qv5, 3, none⟩ = some (.int .i64 st7) := (cell_of HBv5_18.out 3).trans rfl
        have cv5_4 : (w18).cell? ⟨qv5, 4, none⟩ = some (.slice oG7 fs7.length pG7) := (cell_of HBv5_18.out 4).trans rfl
        have cv5_5 : (w18).cell? ⟨qv5, 5, none⟩ = some (.string d7) := (cell_of HBv5_18.out 5).trans rfl
        have cv5_6 : (w18).cell? ⟨qv5, 6, none⟩ = some (.int .i64 t7) := (cell_of HBv5_18.out 6).trans rfl
        go_wp2_with fail
        obtain ⟨w19, hW19⟩ : ∃ W, W = (w18).setCell ⟨qv1, 0, none⟩ (.string p7) := ⟨_, rfl⟩
        rw [← hW19]
        have hb19 : w.grownBy w19 (some c) := by rw [hW19]; exact (grown_own hb18 HGv1.out 0 _)
        have HOR1_19 := hsetR hW19 (own_ne HOR1_18.out HBv1_18.out (by decide)) HOR1_18
        have HOD2_19 := hsetR hW19 (own_ne HOD2_18.out HBv1_18.out (by decide)) HOD2_18
        have HOD4_19 := hsetR hW19 (own_ne HOD4_18.out HBv1_18.out (by decide)) HOD4_18
        have HOQ5_19 := hsetR hW19 (own_ne HOQ5_18.out HBv1_18.out (by decide)) HOQ5_18
        have HOD6_19 := hsetR hW19 (own_ne HOD6_18.out HBv1_18.out (by decide)) HOD6_18
        have HOX7_19 := hsetR hW19 (own_ne HOX7_18.out HBv1_18.out (by decide)) HOX7_18
        have HOY7_19 := hsetR hW19 (own_ne HOY7_18.out HBv1_18.out (by decide)) HOY7_18
        have HOG7_19 := hsetR hW19 (own_ne HOG7_18.out HBv1_18.out (by decide)) HOG7_18
        have HBv2_19 := hset hW19 HNv1v2.out.symm HBv2_18
        have HBv4_19 := hset hW19 HNv1v4.out.symm HBv4_18
        have HBv5_19 := hset hW19 HNv1v5.out.symm HBv5_18
        have EU_19 : Hid (CurAt w19 c a len cap) := by show CurAt _ _ _ _ _; rw [hW19]; exact cur_set EU_18.out HNCv1.out _ _
        have HBv1_19 : Hid ((w19).heap[qv1]? = some (.cells #[.string p7, .slice none 0 0, .slice none 0 0, .int .i64 0, .slice none 0 0, .string ⟨#[]⟩, .int .i64 0] 31)) := by show _ = _; rw [hW19]; have h := heap_set _ _ 0 _ _ _ (.string p7) HBv1_18.out; simpa using h
        clear hb18 HOR1_18 HOD2_18 HOD4_18 HOQ5_18 HOD6_18 HOX7_18 HOY7_18 HOG7_18 HBv1_18 HBv2_18 HBv4_18 HBv5_18 EU_18 hW19
        obtain ⟨w20, hW20⟩ : ∃ W, W = (w19).setCell ⟨qv1, 1, none⟩ (.slice oX7 xs7.length pX7) := ⟨_, rfl⟩
        rw [← hW20]
        have hb20 : w.grownBy w20 (some c) := by rw [hW20]; exact (grown_own hb19 HGv1.out 1 _)
        have HOR1_20 := hsetR hW20 (own_ne HOR1_19.out HBv1_19.out (by decide)) HOR1_19
        have HOD2_20 := hsetR hW20 (own_ne HOD2_19.out HBv1_19.out (by decide)) HOD2_19
        have HOD4_20 := hsetR hW20 (own_ne HOD4_19.out HBv1_19.out (by decide)) HOD4_19
        have HOQ5_20 := hsetR hW20 (own_ne HOQ5_19.out HBv1_19.out (by decide)) HOQ5_19
        have HOD6_20 := hsetR hW20 (own_ne HOD6_19.out HBv1_19.out (by decide)) HOD6_19
        have HOX7_20 := hsetR hW20 (own_ne HOX7_19.out HBv1_19.out (by decide)) HOX7_19
        have HOY7_20 := hsetR hW20 (own_ne HOY7_19.out HBv1_19.out (by decide)) HOY7_19
        have HOG7_20 := hsetR hW20 (own_ne HOG7_19.out HBv1_19.out (by decide)) HOG7_19
        have HBv2_20 := hset hW20 HNv1v2.out.symm HBv2_19
        have HBv4_20 := hset hW20 HNv1v4.out.symm HBv4_19
        have HBv5_20 := hset hW20 HNv1v5.out.symm HBv5_19
        have EU_20 : Hid (CurAt w20 c a len cap) := by show CurAt _ _ _ _ _; rw [hW20]; exact cur_set EU_19.out HNCv1.out _ _
        have HBv1_20 : Hid ((w20).heap[qv1]? = some (.cells #[.string p7, .slice oX7 xs7.length pX7, .slice none 0 0, .int .i64 0, .slice none 0 0, .string ⟨#[]⟩, .int .i64 0] 31)) := by show _ = _; rw [hW20]; have h := heap_set _ _ 1 _ _ _ (.slice oX7 xs7.length pX7) HBv1_19.out; simpa using h
        clear hb19 HOR1_19 HOD2_19 HOD4_19 HOQ5_19 HOD6_19 HOX7_19 HOY7_19 HOG7_19 HBv1_19 HBv2_19 HBv4_19 HBv5_19 EU_19 hW20
        obtain ⟨w21, hW21⟩ : ∃ W, W = (w20).setCell ⟨qv1, 2, none⟩ (.slice oY7 ys7.length pY7) := ⟨_, rfl⟩
        rw [← hW21]
        have hb21 : w.grownBy w21 (some c) := by rw [hW21]; exact (grown_own hb20 HGv1.out 2 _)
        have HOR1_21 := hsetR hW21 (own_ne HOR1_20.out HBv1_20.out (by decide)) HOR1_20
        have HOD2_21 := hsetR hW21 (own_ne HOD2_20.out HBv1_20.out (by decide)) HOD2_20
        have HOD4_21 := hsetR hW21 (own_ne HOD4_20.out HBv1_20.out (by decide)) HOD4_20
        have HOQ5_21 := hsetR hW21 (own_ne HOQ5_20.out HBv1_20.out (by decide)) HOQ5_20
        have HOD6_21 := hsetR hW21 (own_ne HOD6_20.out HBv1_20.out (by decide)) HOD6_20
        have HOX7_21 := hsetR hW21 (own_ne HOX7_20.out HBv1_20.out (by decide)) HOX7_20
        have HOY7_21 := hsetR hW21 (own_ne HOY7_20.out HBv1_20.out (by decide)) HOY7_20
        have HOG7_21 := hsetR hW21 (own_ne HOG7_20.out HBv1_20.out (by decide)) HOG7_20
        have HBv2_21 := hset hW21 HNv1v2.out.symm HBv2_20
        have HBv4_21 := hset hW21 HNv1v4.out.symm HBv4_20
        have HBv5_21 := hset hW21 HNv1v5.out.symm HBv5_20
        have EU_21 : Hid (CurAt w21 c a len cap) := by show CurAt _ _ _ _ _; rw [hW21]; exact cur_set EU_20.out HNCv1.out _ _
        have HBv1_21 : Hid ((w21).heap[qv1]? = some (.cells #[.string p7, .slice oX7 xs7.length pX7, .slice oY7 ys7.length pY7, .int .i64 0, .slice none 0 0, .string ⟨#[]⟩, .int .i64 0] 31)) := by show _ = _; rw [hW21]; have h := heap_set _ _ 2 _ _ _ (.slice oY7 ys7.length pY7) HBv1_20.out; simpa using h
        clear hb20 HOR1_20 HOD2_20 HOD4_20 HOQ5_20 HOD6_20 HOX7_20 HOY7_20 HOG7_20 HBv1_20 HBv2_20 HBv4_20 HBv5_20 EU_20 hW21
        obtain ⟨w22, hW22⟩ : ∃ W, W = (w21).setCell ⟨qv1, 3, none⟩ (.int .i64 st7) := ⟨_, rfl⟩
        rw [← hW22]
        have hb22 : w.grownBy w22 (some c) := by rw [hW22]; exact (grown_own hb21 HGv1.out 3 _)
        have HOR1_22 := hsetR hW22 (own_ne HOR1_21.out HBv1_21.out (by decide)) HOR1_21
        have HOD2_22 := hsetR hW22 (own_ne HOD2_21.out HBv1_21.out (by decide)) HOD2_21
        have HOD4_22 := hsetR hW22 (own_ne HOD4_21.out HBv1_21.out (by decide)) HOD4_21
        have HOQ5_22 := hsetR hW22 (own_ne HOQ5_21.out HBv1_21.out (by decide)) HOQ5_21
        have HOD6_22 := hsetR hW22 (own_ne HOD6_21.out HBv1_21.out (by decide)) HOD6_21
        have HOX7_22 := hsetR hW22 (own_ne HOX7_21.out HBv1_21.out (by decide)) HOX7_21
        have HOY7_22 := hsetR hW22 (own_ne HOY7_21.out HBv1_21.out (by decide)) HOY7_21
        have HOG7_22 := hsetR hW22 (own_ne HOG7_21.out HBv1_21.out (by decide)) HOG7_21
        have HBv2_22 := hset hW22 HNv1v2.out.symm HBv2_21
        have HBv4_22 := hset hW22 HNv1v4.out.symm HBv4_21
        have HBv5_22 := hset hW22 HNv1v5.out.symm HBv5_21
        have EU_22 : Hid (CurAt w22 c a len cap) := by show CurAt _ _ _ _ _; rw [hW22]; exact cur_set EU_21.out HNCv1.out _ _
        have HBv1_22 : Hid ((w22).heap[qv1]? = some (.cells #[.string p7, .slice oX7 xs7.length pX7, .slice oY7 ys7.length pY7, .int .i64 st7, .slice none 0 0, .string ⟨#[]⟩, .int .i64 0] 31)) := by show _ = _; rw [hW22]; have h := heap_set _ _ 3 _ _ _ (.int .i64 st7) HBv1_21.out; simpa using h
        clear hb21 HOR1_21 HOD2_21 HOD4_21 HOQ5_21 HOD6_21 HOX7_21 HOY7_21 HOG7_21 HBv1_21 HBv2_21 HBv4_21 HBv5_21 EU_21 hW22
        obtain ⟨w23, hW23⟩ : ∃ W, W = (w22).setCell ⟨qv1, 4, none⟩ (.slice oG7 fs7.length pG7) := ⟨_, rfl⟩
        rw [← hW23]
        have hb23 : w.grownBy w23 (some c) := by rw [hW23]; exact (grown_own hb22 HGv1.out 4 _)
        have HOR1_23 := hsetR hW23 (own_ne HOR1_22.out HBv1_22.out (by decide)) HOR1_22
        have HOD2_23 := hsetR hW23 (own_ne HOD2_22.out HBv1_22.out (by decide)) HOD2_22
        have HOD4_23 := hsetR hW23 (own_ne HOD4_22.out HBv1_22.out (by decide)) HOD4_22
        have HOQ5_23 := hsetR hW23 (own_ne HOQ5_22.out HBv1_22.out (by decide)) HOQ5_22
        have HOD6_23 := hsetR hW23 (own_ne HOD6_22.out HBv1_22.out (by decide)) HOD6_22
        have HOX7_23 := hsetR hW23 (own_ne HOX7_22.out HBv1_22.out (by decide)) HOX7_22
        have HOY7_23 := hsetR hW23 (own_ne HOY7_22.out HBv1_22.out (by decide)) HOY7_22
        have HOG7_23 := hsetR hW23 (own_ne HOG7_22.out HBv1_22.out (by decide)) HOG7_22
        have HBv2_23 := hset hW23 HNv1v2.out.symm HBv2_22
        have HBv4_23 := hset hW23 HNv1v4.out.symm HBv4_22
        have HBv5_23 := hset hW23 HNv1v5.out.symm HBv5_22
        have EU_23 : Hid (CurAt w23 c a len cap) := by show CurAt _ _ _ _ _; rw [hW23]; exact cur_set EU_22.out HNCv1.out _ _
        have HBv1_23 : Hid ((w23).heap[qv1]? = some (.cells #[.string p7, .slice oX7 xs7.length pX7, .slice oY7 ys7.length pY7, .int .i64 st7, .slice oG7 fs7.length pG7, .string ⟨#[]⟩, .int .i64 0] 31)) := by show _ = _; rw [hW23]; have h := heap_set _ _ 4 _ _ _ (.slice oG7 fs7.length pG7) HBv1_22.out; simpa using h
        clear hb22 HOR1_22 HOD2_22 HOD4_22 HOQ5_22 HOD6_22 HOX7_22 HOY7_22 HOG7_22 HBv1_22 HBv2_22 HBv4_22 HBv5_22 EU_22 hW23
        obtain ⟨w24, hW24⟩ : ∃ W, W = (w23).setCell ⟨qv1, 5, none⟩ (.string d7) := ⟨_, rfl⟩
        rw [← hW24]
        have hb24 : w.grownBy w24 (some c) := by rw [hW24]; exact (grown_own hb23 HGv1.out 5 _)
        have HOR1_24 := hsetR hW24 (own_ne HOR1_23.out HBv1_23.out (by decide)) HOR1_23
        have HOD2_24 := hsetR hW24 (own_ne HOD2_23.out HBv1_23.out (by decide)) HOD2_23
        have HOD4_24 := hsetR hW24 (own_ne HOD4_23.out HBv1_23.out (by decide)) HOD4_23
        have HOQ5_24 := hsetR hW24 (own_ne HOQ5_23.out HBv1_23.out (by decide)) HOQ5_23
        have HOD6_24 := hsetR hW24 (own_ne HOD6_23.out HBv1_23.out (by decide)) HOD6_23
        have HOX7_24 := hsetR hW24 (own_ne HOX7_23.out HBv1_23.out (by decide)) HOX7_23
        have HOY7_24 := hsetR hW24 (own_ne HOY7_23.out HBv1_23.out (by decide)) HOY7_23
        have HOG7_24 := hsetR hW24 (own_ne HOG7_23.out HBv1_23.out (by decide)) HOG7_23
        have HBv2_24 := hset hW24 HNv1v2.out.symm HBv2_23
        have HBv4_24 := hset hW24 HNv1v4.out.symm HBv4_23
        have HBv5_24 := hset hW24 HNv1v5.out.symm HBv5_23
        have EU_24 : Hid (CurAt w24 c a len cap) := by show CurAt _ _ _ _ _; rw [hW24]; exact cur_set EU_23.out HNCv1.out _ _
        have HBv1_24 : Hid ((w24).heap[qv1]? = some (.cells #[.string p7, .slice oX7 xs7.length pX7, .slice oY7 ys7.length pY7, .int .i64 st7, .slice oG7 fs7.length pG7, .string d7, .int .i64 0] 31)) := by show _ = _; rw [hW24]; have h := heap_set _ _ 5 _ _ _ (.string d7) HBv1_23.out; simpa using h
        clear hb23 HOR1_23 HOD2_23 HOD4_23 HOQ5_23 HOD6_23 HOX7_23 HOY7_23 HOG7_23 HBv1_23 HBv2_23 HBv4_23 HBv5_23 EU_23 hW24
        obtain ⟨w25, hW25⟩ : ∃ W, W = (w24).setCell ⟨qv1, 6, none⟩ (.int .i64 t7) := ⟨_, rfl⟩
        rw [← hW25]
        have hb25 : w.grownBy w25 (some c) := by rw [hW25]; exact (grown_own hb24 HGv1.out 6 _)
        have HOR1_25 := hsetR hW25 (own_ne HOR1_24.out HBv1_24.out (by decide)) HOR1_24
        have HOD2_25 := hsetR hW25 (own_ne HOD2_24.out HBv1_24.out (by decide)) HOD2_24
        have HOD4_25 := hsetR hW25 (own_ne HOD4_24.out HBv1_24.out (by decide)) HOD4_24
        have HOQ5_25 := hsetR hW25 (own_ne HOQ5_24.out HBv1_24.out (by decide)) HOQ5_24
        have HOD6_25 := hsetR hW25 (own_ne HOD6_24.out HBv1_24.out (by decide)) HOD6_24
        have HOX7_25 := hsetR hW25 (own_ne HOX7_24.out HBv1_24.out (by decide)) HOX7_24
        have HOY7_25 := hsetR hW25 (own_ne HOY7_24.out HBv1_24.out (by decide)) HOY7_24
        have HOG7_25 := hsetR hW25 (own_ne HOG7_24.out HBv1_24.out (by decide)) HOG7_24
        have HBv2_25 := hset hW25 HNv1v2.out.symm HBv2_24
        have HBv4_25 := hset hW25 HNv1v4.out.symm HBv4_24
        have HBv5_25 := hset hW25 HNv1v5.out.symm HBv5_24
        have EU_25 : Hid (CurAt w25 c a len cap) := by show CurAt _ _ _ _ _; rw [hW25]; exact cur_set EU_24.out HNCv1.out _ _
        have HBv1_25 : Hid ((w25).heap[qv1]? = some (.cells #[.string p7, .slice oX7 xs7.length pX7, .slice oY7 ys7.length pY7, .int .i64 st7, .slice oG7 fs7.length pG7, .string d7, .int .i64 t7] 31)) := by show _ = _; rw [hW25]; have h := heap_set _ _ 6 _ _ _ (.int .i64 t7) HBv1_24.out; simpa using h
        clear hb24 HOR1_24 HOD2_24 HOD4_24 HOQ5_24 HOD6_24 HOX7_24 HOY7_24 HOG7_24 HBv1_24 HBv2_24 HBv4_24 HBv5_24 EU_24 hW25
        have kv1_0 : (w25).cell? ⟨qv1, 0, none⟩ = some (.string p7) := (cell_of HBv1_25.out 0).trans rfl
        have kv1_1 : (w25).cell? ⟨qv1, 1, none⟩ = some (.slice oX7 xs7.length pX7) := (cell_of HBv1_25.out 1).trans rfl
        have kv1_2 : (w25).cell? ⟨qv1, 2, none⟩ = some (.slice oY7 ys7.length pY7) := (cell_of HBv1_25.out 2).trans rfl
        have kv1_3 : (w25).cell? ⟨qv1, 3, none⟩ = some (.int .i64 st7) := (cell_of HBv1_25.out 3).trans rfl
        have kv1_4 : (w25).cell? ⟨qv1, 4, none⟩ = some (.slice oG7 fs7.length pG7) := (cell_of HBv1_25.out 4).trans rfl
        have kv1_5 : (w25).cell? ⟨qv1, 5, none⟩ = some (.string d7) := (cell_of HBv1_25.out 5).trans rfl
        have kv1_6 : (w25).cell? ⟨qv1, 6, none⟩ = some (.int .i64 t7) := (cell_of HBv1_25.out 6).trans rfl
        refine bodyPost_ret (v := .agg #[.string p7, .slice oX7 xs7.length pX7, .slice oY7 ys7.length pY7, .int .i64 st7, .slice oG7 fs7.length pG7, .string d7, .int .i64 t7]) (by simp [results, Tryz.results86, go_sem, kv1_0, kv1_1, kv1_2, kv1_3, kv1_4, kv1_5, kv1_6]) rfl ?_
        exact ⟨_, _, _, _, _, _, _, _, _, _, rfl, ⟨HOX7_25.out, HOY7_25.out, HOG7_25.out, AP7.out⟩, HSM7.out, EU_25.out, hb25⟩
    · have hb2 := HW.out.1
      have EU_2 : Hid (CurAt wr c a len cap) := HW.out.2.1
      have HBv1_2 : Hid ((wr).heap[qv1]? = some (.cells #[.string ⟨#[]⟩, .slice none 0 0, .slice none 0 0, .int .i64 0, .slice none 0 0, .string ⟨#[]⟩, .int .i64 0] 31)) := HW.out.2.2
      clear HW hb1 EU_1 HBv1_1
      have cv1_0 : (wr).cell? ⟨qv1, 0, none⟩ = some (.string ⟨#[]⟩) := (cell_of HBv1_2.out 0).trans rfl
      have fcv1_0 : (wr).frozen? ⟨qv1, 0, none⟩ = false := frozen_of HBv1_2.out 0
      have cv1_1 : (wr).cell? ⟨qv1, 1, none⟩ = some (.slice none 0 0) := (cell_of HBv1_2.out 1).trans rfl
      have fcv1_1 : (wr).frozen? ⟨qv1, 1, none⟩ = false := frozen_of HBv1_2.out 1
      have cv1_2 : (wr).cell? ⟨qv1, 2, none⟩ = some (.slice none 0 0) := (cell_of HBv1_2.out 2).trans rfl
      have fcv1_2 : (wr).frozen? ⟨qv1, 2, none⟩ = false := frozen_of HBv1_2.out 2
      have cv1_3 : (wr).cell? ⟨qv1, 3, none⟩ = some (.int .i64 0) := (cell_of HBv1_2.out 3).trans rfl
      have fcv1_3 : (wr).frozen? ⟨qv1, 3, none⟩ = false := frozen_of HBv1_2.out 3
      have cv1_4 : (wr).cell? ⟨qv1, 4, none⟩ = some (.slice none 0 0) := (cell_of HBv1_2.out 4).trans rfl
      have fcv1_4 : (wr).frozen? ⟨qv1, 4, none⟩ = false := frozen_of HBv1_2.out 4
      have cv1_5 : (wr).cell? ⟨qv1, 5, none⟩ = some (.string ⟨#[]⟩) := (cell_of HBv1_2.out 5).trans rfl
      have fcv1_5 : (wr).frozen? ⟨qv1, 5, none⟩ = false := frozen_of HBv1_2.out 5
      have cv1_6 : (wr).cell? ⟨qv1, 6, none⟩ = some (.int .i64 0) := (cell_of HBv1_2.out 6).trans rfl
      have fcv1_6 : (wr).frozen? ⟨qv1, 6, none⟩ = false := frozen_of HBv1_2.out 6
      go_wp2_with fail
      obtain ⟨w3, hW3⟩ : ∃ W, W = (wr).setCell ⟨qv1, 0, none⟩ (.string ⟨#[47, 97]⟩) := ⟨_, rfl⟩
      rw [← hW3]
      have hb3 : w.grownBy w3 (some c) := by rw [hW3]; exact (grown_own hb2 HGv1.out 0 _)
      have HM3 : Hid ((wr).heap.size ≤ w3.heap.size) := by show _ ≤ _; rw [hW3]; simp
      have EU_3 : Hid (CurAt w3 c a len cap) := by show CurAt _ _ _ _ _; rw [hW3]; exact cur_set EU_2.out HNCv1.out _ _
      have HBv1_3 : Hid ((w3).heap[qv1]? = some (.cells #[.string ⟨#[47, 97]⟩, .slice none 0 0, .slice none 0 0, .int .i64 0, .slice none 0 0, .string ⟨#[]⟩, .int .i64 0] 31)) := by show _ = _; rw [hW3]; have h := heap_set _ _ 0 _ _ _ (.string ⟨#[47, 97]⟩) HBv1_2.out; simpa using h
      clear hb2 HBv1_2 EU_2 hW3
      obtain ⟨w4, hW4⟩ : ∃ W, W = (w3).setCell ⟨qv1, 1, none⟩ (.slice none 0 0) := ⟨_, rfl⟩
      rw [← hW4]
      have hb4 : w.grownBy w4 (some c) := by rw [hW4]; exact (grown_own hb3 HGv1.out 1 _)
      have HM4 : Hid ((w3).heap.size ≤ w4.heap.size) := by show _ ≤ _; rw [hW4]; simp
      have EU_4 : Hid (CurAt w4 c a len cap) := by show CurAt _ _ _ _ _; rw [hW4]; exact cur_set EU_3.out HNCv1.out _ _
      have HBv1_4 : Hid ((w4).heap[qv1]? = some (.cells #[.string ⟨#[47, 97]⟩, .slice none 0 0, .slice none 0 0, .int .i64 0, .slice none 0 0, .string ⟨#[]⟩, .int .i64 0] 31)) := by show _ = _; rw [hW4]; have h := heap_set _ _ 1 _ _ _ (.slice none 0 0) HBv1_3.out; simpa using h
      clear hb3 HBv1_3 EU_3 hW4
      obtain ⟨w5, hW5⟩ : ∃ W, W = (w4).setCell ⟨qv1, 2, none⟩ (.slice none 0 0) := ⟨_, rfl⟩
      rw [← hW5]
      have hb5 : w.grownBy w5 (some c) := by rw [hW5]; exact (grown_own hb4 HGv1.out 2 _)
      have HM5 : Hid ((w4).heap.size ≤ w5.heap.size) := by show _ ≤ _; rw [hW5]; simp
      have EU_5 : Hid (CurAt w5 c a len cap) := by show CurAt _ _ _ _ _; rw [hW5]; exact cur_set EU_4.out HNCv1.out _ _
      have HBv1_5 : Hid ((w5).heap[qv1]? = some (.cells #[.string ⟨#[47, 97]⟩, .slice none 0 0, .slice none 0 0, .int .i64 0, .slice none 0 0, .string ⟨#[]⟩, .int .i64 0] 31)) := by show _ = _; rw [hW5]; have h := heap_set _ _ 2 _ _ _ (.slice none 0 0) HBv1_4.out; simpa using h
      clear hb4 HBv1_4 EU_4 hW5
      obtain ⟨w6, hW6⟩ : ∃ W, W = (w5).setCell ⟨qv1, 3, none⟩ (.int .i64 200) := ⟨_, rfl⟩
      rw [← hW6]
      have hb6 : w.grownBy w6 (some c) := by rw [hW6]; exact (grown_own hb5 HGv1.out 3 _)
      have HM6 : Hid ((w5).heap.size ≤ w6.heap.size) := by show _ ≤ _; rw [hW6]; simp
      have EU_6 : Hid (CurAt w6 c a len cap) := by show CurAt _ _ _ _ _; rw [hW6]; exact cur_set EU_5.out HNCv1.out _ _
      have HBv1_6 : Hid ((w6).heap[qv1]? = some (.cells #[.string ⟨#[47, 97]⟩, .slice none 0 0, .slice none 0 0, .int .i64 200, .slice none 0 0, .string ⟨#[]⟩, .int .i64 0] 31)) := by show _ = _; rw [hW6]; have h := heap_set _ _ 3 _ _ _ (.int .i64 200) HBv1_5.out; simpa using h
      clear hb5 HBv1_5 EU_5 hW6
      obtain ⟨w7, hW7⟩ : ∃ W, W = (w6).setCell ⟨qv1, 4, none⟩ (.slice none 0 0) := ⟨_, rfl⟩
      rw [← hW7]
      have hb7 : w.grownBy w7 (some c) := by rw [hW7]; exact (grown_own hb6 HGv1.out 4 _)
      have HM7 : Hid ((w6).heap.size ≤ w7.heap.size) := by show _ ≤ _; rw [hW7]; simp
      have EU_7 : Hid (CurAt w7 c a len cap) := by show CurAt _ _ _ _ _; rw [hW7]; exact cur_set EU_6.out HNCv1.out _ _
      have HBv1_7 : Hid ((w7).heap[qv1]? = some (.cells #[.string ⟨#[47, 97]⟩, .slice none 0 0, .slice none 0 0, .int .i64 200, .slice none 0 0, .string ⟨#[]⟩, .int .i64 0] 31)) := by show _ = _; rw [hW7]; have h := heap_set _ _ 4 _ _ _ (.slice none 0 0) HBv1_6.out; simpa using h
      clear hb6 HBv1_6 EU_6 hW7
      obtain ⟨w8, hW8⟩ : ∃ W, W = (w7).setCell ⟨qv1, 5, none⟩ (.string ⟨#[]⟩) := ⟨_, rfl⟩
      rw [← hW8]
      have hb8 : w.grownBy w8 (some c) := by rw [hW8]; exact (grown_own hb7 HGv1.out 5 _)
      have HM8 : Hid ((w7).heap.size ≤ w8.heap.size) := by show _ ≤ _; rw [hW8]; simp
      have EU_8 : Hid (CurAt w8 c a len cap) := by show CurAt _ _ _ _ _; rw [hW8]; exact cur_set EU_7.out HNCv1.out _ _
      have HBv1_8 : Hid ((w8).heap[qv1]? = some (.cells #[.string ⟨#[47, 97]⟩, .slice none 0 0, .slice none 0 0, .int .i64 200, .slice none 0 0, .string ⟨#[]⟩, .int .i64 0] 31)) := by show _ = _; rw [hW8]; have h := heap_set _ _ 5 _ _ _ (.string ⟨#[]⟩) HBv1_7.out; simpa using h
      clear hb7 HBv1_7 EU_7 hW8
      obtain ⟨w9, hW9⟩ : ∃ W, W = (w8).setCell ⟨qv1, 6, none⟩ (.int .i64 t) := ⟨_, rfl⟩
      rw [← hW9]
      have hb9 : w.grownBy w9 (some c) := by rw [hW9]; exact (grown_own hb8 HGv1.out 6 _)
      have HM9 : Hid ((w8).heap.size ≤ w9.heap.size) := by show _ ≤ _; rw [hW9]; simp
      have EU_9 : Hid (CurAt w9 c a len cap) := by show CurAt _ _ _ _ _; rw [hW9]; exact cur_set EU_8.out HNCv1.out _ _
      have HBv1_9 : Hid ((w9).heap[qv1]? = some (.cells #[.string ⟨#[47, 97]⟩, .slice none 0 0, .slice none 0 0, .int .i64 200, .slice none 0 0, .string ⟨#[]⟩, .int .i64 t] 31)) := by show _ = _; rw [hW9]; have h := heap_set _ _ 6 _ _ _ (.int .i64 t) HBv1_8.out; simpa using h
      clear hb8 HBv1_8 EU_8 hW9
      have kv1_0 : (w9).cell? ⟨qv1, 0, none⟩ = some (.string ⟨#[47, 97]⟩) := (cell_of HBv1_9.out 0).trans rfl
      have kv1_1 : (w9).cell? ⟨qv1, 1, none⟩ = some (.slice none 0 0) := (cell_of HBv1_9.out 1).trans rfl
      have kv1_2 : (w9).cell? ⟨qv1, 2, none⟩ = some (.slice none 0 0) := (cell_of HBv1_9.out 2).trans rfl
      have kv1_3 : (w9).cell? ⟨qv1, 3, none⟩ = some (.int .i64 200) := (cell_of HBv1_9.out 3).trans rfl
      have kv1_4 : (w9).cell? ⟨qv1, 4, none⟩ = some (.slice none 0 0) := (cell_of HBv1_9.out 4).trans rfl
      have kv1_5 : (w9).cell? ⟨qv1, 5, none⟩ = some (.string ⟨#[]⟩) := (cell_of HBv1_9.out 5).trans rfl
      have kv1_6 : (w9).cell? ⟨qv1, 6, none⟩ = some (.int .i64 t) := (cell_of HBv1_9.out 6).trans rfl
      refine bodyPost_ret (v := .agg #[.string ⟨#[47, 97]⟩, .slice none 0 0, .slice none 0 0, .int .i64 200, .slice none 0 0, .string ⟨#[]⟩, .int .i64 t]) (by simp [results, Tryz.results86, go_sem, kv1_0, kv1_1, kv1_2, kv1_3, kv1_4, kv1_5, kv1_6]) rfl ?_
      exact ⟨_, _, [], _, [], _, _, [], _, _, rfl, ⟨World.ownsRow_nil _ _ _ _, World.ownsRow_nil _ _ _ _, World.ownsRow_nil _ _ _ _, fun _ h => by simp [Value.ownBlock] at h⟩, ⟨⟨by decide, ⟨by decide, fun x hx => by simp at hx⟩, ⟨by decide, fun x hx => by simp at hx⟩, ⟨by decide, fun x hx => by simp at hx⟩, by decide, HTT.out⟩, by decide, by decide, by decide⟩, EU_9.out, hb9⟩
theorem l10Draw_any (c B : Nat) (a : Option Addr) (len cap : Nat) (zs : List Int) (w : World) (hcur : CurAt w c a len cap) (hcode : CodeAt w B a len zs) (hB : B ≤ c) :
    Calls Tryz.prog 34 #[.pointer (some ⟨c, 0, none⟩)] w fun e w' => ObjGot w c a len cap e w' := by
  obtain ⟨i0, hi, hz0, hz1, hz2⟩ := info_parts info9
  have HCO : Hid (∀ W, w.grownBy W (some c) → CodeAt W B a len zs) := fun W h => hcode.grown h hB
  have HBC : Hid (B ≤ c) := hB
  have EU_0 : Hid (CurAt w c a len cap) := hcur
  clear hcode hB hcur
  have hb0 : w.grownBy w (some c) := World.grownBy.refl _ _
  go_enter Tryz.func34, Tryz.ntmps34
  go_upto_region 1 with fail
  obtain ⟨qv1, hqv1⟩ : ∃ q, q = (w).heap.size := ⟨_, rfl⟩
  obtain ⟨w1, hW1⟩ : ∃ W, W = (w).alloc (.cells #[.string ⟨#[]⟩, .slice none 0 0, .slice none 0 0, .int .i64 0, .slice none 0 0, .string ⟨#[]⟩, .int .i64 0] 31) := ⟨_, rfl⟩
  have hz1 : (w).heap.size = qv1 := hqv1.symm
  first | rw [← hW1, ← hqv1] | rw [← hW1]
  have hs1 : w1.heap.size = qv1 + 1 := by rw [hW1, ← hz1]; simp
  have bw : Below (w).heap.size (w) w1 := by rw [hW1]; exact (Below.refl _ _).alloc (Nat.le_refl _) _
  have hb1 : w.grownBy w1 (some c) := grown_then hb0 (grown_below bw _)
  have EU_1 : Hid (CurAt w1 c a len cap) := EU_0.out.below bw EU_0.out.lt
  have HBv1_1 : Hid ((w1).heap[qv1]? = some (.cells #[.string ⟨#[]⟩, .slice none 0 0, .slice none 0 0, .int .i64 0, .slice none 0 0, .string ⟨#[]⟩, .int .i64 0] 31)) := by show _ = _; rw [hW1, ← hz1]; exact heap_alloc_new _ _
  have HGv1 : Hid (w.heap.size ≤ qv1) := by show _ ≤ _; rw [← hz1]; exact hb0.size
  have HNCv1 : Hid (qv1 ≠ c) := fun e => by have h1 := EU_0.out.lt; omega
  clear hb0 EU_0 bw hW1 hz1
  clear hs1 hqv1
  go_wp2_with fail
  refine (l1Below_any c B 30 a len cap zs _ EU_1.out (HCO.out _ hb1) HBC.out (by decide) (by decide)).mono ?_
  rintro e w2 ⟨n1, rfl, hn01, hn11, hcu, hg⟩
  have hb2 : w.grownBy w2 (some c) := grown_then hb1 hg
  have HBv1_2 : Hid ((w2).heap[qv1]? = some (.cells #[.string ⟨#[]⟩, .slice none 0 0, .slice none 0 0, .int .i64 0, .slice none 0 0, .string ⟨#[]⟩, .int .i64 0] 31)) := (hg.block _ (Array.getElem?_eq_some_iff.1 HBv1_1.out).1 (fun e => HNCv1.out (Option.some.inj e))).trans HBv1_1.out
  have EU_2 : Hid (CurAt w2 c a len cap) := hcu
  clear hb1 HBv1_1 EU_1 hg hcu
  go_wp2_with fail
  refine (l10DrawRight_any n1 (by omega) c B a len cap zs _ EU_2.out (HCO.out _ hb2) HBC.out).mono ?_
  rintro e w3 ⟨p2, vv1, xs2, vv2, ys2, st2, vv3, fs2, d2, t2, rfl, ⟨ownX2, ownY2, ownG2, ne2⟩, hsm2, hcu, hg⟩
  obtain ⟨oX2, pX2, rfl⟩ := slice_of_owns ownX2
  obtain ⟨oY2, pY2, rfl⟩ := slice_of_owns ownY2
  obtain ⟨oG2, pG2, rfl⟩ := slice_of_owns ownG2
  have AP2 : Hid (∀ j, (Value.slice oX2 xs2.length pX2).ownBlock = some j → (Value.slice oY2 ys2.length pY2).ownBlock ≠ some j) := ne2
  have HSM2 : Hid (SmallO p2 xs2 ys2 fs2 d2 t2 ∧ xs2.length ≤ 4 ∧ ys2.length ≤ 4 ∧ fs2.length ≤ 8) := hsm2
  have hxl2 := hsm2.2.1
  have hyl2 := hsm2.2.2.1
  clear ne2 hsm2
  have hb3 : w.grownBy w3 (some c) := grown_then hb2 hg
  have HBv1_3 : Hid ((w3).heap[qv1]? = some (.cells #[.string ⟨#[]⟩, .slice none 0 0, .slice none 0 0, .int .i64 0, .slice none 0 0, .string ⟨#[]⟩, .int .i64 0] 31)) := (hg.block _ (Array.getElem?_eq_some_iff.1 HBv1_2.out).1 (fun e => HNCv1.out (Option.some.inj e))).trans HBv1_2.out
  have EU_3 : Hid (CurAt w3 c a len cap) := hcu
  have HOX2_3 : Hid ((w3).ownsRow w.heap.size 9 1 (.slice oX2 xs2.length pX2) xs2.length (xs2.map Value.string)) := owns_wide ownX2 hb2.size
  clear ownX2
  have HOY2_3 : Hid ((w3).ownsRow w.heap.size 9 1 (.slice oY2 ys2.length pY2) ys2.length (ys2.map Value.string)) := owns_wide ownY2 hb2.size
  clear ownY2
  have HOG2_3 : Hid ((w3).ownsRow w.heap.size 74 2 (.slice oG2 fs2.length pG2) fs2.length (flatF fs2)) := owns_wide ownG2 hb2.size
  clear ownG2
  clear hb2 HBv1_2 EU_2 hg hcu
  go_upto_region 2 with fail
  obtain ⟨qv2, hqv2⟩ : ∃ q, q = (w3).heap.size := ⟨_, rfl⟩
  obtain ⟨w4, hW4⟩ : ∃ W, W = (w3).alloc (.cells #[.string p2, .slice oX2 xs2.length pX2, .slice oY2 ys2.length pY2, .int .i64 st2, .slice oG2 fs2.length pG2, .string d2, .int .i64 t2] 31) := ⟨_, rfl⟩
  have hz4 : (w3).heap.size = qv2 := hqv2.symm
  first | rw [← hW4, ← hqv2] | rw [← hW4]
  have hs4 : w4.heap.size = qv2 + 1 := by rw [hW4, ← hz4]; simp
  have bw : Below (w3).heap.size (w3) w4 := by rw [hW4]; exact (Below.refl _ _).alloc (Nat.le_refl _) _
  have hb4 : w.grownBy w4 (some c) := grown_then hb3 (grown_below bw _)
  have HOX2_4 := hown HOX2_3 bw
  have HOY2_4 := hown HOY2_3 bw
  have HOG2_4 := hown HOG2_3 bw
  have HBv1_4 := hblk HBv1_3 bw
  have EU_4 : Hid (CurAt w4 c a len cap) := EU_3.out.below bw EU_3.out.lt
  have HNv1v2 : Hid (qv1 ≠ qv2) := fun e => by have h1 := (Array.getElem?_eq_some_iff.1 HBv1_3.out).1; omega
  have HBv2_4 : Hid ((w4).heap[qv2]? = some (.cells #[.string p2, .slice oX2 xs2.length pX2, .slice oY2 ys2.length pY2, .int .i64 st2, .slice oG2 fs2.length pG2, .string d2, .int .i64 t2] 31)) := by show _ = _; rw [hW4, ← hz4]; exact heap_alloc_new _ _
  have HGv2 : Hid (w.heap.size ≤ qv2) := by show _ ≤ _; rw [← hz4]; exact hb3.size
  have HNCv2 : Hid (qv2 ≠ c) := fun e => by have h1 := EU_3.out.lt; omega
  clear hb3 HOX2_3 HOY2_3 HOG2_3 HBv1_3 EU_3 bw hW4 hz4
  clear hs4 hqv2
  go_wp2_with fail
  refine (l1Below_any c B 20 a len cap zs _ EU_4.out (HCO.out _ hb4) HBC.out (by decide) (by decide)).mono ?_
  rintro e w5 ⟨n3, rfl, hn03, hn13, hcu, hg⟩
  have hb5 : w.grownBy w5 (some c) := grown_then hb4 hg
  have HOX2_5 : Hid ((w5).ownsRow w.heap.size 9 1 (.slice oX2 xs2.length pX2) xs2.length (xs2.map Value.string)) := owns_same HOX2_4.out (fun g hgg => hg.block g (owns_lt HOX2_4.out hgg) (fun e => own_cur HOX2_4.out EU_4.out (by decide) g hgg (Option.some.inj e)))
  have HOY2_5 : Hid ((w5).ownsRow w.heap.size 9 1 (.slice oY2 ys2.length pY2) ys2.length (ys2.map Value.string)) := owns_same HOY2_4.out (fun g hgg => hg.block g (owns_lt HOY2_4.out hgg) (fun e => own_cur HOY2_4.out EU_4.out (by decide) g hgg (Option.some.inj e)))
  have HOG2_5 : Hid ((w5).ownsRow w.heap.size 74 2 (.slice oG2 fs2.length pG2) fs2.length (flatF fs2)) := owns_same HOG2_4.out (fun g hgg => hg.block g (owns_lt HOG2_4.out hgg) (fun e => own_cur HOG2_4.out EU_4.out (by decide) g hgg (Option.some.inj e)))
  have HBv1_5 : Hid ((w5).heap[qv1]? = some (.cells #[.string ⟨#[]⟩, .slice none 0 0, .slice none 0 0, .int .i64 0, .slice none 0 0, .string ⟨#[]⟩, .int .i64 0] 31)) := (hg.block _ (Array.getElem?_eq_some_iff.1 HBv1_4.out).1 (fun e => HNCv1.out (Option.some.inj e))).trans HBv1_4.out
  have HBv2_5 : Hid ((w5).heap[qv2]? = some (.cells #[.string p2, .slice oX2 xs2.length pX2, .slice oY2 ys2.length pY2, .int .i64 st2, .slice oG2 fs2.length pG2, .string d2, .int .i64 t2] 31)) := (hg.block _ (Array.getElem?_eq_some_iff.1 HBv2_4.out).1 (fun e => HNCv2.out (Option.some.inj e))).trans HBv2_4.out
  have EU_5 : Hid (CurAt w5 c a len cap) := hcu
  clear hb4 HOX2_4 HOY2_4 HOG2_4 HBv1_4 HBv2_4 EU_4 hg hcu
  by_cases hc1 : n3 = 0
  · have hc1b : ((n3 : Int) == (0 : Int)) = true := by simpa using hc1
    have hc1n : ((n3 : Int) != (0 : Int)) = false := by simpa using hc1
    have hc1H : Hid (n3 = 0) := hc1
    clear hc1
    go_wp2_with fail
    refine (l7DrawTime_any c B a len cap zs _ EU_5.out (HCO.out _ hb5) HBC.out).mono ?_
    rintro e w6 ⟨tm4, rfl, ht04, ht14, hcu, hg⟩
    have HTM4 : Hid (-9223372036854775808 ≤ tm4 ∧ tm4 ≤ 9223372036854775807) := ⟨ht04, ht14⟩
    clear ht04 ht14
    have hb6 : w.grownBy w6 (some c) := grown_then hb5 hg
    have HM6 : Hid ((w5).heap.size ≤ (w6).heap.size) := hg.size
    have HOX2_6 : Hid ((w6).ownsRow w.heap.size 9 1 (.slice oX2 xs2.length pX2) xs2.length (xs2.map Value.string)) := owns_same HOX2_5.out (fun g hgg => hg.block g (owns_lt HOX2_5.out hgg) (fun e => own_cur HOX2_5.out EU_5.out (by decide) g hgg (Option.some.inj e)))
    have HOY2_6 : Hid ((w6).ownsRow w.heap.size 9 1 (.slice oY2 ys2.length pY2) ys2.length (ys2.map Value.string)) := owns_same HOY2_5.out (fun g hgg => hg.block g (owns_lt HOY2_5.out hgg) (fun e => own_cur HOY2_5.out EU_5.out (by decide) g hgg (Option.some.inj e)))
    have HOG2_6 : Hid ((w6).ownsRow w.heap.size 74 2 (.slice oG2 fs2.length pG2) fs2.length (flatF fs2)) := owns_same HOG2_5.out (fun g hgg => hg.block g (owns_lt HOG2_5.out hgg) (fun e => own_cur HOG2_5.out EU_5.out (by decide) g hgg (Option.some.inj e)))
    have HBv1_6 : Hid ((w6).heap[qv1]? = some (.cells #[.string ⟨#[]⟩, .slice none 0 0, .slice none 0 0, .int .i64 0, .slice none 0 0, .string ⟨#[]⟩, .int .i64 0] 31)) := (hg.block _ (Array.getElem?_eq_some_iff.1 HBv1_5.out).1 (fun e => HNCv1.out (Option.some.inj e))).trans HBv1_5.out
    have HBv2_6 : Hid ((w6).heap[qv2]? = some (.cells #[.string p2, .slice oX2 xs2.length pX2, .slice oY2 ys2.length pY2, .int .i64 st2, .slice oG2 fs2.length pG2, .string d2, .int .i64 t2] 31)) := (hg.block _ (Array.getElem?_eq_some_iff.1 HBv2_5.out).1 (fun e => HNCv2.out (Option.some.inj e))).trans HBv2_5.out
    have EU_6 : Hid (CurAt w6 c a len cap) := hcu
    clear hb5 HOX2_5 HOY2_5 HOG2_5 HBv1_5 HBv2_5 EU_5 hg hcu
    have cv2_6 : (w6).cell? ⟨qv2, 6, none⟩ = some (.int .i64 t2) := (cell_of HBv2_6.out 6).trans rfl
    have fcv2_6 : (w6).frozen? ⟨qv2, 6, none⟩ = false := frozen_of HBv2_6.out 6
    go_upto_region 13 with fail
    obtain ⟨w7, hW7⟩ : ∃ W, W = (w6).setCell ⟨qv2, 6, none⟩ (.int .i64 tm4) := ⟨_, rfl⟩
    rw [← hW7]
    have hb7 : w.grownBy w7 (some c) := by rw [hW7]; exact (grown_own hb6 HGv2.out 6 _)
    have HM7 : Hid ((w6).heap.size ≤ w7.heap.size) := by show _ ≤ _; rw [hW7]; simp
    have HOX2_7 := hsetR hW7 (own_ne HOX2_6.out HBv2_6.out (by decide)) HOX2_6
    have HOY2_7 := hsetR hW7 (own_ne HOY2_6.out HBv2_6.out (by decide)) HOY2_6
    have HOG2_7 := hsetR hW7 (own_ne HOG2_6.out HBv2_6.out (by decide)) HOG2_6
    have HBv1_7 := hset hW7 HNv1v2.out HBv1_6
    have EU_7 : Hid (CurAt w7 c a len cap) := by show CurAt _ _ _ _ _; rw [hW7]; exact cur_set EU_6.out HNCv2.out _ _
    have HBv2_7 : Hid ((w7).heap[qv2]? = some (.cells #[.string p2, .slice oX2 xs2.length pX2, .slice oY2 ys2.length pY2, .int .i64 st2, .slice oG2 fs2.length pG2, .string d2, .int .i64 tm4] 31)) := by show _ = _; rw [hW7]; have h := heap_set _ _ 6 _ _ _ (.int .i64 tm4) HBv2_6.out; simpa using h
    clear hb6 HOX2_6 HOY2_6 HOG2_6 HBv1_6 HBv2_6 EU_6 hW7
    clear cv2_6 fcv2_6
    have cv1_0 : (w7).cell? ⟨qv1, 0, none⟩ = some (.string ⟨#[]⟩) := (cell_of HBv1_7.out 0).trans rfl
    have fcv1_0 : (w7).frozen? ⟨qv1, 0, none⟩ = false := frozen_of HBv1_7.out 0
    have cv1_1 : (w7).cell? ⟨qv1, 1, none⟩ = some (.slice none 0 0) := (cell_of HBv1_7.out 1).trans rfl
    have fcv1_1 : (w7).frozen? ⟨qv1, 1, none⟩ = false := frozen_of HBv1_7.out 1
    have cv1_2 : (w7).cell? ⟨qv1, 2, none⟩ = some (.slice none 0 0) := (cell_of HBv1_7.out 2).trans rfl
    have fcv1_2 : (w7).frozen? ⟨qv1, 2, none⟩ = false := frozen_of HBv1_7.out 2
    have cv1_3 : (w7).cell? ⟨qv1, 3, none⟩ = some (.int .i64 0) := (cell_of HBv1_7.out 3).trans rfl
    have fcv1_3 : (w7).frozen? ⟨qv1, 3, none⟩ = false := frozen_of HBv1_7.out 3
    have cv1_4 : (w7).cell? ⟨qv1, 4, none⟩ = some (.slice none 0 0) := (cell_of HBv1_7.out 4).trans rfl
    have fcv1_4 : (w7).frozen? ⟨qv1, 4, none⟩ = false := frozen_of HBv1_7.out 4
    have cv1_5 : (w7).cell? ⟨qv1, 5, none⟩ = some (.string ⟨#[]⟩) := (cell_of HBv1_7.out 5).trans rfl
    have fcv1_5 : (w7).frozen? ⟨qv1, 5, none⟩ = false := frozen_of HBv1_7.out 5
    have cv1_6 : (w7).cell? ⟨qv1, 6, none⟩ = some (.int .i64 0) := (cell_of HBv1_7.out 6).trans rfl
    have fcv1_6 : (w7).frozen? ⟨qv1, 6, none⟩ = false := frozen_of HBv1_7.out 6
    have cv2_0 : (w7).cell? ⟨qv2, 0, none⟩ = some (.string p2) := (cell_of HBv2_7.out 0).trans rfl
    have cv2_1 : (w7).cell? ⟨qv2, 1, none⟩ = some (.slice oX2 xs2.length pX2) := (cell_of HBv2_7.out 1).trans rfl
    have cv2_2 : (w7).cell? ⟨qv2, 2, none⟩ = some (.slice oY2 ys2.length pY2) := (cell_of HBv2_7.out 2).trans rfl
    have cv2_3 : (w7).cell? ⟨qv2, 3, none⟩ = some (.int .i64 st2) := (cell_of HBv2_7.out 3).trans rfl
    have cv2_4 : (w7).cell? ⟨qv2, 4, none⟩ = some (.slice oG2 fs2.length pG2) := (cell_of HBv2_7.out 4).trans rfl
    have cv2_5 : (w7).cell? ⟨qv2, 5, none⟩ = some (.string d2) := (cell_of HBv2_7.out 5).trans rfl
    have cv2_6 : (w7).cell? ⟨qv2, 6, none⟩ = some (.int .i64 tm4) := (cell_of HBv2_7.out 6).trans rfl
    go_wp2_with fail
    obtain ⟨w8, hW8⟩ : ∃ W, W = (w7).setCell ⟨qv1, 0, none⟩ (.string p2) := ⟨_, rfl⟩
    rw [← hW8]
    have hb8 : w.grownBy w8 (some c) := by rw [hW8]; exact (grown_own hb7 HGv1.out 0 _)
    have HM8 : Hid ((w7).heap.size ≤ w8.heap.size) := by show _ ≤ _; rw [hW8]; simp
    have HOX2_8 := hsetR hW8 (own_ne HOX2_7.out HBv1_7.out (by decide)) HOX2_7
    have HOY2_8 := hsetR hW8 (own_ne HOY2_7.out HBv1_7.out (by decide)) HOY2_7
    have HOG2_8 := hsetR hW8 (own_ne HOG2_7.out HBv1_7.out (by decide)) HOG2_7
    have HBv2_8 := hset hW8 HNv1v2.out.symm HBv2_7
    have EU_8 : Hid (CurAt w8 c a len cap) := by show CurAt _ _ _ _ _; rw [hW8]; exact cur_set EU_7.out HNCv1.out _ _
    have HBv1_8 : Hid ((w8).heap[qv1]? = some (.cells #[.string p2, .slice none 0 0, .slice none 0 0, .int .i64 0, .slice none 0 0, .string ⟨#[]⟩, .int .i64 0] 31)) := by show _ = _; rw [hW8]; have h := heap_set _ _ 0 _ _ _ (.string p2) HBv1_7.out; simpa using h
    clear hb7 HOX2_7 HOY2_7 HOG2_7 HBv1_7 HBv2_7 EU_7 hW8
    obtain ⟨w9, hW9⟩ : ∃ W, W = (w8).setCell ⟨qv1, 1, none⟩ (.slice oX2 xs2.length pX2) := ⟨_, rfl⟩
    rw [← hW9]
    have hb9 : w.grownBy w9 (some c) := by rw [hW9]; exact (grown_own hb8 HGv1.out 1 _)
    have HM9 : Hid ((w8).heap.size ≤ w9.heap.size) := by show _ ≤ _; rw [hW9]; simp
    have HOX2_9 := hsetR hW9 (own_ne HOX2_8.out HBv1_8.out (by decide)) HOX2_8
    have HOY2_9 := hsetR hW9 (own_ne HOY2_8.out HBv1_8.out (by decide)) HOY2_8
    have HOG2_9 := hsetR hW9 (own_ne HOG2_8.out HBv1_8.out (by decide)) HOG2_8
    have HBv2_9 := hset hW9 HNv1v2.out.symm HBv2_8
    have EU_9 : Hid (CurAt w9 c a len cap) := by show CurAt _ _ _ _ _; rw [hW9]; exact cur_set EU_8.out HNCv1.out _ _
    have HBv1_9 : Hid ((w9).heap[qv1]? = some (.cells #[.string p2, .slice oX2 xs2.length pX2, .slice none 0 0, .int .i64 0, .slice none 0 0, .string ⟨#[]⟩, .int .i64 0] 31)) := by show _ = _; rw [hW9]; have h := heap_set _ _ 1 _ _ _ (.slice oX2 xs2.length pX2) HBv1_8.out; simpa using h
    clear hb8 HOX2_8 HOY2_8 HOG2_8 HBv1_8 HBv2_8 EU_8 hW9
    obtain ⟨w10, hW10⟩ : ∃ W, W = (w9).setCell ⟨qv1, 2, none⟩ (.slice oY2 ys2.length pY2) := ⟨_, rfl⟩
    rw [← hW10]
    have hb10 : w.grownBy w10 (some c) := by rw [hW10]; exact (grown_own hb9 HGv1.out 2 _)
    have HM10 : Hid ((w9).heap.size ≤ w10.heap.size) := by show _ ≤ _; rw [hW10]; simp
    have HOX2_10 := hsetR hW10 (own_ne HOX2_9.out HBv1_9.out (by decide)) HOX2_9
    have HOY2_10 := hsetR hW10 (own_ne HOY2_9.out HBv1_9.out (by decide)) HOY2_9
    have HOG2_10 := hsetR hW10 (own_ne HOG2_9.out HBv1_9.out (by decide)) HOG2_9
    have HBv2_10 := hset hW10 HNv1v2.out.symm HBv2_9
    have EU_10 : Hid (CurAt w10 c a len cap) := by show CurAt _ _ _ _ _; rw [hW10]; exact cur_set EU_9.out HNCv1.out _ _
    have HBv1_10 : Hid ((w10).heap[qv1]? = some (.cells #[.string p2, .slice oX2 xs2.length pX2, .slice oY2 ys2.length pY2, .int .i64 0, .slice none 0 0, .string ⟨#[]⟩, .int .i64 0] 31)) := by show _ = _; rw [hW10]; have h := heap_set _ _ 2 _ _ _ (.slice oY2 ys2.length pY2) HBv1_9.out; simpa using h
    clear hb9 HOX2_9 HOY2_9 HOG2_9 HBv1_9 HBv2_9 EU_9 hW10
    obtain ⟨w11, hW11⟩ : ∃ W, W = (w10).setCell ⟨qv1, 3, none⟩ (.int .i64 st2) := ⟨_, rfl⟩
    rw [← hW11]
    have hb11 : w.grownBy w11 (some c) := by rw [hW11]; exact (grown_own hb10 HGv1.out 3 _)
    have HM11 : Hid ((w10).heap.size ≤ w11.heap.size) := by show _ ≤ _; rw [hW11]; simp
    have HOX2_11 := hsetR hW11 (own_ne HOX2_10.out HBv1_10.out (by decide)) HOX2_10
    have HOY2_11 := hsetR hW11 (own_ne HOY2_10.out HBv1_10.out (by decide)) HOY2_10
    have HOG2_11 := hsetR hW11 (own_ne HOG2_10.out HBv1_10.out (by decide)) HOG2_10
    have HBv2_11 := hset hW11 HNv1v2.out.symm HBv2_10
    have EU_11 : Hid (CurAt w11 c a len cap) := by show CurAt _ _ _ _ _; rw [hW11]; exact cur_set EU_10.out HNCv1.out _ _
    have HBv1_11 : Hid ((w11).heap[qv1]? = some (.cells #[.string p2, .slice oX2 xs2.length pX2, .slice oY2 ys2.length pY2, .int .i64 st2, .slice none 0 0, .string ⟨#[]⟩, .int .i64 0] 31)) := by show _ = _; rw [hW11]; have h := heap_set _ _ 3 _ _ _ (.int .i64 st2) HBv1_10.out; simpa using h
    clear hb10 HOX2_10 HOY2_10 HOG2_10 HBv1_10 HBv2_10 EU_10 hW11
    obtain ⟨w12, hW12⟩ : ∃ W, W = (w11).setCell ⟨qv1, 4, none⟩ (.slice oG2 fs2.length pG2) := ⟨_, rfl⟩
    rw [← hW12]
    have hb12 : w.grownBy w12 (some c) := by rw [hW12]; exact (grown_own hb11 HGv1.out 4 _)
    have HM12 : Hid ((w11).heap.size ≤ w12.heap.size) := by show _ ≤ _; rw [hW12]; simp
    have HOX2_12 := hsetR hW12 (own_ne HOX2_11.out HBv1_11.out (by decide)) HOX2_11
    have HOY2_12 := hsetR hW12 (own_ne HOY2_11.out HBv1_11.out (by decide)) HOY2_11
    have HOG2_12 := hsetR hW12 (own_ne HOG2_11.out HBv1_11.out (by decide)) HOG2_11
    have HBv2_12 := hset hW12 HNv1v2.out.symm HBv2_11
    have EU_12 : Hid (CurAt w12 c a len cap) := by show CurAt _ _ _ _ _; rw [hW12]; exact cur_set EU_11.out HNCv1.out _ _
    have HBv1_12 : Hid ((w12).heap[qv1]? = some (.cells #[.string p2, .slice oX2 xs2.length pX2, .slice oY2 ys2.length pY2, .int .i64 st2, .slice oG2 fs2.length pG2, .string ⟨#[]⟩, .int .i64 0] 31)) := by show _ = _; rw [hW12]; have h := heap_set _ _ 4 _ _ _ (.slice oG2 fs2.length pG2) HBv1_11.out; simpa using h
    clear hb11 HOX2_11 HOY2_11 HOG2_11 HBv1_11 HBv2_11 EU_11 hW12
    obtain ⟨w13, hW13⟩ : ∃ W, W = (w12).setCell ⟨qv1, 5, none⟩ (.string d2) := ⟨_, rfl⟩
    rw [← hW13]
    have hb13 : w.grownBy w13 (some c) := by rw [hW13]; exact (grown_own hb12 HGv1.out 5 _)
    have HM13 : Hid ((w12).heap.size ≤ w13.heap.size) := by show _ ≤ _; rw [hW13]; simp
    have HOX2_13 := hsetR hW13 (own_ne HOX2_12.out HBv1_12.out (by decide)) HOX2_12
    have HOY2_13 := hsetR hW13 (own_ne HOY2_12.out HBv1_12.out (by decide)) HOY2_12
    have HOG2_13 := hsetR hW13 (own_ne HOG2_12.out HBv1_12.out (by decide)) HOG2_12
    have HBv2_13 := hset hW13 HNv1v2.out.symm HBv2_12
    have EU_13 : Hid (CurAt w13 c a len cap) := by show CurAt _ _ _ _ _; rw [hW13]; exact cur_set EU_12.out HNCv1.out _ _
    have HBv1_13 : Hid ((w13).heap[qv1]? = some (.cells #[.string p2, .slice oX2 xs2.length pX2, .slice oY2 ys2.length pY2, .int .i64 st2, .slice oG2 fs2.length pG2, .string d2, .int .i64 0] 31)) := by show _ = _; rw [hW13]; have h := heap_set _ _ 5 _ _ _ (.string d2) HBv1_12.out; simpa using h
    clear hb12 HOX2_12 HOY2_12 HOG2_12 HBv1_12 HBv2_12 EU_12 hW13
    obtain ⟨w14, hW14⟩ : ∃ W, W = (w13).setCell ⟨qv1, 6, none⟩ (.int .i64 tm4) := ⟨_, rfl⟩
    rw [← hW14]
    have hb14 : w.grownBy w14 (some c) := by rw [hW14]; exact (grown_own hb13 HGv1.out 6 _)
    have HM14 : Hid ((w13).heap.size ≤ w14.heap.size) := by show _ ≤ _; rw [hW14]; simp
    have HOX2_14 := hsetR hW14 (own_ne HOX2_13.out HBv1_13.out (by decide)) HOX2_13
    have HOY2_14 := hsetR hW14 (own_ne HOY2_13.out HBv1_13.out (by decide)) HOY2_13
    have HOG2_14 := hsetR hW14 (own_ne HOG2_13.out HBv1_13.out (by decide)) HOG2_13
    have HBv2_14 := hset hW14 HNv1v2.out.symm HBv2_13
    have EU_14 : Hid (CurAt w14 c a len cap) := by show CurAt _ _ _ _ _; rw [hW14]; exact cur_set EU_13.out HNCv1.out _ _
    have HBv1_14 : Hid ((w14).heap[qv1]? = some (.cells #[.string p2, .slice oX2 xs2.length pX2, .slice oY2 ys2.length pY2, .int .i64 st2, .slice oG2 fs2.length pG2, .string d2, .int .i64 tm4] 31)) := by show _ = _; rw [hW14]; have h := heap_set _ _ 6 _ _ _ (.int .i64 tm4) HBv1_13.out; simpa using h
    clear hb13 HOX2_13 HOY2_13 HOG2_13 HBv1_13 HBv2_13 EU_13 hW14
    have kv1_0 : (w14).cell? ⟨qv1, 0, none⟩ = some (.string p2) := (cell_of HBv1_14.out 0).trans rfl
    have kv1_1 : (w14).cell? ⟨qv1, 1, none⟩ = some (.slice oX2 xs2.length pX2) := (cell_of HBv1_14.out 1).trans rfl
    have kv1_2 : (w14).cell? ⟨qv1, 2, none⟩ = some (.slice oY2 ys2.length pY2) := (cell_of HBv1_14.out 2).trans rfl
    have kv1_3 : (w14).cell? ⟨qv1, 3, none⟩ = some (.int .i64 st2) := (cell_of HBv1_14.out 3).trans rfl
    have kv1_4 : (w14).cell? ⟨qv1, 4, none⟩ = some (.slice oG2 fs2.length pG2) := (cell_of HBv1_14.out 4).trans rfl
    have kv1_5 : (w14).cell? ⟨qv1, 5, none⟩ = some (.string d2) := (cell_of HBv1_14.out 5).trans rfl
    have kv1_6 : (w14).cell? ⟨qv1, 6, none⟩ = some (.int .i64 tm4) := (cell_of HBv1_14.out 6).trans rfl
    refine bodyPost_ret (v := .agg #[.string p2, .slice oX2 xs2.length pX2, .slice oY2 ys2.length pY2, .int .i64 st2, .slice oG2 fs2.length pG2, .string d2, .int .i64 tm4]) (by simp [results, Tryz.results34, go_sem, kv1_0, kv1_1, kv1_2, kv1_3, kv1_4, kv1_5, kv1_6]) rfl ?_
    exact ⟨_, _, _, _, _, _, _, _, _, _, rfl, ⟨HOX2_14.out, HOY2_14.out, HOG2_14.out⟩, ⟨HSM2.out.1.1, HSM2.out.1.2.1, HSM2.out.1.2.2.1, HSM2.out.1.2.2.2.1, HSM2.out.1.2.2.2.2.1, HTM4.out⟩, EU_14.out, hb14⟩
  · have hc1b : ((n3 : Int) == (0 : Int)) = false := by simpa using hc1
    have hc1n : ((n3 : Int) != (0 : Int)) = true := by simpa using hc1
    have hc1H : Hid (¬ (n3 = 0)) := hc1
    clear hc1
    by_cases hc2 : n3 = 1
    · have hc2b : ((n3 : Int) == (1 : Int)) = true := by simpa using hc2
      have hc2n : ((n3 : Int) != (1 : Int)) = false := by simpa using hc2
      have hc2H : Hid (n3 = 1) := hc2
      clear hc2
      go_wp2_with fail
      obtain ⟨qv3, hqv3⟩ : ∃ q, q = (w5).heap.size := ⟨_, rfl⟩
      obtain ⟨w6, hW6⟩ : ∃ W, W = (w5).alloc (.cells #[.string ⟨#[]⟩, .string ⟨#[120]⟩, .string ⟨#[47, 32]⟩] 9) := ⟨_, rfl⟩
      have hz6 : (w5).heap.size = qv3 := hqv3.symm
      first | rw [← hW6, ← hqv3] | rw [← hW6]
      have hs6 : w6.heap.size = qv3 + 1 := by rw [hW6, ← hz6]; simp
      have bw : Below (w5).heap.size (w5) w6 := by rw [hW6]; exact (Below.refl _ _).alloc (Nat.le_refl _) _
      have hb6 : w.grownBy w6 (some c) := grown_then hb5 (grown_below bw _)
      have HM6 : Hid ((w5).heap.size ≤ (w6).heap.size) := bw.size
      have HOX2_6 := hown HOX2_5 bw
      have HOY2_6 := hown HOY2_5 bw
      have HOG2_6 := hown HOG2_5 bw
      have HBv1_6 := hblk HBv1_5 bw
      have HBv2_6 := hblk HBv2_5 bw
      have EU_6 : Hid (CurAt w6 c a len cap) := EU_5.out.below bw EU_5.out.lt
      have HBv3_6 : Hid ((w6).heap[qv3]? = some (.cells #[.string ⟨#[]⟩, .string ⟨#[120]⟩, .string ⟨#[47, 32]⟩] 9)) := by show _ = _; rw [hW6, ← hz6]; exact heap_alloc_new _ _
      have HNCv3 : Hid (qv3 ≠ c) := fun e => by have h1 := EU_5.out.lt; omega
      clear hb5 HOX2_5 HOY2_5 HOG2_5 HBv1_5 HBv2_5 EU_5 bw hW6 hz6
      clear hs6 hqv3
      have HLS : Hid (ListAt w6 qv3 3 (textAt [⟨#[]⟩, ⟨#[120]⟩, ⟨#[47, 32]⟩])) := by
        intro j hj
        match j, hj with
        | 0, _ => exact (cell_of HBv3_6.out 0).trans rfl
        | 1, _ => exact (cell_of HBv3_6.out 1).trans rfl
        | 2, _ => exact (cell_of HBv3_6.out 2).trans rfl
      refine (l1Pick_any c B qv3 3 (textAt [⟨#[]⟩, ⟨#[120]⟩, ⟨#[47, 32]⟩]) a len cap zs _ EU_6.out (HCO.out _ hb6) HBC.out (by decide) (by decide) HLS.out HNCv3.out).mono ?_
      rintro e w7 ⟨jx, hjx, rfl, hcu, hg⟩
      obtain ⟨x4, hx4⟩ : ∃ x, x = textAt [⟨#[]⟩, ⟨#[120]⟩, ⟨#[47, 32]⟩] jx := ⟨_, rfl⟩
      rw [← hx4]
      have HXx4 : Hid (x4.size ≤ 64) := by show _ ≤ _; rw [hx4]; exact (show ∀ j, j < 3 → (textAt [⟨#[]⟩, ⟨#[120]⟩, ⟨#[47, 32]⟩] j).size ≤ 64 by decide) jx hjx
      clear hx4 hjx HLS
      have hb7 : w.grownBy w7 (some c) := grown_then hb6 hg
      have HM7 : Hid ((w6).heap.size ≤ (w7).heap.size) := hg.size
      have HOX2_7 : Hid ((w7).ownsRow w.heap.size 9 1 (.slice oX2 xs2.length pX2) xs2.length (xs2.map Value.string)) := owns_same HOX2_6.out (fun g hgg => hg.block g (owns_lt HOX2_6.out hgg) (fun e => own_cur HOX2_6.out EU_6.out (by decide) g hgg (Option.some.inj e)))
      have HOY2_7 : Hid ((w7).ownsRow w.heap.size 9 1 (.slice oY2 ys2.length pY2) ys2.length (ys2.map Value.string)) := owns_same HOY2_6.out (fun g hgg => hg.block g (owns_lt HOY2_6.out hgg) (fun e => own_cur HOY2_6.out EU_6.out (by decide) g hgg (Option.some.inj e)))
      have HOG2_7 : Hid ((w7).ownsRow w.heap.size 74 2 (.slice oG2 fs2.length pG2) fs2.length (flatF fs2)) := owns_same HOG2_6.out (fun g hgg => hg.block g (owns_lt HOG2_6.out hgg) (fun e => own_cur HOG2_6.out EU_6.out (by decide) g hgg (Option.some.inj e)))
      have HBv1_7 : Hid ((w7).heap[qv1]? = some (.cells #[.string ⟨#[]⟩, .slice none 0 0, .slice none 0 0, .int .i64 0, .slice none 0 0, .string ⟨#[]⟩, .int .i64 0] 31)) := (hg.block _ (Array.getElem?_eq_some_iff.1 HBv1_6.out).1 (fun e => HNCv1.out (Option.some.inj e))).trans HBv1_6.out
      have HBv2_7 : Hid ((w7).heap[qv2]? = some (.cells #[.string p2, .slice oX2 xs2.length pX2, .slice oY2 ys2.length pY2, .int .i64 st2, .slice oG2 fs2.length pG2, .string d2, .int .i64 t2] 31)) := (hg.block _ (Array.getElem?_eq_some_iff.1 HBv2_6.out).1 (fun e => HNCv2.out (Option.some.inj e))).trans HBv2_6.out
      have HBv3_7 : Hid ((w7).heap[qv3]? = some (.cells #[.string ⟨#[]⟩, .string ⟨#[120]⟩, .string ⟨#[47, 32]⟩] 9)) := (hg.block _ (Array.getElem?_eq_some_iff.1 HBv3_6.out).1 (fun e => HNCv3.out (Option.some.inj e))).trans HBv3_6.out
      have EU_7 : Hid (CurAt w7 c a len cap) := hcu
      clear hb6 HOX2_6 HOY2_6 HOG2_6 HBv1_6 HBv2_6 HBv3_6 EU_6 hg hcu
      clear HBv3_7
      have cv2_0 : (w7).cell? ⟨qv2, 0, none⟩ = some (.string p2) := (cell_of HBv2_7.out 0).trans rfl
      have fcv2_0 : (w7).frozen? ⟨qv2, 0, none⟩ = false := frozen_of HBv2_7.out 0
      go_upto_region 13 with fail
      obtain ⟨w8, hW8⟩ : ∃ W, W = (w7).setCell ⟨qv2, 0, none⟩ (.string x4) := ⟨_, rfl⟩
      rw [← hW8]
      have hb8 : w.grownBy w8 (some c) := by rw [hW8]; exact (grown_own hb7 HGv2.out 0 _)
      have HM8 : Hid ((w7).heap.size ≤ w8.heap.size) := by show _ ≤ _; rw [hW8]; simp
      have HOX2_8 := hsetR hW8 (own_ne HOX2_7.out HBv2_7.out (by decide)) HOX2_7
      have HOY2_8 := hsetR hW8 (own_ne HOY2_7.out HBv2_7.out (by decide)) HOY2_7
      have HOG2_8 := hsetR hW8 (own_ne HOG2_7.out HBv2_7.out (by decide)) HOG2_7
      have HBv1_8 := hset hW8 HNv1v2.out HBv1_7
      have EU_8 : Hid (CurAt w8 c a len cap) := by show CurAt _ _ _ _ _; rw [hW8]; exact cur_set EU_7.out HNCv2.out _ _
      have HBv2_8 : Hid ((w8).heap[qv2]? = some (.cells #[.string x4, .slice oX2 xs2.length pX2, .slice oY2 ys2.length pY2, .int .i64 st2, .slice oG2 fs2.length pG2, .string d2, .int .i64 t2] 31)) := by show _ = _; rw [hW8]; have h := heap_set _ _ 0 _ _ _ (.string x4) HBv2_7.out; simpa using h
      clear hb7 HOX2_7 HOY2_7 HOG2_7 HBv1_7 HBv2_7 EU_7 hW8
      clear cv2_0 fcv2_0
      have cv1_0 : (w8).cell? ⟨qv1, 0, none⟩ = some (.string ⟨#[]⟩) := (cell_of HBv1_8.out 0).trans rfl
      have fcv1_0 : (w8).frozen? ⟨qv1, 0, none⟩ = false := frozen_of HBv1_8.out 0
      have cv1_1 : (w8).cell? ⟨qv1, 1, none⟩ = some (.slice none 0 0) := (cell_of HBv1_8.out 1).trans rfl
      have fcv1_1 : (w8).frozen? ⟨qv1, 1, none⟩ = false := frozen_of HBv1_8.out 1
      have cv1_2 : (w8).cell? ⟨qv1, 2, none⟩ = some (.slice none 0 0) := (cell_of HBv1_8.out 2).trans rfl
      have fcv1_2 : (w8).frozen? ⟨qv1, 2, none⟩ = false := frozen_of HBv1_8.out 2
      have cv1_3 : (w8).cell? ⟨qv1, 3, none⟩ = some (.int .i64 0) := (cell_of HBv1_8.out 3).trans rfl
      have fcv1_3 : (w8).frozen? ⟨qv1, 3, none⟩ = false := frozen_of HBv1_8.out 3
      have cv1_4 : (w8).cell? ⟨qv1, 4, none⟩ = some (.slice none 0 0) := (cell_of HBv1_8.out 4).trans rfl
      have fcv1_4 : (w8).frozen? ⟨qv1, 4, none⟩ = false := frozen_of HBv1_8.out 4
      have cv1_5 : (w8).cell? ⟨qv1, 5, none⟩ = some (.string ⟨#[]⟩) := (cell_of HBv1_8.out 5).trans rfl
      have fcv1_5 : (w8).frozen? ⟨qv1, 5, none⟩ = false := frozen_of HBv1_8.out 5
      have cv1_6 : (w8).cell? ⟨qv1, 6, none⟩ = some (.int .i64 0) := (cell_of HBv1_8.out 6).trans rfl
      have fcv1_6 : (w8).frozen? ⟨qv1, 6, none⟩ = false := frozen_of HBv1_8.out 6
      have cv2_0 : (w8).cell? ⟨qv2, 0, none⟩ = some (.string x4) := (cell_of HBv2_8.out 0).trans rfl
      have cv2_1 : (w8).cell? ⟨qv2, 1, none⟩ = some (.slice oX2 xs2.length pX2) := (cell_of HBv2_8.out 1).trans rfl
      have cv2_2 : (w8).cell? ⟨qv2, 2, none⟩ = some (.slice oY2 ys2.length pY2) := (cell_of HBv2_8.out 2).trans rfl
      have cv2_3 : (w8).cell? ⟨qv2, 3, none⟩ = some (.int .i64 st2) := (cell_of HBv2_8.out 3).trans rfl
      have cv2_4 : (w8).cell? ⟨qv2, 4, none⟩ = some (.slice oG2 fs2.length pG2) := (cell_of HBv2_8.out 4).trans rfl
      have cv2_5 : (w8).cell? ⟨qv2, 5, none⟩ = some (.string d2) := (cell_of HBv2_8.out 5).trans rfl
      have cv2_6 : (w8).cell? ⟨qv2, 6, none⟩ = some (.int .i64 t2) := (cell_of HBv2_8.out 6).trans rfl
      go_wp2_with fail
      obtain ⟨w9, hW9⟩ : ∃ W, W = (w8).setCell ⟨qv1, 0, none⟩ (.string x4) := ⟨_, rfl⟩
      rw [← hW9]
      have hb9 : w.grownBy w9 (some c) := by rw [hW9]; exact (grown_own hb8 HGv1.out 0 _)
      have HM9 : Hid ((w8).heap.size ≤ w9.heap.size) := by show _ ≤ _; rw [hW9]; simp
      have HOX2_9 := hsetR hW9 (own_ne HOX2_8.out HBv1_8.out (by decide)) HOX2_8
      have HOY2_9 := hsetR hW9 (own_ne HOY2_8.out HBv1_8.out (by decide)) HOY2_8
      have HOG2_9 := hsetR hW9 (own_ne HOG2_8.out HBv1_8.out (by decide)) HOG2_8
      have HBv2_9 := hset hW9 HNv1v2.out.symm HBv2_8
      have EU_9 : Hid (CurAt w9 c a len cap) := by show CurAt _ _ _ _ _; rw [hW9]; exact cur_set EU_8.out HNCv1.out _ _
      have HBv1_9 : Hid ((w9).heap[qv1]? = some (.cells #[.string x4, .slice none 0 0, .slice none 0 0, .int .i64 0, .slice none 0 0, .string ⟨#[]⟩, .int .i64 0] 31)) := by show _ = _; rw [hW9]; have h := heap_set _ _ 0 _ _ _ (.string x4) HBv1_8.out; simpa using h
      clear hb8 HOX2_8 HOY2_8 HOG2_8 HBv1_8 HBv2_8 EU_8 hW9
      obtain ⟨w10, hW10⟩ : ∃ W, W = (w9).setCell ⟨qv1, 1, none⟩ (.slice oX2 xs2.length pX2) := ⟨_, rfl⟩
      rw [← hW10]
      have hb10 : w.grownBy w10 (some c) := by rw [hW10]; exact (grown_own hb9 HGv1.out 1 _)
      have HM10 : Hid ((w9).heap.size ≤ w10.heap.size) := by show _ ≤ _; rw [hW10]; simp
      have HOX2_10 := hsetR hW10 (own_ne HOX2_9.out HBv1_9.out (by decide)) HOX2_9
      have HOY2_10 := hsetR hW10 (own_ne HOY2_9.out HBv1_9.out (by decide)) HOY2_9
      have HOG2_10 := hsetR hW10 (own_ne HOG2_9.out HBv1_9.out (by decide)) HOG2_9
      have HBv2_10 := hset hW10 HNv1v2.out.symm HBv2_9
      have EU_10 : Hid (CurAt w10 c a len cap) := by show CurAt _ _ _ _ _; rw [hW10]; exact cur_set EU_9.out HNCv1.out _ _
      have HBv1_10 : Hid ((w10).heap[qv1]? = some (.cells #[.string x4, .slice oX2 xs2.length pX2, .slice none 0 0, .int .i64 0, .slice none 0 0, .string ⟨#[]⟩, .int .i64 0] 31)) := by show _ = _; rw [hW10]; have h := heap_set _ _ 1 _ _ _ (.slice oX2 xs2.length pX2) HBv1_9.out; simpa using h
      clear hb9 HOX2_9 HOY2_9 HOG2_9 HBv1_9 HBv2_9 EU_9 hW10
      obtain ⟨w11, hW11⟩ : ∃ W, W = (w10).setCell ⟨qv1, 2, none⟩ (.slice oY2 ys2.length pY2) := ⟨_, rfl⟩
      rw [← hW11]
      have hb11 : w.grownBy w11 (some c) := by rw [hW11]; exact (grown_own hb10 HGv1.out 2 _)
      have HM11 : Hid ((w10).heap.size ≤ w11.heap.size) := by show _ ≤ _; rw [hW11]; simp
      have HOX2_11 := hsetR hW11 (own_ne HOX2_10.out HBv1_10.out (by decide)) HOX2_10
      have HOY2_11 := hsetR hW11 (own_ne HOY2_10.out HBv1_10.out (by decide)) HOY2_10
      have HOG2_11 := hsetR hW11 (own_ne HOG2_10.out HBv1_10.out (by decide)) HOG2_10
      have HBv2_11 := hset hW11 HNv1v2.out.symm HBv2_10
      have EU_11 : Hid (CurAt w11 c a len cap) := by show CurAt _ _ _ _ _; rw [hW11]; exact cur_set EU_10.out HNCv1.out _ _
      have HBv1_11 : Hid ((w11).heap[qv1]? = some (.cells #[.string x4, .slice oX2 xs2.length pX2, .slice oY2 ys2.length pY2, .int .i64 0, .slice none 0 0, .string ⟨#[]⟩, .int .i64 0] 31)) := by show _ = _; rw [hW11]; have h := heap_set _ _ 2 _ _ _ (.slice oY2 ys2.length pY2) HBv1_10.out; simpa using h
      clear hb10 HOX2_10 HOY2_10 HOG2_10 HBv1_10 HBv2_10 EU_10 hW11
      obtain ⟨w12, hW12⟩ : ∃ W, W = (w11).setCell ⟨qv1, 3, none⟩ (.int .i64 st2) := ⟨_, rfl⟩
      rw [← hW12]
      have hb12 : w.grownBy w12 (some c) := by rw [hW12]; exact (grown_own hb11 HGv1.out 3 _)
      have HM12 : Hid ((w11).heap.size ≤ w12.heap.size) := by show _ ≤ _; rw [hW12]; simp
      have HOX2_12 := hsetR hW12 (own_ne HOX2_11.out HBv1_11.out (by decide)) HOX2_11
      have HOY2_12 := hsetR hW12 (own_ne HOY2_11.out HBv1_11.out (by decide)) HOY2_11
      have HOG2_12 := hsetR hW12 (own_ne HOG2_11.out HBv1_11.out (by decide)) HOG2_11
      have HBv2_12 := hset hW12 HNv1v2.out.symm HBv2_11
      have EU_12 : Hid (CurAt w12 c a len cap) := by show CurAt _ _ _ _ _; rw [hW12]; exact cur_set EU_11.out HNCv1.out _ _
      have HBv1_12 : Hid ((w12).heap[qv1]? = some (.cells #[.string x4, .slice oX2 xs2.length pX2, .slice oY2 ys2.length pY2, .int .i64 st2, .slice none 0 0, .string ⟨#[]⟩, .int .i64 0] 31)) := by show _ = _; rw [hW12]; have h := heap_set _ _ 3 _ _ _ (.int .i64 st2) HBv1_11.out; simpa using h
      clear hb11 HOX2_11 HOY2_11 HOG2_11 HBv1_11 HBv2_11 EU_11 hW12
      obtain ⟨w13, hW13⟩ : ∃ W, W = (w12).setCell ⟨qv1, 4, none⟩ (.slice oG2 fs2.length pG2) := ⟨_, rfl⟩
      rw [← hW13]
      have hb13 : w.grownBy w13 (some c) := by rw [hW13]; exact (grown_own hb12 HGv1.out 4 _)
      have HM13 : Hid ((w12).heap.size ≤ w13.heap.size) := by show _ ≤ _; rw [hW13]; simp
      have HOX2_13 := hsetR hW13 (own_ne HOX2_12.out HBv1_12.out (by decide)) HOX2_12
      have HOY2_13 := hsetR hW13 (own_ne HOY2_12.out HBv1_12.out (by decide)) HOY2_12
      have HOG2_13 := hsetR hW13 (own_ne HOG2_12.out HBv1_12.out (by decide)) HOG2_12
      have HBv2_13 := hset hW13 HNv1v2.out.symm HBv2_12
      have EU_13 : Hid (CurAt w13 c a len cap) := by show CurAt _ _ _ _ _; rw [hW13]; exact cur_set EU_12.out HNCv1.out _ _
      have HBv1_13 : Hid ((w13).heap[qv1]? = some (.cells #[.string x4, .slice oX2 xs2.length pX2, .slice oY2 ys2.length pY2, .int .i64 st2, .slice oG2 fs2.length pG2, .string ⟨#[]⟩, .int .i64 0] 31)) := by show _ = _; rw [hW13]; have h := heap_set _ _ 4 _ _ _ (.slice oG2 fs2.length pG2) HBv1_12.out; simpa using h
      clear hb12 HOX2_12 HOY2_12 HOG2_12 HBv1_12 HBv2_12 EU_12 hW13
      obtain ⟨w14, hW14⟩ : ∃ W, W = (w13).setCell ⟨qv1, 5, none⟩ (.string d2) := ⟨_, rfl⟩
      rw [← hW14]
      have hb14 : w.grownBy w14 (some c) := by rw [hW14]; exact (grown_own hb13 HGv1.out 5 _)
      have HM14 : Hid ((w13).heap.size ≤ w14.heap.size) := by show _ ≤ _; rw [hW14]; simp
      have HOX2_14 := hsetR hW14 (own_ne HOX2_13.out HBv1_13.out (by decide)) HOX2_13
      have HOY2_14 := hsetR hW14 (own_ne HOY2_13.out HBv1_13.out (by decide)) HOY2_13
      have HOG2_14 := hsetR hW14 (own_ne HOG2_13.out HBv1_13.out (by decide)) HOG2_13
      have HBv2_14 := hset hW14 HNv1v2.out.symm HBv2_13
      have EU_14 : Hid (CurAt w14 c a len cap) := by show CurAt _ _ _ _ _; rw [hW14]; exact cur_set EU_13.out HNCv1.out _ _
      have HBv1_14 : Hid ((w14).heap[qv1]? = some (.cells #[.string x4, .slice oX2 xs2.length pX2, .slice oY2 ys2.length pY2, .int .i64 st2, .slice oG2 fs2.length pG2, .string d2, .int .i64 0] 31)) := by show _ = _; rw [hW14]; have h := heap_set _ _ 5 _ _ _ (.string d2) HBv1_13.out; simpa using h
      clear hb13 HOX2_13 HOY2_13 HOG2_13 HBv1_13 HBv2_13 EU_13 hW14
      obtain ⟨w15, hW15⟩ : ∃ W, W = (w14).setCell ⟨qv1, 6, none⟩ (.int .i64 t2) := ⟨_, rfl⟩
      rw [← hW15]
      have hb15 : w.grownBy w15 (some c) := by rw [hW15]; exact (grown_own hb14 HGv1.out 6 _)
      have HM15 : Hid ((w14).heap.size ≤ w15.heap.size) := by show _ ≤ _; rw [hW15]; simp
      have HOX2_15 := hsetR hW15 (own_ne HOX2_14.out HBv1_14.out (by decide)) HOX2_14
      have HOY2_15 := hsetR hW15 (own_ne HOY2_14.out HBv1_14.out (by decide)) HOY2_14
      have HOG2_15 := hsetR hW15 (own_ne HOG2_14.out HBv1_14.out (by decide)) HOG2_14
      have HBv2_15 := hset hW15 HNv1v2.out.symm HBv2_14
      have EU_15 : Hid (CurAt w15 c a len cap) := by show CurAt _ _ _ _ _; rw [hW15]; exact cur_set EU_14.out HNCv1.out _ _
      have HBv1_15 : Hid ((w15).heap[qv1]? = some (.cells #[.string x4, .slice oX2 xs2.length pX2, .slice oY2 ys2.length pY2, .int .i64 st2, .slice oG2 fs2.length pG2, .string d2, .int .i64 t2] 31)) := by show _ = _; rw [hW15]; have h := heap_set _ _ 6 _ _ _ (.int .i64 t2) HBv1_14.out; simpa using h
      clear hb14 HOX2_14 HOY2_14 HOG2_14 HBv1_14 HBv2_14 EU_14 hW15
      have kv1_0 : (w15).cell? ⟨qv1, 0, none⟩ = some (.string x4) := (cell_of HBv1_15.out 0).trans rfl
      have kv1_1 : (w15).cell? ⟨qv1, 1, none⟩ = some (.slice oX2 xs2.length pX2) := (cell_of HBv1_15.out 1).trans rfl
      have kv1_2 : (w15).cell? ⟨qv1, 2, none⟩ = some (.slice oY2 ys2.length pY2) := (cell_of HBv1_15.out 2).trans rfl
      have kv1_3 : (w15).cell? ⟨qv1, 3, none⟩ = some (.int .i64 st2) := (cell_of HBv1_15.out 3).trans rfl
      have kv1_4 : (w15).cell? ⟨qv1, 4, none⟩ = some (.slice oG2 fs2.length pG2) := (cell_of HBv1_15.out 4).trans rfl
      have kv1_5 : (w15).cell? ⟨qv1, 5, none⟩ = some (.string d2) := (cell_of HBv1_15.out 5).trans rfl
      have kv1_6 : (w15).cell? ⟨qv1, 6, none⟩ = some (.int .i64 t2) := (cell_of HBv1_15.out 6).trans rfl
      refine bodyPost_ret (v := .agg #[.string x4, .slice oX2 xs2.length pX2, .slice oY2 ys2.length pY2, .int .i64 st2, .slice oG2 fs2.length pG2, .string d2, .int .i64 t2]) (by simp [results, Tryz.results34, go_sem, kv1_0, kv1_1, kv1_2, kv1_3, kv1_4, kv1_5, kv1_6]) rfl ?_
      exact ⟨_, _, _, _, _, _, _, _, _, _, rfl, ⟨HOX2_15.out, HOY2_15.out, HOG2_15.out⟩, ⟨HXx4.out, HSM2.out.1.2.1, HSM2.out.1.2.2.1, HSM2.out.1.2.2.2.1, HSM2.out.1.2.2.2.2.1, HSM2.out.1.2.2.2.2.2⟩, EU_15.out, hb15⟩
    · have hc2b : ((n3 : Int) == (1 : Int)) = false := by simpa using hc2
      have hc2n : ((n3 : Int) != (1 : Int)) = true := by simpa using hc2
      have hc2H : Hid (¬ (n3 = 1)) := hc2
      clear hc2
      by_cases hc3 : n3 = 2
      · have hc3b : ((n3 : Int) == (2 : Int)) = true := by simpa using hc3
        have hc3n : ((n3 : Int) != (2 : Int)) = false := by simpa using hc3
        have hc3H : Hid (n3 = 2) := hc3
        clear hc3
        have cv2_2 : (w5).cell? ⟨qv2, 2, none⟩ = some (.slice oY2 ys2.length pY2) := (cell_of HBv2_5.out 2).trans rfl
        have hown := HOY2_5.out
        have h63 : ys2.length + 1 ≤ maxLen := by unfold maxLen; omega
        have h47 : (ys2.length + 1) * 16 ≤ 140737488355328 := by omega
        have HBS : ∀ o, w.heap.size ≤ (w5.alloc o).heap.size := fun o => by have := hb5.size; simp; omega
        go_wp2_with (at_builtin; refine wpList_append_own _ rfl _ _ 27 rfl w.heap.size 9 i0 (.string ⟨#[]⟩) 1 16 Tryz.underlying27 hi hz0 hz1 hz2 rfl (by decide) _ _ _ rfl (hown.alloc _) ⟨w5.heap.size, 0, none⟩ 1 1 [.string ⟨#[118]⟩] rfl rfl (cell_one_new _ _ _) (one_text _) h63 h47 (HBS _) ?_)
        intro v1 w6 hown2 hgrow _
        have bA : Below w5.heap.size w5 (w5.alloc (.cells #[.string ⟨#[118]⟩] 9)) := (Below.refl _ _).alloc (Nat.le_refl _) _
        have rowGe : ∀ g, (.slice oY2 ys2.length pY2 : Value).ownBlock = some g → w.heap.size ≤ g := fun g hg => owns_ge hown hg
        clear cv2_2
        have hb6 : w.grownBy w6 (some c) := grown_row (grown_then hb5 (grown_below bA _)) hgrow rowGe
        have HM6 : Hid ((w5).heap.size ≤ w6.heap.size) := Nat.le_trans bA.size hgrow.size
        have HOX2_6 : Hid ((w6).ownsRow w.heap.size 9 1 (.slice oX2 xs2.length pX2) xs2.length (xs2.map Value.string)) := owns_same HOX2_5.out (fun g hg => (hgrow.block g (Nat.lt_of_lt_of_le (owns_lt HOX2_5.out hg) bA.size) (fun e => ((AP2.out) g hg) e.symm)).trans (bA.block g (owns_lt HOX2_5.out hg)))
        have HOG2_6 : Hid ((w6).ownsRow w.heap.size 74 2 (.slice oG2 fs2.length pG2) fs2.length (flatF fs2)) := owns_same HOG2_5.out (fun g hg => (hgrow.block g (Nat.lt_of_lt_of_le (owns_lt HOG2_5.out hg) bA.size) (fun e => (own_type_ne HOG2_5.out HOY2_5.out (by decide) g hg) e.symm)).trans (bA.block g (owns_lt HOG2_5.out hg)))
        have HBv1_6 : Hid ((w6).heap[qv1]? = some (.cells #[.string ⟨#[]⟩, .slice none 0 0, .slice none 0 0, .int .i64 0, .slice none 0 0, .string ⟨#[]⟩, .int .i64 0] 31)) := (hgrow.block _ (Nat.lt_of_lt_of_le (Array.getElem?_eq_some_iff.1 HBv1_5.out).1 bA.size) (fun e => own_ne hown HBv1_5.out (by decide) _ e.symm rfl)).trans (blk_below HBv1_5.out bA)
        have HBv2_6 : Hid ((w6).heap[qv2]? = some (.cells #[.string p2, .slice oX2 xs2.length pX2, .slice oY2 ys2.length pY2, .int .i64 st2, .slice oG2 fs2.length pG2, .string d2, .int .i64 t2] 31)) := (hgrow.block _ (Nat.lt_of_lt_of_le (Array.getElem?_eq_some_iff.1 HBv2_5.out).1 bA.size) (fun e => own_ne hown HBv2_5.out (by decide) _ e.symm rfl)).trans (blk_below HBv2_5.out bA)
        have EU_6 : Hid (CurAt w6 c a len cap) := (EU_5.out.below bA EU_5.out.lt).grown hgrow (fun e => own_cur hown EU_5.out (by decide) _ e rfl)
        obtain ⟨oY2p, pY2p, rfl⟩ := slice_of_owns hown2
        have HOY2p_6 : Hid ((w6).ownsRow w.heap.size 9 1 (.slice oY2p (ys2.length + 1) pY2p) (ys2.length + 1) ((ys2.map Value.string) ++ [.string ⟨#[118]⟩])) := hown2
        clear hb5 HOX2_5 HOY2_5 HOG2_5 HBv1_5 HBv2_5 EU_5 hown h63 h47 HBS hown2 hgrow bA rowGe
        have cv2_2 : (w6).cell? ⟨qv2, 2, none⟩ = some (.slice oY2 ys2.length pY2) := (cell_of HBv2_6.out 2).trans rfl
        have fcv2_2 : (w6).frozen? ⟨qv2, 2, none⟩ = false := frozen_of HBv2_6.out 2
        go_upto_region 13 with fail
        obtain ⟨w7, hW7⟩ : ∃ W, W = (w6).setCell ⟨qv2, 2, none⟩ (.slice oY2p (ys2.length + 1) pY2p) := ⟨_, rfl⟩
        rw [← hW7]
        have hb7 : w.grownBy w7 (some c) := by rw [hW7]; exact (grown_own hb6 HGv2.out 2 _)
        have HM7 : Hid ((w6).heap.size ≤ w7.heap.size) := by show _ ≤ _; rw [hW7]; simp
        have HOX2_7 := hsetR hW7 (own_ne HOX2_6.out HBv2_6.out (by decide)) HOX2_6
        have HOG2_7 := hsetR hW7 (own_ne HOG2_6.out HBv2_6.out (by decide)) HOG2_6
        have HOY2p_7 := hsetR hW7 (own_ne HOY2p_6.out HBv2_6.out (by decide)) HOY2p_6
        have HBv1_7 := hset hW7 HNv1v2.out HBv1_6
        have EU_7 : Hid (CurAt w7 c a len cap) := by show CurAt _ _ _ _ _; rw [hW7]; exact cur_set EU_6.out HNCv2.out _ _
        have HBv2_7 : Hid ((w7).heap[qv2]? = some (.cells #[.string p2, .slice oX2 xs2.length pX2, .slice oY2p (ys2.length + 1) pY2p, .int .i64 st2, .slice oG2 fs2.length pG2, .string d2, .int .i64 t2] 31)) := by show _ = _; rw [hW7]; have h := heap_set _ _ 2 _ _ _ (.slice oY2p (ys2.length + 1) pY2p) HBv2_6.out; simpa using h
        clear hb6 HOX2_6 HOG2_6 HOY2p_6 HBv1_6 HBv2_6 EU_6 hW7
        clear cv2_2 fcv2_2
        have cv1_0 : (w7).cell? ⟨qv1, 0, none⟩ = some (.string ⟨#[]⟩) := (cell_of HBv1_7.out 0).trans rfl
        have fcv1_0 : (w7).frozen? ⟨qv1, 0, none⟩ = false := frozen_of HBv1_7.out 0
        have cv1_1 : (w7).cell? ⟨qv1, 1, none⟩ = some (.slice none 0 0) := (cell_of HBv1_7.out 1).trans rfl
        have fcv1_1 : (w7).frozen? ⟨qv1, 1, none⟩ = false := frozen_of HBv1_7.out 1
        have cv1_2 : (w7).cell? ⟨qv1, 2, none⟩ = some (.slice none 0 0) := (cell_of HBv1_7.out 2).trans rfl
        have fcv1_2 : (w7).frozen? ⟨qv1, 2, none⟩ = false := frozen_of HBv1_7.out 2
        have cv1_3 : (w7).cell? ⟨qv1, 3, none⟩ = some (.int .i64 0) := (cell_of HBv1_7.out 3).trans rfl
        have fcv1_3 : (w7).frozen? ⟨qv1, 3, none⟩ = false := frozen_of HBv1_7.out 3
        have cv1_4 : (w7).cell? ⟨qv1, 4, none⟩ = some (.slice none 0 0) := (cell_of HBv1_7.out 4).trans rfl
        have fcv1_4 : (w7).frozen? ⟨qv1, 4, none⟩ = false := frozen_of HBv1_7.out 4
        have cv1_5 : (w7).cell? ⟨qv1, 5, none⟩ = some (.string ⟨#[]⟩) := (cell_of HBv1_7.out 5).trans rfl
        have fcv1_5 : (w7).frozen? ⟨qv1, 5, none⟩ = false := frozen_of HBv1_7.out 5
        have cv1_6 : (w7).cell? ⟨qv1, 6, none⟩ = some (.int .i64 0) := (cell_of HBv1_7.out 6).trans rfl
        have fcv1_6 : (w7).frozen? ⟨qv1, 6, none⟩ = false := frozen_of HBv1_7.out 6
        have cv2_0 : (w7).cell? ⟨qv2, 0, none⟩ = some (.string p2) := (cell_of HBv2_7.out 0).trans rfl
        have cv2_1 : (w7).cell? ⟨qv2, 1, none⟩ = some (.slice oX2 xs2.length pX2) := (cell_of HBv2_7.out 1).trans rfl
        have cv2_2 : (w7).cell? ⟨qv2, 2, none⟩ = some (.slice oY2p (ys2.length + 1) pY2p) := (cell_of HBv2_7.out 2).trans rfl
        have cv2_3 : (w7).cell? ⟨qv2, 3, none⟩ = some (.int .i64 st2) := (cell_of HBv2_7.out 3).trans rfl
        have cv2_4 : (w7).cell? ⟨qv2, 4, none⟩ = some (.slice oG2 fs2.length pG2) := (cell_of HBv2_7.out 4).trans rfl
        have cv2_5 : (w7).cell? ⟨qv2, 5, none⟩ = some (.string d2) := (cell_of HBv2_7.out 5).trans rfl
        have cv2_6 : (w7).cell? ⟨qv2, 6, none⟩ = some (.int .i64 t2) := (cell_of HBv2_7.out 6).trans rfl
        go_wp2_with fail
        obtain ⟨w8, hW8⟩ : ∃ W, W = (w7).setCell ⟨qv1, 0, none⟩ (.string p2) := ⟨_, rfl⟩
        rw [← hW8]
        have hb8 : w.grownBy w8 (some c) := by rw [hW8]; exact (grown_own hb7 HGv1.out 0 _)
        have HM8 : Hid ((w7).heap.size ≤ w8.heap.size) := by show _ ≤ _; rw [hW8]; simp
        have HOX2_8 := hsetR hW8 (own_ne HOX2_7.out HBv1_7.out (by decide)) HOX2_7
        have HOG2_8 := hsetR hW8 (own_ne HOG2_7.out HBv1_7.out (by decide)) HOG2_7
        have HOY2p_8 := hsetR hW8 (own_ne HOY2p_7.out HBv1_7.out (by decide)) HOY2p_7
        have HBv2_8 := hset hW8 HNv1v2.out.symm HBv2_7
        have EU_8 : Hid (CurAt w8 c a len cap) := by show CurAt _ _ _ _ _; rw [hW8]; exact cur_set EU_7.out HNCv1.out _ _
        have HBv1_8 : Hid ((w8).heap[qv1]? = some (.cells #[.string p2, .slice none 0 0, .slice none 0 0, .int .i64 0, .slice none 0 0, .string ⟨#[]⟩, .int .i64 0] 31)) := by show _ = _; rw [hW8]; have h := heap_set _ _ 0 _ _ _ (.string p2) HBv1_7.out; simpa using h
        clear hb7 HOX2_7 HOG2_7 HOY2p_7 HBv1_7 HBv2_7 EU_7 hW8
        obtain ⟨w9, hW9⟩ : ∃ W, W = (w8).setCell ⟨qv1, 1, none⟩ (.slice oX2 xs2.length pX2) := ⟨_, rfl⟩
        rw [← hW9]
        have hb9 : w.grownBy w9 (some c) := by rw [hW9]; exact (grown_own hb8 HGv1.out 1 _)
        have HM9 : Hid ((w8).heap.size ≤ w9.heap.size) := by show _ ≤ _; rw [hW9]; simp
        have HOX2_9 := hsetR hW9 (own_ne HOX2_8.out HBv1_8.out (by decide)) HOX2_8
        have HOG2_9 := hsetR hW9 (own_ne HOG2_8.out HBv1_8.out (by decide)) HOG2_8
        have HOY2p_9 := hsetR hW9 (own_ne HOY2p_8.out HBv1_8.out (by decide)) HOY2p_8
        have HBv2_9 := hset hW9 HNv1v2.out.symm HBv2_8
        have EU_9 : Hid (CurAt w9 c a len cap) := by show CurAt _ _ _ _ _; rw [hW9]; exact cur_set EU_8.out HNCv1.out _ _
        have HBv1_9 : Hid ((w9).heap[qv1]? = some (.cells #[.string p2, .slice oX2 xs2.length pX2, .slice none 0 0, .int .i64 0, .slice none 0 0, .string ⟨#[]⟩, .int .i64 0] 31)) := by show _ = _; rw [hW9]; have h := heap_set _ _ 1 _ _ _ (.slice oX2 xs2.length pX2) HBv1_8.out; simpa using h
        clear hb8 HOX2_8 HOG2_8 HOY2p_8 HBv1_8 HBv2_8 EU_8 hW9
        obtain ⟨w10, hW10⟩ : ∃ W, W = (w9).setCell ⟨qv1, 2, none⟩ (.slice oY2p (ys2.length + 1) pY2p) := ⟨_, rfl⟩
        rw [← hW10]
        have hb10 : w.grownBy w10 (some c) := by rw [hW10]; exact (grown_own hb9 HGv1.out 2 _)
        have HM10 : Hid ((w9).heap.size ≤ w10.heap.size) := by show _ ≤ _; rw [hW10]; simp
        have HOX2_10 := hsetR hW10 (own_ne HOX2_9.out HBv1_9.out (by decide)) HOX2_9
        have HOG2_10 := hsetR hW10 (own_ne HOG2_9.out HBv1_9.out (by decide)) HOG2_9
        have HOY2p_10 := hsetR hW10 (own_ne HOY2p_9.out HBv1_9.out (by decide)) HOY2p_9
        have HBv2_10 := hset hW10 HNv1v2.out.symm HBv2_9
        have EU_10 : Hid (CurAt w10 c a len cap) := by show CurAt _ _ _ _ _; rw [hW10]; exact cur_set EU_9.out HNCv1.out _ _
        have HBv1_10 : Hid ((w10).heap[qv1]? = some (.cells #[.string p2, .slice oX2 xs2.length pX2, .slice oY2p (ys2.length + 1) pY2p, .int .i64 0, .slice none 0 0, .string ⟨#[]⟩, .int .i64 0] 31)) := by show _ = _; rw [hW10]; have h := heap_set _ _ 2 _ _ _ (.slice oY2p (ys2.length + 1) pY2p) HBv1_9.out; simpa using h
        clear hb9 HOX2_9 HOG2_9 HOY2p_9 HBv1_9 HBv2_9 EU_9 hW10
        obtain ⟨w11, hW11⟩ : ∃ W, W = (w10).setCell ⟨qv1, 3, none⟩ (.int .i64 st2) := ⟨_, rfl⟩
        rw [← hW11]
        have hb11 : w.grownBy w11 (some c) := by rw [hW11]; exact (grown_own hb10 HGv1.out 3 _)
        have HM11 : Hid ((w10).heap.size ≤ w11.heap.size) := by show _ ≤ _; rw [hW11]; simp
        have HOX2_11 := hsetR hW11 (own_ne HOX2_10.out HBv1_10.out (by decide)) HOX2_10
        have HOG2_11 := hsetR hW11 (own_ne HOG2_10.out HBv1_10.out (by decide)) HOG2_10
        have HOY2p_11 := hsetR hW11 (own_ne HOY2p_10.out HBv1_10.out (by decide)) HOY2p_10
        have HBv2_11 := hset hW11 HNv1v2.out.symm HBv2_10
        have EU_11 : Hid (CurAt w11 c a len cap) := by show CurAt _ _ _ _ _; rw [hW11]; exact cur_set EU_10.out HNCv1.out _ _
        have HBv1_11 : Hid ((w11).heap[qv1]? = some (.cells #[.string p2, .slice oX2 xs2.length pX2, .slice oY2p (ys2.length + 1) pY2p, .int .i64 st2, .slice none 0 0, .string ⟨#[]⟩, .int .i64 0] 31)) := by show _ = _; rw [hW11]; have h := heap_set _ _ 3 _ _ _ (.int .i64 st2) HBv1_10.out; simpa using h
        clear hb10 HOX2_10 HOG2_10 HOY2p_10 HBv1_10 HBv2_10 EU_10 hW11
        obtain ⟨w12, hW12⟩ : ∃ W, W = (w11).setCell ⟨qv1, 4, none⟩ (.slice oG2 fs2.length pG2) := ⟨_, rfl⟩
        rw [← hW12]
        have hb12 : w.grownBy w12 (some c) := by rw [hW12]; exact (grown_own hb11 HGv1.out 4 _)
        have HM12 : Hid ((w11).heap.size ≤ w12.heap.size) := by show _ ≤ _; rw [hW12]; simp
        have HOX2_12 := hsetR hW12 (own_ne HOX2_11.out HBv1_11.out (by decide)) HOX2_11
        have HOG2_12 := hsetR hW12 (own_ne HOG2_11.out HBv1_11.out (by decide)) HOG2_11
        have HOY2p_12 := hsetR hW12 (own_ne HOY2p_11.out HBv1_11.out (by decide)) HOY2p_11
        have HBv2_12 := hset hW12 HNv1v2.out.symm HBv2_11
        have EU_12 : Hid (CurAt w12 c a len cap) := by show CurAt _ _ _ _ _; rw [hW12]; exact cur_set EU_11.out HNCv1.out _ _
        have HBv1_12 : Hid ((w12).heap[qv1]? = some (.cells #[.string p2, .slice oX2 xs2.length pX2, .slice oY2p (ys2.length + 1) pY2p, .int .i64 st2, .slice oG2 fs2.length pG2, .string ⟨#[]⟩, .int .i64 0] 31)) := by show _ = _; rw [hW12]; have h := heap_set _ _ 4 _ _ _ (.slice oG2 fs2.length pG2) HBv1_11.out; simpa using h
        clear hb11 HOX2_11 HOG2_11 HOY2p_11 HBv1_11 HBv2_11 EU_11 hW12
        obtain ⟨w13, hW13⟩ : ∃ W, W = (w12).setCell ⟨qv1, 5, none⟩ (.string d2) := ⟨_, rfl⟩
        rw [← hW13]
        have hb13 : w.grownBy w13 (some c) := by rw [hW13]; exact (grown_own hb12 HGv1.out 5 _)
        have HM13 : Hid ((w12).heap.size ≤ w13.heap.size) := by show _ ≤ _; rw [hW13]; simp
        have HOX2_13 := hsetR hW13 (own_ne HOX2_12.out HBv1_12.out (by decide)) HOX2_12
        have HOG2_13 := hsetR hW13 (own_ne HOG2_12.out HBv1_12.out (by decide)) HOG2_12
        have HOY2p_13 := hsetR hW13 (own_ne HOY2p_12.out HBv1_12.out (by decide)) HOY2p_12
        have HBv2_13 := hset hW13 HNv1v2.out.symm HBv2_12
        have EU_13 : Hid (CurAt w13 c a len cap) := by show CurAt _ _ _ _ _; rw [hW13]; exact cur_set EU_12.out HNCv1.out _ _
        have HBv1_13 : Hid ((w13).heap[qv1]? = some (.cells #[.string p2, .slice oX2 xs2.length pX2, .slice oY2p (ys2.length + 1) pY2p, .int .i64 st2, .slice oG2 fs2.length pG2, .string d2, .int .i64 0] 31)) := by show _ = _; rw [hW13]; have h := heap_set _ _ 5 _ _ _ (.string d2) HBv1_12.out; simpa using h
        clear hb12 HOX2_12 HOG2_12 HOY2p_12 HBv1_12 HBv2_12 EU_12 hW13
        obtain ⟨w14, hW14⟩ : ∃ W, W = (w13).setCell ⟨qv1, 6, none⟩ (.int .i64 t2) := ⟨_, rfl⟩
        rw [← hW14]
        have hb14 : w.grownBy w14 (some c) := by rw [hW14]; exact (grown_own hb13 HGv1.out 6 _)
        have HM14 : Hid ((w13).heap.size ≤ w14.heap.size) := by show _ ≤ _; rw [hW14]; simp
        have HOX2_14 := hsetR hW14 (own_ne HOX2_13.out HBv1_13.out (by decide)) HOX2_13
        have HOG2_14 := hsetR hW14 (own_ne HOG2_13.out HBv1_13.out (by decide)) HOG2_13
        have HOY2p_14 := hsetR hW14 (own_ne HOY2p_13.out HBv1_13.out (by decide)) HOY2p_13
        have HBv2_14 := hset hW14 HNv1v2.out.symm HBv2_13
        have EU_14 : Hid (CurAt w14 c a len cap) := by show CurAt _ _ _ _ _; rw [hW14]; exact cur_set EU_13.out HNCv1.out _ _
        have HBv1_14 : Hid ((w14).heap[qv1]? = some (.cells #[.string p2, .slice oX2 xs2.length pX2, .slice oY2p (ys2.length + 1) pY2p, .int .i64 st2, .slice oG2 fs2.length pG2, .string d2, .int .i64 t2] 31)) := by show _ = _; rw [hW14]; have h := heap_set _ _ 6 _ _ _ (.int .i64 t2) HBv1_13.out; simpa using h
        clear hb13 HOX2_13 HOG2_13 HOY2p_13 HBv1_13 HBv2_13 EU_13 hW14
        have kv1_0 : (w14).cell? ⟨qv1, 0, none⟩ = some (.string p2) := (cell_of HBv1_14.out 0).trans rfl
        have kv1_1 : (w14).cell? ⟨qv1, 1, none⟩ = some (.slice oX2 xs2.length pX2) := (cell_of HBv1_14.out 1).trans rfl
        have kv1_2 : (w14).cell? ⟨qv1, 2, none⟩ = some (.slice oY2p (ys2.length + 1) pY2p) := (cell_of HBv1_14.out 2).trans rfl
        have kv1_3 : (w14).cell? ⟨qv1, 3, none⟩ = some (.int .i64 st2) := (cell_of HBv1_14.out 3).trans rfl
        have kv1_4 : (w14).cell? ⟨qv1, 4, none⟩ = some (.slice oG2 fs2.length pG2) := (cell_of HBv1_14.out 4).trans rfl
        have kv1_5 : (w14).cell? ⟨qv1, 5, none⟩ = some (.string d2) := (cell_of HBv1_14.out 5).trans rfl
        have kv1_6 : (w14).cell? ⟨qv1, 6, none⟩ = some (.int .i64 t2) := (cell_of HBv1_14.out 6).trans rfl
        refine bodyPost_ret (v := .agg #[.string p2, .slice oX2 xs2.length pX2, .slice oY2p (ys2.length + 1) pY2p, .int .i64 st2, .slice oG2 fs2.length pG2, .string d2, .int .i64 t2]) (by simp [results, Tryz.results34, go_sem, kv1_0, kv1_1, kv1_2, kv1_3, kv1_4, kv1_5, kv1_6]) rfl ?_
        exact ⟨_, _, _, _, (ys2 ++ [⟨#[118]⟩]), _, _, _, _, _, rfl, ⟨HOX2_14.out, (by rw [List.length_append, List.map_append]; exact HOY2p_14.out), HOG2_14.out⟩, ⟨HSM2.out.1.1, HSM2.out.1.2.1, ⟨by rw [List.length_append]; exact Nat.succ_le_succ HSM2.out.2.2.1, fun z hz => by rcases List.mem_append.1 hz with hz | hz; exact HSM2.out.1.2.2.1.2 z hz; rw [List.mem_singleton.1 hz]; decide⟩, HSM2.out.1.2.2.2.1, HSM2.out.1.2.2.2.2.1, HSM2.out.1.2.2.2.2.2⟩, EU_14.out, hb14⟩
      · have hc3b : ((n3 : Int) == (2 : Int)) = false := by simpa using hc3
        have hc3n : ((n3 : Int) != (2 : Int)) = true := by simpa using hc3
        have hc3H : Hid (¬ (n3 = 2)) := hc3
        clear hc3
        by_cases hc4 : n3 = 3
        · have hc4b : ((n3 : Int) == (3 : Int)) = true := by simpa using hc4
          have hc4n : ((n3 : Int) != (3 : Int)) = false := by simpa using hc4
          have hc4H : Hid (n3 = 3) := hc4
          clear hc4
          have cv2_1 : (w5).cell? ⟨qv2, 1, none⟩ = some (.slice oX2 xs2.length pX2) := (cell_of HBv2_5.out 1).trans rfl
          have hown := HOX2_5.out
          have h63 : xs2.length + 1 ≤ maxLen := by unfold maxLen; omega
          have h47 : (xs2.length + 1) * 16 ≤ 140737488355328 := by omega
          have HBS : ∀ o, w.heap.size ≤ (w5.alloc o).heap.size := fun o => by have := hb5.size; simp; omega
          go_wp2_with (at_builtin; refine wpList_append_own _ rfl _ _ 27 rfl w.heap.size 9 i0 (.string ⟨#[]⟩) 1 16 Tryz.underlying27 hi hz0 hz1 hz2 rfl (by decide) _ _ _ rfl (hown.alloc _) ⟨w5.heap.size, 0, none⟩ 1 1 [.string ⟨#[108, 97, 110, 103]⟩] rfl rfl (cell_one_new _ _ _) (one_text _) h63 h47 (HBS _) ?_)
          intro v1 w6 hown2 hgrow _
          have bA : Below w5.heap.size w5 (w5.alloc (.cells #[.string ⟨#[108, 97, 110, 103]⟩] 9)) := (Below.refl _ _).alloc (Nat.le_refl _) _
          have rowGe : ∀ g, (.slice oX2 xs2.length pX2 : Value).ownBlock = some g → w.heap.size ≤ g := fun g hg => owns_ge hown hg
          clear cv2_1
          have hb6 : w.grownBy w6 (some c) := grown_row (grown_then hb5 (grown_below bA _)) hgrow rowGe
          have HM6 : Hid ((w5).heap.size ≤ w6.heap.size) := Nat.le_trans bA.size hgrow.size
          have HOY2_6 : Hid ((w6).ownsRow w.heap.size 9 1 (.slice oY2 ys2.length pY2) ys2.length (ys2.map Value.string)) := owns_same HOY2_5.out (fun g hg => (hgrow.block g (Nat.lt_of_lt_of_le (owns_lt HOY2_5.out hg) bA.size) (fun e => (fun e => AP2.out g e hg) e.symm)).trans (bA.block g (owns_lt HOY2_5.out hg)))
          have HOG2_6 : Hid ((w6).ownsRow w.heap.size 74 2 (.slice oG2 fs2.length pG2) fs2.length (flatF fs2)) := owns_same HOG2_5.out (fun g hg => (hgrow.block g (Nat.lt_of_lt_of_le (owns_lt HOG2_5.out hg) bA.size) (fun e => (own_type_ne HOG2_5.out HOX2_5.out (by decide) g hg) e.symm)).trans (bA.block g (owns_lt HOG2_5.out hg)))
          have HBv1_6 : Hid ((w6).heap[qv1]? = some (.cells #[.string ⟨#[]⟩, .slice none 0 0, .slice none 0 0, .int .i64 0, .slice none 0 0, .string ⟨#[]⟩, .int .i64 0] 31)) := (hgrow.block _ (Nat.lt_of_lt_of_le (Array.getElem?_eq_some_iff.1 HBv1_5.out).1 bA.size) (fun e => own_ne hown HBv1_5.out (by decide) _ e.symm rfl)).trans (blk_below HBv1_5.out bA)
          have HBv2_6 : Hid ((w6).heap[qv2]? = some (.cells #[.string p2, .slice oX2 xs2.length pX2, .slice oY2 ys2.length pY2, .int .i64 st2, .slice oG2 fs2.length pG2, .string d2, .int .i64 t2] 31)) := (hgrow.block _ (Nat.lt_of_lt_of_le (Array.getElem?_eq_some_iff.1 HBv2_5.out).1 bA.size) (fun e => own_ne hown HBv2_5.out (by decide) _ e.symm rfl)).trans (blk_below HBv2_5.out bA)
          have EU_6 : Hid (CurAt w6 c a len cap) := (EU_5.out.below bA EU_5.out.lt).grown hgrow (fun e => own_cur hown EU_5.out (by decide) _ e rfl)
          obtain ⟨oX2p, pX2p, rfl⟩ := slice_of_owns hown2
          have HOX2p_6 : Hid ((w6).ownsRow w.heap.size 9 1 (.slice oX2p (xs2.length + 1) pX2p) (xs2.length + 1) ((xs2.map Value.string) ++ [.string ⟨#[108, 97, 110, 103]⟩])) := hown2
          clear hb5 HOX2_5 HOY2_5 HOG2_5 HBv1_5 HBv2_5 EU_5 hown h63 h47 HBS hown2 hgrow bA rowGe
          have cv2_1 : (w6).cell? ⟨qv2, 1, none⟩ = some (.slice oX2 xs2.length pX2) := (cell_of HBv2_6.out 1).trans rfl
          have fcv2_1 : (w6).frozen? ⟨qv2, 1, none⟩ = false := frozen_of HBv2_6.out 1
          go_upto_region 13 with fail
          obtain ⟨w7, hW7⟩ : ∃ W, W = (w6).setCell ⟨qv2, 1, none⟩ (.slice oX2p (xs2.length + 1) pX2p) := ⟨_, rfl⟩
          rw [← hW7]
          have hb7 : w.grownBy w7 (some c) := by rw [hW7]; exact (grown_own hb6 HGv2.out 1 _)
          have HM7 : Hid ((w6).heap.size ≤ w7.heap.size) := by show _ ≤ _; rw [hW7]; simp
          have HOY2_7 := hsetR hW7 (own_ne HOY2_6.out HBv2_6.out (by decide)) HOY2_6
          have HOG2_7 := hsetR hW7 (own_ne HOG2_6.out HBv2_6.out (by decide)) HOG2_6
          have HOX2p_7 := hsetR hW7 (own_ne HOX2p_6.out HBv2_6.out (by decide)) HOX2p_6
          have HBv1_7 := hset hW7 HNv1v2.out HBv1_6
          have EU_7 : Hid (CurAt w7 c a len cap) := by show CurAt _ _ _ _ _; rw [hW7]; exact cur_set EU_6.out HNCv2.out _ _
          have HBv2_7 : Hid ((w7).heap[qv2]? = some (.cells #[.string p2, .slice oX2p (xs2.length + 1) pX2p, .slice oY2 ys2.length pY2, .int .i64 st2, .slice oG2 fs2.length pG2, .string d2, .int .i64 t2] 31)) := by show _ = _; rw [hW7]; have h := heap_set _ _ 1 _ _ _ (.slice oX2p (xs2.length + 1) pX2p) HBv2_6.out; simpa using h
          clear hb6 HOY2_6 HOG2_6 HOX2p_6 HBv1_6 HBv2_6 EU_6 hW7
          clear cv2_1 fcv2_1
          have cv1_0 : (w7).cell? ⟨qv1, 0, none⟩ = some (.string ⟨#[]⟩) := (cell_of HBv1_7.out 0).trans rfl
          have fcv1_0 : (w7).frozen? ⟨qv1, 0, none⟩ = false := frozen_of HBv1_7.out 0
          have cv1_1 : (w7).cell? ⟨qv1, 1, none⟩ = some (.slice none 0 0) := (cell_of HBv1_7.out 1).trans rfl
          have fcv1_1 : (w7).frozen? ⟨qv1, 1, none⟩ = false := frozen_of HBv1_7.out 1
          have cv1_2 : (w7).cell? ⟨qv1, 2, none⟩ = some (.slice none 0 0) := (cell_of HBv1_7.out 2).trans rfl
          have fcv1_2 : (w7).frozen? ⟨qv1, 2, none⟩ = false := frozen_of HBv1_7.out 2
          have cv1_3 : (w7).cell? ⟨qv1, 3, none⟩ = some (.int .i64 0) := (cell_of HBv1_7.out 3).trans rfl
          have fcv1_3 : (w7).frozen? ⟨qv1, 3, none⟩ = false := frozen_of HBv1_7.out 3
          have cv1_4 : (w7).cell? ⟨qv1, 4, none⟩ = some (.slice none 0 0) := (cell_of HBv1_7.out 4).trans rfl
          have fcv1_4 : (w7).frozen? ⟨qv1, 4, none⟩ = false := frozen_of HBv1_7.out 4
          have cv1_5 : (w7).cell? ⟨qv1, 5, none⟩ = some (.string ⟨#[]⟩) := (cell_of HBv1_7.out 5).trans rfl
          have fcv1_5 : (w7).frozen? ⟨qv1, 5, none⟩ = false := frozen_of HBv1_7.out 5
          have cv1_6 : (w7).cell? ⟨qv1, 6, none⟩ = some (.int .i64 0) := (cell_of HBv1_7.out 6).trans rfl
          have fcv1_6 : (w7).frozen? ⟨qv1, 6, none⟩ = false := frozen_of HBv1_7.out 6
          have cv2_0 : (w7).cell? ⟨qv2, 0, none⟩ = some (.string p2) := (cell_of HBv2_7.out 0).trans rfl
          have cv2_1 : (w7).cell? ⟨qv2, 1, none⟩ = some (.slice oX2p (xs2.length + 1) pX2p) := (cell_of HBv2_7.out 1).trans rfl
          have cv2_2 : (w7).cell? ⟨qv2, 2, none⟩ = some (.slice oY2 ys2.length pY2) := (cell_of HBv2_7.out 2).trans rfl
          have cv2_3 : (w7).cell? ⟨qv2, 3, none⟩ = some (.int .i64 st2) := (cell_of HBv2_7.out 3).trans rfl
          have cv2_4 : (w7).cell? ⟨qv2, 4, none⟩ = some (.slice oG2 fs2.length pG2) := (cell_of HBv2_7.out 4).trans rfl
          have cv2_5 : (w7).cell? ⟨qv2, 5, none⟩ = some (.string d2) := (cell_of HBv2_7.out 5).trans rfl
          have cv2_6 : (w7).cell? ⟨qv2, 6, none⟩ = some (.int .i64 t2) := (cell_of HBv2_7.out 6).trans rfl
          go_wp2_with fail
          obtain ⟨w8, hW8⟩ : ∃ W, W = (w7).setCell ⟨qv1, 0, none⟩ (.string p2) := ⟨_, rfl⟩
          rw [← hW8]
          have hb8 : w.grownBy w8 (some c) := by rw [hW8]; exact (grown_own hb7 HGv1.out 0 _)
          have HM8 : Hid ((w7).heap.size ≤ w8.heap.size) := by show _ ≤ _; rw [hW8]; simp
          have HOY2_8 := hsetR hW8 (own_ne HOY2_7.out HBv1_7.out (by decide)) HOY2_7
          have HOG2_8 := hsetR hW8 (own_ne HOG2_7.out HBv1_7.out (by decide)) HOG2_7
          have HOX2p_8 := hsetR hW8 (own_ne HOX2p_7.out HBv1_7.out (by decide)) HOX2p_7
          have HBv2_8 := hset hW8 HNv1v2.out.symm HBv2_7
          have EU_8 : Hid (CurAt w8 c a len cap) := by show CurAt _ _ _ _ _; rw [hW8]; exact cur_set EU_7.out HNCv1.out _ _
          have HBv1_8 : Hid ((w8).heap[qv1]? = some (.cells #[.string p2, .slice none 0 0, .slice none 0 0, .int .i64 0, .slice none 0 0, .string ⟨#[]⟩, .int .i64 0] 31)) := by show _ = _; rw [hW8]; have h := heap_set _ _ 0 _ _ _ (.string p2) HBv1_7.out; simpa using h
          clear hb7 HOY2_7 HOG2_7 HOX2p_7 HBv1_7 HBv2_7 EU_7 hW8
          obtain ⟨w9, hW9⟩ : ∃ W, W = (w8).setCell ⟨qv1, 1, none⟩ (.slice oX2p (xs2.length + 1) pX2p) := ⟨_, rfl⟩
          rw [← hW9]
          have hb9 : w.grownBy w9 (some c) := by rw [hW9]; exact (grown_own hb8 HGv1.out 1 _)
          have HM9 : Hid ((w8).heap.size ≤ w9.heap.size) := by show _ ≤ _; rw [hW9]; simp
          have HOY2_9 := hsetR hW9 (own_ne HOY2_8.out HBv1_8.out (by decide)) HOY2_8
          have HOG2_9 := hsetR hW9 (own_ne HOG2_8.out HBv1_8.out (by decide)) HOG2_8
          have HOX2p_9 := hsetR hW9 (own_ne HOX2p_8.out HBv1_8.out (by decide)) HOX2p_8
          have HBv2_9 := hset hW9 HNv1v2.out.symm HBv2_8
          have EU_9 : Hid (CurAt w9 c a len cap) := by show CurAt _ _ _ _ _; rw [hW9]; exact cur_set EU_8.out HNCv1.out _ _
          have HBv1_9 : Hid ((w9).heap[qv1]? = some (.cells #[.string p2, .slice oX2p (xs2.length + 1) pX2p, .slice none 0 0, .int .i64 0, .slice none 0 0, .string ⟨#[]⟩, .int .i64 0] 31)) := by show _ = _; rw [hW9]; have h := heap_set _ _ 1 _ _ _ (.slice oX2p (xs2.length + 1) pX2p) HBv1_8.out; simpa using h
          clear hb8 HOY2_8 HOG2_8 HOX2p_8 HBv1_8 HBv2_8 EU_8 hW9
          obtain ⟨w10, hW10⟩ : ∃ W, W = (w9).setCell ⟨qv1, 2, none⟩ (.slice oY2 ys2.length pY2) := ⟨_, rfl⟩
          rw [← hW10]
          have hb10 : w.grownBy w10 (some c) := by rw [hW10]; exact (grown_own hb9 HGv1.out 2 _)
          have HM10 : Hid ((w9).heap.size ≤ w10.heap.size) := by show _ ≤ _; rw [hW10]; simp
          have HOY2_10 := hsetR hW10 (own_ne HOY2_9.out HBv1_9.out (by decide)) HOY2_9
          have HOG2_10 := hsetR hW10 (own_ne HOG2_9.out HBv1_9.out (by decide)) HOG2_9
          have HOX2p_10 := hsetR hW10 (own_ne HOX2p_9.out HBv1_9.out (by decide)) HOX2p_9
          have HBv2_10 := hset hW10 HNv1v2.out.symm HBv2_9
          have EU_10 : Hid (CurAt w10 c a len cap) := by show CurAt _ _ _ _ _; rw [hW10]; exact cur_set EU_9.out HNCv1.out _ _
          have HBv1_10 : Hid ((w10).heap[qv1]? = some (.cells #[.string p2, .slice oX2p (xs2.length + 1) pX2p, .slice oY2 ys2.length pY2, .int .i64 0, .slice none 0 0, .string ⟨#[]⟩, .int .i64 0] 31)) := by show _ = _; rw [hW10]; have h := heap_set _ _ 2 _ _ _ (.slice oY2 ys2.length pY2) HBv1_9.out; simpa using h
          clear hb9 HOY2_9 HOG2_9 HOX2p_9 HBv1_9 HBv2_9 EU_9 hW10
          obtain ⟨w11, hW11⟩ : ∃ W, W = (w10).setCell ⟨qv1, 3, none⟩ (.int .i64 st2) := ⟨_, rfl⟩
          rw [← hW11]
          have hb11 : w.grownBy w11 (some c) := by rw [hW11]; exact (grown_own hb10 HGv1.out 3 _)
          have HM11 : Hid ((w10).heap.size ≤ w11.heap.size) := by show _ ≤ _; rw [hW11]; simp
          have HOY2_11 := hsetR hW11 (own_ne HOY2_10.out HBv1_10.out (by decide)) HOY2_10
          have HOG2_11 := hsetR hW11 (own_ne HOG2_10.out HBv1_10.out (by decide)) HOG2_10
          have HOX2p_11 := hsetR hW11 (own_ne HOX2p_10.out HBv1_10.out (by decide)) HOX2p_10
          have HBv2_11 := hset hW11 HNv1v2.out.symm HBv2_10
          have EU_11 : Hid (CurAt w11 c a len cap) := by show CurAt _ _ _ _ _; rw [hW11]; exact cur_set EU_10.out HNCv1.out _ _
          have HBv1_11 : Hid ((w11).heap[qv1]? = some (.cells #[.string p2, .slice oX2p (xs2.length + 1) pX2p, .slice oY2 ys2.length pY2, .int .i64 st2, .slice none 0 0, .string ⟨#[]⟩, .int .i64 0] 31)) := by show _ = _; rw [hW11]; have h := heap_set _ _ 3 _ _ _ (.int .i64 st2) HBv1_10.out; simpa using h
          clear hb10 HOY2_10 HOG2_10 HOX2p_10 HBv1_10 HBv2_10 EU_10 hW11
          obtain ⟨w12, hW12⟩ : ∃ W, W = (w11).setCell ⟨qv1, 4, none⟩ (.slice oG2 fs2.length pG2) := ⟨_, rfl⟩
          rw [← hW12]
          have hb12 : w.grownBy w12 (some c) := by rw [hW12]; exact (grown_own hb11 HGv1.out 4 _)
          have HM12 : Hid ((w11).heap.size ≤ w12.heap.size) := by show _ ≤ _; rw [hW12]; simp
          have HOY2_12 := hsetR hW12 (own_ne HOY2_11.out HBv1_11.out (by decide)) HOY2_11
          have HOG2_12 := hsetR hW12 (own_ne HOG2_11.out HBv1_11.out (by decide)) HOG2_11
          have HOX2p_12 := hsetR hW12 (own_ne HOX2p_11.out HBv1_11.out (by decide)) HOX2p_11
          have HBv2_12 := hset hW12 HNv1v2.out.symm HBv2_11
          have EU_12 : Hid (CurAt w12 c a len cap) := by show CurAt _ _ _ _ _; rw [hW12]; exact cur_set EU_11.out HNCv1.out _ _
          have HBv1_12 : Hid ((w12).heap[qv1]? = some (.cells #[.string p2, .slice oX2p (xs2.length + 1) pX2p, .slice oY2 ys2.length pY2, .int .i64 st2, .slice oG2 fs2.length pG2, .string ⟨#[]⟩, .int .i64 0] 31)) := by show _ = _; rw [hW12]; have h := heap_set _ _ 4 _ _ _ (.slice oG2 fs2.length pG2) HBv1_11.out; simpa using h
          clear hb11 HOY2_11 HOG2_11 HOX2p_11 HBv1_11 HBv2_11 EU_11 hW12
          obtain ⟨w13, hW13⟩ : ∃ W, W = (w12).setCell ⟨qv1, 5, none⟩ (.string d2) := ⟨_, rfl⟩
          rw [← hW13]
          have hb13 : w.grownBy w13 (some c) := by rw [hW13]; exact (grown_own hb12 HGv1.out 5 _)
          have HM13 : Hid ((w12).heap.size ≤ w13.heap.size) := by show _ ≤ _; rw [hW13]; simp
          have HOY2_13 := hsetR hW13 (own_ne HOY2_12.out HBv1_12.out (by decide)) HOY2_12
          have HOG2_13 := hsetR hW13 (own_ne HOG2_12.out HBv1_12.out (by decide)) HOG2_12
          have HOX2p_13 := hsetR hW13 (own_ne HOX2p_12.out HBv1_12.out (by decide)) HOX2p_12
          have HBv2_13 := hset hW13 HNv1v2.out.symm HBv2_12
          have EU_13 : Hid (CurAt w13 c a len cap) := by show CurAt _ _ _ _ _; rw [hW13]; exact cur_set EU_12.out HNCv1.out _ _
          have HBv1_13 : Hid ((w13).heap[qv1]? = some (.cells #[.string p2, .slice oX2p (xs2.length + 1) pX2p, .slice oY2 ys2.length pY2, .int .i64 st2, .slice oG2 fs2.length pG2, .string d2, .int .i64 0] 31)) := by show _ = _; rw [hW13]; have h := heap_set _ _ 5 _ _ _ (.string d2) HBv1_12.out; simpa using h
          clear hb12 HOY2_12 HOG2_12 HOX2p_12 HBv1_12 HBv2_12 EU_12 hW13
          obtain ⟨w14, hW14⟩ : ∃ W, W = (w13).setCell ⟨qv1, 6, none⟩ (.int .i64 t2) := ⟨_, rfl⟩
          rw [← hW14]
          have hb14 : w.grownBy w14 (some c) := by rw [hW14]; exact (grown_own hb13 HGv1.out 6 _)
          have HM14 : Hid ((w13).heap.size ≤ w14.heap.size) := by show _ ≤ _; rw [hW14]; simp
          have HOY2_14 := hsetR hW14 (own_ne HOY2_13.out HBv1_13.out (by decide)) HOY2_13
          have HOG2_14 := hsetR hW14 (own_ne HOG2_13.out HBv1_13.out (by decide)) HOG2_13
          have HOX2p_14 := hsetR hW14 (own_ne HOX2p_13.out HBv1_13.out (by decide)) HOX2p_13
          have HBv2_14 := hset hW14 HNv1v2.out.symm HBv2_13
          have EU_14 : Hid (CurAt w14 c a len cap) := by show CurAt _ _ _ _ _; rw [hW14]; exact cur_set EU_13.out HNCv1.out _ _
          have HBv1_14 : Hid ((w14).heap[qv1]? = some (.cells #[.string p2, .slice oX2p (xs2.length + 1) pX2p, .slice oY2 ys2.length pY2, .int .i64 st2, .slice oG2 fs2.length pG2, .string d2, .int .i64 t2] 31)) := by show _ = _; rw [hW14]; have h := heap_set _ _ 6 _ _ _ (.int .i64 t2) HBv1_13.out; simpa using h
          clear hb13 HOY2_13 HOG2_13 HOX2p_13 HBv1_13 HBv2_13 EU_13 hW14
          have kv1_0 : (w14).cell? ⟨qv1, 0, none⟩ = some (.string p2) := (cell_of HBv1_14.out 0).trans rfl
          have kv1_1 : (w14).cell? ⟨qv1, 1, none⟩ = some (.slice oX2p (xs2.length + 1) pX2p) := (cell_of HBv1_14.out 1).trans rfl
          have kv1_2 : (w14).cell? ⟨qv1, 2, none⟩ = some (.slice oY2 ys2.length pY2) := (cell_of HBv1_14.out 2).trans rfl
          have kv1_3 : (w14).cell? ⟨qv1, 3, none⟩ = some (.int .i64 st2) := (cell_of HBv1_14.out 3).trans rfl
          have kv1_4 : (w14).cell? ⟨qv1, 4, none⟩ = some (.slice oG2 fs2.length pG2) := (cell_of HBv1_14.out 4).trans rfl
          have kv1_5 : (w14).cell? ⟨qv1, 5, none⟩ = some (.string d2) := (cell_of HBv1_14.out 5).trans rfl
          have kv1_6 : (w14).cell? ⟨qv1, 6, none⟩ = some (.int .i64 t2) := (cell_of HBv1_14.out 6).trans rfl
          refine bodyPost_ret (v := .agg #[.string p2, .slice oX2p (xs2.length + 1) pX2p, .slice oY2 ys2.length pY2, .int .i64 st2, .slice oG2 fs2.length pG2, .string d2, .int .i64 t2]) (by simp [results, Tryz.results34, go_sem, kv1_0, kv1_1, kv1_2, kv1_3, kv1_4, kv1_5, kv1_6]) rfl ?_
          exact ⟨_, _, (xs2 ++ [⟨#[108, 97, 110, 103]⟩]), _, _, _, _, _, _, _, rfl, ⟨(by rw [List.length_append, List.map_append]; exact HOX2p_14.out), HOY2_14.out, HOG2_14.out⟩, ⟨HSM2.out.1.1, ⟨by rw [List.length_append]; exact Nat.succ_le_succ HSM2.out.2.1, fun z hz => by rcases List.mem_append.1 hz with hz | hz; exact HSM2.out.1.2.1.2 z hz; rw [List.mem_singleton.1 hz]; decide⟩, HSM2.out.1.2.2.1, HSM2.out.1.2.2.2.1, HSM2.out.1.2.2.2.2.1, HSM2.out.1.2.2.2.2.2⟩, EU_14.out, hb14⟩
        · have hc4b : ((n3 : Int) == (3 : Int)) = false := by simpa using hc4
          have hc4n : ((n3 : Int) != (3 : Int)) = true := by simpa using hc4
          have hc4H : Hid (¬ (n3 = 3)) := hc4
          clear hc4
          by_cases hc5 : n3 = 4
          · have hc5b : ((n3 : Int) == (4 : Int)) = true := by simpa using hc5
            have hc5n : ((n3 : Int) != (4 : Int)) = false := by simpa using hc5
            have hc5H : Hid (n3 = 4) := hc5
            clear hc5
            go_wp2_with fail
            refine (l3DrawBadResp_any c B a len cap zs _ EU_5.out (HCO.out _ hb5) HBC.out).mono ?_
            rintro e w6 ⟨m4, vv, f4, b4, rfl, hm4, ownR4, hl4, hs4, hbz4, hcu, hg⟩
            obtain ⟨oR4, pR4, rfl⟩ := slice_of_owns ownR4
            have HFR4 : Hid (f4.length ≤ 40 ∧ ShortF f4) := ⟨hl4, hs4⟩
            have HDR4 : Hid (b4.size ≤ 140) := hbz4
            clear hl4 hs4 hm4 hbz4
            have hb6 : w.grownBy w6 (some c) := grown_then hb5 hg
            have HM6 : Hid ((w5).heap.size ≤ (w6).heap.size) := hg.size
            have HOX2_6 : Hid ((w6).ownsRow w.heap.size 9 1 (.slice oX2 xs2.length pX2) xs2.length (xs2.map Value.string)) := owns_same HOX2_5.out (fun g hgg => hg.block g (owns_lt HOX2_5.out hgg) (fun e => own_cur HOX2_5.out EU_5.out (by decide) g hgg (Option.some.inj e)))
            have HOY2_6 : Hid ((w6).ownsRow w.heap.size 9 1 (.slice oY2 ys2.length pY2) ys2.length (ys2.map Value.string)) := owns_same HOY2_5.out (fun g hgg => hg.block g (owns_lt HOY2_5.out hgg) (fun e => own_cur HOY2_5.out EU_5.out (by decide) g hgg (Option.some.inj e)))
            have HOG2_6 : Hid ((w6).ownsRow w.heap.size 74 2 (.slice oG2 fs2.length pG2) fs2.length (flatF fs2)) := owns_same HOG2_5.out (fun g hgg => hg.block g (owns_lt HOG2_5.out hgg) (fun e => own_cur HOG2_5.out EU_5.out (by decide) g hgg (Option.some.inj e)))
            have HBv1_6 : Hid ((w6).heap[qv1]? = some (.cells #[.string ⟨#[]⟩, .slice none 0 0, .slice none 0 0, .int .i64 0, .slice none 0 0, .string ⟨#[]⟩, .int .i64 0] 31)) := (hg.block _ (Array.getElem?_eq_some_iff.1 HBv1_5.out).1 (fun e => HNCv1.out (Option.some.inj e))).trans HBv1_5.out
            have HBv2_6 : Hid ((w6).heap[qv2]? = some (.cells #[.string p2, .slice oX2 xs2.length pX2, .slice oY2 ys2.length pY2, .int .i64 st2, .slice oG2 fs2.length pG2, .string d2, .int .i64 t2] 31)) := (hg.block _ (Array.getElem?_eq_some_iff.1 HBv2_5.out).1 (fun e => HNCv2.out (Option.some.inj e))).trans HBv2_5.out
            have EU_6 : Hid (CurAt w6 c a len cap) := hcu
            have HOR4_6 : Hid ((w6).ownsRow w.heap.size 74 2 (.slice oR4 f4.length pR4) f4.length (flatF f4)) := owns_wide ownR4 hb5.size
            clear ownR4
            clear hb5 HOX2_5 HOY2_5 HOG2_5 HBv1_5 HBv2_5 EU_5 hg hcu
            have cv2_3 : (w6).cell? ⟨qv2, 3, none⟩ = some (.int .i64 st2) := (cell_of HBv2_6.out 3).trans rfl
            have fcv2_3 : (w6).frozen? ⟨qv2, 3, none⟩ = false := frozen_of HBv2_6.out 3
            have cv2_4 : (w6).cell? ⟨qv2, 4, none⟩ = some (.slice oG2 fs2.length pG2) := (cell_of HBv2_6.out 4).trans rfl
            have fcv2_4 : (w6).frozen? ⟨qv2, 4, none⟩ = false := frozen_of HBv2_6.out 4
            have cv2_5 : (w6).cell? ⟨qv2, 5, none⟩ = some (.string d2) := (cell_of HBv2_6.out 5).trans rfl
            have fcv2_5 : (w6).frozen? ⟨qv2, 5, none⟩ = false := frozen_of HBv2_6.out 5
            go_upto_region 13 with fail
            obtain ⟨w7, hW7⟩ : ∃ W, W = (w6).setCell ⟨qv2, 3, none⟩ (.int .i64 m4) := ⟨_, rfl⟩
            rw [← hW7]
            have hb7 : w.grownBy w7 (some c) := by rw [hW7]; exact (grown_own hb6 HGv2.out 3 _)
            have HM7 : Hid ((w6).heap.size ≤ w7.heap.size) := by show _ ≤ _; rw [hW7]; simp
            have HOX2_7 := hsetR hW7 (own_ne HOX2_6.out HBv2_6.out (by decide)) HOX2_6
            have HOY2_7 := hsetR hW7 (own_ne HOY2_6.out HBv2_6.out (by decide)) HOY2_6
            have HOG2_7 := hsetR hW7 (own_ne HOG2_6.out HBv2_6.out (by decide)) HOG2_6
            have HOR4_7 := hsetR hW7 (own_ne HOR4_6.out HBv2_6.out (by decide)) HOR4_6
            have HBv1_7 := hset hW7 HNv1v2.out HBv1_6
            have EU_7 : Hid (CurAt w7 c a len cap) := by show CurAt _ _ _ _ _; rw [hW7]; exact cur_set EU_6.out HNCv2.out _ _
            have HBv2_7 : Hid ((w7).heap[qv2]? = some (.cells #[.string p2, .slice oX2 xs2.length pX2, .slice oY2 ys2.length pY2, .int .i64 m4, .slice oG2 fs2.length pG2, .string d2, .int .i64 t2] 31)) := by show _ = _; rw [hW7]; have h := heap_set _ _ 3 _ _ _ (.int .i64 m4) HBv2_6.out; simpa using h
            clear hb6 HOX2_6 HOY2_6 HOG2_6 HOR4_6 HBv1_6 HBv2_6 EU_6 hW7
            obtain ⟨w8, hW8⟩ : ∃ W, W = (w7).setCell ⟨qv2, 4, none⟩ (.slice oR4 f4.length pR4) := ⟨_, rfl⟩
            rw [← hW8]
            have hb8 : w.grownBy w8 (some c) := by rw [hW8]; exact (grown_own hb7 HGv2.out 4 _)
            have HM8 : Hid ((w7).heap.size ≤ w8.heap.size) := by show _ ≤ _; rw [hW8]; simp
            have HOX2_8 := hsetR hW8 (own_ne HOX2_7.out HBv2_7.out (by decide)) HOX2_7
            have HOY2_8 := hsetR hW8 (own_ne HOY2_7.out HBv2_7.out (by decide)) HOY2_7
            have HOG2_8 := hsetR hW8 (own_ne HOG2_7.out HBv2_7.out (by decide)) HOG2_7
            have HOR4_8 := hsetR hW8 (own_ne HOR4_7.out HBv2_7.out (by decide)) HOR4_7
            have HBv1_8 := hset hW8 HNv1v2.out HBv1_7
            have EU_8 : Hid (CurAt w8 c a len cap) := by show CurAt _ _ _ _ _; rw [hW8]; exact cur_set EU_7.out HNCv2.out _ _
            have HBv2_8 : Hid ((w8).heap[qv2]? = some (.cells #[.string p2, .slice oX2 xs2.length pX2, .slice oY2 ys2.length pY2, .int .i64 m4, .slice oR4 f4.length pR4, .string d2, .int .i64 t2] 31)) := by show _ = _; rw [hW8]; have h := heap_set _ _ 4 _ _ _ (.slice oR4 f4.length pR4) HBv2_7.out; simpa using h
            clear hb7 HOX2_7 HOY2_7 HOG2_7 HOR4_7 HBv1_7 HBv2_7 EU_7 hW8
            obtain ⟨w9, hW9⟩ : ∃ W, W = (w8).setCell ⟨qv2, 5, none⟩ (.string b4) := ⟨_, rfl⟩
            rw [← hW9]
            have hb9 : w.grownBy w9 (some c) := by rw [hW9]; exact (grown_own hb8 HGv2.out 5 _)
            have HM9 : Hid ((w8).heap.size ≤ w9.heap.size) := by show _ ≤ _; rw [hW9]; simp
            have HOX2_9 := hsetR hW9 (own_ne HOX2_8.out HBv2_8.out (by decide)) HOX2_8
            have HOY2_9 := hsetR hW9 (own_ne HOY2_8.out HBv2_8.out (by decide)) HOY2_8
            have HOG2_9 := hsetR hW9 (own_ne HOG2_8.out HBv2_8.out (by decide)) HOG2_8
            have HOR4_9 := hsetR hW9 (own_ne HOR4_8.out HBv2_8.out (by decide)) HOR4_8
            have HBv1_9 := hset hW9 HNv1v2.out HBv1_8
            have EU_9 : Hid (CurAt w9 c a len cap) := by show CurAt _ _ _ _ _; rw [hW9]; exact cur_set EU_8.out HNCv2.out _ _
            have HBv2_9 : Hid ((w9).heap[qv2]? = some (.cells #[.string p2, .slice oX2 xs2.length pX2, .slice oY2 ys2.length pY2, .int .i64 m4, .slice oR4 f4.length pR4, .string b4, .int .i64 t2] 31)) := by show _ = _; rw [hW9]; have h := heap_set _ _ 5 _ _ _ (.string b4) HBv2_8.out; simpa using h
            clear hb8 HOX2_8 HOY2_8 HOG2_8 HOR4_8 HBv1_8 HBv2_8 EU_8 hW9
            clear cv2_3 fcv2_3 cv2_4 fcv2_4 cv2_5 fcv2_5
            have cv1_0 : (w9).cell? ⟨qv1, 0, none⟩ = some (.string ⟨#[]⟩) := (cell_of HBv1_9.out 0).trans rfl
            have fcv1_0 : (w9).frozen? ⟨qv1, 0, none⟩ = false := frozen_of HBv1_9.out 0
            have cv1_1 : (w9).cell? ⟨qv1, 1, none⟩ = some (.slice none 0 0) := (cell_of HBv1_9.out 1).trans rfl
            have fcv1_1 : (w9).frozen? ⟨qv1, 1, none⟩ = false := frozen_of HBv1_9.out 1
            have cv1_2 : (w9).cell? ⟨qv1, 2, none⟩ = some (.slice none 0 0) := (cell_of HBv1_9.out 2).trans rfl
            have fcv1_2 : (w9).frozen? ⟨qv1, 2, none⟩ = false := frozen_of HBv1_9.out 2
            have cv1_3 : (w9).cell? ⟨qv1, 3, none⟩ = some (.int .i64 0) := (cell_of HBv1_9.out 3).trans rfl
            have fcv1_3 : (w9).frozen? ⟨qv1, 3, none⟩ = false := frozen_of HBv1_9.out 3
            have cv1_4 : (w9).cell? ⟨qv1, 4, none⟩ = some (.slice none 0 0) := (cell_of HBv1_9.out 4).trans rfl
            have fcv1_4 : (w9).frozen? ⟨qv1, 4, none⟩ = false := frozen_of HBv1_9.out 4
            have cv1_5 : (w9).cell? ⟨qv1, 5, none⟩ = some (.string ⟨#[]⟩) := (cell_of HBv1_9.out 5).trans rfl
            have fcv1_5 : (w9).frozen? ⟨qv1, 5, none⟩ = false := frozen_of HBv1_9.out 5
            have cv1_6 : (w9).cell? ⟨qv1, 6, none⟩ = some (.int .i64 0) := (cell_of HBv1_9.out 6).trans rfl
            have fcv1_6 : (w9).frozen? ⟨qv1, 6, none⟩ = false := frozen_of HBv1_9.out 6
            have cv2_0 : (w9).cell? ⟨qv2, 0, none⟩ = some (.string p2) := (cell_of HBv2_9.out 0).trans rfl
            have cv2_1 : (w9).cell? ⟨qv2, 1, none⟩ = some (.slice oX2 xs2.length pX2) := (cell_of HBv2_9.out 1).trans rfl
            have cv2_2 : (w9).cell? ⟨qv2, 2, none⟩ = some (.slice oY2 ys2.length pY2) := (cell_of HBv2_9.out 2).trans rfl
            have cv2_3 : (w9).cell? ⟨qv2, 3, none⟩ = some (.int .i64 m4) := (cell_of HBv2_9.out 3).trans rfl
            have cv2_4 : (w9).cell? ⟨qv2, 4, none⟩ = some (.slice oR4 f4.length pR4) := (cell_of HBv2_9.out 4).trans rfl
            have cv2_5 : (w9).cell? ⟨qv2, 5, none⟩ = some (.string b4) := (cell_of HBv2_9.out 5).trans rfl
            have cv2_6 : (w9).cell? ⟨qv2, 6, none⟩ = some (.int .i64 t2) := (cell_of HBv2_9.out 6).trans rfl
            go_wp2_with fail
            obtain ⟨w10, hW10⟩ : ∃ W, W = (w9).setCell ⟨qv1, 0, none⟩ (.string p2) := ⟨_, rfl⟩
            rw [← hW10]
            have hb10 : w.grownBy w10 (some c) := by rw [hW10]; exact (grown_own hb9 HGv1.out 0 _)
            have HM10 : Hid ((w9).heap.size ≤ w10.heap.size) := by show _ ≤ _; rw [hW10]; simp
            have HOX2_10 := hsetR hW10 (own_ne HOX2_9.out HBv1_9.out (by decide)) HOX2_9
            have HOY2_10 := hsetR hW10 (own_ne HOY2_9.out HBv1_9.out (by decide)) HOY2_9
            have HOG2_10 := hsetR hW10 (own_ne HOG2_9.out HBv1_9.out (by decide)) HOG2_9
            have HOR4_10 := hsetR hW10 (own_ne HOR4_9.out HBv1_9.out (by decide)) HOR4_9
            have HBv2_10 := hset hW10 HNv1v2.out.symm HBv2_9
            have EU_10 : Hid (CurAt w10 c a len cap) := by show CurAt _ _ _ _ _; rw [hW10]; exact cur_set EU_9.out HNCv1.out _ _
            have HBv1_10 : Hid ((w10).heap[qv1]? = some (.cells #[.string p2, .slice none 0 0, .slice none 0 0, .int .i64 0, .slice none 0 0, .string ⟨#[]⟩, .int .i64 0] 31)) := by show _ = _; rw [hW10]; have h := heap_set _ _ 0 _ _ _ (.string p2) HBv1_9.out; simpa using h
            clear hb9 HOX2_9 HOY2_9 HOG2_9 HOR4_9 HBv1_9 HBv2_9 EU_9 hW10
            obtain ⟨w11, hW11⟩ : ∃ W, W = (w10).setCell ⟨qv1, 1, none⟩ (.slice oX2 xs2.length pX2) := ⟨_, rfl⟩
            rw [← hW11]
            have hb11 : w.grownBy w11 (some c) := by rw [hW11]; exact (grown_own hb10 HGv1.out 1 _)
            have HM11 : Hid ((w10).heap.size ≤ w11.heap.size) := by show _ ≤ _; rw [hW11]; simp
            have HOX2_11 := hsetR hW11 (own_ne HOX2_10.out HBv1_10.out (by decide)) HOX2_10
            have HOY2_11 := hsetR hW11 (own_ne HOY2_10.out HBv1_10.out (by decide)) HOY2_10
            have HOG2_11 := hsetR hW11 (own_ne HOG2_10.out HBv1_10.out (by decide)) HOG2_10
            have HOR4_11 := hsetR hW11 (own_ne HOR4_10.out HBv1_10.out (by decide)) HOR4_10
            have HBv2_11 := hset hW11 HNv1v2.out.symm HBv2_10
            have EU_11 : Hid (CurAt w11 c a len cap) := by show CurAt _ _ _ _ _; rw [hW11]; exact cur_set EU_10.out HNCv1.out _ _
            have HBv1_11 : Hid ((w11).heap[qv1]? = some (.cells #[.string p2, .slice oX2 xs2.length pX2, .slice none 0 0, .int .i64 0, .slice none 0 0, .string ⟨#[]⟩, .int .i64 0] 31)) := by show _ = _; rw [hW11]; have h := heap_set _ _ 1 _ _ _ (.slice oX2 xs2.length pX2) HBv1_10.out; simpa using h
            clear hb10 HOX2_10 HOY2_10 HOG2_10 HOR4_10 HBv1_10 HBv2_10 EU_10 hW11
            obtain ⟨w12, hW12⟩ : ∃ W, W = (w11).setCell ⟨qv1, 2, none⟩ (.slice oY2 ys2.length pY2) := ⟨_, rfl⟩
            rw [← hW12]
            have hb12 : w.grownBy w12 (some c) := by rw [hW12]; exact (grown_own hb11 HGv1.out 2 _)
            have HM12 : Hid ((w11).heap.size ≤ w12.heap.size) := by show _ ≤ _; rw [hW12]; simp
            have HOX2_12 := hsetR hW12 (own_ne HOX2_11.out HBv1_11.out (by decide)) HOX2_11
            have HOY2_12 := hsetR hW12 (own_ne HOY2_11.out HBv1_11.out (by decide)) HOY2_11
            have HOG2_12 := hsetR hW12 (own_ne HOG2_11.out HBv1_11.out (by decide)) HOG2_11
            have HOR4_12 := hsetR hW12 (own_ne HOR4_11.out HBv1_11.out (by decide)) HOR4_11
            have HBv2_12 := hset hW12 HNv1v2.out.symm HBv2_11
            have EU_12 : Hid (CurAt w12 c a len cap) := by show CurAt _ _ _ _ _; rw [hW12]; exact cur_set EU_11.out HNCv1.out _ _
            have HBv1_12 : Hid ((w12).heap[qv1]? = some (.cells #[.string p2, .slice oX2 xs2.length pX2, .slice oY2 ys2.length pY2, .int .i64 0, .slice none 0 0, .string ⟨#[]⟩, .int .i64 0] 31)) := by show _ = _; rw [hW12]; have h := heap_set _ _ 2 _ _ _ (.slice oY2 ys2.length pY2) HBv1_11.out; simpa using h
            clear hb11 HOX2_11 HOY2_11 HOG2_11 HOR4_11 HBv1_11 HBv2_11 EU_11 hW12
            obtain ⟨w13, hW13⟩ : ∃ W, W = (w12).setCell ⟨qv1, 3, none⟩ (.int .i64 m4) := ⟨_, rfl⟩
            rw [← hW13]
            have hb13 : w.grownBy w13 (some c) := by rw [hW13]; exact (grown_own hb12 HGv1.out 3 _)
            have HM13 : Hid ((w12).heap.size ≤ w13.heap.size) := by show _ ≤ _; rw [hW13]; simp
            have HOX2_13 := hsetR hW13 (own_ne HOX2_12.out HBv1_12.out (by decide)) HOX2_12
            have HOY2_13 := hsetR hW13 (own_ne HOY2_12.out HBv1_12.out (by decide)) HOY2_12
            have HOG2_13 := hsetR hW13 (own_ne HOG2_12.out HBv1_12.out (by decide)) HOG2_12
            have HOR4_13 := hsetR hW13 (own_ne HOR4_12.out HBv1_12.out (by decide)) HOR4_12
            have HBv2_13 := hset hW13 HNv1v2.out.symm HBv2_12
            have EU_13 : Hid (CurAt w13 c a len cap) := by show CurAt _ _ _ _ _; rw [hW13]; exact cur_set EU_12.out HNCv1.out _ _
            have HBv1_13 : Hid ((w13).heap[qv1]? = some (.cells #[.string p2, .slice oX2 xs2.length pX2, .slice oY2 ys2.length pY2, .int .i64 m4, .slice none 0 0, .string ⟨#[]⟩, .int .i64 0] 31)) := by show _ = _; rw [hW13]; have h := heap_set _ _ 3 _ _ _ (.int .i64 m4) HBv1_12.out; simpa using h
            clear hb12 HOX2_12 HOY2_12 HOG2_12 HOR4_12 HBv1_12 HBv2_12 EU_12 hW13
            obtain ⟨w14, hW14⟩ : ∃ W, W = (w13).setCell ⟨qv1, 4, none⟩ (.slice oR4 f4.length pR4) := ⟨_, rfl⟩
            rw [← hW14]
            have hb14 : w.grownBy w14 (some c) := by rw [hW14]; exact (grown_own hb13 HGv1.out 4 _)
            have HM14 : Hid ((w13).heap.size ≤ w14.heap.size) := by show _ ≤ _; rw [hW14]; simp
            have HOX2_14 := hsetR hW14 (own_ne HOX2_13.out HBv1_13.out (by decide)) HOX2_13
            have HOY2_14 := hsetR hW14 (own_ne HOY2_13.out HBv1_13.out (by decide)) HOY2_13
            have HOG2_14 := hsetR hW14 (own_ne HOG2_13.out HBv1_13.out (by decide)) HOG2_13
            have HOR4_14 := hsetR hW14 (own_ne HOR4_13.out HBv1_13.out (by decide)) HOR4_13
            have HBv2_14 := hset hW14 HNv1v2.out.symm HBv2_13
            have EU_14 : Hid (CurAt w14 c a len cap) := by show CurAt _ _ _ _ _; rw [hW14]; exact cur_set EU_13.out HNCv1.out _ _
            have HBv1_14 : Hid ((w14).heap[qv1]? = some (.cells #[.string p2, .slice oX2 xs2.length pX2, .slice oY2 ys2.length pY2, .int .i64 m4, .slice oR4 f4.length pR4, .string ⟨#[]⟩, .int .i64 0] 31)) := by show _ = _; rw [hW14]; have h := heap_set _ _ 4 _ _ _ (.slice oR4 f4.length pR4) HBv1_13.out; simpa using h
            clear hb13 HOX2_13 HOY2_13 HOG2_13 HOR4_13 HBv1_13 HBv2_13 EU_13 hW14
            obtain ⟨w15, hW15⟩ : ∃ W, W = (w14).setCell ⟨qv1, 5, none⟩ (.string b4) := ⟨_, rfl⟩
            rw [← hW15]
            have hb15 : w.grownBy w15 (some c) := by rw [hW15]; exact (grown_own hb14 HGv1.out 5 _)
            have HM15 : Hid ((w14).heap.size ≤ w15.heap.size) := by show _ ≤ _; rw [hW15]; simp
            have HOX2_15 := hsetR hW15 (own_ne HOX2_14.out HBv1_14.out (by decide)) HOX2_14
            have HOY2_15 := hsetR hW15 (own_ne HOY2_14.out HBv1_14.out (by decide)) HOY2_14
            have HOG2_15 := hsetR hW15 (own_ne HOG2_14.out HBv1_14.out (by decide)) HOG2_14
            have HOR4_15 := hsetR hW15 (own_ne HOR4_14.out HBv1_14.out (by decide)) HOR4_14
            have HBv2_15 := hset hW15 HNv1v2.out.symm HBv2_14
            have EU_15 : Hid (CurAt w15 c a len cap) := by show CurAt _ _ _ _ _; rw [hW15]; exact cur_set EU_14.out HNCv1.out _ _
            have HBv1_15 : Hid ((w15).heap[qv1]? = some (.cells #[.string p2, .slice oX2 xs2.length pX2, .slice oY2 ys2.length pY2, .int .i64 m4, .slice oR4 f4.length pR4, .string b4, .int .i64 0] 31)) := by show _ = _; rw [hW15]; have h := heap_set _ _ 5 _ _ _ (.string b4) HBv1_14.out; simpa using h
            clear hb14 HOX2_14 HOY2_14 HOG2_14 HOR4_14 HBv1_14 HBv2_14 EU_14 hW15
            obtain ⟨w16, hW16⟩ : ∃ W, W = (w15).setCell ⟨qv1, 6, none⟩ (.int .i64 t2) := ⟨_, rfl⟩
            rw [← hW16]
            have hb16 : w.grownBy w16 (some c) := by rw [hW16]; exact (grown_own hb15 HGv1.out 6 _)
            have HOX2_16 := hsetR hW16 (own_ne HOX2_15.out HBv1_15.out (by decide)) HOX2_15
            have HOY2_16 := hsetR hW16 (own_ne HOY2_15.out HBv1_15.out (by decide)) HOY2_15
            have HOG2_16 := hsetR hW16 (own_ne HOG2_15.out HBv1_15.out (by decide)) HOG2_15
            have HOR4_16 := hsetR hW16 (own_ne HOR4_15.out HBv1_15.out (by decide)) HOR4_15
            have HBv2_16 := hset hW16 HNv1v2.out.symm HBv2_15
            have EU_16 : Hid (CurAt w16 c a len cap) := by show CurAt _ _ _ _ _; rw [hW16]; exact cur_set EU_15.out HNCv1.out _ _
            have HBv1_16 : Hid ((w16).heap[qv1]? = some (.cells #[.string p2, .slice oX2 xs2.length pX2, .slice oY2 ys2.length pY2, .int .i64 m4, .slice oR4 f4.length pR4, .string b4, .int .i64 t2] 31)) := by show _ = _; rw [hW16]; have h := heap_set _ _ 6 _ _ _ (.int .i64 t2) HBv1_15.out; simpa using h
            clear hb15 HOX2_15 HOY2_15 HOG2_15 HOR4_15 HBv1_15 HBv2_15 EU_15 hW16
            have kv1_0 : (w16).cell? ⟨qv1, 0, none⟩ = some (.string p2) := (cell_of HBv1_16.out 0).trans rfl
            have kv1_1 : (w16).cell? ⟨qv1, 1, none⟩ = some (.slice oX2 xs2.length pX2) := (cell_of HBv1_16.out 1).trans rfl
            have kv1_2 : (w16).cell? ⟨qv1, 2, none⟩ = some (.slice oY2 ys2.length pY2) := (cell_of HBv1_16.out 2).trans rfl
            have kv1_3 : (w16).cell? ⟨qv1, 3, none⟩ = some (.int .i64 m4) := (cell_of HBv1_16.out 3).trans rfl
            have kv1_4 : (w16).cell? ⟨qv1, 4, none⟩ = some (.slice oR4 f4.length pR4) := (cell_of HBv1_16.out 4).trans rfl
            have kv1_5 : (w16).cell? ⟨qv1, 5, none⟩ = some (.string b4) := (cell_of HBv1_16.out 5).trans rfl
            have kv1_6 : (w16).cell? ⟨qv1, 6, none⟩ = some (.int .i64 t2) := (cell_of HBv1_16.out 6).trans rfl
            refine bodyPost_ret (v := .agg #[.string p2, .slice oX2 xs2.length pX2, .slice oY2 ys2.length pY2, .int .i64 m4, .slice oR4 f4.length pR4, .string b4, .int .i64 t2]) (by simp [results, Tryz.results34, go_sem, kv1_0, kv1_1, kv1_2, kv1_3, kv1_4, kv1_5, kv1_6]) rfl ?_
            exact ⟨_, _, _, _, _, _, _, _, _, _, rfl, ⟨HOX2_16.out, HOY2_16.out, HOR4_16.out⟩, ⟨HSM2.out.1.1, HSM2.out.1.2.1, HSM2.out.1.2.2.1, ⟨Nat.le_succ_of_le HFR4.out.1, HFR4.out.2⟩, HDR4.out, HSM2.out.1.2.2.2.2.2⟩, EU_16.out, hb16⟩
          · have hc5b : ((n3 : Int) == (4 : Int)) = false := by simpa using hc5
            have hc5n : ((n3 : Int) != (4 : Int)) = true := by simpa using hc5
            have hc5H : Hid (¬ (n3 = 4)) := hc5
            clear hc5
            have cv1_0 : (w5).cell? ⟨qv1, 0, none⟩ = some (.string ⟨#[]⟩) := (cell_of HBv1_5.out 0).trans rfl
            have fcv1_0 : (w5).frozen? ⟨qv1, 0, none⟩ = false := frozen_of HBv1_5.out 0
            have cv1_1 : (w5).cell? ⟨qv1, 1, none⟩ = some (.slice none 0 0) := (cell_of HBv1_5.out 1).trans rfl
            have fcv1_1 : (w5).frozen? ⟨qv1, 1, none⟩ = false := frozen_of HBv1_5.out 1
            have cv1_2 : (w5).cell? ⟨qv1, 2, none⟩ = some (.slice none 0 0) := (cell_of HBv1_5.out 2).trans rfl
            have fcv1_2 : (w5).frozen? ⟨qv1, 2, none⟩ = false := frozen_of HBv1_5.out 2
            have cv1_3 : (w5).cell? ⟨qv1, 3, none⟩ = some (.int .i64 0) := (cell_of HBv1_5.out 3).trans rfl
            have fcv1_3 : (w5).frozen? ⟨qv1, 3, none⟩ = false := frozen_of HBv1_5.out 3
            have cv1_4 : (w5).cell? ⟨qv1, 4, none⟩ = some (.slice none 0 0) := (cell_of HBv1_5.out 4).trans rfl
            have fcv1_4 : (w5).frozen? ⟨qv1, 4, none⟩ = false := frozen_of HBv1_5.out 4
            have cv1_5 : (w5).cell? ⟨qv1, 5, none⟩ = some (.string ⟨#[]⟩) := (cell_of HBv1_5.out 5).trans rfl
            have fcv1_5 : (w5).frozen? ⟨qv1, 5, none⟩ = false := frozen_of HBv1_5.out 5
            have cv1_6 : (w5).cell? ⟨qv1, 6, none⟩ = some (.int .i64 0) := (cell_of HBv1_5.out 6).trans rfl
            have fcv1_6 : (w5).frozen? ⟨qv1, 6, none⟩ = false := frozen_of HBv1_5.out 6
            have cv2_0 : (w5).cell? ⟨qv2, 0, none⟩ = some (.string p2) := (cell_of HBv2_5.out 0).trans rfl
            have cv2_1 : (w5).cell? ⟨qv2, 1, none⟩ = some (.slice oX2 xs2.length pX2) := (cell_of HBv2_5.out 1).trans rfl
            have cv2_2 : (w5).cell? ⟨qv2, 2, none⟩ = some (.slice oY2 ys2.length pY2) := (cell_of HBv2_5.out 2).trans rfl
            have cv2_3 : (w5).cell? ⟨qv2, 3, none⟩ = some (.int .i64 st2) := (cell_of HBv2_5.out 3).trans rfl
            have cv2_4 : (w5).cell? ⟨qv2, 4, none⟩ = some (.slice oG2 fs2.length pG2) := (cell_of HBv2_5.out 4).trans rfl
            have cv2_5 : (w5).cell? ⟨qv2, 5, none⟩ = some (.string d2) := (cell_of HBv2_5.out 5).trans rfl
            have cv2_6 : (w5).cell? ⟨qv2, 6, none⟩ = some (.int .i64 t2) := (cell_of HBv2_5.out 6).trans rfl
            go_wp2_with fail
            obtain ⟨w6, hW6⟩ : ∃ W, W = (w5).setCell ⟨qv1, 0, none⟩ (.string p2) := ⟨_, rfl⟩
            rw [← hW6]
            have hb6 : w.grownBy w6 (some c) := by rw [hW6]; exact (grown_own hb5 HGv1.out 0 _)
            have HM6 : Hid ((w5).heap.size ≤ w6.heap.size) := by show _ ≤ _; rw [hW6]; simp
            have HOX2_6 := hsetR hW6 (own_ne HOX2_5.out HBv1_5.out (by decide)) HOX2_5
            have HOY2_6 := hsetR hW6 (own_ne HOY2_5.out HBv1_5.out (by decide)) HOY2_5
            have HOG2_6 := hsetR hW6 (own_ne HOG2_5.out HBv1_5.out (by decide)) HOG2_5
            have HBv2_6 := hset hW6 HNv1v2.out.symm HBv2_5
            have EU_6 : Hid (CurAt w6 c a len cap) := by show CurAt _ _ _ _ _; rw [hW6]; exact cur_set EU_5.out HNCv1.out _ _
            have HBv1_6 : Hid ((w6).heap[qv1]? = some (.cells #[.string p2, .slice none 0 0, .slice none 0 0, .int .i64 0, .slice none 0 0, .string ⟨#[]⟩, .int .i64 0] 31)) := by show _ = _; rw [hW6]; have h := heap_set _ _ 0 _ _ _ (.string p2) HBv1_5.out; simpa using h
            clear hb5 HOX2_5 HOY2_5 HOG2_5 HBv1_5 HBv2_5 EU_5 hW6
            obtain ⟨w7, hW7⟩ : ∃ W, W = (w6).setCell ⟨qv1, 1, none⟩ (.slice oX2 xs2.length pX2) := ⟨_, rfl⟩
            rw [← hW7]
            have hb7 : w.grownBy w7 (some c) := by rw [hW7]; exact (grown_own hb6 HGv1.out 1 _)
            have HM7 : Hid ((w6).heap.size ≤ w7.heap.size) := by show _ ≤ _; rw [hW7]; simp
            have HOX2_7 := hsetR hW7 (own_ne HOX2_6.out HBv1_6.out (by decide)) HOX2_6
            have HOY2_7 := hsetR hW7 (own_ne HOY2_6.out HBv1_6.out (by decide)) HOY2_6
            have HOG2_7 := hsetR hW7 (own_ne HOG2_6.out HBv1_6.out (by decide)) HOG2_6
            have HBv2_7 := hset hW7 HNv1v2.out.symm HBv2_6
            have EU_7 : Hid (CurAt w7 c a len cap) := by show CurAt _ _ _ _ _; rw [hW7]; exact cur_set EU_6.out HNCv1.out _ _
            have HBv1_7 : Hid ((w7).heap[qv1]? = some (.cells #[.string p2, .slice oX2 xs2.length pX2, .slice none 0 0, .int .i64 0, .slice none 0 0, .string ⟨#[]⟩, .int .i64 0] 31)) := by show _ = _; rw [hW7]; have h := heap_set _ _ 1 _ _ _ (.slice oX2 xs2.length pX2) HBv1_6.out; simpa using h
            clear hb6 HOX2_6 HOY2_6 HOG2_6 HBv1_6 HBv2_6 EU_6 hW7
            obtain ⟨w8, hW8⟩ : ∃ W, W = (w7).setCell ⟨qv1, 2, none⟩ (.slice oY2 ys2.length pY2) := ⟨_, rfl⟩
            rw [← hW8]
            have hb8 : w.grownBy w8 (some c) := by rw [hW8]; exact (grown_own hb7 HGv1.out 2 _)
            have HM8 : Hid ((w7).heap.size ≤ w8.heap.size) := by show _ ≤ _; rw [hW8]; simp
            have HOX2_8 := hsetR hW8 (own_ne HOX2_7.out HBv1_7.out (by decide)) HOX2_7
            have HOY2_8 := hsetR hW8 (own_ne HOY2_7.out HBv1_7.out (by decide)) HOY2_7
            have HOG2_8 := hsetR hW8 (own_ne HOG2_7.out HBv1_7.out (by decide)) HOG2_7
            have HBv2_8 := hset hW8 HNv1v2.out.symm HBv2_7
            have EU_8 : Hid (CurAt w8 c a len cap) := by show CurAt _ _ _ _ _; rw [hW8]; exact cur_set EU_7.out HNCv1.out _ _
            have HBv1_8 : Hid ((w8).heap[qv1]? = some (.cells #[.string p2, .slice oX2 xs2.length pX2, .slice oY2 ys2.length pY2, .int .i64 0, .slice none 0 0, .string ⟨#[]⟩, .int .i64 0] 31)) := by show _ = _; rw [hW8]; have h := heap_set _ _ 2 _ _ _ (.slice oY2 ys2.length pY2) HBv1_7.out; simpa using h
            clear hb7 HOX2_7 HOY2_7 HOG2_7 HBv1_7 HBv2_7 EU_7 hW8
            obtain ⟨w9, hW9⟩ : ∃ W, W = (w8).setCell ⟨qv1, 3, none⟩ (.int .i64 st2) := ⟨_, rfl⟩
            rw [← hW9]
            have hb9 : w.grownBy w9 (some c) := by rw [hW9]; exact (grown_own hb8 HGv1.out 3 _)
            have HM9 : Hid ((w8).heap.size ≤ w9.heap.size) := by show _ ≤ _; rw [hW9]; simp
            have HOX2_9 := hsetR hW9 (own_ne HOX2_8.out HBv1_8.out (by decide)) HOX2_8
            have HOY2_9 := hsetR hW9 (own_ne HOY2_8.out HBv1_8.out (by decide)) HOY2_8
            have HOG2_9 := hsetR hW9 (own_ne HOG2_8.out HBv1_8.out (by decide)) HOG2_8
            have HBv2_9 := hset hW9 HNv1v2.out.symm HBv2_8
            have EU_9 : Hid (CurAt w9 c a len cap) := by show CurAt _ _ _ _ _; rw [hW9]; exact cur_set EU_8.out HNCv1.out _ _
            have HBv1_9 : Hid ((w9).heap[qv1]? = some (.cells #[.string p2, .slice oX2 xs2.length pX2, .slice oY2 ys2.length pY2, .int .i64 st2, .slice none 0 0, .string ⟨#[]⟩, .int .i64 0] 31)) := by show _ = _; rw [hW9]; have h := heap_set _ _ 3 _ _ _ (.int .i64 st2) HBv1_8.out; simpa using h
            clear hb8 HOX2_8 HOY2_8 HOG2_8 HBv1_8 HBv2_8 EU_8 hW9
            obtain ⟨w10, hW10⟩ : ∃ W, W = (w9).setCell ⟨qv1, 4, none⟩ (.slice oG2 fs2.length pG2) := ⟨_, rfl⟩
            rw [← hW10]
            have hb10 : w.grownBy w10 (some c) := by rw [hW10]; exact (grown_own hb9 HGv1.out 4 _)
            have HM10 : Hid ((w9).heap.size ≤ w10.heap.size) := by show _ ≤ _; rw [hW10]; simp
            have HOX2_10 := hsetR hW10 (own_ne HOX2_9.out HBv1_9.out (by decide)) HOX2_9
            have HOY2_10 := hsetR hW10 (own_ne HOY2_9.out HBv1_9.out (by decide)) HOY2_9
            have HOG2_10 := hsetR hW10 (own_ne HOG2_9.out HBv1_9.out (by decide)) HOG2_9
            have HBv2_10 := hset hW10 HNv1v2.out.symm HBv2_9
            have EU_10 : Hid (CurAt w10 c a len cap) := by show CurAt _ _ _ _ _; rw [hW10]; exact cur_set EU_9.out HNCv1.out _ _
            have HBv1_10 : Hid ((w10).heap[qv1]? = some (.cells #[.string p2, .slice oX2 xs2.length pX2, .slice oY2 ys2.length pY2, .int .i64 st2, .slice oG2 fs2.length pG2, .string ⟨#[]⟩, .int .i64 0] 31)) := by show _ = _; rw [hW10]; have h := heap_set _ _ 4 _ _ _ (.slice oG2 fs2.length pG2) HBv1_9.out; simpa using h
            clear hb9 HOX2_9 HOY2_9 HOG2_9 HBv1_9 HBv2_9 EU_9 hW10
            obtain ⟨w11, hW11⟩ : ∃ W, W = (w10).setCell ⟨qv1, 5, none⟩ (.string d2) := ⟨_, rfl⟩
            rw [← hW11]
            have hb11 : w.grownBy w11 (some c) := by rw [hW11]; exact (grown_own hb10 HGv1.out 5 _)
            have HM11 : Hid ((w10).heap.size ≤ w11.heap.size) := by show _ ≤ _; rw [hW11]; simp
            have HOX2_11 := hsetR hW11 (own_ne HOX2_10.out HBv1_10.out (by decide)) HOX2_10
            have HOY2_11 := hsetR hW11 (own_ne HOY2_10.out HBv1_10.out (by decide)) HOY2_10
            have HOG2_11 := hsetR hW11 (own_ne HOG2_10.out HBv1_10.out (by decide)) HOG2_10
            have HBv2_11 := hset hW11 HNv1v2.out.symm HBv2_10
            have EU_11 : Hid (CurAt w11 c a len cap) := by show CurAt _ _ _ _ _; rw [hW11]; exact cur_set EU_10.out HNCv1.out _ _
            have HBv1_11 : Hid ((w11).heap[qv1]? = some (.cells #[.string p2, .slice oX2 xs2.length pX2, .slice oY2 ys2.length pY2, .int .i64 st2, .slice oG2 fs2.length pG2, .string d2, .int .i64 0] 31)) := by show _ = _; rw [hW11]; have h := heap_set _ _ 5 _ _ _ (.string d2) HBv1_10.out; simpa using h
            clear hb10 HOX2_10 HOY2_10 HOG2_10 HBv1_10 HBv2_10 EU_10 hW11
            obtain ⟨w12, hW12⟩ : ∃ W, W = (w11).setCell ⟨qv1, 6, none⟩ (.int .i64 t2) := ⟨_, rfl⟩
            rw [← hW12]
            have hb12 : w.grownBy w12 (some c) := by rw [hW12]; exact (grown_own hb11 HGv1.out 6 _)
            have HM12 : Hid ((w11).heap.size ≤ w12.heap.size) := by show _ ≤ _; rw [hW12]; simp
            have HOX2_12 := hsetR hW12 (own_ne HOX2_11.out HBv1_11.out (by decide)) HOX2_11
            have HOY2_12 := hsetR hW12 (own_ne HOY2_11.out HBv1_11.out (by decide)) HOY2_11
            have HOG2_12 := hsetR hW12 (own_ne HOG2_11.out HBv1_11.out (by decide)) HOG2_11
            have HBv2_12 := hset hW12 HNv1v2.out.symm HBv2_11
            have EU_12 : Hid (CurAt w12 c a len cap) := by show CurAt _ _ _ _ _; rw [hW12]; exact cur_set EU_11.out HNCv1.out _ _
            have HBv1_12 : Hid ((w12).heap[qv1]? = some (.cells #[.string p2, .slice oX2 xs2.length pX2, .slice oY2 ys2.length pY2, .int .i64 st2, .slice oG2 fs2.length pG2, .string d2, .int .i64 t2] 31)) := by show _ = _; rw [hW12]; have h := heap_set _ _ 6 _ _ _ (.int .i64 t2) HBv1_11.out; simpa using h
            clear hb11 HOX2_11 HOY2_11 HOG2_11 HBv1_11 HBv2_11 EU_11 hW12
            have kv1_0 : (w12).cell? ⟨qv1, 0, none⟩ = some (.string p2) := (cell_of HBv1_12.out 0).trans rfl
            have kv1_1 : (w12).cell? ⟨qv1, 1, none⟩ = some (.slice oX2 xs2.length pX2) := (cell_of HBv1_12.out 1).trans rfl
            have kv1_2 : (w12).cell? ⟨qv1, 2, none⟩ = some (.slice oY2 ys2.length pY2) := (cell_of HBv1_12.out 2).trans rfl
            have kv1_3 : (w12).cell? ⟨qv1, 3, none⟩ = some (.int .i64 st2) := (cell_of HBv1_12.out 3).trans rfl
            have kv1_4 : (w12).cell? ⟨qv1, 4, none⟩ = some (.slice oG2 fs2.length pG2) := (cell_of HBv1_12.out 4).trans rfl
            have kv1_5 : (w12).cell? ⟨qv1, 5, none⟩ = some (.string d2) := (cell_of HBv1_12.out 5).trans rfl
            have kv1_6 : (w12).cell? ⟨qv1, 6, none⟩ = some (.int .i64 t2) := (cell_of HBv1_12.out 6).trans rfl
            refine bodyPost_ret (v := .agg #[.string p2, .slice oX2 xs2.length pX2, .slice oY2 ys2.length pY2, .int .i64 st2, .slice oG2 fs2.length pG2, .string d2, .int .i64 t2]) (by simp [results, Tryz.results34, go_sem, kv1_0, kv1_1, kv1_2, kv1_3, kv1_4, kv1_5, kv1_6]) rfl ?_
            exact ⟨_, _, _, _, _, _, _, _, _, _, rfl, ⟨HOX2_12.out, HOY2_12.out, HOG2_12.out⟩, ⟨HSM2.out.1.1, HSM2.out.1.2.1, HSM2.out.1.2.2.1, HSM2.out.1.2.2.2.1, HSM2.out.1.2.2.2.2.1, HSM2.out.1.2.2.2.2.2⟩, EU_12.out, hb12⟩
end Go.Proofs.YtmcmeeibogkpaaaGreatDoorR
