/- What the proof of FnHits leans on: contracts of the program's and the specification's functions, and plain facts (part 7 of 9). -/
import Derived.Test.YtlmenolcgaakeaaGreatFnHitsF
namespace Go.Proofs.YtlmenolcgaakeaaGreat
open Go.RowKit
open Go.Lib hiding intOf

/-- A ban is right. -/
def BanP (k : Int) (a b : ByteArray) (t : Int) : Prop := (0 ≤ t ∧ t ≤ 1000000) ∧ (((k = 1 ∨ k = 2) ∧ PathOk a ∧ b = ⟨#[]⟩) ∨ (k = 3 ∧ TokOk a ∧ ValOk b))
/-- The first is how the second begins. -/
def Begins (a p : ByteArray) : Prop := ∃ r, bs p = bs a ++ r
/-- A ban hits an object. -/
def HitP (k : Int) (a b : ByteArray) (t : Int) (p : ByteArray) (xs ys : List ByteArray) (st : Int) (fs : List (ByteArray × ByteArray)) (d : ByteArray) (u : Int) : Prop :=
  BanP k a b t ∧ ObjP p xs ys st fs d u ∧ u ≤ t ∧ ((k = 1 ∧ p = a) ∨ (k = 2 ∧ Begins a p) ∨ (k = 3 ∧ getB fs a = true ∧ getV fs a = b))

theorem BanP.kinds {k : Int} {a b : ByteArray} {t : Int} (h : BanP k a b t) : k = 1 ∨ k = 2 ∨ k = 3 := by
  rcases h.2 with ⟨h1 | h1, _⟩ | ⟨h1, _⟩
  · exact .inl h1
  · exact .inr (.inl h1)
  · exact .inr (.inr h1)
theorem begins_iff (a p : ByteArray) : Begins a p ↔ a.size ≤ p.size ∧ p.extract 0 a.size = a := by
  constructor
  · rintro ⟨r, h⟩
    have hz := congrArg List.length h
    rw [List.length_append, bs_len, bs_len] at hz
    refine ⟨by omega, bs_inj ?_⟩
    rw [bs_extract, List.drop_zero, h, ← bs_len a, List.take_left]
  · rintro ⟨h1, h2⟩
    refine ⟨(bs p).drop a.size, ?_⟩
    have h3 := congrArg bs h2
    rw [bs_extract, List.drop_zero] at h3
    rw [← h3]
    conv => rhs; rw [h3]
    rw [← h3, List.take_append_drop]

end Go.Proofs.YtlmenolcgaakeaaGreat

namespace Go.Proofs.YtlmenolcgaakeaaGreat
open Go.RowKit
open Go.Lib hiding intOf

/-- The i-th of a list. -/
def banAt (l : List (Int × ByteArray × ByteArray × Int)) (i : Nat) : (Int × ByteArray × ByteArray × Int) := l.getD i (0, ⟨#[]⟩, ⟨#[]⟩, 0)
/-- Its cells. -/
def banEnc (x : (Int × ByteArray × ByteArray × Int)) : List Value := [.int .i64 x.1, .string x.2.1, .string x.2.2.1, .int .i64 x.2.2.2]
def flatBan (l : List (Int × ByteArray × ByteArray × Int)) : List Value := l.flatMap banEnc
theorem flatBan_len (l : List (Int × ByteArray × ByteArray × Int)) : (flatBan l).length = l.length * 4 := by
  induction l with
  | nil => rfl
  | cons f r ih => simp only [flatBan, banEnc, List.flatMap_cons, List.length_append, List.length_cons, List.length_nil] at ih ⊢; omega
theorem flatBan_get : ∀ (l : List (Int × ByteArray × ByteArray × Int)) (i : Nat), i < l.length → (flatBan l)[i * 4]? = some (.int .i64 ((banAt l i).1)) ∧ (flatBan l)[i * 4 + 1]? = some (.string ((banAt l i).2.1)) ∧ (flatBan l)[i * 4 + 2]? = some (.string ((banAt l i).2.2.1)) ∧ (flatBan l)[i * 4 + 3]? = some (.int .i64 ((banAt l i).2.2.2))
  | [], i, h => by simp at h
  | f :: r, 0, _ => by simp [flatBan, banEnc, banAt]
  | f :: r, i + 1, h => by
    have ih := flatBan_get r i (by simpa using h)
    have e : flatBan (f :: r) = banEnc f ++ flatBan r := rfl
    have hl : (banEnc f).length = 4 := rfl
    have h2 : banAt (f :: r) (i + 1) = banAt r i := by simp [banAt]
    have key : ∀ j, (flatBan (f :: r))[i * 4 + 4 + j]? = (flatBan r)[i * 4 + j]? := fun j => by
      rw [e, List.getElem?_append_right (by rw [hl]; omega), hl]; congr 1; omega
    rw [h2]
    refine ⟨(by rw [show (i + 1) * 4 = i * 4 + 4 + 0 by omega, key]; exact ih.1), (by rw [show (i + 1) * 4 + 1 = i * 4 + 4 + 1 by omega, key]; exact ih.2.1), (by rw [show (i + 1) * 4 + 2 = i * 4 + 4 + 2 by omega, key]; exact ih.2.2.1), (by rw [show (i + 1) * 4 + 3 = i * 4 + 4 + 3 by omega, key]; exact ih.2.2.2)⟩
theorem banAt_mem (l : List (Int × ByteArray × ByteArray × Int)) (i : Nat) (h : i < l.length) : banAt l i ∈ l := by
  unfold banAt
  rw [List.getD_eq_getElem?_getD, List.getElem?_eq_getElem h]
  exact List.getElem_mem h
theorem take_banAt (l : List (Int × ByteArray × ByteArray × Int)) (i : Nat) (h : i < l.length) : l.take (i + 1) = l.take i ++ [banAt l i] := by
  unfold banAt
  rw [List.getD_eq_getElem?_getD, List.getElem?_eq_getElem h, List.take_succ_eq_append_getElem h]
  rfl
theorem flatBan_append (a b : List (Int × ByteArray × ByteArray × Int)) : flatBan (a ++ b) = flatBan a ++ flatBan b := by simp [flatBan]
theorem flatBan_one (x : (Int × ByteArray × ByteArray × Int)) : flatBan [x] = banEnc x := by simp [flatBan]
/-- A list that is read: its cells in a block that is there. -/
def BanA (w : World) (oa : Option Addr) (n : Nat) (l : List (Int × ByteArray × ByteArray × Int)) : Prop :=
  l.length = n ∧ ∀ i, i < n → ∃ g, oa = some ⟨g, 0, none⟩ ∧ g < w.heap.size ∧ w.cell? ⟨g, i * 4, none⟩ = some (.int .i64 ((banAt l i).1)) ∧ w.cell? ⟨g, i * 4 + 1, none⟩ = some (.string ((banAt l i).2.1)) ∧ w.cell? ⟨g, i * 4 + 2, none⟩ = some (.string ((banAt l i).2.2.1)) ∧ w.cell? ⟨g, i * 4 + 3, none⟩ = some (.int .i64 ((banAt l i).2.2.2))
theorem BanA.below {w W : World} {oa : Option Addr} {n : Nat} {l : List (Int × ByteArray × ByteArray × Int)} (h : BanA w oa n l) (hb : Below w.heap.size w W) : BanA W oa n l :=
  ⟨h.1, fun i hi => by
    obtain ⟨g, h1, h2, r0, r1, r2, r3⟩ := h.2 i hi
    exact ⟨g, h1, Nat.lt_of_lt_of_le h2 hb.size, by rw [hb.cell (p := ⟨g, i * 4, none⟩) h2]; exact r0, by rw [hb.cell (p := ⟨g, i * 4 + 1, none⟩) h2]; exact r1, by rw [hb.cell (p := ⟨g, i * 4 + 2, none⟩) h2]; exact r2, by rw [hb.cell (p := ⟨g, i * 4 + 3, none⟩) h2]; exact r3⟩⟩
/-- An owned list can be read. -/
theorem ban_view {w : World} {base n cap : Nat} {oa : Option Addr} {l : List (Int × ByteArray × ByteArray × Int)} (h : w.ownsRow base 25 4 (.slice oa n cap) n (flatBan l)) : BanA w oa n l := by
  obtain ⟨hl, hv⟩ := h
  rw [flatBan_len] at hl
  refine ⟨by omega, fun i hi => ?_⟩
  rcases hv with ⟨e, h0⟩ | ⟨g, cap, cur, e, hb, hg, hn, hm, hcs, htk⟩
  · omega
  · cases e
    have hf := flatBan_get l i (by omega)
    rw [← htk] at hf
    simp only [List.getElem?_take] at hf
    rw [if_pos (by omega), if_pos (by omega), if_pos (by omega), if_pos (by omega)] at hf
    refine ⟨g, rfl, (Array.getElem?_eq_some_iff.1 hg).1, by simp only [World.cell?, hg]; simpa using hf.1, by simp only [World.cell?, hg]; simpa using hf.2.1, by simp only [World.cell?, hg]; simpa using hf.2.2.1, by simp only [World.cell?, hg]; simpa using hf.2.2.2⟩
theorem infoBan : (Tryz.prog.info? 25).map (fun i => (i.zero, i.size, i.bytes)) = some (some (.agg #[.int .i64 0, .string ⟨#[]⟩, .string ⟨#[]⟩, .int .i64 0]), 4, 48) := by kernel_rfl

end Go.Proofs.YtlmenolcgaakeaaGreat

namespace Go.Proofs.YtlmenolcgaakeaaGreat
open Go.RowKit
open Go.Lib hiding intOf

/-- A ban and an object are drawn. -/
def DrewBO (w : World) (e : Ending) (w' : World) : Prop :=
  ∃ (k : Int) (a b : ByteArray) (t : Int) (p : ByteArray) (v1 : Value) (xs : List ByteArray) (v2 : Value) (ys : List ByteArray) (st : Int) (v3 : Value) (fs : List (ByteArray × ByteArray)) (d : ByteArray) (u : Int), e = .returned (.tuple #[.agg #[.int .i64 k, .string a, .string b, .int .i64 t], .agg #[.string p, v1, v2, .int .i64 st, v3, .string d, .int .i64 u]]) ∧ (a.size ≤ 64 ∧ b.size ≤ 64) ∧ (w'.ownsRow w.heap.size 9 1 v1 xs.length (xs.map Value.string) ∧ w'.ownsRow w.heap.size 9 1 v2 ys.length (ys.map Value.string) ∧ w'.ownsRow w.heap.size 75 2 v3 fs.length (flatF fs)) ∧ SmallO p xs ys fs d u ∧ Below w.heap.size w w'
/-- Bans and an object are drawn. -/
def DrewLO (w : World) (e : Ending) (w' : World) : Prop :=
  ∃ (v : Value) (l : List (Int × ByteArray × ByteArray × Int)) (p : ByteArray) (v1 : Value) (xs : List ByteArray) (v2 : Value) (ys : List ByteArray) (st : Int) (v3 : Value) (fs : List (ByteArray × ByteArray)) (d : ByteArray) (u : Int), e = .returned (.tuple #[v, .agg #[.string p, v1, v2, .int .i64 st, v3, .string d, .int .i64 u]]) ∧ w'.ownsRow w.heap.size 25 4 v l.length (flatBan l) ∧ (l.length ≤ 4 ∧ ∀ x ∈ l, (x.2.1).size ≤ 64 ∧ (x.2.2.1).size ≤ 64) ∧ (w'.ownsRow w.heap.size 9 1 v1 xs.length (xs.map Value.string) ∧ w'.ownsRow w.heap.size 9 1 v2 ys.length (ys.map Value.string) ∧ w'.ownsRow w.heap.size 75 2 v3 fs.length (flatF fs)) ∧ SmallO p xs ys fs d u ∧ Below w.heap.size w w'

set_option maxHeartbeats 8000000 in
set_option maxRecDepth 100000 in
theorem drawHits_any (a : Option Addr) (len cap : Nat) (zs : List Int) (w : World) (hcode : CodeAt w w.heap.size a len zs) :
    Calls Tryz.prog 5 #[.slice a len cap] w fun e w' => DrewBO w e w' := by
  have HCO : Hid (∀ W, Below w.heap.size w W → CodeAt W w.heap.size a len zs) := fun W h => hcode.below h
  clear hcode
  have hb0 : Below w.heap.size w w := Below.refl _ _
  go_enter Tryz.func5, Tryz.ntmps5
  go_upto_region 1 with fail
  obtain ⟨qv1, hqv1⟩ : ∃ q, q = (w).heap.size := ⟨_, rfl⟩
  obtain ⟨w1, hW1⟩ : ∃ W, W = (w).alloc (.cells #[.int .i64 0, .string ⟨#[]⟩, .string ⟨#[]⟩, .int .i64 0] 25) := ⟨_, rfl⟩
  have hz1 : (w).heap.size = qv1 := hqv1.symm
  first | rw [← hW1, ← hqv1] | rw [← hW1]
  have hs1 : w1.heap.size = qv1 + 1 := by rw [hW1, ← hz1]; simp
  have bw : Below (w).heap.size (w) w1 := by rw [hW1]; exact (Below.refl _ _).alloc (Nat.le_refl _) _
  have hb1 : Below w.heap.size w (w1) := hb0.trans (bw.mono hb0.size)
  have HBv1_1 : Hid ((w1).heap[qv1]? = some (.cells #[.int .i64 0, .string ⟨#[]⟩, .string ⟨#[]⟩, .int .i64 0] 25)) := by show _ = _; rw [hW1, ← hz1]; exact heap_alloc_new _ _
  have HGv1 : Hid (w.heap.size ≤ qv1) := by show _ ≤ _; rw [← hz1]; exact hb0.size
  clear hb0 bw hW1 hz1
  obtain ⟨qv2, hqv2⟩ : ∃ q, q = qv1 + 1 := ⟨_, rfl⟩
  obtain ⟨w2, hW2⟩ : ∃ W, W = (w1).alloc (.cells #[.string ⟨#[]⟩, .slice none 0 0, .slice none 0 0, .int .i64 0, .slice none 0 0, .string ⟨#[]⟩, .int .i64 0] 31) := ⟨_, rfl⟩
  have hz2 : (w1).heap.size = qv2 := by rw [hqv2]; exact hs1
  first | rw [← hW2, ← hqv2] | rw [← hW2]
  have hs2 : w2.heap.size = qv2 + 1 := by rw [hW2, ← hz2]; simp
  have bw : Below (w1).heap.size (w1) w2 := by rw [hW2]; exact (Below.refl _ _).alloc (Nat.le_refl _) _
  have hb2 : Below w.heap.size w (w2) := hb1.trans (bw.mono hb1.size)
  have HBv1_2 : Hid ((w2).heap[qv1]? = some (.cells #[.int .i64 0, .string ⟨#[]⟩, .string ⟨#[]⟩, .int .i64 0] 25)) := blk_below HBv1_1.out bw
  have HNv1v2 : Hid (qv1 ≠ qv2) := fun e => by have h1 := (Array.getElem?_eq_some_iff.1 HBv1_1.out).1; omega
  have HBv2_2 : Hid ((w2).heap[qv2]? = some (.cells #[.string ⟨#[]⟩, .slice none 0 0, .slice none 0 0, .int .i64 0, .slice none 0 0, .string ⟨#[]⟩, .int .i64 0] 31)) := by show _ = _; rw [hW2, ← hz2]; exact heap_alloc_new _ _
  have HGv2 : Hid (w.heap.size ≤ qv2) := by show _ ≤ _; rw [← hz2]; exact hb1.size
  clear hb1 HBv1_1 bw hW2 hz2
  clear hs2 hqv2 hs1 hqv1
  go_wp2_with fail
  refine (l1New_any w.heap.size a len cap zs _ (HCO.out _ hb2)).mono ?_
  rintro e w3 ⟨rfl, hcu, bw⟩
  obtain ⟨c1, hc⟩ : ∃ c, c = w2.heap.size := ⟨_, rfl⟩
  rw [← hc] at hcu ⊢
  have HGC : Hid (w.heap.size ≤ c1) := by show _ ≤ _; rw [hc]; exact hb2.size
  have HBC : Hid (w.heap.size ≤ c1) := HGC.out
  have HCU : Hid (CurAt w3 c1 a len cap) := hcu
  have HNCv1 : Hid (qv1 ≠ c1) := fun e => by have h1 := (Array.getElem?_eq_some_iff.1 HBv1_2.out).1; omega
  have HNCv2 : Hid (qv2 ≠ c1) := fun e => by have h1 := (Array.getElem?_eq_some_iff.1 HBv2_2.out).1; omega
  clear hc hcu
  have hb3 : Below w.heap.size w (w3) := hb2.trans (bw.mono hb2.size)
  have HBv1_3 : Hid ((w3).heap[qv1]? = some (.cells #[.int .i64 0, .string ⟨#[]⟩, .string ⟨#[]⟩, .int .i64 0] 25)) := blk_below HBv1_2.out bw
  have HBv2_3 : Hid ((w3).heap[qv2]? = some (.cells #[.string ⟨#[]⟩, .slice none 0 0, .slice none 0 0, .int .i64 0, .slice none 0 0, .string ⟨#[]⟩, .int .i64 0] 31)) := blk_below HBv2_2.out bw
  clear hb2 HBv1_2 HBv2_2 bw
  have EU_3 : Hid (CurAt w3 c1 a len cap) := HCU.out
  clear HCU
  go_wp2_with fail
  refine (l11Draw_any c1 w.heap.size a len cap zs _ EU_3.out (HCO.out _ hb3) HBC.out).mono ?_
  rintro e w4 ⟨k2, a2, b2, t2, rfl, _, ha2, hb2z, _, hcu, hg⟩
  have HZB2 : Hid (a2.size ≤ 64 ∧ b2.size ≤ 64) := ⟨ha2, hb2z⟩
  clear ha2 hb2z
  have hb4 : Below w.heap.size w (w4) := hb3.grown hg hb3.size (by intro k hk; cases hk; exact HGC.out)
  have HBv1_4 : Hid ((w4).heap[qv1]? = some (.cells #[.int .i64 0, .string ⟨#[]⟩, .string ⟨#[]⟩, .int .i64 0] 25)) := (hg.block _ (Array.getElem?_eq_some_iff.1 HBv1_3.out).1 (fun e => HNCv1.out (Option.some.inj e))).trans HBv1_3.out
  have HBv2_4 : Hid ((w4).heap[qv2]? = some (.cells #[.string ⟨#[]⟩, .slice none 0 0, .slice none 0 0, .int .i64 0, .slice none 0 0, .string ⟨#[]⟩, .int .i64 0] 31)) := (hg.block _ (Array.getElem?_eq_some_iff.1 HBv2_3.out).1 (fun e => HNCv2.out (Option.some.inj e))).trans HBv2_3.out
  have EU_4 : Hid (CurAt w4 c1 a len cap) := hcu
  clear hb3 HBv1_3 HBv2_3 EU_3 hg hcu
  go_upto_region 3 with fail
  obtain ⟨qv3, hqv3⟩ : ∃ q, q = (w4).heap.size := ⟨_, rfl⟩
  obtain ⟨w5, hW5⟩ : ∃ W, W = (w4).alloc (.cells #[.int .i64 k2, .string a2, .string b2, .int .i64 t2] 25) := ⟨_, rfl⟩
  have hz5 : (w4).heap.size = qv3 := hqv3.symm
  first | rw [← hW5, ← hqv3] | rw [← hW5]
  have hs5 : w5.heap.size = qv3 + 1 := by rw [hW5, ← hz5]; simp
  have bw : Below (w4).heap.size (w4) w5 := by rw [hW5]; exact (Below.refl _ _).alloc (Nat.le_refl _) _
  have hb5 : Below w.heap.size w (w5) := hb4.trans (bw.mono hb4.size)
  have HBv1_5 : Hid ((w5).heap[qv1]? = some (.cells #[.int .i64 0, .string ⟨#[]⟩, .string ⟨#[]⟩, .int .i64 0] 25)) := blk_below HBv1_4.out bw
  have HBv2_5 : Hid ((w5).heap[qv2]? = some (.cells #[.string ⟨#[]⟩, .slice none 0 0, .slice none 0 0, .int .i64 0, .slice none 0 0, .string ⟨#[]⟩, .int .i64 0] 31)) := blk_below HBv2_4.out bw
  have EU_5 : Hid (CurAt w5 c1 a len cap) := EU_4.out.below bw EU_4.out.lt
  have HNv1v3 : Hid (qv1 ≠ qv3) := fun e => by have h1 := (Array.getElem?_eq_some_iff.1 HBv1_4.out).1; omega
  have HNv2v3 : Hid (qv2 ≠ qv3) := fun e => by have h1 := (Array.getElem?_eq_some_iff.1 HBv2_4.out).1; omega
  have HBv3_5 : Hid ((w5).heap[qv3]? = some (.cells #[.int .i64 k2, .string a2, .string b2, .int .i64 t2] 25)) := by show _ = _; rw [hW5, ← hz5]; exact heap_alloc_new _ _
  have HNCv3 : Hid (qv3 ≠ c1) := fun e => by have h1 := EU_4.out.lt; omega
  clear hb4 HBv1_4 HBv2_4 EU_4 bw hW5 hz5
  clear hs5 hqv3
  go_upto_region 3 with fail
  refine wp_region_held_drew (S := fun W => W.heap[qv3]? = some (.cells #[.int .i64 k2, .string a2, .string b2, .int .i64 t2] 25)) (by kernel_rfl) HBv3_5.out (fun _ => ?_)
  obtain ⟨w6, hX⟩ : ∃ X, X = w5.drew := ⟨_, rfl⟩
  have bw : Below w5.heap.size w5 w6 := by rw [hX]; exact (Below.refl _ _).drew
  rw [← hX]
  have hb6 : Below w.heap.size w (w6) := hb5.trans (bw.mono hb5.size)
  have HBv1_6 : Hid ((w6).heap[qv1]? = some (.cells #[.int .i64 0, .string ⟨#[]⟩, .string ⟨#[]⟩, .int .i64 0] 25)) := blk_below HBv1_5.out bw
  have HBv2_6 : Hid ((w6).heap[qv2]? = some (.cells #[.string ⟨#[]⟩, .slice none 0 0, .slice none 0 0, .int .i64 0, .slice none 0 0, .string ⟨#[]⟩, .int .i64 0] 31)) := blk_below HBv2_5.out bw
  have HBv3_6 : Hid ((w6).heap[qv3]? = some (.cells #[.int .i64 k2, .string a2, .string b2, .int .i64 t2] 25)) := blk_below HBv3_5.out bw
  have EU_6 : Hid (CurAt w6 c1 a len cap) := EU_5.out.below bw EU_5.out.lt
  have hS6 : w6.heap[qv3]? = some (.cells #[.int .i64 k2, .string a2, .string b2, .int .i64 t2] 25) := HBv3_6.out
  clear hb5 HBv1_5 HBv2_5 HBv3_5 EU_5 bw hX
  refine wpAnyH_takeD (i := 0) (v := .agg #[.int .i64 k2, .string a2, .string b2, .int .i64 t2]) (some 10) rfl rfl (by kernel_rfl) (by kernel_rfl) (by kernel_rfl) (fun _ _ _ h => h) (Or.inl ⟨by rfl, by intro W hW; have hhv3 := hW; have y0 := (cell_of hhv3 0).trans rfl; have y1 := (cell_of hhv3 1).trans rfl; have y2 := (cell_of hhv3 2).trans rfl; have y3 := (cell_of hhv3 3).trans rfl; go_simp⟩) hS6 ?_
  simp only [Act.put, List.setIfInBounds_toArray, List.set_cons_zero, List.set_cons_succ]
  refine wpAnyH_takeD (i := 1) (v := .pointer (some ⟨c1, 0, none⟩)) (some 11) rfl rfl (by kernel_rfl) (by kernel_rfl) (by kernel_rfl) (fun _ _ _ h => h) (Or.inl ⟨by rfl, by intro W _; go_simp⟩) hS6 ?_
  simp only [Act.put, List.setIfInBounds_toArray, List.set_cons_zero, List.set_cons_succ]
  refine wpAnyH_ready (rs := [2]) (by kernel_rfl) (by simp) ?_
  refine AllReadyH.cons rfl (fun K hK => ?_) AllReadyH.nil
  go_simp
  refine (l10Draw_any c1 w.heap.size a len cap zs _ EU_6.out (HCO.out _ hb6) HBC.out).mono ?_
  rintro e w7 ⟨p3, vv1, xs3, vv2, ys3, st3, vv3, fs3, d3, u3, rfl, ⟨ownX3, ownY3, ownG3⟩, hsm3, hcu, hg⟩
  obtain ⟨oX3, pX3, rfl⟩ := slice_of_owns ownX3
  obtain ⟨oY3, pY3, rfl⟩ := slice_of_owns ownY3
  obtain ⟨oG3, pG3, rfl⟩ := slice_of_owns ownG3
  have HSM3 : Hid (SmallO p3 xs3 ys3 fs3 d3 u3) := hsm3
  clear hsm3
  have hb7 : Below w.heap.size w (w7) := hb6.grown hg hb6.size (by intro k hk; cases hk; exact HGC.out)
  have HBv1_7 : Hid ((w7).heap[qv1]? = some (.cells #[.int .i64 0, .string ⟨#[]⟩, .string ⟨#[]⟩, .int .i64 0] 25)) := (hg.block _ (Array.getElem?_eq_some_iff.1 HBv1_6.out).1 (fun e => HNCv1.out (Option.some.inj e))).trans HBv1_6.out
  have HBv2_7 : Hid ((w7).heap[qv2]? = some (.cells #[.string ⟨#[]⟩, .slice none 0 0, .slice none 0 0, .int .i64 0, .slice none 0 0, .string ⟨#[]⟩, .int .i64 0] 31)) := (hg.block _ (Array.getElem?_eq_some_iff.1 HBv2_6.out).1 (fun e => HNCv2.out (Option.some.inj e))).trans HBv2_6.out
  have HBv3_7 : Hid ((w7).heap[qv3]? = some (.cells #[.int .i64 k2, .string a2, .string b2, .int .i64 t2] 25)) := (hg.block _ (Array.getElem?_eq_some_iff.1 HBv3_6.out).1 (fun e => HNCv3.out (Option.some.inj e))).trans HBv3_6.out
  have EU_7 : Hid (CurAt w7 c1 a len cap) := hcu
  have HOX3_7 : Hid ((w7).ownsRow w.heap.size 9 1 (.slice oX3 xs3.length pX3) xs3.length (xs3.map Value.string)) := owns_wide ownX3 hb6.size
  clear ownX3
  have HOY3_7 : Hid ((w7).ownsRow w.heap.size 9 1 (.slice oY3 ys3.length pY3) ys3.length (ys3.map Value.string)) := owns_wide ownY3 hb6.size
  clear ownY3
  have HOG3_7 : Hid ((w7).ownsRow w.heap.size 75 2 (.slice oG3 fs3.length pG3) fs3.length (flatF fs3)) := owns_wide ownG3 hb6.size
  clear ownG3
  clear hb6 HBv1_6 HBv2_6 HBv3_6 EU_6 hg hcu
  have hS7 : w7.heap[qv3]? = some (.cells #[.int .i64 k2, .string a2, .string b2, .int .i64 t2] 25) := HBv3_7.out
  refine hK.out _ _ hS7 (fun _ => ?_)
  clear hK K hS6
  refine wpAnyH_ready (rs := [3]) (by kernel_rfl) (by simp) ?_
  refine AllReadyH.cons rfl (fun K hK => ?_) AllReadyH.nil
  have ce0 : (w7).cell? ⟨qv1, 0, none⟩ = some (.int .i64 0) := (cell_of HBv1_7.out 0).trans rfl
  have fe0 : (w7).frozen? ⟨qv1, 0, none⟩ = false := frozen_of HBv1_7.out 0
  have ce1 : (w7).cell? ⟨qv1, 1, none⟩ = some (.string ⟨#[]⟩) := (cell_of HBv1_7.out 1).trans rfl
  have fe1 : (w7).frozen? ⟨qv1, 1, none⟩ = false := frozen_of HBv1_7.out 1
  have ce2 : (w7).cell? ⟨qv1, 2, none⟩ = some (.string ⟨#[]⟩) := (cell_of HBv1_7.out 2).trans rfl
  have fe2 : (w7).frozen? ⟨qv1, 2, none⟩ = false := frozen_of HBv1_7.out 2
  have ce3 : (w7).cell? ⟨qv1, 3, none⟩ = some (.int .i64 0) := (cell_of HBv1_7.out 3).trans rfl
  have fe3 : (w7).frozen? ⟨qv1, 3, none⟩ = false := frozen_of HBv1_7.out 3
  obtain ⟨w8, hY⟩ : ∃ Y, Y = ((((w7.setCell ⟨qv1, 0, none⟩ (.int .i64 k2)).setCell ⟨qv1, 1, none⟩ (.string a2)).setCell ⟨qv1, 2, none⟩ (.string b2)).setCell ⟨qv1, 3, none⟩ (.int .i64 t2)) := ⟨_, rfl⟩
  have HY : Hid (((((w7.setCell ⟨qv1, 0, none⟩ (.int .i64 k2)).setCell ⟨qv1, 1, none⟩ (.string a2)).setCell ⟨qv1, 2, none⟩ (.string b2)).setCell ⟨qv1, 3, none⟩ (.int .i64 t2)) = w8) := hY.symm
  have hb8 : Below w.heap.size w (w8) := by rw [hY]; exact ((((hb7.setCell (p := ⟨qv1, 0, none⟩) HGv1.out _).setCell (p := ⟨qv1, 1, none⟩) HGv1.out _).setCell (p := ⟨qv1, 2, none⟩) HGv1.out _).setCell (p := ⟨qv1, 3, none⟩) HGv1.out _)
  have HOX3_8 : Hid ((w8).ownsRow w.heap.size 9 1 (.slice oX3 xs3.length pX3) xs3.length (xs3.map Value.string)) := by show World.ownsRow _ _ _ _ _ _ _; rw [hY]; exact owns_same HOX3_7.out (fun g hg => by have hne := own_ne HOX3_7.out HBv1_7.out (by decide) g hg; rw [heap_setCell_other _ _ g _ hne, heap_setCell_other _ _ g _ hne, heap_setCell_other _ _ g _ hne, heap_setCell_other _ _ g _ hne])
  have HOY3_8 : Hid ((w8).ownsRow w.heap.size 9 1 (.slice oY3 ys3.length pY3) ys3.length (ys3.map Value.string)) := by show World.ownsRow _ _ _ _ _ _ _; rw [hY]; exact owns_same HOY3_7.out (fun g hg => by have hne := own_ne HOY3_7.out HBv1_7.out (by decide) g hg; rw [heap_setCell_other _ _ g _ hne, heap_setCell_other _ _ g _ hne, heap_setCell_other _ _ g _ hne, heap_setCell_other _ _ g _ hne])
  have HOG3_8 : Hid ((w8).ownsRow w.heap.size 75 2 (.slice oG3 fs3.length pG3) fs3.length (flatF fs3)) := by show World.ownsRow _ _ _ _ _ _ _; rw [hY]; exact owns_same HOG3_7.out (fun g hg => by have hne := own_ne HOG3_7.out HBv1_7.out (by decide) g hg; rw [heap_setCell_other _ _ g _ hne, heap_setCell_other _ _ g _ hne, heap_setCell_other _ _ g _ hne, heap_setCell_other _ _ g _ hne])
  have HBv2_8 : Hid ((w8).heap[qv2]? = some (.cells #[.string ⟨#[]⟩, .slice none 0 0, .slice none 0 0, .int .i64 0, .slice none 0 0, .string ⟨#[]⟩, .int .i64 0] 31)) := by show _ = _; rw [hY, heap_setCell_other _ _ _ _ HNv1v2.out.symm, heap_setCell_other _ _ _ _ HNv1v2.out.symm, heap_setCell_other _ _ _ _ HNv1v2.out.symm, heap_setCell_other _ _ _ _ HNv1v2.out.symm]; exact HBv2_7.out
  have HBv3_8 : Hid ((w8).heap[qv3]? = some (.cells #[.int .i64 k2, .string a2, .string b2, .int .i64 t2] 25)) := by show _ = _; rw [hY, heap_setCell_other _ _ _ _ HNv1v3.out.symm, heap_setCell_other _ _ _ _ HNv1v3.out.symm, heap_setCell_other _ _ _ _ HNv1v3.out.symm, heap_setCell_other _ _ _ _ HNv1v3.out.symm]; exact HBv3_7.out
  have EU_8 : Hid (CurAt w8 c1 a len cap) := by show CurAt _ _ _ _ _; rw [hY]; exact (cur_set (cur_set (cur_set (cur_set EU_7.out HNCv1.out 0 _) HNCv1.out 1 _) HNCv1.out 2 _) HNCv1.out 3 _)
  have HBv1_8 : Hid ((w8).heap[qv1]? = some (.cells #[.int .i64 k2, .string a2, .string b2, .int .i64 t2] 25)) := by show _ = _; rw [hY]; have h := (heap_set _ qv1 3 _ _ _ (.int .i64 t2) (heap_set _ qv1 2 _ _ _ (.string b2) (heap_set _ qv1 1 _ _ _ (.string a2) (heap_set _ qv1 0 _ _ _ (.int .i64 k2) HBv1_7.out)))); simpa using h
  clear hY hb7 HOX3_7 HOY3_7 HOG3_7 HBv1_7 HBv2_7 HBv3_7 EU_7
  go_simp
  rw [HY.out]
  have hS8 : w8.heap[qv3]? = some (.cells #[.int .i64 k2, .string a2, .string b2, .int .i64 t2] 25) := HBv3_8.out
  refine hK.out _ _ hS8 (fun _ => ?_)
  clear hK K HY hS7 ce0 fe0 ce1 fe1 ce2 fe2 ce3 fe3
  refine wpAnyH_ready (rs := [4]) (by kernel_rfl) (by simp) ?_
  refine AllReadyH.cons rfl (fun K hK => ?_) AllReadyH.nil
  have ce0 : (w8).cell? ⟨qv2, 0, none⟩ = some (.string ⟨#[]⟩) := (cell_of HBv2_8.out 0).trans rfl
  have fe0 : (w8).frozen? ⟨qv2, 0, none⟩ = false := frozen_of HBv2_8.out 0
  have ce1 : (w8).cell? ⟨qv2, 1, none⟩ = some (.slice none 0 0) := (cell_of HBv2_8.out 1).trans rfl
  have fe1 : (w8).frozen? ⟨qv2, 1, none⟩ = false := frozen_of HBv2_8.out 1
  have ce2 : (w8).cell? ⟨qv2, 2, none⟩ = some (.slice none 0 0) := (cell_of HBv2_8.out 2).trans rfl
  have fe2 : (w8).frozen? ⟨qv2, 2, none⟩ = false := frozen_of HBv2_8.out 2
  have ce3 : (w8).cell? ⟨qv2, 3, none⟩ = some (.int .i64 0) := (cell_of HBv2_8.out 3).trans rfl
  have fe3 : (w8).frozen? ⟨qv2, 3, none⟩ = false := frozen_of HBv2_8.out 3
  have ce4 : (w8).cell? ⟨qv2, 4, none⟩ = some (.slice none 0 0) := (cell_of HBv2_8.out 4).trans rfl
  have fe4 : (w8).frozen? ⟨qv2, 4, none⟩ = false := frozen_of HBv2_8.out 4
  have ce5 : (w8).cell? ⟨qv2, 5, none⟩ = some (.string ⟨#[]⟩) := (cell_of HBv2_8.out 5).trans rfl
  have fe5 : (w8).frozen? ⟨qv2, 5, none⟩ = false := frozen_of HBv2_8.out 5
  have ce6 : (w8).cell? ⟨qv2, 6, none⟩ = some (.int .i64 0) := (cell_of HBv2_8.out 6).trans rfl
  have fe6 : (w8).frozen? ⟨qv2, 6, none⟩ = false := frozen_of HBv2_8.out 6
  obtain ⟨w9, hY⟩ : ∃ Y, Y = (((((((w8.setCell ⟨qv2, 0, none⟩ (.string p3)).setCell ⟨qv2, 1, none⟩ (.slice oX3 xs3.length pX3)).setCell ⟨qv2, 2, none⟩ (.slice oY3 ys3.length pY3)).setCell ⟨qv2, 3, none⟩ (.int .i64 st3)).setCell ⟨qv2, 4, none⟩ (.slice oG3 fs3.length pG3)).setCell ⟨qv2, 5, none⟩ (.string d3)).setCell ⟨qv2, 6, none⟩ (.int .i64 u3)) := ⟨_, rfl⟩
  have HY : Hid ((((((((w8.setCell ⟨qv2, 0, none⟩ (.string p3)).setCell ⟨qv2, 1, none⟩ (.slice oX3 xs3.length pX3)).setCell ⟨qv2, 2, none⟩ (.slice oY3 ys3.length pY3)).setCell ⟨qv2, 3, none⟩ (.int .i64 st3)).setCell ⟨qv2, 4, none⟩ (.slice oG3 fs3.length pG3)).setCell ⟨qv2, 5, none⟩ (.string d3)).setCell ⟨qv2, 6, none⟩ (.int .i64 u3)) = w9) := hY.symm
  have hb9 : Below w.heap.size w (w9) := by rw [hY]; exact (((((((hb8.setCell (p := ⟨qv2, 0, none⟩) HGv2.out _).setCell (p := ⟨qv2, 1, none⟩) HGv2.out _).setCell (p := ⟨qv2, 2, none⟩) HGv2.out _).setCell (p := ⟨qv2, 3, none⟩) HGv2.out _).setCell (p := ⟨qv2, 4, none⟩) HGv2.out _).setCell (p := ⟨qv2, 5, none⟩) HGv2.out _).setCell (p := ⟨qv2, 6, none⟩) HGv2.out _)
  have HOX3_9 : Hid ((w9).ownsRow w.heap.size 9 1 (.slice oX3 xs3.length pX3) xs3.length (xs3.map Value.string)) := by show World.ownsRow _ _ _ _ _ _ _; rw [hY]; exact owns_same HOX3_8.out (fun g hg => by have hne := own_ne HOX3_8.out HBv2_8.out (by decide) g hg; rw [heap_setCell_other _ _ g _ hne, heap_setCell_other _ _ g _ hne, heap_setCell_other _ _ g _ hne, heap_setCell_other _ _ g _ hne, heap_setCell_other _ _ g _ hne, heap_setCell_other _ _ g _ hne, heap_setCell_other _ _ g _ hne])
  have HOY3_9 : Hid ((w9).ownsRow w.heap.size 9 1 (.slice oY3 ys3.length pY3) ys3.length (ys3.map Value.string)) := by show World.ownsRow _ _ _ _ _ _ _; rw [hY]; exact owns_same HOY3_8.out (fun g hg => by have hne := own_ne HOY3_8.out HBv2_8.out (by decide) g hg; rw [heap_setCell_other _ _ g _ hne, heap_setCell_other _ _ g _ hne, heap_setCell_other _ _ g _ hne, heap_setCell_other _ _ g _ hne, heap_setCell_other _ _ g _ hne, heap_setCell_other _ _ g _ hne, heap_setCell_other _ _ g _ hne])
  have HOG3_9 : Hid ((w9).ownsRow w.heap.size 75 2 (.slice oG3 fs3.length pG3) fs3.length (flatF fs3)) := by show World.ownsRow _ _ _ _ _ _ _; rw [hY]; exact owns_same HOG3_8.out (fun g hg => by have hne := own_ne HOG3_8.out HBv2_8.out (by decide) g hg; rw [heap_setCell_other _ _ g _ hne, heap_setCell_other _ _ g _ hne, heap_setCell_other _ _ g _ hne, heap_setCell_other _ _ g _ hne, heap_setCell_other _ _ g _ hne, heap_setCell_other _ _ g _ hne, heap_setCell_other _ _ g _ hne])
  have HBv1_9 : Hid ((w9).heap[qv1]? = some (.cells #[.int .i64 k2, .string a2, .string b2, .int .i64 t2] 25)) := by show _ = _; rw [hY, heap_setCell_other _ _ _ _ HNv1v2.out, heap_setCell_other _ _ _ _ HNv1v2.out, heap_setCell_other _ _ _ _ HNv1v2.out, heap_setCell_other _ _ _ _ HNv1v2.out, heap_setCell_other _ _ _ _ HNv1v2.out, heap_setCell_other _ _ _ _ HNv1v2.out, heap_setCell_other _ _ _ _ HNv1v2.out]; exact HBv1_8.out
  have HBv3_9 : Hid ((w9).heap[qv3]? = some (.cells #[.int .i64 k2, .string a2, .string b2, .int .i64 t2] 25)) := by show _ = _; rw [hY, heap_setCell_other _ _ _ _ HNv2v3.out.symm, heap_setCell_other _ _ _ _ HNv2v3.out.symm, heap_setCell_other _ _ _ _ HNv2v3.out.symm, heap_setCell_other _ _ _ _ HNv2v3.out.symm, heap_setCell_other _ _ _ _ HNv2v3.out.symm, heap_setCell_other _ _ _ _ HNv2v3.out.symm, heap_setCell_other _ _ _ _ HNv2v3.out.symm]; exact HBv3_8.out
  have EU_9 : Hid (CurAt w9 c1 a len cap) := by show CurAt _ _ _ _ _; rw [hY]; exact (cur_set (cur_set (cur_set (cur_set (cur_set (cur_set (cur_set EU_8.out HNCv2.out 0 _) HNCv2.out 1 _) HNCv2.out 2 _) HNCv2.out 3 _) HNCv2.out 4 _) HNCv2.out 5 _) HNCv2.out 6 _)
  have HBv2_9 : Hid ((w9).heap[qv2]? = some (.cells #[.string p3, .slice oX3 xs3.length pX3, .slice oY3 ys3.length pY3, .int .i64 st3, .slice oG3 fs3.length pG3, .string d3, .int .i64 u3] 31)) := by show _ = _; rw [hY]; have h := (heap_set _ qv2 6 _ _ _ (.int .i64 u3) (heap_set _ qv2 5 _ _ _ (.string d3) (heap_set _ qv2 4 _ _ _ (.slice oG3 fs3.length pG3) (heap_set _ qv2 3 _ _ _ (.int .i64 st3) (heap_set _ qv2 2 _ _ _ (.slice oY3 ys3.length pY3) (heap_set _ qv2 1 _ _ _ (.slice oX3 xs3.length pX3) (heap_set _ qv2 0 _ _ _ (.string p3) HBv2_8.out))))))); simpa using h
  clear hY hb8 HOX3_8 HOY3_8 HOG3_8 HBv1_8 HBv2_8 HBv3_8 EU_8
  go_simp
  rw [HY.out]
  have hS9 : w9.heap[qv3]? = some (.cells #[.int .i64 k2, .string a2, .string b2, .int .i64 t2] 25) := HBv3_9.out
  refine hK.out _ _ hS9 (fun _ => ?_)
  clear hK K HY hS8 ce0 fe0 ce1 fe1 ce2 fe2 ce3 fe3 ce4 fe4 ce5 fe5 ce6 fe6
  clear hS9
  refine wpAnyH_done (by kernel_rfl) ?_ _
  go_wp2_with fail
  have kv1_0 : (w9).cell? ⟨qv1, 0, none⟩ = some (.int .i64 k2) := (cell_of HBv1_9.out 0).trans rfl
  have kv1_1 : (w9).cell? ⟨qv1, 1, none⟩ = some (.string a2) := (cell_of HBv1_9.out 1).trans rfl
  have kv1_2 : (w9).cell? ⟨qv1, 2, none⟩ = some (.string b2) := (cell_of HBv1_9.out 2).trans rfl
  have kv1_3 : (w9).cell? ⟨qv1, 3, none⟩ = some (.int .i64 t2) := (cell_of HBv1_9.out 3).trans rfl
  have kv2_0 : (w9).cell? ⟨qv2, 0, none⟩ = some (.string p3) := (cell_of HBv2_9.out 0).trans rfl
  have kv2_1 : (w9).cell? ⟨qv2, 1, none⟩ = some (.slice oX3 xs3.length pX3) := (cell_of HBv2_9.out 1).trans rfl
  have kv2_2 : (w9).cell? ⟨qv2, 2, none⟩ = some (.slice oY3 ys3.length pY3) := (cell_of HBv2_9.out 2).trans rfl
  have kv2_3 : (w9).cell? ⟨qv2, 3, none⟩ = some (.int .i64 st3) := (cell_of HBv2_9.out 3).trans rfl
  have kv2_4 : (w9).cell? ⟨qv2, 4, none⟩ = some (.slice oG3 fs3.length pG3) := (cell_of HBv2_9.out 4).trans rfl
  have kv2_5 : (w9).cell? ⟨qv2, 5, none⟩ = some (.string d3) := (cell_of HBv2_9.out 5).trans rfl
  have kv2_6 : (w9).cell? ⟨qv2, 6, none⟩ = some (.int .i64 u3) := (cell_of HBv2_9.out 6).trans rfl
  refine bodyPost_ret (v := .tuple #[.agg #[.int .i64 k2, .string a2, .string b2, .int .i64 t2], .agg #[.string p3, .slice oX3 xs3.length pX3, .slice oY3 ys3.length pY3, .int .i64 st3, .slice oG3 fs3.length pG3, .string d3, .int .i64 u3]]) (by simp [results, Tryz.results5, go_sem, kv1_0, kv1_1, kv1_2, kv1_3, kv2_0, kv2_1, kv2_2, kv2_3, kv2_4, kv2_5, kv2_6]) rfl ?_
  exact ⟨_, _, _, _, _, _, _, _, _, _, _, _, _, _, rfl, HZB2.out, ⟨HOX3_9.out, HOY3_9.out, HOG3_9.out⟩, HSM3.out, hb9⟩

set_option maxHeartbeats 8000000 in
set_option maxRecDepth 100000 in
theorem drawHitsAny_any (a : Option Addr) (len cap : Nat) (zs : List Int) (w : World) (hcode : CodeAt w w.heap.size a len zs) :
    Calls Tryz.prog 10 #[.slice a len cap] w fun e w' => DrewLO w e w' := by
  obtain ⟨i0, hi, hz0, hz1, hz2⟩ := info_parts infoBan
  have HCO : Hid (∀ W, Below w.heap.size w W → CodeAt W w.heap.size a len zs) := fun W h => hcode.below h
  clear hcode
  have hb0 : Below w.heap.size w w := Below.refl _ _
  go_enter Tryz.func10, Tryz.ntmps10
  go_upto_region 1 with fail
  obtain ⟨qv1, hqv1⟩ : ∃ q, q = (w).heap.size := ⟨_, rfl⟩
  obtain ⟨w1, hW1⟩ : ∃ W, W = (w).alloc (.cells #[.string ⟨#[]⟩, .slice none 0 0, .slice none 0 0, .int .i64 0, .slice none 0 0, .string ⟨#[]⟩, .int .i64 0] 31) := ⟨_, rfl⟩
  have hz1 : (w).heap.size = qv1 := hqv1.symm
  first | rw [← hW1, ← hqv1] | rw [← hW1]
  have hs1 : w1.heap.size = qv1 + 1 := by rw [hW1, ← hz1]; simp
  have bw : Below (w).heap.size (w) w1 := by rw [hW1]; exact (Below.refl _ _).alloc (Nat.le_refl _) _
  have hb1 : Below w.heap.size w (w1) := hb0.trans (bw.mono hb0.size)
  have HBv1_1 : Hid ((w1).heap[qv1]? = some (.cells #[.string ⟨#[]⟩, .slice none 0 0, .slice none 0 0, .int .i64 0, .slice none 0 0, .string ⟨#[]⟩, .int .i64 0] 31)) := by show _ = _; rw [hW1, ← hz1]; exact heap_alloc_new _ _
  have HGv1 : Hid (w.heap.size ≤ qv1) := by show _ ≤ _; rw [← hz1]; exact hb0.size
  clear hb0 bw hW1 hz1
  clear hs1 hqv1
  go_wp2_with fail
  refine (l1New_any w.heap.size a len cap zs _ (HCO.out _ hb1)).mono ?_
  rintro e w2 ⟨rfl, hcu, bw⟩
  obtain ⟨c1, hc⟩ : ∃ c, c = w1.heap.size := ⟨_, rfl⟩
  rw [← hc] at hcu ⊢
  have HGC : Hid (w.heap.size ≤ c1) := by show _ ≤ _; rw [hc]; exact hb1.size
  have HBC : Hid (w.heap.size ≤ c1) := HGC.out
  have HCU : Hid (CurAt w2 c1 a len cap) := hcu
  have HNCv1 : Hid (qv1 ≠ c1) := fun e => by have h1 := (Array.getElem?_eq_some_iff.1 HBv1_1.out).1; omega
  clear hc hcu
  have hb2 : Below w.heap.size w (w2) := hb1.trans (bw.mono hb1.size)
  have HBv1_2 : Hid ((w2).heap[qv1]? = some (.cells #[.string ⟨#[]⟩, .slice none 0 0, .slice none 0 0, .int .i64 0, .slice none 0 0, .string ⟨#[]⟩, .int .i64 0] 31)) := blk_below HBv1_1.out bw
  clear hb1 HBv1_1 bw
  have EU_2 : Hid (CurAt w2 c1 a len cap) := HCU.out
  clear HCU
  go_upto_region 3 with fail
  obtain ⟨qv2, hqv2⟩ : ∃ q, q = (w2).heap.size := ⟨_, rfl⟩
  obtain ⟨w3, hW3⟩ : ∃ W, W = (w2).alloc (.cells #[] 25) := ⟨_, rfl⟩
  have hz3 : (w2).heap.size = qv2 := hqv2.symm
  first | rw [← hW3, ← hqv2] | rw [← hW3]
  have hs3 : w3.heap.size = qv2 + 1 := by rw [hW3, ← hz3]; simp
  have bw : Below (w2).heap.size (w2) w3 := by rw [hW3]; exact (Below.refl _ _).alloc (Nat.le_refl _) _
  have hb3 : Below w.heap.size w (w3) := hb2.trans (bw.mono hb2.size)
  have HBv1_3 : Hid ((w3).heap[qv1]? = some (.cells #[.string ⟨#[]⟩, .slice none 0 0, .slice none 0 0, .int .i64 0, .slice none 0 0, .string ⟨#[]⟩, .int .i64 0] 31)) := blk_below HBv1_2.out bw
  have EU_3 : Hid (CurAt w3 c1 a len cap) := EU_2.out.below bw EU_2.out.lt
  have HBv2_3 : Hid ((w3).heap[qv2]? = some (.cells #[] 25)) := by show _ = _; rw [hW3, ← hz3]; exact heap_alloc_new _ _
  have HGv2 : Hid (w.heap.size ≤ qv2) := by show _ ≤ _; rw [← hz3]; exact hb2.size
  clear hb2 HBv1_2 EU_2 bw hW3 hz3
  clear hs3 hqv2
  have HOL_3 : Hid ((w3).ownsRow w.heap.size 25 4 (.slice (some ⟨qv2, 0, none⟩) 0 0) 0 (flatBan [])) := ⟨rfl, .inr ⟨_, 0, #[], rfl, HGv2.out, HBv2_3.out, Nat.le_refl _, Nat.zero_le _, rfl, rfl⟩⟩
  clear HBv2_3
  go_wp2_with fail
  go_loopw [5, 6] (fun v i wr => ∃ (j : Nat) (l : List (Int × ByteArray × ByteArray × Int)) (oL : Option Addr) (pL : Nat), j ≤ 4 ∧ i = .int .i64 (j : Int) ∧ v = .slice oL l.length pL ∧ l.length ≤ j ∧ Hid (Below w.heap.size w wr ∧ CurAt wr c1 a len cap ∧ (wr).heap[qv1]? = some (.cells #[.string ⟨#[]⟩, .slice none 0 0, .slice none 0 0, .int .i64 0, .slice none 0 0, .string ⟨#[]⟩, .int .i64 0] 31)) ∧ Hid ((wr).ownsRow w.heap.size 25 4 (.slice oL l.length pL) l.length (flatBan l)) ∧ Hid (∀ x ∈ l, (x.2.1).size ≤ 64 ∧ (x.2.2.1).size ≤ 64)) (fun _ i _ => 4 - (intOf i).toNat)
  case atStart => exact ⟨0, [], _, 0, by omega, rfl, rfl, Nat.le_refl _, ⟨hb3, EU_3.out, HBv1_3.out⟩, HOL_3.out, fun x hx => by simp at hx⟩
  case round =>
    obtain ⟨j, l, oL, pL, hj, rfl, rfl, hjl, HW, HOW, HSH⟩ := hrel
    have hb4 := HW.out.1
    have EU_4 : Hid (CurAt wr c1 a len cap) := HW.out.2.1
    have HBv1_4 : Hid ((wr).heap[qv1]? = some (.cells #[.string ⟨#[]⟩, .slice none 0 0, .slice none 0 0, .int .i64 0, .slice none 0 0, .string ⟨#[]⟩, .int .i64 0] 31)) := HW.out.2.2
    have HOL_4 : Hid ((wr).ownsRow w.heap.size 25 4 (.slice oL l.length pL) l.length (flatBan l)) := HOW.out
    clear HW HOW hb3 EU_3 HBv1_3 HOL_3
    go_wp2_with fail
    refine (l1Below_any c1 w.heap.size 4 a len cap zs _ EU_4.out (HCO.out _ hb4) HBC.out (by decide) (by decide)).mono ?_
    rintro e w5 ⟨n2, rfl, hn02, hn12, hcu, hg⟩
    have hb5 : Below w.heap.size w (w5) := hb4.grown hg hb4.size (by intro k hk; cases hk; exact HGC.out)
    have HOL_5 : Hid ((w5).ownsRow w.heap.size 25 4 (.slice oL l.length pL) l.length (flatBan l)) := owns_same HOL_4.out (fun g hgg => hg.block g (owns_lt HOL_4.out hgg) (fun e => own_cur HOL_4.out EU_4.out (by decide) g hgg (Option.some.inj e)))
    have HBv1_5 : Hid ((w5).heap[qv1]? = some (.cells #[.string ⟨#[]⟩, .slice none 0 0, .slice none 0 0, .int .i64 0, .slice none 0 0, .string ⟨#[]⟩, .int .i64 0] 31)) := (hg.block _ (Array.getElem?_eq_some_iff.1 HBv1_4.out).1 (fun e => HNCv1.out (Option.some.inj e))).trans HBv1_4.out
    have EU_5 : Hid (CurAt w5 c1 a len cap) := hcu
    clear hb4 HOL_4 HBv1_4 EU_4 hg hcu
    by_cases hc1 : (j : Int) < n2
    · go_wp2_with fail
      refine (l11Draw_any c1 w.heap.size a len cap zs _ EU_5.out (HCO.out _ hb5) HBC.out).mono ?_
      rintro e w6 ⟨k3, a3, b3, t3, rfl, _, ha3, hb3z, _, hcu, hg⟩
      have HZB3 : Hid (a3.size ≤ 64 ∧ b3.size ≤ 64) := ⟨ha3, hb3z⟩
      clear ha3 hb3z
      have hb6 : Below w.heap.size w (w6) := hb5.grown hg hb5.size (by intro k hk; cases hk; exact HGC.out)
      have HM6 : Hid ((w5).heap.size ≤ (w6).heap.size) := hg.size
      have HOL_6 : Hid ((w6).ownsRow w.heap.size 25 4 (.slice oL l.length pL) l.length (flatBan l)) := owns_same HOL_5.out (fun g hgg => hg.block g (owns_lt HOL_5.out hgg) (fun e => own_cur HOL_5.out EU_5.out (by decide) g hgg (Option.some.inj e)))
      have HBv1_6 : Hid ((w6).heap[qv1]? = some (.cells #[.string ⟨#[]⟩, .slice none 0 0, .slice none 0 0, .int .i64 0, .slice none 0 0, .string ⟨#[]⟩, .int .i64 0] 31)) := (hg.block _ (Array.getElem?_eq_some_iff.1 HBv1_5.out).1 (fun e => HNCv1.out (Option.some.inj e))).trans HBv1_5.out
      have EU_6 : Hid (CurAt w6 c1 a len cap) := hcu
      clear hb5 HOL_5 HBv1_5 EU_5 hg hcu
      have hown := HOL_6.out
      have h63 : l.length + 1 ≤ maxLen := by unfold maxLen; omega
      have h47 : (l.length + 1) * 48 ≤ 140737488355328 := by omega
      have HBS : ∀ o, w.heap.size ≤ (w6.alloc o).heap.size := fun o => by have := hb6.size; simp; omega
      go_wp2_with (at_builtin; refine wpList_append_own _ rfl _ _ 37 rfl w.heap.size 25 i0 (.agg #[.int .i64 0, .string ⟨#[]⟩, .string ⟨#[]⟩, .int .i64 0]) 4 48 Tryz.underlying37 hi hz0 hz1 hz2 rfl (by decide) _ _ _ rfl (hown.alloc _) ⟨w6.heap.size, 0, none⟩ 1 1 [.int .i64 k3, .string a3, .string b3, .int .i64 t3] rfl rfl (cell_four_new _ _ _ _ _ _) (by intro u hu; simp at hu; rcases hu with rfl | rfl | rfl | rfl <;> rfl) h63 h47 (HBS _) ?_)
      intro v1 w7 hown2 hgrow _
      have bA : Below w6.heap.size w6 (w6.alloc (.cells #[.int .i64 k3, .string a3, .string b3, .int .i64 t3] 25)) := (Below.refl _ _).alloc (Nat.le_refl _) _
      have rowGe : ∀ g, (.slice oL l.length pL : Value).ownBlock = some g → w.heap.size ≤ g := fun g hg => owns_ge hown hg
      have hb7 : Below w.heap.size w (w7) := (hb6.trans (bA.mono hb6.size)).grown hgrow (HBS _) rowGe
      have HM7 : Hid ((w6).heap.size ≤ w7.heap.size) := Nat.le_trans bA.size hgrow.size
      have HBv1_7 : Hid ((w7).heap[qv1]? = some (.cells #[.string ⟨#[]⟩, .slice none 0 0, .slice none 0 0, .int .i64 0, .slice none 0 0, .string ⟨#[]⟩, .int .i64 0] 31)) := (hgrow.block _ (Nat.lt_of_lt_of_le (Array.getElem?_eq_some_iff.1 HBv1_6.out).1 bA.size) (fun e => own_ne hown HBv1_6.out (by decide) _ e.symm rfl)).trans (blk_below HBv1_6.out bA)
      have EU_7 : Hid (CurAt w7 c1 a len cap) := (EU_6.out.below bA EU_6.out.lt).grown hgrow (fun e => own_cur hown EU_6.out (by decide) _ e rfl)
      obtain ⟨oLp, pLp, rfl⟩ := slice_of_owns hown2
      have HOLp_7 : Hid ((w7).ownsRow w.heap.size 25 4 (.slice oLp (l.length + 1) pLp) (l.length + 1) ((flatBan l) ++ [.int .i64 k3, .string a3, .string b3, .int .i64 t3])) := hown2
      clear hb6 HOL_6 HBv1_6 EU_6 hown h63 h47 HBS hown2 hgrow bA rowGe
      go_wp2_with fail
      go_roundw
      case rel => exact ⟨j + 1, l ++ [(k3, a3, b3, t3)], oLp, pLp, by omega, by go_num, (by rw [List.length_append]; rfl), (by rw [List.length_append]; exact Nat.succ_le_succ hjl), ⟨hb7, EU_7.out, HBv1_7.out⟩, (by show World.ownsRow _ _ _ _ _ _ _; rw [List.length_append, flatBan_append, flatBan_one]; exact HOLp_7.out), fun x hx => by
        rcases List.mem_append.1 hx with hx | hx
        · exact HSH.out x hx
        · rw [List.mem_singleton.1 hx]; exact HZB3.out⟩
      case measure => simp [intOf]; omega
    · go_wp2_with fail
      refine (l10Draw_any c1 w.heap.size a len cap zs _ EU_5.out (HCO.out _ hb5) HBC.out).mono ?_
      rintro e w6 ⟨p3, vv1, xs3, vv2, ys3, st3, vv3, fs3, d3, u3, rfl, ⟨ownX3, ownY3, ownG3⟩, hsm3, hcu, hg⟩
      obtain ⟨oX3, pX3, rfl⟩ := slice_of_owns ownX3
      obtain ⟨oY3, pY3, rfl⟩ := slice_of_owns ownY3
      obtain ⟨oG3, pG3, rfl⟩ := slice_of_owns ownG3
      have HSM3 : Hid (SmallO p3 xs3 ys3 fs3 d3 u3) := hsm3
      clear hsm3
      have hb6 : Below w.heap.size w (w6) := hb5.grown hg hb5.size (by intro k hk; cases hk; exact HGC.out)
      have HM6 : Hid ((w5).heap.size ≤ (w6).heap.size) := hg.size
      have HOL_6 : Hid ((w6).ownsRow w.heap.size 25 4 (.slice oL l.length pL) l.length (flatBan l)) := owns_same HOL_5.out (fun g hgg => hg.block g (owns_lt HOL_5.out hgg) (fun e => own_cur HOL_5.out EU_5.out (by decide) g hgg (Option.some.inj e)))
      have HBv1_6 : Hid ((w6).heap[qv1]? = some (.cells #[.string ⟨#[]⟩, .slice none 0 0, .slice none 0 0, .int .i64 0, .slice none 0 0, .string ⟨#[]⟩, .int .i64 0] 31)) := (hg.block _ (Array.getElem?_eq_some_iff.1 HBv1_5.out).1 (fun e => HNCv1.out (Option.some.inj e))).trans HBv1_5.out
      have EU_6 : Hid (CurAt w6 c1 a len cap) := hcu
      have HOX3_6 : Hid ((w6).ownsRow w.heap.size 9 1 (.slice oX3 xs3.length pX3) xs3.length (xs3.map Value.string)) := owns_wide ownX3 hb5.size
      clear ownX3
      have HOY3_6 : Hid ((w6).ownsRow w.heap.size 9 1 (.slice oY3 ys3.length pY3) ys3.length (ys3.map Value.string)) := owns_wide ownY3 hb5.size
      clear ownY3
      have HOG3_6 : Hid ((w6).ownsRow w.heap.size 75 2 (.slice oG3 fs3.length pG3) fs3.length (flatF fs3)) := owns_wide ownG3 hb5.size
      clear ownG3
      clear hb5 HOL_5 HBv1_5 EU_5 hg hcu
      have cv1_0 : (w6).cell? ⟨qv1, 0, none⟩ = some (.string ⟨#[]⟩) := (cell_of HBv1_6.out 0).trans rfl
      have fcv1_0 : (w6).frozen? ⟨qv1, 0, none⟩ = false := frozen_of HBv1_6.out 0
      have cv1_1 : (w6).cell? ⟨qv1, 1, none⟩ = some (.slice none 0 0) := (cell_of HBv1_6.out 1).trans rfl
      have fcv1_1 : (w6).frozen? ⟨qv1, 1, none⟩ = false := frozen_of HBv1_6.out 1
      have cv1_2 : (w6).cell? ⟨qv1, 2, none⟩ = some (.slice none 0 0) := (cell_of HBv1_6.out 2).trans rfl
      have fcv1_2 : (w6).frozen? ⟨qv1, 2, none⟩ = false := frozen_of HBv1_6.out 2
      have cv1_3 : (w6).cell? ⟨qv1, 3, none⟩ = some (.int .i64 0) := (cell_of HBv1_6.out 3).trans rfl
      have fcv1_3 : (w6).frozen? ⟨qv1, 3, none⟩ = false := frozen_of HBv1_6.out 3
      have cv1_4 : (w6).cell? ⟨qv1, 4, none⟩ = some (.slice none 0 0) := (cell_of HBv1_6.out 4).trans rfl
      have fcv1_4 : (w6).frozen? ⟨qv1, 4, none⟩ = false := frozen_of HBv1_6.out 4
      have cv1_5 : (w6).cell? ⟨qv1, 5, none⟩ = some (.string ⟨#[]⟩) := (cell_of HBv1_6.out 5).trans rfl
      have fcv1_5 : (w6).frozen? ⟨qv1, 5, none⟩ = false := frozen_of HBv1_6.out 5
      have cv1_6 : (w6).cell? ⟨qv1, 6, none⟩ = some (.int .i64 0) := (cell_of HBv1_6.out 6).trans rfl
      have fcv1_6 : (w6).frozen? ⟨qv1, 6, none⟩ = false := frozen_of HBv1_6.out 6
      go_wp2_with fail
      obtain ⟨w7, hW7⟩ : ∃ W, W = (w6).setCell ⟨qv1, 0, none⟩ (.string p3) := ⟨_, rfl⟩
      rw [← hW7]
      have hb7 : Below w.heap.size w (w7) := by rw [hW7]; exact (hb6.setCell (p := ⟨qv1, 0, none⟩) HGv1.out _)
      have HM7 : Hid ((w6).heap.size ≤ w7.heap.size) := by show _ ≤ _; rw [hW7]; simp
      have HOL_7 : Hid ((w7).ownsRow w.heap.size 25 4 (.slice oL l.length pL) l.length (flatBan l)) := by show World.ownsRow _ _ _ _ _ _ _; rw [hW7]; exact owns_same HOL_6.out (fun g hg => heap_setCell_other _ _ g _ (own_ne HOL_6.out HBv1_6.out (by decide) g hg))
      have HOX3_7 : Hid ((w7).ownsRow w.heap.size 9 1 (.slice oX3 xs3.length pX3) xs3.length (xs3.map Value.string)) := by show World.ownsRow _ _ _ _ _ _ _; rw [hW7]; exact owns_same HOX3_6.out (fun g hg => heap_setCell_other _ _ g _ (own_ne HOX3_6.out HBv1_6.out (by decide) g hg))
      have HOY3_7 : Hid ((w7).ownsRow w.heap.size 9 1 (.slice oY3 ys3.length pY3) ys3.length (ys3.map Value.string)) := by show World.ownsRow _ _ _ _ _ _ _; rw [hW7]; exact owns_same HOY3_6.out (fun g hg => heap_setCell_other _ _ g _ (own_ne HOY3_6.out HBv1_6.out (by decide) g hg))
      have HOG3_7 : Hid ((w7).ownsRow w.heap.size 75 2 (.slice oG3 fs3.length pG3) fs3.length (flatF fs3)) := by show World.ownsRow _ _ _ _ _ _ _; rw [hW7]; exact owns_same HOG3_6.out (fun g hg => heap_setCell_other _ _ g _ (own_ne HOG3_6.out HBv1_6.out (by decide) g hg))
      have EU_7 : Hid (CurAt w7 c1 a len cap) := by show CurAt _ _ _ _ _; rw [hW7]; exact cur_set EU_6.out HNCv1.out _ _
      have HBv1_7 : Hid ((w7).heap[qv1]? = some (.cells #[.string p3, .slice none 0 0, .slice none 0 0, .int .i64 0, .slice none 0 0, .string ⟨#[]⟩, .int .i64 0] 31)) := by show _ = _; rw [hW7]; have h := heap_set _ _ 0 _ _ _ (.string p3) HBv1_6.out; simpa using h
      clear hb6 HOL_6 HOX3_6 HOY3_6 HOG3_6 HBv1_6 EU_6 hW7
      obtain ⟨w8, hW8⟩ : ∃ W, W = (w7).setCell ⟨qv1, 1, none⟩ (.slice oX3 xs3.length pX3) := ⟨_, rfl⟩
      rw [← hW8]
      have hb8 : Below w.heap.size w (w8) := by rw [hW8]; exact (hb7.setCell (p := ⟨qv1, 1, none⟩) HGv1.out _)
      have HOL_8 : Hid ((w8).ownsRow w.heap.size 25 4 (.slice oL l.length pL) l.length (flatBan l)) := by show World.ownsRow _ _ _ _ _ _ _; rw [hW8]; exact owns_same HOL_7.out (fun g hg => heap_setCell_other _ _ g _ (own_ne HOL_7.out HBv1_7.out (by decide) g hg))
      have HOX3_8 : Hid ((w8).ownsRow w.heap.size 9 1 (.slice oX3 xs3.length pX3) xs3.length (xs3.map Value.string)) := by show World.ownsRow _ _ _ _ _ _ _; rw [hW8]; exact owns_same HOX3_7.out (fun g hg => heap_setCell_other _ _ g _ (own_ne HOX3_7.out HBv1_7.out (by decide) g hg))
      have HOY3_8 : Hid ((w8).ownsRow w.heap.size 9 1 (.slice oY3 ys3.length pY3) ys3.length (ys3.map Value.string)) := by show World.ownsRow _ _ _ _ _ _ _; rw [hW8]; exact owns_same HOY3_7.out (fun g hg => heap_setCell_other _ _ g _ (own_ne HOY3_7.out HBv1_7.out (by decide) g hg))
      have HOG3_8 : Hid ((w8).ownsRow w.heap.size 75 2 (.slice oG3 fs3.length pG3) fs3.length (flatF fs3)) := by show World.ownsRow _ _ _ _ _ _ _; rw [hW8]; exact owns_same HOG3_7.out (fun g hg => heap_setCell_other _ _ g _ (own_ne HOG3_7.out HBv1_7.out (by decide) g hg))
      have EU_8 : Hid (CurAt w8 c1 a len cap) := by show CurAt _ _ _ _ _; rw [hW8]; exact cur_set EU_7.out HNCv1.out _ _
      have HBv1_8 : Hid ((w8).heap[qv1]? = some (.cells #[.string p3, .slice oX3 xs3.length pX3, .slice none 0 0, .int .i64 0, .slice none 0 0, .string ⟨#[]⟩, .int .i64 0] 31)) := by show _ = _; rw [hW8]; have h := heap_set _ _ 1 _ _ _ (.slice oX3 xs3.length pX3) HBv1_7.out; simpa using h
      clear hb7 HOL_7 HOX3_7 HOY3_7 HOG3_7 HBv1_7 EU_7 hW8
      obtain ⟨w9, hW9⟩ : ∃ W, W = (w8).setCell ⟨qv1, 2, none⟩ (.slice oY3 ys3.length pY3) := ⟨_, rfl⟩
      rw [← hW9]
      have hb9 : Below w.heap.size w (w9) := by rw [hW9]; exact (hb8.setCell (p := ⟨qv1, 2, none⟩) HGv1.out _)
      have HOL_9 : Hid ((w9).ownsRow w.heap.size 25 4 (.slice oL l.length pL) l.length (flatBan l)) := by show World.ownsRow _ _ _ _ _ _ _; rw [hW9]; exact owns_same HOL_8.out (fun g hg => heap_setCell_other _ _ g _ (own_ne HOL_8.out HBv1_8.out (by decide) g hg))
      have HOX3_9 : Hid ((w9).ownsRow w.heap.size 9 1 (.slice oX3 xs3.length pX3) xs3.length (xs3.map Value.string)) := by show World.ownsRow _ _ _ _ _ _ _; rw [hW9]; exact owns_same HOX3_8.out (fun g hg => heap_setCell_other _ _ g _ (own_ne HOX3_8.out HBv1_8.out (by decide) g hg))
      have HOY3_9 : Hid ((w9).ownsRow w.heap.size 9 1 (.slice oY3 ys3.length pY3) ys3.length (ys3.map Value.string)) := by show World.ownsRow _ _ _ _ _ _ _; rw [hW9]; exact owns_same HOY3_8.out (fun g hg => heap_setCell_other _ _ g _ (own_ne HOY3_8.out HBv1_8.out (by decide) g hg))
      have HOG3_9 : Hid ((w9).ownsRow w.heap.size 75 2 (.slice oG3 fs3.length pG3) fs3.length (flatF fs3)) := by show World.ownsRow _ _ _ _ _ _ _; rw [hW9]; exact owns_same HOG3_8.out (fun g hg => heap_setCell_other _ _ g _ (own_ne HOG3_8.out HBv1_8.out (by decide) g hg))
      have EU_9 : Hid (CurAt w9 c1 a len cap) := by show CurAt _ _ _ _ _; rw [hW9]; exact cur_set EU_8.out HNCv1.out _ _
      have HBv1_9 : Hid ((w9).heap[qv1]? = some (.cells #[.string p3, .slice oX3 xs3.length pX3, .slice oY3 ys3.length pY3, .int .i64 0, .slice none 0 0, .string ⟨#[]⟩, .int .i64 0] 31)) := by show _ = _; rw [hW9]; have h := heap_set _ _ 2 _ _ _ (.slice oY3 ys3.length pY3) HBv1_8.out; simpa using h
      clear hb8 HOL_8 HOX3_8 HOY3_8 HOG3_8 HBv1_8 EU_8 hW9
      obtain ⟨w10, hW10⟩ : ∃ W, W = (w9).setCell ⟨qv1, 3, none⟩ (.int .i64 st3) := ⟨_, rfl⟩
      rw [← hW10]
      have hb10 : Below w.heap.size w (w10) := by rw [hW10]; exact (hb9.setCell (p := ⟨qv1, 3, none⟩) HGv1.out _)
      have HOL_10 : Hid ((w10).ownsRow w.heap.size 25 4 (.slice oL l.length pL) l.length (flatBan l)) := by show World.ownsRow _ _ _ _ _ _ _; rw [hW10]; exact owns_same HOL_9.out (fun g hg => heap_setCell_other _ _ g _ (own_ne HOL_9.out HBv1_9.out (by decide) g hg))
      have HOX3_10 : Hid ((w10).ownsRow w.heap.size 9 1 (.slice oX3 xs3.length pX3) xs3.length (xs3.map Value.string)) := by show World.ownsRow _ _ _ _ _ _ _; rw [hW10]; exact owns_same HOX3_9.out (fun g hg => heap_setCell_other _ _ g _ (own_ne HOX3_9.out HBv1_9.out (by decide) g hg))
      have HOY3_10 : Hid ((w10).ownsRow w.heap.size 9 1 (.slice oY3 ys3.length pY3) ys3.length (ys3.map Value.string)) := by show World.ownsRow _ _ _ _ _ _ _; rw [hW10]; exact owns_same HOY3_9.out (fun g hg => heap_setCell_other _ _ g _ (own_ne HOY3_9.out HBv1_9.out (by decide) g hg))
      have HOG3_10 : Hid ((w10).ownsRow w.heap.size 75 2 (.slice oG3 fs3.length pG3) fs3.length (flatF fs3)) := by show World.ownsRow _ _ _ _ _ _ _; rw [hW10]; exact owns_same HOG3_9.out (fun g hg => heap_setCell_other _ _ g _ (own_ne HOG3_9.out HBv1_9.out (by decide) g hg))
      have EU_10 : Hid (CurAt w10 c1 a len cap) := by show CurAt _ _ _ _ _; rw [hW10]; exact cur_set EU_9.out HNCv1.out _ _
      have HBv1_10 : Hid ((w10).heap[qv1]? = some (.cells #[.string p3, .slice oX3 xs3.length pX3, .slice oY3 ys3.length pY3, .int .i64 st3, .slice none 0 0, .string ⟨#[]⟩, .int .i64 0] 31)) := by show _ = _; rw [hW10]; have h := heap_set _ _ 3 _ _ _ (.int .i64 st3) HBv1_9.out; simpa using h
      clear hb9 HOL_9 HOX3_9 HOY3_9 HOG3_9 HBv1_9 EU_9 hW10
      obtain ⟨w11, hW11⟩ : ∃ W, W = (w10).setCell ⟨qv1, 4, none⟩ (.slice oG3 fs3.length pG3) := ⟨_, rfl⟩
      rw [← hW11]
      have hb11 : Below w.heap.size w (w11) := by rw [hW11]; exact (hb10.setCell (p := ⟨qv1, 4, none⟩) HGv1.out _)
      have HOL_11 : Hid ((w11).ownsRow w.heap.size 25 4 (.slice oL l.length pL) l.length (flatBan l)) := by show World.ownsRow _ _ _ _ _ _ _; rw [hW11]; exact owns_same HOL_10.out (fun g hg => heap_setCell_other _ _ g _ (own_ne HOL_10.out HBv1_10.out (by decide) g hg))
      have HOX3_11 : Hid ((w11).ownsRow w.heap.size 9 1 (.slice oX3 xs3.length pX3) xs3.length (xs3.map Value.string)) := by show World.ownsRow _ _ _ _ _ _ _; rw [hW11]; exact owns_same HOX3_10.out (fun g hg => heap_setCell_other _ _ g _ (own_ne HOX3_10.out HBv1_10.out (by decide) g hg))
      have HOY3_11 : Hid ((w11).ownsRow w.heap.size 9 1 (.slice oY3 ys3.length pY3) ys3.length (ys3.map Value.string)) := by show World.ownsRow _ _ _ _ _ _ _; rw [hW11]; exact owns_same HOY3_10.out (fun g hg => heap_setCell_other _ _ g _ (own_ne HOY3_10.out HBv1_10.out (by decide) g hg))
      have HOG3_11 : Hid ((w11).ownsRow w.heap.size 75 2 (.slice oG3 fs3.length pG3) fs3.length (flatF fs3)) := by show World.ownsRow _ _ _ _ _ _ _; rw [hW11]; exact owns_same HOG3_10.out (fun g hg => heap_setCell_other _ _ g _ (own_ne HOG3_10.out HBv1_10.out (by decide) g hg))
      have EU_11 : Hid (CurAt w11 c1 a len cap) := by show CurAt _ _ _ _ _; rw [hW11]; exact cur_set EU_10.out HNCv1.out _ _
      have HBv1_11 : Hid ((w11).heap[qv1]? = some (.cells #[.string p3, .slice oX3 xs3.length pX3, .slice oY3 ys3.length pY3, .int .i64 st3, .slice oG3 fs3.length pG3, .string ⟨#[]⟩, .int .i64 0] 31)) := by show _ = _; rw [hW11]; have h := heap_set _ _ 4 _ _ _ (.slice oG3 fs3.length pG3) HBv1_10.out; simpa using h
      clear hb10 HOL_10 HOX3_10 HOY3_10 HOG3_10 HBv1_10 EU_10 hW11
      obtain ⟨w12, hW12⟩ : ∃ W, W = (w11).setCell ⟨qv1, 5, none⟩ (.string d3) := ⟨_, rfl⟩
      rw [← hW12]
      have hb12 : Below w.heap.size w (w12) := by rw [hW12]; exact (hb11.setCell (p := ⟨qv1, 5, none⟩) HGv1.out _)
      have HOL_12 : Hid ((w12).ownsRow w.heap.size 25 4 (.slice oL l.length pL) l.length (flatBan l)) := by show World.ownsRow _ _ _ _ _ _ _; rw [hW12]; exact owns_same HOL_11.out (fun g hg => heap_setCell_other _ _ g _ (own_ne HOL_11.out HBv1_11.out (by decide) g hg))
      have HOX3_12 : Hid ((w12).ownsRow w.heap.size 9 1 (.slice oX3 xs3.length pX3) xs3.length (xs3.map Value.string)) := by show World.ownsRow _ _ _ _ _ _ _; rw [hW12]; exact owns_same HOX3_11.out (fun g hg => heap_setCell_other _ _ g _ (own_ne HOX3_11.out HBv1_11.out (by decide) g hg))
      have HOY3_12 : Hid ((w12).ownsRow w.heap.size 9 1 (.slice oY3 ys3.length pY3) ys3.length (ys3.map Value.string)) := by show World.ownsRow _ _ _ _ _ _ _; rw [hW12]; exact owns_same HOY3_11.out (fun g hg => heap_setCell_other _ _ g _ (own_ne HOY3_11.out HBv1_11.out (by decide) g hg))
      have HOG3_12 : Hid ((w12).ownsRow w.heap.size 75 2 (.slice oG3 fs3.length pG3) fs3.length (flatF fs3)) := by show World.ownsRow _ _ _ _ _ _ _; rw [hW12]; exact owns_same HOG3_11.out (fun g hg => heap_setCell_other _ _ g _ (own_ne HOG3_11.out HBv1_11.out (by decide) g hg))
      have EU_12 : Hid (CurAt w12 c1 a len cap) := by show CurAt _ _ _ _ _; rw [hW12]; exact cur_set EU_11.out HNCv1.out _ _
      have HBv1_12 : Hid ((w12).heap[qv1]? = some (.cells #[.string p3, .slice oX3 xs3.length pX3, .slice oY3 ys3.length pY3, .int .i64 st3, .slice oG3 fs3.length pG3, .string d3, .int .i64 0] 31)) := by show _ = _; rw [hW12]; have h := heap_set _ _ 5 _ _ _ (.string d3) HBv1_11.out; simpa using h
      clear hb11 HOL_11 HOX3_11 HOY3_11 HOG3_11 HBv1_11 EU_11 hW12
      obtain ⟨w13, hW13⟩ : ∃ W, W = (w12).setCell ⟨qv1, 6, none⟩ (.int .i64 u3) := ⟨_, rfl⟩
      rw [← hW13]
      have hb13 : Below w.heap.size w (w13) := by rw [hW13]; exact (hb12.setCell (p := ⟨qv1, 6, none⟩) HGv1.out _)
      have HOL_13 : Hid ((w13).ownsRow w.heap.size 25 4 (.slice oL l.length pL) l.length (flatBan l)) := by show World.ownsRow _ _ _ _ _ _ _; rw [hW13]; exact owns_same HOL_12.out (fun g hg => heap_setCell_other _ _ g _ (own_ne HOL_12.out HBv1_12.out (by decide) g hg))
      have HOX3_13 : Hid ((w13).ownsRow w.heap.size 9 1 (.slice oX3 xs3.length pX3) xs3.length (xs3.map Value.string)) := by show World.ownsRow _ _ _ _ _ _ _; rw [hW13]; exact owns_same HOX3_12.out (fun g hg => heap_setCell_other _ _ g _ (own_ne HOX3_12.out HBv1_12.out (by decide) g hg))
      have HOY3_13 : Hid ((w13).ownsRow w.heap.size 9 1 (.slice oY3 ys3.length pY3) ys3.length (ys3.map Value.string)) := by show World.ownsRow _ _ _ _ _ _ _; rw [hW13]; exact owns_same HOY3_12.out (fun g hg => heap_setCell_other _ _ g _ (own_ne HOY3_12.out HBv1_12.out (by decide) g hg))
      have HOG3_13 : Hid ((w13).ownsRow w.heap.size 75 2 (.slice oG3 fs3.length pG3) fs3.length (flatF fs3)) := by show World.ownsRow _ _ _ _ _ _ _; rw [hW13]; exact owns_same HOG3_12.out (fun g hg => heap_setCell_other _ _ g _ (own_ne HOG3_12.out HBv1_12.out (by decide) g hg))
      have EU_13 : Hid (CurAt w13 c1 a len cap) := by show CurAt _ _ _ _ _; rw [hW13]; exact cur_set EU_12.out HNCv1.out _ _
      have HBv1_13 : Hid ((w13).heap[qv1]? = some (.cells #[.string p3, .slice oX3 xs3.length pX3, .slice oY3 ys3.length pY3, .int .i64 st3, .slice oG3 fs3.length pG3, .string d3, .int .i64 u3] 31)) := by show _ = _; rw [hW13]; have h := heap_set _ _ 6 _ _ _ (.int .i64 u3) HBv1_12.out; simpa using h
      clear hb12 HOL_12 HOX3_12 HOY3_12 HOG3_12 HBv1_12 EU_12 hW13
      have kv1_0 : (w13).cell? ⟨qv1, 0, none⟩ = some (.string p3) := (cell_of HBv1_13.out 0).trans rfl
      have kv1_1 : (w13).cell? ⟨qv1, 1, none⟩ = some (.slice oX3 xs3.length pX3) := (cell_of HBv1_13.out 1).trans rfl
      have kv1_2 : (w13).cell? ⟨qv1, 2, none⟩ = some (.slice oY3 ys3.length pY3) := (cell_of HBv1_13.out 2).trans rfl
      have kv1_3 : (w13).cell? ⟨qv1, 3, none⟩ = some (.int .i64 st3) := (cell_of HBv1_13.out 3).trans rfl
      have kv1_4 : (w13).cell? ⟨qv1, 4, none⟩ = some (.slice oG3 fs3.length pG3) := (cell_of HBv1_13.out 4).trans rfl
      have kv1_5 : (w13).cell? ⟨qv1, 5, none⟩ = some (.string d3) := (cell_of HBv1_13.out 5).trans rfl
      have kv1_6 : (w13).cell? ⟨qv1, 6, none⟩ = some (.int .i64 u3) := (cell_of HBv1_13.out 6).trans rfl
      refine bodyPost_ret (v := .tuple #[.slice oL l.length pL, .agg #[.string p3, .slice oX3 xs3.length pX3, .slice oY3 ys3.length pY3, .int .i64 st3, .slice oG3 fs3.length pG3, .string d3, .int .i64 u3]]) (by simp [results, Tryz.results10, go_sem, kv1_0, kv1_1, kv1_2, kv1_3, kv1_4, kv1_5, kv1_6]) rfl ?_
      exact ⟨_, l, _, _, _, _, _, _, _, _, _, _, rfl, HOL_13.out, ⟨Nat.le_trans hjl (by omega), HSH.out⟩, ⟨HOX3_13.out, HOY3_13.out, HOG3_13.out⟩, HSM3.out, hb13⟩

end Go.Proofs.YtlmenolcgaakeaaGreat

namespace Go.Proofs.YtlmenolcgaakeaaGreat
open Go.RowKit
open Go.Lib hiding intOf

set_option maxHeartbeats 8000000 in
set_option maxRecDepth 100000 in
theorem specBanOk_any (k : Int) (a b : ByteArray) (t : Int) (w : World) (ha : a.size ≤ maxLen) (hb : b.size ≤ maxLen) :
    Calls Tryz.prog 17 #[.agg #[.int .i64 k, .string a, .string b, .int .i64 t]] w fun e w' => BoolIs (BanP k a b t) w e w' := by
  have HAM : Hid (a.size ≤ maxLen) := ha
  have HBM : Hid (b.size ≤ maxLen) := hb
  clear ha hb
  have hb0 : Below w.heap.size w w := Below.refl _ _
  go_enter Tryz.func17, Tryz.ntmps17
  go_upto_region 1 with fail
  obtain ⟨qv1, hqv1⟩ : ∃ q, q = (w).heap.size := ⟨_, rfl⟩
  obtain ⟨w1, hW1⟩ : ∃ W, W = (w).alloc (.cells #[.int .i64 k, .string a, .string b, .int .i64 t] 25) := ⟨_, rfl⟩
  have hz1 : (w).heap.size = qv1 := hqv1.symm
  first | rw [← hW1, ← hqv1] | rw [← hW1]
  have hs1 : w1.heap.size = qv1 + 1 := by rw [hW1, ← hz1]; simp
  have bw : Below (w).heap.size (w) w1 := by rw [hW1]; exact (Below.refl _ _).alloc (Nat.le_refl _) _
  have hb1 : Below w.heap.size w (w1) := hb0.trans (bw.mono hb0.size)
  have HBv1_1 : Hid ((w1).heap[qv1]? = some (.cells #[.int .i64 k, .string a, .string b, .int .i64 t] 25)) := by show _ = _; rw [hW1, ← hz1]; exact heap_alloc_new _ _
  clear hb0 bw hW1 hz1
  clear hs1 hqv1
  have cv1_3 : (w1).cell? ⟨qv1, 3, none⟩ = some (.int .i64 t) := (cell_of HBv1_1.out 3).trans rfl
  go_wp2_with fail
  refine (l1In_any t 0 1000000 _).mono ?_
  rintro e w2 ⟨rfl, hwe⟩
  have bw : Below (w1).heap.size (w1) w2 := by rw [hwe]; exact Below.refl _ _
  clear hwe
  obtain ⟨ut, hut⟩ : ∃ u, u = decide ((0 : Int) ≤ t ∧ t ≤ 1000000) := ⟨_, rfl⟩
  rw [← hut]
  have hb2 : Below w.heap.size w (w2) := hb1.trans (bw.mono hb1.size)
  have HBv1_2 : Hid ((w2).heap[qv1]? = some (.cells #[.int .i64 k, .string a, .string b, .int .i64 t] 25)) := blk_below HBv1_1.out bw
  clear hb1 HBv1_1 bw
  clear cv1_3
  cases ut with
  | false =>
    have Hut : Hid (¬ (0 ≤ t ∧ t ≤ 1000000)) := (show ¬ (0 ≤ t ∧ t ≤ 1000000) from of_decide_eq_false hut.symm)
    clear hut
    go_wp2_with fail
    go_ret
    refine ⟨false, rfl, ?_, hb2⟩
    have zHut := Hut.out
    unfold BanP
    first
      | (simp_all; done)
      | (constructor
         · intro h
           first
             | (cases h; done)
             | exact ⟨zHut, .inl ⟨.inl zHK1, zHup, zHBE⟩⟩
             | exact ⟨zHut, .inl ⟨.inr zHK2, zHup, zHBE⟩⟩
             | exact ⟨zHut, .inr ⟨zHK3, zHuk, zv.1 h⟩⟩
             | exact ⟨zHut, .inr ⟨zHK3, zHuk, zHuv⟩⟩
         · rintro ⟨h1, (⟨h2 | h2, h3, h4⟩ | ⟨h2, h3, h4⟩)⟩
           all_goals first
             | rfl
             | exact zv.2 h4
             | (exfalso; first | exact zHut h1 | exact zHup h3 | exact zHuk h3 | exact zHBE h4 | exact zHuv h4 | omega))
  | true =>
    have Hut : Hid (0 ≤ t ∧ t ≤ 1000000) := (show 0 ≤ t ∧ t ≤ 1000000 from of_decide_eq_true hut.symm)
    clear hut
    have cv1_0 : (w2).cell? ⟨qv1, 0, none⟩ = some (.int .i64 k) := (cell_of HBv1_2.out 0).trans rfl
    by_cases hc1 : k = 1
    · have hc1b : ((k : Int) == (1 : Int)) = true := by simpa using hc1
      have hc1n : ((k : Int) != (1 : Int)) = false := by simpa using hc1
      have HK1 : Hid (k = 1) := hc1
      have hc1H : Hid (k = 1) := hc1
      clear hc1
      have cv1_1 : (w2).cell? ⟨qv1, 1, none⟩ = some (.string a) := (cell_of HBv1_2.out 1).trans rfl
      go_wp2_with fail
      refine (l3Path_any a _ HAM.out).mono ?_
      rintro e w3 ⟨up, rfl, htup, bw⟩
      have hb3 : Below w.heap.size w (w3) := hb2.trans (bw.mono hb2.size)
      have HM3 : Hid ((w2).heap.size ≤ (w3).heap.size) := bw.size
      have HBv1_3 : Hid ((w3).heap[qv1]? = some (.cells #[.int .i64 k, .string a, .string b, .int .i64 t] 25)) := blk_below HBv1_2.out bw
      clear hb2 HBv1_2 bw
      clear cv1_0 cv1_1
      cases up with
      | false =>
        have Hup : Hid (¬ PathOk a) := fun h => nomatch htup.2 h
        clear htup
        go_wp2_with fail
        go_ret
        refine ⟨false, rfl, ?_, hb3⟩
        have zHut := Hut.out
        have zHK1 := HK1.out
        have zHup := Hup.out
        unfold BanP
        first
          | (simp_all; done)
          | (constructor
             · intro h
               first
                 | (cases h; done)
                 | exact ⟨zHut, .inl ⟨.inl zHK1, zHup, zHBE⟩⟩
                 | exact ⟨zHut, .inl ⟨.inr zHK2, zHup, zHBE⟩⟩
                 | exact ⟨zHut, .inr ⟨zHK3, zHuk, zv.1 h⟩⟩
                 | exact ⟨zHut, .inr ⟨zHK3, zHuk, zHuv⟩⟩
             · rintro ⟨h1, (⟨h2 | h2, h3, h4⟩ | ⟨h2, h3, h4⟩)⟩
               all_goals first
                 | rfl
                 | exact zv.2 h4
                 | (exfalso; first | exact zHut h1 | exact zHup h3 | exact zHuk h3 | exact zHBE h4 | exact zHuv h4 | omega))
      | true =>
        have Hup : Hid (PathOk a) := htup.1 rfl
        clear htup
        have cv1_2 : (w3).cell? ⟨qv1, 2, none⟩ = some (.string b) := (cell_of HBv1_3.out 2).trans rfl
        by_cases hc2 : b = ⟨#[]⟩
        · have hc2b : (b).toList.isEmpty = true := isEmpty_yes (by rw [hc2]; rfl)
          have HBE : Hid (b = ⟨#[]⟩) := hc2
          go_wp2_with fail
          go_ret
          refine ⟨true, rfl, ?_, hb3⟩
          have zHut := Hut.out
          have zHK1 := HK1.out
          have zHup := Hup.out
          have zHBE := HBE.out
          unfold BanP
          first
            | (simp_all; done)
            | (constructor
               · intro h
                 first
                   | (cases h; done)
                   | exact ⟨zHut, .inl ⟨.inl zHK1, zHup, zHBE⟩⟩
                   | exact ⟨zHut, .inl ⟨.inr zHK2, zHup, zHBE⟩⟩
                   | exact ⟨zHut, .inr ⟨zHK3, zHuk, zv.1 h⟩⟩
                   | exact ⟨zHut, .inr ⟨zHK3, zHuk, zHuv⟩⟩
               · rintro ⟨h1, (⟨h2 | h2, h3, h4⟩ | ⟨h2, h3, h4⟩)⟩
                 all_goals first
                   | rfl
                   | exact zv.2 h4
                   | (exfalso; first | exact zHut h1 | exact zHup h3 | exact zHuk h3 | exact zHBE h4 | exact zHuv h4 | omega))
        · have hc2b : (b).toList.isEmpty = false := isEmpty_no (Nat.pos_of_ne_zero (fun e => hc2 (empty_text e)))
          have HBE : Hid (¬ b = ⟨#[]⟩) := hc2
          go_wp2_with fail
          go_ret
          refine ⟨false, rfl, ?_, hb3⟩
          have zHut := Hut.out
          have zHK1 := HK1.out
          have zHup := Hup.out
          have zHBE := HBE.out
          unfold BanP
          first
            | (simp_all; done)
            | (constructor
               · intro h
                 first
                   | (cases h; done)
                   | exact ⟨zHut, .inl ⟨.inl zHK1, zHup, zHBE⟩⟩
                   | exact ⟨zHut, .inl ⟨.inr zHK2, zHup, zHBE⟩⟩
                   | exact ⟨zHut, .inr ⟨zHK3, zHuk, zv.1 h⟩⟩
                   | exact ⟨zHut, .inr ⟨zHK3, zHuk, zHuv⟩⟩
               · rintro ⟨h1, (⟨h2 | h2, h3, h4⟩ | ⟨h2, h3, h4⟩)⟩
                 all_goals first
                   | rfl
                   | exact zv.2 h4
                   | (exfalso; first | exact zHut h1 | exact zHup h3 | exact zHuk h3 | exact zHBE h4 | exact zHuv h4 | omega))
    · have hc1b : ((k : Int) == (1 : Int)) = false := by simpa using hc1
      have hc1n : ((k : Int) != (1 : Int)) = true := by simpa using hc1
      have HK1 : Hid (¬ k = 1) := hc1
      have hc1H : Hid (¬ (k = 1)) := hc1
      clear hc1
      by_cases hc2 : k = 2
      · have hc2b : ((k : Int) == (2 : Int)) = true := by simpa using hc2
        have hc2n : ((k : Int) != (2 : Int)) = false := by simpa using hc2
        have HK2 : Hid (k = 2) := hc2
        have hc2H : Hid (k = 2) := hc2
        clear hc2
        have cv1_1 : (w2).cell? ⟨qv1, 1, none⟩ = some (.string a) := (cell_of HBv1_2.out 1).trans rfl
        go_wp2_with fail
        refine (l3Path_any a _ HAM.out).mono ?_
        rintro e w3 ⟨up, rfl, htup, bw⟩
        have hb3 : Below w.heap.size w (w3) := hb2.trans (bw.mono hb2.size)
        have HM3 : Hid ((w2).heap.size ≤ (w3).heap.size) := bw.size
        have HBv1_3 : Hid ((w3).heap[qv1]? = some (.cells #[.int .i64 k, .string a, .string b, .int .i64 t] 25)) := blk_below HBv1_2.out bw
        clear hb2 HBv1_2 bw
        clear cv1_0 cv1_1
        cases up with
        | false =>
          have Hup : Hid (¬ PathOk a) := fun h => nomatch htup.2 h
          clear htup
          go_wp2_with fail
          go_ret
          refine ⟨false, rfl, ?_, hb3⟩
          have zHut := Hut.out
          have zHK1 := HK1.out
          have zHK2 := HK2.out
          have zHup := Hup.out
          unfold BanP
          first
            | (simp_all; done)
            | (constructor
               · intro h
                 first
                   | (cases h; done)
                   | exact ⟨zHut, .inl ⟨.inl zHK1, zHup, zHBE⟩⟩
                   | exact ⟨zHut, .inl ⟨.inr zHK2, zHup, zHBE⟩⟩
                   | exact ⟨zHut, .inr ⟨zHK3, zHuk, zv.1 h⟩⟩
                   | exact ⟨zHut, .inr ⟨zHK3, zHuk, zHuv⟩⟩
               · rintro ⟨h1, (⟨h2 | h2, h3, h4⟩ | ⟨h2, h3, h4⟩)⟩
                 all_goals first
                   | rfl
                   | exact zv.2 h4
                   | (exfalso; first | exact zHut h1 | exact zHup h3 | exact zHuk h3 | exact zHBE h4 | exact zHuv h4 | omega))
        | true =>
          have Hup : Hid (PathOk a) := htup.1 rfl
          clear htup
          have cv1_2 : (w3).cell? ⟨qv1, 2, none⟩ = some (.string b) := (cell_of HBv1_3.out 2).trans rfl
          by_cases hc3 : b = ⟨#[]⟩
          · have hc3b : (b).toList.isEmpty = true := isEmpty_yes (by rw [hc3]; rfl)
            have HBE : Hid (b = ⟨#[]⟩) := hc3
            go_wp2_with fail
            go_ret
            refine ⟨true, rfl, ?_, hb3⟩
            have zHut := Hut.out
            have zHK1 := HK1.out
            have zHK2 := HK2.out
            have zHup := Hup.out
            have zHBE := HBE.out
            unfold BanP
            first
              | (simp_all; done)
              | (constructor
                 · intro h
                   first
                     | (cases h; done)
                     | exact ⟨zHut, .inl ⟨.inl zHK1, zHup, zHBE⟩⟩
                     | exact ⟨zHut, .inl ⟨.inr zHK2, zHup, zHBE⟩⟩
                     | exact ⟨zHut, .inr ⟨zHK3, zHuk, zv.1 h⟩⟩
                     | exact ⟨zHut, .inr ⟨zHK3, zHuk, zHuv⟩⟩
                 · rintro ⟨h1, (⟨h2 | h2, h3, h4⟩ | ⟨h2, h3, h4⟩)⟩
                   all_goals first
                     | rfl
                     | exact zv.2 h4
                     | (exfalso; first | exact zHut h1 | exact zHup h3 | exact zHuk h3 | exact zHBE h4 | exact zHuv h4 | omega))
          · have hc3b : (b).toList.isEmpty = false := isEmpty_no (Nat.pos_of_ne_zero (fun e => hc3 (empty_text e)))
            have HBE : Hid (¬ b = ⟨#[]⟩) := hc3
            go_wp2_with fail
            go_ret
            refine ⟨false, rfl, ?_, hb3⟩
            have zHut := Hut.out
            have zHK1 := HK1.out
            have zHK2 := HK2.out
            have zHup := Hup.out
            have zHBE := HBE.out
            unfold BanP
            first
              | (simp_all; done)
              | (constructor
                 · intro h
                   first
                     | (cases h; done)
                     | exact ⟨zHut, .inl ⟨.inl zHK1, zHup, zHBE⟩⟩
                     | exact ⟨zHut, .inl ⟨.inr zHK2, zHup, zHBE⟩⟩
                     | exact ⟨zHut, .inr ⟨zHK3, zHuk, zv.1 h⟩⟩
                     | exact ⟨zHut, .inr ⟨zHK3, zHuk, zHuv⟩⟩
                 · rintro ⟨h1, (⟨h2 | h2, h3, h4⟩ | ⟨h2, h3, h4⟩)⟩
                   all_goals first
                     | rfl
                     | exact zv.2 h4
                     | (exfalso; first | exact zHut h1 | exact zHup h3 | exact zHuk h3 | exact zHBE h4 | exact zHuv h4 | omega))
      · have hc2b : ((k : Int) == (2 : Int)) = false := by simpa using hc2
        have hc2n : ((k : Int) != (2 : Int)) = true := by simpa using hc2
        have HK2 : Hid (¬ k = 2) := hc2
        have hc2H : Hid (¬ (k = 2)) := hc2
        clear hc2
        by_cases hc3 : k = 3
        · have hc3b : ((k : Int) == (3 : Int)) = true := by simpa using hc3
          have hc3n : ((k : Int) != (3 : Int)) = false := by simpa using hc3
          have HK3 : Hid (k = 3) := hc3
          have hc3H : Hid (k = 3) := hc3
          clear hc3
          have cv1_1 : (w2).cell? ⟨qv1, 1, none⟩ = some (.string a) := (cell_of HBv1_2.out 1).trans rfl
          go_wp2_with fail
          refine (specTokenOk_any a _ HAM.out).mono ?_
          rintro e w3 ⟨uk, rfl, htuk, bw⟩
          have hb3 : Below w.heap.size w (w3) := hb2.trans (bw.mono hb2.size)
          have HM3 : Hid ((w2).heap.size ≤ (w3).heap.size) := bw.size
          have HBv1_3 : Hid ((w3).heap[qv1]? = some (.cells #[.int .i64 k, .string a, .string b, .int .i64 t] 25)) := blk_below HBv1_2.out bw
          clear hb2 HBv1_2 bw
          clear cv1_0 cv1_1
          cases uk with
          | false =>
            have Huk : Hid (¬ TokOk a) := fun h => nomatch htuk.2 h
            clear htuk
            go_wp2_with fail
            go_ret
            refine ⟨false, rfl, ?_, hb3⟩
            have zHut := Hut.out
            have zHK1 := HK1.out
            have zHK2 := HK2.out
            have zHK3 := HK3.out
            have zHuk := Huk.out
            unfold BanP
            first
              | (simp_all; done)
              | (constructor
                 · intro h
                   first
                     | (cases h; done)
                     | exact ⟨zHut, .inl ⟨.inl zHK1, zHup, zHBE⟩⟩
                     | exact ⟨zHut, .inl ⟨.inr zHK2, zHup, zHBE⟩⟩
                     | exact ⟨zHut, .inr ⟨zHK3, zHuk, zv.1 h⟩⟩
                     | exact ⟨zHut, .inr ⟨zHK3, zHuk, zHuv⟩⟩
                 · rintro ⟨h1, (⟨h2 | h2, h3, h4⟩ | ⟨h2, h3, h4⟩)⟩
                   all_goals first
                     | rfl
                     | exact zv.2 h4
                     | (exfalso; first | exact zHut h1 | exact zHup h3 | exact zHuk h3 | exact zHBE h4 | exact zHuv h4 | omega))
          | true =>
            have Huk : Hid (TokOk a) := htuk.1 rfl
            clear htuk
            have cv1_2 : (w3).cell? ⟨qv1, 2, none⟩ = some (.string b) := (cell_of HBv1_3.out 2).trans rfl
            go_wp2_with fail
            refine (specValueOk_any b _ HBM.out).mono ?_
            rintro e w4 ⟨uv, rfl, htuv, bw⟩
            have hb4 : Below w.heap.size w (w4) := hb3.trans (bw.mono hb3.size)
            have HBv1_4 : Hid ((w4).heap[qv1]? = some (.cells #[.int .i64 k, .string a, .string b, .int .i64 t] 25)) := blk_below HBv1_3.out bw
            clear hb3 HBv1_3 bw
            clear cv1_2
            go_wp2_with fail
            go_ret
            refine ⟨uv, rfl, ?_, hb4⟩
            have zHut := Hut.out
            have zHK1 := HK1.out
            have zHK2 := HK2.out
            have zHK3 := HK3.out
            have zHuk := Huk.out
            have zv := htuv
            unfold BanP
            first
              | (simp_all; done)
              | (constructor
                 · intro h
                   first
                     | (cases h; done)
                     | exact ⟨zHut, .inl ⟨.inl zHK1, zHup, zHBE⟩⟩
                     | exact ⟨zHut, .inl ⟨.inr zHK2, zHup, zHBE⟩⟩
                     | exact ⟨zHut, .inr ⟨zHK3, zHuk, zv.1 h⟩⟩
                     | exact ⟨zHut, .inr ⟨zHK3, zHuk, zHuv⟩⟩
                 · rintro ⟨h1, (⟨h2 | h2, h3, h4⟩ | ⟨h2, h3, h4⟩)⟩
                   all_goals first
                     | rfl
                     | exact zv.2 h4
                     | (exfalso; first | exact zHut h1 | exact zHup h3 | exact zHuk h3 | exact zHBE h4 | exact zHuv h4 | omega))
        · have hc3b : ((k : Int) == (3 : Int)) = false := by simpa using hc3
          have hc3n : ((k : Int) != (3 : Int)) = true := by simpa using hc3
          have HK3 : Hid (¬ k = 3) := hc3
          have hc3H : Hid (¬ (k = 3)) := hc3
          clear hc3
          go_wp2_with fail
          go_ret
          refine ⟨false, rfl, ?_, hb2⟩
          have zHut := Hut.out
          have zHK1 := HK1.out
          have zHK2 := HK2.out
          have zHK3 := HK3.out
          unfold BanP
          first
            | (simp_all; done)
            | (constructor
               · intro h
                 first
                   | (cases h; done)
                   | exact ⟨zHut, .inl ⟨.inl zHK1, zHup, zHBE⟩⟩
                   | exact ⟨zHut, .inl ⟨.inr zHK2, zHup, zHBE⟩⟩
                   | exact ⟨zHut, .inr ⟨zHK3, zHuk, zv.1 h⟩⟩
                   | exact ⟨zHut, .inr ⟨zHK3, zHuk, zHuv⟩⟩
               · rintro ⟨h1, (⟨h2 | h2, h3, h4⟩ | ⟨h2, h3, h4⟩)⟩
                 all_goals first
                   | rfl
                   | exact zv.2 h4
                   | (exfalso; first | exact zHut h1 | exact zHup h3 | exact zHuk h3 | exact zHBE h4 | exact zHuv h4 | omega))

end Go.Proofs.YtlmenolcgaakeaaGreat

namespace Go.Proofs.YtlmenolcgaakeaaGreat
open Go.RowKit
open Go.Lib hiding intOf

set_option maxHeartbeats 8000000 in
set_option maxRecDepth 100000 in
theorem specHits_any (k : Int) (a b : ByteArray) (t : Int) (p : ByteArray) (o1 : Option Addr) (n1 c1 : Nat) (xs : List ByteArray) (o2 : Option Addr) (n2 c2 : Nat) (ys : List ByteArray) (st : Int) (v3 : Value) (n3 base : Nat) (fs : List (ByteArray × ByteArray)) (d : ByteArray) (u : Int) (w : World) (ha : a.size ≤ maxLen) (hb : b.size ≤ maxLen) (h1 : TextsA w o1 n1 xs) (h2 : TextsA w o2 n2 ys) (h3 : FieldsV w base v3 n3 fs) (hn1 : n1 ≤ 2000000) (hn2 : n2 ≤ 2000000) (hn3 : n3 ≤ 2000000) (hs1 : ∀ i, i < n1 → (textAt xs i).size ≤ maxLen) (hs2 : ∀ i, i < n2 → (textAt ys i).size ≤ maxLen) (hs3 : WalkF n3 fs) (hp : p.size ≤ maxLen) (hx : d.size ≤ maxLen) (hg : (getV fs varyName).size ≤ 1048576) :
    Calls Tryz.prog 7 #[.agg #[.int .i64 k, .string a, .string b, .int .i64 t], .agg #[.string p, .slice o1 n1 c1, .slice o2 n2 c2, .int .i64 st, v3, .string d, .int .i64 u]] w fun e w' => BoolIs (HitP k a b t p xs ys st fs d u) w e w' := by
  obtain ⟨o3, c3, rfl, _⟩ := h3.slice
  have HV1 : Hid (∀ W, Below w.heap.size w W → TextsA W o1 n1 xs) := fun W h => h1.below h
  have HV2 : Hid (∀ W, Below w.heap.size w W → TextsA W o2 n2 ys) := fun W h => h2.below h
  have HV3 : Hid (∀ W, Below w.heap.size w W → FieldsV W base (.slice o3 n3 c3) n3 fs) := fun W h => h3.below h
  have HS1 : Hid (∀ i, i < n1 → (textAt xs i).size ≤ maxLen) := hs1
  have HS2 : Hid (∀ i, i < n2 → (textAt ys i).size ≤ maxLen) := hs2
  have HS3 : Hid (WalkF n3 fs) := hs3
  have HPM : Hid (p.size ≤ maxLen) := hp
  have HX : Hid (d.size ≤ maxLen) := hx
  have HG : Hid ((getV fs varyName).size ≤ 1048576) := hg
  have HAM : Hid (a.size ≤ maxLen) := ha
  have HBM : Hid (b.size ≤ maxLen) := hb
  clear h1 h2 h3 hs1 hs2 hs3 hp hx hg ha hb
  have hb0 : Below w.heap.size w w := Below.refl _ _
  go_enter Tryz.func7, Tryz.ntmps7
  go_upto_region 1 with fail
  obtain ⟨qv1, hqv1⟩ : ∃ q, q = (w).heap.size := ⟨_, rfl⟩
  obtain ⟨w1, hW1⟩ : ∃ W, W = (w).alloc (.cells #[.int .i64 k, .string a, .string b, .int .i64 t] 25) := ⟨_, rfl⟩
  have hz1 : (w).heap.size = qv1 := hqv1.symm
  first | rw [← hW1, ← hqv1] | rw [← hW1]
  have hs1 : w1.heap.size = qv1 + 1 := by rw [hW1, ← hz1]; simp
  have bw : Below (w).heap.size (w) w1 := by rw [hW1]; exact (Below.refl _ _).alloc (Nat.le_refl _) _
  have hb1 : Below w.heap.size w (w1) := hb0.trans (bw.mono hb0.size)
  have HBv1_1 : Hid ((w1).heap[qv1]? = some (.cells #[.int .i64 k, .string a, .string b, .int .i64 t] 25)) := by show _ = _; rw [hW1, ← hz1]; exact heap_alloc_new _ _
  clear hb0 bw hW1 hz1
  obtain ⟨qv2, hqv2⟩ : ∃ q, q = qv1 + 1 := ⟨_, rfl⟩
  obtain ⟨w2, hW2⟩ : ∃ W, W = (w1).alloc (.cells #[.string p, .slice o1 n1 c1, .slice o2 n2 c2, .int .i64 st, .slice o3 n3 c3, .string d, .int .i64 u] 31) := ⟨_, rfl⟩
  have hz2 : (w1).heap.size = qv2 := by rw [hqv2]; exact hs1
  first | rw [← hW2, ← hqv2] | rw [← hW2]
  have hs2 : w2.heap.size = qv2 + 1 := by rw [hW2, ← hz2]; simp
  have bw : Below (w1).heap.size (w1) w2 := by rw [hW2]; exact (Below.refl _ _).alloc (Nat.le_refl _) _
  have hb2 : Below w.heap.size w (w2) := hb1.trans (bw.mono hb1.size)
  have HBv1_2 : Hid ((w2).heap[qv1]? = some (.cells #[.int .i64 k, .string a, .string b, .int .i64 t] 25)) := blk_below HBv1_1.out bw
  have HBv2_2 : Hid ((w2).heap[qv2]? = some (.cells #[.string p, .slice o1 n1 c1, .slice o2 n2 c2, .int .i64 st, .slice o3 n3 c3, .string d, .int .i64 u] 31)) := by show _ = _; rw [hW2, ← hz2]; exact heap_alloc_new _ _
  clear hb1 HBv1_1 bw hW2 hz2
  clear hs2 hqv2 hs1 hqv1
  have cv1_0 : (w2).cell? ⟨qv1, 0, none⟩ = some (.int .i64 k) := (cell_of HBv1_2.out 0).trans rfl
  have cv1_1 : (w2).cell? ⟨qv1, 1, none⟩ = some (.string a) := (cell_of HBv1_2.out 1).trans rfl
  have cv1_2 : (w2).cell? ⟨qv1, 2, none⟩ = some (.string b) := (cell_of HBv1_2.out 2).trans rfl
  have cv1_3 : (w2).cell? ⟨qv1, 3, none⟩ = some (.int .i64 t) := (cell_of HBv1_2.out 3).trans rfl
  go_wp2_with fail
  refine (specBanOk_any k a b t _ HAM.out HBM.out).mono ?_
  rintro e w3 ⟨ub, rfl, htub, bw⟩
  have hb3 : Below w.heap.size w (w3) := hb2.trans (bw.mono hb2.size)
  have HBv1_3 : Hid ((w3).heap[qv1]? = some (.cells #[.int .i64 k, .string a, .string b, .int .i64 t] 25)) := blk_below HBv1_2.out bw
  have HBv2_3 : Hid ((w3).heap[qv2]? = some (.cells #[.string p, .slice o1 n1 c1, .slice o2 n2 c2, .int .i64 st, .slice o3 n3 c3, .string d, .int .i64 u] 31)) := blk_below HBv2_2.out bw
  clear hb2 HBv1_2 HBv2_2 bw
  clear cv1_0 cv1_1 cv1_2 cv1_3
  cases ub with
  | false =>
    have Hub : Hid (¬ BanP k a b t) := fun h => nomatch htub.2 h
    clear htub
    go_wp2_with fail
    go_ret
    refine ⟨false, rfl, ?_, hb3⟩
    have zHub := Hub.out
    constructor
    · intro h
      first
        | (cases h; done)
        | exact ⟨zHub, zHuo, by omega, .inl ⟨zHK1, zHPA⟩⟩
        | exact ⟨zHub, zHuo, by omega, .inr (.inl ⟨zHK2, (begins_iff a p).2 ⟨by omega, zHEX⟩⟩)⟩
        | exact ⟨zHub, zHuo, by omega, .inr (.inr ⟨by have := zHub.kinds; omega, zHug, zHGE.trans zHGV⟩)⟩
    · intro h
      first
        | rfl
        | (exfalso
           obtain ⟨h1, h2, h3, h4⟩ := h
           first
             | exact zHub h1
             | exact zHuo h2
             | omega
             | (rcases h4 with ⟨e1, e2⟩ | ⟨e1, e2⟩ | ⟨e1, e2, e3⟩
                all_goals first
                  | omega
                  | exact zHPA e2
                  | exact zHEX ((begins_iff a p).1 e2).2
                  | (have := ((begins_iff a p).1 e2).1; omega)
                  | exact zHug e2
                  | exact zHGV (zHGE.symm.trans e3)))
  | true =>
    have Hub : Hid (BanP k a b t) := htub.1 rfl
    clear htub
    have cv2_0 : (w3).cell? ⟨qv2, 0, none⟩ = some (.string p) := (cell_of HBv2_3.out 0).trans rfl
    have cv2_1 : (w3).cell? ⟨qv2, 1, none⟩ = some (.slice o1 n1 c1) := (cell_of HBv2_3.out 1).trans rfl
    have cv2_2 : (w3).cell? ⟨qv2, 2, none⟩ = some (.slice o2 n2 c2) := (cell_of HBv2_3.out 2).trans rfl
    have cv2_3 : (w3).cell? ⟨qv2, 3, none⟩ = some (.int .i64 st) := (cell_of HBv2_3.out 3).trans rfl
    have cv2_4 : (w3).cell? ⟨qv2, 4, none⟩ = some (.slice o3 n3 c3) := (cell_of HBv2_3.out 4).trans rfl
    have cv2_5 : (w3).cell? ⟨qv2, 5, none⟩ = some (.string d) := (cell_of HBv2_3.out 5).trans rfl
    have cv2_6 : (w3).cell? ⟨qv2, 6, none⟩ = some (.int .i64 u) := (cell_of HBv2_3.out 6).trans rfl
    go_wp2_with fail
    refine (specObjOk_any p _ n1 _ xs _ n2 _ ys st _ n3 base fs d u _ (HV1.out _ hb3) (HV2.out _ hb3) (HV3.out _ hb3) (by omega) (by omega) (by omega) HS1.out HS2.out HS3.out HPM.out HX.out HG.out).mono ?_
    rintro e w4 ⟨uo, rfl, htuo, bw⟩
    have hb4 : Below w.heap.size w (w4) := hb3.trans (bw.mono hb3.size)
    have HBv1_4 : Hid ((w4).heap[qv1]? = some (.cells #[.int .i64 k, .string a, .string b, .int .i64 t] 25)) := blk_below HBv1_3.out bw
    have HBv2_4 : Hid ((w4).heap[qv2]? = some (.cells #[.string p, .slice o1 n1 c1, .slice o2 n2 c2, .int .i64 st, .slice o3 n3 c3, .string d, .int .i64 u] 31)) := blk_below HBv2_3.out bw
    clear hb3 HBv1_3 HBv2_3 bw
    clear cv2_0 cv2_1 cv2_2 cv2_3 cv2_4 cv2_5 cv2_6
    cases uo with
    | false =>
      have Huo : Hid (¬ ObjP p xs ys st fs d u) := fun h => nomatch htuo.2 h
      clear htuo
      go_wp2_with fail
      go_ret
      refine ⟨false, rfl, ?_, hb4⟩
      have zHub := Hub.out
      have zHuo := Huo.out
      constructor
      · intro h
        first
          | (cases h; done)
          | exact ⟨zHub, zHuo, by omega, .inl ⟨zHK1, zHPA⟩⟩
          | exact ⟨zHub, zHuo, by omega, .inr (.inl ⟨zHK2, (begins_iff a p).2 ⟨by omega, zHEX⟩⟩)⟩
          | exact ⟨zHub, zHuo, by omega, .inr (.inr ⟨by have := zHub.kinds; omega, zHug, zHGE.trans zHGV⟩)⟩
      · intro h
        first
          | rfl
          | (exfalso
             obtain ⟨h1, h2, h3, h4⟩ := h
             first
               | exact zHub h1
               | exact zHuo h2
               | omega
               | (rcases h4 with ⟨e1, e2⟩ | ⟨e1, e2⟩ | ⟨e1, e2, e3⟩
                  all_goals first
                    | omega
                    | exact zHPA e2
                    | exact zHEX ((begins_iff a p).1 e2).2
                    | (have := ((begins_iff a p).1 e2).1; omega)
                    | exact zHug e2
                    | exact zHGV (zHGE.symm.trans e3)))
    | true =>
      have Huo : Hid (ObjP p xs ys st fs d u) := htuo.1 rfl
      clear htuo
      have cv1_3 : (w4).cell? ⟨qv1, 3, none⟩ = some (.int .i64 t) := (cell_of HBv1_4.out 3).trans rfl
      have cv2_6 : (w4).cell? ⟨qv2, 6, none⟩ = some (.int .i64 u) := (cell_of HBv2_4.out 6).trans rfl
      by_cases hc1 : t < u
      · have HGT : Hid (t < u) := hc1
        go_wp2_with fail
        go_ret
        refine ⟨false, rfl, ?_, hb4⟩
        have zHub := Hub.out
        have zHuo := Huo.out
        have zHGT := HGT.out
        constructor
        · intro h
          first
            | (cases h; done)
            | exact ⟨zHub, zHuo, by omega, .inl ⟨zHK1, zHPA⟩⟩
            | exact ⟨zHub, zHuo, by omega, .inr (.inl ⟨zHK2, (begins_iff a p).2 ⟨by omega, zHEX⟩⟩)⟩
            | exact ⟨zHub, zHuo, by omega, .inr (.inr ⟨by have := zHub.kinds; omega, zHug, zHGE.trans zHGV⟩)⟩
        · intro h
          first
            | rfl
            | (exfalso
               obtain ⟨h1, h2, h3, h4⟩ := h
               first
                 | exact zHub h1
                 | exact zHuo h2
                 | omega
                 | (rcases h4 with ⟨e1, e2⟩ | ⟨e1, e2⟩ | ⟨e1, e2, e3⟩
                    all_goals first
                      | omega
                      | exact zHPA e2
                      | exact zHEX ((begins_iff a p).1 e2).2
                      | (have := ((begins_iff a p).1 e2).1; omega)
                      | exact zHug e2
                      | exact zHGV (zHGE.symm.trans e3)))
      · have HGT : Hid (¬ (t < u)) := hc1
        have cv1_0 : (w4).cell? ⟨qv1, 0, none⟩ = some (.int .i64 k) := (cell_of HBv1_4.out 0).trans rfl
        by_cases hc2 : k = 1
        · have hc2b : ((k : Int) == (1 : Int)) = true := by simpa using hc2
          have hc2n : ((k : Int) != (1 : Int)) = false := by simpa using hc2
          have HK1 : Hid (k = 1) := hc2
          have hc2H : Hid (k = 1) := hc2
          clear hc2
          have cv1_1 : (w4).cell? ⟨qv1, 1, none⟩ = some (.string a) := (cell_of HBv1_4.out 1).trans rfl
          have cv2_0 : (w4).cell? ⟨qv2, 0, none⟩ = some (.string p) := (cell_of HBv2_4.out 0).trans rfl
          by_cases hc3 : p = a
          · have hc3b : ((p).toList == (a).toList) = true := (text_beq _ _).2 hc3
            have HPA : Hid (p = a) := hc3
            go_wp2_with fail
            go_ret
            refine ⟨true, rfl, ?_, hb4⟩
            have zHub := Hub.out
            have zHuo := Huo.out
            have zHGT := HGT.out
            have zHK1 := HK1.out
            have zHPA := HPA.out
            constructor
            · intro h
              first
                | (cases h; done)
                | exact ⟨zHub, zHuo, by omega, .inl ⟨zHK1, zHPA⟩⟩
                | exact ⟨zHub, zHuo, by omega, .inr (.inl ⟨zHK2, (begins_iff a p).2 ⟨by omega, zHEX⟩⟩)⟩
                | exact ⟨zHub, zHuo, by omega, .inr (.inr ⟨by have := zHub.kinds; omega, zHug, zHGE.trans zHGV⟩)⟩
            · intro h
              first
                | rfl
                | (exfalso
                   obtain ⟨h1, h2, h3, h4⟩ := h
                   first
                     | exact zHub h1
                     | exact zHuo h2
                     | omega
                     | (rcases h4 with ⟨e1, e2⟩ | ⟨e1, e2⟩ | ⟨e1, e2, e3⟩
                        all_goals first
                          | omega
                          | exact zHPA e2
                          | exact zHEX ((begins_iff a p).1 e2).2
                          | (have := ((begins_iff a p).1 e2).1; omega)
                          | exact zHug e2
                          | exact zHGV (zHGE.symm.trans e3)))
          · have hc3b : ((p).toList == (a).toList) = false := text_beq_no hc3
            have HPA : Hid (¬ (p = a)) := hc3
            go_wp2_with fail
            go_ret
            refine ⟨false, rfl, ?_, hb4⟩
            have zHub := Hub.out
            have zHuo := Huo.out
            have zHGT := HGT.out
            have zHK1 := HK1.out
            have zHPA := HPA.out
            constructor
            · intro h
              first
                | (cases h; done)
                | exact ⟨zHub, zHuo, by omega, .inl ⟨zHK1, zHPA⟩⟩
                | exact ⟨zHub, zHuo, by omega, .inr (.inl ⟨zHK2, (begins_iff a p).2 ⟨by omega, zHEX⟩⟩)⟩
                | exact ⟨zHub, zHuo, by omega, .inr (.inr ⟨by have := zHub.kinds; omega, zHug, zHGE.trans zHGV⟩)⟩
            · intro h
              first
                | rfl
                | (exfalso
                   obtain ⟨h1, h2, h3, h4⟩ := h
                   first
                     | exact zHub h1
                     | exact zHuo h2
                     | omega
                     | (rcases h4 with ⟨e1, e2⟩ | ⟨e1, e2⟩ | ⟨e1, e2, e3⟩
                        all_goals first
                          | omega
                          | exact zHPA e2
                          | exact zHEX ((begins_iff a p).1 e2).2
                          | (have := ((begins_iff a p).1 e2).1; omega)
                          | exact zHug e2
                          | exact zHGV (zHGE.symm.trans e3)))
        · have hc2b : ((k : Int) == (1 : Int)) = false := by simpa using hc2
          have hc2n : ((k : Int) != (1 : Int)) = true := by simpa using hc2
          have HK1 : Hid (¬ (k = 1)) := hc2
          have hc2H : Hid (¬ (k = 1)) := hc2
          clear hc2
          by_cases hc3 : k = 2
          · have hc3b : ((k : Int) == (2 : Int)) = true := by simpa using hc3
            have hc3n : ((k : Int) != (2 : Int)) = false := by simpa using hc3
            have HK2 : Hid (k = 2) := hc3
            have hc3H : Hid (k = 2) := hc3
            clear hc3
            go_upto_region 7 with fail
            clear cv1_3 cv2_6 cv1_0
            refine wp_region_held_drew (S := fun W => W.heap[qv2]? = some (.cells #[.string p, .slice o1 n1 c1, .slice o2 n2 c2, .int .i64 st, .slice o3 n3 c3, .string d, .int .i64 u] 31) ∧ W.heap[qv1]? = some (.cells #[.int .i64 k, .string a, .string b, .int .i64 t] 25)) (by kernel_rfl) ⟨HBv2_4.out, HBv1_4.out⟩ (fun _ => ?_)
            obtain ⟨w5, hX⟩ : ∃ X, X = w4.drew := ⟨_, rfl⟩
            have bw : Below w4.heap.size w4 w5 := by rw [hX]; exact (Below.refl _ _).drew
            rw [← hX]
            have hb5 : Below w.heap.size w (w5) := hb4.trans (bw.mono hb4.size)
            have HM5 : Hid ((w4).heap.size ≤ (w5).heap.size) := bw.size
            have HBv1_5 : Hid ((w5).heap[qv1]? = some (.cells #[.int .i64 k, .string a, .string b, .int .i64 t] 25)) := blk_below HBv1_4.out bw
            have HBv2_5 : Hid ((w5).heap[qv2]? = some (.cells #[.string p, .slice o1 n1 c1, .slice o2 n2 c2, .int .i64 st, .slice o3 n3 c3, .string d, .int .i64 u] 31)) := blk_below HBv2_4.out bw
            have hS5 : w5.heap[qv2]? = some (.cells #[.string p, .slice o1 n1 c1, .slice o2 n2 c2, .int .i64 st, .slice o3 n3 c3, .string d, .int .i64 u] 31) ∧ w5.heap[qv1]? = some (.cells #[.int .i64 k, .string a, .string b, .int .i64 t] 25) := ⟨HBv2_5.out, HBv1_5.out⟩
            clear hb4 HBv1_4 HBv2_4 bw hX
            refine wpAnyH_takeD (i := 0) (v := .pointer (some ⟨qv2, 0, none⟩)) (some 33) rfl rfl (by kernel_rfl) (by kernel_rfl) (by kernel_rfl) (fun _ _ _ h => h) (Or.inl ⟨by rfl, by intro W _; go_simp⟩) hS5 ?_
            simp only [Act.put, List.setIfInBounds_toArray, List.set_cons_zero, List.set_cons_succ]
            refine wpAnyH_takeD (i := 1) (v := .string p) (some 34) rfl rfl (by kernel_rfl) (by kernel_rfl) (by kernel_rfl) (fun _ _ _ h => h) (Or.inl ⟨by rfl, by intro W hW; obtain ⟨hhv2, hhv1⟩ := hW; have y0 := (cell_of hhv2 0).trans rfl; go_simp⟩) hS5 ?_
            simp only [Act.put, List.setIfInBounds_toArray, List.set_cons_zero, List.set_cons_succ]
            refine wpAnyH_takeD (i := 2) (v := .int .i64 (p.size : Int)) (some 35) rfl rfl (by kernel_rfl) (by kernel_rfl) (by kernel_rfl) (fun _ _ _ h => h) (Or.inl ⟨by rfl, by intro W _; go_simp⟩) hS5 ?_
            simp only [Act.put, List.setIfInBounds_toArray, List.set_cons_zero, List.set_cons_succ]
            refine wpAnyH_takeD (i := 3) (v := .pointer (some ⟨qv1, 1, none⟩)) (some 36) rfl rfl (by kernel_rfl) (by kernel_rfl) (by kernel_rfl) (fun _ _ _ h => h) (Or.inl ⟨by rfl, by intro W _; go_simp⟩) hS5 ?_
            simp only [Act.put, List.setIfInBounds_toArray, List.set_cons_zero, List.set_cons_succ]
            refine wpAnyH_takeD (i := 4) (v := .string a) (some 37) rfl rfl (by kernel_rfl) (by kernel_rfl) (by kernel_rfl) (fun _ _ _ h => h) (Or.inl ⟨by rfl, by intro W hW; obtain ⟨hhv2, hhv1⟩ := hW; have y1 := (cell_of hhv1 1).trans rfl; go_simp⟩) hS5 ?_
            simp only [Act.put, List.setIfInBounds_toArray, List.set_cons_zero, List.set_cons_succ]
            refine wpAnyH_takeD (i := 5) (v := .int .i64 (a.size : Int)) (some 38) rfl rfl (by kernel_rfl) (by kernel_rfl) (by kernel_rfl) (fun _ _ _ h => h) (Or.inl ⟨by rfl, by intro W _; go_simp⟩) hS5 ?_
            simp only [Act.put, List.setIfInBounds_toArray, List.set_cons_zero, List.set_cons_succ]
            by_cases hc4 : (a.size : Int) ≤ (p.size : Int)
            · have HLE : Hid ((a.size : Int) ≤ (p.size : Int)) := hc4
              refine wpAnyH_takeD (i := 6) (v := .bool true) (some 39) rfl rfl (by kernel_rfl) (by kernel_rfl) (by kernel_rfl) (fun _ _ _ h => h) (Or.inl ⟨by rfl, by intro W _; go_simp⟩) hS5 ?_
              simp only [Act.put, List.setIfInBounds_toArray, List.set_cons_zero, List.set_cons_succ]
              refine wpAnyH_takeD (i := 7) (v := .bool true) (some 40) rfl rfl (by kernel_rfl) (by kernel_rfl) (by kernel_rfl) (fun _ _ _ h => h) (Or.inl ⟨by rfl, by intro W _; go_simp⟩) hS5 ?_
              simp only [Act.put, List.setIfInBounds_toArray, List.set_cons_zero, List.set_cons_succ]
              refine wpAnyH_takeD (i := 8) (v := .pointer (some ⟨qv2, 0, none⟩)) (some 41) rfl rfl (by kernel_rfl) (by kernel_rfl) (by kernel_rfl) (fun _ _ _ h => h) (Or.inl ⟨by rfl, by intro W _; go_simp⟩) hS5 ?_
              simp only [Act.put, List.setIfInBounds_toArray, List.set_cons_zero, List.set_cons_succ]
              refine wpAnyH_takeD (i := 9) (v := .string p) (some 42) rfl rfl (by kernel_rfl) (by kernel_rfl) (by kernel_rfl) (fun _ _ _ h => h) (Or.inl ⟨by rfl, by intro W hW; obtain ⟨hhv2, hhv1⟩ := hW; have y0 := (cell_of hhv2 0).trans rfl; go_simp⟩) hS5 ?_
              simp only [Act.put, List.setIfInBounds_toArray, List.set_cons_zero, List.set_cons_succ]
              refine wpAnyH_takeD (i := 10) (v := .pointer (some ⟨qv1, 1, none⟩)) (some 43) rfl rfl (by kernel_rfl) (by kernel_rfl) (by kernel_rfl) (fun _ _ _ h => h) (Or.inl ⟨by rfl, by intro W _; go_simp⟩) hS5 ?_
              simp only [Act.put, List.setIfInBounds_toArray, List.set_cons_zero, List.set_cons_succ]
              refine wpAnyH_takeD (i := 11) (v := .string a) (some 44) rfl rfl (by kernel_rfl) (by kernel_rfl) (by kernel_rfl) (fun _ _ _ h => h) (Or.inl ⟨by rfl, by intro W hW; obtain ⟨hhv2, hhv1⟩ := hW; have y1 := (cell_of hhv1 1).trans rfl; go_simp⟩) hS5 ?_
              simp only [Act.put, List.setIfInBounds_toArray, List.set_cons_zero, List.set_cons_succ]
              refine wpAnyH_takeD (i := 12) (v := .int .i64 (a.size : Int)) (some 45) rfl rfl (by kernel_rfl) (by kernel_rfl) (by kernel_rfl) (fun _ _ _ h => h) (Or.inl ⟨by rfl, by intro W _; go_simp⟩) hS5 ?_
              simp only [Act.put, List.setIfInBounds_toArray, List.set_cons_zero, List.set_cons_succ]
              refine wpAnyH_takeD (i := 13) (v := .string (p.extract 0 a.size)) (some 46) rfl rfl (by kernel_rfl) (by kernel_rfl) (by kernel_rfl) (fun _ _ _ h => h) (Or.inl ⟨by rfl, by intro W _; go_simp⟩) hS5 ?_
              simp only [Act.put, List.setIfInBounds_toArray, List.set_cons_zero, List.set_cons_succ]
              refine wpAnyH_takeD (i := 14) (v := .pointer (some ⟨qv1, 1, none⟩)) (some 47) rfl rfl (by kernel_rfl) (by kernel_rfl) (by kernel_rfl) (fun _ _ _ h => h) (Or.inl ⟨by rfl, by intro W _; go_simp⟩) hS5 ?_
              simp only [Act.put, List.setIfInBounds_toArray, List.set_cons_zero, List.set_cons_succ]
              refine wpAnyH_takeD (i := 15) (v := .string a) (some 48) rfl rfl (by kernel_rfl) (by kernel_rfl) (by kernel_rfl) (fun _ _ _ h => h) (Or.inl ⟨by rfl, by intro W hW; obtain ⟨hhv2, hhv1⟩ := hW; have y1 := (cell_of hhv1 1).trans rfl; go_simp⟩) hS5 ?_
              simp only [Act.put, List.setIfInBounds_toArray, List.set_cons_zero, List.set_cons_succ]
              by_cases hc5 : (p.extract 0 a.size) = a
              · have hc5b : (((p.extract 0 a.size)).toList == (a).toList) = true := (text_beq _ _).2 hc5
                have HEX : Hid ((p.extract 0 a.size) = a) := hc5
                refine wpAnyH_takeD (i := 16) (v := .bool true) (some 49) rfl rfl (by kernel_rfl) (by kernel_rfl) (by kernel_rfl) (fun _ _ _ h => h) (Or.inl ⟨by rfl, by intro W _; go_simp⟩) hS5 ?_
                simp only [Act.put, List.setIfInBounds_toArray, List.set_cons_zero, List.set_cons_succ]
                refine wpAnyH_takeD (i := 17) (v := .bool true) (some 50) rfl rfl (by kernel_rfl) (by kernel_rfl) (by kernel_rfl) (fun _ _ _ h => h) (Or.inl ⟨by rfl, by intro W _; go_simp⟩) hS5 ?_
                simp only [Act.put, List.setIfInBounds_toArray, List.set_cons_zero, List.set_cons_succ]
                refine wpAnyH_takeD (i := 18) (v := .bool true) (some 4) rfl rfl (by kernel_rfl) (by kernel_rfl) (by kernel_rfl) (fun _ _ _ h => h) (Or.inl ⟨by rfl, by intro W _; go_simp⟩) hS5 ?_
                simp only [Act.put, List.setIfInBounds_toArray, List.set_cons_zero, List.set_cons_succ]
                clear hS5
                refine wpAnyH_done (by kernel_rfl) ?_ _
                go_wp2_with fail
                go_ret
                refine ⟨true, rfl, ?_, hb5⟩
                have zHub := Hub.out
                have zHuo := Huo.out
                have zHGT := HGT.out
                have zHK1 := HK1.out
                have zHK2 := HK2.out
                have zHLE := HLE.out
                have zHEX := HEX.out
                constructor
                · intro h
                  first
                    | (cases h; done)
                    | exact ⟨zHub, zHuo, by omega, .inl ⟨zHK1, zHPA⟩⟩
                    | exact ⟨zHub, zHuo, by omega, .inr (.inl ⟨zHK2, (begins_iff a p).2 ⟨by omega, zHEX⟩⟩)⟩
                    | exact ⟨zHub, zHuo, by omega, .inr (.inr ⟨by have := zHub.kinds; omega, zHug, zHGE.trans zHGV⟩)⟩
                · intro h
                  first
                    | rfl
                    | (exfalso
                       obtain ⟨h1, h2, h3, h4⟩ := h
                       first
                         | exact zHub h1
                         | exact zHuo h2
                         | omega
                         | (rcases h4 with ⟨e1, e2⟩ | ⟨e1, e2⟩ | ⟨e1, e2, e3⟩
                            all_goals first
                              | omega
                              | exact zHPA e2
                              | exact zHEX ((begins_iff a p).1 e2).2
                              | (have := ((begins_iff a p).1 e2).1; omega)
                              | exact zHug e2
                              | exact zHGV (zHGE.symm.trans e3)))
              · have hc5b : (((p.extract 0 a.size)).toList == (a).toList) = false := text_beq_no hc5
                have HEX : Hid (¬ ((p.extract 0 a.size) = a)) := hc5
                refine wpAnyH_takeD (i := 16) (v := .bool false) (some 49) rfl rfl (by kernel_rfl) (by kernel_rfl) (by kernel_rfl) (fun _ _ _ h => h) (Or.inl ⟨by rfl, by intro W _; go_simp⟩) hS5 ?_
                simp only [Act.put, List.setIfInBounds_toArray, List.set_cons_zero, List.set_cons_succ]
                refine wpAnyH_takeD (i := 17) (v := .bool false) (some 50) rfl rfl (by kernel_rfl) (by kernel_rfl) (by kernel_rfl) (fun _ _ _ h => h) (Or.inl ⟨by rfl, by intro W _; go_simp⟩) hS5 ?_
                simp only [Act.put, List.setIfInBounds_toArray, List.set_cons_zero, List.set_cons_succ]
                refine wpAnyH_takeD (i := 18) (v := .bool false) (some 4) rfl rfl (by kernel_rfl) (by kernel_rfl) (by kernel_rfl) (fun _ _ _ h => h) (Or.inl ⟨by rfl, by intro W _; go_simp⟩) hS5 ?_
                simp only [Act.put, List.setIfInBounds_toArray, List.set_cons_zero, List.set_cons_succ]
                clear hS5
                refine wpAnyH_done (by kernel_rfl) ?_ _
                go_wp2_with fail
                go_ret
                refine ⟨false, rfl, ?_, hb5⟩
                have zHub := Hub.out
                have zHuo := Huo.out
                have zHGT := HGT.out
                have zHK1 := HK1.out
                have zHK2 := HK2.out
                have zHLE := HLE.out
                have zHEX := HEX.out
                constructor
                · intro h
                  first
                    | (cases h; done)
                    | exact ⟨zHub, zHuo, by omega, .inl ⟨zHK1, zHPA⟩⟩
                    | exact ⟨zHub, zHuo, by omega, .inr (.inl ⟨zHK2, (begins_iff a p).2 ⟨by omega, zHEX⟩⟩)⟩
                    | exact ⟨zHub, zHuo, by omega, .inr (.inr ⟨by have := zHub.kinds; omega, zHug, zHGE.trans zHGV⟩)⟩
                · intro h
                  first
                    | rfl
                    | (exfalso
                       obtain ⟨h1, h2, h3, h4⟩ := h
                       first
                         | exact zHub h1
                         | exact zHuo h2
                         | omega
                         | (rcases h4 with ⟨e1, e2⟩ | ⟨e1, e2⟩ | ⟨e1, e2, e3⟩
                            all_goals first
                              | omega
                              | exact zHPA e2
                              | exact zHEX ((begins_iff a p).1 e2).2
                              | (have := ((begins_iff a p).1 e2).1; omega)
                              | exact zHug e2
                              | exact zHGV (zHGE.symm.trans e3)))
            · have HLE : Hid (¬ ((a.size : Int) ≤ (p.size : Int))) := hc4
              refine wpAnyH_takeD (i := 6) (v := .bool false) (some 39) rfl rfl (by kernel_rfl) (by kernel_rfl) (by kernel_rfl) (fun _ _ _ h => h) (Or.inl ⟨by rfl, by intro W _; go_simp⟩) hS5 ?_
              simp only [Act.put, List.setIfInBounds_toArray, List.set_cons_zero, List.set_cons_succ]
              refine wpAnyH_takeD (i := 7) (v := .bool false) (some 40) rfl rfl (by kernel_rfl) (by kernel_rfl) (by kernel_rfl) (fun _ _ _ h => h) (Or.inl ⟨by rfl, by intro W _; go_simp⟩) hS5 ?_
              simp only [Act.put, List.setIfInBounds_toArray, List.set_cons_zero, List.set_cons_succ]
              refine wpAnyH_takeD (i := 8) (v := undef) (some 41) rfl rfl (by kernel_rfl) (by kernel_rfl) (by kernel_rfl) (fun _ _ _ h => h) (Or.inr ⟨by rfl, rfl⟩) hS5 ?_
              simp only [Act.put, List.setIfInBounds_toArray, List.set_cons_zero, List.set_cons_succ]
              refine wpAnyH_takeD (i := 9) (v := undef) (some 42) rfl rfl (by kernel_rfl) (by kernel_rfl) (by kernel_rfl) (fun _ _ _ h => h) (Or.inr ⟨by rfl, rfl⟩) hS5 ?_
              simp only [Act.put, List.setIfInBounds_toArray, List.set_cons_zero, List.set_cons_succ]
              refine wpAnyH_takeD (i := 10) (v := undef) (some 43) rfl rfl (by kernel_rfl) (by kernel_rfl) (by kernel_rfl) (fun _ _ _ h => h) (Or.inr ⟨by rfl, rfl⟩) hS5 ?_
              simp only [Act.put, List.setIfInBounds_toArray, List.set_cons_zero, List.set_cons_succ]
              refine wpAnyH_takeD (i := 11) (v := undef) (some 44) rfl rfl (by kernel_rfl) (by kernel_rfl) (by kernel_rfl) (fun _ _ _ h => h) (Or.inr ⟨by rfl, rfl⟩) hS5 ?_
              simp only [Act.put, List.setIfInBounds_toArray, List.set_cons_zero, List.set_cons_succ]
              refine wpAnyH_takeD (i := 12) (v := undef) (some 45) rfl rfl (by kernel_rfl) (by kernel_rfl) (by kernel_rfl) (fun _ _ _ h => h) (Or.inr ⟨by rfl, rfl⟩) hS5 ?_
              simp only [Act.put, List.setIfInBounds_toArray, List.set_cons_zero, List.set_cons_succ]
              refine wpAnyH_takeD (i := 13) (v := undef) (some 46) rfl rfl (by kernel_rfl) (by kernel_rfl) (by kernel_rfl) (fun _ _ _ h => h) (Or.inr ⟨by rfl, rfl⟩) hS5 ?_
              simp only [Act.put, List.setIfInBounds_toArray, List.set_cons_zero, List.set_cons_succ]
              refine wpAnyH_takeD (i := 14) (v := undef) (some 47) rfl rfl (by kernel_rfl) (by kernel_rfl) (by kernel_rfl) (fun _ _ _ h => h) (Or.inr ⟨by rfl, rfl⟩) hS5 ?_
              simp only [Act.put, List.setIfInBounds_toArray, List.set_cons_zero, List.set_cons_succ]
              refine wpAnyH_takeD (i := 15) (v := undef) (some 48) rfl rfl (by kernel_rfl) (by kernel_rfl) (by kernel_rfl) (fun _ _ _ h => h) (Or.inr ⟨by rfl, rfl⟩) hS5 ?_
              simp only [Act.put, List.setIfInBounds_toArray, List.set_cons_zero, List.set_cons_succ]
              refine wpAnyH_takeD (i := 16) (v := undef) (some 49) rfl rfl (by kernel_rfl) (by kernel_rfl) (by kernel_rfl) (fun _ _ _ h => h) (Or.inr ⟨by rfl, rfl⟩) hS5 ?_
              simp only [Act.put, List.setIfInBounds_toArray, List.set_cons_zero, List.set_cons_succ]
              refine wpAnyH_takeD (i := 17) (v := .bool false) (some 50) rfl rfl (by kernel_rfl) (by kernel_rfl) (by kernel_rfl) (fun _ _ _ h => h) (Or.inl ⟨by rfl, by intro W _; go_simp⟩) hS5 ?_
              simp only [Act.put, List.setIfInBounds_toArray, List.set_cons_zero, List.set_cons_succ]
              refine wpAnyH_takeD (i := 18) (v := .bool false) (some 4) rfl rfl (by kernel_rfl) (by kernel_rfl) (by kernel_rfl) (fun _ _ _ h => h) (Or.inl ⟨by rfl, by intro W _; go_simp⟩) hS5 ?_
              simp only [Act.put, List.setIfInBounds_toArray, List.set_cons_zero, List.set_cons_succ]
              clear hS5
              refine wpAnyH_done (by kernel_rfl) ?_ _
              go_wp2_with fail
              go_ret
              refine ⟨false, rfl, ?_, hb5⟩
              have zHub := Hub.out
              have zHuo := Huo.out
              have zHGT := HGT.out
              have zHK1 := HK1.out
              have zHK2 := HK2.out
              have zHLE := HLE.out
              constructor
              · intro h
                first
                  | (cases h; done)
                  | exact ⟨zHub, zHuo, by omega, .inl ⟨zHK1, zHPA⟩⟩
                  | exact ⟨zHub, zHuo, by omega, .inr (.inl ⟨zHK2, (begins_iff a p).2 ⟨by omega, zHEX⟩⟩)⟩
                  | exact ⟨zHub, zHuo, by omega, .inr (.inr ⟨by have := zHub.kinds; omega, zHug, zHGE.trans zHGV⟩)⟩
              · intro h
                first
                  | rfl
                  | (exfalso
                     obtain ⟨h1, h2, h3, h4⟩ := h
                     first
                       | exact zHub h1
                       | exact zHuo h2
                       | omega
                       | (rcases h4 with ⟨e1, e2⟩ | ⟨e1, e2⟩ | ⟨e1, e2, e3⟩
                          all_goals first
                            | omega
                            | exact zHPA e2
                            | exact zHEX ((begins_iff a p).1 e2).2
                            | (have := ((begins_iff a p).1 e2).1; omega)
                            | exact zHug e2
                            | exact zHGV (zHGE.symm.trans e3)))
          · have hc3b : ((k : Int) == (2 : Int)) = false := by simpa using hc3
            have hc3n : ((k : Int) != (2 : Int)) = true := by simpa using hc3
            have HK2 : Hid (¬ (k = 2)) := hc3
            have hc3H : Hid (¬ (k = 2)) := hc3
            clear hc3
            have cv1_1 : (w4).cell? ⟨qv1, 1, none⟩ = some (.string a) := (cell_of HBv1_4.out 1).trans rfl
            have cv2_4 : (w4).cell? ⟨qv2, 4, none⟩ = some (.slice o3 n3 c3) := (cell_of HBv2_4.out 4).trans rfl
            go_wp2_with fail
            refine (specGet_any _ n3 base fs a _ (HV3.out _ hb4) (by omega)).mono ?_
            rintro e w5 ⟨rfl, hwe⟩
            have bw : Below (w4).heap.size (w4) w5 := by rw [hwe]; exact Below.refl _ _
            clear hwe
            obtain ⟨gv, hgv⟩ : ∃ x, x = getV fs a := ⟨_, rfl⟩
            obtain ⟨ug, hug⟩ : ∃ x, x = getB fs a := ⟨_, rfl⟩
            have HGE : Hid (getV fs a = gv) := hgv.symm
            rw [← hgv, ← hug]
            clear hgv
            have hb5 : Below w.heap.size w (w5) := hb4.trans (bw.mono hb4.size)
            have HM5 : Hid ((w4).heap.size ≤ (w5).heap.size) := bw.size
            have HBv1_5 : Hid ((w5).heap[qv1]? = some (.cells #[.int .i64 k, .string a, .string b, .int .i64 t] 25)) := blk_below HBv1_4.out bw
            have HBv2_5 : Hid ((w5).heap[qv2]? = some (.cells #[.string p, .slice o1 n1 c1, .slice o2 n2 c2, .int .i64 st, .slice o3 n3 c3, .string d, .int .i64 u] 31)) := blk_below HBv2_4.out bw
            clear hb4 HBv1_4 HBv2_4 bw
            clear cv1_3 cv2_6 cv1_0 cv1_1 cv2_4
            cases ug with
            | false =>
              have Hug : Hid (¬ getB fs a = true) := (by show ¬ _; rw [← hug]; decide)
              clear hug
              go_wp2_with fail
              go_ret
              refine ⟨false, rfl, ?_, hb5⟩
              have zHub := Hub.out
              have zHuo := Huo.out
              have zHGT := HGT.out
              have zHK1 := HK1.out
              have zHK2 := HK2.out
              have zHug := Hug.out
              have zHGE := HGE.out
              constructor
              · intro h
                first
                  | (cases h; done)
                  | exact ⟨zHub, zHuo, by omega, .inl ⟨zHK1, zHPA⟩⟩
                  | exact ⟨zHub, zHuo, by omega, .inr (.inl ⟨zHK2, (begins_iff a p).2 ⟨by omega, zHEX⟩⟩)⟩
                  | exact ⟨zHub, zHuo, by omega, .inr (.inr ⟨by have := zHub.kinds; omega, zHug, zHGE.trans zHGV⟩)⟩
              · intro h
                first
                  | rfl
                  | (exfalso
                     obtain ⟨h1, h2, h3, h4⟩ := h
                     first
                       | exact zHub h1
                       | exact zHuo h2
                       | omega
                       | (rcases h4 with ⟨e1, e2⟩ | ⟨e1, e2⟩ | ⟨e1, e2, e3⟩
                          all_goals first
                            | omega
                            | exact zHPA e2
                            | exact zHEX ((begins_iff a p).1 e2).2
                            | (have := ((begins_iff a p).1 e2).1; omega)
                            | exact zHug e2
                            | exact zHGV (zHGE.symm.trans e3)))
            | true =>
              have Hug : Hid (getB fs a = true) := hug.symm
              clear hug
              have cv1_2 : (w5).cell? ⟨qv1, 2, none⟩ = some (.string b) := (cell_of HBv1_5.out 2).trans rfl
              by_cases hc4 : gv = b
              · have hc4b : ((gv).toList == (b).toList) = true := (text_beq _ _).2 hc4
                have HGV : Hid (gv = b) := hc4
                go_wp2_with fail
                go_ret
                refine ⟨true, rfl, ?_, hb5⟩
                have zHub := Hub.out
                have zHuo := Huo.out
                have zHGT := HGT.out
                have zHK1 := HK1.out
                have zHK2 := HK2.out
                have zHug := Hug.out
                have zHGE := HGE.out
                have zHGV := HGV.out
                constructor
                · intro h
                  first
                    | (cases h; done)
                    | exact ⟨zHub, zHuo, by omega, .inl ⟨zHK1, zHPA⟩⟩
                    | exact ⟨zHub, zHuo, by omega, .inr (.inl ⟨zHK2, (begins_iff a p).2 ⟨by omega, zHEX⟩⟩)⟩
                    | exact ⟨zHub, zHuo, by omega, .inr (.inr ⟨by have := zHub.kinds; omega, zHug, zHGE.trans zHGV⟩)⟩
                · intro h
                  first
                    | rfl
                    | (exfalso
                       obtain ⟨h1, h2, h3, h4⟩ := h
                       first
                         | exact zHub h1
                         | exact zHuo h2
                         | omega
                         | (rcases h4 with ⟨e1, e2⟩ | ⟨e1, e2⟩ | ⟨e1, e2, e3⟩
                            all_goals first
                              | omega
                              | exact zHPA e2
                              | exact zHEX ((begins_iff a p).1 e2).2
                              | (have := ((begins_iff a p).1 e2).1; omega)
                              | exact zHug e2
                              | exact zHGV (zHGE.symm.trans e3)))
              · have hc4b : ((gv).toList == (b).toList) = false := text_beq_no hc4
                have HGV : Hid (¬ (gv = b)) := hc4
                go_wp2_with fail
                go_ret
                refine ⟨false, rfl, ?_, hb5⟩
                have zHub := Hub.out
                have zHuo := Huo.out
                have zHGT := HGT.out
                have zHK1 := HK1.out
                have zHK2 := HK2.out
                have zHug := Hug.out
                have zHGE := HGE.out
                have zHGV := HGV.out
                constructor
                · intro h
                  first
                    | (cases h; done)
                    | exact ⟨zHub, zHuo, by omega, .inl ⟨zHK1, zHPA⟩⟩
                    | exact ⟨zHub, zHuo, by omega, .inr (.inl ⟨zHK2, (begins_iff a p).2 ⟨by omega, zHEX⟩⟩)⟩
                    | exact ⟨zHub, zHuo, by omega, .inr (.inr ⟨by have := zHub.kinds; omega, zHug, zHGE.trans zHGV⟩)⟩
                · intro h
                  first
                    | rfl
                    | (exfalso
                       obtain ⟨h1, h2, h3, h4⟩ := h
                       first
                         | exact zHub h1
                         | exact zHuo h2
                         | omega
                         | (rcases h4 with ⟨e1, e2⟩ | ⟨e1, e2⟩ | ⟨e1, e2, e3⟩
                            all_goals first
                              | omega
                              | exact zHPA e2
                              | exact zHEX ((begins_iff a p).1 e2).2
                              | (have := ((begins_iff a p).1 e2).1; omega)
                              | exact zHug e2
                              | exact zHGV (zHGE.symm.trans e3)))

end Go.Proofs.YtlmenolcgaakeaaGreat

namespace Go.Proofs.YtlmenolcgaakeaaGreat
open Go.RowKit
open Go.Lib hiding intOf

/-- One of the bans hits. -/
def AnyP (l : List (Int × ByteArray × ByteArray × Int)) (p : ByteArray) (xs ys : List ByteArray) (st : Int) (fs : List (ByteArray × ByteArray)) (d : ByteArray) (u : Int) : Prop := ∃ x ∈ l, HitP x.1 x.2.1 x.2.2.1 x.2.2.2 p xs ys st fs d u

set_option maxHeartbeats 8000000 in
set_option maxRecDepth 100000 in
theorem specHitsAny_any (oa : Option Addr) (n cap : Nat) (l : List (Int × ByteArray × ByteArray × Int)) (p : ByteArray) (o1 : Option Addr) (n1 c1 : Nat) (xs : List ByteArray) (o2 : Option Addr) (n2 c2 : Nat) (ys : List ByteArray) (st : Int) (v3 : Value) (n3 base : Nat) (fs : List (ByteArray × ByteArray)) (d : ByteArray) (u : Int) (w : World) (hl : BanA w oa n l) (hn : n ≤ 2000000) (hlz : ∀ x ∈ l, x.2.1.size ≤ maxLen ∧ x.2.2.1.size ≤ maxLen) (h1 : TextsA w o1 n1 xs) (h2 : TextsA w o2 n2 ys) (h3 : FieldsV w base v3 n3 fs) (hn1 : n1 ≤ 2000000) (hn2 : n2 ≤ 2000000) (hn3 : n3 ≤ 2000000) (hs1 : ∀ i, i < n1 → (textAt xs i).size ≤ maxLen) (hs2 : ∀ i, i < n2 → (textAt ys i).size ≤ maxLen) (hs3 : WalkF n3 fs) (hp : p.size ≤ maxLen) (hx : d.size ≤ maxLen) (hg : (getV fs varyName).size ≤ 1048576) :
    Calls Tryz.prog 12 #[.slice oa n cap, .agg #[.string p, .slice o1 n1 c1, .slice o2 n2 c2, .int .i64 st, v3, .string d, .int .i64 u]] w fun e w' => BoolIs (AnyP l p xs ys st fs d u) w e w' := by
  obtain ⟨o3, c3, rfl, _⟩ := h3.slice
  have HL : Hid (∀ W, Below w.heap.size w W → BanA W oa n l) := fun W h => hl.below h
  have HLN : Hid (l.length = n) := hl.1
  have HC : Hid (∀ (k : Int) (a b : ByteArray) (t : Int) (W : World), Below w.heap.size w W → a.size ≤ maxLen → b.size ≤ maxLen → Calls Tryz.prog 7 #[.agg #[.int .i64 k, .string a, .string b, .int .i64 t], .agg #[.string p, .slice o1 n1 c1, .slice o2 n2 c2, .int .i64 st, .slice o3 n3 c3, .string d, .int .i64 u]] W fun e w' => BoolIs (HitP k a b t p xs ys st fs d u) W e w') := fun k a b t W h ha hb =>
    specHits_any k a b t p o1 n1 c1 xs o2 n2 c2 ys st _ n3 base fs d u W ha hb (h1.below h) (h2.below h) (h3.below h) hn1 hn2 hn3 hs1 hs2 hs3 hp hx hg
  have HLZ : Hid (∀ x ∈ l, x.2.1.size ≤ maxLen ∧ x.2.2.1.size ≤ maxLen) := hlz
  obtain ⟨q, hq⟩ : ∃ q, q = w.heap.size := ⟨_, rfl⟩
  obtain ⟨W1, hW1⟩ : ∃ W, W = w.alloc (.cells #[.string p, .slice o1 n1 c1, .slice o2 n2 c2, .int .i64 st, .slice o3 n3 c3, .string d, .int .i64 u] 31) := ⟨_, rfl⟩
  have H1 : Hid (Below w.heap.size w W1 ∧ W1.heap[q]? = some (.cells #[.string p, .slice o1 n1 c1, .slice o2 n2 c2, .int .i64 st, .slice o3 n3 c3, .string d, .int .i64 u] 31)) := ⟨by rw [hW1]; exact (Below.refl _ _).alloc (Nat.le_refl _) _, by rw [hW1, hq]; exact heap_alloc_new _ _⟩
  clear hl hlz h1 h2 h3 hs1 hs2 hs3 hp hx hg
  go_enter Tryz.func12, Tryz.ntmps12
  go_upto_region 1 with fail
  rw [← hW1, ← hq]
  clear hW1 hq
  go_wp2_with fail
  go_loopw [5] (fun i wr => ∃ j : Nat, j ≤ n ∧ i = .int .i64 (j : Int) ∧ Hid (Below w.heap.size w wr ∧ wr.heap[q]? = some (.cells #[.string p, .slice o1 n1 c1, .slice o2 n2 c2, .int .i64 st, .slice o3 n3 c3, .string d, .int .i64 u] 31)) ∧ Hid (∀ x ∈ l.take j, ¬ HitP x.1 x.2.1 x.2.2.1 x.2.2.2 p xs ys st fs d u)) (fun i _ => n - (intOf i).toNat)
  case atStart => exact ⟨0, Nat.zero_le _, rfl, H1, fun x hx => by simp at hx⟩
  case round =>
    obtain ⟨j, hj, rfl, HW, HN⟩ := hrel
    by_cases hlt : (j : Int) < (n : Int)
    · have hjx : j < l.length := by rw [HLN.out]; omega
      obtain ⟨g, hog, hgl, r1, r2, r3, r4⟩ := (HL.out wr HW.out.1).2 j (by omega)
      subst hog
      obtain ⟨y, hy⟩ : ∃ y, y = banAt l j := ⟨_, rfl⟩
      rw [← hy] at r1 r2 r3 r4
      have HM : Hid (y ∈ l) := by show _ ∈ _; rw [hy]; exact banAt_mem l j hjx
      have HTK : Hid (l.take (j + 1) = l.take j ++ [y]) := by show _ = _; rw [hy]; exact take_banAt l j hjx
      clear hy hjx
      obtain ⟨k, a, b, t⟩ := y
      dsimp only at r1 r2 r3 r4
      obtain ⟨za, zb⟩ := HLZ.out _ HM.out
      dsimp only at za zb
      have hob := HW.out.2
      have e0 : wr.cell? ⟨q, 0, none⟩ = some (.string p) := (cell_of hob 0).trans rfl
      have e1 : wr.cell? ⟨q, 1, none⟩ = some (.slice o1 n1 c1) := (cell_of hob 1).trans rfl
      have e2 : wr.cell? ⟨q, 2, none⟩ = some (.slice o2 n2 c2) := (cell_of hob 2).trans rfl
      have e3 : wr.cell? ⟨q, 3, none⟩ = some (.int .i64 st) := (cell_of hob 3).trans rfl
      have e4 : wr.cell? ⟨q, 4, none⟩ = some (.slice o3 n3 c3) := (cell_of hob 4).trans rfl
      have e5 : wr.cell? ⟨q, 5, none⟩ = some (.string d) := (cell_of hob 5).trans rfl
      have e6 : wr.cell? ⟨q, 6, none⟩ = some (.int .i64 u) := (cell_of hob 6).trans rfl
      have HSB : Hid (∀ W, Below wr.heap.size wr W → ((W.cell? ⟨g, j * 4, none⟩ = some (.int .i64 k) ∧ W.cell? ⟨g, j * 4 + 1, none⟩ = some (.string a) ∧ W.cell? ⟨g, j * 4 + 2, none⟩ = some (.string b) ∧ W.cell? ⟨g, j * 4 + 3, none⟩ = some (.int .i64 t)) ∧ (W.cell? ⟨q, 0, none⟩ = some (.string p) ∧ W.cell? ⟨q, 1, none⟩ = some (.slice o1 n1 c1) ∧ W.cell? ⟨q, 2, none⟩ = some (.slice o2 n2 c2) ∧ W.cell? ⟨q, 3, none⟩ = some (.int .i64 st) ∧ W.cell? ⟨q, 4, none⟩ = some (.slice o3 n3 c3) ∧ W.cell? ⟨q, 5, none⟩ = some (.string d) ∧ W.cell? ⟨q, 6, none⟩ = some (.int .i64 u))) ∧ W.heap[q]? = some (.cells #[.string p, .slice o1 n1 c1, .slice o2 n2 c2, .int .i64 st, .slice o3 n3 c3, .string d, .int .i64 u] 31)) := fun W h => by
        have hb2 := blk_below HW.out.2 h
        exact ⟨⟨⟨by rw [h.cell (p := ⟨g, j * 4, none⟩) hgl]; exact r1, by rw [h.cell (p := ⟨g, j * 4 + 1, none⟩) hgl]; exact r2, by rw [h.cell (p := ⟨g, j * 4 + 2, none⟩) hgl]; exact r3, by rw [h.cell (p := ⟨g, j * 4 + 3, none⟩) hgl]; exact r4⟩, (cell_of hb2 0).trans rfl, (cell_of hb2 1).trans rfl, (cell_of hb2 2).trans rfl, (cell_of hb2 3).trans rfl, (cell_of hb2 4).trans rfl, (cell_of hb2 5).trans rfl, (cell_of hb2 6).trans rfl⟩, hb2⟩
      have HBW : Hid (Below w.heap.size w wr) := HW.out.1
      clear hob HW
      go_wp2_with fail
      refine wp_region_held_drew (S := fun W => (W.cell? ⟨g, j * 4, none⟩ = some (.int .i64 k) ∧ W.cell? ⟨g, j * 4 + 1, none⟩ = some (.string a) ∧ W.cell? ⟨g, j * 4 + 2, none⟩ = some (.string b) ∧ W.cell? ⟨g, j * 4 + 3, none⟩ = some (.int .i64 t)) ∧ (W.cell? ⟨q, 0, none⟩ = some (.string p) ∧ W.cell? ⟨q, 1, none⟩ = some (.slice o1 n1 c1) ∧ W.cell? ⟨q, 2, none⟩ = some (.slice o2 n2 c2) ∧ W.cell? ⟨q, 3, none⟩ = some (.int .i64 st) ∧ W.cell? ⟨q, 4, none⟩ = some (.slice o3 n3 c3) ∧ W.cell? ⟨q, 5, none⟩ = some (.string d) ∧ W.cell? ⟨q, 6, none⟩ = some (.int .i64 u))) (by kernel_rfl) ⟨⟨r1, r2, r3, r4⟩, e0, e1, e2, e3, e4, e5, e6⟩ (fun hS0 => ?_)
      refine wpAnyH_takeD (i := 0) (v := .slice (some ⟨g, 0, none⟩) n cap) (some 12) rfl rfl (by kernel_rfl) (by kernel_rfl) (by kernel_rfl) (fun _ _ _ h => h) (Or.inl ⟨by rfl, by intro W _; go_simp⟩) hS0 ?_
      simp only [Act.put, List.setIfInBounds_toArray, List.set_cons_zero, List.set_cons_succ]
      refine wpAnyH_takeD (i := 1) (v := .int .i64 (j : Int)) (some 13) rfl rfl (by kernel_rfl) (by kernel_rfl) (by kernel_rfl) (fun _ _ _ h => h) (Or.inl ⟨by rfl, by intro W _; go_simp⟩) hS0 ?_
      simp only [Act.put, List.setIfInBounds_toArray, List.set_cons_zero, List.set_cons_succ]
      refine wpAnyH_takeD (i := 2) (v := .pointer (some ⟨g, j * 4, none⟩)) (some 14) rfl rfl (by kernel_rfl) (by kernel_rfl) (by kernel_rfl) (fun _ _ _ h => h) (Or.inl ⟨by rfl, by intro W _; go_simp⟩) hS0 ?_
      simp only [Act.put, List.setIfInBounds_toArray, List.set_cons_zero, List.set_cons_succ]
      refine wpAnyH_takeD (i := 3) (v := .agg #[.int .i64 k, .string a, .string b, .int .i64 t]) (some 15) rfl rfl (by kernel_rfl) (by kernel_rfl) (by kernel_rfl) (fun _ _ _ h => h) (Or.inl ⟨by rfl, by intro W hW; obtain ⟨⟨y0, y1, y2, y3⟩, _⟩ := hW; go_simp⟩) hS0 ?_
      simp only [Act.put, List.setIfInBounds_toArray, List.set_cons_zero, List.set_cons_succ]
      refine wpAnyH_takeD (i := 4) (v := .agg #[.string p, .slice o1 n1 c1, .slice o2 n2 c2, .int .i64 st, .slice o3 n3 c3, .string d, .int .i64 u]) (some 16) rfl rfl (by kernel_rfl) (by kernel_rfl) (by kernel_rfl) (fun _ _ _ h => h) (Or.inl ⟨by rfl, by intro W hW; obtain ⟨_, y0, y1, y2, y3, y4, y5, y6⟩ := hW; go_simp⟩) hS0 ?_
      simp only [Act.put, List.setIfInBounds_toArray, List.set_cons_zero, List.set_cons_succ]
      refine wpAnyH_ready (rs := [5]) (by kernel_rfl) (by simp) ?_
      refine AllReadyH.cons rfl (fun K hK => ?_) AllReadyH.nil
      go_simp
      refine (HC.out k a b t _ HBW.out.drew za zb).mono ?_
      rintro e w1 ⟨tx, rfl, htx, bw⟩
      have HB1 : Hid (Below wr.heap.size wr w1) := (Below.refl _ wr).drew.trans bw
      have HW1 : Hid (Below w.heap.size w w1 ∧ w1.heap[q]? = some (.cells #[.string p, .slice o1 n1 c1, .slice o2 n2 c2, .int .i64 st, .slice o3 n3 c3, .string d, .int .i64 u] 31)) := ⟨HBW.out.trans (HB1.out.mono HBW.out.size), (HSB.out w1 HB1.out).2⟩
      refine hK.out _ _ (HSB.out w1 HB1.out).1 (fun _ => ?_)
      refine wpAnyH_done (by kernel_rfl) ?_ _
      clear hK K hS0 r1 r2 r3 r4 e0 e1 e2 e3 e4 e5 e6 bw HSB HB1 HBW
      cases tx with
      | true =>
        have HA : Hid (AnyP l p xs ys st fs d u) := ⟨_, HM.out, htx.1 rfl⟩
        clear htx HN
        go_wp2_with fail
        go_ret
        exact ⟨true, rfl, ⟨fun _ => HA.out, fun _ => rfl⟩, HW1.out.1⟩
      | false =>
        have HN2 : Hid (∀ x ∈ l.take (j + 1), ¬ HitP x.1 x.2.1 x.2.2.1 x.2.2.2 p xs ys st fs d u) := by
          intro x hx
          rw [HTK.out] at hx
          rcases List.mem_append.1 hx with hx | hx
          · exact HN.out x hx
          · rw [List.mem_singleton.1 hx]; exact fun h => nomatch htx.2 h
        clear htx HN
        go_wp2_with fail
        go_roundw
        case rel => exact ⟨j + 1, by omega, by go_num, HW1, HN2⟩
        case measure => simp [intOf]; omega
    · have HA : Hid (¬ AnyP l p xs ys st fs d u) := by
        rintro ⟨x, hx, h⟩
        have h2 := HN.out
        rw [List.take_of_length_le (by rw [HLN.out]; omega)] at h2
        exact h2 x hx h
      clear HN
      go_wp2_with fail
      go_ret
      exact BoolIs.no HA.out HW.out.1

end Go.Proofs.YtlmenolcgaakeaaGreat

namespace Go.Proofs.YtlmenolcgaakeaaGreat
open Go.RowKit
open Go.Lib hiding intOf

set_option maxHeartbeats 8000000 in
set_option maxRecDepth 100000 in
theorem ruleOf_1 (a b : ByteArray) (t : Int) (w : World) :
    Calls Tryz.prog 16 #[.agg #[.int .i64 1, .string a, .string b, .int .i64 t]] w fun e w' => e = .returned (.iface 67 (.agg #[.string a])) ∧ Below w.heap.size w w' := by
  have hb0 : Below w.heap.size w w := Below.refl _ _
  go_enter Tryz.func16, Tryz.ntmps16
  go_upto_region 1 with fail
  obtain ⟨qv1, hqv1⟩ : ∃ q, q = (w).heap.size := ⟨_, rfl⟩
  obtain ⟨w1, hW1⟩ : ∃ W, W = (w).alloc (.cells #[.int .i64 1, .string a, .string b, .int .i64 t] 25) := ⟨_, rfl⟩
  have hz1 : (w).heap.size = qv1 := hqv1.symm
  first | rw [← hW1, ← hqv1] | rw [← hW1]
  have hs1 : w1.heap.size = qv1 + 1 := by rw [hW1, ← hz1]; simp
  have bw : Below (w).heap.size (w) w1 := by rw [hW1]; exact (Below.refl _ _).alloc (Nat.le_refl _) _
  have hb1 : Below w.heap.size w (w1) := hb0.trans (bw.mono hb0.size)
  have HBv1_1 : Hid ((w1).heap[qv1]? = some (.cells #[.int .i64 1, .string a, .string b, .int .i64 t] 25)) := by show _ = _; rw [hW1, ← hz1]; exact heap_alloc_new _ _
  clear hb0 bw hW1 hz1
  clear hs1 hqv1
  have cv1_0 : (w1).cell? ⟨qv1, 0, none⟩ = some (.int .i64 1) := (cell_of HBv1_1.out 0).trans rfl
  have cv1_1 : (w1).cell? ⟨qv1, 1, none⟩ = some (.string a) := (cell_of HBv1_1.out 1).trans rfl
  go_wp2_with fail
  go_ret
  exact ⟨rfl, hb1⟩

set_option maxHeartbeats 8000000 in
set_option maxRecDepth 100000 in
theorem ruleOf_2 (a b : ByteArray) (t : Int) (w : World) :
    Calls Tryz.prog 16 #[.agg #[.int .i64 2, .string a, .string b, .int .i64 t]] w fun e w' => e = .returned (.iface 69 (.agg #[.string a])) ∧ Below w.heap.size w w' := by
  have hb0 : Below w.heap.size w w := Below.refl _ _
  go_enter Tryz.func16, Tryz.ntmps16
  go_upto_region 1 with fail
  obtain ⟨qv1, hqv1⟩ : ∃ q, q = (w).heap.size := ⟨_, rfl⟩
  obtain ⟨w1, hW1⟩ : ∃ W, W = (w).alloc (.cells #[.int .i64 2, .string a, .string b, .int .i64 t] 25) := ⟨_, rfl⟩
  have hz1 : (w).heap.size = qv1 := hqv1.symm
  first | rw [← hW1, ← hqv1] | rw [← hW1]
  have hs1 : w1.heap.size = qv1 + 1 := by rw [hW1, ← hz1]; simp
  have bw : Below (w).heap.size (w) w1 := by rw [hW1]; exact (Below.refl _ _).alloc (Nat.le_refl _) _
  have hb1 : Below w.heap.size w (w1) := hb0.trans (bw.mono hb0.size)
  have HBv1_1 : Hid ((w1).heap[qv1]? = some (.cells #[.int .i64 2, .string a, .string b, .int .i64 t] 25)) := by show _ = _; rw [hW1, ← hz1]; exact heap_alloc_new _ _
  clear hb0 bw hW1 hz1
  clear hs1 hqv1
  have cv1_0 : (w1).cell? ⟨qv1, 0, none⟩ = some (.int .i64 2) := (cell_of HBv1_1.out 0).trans rfl
  have cv1_1 : (w1).cell? ⟨qv1, 1, none⟩ = some (.string a) := (cell_of HBv1_1.out 1).trans rfl
  go_wp2_with fail
  go_ret
  exact ⟨rfl, hb1⟩

set_option maxHeartbeats 8000000 in
set_option maxRecDepth 100000 in
theorem ruleOf_3 (a b : ByteArray) (t : Int) (w : World) :
    Calls Tryz.prog 16 #[.agg #[.int .i64 3, .string a, .string b, .int .i64 t]] w fun e w' => e = .returned (.iface 71 (.agg #[.string a, .string b])) ∧ Below w.heap.size w w' := by
  have hb0 : Below w.heap.size w w := Below.refl _ _
  go_enter Tryz.func16, Tryz.ntmps16
  go_upto_region 1 with fail
  obtain ⟨qv1, hqv1⟩ : ∃ q, q = (w).heap.size := ⟨_, rfl⟩
  obtain ⟨w1, hW1⟩ : ∃ W, W = (w).alloc (.cells #[.int .i64 3, .string a, .string b, .int .i64 t] 25) := ⟨_, rfl⟩
  have hz1 : (w).heap.size = qv1 := hqv1.symm
  first | rw [← hW1, ← hqv1] | rw [← hW1]
  have hs1 : w1.heap.size = qv1 + 1 := by rw [hW1, ← hz1]; simp
  have bw : Below (w).heap.size (w) w1 := by rw [hW1]; exact (Below.refl _ _).alloc (Nat.le_refl _) _
  have hb1 : Below w.heap.size w (w1) := hb0.trans (bw.mono hb0.size)
  have HBv1_1 : Hid ((w1).heap[qv1]? = some (.cells #[.int .i64 3, .string a, .string b, .int .i64 t] 25)) := by show _ = _; rw [hW1, ← hz1]; exact heap_alloc_new _ _
  clear hb0 bw hW1 hz1
  clear hs1 hqv1
  have cv1_0 : (w1).cell? ⟨qv1, 0, none⟩ = some (.int .i64 3) := (cell_of HBv1_1.out 0).trans rfl
  have cv1_1 : (w1).cell? ⟨qv1, 1, none⟩ = some (.string a) := (cell_of HBv1_1.out 1).trans rfl
  have cv1_2 : (w1).cell? ⟨qv1, 2, none⟩ = some (.string b) := (cell_of HBv1_1.out 2).trans rfl
  go_wp2_with fail
  go_ret
  exact ⟨rfl, hb1⟩

set_option maxHeartbeats 8000000 in
set_option maxRecDepth 100000 in
theorem ruleOf_no (k : Int) (a b : ByteArray) (t : Int) (w : World) (h1 : ¬ k = 1) (h2 : ¬ k = 2) (h3 : ¬ k = 3) :
    Calls Tryz.prog 16 #[.agg #[.int .i64 k, .string a, .string b, .int .i64 t]] w fun e w' => e = .returned .nilIface ∧ Below w.heap.size w w' := by
  have hk1 : ((k : Int) == (1 : Int)) = false := by simpa using h1
  have hk2 : ((k : Int) == (2 : Int)) = false := by simpa using h2
  have hk3 : ((k : Int) == (3 : Int)) = false := by simpa using h3
  clear h1 h2 h3
  have hb0 : Below w.heap.size w w := Below.refl _ _
  go_enter Tryz.func16, Tryz.ntmps16
  go_upto_region 1 with fail
  obtain ⟨qv1, hqv1⟩ : ∃ q, q = (w).heap.size := ⟨_, rfl⟩
  obtain ⟨w1, hW1⟩ : ∃ W, W = (w).alloc (.cells #[.int .i64 k, .string a, .string b, .int .i64 t] 25) := ⟨_, rfl⟩
  have hz1 : (w).heap.size = qv1 := hqv1.symm
  first | rw [← hW1, ← hqv1] | rw [← hW1]
  have hs1 : w1.heap.size = qv1 + 1 := by rw [hW1, ← hz1]; simp
  have bw : Below (w).heap.size (w) w1 := by rw [hW1]; exact (Below.refl _ _).alloc (Nat.le_refl _) _
  have hb1 : Below w.heap.size w (w1) := hb0.trans (bw.mono hb0.size)
  have HBv1_1 : Hid ((w1).heap[qv1]? = some (.cells #[.int .i64 k, .string a, .string b, .int .i64 t] 25)) := by show _ = _; rw [hW1, ← hz1]; exact heap_alloc_new _ _
  clear hb0 bw hW1 hz1
  clear hs1 hqv1
  have cv1_0 : (w1).cell? ⟨qv1, 0, none⟩ = some (.int .i64 k) := (cell_of HBv1_1.out 0).trans rfl
  go_wp2_with fail
  go_ret
  exact ⟨rfl, hb1⟩

set_option maxHeartbeats 8000000 in
set_option maxRecDepth 100000 in
theorem banOf_1 (a : ByteArray) (t : Int) (w : World) :
    Calls Tryz.prog 21 #[.iface 67 (.agg #[.string a]), .int .i64 t] w fun e w' => e = .returned (.agg #[.int .i64 1, .string a, .string ⟨#[]⟩, .int .i64 t]) ∧ Below w.heap.size w w' := by
  have hta1 : ∀ W : World, (Instr.typeAssert (.iface 67 (.agg #[.string a])) 46 67 true).run Tryz.prog W = .ok (.tuple #[.agg #[.string a], .bool true]) W := fun _ => by kernel_rfl
  have hta2 : ∀ W : World, (Instr.typeAssert (.iface 67 (.agg #[.string a])) 46 69 true).run Tryz.prog W = .ok (.tuple #[.agg #[.string ⟨#[]⟩], .bool false]) W := fun _ => by kernel_rfl
  have hta3 : ∀ W : World, (Instr.typeAssert (.iface 67 (.agg #[.string a])) 46 71 true).run Tryz.prog W = .ok (.tuple #[.agg #[.string ⟨#[]⟩, .string ⟨#[]⟩], .bool false]) W := fun _ => by kernel_rfl
  have hb0 : Below w.heap.size w w := Below.refl _ _
  go_enter Tryz.func21, Tryz.ntmps21
  go_upto_region 1 with fail
  obtain ⟨qv1, hqv1⟩ : ∃ q, q = (w).heap.size := ⟨_, rfl⟩
  obtain ⟨w1, hW1⟩ : ∃ W, W = (w).alloc (.cells #[.int .i64 0, .string ⟨#[]⟩, .string ⟨#[]⟩, .int .i64 0] 25) := ⟨_, rfl⟩
  have hz1 : (w).heap.size = qv1 := hqv1.symm
  first | rw [← hW1, ← hqv1] | rw [← hW1]
  have hs1 : w1.heap.size = qv1 + 1 := by rw [hW1, ← hz1]; simp
  have bw : Below (w).heap.size (w) w1 := by rw [hW1]; exact (Below.refl _ _).alloc (Nat.le_refl _) _
  have hb1 : Below w.heap.size w (w1) := hb0.trans (bw.mono hb0.size)
  have HBv1_1 : Hid ((w1).heap[qv1]? = some (.cells #[.int .i64 0, .string ⟨#[]⟩, .string ⟨#[]⟩, .int .i64 0] 25)) := by show _ = _; rw [hW1, ← hz1]; exact heap_alloc_new _ _
  have HGv1 : Hid (w.heap.size ≤ qv1) := by show _ ≤ _; rw [← hz1]; exact hb0.size
  clear hb0 bw hW1 hz1
  clear hs1 hqv1
  go_upto_region 4 with fail
  obtain ⟨qv2, hqv2⟩ : ∃ q, q = (w1).heap.size := ⟨_, rfl⟩
  obtain ⟨w2, hW2⟩ : ∃ W, W = (w1).alloc (.cells #[.string a] 67) := ⟨_, rfl⟩
  have hz2 : (w1).heap.size = qv2 := hqv2.symm
  first | rw [← hW2, ← hqv2] | rw [← hW2]
  have hs2 : w2.heap.size = qv2 + 1 := by rw [hW2, ← hz2]; simp
  have bw : Below (w1).heap.size (w1) w2 := by rw [hW2]; exact (Below.refl _ _).alloc (Nat.le_refl _) _
  have hb2 : Below w.heap.size w (w2) := hb1.trans (bw.mono hb1.size)
  have HBv1_2 : Hid ((w2).heap[qv1]? = some (.cells #[.int .i64 0, .string ⟨#[]⟩, .string ⟨#[]⟩, .int .i64 0] 25)) := blk_below HBv1_1.out bw
  have HNv1v2 : Hid (qv1 ≠ qv2) := fun e => by have h1 := (Array.getElem?_eq_some_iff.1 HBv1_1.out).1; omega
  have HBv2_2 : Hid ((w2).heap[qv2]? = some (.cells #[.string a] 67)) := by show _ = _; rw [hW2, ← hz2]; exact heap_alloc_new _ _
  clear hb1 HBv1_1 bw hW2 hz2
  clear hs2 hqv2
  have cv1_0 : (w2).cell? ⟨qv1, 0, none⟩ = some (.int .i64 0) := (cell_of HBv1_2.out 0).trans rfl
  have fcv1_0 : (w2).frozen? ⟨qv1, 0, none⟩ = false := frozen_of HBv1_2.out 0
  have cv1_1 : (w2).cell? ⟨qv1, 1, none⟩ = some (.string ⟨#[]⟩) := (cell_of HBv1_2.out 1).trans rfl
  have fcv1_1 : (w2).frozen? ⟨qv1, 1, none⟩ = false := frozen_of HBv1_2.out 1
  have cv1_2 : (w2).cell? ⟨qv1, 2, none⟩ = some (.string ⟨#[]⟩) := (cell_of HBv1_2.out 2).trans rfl
  have fcv1_2 : (w2).frozen? ⟨qv1, 2, none⟩ = false := frozen_of HBv1_2.out 2
  have cv1_3 : (w2).cell? ⟨qv1, 3, none⟩ = some (.int .i64 0) := (cell_of HBv1_2.out 3).trans rfl
  have fcv1_3 : (w2).frozen? ⟨qv1, 3, none⟩ = false := frozen_of HBv1_2.out 3
  have cv2_0 : (w2).cell? ⟨qv2, 0, none⟩ = some (.string a) := (cell_of HBv2_2.out 0).trans rfl
  go_wp2_with fail
  obtain ⟨w3, hW3⟩ : ∃ W, W = (w2).setCell ⟨qv1, 0, none⟩ (.int .i64 1) := ⟨_, rfl⟩
  rw [← hW3]
  have hb3 : Below w.heap.size w (w3) := by rw [hW3]; exact (hb2.setCell (p := ⟨qv1, 0, none⟩) HGv1.out _)
  have HBv2_3 : Hid ((w3).heap[qv2]? = some (.cells #[.string a] 67)) := by show _ = _; rw [hW3, heap_setCell_other _ _ _ _ HNv1v2.out.symm]; exact HBv2_2.out
  have HBv1_3 : Hid ((w3).heap[qv1]? = some (.cells #[.int .i64 1, .string ⟨#[]⟩, .string ⟨#[]⟩, .int .i64 0] 25)) := by show _ = _; rw [hW3]; have h := heap_set _ _ 0 _ _ _ (.int .i64 1) HBv1_2.out; simpa using h
  clear hb2 HBv1_2 HBv2_2 hW3
  obtain ⟨w4, hW4⟩ : ∃ W, W = (w3).setCell ⟨qv1, 1, none⟩ (.string a) := ⟨_, rfl⟩
  rw [← hW4]
  have hb4 : Below w.heap.size w (w4) := by rw [hW4]; exact (hb3.setCell (p := ⟨qv1, 1, none⟩) HGv1.out _)
  have HBv2_4 : Hid ((w4).heap[qv2]? = some (.cells #[.string a] 67)) := by show _ = _; rw [hW4, heap_setCell_other _ _ _ _ HNv1v2.out.symm]; exact HBv2_3.out
  have HBv1_4 : Hid ((w4).heap[qv1]? = some (.cells #[.int .i64 1, .string a, .string ⟨#[]⟩, .int .i64 0] 25)) := by show _ = _; rw [hW4]; have h := heap_set _ _ 1 _ _ _ (.string a) HBv1_3.out; simpa using h
  clear hb3 HBv1_3 HBv2_3 hW4
  obtain ⟨w5, hW5⟩ : ∃ W, W = (w4).setCell ⟨qv1, 2, none⟩ (.string ⟨#[]⟩) := ⟨_, rfl⟩
  rw [← hW5]
  have hb5 : Below w.heap.size w (w5) := by rw [hW5]; exact (hb4.setCell (p := ⟨qv1, 2, none⟩) HGv1.out _)
  have HBv2_5 : Hid ((w5).heap[qv2]? = some (.cells #[.string a] 67)) := by show _ = _; rw [hW5, heap_setCell_other _ _ _ _ HNv1v2.out.symm]; exact HBv2_4.out
  have HBv1_5 : Hid ((w5).heap[qv1]? = some (.cells #[.int .i64 1, .string a, .string ⟨#[]⟩, .int .i64 0] 25)) := by show _ = _; rw [hW5]; have h := heap_set _ _ 2 _ _ _ (.string ⟨#[]⟩) HBv1_4.out; simpa using h
  clear hb4 HBv1_4 HBv2_4 hW5
  obtain ⟨w6, hW6⟩ : ∃ W, W = (w5).setCell ⟨qv1, 3, none⟩ (.int .i64 t) := ⟨_, rfl⟩
  rw [← hW6]
  have hb6 : Below w.heap.size w (w6) := by rw [hW6]; exact (hb5.setCell (p := ⟨qv1, 3, none⟩) HGv1.out _)
  have HBv2_6 : Hid ((w6).heap[qv2]? = some (.cells #[.string a] 67)) := by show _ = _; rw [hW6, heap_setCell_other _ _ _ _ HNv1v2.out.symm]; exact HBv2_5.out
  have HBv1_6 : Hid ((w6).heap[qv1]? = some (.cells #[.int .i64 1, .string a, .string ⟨#[]⟩, .int .i64 t] 25)) := by show _ = _; rw [hW6]; have h := heap_set _ _ 3 _ _ _ (.int .i64 t) HBv1_5.out; simpa using h
  clear hb5 HBv1_5 HBv2_5 hW6
  have kv1_0 : (w6).cell? ⟨qv1, 0, none⟩ = some (.int .i64 1) := (cell_of HBv1_6.out 0).trans rfl
  have kv1_1 : (w6).cell? ⟨qv1, 1, none⟩ = some (.string a) := (cell_of HBv1_6.out 1).trans rfl
  have kv1_2 : (w6).cell? ⟨qv1, 2, none⟩ = some (.string ⟨#[]⟩) := (cell_of HBv1_6.out 2).trans rfl
  have kv1_3 : (w6).cell? ⟨qv1, 3, none⟩ = some (.int .i64 t) := (cell_of HBv1_6.out 3).trans rfl
  refine bodyPost_ret (v := .agg #[.int .i64 1, .string a, .string ⟨#[]⟩, .int .i64 t]) (by simp [results, Tryz.results21, go_sem, kv1_0, kv1_1, kv1_2, kv1_3]) rfl ?_
  exact ⟨rfl, hb6⟩

set_option maxHeartbeats 8000000 in
set_option maxRecDepth 100000 in
theorem banOf_2 (a : ByteArray) (t : Int) (w : World) :
    Calls Tryz.prog 21 #[.iface 69 (.agg #[.string a]), .int .i64 t] w fun e w' => e = .returned (.agg #[.int .i64 2, .string a, .string ⟨#[]⟩, .int .i64 t]) ∧ Below w.heap.size w w' := by
  have hta1 : ∀ W : World, (Instr.typeAssert (.iface 69 (.agg #[.string a])) 46 67 true).run Tryz.prog W = .ok (.tuple #[.agg #[.string ⟨#[]⟩], .bool false]) W := fun _ => by kernel_rfl
  have hta2 : ∀ W : World, (Instr.typeAssert (.iface 69 (.agg #[.string a])) 46 69 true).run Tryz.prog W = .ok (.tuple #[.agg #[.string a], .bool true]) W := fun _ => by kernel_rfl
  have hta3 : ∀ W : World, (Instr.typeAssert (.iface 69 (.agg #[.string a])) 46 71 true).run Tryz.prog W = .ok (.tuple #[.agg #[.string ⟨#[]⟩, .string ⟨#[]⟩], .bool false]) W := fun _ => by kernel_rfl
  have hb0 : Below w.heap.size w w := Below.refl _ _
  go_enter Tryz.func21, Tryz.ntmps21
  go_upto_region 1 with fail
  obtain ⟨qv1, hqv1⟩ : ∃ q, q = (w).heap.size := ⟨_, rfl⟩
  obtain ⟨w1, hW1⟩ : ∃ W, W = (w).alloc (.cells #[.int .i64 0, .string ⟨#[]⟩, .string ⟨#[]⟩, .int .i64 0] 25) := ⟨_, rfl⟩
  have hz1 : (w).heap.size = qv1 := hqv1.symm
  first | rw [← hW1, ← hqv1] | rw [← hW1]
  have hs1 : w1.heap.size = qv1 + 1 := by rw [hW1, ← hz1]; simp
  have bw : Below (w).heap.size (w) w1 := by rw [hW1]; exact (Below.refl _ _).alloc (Nat.le_refl _) _
  have hb1 : Below w.heap.size w (w1) := hb0.trans (bw.mono hb0.size)
  have HBv1_1 : Hid ((w1).heap[qv1]? = some (.cells #[.int .i64 0, .string ⟨#[]⟩, .string ⟨#[]⟩, .int .i64 0] 25)) := by show _ = _; rw [hW1, ← hz1]; exact heap_alloc_new _ _
  have HGv1 : Hid (w.heap.size ≤ qv1) := by show _ ≤ _; rw [← hz1]; exact hb0.size
  clear hb0 bw hW1 hz1
  clear hs1 hqv1
  go_upto_region 7 with fail
  obtain ⟨qv2, hqv2⟩ : ∃ q, q = (w1).heap.size := ⟨_, rfl⟩
  obtain ⟨w2, hW2⟩ : ∃ W, W = (w1).alloc (.cells #[.string a] 69) := ⟨_, rfl⟩
  have hz2 : (w1).heap.size = qv2 := hqv2.symm
  first | rw [← hW2, ← hqv2] | rw [← hW2]
  have hs2 : w2.heap.size = qv2 + 1 := by rw [hW2, ← hz2]; simp
  have bw : Below (w1).heap.size (w1) w2 := by rw [hW2]; exact (Below.refl _ _).alloc (Nat.le_refl _) _
  have hb2 : Below w.heap.size w (w2) := hb1.trans (bw.mono hb1.size)
  have HBv1_2 : Hid ((w2).heap[qv1]? = some (.cells #[.int .i64 0, .string ⟨#[]⟩, .string ⟨#[]⟩, .int .i64 0] 25)) := blk_below HBv1_1.out bw
  have HNv1v2 : Hid (qv1 ≠ qv2) := fun e => by have h1 := (Array.getElem?_eq_some_iff.1 HBv1_1.out).1; omega
  have HBv2_2 : Hid ((w2).heap[qv2]? = some (.cells #[.string a] 69)) := by show _ = _; rw [hW2, ← hz2]; exact heap_alloc_new _ _
  clear hb1 HBv1_1 bw hW2 hz2
  clear hs2 hqv2
  have cv1_0 : (w2).cell? ⟨qv1, 0, none⟩ = some (.int .i64 0) := (cell_of HBv1_2.out 0).trans rfl
  have fcv1_0 : (w2).frozen? ⟨qv1, 0, none⟩ = false := frozen_of HBv1_2.out 0
  have cv1_1 : (w2).cell? ⟨qv1, 1, none⟩ = some (.string ⟨#[]⟩) := (cell_of HBv1_2.out 1).trans rfl
  have fcv1_1 : (w2).frozen? ⟨qv1, 1, none⟩ = false := frozen_of HBv1_2.out 1
  have cv1_2 : (w2).cell? ⟨qv1, 2, none⟩ = some (.string ⟨#[]⟩) := (cell_of HBv1_2.out 2).trans rfl
  have fcv1_2 : (w2).frozen? ⟨qv1, 2, none⟩ = false := frozen_of HBv1_2.out 2
  have cv1_3 : (w2).cell? ⟨qv1, 3, none⟩ = some (.int .i64 0) := (cell_of HBv1_2.out 3).trans rfl
  have fcv1_3 : (w2).frozen? ⟨qv1, 3, none⟩ = false := frozen_of HBv1_2.out 3
  have cv2_0 : (w2).cell? ⟨qv2, 0, none⟩ = some (.string a) := (cell_of HBv2_2.out 0).trans rfl
  go_wp2_with fail
  obtain ⟨w3, hW3⟩ : ∃ W, W = (w2).setCell ⟨qv1, 0, none⟩ (.int .i64 2) := ⟨_, rfl⟩
  rw [← hW3]
  have hb3 : Below w.heap.size w (w3) := by rw [hW3]; exact (hb2.setCell (p := ⟨qv1, 0, none⟩) HGv1.out _)
  have HBv2_3 : Hid ((w3).heap[qv2]? = some (.cells #[.string a] 69)) := by show _ = _; rw [hW3, heap_setCell_other _ _ _ _ HNv1v2.out.symm]; exact HBv2_2.out
  have HBv1_3 : Hid ((w3).heap[qv1]? = some (.cells #[.int .i64 2, .string ⟨#[]⟩, .string ⟨#[]⟩, .int .i64 0] 25)) := by show _ = _; rw [hW3]; have h := heap_set _ _ 0 _ _ _ (.int .i64 2) HBv1_2.out; simpa using h
  clear hb2 HBv1_2 HBv2_2 hW3
  obtain ⟨w4, hW4⟩ : ∃ W, W = (w3).setCell ⟨qv1, 1, none⟩ (.string a) := ⟨_, rfl⟩
  rw [← hW4]
  have hb4 : Below w.heap.size w (w4) := by rw [hW4]; exact (hb3.setCell (p := ⟨qv1, 1, none⟩) HGv1.out _)
  have HBv2_4 : Hid ((w4).heap[qv2]? = some (.cells #[.string a] 69)) := by show _ = _; rw [hW4, heap_setCell_other _ _ _ _ HNv1v2.out.symm]; exact HBv2_3.out
  have HBv1_4 : Hid ((w4).heap[qv1]? = some (.cells #[.int .i64 2, .string a, .string ⟨#[]⟩, .int .i64 0] 25)) := by show _ = _; rw [hW4]; have h := heap_set _ _ 1 _ _ _ (.string a) HBv1_3.out; simpa using h
  clear hb3 HBv1_3 HBv2_3 hW4
  obtain ⟨w5, hW5⟩ : ∃ W, W = (w4).setCell ⟨qv1, 2, none⟩ (.string ⟨#[]⟩) := ⟨_, rfl⟩
  rw [← hW5]
  have hb5 : Below w.heap.size w (w5) := by rw [hW5]; exact (hb4.setCell (p := ⟨qv1, 2, none⟩) HGv1.out _)
  have HBv2_5 : Hid ((w5).heap[qv2]? = some (.cells #[.string a] 69)) := by show _ = _; rw [hW5, heap_setCell_other _ _ _ _ HNv1v2.out.symm]; exact HBv2_4.out
  have HBv1_5 : Hid ((w5).heap[qv1]? = some (.cells #[.int .i64 2, .string a, .string ⟨#[]⟩, .int .i64 0] 25)) := by show _ = _; rw [hW5]; have h := heap_set _ _ 2 _ _ _ (.string ⟨#[]⟩) HBv1_4.out; simpa using h
  clear hb4 HBv1_4 HBv2_4 hW5
  obtain ⟨w6, hW6⟩ : ∃ W, W = (w5).setCell ⟨qv1, 3, none⟩ (.int .i64 t) := ⟨_, rfl⟩
  rw [← hW6]
  have hb6 : Below w.heap.size w (w6) := by rw [hW6]; exact (hb5.setCell (p := ⟨qv1, 3, none⟩) HGv1.out _)
  have HBv2_6 : Hid ((w6).heap[qv2]? = some (.cells #[.string a] 69)) := by show _ = _; rw [hW6, heap_setCell_other _ _ _ _ HNv1v2.out.symm]; exact HBv2_5.out
  have HBv1_6 : Hid ((w6).heap[qv1]? = some (.cells #[.int .i64 2, .string a, .string ⟨#[]⟩, .int .i64 t] 25)) := by show _ = _; rw [hW6]; have h := heap_set _ _ 3 _ _ _ (.int .i64 t) HBv1_5.out; simpa using h
  clear hb5 HBv1_5 HBv2_5 hW6
  have kv1_0 : (w6).cell? ⟨qv1, 0, none⟩ = some (.int .i64 2) := (cell_of HBv1_6.out 0).trans rfl
  have kv1_1 : (w6).cell? ⟨qv1, 1, none⟩ = some (.string a) := (cell_of HBv1_6.out 1).trans rfl
  have kv1_2 : (w6).cell? ⟨qv1, 2, none⟩ = some (.string ⟨#[]⟩) := (cell_of HBv1_6.out 2).trans rfl
  have kv1_3 : (w6).cell? ⟨qv1, 3, none⟩ = some (.int .i64 t) := (cell_of HBv1_6.out 3).trans rfl
  refine bodyPost_ret (v := .agg #[.int .i64 2, .string a, .string ⟨#[]⟩, .int .i64 t]) (by simp [results, Tryz.results21, go_sem, kv1_0, kv1_1, kv1_2, kv1_3]) rfl ?_
  exact ⟨rfl, hb6⟩

set_option maxHeartbeats 8000000 in
set_option maxRecDepth 100000 in
theorem banOf_3 (a b : ByteArray) (t : Int) (w : World) :
    Calls Tryz.prog 21 #[.iface 71 (.agg #[.string a, .string b]), .int .i64 t] w fun e w' => e = .returned (.agg #[.int .i64 3, .string a, .string b, .int .i64 t]) ∧ Below w.heap.size w w' := by
  have hta1 : ∀ W : World, (Instr.typeAssert (.iface 71 (.agg #[.string a, .string b])) 46 67 true).run Tryz.prog W = .ok (.tuple #[.agg #[.string ⟨#[]⟩], .bool false]) W := fun _ => by kernel_rfl
  have hta2 : ∀ W : World, (Instr.typeAssert (.iface 71 (.agg #[.string a, .string b])) 46 69 true).run Tryz.prog W = .ok (.tuple #[.agg #[.string ⟨#[]⟩], .bool false]) W := fun _ => by kernel_rfl
  have hta3 : ∀ W : World, (Instr.typeAssert (.iface 71 (.agg #[.string a, .string b])) 46 71 true).run Tryz.prog W = .ok (.tuple #[.agg #[.string a, .string b], .bool true]) W := fun _ => by kernel_rfl
  have hb0 : Below w.heap.size w w := Below.refl _ _
  go_enter Tryz.func21, Tryz.ntmps21
  go_upto_region 1 with fail
  obtain ⟨qv1, hqv1⟩ : ∃ q, q = (w).heap.size := ⟨_, rfl⟩
  obtain ⟨w1, hW1⟩ : ∃ W, W = (w).alloc (.cells #[.int .i64 0, .string ⟨#[]⟩, .string ⟨#[]⟩, .int .i64 0] 25) := ⟨_, rfl⟩
  have hz1 : (w).heap.size = qv1 := hqv1.symm
  first | rw [← hW1, ← hqv1] | rw [← hW1]
  have hs1 : w1.heap.size = qv1 + 1 := by rw [hW1, ← hz1]; simp
  have bw : Below (w).heap.size (w) w1 := by rw [hW1]; exact (Below.refl _ _).alloc (Nat.le_refl _) _
  have hb1 : Below w.heap.size w (w1) := hb0.trans (bw.mono hb0.size)
  have HBv1_1 : Hid ((w1).heap[qv1]? = some (.cells #[.int .i64 0, .string ⟨#[]⟩, .string ⟨#[]⟩, .int .i64 0] 25)) := by show _ = _; rw [hW1, ← hz1]; exact heap_alloc_new _ _
  have HGv1 : Hid (w.heap.size ≤ qv1) := by show _ ≤ _; rw [← hz1]; exact hb0.size
  clear hb0 bw hW1 hz1
  clear hs1 hqv1
  go_upto_region 10 with fail
  obtain ⟨qv2, hqv2⟩ : ∃ q, q = (w1).heap.size := ⟨_, rfl⟩
  obtain ⟨w2, hW2⟩ : ∃ W, W = (w1).alloc (.cells #[.string a, .string b] 71) := ⟨_, rfl⟩
  have hz2 : (w1).heap.size = qv2 := hqv2.symm
  first | rw [← hW2, ← hqv2] | rw [← hW2]
  have hs2 : w2.heap.size = qv2 + 1 := by rw [hW2, ← hz2]; simp
  have bw : Below (w1).heap.size (w1) w2 := by rw [hW2]; exact (Below.refl _ _).alloc (Nat.le_refl _) _
  have hb2 : Below w.heap.size w (w2) := hb1.trans (bw.mono hb1.size)
  have HBv1_2 : Hid ((w2).heap[qv1]? = some (.cells #[.int .i64 0, .string ⟨#[]⟩, .string ⟨#[]⟩, .int .i64 0] 25)) := blk_below HBv1_1.out bw
  have HNv1v2 : Hid (qv1 ≠ qv2) := fun e => by have h1 := (Array.getElem?_eq_some_iff.1 HBv1_1.out).1; omega
  have HBv2_2 : Hid ((w2).heap[qv2]? = some (.cells #[.string a, .string b] 71)) := by show _ = _; rw [hW2, ← hz2]; exact heap_alloc_new _ _
  clear hb1 HBv1_1 bw hW2 hz2
  clear hs2 hqv2
  have cv1_0 : (w2).cell? ⟨qv1, 0, none⟩ = some (.int .i64 0) := (cell_of HBv1_2.out 0).trans rfl
  have fcv1_0 : (w2).frozen? ⟨qv1, 0, none⟩ = false := frozen_of HBv1_2.out 0
  have cv1_1 : (w2).cell? ⟨qv1, 1, none⟩ = some (.string ⟨#[]⟩) := (cell_of HBv1_2.out 1).trans rfl
  have fcv1_1 : (w2).frozen? ⟨qv1, 1, none⟩ = false := frozen_of HBv1_2.out 1
  have cv1_2 : (w2).cell? ⟨qv1, 2, none⟩ = some (.string ⟨#[]⟩) := (cell_of HBv1_2.out 2).trans rfl
  have fcv1_2 : (w2).frozen? ⟨qv1, 2, none⟩ = false := frozen_of HBv1_2.out 2
  have cv1_3 : (w2).cell? ⟨qv1, 3, none⟩ = some (.int .i64 0) := (cell_of HBv1_2.out 3).trans rfl
  have fcv1_3 : (w2).frozen? ⟨qv1, 3, none⟩ = false := frozen_of HBv1_2.out 3
  have cv2_0 : (w2).cell? ⟨qv2, 0, none⟩ = some (.string a) := (cell_of HBv2_2.out 0).trans rfl
  have cv2_1 : (w2).cell? ⟨qv2, 1, none⟩ = some (.string b) := (cell_of HBv2_2.out 1).trans rfl
  go_wp2_with fail
  obtain ⟨w3, hW3⟩ : ∃ W, W = (w2).setCell ⟨qv1, 0, none⟩ (.int .i64 3) := ⟨_, rfl⟩
  rw [← hW3]
  have hb3 : Below w.heap.size w (w3) := by rw [hW3]; exact (hb2.setCell (p := ⟨qv1, 0, none⟩) HGv1.out _)
  have HBv2_3 : Hid ((w3).heap[qv2]? = some (.cells #[.string a, .string b] 71)) := by show _ = _; rw [hW3, heap_setCell_other _ _ _ _ HNv1v2.out.symm]; exact HBv2_2.out
  have HBv1_3 : Hid ((w3).heap[qv1]? = some (.cells #[.int .i64 3, .string ⟨#[]⟩, .string ⟨#[]⟩, .int .i64 0] 25)) := by show _ = _; rw [hW3]; have h := heap_set _ _ 0 _ _ _ (.int .i64 3) HBv1_2.out; simpa using h
  clear hb2 HBv1_2 HBv2_2 hW3
  obtain ⟨w4, hW4⟩ : ∃ W, W = (w3).setCell ⟨qv1, 1, none⟩ (.string a) := ⟨_, rfl⟩
  rw [← hW4]
  have hb4 : Below w.heap.size w (w4) := by rw [hW4]; exact (hb3.setCell (p := ⟨qv1, 1, none⟩) HGv1.out _)
  have HBv2_4 : Hid ((w4).heap[qv2]? = some (.cells #[.string a, .string b] 71)) := by show _ = _; rw [hW4, heap_setCell_other _ _ _ _ HNv1v2.out.symm]; exact HBv2_3.out
  have HBv1_4 : Hid ((w4).heap[qv1]? = some (.cells #[.int .i64 3, .string a, .string ⟨#[]⟩, .int .i64 0] 25)) := by show _ = _; rw [hW4]; have h := heap_set _ _ 1 _ _ _ (.string a) HBv1_3.out; simpa using h
  clear hb3 HBv1_3 HBv2_3 hW4
  obtain ⟨w5, hW5⟩ : ∃ W, W = (w4).setCell ⟨qv1, 2, none⟩ (.string b) := ⟨_, rfl⟩
  rw [← hW5]
  have hb5 : Below w.heap.size w (w5) := by rw [hW5]; exact (hb4.setCell (p := ⟨qv1, 2, none⟩) HGv1.out _)
  have HBv2_5 : Hid ((w5).heap[qv2]? = some (.cells #[.string a, .string b] 71)) := by show _ = _; rw [hW5, heap_setCell_other _ _ _ _ HNv1v2.out.symm]; exact HBv2_4.out
  have HBv1_5 : Hid ((w5).heap[qv1]? = some (.cells #[.int .i64 3, .string a, .string b, .int .i64 0] 25)) := by show _ = _; rw [hW5]; have h := heap_set _ _ 2 _ _ _ (.string b) HBv1_4.out; simpa using h
  clear hb4 HBv1_4 HBv2_4 hW5
  obtain ⟨w6, hW6⟩ : ∃ W, W = (w5).setCell ⟨qv1, 3, none⟩ (.int .i64 t) := ⟨_, rfl⟩
  rw [← hW6]
  have hb6 : Below w.heap.size w (w6) := by rw [hW6]; exact (hb5.setCell (p := ⟨qv1, 3, none⟩) HGv1.out _)
  have HBv2_6 : Hid ((w6).heap[qv2]? = some (.cells #[.string a, .string b] 71)) := by show _ = _; rw [hW6, heap_setCell_other _ _ _ _ HNv1v2.out.symm]; exact HBv2_5.out
  have HBv1_6 : Hid ((w6).heap[qv1]? = some (.cells #[.int .i64 3, .string a, .string b, .int .i64 t] 25)) := by show _ = _; rw [hW6]; have h := heap_set _ _ 3 _ _ _ (.int .i64 t) HBv1_5.out; simpa using h
  clear hb5 HBv1_5 HBv2_5 hW6
  have kv1_0 : (w6).cell? ⟨qv1, 0, none⟩ = some (.int .i64 3) := (cell_of HBv1_6.out 0).trans rfl
  have kv1_1 : (w6).cell? ⟨qv1, 1, none⟩ = some (.string a) := (cell_of HBv1_6.out 1).trans rfl
  have kv1_2 : (w6).cell? ⟨qv1, 2, none⟩ = some (.string b) := (cell_of HBv1_6.out 2).trans rfl
  have kv1_3 : (w6).cell? ⟨qv1, 3, none⟩ = some (.int .i64 t) := (cell_of HBv1_6.out 3).trans rfl
  refine bodyPost_ret (v := .agg #[.int .i64 3, .string a, .string b, .int .i64 t]) (by simp [results, Tryz.results21, go_sem, kv1_0, kv1_1, kv1_2, kv1_3]) rfl ?_
  exact ⟨rfl, hb6⟩

set_option maxHeartbeats 8000000 in
set_option maxRecDepth 100000 in
theorem right_1 (a : ByteArray) (w : World) (ha : a.size ≤ maxLen) :
    Calls Tryz.prog 115 #[.agg #[.string a]] w fun e w' => BoolIs (PathOk a) w e w' := by
  have HAM : Hid (a.size ≤ maxLen) := ha
  clear ha
  have hb0 : Below w.heap.size w w := Below.refl _ _
  go_enter Tryz.func115, Tryz.ntmps115
  go_upto_region 1 with fail
  obtain ⟨qv1, hqv1⟩ : ∃ q, q = (w).heap.size := ⟨_, rfl⟩
  obtain ⟨w1, hW1⟩ : ∃ W, W = (w).alloc (.cells #[.string a] 67) := ⟨_, rfl⟩
  have hz1 : (w).heap.size = qv1 := hqv1.symm
  first | rw [← hW1, ← hqv1] | rw [← hW1]
  have hs1 : w1.heap.size = qv1 + 1 := by rw [hW1, ← hz1]; simp
  have bw : Below (w).heap.size (w) w1 := by rw [hW1]; exact (Below.refl _ _).alloc (Nat.le_refl _) _
  have hb1 : Below w.heap.size w (w1) := hb0.trans (bw.mono hb0.size)
  have HBv1_1 : Hid ((w1).heap[qv1]? = some (.cells #[.string a] 67)) := by show _ = _; rw [hW1, ← hz1]; exact heap_alloc_new _ _
  clear hb0 bw hW1 hz1
  clear hs1 hqv1
  have cv1_0 : (w1).cell? ⟨qv1, 0, none⟩ = some (.string a) := (cell_of HBv1_1.out 0).trans rfl
  go_wp2_with fail
  refine (pathOk_any a _ HAM.out).mono ?_
  rintro e w2 ⟨u, rfl, htu, bw⟩
  have hb2 : Below w.heap.size w (w2) := hb1.trans (bw.mono hb1.size)
  have HBv1_2 : Hid ((w2).heap[qv1]? = some (.cells #[.string a] 67)) := blk_below HBv1_1.out bw
  clear hb1 HBv1_1 bw
  clear cv1_0
  go_wp2_with fail
  go_ret
  exact ⟨u, rfl, htu, hb2⟩

set_option maxHeartbeats 8000000 in
set_option maxRecDepth 100000 in
theorem right_2 (a : ByteArray) (w : World) (ha : a.size ≤ maxLen) :
    Calls Tryz.prog 117 #[.agg #[.string a]] w fun e w' => BoolIs (PathOk a) w e w' := by
  have HAM : Hid (a.size ≤ maxLen) := ha
  clear ha
  have hb0 : Below w.heap.size w w := Below.refl _ _
  go_enter Tryz.func117, Tryz.ntmps117
  go_upto_region 1 with fail
  obtain ⟨qv1, hqv1⟩ : ∃ q, q = (w).heap.size := ⟨_, rfl⟩
  obtain ⟨w1, hW1⟩ : ∃ W, W = (w).alloc (.cells #[.string a] 69) := ⟨_, rfl⟩
  have hz1 : (w).heap.size = qv1 := hqv1.symm
  first | rw [← hW1, ← hqv1] | rw [← hW1]
  have hs1 : w1.heap.size = qv1 + 1 := by rw [hW1, ← hz1]; simp
  have bw : Below (w).heap.size (w) w1 := by rw [hW1]; exact (Below.refl _ _).alloc (Nat.le_refl _) _
  have hb1 : Below w.heap.size w (w1) := hb0.trans (bw.mono hb0.size)
  have HBv1_1 : Hid ((w1).heap[qv1]? = some (.cells #[.string a] 69)) := by show _ = _; rw [hW1, ← hz1]; exact heap_alloc_new _ _
  clear hb0 bw hW1 hz1
  clear hs1 hqv1
  have cv1_0 : (w1).cell? ⟨qv1, 0, none⟩ = some (.string a) := (cell_of HBv1_1.out 0).trans rfl
  go_wp2_with fail
  refine (pathOk_any a _ HAM.out).mono ?_
  rintro e w2 ⟨u, rfl, htu, bw⟩
  have hb2 : Below w.heap.size w (w2) := hb1.trans (bw.mono hb1.size)
  have HBv1_2 : Hid ((w2).heap[qv1]? = some (.cells #[.string a] 69)) := blk_below HBv1_1.out bw
  clear hb1 HBv1_1 bw
  clear cv1_0
  go_wp2_with fail
  go_ret
  exact ⟨u, rfl, htu, hb2⟩

set_option maxHeartbeats 8000000 in
set_option maxRecDepth 100000 in
theorem right_3 (a b : ByteArray) (w : World) (ha : a.size ≤ maxLen) (hb : b.size ≤ maxLen) :
    Calls Tryz.prog 121 #[.agg #[.string a, .string b]] w fun e w' => BoolIs (TokOk a ∧ ValOk b) w e w' := by
  have HAM : Hid (a.size ≤ maxLen) := ha
  have HBM : Hid (b.size ≤ maxLen) := hb
  clear ha hb
  have hb0 : Below w.heap.size w w := Below.refl _ _
  go_enter Tryz.func121, Tryz.ntmps121
  go_upto_region 1 with fail
  obtain ⟨qv1, hqv1⟩ : ∃ q, q = (w).heap.size := ⟨_, rfl⟩
  obtain ⟨w1, hW1⟩ : ∃ W, W = (w).alloc (.cells #[.string a, .string b] 71) := ⟨_, rfl⟩
  have hz1 : (w).heap.size = qv1 := hqv1.symm
  first | rw [← hW1, ← hqv1] | rw [← hW1]
  have hs1 : w1.heap.size = qv1 + 1 := by rw [hW1, ← hz1]; simp
  have bw : Below (w).heap.size (w) w1 := by rw [hW1]; exact (Below.refl _ _).alloc (Nat.le_refl _) _
  have hb1 : Below w.heap.size w (w1) := hb0.trans (bw.mono hb0.size)
  have HBv1_1 : Hid ((w1).heap[qv1]? = some (.cells #[.string a, .string b] 71)) := by show _ = _; rw [hW1, ← hz1]; exact heap_alloc_new _ _
  clear hb0 bw hW1 hz1
  clear hs1 hqv1
  have cv1_0 : (w1).cell? ⟨qv1, 0, none⟩ = some (.string a) := (cell_of HBv1_1.out 0).trans rfl
  go_wp2_with fail
  refine (implTokenOk_any a _ HAM.out).mono ?_
  rintro e w2 ⟨u, rfl, htu, bw⟩
  have hb2 : Below w.heap.size w (w2) := hb1.trans (bw.mono hb1.size)
  have HBv1_2 : Hid ((w2).heap[qv1]? = some (.cells #[.string a, .string b] 71)) := blk_below HBv1_1.out bw
  clear hb1 HBv1_1 bw
  clear cv1_0
  cases u with
  | false =>
    have HU : Hid (¬ TokOk a) := fun h => nomatch htu.2 h
    clear htu
    go_wp2_with fail
    go_ret
    exact ⟨false, rfl, ⟨fun h => (by cases h), fun h => absurd h.1 HU.out⟩, hb2⟩
  | true =>
    have HU : Hid (TokOk a) := htu.1 rfl
    clear htu
    have cv1_1 : (w2).cell? ⟨qv1, 1, none⟩ = some (.string b) := (cell_of HBv1_2.out 1).trans rfl
    go_wp2_with fail
    refine (implValueOk_any b _ HBM.out).mono ?_
    rintro e w3 ⟨v, rfl, htv, bw⟩
    have hb3 : Below w.heap.size w (w3) := hb2.trans (bw.mono hb2.size)
    have HBv1_3 : Hid ((w3).heap[qv1]? = some (.cells #[.string a, .string b] 71)) := blk_below HBv1_2.out bw
    clear hb2 HBv1_2 bw
    clear cv1_1
    go_wp2_with fail
    go_ret
    exact ⟨v, rfl, ⟨fun h => ⟨HU.out, htv.1 h⟩, fun h => htv.2 h.2⟩, hb3⟩

set_option maxHeartbeats 8000000 in
set_option maxRecDepth 100000 in
theorem bans_1 (a : ByteArray) (p : ByteArray) (v1 v2 : Value) (st : Int) (v3 : Value) (d : ByteArray) (u : Int) (w : World) :
    Calls Tryz.prog 114 #[.agg #[.string a], .agg #[.string p, v1, v2, .int .i64 st, v3, .string d, .int .i64 u]] w fun e w' => BoolIs (p = a) w e w' := by
  have hb0 : Below w.heap.size w w := Below.refl _ _
  go_enter Tryz.func114, Tryz.ntmps114
  go_upto_region 1 with fail
  obtain ⟨qv1, hqv1⟩ : ∃ q, q = (w).heap.size := ⟨_, rfl⟩
  obtain ⟨w1, hW1⟩ : ∃ W, W = (w).alloc (.cells #[.string a] 67) := ⟨_, rfl⟩
  have hz1 : (w).heap.size = qv1 := hqv1.symm
  first | rw [← hW1, ← hqv1] | rw [← hW1]
  have hs1 : w1.heap.size = qv1 + 1 := by rw [hW1, ← hz1]; simp
  have bw : Below (w).heap.size (w) w1 := by rw [hW1]; exact (Below.refl _ _).alloc (Nat.le_refl _) _
  have hb1 : Below w.heap.size w (w1) := hb0.trans (bw.mono hb0.size)
  have HBv1_1 : Hid ((w1).heap[qv1]? = some (.cells #[.string a] 67)) := by show _ = _; rw [hW1, ← hz1]; exact heap_alloc_new _ _
  clear hb0 bw hW1 hz1
  obtain ⟨qv2, hqv2⟩ : ∃ q, q = qv1 + 1 := ⟨_, rfl⟩
  obtain ⟨w2, hW2⟩ : ∃ W, W = (w1).alloc (.cells #[.string p, v1, v2, .int .i64 st, v3, .string d, .int .i64 u] 31) := ⟨_, rfl⟩
  have hz2 : (w1).heap.size = qv2 := by rw [hqv2]; exact hs1
  first | rw [← hW2, ← hqv2] | rw [← hW2]
  have hs2 : w2.heap.size = qv2 + 1 := by rw [hW2, ← hz2]; simp
  have bw : Below (w1).heap.size (w1) w2 := by rw [hW2]; exact (Below.refl _ _).alloc (Nat.le_refl _) _
  have hb2 : Below w.heap.size w (w2) := hb1.trans (bw.mono hb1.size)
  have HBv1_2 : Hid ((w2).heap[qv1]? = some (.cells #[.string a] 67)) := blk_below HBv1_1.out bw
  have HBv2_2 : Hid ((w2).heap[qv2]? = some (.cells #[.string p, v1, v2, .int .i64 st, v3, .string d, .int .i64 u] 31)) := by show _ = _; rw [hW2, ← hz2]; exact heap_alloc_new _ _
  clear hb1 HBv1_1 bw hW2 hz2
  clear hs2 hqv2 hs1 hqv1
  have cv1_0 : (w2).cell? ⟨qv1, 0, none⟩ = some (.string a) := (cell_of HBv1_2.out 0).trans rfl
  have cv2_0 : (w2).cell? ⟨qv2, 0, none⟩ = some (.string p) := (cell_of HBv2_2.out 0).trans rfl
  by_cases hc1 : p = a
  · have hc1b : ((p).toList == (a).toList) = true := (text_beq _ _).2 hc1
    go_wp2_with fail
    go_ret
    exact ⟨true, rfl, by simpa using hc1, hb2⟩
  · have hc1b : ((p).toList == (a).toList) = false := text_beq_no hc1
    go_wp2_with fail
    go_ret
    exact ⟨false, rfl, by simpa using hc1, hb2⟩

theorem begins_prefix (a p : ByteArray) : (bs a).isPrefixOf (bs p) = true ↔ Begins a p := by
  rw [List.isPrefixOf_iff_prefix]
  constructor
  · rintro ⟨r, h⟩; exact ⟨r, h.symm⟩
  · rintro ⟨r, h⟩; exact ⟨r, h.symm⟩
set_option maxHeartbeats 8000000 in
set_option maxRecDepth 100000 in
theorem bans_2 (a : ByteArray) (p : ByteArray) (v1 v2 : Value) (st : Int) (v3 : Value) (d : ByteArray) (u : Int) (w : World) (hp : p.size ≤ maxLen) :
    Calls Tryz.prog 116 #[.agg #[.string a], .agg #[.string p, v1, v2, .int .i64 st, v3, .string d, .int .i64 u]] w fun e w' => BoolIs (Begins a p) w e w' := by
  have HPM : Hid (p.size ≤ maxLen) := hp
  clear hp
  have hb0 : Below w.heap.size w w := Below.refl _ _
  go_enter Tryz.func116, Tryz.ntmps116
  go_upto_region 1 with fail
  obtain ⟨qv1, hqv1⟩ : ∃ q, q = (w).heap.size := ⟨_, rfl⟩
  obtain ⟨w1, hW1⟩ : ∃ W, W = (w).alloc (.cells #[.string a] 69) := ⟨_, rfl⟩
  have hz1 : (w).heap.size = qv1 := hqv1.symm
  first | rw [← hW1, ← hqv1] | rw [← hW1]
  have hs1 : w1.heap.size = qv1 + 1 := by rw [hW1, ← hz1]; simp
  have bw : Below (w).heap.size (w) w1 := by rw [hW1]; exact (Below.refl _ _).alloc (Nat.le_refl _) _
  have hb1 : Below w.heap.size w (w1) := hb0.trans (bw.mono hb0.size)
  have HBv1_1 : Hid ((w1).heap[qv1]? = some (.cells #[.string a] 69)) := by show _ = _; rw [hW1, ← hz1]; exact heap_alloc_new _ _
  clear hb0 bw hW1 hz1
  obtain ⟨qv2, hqv2⟩ : ∃ q, q = qv1 + 1 := ⟨_, rfl⟩
  obtain ⟨w2, hW2⟩ : ∃ W, W = (w1).alloc (.cells #[.string p, v1, v2, .int .i64 st, v3, .string d, .int .i64 u] 31) := ⟨_, rfl⟩
  have hz2 : (w1).heap.size = qv2 := by rw [hqv2]; exact hs1
  first | rw [← hW2, ← hqv2] | rw [← hW2]
  have hs2 : w2.heap.size = qv2 + 1 := by rw [hW2, ← hz2]; simp
  have bw : Below (w1).heap.size (w1) w2 := by rw [hW2]; exact (Below.refl _ _).alloc (Nat.le_refl _) _
  have hb2 : Below w.heap.size w (w2) := hb1.trans (bw.mono hb1.size)
  have HBv1_2 : Hid ((w2).heap[qv1]? = some (.cells #[.string a] 69)) := blk_below HBv1_1.out bw
  have HBv2_2 : Hid ((w2).heap[qv2]? = some (.cells #[.string p, v1, v2, .int .i64 st, v3, .string d, .int .i64 u] 31)) := by show _ = _; rw [hW2, ← hz2]; exact heap_alloc_new _ _
  clear hb1 HBv1_1 bw hW2 hz2
  clear hs2 hqv2 hs1 hqv1
  have cv1_0 : (w2).cell? ⟨qv1, 0, none⟩ = some (.string a) := (cell_of HBv1_2.out 0).trans rfl
  have cv2_0 : (w2).cell? ⟨qv2, 0, none⟩ = some (.string p) := (cell_of HBv2_2.out 0).trans rfl
  go_wp2_with fail
  refine (Tryz.strings_HasPrefix p a _).mono ?_
  rintro e w3 ⟨rfl, hwe⟩
  have bw : Below (w2).heap.size (w2) w3 := by rw [hwe]; exact Below.refl _ _
  clear hwe
  obtain ⟨u9, hu9⟩ : ∃ x, x = Lib.hasPrefix p.data.toList a.data.toList := ⟨_, rfl⟩
  rw [← hu9]
  have HU9 : Hid (u9 = Lib.hasPrefix p.data.toList a.data.toList) := hu9
  clear hu9
  have hb3 : Below w.heap.size w (w3) := hb2.trans (bw.mono hb2.size)
  have HBv1_3 : Hid ((w3).heap[qv1]? = some (.cells #[.string a] 69)) := blk_below HBv1_2.out bw
  have HBv2_3 : Hid ((w3).heap[qv2]? = some (.cells #[.string p, v1, v2, .int .i64 st, v3, .string d, .int .i64 u] 31)) := blk_below HBv2_2.out bw
  clear hb2 HBv1_2 HBv2_2 bw
  clear cv1_0 cv2_0
  go_wp2_with fail
  go_ret
  exact ⟨u9, rfl, by rw [HU9.out]; exact begins_prefix a p, hb3⟩

set_option maxHeartbeats 8000000 in
set_option maxRecDepth 100000 in
theorem bans_3 (a b : ByteArray) (p : ByteArray) (v1 v2 : Value) (st : Int) (v3 : Value) (d : ByteArray) (u : Int) (w : World) (n3 base : Nat) (fs : List (ByteArray × ByteArray)) (h3 : FieldsV w base v3 n3 fs) (hn3 : n3 ≤ 2000000) (hc : CopyF fs) :
    Calls Tryz.prog 120 #[.agg #[.string a, .string b], .agg #[.string p, v1, v2, .int .i64 st, v3, .string d, .int .i64 u]] w fun e w' => BoolIs (getB fs a = true ∧ getV fs a = b) w e w' := by
  have HV3 : Hid (∀ W, Below w.heap.size w W → FieldsV W base v3 n3 fs) := fun W h => h3.below h
  have HC : Hid (CopyF fs) := hc
  clear h3 hc
  have hb0 : Below w.heap.size w w := Below.refl _ _
  go_enter Tryz.func120, Tryz.ntmps120
  go_upto_region 1 with fail
  obtain ⟨qv1, hqv1⟩ : ∃ q, q = (w).heap.size := ⟨_, rfl⟩
  obtain ⟨w1, hW1⟩ : ∃ W, W = (w).alloc (.cells #[.string a, .string b] 71) := ⟨_, rfl⟩
  have hz1 : (w).heap.size = qv1 := hqv1.symm
  first | rw [← hW1, ← hqv1] | rw [← hW1]
  have hs1 : w1.heap.size = qv1 + 1 := by rw [hW1, ← hz1]; simp
  have bw : Below (w).heap.size (w) w1 := by rw [hW1]; exact (Below.refl _ _).alloc (Nat.le_refl _) _
  have hb1 : Below w.heap.size w (w1) := hb0.trans (bw.mono hb0.size)
  have HBv1_1 : Hid ((w1).heap[qv1]? = some (.cells #[.string a, .string b] 71)) := by show _ = _; rw [hW1, ← hz1]; exact heap_alloc_new _ _
  clear hb0 bw hW1 hz1
  obtain ⟨qv2, hqv2⟩ : ∃ q, q = qv1 + 1 := ⟨_, rfl⟩
  obtain ⟨w2, hW2⟩ : ∃ W, W = (w1).alloc (.cells #[.string p, v1, v2, .int .i64 st, v3, .string d, .int .i64 u] 31) := ⟨_, rfl⟩
  have hz2 : (w1).heap.size = qv2 := by rw [hqv2]; exact hs1
  first | rw [← hW2, ← hqv2] | rw [← hW2]
  have hs2 : w2.heap.size = qv2 + 1 := by rw [hW2, ← hz2]; simp
  have bw : Below (w1).heap.size (w1) w2 := by rw [hW2]; exact (Below.refl _ _).alloc (Nat.le_refl _) _
  have hb2 : Below w.heap.size w (w2) := hb1.trans (bw.mono hb1.size)
  have HBv1_2 : Hid ((w2).heap[qv1]? = some (.cells #[.string a, .string b] 71)) := blk_below HBv1_1.out bw
  have HBv2_2 : Hid ((w2).heap[qv2]? = some (.cells #[.string p, v1, v2, .int .i64 st, v3, .string d, .int .i64 u] 31)) := by show _ = _; rw [hW2, ← hz2]; exact heap_alloc_new _ _
  clear hb1 HBv1_1 bw hW2 hz2
  clear hs2 hqv2 hs1 hqv1
  have cv1_0 : (w2).cell? ⟨qv1, 0, none⟩ = some (.string a) := (cell_of HBv1_2.out 0).trans rfl
  have cv2_4 : (w2).cell? ⟨qv2, 4, none⟩ = some (v3) := (cell_of HBv2_2.out 4).trans rfl
  go_wp2_with fail
  refine (implGet_any _ n3 base fs a _ (HV3.out _ hb2) (by omega) HC.out).mono ?_
  rintro e w3 ⟨rfl, bw⟩
  obtain ⟨gv, hgv⟩ : ∃ x, x = getV fs a := ⟨_, rfl⟩
  obtain ⟨ug, hug⟩ : ∃ x, x = getB fs a := ⟨_, rfl⟩
  have HGE : Hid (getV fs a = gv) := hgv.symm
  rw [← hgv, ← hug]
  clear hgv
  have hb3 : Below w.heap.size w (w3) := hb2.trans (bw.mono hb2.size)
  have HBv1_3 : Hid ((w3).heap[qv1]? = some (.cells #[.string a, .string b] 71)) := blk_below HBv1_2.out bw
  have HBv2_3 : Hid ((w3).heap[qv2]? = some (.cells #[.string p, v1, v2, .int .i64 st, v3, .string d, .int .i64 u] 31)) := blk_below HBv2_2.out bw
  clear hb2 HBv1_2 HBv2_2 bw
  clear cv1_0 cv2_4
  cases ug with
  | false =>
    have Hug : Hid (¬ getB fs a = true) := (by show ¬ _; rw [← hug]; decide)
    clear hug
    go_wp2_with fail
    go_ret
    refine ⟨false, rfl, ?_, hb3⟩
    have z1 := Hug.out
    have z2 := HGE.out
    first
      | (have z3 := HGV.out
         simp_all; done)
      | (simp_all; done)
  | true =>
    have Hug : Hid (getB fs a = true) := hug.symm
    clear hug
    have cv1_1 : (w3).cell? ⟨qv1, 1, none⟩ = some (.string b) := (cell_of HBv1_3.out 1).trans rfl
    by_cases hc1 : gv = b
    · have hc1b : ((gv).toList == (b).toList) = true := (text_beq _ _).2 hc1
      have HGV : Hid (gv = b) := hc1
      go_wp2_with fail
      go_ret
      refine ⟨true, rfl, ?_, hb3⟩
      have z1 := Hug.out
      have z2 := HGE.out
      first
        | (have z3 := HGV.out
           simp_all; done)
        | (simp_all; done)
    · have hc1b : ((gv).toList == (b).toList) = false := text_beq_no hc1
      have HGV : Hid (¬ gv = b) := hc1
      go_wp2_with fail
      go_ret
      refine ⟨false, rfl, ?_, hb3⟩
      have z1 := Hug.out
      have z2 := HGE.out
      first
        | (have z3 := HGV.out
           simp_all; done)
        | (simp_all; done)

end Go.Proofs.YtlmenolcgaakeaaGreat

namespace Go.Proofs.YtlmenolcgaakeaaGreat
open Go.RowKit
open Go.Lib hiding intOf

theorem timeOk_any (t : Int) (w : World) :
    Calls Tryz.prog 20 #[.int .i64 t] w fun e w' => e = .returned (.bool (decide ((0 : Int) ≤ t ∧ t ≤ 1000000))) ∧ w' = w := by
  obtain ⟨D, hD⟩ : ∃ D, D = decide ((0 : Int) ≤ t ∧ t ≤ 1000000) := ⟨_, rfl⟩
  rw [← hD]
  by_cases h1 : 0 ≤ t
  · by_cases h2 : t ≤ 1000000
    · have HD : Hid (D = true) := by show _ = _; rw [hD]; exact decide_eq_true ⟨h1, h2⟩
      clear hD
      go_enter Tryz.func20, Tryz.ntmps20
      go_wp2
      go_ret
      exact ⟨by rw [HD.out]; rfl, rfl⟩
    · have HD : Hid (D = false) := by show _ = _; rw [hD]; exact decide_eq_false (fun h => h2 h.2)
      clear hD
      go_enter Tryz.func20, Tryz.ntmps20
      go_wp2
      go_ret
      exact ⟨by rw [HD.out]; rfl, rfl⟩
  · have HD : Hid (D = false) := by show _ = _; rw [hD]; exact decide_eq_false (fun h => h1 h.1)
    clear hD
    go_enter Tryz.func20, Tryz.ntmps20
    go_wp2
    go_ret
    exact ⟨by rw [HD.out]; rfl, rfl⟩

set_option maxHeartbeats 1000000 in
theorem valuesOk_any (oa : Option Addr) (m cm : Nat) (xs : List ByteArray) (w : World) (hx : TextsA w oa m xs) (hm : m ≤ 2000000) (hsz : ∀ i, i < m → (textAt xs i).size ≤ maxLen) :
    Calls Tryz.prog 27 #[.slice oa m cm] w fun e w' => BoolIs (∀ y ∈ xs, ValOk y) w e w' := by
  have HV : Hid (∀ W, Below w.heap.size w W → TextsA W oa m xs) := fun W h => hx.below h
  have HL : Hid (xs.length = m) := hx.1
  have HS : Hid (∀ i, i < m → (textAt xs i).size ≤ maxLen) := hsz
  clear hx hsz
  go_enter Tryz.func27, Tryz.ntmps27
  go_wp2
  go_loopw [7] (fun i wr => ∃ j : Nat, j ≤ m ∧ i = .int .i64 (j : Int) ∧ Hid (Below w.heap.size w wr) ∧ Hid (∀ x ∈ xs.take j, ValOk x)) (fun i _ => m - (intOf i).toNat)
  case atStart => exact ⟨0, Nat.zero_le _, rfl, Below.refl _ _, fun x hx => by simp at hx⟩
  case round =>
    obtain ⟨j, hj, rfl, HW, HN⟩ := hrel
    by_cases hlt : (j : Int) < (m : Int)
    · have hjx : j < xs.length := by rw [HL.out]; omega
      obtain ⟨g, hog, hg, hc⟩ := (HV.out wr HW.out).2 j (by omega)
      subst hog
      have hs := HS.out j (by omega)
      obtain ⟨x, hxx⟩ : ∃ x, x = textAt xs j := ⟨_, rfl⟩
      rw [← hxx] at hc hs
      have HM : Hid (x ∈ xs) := by show _ ∈ _; rw [hxx]; exact textAt_mem xs j hjx
      have HTK : Hid (xs.take (j + 1) = xs.take j ++ [x]) := by show _ = _; rw [take_textAt xs j hjx, hxx]
      clear hxx hjx
      go_wp2_with fail
      refine (implValueOk_any x _ hs).mono ?_
      rintro e w90 ⟨tx, rfl, htx, bw⟩
      have HW2 : Hid (Below w.heap.size w w90) := HW.out.trans (bw.mono HW.out.size)
      clear bw hc HW
      cases tx with
      | false =>
        have HF : Hid (¬ ∀ y ∈ xs, ValOk y) := fun h => nomatch htx.2 (h x HM.out)
        clear htx HN
        go_wp2_with fail
        go_ret
        exact BoolIs.no HF.out HW2.out
      | true =>
        have HN2 : Hid (∀ y ∈ xs.take (j + 1), ValOk y) := by
          intro y hy
          rw [HTK.out] at hy
          rcases List.mem_append.1 hy with hy | hy
          · exact HN.out y hy
          · rw [List.mem_singleton.1 hy]; exact htx.1 rfl
        clear htx HN
        go_wp2_with fail
        go_roundw
        case rel => exact ⟨j + 1, by omega, by go_num, HW2, HN2⟩
        case measure => simp [intOf]; omega
    · have HA : Hid (∀ y ∈ xs, ValOk y) := by
        have h := HN.out
        rw [List.take_of_length_le (by rw [HL.out]; omega)] at h
        exact h
      clear HN
      go_wp2_with fail
      go_ret
      exact ⟨true, rfl, ⟨fun _ => HA.out, fun _ => rfl⟩, HW.out⟩

theorem equalT_any (oa ob : Option Addr) (m cm k ck : Nat) (xs ys : List ByteArray) (w : World) (hx : TextsA w oa m xs) (hm : m ≤ 2000000) (hy : TextsA w ob k ys) (hk : k ≤ 2000000) :
    Calls Tryz.prog 24 #[.slice oa m cm, .slice ob k ck] w fun e w' => e = .returned (.bool (decide (xs = ys))) ∧ Below w.heap.size w w' := by
  by_cases hmk : m = k
  · subst hmk
    by_cases h0 : m = 0
    · subst h0
      refine (Tryz.slices_Equal_string_empty oa ob cm 0 ck w (by omega)).mono ?_
      rintro e w1 ⟨rfl, rfl⟩
      refine ⟨?_, Below.refl _ _⟩
      rw [List.length_eq_zero_iff.1 hx.1, List.length_eq_zero_iff.1 hy.1]
      simp
    · obtain ⟨g, rfl, _, _⟩ := hx.2 0 (by omega)
      obtain ⟨q, rfl, _, _⟩ := hy.2 0 (by omega)
      refine (Tryz.slices_Equal_string g 0 m cm q 0 m ck xs ys w (by rw [hx.1]; exact Nat.le_refl _) (by rw [hy.1]; exact Nat.le_refl _) (by omega) (by omega) (fun j hj => ?_) (fun j hj => ?_)).mono ?_
      · obtain ⟨g2, e2, _, h3⟩ := hx.2 j (by rw [← hx.1]; exact hj)
        cases e2
        rw [Nat.zero_add]
        exact h3
      · obtain ⟨g2, e2, _, h3⟩ := hy.2 j (by rw [← hy.1]; exact hj)
        cases e2
        rw [Nat.zero_add]
        exact h3
      · rintro e w1 ⟨rfl, n, rfl⟩
        refine ⟨?_, ⟨rfl, rfl, rfl, Nat.le_refl _, fun _ _ => rfl⟩⟩
        rw [List.take_of_length_le (by rw [hx.1]; exact Nat.le_refl _), List.take_of_length_le (by rw [hy.1]; exact Nat.le_refl _)]
  · refine (Tryz.slices_Equal_string_lens oa ob m cm k ck w hmk).mono ?_
    rintro e w1 ⟨rfl, rfl⟩
    refine ⟨?_, Below.refl _ _⟩
    rw [decide_eq_false (fun h => hmk (by rw [← hx.1, ← hy.1, h]))]

end Go.Proofs.YtlmenolcgaakeaaGreat
