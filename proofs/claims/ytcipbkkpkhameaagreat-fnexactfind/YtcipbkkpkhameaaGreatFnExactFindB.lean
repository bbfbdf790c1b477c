/- What the proof of FnExactFind leans on: contracts of the program's and the specification's functions, and plain facts (part 2 of 8). -/
import Derived.Test.YtcipbkkpkhameaaGreatFnExactFindA
namespace Go.Proofs.YtcipbkkpkhameaaGreat
open Go.RowKit
open Go.Lib hiding intOf

set_option maxHeartbeats 2000000 in
set_option maxRecDepth 100000 in
theorem toReq_any (m : Int) (p : ByteArray) (a : Option Addr) (n cap : Nat) (b : ByteArray) (fs : List (ByteArray × ByteArray)) (B : Nat) (w : World) (harg : ArgF w B a n fs) (hB : B ≤ w.heap.size) (hn : n ≤ 1048576) :
    Calls Tryz.prog 12 #[.agg #[.int .i64 m, .string p, .slice a n cap, .string b]] w fun e w' => ∃ v, e = .returned (.agg #[.int .i64 m, .string p, v, .string b]) ∧ w'.ownsRow w.heap.size 132 2 v n (flatF fs) ∧ Below w.heap.size w w' := by
  obtain ⟨w0, hw0⟩ : ∃ W, W = (((w.alloc (.cells #[.int .i64 m, .string p, .slice a n cap, .string b] 44)).alloc (.cells #[.int .i64 0, .string ⟨#[]⟩, .slice none 0 0, .string ⟨#[]⟩] 54)).alloc (.cells #[.int .i64 m, .string p, .slice none 0 0, .string ⟨#[]⟩] 54)) := ⟨_, rfl⟩
  have hs0 : w0.heap.size = w.heap.size + 1 + 1 + 1 := by rw [hw0]; simp
  have hb0 : Below w.heap.size w w0 := by rw [hw0]; exact (((Below.refl _ w).alloc (Nat.le_refl _) _).alloc (by simp) _).alloc (by simp; omega) _
  have x1 : w0.heap[w.heap.size]? = some (.cells #[.int .i64 m, .string p, .slice a n cap, .string b] 44) := by
    rw [hw0, heap_alloc_old _ _ (by simp; omega), heap_alloc_old _ _ (by simp)]; exact heap_alloc_new w _
  have x2 : w0.heap[w.heap.size + 1]? = some (.cells #[.int .i64 0, .string ⟨#[]⟩, .slice none 0 0, .string ⟨#[]⟩] 54) := by
    rw [hw0, heap_alloc_old _ _ (by simp)]
    have := heap_alloc_new (w.alloc (.cells #[.int .i64 m, .string p, .slice a n cap, .string b] 44)) (.cells #[.int .i64 0, .string ⟨#[]⟩, .slice none 0 0, .string ⟨#[]⟩] 54)
    simpa using this
  have x3 : w0.heap[w.heap.size + 1 + 1]? = some (.cells #[.int .i64 m, .string p, .slice none 0 0, .string ⟨#[]⟩] 54) := by
    rw [hw0]
    have := heap_alloc_new ((w.alloc (.cells #[.int .i64 m, .string p, .slice a n cap, .string b] 44)).alloc (.cells #[.int .i64 0, .string ⟨#[]⟩, .slice none 0 0, .string ⟨#[]⟩] 54)) (.cells #[.int .i64 m, .string p, .slice none 0 0, .string ⟨#[]⟩] 54)
    simpa using this
  go_enter Tryz.func12, Tryz.ntmps12
  go_wp2_with fail
  rw [← hw0]
  refine (toFieldS_any B a n cap fs _ (harg.below (hb0.mono hB)) (by omega) hn).mono ?_
  rintro e w1 ⟨v, rfl, hown, bb1⟩
  obtain ⟨fo, fc, rfl⟩ := slice_of_owns hown
  rw [← bb1.block _ (by omega)] at x1 x2 x3
  obtain ⟨o, ho⟩ : ∃ o, o = w.heap.size + 1 + 1 := ⟨_, rfl⟩
  obtain ⟨q, hq⟩ : ∃ q, q = w.heap.size + 1 := ⟨_, rfl⟩
  obtain ⟨c, hc⟩ : ∃ c, c = w.heap.size := ⟨_, rfl⟩
  rw [← ho] at x3
  rw [← hq] at x2
  rw [← hc] at x1
  have hqo : q ≠ o := by omega
  have hco : c ≠ o := by omega
  have hoq : o ≠ q := by omega
  have hoc : o ≠ c := by omega
  have hqw : w.heap.size ≤ q := by omega
  have how : w.heap.size ≤ o := by omega
  obtain ⟨⟨a0, a1, a2, a3⟩, _⟩ := four_facts x1
  obtain ⟨⟨b0, b1, b2, b3⟩, e0, e1, e2, e3⟩ := four_facts x2
  obtain ⟨⟨d0, d1, d2, d3⟩, f0, f1, f2, f3⟩ := four_facts x3
  have hbw1 : Below w.heap.size w w1 := hb0.trans (bb1.mono hb0.size)
  have HFIN : Hid (∀ W : World, W = (w1.setCell ⟨o, 2, none⟩ (.slice fo n fc)).setCell ⟨o, 3, none⟩ (.string b) → ((fourSet W q (.int .i64 m) (.string p) (.slice fo n fc) (.string b)).heap[q]? = some (.cells #[.int .i64 m, .string p, .slice fo n fc, .string b] 54)) ∧ (fourSet W q (.int .i64 m) (.string p) (.slice fo n fc) (.string b)).ownsRow w.heap.size 132 2 (.slice fo n fc) n (flatF fs) ∧ Below w.heap.size w (fourSet W q (.int .i64 m) (.string p) (.slice fo n fc) (.string b))) := fun W hW => by
    have hx2 : W.heap[q]? = some (.cells #[.int .i64 0, .string ⟨#[]⟩, .slice none 0 0, .string ⟨#[]⟩] 54) := by rw [hW, heap_setCell_other _ _ q _ (fun e => hqo e), heap_setCell_other _ _ q _ (fun e => hqo e)]; exact x2
    have hbW : Below w.heap.size w W := by rw [hW]; exact (hbw1.setCell (p := ⟨o, 2, none⟩) how _).setCell (p := ⟨o, 3, none⟩) how _
    refine ⟨four_set hx2 _ _ _ _, ?_, below_four hbW hqw⟩
    have hown1 : w1.ownsRow w.heap.size 132 2 (.slice fo n fc) n (flatF fs) := by
      refine ⟨hown.1, ?_⟩
      rcases hown.2 with h6 | ⟨g6, cap6, cur6, h7, h8, h9⟩
      · exact .inl h6
      · exact .inr ⟨g6, cap6, cur6, h7, by omega, h9⟩
    refine ⟨hown1.1, ?_⟩
    rcases hown.2 with h6 | ⟨g6, cap6, cur6, h7, h8, h9, h10⟩
    · exact .inl h6
    · refine .inr ⟨g6, cap6, cur6, h7, by omega, ?_, h10⟩
      have n1 : g6 ≠ q := by omega
      have n2 : g6 ≠ o := by omega
      unfold fourSet
      rw [heap_setCell_other _ _ g6 _ (fun e => n1 e), heap_setCell_other _ _ g6 _ (fun e => n1 e), heap_setCell_other _ _ g6 _ (fun e => n1 e), heap_setCell_other _ _ g6 _ (fun e => n1 e), hW, heap_setCell_other _ _ g6 _ (fun e => n2 e), heap_setCell_other _ _ g6 _ (fun e => n2 e)]
      exact h9
  obtain ⟨hh, hof, hbf⟩ := HFIN.out _ rfl
  obtain ⟨⟨k0, k1, k2, k3⟩, _⟩ := four_facts hh
  have HOF : Hid _ := hof
  have HBF : Hid _ := hbf
  unfold fourSet at k0 k1 k2 k3
  rw [← ho, ← hq, ← hc]
  clear x1 x2 x3 ho hq hc hw0 hs0 hb0 bb1 hown hbw1 hh hof hbf harg hB HFIN a0 a1 a2
  go_wp2_with fail
  exact bodyPost_ret (v := .agg #[.int .i64 m, .string p, .slice fo n fc, .string b]) (by simp [results, Tryz.results12, go_sem, k0, k1, k2, k3]) rfl ⟨_, rfl, HOF.out, HBF.out⟩

theorem three_facts {W : World} {R : Nat} {a b c : Value} {t : TypeId} (h : W.heap[R]? = some (.cells #[a, b, c] t)) :
    (W.cell? ⟨R, 0, none⟩ = some a ∧ W.cell? ⟨R, 1, none⟩ = some b ∧ W.cell? ⟨R, 2, none⟩ = some c) ∧ W.frozen? ⟨R, 0, none⟩ = false ∧ W.frozen? ⟨R, 1, none⟩ = false ∧ W.frozen? ⟨R, 2, none⟩ = false := by
  refine ⟨⟨?_, ?_, ?_⟩, ?_, ?_, ?_⟩ <;> simp [World.cell?, World.frozen?, h]
/-- The three cells of an answer's memory, written. -/
def threeSet (w : World) (r : Nat) (a b c : Value) : World := ((w.setCell ⟨r, 0, none⟩ a).setCell ⟨r, 1, none⟩ b).setCell ⟨r, 2, none⟩ c
theorem three_set {W : World} {R : Nat} {a b c : Value} {t : TypeId} (h : W.heap[R]? = some (.cells #[a, b, c] t)) (a' b' c' : Value) : (threeSet W R a' b' c').heap[R]? = some (.cells #[a', b', c'] t) := by
  have := heap_set _ R 2 _ _ _ c' (heap_set _ R 1 _ _ _ b' (heap_set W R 0 _ _ _ a' h))
  simpa [threeSet] using this
theorem below_three {w W : World} {B R : Nat} {a b c : Value} (h : Below B w W) (hR : B ≤ R) : Below B w (threeSet W R a b c) :=
  ((h.setCell (p := ⟨R, 0, none⟩) hR _).setCell (p := ⟨R, 1, none⟩) hR _).setCell (p := ⟨R, 2, none⟩) hR _

set_option maxHeartbeats 2000000 in
set_option maxRecDepth 100000 in
theorem toResp_any (m : Int) (a : Option Addr) (n cap : Nat) (b : ByteArray) (fs : List (ByteArray × ByteArray)) (B : Nat) (w : World) (harg : ArgF w B a n fs) (hB : B ≤ w.heap.size) (hn : n ≤ 1048576) :
    Calls Tryz.prog 125 #[.agg #[.int .i64 m, .slice a n cap, .string b]] w fun e w' => ∃ v, e = .returned (.agg #[.int .i64 m, v, .string b]) ∧ w'.ownsRow w.heap.size 132 2 v n (flatF fs) ∧ Below w.heap.size w w' := by
  obtain ⟨w0, hw0⟩ : ∃ W, W = (((w.alloc (.cells #[.int .i64 m, .slice a n cap, .string b] 102)).alloc (.cells #[.int .i64 0, .slice none 0 0, .string ⟨#[]⟩] 48)).alloc (.cells #[.int .i64 m, .slice none 0 0, .string ⟨#[]⟩] 48)) := ⟨_, rfl⟩
  have hs0 : w0.heap.size = w.heap.size + 1 + 1 + 1 := by rw [hw0]; simp
  have hb0 : Below w.heap.size w w0 := by rw [hw0]; exact (((Below.refl _ w).alloc (Nat.le_refl _) _).alloc (by simp) _).alloc (by simp; omega) _
  have x1 : w0.heap[w.heap.size]? = some (.cells #[.int .i64 m, .slice a n cap, .string b] 102) := by
    rw [hw0, heap_alloc_old _ _ (by simp; omega), heap_alloc_old _ _ (by simp)]; exact heap_alloc_new w _
  have x2 : w0.heap[w.heap.size + 1]? = some (.cells #[.int .i64 0, .slice none 0 0, .string ⟨#[]⟩] 48) := by
    rw [hw0, heap_alloc_old _ _ (by simp)]
    have := heap_alloc_new (w.alloc (.cells #[.int .i64 m, .slice a n cap, .string b] 102)) (.cells #[.int .i64 0, .slice none 0 0, .string ⟨#[]⟩] 48)
    simpa using this
  have x3 : w0.heap[w.heap.size + 1 + 1]? = some (.cells #[.int .i64 m, .slice none 0 0, .string ⟨#[]⟩] 48) := by
    rw [hw0]
    have := heap_alloc_new ((w.alloc (.cells #[.int .i64 m, .slice a n cap, .string b] 102)).alloc (.cells #[.int .i64 0, .slice none 0 0, .string ⟨#[]⟩] 48)) (.cells #[.int .i64 m, .slice none 0 0, .string ⟨#[]⟩] 48)
    simpa using this
  go_enter Tryz.func125, Tryz.ntmps125
  go_wp2_with fail
  rw [← hw0]
  refine (toFieldS_any B a n cap fs _ (harg.below (hb0.mono hB)) (by omega) hn).mono ?_
  rintro e w1 ⟨v, rfl, hown, bb1⟩
  obtain ⟨fo, fc, rfl⟩ := slice_of_owns hown
  rw [← bb1.block _ (by omega)] at x1 x2 x3
  obtain ⟨o, ho⟩ : ∃ o, o = w.heap.size + 1 + 1 := ⟨_, rfl⟩
  obtain ⟨q, hq⟩ : ∃ q, q = w.heap.size + 1 := ⟨_, rfl⟩
  obtain ⟨c, hc⟩ : ∃ c, c = w.heap.size := ⟨_, rfl⟩
  rw [← ho] at x3
  rw [← hq] at x2
  rw [← hc] at x1
  have hqo : q ≠ o := by omega
  have hco : c ≠ o := by omega
  have hoq : o ≠ q := by omega
  have hoc : o ≠ c := by omega
  have hqw : w.heap.size ≤ q := by omega
  have how : w.heap.size ≤ o := by omega
  obtain ⟨⟨a0, a1, a2⟩, _⟩ := three_facts x1
  obtain ⟨⟨b0, b1, b2⟩, e0, e1, e2⟩ := three_facts x2
  obtain ⟨⟨d0, d1, d2⟩, f0, f1, f2⟩ := three_facts x3
  have hbw1 : Below w.heap.size w w1 := hb0.trans (bb1.mono hb0.size)
  have HFIN : Hid (∀ W : World, W = (w1.setCell ⟨o, 1, none⟩ (.slice fo n fc)).setCell ⟨o, 2, none⟩ (.string b) → ((threeSet W q (.int .i64 m) (.slice fo n fc) (.string b)).heap[q]? = some (.cells #[.int .i64 m, .slice fo n fc, .string b] 48)) ∧ (threeSet W q (.int .i64 m) (.slice fo n fc) (.string b)).ownsRow w.heap.size 132 2 (.slice fo n fc) n (flatF fs) ∧ Below w.heap.size w (threeSet W q (.int .i64 m) (.slice fo n fc) (.string b))) := fun W hW => by
    have hx2 : W.heap[q]? = some (.cells #[.int .i64 0, .slice none 0 0, .string ⟨#[]⟩] 48) := by rw [hW, heap_setCell_other _ _ q _ (fun e => hqo e), heap_setCell_other _ _ q _ (fun e => hqo e)]; exact x2
    have hbW : Below w.heap.size w W := by rw [hW]; exact (hbw1.setCell (p := ⟨o, 1, none⟩) how _).setCell (p := ⟨o, 2, none⟩) how _
    refine ⟨three_set hx2 _ _ _, ?_, below_three hbW hqw⟩
    have hown1 : w1.ownsRow w.heap.size 132 2 (.slice fo n fc) n (flatF fs) := by
      refine ⟨hown.1, ?_⟩
      rcases hown.2 with h6 | ⟨g6, cap6, cur6, h7, h8, h9⟩
      · exact .inl h6
      · exact .inr ⟨g6, cap6, cur6, h7, by omega, h9⟩
    refine ⟨hown1.1, ?_⟩
    rcases hown.2 with h6 | ⟨g6, cap6, cur6, h7, h8, h9, h10⟩
    · exact .inl h6
    · refine .inr ⟨g6, cap6, cur6, h7, by omega, ?_, h10⟩
      have n1 : g6 ≠ q := by omega
      have n2 : g6 ≠ o := by omega
      unfold threeSet
      rw [heap_setCell_other _ _ g6 _ (fun e => n1 e), heap_setCell_other _ _ g6 _ (fun e => n1 e), heap_setCell_other _ _ g6 _ (fun e => n1 e), hW, heap_setCell_other _ _ g6 _ (fun e => n2 e), heap_setCell_other _ _ g6 _ (fun e => n2 e)]
      exact h9
  obtain ⟨hh, hof, hbf⟩ := HFIN.out _ rfl
  obtain ⟨⟨k0, k1, k2⟩, _⟩ := three_facts hh
  have HOF : Hid _ := hof
  have HBF : Hid _ := hbf
  unfold threeSet at k0 k1 k2
  rw [← ho, ← hq, ← hc]
  clear x1 x2 x3 ho hq hc hw0 hs0 hb0 bb1 hown hbw1 hh hof hbf harg hB HFIN a0 a1
  go_wp2_with fail
  exact bodyPost_ret (v := .agg #[.int .i64 m, .slice fo n fc, .string b]) (by simp [results, Tryz.results125, go_sem, k0, k1, k2]) rfl ⟨_, rfl, HOF.out, HBF.out⟩

set_option maxHeartbeats 2000000 in
set_option maxRecDepth 100000 in
theorem eqReq_any (m : Int) (p : ByteArray) (v1 v2 : Value) (b : ByteArray) (n b1 b2 : Nat) (fs : List (ByteArray × ByteArray)) (w : World) (h1 : FieldsV w b1 v1 n fs) (h2 : FieldsV w b2 v2 n fs) (hn : n ≤ 2000000) :
    Calls Tryz.prog 15 #[.agg #[.int .i64 m, .string p, v1, .string b], .agg #[.int .i64 m, .string p, v2, .string b]] w fun e w' => e = .returned (.bool true) ∧ Below w.heap.size w w' := by
  obtain ⟨oa, ca, rfl, _⟩ := h1.slice
  obtain ⟨ob, cb, rfl, _⟩ := h2.slice
  have tp : (p.toList == p.toList) = true := by simp
  have tb : (b.toList == b.toList) = true := by simp
  have tm : (m != m) = false := by simp
  obtain ⟨w0, hw0⟩ : ∃ W, W = ((w.alloc (.cells #[.int .i64 m, .string p, .slice oa n ca, .string b] 54)).alloc (.cells #[.int .i64 m, .string p, .slice ob n cb, .string b] 54)) := ⟨_, rfl⟩
  have hs0 : w0.heap.size = w.heap.size + 1 + 1 := by rw [hw0]; simp
  have hb0 : Below w.heap.size w w0 := by rw [hw0]; exact ((Below.refl _ w).alloc (Nat.le_refl _) _).alloc (by simp) _
  have x1 : w0.heap[w.heap.size]? = some (.cells #[.int .i64 m, .string p, .slice oa n ca, .string b] 54) := by
    rw [hw0, heap_alloc_old _ _ (by simp)]; exact heap_alloc_new w _
  have x2 : w0.heap[w.heap.size + 1]? = some (.cells #[.int .i64 m, .string p, .slice ob n cb, .string b] 54) := by
    rw [hw0]
    have := heap_alloc_new (w.alloc (.cells #[.int .i64 m, .string p, .slice oa n ca, .string b] 54)) (.cells #[.int .i64 m, .string p, .slice ob n cb, .string b] 54)
    simpa using this
  go_enter Tryz.func15, Tryz.ntmps15
  go_wp2_with fail
  rw [← hw0]
  refine (eqFieldS_any _ _ n b1 b2 fs _ (h1.below hb0) (h2.below hb0) hn).mono ?_
  rintro e w1 ⟨rfl, bb1⟩
  rw [← bb1.block _ (by omega)] at x1 x2
  obtain ⟨q, hq⟩ : ∃ q, q = w.heap.size + 1 := ⟨_, rfl⟩
  obtain ⟨c, hc⟩ : ∃ c, c = w.heap.size := ⟨_, rfl⟩
  rw [← hq] at x2
  rw [← hc] at x1
  have y1 : w1.cell? ⟨c, 3, none⟩ = some (.string b) := by simp [World.cell?, x1]
  have y2 : w1.cell? ⟨q, 3, none⟩ = some (.string b) := by simp [World.cell?, x2]
  have hbw1 : Below w.heap.size w w1 := hb0.trans (bb1.mono hb0.size)
  rw [← hq, ← hc]
  clear x1 x2 hq hc hw0 hs0 hb0 bb1 h1 h2
  go_wp2
  go_ret
  exact ⟨rfl, hbw1⟩

set_option maxHeartbeats 2000000 in
set_option maxRecDepth 100000 in
theorem eqResp_any (m : Int) (v1 v2 : Value) (b : ByteArray) (n b1 b2 : Nat) (fs : List (ByteArray × ByteArray)) (w : World) (h1 : FieldsV w b1 v1 n fs) (h2 : FieldsV w b2 v2 n fs) (hn : n ≤ 2000000) :
    Calls Tryz.prog 47 #[.agg #[.int .i64 m, v1, .string b], .agg #[.int .i64 m, v2, .string b]] w fun e w' => e = .returned (.bool true) ∧ Below w.heap.size w w' := by
  obtain ⟨oa, ca, rfl, _⟩ := h1.slice
  obtain ⟨ob, cb, rfl, _⟩ := h2.slice
  have tb : (b.toList == b.toList) = true := by simp
  have tm : (m != m) = false := by simp
  obtain ⟨w0, hw0⟩ : ∃ W, W = ((w.alloc (.cells #[.int .i64 m, .slice oa n ca, .string b] 48)).alloc (.cells #[.int .i64 m, .slice ob n cb, .string b] 48)) := ⟨_, rfl⟩
  have hs0 : w0.heap.size = w.heap.size + 1 + 1 := by rw [hw0]; simp
  have hb0 : Below w.heap.size w w0 := by rw [hw0]; exact ((Below.refl _ w).alloc (Nat.le_refl _) _).alloc (by simp) _
  have x1 : w0.heap[w.heap.size]? = some (.cells #[.int .i64 m, .slice oa n ca, .string b] 48) := by
    rw [hw0, heap_alloc_old _ _ (by simp)]; exact heap_alloc_new w _
  have x2 : w0.heap[w.heap.size + 1]? = some (.cells #[.int .i64 m, .slice ob n cb, .string b] 48) := by
    rw [hw0]
    have := heap_alloc_new (w.alloc (.cells #[.int .i64 m, .slice oa n ca, .string b] 48)) (.cells #[.int .i64 m, .slice ob n cb, .string b] 48)
    simpa using this
  go_enter Tryz.func47, Tryz.ntmps47
  go_wp2_with fail
  rw [← hw0]
  refine (eqFieldS_any _ _ n b1 b2 fs _ (h1.below hb0) (h2.below hb0) hn).mono ?_
  rintro e w1 ⟨rfl, bb1⟩
  rw [← bb1.block _ (by omega)] at x1 x2
  obtain ⟨q, hq⟩ : ∃ q, q = w.heap.size + 1 := ⟨_, rfl⟩
  obtain ⟨c, hc⟩ : ∃ c, c = w.heap.size := ⟨_, rfl⟩
  rw [← hq] at x2
  rw [← hc] at x1
  have y1 : w1.cell? ⟨c, 2, none⟩ = some (.string b) := by simp [World.cell?, x1]
  have y2 : w1.cell? ⟨q, 2, none⟩ = some (.string b) := by simp [World.cell?, x2]
  have hbw1 : Below w.heap.size w w1 := hb0.trans (bb1.mono hb0.size)
  rw [← hq, ← hc]
  clear x1 x2 hq hc hw0 hs0 hb0 bb1 h1 h2
  go_wp2
  go_ret
  exact ⟨rfl, hbw1⟩

end Go.Proofs.YtcipbkkpkhameaaGreat

namespace Go.Proofs.YtcipbkkpkhameaaGreat
open Go.RowKit
open Go.Lib hiding intOf

/-- The measure is negative, or it says exactly how much room is left of L. -/
def SzEx (L : Int) (n : Nat) (fs : List (ByteArray × ByteArray)) (w : World) (e : Ending) (w' : World) : Prop :=
  ∃ r : Int, e = .returned (.int .i64 r) ∧ r ≤ L ∧ (0 ≤ r → r + (n : Int) + (szTo fs n : Int) = L ∧ n ≤ 1048576 ∧ szTo fs n ≤ 1048576) ∧ Below w.heap.size w w'

set_option maxHeartbeats 1000000 in
theorem szFieldS_exact (L : Int) (hL0 : 0 ≤ L) (hL1 : L ≤ 1048576) (B : Nat) (a : Option Addr) (n cap : Nat) (fs : List (ByteArray × ByteArray)) (w : World) (harg : ArgF w B a n fs) (hB : B ≤ w.heap.size) (hn : n ≤ maxLen) (hsz : ∀ i, i < n → (nameAt fs i).size ≤ maxLen ∧ (valAt fs i).size ≤ maxLen) :
    Calls Tryz.prog 37 #[.slice a n cap, .int .i64 L] w fun e w' => SzEx L n fs w e w' := by
  unfold maxLen at hn
  have HS : Hid (∀ i, i < n → (nameAt fs i).size ≤ maxLen ∧ (valAt fs i).size ≤ maxLen) := hsz
  clear hsz
  by_cases c1 : L - (n : Int) < 0
  · go_enter Tryz.func37, Tryz.ntmps37
    go_wp2
    go_ret
    exact ⟨-1, rfl, by omega, fun h => absurd h (by omega), Below.refl _ _⟩
  · go_enter Tryz.func37, Tryz.ntmps37
    go_wp2
    go_loopw [1, 5] (fun l i wr => ∃ (k : Nat) (x : Int), k ≤ n ∧ i = .int .i64 (k : Int) ∧ l = .int .i64 x ∧ 0 ≤ x ∧ x ≤ L ∧ Hid (x = L - (n : Int) - (szTo fs k : Int)) ∧ Below w.heap.size w wr) (fun _ i _ => n - (intOf i).toNat)
    case atStart => exact ⟨0, _, Nat.zero_le _, rfl, rfl, by omega, by omega, by show _ = _; simp [szTo], Below.refl _ _⟩
    case round =>
      obtain ⟨k, x, hk, rfl, rfl, hx0, hx1, hx, hbw⟩ := hrel
      by_cases hlt : k < n
      · have hlt2 : (k : Int) < (n : Int) := by omega
        obtain ⟨b, off, rfl, hbB, hc1, hc2⟩ := (harg.below (hbw.mono hB)).get k hlt
        obtain ⟨s1, s2⟩ := HS.out k hlt
        obtain ⟨nm, hnm⟩ : ∃ y, y = nameAt fs k := ⟨_, rfl⟩
        obtain ⟨vl, hvl⟩ : ∃ y, y = valAt fs k := ⟨_, rfl⟩
        have HZ : Hid (szTo fs (k + 1) = szTo fs k + nm.size + vl.size) := by rw [hnm, hvl]; rfl
        rw [← hnm] at hc1 s1
        rw [← hvl] at hc2 s2
        clear hnm hvl
        go_wp2_with fail
        refine (szField_any nm vl x _ hx0 (by omega) s1 s2).mono ?_
        rintro e w1 ⟨rfl, hb1⟩
        have hb2 : Below w.heap.size w w1 := hbw.trans (hb1.mono hbw.size)
        clear hc1 hc2 hb1
        by_cases d1 : x - (nm.size : Int) < 0
        · rw [if_pos d1]
          go_wp2
          go_ret
          exact ⟨-1, rfl, by omega, fun h => absurd h (by omega), hb2⟩
        · rw [if_neg d1]
          by_cases d2 : x - (nm.size : Int) - (vl.size : Int) < 0
          · rw [if_pos d2]
            go_wp2
            go_ret
            exact ⟨-1, rfl, by omega, fun h => absurd h (by omega), hb2⟩
          · rw [if_neg d2]
            obtain ⟨y, hy⟩ : ∃ y, y = x - (nm.size : Int) - (vl.size : Int) := ⟨_, rfl⟩
            rw [← hy] at d2 ⊢
            have HY : Hid (y = L - (n : Int) - (szTo fs (k + 1) : Int)) := by
              show _ = _
              rw [hy, HZ.out, hx.out]; omega
            have hy1 : y ≤ L := by omega
            clear hy d1
            go_wp2
            go_roundw
            case rel => exact ⟨k + 1, y, by omega, by go_num, rfl, by omega, hy1, HY, hb2⟩
            case measure => simp [intOf]; omega
      · have hF : Hid (x + (n : Int) + (szTo fs n : Int) = L ∧ n ≤ 1048576 ∧ szTo fs n ≤ 1048576) := by
          have := hx.out
          obtain rfl : k = n := by omega
          exact ⟨by omega, by omega, by omega⟩
        go_wp2
        go_ret
        exact ⟨x, rfl, hx1, fun _ => hF.out, hbw⟩

end Go.Proofs.YtcipbkkpkhameaaGreat

namespace Go.Proofs.YtcipbkkpkhameaaGreat
open Go.RowKit
open Go.Lib hiding intOf

/-- The list with its first k fields marked, from k0 on. -/
def mkG (k0 : Nat) (fs : List (ByteArray × ByteArray)) : Nat → List (ByteArray × ByteArray)
  | 0 => fs
  | k + 1 => (mkG k0 fs k).set k (markOf (k0 + 2 * k), markOf (k0 + 2 * k + 1))
theorem mkG_len (k0 : Nat) (fs : List (ByteArray × ByteArray)) : ∀ k, (mkG k0 fs k).length = fs.length
  | 0 => rfl
  | k + 1 => by rw [mkG, List.length_set, mkG_len k0 fs k]
theorem mkG_at (k0 : Nat) (fs : List (ByteArray × ByteArray)) (j : Nat) : ∀ k, k ≤ fs.length → j < k → nameAt (mkG k0 fs k) j = markOf (k0 + 2 * j) ∧ valAt (mkG k0 fs k) j = markOf (k0 + 2 * j + 1) := by
  intro k
  induction k with
  | zero => intro _ h; omega
  | succ k ih =>
    intro hk h
    have hs := nameAt_set (mkG k0 fs k) k j (markOf (k0 + 2 * k), markOf (k0 + 2 * k + 1)) (by rw [mkG_len]; omega)
    rw [mkG, hs.1, hs.2]
    by_cases e : j = k
    · subst e; rw [if_pos rfl, if_pos rfl]; exact ⟨rfl, rfl⟩
    · rw [if_neg e, if_neg e]; exact ih (by omega) (by omega)

set_option maxHeartbeats 2000000 in
theorem markFrom_any (v : Value) (n base : Nat) (fs : List (ByteArray × ByteArray)) (w : World) (h1 : w.ownsRow base 132 2 v n (flatF fs)) (hb : base ≤ w.heap.size) (k0 : Nat) (hk0 : 1 ≤ k0) (hn : k0 + 2 * n ≤ 9999999) :
    Calls Tryz.prog 52 #[v, .int .i64 (k0 : Int)] w fun e w' => e = .returned (.int .i64 ((k0 : Int) + 2 * (n : Int))) ∧ w'.ownsRow base 132 2 v n (flatF (mkG k0 fs n)) ∧ Below base w w' ∧ Far v w w' := by
  rcases frow_form h1 with ⟨oa, ca, rfl, _, rfl, rfl⟩ | ⟨g, cap, rfl, hp, r1⟩
  · go_enter Tryz.func52, Tryz.ntmps52
    go_wp2
    refine wp_loop_rounds 1 ?_
    rw [rounds_succ]
    go_wp2
    go_ret
    exact ⟨ret_int (by simp), h1, Below.refl _ _, fun j _ _ => rfl⟩
  · clear h1
    go_enter Tryz.func52, Tryz.ntmps52
    go_wp2
    go_loopw [1, 5] (fun q i wr => ∃ k : Nat, k ≤ n ∧ i = .int .i64 (k : Int) ∧ q = .int .i64 ((k0 : Int) + 2 * (k : Int)) ∧ Below base w wr ∧ FieldRow base wr g n cap (mkG k0 fs k) ∧ Hid (∀ j, j < w.heap.size → j ≠ g → wr.heap[j]? = w.heap[j]?)) (fun _ i _ => n - (intOf i).toNat)
    case atStart => exact ⟨0, Nat.zero_le _, rfl, by simp, Below.refl _ _, r1, fun j _ _ => rfl⟩
    case round =>
      obtain ⟨k, hk, rfl, rfl, hbw, hrow, hfar⟩ := hrel
      by_cases hlt : k < n
      · have hlt2 : (k : Int) < (n : Int) := by omega
        have hszr := hbw.size
        go_wp2_with fail
        refine (markText_int _ (k0 + 2 * k) _ (by omega) (by omega) (by omega)).mono ?_
        rintro e w1 ⟨rfl, hb1⟩
        have hrow1 := hrow.below hb1 hrow.lt
        have hc := hrow1.name k hlt
        have hf := hrow1.frozen (k * 2)
        have hb2 : Below base w w1 := hbw.trans (hb1.mono (Nat.le_trans hb hbw.size))
        have HF1 : Hid (∀ j, j < w.heap.size → j ≠ g → w1.heap[j]? = w.heap[j]?) := fun j hj hne => by rw [hb1.block j (by omega)]; exact hfar.out j hj hne
        clear hb1 hbw
        go_wp2_with fail
        refine (markText_int _ (k0 + 2 * k + 1) _ (by omega) (by omega) (by omega)).mono ?_
        rintro e w2 ⟨rfl, hb3⟩
        have hlt3 : g < (w1.setCell ⟨g, k * 2, none⟩ (.string (markOf (k0 + 2 * k)))).heap.size := by simpa using hrow1.lt
        have hblk := hb3.block g hlt3
        have hc2 : w2.cell? ⟨g, k * 2 + 1, none⟩ = some (.string (valAt (mkG k0 fs k) k)) := by
          rw [World.cell?_of_block (w := w1.setCell ⟨g, k * 2, none⟩ (.string (markOf (k0 + 2 * k)))) hblk, World.cell?_setCell_other (h := fun e => by have := congrArg Addr.off e; simp at this)]
          exact hrow1.val k hlt
        have hf2 : w2.frozen? ⟨g, k * 2 + 1, none⟩ = false := by
          rw [World.frozen?_of_block (w := w1.setCell ⟨g, k * 2, none⟩ (.string (markOf (k0 + 2 * k)))) hblk, World.frozen?_setCell]; exact hrow1.frozen _
        have hb4 : Below base w w2 := (hb2.setCell hrow.base _).trans (hb3.mono (by have := hb2.size; simp; omega))
        have hsz2 : w1.heap.size ≤ w2.heap.size := by have := hb3.size; simpa using this
        have HF2 : Hid (∀ j, j < w.heap.size → j ≠ g → (w2.setCell ⟨g, k * 2 + 1, none⟩ (.string (markOf (k0 + 2 * k + 1)))).heap[j]? = w.heap[j]?) := fun j hj hne => by
          have hs1 : w.heap.size ≤ w1.heap.size := hb2.size
          rw [heap_setCell_other _ _ j _ (fun e => hne e), hb3.block j (by simp; omega), heap_setCell_other _ _ j _ (fun e => hne e)]
          exact HF1.out j hj hne
        clear hb3 hb2
        have HROW : Hid (FieldRow base (w2.setCell ⟨g, k * 2 + 1, none⟩ (.string (markOf (k0 + 2 * k + 1)))) g n cap (mkG k0 fs (k + 1))) := hrow1.set k hlt _ _ _ (heap_setCell_congr hblk _ _) (by simpa using hsz2)
        clear hblk hc hf
        go_wp2
        go_roundw
        case rel => exact ⟨k + 1, by omega, by go_num, by first | go_num | (congr 1; omega), hb4.setCell hrow.base _, HROW, HF2⟩
        case measure => simp [intOf]; omega
      · obtain rfl : k = n := by omega
        go_wp2
        go_ret
        exact ⟨rfl, hrow.owns, hbw, fun j hj hne => hfar.out j hj (fun e => hne (by rw [e]; rfl))⟩

set_option maxHeartbeats 2000000 in
theorem heldFrom_any (v : Value) (n base : Nat) (fs : List (ByteArray × ByteArray)) (w : World) (h1 : w.ownsRow base 132 2 v n (flatF fs)) (k0 : Nat) (hk0 : 1 ≤ k0) (hn : k0 + 2 * n ≤ 9999999) (hm : ∀ j, j < n → nameAt fs j = markOf (k0 + 2 * j) ∧ valAt fs j = markOf (k0 + 2 * j + 1)) :
    Calls Tryz.prog 96 #[v, .int .i64 (k0 : Int)] w fun e w' => e = .returned (.int .i64 ((k0 : Int) + 2 * (n : Int))) ∧ Below w.heap.size w w' := by
  rcases frow_form h1 with ⟨oa, ca, rfl, _, rfl, rfl⟩ | ⟨g, cap, rfl, hp, r1⟩
  · clear hm
    go_enter Tryz.func96, Tryz.ntmps96
    go_wp2
    refine wp_loop_rounds 1 ?_
    rw [rounds_succ]
    go_wp2
    go_ret
    exact ⟨ret_int (by simp), Below.refl _ _⟩
  · clear h1
    have HM : Hid (∀ j, j < n → nameAt fs j = markOf (k0 + 2 * j) ∧ valAt fs j = markOf (k0 + 2 * j + 1)) := hm
    clear hm
    go_enter Tryz.func96, Tryz.ntmps96
    go_wp2
    go_loopw [1, 5] (fun q i wr => ∃ k : Nat, k ≤ n ∧ i = .int .i64 (k : Int) ∧ q = .int .i64 ((k0 : Int) + 2 * (k : Int)) ∧ Below w.heap.size w wr) (fun _ i _ => n - (intOf i).toNat)
    case atStart => exact ⟨0, Nat.zero_le _, rfl, by simp, Below.refl _ _⟩
    case round =>
      obtain ⟨k, hk, rfl, rfl, hbw⟩ := hrel
      by_cases hlt : k < n
      · have hlt2 : (k : Int) < (n : Int) := by omega
        have HA : Hid (∀ w0 w1, Below w.heap.size w w0 → Below w0.heap.size w0 w1 → (w1.cell? ⟨g, k * 2, none⟩ = some (.string (markOf (k0 + 2 * k))) ∧ w1.cell? ⟨g, k * 2 + 1, none⟩ = some (.string (markOf (k0 + 2 * k + 1)))) ∧ Below w.heap.size w w1) := fun w0 w1 h h' => by
          have hx := h.trans (h'.mono h.size)
          have a1 := (r1.below hx r1.lt).name k hlt
          have a2 := (r1.below hx r1.lt).val k hlt
          rw [(HM.out k hlt).1] at a1
          rw [(HM.out k hlt).2] at a2
          exact ⟨⟨a1, a2⟩, hx⟩
        obtain ⟨⟨hc1, hc2⟩, _⟩ := HA.out wr wr hbw (Below.refl _ _)
        go_wp2
        go_region_held3 (fun w' => w'.cell? ⟨g, k * 2, none⟩ = some (.string (markOf (k0 + 2 * k)))) (first | assumption | go_keep) (first | (go_at_call 95; refine (markText_int _ (k0 + 2 * k) _ (by omega) (by omega) (by omega)).mono ?_; rintro e w1 ⟨rfl, hb1⟩; obtain ⟨⟨hd1, hd2⟩, hbx⟩ := HA.out _ w1 hbw.drew hb1))
        clear hc1 hc2 hd1
        go_wp2
        go_region_held3 (fun w' => w'.cell? ⟨g, k * 2 + 1, none⟩ = some (.string (markOf (k0 + 2 * k + 1)))) (first | assumption | go_keep) (first | (go_at_call 95; refine (markText_int _ (k0 + 2 * k + 1) _ (by omega) (by omega) (by omega)).mono ?_; rintro e w2 ⟨rfl, hb2⟩; obtain ⟨⟨he1, he2⟩, hby⟩ := HA.out _ w2 hbx.drew hb2))
        go_wp2
        go_roundw
        case rel => exact ⟨k + 1, by omega, by go_num, by first | go_num | (congr 1; omega), hby⟩
        case measure => simp [intOf]; omega
      · obtain rfl : k = n := by omega
        go_wp2
        go_ret
        exact ⟨rfl, hbw⟩

end Go.Proofs.YtcipbkkpkhameaaGreat

namespace Go.Proofs.YtcipbkkpkhameaaGreat
open Go.RowKit
open Go.Lib hiding intOf

def SzReqRm (L : Int) (p : ByteArray) (n : Nat) (fs : List (ByteArray × ByteArray)) (b : ByteArray) (w : World) (e : Ending) (w' : World) : Prop :=
  ∃ r : Int, e = .returned (.int .i64 r) ∧ r ≤ L ∧ (0 ≤ r → r + (n : Int) ≤ L ∧ (p.size ≤ 1048576 ∧ b.size ≤ 1048576) ∧ n ≤ 1048576 ∧ szTo fs n ≤ 1048576) ∧ Below w.heap.size w w'
def SzRespRm (L : Int) (n : Nat) (fs : List (ByteArray × ByteArray)) (b : ByteArray) (w : World) (e : Ending) (w' : World) : Prop :=
  ∃ r : Int, e = .returned (.int .i64 r) ∧ r ≤ L ∧ (0 ≤ r → r + (n : Int) ≤ L ∧ b.size ≤ 1048576 ∧ n ≤ 1048576 ∧ szTo fs n ≤ 1048576) ∧ Below w.heap.size w w'

set_option maxHeartbeats 2000000 in
set_option maxRecDepth 100000 in
theorem szReq_room (L : Int) (hL0 : 0 ≤ L) (hL1 : L ≤ 1048576) (m : Int) (p : ByteArray) (a : Option Addr) (n cap : Nat) (b : ByteArray) (fs : List (ByteArray × ByteArray)) (w : World) (harg : ArgF w w.heap.size a n fs) (hn : n ≤ maxLen) (hsz : WalkF n fs) (hp : p.size ≤ maxLen) (hb : b.size ≤ maxLen) :
    Calls Tryz.prog 10 #[.agg #[.int .i64 m, .string p, .slice a n cap, .string b], .int .i64 L] w fun e w' => SzReqRm L p n fs b w e w' := by
  unfold maxLen at hp hb
  obtain ⟨r, hr⟩ : ∃ r, r = w.heap.size := ⟨_, rfl⟩
  have HR : Hid (∀ W, Below (w.alloc (.cells #[.int .i64 m, .string p, .slice a n cap, .string b] 44)).heap.size (w.alloc (.cells #[.int .i64 m, .string p, .slice a n cap, .string b] 44)) W → (W.cell? ⟨r, 1, none⟩ = some (.string p) ∧ W.cell? ⟨r, 2, none⟩ = some (.slice a n cap) ∧ W.cell? ⟨r, 3, none⟩ = some (.string b)) ∧ ArgF W w.heap.size a n fs ∧ w.heap.size ≤ W.heap.size ∧ Below w.heap.size w W) := fun W h => by
    have hh := kept_new h
    rw [← hr] at hh
    exact ⟨⟨by simp [World.cell?, hh], by simp [World.cell?, hh], by simp [World.cell?, hh]⟩, harg.below (below_new h), (below_new h).size, below_new h⟩
  obtain ⟨⟨c1, c2, c3⟩, harg0, hs0, hbw0⟩ := HR.out _ (Below.refl _ _)
  have HB0 : Hid (Below w.heap.size w (w.alloc (.cells #[.int .i64 m, .string p, .slice a n cap, .string b] 44))) := hbw0
  have HSZ : Hid (WalkF n fs) := hsz
  have HN : Hid (n ≤ maxLen) := hn
  have HARG : Hid (ArgF (w.alloc (.cells #[.int .i64 m, .string p, .slice a n cap, .string b] 44)) w.heap.size a n fs) := harg0
  clear harg hsz harg0 hbw0 hn
  by_cases d1 : L - (p.size : Int) < 0
  · go_enter Tryz.func10, Tryz.ntmps10
    rw [hr] at c1
    go_wp2_with fail
    go_ret
    exact ⟨-1, rfl, by omega, fun h => absurd h (by omega), HB0.out⟩
  · go_enter Tryz.func10, Tryz.ntmps10
    rw [hr] at c1 c2
    go_wp2_with fail
    refine (szFieldS_exact (L - (p.size : Int)) (by omega) (by omega) w.heap.size a n cap fs _ HARG.out hs0 HN.out HSZ.out).mono ?_
    rintro e w1 ⟨x, rfl, hx1, hx2, bb1⟩
    clear c1 c2 c3
    obtain ⟨⟨c1, c2, c3⟩, _, _, hbw1⟩ := HR.out w1 bb1
    rw [← hr]
    clear bb1 hr
    by_cases hx0 : x < 0
    · clear hx2
      go_wp2_with fail
      go_ret
      exact ⟨-1, rfl, by omega, fun h => absurd h (by omega), hbw1⟩
    · obtain ⟨h0, h1, h2⟩ := hx2 (by omega)
      by_cases d2 : x - (b.size : Int) < 0
      · go_wp2_with fail
        go_ret
        exact ⟨-1, rfl, by omega, fun h => absurd h (by omega), hbw1⟩
      · go_wp2_with fail
        go_ret
        exact ⟨_, rfl, by omega, fun _ => ⟨by omega, ⟨by omega, by omega⟩, h1, h2⟩, hbw1⟩

set_option maxHeartbeats 2000000 in
set_option maxRecDepth 100000 in
theorem szResp_room (L : Int) (hL0 : 0 ≤ L) (hL1 : L ≤ 1048576) (m : Int) (a : Option Addr) (n cap : Nat) (b : ByteArray) (fs : List (ByteArray × ByteArray)) (w : World) (harg : ArgF w w.heap.size a n fs) (hn : n ≤ maxLen) (hsz : WalkF n fs) (hb : b.size ≤ maxLen) :
    Calls Tryz.prog 123 #[.agg #[.int .i64 m, .slice a n cap, .string b], .int .i64 L] w fun e w' => SzRespRm L n fs b w e w' := by
  unfold maxLen at hb
  obtain ⟨r, hr⟩ : ∃ r, r = w.heap.size := ⟨_, rfl⟩
  have HR : Hid (∀ W, Below (w.alloc (.cells #[.int .i64 m, .slice a n cap, .string b] 102)).heap.size (w.alloc (.cells #[.int .i64 m, .slice a n cap, .string b] 102)) W → (W.cell? ⟨r, 1, none⟩ = some (.slice a n cap) ∧ W.cell? ⟨r, 2, none⟩ = some (.string b)) ∧ ArgF W w.heap.size a n fs ∧ w.heap.size ≤ W.heap.size ∧ Below w.heap.size w W) := fun W h => by
    have hh := kept_new h
    rw [← hr] at hh
    exact ⟨⟨by simp [World.cell?, hh], by simp [World.cell?, hh]⟩, harg.below (below_new h), (below_new h).size, below_new h⟩
  obtain ⟨⟨c2, c3⟩, harg0, hs0, _⟩ := HR.out _ (Below.refl _ _)
  have HSZ : Hid (WalkF n fs) := hsz
  have HN : Hid (n ≤ maxLen) := hn
  have HARG : Hid (ArgF (w.alloc (.cells #[.int .i64 m, .slice a n cap, .string b] 102)) w.heap.size a n fs) := harg0
  clear harg hsz harg0 hn
  go_enter Tryz.func123, Tryz.ntmps123
  rw [hr] at c2
  go_wp2_with fail
  refine (szFieldS_exact L (by omega) (by omega) w.heap.size a n cap fs _ HARG.out hs0 HN.out HSZ.out).mono ?_
  rintro e w1 ⟨x, rfl, hx1, hx2, bb1⟩
  clear c2 c3
  obtain ⟨⟨c2, c3⟩, _, _, hbw1⟩ := HR.out w1 bb1
  rw [← hr]
  clear bb1 hr
  by_cases hx0 : x < 0
  · clear hx2
    go_wp2_with fail
    go_ret
    exact ⟨-1, rfl, by omega, fun h => absurd h (by omega), hbw1⟩
  · obtain ⟨h0, h1, h2⟩ := hx2 (by omega)
    by_cases d2 : x - (b.size : Int) < 0
    · go_wp2_with fail
      go_ret
      exact ⟨-1, rfl, by omega, fun h => absurd h (by omega), hbw1⟩
    · go_wp2_with fail
      go_ret
      exact ⟨_, rfl, by omega, fun _ => ⟨by omega, by omega, h1, h2⟩, hbw1⟩

set_option maxHeartbeats 1000000 in
theorem markReqFrom_any (m : Int) (p : ByteArray) (v : Value) (b : ByteArray) (n base : Nat) (fs : List (ByteArray × ByteArray)) (w : World) (h1 : w.ownsRow base 132 2 v n (flatF fs)) (hb : base ≤ w.heap.size) (k0 : Nat) (hk0 : 1 ≤ k0) (hn : k0 + 2 * n ≤ 9999999) :
    Calls Tryz.prog 17 #[.agg #[.int .i64 m, .string p, v, .string b], .int .i64 (k0 : Int)] w fun e w' => e = .returned (.int .i64 ((k0 : Int) + 2 * (n : Int))) ∧ w'.ownsRow base 132 2 v n (flatF (mkG k0 fs n)) ∧ Below base w w' ∧ Far v w w' := by
  obtain ⟨oa, ca, rfl⟩ := slice_of_owns h1
  have h2 := h1.alloc (.cells #[.int .i64 m, .string p, .slice oa n ca, .string b] 54)
  have hb2 : Below base w (w.alloc (.cells #[.int .i64 m, .string p, .slice oa n ca, .string b] 54)) := (Below.refl _ w).alloc hb _
  have hs : base ≤ (w.alloc (.cells #[.int .i64 m, .string p, .slice oa n ca, .string b] 54)).heap.size := by simp; omega
  go_enter Tryz.func17, Tryz.ntmps17
  go_wp2_with fail
  refine (markFrom_any _ n base fs _ h2 hs k0 hk0 hn).mono ?_
  rintro e w1 ⟨rfl, ho, bb1, far1⟩
  have hb3 := hb2.trans bb1
  have HO : Hid _ := ho
  have HF : Hid (Far (.slice oa n ca) w w1) := fun j hj hne => (far1 j (by simp; omega) hne).trans (heap_alloc_old w _ hj)
  clear h1 h2 hb2 hs bb1 ho far1
  go_wp2_with fail
  go_ret
  exact ⟨rfl, HO.out, hb3, HF.out⟩

set_option maxHeartbeats 1000000 in
theorem markRespFrom_any (m : Int) (v : Value) (b : ByteArray) (n base : Nat) (fs : List (ByteArray × ByteArray)) (w : World) (h1 : w.ownsRow base 132 2 v n (flatF fs)) (hb : base ≤ w.heap.size) (k0 : Nat) (hk0 : 1 ≤ k0) (hn : k0 + 2 * n ≤ 9999999) :
    Calls Tryz.prog 54 #[.agg #[.int .i64 m, v, .string b], .int .i64 (k0 : Int)] w fun e w' => e = .returned (.int .i64 ((k0 : Int) + 2 * (n : Int))) ∧ w'.ownsRow base 132 2 v n (flatF (mkG k0 fs n)) ∧ Below base w w' ∧ Far v w w' := by
  obtain ⟨oa, ca, rfl⟩ := slice_of_owns h1
  have h2 := h1.alloc (.cells #[.int .i64 m, .slice oa n ca, .string b] 48)
  have hb2 : Below base w (w.alloc (.cells #[.int .i64 m, .slice oa n ca, .string b] 48)) := (Below.refl _ w).alloc hb _
  have hs : base ≤ (w.alloc (.cells #[.int .i64 m, .slice oa n ca, .string b] 48)).heap.size := by simp; omega
  go_enter Tryz.func54, Tryz.ntmps54
  go_wp2_with fail
  refine (markFrom_any _ n base fs _ h2 hs k0 hk0 hn).mono ?_
  rintro e w1 ⟨rfl, ho, bb1, far1⟩
  have hb3 := hb2.trans bb1
  have HO : Hid _ := ho
  have HF : Hid (Far (.slice oa n ca) w w1) := fun j hj hne => (far1 j (by simp; omega) hne).trans (heap_alloc_old w _ hj)
  clear h1 h2 hb2 hs bb1 ho far1
  go_wp2_with fail
  go_ret
  exact ⟨rfl, HO.out, hb3, HF.out⟩

set_option maxHeartbeats 1000000 in
theorem heldRespFrom_any (m : Int) (v : Value) (b : ByteArray) (n base : Nat) (fs : List (ByteArray × ByteArray)) (w : World) (h1 : w.ownsRow base 132 2 v n (flatF fs)) (k0 : Nat) (hk0 : 1 ≤ k0) (hn : k0 + 2 * n ≤ 9999999) (hm : ∀ j, j < n → nameAt fs j = markOf (k0 + 2 * j) ∧ valAt fs j = markOf (k0 + 2 * j + 1)) :
    Calls Tryz.prog 56 #[.agg #[.int .i64 m, v, .string b], .int .i64 (k0 : Int)] w fun e w' => e = .returned (.int .i64 ((k0 : Int) + 2 * (n : Int))) ∧ Below w.heap.size w w' := by
  obtain ⟨oa, ca, rfl⟩ := slice_of_owns h1
  have h2 := h1.alloc (.cells #[.int .i64 m, .slice oa n ca, .string b] 48)
  have hb2 : Below w.heap.size w (w.alloc (.cells #[.int .i64 m, .slice oa n ca, .string b] 48)) := (Below.refl _ w).alloc (Nat.le_refl _) _
  have hk2 : ¬ ((k0 : Int) + 2 * (n : Int) < 0) := by omega
  have HM : Hid (∀ j, j < n → nameAt fs j = markOf (k0 + 2 * j) ∧ valAt fs j = markOf (k0 + 2 * j + 1)) := hm
  clear hm
  go_enter Tryz.func56, Tryz.ntmps56
  go_wp2_with fail
  refine (heldFrom_any _ n base fs _ h2 k0 hk0 hn HM.out).mono ?_
  rintro e w1 ⟨rfl, bb1⟩
  have hb3 := hb2.trans (bb1.mono hb2.size)
  clear h1 h2 hb2 bb1
  go_wp2_with fail
  go_ret
  exact ⟨rfl, hb3⟩

/-- A block's content behind a call. -/
theorem blk_below {W W' : World} {r : Nat} {o : Obj} (h : W.heap[r]? = some o) (b : Below W.heap.size W W') : W'.heap[r]? = some o := by
  rw [b.block r (Array.getElem?_eq_some_iff.1 h).1]; exact h
theorem blk_alloc {W : World} {r : Nat} {o : Obj} (h : W.heap[r]? = some o) (x : Obj) : (W.alloc x).heap[r]? = some o := by
  rw [Below.heap_alloc _ _ _ (Array.getElem?_eq_some_iff.1 h).1]; exact h
theorem own_ne {W : World} {r : Nat} {cs : Array Value} {T t : TypeId} {base size n : Nat} {v : Value} {xs : List Value} (ho : W.ownsRow base t size v n xs) (h : W.heap[r]? = some (.cells cs T)) (hT : T ≠ t) (j : Nat) (hj : v.ownBlock = some j) : j ≠ r := fun e => by
  subst e
  rcases ho.2 with ⟨rfl, _⟩ | ⟨g, cap, cur, rfl, _, h1, _⟩
  · cases hj
  · cases hj
    rw [h] at h1
    cases h1
    exact hT rfl
/-- A block of another type is no row of this one. -/
theorem blk_far {W W' : World} {r : Nat} {cs : Array Value} {T t : TypeId} {base size n : Nat} {v : Value} {xs : List Value} (h : W.heap[r]? = some (.cells cs T)) (far : Far v W W') (ho : W.ownsRow base t size v n xs) (hT : T ≠ t) : W'.heap[r]? = some (.cells cs T) := by
  rw [far r (Array.getElem?_eq_some_iff.1 h).1 (fun e => ?_)]
  · exact h
  · rcases ho.2 with ⟨rfl, _⟩ | ⟨g, cap, cur, rfl, _, h1, _⟩
    · cases e
    · cases e
      rw [h] at h1
      cases h1
      exact hT rfl

end Go.Proofs.YtcipbkkpkhameaaGreat

namespace Go.Proofs.YtcipbkkpkhameaaGreat
open Go.RowKit
open Go.Lib hiding intOf

theorem cell_of {W : World} {R : Nat} {cs : Array Value} {t : TypeId} (h : W.heap[R]? = some (.cells cs t)) (i : Nat) : W.cell? ⟨R, i, none⟩ = cs[i]? := by simp [World.cell?, h]
theorem frozen_of {W : World} {R : Nat} {cs : Array Value} {t : TypeId} (h : W.heap[R]? = some (.cells cs t)) (i : Nat) : W.frozen? ⟨R, i, none⟩ = false := by simp [World.frozen?, h]
/-- Rows of two types lie apart. -/
theorem own_type_ne {W : World} {b1 b2 z1 z2 n1 n2 : Nat} {t1 t2 : TypeId} {v1 v2 : Value} {xs ys : List Value} (h1 : W.ownsRow b1 t1 z1 v1 n1 xs) (h2 : W.ownsRow b2 t2 z2 v2 n2 ys) (ht : t1 ≠ t2) (j : Nat) (hj : v1.ownBlock = some j) : v2.ownBlock ≠ some j := fun e => by
  rcases h1.2 with ⟨rfl, _⟩ | ⟨g, cap, cur, rfl, _, k1, _⟩
  · cases hj
  · cases hj
    rcases h2.2 with ⟨rfl, _⟩ | ⟨g2, cap2, cur2, rfl, _, k2, _⟩
    · cases e
    · cases e
      rw [k1] at k2
      cases k2
      exact ht rfl
/-- The measure is negative, or it says that the list and what is left fit into L. -/
def SzTx (L : Int) (n : Nat) (xs : List ByteArray) (w : World) (e : Ending) (w' : World) : Prop :=
  ∃ r : Int, e = .returned (.int .i64 r) ∧ r ≤ L ∧ (0 ≤ r → r + (n : Int) ≤ L ∧ n ≤ 1048576 ∧ ∀ i, i < n → (textAt xs i).size ≤ 1048576) ∧ Below w.heap.size w w'

set_option maxHeartbeats 1000000 in
theorem szStringS_exact (L : Int) (hL0 : 0 ≤ L) (hL1 : L ≤ 1048576) (B : Nat) (a : Option Addr) (n cap : Nat) (xs : List ByteArray) (w : World) (harg : ArgT w B a n xs) (hB : B ≤ w.heap.size) (hn : n ≤ maxLen) (hsz : ∀ i, i < n → (textAt xs i).size ≤ maxLen) :
    Calls Tryz.prog 57 #[.slice a n cap, .int .i64 L] w fun e w' => SzTx L n xs w e w' := by
  unfold maxLen at hn
  have HS : Hid (∀ i, i < n → (textAt xs i).size ≤ maxLen) := hsz
  have HA : Hid (∀ W, Below w.heap.size w W → ArgT W B a n xs) := fun W h => harg.below (h.mono hB)
  clear hsz harg
  by_cases c1 : L - (n : Int) < 0
  · go_enter Tryz.func57, Tryz.ntmps57
    go_wp2
    go_ret
    exact ⟨-1, rfl, by omega, fun h => absurd h (by omega), Below.refl _ _⟩
  · go_enter Tryz.func57, Tryz.ntmps57
    go_wp2
    go_loopw [1, 5] (fun l i wr => ∃ (k : Nat) (x : Int), k ≤ n ∧ i = .int .i64 (k : Int) ∧ l = .int .i64 x ∧ 0 ≤ x ∧ x + (n : Int) ≤ L ∧ Hid (∀ j, j < k → (textAt xs j).size ≤ 1048576) ∧ Below w.heap.size w wr) (fun _ i _ => n - (intOf i).toNat)
    case atStart => exact ⟨0, _, Nat.zero_le _, rfl, rfl, by omega, by omega, fun j hj => absurd hj (by omega), Below.refl _ _⟩
    case round =>
      obtain ⟨k, x, hk, rfl, rfl, hx0, hx1, HX, hbw⟩ := hrel
      by_cases hlt : k < n
      · have hlt2 : (k : Int) < (n : Int) := by omega
        obtain ⟨b, off, rfl, hbB, hc1⟩ := (HA.out wr hbw).get k hlt
        have s1 := HS.out k hlt
        obtain ⟨t, ht⟩ : ∃ y, y = textAt xs k := ⟨_, rfl⟩
        rw [← ht] at hc1 s1
        unfold maxLen at s1
        by_cases d1 : x - (t.size : Int) < 0
        · clear ht
          go_wp2
          go_ret
          exact ⟨-1, rfl, by omega, fun h => absurd h (by omega), hbw⟩
        · have HX2 : Hid (∀ j, j < k + 1 → (textAt xs j).size ≤ 1048576) := by
            intro j hj
            by_cases e : j = k
            · rw [e, ← ht]; omega
            · exact HX.out j (by omega)
          clear ht
          go_wp2
          go_roundw
          case rel => exact ⟨k + 1, x - (t.size : Int), by omega, by go_num, by go_num, by omega, by omega, HX2, hbw⟩
          case measure => simp [intOf]; omega
      · have hF : Hid (n ≤ 1048576 ∧ ∀ i, i < n → (textAt xs i).size ≤ 1048576) := ⟨by omega, fun i hi => HX.out i (by omega)⟩
        go_wp2
        go_ret
        exact ⟨x, rfl, by omega, fun _ => ⟨hx1, hF.out⟩, hbw⟩


/-- A row whose block lies from there on is owned from there on. -/
theorem owns_lift {w : World} {B base : Nat} {e : TypeId} {size : Nat} {v : Value} {n : Nat} {xs : List Value} (h : w.ownsRow base e size v n xs) (hB : ∀ g, v.ownBlock = some g → B ≤ g) : w.ownsRow B e size v n xs := by
  refine ⟨h.1, ?_⟩
  rcases h.2 with h0 | ⟨g, cap, cur, rfl, _, h1⟩
  · exact .inl h0
  · exact .inr ⟨g, cap, cur, rfl, hB g rfl, h1⟩
def mkT (k0 : Nat) (xs : List ByteArray) : Nat → List ByteArray
  | 0 => xs
  | i + 1 => (mkT k0 xs i).set i (markOf (k0 + i))
theorem mkT_len (k0 : Nat) (xs : List ByteArray) : ∀ i, (mkT k0 xs i).length = xs.length
  | 0 => rfl
  | i + 1 => by rw [mkT, List.length_set, mkT_len k0 xs i]
theorem mkT_at (k0 : Nat) (xs : List ByteArray) (j : Nat) (hj : j < xs.length) : ∀ i, j < i → textAt (mkT k0 xs i) j = markOf (k0 + j) := by
  intro i
  induction i with
  | zero => intro h; omega
  | succ i ih =>
    intro h
    unfold textAt
    rw [mkT]
    by_cases e : i = j
    · subst e
      rw [List.getD_eq_getElem?_getD, List.getElem?_set_self (by rw [mkT_len]; exact hj)]
      rfl
    · rw [List.getD_eq_getElem?_getD, List.getElem?_set_ne (by exact e), ← List.getD_eq_getElem?_getD]
      exact ih (by omega)

set_option maxHeartbeats 1000000 in
theorem markTFrom_any (v : Value) (n base : Nat) (xs : List ByteArray) (w : World) (h1 : w.ownsRow base 9 1 v n (xs.map Value.string)) (hb : base ≤ w.heap.size) (k0 : Nat) (hk0 : 1 ≤ k0) (hn : k0 + n ≤ 9999998) :
    Calls Tryz.prog 53 #[v, .int .i64 (k0 : Int)] w fun e w' => e = .returned (.int .i64 ((k0 : Int) + (n : Int))) ∧ w'.ownsRow base 9 1 v n ((mkT k0 xs n).map Value.string) ∧ Below base w w' ∧ Far v w w' := by
  rcases row_form h1 with ⟨oa, ca, rfl, rfl, rfl⟩ | ⟨g, cap, rfl, hp, r1⟩
  · go_enter Tryz.func53, Tryz.ntmps53
    go_wp2
    refine wp_loop_rounds 1 ?_
    rw [rounds_succ]
    go_wp2
    go_ret
    exact ⟨by simp, h1, Below.refl _ _, fun _ _ _ => rfl⟩
  · clear h1
    have HR1 : Hid (TextRow base w g n cap xs) := r1
    clear r1
    go_enter Tryz.func53, Tryz.ntmps53
    go_wp2
    go_loopw [1, 5] (fun k i wr => ∃ j : Nat, j ≤ n ∧ i = .int .i64 (j : Int) ∧ k = .int .i64 ((k0 : Int) + (j : Int)) ∧ Hid (w.grownBy wr (some g)) ∧ Hid (TextRow base wr g n cap (mkT k0 xs j))) (fun _ i _ => n - (intOf i).toNat)
    case atStart => exact ⟨0, Nat.zero_le _, rfl, by simp, World.grownBy.refl _ _, HR1⟩
    case round =>
      obtain ⟨j, hj, rfl, rfl, HG, HR⟩ := hrel
      by_cases hlt : j < n
      · have hlt2 : (j : Int) < (n : Int) := by omega
        go_wp2_with fail
        refine (markText_int _ (k0 + j) _ (by omega) (by omega) (by omega)).mono ?_
        rintro e w1 ⟨rfl, hb1⟩
        have hrow1 := HR.out.below hb1 HR.out.lt
        have hc := hrow1.cell j hlt
        have hf := hrow1.frozen j
        have HG2 : Hid (w.grownBy (w1.setCell ⟨g, j, none⟩ (.string (markOf (k0 + j)))) (some g)) := by
          have h0 := HG.out
          refine ⟨hb1.os.trans h0.os, hb1.tape.trans h0.tape, hb1.output.trans h0.output, by rw [World.size_setCell]; exact Nat.le_trans h0.size hb1.size, fun i hi hne => ?_⟩
          rw [heap_setCell_other _ _ i _ (fun e => hne (by rw [e]))]
          exact (hb1.block i (Nat.lt_of_lt_of_le hi h0.size)).trans (h0.block i hi hne)
        have HR2 : Hid (TextRow base (w1.setCell ⟨g, j, none⟩ (.string (markOf (k0 + j)))) g n cap (mkT k0 xs (j + 1))) := hrow1.set j hlt _
        clear hb1 HG HR hrow1
        go_wp2
        go_roundw
        case rel => exact ⟨j + 1, by omega, by go_num, by go_num, HG2, HR2⟩
        case measure => simp [intOf]; omega
      · obtain rfl : j = n := by omega
        go_wp2
        go_ret
        have hg := HG.out
        exact ⟨rfl, HR.out.owns, ⟨hg.os, hg.tape, hg.output, hg.size, fun i hi => hg.block i (Nat.lt_of_lt_of_le hi hb) (fun e => by have := HR.out.base; cases e; omega)⟩, fun i hi hne => hg.block i hi (fun e => hne e.symm)⟩

set_option maxHeartbeats 1000000 in
theorem heldTFrom_any (v : Value) (n base : Nat) (xs : List ByteArray) (w : World) (h1 : w.ownsRow base 9 1 v n (xs.map Value.string)) (k0 : Nat) (hk0 : 1 ≤ k0) (hn : k0 + n ≤ 9999998) (hm : ∀ j, j < n → textAt xs j = markOf (k0 + j)) :
    Calls Tryz.prog 55 #[v, .int .i64 (k0 : Int)] w fun e w' => e = .returned (.int .i64 ((k0 : Int) + (n : Int))) ∧ Below w.heap.size w w' := by
  rcases row_form h1 with ⟨oa, ca, rfl, rfl, rfl⟩ | ⟨g, cap, rfl, hp, r1⟩
  · clear hm
    go_enter Tryz.func55, Tryz.ntmps55
    go_wp2
    refine wp_loop_rounds 1 ?_
    rw [rounds_succ]
    go_wp2
    go_ret
    exact ⟨by simp, Below.refl _ _⟩
  · clear h1
    have HM : Hid (∀ j, j < n → textAt xs j = markOf (k0 + j)) := hm
    clear hm
    go_enter Tryz.func55, Tryz.ntmps55
    go_wp2
    go_loopw [1, 5] (fun k i wr => ∃ j : Nat, j ≤ n ∧ i = .int .i64 (j : Int) ∧ k = .int .i64 ((k0 : Int) + (j : Int)) ∧ Below w.heap.size w wr) (fun _ i _ => n - (intOf i).toNat)
    case atStart => exact ⟨0, Nat.zero_le _, rfl, by simp, Below.refl _ _⟩
    case round =>
      obtain ⟨j, hj, rfl, rfl, hbw⟩ := hrel
      by_cases hlt : j < n
      · have hlt2 : (j : Int) < (n : Int) := by omega
        have hc : wr.cell? ⟨g, j, none⟩ = some (.string (markOf (k0 + j))) := by
          rw [← HM.out j hlt]; exact (r1.below hbw r1.lt).cell j hlt
        have hall : ∀ w1, Below wr.heap.size wr w1 → w1.cell? ⟨g, j, none⟩ = some (.string (markOf (k0 + j))) := fun w1 h => by
          rw [h.cell (p := ⟨g, j, none⟩) (by have := hbw.size; have := r1.lt; show g < _; omega)]; exact hc
        have HA : Hid _ := hall
        clear hall
        go_wp2
        go_region_with (go_at_call 95; refine (markText_int _ (k0 + j) _ (by omega) (by omega) (by omega)).mono ?_; rintro e w1 ⟨rfl, hb1⟩; have hc1 := HA.out w1 (((Below.refl _ wr).drew).trans hb1))
        all_goals
          go_wp2
          go_roundw
          case rel => exact ⟨j + 1, by omega, by go_num, by go_num, (hbw.drew).trans (hb1.mono hbw.size)⟩
          case measure => simp [intOf]; omega
      · obtain rfl : j = n := by omega
        go_wp2
        go_ret
        exact ⟨rfl, hbw⟩

end Go.Proofs.YtcipbkkpkhameaaGreat

namespace Go.Proofs.YtcipbkkpkhameaaGreat
open Go.RowKit
open Go.Lib hiding intOf

/-- What is kept, as it is told. -/
structure KpD where
  p : ByteArray
  xs : List ByteArray
  ys : List ByteArray
  st : Int
  fs : List (ByteArray × ByteArray)
  b : ByteArray
  t : Int
  a : Int
  q : Int
/-- Its nine cells; the three slices beside it. -/
def kpC (x : KpD × Value × Value × Value) : List Value := [.string x.1.p, x.2.1, x.2.2.1, .int .i64 x.1.st, x.2.2.2, .string x.1.b, .int .i64 x.1.t, .int .i64 x.1.a, .int .i64 x.1.q]
theorem kpC_len (x : KpD × Value × Value × Value) : (kpC x).length = 9 := rfl
def kpN (x : KpD × Value × Value × Value) : Rw := ⟨9, 1, x.2.1, x.1.xs.length, x.1.xs.map Value.string⟩
def kpV (x : KpD × Value × Value × Value) : Rw := ⟨9, 1, x.2.2.1, x.1.ys.length, x.1.ys.map Value.string⟩
def kpF (x : KpD × Value × Value × Value) : Rw := ⟨132, 2, x.2.2.2, x.1.fs.length, flatF x.1.fs⟩
def kpR (x : KpD × Value × Value × Value) : List Rw := [kpN x, kpV x, kpF x]
def kpRow (V : Value) (kv : List (KpD × Value × Value × Value)) : Rw := ⟨71, 9, V, kv.length, kv.flatMap kpC⟩
/-- A list of what is kept: its row, and all rows in it. -/
def kpAll (V : Value) (kv : List (KpD × Value × Value × Value)) : List Rw := kpRow V kv :: kv.flatMap kpR
def KeptsO (w : World) (base : Nat) (V : Value) (kv : List (KpD × Value × Value × Value)) : Prop := RowsO w base (kpAll V kv)
theorem KeptsO.row {w : World} {base : Nat} {V : Value} {kv : List (KpD × Value × Value × Value)} (h : KeptsO w base V kv) : w.ownsRow base 71 9 V kv.length (kv.flatMap kpC) := h.own (kpRow V kv) (by simp [kpAll])
theorem KeptsO.names {w : World} {base : Nat} {V : Value} {kv : List (KpD × Value × Value × Value)} (h : KeptsO w base V kv) {x : KpD × Value × Value × Value} (hx : x ∈ kv) : w.ownsRow base 9 1 x.2.1 x.1.xs.length (x.1.xs.map Value.string) := h.own (kpN x) (List.mem_cons_of_mem _ (List.mem_flatMap.2 ⟨x, hx, by simp [kpR]⟩))
theorem KeptsO.vals {w : World} {base : Nat} {V : Value} {kv : List (KpD × Value × Value × Value)} (h : KeptsO w base V kv) {x : KpD × Value × Value × Value} (hx : x ∈ kv) : w.ownsRow base 9 1 x.2.2.1 x.1.ys.length (x.1.ys.map Value.string) := h.own (kpV x) (List.mem_cons_of_mem _ (List.mem_flatMap.2 ⟨x, hx, by simp [kpR]⟩))
theorem KeptsO.flds {w : World} {base : Nat} {V : Value} {kv : List (KpD × Value × Value × Value)} (h : KeptsO w base V kv) {x : KpD × Value × Value × Value} (hx : x ∈ kv) : w.ownsRow base 132 2 x.2.2.2 x.1.fs.length (flatF x.1.fs) := h.own (kpF x) (List.mem_cons_of_mem _ (List.mem_flatMap.2 ⟨x, hx, by simp [kpR]⟩))
theorem KeptsO.below {w w' : World} {base : Nat} {V : Value} {kv : List (KpD × Value × Value × Value)} (h : KeptsO w base V kv) (hb : Below w.heap.size w w') : KeptsO w' base V kv := RowsO.below h hb
/-- One of the list, cell by cell. -/
structure KpAt (w : World) (g i : Nat) (x : KpD × Value × Value × Value) : Prop where
  c0 : w.cell? ⟨g, i * 9, none⟩ = some (.string x.1.p)
  c1 : w.cell? ⟨g, i * 9 + 1, none⟩ = some x.2.1
  c2 : w.cell? ⟨g, i * 9 + 2, none⟩ = some x.2.2.1
  c3 : w.cell? ⟨g, i * 9 + 3, none⟩ = some (.int .i64 x.1.st)
  c4 : w.cell? ⟨g, i * 9 + 4, none⟩ = some x.2.2.2
  c5 : w.cell? ⟨g, i * 9 + 5, none⟩ = some (.string x.1.b)
  c6 : w.cell? ⟨g, i * 9 + 6, none⟩ = some (.int .i64 x.1.t)
  c7 : w.cell? ⟨g, i * 9 + 7, none⟩ = some (.int .i64 x.1.a)
  c8 : w.cell? ⟨g, i * 9 + 8, none⟩ = some (.int .i64 x.1.q)
theorem KeptsO.at {w : World} {base : Nat} {V : Value} {kv : List (KpD × Value × Value × Value)} (h : KeptsO w base V kv) (i : Nat) (hi : i < kv.length) : ∃ g cap, V = .slice (some ⟨g, 0, none⟩) kv.length cap ∧ g < w.heap.size ∧ KpAt w g i (kv[i]'hi) := by
  have hr := h.row
  rcases hr.2 with ⟨_, h0⟩ | ⟨g, cap, cur, rfl, _, h1, _⟩
  · omega
  · have key : ∀ j, j < 9 → ∀ u, (kpC (kv[i]'hi))[j]? = some u → w.cell? ⟨g, i * 9 + j, none⟩ = some u := fun j hj u hu => (owns_cellC hr (i * 9 + j) u (by rw [items_at kpC 9 kpC_len kv i j hi hj]; exact hu)).1
    exact ⟨g, cap, rfl, (Array.getElem?_eq_some_iff.1 h1).1, ⟨key 0 (by decide) _ rfl, key 1 (by decide) _ rfl, key 2 (by decide) _ rfl, key 3 (by decide) _ rfl, key 4 (by decide) _ rfl, key 5 (by decide) _ rfl, key 6 (by decide) _ rfl, key 7 (by decide) _ rfl, key 8 (by decide) _ rfl⟩⟩
theorem KeptsO.len {w : World} {base : Nat} {V : Value} {kv : List (KpD × Value × Value × Value)} (h : KeptsO w base V kv) : ∃ oa cp, V = .slice oa kv.length cp := slice_of_owns h.row
end Go.Proofs.YtcipbkkpkhameaaGreat

namespace Go.Proofs.YtcipbkkpkhameaaGreat
open Go.RowKit
open Go.Lib hiding intOf

set_option maxHeartbeats 8000000 in
set_option maxRecDepth 100000 in
theorem toWrite_any (y0 : Int) (y1 : ByteArray) (w : World) :
    Calls Tryz.prog 104 #[.agg #[.int .i64 y0, .string y1]] w fun e w' => e = .returned (.agg #[.int .i64 y0, .string y1]) ∧ Below w.heap.size w w' := by
  have hb0 : Below w.heap.size w w := Below.refl _ _
  go_enter Tryz.func104, Tryz.ntmps104
  go_upto_region 1 with fail
  obtain ⟨qv1, hqv1⟩ : ∃ q, q = (w).heap.size := ⟨_, rfl⟩
  obtain ⟨w1, hW1⟩ : ∃ W, W = (w).alloc (.cells #[.int .i64 y0, .string y1] 144) := ⟨_, rfl⟩
  have hz1 : (w).heap.size = qv1 := hqv1.symm
  first | rw [← hW1, ← hqv1] | rw [← hW1]
  have hs1 : w1.heap.size = qv1 + 1 := by rw [hW1, ← hz1]; simp
  have bw : Below (w).heap.size (w) w1 := by rw [hW1]; exact (Below.refl _ _).alloc (Nat.le_refl _) _
  have hb1 := hbt hb0 bw
  have HBv1_1 : Hid ((w1).heap[qv1]? = some (.cells #[.int .i64 y0, .string y1] 144)) := by show _ = _; rw [hW1, ← hz1]; exact heap_alloc_new _ _
  clear hb0 bw hW1 hz1
  obtain ⟨qv2, hqv2⟩ : ∃ q, q = qv1 + 1 := ⟨_, rfl⟩
  obtain ⟨w2, hW2⟩ : ∃ W, W = (w1).alloc (.cells #[.int .i64 0, .string ⟨#[]⟩] 110) := ⟨_, rfl⟩
  have hz2 : (w1).heap.size = qv2 := by rw [hqv2]; exact hs1
  first | rw [← hW2, ← hqv2] | rw [← hW2]
  have hs2 : w2.heap.size = qv2 + 1 := by rw [hW2, ← hz2]; simp
  have bw : Below (w1).heap.size (w1) w2 := by rw [hW2]; exact (Below.refl _ _).alloc (Nat.le_refl _) _
  have hb2 := hbt hb1 bw
  have HBv1_2 := hblk HBv1_1 bw
  have HNv1v2 : Hid (qv1 ≠ qv2) := fun e => by have h1 := (Array.getElem?_eq_some_iff.1 HBv1_1.out).1; omega
  have HBv2_2 : Hid ((w2).heap[qv2]? = some (.cells #[.int .i64 0, .string ⟨#[]⟩] 110)) := by show _ = _; rw [hW2, ← hz2]; exact heap_alloc_new _ _
  have HGv2 : Hid (w.heap.size ≤ qv2) := by show _ ≤ _; rw [← hz2]; exact hb1.size
  clear hb1 HBv1_1 bw hW2 hz2
  clear hs2 hqv2 hs1 hqv1
  go_upto_region 2 with fail
  obtain ⟨qv3, hqv3⟩ : ∃ q, q = (w2).heap.size := ⟨_, rfl⟩
  obtain ⟨w3, hW3⟩ : ∃ W, W = (w2).alloc (.cells #[.int .i64 0, .string ⟨#[]⟩] 110) := ⟨_, rfl⟩
  have hz3 : (w2).heap.size = qv3 := hqv3.symm
  first | rw [← hW3, ← hqv3] | rw [← hW3]
  have hs3 : w3.heap.size = qv3 + 1 := by rw [hW3, ← hz3]; simp
  have bw : Below (w2).heap.size (w2) w3 := by rw [hW3]; exact (Below.refl _ _).alloc (Nat.le_refl _) _
  have hb3 := hbt hb2 bw
  have HBv1_3 := hblk HBv1_2 bw
  have HBv2_3 := hblk HBv2_2 bw
  have HNv1v3 : Hid (qv1 ≠ qv3) := fun e => by have h1 := (Array.getElem?_eq_some_iff.1 HBv1_2.out).1; omega
  have HNv2v3 : Hid (qv2 ≠ qv3) := fun e => by have h1 := (Array.getElem?_eq_some_iff.1 HBv2_2.out).1; omega
  have HBv3_3 : Hid ((w3).heap[qv3]? = some (.cells #[.int .i64 0, .string ⟨#[]⟩] 110)) := by show _ = _; rw [hW3, ← hz3]; exact heap_alloc_new _ _
  have HGv3 : Hid (w.heap.size ≤ qv3) := by show _ ≤ _; rw [← hz3]; exact hb2.size
  clear hb2 HBv1_2 HBv2_2 bw hW3 hz3
  clear hs3 hqv3
  have cv1_0 : (w3).cell? ⟨qv1, 0, none⟩ = some (.int .i64 y0) := (cell_of HBv1_3.out 0).trans rfl
  have cv3_0 : (w3).cell? ⟨qv3, 0, none⟩ = some (.int .i64 0) := (cell_of HBv3_3.out 0).trans rfl
  have fcv3_0 : (w3).frozen? ⟨qv3, 0, none⟩ = false := frozen_of HBv3_3.out 0
  go_upto_region 3 with fail
  obtain ⟨w4, hW4⟩ : ∃ W, W = (w3).setCell ⟨qv3, 0, none⟩ (.int .i64 y0) := ⟨_, rfl⟩
  rw [← hW4]
  have hb4 : Below w.heap.size w (w4) := by rw [hW4]; exact (hb3.setCell (p := ⟨qv3, 0, none⟩) HGv3.out _)
  have HBv1_4 := hset hW4 HNv1v3.out HBv1_3
  have HBv2_4 := hset hW4 HNv2v3.out HBv2_3
  have HBv3_4 : Hid ((w4).heap[qv3]? = some (.cells #[.int .i64 y0, .string ⟨#[]⟩] 110)) := by show _ = _; rw [hW4]; have h := heap_set _ _ 0 _ _ _ (.int .i64 y0) HBv3_3.out; simpa using h
  clear hb3 HBv1_3 HBv2_3 HBv3_3 hW4
  clear cv1_0 cv3_0 fcv3_0
  have cv1_1 : (w4).cell? ⟨qv1, 1, none⟩ = some (.string y1) := (cell_of HBv1_4.out 1).trans rfl
  have cv3_1 : (w4).cell? ⟨qv3, 1, none⟩ = some (.string ⟨#[]⟩) := (cell_of HBv3_4.out 1).trans rfl
  have fcv3_1 : (w4).frozen? ⟨qv3, 1, none⟩ = false := frozen_of HBv3_4.out 1
  go_upto_region 4 with fail
  obtain ⟨w5, hW5⟩ : ∃ W, W = (w4).setCell ⟨qv3, 1, none⟩ (.string y1) := ⟨_, rfl⟩
  rw [← hW5]
  have hb5 : Below w.heap.size w (w5) := by rw [hW5]; exact (hb4.setCell (p := ⟨qv3, 1, none⟩) HGv3.out _)
  have HBv1_5 := hset hW5 HNv1v3.out HBv1_4
  have HBv2_5 := hset hW5 HNv2v3.out HBv2_4
  have HBv3_5 : Hid ((w5).heap[qv3]? = some (.cells #[.int .i64 y0, .string y1] 110)) := by show _ = _; rw [hW5]; have h := heap_set _ _ 1 _ _ _ (.string y1) HBv3_4.out; simpa using h
  clear hb4 HBv1_4 HBv2_4 HBv3_4 hW5
  clear cv1_1 cv3_1 fcv3_1
  have cv2_0 : (w5).cell? ⟨qv2, 0, none⟩ = some (.int .i64 0) := (cell_of HBv2_5.out 0).trans rfl
  have fcv2_0 : (w5).frozen? ⟨qv2, 0, none⟩ = false := frozen_of HBv2_5.out 0
  have cv2_1 : (w5).cell? ⟨qv2, 1, none⟩ = some (.string ⟨#[]⟩) := (cell_of HBv2_5.out 1).trans rfl
  have fcv2_1 : (w5).frozen? ⟨qv2, 1, none⟩ = false := frozen_of HBv2_5.out 1
  have cv3_0 : (w5).cell? ⟨qv3, 0, none⟩ = some (.int .i64 y0) := (cell_of HBv3_5.out 0).trans rfl
  have cv3_1 : (w5).cell? ⟨qv3, 1, none⟩ = some (.string y1) := (cell_of HBv3_5.out 1).trans rfl
  go_wp2_with fail
  obtain ⟨w6, hW6⟩ : ∃ W, W = (w5).setCell ⟨qv2, 0, none⟩ (.int .i64 y0) := ⟨_, rfl⟩
  rw [← hW6]
  have hb6 : Below w.heap.size w (w6) := by rw [hW6]; exact (hb5.setCell (p := ⟨qv2, 0, none⟩) HGv2.out _)
  have HBv1_6 := hset hW6 HNv1v2.out HBv1_5
  have HBv3_6 := hset hW6 HNv2v3.out.symm HBv3_5
  have HBv2_6 : Hid ((w6).heap[qv2]? = some (.cells #[.int .i64 y0, .string ⟨#[]⟩] 110)) := by show _ = _; rw [hW6]; have h := heap_set _ _ 0 _ _ _ (.int .i64 y0) HBv2_5.out; simpa using h
  clear hb5 HBv1_5 HBv2_5 HBv3_5 hW6
  obtain ⟨w7, hW7⟩ : ∃ W, W = (w6).setCell ⟨qv2, 1, none⟩ (.string y1) := ⟨_, rfl⟩
  rw [← hW7]
  have hb7 : Below w.heap.size w (w7) := by rw [hW7]; exact (hb6.setCell (p := ⟨qv2, 1, none⟩) HGv2.out _)
  have HBv1_7 := hset hW7 HNv1v2.out HBv1_6
  have HBv3_7 := hset hW7 HNv2v3.out.symm HBv3_6
  have HBv2_7 : Hid ((w7).heap[qv2]? = some (.cells #[.int .i64 y0, .string y1] 110)) := by show _ = _; rw [hW7]; have h := heap_set _ _ 1 _ _ _ (.string y1) HBv2_6.out; simpa using h
  clear hb6 HBv1_6 HBv2_6 HBv3_6 hW7
  have kv2_0 : (w7).cell? ⟨qv2, 0, none⟩ = some (.int .i64 y0) := (cell_of HBv2_7.out 0).trans rfl
  have kv2_1 : (w7).cell? ⟨qv2, 1, none⟩ = some (.string y1) := (cell_of HBv2_7.out 1).trans rfl
  refine bodyPost_ret (v := .agg #[.int .i64 y0, .string y1]) (by simp [results, Tryz.results104, go_sem, kv2_0, kv2_1]) rfl ?_
  exact ⟨rfl, hb7⟩

/-- The measure: negative, or the room that is left of L. -/
def SzWrite (L : Int) (y1 : ByteArray) (w : World) (e : Ending) (w' : World) : Prop := ∃ r : Int, e = .returned (.int .i64 r) ∧ r ≤ L ∧ (0 ≤ r → y1.size ≤ 1048576) ∧ Below w.heap.size w w'
set_option maxHeartbeats 8000000 in
set_option maxRecDepth 100000 in
theorem szWrite_any (L : Int) (hL0 : 0 ≤ L) (hL1 : L ≤ 1048576) (y0 : Int) (y1 : ByteArray) (w : World) (hy1 : y1.size ≤ maxLen) :
    Calls Tryz.prog 97 #[.agg #[.int .i64 y0, .string y1], .int .i64 L] w fun e w' => SzWrite L y1 w e w' := by
  unfold maxLen at hy1
  have hb0 : Below w.heap.size w w := Below.refl _ _
  go_enter Tryz.func97, Tryz.ntmps97
  go_upto_region 1 with fail
  obtain ⟨qv1, hqv1⟩ : ∃ q, q = (w).heap.size := ⟨_, rfl⟩
  obtain ⟨w1, hW1⟩ : ∃ W, W = (w).alloc (.cells #[.int .i64 y0, .string y1] 144) := ⟨_, rfl⟩
  have hz1 : (w).heap.size = qv1 := hqv1.symm
  first | rw [← hW1, ← hqv1] | rw [← hW1]
  have hs1 : w1.heap.size = qv1 + 1 := by rw [hW1, ← hz1]; simp
  have bw : Below (w).heap.size (w) w1 := by rw [hW1]; exact (Below.refl _ _).alloc (Nat.le_refl _) _
  have hb1 := hbt hb0 bw
  have HBv1_1 : Hid ((w1).heap[qv1]? = some (.cells #[.int .i64 y0, .string y1] 144)) := by show _ = _; rw [hW1, ← hz1]; exact heap_alloc_new _ _
  clear hb0 bw hW1 hz1
  clear hs1 hqv1
  have cv1_1 : (w1).cell? ⟨qv1, 1, none⟩ = some (.string y1) := (cell_of HBv1_1.out 1).trans rfl
  by_cases hc1 : (L - (y1.size : Int)) < 0
  · go_wp2_with fail
    go_ret
    exact ⟨-1, rfl, by omega, fun h => absurd h (by omega), hb1⟩
  · go_wp2_with fail
    go_ret
    exact ⟨_, rfl, by omega, fun _ => (by omega), hb1⟩

set_option maxHeartbeats 8000000 in
set_option maxRecDepth 100000 in
theorem eqWrite_any (y0 : Int) (y1 : ByteArray) (w : World) :
    Calls Tryz.prog 116 #[.agg #[.int .i64 y0, .string y1], .agg #[.int .i64 y0, .string y1]] w fun e w' => e = .returned (.bool true) ∧ Below w.heap.size w w' := by
  have hhy0 : (y0 != y0) = false := by simp
  have hhy1 : (y1.toList != y1.toList) = false := by simp
  have hb0 : Below w.heap.size w w := Below.refl _ _
  go_enter Tryz.func116, Tryz.ntmps116
  go_upto_region 1 with fail
  obtain ⟨qv1, hqv1⟩ : ∃ q, q = (w).heap.size := ⟨_, rfl⟩
  obtain ⟨w1, hW1⟩ : ∃ W, W = (w).alloc (.cells #[.int .i64 y0, .string y1] 110) := ⟨_, rfl⟩
  have hz1 : (w).heap.size = qv1 := hqv1.symm
  first | rw [← hW1, ← hqv1] | rw [← hW1]
  have hs1 : w1.heap.size = qv1 + 1 := by rw [hW1, ← hz1]; simp
  have bw : Below (w).heap.size (w) w1 := by rw [hW1]; exact (Below.refl _ _).alloc (Nat.le_refl _) _
  have hb1 := hbt hb0 bw
  have HBv1_1 : Hid ((w1).heap[qv1]? = some (.cells #[.int .i64 y0, .string y1] 110)) := by show _ = _; rw [hW1, ← hz1]; exact heap_alloc_new _ _
  clear hb0 bw hW1 hz1
  obtain ⟨qv2, hqv2⟩ : ∃ q, q = qv1 + 1 := ⟨_, rfl⟩
  obtain ⟨w2, hW2⟩ : ∃ W, W = (w1).alloc (.cells #[.int .i64 y0, .string y1] 110) := ⟨_, rfl⟩
  have hz2 : (w1).heap.size = qv2 := by rw [hqv2]; exact hs1
  first | rw [← hW2, ← hqv2] | rw [← hW2]
  have hs2 : w2.heap.size = qv2 + 1 := by rw [hW2, ← hz2]; simp
  have bw : Below (w1).heap.size (w1) w2 := by rw [hW2]; exact (Below.refl _ _).alloc (Nat.le_refl _) _
  have hb2 := hbt hb1 bw
  have HBv1_2 := hblk HBv1_1 bw
  have HBv2_2 : Hid ((w2).heap[qv2]? = some (.cells #[.int .i64 y0, .string y1] 110)) := by show _ = _; rw [hW2, ← hz2]; exact heap_alloc_new _ _
  clear hb1 HBv1_1 bw hW2 hz2
  clear hs2 hqv2 hs1 hqv1
  have cv1_0 : (w2).cell? ⟨qv1, 0, none⟩ = some (.int .i64 y0) := (cell_of HBv1_2.out 0).trans rfl
  have cv2_0 : (w2).cell? ⟨qv2, 0, none⟩ = some (.int .i64 y0) := (cell_of HBv2_2.out 0).trans rfl
  have cv1_1 : (w2).cell? ⟨qv1, 1, none⟩ = some (.string y1) := (cell_of HBv1_2.out 1).trans rfl
  have cv2_1 : (w2).cell? ⟨qv2, 1, none⟩ = some (.string y1) := (cell_of HBv2_2.out 1).trans rfl
  go_wp2_with fail
  go_ret
  exact ⟨rfl, hb2⟩

end Go.Proofs.YtcipbkkpkhameaaGreat

namespace Go.Proofs.YtcipbkkpkhameaaGreat
open Go.RowKit
open Go.Lib hiding intOf

theorem owns_put {w : World} {base : Nat} {t : TypeId} {size g n cap : Nat} {xs : List Value} (h : w.ownsRow base t size (.slice (some ⟨g, 0, none⟩) n cap) n xs) (o : Nat) (u : Value) : (w.setCell ⟨g, o, none⟩ u).ownsRow base t size (.slice (some ⟨g, 0, none⟩) n cap) n (xs.set o u) := by
  obtain ⟨hl, hv⟩ := h
  refine ⟨by simpa using hl, ?_⟩
  rcases hv with ⟨e, _⟩ | ⟨g', cap', cur, e, h1, h2, h3, h4, h5, h6⟩
  · cases e
  · cases e
    refine .inr ⟨g, cap, _, rfl, h1, heap_set w g o cur t (0, 0) u h2, h3, h4, by simpa using h5, ?_⟩
    rw [Array.toList_setIfInBounds, List.take_set, h6]
theorem owns_at {w : World} {base : Nat} {t : TypeId} {size g n cap : Nat} {xs : List Value} (h : w.ownsRow base t size (.slice (some ⟨g, 0, none⟩) n cap) n xs) (o : Nat) (u : Value) (ho : xs[o]? = some u) : w.cell? ⟨g, o, none⟩ = some u ∧ w.frozen? ⟨g, o, none⟩ = false := by
  obtain ⟨hl, hv⟩ := h
  rcases hv with ⟨e, _⟩ | ⟨g', cap', cur, e, h1, h2, h3, h4, h5, h6⟩
  · cases e
  · cases e
    refine ⟨?_, by simp [World.frozen?, h2]⟩
    rw [← h6, List.getElem?_take] at ho
    split at ho
    · simpa [World.cell?, h2] using ho
    · cases ho
theorem owns_some {w : World} {base : Nat} {t : TypeId} {size n cap : Nat} {oa : Option Addr} {xs : List Value} (h : w.ownsRow base t size (.slice oa n cap) n xs) (hn : 0 < n) : ∃ g, oa = some ⟨g, 0, none⟩ := by
  rcases h.2 with ⟨e, h0⟩ | ⟨g, cap', cur, e, _⟩
  · omega
  · cases e; exact ⟨g, rfl⟩

end Go.Proofs.YtcipbkkpkhameaaGreat

namespace Go.Proofs.YtcipbkkpkhameaaGreat
open Go.RowKit
open Go.Lib hiding intOf

/-- The i-th of a list. -/
def writeAt (l : List (Int × ByteArray)) (i : Nat) : (Int × ByteArray) := l.getD i (0, ⟨#[]⟩)
/-- Its cells. -/
def writeEnc (x : (Int × ByteArray)) : List Value := [.int .i64 x.1, .string x.2]
def flatWrite (l : List (Int × ByteArray)) : List Value := l.flatMap writeEnc
theorem flatWrite_len (l : List (Int × ByteArray)) : (flatWrite l).length = l.length * 2 := by
  induction l with
  | nil => rfl
  | cons f r ih => simp only [flatWrite, writeEnc, List.flatMap_cons, List.length_append, List.length_cons, List.length_nil] at ih ⊢; omega
theorem flatWrite_get : ∀ (l : List (Int × ByteArray)) (i : Nat), i < l.length → (flatWrite l)[i * 2]? = some (.int .i64 ((writeAt l i).1)) ∧ (flatWrite l)[i * 2 + 1]? = some (.string ((writeAt l i).2))
  | [], i, h => by simp at h
  | f :: r, 0, _ => by simp [flatWrite, writeEnc, writeAt]
  | f :: r, i + 1, h => by
    have ih := flatWrite_get r i (by simpa using h)
    have e : flatWrite (f :: r) = writeEnc f ++ flatWrite r := rfl
    have hl : (writeEnc f).length = 2 := rfl
    have h2 : writeAt (f :: r) (i + 1) = writeAt r i := by simp [writeAt]
    have key : ∀ j, (flatWrite (f :: r))[i * 2 + 2 + j]? = (flatWrite r)[i * 2 + j]? := fun j => by
      rw [e, List.getElem?_append_right (by rw [hl]; omega), hl]; congr 1; omega
    rw [h2]
    refine ⟨(by rw [show (i + 1) * 2 = i * 2 + 2 + 0 by omega, key]; exact ih.1), (by rw [show (i + 1) * 2 + 1 = i * 2 + 2 + 1 by omega, key]; exact ih.2)⟩
theorem writeAt_mem (l : List (Int × ByteArray)) (i : Nat) (h : i < l.length) : writeAt l i ∈ l := by
  unfold writeAt
  rw [List.getD_eq_getElem?_getD, List.getElem?_eq_getElem h]
  exact List.getElem_mem h
theorem take_writeAt (l : List (Int × ByteArray)) (i : Nat) (h : i < l.length) : l.take (i + 1) = l.take i ++ [writeAt l i] := by
  unfold writeAt
  rw [List.getD_eq_getElem?_getD, List.getElem?_eq_getElem h, List.take_succ_eq_append_getElem h]
  rfl
/-- A list that is read: its cells in a block that is there. -/
def WriteA (w : World) (oa : Option Addr) (n : Nat) (l : List (Int × ByteArray)) : Prop :=
  l.length = n ∧ ∀ i, i < n → ∃ g, oa = some ⟨g, 0, none⟩ ∧ g < w.heap.size ∧ w.cell? ⟨g, i * 2, none⟩ = some (.int .i64 ((writeAt l i).1)) ∧ w.cell? ⟨g, i * 2 + 1, none⟩ = some (.string ((writeAt l i).2))
theorem WriteA.below {w W : World} {oa : Option Addr} {n : Nat} {l : List (Int × ByteArray)} (h : WriteA w oa n l) (hb : Below w.heap.size w W) : WriteA W oa n l :=
  ⟨h.1, fun i hi => by
    obtain ⟨g, h1, h2, r0, r1⟩ := h.2 i hi
    exact ⟨g, h1, Nat.lt_of_lt_of_le h2 hb.size, by rw [hb.cell (p := ⟨g, i * 2, none⟩) h2]; exact r0, by rw [hb.cell (p := ⟨g, i * 2 + 1, none⟩) h2]; exact r1⟩⟩
/-- A list that came in, in blocks below B. -/
def ArgWrite (w : World) (B : Nat) (a : Option Addr) (n : Nat) (l : List (Int × ByteArray)) : Prop :=
  l.length = n ∧ ∀ i, i < n → ∃ b off, a = some ⟨b, off, none⟩ ∧ b < B ∧ w.cell? ⟨b, off + i * 2, none⟩ = some (.int .i64 ((writeAt l i).1)) ∧ w.cell? ⟨b, off + i * 2 + 1, none⟩ = some (.string ((writeAt l i).2))
theorem ArgWrite.below {w w' : World} {B : Nat} {a : Option Addr} {n : Nat} {l : List (Int × ByteArray)} (h : ArgWrite w B a n l) (hb : Below B w w') : ArgWrite w' B a n l :=
  ⟨h.1, fun i hi => by
    obtain ⟨b, off, h1, h2, r0, r1⟩ := h.2 i hi
    exact ⟨b, off, h1, h2, by rw [hb.cell (p := ⟨b, off + i * 2, none⟩) h2]; exact r0, by rw [hb.cell (p := ⟨b, off + i * 2 + 1, none⟩) h2]; exact r1⟩⟩
/-- The first k of a row of 2 n cells are told. -/
def PartWrite (w : World) (g n k : Nat) (l : List (Int × ByteArray)) : Prop :=
  ∃ cur, w.heap[g]? = some (.cells cur 110 (0, 0)) ∧ cur.size = n * 2 ∧ ∀ i, i < k → cur[i * 2]? = some (.int .i64 ((writeAt l i).1)) ∧ cur[i * 2 + 1]? = some (.string ((writeAt l i).2))
theorem PartWrite.below {w w' : World} {g n k B : Nat} {l : List (Int × ByteArray)} (h : PartWrite w g n k l) (hb : Below B w w') (hB : g < B) : PartWrite w' g n k l := by
  obtain ⟨cur, h1, h2⟩ := h
  exact ⟨cur, by rw [hb.block g hB]; exact h1, h2⟩
theorem PartWrite.lt {w : World} {g n k : Nat} {l : List (Int × ByteArray)} (h : PartWrite w g n k l) : g < w.heap.size := by
  obtain ⟨cur, h1, _⟩ := h
  exact (Array.getElem?_eq_some_iff.1 h1).1
theorem PartWrite.cell {w : World} {g n k : Nat} {l : List (Int × ByteArray)} (h : PartWrite w g n k l) (j : Nat) (hj : j < n * 2) : ∃ u, w.cell? ⟨g, j, none⟩ = some u := by
  obtain ⟨cur, h1, h2, _⟩ := h
  refine ⟨cur[j]'(by omega), ?_⟩
  simp only [World.cell?, h1]
  simp [show j < cur.size by omega]
theorem PartWrite.frozen {w : World} {g n k : Nat} {l : List (Int × ByteArray)} (h : PartWrite w g n k l) (j : Nat) : w.frozen? ⟨g, j, none⟩ = false := by
  obtain ⟨cur, h1, _⟩ := h
  simp [World.frozen?, h1]

theorem PartWrite.put {w : World} {g n k : Nat} {l : List (Int × ByteArray)} (h : PartWrite w g n k l) (hk : k < n) : PartWrite ((w.setCell ⟨g, k * 2, none⟩ (.int .i64 (writeAt l k).1)).setCell ⟨g, k * 2 + 1, none⟩ (.string (writeAt l k).2)) g n (k + 1) l := by
  obtain ⟨cur, h1, h2, h3⟩ := h
  refine ⟨_, heap_set _ g (k * 2 + 1) _ _ _ _ (heap_set _ g (k * 2) _ _ _ _ h1), by simpa using h2, ?_⟩
  intro i hi
  by_cases e : i = k
  · subst e
    exact ⟨by rw [Array.getElem?_setIfInBounds_ne (by omega), Array.getElem?_setIfInBounds_self_of_lt (by first | omega | (simp; omega))], by rw [Array.getElem?_setIfInBounds_self_of_lt (by first | omega | (simp; omega))]⟩
  · have := h3 i (by omega)
    exact ⟨by rw [Array.getElem?_setIfInBounds_ne (by omega), Array.getElem?_setIfInBounds_ne (by omega)]; exact this.1, by rw [Array.getElem?_setIfInBounds_ne (by omega), Array.getElem?_setIfInBounds_ne (by omega)]; exact this.2⟩
theorem PartWrite.owns {w : World} {g n : Nat} {l : List (Int × ByteArray)} (h : PartWrite w g n n l) (hl : l.length = n) (hm : n ≤ maxLen) {base : Nat} (hb : base ≤ g) : w.ownsRow base 110 2 (.slice (some ⟨g, 0, none⟩) n n) n (flatWrite l) := by
  obtain ⟨cur, hg, hs, hc⟩ := h
  refine ⟨by rw [flatWrite_len, hl], .inr ⟨g, n, cur, rfl, hb, hg, Nat.le_refl _, hm, hs, ?_⟩⟩
  apply List.ext_getElem?
  intro j
  rw [List.getElem?_take]
  by_cases hj : j < n * 2
  · rw [if_pos hj]
    have hf := flatWrite_get l (j / 2) (by omega)
    have hcc := hc (j / 2) (by omega)
    have hr : j = (j / 2) * 2 ∨ j = (j / 2) * 2 + 1 := by omega
    rcases hr with e | e
    · have e2 := hf.1
      have e3 := hcc.1
      rw [← e] at e2 e3
      rw [e2]; simpa using e3
    · have e2 := hf.2
      have e3 := hcc.2
      rw [← e] at e2 e3
      rw [e2]; simpa using e3
  · rw [if_neg hj, List.getElem?_eq_none (by rw [flatWrite_len]; omega)]
/-- An owned list can be read. -/
theorem write_view {w : World} {base n cap : Nat} {oa : Option Addr} {l : List (Int × ByteArray)} (h : w.ownsRow base 110 2 (.slice oa n cap) n (flatWrite l)) : WriteA w oa n l := by
  obtain ⟨hl, hv⟩ := h
  rw [flatWrite_len] at hl
  refine ⟨by omega, fun i hi => ?_⟩
  rcases hv with ⟨e, h0⟩ | ⟨g, cap, cur, e, hb, hg, hn, hm, hcs, htk⟩
  · omega
  · cases e
    have hf := flatWrite_get l i (by omega)
    rw [← htk] at hf
    simp only [List.getElem?_take] at hf
    rw [if_pos (by omega), if_pos (by omega)] at hf
    refine ⟨g, rfl, (Array.getElem?_eq_some_iff.1 hg).1, by simp only [World.cell?, hg]; simpa using hf.1, by simp only [World.cell?, hg]; simpa using hf.2⟩
theorem write_len {w : World} {base n : Nat} {v : Value} {l : List (Int × ByteArray)} (h : w.ownsRow base 110 2 v n (flatWrite l)) : l.length = n := by
  have := h.1
  rw [flatWrite_len] at this
  omega
theorem infoWrite : (Tryz.prog.info? 110).map (fun i => (i.zero, i.size, i.bytes)) = some (some (.agg #[.int .i64 0, .string ⟨#[]⟩]), 2, 24) := by kernel_rfl

/-- The measure is negative, or what is left of L. -/
def SzWriteR (L : Int) (n : Nat) (l : List (Int × ByteArray)) (w : World) (e : Ending) (w' : World) : Prop :=
  ∃ r : Int, e = .returned (.int .i64 r) ∧ r ≤ L ∧ (0 ≤ r → r + (n : Int) ≤ L ∧ n ≤ 1048576 ∧ ∀ x ∈ l, (x.2).size ≤ 1048576) ∧ Below w.heap.size w w'
set_option maxHeartbeats 4000000 in
set_option maxRecDepth 100000 in
theorem szWriteS_room (L : Int) (hL0 : 0 ≤ L) (hL1 : L ≤ 1048576) (B : Nat) (a : Option Addr) (n cap : Nat) (l : List (Int × ByteArray)) (w : World) (harg : ArgWrite w B a n l) (hB : B ≤ w.heap.size) (hn : n ≤ maxLen) (hsz : ∀ x ∈ l, (x.2).size ≤ maxLen) :
    Calls Tryz.prog 58 #[.slice a n cap, .int .i64 L] w fun e w' => SzWriteR L n l w e w' := by
  unfold maxLen at hn
  have HS : Hid (∀ x ∈ l, (x.2).size ≤ maxLen) := hsz
  have HLN : Hid (l.length = n) := harg.1
  have HA : Hid (∀ W, Below w.heap.size w W → ArgWrite W B a n l) := fun W h => harg.below (h.mono hB)
  clear hsz harg
  by_cases c1 : L - (n : Int) < 0
  · go_enter Tryz.func58, Tryz.ntmps58
    go_wp2
    go_ret
    exact ⟨-1, rfl, by omega, fun h => absurd h (by omega), Below.refl _ _⟩
  · go_enter Tryz.func58, Tryz.ntmps58
    go_wp2
    go_loopw [1, 5] (fun lf i wr => ∃ (k : Nat) (x : Int), k ≤ n ∧ i = .int .i64 (k : Int) ∧ lf = .int .i64 x ∧ 0 ≤ x ∧ x + (n : Int) ≤ L ∧ Hid (∀ x ∈ l.take k, (x.2).size ≤ 1048576) ∧ Hid (Below w.heap.size w wr)) (fun _ i _ => n - (intOf i).toNat)
    case atStart => exact ⟨0, _, Nat.zero_le _, rfl, rfl, by omega, by omega, fun x hx => by simp at hx, Below.refl _ _⟩
    case round =>
      obtain ⟨k, x, hk, rfl, rfl, hx0, hx1, HX, HBW⟩ := hrel
      by_cases hlt : k < n
      · have hlt2 : (k : Int) < (n : Int) := by omega
        obtain ⟨b, off, rfl, hbB, r0, r1⟩ := (HA.out wr HBW.out).2 k hlt
        obtain ⟨y, hy⟩ : ∃ y, y = writeAt l k := ⟨_, rfl⟩
        have HM : Hid (y ∈ l) := by show _ ∈ _; rw [hy]; exact writeAt_mem l k (by rw [HLN.out]; exact hlt)
        have HTK : Hid (l.take (k + 1) = l.take k ++ [y]) := by show _ = _; rw [hy]; exact take_writeAt l k (by rw [HLN.out]; exact hlt)
        have s1 := HS.out y HM.out
        rw [← hy] at r0 r1
        clear hy
        obtain ⟨y0, y1⟩ := y
        go_wp2_with fail
        refine (szWrite_any x hx0 (by omega) y0 y1 _ s1).mono ?_
        rintro e w1 ⟨r, rfl, hr1, hr2, bw⟩
        have HB2 : Hid (Below w.heap.size w w1) := HBW.out.trans (bw.mono HBW.out.size)
        clear r0 r1 bw
        by_cases d1 : r < 0
        · clear hr2
          go_wp2
          go_ret
          exact ⟨-1, rfl, by omega, fun h => absurd h (by omega), HB2.out⟩
        · have HX2 : Hid (∀ x ∈ l.take (k + 1), (x.2).size ≤ 1048576) := fun x hx => by
            rw [HTK.out] at hx
            rcases List.mem_append.1 hx with hx | hx
            · exact HX.out x hx
            · rw [List.mem_singleton.1 hx]; exact hr2 (by omega)
          clear hr2
          go_wp2
          go_roundw
          case rel => exact ⟨k + 1, r, by omega, by go_num, rfl, by omega, by omega, HX2, HB2⟩
          case measure => simp [intOf]; omega
      · have HF : Hid (n ≤ 1048576 ∧ ∀ x ∈ l, (x.2).size ≤ 1048576) := ⟨by omega, fun x hx => HX.out x (by rw [List.take_of_length_le (by rw [HLN.out]; omega)]; exact hx)⟩
        go_wp2
        go_ret
        exact ⟨x, rfl, by omega, fun _ => ⟨by omega, HF.out⟩, HBW.out⟩
set_option maxHeartbeats 4000000 in
set_option maxRecDepth 100000 in
theorem toWriteS_any (B : Nat) (a : Option Addr) (n cap : Nat) (l : List (Int × ByteArray)) (w : World) (harg : ArgWrite w B a n l) (hB : B ≤ w.heap.size) (hn : n ≤ 1048576) :
    Calls Tryz.prog 69 #[.slice a n cap] w fun e w' => ∃ v, e = .returned v ∧ w'.ownsRow w.heap.size 110 2 v n (flatWrite l) ∧ Below w.heap.size w w' := by
  obtain ⟨i0, hi, hz0, hz1, hz2⟩ := info_parts infoWrite
  obtain ⟨M, hM⟩ : ∃ M, M = madeCells (Value.agg #[.int .i64 0, .string ⟨#[]⟩]).cells (((n : Nat) : Int).toNat * i0.size) := ⟨_, rfl⟩
  have hmk : ∀ W : World, (Instr.makeSlice 32 (.int .i64 (n : Int)) (.int .i64 (n : Int))).run Tryz.prog W = .ok (.slice (some ⟨W.heap.size, 0, none⟩) n n) (W.alloc (.cells M 110)) := fun W => by
    have h := run_make (P := Tryz.prog) W 32 110 i0 (.agg #[.int .i64 0, .string ⟨#[]⟩]) Tryz.underlying32 hi hz0 .i64 .i64 (n : Int) (n : Int) (by omega) (by omega) (by rw [hz2]; omega) (by omega)
    rw [← hM] at h
    simpa using h
  have hMs : M.size = n * 2 := by rw [hM, size_madeCells, hz1]; simp
  have HLN : Hid (l.length = n) := harg.1
  have HA : Hid (∀ W, Below w.heap.size w W → ArgWrite W B a n l) := fun W h => harg.below (h.mono hB)
  clear hM harg
  have HP : Hid (PartWrite (w.alloc (.cells M 110)) w.heap.size n 0 l) := ⟨M, heap_alloc_new w _, hMs, fun i h => absurd h (by omega)⟩
  go_enter Tryz.func69, Tryz.ntmps69
  go_wp2
  go_loopw [4] (fun i wr => ∃ k : Nat, k ≤ n ∧ i = .int .i64 (k : Int) ∧ Hid (PartWrite wr w.heap.size n k l) ∧ Hid (Below w.heap.size w wr)) (fun i _ => n - (intOf i).toNat)
  case atStart => exact ⟨0, Nat.zero_le _, rfl, HP, (Below.refl _ _).alloc (Nat.le_refl _) _⟩
  case round =>
    obtain ⟨k, hk, rfl, hpr, HBW⟩ := hrel
    by_cases hlt : k < n
    · have hlt2 : (k : Int) < (n : Int) := by omega
      obtain ⟨b, off, rfl, hbB, r0, r1⟩ := (HA.out wr HBW.out).2 k hlt
      obtain ⟨y, hy⟩ : ∃ y, y = writeAt l k := ⟨_, rfl⟩
      rw [← hy] at r0 r1
      have HY : Hid (writeAt l k = y) := hy.symm
      clear hy
      obtain ⟨y0, y1⟩ := y
      go_wp2_with fail
      refine (toWrite_any y0 y1 _).mono ?_
      rintro e w1 ⟨rfl, bw⟩
      have hpr1 := hpr.out.below bw hpr.out.lt
      have HB2 : Hid (Below w.heap.size w w1) := HBW.out.trans (bw.mono HBW.out.size)
      obtain ⟨u0, hu0⟩ := hpr1.cell (k * 2) (by omega)
      have f0 := hpr1.frozen (k * 2)
      obtain ⟨u1, hu1⟩ := hpr1.cell (k * 2 + 1) (by omega)
      have f1 := hpr1.frozen (k * 2 + 1)
      have hput := hpr1.put hlt
      rw [HY.out] at hput
      have HPUT : Hid _ := hput
      clear hput r0 r1 bw
      go_wp2
      go_roundw
      case rel => exact ⟨k + 1, by omega, by go_num, HPUT, (HB2.out.setCell (Nat.le_refl _) _).setCell (Nat.le_refl _) _⟩
      case measure => simp [intOf]; omega
    · obtain rfl : k = n := by omega
      go_wp2
      go_ret
      exact ⟨_, rfl, hpr.out.owns HLN.out (by unfold maxLen; omega) (Nat.le_refl _), HBW.out⟩

set_option maxHeartbeats 4000000 in
set_option maxRecDepth 100000 in
theorem eqWriteS_any (o1 o2 : Option Addr) (n c1 c2 : Nat) (l : List (Int × ByteArray)) (w : World) (h1 : WriteA w o1 n l) (h2 : WriteA w o2 n l) (hn : n ≤ 2000000) :
    Calls Tryz.prog 77 #[.slice o1 n c1, .slice o2 n c2] w fun e w' => e = .returned (.bool true) ∧ Below w.heap.size w w' := by
  have H1 : Hid (∀ W, Below w.heap.size w W → WriteA W o1 n l) := fun W h => h1.below h
  have H2 : Hid (∀ W, Below w.heap.size w W → WriteA W o2 n l) := fun W h => h2.below h
  clear h1 h2
  go_enter Tryz.func77, Tryz.ntmps77
  go_wp2
  go_loopw [5] (fun i wr => ∃ k : Nat, k ≤ n ∧ i = .int .i64 (k : Int) ∧ Hid (Below w.heap.size w wr)) (fun i _ => n - (intOf i).toNat)
  case atStart => exact ⟨0, Nat.zero_le _, rfl, Below.refl _ _⟩
  case round =>
    obtain ⟨k, hk, rfl, HBW⟩ := hrel
    by_cases hlt : k < n
    · have hlt2 : (k : Int) < (n : Int) := by omega
      obtain ⟨y, hy⟩ : ∃ y, y = writeAt l k := ⟨_, rfl⟩
      obtain ⟨g1, rfl, hg1, a0, a1⟩ := (H1.out wr HBW.out).2 k hlt
      obtain ⟨g2, rfl, hg2, b0, b1⟩ := (H2.out wr HBW.out).2 k hlt
      rw [← hy] at a0 b0 a1 b1
      clear hy
      obtain ⟨y0, y1⟩ := y
      have HA : Hid (∀ w0 w1, Below wr.heap.size wr w0 → Below w0.heap.size w0 w1 → (w1.cell? ⟨g1, k * 2, none⟩ = some (.int .i64 y0) ∧ w1.cell? ⟨g1, k * 2 + 1, none⟩ = some (.string y1) ∧ w1.cell? ⟨g2, k * 2, none⟩ = some (.int .i64 y0) ∧ w1.cell? ⟨g2, k * 2 + 1, none⟩ = some (.string y1)) ∧ Below wr.heap.size wr w1) := fun w0 w1 h h' => by
        have hx := h.trans (h'.mono h.size)
        exact ⟨⟨by rw [hx.cell (p := ⟨g1, k * 2, none⟩) hg1]; exact a0, by rw [hx.cell (p := ⟨g1, k * 2 + 1, none⟩) hg1]; exact a1, by rw [hx.cell (p := ⟨g2, k * 2, none⟩) hg2]; exact b0, by rw [hx.cell (p := ⟨g2, k * 2 + 1, none⟩) hg2]; exact b1⟩, hx⟩
      go_wp2
      go_region_held3 (fun w' => w'.cell? ⟨g1, k * 2, none⟩ = some (.int .i64 y0) ∧ w'.cell? ⟨g1, k * 2 + 1, none⟩ = some (.string y1) ∧ w'.cell? ⟨g2, k * 2, none⟩ = some (.int .i64 y0) ∧ w'.cell? ⟨g2, k * 2 + 1, none⟩ = some (.string y1)) (first | assumption | go_keep) (first | (go_at_call 116; refine (eqWrite_any _ _ _).mono ?_; rintro e w1 ⟨rfl, hb1⟩; obtain ⟨hcc, hbx⟩ := HA.out _ w1 ((Below.refl _ wr).drew) hb1))
      go_wp2
      go_roundw
      case rel => exact ⟨k + 1, by omega, by go_num, HBW.out.trans (hbx.mono HBW.out.size)⟩
      case measure => simp [intOf]; omega
    · go_wp2
      go_ret
      exact ⟨rfl, HBW.out⟩

theorem flatWrite_set : ∀ (l : List (Int × ByteArray)) (i : Nat) (x : (Int × ByteArray)), i < l.length → flatWrite (l.set i x) = ((flatWrite l).set (i * 2) (.int .i64 x.1)).set (i * 2 + 1) (.string x.2)
  | [], i, x, h => by simp at h
  | f :: r, 0, x, _ => rfl
  | f :: r, i + 1, x, h => by
    have ih := flatWrite_set r i x (by simpa using h)
    have e : ∀ (m : List Value) (o : Nat) (u : Value), (writeEnc f ++ m).set (2 + o) u = writeEnc f ++ m.set o u := fun m o u => by rw [Nat.add_comm]; rfl
    have e0 : flatWrite (f :: r) = writeEnc f ++ flatWrite r := rfl
    have e1 : flatWrite ((f :: r).set (i + 1) x) = writeEnc f ++ flatWrite (r.set i x) := rfl
    rw [e1, ih, e0, show (i + 1) * 2 = 2 + i * 2 by omega, show 2 + i * 2 + 1 = 2 + (i * 2 + 1) by omega, e, e]
/-- The list with its first k marked, from k0 on. -/
def mkWrite (k0 : Nat) (l : List (Int × ByteArray)) : Nat → List (Int × ByteArray)
  | 0 => l
  | k + 1 => (mkWrite k0 l k).set k (((k0 + 2 * k + 0 : Nat) : Int), (markOf (k0 + 2 * k + 1)))
theorem mkWrite_len (k0 : Nat) (l : List (Int × ByteArray)) : ∀ k, (mkWrite k0 l k).length = l.length
  | 0 => rfl
  | k + 1 => by rw [mkWrite, List.length_set, mkWrite_len k0 l k]
set_option maxHeartbeats 4000000 in
set_option maxRecDepth 100000 in
theorem markWriteS_any (oa : Option Addr) (n cap base : Nat) (l : List (Int × ByteArray)) (w : World) (h1 : w.ownsRow base 110 2 (.slice oa n cap) n (flatWrite l)) (hb : base ≤ w.heap.size) (k0 : Nat) (hk0 : 1 ≤ k0) (hn : k0 + 2 * n ≤ 9999999) :
    Calls Tryz.prog 94 #[.slice oa n cap, .int .i64 (k0 : Int)] w fun e w' => e = .returned (.int .i64 ((k0 : Int) + 2 * (n : Int))) ∧ w'.ownsRow base 110 2 (.slice oa n cap) n (flatWrite (mkWrite k0 l n)) ∧ Below base w w' ∧ Far (.slice oa n cap) w w' := by
  have HLN : Hid (l.length = n) := write_len h1
  have H1 : Hid (w.ownsRow base 110 2 (.slice oa n cap) n (flatWrite l)) := h1
  clear h1
  go_enter Tryz.func94, Tryz.ntmps94
  go_wp2
  go_loopw [1, 5] (fun q i wr => ∃ k : Nat, k ≤ n ∧ i = .int .i64 (k : Int) ∧ q = .int .i64 ((k0 : Int) + 2 * (k : Int)) ∧ Hid (Below base w wr) ∧ Hid (wr.ownsRow base 110 2 (.slice oa n cap) n (flatWrite (mkWrite k0 l k))) ∧ Hid (∀ j, j < w.heap.size → (Value.slice oa n cap).ownBlock ≠ some j → wr.heap[j]? = w.heap[j]?)) (fun _ i _ => n - (intOf i).toNat)
  case atStart => exact ⟨0, Nat.zero_le _, rfl, by simp, Below.refl _ _, H1, fun j _ _ => rfl⟩
  case round =>
    obtain ⟨k, hk, rfl, rfl, HB, HO, HF⟩ := hrel
    by_cases hlt : k < n
    · have hlt2 : (k : Int) < (n : Int) := by omega
      obtain ⟨g, rfl⟩ := owns_some H1.out (by omega)
      have HG : Hid (base ≤ g) := owns_ge H1.out rfl
      have q0 := (flatWrite_get (mkWrite k0 l k) k (by rw [mkWrite_len, HLN.out]; exact hlt)).1
      have HQ0 : Hid _ := q0
      clear q0
      have q1 := (flatWrite_get (mkWrite k0 l k) k (by rw [mkWrite_len, HLN.out]; exact hlt)).2
      have HQ1 : Hid _ := q1
      clear q1
      obtain ⟨c0, f0⟩ := owns_at HO.out (k * 2) _ (by exact HQ0.out)
      have hk_0 : (k0 : Int) + 2 * (k : Int) = ((k0 + 2 * k + 0 : Nat) : Int) := by omega
      rw [hk_0]
      clear hk_0
      have HO0 : Hid ((((wr).setCell ⟨g, k * 2, none⟩ (.int .i64 ((k0 + 2 * k + 0 : Nat) : Int)))).ownsRow base 110 2 (.slice (some ⟨g, 0, none⟩) n cap) n ((flatWrite (mkWrite k0 l k)).set (k * 2) (.int .i64 ((k0 + 2 * k + 0 : Nat) : Int)))) := owns_put HO.out _ _
      have HB0 : Hid (Below base w ((wr).setCell ⟨g, k * 2, none⟩ (.int .i64 ((k0 + 2 * k + 0 : Nat) : Int)))) := HB.out.setCell (p := ⟨g, k * 2, none⟩) HG.out _
      have HF0 : Hid (∀ j, j < w.heap.size → (Value.slice (some ⟨g, 0, none⟩) n cap).ownBlock ≠ some j → (((wr).setCell ⟨g, k * 2, none⟩ (.int .i64 ((k0 + 2 * k + 0 : Nat) : Int)))).heap[j]? = w.heap[j]?) := fun j hj hne => (heap_setCell_other _ _ j _ (fun e => hne (by rw [e]; rfl))).trans (HF.out j hj hne)
      go_wp2_with fail
      refine (markText_int _ (k0 + 2 * k + 1) _ (by omega) (by omega) (by omega)).mono ?_
      rintro e u1 ⟨rfl, bw1⟩
      have HO1b : Hid ((u1).ownsRow base 110 2 (.slice (some ⟨g, 0, none⟩) n cap) n ((flatWrite (mkWrite k0 l k)).set (k * 2) (.int .i64 ((k0 + 2 * k + 0 : Nat) : Int)))) := owns_below HO0.out bw1 (fun g hg => owns_lt HO0.out hg)
      have HB1b : Hid (Below base w u1) := HB0.out.trans (bw1.mono (Nat.le_trans hb HB0.out.size))
      have HF1b : Hid (∀ j, j < w.heap.size → (Value.slice (some ⟨g, 0, none⟩) n cap).ownBlock ≠ some j → (u1).heap[j]? = w.heap[j]?) := fun j hj hne => (bw1.block j (Nat.lt_of_lt_of_le hj HB0.out.size)).trans (HF0.out j hj hne)
      clear bw1 c0 f0
      obtain ⟨c1, f1⟩ := owns_at HO1b.out (k * 2 + 1) _ (by rw [List.getElem?_set_ne (by omega)]; exact HQ1.out)
      have HO1 : Hid ((((u1).setCell ⟨g, k * 2 + 1, none⟩ (.string (markOf (k0 + 2 * k + 1))))).ownsRow base 110 2 (.slice (some ⟨g, 0, none⟩) n cap) n (((flatWrite (mkWrite k0 l k)).set (k * 2) (.int .i64 ((k0 + 2 * k + 0 : Nat) : Int))).set (k * 2 + 1) (.string (markOf (k0 + 2 * k + 1))))) := owns_put HO1b.out _ _
      have HB1 : Hid (Below base w ((u1).setCell ⟨g, k * 2 + 1, none⟩ (.string (markOf (k0 + 2 * k + 1))))) := HB1b.out.setCell (p := ⟨g, k * 2 + 1, none⟩) HG.out _
      have HF1 : Hid (∀ j, j < w.heap.size → (Value.slice (some ⟨g, 0, none⟩) n cap).ownBlock ≠ some j → (((u1).setCell ⟨g, k * 2 + 1, none⟩ (.string (markOf (k0 + 2 * k + 1))))).heap[j]? = w.heap[j]?) := fun j hj hne => (heap_setCell_other _ _ j _ (fun e => hne (by rw [e]; rfl))).trans (HF1b.out j hj hne)
      have HFIN : Hid (flatWrite (mkWrite k0 l (k + 1)) = ((flatWrite (mkWrite k0 l k)).set (k * 2) (.int .i64 ((k0 + 2 * k + 0 : Nat) : Int))).set (k * 2 + 1) (.string (markOf (k0 + 2 * k + 1)))) := by
        show _ = _
        rw [mkWrite, flatWrite_set _ _ _ (by rw [mkWrite_len, HLN.out]; exact hlt)]
      go_wp2
      go_roundw
      case rel => exact ⟨k + 1, by omega, by go_num, by first | go_num | (congr 1; omega), HB1.out, by show World.ownsRow _ _ _ _ _ _ _; rw [HFIN.out]; exact HO1.out, HF1.out⟩
      case measure => simp [intOf]; omega
    · obtain rfl : k = n := by omega
      go_wp2
      go_ret
      exact ⟨rfl, HO.out, HB.out, HF.out⟩

set_option maxRecDepth 100000 in
/-- A list among the arguments: what it holds. -/
theorem openWriteS {H : Type} {enc : TypeId × Value → H} {W : World} {fuel : Nat} {a : Option Addr} {n cap : Nat} {x : DataW H × List MemPlace} (h : DataW.trod enc Tryz.prog W 0 (fun _ => true) true fuel 23 [.slice a n cap] = some x) :
    ∃ l, ArgWrite W W.heap.size a n l ∧ n ≤ maxLen ∧ ∀ x ∈ l, (x.2).size ≤ maxLen := by
  rcases Go.Deep.open_slice Tryz.underlying23 h with ⟨hcs, _⟩ | ⟨ad, len, c, m, q, Dd, Pl, hcs, _, hl, hm, hmm, _, hx⟩
  · simp at hcs
    obtain ⟨rfl, rfl, rfl⟩ := hcs
    exact ⟨[], ⟨rfl, fun i hi => absurd hi (by omega)⟩, Nat.zero_le _, fun x hx => by simp at hx⟩
  · simp at hcs
    obtain ⟨rfl, rfl, rfl⟩ := hcs
    have hm2 : m = cap := by simpa using hmm
    have ce : Tryz.prog.cellsOf 144 = 2 := by kernel_rfl
    have ci : Tryz.prog.cellsOf 3 = 1 := by kernel_rfl
    have cs : Tryz.prog.cellsOf 9 = 1 := by kernel_rfl
    have each : ∀ i, i < n → ∃ y : (Int × ByteArray), (W.cell? (ad.add (i * 2 + 0)) = some (.int .i64 (y.1)) ∧ W.cell? (ad.add (i * 2 + 1)) = some (.string (y.2))) ∧ (y.2).size ≤ maxLen := by
      intro i hi
      obtain ⟨cs', h1, h2⟩ := hx i (by omega)
      rw [ce] at h1
      obtain ⟨_, hlen, hcell⟩ := World.cells?_some h1
      obtain ⟨xs, k, hk, hxy, _, hxl, hf⟩ := DataW.trod_struct Tryz.underlying144 h2
      match xs, hxl, cs', hlen with
      | [x0, x1], _, [v0, v1], _ =>
        have g0 := hf 0 _ rfl
        have g1 := hf 1 _ rfl
        simp [ci, cs] at g0 g1
        obtain ⟨s0, e0, _, _⟩ := DataW.trod_int Tryz.underlying3 g0
        obtain ⟨s1, e1, _, z1⟩ := DataW.trod_string Tryz.underlying9 g1
        simp only [List.cons.injEq, and_true] at e0 e1
        subst e0 e1
        have c0 := hcell 0 (by omega)
        have c1 := hcell 1 (by omega)
        rw [Go.Deep.add_add] at c0 c1
        exact ⟨(s0, s1), ⟨by simpa using c0, by simpa using c1⟩, z1⟩
    obtain ⟨q, hq⟩ := Go.Deep.choose_lt each
    have hat : ∀ i, i < n → writeAt ((List.range n).map q) i = q i := fun i hi => by
      unfold writeAt
      rw [List.getD_eq_getElem?_getD, List.getElem?_map, List.getElem?_range hi]
      rfl
    refine ⟨(List.range n).map q, ⟨by simp, fun i hi => ?_⟩, by omega, fun x hx => ?_⟩
    · obtain ⟨c0, _⟩ := hq i hi
      obtain ⟨c3, _⟩ := hq 0 (by omega)
      have hsp : ad.spot = none := by
        have := World.cell?_spot c3.1
        simpa [Addr.add] using this
      clear c3
      obtain ⟨b, off, sp⟩ := ad
      simp only at hsp
      subst hsp
      simp only [addr_add] at c0
      rw [hat i hi]
      have hlt := World.block_lt_of_cell? W _ c0.1
      exact ⟨b, off, rfl, hlt, by simpa [Nat.add_assoc] using c0.1, by simpa [Nat.add_assoc] using c0.2⟩
    · obtain ⟨i, hi, rfl⟩ := List.mem_map.1 hx
      exact (hq i (List.mem_range.1 hi)).2

end Go.Proofs.YtcipbkkpkhameaaGreat

namespace Go.Proofs.YtcipbkkpkhameaaGreat
open Go.RowKit
open Go.Lib hiding intOf

/-- A disk's two lists, in memory of one's own. -/
structure DiskO (W : World) (base : Nat) (v1 : Value) (n1 : Nat) (cs : List ByteArray) (v2 : Value) (n2 : Nat) (ws : List (Int × ByteArray)) : Prop where
  cells : W.ownsRow base 9 1 v1 n1 (cs.map Value.string)
  pend : W.ownsRow base 110 2 v2 n2 (flatWrite ws)

set_option maxHeartbeats 8000000 in
set_option maxRecDepth 100000 in
theorem toDisk_any (a1 : Option Addr) (n1 c1 : Nat) (cs : List ByteArray) (a2 : Option Addr) (n2 c2 : Nat) (ws : List (Int × ByteArray)) (B : Nat) (w : World) (h1 : ArgT w B a1 n1 cs) (h2 : ArgWrite w B a2 n2 ws) (hB : B ≤ w.heap.size) (hn1 : n1 ≤ 1048576) (hn2 : n2 ≤ 1048576) :
    Calls Tryz.prog 27 #[.agg #[.slice a1 n1 c1, .slice a2 n2 c2]] w fun e w' => ∃ v1 v2, e = .returned (.agg #[v1, v2]) ∧ DiskO w' w.heap.size v1 n1 cs v2 n2 ws ∧ Below w.heap.size w w' := by
  have HA1 : Hid (∀ W, Below w.heap.size w W → ArgT W B a1 n1 cs) := fun W h => h1.below (h.mono hB)
  have HA2 : Hid (∀ W, Below w.heap.size w W → ArgWrite W B a2 n2 ws) := fun W h => h2.below (h.mono hB)
  have HBB : Hid (∀ W, Below w.heap.size w W → B ≤ W.heap.size) := fun W h => Nat.le_trans hB h.size
  clear h1 h2 hB
  have hb0 : Below w.heap.size w w := Below.refl _ _
  go_enter Tryz.func27, Tryz.ntmps27
  go_upto_region 1 with fail
  obtain ⟨qv1, hqv1⟩ : ∃ q, q = (w).heap.size := ⟨_, rfl⟩
  obtain ⟨w1, hW1⟩ : ∃ W, W = (w).alloc (.cells #[.slice a1 n1 c1, .slice a2 n2 c2] 25) := ⟨_, rfl⟩
  have hz1 : (w).heap.size = qv1 := hqv1.symm
  first | rw [← hW1, ← hqv1] | rw [← hW1]
  have hs1 : w1.heap.size = qv1 + 1 := by rw [hW1, ← hz1]; simp
  have bw : Below (w).heap.size (w) w1 := by rw [hW1]; exact (Below.refl _ _).alloc (Nat.le_refl _) _
  have hb1 := hbt hb0 bw
  have HBv1_1 : Hid ((w1).heap[qv1]? = some (.cells #[.slice a1 n1 c1, .slice a2 n2 c2] 25)) := by show _ = _; rw [hW1, ← hz1]; exact heap_alloc_new _ _
  clear hb0 bw hW1 hz1
  obtain ⟨qv2, hqv2⟩ : ∃ q, q = qv1 + 1 := ⟨_, rfl⟩
  obtain ⟨w2, hW2⟩ : ∃ W, W = (w1).alloc (.cells #[.slice none 0 0, .slice none 0 0] 34) := ⟨_, rfl⟩
  have hz2 : (w1).heap.size = qv2 := by rw [hqv2]; exact hs1
  first | rw [← hW2, ← hqv2] | rw [← hW2]
  have hs2 : w2.heap.size = qv2 + 1 := by rw [hW2, ← hz2]; simp
  have bw : Below (w1).heap.size (w1) w2 := by rw [hW2]; exact (Below.refl _ _).alloc (Nat.le_refl _) _
  have hb2 := hbt hb1 bw
  have HBv1_2 := hblk HBv1_1 bw
  have HNv1v2 : Hid (qv1 ≠ qv2) := fun e => by have h1 := (Array.getElem?_eq_some_iff.1 HBv1_1.out).1; omega
  have HBv2_2 : Hid ((w2).heap[qv2]? = some (.cells #[.slice none 0 0, .slice none 0 0] 34)) := by show _ = _; rw [hW2, ← hz2]; exact heap_alloc_new _ _
  have HGv2 : Hid (w.heap.size ≤ qv2) := by show _ ≤ _; rw [← hz2]; exact hb1.size
  clear hb1 HBv1_1 bw hW2 hz2
  clear hs2 hqv2 hs1 hqv1
  go_upto_region 2 with fail
  obtain ⟨qv3, hqv3⟩ : ∃ q, q = (w2).heap.size := ⟨_, rfl⟩
  obtain ⟨w3, hW3⟩ : ∃ W, W = (w2).alloc (.cells #[.slice none 0 0, .slice none 0 0] 34) := ⟨_, rfl⟩
  have hz3 : (w2).heap.size = qv3 := hqv3.symm
  first | rw [← hW3, ← hqv3] | rw [← hW3]
  have hs3 : w3.heap.size = qv3 + 1 := by rw [hW3, ← hz3]; simp
  have bw : Below (w2).heap.size (w2) w3 := by rw [hW3]; exact (Below.refl _ _).alloc (Nat.le_refl _) _
  have hb3 := hbt hb2 bw
  have HBv1_3 := hblk HBv1_2 bw
  have HBv2_3 := hblk HBv2_2 bw
  have HNv1v3 : Hid (qv1 ≠ qv3) := fun e => by have h1 := (Array.getElem?_eq_some_iff.1 HBv1_2.out).1; omega
  have HNv2v3 : Hid (qv2 ≠ qv3) := fun e => by have h1 := (Array.getElem?_eq_some_iff.1 HBv2_2.out).1; omega
  have HBv3_3 : Hid ((w3).heap[qv3]? = some (.cells #[.slice none 0 0, .slice none 0 0] 34)) := by show _ = _; rw [hW3, ← hz3]; exact heap_alloc_new _ _
  have HGv3 : Hid (w.heap.size ≤ qv3) := by show _ ≤ _; rw [← hz3]; exact hb2.size
  clear hb2 HBv1_2 HBv2_2 bw hW3 hz3
  clear hs3 hqv3
  have cv1_0 : (w3).cell? ⟨qv1, 0, none⟩ = some (.slice a1 n1 c1) := (cell_of HBv1_3.out 0).trans rfl
  go_wp2_with fail
  refine (toStringS_any B a1 n1 c1 cs _ (HA1.out _ hb3) (HBB.out _ hb3) hn1).mono ?_
  rintro e w4 ⟨vv, rfl, ownC, bw⟩
  obtain ⟨oC, pC, rfl⟩ := slice_of_owns ownC
  have hb4 := hbt hb3 bw
  have HBv1_4 := hblk HBv1_3 bw
  have HBv2_4 := hblk HBv2_3 bw
  have HBv3_4 := hblk HBv3_3 bw
  have HOC_4 : Hid ((w4).ownsRow w.heap.size 9 1 (.slice oC n1 pC) n1 (cs.map Value.string)) := owns_wide ownC hb3.size
  clear ownC
  clear hb3 HBv1_3 HBv2_3 HBv3_3 bw
  clear cv1_0
  have cv3_0 : (w4).cell? ⟨qv3, 0, none⟩ = some (.slice none 0 0) := (cell_of HBv3_4.out 0).trans rfl
  have fcv3_0 : (w4).frozen? ⟨qv3, 0, none⟩ = false := frozen_of HBv3_4.out 0
  go_upto_region 3 with fail
  obtain ⟨w5, hW5⟩ : ∃ W, W = (w4).setCell ⟨qv3, 0, none⟩ (.slice oC n1 pC) := ⟨_, rfl⟩
  rw [← hW5]
  have hb5 : Below w.heap.size w (w5) := by rw [hW5]; exact (hb4.setCell (p := ⟨qv3, 0, none⟩) HGv3.out _)
  have HOC_5 := hsetR hW5 (own_ne HOC_4.out HBv3_4.out (by decide)) HOC_4
  have HBv1_5 := hset hW5 HNv1v3.out HBv1_4
  have HBv2_5 := hset hW5 HNv2v3.out HBv2_4
  have HBv3_5 : Hid ((w5).heap[qv3]? = some (.cells #[.slice oC n1 pC, .slice none 0 0] 34)) := by show _ = _; rw [hW5]; have h := heap_set _ _ 0 _ _ _ (.slice oC n1 pC) HBv3_4.out; simpa using h
  clear hb4 HOC_4 HBv1_4 HBv2_4 HBv3_4 hW5
  clear cv3_0 fcv3_0
  have cv1_1 : (w5).cell? ⟨qv1, 1, none⟩ = some (.slice a2 n2 c2) := (cell_of HBv1_5.out 1).trans rfl
  go_wp2_with fail
  refine (toWriteS_any B a2 n2 c2 ws _ (HA2.out _ hb5) (HBB.out _ hb5) hn2).mono ?_
  rintro e w6 ⟨vv, rfl, ownP, bw⟩
  obtain ⟨oP, pP, rfl⟩ := slice_of_owns ownP
  have hb6 := hbt hb5 bw
  have HOC_6 := hown HOC_5 bw
  have HBv1_6 := hblk HBv1_5 bw
  have HBv2_6 := hblk HBv2_5 bw
  have HBv3_6 := hblk HBv3_5 bw
  have HOP_6 : Hid ((w6).ownsRow w.heap.size 110 2 (.slice oP n2 pP) n2 (flatWrite ws)) := owns_wide ownP hb5.size
  clear ownP
  clear hb5 HOC_5 HBv1_5 HBv2_5 HBv3_5 bw
  clear cv1_1
  have cv3_1 : (w6).cell? ⟨qv3, 1, none⟩ = some (.slice none 0 0) := (cell_of HBv3_6.out 1).trans rfl
  have fcv3_1 : (w6).frozen? ⟨qv3, 1, none⟩ = false := frozen_of HBv3_6.out 1
  go_upto_region 4 with fail
  obtain ⟨w7, hW7⟩ : ∃ W, W = (w6).setCell ⟨qv3, 1, none⟩ (.slice oP n2 pP) := ⟨_, rfl⟩
  rw [← hW7]
  have hb7 : Below w.heap.size w (w7) := by rw [hW7]; exact (hb6.setCell (p := ⟨qv3, 1, none⟩) HGv3.out _)
  have HOC_7 := hsetR hW7 (own_ne HOC_6.out HBv3_6.out (by decide)) HOC_6
  have HOP_7 := hsetR hW7 (own_ne HOP_6.out HBv3_6.out (by decide)) HOP_6
  have HBv1_7 := hset hW7 HNv1v3.out HBv1_6
  have HBv2_7 := hset hW7 HNv2v3.out HBv2_6
  have HBv3_7 : Hid ((w7).heap[qv3]? = some (.cells #[.slice oC n1 pC, .slice oP n2 pP] 34)) := by show _ = _; rw [hW7]; have h := heap_set _ _ 1 _ _ _ (.slice oP n2 pP) HBv3_6.out; simpa using h
  clear hb6 HOC_6 HOP_6 HBv1_6 HBv2_6 HBv3_6 hW7
  clear cv3_1 fcv3_1
  have cv2_0 : (w7).cell? ⟨qv2, 0, none⟩ = some (.slice none 0 0) := (cell_of HBv2_7.out 0).trans rfl
  have fcv2_0 : (w7).frozen? ⟨qv2, 0, none⟩ = false := frozen_of HBv2_7.out 0
  have cv2_1 : (w7).cell? ⟨qv2, 1, none⟩ = some (.slice none 0 0) := (cell_of HBv2_7.out 1).trans rfl
  have fcv2_1 : (w7).frozen? ⟨qv2, 1, none⟩ = false := frozen_of HBv2_7.out 1
  have cv3_0 : (w7).cell? ⟨qv3, 0, none⟩ = some (.slice oC n1 pC) := (cell_of HBv3_7.out 0).trans rfl
  have cv3_1 : (w7).cell? ⟨qv3, 1, none⟩ = some (.slice oP n2 pP) := (cell_of HBv3_7.out 1).trans rfl
  go_wp2_with fail
  obtain ⟨w8, hW8⟩ : ∃ W, W = (w7).setCell ⟨qv2, 0, none⟩ (.slice oC n1 pC) := ⟨_, rfl⟩
  rw [← hW8]
  have hb8 : Below w.heap.size w (w8) := by rw [hW8]; exact (hb7.setCell (p := ⟨qv2, 0, none⟩) HGv2.out _)
  have HOC_8 := hsetR hW8 (own_ne HOC_7.out HBv2_7.out (by decide)) HOC_7
  have HOP_8 := hsetR hW8 (own_ne HOP_7.out HBv2_7.out (by decide)) HOP_7
  have HBv1_8 := hset hW8 HNv1v2.out HBv1_7
  have HBv3_8 := hset hW8 HNv2v3.out.symm HBv3_7
  have HBv2_8 : Hid ((w8).heap[qv2]? = some (.cells #[.slice oC n1 pC, .slice none 0 0] 34)) := by show _ = _; rw [hW8]; have h := heap_set _ _ 0 _ _ _ (.slice oC n1 pC) HBv2_7.out; simpa using h
  clear hb7 HOC_7 HOP_7 HBv1_7 HBv2_7 HBv3_7 hW8
  obtain ⟨w9, hW9⟩ : ∃ W, W = (w8).setCell ⟨qv2, 1, none⟩ (.slice oP n2 pP) := ⟨_, rfl⟩
  rw [← hW9]
  have hb9 : Below w.heap.size w (w9) := by rw [hW9]; exact (hb8.setCell (p := ⟨qv2, 1, none⟩) HGv2.out _)
  have HOC_9 := hsetR hW9 (own_ne HOC_8.out HBv2_8.out (by decide)) HOC_8
  have HOP_9 := hsetR hW9 (own_ne HOP_8.out HBv2_8.out (by decide)) HOP_8
  have HBv1_9 := hset hW9 HNv1v2.out HBv1_8
  have HBv3_9 := hset hW9 HNv2v3.out.symm HBv3_8
  have HBv2_9 : Hid ((w9).heap[qv2]? = some (.cells #[.slice oC n1 pC, .slice oP n2 pP] 34)) := by show _ = _; rw [hW9]; have h := heap_set _ _ 1 _ _ _ (.slice oP n2 pP) HBv2_8.out; simpa using h
  clear hb8 HOC_8 HOP_8 HBv1_8 HBv2_8 HBv3_8 hW9
  have kv2_0 : (w9).cell? ⟨qv2, 0, none⟩ = some (.slice oC n1 pC) := (cell_of HBv2_9.out 0).trans rfl
  have kv2_1 : (w9).cell? ⟨qv2, 1, none⟩ = some (.slice oP n2 pP) := (cell_of HBv2_9.out 1).trans rfl
  refine bodyPost_ret (v := .agg #[.slice oC n1 pC, .slice oP n2 pP]) (by simp [results, Tryz.results27, go_sem, kv2_0, kv2_1]) rfl ?_
  exact ⟨_, _, rfl, ⟨HOC_9.out, HOP_9.out⟩, hb9⟩

/-- A disk's measure: negative, or what is left of L. -/
def SzDiskR (L : Int) (n1 : Nat) (cs : List ByteArray) (n2 : Nat) (ws : List (Int × ByteArray)) (w : World) (e : Ending) (w' : World) : Prop :=
  ∃ r : Int, e = .returned (.int .i64 r) ∧ r ≤ L ∧ (0 ≤ r → r + (n1 : Int) + (n2 : Int) ≤ L ∧ (n1 ≤ 1048576 ∧ ∀ i, i < n1 → (textAt cs i).size ≤ 1048576) ∧ n2 ≤ 1048576 ∧ ∀ x ∈ ws, (x.2).size ≤ 1048576) ∧ Below w.heap.size w w'
set_option maxHeartbeats 8000000 in
set_option maxRecDepth 100000 in
theorem szDisk_room (L : Int) (hL0 : 0 ≤ L) (hL1 : L ≤ 1048576) (a1 : Option Addr) (n1 c1 : Nat) (cs : List ByteArray) (a2 : Option Addr) (n2 c2 : Nat) (ws : List (Int × ByteArray)) (B : Nat) (w : World) (h1 : ArgT w B a1 n1 cs) (h2 : ArgWrite w B a2 n2 ws) (hB : B ≤ w.heap.size) (hn1 : n1 ≤ maxLen) (hn2 : n2 ≤ maxLen) (hs1 : ∀ i, i < n1 → (textAt cs i).size ≤ maxLen) (hs2 : ∀ x ∈ ws, (x.2).size ≤ maxLen) :
    Calls Tryz.prog 20 #[.agg #[.slice a1 n1 c1, .slice a2 n2 c2], .int .i64 L] w fun e w' => SzDiskR L n1 cs n2 ws w e w' := by
  have HA1 : Hid (∀ W, Below w.heap.size w W → ArgT W B a1 n1 cs) := fun W h => h1.below (h.mono hB)
  have HA2 : Hid (∀ W, Below w.heap.size w W → ArgWrite W B a2 n2 ws) := fun W h => h2.below (h.mono hB)
  have HBB : Hid (∀ W, Below w.heap.size w W → B ≤ W.heap.size) := fun W h => Nat.le_trans hB h.size
  clear h1 h2 hB
  have HN1 : Hid (n1 ≤ maxLen) := hn1
  have HN2 : Hid (n2 ≤ maxLen) := hn2
  have HS1 : Hid (∀ i, i < n1 → (textAt cs i).size ≤ maxLen) := hs1
  have HS2 : Hid (∀ x ∈ ws, (x.2).size ≤ maxLen) := hs2
  clear hs1 hs2 hn1 hn2
  have hb0 : Below w.heap.size w w := Below.refl _ _
  go_enter Tryz.func20, Tryz.ntmps20
  go_upto_region 1 with fail
  obtain ⟨qv1, hqv1⟩ : ∃ q, q = (w).heap.size := ⟨_, rfl⟩
  obtain ⟨w1, hW1⟩ : ∃ W, W = (w).alloc (.cells #[.slice a1 n1 c1, .slice a2 n2 c2] 25) := ⟨_, rfl⟩
  have hz1 : (w).heap.size = qv1 := hqv1.symm
  first | rw [← hW1, ← hqv1] | rw [← hW1]
  have hs1 : w1.heap.size = qv1 + 1 := by rw [hW1, ← hz1]; simp
  have bw : Below (w).heap.size (w) w1 := by rw [hW1]; exact (Below.refl _ _).alloc (Nat.le_refl _) _
  have hb1 := hbt hb0 bw
  have HBv1_1 : Hid ((w1).heap[qv1]? = some (.cells #[.slice a1 n1 c1, .slice a2 n2 c2] 25)) := by show _ = _; rw [hW1, ← hz1]; exact heap_alloc_new _ _
  clear hb0 bw hW1 hz1
  clear hs1 hqv1
  have cv1_0 : (w1).cell? ⟨qv1, 0, none⟩ = some (.slice a1 n1 c1) := (cell_of HBv1_1.out 0).trans rfl
  go_wp2_with fail
  refine (szStringS_exact L (by omega) (by omega) B a1 n1 c1 cs _ (HA1.out _ hb1) (HBB.out _ hb1) HN1.out HS1.out).mono ?_
  rintro e w2 ⟨r1, rfl, hl1, hr1, bw⟩
  have hb2 := hbt hb1 bw
  have HBv1_2 := hblk HBv1_1 bw
  clear hb1 HBv1_1 bw
  clear cv1_0
  by_cases hc1 : r1 < 0
  · clear hr1
    go_wp2_with fail
    go_ret
    exact ⟨-1, rfl, by omega, fun h => absurd h (by omega), hb2⟩
  · obtain ⟨he1, hm1, hz1⟩ := hr1 (by omega)
    have HZ1 : Hid _ := hz1
    clear hr1 hz1
    have cv1_1 : (w2).cell? ⟨qv1, 1, none⟩ = some (.slice a2 n2 c2) := (cell_of HBv1_2.out 1).trans rfl
    go_wp2_with fail
    refine (szWriteS_room r1 (by omega) (by omega) B a2 n2 c2 ws _ (HA2.out _ hb2) (HBB.out _ hb2) HN2.out HS2.out).mono ?_
    rintro e w3 ⟨r2, rfl, hl2, hr2, bw⟩
    have hb3 := hbt hb2 bw
    have HBv1_3 := hblk HBv1_2 bw
    clear hb2 HBv1_2 bw
    clear cv1_1
    by_cases hc2 : r2 < 0
    · clear hr2
      go_wp2_with fail
      go_ret
      exact ⟨-1, rfl, by omega, fun h => absurd h (by omega), hb3⟩
    · obtain ⟨he2, hm2, hz2⟩ := hr2 (by omega)
      have HZ2 : Hid _ := hz2
      clear hr2 hz2
      go_wp2_with fail
      go_ret
      exact ⟨_, rfl, by omega, fun _ => ⟨by omega, ⟨by omega, HZ1.out⟩, by omega, HZ2.out⟩, hb3⟩

set_option maxHeartbeats 8000000 in
set_option maxRecDepth 100000 in
theorem eqDisk_any (n1 : Nat) (cs : List ByteArray) (n2 : Nat) (ws : List (Int × ByteArray)) (v1 v2 u1 u2 : Value) (B1 B2 : Nat) (w : World) (hx : DiskO w B1 v1 n1 cs v2 n2 ws) (hy : DiskO w B2 u1 n1 cs u2 n2 ws) (hn1 : n1 ≤ 2000000) (hn2 : n2 ≤ 2000000) :
    Calls Tryz.prog 34 #[.agg #[v1, v2], .agg #[u1, u2]] w fun e w' => e = .returned (.bool true) ∧ Below w.heap.size w w' := by
  obtain ⟨oCx, pCx, rfl⟩ := slice_of_owns hx.cells
  have HOCx_0 : Hid ((w).ownsRow B1 9 1 (.slice oCx n1 pCx) n1 (cs.map Value.string)) := hx.cells
  obtain ⟨oPx, pPx, rfl⟩ := slice_of_owns hx.pend
  have HOPx_0 : Hid ((w).ownsRow B1 110 2 (.slice oPx n2 pPx) n2 (flatWrite ws)) := hx.pend
  clear hx
  obtain ⟨oCy, pCy, rfl⟩ := slice_of_owns hy.cells
  have HOCy_0 : Hid ((w).ownsRow B2 9 1 (.slice oCy n1 pCy) n1 (cs.map Value.string)) := hy.cells
  obtain ⟨oPy, pPy, rfl⟩ := slice_of_owns hy.pend
  have HOPy_0 : Hid ((w).ownsRow B2 110 2 (.slice oPy n2 pPy) n2 (flatWrite ws)) := hy.pend
  clear hy
  have hb0 : Below w.heap.size w w := Below.refl _ _
  go_enter Tryz.func34, Tryz.ntmps34
  go_upto_region 1 with fail
  obtain ⟨qv1, hqv1⟩ : ∃ q, q = (w).heap.size := ⟨_, rfl⟩
  obtain ⟨w1, hW1⟩ : ∃ W, W = (w).alloc (.cells #[.slice oCx n1 pCx, .slice oPx n2 pPx] 34) := ⟨_, rfl⟩
  have hz1 : (w).heap.size = qv1 := hqv1.symm
  first | rw [← hW1, ← hqv1] | rw [← hW1]
  have hs1 : w1.heap.size = qv1 + 1 := by rw [hW1, ← hz1]; simp
  have bw : Below (w).heap.size (w) w1 := by rw [hW1]; exact (Below.refl _ _).alloc (Nat.le_refl _) _
  have hb1 := hbt hb0 bw
  have HOCx_1 := hown HOCx_0 bw
  have HOPx_1 := hown HOPx_0 bw
  have HOCy_1 := hown HOCy_0 bw
  have HOPy_1 := hown HOPy_0 bw
  have HBv1_1 : Hid ((w1).heap[qv1]? = some (.cells #[.slice oCx n1 pCx, .slice oPx n2 pPx] 34)) := by show _ = _; rw [hW1, ← hz1]; exact heap_alloc_new _ _
  clear hb0 HOCx_0 HOPx_0 HOCy_0 HOPy_0 bw hW1 hz1
  obtain ⟨qv2, hqv2⟩ : ∃ q, q = qv1 + 1 := ⟨_, rfl⟩
  obtain ⟨w2, hW2⟩ : ∃ W, W = (w1).alloc (.cells #[.slice oCy n1 pCy, .slice oPy n2 pPy] 34) := ⟨_, rfl⟩
  have hz2 : (w1).heap.size = qv2 := by rw [hqv2]; exact hs1
  first | rw [← hW2, ← hqv2] | rw [← hW2]
  have hs2 : w2.heap.size = qv2 + 1 := by rw [hW2, ← hz2]; simp
  have bw : Below (w1).heap.size (w1) w2 := by rw [hW2]; exact (Below.refl _ _).alloc (Nat.le_refl _) _
  have hb2 := hbt hb1 bw
  have HOCx_2 := hown HOCx_1 bw
  have HOPx_2 := hown HOPx_1 bw
  have HOCy_2 := hown HOCy_1 bw
  have HOPy_2 := hown HOPy_1 bw
  have HBv1_2 := hblk HBv1_1 bw
  have HBv2_2 : Hid ((w2).heap[qv2]? = some (.cells #[.slice oCy n1 pCy, .slice oPy n2 pPy] 34)) := by show _ = _; rw [hW2, ← hz2]; exact heap_alloc_new _ _
  clear hb1 HOCx_1 HOPx_1 HOCy_1 HOPy_1 HBv1_1 bw hW2 hz2
  clear hs2 hqv2 hs1 hqv1
  have cv1_0 : (w2).cell? ⟨qv1, 0, none⟩ = some (.slice oCx n1 pCx) := (cell_of HBv1_2.out 0).trans rfl
  have cv2_0 : (w2).cell? ⟨qv2, 0, none⟩ = some (.slice oCy n1 pCy) := (cell_of HBv2_2.out 0).trans rfl
  go_wp2_with fail
  refine (eqS_any _ _ n1 _ _ cs _ HOCx_2.out HOCy_2.out (by omega)).mono ?_
  rintro e w3 ⟨rfl, bw⟩
  have hb3 := hbt hb2 bw
  have HOCx_3 := hown HOCx_2 bw
  have HOPx_3 := hown HOPx_2 bw
  have HOCy_3 := hown HOCy_2 bw
  have HOPy_3 := hown HOPy_2 bw
  have HBv1_3 := hblk HBv1_2 bw
  have HBv2_3 := hblk HBv2_2 bw
  clear hb2 HOCx_2 HOPx_2 HOCy_2 HOPy_2 HBv1_2 HBv2_2 bw
  clear cv1_0 cv2_0
  have cv1_1 : (w3).cell? ⟨qv1, 1, none⟩ = some (.slice oPx n2 pPx) := (cell_of HBv1_3.out 1).trans rfl
  have cv2_1 : (w3).cell? ⟨qv2, 1, none⟩ = some (.slice oPy n2 pPy) := (cell_of HBv2_3.out 1).trans rfl
  go_wp2_with fail
  refine (eqWriteS_any _ _ n2 _ _ ws _ (write_view HOPx_3.out) (write_view HOPy_3.out) (by omega)).mono ?_
  rintro e w4 ⟨rfl, bw⟩
  have hb4 := hbt hb3 bw
  have HOCx_4 := hown HOCx_3 bw
  have HOPx_4 := hown HOPx_3 bw
  have HOCy_4 := hown HOCy_3 bw
  have HOPy_4 := hown HOPy_3 bw
  have HBv1_4 := hblk HBv1_3 bw
  have HBv2_4 := hblk HBv2_3 bw
  clear hb3 HOCx_3 HOPx_3 HOCy_3 HOPy_3 HBv1_3 HBv2_3 bw
  clear cv1_1 cv2_1
  go_wp2_with fail
  go_ret
  exact ⟨rfl, hb4⟩

set_option maxHeartbeats 8000000 in
set_option maxRecDepth 100000 in
theorem markDisk_any (n1 : Nat) (cs : List ByteArray) (n2 : Nat) (ws : List (Int × ByteArray)) (v1 v2 : Value) (B : Nat) (w : World) (hx : DiskO w B v1 n1 cs v2 n2 ws) (hB : B ≤ w.heap.size) (k0 : Nat) (hk0 : 1 ≤ k0) (hk : k0 + n1 + 2 * n2 ≤ 9999998) :
    Calls Tryz.prog 49 #[.agg #[v1, v2], .int .i64 (k0 : Int)] w fun e w' => e = .returned (.int .i64 (((k0 + n1 + 2 * n2) : Nat) : Int)) ∧ DiskO w' B v1 n1 (mkT k0 cs n1) v2 n2 (mkWrite (k0 + n1) ws n2) ∧ Below B w w' ∧ (∀ g, g < w.heap.size → v1.ownBlock ≠ some g → v2.ownBlock ≠ some g → w'.heap[g]? = w.heap[g]?) := by
  obtain ⟨oCx, pCx, rfl⟩ := slice_of_owns hx.cells
  have HOCx_0 : Hid ((w).ownsRow B 9 1 (.slice oCx n1 pCx) n1 (cs.map Value.string)) := hx.cells
  obtain ⟨oPx, pPx, rfl⟩ := slice_of_owns hx.pend
  have HOPx_0 : Hid ((w).ownsRow B 110 2 (.slice oPx n2 pPx) n2 (flatWrite ws)) := hx.pend
  clear hx
  have hb0 : Below B w w := Below.refl _ _
  have HFAR_0 : Hid (∀ g, g < w.heap.size → (Value.ownBlock (.slice oCx n1 pCx)) ≠ some g → (Value.ownBlock (.slice oPx n2 pPx)) ≠ some g → (w).heap[g]? = w.heap[g]?) := fun _ _ _ _ => rfl
  go_enter Tryz.func49, Tryz.ntmps49
  go_upto_region 1 with fail
  obtain ⟨qv1, hqv1⟩ : ∃ q, q = (w).heap.size := ⟨_, rfl⟩
  obtain ⟨w1, hW1⟩ : ∃ W, W = (w).alloc (.cells #[.slice oCx n1 pCx, .slice oPx n2 pPx] 34) := ⟨_, rfl⟩
  have hz1 : (w).heap.size = qv1 := hqv1.symm
  first | rw [← hW1, ← hqv1] | rw [← hW1]
  have hs1 : w1.heap.size = qv1 + 1 := by rw [hW1, ← hz1]; simp
  have bw : Below (w).heap.size (w) w1 := by rw [hW1]; exact (Below.refl _ _).alloc (Nat.le_refl _) _
  have hb1 : Below B w (w1) := hb0.trans (bw.mono (Nat.le_trans hB hb0.size))
  have HOCx_1 := hown HOCx_0 bw
  have HOPx_1 := hown HOPx_0 bw
  have HFAR_1 : Hid (∀ g, g < w.heap.size → (Value.ownBlock (.slice oCx n1 pCx)) ≠ some g → (Value.ownBlock (.slice oPx n2 pPx)) ≠ some g → (w1).heap[g]? = w.heap[g]?) := fun g hg aCx aPx => (bw.block g (Nat.lt_of_lt_of_le hg hb0.size)).trans (HFAR_0.out g hg aCx aPx)
  have HBv1_1 : Hid ((w1).heap[qv1]? = some (.cells #[.slice oCx n1 pCx, .slice oPx n2 pPx] 34)) := by show _ = _; rw [hW1, ← hz1]; exact heap_alloc_new _ _
  clear hb0 HFAR_0 HOCx_0 HOPx_0 bw hW1 hz1
  clear hs1 hqv1
  have cv1_0 : (w1).cell? ⟨qv1, 0, none⟩ = some (.slice oCx n1 pCx) := (cell_of HBv1_1.out 0).trans rfl
  go_wp2_with fail
  refine (markTFrom_any _ n1 B cs _ HOCx_1.out (Nat.le_trans hB hb1.size) k0 (by omega) (by omega)).mono ?_
  rintro e w2 ⟨rfl, mk, bm, far⟩
  have hb2 : Below B w w2 := hb1.trans bm
  have HOPx_2 : Hid ((w2).ownsRow B 110 2 (.slice oPx n2 pPx) n2 (flatWrite ws)) := owns_same HOPx_1.out (fun g hg => far g (owns_lt HOPx_1.out hg) (own_type_ne HOPx_1.out HOCx_1.out (by decide) g hg))
  have HBv1_2 : Hid ((w2).heap[qv1]? = some (.cells #[.slice oCx n1 pCx, .slice oPx n2 pPx] 34)) := blk_far HBv1_1.out far HOCx_1.out (by decide)
  have HFAR_2 : Hid (∀ g, g < w.heap.size → (Value.ownBlock (.slice oCx n1 pCx)) ≠ some g → (Value.ownBlock (.slice oPx n2 pPx)) ≠ some g → (w2).heap[g]? = w.heap[g]?) := fun g hg aCx aPx => (far g (Nat.lt_of_lt_of_le hg hb1.size) aCx).trans (HFAR_1.out g hg aCx aPx)
  have HOCx_2 : Hid ((w2).ownsRow B 9 1 (.slice oCx n1 pCx) n1 ((mkT k0 cs n1).map Value.string)) := mk
  clear hb1 HFAR_1 HOCx_1 HOPx_1 HBv1_1 mk bm far
  clear cv1_0
  have cv1_1 : (w2).cell? ⟨qv1, 1, none⟩ = some (.slice oPx n2 pPx) := (cell_of HBv1_2.out 1).trans rfl
  rw [show ((k0 : Int) + (n1 : Int)) = ((k0 + n1 : Nat) : Int) by omega]
  go_wp2_with fail
  refine (markWriteS_any _ n2 _ B ws _ HOPx_2.out (Nat.le_trans hB hb2.size) (k0 + n1) (by omega) (by omega)).mono ?_
  rintro e w3 ⟨rfl, mk, bm, far⟩
  have hb3 : Below B w w3 := hb2.trans bm
  have HOCx_3 : Hid ((w3).ownsRow B 9 1 (.slice oCx n1 pCx) n1 ((mkT k0 cs n1).map Value.string)) := owns_same HOCx_2.out (fun g hg => far g (owns_lt HOCx_2.out hg) (own_type_ne HOCx_2.out HOPx_2.out (by decide) g hg))
  have HBv1_3 : Hid ((w3).heap[qv1]? = some (.cells #[.slice oCx n1 pCx, .slice oPx n2 pPx] 34)) := blk_far HBv1_2.out far HOPx_2.out (by decide)
  have HFAR_3 : Hid (∀ g, g < w.heap.size → (Value.ownBlock (.slice oCx n1 pCx)) ≠ some g → (Value.ownBlock (.slice oPx n2 pPx)) ≠ some g → (w3).heap[g]? = w.heap[g]?) := fun g hg aCx aPx => (far g (Nat.lt_of_lt_of_le hg hb2.size) aPx).trans (HFAR_2.out g hg aCx aPx)
  have HOPx_3 : Hid ((w3).ownsRow B 110 2 (.slice oPx n2 pPx) n2 (flatWrite (mkWrite (k0 + n1) ws n2))) := mk
  clear hb2 HFAR_2 HOCx_2 HOPx_2 HBv1_2 mk bm far
  clear cv1_1
  go_wp2_with fail
  go_ret
  exact ⟨congrArg (fun x : Int => Ending.returned (.int .i64 x)) (show (((k0 + n1 : Nat) : Int) + 2 * (n2 : Int)) = (((k0 + n1 + 2 * n2) : Nat) : Int) by omega), ⟨HOCx_3.out, HOPx_3.out⟩, hb3, HFAR_3.out⟩

end Go.Proofs.YtcipbkkpkhameaaGreat

namespace Go.Proofs.YtcipbkkpkhameaaGreat
open Go.RowKit
open Go.Lib hiding intOf

/-- A disk of so many cells is right. -/
def DiskN (n : Nat) (ws : List (Int × ByteArray)) : Prop := n = 20 ∧ ws.length ≤ 16 ∧ ∀ x ∈ ws, 0 ≤ x.1 ∧ x.1 ≤ 19
/-- A disk is right. -/
def DiskP (cs : List ByteArray) (ws : List (Int × ByteArray)) : Prop := cs.length = 20 ∧ ws.length ≤ 16 ∧ ∀ x ∈ ws, 0 ≤ x.1 ∧ x.1 ≤ 19
theorem getElem_textAt (l : List ByteArray) (i : Nat) (h : i < l.length) : l[i]? = some (textAt l i) := by
  unfold textAt
  rw [List.getD_eq_getElem?_getD, List.getElem?_eq_getElem h]
  rfl
theorem textAt_set (l : List ByteArray) (k j : Nat) (x : ByteArray) : textAt (l.set k x) j = if j = k ∧ k < l.length then x else textAt l j := by
  unfold textAt
  rw [List.getD_eq_getElem?_getD, List.getElem?_set, List.getD_eq_getElem?_getD]
  by_cases h : j = k
  · subst h
    by_cases h2 : j < l.length
    · simp [h2]
    · rw [if_pos rfl, if_neg h2, if_neg (fun e => h2 e.2), List.getElem?_eq_none (by omega)]
  · rw [if_neg (fun e => h e.symm), if_neg (fun e => h e.1)]
end Go.Proofs.YtcipbkkpkhameaaGreat

namespace Go.Proofs.YtcipbkkpkhameaaGreat
open Go.RowKit
open Go.Lib hiding intOf

/-- Names are right: at most four words. -/
def NamesP (xs : List ByteArray) : Prop := (∀ x ∈ xs, TokOk x) ∧ xs.length ≤ 4
end Go.Proofs.YtcipbkkpkhameaaGreat

namespace Go.Proofs.YtcipbkkpkhameaaGreat
open Go.RowKit
open Go.Lib hiding intOf

theorem starT_list : starT.toList = [42] := by rw [ByteArray.toList_eq]; rfl
theorem textAt_mem (xs : List ByteArray) (j : Nat) (h : j < xs.length) : textAt xs j ∈ xs := by
  unfold textAt
  rw [List.getD_eq_getElem?_getD, List.getElem?_eq_getElem h]
  exact List.getElem_mem _
theorem take_textAt (xs : List ByteArray) (j : Nat) (h : j < xs.length) : xs.take (j + 1) = xs.take j ++ [textAt xs j] := by
  rw [List.take_add_one, List.getElem?_eq_getElem h]
  unfold textAt
  rw [List.getD_eq_getElem?_getD, List.getElem?_eq_getElem h]
  rfl

open Classical in
set_option maxHeartbeats 1000000 in
theorem l8Star_any (oa : Option Addr) (m cm : Nat) (xs : List ByteArray) (w : World) (hx : TextsA w oa m xs) (hm : m ≤ 2000000) :
    Calls Tryz.prog 81 #[.slice oa m cm] w fun e w' => e = .returned (.bool (decide (starT ∈ xs))) ∧ w' = w := by
  have HX : Hid (TextsA w oa m xs) := hx
  clear hx
  go_enter Tryz.func81, Tryz.ntmps81
  go_wp2_with fail
  go_loopw [3] (fun i wr => ∃ j : Nat, j ≤ m ∧ i = .int .i64 (j : Int) ∧ wr = w ∧ Hid (starT ∉ xs.take j)) (fun i _ => m - (intOf i).toNat)
  case atStart => exact ⟨0, Nat.zero_le _, rfl, rfl, by show _ ∉ _; simp⟩
  case round =>
    obtain ⟨j, hj, rfl, rfl, HN⟩ := hrel
    by_cases hlt : (j : Int) < (m : Int)
    · have hjx : j < xs.length := by rw [HX.out.1]; omega
      obtain ⟨g, rfl, hg, hc⟩ := HX.out.2 j (by omega)
      obtain ⟨x, hxx⟩ : ∃ x, x = textAt xs j := ⟨_, rfl⟩
      rw [← hxx] at hc
      by_cases he : x = starT
      · have t0 : (x.toList == starT.toList) = true := (text_beq _ _).2 he
        rw [starT_list] at t0
        have HE : Hid (decide (starT ∈ xs) = true) := decide_eq_true (by rw [← he, hxx]; exact textAt_mem xs j hjx)
        clear he hxx hjx HN
        go_wp2_with fail
        go_ret
        exact ⟨by rw [HE.out]; rfl, rfl⟩
      · have t0 : (x.toList == starT.toList) = false := text_beq_no he
        rw [starT_list] at t0
        have HN2 : Hid (starT ∉ xs.take (j + 1)) := by
          show _ ∉ _
          rw [take_textAt xs j hjx, List.mem_append, ← hxx]
          rintro (h | h)
          · exact HN.out h
          · exact he (List.mem_singleton.1 h).symm
        clear he hxx hjx HN
        go_wp2_with fail
        go_roundw
        case rel => exact ⟨j + 1, by omega, by go_num, trivial, HN2⟩
        case measure => simp [intOf]; omega
    · have HE : Hid (decide (starT ∈ xs) = false) := by
        have h := HN.out
        rw [List.take_of_length_le (by rw [HX.out.1]; omega)] at h
        exact decide_eq_false h
      clear HN
      go_wp2_with fail
      go_ret
      exact ⟨by rw [HE.out]; rfl, rfl⟩

open Classical in
set_option maxHeartbeats 1000000 in
theorem l8Texts_any (oa ob : Option Addr) (m cm n cn : Nat) (xs ys : List ByteArray) (w : World) (hx : TextsA w oa m xs) (hy : TextsA w ob n ys) (hm : m ≤ 2000000) :
    Calls Tryz.prog 66 #[.slice oa m cm, .slice ob n cn] w fun e w' => e = .returned (.bool (decide (xs = ys))) ∧ Below w.heap.size w w' := by
  have HX : Hid (∀ W, Below w.heap.size w W → TextsA W oa m xs) := fun W h => hx.below h
  have HY : Hid (∀ W, Below w.heap.size w W → TextsA W ob n ys) := fun W h => hy.below h
  have HLX : Hid (xs.length = m) := hx.1
  have HLY : Hid (ys.length = n) := hy.1
  clear hx hy
  go_enter Tryz.func66, Tryz.ntmps66
  go_wp2_with fail
  go_loopw [5] (fun i wr => ∃ j : Nat, j ≤ m ∧ j ≤ n ∧ i = .int .i64 (j : Int) ∧ Below w.heap.size w wr ∧ Hid (xs.take j = ys.take j)) (fun i _ => m - (intOf i).toNat)
  case atStart => exact ⟨0, Nat.zero_le _, Nat.zero_le _, rfl, Below.refl _ _, by show _ = _; simp⟩
  case round =>
    obtain ⟨j, hj, hj2, rfl, hbw, HN⟩ := hrel
    by_cases hlt : (j : Int) < (m : Int)
    · by_cases hlt2 : (j : Int) < (n : Int)
      · have hjx : j < xs.length := by rw [HLX.out]; omega
        have hjy : j < ys.length := by rw [HLY.out]; omega
        obtain ⟨g, rfl, hg, hc⟩ := (HX.out wr hbw).2 j (by omega)
        obtain ⟨g2, rfl, hg2, hc2⟩ := (HY.out wr hbw).2 j (by omega)
        obtain ⟨x, hxx⟩ : ∃ x, x = textAt xs j := ⟨_, rfl⟩
        obtain ⟨y, hyy⟩ : ∃ y, y = textAt ys j := ⟨_, rfl⟩
        rw [← hxx] at hc
        rw [← hyy] at hc2
        by_cases he : x = y
        · have HN2 : Hid (xs.take (j + 1) = ys.take (j + 1)) := by
            show _ = _
            rw [take_textAt xs j hjx, take_textAt ys j hjy, ← hxx, ← hyy, HN.out, he]
          subst he
          clear hxx hyy hjx hjy HN
          go_wp2_with fail
          go_quiet (fail)
          go_wp2
          go_roundw
          case rel => exact ⟨j + 1, by omega, by omega, by go_num, below_drewN hbw _, HN2⟩
          case measure => simp [intOf]; omega
        · have t0 : (x.toList == y.toList) = false := text_beq_no he
          have t1 : (x.toList != y.toList) = true := by rw [bne, t0]; rfl
          have HE : Hid (decide (xs = ys) = false) := decide_eq_false (fun h => he (by rw [hxx, hyy, h]))
          clear he hxx hyy hjx hjy HN
          go_wp2_with fail
          go_quiet (fail)
          go_wp2
          go_ret
          exact ⟨by rw [HE.out]; rfl, below_drewN hbw _⟩
      · have HE : Hid (decide (xs = ys) = decide ((m : Int) = (n : Int))) := by
          show _ = _
          rw [decide_eq_decide]
          constructor
          · intro h; have h1 := HLX.out; have h2 := HLY.out; rw [h] at h1; omega
          · intro h; omega
        clear HN
        go_wp2_with fail
        go_ret
        exact ⟨by rw [HE.out]; rfl, hbw⟩
    · have HE : Hid (decide (xs = ys) = decide ((m : Int) = (n : Int))) := by
        show _ = _
        rw [decide_eq_decide]
        constructor
        · intro h; have h1 := HLX.out; have h2 := HLY.out; rw [h] at h1; omega
        · intro h
          have h1 := HN.out
          rw [List.take_of_length_le (by rw [HLX.out]; omega), List.take_of_length_le (by rw [HLY.out]; omega)] at h1
          exact h1
      clear HN
      go_wp2_with fail
      go_ret
      exact ⟨by rw [HE.out]; rfl, hbw⟩

set_option maxHeartbeats 1000000 in
theorem specSuits_any (oa ob : Option Addr) (m cm k ck : Nat) (xs ys : List ByteArray) (v : Value) (n base : Nat) (fs : List (ByteArray × ByteArray)) (w : World) (hx : TextsA w oa m xs) (hm : m ≤ 1048577) (hy : TextsA w ob k ys) (hv : FieldsV w base v n fs) (hn : n ≤ 1073741824) :
    Calls Tryz.prog 38 #[.slice oa m cm, .slice ob k ck, v] w fun e w' => e = .returned (.bool (suitsP xs ys fs)) ∧ Below w.heap.size w w' := by
  classical
  have HY : Hid (∀ W, Below w.heap.size w W → TextsA W ob k ys) := fun W h => hy.below h
  have HLX : Hid (xs.length = m) := hx.1
  obtain ⟨b, hb⟩ : ∃ b, b = suitsP xs ys fs := ⟨_, rfl⟩
  rw [← hb]
  obtain ⟨zs, hzs⟩ : ∃ zs, zs = valsP xs fs := ⟨_, rfl⟩
  have HZ : Hid (valsP xs fs = zs) := hzs.symm
  have HB : Hid (b = (!decide (starT ∈ xs) && decide (zs = ys))) := by
    show _ = _
    rw [hb, hzs]
    unfold suitsP
    by_cases h1 : starT ∈ xs <;> by_cases h2 : valsP xs fs = ys <;> simp [h1, h2]
  have hzl : zs.length = m := by rw [hzs, valsP_len]; exact HLX.out
  obtain ⟨st, hst⟩ : ∃ st, st = decide (starT ∈ xs) := ⟨_, rfl⟩
  have HST : Hid (decide (starT ∈ xs) = st) := hst.symm
  rw [← hst] at HB
  clear hb hzs hst hy
  go_enter Tryz.func38, Tryz.ntmps38
  go_wp2_with fail
  refine (l8Star_any oa m cm xs _ hx (by omega)).mono ?_
  rintro e w1 ⟨rfl, rfl⟩
  rw [HST.out]
  cases st with
  | true =>
    have HE : Hid (b = false) := by show _ = _; rw [HB.out]; rfl
    go_wp2_with fail
    go_ret
    exact ⟨by rw [HE.out]; rfl, Below.refl _ _⟩
  | false =>
    have HE : Hid (b = decide (zs = ys)) := by show _ = _; rw [HB.out]; rfl
    go_wp2_with fail
    refine (specValuesOf_any oa m cm xs v n base fs _ hx hm hv hn).mono ?_
    rintro e w2 ⟨V, rfl, O, b2⟩
    rw [HZ.out, hzl] at O
    obtain ⟨oz, cz, rfl, hz⟩ := texts_own O
    have HB2 : Hid (Below w1.heap.size w1 w2) := b2
    have HZ2 : Hid (TextsA w2 oz m zs) := hz
    have HY2 : Hid (TextsA w2 ob k ys) := HY.out _ b2
    clear O b2 hz hx hv
    go_wp2_with fail
    refine (l8Texts_any oz ob m cz k ck zs ys _ HZ2.out HY2.out (by omega)).mono ?_
    rintro e w3 ⟨rfl, b3⟩
    rw [← HE.out]
    have HB3 : Hid (Below w1.heap.size w1 w3) := HB2.out.trans (b3.mono HB2.out.size)
    clear b3
    go_wp2_with fail
    go_ret
    exact ⟨rfl, HB3.out⟩

end Go.Proofs.YtcipbkkpkhameaaGreat

namespace Go.Proofs.YtcipbkkpkhameaaGreat
open Go.RowKit
open Go.Lib hiding intOf

/-- An object is right. -/
def ObjP (p : ByteArray) (xs ys : List ByteArray) (st : Int) (fs : List (ByteArray × ByteArray)) (b : ByteArray) (t : Int) : Prop :=
  RespP st fs b ∧ PathOk p ∧ (0 ≤ t ∧ t ≤ 1000000) ∧ NamesP xs ∧ xs = varyP fs ∧ ys.length = xs.length ∧ ∀ y ∈ ys, ValOk y
theorem texts_view {w : World} {base n p : Nat} {o : Option Addr} {xs : List ByteArray} (h : w.ownsRow base 9 1 (.slice o n p) n (xs.map Value.string)) : TextsA w o n xs := by
  obtain ⟨oa, ca, he, hx⟩ := texts_own h
  cases he
  exact hx

end Go.Proofs.YtcipbkkpkhameaaGreat

namespace Go.Proofs.YtcipbkkpkhameaaGreat
open Go.RowKit
open Go.Lib hiding intOf

/-- A ban is right. -/
def BanP (k : Int) (a b : ByteArray) (t : Int) : Prop := (0 ≤ t ∧ t ≤ 1000000) ∧ (((k = 1 ∨ k = 2) ∧ PathOk a ∧ b = ⟨#[]⟩) ∨ (k = 3 ∧ TokOk a ∧ ValOk b))
/-- The first is how the second begins. -/
def Begins (a p : ByteArray) : Prop := ∃ r, bs p = bs a ++ r
/-- A ban hits an object. -/
def HitP (k : Int) (a b : ByteArray) (t : Int) (p : ByteArray) (xs ys : List ByteArray) (st : Int) (fs : List (ByteArray × ByteArray)) (d : ByteArray) (u : Int) : Prop :=
  BanP k a b t ∧ ObjP p xs ys st fs d u ∧ u ≤ t ∧ ((k = 1 ∧ p = a) ∨ (k = 2 ∧ Begins a p) ∨ (k = 3 ∧ getB fs a = true ∧ getV fs a = b))

theorem BanP.kinds {k : Int} {a b : ByteArray} {t : Int} (h : BanP k a b t) : k = 1 ∨ k = 2 ∨ k = 3 := by
  rcases h.2 with ⟨h1 | h1, _⟩ | ⟨h1, _⟩
  · exact .inl h1
  · exact .inr (.inl h1)
  · exact .inr (.inr h1)
theorem begins_iff (a p : ByteArray) : Begins a p ↔ a.size ≤ p.size ∧ p.extract 0 a.size = a := by
  constructor
  · rintro ⟨r, h⟩
    have hz := congrArg List.length h
    rw [List.length_append, bs_len, bs_len] at hz
    refine ⟨by omega, bs_inj ?_⟩
    rw [bs_extract, List.drop_zero, h, ← bs_len a, List.take_left]
  · rintro ⟨h1, h2⟩
    refine ⟨(bs p).drop a.size, ?_⟩
    have h3 := congrArg bs h2
    rw [bs_extract, List.drop_zero] at h3
    rw [← h3]
    conv => rhs; rw [h3]
    rw [← h3, List.take_append_drop]

end Go.Proofs.YtcipbkkpkhameaaGreat

namespace Go.Proofs.YtcipbkkpkhameaaGreat
open Go.RowKit
open Go.Lib hiding intOf

set_option maxHeartbeats 8000000 in
set_option maxRecDepth 100000 in
theorem specBanOk_any (k : Int) (a b : ByteArray) (t : Int) (w : World) (ha : a.size ≤ maxLen) (hb : b.size ≤ maxLen) :
    Calls Tryz.prog 25 #[.agg #[.int .i64 k, .string a, .string b, .int .i64 t]] w fun e w' => BoolIs (BanP k a b t) w e w' := by
  have HAM : Hid (a.size ≤ maxLen) := ha
  have HBM : Hid (b.size ≤ maxLen) := hb
  clear ha hb
  have hb0 : Below w.heap.size w w := Below.refl _ _
  go_enter Tryz.func25, Tryz.ntmps25
  go_upto_region 1 with fail
  obtain ⟨qv1, hqv1⟩ : ∃ q, q = (w).heap.size := ⟨_, rfl⟩
  obtain ⟨w1, hW1⟩ : ∃ W, W = (w).alloc (.cells #[.int .i64 k, .string a, .string b, .int .i64 t] 69) := ⟨_, rfl⟩
  have hz1 : (w).heap.size = qv1 := hqv1.symm
  first | rw [← hW1, ← hqv1] | rw [← hW1]
  have hs1 : w1.heap.size = qv1 + 1 := by rw [hW1, ← hz1]; simp
  have bw : Below (w).heap.size (w) w1 := by rw [hW1]; exact (Below.refl _ _).alloc (Nat.le_refl _) _
  have hb1 := hbt hb0 bw
  have HBv1_1 : Hid ((w1).heap[qv1]? = some (.cells #[.int .i64 k, .string a, .string b, .int .i64 t] 69)) := by show _ = _; rw [hW1, ← hz1]; exact heap_alloc_new _ _
  clear hb0 bw hW1 hz1
  clear hs1 hqv1
  have cv1_3 : (w1).cell? ⟨qv1, 3, none⟩ = some (.int .i64 t) := (cell_of HBv1_1.out 3).trans rfl
  go_wp2_with fail
  refine (l1In_any t 0 1000000 _).mono ?_
  rintro e w2 ⟨rfl, hwe⟩
  have bw : Below (w1).heap.size (w1) w2 := by rw [hwe]; exact Below.refl _ _
  clear hwe
  obtain ⟨ut, hut⟩ : ∃ u, u = decide ((0 : Int) ≤ t ∧ t ≤ 1000000) := ⟨_, rfl⟩
  rw [← hut]
  have hb2 := hbt hb1 bw
  have HBv1_2 := hblk HBv1_1 bw
  clear hb1 HBv1_1 bw
  clear cv1_3
  cases ut with
  | false =>
    have Hut : Hid (¬ (0 ≤ t ∧ t ≤ 1000000)) := (show ¬ (0 ≤ t ∧ t ≤ 1000000) from of_decide_eq_false hut.symm)
    clear hut
    go_wp2_with fail
    go_ret
    refine ⟨false, rfl, ?_, hb2⟩
    have zHut := Hut.out
    unfold BanP
    first
      | (simp_all; done)
      | (constructor
         · intro h
           first
             | (cases h; done)
             | exact ⟨zHut, .inl ⟨.inl zHK1, zHup, zHBE⟩⟩
             | exact ⟨zHut, .inl ⟨.inr zHK2, zHup, zHBE⟩⟩
             | exact ⟨zHut, .inr ⟨zHK3, zHuk, zv.1 h⟩⟩
             | exact ⟨zHut, .inr ⟨zHK3, zHuk, zHuv⟩⟩
         · rintro ⟨h1, (⟨h2 | h2, h3, h4⟩ | ⟨h2, h3, h4⟩)⟩
           all_goals first
             | rfl
             | exact zv.2 h4
             | (exfalso; first | exact zHut h1 | exact zHup h3 | exact zHuk h3 | exact zHBE h4 | exact zHuv h4 | omega))
  | true =>
    have Hut : Hid (0 ≤ t ∧ t ≤ 1000000) := (show 0 ≤ t ∧ t ≤ 1000000 from of_decide_eq_true hut.symm)
    clear hut
    have cv1_0 : (w2).cell? ⟨qv1, 0, none⟩ = some (.int .i64 k) := (cell_of HBv1_2.out 0).trans rfl
    by_cases hc1 : k = 1
    · have hc1b : ((k : Int) == (1 : Int)) = true := by simpa using hc1
      have hc1n : ((k : Int) != (1 : Int)) = false := by simpa using hc1
      have HK1 : Hid (k = 1) := hc1
      have hc1H : Hid (k = 1) := hc1
      clear hc1
      have cv1_1 : (w2).cell? ⟨qv1, 1, none⟩ = some (.string a) := (cell_of HBv1_2.out 1).trans rfl
      go_wp2_with fail
      refine (l3Path_any a _ HAM.out).mono ?_
      rintro e w3 ⟨up, rfl, htup, bw⟩
      have hb3 := hbt hb2 bw
      have HM3 : Hid ((w2).heap.size ≤ (w3).heap.size) := bw.size
      have HBv1_3 := hblk HBv1_2 bw
      clear hb2 HBv1_2 bw
      clear cv1_0 cv1_1
      cases up with
      | false =>
        have Hup : Hid (¬ PathOk a) := fun h => nomatch htup.2 h
        clear htup
        go_wp2_with fail
        go_ret
        refine ⟨false, rfl, ?_, hb3⟩
        have zHut := Hut.out
        have zHK1 := HK1.out
        have zHup := Hup.out
        unfold BanP
        first
          | (simp_all; done)
          | (constructor
             · intro h
               first
                 | (cases h; done)
                 | exact ⟨zHut, .inl ⟨.inl zHK1, zHup, zHBE⟩⟩
                 | exact ⟨zHut, .inl ⟨.inr zHK2, zHup, zHBE⟩⟩
                 | exact ⟨zHut, .inr ⟨zHK3, zHuk, zv.1 h⟩⟩
                 | exact ⟨zHut, .inr ⟨zHK3, zHuk, zHuv⟩⟩
             · rintro ⟨h1, (⟨h2 | h2, h3, h4⟩ | ⟨h2, h3, h4⟩)⟩
               all_goals first
                 | rfl
                 | exact zv.2 h4
                 | (exfalso; first | exact zHut h1 | exact zHup h3 | exact zHuk h3 | exact zHBE h4 | exact zHuv h4 | omega))
      | true =>
        have Hup : Hid (PathOk a) := htup.1 rfl
        clear htup
        have cv1_2 : (w3).cell? ⟨qv1, 2, none⟩ = some (.string b) := (cell_of HBv1_3.out 2).trans rfl
        by_cases hc2 : b = ⟨#[]⟩
        · have hc2b : (b).toList.isEmpty = true := isEmpty_yes (by rw [hc2]; rfl)
          have HBE : Hid (b = ⟨#[]⟩) := hc2
          go_wp2_with fail
          go_ret
          refine ⟨true, rfl, ?_, hb3⟩
          have zHut := Hut.out
          have zHK1 := HK1.out
          have zHup := Hup.out
          have zHBE := HBE.out
          unfold BanP
          first
            | (simp_all; done)
            | (constructor
               · intro h
                 first
                   | (cases h; done)
                   | exact ⟨zHut, .inl ⟨.inl zHK1, zHup, zHBE⟩⟩
                   | exact ⟨zHut, .inl ⟨.inr zHK2, zHup, zHBE⟩⟩
                   | exact ⟨zHut, .inr ⟨zHK3, zHuk, zv.1 h⟩⟩
                   | exact ⟨zHut, .inr ⟨zHK3, zHuk, zHuv⟩⟩
               · rintro ⟨h1, (⟨h2 | h2, h3, h4⟩ | ⟨h2, h3, h4⟩)⟩
                 all_goals first
                   | rfl
                   | exact zv.2 h4
                   | (exfalso; first | exact zHut h1 | exact zHup h3 | exact zHuk h3 | exact zHBE h4 | exact zHuv h4 | omega))
        · have hc2b : (b).toList.isEmpty = false := isEmpty_no (Nat.pos_of_ne_zero (fun e => hc2 (empty_text e)))
          have HBE : Hid (¬ b = ⟨#[]⟩) := hc2
          go_wp2_with fail
          go_ret
          refine ⟨false, rfl, ?_, hb3⟩
          have zHut := Hut.out
          have zHK1 := HK1.out
          have zHup := Hup.out
          have zHBE := HBE.out
          unfold BanP
          first
            | (simp_all; done)
            | (constructor
               · intro h
                 first
                   | (cases h; done)
                   | exact ⟨zHut, .inl ⟨.inl zHK1, zHup, zHBE⟩⟩
                   | exact ⟨zHut, .inl ⟨.inr zHK2, zHup, zHBE⟩⟩
                   | exact ⟨zHut, .inr ⟨zHK3, zHuk, zv.1 h⟩⟩
                   | exact ⟨zHut, .inr ⟨zHK3, zHuk, zHuv⟩⟩
               · rintro ⟨h1, (⟨h2 | h2, h3, h4⟩ | ⟨h2, h3, h4⟩)⟩
                 all_goals first
                   | rfl
                   | exact zv.2 h4
                   | (exfalso; first | exact zHut h1 | exact zHup h3 | exact zHuk h3 | exact zHBE h4 | exact zHuv h4 | omega))
    · have hc1b : ((k : Int) == (1 : Int)) = false := by simpa using hc1
      have hc1n : ((k : Int) != (1 : Int)) = true := by simpa using hc1
      have HK1 : Hid (¬ k = 1) := hc1
      have hc1H : Hid (¬ (k = 1)) := hc1
      clear hc1
      by_cases hc2 : k = 2
      · have hc2b : ((k : Int) == (2 : Int)) = true := by simpa using hc2
        have hc2n : ((k : Int) != (2 : Int)) = false := by simpa using hc2
        have HK2 : Hid (k = 2) := hc2
        have hc2H : Hid (k = 2) := hc2
        clear hc2
        have cv1_1 : (w2).cell? ⟨qv1, 1, none⟩ = some (.string a) := (cell_of HBv1_2.out 1).trans rfl
        go_wp2_with fail
        refine (l3Path_any a _ HAM.out).mono ?_
        rintro e w3 ⟨up, rfl, htup, bw⟩
        have hb3 := hbt hb2 bw
        have HM3 : Hid ((w2).heap.size ≤ (w3).heap.size) := bw.size
        have HBv1_3 := hblk HBv1_2 bw
        clear hb2 HBv1_2 bw
        clear cv1_0 cv1_1
        cases up with
        | false =>
          have Hup : Hid (¬ PathOk a) := fun h => nomatch htup.2 h
          clear htup
          go_wp2_with fail
          go_ret
          refine ⟨false, rfl, ?_, hb3⟩
          have zHut := Hut.out
          have zHK1 := HK1.out
          have zHK2 := HK2.out
          have zHup := Hup.out
          unfold BanP
          first
            | (simp_all; done)
            | (constructor
               · intro h
                 first
                   | (cases h; done)
                   | exact ⟨zHut, .inl ⟨.inl zHK1, zHup, zHBE⟩⟩
                   | exact ⟨zHut, .inl ⟨.inr zHK2, zHup, zHBE⟩⟩
                   | exact ⟨zHut, .inr ⟨zHK3, zHuk, zv.1 h⟩⟩
                   | exact ⟨zHut, .inr ⟨zHK3, zHuk, zHuv⟩⟩
               · rintro ⟨h1, (⟨h2 | h2, h3, h4⟩ | ⟨h2, h3, h4⟩)⟩
                 all_goals first
                   | rfl
                   | exact zv.2 h4
                   | (exfalso; first | exact zHut h1 | exact zHup h3 | exact zHuk h3 | exact zHBE h4 | exact zHuv h4 | omega))
        | true =>
          have Hup : Hid (PathOk a) := htup.1 rfl
          clear htup
          have cv1_2 : (w3).cell? ⟨qv1, 2, none⟩ = some (.string b) := (cell_of HBv1_3.out 2).trans rfl
          by_cases hc3 : b = ⟨#[]⟩
          · have hc3b : (b).toList.isEmpty = true := isEmpty_yes (by rw [hc3]; rfl)
            have HBE : Hid (b = ⟨#[]⟩) := hc3
            go_wp2_with fail
            go_ret
            refine ⟨true, rfl, ?_, hb3⟩
            have zHut := Hut.out
            have zHK1 := HK1.out
            have zHK2 := HK2.out
            have zHup := Hup.out
            have zHBE := HBE.out
            unfold BanP
            first
              | (simp_all; done)
              | (constructor
                 · intro h
                   first
                     | (cases h; done)
                     | exact ⟨zHut, .inl ⟨.inl zHK1, zHup, zHBE⟩⟩
                     | exact ⟨zHut, .inl ⟨.inr zHK2, zHup, zHBE⟩⟩
                     | exact ⟨zHut, .inr ⟨zHK3, zHuk, zv.1 h⟩⟩
                     | exact ⟨zHut, .inr ⟨zHK3, zHuk, zHuv⟩⟩
                 · rintro ⟨h1, (⟨h2 | h2, h3, h4⟩ | ⟨h2, h3, h4⟩)⟩
                   all_goals first
                     | rfl
                     | exact zv.2 h4
                     | (exfalso; first | exact zHut h1 | exact zHup h3 | exact zHuk h3 | exact zHBE h4 | exact zHuv h4 | omega))
          · have hc3b : (b).toList.isEmpty = false := isEmpty_no (Nat.pos_of_ne_zero (fun e => hc3 (empty_text e)))
            have HBE : Hid (¬ b = ⟨#[]⟩) := hc3
            go_wp2_with fail
            go_ret
            refine ⟨false, rfl, ?_, hb3⟩
            have zHut := Hut.out
            have zHK1 := HK1.out
            have zHK2 := HK2.out
            have zHup := Hup.out
            have zHBE := HBE.out
            unfold BanP
            first
              | (simp_all; done)
              | (constructor
                 · intro h
                   first
                     | (cases h; done)
                     | exact ⟨zHut, .inl ⟨.inl zHK1, zHup, zHBE⟩⟩
                     | exact ⟨zHut, .inl ⟨.inr zHK2, zHup, zHBE⟩⟩
                     | exact ⟨zHut, .inr ⟨zHK3, zHuk, zv.1 h⟩⟩
                     | exact ⟨zHut, .inr ⟨zHK3, zHuk, zHuv⟩⟩
                 · rintro ⟨h1, (⟨h2 | h2, h3, h4⟩ | ⟨h2, h3, h4⟩)⟩
                   all_goals first
                     | rfl
                     | exact zv.2 h4
                     | (exfalso; first | exact zHut h1 | exact zHup h3 | exact zHuk h3 | exact zHBE h4 | exact zHuv h4 | omega))
      · have hc2b : ((k : Int) == (2 : Int)) = false := by simpa using hc2
        have hc2n : ((k : Int) != (2 : Int)) = true := by simpa using hc2
        have HK2 : Hid (¬ k = 2) := hc2
        have hc2H : Hid (¬ (k = 2)) := hc2
        clear hc2
        by_cases hc3 : k = 3
        · have hc3b : ((k : Int) == (3 : Int)) = true := by simpa using hc3
          have hc3n : ((k : Int) != (3 : Int)) = false := by simpa using hc3
          have HK3 : Hid (k = 3) := hc3
          have hc3H : Hid (k = 3) := hc3
          clear hc3
          have cv1_1 : (w2).cell? ⟨qv1, 1, none⟩ = some (.string a) := (cell_of HBv1_2.out 1).trans rfl
          go_wp2_with fail
          refine (specTokenOk_any a _ HAM.out).mono ?_
          rintro e w3 ⟨uk, rfl, htuk, bw⟩
          have hb3 := hbt hb2 bw
          have HM3 : Hid ((w2).heap.size ≤ (w3).heap.size) := bw.size
          have HBv1_3 := hblk HBv1_2 bw
          clear hb2 HBv1_2 bw
          clear cv1_0 cv1_1
          cases uk with
          | false =>
            have Huk : Hid (¬ TokOk a) := fun h => nomatch htuk.2 h
            clear htuk
            go_wp2_with fail
            go_ret
            refine ⟨false, rfl, ?_, hb3⟩
            have zHut := Hut.out
            have zHK1 := HK1.out
            have zHK2 := HK2.out
            have zHK3 := HK3.out
            have zHuk := Huk.out
            unfold BanP
            first
              | (simp_all; done)
              | (constructor
                 · intro h
                   first
                     | (cases h; done)
                     | exact ⟨zHut, .inl ⟨.inl zHK1, zHup, zHBE⟩⟩
                     | exact ⟨zHut, .inl ⟨.inr zHK2, zHup, zHBE⟩⟩
                     | exact ⟨zHut, .inr ⟨zHK3, zHuk, zv.1 h⟩⟩
                     | exact ⟨zHut, .inr ⟨zHK3, zHuk, zHuv⟩⟩
                 · rintro ⟨h1, (⟨h2 | h2, h3, h4⟩ | ⟨h2, h3, h4⟩)⟩
                   all_goals first
                     | rfl
                     | exact zv.2 h4
                     | (exfalso; first | exact zHut h1 | exact zHup h3 | exact zHuk h3 | exact zHBE h4 | exact zHuv h4 | omega))
          | true =>
            have Huk : Hid (TokOk a) := htuk.1 rfl
            clear htuk
            have cv1_2 : (w3).cell? ⟨qv1, 2, none⟩ = some (.string b) := (cell_of HBv1_3.out 2).trans rfl
            go_wp2_with fail
            refine (specValueOk_any b _ HBM.out).mono ?_
            rintro e w4 ⟨uv, rfl, htuv, bw⟩
            have hb4 := hbt hb3 bw
            have HBv1_4 := hblk HBv1_3 bw
            clear hb3 HBv1_3 bw
            clear cv1_2
            go_wp2_with fail
            go_ret
            refine ⟨uv, rfl, ?_, hb4⟩
            have zHut := Hut.out
            have zHK1 := HK1.out
            have zHK2 := HK2.out
            have zHK3 := HK3.out
            have zHuk := Huk.out
            have zv := htuv
            unfold BanP
            first
              | (simp_all; done)
              | (constructor
                 · intro h
                   first
                     | (cases h; done)
                     | exact ⟨zHut, .inl ⟨.inl zHK1, zHup, zHBE⟩⟩
                     | exact ⟨zHut, .inl ⟨.inr zHK2, zHup, zHBE⟩⟩
                     | exact ⟨zHut, .inr ⟨zHK3, zHuk, zv.1 h⟩⟩
                     | exact ⟨zHut, .inr ⟨zHK3, zHuk, zHuv⟩⟩
                 · rintro ⟨h1, (⟨h2 | h2, h3, h4⟩ | ⟨h2, h3, h4⟩)⟩
                   all_goals first
                     | rfl
                     | exact zv.2 h4
                     | (exfalso; first | exact zHut h1 | exact zHup h3 | exact zHuk h3 | exact zHBE h4 | exact zHuv h4 | omega))
        · have hc3b : ((k : Int) == (3 : Int)) = false := by simpa using hc3
          have hc3n : ((k : Int) != (3 : Int)) = true := by simpa using hc3
          have HK3 : Hid (¬ k = 3) := hc3
          have hc3H : Hid (¬ (k = 3)) := hc3
          clear hc3
          go_wp2_with fail
          go_ret
          refine ⟨false, rfl, ?_, hb2⟩
          have zHut := Hut.out
          have zHK1 := HK1.out
          have zHK2 := HK2.out
          have zHK3 := HK3.out
          unfold BanP
          first
            | (simp_all; done)
            | (constructor
               · intro h
                 first
                   | (cases h; done)
                   | exact ⟨zHut, .inl ⟨.inl zHK1, zHup, zHBE⟩⟩
                   | exact ⟨zHut, .inl ⟨.inr zHK2, zHup, zHBE⟩⟩
                   | exact ⟨zHut, .inr ⟨zHK3, zHuk, zv.1 h⟩⟩
                   | exact ⟨zHut, .inr ⟨zHK3, zHuk, zHuv⟩⟩
               · rintro ⟨h1, (⟨h2 | h2, h3, h4⟩ | ⟨h2, h3, h4⟩)⟩
                 all_goals first
                   | rfl
                   | exact zv.2 h4
                   | (exfalso; first | exact zHut h1 | exact zHup h3 | exact zHuk h3 | exact zHBE h4 | exact zHuv h4 | omega))

end Go.Proofs.YtcipbkkpkhameaaGreat

namespace Go.Proofs.YtcipbkkpkhameaaGreat
open Go.RowKit
open Go.Lib hiding intOf

set_option maxHeartbeats 1000000 in
theorem l9Names_any (oa : Option Addr) (m cm : Nat) (xs : List ByteArray) (w : World) (hx : TextsA w oa m xs) (hm : m ≤ 2000000) (hsz : ∀ i, i < m → (textAt xs i).size ≤ maxLen) :
    Calls Tryz.prog 65 #[.slice oa m cm] w fun e w' => BoolIs (NamesP xs) w e w' := by
  have HX : Hid (∀ W, Below w.heap.size w W → TextsA W oa m xs) := fun W h => hx.below h
  have HL : Hid (xs.length = m) := hx.1
  have HS : Hid (∀ i, i < m → (textAt xs i).size ≤ maxLen) := hsz
  clear hx hsz
  go_enter Tryz.func65, Tryz.ntmps65
  go_wp2_with fail
  go_loopw [3] (fun i wr => ∃ j : Nat, j ≤ m ∧ i = .int .i64 (j : Int) ∧ Below w.heap.size w wr ∧ Hid (∀ x ∈ xs.take j, TokOk x)) (fun i _ => m - (intOf i).toNat)
  case atStart => exact ⟨0, Nat.zero_le _, rfl, Below.refl _ _, fun x hx => by simp at hx⟩
  case round =>
    obtain ⟨j, hj, rfl, hbw, HN⟩ := hrel
    by_cases hlt : (j : Int) < (m : Int)
    · have hjx : j < xs.length := by rw [HL.out]; omega
      obtain ⟨g, rfl, hg, hc⟩ := (HX.out wr hbw).2 j (by omega)
      have hs := HS.out j (by omega)
      obtain ⟨x, hxx⟩ : ∃ x, x = textAt xs j := ⟨_, rfl⟩
      rw [← hxx] at hc hs
      have HM : Hid (x ∈ xs) := by show _ ∈ _; rw [hxx]; exact textAt_mem xs j hjx
      have HT : Hid (xs.take (j + 1) = xs.take j ++ [x]) := by show _ = _; rw [take_textAt xs j hjx, hxx]
      clear hxx hjx
      go_wp2_with fail
      refine (specTokenOk_any x _ hs).mono ?_
      rintro e w1 ⟨t, rfl, ht, b1⟩
      have hb1 : Below w.heap.size w w1 := hbw.trans (b1.mono hbw.size)
      clear b1 hbw hc
      cases t with
      | false =>
        have HF : Hid (¬ NamesP xs) := fun h => nomatch ht.2 (h.1 x HM.out)
        clear ht HN
        go_wp2_with fail
        go_ret
        exact BoolIs.no HF.out hb1
      | true =>
        have HN2 : Hid (∀ y ∈ xs.take (j + 1), TokOk y) := by
          intro y hy
          rw [HT.out] at hy
          rcases List.mem_append.1 hy with hy | hy
          · exact HN.out y hy
          · rw [List.mem_singleton.1 hy]; exact ht.1 rfl
        clear ht HN
        go_wp2_with fail
        go_roundw
        case rel => exact ⟨j + 1, by omega, by go_num, hb1, HN2⟩
        case measure => simp [intOf]; omega
    · have HA : Hid (∀ x ∈ xs, TokOk x) := by
        have h := HN.out
        rw [List.take_of_length_le (by rw [HL.out]; omega)] at h
        exact h
      have HQ : Hid (((m : Int) ≤ 4) ↔ NamesP xs) := ⟨fun h => ⟨HA.out, by rw [HL.out]; omega⟩, fun h => by have := h.2; rw [HL.out] at this; omega⟩
      clear HN
      go_wp2_with fail
      go_ret
      exact ⟨decide ((m : Int) ≤ 4), rfl, by rw [decide_eq_true_iff]; exact HQ.out, hbw⟩

set_option maxHeartbeats 1000000 in
set_option maxRecDepth 100000 in
theorem l9Copy_any (v : Value) (n base : Nat) (fs : List (ByteArray × ByteArray)) (w : World) (hv : FieldsV w base v n fs) (hn : n ≤ 2000000) :
    Calls Tryz.prog 117 #[v] w fun e w' => RowF fs w e w' := by
  obtain ⟨i0, hi, hz0, hz1, hz2⟩ := info_parts info33
  have hl := hv.len
  have h63a : 0 + n ≤ maxLen := by unfold maxLen; omega
  have h47a : (0 + n) * 32 ≤ 140737488355328 := by omega
  have hown0 : (w.alloc (.cells #[] 132)).ownsRow w.heap.size 132 2 (.slice (some ⟨w.heap.size, 0, none⟩) 0 0) 0 [] := ⟨rfl, .inr ⟨w.heap.size, 0, #[], rfl, Nat.le_refl _, heap_alloc_new w _, Nat.le_refl _, Nat.zero_le _, rfl, rfl⟩⟩
  have hbs0 : w.heap.size ≤ (w.alloc (.cells #[] 132)).heap.size := by simp
  have hv1 := hv.below ((Below.refl _ w).alloc (Nat.le_refl _) (.cells #[] 132))
  rcases hv1.src with ⟨rfl, rfl, rfl⟩ | ⟨ad, cap, rfl, hcs⟩
  · have hb2 : Below w.heap.size w (w.alloc (.cells #[] 132)) := (Below.refl _ w).alloc (Nat.le_refl _) _
    clear hv
    go_enter Tryz.func117, Tryz.ntmps117
    go_wp2_with (at_builtin; refine wpList_append_own_none rfl _ _ 46 rfl w.heap.size 132 i0 2 Tryz.underlying46 hi _ _ _ rfl hown0 rfl ?_)
    go_wp2
    go_ret
    exact ⟨_, rfl, hown0, hb2⟩
  · have hnl : (flatF fs).length = n * 2 := by rw [flatF_len, hl]
    go_enter Tryz.func117, Tryz.ntmps117
    go_wp2_with (at_builtin; refine wpList_append_own _ rfl _ _ 46 rfl w.heap.size 132 i0 (.agg #[.string ⟨#[]⟩, .string ⟨#[]⟩]) 2 32 Tryz.underlying46 hi hz0 hz1 hz2 rfl (by decide) _ _ _ rfl hown0 ad n cap (flatF fs) rfl hnl hcs (flat_one _) h63a h47a hbs0 ?_)
    intro v1 w2 hown1 hgrow _
    have hb2 : Below w.heap.size w w2 := ((Below.refl _ w).alloc (Nat.le_refl _) _).grown hgrow hbs0 (fun g hg => owns_ge hown0 hg)
    have hown2 : w2.ownsRow w.heap.size 132 2 v1 fs.length (flatF fs) := by rw [hl]; simpa using hown1
    clear hgrow hown1 hown0 hbs0 hv1 hcs hv
    go_wp2
    go_ret
    exact ⟨_, rfl, hown2, hb2⟩

end Go.Proofs.YtcipbkkpkhameaaGreat

namespace Go.Proofs.YtcipbkkpkhameaaGreat
open Go.RowKit
open Go.Lib hiding intOf

/-- The two cells of a field's memory, written. -/
def twoSet (w : World) (r : Nat) (nm vl : ByteArray) : World := (w.setCell ⟨r, 0, none⟩ (.string nm)).setCell ⟨r, 1, none⟩ (.string vl)
theorem twoSet_heap {w : World} {r : Nat} (nm vl : ByteArray) (h : w.heap[r]? = some (.cells #[.string ⟨#[]⟩, .string ⟨#[]⟩] 132)) : (twoSet w r nm vl).heap[r]? = some (.cells #[.string nm, .string vl] 132) := by
  have := heap_set _ r 1 _ _ _ (.string vl) (heap_set w r 0 _ _ _ (.string nm) h)
  simpa [twoSet] using this
end Go.Proofs.YtcipbkkpkhameaaGreat

namespace Go.Proofs.YtcipbkkpkhameaaGreat
open Go.RowKit
open Go.Lib hiding intOf

set_option maxHeartbeats 1000000 in
theorem place_any (v : Value) (n base : Nat) (fs : List (ByteArray × ByteArray)) (name : ByteArray) (w : World) (hv : FieldsV w base v n fs) (hn : n ≤ 1073741824) :
    Calls Tryz.prog 138 #[v, .string name] w fun e w' => e = .returned (.int .i64 (atF fs name : Int)) ∧ w' = w := by
  have hl := hv.len
  obtain ⟨oa, cap, rfl, hrow⟩ := hv.slice
  clear hv
  go_enter Tryz.func138, Tryz.ntmps138
  go_wp2
  go_loop [8] (fun i => ∃ k : Nat, k ≤ n ∧ i = .int .i64 (k : Int) ∧ Hid (∀ j, j < k → nameAt fs j ≠ name)) (fun i => n - (intOf i).toNat)
  case atStart => exact ⟨0, Nat.zero_le _, rfl, fun j h => absurd h (by omega)⟩
  case round =>
    obtain ⟨k, hk, rfl, hb⟩ := hrel
    by_cases hlt : k < n
    · obtain ⟨g, rfl, row⟩ := hrow k hlt
      have hc := row.name k hlt
      have hlt2 : (k : Int) < (n : Int) := by omega
      clear hrow row
      by_cases he : nameAt fs k = name
      · have hT : Hid (atF fs name = k) := atF_uniq (by omega) hb.out he
        have ht : ((nameAt fs k).toList == name.toList) = true := (text_beq _ _).2 he
        clear he
        go_wp2
        go_ret
        exact ⟨by rw [hT.out]; rfl, rfl⟩
      · have ht := text_beq_no he
        have HE : Hid (nameAt fs k ≠ name) := he
        clear he
        go_wp2
        go_round
        case rel =>
          refine ⟨k + 1, by omega, by go_num, ?_⟩
          intro j hj
          by_cases e : j = k
          · subst e; exact HE.out
          · exact hb.out j (by omega)
        case measure => simp [intOf]; omega
    · have hT : Hid (atF fs name = n) := by
        have := atF_none (fs := fs) (name := name) (fun j hj => hb.out j (by omega))
        show _ = _
        omega
      clear hrow
      go_wp2
      go_ret
      exact ⟨by rw [hT.out]; rfl, rfl⟩

set_option maxHeartbeats 1000000 in
theorem newField_any (nm vl : ByteArray) (w : World) (h1 : nm.size ≤ 281474976710656) (h2 : vl.size ≤ 281474976710656) :
    Calls Tryz.prog 135 #[.string nm, .string vl] w fun e w' => e = .returned (.agg #[.string nm, .string vl]) ∧ Below w.heap.size w w' := by
  go_enter Tryz.func135, Tryz.ntmps135
  go_wp2_with fail
  refine (clone_any nm _ h1).mono ?_
  rintro e w1 ⟨rfl, hb1⟩
  go_wp2_with fail
  refine (clone_any vl _ h2).mono ?_
  rintro e w2 ⟨rfl, hb2⟩
  obtain ⟨r, hr⟩ : ∃ r, r = w.heap.size := ⟨_, rfl⟩
  have h0 : (w.alloc (.cells #[.string ⟨#[]⟩, .string ⟨#[]⟩] 132)).heap.size = w.heap.size + 1 := by simp
  have hb : Below w.heap.size w w2 := ((Below.refl _ w).alloc (Nat.le_refl _) _).trans ((hb1.trans (hb2.mono hb1.size)).mono (by omega))
  have hre2 : w2.heap[r]? = some (.cells #[.string ⟨#[]⟩, .string ⟨#[]⟩] 132) := by
    rw [hr, (hb1.trans (hb2.mono hb1.size)).block _ (by omega)]; exact heap_alloc_new w _
  have hc0 : w2.cell? ⟨r, 0, none⟩ = some (.string ⟨#[]⟩) := by simp [World.cell?, hre2]
  have hc1 : w2.cell? ⟨r, 1, none⟩ = some (.string ⟨#[]⟩) := by simp [World.cell?, hre2]
  have hf0 : w2.frozen? ⟨r, 0, none⟩ = false := by simp [World.frozen?, hre2]
  have hf1 : w2.frozen? ⟨r, 1, none⟩ = false := by simp [World.frozen?, hre2]
  have hre3 := twoSet_heap nm vl hre2
  have k0 : (twoSet w2 r nm vl).cell? ⟨r, 0, none⟩ = some (.string nm) := by simp [World.cell?, hre3]
  have k1 : (twoSet w2 r nm vl).cell? ⟨r, 1, none⟩ = some (.string vl) := by simp [World.cell?, hre3]
  have hb3 : Below w.heap.size w (twoSet w2 r nm vl) := (hb.setCell (p := ⟨r, 0, none⟩) (by simp [hr]) _).setCell (p := ⟨r, 1, none⟩) (by simp [hr]) _
  have HB3 : Hid (Below w.heap.size w (twoSet w2 r nm vl)) := hb3
  rw [← hr]
  unfold twoSet at k0 k1
  clear hre3 hre2 hb hb3 hb1 hb2 hr h0
  go_wp2
  exact bodyPost_ret (v := .agg #[.string nm, .string vl]) (by simp [results, Tryz.results135, go_sem, k0, k1]) rfl ⟨rfl, HB3.out⟩

theorem cell_set_other (w : World) (r o g p : Nat) (v : Value) (h : g ≠ r) : (w.setCell ⟨r, o, none⟩ v).cell? ⟨g, p, none⟩ = w.cell? ⟨g, p, none⟩ := by
  unfold World.cell?
  rw [heap_setCell_other _ _ g _ (fun e => h e)]
/-- Every text of the fields is short enough to be copied. -/
def CopyF (fs : List (ByteArray × ByteArray)) : Prop := ∀ i, i < fs.length → (nameAt fs i).size ≤ 281474976710656 ∧ (valAt fs i).size ≤ 281474976710656

set_option maxHeartbeats 1000000 in
theorem copied_any (v : Value) (n base : Nat) (fs : List (ByteArray × ByteArray)) (w : World) (hv : FieldsV w base v n fs) (hn : n ≤ 2000000) (hsz : CopyF fs) :
    Calls Tryz.prog 122 #[v] w fun e w' => RowF fs w e w' := by
  obtain ⟨i0, hi, hz0, hz1, hz2⟩ := info_parts info33
  obtain ⟨M, hM⟩ : ∃ M, M = madeCells (Value.agg #[.string ⟨#[]⟩, .string ⟨#[]⟩]).cells (((n : Nat) : Int).toNat * i0.size) := ⟨_, rfl⟩
  have hmk : ∀ W : World, (Instr.makeSlice 165 (.int .i64 (n : Int)) (.int .i64 (n : Int))).run Tryz.prog W = .ok (.slice (some ⟨W.heap.size, 0, none⟩) n n) (W.alloc (.cells M 132)) := fun W => by
    have h := run_make (P := Tryz.prog) W 165 132 i0 (.agg #[.string ⟨#[]⟩, .string ⟨#[]⟩]) Tryz.underlying165 hi hz0 .i64 .i64 (n : Int) (n : Int) (by omega) (by omega) (by rw [hz2]; omega) (by omega)
    rw [← hM] at h
    simpa using h
  have hMs : M.size = n * 2 := by rw [hM, size_madeCells, hz1]; simp
  have hlen := hv.len
  obtain ⟨oa, cap, rfl, hrow⟩ := hv.slice
  have HROW : Hid (∀ k, k < n → ∃ g, oa = some ⟨g, 0, none⟩ ∧ FieldRow base w g n cap fs) := hrow
  have HSZ : Hid (CopyF fs) := hsz
  clear hM hv hrow hsz
  have HP : Hid (PartRow (w.alloc (.cells M 132)) w.heap.size n 0 fs) := ⟨M, heap_alloc_new w _, hMs, fun i h => absurd h (by omega)⟩
  go_enter Tryz.func122, Tryz.ntmps122
  go_wp2
  go_loopw [10] (fun i wr => ∃ k : Nat, k ≤ n ∧ i = .int .i64 (k : Int) ∧ Hid (PartRow wr w.heap.size n k fs) ∧ Below w.heap.size w wr) (fun i _ => n - (intOf i).toNat)
  case atStart => exact ⟨0, Nat.zero_le _, rfl, HP, (Below.refl _ _).alloc (Nat.le_refl _) _⟩
  case round =>
    obtain ⟨k, hk, rfl, hpr, hbw⟩ := hrel
    by_cases hlt : k < n
    · have hlt2 : (k : Int) < (n : Int) := by omega
      obtain ⟨g, rfl, row⟩ := HROW.out k hlt
      have hrowlt := row.lt
      have HRW : Hid (FieldRow base w g n cap fs) := row
      have row1 := row.below hbw row.lt
      have hc1 := row1.name k hlt
      have hc2 := row1.val k hlt
      obtain ⟨z1, z2⟩ := HSZ.out k (by omega)
      obtain ⟨nm, hnm⟩ : ∃ y, y = nameAt fs k := ⟨_, rfl⟩
      obtain ⟨vl, hvl⟩ : ∃ y, y = valAt fs k := ⟨_, rfl⟩
      rw [← hnm] at hc1 z1
      rw [← hvl] at hc2 z2
      have HNM : Hid (nm = nameAt fs k) := hnm
      have HVL : Hid (vl = valAt fs k) := hvl
      clear hnm hvl row row1
      have hgr : g < w.heap.size := hrowlt
      have HA : Hid (∀ w0 w1, Below wr.heap.size wr w0 → Below w0.heap.size w0 w1 → (w1.cell? ⟨g, k * 2, none⟩ = some (.string nm) ∧ w1.cell? ⟨g, k * 2 + 1, none⟩ = some (.string vl)) ∧ (∃ u, w1.cell? ⟨w.heap.size, k * 2, none⟩ = some u) ∧ (∃ u, w1.cell? ⟨w.heap.size, k * 2 + 1, none⟩ = some u) ∧ w1.frozen? ⟨w.heap.size, k * 2, none⟩ = false ∧ w1.frozen? ⟨w.heap.size, k * 2 + 1, none⟩ = false ∧ Hid (PartRow ((w1.setCell ⟨w.heap.size, k * 2, none⟩ (.string nm)).setCell ⟨w.heap.size, k * 2 + 1, none⟩ (.string vl)) w.heap.size n (k + 1) fs) ∧ Below w.heap.size w w1 ∧ (((w1.setCell ⟨w.heap.size, k * 2, none⟩ (.string nm)).setCell ⟨w.heap.size, k * 2 + 1, none⟩ (.string vl)).cell? ⟨g, k * 2, none⟩ = some (.string nm) ∧ ((w1.setCell ⟨w.heap.size, k * 2, none⟩ (.string nm)).setCell ⟨w.heap.size, k * 2 + 1, none⟩ (.string vl)).cell? ⟨g, k * 2 + 1, none⟩ = some (.string vl))) := fun w0 w1 h h' => by
        have hx := h.trans (h'.mono h.size)
        have hy := hbw.trans (hx.mono hbw.size)
        have row1 := HRW.out.below hy hgr
        have a1 := row1.name k hlt
        have a2 := row1.val k hlt
        rw [← HNM.out] at a1
        rw [← HVL.out] at a2
        have hpr1 := hpr.out.below hx hpr.out.lt
        have hput := hpr1.put hlt
        rw [← HNM.out, ← HVL.out] at hput
        exact ⟨⟨a1, a2⟩, hpr1.cell (k * 2) (by omega), hpr1.cell (k * 2 + 1) (by omega), hpr1.frozen _, hpr1.frozen _, hput, hy, by rw [cell_set_other _ _ _ _ _ _ (by omega), cell_set_other _ _ _ _ _ _ (by omega)]; exact a1, by rw [cell_set_other _ _ _ _ _ _ (by omega), cell_set_other _ _ _ _ _ _ (by omega)]; exact a2⟩
      go_wp2
      go_region_held3 (fun w' => w'.cell? ⟨g, k * 2, none⟩ = some (.string nm) ∧ w'.cell? ⟨g, k * 2 + 1, none⟩ = some (.string vl)) (first | assumption | go_keep) (first | (go_at_call 135; refine (newField_any nm vl _ z1 z2).mono ?_; rintro e w1 ⟨rfl, hb1⟩; obtain ⟨hcc, ⟨u0, hu0⟩, ⟨u1, hu1⟩, f0, f1, HPUT, hb2, hs1, hs2⟩ := HA.out _ w1 ((Below.refl _ wr).drew) hb1))
      go_wp2
      go_roundw
      case rel => exact ⟨k + 1, by omega, by go_num, HPUT, (hb2.setCell (Nat.le_refl _) _).setCell (Nat.le_refl _) _⟩
      case measure => simp [intOf]; omega
    · obtain rfl : k = n := by omega
      go_wp2
      go_ret
      exact ⟨_, rfl, by rw [hlen]; exact hpr.out.owns hlen (by unfold maxLen; omega) (Nat.le_refl _), hbw⟩

set_option maxHeartbeats 1000000 in
theorem implGet_any (v : Value) (n base : Nat) (fs : List (ByteArray × ByteArray)) (name : ByteArray) (w : World) (hv : FieldsV w base v n fs) (hn : n ≤ 1073741824) (hsz : CopyF fs) :
    Calls Tryz.prog 130 #[v, .string name] w fun e w' => e = .returned (.tuple #[.string (getV fs name), .bool (getB fs name)]) ∧ Below w.heap.size w w' := by
  have hl := hv.len
  have hv0 := hv
  obtain ⟨oa, cap, rfl, hrow⟩ := hv0.slice
  clear hv0
  obtain ⟨k, hk⟩ : ∃ k, k = atF fs name := ⟨_, rfl⟩
  have hle := atF_le fs name
  by_cases hin : atF fs name < fs.length
  · have hV : Hid (getV fs name = valAt fs k) := by show _ = _; unfold getV; rw [if_pos hin, hk]
    have hB : Hid (getB fs name = true) := by show _ = _; unfold getB; simpa using hin
    obtain ⟨g, rfl, row⟩ := hrow k (by omega)
    have hc := row.val k (by omega)
    have hlt : (k : Int) < (n : Int) := by omega
    have hne : ((k : Int) == (n : Int)) = false := by rw [beq_eq_false_iff_ne]; omega
    obtain ⟨_, hz⟩ := hsz k (by omega)
    obtain ⟨vl, hvl⟩ : ∃ y, y = valAt fs k := ⟨_, rfl⟩
    rw [← hvl] at hV hc hz
    go_enter Tryz.func130, Tryz.ntmps130
    go_wp2_with fail
    refine (place_any _ n base fs name _ hv hn).mono ?_
    rintro e w1 ⟨rfl, rfl⟩
    rw [← hk]
    clear hv hrow row hk hvl hle hin hsz
    go_wp2_with fail
    refine (clone_any vl _ hz).mono ?_
    rintro e w2 ⟨rfl, hb2⟩
    go_wp2
    go_ret2
    exact ⟨by rw [hV.out, hB.out]; rfl, hb2⟩
  · have hV : Hid (getV fs name = ⟨#[]⟩) := by show _ = _; unfold getV; rw [if_neg hin]
    have hB : Hid (getB fs name = false) := by show _ = _; unfold getB; simpa using hin
    have hkn : k = n := by omega
    go_enter Tryz.func130, Tryz.ntmps130
    go_wp2_with fail
    refine (place_any _ n base fs name _ hv hn).mono ?_
    rintro e w1 ⟨rfl, rfl⟩
    rw [← hk, hkn]
    clear hv hrow hk hle hin hsz hkn
    go_wp2
    go_ret2
    exact ⟨by rw [hV.out, hB.out]; rfl, Below.refl _ _⟩

end Go.Proofs.YtcipbkkpkhameaaGreat

namespace Go.Proofs.YtcipbkkpkhameaaGreat
open Go.RowKit
open Go.Lib hiding intOf

/-- 'wpAnyH_take', its place named. -/
theorem wpAnyH_takeD {P : Program} {ops : Array Oper} {Q : Exit → Act → World → Prop} {md : Region.Mode} {S : World → Prop} {i : Nat} {oi : Oper} {v : Value} {fuel : Nat} {listed : Array Bool} {a : Act} {w : World} (d : Option Tmp) (hi : ops[i]? = some oi) (hd : oi.dst = d)
    (hs : Region.noSelect ops = true) (hf : Region.free md ops listed i = true) (hr : (Region.ready md ops listed).contains i = true)
    (hQ : ∀ c a w, Q (.panic c) (a.put oi.dst v) w → Q (.panic c) a w) (hy : YieldsIf P ops S oi v a) (hS : S w)
    (h : wpAnyH P md ops Q S fuel (listed.setIfInBounds i true) (a.put d v) w) : wpAnyH P md ops Q S (fuel + 1) listed a w :=
  wpAnyH_take hi hs hf hr hQ hy hS (hd ▸ h)
end Go.Proofs.YtcipbkkpkhameaaGreat

namespace Go.Proofs.YtcipbkkpkhameaaGreat
open Go.RowKit
open Go.Lib hiding intOf

set_option maxHeartbeats 20000000 in
set_option maxRecDepth 100000 in
theorem specObjOk_any (p : ByteArray) (o1 : Option Addr) (n1 c1 : Nat) (xs : List ByteArray) (o2 : Option Addr) (n2 c2 : Nat) (ys : List ByteArray) (st : Int) (v3 : Value) (n3 base : Nat) (fs : List (ByteArray × ByteArray)) (b : ByteArray) (t : Int) (w : World) (h1 : TextsA w o1 n1 xs) (h2 : TextsA w o2 n2 ys) (h3 : FieldsV w base v3 n3 fs) (hn1 : n1 ≤ 2000000) (hn2 : n2 ≤ 2000000) (hn3 : n3 ≤ 2000000) (hs1 : ∀ i, i < n1 → (textAt xs i).size ≤ maxLen) (hs2 : ∀ i, i < n2 → (textAt ys i).size ≤ maxLen) (hs3 : WalkF n3 fs) (hp : p.size ≤ maxLen) (hx : b.size ≤ maxLen) (hg : (getV fs varyName).size ≤ 1048576) :
    Calls Tryz.prog 26 #[.agg #[.string p, .slice o1 n1 c1, .slice o2 n2 c2, .int .i64 st, v3, .string b, .int .i64 t]] w fun e w' => BoolIs (ObjP p xs ys st fs b t) w e w' := by
  obtain ⟨o3, c3, rfl, _⟩ := h3.slice
  have HV1 : Hid (∀ W, Below w.heap.size w W → TextsA W o1 n1 xs) := fun W h => h1.below h
  have HV2 : Hid (∀ W, Below w.heap.size w W → TextsA W o2 n2 ys) := fun W h => h2.below h
  have HV3 : Hid (∀ W, Below w.heap.size w W → FieldsV W base (.slice o3 n3 c3) n3 fs) := fun W h => h3.below h
  have HL1 : Hid (xs.length = n1) := h1.1
  have HL2 : Hid (ys.length = n2) := h2.1
  have HS1 : Hid (∀ i, i < n1 → (textAt xs i).size ≤ maxLen) := hs1
  have HS2 : Hid (∀ i, i < n2 → (textAt ys i).size ≤ maxLen) := hs2
  have HS3 : Hid (WalkF n3 fs) := hs3
  have HPM : Hid (p.size ≤ maxLen) := hp
  have HX : Hid (b.size ≤ maxLen) := hx
  have HG : Hid ((getV fs varyName).size ≤ 1048576) := hg
  obtain ⟨vl, hvl⟩ : ∃ l, l = varyP fs := ⟨_, rfl⟩
  have HVL : Hid (varyP fs = vl) := hvl.symm
  clear h1 h2 h3 hs1 hs2 hs3 hp hx hg hvl
  have hb0 : Below w.heap.size w w := Below.refl _ _
  go_enter Tryz.func26, Tryz.ntmps26
  go_upto_region 1 with fail
  obtain ⟨qv1, hqv1⟩ : ∃ q, q = (w).heap.size := ⟨_, rfl⟩
  obtain ⟨w1, hW1⟩ : ∃ W, W = (w).alloc (.cells #[.string p, .slice o1 n1 c1, .slice o2 n2 c2, .int .i64 st, .slice o3 n3 c3, .string b, .int .i64 t] 50) := ⟨_, rfl⟩
  have hz1 : (w).heap.size = qv1 := hqv1.symm
  first | rw [← hW1, ← hqv1] | rw [← hW1]
  have hs1 : w1.heap.size = qv1 + 1 := by rw [hW1, ← hz1]; simp
  have bw : Below (w).heap.size (w) w1 := by rw [hW1]; exact (Below.refl _ _).alloc (Nat.le_refl _) _
  have hb1 := hbt hb0 bw
  have HBv1_1 : Hid ((w1).heap[qv1]? = some (.cells #[.string p, .slice o1 n1 c1, .slice o2 n2 c2, .int .i64 st, .slice o3 n3 c3, .string b, .int .i64 t] 50)) := by show _ = _; rw [hW1, ← hz1]; exact heap_alloc_new _ _
  clear hb0 bw hW1 hz1
  clear hs1 hqv1
  go_upto_region 1 with fail
  refine wp_region_held_drew (S := fun W => W.heap[qv1]? = some (.cells #[.string p, .slice o1 n1 c1, .slice o2 n2 c2, .int .i64 st, .slice o3 n3 c3, .string b, .int .i64 t] 50)) (by kernel_rfl) HBv1_1.out (fun _ => ?_)
  obtain ⟨w2, hX⟩ : ∃ X, X = w1.drew := ⟨_, rfl⟩
  have bw : Below w1.heap.size w1 w2 := by rw [hX]; exact (Below.refl _ _).drew
  rw [← hX]
  have hb2 := hbt hb1 bw
  have HBv1_2 := hblk HBv1_1 bw
  have hS2 : w2.heap[qv1]? = some (.cells #[.string p, .slice o1 n1 c1, .slice o2 n2 c2, .int .i64 st, .slice o3 n3 c3, .string b, .int .i64 t] 50) := HBv1_2.out
  clear hb1 HBv1_1 bw hX
  refine tkP 0 (.pointer (some ⟨qv1, 3, none⟩)) 4 rfl rfl hS2 ?_
  go_frame
  refine tkL 1 (.agg #[.int .i64 st, .slice o3 n3 c3, .string b]) 5 rfl rfl (Or.inl ⟨by rfl, by intro W hW; have hhv1 := hW; have y3 := (cell_of hhv1 3).trans rfl; have y4 := (cell_of hhv1 4).trans rfl; have y5 := (cell_of hhv1 5).trans rfl; go_simp⟩) hS2 ?_
  go_frame
  refine wpAnyH_ready (rs := [2]) (by kernel_rfl) (by simp) ?_
  refine AllReadyH.cons rfl (fun K hK => ?_) AllReadyH.nil
  go_simp
  refine (specRespOk_any st _ b n3 base fs _ (HV3.out _ hb2) (by omega) HS3.out HX.out).mono ?_
  rintro e w3 ⟨u1, rfl, htu1, bw⟩
  have hb3 := hbt hb2 bw
  have HBv1_3 := hblk HBv1_2 bw
  clear hb2 HBv1_2 bw
  have hS3 : w3.heap[qv1]? = some (.cells #[.string p, .slice o1 n1 c1, .slice o2 n2 c2, .int .i64 st, .slice o3 n3 c3, .string b, .int .i64 t] 50) := HBv1_3.out
  refine hK.out _ _ hS3 (fun _ => ?_)
  clear hK K hS2
  cases u1 with
  | false =>
    have HF : Hid (¬ ObjP p xs ys st fs b t) := fun h => nomatch htu1.2 h.1
    clear htu1
    refine tkP 3 (.bool true) 7 rfl rfl hS3 ?_
    go_frame
    refine tkP 4 (.bool true) 8 rfl rfl hS3 ?_
    go_frame
    refine tkN 5 9 rfl rfl hS3 ?_
    go_frame
    refine tkN 6 10 rfl rfl hS3 ?_
    go_frame
    refine tkN 7 11 rfl rfl hS3 ?_
    go_frame
    refine tkN 8 12 rfl rfl hS3 ?_
    go_frame
    refine tkP 9 (.bool true) 13 rfl rfl hS3 ?_
    go_frame
    refine tkP 10 (.bool true) 14 rfl rfl hS3 ?_
    go_frame
    refine tkN 11 15 rfl rfl hS3 ?_
    go_frame
    refine tkN 12 16 rfl rfl hS3 ?_
    go_frame
    refine tkN 13 17 rfl rfl hS3 ?_
    go_frame
    refine tkN 14 18 rfl rfl hS3 ?_
    go_frame
    refine tkP 15 (.bool true) 19 rfl rfl hS3 ?_
    go_frame
    refine tkP 16 (.bool true) 20 rfl rfl hS3 ?_
    go_frame
    refine tkN 17 21 rfl rfl hS3 ?_
    go_frame
    refine tkN 18 22 rfl rfl hS3 ?_
    go_frame
    refine tkN 19 23 rfl rfl hS3 ?_
    go_frame
    refine tkN 20 24 rfl rfl hS3 ?_
    go_frame
    refine tkP 21 (.bool true) 25 rfl rfl hS3 ?_
    go_frame
    refine tkP 22 (.bool true) 26 rfl rfl hS3 ?_
    go_frame
    refine tkN 23 27 rfl rfl hS3 ?_
    go_frame
    refine tkN 24 28 rfl rfl hS3 ?_
    go_frame
    refine tkN 25 29 rfl rfl hS3 ?_
    go_frame
    refine tkN 26 30 rfl rfl hS3 ?_
    go_frame
    refine tkN 27 31 rfl rfl hS3 ?_
    go_frame
    refine tkN 28 32 rfl rfl hS3 ?_
    go_frame
    refine tkN 29 33 rfl rfl hS3 ?_
    go_frame
    refine tkN 30 34 rfl rfl hS3 ?_
    go_frame
    refine tkP 31 (.bool true) 35 rfl rfl hS3 ?_
    go_frame
    refine tkP 32 (.bool true) 36 rfl rfl hS3 ?_
    go_frame
    refine tkN 33 37 rfl rfl hS3 ?_
    go_frame
    refine tkN 34 38 rfl rfl hS3 ?_
    go_frame
    refine tkN 35 39 rfl rfl hS3 ?_
    go_frame
    refine tkN 36 40 rfl rfl hS3 ?_
    go_frame
    refine tkN 37 41 rfl rfl hS3 ?_
    go_frame
    refine tkN 38 42 rfl rfl hS3 ?_
    go_frame
    refine tkN 39 43 rfl rfl hS3 ?_
    go_frame
    refine tkP 40 (.bool true) 44 rfl rfl hS3 ?_
    go_frame
    clear hS3
    refine wpAnyH_done (by kernel_rfl) ?_ _
    go_wp2_with fail
    go_ret
    exact BoolIs.no HF.out hb3
  | true =>
    have HR : Hid (RespP st fs b) := htu1.1 rfl
    clear htu1
    refine tkP 3 (.bool false) 7 rfl rfl hS3 ?_
    go_frame
    refine tkP 4 (.bool false) 8 rfl rfl hS3 ?_
    go_frame
    refine tkP 5 (.pointer (some ⟨qv1, 0, none⟩)) 9 rfl rfl hS3 ?_
    go_frame
    refine tkL 6 (.string p) 10 rfl rfl (Or.inl ⟨by rfl, by intro W hW; have hhv1 := hW; have y0 := (cell_of hhv1 0).trans rfl; go_simp⟩) hS3 ?_
    go_frame
    refine wpAnyH_ready (rs := [7]) (by kernel_rfl) (by simp) ?_
    refine AllReadyH.cons rfl (fun K hK => ?_) AllReadyH.nil
    go_simp
    refine (l3Path_any p _ HPM.out).mono ?_
    rintro e w4 ⟨u2, rfl, htu2, bw⟩
    have hb4 := hbt hb3 bw
    have HBv1_4 := hblk HBv1_3 bw
    clear hb3 HBv1_3 bw
    have hS4 : w4.heap[qv1]? = some (.cells #[.string p, .slice o1 n1 c1, .slice o2 n2 c2, .int .i64 st, .slice o3 n3 c3, .string b, .int .i64 t] 50) := HBv1_4.out
    refine hK.out _ _ hS4 (fun _ => ?_)
    clear hK K hS3
    cases u2 with
    | false =>
      have HF : Hid (¬ ObjP p xs ys st fs b t) := fun h => nomatch htu2.2 h.2.1
      clear htu2
      refine tkP 8 (.bool true) 12 rfl rfl hS4 ?_
      go_frame
      refine tkP 9 (.bool true) 13 rfl rfl hS4 ?_
      go_frame
      refine tkP 10 (.bool true) 14 rfl rfl hS4 ?_
      go_frame
      refine tkN 11 15 rfl rfl hS4 ?_
      go_frame
      refine tkN 12 16 rfl rfl hS4 ?_
      go_frame
      refine tkN 13 17 rfl rfl hS4 ?_
      go_frame
      refine tkN 14 18 rfl rfl hS4 ?_
      go_frame
      refine tkP 15 (.bool true) 19 rfl rfl hS4 ?_
      go_frame
      refine tkP 16 (.bool true) 20 rfl rfl hS4 ?_
      go_frame
      refine tkN 17 21 rfl rfl hS4 ?_
      go_frame
      refine tkN 18 22 rfl rfl hS4 ?_
      go_frame
      refine tkN 19 23 rfl rfl hS4 ?_
      go_frame
      refine tkN 20 24 rfl rfl hS4 ?_
      go_frame
      refine tkP 21 (.bool true) 25 rfl rfl hS4 ?_
      go_frame
      refine tkP 22 (.bool true) 26 rfl rfl hS4 ?_
      go_frame
      refine tkN 23 27 rfl rfl hS4 ?_
      go_frame
      refine tkN 24 28 rfl rfl hS4 ?_
      go_frame
      refine tkN 25 29 rfl rfl hS4 ?_
      go_frame
      refine tkN 26 30 rfl rfl hS4 ?_
      go_frame
      refine tkN 27 31 rfl rfl hS4 ?_
      go_frame
      refine tkN 28 32 rfl rfl hS4 ?_
      go_frame
      refine tkN 29 33 rfl rfl hS4 ?_
      go_frame
      refine tkN 30 34 rfl rfl hS4 ?_
      go_frame
      refine tkP 31 (.bool true) 35 rfl rfl hS4 ?_
      go_frame
      refine tkP 32 (.bool true) 36 rfl rfl hS4 ?_
      go_frame
      refine tkN 33 37 rfl rfl hS4 ?_
      go_frame
      refine tkN 34 38 rfl rfl hS4 ?_
      go_frame
      refine tkN 35 39 rfl rfl hS4 ?_
      go_frame
      refine tkN 36 40 rfl rfl hS4 ?_
      go_frame
      refine tkN 37 41 rfl rfl hS4 ?_
      go_frame
      refine tkN 38 42 rfl rfl hS4 ?_
      go_frame
      refine tkN 39 43 rfl rfl hS4 ?_
      go_frame
      refine tkP 40 (.bool true) 44 rfl rfl hS4 ?_
      go_frame
      clear hS4
      refine wpAnyH_done (by kernel_rfl) ?_ _
      go_wp2_with fail
      go_ret
      exact BoolIs.no HF.out hb4
    | true =>
      have HP : Hid (PathOk p) := htu2.1 rfl
      clear htu2
      refine tkP 8 (.bool false) 12 rfl rfl hS4 ?_
      go_frame
      refine tkP 9 (.bool false) 13 rfl rfl hS4 ?_
      go_frame
      refine tkP 10 (.bool false) 14 rfl rfl hS4 ?_
      go_frame
      refine tkP 11 (.pointer (some ⟨qv1, 6, none⟩)) 15 rfl rfl hS4 ?_
      go_frame
      refine tkL 12 (.int .i64 t) 16 rfl rfl (Or.inl ⟨by rfl, by intro W hW; have hhv1 := hW; have y6 := (cell_of hhv1 6).trans rfl; go_simp⟩) hS4 ?_
      go_frame
      refine wpAnyH_ready (rs := [13]) (by kernel_rfl) (by simp) ?_
      refine AllReadyH.cons rfl (fun K hK => ?_) AllReadyH.nil
      go_simp
      refine (l1In_any t 0 1000000 _).mono ?_
      rintro e w5 ⟨rfl, hwe⟩
      have bw : Below (w4).heap.size (w4) w5 := by rw [hwe]; exact Below.refl _ _
      clear hwe
      obtain ⟨u3, hu3⟩ : ∃ u3, u3 = decide ((0 : Int) ≤ t ∧ t ≤ 1000000) := ⟨_, rfl⟩
      rw [← hu3]
      have hb5 := hbt hb4 bw
      have HBv1_5 := hblk HBv1_4 bw
      clear hb4 HBv1_4 bw
      have hS5 : w5.heap[qv1]? = some (.cells #[.string p, .slice o1 n1 c1, .slice o2 n2 c2, .int .i64 st, .slice o3 n3 c3, .string b, .int .i64 t] 50) := HBv1_5.out
      refine hK.out _ _ hS5 (fun _ => ?_)
      clear hK K hS4
      cases u3 with
      | false =>
        have HF : Hid (¬ ObjP p xs ys st fs b t) := fun h => absurd h.2.2.1 (of_decide_eq_false hu3.symm)
        clear hu3
        refine tkP 14 (.bool true) 18 rfl rfl hS5 ?_
        go_frame
        refine tkP 15 (.bool true) 19 rfl rfl hS5 ?_
        go_frame
        refine tkP 16 (.bool true) 20 rfl rfl hS5 ?_
        go_frame
        refine tkN 17 21 rfl rfl hS5 ?_
        go_frame
        refine tkN 18 22 rfl rfl hS5 ?_
        go_frame
        refine tkN 19 23 rfl rfl hS5 ?_
        go_frame
        refine tkN 20 24 rfl rfl hS5 ?_
        go_frame
        refine tkP 21 (.bool true) 25 rfl rfl hS5 ?_
        go_frame
        refine tkP 22 (.bool true) 26 rfl rfl hS5 ?_
        go_frame
        refine tkN 23 27 rfl rfl hS5 ?_
        go_frame
        refine tkN 24 28 rfl rfl hS5 ?_
        go_frame
        refine tkN 25 29 rfl rfl hS5 ?_
        go_frame
        refine tkN 26 30 rfl rfl hS5 ?_
        go_frame
        refine tkN 27 31 rfl rfl hS5 ?_
        go_frame
        refine tkN 28 32 rfl rfl hS5 ?_
        go_frame
        refine tkN 29 33 rfl rfl hS5 ?_
        go_frame
        refine tkN 30 34 rfl rfl hS5 ?_
        go_frame
        refine tkP 31 (.bool true) 35 rfl rfl hS5 ?_
        go_frame
        refine tkP 32 (.bool true) 36 rfl rfl hS5 ?_
        go_frame
        refine tkN 33 37 rfl rfl hS5 ?_
        go_frame
        refine tkN 34 38 rfl rfl hS5 ?_
        go_frame
        refine tkN 35 39 rfl rfl hS5 ?_
        go_frame
        refine tkN 36 40 rfl rfl hS5 ?_
        go_frame
        refine tkN 37 41 rfl rfl hS5 ?_
        go_frame
        refine tkN 38 42 rfl rfl hS5 ?_
        go_frame
        refine tkN 39 43 rfl rfl hS5 ?_
        go_frame
        refine tkP 40 (.bool true) 44 rfl rfl hS5 ?_
        go_frame
        clear hS5
        refine wpAnyH_done (by kernel_rfl) ?_ _
        go_wp2_with fail
        go_ret
        exact BoolIs.no HF.out hb5
      | true =>
        have HT : Hid (0 ≤ t ∧ t ≤ 1000000) := (show 0 ≤ t ∧ t ≤ 1000000 from of_decide_eq_true hu3.symm)
        clear hu3
        refine tkP 14 (.bool false) 18 rfl rfl hS5 ?_
        go_frame
        refine tkP 15 (.bool false) 19 rfl rfl hS5 ?_
        go_frame
        refine tkP 16 (.bool false) 20 rfl rfl hS5 ?_
        go_frame
        refine tkP 17 (.pointer (some ⟨qv1, 1, none⟩)) 21 rfl rfl hS5 ?_
        go_frame
        refine tkL 18 (.slice o1 n1 c1) 22 rfl rfl (Or.inl ⟨by rfl, by intro W hW; have hhv1 := hW; have y1 := (cell_of hhv1 1).trans rfl; go_simp⟩) hS5 ?_
        go_frame
        refine wpAnyH_ready (rs := [19]) (by kernel_rfl) (by simp) ?_
        refine AllReadyH.cons rfl (fun K hK => ?_) AllReadyH.nil
        go_simp
        refine (l9Names_any _ _ _ xs _ (HV1.out _ hb5) (by omega) HS1.out).mono ?_
        rintro e w6 ⟨u4, rfl, htu4, bw⟩
        have hb6 := hbt hb5 bw
        have HBv1_6 := hblk HBv1_5 bw
        clear hb5 HBv1_5 bw
        have hS6 : w6.heap[qv1]? = some (.cells #[.string p, .slice o1 n1 c1, .slice o2 n2 c2, .int .i64 st, .slice o3 n3 c3, .string b, .int .i64 t] 50) := HBv1_6.out
        refine hK.out _ _ hS6 (fun _ => ?_)
        clear hK K hS5
        cases u4 with
        | false =>
          have HF : Hid (¬ ObjP p xs ys st fs b t) := fun h => nomatch htu4.2 h.2.2.2.1
          clear htu4
          refine tkP 20 (.bool true) 24 rfl rfl hS6 ?_
          go_frame
          refine tkP 21 (.bool true) 25 rfl rfl hS6 ?_
          go_frame
          refine tkP 22 (.bool true) 26 rfl rfl hS6 ?_
          go_frame
          refine tkN 23 27 rfl rfl hS6 ?_
          go_frame
          refine tkN 24 28 rfl rfl hS6 ?_
          go_frame
          refine tkN 25 29 rfl rfl hS6 ?_
          go_frame
          refine tkN 26 30 rfl rfl hS6 ?_
          go_frame
          refine tkN 27 31 rfl rfl hS6 ?_
          go_frame
          refine tkN 28 32 rfl rfl hS6 ?_
          go_frame
          refine tkN 29 33 rfl rfl hS6 ?_
          go_frame
          refine tkN 30 34 rfl rfl hS6 ?_
          go_frame
          refine tkP 31 (.bool true) 35 rfl rfl hS6 ?_
          go_frame
          refine tkP 32 (.bool true) 36 rfl rfl hS6 ?_
          go_frame
          refine tkN 33 37 rfl rfl hS6 ?_
          go_frame
          refine tkN 34 38 rfl rfl hS6 ?_
          go_frame
          refine tkN 35 39 rfl rfl hS6 ?_
          go_frame
          refine tkN 36 40 rfl rfl hS6 ?_
          go_frame
          refine tkN 37 41 rfl rfl hS6 ?_
          go_frame
          refine tkN 38 42 rfl rfl hS6 ?_
          go_frame
          refine tkN 39 43 rfl rfl hS6 ?_
          go_frame
          refine tkP 40 (.bool true) 44 rfl rfl hS6 ?_
          go_frame
          clear hS6
          refine wpAnyH_done (by kernel_rfl) ?_ _
          go_wp2_with fail
          go_ret
          exact BoolIs.no HF.out hb6
        | true =>
          have HNM : Hid (NamesP xs) := htu4.1 rfl
          clear htu4
          refine tkP 20 (.bool false) 24 rfl rfl hS6 ?_
          go_frame
          refine tkP 21 (.bool false) 25 rfl rfl hS6 ?_
          go_frame
          refine tkP 22 (.bool false) 26 rfl rfl hS6 ?_
          go_frame
          refine tkP 23 (.pointer (some ⟨qv1, 1, none⟩)) 27 rfl rfl hS6 ?_
          go_frame
          refine tkL 24 (.slice o1 n1 c1) 28 rfl rfl (Or.inl ⟨by rfl, by intro W hW; have hhv1 := hW; have y1 := (cell_of hhv1 1).trans rfl; go_simp⟩) hS6 ?_
          go_frame
          refine tkP 25 (.pointer (some ⟨qv1, 3, none⟩)) 29 rfl rfl hS6 ?_
          go_frame
          refine tkP 26 (.pointer (some ⟨qv1, 4, none⟩)) 30 rfl rfl hS6 ?_
          go_frame
          refine tkL 27 (.slice o3 n3 c3) 31 rfl rfl (Or.inl ⟨by rfl, by intro W hW; have hhv1 := hW; have y4 := (cell_of hhv1 4).trans rfl; go_simp⟩) hS6 ?_
          go_frame
          refine wpAnyH_ready (rs := [28]) (by kernel_rfl) (by simp) ?_
          refine AllReadyH.cons rfl (fun K hK => ?_) AllReadyH.nil
          go_simp
          refine (specVaryOf_any _ n3 base fs _ (HV3.out _ hb6) (by omega) HG.out).mono ?_
          rintro e w7 ⟨vv, rfl, ownY, bw⟩
          obtain ⟨oY, pY, rfl⟩ := slice_of_owns ownY
          rw [HVL.out] at ownY ⊢
          have hb7 := hbt hb6 bw
          have HBv1_7 := hblk HBv1_6 bw
          have HOY_7 : Hid ((w7).ownsRow w.heap.size 9 1 (.slice oY vl.length pY) vl.length (vl.map Value.string)) := owns_wide ownY hb6.size
          clear ownY
          clear hb6 HBv1_6 bw
          have hS7 : w7.heap[qv1]? = some (.cells #[.string p, .slice o1 n1 c1, .slice o2 n2 c2, .int .i64 st, .slice o3 n3 c3, .string b, .int .i64 t] 50) := HBv1_7.out
          refine hK.out _ _ hS7 (fun _ => ?_)
          clear hK K hS6
          refine wpAnyH_ready (rs := [29]) (by kernel_rfl) (by simp) ?_
          refine AllReadyH.cons rfl (fun K hK => ?_) AllReadyH.nil
          go_simp
          refine (l8Texts_any _ _ _ _ _ _ xs vl _ (HV1.out _ hb7) (texts_view HOY_7.out) (by omega)).mono ?_
          rintro e w8 ⟨rfl, bw⟩
          obtain ⟨u5, hu5⟩ : ∃ u5, u5 = decide (xs = vl) := ⟨_, rfl⟩
          rw [← hu5]
          have hb8 := hbt hb7 bw
          have HOY_8 := hown HOY_7 bw
          have HBv1_8 := hblk HBv1_7 bw
          clear hb7 HOY_7 HBv1_7 bw
          have hS8 : w8.heap[qv1]? = some (.cells #[.string p, .slice o1 n1 c1, .slice o2 n2 c2, .int .i64 st, .slice o3 n3 c3, .string b, .int .i64 t] 50) := HBv1_8.out
          refine hK.out _ _ hS8 (fun _ => ?_)
          clear hK K hS7
          cases u5 with
          | false =>
            have HF : Hid (¬ ObjP p xs ys st fs b t) := fun h => absurd (h.2.2.2.2.1.trans HVL.out) (of_decide_eq_false hu5.symm)
            clear hu5
            refine tkP 30 (.bool true) 34 rfl rfl hS8 ?_
            go_frame
            refine tkP 31 (.bool true) 35 rfl rfl hS8 ?_
            go_frame
            refine tkP 32 (.bool true) 36 rfl rfl hS8 ?_
            go_frame
            refine tkN 33 37 rfl rfl hS8 ?_
            go_frame
            refine tkN 34 38 rfl rfl hS8 ?_
            go_frame
            refine tkN 35 39 rfl rfl hS8 ?_
            go_frame
            refine tkN 36 40 rfl rfl hS8 ?_
            go_frame
            refine tkN 37 41 rfl rfl hS8 ?_
            go_frame
            refine tkN 38 42 rfl rfl hS8 ?_
            go_frame
            refine tkN 39 43 rfl rfl hS8 ?_
            go_frame
            refine tkP 40 (.bool true) 44 rfl rfl hS8 ?_
            go_frame
            clear hS8
            refine wpAnyH_done (by kernel_rfl) ?_ _
            go_wp2_with fail
            go_ret
            exact BoolIs.no HF.out hb8
          | true =>
            have HE : Hid (xs = vl) := (show xs = vl from of_decide_eq_true hu5.symm)
            clear hu5
            refine tkP 30 (.bool false) 34 rfl rfl hS8 ?_
            go_frame
            refine tkP 31 (.bool false) 35 rfl rfl hS8 ?_
            go_frame
            refine tkP 32 (.bool false) 36 rfl rfl hS8 ?_
            go_frame
            refine tkP 33 (.pointer (some ⟨qv1, 2, none⟩)) 37 rfl rfl hS8 ?_
            go_frame
            refine tkL 34 (.slice o2 n2 c2) 38 rfl rfl (Or.inl ⟨by rfl, by intro W hW; have hhv1 := hW; have y2 := (cell_of hhv1 2).trans rfl; go_simp⟩) hS8 ?_
            go_frame
            refine tkP 35 (.int .i64 (n2 : Int)) 39 rfl rfl hS8 ?_
            go_frame
            refine tkP 36 (.pointer (some ⟨qv1, 1, none⟩)) 40 rfl rfl hS8 ?_
            go_frame
            refine tkL 37 (.slice o1 n1 c1) 41 rfl rfl (Or.inl ⟨by rfl, by intro W hW; have hhv1 := hW; have y1 := (cell_of hhv1 1).trans rfl; go_simp⟩) hS8 ?_
            go_frame
            refine tkP 38 (.int .i64 (n1 : Int)) 42 rfl rfl hS8 ?_
            go_frame
            by_cases hc1 : (n2 : Int) = (n1 : Int)
            · have hc1b : (((n2 : Int) : Int) == ((n1 : Int) : Int)) = true := by simpa using hc1
              have hc1n : (((n2 : Int) : Int) != ((n1 : Int) : Int)) = false := by simpa using hc1
              have hc1H : Hid ((n2 : Int) = (n1 : Int)) := hc1
              clear hc1
              refine tkP 39 (.bool false) 43 rfl rfl hS8 ?_
              go_frame
              refine tkP 40 (.bool false) 44 rfl rfl hS8 ?_
              go_frame
              clear hS8
              refine wpAnyH_done (by kernel_rfl) ?_ _
              clear hc1b hc1n
              have HEQ := hc1H
              clear hc1H
              have HQ : Hid ((∀ y ∈ ys, ValOk y) ↔ ObjP p xs ys st fs b t) := ⟨fun h => ⟨HR.out, HP.out, HT.out, HNM.out, HE.out.trans HVL.out.symm, by have h1 := HL1.out; have h2 := HL2.out; have h3 := HEQ.out; omega, h⟩, fun h => h.2.2.2.2.2.2⟩
              go_wp2_with fail
              go_loopw [3] (fun i wr => ∃ j : Nat, j ≤ n2 ∧ i = .int .i64 (j : Int) ∧ Hid (Below w.heap.size w wr ∧ (wr).heap[qv1]? = some (.cells #[.string p, .slice o1 n1 c1, .slice o2 n2 c2, .int .i64 st, .slice o3 n3 c3, .string b, .int .i64 t] 50)) ∧ Hid (∀ x ∈ ys.take j, ValOk x)) (fun i _ => n2 - (intOf i).toNat)
              case atStart => exact ⟨0, Nat.zero_le _, rfl, ⟨hb8, HBv1_8.out⟩, fun x hx => by simp at hx⟩
              case round =>
                obtain ⟨j, hj, rfl, HW, HN⟩ := hrel
                have cc2 : wr.cell? ⟨qv1, 2, none⟩ = some (.slice o2 n2 c2) := (cell_of HW.out.2 2).trans rfl
                by_cases hlt : (j : Int) < (n2 : Int)
                · have hjx : j < ys.length := by rw [HL2.out]; omega
                  obtain ⟨g, hog, hg, hc⟩ := (HV2.out wr HW.out.1).2 j (by omega)
                  subst hog
                  have hs := HS2.out j (by omega)
                  obtain ⟨x, hxx⟩ : ∃ x, x = textAt ys j := ⟨_, rfl⟩
                  rw [← hxx] at hc hs
                  have HM : Hid (x ∈ ys) := by show _ ∈ _; rw [hxx]; exact textAt_mem ys j hjx
                  have HTK : Hid (ys.take (j + 1) = ys.take j ++ [x]) := by show _ = _; rw [take_textAt ys j hjx, hxx]
                  clear hxx hjx
                  go_wp2_with fail
                  refine (specValueOk_any x _ hs).mono ?_
                  rintro e w90 ⟨tx, rfl, htx, bw⟩
                  have HW2 : Hid (Below w.heap.size w w90 ∧ (w90).heap[qv1]? = some (.cells #[.string p, .slice o1 n1 c1, .slice (some ⟨g, 0, none⟩) n2 c2, .int .i64 st, .slice o3 n3 c3, .string b, .int .i64 t] 50)) := ⟨HW.out.1.trans (bw.mono HW.out.1.size), blk_below HW.out.2 bw⟩
                  clear bw cc2 hc HW
                  cases tx with
                  | false =>
                    have HF : Hid (¬ ObjP p xs ys st fs b t) := fun h => nomatch htx.2 (HQ.out.2 h x HM.out)
                    clear htx HN
                    go_wp2_with fail
                    go_ret
                    exact BoolIs.no HF.out HW2.out.1
                  | true =>
                    have HN2 : Hid (∀ y ∈ ys.take (j + 1), ValOk y) := by
                      intro y hy
                      rw [HTK.out] at hy
                      rcases List.mem_append.1 hy with hy | hy
                      · exact HN.out y hy
                      · rw [List.mem_singleton.1 hy]; exact htx.1 rfl
                    clear htx HN
                    go_wp2_with fail
                    go_roundw
                    case rel => exact ⟨j + 1, by omega, by go_num, HW2, HN2⟩
                    case measure => simp [intOf]; omega
                · have HA : Hid (ObjP p xs ys st fs b t) := HQ.out.1 (by
                    have h := HN.out
                    rw [List.take_of_length_le (by rw [HL2.out]; omega)] at h
                    exact h)
                  clear HN
                  go_wp2_with fail
                  go_ret
                  exact ⟨true, rfl, ⟨fun _ => HA.out, fun _ => rfl⟩, HW.out.1⟩
            · have hc1b : (((n2 : Int) : Int) == ((n1 : Int) : Int)) = false := by simpa using hc1
              have hc1n : (((n2 : Int) : Int) != ((n1 : Int) : Int)) = true := by simpa using hc1
              have HF : Hid (¬ ObjP p xs ys st fs b t) := fun h => by have h1 := h.2.2.2.2.2.1; have h2 := HL1.out; have h3 := HL2.out; omega
              have hc1H : Hid (¬ ((n2 : Int) = (n1 : Int))) := hc1
              clear hc1
              refine tkP 39 (.bool true) 43 rfl rfl hS8 ?_
              go_frame
              refine tkP 40 (.bool true) 44 rfl rfl hS8 ?_
              go_frame
              clear hS8
              refine wpAnyH_done (by kernel_rfl) ?_ _
              go_wp2_with fail
              go_ret
              exact BoolIs.no HF.out hb8

end Go.Proofs.YtcipbkkpkhameaaGreat
