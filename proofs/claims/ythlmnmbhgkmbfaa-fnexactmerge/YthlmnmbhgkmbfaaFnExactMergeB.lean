/- What the proof of FnExactMerge leans on: contracts of the program's and the specification's functions, and plain facts (part 2 of 2). -/
import Derived.Test.YthlmnmbhgkmbfaaFnExactMergeA
namespace Go.Proofs.Ythlmnmbhgkmbfaa
open Go.RowKit
open Go.Lib hiding intOf

theorem three_facts {W : World} {R : Nat} {a b c : Value} {t : TypeId} (h : W.heap[R]? = some (.cells #[a, b, c] t)) :
    (W.cell? ⟨R, 0, none⟩ = some a ∧ W.cell? ⟨R, 1, none⟩ = some b ∧ W.cell? ⟨R, 2, none⟩ = some c) ∧ W.frozen? ⟨R, 0, none⟩ = false ∧ W.frozen? ⟨R, 1, none⟩ = false ∧ W.frozen? ⟨R, 2, none⟩ = false := by
  refine ⟨⟨?_, ?_, ?_⟩, ?_, ?_, ?_⟩ <;> simp [World.cell?, World.frozen?, h]
/-- The three cells of an answer's memory, written. -/
def threeSet (w : World) (r : Nat) (a b c : Value) : World := ((w.setCell ⟨r, 0, none⟩ a).setCell ⟨r, 1, none⟩ b).setCell ⟨r, 2, none⟩ c
theorem three_set {W : World} {R : Nat} {a b c : Value} {t : TypeId} (h : W.heap[R]? = some (.cells #[a, b, c] t)) (a' b' c' : Value) : (threeSet W R a' b' c').heap[R]? = some (.cells #[a', b', c'] t) := by
  have := heap_set _ R 2 _ _ _ c' (heap_set _ R 1 _ _ _ b' (heap_set W R 0 _ _ _ a' h))
  simpa [threeSet] using this
theorem below_three {w W : World} {B R : Nat} {a b c : Value} (h : Below B w W) (hR : B ≤ R) : Below B w (threeSet W R a b c) :=
  ((h.setCell (p := ⟨R, 0, none⟩) hR _).setCell (p := ⟨R, 1, none⟩) hR _).setCell (p := ⟨R, 2, none⟩) hR _

set_option maxHeartbeats 2000000 in
set_option maxRecDepth 100000 in
theorem toResp_any (m : Int) (a : Option Addr) (n cap : Nat) (b : ByteArray) (fs : List (ByteArray × ByteArray)) (B : Nat) (w : World) (harg : ArgF w B a n fs) (hB : B ≤ w.heap.size) (hn : n ≤ 1048576) :
    Calls Try.prog 26 #[.agg #[.int .i64 m, .slice a n cap, .string b]] w fun e w' => ∃ v, e = .returned (.agg #[.int .i64 m, v, .string b]) ∧ w'.ownsRow w.heap.size 68 2 v n (flatF fs) ∧ Below w.heap.size w w' := by
  obtain ⟨w0, hw0⟩ : ∃ W, W = (((w.alloc (.cells #[.int .i64 m, .slice a n cap, .string b] 43)).alloc (.cells #[.int .i64 0, .slice none 0 0, .string ⟨#[]⟩] 32)).alloc (.cells #[.int .i64 m, .slice none 0 0, .string ⟨#[]⟩] 32)) := ⟨_, rfl⟩
  have hs0 : w0.heap.size = w.heap.size + 1 + 1 + 1 := by rw [hw0]; simp
  have hb0 : Below w.heap.size w w0 := by rw [hw0]; exact (((Below.refl _ w).alloc (Nat.le_refl _) _).alloc (by simp) _).alloc (by simp; omega) _
  have x1 : w0.heap[w.heap.size]? = some (.cells #[.int .i64 m, .slice a n cap, .string b] 43) := by
    rw [hw0, heap_alloc_old _ _ (by simp; omega), heap_alloc_old _ _ (by simp)]; exact heap_alloc_new w _
  have x2 : w0.heap[w.heap.size + 1]? = some (.cells #[.int .i64 0, .slice none 0 0, .string ⟨#[]⟩] 32) := by
    rw [hw0, heap_alloc_old _ _ (by simp)]
    have := heap_alloc_new (w.alloc (.cells #[.int .i64 m, .slice a n cap, .string b] 43)) (.cells #[.int .i64 0, .slice none 0 0, .string ⟨#[]⟩] 32)
    simpa using this
  have x3 : w0.heap[w.heap.size + 1 + 1]? = some (.cells #[.int .i64 m, .slice none 0 0, .string ⟨#[]⟩] 32) := by
    rw [hw0]
    have := heap_alloc_new ((w.alloc (.cells #[.int .i64 m, .slice a n cap, .string b] 43)).alloc (.cells #[.int .i64 0, .slice none 0 0, .string ⟨#[]⟩] 32)) (.cells #[.int .i64 m, .slice none 0 0, .string ⟨#[]⟩] 32)
    simpa using this
  go_enter Try.func26, Try.ntmps26
  go_wp2_with fail
  rw [← hw0]
  refine (toFieldS_any B a n cap fs _ (harg.below (hb0.mono hB)) (by omega) hn).mono ?_
  rintro e w1 ⟨v, rfl, hown, bb1⟩
  obtain ⟨fo, fc, rfl⟩ := slice_of_owns hown
  rw [← bb1.block _ (by omega)] at x1 x2 x3
  obtain ⟨o, ho⟩ : ∃ o, o = w.heap.size + 1 + 1 := ⟨_, rfl⟩
  obtain ⟨q, hq⟩ : ∃ q, q = w.heap.size + 1 := ⟨_, rfl⟩
  obtain ⟨c, hc⟩ : ∃ c, c = w.heap.size := ⟨_, rfl⟩
  rw [← ho] at x3
  rw [← hq] at x2
  rw [← hc] at x1
  have hqo : q ≠ o := by omega
  have hco : c ≠ o := by omega
  have hoq : o ≠ q := by omega
  have hoc : o ≠ c := by omega
  have hqw : w.heap.size ≤ q := by omega
  have how : w.heap.size ≤ o := by omega
  obtain ⟨⟨a0, a1, a2⟩, _⟩ := three_facts x1
  obtain ⟨⟨b0, b1, b2⟩, e0, e1, e2⟩ := three_facts x2
  obtain ⟨⟨d0, d1, d2⟩, f0, f1, f2⟩ := three_facts x3
  have hbw1 : Below w.heap.size w w1 := hb0.trans (bb1.mono hb0.size)
  have HFIN : Hid (∀ W : World, W = (w1.setCell ⟨o, 1, none⟩ (.slice fo n fc)).setCell ⟨o, 2, none⟩ (.string b) → ((threeSet W q (.int .i64 m) (.slice fo n fc) (.string b)).heap[q]? = some (.cells #[.int .i64 m, .slice fo n fc, .string b] 32)) ∧ (threeSet W q (.int .i64 m) (.slice fo n fc) (.string b)).ownsRow w.heap.size 68 2 (.slice fo n fc) n (flatF fs) ∧ Below w.heap.size w (threeSet W q (.int .i64 m) (.slice fo n fc) (.string b))) := fun W hW => by
    have hx2 : W.heap[q]? = some (.cells #[.int .i64 0, .slice none 0 0, .string ⟨#[]⟩] 32) := by rw [hW, heap_setCell_other _ _ q _ (fun e => hqo e), heap_setCell_other _ _ q _ (fun e => hqo e)]; exact x2
    have hbW : Below w.heap.size w W := by rw [hW]; exact (hbw1.setCell (p := ⟨o, 1, none⟩) how _).setCell (p := ⟨o, 2, none⟩) how _
    refine ⟨three_set hx2 _ _ _, ?_, below_three hbW hqw⟩
    have hown1 : w1.ownsRow w.heap.size 68 2 (.slice fo n fc) n (flatF fs) := by
      refine ⟨hown.1, ?_⟩
      rcases hown.2 with h6 | ⟨g6, cap6, cur6, h7, h8, h9⟩
      · exact .inl h6
      · exact .inr ⟨g6, cap6, cur6, h7, by omega, h9⟩
    refine ⟨hown1.1, ?_⟩
    rcases hown.2 with h6 | ⟨g6, cap6, cur6, h7, h8, h9, h10⟩
    · exact .inl h6
    · refine .inr ⟨g6, cap6, cur6, h7, by omega, ?_, h10⟩
      have n1 : g6 ≠ q := by omega
      have n2 : g6 ≠ o := by omega
      unfold threeSet
      rw [heap_setCell_other _ _ g6 _ (fun e => n1 e), heap_setCell_other _ _ g6 _ (fun e => n1 e), heap_setCell_other _ _ g6 _ (fun e => n1 e), hW, heap_setCell_other _ _ g6 _ (fun e => n2 e), heap_setCell_other _ _ g6 _ (fun e => n2 e)]
      exact h9
  obtain ⟨hh, hof, hbf⟩ := HFIN.out _ rfl
  obtain ⟨⟨k0, k1, k2⟩, _⟩ := three_facts hh
  have HOF : Hid _ := hof
  have HBF : Hid _ := hbf
  unfold threeSet at k0 k1 k2
  rw [← ho, ← hq, ← hc]
  clear x1 x2 x3 ho hq hc hw0 hs0 hb0 bb1 hown hbw1 hh hof hbf harg hB HFIN a0 a1
  go_wp2_with fail
  exact bodyPost_ret (v := .agg #[.int .i64 m, .slice fo n fc, .string b]) (by simp [results, Try.results26, go_sem, k0, k1, k2]) rfl ⟨_, rfl, HOF.out, HBF.out⟩

set_option maxHeartbeats 2000000 in
set_option maxRecDepth 100000 in
theorem eqResp_any (m : Int) (v1 v2 : Value) (b : ByteArray) (n b1 b2 : Nat) (fs : List (ByteArray × ByteArray)) (w : World) (h1 : FieldsV w b1 v1 n fs) (h2 : FieldsV w b2 v2 n fs) (hn : n ≤ 2000000) :
    Calls Try.prog 29 #[.agg #[.int .i64 m, v1, .string b], .agg #[.int .i64 m, v2, .string b]] w fun e w' => e = .returned (.bool true) ∧ Below w.heap.size w w' := by
  obtain ⟨oa, ca, rfl, _⟩ := h1.slice
  obtain ⟨ob, cb, rfl, _⟩ := h2.slice
  have tb : (b.toList == b.toList) = true := by simp
  have tm : (m != m) = false := by simp
  obtain ⟨w0, hw0⟩ : ∃ W, W = ((w.alloc (.cells #[.int .i64 m, .slice oa n ca, .string b] 32)).alloc (.cells #[.int .i64 m, .slice ob n cb, .string b] 32)) := ⟨_, rfl⟩
  have hs0 : w0.heap.size = w.heap.size + 1 + 1 := by rw [hw0]; simp
  have hb0 : Below w.heap.size w w0 := by rw [hw0]; exact ((Below.refl _ w).alloc (Nat.le_refl _) _).alloc (by simp) _
  have x1 : w0.heap[w.heap.size]? = some (.cells #[.int .i64 m, .slice oa n ca, .string b] 32) := by
    rw [hw0, heap_alloc_old _ _ (by simp)]; exact heap_alloc_new w _
  have x2 : w0.heap[w.heap.size + 1]? = some (.cells #[.int .i64 m, .slice ob n cb, .string b] 32) := by
    rw [hw0]
    have := heap_alloc_new (w.alloc (.cells #[.int .i64 m, .slice oa n ca, .string b] 32)) (.cells #[.int .i64 m, .slice ob n cb, .string b] 32)
    simpa using this
  go_enter Try.func29, Try.ntmps29
  go_wp2_with fail
  rw [← hw0]
  refine (eqFieldS_any _ _ n b1 b2 fs _ (h1.below hb0) (h2.below hb0) hn).mono ?_
  rintro e w1 ⟨rfl, bb1⟩
  rw [← bb1.block _ (by omega)] at x1 x2
  obtain ⟨q, hq⟩ : ∃ q, q = w.heap.size + 1 := ⟨_, rfl⟩
  obtain ⟨c, hc⟩ : ∃ c, c = w.heap.size := ⟨_, rfl⟩
  rw [← hq] at x2
  rw [← hc] at x1
  have y1 : w1.cell? ⟨c, 2, none⟩ = some (.string b) := by simp [World.cell?, x1]
  have y2 : w1.cell? ⟨q, 2, none⟩ = some (.string b) := by simp [World.cell?, x2]
  have hbw1 : Below w.heap.size w w1 := hb0.trans (bb1.mono hb0.size)
  rw [← hq, ← hc]
  clear x1 x2 hq hc hw0 hs0 hb0 bb1 h1 h2
  go_wp2
  go_ret
  exact ⟨rfl, hbw1⟩

end Go.Proofs.Ythlmnmbhgkmbfaa

namespace Go.Proofs.Ythlmnmbhgkmbfaa
open Go.RowKit
open Go.Lib hiding intOf

/-- 'wpAnyH_take', its place named. -/
theorem wpAnyH_takeD {P : Program} {ops : Array Oper} {Q : Exit → Act → World → Prop} {md : Region.Mode} {S : World → Prop} {i : Nat} {oi : Oper} {v : Value} {fuel : Nat} {listed : Array Bool} {a : Act} {w : World} (d : Option Tmp) (hi : ops[i]? = some oi) (hd : oi.dst = d)
    (hs : Region.noSelect ops = true) (hf : Region.free md ops listed i = true) (hr : (Region.ready md ops listed).contains i = true)
    (hQ : ∀ c a w, Q (.panic c) (a.put oi.dst v) w → Q (.panic c) a w) (hy : YieldsIf P ops S oi v a) (hS : S w)
    (h : wpAnyH P md ops Q S fuel (listed.setIfInBounds i true) (a.put d v) w) : wpAnyH P md ops Q S (fuel + 1) listed a w :=
  wpAnyH_take hi hs hf hr hQ hy hS (hd ▸ h)
end Go.Proofs.Ythlmnmbhgkmbfaa

namespace Go.Proofs.Ythlmnmbhgkmbfaa
open Go.RowKit
open Go.Lib hiding intOf

/-- A call answers an answer with these fields, in memory of its own. -/
def RespRow (st : Int) (fs : List (ByteArray × ByteArray)) (b : ByteArray) (w : World) (e : Ending) (w' : World) : Prop :=
  ∃ v, e = .returned (.agg #[.int .i64 st, v, .string b]) ∧ w'.ownsRow w.heap.size 68 2 v fs.length (flatF fs) ∧ Below w.heap.size w w'
theorem three_other (W : World) (r j : Nat) (a b c : Value) (h : j ≠ r) : (threeSet W r a b c).heap[j]? = W.heap[j]? := by
  unfold threeSet
  rw [heap_setCell_other _ _ j _ h, heap_setCell_other _ _ j _ h, heap_setCell_other _ _ j _ h]

set_option maxHeartbeats 1000000 in
set_option maxRecDepth 100000 in
theorem l9Resp_any (st : Int) (v : Value) (b : ByteArray) (n base : Nat) (fs : List (ByteArray × ByteArray)) (w : World) (hv : FieldsV w base v n fs) (hn : n ≤ 2000000) :
    Calls Try.prog 71 #[.agg #[.int .i64 st, v, .string b]] w fun e w' => RespRow st fs b w e w' := by
  obtain ⟨oa, cap, rfl, _⟩ := hv.slice
  obtain ⟨r, hr⟩ : ∃ r, r = w.heap.size := ⟨_, rfl⟩
  have HR : Hid (w.heap.size = r) := hr.symm
  obtain ⟨W1, hW1⟩ : ∃ W, W = (w.alloc (.cells #[.int .i64 st, .slice oa n cap, .string b] 32)).alloc (.cells #[.int .i64 0, .slice none 0 0, .string ⟨#[]⟩] 32) := ⟨_, rfl⟩
  have HW1 : Hid ((w.alloc (.cells #[.int .i64 st, .slice oa n cap, .string b] 32)).alloc (.cells #[.int .i64 0, .slice none 0 0, .string ⟨#[]⟩] 32) = W1) := hW1.symm
  have b1 : Below r w W1 := by rw [hW1, hr]; exact ((Below.refl _ w).alloc (Nat.le_refl _) _).alloc (by simp) _
  have hv1 := hv.below (by rw [hr] at b1; exact b1)
  have s1 : (w.alloc (.cells #[.int .i64 st, .slice oa n cap, .string b] 32)).heap.size = r + 1 := by rw [hr]; simp
  have s2 : W1.heap.size = r + 1 + 1 := by rw [hW1, hr]; simp
  have H0 : Hid (W1.heap[r]? = some (.cells #[.int .i64 st, .slice oa n cap, .string b] 32) ∧ W1.heap[r + 1]? = some (.cells #[.int .i64 0, .slice none 0 0, .string ⟨#[]⟩] 32) ∧ Below r w W1) := by
    have e0 := heap_alloc_new w (.cells #[.int .i64 st, .slice oa n cap, .string b] 32)
    have e1 := heap_alloc_new (w.alloc (.cells #[.int .i64 st, .slice oa n cap, .string b] 32)) (.cells #[.int .i64 0, .slice none 0 0, .string ⟨#[]⟩] 32)
    rw [← hr] at e0
    rw [s1, ← hW1] at e1
    have c1 : Below (r + 1) (w.alloc (.cells #[.int .i64 st, .slice oa n cap, .string b] 32)) W1 := by rw [hW1, ← s1]; exact (Below.refl _ _).alloc (Nat.le_refl _) _
    exact ⟨by rw [c1.block r (by omega)]; exact e0, e1, b1⟩
  obtain ⟨⟨_, c1, _⟩, _⟩ := three_facts H0.out.1
  have HS2 : Hid (W1.heap.size = r + 1 + 1) := s2
  have HL : Hid (fs.length = n) := hv.len
  clear hW1 hv b1 s1 s2
  go_enter Try.func71, Try.ntmps71
  go_upto_region 1 with fail
  rw [HW1.out, ← hr]
  clear hr HW1
  go_wp2_with fail
  refine (l9Copy_any _ n base fs _ hv1 hn).mono ?_
  rintro e w2 ⟨z, rfl, own, b2⟩
  obtain ⟨oz, cz, rfl⟩ := slice_of_owns own
  rw [HL.out] at own ⊢
  have hs2 := HS2.out
  rw [hs2] at own b2
  have H2 : Hid (w2.heap[r]? = some (.cells #[.int .i64 st, .slice oa n cap, .string b] 32) ∧ w2.heap[r + 1]? = some (.cells #[.int .i64 0, .slice none 0 0, .string ⟨#[]⟩] 32) ∧ Below r w w2) :=
    ⟨by rw [b2.block r (by omega)]; exact H0.out.1, by rw [b2.block (r + 1) (by omega)]; exact H0.out.2.1, H0.out.2.2.trans (b2.mono (by omega))⟩
  have HO2 : Hid (w2.ownsRow (r + 1 + 1) 68 2 (.slice oz n cz) n (flatF fs)) := own
  obtain ⟨⟨_, d1, _⟩, _, y1, _⟩ := three_facts H2.out.1
  clear own b2 hs2 c1 hv1 H0 HS2
  have H3 : Hid ((w2.setCell ⟨r, 1, none⟩ (.slice oz n cz)).heap[r]? = some (.cells #[.int .i64 st, .slice oz n cz, .string b] 32) ∧ (w2.setCell ⟨r, 1, none⟩ (.slice oz n cz)).heap[r + 1]? = some (.cells #[.int .i64 0, .slice none 0 0, .string ⟨#[]⟩] 32)) := by
    refine ⟨?_, by rw [heap_setCell_other _ _ (r + 1) _ (by show r + 1 ≠ r; omega)]; exact H2.out.2.1⟩
    have := heap_set w2 r 1 _ _ _ (.slice oz n cz) H2.out.1
    simpa using this
  obtain ⟨⟨f0, f1, f2⟩, _⟩ := three_facts H3.out.1
  obtain ⟨⟨g0, g1, g2⟩, x0, x1, x2⟩ := three_facts H3.out.2
  have hset := three_set H3.out.2 (.int .i64 st) (.slice oz n cz) (.string b)
  obtain ⟨⟨k0, k1, k2⟩, _⟩ := three_facts hset
  have HFB : Hid (Below r w (threeSet (w2.setCell ⟨r, 1, none⟩ (.slice oz n cz)) (r + 1) (.int .i64 st) (.slice oz n cz) (.string b))) := below_three (H2.out.2.2.setCell (Nat.le_refl _) _) (by omega)
  have HFO : Hid ((threeSet (w2.setCell ⟨r, 1, none⟩ (.slice oz n cz)) (r + 1) (.int .i64 st) (.slice oz n cz) (.string b)).ownsRow r 68 2 (.slice oz n cz) fs.length (flatF fs)) := by
    show World.ownsRow _ _ _ _ _ _ _
    rw [HL.out]
    refine owns_same (owns_wide HO2.out (by omega)) (fun j hj => ?_)
    have hj2 := owns_ge HO2.out hj
    rw [three_other _ _ j _ _ _ (by omega), heap_setCell_other _ _ j _ (by show j ≠ r; omega)]
  unfold threeSet at k0 k1 k2 HFB HFO
  clear hset H2 H3 HO2
  go_wp2_with fail
  refine bodyPost_ret (v := .agg #[.int .i64 st, .slice oz n cz, .string b]) (by simp [results, Try.results71, go_sem, k0, k1, k2]) rfl ?_
  exact ⟨_, rfl, by rw [HR.out]; exact HFO.out, by rw [HR.out]; exact HFB.out⟩

/-- While answers are merged: both arguments, the answer's memory, the answer that is made and its fields. -/
structure MgSt (w : World) (r o : Nat) (st : Int) (va : Value) (b : ByteArray) (st2 : Int) (vb : Value) (c : ByteArray) (z : Value) (P : List (ByteArray × ByteArray)) (W : World) : Prop where
  q0 : W.heap[r]? = some (.cells #[.int .i64 st, va, .string b] 32)
  q1 : W.heap[r + 1]? = some (.cells #[.int .i64 st2, vb, .string c] 32)
  q2 : W.heap[r + 1 + 1]? = some (.cells #[.int .i64 0, .slice none 0 0, .string ⟨#[]⟩] 32)
  q3 : W.heap[o]? = some (.cells #[.int .i64 st, z, .string b] 32)
  own : W.ownsRow (r + 1 + 1 + 1) 68 2 z P.length (flatF P)
  ne : ∀ j, z.ownBlock = some j → j ≠ o
  ge : r + 1 + 1 + 1 ≤ o
  low : Below r w W
theorem MgSt.lt {w : World} {r o : Nat} {st : Int} {va : Value} {b : ByteArray} {st2 : Int} {vb : Value} {c : ByteArray} {z : Value} {P : List (ByteArray × ByteArray)} {W : World} (h : MgSt w r o st va b st2 vb c z P W) : o < W.heap.size := (Array.getElem?_eq_some_iff.1 h.q3).1
theorem MgSt.below {w : World} {r o : Nat} {st : Int} {va : Value} {b : ByteArray} {st2 : Int} {vb : Value} {c : ByteArray} {z : Value} {P : List (ByteArray × ByteArray)} {W : World} {W' : World} (h : MgSt w r o st va b st2 vb c z P W) (hb : Below W.heap.size W W') : MgSt w r o st va b st2 vb c z P W' := by
  have hs := h.lt
  have hg := h.ge
  exact ⟨by rw [hb.block _ (by omega)]; exact h.q0, by rw [hb.block _ (by omega)]; exact h.q1, by rw [hb.block _ (by omega)]; exact h.q2, by rw [hb.block _ hs]; exact h.q3, owns_same h.own (fun j hj => hb.block j (owns_lt h.own hj)), h.ne, hg, h.low.trans (hb.mono (by omega))⟩
theorem MgSt.set {w : World} {r o : Nat} {st : Int} {va : Value} {b : ByteArray} {st2 : Int} {vb : Value} {c : ByteArray} {z : Value} {P : List (ByteArray × ByteArray)} {W : World} {W' : World} (h : MgSt w r o st va b st2 vb c z P W) (hb : Below W.heap.size W W') {y : Value} {Q : List (ByteArray × ByteArray)} (hy : W'.ownsRow W.heap.size 68 2 y Q.length (flatF Q)) : MgSt w r o st va b st2 vb c y Q (W'.setCell ⟨o, 1, none⟩ y) := by
  have h' := h.below hb
  have hs := h.lt
  have hg := h.ge
  have hne : ∀ j, y.ownBlock = some j → j ≠ o := fun j hj => by have := owns_ge hy hj; omega
  refine ⟨by rw [heap_setCell_other _ _ r _ (by show r ≠ o; omega)]; exact h'.q0, by rw [heap_setCell_other _ _ (r + 1) _ (by show r + 1 ≠ o; omega)]; exact h'.q1, by rw [heap_setCell_other _ _ (r + 1 + 1) _ (by show r + 1 + 1 ≠ o; omega)]; exact h'.q2, ?_, owns_same (owns_wide hy (by omega)) (fun j hj => heap_setCell_other _ _ j _ (hne j hj)), hne, hg, h'.low.setCell (by show r ≤ o; omega) _⟩
  have := heap_set W' o 1 _ _ _ y h'.q3
  simpa using this

set_option maxHeartbeats 2000000 in
set_option maxRecDepth 100000 in
theorem specMerge_any (st : Int) (v : Value) (b : ByteArray) (n base : Nat) (fs : List (ByteArray × ByteArray)) (st2 : Int) (u : Value) (c : ByteArray) (k base2 : Nat) (gs : List (ByteArray × ByteArray)) (w : World) (hv : FieldsV w base v n fs) (hsz : WalkF n fs) (hb : b.size ≤ maxLen) (hu : FieldsV w base2 u k gs) (hnk : n + k ≤ 1999999) (hsz2 : WalkF k gs) :
    Calls Try.prog 36 #[.agg #[.int .i64 st, v, .string b], .agg #[.int .i64 st2, u, .string c]] w fun e w' => RespRow st (mergeF st fs b gs) b w e w' := by
  obtain ⟨oa, cap, rfl, _⟩ := hv.slice
  obtain ⟨ob, cb, rfl, hrowb⟩ := hu.slice
  have HLA : Hid (fs.length = n) := hv.len
  have HLB : Hid (gs.length = k) := hu.len
  obtain ⟨r, hr⟩ : ∃ r, r = w.heap.size := ⟨_, rfl⟩
  have HR : Hid (w.heap.size = r) := hr.symm
  have HGR : Hid (∀ j, j < k → ∃ g, ob = some ⟨g, 0, none⟩ ∧ g < r) := fun j hj => by obtain ⟨g, h1, h2⟩ := hrowb j hj; exact ⟨g, h1, by rw [hr]; exact h2.lt⟩
  clear hrowb
  obtain ⟨W1, hW1⟩ : ∃ W, W = ((w.alloc (.cells #[.int .i64 st, .slice oa n cap, .string b] 32)).alloc (.cells #[.int .i64 st2, .slice ob k cb, .string c] 32)).alloc (.cells #[.int .i64 0, .slice none 0 0, .string ⟨#[]⟩] 32) := ⟨_, rfl⟩
  have HW1 : Hid (((w.alloc (.cells #[.int .i64 st, .slice oa n cap, .string b] 32)).alloc (.cells #[.int .i64 st2, .slice ob k cb, .string c] 32)).alloc (.cells #[.int .i64 0, .slice none 0 0, .string ⟨#[]⟩] 32) = W1) := hW1.symm
  have HVA : Hid (∀ W, Below r w W → FieldsV W base (.slice oa n cap) n fs) := fun W h => hv.below (by rw [hr] at h; exact h)
  have HVB : Hid (∀ W, Below r w W → FieldsV W base2 (.slice ob k cb) k gs) := fun W h => hu.below (by rw [hr] at h; exact h)
  have H1 : Hid (W1.heap[r]? = some (.cells #[.int .i64 st, .slice oa n cap, .string b] 32) ∧ W1.heap[r + 1]? = some (.cells #[.int .i64 st2, .slice ob k cb, .string c] 32) ∧ W1.heap[r + 1 + 1]? = some (.cells #[.int .i64 0, .slice none 0 0, .string ⟨#[]⟩] 32) ∧ Below r w W1 ∧ W1.heap.size = r + 1 + 1 + 1) := by
    have b1 : Below r w W1 := by rw [hW1, hr]; exact (((Below.refl _ w).alloc (Nat.le_refl _) _).alloc (by simp) _).alloc (by simp; omega) _
    have s1 : (w.alloc (.cells #[.int .i64 st, .slice oa n cap, .string b] 32)).heap.size = r + 1 := by rw [hr]; simp
    have s2 : ((w.alloc (.cells #[.int .i64 st, .slice oa n cap, .string b] 32)).alloc (.cells #[.int .i64 st2, .slice ob k cb, .string c] 32)).heap.size = r + 1 + 1 := by rw [hr]; simp
    have s3 : W1.heap.size = r + 1 + 1 + 1 := by rw [hW1, hr]; simp
    have e0 := heap_alloc_new w (.cells #[.int .i64 st, .slice oa n cap, .string b] 32)
    have e1 := heap_alloc_new (w.alloc (.cells #[.int .i64 st, .slice oa n cap, .string b] 32)) (.cells #[.int .i64 st2, .slice ob k cb, .string c] 32)
    have e2 := heap_alloc_new ((w.alloc (.cells #[.int .i64 st, .slice oa n cap, .string b] 32)).alloc (.cells #[.int .i64 st2, .slice ob k cb, .string c] 32)) (.cells #[.int .i64 0, .slice none 0 0, .string ⟨#[]⟩] 32)
    rw [← hr] at e0
    rw [s1] at e1
    rw [s2, ← hW1] at e2
    have c1 : Below (r + 1) (w.alloc (.cells #[.int .i64 st, .slice oa n cap, .string b] 32)) W1 := by rw [hW1, ← s1]; exact ((Below.refl _ _).alloc (Nat.le_refl _) _).alloc (by simp) _
    have c2 : Below (r + 1 + 1) ((w.alloc (.cells #[.int .i64 st, .slice oa n cap, .string b] 32)).alloc (.cells #[.int .i64 st2, .slice ob k cb, .string c] 32)) W1 := by rw [hW1, ← s2]; exact (Below.refl _ _).alloc (Nat.le_refl _) _
    exact ⟨by rw [c1.block r (by omega)]; exact e0, by rw [c2.block (r + 1) (by omega)]; exact e1, e2, b1, s3⟩
  have HSZ : Hid (WalkF n fs) := hsz
  have HSB : Hid (WalkF k gs) := hsz2
  have HBM : Hid (b.size ≤ maxLen) := hb
  obtain ⟨⟨c0, c1, c2⟩, _⟩ := three_facts H1.out.1
  have hv1 := HVA.out W1 H1.out.2.2.2.1
  clear hW1 hv hu hsz hsz2 hb
  go_enter Try.func36, Try.ntmps36
  go_upto_region 1 with fail
  rw [HW1.out, ← hr]
  clear hr HW1
  go_wp2_with fail
  refine (l9Resp_any st _ b n base fs _ hv1 (by omega)).mono ?_
  rintro e w2 ⟨z, rfl, own, b2⟩
  obtain ⟨oz, cz, rfl⟩ := slice_of_owns own
  obtain ⟨o, ho⟩ : ∃ o, o = w2.heap.size := ⟨_, rfl⟩
  have HS0 : Hid (MgSt w r o st (.slice oa n cap) b st2 (.slice ob k cb) c (.slice oz fs.length cz) fs (w2.alloc (.cells #[.int .i64 st, .slice oz fs.length cz, .string b] 32))) := by
    obtain ⟨a0, a1, a2, a3, a4⟩ := H1.out
    have b3 : Below w2.heap.size w2 (w2.alloc (.cells #[.int .i64 st, .slice oz fs.length cz, .string b] 32)) := (Below.refl _ _).alloc (Nat.le_refl _) _
    have b4 := b2.trans (b3.mono b2.size)
    rw [a4] at own b2 b4
    have hs2 := b2.size
    rw [a4] at hs2
    have e3 := heap_alloc_new w2 (.cells #[.int .i64 st, .slice oz fs.length cz, .string b] 32)
    rw [← ho] at e3
    exact ⟨by rw [b4.block r (by omega)]; exact a0, by rw [b4.block (r + 1) (by omega)]; exact a1, by rw [b4.block (r + 1 + 1) (by omega)]; exact a2, e3, owns_same own (fun j hj => b3.block j (owns_lt own hj)), fun j hj => by have := owns_lt own hj; omega, by omega, a3.trans (b4.mono (by omega))⟩
  clear own b2 c0 c1 c2 hv1
  go_upto_region 2 with fail
  rw [← ho]
  obtain ⟨W3, hW3⟩ : ∃ W, W = w2.alloc (.cells #[.int .i64 st, .slice oz fs.length cz, .string b] 32) := ⟨_, rfl⟩
  rw [← hW3] at HS0 ⊢
  clear hW3 ho H1
  go_wp2_with fail
  go_loopw [6] (fun i wr => ∃ (j : Nat) (z : Value) (P : List (ByteArray × ByteArray)), j ≤ k ∧ i = .int .i64 (j : Int) ∧ Hid (MgSt w r o st (.slice oa n cap) b st2 (.slice ob k cb) c z P wr) ∧ Hid (P = putAll fs (gs.take j)) ∧ Hid (WalkF P.length P)) (fun i _ => k - (intOf i).toNat)
  case atStart => exact ⟨0, _, fs, Nat.zero_le _, rfl, HS0, by show _ = _; simp [putAll], by show WalkF _ _; rw [HLA.out]; exact HSZ.out⟩
  case round =>
    obtain ⟨j, z, P, hj, rfl, HS, HP, HW⟩ := hrel
    obtain ⟨oz, cz, rfl⟩ := slice_of_owns HS.out.own
    obtain ⟨⟨_, t1, _⟩, _⟩ := three_facts HS.out.q1
    have HPL : Hid (P.length ≤ 1999999) := by
      show _ ≤ _
      rw [HP.out]
      have h1 := putAll_le fs (gs.take j)
      have h2 := HLA.out
      rw [List.length_take] at h1
      omega
    by_cases hlt : (j : Int) < (k : Int)
    · have hjg : j < gs.length := by rw [HLB.out]; omega
      obtain ⟨_, _, hsl, hrow⟩ := (HVB.out wr HS.out.low).slice
      cases hsl
      obtain ⟨g, rfl, row⟩ := hrow j (by omega)
      have n1 := row.name j (by omega)
      have n2 := row.val j (by omega)
      obtain ⟨w1, w2'⟩ := HSB.out j (by omega)
      obtain ⟨x, hx⟩ : ∃ x, x = nameAt gs j := ⟨_, rfl⟩
      obtain ⟨y, hy⟩ : ∃ y, y = valAt gs j := ⟨_, rfl⟩
      rw [← hx] at n1 w1
      rw [← hy] at n2 w2'
      have HP2 : Hid (putF P x y = putAll fs (gs.take (j + 1))) := by show _ = _; rw [take_field gs j hjg, putAll_snoc, HP.out, hx, hy]
      have HW2 : Hid (WalkF (putF P x y).length (putF P x y)) := put_walk P x y HW.out w1 w2'
      obtain ⟨⟨_, u1, _⟩, _, yf1, _⟩ := three_facts HS.out.q3
      clear hx hy row w1 w2' hjg
      have HVP : Hid (FieldsV wr.drew (r + 1 + 1 + 1) (.slice oz P.length cz) P.length P) := FieldsV.of_owns (HS.out.below (Below.refl _ _).drew).own
      have HAF : Hid (∀ W1, Below wr.drew.heap.size wr.drew W1 → ∀ z2, W1.ownsRow wr.drew.heap.size 68 2 z2 (putF P x y).length (flatF (putF P x y)) → (W1.cell? ⟨r + 1, 1, none⟩ = some (.slice (some ⟨g, 0, none⟩) k cb) ∧ W1.cell? ⟨g, j * 2, none⟩ = some (.string x) ∧ W1.cell? ⟨g, j * 2 + 1, none⟩ = some (.string y)) ∧ ((W1.setCell ⟨o, 1, none⟩ z2).cell? ⟨r + 1, 1, none⟩ = some (.slice (some ⟨g, 0, none⟩) k cb) ∧ (W1.setCell ⟨o, 1, none⟩ z2).cell? ⟨g, j * 2, none⟩ = some (.string x) ∧ (W1.setCell ⟨o, 1, none⟩ z2).cell? ⟨g, j * 2 + 1, none⟩ = some (.string y)) ∧ (∃ q, W1.cell? ⟨o, 1, none⟩ = some q) ∧ W1.frozen? ⟨o, 1, none⟩ = false ∧ MgSt w r o st (.slice oa n cap) b st2 (.slice (some ⟨g, 0, none⟩) k cb) c z2 (putF P x y) (W1.setCell ⟨o, 1, none⟩ z2)) := by
        intro W1 b1 z2 own2
        have b1' : Below wr.heap.size wr W1 := (Below.refl _ wr).drew.trans (b1.mono (Nat.le_refl _))
        have h1 := HS.out.below b1'
        obtain ⟨⟨_, a1, _⟩, _⟩ := three_facts h1.q1
        obtain ⟨⟨_, a2, _⟩, _, a3, _⟩ := three_facts h1.q3
        have hge := HS.out.ge
        obtain ⟨g', hg1, hg2⟩ := HGR.out j (by omega)
        cases hg1
        have hgw : g < wr.heap.size := by have := HS.out.lt; omega
        have m1 : W1.cell? ⟨g, j * 2, none⟩ = some (.string x) := by rw [b1'.cell (p := ⟨g, j * 2, none⟩) hgw]; exact n1
        have m2 : W1.cell? ⟨g, j * 2 + 1, none⟩ = some (.string y) := by rw [b1'.cell (p := ⟨g, j * 2 + 1, none⟩) hgw]; exact n2
        exact ⟨⟨a1, m1, m2⟩, ⟨by rw [cell_set_other _ _ _ _ _ _ (by omega)]; exact a1, by rw [cell_set_other _ _ _ _ _ _ (by omega)]; exact m1, by rw [cell_set_other _ _ _ _ _ _ (by omega)]; exact m2⟩, ⟨_, a2⟩, a3, HS.out.set b1' own2⟩
      go_upto_region 5 with fail
      refine wp_region_held_drew (S := fun W => W.cell? ⟨r + 1, 1, none⟩ = some (.slice (some ⟨g, 0, none⟩) k cb) ∧ W.cell? ⟨g, j * 2, none⟩ = some (.string x) ∧ W.cell? ⟨g, j * 2 + 1, none⟩ = some (.string y)) (by kernel_rfl) ⟨t1, n1, n2⟩ (fun hS0 => ?_)
      refine wpAnyH_takeD (i := 0) (v := .pointer (some ⟨o, 1, none⟩)) (some 16) rfl rfl (by kernel_rfl) (by kernel_rfl) (by kernel_rfl) (fun _ _ _ h => h) (Or.inl ⟨by rfl, by intro W _; go_simp⟩) hS0 ?_
      simp only [Act.put, List.setIfInBounds_toArray, List.set_cons_zero, List.set_cons_succ]
      refine wpAnyH_takeD (i := 2) (v := .pointer (some ⟨r + 1, 1, none⟩)) (some 18) rfl rfl (by kernel_rfl) (by kernel_rfl) (by kernel_rfl) (fun _ _ _ h => h) (Or.inl ⟨by rfl, by intro W _; go_simp⟩) hS0 ?_
      simp only [Act.put, List.setIfInBounds_toArray, List.set_cons_zero, List.set_cons_succ]
      refine wpAnyH_takeD (i := 3) (v := .slice (some ⟨g, 0, none⟩) k cb) (some 19) rfl rfl (by kernel_rfl) (by kernel_rfl) (by kernel_rfl) (fun _ _ _ h => h) (Or.inl ⟨by rfl, by intro W hW; obtain ⟨h1, h2, h3⟩ := hW; go_simp⟩) hS0 ?_
      simp only [Act.put, List.setIfInBounds_toArray, List.set_cons_zero, List.set_cons_succ]
      refine wpAnyH_takeD (i := 4) (v := .int .i64 (j : Int)) (some 20) rfl rfl (by kernel_rfl) (by kernel_rfl) (by kernel_rfl) (fun _ _ _ h => h) (Or.inl ⟨by rfl, by intro W _; go_simp⟩) hS0 ?_
      simp only [Act.put, List.setIfInBounds_toArray, List.set_cons_zero, List.set_cons_succ]
      refine wpAnyH_takeD (i := 5) (v := .pointer (some ⟨g, j * 2, none⟩)) (some 21) rfl rfl (by kernel_rfl) (by kernel_rfl) (by kernel_rfl) (fun _ _ _ h => h) (Or.inl ⟨by rfl, by intro W _; go_simp⟩) hS0 ?_
      simp only [Act.put, List.setIfInBounds_toArray, List.set_cons_zero, List.set_cons_succ]
      refine wpAnyH_takeD (i := 6) (v := .pointer (some ⟨g, j * 2, none⟩)) (some 22) rfl rfl (by kernel_rfl) (by kernel_rfl) (by kernel_rfl) (fun _ _ _ h => h) (Or.inl ⟨by rfl, by intro W _; go_simp⟩) hS0 ?_
      simp only [Act.put, List.setIfInBounds_toArray, List.set_cons_zero, List.set_cons_succ]
      refine wpAnyH_takeD (i := 7) (v := .string x) (some 23) rfl rfl (by kernel_rfl) (by kernel_rfl) (by kernel_rfl) (fun _ _ _ h => h) (Or.inl ⟨by rfl, by intro W hW; obtain ⟨h1, h2, h3⟩ := hW; go_simp⟩) hS0 ?_
      simp only [Act.put, List.setIfInBounds_toArray, List.set_cons_zero, List.set_cons_succ]
      refine wpAnyH_takeD (i := 8) (v := .pointer (some ⟨r + 1, 1, none⟩)) (some 24) rfl rfl (by kernel_rfl) (by kernel_rfl) (by kernel_rfl) (fun _ _ _ h => h) (Or.inl ⟨by rfl, by intro W _; go_simp⟩) hS0 ?_
      simp only [Act.put, List.setIfInBounds_toArray, List.set_cons_zero, List.set_cons_succ]
      refine wpAnyH_takeD (i := 9) (v := .slice (some ⟨g, 0, none⟩) k cb) (some 25) rfl rfl (by kernel_rfl) (by kernel_rfl) (by kernel_rfl) (fun _ _ _ h => h) (Or.inl ⟨by rfl, by intro W hW; obtain ⟨h1, h2, h3⟩ := hW; go_simp⟩) hS0 ?_
      simp only [Act.put, List.setIfInBounds_toArray, List.set_cons_zero, List.set_cons_succ]
      refine wpAnyH_takeD (i := 10) (v := .int .i64 (j : Int)) (some 26) rfl rfl (by kernel_rfl) (by kernel_rfl) (by kernel_rfl) (fun _ _ _ h => h) (Or.inl ⟨by rfl, by intro W _; go_simp⟩) hS0 ?_
      simp only [Act.put, List.setIfInBounds_toArray, List.set_cons_zero, List.set_cons_succ]
      refine wpAnyH_takeD (i := 11) (v := .pointer (some ⟨g, j * 2, none⟩)) (some 27) rfl rfl (by kernel_rfl) (by kernel_rfl) (by kernel_rfl) (fun _ _ _ h => h) (Or.inl ⟨by rfl, by intro W _; go_simp⟩) hS0 ?_
      simp only [Act.put, List.setIfInBounds_toArray, List.set_cons_zero, List.set_cons_succ]
      refine wpAnyH_takeD (i := 12) (v := .pointer (some ⟨g, j * 2 + 1, none⟩)) (some 28) rfl rfl (by kernel_rfl) (by kernel_rfl) (by kernel_rfl) (fun _ _ _ h => h) (Or.inl ⟨by rfl, by intro W _; go_simp⟩) hS0 ?_
      simp only [Act.put, List.setIfInBounds_toArray, List.set_cons_zero, List.set_cons_succ]
      refine wpAnyH_takeD (i := 13) (v := .string y) (some 29) rfl rfl (by kernel_rfl) (by kernel_rfl) (by kernel_rfl) (fun _ _ _ h => h) (Or.inl ⟨by rfl, by intro W hW; obtain ⟨h1, h2, h3⟩ := hW; go_simp⟩) hS0 ?_
      simp only [Act.put, List.setIfInBounds_toArray, List.set_cons_zero, List.set_cons_succ]
      refine wpAnyH_ready (rs := [1]) (by kernel_rfl) (by simp) ?_
      refine AllReadyH.cons rfl (fun K hK => ?_) AllReadyH.nil
      go_simp
      refine hK.out _ _ hS0 (fun hS1 => ?_)
      clear hK K
      refine wpAnyH_ready (rs := [14]) (by kernel_rfl) (by simp) ?_
      refine AllReadyH.cons rfl (fun K hK => ?_) AllReadyH.nil
      go_simp
      refine (specPut_any _ P.length _ P x y _ HVP.out (by have := HPL.out; omega)).mono ?_
      rintro e w5 ⟨z5, rfl, own5, b5⟩
      obtain ⟨o5, c5, rfl⟩ := slice_of_owns own5
      obtain ⟨hS5, hS6, ⟨q5, hq5⟩, f5, hM5⟩ := HAF.out w5 b5 _ own5
      have HM5 : Hid (MgSt w r o st (.slice oa n cap) b st2 (.slice (some ⟨g, 0, none⟩) k cb) c (.slice o5 (putF P x y).length c5) (putF P x y) (w5.setCell ⟨o, 1, none⟩ (.slice o5 (putF P x y).length c5))) := hM5
      refine hK.out _ _ hS5 (fun _ => ?_)
      clear hK K own5 b5 hM5 hS0 hS1 t1 n1 n2 u1 yf1 HVP HAF HS
      refine wpAnyH_takeD (i := 15) (v := .pointer (some ⟨o, 1, none⟩)) (some 31) rfl rfl (by kernel_rfl) (by kernel_rfl) (by kernel_rfl) (fun _ _ _ h => h) (Or.inl ⟨by rfl, by intro W _; go_simp⟩) hS5 ?_
      simp only [Act.put, List.setIfInBounds_toArray, List.set_cons_zero, List.set_cons_succ]
      refine wpAnyH_ready (rs := [16]) (by kernel_rfl) (by simp) ?_
      refine AllReadyH.cons rfl (fun K hK => ?_) AllReadyH.nil
      go_simp
      refine hK.out _ _ hS6 (fun _ => ?_)
      clear hK K hq5 f5 hS5 hS6
      refine wpAnyH_done (by kernel_rfl) ?_ _
      go_wp2_with fail
      go_roundw
      case rel => exact ⟨j + 1, _, putF P x y, by omega, by go_num, HM5, HP2, HW2⟩
      case measure => simp [intOf]; omega
    · obtain rfl : j = k := by omega
      have HPE : Hid (P = putAll fs gs) := by
        have h := HP.out
        rw [List.take_of_length_le (by rw [HLB.out]; exact Nat.le_refl _)] at h
        exact h
      have HVP : Hid (FieldsV wr (r + 1 + 1 + 1) (.slice oz P.length cz) P.length P) := FieldsV.of_owns HS.out.own
      obtain ⟨⟨u0, u1, u2⟩, _⟩ := three_facts HS.out.q3
      clear HP
      go_wp2_with fail
      refine (specRespOk_any st _ b P.length _ P _ HVP.out (by have := HPL.out; omega) HW.out HBM.out).mono ?_
      rintro e w5 ⟨ok, rfl, hok, b5⟩
      have HS5 : Hid (MgSt w r o st (.slice oa n cap) b st2 (.slice ob j cb) c (.slice oz P.length cz) P w5) := HS.out.below b5
      clear b5 HVP u0 u1 u2 t1 HS
      cases ok with
      | true =>
        have HFE : Hid (mergeF st fs b gs = P) := by
          show _ = _
          unfold mergeF
          rw [← HPE.out]
          exact if_pos (hok.1 rfl)
        clear hok
        obtain ⟨⟨d0, d1, d2⟩, _⟩ := three_facts HS5.out.q3
        obtain ⟨⟨e0, e1, e2⟩, g0, g1, g2⟩ := three_facts HS5.out.q2
        have hset := three_set HS5.out.q2 (.int .i64 st) (.slice oz P.length cz) (.string b)
        obtain ⟨⟨k0, k1, k2⟩, _⟩ := three_facts hset
        have HFB : Hid (Below r w (threeSet w5 (r + 1 + 1) (.int .i64 st) (.slice oz P.length cz) (.string b))) := below_three HS5.out.low (by omega)
        have HFO : Hid ((threeSet w5 (r + 1 + 1) (.int .i64 st) (.slice oz P.length cz) (.string b)).ownsRow r 68 2 (.slice oz P.length cz) (mergeF st fs b gs).length (flatF (mergeF st fs b gs))) := by
          show World.ownsRow _ _ _ _ _ _ _
          rw [HFE.out]
          refine owns_same (owns_wide HS5.out.own (by omega)) (fun j hj => ?_)
          have hj2 := owns_ge HS5.out.own hj
          rw [three_other _ _ j _ _ _ (by omega)]
        unfold threeSet at k0 k1 k2 HFB HFO
        clear hset HS5
        go_wp2_with fail
        refine bodyPost_ret (v := .agg #[.int .i64 st, .slice oz P.length cz, .string b]) (by simp [results, Try.results36, go_sem, k0, k1, k2]) rfl ?_
        exact ⟨_, rfl, by rw [HR.out]; exact HFO.out, by rw [HR.out]; exact HFB.out⟩
      | false =>
        have HFE : Hid (mergeF st fs b gs = fs) := by
          show _ = _
          unfold mergeF
          rw [← HPE.out]
          exact if_neg (fun h => nomatch hok.2 h)
        obtain ⟨⟨u0, u1, u2⟩, _⟩ := three_facts HS5.out.q0
        have hva := HVA.out w5 HS5.out.low
        clear hok
        go_wp2_with fail
        refine (l9Resp_any st _ b n base fs _ hva (by omega)).mono ?_
        rintro e w6 ⟨z6, rfl, own6, b6⟩
        obtain ⟨o6, c6, rfl⟩ := slice_of_owns own6
        have H6 : Hid (w6.heap[r + 1 + 1]? = some (.cells #[.int .i64 0, .slice none 0 0, .string ⟨#[]⟩] 32) ∧ Below r w w6) := ⟨by rw [b6.block _ (by have := HS5.out.lt; have := HS5.out.ge; omega)]; exact HS5.out.q2, (HS5.out.below b6).low⟩
        have HO6 : Hid (w6.ownsRow (r + 1 + 1 + 1) 68 2 (.slice o6 fs.length c6) fs.length (flatF fs)) := owns_wide own6 (by have := HS5.out.lt; have := HS5.out.ge; omega)
        clear own6 b6 u0 u1 u2 hva HS5
        obtain ⟨⟨e0, e1, e2⟩, g0, g1, g2⟩ := three_facts H6.out.1
        have hset := three_set H6.out.1 (.int .i64 st) (.slice o6 fs.length c6) (.string b)
        obtain ⟨⟨k0, k1, k2⟩, _⟩ := three_facts hset
        have HFB : Hid (Below r w (threeSet w6 (r + 1 + 1) (.int .i64 st) (.slice o6 fs.length c6) (.string b))) := below_three H6.out.2 (by omega)
        have HFO : Hid ((threeSet w6 (r + 1 + 1) (.int .i64 st) (.slice o6 fs.length c6) (.string b)).ownsRow r 68 2 (.slice o6 fs.length c6) (mergeF st fs b gs).length (flatF (mergeF st fs b gs))) := by
          show World.ownsRow _ _ _ _ _ _ _
          rw [HFE.out]
          refine owns_same (owns_wide HO6.out (by omega)) (fun j hj => ?_)
          have hj2 := owns_ge HO6.out hj
          rw [three_other _ _ j _ _ _ (by omega)]
        unfold threeSet at k0 k1 k2 HFB HFO
        clear hset H6 HO6
        go_wp2_with fail
        refine bodyPost_ret (v := .agg #[.int .i64 st, .slice o6 fs.length c6, .string b]) (by simp [results, Try.results36, go_sem, k0, k1, k2]) rfl ?_
        exact ⟨_, rfl, by rw [HR.out]; exact HFO.out, by rw [HR.out]; exact HFB.out⟩

end Go.Proofs.Ythlmnmbhgkmbfaa

namespace Go.Proofs.Ythlmnmbhgkmbfaa
open Go.RowKit
open Go.Lib hiding intOf

set_option maxHeartbeats 1000000 in
theorem fieldOk_any (v : Value) (n base : Nat) (fs : List (ByteArray × ByteArray)) (k : Nat) (w : World) (hv : FieldsV w base v n fs) (hn : n ≤ 1073741824) (hk : k < n) (hs1 : (nameAt fs k).size ≤ maxLen) (hs2 : (valAt fs k).size ≤ maxLen) :
    Calls Try.prog 121 #[v, .int .i64 (k : Int)] w fun e w' => BoolIs (FldOk fs k) w e w' := by
  have HV : Hid (∀ W, Below w.heap.size w W → FieldsV W base v n fs) := fun W h => hv.below h
  obtain ⟨oa, cap, rfl, hrow⟩ := hv.slice
  obtain ⟨g, rfl, row⟩ := hrow k hk
  have hlt2 : (k : Int) < (n : Int) := by omega
  have hc1 := row.name k hk
  have hc2 := row.val k hk
  obtain ⟨nm, hnm⟩ : ∃ x, x = nameAt fs k := ⟨_, rfl⟩
  obtain ⟨vl, hvl⟩ : ∃ x, x = valAt fs k := ⟨_, rfl⟩
  have HO : Hid (FldOk fs k ↔ TokOk nm ∧ ValOk vl ∧ atF fs nm = k ∧ nm ≠ clen) := by rw [hnm, hvl]; exact Iff.rfl
  rw [← hnm] at hc1 hs1
  rw [← hvl] at hc2 hs2
  clear hv hrow row hnm hvl
  obtain ⟨r, hr⟩ : ∃ r, r = w.heap.size := ⟨_, rfl⟩
  have h0 : (w.alloc (.cells #[.string nm, .string vl] 68)).heap.size = w.heap.size + 1 := by simp
  have HB0 : Hid (Below w.heap.size w (w.alloc (.cells #[.string nm, .string vl] 68)) ∧ w.heap.size ≤ (w.alloc (.cells #[.string nm, .string vl] 68)).heap.size) := ⟨(Below.refl _ w).alloc (Nat.le_refl _) _, by omega⟩
  have HR : Hid (∀ W, Below (w.alloc (.cells #[.string nm, .string vl] 68)).heap.size (w.alloc (.cells #[.string nm, .string vl] 68)) W → W.cell? ⟨r, 0, none⟩ = some (.string nm) ∧ W.cell? ⟨r, 1, none⟩ = some (.string vl)) := fun W h => by
    have hh : W.heap[r]? = some (.cells #[.string nm, .string vl] 68) := by rw [hr, h.block _ (by omega)]; exact heap_alloc_new w _
    exact ⟨by simp [World.cell?, hh], by simp [World.cell?, hh]⟩
  go_enter Try.func121, Try.ntmps121
  go_wp2_with fail
  refine (implTokenOk_any nm _ hs1).mono ?_
  rintro e w1 ⟨b1, rfl, kb1, bb1⟩
  rw [← hr]
  have hb1 : Below w.heap.size w w1 := HB0.out.1.trans (bb1.mono HB0.out.2)
  obtain ⟨d1, d2⟩ := HR.out w1 bb1
  clear h0
  cases b1
  · have HF : Hid (¬ FldOk fs k) := fun h => by have := kb1.2 (HO.out.1 h).1; cases this
    clear kb1 hc1 hc2 bb1 hr
    go_wp2_with fail
    go_ret
    exact BoolIs.no HF.out hb1
  · have HT : Hid (TokOk nm) := kb1.1 rfl
    clear kb1 hc1 hc2 hr
    go_wp2_with fail
    refine (implValueOk_any vl _ hs2).mono ?_
    rintro e w2 ⟨b2, rfl, kb2, bb2⟩
    have bb2' := bb1.trans (bb2.mono bb1.size)
    have hb2 : Below w.heap.size w w2 := HB0.out.1.trans (bb2'.mono HB0.out.2)
    obtain ⟨d3, d4⟩ := HR.out w2 bb2'
    cases b2
    · have HF : Hid (¬ FldOk fs k) := fun h => by have := kb2.2 (HO.out.1 h).2.1; cases this
      clear kb2 bb1 bb2 bb2' hb1 d1 d2
      go_wp2_with fail
      go_ret
      exact BoolIs.no HF.out hb2
    · have HT2 : Hid (ValOk vl) := kb2.1 rfl
      clear kb2 bb1 bb2 bb2' hb1 d1 d2
      by_cases hcl : nm = clen
      · have ht := (text_beq _ _).2 hcl
        rw [clen_list] at ht
        have HF : Hid (¬ FldOk fs k) := fun h => (HO.out.1 h).2.2.2 hcl
        clear hcl
        go_wp2_with fail
        go_ret
        exact BoolIs.no HF.out hb2
      · have ht := text_beq_no hcl
        rw [clen_list] at ht
        have HC : Hid (nm ≠ clen) := hcl
        clear hcl
        go_wp2_with fail
        refine (place_any _ n base fs nm _ (HV.out w2 hb2) hn).mono ?_
        rintro e w3 ⟨rfl, rfl⟩
        by_cases hat : atF fs nm = k
        · have HY : Hid (FldOk fs k) := HO.out.2 ⟨HT.out, HT2.out, hat, HC.out⟩
          rw [hat]
          clear hat
          go_wp2
          go_ret
          exact BoolIs.yes HY.out hb2
        · have HF : Hid (¬ FldOk fs k) := fun h => hat (HO.out.1 h).2.2.1
          have hne : ((atF fs nm : Int) == (k : Int)) = false := by rw [beq_eq_false_iff_ne]; omega
          clear hat
          go_wp2
          go_ret
          exact BoolIs.no HF.out hb2

set_option maxHeartbeats 1000000 in
theorem ok_any (v : Value) (n base : Nat) (fs : List (ByteArray × ByteArray)) (w : World) (hv : FieldsV w base v n fs) (hn : n ≤ 1073741824) (hsz : ∀ i, i < n → (nameAt fs i).size ≤ maxLen ∧ (valAt fs i).size ≤ maxLen) :
    Calls Try.prog 111 #[v] w fun e w' => BoolIs (FldsOk fs) w e w' := by
  have hl := hv.len
  have HV : Hid (∀ W, Below w.heap.size w W → FieldsV W base v n fs) := fun W h => hv.below h
  have HS : Hid (∀ i, i < n → (nameAt fs i).size ≤ maxLen ∧ (valAt fs i).size ≤ maxLen) := hsz
  obtain ⟨oa, cap, rfl, hrow⟩ := hv.slice
  clear hv hrow hsz
  by_cases h8 : (8 : Int) < (n : Int)
  · have HF : Hid (¬ FldsOk fs) := fun h => by have := h.1; omega
    go_enter Try.func111, Try.ntmps111
    go_wp2
    go_ret
    exact BoolIs.no HF.out (Below.refl _ _)
  · go_enter Try.func111, Try.ntmps111
    go_wp2
    go_loopw [9] (fun i wr => ∃ k : Nat, k ≤ n ∧ i = .int .i64 (k : Int) ∧ Hid (∀ j, j < k → FldOk fs j) ∧ Below w.heap.size w wr) (fun i _ => n - (intOf i).toNat)
    case atStart => exact ⟨0, Nat.zero_le _, rfl, fun j h => absurd h (by omega), Below.refl _ _⟩
    case round =>
      obtain ⟨k, hk, rfl, hall, hbw⟩ := hrel
      by_cases hlt : k < n
      · have hlt2 : (k : Int) < (n : Int) := by omega
        obtain ⟨hs1, hs2⟩ := HS.out k hlt
        go_wp2_with fail
        refine (fieldOk_any _ n base fs k _ (HV.out wr hbw) hn hlt hs1 hs2).mono ?_
        rintro e w1 ⟨b1, rfl, kb1, bb1⟩
        have hb1 : Below w.heap.size w w1 := hbw.trans (bb1.mono hbw.size)
        cases b1
        · have HF : Hid (¬ FldsOk fs) := fun h => by have := kb1.2 (h.2 k (by omega)); cases this
          clear kb1 bb1
          go_wp2
          go_ret
          exact BoolIs.no HF.out hb1
        · have HY : Hid (FldOk fs k) := kb1.1 rfl
          clear kb1 bb1
          go_wp2
          go_roundw
          case rel =>
            refine ⟨k + 1, by omega, by go_num, ?_, hb1⟩
            intro j hj
            by_cases e : j = k
            · subst e; exact HY.out
            · exact hall.out j (by omega)
          case measure => simp [intOf]; omega
      · have HF : Hid (FldsOk fs) := ⟨by omega, fun i hi => hall.out i (by omega)⟩
        go_wp2
        go_ret
        exact BoolIs.yes HF.out hbw

end Go.Proofs.Ythlmnmbhgkmbfaa

namespace Go.Proofs.Ythlmnmbhgkmbfaa
open Go.RowKit
open Go.Lib hiding intOf

/-- What is right of what stands behind the first line. -/
def RestP (fs : List (ByteArray × ByteArray)) (b : ByteArray) : Prop := FldsOk fs ∧ b.size ≤ 120
set_option maxHeartbeats 1000000 in
theorem restOk_any (v : Value) (b : ByteArray) (n base : Nat) (fs : List (ByteArray × ByteArray)) (w : World) (hv : FieldsV w base v n fs) (hn : n ≤ 1073741824) (hsz : WalkF n fs) (hb : b.size ≤ maxLen) :
    Calls Try.prog 89 #[.agg #[v, .string b]] w fun e w' => BoolIs (RestP fs b) w e w' := by
  obtain ⟨oa, cap, rfl, _⟩ := hv.slice
  obtain ⟨r, hr⟩ : ∃ r, r = w.heap.size := ⟨_, rfl⟩
  have HR : Hid (∀ W, Below (w.alloc (.cells #[.slice oa n cap, .string b] 78)).heap.size (w.alloc (.cells #[.slice oa n cap, .string b] 78)) W → (W.cell? ⟨r, 0, none⟩ = some (.slice oa n cap) ∧ W.cell? ⟨r, 1, none⟩ = some (.string b)) ∧ FieldsV W base (.slice oa n cap) n fs ∧ Below w.heap.size w W) := fun W h => by
    have hh := kept_new h
    rw [← hr] at hh
    exact ⟨⟨by simp [World.cell?, hh], by simp [World.cell?, hh]⟩, hv.below (below_new h), below_new h⟩
  obtain ⟨_, hv0, _⟩ := HR.out _ (Below.refl _ _)
  unfold maxLen at hb
  go_enter Try.func89, Try.ntmps89
  go_wp2_with fail
  refine (ok_any _ n base fs _ hv0 hn hsz).mono ?_
  rintro e w1 ⟨b1, rfl, kb1, bb1⟩
  rw [← hr]
  obtain ⟨⟨c0, c1⟩, _, hbw1⟩ := HR.out w1 bb1
  clear hv hv0 hsz bb1 hr
  cases b1
  · have HF : Hid (¬ RestP fs b) := fun h => by have := kb1.2 h.1; cases this
    clear kb1
    go_wp2_with fail
    go_ret
    exact BoolIs.no HF.out hbw1
  · have HT : Hid (FldsOk fs) := kb1.1 rfl
    clear kb1
    by_cases h120 : (b.size : Int) ≤ 120
    · have HY : Hid (RestP fs b) := ⟨HT.out, by omega⟩
      go_wp2_with fail
      go_ret
      exact BoolIs.yes HY.out hbw1
    · have HF : Hid (¬ RestP fs b) := fun h => by have := h.2; omega
      have hd : decide ((b.size : Int) ≤ 120) = false := by simpa using h120
      go_wp2_with fail
      go_ret
      exact BoolIs.no HF.out hbw1

set_option maxHeartbeats 1000000 in
theorem respOk_any (st : Int) (v : Value) (b : ByteArray) (n base : Nat) (fs : List (ByteArray × ByteArray)) (w : World) (hv : FieldsV w base v n fs) (hn : n ≤ 1073741824) (hsz : WalkF n fs) (hb : b.size ≤ maxLen) :
    Calls Try.prog 100 #[.agg #[v, .string b, .int .i64 st]] w fun e w' => BoolIs (RespP st fs b) w e w' := by
  obtain ⟨oa, cap, rfl, _⟩ := hv.slice
  obtain ⟨r, hr⟩ : ∃ r, r = w.heap.size := ⟨_, rfl⟩
  have HR : Hid (∀ W, Below (w.alloc (.cells #[.slice oa n cap, .string b, .int .i64 st] 114)).heap.size (w.alloc (.cells #[.slice oa n cap, .string b, .int .i64 st] 114)) W → (W.cell? ⟨r, 0, none⟩ = some (.slice oa n cap) ∧ W.cell? ⟨r, 1, none⟩ = some (.string b) ∧ W.cell? ⟨r, 2, none⟩ = some (.int .i64 st)) ∧ FieldsV W base (.slice oa n cap) n fs ∧ Below w.heap.size w W) := fun W h => by
    have hh := kept_new h
    rw [← hr] at hh
    exact ⟨⟨by simp [World.cell?, hh], by simp [World.cell?, hh], by simp [World.cell?, hh]⟩, hv.below (below_new h), below_new h⟩
  obtain ⟨_, hv0, hbw0⟩ := HR.out _ (Below.refl _ _)
  have HV0 : Hid (FieldsV (w.alloc (.cells #[.slice oa n cap, .string b, .int .i64 st] 114)) base (.slice oa n cap) n fs) := hv0
  have HSZ : Hid (WalkF n fs) := hsz
  have HBS : Hid (b.size ≤ maxLen) := hb
  clear hv hv0 hsz hb
  by_cases h1 : 100 ≤ st
  · by_cases h2 : st ≤ 599
    · go_enter Try.func100, Try.ntmps100
      go_wp2_with fail
      refine (restOk_any _ b n base fs _ HV0.out hn HSZ.out HBS.out).mono ?_
      rintro e w3 ⟨b2, rfl, kb2, bb3⟩
      obtain ⟨_, _, hbw3⟩ := HR.out w3 bb3
      clear bb3 hbw0
      cases b2
      · have HF : Hid (¬ RespP st fs b) := fun h => by have := kb2.2 h.2; cases this
        clear kb2
        go_wp2_with fail
        go_ret
        exact BoolIs.no HF.out hbw3
      · have HY : Hid (RespP st fs b) := ⟨⟨h1, h2⟩, kb2.1 rfl⟩
        clear kb2
        go_wp2_with fail
        go_ret
        exact BoolIs.yes HY.out hbw3
    · have HF : Hid (¬ RespP st fs b) := fun h => h2 h.1.2
      have hd : decide (st ≤ 599) = false := by simpa using h2
      go_enter Try.func100, Try.ntmps100
      go_wp2_with fail
      go_ret
      exact BoolIs.no HF.out hbw0
  · have HF : Hid (¬ RespP st fs b) := fun h => h1 h.1.1
    have hd : decide (100 ≤ st) = false := by simpa using h1
    go_enter Try.func100, Try.ntmps100
    go_wp2_with fail
    go_ret
    exact BoolIs.no HF.out hbw0

set_option maxHeartbeats 400000 in
theorem answerOf_any (m : Int) (oa : Option Addr) (n cap : Nat) (b : ByteArray) (w : World) :
    Calls Try.prog 99 #[.agg #[.int .i64 m, .slice oa n cap, .string b]] w fun e w' => e = .returned (.agg #[.slice oa n cap, .string b, .int .i64 m]) ∧ Below w.heap.size w w' := by
  go_enter Try.func99, Try.ntmps99
  go_wp2
  exact bodyPost_ret (v := .agg #[.slice oa n cap, .string b, .int .i64 m]) (by simp [results, Try.results99, go_sem]) rfl ⟨rfl, ((Below.refl _ _).alloc (Nat.le_refl _) _).alloc (by simp) _⟩
set_option maxHeartbeats 400000 in
theorem implRespOk_any (m : Int) (v : Value) (b : ByteArray) (n base : Nat) (fs : List (ByteArray × ByteArray)) (w : World) (hv : FieldsV w base v n fs) (hn : n ≤ 1073741824) (hsz : WalkF n fs) (hb : b.size ≤ maxLen) :
    Calls Try.prog 72 #[.agg #[.int .i64 m, v, .string b]] w fun e w' => BoolIs (RespP m fs b) w e w' := by
  obtain ⟨oa, cap, rfl, _⟩ := hv.slice
  have hb0 : Below w.heap.size w (w.alloc (.cells #[.int .i64 m, .slice oa n cap, .string b] 32)) := (Below.refl _ _).alloc (Nat.le_refl _) _
  go_enter Try.func72, Try.ntmps72
  go_wp2_with fail
  refine (answerOf_any m oa n cap b _).mono ?_
  rintro e w1 ⟨rfl, bb1⟩
  have hb1 : Below w.heap.size w w1 := hb0.trans (bb1.mono hb0.size)
  have hv1 := hv.below hb1
  clear bb1 hb0 hv
  go_wp2_with fail
  refine (respOk_any m _ b n base fs _ hv1 hn hsz hb).mono ?_
  rintro e w2 ⟨b1, rfl, kb, bb2⟩
  have hb2 : Below w.heap.size w w2 := hb1.trans (bb2.mono hb1.size)
  have HK : Hid (b1 = true ↔ RespP m fs b) := kb
  clear hv1 hsz hb bb2 hb1 kb
  go_wp2_with fail
  go_ret
  exact ⟨b1, rfl, HK.out, hb2⟩

end Go.Proofs.Ythlmnmbhgkmbfaa

namespace Go.Proofs.Ythlmnmbhgkmbfaa
open Go.RowKit
open Go.Lib hiding intOf

/-- A variable's block may have been made, in this form; and a list of fields of one's own, which lies elsewhere. -/
structure MkSt (W1 : World) (ob : Obj) (a : Option Nat) (z : Option Value) (P : List (ByteArray × ByteArray)) (W : World) : Prop where
  low : Below W1.heap.size W1 W
  blk : ∀ o, a = some o → W.heap[o]? = some ob ∧ W1.heap.size ≤ o
  own : ∀ v, z = some v → W.ownsRow W1.heap.size 68 2 v P.length (flatF P)
  ne : ∀ o v j, a = some o → z = some v → v.ownBlock = some j → j ≠ o
theorem MkSt.below {W1 : World} {ob : Obj} {a : Option Nat} {z : Option Value} {P : List (ByteArray × ByteArray)} {W W' : World} (h : MkSt W1 ob a z P W) (hb : Below W.heap.size W W') : MkSt W1 ob a z P W' :=
  ⟨h.low.trans (hb.mono h.low.size), fun o ho => ⟨by rw [hb.block o (Array.getElem?_eq_some_iff.1 (h.blk o ho).1).1]; exact (h.blk o ho).1, (h.blk o ho).2⟩, fun v hv => owns_below (h.own v hv) hb (fun g hg => owns_lt (h.own v hv) hg), h.ne⟩
theorem MkSt.make {W1 : World} {ob : Obj} {z : Option Value} {P : List (ByteArray × ByteArray)} {W : World} (h : MkSt W1 ob none z P W) : MkSt W1 ob (some W.heap.size) z P (W.alloc ob) := by
  have h' := h.below ((Below.refl _ _).alloc (Nat.le_refl _) ob)
  exact ⟨h'.low, fun o ho => by cases ho; exact ⟨heap_alloc_new W _, h.low.size⟩, h'.own, fun o v j ho hv hj => by cases ho; have := owns_lt (h.own v hv) hj; omega⟩
theorem MkSt.put {W1 : World} {ob : Obj} {a : Option Nat} {P : List (ByteArray × ByteArray)} {W W' : World} {v : Value} (h : MkSt W1 ob a none P W) (hb : Below W.heap.size W W') (hv : W'.ownsRow W.heap.size 68 2 v P.length (flatF P)) : MkSt W1 ob a (some v) P W' := by
  have h' := h.below hb
  exact ⟨h'.low, h'.blk, fun u hu => by cases hu; exact owns_wide hv h.low.size, fun o u j ho hu hj => by
    cases hu
    have h1 := owns_ge hv hj
    have h2 := (Array.getElem?_eq_some_iff.1 (h.blk o ho).1).1
    omega⟩
theorem copy_walk {fs : List (ByteArray × ByteArray)} {n : Nat} (h : CopyF fs) (hl : fs.length = n) : WalkF n fs := fun i hi => by
  have := h i (by omega)
  unfold maxLen
  omega

theorem putAll_walk (fs gs : List (ByteArray × ByteArray)) (h : WalkF fs.length fs) (h2 : WalkF gs.length gs) : WalkF (putAll fs gs).length (putAll fs gs) := by
  have hm : ∀ k, k ≤ gs.length → WalkF (putAll fs (gs.take k)).length (putAll fs (gs.take k)) := by
    intro k
    induction k with
    | zero => intro _; simpa [putAll] using h
    | succ k ih =>
      intro hk
      rw [take_field gs k (by omega), putAll_snoc]
      exact put_walk _ _ _ (ih (by omega)) (h2 k (by omega)).1 (h2 k (by omega)).2
  have := hm gs.length (Nat.le_refl _)
  rw [List.take_length] at this
  exact this

/-- While it is asked: the argument, the answer's memory, the request that is made. -/
structure AkSt (w : World) (r o : Nat) (m : Int) (p : ByteArray) (v : Value) (b : ByteArray) (z : Value) (W : World) : Prop where
  q0 : W.heap[r]? = some (.cells #[.int .i64 m, .string p, v, .string b] 26)
  q1 : W.heap[r + 1]? = some (.cells #[.int .i64 0, .string ⟨#[]⟩, .slice none 0 0, .string ⟨#[]⟩] 26)
  q2 : W.heap[o]? = some (.cells #[.int .i64 m, .string p, z, .string b] 26)
  ge : r + 1 + 1 ≤ o
  low : Below r w W
theorem AkSt.size {w : World} {r o : Nat} {m : Int} {p : ByteArray} {v : Value} {b : ByteArray} {z : Value} {W : World} (h : AkSt w r o m p v b z W) : o < W.heap.size := (Array.getElem?_eq_some_iff.1 h.q2).1
theorem AkSt.below {w : World} {r o : Nat} {m : Int} {p : ByteArray} {v : Value} {b : ByteArray} {z : Value} {W W' : World} (h : AkSt w r o m p v b z W) (hb : Below W.heap.size W W') : AkSt w r o m p v b z W' := by
  have hs := h.size
  have hg := h.ge
  exact ⟨by rw [hb.block _ (by omega)]; exact h.q0, by rw [hb.block _ (by omega)]; exact h.q1, by rw [hb.block _ (by omega)]; exact h.q2, hg, h.low.trans (hb.mono (by omega))⟩
theorem AkSt.set {w : World} {r o : Nat} {m : Int} {p : ByteArray} {v : Value} {b : ByteArray} {z : Value} {W : World} (h : AkSt w r o m p v b z W) (y : Value) : AkSt w r o m p v b y (W.setCell ⟨o, 2, none⟩ y) := by
  have hg := h.ge
  refine ⟨by rw [heap_setCell_other _ _ r _ (by show r ≠ o; omega)]; exact h.q0, by rw [heap_setCell_other _ _ (r + 1) _ (by show r + 1 ≠ o; omega)]; exact h.q1, ?_, hg, h.low.setCell (by show r ≤ o; omega) _⟩
  have := heap_set W o 2 _ _ _ y h.q2
  simpa using this

set_option maxHeartbeats 4000000 in
set_option maxRecDepth 100000 in
theorem implMerge_any (st : Int) (v : Value) (b : ByteArray) (n base : Nat) (fs : List (ByteArray × ByteArray)) (st2 : Int) (u : Value) (c : ByteArray) (k base2 : Nat) (gs : List (ByteArray × ByteArray)) (w : World) (hv : FieldsV w base v n fs) (hb : b.size ≤ 281474976710656) (hu : FieldsV w base2 u k gs) (hnk : n + k ≤ 1999999) (hcp : CopyF fs) (hcg : CopyF gs) :
    Calls Try.prog 37 #[.agg #[.int .i64 st, v, .string b], .agg #[.int .i64 st2, u, .string c]] w fun e w' => RespRow st (mergeF st fs b gs) b w e w' := by
  have hl := hv.len
  have hl2 := hu.len
  obtain ⟨oa, cap, rfl, _⟩ := hv.slice
  obtain ⟨ob, cb, rfl, _⟩ := hu.slice
  obtain ⟨r, hr⟩ : ∃ r, r = w.heap.size := ⟨_, rfl⟩
  have HR : Hid (w.heap.size = r) := hr.symm
  obtain ⟨W1, hW1⟩ : ∃ W, W = ((w.alloc (.cells #[.int .i64 st, .slice oa n cap, .string b] 32)).alloc (.cells #[.int .i64 st2, .slice ob k cb, .string c] 32)).alloc (.cells #[.int .i64 0, .slice none 0 0, .string ⟨#[]⟩] 32) := ⟨_, rfl⟩
  have HW1 : Hid (((w.alloc (.cells #[.int .i64 st, .slice oa n cap, .string b] 32)).alloc (.cells #[.int .i64 st2, .slice ob k cb, .string c] 32)).alloc (.cells #[.int .i64 0, .slice none 0 0, .string ⟨#[]⟩] 32) = W1) := hW1.symm
  have HV : Hid (∀ W, Below r w W → FieldsV W base (.slice oa n cap) n fs) := fun W h => hv.below (by rw [hr] at h; exact h)
  have HU : Hid (∀ W, Below r w W → FieldsV W base2 (.slice ob k cb) k gs) := fun W h => hu.below (by rw [hr] at h; exact h)
  have s3 : W1.heap.size = r + 1 + 1 + 1 := by rw [hW1, hr]; simp
  have HK1 : Hid (∀ W, Below W1.heap.size W1 W → W.heap[r]? = some (.cells #[.int .i64 st, .slice oa n cap, .string b] 32) ∧ W.heap[r + 1]? = some (.cells #[.int .i64 st2, .slice ob k cb, .string c] 32) ∧ W.heap[r + 1 + 1]? = some (.cells #[.int .i64 0, .slice none 0 0, .string ⟨#[]⟩] 32) ∧ Below r w W) := by
    intro W hW
    have b1 : Below r w W1 := by rw [hW1, hr]; exact (((Below.refl _ w).alloc (Nat.le_refl _) _).alloc (by simp) _).alloc (by simp; omega) _
    have s1 : (w.alloc (.cells #[.int .i64 st, .slice oa n cap, .string b] 32)).heap.size = r + 1 := by rw [hr]; simp
    have s2 : ((w.alloc (.cells #[.int .i64 st, .slice oa n cap, .string b] 32)).alloc (.cells #[.int .i64 st2, .slice ob k cb, .string c] 32)).heap.size = r + 1 + 1 := by rw [hr]; simp
    have e0 := heap_alloc_new w (.cells #[.int .i64 st, .slice oa n cap, .string b] 32)
    have e1 := heap_alloc_new (w.alloc (.cells #[.int .i64 st, .slice oa n cap, .string b] 32)) (.cells #[.int .i64 st2, .slice ob k cb, .string c] 32)
    have e2 := heap_alloc_new ((w.alloc (.cells #[.int .i64 st, .slice oa n cap, .string b] 32)).alloc (.cells #[.int .i64 st2, .slice ob k cb, .string c] 32)) (.cells #[.int .i64 0, .slice none 0 0, .string ⟨#[]⟩] 32)
    rw [← hr] at e0
    rw [s1] at e1
    rw [s2, ← hW1] at e2
    have c1 : Below (r + 1) (w.alloc (.cells #[.int .i64 st, .slice oa n cap, .string b] 32)) W1 := by rw [hW1, ← s1]; exact ((Below.refl _ _).alloc (Nat.le_refl _) _).alloc (by simp) _
    have c2 : Below (r + 1 + 1) ((w.alloc (.cells #[.int .i64 st, .slice oa n cap, .string b] 32)).alloc (.cells #[.int .i64 st2, .slice ob k cb, .string c] 32)) W1 := by rw [hW1, ← s2]; exact (Below.refl _ _).alloc (Nat.le_refl _) _
    rw [s3] at hW
    exact ⟨by rw [hW.block r (by omega), c1.block r (by omega)]; exact e0, by rw [hW.block (r + 1) (by omega), c2.block (r + 1) (by omega)]; exact e1, by rw [hW.block (r + 1 + 1) (by omega)]; exact e2, b1.trans (hW.mono (by omega))⟩
  have HS3 : Hid (W1.heap.size = r + 1 + 1 + 1) := s3
  have HSS : Hid (∀ W, Below W1.heap.size W1 W → (W.cell? ⟨r, 0, none⟩ = some (.int .i64 st) ∧ W.cell? ⟨r, 1, none⟩ = some (.slice oa n cap) ∧ W.cell? ⟨r, 2, none⟩ = some (.string b)) ∧ W.cell? ⟨r + 1, 0, none⟩ = some (.int .i64 st2) ∧ W.cell? ⟨r + 1, 1, none⟩ = some (.slice ob k cb) ∧ W.cell? ⟨r + 1, 2, none⟩ = some (.string c)) := fun W h => ⟨(three_facts (HK1.out W h).1).1, (three_facts (HK1.out W h).2.1).1⟩
  have HCF : Hid (CopyF fs) := hcp
  have HCG : Hid (CopyF gs) := hcg
  have HBM : Hid (b.size ≤ 281474976710656) := hb
  obtain ⟨P, hP⟩ : ∃ x, x = putAll fs gs := ⟨_, rfl⟩
  have HPE : Hid (putAll fs gs = P) := hP.symm
  have HPL : Hid (P.length ≤ 1999999) := by show _ ≤ _; rw [hP]; have := putAll_le fs gs; omega
  have HPW : Hid (WalkF P.length P) := by
    show WalkF _ _
    rw [hP]
    exact putAll_walk fs gs (by rw [hl]; exact copy_walk hcp hl) (by rw [hl2]; exact copy_walk hcg hl2)
  have HYES : Hid (RespP st P b → mergeF st fs b gs = P) := fun h => by
    unfold mergeF
    rw [HPE.out]
    exact if_pos h
  have HNO : Hid (¬ RespP st P b → mergeF st fs b gs = fs) := fun h => by
    unfold mergeF
    rw [HPE.out]
    exact if_neg h
  clear hW1 hv hu hcp hcg hb hP s3 hl hl2
  go_enter Try.func37, Try.ntmps37
  go_upto_region 1 with fail
  rw [HW1.out, ← hr]
  clear hr HW1
  go_cut [5] (fun s5 wx => ∃ (o : Nat) (oz : Option Addr) (cz : Nat), s5 = .pointer (some ⟨o, 0, none⟩) ∧ Hid (Below W1.heap.size W1 wx ∧ wx.heap[o]? = some (.cells #[.int .i64 st, .slice oz P.length cz, .string b] 32) ∧ W1.heap.size ≤ o ∧ wx.ownsRow W1.heap.size 68 2 (.slice oz P.length cz) P.length (flatF P) ∧ ∀ j, (Value.slice oz P.length cz).ownBlock = some j → j ≠ o))
  case first =>
    refine wp_region_held_drew (S := fun W => (W.cell? ⟨r, 0, none⟩ = some (.int .i64 st) ∧ W.cell? ⟨r, 1, none⟩ = some (.slice oa n cap) ∧ W.cell? ⟨r, 2, none⟩ = some (.string b)) ∧ W.cell? ⟨r + 1, 0, none⟩ = some (.int .i64 st2) ∧ W.cell? ⟨r + 1, 1, none⟩ = some (.slice ob k cb) ∧ W.cell? ⟨r + 1, 2, none⟩ = some (.string c)) (by kernel_rfl) (HSS.out _ (Below.refl _ _).drew) (fun hS0 => ?_)
    have HST : Hid (MkSt W1 (.cells #[.int .i64 0, .slice none 0 0, .string ⟨#[]⟩] 32) none none P W1.drew) := ⟨(Below.refl _ _).drew, (fun o ho => by cases ho), (fun v hv => by cases hv), (fun o v j ho => by cases ho)⟩
    obtain ⟨X0, hX0⟩ : ∃ X, X = W1.drew := ⟨_, rfl⟩
    rw [← hX0] at hS0 HST ⊢
    clear hX0
    refine wpAnyH_takeD (i := 0) (v := .pointer (some ⟨r, 0, none⟩)) (some 6) rfl rfl (by kernel_rfl) (by kernel_rfl) (by kernel_rfl) (fun _ _ _ h => h) (Or.inl ⟨by rfl, by intro W _; go_simp⟩) hS0 ?_
    simp only [Act.put, List.setIfInBounds_toArray, List.set_cons_zero, List.set_cons_succ]
    refine wpAnyH_takeD (i := 1) (v := .int .i64 st) (some 7) rfl rfl (by kernel_rfl) (by kernel_rfl) (by kernel_rfl) (fun _ _ _ h => h) (Or.inl ⟨by rfl, by intro W hW; obtain ⟨⟨s0, s1, s2⟩, t0, t1, t2⟩ := hW; go_simp⟩) hS0 ?_
    simp only [Act.put, List.setIfInBounds_toArray, List.set_cons_zero, List.set_cons_succ]
    refine wpAnyH_takeD (i := 2) (v := .pointer (some ⟨r, 1, none⟩)) (some 8) rfl rfl (by kernel_rfl) (by kernel_rfl) (by kernel_rfl) (fun _ _ _ h => h) (Or.inl ⟨by rfl, by intro W _; go_simp⟩) hS0 ?_
    simp only [Act.put, List.setIfInBounds_toArray, List.set_cons_zero, List.set_cons_succ]
    refine wpAnyH_takeD (i := 3) (v := .slice oa n cap) (some 9) rfl rfl (by kernel_rfl) (by kernel_rfl) (by kernel_rfl) (fun _ _ _ h => h) (Or.inl ⟨by rfl, by intro W hW; obtain ⟨⟨s0, s1, s2⟩, t0, t1, t2⟩ := hW; go_simp⟩) hS0 ?_
    simp only [Act.put, List.setIfInBounds_toArray, List.set_cons_zero, List.set_cons_succ]
    refine wpAnyH_takeD (i := 4) (v := .pointer (some ⟨r + 1, 1, none⟩)) (some 10) rfl rfl (by kernel_rfl) (by kernel_rfl) (by kernel_rfl) (fun _ _ _ h => h) (Or.inl ⟨by rfl, by intro W _; go_simp⟩) hS0 ?_
    simp only [Act.put, List.setIfInBounds_toArray, List.set_cons_zero, List.set_cons_succ]
    refine wpAnyH_takeD (i := 5) (v := .slice ob k cb) (some 11) rfl rfl (by kernel_rfl) (by kernel_rfl) (by kernel_rfl) (fun _ _ _ h => h) (Or.inl ⟨by rfl, by intro W hW; obtain ⟨⟨s0, s1, s2⟩, t0, t1, t2⟩ := hW; go_simp⟩) hS0 ?_
    simp only [Act.put, List.setIfInBounds_toArray, List.set_cons_zero, List.set_cons_succ]
    refine wpAnyH_takeD (i := 7) (v := .pointer (some ⟨r, 2, none⟩)) (some 13) rfl rfl (by kernel_rfl) (by kernel_rfl) (by kernel_rfl) (fun _ _ _ h => h) (Or.inl ⟨by rfl, by intro W _; go_simp⟩) hS0 ?_
    simp only [Act.put, List.setIfInBounds_toArray, List.set_cons_zero, List.set_cons_succ]
    refine wpAnyH_takeD (i := 8) (v := .string b) (some 14) rfl rfl (by kernel_rfl) (by kernel_rfl) (by kernel_rfl) (fun _ _ _ h => h) (Or.inl ⟨by rfl, by intro W hW; obtain ⟨⟨s0, s1, s2⟩, t0, t1, t2⟩ := hW; go_simp⟩) hS0 ?_
    simp only [Act.put, List.setIfInBounds_toArray, List.set_cons_zero, List.set_cons_succ]
    refine wpAnyH_ready (rs := [6, 11]) (by kernel_rfl) (by simp) ?_
    refine AllReadyH.cons rfl (fun K hK => ?_) (AllReadyH.cons rfl (fun K hK => ?_) AllReadyH.nil)
    · go_simp
      refine (putTogether_any _ n base fs _ k base2 gs _ (HV.out _ (HK1.out _ HST.out.low).2.2.2) (HU.out _ (HK1.out _ HST.out.low).2.2.2) hnk HCF.out HCG.out).mono ?_
      rintro e X1 ⟨zv, rfl, ownz, bx⟩
      obtain ⟨oz, cz, rfl⟩ := slice_of_owns ownz
      rw [HPE.out] at ownz
      have HSN : Hid (MkSt W1 (.cells #[.int .i64 0, .slice none 0 0, .string ⟨#[]⟩] 32) none (some (.slice oz _ cz)) P X1) := HST.out.put bx ownz
      rw [HPE.out]
      clear ownz
      refine hK.out _ _ (HSS.out _ HSN.out.low) (fun _ => ?_)
      clear hK K HST bx
      have HST := HSN
      clear HSN
      refine wpAnyH_ready (rs := [9, 11]) (by kernel_rfl) (by simp) ?_
      refine AllReadyH.cons rfl (fun K hK => ?_) (AllReadyH.cons rfl (fun K hK => ?_) AllReadyH.nil)
      · go_simp
        refine (clone_any b _ HBM.out).mono ?_
        rintro e X2 ⟨rfl, bx⟩
        have HSN : Hid (MkSt W1 (.cells #[.int .i64 0, .slice none 0 0, .string ⟨#[]⟩] 32) none (some (.slice oz P.length cz)) P X2) := HST.out.below bx
        refine hK.out _ _ (HSS.out _ HSN.out.low) (fun _ => ?_)
        clear hK K HST bx
        have HST := HSN
        clear HSN
        refine wpAnyH_takeD (i := 10) (v := .agg #[.int .i64 st, .slice oz P.length cz, .string b]) (some 16) rfl rfl (by kernel_rfl) (by kernel_rfl) (by kernel_rfl) (fun _ _ _ h => h) (Or.inl ⟨by rfl, by intro W _; go_simp⟩) (HSS.out _ HST.out.low) ?_
        simp only [Act.put, List.setIfInBounds_toArray, List.set_cons_zero, List.set_cons_succ]
        refine wpAnyH_ready (rs := [11]) (by kernel_rfl) (by simp) ?_
        refine AllReadyH.cons rfl (fun K hK => ?_) AllReadyH.nil
        have HSN : Hid (MkSt W1 (.cells #[.int .i64 0, .slice none 0 0, .string ⟨#[]⟩] 32) (some X2.heap.size) (some (.slice oz P.length cz)) P (X2.alloc (.cells #[.int .i64 0, .slice none 0 0, .string ⟨#[]⟩] 32))) := HST.out.make
        go_simp
        refine hK.out _ _ (HSS.out _ HSN.out.low) (fun _ => ?_)
        clear hK K HST
        obtain ⟨pa, ho⟩ : ∃ o, o = X2.heap.size := ⟨_, rfl⟩
        obtain ⟨X3, hX⟩ : ∃ X, X = X2.alloc (.cells #[.int .i64 0, .slice none 0 0, .string ⟨#[]⟩] 32) := ⟨_, rfl⟩
        rw [← ho] at HSN ⊢
        rw [← hX] at HSN ⊢
        clear ho hX
        have HST := HSN
        clear HSN
        obtain ⟨Y, hY⟩ : ∃ Y, Y = threeSet X3 pa (.int .i64 st) (.slice oz P.length cz) (.string b) := ⟨_, rfl⟩
        have HY : Hid (threeSet X3 pa (.int .i64 st) (.slice oz P.length cz) (.string b) = Y) := hY.symm
        have HF : Hid (Below W1.heap.size W1 Y ∧ Y.heap[pa]? = some (.cells #[.int .i64 st, .slice oz P.length cz, .string b] 32) ∧ W1.heap.size ≤ pa ∧ Y.ownsRow W1.heap.size 68 2 (.slice oz P.length cz) P.length (flatF P) ∧ ∀ j, (Value.slice oz P.length cz).ownBlock = some j → j ≠ pa) := by
          show _ ∧ _ ∧ _ ∧ _ ∧ _
          rw [hY]
          exact ⟨below_three HST.out.low (HST.out.blk pa rfl).2, three_set (HST.out.blk pa rfl).1 _ _ _, (HST.out.blk pa rfl).2, owns_same (HST.out.own _ rfl) (fun j hj => three_other _ _ j _ _ _ (HST.out.ne pa _ j rfl rfl hj)), fun j hj => HST.out.ne pa _ j rfl rfl hj⟩
        obtain ⟨⟨e0, e1, e2⟩, g0, g1, g2⟩ := three_facts (HST.out.blk pa rfl).1
        have hs9 := HSS.out _ HF.out.1
        unfold threeSet at HY
        clear hY HST
        refine wpAnyH_ready (rs := [12]) (by kernel_rfl) (by simp) ?_
        refine AllReadyH.cons rfl (fun K hK => ?_) AllReadyH.nil
        go_simp
        rw [HY.out]
        refine hK.out _ _ hs9 (fun _ => ?_)
        clear hK K HY e0 e1 e2 g0 g1 g2 hs9
        refine wpAnyH_done (by kernel_rfl) ?_ _
        go_wp2_with fail
        go_meet
        exact ⟨pa, oz, cz, rfl, HF⟩
      · have HSN : Hid (MkSt W1 (.cells #[.int .i64 0, .slice none 0 0, .string ⟨#[]⟩] 32) (some X1.heap.size) (some (.slice oz P.length cz)) P (X1.alloc (.cells #[.int .i64 0, .slice none 0 0, .string ⟨#[]⟩] 32))) := HST.out.make
        go_simp
        refine hK.out _ _ (HSS.out _ HSN.out.low) (fun _ => ?_)
        clear hK K HST
        obtain ⟨pa, ho⟩ : ∃ o, o = X1.heap.size := ⟨_, rfl⟩
        obtain ⟨X2, hX⟩ : ∃ X, X = X1.alloc (.cells #[.int .i64 0, .slice none 0 0, .string ⟨#[]⟩] 32) := ⟨_, rfl⟩
        rw [← ho] at HSN ⊢
        rw [← hX] at HSN ⊢
        clear ho hX
        have HST := HSN
        clear HSN
        refine wpAnyH_ready (rs := [9]) (by kernel_rfl) (by simp) ?_
        refine AllReadyH.cons rfl (fun K hK => ?_) AllReadyH.nil
        go_simp
        refine (clone_any b _ HBM.out).mono ?_
        rintro e X3 ⟨rfl, bx⟩
        have HSN : Hid (MkSt W1 (.cells #[.int .i64 0, .slice none 0 0, .string ⟨#[]⟩] 32) (some pa) (some (.slice oz P.length cz)) P X3) := HST.out.below bx
        refine hK.out _ _ (HSS.out _ HSN.out.low) (fun _ => ?_)
        clear hK K HST bx
        have HST := HSN
        clear HSN
        refine wpAnyH_takeD (i := 10) (v := .agg #[.int .i64 st, .slice oz P.length cz, .string b]) (some 16) rfl rfl (by kernel_rfl) (by kernel_rfl) (by kernel_rfl) (fun _ _ _ h => h) (Or.inl ⟨by rfl, by intro W _; go_simp⟩) (HSS.out _ HST.out.low) ?_
        simp only [Act.put, List.setIfInBounds_toArray, List.set_cons_zero, List.set_cons_succ]
        obtain ⟨Y, hY⟩ : ∃ Y, Y = threeSet X3 pa (.int .i64 st) (.slice oz P.length cz) (.string b) := ⟨_, rfl⟩
        have HY : Hid (threeSet X3 pa (.int .i64 st) (.slice oz P.length cz) (.string b) = Y) := hY.symm
        have HF : Hid (Below W1.heap.size W1 Y ∧ Y.heap[pa]? = some (.cells #[.int .i64 st, .slice oz P.length cz, .string b] 32) ∧ W1.heap.size ≤ pa ∧ Y.ownsRow W1.heap.size 68 2 (.slice oz P.length cz) P.length (flatF P) ∧ ∀ j, (Value.slice oz P.length cz).ownBlock = some j → j ≠ pa) := by
          show _ ∧ _ ∧ _ ∧ _ ∧ _
          rw [hY]
          exact ⟨below_three HST.out.low (HST.out.blk pa rfl).2, three_set (HST.out.blk pa rfl).1 _ _ _, (HST.out.blk pa rfl).2, owns_same (HST.out.own _ rfl) (fun j hj => three_other _ _ j _ _ _ (HST.out.ne pa _ j rfl rfl hj)), fun j hj => HST.out.ne pa _ j rfl rfl hj⟩
        obtain ⟨⟨e0, e1, e2⟩, g0, g1, g2⟩ := three_facts (HST.out.blk pa rfl).1
        have hs9 := HSS.out _ HF.out.1
        unfold threeSet at HY
        clear hY HST
        refine wpAnyH_ready (rs := [12]) (by kernel_rfl) (by simp) ?_
        refine AllReadyH.cons rfl (fun K hK => ?_) AllReadyH.nil
        go_simp
        rw [HY.out]
        refine hK.out _ _ hs9 (fun _ => ?_)
        clear hK K HY e0 e1 e2 g0 g1 g2 hs9
        refine wpAnyH_done (by kernel_rfl) ?_ _
        go_wp2_with fail
        go_meet
        exact ⟨pa, oz, cz, rfl, HF⟩
    · have HSN : Hid (MkSt W1 (.cells #[.int .i64 0, .slice none 0 0, .string ⟨#[]⟩] 32) (some X0.heap.size) none P (X0.alloc (.cells #[.int .i64 0, .slice none 0 0, .string ⟨#[]⟩] 32))) := HST.out.make
      go_simp
      refine hK.out _ _ (HSS.out _ HSN.out.low) (fun _ => ?_)
      clear hK K HST
      obtain ⟨pa, ho⟩ : ∃ o, o = X0.heap.size := ⟨_, rfl⟩
      obtain ⟨X1, hX⟩ : ∃ X, X = X0.alloc (.cells #[.int .i64 0, .slice none 0 0, .string ⟨#[]⟩] 32) := ⟨_, rfl⟩
      rw [← ho] at HSN ⊢
      rw [← hX] at HSN ⊢
      clear ho hX
      have HST := HSN
      clear HSN
      refine wpAnyH_ready (rs := [6]) (by kernel_rfl) (by simp) ?_
      refine AllReadyH.cons rfl (fun K hK => ?_) AllReadyH.nil
      go_simp
      refine (putTogether_any _ n base fs _ k base2 gs _ (HV.out _ (HK1.out _ HST.out.low).2.2.2) (HU.out _ (HK1.out _ HST.out.low).2.2.2) hnk HCF.out HCG.out).mono ?_
      rintro e X2 ⟨zv, rfl, ownz, bx⟩
      obtain ⟨oz, cz, rfl⟩ := slice_of_owns ownz
      rw [HPE.out] at ownz
      have HSN : Hid (MkSt W1 (.cells #[.int .i64 0, .slice none 0 0, .string ⟨#[]⟩] 32) (some pa) (some (.slice oz _ cz)) P X2) := HST.out.put bx ownz
      rw [HPE.out]
      clear ownz
      refine hK.out _ _ (HSS.out _ HSN.out.low) (fun _ => ?_)
      clear hK K HST bx
      have HST := HSN
      clear HSN
      refine wpAnyH_ready (rs := [9]) (by kernel_rfl) (by simp) ?_
      refine AllReadyH.cons rfl (fun K hK => ?_) AllReadyH.nil
      go_simp
      refine (clone_any b _ HBM.out).mono ?_
      rintro e X3 ⟨rfl, bx⟩
      have HSN : Hid (MkSt W1 (.cells #[.int .i64 0, .slice none 0 0, .string ⟨#[]⟩] 32) (some pa) (some (.slice oz P.length cz)) P X3) := HST.out.below bx
      refine hK.out _ _ (HSS.out _ HSN.out.low) (fun _ => ?_)
      clear hK K HST bx
      have HST := HSN
      clear HSN
      refine wpAnyH_takeD (i := 10) (v := .agg #[.int .i64 st, .slice oz P.length cz, .string b]) (some 16) rfl rfl (by kernel_rfl) (by kernel_rfl) (by kernel_rfl) (fun _ _ _ h => h) (Or.inl ⟨by rfl, by intro W _; go_simp⟩) (HSS.out _ HST.out.low) ?_
      simp only [Act.put, List.setIfInBounds_toArray, List.set_cons_zero, List.set_cons_succ]
      obtain ⟨Y, hY⟩ : ∃ Y, Y = threeSet X3 pa (.int .i64 st) (.slice oz P.length cz) (.string b) := ⟨_, rfl⟩
      have HY : Hid (threeSet X3 pa (.int .i64 st) (.slice oz P.length cz) (.string b) = Y) := hY.symm
      have HF : Hid (Below W1.heap.size W1 Y ∧ Y.heap[pa]? = some (.cells #[.int .i64 st, .slice oz P.length cz, .string b] 32) ∧ W1.heap.size ≤ pa ∧ Y.ownsRow W1.heap.size 68 2 (.slice oz P.length cz) P.length (flatF P) ∧ ∀ j, (Value.slice oz P.length cz).ownBlock = some j → j ≠ pa) := by
        show _ ∧ _ ∧ _ ∧ _ ∧ _
        rw [hY]
        exact ⟨below_three HST.out.low (HST.out.blk pa rfl).2, three_set (HST.out.blk pa rfl).1 _ _ _, (HST.out.blk pa rfl).2, owns_same (HST.out.own _ rfl) (fun j hj => three_other _ _ j _ _ _ (HST.out.ne pa _ j rfl rfl hj)), fun j hj => HST.out.ne pa _ j rfl rfl hj⟩
      obtain ⟨⟨e0, e1, e2⟩, g0, g1, g2⟩ := three_facts (HST.out.blk pa rfl).1
      have hs9 := HSS.out _ HF.out.1
      unfold threeSet at HY
      clear hY HST
      refine wpAnyH_ready (rs := [12]) (by kernel_rfl) (by simp) ?_
      refine AllReadyH.cons rfl (fun K hK => ?_) AllReadyH.nil
      go_simp
      rw [HY.out]
      refine hK.out _ _ hs9 (fun _ => ?_)
      clear hK K HY e0 e1 e2 g0 g1 g2 hs9
      refine wpAnyH_done (by kernel_rfl) ?_ _
      go_wp2_with fail
      go_meet
      exact ⟨pa, oz, cz, rfl, HF⟩
  case rest =>
  obtain ⟨o, oz, cz, hs5, HF⟩ := hcut
  rw [hs5]
  obtain ⟨w2, hw2⟩ : ∃ W, W = wc := ⟨_, rfl⟩
  rw [← hw2] at HF ⊢
  clear hs5 hw2
  have HST : Hid (MgSt w r o st (.slice oa n cap) b st2 (.slice ob k cb) c (.slice oz P.length cz) P w2) := by
    obtain ⟨a0, a1, a2, a3⟩ := HK1.out _ HF.out.1
    obtain ⟨_, f1, f2, f3, f4⟩ := HF.out
    have h3 := HS3.out
    rw [h3] at f2 f3
    exact ⟨a0, a1, a2, f1, f3, f4, f2, a3⟩
  clear HF HSS HK1 HS3
  obtain ⟨ln, hln⟩ : ∃ x, x = P.length := ⟨_, rfl⟩
  have HVQ : Hid (FieldsV w2 (r + 1 + 1 + 1) (.slice oz ln cz) ln P) := by
    have h := FieldsV.of_owns HST.out.own
    rw [← hln] at h
    exact h
  rw [← hln] at HPL HPW HST
  clear hln
  obtain ⟨⟨d0, d1, d2⟩, _⟩ := three_facts HST.out.q3
  go_wp2_with fail
  refine (implRespOk_any st _ b ln _ P _ HVQ.out (by have := HPL.out; omega) HPW.out (by have := HBM.out; unfold maxLen; omega)).mono ?_
  rintro e w3 ⟨ok, rfl, hok, b3⟩
  have HST3 : Hid (MgSt w r o st (.slice oa n cap) b st2 (.slice ob k cb) c (.slice oz ln cz) P w3) := HST.out.below b3
  clear d0 d1 d2 HST HVQ b3
  cases ok with
  | true =>
    have HFE : Hid (mergeF st fs b gs = P) := HYES.out (hok.1 rfl)
    clear hok HYES HNO
    obtain ⟨⟨e0, e1, e2⟩, g0, g1, g2⟩ := three_facts HST3.out.q2
    obtain ⟨⟨d0, d1, d2⟩, _⟩ := three_facts HST3.out.q3
    have hset := three_set HST3.out.q2 (.int .i64 st) (.slice oz ln cz) (.string b)
    obtain ⟨⟨k0, k1, k2⟩, _⟩ := three_facts hset
    have HFB : Hid (Below r w (threeSet (w3) (r + 1 + 1) (.int .i64 st) (.slice oz ln cz) (.string b))) := below_three HST3.out.low (by omega)
    have HFO : Hid ((threeSet (w3) (r + 1 + 1) (.int .i64 st) (.slice oz ln cz) (.string b)).ownsRow r 68 2 (.slice oz ln cz) (mergeF st fs b gs).length (flatF (mergeF st fs b gs))) := by
      show World.ownsRow _ _ _ _ _ _ _
      rw [HFE.out]
      refine owns_same (owns_wide HST3.out.own (by omega)) (fun j hj => ?_)
      have hj2 := owns_ge HST3.out.own hj
      exact three_other _ _ j _ _ _ (by omega)
    unfold threeSet at k0 k1 k2 HFB HFO
    clear hset HST3
    go_wp2_with fail
    refine bodyPost_ret (v := .agg #[.int .i64 st, .slice oz ln cz, .string b]) (by simp [results, Try.results37, go_sem, k0, k1, k2]) rfl ?_
    exact ⟨_, rfl, by rw [HR.out]; exact HFO.out, by rw [HR.out]; exact HFB.out⟩
  | false =>
    have HFE : Hid (mergeF st fs b gs = fs) := HNO.out (fun h => nomatch hok.2 h)
    clear hok HYES HNO
    have hva := HV.out _ HST3.out.low
    obtain ⟨⟨_, q1, _⟩, _⟩ := three_facts HST3.out.q0
    have HNIL : Hid (FieldsV w3 0 (.slice none 0 0) 0 []) := .inl ⟨none, 0, rfl, fun _ => rfl, rfl, rfl⟩
    have HCN : Hid (CopyF []) := fun i hi => by cases hi
    go_wp2_with fail
    refine (putTogether_any _ n base fs _ 0 0 [] _ hva HNIL.out (by omega) HCF.out HCN.out).mono ?_
    rintro e w4 ⟨zv, rfl, ownz, b4⟩
    have HPN : Hid (putAll fs [] = fs) := rfl
    rw [HPN.out] at ownz
    obtain ⟨o4, c4, rfl⟩ := slice_of_owns ownz
    obtain ⟨⟨_, f1, _⟩, _, y1, _⟩ := three_facts (HST3.out.below b4).q3
    have HST5 : Hid (MgSt w r o st (.slice oa n cap) b st2 (.slice ob k cb) c (.slice o4 fs.length c4) fs (w4.setCell ⟨o, 1, none⟩ (.slice o4 fs.length c4))) := HST3.out.set b4 ownz
    clear HST3 b4 ownz hva q1 HNIL HCN
    go_upto_region 4 with fail
    obtain ⟨w5, hw5⟩ : ∃ W, W = w4.setCell ⟨o, 1, none⟩ (.slice o4 fs.length c4) := ⟨_, rfl⟩
    rw [← hw5] at HST5 ⊢
    clear hw5 f1 y1
    obtain ⟨lf, hlf⟩ : ∃ x, x = fs.length := ⟨_, rfl⟩
    rw [← hlf] at HST5 ⊢
    clear hlf
    obtain ⟨⟨e0, e1, e2⟩, g0, g1, g2⟩ := three_facts HST5.out.q2
    obtain ⟨⟨d0, d1, d2⟩, _⟩ := three_facts HST5.out.q3
    have hset := three_set HST5.out.q2 (.int .i64 st) (.slice o4 lf c4) (.string b)
    obtain ⟨⟨k0, k1, k2⟩, _⟩ := three_facts hset
    have HFB : Hid (Below r w (threeSet (w5) (r + 1 + 1) (.int .i64 st) (.slice o4 lf c4) (.string b))) := below_three HST5.out.low (by omega)
    have HFO : Hid ((threeSet (w5) (r + 1 + 1) (.int .i64 st) (.slice o4 lf c4) (.string b)).ownsRow r 68 2 (.slice o4 lf c4) (mergeF st fs b gs).length (flatF (mergeF st fs b gs))) := by
      show World.ownsRow _ _ _ _ _ _ _
      rw [HFE.out]
      refine owns_same (owns_wide HST5.out.own (by omega)) (fun j hj => ?_)
      have hj2 := owns_ge HST5.out.own hj
      exact three_other _ _ j _ _ _ (by omega)
    unfold threeSet at k0 k1 k2 HFB HFO
    clear hset HST5
    go_wp2_with fail
    refine bodyPost_ret (v := .agg #[.int .i64 st, .slice o4 lf c4, .string b]) (by simp [results, Try.results37, go_sem, k0, k1, k2]) rfl ?_
    exact ⟨_, rfl, by rw [HR.out]; exact HFO.out, by rw [HR.out]; exact HFB.out⟩


end Go.Proofs.Ythlmnmbhgkmbfaa

namespace Go.Proofs.Ythlmnmbhgkmbfaa
open Go.RowKit
open Go.Lib hiding intOf

/-- The measure is negative, or it says exactly how much room is left of L. -/
def SzEx (L : Int) (n : Nat) (fs : List (ByteArray × ByteArray)) (w : World) (e : Ending) (w' : World) : Prop :=
  ∃ r : Int, e = .returned (.int .i64 r) ∧ r ≤ L ∧ (0 ≤ r → r + (n : Int) + (szTo fs n : Int) = L ∧ n ≤ 1048576 ∧ szTo fs n ≤ 1048576) ∧ Below w.heap.size w w'

set_option maxHeartbeats 1000000 in
theorem szFieldS_exact (L : Int) (hL0 : 0 ≤ L) (hL1 : L ≤ 1048576) (B : Nat) (a : Option Addr) (n cap : Nat) (fs : List (ByteArray × ByteArray)) (w : World) (harg : ArgF w B a n fs) (hB : B ≤ w.heap.size) (hn : n ≤ maxLen) (hsz : ∀ i, i < n → (nameAt fs i).size ≤ maxLen ∧ (valAt fs i).size ≤ maxLen) :
    Calls Try.prog 30 #[.slice a n cap, .int .i64 L] w fun e w' => SzEx L n fs w e w' := by
  unfold maxLen at hn
  have HS : Hid (∀ i, i < n → (nameAt fs i).size ≤ maxLen ∧ (valAt fs i).size ≤ maxLen) := hsz
  clear hsz
  by_cases c1 : L - (n : Int) < 0
  · go_enter Try.func30, Try.ntmps30
    go_wp2
    go_ret
    exact ⟨-1, rfl, by omega, fun h => absurd h (by omega), Below.refl _ _⟩
  · go_enter Try.func30, Try.ntmps30
    go_wp2
    go_loopw [1, 5] (fun l i wr => ∃ (k : Nat) (x : Int), k ≤ n ∧ i = .int .i64 (k : Int) ∧ l = .int .i64 x ∧ 0 ≤ x ∧ x ≤ L ∧ Hid (x = L - (n : Int) - (szTo fs k : Int)) ∧ Below w.heap.size w wr) (fun _ i _ => n - (intOf i).toNat)
    case atStart => exact ⟨0, _, Nat.zero_le _, rfl, rfl, by omega, by omega, by show _ = _; simp [szTo], Below.refl _ _⟩
    case round =>
      obtain ⟨k, x, hk, rfl, rfl, hx0, hx1, hx, hbw⟩ := hrel
      by_cases hlt : k < n
      · have hlt2 : (k : Int) < (n : Int) := by omega
        obtain ⟨b, off, rfl, hbB, hc1, hc2⟩ := (harg.below (hbw.mono hB)).get k hlt
        obtain ⟨s1, s2⟩ := HS.out k hlt
        obtain ⟨nm, hnm⟩ : ∃ y, y = nameAt fs k := ⟨_, rfl⟩
        obtain ⟨vl, hvl⟩ : ∃ y, y = valAt fs k := ⟨_, rfl⟩
        have HZ : Hid (szTo fs (k + 1) = szTo fs k + nm.size + vl.size) := by rw [hnm, hvl]; rfl
        rw [← hnm] at hc1 s1
        rw [← hvl] at hc2 s2
        clear hnm hvl
        go_wp2_with fail
        refine (szField_any nm vl x _ hx0 (by omega) s1 s2).mono ?_
        rintro e w1 ⟨rfl, hb1⟩
        have hb2 : Below w.heap.size w w1 := hbw.trans (hb1.mono hbw.size)
        clear hc1 hc2 hb1
        by_cases d1 : x - (nm.size : Int) < 0
        · rw [if_pos d1]
          go_wp2
          go_ret
          exact ⟨-1, rfl, by omega, fun h => absurd h (by omega), hb2⟩
        · rw [if_neg d1]
          by_cases d2 : x - (nm.size : Int) - (vl.size : Int) < 0
          · rw [if_pos d2]
            go_wp2
            go_ret
            exact ⟨-1, rfl, by omega, fun h => absurd h (by omega), hb2⟩
          · rw [if_neg d2]
            obtain ⟨y, hy⟩ : ∃ y, y = x - (nm.size : Int) - (vl.size : Int) := ⟨_, rfl⟩
            rw [← hy] at d2 ⊢
            have HY : Hid (y = L - (n : Int) - (szTo fs (k + 1) : Int)) := by
              show _ = _
              rw [hy, HZ.out, hx.out]; omega
            have hy1 : y ≤ L := by omega
            clear hy d1
            go_wp2
            go_roundw
            case rel => exact ⟨k + 1, y, by omega, by go_num, rfl, by omega, hy1, HY, hb2⟩
            case measure => simp [intOf]; omega
      · have hF : Hid (x + (n : Int) + (szTo fs n : Int) = L ∧ n ≤ 1048576 ∧ szTo fs n ≤ 1048576) := by
          have := hx.out
          obtain rfl : k = n := by omega
          exact ⟨by omega, by omega, by omega⟩
        go_wp2
        go_ret
        exact ⟨x, rfl, hx1, fun _ => hF.out, hbw⟩

end Go.Proofs.Ythlmnmbhgkmbfaa

namespace Go.Proofs.Ythlmnmbhgkmbfaa
open Go.RowKit
open Go.Lib hiding intOf

/-- All blocks that were there but the list's own are as they were. -/
def Far (v : Value) (w w' : World) : Prop := ∀ j, j < w.heap.size → v.ownBlock ≠ some j → w'.heap[j]? = w.heap[j]?

end Go.Proofs.Ythlmnmbhgkmbfaa

namespace Go.Proofs.Ythlmnmbhgkmbfaa
open Go.RowKit
open Go.Lib hiding intOf

/-- The list with its first k fields marked, from k0 on. -/
def mkG (k0 : Nat) (fs : List (ByteArray × ByteArray)) : Nat → List (ByteArray × ByteArray)
  | 0 => fs
  | k + 1 => (mkG k0 fs k).set k (markOf (k0 + 2 * k), markOf (k0 + 2 * k + 1))
theorem mkG_len (k0 : Nat) (fs : List (ByteArray × ByteArray)) : ∀ k, (mkG k0 fs k).length = fs.length
  | 0 => rfl
  | k + 1 => by rw [mkG, List.length_set, mkG_len k0 fs k]
theorem mkG_at (k0 : Nat) (fs : List (ByteArray × ByteArray)) (j : Nat) : ∀ k, k ≤ fs.length → j < k → nameAt (mkG k0 fs k) j = markOf (k0 + 2 * j) ∧ valAt (mkG k0 fs k) j = markOf (k0 + 2 * j + 1) := by
  intro k
  induction k with
  | zero => intro _ h; omega
  | succ k ih =>
    intro hk h
    have hs := nameAt_set (mkG k0 fs k) k j (markOf (k0 + 2 * k), markOf (k0 + 2 * k + 1)) (by rw [mkG_len]; omega)
    rw [mkG, hs.1, hs.2]
    by_cases e : j = k
    · subst e; rw [if_pos rfl, if_pos rfl]; exact ⟨rfl, rfl⟩
    · rw [if_neg e, if_neg e]; exact ih (by omega) (by omega)

set_option maxHeartbeats 2000000 in
theorem markFrom_any (v : Value) (n base : Nat) (fs : List (ByteArray × ByteArray)) (w : World) (h1 : w.ownsRow base 68 2 v n (flatF fs)) (hb : base ≤ w.heap.size) (k0 : Nat) (hk0 : 1 ≤ k0) (hn : k0 + 2 * n ≤ 9999999) :
    Calls Try.prog 34 #[v, .int .i64 (k0 : Int)] w fun e w' => e = .returned (.int .i64 ((k0 : Int) + 2 * (n : Int))) ∧ w'.ownsRow base 68 2 v n (flatF (mkG k0 fs n)) ∧ Below base w w' ∧ Far v w w' := by
  rcases frow_form h1 with ⟨oa, ca, rfl, _, rfl, rfl⟩ | ⟨g, cap, rfl, hp, r1⟩
  · go_enter Try.func34, Try.ntmps34
    go_wp2
    refine wp_loop_rounds 1 ?_
    rw [rounds_succ]
    go_wp2
    go_ret
    exact ⟨ret_int (by simp), h1, Below.refl _ _, fun j _ _ => rfl⟩
  · clear h1
    go_enter Try.func34, Try.ntmps34
    go_wp2
    go_loopw [1, 5] (fun q i wr => ∃ k : Nat, k ≤ n ∧ i = .int .i64 (k : Int) ∧ q = .int .i64 ((k0 : Int) + 2 * (k : Int)) ∧ Below base w wr ∧ FieldRow base wr g n cap (mkG k0 fs k) ∧ Hid (∀ j, j < w.heap.size → j ≠ g → wr.heap[j]? = w.heap[j]?)) (fun _ i _ => n - (intOf i).toNat)
    case atStart => exact ⟨0, Nat.zero_le _, rfl, by simp, Below.refl _ _, r1, fun j _ _ => rfl⟩
    case round =>
      obtain ⟨k, hk, rfl, rfl, hbw, hrow, hfar⟩ := hrel
      by_cases hlt : k < n
      · have hlt2 : (k : Int) < (n : Int) := by omega
        have hszr := hbw.size
        go_wp2_with fail
        refine (markText_int _ (k0 + 2 * k) _ (by omega) (by omega) (by omega)).mono ?_
        rintro e w1 ⟨rfl, hb1⟩
        have hrow1 := hrow.below hb1 hrow.lt
        have hc := hrow1.name k hlt
        have hf := hrow1.frozen (k * 2)
        have hb2 : Below base w w1 := hbw.trans (hb1.mono (Nat.le_trans hb hbw.size))
        have HF1 : Hid (∀ j, j < w.heap.size → j ≠ g → w1.heap[j]? = w.heap[j]?) := fun j hj hne => by rw [hb1.block j (by omega)]; exact hfar.out j hj hne
        clear hb1 hbw
        go_wp2_with fail
        refine (markText_int _ (k0 + 2 * k + 1) _ (by omega) (by omega) (by omega)).mono ?_
        rintro e w2 ⟨rfl, hb3⟩
        have hlt3 : g < (w1.setCell ⟨g, k * 2, none⟩ (.string (markOf (k0 + 2 * k)))).heap.size := by simpa using hrow1.lt
        have hblk := hb3.block g hlt3
        have hc2 : w2.cell? ⟨g, k * 2 + 1, none⟩ = some (.string (valAt (mkG k0 fs k) k)) := by
          rw [World.cell?_of_block (w := w1.setCell ⟨g, k * 2, none⟩ (.string (markOf (k0 + 2 * k)))) hblk, World.cell?_setCell_other (h := fun e => by have := congrArg Addr.off e; simp at this)]
          exact hrow1.val k hlt
        have hf2 : w2.frozen? ⟨g, k * 2 + 1, none⟩ = false := by
          rw [World.frozen?_of_block (w := w1.setCell ⟨g, k * 2, none⟩ (.string (markOf (k0 + 2 * k)))) hblk, World.frozen?_setCell]; exact hrow1.frozen _
        have hb4 : Below base w w2 := (hb2.setCell hrow.base _).trans (hb3.mono (by have := hb2.size; simp; omega))
        have hsz2 : w1.heap.size ≤ w2.heap.size := by have := hb3.size; simpa using this
        have HF2 : Hid (∀ j, j < w.heap.size → j ≠ g → (w2.setCell ⟨g, k * 2 + 1, none⟩ (.string (markOf (k0 + 2 * k + 1)))).heap[j]? = w.heap[j]?) := fun j hj hne => by
          have hs1 : w.heap.size ≤ w1.heap.size := hb2.size
          rw [heap_setCell_other _ _ j _ (fun e => hne e), hb3.block j (by simp; omega), heap_setCell_other _ _ j _ (fun e => hne e)]
          exact HF1.out j hj hne
        clear hb3 hb2
        have HROW : Hid (FieldRow base (w2.setCell ⟨g, k * 2 + 1, none⟩ (.string (markOf (k0 + 2 * k + 1)))) g n cap (mkG k0 fs (k + 1))) := hrow1.set k hlt _ _ _ (heap_setCell_congr hblk _ _) (by simpa using hsz2)
        clear hblk hc hf
        go_wp2
        go_roundw
        case rel => exact ⟨k + 1, by omega, by go_num, by first | go_num | (congr 1; omega), hb4.setCell hrow.base _, HROW, HF2⟩
        case measure => simp [intOf]; omega
      · obtain rfl : k = n := by omega
        go_wp2
        go_ret
        exact ⟨rfl, hrow.owns, hbw, fun j hj hne => hfar.out j hj (fun e => hne (by rw [e]; rfl))⟩

set_option maxHeartbeats 2000000 in
theorem heldFrom_any (v : Value) (n base : Nat) (fs : List (ByteArray × ByteArray)) (w : World) (h1 : w.ownsRow base 68 2 v n (flatF fs)) (k0 : Nat) (hk0 : 1 ≤ k0) (hn : k0 + 2 * n ≤ 9999999) (hm : ∀ j, j < n → nameAt fs j = markOf (k0 + 2 * j) ∧ valAt fs j = markOf (k0 + 2 * j + 1)) :
    Calls Try.prog 70 #[v, .int .i64 (k0 : Int)] w fun e w' => e = .returned (.int .i64 ((k0 : Int) + 2 * (n : Int))) ∧ Below w.heap.size w w' := by
  rcases frow_form h1 with ⟨oa, ca, rfl, _, rfl, rfl⟩ | ⟨g, cap, rfl, hp, r1⟩
  · clear hm
    go_enter Try.func70, Try.ntmps70
    go_wp2
    refine wp_loop_rounds 1 ?_
    rw [rounds_succ]
    go_wp2
    go_ret
    exact ⟨ret_int (by simp), Below.refl _ _⟩
  · clear h1
    have HM : Hid (∀ j, j < n → nameAt fs j = markOf (k0 + 2 * j) ∧ valAt fs j = markOf (k0 + 2 * j + 1)) := hm
    clear hm
    go_enter Try.func70, Try.ntmps70
    go_wp2
    go_loopw [1, 5] (fun q i wr => ∃ k : Nat, k ≤ n ∧ i = .int .i64 (k : Int) ∧ q = .int .i64 ((k0 : Int) + 2 * (k : Int)) ∧ Below w.heap.size w wr) (fun _ i _ => n - (intOf i).toNat)
    case atStart => exact ⟨0, Nat.zero_le _, rfl, by simp, Below.refl _ _⟩
    case round =>
      obtain ⟨k, hk, rfl, rfl, hbw⟩ := hrel
      by_cases hlt : k < n
      · have hlt2 : (k : Int) < (n : Int) := by omega
        have HA : Hid (∀ w0 w1, Below w.heap.size w w0 → Below w0.heap.size w0 w1 → (w1.cell? ⟨g, k * 2, none⟩ = some (.string (markOf (k0 + 2 * k))) ∧ w1.cell? ⟨g, k * 2 + 1, none⟩ = some (.string (markOf (k0 + 2 * k + 1)))) ∧ Below w.heap.size w w1) := fun w0 w1 h h' => by
          have hx := h.trans (h'.mono h.size)
          have a1 := (r1.below hx r1.lt).name k hlt
          have a2 := (r1.below hx r1.lt).val k hlt
          rw [(HM.out k hlt).1] at a1
          rw [(HM.out k hlt).2] at a2
          exact ⟨⟨a1, a2⟩, hx⟩
        obtain ⟨⟨hc1, hc2⟩, _⟩ := HA.out wr wr hbw (Below.refl _ _)
        go_wp2
        go_region_held3 (fun w' => w'.cell? ⟨g, k * 2, none⟩ = some (.string (markOf (k0 + 2 * k)))) (first | assumption | go_keep) (first | (go_at_call 69; refine (markText_int _ (k0 + 2 * k) _ (by omega) (by omega) (by omega)).mono ?_; rintro e w1 ⟨rfl, hb1⟩; obtain ⟨⟨hd1, hd2⟩, hbx⟩ := HA.out _ w1 hbw.drew hb1))
        clear hc1 hc2 hd1
        go_wp2
        go_region_held3 (fun w' => w'.cell? ⟨g, k * 2 + 1, none⟩ = some (.string (markOf (k0 + 2 * k + 1)))) (first | assumption | go_keep) (first | (go_at_call 69; refine (markText_int _ (k0 + 2 * k + 1) _ (by omega) (by omega) (by omega)).mono ?_; rintro e w2 ⟨rfl, hb2⟩; obtain ⟨⟨he1, he2⟩, hby⟩ := HA.out _ w2 hbx.drew hb2))
        go_wp2
        go_roundw
        case rel => exact ⟨k + 1, by omega, by go_num, by first | go_num | (congr 1; omega), hby⟩
        case measure => simp [intOf]; omega
      · obtain rfl : k = n := by omega
        go_wp2
        go_ret
        exact ⟨rfl, hbw⟩

end Go.Proofs.Ythlmnmbhgkmbfaa

namespace Go.Proofs.Ythlmnmbhgkmbfaa
open Go.RowKit
open Go.Lib hiding intOf

def SzRespRm (L : Int) (n : Nat) (fs : List (ByteArray × ByteArray)) (b : ByteArray) (w : World) (e : Ending) (w' : World) : Prop :=
  ∃ r : Int, e = .returned (.int .i64 r) ∧ r ≤ L ∧ (0 ≤ r → r + (n : Int) ≤ L ∧ b.size ≤ 1048576 ∧ n ≤ 1048576 ∧ szTo fs n ≤ 1048576) ∧ Below w.heap.size w w'

set_option maxHeartbeats 2000000 in
set_option maxRecDepth 100000 in
theorem szResp_room (L : Int) (hL0 : 0 ≤ L) (hL1 : L ≤ 1048576) (m : Int) (a : Option Addr) (n cap : Nat) (b : ByteArray) (fs : List (ByteArray × ByteArray)) (w : World) (harg : ArgF w w.heap.size a n fs) (hn : n ≤ maxLen) (hsz : WalkF n fs) (hb : b.size ≤ maxLen) :
    Calls Try.prog 23 #[.agg #[.int .i64 m, .slice a n cap, .string b], .int .i64 L] w fun e w' => SzRespRm L n fs b w e w' := by
  unfold maxLen at hb
  obtain ⟨r, hr⟩ : ∃ r, r = w.heap.size := ⟨_, rfl⟩
  have HR : Hid (∀ W, Below (w.alloc (.cells #[.int .i64 m, .slice a n cap, .string b] 43)).heap.size (w.alloc (.cells #[.int .i64 m, .slice a n cap, .string b] 43)) W → (W.cell? ⟨r, 1, none⟩ = some (.slice a n cap) ∧ W.cell? ⟨r, 2, none⟩ = some (.string b)) ∧ ArgF W w.heap.size a n fs ∧ w.heap.size ≤ W.heap.size ∧ Below w.heap.size w W) := fun W h => by
    have hh := kept_new h
    rw [← hr] at hh
    exact ⟨⟨by simp [World.cell?, hh], by simp [World.cell?, hh]⟩, harg.below (below_new h), (below_new h).size, below_new h⟩
  obtain ⟨⟨c2, c3⟩, harg0, hs0, _⟩ := HR.out _ (Below.refl _ _)
  have HSZ : Hid (WalkF n fs) := hsz
  have HN : Hid (n ≤ maxLen) := hn
  have HARG : Hid (ArgF (w.alloc (.cells #[.int .i64 m, .slice a n cap, .string b] 43)) w.heap.size a n fs) := harg0
  clear harg hsz harg0 hn
  go_enter Try.func23, Try.ntmps23
  rw [hr] at c2
  go_wp2_with fail
  refine (szFieldS_exact L (by omega) (by omega) w.heap.size a n cap fs _ HARG.out hs0 HN.out HSZ.out).mono ?_
  rintro e w1 ⟨x, rfl, hx1, hx2, bb1⟩
  clear c2 c3
  obtain ⟨⟨c2, c3⟩, _, _, hbw1⟩ := HR.out w1 bb1
  rw [← hr]
  clear bb1 hr
  by_cases hx0 : x < 0
  · clear hx2
    go_wp2_with fail
    go_ret
    exact ⟨-1, rfl, by omega, fun h => absurd h (by omega), hbw1⟩
  · obtain ⟨h0, h1, h2⟩ := hx2 (by omega)
    by_cases d2 : x - (b.size : Int) < 0
    · go_wp2_with fail
      go_ret
      exact ⟨-1, rfl, by omega, fun h => absurd h (by omega), hbw1⟩
    · go_wp2_with fail
      go_ret
      exact ⟨_, rfl, by omega, fun _ => ⟨by omega, by omega, h1, h2⟩, hbw1⟩

set_option maxHeartbeats 1000000 in
theorem markRespFrom_any (m : Int) (v : Value) (b : ByteArray) (n base : Nat) (fs : List (ByteArray × ByteArray)) (w : World) (h1 : w.ownsRow base 68 2 v n (flatF fs)) (hb : base ≤ w.heap.size) (k0 : Nat) (hk0 : 1 ≤ k0) (hn : k0 + 2 * n ≤ 9999999) :
    Calls Try.prog 38 #[.agg #[.int .i64 m, v, .string b], .int .i64 (k0 : Int)] w fun e w' => e = .returned (.int .i64 ((k0 : Int) + 2 * (n : Int))) ∧ w'.ownsRow base 68 2 v n (flatF (mkG k0 fs n)) ∧ Below base w w' ∧ Far v w w' := by
  obtain ⟨oa, ca, rfl⟩ := slice_of_owns h1
  have h2 := h1.alloc (.cells #[.int .i64 m, .slice oa n ca, .string b] 32)
  have hb2 : Below base w (w.alloc (.cells #[.int .i64 m, .slice oa n ca, .string b] 32)) := (Below.refl _ w).alloc hb _
  have hs : base ≤ (w.alloc (.cells #[.int .i64 m, .slice oa n ca, .string b] 32)).heap.size := by simp; omega
  go_enter Try.func38, Try.ntmps38
  go_wp2_with fail
  refine (markFrom_any _ n base fs _ h2 hs k0 hk0 hn).mono ?_
  rintro e w1 ⟨rfl, ho, bb1, far1⟩
  have hb3 := hb2.trans bb1
  have HO : Hid _ := ho
  have HF : Hid (Far (.slice oa n ca) w w1) := fun j hj hne => (far1 j (by simp; omega) hne).trans (heap_alloc_old w _ hj)
  clear h1 h2 hb2 hs bb1 ho far1
  go_wp2_with fail
  go_ret
  exact ⟨rfl, HO.out, hb3, HF.out⟩

set_option maxHeartbeats 1000000 in
theorem heldRespFrom_any (m : Int) (v : Value) (b : ByteArray) (n base : Nat) (fs : List (ByteArray × ByteArray)) (w : World) (h1 : w.ownsRow base 68 2 v n (flatF fs)) (k0 : Nat) (hk0 : 1 ≤ k0) (hn : k0 + 2 * n ≤ 9999999) (hm : ∀ j, j < n → nameAt fs j = markOf (k0 + 2 * j) ∧ valAt fs j = markOf (k0 + 2 * j + 1)) :
    Calls Try.prog 39 #[.agg #[.int .i64 m, v, .string b], .int .i64 (k0 : Int)] w fun e w' => e = .returned (.int .i64 ((k0 : Int) + 2 * (n : Int))) ∧ Below w.heap.size w w' := by
  obtain ⟨oa, ca, rfl⟩ := slice_of_owns h1
  have h2 := h1.alloc (.cells #[.int .i64 m, .slice oa n ca, .string b] 32)
  have hb2 : Below w.heap.size w (w.alloc (.cells #[.int .i64 m, .slice oa n ca, .string b] 32)) := (Below.refl _ w).alloc (Nat.le_refl _) _
  have hk2 : ¬ ((k0 : Int) + 2 * (n : Int) < 0) := by omega
  have HM : Hid (∀ j, j < n → nameAt fs j = markOf (k0 + 2 * j) ∧ valAt fs j = markOf (k0 + 2 * j + 1)) := hm
  clear hm
  go_enter Try.func39, Try.ntmps39
  go_wp2_with fail
  refine (heldFrom_any _ n base fs _ h2 k0 hk0 hn HM.out).mono ?_
  rintro e w1 ⟨rfl, bb1⟩
  have hb3 := hb2.trans (bb1.mono hb2.size)
  clear h1 h2 hb2 bb1
  go_wp2_with fail
  go_ret
  exact ⟨rfl, hb3⟩

/-- A block's content behind a call. -/
theorem blk_below {W W' : World} {r : Nat} {o : Obj} (h : W.heap[r]? = some o) (b : Below W.heap.size W W') : W'.heap[r]? = some o := by
  rw [b.block r (Array.getElem?_eq_some_iff.1 h).1]; exact h
theorem blk_alloc {W : World} {r : Nat} {o : Obj} (h : W.heap[r]? = some o) (x : Obj) : (W.alloc x).heap[r]? = some o := by
  rw [Below.heap_alloc _ _ _ (Array.getElem?_eq_some_iff.1 h).1]; exact h
theorem own_ne {W : World} {r : Nat} {cs : Array Value} {T t : TypeId} {base size n : Nat} {v : Value} {xs : List Value} (ho : W.ownsRow base t size v n xs) (h : W.heap[r]? = some (.cells cs T)) (hT : T ≠ t) (j : Nat) (hj : v.ownBlock = some j) : j ≠ r := fun e => by
  subst e
  rcases ho.2 with ⟨rfl, _⟩ | ⟨g, cap, cur, rfl, _, h1, _⟩
  · cases hj
  · cases hj
    rw [h] at h1
    cases h1
    exact hT rfl
theorem three_oth (W : World) (r j : Nat) (a b c : Value) (h : j ≠ r) : (threeSet W r a b c).heap[j]? = W.heap[j]? := by
  unfold threeSet
  rw [heap_setCell_other _ _ j _ h, heap_setCell_other _ _ j _ h, heap_setCell_other _ _ j _ h]
/-- A block of another type is no row of this one. -/
theorem blk_far {W W' : World} {r : Nat} {cs : Array Value} {T t : TypeId} {base size n : Nat} {v : Value} {xs : List Value} (h : W.heap[r]? = some (.cells cs T)) (far : Far v W W') (ho : W.ownsRow base t size v n xs) (hT : T ≠ t) : W'.heap[r]? = some (.cells cs T) := by
  rw [far r (Array.getElem?_eq_some_iff.1 h).1 (fun e => ?_)]
  · exact h
  · rcases ho.2 with ⟨rfl, _⟩ | ⟨g, cap, cur, rfl, _, h1, _⟩
    · cases e
    · cases e
      rw [h] at h1
      cases h1
      exact hT rfl

end Go.Proofs.Ythlmnmbhgkmbfaa

namespace Go.Proofs.Ythlmnmbhgkmbfaa
open Go.RowKit Go.WideShapes
open Go.Lib hiding intOf

set_option maxRecDepth 100000 in
/-- An answer among the arguments: what it holds. -/
theorem openResp {H : Type} {enc : TypeId × Value → H} {W : World} {r : Reach} {b0 : Nat} {v : Value} {d : DataW H} {ps : List MemPlace} (hval : Value.okWide Try.prog W r b0 43 v) (h : DataW.Trod enc Try.prog W 0 (fun _ => true) true 43 v d ps) :
    ∃ (m : Int) (a : Option Addr) (n cap : Nat) (b : ByteArray) (fs : List (ByteArray × ByteArray)), v = .agg #[.int .i64 m, .slice a n cap, .string b] ∧ ArgF W W.heap.size a n fs ∧ n ≤ maxLen ∧ WalkF n fs ∧ b.size ≤ maxLen := by
  obtain ⟨cs, rfl, hsz⟩ := okWide_struct Try.underlying43 hval
  obtain ⟨fuel, hf⟩ := h
  obtain ⟨ys, q, _, _, _, hyl, hg⟩ := DataW.trod_struct Try.underlying43 hf
  have hc4 : Try.prog.cellsOf 43 = 3 := by kernel_rfl
  have e3 : Try.prog.cellsOf 3 = 1 := by kernel_rfl
  have e9 : Try.prog.cellsOf 9 = 1 := by kernel_rfl
  have eL : Try.prog.cellsOf 39 = 1 := by kernel_rfl
  rw [hc4] at hsz
  obtain ⟨l⟩ := cs
  obtain ⟨c0, c1, c2, rfl⟩ : ∃ c0 c1 c2, l = [c0, c1, c2] := by
    match l, hsz with
    | [c0, c1, c2], _ => exact ⟨c0, c1, c2, rfl⟩
  have g0 := hg 0 _ rfl
  have g1 := hg 1 _ rfl
  have g2 := hg 2 _ rfl
  simp [Value.cells, e3, e9, eL] at g0 g1 g2
  have hy4 : ys.length = 3 := hyl
  rw [List.getElem?_eq_getElem (show 0 < ys.length by omega)] at g0
  rw [List.getElem?_eq_getElem (show 1 < ys.length by omega)] at g1
  rw [List.getElem?_eq_getElem (show 2 < ys.length by omega)] at g2
  obtain ⟨m, hm, _, _⟩ := DataW.trod_int Try.underlying3 g0
  obtain ⟨b, hb, _, hbs⟩ := DataW.trod_string Try.underlying9 g2
  obtain ⟨a, n, cap, rfl⟩ : ∃ a n cap, c1 = .slice a n cap := by
    rcases DataW.trod_slice Try.underlying39 g1 with ⟨h, _⟩ | ⟨a, n, cap, _, _, _, _, h, _⟩
    · exact ⟨none, 0, 0, by simpa using h⟩
    · exact ⟨_, n, cap, by simpa using h⟩
  obtain ⟨fs, h1, h2, h3⟩ := openFields g1
  simp only [List.cons.injEq, and_true] at hm hb
  subst hm hb
  exact ⟨m, a, n, cap, b, fs, rfl, h1, h2, h3, hbs⟩

end Go.Proofs.Ythlmnmbhgkmbfaa
