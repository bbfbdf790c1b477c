/- What the proof of FnExactAlike leans on: contracts of the program's and the specification's functions, and plain facts (part 2 of 2). -/
import Derived.Test.YtmcmeeibogkpaaaFnExactAlikeA
namespace Go.Proofs.Ytmcmeeibogkpaaa
open Go.RowKit
open Go.Lib hiding intOf

set_option maxHeartbeats 2000000 in
set_option maxRecDepth 100000 in
theorem toReq_any (m : Int) (p : ByteArray) (a : Option Addr) (n cap : Nat) (b : ByteArray) (fs : List (ByteArray × ByteArray)) (B : Nat) (w : World) (harg : ArgF w B a n fs) (hB : B ≤ w.heap.size) (hn : n ≤ 1048576) :
    Calls Try.prog 6 #[.agg #[.int .i64 m, .string p, .slice a n cap, .string b]] w fun e w' => ∃ v, e = .returned (.agg #[.int .i64 m, .string p, v, .string b]) ∧ w'.ownsRow w.heap.size 40 2 v n (flatF fs) ∧ Below w.heap.size w w' := by
  obtain ⟨w0, hw0⟩ : ∃ W, W = (((w.alloc (.cells #[.int .i64 m, .string p, .slice a n cap, .string b] 24)).alloc (.cells #[.int .i64 0, .string ⟨#[]⟩, .slice none 0 0, .string ⟨#[]⟩] 29)).alloc (.cells #[.int .i64 m, .string p, .slice none 0 0, .string ⟨#[]⟩] 29)) := ⟨_, rfl⟩
  have hs0 : w0.heap.size = w.heap.size + 1 + 1 + 1 := by rw [hw0]; simp
  have hb0 : Below w.heap.size w w0 := by rw [hw0]; exact (((Below.refl _ w).alloc (Nat.le_refl _) _).alloc (by simp) _).alloc (by simp; omega) _
  have x1 : w0.heap[w.heap.size]? = some (.cells #[.int .i64 m, .string p, .slice a n cap, .string b] 24) := by
    rw [hw0, heap_alloc_old _ _ (by simp; omega), heap_alloc_old _ _ (by simp)]; exact heap_alloc_new w _
  have x2 : w0.heap[w.heap.size + 1]? = some (.cells #[.int .i64 0, .string ⟨#[]⟩, .slice none 0 0, .string ⟨#[]⟩] 29) := by
    rw [hw0, heap_alloc_old _ _ (by simp)]
    have := heap_alloc_new (w.alloc (.cells #[.int .i64 m, .string p, .slice a n cap, .string b] 24)) (.cells #[.int .i64 0, .string ⟨#[]⟩, .slice none 0 0, .string ⟨#[]⟩] 29)
    simpa using this
  have x3 : w0.heap[w.heap.size + 1 + 1]? = some (.cells #[.int .i64 m, .string p, .slice none 0 0, .string ⟨#[]⟩] 29) := by
    rw [hw0]
    have := heap_alloc_new ((w.alloc (.cells #[.int .i64 m, .string p, .slice a n cap, .string b] 24)).alloc (.cells #[.int .i64 0, .string ⟨#[]⟩, .slice none 0 0, .string ⟨#[]⟩] 29)) (.cells #[.int .i64 m, .string p, .slice none 0 0, .string ⟨#[]⟩] 29)
    simpa using this
  go_enter Try.func6, Try.ntmps6
  go_wp2_with fail
  rw [← hw0]
  refine (toFieldS_any B a n cap fs _ (harg.below (hb0.mono hB)) (by omega) hn).mono ?_
  rintro e w1 ⟨v, rfl, hown, bb1⟩
  obtain ⟨fo, fc, rfl⟩ := slice_of_owns hown
  rw [← bb1.block _ (by omega)] at x1 x2 x3
  obtain ⟨o, ho⟩ : ∃ o, o = w.heap.size + 1 + 1 := ⟨_, rfl⟩
  obtain ⟨q, hq⟩ : ∃ q, q = w.heap.size + 1 := ⟨_, rfl⟩
  obtain ⟨c, hc⟩ : ∃ c, c = w.heap.size := ⟨_, rfl⟩
  rw [← ho] at x3
  rw [← hq] at x2
  rw [← hc] at x1
  have hqo : q ≠ o := by omega
  have hco : c ≠ o := by omega
  have hoq : o ≠ q := by omega
  have hoc : o ≠ c := by omega
  have hqw : w.heap.size ≤ q := by omega
  have how : w.heap.size ≤ o := by omega
  obtain ⟨⟨a0, a1, a2, a3⟩, _⟩ := four_facts x1
  obtain ⟨⟨b0, b1, b2, b3⟩, e0, e1, e2, e3⟩ := four_facts x2
  obtain ⟨⟨d0, d1, d2, d3⟩, f0, f1, f2, f3⟩ := four_facts x3
  have hbw1 : Below w.heap.size w w1 := hb0.trans (bb1.mono hb0.size)
  have HFIN : Hid (∀ W : World, W = (w1.setCell ⟨o, 2, none⟩ (.slice fo n fc)).setCell ⟨o, 3, none⟩ (.string b) → ((fourSet W q (.int .i64 m) (.string p) (.slice fo n fc) (.string b)).heap[q]? = some (.cells #[.int .i64 m, .string p, .slice fo n fc, .string b] 29)) ∧ (fourSet W q (.int .i64 m) (.string p) (.slice fo n fc) (.string b)).ownsRow w.heap.size 40 2 (.slice fo n fc) n (flatF fs) ∧ Below w.heap.size w (fourSet W q (.int .i64 m) (.string p) (.slice fo n fc) (.string b))) := fun W hW => by
    have hx2 : W.heap[q]? = some (.cells #[.int .i64 0, .string ⟨#[]⟩, .slice none 0 0, .string ⟨#[]⟩] 29) := by rw [hW, heap_setCell_other _ _ q _ (fun e => hqo e), heap_setCell_other _ _ q _ (fun e => hqo e)]; exact x2
    have hbW : Below w.heap.size w W := by rw [hW]; exact (hbw1.setCell (p := ⟨o, 2, none⟩) how _).setCell (p := ⟨o, 3, none⟩) how _
    refine ⟨four_set hx2 _ _ _ _, ?_, below_four hbW hqw⟩
    have hown1 : w1.ownsRow w.heap.size 40 2 (.slice fo n fc) n (flatF fs) := by
      refine ⟨hown.1, ?_⟩
      rcases hown.2 with h6 | ⟨g6, cap6, cur6, h7, h8, h9⟩
      · exact .inl h6
      · exact .inr ⟨g6, cap6, cur6, h7, by omega, h9⟩
    refine ⟨hown1.1, ?_⟩
    rcases hown.2 with h6 | ⟨g6, cap6, cur6, h7, h8, h9, h10⟩
    · exact .inl h6
    · refine .inr ⟨g6, cap6, cur6, h7, by omega, ?_, h10⟩
      have n1 : g6 ≠ q := by omega
      have n2 : g6 ≠ o := by omega
      unfold fourSet
      rw [heap_setCell_other _ _ g6 _ (fun e => n1 e), heap_setCell_other _ _ g6 _ (fun e => n1 e), heap_setCell_other _ _ g6 _ (fun e => n1 e), heap_setCell_other _ _ g6 _ (fun e => n1 e), hW, heap_setCell_other _ _ g6 _ (fun e => n2 e), heap_setCell_other _ _ g6 _ (fun e => n2 e)]
      exact h9
  obtain ⟨hh, hof, hbf⟩ := HFIN.out _ rfl
  obtain ⟨⟨k0, k1, k2, k3⟩, _⟩ := four_facts hh
  have HOF : Hid _ := hof
  have HBF : Hid _ := hbf
  unfold fourSet at k0 k1 k2 k3
  rw [← ho, ← hq, ← hc]
  clear x1 x2 x3 ho hq hc hw0 hs0 hb0 bb1 hown hbw1 hh hof hbf harg hB HFIN a0 a1 a2
  go_wp2_with fail
  exact bodyPost_ret (v := .agg #[.int .i64 m, .string p, .slice fo n fc, .string b]) (by simp [results, Try.results6, go_sem, k0, k1, k2, k3]) rfl ⟨_, rfl, HOF.out, HBF.out⟩

set_option maxHeartbeats 2000000 in
set_option maxRecDepth 100000 in
theorem eqReq_any (m : Int) (p : ByteArray) (v1 v2 : Value) (b : ByteArray) (n b1 b2 : Nat) (fs : List (ByteArray × ByteArray)) (w : World) (h1 : FieldsV w b1 v1 n fs) (h2 : FieldsV w b2 v2 n fs) (hn : n ≤ 2000000) :
    Calls Try.prog 8 #[.agg #[.int .i64 m, .string p, v1, .string b], .agg #[.int .i64 m, .string p, v2, .string b]] w fun e w' => e = .returned (.bool true) ∧ Below w.heap.size w w' := by
  obtain ⟨oa, ca, rfl, _⟩ := h1.slice
  obtain ⟨ob, cb, rfl, _⟩ := h2.slice
  have tp : (p.toList == p.toList) = true := by simp
  have tb : (b.toList == b.toList) = true := by simp
  have tm : (m != m) = false := by simp
  obtain ⟨w0, hw0⟩ : ∃ W, W = ((w.alloc (.cells #[.int .i64 m, .string p, .slice oa n ca, .string b] 29)).alloc (.cells #[.int .i64 m, .string p, .slice ob n cb, .string b] 29)) := ⟨_, rfl⟩
  have hs0 : w0.heap.size = w.heap.size + 1 + 1 := by rw [hw0]; simp
  have hb0 : Below w.heap.size w w0 := by rw [hw0]; exact ((Below.refl _ w).alloc (Nat.le_refl _) _).alloc (by simp) _
  have x1 : w0.heap[w.heap.size]? = some (.cells #[.int .i64 m, .string p, .slice oa n ca, .string b] 29) := by
    rw [hw0, heap_alloc_old _ _ (by simp)]; exact heap_alloc_new w _
  have x2 : w0.heap[w.heap.size + 1]? = some (.cells #[.int .i64 m, .string p, .slice ob n cb, .string b] 29) := by
    rw [hw0]
    have := heap_alloc_new (w.alloc (.cells #[.int .i64 m, .string p, .slice oa n ca, .string b] 29)) (.cells #[.int .i64 m, .string p, .slice ob n cb, .string b] 29)
    simpa using this
  go_enter Try.func8, Try.ntmps8
  go_wp2_with fail
  rw [← hw0]
  refine (eqFieldS_any _ _ n b1 b2 fs _ (h1.below hb0) (h2.below hb0) hn).mono ?_
  rintro e w1 ⟨rfl, bb1⟩
  rw [← bb1.block _ (by omega)] at x1 x2
  obtain ⟨q, hq⟩ : ∃ q, q = w.heap.size + 1 := ⟨_, rfl⟩
  obtain ⟨c, hc⟩ : ∃ c, c = w.heap.size := ⟨_, rfl⟩
  rw [← hq] at x2
  rw [← hc] at x1
  have y1 : w1.cell? ⟨c, 3, none⟩ = some (.string b) := by simp [World.cell?, x1]
  have y2 : w1.cell? ⟨q, 3, none⟩ = some (.string b) := by simp [World.cell?, x2]
  have hbw1 : Below w.heap.size w w1 := hb0.trans (bb1.mono hb0.size)
  rw [← hq, ← hc]
  clear x1 x2 hq hc hw0 hs0 hb0 bb1 h1 h2
  go_wp2
  go_ret
  exact ⟨rfl, hbw1⟩

end Go.Proofs.Ytmcmeeibogkpaaa

namespace Go.Proofs.Ytmcmeeibogkpaaa
open Go.RowKit
open Go.Lib hiding intOf

/-- The measure is negative, or it says exactly how much room is left of L. -/
def SzEx (L : Int) (n : Nat) (fs : List (ByteArray × ByteArray)) (w : World) (e : Ending) (w' : World) : Prop :=
  ∃ r : Int, e = .returned (.int .i64 r) ∧ r ≤ L ∧ (0 ≤ r → r + (n : Int) + (szTo fs n : Int) = L ∧ n ≤ 1048576 ∧ szTo fs n ≤ 1048576) ∧ Below w.heap.size w w'

set_option maxHeartbeats 1000000 in
theorem szFieldS_exact (L : Int) (hL0 : 0 ≤ L) (hL1 : L ≤ 1048576) (B : Nat) (a : Option Addr) (n cap : Nat) (fs : List (ByteArray × ByteArray)) (w : World) (harg : ArgF w B a n fs) (hB : B ≤ w.heap.size) (hn : n ≤ maxLen) (hsz : ∀ i, i < n → (nameAt fs i).size ≤ maxLen ∧ (valAt fs i).size ≤ maxLen) :
    Calls Try.prog 9 #[.slice a n cap, .int .i64 L] w fun e w' => SzEx L n fs w e w' := by
  unfold maxLen at hn
  have HS : Hid (∀ i, i < n → (nameAt fs i).size ≤ maxLen ∧ (valAt fs i).size ≤ maxLen) := hsz
  clear hsz
  by_cases c1 : L - (n : Int) < 0
  · go_enter Try.func9, Try.ntmps9
    go_wp2
    go_ret
    exact ⟨-1, rfl, by omega, fun h => absurd h (by omega), Below.refl _ _⟩
  · go_enter Try.func9, Try.ntmps9
    go_wp2
    go_loopw [1, 5] (fun l i wr => ∃ (k : Nat) (x : Int), k ≤ n ∧ i = .int .i64 (k : Int) ∧ l = .int .i64 x ∧ 0 ≤ x ∧ x ≤ L ∧ Hid (x = L - (n : Int) - (szTo fs k : Int)) ∧ Below w.heap.size w wr) (fun _ i _ => n - (intOf i).toNat)
    case atStart => exact ⟨0, _, Nat.zero_le _, rfl, rfl, by omega, by omega, by show _ = _; simp [szTo], Below.refl _ _⟩
    case round =>
      obtain ⟨k, x, hk, rfl, rfl, hx0, hx1, hx, hbw⟩ := hrel
      by_cases hlt : k < n
      · have hlt2 : (k : Int) < (n : Int) := by omega
        obtain ⟨b, off, rfl, hbB, hc1, hc2⟩ := (harg.below (hbw.mono hB)).get k hlt
        obtain ⟨s1, s2⟩ := HS.out k hlt
        obtain ⟨nm, hnm⟩ : ∃ y, y = nameAt fs k := ⟨_, rfl⟩
        obtain ⟨vl, hvl⟩ : ∃ y, y = valAt fs k := ⟨_, rfl⟩
        have HZ : Hid (szTo fs (k + 1) = szTo fs k + nm.size + vl.size) := by rw [hnm, hvl]; rfl
        rw [← hnm] at hc1 s1
        rw [← hvl] at hc2 s2
        clear hnm hvl
        go_wp2_with fail
        refine (szField_any nm vl x _ hx0 (by omega) s1 s2).mono ?_
        rintro e w1 ⟨rfl, hb1⟩
        have hb2 : Below w.heap.size w w1 := hbw.trans (hb1.mono hbw.size)
        clear hc1 hc2 hb1
        by_cases d1 : x - (nm.size : Int) < 0
        · rw [if_pos d1]
          go_wp2
          go_ret
          exact ⟨-1, rfl, by omega, fun h => absurd h (by omega), hb2⟩
        · rw [if_neg d1]
          by_cases d2 : x - (nm.size : Int) - (vl.size : Int) < 0
          · rw [if_pos d2]
            go_wp2
            go_ret
            exact ⟨-1, rfl, by omega, fun h => absurd h (by omega), hb2⟩
          · rw [if_neg d2]
            obtain ⟨y, hy⟩ : ∃ y, y = x - (nm.size : Int) - (vl.size : Int) := ⟨_, rfl⟩
            rw [← hy] at d2 ⊢
            have HY : Hid (y = L - (n : Int) - (szTo fs (k + 1) : Int)) := by
              show _ = _
              rw [hy, HZ.out, hx.out]; omega
            have hy1 : y ≤ L := by omega
            clear hy d1
            go_wp2
            go_roundw
            case rel => exact ⟨k + 1, y, by omega, by go_num, rfl, by omega, hy1, HY, hb2⟩
            case measure => simp [intOf]; omega
      · have hF : Hid (x + (n : Int) + (szTo fs n : Int) = L ∧ n ≤ 1048576 ∧ szTo fs n ≤ 1048576) := by
          have := hx.out
          obtain rfl : k = n := by omega
          exact ⟨by omega, by omega, by omega⟩
        go_wp2
        go_ret
        exact ⟨x, rfl, hx1, fun _ => hF.out, hbw⟩

end Go.Proofs.Ytmcmeeibogkpaaa

namespace Go.Proofs.Ytmcmeeibogkpaaa
open Go.RowKit
open Go.Lib hiding intOf

def SzReqRm (L : Int) (p : ByteArray) (n : Nat) (fs : List (ByteArray × ByteArray)) (b : ByteArray) (w : World) (e : Ending) (w' : World) : Prop :=
  ∃ r : Int, e = .returned (.int .i64 r) ∧ r ≤ L ∧ (0 ≤ r → r + (n : Int) ≤ L ∧ (p.size ≤ 1048576 ∧ b.size ≤ 1048576) ∧ n ≤ 1048576 ∧ szTo fs n ≤ 1048576) ∧ Below w.heap.size w w'
set_option maxHeartbeats 2000000 in
set_option maxRecDepth 100000 in
theorem szReq_room (L : Int) (hL0 : 0 ≤ L) (hL1 : L ≤ 1048576) (m : Int) (p : ByteArray) (a : Option Addr) (n cap : Nat) (b : ByteArray) (fs : List (ByteArray × ByteArray)) (w : World) (harg : ArgF w w.heap.size a n fs) (hn : n ≤ maxLen) (hsz : WalkF n fs) (hp : p.size ≤ maxLen) (hb : b.size ≤ maxLen) :
    Calls Try.prog 4 #[.agg #[.int .i64 m, .string p, .slice a n cap, .string b], .int .i64 L] w fun e w' => SzReqRm L p n fs b w e w' := by
  unfold maxLen at hp hb
  obtain ⟨r, hr⟩ : ∃ r, r = w.heap.size := ⟨_, rfl⟩
  have HR : Hid (∀ W, Below (w.alloc (.cells #[.int .i64 m, .string p, .slice a n cap, .string b] 24)).heap.size (w.alloc (.cells #[.int .i64 m, .string p, .slice a n cap, .string b] 24)) W → (W.cell? ⟨r, 1, none⟩ = some (.string p) ∧ W.cell? ⟨r, 2, none⟩ = some (.slice a n cap) ∧ W.cell? ⟨r, 3, none⟩ = some (.string b)) ∧ ArgF W w.heap.size a n fs ∧ w.heap.size ≤ W.heap.size ∧ Below w.heap.size w W) := fun W h => by
    have hh := kept_new h
    rw [← hr] at hh
    exact ⟨⟨by simp [World.cell?, hh], by simp [World.cell?, hh], by simp [World.cell?, hh]⟩, harg.below (below_new h), (below_new h).size, below_new h⟩
  obtain ⟨⟨c1, c2, c3⟩, harg0, hs0, hbw0⟩ := HR.out _ (Below.refl _ _)
  have HB0 : Hid (Below w.heap.size w (w.alloc (.cells #[.int .i64 m, .string p, .slice a n cap, .string b] 24))) := hbw0
  have HSZ : Hid (WalkF n fs) := hsz
  have HN : Hid (n ≤ maxLen) := hn
  have HARG : Hid (ArgF (w.alloc (.cells #[.int .i64 m, .string p, .slice a n cap, .string b] 24)) w.heap.size a n fs) := harg0
  clear harg hsz harg0 hbw0 hn
  by_cases d1 : L - (p.size : Int) < 0
  · go_enter Try.func4, Try.ntmps4
    rw [hr] at c1
    go_wp2_with fail
    go_ret
    exact ⟨-1, rfl, by omega, fun h => absurd h (by omega), HB0.out⟩
  · go_enter Try.func4, Try.ntmps4
    rw [hr] at c1 c2
    go_wp2_with fail
    refine (szFieldS_exact (L - (p.size : Int)) (by omega) (by omega) w.heap.size a n cap fs _ HARG.out hs0 HN.out HSZ.out).mono ?_
    rintro e w1 ⟨x, rfl, hx1, hx2, bb1⟩
    clear c1 c2 c3
    obtain ⟨⟨c1, c2, c3⟩, _, _, hbw1⟩ := HR.out w1 bb1
    rw [← hr]
    clear bb1 hr
    by_cases hx0 : x < 0
    · clear hx2
      go_wp2_with fail
      go_ret
      exact ⟨-1, rfl, by omega, fun h => absurd h (by omega), hbw1⟩
    · obtain ⟨h0, h1, h2⟩ := hx2 (by omega)
      by_cases d2 : x - (b.size : Int) < 0
      · go_wp2_with fail
        go_ret
        exact ⟨-1, rfl, by omega, fun h => absurd h (by omega), hbw1⟩
      · go_wp2_with fail
        go_ret
        exact ⟨_, rfl, by omega, fun _ => ⟨by omega, ⟨by omega, by omega⟩, h1, h2⟩, hbw1⟩

/-- A block's content behind a call. -/
theorem blk_below {W W' : World} {r : Nat} {o : Obj} (h : W.heap[r]? = some o) (b : Below W.heap.size W W') : W'.heap[r]? = some o := by
  rw [b.block r (Array.getElem?_eq_some_iff.1 h).1]; exact h
theorem blk_alloc {W : World} {r : Nat} {o : Obj} (h : W.heap[r]? = some o) (x : Obj) : (W.alloc x).heap[r]? = some o := by
  rw [Below.heap_alloc _ _ _ (Array.getElem?_eq_some_iff.1 h).1]; exact h
end Go.Proofs.Ytmcmeeibogkpaaa

namespace Go.Proofs.Ytmcmeeibogkpaaa
open Go.RowKit
open Go.Lib hiding intOf

theorem cell_of {W : World} {R : Nat} {cs : Array Value} {t : TypeId} (h : W.heap[R]? = some (.cells cs t)) (i : Nat) : W.cell? ⟨R, i, none⟩ = cs[i]? := by simp [World.cell?, h]
end Go.Proofs.Ytmcmeeibogkpaaa

namespace Go.Proofs.Ytmcmeeibogkpaaa
open Go.RowKit
open Go.Lib hiding intOf

set_option maxHeartbeats 8000000 in
set_option maxRecDepth 100000 in
theorem specAlike_any (ma : Int) (pa : ByteArray) (va : Value) (ba : ByteArray) (na basea : Nat) (fsa : List (ByteArray × ByteArray)) (mb : Int) (pb : ByteArray) (vb : Value) (bb : ByteArray) (nb baseb : Nat) (fsb : List (ByteArray × ByteArray)) (w : World) (hva : FieldsV w basea va na fsa) (hna : na ≤ 1048576) (hsa : WalkF na fsa) (hpa : pa.size ≤ maxLen) (hba : ba.size ≤ maxLen) (hga : ∀ x, (getV fsa x).size ≤ 1048576) (hvb : FieldsV w baseb vb nb fsb) (hnb : nb ≤ 1048576) (hsb : WalkF nb fsb) (hpb : pb.size ≤ maxLen) (hbb : bb.size ≤ maxLen) (hgb : ∀ x, (getV fsb x).size ≤ 1048576) :
    Calls Try.prog 5 #[.agg #[.int .i64 ma, .string pa, va, .string ba], .agg #[.int .i64 mb, .string pb, vb, .string bb]] w fun e w' => BoolIs (AlikeP ma pa fsa ba mb pb fsb bb) w e w' := by
  obtain ⟨oa, ca, hsl, _⟩ := hva.slice
  subst hsl
  have HVa : Hid (∀ W, Below w.heap.size w W → FieldsV W basea (.slice oa na ca) na fsa) := fun W h => hva.below h
  have HLFa : Hid (fsa.length = na) := hva.len
  have HSa : Hid (WalkF na fsa) := hsa
  have HPMa : Hid (pa.size ≤ maxLen) := hpa
  have HBMa : Hid (ba.size ≤ maxLen) := hba
  have HGVa : Hid (∀ x, (getV fsa x).size ≤ 1048576) := hga
  clear hva hsa hpa hba hga
  obtain ⟨ka, hka⟩ : ∃ t, t = ccR (getV fsa ccName) := ⟨_, rfl⟩
  have HCCa : Hid (∀ W, Below w.heap.size w W → Calls Try.prog 12 #[.slice oa na ca] W fun e w' => e = .returned (.agg #[.bool ka.ns, .bool ka.nc, .bool ka.pr, .bool ka.mu, .bool ka.ha, .int .i64 ka.age]) ∧ Below W.heap.size W w') := fun W hW => by
    have h := specCcOf_any _ na basea fsa W (HVa.out W hW) (by omega) (HGVa.out _)
    rw [← hka] at h
    exact h
  have HCKa : Hid (ccR (getV fsa ccName) = ka) := hka.symm
  clear hka
  obtain ⟨xa0, xa1, xa2, xa3, xa4, xa5⟩ := ka
  dsimp only at HCCa
  obtain ⟨ob, cb, hsl, _⟩ := hvb.slice
  subst hsl
  have HVb : Hid (∀ W, Below w.heap.size w W → FieldsV W baseb (.slice ob nb cb) nb fsb) := fun W h => hvb.below h
  have HLFb : Hid (fsb.length = nb) := hvb.len
  have HSb : Hid (WalkF nb fsb) := hsb
  have HPMb : Hid (pb.size ≤ maxLen) := hpb
  have HBMb : Hid (bb.size ≤ maxLen) := hbb
  have HGVb : Hid (∀ x, (getV fsb x).size ≤ 1048576) := hgb
  clear hvb hsb hpb hbb hgb
  obtain ⟨kb, hkb⟩ : ∃ t, t = ccR (getV fsb ccName) := ⟨_, rfl⟩
  have HCCb : Hid (∀ W, Below w.heap.size w W → Calls Try.prog 12 #[.slice ob nb cb] W fun e w' => e = .returned (.agg #[.bool kb.ns, .bool kb.nc, .bool kb.pr, .bool kb.mu, .bool kb.ha, .int .i64 kb.age]) ∧ Below W.heap.size W w') := fun W hW => by
    have h := specCcOf_any _ nb baseb fsb W (HVb.out W hW) (by omega) (HGVb.out _)
    rw [← hkb] at h
    exact h
  have HCKb : Hid (ccR (getV fsb ccName) = kb) := hkb.symm
  clear hkb
  obtain ⟨xb0, xb1, xb2, xb3, xb4, xb5⟩ := kb
  dsimp only at HCCb
  have hfna := fun W => cc_ns xa0 xa1 xa2 xa3 xa4 xa5 W
  have hfca := fun W => cc_nc xa0 xa1 xa2 xa3 xa4 xa5 W
  have hb0 : Below w.heap.size w w := Below.refl _ _
  go_enter Try.func5, Try.ntmps5
  go_upto_region 1 with fail
  obtain ⟨qv1, hqv1⟩ : ∃ q, q = (w).heap.size := ⟨_, rfl⟩
  obtain ⟨w1, hW1⟩ : ∃ W, W = (w).alloc (.cells #[.int .i64 ma, .string pa, .slice oa na ca, .string ba] 29) := ⟨_, rfl⟩
  have hz1 : (w).heap.size = qv1 := hqv1.symm
  first | rw [← hW1, ← hqv1] | rw [← hW1]
  have hs1 : w1.heap.size = qv1 + 1 := by rw [hW1, ← hz1]; simp
  have bw : Below (w).heap.size (w) w1 := by rw [hW1]; exact (Below.refl _ _).alloc (Nat.le_refl _) _
  have hb1 : Below w.heap.size w (w1) := hb0.trans (bw.mono hb0.size)
  have HBv1_1 : Hid ((w1).heap[qv1]? = some (.cells #[.int .i64 ma, .string pa, .slice oa na ca, .string ba] 29)) := by show _ = _; rw [hW1, ← hz1]; exact heap_alloc_new _ _
  clear hb0 bw hW1 hz1
  obtain ⟨qv2, hqv2⟩ : ∃ q, q = qv1 + 1 := ⟨_, rfl⟩
  obtain ⟨w2, hW2⟩ : ∃ W, W = (w1).alloc (.cells #[.int .i64 mb, .string pb, .slice ob nb cb, .string bb] 29) := ⟨_, rfl⟩
  have hz2 : (w1).heap.size = qv2 := by rw [hqv2]; exact hs1
  first | rw [← hW2, ← hqv2] | rw [← hW2]
  have hs2 : w2.heap.size = qv2 + 1 := by rw [hW2, ← hz2]; simp
  have bw : Below (w1).heap.size (w1) w2 := by rw [hW2]; exact (Below.refl _ _).alloc (Nat.le_refl _) _
  have hb2 : Below w.heap.size w (w2) := hb1.trans (bw.mono hb1.size)
  have HBv1_2 : Hid ((w2).heap[qv1]? = some (.cells #[.int .i64 ma, .string pa, .slice oa na ca, .string ba] 29)) := blk_below HBv1_1.out bw
  have HBv2_2 : Hid ((w2).heap[qv2]? = some (.cells #[.int .i64 mb, .string pb, .slice ob nb cb, .string bb] 29)) := by show _ = _; rw [hW2, ← hz2]; exact heap_alloc_new _ _
  clear hb1 HBv1_1 bw hW2 hz2
  clear hs2 hqv2 hs1 hqv1
  have cv1_0 : (w2).cell? ⟨qv1, 0, none⟩ = some (.int .i64 ma) := (cell_of HBv1_2.out 0).trans rfl
  have cv1_1 : (w2).cell? ⟨qv1, 1, none⟩ = some (.string pa) := (cell_of HBv1_2.out 1).trans rfl
  have cv1_2 : (w2).cell? ⟨qv1, 2, none⟩ = some (.slice oa na ca) := (cell_of HBv1_2.out 2).trans rfl
  have cv1_3 : (w2).cell? ⟨qv1, 3, none⟩ = some (.string ba) := (cell_of HBv1_2.out 3).trans rfl
  go_wp2_with fail
  refine (specReqOk_any ma pa _ ba na basea fsa _ (HVa.out _ hb2) (by omega) HSa.out HPMa.out HBMa.out).mono ?_
  rintro e w3 ⟨ra, rfl, hra, bw⟩
  have hb3 : Below w.heap.size w (w3) := hb2.trans (bw.mono hb2.size)
  have HBv1_3 : Hid ((w3).heap[qv1]? = some (.cells #[.int .i64 ma, .string pa, .slice oa na ca, .string ba] 29)) := blk_below HBv1_2.out bw
  have HBv2_3 : Hid ((w3).heap[qv2]? = some (.cells #[.int .i64 mb, .string pb, .slice ob nb cb, .string bb] 29)) := blk_below HBv2_2.out bw
  clear hb2 HBv1_2 HBv2_2 bw
  clear cv1_0 cv1_1 cv1_2 cv1_3
  cases ra with
  | false =>
    have HNra : Hid (¬ (ReqP ma pa fsa ba)) := fun h => nomatch hra.2 h
    clear hra
    go_wp2_with fail
    go_ret
    exact BoolIs.no (fun h => HNra.out h.1.1.1.1) hb3
  | true =>
    have HYra : Hid (ReqP ma pa fsa ba) := hra.1 rfl
    clear hra
    have cv2_0 : (w3).cell? ⟨qv2, 0, none⟩ = some (.int .i64 mb) := (cell_of HBv2_3.out 0).trans rfl
    have cv2_1 : (w3).cell? ⟨qv2, 1, none⟩ = some (.string pb) := (cell_of HBv2_3.out 1).trans rfl
    have cv2_2 : (w3).cell? ⟨qv2, 2, none⟩ = some (.slice ob nb cb) := (cell_of HBv2_3.out 2).trans rfl
    have cv2_3 : (w3).cell? ⟨qv2, 3, none⟩ = some (.string bb) := (cell_of HBv2_3.out 3).trans rfl
    go_wp2_with fail
    refine (specReqOk_any mb pb _ bb nb baseb fsb _ (HVb.out _ hb3) (by omega) HSb.out HPMb.out HBMb.out).mono ?_
    rintro e w4 ⟨rb, rfl, hrb, bw⟩
    have hb4 : Below w.heap.size w (w4) := hb3.trans (bw.mono hb3.size)
    have HBv1_4 : Hid ((w4).heap[qv1]? = some (.cells #[.int .i64 ma, .string pa, .slice oa na ca, .string ba] 29)) := blk_below HBv1_3.out bw
    have HBv2_4 : Hid ((w4).heap[qv2]? = some (.cells #[.int .i64 mb, .string pb, .slice ob nb cb, .string bb] 29)) := blk_below HBv2_3.out bw
    clear hb3 HBv1_3 HBv2_3 bw
    clear cv2_0 cv2_1 cv2_2 cv2_3
    cases rb with
    | false =>
      have HNrb : Hid (¬ (ReqP mb pb fsb bb)) := fun h => nomatch hrb.2 h
      clear hrb
      go_wp2_with fail
      go_ret
      exact BoolIs.no (fun h => HNrb.out h.1.2.1.1) hb4
    | true =>
      have HYrb : Hid (ReqP mb pb fsb bb) := hrb.1 rfl
      clear hrb
      by_cases hc1 : ma = 1
      · have hc1b : ((ma : Int) == (1 : Int)) = true := by simpa using hc1
        have hc1n : ((ma : Int) != (1 : Int)) = false := by simpa using hc1
        have HMEa : Hid ((ma = 1)) := hc1
        have hc1H : Hid (ma = 1) := hc1
        clear hc1
        by_cases hc2 : mb = 1
        · have hc2b : ((mb : Int) == (1 : Int)) = true := by simpa using hc2
          have hc2n : ((mb : Int) != (1 : Int)) = false := by simpa using hc2
          have HMEb : Hid ((mb = 1)) := hc2
          have hc2H : Hid (mb = 1) := hc2
          clear hc2
          have cv1_0 : (w4).cell? ⟨qv1, 0, none⟩ = some (.int .i64 ma) := (cell_of HBv1_4.out 0).trans rfl
          have cv1_1 : (w4).cell? ⟨qv1, 1, none⟩ = some (.string pa) := (cell_of HBv1_4.out 1).trans rfl
          have cv2_0 : (w4).cell? ⟨qv2, 0, none⟩ = some (.int .i64 mb) := (cell_of HBv2_4.out 0).trans rfl
          have cv2_1 : (w4).cell? ⟨qv2, 1, none⟩ = some (.string pb) := (cell_of HBv2_4.out 1).trans rfl
          by_cases hc3 : pa = pb
          · have hc3b : ((pa).toList == (pb).toList) = true := (text_beq _ _).2 hc3
            have HPP : Hid ((pa = pb)) := hc3
            clear hc3
            have cv1_2 : (w4).cell? ⟨qv1, 2, none⟩ = some (.slice oa na ca) := (cell_of HBv1_4.out 2).trans rfl
            have cv2_2 : (w4).cell? ⟨qv2, 2, none⟩ = some (.slice ob nb cb) := (cell_of HBv2_4.out 2).trans rfl
            go_wp2_with fail
            refine (l15Fields_any _ _ na nb _ _ fsa fsb _ (HVa.out _ hb4) (HVb.out _ hb4) (by omega) (by omega)).mono ?_
            rintro e w5 ⟨lf, rfl, hlf, bw⟩
            have hb5 : Below w.heap.size w (w5) := hb4.trans (bw.mono hb4.size)
            have HBv1_5 : Hid ((w5).heap[qv1]? = some (.cells #[.int .i64 ma, .string pa, .slice oa na ca, .string ba] 29)) := blk_below HBv1_4.out bw
            have HBv2_5 : Hid ((w5).heap[qv2]? = some (.cells #[.int .i64 mb, .string pb, .slice ob nb cb, .string bb] 29)) := blk_below HBv2_4.out bw
            clear hb4 HBv1_4 HBv2_4 bw
            clear cv1_0 cv1_1 cv2_0 cv2_1 cv1_2 cv2_2
            cases lf with
            | false =>
              have HNlf : Hid (¬ (fsa = fsb)) := fun h => nomatch hlf.2 h
              clear hlf
              go_wp2_with fail
              go_ret
              exact BoolIs.no (fun h => HNlf.out h.2.2) hb5
            | true =>
              have HYlf : Hid (fsa = fsb) := hlf.1 rfl
              clear hlf
              have cv1_2 : (w5).cell? ⟨qv1, 2, none⟩ = some (.slice oa na ca) := (cell_of HBv1_5.out 2).trans rfl
              go_wp2_with fail
              refine (HCCa.out _ hb5).mono ?_
              rintro e w6 ⟨rfl, bw⟩
              have hb6 : Below w.heap.size w (w6) := hb5.trans (bw.mono hb5.size)
              have HBv1_6 : Hid ((w6).heap[qv1]? = some (.cells #[.int .i64 ma, .string pa, .slice oa na ca, .string ba] 29)) := blk_below HBv1_5.out bw
              have HBv2_6 : Hid ((w6).heap[qv2]? = some (.cells #[.int .i64 mb, .string pb, .slice ob nb cb, .string bb] 29)) := blk_below HBv2_5.out bw
              clear hb5 HBv1_5 HBv2_5 bw
              clear cv1_2
              cases xa0 with
              | false =>
                have HXNa : Hid ((ccR (getV fsa ccName)).ns = false) := by show _ = _; rw [HCKa.out]
                go_wp2_with fail
                go_ret
                exact BoolIs.yes ⟨⟨⟨⟨HYra.out, HMEa.out⟩, HXNa.out⟩, ⟨HYrb.out, HMEb.out⟩, by rw [← HYlf.out]; exact HXNa.out⟩, HPP.out, HYlf.out⟩ hb6
              | true =>
                have HXNa : Hid ((ccR (getV fsa ccName)).ns = true) := by show _ = _; rw [HCKa.out]
                go_wp2_with fail
                go_ret
                exact BoolIs.no (fun h => (by have h1 := h.1.1.2; rw [HXNa.out] at h1; exact absurd h1 (by decide))) hb6
          · have hc3b : ((pa).toList == (pb).toList) = false := text_beq_no hc3
            have HPP : Hid (¬ (pa = pb)) := hc3
            clear hc3
            go_wp2_with fail
            go_ret
            exact BoolIs.no (fun h => HPP.out h.2.1) hb4
        · have hc2b : ((mb : Int) == (1 : Int)) = false := by simpa using hc2
          have hc2n : ((mb : Int) != (1 : Int)) = true := by simpa using hc2
          have HMEb : Hid (¬ (mb = 1)) := hc2
          have hc2H : Hid (¬ (mb = 1)) := hc2
          clear hc2
          have cv1_0 : (w4).cell? ⟨qv1, 0, none⟩ = some (.int .i64 ma) := (cell_of HBv1_4.out 0).trans rfl
          have cv2_0 : (w4).cell? ⟨qv2, 0, none⟩ = some (.int .i64 mb) := (cell_of HBv2_4.out 0).trans rfl
          go_wp2_with fail
          go_ret
          exact BoolIs.no (fun h => HMEb.out h.1.2.1.2) hb4
      · have hc1b : ((ma : Int) == (1 : Int)) = false := by simpa using hc1
        have hc1n : ((ma : Int) != (1 : Int)) = true := by simpa using hc1
        have HMEa : Hid (¬ (ma = 1)) := hc1
        have hc1H : Hid (¬ (ma = 1)) := hc1
        clear hc1
        have cv1_0 : (w4).cell? ⟨qv1, 0, none⟩ = some (.int .i64 ma) := (cell_of HBv1_4.out 0).trans rfl
        go_wp2_with fail
        go_ret
        exact BoolIs.no (fun h => HMEa.out h.1.1.1.2) hb4

end Go.Proofs.Ytmcmeeibogkpaaa

namespace Go.Proofs.Ytmcmeeibogkpaaa
open Go.RowKit
open Go.Lib hiding intOf

set_option maxHeartbeats 8000000 in
set_option maxRecDepth 100000 in
theorem equalFld_eq (v1 v2 : Value) (n b1 b2 : Nat) (fs gs : List (ByteArray × ByteArray)) (w : World) (h1 : FieldsV w b1 v1 n fs) (h2 : FieldsV w b2 v2 n gs) (hn : n ≤ 1073741824) :
    Calls Try.prog 15 #[v1, v2] w fun e w' => BoolIs (fs = gs) w e w' := by
  classical
  have HL1 : Hid (fs.length = n) := h1.len
  have HL2 : Hid (gs.length = n) := h2.len
  obtain ⟨oa, ca, rfl, ra⟩ := h1.slice
  obtain ⟨ob, cb, rfl, rb⟩ := h2.slice
  have HRA : Hid (∀ k, k < n → ∃ g, oa = some ⟨g, 0, none⟩ ∧ FieldRow b1 w g n ca fs) := ra
  have HRB : Hid (∀ k, k < n → ∃ g, ob = some ⟨g, 0, none⟩ ∧ FieldRow b2 w g n cb gs) := rb
  clear ra rb h1 h2
  have hgd := guardFld
  have hnn : ((n : Int) != (n : Int)) = false := by simp
  go_enter Try.func15, Try.ntmps15
  go_wp2
  go_loopw [13] (fun i wr => ∃ k : Nat, k ≤ n ∧ i = .int .i64 (k : Int) ∧ Below w.heap.size w wr ∧ Hid (SameTo fs gs k)) (fun i _ => n - (intOf i).toNat)
  case atStart => exact ⟨0, Nat.zero_le _, rfl, Below.refl _ _, SameTo.zero _ _⟩
  case round =>
    obtain ⟨k, hk, rfl, hbw, HST⟩ := hrel
    by_cases hlt : k < n
    · · have hlt2 : (k : Int) < (n : Int) := by omega
        obtain ⟨g1, hoa, r1⟩ := HRA.out k hlt
        obtain ⟨g2, hob, r2⟩ := HRB.out k hlt
        subst hoa hob
        obtain ⟨na, hna⟩ : ∃ y, y = nameAt fs k := ⟨_, rfl⟩
        obtain ⟨va, hva⟩ : ∃ y, y = valAt fs k := ⟨_, rfl⟩
        obtain ⟨nb, hnb⟩ : ∃ y, y = nameAt gs k := ⟨_, rfl⟩
        obtain ⟨vb, hvb⟩ : ∃ y, y = valAt gs k := ⟨_, rfl⟩
        have ha := (r1.below hbw r1.lt).name k hlt
        have hb := (r1.below hbw r1.lt).val k hlt
        have hc := (r2.below hbw r2.lt).name k hlt
        have hd := (r2.below hbw r2.lt).val k hlt
        rw [← hna] at ha
        rw [← hva] at hb
        rw [← hnb] at hc
        rw [← hvb] at hd
        by_cases he : na = nb ∧ va = vb
        · have HS2 : Hid (SameTo fs gs (k + 1)) := HST.out.step (by rw [← hna, ← hnb]; exact he.1) (by rw [← hva, ← hvb]; exact he.2)
          obtain ⟨e1, e2⟩ := he
          subst e1 e2
          have hq : ∀ W : World, (binOp .neq 40 (.agg #[.string na, .string va]) (.agg #[.string na, .string va])).run Try.prog W = .ok (.bool false) W := fun W => by rw [neqFld]; simp
          clear hna hva hnb hvb r1 r2 HST
          go_wp2
          go_region
          go_wp2
          go_roundw
          case rel => exact ⟨k + 1, by omega, by go_num, hbw.drew, HS2⟩
          case measure => simp [intOf]; omega
        · have HNE : Hid (¬ fs = gs) := fun e => he ⟨by rw [hna, hnb, e], by rw [hva, hvb, e]⟩
          have hq : ∀ W : World, (binOp .neq 40 (.agg #[.string na, .string va]) (.agg #[.string nb, .string vb])).run Try.prog W = .ok (.bool true) W := fun W => by rw [neqFld, decide_eq_false he]; rfl
          clear hna hva hnb hvb r1 r2 HST he
          go_wp2
          go_region
          go_wp2
          go_ret
          exact BoolIs.no HNE.out hbw.drew
    · have HEQ : Hid (fs = gs) := by
        have h := HST.out
        rw [show k = n by omega] at h
        exact h.all HL1.out HL2.out
      go_wp2
      go_ret
      exact BoolIs.yes HEQ.out hbw
set_option maxHeartbeats 8000000 in
set_option maxRecDepth 100000 in
theorem equalFld_any (v1 v2 : Value) (n m b1 b2 : Nat) (fs gs : List (ByteArray × ByteArray)) (w : World) (h1 : FieldsV w b1 v1 n fs) (h2 : FieldsV w b2 v2 m gs) (hn : n ≤ 1073741824) (hm : m ≤ 1073741824) :
    Calls Try.prog 15 #[v1, v2] w fun e w' => BoolIs (fs = gs) w e w' := by
  by_cases hnm : n = m
  · subst hnm
    exact equalFld_eq v1 v2 n b1 b2 fs gs w h1 h2 hn
  · have HNE : Hid (¬ fs = gs) := fun e => by
      have e1 := h1.len
      have e2 := h2.len
      rw [e] at e1
      omega
    have hne : ((n : Int) != (m : Int)) = true := by simpa using (show ¬ (n : Int) = (m : Int) by omega)
    obtain ⟨oa, ca, rfl, _⟩ := h1.slice
    obtain ⟨ob, cb, rfl, _⟩ := h2.slice
    go_enter Try.func15, Try.ntmps15
    go_wp2
    go_ret
    exact BoolIs.no HNE.out (Below.refl _ _)

end Go.Proofs.Ytmcmeeibogkpaaa

namespace Go.Proofs.Ytmcmeeibogkpaaa
open Go.RowKit
open Go.Lib hiding intOf

/-- What one word says that is no age. -/
def saidF (x : ByteArray) : CcD := if x = nsW then ⟨true, false, false, false, false, 0⟩ else if x = ncW then ⟨false, true, false, false, false, 0⟩ else if x = prW then ⟨false, false, true, false, false, 0⟩ else if x = muW then ⟨false, false, false, true, false, 0⟩ else cc0
/-- What one word says. -/
noncomputable def saidB (x : ByteArray) : CcD := match ageOf x with
  | some n => ⟨false, false, false, false, true, n⟩
  | none => saidF x
def leastA (a b : CcD) : Int := if a.ha = false then b.age else if b.ha = false then a.age else min a.age b.age
def toge (a b : CcD) : CcD := ⟨a.ns || b.ns, a.nc || b.nc, a.pr || b.pr, a.mu || b.mu, a.ha || b.ha, leastA a b⟩
theorem ageOf_word {x : ByteArray} (h : x = nsW ∨ x = ncW ∨ x = prW ∨ x = muW) : ageOf x = none := by
  unfold ageOf
  rw [if_neg]
  rcases h with rfl | rfl | rfl | rfl <;> decide
theorem step_toge {c : CcD} (h : c.fit) (x : ByteArray) : ccStep c x = toge c (saidB x) := by
  obtain ⟨a0, a1, a2, a3, a4, ax⟩ := c
  have h3 : a4 = false → ax = 0 := h.2.2
  unfold ccStep saidB
  by_cases h0 : x = nsW
  · rw [if_pos h0, ageOf_word (.inl h0)]
    unfold saidF
    rw [if_pos h0]
    cases a4 <;> simp [toge, leastA] <;> exact h3 rfl
  rw [if_neg h0]
  by_cases h1 : x = ncW
  · rw [if_pos h1, ageOf_word (.inr (.inl h1))]
    unfold saidF
    rw [if_neg h0, if_pos h1]
    cases a4 <;> simp [toge, leastA] <;> exact h3 rfl
  rw [if_neg h1]
  by_cases h2 : x = prW
  · rw [if_pos h2, ageOf_word (.inr (.inr (.inl h2)))]
    unfold saidF
    rw [if_neg h0, if_neg h1, if_pos h2]
    cases a4 <;> simp [toge, leastA] <;> exact h3 rfl
  rw [if_neg h2]
  by_cases h4 : x = muW
  · rw [if_pos h4, ageOf_word (.inr (.inr (.inr h4)))]
    unfold saidF
    rw [if_neg h0, if_neg h1, if_neg h2, if_pos h4]
    cases a4 <;> simp [toge, leastA] <;> exact h3 rfl
  rw [if_neg h4]
  cases ageOf x with
  | none =>
    dsimp only
    unfold saidF
    rw [if_neg h0, if_neg h1, if_neg h2, if_neg h4]
    cases a4 <;> simp [toge, leastA, cc0] <;> exact h3 rfl
  | some n => cases a4 <;> simp [toge, leastA]

theorem putCc_other {w : World} {g j : Nat} {d : CcD} (h : j ≠ g) : (putCc w g d).heap[j]? = w.heap[j]? := by
  unfold putCc
  rw [heap_setCell_other _ _ j _ h, heap_setCell_other _ _ j _ h, heap_setCell_other _ _ j _ h, heap_setCell_other _ _ j _ h, heap_setCell_other _ _ j _ h, heap_setCell_other _ _ j _ h]
/-- 'wpAnyH_take', its place named. -/
theorem wpAnyH_takeD {P : Program} {ops : Array Oper} {Q : Exit → Act → World → Prop} {md : Region.Mode} {S : World → Prop} {i : Nat} {oi : Oper} {v : Value} {fuel : Nat} {listed : Array Bool} {a : Act} {w : World} (d : Option Tmp) (hi : ops[i]? = some oi) (hd : oi.dst = d)
    (hs : Region.noSelect ops = true) (hf : Region.free md ops listed i = true) (hr : (Region.ready md ops listed).contains i = true)
    (hQ : ∀ c a w, Q (.panic c) (a.put oi.dst v) w → Q (.panic c) a w) (hy : YieldsIf P ops S oi v a) (hS : S w)
    (h : wpAnyH P md ops Q S fuel (listed.setIfInBounds i true) (a.put d v) w) : wpAnyH P md ops Q S (fuel + 1) listed a w :=
  wpAnyH_take hi hs hf hr hQ hy hS (hd ▸ h)
theorem yieldsIf_guard {P : Program} {ops : Array Oper} {S : World → Prop} {o : Oper} {v : Value} {a : Act} (g : Bool) (hw : Region.wanted o (yielded ops a.tmps) = g) (hv : g = true → ∀ w, S w → (execOp a.eval o).run P w = .ok (.value v) w) : YieldsIf P ops S o (if g = true then v else undef) a := by
  cases g with
  | true => exact Or.inl ⟨hw, by simpa using hv rfl⟩
  | false => exact Or.inr ⟨hw, by simp⟩

set_option maxHeartbeats 1000000 in
theorem leastAge_any (a b : CcD) (w : World) :
    Calls Try.prog 54 #[a.v, b.v] w fun e w' => e = .returned (.int .i64 (leastA a b)) ∧ Below w.heap.size w w' := by
  obtain ⟨a0, a1, a2, a3, a4, ax⟩ := a
  obtain ⟨b0, b1, b2, b3, b4, bx⟩ := b
  have HB : Hid (∀ o1 o2, Below w.heap.size w ((w.alloc o1).alloc o2)) := fun o1 o2 => ((Below.refl _ w).alloc (Nat.le_refl _) _).alloc (by simp) _
  have HE : Hid (leastA ⟨a0, a1, a2, a3, a4, ax⟩ ⟨b0, b1, b2, b3, b4, bx⟩ = if a4 = false then bx else if b4 = false then ax else min ax bx) := rfl
  show Calls _ _ #[.agg #[.bool a0, .bool a1, .bool a2, .bool a3, .bool a4, .int .i64 ax], .agg #[.bool b0, .bool b1, .bool b2, .bool b3, .bool b4, .int .i64 bx]] _ _
  cases a4 with
  | false =>
    go_enter Try.func54, Try.ntmps54
    go_wp2
    go_ret
    exact ⟨by rw [HE.out]; rfl, HB.out _ _⟩
  | true =>
    cases b4 with
    | false =>
      go_enter Try.func54, Try.ntmps54
      go_wp2
      go_ret
      exact ⟨by rw [HE.out]; rfl, HB.out _ _⟩
    | true =>
      go_enter Try.func54, Try.ntmps54
      go_wp2
      go_ret
      exact ⟨by rw [HE.out]; rfl, HB.out _ _⟩

set_option maxHeartbeats 8000000 in
set_option maxRecDepth 100000 in
theorem together_any (a b : CcD) (w : World) :
    Calls Try.prog 44 #[a.v, b.v] w fun e w' => e = .returned (toge a b).v ∧ Below w.heap.size w w' := by
  obtain ⟨a0, a1, a2, a3, a4, ax⟩ := a
  obtain ⟨b0, b1, b2, b3, b4, bx⟩ := b
  show Calls _ _ #[.agg #[.bool a0, .bool a1, .bool a2, .bool a3, .bool a4, .int .i64 ax], .agg #[.bool b0, .bool b1, .bool b2, .bool b3, .bool b4, .int .i64 bx]] _ _
  obtain ⟨H, hH⟩ : ∃ H, H = w.heap.size := ⟨_, rfl⟩
  have HW : Hid (w.heap.size = H) := hH.symm
  obtain ⟨W1, hW1⟩ : ∃ W, W = ((w.alloc (.cells #[.bool a0, .bool a1, .bool a2, .bool a3, .bool a4, .int .i64 ax] 36)).alloc (.cells #[.bool b0, .bool b1, .bool b2, .bool b3, .bool b4, .int .i64 bx] 36)).alloc (.cells #[.bool false, .bool false, .bool false, .bool false, .bool false, .int .i64 0] 36) := ⟨_, rfl⟩
  have HS1 : CcAt W1 H (⟨a0, a1, a2, a3, a4, ax⟩ : CcD) ∧ CcAt W1 (H + 1) (⟨b0, b1, b2, b3, b4, bx⟩ : CcD) ∧ CcAt W1 (H + 1 + 1) cc0 ∧ Below H w W1 := by
    have e1 := heap_alloc_new w (.cells #[.bool a0, .bool a1, .bool a2, .bool a3, .bool a4, .int .i64 ax] 36)
    have e2 := heap_alloc_new (w.alloc (.cells #[.bool a0, .bool a1, .bool a2, .bool a3, .bool a4, .int .i64 ax] 36)) (.cells #[.bool b0, .bool b1, .bool b2, .bool b3, .bool b4, .int .i64 bx] 36)
    have e3 := heap_alloc_new ((w.alloc (.cells #[.bool a0, .bool a1, .bool a2, .bool a3, .bool a4, .int .i64 ax] 36)).alloc (.cells #[.bool b0, .bool b1, .bool b2, .bool b3, .bool b4, .int .i64 bx] 36)) (.cells #[.bool false, .bool false, .bool false, .bool false, .bool false, .int .i64 0] 36)
    rw [World.size_alloc] at e2
    rw [World.size_alloc, World.size_alloc] at e3
    refine ⟨?_, ?_, ?_, ?_⟩
    · unfold CcAt; rw [hW1, hH, heap_alloc_old _ _ (by simp; omega), heap_alloc_old _ _ (by simp)]; exact e1
    · unfold CcAt; rw [hW1, hH, heap_alloc_old _ _ (by simp)]; exact e2
    · unfold CcAt; rw [hW1, hH]; exact e3
    · rw [hW1, hH]; exact (((Below.refl _ w).alloc (Nat.le_refl _) _).alloc (by simp) _).alloc (by simp; omega) _
  have HW1 : Hid (((w.alloc (.cells #[.bool a0, .bool a1, .bool a2, .bool a3, .bool a4, .int .i64 ax] 36)).alloc (.cells #[.bool b0, .bool b1, .bool b2, .bool b3, .bool b4, .int .i64 bx] 36)).alloc (.cells #[.bool false, .bool false, .bool false, .bool false, .bool false, .int .i64 0] 36) = W1) := hW1.symm
  have HL := leastAge_any (⟨a0, a1, a2, a3, a4, ax⟩ : CcD) (⟨b0, b1, b2, b3, b4, bx⟩ : CcD)
  dsimp only [CcD.v] at HL
  obtain ⟨m, hm⟩ : ∃ m, m = leastA (⟨a0, a1, a2, a3, a4, ax⟩ : CcD) (⟨b0, b1, b2, b3, b4, bx⟩ : CcD) := ⟨_, rfl⟩
  rw [← hm] at HL
  have HLL : Hid _ := HL
  have HM : Hid (m = leastA (⟨a0, a1, a2, a3, a4, ax⟩ : CcD) (⟨b0, b1, b2, b3, b4, bx⟩ : CcD)) := hm
  clear hW1 HL hm
  go_enter Try.func44, Try.ntmps44
  go_upto_region 1 with fail
  rw [HW1.out, ← hH]
  clear hH HW1
  refine wp_region_held_drew (S := fun W => CcAt W H (⟨a0, a1, a2, a3, a4, ax⟩ : CcD) ∧ CcAt W (H + 1) (⟨b0, b1, b2, b3, b4, bx⟩ : CcD) ∧ (∃ c, CcAt W (H + 1 + 1) c) ∧ Below H w W) (by kernel_rfl) ⟨HS1.1, HS1.2.1, ⟨_, HS1.2.2.1⟩, HS1.2.2.2.drew⟩ (fun hHeld => ?_)
  clear HS1
  refine wpAnyH_takeD (i := 0) (v := .pointer (some ⟨H, 0, none⟩)) (some 5) rfl rfl (by kernel_rfl) (by kernel_rfl) (by kernel_rfl) (fun _ _ _ h => h) (Or.inl ⟨by rfl, by intro W hSW; obtain ⟨⟨p0, p1, p2, p3, p4, p5⟩, ⟨r0, r1, r2, r3, r4, r5⟩⟩ := And.intro hSW.1.cells hSW.2.1.cells; dsimp only at p0 p1 p2 p3 p4 p5 r0 r1 r2 r3 r4 r5; go_simp⟩) (by assumption) ?_
  simp only [Act.put, List.setIfInBounds_toArray, List.set_cons_zero, List.set_cons_succ]
  refine wpAnyH_takeD (i := 1) (v := .bool a0) (some 6) rfl rfl (by kernel_rfl) (by kernel_rfl) (by kernel_rfl) (fun _ _ _ h => h) (Or.inl ⟨by rfl, by intro W hSW; obtain ⟨⟨p0, p1, p2, p3, p4, p5⟩, ⟨r0, r1, r2, r3, r4, r5⟩⟩ := And.intro hSW.1.cells hSW.2.1.cells; dsimp only at p0 p1 p2 p3 p4 p5 r0 r1 r2 r3 r4 r5; go_simp⟩) (by assumption) ?_
  simp only [Act.put, List.setIfInBounds_toArray, List.set_cons_zero, List.set_cons_succ]
  refine wpAnyH_takeD (i := 2) (v := .bool a0) (some 7) rfl rfl (by kernel_rfl) (by kernel_rfl) (by kernel_rfl) (fun _ _ _ h => h) (Or.inl ⟨by rfl, by intro W hSW; obtain ⟨⟨p0, p1, p2, p3, p4, p5⟩, ⟨r0, r1, r2, r3, r4, r5⟩⟩ := And.intro hSW.1.cells hSW.2.1.cells; dsimp only at p0 p1 p2 p3 p4 p5 r0 r1 r2 r3 r4 r5; go_simp⟩) (by assumption) ?_
  simp only [Act.put, List.setIfInBounds_toArray, List.set_cons_zero, List.set_cons_succ]
  refine wpAnyH_takeD (i := 3) (v := if (!a0) = true then .pointer (some ⟨H + 1, 0, none⟩) else undef) (some 8) rfl rfl (by kernel_rfl) (by kernel_rfl) (by kernel_rfl) (fun _ _ _ h => h) (yieldsIf_guard (!a0) (by cases a0 <;> rfl) (fun hg => by cases a0 with | true => cases hg | false => (intro W hSW; obtain ⟨⟨p0, p1, p2, p3, p4, p5⟩, ⟨r0, r1, r2, r3, r4, r5⟩⟩ := And.intro hSW.1.cells hSW.2.1.cells; dsimp only at p0 p1 p2 p3 p4 p5 r0 r1 r2 r3 r4 r5; go_simp))) (by assumption) ?_
  simp only [Act.put, List.setIfInBounds_toArray, List.set_cons_zero, List.set_cons_succ]
  refine wpAnyH_takeD (i := 4) (v := if (!a0) = true then .bool b0 else undef) (some 9) rfl rfl (by kernel_rfl) (by kernel_rfl) (by kernel_rfl) (fun _ _ _ h => h) (yieldsIf_guard (!a0) (by cases a0 <;> rfl) (fun hg => by cases a0 with | true => cases hg | false => (intro W hSW; obtain ⟨⟨p0, p1, p2, p3, p4, p5⟩, ⟨r0, r1, r2, r3, r4, r5⟩⟩ := And.intro hSW.1.cells hSW.2.1.cells; dsimp only at p0 p1 p2 p3 p4 p5 r0 r1 r2 r3 r4 r5; go_simp))) (by assumption) ?_
  simp only [Act.put, List.setIfInBounds_toArray, List.set_cons_zero, List.set_cons_succ]
  refine wpAnyH_takeD (i := 5) (v := .bool (a0 || b0)) (some 10) rfl rfl (by kernel_rfl) (by kernel_rfl) (by kernel_rfl) (fun _ _ _ h => h) (Or.inl ⟨by rfl, by intro W hSW; cases a0 <;> go_simp⟩) (by assumption) ?_
  simp only [Act.put, List.setIfInBounds_toArray, List.set_cons_zero, List.set_cons_succ]
  generalize (if (!a0) = true then Value.pointer (some ⟨H + 1, 0, none⟩) else undef) = z0
  generalize (if (!a0) = true then Value.bool b0 else undef) = y0
  refine wpAnyH_takeD (i := 6) (v := .pointer (some ⟨H, 1, none⟩)) (some 11) rfl rfl (by kernel_rfl) (by kernel_rfl) (by kernel_rfl) (fun _ _ _ h => h) (Or.inl ⟨by rfl, by intro W hSW; obtain ⟨⟨p0, p1, p2, p3, p4, p5⟩, ⟨r0, r1, r2, r3, r4, r5⟩⟩ := And.intro hSW.1.cells hSW.2.1.cells; dsimp only at p0 p1 p2 p3 p4 p5 r0 r1 r2 r3 r4 r5; go_simp⟩) (by assumption) ?_
  simp only [Act.put, List.setIfInBounds_toArray, List.set_cons_zero, List.set_cons_succ]
  refine wpAnyH_takeD (i := 7) (v := .bool a1) (some 12) rfl rfl (by kernel_rfl) (by kernel_rfl) (by kernel_rfl) (fun _ _ _ h => h) (Or.inl ⟨by rfl, by intro W hSW; obtain ⟨⟨p0, p1, p2, p3, p4, p5⟩, ⟨r0, r1, r2, r3, r4, r5⟩⟩ := And.intro hSW.1.cells hSW.2.1.cells; dsimp only at p0 p1 p2 p3 p4 p5 r0 r1 r2 r3 r4 r5; go_simp⟩) (by assumption) ?_
  simp only [Act.put, List.setIfInBounds_toArray, List.set_cons_zero, List.set_cons_succ]
  refine wpAnyH_takeD (i := 8) (v := .bool a1) (some 13) rfl rfl (by kernel_rfl) (by kernel_rfl) (by kernel_rfl) (fun _ _ _ h => h) (Or.inl ⟨by rfl, by intro W hSW; obtain ⟨⟨p0, p1, p2, p3, p4, p5⟩, ⟨r0, r1, r2, r3, r4, r5⟩⟩ := And.intro hSW.1.cells hSW.2.1.cells; dsimp only at p0 p1 p2 p3 p4 p5 r0 r1 r2 r3 r4 r5; go_simp⟩) (by assumption) ?_
  simp only [Act.put, List.setIfInBounds_toArray, List.set_cons_zero, List.set_cons_succ]
  refine wpAnyH_takeD (i := 9) (v := if (!a1) = true then .pointer (some ⟨H + 1, 1, none⟩) else undef) (some 14) rfl rfl (by kernel_rfl) (by kernel_rfl) (by kernel_rfl) (fun _ _ _ h => h) (yieldsIf_guard (!a1) (by cases a1 <;> rfl) (fun hg => by cases a1 with | true => cases hg | false => (intro W hSW; obtain ⟨⟨p0, p1, p2, p3, p4, p5⟩, ⟨r0, r1, r2, r3, r4, r5⟩⟩ := And.intro hSW.1.cells hSW.2.1.cells; dsimp only at p0 p1 p2 p3 p4 p5 r0 r1 r2 r3 r4 r5; go_simp))) (by assumption) ?_
  simp only [Act.put, List.setIfInBounds_toArray, List.set_cons_zero, List.set_cons_succ]
  refine wpAnyH_takeD (i := 10) (v := if (!a1) = true then .bool b1 else undef) (some 15) rfl rfl (by kernel_rfl) (by kernel_rfl) (by kernel_rfl) (fun _ _ _ h => h) (yieldsIf_guard (!a1) (by cases a1 <;> rfl) (fun hg => by cases a1 with | true => cases hg | false => (intro W hSW; obtain ⟨⟨p0, p1, p2, p3, p4, p5⟩, ⟨r0, r1, r2, r3, r4, r5⟩⟩ := And.intro hSW.1.cells hSW.2.1.cells; dsimp only at p0 p1 p2 p3 p4 p5 r0 r1 r2 r3 r4 r5; go_simp))) (by assumption) ?_
  simp only [Act.put, List.setIfInBounds_toArray, List.set_cons_zero, List.set_cons_succ]
  refine wpAnyH_takeD (i := 11) (v := .bool (a1 || b1)) (some 16) rfl rfl (by kernel_rfl) (by kernel_rfl) (by kernel_rfl) (fun _ _ _ h => h) (Or.inl ⟨by rfl, by intro W hSW; cases a1 <;> go_simp⟩) (by assumption) ?_
  simp only [Act.put, List.setIfInBounds_toArray, List.set_cons_zero, List.set_cons_succ]
  generalize (if (!a1) = true then Value.pointer (some ⟨H + 1, 1, none⟩) else undef) = z1
  generalize (if (!a1) = true then Value.bool b1 else undef) = y1
  refine wpAnyH_takeD (i := 12) (v := .pointer (some ⟨H, 2, none⟩)) (some 17) rfl rfl (by kernel_rfl) (by kernel_rfl) (by kernel_rfl) (fun _ _ _ h => h) (Or.inl ⟨by rfl, by intro W hSW; obtain ⟨⟨p0, p1, p2, p3, p4, p5⟩, ⟨r0, r1, r2, r3, r4, r5⟩⟩ := And.intro hSW.1.cells hSW.2.1.cells; dsimp only at p0 p1 p2 p3 p4 p5 r0 r1 r2 r3 r4 r5; go_simp⟩) (by assumption) ?_
  simp only [Act.put, List.setIfInBounds_toArray, List.set_cons_zero, List.set_cons_succ]
  refine wpAnyH_takeD (i := 13) (v := .bool a2) (some 18) rfl rfl (by kernel_rfl) (by kernel_rfl) (by kernel_rfl) (fun _ _ _ h => h) (Or.inl ⟨by rfl, by intro W hSW; obtain ⟨⟨p0, p1, p2, p3, p4, p5⟩, ⟨r0, r1, r2, r3, r4, r5⟩⟩ := And.intro hSW.1.cells hSW.2.1.cells; dsimp only at p0 p1 p2 p3 p4 p5 r0 r1 r2 r3 r4 r5; go_simp⟩) (by assumption) ?_
  simp only [Act.put, List.setIfInBounds_toArray, List.set_cons_zero, List.set_cons_succ]
  refine wpAnyH_takeD (i := 14) (v := .bool a2) (some 19) rfl rfl (by kernel_rfl) (by kernel_rfl) (by kernel_rfl) (fun _ _ _ h => h) (Or.inl ⟨by rfl, by intro W hSW; obtain ⟨⟨p0, p1, p2, p3, p4, p5⟩, ⟨r0, r1, r2, r3, r4, r5⟩⟩ := And.intro hSW.1.cells hSW.2.1.cells; dsimp only at p0 p1 p2 p3 p4 p5 r0 r1 r2 r3 r4 r5; go_simp⟩) (by assumption) ?_
  simp only [Act.put, List.setIfInBounds_toArray, List.set_cons_zero, List.set_cons_succ]
  refine wpAnyH_takeD (i := 15) (v := if (!a2) = true then .pointer (some ⟨H + 1, 2, none⟩) else undef) (some 20) rfl rfl (by kernel_rfl) (by kernel_rfl) (by kernel_rfl) (fun _ _ _ h => h) (yieldsIf_guard (!a2) (by cases a2 <;> rfl) (fun hg => by cases a2 with | true => cases hg | false => (intro W hSW; obtain ⟨⟨p0, p1, p2, p3, p4, p5⟩, ⟨r0, r1, r2, r3, r4, r5⟩⟩ := And.intro hSW.1.cells hSW.2.1.cells; dsimp only at p0 p1 p2 p3 p4 p5 r0 r1 r2 r3 r4 r5; go_simp))) (by assumption) ?_
  simp only [Act.put, List.setIfInBounds_toArray, List.set_cons_zero, List.set_cons_succ]
  refine wpAnyH_takeD (i := 16) (v := if (!a2) = true then .bool b2 else undef) (some 21) rfl rfl (by kernel_rfl) (by kernel_rfl) (by kernel_rfl) (fun _ _ _ h => h) (yieldsIf_guard (!a2) (by cases a2 <;> rfl) (fun hg => by cases a2 with | true => cases hg | false => (intro W hSW; obtain ⟨⟨p0, p1, p2, p3, p4, p5⟩, ⟨r0, r1, r2, r3, r4, r5⟩⟩ := And.intro hSW.1.cells hSW.2.1.cells; dsimp only at p0 p1 p2 p3 p4 p5 r0 r1 r2 r3 r4 r5; go_simp))) (by assumption) ?_
  simp only [Act.put, List.setIfInBounds_toArray, List.set_cons_zero, List.set_cons_succ]
  refine wpAnyH_takeD (i := 17) (v := .bool (a2 || b2)) (some 22) rfl rfl (by kernel_rfl) (by kernel_rfl) (by kernel_rfl) (fun _ _ _ h => h) (Or.inl ⟨by rfl, by intro W hSW; cases a2 <;> go_simp⟩) (by assumption) ?_
  simp only [Act.put, List.setIfInBounds_toArray, List.set_cons_zero, List.set_cons_succ]
  generalize (if (!a2) = true then Value.pointer (some ⟨H + 1, 2, none⟩) else undef) = z2
  generalize (if (!a2) = true then Value.bool b2 else undef) = y2
  refine wpAnyH_takeD (i := 18) (v := .pointer (some ⟨H, 3, none⟩)) (some 23) rfl rfl (by kernel_rfl) (by kernel_rfl) (by kernel_rfl) (fun _ _ _ h => h) (Or.inl ⟨by rfl, by intro W hSW; obtain ⟨⟨p0, p1, p2, p3, p4, p5⟩, ⟨r0, r1, r2, r3, r4, r5⟩⟩ := And.intro hSW.1.cells hSW.2.1.cells; dsimp only at p0 p1 p2 p3 p4 p5 r0 r1 r2 r3 r4 r5; go_simp⟩) (by assumption) ?_
  simp only [Act.put, List.setIfInBounds_toArray, List.set_cons_zero, List.set_cons_succ]
  refine wpAnyH_takeD (i := 19) (v := .bool a3) (some 24) rfl rfl (by kernel_rfl) (by kernel_rfl) (by kernel_rfl) (fun _ _ _ h => h) (Or.inl ⟨by rfl, by intro W hSW; obtain ⟨⟨p0, p1, p2, p3, p4, p5⟩, ⟨r0, r1, r2, r3, r4, r5⟩⟩ := And.intro hSW.1.cells hSW.2.1.cells; dsimp only at p0 p1 p2 p3 p4 p5 r0 r1 r2 r3 r4 r5; go_simp⟩) (by assumption) ?_
  simp only [Act.put, List.setIfInBounds_toArray, List.set_cons_zero, List.set_cons_succ]
  refine wpAnyH_takeD (i := 20) (v := .bool a3) (some 25) rfl rfl (by kernel_rfl) (by kernel_rfl) (by kernel_rfl) (fun _ _ _ h => h) (Or.inl ⟨by rfl, by intro W hSW; obtain ⟨⟨p0, p1, p2, p3, p4, p5⟩, ⟨r0, r1, r2, r3, r4, r5⟩⟩ := And.intro hSW.1.cells hSW.2.1.cells; dsimp only at p0 p1 p2 p3 p4 p5 r0 r1 r2 r3 r4 r5; go_simp⟩) (by assumption) ?_
  simp only [Act.put, List.setIfInBounds_toArray, List.set_cons_zero, List.set_cons_succ]
  refine wpAnyH_takeD (i := 21) (v := if (!a3) = true then .pointer (some ⟨H + 1, 3, none⟩) else undef) (some 26) rfl rfl (by kernel_rfl) (by kernel_rfl) (by kernel_rfl) (fun _ _ _ h => h) (yieldsIf_guard (!a3) (by cases a3 <;> rfl) (fun hg => by cases a3 with | true => cases hg | false => (intro W hSW; obtain ⟨⟨p0, p1, p2, p3, p4, p5⟩, ⟨r0, r1, r2, r3, r4, r5⟩⟩ := And.intro hSW.1.cells hSW.2.1.cells; dsimp only at p0 p1 p2 p3 p4 p5 r0 r1 r2 r3 r4 r5; go_simp))) (by assumption) ?_
  simp only [Act.put, List.setIfInBounds_toArray, List.set_cons_zero, List.set_cons_succ]
  refine wpAnyH_takeD (i := 22) (v := if (!a3) = true then .bool b3 else undef) (some 27) rfl rfl (by kernel_rfl) (by kernel_rfl) (by kernel_rfl) (fun _ _ _ h => h) (yieldsIf_guard (!a3) (by cases a3 <;> rfl) (fun hg => by cases a3 with | true => cases hg | false => (intro W hSW; obtain ⟨⟨p0, p1, p2, p3, p4, p5⟩, ⟨r0, r1, r2, r3, r4, r5⟩⟩ := And.intro hSW.1.cells hSW.2.1.cells; dsimp only at p0 p1 p2 p3 p4 p5 r0 r1 r2 r3 r4 r5; go_simp))) (by assumption) ?_
  simp only [Act.put, List.setIfInBounds_toArray, List.set_cons_zero, List.set_cons_succ]
  refine wpAnyH_takeD (i := 23) (v := .bool (a3 || b3)) (some 28) rfl rfl (by kernel_rfl) (by kernel_rfl) (by kernel_rfl) (fun _ _ _ h => h) (Or.inl ⟨by rfl, by intro W hSW; cases a3 <;> go_simp⟩) (by assumption) ?_
  simp only [Act.put, List.setIfInBounds_toArray, List.set_cons_zero, List.set_cons_succ]
  generalize (if (!a3) = true then Value.pointer (some ⟨H + 1, 3, none⟩) else undef) = z3
  generalize (if (!a3) = true then Value.bool b3 else undef) = y3
  refine wpAnyH_takeD (i := 24) (v := .pointer (some ⟨H, 4, none⟩)) (some 29) rfl rfl (by kernel_rfl) (by kernel_rfl) (by kernel_rfl) (fun _ _ _ h => h) (Or.inl ⟨by rfl, by intro W hSW; obtain ⟨⟨p0, p1, p2, p3, p4, p5⟩, ⟨r0, r1, r2, r3, r4, r5⟩⟩ := And.intro hSW.1.cells hSW.2.1.cells; dsimp only at p0 p1 p2 p3 p4 p5 r0 r1 r2 r3 r4 r5; go_simp⟩) (by assumption) ?_
  simp only [Act.put, List.setIfInBounds_toArray, List.set_cons_zero, List.set_cons_succ]
  refine wpAnyH_takeD (i := 25) (v := .bool a4) (some 30) rfl rfl (by kernel_rfl) (by kernel_rfl) (by kernel_rfl) (fun _ _ _ h => h) (Or.inl ⟨by rfl, by intro W hSW; obtain ⟨⟨p0, p1, p2, p3, p4, p5⟩, ⟨r0, r1, r2, r3, r4, r5⟩⟩ := And.intro hSW.1.cells hSW.2.1.cells; dsimp only at p0 p1 p2 p3 p4 p5 r0 r1 r2 r3 r4 r5; go_simp⟩) (by assumption) ?_
  simp only [Act.put, List.setIfInBounds_toArray, List.set_cons_zero, List.set_cons_succ]
  refine wpAnyH_takeD (i := 26) (v := .bool a4) (some 31) rfl rfl (by kernel_rfl) (by kernel_rfl) (by kernel_rfl) (fun _ _ _ h => h) (Or.inl ⟨by rfl, by intro W hSW; obtain ⟨⟨p0, p1, p2, p3, p4, p5⟩, ⟨r0, r1, r2, r3, r4, r5⟩⟩ := And.intro hSW.1.cells hSW.2.1.cells; dsimp only at p0 p1 p2 p3 p4 p5 r0 r1 r2 r3 r4 r5; go_simp⟩) (by assumption) ?_
  simp only [Act.put, List.setIfInBounds_toArray, List.set_cons_zero, List.set_cons_succ]
  refine wpAnyH_takeD (i := 27) (v := if (!a4) = true then .pointer (some ⟨H + 1, 4, none⟩) else undef) (some 32) rfl rfl (by kernel_rfl) (by kernel_rfl) (by kernel_rfl) (fun _ _ _ h => h) (yieldsIf_guard (!a4) (by cases a4 <;> rfl) (fun hg => by cases a4 with | true => cases hg | false => (intro W hSW; obtain ⟨⟨p0, p1, p2, p3, p4, p5⟩, ⟨r0, r1, r2, r3, r4, r5⟩⟩ := And.intro hSW.1.cells hSW.2.1.cells; dsimp only at p0 p1 p2 p3 p4 p5 r0 r1 r2 r3 r4 r5; go_simp))) (by assumption) ?_
  simp only [Act.put, List.setIfInBounds_toArray, List.set_cons_zero, List.set_cons_succ]
  refine wpAnyH_takeD (i := 28) (v := if (!a4) = true then .bool b4 else undef) (some 33) rfl rfl (by kernel_rfl) (by kernel_rfl) (by kernel_rfl) (fun _ _ _ h => h) (yieldsIf_guard (!a4) (by cases a4 <;> rfl) (fun hg => by cases a4 with | true => cases hg | false => (intro W hSW; obtain ⟨⟨p0, p1, p2, p3, p4, p5⟩, ⟨r0, r1, r2, r3, r4, r5⟩⟩ := And.intro hSW.1.cells hSW.2.1.cells; dsimp only at p0 p1 p2 p3 p4 p5 r0 r1 r2 r3 r4 r5; go_simp))) (by assumption) ?_
  simp only [Act.put, List.setIfInBounds_toArray, List.set_cons_zero, List.set_cons_succ]
  refine wpAnyH_takeD (i := 29) (v := .bool (a4 || b4)) (some 34) rfl rfl (by kernel_rfl) (by kernel_rfl) (by kernel_rfl) (fun _ _ _ h => h) (Or.inl ⟨by rfl, by intro W hSW; cases a4 <;> go_simp⟩) (by assumption) ?_
  simp only [Act.put, List.setIfInBounds_toArray, List.set_cons_zero, List.set_cons_succ]
  generalize (if (!a4) = true then Value.pointer (some ⟨H + 1, 4, none⟩) else undef) = z4
  generalize (if (!a4) = true then Value.bool b4 else undef) = y4
  refine wpAnyH_takeD (i := 30) (v := .agg #[.bool a0, .bool a1, .bool a2, .bool a3, .bool a4, .int .i64 ax]) (some 35) rfl rfl (by kernel_rfl) (by kernel_rfl) (by kernel_rfl) (fun _ _ _ h => h) (Or.inl ⟨by rfl, by intro W hSW; obtain ⟨⟨p0, p1, p2, p3, p4, p5⟩, ⟨r0, r1, r2, r3, r4, r5⟩⟩ := And.intro hSW.1.cells hSW.2.1.cells; dsimp only at p0 p1 p2 p3 p4 p5 r0 r1 r2 r3 r4 r5; go_simp⟩) (by assumption) ?_
  simp only [Act.put, List.setIfInBounds_toArray, List.set_cons_zero, List.set_cons_succ]
  refine wpAnyH_takeD (i := 31) (v := .agg #[.bool b0, .bool b1, .bool b2, .bool b3, .bool b4, .int .i64 bx]) (some 36) rfl rfl (by kernel_rfl) (by kernel_rfl) (by kernel_rfl) (fun _ _ _ h => h) (Or.inl ⟨by rfl, by intro W hSW; obtain ⟨⟨p0, p1, p2, p3, p4, p5⟩, ⟨r0, r1, r2, r3, r4, r5⟩⟩ := And.intro hSW.1.cells hSW.2.1.cells; dsimp only at p0 p1 p2 p3 p4 p5 r0 r1 r2 r3 r4 r5; go_simp⟩) (by assumption) ?_
  simp only [Act.put, List.setIfInBounds_toArray, List.set_cons_zero, List.set_cons_succ]
  refine wpAnyH_ready (rs := [32]) (by kernel_rfl) (by simp) ?_
  refine AllReadyH.cons rfl (fun K hK => ?_) AllReadyH.nil
  go_simp
  refine (HLL.out _).mono ?_
  rintro e w2 ⟨rfl, bt⟩
  have hS2 : CcAt w2 H (⟨a0, a1, a2, a3, a4, ax⟩ : CcD) ∧ CcAt w2 (H + 1) (⟨b0, b1, b2, b3, b4, bx⟩ : CcD) ∧ (∃ c, CcAt w2 (H + 1 + 1) c) ∧ Below H w w2 :=
    ⟨hHeld.1.same (bt.block _ hHeld.1.lt), hHeld.2.1.same (bt.block _ hHeld.2.1.lt), hHeld.2.2.1.imp fun _ h => h.same (bt.block _ h.lt), hHeld.2.2.2.trans (bt.mono (Nat.le_of_lt hHeld.1.lt))⟩
  refine hK.out _ _ hS2 (fun hHeld2 => ?_)
  clear hK K hHeld bt hHeld2
  refine wpAnyH_takeD (i := 33) (v := .agg #[.bool (a0 || b0), .bool (a1 || b1), .bool (a2 || b2), .bool (a3 || b3), .bool (a4 || b4), .int .i64 m]) (some 38) rfl rfl (by kernel_rfl) (by kernel_rfl) (by kernel_rfl) (fun _ _ _ h => h) (Or.inl ⟨by rfl, by intro W hSW; clear hSW; go_simp⟩) hS2 ?_
  simp only [Act.put, List.setIfInBounds_toArray, List.set_cons_zero, List.set_cons_succ]
  refine wpAnyH_ready (rs := [34]) (by kernel_rfl) (by simp) ?_
  refine AllReadyH.cons rfl (fun K hK => ?_) AllReadyH.nil
  obtain ⟨z, hz⟩ := hS2.2.2.1
  obtain ⟨r0, r1, r2, r3, r4, r5⟩ := hz.cells
  have f0 := hz.frozen 0
  have f1 := hz.frozen 1
  have f2 := hz.frozen 2
  have f3 := hz.frozen 3
  have f4 := hz.frozen 4
  have f5 := hz.frozen 5
  obtain ⟨c, hc⟩ : ∃ c : CcD, c = ⟨a0 || b0, a1 || b1, a2 || b2, a3 || b3, a4 || b4, m⟩ := ⟨_, rfl⟩
  have HC : Hid (c = toge (⟨a0, a1, a2, a3, a4, ax⟩ : CcD) (⟨b0, b1, b2, b3, b4, bx⟩ : CcD)) := by show _ = _; rw [hc, HM.out]; rfl
  have HP : Hid (CcAt (putCc w2 (H + 1 + 1) c) (H + 1 + 1) c) := hz.putAll c
  have HB : Hid (Below H w (putCc w2 (H + 1 + 1) c)) := below_putCc hS2.2.2.2 (by omega) c
  have HS3 : Hid (CcAt (putCc w2 (H + 1 + 1) c) H (⟨a0, a1, a2, a3, a4, ax⟩ : CcD) ∧ CcAt (putCc w2 (H + 1 + 1) c) (H + 1) (⟨b0, b1, b2, b3, b4, bx⟩ : CcD)) :=
    ⟨hS2.1.same (putCc_other (by omega)), hS2.2.1.same (putCc_other (by omega))⟩
  have HPC : Hid (putCc w2 (H + 1 + 1) c = (((((w2.setCell ⟨H + 1 + 1, 0, none⟩ (.bool (a0 || b0))).setCell ⟨H + 1 + 1, 1, none⟩ (.bool (a1 || b1))).setCell ⟨H + 1 + 1, 2, none⟩ (.bool (a2 || b2))).setCell ⟨H + 1 + 1, 3, none⟩ (.bool (a3 || b3))).setCell ⟨H + 1 + 1, 4, none⟩ (.bool (a4 || b4))).setCell ⟨H + 1 + 1, 5, none⟩ (.int .i64 m)) := by show _ = _; rw [hc]; rfl
  clear hS2 hz hc
  go_simp
  rw [← HPC.out]
  obtain ⟨w3, hw3⟩ : ∃ W, W = putCc w2 (H + 1 + 1) c := ⟨_, rfl⟩
  rw [← hw3] at HP HB HS3 ⊢
  clear hw3 HPC r0 r1 r2 r3 r4 r5 f0 f1 f2 f3 f4 f5
  refine hK.out _ _ ⟨HS3.out.1, HS3.out.2, ⟨_, HP.out⟩, HB.out⟩ (fun _ => ?_)
  clear hK K
  refine wpAnyH_done (by kernel_rfl) ?_ _
  obtain ⟨m0, m1, m2, m3, m4, m5⟩ := HP.out.cells
  go_wp2_with fail
  refine bodyPost_ret (v := c.v) (by simp [results, Try.results44, go_sem, m0, m1, m2, m3, m4, m5, CcD.v]) rfl ?_
  exact ⟨by rw [HC.out], by rw [HW.out]; exact HB.out⟩

end Go.Proofs.Ytmcmeeibogkpaaa

namespace Go.Proofs.Ytmcmeeibogkpaaa
open Go.RowKit
open Go.Lib hiding intOf

set_option maxHeartbeats 2000000 in
theorem saidByFlag_any (x : ByteArray) (w : World) :
    Calls Try.prog 56 #[.string x] w fun e w' => e = .returned (saidF x).v ∧ Below w.heap.size w w' := by
  have hR : CcAt (w.alloc (.cells #[.bool false, .bool false, .bool false, .bool false, .bool false, .int .i64 0] 36)) w.heap.size cc0 := heap_alloc_new w _
  have HB0 : Hid (Below w.heap.size w (w.alloc (.cells #[.bool false, .bool false, .bool false, .bool false, .bool false, .int .i64 0] 36))) := (Below.refl _ _).alloc (Nat.le_refl _) _
  obtain ⟨W1, hW1⟩ : ∃ W, W = w.alloc (.cells #[.bool false, .bool false, .bool false, .bool false, .bool false, .int .i64 0] 36) := ⟨_, rfl⟩
  have HW1 : Hid (w.alloc (.cells #[.bool false, .bool false, .bool false, .bool false, .bool false, .int .i64 0] 36) = W1) := hW1.symm
  rw [← hW1] at hR HB0
  obtain ⟨H, hH⟩ : ∃ H, H = w.heap.size := ⟨_, rfl⟩
  have HW : Hid (w.heap.size = H) := hH.symm
  rw [← hH] at hR HB0
  clear hW1
  obtain ⟨r0, r1, r2, r3, r4, r5⟩ := hR.cells
  have f0 := hR.frozen 0
  have f1 := hR.frozen 1
  have f2 := hR.frozen 2
  have f3 := hR.frozen 3
  have f4 := hR.frozen 4
  have f5 := hR.frozen 5
  obtain ⟨c, hc⟩ : ∃ c, c = saidF x := ⟨_, rfl⟩
  have HC : Hid (saidF x = c) := hc.symm
  obtain ⟨m0, m1, m2, m3, m4, m5⟩ := (hR.putAll c).cells
  have HB : Hid (Below H w (putCc W1 H c)) := below_putCc HB0.out (Nat.le_refl _) c
  unfold putCc at m0 m1 m2 m3 m4 m5 HB
  clear hR HB0
  unfold saidF at hc
  by_cases h0 : x = nsW
  · have t0 : (x.toList == nsW.toList) = true := (text_beq _ _).2 h0
    rw [nsW_list] at t0
    rw [if_pos h0] at hc
    subst hc
    clear h0 
    dsimp only at m0 m1 m2 m3 m4 m5 HB
    go_enter Try.func56, Try.ntmps56
    go_upto_region 1 with fail
    rw [HW1.out, ← hH]
    clear hH HW1
    go_wp2_with fail
    refine bodyPost_ret (v := (saidF x).v) (by rw [HC.out]; simp [results, Try.results56, go_sem, m0, m1, m2, m3, m4, m5, CcD.v]) rfl ?_
    exact ⟨rfl, by rw [HW.out]; exact HB.out⟩
  have t0 : (x.toList == nsW.toList) = false := text_beq_no h0
  rw [nsW_list] at t0
  by_cases h1 : x = ncW
  · have t1 : (x.toList == ncW.toList) = true := (text_beq _ _).2 h1
    rw [ncW_list] at t1
    rw [if_neg h0, if_pos h1] at hc
    subst hc
    clear h1 h0
    dsimp only at m0 m1 m2 m3 m4 m5 HB
    go_enter Try.func56, Try.ntmps56
    go_upto_region 1 with fail
    rw [HW1.out, ← hH]
    clear hH HW1
    go_wp2_with fail
    refine bodyPost_ret (v := (saidF x).v) (by rw [HC.out]; simp [results, Try.results56, go_sem, m0, m1, m2, m3, m4, m5, CcD.v]) rfl ?_
    exact ⟨rfl, by rw [HW.out]; exact HB.out⟩
  have t1 : (x.toList == ncW.toList) = false := text_beq_no h1
  rw [ncW_list] at t1
  by_cases h2 : x = prW
  · have t2 : (x.toList == prW.toList) = true := (text_beq _ _).2 h2
    rw [prW_list] at t2
    rw [if_neg h0, if_neg h1, if_pos h2] at hc
    subst hc
    clear h2 h0 h1
    dsimp only at m0 m1 m2 m3 m4 m5 HB
    go_enter Try.func56, Try.ntmps56
    go_upto_region 1 with fail
    rw [HW1.out, ← hH]
    clear hH HW1
    go_wp2_with fail
    refine bodyPost_ret (v := (saidF x).v) (by rw [HC.out]; simp [results, Try.results56, go_sem, m0, m1, m2, m3, m4, m5, CcD.v]) rfl ?_
    exact ⟨rfl, by rw [HW.out]; exact HB.out⟩
  have t2 : (x.toList == prW.toList) = false := text_beq_no h2
  rw [prW_list] at t2
  by_cases h4 : x = muW
  · have t3 : (x.toList == muW.toList) = true := (text_beq _ _).2 h4
    rw [muW_list] at t3
    rw [if_neg h0, if_neg h1, if_neg h2, if_pos h4] at hc
    subst hc
    clear h4 h0 h1 h2
    dsimp only at m0 m1 m2 m3 m4 m5 HB
    go_enter Try.func56, Try.ntmps56
    go_upto_region 1 with fail
    rw [HW1.out, ← hH]
    clear hH HW1
    go_wp2_with fail
    refine bodyPost_ret (v := (saidF x).v) (by rw [HC.out]; simp [results, Try.results56, go_sem, m0, m1, m2, m3, m4, m5, CcD.v]) rfl ?_
    exact ⟨rfl, by rw [HW.out]; exact HB.out⟩
  have t3 : (x.toList == muW.toList) = false := text_beq_no h4
  rw [muW_list] at t3
  rw [if_neg h0, if_neg h1, if_neg h2, if_neg h4] at hc
  subst hc
  clear h0 h1 h2 h4
  dsimp only [cc0] at m0 m1 m2 m3 m4 m5 HB
  go_enter Try.func56, Try.ntmps56
  go_upto_region 1 with fail
  rw [HW1.out, ← hH]
  clear hH HW1
  go_wp2_with fail
  refine bodyPost_ret (v := (saidF x).v) (by rw [HC.out]; simp [results, Try.results56, go_sem, m0, m1, m2, m3, m4, m5, CcD.v, cc0]) rfl ?_
  exact ⟨rfl, by rw [HW.out]; exact HB.out⟩

end Go.Proofs.Ytmcmeeibogkpaaa

namespace Go.Proofs.Ytmcmeeibogkpaaa
open Go.RowKit
open Go.Lib hiding intOf

theorem pre_age {x : ByteArray} (h : Lib.hasPrefix x.data.toList maW.data.toList = true) : ageOf x = some (numV ⟨(Lib.trimPrefix x.data.toList maW.data.toList).toArray⟩) := by
  unfold ageOf
  have e : (bs x).take 8 = bs maW := by
    have := List.isPrefixOf_iff_prefix.1 h
    obtain ⟨t, ht⟩ := this
    show x.data.toList.take 8 = _
    rw [← ht]
    rfl
  rw [if_pos e]
  unfold Lib.trimPrefix
  rw [if_pos h]
  rfl
theorem pre_none {x : ByteArray} (h : Lib.hasPrefix x.data.toList maW.data.toList = false) : ageOf x = none := by
  unfold ageOf
  rw [if_neg]
  intro e
  have : Lib.hasPrefix x.data.toList maW.data.toList = true := by
    refine List.isPrefixOf_iff_prefix.2 ⟨x.data.toList.drop 8, ?_⟩
    have e' : x.data.toList.take 8 = maW.data.toList := e
    rw [← e', List.take_append_drop]
  rw [this] at h
  cases h

set_option maxHeartbeats 2000000 in
theorem saidBy_any (x : ByteArray) (w : World) (hs : x.size ≤ 4000000) :
    Calls Try.prog 45 #[.string x] w fun e w' => e = .returned (saidB x).v ∧ Below w.heap.size w w' := by
  have HR0 : Hid (CcAt (w.alloc (.cells cc0.cs 36)) w.heap.size cc0) := heap_alloc_new w _
  have HB0 : Hid (Below w.heap.size w (w.alloc (.cells cc0.cs 36))) := (Below.refl _ _).alloc (Nat.le_refl _) _
  obtain ⟨W1, hW1⟩ : ∃ W, W = w.alloc (.cells cc0.cs 36) := ⟨_, rfl⟩
  have HW1 : Hid (w.alloc (.cells #[.bool false, .bool false, .bool false, .bool false, .bool false, .int .i64 0] 36) = W1) := hW1.symm
  rw [← hW1] at HR0 HB0
  obtain ⟨H, hH⟩ : ∃ H, H = w.heap.size := ⟨_, rfl⟩
  have HW : Hid (w.heap.size = H) := hH.symm
  rw [← hH] at HR0 HB0
  clear hW1
  cases hp : Lib.hasPrefix x.data.toList maW.data.toList with
  | true =>
    have HA : Hid _ := pre_age hp
    obtain ⟨t, ht⟩ : ∃ t : ByteArray, t = ⟨(Lib.trimPrefix x.data.toList maW.data.toList).toArray⟩ := ⟨_, rfl⟩
    have hts : t.size ≤ maxLen := by
      rw [ht]
      unfold Lib.trimPrefix maxLen
      rw [if_pos hp]
      show (List.toArray _).size ≤ _
      simp
      omega
    rw [← ht] at HA
    have HT : Hid (⟨(Lib.trimPrefix x.data.toList maW.data.toList).toArray⟩ = t) := ht.symm
    clear ht
    go_enter Try.func45, Try.ntmps45
    go_wp2_with fail
    rw [HW1.out, ← hH]
    refine (Try.strings_CutPrefix x maW _).mono ?_
    rintro e w1 ⟨rfl, rfl⟩
    rw [hp, HT.out]
    clear hp hH HW1
    go_wp2_with fail
    refine (implNumRead_any t _ hts).mono ?_
    rintro e w2 ⟨b, n, rfl, hb1, hb2, hb3, b2⟩
    have HV : Hid (numV t = n) := by
      show _ = _
      unfold numV
      cases b with
      | true => rw [if_pos (hb1.1 rfl), hb2 rfl]
      | false => rw [if_neg (fun h => nomatch hb1.2 h), hb3 rfl]
    obtain ⟨c, hc⟩ : ∃ c : CcD, c = ⟨false, false, false, false, true, n⟩ := ⟨_, rfl⟩
    have HC : Hid (saidB x = c) := by show _ = _; unfold saidB; rw [HA.out, HV.out, hc]
    have hR := HR0.out.same (b2.block _ HR0.out.lt)
    have HB : Hid (Below H w (putCc w2 H c)) := below_putCc (HB0.out.trans (b2.mono (Nat.le_of_lt HR0.out.lt))) (Nat.le_refl _) c
    obtain ⟨r0, r1, r2, r3, r4, r5⟩ := hR.cells
    have f0 := hR.frozen 0
    have f1 := hR.frozen 1
    have f2 := hR.frozen 2
    have f3 := hR.frozen 3
    have f4 := hR.frozen 4
    have f5 := hR.frozen 5
    obtain ⟨m0, m1, m2, m3, m4, m5⟩ := (hR.putAll c).cells
    unfold putCc at m0 m1 m2 m3 m4 m5 HB
    subst hc
    dsimp only at m0 m1 m2 m3 m4 m5 HB
    clear hb1 hb2 hb3 hR b2 HR0 HB0 HA
    go_wp2_with fail
    refine bodyPost_ret (v := CcD.v ⟨false, false, false, false, true, n⟩) (by simp [results, Try.results45, go_sem, m0, m1, m2, m3, m4, m5, CcD.v]) rfl ?_
    exact ⟨by rw [HC.out], by rw [HW.out]; exact HB.out⟩
  | false =>
    have HA : Hid (saidB x = saidF x) := by show _ = _; unfold saidB; rw [pre_none hp]
    go_enter Try.func45, Try.ntmps45
    go_wp2_with fail
    rw [HW1.out, ← hH]
    refine (Try.strings_CutPrefix x maW _).mono ?_
    rintro e w1 ⟨rfl, rfl⟩
    rw [hp]
    clear hp hH HW1
    go_wp2_with fail
    refine (saidByFlag_any x _).mono ?_
    rintro e w2 ⟨rfl, b2⟩
    obtain ⟨c, hc⟩ : ∃ c, c = saidF x := ⟨_, rfl⟩
    rw [← hc] at HA ⊢
    have hR := HR0.out.same (b2.block _ HR0.out.lt)
    have HB : Hid (Below H w (putCc w2 H c)) := below_putCc (HB0.out.trans (b2.mono (Nat.le_of_lt HR0.out.lt))) (Nat.le_refl _) c
    obtain ⟨r0, r1, r2, r3, r4, r5⟩ := hR.cells
    have f0 := hR.frozen 0
    have f1 := hR.frozen 1
    have f2 := hR.frozen 2
    have f3 := hR.frozen 3
    have f4 := hR.frozen 4
    have f5 := hR.frozen 5
    obtain ⟨m0, m1, m2, m3, m4, m5⟩ := (hR.putAll c).cells
    unfold putCc at m0 m1 m2 m3 m4 m5 HB
    clear hc hR b2 HR0 HB0
    unfold CcD.v
    go_wp2_with fail
    refine bodyPost_ret (v := c.v) (by simp [results, Try.results45, go_sem, m0, m1, m2, m3, m4, m5, CcD.v]) rfl ?_
    exact ⟨by rw [HA.out], by rw [HW.out]; exact HB.out⟩

/-- While words are read, here. -/
structure CiRd (w : World) (H : Nat) (c : CcD) (v : Value) (l : List ByteArray) (wr : World) : Prop where
  res : CcAt wr H cc0
  cur : CcAt wr (H + 1) c
  row : wr.ownsRow (H + 1 + 1) 9 1 v l.length (l.map Value.string)
  low : Below H w wr
theorem CiRd.later {w : World} {H : Nat} {c : CcD} {v : Value} {l : List ByteArray} {wr w' : World} (h : CiRd w H c v l wr) (hb : Below wr.heap.size wr w') : CiRd w H c v l w' :=
  ⟨h.res.same (hb.block _ h.res.lt), h.cur.same (hb.block _ h.cur.lt), owns_below h.row hb (fun _ hg => owns_lt h.row hg), h.low.trans (hb.mono (Nat.le_of_lt h.res.lt))⟩
theorem CiRd.putCc {w : World} {H : Nat} {c : CcD} {v : Value} {l : List ByteArray} {wr : World} (h : CiRd w H c v l wr) (d : CcD) : CiRd w H d v l (putCc wr (H + 1) d) :=
  ⟨h.res.same (putCc_other (by omega)), h.cur.putAll d, owns_same h.row (fun j hj => putCc_other (by have := (own_ltR h.row hj).1; omega)), below_putCc h.low (by omega) d⟩

set_option maxHeartbeats 4000000 in
set_option maxRecDepth 100000 in
theorem implCcRead_any (s : ByteArray) (w : World) (hs : s.size ≤ 1048576) :
    Calls Try.prog 36 #[.string s] w fun e w' => e = .returned (ccR s).v ∧ Below w.heap.size w w' := by
  obtain ⟨H, hH⟩ : ∃ H, H = w.heap.size := ⟨_, rfl⟩
  have HW : Hid (w.heap.size = H) := hH.symm
  obtain ⟨W0, hW0⟩ : ∃ W, W = (w.alloc (.cells cc0.cs 36)).alloc (.cells cc0.cs 36) := ⟨_, rfl⟩
  have HA : Hid (CcAt W0 H cc0 ∧ CcAt W0 (H + 1) cc0 ∧ Below H w W0 ∧ W0.heap.size = H + 1 + 1) := by
    have e1 := heap_alloc_new w (.cells cc0.cs 36)
    have e2 := heap_alloc_new (w.alloc (.cells cc0.cs 36)) (.cells cc0.cs 36)
    rw [World.size_alloc] at e2
    refine ⟨?_, ?_, ?_, ?_⟩
    · unfold CcAt; rw [hW0, hH, heap_alloc_old _ _ (by simp)]; exact e1
    · unfold CcAt; rw [hW0, hH]; exact e2
    · rw [hW0, hH]; exact ((Below.refl _ w).alloc (Nat.le_refl _) _).alloc (by simp) _
    · rw [hW0, hH]; simp
  have HW0 : Hid ((w.alloc (.cells #[.bool false, .bool false, .bool false, .bool false, .bool false, .int .i64 0] 36)).alloc (.cells #[.bool false, .bool false, .bool false, .bool false, .bool false, .int .i64 0] 36) = W0) := hW0.symm
  clear hW0
  go_enter Try.func36, Try.ntmps36
  go_wp2_with fail
  rw [HW0.out, ← hH]
  clear hH
  refine (implSplit_any s _ hs).mono ?_
  rintro e w0 ⟨v, rfl, hown, bb⟩
  rw [HA.out.2.2.2] at hown bb
  obtain ⟨l, hl⟩ : ∃ l, l = splitL s := ⟨_, rfl⟩
  rw [← hl] at hown
  have HLS : Hid (splitL s = l) := hl.symm
  have HLB : Hid (∀ x ∈ l, x.size ≤ 1048576) := fun x hx => by rw [hl] at hx; have := (splitL_le s).2 x hx; omega
  have hll : l.length ≤ 1048577 := by rw [hl]; have := (splitL_le s).1; omega
  have HS1 : Hid (CiRd w H (ccTo (l.take 0)) v l w0) := ⟨HA.out.1.same (bb.block _ (by omega)), HA.out.2.1.same (bb.block _ (by omega)), hown, HA.out.2.2.1.trans (bb.mono (by omega))⟩
  obtain ⟨oa, cp, rfl⟩ := slice_of_owns hown
  obtain ⟨n, hn⟩ : ∃ n, n = l.length := ⟨_, rfl⟩
  have HN : Hid (l.length = n) := hn.symm
  rw [← hn] at hll HS1 ⊢
  clear hown bb hl hn
  go_wp2_with fail
  go_loopw [9] (fun i wr => ∃ k : Nat, k ≤ n ∧ i = .int .i64 (k : Int) ∧ Hid (CiRd w H (ccTo (l.take k)) (.slice oa n cp) l wr)) (fun i _ => n - (intOf i).toNat)
  case atStart => exact ⟨0, Nat.zero_le _, rfl, HS1⟩
  case round =>
    obtain ⟨k, hk, rfl, HS⟩ := hrel
    by_cases hlt : (k : Int) < (n : Int)
    · have hkl : k < l.length := by have := HN.out; omega
      obtain ⟨g, rfl⟩ : ∃ g, oa = some ⟨g, 0, none⟩ := by
        rcases HS.out.row.2 with ⟨e, _⟩ | ⟨g, _, _, e, _⟩
        · injection e with _ e2 _; omega
        · injection e with e1 _ _; exact ⟨g, e1⟩
      obtain ⟨x, hx⟩ : ∃ x, x = l[k]'hkl := ⟨_, rfl⟩
      have hc0 : wr.cell? ⟨g, k, none⟩ = some (.string x) := by
        have hr := HS.out.row
        rw [HN.out] at hr
        exact (owns_cellC hr k (.string x) (by rw [List.getElem?_map, List.getElem?_eq_getElem hkl, hx]; rfl)).1
      have hxs : x.size ≤ 1048576 := by rw [hx]; exact HLB.out _ (List.getElem_mem hkl)
      obtain ⟨y, hy⟩ : ∃ y, y = lowerOf x := ⟨_, rfl⟩
      have hys : y.size ≤ 4000000 := by rw [hy, ccLow_size]; omega
      have HY : Hid (lowerOf x = y) := hy.symm
      obtain ⟨d, hd⟩ : ∃ d, d = ccTo (l.take (k + 1)) := ⟨_, rfl⟩
      obtain ⟨c, hc⟩ : ∃ c, c = ccTo (l.take k) := ⟨_, rfl⟩
      obtain ⟨u, hu⟩ : ∃ u, u = saidB y := ⟨_, rfl⟩
      have HSB : Hid (saidB y = u) := hu.symm
      have HTD : Hid (toge c u = d) := by
        show _ = _
        rw [hd, List.take_succ_eq_append_getElem hkl, ccTo_snoc, ← hx, ← hy, step_toge (ccTo_fit _), hc, hu]
      have HTG : Hid (∀ W, Calls Try.prog 44 #[.agg #[.bool c.ns, .bool c.nc, .bool c.pr, .bool c.mu, .bool c.ha, .int .i64 c.age], .agg #[.bool u.ns, .bool u.nc, .bool u.pr, .bool u.mu, .bool u.ha, .int .i64 u.age]] W fun e w' => e = .returned (toge c u).v ∧ Below W.heap.size W w') := fun W => together_any c u W
      have HD : Hid (∀ W, CiRd w H d (.slice (some ⟨g, 0, none⟩) n cp) l W → CiRd w H (ccTo (l.take (k + 1))) (.slice (some ⟨g, 0, none⟩) n cp) l W) := fun W h => by rw [← hd]; exact h
      rw [← hc] at HS
      clear hx hy hkl hc hd hu
      have HT1 : Hid (CiRd w H c (.slice (some ⟨g, 0, none⟩) n cp) l wr.drew) := HS.out.later (Below.refl _ _).drew
      go_upto_region 5 with fail
      clear hc0 HS
      refine wp_region_held_drew (S := fun _ => True) (by kernel_rfl) trivial (fun _ => ?_)
      refine wpAnyH_takeD (i := 1) (v := .string x) (some 14) rfl rfl (by kernel_rfl) (by kernel_rfl) (by kernel_rfl) (fun _ _ _ h => h) (Or.inl ⟨by rfl, by intro W _; go_simp⟩) trivial ?_
      simp only [Act.put, List.setIfInBounds_toArray, List.set_cons_zero, List.set_cons_succ]
      refine wpAnyH_ready (rs := [0, 2]) (by kernel_rfl) (by simp) ?_
      refine AllReadyH.cons rfl (fun K hK => ?_) (AllReadyH.cons rfl (fun K hK => ?_) AllReadyH.nil)
      · obtain ⟨q0, q1, q2, q3, q4, q5⟩ := HT1.out.cur.cells
        go_simp
        refine hK.out _ _ trivial (fun _ => ?_)
        clear hK K q0 q1 q2 q3 q4 q5
        refine wpAnyH_ready (rs := [2]) (by kernel_rfl) (by simp) ?_
        refine AllReadyH.cons rfl (fun K hK => ?_) AllReadyH.nil
        go_simp
        refine (implLower_any x _).mono ?_
        rintro e w2 ⟨rfl, hb2⟩
        rw [HY.out]
        have HT2 : Hid (CiRd w H c (.slice (some ⟨g, 0, none⟩) n cp) l w2) := HT1.out.later hb2
        clear hb2
        refine hK.out _ _ trivial (fun _ => ?_)
        clear hK K HT1
        refine wpAnyH_ready (rs := [3]) (by kernel_rfl) (by simp) ?_
        refine AllReadyH.cons rfl (fun K hK => ?_) AllReadyH.nil
        go_simp
        refine (saidBy_any y _ hys).mono ?_
        rintro e w3 ⟨rfl, hb3⟩
        rw [HSB.out]
        unfold CcD.v
        have HT3 : Hid (CiRd w H c (.slice (some ⟨g, 0, none⟩) n cp) l w3) := HT2.out.later hb3
        clear hb3
        refine hK.out _ _ trivial (fun _ => ?_)
        clear hK K HT2
        refine wpAnyH_ready (rs := [4]) (by kernel_rfl) (by simp) ?_
        refine AllReadyH.cons rfl (fun K hK => ?_) AllReadyH.nil
        go_simp
        refine (HTG.out _).mono ?_
        rintro e w4 ⟨rfl, hb4⟩
        rw [HTD.out]
        unfold CcD.v
        have HT4 : Hid (CiRd w H c (.slice (some ⟨g, 0, none⟩) n cp) l w4) := HT3.out.later hb4
        clear hb4
        refine hK.out _ _ trivial (fun _ => ?_)
        clear hK K HT3
        refine wpAnyH_ready (rs := [5]) (by kernel_rfl) (by simp) ?_
        refine AllReadyH.cons rfl (fun K hK => ?_) AllReadyH.nil
        have HZ : Hid (CiRd w H d (.slice (some ⟨g, 0, none⟩) n cp) l (putCc w4 (H + 1) d)) := HT4.out.putCc d
        obtain ⟨q0, q1, q2, q3, q4, q5⟩ := HT4.out.cur.cells
        have f0 := HT4.out.cur.frozen 0
        have f1 := HT4.out.cur.frozen 1
        have f2 := HT4.out.cur.frozen 2
        have f3 := HT4.out.cur.frozen 3
        have f4 := HT4.out.cur.frozen 4
        have f5 := HT4.out.cur.frozen 5
        unfold putCc at HZ
        clear HT4
        go_simp
        refine hK.out _ _ trivial (fun _ => ?_)
        clear hK K q0 q1 q2 q3 q4 q5 f0 f1 f2 f3 f4 f5
        refine wpAnyH_done (by kernel_rfl) ?_ _
        go_wp2_with fail
        go_roundw
        case rel => exact ⟨k + 1, by omega, by go_num, HD.out _ HZ.out⟩
        case measure => simp [intOf]; omega
      · go_simp
        refine (implLower_any x _).mono ?_
        rintro e w2 ⟨rfl, hb2⟩
        rw [HY.out]
        have HT2 : Hid (CiRd w H c (.slice (some ⟨g, 0, none⟩) n cp) l w2) := HT1.out.later hb2
        clear hb2
        refine hK.out _ _ trivial (fun _ => ?_)
        clear hK K HT1
        refine wpAnyH_ready (rs := [0, 3]) (by kernel_rfl) (by simp) ?_
        refine AllReadyH.cons rfl (fun K hK => ?_) (AllReadyH.cons rfl (fun K hK => ?_) AllReadyH.nil)
        · obtain ⟨q0, q1, q2, q3, q4, q5⟩ := HT2.out.cur.cells
          go_simp
          refine hK.out _ _ trivial (fun _ => ?_)
          clear hK K q0 q1 q2 q3 q4 q5
          refine wpAnyH_ready (rs := [3]) (by kernel_rfl) (by simp) ?_
          refine AllReadyH.cons rfl (fun K hK => ?_) AllReadyH.nil
          go_simp
          refine (saidBy_any y _ hys).mono ?_
          rintro e w3 ⟨rfl, hb3⟩
          rw [HSB.out]
          unfold CcD.v
          have HT3 : Hid (CiRd w H c (.slice (some ⟨g, 0, none⟩) n cp) l w3) := HT2.out.later hb3
          clear hb3
          refine hK.out _ _ trivial (fun _ => ?_)
          clear hK K HT2
          refine wpAnyH_ready (rs := [4]) (by kernel_rfl) (by simp) ?_
          refine AllReadyH.cons rfl (fun K hK => ?_) AllReadyH.nil
          go_simp
          refine (HTG.out _).mono ?_
          rintro e w4 ⟨rfl, hb4⟩
          rw [HTD.out]
          unfold CcD.v
          have HT4 : Hid (CiRd w H c (.slice (some ⟨g, 0, none⟩) n cp) l w4) := HT3.out.later hb4
          clear hb4
          refine hK.out _ _ trivial (fun _ => ?_)
          clear hK K HT3
          refine wpAnyH_ready (rs := [5]) (by kernel_rfl) (by simp) ?_
          refine AllReadyH.cons rfl (fun K hK => ?_) AllReadyH.nil
          have HZ : Hid (CiRd w H d (.slice (some ⟨g, 0, none⟩) n cp) l (putCc w4 (H + 1) d)) := HT4.out.putCc d
          obtain ⟨q0, q1, q2, q3, q4, q5⟩ := HT4.out.cur.cells
          have f0 := HT4.out.cur.frozen 0
          have f1 := HT4.out.cur.frozen 1
          have f2 := HT4.out.cur.frozen 2
          have f3 := HT4.out.cur.frozen 3
          have f4 := HT4.out.cur.frozen 4
          have f5 := HT4.out.cur.frozen 5
          unfold putCc at HZ
          clear HT4
          go_simp
          refine hK.out _ _ trivial (fun _ => ?_)
          clear hK K q0 q1 q2 q3 q4 q5 f0 f1 f2 f3 f4 f5
          refine wpAnyH_done (by kernel_rfl) ?_ _
          go_wp2_with fail
          go_roundw
          case rel => exact ⟨k + 1, by omega, by go_num, HD.out _ HZ.out⟩
          case measure => simp [intOf]; omega
        · go_simp
          refine (saidBy_any y _ hys).mono ?_
          rintro e w3 ⟨rfl, hb3⟩
          rw [HSB.out]
          unfold CcD.v
          have HT3 : Hid (CiRd w H c (.slice (some ⟨g, 0, none⟩) n cp) l w3) := HT2.out.later hb3
          clear hb3
          refine hK.out _ _ trivial (fun _ => ?_)
          clear hK K HT2
          refine wpAnyH_ready (rs := [0]) (by kernel_rfl) (by simp) ?_
          refine AllReadyH.cons rfl (fun K hK => ?_) AllReadyH.nil
          obtain ⟨q0, q1, q2, q3, q4, q5⟩ := HT3.out.cur.cells
          go_simp
          refine hK.out _ _ trivial (fun _ => ?_)
          clear hK K q0 q1 q2 q3 q4 q5
          refine wpAnyH_ready (rs := [4]) (by kernel_rfl) (by simp) ?_
          refine AllReadyH.cons rfl (fun K hK => ?_) AllReadyH.nil
          go_simp
          refine (HTG.out _).mono ?_
          rintro e w4 ⟨rfl, hb4⟩
          rw [HTD.out]
          unfold CcD.v
          have HT4 : Hid (CiRd w H c (.slice (some ⟨g, 0, none⟩) n cp) l w4) := HT3.out.later hb4
          clear hb4
          refine hK.out _ _ trivial (fun _ => ?_)
          clear hK K HT3
          refine wpAnyH_ready (rs := [5]) (by kernel_rfl) (by simp) ?_
          refine AllReadyH.cons rfl (fun K hK => ?_) AllReadyH.nil
          have HZ : Hid (CiRd w H d (.slice (some ⟨g, 0, none⟩) n cp) l (putCc w4 (H + 1) d)) := HT4.out.putCc d
          obtain ⟨q0, q1, q2, q3, q4, q5⟩ := HT4.out.cur.cells
          have f0 := HT4.out.cur.frozen 0
          have f1 := HT4.out.cur.frozen 1
          have f2 := HT4.out.cur.frozen 2
          have f3 := HT4.out.cur.frozen 3
          have f4 := HT4.out.cur.frozen 4
          have f5 := HT4.out.cur.frozen 5
          unfold putCc at HZ
          clear HT4
          go_simp
          refine hK.out _ _ trivial (fun _ => ?_)
          clear hK K q0 q1 q2 q3 q4 q5 f0 f1 f2 f3 f4 f5
          refine wpAnyH_done (by kernel_rfl) ?_ _
          go_wp2_with fail
          go_roundw
          case rel => exact ⟨k + 1, by omega, by go_num, HD.out _ HZ.out⟩
          case measure => simp [intOf]; omega
    · obtain rfl : k = n := by omega
      have HE : Hid (ccTo (l.take k) = ccR s) := by
        show _ = _
        rw [List.take_of_length_le (by rw [HN.out]; exact Nat.le_refl _)]
        unfold ccR
        rw [HLS.out]
      rw [HE.out] at HS
      obtain ⟨c, hc⟩ : ∃ c, c = ccR s := ⟨_, rfl⟩
      rw [← hc] at HS
      have HC : Hid (c = ccR s) := hc
      obtain ⟨q0, q1, q2, q3, q4, q5⟩ := HS.out.cur.cells
      obtain ⟨r0, r1, r2, r3, r4, r5⟩ := HS.out.res.cells
      have f0 := HS.out.res.frozen 0
      have f1 := HS.out.res.frozen 1
      have f2 := HS.out.res.frozen 2
      have f3 := HS.out.res.frozen 3
      have f4 := HS.out.res.frozen 4
      have f5 := HS.out.res.frozen 5
      obtain ⟨m0, m1, m2, m3, m4, m5⟩ := (HS.out.res.putAll c).cells
      have HB : Hid (Below H w (putCc wr H c)) := below_putCc HS.out.low (Nat.le_refl _) c
      clear hc HE
      unfold putCc at m0 m1 m2 m3 m4 m5 HB
      go_wp2_with fail
      refine bodyPost_ret (v := c.v) (by simp [results, Try.results36, go_sem, m0, m1, m2, m3, m4, m5, CcD.v]) rfl ?_
      exact ⟨by rw [HC.out], by rw [HW.out]; exact HB.out⟩

set_option maxHeartbeats 1000000 in
theorem implCcOf_any (v : Value) (n base : Nat) (fs : List (ByteArray × ByteArray)) (w : World) (hv : FieldsV w base v n fs) (hn : n ≤ 1073741824) (hcp : CopyF fs) (hsz : (getV fs ccName).size ≤ 1048576) :
    Calls Try.prog 25 #[v] w fun e w' => e = .returned (ccR (getV fs ccName)).v ∧ Below w.heap.size w w' := by
  have hv1 : FieldsV (w.alloc (.cells cc0.cs 36)) base v n fs := hv.below ((Below.refl _ _).alloc (Nat.le_refl _) _)
  have HR0 : Hid (CcAt (w.alloc (.cells cc0.cs 36)) w.heap.size cc0) := heap_alloc_new w _
  have HB0 : Hid (Below w.heap.size w (w.alloc (.cells cc0.cs 36))) := (Below.refl _ _).alloc (Nat.le_refl _) _
  obtain ⟨t, ht⟩ : ∃ t, t = getV fs ccName := ⟨_, rfl⟩
  have HT : Hid (getV fs ccName = t) := ht.symm
  rw [← ht] at hsz
  obtain ⟨c, hc⟩ : ∃ c, c = ccR t := ⟨_, rfl⟩
  have HC : Hid (ccR t = c) := hc.symm
  rw [← ht, ← hc]
  clear ht hc hv
  go_enter Try.func25, Try.ntmps25
  go_wp2_with fail
  refine (implGet_any v n base fs ccName _ hv1 hn hcp).mono ?_
  rintro e w1 ⟨rfl, b1⟩
  rw [HT.out]
  have HR1 : Hid (CcAt w1 w.heap.size cc0) := HR0.out.same (b1.block _ HR0.out.lt)
  have HB1 : Hid (Below w.heap.size w w1) := HB0.out.trans (b1.mono (Nat.le_of_lt HR0.out.lt))
  clear hv1 b1 HR0 HB0
  go_wp2_with fail
  refine (implCcRead_any t _ hsz).mono ?_
  rintro e w2 ⟨rfl, b2⟩
  rw [HC.out]
  have hR := HR1.out.same (b2.block _ HR1.out.lt)
  obtain ⟨r0, r1, r2, r3, r4, r5⟩ := hR.cells
  have f0 := hR.frozen 0
  have f1 := hR.frozen 1
  have f2 := hR.frozen 2
  have f3 := hR.frozen 3
  have f4 := hR.frozen 4
  have f5 := hR.frozen 5
  obtain ⟨m0, m1, m2, m3, m4, m5⟩ := (hR.putAll c).cells
  have HB : Hid (Below w.heap.size w (putCc w2 w.heap.size c)) := below_putCc (HB1.out.trans (b2.mono (Nat.le_of_lt HR1.out.lt))) (Nat.le_refl _) c
  unfold putCc at m0 m1 m2 m3 m4 m5 HB
  clear hR b2 HR1 HB1
  unfold CcD.v
  go_wp2_with fail
  refine bodyPost_ret (v := c.v) (by simp [results, Try.results25, go_sem, m0, m1, m2, m3, m4, m5, CcD.v]) rfl ?_
  exact ⟨rfl, HB.out⟩

end Go.Proofs.Ytmcmeeibogkpaaa

namespace Go.Proofs.Ytmcmeeibogkpaaa
open Go.RowKit
open Go.Lib hiding intOf

theorem path_cls (n : Int) : PathB n ↔ (cls n ≠ 4 ∧ cls n ≠ 7) := by
  have := cls_spec n
  unfold PathB
  constructor
  · intro h; omega
  · intro h; omega
theorem path_small {n : Int} (h : PathB n) : n < 128 := by unfold PathB at h; omega

set_option maxHeartbeats 400000 in
theorem isPathRune_any (r : Int) (w : World) :
    Calls Try.prog 59 #[.int .i32 r] w fun e w' => BoolIs (PathB r) w e w' := by
  have HP : Hid (PathB r ↔ (cls r ≠ 4 ∧ cls r ≠ 7)) := path_cls r
  go_enter Try.func59, Try.ntmps59
  go_wp2_with fail
  refine (classOf_any r _).mono ?_
  rintro e w1 ⟨rfl, hb⟩
  generalize cls r = c at HP ⊢
  by_cases h4 : c = 4
  · have HN : Hid (¬ PathB r) := fun h => (HP.out.1 h).1 h4
    subst h4
    go_wp2_with fail
    go_ret
    exact BoolIs.no HN.out hb
  · have h5 : (c != 4) = true := by rw [bne_iff_ne]; exact h4
    by_cases h7 : c = 7
    · have HN : Hid (¬ PathB r) := fun h => (HP.out.1 h).2 h7
      subst h7
      go_wp2_with fail
      go_ret
      exact BoolIs.no HN.out hb
    · have h8 : (c != 7) = true := by rw [bne_iff_ne]; exact h7
      have HY : Hid (PathB r) := HP.out.2 ⟨h4, h7⟩
      go_wp2_with fail
      go_ret
      exact BoolIs.yes HY.out hb

set_option maxHeartbeats 1000000 in
theorem allRunes_path (s : ByteArray) (w : World) :
    Calls Try.prog 58 #[.string s, .func (.func 59) #[] #[]] w fun e w' => BoolIs (AllB PathB s) w e w' := by
  go_enter Try.func58, Try.ntmps58
  go_wp2
  go_loopw [6] (fun _ wr => ∃ pos : Nat, wr.heap[w.heap.size]? = some (.stringIter s pos) ∧ Below w.heap.size w wr ∧ Hid (AllTo PathB s pos)) (fun _ wr => s.size - wr.iterPos w.heap.size)
  case atStart => exact ⟨0, World.iter_heap _ _ _, (Below.refl _ _).alloc (Nat.le_refl _) _, allTo_zero _ _⟩
  case round =>
    obtain ⟨pos, hh, hbw, hall⟩ := hrel
    by_cases hp : pos < s.size
    · have hnx := fun ty => run_next_any_at (P := Try.prog) wr w.heap.size s pos ty hh hp
      go_wp2_with (go_at_call 59; refine (isPathRune_any _ _).mono ?_; rintro e w1 ⟨b, rfl, hbt, hb1⟩)
      · have hbf : b = false := by simpa using ‹(!b) = true›
        have hno : ¬ PathB ((Utf8.decode s pos).1 : Int) := fun h => by rw [hbt.2 h] at hbf; cases hbf
        go_ret
        exact BoolIs.no (rune_no (fun _ => path_small) s pos hp hno) (iter_step hh hbw hb1).2
      · have hbf : b = true := by simpa using ‹(!b) = false›
        obtain ⟨hv, hone⟩ := rune_ok (fun _ => path_small) s pos hp (hbt.1 hbf)
        rw [hone] at hb1
        obtain ⟨h1, h2⟩ := iter_step hh hbw hb1
        exact ⟨⟨pos + 1, h1, h2, allTo_succ hall.out hp hv⟩, by rw [iterPos_of h1, iterPos_of hh]; omega⟩
    · have hnx := fun ty => run_next_end_at (P := Try.prog) wr w.heap.size s pos ty hh hp
      go_wp2
      go_ret
      exact BoolIs.yes (allTo_end hall.out hp) hbw

set_option maxHeartbeats 1000000 in
theorem pathOk_any (s : ByteArray) (w : World) (hs : s.size ≤ maxLen) :
    Calls Try.prog 49 #[.string s] w fun e w' => BoolIs (PathOk s) w e w' := by
  unfold maxLen at hs
  by_cases h1 : (1 : Int) ≤ (s.size : Int)
  · have h0 : 0 < s.size := by omega
    by_cases h2 : (s.size : Int) ≤ 60
    · by_cases h3 : ((s[0]'h0).toNat : Int) = 47
      · have h4 : (((s[0]'h0).toNat : Int) == 47) = true := by rw [beq_iff_eq]; exact h3
        have H3 : Hid ((s[0]'h0).toNat = 47) := by show _ = _; omega
        clear h3
        go_enter Try.func49, Try.ntmps49
        go_wp2_with fail
        refine (allRunes_path s _).mono ?_
        rintro e w1 ⟨b, rfl, hbt, hb1⟩
        cases b
        · have HN : Hid (¬ PathOk s) := fun h => by have := hbt.2 h.1; cases this
          clear hbt
          go_wp2_with fail
          go_ret
          exact BoolIs.no HN.out hb1
        · have HY : Hid (PathOk s) := ⟨hbt.1 rfl, by omega, by omega, h0, H3.out⟩
          clear hbt
          go_wp2_with fail
          go_ret
          exact BoolIs.yes HY.out hb1
      · have h4 : (((s[0]'h0).toNat : Int) == 47) = false := by rw [beq_eq_false_iff_ne]; exact h3
        have HN : Hid (¬ PathOk s) := fun h => by obtain ⟨_, _, _, _, h5⟩ := h; omega
        clear h3
        go_enter Try.func49, Try.ntmps49
        go_wp2_with fail
        go_ret
        exact BoolIs.no HN.out (Below.refl _ _)
    · have HN : Hid (¬ PathOk s) := fun h => by obtain ⟨_, _, h5, _⟩ := h; omega
      have hd : decide ((s.size : Int) ≤ 60) = false := by simpa using h2
      go_enter Try.func49, Try.ntmps49
      go_wp2_with fail
      go_ret
      exact BoolIs.no HN.out (Below.refl _ _)
  · have HN : Hid (¬ PathOk s) := fun h => by obtain ⟨_, h5, _⟩ := h; omega
    have hd : decide ((1 : Int) ≤ (s.size : Int)) = false := by simpa using h1
    go_enter Try.func49, Try.ntmps49
    go_wp2_with fail
    go_ret
    exact BoolIs.no HN.out (Below.refl _ _)

theorem methB_none {m : Int} (h : ¬ (1 ≤ m ∧ m ≤ 4)) : methB m = ⟨#[]⟩ := by
  unfold methB
  rw [if_neg (by omega), if_neg (by omega), if_neg (by omega), if_neg (by omega)]
set_option maxHeartbeats 400000 in
theorem methodName_any (m : Int) (w : World) :
    Calls Try.prog 48 #[.int .i64 m] w fun e w' => e = .returned (.string (methB m)) ∧ w' = w := by
  by_cases h1 : m = 1
  · subst h1
    go_enter Try.func48, Try.ntmps48
    go_wp2
    go_ret
    exact ⟨rfl, rfl⟩
  · by_cases h2 : m = 2
    · subst h2
      go_enter Try.func48, Try.ntmps48
      go_wp2
      go_ret
      exact ⟨rfl, rfl⟩
    · by_cases h3 : m = 3
      · subst h3
        go_enter Try.func48, Try.ntmps48
        go_wp2
        go_ret
        exact ⟨rfl, rfl⟩
      · by_cases h4 : m = 4
        · subst h4
          go_enter Try.func48, Try.ntmps48
          go_wp2
          go_ret
          exact ⟨rfl, rfl⟩
        · have HE : Hid (methB m = ⟨#[]⟩) := methB_none (by omega)
          have e1 : (m == 1) = false := by rw [beq_eq_false_iff_ne]; exact h1
          have e2 : (m == 2) = false := by rw [beq_eq_false_iff_ne]; exact h2
          have e3 : (m == 3) = false := by rw [beq_eq_false_iff_ne]; exact h3
          have e4 : (m == 4) = false := by rw [beq_eq_false_iff_ne]; exact h4
          go_enter Try.func48, Try.ntmps48
          go_wp2
          go_ret
          exact ⟨by rw [HE.out]; rfl, rfl⟩

/-- What is right of what stands behind the first line. -/
def RestP (fs : List (ByteArray × ByteArray)) (b : ByteArray) : Prop := FldsOk fs ∧ b.size ≤ 120
set_option maxHeartbeats 1000000 in
theorem restOk_any (v : Value) (b : ByteArray) (n base : Nat) (fs : List (ByteArray × ByteArray)) (w : World) (hv : FieldsV w base v n fs) (hn : n ≤ 1073741824) (hsz : WalkF n fs) (hb : b.size ≤ maxLen) :
    Calls Try.prog 50 #[.agg #[v, .string b]] w fun e w' => BoolIs (RestP fs b) w e w' := by
  obtain ⟨oa, cap, rfl, _⟩ := hv.slice
  obtain ⟨r, hr⟩ : ∃ r, r = w.heap.size := ⟨_, rfl⟩
  have HR : Hid (∀ W, Below (w.alloc (.cells #[.slice oa n cap, .string b] 61)).heap.size (w.alloc (.cells #[.slice oa n cap, .string b] 61)) W → (W.cell? ⟨r, 0, none⟩ = some (.slice oa n cap) ∧ W.cell? ⟨r, 1, none⟩ = some (.string b)) ∧ FieldsV W base (.slice oa n cap) n fs ∧ Below w.heap.size w W) := fun W h => by
    have hh := kept_new h
    rw [← hr] at hh
    exact ⟨⟨by simp [World.cell?, hh], by simp [World.cell?, hh]⟩, hv.below (below_new h), below_new h⟩
  obtain ⟨_, hv0, _⟩ := HR.out _ (Below.refl _ _)
  unfold maxLen at hb
  go_enter Try.func50, Try.ntmps50
  go_wp2_with fail
  refine (ok_any _ n base fs _ hv0 hn hsz).mono ?_
  rintro e w1 ⟨b1, rfl, kb1, bb1⟩
  rw [← hr]
  obtain ⟨⟨c0, c1⟩, _, hbw1⟩ := HR.out w1 bb1
  clear hv hv0 hsz bb1 hr
  cases b1
  · have HF : Hid (¬ RestP fs b) := fun h => by have := kb1.2 h.1; cases this
    clear kb1
    go_wp2_with fail
    go_ret
    exact BoolIs.no HF.out hbw1
  · have HT : Hid (FldsOk fs) := kb1.1 rfl
    clear kb1
    by_cases h120 : (b.size : Int) ≤ 120
    · have HY : Hid (RestP fs b) := ⟨HT.out, by omega⟩
      go_wp2_with fail
      go_ret
      exact BoolIs.yes HY.out hbw1
    · have HF : Hid (¬ RestP fs b) := fun h => by have := h.2; omega
      have hd : decide ((b.size : Int) ≤ 120) = false := by simpa using h120
      go_wp2_with fail
      go_ret
      exact BoolIs.no HF.out hbw1

theorem meth_empty {m : Int} (h : 1 ≤ m ∧ m ≤ 4) : (methB m).toList.isEmpty = false := by
  refine isEmpty_no ?_
  rcases meth_cases h with rfl | rfl | rfl | rfl <;> decide
set_option maxHeartbeats 1000000 in
theorem reqOk_any (m : Int) (p : ByteArray) (v : Value) (b : ByteArray) (n base : Nat) (fs : List (ByteArray × ByteArray)) (w : World) (hv : FieldsV w base v n fs) (hn : n ≤ 1073741824) (hsz : WalkF n fs) (hp : p.size ≤ maxLen) (hb : b.size ≤ maxLen) :
    Calls Try.prog 40 #[.agg #[v, .string b, .int .i64 m, .string p]] w fun e w' => BoolIs (ReqP m p fs b) w e w' := by
  obtain ⟨oa, cap, rfl, _⟩ := hv.slice
  obtain ⟨r, hr⟩ : ∃ r, r = w.heap.size := ⟨_, rfl⟩
  have HR : Hid (∀ W, Below (w.alloc (.cells #[.slice oa n cap, .string b, .int .i64 m, .string p] 63)).heap.size (w.alloc (.cells #[.slice oa n cap, .string b, .int .i64 m, .string p] 63)) W → (W.cell? ⟨r, 0, none⟩ = some (.slice oa n cap) ∧ W.cell? ⟨r, 1, none⟩ = some (.string b) ∧ W.cell? ⟨r, 2, none⟩ = some (.int .i64 m) ∧ W.cell? ⟨r, 3, none⟩ = some (.string p)) ∧ FieldsV W base (.slice oa n cap) n fs ∧ Below w.heap.size w W) := fun W h => by
    have hh := kept_new h
    rw [← hr] at hh
    exact ⟨⟨by simp [World.cell?, hh], by simp [World.cell?, hh], by simp [World.cell?, hh], by simp [World.cell?, hh]⟩, hv.below (below_new h), below_new h⟩
  have HSZ : Hid (WalkF n fs) := hsz
  have HP : Hid (p.size ≤ maxLen) := hp
  have HBS : Hid (b.size ≤ maxLen) := hb
  clear hv hsz hp hb
  go_enter Try.func40, Try.ntmps40
  go_wp2_with fail
  refine (methodName_any m _).mono ?_
  rintro e w1 ⟨rfl, hw1⟩
  have hb1 : Below (w.alloc (.cells #[.slice oa n cap, .string b, .int .i64 m, .string p] 63)).heap.size (w.alloc (.cells #[.slice oa n cap, .string b, .int .i64 m, .string p] 63)) w1 := by rw [hw1]; exact Below.refl _ _
  clear hw1
  rw [← hr]
  obtain ⟨⟨c0, c1, c2, c3⟩, _, hbw1⟩ := HR.out w1 hb1
  by_cases hm : 1 ≤ m ∧ m ≤ 4
  · have e1 := meth_empty hm
    have HM : Hid (1 ≤ m ∧ m ≤ 4) := hm
    generalize methB m = mt at e1 ⊢
    clear hr hm
    go_wp2_with fail
    refine (pathOk_any p _ HP.out).mono ?_
    rintro e w2 ⟨b1, rfl, kb1, bb2⟩
    have hb2 := hb1.trans (bb2.mono hb1.size)
    clear c0 c1 c2 c3 bb2 hb1 hbw1
    obtain ⟨⟨c0, c1, c2, c3⟩, hv2, hbw2⟩ := HR.out w2 hb2
    have HV2 : Hid (FieldsV w2 base (.slice oa n cap) n fs) := hv2
    clear hv2
    cases b1
    · have HF : Hid (¬ ReqP m p fs b) := fun h => by have := kb1.2 h.2.1; cases this
      clear kb1
      go_wp2_with fail
      go_ret
      exact BoolIs.no HF.out hbw2
    · have HT : Hid (PathOk p) := kb1.1 rfl
      clear kb1
      go_wp2_with fail
      refine (restOk_any _ b n base fs _ HV2.out hn HSZ.out HBS.out).mono ?_
      rintro e w3 ⟨b2, rfl, kb2, bb3⟩
      have hb3 := hb2.trans (bb3.mono hb2.size)
      clear c0 c1 c2 c3 bb3 hb2 hbw2
      obtain ⟨_, _, hbw3⟩ := HR.out w3 hb3
      cases b2
      · have HF : Hid (¬ ReqP m p fs b) := fun h => by have := kb2.2 h.2.2; cases this
        clear kb2
        go_wp2_with fail
        go_ret
        exact BoolIs.no HF.out hbw3
      · have HY : Hid (ReqP m p fs b) := ⟨HM.out, HT.out, kb2.1 rfl⟩
        clear kb2
        go_wp2_with fail
        go_ret
        exact BoolIs.yes HY.out hbw3
  · have HF : Hid (¬ ReqP m p fs b) := fun h => hm h.1
    rw [methB_none hm]
    clear hr hm
    go_wp2_with fail
    go_ret
    exact BoolIs.no HF.out hbw1

set_option maxHeartbeats 400000 in
theorem requestOf_any (m : Int) (p : ByteArray) (oa : Option Addr) (n cap : Nat) (b : ByteArray) (w : World) :
    Calls Try.prog 39 #[.agg #[.int .i64 m, .string p, .slice oa n cap, .string b]] w fun e w' => e = .returned (.agg #[.slice oa n cap, .string b, .int .i64 m, .string p]) ∧ Below w.heap.size w w' := by
  go_enter Try.func39, Try.ntmps39
  go_wp2
  exact bodyPost_ret (v := .agg #[.slice oa n cap, .string b, .int .i64 m, .string p]) (by simp [results, Try.results39, go_sem]) rfl ⟨rfl, ((Below.refl _ _).alloc (Nat.le_refl _) _).alloc (by simp) _⟩
set_option maxHeartbeats 400000 in
theorem implReqOk_any (m : Int) (p : ByteArray) (v : Value) (b : ByteArray) (n base : Nat) (fs : List (ByteArray × ByteArray)) (w : World) (hv : FieldsV w base v n fs) (hn : n ≤ 1073741824) (hsz : WalkF n fs) (hp : p.size ≤ maxLen) (hb : b.size ≤ maxLen) :
    Calls Try.prog 34 #[.agg #[.int .i64 m, .string p, v, .string b]] w fun e w' => BoolIs (ReqP m p fs b) w e w' := by
  obtain ⟨oa, cap, rfl, _⟩ := hv.slice
  have hb0 : Below w.heap.size w (w.alloc (.cells #[.int .i64 m, .string p, .slice oa n cap, .string b] 29)) := (Below.refl _ _).alloc (Nat.le_refl _) _
  go_enter Try.func34, Try.ntmps34
  go_wp2_with fail
  refine (requestOf_any m p oa n cap b _).mono ?_
  rintro e w1 ⟨rfl, bb1⟩
  have hb1 : Below w.heap.size w w1 := hb0.trans (bb1.mono hb0.size)
  have hv1 := hv.below hb1
  clear bb1 hb0 hv
  go_wp2_with fail
  refine (reqOk_any m p _ b n base fs _ hv1 hn hsz hp hb).mono ?_
  rintro e w2 ⟨b1, rfl, kb, bb2⟩
  have hb2 : Below w.heap.size w w2 := hb1.trans (bb2.mono hb1.size)
  have HK : Hid (b1 = true ↔ ReqP m p fs b) := kb
  clear hv1 hsz hb bb2 hb1 kb hp
  go_wp2_with fail
  go_ret
  exact ⟨b1, rfl, HK.out, hb2⟩

end Go.Proofs.Ytmcmeeibogkpaaa

namespace Go.Proofs.Ytmcmeeibogkpaaa
open Go.RowKit
open Go.Lib hiding intOf

set_option maxHeartbeats 1000000 in
theorem isRightGet_any (m : Int) (p : ByteArray) (v : Value) (b : ByteArray) (n base : Nat) (fs : List (ByteArray × ByteArray)) (w : World) (hv : FieldsV w base v n fs) (hn : n ≤ 1073741824) (hsz : WalkF n fs) (hp : p.size ≤ maxLen) (hb : b.size ≤ maxLen) :
    Calls Try.prog 24 #[.agg #[.int .i64 m, .string p, v, .string b]] w fun e w' => BoolIs (ReqP m p fs b ∧ m = 1) w e w' := by
  obtain ⟨oa, cap, rfl, _⟩ := hv.slice
  obtain ⟨r, hr⟩ : ∃ r, r = w.heap.size := ⟨_, rfl⟩
  obtain ⟨W1, hW1⟩ : ∃ W, W = w.alloc (.cells #[.int .i64 m, .string p, .slice oa n cap, .string b] 29) := ⟨_, rfl⟩
  have HW1 : Hid (w.alloc (.cells #[.int .i64 m, .string p, .slice oa n cap, .string b] 29) = W1) := hW1.symm
  have H1 : Hid (W1.heap[r]? = some (.cells #[.int .i64 m, .string p, .slice oa n cap, .string b] 29)) := by show _ = _; rw [hW1, hr]; exact heap_alloc_new w _
  have HB1 : Hid (Below w.heap.size w W1) := by show Below _ _ _; rw [hW1]; exact (Below.refl _ _).alloc (Nat.le_refl _) _
  have hv1 := hv.below HB1.out
  obtain ⟨⟨c0, c1, c2, c3⟩, _⟩ := four_facts H1.out
  clear hW1 hv
  go_enter Try.func24, Try.ntmps24
  go_upto_region 1 with fail
  rw [HW1.out, ← hr]
  clear hr HW1
  go_wp2_with fail
  refine (implReqOk_any m p _ b n base fs _ hv1 hn hsz hp hb).mono ?_
  rintro e w2 ⟨t, rfl, ht, b2⟩
  have HB2 : Hid (Below w.heap.size w w2) := HB1.out.trans (b2.mono HB1.out.size)
  have H2 : Hid (w2.heap[r]? = some (.cells #[.int .i64 m, .string p, .slice oa n cap, .string b] 29)) := by show _ = _; rw [b2.block r (Array.getElem?_eq_some_iff.1 H1.out).1]; exact H1.out
  clear c0 c1 c2 c3 hv1 H1 HB1 b2
  cases t with
  | false =>
    have HF : Hid (¬ (ReqP m p fs b ∧ m = 1)) := fun h => nomatch ht.2 h.1
    clear ht
    go_wp2_with fail
    go_ret
    exact BoolIs.no HF.out HB2.out
  | true =>
    have HQ : Hid (ReqP m p fs b) := ht.1 rfl
    obtain ⟨⟨c0, _⟩, _⟩ := four_facts H2.out
    have HT : Hid ((m == 1) = true ↔ (ReqP m p fs b ∧ m = 1)) := by show _ ↔ _; simp [HQ.out]
    clear ht HQ H2
    go_wp2_with fail
    go_ret
    exact ⟨_, rfl, HT.out, HB2.out⟩

end Go.Proofs.Ytmcmeeibogkpaaa

namespace Go.Proofs.Ytmcmeeibogkpaaa
open Go.RowKit
open Go.Lib hiding intOf

set_option maxHeartbeats 8000000 in
set_option maxRecDepth 100000 in
theorem mayBeFromHere_any (ma : Int) (pa : ByteArray) (va : Value) (ba : ByteArray) (na basea : Nat) (fsa : List (ByteArray × ByteArray)) (w : World) (hva : FieldsV w basea va na fsa) (hna : na ≤ 1048576) (hsa : WalkF na fsa) (hpa : pa.size ≤ maxLen) (hba : ba.size ≤ maxLen) (hga : ∀ x, (getV fsa x).size ≤ 1048576) (hca : CopyF fsa) :
    Calls Try.prog 14 #[.agg #[.int .i64 ma, .string pa, va, .string ba]] w fun e w' => BoolIs (HereP ma pa fsa ba) w e w' := by
  obtain ⟨oa, ca, hsl, _⟩ := hva.slice
  subst hsl
  have HVa : Hid (∀ W, Below w.heap.size w W → FieldsV W basea (.slice oa na ca) na fsa) := fun W h => hva.below h
  have HLFa : Hid (fsa.length = na) := hva.len
  have HSa : Hid (WalkF na fsa) := hsa
  have HPMa : Hid (pa.size ≤ maxLen) := hpa
  have HBMa : Hid (ba.size ≤ maxLen) := hba
  have HGVa : Hid (∀ x, (getV fsa x).size ≤ 1048576) := hga
  have HCa : Hid (CopyF fsa) := hca
  clear hva hsa hpa hba hga hca
  obtain ⟨ka, hka⟩ : ∃ t, t = ccR (getV fsa ccName) := ⟨_, rfl⟩
  have HCCa : Hid (∀ W, Below w.heap.size w W → Calls Try.prog 25 #[.slice oa na ca] W fun e w' => e = .returned (.agg #[.bool ka.ns, .bool ka.nc, .bool ka.pr, .bool ka.mu, .bool ka.ha, .int .i64 ka.age]) ∧ Below W.heap.size W w') := fun W hW => by
    have h := implCcOf_any _ na basea fsa W (HVa.out W hW) (by omega) HCa.out (HGVa.out _)
    rw [← hka] at h
    exact h
  have HCKa : Hid (ccR (getV fsa ccName) = ka) := hka.symm
  clear hka
  obtain ⟨xa0, xa1, xa2, xa3, xa4, xa5⟩ := ka
  dsimp only at HCCa
  have hfna := fun W => cc_ns xa0 xa1 xa2 xa3 xa4 xa5 W
  have hfca := fun W => cc_nc xa0 xa1 xa2 xa3 xa4 xa5 W
  have hb0 : Below w.heap.size w w := Below.refl _ _
  go_enter Try.func14, Try.ntmps14
  go_upto_region 1 with fail
  obtain ⟨qv1, hqv1⟩ : ∃ q, q = (w).heap.size := ⟨_, rfl⟩
  obtain ⟨w1, hW1⟩ : ∃ W, W = (w).alloc (.cells #[.int .i64 ma, .string pa, .slice oa na ca, .string ba] 29) := ⟨_, rfl⟩
  have hz1 : (w).heap.size = qv1 := hqv1.symm
  first | rw [← hW1, ← hqv1] | rw [← hW1]
  have hs1 : w1.heap.size = qv1 + 1 := by rw [hW1, ← hz1]; simp
  have bw : Below (w).heap.size (w) w1 := by rw [hW1]; exact (Below.refl _ _).alloc (Nat.le_refl _) _
  have hb1 : Below w.heap.size w (w1) := hb0.trans (bw.mono hb0.size)
  have HBv1_1 : Hid ((w1).heap[qv1]? = some (.cells #[.int .i64 ma, .string pa, .slice oa na ca, .string ba] 29)) := by show _ = _; rw [hW1, ← hz1]; exact heap_alloc_new _ _
  clear hb0 bw hW1 hz1
  clear hs1 hqv1
  have cv1_0 : (w1).cell? ⟨qv1, 0, none⟩ = some (.int .i64 ma) := (cell_of HBv1_1.out 0).trans rfl
  have cv1_1 : (w1).cell? ⟨qv1, 1, none⟩ = some (.string pa) := (cell_of HBv1_1.out 1).trans rfl
  have cv1_2 : (w1).cell? ⟨qv1, 2, none⟩ = some (.slice oa na ca) := (cell_of HBv1_1.out 2).trans rfl
  have cv1_3 : (w1).cell? ⟨qv1, 3, none⟩ = some (.string ba) := (cell_of HBv1_1.out 3).trans rfl
  go_wp2_with fail
  refine (isRightGet_any ma pa _ ba na basea fsa _ (HVa.out _ hb1) (by omega) HSa.out HPMa.out HBMa.out).mono ?_
  rintro e w2 ⟨rg, rfl, hrg, bw⟩
  have hb2 : Below w.heap.size w (w2) := hb1.trans (bw.mono hb1.size)
  have HBv1_2 : Hid ((w2).heap[qv1]? = some (.cells #[.int .i64 ma, .string pa, .slice oa na ca, .string ba] 29)) := blk_below HBv1_1.out bw
  clear hb1 HBv1_1 bw
  clear cv1_0 cv1_1 cv1_2 cv1_3
  cases rg with
  | false =>
    have HNrg : Hid (¬ (ReqP ma pa fsa ba ∧ ma = 1)) := fun h => nomatch hrg.2 h
    clear hrg
    go_wp2_with fail
    go_ret
    exact BoolIs.no (fun h => HNrg.out h.1) hb2
  | true =>
    have HYrg : Hid (ReqP ma pa fsa ba ∧ ma = 1) := hrg.1 rfl
    clear hrg
    have cv1_2 : (w2).cell? ⟨qv1, 2, none⟩ = some (.slice oa na ca) := (cell_of HBv1_2.out 2).trans rfl
    go_wp2_with fail
    refine (HCCa.out _ hb2).mono ?_
    rintro e w3 ⟨rfl, bw⟩
    have hb3 : Below w.heap.size w (w3) := hb2.trans (bw.mono hb2.size)
    have HBv1_3 : Hid ((w3).heap[qv1]? = some (.cells #[.int .i64 ma, .string pa, .slice oa na ca, .string ba] 29)) := blk_below HBv1_2.out bw
    clear hb2 HBv1_2 bw
    clear cv1_2
    cases xa0 with
    | false =>
      have HXNa : Hid ((ccR (getV fsa ccName)).ns = false) := by show _ = _; rw [HCKa.out]
      go_wp2_with fail
      go_ret
      exact BoolIs.yes ⟨HYrg.out, HXNa.out⟩ hb3
    | true =>
      have HXNa : Hid ((ccR (getV fsa ccName)).ns = true) := by show _ = _; rw [HCKa.out]
      go_wp2_with fail
      go_ret
      exact BoolIs.no (fun h => by have h1 := h.2; rw [HXNa.out] at h1; exact absurd h1 (by decide)) hb3

end Go.Proofs.Ytmcmeeibogkpaaa

namespace Go.Proofs.Ytmcmeeibogkpaaa
open Go.RowKit
open Go.Lib hiding intOf

set_option maxHeartbeats 8000000 in
set_option maxRecDepth 100000 in
theorem implAlike_any (ma : Int) (pa : ByteArray) (va : Value) (ba : ByteArray) (na basea : Nat) (fsa : List (ByteArray × ByteArray)) (mb : Int) (pb : ByteArray) (vb : Value) (bb : ByteArray) (nb baseb : Nat) (fsb : List (ByteArray × ByteArray)) (w : World) (hva : FieldsV w basea va na fsa) (hna : na ≤ 1048576) (hsa : WalkF na fsa) (hpa : pa.size ≤ maxLen) (hba : ba.size ≤ maxLen) (hga : ∀ x, (getV fsa x).size ≤ 1048576) (hca : CopyF fsa) (hvb : FieldsV w baseb vb nb fsb) (hnb : nb ≤ 1048576) (hsb : WalkF nb fsb) (hpb : pb.size ≤ maxLen) (hbb : bb.size ≤ maxLen) (hgb : ∀ x, (getV fsb x).size ≤ 1048576) (hcb : CopyF fsb) :
    Calls Try.prog 7 #[.agg #[.int .i64 ma, .string pa, va, .string ba], .agg #[.int .i64 mb, .string pb, vb, .string bb]] w fun e w' => BoolIs (AlikeP ma pa fsa ba mb pb fsb bb) w e w' := by
  obtain ⟨oa, ca, hsl, _⟩ := hva.slice
  subst hsl
  have HVa : Hid (∀ W, Below w.heap.size w W → FieldsV W basea (.slice oa na ca) na fsa) := fun W h => hva.below h
  have HLFa : Hid (fsa.length = na) := hva.len
  have HSa : Hid (WalkF na fsa) := hsa
  have HPMa : Hid (pa.size ≤ maxLen) := hpa
  have HBMa : Hid (ba.size ≤ maxLen) := hba
  have HGVa : Hid (∀ x, (getV fsa x).size ≤ 1048576) := hga
  have HCa : Hid (CopyF fsa) := hca
  clear hva hsa hpa hba hga hca
  obtain ⟨ob, cb, hsl, _⟩ := hvb.slice
  subst hsl
  have HVb : Hid (∀ W, Below w.heap.size w W → FieldsV W baseb (.slice ob nb cb) nb fsb) := fun W h => hvb.below h
  have HLFb : Hid (fsb.length = nb) := hvb.len
  have HSb : Hid (WalkF nb fsb) := hsb
  have HPMb : Hid (pb.size ≤ maxLen) := hpb
  have HBMb : Hid (bb.size ≤ maxLen) := hbb
  have HGVb : Hid (∀ x, (getV fsb x).size ≤ 1048576) := hgb
  have HCb : Hid (CopyF fsb) := hcb
  clear hvb hsb hpb hbb hgb hcb
  have hb0 : Below w.heap.size w w := Below.refl _ _
  go_enter Try.func7, Try.ntmps7
  go_upto_region 1 with fail
  obtain ⟨qv1, hqv1⟩ : ∃ q, q = (w).heap.size := ⟨_, rfl⟩
  obtain ⟨w1, hW1⟩ : ∃ W, W = (w).alloc (.cells #[.int .i64 ma, .string pa, .slice oa na ca, .string ba] 29) := ⟨_, rfl⟩
  have hz1 : (w).heap.size = qv1 := hqv1.symm
  first | rw [← hW1, ← hqv1] | rw [← hW1]
  have hs1 : w1.heap.size = qv1 + 1 := by rw [hW1, ← hz1]; simp
  have bw : Below (w).heap.size (w) w1 := by rw [hW1]; exact (Below.refl _ _).alloc (Nat.le_refl _) _
  have hb1 : Below w.heap.size w (w1) := hb0.trans (bw.mono hb0.size)
  have HBv1_1 : Hid ((w1).heap[qv1]? = some (.cells #[.int .i64 ma, .string pa, .slice oa na ca, .string ba] 29)) := by show _ = _; rw [hW1, ← hz1]; exact heap_alloc_new _ _
  clear hb0 bw hW1 hz1
  obtain ⟨qv2, hqv2⟩ : ∃ q, q = qv1 + 1 := ⟨_, rfl⟩
  obtain ⟨w2, hW2⟩ : ∃ W, W = (w1).alloc (.cells #[.int .i64 mb, .string pb, .slice ob nb cb, .string bb] 29) := ⟨_, rfl⟩
  have hz2 : (w1).heap.size = qv2 := by rw [hqv2]; exact hs1
  first | rw [← hW2, ← hqv2] | rw [← hW2]
  have hs2 : w2.heap.size = qv2 + 1 := by rw [hW2, ← hz2]; simp
  have bw : Below (w1).heap.size (w1) w2 := by rw [hW2]; exact (Below.refl _ _).alloc (Nat.le_refl _) _
  have hb2 : Below w.heap.size w (w2) := hb1.trans (bw.mono hb1.size)
  have HBv1_2 : Hid ((w2).heap[qv1]? = some (.cells #[.int .i64 ma, .string pa, .slice oa na ca, .string ba] 29)) := blk_below HBv1_1.out bw
  have HBv2_2 : Hid ((w2).heap[qv2]? = some (.cells #[.int .i64 mb, .string pb, .slice ob nb cb, .string bb] 29)) := by show _ = _; rw [hW2, ← hz2]; exact heap_alloc_new _ _
  clear hb1 HBv1_1 bw hW2 hz2
  clear hs2 hqv2 hs1 hqv1
  have cv1_0 : (w2).cell? ⟨qv1, 0, none⟩ = some (.int .i64 ma) := (cell_of HBv1_2.out 0).trans rfl
  have cv1_1 : (w2).cell? ⟨qv1, 1, none⟩ = some (.string pa) := (cell_of HBv1_2.out 1).trans rfl
  have cv1_2 : (w2).cell? ⟨qv1, 2, none⟩ = some (.slice oa na ca) := (cell_of HBv1_2.out 2).trans rfl
  have cv1_3 : (w2).cell? ⟨qv1, 3, none⟩ = some (.string ba) := (cell_of HBv1_2.out 3).trans rfl
  go_wp2_with fail
  refine (mayBeFromHere_any ma pa _ ba na basea fsa _ (HVa.out _ hb2) (by omega) HSa.out HPMa.out HBMa.out HGVa.out HCa.out).mono ?_
  rintro e w3 ⟨ha, rfl, hha, bw⟩
  have hb3 : Below w.heap.size w (w3) := hb2.trans (bw.mono hb2.size)
  have HBv1_3 : Hid ((w3).heap[qv1]? = some (.cells #[.int .i64 ma, .string pa, .slice oa na ca, .string ba] 29)) := blk_below HBv1_2.out bw
  have HBv2_3 : Hid ((w3).heap[qv2]? = some (.cells #[.int .i64 mb, .string pb, .slice ob nb cb, .string bb] 29)) := blk_below HBv2_2.out bw
  clear hb2 HBv1_2 HBv2_2 bw
  clear cv1_0 cv1_1 cv1_2 cv1_3
  cases ha with
  | false =>
    have HNha : Hid (¬ (HereP ma pa fsa ba)) := fun h => nomatch hha.2 h
    clear hha
    go_wp2_with fail
    go_ret
    exact BoolIs.no (fun h => HNha.out h.1.1) hb3
  | true =>
    have HYha : Hid (HereP ma pa fsa ba) := hha.1 rfl
    clear hha
    have cv2_0 : (w3).cell? ⟨qv2, 0, none⟩ = some (.int .i64 mb) := (cell_of HBv2_3.out 0).trans rfl
    have cv2_1 : (w3).cell? ⟨qv2, 1, none⟩ = some (.string pb) := (cell_of HBv2_3.out 1).trans rfl
    have cv2_2 : (w3).cell? ⟨qv2, 2, none⟩ = some (.slice ob nb cb) := (cell_of HBv2_3.out 2).trans rfl
    have cv2_3 : (w3).cell? ⟨qv2, 3, none⟩ = some (.string bb) := (cell_of HBv2_3.out 3).trans rfl
    go_wp2_with fail
    refine (mayBeFromHere_any mb pb _ bb nb baseb fsb _ (HVb.out _ hb3) (by omega) HSb.out HPMb.out HBMb.out HGVb.out HCb.out).mono ?_
    rintro e w4 ⟨hb, rfl, hhb, bw⟩
    have hb4 : Below w.heap.size w (w4) := hb3.trans (bw.mono hb3.size)
    have HBv1_4 : Hid ((w4).heap[qv1]? = some (.cells #[.int .i64 ma, .string pa, .slice oa na ca, .string ba] 29)) := blk_below HBv1_3.out bw
    have HBv2_4 : Hid ((w4).heap[qv2]? = some (.cells #[.int .i64 mb, .string pb, .slice ob nb cb, .string bb] 29)) := blk_below HBv2_3.out bw
    clear hb3 HBv1_3 HBv2_3 bw
    clear cv2_0 cv2_1 cv2_2 cv2_3
    cases hb with
    | false =>
      have HNhb : Hid (¬ (HereP mb pb fsb bb)) := fun h => nomatch hhb.2 h
      clear hhb
      go_wp2_with fail
      go_ret
      exact BoolIs.no (fun h => HNhb.out h.1.2) hb4
    | true =>
      have HYhb : Hid (HereP mb pb fsb bb) := hhb.1 rfl
      clear hhb
      by_cases hc1 : pa = pb
      · have hc1b : ((pa).toList == (pb).toList) = true := (text_beq _ _).2 hc1
        have HPP : Hid ((pa = pb)) := hc1
        clear hc1
        have cv1_1 : (w4).cell? ⟨qv1, 1, none⟩ = some (.string pa) := (cell_of HBv1_4.out 1).trans rfl
        have cv1_2 : (w4).cell? ⟨qv1, 2, none⟩ = some (.slice oa na ca) := (cell_of HBv1_4.out 2).trans rfl
        have cv2_1 : (w4).cell? ⟨qv2, 1, none⟩ = some (.string pb) := (cell_of HBv2_4.out 1).trans rfl
        have cv2_2 : (w4).cell? ⟨qv2, 2, none⟩ = some (.slice ob nb cb) := (cell_of HBv2_4.out 2).trans rfl
        go_wp2_with fail
        refine (equalFld_any _ _ na nb _ _ fsa fsb _ (HVa.out _ hb4) (HVb.out _ hb4) (by omega) (by omega)).mono ?_
        rintro e w5 ⟨lf, rfl, hlf, bw⟩
        have hb5 : Below w.heap.size w (w5) := hb4.trans (bw.mono hb4.size)
        have HBv1_5 : Hid ((w5).heap[qv1]? = some (.cells #[.int .i64 ma, .string pa, .slice oa na ca, .string ba] 29)) := blk_below HBv1_4.out bw
        have HBv2_5 : Hid ((w5).heap[qv2]? = some (.cells #[.int .i64 mb, .string pb, .slice ob nb cb, .string bb] 29)) := blk_below HBv2_4.out bw
        clear hb4 HBv1_4 HBv2_4 bw
        clear cv1_1 cv1_2 cv2_1 cv2_2
        cases lf with
        | false =>
          have HNlf : Hid (¬ (fsa = fsb)) := fun h => nomatch hlf.2 h
          clear hlf
          go_wp2_with fail
          go_ret
          exact BoolIs.no (fun h => HNlf.out h.2.2) hb5
        | true =>
          have HYlf : Hid (fsa = fsb) := hlf.1 rfl
          clear hlf
          go_wp2_with fail
          go_ret
          exact BoolIs.yes ⟨⟨HYha.out, HYhb.out⟩, HPP.out, HYlf.out⟩ hb5
      · have hc1b : ((pa).toList == (pb).toList) = false := text_beq_no hc1
        have HPP : Hid (¬ (pa = pb)) := hc1
        clear hc1
        have cv1_1 : (w4).cell? ⟨qv1, 1, none⟩ = some (.string pa) := (cell_of HBv1_4.out 1).trans rfl
        have cv2_1 : (w4).cell? ⟨qv2, 1, none⟩ = some (.string pb) := (cell_of HBv2_4.out 1).trans rfl
        go_wp2_with fail
        go_ret
        exact BoolIs.no (fun h => HPP.out h.2.1) hb4

end Go.Proofs.Ytmcmeeibogkpaaa

namespace Go.Proofs.Ytmcmeeibogkpaaa
open Go.RowKit Go.WideShapes
open Go.Lib hiding intOf

set_option maxRecDepth 100000 in
/-- A request among the arguments: what it holds. -/
theorem openReq {H : Type} {enc : TypeId × Value → H} {W : World} {r : Reach} {b0 : Nat} {v : Value} {d : DataW H} {ps : List MemPlace} (hval : Value.okWide Try.prog W r b0 24 v) (h : DataW.Trod enc Try.prog W 0 (fun _ => true) true 24 v d ps) :
    ∃ (m : Int) (p : ByteArray) (a : Option Addr) (n cap : Nat) (b : ByteArray) (fs : List (ByteArray × ByteArray)), v = .agg #[.int .i64 m, .string p, .slice a n cap, .string b] ∧ ArgF W W.heap.size a n fs ∧ n ≤ maxLen ∧ WalkF n fs ∧ p.size ≤ maxLen ∧ b.size ≤ maxLen := by
  obtain ⟨cs, rfl, hsz⟩ := okWide_struct Try.underlying24 hval
  obtain ⟨fuel, hf⟩ := h
  obtain ⟨ys, q, _, _, _, hyl, hg⟩ := DataW.trod_struct Try.underlying24 hf
  have hc4 : Try.prog.cellsOf 24 = 4 := by kernel_rfl
  have e3 : Try.prog.cellsOf 3 = 1 := by kernel_rfl
  have e9 : Try.prog.cellsOf 9 = 1 := by kernel_rfl
  have eL : Try.prog.cellsOf 22 = 1 := by kernel_rfl
  rw [hc4] at hsz
  obtain ⟨l⟩ := cs
  obtain ⟨c0, c1, c2, c3, rfl⟩ : ∃ c0 c1 c2 c3, l = [c0, c1, c2, c3] := by
    match l, hsz with
    | [c0, c1, c2, c3], _ => exact ⟨c0, c1, c2, c3, rfl⟩
  have g0 := hg 0 _ rfl
  have g1 := hg 1 _ rfl
  have g2 := hg 2 _ rfl
  have g3 := hg 3 _ rfl
  simp [Value.cells, e3, e9, eL] at g0 g1 g2 g3
  have hy4 : ys.length = 4 := hyl
  rw [List.getElem?_eq_getElem (show 0 < ys.length by omega)] at g0
  rw [List.getElem?_eq_getElem (show 1 < ys.length by omega)] at g1
  rw [List.getElem?_eq_getElem (show 2 < ys.length by omega)] at g2
  rw [List.getElem?_eq_getElem (show 3 < ys.length by omega)] at g3
  obtain ⟨m, hm, _, _⟩ := DataW.trod_int Try.underlying3 g0
  obtain ⟨p, hp, _, hps⟩ := DataW.trod_string Try.underlying9 g1
  obtain ⟨b, hb, _, hbs⟩ := DataW.trod_string Try.underlying9 g3
  obtain ⟨a, n, cap, rfl⟩ : ∃ a n cap, c2 = .slice a n cap := by
    rcases DataW.trod_slice Try.underlying22 g2 with ⟨h, _⟩ | ⟨a, n, cap, _, _, _, _, h, _⟩
    · exact ⟨none, 0, 0, by simpa using h⟩
    · exact ⟨_, n, cap, by simpa using h⟩
  obtain ⟨fs, h1, h2, h3⟩ := openFields g2
  simp only [List.cons.injEq, and_true] at hm hb hp
  subst hm hb hp
  exact ⟨m, p, a, n, cap, b, fs, rfl, h1, h2, h3, hps, hbs⟩

end Go.Proofs.Ytmcmeeibogkpaaa
