/- What the exact laws of chapter 3 do with requests and answers: measured, copied, held against each other, marked: contracts over the translation. -/
import Derived.Test.YtjocljdifmlghaaMsgReq
namespace Go.Proofs.Ytjocljdifmlghaa
open Go.RowKit
open Go.Lib hiding intOf

/-- The measure is negative, or it says how much room is left of L. -/
def SzLe (L : Int) (n : Nat) (fs : List (ByteArray × ByteArray)) (w : World) (e : Ending) (w' : World) : Prop :=
  ∃ r : Int, e = .returned (.int .i64 r) ∧ r ≤ L ∧ (0 ≤ r → n ≤ 1048576 ∧ szTo fs n ≤ 1048576) ∧ Below w.heap.size w w'

set_option maxHeartbeats 1000000 in
theorem szFieldS_left (L : Int) (hL0 : 0 ≤ L) (hL1 : L ≤ 1048576) (B : Nat) (a : Option Addr) (n cap : Nat) (fs : List (ByteArray × ByteArray)) (w : World) (harg : ArgF w B a n fs) (hB : B ≤ w.heap.size) (hn : n ≤ maxLen) (hsz : ∀ i, i < n → (nameAt fs i).size ≤ maxLen ∧ (valAt fs i).size ≤ maxLen) :
    Calls Try.prog 15 #[.slice a n cap, .int .i64 L] w fun e w' => SzLe L n fs w e w' := by
  unfold maxLen at hn
  have HS : Hid (∀ i, i < n → (nameAt fs i).size ≤ maxLen ∧ (valAt fs i).size ≤ maxLen) := hsz
  clear hsz
  by_cases c1 : L - (n : Int) < 0
  · go_enter Try.func15, Try.ntmps15
    go_wp2
    go_ret
    exact ⟨-1, rfl, by omega, fun h => absurd h (by omega), Below.refl _ _⟩
  · go_enter Try.func15, Try.ntmps15
    go_wp2
    go_loopw [1, 5] (fun l i wr => ∃ (k : Nat) (x : Int), k ≤ n ∧ i = .int .i64 (k : Int) ∧ l = .int .i64 x ∧ 0 ≤ x ∧ x ≤ L ∧ Hid (x = L - (n : Int) - (szTo fs k : Int)) ∧ Below w.heap.size w wr) (fun _ i _ => n - (intOf i).toNat)
    case atStart => exact ⟨0, _, Nat.zero_le _, rfl, rfl, by omega, by omega, by show _ = _; simp [szTo], Below.refl _ _⟩
    case round =>
      obtain ⟨k, x, hk, rfl, rfl, hx0, hx1, hx, hbw⟩ := hrel
      by_cases hlt : k < n
      · have hlt2 : (k : Int) < (n : Int) := by omega
        obtain ⟨b, off, rfl, hbB, hc1, hc2⟩ := (harg.below (hbw.mono hB)).get k hlt
        obtain ⟨s1, s2⟩ := HS.out k hlt
        obtain ⟨nm, hnm⟩ : ∃ y, y = nameAt fs k := ⟨_, rfl⟩
        obtain ⟨vl, hvl⟩ : ∃ y, y = valAt fs k := ⟨_, rfl⟩
        have HZ : Hid (szTo fs (k + 1) = szTo fs k + nm.size + vl.size) := by rw [hnm, hvl]; rfl
        rw [← hnm] at hc1 s1
        rw [← hvl] at hc2 s2
        clear hnm hvl
        go_wp2_with fail
        refine (szField_any nm vl x _ hx0 (by omega) s1 s2).mono ?_
        rintro e w1 ⟨rfl, hb1⟩
        have hb2 : Below w.heap.size w w1 := hbw.trans (hb1.mono hbw.size)
        clear hc1 hc2 hb1
        by_cases d1 : x - (nm.size : Int) < 0
        · rw [if_pos d1]
          go_wp2
          go_ret
          exact ⟨-1, rfl, by omega, fun h => absurd h (by omega), hb2⟩
        · rw [if_neg d1]
          by_cases d2 : x - (nm.size : Int) - (vl.size : Int) < 0
          · rw [if_pos d2]
            go_wp2
            go_ret
            exact ⟨-1, rfl, by omega, fun h => absurd h (by omega), hb2⟩
          · rw [if_neg d2]
            obtain ⟨y, hy⟩ : ∃ y, y = x - (nm.size : Int) - (vl.size : Int) := ⟨_, rfl⟩
            rw [← hy] at d2 ⊢
            have HY : Hid (y = L - (n : Int) - (szTo fs (k + 1) : Int)) := by
              show _ = _
              rw [hy, HZ.out, hx.out]; omega
            have hy1 : y ≤ L := by omega
            clear hy d1
            go_wp2
            go_roundw
            case rel => exact ⟨k + 1, y, by omega, by go_num, rfl, by omega, hy1, HY, hb2⟩
            case measure => simp [intOf]; omega
      · have hF : Hid (n ≤ 1048576 ∧ szTo fs n ≤ 1048576) := by
          have := hx.out
          obtain rfl : k = n := by omega
          exact ⟨by omega, by omega⟩
        go_wp2
        go_ret
        exact ⟨x, rfl, hx1, fun _ => hF.out, hbw⟩

/-- A request among the arguments is small, or the measure says no. -/
def SzReqIs (p : ByteArray) (n : Nat) (fs : List (ByteArray × ByteArray)) (b : ByteArray) (w : World) (e : Ending) (w' : World) : Prop :=
  ∃ r : Int, e = .returned (.int .i64 r) ∧ (0 ≤ r → (p.size ≤ 1048576 ∧ b.size ≤ 1048576) ∧ n ≤ 1048576 ∧ szTo fs n ≤ 1048576) ∧ Below w.heap.size w w'

set_option maxHeartbeats 2000000 in
set_option maxRecDepth 100000 in
theorem szReq_any (m : Int) (p : ByteArray) (a : Option Addr) (n cap : Nat) (b : ByteArray) (fs : List (ByteArray × ByteArray)) (w : World) (harg : ArgF w w.heap.size a n fs) (hn : n ≤ maxLen) (hsz : WalkF n fs) (hp : p.size ≤ maxLen) (hb : b.size ≤ maxLen) :
    Calls Try.prog 5 #[.agg #[.int .i64 m, .string p, .slice a n cap, .string b], .int .i64 1048576] w fun e w' => SzReqIs p n fs b w e w' := by
  unfold maxLen at hp hb
  obtain ⟨r, hr⟩ : ∃ r, r = w.heap.size := ⟨_, rfl⟩
  have HR : Hid (∀ W, Below (w.alloc (.cells #[.int .i64 m, .string p, .slice a n cap, .string b] 24)).heap.size (w.alloc (.cells #[.int .i64 m, .string p, .slice a n cap, .string b] 24)) W → (W.cell? ⟨r, 1, none⟩ = some (.string p) ∧ W.cell? ⟨r, 2, none⟩ = some (.slice a n cap) ∧ W.cell? ⟨r, 3, none⟩ = some (.string b)) ∧ ArgF W w.heap.size a n fs ∧ w.heap.size ≤ W.heap.size ∧ Below w.heap.size w W) := fun W h => by
    have hh := kept_new h
    rw [← hr] at hh
    exact ⟨⟨by simp [World.cell?, hh], by simp [World.cell?, hh], by simp [World.cell?, hh]⟩, harg.below (below_new h), (below_new h).size, below_new h⟩
  obtain ⟨⟨c1, c2, c3⟩, harg0, hs0, hbw0⟩ := HR.out _ (Below.refl _ _)
  have HB0 : Hid (Below w.heap.size w (w.alloc (.cells #[.int .i64 m, .string p, .slice a n cap, .string b] 24))) := hbw0
  have HSZ : Hid (WalkF n fs) := hsz
  have HN : Hid (n ≤ maxLen) := hn
  have HARG : Hid (ArgF (w.alloc (.cells #[.int .i64 m, .string p, .slice a n cap, .string b] 24)) w.heap.size a n fs) := harg0
  clear harg hsz harg0 hbw0 hn
  by_cases d1 : (1048576 : Int) - (p.size : Int) < 0
  · go_enter Try.func5, Try.ntmps5
    rw [hr] at c1
    go_wp2_with fail
    go_ret
    exact ⟨-1, rfl, fun h => absurd h (by omega), HB0.out⟩
  · go_enter Try.func5, Try.ntmps5
    rw [hr] at c1 c2
    go_wp2_with fail
    refine (szFieldS_left (1048576 - (p.size : Int)) (by omega) (by omega) w.heap.size a n cap fs _ HARG.out hs0 HN.out HSZ.out).mono ?_
    rintro e w1 ⟨x, rfl, hx1, hx2, bb1⟩
    clear c1 c2 c3
    obtain ⟨⟨c1, c2, c3⟩, _, _, hbw1⟩ := HR.out w1 bb1
    rw [← hr]
    clear bb1 hr
    by_cases hx0 : x < 0
    · clear hx2
      go_wp2_with fail
      go_ret
      exact ⟨-1, rfl, fun h => absurd h (by omega), hbw1⟩
    · obtain ⟨h1, h2⟩ := hx2 (by omega)
      by_cases d2 : x - (b.size : Int) < 0
      · go_wp2_with fail
        go_ret
        exact ⟨-1, rfl, fun h => absurd h (by omega), hbw1⟩
      · go_wp2_with fail
        go_ret
        exact ⟨_, rfl, fun _ => ⟨⟨by omega, by omega⟩, h1, h2⟩, hbw1⟩

set_option maxHeartbeats 2000000 in
set_option maxRecDepth 100000 in
theorem toReq_any (m : Int) (p : ByteArray) (a : Option Addr) (n cap : Nat) (b : ByteArray) (fs : List (ByteArray × ByteArray)) (B : Nat) (w : World) (harg : ArgF w B a n fs) (hB : B ≤ w.heap.size) (hn : n ≤ 1048576) :
    Calls Try.prog 7 #[.agg #[.int .i64 m, .string p, .slice a n cap, .string b]] w fun e w' => ∃ v, e = .returned (.agg #[.int .i64 m, .string p, v, .string b]) ∧ w'.ownsRow w.heap.size 61 2 v n (flatF fs) ∧ Below w.heap.size w w' := by
  obtain ⟨w0, hw0⟩ : ∃ W, W = (((w.alloc (.cells #[.int .i64 m, .string p, .slice a n cap, .string b] 24)).alloc (.cells #[.int .i64 0, .string ⟨#[]⟩, .slice none 0 0, .string ⟨#[]⟩] 29)).alloc (.cells #[.int .i64 m, .string p, .slice none 0 0, .string ⟨#[]⟩] 29)) := ⟨_, rfl⟩
  have hs0 : w0.heap.size = w.heap.size + 1 + 1 + 1 := by rw [hw0]; simp
  have hb0 : Below w.heap.size w w0 := by rw [hw0]; exact (((Below.refl _ w).alloc (Nat.le_refl _) _).alloc (by simp) _).alloc (by simp; omega) _
  have x1 : w0.heap[w.heap.size]? = some (.cells #[.int .i64 m, .string p, .slice a n cap, .string b] 24) := by
    rw [hw0, heap_alloc_old _ _ (by simp; omega), heap_alloc_old _ _ (by simp)]; exact heap_alloc_new w _
  have x2 : w0.heap[w.heap.size + 1]? = some (.cells #[.int .i64 0, .string ⟨#[]⟩, .slice none 0 0, .string ⟨#[]⟩] 29) := by
    rw [hw0, heap_alloc_old _ _ (by simp)]
    have := heap_alloc_new (w.alloc (.cells #[.int .i64 m, .string p, .slice a n cap, .string b] 24)) (.cells #[.int .i64 0, .string ⟨#[]⟩, .slice none 0 0, .string ⟨#[]⟩] 29)
    simpa using this
  have x3 : w0.heap[w.heap.size + 1 + 1]? = some (.cells #[.int .i64 m, .string p, .slice none 0 0, .string ⟨#[]⟩] 29) := by
    rw [hw0]
    have := heap_alloc_new ((w.alloc (.cells #[.int .i64 m, .string p, .slice a n cap, .string b] 24)).alloc (.cells #[.int .i64 0, .string ⟨#[]⟩, .slice none 0 0, .string ⟨#[]⟩] 29)) (.cells #[.int .i64 m, .string p, .slice none 0 0, .string ⟨#[]⟩] 29)
    simpa using this
  go_enter Try.func7, Try.ntmps7
  go_wp2_with fail
  rw [← hw0]
  refine (toFieldS_any B a n cap fs _ (harg.below (hb0.mono hB)) (by omega) hn).mono ?_
  rintro e w1 ⟨v, rfl, hown, bb1⟩
  obtain ⟨fo, fc, rfl⟩ := slice_of_owns hown
  rw [← bb1.block _ (by omega)] at x1 x2 x3
  obtain ⟨o, ho⟩ : ∃ o, o = w.heap.size + 1 + 1 := ⟨_, rfl⟩
  obtain ⟨q, hq⟩ : ∃ q, q = w.heap.size + 1 := ⟨_, rfl⟩
  obtain ⟨c, hc⟩ : ∃ c, c = w.heap.size := ⟨_, rfl⟩
  rw [← ho] at x3
  rw [← hq] at x2
  rw [← hc] at x1
  have hqo : q ≠ o := by omega
  have hco : c ≠ o := by omega
  have hoq : o ≠ q := by omega
  have hoc : o ≠ c := by omega
  have hqw : w.heap.size ≤ q := by omega
  have how : w.heap.size ≤ o := by omega
  obtain ⟨⟨a0, a1, a2, a3⟩, _⟩ := four_facts x1
  obtain ⟨⟨b0, b1, b2, b3⟩, e0, e1, e2, e3⟩ := four_facts x2
  obtain ⟨⟨d0, d1, d2, d3⟩, f0, f1, f2, f3⟩ := four_facts x3
  have hbw1 : Below w.heap.size w w1 := hb0.trans (bb1.mono hb0.size)
  have HFIN : Hid (∀ W : World, W = (w1.setCell ⟨o, 2, none⟩ (.slice fo n fc)).setCell ⟨o, 3, none⟩ (.string b) → ((fourSet W q (.int .i64 m) (.string p) (.slice fo n fc) (.string b)).heap[q]? = some (.cells #[.int .i64 m, .string p, .slice fo n fc, .string b] 29)) ∧ (fourSet W q (.int .i64 m) (.string p) (.slice fo n fc) (.string b)).ownsRow w.heap.size 61 2 (.slice fo n fc) n (flatF fs) ∧ Below w.heap.size w (fourSet W q (.int .i64 m) (.string p) (.slice fo n fc) (.string b))) := fun W hW => by
    have hx2 : W.heap[q]? = some (.cells #[.int .i64 0, .string ⟨#[]⟩, .slice none 0 0, .string ⟨#[]⟩] 29) := by rw [hW, heap_setCell_other _ _ q _ (fun e => hqo e), heap_setCell_other _ _ q _ (fun e => hqo e)]; exact x2
    have hbW : Below w.heap.size w W := by rw [hW]; exact (hbw1.setCell (p := ⟨o, 2, none⟩) how _).setCell (p := ⟨o, 3, none⟩) how _
    refine ⟨four_set hx2 _ _ _ _, ?_, below_four hbW hqw⟩
    have hown1 : w1.ownsRow w.heap.size 61 2 (.slice fo n fc) n (flatF fs) := by
      refine ⟨hown.1, ?_⟩
      rcases hown.2 with h6 | ⟨g6, cap6, cur6, h7, h8, h9⟩
      · exact .inl h6
      · exact .inr ⟨g6, cap6, cur6, h7, by omega, h9⟩
    refine ⟨hown1.1, ?_⟩
    rcases hown.2 with h6 | ⟨g6, cap6, cur6, h7, h8, h9, h10⟩
    · exact .inl h6
    · refine .inr ⟨g6, cap6, cur6, h7, by omega, ?_, h10⟩
      have n1 : g6 ≠ q := by omega
      have n2 : g6 ≠ o := by omega
      unfold fourSet
      rw [heap_setCell_other _ _ g6 _ (fun e => n1 e), heap_setCell_other _ _ g6 _ (fun e => n1 e), heap_setCell_other _ _ g6 _ (fun e => n1 e), heap_setCell_other _ _ g6 _ (fun e => n1 e), hW, heap_setCell_other _ _ g6 _ (fun e => n2 e), heap_setCell_other _ _ g6 _ (fun e => n2 e)]
      exact h9
  obtain ⟨hh, hof, hbf⟩ := HFIN.out _ rfl
  obtain ⟨⟨k0, k1, k2, k3⟩, _⟩ := four_facts hh
  have HOF : Hid _ := hof
  have HBF : Hid _ := hbf
  unfold fourSet at k0 k1 k2 k3
  rw [← ho, ← hq, ← hc]
  clear x1 x2 x3 ho hq hc hw0 hs0 hb0 bb1 hown hbw1 hh hof hbf harg hB HFIN a0 a1 a2
  go_wp2_with fail
  exact bodyPost_ret (v := .agg #[.int .i64 m, .string p, .slice fo n fc, .string b]) (by simp [results, Try.results7, go_sem, k0, k1, k2, k3]) rfl ⟨_, rfl, HOF.out, HBF.out⟩

theorem three_facts {W : World} {R : Nat} {a b c : Value} {t : TypeId} (h : W.heap[R]? = some (.cells #[a, b, c] t)) :
    (W.cell? ⟨R, 0, none⟩ = some a ∧ W.cell? ⟨R, 1, none⟩ = some b ∧ W.cell? ⟨R, 2, none⟩ = some c) ∧ W.frozen? ⟨R, 0, none⟩ = false ∧ W.frozen? ⟨R, 1, none⟩ = false ∧ W.frozen? ⟨R, 2, none⟩ = false := by
  refine ⟨⟨?_, ?_, ?_⟩, ?_, ?_, ?_⟩ <;> simp [World.cell?, World.frozen?, h]
/-- The three cells of an answer's memory, written. -/
def threeSet (w : World) (r : Nat) (a b c : Value) : World := ((w.setCell ⟨r, 0, none⟩ a).setCell ⟨r, 1, none⟩ b).setCell ⟨r, 2, none⟩ c
theorem three_set {W : World} {R : Nat} {a b c : Value} {t : TypeId} (h : W.heap[R]? = some (.cells #[a, b, c] t)) (a' b' c' : Value) : (threeSet W R a' b' c').heap[R]? = some (.cells #[a', b', c'] t) := by
  have := heap_set _ R 2 _ _ _ c' (heap_set _ R 1 _ _ _ b' (heap_set W R 0 _ _ _ a' h))
  simpa [threeSet] using this
theorem below_three {w W : World} {B R : Nat} {a b c : Value} (h : Below B w W) (hR : B ≤ R) : Below B w (threeSet W R a b c) :=
  ((h.setCell (p := ⟨R, 0, none⟩) hR _).setCell (p := ⟨R, 1, none⟩) hR _).setCell (p := ⟨R, 2, none⟩) hR _

def SzRespIs (n : Nat) (fs : List (ByteArray × ByteArray)) (b : ByteArray) (w : World) (e : Ending) (w' : World) : Prop :=
  ∃ r : Int, e = .returned (.int .i64 r) ∧ (0 ≤ r → b.size ≤ 1048576 ∧ n ≤ 1048576 ∧ szTo fs n ≤ 1048576) ∧ Below w.heap.size w w'

set_option maxHeartbeats 2000000 in
set_option maxRecDepth 100000 in
theorem szResp_any (m : Int) (a : Option Addr) (n cap : Nat) (b : ByteArray) (fs : List (ByteArray × ByteArray)) (w : World) (harg : ArgF w w.heap.size a n fs) (hn : n ≤ maxLen) (hsz : WalkF n fs) (hb : b.size ≤ maxLen) :
    Calls Try.prog 10 #[.agg #[.int .i64 m, .slice a n cap, .string b], .int .i64 1048576] w fun e w' => SzRespIs n fs b w e w' := by
  unfold maxLen at hb
  obtain ⟨r, hr⟩ : ∃ r, r = w.heap.size := ⟨_, rfl⟩
  have HR : Hid (∀ W, Below (w.alloc (.cells #[.int .i64 m, .slice a n cap, .string b] 34)).heap.size (w.alloc (.cells #[.int .i64 m, .slice a n cap, .string b] 34)) W → (W.cell? ⟨r, 1, none⟩ = some (.slice a n cap) ∧ W.cell? ⟨r, 2, none⟩ = some (.string b)) ∧ ArgF W w.heap.size a n fs ∧ w.heap.size ≤ W.heap.size ∧ Below w.heap.size w W) := fun W h => by
    have hh := kept_new h
    rw [← hr] at hh
    exact ⟨⟨by simp [World.cell?, hh], by simp [World.cell?, hh]⟩, harg.below (below_new h), (below_new h).size, below_new h⟩
  obtain ⟨⟨c2, c3⟩, harg0, hs0, _⟩ := HR.out _ (Below.refl _ _)
  have HSZ : Hid (WalkF n fs) := hsz
  have HN : Hid (n ≤ maxLen) := hn
  have HARG : Hid (ArgF (w.alloc (.cells #[.int .i64 m, .slice a n cap, .string b] 34)) w.heap.size a n fs) := harg0
  clear harg hsz harg0 hn
  go_enter Try.func10, Try.ntmps10
  rw [hr] at c2
  go_wp2_with fail
  refine (szFieldS_left 1048576 (by omega) (by omega) w.heap.size a n cap fs _ HARG.out hs0 HN.out HSZ.out).mono ?_
  rintro e w1 ⟨x, rfl, hx1, hx2, bb1⟩
  clear c2 c3
  obtain ⟨⟨c2, c3⟩, _, _, hbw1⟩ := HR.out w1 bb1
  rw [← hr]
  clear bb1 hr
  by_cases hx0 : x < 0
  · clear hx2
    go_wp2_with fail
    go_ret
    exact ⟨-1, rfl, fun h => absurd h (by omega), hbw1⟩
  · obtain ⟨h1, h2⟩ := hx2 (by omega)
    by_cases d2 : x - (b.size : Int) < 0
    · go_wp2_with fail
      go_ret
      exact ⟨-1, rfl, fun h => absurd h (by omega), hbw1⟩
    · go_wp2_with fail
      go_ret
      exact ⟨_, rfl, fun _ => ⟨by omega, h1, h2⟩, hbw1⟩

set_option maxHeartbeats 2000000 in
set_option maxRecDepth 100000 in
theorem toResp_any (m : Int) (a : Option Addr) (n cap : Nat) (b : ByteArray) (fs : List (ByteArray × ByteArray)) (B : Nat) (w : World) (harg : ArgF w B a n fs) (hB : B ≤ w.heap.size) (hn : n ≤ 1048576) :
    Calls Try.prog 12 #[.agg #[.int .i64 m, .slice a n cap, .string b]] w fun e w' => ∃ v, e = .returned (.agg #[.int .i64 m, v, .string b]) ∧ w'.ownsRow w.heap.size 61 2 v n (flatF fs) ∧ Below w.heap.size w w' := by
  obtain ⟨w0, hw0⟩ : ∃ W, W = (((w.alloc (.cells #[.int .i64 m, .slice a n cap, .string b] 34)).alloc (.cells #[.int .i64 0, .slice none 0 0, .string ⟨#[]⟩] 38)).alloc (.cells #[.int .i64 m, .slice none 0 0, .string ⟨#[]⟩] 38)) := ⟨_, rfl⟩
  have hs0 : w0.heap.size = w.heap.size + 1 + 1 + 1 := by rw [hw0]; simp
  have hb0 : Below w.heap.size w w0 := by rw [hw0]; exact (((Below.refl _ w).alloc (Nat.le_refl _) _).alloc (by simp) _).alloc (by simp; omega) _
  have x1 : w0.heap[w.heap.size]? = some (.cells #[.int .i64 m, .slice a n cap, .string b] 34) := by
    rw [hw0, heap_alloc_old _ _ (by simp; omega), heap_alloc_old _ _ (by simp)]; exact heap_alloc_new w _
  have x2 : w0.heap[w.heap.size + 1]? = some (.cells #[.int .i64 0, .slice none 0 0, .string ⟨#[]⟩] 38) := by
    rw [hw0, heap_alloc_old _ _ (by simp)]
    have := heap_alloc_new (w.alloc (.cells #[.int .i64 m, .slice a n cap, .string b] 34)) (.cells #[.int .i64 0, .slice none 0 0, .string ⟨#[]⟩] 38)
    simpa using this
  have x3 : w0.heap[w.heap.size + 1 + 1]? = some (.cells #[.int .i64 m, .slice none 0 0, .string ⟨#[]⟩] 38) := by
    rw [hw0]
    have := heap_alloc_new ((w.alloc (.cells #[.int .i64 m, .slice a n cap, .string b] 34)).alloc (.cells #[.int .i64 0, .slice none 0 0, .string ⟨#[]⟩] 38)) (.cells #[.int .i64 m, .slice none 0 0, .string ⟨#[]⟩] 38)
    simpa using this
  go_enter Try.func12, Try.ntmps12
  go_wp2_with fail
  rw [← hw0]
  refine (toFieldS_any B a n cap fs _ (harg.below (hb0.mono hB)) (by omega) hn).mono ?_
  rintro e w1 ⟨v, rfl, hown, bb1⟩
  obtain ⟨fo, fc, rfl⟩ := slice_of_owns hown
  rw [← bb1.block _ (by omega)] at x1 x2 x3
  obtain ⟨o, ho⟩ : ∃ o, o = w.heap.size + 1 + 1 := ⟨_, rfl⟩
  obtain ⟨q, hq⟩ : ∃ q, q = w.heap.size + 1 := ⟨_, rfl⟩
  obtain ⟨c, hc⟩ : ∃ c, c = w.heap.size := ⟨_, rfl⟩
  rw [← ho] at x3
  rw [← hq] at x2
  rw [← hc] at x1
  have hqo : q ≠ o := by omega
  have hco : c ≠ o := by omega
  have hoq : o ≠ q := by omega
  have hoc : o ≠ c := by omega
  have hqw : w.heap.size ≤ q := by omega
  have how : w.heap.size ≤ o := by omega
  obtain ⟨⟨a0, a1, a2⟩, _⟩ := three_facts x1
  obtain ⟨⟨b0, b1, b2⟩, e0, e1, e2⟩ := three_facts x2
  obtain ⟨⟨d0, d1, d2⟩, f0, f1, f2⟩ := three_facts x3
  have hbw1 : Below w.heap.size w w1 := hb0.trans (bb1.mono hb0.size)
  have HFIN : Hid (∀ W : World, W = (w1.setCell ⟨o, 1, none⟩ (.slice fo n fc)).setCell ⟨o, 2, none⟩ (.string b) → ((threeSet W q (.int .i64 m) (.slice fo n fc) (.string b)).heap[q]? = some (.cells #[.int .i64 m, .slice fo n fc, .string b] 38)) ∧ (threeSet W q (.int .i64 m) (.slice fo n fc) (.string b)).ownsRow w.heap.size 61 2 (.slice fo n fc) n (flatF fs) ∧ Below w.heap.size w (threeSet W q (.int .i64 m) (.slice fo n fc) (.string b))) := fun W hW => by
    have hx2 : W.heap[q]? = some (.cells #[.int .i64 0, .slice none 0 0, .string ⟨#[]⟩] 38) := by rw [hW, heap_setCell_other _ _ q _ (fun e => hqo e), heap_setCell_other _ _ q _ (fun e => hqo e)]; exact x2
    have hbW : Below w.heap.size w W := by rw [hW]; exact (hbw1.setCell (p := ⟨o, 1, none⟩) how _).setCell (p := ⟨o, 2, none⟩) how _
    refine ⟨three_set hx2 _ _ _, ?_, below_three hbW hqw⟩
    have hown1 : w1.ownsRow w.heap.size 61 2 (.slice fo n fc) n (flatF fs) := by
      refine ⟨hown.1, ?_⟩
      rcases hown.2 with h6 | ⟨g6, cap6, cur6, h7, h8, h9⟩
      · exact .inl h6
      · exact .inr ⟨g6, cap6, cur6, h7, by omega, h9⟩
    refine ⟨hown1.1, ?_⟩
    rcases hown.2 with h6 | ⟨g6, cap6, cur6, h7, h8, h9, h10⟩
    · exact .inl h6
    · refine .inr ⟨g6, cap6, cur6, h7, by omega, ?_, h10⟩
      have n1 : g6 ≠ q := by omega
      have n2 : g6 ≠ o := by omega
      unfold threeSet
      rw [heap_setCell_other _ _ g6 _ (fun e => n1 e), heap_setCell_other _ _ g6 _ (fun e => n1 e), heap_setCell_other _ _ g6 _ (fun e => n1 e), hW, heap_setCell_other _ _ g6 _ (fun e => n2 e), heap_setCell_other _ _ g6 _ (fun e => n2 e)]
      exact h9
  obtain ⟨hh, hof, hbf⟩ := HFIN.out _ rfl
  obtain ⟨⟨k0, k1, k2⟩, _⟩ := three_facts hh
  have HOF : Hid _ := hof
  have HBF : Hid _ := hbf
  unfold threeSet at k0 k1 k2
  rw [← ho, ← hq, ← hc]
  clear x1 x2 x3 ho hq hc hw0 hs0 hb0 bb1 hown hbw1 hh hof hbf harg hB HFIN a0 a1
  go_wp2_with fail
  exact bodyPost_ret (v := .agg #[.int .i64 m, .slice fo n fc, .string b]) (by simp [results, Try.results12, go_sem, k0, k1, k2]) rfl ⟨_, rfl, HOF.out, HBF.out⟩

set_option maxHeartbeats 2000000 in
set_option maxRecDepth 100000 in
theorem eqReq_any (m : Int) (p : ByteArray) (v1 v2 : Value) (b : ByteArray) (n b1 b2 : Nat) (fs : List (ByteArray × ByteArray)) (w : World) (h1 : FieldsV w b1 v1 n fs) (h2 : FieldsV w b2 v2 n fs) (hn : n ≤ 2000000) :
    Calls Try.prog 9 #[.agg #[.int .i64 m, .string p, v1, .string b], .agg #[.int .i64 m, .string p, v2, .string b]] w fun e w' => e = .returned (.bool true) ∧ Below w.heap.size w w' := by
  obtain ⟨oa, ca, rfl, _⟩ := h1.slice
  obtain ⟨ob, cb, rfl, _⟩ := h2.slice
  have tp : (p.toList == p.toList) = true := by simp
  have tb : (b.toList == b.toList) = true := by simp
  have tm : (m != m) = false := by simp
  obtain ⟨w0, hw0⟩ : ∃ W, W = ((w.alloc (.cells #[.int .i64 m, .string p, .slice oa n ca, .string b] 29)).alloc (.cells #[.int .i64 m, .string p, .slice ob n cb, .string b] 29)) := ⟨_, rfl⟩
  have hs0 : w0.heap.size = w.heap.size + 1 + 1 := by rw [hw0]; simp
  have hb0 : Below w.heap.size w w0 := by rw [hw0]; exact ((Below.refl _ w).alloc (Nat.le_refl _) _).alloc (by simp) _
  have x1 : w0.heap[w.heap.size]? = some (.cells #[.int .i64 m, .string p, .slice oa n ca, .string b] 29) := by
    rw [hw0, heap_alloc_old _ _ (by simp)]; exact heap_alloc_new w _
  have x2 : w0.heap[w.heap.size + 1]? = some (.cells #[.int .i64 m, .string p, .slice ob n cb, .string b] 29) := by
    rw [hw0]
    have := heap_alloc_new (w.alloc (.cells #[.int .i64 m, .string p, .slice oa n ca, .string b] 29)) (.cells #[.int .i64 m, .string p, .slice ob n cb, .string b] 29)
    simpa using this
  go_enter Try.func9, Try.ntmps9
  go_wp2_with fail
  rw [← hw0]
  refine (eqFieldS_any _ _ n b1 b2 fs _ (h1.below hb0) (h2.below hb0) hn).mono ?_
  rintro e w1 ⟨rfl, bb1⟩
  rw [← bb1.block _ (by omega)] at x1 x2
  obtain ⟨q, hq⟩ : ∃ q, q = w.heap.size + 1 := ⟨_, rfl⟩
  obtain ⟨c, hc⟩ : ∃ c, c = w.heap.size := ⟨_, rfl⟩
  rw [← hq] at x2
  rw [← hc] at x1
  have y1 : w1.cell? ⟨c, 3, none⟩ = some (.string b) := by simp [World.cell?, x1]
  have y2 : w1.cell? ⟨q, 3, none⟩ = some (.string b) := by simp [World.cell?, x2]
  have hbw1 : Below w.heap.size w w1 := hb0.trans (bb1.mono hb0.size)
  rw [← hq, ← hc]
  clear x1 x2 hq hc hw0 hs0 hb0 bb1 h1 h2
  go_wp2
  go_ret
  exact ⟨rfl, hbw1⟩

set_option maxHeartbeats 2000000 in
set_option maxRecDepth 100000 in
theorem eqResp_any (m : Int) (v1 v2 : Value) (b : ByteArray) (n b1 b2 : Nat) (fs : List (ByteArray × ByteArray)) (w : World) (h1 : FieldsV w b1 v1 n fs) (h2 : FieldsV w b2 v2 n fs) (hn : n ≤ 2000000) :
    Calls Try.prog 14 #[.agg #[.int .i64 m, v1, .string b], .agg #[.int .i64 m, v2, .string b]] w fun e w' => e = .returned (.bool true) ∧ Below w.heap.size w w' := by
  obtain ⟨oa, ca, rfl, _⟩ := h1.slice
  obtain ⟨ob, cb, rfl, _⟩ := h2.slice
  have tb : (b.toList == b.toList) = true := by simp
  have tm : (m != m) = false := by simp
  obtain ⟨w0, hw0⟩ : ∃ W, W = ((w.alloc (.cells #[.int .i64 m, .slice oa n ca, .string b] 38)).alloc (.cells #[.int .i64 m, .slice ob n cb, .string b] 38)) := ⟨_, rfl⟩
  have hs0 : w0.heap.size = w.heap.size + 1 + 1 := by rw [hw0]; simp
  have hb0 : Below w.heap.size w w0 := by rw [hw0]; exact ((Below.refl _ w).alloc (Nat.le_refl _) _).alloc (by simp) _
  have x1 : w0.heap[w.heap.size]? = some (.cells #[.int .i64 m, .slice oa n ca, .string b] 38) := by
    rw [hw0, heap_alloc_old _ _ (by simp)]; exact heap_alloc_new w _
  have x2 : w0.heap[w.heap.size + 1]? = some (.cells #[.int .i64 m, .slice ob n cb, .string b] 38) := by
    rw [hw0]
    have := heap_alloc_new (w.alloc (.cells #[.int .i64 m, .slice oa n ca, .string b] 38)) (.cells #[.int .i64 m, .slice ob n cb, .string b] 38)
    simpa using this
  go_enter Try.func14, Try.ntmps14
  go_wp2_with fail
  rw [← hw0]
  refine (eqFieldS_any _ _ n b1 b2 fs _ (h1.below hb0) (h2.below hb0) hn).mono ?_
  rintro e w1 ⟨rfl, bb1⟩
  rw [← bb1.block _ (by omega)] at x1 x2
  obtain ⟨q, hq⟩ : ∃ q, q = w.heap.size + 1 := ⟨_, rfl⟩
  obtain ⟨c, hc⟩ : ∃ c, c = w.heap.size := ⟨_, rfl⟩
  rw [← hq] at x2
  rw [← hc] at x1
  have y1 : w1.cell? ⟨c, 2, none⟩ = some (.string b) := by simp [World.cell?, x1]
  have y2 : w1.cell? ⟨q, 2, none⟩ = some (.string b) := by simp [World.cell?, x2]
  have hbw1 : Below w.heap.size w w1 := hb0.trans (bb1.mono hb0.size)
  rw [← hq, ← hc]
  clear x1 x2 hq hc hw0 hs0 hb0 bb1 h1 h2
  go_wp2
  go_ret
  exact ⟨rfl, hbw1⟩

end Go.Proofs.Ytjocljdifmlghaa
