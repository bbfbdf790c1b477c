/- What FnWords draws, and two lists of texts held against each other: contracts over the translation. -/
import Derived.Test.YtpkmdeigifeodaaDoorWordsPlain
namespace Go.Proofs.YtpkmdeigifeodaaDoor
open Go.RowKit
open Go.Lib hiding intOf

set_option maxHeartbeats 1000000 in
theorem sameTexts_any (v1 v2 : Value) (n b1 b2 : Nat) (xs : List ByteArray) (w : World) (h1 : w.ownsRow b1 9 1 v1 n (xs.map Value.string)) (h2 : w.ownsRow b2 9 1 v2 n (xs.map Value.string)) (hn : n ≤ 2000000) :
    Calls Tryd.prog 17 #[v1, v2] w fun e w' => e = .returned (.bool true) ∧ Below w.heap.size w w' := by
  rcases row_form h1 with ⟨oa, ca, rfl, rfl, rfl⟩ | ⟨g1, c1, rfl, hp, r1⟩
  · rcases row_form h2 with ⟨ob, cb, rfl, _, _⟩ | ⟨g2, c2, rfl, hp2, _⟩
    · clear h1 h2
      go_enter Tryd.func17, Tryd.ntmps17
      go_wp2
      refine wp_loop_rounds 1 ?_
      rw [rounds_succ]
      go_wp2
      go_ret
      exact ⟨rfl, Below.refl _ _⟩
    · omega
  · rcases row_form h2 with ⟨ob, cb, rfl, h0, _⟩ | ⟨g2, c2, rfl, hp2, r2⟩
    · omega
    · clear h1 h2
      go_enter Tryd.func17, Tryd.ntmps17
      go_wp2
      go_loopw [5] (fun i wr => ∃ k : Nat, k ≤ n ∧ i = .int .i64 (k : Int) ∧ Below w.heap.size w wr) (fun i _ => n - (intOf i).toNat)
      case atStart => exact ⟨0, Nat.zero_le _, rfl, Below.refl _ _⟩
      case round =>
        obtain ⟨k, hk, rfl, hbw⟩ := hrel
        by_cases hlt : k < n
        · have hlt2 : (k : Int) < (n : Int) := by omega
          have hc1 := (r1.below hbw r1.lt).cell k hlt
          have hc2 := (r2.below hbw r2.lt).cell k hlt
          go_wp2
          go_quiet (fail)
          go_wp2
          go_roundw
          case rel => exact ⟨k + 1, by omega, by go_num, below_drewN hbw _⟩
          case measure => simp [intOf]; omega
        · go_wp2
          go_ret
          exact ⟨rfl, hbw⟩

set_option maxHeartbeats 1000000 in
theorem drawSplit_any (a : Option Addr) (len cap : Nat) (zs : List Int) (w : World) (hcode : CodeAt w w.heap.size a len zs) :
    Calls Tryd.prog 15 #[.slice a len cap] w fun e w' => DrawnText 14 w e w' := by
  go_enter Tryd.func15, Tryd.ntmps15
  go_wp2_with fail
  refine (l1New_any w.heap.size a len cap zs _ hcode).mono ?_
  rintro e w1 ⟨rfl, hcu1, hb1⟩
  go_wp2_with fail
  refine (l1DrawText_any w.heap.size w.heap.size a len cap zs _ hcu1 (hcode.below hb1) (Nat.le_refl _)).mono ?_
  rintro e w2 ⟨t, rfl, ht, hcu2, hg2⟩
  go_wp2
  go_ret
  exact ⟨t, rfl, ht, below_of_grown hb1 hg2 (Nat.le_refl _)⟩

def readL : List ByteArray := [⟨#[]⟩, ⟨#[48]⟩, ⟨#[55]⟩, ⟨#[48, 55]⟩, ⟨#[49, 50, 48]⟩, ⟨#[49, 48, 48, 48, 48, 48, 48]⟩, ⟨#[49, 48, 48, 48, 48, 48, 49]⟩, ⟨#[45, 49]⟩, ⟨#[49, 120]⟩, ⟨#[57, 57, 57, 57, 57, 57, 57, 57]⟩]
theorem readL_size : ∀ j, j < 10 → (textAt readL j).size ≤ 8 := by decide
def padA : List ByteArray := [⟨#[]⟩, ⟨#[32]⟩, ⟨#[32, 32]⟩]
theorem padA_size : ∀ j, j < 3 → (textAt padA j).size ≤ 3 := by decide
def padB : List ByteArray := [⟨#[]⟩, ⟨#[32]⟩, ⟨#[32, 32, 32]⟩]
theorem padB_size : ∀ j, j < 3 → (textAt padB j).size ≤ 3 := by decide
def numsL : List Int := [0, 1, 9, 10, 777, 1000000, 1000001, -1, -9223372036854775808]
theorem numsL_in : ∀ j, j < 9 → -9223372036854775808 ≤ numsL.getD j 0 ∧ numsL.getD j 0 ≤ 9223372036854775807 := by decide

set_option maxHeartbeats 1000000 in
theorem drawNumRead_any (a : Option Addr) (len cap : Nat) (zs : List Int) (w : World) (hcode : CodeAt w w.heap.size a len zs) :
    Calls Tryd.prog 10 #[.slice a len cap] w fun e w' => DrawnText 8 w e w' := by
  go_enter Tryd.func10, Tryd.ntmps10
  go_wp2_with fail
  refine (l1New_any w.heap.size a len cap zs _ hcode).mono ?_
  rintro e w1 ⟨rfl, hcu1, hb1⟩
  have hla := listAt_alloc w1 readL
  have hcl1 := hcu1.lt
  have hb2 : Below w.heap.size w (w1.alloc (.cells (readL.map Value.string).toArray 9)) := hb1.alloc hb1.size _
  go_wp2_with fail
  refine (l1Pick_any w.heap.size w.heap.size w1.heap.size 10 (textAt readL) a len cap zs _ (hcu1.below ((Below.refl _ _).alloc (Nat.le_refl _) _) hcl1) (hcode.below hb2) (Nat.le_refl _) (by omega) (by omega) (by exact hla) (by omega)).mono ?_
  rintro e w4 ⟨j, hj, rfl, hcu4, hg4⟩
  have hsz := readL_size j hj
  obtain ⟨u, hu⟩ : ∃ u, u = textAt readL j := ⟨_, rfl⟩
  rw [← hu] at hsz ⊢
  have hb4 := below_of_grown hb2 hg4 (Nat.le_refl _)
  clear hu hla hb2 hg4
  go_wp2
  go_ret
  exact ⟨u, rfl, hsz, hb4⟩

set_option maxHeartbeats 1000000 in
theorem l1PickInt_any (c B g n : Nat) (f : Nat → Int) (a : Option Addr) (len cap : Nat) (zs : List Int) (w : World) (hcur : CurAt w c a len cap) (hcode : CodeAt w B a len zs) (hB : B ≤ c) (hn : 1 ≤ n) (hn2 : n ≤ 256) (hl : ∀ j, j < n → w.cell? ⟨g, j, none⟩ = some (.int .i64 (f j))) (hgc : g ≠ c) :
    Calls Tryd.prog 19 #[.pointer (some ⟨c, 0, none⟩), .slice (some ⟨g, 0, none⟩) n n] w fun e w' => ∃ j, j < n ∧ e = .returned (.int .i64 (f j)) ∧ CurAt w' c a len cap ∧ w.grownBy w' (some c) := by
  have HL : Hid (∀ j, j < n → w.cell? ⟨g, j, none⟩ = some (.int .i64 (f j))) := hl
  clear hl
  go_enter Tryd.func19, Tryd.ntmps19
  go_wp2_with fail
  refine (l1Below_any c B n a len cap zs _ hcur hcode hB (by omega) (by omega)).mono ?_
  rintro e w1 ⟨x, rfl, hx0, hx1, hcur1, hg1⟩
  obtain ⟨j, rfl⟩ := Int.eq_ofNat_of_zero_le hx0
  have hj : j < n := by omega
  have hcell : w1.cell? ⟨g, j, none⟩ = some (.int .i64 (f j)) := grown_cell hg1 (HL.out j hj) hgc
  go_wp2
  go_ret
  exact ⟨j, hj, rfl, hcur1, hg1⟩

/-- A draw out of a code answers an int, and turns nothing that was there. -/
def DrawnInt (w : World) (e : Ending) (w' : World) : Prop := ∃ n : Int, e = .returned (.int .i64 n) ∧ -9223372036854775808 ≤ n ∧ n ≤ 9223372036854775807 ∧ Below w.heap.size w w'
theorem intsAt_alloc (w : World) (xs : List Int) (j : Nat) (hj : j < xs.length) : (w.alloc (.cells (xs.map (Value.int .i64)).toArray 3)).cell? ⟨w.heap.size, j, none⟩ = some (.int .i64 (xs.getD j 0)) := by
  rw [World.cell?_alloc_new]
  simp [List.getD_eq_getElem?_getD, hj]

set_option maxHeartbeats 1000000 in
theorem drawNumText_any (a : Option Addr) (len cap : Nat) (zs : List Int) (w : World) (hcode : CodeAt w w.heap.size a len zs) :
    Calls Tryd.prog 6 #[.slice a len cap] w fun e w' => DrawnInt w e w' := by
  go_enter Tryd.func6, Tryd.ntmps6
  go_wp2_with fail
  refine (l1New_any w.heap.size a len cap zs _ hcode).mono ?_
  rintro e w1 ⟨rfl, hcu1, hb1⟩
  have hla : Hid (∀ j, j < 9 → (w1.alloc (.cells (numsL.map (Value.int .i64)).toArray 3)).cell? ⟨w1.heap.size, j, none⟩ = some (.int .i64 (numsL.getD j 0))) := fun j hj => intsAt_alloc w1 numsL j hj
  have hcl1 := hcu1.lt
  have hb2 : Below w.heap.size w (w1.alloc (.cells (numsL.map (Value.int .i64)).toArray 3)) := hb1.alloc hb1.size _
  go_wp2_with fail
  refine (l1PickInt_any w.heap.size w.heap.size w1.heap.size 9 (fun j => numsL.getD j 0) a len cap zs _ (hcu1.below ((Below.refl _ _).alloc (Nat.le_refl _) _) hcl1) (hcode.below hb2) (Nat.le_refl _) (by omega) (by omega) (by exact hla) (by omega)).mono ?_
  rintro e w4 ⟨j, hj, rfl, hcu4, hg4⟩
  have hsz := numsL_in j hj
  dsimp only
  obtain ⟨u, hu⟩ : ∃ u, u = numsL.getD j 0 := ⟨_, rfl⟩
  rw [← hu] at hsz ⊢
  have hb4 := below_of_grown hb2 hg4 (Nat.le_refl _)
  clear hu hla hb2 hg4
  go_wp2
  go_ret
  exact ⟨u, rfl, hsz.1, hsz.2, hb4⟩

set_option maxHeartbeats 1000000 in
theorem drawTrim_any (a : Option Addr) (len cap : Nat) (zs : List Int) (w : World) (hcode : CodeAt w w.heap.size a len zs) :
    Calls Tryd.prog 12 #[.slice a len cap] w fun e w' => DrawnText 20 w e w' := by
  go_enter Tryd.func12, Tryd.ntmps12
  go_wp2_with fail
  refine (l1New_any w.heap.size a len cap zs _ hcode).mono ?_
  rintro e w1 ⟨rfl, hcu1, hb1⟩
  have hla := listAt_alloc w1 padA
  have hcl1 := hcu1.lt
  have hb2 : Below w.heap.size w (w1.alloc (.cells (padA.map Value.string).toArray 9)) := hb1.alloc hb1.size _
  go_wp2_with fail
  refine (l1Pick_any w.heap.size w.heap.size w1.heap.size 3 (textAt padA) a len cap zs _ (hcu1.below ((Below.refl _ _).alloc (Nat.le_refl _) _) hcl1) (hcode.below hb2) (Nat.le_refl _) (by omega) (by omega) (by exact hla) (by omega)).mono ?_
  rintro e w4 ⟨j, hj, rfl, hcu4, hg4⟩
  have hsz := padA_size j hj
  obtain ⟨u, hu⟩ : ∃ u, u = textAt padA j := ⟨_, rfl⟩
  rw [← hu] at hsz ⊢
  have hb4 := below_of_grown hb2 hg4 (Nat.le_refl _)
  clear hu hla hb2 hg4
  go_wp2_with fail
  refine (l1DrawText_any w.heap.size w.heap.size a len cap zs _ hcu4 (hcode.below hb4) (Nat.le_refl _)).mono ?_
  rintro e w5 ⟨t, rfl, ht, hcu5, hg5⟩
  have hb5 := below_of_grown hb4 hg5 (Nat.le_refl _)
  have hlb := listAt_alloc w5 padB
  have hcl5 := hcu5.lt
  have hb6 : Below w.heap.size w (w5.alloc (.cells (padB.map Value.string).toArray 9)) := hb5.alloc hb5.size _
  clear hg5 hb4
  go_wp2_with fail
  refine (l1Pick_any w.heap.size w.heap.size w5.heap.size 3 (textAt padB) a len cap zs _ (hcu5.below ((Below.refl _ _).alloc (Nat.le_refl _) _) hcl5) (hcode.below hb6) (Nat.le_refl _) (by omega) (by omega) (by exact hlb) (by omega)).mono ?_
  rintro e w7 ⟨i, hi, rfl, hcu7, hg7⟩
  have hsy := padB_size i hi
  obtain ⟨y, hy⟩ : ∃ y, y = textAt padB i := ⟨_, rfl⟩
  rw [← hy] at hsy ⊢
  have hb7 := below_of_grown hb6 hg7 (Nat.le_refl _)
  have HS : Hid ((u ++ t ++ y).size ≤ 20) := by
    show _ ≤ _
    rw [ByteArray.size_append, ByteArray.size_append]; omega
  have hs1 : ¬ 9223372036854775807 < (u ++ t).size + y.size := by rw [ByteArray.size_append]; omega
  clear hy hlb hb6 hg7
  go_wp2
  go_ret
  exact ⟨_, rfl, HS.out, hb7⟩

end Go.Proofs.YtpkmdeigifeodaaDoor
