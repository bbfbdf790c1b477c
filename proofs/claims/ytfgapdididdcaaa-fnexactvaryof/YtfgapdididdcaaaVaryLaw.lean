/- What the exact laws do with lists of texts that come in: opened, measured, copied, marked: contracts over the translation. -/
import Derived.Test.YtfgapdididdcaaaVarySpec
import Derived.Test.YtfgapdididdcaaaFieldFar
import Derived.SliceStrings
namespace Go.Proofs.Ytfgapdididdcaaa
open Go.RowKit
open Go.Lib hiding intOf

/-- A list of texts among the arguments. -/
structure ArgT (w : World) (B : Nat) (a : Option Addr) (n : Nat) (xs : List ByteArray) : Prop where
  len : xs.length = n
  get : ∀ i, i < n → ∃ b off, a = some ⟨b, off, none⟩ ∧ b < B ∧ w.cell? ⟨b, off + i, none⟩ = some (.string (textAt xs i))
theorem ArgT.below {w w' : World} {B : Nat} {a : Option Addr} {n : Nat} {xs : List ByteArray} (h : ArgT w B a n xs) (hb : Below B w w') : ArgT w' B a n xs :=
  ⟨h.len, fun i hi => by
    obtain ⟨b, off, h1, h2, h3⟩ := h.get i hi
    exact ⟨b, off, h1, h2, by rw [hb.cell (p := ⟨b, off + i, none⟩) h2]; exact h3⟩⟩

theorem openTexts {H : Type} {enc : TypeId × Value → H} {W : World} {fuel : Nat} {a : Option Addr} {n cap : Nat} {x : DataW H × List MemPlace} (h : DataW.trod enc Try.prog W 0 (fun _ => true) true fuel 24 [.slice a n cap] = some x) :
    ∃ xs, ArgT W W.heap.size a n xs ∧ n ≤ maxLen ∧ ∀ i, i < n → (textAt xs i).size ≤ maxLen := by
  rcases Go.ChangeShapes.open_strings Try.underlying24 Try.underlying9 (by kernel_rfl) h with ⟨hcs, _⟩ | ⟨ad, len, c, ss, hcs, _, hl, hm, hlen, _, hcell, hsz⟩
  · simp at hcs
    obtain ⟨rfl, rfl, rfl⟩ := hcs
    exact ⟨[], ⟨rfl, fun i hi => absurd hi (by omega)⟩, Nat.zero_le _, fun i hi => absurd hi (by omega)⟩
  · simp at hcs
    obtain ⟨rfl, rfl, rfl⟩ := hcs
    have hlen2 : ss.length = cap := by simpa using hlen
    have htk : ∀ i, i < n → textAt (ss.take n) i = ss.getD i ByteArray.empty := fun i hi => by
      unfold textAt
      rw [List.getD_eq_getElem?_getD, List.getD_eq_getElem?_getD, List.getElem?_take_of_lt hi]
      rfl
    refine ⟨ss.take n, ⟨by rw [List.length_take]; omega, fun i hi => ?_⟩, by omega, fun i hi => ?_⟩
    · obtain ⟨b, off, spot⟩ := ad
      have hspot : spot = none := by
        have := World.cell?_spot (hcell 0 (by omega))
        simpa [Addr.add] using this
      subst hspot
      have hc := hcell i (by omega)
      rw [addr_add] at hc
      exact ⟨b, off, rfl, World.block_lt_of_cell? _ _ hc, by rw [htk i hi]; exact hc⟩
    · rw [htk i hi]
      refine hsz _ ?_
      rw [List.getD_eq_getElem?_getD, List.getElem?_eq_getElem (by omega)]
      exact List.getElem_mem _

/-- The measure is negative, or it says how much room is left of L. -/
def SzT (L : Int) (n : Nat) (xs : List ByteArray) (w : World) (e : Ending) (w' : World) : Prop :=
  ∃ r : Int, e = .returned (.int .i64 r) ∧ r ≤ L ∧ (0 ≤ r → n ≤ 1048576 ∧ ∀ i, i < n → (textAt xs i).size ≤ 1048576) ∧ Below w.heap.size w w'

set_option maxHeartbeats 1000000 in
theorem szStringS_any (L : Int) (hL0 : 0 ≤ L) (hL1 : L ≤ 1048576) (B : Nat) (a : Option Addr) (n cap : Nat) (xs : List ByteArray) (w : World) (harg : ArgT w B a n xs) (hB : B ≤ w.heap.size) (hn : n ≤ maxLen) (hsz : ∀ i, i < n → (textAt xs i).size ≤ maxLen) :
    Calls Try.prog 25 #[.slice a n cap, .int .i64 L] w fun e w' => SzT L n xs w e w' := by
  unfold maxLen at hn
  have HS : Hid (∀ i, i < n → (textAt xs i).size ≤ maxLen) := hsz
  have HA : Hid (∀ W, Below w.heap.size w W → ArgT W B a n xs) := fun W h => harg.below (h.mono hB)
  clear hsz harg
  by_cases c1 : L - (n : Int) < 0
  · go_enter Try.func25, Try.ntmps25
    go_wp2
    go_ret
    exact ⟨-1, rfl, by omega, fun h => absurd h (by omega), Below.refl _ _⟩
  · go_enter Try.func25, Try.ntmps25
    go_wp2
    go_loopw [1, 5] (fun l i wr => ∃ (k : Nat) (x : Int), k ≤ n ∧ i = .int .i64 (k : Int) ∧ l = .int .i64 x ∧ 0 ≤ x ∧ x ≤ L ∧ Hid (∀ j, j < k → (textAt xs j).size ≤ 1048576) ∧ Below w.heap.size w wr) (fun _ i _ => n - (intOf i).toNat)
    case atStart => exact ⟨0, _, Nat.zero_le _, rfl, rfl, by omega, by omega, fun j hj => absurd hj (by omega), Below.refl _ _⟩
    case round =>
      obtain ⟨k, x, hk, rfl, rfl, hx0, hx1, HX, hbw⟩ := hrel
      by_cases hlt : k < n
      · have hlt2 : (k : Int) < (n : Int) := by omega
        obtain ⟨b, off, rfl, hbB, hc1⟩ := (HA.out wr hbw).get k hlt
        have s1 := HS.out k hlt
        obtain ⟨t, ht⟩ : ∃ y, y = textAt xs k := ⟨_, rfl⟩
        rw [← ht] at hc1 s1
        unfold maxLen at s1
        by_cases d1 : x - (t.size : Int) < 0
        · clear ht
          go_wp2
          go_ret
          exact ⟨-1, rfl, by omega, fun h => absurd h (by omega), hbw⟩
        · have HX2 : Hid (∀ j, j < k + 1 → (textAt xs j).size ≤ 1048576) := by
            intro j hj
            by_cases e : j = k
            · rw [e, ← ht]; omega
            · exact HX.out j (by omega)
          clear ht
          go_wp2
          go_roundw
          case rel => exact ⟨k + 1, x - (t.size : Int), by omega, by go_num, by go_num, by omega, by omega, HX2, hbw⟩
          case measure => simp [intOf]; omega
      · have hF : Hid (n ≤ 1048576 ∧ ∀ i, i < n → (textAt xs i).size ≤ 1048576) := ⟨by omega, fun i hi => HX.out i (by omega)⟩
        go_wp2
        go_ret
        exact ⟨x, rfl, by omega, fun _ => hF.out, hbw⟩

/-- The first k texts of a row of n cells are told. -/
def PartT (w : World) (g n k : Nat) (xs : List ByteArray) : Prop :=
  ∃ cur, w.heap[g]? = some (.cells cur 9 (0, 0)) ∧ cur.size = n ∧ ∀ i, i < k → cur[i]? = some (.string (textAt xs i))
theorem PartT.put {w : World} {g n k : Nat} {xs : List ByteArray} (h : PartT w g n k xs) (hk : k < n) : PartT (w.setCell ⟨g, k, none⟩ (.string (textAt xs k))) g n (k + 1) xs := by
  obtain ⟨cur, h1, h2, h3⟩ := h
  refine ⟨_, heap_set w g k _ _ _ _ h1, by simpa using h2, fun i hi => ?_⟩
  by_cases e : i = k
  · subst e
    exact Array.getElem?_setIfInBounds_self_of_lt (by omega)
  · rw [Array.getElem?_setIfInBounds_ne (fun x => e x.symm)]
    exact h3 i (by omega)
theorem PartT.row {w : World} {g n base : Nat} {xs : List ByteArray} (h : PartT w g n n xs) (hl : xs.length = n) (hb : base ≤ g) (hn : n ≤ maxLen) : TextRow base w g n n xs := by
  obtain ⟨cur, h1, h2, h3⟩ := h
  exact ⟨hl, hb, (Array.getElem?_eq_some_iff.1 h1).1, Nat.le_refl _, hn, cur, h1, h2, h3⟩

set_option maxHeartbeats 1000000 in
theorem toStringS_any (B : Nat) (a : Option Addr) (n cap : Nat) (xs : List ByteArray) (w : World) (harg : ArgT w B a n xs) (hB : B ≤ w.heap.size) (hn : n ≤ 1048576) :
    Calls Try.prog 26 #[.slice a n cap] w fun e w' => ∃ v, e = .returned v ∧ w'.ownsRow w.heap.size 9 1 v n (xs.map Value.string) ∧ Below w.heap.size w w' := by
  obtain ⟨i0, hi, hz0, hz1, hz2⟩ := info_parts info9
  obtain ⟨M, hM⟩ : ∃ M, M = madeCells (Value.string ⟨#[]⟩).cells (((n : Nat) : Int).toNat * i0.size) := ⟨_, rfl⟩
  have hmk : ∀ W : World, (Instr.makeSlice 24 (.int .i64 (n : Int)) (.int .i64 (n : Int))).run Try.prog W = .ok (.slice (some ⟨W.heap.size, 0, none⟩) n n) (W.alloc (.cells M 9)) := fun W => by
    have h := run_make (P := Try.prog) W 24 9 i0 (.string ⟨#[]⟩) Try.underlying24 hi hz0 .i64 .i64 (n : Int) (n : Int) (by omega) (by omega) (by rw [hz2]; omega) (by omega)
    rw [← hM] at h
    simpa using h
  have hMs : M.size = n := by rw [hM, size_madeCells, hz1]; simp
  have HARG : Hid (∀ W, Below B w W → ArgT W B a n xs) := fun W h => harg.below h
  have HLEN : Hid (xs.length = n) := harg.len
  clear hM harg
  have HP : Hid (PartT (w.alloc (.cells M 9)) w.heap.size n 0 xs) := ⟨M, heap_alloc_new w _, hMs, fun i h => absurd h (by omega)⟩
  go_enter Try.func26, Try.ntmps26
  go_wp2
  go_loopw [4] (fun i wr => ∃ k : Nat, k ≤ n ∧ i = .int .i64 (k : Int) ∧ Hid (PartT wr w.heap.size n k xs) ∧ Below w.heap.size w wr) (fun i _ => n - (intOf i).toNat)
  case atStart => exact ⟨0, Nat.zero_le _, rfl, HP, (Below.refl _ _).alloc (Nat.le_refl _) _⟩
  case round =>
    obtain ⟨k, hk, rfl, hpr, hbw⟩ := hrel
    by_cases hlt : k < n
    · have hlt2 : (k : Int) < (n : Int) := by omega
      obtain ⟨b, off, rfl, hbB, hc1⟩ := (HARG.out wr (hbw.mono hB)).get k hlt
      have HPUT : Hid (PartT (wr.setCell ⟨w.heap.size, k, none⟩ (.string (textAt xs k))) w.heap.size n (k + 1) xs) := hpr.out.put hlt
      obtain ⟨u0, hu0, f0⟩ : ∃ u, wr.cell? ⟨w.heap.size, k, none⟩ = some u ∧ wr.frozen? ⟨w.heap.size, k, none⟩ = false := by
        obtain ⟨cur, h1, h2, _⟩ := hpr.out
        refine ⟨cur[k]'(by omega), ?_, by simp [World.frozen?, h1]⟩
        simp only [World.cell?, h1]
        simp [show k < cur.size by omega]
      generalize textAt xs k = z at hc1 HPUT
      go_wp2
      go_roundw
      case rel => exact ⟨k + 1, by omega, by go_num, HPUT, hbw.setCell (Nat.le_refl _) _⟩
      case measure => simp [intOf]; omega
    · obtain rfl : k = n := by omega
      go_wp2
      go_ret
      exact ⟨_, rfl, (hpr.out.row HLEN.out (Nat.le_refl _) (by unfold maxLen; omega)).owns, hbw⟩

set_option maxHeartbeats 1000000 in
theorem markTFar_any (v : Value) (n base : Nat) (xs : List ByteArray) (w : World) (h1 : w.ownsRow base 9 1 v n (xs.map Value.string)) (hn : n ≤ 2000000) :
    Calls Try.prog 23 #[v, .int .i64 1] w fun e w' => e = .returned (.int .i64 ((n : Int) + 1)) ∧ w'.ownsRow base 9 1 v n ((mkTo xs n).map Value.string) ∧ w.grownBy w' v.ownBlock := by
  rcases row_form h1 with ⟨oa, ca, rfl, rfl, rfl⟩ | ⟨g, cap, rfl, hp, r1⟩
  · go_enter Try.func23, Try.ntmps23
    go_wp2
    refine wp_loop_rounds 1 ?_
    rw [rounds_succ]
    go_wp2
    go_ret
    exact ⟨rfl, h1, World.grownBy.refl _ _⟩
  · clear h1
    have HR1 : Hid (TextRow base w g n cap xs) := r1
    clear r1
    go_enter Try.func23, Try.ntmps23
    go_wp2
    go_loopw [1, 5] (fun k i wr => ∃ j : Nat, j ≤ n ∧ i = .int .i64 (j : Int) ∧ k = .int .i64 ((j : Int) + 1) ∧ Hid (w.grownBy wr (some g)) ∧ Hid (TextRow base wr g n cap (mkTo xs j))) (fun _ i _ => n - (intOf i).toNat)
    case atStart => exact ⟨0, Nat.zero_le _, rfl, rfl, World.grownBy.refl _ _, HR1⟩
    case round =>
      obtain ⟨j, hj, rfl, rfl, HG, HR⟩ := hrel
      by_cases hlt : j < n
      · have hlt2 : (j : Int) < (n : Int) := by omega
        go_wp2_with fail
        refine (markText_int _ (j + 1) _ (by omega) (by omega) (by omega)).mono ?_
        rintro e w1 ⟨rfl, hb1⟩
        have hrow1 := HR.out.below hb1 HR.out.lt
        have hc := hrow1.cell j hlt
        have hf := hrow1.frozen j
        have HG2 : Hid (w.grownBy (w1.setCell ⟨g, j, none⟩ (.string (markOf (j + 1)))) (some g)) := by
          have h0 := HG.out
          refine ⟨hb1.os.trans h0.os, hb1.tape.trans h0.tape, hb1.output.trans h0.output, by rw [World.size_setCell]; exact Nat.le_trans h0.size hb1.size, fun i hi hne => ?_⟩
          rw [heap_setCell_other _ _ i _ (fun e => hne (by rw [e]))]
          exact (hb1.block i (Nat.lt_of_lt_of_le hi h0.size)).trans (h0.block i hi hne)
        have HR2 : Hid (TextRow base (w1.setCell ⟨g, j, none⟩ (.string (markOf (j + 1)))) g n cap (mkTo xs (j + 1))) := hrow1.set j hlt _
        clear hb1 HG HR hrow1
        go_wp2
        go_roundw
        case rel => exact ⟨j + 1, by omega, by go_num, by go_num, HG2, HR2⟩
        case measure => simp [intOf]; omega
      · obtain rfl : j = n := by omega
        go_wp2
        go_ret
        exact ⟨rfl, HR.out.owns, HG.out⟩

set_option maxHeartbeats 1000000 in
theorem sameT_any (v1 v2 : Value) (n b1 b2 : Nat) (xs : List ByteArray) (w : World) (h1 : w.ownsRow b1 9 1 v1 n (xs.map Value.string)) (h2 : w.ownsRow b2 9 1 v2 n (xs.map Value.string)) (hn : n ≤ 2000000) :
    Calls Try.prog 14 #[v1, v2] w fun e w' => e = .returned (.bool true) ∧ Below w.heap.size w w' := by
  rcases row_form h1 with ⟨oa, ca, rfl, rfl, rfl⟩ | ⟨g1, c1, rfl, hp, r1⟩
  · rcases row_form h2 with ⟨ob, cb, rfl, _, _⟩ | ⟨g2, c2, rfl, hp2, _⟩
    · clear h1 h2
      go_enter Try.func14, Try.ntmps14
      go_wp2
      refine wp_loop_rounds 1 ?_
      rw [rounds_succ]
      go_wp2
      go_ret
      exact ⟨rfl, Below.refl _ _⟩
    · omega
  · rcases row_form h2 with ⟨ob, cb, rfl, h0, _⟩ | ⟨g2, c2, rfl, hp2, r2⟩
    · omega
    · clear h1 h2
      go_enter Try.func14, Try.ntmps14
      go_wp2
      go_loopw [5] (fun i wr => ∃ k : Nat, k ≤ n ∧ i = .int .i64 (k : Int) ∧ Below w.heap.size w wr) (fun i _ => n - (intOf i).toNat)
      case atStart => exact ⟨0, Nat.zero_le _, rfl, Below.refl _ _⟩
      case round =>
        obtain ⟨k, hk, rfl, hbw⟩ := hrel
        by_cases hlt : k < n
        · have hlt2 : (k : Int) < (n : Int) := by omega
          have hc1 := (r1.below hbw r1.lt).cell k hlt
          have hc2 := (r2.below hbw r2.lt).cell k hlt
          go_wp2
          go_quiet (fail)
          go_wp2
          go_roundw
          case rel => exact ⟨k + 1, by omega, by go_num, below_drewN hbw _⟩
          case measure => simp [intOf]; omega
        · go_wp2
          go_ret
          exact ⟨rfl, hbw⟩

end Go.Proofs.Ytfgapdididdcaaa
