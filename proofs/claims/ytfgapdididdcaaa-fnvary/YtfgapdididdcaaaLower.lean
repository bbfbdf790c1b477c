/- 'Lower' of the program and of the specification: contracts over the translation. -/
import Derived.Test.YtfgapdididdcaaaNum
import Derived.Lib.ConvBytes
namespace Go.Proofs.Ytfgapdididdcaaa
open Go.RowKit
open Go.Lib hiding intOf

def lowB (n : Int) : Int := if 65 ≤ n ∧ n ≤ 90 then n + 32 else n
/-- The bytes made small, as numbers. -/
def lowXs (s : ByteArray) : List Int := s.data.toList.map (fun b => lowB (b.toNat : Int))
def lowerOf (s : ByteArray) : ByteArray := strOfNums (lowXs s)
theorem lowXs_len (s : ByteArray) : (lowXs s).length = s.size := by simp [lowXs]
theorem lowXs_get (s : ByteArray) (j : Nat) (h : j < s.size) : (lowXs s).getD j 0 = lowB ((s[j]'h).toNat : Int) := by
  unfold lowXs
  rw [List.getD_eq_getElem?_getD, List.getElem?_map, byte_get s j h]
  rfl

/-- Within a rune of more than one byte every byte is at least 128, and it ends within the text. -/
theorem decode_skip (s : ByteArray) (pos : Nat) (hp : pos < s.size) : pos + (Utf8.decode s pos).2 ≤ s.size ∧ 1 ≤ (Utf8.decode s pos).2 ∧
    ∀ j (h : j < s.size), pos < j → j < pos + (Utf8.decode s pos).2 → 128 ≤ (s[j]'h).toNat := by
  have hg : ∀ k (h : pos + k < s.size), (s.get! (pos + k)).toNat = (s[pos + k]'h).toNat := by
    intro k h
    have : s.get! (pos + k) = s[pos + k]'h := get_at s (pos + k) h
    rw [this]
  have key : ∀ n : Nat, (∀ k, 1 ≤ k → k < n → pos + k < s.size ∧ (s.get! (pos + k)).toNat / 64 = 2) → ∀ j (h : j < s.size), pos < j → j < pos + n → 128 ≤ (s[j]'h).toNat := by
    intro n hn j h h1 h2
    obtain ⟨k, rfl⟩ : ∃ k, j = pos + k := ⟨j - pos, by omega⟩
    have := (hn k (by omega) (by omega)).2
    rw [hg k h] at this
    omega
  have one : ∀ j (h : j < s.size), pos < j → j < pos + 1 → 128 ≤ (s[j]'h).toNat := fun j _ h1 h2 => absurd h1 (by omega)
  simp only [Utf8.decode]
  split
  · exact ⟨by omega, by omega, one⟩
  · split
    · rename_i h2
      simp only [Bool.and_eq_true, beq_iff_eq, decide_eq_true_eq] at h2
      split
      · exact ⟨by dsimp only; omega, by dsimp only; omega, key 2 (fun k a b => by
          obtain rfl : k = 1 := by omega
          exact h2.2)⟩
      · exact ⟨by dsimp only; omega, by dsimp only; omega, one⟩
    · split
      · rename_i h3
        simp only [Bool.and_eq_true, beq_iff_eq, decide_eq_true_eq] at h3
        split
        · exact ⟨by dsimp only; omega, by dsimp only; omega, key 3 (fun k a b => by
            rcases (by omega : k = 1 ∨ k = 2) with rfl | rfl
            · exact h3.1.2
            · exact h3.2)⟩
        · exact ⟨by dsimp only; omega, by dsimp only; omega, one⟩
      · split
        · rename_i h4
          simp only [Bool.and_eq_true, beq_iff_eq, decide_eq_true_eq] at h4
          split
          · exact ⟨by dsimp only; omega, by dsimp only; omega, key 4 (fun k a b => by
              rcases (by omega : k = 1 ∨ k = 2 ∨ k = 3) with rfl | rfl | rfl
              · exact h4.1.1.2
              · exact h4.1.2
              · exact h4.2)⟩
          · exact ⟨by dsimp only; omega, by dsimp only; omega, one⟩
        · exact ⟨by dsimp only; omega, by dsimp only; omega, one⟩

/-- What stands in cell j when all ahead of 'pos' is made small. -/
def lowAt (s : ByteArray) (pos j : Nat) : Int := if j < pos then (lowXs s).getD j 0 else ((s.data.toList.getD j 0).toNat : Int)

theorem lowAt_zero (s : ByteArray) (j : Nat) : lowAt s 0 j = ((s.data.toList.getD j 0).toNat : Int) := by simp [lowAt]
theorem getD_byte (s : ByteArray) (j : Nat) (h : j < s.size) : s.data.toList.getD j 0 = s[j]'h := by
  rw [List.getD_eq_getElem?_getD, byte_get s j h]; rfl
theorem lowAt_end (s : ByteArray) (pos j : Nat) (hp : ¬ pos < s.size) (hj : j < s.size) : lowAt s pos j = (lowXs s).getD j 0 := by
  unfold lowAt; rw [if_pos (by omega)]
theorem lowAt_here (s : ByteArray) (pos : Nat) (h : pos < s.size) : lowAt s pos pos = ((s[pos]'h).toNat : Int) := by
  unfold lowAt; rw [if_neg (by omega), getD_byte s pos h]
/-- Where no byte from pos to q is a great letter, nothing is to be turned there. -/
theorem lowAt_skip (s : ByteArray) (pos q : Nat) (hpq : pos ≤ q) (hn : ∀ j (h : j < s.size), pos ≤ j → j < q → ¬ (65 ≤ (s[j]'h).toNat ∧ (s[j]'h).toNat ≤ 90)) (j : Nat) (hj : j < s.size) : lowAt s q j = lowAt s pos j := by
  unfold lowAt
  by_cases h1 : j < pos
  · rw [if_pos h1, if_pos (by omega)]
  · rw [if_neg h1]
    by_cases h2 : j < q
    · rw [if_pos h2, lowXs_get s j hj, getD_byte s j hj]
      have := hn j hj (by omega) h2
      unfold lowB
      rw [if_neg (by omega)]
    · rw [if_neg h2]
theorem lowAt_hit (s : ByteArray) (pos : Nat) (h : pos < s.size) (hu : 65 ≤ (s[pos]'h).toNat ∧ (s[pos]'h).toNat ≤ 90) : lowAt s (pos + 1) pos = ((s[pos]'h).toNat : Int) + 32 := by
  unfold lowAt
  rw [if_pos (by omega), lowXs_get s pos h]
  unfold lowB
  rw [if_pos (by omega)]
theorem lowAt_other (s : ByteArray) (pos j : Nat) (h : j ≠ pos) : lowAt s (pos + 1) j = lowAt s pos j := by
  unfold lowAt
  by_cases h1 : j < pos
  · rw [if_pos h1, if_pos (by omega)]
  · rw [if_neg h1, if_neg (by omega)]

/-- Behind a call that only makes memory the iterator stands where it was set, and every other block as it was. -/
theorem iter_step_at {w wr w1 : World} {B k : Nat} {s : ByteArray} {pos p1 : Nat} (hB : B ≤ k) (hh : wr.heap[k]? = some (.stringIter s pos)) (hbw : Below B w wr)
    (hb1 : Below (wr.iterAt k s p1).heap.size (wr.iterAt k s p1) w1) : w1.heap[k]? = some (.stringIter s p1) ∧ Below B w w1 ∧ ∀ j, j ≠ k → j < wr.heap.size → w1.heap[j]? = wr.heap[j]? := by
  have hlt : k < wr.heap.size := (Array.getElem?_eq_some_iff.1 hh).1
  refine ⟨?_, ?_, ?_⟩
  · rw [hb1.block _ (by rw [iterAt_size]; exact hlt)]
    exact iterAt_heap _ _ _ _ _ hh
  · exact (below_iterAt hbw hB s p1).trans (hb1.mono (by rw [iterAt_size]; omega))
  · intro j hj hjl
    rw [hb1.block _ (by rw [iterAt_size]; exact hjl)]
    exact iterAt_other _ _ _ _ _ hj

set_option maxHeartbeats 1000000 in
theorem implLower_any (s : ByteArray) (w : World) :
    Calls Try.prog 40 #[.string s] w fun e w' => TextIs (lowerOf s) w e w' := by
  obtain ⟨W0, cap, hcv, hsz, hcells, hfz, hbel⟩ : ∃ (W0 : World) (cap : Nat), (convert 9 22 (.string s)).run Try.prog w = .ok (.slice (some ⟨w.heap.size, 0, none⟩) s.size cap) W0 ∧ W0.heap.size = w.heap.size + 1 ∧
      Hid (∀ j, j < s.size → W0.cell? ⟨w.heap.size, j, none⟩ = some (.int .u8 (lowAt s 0 j))) ∧ Hid (∀ j, j < s.size → W0.frozen? ⟨w.heap.size, j, none⟩ = false) ∧ Below w.heap.size w W0 := by
    refine ⟨_, _, Lib.run_convert_string_bytes (P := Try.prog) w 9 22 5 s Try.underlying9 Try.underlying22 Try.underlying5, bytesWorld_size _ _ _, ?_, ?_, ?_⟩
    · intro j hj; rw [lowAt_zero]; exact bytesWorld_cell w 5 s j hj
    · intro j hj
      have hle : s.size ≤ (bytesCells w 5 s).size := by simp [bytesCells]
      simp [World.frozen?, bytesWorld_at_new]
      omega
    · exact ⟨rfl, rfl, rfl, by rw [bytesWorld_size]; omega, fun k hk => bytesWorld_at_old w 5 s k hk⟩
  go_enter Try.func40, Try.ntmps40
  go_wp2
  go_loopw [4] (fun _ wr => ∃ pos : Nat, pos ≤ s.size ∧ wr.heap[w.heap.size + 1]? = some (.stringIter s pos) ∧ Below w.heap.size w wr ∧ Hid (∀ j, j < s.size → wr.cell? ⟨w.heap.size, j, none⟩ = some (.int .u8 (lowAt s pos j))) ∧ Hid (∀ j, j < s.size → wr.frozen? ⟨w.heap.size, j, none⟩ = false)) (fun _ wr => s.size - wr.iterPos (w.heap.size + 1))
  case atStart =>
    refine ⟨0, Nat.zero_le _, ?_, ?_, ?_, ?_⟩
    · rw [← hsz]; exact World.iter_heap _ _ _
    · exact hbel.alloc (by omega) _
    · intro j hj; rw [← hcells.out j hj]; exact World.cell?_alloc_lt _ _ _ (by simp; omega)
    · intro j hj; rw [← hfz.out j hj]; exact World.frozen?_alloc_old _ _ _ (by simp; omega)
  case round =>
    clear hcells hfz
    obtain ⟨pos, hpos, hh, hbw, hcells, hfz⟩ := hrel
    by_cases hp : pos < s.size
    · by_cases hu : 65 ≤ (s[pos]'hp).toNat ∧ (s[pos]'hp).toNat ≤ 90
      · have hnx := fun ty => run_next_ascii_at (P := Try.prog) wr (w.heap.size + 1) s pos ty hh hp (by omega)
        have hcl : (cls ((s[pos]'hp).toNat : Int) == 0) = true := by
          have := cls_spec ((s[pos]'hp).toNat : Int)
          rw [beq_iff_eq]; omega
        have hu1 : (65 : Int) ≤ ((s[pos]'hp).toNat : Int) := by omega
        have hu2 : ((s[pos]'hp).toNat : Int) ≤ 90 := by omega
        have HU : Hid (65 ≤ (s[pos]'hp).toNat ∧ (s[pos]'hp).toNat ≤ 90) := hu
        clear hu
        have hNw : w.heap.size < wr.heap.size := by
          have := (Array.getElem?_eq_some_iff.1 hh).1
          omega
        go_wp2_with fail
        refine (classOf_any _ _).mono ?_
        rintro e w1 ⟨rfl, hb1⟩
        obtain ⟨p1, p2, p3⟩ := iter_step_at (by omega) hh hbw hb1
        have hblk : w1.heap[w.heap.size]? = wr.heap[w.heap.size]? := p3 _ (by omega) hNw
        have hc1 : w1.cell? ⟨w.heap.size, pos, none⟩ = some (.int .u8 ((s[pos]'hp).toNat : Int)) := by
          rw [World.cell?_of_block (w := wr) hblk, hcells.out pos hp, lowAt_here s pos hp]
        have hf1 : w1.frozen? ⟨w.heap.size, pos, none⟩ = false := by
          rw [World.frozen?_of_block (w := wr) hblk]; exact hfz.out pos hp
        have HB : Hid (w1.heap[w.heap.size]? = wr.heap[w.heap.size]?) := hblk
        have H1 : Hid (w1.heap[w.heap.size + 1]? = some (.stringIter s (pos + 1))) := p1
        have HH : Hid (wr.heap[w.heap.size + 1]? = some (.stringIter s pos)) := hh
        clear hblk p3 hb1 hnx hh p1
        go_wp2
        have hit2 : (w1.setCell ⟨w.heap.size, pos, none⟩ (.int .u8 (((s[pos]'hp).toNat : Int) + 32))).heap[w.heap.size + 1]? = some (.stringIter s (pos + 1)) := by
          rw [Below.heap_setCell _ _ _ _ (by simp)]; exact H1.out
        refine ⟨⟨pos + 1, by omega, hit2, p2.setCell (Nat.le_refl _) _, ?_, ?_⟩, by rw [iterPos_of hit2, iterPos_of HH.out]; omega⟩
        · intro j hj
          by_cases e : j = pos
          · subst e
            rw [World.cell?_setCell_same _ _ _ hc1, lowAt_hit s j hp HU.out]
          · rw [World.cell?_setCell_other (h := fun h => e (by cases h; rfl)), World.cell?_of_block (w := wr) HB.out, lowAt_other s pos j e]
            exact hcells.out j hj
        · intro j hj
          rw [World.frozen?_setCell, World.frozen?_of_block (w := wr) HB.out]; exact hfz.out j hj
      · have hnx := fun ty => run_next_any_at (P := Try.prog) wr (w.heap.size + 1) s pos ty hh hp
        obtain ⟨d1, d2, d3⟩ := decode_skip s pos hp
        have hcl : (cls ((Utf8.decode s pos).1 : Int) == 0) = false := by
          have := cls_spec ((Utf8.decode s pos).1 : Int)
          rw [beq_eq_false_iff_ne]
          by_cases ha : (s[pos]'hp).toNat < 128
          · rw [decode_ascii s pos hp ha] at this ⊢
            dsimp only at this ⊢
            omega
          · have := (decode_high s pos hp (by omega)).1
            omega
        have hsk : ∀ j, j < s.size → lowAt s (pos + (Utf8.decode s pos).2) j = lowAt s pos j := fun j hj => lowAt_skip s pos _ (by omega) (fun i hi h1 h2 => by
          by_cases e : i = pos
          · subst e; exact hu
          · have := d3 i hi (by omega) h2; omega) j hj
        have HS : Hid (∀ j, j < s.size → lowAt s (pos + (Utf8.decode s pos).2) j = lowAt s pos j) := hsk
        have hNw : w.heap.size < wr.heap.size := by
          have := (Array.getElem?_eq_some_iff.1 hh).1
          omega
        clear hu d3 hsk
        go_wp2_with (go_at_call 57; refine (classOf_any _ _).mono ?_; rintro e w1 ⟨rfl, hb1⟩)
        obtain ⟨p1, p2, p3⟩ := iter_step_at (by omega) hh hbw hb1
        have hblk : w1.heap[w.heap.size]? = wr.heap[w.heap.size]? := p3 _ (by omega) hNw
        refine ⟨⟨_, d1, p1, p2, ?_, ?_⟩, by rw [iterPos_of p1, iterPos_of hh]; omega⟩
        · intro j hj
          rw [World.cell?_of_block (w := wr) hblk, HS.out j hj]; exact hcells.out j hj
        · intro j hj
          rw [World.frozen?_of_block (w := wr) hblk]; exact hfz.out j hj
    · have hnx := fun ty => run_next_end_at (P := Try.prog) wr (w.heap.size + 1) s pos ty hh hp
      have hback := run_convert_bytes_arg (P := Try.prog) wr 22 5 Try.underlying22 Try.underlying5 w.heap.size 0 s.size cap (lowXs s) (lowXs_len s) (fun i hi => by
        rw [Nat.zero_add, hcells.out i hi, lowAt_end s pos i hp hi]) 9 Try.underlying9
      go_wp2
      go_ret
      exact TextIs.of rfl hbw

/-- The first k bytes made small, as values. -/
def lowVs (s : ByteArray) (k : Nat) : List Value := ((lowXs s).take k).map (Value.int .u8)
theorem lowVs_succ (s : ByteArray) (k : Nat) (h : k < s.size) : lowVs s (k + 1) = lowVs s k ++ [Value.int .u8 (lowB ((s[k]'h).toNat : Int))] := by
  have hl : k < (lowXs s).length := by rw [lowXs_len]; exact h
  unfold lowVs
  rw [List.take_succ_eq_append_getElem hl, List.map_append]
  have := lowXs_get s k h
  rw [List.getD_eq_getElem?_getD, List.getElem?_eq_getElem hl] at this
  simp at this
  simp [this]
theorem lowVs_end (s : ByteArray) (k : Nat) (h : ¬ k < s.size) : lowVs s k = (lowXs s).map (Value.int .u8) := by
  unfold lowVs; rw [List.take_of_length_le (by rw [lowXs_len]; omega)]
/-- What is owned lies from the base on. -/
theorem owns_ge {w : World} {base : Nat} {e : TypeId} {size : Nat} {v : Value} {n g : Nat} {xs : List Value} (h : w.ownsRow base e size v n xs) (hg : v.ownBlock = some g) : base ≤ g := by
  rcases h.2 with ⟨rfl, _⟩ | ⟨g', cap, cur, rfl, hb, _⟩
  · simp [Value.ownBlock] at hg
  · simp [Value.ownBlock] at hg; omega
theorem one_byte (V : Int) : ∀ u ∈ [Value.int .u8 V], u.oneCell' = true := by intro u hu; simp at hu; subst hu; rfl
/-- An owned row of bytes, turned into a text. -/
theorem conv_owned {w : World} {base n : Nat} {v : Value} {xs : List Int} (h : w.ownsRow base 5 1 v n (xs.map (Value.int .u8))) : (convert 22 9 v).run Try.prog w = .ok (.string (strOfNums xs)) w := by
  obtain ⟨hl, hv⟩ := h
  simp at hl
  rcases hv with ⟨rfl, h0⟩ | ⟨g, cap, cur, rfl, _, hg, hn, _, hcs, htk⟩
  · have : xs = [] := List.length_eq_zero_iff.1 (by omega)
    subst this
    exact run_convert_bytes_nil (P := Try.prog) w 22 5 Try.underlying22 Try.underlying5 0 0 9 Try.underlying9
  · refine run_convert_bytes_arg (P := Try.prog) w 22 5 Try.underlying22 Try.underlying5 g 0 n cap xs hl (fun i hi => ?_) 9 Try.underlying9
    have h1 : (cur.toList.take (n * 1))[i]? = some (.int .u8 (xs.getD i 0)) := by
      rw [htk, List.getElem?_map, List.getD_eq_getElem?_getD, List.getElem?_eq_getElem (by omega)]
      simp
    rw [List.getElem?_take, if_pos (by omega)] at h1
    simp only [World.cell?, hg, Nat.zero_add]
    simpa using h1

set_option maxHeartbeats 1000000 in
set_option maxRecDepth 100000 in
theorem specLower_any (s : ByteArray) (w : World) (hs : s.size ≤ 1048576) :
    Calls Try.prog 42 #[.string s] w fun e w' => TextIs (lowerOf s) w e w' := by
  obtain ⟨i0, hi, hz0, hz1, hz2⟩ := info_parts info5
  go_enter Try.func42, Try.ntmps42
  go_wp2
  go_loopw [3, 4] (fun v i wr => ∃ k : Nat, k ≤ s.size ∧ i = .int .i64 k ∧ wr.ownsRow w.heap.size 5 1 v k (lowVs s k) ∧ Below w.heap.size w wr) (fun _ i _ => s.size - (intOf i).toNat)
  case atStart => exact ⟨0, Nat.zero_le _, rfl, ⟨by simp [lowVs], .inr ⟨w.heap.size, 0, #[], rfl, Nat.le_refl _, heap_alloc_new w _, Nat.le_refl _, Nat.zero_le _, rfl, rfl⟩⟩, (Below.refl _ _).alloc (Nat.le_refl _) _⟩
  case round =>
    obtain ⟨k, hk, rfl, hown, hbw⟩ := hrel
    by_cases hlt : k < s.size
    · have hb := (s[k]'hlt).toNat_lt
      have HST : Hid _ := lowVs_succ s k hlt
      have h63 : k + 1 ≤ maxLen := by unfold maxLen; omega
      have h47 : (k + 1) * 1 ≤ 140737488355328 := by omega
      have HBS : ∀ o, w.heap.size ≤ (wr.alloc o).heap.size := fun o => by have := hbw.size; simp; omega
      by_cases hu : (65 : Int) ≤ ((s[k]'hlt).toNat : Int) ∧ ((s[k]'hlt).toNat : Int) ≤ 90
      · have hV : Hid (((s[k]'hlt).toNat : Int) + 32 = lowB ((s[k]'hlt).toNat : Int)) := by show _ = _; unfold lowB; rw [if_pos hu]
        obtain ⟨hu1, hu2⟩ := hu
        go_wp2_with (at_builtin; refine wpList_append_own _ rfl _ _ 22 rfl w.heap.size 5 i0 (.int .u8 0) 1 1 Try.underlying22 hi hz0 hz1 hz2 rfl (by decide) _ _ _ rfl (hown.alloc _) ⟨wr.heap.size, 0, none⟩ 1 1 [.int .u8 (((s[k]'hlt).toNat : Int) + 32)] rfl rfl (cell_one_new _ _ _) (one_byte _) h63 h47 (HBS _) ?_)
        intro v1 w1 hown1 hgrow _
        have hb2 : Below w.heap.size w w1 := (hbw.alloc hbw.size _).grown hgrow (by have := hbw.size; simp; omega) (fun g hg => owns_ge hown hg)
        rw [hV.out, ← HST.out] at hown1
        clear hgrow hown hbw
        go_wp2
        go_roundw
        case rel => exact ⟨k + 1, by omega, by go_num, hown1, hb2⟩
        case measure => simp [intOf]; omega
      · have hV : Hid (((s[k]'hlt).toNat : Int) = lowB ((s[k]'hlt).toNat : Int)) := by show _ = _; unfold lowB; rw [if_neg hu]
        have hcase : ((s[k]'hlt).toNat : Int) < 65 ∨ (65 : Int) ≤ ((s[k]'hlt).toNat : Int) ∧ (90 : Int) < ((s[k]'hlt).toNat : Int) := by omega
        clear hu
        rcases hcase with hc | ⟨hc, hc2⟩
        · go_wp2_with (at_builtin; refine wpList_append_own _ rfl _ _ 22 rfl w.heap.size 5 i0 (.int .u8 0) 1 1 Try.underlying22 hi hz0 hz1 hz2 rfl (by decide) _ _ _ rfl (hown.alloc _) ⟨wr.heap.size, 0, none⟩ 1 1 [.int .u8 ((s[k]'hlt).toNat : Int)] rfl rfl (cell_one_new _ _ _) (one_byte _) h63 h47 (HBS _) ?_)
          intro v1 w1 hown1 hgrow _
          have hb2 : Below w.heap.size w w1 := (hbw.alloc hbw.size _).grown hgrow (by have := hbw.size; simp; omega) (fun g hg => owns_ge hown hg)
          have hown2 : w1.ownsRow w.heap.size 5 1 v1 (k + 1) (lowVs s (k + 1)) := by rw [HST.out, ← hV.out]; exact hown1
          clear hown1
          clear hgrow hown hbw
          go_wp2
          go_roundw
          case rel => exact ⟨k + 1, by omega, by go_num, hown2, hb2⟩
          case measure => simp [intOf]; omega
        · go_wp2_with (at_builtin; refine wpList_append_own _ rfl _ _ 22 rfl w.heap.size 5 i0 (.int .u8 0) 1 1 Try.underlying22 hi hz0 hz1 hz2 rfl (by decide) _ _ _ rfl (hown.alloc _) ⟨wr.heap.size, 0, none⟩ 1 1 [.int .u8 ((s[k]'hlt).toNat : Int)] rfl rfl (cell_one_new _ _ _) (one_byte _) h63 h47 (HBS _) ?_)
          intro v1 w1 hown1 hgrow _
          have hb2 : Below w.heap.size w w1 := (hbw.alloc hbw.size _).grown hgrow (by have := hbw.size; simp; omega) (fun g hg => owns_ge hown hg)
          have hown2 : w1.ownsRow w.heap.size 5 1 v1 (k + 1) (lowVs s (k + 1)) := by rw [HST.out, ← hV.out]; exact hown1
          clear hown1
          clear hgrow hown hbw
          go_wp2
          go_roundw
          case rel => exact ⟨k + 1, by omega, by go_num, hown2, hb2⟩
          case measure => simp [intOf]; omega
    · have hcv := conv_owned (by rw [lowVs_end s k hlt] at hown; exact hown)
      go_wp2
      go_ret
      exact TextIs.of rfl hbw

end Go.Proofs.Ytfgapdididdcaaa
