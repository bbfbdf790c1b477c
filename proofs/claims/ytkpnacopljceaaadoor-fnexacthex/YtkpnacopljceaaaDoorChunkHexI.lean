/- 'Hex' of the program, by strconv.FormatInt at base 16: contracts over the translation. -/
import Derived.Test.YtkpnacopljceaaaDoorChunkTextS
import Derived.Test.YtkpnacopljceaaaDoorChunkHexP
import Derived.Test.YtkpnacopljceaaaDoorShelf
import Derived.Laws.BitsLemmas
namespace Go.Proofs.YtkpnacopljceaaaDoor
open Go.RowKit
open Go.Lib hiding intOf

/-- The one word of math/bits' table that is read: how many noughts 16 ends with. -/
def DbOk (w : World) : Prop := w.cell? ⟨3, 15, none⟩ = some (.int .u8 4)
theorem DbOk.lt {w : World} (h : DbOk w) : 3 < w.heap.size := World.block_lt_of_cell? w _ h
theorem DbOk.below {B : Nat} {w w' : World} (h : DbOk w) (hb : Below B w w') (hB : 3 < B) : DbOk w' := by
  unfold DbOk at h ⊢
  rw [hb.cell (p := ⟨3, 15, none⟩) hB]
  exact h

set_option maxHeartbeats 1000000 in
theorem tz64_any (w : World) (h : DbOk w) :
    Calls Tryd.prog 73 #[.int .u64 16] w fun e w' => e = .returned (.int .i64 4) ∧ w' = w := by
  unfold DbOk at h
  have e1 : IntKind.u64.wrap (-16) = 18446744073709551600 := by decide
  have e2 : bits BinOp.and IntKind.u64 16 18446744073709551600 = 16 := by decide
  have e3 : IntKind.u64.wrap 4573923408821661840 = 4573923408821661840 := by decide
  go_enter Tryd.func73, Tryd.ntmps73
  go_wp2_with fail
  go_ret
  exact ⟨rfl, rfl⟩

set_option maxHeartbeats 1000000 in
theorem tz_any (w : World) (h : DbOk w) :
    Calls Tryd.prog 65 #[.int .u64 16] w fun e w' => e = .returned (.int .i64 4) ∧ w' = w := by
  go_enter Tryd.func65, Tryd.ntmps65
  go_wp2_with (go_at_call 73; refine (tz64_any _ h).mono ?_; rintro e w1 ⟨rfl, rfl⟩)
  go_ret
  exact ⟨rfl, rfl⟩
theorem pow2_any (w : World) :
    Calls Tryd.prog 64 #[.int .i64 16] w fun e w' => e = .returned (.bool true) ∧ w' = w := by
  have e1 : bits BinOp.and IntKind.i64 16 15 = 0 := by decide
  go_enter Tryd.func64, Tryd.ntmps64
  go_wp2_with fail
  go_ret
  exact ⟨rfl, rfl⟩

/-- The array that the digits are laid into, from its end: these are laid. -/
def Laid65 (W : World) (B : Nat) (L : List UInt8) : Prop := ∃ cs : Array Value, W.heap[B]? = some (.cells cs 96) ∧ cs.size = 65 ∧ L.length ≤ 65 ∧ (∀ j, j < 65 → ∃ z : Int, cs[j]? = some (.int .u8 z)) ∧ ∀ j, j < L.length → cs[65 - L.length + j]? = some (.int .u8 ((L.getD j 0).toNat : Int))
theorem zeros65 : Tryd.zeroCells96 = Array.replicate 65 (.int .u8 0) := by kernel_rfl
theorem Laid65.start (w : World) : Laid65 (w.alloc (Obj.cells Tryd.zeroCells96 96)) w.heap.size [] := by
  rw [zeros65]
  refine ⟨Array.replicate 65 (.int .u8 0), by show (w.heap.push _)[w.heap.size]? = _; simp, by simp, by simp, fun j hj => ⟨0, ?_⟩, fun j hj => by simp at hj⟩
  rw [Array.getElem?_replicate, if_pos hj]
theorem Laid65.cell {W : World} {B : Nat} {L : List UInt8} (h : Laid65 W B L) (j : Nat) (hj : j < 65) : ∃ z : Int, W.cell? ⟨B, j, none⟩ = some (.int .u8 z) := by
  obtain ⟨cs, h1, _, _, h4, _⟩ := h
  obtain ⟨z, hz⟩ := h4 j hj
  exact ⟨z, by simp [World.cell?, h1, hz]⟩
theorem Laid65.frozen {W : World} {B : Nat} {L : List UInt8} (h : Laid65 W B L) (j : Nat) : W.frozen? ⟨B, j, none⟩ = false := by
  obtain ⟨cs, h1, _⟩ := h
  simp [World.frozen?, h1]
theorem Laid65.put {W : World} {B : Nat} {L : List UInt8} (h : Laid65 W B L) (k : Nat) (hk : k + L.length = 64) (c : UInt8) (z : Int) (hz : z = (c.toNat : Int)) : Laid65 (W.setCell ⟨B, k, none⟩ (.int .u8 z)) B (c :: L) := by
  obtain ⟨cs, h1, h2, h3, h4, h5⟩ := h
  subst hz
  refine ⟨_, heap_set _ _ _ _ _ _ _ h1, by simp [h2], by simp; omega, fun j hj => ?_, fun j hj => ?_⟩
  · by_cases e : k = j
    · exact ⟨(c.toNat : Int), by rw [Array.getElem?_setIfInBounds, if_pos e, if_pos (by omega)]⟩
    · obtain ⟨z, hz⟩ := h4 j hj
      exact ⟨z, by rw [Array.getElem?_setIfInBounds, if_neg e]; exact hz⟩
  · simp only [List.length_cons] at hj
    cases j with
    | zero =>
      rw [Array.getElem?_setIfInBounds, if_pos (by simp; omega), if_pos (by omega)]
      simp
    | succ j =>
      rw [Array.getElem?_setIfInBounds, if_neg (by simp; omega)]
      have := h5 j (by omega)
      rw [show 65 - (c :: L).length + (j + 1) = 65 - L.length + j by simp; omega, this]
      simp
theorem Laid65.text {W : World} {B : Nat} {L : List UInt8} (h : Laid65 W B L) (k : Nat) (hk : k + L.length = 65) (c : Nat) :
    (convert 22 9 (.slice (some ⟨B, k, none⟩) L.length c)).run Tryd.prog W = .ok (.string ⟨L.toArray⟩) W := by
  obtain ⟨cs, h1, h2, h3, h4, h5⟩ := h
  have := run_convert_bytes_arg (P := Tryd.prog) W 22 5 Tryd.underlying22 Tryd.underlying5 B k L.length c (L.map fun b => (b.toNat : Int)) (by simp) (fun i hi => by
    have h6 := h5 i hi
    rw [show 65 - L.length + i = k + i by omega] at h6
    simp [World.cell?, h1, h6, List.getD_eq_getElem?_getD, List.getElem?_map, List.getElem?_eq_getElem hi]) 9 Tryd.underlying9
  rw [this]
  congr 2
  apply ByteArray.ext
  apply Array.toList_inj.1
  rw [strOfNums_data]
  simp [List.map_map, Function.comp_def]
theorem digit_at (d : Nat) (h : d < 16) : ((⟨#[48, 49, 50, 51, 52, 53, 54, 55, 56, 57, 97, 98, 99, 100, 101, 102, 103, 104, 105, 106, 107, 108, 109, 110, 111, 112, 113, 114, 115, 116, 117, 118, 119, 120, 121, 122]⟩ : ByteArray)[d]'(Nat.lt_of_lt_of_le h (by decide))) = hxB d := by
  have : ∀ d : Fin 16, ((⟨#[48, 49, 50, 51, 52, 53, 54, 55, 56, 57, 97, 98, 99, 100, 101, 102, 103, 104, 105, 106, 107, 108, 109, 110, 111, 112, 113, 114, 115, 116, 117, 118, 119, 120, 121, 122]⟩ : ByteArray)[d.1]'(Nat.lt_of_lt_of_le d.2 (by decide))) = hxB d.1 := by decide
  exact this ⟨d, h⟩
theorem and15 (m : Nat) (h : m < 1048576) : bits BinOp.and IntKind.u64 (m : Int) 15 = ((m % 16 : Nat) : Int) := by
  have h := bits_mask .u64 63 (by decide) (fun n h0 h1 => by rw [IntKind.wrap_u64]; omega) 4 (by decide) (m : Int) (by omega) (by omega)
  have e : ((2 : Int) ^ 4 - 1) = 15 := by decide
  have e2 : ((2 : Int) ^ 4) = 16 := by decide
  rw [e, e2] at h
  rw [h]
  omega

set_option maxHeartbeats 4000000 in
set_option maxRecDepth 100000 in
theorem formatBits_hex (n : Nat) (w : World) (hn : n ≤ 1000000) (hd : DbOk w) :
    Calls Tryd.prog 56 #[.slice none 0 0, .int .u64 (n : Int), .int .i64 16, .bool false, .bool false] w fun e w' => e = .returned (.tuple #[.slice none 0 0, .string (hexT n)]) ∧ Below w.heap.size w w' := by
  have hd2 : DbOk (w.alloc (Obj.cells Tryd.zeroCells96 96)) := hd.below ((Below.refl w.heap.size w).alloc (Nat.le_refl _) _) hd.lt
  have HL0 : Hid (Laid65 (w.alloc (Obj.cells Tryd.zeroCells96 96)) w.heap.size []) := Laid65.start w
  have HB0 : Hid (Below w.heap.size w (w.alloc (Obj.cells Tryd.zeroCells96 96))) := (Below.refl _ w).alloc (Nat.le_refl _) _
  go_enter Tryd.func56, Tryd.ntmps56
  go_wp2_with (fail)
  refine (pow2_any _).mono ?_
  rintro e w1 ⟨rfl, rfl⟩
  go_wp2_with (fail)
  refine (tz_any _ hd2).mono ?_
  rintro e w1 ⟨rfl, hw1⟩
  rw [← hw1] at HL0 HB0
  clear hw1 hd2
  obtain ⟨B, hB⟩ : ∃ B, B = w.heap.size := ⟨_, rfl⟩
  rw [← hB] at HL0 HB0
  rw [← hB]
  have HBS : Hid (B = w.heap.size) := hB
  clear hB
  go_wp2_with fail
  go_loopw [1, 13] (fun a b wr => ∃ (f m : Nat) (L : List UInt8), a = .int .u64 (m : Int) ∧ b = .int .i64 ((65 - L.length : Nat) : Int) ∧ m ≤ 1000000 ∧ L.length + f = 5 ∧ Hid (Laid65 wr B L) ∧ Hid (Below B w wr) ∧ Hid (m < 16 ^ f ∧ (m = 0 → n = 0 ∧ L = []) ∧ hxF f m ++ L = hxF 5 n)) (fun a _ _ => (intOf a).toNat)
  case atStart => exact ⟨5, n, [], rfl, rfl, hn, rfl, HL0, HB0, ⟨by omega, fun h => ⟨h, rfl⟩, by simp⟩⟩
  case round =>
    obtain ⟨f, m, L, rfl, rfl, hm, hfL, HL, HB, HD⟩ := hrel
    have hk : (0 : Int) ≤ ((65 - L.length : Nat) : Int) - 1 := by omega
    have hk1 : ((65 - L.length : Nat) : Int) - 1 < 65 := by omega
    have hkn : (((65 - L.length : Nat) : Int) - 1).toNat = 64 - L.length := by omega
    obtain ⟨z, hz⟩ := HL.out.cell (64 - L.length) (by omega)
    have hfz := HL.out.frozen (64 - L.length)
    obtain ⟨d, hdm⟩ : ∃ d, d = m % 16 := ⟨_, rfl⟩
    have hd16 : d < 16 := by omega
    by_cases hge : (16 : Int) ≤ (m : Int)
    · have hand : bits BinOp.and IntKind.u64 (m : Int) 15 = (d : Int) := by rw [and15 m (by omega), hdm]
      have HDM : Hid (d = m % 16) := hdm
      clear hdm
      go_wp2_with fail
      go_roundw
      case rel =>
        obtain ⟨h1, h2, h3⟩ := HD.out
        cases f with
        | zero => simp at h1; omega
        | succ f =>
          rw [Nat.pow_succ] at h1
          refine ⟨f, m / 16, hxB d :: L, by simp, by simp; omega, by omega, by simp; omega, HL.out.put _ (by omega) _ _ (by rw [digit_at d hd16]), HB.out.setCell (Nat.le_refl _) _, by omega, fun e => by omega, ?_⟩
          rw [hxF_pos f m (by omega), List.append_assoc, ← HDM.out] at h3
          exact h3
      case measure => simp [intOf]; omega
    · obtain ⟨h1, h2, h3⟩ := HD.out
      have hf : 1 ≤ f := by
        cases f with
        | zero =>
          have hm0 : m = 0 := by simpa using h1
          have := (h2 hm0).2
          rw [this] at hfL
          simp at hfL
        | succ f => omega
      have hmd : (m : Int) = (d : Int) := by omega
      have HT : Hid (hexT n = ⟨(hxB d :: L).toArray⟩) := by
        show _ = _
        unfold hexT hexL
        rw [if_neg (by omega)]
        by_cases hm0 : m = 0
        · obtain ⟨e1, e2⟩ := h2 hm0
          rw [if_pos e1, e2, show d = 0 by omega]
          rfl
        · obtain ⟨f', rfl⟩ : ∃ f', f = f' + 1 := ⟨f - 1, by omega⟩
          rw [hxF_pos f' m hm0, show m / 16 = 0 by omega, hxF_zero, ← hdm] at h3
          have hn0 : n ≠ 0 := by
            intro e
            rw [e, hxF_zero] at h3
            simp at h3
          rw [if_neg hn0, ← h3]
          rfl
      rw [hmd] at hge ⊢
      clear h1 h2 h3 hmd hdm
      have HP : Hid (∀ z : Int, z = ((hxB d).toNat : Int) → Laid65 (wr.setCell ⟨B, 64 - L.length, none⟩ (.int .u8 z)) B (hxB d :: L)) := fun z hz => HL.out.put _ (by omega) _ _ hz
      have hal : Tryd.prog.arrayLen 96 = 65 := by simp [Program.arrayLen, Tryd.underlying96]
      have hsl : ∀ W, (Instr.sliceAt 96 (.pointer (some ⟨B, 0, none⟩)) (some (.int .i64 (((65 - L.length : Nat) : Int) - 1))) none none).run Tryd.prog W = .ok (.slice (some ⟨B, 64 - L.length, none⟩) (L.length + 1) (L.length + 1)) W := fun W => by
        rw [run_sliceAt_array_l W 96 ⟨B, 0, none⟩ (by simp [Program.arrayLen, Program.elem, Tryd.underlying96]) .i64 _ (by omega) (by rw [hal]; omega), hkn, hal]
        have e2 : 65 - (64 - L.length) = L.length + 1 := by omega
        simp [slicedAt, Program.elem, Tryd.underlying96, Tryd.sizeOf5, e2, Addr.add]
        rw [if_neg (by omega), if_neg (by omega)]
      have hcv : (convert 22 9 (.slice (some ⟨B, 64 - L.length, none⟩) (L.length + 1) (L.length + 1))).run Tryd.prog (wr.setCell ⟨B, 64 - L.length, none⟩ (.int .u8 (((⟨#[48, 49, 50, 51, 52, 53, 54, 55, 56, 57, 97, 98, 99, 100, 101, 102, 103, 104, 105, 106, 107, 108, 109, 110, 111, 112, 113, 114, 115, 116, 117, 118, 119, 120, 121, 122]⟩ : ByteArray)[d]'(Nat.lt_of_lt_of_le hd16 (by decide))).toNat : Int))) = .ok (.string ⟨(hxB d :: L).toArray⟩) (wr.setCell ⟨B, 64 - L.length, none⟩ (.int .u8 (((⟨#[48, 49, 50, 51, 52, 53, 54, 55, 56, 57, 97, 98, 99, 100, 101, 102, 103, 104, 105, 106, 107, 108, 109, 110, 111, 112, 113, 114, 115, 116, 117, 118, 119, 120, 121, 122]⟩ : ByteArray)[d]'(Nat.lt_of_lt_of_le hd16 (by decide))).toNat : Int))) :=
        Laid65.text (HP.out _ (by rw [digit_at d hd16])) _ (by simp; omega) _
      go_wp2_with fail
      go_ret2
      refine ⟨by rw [HT.out]; rfl, ?_⟩
      rw [← HBS.out]
      exact HB.out.setCell (Nat.le_refl _) _

set_option maxHeartbeats 1000000 in
theorem formatInt_hex (n : Nat) (w : World) (hn : n ≤ 1000000) (hd : DbOk w) :
    Calls Tryd.prog 38 #[.int .i64 (n : Int), .int .i64 16] w fun e w' => TextIs (hexT n) w e w' := by
  have HC : Hid (Calls Tryd.prog 56 #[.slice none 0 0, .int .u64 (n : Int), .int .i64 16, .bool false, .bool false] w fun e w' => e = .returned (.tuple #[.slice none 0 0, .string (hexT n)]) ∧ Below w.heap.size w w') := formatBits_hex n w hn hd
  obtain ⟨t, ht⟩ : ∃ t, t = hexT n := ⟨_, rfl⟩
  rw [← ht] at HC ⊢
  clear ht
  go_enter Tryd.func38, Tryd.ntmps38
  go_wp2_with (first | (go_at_call 47; go_in) | (go_at_call 56; refine HC.out.mono ?_; rintro e w1 ⟨rfl, hb1⟩))
  go_ret
  exact TextIs.of rfl hb1

set_option maxHeartbeats 1000000 in
/-- Hex of the program: a number in sixteens, nothing of one that is below 0 or beyond the limit. -/
theorem implHex_any (n : Int) (w : World) (hd : DbOk w) :
    Calls Tryd.prog 17 #[.int .i64 n] w fun e w' => TextIs (hexTI n) w e w' := by
  by_cases h0 : n < 0
  · have HE : Hid (hexTI n = ⟨#[]⟩) := by show _ = _; unfold hexTI; rw [if_pos h0]
    go_enter Tryd.func17, Tryd.ntmps17
    go_wp2_with fail
    go_ret
    exact TextIs.of HE.out.symm (Below.refl _ _)
  · by_cases h1 : 1000000 < n
    · have HE : Hid (hexTI n = ⟨#[]⟩) := by show _ = _; unfold hexTI hexT hexL; rw [if_neg h0, if_pos (by omega)]
      go_enter Tryd.func17, Tryd.ntmps17
      go_wp2_with fail
      go_ret
      exact TextIs.of HE.out.symm (Below.refl _ _)
    · obtain ⟨k, rfl⟩ : ∃ k : Nat, n = (k : Int) := ⟨n.toNat, by omega⟩
      have HE : Hid (hexTI (k : Int) = hexT k) := by show _ = _; unfold hexTI; rw [if_neg (by omega)]; rfl
      have HC : Hid (Calls Tryd.prog 38 #[.int .i64 (k : Int), .int .i64 16] w fun e w' => TextIs (hexT k) w e w') := formatInt_hex k w (by omega) hd
      rw [HE.out]
      go_enter Tryd.func17, Tryd.ntmps17
      go_wp2_with (go_at_call 38; refine HC.out.mono ?_; rintro e w1 ⟨rfl, hb1⟩)
      go_ret
      exact TextIs.of rfl hb1

end Go.Proofs.YtkpnacopljceaaaDoor
