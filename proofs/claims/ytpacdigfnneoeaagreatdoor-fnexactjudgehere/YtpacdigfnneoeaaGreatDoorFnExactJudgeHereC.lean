/- What the proof of FnExactJudgeHere leans on: contracts of the program's and the specification's functions, and plain facts (part 3 of 11). -/
import Derived.Test.YtpacdigfnneoeaaGreatDoorFnExactJudgeHereB
set_option maxHeartbeats 16000000
set_option maxRecDepth 100000
namespace Go.Proofs.YtpacdigfnneoeaaGreatDoor
open Go.RowKit
open Go.Lib hiding intOf
def writeAt (l : List (Int × ByteArray)) (i : Nat) : (Int × ByteArray) := l.getD i (0, ⟨#[]⟩)
def writeEnc (x : (Int × ByteArray)) : List Value := [.int .i64 x.1, .string x.2]
def flatWrite (l : List (Int × ByteArray)) : List Value := l.flatMap writeEnc
theorem flatWrite_len (l : List (Int × ByteArray)) : (flatWrite l).length = l.length * 2 := by
 induction l with
 | nil => rfl
 | cons f r ih => simp only [flatWrite, writeEnc, List.flatMap_cons, List.length_append, List.length_cons, List.length_nil] at ih ⊢; omega
theorem flatWrite_get : ∀ (l : List (Int × ByteArray)) (i : Nat), i < l.length → (flatWrite l)[i * 2]? = some (.int .i64 ((writeAt l i).1)) ∧ (flatWrite l)[i * 2 + 1]? = some (.string ((writeAt l i).2))
 | [], i, h => by simp at h
 | f :: r, 0, _ => by simp [flatWrite, writeEnc, writeAt]
 | f :: r, i + 1, h => by
  have ih := flatWrite_get r i (by simpa using h)
  have e : flatWrite (f :: r) = writeEnc f ++ flatWrite r := rfl
  have hl : (writeEnc f).length = 2 := rfl
  have h2 : writeAt (f :: r) (i + 1) = writeAt r i := by simp [writeAt]
  have key : ∀ j, (flatWrite (f :: r))[i * 2 + 2 + j]? = (flatWrite r)[i * 2 + j]? := fun j => by
   rw [e, List.getElem?_append_right (by rw [hl]; omega), hl]; congr 1; omega
  rw [h2]
  refine ⟨(by rw [show (i + 1) * 2 = i * 2 + 2 + 0 by omega, key]; exact ih.1), (by rw [show (i + 1) * 2 + 1 = i * 2 + 2 + 1 by omega, key]; exact ih.2)⟩
theorem writeAt_mem (l : List (Int × ByteArray)) (i : Nat) (h : i < l.length) : writeAt l i ∈ l := by
 unfold writeAt
 rw [List.getD_eq_getElem?_getD, List.getElem?_eq_getElem h]
 exact List.getElem_mem h
theorem take_writeAt (l : List (Int × ByteArray)) (i : Nat) (h : i < l.length) : l.take (i + 1) = l.take i ++ [writeAt l i] := by
 unfold writeAt
 rw [List.getD_eq_getElem?_getD, List.getElem?_eq_getElem h, List.take_succ_eq_append_getElem h]
 rfl
def WriteA (w : World) (oa : Oa) (n : Nat) (l : List (Int × ByteArray)) : Prop :=
 l.length = n ∧ ∀ i, i < n → ∃ g, oa = some ⟨g, 0, none⟩ ∧ g < w.heap.size ∧ w.cell? ⟨g, i * 2, none⟩ = some (.int .i64 ((writeAt l i).1)) ∧ w.cell? ⟨g, i * 2 + 1, none⟩ = some (.string ((writeAt l i).2))
theorem WriteA.below {w W : World} {oa : Oa} {n : Nat} {l : List (Int × ByteArray)} (h : WriteA w oa n l) (hb : Below w.heap.size w W) : WriteA W oa n l :=
 ⟨h.1, fun i hi => by
  obtain ⟨g, h1, h2, r0, r1⟩ := h.2 i hi
  exact ⟨g, h1, Nat.lt_of_lt_of_le h2 hb.size, by rw [hb.cell (p := ⟨g, i * 2, none⟩) h2]; exact r0, by rw [hb.cell (p := ⟨g, i * 2 + 1, none⟩) h2]; exact r1⟩⟩
def ArgWrite (w : World) (B : Nat) (a : Oa) (n : Nat) (l : List (Int × ByteArray)) : Prop :=
 l.length = n ∧ ∀ i, i < n → ∃ b off, a = some ⟨b, off, none⟩ ∧ b < B ∧ w.cell? ⟨b, off + i * 2, none⟩ = some (.int .i64 ((writeAt l i).1)) ∧ w.cell? ⟨b, off + i * 2 + 1, none⟩ = some (.string ((writeAt l i).2))
theorem ArgWrite.below {w w' : World} {B : Nat} {a : Oa} {n : Nat} {l : List (Int × ByteArray)} (h : ArgWrite w B a n l) (hb : Below B w w') : ArgWrite w' B a n l :=
 ⟨h.1, fun i hi => by
  obtain ⟨b, off, h1, h2, r0, r1⟩ := h.2 i hi
  exact ⟨b, off, h1, h2, by rw [hb.cell (p := ⟨b, off + i * 2, none⟩) h2]; exact r0, by rw [hb.cell (p := ⟨b, off + i * 2 + 1, none⟩) h2]; exact r1⟩⟩
def PartWrite (w : World) (g n k : Nat) (l : List (Int × ByteArray)) : Prop :=
 ∃ cur, w.heap[g]? = some (.cells cur 183 (0, 0)) ∧ cur.size = n * 2 ∧ ∀ i, i < k → cur[i * 2]? = some (.int .i64 ((writeAt l i).1)) ∧ cur[i * 2 + 1]? = some (.string ((writeAt l i).2))
theorem PartWrite.below {w w' : World} {g n k B : Nat} {l : List (Int × ByteArray)} (h : PartWrite w g n k l) (hb : Below B w w') (hB : g < B) : PartWrite w' g n k l := by
 obtain ⟨cur, h1, h2⟩ := h
 exact ⟨cur, by rw [hb.block g hB]; exact h1, h2⟩
theorem PartWrite.lt {w : World} {g n k : Nat} {l : List (Int × ByteArray)} (h : PartWrite w g n k l) : g < w.heap.size := by
 obtain ⟨cur, h1, _⟩ := h
 exact (blt h1)
theorem PartWrite.cell {w : World} {g n k : Nat} {l : List (Int × ByteArray)} (h : PartWrite w g n k l) (j : Nat) (hj : j < n * 2) : ∃ u, w.cell? ⟨g, j, none⟩ = some u := by
 obtain ⟨cur, h1, h2, _⟩ := h
 refine ⟨cur[j]'(by omega), ?_⟩
 simp only [World.cell?, h1]
 simp [show j < cur.size by omega]
theorem PartWrite.frozen {w : World} {g n k : Nat} {l : List (Int × ByteArray)} (h : PartWrite w g n k l) (j : Nat) : w.frozen? ⟨g, j, none⟩ = false := by
 obtain ⟨cur, h1, _⟩ := h
 simp [World.frozen?, h1]
theorem PartWrite.put {w : World} {g n k : Nat} {l : List (Int × ByteArray)} (h : PartWrite w g n k l) (hk : k < n) : PartWrite ((w.setCell ⟨g, k * 2, none⟩ (.int .i64 (writeAt l k).1)).setCell ⟨g, k * 2 + 1, none⟩ (.string (writeAt l k).2)) g n (k + 1) l := by
 obtain ⟨cur, h1, h2, h3⟩ := h
 refine ⟨_, heap_set _ g (k * 2 + 1) _ _ _ _ (heap_set _ g (k * 2) _ _ _ _ h1), by simpa using h2, ?_⟩
 intro i hi
 by_cases e : i = k
 ·subst e
  exact ⟨by rw [Array.getElem?_setIfInBounds_ne (by omega), Array.getElem?_setIfInBounds_self_of_lt (by first | omega | (simp; omega))], by rw [Array.getElem?_setIfInBounds_self_of_lt (by first | omega | (simp; omega))]⟩
 have := h3 i (by omega)
 exact ⟨by rw [Array.getElem?_setIfInBounds_ne (by omega), Array.getElem?_setIfInBounds_ne (by omega)]; exact this.1, by rw [Array.getElem?_setIfInBounds_ne (by omega), Array.getElem?_setIfInBounds_ne (by omega)]; exact this.2⟩
theorem PartWrite.owns {w : World} {g n : Nat} {l : List (Int × ByteArray)} (h : PartWrite w g n n l) (hl : l.length = n) (hm : n ≤ maxLen) {base : Nat} (hb : base ≤ g) : w.ownsRow base 183 2 (.slice (some ⟨g, 0, none⟩) n n) n (flatWrite l) := by
 obtain ⟨cur, hg, hs, hc⟩ := h
 refine ⟨by rw [flatWrite_len, hl], .inr ⟨g, n, cur, rfl, hb, hg, Nat.le_refl _, hm, hs, ?_⟩⟩
 apply List.ext_getElem?
 intro j
 rw [List.getElem?_take]
 by_cases hj : j < n * 2
 rotate_left
 · rw [if_neg hj, List.getElem?_eq_none (by rw [flatWrite_len]; omega)]
 rw [if_pos hj]
 have hf := flatWrite_get l (j / 2) (by omega)
 have hcc := hc (j / 2) (by omega)
 have hr : j = (j / 2) * 2 ∨ j = (j / 2) * 2 + 1 := by omega
 rcases hr with e | e
 ·have e2 := hf.1
  have e3 := hcc.1
  rw [← e] at e2 e3
  rw [e2]; simpa using e3
 ·have e2 := hf.2
  have e3 := hcc.2
  rw [← e] at e2 e3
  rw [e2]; simpa using e3
theorem write_view {w : World} {base n cap : Nat} {oa : Oa} {l : List (Int × ByteArray)} (h : w.ownsRow base 183 2 (.slice oa n cap) n (flatWrite l)) : WriteA w oa n l := by
 obtain ⟨hl, hv⟩ := h
 rw [flatWrite_len] at hl
 refine ⟨by omega, fun i hi => ?_⟩
 rcases hv with ⟨e, h0⟩ | ⟨g, cap, cur, e, hb, hg, hn, hm, hcs, htk⟩
 · omega
 ·cases e
  have hf := flatWrite_get l i (by omega)
  rw [← htk] at hf
  simp only [List.getElem?_take] at hf
  rw [if_pos (by omega), if_pos (by omega)] at hf
  refine ⟨g, rfl, (blt hg), by simp only [World.cell?, hg]; simpa using hf.1, by simp only [World.cell?, hg]; simpa using hf.2⟩
theorem write_len {w : World} {base n : Nat} {v : Value} {l : List (Int × ByteArray)} (h : w.ownsRow base 183 2 v n (flatWrite l)) : l.length = n := by
 have := h.1
 rw [flatWrite_len] at this
 omega
theorem infoWrite : (Tryz.prog.info? 183).map (fun i => (i.zero, i.size, i.bytes)) = some (some (.agg #[.int .i64 0, .string ⟨#[]⟩]), 2, 24) := by kernel_rfl
def SzWriteR (L : Int) (n : Nat) (l : List (Int × ByteArray)) (w : World) (e : Ending) (w' : World) : Prop :=
 ∃ r : Int, e = .returned (.int .i64 r) ∧ r ≤ L ∧ (0 ≤ r → r + (n : Int) ≤ L ∧ n ≤ 1048576 ∧ ∀ x ∈ l, (x.2).size ≤ 1048576) ∧ Below w.heap.size w w'
theorem szWriteS_room (L : Int) (hL0 : 0 ≤ L) (hL1 : L ≤ 1048576) (B : Nat) (a : Oa) (n cap : Nat) (l : List (Int × ByteArray)) (w : World) (harg : ArgWrite w B a n l) (hB : B ≤ w.heap.size) (hn : n ≤ maxLen) (hsz : ∀ x ∈ l, (x.2).size ≤ maxLen) :
  Calls Tryz.prog 58 #[.slice a n cap, .int .i64 L] w fun e w' => SzWriteR L n l w e w' := by
 unfold maxLen at hn
 have HS := hid hsz
 have HLN : Hid (l.length = n) := harg.1
 have HA : Hid (∀ W, Below w.heap.size w W → ArgWrite W B a n l) := fun W h => harg.below (h.mono hB)
 clear hsz harg
 by_cases c1 : L - (n : Int) < 0
 ·go_enter Tryz.func58, Tryz.ntmps58
  go_wp2
  go_ret
  exact ⟨-1, rfl, by omega, fun h => absurd h (by omega), Below.refl _ _⟩
 go_enter Tryz.func58, Tryz.ntmps58
 go_wp2
 go_loopw [1, 5] (fun lf i wr => ∃ (k : Nat) (x : Int), k ≤ n ∧ i = .int .i64 (k : Int) ∧ lf = .int .i64 x ∧ 0 ≤ x ∧ x + (n : Int) ≤ L ∧ Hid (∀ x ∈ l.take k, (x.2).size ≤ 1048576) ∧ Hid (Below w.heap.size w wr)) (fun _ i _ => n - (intOf i).toNat)
 case atStart => exact ⟨0, _, Nat.zero_le _, rfl, rfl, by omega, by omega, fun x hx => by simp at hx, Below.refl _ _⟩
 case round =>
  obtain ⟨k, x, hk, rfl, rfl, hx0, hx1, HX, HBW⟩ := hrel
  by_cases hlt : k < n
  rotate_left
  ·have HF : Hid (n ≤ 1048576 ∧ ∀ x ∈ l, (x.2).size ≤ 1048576) := ⟨by omega, fun x hx => HX.out x (by rw [List.take_of_length_le (by rw [HLN.out]; omega)]; exact hx)⟩
   go_wp2
   go_ret
   exact ⟨x, rfl, by omega, fun _ => ⟨by omega, HF.out⟩, HBW.out⟩
  have hlt2 : (k : Int) < (n : Int) := by omega
  obtain ⟨b, off, rfl, hbB, r0, r1⟩ := (HA.out wr HBW.out).2 k hlt
  obtain ⟨y, hy⟩ := exq (writeAt l k)
  have HM : Hid (y ∈ l) := by show _ ∈ _; rw [hy]; exact writeAt_mem l k (by rw [HLN.out]; exact hlt)
  have HTK : Hid (l.take (k + 1) = l.take k ++ [y]) := by show _ = _; rw [hy]; exact take_writeAt l k (by rw [HLN.out]; exact hlt)
  have s1 := HS.out y HM.out
  rw [← hy] at r0 r1
  clear hy
  obtain ⟨y0, y1⟩ := y
  go_wp2_with fail
  refine (szWrite_any x hx0 (by omega) y0 y1 _ s1).mono ?_
  rintro e w1 ⟨r, rfl, hr1, hr2, bw⟩
  have HB2 : Hid (Below w.heap.size w w1) := HBW.out.trans (bw.mono HBW.out.size)
  clear r0 r1 bw
  by_cases d1 : r < 0
  ·clear hr2
   go_wp2
   go_ret
   exact ⟨-1, rfl, by omega, fun h => absurd h (by omega), HB2.out⟩
  have HX2 : Hid (∀ x ∈ l.take (k + 1), (x.2).size ≤ 1048576) := fun x hx => by
   rw [HTK.out] at hx
   rcases List.mem_append.1 hx with hx | hx
   · exact HX.out x hx
   · rw [List.mem_singleton.1 hx]; exact hr2 (by omega)
  clear hr2
  go_wp2
  go_roundw
  case rel => exact ⟨k + 1, r, by omega, by go_num, rfl, by omega, by omega, HX2, HB2⟩
  case measure => simp [intOf]; omega
theorem toWriteS_any (B : Nat) (a : Oa) (n cap : Nat) (l : List (Int × ByteArray)) (w : World) (harg : ArgWrite w B a n l) (hB : B ≤ w.heap.size) (hn : n ≤ 1048576) :
  Calls Tryz.prog 87 #[.slice a n cap] w fun e w' => ∃ v, e = .returned v ∧ w'.ownsRow w.heap.size 183 2 v n (flatWrite l) ∧ Below w.heap.size w w' := by
 obtain ⟨i0, hi, hz0, hz1, hz2⟩ := info_parts infoWrite
 obtain ⟨M, hM⟩ : ∃ M, M = madeCells (Value.agg #[.int .i64 0, .string ⟨#[]⟩]).cells (((n : Nat) : Int).toNat * i0.size) := ⟨_, rfl⟩
 have hmk : ∀ W : World, (Instr.makeSlice 37 (.int .i64 (n : Int)) (.int .i64 (n : Int))).run Tryz.prog W = .ok (.slice (some ⟨W.heap.size, 0, none⟩) n n) (W.alloc (.cells M 183)) := fun W => by
  have h := run_make (P := Tryz.prog) W 37 183 i0 (.agg #[.int .i64 0, .string ⟨#[]⟩]) Tryz.underlying37 hi hz0 .i64 .i64 (n : Int) (n : Int) (by omega) (by omega) (by rw [hz2]; omega) (by omega)
  rw [← hM] at h
  simpa using h
 have hMs : M.size = n * 2 := by rw [hM, size_madeCells, hz1]; simp
 have HLN : Hid (l.length = n) := harg.1
 have HA : Hid (∀ W, Below w.heap.size w W → ArgWrite W B a n l) := fun W h => harg.below (h.mono hB)
 clear hM harg
 have HP : Hid (PartWrite (w.alloc (.cells M 183)) w.heap.size n 0 l) := ⟨M, heap_alloc_new w _, hMs, fun i h => absurd h (by omega)⟩
 go_enter Tryz.func87, Tryz.ntmps87
 go_wp2
 go_loopw [4] (fun i wr => ∃ k : Nat, k ≤ n ∧ i = .int .i64 (k : Int) ∧ Hid (PartWrite wr w.heap.size n k l) ∧ Hid (Below w.heap.size w wr)) (fun i _ => n - (intOf i).toNat)
 case atStart => exact ⟨0, Nat.zero_le _, rfl, HP, (Below.refl _ _).alloc (Nat.le_refl _) _⟩
 case round =>
  obtain ⟨k, hk, rfl, hpr, HBW⟩ := hrel
  by_cases hlt : k < n
  rotate_left
  ·obtain rfl : k = n := by omega
   go_wp2
   go_ret
   exact ⟨_, rfl, hpr.out.owns HLN.out (by unfold maxLen; omega) (Nat.le_refl _), HBW.out⟩
  have hlt2 : (k : Int) < (n : Int) := by omega
  obtain ⟨b, off, rfl, hbB, r0, r1⟩ := (HA.out wr HBW.out).2 k hlt
  obtain ⟨y, hy⟩ := exq (writeAt l k)
  rw [← hy] at r0 r1
  have HY : Hid (writeAt l k = y) := hy.symm
  clear hy
  obtain ⟨y0, y1⟩ := y
  go_wp2_with fail
  refine (toWrite_any y0 y1 _).mono ?_
  rintro e w1 ⟨rfl, bw⟩
  have hpr1 := hpr.out.below bw hpr.out.lt
  have HB2 : Hid (Below w.heap.size w w1) := HBW.out.trans (bw.mono HBW.out.size)
  obtain ⟨u0, hu0⟩ := hpr1.cell (k * 2) (by omega)
  have f0 := hpr1.frozen (k * 2)
  obtain ⟨u1, hu1⟩ := hpr1.cell (k * 2 + 1) (by omega)
  have f1 := hpr1.frozen (k * 2 + 1)
  have hput := hpr1.put hlt
  rw [HY.out] at hput
  have HPUT : Hid _ := hput
  clear hput r0 r1 bw
  go_wp2
  go_roundw
  case rel => exact ⟨k + 1, by omega, by go_num, HPUT, (HB2.out.setCell (Nat.le_refl _) _).setCell (Nat.le_refl _) _⟩
  case measure => simp [intOf]; omega
theorem eqWriteS_any (o1 o2 : Oa) (n c1 c2 : Nat) (l : List (Int × ByteArray)) (w : World) (h1 : WriteA w o1 n l) (h2 : WriteA w o2 n l) (hn : n ≤ 2000000) :
  Calls Tryz.prog 104 #[.slice o1 n c1, .slice o2 n c2] w fun e w' => e = .returned (.bool true) ∧ Below w.heap.size w w' := by
 have H1 : Hid (∀ W, Below w.heap.size w W → WriteA W o1 n l) := fun W h => h1.below h
 have H2 : Hid (∀ W, Below w.heap.size w W → WriteA W o2 n l) := fun W h => h2.below h
 clear h1 h2
 go_enter Tryz.func104, Tryz.ntmps104
 go_wp2
 go_loopw [5] (fun i wr => ∃ k : Nat, k ≤ n ∧ i = .int .i64 (k : Int) ∧ Hid (Below w.heap.size w wr)) (fun i _ => n - (intOf i).toNat)
 case atStart => exact ⟨0, Nat.zero_le _, rfl, Below.refl _ _⟩
 case round =>
  obtain ⟨k, hk, rfl, HBW⟩ := hrel
  by_cases hlt : k < n
  rotate_left
  ·go_wp2
   go_ret
   exact ⟨rfl, HBW.out⟩
  have hlt2 : (k : Int) < (n : Int) := by omega
  obtain ⟨y, hy⟩ := exq (writeAt l k)
  obtain ⟨g1, rfl, hg1, a0, a1⟩ := (H1.out wr HBW.out).2 k hlt
  obtain ⟨g2, rfl, hg2, b0, b1⟩ := (H2.out wr HBW.out).2 k hlt
  rw [← hy] at a0 b0 a1 b1
  clear hy
  obtain ⟨y0, y1⟩ := y
  have HA : Hid (∀ w0 w1, Below wr.heap.size wr w0 → Below w0.heap.size w0 w1 → (w1.cell? ⟨g1, k * 2, none⟩ = some (.int .i64 y0) ∧ w1.cell? ⟨g1, k * 2 + 1, none⟩ = some (.string y1) ∧ w1.cell? ⟨g2, k * 2, none⟩ = some (.int .i64 y0) ∧ w1.cell? ⟨g2, k * 2 + 1, none⟩ = some (.string y1)) ∧ Below wr.heap.size wr w1) := fun w0 w1 h h' => by
   have hx := h.trans (h'.mono h.size)
   exact ⟨⟨by rw [hx.cell (p := ⟨g1, k * 2, none⟩) hg1]; exact a0, by rw [hx.cell (p := ⟨g1, k * 2 + 1, none⟩) hg1]; exact a1, by rw [hx.cell (p := ⟨g2, k * 2, none⟩) hg2]; exact b0, by rw [hx.cell (p := ⟨g2, k * 2 + 1, none⟩) hg2]; exact b1⟩, hx⟩
  go_wp2
  go_region_held3 (fun w' => w'.cell? ⟨g1, k * 2, none⟩ = some (.int .i64 y0) ∧ w'.cell? ⟨g1, k * 2 + 1, none⟩ = some (.string y1) ∧ w'.cell? ⟨g2, k * 2, none⟩ = some (.int .i64 y0) ∧ w'.cell? ⟨g2, k * 2 + 1, none⟩ = some (.string y1)) (first | assumption | go_keep) (first | (go_at_call 144; refine (eqWrite_any _ _ _).mono ?_; rintro e w1 ⟨rfl, hb1⟩; obtain ⟨hcc, hbx⟩ := HA.out _ w1 ((Below.refl _ wr).drew) hb1))
  go_wp2
  go_roundw
  case rel => exact ⟨k + 1, by omega, by go_num, HBW.out.trans (hbx.mono HBW.out.size)⟩
  case measure => simp [intOf]; omega
theorem openWriteS {H : Type} {enc : TypeId × Value → H} {W : World} {fuel : Nat} {a : Oa} {n cap : Nat} {x : DataW H × List MemPlace} (h : DataW.trod enc Tryz.prog W 0 (fun _ => true) true fuel 23 [.slice a n cap] = some x) :
  ∃ l, ArgWrite W W.heap.size a n l ∧ n ≤ maxLen ∧ ∀ x ∈ l, (x.2).size ≤ maxLen := by
 rcases Go.Deep.open_slice Tryz.underlying23 h with ⟨hcs, _⟩ | ⟨ad, len, c, m, q, Dd, Pl, hcs, _, hl, hm, hmm, _, hx⟩
 ·simp at hcs
  obtain ⟨rfl, rfl, rfl⟩ := hcs
  exact ⟨[], ⟨rfl, fun i hi => absurd hi (by omega)⟩, Nat.zero_le _, fun x hx => by simp at hx⟩
 ·simp at hcs
  obtain ⟨rfl, rfl, rfl⟩ := hcs
  have hm2 : m = cap := by simpa using hmm
  have ce : Tryz.prog.cellsOf 181 = 2 := by kernel_rfl
  have ci : Tryz.prog.cellsOf 3 = 1 := by kernel_rfl
  have cs : Tryz.prog.cellsOf 9 = 1 := by kernel_rfl
  have each : ∀ i, i < n → ∃ y : (Int × ByteArray), (W.cell? (ad.add (i * 2 + 0)) = some (.int .i64 (y.1)) ∧ W.cell? (ad.add (i * 2 + 1)) = some (.string (y.2))) ∧ (y.2).size ≤ maxLen := by
   intro i hi
   obtain ⟨cs', h1, h2⟩ := hx i (by omega)
   rw [ce] at h1
   obtain ⟨_, hlen, hcell⟩ := World.cells?_some h1
   obtain ⟨xs, k, hk, hxy, _, hxl, hf⟩ := DataW.trod_struct Tryz.underlying181 h2
   match xs, hxl, cs', hlen with
   | [x0, x1], _, [v0, v1], _ =>
    have g0 := hf 0 _ rfl
    have g1 := hf 1 _ rfl
    simp [ci, cs] at g0 g1
    obtain ⟨s0, e0, _, _⟩ := DataW.trod_int Tryz.underlying3 g0
    obtain ⟨s1, e1, _, z1⟩ := DataW.trod_string Tryz.underlying9 g1
    simp only [List.cons.injEq, and_true] at e0 e1
    subst e0 e1
    have c0 := hcell 0 (by omega)
    have c1 := hcell 1 (by omega)
    rw [Go.Deep.add_add] at c0 c1
    exact ⟨(s0, s1), ⟨by simpa using c0, by simpa using c1⟩, z1⟩
  obtain ⟨q, hq⟩ := Go.Deep.choose_lt each
  have hat : ∀ i, i < n → writeAt ((List.range n).map q) i = q i := fun i hi => by
   unfold writeAt
   rw [List.getD_eq_getElem?_getD, List.getElem?_map, List.getElem?_range hi]
   rfl
  refine ⟨(List.range n).map q, ⟨by simp, fun i hi => ?_⟩, by omega, fun x hx => ?_⟩
  ·obtain ⟨c0, _⟩ := hq i hi
   obtain ⟨c3, _⟩ := hq 0 (by omega)
   have hsp : ad.spot = none := by
    have := World.cell?_spot c3.1
    simpa [Addr.add] using this
   clear c3
   obtain ⟨b, off, sp⟩ := ad
   simp only at hsp
   subst hsp
   simp only [addr_add] at c0
   rw [hat i hi]
   have hlt := World.block_lt_of_cell? W _ c0.1
   exact ⟨b, off, rfl, hlt, by simpa [Nat.add_assoc] using c0.1, by simpa [Nat.add_assoc] using c0.2⟩
  ·obtain ⟨i, hi, rfl⟩ := List.mem_map.1 hx
   exact (hq i (List.mem_range.1 hi)).2
structure DiskO (W : World) (base : Nat) (v1 : Value) (n1 : Nat) (cs : Ts) (v2 : Value) (n2 : Nat) (ws : List (Int × ByteArray)) : Prop where
 cells : W.ownsRow base 9 1 v1 n1 (cs.map Value.string)
 pend : W.ownsRow base 183 2 v2 n2 (flatWrite ws)
theorem toDisk_any (a1 : Oa) (n1 c1 : Nat) (cs : Ts) (a2 : Oa) (n2 c2 : Nat) (ws : List (Int × ByteArray)) (B : Nat) (w : World) (h1 : ArgT w B a1 n1 cs) (h2 : ArgWrite w B a2 n2 ws) (hB : B ≤ w.heap.size) (hn1 : n1 ≤ 1048576) (hn2 : n2 ≤ 1048576) :
  Calls Tryz.prog 42 #[.agg #[.slice a1 n1 c1, .slice a2 n2 c2]] w fun e w' => ∃ v1 v2, e = .returned (.agg #[v1, v2]) ∧ DiskO w' w.heap.size v1 n1 cs v2 n2 ws ∧ Below w.heap.size w w' := by
 have HA1 : Hid (∀ W, Below w.heap.size w W → ArgT W B a1 n1 cs) := fun W h => h1.below (h.mono hB)
 have HA2 : Hid (∀ W, Below w.heap.size w W → ArgWrite W B a2 n2 ws) := fun W h => h2.below (h.mono hB)
 have HBB : Hid (∀ W, Below w.heap.size w W → B ≤ W.heap.size) := fun W h => Nat.le_trans hB h.size
 clear h1 h2 hB
 have hb0 := Below.refl w.heap.size w
 go_enter Tryz.func42, Tryz.ntmps42
 go_upto_region 1 with fail
 obtain ⟨q1, hq1⟩ := exq (w.heap.size)
 obtain ⟨w1, hW1⟩ := exq (w.alloc (.cells #[.slice a1 n1 c1, .slice a2 n2 c2] 25))
 have hz1 := hq1.symm
 rw [← hW1]; try rw [← hq1]
 have hs1 := hsa hW1 hz1
 have bw := bal hW1
 have hb1 := hbt hb0 bw
 have B1_1 := hnew hW1 hz1
 clear hb0 bw hW1 hz1
 obtain ⟨q2, hq2⟩ := exq (q1 + 1)
 obtain ⟨w2, hW2⟩ := exq (w1.alloc (.cells #[.slice none 0 0, .slice none 0 0] 39))
 have hz2 : w1.heap.size = q2 := by rw [hq2]; exact hs1
 rw [← hW2]; try rw [← hq2]
 have hs2 := hsa hW2 hz2
 have bw := bal hW2
 have hb2 := hbt hb1 bw
 have B1_2 := hblk B1_1 bw
 have Nv1v2 := hnq B1_1 hz2
 have B2_2 := hnew hW2 hz2
 have Gv2 := hge hz2 hb1
 clear hb1 bw hW2 hz2
 clear hs2 hq2 hs1 hq1
 go_upto_region 2 with fail
 obtain ⟨q3, hq3⟩ := exq (w2.heap.size)
 obtain ⟨w3, hW3⟩ := exq (w2.alloc (.cells #[.slice none 0 0, .slice none 0 0] 39))
 have hz3 := hq3.symm
 rw [← hW3]; try rw [← hq3]
 have hs3 := hsa hW3 hz3
 have bw := bal hW3
 have hb3 := hbt hb2 bw
 have B1_3 := hblk B1_2 bw
 have B2_3 := hblk B2_2 bw
 have Nv1v3 := hnq B1_2 hz3
 have Nv2v3 := hnq B2_2 hz3
 have B3_3 := hnew hW3 hz3
 have Gv3 := hge hz3 hb2
 clear hb2 bw hW3 hz3
 clear hs3 hq3
 have c1_0 := (k2c B1_3).1
 go_wp2_with fail
 refine (toStringS_any B a1 n1 c1 cs _ (HA1.out _ hb3) (HBB.out _ hb3) hn1).mono ?_
 rintro e w4 ⟨vv, rfl, ownC, bw⟩
 obtain ⟨oC, pC, rfl⟩ := slice_of_owns ownC
 have hb4 := hbt hb3 bw
 have B1_4 := hblk B1_3 bw
 have B2_4 := hblk B2_3 bw
 have B3_4 := hblk B3_3 bw
 have HOC_4 := hwd ownC hb3.size
 clear ownC
 clear hb3 bw
 clear c1_0
 have c3_0 := (k2c B3_4).1
 have f3_0 := hfz B3_4 0
 go_upto_region 3 with fail
 obtain ⟨w5, hW5⟩ := exq (w4.setCell ⟨q3, 0, none⟩ (.slice oC n1 pC))
 rw [← hW5]
 have hb5 := hbS hW5 hb4 Gv3
 have HOC_5 := hsetR hW5 (own_ne HOC_4.out B3_4.out (by decide)) HOC_4
 have B1_5 := hset hW5 Nv1v3.out B1_4
 have B2_5 := hset hW5 Nv2v3.out B2_4
 have B3_5 := hput hW5 B3_4
 clear hb4 hW5
 clear c3_0 f3_0
 have c1_1 := (k2c B1_5).2
 go_wp2_with fail
 refine (toWriteS_any B a2 n2 c2 ws _ (HA2.out _ hb5) (HBB.out _ hb5) hn2).mono ?_
 rintro e w6 ⟨vv, rfl, ownP, bw⟩
 obtain ⟨oP, pP, rfl⟩ := slice_of_owns ownP
 have hb6 := hbt hb5 bw
 have HOC_6 := hown HOC_5 bw
 have B1_6 := hblk B1_5 bw
 have B2_6 := hblk B2_5 bw
 have B3_6 := hblk B3_5 bw
 have HOP_6 := hwd ownP hb5.size
 clear ownP
 clear hb5 bw
 clear c1_1
 have c3_1 := (k2c B3_6).2
 have f3_1 := hfz B3_6 1
 go_upto_region 4 with fail
 obtain ⟨w7, hW7⟩ := exq (w6.setCell ⟨q3, 1, none⟩ (.slice oP n2 pP))
 rw [← hW7]
 have hb7 := hbS hW7 hb6 Gv3
 have HOC_7 := hsetR hW7 (own_ne HOC_6.out B3_6.out (by decide)) HOC_6
 have HOP_7 := hsetR hW7 (own_ne HOP_6.out B3_6.out (by decide)) HOP_6
 have B1_7 := hset hW7 Nv1v3.out B1_6
 have B2_7 := hset hW7 Nv2v3.out B2_6
 have B3_7 := hput hW7 B3_6
 clear hb6 hW7
 clear c3_1 f3_1
 have c2_0 := (k2c B2_7).1
 have f2_0 := hfz B2_7 0
 have c2_1 := (k2c B2_7).2
 have f2_1 := hfz B2_7 1
 have c3_0 := (k2c B3_7).1
 have c3_1 := (k2c B3_7).2
 go_wp2_with fail
 obtain ⟨w8, hW8⟩ := exq (w7.setCell ⟨q2, 0, none⟩ (.slice oC n1 pC))
 rw [← hW8]
 have hb8 := hbS hW8 hb7 Gv2
 have HOC_8 := hsetR hW8 (own_ne HOC_7.out B2_7.out (by decide)) HOC_7
 have HOP_8 := hsetR hW8 (own_ne HOP_7.out B2_7.out (by decide)) HOP_7
 have B1_8 := hset hW8 Nv1v2.out B1_7
 have B3_8 := hset hW8 Nv2v3.out.symm B3_7
 have B2_8 := hput hW8 B2_7
 clear hb7 hW8
 obtain ⟨w9, hW9⟩ := exq (w8.setCell ⟨q2, 1, none⟩ (.slice oP n2 pP))
 rw [← hW9]
 have hb9 := hbS hW9 hb8 Gv2
 have HOC_9 := hsetR hW9 (own_ne HOC_8.out B2_8.out (by decide)) HOC_8
 have HOP_9 := hsetR hW9 (own_ne HOP_8.out B2_8.out (by decide)) HOP_8
 have B1_9 := hset hW9 Nv1v2.out B1_8
 have B3_9 := hset hW9 Nv2v3.out.symm B3_8
 have B2_9 := hput hW9 B2_8
 clear hb8 hW9
 have kv2_0 := (k2c B2_9).1
 have kv2_1 := (k2c B2_9).2
 refine bodyPost_ret (v := .agg #[.slice oC n1 pC, .slice oP n2 pP]) (by simp [results, Tryz.results42, go_sem, kv2_0, kv2_1]) rfl ?_
 exact ⟨_, _, rfl, ⟨HOC_9.out, HOP_9.out⟩, hb9⟩
def SzDiskR (L : Int) (n1 : Nat) (cs : Ts) (n2 : Nat) (ws : List (Int × ByteArray)) (w : World) (e : Ending) (w' : World) : Prop :=
 ∃ r : Int, e = .returned (.int .i64 r) ∧ r ≤ L ∧ (0 ≤ r → r + (n1 : Int) + (n2 : Int) ≤ L ∧ (n1 ≤ 1048576 ∧ ∀ i, i < n1 → (textAt cs i).size ≤ 1048576) ∧ n2 ≤ 1048576 ∧ ∀ x ∈ ws, (x.2).size ≤ 1048576) ∧ Below w.heap.size w w'
theorem szDisk_room (L : Int) (hL0 : 0 ≤ L) (hL1 : L ≤ 1048576) (a1 : Oa) (n1 c1 : Nat) (cs : Ts) (a2 : Oa) (n2 c2 : Nat) (ws : List (Int × ByteArray)) (B : Nat) (w : World) (h1 : ArgT w B a1 n1 cs) (h2 : ArgWrite w B a2 n2 ws) (hB : B ≤ w.heap.size) (hn1 : n1 ≤ maxLen) (hn2 : n2 ≤ maxLen) (hs1 : ∀ i, i < n1 → (textAt cs i).size ≤ maxLen) (hs2 : ∀ x ∈ ws, (x.2).size ≤ maxLen) :
  Calls Tryz.prog 25 #[.agg #[.slice a1 n1 c1, .slice a2 n2 c2], .int .i64 L] w fun e w' => SzDiskR L n1 cs n2 ws w e w' := by
 have HA1 : Hid (∀ W, Below w.heap.size w W → ArgT W B a1 n1 cs) := fun W h => h1.below (h.mono hB)
 have HA2 : Hid (∀ W, Below w.heap.size w W → ArgWrite W B a2 n2 ws) := fun W h => h2.below (h.mono hB)
 have HBB : Hid (∀ W, Below w.heap.size w W → B ≤ W.heap.size) := fun W h => Nat.le_trans hB h.size
 clear h1 h2 hB
 have HN1 := hid hn1
 have HN2 := hid hn2
 have HS1 := hid hs1
 have HS2 := hid hs2
 clear hs1 hs2 hn1 hn2
 have hb0 := Below.refl w.heap.size w
 go_enter Tryz.func25, Tryz.ntmps25
 go_upto_region 1 with fail
 obtain ⟨q1, hq1⟩ := exq (w.heap.size)
 obtain ⟨w1, hW1⟩ := exq (w.alloc (.cells #[.slice a1 n1 c1, .slice a2 n2 c2] 25))
 have hz1 := hq1.symm
 rw [← hW1]; try rw [← hq1]
 have hs1 := hsa hW1 hz1
 have bw := bal hW1
 have hb1 := hbt hb0 bw
 have B1_1 := hnew hW1 hz1
 clear hb0 bw hW1 hz1
 clear hs1 hq1
 have c1_0 := (k2c B1_1).1
 go_wp2_with fail
 refine (szStringS_exact L (by omega) (by omega) B a1 n1 c1 cs _ (HA1.out _ hb1) (HBB.out _ hb1) HN1.out HS1.out).mono ?_
 rintro e w2 ⟨r1, rfl, hl1, hr1, bw⟩
 have hb2 := hbt hb1 bw
 have B1_2 := hblk B1_1 bw
 clear hb1 bw
 clear c1_0
 by_cases hc1 : r1 < 0
 ·clear hr1
  go_wp2_with fail
  go_ret
  exact ⟨-1, rfl, by omega, fun h => absurd h (by omega), hb2⟩
 obtain ⟨he1, hm1, hz1⟩ := hr1 (by omega)
 have HZ1 : Hid _ := hz1
 clear hr1 hz1
 have c1_1 := (k2c B1_2).2
 go_wp2_with fail
 refine (szWriteS_room r1 (by omega) (by omega) B a2 n2 c2 ws _ (HA2.out _ hb2) (HBB.out _ hb2) HN2.out HS2.out).mono ?_
 rintro e w3 ⟨r2, rfl, hl2, hr2, bw⟩
 have hb3 := hbt hb2 bw
 have B1_3 := hblk B1_2 bw
 clear hb2 bw
 clear c1_1
 by_cases hc2 : r2 < 0
 ·clear hr2
  go_wp2_with fail
  go_ret
  exact ⟨-1, rfl, by omega, fun h => absurd h (by omega), hb3⟩
 obtain ⟨he2, hm2, hz2⟩ := hr2 (by omega)
 have HZ2 : Hid _ := hz2
 clear hr2 hz2
 go_wp2_with fail
 go_ret
 exact ⟨_, rfl, by omega, fun _ => ⟨by omega, ⟨by omega, HZ1.out⟩, by omega, HZ2.out⟩, hb3⟩
theorem eqDisk_any (n1 : Nat) (cs : Ts) (n2 : Nat) (ws : List (Int × ByteArray)) (v1 v2 u1 u2 : Value) (B1 B2 : Nat) (w : World) (hx : DiskO w B1 v1 n1 cs v2 n2 ws) (hy : DiskO w B2 u1 n1 cs u2 n2 ws) (hn1 : n1 ≤ 2000000) (hn2 : n2 ≤ 2000000) :
  Calls Tryz.prog 51 #[.agg #[v1, v2], .agg #[u1, u2]] w fun e w' => e = .returned (.bool true) ∧ Below w.heap.size w w' := by
 obtain ⟨oCx, pCx, rfl⟩ := slice_of_owns hx.cells
 have HOCx_0 : Hid (w.ownsRow B1 9 1 (.slice oCx n1 pCx) n1 (cs.map Value.string)) := hx.cells
 obtain ⟨oPx, pPx, rfl⟩ := slice_of_owns hx.pend
 have HOPx_0 : Hid (w.ownsRow B1 183 2 (.slice oPx n2 pPx) n2 (flatWrite ws)) := hx.pend
 clear hx
 obtain ⟨oCy, pCy, rfl⟩ := slice_of_owns hy.cells
 have HOCy_0 : Hid (w.ownsRow B2 9 1 (.slice oCy n1 pCy) n1 (cs.map Value.string)) := hy.cells
 obtain ⟨oPy, pPy, rfl⟩ := slice_of_owns hy.pend
 have HOPy_0 : Hid (w.ownsRow B2 183 2 (.slice oPy n2 pPy) n2 (flatWrite ws)) := hy.pend
 clear hy
 have hb0 := Below.refl w.heap.size w
 go_enter Tryz.func51, Tryz.ntmps51
 go_upto_region 1 with fail
 obtain ⟨q1, hq1⟩ := exq (w.heap.size)
 obtain ⟨w1, hW1⟩ := exq (w.alloc (.cells #[.slice oCx n1 pCx, .slice oPx n2 pPx] 39))
 have hz1 := hq1.symm
 rw [← hW1]; try rw [← hq1]
 have hs1 := hsa hW1 hz1
 have bw := bal hW1
 have hb1 := hbt hb0 bw
 have HOCx_1 := hown HOCx_0 bw
 have HOPx_1 := hown HOPx_0 bw
 have HOCy_1 := hown HOCy_0 bw
 have HOPy_1 := hown HOPy_0 bw
 have B1_1 := hnew hW1 hz1
 clear hb0 bw hW1 hz1
 obtain ⟨q2, hq2⟩ := exq (q1 + 1)
 obtain ⟨w2, hW2⟩ := exq (w1.alloc (.cells #[.slice oCy n1 pCy, .slice oPy n2 pPy] 39))
 have hz2 : w1.heap.size = q2 := by rw [hq2]; exact hs1
 rw [← hW2]; try rw [← hq2]
 have hs2 := hsa hW2 hz2
 have bw := bal hW2
 have hb2 := hbt hb1 bw
 have HOCx_2 := hown HOCx_1 bw
 have HOPx_2 := hown HOPx_1 bw
 have HOCy_2 := hown HOCy_1 bw
 have HOPy_2 := hown HOPy_1 bw
 have B1_2 := hblk B1_1 bw
 have B2_2 := hnew hW2 hz2
 clear hb1 bw hW2 hz2
 clear hs2 hq2 hs1 hq1
 have c1_0 := (k2c B1_2).1
 have c2_0 := (k2c B2_2).1
 go_wp2_with fail
 refine (eqS_any _ _ n1 _ _ cs _ HOCx_2.out HOCy_2.out (by omega)).mono ?_
 rintro e w3 ⟨rfl, bw⟩
 have hb3 := hbt hb2 bw
 have HOCx_3 := hown HOCx_2 bw
 have HOPx_3 := hown HOPx_2 bw
 have HOCy_3 := hown HOCy_2 bw
 have HOPy_3 := hown HOPy_2 bw
 have B1_3 := hblk B1_2 bw
 have B2_3 := hblk B2_2 bw
 clear hb2 bw
 clear c1_0 c2_0
 have c1_1 := (k2c B1_3).2
 have c2_1 := (k2c B2_3).2
 go_wp2_with fail
 refine (eqWriteS_any _ _ n2 _ _ ws _ (write_view HOPx_3.out) (write_view HOPy_3.out) (by omega)).mono ?_
 rintro e w4 ⟨rfl, bw⟩
 have hb4 := hbt hb3 bw
 have HOCx_4 := hown HOCx_3 bw
 have HOPx_4 := hown HOPx_3 bw
 have HOCy_4 := hown HOCy_3 bw
 have HOPy_4 := hown HOPy_3 bw
 have B1_4 := hblk B1_3 bw
 have B2_4 := hblk B2_3 bw
 clear hb3 bw
 clear c1_1 c2_1
 go_wp2_with fail
 go_ret
 exact ⟨rfl, hb4⟩
def DiskN (n : Nat) (ws : List (Int × ByteArray)) : Prop := n = 20 ∧ ws.length ≤ 16 ∧ ∀ x ∈ ws, 0 ≤ x.1 ∧ x.1 ≤ 19
def DiskP (cs : Ts) (ws : List (Int × ByteArray)) : Prop := cs.length = 20 ∧ ws.length ≤ 16 ∧ ∀ x ∈ ws, 0 ≤ x.1 ∧ x.1 ≤ 19
theorem getElem_textAt (l : Ts) (i : Nat) (h : i < l.length) : l[i]? = some (textAt l i) := by
 unfold textAt
 rw [List.getD_eq_getElem?_getD, List.getElem?_eq_getElem h]
 rfl
theorem textAt_set (l : Ts) (k j : Nat) (x : Tx) : textAt (l.set k x) j = if j = k ∧ k < l.length then x else textAt l j := by
 unfold textAt
 rw [List.getD_eq_getElem?_getD, List.getElem?_set, List.getD_eq_getElem?_getD]
 by_cases h : j = k
 rotate_left
 · rw [if_neg (fun e => h e.symm), if_neg (fun e => h e.1)]
 subst h
 by_cases h2 : j < l.length
 · simp [h2]
 rw [if_pos rfl, if_neg h2, if_neg (fun e => h2 e.2), List.getElem?_eq_none (by omega)]
theorem maW_list : maW.toList = [109, 97, 120, 45, 97, 103, 101, 61] := by rw [ByteArray.toList_eq]; rfl
theorem nsW_list : nsW.toList = [110, 111, 45, 115, 116, 111, 114, 101] := by rw [ByteArray.toList_eq]; rfl
theorem ncW_list : ncW.toList = [110, 111, 45, 99, 97, 99, 104, 101] := by rw [ByteArray.toList_eq]; rfl
theorem prW_list : prW.toList = [112, 114, 105, 118, 97, 116, 101] := by rw [ByteArray.toList_eq]; rfl
theorem muW_list : muW.toList = [109, 117, 115, 116, 45, 114, 101, 118, 97, 108, 105, 100, 97, 116, 101] := by rw [ByteArray.toList_eq]; rfl
theorem ageOf_short {s : ByteArray} (h : s.size < 8) : ageOf s = none := by
 unfold ageOf
 rw [if_neg]
 intro e
 have := congrArg List.length e
 rw [List.length_take, bs_len] at this
 have h8 : (bs maW).length = 8 := rfl
 omega
theorem ageOf_yes {s : ByteArray} (h : s.extract 0 8 = maW) : ageOf s = some (numV (s.extract 8 s.size)) := by
 have e : (bs s).take 8 = bs maW := by rw [← h, bs_extract, List.drop_zero]
 have d : (⟨((bs s).drop 8).toArray⟩ : Tx) = s.extract 8 s.size := by
  rw [← text_bs (s.extract 8 s.size), bs_extract, List.take_of_length_le (by rw [bs_len]; exact Nat.le_refl _)]
 unfold ageOf
 rw [if_pos e, d]
theorem ageOf_no {s : ByteArray} (h : s.extract 0 8 ≠ maW) : ageOf s = none := by
 unfold ageOf
 rw [if_neg]
 intro e
 apply h
 rw [← text_bs (s.extract 0 8), bs_extract, List.drop_zero, e, text_bs]
def AgeIs (s : Tx) (w : World) (e : Ending) (w' : World) : Prop :=
 ∃ (n : Int) (b : Bool), e = .returned (.tuple #[.int .i64 n, .bool b]) ∧ (b = true → ageOf s = some n) ∧ (b = false → ageOf s = none) ∧ Below w.heap.size w w'
theorem l6Age_any (s : Tx) (w : World) (hs : s.size ≤ 4000000) :
  Calls Tryz.prog 118 #[.string s] w fun e w' => AgeIs s w e w' := by
 by_cases h8 : s.size < 8
 ·have HN : Hid (ageOf s = none) := ageOf_short h8
  have h8' : (s.size : Int) < 8 := by omega
  clear h8
  go_enter Tryz.func118, Tryz.ntmps118
  go_wp2_with fail
  refine bodyPost_ret (v := .tuple #[.int .i64 0, .bool false]) (by simp [results, Tryz.results118, go_sem]) rfl ?_
  exact ⟨0, false, rfl, nofun, fun _ => HN.out, Below.refl _ _⟩
 have h8' : ¬ (s.size : Int) < 8 := by omega
 have h8'' : (8 : Int) ≤ (s.size : Int) := by omega
 by_cases hp : s.extract 0 8 = maW
 rotate_left
 ·have ht : ((s.extract 0 8).toList == maW.toList) = false := text_beq_no hp
  rw [maW_list] at ht
  have HN : Hid (ageOf s = none) := ageOf_no hp
  clear hp h8
  go_enter Tryz.func118, Tryz.ntmps118
  go_wp2_with fail
  refine bodyPost_ret (v := .tuple #[.int .i64 0, .bool false]) (by simp [results, Tryz.results118, go_sem]) rfl ?_
  exact ⟨0, false, rfl, nofun, fun _ => HN.out, Below.refl _ _⟩
 have ht : ((s.extract 0 8).toList == maW.toList) = true := (text_beq _ _).2 hp
 rw [maW_list] at ht
 have HY : Hid (ageOf s = some (numV (s.extract 8 s.size))) := ageOf_yes hp
 have hes : (s.extract 8 s.size).size ≤ maxLen := by rw [ByteArray.size_extract]; unfold maxLen; omega
 clear hp h8
 go_enter Tryz.func118, Tryz.ntmps118
 go_wp2_with fail
 refine (specNumRead_any (s.extract 8 s.size) _ hes).mono ?_
 rintro e w1 ⟨b, n, rfl, hb1, hb2, hb3, b1⟩
 have HV : Hid (numV (s.extract 8 s.size) = n) := by
  show _ = _
  unfold numV
  cases b with
  | true => rw [if_pos (hb1.1 rfl), hb2 rfl]
  | false => rw [if_neg (fun h => nomatch hb1.2 h), hb3 rfl]
 clear hb1 hb2 hb3
 go_wp2_with fail
 refine bodyPost_ret (v := .tuple #[.int .i64 n, .bool true]) (by simp [results, Tryz.results118, go_sem]) rfl ?_
 exact ⟨n, true, rfl, fun _ => by rw [HY.out, HV.out], nofun, b1⟩
theorem ccLow_size (s : Tx) : (lowerOf s).size = s.size := by unfold lowerOf; rw [strOfNums_size, lowXs_len]
def CcD.cs (c : CcD) : Array Value := #[.bool c.ns, .bool c.nc, .bool c.pr, .bool c.mu, .bool c.ha, .int .i64 c.age]
def CcAt (w : World) (g : Nat) (c : CcD) : Prop := w.heap[g]? = some (.cells c.cs 106)
theorem CcAt.cells {w : World} {g : Nat} {c : CcD} (h : CcAt w g c) : w.cell? ⟨g, 0, none⟩ = some (.bool c.ns) ∧ w.cell? ⟨g, 1, none⟩ = some (.bool c.nc) ∧ w.cell? ⟨g, 2, none⟩ = some (.bool c.pr) ∧ w.cell? ⟨g, 3, none⟩ = some (.bool c.mu) ∧ w.cell? ⟨g, 4, none⟩ = some (.bool c.ha) ∧ w.cell? ⟨g, 5, none⟩ = some (.int .i64 c.age) := by
 unfold CcAt CcD.cs at h
 refine ⟨?_, ?_, ?_, ?_, ?_, ?_⟩ <;> simp [World.cell?, h]
theorem CcAt.frozen {w : World} {g : Nat} {c : CcD} (h : CcAt w g c) (o : Nat) : w.frozen? ⟨g, o, none⟩ = false := by
 unfold CcAt at h
 simp [World.frozen?, h]
theorem CcAt.lt {w : World} {g : Nat} {c : CcD} (h : CcAt w g c) : g < w.heap.size := (blt h)
theorem CcAt.same {w w' : World} {g : Nat} {c : CcD} (h : CcAt w g c) (hs : w'.heap[g]? = w.heap[g]?) : CcAt w' g c := by unfold CcAt; rw [hs]; exact h
theorem CcAt.put0 {w : World} {g : Nat} {c : CcD} (h : CcAt w g c) (x : Bool) : CcAt (w.setCell ⟨g, 0, none⟩ (.bool x)) g { c with ns := x } := by unfold CcAt at *; rw [heap_set _ _ _ _ _ _ _ h]; rfl
theorem CcAt.put1 {w : World} {g : Nat} {c : CcD} (h : CcAt w g c) (x : Bool) : CcAt (w.setCell ⟨g, 1, none⟩ (.bool x)) g { c with nc := x } := by unfold CcAt at *; rw [heap_set _ _ _ _ _ _ _ h]; rfl
theorem CcAt.put2 {w : World} {g : Nat} {c : CcD} (h : CcAt w g c) (x : Bool) : CcAt (w.setCell ⟨g, 2, none⟩ (.bool x)) g { c with pr := x } := by unfold CcAt at *; rw [heap_set _ _ _ _ _ _ _ h]; rfl
theorem CcAt.put3 {w : World} {g : Nat} {c : CcD} (h : CcAt w g c) (x : Bool) : CcAt (w.setCell ⟨g, 3, none⟩ (.bool x)) g { c with mu := x } := by unfold CcAt at *; rw [heap_set _ _ _ _ _ _ _ h]; rfl
theorem CcAt.put4 {w : World} {g : Nat} {c : CcD} (h : CcAt w g c) (x : Bool) : CcAt (w.setCell ⟨g, 4, none⟩ (.bool x)) g { c with ha := x } := by unfold CcAt at *; rw [heap_set _ _ _ _ _ _ _ h]; rfl
theorem CcAt.put5 {w : World} {g : Nat} {c : CcD} (h : CcAt w g c) (x : Int) : CcAt (w.setCell ⟨g, 5, none⟩ (.int .i64 x)) g { c with age := x } := by unfold CcAt at *; rw [heap_set _ _ _ _ _ _ _ h]; rfl
def putCc (w : World) (g : Nat) (d : CcD) : World := (((((w.setCell ⟨g, 0, none⟩ (.bool d.ns)).setCell ⟨g, 1, none⟩ (.bool d.nc)).setCell ⟨g, 2, none⟩ (.bool d.pr)).setCell ⟨g, 3, none⟩ (.bool d.mu)).setCell ⟨g, 4, none⟩ (.bool d.ha)).setCell ⟨g, 5, none⟩ (.int .i64 d.age)
theorem CcAt.putAll {w : World} {g : Nat} {c : CcD} (h : CcAt w g c) (d : CcD) : CcAt (putCc w g d) g d :=
 (((((h.put0 d.ns).put1 d.nc).put2 d.pr).put3 d.mu).put4 d.ha).put5 d.age
theorem below_putCc {B : Nat} {a w : World} (h : Below B a w) {g : Nat} (hg : B ≤ g) (d : CcD) : Below B a (putCc w g d) :=
 (((((h.setCell hg _).setCell hg _).setCell hg _).setCell hg _).setCell hg _).setCell hg _
def ccName : ByteArray := ⟨#[99, 97, 99, 104, 101, 45, 99, 111, 110, 116, 114, 111, 108]⟩
structure CcSt (w : World) (H : Nat) (c : CcD) (v : Value) (l : Ts) (wr : World) : Prop where
 res : CcAt wr H cc0
 cur : CcAt wr (H + 1) c
 row : wr.ownsRow (H + 1 + 1) 9 1 v l.length (l.map Value.string)
 low : Below H w wr
theorem CcSt.later {w : World} {H : Nat} {c : CcD} {v : Value} {l : Ts} {wr w' : World} (h : CcSt w H c v l wr) (hb : Below wr.heap.size wr w') : CcSt w H c v l w' :=
 ⟨h.res.same (hb.block _ h.res.lt), h.cur.same (hb.block _ h.cur.lt), owns_below h.row hb (fun _ hg => owns_lt h.row hg), h.low.trans (hb.mono (Nat.le_of_lt h.res.lt))⟩
theorem CcSt.put {w : World} {H : Nat} {c d : CcD} {v : Value} {l : Ts} {wr : World} (h : CcSt w H c v l wr) {o : Nat} {x : Value} (hd : CcAt (wr.setCell ⟨H + 1, o, none⟩ x) (H + 1) d) : CcSt w H d v l (wr.setCell ⟨H + 1, o, none⟩ x) :=
 ⟨h.res.same (heap_setCell_other _ _ H _ (by show H ≠ H + 1; omega)), hd, owns_same h.row (fun j hj => heap_setCell_other _ _ j _ (by show j ≠ H + 1; have := (own_ltR h.row hj).1; omega)), h.low.setCell (by show H ≤ H + 1; omega) _⟩
theorem specCcRead_any (s : ByteArray) (w : World) (hs : s.size ≤ 1048576) :
    Calls Tryz.prog 76 #[.string s] w fun e w' => e = .returned (ccR s).v ∧ Below w.heap.size w w' := by
  obtain ⟨H, hH⟩ : ∃ H, H = w.heap.size := ⟨_, rfl⟩
  have HW : Hid (w.heap.size = H) := hH.symm
  obtain ⟨W0, hW0⟩ : ∃ W, W = (w.alloc (.cells cc0.cs 106)).alloc (.cells cc0.cs 106) := ⟨_, rfl⟩
  have HA : Hid (CcAt W0 H cc0 ∧ CcAt W0 (H + 1) cc0 ∧ Below H w W0 ∧ W0.heap.size = H + 1 + 1) := by
    have e1 := heap_alloc_new w (.cells cc0.cs 106)
    have e2 := heap_alloc_new (w.alloc (.cells cc0.cs 106)) (.cells cc0.cs 106)
    rw [World.size_alloc] at e2
    refine ⟨?_, ?_, ?_, ?_⟩
    · unfold CcAt; rw [hW0, hH, heap_alloc_old _ _ (by simp)]; exact e1
    · unfold CcAt; rw [hW0, hH]; exact e2
    · rw [hW0, hH]; exact ((Below.refl _ w).alloc (Nat.le_refl _) _).alloc (by simp) _
    · rw [hW0, hH]; simp
  have HW0 : Hid ((w.alloc (.cells #[.bool false, .bool false, .bool false, .bool false, .bool false, .int .i64 0] 106)).alloc (.cells #[.bool false, .bool false, .bool false, .bool false, .bool false, .int .i64 0] 106) = W0) := hW0.symm
  clear hW0
  go_enter Tryz.func76, Tryz.ntmps76
  go_wp2_with fail
  rw [HW0.out, ← hH]
  clear hH
  refine (specSplit_any s _ hs).mono ?_
  rintro e w1 ⟨v, rfl, hown, b1⟩
  rw [HA.out.2.2.2] at hown b1
  obtain ⟨l, hl⟩ : ∃ l, l = splitL s := ⟨_, rfl⟩
  rw [← hl] at hown
  have HLS : Hid (splitL s = l) := hl.symm
  have HLB : Hid (∀ x ∈ l, x.size ≤ 1048576) := fun x hx => by rw [hl] at hx; have := (splitL_le s).2 x hx; omega
  have hll : l.length ≤ 1048577 := by rw [hl]; have := (splitL_le s).1; omega
  have HS1 : Hid (CcSt w H (ccTo (l.take 0)) v l w1) := ⟨HA.out.1.same (b1.block _ (by omega)), HA.out.2.1.same (b1.block _ (by omega)), hown, HA.out.2.2.1.trans (b1.mono (by omega))⟩
  obtain ⟨oa, cp, rfl⟩ := slice_of_owns hown
  obtain ⟨n, hn⟩ : ∃ n, n = l.length := ⟨_, rfl⟩
  have HN : Hid (l.length = n) := hn.symm
  rw [← hn] at hll HS1
  rw [← hn]
  clear hown b1 hl hn
  go_wp2_with fail
  go_loopw [5] (fun i wr => ∃ k : Nat, k ≤ n ∧ i = .int .i64 (k : Int) ∧ Hid (CcSt w H (ccTo (l.take k)) (.slice oa n cp) l wr)) (fun i _ => n - (intOf i).toNat)
  case atStart => exact ⟨0, Nat.zero_le _, rfl, HS1⟩
  case round =>
    obtain ⟨k, hk, rfl, HS⟩ := hrel
    by_cases hlt : (k : Int) < (n : Int)
    · have hkl : k < l.length := by have := HN.out; omega
      obtain ⟨g, rfl⟩ : ∃ g, oa = some ⟨g, 0, none⟩ := by
        rcases HS.out.row.2 with ⟨e, _⟩ | ⟨g, _, _, e, _⟩
        · injection e with _ e2 _; omega
        · injection e with e1 _ _; exact ⟨g, e1⟩
      obtain ⟨x, hx⟩ : ∃ x, x = l[k]'hkl := ⟨_, rfl⟩
      have hc0 : wr.cell? ⟨g, k, none⟩ = some (.string x) := by
        have hr := HS.out.row
        rw [HN.out] at hr
        exact (owns_cellC hr k (.string x) (by rw [List.getElem?_map, List.getElem?_eq_getElem hkl, hx]; rfl)).1
      have hxs : x.size ≤ 1048576 := by rw [hx]; exact HLB.out _ (List.getElem_mem hkl)
      obtain ⟨y, hy⟩ : ∃ y, y = lowerOf x := ⟨_, rfl⟩
      have hys : y.size ≤ 4000000 := by rw [hy, ccLow_size]; omega
      have HY : Hid (lowerOf x = y) := hy.symm
      have HST : Hid (ccTo (l.take (k + 1)) = ccStep (ccTo (l.take k)) y) := by
        show _ = _
        rw [List.take_succ_eq_append_getElem hkl, ccTo_snoc, ← hx, hy]
      clear hx hy hkl
      obtain ⟨c, hc⟩ : ∃ c, c = ccTo (l.take k) := ⟨_, rfl⟩
      rw [← hc] at HS HST
      obtain ⟨d, hd⟩ : ∃ d, d = ccTo (l.take (k + 1)) := ⟨_, rfl⟩
      rw [← hd] at HST
      have HD : Hid (ccTo (l.take (k + 1)) = d) := hd.symm
      clear hc hd
      go_wp2_with fail
      refine (specLower_any x _ hxs).mono ?_
      rintro e w2 ⟨rfl, b2⟩
      rw [HY.out]
      have HS2 : Hid (CcSt w H c (.slice (some ⟨g, 0, none⟩) n cp) l w2) := HS.out.later b2
      clear b2 hc0
      go_wp2_with fail
      refine (l6Age_any y _ hys).mono ?_
      rintro e w3 ⟨na, ba, rfl, hb1, hb2, b3⟩
      have HS3 : Hid (CcSt w H c (.slice (some ⟨g, 0, none⟩) n cp) l w3) := HS2.out.later b3
      obtain ⟨q0, q1, q2, q3, q4, q5⟩ := HS3.out.cur.cells
      have f0 := HS3.out.cur.frozen 0
      have f1 := HS3.out.cur.frozen 1
      have f2 := HS3.out.cur.frozen 2
      have f3 := HS3.out.cur.frozen 3
      have f4 := HS3.out.cur.frozen 4
      have f5 := HS3.out.cur.frozen 5
      clear b3 HS HS2
      by_cases h0 : y = nsW
      · have t0 : (y.toList == nsW.toList) = true := (text_beq _ _).2 h0
        rw [nsW_list] at t0
        have HS4 : Hid (CcSt w H d (.slice (some ⟨g, 0, none⟩) n cp) l (w3.setCell ⟨H + 1, 0, none⟩ (.bool true))) := by
          show CcSt _ _ _ _ _ _
          have e : d = { c with ns := true } := by rw [HST.out]; unfold ccStep; rw [if_pos h0]
          rw [e]
          exact HS3.out.put (HS3.out.cur.put0 true)
        clear h0 hb1 hb2
        go_wp2_with fail
        go_roundw
        case rel => exact ⟨k + 1, by omega, by go_num, by rw [HD.out]; exact HS4⟩
        case measure => simp [intOf]; omega
      have t0 : (y.toList == nsW.toList) = false := text_beq_no h0
      rw [nsW_list] at t0
      by_cases h1 : y = ncW
      · have t1 : (y.toList == ncW.toList) = true := (text_beq _ _).2 h1
        rw [ncW_list] at t1
        have HS4 : Hid (CcSt w H d (.slice (some ⟨g, 0, none⟩) n cp) l (w3.setCell ⟨H + 1, 1, none⟩ (.bool true))) := by
          show CcSt _ _ _ _ _ _
          have e : d = { c with nc := true } := by rw [HST.out]; unfold ccStep; rw [if_neg h0, if_pos h1]
          rw [e]
          exact HS3.out.put (HS3.out.cur.put1 true)
        clear h0 h1 hb1 hb2
        go_wp2_with fail
        go_roundw
        case rel => exact ⟨k + 1, by omega, by go_num, by rw [HD.out]; exact HS4⟩
        case measure => simp [intOf]; omega
      have t1 : (y.toList == ncW.toList) = false := text_beq_no h1
      rw [ncW_list] at t1
      by_cases h2 : y = prW
      · have t2 : (y.toList == prW.toList) = true := (text_beq _ _).2 h2
        rw [prW_list] at t2
        have HS4 : Hid (CcSt w H d (.slice (some ⟨g, 0, none⟩) n cp) l (w3.setCell ⟨H + 1, 2, none⟩ (.bool true))) := by
          show CcSt _ _ _ _ _ _
          have e : d = { c with pr := true } := by rw [HST.out]; unfold ccStep; rw [if_neg h0, if_neg h1, if_pos h2]
          rw [e]
          exact HS3.out.put (HS3.out.cur.put2 true)
        clear h0 h1 h2 hb1 hb2
        go_wp2_with fail
        go_roundw
        case rel => exact ⟨k + 1, by omega, by go_num, by rw [HD.out]; exact HS4⟩
        case measure => simp [intOf]; omega
      have t2 : (y.toList == prW.toList) = false := text_beq_no h2
      rw [prW_list] at t2
      by_cases h3 : y = muW
      · have t3 : (y.toList == muW.toList) = true := (text_beq _ _).2 h3
        rw [muW_list] at t3
        have HS4 : Hid (CcSt w H d (.slice (some ⟨g, 0, none⟩) n cp) l (w3.setCell ⟨H + 1, 3, none⟩ (.bool true))) := by
          show CcSt _ _ _ _ _ _
          have e : d = { c with mu := true } := by rw [HST.out]; unfold ccStep; rw [if_neg h0, if_neg h1, if_neg h2, if_pos h3]
          rw [e]
          exact HS3.out.put (HS3.out.cur.put3 true)
        clear h0 h1 h2 h3 hb1 hb2
        go_wp2_with fail
        go_roundw
        case rel => exact ⟨k + 1, by omega, by go_num, by rw [HD.out]; exact HS4⟩
        case measure => simp [intOf]; omega
      have t3 : (y.toList == muW.toList) = false := text_beq_no h3
      rw [muW_list] at t3
      have HRE : Hid (ccStep c y = match ageOf y with | none => c | some n => if c.ha = true then { c with age := min c.age n } else { c with ha := true, age := n }) := by
        show _ = _
        unfold ccStep
        rw [if_neg h0, if_neg h1, if_neg h2, if_neg h3] <;> rfl
      clear h0 h1 h2 h3
      cases ba with
      | false =>
        have HS4 : Hid (CcSt w H d (.slice (some ⟨g, 0, none⟩) n cp) l w3) := by
          show CcSt _ _ _ _ _ _
          have e : d = c := by rw [HST.out, HRE.out, hb2 rfl]
          rw [e]
          exact HS3.out
        clear hb1 hb2
        go_wp2_with fail
        go_roundw
        case rel => exact ⟨k + 1, by omega, by go_num, by rw [HD.out]; exact HS4⟩
        case measure => simp [intOf]; omega
      | true =>
        cases hha : c.ha with
        | true =>
          have HS4 : Hid (CcSt w H d (.slice (some ⟨g, 0, none⟩) n cp) l (w3.setCell ⟨H + 1, 5, none⟩ (.int .i64 (min c.age na)))) := by
            show CcSt _ _ _ _ _ _
            have e : d = { c with age := min c.age na } := by rw [HST.out, HRE.out, hb1 rfl]; dsimp only; rw [if_pos hha]
            rw [e]
            exact HS3.out.put (HS3.out.cur.put5 _)
          rw [hha] at q4
          clear hb1 hb2 hha
          go_wp2_with fail
          refine (l1Min_any _ _ _).mono ?_
          rintro e w4 ⟨rfl, rfl⟩
          go_wp2_with fail
          go_roundw
          case rel => exact ⟨k + 1, by omega, by go_num, by rw [HD.out]; exact HS4⟩
          case measure => simp [intOf]; omega
        | false =>
          have HS4a : CcSt w H { c with ha := true } (.slice (some ⟨g, 0, none⟩) n cp) l (w3.setCell ⟨H + 1, 4, none⟩ (.bool true)) := HS3.out.put (HS3.out.cur.put4 true)
          have HS4 : Hid (CcSt w H d (.slice (some ⟨g, 0, none⟩) n cp) l ((w3.setCell ⟨H + 1, 4, none⟩ (.bool true)).setCell ⟨H + 1, 5, none⟩ (.int .i64 na))) := by
            show CcSt _ _ _ _ _ _
            have e : d = { c with ha := true, age := na } := by rw [HST.out, HRE.out, hb1 rfl]; dsimp only; rw [if_neg (by rw [hha]; decide)]
            rw [e]
            exact HS4a.put (HS4a.cur.put5 _)
          have q5a := HS4a.cur.cells.2.2.2.2.2
          have f5a := HS4a.cur.frozen 5
          rw [hha] at q4
          clear hb1 hb2 hha HS4a
          go_wp2_with fail
          go_roundw
          case rel => exact ⟨k + 1, by omega, by go_num, by rw [HD.out]; exact HS4⟩
          case measure => simp [intOf]; omega
    · obtain rfl : k = n := by omega
      have HE : Hid (ccTo (l.take k) = ccR s) := by
        show _ = _
        rw [List.take_of_length_le (by rw [HN.out]; exact Nat.le_refl _)]
        unfold ccR
        rw [HLS.out]
      rw [HE.out] at HS
      obtain ⟨c, hc⟩ : ∃ c, c = ccR s := ⟨_, rfl⟩
      rw [← hc] at HS
      have HC : Hid (c = ccR s) := hc
      obtain ⟨q0, q1, q2, q3, q4, q5⟩ := HS.out.cur.cells
      obtain ⟨r0, r1, r2, r3, r4, r5⟩ := HS.out.res.cells
      have f0 := HS.out.res.frozen 0
      have f1 := HS.out.res.frozen 1
      have f2 := HS.out.res.frozen 2
      have f3 := HS.out.res.frozen 3
      have f4 := HS.out.res.frozen 4
      have f5 := HS.out.res.frozen 5
      obtain ⟨m0, m1, m2, m3, m4, m5⟩ := (HS.out.res.putAll c).cells
      have HB : Hid (Below H w (putCc wr H c)) := below_putCc HS.out.low (Nat.le_refl _) c
      clear hc HE
      unfold putCc at m0 m1 m2 m3 m4 m5 HB
      go_wp2_with fail
      refine bodyPost_ret (v := c.v) (by simp [results, Tryz.results76, go_sem, m0, m1, m2, m3, m4, m5, CcD.v]) rfl ?_
      exact ⟨by rw [HC.out], by rw [HW.out]; exact HB.out⟩
theorem specCcOf_any (v : Value) (n base : Nat) (fs : Fs) (w : World) (hv : FieldsV w base v n fs) (hn : n ≤ 1073741824) (hsz : (getV fs ccName).size ≤ 1048576) :
  Calls Tryz.prog 36 #[v] w fun e w' => e = .returned (ccR (getV fs ccName)).v ∧ Below w.heap.size w w' := by
 have hv1 : FieldsV (w.alloc (.cells cc0.cs 106)) base v n fs := hv.below ((Below.refl _ _).alloc (Nat.le_refl _) _)
 have HR0 : Hid (CcAt (w.alloc (.cells cc0.cs 106)) w.heap.size cc0) := heap_alloc_new w _
 obtain ⟨t, ht⟩ := exq (getV fs ccName)
 have HT : Hid (getV fs ccName = t) := ht.symm
 rw [← ht] at hsz
 obtain ⟨c, hc⟩ := exq (ccR t)
 have HC : Hid (ccR t = c) := hc.symm
 rw [← ht, ← hc]
 clear ht hc hv
 go_enter Tryz.func36, Tryz.ntmps36
 go_wp2_with fail
 refine (specGet_any v n base fs ccName _ hv1 hn).mono ?_
 rintro e w1 ⟨rfl, rfl⟩
 rw [HT.out]
 clear hv1
 go_wp2_with fail
 refine (specCcRead_any t _ hsz).mono ?_
 rintro e w2 ⟨rfl, b2⟩
 rw [HC.out]
 have hR := HR0.out.same (b2.block _ HR0.out.lt)
 obtain ⟨r0, r1, r2, r3, r4, r5⟩ := hR.cells
 have f0 := hR.frozen 0
 have f1 := hR.frozen 1
 have f2 := hR.frozen 2
 have f3 := hR.frozen 3
 have f4 := hR.frozen 4
 have f5 := hR.frozen 5
 obtain ⟨m0, m1, m2, m3, m4, m5⟩ := (hR.putAll c).cells
 have HB : Hid (Below w.heap.size w (putCc w2 w.heap.size c)) := below_putCc (((Below.refl _ w).alloc (Nat.le_refl _) _).trans (b2.mono (by simp))) (Nat.le_refl _) c
 unfold putCc at m0 m1 m2 m3 m4 m5 HB
 clear hR b2 HR0
 unfold CcD.v
 go_wp2_with fail
 refine bodyPost_ret (v := c.v) (by simp [results, Tryz.results36, go_sem, m0, m1, m2, m3, m4, m5, CcD.v]) rfl ?_
 exact ⟨rfl, HB.out⟩
def tagName : ByteArray := ⟨#[101, 116, 97, 103]⟩
def inmName : ByteArray := ⟨#[105, 102, 45, 110, 111, 110, 101, 45, 109, 97, 116, 99, 104]⟩
def NamesP (xs : Ts) : Prop := (∀ x ∈ xs, TokOk x) ∧ xs.length ≤ 4
def putAll (fs gs : Fs) : Fs := gs.foldl (fun l f => putF l f.1 f.2) fs
open Classical in
noncomputable def mergeF (st : Int) (fs : Fs) (b : Tx) (gs : Fs) : Fs :=
 if RespP st (putAll fs gs) b then putAll fs gs else fs
def SameP (fs gs : Fs) : Prop := getB fs inmName = true ∧ getB gs tagName = true ∧ getV fs inmName = getV gs tagName
open Classical in
noncomputable def shortF (gs : Fs) : Fs := gs.filter fun f => decide (f.1 = tagName ∨ f.1 = varyName ∨ f.1 = ccName)
theorem putF_le (fs : Fs) (name value : Tx) : (putF fs name value).length ≤ fs.length + 1 := by
 unfold putF
 split
 · rw [List.length_set]; omega
 · rw [List.length_append]; simp
theorem putAll_le (fs gs : Fs) : (putAll fs gs).length ≤ fs.length + gs.length := by
 unfold putAll
 induction gs generalizing fs with
 | nil => simp
 | cons f r ih =>
  rw [List.foldl_cons, List.length_cons]
  have h1 := ih (putF fs f.1 f.2)
  have h2 := putF_le fs f.1 f.2
  omega
theorem putAll_snoc (fs gs : Fs) (f : ByteArray × ByteArray) : putAll fs (gs ++ [f]) = putF (putAll fs gs) f.1 f.2 := by simp [putAll]
theorem take_field (gs : Fs) (k : Nat) (h : k < gs.length) : gs.take (k + 1) = gs.take k ++ [(nameAt gs k, valAt gs k)] := by
 rw [List.take_add_one, List.getElem?_eq_getElem h]
 unfold nameAt valAt
 rw [List.getD_eq_getElem?_getD, List.getElem?_eq_getElem h]
 rfl
open Classical in
theorem shortF_snoc (gs : Fs) (f : ByteArray × ByteArray) : shortF (gs ++ [f]) = if f.1 = tagName ∨ f.1 = varyName ∨ f.1 = ccName then shortF gs ++ [f] else shortF gs := by
 unfold shortF
 rw [List.filter_append]
 by_cases h : f.1 = tagName ∨ f.1 = varyName ∨ f.1 = ccName
 · rw [if_pos h]; simp [h]
 rw [if_neg h]; simp [h]
theorem shortF_le (gs : Fs) : (shortF gs).length ≤ gs.length := List.length_filter_le _ _
theorem put_at (fs : Fs) (name value : Tx) (i : Nat) (M : Nat) (h : ∀ i, i < fs.length → (nameAt fs i).size ≤ M ∧ (valAt fs i).size ≤ M) (h1 : name.size ≤ M) (h2 : value.size ≤ M) (hi : i < (putF fs name value).length) : (nameAt (putF fs name value) i).size ≤ M ∧ (valAt (putF fs name value) i).size ≤ M := by
 have hm : ∀ f ∈ fs, f.1.size ≤ M ∧ f.2.size ≤ M := fun f hf => by
  obtain ⟨j, hj, e⟩ := List.getElem_of_mem hf
  have := h j hj
  unfold nameAt valAt at this
  rw [List.getD_eq_getElem?_getD, List.getElem?_eq_getElem hj] at this
  rw [← e]
  exact this
 have hp : ∀ f ∈ putF fs name value, f.1.size ≤ M ∧ f.2.size ≤ M := fun f hf => by
  unfold putF at hf
  split at hf
  ·rename_i hin
   rcases List.mem_or_eq_of_mem_set hf with hf | hf
   · exact hm f hf
   ·subst hf
    refine ⟨?_, h2⟩
    first
     | exact h1
     | exact (h _ hin).1
  ·rcases List.mem_append.1 hf with hf | hf
   · exact hm f hf
   · rw [List.mem_singleton.1 hf]; exact ⟨h1, h2⟩
 unfold nameAt valAt
 rw [List.getD_eq_getElem?_getD, List.getElem?_eq_getElem hi]
 exact hp _ (List.getElem_mem hi)
theorem put_walk (fs : Fs) (name value : Tx) (h : WalkF fs.length fs) (h1 : name.size ≤ maxLen) (h2 : value.size ≤ maxLen) : WalkF (putF fs name value).length (putF fs name value) :=
 fun i hi => put_at fs name value i maxLen h h1 h2 hi
theorem starT_list : starT.toList = [42] := by rw [ByteArray.toList_eq]; rfl
theorem textAt_mem (xs : Ts) (j : Nat) (h : j < xs.length) : textAt xs j ∈ xs := by
 unfold textAt
 rw [List.getD_eq_getElem?_getD, List.getElem?_eq_getElem h]
 exact List.getElem_mem _
theorem take_textAt (xs : Ts) (j : Nat) (h : j < xs.length) : xs.take (j + 1) = xs.take j ++ [textAt xs j] := by
 rw [List.take_add_one, List.getElem?_eq_getElem h]
 unfold textAt
 rw [List.getD_eq_getElem?_getD, List.getElem?_eq_getElem h]
 rfl
open Classical in
theorem l8Star_any (oa : Oa) (m cm : Nat) (xs : Ts) (w : World) (hx : TextsA w oa m xs) (hm : m ≤ 2000000) :
  Calls Tryz.prog 79 #[.slice oa m cm] w fun e w' => e = .returned (.bool (decide (starT ∈ xs))) ∧ w' = w := by
 have HX := hid hx
 clear hx
 go_enter Tryz.func79, Tryz.ntmps79
 go_wp2_with fail
 go_loopw [3] (fun i wr => ∃ j : Nat, j ≤ m ∧ i = .int .i64 (j : Int) ∧ wr = w ∧ Hid (starT ∉ xs.take j)) (fun i _ => m - (intOf i).toNat)
 case atStart => exact ⟨0, Nat.zero_le _, rfl, rfl, by show _ ∉ _; simp⟩
 case round =>
  obtain ⟨j, hj, rfl, rfl, HN⟩ := hrel
  by_cases hlt : (j : Int) < (m : Int)
  rotate_left
  ·have HE : Hid (decide (starT ∈ xs) = false) := by
    have h := HN.out
    rw [List.take_of_length_le (by rw [HX.out.1]; omega)] at h
    exact decide_eq_false h
   clear HN
   go_wp2_with fail
   go_ret
   exact ⟨by rw [HE.out]; rfl, rfl⟩
  have hjx : j < xs.length := by rw [HX.out.1]; omega
  obtain ⟨g, rfl, hg, hc⟩ := HX.out.2 j (by omega)
  obtain ⟨x, hxx⟩ := exq (textAt xs j)
  rw [← hxx] at hc
  by_cases he : x = starT
  ·have t0 : (x.toList == starT.toList) = true := (text_beq _ _).2 he
   rw [starT_list] at t0
   have HE : Hid (decide (starT ∈ xs) = true) := decide_eq_true (by rw [← he, hxx]; exact textAt_mem xs j hjx)
   clear he hxx hjx HN
   go_wp2_with fail
   go_ret
   exact ⟨by rw [HE.out]; rfl, rfl⟩
  have t0 : (x.toList == starT.toList) = false := text_beq_no he
  rw [starT_list] at t0
  have HN2 : Hid (starT ∉ xs.take (j + 1)) := by
   show _ ∉ _
   rw [take_textAt xs j hjx, List.mem_append, ← hxx]
   rintro (h | h)
   · exact HN.out h
   · exact he (List.mem_singleton.1 h).symm
  clear he hxx hjx HN
  go_wp2_with fail
  go_roundw
  case rel => exact ⟨j + 1, by omega, by go_num, trivial, HN2⟩
  case measure => simp [intOf]; omega
open Classical in
theorem l8Texts_any (oa ob : Oa) (m cm n cn : Nat) (xs ys : Ts) (w : World) (hx : TextsA w oa m xs) (hy : TextsA w ob n ys) (hm : m ≤ 2000000) :
  Calls Tryz.prog 71 #[.slice oa m cm, .slice ob n cn] w fun e w' => e = .returned (.bool (decide (xs = ys))) ∧ Below w.heap.size w w' := by
 have HX : Hid (∀ W, Below w.heap.size w W → TextsA W oa m xs) := fun W h => hx.below h
 have HY : Hid (∀ W, Below w.heap.size w W → TextsA W ob n ys) := fun W h => hy.below h
 have HLX : Hid (xs.length = m) := hx.1
 have HLY : Hid (ys.length = n) := hy.1
 clear hx hy
 go_enter Tryz.func71, Tryz.ntmps71
 go_wp2_with fail
 go_loopw [5] (fun i wr => ∃ j : Nat, j ≤ m ∧ j ≤ n ∧ i = .int .i64 (j : Int) ∧ Below w.heap.size w wr ∧ Hid (xs.take j = ys.take j)) (fun i _ => m - (intOf i).toNat)
 case atStart => exact ⟨0, Nat.zero_le _, Nat.zero_le _, rfl, Below.refl _ _, by show _ = _; simp⟩
 case round =>
  obtain ⟨j, hj, hj2, rfl, hbw, HN⟩ := hrel
  by_cases hlt : (j : Int) < (m : Int)
  rotate_left
  ·have HE : Hid (decide (xs = ys) = decide ((m : Int) = (n : Int))) := by
    show _ = _
    rw [decide_eq_decide]
    constructor
    · intro h; have h1 := HLX.out; have h2 := HLY.out; rw [h] at h1; omega
    ·intro h
     have h1 := HN.out
     rw [List.take_of_length_le (by rw [HLX.out]; omega), List.take_of_length_le (by rw [HLY.out]; omega)] at h1
     exact h1
   clear HN
   go_wp2_with fail
   go_ret
   exact ⟨by rw [HE.out]; rfl, hbw⟩
  by_cases hlt2 : (j : Int) < (n : Int)
  rotate_left
  ·have HE : Hid (decide (xs = ys) = decide ((m : Int) = (n : Int))) := by
    show _ = _
    rw [decide_eq_decide]
    constructor
    · intro h; have h1 := HLX.out; have h2 := HLY.out; rw [h] at h1; omega
    · intro h; omega
   clear HN
   go_wp2_with fail
   go_ret
   exact ⟨by rw [HE.out]; rfl, hbw⟩
  have hjx : j < xs.length := by rw [HLX.out]; omega
  have hjy : j < ys.length := by rw [HLY.out]; omega
  obtain ⟨g, rfl, hg, hc⟩ := (HX.out wr hbw).2 j (by omega)
  obtain ⟨g2, rfl, hg2, hc2⟩ := (HY.out wr hbw).2 j (by omega)
  obtain ⟨x, hxx⟩ := exq (textAt xs j)
  obtain ⟨y, hyy⟩ := exq (textAt ys j)
  rw [← hxx] at hc
  rw [← hyy] at hc2
  by_cases he : x = y
  rotate_left
  ·have t0 : (x.toList == y.toList) = false := text_beq_no he
   have t1 : (x.toList != y.toList) = true := by rw [bne, t0]; rfl
   have HE : Hid (decide (xs = ys) = false) := decide_eq_false (fun h => he (by rw [hxx, hyy, h]))
   clear he hxx hyy hjx hjy HN
   go_wp2_with fail
   go_quiet (fail)
   go_wp2
   go_ret
   exact ⟨by rw [HE.out]; rfl, below_drewN hbw _⟩
  have HN2 : Hid (xs.take (j + 1) = ys.take (j + 1)) := by
   show _ = _
   rw [take_textAt xs j hjx, take_textAt ys j hjy, ← hxx, ← hyy, HN.out, he]
  subst he
  clear hxx hyy hjx hjy HN
  go_wp2_with fail
  go_quiet (fail)
  go_wp2
  go_roundw
  case rel => exact ⟨j + 1, by omega, by omega, by go_num, below_drewN hbw _, HN2⟩
  case measure => simp [intOf]; omega
theorem specSuits_any (oa ob : Oa) (m cm k ck : Nat) (xs ys : Ts) (v : Value) (n base : Nat) (fs : Fs) (w : World) (hx : TextsA w oa m xs) (hm : m ≤ 1048577) (hy : TextsA w ob k ys) (hv : FieldsV w base v n fs) (hn : n ≤ 1073741824) :
  Calls Tryz.prog 38 #[.slice oa m cm, .slice ob k ck, v] w fun e w' => e = .returned (.bool (suitsP xs ys fs)) ∧ Below w.heap.size w w' := by
 classical
 have HY : Hid (∀ W, Below w.heap.size w W → TextsA W ob k ys) := fun W h => hy.below h
 have HLX : Hid (xs.length = m) := hx.1
 obtain ⟨b, hb⟩ := exq (suitsP xs ys fs)
 rw [← hb]
 obtain ⟨zs, hzs⟩ := exq (valsP xs fs)
 have HZ : Hid (valsP xs fs = zs) := hzs.symm
 have HB : Hid (b = (!decide (starT ∈ xs) && decide (zs = ys))) := by
  show _ = _
  rw [hb, hzs]
  unfold suitsP
  by_cases h1 : starT ∈ xs <;> by_cases h2 : valsP xs fs = ys <;> simp [h1, h2]
 have hzl : zs.length = m := by rw [hzs, valsP_len]; exact HLX.out
 obtain ⟨st, hst⟩ := exq (decide (starT ∈ xs))
 have HST : Hid (decide (starT ∈ xs) = st) := hst.symm
 rw [← hst] at HB
 clear hb hzs hst hy
 go_enter Tryz.func38, Tryz.ntmps38
 go_wp2_with fail
 refine (l8Star_any oa m cm xs _ hx (by omega)).mono ?_
 rintro e w1 ⟨rfl, rfl⟩
 rw [HST.out]
 cases st with
 | true =>
  have HE : Hid (b = false) := by show _ = _; rw [HB.out]; rfl
  go_wp2_with fail
  go_ret
  exact ⟨by rw [HE.out]; rfl, Below.refl _ _⟩
 | false =>
  have HE : Hid (b = decide (zs = ys)) := by show _ = _; rw [HB.out]; rfl
  go_wp2_with fail
  refine (specValuesOf_any oa m cm xs v n base fs _ hx hm hv hn).mono ?_
  rintro e w2 ⟨V, rfl, O, b2⟩
  rw [HZ.out, hzl] at O
  obtain ⟨oz, cz, rfl, hz⟩ := texts_own O
  have HB2 : Hid (Below w1.heap.size w1 w2) := b2
  have HZ2 := hid hz
  have HY2 : Hid (TextsA w2 ob k ys) := HY.out _ b2
  clear O b2 hz hx hv
  go_wp2_with fail
  refine (l8Texts_any oz ob m cz k ck zs ys _ HZ2.out HY2.out (by omega)).mono ?_
  rintro e w3 ⟨rfl, b3⟩
  rw [← HE.out]
  have HB3 : Hid (Below w1.heap.size w1 w3) := HB2.out.trans (b3.mono HB2.out.size)
  clear b3
  go_wp2_with fail
  go_ret
  exact ⟨rfl, HB3.out⟩
def ObjP (p : Tx) (xs ys : Ts) (st : Int) (fs : Fs) (b : Tx) (t : Int) : Prop :=
 RespP st fs b ∧ PathOk p ∧ (0 ≤ t ∧ t ≤ 1000000) ∧ NamesP xs ∧ xs = varyP fs ∧ ys.length = xs.length ∧ ∀ y ∈ ys, ValOk y
theorem texts_view {w : World} {base n p : Nat} {o : Oa} {xs : Ts} (h : w.ownsRow base 9 1 (.slice o n p) n (xs.map Value.string)) : TextsA w o n xs := by
 obtain ⟨oa, ca, he, hx⟩ := texts_own h
 cases he
 exact hx
def BanP (k : Int) (a b : Tx) (t : Int) : Prop := (0 ≤ t ∧ t ≤ 1000000) ∧ (((k = 1 ∨ k = 2) ∧ PathOk a ∧ b = ⟨#[]⟩) ∨ (k = 3 ∧ TokOk a ∧ ValOk b))
theorem BanP.kinds {k : Int} {a b : ByteArray} {t : Int} (h : BanP k a b t) : k = 1 ∨ k = 2 ∨ k = 3 := by
 rcases h.2 with ⟨h1 | h1, _⟩ | ⟨h1, _⟩
 · exact .inl h1
 · exact .inr (.inl h1)
 · exact .inr (.inr h1)
theorem toBan_any (k : Int) (a b : Tx) (t : Int) (w : World) :
  Calls Tryz.prog 89 #[.agg #[.int .i64 k, .string a, .string b, .int .i64 t]] w fun e w' => e = .returned (.agg #[.int .i64 k, .string a, .string b, .int .i64 t]) ∧ Below w.heap.size w w' := by
 have hb0 := Below.refl w.heap.size w
 go_enter Tryz.func89, Tryz.ntmps89
 go_upto_region 1 with fail
 obtain ⟨q1, hq1⟩ := exq (w.heap.size)
 obtain ⟨w1, hW1⟩ := exq (w.alloc (.cells #[.int .i64 k, .string a, .string b, .int .i64 t] 136))
 have hz1 := hq1.symm
 rw [← hW1]; try rw [← hq1]
 have hs1 := hsa hW1 hz1
 have bw := bal hW1
 have hb1 := hbt hb0 bw
 have B1_1 := hnew hW1 hz1
 clear hb0 bw hW1 hz1
 obtain ⟨q2, hq2⟩ := exq (q1 + 1)
 obtain ⟨w2, hW2⟩ := exq (w1.alloc (.cells #[.int .i64 0, .string ⟨#[]⟩, .string ⟨#[]⟩, .int .i64 0] 143))
 have hz2 : w1.heap.size = q2 := by rw [hq2]; exact hs1
 rw [← hW2]; try rw [← hq2]
 have hs2 := hsa hW2 hz2
 have bw := bal hW2
 have hb2 := hbt hb1 bw
 have B1_2 := hblk B1_1 bw
 have Nv1v2 := hnq B1_1 hz2
 have B2_2 := hnew hW2 hz2
 have Gv2 := hge hz2 hb1
 clear hb1 bw hW2 hz2
 clear hs2 hq2 hs1 hq1
 go_upto_region 2 with fail
 obtain ⟨q3, hq3⟩ := exq (w2.heap.size)
 obtain ⟨w3, hW3⟩ := exq (w2.alloc (.cells #[.int .i64 0, .string ⟨#[]⟩, .string ⟨#[]⟩, .int .i64 0] 143))
 have hz3 := hq3.symm
 rw [← hW3]; try rw [← hq3]
 have hs3 := hsa hW3 hz3
 have bw := bal hW3
 have hb3 := hbt hb2 bw
 have B1_3 := hblk B1_2 bw
 have B2_3 := hblk B2_2 bw
 have Nv1v3 := hnq B1_2 hz3
 have Nv2v3 := hnq B2_2 hz3
 have B3_3 := hnew hW3 hz3
 have Gv3 := hge hz3 hb2
 clear hb2 bw hW3 hz3
 clear hs3 hq3
 have c1_0 := (k4c B1_3).1
 have c3_0 := (k4c B3_3).1
 have f3_0 := hfz B3_3 0
 go_upto_region 3 with fail
 obtain ⟨w4, hW4⟩ := exq (w3.setCell ⟨q3, 0, none⟩ (.int .i64 k))
 rw [← hW4]
 have hb4 := hbS hW4 hb3 Gv3
 have B1_4 := hset hW4 Nv1v3.out B1_3
 have B2_4 := hset hW4 Nv2v3.out B2_3
 have B3_4 := hput hW4 B3_3
 clear hb3 hW4
 clear c1_0 c3_0 f3_0
 have c1_1 := (k4c B1_4).2.1
 have c3_1 := (k4c B3_4).2.1
 have f3_1 := hfz B3_4 1
 go_upto_region 4 with fail
 obtain ⟨w5, hW5⟩ := exq (w4.setCell ⟨q3, 1, none⟩ (.string a))
 rw [← hW5]
 have hb5 := hbS hW5 hb4 Gv3
 have B1_5 := hset hW5 Nv1v3.out B1_4
 have B2_5 := hset hW5 Nv2v3.out B2_4
 have B3_5 := hput hW5 B3_4
 clear hb4 hW5
 clear c1_1 c3_1 f3_1
 have c1_2 := (k4c B1_5).2.2.1
 have c3_2 := (k4c B3_5).2.2.1
 have f3_2 := hfz B3_5 2
 go_upto_region 5 with fail
 obtain ⟨w6, hW6⟩ := exq (w5.setCell ⟨q3, 2, none⟩ (.string b))
 rw [← hW6]
 have hb6 := hbS hW6 hb5 Gv3
 have B1_6 := hset hW6 Nv1v3.out B1_5
 have B2_6 := hset hW6 Nv2v3.out B2_5
 have B3_6 := hput hW6 B3_5
 clear hb5 hW6
 clear c1_2 c3_2 f3_2
 have c1_3 := (k4c B1_6).2.2.2
 have c3_3 := (k4c B3_6).2.2.2
 have f3_3 := hfz B3_6 3
 go_upto_region 6 with fail
 obtain ⟨w7, hW7⟩ := exq (w6.setCell ⟨q3, 3, none⟩ (.int .i64 t))
 rw [← hW7]
 have hb7 := hbS hW7 hb6 Gv3
 have B1_7 := hset hW7 Nv1v3.out B1_6
 have B2_7 := hset hW7 Nv2v3.out B2_6
 have B3_7 := hput hW7 B3_6
 clear hb6 hW7
 clear c1_3 c3_3 f3_3
 have c2_0 := (k4c B2_7).1
 have f2_0 := hfz B2_7 0
 have c2_1 := (k4c B2_7).2.1
 have f2_1 := hfz B2_7 1
 have c2_2 := (k4c B2_7).2.2.1
 have f2_2 := hfz B2_7 2
 have c2_3 := (k4c B2_7).2.2.2
 have f2_3 := hfz B2_7 3
 have c3_0 := (k4c B3_7).1
 have c3_1 := (k4c B3_7).2.1
 have c3_2 := (k4c B3_7).2.2.1
 have c3_3 := (k4c B3_7).2.2.2
 go_wp2_with fail
 obtain ⟨w8, hW8⟩ := exq (w7.setCell ⟨q2, 0, none⟩ (.int .i64 k))
 rw [← hW8]
 have hb8 := hbS hW8 hb7 Gv2
 have B1_8 := hset hW8 Nv1v2.out B1_7
 have B3_8 := hset hW8 Nv2v3.out.symm B3_7
 have B2_8 := hput hW8 B2_7
 clear hb7 hW8
 obtain ⟨w9, hW9⟩ := exq (w8.setCell ⟨q2, 1, none⟩ (.string a))
 rw [← hW9]
 have hb9 := hbS hW9 hb8 Gv2
 have B1_9 := hset hW9 Nv1v2.out B1_8
 have B3_9 := hset hW9 Nv2v3.out.symm B3_8
 have B2_9 := hput hW9 B2_8
 clear hb8 hW9
 obtain ⟨w10, hW10⟩ := exq (w9.setCell ⟨q2, 2, none⟩ (.string b))
 rw [← hW10]
 have hb10 := hbS hW10 hb9 Gv2
 have B1_10 := hset hW10 Nv1v2.out B1_9
 have B3_10 := hset hW10 Nv2v3.out.symm B3_9
 have B2_10 := hput hW10 B2_9
 clear hb9 hW10
 obtain ⟨w11, hW11⟩ := exq (w10.setCell ⟨q2, 3, none⟩ (.int .i64 t))
 rw [← hW11]
 have hb11 := hbS hW11 hb10 Gv2
 have B1_11 := hset hW11 Nv1v2.out B1_10
 have B3_11 := hset hW11 Nv2v3.out.symm B3_10
 have B2_11 := hput hW11 B2_10
 clear hb10 hW11
 have kv2_0 := (k4c B2_11).1
 have kv2_1 := (k4c B2_11).2.1
 have kv2_2 := (k4c B2_11).2.2.1
 have kv2_3 := (k4c B2_11).2.2.2
 refine bodyPost_ret (v := .agg #[.int .i64 k, .string a, .string b, .int .i64 t]) (by simp [results, Tryz.results89, go_sem, kv2_0, kv2_1, kv2_2, kv2_3]) rfl ?_
 exact ⟨rfl, hb11⟩
def SzBan (L : Int) (a b : Tx) (w : World) (e : Ending) (w' : World) : Prop := ∃ r : Int, e = .returned (.int .i64 r) ∧ r ≤ L ∧ (0 ≤ r → a.size ≤ 1048576 ∧ b.size ≤ 1048576) ∧ Below w.heap.size w w'
theorem szBan_any (L : Int) (hL0 : 0 ≤ L) (hL1 : L ≤ 1048576) (k : Int) (a b : Tx) (t : Int) (w : World) (ha : a.size ≤ maxLen) (hb : b.size ≤ maxLen) :
  Calls Tryz.prog 60 #[.agg #[.int .i64 k, .string a, .string b, .int .i64 t], .int .i64 L] w fun e w' => SzBan L a b w e w' := by
 unfold maxLen at ha hb
 have hb0 := Below.refl w.heap.size w
 go_enter Tryz.func60, Tryz.ntmps60
 go_upto_region 1 with fail
 obtain ⟨q1, hq1⟩ := exq (w.heap.size)
 obtain ⟨w1, hW1⟩ := exq (w.alloc (.cells #[.int .i64 k, .string a, .string b, .int .i64 t] 136))
 have hz1 := hq1.symm
 rw [← hW1]; try rw [← hq1]
 have hs1 := hsa hW1 hz1
 have bw := bal hW1
 have hb1 := hbt hb0 bw
 have B1_1 := hnew hW1 hz1
 clear hb0 bw hW1 hz1
 clear hs1 hq1
 have c1_1 := (k4c B1_1).2.1
 by_cases hc1 : (L - (a.size : Int)) < 0
 ·go_wp2_with fail
  go_ret
  exact ⟨-1, rfl, by omega, fun h => absurd h (by omega), hb1⟩
 have c1_2 := (k4c B1_1).2.2.1
 by_cases hc2 : ((L - (a.size : Int)) - (b.size : Int)) < 0
 ·go_wp2_with fail
  go_ret
  exact ⟨-1, rfl, by omega, fun h => absurd h (by omega), hb1⟩
 go_wp2_with fail
 go_ret
 exact ⟨_, rfl, by omega, fun _ => ⟨by omega, by omega⟩, hb1⟩
theorem eqBan_any (k : Int) (a b : Tx) (t : Int) (w : World) :
  Calls Tryz.prog 106 #[.agg #[.int .i64 k, .string a, .string b, .int .i64 t], .agg #[.int .i64 k, .string a, .string b, .int .i64 t]] w fun e w' => e = .returned (.bool true) ∧ Below w.heap.size w w' := by
 have hkk : (k != k) = false := by simp
 have haa : (a.toList != a.toList) = false := by simp
 have hbb : (b.toList != b.toList) = false := by simp
 have htt : (t != t) = false := by simp
 have hb0 := Below.refl w.heap.size w
 go_enter Tryz.func106, Tryz.ntmps106
 go_upto_region 1 with fail
 obtain ⟨q1, hq1⟩ := exq (w.heap.size)
 obtain ⟨w1, hW1⟩ := exq (w.alloc (.cells #[.int .i64 k, .string a, .string b, .int .i64 t] 143))
 have hz1 := hq1.symm
 rw [← hW1]; try rw [← hq1]
 have hs1 := hsa hW1 hz1
 have bw := bal hW1
 have hb1 := hbt hb0 bw
 have B1_1 := hnew hW1 hz1
 clear hb0 bw hW1 hz1
 obtain ⟨q2, hq2⟩ := exq (q1 + 1)
 obtain ⟨w2, hW2⟩ := exq (w1.alloc (.cells #[.int .i64 k, .string a, .string b, .int .i64 t] 143))
 have hz2 : w1.heap.size = q2 := by rw [hq2]; exact hs1
 rw [← hW2]; try rw [← hq2]
 have hs2 := hsa hW2 hz2
 have bw := bal hW2
 have hb2 := hbt hb1 bw
 have B1_2 := hblk B1_1 bw
 have B2_2 := hnew hW2 hz2
 clear hb1 bw hW2 hz2
 clear hs2 hq2 hs1 hq1
 have c1_0 := (k4c B1_2).1
 have c2_0 := (k4c B2_2).1
 have c1_1 := (k4c B1_2).2.1
 have c2_1 := (k4c B2_2).2.1
 have c1_2 := (k4c B1_2).2.2.1
 have c2_2 := (k4c B2_2).2.2.1
 have c1_3 := (k4c B1_2).2.2.2
 have c2_3 := (k4c B2_2).2.2.2
 go_wp2_with fail
 go_ret
 exact ⟨rfl, hb2⟩
def banAt (l : Bs) (i : Nat) : (Int × ByteArray × ByteArray × Int) := l.getD i (0, ⟨#[]⟩, ⟨#[]⟩, 0)
def banEnc (x : (Int × ByteArray × ByteArray × Int)) : List Value := [.int .i64 x.1, .string x.2.1, .string x.2.2.1, .int .i64 x.2.2.2]
def flatBan (l : Bs) : List Value := l.flatMap banEnc
theorem flatBan_len (l : Bs) : (flatBan l).length = l.length * 4 := by
 induction l with
 | nil => rfl
 | cons f r ih => simp only [flatBan, banEnc, List.flatMap_cons, List.length_append, List.length_cons, List.length_nil] at ih ⊢; omega
theorem flatBan_get : ∀ (l : Bs) (i : Nat), i < l.length → (flatBan l)[i * 4]? = some (.int .i64 ((banAt l i).1)) ∧ (flatBan l)[i * 4 + 1]? = some (.string ((banAt l i).2.1)) ∧ (flatBan l)[i * 4 + 2]? = some (.string ((banAt l i).2.2.1)) ∧ (flatBan l)[i * 4 + 3]? = some (.int .i64 ((banAt l i).2.2.2))
 | [], i, h => by simp at h
 | f :: r, 0, _ => by simp [flatBan, banEnc, banAt]
 | f :: r, i + 1, h => by
  have ih := flatBan_get r i (by simpa using h)
  have e : flatBan (f :: r) = banEnc f ++ flatBan r := rfl
  have hl : (banEnc f).length = 4 := rfl
  have h2 : banAt (f :: r) (i + 1) = banAt r i := by simp [banAt]
  have key : ∀ j, (flatBan (f :: r))[i * 4 + 4 + j]? = (flatBan r)[i * 4 + j]? := fun j => by
   rw [e, List.getElem?_append_right (by rw [hl]; omega), hl]; congr 1; omega
  rw [h2]
  refine ⟨(by rw [show (i + 1) * 4 = i * 4 + 4 + 0 by omega, key]; exact ih.1), (by rw [show (i + 1) * 4 + 1 = i * 4 + 4 + 1 by omega, key]; exact ih.2.1), (by rw [show (i + 1) * 4 + 2 = i * 4 + 4 + 2 by omega, key]; exact ih.2.2.1), (by rw [show (i + 1) * 4 + 3 = i * 4 + 4 + 3 by omega, key]; exact ih.2.2.2)⟩
theorem banAt_mem (l : Bs) (i : Nat) (h : i < l.length) : banAt l i ∈ l := by
 unfold banAt
 rw [List.getD_eq_getElem?_getD, List.getElem?_eq_getElem h]
 exact List.getElem_mem h
theorem take_banAt (l : Bs) (i : Nat) (h : i < l.length) : l.take (i + 1) = l.take i ++ [banAt l i] := by
 unfold banAt
 rw [List.getD_eq_getElem?_getD, List.getElem?_eq_getElem h, List.take_succ_eq_append_getElem h]
 rfl
def BanA (w : World) (oa : Oa) (n : Nat) (l : Bs) : Prop :=
 l.length = n ∧ ∀ i, i < n → ∃ g, oa = some ⟨g, 0, none⟩ ∧ g < w.heap.size ∧ w.cell? ⟨g, i * 4, none⟩ = some (.int .i64 ((banAt l i).1)) ∧ w.cell? ⟨g, i * 4 + 1, none⟩ = some (.string ((banAt l i).2.1)) ∧ w.cell? ⟨g, i * 4 + 2, none⟩ = some (.string ((banAt l i).2.2.1)) ∧ w.cell? ⟨g, i * 4 + 3, none⟩ = some (.int .i64 ((banAt l i).2.2.2))
theorem BanA.below {w W : World} {oa : Oa} {n : Nat} {l : Bs} (h : BanA w oa n l) (hb : Below w.heap.size w W) : BanA W oa n l :=
 ⟨h.1, fun i hi => by
  obtain ⟨g, h1, h2, r0, r1, r2, r3⟩ := h.2 i hi
  exact ⟨g, h1, Nat.lt_of_lt_of_le h2 hb.size, by rw [hb.cell (p := ⟨g, i * 4, none⟩) h2]; exact r0, by rw [hb.cell (p := ⟨g, i * 4 + 1, none⟩) h2]; exact r1, by rw [hb.cell (p := ⟨g, i * 4 + 2, none⟩) h2]; exact r2, by rw [hb.cell (p := ⟨g, i * 4 + 3, none⟩) h2]; exact r3⟩⟩
def ArgBan (w : World) (B : Nat) (a : Oa) (n : Nat) (l : Bs) : Prop :=
 l.length = n ∧ ∀ i, i < n → ∃ b off, a = some ⟨b, off, none⟩ ∧ b < B ∧ w.cell? ⟨b, off + i * 4, none⟩ = some (.int .i64 ((banAt l i).1)) ∧ w.cell? ⟨b, off + i * 4 + 1, none⟩ = some (.string ((banAt l i).2.1)) ∧ w.cell? ⟨b, off + i * 4 + 2, none⟩ = some (.string ((banAt l i).2.2.1)) ∧ w.cell? ⟨b, off + i * 4 + 3, none⟩ = some (.int .i64 ((banAt l i).2.2.2))
theorem ArgBan.below {w w' : World} {B : Nat} {a : Oa} {n : Nat} {l : Bs} (h : ArgBan w B a n l) (hb : Below B w w') : ArgBan w' B a n l :=
 ⟨h.1, fun i hi => by
  obtain ⟨b, off, h1, h2, r0, r1, r2, r3⟩ := h.2 i hi
  exact ⟨b, off, h1, h2, by rw [hb.cell (p := ⟨b, off + i * 4, none⟩) h2]; exact r0, by rw [hb.cell (p := ⟨b, off + i * 4 + 1, none⟩) h2]; exact r1, by rw [hb.cell (p := ⟨b, off + i * 4 + 2, none⟩) h2]; exact r2, by rw [hb.cell (p := ⟨b, off + i * 4 + 3, none⟩) h2]; exact r3⟩⟩
def PartBan (w : World) (g n k : Nat) (l : Bs) : Prop :=
 ∃ cur, w.heap[g]? = some (.cells cur 143 (0, 0)) ∧ cur.size = n * 4 ∧ ∀ i, i < k → cur[i * 4]? = some (.int .i64 ((banAt l i).1)) ∧ cur[i * 4 + 1]? = some (.string ((banAt l i).2.1)) ∧ cur[i * 4 + 2]? = some (.string ((banAt l i).2.2.1)) ∧ cur[i * 4 + 3]? = some (.int .i64 ((banAt l i).2.2.2))
theorem PartBan.below {w w' : World} {g n k B : Nat} {l : Bs} (h : PartBan w g n k l) (hb : Below B w w') (hB : g < B) : PartBan w' g n k l := by
 obtain ⟨cur, h1, h2⟩ := h
 exact ⟨cur, by rw [hb.block g hB]; exact h1, h2⟩
theorem PartBan.lt {w : World} {g n k : Nat} {l : Bs} (h : PartBan w g n k l) : g < w.heap.size := by
 obtain ⟨cur, h1, _⟩ := h
 exact (blt h1)
theorem PartBan.cell {w : World} {g n k : Nat} {l : Bs} (h : PartBan w g n k l) (j : Nat) (hj : j < n * 4) : ∃ u, w.cell? ⟨g, j, none⟩ = some u := by
 obtain ⟨cur, h1, h2, _⟩ := h
 refine ⟨cur[j]'(by omega), ?_⟩
 simp only [World.cell?, h1]
 simp [show j < cur.size by omega]
theorem PartBan.frozen {w : World} {g n k : Nat} {l : Bs} (h : PartBan w g n k l) (j : Nat) : w.frozen? ⟨g, j, none⟩ = false := by
 obtain ⟨cur, h1, _⟩ := h
 simp [World.frozen?, h1]
theorem PartBan.put {w : World} {g n k : Nat} {l : Bs} (h : PartBan w g n k l) (hk : k < n) : PartBan ((((w.setCell ⟨g, k * 4, none⟩ (.int .i64 (banAt l k).1)).setCell ⟨g, k * 4 + 1, none⟩ (.string (banAt l k).2.1)).setCell ⟨g, k * 4 + 2, none⟩ (.string (banAt l k).2.2.1)).setCell ⟨g, k * 4 + 3, none⟩ (.int .i64 (banAt l k).2.2.2)) g n (k + 1) l := by
 obtain ⟨cur, h1, h2, h3⟩ := h
 refine ⟨_, heap_set _ g (k * 4 + 3) _ _ _ _ (heap_set _ g (k * 4 + 2) _ _ _ _ (heap_set _ g (k * 4 + 1) _ _ _ _ (heap_set _ g (k * 4) _ _ _ _ h1))), by simpa using h2, ?_⟩
 intro i hi
 by_cases e : i = k
 ·subst e
  exact ⟨by rw [Array.getElem?_setIfInBounds_ne (by omega), Array.getElem?_setIfInBounds_ne (by omega), Array.getElem?_setIfInBounds_ne (by omega), Array.getElem?_setIfInBounds_self_of_lt (by first | omega | (simp; omega))], by rw [Array.getElem?_setIfInBounds_ne (by omega), Array.getElem?_setIfInBounds_ne (by omega), Array.getElem?_setIfInBounds_self_of_lt (by first | omega | (simp; omega))], by rw [Array.getElem?_setIfInBounds_ne (by omega), Array.getElem?_setIfInBounds_self_of_lt (by first | omega | (simp; omega))], by rw [Array.getElem?_setIfInBounds_self_of_lt (by first | omega | (simp; omega))]⟩
 have := h3 i (by omega)
 exact ⟨by rw [Array.getElem?_setIfInBounds_ne (by omega), Array.getElem?_setIfInBounds_ne (by omega), Array.getElem?_setIfInBounds_ne (by omega), Array.getElem?_setIfInBounds_ne (by omega)]; exact this.1, by rw [Array.getElem?_setIfInBounds_ne (by omega), Array.getElem?_setIfInBounds_ne (by omega), Array.getElem?_setIfInBounds_ne (by omega), Array.getElem?_setIfInBounds_ne (by omega)]; exact this.2.1, by rw [Array.getElem?_setIfInBounds_ne (by omega), Array.getElem?_setIfInBounds_ne (by omega), Array.getElem?_setIfInBounds_ne (by omega), Array.getElem?_setIfInBounds_ne (by omega)]; exact this.2.2.1, by rw [Array.getElem?_setIfInBounds_ne (by omega), Array.getElem?_setIfInBounds_ne (by omega), Array.getElem?_setIfInBounds_ne (by omega), Array.getElem?_setIfInBounds_ne (by omega)]; exact this.2.2.2⟩
theorem PartBan.owns {w : World} {g n : Nat} {l : Bs} (h : PartBan w g n n l) (hl : l.length = n) (hm : n ≤ maxLen) {base : Nat} (hb : base ≤ g) : w.ownsRow base 143 4 (.slice (some ⟨g, 0, none⟩) n n) n (flatBan l) := by
 obtain ⟨cur, hg, hs, hc⟩ := h
 refine ⟨by rw [flatBan_len, hl], .inr ⟨g, n, cur, rfl, hb, hg, Nat.le_refl _, hm, hs, ?_⟩⟩
 apply List.ext_getElem?
 intro j
 rw [List.getElem?_take]
 by_cases hj : j < n * 4
 rotate_left
 · rw [if_neg hj, List.getElem?_eq_none (by rw [flatBan_len]; omega)]
 rw [if_pos hj]
 have hf := flatBan_get l (j / 4) (by omega)
 have hcc := hc (j / 4) (by omega)
 have hr : j = (j / 4) * 4 ∨ j = (j / 4) * 4 + 1 ∨ j = (j / 4) * 4 + 2 ∨ j = (j / 4) * 4 + 3 := by omega
 rcases hr with e | e | e | e
 ·have e2 := hf.1
  have e3 := hcc.1
  rw [← e] at e2 e3
  rw [e2]; simpa using e3
 ·have e2 := hf.2.1
  have e3 := hcc.2.1
  rw [← e] at e2 e3
  rw [e2]; simpa using e3
 ·have e2 := hf.2.2.1
  have e3 := hcc.2.2.1
  rw [← e] at e2 e3
  rw [e2]; simpa using e3
 ·have e2 := hf.2.2.2
  have e3 := hcc.2.2.2
  rw [← e] at e2 e3
  rw [e2]; simpa using e3
theorem ban_view {w : World} {base n cap : Nat} {oa : Oa} {l : Bs} (h : w.ownsRow base 143 4 (.slice oa n cap) n (flatBan l)) : BanA w oa n l := by
 obtain ⟨hl, hv⟩ := h
 rw [flatBan_len] at hl
 refine ⟨by omega, fun i hi => ?_⟩
 rcases hv with ⟨e, h0⟩ | ⟨g, cap, cur, e, hb, hg, hn, hm, hcs, htk⟩
 · omega
 ·cases e
  have hf := flatBan_get l i (by omega)
  rw [← htk] at hf
  simp only [List.getElem?_take] at hf
  rw [if_pos (by omega), if_pos (by omega), if_pos (by omega), if_pos (by omega)] at hf
  refine ⟨g, rfl, (blt hg), by simp only [World.cell?, hg]; simpa using hf.1, by simp only [World.cell?, hg]; simpa using hf.2.1, by simp only [World.cell?, hg]; simpa using hf.2.2.1, by simp only [World.cell?, hg]; simpa using hf.2.2.2⟩
theorem infoBan : (Tryz.prog.info? 143).map (fun i => (i.zero, i.size, i.bytes)) = some (some (.agg #[.int .i64 0, .string ⟨#[]⟩, .string ⟨#[]⟩, .int .i64 0]), 4, 48) := by kernel_rfl
def SzBanR (L : Int) (n : Nat) (l : Bs) (w : World) (e : Ending) (w' : World) : Prop :=
 ∃ r : Int, e = .returned (.int .i64 r) ∧ r ≤ L ∧ (0 ≤ r → r + (n : Int) ≤ L ∧ n ≤ 1048576 ∧ ∀ x ∈ l, (x.2.1).size ≤ 1048576 ∧ (x.2.2.1).size ≤ 1048576) ∧ Below w.heap.size w w'
theorem szBanS_room (L : Int) (hL0 : 0 ≤ L) (hL1 : L ≤ 1048576) (B : Nat) (a : Oa) (n cap : Nat) (l : Bs) (w : World) (harg : ArgBan w B a n l) (hB : B ≤ w.heap.size) (hn : n ≤ maxLen) (hsz : ∀ x ∈ l, (x.2.1).size ≤ maxLen ∧ (x.2.2.1).size ≤ maxLen) :
  Calls Tryz.prog 27 #[.slice a n cap, .int .i64 L] w fun e w' => SzBanR L n l w e w' := by
 unfold maxLen at hn
 have HS := hid hsz
 have HLN : Hid (l.length = n) := harg.1
 have HA : Hid (∀ W, Below w.heap.size w W → ArgBan W B a n l) := fun W h => harg.below (h.mono hB)
 clear hsz harg
 by_cases c1 : L - (n : Int) < 0
 ·go_enter Tryz.func27, Tryz.ntmps27
  go_wp2
  go_ret
  exact ⟨-1, rfl, by omega, fun h => absurd h (by omega), Below.refl _ _⟩
 go_enter Tryz.func27, Tryz.ntmps27
 go_wp2
 go_loopw [1, 5] (fun lf i wr => ∃ (k : Nat) (x : Int), k ≤ n ∧ i = .int .i64 (k : Int) ∧ lf = .int .i64 x ∧ 0 ≤ x ∧ x + (n : Int) ≤ L ∧ Hid (∀ x ∈ l.take k, (x.2.1).size ≤ 1048576 ∧ (x.2.2.1).size ≤ 1048576) ∧ Hid (Below w.heap.size w wr)) (fun _ i _ => n - (intOf i).toNat)
 case atStart => exact ⟨0, _, Nat.zero_le _, rfl, rfl, by omega, by omega, fun x hx => by simp at hx, Below.refl _ _⟩
 case round =>
  obtain ⟨k, x, hk, rfl, rfl, hx0, hx1, HX, HBW⟩ := hrel
  by_cases hlt : k < n
  rotate_left
  ·have HF : Hid (n ≤ 1048576 ∧ ∀ x ∈ l, (x.2.1).size ≤ 1048576 ∧ (x.2.2.1).size ≤ 1048576) := ⟨by omega, fun x hx => HX.out x (by rw [List.take_of_length_le (by rw [HLN.out]; omega)]; exact hx)⟩
   go_wp2
   go_ret
   exact ⟨x, rfl, by omega, fun _ => ⟨by omega, HF.out⟩, HBW.out⟩
  have hlt2 : (k : Int) < (n : Int) := by omega
  obtain ⟨b, off, rfl, hbB, r0, r1, r2, r3⟩ := (HA.out wr HBW.out).2 k hlt
  obtain ⟨y, hy⟩ := exq (banAt l k)
  have HM : Hid (y ∈ l) := by show _ ∈ _; rw [hy]; exact banAt_mem l k (by rw [HLN.out]; exact hlt)
  have HTK : Hid (l.take (k + 1) = l.take k ++ [y]) := by show _ = _; rw [hy]; exact take_banAt l k (by rw [HLN.out]; exact hlt)
  have s1 := HS.out y HM.out
  rw [← hy] at r0 r1 r2 r3
  clear hy
  obtain ⟨y0, y1, y2, y3⟩ := y
  go_wp2_with fail
  refine (szBan_any x hx0 (by omega) y0 y1 y2 y3 _ s1.1 s1.2).mono ?_
  rintro e w1 ⟨r, rfl, hr1, hr2, bw⟩
  have HB2 : Hid (Below w.heap.size w w1) := HBW.out.trans (bw.mono HBW.out.size)
  clear r0 r1 r2 r3 bw
  by_cases d1 : r < 0
  ·clear hr2
   go_wp2
   go_ret
   exact ⟨-1, rfl, by omega, fun h => absurd h (by omega), HB2.out⟩
  have HX2 : Hid (∀ x ∈ l.take (k + 1), (x.2.1).size ≤ 1048576 ∧ (x.2.2.1).size ≤ 1048576) := fun x hx => by
   rw [HTK.out] at hx
   rcases List.mem_append.1 hx with hx | hx
   · exact HX.out x hx
   · rw [List.mem_singleton.1 hx]; exact hr2 (by omega)
  clear hr2
  go_wp2
  go_roundw
  case rel => exact ⟨k + 1, r, by omega, by go_num, rfl, by omega, by omega, HX2, HB2⟩
  case measure => simp [intOf]; omega
theorem toBanS_any (B : Nat) (a : Oa) (n cap : Nat) (l : Bs) (w : World) (harg : ArgBan w B a n l) (hB : B ≤ w.heap.size) (hn : n ≤ 1048576) :
  Calls Tryz.prog 44 #[.slice a n cap] w fun e w' => ∃ v, e = .returned v ∧ w'.ownsRow w.heap.size 143 4 v n (flatBan l) ∧ Below w.heap.size w w' := by
 obtain ⟨i0, hi, hz0, hz1, hz2⟩ := info_parts infoBan
 obtain ⟨M, hM⟩ : ∃ M, M = madeCells (Value.agg #[.int .i64 0, .string ⟨#[]⟩, .string ⟨#[]⟩, .int .i64 0]).cells (((n : Nat) : Int).toNat * i0.size) := ⟨_, rfl⟩
 have hmk : ∀ W : World, (Instr.makeSlice 41 (.int .i64 (n : Int)) (.int .i64 (n : Int))).run Tryz.prog W = .ok (.slice (some ⟨W.heap.size, 0, none⟩) n n) (W.alloc (.cells M 143)) := fun W => by
  have h := run_make (P := Tryz.prog) W 41 143 i0 (.agg #[.int .i64 0, .string ⟨#[]⟩, .string ⟨#[]⟩, .int .i64 0]) Tryz.underlying41 hi hz0 .i64 .i64 (n : Int) (n : Int) (by omega) (by omega) (by rw [hz2]; omega) (by omega)
  rw [← hM] at h
  simpa using h
 have hMs : M.size = n * 4 := by rw [hM, size_madeCells, hz1]; simp
 have HLN : Hid (l.length = n) := harg.1
 have HA : Hid (∀ W, Below w.heap.size w W → ArgBan W B a n l) := fun W h => harg.below (h.mono hB)
 clear hM harg
 have HP : Hid (PartBan (w.alloc (.cells M 143)) w.heap.size n 0 l) := ⟨M, heap_alloc_new w _, hMs, fun i h => absurd h (by omega)⟩
 go_enter Tryz.func44, Tryz.ntmps44
 go_wp2
 go_loopw [4] (fun i wr => ∃ k : Nat, k ≤ n ∧ i = .int .i64 (k : Int) ∧ Hid (PartBan wr w.heap.size n k l) ∧ Hid (Below w.heap.size w wr)) (fun i _ => n - (intOf i).toNat)
 case atStart => exact ⟨0, Nat.zero_le _, rfl, HP, (Below.refl _ _).alloc (Nat.le_refl _) _⟩
 case round =>
  obtain ⟨k, hk, rfl, hpr, HBW⟩ := hrel
  by_cases hlt : k < n
  rotate_left
  ·obtain rfl : k = n := by omega
   go_wp2
   go_ret
   exact ⟨_, rfl, hpr.out.owns HLN.out (by unfold maxLen; omega) (Nat.le_refl _), HBW.out⟩
  have hlt2 : (k : Int) < (n : Int) := by omega
  obtain ⟨b, off, rfl, hbB, r0, r1, r2, r3⟩ := (HA.out wr HBW.out).2 k hlt
  obtain ⟨y, hy⟩ := exq (banAt l k)
  rw [← hy] at r0 r1 r2 r3
  have HY : Hid (banAt l k = y) := hy.symm
  clear hy
  obtain ⟨y0, y1, y2, y3⟩ := y
  go_wp2_with fail
  refine (toBan_any y0 y1 y2 y3 _).mono ?_
  rintro e w1 ⟨rfl, bw⟩
  have hpr1 := hpr.out.below bw hpr.out.lt
  have HB2 : Hid (Below w.heap.size w w1) := HBW.out.trans (bw.mono HBW.out.size)
  obtain ⟨u0, hu0⟩ := hpr1.cell (k * 4) (by omega)
  have f0 := hpr1.frozen (k * 4)
  obtain ⟨u1, hu1⟩ := hpr1.cell (k * 4 + 1) (by omega)
  have f1 := hpr1.frozen (k * 4 + 1)
  obtain ⟨u2, hu2⟩ := hpr1.cell (k * 4 + 2) (by omega)
  have f2 := hpr1.frozen (k * 4 + 2)
  obtain ⟨u3, hu3⟩ := hpr1.cell (k * 4 + 3) (by omega)
  have f3 := hpr1.frozen (k * 4 + 3)
  have hput := hpr1.put hlt
  rw [HY.out] at hput
  have HPUT : Hid _ := hput
  clear hput r0 r1 r2 r3 bw
  go_wp2
  go_roundw
  case rel => exact ⟨k + 1, by omega, by go_num, HPUT, (((HB2.out.setCell (Nat.le_refl _) _).setCell (Nat.le_refl _) _).setCell (Nat.le_refl _) _).setCell (Nat.le_refl _) _⟩
  case measure => simp [intOf]; omega
theorem eqBanS_any (o1 o2 : Oa) (n c1 c2 : Nat) (l : Bs) (w : World) (h1 : BanA w o1 n l) (h2 : BanA w o2 n l) (hn : n ≤ 2000000) :
  Calls Tryz.prog 53 #[.slice o1 n c1, .slice o2 n c2] w fun e w' => e = .returned (.bool true) ∧ Below w.heap.size w w' := by
 have H1 : Hid (∀ W, Below w.heap.size w W → BanA W o1 n l) := fun W h => h1.below h
 have H2 : Hid (∀ W, Below w.heap.size w W → BanA W o2 n l) := fun W h => h2.below h
 clear h1 h2
 go_enter Tryz.func53, Tryz.ntmps53
 go_wp2
 go_loopw [5] (fun i wr => ∃ k : Nat, k ≤ n ∧ i = .int .i64 (k : Int) ∧ Hid (Below w.heap.size w wr)) (fun i _ => n - (intOf i).toNat)
 case atStart => exact ⟨0, Nat.zero_le _, rfl, Below.refl _ _⟩
 case round =>
  obtain ⟨k, hk, rfl, HBW⟩ := hrel
  by_cases hlt : k < n
  rotate_left
  ·go_wp2
   go_ret
   exact ⟨rfl, HBW.out⟩
  have hlt2 : (k : Int) < (n : Int) := by omega
  obtain ⟨y, hy⟩ := exq (banAt l k)
  obtain ⟨g1, rfl, hg1, a0, a1, a2, a3⟩ := (H1.out wr HBW.out).2 k hlt
  obtain ⟨g2, rfl, hg2, b0, b1, b2, b3⟩ := (H2.out wr HBW.out).2 k hlt
  rw [← hy] at a0 b0 a1 b1 a2 b2 a3 b3
  clear hy
  obtain ⟨y0, y1, y2, y3⟩ := y
  have HA : Hid (∀ w0 w1, Below wr.heap.size wr w0 → Below w0.heap.size w0 w1 → (w1.cell? ⟨g1, k * 4, none⟩ = some (.int .i64 y0) ∧ w1.cell? ⟨g1, k * 4 + 1, none⟩ = some (.string y1) ∧ w1.cell? ⟨g1, k * 4 + 2, none⟩ = some (.string y2) ∧ w1.cell? ⟨g1, k * 4 + 3, none⟩ = some (.int .i64 y3) ∧ w1.cell? ⟨g2, k * 4, none⟩ = some (.int .i64 y0) ∧ w1.cell? ⟨g2, k * 4 + 1, none⟩ = some (.string y1) ∧ w1.cell? ⟨g2, k * 4 + 2, none⟩ = some (.string y2) ∧ w1.cell? ⟨g2, k * 4 + 3, none⟩ = some (.int .i64 y3)) ∧ Below wr.heap.size wr w1) := fun w0 w1 h h' => by
   have hx := h.trans (h'.mono h.size)
   exact ⟨⟨by rw [hx.cell (p := ⟨g1, k * 4, none⟩) hg1]; exact a0, by rw [hx.cell (p := ⟨g1, k * 4 + 1, none⟩) hg1]; exact a1, by rw [hx.cell (p := ⟨g1, k * 4 + 2, none⟩) hg1]; exact a2, by rw [hx.cell (p := ⟨g1, k * 4 + 3, none⟩) hg1]; exact a3, by rw [hx.cell (p := ⟨g2, k * 4, none⟩) hg2]; exact b0, by rw [hx.cell (p := ⟨g2, k * 4 + 1, none⟩) hg2]; exact b1, by rw [hx.cell (p := ⟨g2, k * 4 + 2, none⟩) hg2]; exact b2, by rw [hx.cell (p := ⟨g2, k * 4 + 3, none⟩) hg2]; exact b3⟩, hx⟩
  go_wp2
  go_region_held3 (fun w' => w'.cell? ⟨g1, k * 4, none⟩ = some (.int .i64 y0) ∧ w'.cell? ⟨g1, k * 4 + 1, none⟩ = some (.string y1) ∧ w'.cell? ⟨g1, k * 4 + 2, none⟩ = some (.string y2) ∧ w'.cell? ⟨g1, k * 4 + 3, none⟩ = some (.int .i64 y3) ∧ w'.cell? ⟨g2, k * 4, none⟩ = some (.int .i64 y0) ∧ w'.cell? ⟨g2, k * 4 + 1, none⟩ = some (.string y1) ∧ w'.cell? ⟨g2, k * 4 + 2, none⟩ = some (.string y2) ∧ w'.cell? ⟨g2, k * 4 + 3, none⟩ = some (.int .i64 y3)) (first | assumption | go_keep) (first | (go_at_call 106; refine (eqBan_any _ _ _ _ _).mono ?_; rintro e w1 ⟨rfl, hb1⟩; obtain ⟨hcc, hbx⟩ := HA.out _ w1 ((Below.refl _ wr).drew) hb1))
  go_wp2
  go_roundw
  case rel => exact ⟨k + 1, by omega, by go_num, HBW.out.trans (hbx.mono HBW.out.size)⟩
  case measure => simp [intOf]; omega
theorem openBanS {H : Type} {enc : TypeId × Value → H} {W : World} {fuel : Nat} {a : Oa} {n cap : Nat} {x : DataW H × List MemPlace} (h : DataW.trod enc Tryz.prog W 0 (fun _ => true) true fuel 27 [.slice a n cap] = some x) :
  ∃ l, ArgBan W W.heap.size a n l ∧ n ≤ maxLen ∧ ∀ x ∈ l, (x.2.1).size ≤ maxLen ∧ (x.2.2.1).size ≤ maxLen := by
 rcases Go.Deep.open_slice Tryz.underlying27 h with ⟨hcs, _⟩ | ⟨ad, len, c, m, q, Dd, Pl, hcs, _, hl, hm, hmm, _, hx⟩
 ·simp at hcs
  obtain ⟨rfl, rfl, rfl⟩ := hcs
  exact ⟨[], ⟨rfl, fun i hi => absurd hi (by omega)⟩, Nat.zero_le _, fun x hx => by simp at hx⟩
 ·simp at hcs
  obtain ⟨rfl, rfl, rfl⟩ := hcs
  have hm2 : m = cap := by simpa using hmm
  have ce : Tryz.prog.cellsOf 136 = 4 := by kernel_rfl
  have ci : Tryz.prog.cellsOf 3 = 1 := by kernel_rfl
  have cs : Tryz.prog.cellsOf 9 = 1 := by kernel_rfl
  have each : ∀ i, i < n → ∃ y : (Int × ByteArray × ByteArray × Int), (W.cell? (ad.add (i * 4 + 0)) = some (.int .i64 (y.1)) ∧ W.cell? (ad.add (i * 4 + 1)) = some (.string (y.2.1)) ∧ W.cell? (ad.add (i * 4 + 2)) = some (.string (y.2.2.1)) ∧ W.cell? (ad.add (i * 4 + 3)) = some (.int .i64 (y.2.2.2))) ∧ (y.2.1).size ≤ maxLen ∧ (y.2.2.1).size ≤ maxLen := by
   intro i hi
   obtain ⟨cs', h1, h2⟩ := hx i (by omega)
   rw [ce] at h1
   obtain ⟨_, hlen, hcell⟩ := World.cells?_some h1
   obtain ⟨xs, k, hk, hxy, _, hxl, hf⟩ := DataW.trod_struct Tryz.underlying136 h2
   match xs, hxl, cs', hlen with
   | [x0, x1, x2, x3], _, [v0, v1, v2, v3], _ =>
    have g0 := hf 0 _ rfl
    have g1 := hf 1 _ rfl
    have g2 := hf 2 _ rfl
    have g3 := hf 3 _ rfl
    simp [ci, cs] at g0 g1 g2 g3
    obtain ⟨s0, e0, _, _⟩ := DataW.trod_int Tryz.underlying3 g0
    obtain ⟨s1, e1, _, z1⟩ := DataW.trod_string Tryz.underlying9 g1
    obtain ⟨s2, e2, _, z2⟩ := DataW.trod_string Tryz.underlying9 g2
    obtain ⟨s3, e3, _, _⟩ := DataW.trod_int Tryz.underlying3 g3
    simp only [List.cons.injEq, and_true] at e0 e1 e2 e3
    subst e0 e1 e2 e3
    have c0 := hcell 0 (by omega)
    have c1 := hcell 1 (by omega)
    have c2 := hcell 2 (by omega)
    have c3 := hcell 3 (by omega)
    rw [Go.Deep.add_add] at c0 c1 c2 c3
    exact ⟨(s0, s1, s2, s3), ⟨by simpa using c0, by simpa using c1, by simpa using c2, by simpa using c3⟩, ⟨z1, z2⟩⟩
  obtain ⟨q, hq⟩ := Go.Deep.choose_lt each
  have hat : ∀ i, i < n → banAt ((List.range n).map q) i = q i := fun i hi => by
   unfold banAt
   rw [List.getD_eq_getElem?_getD, List.getElem?_map, List.getElem?_range hi]
   rfl
  refine ⟨(List.range n).map q, ⟨by simp, fun i hi => ?_⟩, by omega, fun x hx => ?_⟩
  ·obtain ⟨c0, _⟩ := hq i hi
   obtain ⟨c3, _⟩ := hq 0 (by omega)
   have hsp : ad.spot = none := by
    have := World.cell?_spot c3.1
    simpa [Addr.add] using this
   clear c3
   obtain ⟨b, off, sp⟩ := ad
   simp only at hsp
   subst hsp
   simp only [addr_add] at c0
   rw [hat i hi]
   have hlt := World.block_lt_of_cell? W _ c0.1
   exact ⟨b, off, rfl, hlt, by simpa [Nat.add_assoc] using c0.1, by simpa [Nat.add_assoc] using c0.2.1, by simpa [Nat.add_assoc] using c0.2.2.1, by simpa [Nat.add_assoc] using c0.2.2.2⟩
  ·obtain ⟨i, hi, rfl⟩ := List.mem_map.1 hx
   exact (hq i (List.mem_range.1 hi)).2
def zeroK : KpD := ⟨⟨#[]⟩, [], [], 0, [], ⟨#[]⟩, 0, 0, 0⟩
def kpAt (ks : List KpD) (i : Nat) : KpD := ks.getD i zeroK
theorem kpAt_get (ks : List KpD) (i : Nat) (h : i < ks.length) : ks[i]'h = kpAt ks i := by
 unfold kpAt
 rw [List.getD_eq_getElem?_getD, List.getElem?_eq_getElem h]
 rfl
theorem kpAt_mem (ks : List KpD) (i : Nat) (h : i < ks.length) : kpAt ks i ∈ ks := by rw [← kpAt_get ks i h]; exact List.getElem_mem h
theorem kpAt_take (ks : List KpD) (i : Nat) (h : i < ks.length) : ks.take (i + 1) = ks.take i ++ [kpAt ks i] := by rw [← kpAt_get ks i h, List.take_succ_eq_append_getElem h]
def ObjK (k : KpD) : Prop := ObjP k.p k.xs k.ys k.st k.fs k.b k.t
def KpOk (ks : List KpD) (sq : Int) (i : Nat) : Prop :=
 ObjK (kpAt ks i) ∧ (5 ≤ (kpAt ks i).a ∧ (kpAt ks i).a ≤ 19) ∧ (1 ≤ (kpAt ks i).q ∧ (kpAt ks i).q ≤ sq - 1) ∧ (0 < i → (kpAt ks (i - 1)).q < (kpAt ks i).q) ∧ ∀ j, j < i → (kpAt ks j).a ≠ (kpAt ks i).a
structure ShD where
 cs : Ts
 ws : List (Int × ByteArray)
 ks : List KpD
 bl : Bs
 nx : Int
 sq : Int
def ShelfP (s : ShD) : Prop :=
 DiskP s.cs s.ws ∧ s.bl.length ≤ 5 ∧ (5 ≤ s.nx ∧ s.nx ≤ 19) ∧ (1 ≤ s.sq ∧ s.sq ≤ 100000) ∧ (∀ x ∈ s.bl, BanP x.1 x.2.1 x.2.2.1 x.2.2.2) ∧ ∀ i, i < s.ks.length → KpOk s.ks s.sq i
theorem toKept_any (p : Tx) (a1 : Oa) (n1 c1 : Nat) (xs : Ts) (a2 : Oa) (n2 c2 : Nat) (ys : Ts) (st : Int) (a3 : Oa) (n3 c3 : Nat) (fs : Fs) (b : Tx) (t ka kq : Int) (B : Nat) (w : World) (h1 : ArgT w B a1 n1 xs) (h2 : ArgT w B a2 n2 ys) (h3 : ArgF w B a3 n3 fs) (hB : B ≤ w.heap.size) (hn1 : n1 ≤ 1048576) (hn2 : n2 ≤ 1048576) (hn3 : n3 ≤ 1048576) :
  Calls Tryz.prog 88 #[.agg #[.string p, .slice a1 n1 c1, .slice a2 n2 c2, .int .i64 st, .slice a3 n3 c3, .string b, .int .i64 t, .int .i64 ka, .int .i64 kq]] w fun e w' => ∃ v1 v2 v3, e = .returned (.agg #[.string p, v1, v2, .int .i64 st, v3, .string b, .int .i64 t, .int .i64 ka, .int .i64 kq]) ∧ ObjO w' w.heap.size v1 n1 xs v2 n2 ys v3 n3 fs ∧ Below w.heap.size w w' := by
 have HA1 : Hid (∀ W, Below w.heap.size w W → ArgT W B a1 n1 xs) := fun W h => h1.below (h.mono hB)
 have HA2 : Hid (∀ W, Below w.heap.size w W → ArgT W B a2 n2 ys) := fun W h => h2.below (h.mono hB)
 have HA3 : Hid (∀ W, Below w.heap.size w W → ArgF W B a3 n3 fs) := fun W h => h3.below (h.mono hB)
 have HBB : Hid (∀ W, Below w.heap.size w W → B ≤ W.heap.size) := fun W h => Nat.le_trans hB h.size
 clear h1 h2 h3
 have hb0 := Below.refl w.heap.size w
 go_enter Tryz.func88, Tryz.ntmps88
 go_upto_region 1 with fail
 obtain ⟨q1, hq1⟩ := exq (w.heap.size)
 obtain ⟨w1, hW1⟩ := exq (w.alloc (.cells #[.string p, .slice a1 n1 c1, .slice a2 n2 c2, .int .i64 st, .slice a3 n3 c3, .string b, .int .i64 t, .int .i64 ka, .int .i64 kq] 133))
 have hz1 := hq1.symm
 rw [← hW1]; try rw [← hq1]
 have hs1 := hsa hW1 hz1
 have bw := bal hW1
 have hb1 := hbt hb0 bw
 have B1_1 := hnew hW1 hz1
 clear hb0 bw hW1 hz1
 obtain ⟨q2, hq2⟩ := exq (q1 + 1)
 obtain ⟨w2, hW2⟩ := exq (w1.alloc (.cells #[.string ⟨#[]⟩, .slice none 0 0, .slice none 0 0, .int .i64 0, .slice none 0 0, .string ⟨#[]⟩, .int .i64 0, .int .i64 0, .int .i64 0] 145))
 have hz2 : w1.heap.size = q2 := by rw [hq2]; exact hs1
 rw [← hW2]; try rw [← hq2]
 have hs2 := hsa hW2 hz2
 have bw := bal hW2
 have hb2 := hbt hb1 bw
 have B1_2 := hblk B1_1 bw
 have Nv1v2 := hnq B1_1 hz2
 have B2_2 := hnew hW2 hz2
 have Gv2 := hge hz2 hb1
 clear hb1 bw hW2 hz2
 clear hs2 hq2 hs1 hq1
 go_upto_region 2 with fail
 obtain ⟨q3, hq3⟩ := exq (w2.heap.size)
 obtain ⟨w3, hW3⟩ := exq (w2.alloc (.cells #[.string ⟨#[]⟩, .slice none 0 0, .slice none 0 0, .int .i64 0, .slice none 0 0, .string ⟨#[]⟩, .int .i64 0, .int .i64 0, .int .i64 0] 145))
 have hz3 := hq3.symm
 rw [← hW3]; try rw [← hq3]
 have hs3 := hsa hW3 hz3
 have bw := bal hW3
 have hb3 := hbt hb2 bw
 have B1_3 := hblk B1_2 bw
 have B2_3 := hblk B2_2 bw
 have Nv1v3 := hnq B1_2 hz3
 have Nv2v3 := hnq B2_2 hz3
 have B3_3 := hnew hW3 hz3
 have Gv3 := hge hz3 hb2
 clear hb2 bw hW3 hz3
 clear hs3 hq3
 have c1_0 := (k9c B1_3).1
 have c1_1 := (k9c B1_3).2.1
 have c1_2 := (k9c B1_3).2.2.1
 have c1_3 := (k9c B1_3).2.2.2.1
 have c1_4 := (k9c B1_3).2.2.2.2.1
 have c1_5 := (k9c B1_3).2.2.2.2.2.1
 have c1_6 := (k9c B1_3).2.2.2.2.2.2.1
 go_wp2_with fail
 refine (toObj_any p a1 n1 c1 xs a2 n2 c2 ys st a3 n3 c3 fs b t B _ (HA1.out _ hb3) (HA2.out _ hb3) (HA3.out _ hb3) (HBB.out _ hb3) hn1 hn2 hn3).mono ?_
 rintro e w4 ⟨vv1, vv2, vv3, rfl, ⟨ownN, ownV, ownF, neX⟩, bw⟩
 obtain ⟨oN, pN, rfl⟩ := slice_of_owns ownN
 obtain ⟨oV, pV, rfl⟩ := slice_of_owns ownV
 obtain ⟨oF, pF, rfl⟩ := slice_of_owns ownF
 have APX : Hid (∀ j, (Value.slice oN n1 pN).ownBlock = some j → (Value.slice oV n2 pV).ownBlock ≠ some j) := neX
 clear neX
 have hb4 := hbt hb3 bw
 have B1_4 := hblk B1_3 bw
 have B2_4 := hblk B2_3 bw
 have B3_4 := hblk B3_3 bw
 have HON_4 := hwd ownN hb3.size
 clear ownN
 have HOV_4 := hwd ownV hb3.size
 clear ownV
 have HOF_4 := hwd ownF hb3.size
 clear ownF
 clear hb3 bw
 clear c1_0 c1_1 c1_2 c1_3 c1_4 c1_5 c1_6
 have c3_0 := (k9c B3_4).1
 have f3_0 := hfz B3_4 0
 have c3_1 := (k9c B3_4).2.1
 have f3_1 := hfz B3_4 1
 have c3_2 := (k9c B3_4).2.2.1
 have f3_2 := hfz B3_4 2
 have c3_3 := (k9c B3_4).2.2.2.1
 have f3_3 := hfz B3_4 3
 have c3_4 := (k9c B3_4).2.2.2.2.1
 have f3_4 := hfz B3_4 4
 have c3_5 := (k9c B3_4).2.2.2.2.2.1
 have f3_5 := hfz B3_4 5
 have c3_6 := (k9c B3_4).2.2.2.2.2.2.1
 have f3_6 := hfz B3_4 6
 go_upto_region 3 with fail
 obtain ⟨w5, hW5⟩ := exq (w4.setCell ⟨q3, 0, none⟩ (.string p))
 rw [← hW5]
 have hb5 := hbS hW5 hb4 Gv3
 have HON_5 := hsetR hW5 (own_ne HON_4.out B3_4.out (by decide)) HON_4
 have HOV_5 := hsetR hW5 (own_ne HOV_4.out B3_4.out (by decide)) HOV_4
 have HOF_5 := hsetR hW5 (own_ne HOF_4.out B3_4.out (by decide)) HOF_4
 have B1_5 := hset hW5 Nv1v3.out B1_4
 have B2_5 := hset hW5 Nv2v3.out B2_4
 have B3_5 := hput hW5 B3_4
 clear hb4 hW5
 obtain ⟨w6, hW6⟩ := exq (w5.setCell ⟨q3, 1, none⟩ (.slice oN n1 pN))
 rw [← hW6]
 have hb6 := hbS hW6 hb5 Gv3
 have HON_6 := hsetR hW6 (own_ne HON_5.out B3_5.out (by decide)) HON_5
 have HOV_6 := hsetR hW6 (own_ne HOV_5.out B3_5.out (by decide)) HOV_5
 have HOF_6 := hsetR hW6 (own_ne HOF_5.out B3_5.out (by decide)) HOF_5
 have B1_6 := hset hW6 Nv1v3.out B1_5
 have B2_6 := hset hW6 Nv2v3.out B2_5
 have B3_6 := hput hW6 B3_5
 clear hb5 hW6
 obtain ⟨w7, hW7⟩ := exq (w6.setCell ⟨q3, 2, none⟩ (.slice oV n2 pV))
 rw [← hW7]
 have hb7 := hbS hW7 hb6 Gv3
 have HON_7 := hsetR hW7 (own_ne HON_6.out B3_6.out (by decide)) HON_6
 have HOV_7 := hsetR hW7 (own_ne HOV_6.out B3_6.out (by decide)) HOV_6
 have HOF_7 := hsetR hW7 (own_ne HOF_6.out B3_6.out (by decide)) HOF_6
 have B1_7 := hset hW7 Nv1v3.out B1_6
 have B2_7 := hset hW7 Nv2v3.out B2_6
 have B3_7 := hput hW7 B3_6
 clear hb6 hW7
 obtain ⟨w8, hW8⟩ := exq (w7.setCell ⟨q3, 3, none⟩ (.int .i64 st))
 rw [← hW8]
 have hb8 := hbS hW8 hb7 Gv3
 have HON_8 := hsetR hW8 (own_ne HON_7.out B3_7.out (by decide)) HON_7
 have HOV_8 := hsetR hW8 (own_ne HOV_7.out B3_7.out (by decide)) HOV_7
 have HOF_8 := hsetR hW8 (own_ne HOF_7.out B3_7.out (by decide)) HOF_7
 have B1_8 := hset hW8 Nv1v3.out B1_7
 have B2_8 := hset hW8 Nv2v3.out B2_7
 have B3_8 := hput hW8 B3_7
 clear hb7 hW8
 obtain ⟨w9, hW9⟩ := exq (w8.setCell ⟨q3, 4, none⟩ (.slice oF n3 pF))
 rw [← hW9]
 have hb9 := hbS hW9 hb8 Gv3
 have HON_9 := hsetR hW9 (own_ne HON_8.out B3_8.out (by decide)) HON_8
 have HOV_9 := hsetR hW9 (own_ne HOV_8.out B3_8.out (by decide)) HOV_8
 have HOF_9 := hsetR hW9 (own_ne HOF_8.out B3_8.out (by decide)) HOF_8
 have B1_9 := hset hW9 Nv1v3.out B1_8
 have B2_9 := hset hW9 Nv2v3.out B2_8
 have B3_9 := hput hW9 B3_8
 clear hb8 hW9
 obtain ⟨w10, hW10⟩ := exq (w9.setCell ⟨q3, 5, none⟩ (.string b))
 rw [← hW10]
 have hb10 := hbS hW10 hb9 Gv3
 have HON_10 := hsetR hW10 (own_ne HON_9.out B3_9.out (by decide)) HON_9
 have HOV_10 := hsetR hW10 (own_ne HOV_9.out B3_9.out (by decide)) HOV_9
 have HOF_10 := hsetR hW10 (own_ne HOF_9.out B3_9.out (by decide)) HOF_9
 have B1_10 := hset hW10 Nv1v3.out B1_9
 have B2_10 := hset hW10 Nv2v3.out B2_9
 have B3_10 := hput hW10 B3_9
 clear hb9 hW10
 obtain ⟨w11, hW11⟩ := exq (w10.setCell ⟨q3, 6, none⟩ (.int .i64 t))
 rw [← hW11]
 have hb11 := hbS hW11 hb10 Gv3
 have HON_11 := hsetR hW11 (own_ne HON_10.out B3_10.out (by decide)) HON_10
 have HOV_11 := hsetR hW11 (own_ne HOV_10.out B3_10.out (by decide)) HOV_10
 have HOF_11 := hsetR hW11 (own_ne HOF_10.out B3_10.out (by decide)) HOF_10
 have B1_11 := hset hW11 Nv1v3.out B1_10
 have B2_11 := hset hW11 Nv2v3.out B2_10
 have B3_11 := hput hW11 B3_10
 clear hb10 hW11
 clear c3_0 f3_0 c3_1 f3_1 c3_2 f3_2 c3_3 f3_3 c3_4 f3_4 c3_5 f3_5 c3_6 f3_6
 have c1_7 := (k9c B1_11).2.2.2.2.2.2.2.1
 have c3_7 := (k9c B3_11).2.2.2.2.2.2.2.1
 have f3_7 := hfz B3_11 7
 go_upto_region 4 with fail
 obtain ⟨w12, hW12⟩ := exq (w11.setCell ⟨q3, 7, none⟩ (.int .i64 ka))
 rw [← hW12]
 have hb12 := hbS hW12 hb11 Gv3
 have HON_12 := hsetR hW12 (own_ne HON_11.out B3_11.out (by decide)) HON_11
 have HOV_12 := hsetR hW12 (own_ne HOV_11.out B3_11.out (by decide)) HOV_11
 have HOF_12 := hsetR hW12 (own_ne HOF_11.out B3_11.out (by decide)) HOF_11
 have B1_12 := hset hW12 Nv1v3.out B1_11
 have B2_12 := hset hW12 Nv2v3.out B2_11
 have B3_12 := hput hW12 B3_11
 clear hb11 hW12
 clear c1_7 c3_7 f3_7
 have c1_8 := (k9c B1_12).2.2.2.2.2.2.2.2
 have c3_8 := (k9c B3_12).2.2.2.2.2.2.2.2
 have f3_8 := hfz B3_12 8
 go_upto_region 5 with fail
 obtain ⟨w13, hW13⟩ := exq (w12.setCell ⟨q3, 8, none⟩ (.int .i64 kq))
 rw [← hW13]
 have hb13 := hbS hW13 hb12 Gv3
 have HON_13 := hsetR hW13 (own_ne HON_12.out B3_12.out (by decide)) HON_12
 have HOV_13 := hsetR hW13 (own_ne HOV_12.out B3_12.out (by decide)) HOV_12
 have HOF_13 := hsetR hW13 (own_ne HOF_12.out B3_12.out (by decide)) HOF_12
 have B1_13 := hset hW13 Nv1v3.out B1_12
 have B2_13 := hset hW13 Nv2v3.out B2_12
 have B3_13 := hput hW13 B3_12
 clear hb12 hW13
 clear c1_8 c3_8 f3_8
 have c2_0 := (k9c B2_13).1
 have f2_0 := hfz B2_13 0
 have c2_1 := (k9c B2_13).2.1
 have f2_1 := hfz B2_13 1
 have c2_2 := (k9c B2_13).2.2.1
 have f2_2 := hfz B2_13 2
 have c2_3 := (k9c B2_13).2.2.2.1
 have f2_3 := hfz B2_13 3
 have c2_4 := (k9c B2_13).2.2.2.2.1
 have f2_4 := hfz B2_13 4
 have c2_5 := (k9c B2_13).2.2.2.2.2.1
 have f2_5 := hfz B2_13 5
 have c2_6 := (k9c B2_13).2.2.2.2.2.2.1
 have f2_6 := hfz B2_13 6
 have c2_7 := (k9c B2_13).2.2.2.2.2.2.2.1
 have f2_7 := hfz B2_13 7
 have c2_8 := (k9c B2_13).2.2.2.2.2.2.2.2
 have f2_8 := hfz B2_13 8
 have c3_0 := (k9c B3_13).1
 have c3_1 := (k9c B3_13).2.1
 have c3_2 := (k9c B3_13).2.2.1
 have c3_3 := (k9c B3_13).2.2.2.1
 have c3_4 := (k9c B3_13).2.2.2.2.1
 have c3_5 := (k9c B3_13).2.2.2.2.2.1
 have c3_6 := (k9c B3_13).2.2.2.2.2.2.1
 have c3_7 := (k9c B3_13).2.2.2.2.2.2.2.1
 have c3_8 := (k9c B3_13).2.2.2.2.2.2.2.2
 go_wp2_with fail
 obtain ⟨w14, hW14⟩ := exq (w13.setCell ⟨q2, 0, none⟩ (.string p))
 rw [← hW14]
 have hb14 := hbS hW14 hb13 Gv2
 have HON_14 := hsetR hW14 (own_ne HON_13.out B2_13.out (by decide)) HON_13
 have HOV_14 := hsetR hW14 (own_ne HOV_13.out B2_13.out (by decide)) HOV_13
 have HOF_14 := hsetR hW14 (own_ne HOF_13.out B2_13.out (by decide)) HOF_13
 have B1_14 := hset hW14 Nv1v2.out B1_13
 have B3_14 := hset hW14 Nv2v3.out.symm B3_13
 have B2_14 := hput hW14 B2_13
 clear hb13 hW14
 obtain ⟨w15, hW15⟩ := exq (w14.setCell ⟨q2, 1, none⟩ (.slice oN n1 pN))
 rw [← hW15]
 have hb15 := hbS hW15 hb14 Gv2
 have HON_15 := hsetR hW15 (own_ne HON_14.out B2_14.out (by decide)) HON_14
 have HOV_15 := hsetR hW15 (own_ne HOV_14.out B2_14.out (by decide)) HOV_14
 have HOF_15 := hsetR hW15 (own_ne HOF_14.out B2_14.out (by decide)) HOF_14
 have B1_15 := hset hW15 Nv1v2.out B1_14
 have B3_15 := hset hW15 Nv2v3.out.symm B3_14
 have B2_15 := hput hW15 B2_14
 clear hb14 hW15
 obtain ⟨w16, hW16⟩ := exq (w15.setCell ⟨q2, 2, none⟩ (.slice oV n2 pV))
 rw [← hW16]
 have hb16 := hbS hW16 hb15 Gv2
 have HON_16 := hsetR hW16 (own_ne HON_15.out B2_15.out (by decide)) HON_15
 have HOV_16 := hsetR hW16 (own_ne HOV_15.out B2_15.out (by decide)) HOV_15
 have HOF_16 := hsetR hW16 (own_ne HOF_15.out B2_15.out (by decide)) HOF_15
 have B1_16 := hset hW16 Nv1v2.out B1_15
 have B3_16 := hset hW16 Nv2v3.out.symm B3_15
 have B2_16 := hput hW16 B2_15
 clear hb15 hW16
 obtain ⟨w17, hW17⟩ := exq (w16.setCell ⟨q2, 3, none⟩ (.int .i64 st))
 rw [← hW17]
 have hb17 := hbS hW17 hb16 Gv2
 have HON_17 := hsetR hW17 (own_ne HON_16.out B2_16.out (by decide)) HON_16
 have HOV_17 := hsetR hW17 (own_ne HOV_16.out B2_16.out (by decide)) HOV_16
 have HOF_17 := hsetR hW17 (own_ne HOF_16.out B2_16.out (by decide)) HOF_16
 have B1_17 := hset hW17 Nv1v2.out B1_16
 have B3_17 := hset hW17 Nv2v3.out.symm B3_16
 have B2_17 := hput hW17 B2_16
 clear hb16 hW17
 obtain ⟨w18, hW18⟩ := exq (w17.setCell ⟨q2, 4, none⟩ (.slice oF n3 pF))
 rw [← hW18]
 have hb18 := hbS hW18 hb17 Gv2
 have HON_18 := hsetR hW18 (own_ne HON_17.out B2_17.out (by decide)) HON_17
 have HOV_18 := hsetR hW18 (own_ne HOV_17.out B2_17.out (by decide)) HOV_17
 have HOF_18 := hsetR hW18 (own_ne HOF_17.out B2_17.out (by decide)) HOF_17
 have B1_18 := hset hW18 Nv1v2.out B1_17
 have B3_18 := hset hW18 Nv2v3.out.symm B3_17
 have B2_18 := hput hW18 B2_17
 clear hb17 hW18
 obtain ⟨w19, hW19⟩ := exq (w18.setCell ⟨q2, 5, none⟩ (.string b))
 rw [← hW19]
 have hb19 := hbS hW19 hb18 Gv2
 have HON_19 := hsetR hW19 (own_ne HON_18.out B2_18.out (by decide)) HON_18
 have HOV_19 := hsetR hW19 (own_ne HOV_18.out B2_18.out (by decide)) HOV_18
 have HOF_19 := hsetR hW19 (own_ne HOF_18.out B2_18.out (by decide)) HOF_18
 have B1_19 := hset hW19 Nv1v2.out B1_18
 have B3_19 := hset hW19 Nv2v3.out.symm B3_18
 have B2_19 := hput hW19 B2_18
 clear hb18 hW19
 obtain ⟨w20, hW20⟩ := exq (w19.setCell ⟨q2, 6, none⟩ (.int .i64 t))
 rw [← hW20]
 have hb20 := hbS hW20 hb19 Gv2
 have HON_20 := hsetR hW20 (own_ne HON_19.out B2_19.out (by decide)) HON_19
 have HOV_20 := hsetR hW20 (own_ne HOV_19.out B2_19.out (by decide)) HOV_19
 have HOF_20 := hsetR hW20 (own_ne HOF_19.out B2_19.out (by decide)) HOF_19
 have B1_20 := hset hW20 Nv1v2.out B1_19
 have B3_20 := hset hW20 Nv2v3.out.symm B3_19
 have B2_20 := hput hW20 B2_19
 clear hb19 hW20
 obtain ⟨w21, hW21⟩ := exq (w20.setCell ⟨q2, 7, none⟩ (.int .i64 ka))
 rw [← hW21]
 have hb21 := hbS hW21 hb20 Gv2
 have HON_21 := hsetR hW21 (own_ne HON_20.out B2_20.out (by decide)) HON_20
 have HOV_21 := hsetR hW21 (own_ne HOV_20.out B2_20.out (by decide)) HOV_20
 have HOF_21 := hsetR hW21 (own_ne HOF_20.out B2_20.out (by decide)) HOF_20
 have B1_21 := hset hW21 Nv1v2.out B1_20
 have B3_21 := hset hW21 Nv2v3.out.symm B3_20
 have B2_21 := hput hW21 B2_20
 clear hb20 hW21
 obtain ⟨w22, hW22⟩ := exq (w21.setCell ⟨q2, 8, none⟩ (.int .i64 kq))
 rw [← hW22]
 have hb22 := hbS hW22 hb21 Gv2
 have HON_22 := hsetR hW22 (own_ne HON_21.out B2_21.out (by decide)) HON_21
 have HOV_22 := hsetR hW22 (own_ne HOV_21.out B2_21.out (by decide)) HOV_21
 have HOF_22 := hsetR hW22 (own_ne HOF_21.out B2_21.out (by decide)) HOF_21
 have B1_22 := hset hW22 Nv1v2.out B1_21
 have B3_22 := hset hW22 Nv2v3.out.symm B3_21
 have B2_22 := hput hW22 B2_21
 clear hb21 hW22
 have kv2_0 := (k9c B2_22).1
 have kv2_1 := (k9c B2_22).2.1
 have kv2_2 := (k9c B2_22).2.2.1
 have kv2_3 := (k9c B2_22).2.2.2.1
 have kv2_4 := (k9c B2_22).2.2.2.2.1
 have kv2_5 := (k9c B2_22).2.2.2.2.2.1
 have kv2_6 := (k9c B2_22).2.2.2.2.2.2.1
 have kv2_7 := (k9c B2_22).2.2.2.2.2.2.2.1
 have kv2_8 := (k9c B2_22).2.2.2.2.2.2.2.2
 refine bodyPost_ret (v := .agg #[.string p, .slice oN n1 pN, .slice oV n2 pV, .int .i64 st, .slice oF n3 pF, .string b, .int .i64 t, .int .i64 ka, .int .i64 kq]) (by simp [results, Tryz.results88, go_sem, kv2_0, kv2_1, kv2_2, kv2_3, kv2_4, kv2_5, kv2_6, kv2_7, kv2_8]) rfl ?_
 exact ⟨_, _, _, rfl, ⟨HON_22.out, HOV_22.out, HOF_22.out, APX.out⟩, hb22⟩
theorem szKept_any (L : Int) (hL0 : 0 ≤ L) (hL1 : L ≤ 1048576) (p : Tx) (a1 : Oa) (n1 c1 : Nat) (xs : Ts) (a2 : Oa) (n2 c2 : Nat) (ys : Ts) (st : Int) (a3 : Oa) (n3 c3 : Nat) (fs : Fs) (b : Tx) (t ka kq : Int) (B : Nat) (w : World) (h1 : ArgT w B a1 n1 xs) (h2 : ArgT w B a2 n2 ys) (h3 : ArgF w B a3 n3 fs) (hB : B ≤ w.heap.size) (hn1 : n1 ≤ maxLen) (hn2 : n2 ≤ maxLen) (hn3 : n3 ≤ maxLen) (hs1 : ∀ i, i < n1 → (textAt xs i).size ≤ maxLen) (hs2 : ∀ i, i < n2 → (textAt ys i).size ≤ maxLen) (hs3 : WalkF n3 fs) (hp : p.size ≤ maxLen) (hx : b.size ≤ maxLen) :
  Calls Tryz.prog 59 #[.agg #[.string p, .slice a1 n1 c1, .slice a2 n2 c2, .int .i64 st, .slice a3 n3 c3, .string b, .int .i64 t, .int .i64 ka, .int .i64 kq], .int .i64 L] w fun e w' => SzObj L p n1 xs n2 ys n3 fs b w e w' := by
 have HA1 : Hid (∀ W, Below w.heap.size w W → ArgT W B a1 n1 xs) := fun W h => h1.below (h.mono hB)
 have HA2 : Hid (∀ W, Below w.heap.size w W → ArgT W B a2 n2 ys) := fun W h => h2.below (h.mono hB)
 have HA3 : Hid (∀ W, Below w.heap.size w W → ArgF W B a3 n3 fs) := fun W h => h3.below (h.mono hB)
 have HBB : Hid (∀ W, Below w.heap.size w W → B ≤ W.heap.size) := fun W h => Nat.le_trans hB h.size
 clear h1 h2 h3
 have HQ : Hid (n1 ≤ maxLen ∧ n2 ≤ maxLen ∧ n3 ≤ maxLen ∧ (∀ i, i < n1 → (textAt xs i).size ≤ maxLen) ∧ (∀ i, i < n2 → (textAt ys i).size ≤ maxLen) ∧ WalkF n3 fs ∧ p.size ≤ maxLen ∧ b.size ≤ maxLen) := ⟨hn1, hn2, hn3, hs1, hs2, hs3, hp, hx⟩
 clear hn1 hn2 hn3 hs1 hs2 hs3 hp hx
 have hb0 := Below.refl w.heap.size w
 go_enter Tryz.func59, Tryz.ntmps59
 go_upto_region 1 with fail
 obtain ⟨q1, hq1⟩ := exq (w.heap.size)
 obtain ⟨w1, hW1⟩ := exq (w.alloc (.cells #[.string p, .slice a1 n1 c1, .slice a2 n2 c2, .int .i64 st, .slice a3 n3 c3, .string b, .int .i64 t, .int .i64 ka, .int .i64 kq] 133))
 have hz1 := hq1.symm
 rw [← hW1]; try rw [← hq1]
 have hs1 := hsa hW1 hz1
 have bw := bal hW1
 have hb1 := hbt hb0 bw
 have B1_1 := hnew hW1 hz1
 clear hb0 bw hW1 hz1
 clear hs1 hq1
 have c1_0 := (k9c B1_1).1
 have c1_1 := (k9c B1_1).2.1
 have c1_2 := (k9c B1_1).2.2.1
 have c1_3 := (k9c B1_1).2.2.2.1
 have c1_4 := (k9c B1_1).2.2.2.2.1
 have c1_5 := (k9c B1_1).2.2.2.2.2.1
 have c1_6 := (k9c B1_1).2.2.2.2.2.2.1
 go_wp2_with fail
 refine (szObj_any L (by omega) (by omega) p a1 n1 c1 xs a2 n2 c2 ys st a3 n3 c3 fs b t B _ (HA1.out _ hb1) (HA2.out _ hb1) (HA3.out _ hb1) (HBB.out _ hb1) HQ.out.1 HQ.out.2.1 HQ.out.2.2.1 HQ.out.2.2.2.1 HQ.out.2.2.2.2.1 HQ.out.2.2.2.2.2.1 HQ.out.2.2.2.2.2.2.1 HQ.out.2.2.2.2.2.2.2).mono ?_
 rintro e w2 ⟨r1, rfl, hl1, hr1, bw⟩
 have HR1 := hid hr1
 clear hr1
 have hb2 := hbt hb1 bw
 have B1_2 := hblk B1_1 bw
 clear hb1 bw
 clear c1_0 c1_1 c1_2 c1_3 c1_4 c1_5 c1_6
 by_cases hc1 : r1 < 0
 rotate_left
 ·go_wp2_with fail
  go_ret
  exact ⟨r1, rfl, by omega, HR1.out, hb2⟩
 go_wp2_with fail
 go_ret
 exact ⟨-1, rfl, by omega, fun h => absurd h (by omega), hb2⟩
theorem eqKept_any (p : Tx) (n1 : Nat) (xs : Ts) (n2 : Nat) (ys : Ts) (st : Int) (n3 : Nat) (fs : Fs) (b : Tx) (t ka kq : Int) (v1 v2 v3 u1 u2 u3 : Value) (B1 B2 : Nat) (w : World) (hx : ObjO w B1 v1 n1 xs v2 n2 ys v3 n3 fs) (hy : ObjO w B2 u1 n1 xs u2 n2 ys u3 n3 fs) (hn1 : n1 ≤ 2000000) (hn2 : n2 ≤ 2000000) (hn3 : n3 ≤ 2000000) :
  Calls Tryz.prog 105 #[.agg #[.string p, v1, v2, .int .i64 st, v3, .string b, .int .i64 t, .int .i64 ka, .int .i64 kq], .agg #[.string p, u1, u2, .int .i64 st, u3, .string b, .int .i64 t, .int .i64 ka, .int .i64 kq]] w fun e w' => e = .returned (.bool true) ∧ Below w.heap.size w w' := by
 obtain ⟨oNx, pNx, rfl⟩ := slice_of_owns hx.names
 obtain ⟨oVx, pVx, rfl⟩ := slice_of_owns hx.vals
 obtain ⟨oFx, pFx, rfl⟩ := slice_of_owns hx.flds
 have HONx_0 : Hid (w.ownsRow B1 9 1 (.slice oNx n1 pNx) n1 (xs.map Value.string)) := hx.names
 have HOVx_0 : Hid (w.ownsRow B1 9 1 (.slice oVx n2 pVx) n2 (ys.map Value.string)) := hx.vals
 have HOFx_0 : Hid (w.ownsRow B1 185 2 (.slice oFx n3 pFx) n3 (flatF fs)) := hx.flds
 have APx : Hid (∀ j, (Value.slice oNx n1 pNx).ownBlock = some j → (Value.slice oVx n2 pVx).ownBlock ≠ some j) := hx.ne
 clear hx
 obtain ⟨oNy, pNy, rfl⟩ := slice_of_owns hy.names
 obtain ⟨oVy, pVy, rfl⟩ := slice_of_owns hy.vals
 obtain ⟨oFy, pFy, rfl⟩ := slice_of_owns hy.flds
 have HONy_0 : Hid (w.ownsRow B2 9 1 (.slice oNy n1 pNy) n1 (xs.map Value.string)) := hy.names
 have HOVy_0 : Hid (w.ownsRow B2 9 1 (.slice oVy n2 pVy) n2 (ys.map Value.string)) := hy.vals
 have HOFy_0 : Hid (w.ownsRow B2 185 2 (.slice oFy n3 pFy) n3 (flatF fs)) := hy.flds
 have APy : Hid (∀ j, (Value.slice oNy n1 pNy).ownBlock = some j → (Value.slice oVy n2 pVy).ownBlock ≠ some j) := hy.ne
 clear hy
 have hka : (ka != ka) = false := by simp
 have hkq : (kq != kq) = false := by simp
 have hb0 := Below.refl w.heap.size w
 go_enter Tryz.func105, Tryz.ntmps105
 go_upto_region 1 with fail
 obtain ⟨q1, hq1⟩ := exq (w.heap.size)
 obtain ⟨w1, hW1⟩ := exq (w.alloc (.cells #[.string p, .slice oNx n1 pNx, .slice oVx n2 pVx, .int .i64 st, .slice oFx n3 pFx, .string b, .int .i64 t, .int .i64 ka, .int .i64 kq] 145))
 have hz1 := hq1.symm
 rw [← hW1]; try rw [← hq1]
 have hs1 := hsa hW1 hz1
 have bw := bal hW1
 have hb1 := hbt hb0 bw
 have HONx_1 := hown HONx_0 bw
 have HOVx_1 := hown HOVx_0 bw
 have HOFx_1 := hown HOFx_0 bw
 have HONy_1 := hown HONy_0 bw
 have HOVy_1 := hown HOVy_0 bw
 have HOFy_1 := hown HOFy_0 bw
 have B1_1 := hnew hW1 hz1
 clear hb0 bw hW1 hz1
 obtain ⟨q2, hq2⟩ := exq (q1 + 1)
 obtain ⟨w2, hW2⟩ := exq (w1.alloc (.cells #[.string p, .slice oNy n1 pNy, .slice oVy n2 pVy, .int .i64 st, .slice oFy n3 pFy, .string b, .int .i64 t, .int .i64 ka, .int .i64 kq] 145))
 have hz2 : w1.heap.size = q2 := by rw [hq2]; exact hs1
 rw [← hW2]; try rw [← hq2]
 have hs2 := hsa hW2 hz2
 have bw := bal hW2
 have hb2 := hbt hb1 bw
 have HONx_2 := hown HONx_1 bw
 have HOVx_2 := hown HOVx_1 bw
 have HOFx_2 := hown HOFx_1 bw
 have HONy_2 := hown HONy_1 bw
 have HOVy_2 := hown HOVy_1 bw
 have HOFy_2 := hown HOFy_1 bw
 have B1_2 := hblk B1_1 bw
 have B2_2 := hnew hW2 hz2
 clear hb1 bw hW2 hz2
 clear hs2 hq2 hs1 hq1
 have c1_0 := (k9c B1_2).1
 have c1_1 := (k9c B1_2).2.1
 have c1_2 := (k9c B1_2).2.2.1
 have c1_3 := (k9c B1_2).2.2.2.1
 have c1_4 := (k9c B1_2).2.2.2.2.1
 have c1_5 := (k9c B1_2).2.2.2.2.2.1
 have c1_6 := (k9c B1_2).2.2.2.2.2.2.1
 have c2_0 := (k9c B2_2).1
 have c2_1 := (k9c B2_2).2.1
 have c2_2 := (k9c B2_2).2.2.1
 have c2_3 := (k9c B2_2).2.2.2.1
 have c2_4 := (k9c B2_2).2.2.2.2.1
 have c2_5 := (k9c B2_2).2.2.2.2.2.1
 have c2_6 := (k9c B2_2).2.2.2.2.2.2.1
 go_wp2_with fail
 refine (eqObj_any p n1 xs n2 ys st n3 fs b t _ _ _ _ _ _ _ _ _ ⟨HONx_2.out, HOVx_2.out, HOFx_2.out, APx.out⟩ ⟨HONy_2.out, HOVy_2.out, HOFy_2.out, APy.out⟩ hn1 hn2 hn3).mono ?_
 rintro e w3 ⟨rfl, bw⟩
 have hb3 := hbt hb2 bw
 have HONx_3 := hown HONx_2 bw
 have HOVx_3 := hown HOVx_2 bw
 have HOFx_3 := hown HOFx_2 bw
 have HONy_3 := hown HONy_2 bw
 have HOVy_3 := hown HOVy_2 bw
 have HOFy_3 := hown HOFy_2 bw
 have B1_3 := hblk B1_2 bw
 have B2_3 := hblk B2_2 bw
 clear hb2 bw
 clear c1_0 c1_1 c1_2 c1_3 c1_4 c1_5 c1_6 c2_0 c2_1 c2_2 c2_3 c2_4 c2_5 c2_6
 have c1_7 := (k9c B1_3).2.2.2.2.2.2.2.1
 have c2_7 := (k9c B2_3).2.2.2.2.2.2.2.1
 have c1_8 := (k9c B1_3).2.2.2.2.2.2.2.2
 have c2_8 := (k9c B2_3).2.2.2.2.2.2.2.2
 go_wp2_with fail
 go_ret
 exact ⟨rfl, hb3⟩
def KpArg (w : World) (B b off i : Nat) (k : KpD) : Prop :=
 ∃ (a1 : Oa) (n1 c1 : Nat) (a2 : Oa) (n2 c2 : Nat) (a3 : Oa) (n3 c3 : Nat), (w.cell? ⟨b, off + i * 9, none⟩ = some (.string k.p) ∧ w.cell? ⟨b, off + i * 9 + 1, none⟩ = some (.slice a1 n1 c1) ∧ w.cell? ⟨b, off + i * 9 + 2, none⟩ = some (.slice a2 n2 c2) ∧ w.cell? ⟨b, off + i * 9 + 3, none⟩ = some (.int .i64 k.st) ∧ w.cell? ⟨b, off + i * 9 + 4, none⟩ = some (.slice a3 n3 c3) ∧ w.cell? ⟨b, off + i * 9 + 5, none⟩ = some (.string k.b) ∧ w.cell? ⟨b, off + i * 9 + 6, none⟩ = some (.int .i64 k.t) ∧ w.cell? ⟨b, off + i * 9 + 7, none⟩ = some (.int .i64 k.a) ∧ w.cell? ⟨b, off + i * 9 + 8, none⟩ = some (.int .i64 k.q)) ∧ ArgT w B a1 n1 k.xs ∧ ArgT w B a2 n2 k.ys ∧ ArgF w B a3 n3 k.fs
def ArgKept (w : World) (B : Nat) (a : Oa) (n : Nat) (ks : List KpD) : Prop :=
 ks.length = n ∧ ∀ i, i < n → ∃ b off, a = some ⟨b, off, none⟩ ∧ b < B ∧ KpArg w B b off i (kpAt ks i)
theorem ArgKept.below {w w' : World} {B : Nat} {a : Oa} {n : Nat} {ks : List KpD} (h : ArgKept w B a n ks) (hb : Below B w w') : ArgKept w' B a n ks :=
 ⟨h.1, fun i hi => by
  obtain ⟨b, off, h1, h2, a1, n1, c1, a2, n2, c2, a3, n3, c3, ⟨r0, r1, r2, r3, r4, r5, r6, r7, r8⟩, g1, g2, g3⟩ := h.2 i hi
  exact ⟨b, off, h1, h2, a1, n1, c1, a2, n2, c2, a3, n3, c3, ⟨by rw [hb.cell (p := ⟨b, off + i * 9, none⟩) h2]; exact r0, by rw [hb.cell (p := ⟨b, off + i * 9 + 1, none⟩) h2]; exact r1, by rw [hb.cell (p := ⟨b, off + i * 9 + 2, none⟩) h2]; exact r2, by rw [hb.cell (p := ⟨b, off + i * 9 + 3, none⟩) h2]; exact r3, by rw [hb.cell (p := ⟨b, off + i * 9 + 4, none⟩) h2]; exact r4, by rw [hb.cell (p := ⟨b, off + i * 9 + 5, none⟩) h2]; exact r5, by rw [hb.cell (p := ⟨b, off + i * 9 + 6, none⟩) h2]; exact r6, by rw [hb.cell (p := ⟨b, off + i * 9 + 7, none⟩) h2]; exact r7, by rw [hb.cell (p := ⟨b, off + i * 9 + 8, none⟩) h2]; exact r8⟩, g1.below hb, g2.below hb, g3.below hb⟩⟩
def KpMax (k : KpD) : Prop := k.xs.length ≤ maxLen ∧ k.ys.length ≤ maxLen ∧ k.fs.length ≤ maxLen ∧ (∀ i, i < k.xs.length → (textAt k.xs i).size ≤ maxLen) ∧ (∀ i, i < k.ys.length → (textAt k.ys i).size ≤ maxLen) ∧ WalkF k.fs.length k.fs ∧ k.p.size ≤ maxLen ∧ k.b.size ≤ maxLen
def KpSmall (k : KpD) : Prop := (k.p.size ≤ 1048576 ∧ k.b.size ≤ 1048576) ∧ (k.xs.length ≤ 1048576 ∧ ∀ i, i < k.xs.length → (textAt k.xs i).size ≤ 1048576) ∧ (k.ys.length ≤ 1048576 ∧ ∀ i, i < k.ys.length → (textAt k.ys i).size ≤ 1048576) ∧ k.fs.length ≤ 1048576 ∧ szTo k.fs k.fs.length ≤ 1048576
def wtK : List KpD → Nat
 | [] => 0
 | k :: r => 1 + k.xs.length + k.ys.length + k.fs.length + wtK r
theorem wtK_snoc (k : KpD) : ∀ l : List KpD, wtK (l ++ [k]) = wtK l + (1 + k.xs.length + k.ys.length + k.fs.length)
 | [] => by simp [wtK]
 | x :: l => by rw [List.cons_append, wtK, wtK_snoc k l, wtK]; omega
theorem objO_rows {w : World} {B : Nat} {v1 v2 v3 : Value} {k : KpD} (h : ObjO w B v1 k.xs.length k.xs v2 k.ys.length k.ys v3 k.fs.length k.fs) : RowsO w B (kpR (k, v1, v2, v3)) := by
 refine ⟨fun r hr => ?_, ?_⟩
 ·simp only [kpR, List.mem_cons, List.not_mem_nil, or_false] at hr
  rcases hr with rfl | rfl | rfl
  · exact h.names
  · exact h.vals
  · exact h.flds
 ·unfold kpR
  refine List.pairwise_cons.2 ⟨fun r hr => ?_, List.pairwise_cons.2 ⟨fun r hr => ?_, List.pairwise_singleton _ _⟩⟩
  ·simp only [List.mem_cons, List.not_mem_nil, or_false] at hr
   rcases hr with rfl | rfl
   · exact fun g hg => h.ne g hg
   · exact fun g hg => own_two h.names h.flds (by decide) hg
  ·rw [List.mem_singleton.1 hr]
   exact fun g hg => own_two h.vals h.flds (by decide) hg
theorem rows_objO {w : World} {B : Nat} {x : KpD × Value × Value × Value} (h : RowsO w B (kpR x)) : ObjO w B x.2.1 x.1.xs.length x.1.xs x.2.2.1 x.1.ys.length x.1.ys x.2.2.2 x.1.fs.length x.1.fs := by
 have hp := h.apart
 unfold kpR at hp
 exact ⟨h.own (kpN x) (by simp [kpR]), h.own (kpV x) (by simp [kpR]), h.own (kpF x) (by simp [kpR]), fun g hg => (List.pairwise_cons.1 hp).1 (kpV x) (by simp) g hg⟩
def SzKeptS (L : Int) (ks : List KpD) (w : World) (e : Ending) (w' : World) : Prop :=
 ∃ r : Int, e = .returned (.int .i64 r) ∧ r ≤ L ∧ (0 ≤ r → r + (wtK ks : Int) ≤ L ∧ ∀ k ∈ ks, KpSmall k) ∧ Below w.heap.size w w'
theorem szKeptS_any (L : Int) (hL0 : 0 ≤ L) (hL1 : L ≤ 1048576) (B : Nat) (a : Oa) (n cap : Nat) (ks : List KpD) (w : World) (harg : ArgKept w B a n ks) (hB : B ≤ w.heap.size) (hn : n ≤ maxLen) (hsz : ∀ k ∈ ks, KpMax k) :
  Calls Tryz.prog 26 #[.slice a n cap, .int .i64 L] w fun e w' => SzKeptS L ks w e w' := by
 unfold maxLen at hn
 have HS := hid hsz
 have HLN : Hid (ks.length = n) := harg.1
 have HA : Hid (∀ W, Below w.heap.size w W → ArgKept W B a n ks) := fun W h => harg.below (h.mono hB)
 have HBB : Hid (∀ W, Below w.heap.size w W → B ≤ W.heap.size) := fun W h => Nat.le_trans hB h.size
 clear hsz harg hB
 by_cases c1 : L - (n : Int) < 0
 ·go_enter Tryz.func26, Tryz.ntmps26
  go_wp2
  go_ret
  exact ⟨-1, rfl, by omega, fun h => absurd h (by omega), Below.refl _ _⟩
 go_enter Tryz.func26, Tryz.ntmps26
 go_wp2
 go_loopw [1, 5] (fun lf i wr => ∃ (k : Nat) (x : Int), k ≤ n ∧ i = .int .i64 (k : Int) ∧ lf = .int .i64 x ∧ 0 ≤ x ∧ x ≤ L ∧ Hid (x + (wtK (ks.take k) : Int) + ((n : Int) - (k : Int)) ≤ L ∧ ∀ y ∈ ks.take k, KpSmall y) ∧ Hid (Below w.heap.size w wr)) (fun _ i _ => n - (intOf i).toNat)
 case atStart => exact ⟨0, _, Nat.zero_le _, rfl, rfl, by omega, by omega, ⟨by simp [wtK], fun x hx => by simp at hx⟩, Below.refl _ _⟩
 case round =>
  obtain ⟨k, x, hk, rfl, rfl, hx0, hx1, HX, HBW⟩ := hrel
  by_cases hlt : k < n
  rotate_left
  ·have HF : Hid (x + (wtK ks : Int) ≤ L ∧ ∀ k ∈ ks, KpSmall k) := by
    obtain ⟨m1, m2⟩ := HX.out
    rw [List.take_of_length_le (by rw [HLN.out]; omega)] at m1 m2
    exact ⟨by omega, m2⟩
   go_wp2
   go_ret
   exact ⟨x, rfl, by omega, fun _ => HF.out, HBW.out⟩
  have hlt2 : (k : Int) < (n : Int) := by omega
  obtain ⟨b, off, rfl, hbB, a1, n1, c1, a2, n2, c2, a3, n3, c3, ⟨r0, r1, r2, r3, r4, r5, r6, r7, r8⟩, g1, g2, g3⟩ := (HA.out wr HBW.out).2 k hlt
  obtain ⟨y, hy⟩ := exq (kpAt ks k)
  have HM : Hid (y ∈ ks) := by show _ ∈ _; rw [hy]; exact kpAt_mem ks k (by rw [HLN.out]; exact hlt)
  have HTK : Hid (ks.take (k + 1) = ks.take k ++ [y]) := by show _ = _; rw [hy]; exact kpAt_take ks k (by rw [HLN.out]; exact hlt)
  rw [← hy] at r0 r3 r5 r6 r7 r8 g1 g2 g3
  have HG1 := hid g1
  have HG2 := hid g2
  have HG3 := hid g3
  clear hy g1 g2 g3
  go_wp2_with fail
  refine (szKept_any x hx0 (by omega) y.p a1 n1 c1 y.xs a2 n2 c2 y.ys y.st a3 n3 c3 y.fs y.b y.t y.a y.q B _ HG1.out HG2.out HG3.out (HBB.out _ HBW.out) (by rw [← HG1.out.len]; exact (HS.out y HM.out).1) (by rw [← HG2.out.len]; exact (HS.out y HM.out).2.1) (by rw [← HG3.out.len]; exact (HS.out y HM.out).2.2.1) (by rw [← HG1.out.len]; exact (HS.out y HM.out).2.2.2.1) (by rw [← HG2.out.len]; exact (HS.out y HM.out).2.2.2.2.1) (by rw [← HG3.out.len]; exact (HS.out y HM.out).2.2.2.2.2.1) (HS.out y HM.out).2.2.2.2.2.2.1 (HS.out y HM.out).2.2.2.2.2.2.2).mono ?_
  rintro e w1 ⟨r, rfl, hr1, hr2, bw⟩
  have HB2 : Hid (Below w.heap.size w w1) := HBW.out.trans (bw.mono HBW.out.size)
  clear r0 r1 r2 r3 r4 r5 r6 r7 r8 bw
  by_cases d1 : r < 0
  ·clear hr2
   go_wp2
   go_ret
   exact ⟨-1, rfl, by omega, fun h => absurd h (by omega), HB2.out⟩
  have HX2 : Hid (r + (wtK (ks.take (k + 1)) : Int) + ((n : Int) - ((k + 1 : Nat) : Int)) ≤ L ∧ ∀ y ∈ ks.take (k + 1), KpSmall y) := by
   obtain ⟨q1, q2, q3, q4, q5, q6⟩ := hr2 (by omega)
   obtain ⟨m1, m2⟩ := HX.out
   rw [← HG1.out.len] at q1 q3
   rw [← HG2.out.len] at q1 q4
   rw [← HG3.out.len] at q1 q5 q6
   refine ⟨?_, fun z hz => ?_⟩
   ·rw [HTK.out, wtK_snoc]
    omega
   ·rw [HTK.out] at hz
    rcases List.mem_append.1 hz with hz | hz
    · exact m2 z hz
    · rw [List.mem_singleton.1 hz]; exact ⟨q2, q3, q4, q5, q6⟩
  clear hr2
  go_wp2
  go_roundw
  case rel => exact ⟨k + 1, r, by omega, by go_num, rfl, by omega, by omega, HX2, HB2⟩
  case measure => simp [intOf]; omega
theorem infoKept : (Tryz.prog.info? 145).map (fun i => (i.zero, i.size, i.bytes)) = some (some (.agg #[.string ⟨#[]⟩, .slice none 0 0, .slice none 0 0, .int .i64 0, .slice none 0 0, .string ⟨#[]⟩, .int .i64 0, .int .i64 0, .int .i64 0]), 9, 136) := by kernel_rfl
def KeptIs (ks : List KpD) (w : World) (e : Ending) (w' : World) : Prop := ∃ (V : Value) (kv : Ks), e = .returned V ∧ kv.map (·.1) = ks ∧ KeptsO w' w.heap.size V kv ∧ Below w.heap.size w w'
theorem KeptsO.obj {w : World} {base : Nat} {V : Value} {kv : Ks} (h : KeptsO w base V kv) {x : KpD × Value × Value × Value} (hx : x ∈ kv) : RowsO w base (kpR x) := by
 obtain ⟨s, t, e⟩ := List.append_of_mem hx
 refine RowsO.sub h ?_
 unfold kpAll
 rw [e, List.flatMap_append, List.flatMap_cons]
 exact ((List.sublist_append_left _ _).trans (List.sublist_append_right _ _)).trans (List.sublist_cons_self _ _)
theorem parts_kept {w : World} {g n base : Nat} {kv : Ks} (hp : PartO kpC 9 145 w g n kv) (hl : kv.length = n) (hm : n ≤ maxLen) (hb : base ≤ g) (hr : RowsO w (g + 1) (kv.flatMap kpR)) : KeptsO w base (.slice (some ⟨g, 0, none⟩) n n) kv := by
 have hrow : (kpRow (.slice (some ⟨g, 0, none⟩) n n) kv).own w base := by
  have h := hp.owns kpC_len (by decide) hl hm hb
  unfold Rw.own kpRow
  rw [hl]
  exact h
 refine ⟨fun r h => ?_, List.pairwise_cons.2 ⟨fun r h g' h1 h2 => ?_, hr.apart⟩⟩
 ·rcases List.mem_cons.1 h with h | h
  · rw [h]; exact hrow
  · exact owns_wide (hr.own r h) (by omega)
 ·have e1 : some g = some g' := h1
  have e2 := hr.ge h h2
  have e3 := Option.some.inj e1
  omega
theorem toKeptS_any (B : Nat) (a : Oa) (n cap : Nat) (ks : List KpD) (w : World) (harg : ArgKept w B a n ks) (hB : B ≤ w.heap.size) (hn : n ≤ 1048576) (hsm : ∀ k ∈ ks, k.xs.length ≤ 1048576 ∧ k.ys.length ≤ 1048576 ∧ k.fs.length ≤ 1048576) :
  Calls Tryz.prog 43 #[.slice a n cap] w fun e w' => KeptIs ks w e w' := by
 obtain ⟨i0, hi, hz0, hz1, hz2⟩ := info_parts infoKept
 obtain ⟨M, hM⟩ : ∃ M, M = madeCells (Value.agg #[.string ⟨#[]⟩, .slice none 0 0, .slice none 0 0, .int .i64 0, .slice none 0 0, .string ⟨#[]⟩, .int .i64 0, .int .i64 0, .int .i64 0]).cells (((n : Nat) : Int).toNat * i0.size) := ⟨_, rfl⟩
 have hmk : ∀ W : World, (Instr.makeSlice 40 (.int .i64 (n : Int)) (.int .i64 (n : Int))).run Tryz.prog W = .ok (.slice (some ⟨W.heap.size, 0, none⟩) n n) (W.alloc (.cells M 145)) := fun W => by
  have h := run_make (P := Tryz.prog) W 40 145 i0 (.agg #[.string ⟨#[]⟩, .slice none 0 0, .slice none 0 0, .int .i64 0, .slice none 0 0, .string ⟨#[]⟩, .int .i64 0, .int .i64 0, .int .i64 0]) Tryz.underlying40 hi hz0 .i64 .i64 (n : Int) (n : Int) (by omega) (by omega) (by rw [hz2]; omega) (by omega)
  rw [← hM] at h
  simpa using h
 have hMs : M.size = n * 9 := by rw [hM, size_madeCells, hz1]; simp
 have HLN : Hid (ks.length = n) := harg.1
 have HSM := hid hsm
 have HA : Hid (∀ W, Below w.heap.size w W → ArgKept W B a n ks) := fun W h => harg.below (h.mono hB)
 have HBB : Hid (∀ W, Below w.heap.size w W → B ≤ W.heap.size) := fun W h => Nat.le_trans hB h.size
 clear hM harg hsm hB
 obtain ⟨g, hg⟩ := exq (w.heap.size)
 have HG : Hid (w.heap.size = g) := hg.symm
 have HP : Hid (([] : Ks).length = 0 ∧ ([] : Ks).map (·.1) = ks.take 0 ∧ PartO kpC 9 145 (w.alloc (.cells M 145)) g n [] ∧ RowsO (w.alloc (.cells M 145)) (g + 1) (([] : Ks).flatMap kpR)) := ⟨rfl, by simp, ⟨M, by rw [hg]; exact heap_alloc_new w _, hMs, fun i h => absurd h (by simp)⟩, RowsO.nil _ _⟩
 have HPB : Hid (Below w.heap.size w (w.alloc (.cells M 145))) := (Below.refl _ _).alloc (Nat.le_refl _) _
 go_enter Tryz.func43, Tryz.ntmps43
 go_wp2
 rw [HG.out]
 clear hg hMs
 go_loopw [4] (fun i wr => ∃ (k : Nat) (kv : Ks), k ≤ n ∧ i = .int .i64 (k : Int) ∧ Hid (kv.length = k ∧ kv.map (·.1) = ks.take k ∧ PartO kpC 9 145 wr g n kv ∧ RowsO wr (g + 1) (kv.flatMap kpR)) ∧ Hid (Below w.heap.size w wr)) (fun i _ => n - (intOf i).toNat)
 case atStart => exact ⟨0, [], Nat.zero_le _, rfl, HP, HPB⟩
 case round =>
  obtain ⟨k, kv, hk, rfl, hpr, HBW⟩ := hrel
  by_cases hlt : k < n
  rotate_left
  ·obtain rfl : k = n := by omega
   obtain ⟨q1, q2, q3, q4⟩ := hpr.out
   have HF : Hid (kv.map (·.1) = ks ∧ KeptsO wr w.heap.size (.slice (some ⟨g, 0, none⟩) k k) kv) := by
    refine ⟨?_, parts_kept q3 q1 (by unfold maxLen; omega) (by rw [HG.out]; exact Nat.le_refl _) q4⟩
    rw [q2, List.take_of_length_le (by rw [HLN.out]; exact Nat.le_refl _)]
   clear q1 q2 q3 q4
   go_wp2
   go_ret
   exact ⟨_, kv, rfl, HF.out.1, HF.out.2, HBW.out⟩
  have hlt2 : (k : Int) < (n : Int) := by omega
  obtain ⟨b, off, rfl, hbB, a1, n1, c1, a2, n2, c2, a3, n3, c3, ⟨r0, r1, r2, r3, r4, r5, r6, r7, r8⟩, g1, g2, g3⟩ := (HA.out wr HBW.out).2 k hlt
  obtain ⟨y, hy⟩ := exq (kpAt ks k)
  have HM : Hid (y ∈ ks) := by show _ ∈ _; rw [hy]; exact kpAt_mem ks k (by rw [HLN.out]; exact hlt)
  have HTK : Hid (ks.take (k + 1) = ks.take k ++ [y]) := by show _ = _; rw [hy]; exact kpAt_take ks k (by rw [HLN.out]; exact hlt)
  rw [← hy] at r0 r3 r5 r6 r7 r8 g1 g2 g3
  have HG1 := hid g1
  have HG2 := hid g2
  have HG3 := hid g3
  clear hy g1 g2 g3
  go_wp2_with fail
  refine (toKept_any y.p a1 n1 c1 y.xs a2 n2 c2 y.ys y.st a3 n3 c3 y.fs y.b y.t y.a y.q B _ HG1.out HG2.out HG3.out (HBB.out _ HBW.out) (by rw [← HG1.out.len]; exact (HSM.out y HM.out).1) (by rw [← HG2.out.len]; exact (HSM.out y HM.out).2.1) (by rw [← HG3.out.len]; exact (HSM.out y HM.out).2.2)).mono ?_
  rintro e w1 ⟨v1, v2, v3, rfl, hobj, bw⟩
  clear r0 r1 r2 r3 r4 r5 r6 r7 r8
  obtain ⟨o1, p1, rfl⟩ := slice_of_owns hobj.names
  obtain ⟨o2, p2, rfl⟩ := slice_of_owns hobj.vals
  obtain ⟨o3, p3, rfl⟩ := slice_of_owns hobj.flds
  obtain ⟨q1, q2, q3, q4⟩ := hpr.out
  have hgl : g < wr.heap.size := q3.lt
  have HB2 : Hid (Below w.heap.size w w1) := HBW.out.trans (bw.mono HBW.out.size)
  have hpr1 := q3.below bw
  obtain ⟨x, hx⟩ : ∃ x : KpD × Value × Value × Value, x = (y, .slice o1 n1 p1, .slice o2 n2 p2, .slice o3 n3 p3) := ⟨_, rfl⟩
  have hnew : RowsO w1 wr.heap.size (kpR x) := by
   rw [hx]
   apply objO_rows
   rw [HG1.out.len, HG2.out.len, HG3.out.len]
   exact hobj
  have hall : RowsO w1 (g + 1) (kv.flatMap kpR ++ kpR x) := q4.more bw hnew (Nat.le_refl _) hgl
  have HALL : Hid ((kv ++ [x]).length = k + 1 ∧ (kv ++ [x]).map (·.1) = ks.take (k + 1) ∧ PartO kpC 9 145 (setW w1 g (k * 9) (kpC x)) g n (kv ++ [x]) ∧ RowsO (setW w1 g (k * 9) (kpC x)) (g + 1) ((kv ++ [x]).flatMap kpR)) := by
   refine ⟨by rw [List.length_append, q1]; rfl, by rw [List.map_append, q2, HTK.out, hx]; rfl, ?_, ?_⟩
   ·have h := hpr1.put kpC_len x (by omega)
    rw [q1] at h
    exact h
   ·rw [List.flatMap_append]
    have h2 : RowsO (setW w1 g (k * 9) (kpC x)) (g + 1) (kv.flatMap kpR ++ kpR x) := hall.same (fun r hr j hj => setW_other g j (by have := hall.ge hr hj; omega) _ _ _)
    simpa using h2
  have HBE : Hid (Below w.heap.size w (setW w1 g (k * 9) (kpC x))) := setW_below (by rw [HG.out]; exact Nat.le_refl _) _ _ _ _ HB2.out
  rw [hx] at HALL HBE
  obtain ⟨u0, hu0⟩ := hpr1.cell (k * 9) (by omega)
  have f0 := hpr1.frozen (k * 9)
  obtain ⟨u1, hu1⟩ := hpr1.cell (k * 9 + 1) (by omega)
  have f1 := hpr1.frozen (k * 9 + 1)
  obtain ⟨u2, hu2⟩ := hpr1.cell (k * 9 + 2) (by omega)
  have f2 := hpr1.frozen (k * 9 + 2)
  obtain ⟨u3, hu3⟩ := hpr1.cell (k * 9 + 3) (by omega)
  have f3 := hpr1.frozen (k * 9 + 3)
  obtain ⟨u4, hu4⟩ := hpr1.cell (k * 9 + 4) (by omega)
  have f4 := hpr1.frozen (k * 9 + 4)
  obtain ⟨u5, hu5⟩ := hpr1.cell (k * 9 + 5) (by omega)
  have f5 := hpr1.frozen (k * 9 + 5)
  obtain ⟨u6, hu6⟩ := hpr1.cell (k * 9 + 6) (by omega)
  have f6 := hpr1.frozen (k * 9 + 6)
  obtain ⟨u7, hu7⟩ := hpr1.cell (k * 9 + 7) (by omega)
  have f7 := hpr1.frozen (k * 9 + 7)
  obtain ⟨u8, hu8⟩ := hpr1.cell (k * 9 + 8) (by omega)
  have f8 := hpr1.frozen (k * 9 + 8)
  clear hpr1 hall hnew hx q1 q2 q3 q4 hobj bw hpr
  go_wp2
  go_roundw
  case rel => exact ⟨k + 1, _, by omega, by go_num, HALL, HBE⟩
  case measure => simp [intOf]; omega
theorem eqKeptS_any (V1 V2 : Value) (kv1 kv2 : Ks) (B1 B2 : Nat) (w : World) (he : kv1.map (·.1) = kv2.map (·.1)) (h1 : KeptsO w B1 V1 kv1) (h2 : KeptsO w B2 V2 kv2) (hn : kv1.length ≤ 2000000) (hs : ∀ x ∈ kv1, x.1.xs.length ≤ 2000000 ∧ x.1.ys.length ≤ 2000000 ∧ x.1.fs.length ≤ 2000000) :
  Calls Tryz.prog 52 #[V1, V2] w fun e w' => e = .returned (.bool true) ∧ Below w.heap.size w w' := by
 have hlen : kv2.length = kv1.length := by have := congrArg List.length he; simpa using this.symm
 obtain ⟨n, hnn⟩ := exq kv1.length
 obtain ⟨o1, c1, e1⟩ := h1.len
 obtain ⟨o2, c2, e2⟩ := h2.len
 rw [← hnn] at e1 hn
 rw [hlen, ← hnn] at e2
 subst e1 e2
 have HL1 : Hid (kv1.length = n) := hnn.symm
 have HL2 : Hid (kv2.length = n) := hlen.trans hnn.symm
 have HE := hid he
 have HS := hid hs
 have H1 : Hid (∀ W, Below w.heap.size w W → KeptsO W B1 (.slice o1 n c1) kv1) := fun W h => h1.below h
 have H2 : Hid (∀ W, Below w.heap.size w W → KeptsO W B2 (.slice o2 n c2) kv2) := fun W h => h2.below h
 clear h1 h2 hlen hnn he hs
 go_enter Tryz.func52, Tryz.ntmps52
 go_wp2
 go_loopw [5] (fun i wr => ∃ k : Nat, k ≤ n ∧ i = .int .i64 (k : Int) ∧ Hid (Below w.heap.size w wr)) (fun i _ => n - (intOf i).toNat)
 case atStart => exact ⟨0, Nat.zero_le _, rfl, Below.refl _ _⟩
 case round =>
  obtain ⟨k, hk, rfl, HBW⟩ := hrel
  by_cases hlt : k < n
  rotate_left
  ·go_wp2
   go_ret
   exact ⟨rfl, HBW.out⟩
  have hlt2 : (k : Int) < (n : Int) := by omega
  obtain ⟨g1, cp1, ev1, hg1, at1⟩ := (H1.out wr HBW.out).at k (by rw [HL1.out]; exact hlt)
  obtain ⟨g2, cp2, ev2, hg2, at2⟩ := (H2.out wr HBW.out).at k (by rw [HL2.out]; exact hlt)
  obtain rfl : o1 = some ⟨g1, 0, none⟩ := (Value.slice.inj ev1).1
  obtain rfl : o2 = some ⟨g2, 0, none⟩ := (Value.slice.inj ev2).1
  have exy : (kv1[k]'(by rw [HL1.out]; exact hlt)).1 = (kv2[k]'(by rw [HL2.out]; exact hlt)).1 := by
   have h := congrArg (fun l : List KpD => l[k]?) HE.out
   simpa [List.getElem?_map, List.getElem?_eq_getElem (show k < kv1.length by rw [HL1.out]; exact hlt), List.getElem?_eq_getElem (show k < kv2.length by rw [HL2.out]; exact hlt)] using h
  have m1 : kv1[k]'(by rw [HL1.out]; exact hlt) ∈ kv1 := List.getElem_mem _
  have m2 : kv2[k]'(by rw [HL2.out]; exact hlt) ∈ kv2 := List.getElem_mem _
  generalize kv1[k]'(by rw [HL1.out]; exact hlt) = x at at1 exy m1
  generalize kv2[k]'(by rw [HL2.out]; exact hlt) = y at at2 exy m2
  obtain ⟨d, v1, v2, v3⟩ := x
  obtain ⟨d', u1, u2, u3⟩ := y
  obtain rfl : d = d' := exy
  have HO1 : Hid (∀ W, Below wr.heap.size wr W → ObjO W B1 v1 d.xs.length d.xs v2 d.ys.length d.ys v3 d.fs.length d.fs) := fun W h => rows_objO (((H1.out wr HBW.out).below h).obj m1)
  have HO2 : Hid (∀ W, Below wr.heap.size wr W → ObjO W B2 u1 d.xs.length d.xs u2 d.ys.length d.ys u3 d.fs.length d.fs) := fun W h => rows_objO (((H2.out wr HBW.out).below h).obj m2)
  have HSZ : Hid (d.xs.length ≤ 2000000 ∧ d.ys.length ≤ 2000000 ∧ d.fs.length ≤ 2000000) := HS.out _ m1
  have a0 := at1.c0
  have a1 := at1.c1
  have a2 := at1.c2
  have a3 := at1.c3
  have a4 := at1.c4
  have a5 := at1.c5
  have a6 := at1.c6
  have a7 := at1.c7
  have a8 := at1.c8
  have b0 := at2.c0
  have b1 := at2.c1
  have b2 := at2.c2
  have b3 := at2.c3
  have b4 := at2.c4
  have b5 := at2.c5
  have b6 := at2.c6
  have b7 := at2.c7
  have b8 := at2.c8
  clear at1 at2 m1 m2 ev1 ev2
  have HA : Hid (∀ w0 w1, Below wr.heap.size wr w0 → Below w0.heap.size w0 w1 → (w1.cell? ⟨g1, k * 9, none⟩ = some (.string d.p) ∧ w1.cell? ⟨g1, k * 9 + 1, none⟩ = some (v1) ∧ w1.cell? ⟨g1, k * 9 + 2, none⟩ = some (v2) ∧ w1.cell? ⟨g1, k * 9 + 3, none⟩ = some (.int .i64 d.st) ∧ w1.cell? ⟨g1, k * 9 + 4, none⟩ = some (v3) ∧ w1.cell? ⟨g1, k * 9 + 5, none⟩ = some (.string d.b) ∧ w1.cell? ⟨g1, k * 9 + 6, none⟩ = some (.int .i64 d.t) ∧ w1.cell? ⟨g1, k * 9 + 7, none⟩ = some (.int .i64 d.a) ∧ w1.cell? ⟨g1, k * 9 + 8, none⟩ = some (.int .i64 d.q) ∧ w1.cell? ⟨g2, k * 9, none⟩ = some (.string d.p) ∧ w1.cell? ⟨g2, k * 9 + 1, none⟩ = some (u1) ∧ w1.cell? ⟨g2, k * 9 + 2, none⟩ = some (u2) ∧ w1.cell? ⟨g2, k * 9 + 3, none⟩ = some (.int .i64 d.st) ∧ w1.cell? ⟨g2, k * 9 + 4, none⟩ = some (u3) ∧ w1.cell? ⟨g2, k * 9 + 5, none⟩ = some (.string d.b) ∧ w1.cell? ⟨g2, k * 9 + 6, none⟩ = some (.int .i64 d.t) ∧ w1.cell? ⟨g2, k * 9 + 7, none⟩ = some (.int .i64 d.a) ∧ w1.cell? ⟨g2, k * 9 + 8, none⟩ = some (.int .i64 d.q)) ∧ Below wr.heap.size wr w1) := fun w0 w1 h h' => by
   have hx := h.trans (h'.mono h.size)
   exact ⟨⟨by rw [hx.cell (p := ⟨g1, k * 9, none⟩) hg1]; exact a0, by rw [hx.cell (p := ⟨g1, k * 9 + 1, none⟩) hg1]; exact a1, by rw [hx.cell (p := ⟨g1, k * 9 + 2, none⟩) hg1]; exact a2, by rw [hx.cell (p := ⟨g1, k * 9 + 3, none⟩) hg1]; exact a3, by rw [hx.cell (p := ⟨g1, k * 9 + 4, none⟩) hg1]; exact a4, by rw [hx.cell (p := ⟨g1, k * 9 + 5, none⟩) hg1]; exact a5, by rw [hx.cell (p := ⟨g1, k * 9 + 6, none⟩) hg1]; exact a6, by rw [hx.cell (p := ⟨g1, k * 9 + 7, none⟩) hg1]; exact a7, by rw [hx.cell (p := ⟨g1, k * 9 + 8, none⟩) hg1]; exact a8, by rw [hx.cell (p := ⟨g2, k * 9, none⟩) hg2]; exact b0, by rw [hx.cell (p := ⟨g2, k * 9 + 1, none⟩) hg2]; exact b1, by rw [hx.cell (p := ⟨g2, k * 9 + 2, none⟩) hg2]; exact b2, by rw [hx.cell (p := ⟨g2, k * 9 + 3, none⟩) hg2]; exact b3, by rw [hx.cell (p := ⟨g2, k * 9 + 4, none⟩) hg2]; exact b4, by rw [hx.cell (p := ⟨g2, k * 9 + 5, none⟩) hg2]; exact b5, by rw [hx.cell (p := ⟨g2, k * 9 + 6, none⟩) hg2]; exact b6, by rw [hx.cell (p := ⟨g2, k * 9 + 7, none⟩) hg2]; exact b7, by rw [hx.cell (p := ⟨g2, k * 9 + 8, none⟩) hg2]; exact b8⟩, hx⟩
  go_wp2
  go_region_held3 (fun w' => w'.cell? ⟨g1, k * 9, none⟩ = some (.string d.p) ∧ w'.cell? ⟨g1, k * 9 + 1, none⟩ = some (v1) ∧ w'.cell? ⟨g1, k * 9 + 2, none⟩ = some (v2) ∧ w'.cell? ⟨g1, k * 9 + 3, none⟩ = some (.int .i64 d.st) ∧ w'.cell? ⟨g1, k * 9 + 4, none⟩ = some (v3) ∧ w'.cell? ⟨g1, k * 9 + 5, none⟩ = some (.string d.b) ∧ w'.cell? ⟨g1, k * 9 + 6, none⟩ = some (.int .i64 d.t) ∧ w'.cell? ⟨g1, k * 9 + 7, none⟩ = some (.int .i64 d.a) ∧ w'.cell? ⟨g1, k * 9 + 8, none⟩ = some (.int .i64 d.q) ∧ w'.cell? ⟨g2, k * 9, none⟩ = some (.string d.p) ∧ w'.cell? ⟨g2, k * 9 + 1, none⟩ = some (u1) ∧ w'.cell? ⟨g2, k * 9 + 2, none⟩ = some (u2) ∧ w'.cell? ⟨g2, k * 9 + 3, none⟩ = some (.int .i64 d.st) ∧ w'.cell? ⟨g2, k * 9 + 4, none⟩ = some (u3) ∧ w'.cell? ⟨g2, k * 9 + 5, none⟩ = some (.string d.b) ∧ w'.cell? ⟨g2, k * 9 + 6, none⟩ = some (.int .i64 d.t) ∧ w'.cell? ⟨g2, k * 9 + 7, none⟩ = some (.int .i64 d.a) ∧ w'.cell? ⟨g2, k * 9 + 8, none⟩ = some (.int .i64 d.q)) (first | assumption | go_keep) (first | (go_at_call 105; refine (eqKept_any d.p d.xs.length d.xs d.ys.length d.ys d.st d.fs.length d.fs d.b d.t d.a d.q _ _ _ _ _ _ B1 B2 _ (HO1.out _ ((Below.refl _ wr).drew)) (HO2.out _ ((Below.refl _ wr).drew)) HSZ.out.1 HSZ.out.2.1 HSZ.out.2.2).mono ?_; rintro e w1 ⟨rfl, hb1⟩; obtain ⟨hcc, hbx⟩ := HA.out _ w1 ((Below.refl _ wr).drew) hb1))
  go_wp2
  go_roundw
  case rel => exact ⟨k + 1, by omega, by go_num, HBW.out.trans (hbx.mono HBW.out.size)⟩
  case measure => simp [intOf]; omega
end Go.Proofs.YtpacdigfnneoeaaGreatDoor
