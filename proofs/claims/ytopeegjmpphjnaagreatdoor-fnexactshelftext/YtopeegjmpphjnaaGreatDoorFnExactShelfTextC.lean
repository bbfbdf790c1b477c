/- What the proof of FnExactShelfText leans on: contracts of the program's and the specification's functions, and plain facts (part 3 of 5). -/
import Derived.Test.YtopeegjmpphjnaaGreatDoorFnExactShelfTextB
set_option maxHeartbeats 16000000
set_option maxRecDepth 100000
namespace Go.Proofs.YtopeegjmpphjnaaGreatDoor
open Go.RowKit
open Go.Lib hiding intOf
def banAt (l : Bs) (i : Nat) : (Int × ByteArray × ByteArray × Int) := l.getD i (0, ⟨#[]⟩, ⟨#[]⟩, 0)
def banEnc (x : (Int × ByteArray × ByteArray × Int)) : List Value := [.int .i64 x.1, .string x.2.1, .string x.2.2.1, .int .i64 x.2.2.2]
def flatBan (l : Bs) : List Value := l.flatMap banEnc
theorem flatBan_len (l : Bs) : (flatBan l).length = l.length * 4 := by
 induction l with
 | nil => rfl
 | cons f r ih => simp only [flatBan, banEnc, List.flatMap_cons, List.length_append, List.length_cons, List.length_nil] at ih ⊢; omega
theorem flatBan_get : ∀ (l : Bs) (i : Nat), i < l.length → (flatBan l)[i * 4]? = some (.int .i64 ((banAt l i).1)) ∧ (flatBan l)[i * 4 + 1]? = some (.string ((banAt l i).2.1)) ∧ (flatBan l)[i * 4 + 2]? = some (.string ((banAt l i).2.2.1)) ∧ (flatBan l)[i * 4 + 3]? = some (.int .i64 ((banAt l i).2.2.2))
 | [], i, h => by simp at h
 | f :: r, 0, _ => by simp [flatBan, banEnc, banAt]
 | f :: r, i + 1, h => by
  have ih := flatBan_get r i (by simpa using h)
  have e : flatBan (f :: r) = banEnc f ++ flatBan r := rfl
  have hl : (banEnc f).length = 4 := rfl
  have h2 : banAt (f :: r) (i + 1) = banAt r i := by simp [banAt]
  have key : ∀ j, (flatBan (f :: r))[i * 4 + 4 + j]? = (flatBan r)[i * 4 + j]? := fun j => by
   rw [e, List.getElem?_append_right (by rw [hl]; omega), hl]; congr 1; omega
  rw [h2]
  refine ⟨(by rw [show (i + 1) * 4 = i * 4 + 4 + 0 by omega, key]; exact ih.1), (by rw [show (i + 1) * 4 + 1 = i * 4 + 4 + 1 by omega, key]; exact ih.2.1), (by rw [show (i + 1) * 4 + 2 = i * 4 + 4 + 2 by omega, key]; exact ih.2.2.1), (by rw [show (i + 1) * 4 + 3 = i * 4 + 4 + 3 by omega, key]; exact ih.2.2.2)⟩
theorem banAt_mem (l : Bs) (i : Nat) (h : i < l.length) : banAt l i ∈ l := by
 unfold banAt
 rw [List.getD_eq_getElem?_getD, List.getElem?_eq_getElem h]
 exact List.getElem_mem h
theorem take_banAt (l : Bs) (i : Nat) (h : i < l.length) : l.take (i + 1) = l.take i ++ [banAt l i] := by
 unfold banAt
 rw [List.getD_eq_getElem?_getD, List.getElem?_eq_getElem h, List.take_succ_eq_append_getElem h]
 rfl
def BanA (w : World) (oa : Oa) (n : Nat) (l : Bs) : Prop :=
 l.length = n ∧ ∀ i, i < n → ∃ g, oa = some ⟨g, 0, none⟩ ∧ g < w.heap.size ∧ w.cell? ⟨g, i * 4, none⟩ = some (.int .i64 ((banAt l i).1)) ∧ w.cell? ⟨g, i * 4 + 1, none⟩ = some (.string ((banAt l i).2.1)) ∧ w.cell? ⟨g, i * 4 + 2, none⟩ = some (.string ((banAt l i).2.2.1)) ∧ w.cell? ⟨g, i * 4 + 3, none⟩ = some (.int .i64 ((banAt l i).2.2.2))
theorem BanA.below {w W : World} {oa : Oa} {n : Nat} {l : Bs} (h : BanA w oa n l) (hb : Below w.heap.size w W) : BanA W oa n l :=
 ⟨h.1, fun i hi => by
  obtain ⟨g, h1, h2, r0, r1, r2, r3⟩ := h.2 i hi
  exact ⟨g, h1, Nat.lt_of_lt_of_le h2 hb.size, by rw [hb.cell (p := ⟨g, i * 4, none⟩) h2]; exact r0, by rw [hb.cell (p := ⟨g, i * 4 + 1, none⟩) h2]; exact r1, by rw [hb.cell (p := ⟨g, i * 4 + 2, none⟩) h2]; exact r2, by rw [hb.cell (p := ⟨g, i * 4 + 3, none⟩) h2]; exact r3⟩⟩
def ArgBan (w : World) (B : Nat) (a : Oa) (n : Nat) (l : Bs) : Prop :=
 l.length = n ∧ ∀ i, i < n → ∃ b off, a = some ⟨b, off, none⟩ ∧ b < B ∧ w.cell? ⟨b, off + i * 4, none⟩ = some (.int .i64 ((banAt l i).1)) ∧ w.cell? ⟨b, off + i * 4 + 1, none⟩ = some (.string ((banAt l i).2.1)) ∧ w.cell? ⟨b, off + i * 4 + 2, none⟩ = some (.string ((banAt l i).2.2.1)) ∧ w.cell? ⟨b, off + i * 4 + 3, none⟩ = some (.int .i64 ((banAt l i).2.2.2))
theorem ArgBan.below {w w' : World} {B : Nat} {a : Oa} {n : Nat} {l : Bs} (h : ArgBan w B a n l) (hb : Below B w w') : ArgBan w' B a n l :=
 ⟨h.1, fun i hi => by
  obtain ⟨b, off, h1, h2, r0, r1, r2, r3⟩ := h.2 i hi
  exact ⟨b, off, h1, h2, by rw [hb.cell (p := ⟨b, off + i * 4, none⟩) h2]; exact r0, by rw [hb.cell (p := ⟨b, off + i * 4 + 1, none⟩) h2]; exact r1, by rw [hb.cell (p := ⟨b, off + i * 4 + 2, none⟩) h2]; exact r2, by rw [hb.cell (p := ⟨b, off + i * 4 + 3, none⟩) h2]; exact r3⟩⟩
def PartBan (w : World) (g n k : Nat) (l : Bs) : Prop :=
 ∃ cur, w.heap[g]? = some (.cells cur 111 (0, 0)) ∧ cur.size = n * 4 ∧ ∀ i, i < k → cur[i * 4]? = some (.int .i64 ((banAt l i).1)) ∧ cur[i * 4 + 1]? = some (.string ((banAt l i).2.1)) ∧ cur[i * 4 + 2]? = some (.string ((banAt l i).2.2.1)) ∧ cur[i * 4 + 3]? = some (.int .i64 ((banAt l i).2.2.2))
theorem PartBan.below {w w' : World} {g n k B : Nat} {l : Bs} (h : PartBan w g n k l) (hb : Below B w w') (hB : g < B) : PartBan w' g n k l := by
 obtain ⟨cur, h1, h2⟩ := h
 exact ⟨cur, by rw [hb.block g hB]; exact h1, h2⟩
theorem PartBan.lt {w : World} {g n k : Nat} {l : Bs} (h : PartBan w g n k l) : g < w.heap.size := by
 obtain ⟨cur, h1, _⟩ := h
 exact (blt h1)
theorem PartBan.cell {w : World} {g n k : Nat} {l : Bs} (h : PartBan w g n k l) (j : Nat) (hj : j < n * 4) : ∃ u, w.cell? ⟨g, j, none⟩ = some u := by
 obtain ⟨cur, h1, h2, _⟩ := h
 refine ⟨cur[j]'(by omega), ?_⟩
 simp only [World.cell?, h1]
 simp [show j < cur.size by omega]
theorem PartBan.frozen {w : World} {g n k : Nat} {l : Bs} (h : PartBan w g n k l) (j : Nat) : w.frozen? ⟨g, j, none⟩ = false := by
 obtain ⟨cur, h1, _⟩ := h
 simp [World.frozen?, h1]
theorem PartBan.put {w : World} {g n k : Nat} {l : Bs} (h : PartBan w g n k l) (hk : k < n) : PartBan ((((w.setCell ⟨g, k * 4, none⟩ (.int .i64 (banAt l k).1)).setCell ⟨g, k * 4 + 1, none⟩ (.string (banAt l k).2.1)).setCell ⟨g, k * 4 + 2, none⟩ (.string (banAt l k).2.2.1)).setCell ⟨g, k * 4 + 3, none⟩ (.int .i64 (banAt l k).2.2.2)) g n (k + 1) l := by
 obtain ⟨cur, h1, h2, h3⟩ := h
 refine ⟨_, heap_set _ g (k * 4 + 3) _ _ _ _ (heap_set _ g (k * 4 + 2) _ _ _ _ (heap_set _ g (k * 4 + 1) _ _ _ _ (heap_set _ g (k * 4) _ _ _ _ h1))), by simpa using h2, ?_⟩
 intro i hi
 by_cases e : i = k
 ·subst e
  exact ⟨by rw [Array.getElem?_setIfInBounds_ne (by omega), Array.getElem?_setIfInBounds_ne (by omega), Array.getElem?_setIfInBounds_ne (by omega), Array.getElem?_setIfInBounds_self_of_lt (by first | omega | (simp; omega))], by rw [Array.getElem?_setIfInBounds_ne (by omega), Array.getElem?_setIfInBounds_ne (by omega), Array.getElem?_setIfInBounds_self_of_lt (by first | omega | (simp; omega))], by rw [Array.getElem?_setIfInBounds_ne (by omega), Array.getElem?_setIfInBounds_self_of_lt (by first | omega | (simp; omega))], by rw [Array.getElem?_setIfInBounds_self_of_lt (by first | omega | (simp; omega))]⟩
 have := h3 i (by omega)
 exact ⟨by rw [Array.getElem?_setIfInBounds_ne (by omega), Array.getElem?_setIfInBounds_ne (by omega), Array.getElem?_setIfInBounds_ne (by omega), Array.getElem?_setIfInBounds_ne (by omega)]; exact this.1, by rw [Array.getElem?_setIfInBounds_ne (by omega), Array.getElem?_setIfInBounds_ne (by omega), Array.getElem?_setIfInBounds_ne (by omega), Array.getElem?_setIfInBounds_ne (by omega)]; exact this.2.1, by rw [Array.getElem?_setIfInBounds_ne (by omega), Array.getElem?_setIfInBounds_ne (by omega), Array.getElem?_setIfInBounds_ne (by omega), Array.getElem?_setIfInBounds_ne (by omega)]; exact this.2.2.1, by rw [Array.getElem?_setIfInBounds_ne (by omega), Array.getElem?_setIfInBounds_ne (by omega), Array.getElem?_setIfInBounds_ne (by omega), Array.getElem?_setIfInBounds_ne (by omega)]; exact this.2.2.2⟩
theorem PartBan.owns {w : World} {g n : Nat} {l : Bs} (h : PartBan w g n n l) (hl : l.length = n) (hm : n ≤ maxLen) {base : Nat} (hb : base ≤ g) : w.ownsRow base 111 4 (.slice (some ⟨g, 0, none⟩) n n) n (flatBan l) := by
 obtain ⟨cur, hg, hs, hc⟩ := h
 refine ⟨by rw [flatBan_len, hl], .inr ⟨g, n, cur, rfl, hb, hg, Nat.le_refl _, hm, hs, ?_⟩⟩
 apply List.ext_getElem?
 intro j
 rw [List.getElem?_take]
 by_cases hj : j < n * 4
 rotate_left
 · rw [if_neg hj, List.getElem?_eq_none (by rw [flatBan_len]; omega)]
 rw [if_pos hj]
 have hf := flatBan_get l (j / 4) (by omega)
 have hcc := hc (j / 4) (by omega)
 have hr : j = (j / 4) * 4 ∨ j = (j / 4) * 4 + 1 ∨ j = (j / 4) * 4 + 2 ∨ j = (j / 4) * 4 + 3 := by omega
 rcases hr with e | e | e | e
 ·have e2 := hf.1
  have e3 := hcc.1
  rw [← e] at e2 e3
  rw [e2]; simpa using e3
 ·have e2 := hf.2.1
  have e3 := hcc.2.1
  rw [← e] at e2 e3
  rw [e2]; simpa using e3
 ·have e2 := hf.2.2.1
  have e3 := hcc.2.2.1
  rw [← e] at e2 e3
  rw [e2]; simpa using e3
 ·have e2 := hf.2.2.2
  have e3 := hcc.2.2.2
  rw [← e] at e2 e3
  rw [e2]; simpa using e3
theorem ban_view {w : World} {base n cap : Nat} {oa : Oa} {l : Bs} (h : w.ownsRow base 111 4 (.slice oa n cap) n (flatBan l)) : BanA w oa n l := by
 obtain ⟨hl, hv⟩ := h
 rw [flatBan_len] at hl
 refine ⟨by omega, fun i hi => ?_⟩
 rcases hv with ⟨e, h0⟩ | ⟨g, cap, cur, e, hb, hg, hn, hm, hcs, htk⟩
 · omega
 ·cases e
  have hf := flatBan_get l i (by omega)
  rw [← htk] at hf
  simp only [List.getElem?_take] at hf
  rw [if_pos (by omega), if_pos (by omega), if_pos (by omega), if_pos (by omega)] at hf
  refine ⟨g, rfl, (blt hg), by simp only [World.cell?, hg]; simpa using hf.1, by simp only [World.cell?, hg]; simpa using hf.2.1, by simp only [World.cell?, hg]; simpa using hf.2.2.1, by simp only [World.cell?, hg]; simpa using hf.2.2.2⟩
theorem infoBan : (Tryz.prog.info? 111).map (fun i => (i.zero, i.size, i.bytes)) = some (some (.agg #[.int .i64 0, .string ⟨#[]⟩, .string ⟨#[]⟩, .int .i64 0]), 4, 48) := by kernel_rfl
def SzBanR (L : Int) (n : Nat) (l : Bs) (w : World) (e : Ending) (w' : World) : Prop :=
 ∃ r : Int, e = .returned (.int .i64 r) ∧ r ≤ L ∧ (0 ≤ r → r + (n : Int) ≤ L ∧ n ≤ 1048576 ∧ ∀ x ∈ l, (x.2.1).size ≤ 1048576 ∧ (x.2.2.1).size ≤ 1048576) ∧ Below w.heap.size w w'
theorem szBanS_room (L : Int) (hL0 : 0 ≤ L) (hL1 : L ≤ 1048576) (B : Nat) (a : Oa) (n cap : Nat) (l : Bs) (w : World) (harg : ArgBan w B a n l) (hB : B ≤ w.heap.size) (hn : n ≤ maxLen) (hsz : ∀ x ∈ l, (x.2.1).size ≤ maxLen ∧ (x.2.2.1).size ≤ maxLen) :
  Calls Tryz.prog 21 #[.slice a n cap, .int .i64 L] w fun e w' => SzBanR L n l w e w' := by
 unfold maxLen at hn
 have HS := hid hsz
 have HLN : Hid (l.length = n) := harg.1
 have HA : Hid (∀ W, Below w.heap.size w W → ArgBan W B a n l) := fun W h => harg.below (h.mono hB)
 clear hsz harg
 by_cases c1 : L - (n : Int) < 0
 ·go_enter Tryz.func21, Tryz.ntmps21
  go_wp2
  go_ret
  exact ⟨-1, rfl, by omega, fun h => absurd h (by omega), Below.refl _ _⟩
 go_enter Tryz.func21, Tryz.ntmps21
 go_wp2
 go_loopw [1, 5] (fun lf i wr => ∃ (k : Nat) (x : Int), k ≤ n ∧ i = .int .i64 (k : Int) ∧ lf = .int .i64 x ∧ 0 ≤ x ∧ x + (n : Int) ≤ L ∧ Hid (∀ x ∈ l.take k, (x.2.1).size ≤ 1048576 ∧ (x.2.2.1).size ≤ 1048576) ∧ Hid (Below w.heap.size w wr)) (fun _ i _ => n - (intOf i).toNat)
 case atStart => exact ⟨0, _, Nat.zero_le _, rfl, rfl, by omega, by omega, fun x hx => by simp at hx, Below.refl _ _⟩
 case round =>
  obtain ⟨k, x, hk, rfl, rfl, hx0, hx1, HX, HBW⟩ := hrel
  by_cases hlt : k < n
  rotate_left
  ·have HF : Hid (n ≤ 1048576 ∧ ∀ x ∈ l, (x.2.1).size ≤ 1048576 ∧ (x.2.2.1).size ≤ 1048576) := ⟨by omega, fun x hx => HX.out x (by rw [List.take_of_length_le (by rw [HLN.out]; omega)]; exact hx)⟩
   go_wp2
   go_ret
   exact ⟨x, rfl, by omega, fun _ => ⟨by omega, HF.out⟩, HBW.out⟩
  have hlt2 : (k : Int) < (n : Int) := by omega
  obtain ⟨b, off, rfl, hbB, r0, r1, r2, r3⟩ := (HA.out wr HBW.out).2 k hlt
  obtain ⟨y, hy⟩ := exq (banAt l k)
  have HM : Hid (y ∈ l) := by show _ ∈ _; rw [hy]; exact banAt_mem l k (by rw [HLN.out]; exact hlt)
  have HTK : Hid (l.take (k + 1) = l.take k ++ [y]) := by show _ = _; rw [hy]; exact take_banAt l k (by rw [HLN.out]; exact hlt)
  have s1 := HS.out y HM.out
  rw [← hy] at r0 r1 r2 r3
  clear hy
  obtain ⟨y0, y1, y2, y3⟩ := y
  go_wp2_with fail
  refine (szBan_any x hx0 (by omega) y0 y1 y2 y3 _ s1.1 s1.2).mono ?_
  rintro e w1 ⟨r, rfl, hr1, hr2, bw⟩
  have HB2 : Hid (Below w.heap.size w w1) := HBW.out.trans (bw.mono HBW.out.size)
  clear r0 r1 r2 r3 bw
  by_cases d1 : r < 0
  ·clear hr2
   go_wp2
   go_ret
   exact ⟨-1, rfl, by omega, fun h => absurd h (by omega), HB2.out⟩
  have HX2 : Hid (∀ x ∈ l.take (k + 1), (x.2.1).size ≤ 1048576 ∧ (x.2.2.1).size ≤ 1048576) := fun x hx => by
   rw [HTK.out] at hx
   rcases List.mem_append.1 hx with hx | hx
   · exact HX.out x hx
   · rw [List.mem_singleton.1 hx]; exact hr2 (by omega)
  clear hr2
  go_wp2
  go_roundw
  case rel => exact ⟨k + 1, r, by omega, by go_num, rfl, by omega, by omega, HX2, HB2⟩
  case measure => simp [intOf]; omega
theorem toBanS_any (B : Nat) (a : Oa) (n cap : Nat) (l : Bs) (w : World) (harg : ArgBan w B a n l) (hB : B ≤ w.heap.size) (hn : n ≤ 1048576) :
  Calls Tryz.prog 26 #[.slice a n cap] w fun e w' => ∃ v, e = .returned v ∧ w'.ownsRow w.heap.size 111 4 v n (flatBan l) ∧ Below w.heap.size w w' := by
 obtain ⟨i0, hi, hz0, hz1, hz2⟩ := info_parts infoBan
 obtain ⟨M, hM⟩ : ∃ M, M = madeCells (Value.agg #[.int .i64 0, .string ⟨#[]⟩, .string ⟨#[]⟩, .int .i64 0]).cells (((n : Nat) : Int).toNat * i0.size) := ⟨_, rfl⟩
 have hmk : ∀ W : World, (Instr.makeSlice 36 (.int .i64 (n : Int)) (.int .i64 (n : Int))).run Tryz.prog W = .ok (.slice (some ⟨W.heap.size, 0, none⟩) n n) (W.alloc (.cells M 111)) := fun W => by
  have h := run_make (P := Tryz.prog) W 36 111 i0 (.agg #[.int .i64 0, .string ⟨#[]⟩, .string ⟨#[]⟩, .int .i64 0]) Tryz.underlying36 hi hz0 .i64 .i64 (n : Int) (n : Int) (by omega) (by omega) (by rw [hz2]; omega) (by omega)
  rw [← hM] at h
  simpa using h
 have hMs : M.size = n * 4 := by rw [hM, size_madeCells, hz1]; simp
 have HLN : Hid (l.length = n) := harg.1
 have HA : Hid (∀ W, Below w.heap.size w W → ArgBan W B a n l) := fun W h => harg.below (h.mono hB)
 clear hM harg
 have HP : Hid (PartBan (w.alloc (.cells M 111)) w.heap.size n 0 l) := ⟨M, heap_alloc_new w _, hMs, fun i h => absurd h (by omega)⟩
 go_enter Tryz.func26, Tryz.ntmps26
 go_wp2
 go_loopw [4] (fun i wr => ∃ k : Nat, k ≤ n ∧ i = .int .i64 (k : Int) ∧ Hid (PartBan wr w.heap.size n k l) ∧ Hid (Below w.heap.size w wr)) (fun i _ => n - (intOf i).toNat)
 case atStart => exact ⟨0, Nat.zero_le _, rfl, HP, (Below.refl _ _).alloc (Nat.le_refl _) _⟩
 case round =>
  obtain ⟨k, hk, rfl, hpr, HBW⟩ := hrel
  by_cases hlt : k < n
  rotate_left
  ·obtain rfl : k = n := by omega
   go_wp2
   go_ret
   exact ⟨_, rfl, hpr.out.owns HLN.out (by unfold maxLen; omega) (Nat.le_refl _), HBW.out⟩
  have hlt2 : (k : Int) < (n : Int) := by omega
  obtain ⟨b, off, rfl, hbB, r0, r1, r2, r3⟩ := (HA.out wr HBW.out).2 k hlt
  obtain ⟨y, hy⟩ := exq (banAt l k)
  rw [← hy] at r0 r1 r2 r3
  have HY : Hid (banAt l k = y) := hy.symm
  clear hy
  obtain ⟨y0, y1, y2, y3⟩ := y
  go_wp2_with fail
  refine (toBan_any y0 y1 y2 y3 _).mono ?_
  rintro e w1 ⟨rfl, bw⟩
  have hpr1 := hpr.out.below bw hpr.out.lt
  have HB2 : Hid (Below w.heap.size w w1) := HBW.out.trans (bw.mono HBW.out.size)
  obtain ⟨u0, hu0⟩ := hpr1.cell (k * 4) (by omega)
  have f0 := hpr1.frozen (k * 4)
  obtain ⟨u1, hu1⟩ := hpr1.cell (k * 4 + 1) (by omega)
  have f1 := hpr1.frozen (k * 4 + 1)
  obtain ⟨u2, hu2⟩ := hpr1.cell (k * 4 + 2) (by omega)
  have f2 := hpr1.frozen (k * 4 + 2)
  obtain ⟨u3, hu3⟩ := hpr1.cell (k * 4 + 3) (by omega)
  have f3 := hpr1.frozen (k * 4 + 3)
  have hput := hpr1.put hlt
  rw [HY.out] at hput
  have HPUT : Hid _ := hput
  clear hput r0 r1 r2 r3 bw
  go_wp2
  go_roundw
  case rel => exact ⟨k + 1, by omega, by go_num, HPUT, (((HB2.out.setCell (Nat.le_refl _) _).setCell (Nat.le_refl _) _).setCell (Nat.le_refl _) _).setCell (Nat.le_refl _) _⟩
  case measure => simp [intOf]; omega
theorem eqBanS_any (o1 o2 : Oa) (n c1 c2 : Nat) (l : Bs) (w : World) (h1 : BanA w o1 n l) (h2 : BanA w o2 n l) (hn : n ≤ 2000000) :
  Calls Tryz.prog 32 #[.slice o1 n c1, .slice o2 n c2] w fun e w' => e = .returned (.bool true) ∧ Below w.heap.size w w' := by
 have H1 : Hid (∀ W, Below w.heap.size w W → BanA W o1 n l) := fun W h => h1.below h
 have H2 : Hid (∀ W, Below w.heap.size w W → BanA W o2 n l) := fun W h => h2.below h
 clear h1 h2
 go_enter Tryz.func32, Tryz.ntmps32
 go_wp2
 go_loopw [5] (fun i wr => ∃ k : Nat, k ≤ n ∧ i = .int .i64 (k : Int) ∧ Hid (Below w.heap.size w wr)) (fun i _ => n - (intOf i).toNat)
 case atStart => exact ⟨0, Nat.zero_le _, rfl, Below.refl _ _⟩
 case round =>
  obtain ⟨k, hk, rfl, HBW⟩ := hrel
  by_cases hlt : k < n
  rotate_left
  ·go_wp2
   go_ret
   exact ⟨rfl, HBW.out⟩
  have hlt2 : (k : Int) < (n : Int) := by omega
  obtain ⟨y, hy⟩ := exq (banAt l k)
  obtain ⟨g1, rfl, hg1, a0, a1, a2, a3⟩ := (H1.out wr HBW.out).2 k hlt
  obtain ⟨g2, rfl, hg2, b0, b1, b2, b3⟩ := (H2.out wr HBW.out).2 k hlt
  rw [← hy] at a0 b0 a1 b1 a2 b2 a3 b3
  clear hy
  obtain ⟨y0, y1, y2, y3⟩ := y
  have HA : Hid (∀ w0 w1, Below wr.heap.size wr w0 → Below w0.heap.size w0 w1 → (w1.cell? ⟨g1, k * 4, none⟩ = some (.int .i64 y0) ∧ w1.cell? ⟨g1, k * 4 + 1, none⟩ = some (.string y1) ∧ w1.cell? ⟨g1, k * 4 + 2, none⟩ = some (.string y2) ∧ w1.cell? ⟨g1, k * 4 + 3, none⟩ = some (.int .i64 y3) ∧ w1.cell? ⟨g2, k * 4, none⟩ = some (.int .i64 y0) ∧ w1.cell? ⟨g2, k * 4 + 1, none⟩ = some (.string y1) ∧ w1.cell? ⟨g2, k * 4 + 2, none⟩ = some (.string y2) ∧ w1.cell? ⟨g2, k * 4 + 3, none⟩ = some (.int .i64 y3)) ∧ Below wr.heap.size wr w1) := fun w0 w1 h h' => by
   have hx := h.trans (h'.mono h.size)
   exact ⟨⟨by rw [hx.cell (p := ⟨g1, k * 4, none⟩) hg1]; exact a0, by rw [hx.cell (p := ⟨g1, k * 4 + 1, none⟩) hg1]; exact a1, by rw [hx.cell (p := ⟨g1, k * 4 + 2, none⟩) hg1]; exact a2, by rw [hx.cell (p := ⟨g1, k * 4 + 3, none⟩) hg1]; exact a3, by rw [hx.cell (p := ⟨g2, k * 4, none⟩) hg2]; exact b0, by rw [hx.cell (p := ⟨g2, k * 4 + 1, none⟩) hg2]; exact b1, by rw [hx.cell (p := ⟨g2, k * 4 + 2, none⟩) hg2]; exact b2, by rw [hx.cell (p := ⟨g2, k * 4 + 3, none⟩) hg2]; exact b3⟩, hx⟩
  go_wp2
  go_region_held3 (fun w' => w'.cell? ⟨g1, k * 4, none⟩ = some (.int .i64 y0) ∧ w'.cell? ⟨g1, k * 4 + 1, none⟩ = some (.string y1) ∧ w'.cell? ⟨g1, k * 4 + 2, none⟩ = some (.string y2) ∧ w'.cell? ⟨g1, k * 4 + 3, none⟩ = some (.int .i64 y3) ∧ w'.cell? ⟨g2, k * 4, none⟩ = some (.int .i64 y0) ∧ w'.cell? ⟨g2, k * 4 + 1, none⟩ = some (.string y1) ∧ w'.cell? ⟨g2, k * 4 + 2, none⟩ = some (.string y2) ∧ w'.cell? ⟨g2, k * 4 + 3, none⟩ = some (.int .i64 y3)) (first | assumption | go_keep) (first | (go_at_call 63; refine (eqBan_any _ _ _ _ _).mono ?_; rintro e w1 ⟨rfl, hb1⟩; obtain ⟨hcc, hbx⟩ := HA.out _ w1 ((Below.refl _ wr).drew) hb1))
  go_wp2
  go_roundw
  case rel => exact ⟨k + 1, by omega, by go_num, HBW.out.trans (hbx.mono HBW.out.size)⟩
  case measure => simp [intOf]; omega
theorem openBanS {H : Type} {enc : TypeId × Value → H} {W : World} {fuel : Nat} {a : Oa} {n cap : Nat} {x : DataW H × List MemPlace} (h : DataW.trod enc Tryz.prog W 0 (fun _ => true) true fuel 27 [.slice a n cap] = some x) :
  ∃ l, ArgBan W W.heap.size a n l ∧ n ≤ maxLen ∧ ∀ x ∈ l, (x.2.1).size ≤ maxLen ∧ (x.2.2.1).size ≤ maxLen := by
 rcases Go.Deep.open_slice Tryz.underlying27 h with ⟨hcs, _⟩ | ⟨ad, len, c, m, q, Dd, Pl, hcs, _, hl, hm, hmm, _, hx⟩
 ·simp at hcs
  obtain ⟨rfl, rfl, rfl⟩ := hcs
  exact ⟨[], ⟨rfl, fun i hi => absurd hi (by omega)⟩, Nat.zero_le _, fun x hx => by simp at hx⟩
 ·simp at hcs
  obtain ⟨rfl, rfl, rfl⟩ := hcs
  have hm2 : m = cap := by simpa using hmm
  have ce : Tryz.prog.cellsOf 109 = 4 := by kernel_rfl
  have ci : Tryz.prog.cellsOf 3 = 1 := by kernel_rfl
  have cs : Tryz.prog.cellsOf 9 = 1 := by kernel_rfl
  have each : ∀ i, i < n → ∃ y : (Int × ByteArray × ByteArray × Int), (W.cell? (ad.add (i * 4 + 0)) = some (.int .i64 (y.1)) ∧ W.cell? (ad.add (i * 4 + 1)) = some (.string (y.2.1)) ∧ W.cell? (ad.add (i * 4 + 2)) = some (.string (y.2.2.1)) ∧ W.cell? (ad.add (i * 4 + 3)) = some (.int .i64 (y.2.2.2))) ∧ (y.2.1).size ≤ maxLen ∧ (y.2.2.1).size ≤ maxLen := by
   intro i hi
   obtain ⟨cs', h1, h2⟩ := hx i (by omega)
   rw [ce] at h1
   obtain ⟨_, hlen, hcell⟩ := World.cells?_some h1
   obtain ⟨xs, k, hk, hxy, _, hxl, hf⟩ := DataW.trod_struct Tryz.underlying109 h2
   match xs, hxl, cs', hlen with
   | [x0, x1, x2, x3], _, [v0, v1, v2, v3], _ =>
    have g0 := hf 0 _ rfl
    have g1 := hf 1 _ rfl
    have g2 := hf 2 _ rfl
    have g3 := hf 3 _ rfl
    simp [ci, cs] at g0 g1 g2 g3
    obtain ⟨s0, e0, _, _⟩ := DataW.trod_int Tryz.underlying3 g0
    obtain ⟨s1, e1, _, z1⟩ := DataW.trod_string Tryz.underlying9 g1
    obtain ⟨s2, e2, _, z2⟩ := DataW.trod_string Tryz.underlying9 g2
    obtain ⟨s3, e3, _, _⟩ := DataW.trod_int Tryz.underlying3 g3
    simp only [List.cons.injEq, and_true] at e0 e1 e2 e3
    subst e0 e1 e2 e3
    have c0 := hcell 0 (by omega)
    have c1 := hcell 1 (by omega)
    have c2 := hcell 2 (by omega)
    have c3 := hcell 3 (by omega)
    rw [Go.Deep.add_add] at c0 c1 c2 c3
    exact ⟨(s0, s1, s2, s3), ⟨by simpa using c0, by simpa using c1, by simpa using c2, by simpa using c3⟩, ⟨z1, z2⟩⟩
  obtain ⟨q, hq⟩ := Go.Deep.choose_lt each
  have hat : ∀ i, i < n → banAt ((List.range n).map q) i = q i := fun i hi => by
   unfold banAt
   rw [List.getD_eq_getElem?_getD, List.getElem?_map, List.getElem?_range hi]
   rfl
  refine ⟨(List.range n).map q, ⟨by simp, fun i hi => ?_⟩, by omega, fun x hx => ?_⟩
  ·obtain ⟨c0, _⟩ := hq i hi
   obtain ⟨c3, _⟩ := hq 0 (by omega)
   have hsp : ad.spot = none := by
    have := World.cell?_spot c3.1
    simpa [Addr.add] using this
   clear c3
   obtain ⟨b, off, sp⟩ := ad
   simp only at hsp
   subst hsp
   simp only [addr_add] at c0
   rw [hat i hi]
   have hlt := World.block_lt_of_cell? W _ c0.1
   exact ⟨b, off, rfl, hlt, by simpa [Nat.add_assoc] using c0.1, by simpa [Nat.add_assoc] using c0.2.1, by simpa [Nat.add_assoc] using c0.2.2.1, by simpa [Nat.add_assoc] using c0.2.2.2⟩
  ·obtain ⟨i, hi, rfl⟩ := List.mem_map.1 hx
   exact (hq i (List.mem_range.1 hi)).2
def zeroK : KpD := ⟨⟨#[]⟩, [], [], 0, [], ⟨#[]⟩, 0, 0, 0⟩
def kpAt (ks : List KpD) (i : Nat) : KpD := ks.getD i zeroK
theorem kpAt_get (ks : List KpD) (i : Nat) (h : i < ks.length) : ks[i]'h = kpAt ks i := by
 unfold kpAt
 rw [List.getD_eq_getElem?_getD, List.getElem?_eq_getElem h]
 rfl
theorem kpAt_mem (ks : List KpD) (i : Nat) (h : i < ks.length) : kpAt ks i ∈ ks := by rw [← kpAt_get ks i h]; exact List.getElem_mem h
theorem kpAt_take (ks : List KpD) (i : Nat) (h : i < ks.length) : ks.take (i + 1) = ks.take i ++ [kpAt ks i] := by rw [← kpAt_get ks i h, List.take_succ_eq_append_getElem h]
def ObjK (k : KpD) : Prop := ObjP k.p k.xs k.ys k.st k.fs k.b k.t
def KpOk (ks : List KpD) (sq : Int) (i : Nat) : Prop :=
 ObjK (kpAt ks i) ∧ (5 ≤ (kpAt ks i).a ∧ (kpAt ks i).a ≤ 19) ∧ (1 ≤ (kpAt ks i).q ∧ (kpAt ks i).q ≤ sq - 1) ∧ (0 < i → (kpAt ks (i - 1)).q < (kpAt ks i).q) ∧ ∀ j, j < i → (kpAt ks j).a ≠ (kpAt ks i).a
structure ShD where
 cs : Ts
 ws : List (Int × ByteArray)
 ks : List KpD
 bl : Bs
 nx : Int
 sq : Int
def ShelfP (s : ShD) : Prop :=
 DiskP s.cs s.ws ∧ s.bl.length ≤ 5 ∧ (5 ≤ s.nx ∧ s.nx ≤ 19) ∧ (1 ≤ s.sq ∧ s.sq ≤ 100000) ∧ (∀ x ∈ s.bl, BanP x.1 x.2.1 x.2.2.1 x.2.2.2) ∧ ∀ i, i < s.ks.length → KpOk s.ks s.sq i
def showK (k : KpD) : ByteArray := k.p ++ ⟨#[64]⟩ ++ numTextI k.t
def showTo (ks : List KpD) : Nat → ByteArray
 | 0 => ⟨#[]⟩
 | i + 1 => if i = 0 then showK (kpAt ks 0) else showTo ks i ++ blankB ++ showK (kpAt ks i)
def bangT (n : Nat) : ByteArray := ⟨#[33]⟩ ++ numTextI (n : Int)
def shelfB (s : ShD) : ByteArray :=
 let o := if s.ks.length = 0 then (⟨#[45]⟩ : Tx) else showTo s.ks s.ks.length
 if s.bl.length = 0 then o else o ++ blankB ++ bangT s.bl.length
open Classical in
noncomputable def shelfT (s : ShD) : ByteArray := if ShelfP s then shelfB s else ⟨#[]⟩
theorem joinS_show (ks : List KpD) : ∀ n, 0 < n → n ≤ ks.length → joinS ((ks.take n).map showK) = showTo ks n
 | 0, h, _ => absurd h (by omega)
 | n + 1, _, h => by
  rw [kpAt_take ks n (by omega), List.map_append, List.map_cons, List.map_nil]
  by_cases h0 : n = 0
  ·subst h0
   rw [List.take_zero, List.map_nil, List.nil_append, joinS_one]
   rfl
  · rw [joinS_snoc _ _ (by intro e; have h9 := congrArg List.length e; rw [List.length_map, List.length_take, List.length_nil] at h9; omega), joinS_show ks n (by omega) (by omega), showTo, if_neg h0]
structure ObjO (W : World) (base : Nat) (v1 : Value) (n1 : Nat) (xs : Ts) (v2 : Value) (n2 : Nat) (ys : Ts) (v3 : Value) (n3 : Nat) (fs : Fs) : Prop where
 names : W.ownsRow base 9 1 v1 n1 (xs.map Value.string)
 vals : W.ownsRow base 9 1 v2 n2 (ys.map Value.string)
 flds : W.ownsRow base 139 2 v3 n3 (flatF fs)
 ne : ∀ j, v1.ownBlock = some j → v2.ownBlock ≠ some j
theorem toObj_any (p : Tx) (a1 : Oa) (n1 c1 : Nat) (xs : Ts) (a2 : Oa) (n2 c2 : Nat) (ys : Ts) (st : Int) (a3 : Oa) (n3 c3 : Nat) (fs : Fs) (b : Tx) (t : Int) (B : Nat) (w : World) (h1 : ArgT w B a1 n1 xs) (h2 : ArgT w B a2 n2 ys) (h3 : ArgF w B a3 n3 fs) (hB : B ≤ w.heap.size) (hn1 : n1 ≤ 1048576) (hn2 : n2 ≤ 1048576) (hn3 : n3 ≤ 1048576) :
  Calls Tryz.prog 95 #[.agg #[.string p, .slice a1 n1 c1, .slice a2 n2 c2, .int .i64 st, .slice a3 n3 c3, .string b, .int .i64 t]] w fun e w' => ∃ v1 v2 v3, e = .returned (.agg #[.string p, v1, v2, .int .i64 st, v3, .string b, .int .i64 t]) ∧ ObjO w' w.heap.size v1 n1 xs v2 n2 ys v3 n3 fs ∧ Below w.heap.size w w' := by
 have HA1 : Hid (∀ W, Below w.heap.size w W → ArgT W B a1 n1 xs) := fun W h => h1.below (h.mono hB)
 have HA2 : Hid (∀ W, Below w.heap.size w W → ArgT W B a2 n2 ys) := fun W h => h2.below (h.mono hB)
 have HA3 : Hid (∀ W, Below w.heap.size w W → ArgF W B a3 n3 fs) := fun W h => h3.below (h.mono hB)
 have HBB : Hid (∀ W, Below w.heap.size w W → B ≤ W.heap.size) := fun W h => Nat.le_trans hB h.size
 clear h1 h2 h3
 have hb0 := Below.refl w.heap.size w
 go_enter Tryz.func95, Tryz.ntmps95
 go_upto_region 1 with fail
 obtain ⟨q1, hq1⟩ := exq (w.heap.size)
 obtain ⟨w1, hW1⟩ := exq (w.alloc (.cells #[.string p, .slice a1 n1 c1, .slice a2 n2 c2, .int .i64 st, .slice a3 n3 c3, .string b, .int .i64 t] 104))
 have hz1 := hq1.symm
 rw [← hW1]; try rw [← hq1]
 have hs1 := hsa hW1 hz1
 have bw := bal hW1
 have hb1 := hbt hb0 bw
 have B1_1 := hnew hW1 hz1
 clear hb0 bw hW1 hz1
 obtain ⟨q2, hq2⟩ := exq (q1 + 1)
 obtain ⟨w2, hW2⟩ := exq (w1.alloc (.cells #[.string ⟨#[]⟩, .slice none 0 0, .slice none 0 0, .int .i64 0, .slice none 0 0, .string ⟨#[]⟩, .int .i64 0] 51))
 have hz2 : w1.heap.size = q2 := by rw [hq2]; exact hs1
 rw [← hW2]; try rw [← hq2]
 have hs2 := hsa hW2 hz2
 have bw := bal hW2
 have hb2 := hbt hb1 bw
 have B1_2 := hblk B1_1 bw
 have Nv1v2 := hnq B1_1 hz2
 have B2_2 := hnew hW2 hz2
 have Gv2 := hge hz2 hb1
 clear hb1 bw hW2 hz2
 clear hs2 hq2 hs1 hq1
 go_upto_region 2 with fail
 obtain ⟨q3, hq3⟩ := exq (w2.heap.size)
 obtain ⟨w3, hW3⟩ := exq (w2.alloc (.cells #[.string ⟨#[]⟩, .slice none 0 0, .slice none 0 0, .int .i64 0, .slice none 0 0, .string ⟨#[]⟩, .int .i64 0] 51))
 have hz3 := hq3.symm
 rw [← hW3]; try rw [← hq3]
 have hs3 := hsa hW3 hz3
 have bw := bal hW3
 have hb3 := hbt hb2 bw
 have B1_3 := hblk B1_2 bw
 have B2_3 := hblk B2_2 bw
 have Nv1v3 := hnq B1_2 hz3
 have Nv2v3 := hnq B2_2 hz3
 have B3_3 := hnew hW3 hz3
 have Gv3 := hge hz3 hb2
 clear hb2 bw hW3 hz3
 clear hs3 hq3
 have c1_0 := (k7c B1_3).1
 have c3_0 := (k7c B3_3).1
 have f3_0 := hfz B3_3 0
 go_upto_region 3 with fail
 obtain ⟨w4, hW4⟩ := exq (w3.setCell ⟨q3, 0, none⟩ (.string p))
 rw [← hW4]
 have hb4 := hbS hW4 hb3 Gv3
 have B1_4 := hset hW4 Nv1v3.out B1_3
 have B2_4 := hset hW4 Nv2v3.out B2_3
 have B3_4 := hput hW4 B3_3
 clear hb3 hW4
 clear c1_0 c3_0 f3_0
 have c1_1 := (k7c B1_4).2.1
 go_wp2_with fail
 refine (toStringS_any B a1 n1 c1 xs _ (HA1.out _ hb4) (HBB.out _ hb4) hn1).mono ?_
 rintro e w5 ⟨vv, rfl, ownN, bw⟩
 obtain ⟨oN, pN, rfl⟩ := slice_of_owns ownN
 have hb5 := hbt hb4 bw
 have B1_5 := hblk B1_4 bw
 have B2_5 := hblk B2_4 bw
 have B3_5 := hblk B3_4 bw
 have HON_5 := hwd ownN hb4.size
 have HIN := hhi ownN
 clear ownN
 clear hb4 bw
 clear c1_1
 have c3_1 := (k7c B3_5).2.1
 have f3_1 := hfz B3_5 1
 go_upto_region 4 with fail
 obtain ⟨w6, hW6⟩ := exq (w5.setCell ⟨q3, 1, none⟩ (.slice oN n1 pN))
 rw [← hW6]
 have hb6 := hbS hW6 hb5 Gv3
 have HM6 : Hid (w5.heap.size ≤ w6.heap.size) := by show _ ≤ _; rw [hW6]; simp
 have HON_6 := hsetR hW6 (own_ne HON_5.out B3_5.out (by decide)) HON_5
 have B1_6 := hset hW6 Nv1v3.out B1_5
 have B2_6 := hset hW6 Nv2v3.out B2_5
 have B3_6 := hput hW6 B3_5
 clear hb5 hW6
 clear c3_1 f3_1
 have c1_2 := (k7c B1_6).2.2.1
 go_wp2_with fail
 refine (toStringS_any B a2 n2 c2 ys _ (HA2.out _ hb6) (HBB.out _ hb6) hn2).mono ?_
 rintro e w7 ⟨vv, rfl, ownV, bw⟩
 obtain ⟨oV, pV, rfl⟩ := slice_of_owns ownV
 have hb7 := hbt hb6 bw
 have HM7 := hsz bw
 have HON_7 := hown HON_6 bw
 have B1_7 := hblk B1_6 bw
 have B2_7 := hblk B2_6 bw
 have B3_7 := hblk B3_6 bw
 have HOV_7 := hwd ownV hb6.size
 have LOV := hlo ownV
 clear ownV
 clear hb6 bw
 clear c1_2
 have c3_2 := (k7c B3_7).2.2.1
 have f3_2 := hfz B3_7 2
 go_upto_region 5 with fail
 obtain ⟨w8, hW8⟩ := exq (w7.setCell ⟨q3, 2, none⟩ (.slice oV n2 pV))
 rw [← hW8]
 have hb8 := hbS hW8 hb7 Gv3
 have HON_8 := hsetR hW8 (own_ne HON_7.out B3_7.out (by decide)) HON_7
 have HOV_8 := hsetR hW8 (own_ne HOV_7.out B3_7.out (by decide)) HOV_7
 have B1_8 := hset hW8 Nv1v3.out B1_7
 have B2_8 := hset hW8 Nv2v3.out B2_7
 have B3_8 := hput hW8 B3_7
 clear hb7 hW8
 clear c3_2 f3_2
 have c1_3 := (k7c B1_8).2.2.2.1
 have c1_4 := (k7c B1_8).2.2.2.2.1
 have c1_5 := (k7c B1_8).2.2.2.2.2.1
 go_wp2_with fail
 refine (toResp_any st a3 n3 c3 b fs B _ (HA3.out _ hb8) (HBB.out _ hb8) hn3).mono ?_
 rintro e w9 ⟨vv, rfl, ownF, bw⟩
 obtain ⟨oF, pF, rfl⟩ := slice_of_owns ownF
 have hb9 := hbt hb8 bw
 have HON_9 := hown HON_8 bw
 have HOV_9 := hown HOV_8 bw
 have B1_9 := hblk B1_8 bw
 have B2_9 := hblk B2_8 bw
 have B3_9 := hblk B3_8 bw
 have HOF_9 := hwd ownF hb8.size
 clear ownF
 clear hb8 bw
 clear c1_3 c1_4 c1_5
 have c3_3 := (k7c B3_9).2.2.2.1
 have f3_3 := hfz B3_9 3
 have c3_4 := (k7c B3_9).2.2.2.2.1
 have f3_4 := hfz B3_9 4
 have c3_5 := (k7c B3_9).2.2.2.2.2.1
 have f3_5 := hfz B3_9 5
 go_upto_region 6 with fail
 obtain ⟨w10, hW10⟩ := exq (w9.setCell ⟨q3, 3, none⟩ (.int .i64 st))
 rw [← hW10]
 have hb10 := hbS hW10 hb9 Gv3
 have HON_10 := hsetR hW10 (own_ne HON_9.out B3_9.out (by decide)) HON_9
 have HOV_10 := hsetR hW10 (own_ne HOV_9.out B3_9.out (by decide)) HOV_9
 have HOF_10 := hsetR hW10 (own_ne HOF_9.out B3_9.out (by decide)) HOF_9
 have B1_10 := hset hW10 Nv1v3.out B1_9
 have B2_10 := hset hW10 Nv2v3.out B2_9
 have B3_10 := hput hW10 B3_9
 clear hb9 hW10
 obtain ⟨w11, hW11⟩ := exq (w10.setCell ⟨q3, 4, none⟩ (.slice oF n3 pF))
 rw [← hW11]
 have hb11 := hbS hW11 hb10 Gv3
 have HON_11 := hsetR hW11 (own_ne HON_10.out B3_10.out (by decide)) HON_10
 have HOV_11 := hsetR hW11 (own_ne HOV_10.out B3_10.out (by decide)) HOV_10
 have HOF_11 := hsetR hW11 (own_ne HOF_10.out B3_10.out (by decide)) HOF_10
 have B1_11 := hset hW11 Nv1v3.out B1_10
 have B2_11 := hset hW11 Nv2v3.out B2_10
 have B3_11 := hput hW11 B3_10
 clear hb10 hW11
 obtain ⟨w12, hW12⟩ := exq (w11.setCell ⟨q3, 5, none⟩ (.string b))
 rw [← hW12]
 have hb12 := hbS hW12 hb11 Gv3
 have HON_12 := hsetR hW12 (own_ne HON_11.out B3_11.out (by decide)) HON_11
 have HOV_12 := hsetR hW12 (own_ne HOV_11.out B3_11.out (by decide)) HOV_11
 have HOF_12 := hsetR hW12 (own_ne HOF_11.out B3_11.out (by decide)) HOF_11
 have B1_12 := hset hW12 Nv1v3.out B1_11
 have B2_12 := hset hW12 Nv2v3.out B2_11
 have B3_12 := hput hW12 B3_11
 clear hb11 hW12
 clear c3_3 f3_3 c3_4 f3_4 c3_5 f3_5
 have c1_6 := (k7c B1_12).2.2.2.2.2.2
 have c3_6 := (k7c B3_12).2.2.2.2.2.2
 have f3_6 := hfz B3_12 6
 go_upto_region 7 with fail
 obtain ⟨w13, hW13⟩ := exq (w12.setCell ⟨q3, 6, none⟩ (.int .i64 t))
 rw [← hW13]
 have hb13 := hbS hW13 hb12 Gv3
 have HON_13 := hsetR hW13 (own_ne HON_12.out B3_12.out (by decide)) HON_12
 have HOV_13 := hsetR hW13 (own_ne HOV_12.out B3_12.out (by decide)) HOV_12
 have HOF_13 := hsetR hW13 (own_ne HOF_12.out B3_12.out (by decide)) HOF_12
 have B1_13 := hset hW13 Nv1v3.out B1_12
 have B2_13 := hset hW13 Nv2v3.out B2_12
 have B3_13 := hput hW13 B3_12
 clear hb12 hW13
 clear c1_6 c3_6 f3_6
 have c2_0 := (k7c B2_13).1
 have f2_0 := hfz B2_13 0
 have c2_1 := (k7c B2_13).2.1
 have f2_1 := hfz B2_13 1
 have c2_2 := (k7c B2_13).2.2.1
 have f2_2 := hfz B2_13 2
 have c2_3 := (k7c B2_13).2.2.2.1
 have f2_3 := hfz B2_13 3
 have c2_4 := (k7c B2_13).2.2.2.2.1
 have f2_4 := hfz B2_13 4
 have c2_5 := (k7c B2_13).2.2.2.2.2.1
 have f2_5 := hfz B2_13 5
 have c2_6 := (k7c B2_13).2.2.2.2.2.2
 have f2_6 := hfz B2_13 6
 have c3_0 := (k7c B3_13).1
 have c3_1 := (k7c B3_13).2.1
 have c3_2 := (k7c B3_13).2.2.1
 have c3_3 := (k7c B3_13).2.2.2.1
 have c3_4 := (k7c B3_13).2.2.2.2.1
 have c3_5 := (k7c B3_13).2.2.2.2.2.1
 have c3_6 := (k7c B3_13).2.2.2.2.2.2
 go_wp2_with fail
 obtain ⟨w14, hW14⟩ := exq (w13.setCell ⟨q2, 0, none⟩ (.string p))
 rw [← hW14]
 have hb14 := hbS hW14 hb13 Gv2
 have HON_14 := hsetR hW14 (own_ne HON_13.out B2_13.out (by decide)) HON_13
 have HOV_14 := hsetR hW14 (own_ne HOV_13.out B2_13.out (by decide)) HOV_13
 have HOF_14 := hsetR hW14 (own_ne HOF_13.out B2_13.out (by decide)) HOF_13
 have B1_14 := hset hW14 Nv1v2.out B1_13
 have B3_14 := hset hW14 Nv2v3.out.symm B3_13
 have B2_14 := hput hW14 B2_13
 clear hb13 hW14
 obtain ⟨w15, hW15⟩ := exq (w14.setCell ⟨q2, 1, none⟩ (.slice oN n1 pN))
 rw [← hW15]
 have hb15 := hbS hW15 hb14 Gv2
 have HON_15 := hsetR hW15 (own_ne HON_14.out B2_14.out (by decide)) HON_14
 have HOV_15 := hsetR hW15 (own_ne HOV_14.out B2_14.out (by decide)) HOV_14
 have HOF_15 := hsetR hW15 (own_ne HOF_14.out B2_14.out (by decide)) HOF_14
 have B1_15 := hset hW15 Nv1v2.out B1_14
 have B3_15 := hset hW15 Nv2v3.out.symm B3_14
 have B2_15 := hput hW15 B2_14
 clear hb14 hW15
 obtain ⟨w16, hW16⟩ := exq (w15.setCell ⟨q2, 2, none⟩ (.slice oV n2 pV))
 rw [← hW16]
 have hb16 := hbS hW16 hb15 Gv2
 have HON_16 := hsetR hW16 (own_ne HON_15.out B2_15.out (by decide)) HON_15
 have HOV_16 := hsetR hW16 (own_ne HOV_15.out B2_15.out (by decide)) HOV_15
 have HOF_16 := hsetR hW16 (own_ne HOF_15.out B2_15.out (by decide)) HOF_15
 have B1_16 := hset hW16 Nv1v2.out B1_15
 have B3_16 := hset hW16 Nv2v3.out.symm B3_15
 have B2_16 := hput hW16 B2_15
 clear hb15 hW16
 obtain ⟨w17, hW17⟩ := exq (w16.setCell ⟨q2, 3, none⟩ (.int .i64 st))
 rw [← hW17]
 have hb17 := hbS hW17 hb16 Gv2
 have HON_17 := hsetR hW17 (own_ne HON_16.out B2_16.out (by decide)) HON_16
 have HOV_17 := hsetR hW17 (own_ne HOV_16.out B2_16.out (by decide)) HOV_16
 have HOF_17 := hsetR hW17 (own_ne HOF_16.out B2_16.out (by decide)) HOF_16
 have B1_17 := hset hW17 Nv1v2.out B1_16
 have B3_17 := hset hW17 Nv2v3.out.symm B3_16
 have B2_17 := hput hW17 B2_16
 clear hb16 hW17
 obtain ⟨w18, hW18⟩ := exq (w17.setCell ⟨q2, 4, none⟩ (.slice oF n3 pF))
 rw [← hW18]
 have hb18 := hbS hW18 hb17 Gv2
 have HON_18 := hsetR hW18 (own_ne HON_17.out B2_17.out (by decide)) HON_17
 have HOV_18 := hsetR hW18 (own_ne HOV_17.out B2_17.out (by decide)) HOV_17
 have HOF_18 := hsetR hW18 (own_ne HOF_17.out B2_17.out (by decide)) HOF_17
 have B1_18 := hset hW18 Nv1v2.out B1_17
 have B3_18 := hset hW18 Nv2v3.out.symm B3_17
 have B2_18 := hput hW18 B2_17
 clear hb17 hW18
 obtain ⟨w19, hW19⟩ := exq (w18.setCell ⟨q2, 5, none⟩ (.string b))
 rw [← hW19]
 have hb19 := hbS hW19 hb18 Gv2
 have HON_19 := hsetR hW19 (own_ne HON_18.out B2_18.out (by decide)) HON_18
 have HOV_19 := hsetR hW19 (own_ne HOV_18.out B2_18.out (by decide)) HOV_18
 have HOF_19 := hsetR hW19 (own_ne HOF_18.out B2_18.out (by decide)) HOF_18
 have B1_19 := hset hW19 Nv1v2.out B1_18
 have B3_19 := hset hW19 Nv2v3.out.symm B3_18
 have B2_19 := hput hW19 B2_18
 clear hb18 hW19
 obtain ⟨w20, hW20⟩ := exq (w19.setCell ⟨q2, 6, none⟩ (.int .i64 t))
 rw [← hW20]
 have hb20 := hbS hW20 hb19 Gv2
 have HON_20 := hsetR hW20 (own_ne HON_19.out B2_19.out (by decide)) HON_19
 have HOV_20 := hsetR hW20 (own_ne HOV_19.out B2_19.out (by decide)) HOV_19
 have HOF_20 := hsetR hW20 (own_ne HOF_19.out B2_19.out (by decide)) HOF_19
 have B1_20 := hset hW20 Nv1v2.out B1_19
 have B3_20 := hset hW20 Nv2v3.out.symm B3_19
 have B2_20 := hput hW20 B2_19
 clear hb19 hW20
 have kv2_0 := (k7c B2_20).1
 have kv2_1 := (k7c B2_20).2.1
 have kv2_2 := (k7c B2_20).2.2.1
 have kv2_3 := (k7c B2_20).2.2.2.1
 have kv2_4 := (k7c B2_20).2.2.2.2.1
 have kv2_5 := (k7c B2_20).2.2.2.2.2.1
 have kv2_6 := (k7c B2_20).2.2.2.2.2.2
 refine bodyPost_ret (v := .agg #[.string p, .slice oN n1 pN, .slice oV n2 pV, .int .i64 st, .slice oF n3 pF, .string b, .int .i64 t]) (by simp [results, Tryz.results95, go_sem, kv2_0, kv2_1, kv2_2, kv2_3, kv2_4, kv2_5, kv2_6]) rfl ?_
 exact ⟨_, _, _, rfl, ⟨HON_20.out, HOV_20.out, HOF_20.out, fun g hg e => by have h1 := LOV.out g e; have h2 := HIN.out g hg; have := HM6.out; have := HM7.out; omega⟩, hb20⟩
theorem argUp {w : World} {B B' : Nat} {a : Oa} {n : Nat} {fs : Fs} (h : ArgF w B a n fs) (hB : B ≤ B') : ArgF w B' a n fs :=
 ⟨h.len, fun i hi => by
  obtain ⟨b, off, h1, h2, h3⟩ := h.get i hi
  exact ⟨b, off, h1, Nat.lt_of_lt_of_le h2 hB, h3⟩⟩
def SzObj (L : Int) (p : Tx) (n1 : Nat) (xs : Ts) (n2 : Nat) (ys : Ts) (n3 : Nat) (fs : Fs) (b : Tx) (w : World) (e : Ending) (w' : World) : Prop :=
 ∃ r : Int, e = .returned (.int .i64 r) ∧ r ≤ L ∧ (0 ≤ r → r + (n1 : Int) + (n2 : Int) + (n3 : Int) ≤ L ∧ (p.size ≤ 1048576 ∧ b.size ≤ 1048576) ∧ (n1 ≤ 1048576 ∧ ∀ i, i < n1 → (textAt xs i).size ≤ 1048576) ∧ (n2 ≤ 1048576 ∧ ∀ i, i < n2 → (textAt ys i).size ≤ 1048576) ∧ n3 ≤ 1048576 ∧ szTo fs n3 ≤ 1048576) ∧ Below w.heap.size w w'
theorem szObj_any (L : Int) (hL0 : 0 ≤ L) (hL1 : L ≤ 1048576) (p : Tx) (a1 : Oa) (n1 c1 : Nat) (xs : Ts) (a2 : Oa) (n2 c2 : Nat) (ys : Ts) (st : Int) (a3 : Oa) (n3 c3 : Nat) (fs : Fs) (b : Tx) (t : Int) (B : Nat) (w : World) (h1 : ArgT w B a1 n1 xs) (h2 : ArgT w B a2 n2 ys) (h3 : ArgF w B a3 n3 fs) (hB : B ≤ w.heap.size) (hn1 : n1 ≤ maxLen) (hn2 : n2 ≤ maxLen) (hn3 : n3 ≤ maxLen) (hs1 : ∀ i, i < n1 → (textAt xs i).size ≤ maxLen) (hs2 : ∀ i, i < n2 → (textAt ys i).size ≤ maxLen) (hs3 : WalkF n3 fs) (hp : p.size ≤ maxLen) (hx : b.size ≤ maxLen) :
  Calls Tryz.prog 86 #[.agg #[.string p, .slice a1 n1 c1, .slice a2 n2 c2, .int .i64 st, .slice a3 n3 c3, .string b, .int .i64 t], .int .i64 L] w fun e w' => SzObj L p n1 xs n2 ys n3 fs b w e w' := by
 have HA1 : Hid (∀ W, Below w.heap.size w W → ArgT W B a1 n1 xs) := fun W h => h1.below (h.mono hB)
 have HA2 : Hid (∀ W, Below w.heap.size w W → ArgT W B a2 n2 ys) := fun W h => h2.below (h.mono hB)
 have HA3 : Hid (∀ W, Below w.heap.size w W → ArgF W B a3 n3 fs) := fun W h => h3.below (h.mono hB)
 have HBB : Hid (∀ W, Below w.heap.size w W → B ≤ W.heap.size) := fun W h => Nat.le_trans hB h.size
 clear h1 h2 h3
 have HN1 := hid hn1
 have HN2 := hid hn2
 have HN3 := hid hn3
 have HS1 := hid hs1
 have HS2 := hid hs2
 have HS3 := hid hs3
 have HX := hid hx
 unfold maxLen at hp
 clear hs1 hs2 hs3 hn1 hn2 hn3 hx
 have hb0 := Below.refl w.heap.size w
 go_enter Tryz.func86, Tryz.ntmps86
 go_upto_region 1 with fail
 obtain ⟨q1, hq1⟩ := exq (w.heap.size)
 obtain ⟨w1, hW1⟩ := exq (w.alloc (.cells #[.string p, .slice a1 n1 c1, .slice a2 n2 c2, .int .i64 st, .slice a3 n3 c3, .string b, .int .i64 t] 104))
 have hz1 := hq1.symm
 rw [← hW1]; try rw [← hq1]
 have hs1 := hsa hW1 hz1
 have bw := bal hW1
 have hb1 := hbt hb0 bw
 have B1_1 := hnew hW1 hz1
 clear hb0 bw hW1 hz1
 clear hs1 hq1
 have c1_0 := (k7c B1_1).1
 by_cases hc1 : (L - (p.size : Int)) < 0
 ·go_wp2_with fail
  go_ret
  exact ⟨-1, rfl, by omega, fun h => absurd h (by omega), hb1⟩
 have c1_1 := (k7c B1_1).2.1
 go_wp2_with fail
 refine (szStringS_exact (L - (p.size : Int)) (by omega) (by omega) B a1 n1 c1 xs _ (HA1.out _ hb1) (HBB.out _ hb1) HN1.out HS1.out).mono ?_
 rintro e w2 ⟨r2, rfl, hlr2, hrr2, bw⟩
 have hb2 := hbt hb1 bw
 have B1_2 := hblk B1_1 bw
 clear hb1 bw
 clear c1_0 c1_1
 by_cases hc3 : r2 < 0
 ·clear hrr2
  go_wp2_with fail
  go_ret
  exact ⟨-1, rfl, by omega, fun h => absurd h (by omega), hb2⟩
 obtain ⟨her2, hnr2, hzr2⟩ := hrr2 (by omega)
 have HZr2 := (show Hid _ from hzr2)
 clear hrr2 hzr2
 have c1_2 := (k7c B1_2).2.2.1
 go_wp2_with fail
 refine (szStringS_exact r2 (by omega) (by omega) B a2 n2 c2 ys _ (HA2.out _ hb2) (HBB.out _ hb2) HN2.out HS2.out).mono ?_
 rintro e w3 ⟨r4, rfl, hlr4, hrr4, bw⟩
 have hb3 := hbt hb2 bw
 have B1_3 := hblk B1_2 bw
 clear hb2 bw
 clear c1_2
 by_cases hc5 : r4 < 0
 ·clear hrr4
  go_wp2_with fail
  go_ret
  exact ⟨-1, rfl, by omega, fun h => absurd h (by omega), hb3⟩
 obtain ⟨her4, hnr4, hzr4⟩ := hrr4 (by omega)
 have HZr4 := (show Hid _ from hzr4)
 clear hrr4 hzr4
 have c1_3 := (k7c B1_3).2.2.2.1
 have c1_4 := (k7c B1_3).2.2.2.2.1
 have c1_5 := (k7c B1_3).2.2.2.2.2.1
 go_wp2_with fail
 refine (szResp_room r4 (by omega) (by omega) st a3 n3 c3 b fs _ (argUp (HA3.out _ hb3) (HBB.out _ hb3)) HN3.out HS3.out HX.out).mono ?_
 rintro e w4 ⟨r6, rfl, hlr6, hrr6, bw⟩
 have hb4 := hbt hb3 bw
 have B1_4 := hblk B1_3 bw
 clear hb3 bw
 clear c1_3 c1_4 c1_5
 by_cases hc7 : r6 < 0
 ·clear hrr6
  go_wp2_with fail
  go_ret
  exact ⟨-1, rfl, by omega, fun h => absurd h (by omega), hb4⟩
 obtain ⟨her6, hxr6, hnr6, hzr6⟩ := hrr6 (by omega)
 clear hrr6
 go_wp2_with fail
 go_ret
 exact ⟨_, rfl, by omega, fun _ => ⟨by omega, ⟨by omega, by omega⟩, ⟨by omega, HZr2.out⟩, ⟨by omega, HZr4.out⟩, by omega, by omega⟩, hb4⟩
theorem eqObj_any (p : Tx) (n1 : Nat) (xs : Ts) (n2 : Nat) (ys : Ts) (st : Int) (n3 : Nat) (fs : Fs) (b : Tx) (t : Int) (v1 v2 v3 u1 u2 u3 : Value) (B1 B2 : Nat) (w : World) (hx : ObjO w B1 v1 n1 xs v2 n2 ys v3 n3 fs) (hy : ObjO w B2 u1 n1 xs u2 n2 ys u3 n3 fs) (hn1 : n1 ≤ 2000000) (hn2 : n2 ≤ 2000000) (hn3 : n3 ≤ 2000000) :
  Calls Tryz.prog 100 #[.agg #[.string p, v1, v2, .int .i64 st, v3, .string b, .int .i64 t], .agg #[.string p, u1, u2, .int .i64 st, u3, .string b, .int .i64 t]] w fun e w' => e = .returned (.bool true) ∧ Below w.heap.size w w' := by
 obtain ⟨oNx, pNx, rfl⟩ := slice_of_owns hx.names
 obtain ⟨oVx, pVx, rfl⟩ := slice_of_owns hx.vals
 obtain ⟨oFx, pFx, rfl⟩ := slice_of_owns hx.flds
 have HONx_0 : Hid (w.ownsRow B1 9 1 (.slice oNx n1 pNx) n1 (xs.map Value.string)) := hx.names
 have HOVx_0 : Hid (w.ownsRow B1 9 1 (.slice oVx n2 pVx) n2 (ys.map Value.string)) := hx.vals
 have HOFx_0 : Hid (w.ownsRow B1 139 2 (.slice oFx n3 pFx) n3 (flatF fs)) := hx.flds
 clear hx
 obtain ⟨oNy, pNy, rfl⟩ := slice_of_owns hy.names
 obtain ⟨oVy, pVy, rfl⟩ := slice_of_owns hy.vals
 obtain ⟨oFy, pFy, rfl⟩ := slice_of_owns hy.flds
 have HONy_0 : Hid (w.ownsRow B2 9 1 (.slice oNy n1 pNy) n1 (xs.map Value.string)) := hy.names
 have HOVy_0 : Hid (w.ownsRow B2 9 1 (.slice oVy n2 pVy) n2 (ys.map Value.string)) := hy.vals
 have HOFy_0 : Hid (w.ownsRow B2 139 2 (.slice oFy n3 pFy) n3 (flatF fs)) := hy.flds
 clear hy
 have hpp : (p.toList != p.toList) = false := by simp
 have htt : (t != t) = false := by simp
 have hb0 := Below.refl w.heap.size w
 go_enter Tryz.func100, Tryz.ntmps100
 go_upto_region 1 with fail
 obtain ⟨q1, hq1⟩ := exq (w.heap.size)
 obtain ⟨w1, hW1⟩ := exq (w.alloc (.cells #[.string p, .slice oNx n1 pNx, .slice oVx n2 pVx, .int .i64 st, .slice oFx n3 pFx, .string b, .int .i64 t] 51))
 have hz1 := hq1.symm
 rw [← hW1]; try rw [← hq1]
 have hs1 := hsa hW1 hz1
 have bw := bal hW1
 have hb1 := hbt hb0 bw
 have HONx_1 := hown HONx_0 bw
 have HOVx_1 := hown HOVx_0 bw
 have HOFx_1 := hown HOFx_0 bw
 have HONy_1 := hown HONy_0 bw
 have HOVy_1 := hown HOVy_0 bw
 have HOFy_1 := hown HOFy_0 bw
 have B1_1 := hnew hW1 hz1
 clear hb0 bw hW1 hz1
 obtain ⟨q2, hq2⟩ := exq (q1 + 1)
 obtain ⟨w2, hW2⟩ := exq (w1.alloc (.cells #[.string p, .slice oNy n1 pNy, .slice oVy n2 pVy, .int .i64 st, .slice oFy n3 pFy, .string b, .int .i64 t] 51))
 have hz2 : w1.heap.size = q2 := by rw [hq2]; exact hs1
 rw [← hW2]; try rw [← hq2]
 have hs2 := hsa hW2 hz2
 have bw := bal hW2
 have hb2 := hbt hb1 bw
 have HONx_2 := hown HONx_1 bw
 have HOVx_2 := hown HOVx_1 bw
 have HOFx_2 := hown HOFx_1 bw
 have HONy_2 := hown HONy_1 bw
 have HOVy_2 := hown HOVy_1 bw
 have HOFy_2 := hown HOFy_1 bw
 have B1_2 := hblk B1_1 bw
 have B2_2 := hnew hW2 hz2
 clear hb1 bw hW2 hz2
 clear hs2 hq2 hs1 hq1
 have c1_0 := (k7c B1_2).1
 have c2_0 := (k7c B2_2).1
 have c1_1 := (k7c B1_2).2.1
 have c2_1 := (k7c B2_2).2.1
 go_wp2_with fail
 refine (eqS_any _ _ n1 _ _ xs _ HONx_2.out HONy_2.out (by omega)).mono ?_
 rintro e w3 ⟨rfl, bw⟩
 have hb3 := hbt hb2 bw
 have HONx_3 := hown HONx_2 bw
 have HOVx_3 := hown HOVx_2 bw
 have HOFx_3 := hown HOFx_2 bw
 have HONy_3 := hown HONy_2 bw
 have HOVy_3 := hown HOVy_2 bw
 have HOFy_3 := hown HOFy_2 bw
 have B1_3 := hblk B1_2 bw
 have B2_3 := hblk B2_2 bw
 clear hb2 bw
 clear c1_0 c2_0 c1_1 c2_1
 have c1_2 := (k7c B1_3).2.2.1
 have c2_2 := (k7c B2_3).2.2.1
 go_wp2_with fail
 refine (eqS_any _ _ n2 _ _ ys _ HOVx_3.out HOVy_3.out (by omega)).mono ?_
 rintro e w4 ⟨rfl, bw⟩
 have hb4 := hbt hb3 bw
 have HONx_4 := hown HONx_3 bw
 have HOVx_4 := hown HOVx_3 bw
 have HOFx_4 := hown HOFx_3 bw
 have HONy_4 := hown HONy_3 bw
 have HOVy_4 := hown HOVy_3 bw
 have HOFy_4 := hown HOFy_3 bw
 have B1_4 := hblk B1_3 bw
 have B2_4 := hblk B2_3 bw
 clear hb3 bw
 clear c1_2 c2_2
 have c1_3 := (k7c B1_4).2.2.2.1
 have c1_4 := (k7c B1_4).2.2.2.2.1
 have c1_5 := (k7c B1_4).2.2.2.2.2.1
 have c2_3 := (k7c B2_4).2.2.2.1
 have c2_4 := (k7c B2_4).2.2.2.2.1
 have c2_5 := (k7c B2_4).2.2.2.2.2.1
 go_wp2_with fail
 refine (eqResp_any st _ _ b n3 _ _ fs _ (FieldsV.of_owns HOFx_4.out) (FieldsV.of_owns HOFy_4.out) (by omega)).mono ?_
 rintro e w5 ⟨rfl, bw⟩
 have hb5 := hbt hb4 bw
 have HONx_5 := hown HONx_4 bw
 have HOVx_5 := hown HOVx_4 bw
 have HOFx_5 := hown HOFx_4 bw
 have HONy_5 := hown HONy_4 bw
 have HOVy_5 := hown HOVy_4 bw
 have HOFy_5 := hown HOFy_4 bw
 have B1_5 := hblk B1_4 bw
 have B2_5 := hblk B2_4 bw
 clear hb4 bw
 clear c1_3 c1_4 c1_5 c2_3 c2_4 c2_5
 have c1_6 := (k7c B1_5).2.2.2.2.2.2
 have c2_6 := (k7c B2_5).2.2.2.2.2.2
 go_wp2_with fail
 go_ret
 exact ⟨rfl, hb5⟩
theorem toKept_any (p : Tx) (a1 : Oa) (n1 c1 : Nat) (xs : Ts) (a2 : Oa) (n2 c2 : Nat) (ys : Ts) (st : Int) (a3 : Oa) (n3 c3 : Nat) (fs : Fs) (b : Tx) (t ka kq : Int) (B : Nat) (w : World) (h1 : ArgT w B a1 n1 xs) (h2 : ArgT w B a2 n2 ys) (h3 : ArgF w B a3 n3 fs) (hB : B ≤ w.heap.size) (hn1 : n1 ≤ 1048576) (hn2 : n2 ≤ 1048576) (hn3 : n3 ≤ 1048576) :
  Calls Tryz.prog 57 #[.agg #[.string p, .slice a1 n1 c1, .slice a2 n2 c2, .int .i64 st, .slice a3 n3 c3, .string b, .int .i64 t, .int .i64 ka, .int .i64 kq]] w fun e w' => ∃ v1 v2 v3, e = .returned (.agg #[.string p, v1, v2, .int .i64 st, v3, .string b, .int .i64 t, .int .i64 ka, .int .i64 kq]) ∧ ObjO w' w.heap.size v1 n1 xs v2 n2 ys v3 n3 fs ∧ Below w.heap.size w w' := by
 have HA1 : Hid (∀ W, Below w.heap.size w W → ArgT W B a1 n1 xs) := fun W h => h1.below (h.mono hB)
 have HA2 : Hid (∀ W, Below w.heap.size w W → ArgT W B a2 n2 ys) := fun W h => h2.below (h.mono hB)
 have HA3 : Hid (∀ W, Below w.heap.size w W → ArgF W B a3 n3 fs) := fun W h => h3.below (h.mono hB)
 have HBB : Hid (∀ W, Below w.heap.size w W → B ≤ W.heap.size) := fun W h => Nat.le_trans hB h.size
 clear h1 h2 h3
 have hb0 := Below.refl w.heap.size w
 go_enter Tryz.func57, Tryz.ntmps57
 go_upto_region 1 with fail
 obtain ⟨q1, hq1⟩ := exq (w.heap.size)
 obtain ⟨w1, hW1⟩ := exq (w.alloc (.cells #[.string p, .slice a1 n1 c1, .slice a2 n2 c2, .int .i64 st, .slice a3 n3 c3, .string b, .int .i64 t, .int .i64 ka, .int .i64 kq] 106))
 have hz1 := hq1.symm
 rw [← hW1]; try rw [← hq1]
 have hs1 := hsa hW1 hz1
 have bw := bal hW1
 have hb1 := hbt hb0 bw
 have B1_1 := hnew hW1 hz1
 clear hb0 bw hW1 hz1
 obtain ⟨q2, hq2⟩ := exq (q1 + 1)
 obtain ⟨w2, hW2⟩ := exq (w1.alloc (.cells #[.string ⟨#[]⟩, .slice none 0 0, .slice none 0 0, .int .i64 0, .slice none 0 0, .string ⟨#[]⟩, .int .i64 0, .int .i64 0, .int .i64 0] 63))
 have hz2 : w1.heap.size = q2 := by rw [hq2]; exact hs1
 rw [← hW2]; try rw [← hq2]
 have hs2 := hsa hW2 hz2
 have bw := bal hW2
 have hb2 := hbt hb1 bw
 have B1_2 := hblk B1_1 bw
 have Nv1v2 := hnq B1_1 hz2
 have B2_2 := hnew hW2 hz2
 have Gv2 := hge hz2 hb1
 clear hb1 bw hW2 hz2
 clear hs2 hq2 hs1 hq1
 go_upto_region 2 with fail
 obtain ⟨q3, hq3⟩ := exq (w2.heap.size)
 obtain ⟨w3, hW3⟩ := exq (w2.alloc (.cells #[.string ⟨#[]⟩, .slice none 0 0, .slice none 0 0, .int .i64 0, .slice none 0 0, .string ⟨#[]⟩, .int .i64 0, .int .i64 0, .int .i64 0] 63))
 have hz3 := hq3.symm
 rw [← hW3]; try rw [← hq3]
 have hs3 := hsa hW3 hz3
 have bw := bal hW3
 have hb3 := hbt hb2 bw
 have B1_3 := hblk B1_2 bw
 have B2_3 := hblk B2_2 bw
 have Nv1v3 := hnq B1_2 hz3
 have Nv2v3 := hnq B2_2 hz3
 have B3_3 := hnew hW3 hz3
 have Gv3 := hge hz3 hb2
 clear hb2 bw hW3 hz3
 clear hs3 hq3
 have c1_0 := (k9c B1_3).1
 have c1_1 := (k9c B1_3).2.1
 have c1_2 := (k9c B1_3).2.2.1
 have c1_3 := (k9c B1_3).2.2.2.1
 have c1_4 := (k9c B1_3).2.2.2.2.1
 have c1_5 := (k9c B1_3).2.2.2.2.2.1
 have c1_6 := (k9c B1_3).2.2.2.2.2.2.1
 go_wp2_with fail
 refine (toObj_any p a1 n1 c1 xs a2 n2 c2 ys st a3 n3 c3 fs b t B _ (HA1.out _ hb3) (HA2.out _ hb3) (HA3.out _ hb3) (HBB.out _ hb3) hn1 hn2 hn3).mono ?_
 rintro e w4 ⟨vv1, vv2, vv3, rfl, ⟨ownN, ownV, ownF, neX⟩, bw⟩
 obtain ⟨oN, pN, rfl⟩ := slice_of_owns ownN
 obtain ⟨oV, pV, rfl⟩ := slice_of_owns ownV
 obtain ⟨oF, pF, rfl⟩ := slice_of_owns ownF
 have APX : Hid (∀ j, (Value.slice oN n1 pN).ownBlock = some j → (Value.slice oV n2 pV).ownBlock ≠ some j) := neX
 clear neX
 have hb4 := hbt hb3 bw
 have B1_4 := hblk B1_3 bw
 have B2_4 := hblk B2_3 bw
 have B3_4 := hblk B3_3 bw
 have HON_4 := hwd ownN hb3.size
 clear ownN
 have HOV_4 := hwd ownV hb3.size
 clear ownV
 have HOF_4 := hwd ownF hb3.size
 clear ownF
 clear hb3 bw
 clear c1_0 c1_1 c1_2 c1_3 c1_4 c1_5 c1_6
 have c3_0 := (k9c B3_4).1
 have f3_0 := hfz B3_4 0
 have c3_1 := (k9c B3_4).2.1
 have f3_1 := hfz B3_4 1
 have c3_2 := (k9c B3_4).2.2.1
 have f3_2 := hfz B3_4 2
 have c3_3 := (k9c B3_4).2.2.2.1
 have f3_3 := hfz B3_4 3
 have c3_4 := (k9c B3_4).2.2.2.2.1
 have f3_4 := hfz B3_4 4
 have c3_5 := (k9c B3_4).2.2.2.2.2.1
 have f3_5 := hfz B3_4 5
 have c3_6 := (k9c B3_4).2.2.2.2.2.2.1
 have f3_6 := hfz B3_4 6
 go_upto_region 3 with fail
 obtain ⟨w5, hW5⟩ := exq (w4.setCell ⟨q3, 0, none⟩ (.string p))
 rw [← hW5]
 have hb5 := hbS hW5 hb4 Gv3
 have HON_5 := hsetR hW5 (own_ne HON_4.out B3_4.out (by decide)) HON_4
 have HOV_5 := hsetR hW5 (own_ne HOV_4.out B3_4.out (by decide)) HOV_4
 have HOF_5 := hsetR hW5 (own_ne HOF_4.out B3_4.out (by decide)) HOF_4
 have B1_5 := hset hW5 Nv1v3.out B1_4
 have B2_5 := hset hW5 Nv2v3.out B2_4
 have B3_5 := hput hW5 B3_4
 clear hb4 hW5
 obtain ⟨w6, hW6⟩ := exq (w5.setCell ⟨q3, 1, none⟩ (.slice oN n1 pN))
 rw [← hW6]
 have hb6 := hbS hW6 hb5 Gv3
 have HON_6 := hsetR hW6 (own_ne HON_5.out B3_5.out (by decide)) HON_5
 have HOV_6 := hsetR hW6 (own_ne HOV_5.out B3_5.out (by decide)) HOV_5
 have HOF_6 := hsetR hW6 (own_ne HOF_5.out B3_5.out (by decide)) HOF_5
 have B1_6 := hset hW6 Nv1v3.out B1_5
 have B2_6 := hset hW6 Nv2v3.out B2_5
 have B3_6 := hput hW6 B3_5
 clear hb5 hW6
 obtain ⟨w7, hW7⟩ := exq (w6.setCell ⟨q3, 2, none⟩ (.slice oV n2 pV))
 rw [← hW7]
 have hb7 := hbS hW7 hb6 Gv3
 have HON_7 := hsetR hW7 (own_ne HON_6.out B3_6.out (by decide)) HON_6
 have HOV_7 := hsetR hW7 (own_ne HOV_6.out B3_6.out (by decide)) HOV_6
 have HOF_7 := hsetR hW7 (own_ne HOF_6.out B3_6.out (by decide)) HOF_6
 have B1_7 := hset hW7 Nv1v3.out B1_6
 have B2_7 := hset hW7 Nv2v3.out B2_6
 have B3_7 := hput hW7 B3_6
 clear hb6 hW7
 obtain ⟨w8, hW8⟩ := exq (w7.setCell ⟨q3, 3, none⟩ (.int .i64 st))
 rw [← hW8]
 have hb8 := hbS hW8 hb7 Gv3
 have HON_8 := hsetR hW8 (own_ne HON_7.out B3_7.out (by decide)) HON_7
 have HOV_8 := hsetR hW8 (own_ne HOV_7.out B3_7.out (by decide)) HOV_7
 have HOF_8 := hsetR hW8 (own_ne HOF_7.out B3_7.out (by decide)) HOF_7
 have B1_8 := hset hW8 Nv1v3.out B1_7
 have B2_8 := hset hW8 Nv2v3.out B2_7
 have B3_8 := hput hW8 B3_7
 clear hb7 hW8
 obtain ⟨w9, hW9⟩ := exq (w8.setCell ⟨q3, 4, none⟩ (.slice oF n3 pF))
 rw [← hW9]
 have hb9 := hbS hW9 hb8 Gv3
 have HON_9 := hsetR hW9 (own_ne HON_8.out B3_8.out (by decide)) HON_8
 have HOV_9 := hsetR hW9 (own_ne HOV_8.out B3_8.out (by decide)) HOV_8
 have HOF_9 := hsetR hW9 (own_ne HOF_8.out B3_8.out (by decide)) HOF_8
 have B1_9 := hset hW9 Nv1v3.out B1_8
 have B2_9 := hset hW9 Nv2v3.out B2_8
 have B3_9 := hput hW9 B3_8
 clear hb8 hW9
 obtain ⟨w10, hW10⟩ := exq (w9.setCell ⟨q3, 5, none⟩ (.string b))
 rw [← hW10]
 have hb10 := hbS hW10 hb9 Gv3
 have HON_10 := hsetR hW10 (own_ne HON_9.out B3_9.out (by decide)) HON_9
 have HOV_10 := hsetR hW10 (own_ne HOV_9.out B3_9.out (by decide)) HOV_9
 have HOF_10 := hsetR hW10 (own_ne HOF_9.out B3_9.out (by decide)) HOF_9
 have B1_10 := hset hW10 Nv1v3.out B1_9
 have B2_10 := hset hW10 Nv2v3.out B2_9
 have B3_10 := hput hW10 B3_9
 clear hb9 hW10
 obtain ⟨w11, hW11⟩ := exq (w10.setCell ⟨q3, 6, none⟩ (.int .i64 t))
 rw [← hW11]
 have hb11 := hbS hW11 hb10 Gv3
 have HON_11 := hsetR hW11 (own_ne HON_10.out B3_10.out (by decide)) HON_10
 have HOV_11 := hsetR hW11 (own_ne HOV_10.out B3_10.out (by decide)) HOV_10
 have HOF_11 := hsetR hW11 (own_ne HOF_10.out B3_10.out (by decide)) HOF_10
 have B1_11 := hset hW11 Nv1v3.out B1_10
 have B2_11 := hset hW11 Nv2v3.out B2_10
 have B3_11 := hput hW11 B3_10
 clear hb10 hW11
 clear c3_0 f3_0 c3_1 f3_1 c3_2 f3_2 c3_3 f3_3 c3_4 f3_4 c3_5 f3_5 c3_6 f3_6
 have c1_7 := (k9c B1_11).2.2.2.2.2.2.2.1
 have c3_7 := (k9c B3_11).2.2.2.2.2.2.2.1
 have f3_7 := hfz B3_11 7
 go_upto_region 4 with fail
 obtain ⟨w12, hW12⟩ := exq (w11.setCell ⟨q3, 7, none⟩ (.int .i64 ka))
 rw [← hW12]
 have hb12 := hbS hW12 hb11 Gv3
 have HON_12 := hsetR hW12 (own_ne HON_11.out B3_11.out (by decide)) HON_11
 have HOV_12 := hsetR hW12 (own_ne HOV_11.out B3_11.out (by decide)) HOV_11
 have HOF_12 := hsetR hW12 (own_ne HOF_11.out B3_11.out (by decide)) HOF_11
 have B1_12 := hset hW12 Nv1v3.out B1_11
 have B2_12 := hset hW12 Nv2v3.out B2_11
 have B3_12 := hput hW12 B3_11
 clear hb11 hW12
 clear c1_7 c3_7 f3_7
 have c1_8 := (k9c B1_12).2.2.2.2.2.2.2.2
 have c3_8 := (k9c B3_12).2.2.2.2.2.2.2.2
 have f3_8 := hfz B3_12 8
 go_upto_region 5 with fail
 obtain ⟨w13, hW13⟩ := exq (w12.setCell ⟨q3, 8, none⟩ (.int .i64 kq))
 rw [← hW13]
 have hb13 := hbS hW13 hb12 Gv3
 have HON_13 := hsetR hW13 (own_ne HON_12.out B3_12.out (by decide)) HON_12
 have HOV_13 := hsetR hW13 (own_ne HOV_12.out B3_12.out (by decide)) HOV_12
 have HOF_13 := hsetR hW13 (own_ne HOF_12.out B3_12.out (by decide)) HOF_12
 have B1_13 := hset hW13 Nv1v3.out B1_12
 have B2_13 := hset hW13 Nv2v3.out B2_12
 have B3_13 := hput hW13 B3_12
 clear hb12 hW13
 clear c1_8 c3_8 f3_8
 have c2_0 := (k9c B2_13).1
 have f2_0 := hfz B2_13 0
 have c2_1 := (k9c B2_13).2.1
 have f2_1 := hfz B2_13 1
 have c2_2 := (k9c B2_13).2.2.1
 have f2_2 := hfz B2_13 2
 have c2_3 := (k9c B2_13).2.2.2.1
 have f2_3 := hfz B2_13 3
 have c2_4 := (k9c B2_13).2.2.2.2.1
 have f2_4 := hfz B2_13 4
 have c2_5 := (k9c B2_13).2.2.2.2.2.1
 have f2_5 := hfz B2_13 5
 have c2_6 := (k9c B2_13).2.2.2.2.2.2.1
 have f2_6 := hfz B2_13 6
 have c2_7 := (k9c B2_13).2.2.2.2.2.2.2.1
 have f2_7 := hfz B2_13 7
 have c2_8 := (k9c B2_13).2.2.2.2.2.2.2.2
 have f2_8 := hfz B2_13 8
 have c3_0 := (k9c B3_13).1
 have c3_1 := (k9c B3_13).2.1
 have c3_2 := (k9c B3_13).2.2.1
 have c3_3 := (k9c B3_13).2.2.2.1
 have c3_4 := (k9c B3_13).2.2.2.2.1
 have c3_5 := (k9c B3_13).2.2.2.2.2.1
 have c3_6 := (k9c B3_13).2.2.2.2.2.2.1
 have c3_7 := (k9c B3_13).2.2.2.2.2.2.2.1
 have c3_8 := (k9c B3_13).2.2.2.2.2.2.2.2
 go_wp2_with fail
 obtain ⟨w14, hW14⟩ := exq (w13.setCell ⟨q2, 0, none⟩ (.string p))
 rw [← hW14]
 have hb14 := hbS hW14 hb13 Gv2
 have HON_14 := hsetR hW14 (own_ne HON_13.out B2_13.out (by decide)) HON_13
 have HOV_14 := hsetR hW14 (own_ne HOV_13.out B2_13.out (by decide)) HOV_13
 have HOF_14 := hsetR hW14 (own_ne HOF_13.out B2_13.out (by decide)) HOF_13
 have B1_14 := hset hW14 Nv1v2.out B1_13
 have B3_14 := hset hW14 Nv2v3.out.symm B3_13
 have B2_14 := hput hW14 B2_13
 clear hb13 hW14
 obtain ⟨w15, hW15⟩ := exq (w14.setCell ⟨q2, 1, none⟩ (.slice oN n1 pN))
 rw [← hW15]
 have hb15 := hbS hW15 hb14 Gv2
 have HON_15 := hsetR hW15 (own_ne HON_14.out B2_14.out (by decide)) HON_14
 have HOV_15 := hsetR hW15 (own_ne HOV_14.out B2_14.out (by decide)) HOV_14
 have HOF_15 := hsetR hW15 (own_ne HOF_14.out B2_14.out (by decide)) HOF_14
 have B1_15 := hset hW15 Nv1v2.out B1_14
 have B3_15 := hset hW15 Nv2v3.out.symm B3_14
 have B2_15 := hput hW15 B2_14
 clear hb14 hW15
 obtain ⟨w16, hW16⟩ := exq (w15.setCell ⟨q2, 2, none⟩ (.slice oV n2 pV))
 rw [← hW16]
 have hb16 := hbS hW16 hb15 Gv2
 have HON_16 := hsetR hW16 (own_ne HON_15.out B2_15.out (by decide)) HON_15
 have HOV_16 := hsetR hW16 (own_ne HOV_15.out B2_15.out (by decide)) HOV_15
 have HOF_16 := hsetR hW16 (own_ne HOF_15.out B2_15.out (by decide)) HOF_15
 have B1_16 := hset hW16 Nv1v2.out B1_15
 have B3_16 := hset hW16 Nv2v3.out.symm B3_15
 have B2_16 := hput hW16 B2_15
 clear hb15 hW16
 obtain ⟨w17, hW17⟩ := exq (w16.setCell ⟨q2, 3, none⟩ (.int .i64 st))
 rw [← hW17]
 have hb17 := hbS hW17 hb16 Gv2
 have HON_17 := hsetR hW17 (own_ne HON_16.out B2_16.out (by decide)) HON_16
 have HOV_17 := hsetR hW17 (own_ne HOV_16.out B2_16.out (by decide)) HOV_16
 have HOF_17 := hsetR hW17 (own_ne HOF_16.out B2_16.out (by decide)) HOF_16
 have B1_17 := hset hW17 Nv1v2.out B1_16
 have B3_17 := hset hW17 Nv2v3.out.symm B3_16
 have B2_17 := hput hW17 B2_16
 clear hb16 hW17
 obtain ⟨w18, hW18⟩ := exq (w17.setCell ⟨q2, 4, none⟩ (.slice oF n3 pF))
 rw [← hW18]
 have hb18 := hbS hW18 hb17 Gv2
 have HON_18 := hsetR hW18 (own_ne HON_17.out B2_17.out (by decide)) HON_17
 have HOV_18 := hsetR hW18 (own_ne HOV_17.out B2_17.out (by decide)) HOV_17
 have HOF_18 := hsetR hW18 (own_ne HOF_17.out B2_17.out (by decide)) HOF_17
 have B1_18 := hset hW18 Nv1v2.out B1_17
 have B3_18 := hset hW18 Nv2v3.out.symm B3_17
 have B2_18 := hput hW18 B2_17
 clear hb17 hW18
 obtain ⟨w19, hW19⟩ := exq (w18.setCell ⟨q2, 5, none⟩ (.string b))
 rw [← hW19]
 have hb19 := hbS hW19 hb18 Gv2
 have HON_19 := hsetR hW19 (own_ne HON_18.out B2_18.out (by decide)) HON_18
 have HOV_19 := hsetR hW19 (own_ne HOV_18.out B2_18.out (by decide)) HOV_18
 have HOF_19 := hsetR hW19 (own_ne HOF_18.out B2_18.out (by decide)) HOF_18
 have B1_19 := hset hW19 Nv1v2.out B1_18
 have B3_19 := hset hW19 Nv2v3.out.symm B3_18
 have B2_19 := hput hW19 B2_18
 clear hb18 hW19
 obtain ⟨w20, hW20⟩ := exq (w19.setCell ⟨q2, 6, none⟩ (.int .i64 t))
 rw [← hW20]
 have hb20 := hbS hW20 hb19 Gv2
 have HON_20 := hsetR hW20 (own_ne HON_19.out B2_19.out (by decide)) HON_19
 have HOV_20 := hsetR hW20 (own_ne HOV_19.out B2_19.out (by decide)) HOV_19
 have HOF_20 := hsetR hW20 (own_ne HOF_19.out B2_19.out (by decide)) HOF_19
 have B1_20 := hset hW20 Nv1v2.out B1_19
 have B3_20 := hset hW20 Nv2v3.out.symm B3_19
 have B2_20 := hput hW20 B2_19
 clear hb19 hW20
 obtain ⟨w21, hW21⟩ := exq (w20.setCell ⟨q2, 7, none⟩ (.int .i64 ka))
 rw [← hW21]
 have hb21 := hbS hW21 hb20 Gv2
 have HON_21 := hsetR hW21 (own_ne HON_20.out B2_20.out (by decide)) HON_20
 have HOV_21 := hsetR hW21 (own_ne HOV_20.out B2_20.out (by decide)) HOV_20
 have HOF_21 := hsetR hW21 (own_ne HOF_20.out B2_20.out (by decide)) HOF_20
 have B1_21 := hset hW21 Nv1v2.out B1_20
 have B3_21 := hset hW21 Nv2v3.out.symm B3_20
 have B2_21 := hput hW21 B2_20
 clear hb20 hW21
 obtain ⟨w22, hW22⟩ := exq (w21.setCell ⟨q2, 8, none⟩ (.int .i64 kq))
 rw [← hW22]
 have hb22 := hbS hW22 hb21 Gv2
 have HON_22 := hsetR hW22 (own_ne HON_21.out B2_21.out (by decide)) HON_21
 have HOV_22 := hsetR hW22 (own_ne HOV_21.out B2_21.out (by decide)) HOV_21
 have HOF_22 := hsetR hW22 (own_ne HOF_21.out B2_21.out (by decide)) HOF_21
 have B1_22 := hset hW22 Nv1v2.out B1_21
 have B3_22 := hset hW22 Nv2v3.out.symm B3_21
 have B2_22 := hput hW22 B2_21
 clear hb21 hW22
 have kv2_0 := (k9c B2_22).1
 have kv2_1 := (k9c B2_22).2.1
 have kv2_2 := (k9c B2_22).2.2.1
 have kv2_3 := (k9c B2_22).2.2.2.1
 have kv2_4 := (k9c B2_22).2.2.2.2.1
 have kv2_5 := (k9c B2_22).2.2.2.2.2.1
 have kv2_6 := (k9c B2_22).2.2.2.2.2.2.1
 have kv2_7 := (k9c B2_22).2.2.2.2.2.2.2.1
 have kv2_8 := (k9c B2_22).2.2.2.2.2.2.2.2
 refine bodyPost_ret (v := .agg #[.string p, .slice oN n1 pN, .slice oV n2 pV, .int .i64 st, .slice oF n3 pF, .string b, .int .i64 t, .int .i64 ka, .int .i64 kq]) (by simp [results, Tryz.results57, go_sem, kv2_0, kv2_1, kv2_2, kv2_3, kv2_4, kv2_5, kv2_6, kv2_7, kv2_8]) rfl ?_
 exact ⟨_, _, _, rfl, ⟨HON_22.out, HOV_22.out, HOF_22.out, APX.out⟩, hb22⟩
theorem szKept_any (L : Int) (hL0 : 0 ≤ L) (hL1 : L ≤ 1048576) (p : Tx) (a1 : Oa) (n1 c1 : Nat) (xs : Ts) (a2 : Oa) (n2 c2 : Nat) (ys : Ts) (st : Int) (a3 : Oa) (n3 c3 : Nat) (fs : Fs) (b : Tx) (t ka kq : Int) (B : Nat) (w : World) (h1 : ArgT w B a1 n1 xs) (h2 : ArgT w B a2 n2 ys) (h3 : ArgF w B a3 n3 fs) (hB : B ≤ w.heap.size) (hn1 : n1 ≤ maxLen) (hn2 : n2 ≤ maxLen) (hn3 : n3 ≤ maxLen) (hs1 : ∀ i, i < n1 → (textAt xs i).size ≤ maxLen) (hs2 : ∀ i, i < n2 → (textAt ys i).size ≤ maxLen) (hs3 : WalkF n3 fs) (hp : p.size ≤ maxLen) (hx : b.size ≤ maxLen) :
  Calls Tryz.prog 50 #[.agg #[.string p, .slice a1 n1 c1, .slice a2 n2 c2, .int .i64 st, .slice a3 n3 c3, .string b, .int .i64 t, .int .i64 ka, .int .i64 kq], .int .i64 L] w fun e w' => SzObj L p n1 xs n2 ys n3 fs b w e w' := by
 have HA1 : Hid (∀ W, Below w.heap.size w W → ArgT W B a1 n1 xs) := fun W h => h1.below (h.mono hB)
 have HA2 : Hid (∀ W, Below w.heap.size w W → ArgT W B a2 n2 ys) := fun W h => h2.below (h.mono hB)
 have HA3 : Hid (∀ W, Below w.heap.size w W → ArgF W B a3 n3 fs) := fun W h => h3.below (h.mono hB)
 have HBB : Hid (∀ W, Below w.heap.size w W → B ≤ W.heap.size) := fun W h => Nat.le_trans hB h.size
 clear h1 h2 h3
 have HQ : Hid (n1 ≤ maxLen ∧ n2 ≤ maxLen ∧ n3 ≤ maxLen ∧ (∀ i, i < n1 → (textAt xs i).size ≤ maxLen) ∧ (∀ i, i < n2 → (textAt ys i).size ≤ maxLen) ∧ WalkF n3 fs ∧ p.size ≤ maxLen ∧ b.size ≤ maxLen) := ⟨hn1, hn2, hn3, hs1, hs2, hs3, hp, hx⟩
 clear hn1 hn2 hn3 hs1 hs2 hs3 hp hx
 have hb0 := Below.refl w.heap.size w
 go_enter Tryz.func50, Tryz.ntmps50
 go_upto_region 1 with fail
 obtain ⟨q1, hq1⟩ := exq (w.heap.size)
 obtain ⟨w1, hW1⟩ := exq (w.alloc (.cells #[.string p, .slice a1 n1 c1, .slice a2 n2 c2, .int .i64 st, .slice a3 n3 c3, .string b, .int .i64 t, .int .i64 ka, .int .i64 kq] 106))
 have hz1 := hq1.symm
 rw [← hW1]; try rw [← hq1]
 have hs1 := hsa hW1 hz1
 have bw := bal hW1
 have hb1 := hbt hb0 bw
 have B1_1 := hnew hW1 hz1
 clear hb0 bw hW1 hz1
 clear hs1 hq1
 have c1_0 := (k9c B1_1).1
 have c1_1 := (k9c B1_1).2.1
 have c1_2 := (k9c B1_1).2.2.1
 have c1_3 := (k9c B1_1).2.2.2.1
 have c1_4 := (k9c B1_1).2.2.2.2.1
 have c1_5 := (k9c B1_1).2.2.2.2.2.1
 have c1_6 := (k9c B1_1).2.2.2.2.2.2.1
 go_wp2_with fail
 refine (szObj_any L (by omega) (by omega) p a1 n1 c1 xs a2 n2 c2 ys st a3 n3 c3 fs b t B _ (HA1.out _ hb1) (HA2.out _ hb1) (HA3.out _ hb1) (HBB.out _ hb1) HQ.out.1 HQ.out.2.1 HQ.out.2.2.1 HQ.out.2.2.2.1 HQ.out.2.2.2.2.1 HQ.out.2.2.2.2.2.1 HQ.out.2.2.2.2.2.2.1 HQ.out.2.2.2.2.2.2.2).mono ?_
 rintro e w2 ⟨r1, rfl, hl1, hr1, bw⟩
 have HR1 := hid hr1
 clear hr1
 have hb2 := hbt hb1 bw
 have B1_2 := hblk B1_1 bw
 clear hb1 bw
 clear c1_0 c1_1 c1_2 c1_3 c1_4 c1_5 c1_6
 by_cases hc1 : r1 < 0
 rotate_left
 ·go_wp2_with fail
  go_ret
  exact ⟨r1, rfl, by omega, HR1.out, hb2⟩
 go_wp2_with fail
 go_ret
 exact ⟨-1, rfl, by omega, fun h => absurd h (by omega), hb2⟩
theorem eqKept_any (p : Tx) (n1 : Nat) (xs : Ts) (n2 : Nat) (ys : Ts) (st : Int) (n3 : Nat) (fs : Fs) (b : Tx) (t ka kq : Int) (v1 v2 v3 u1 u2 u3 : Value) (B1 B2 : Nat) (w : World) (hx : ObjO w B1 v1 n1 xs v2 n2 ys v3 n3 fs) (hy : ObjO w B2 u1 n1 xs u2 n2 ys u3 n3 fs) (hn1 : n1 ≤ 2000000) (hn2 : n2 ≤ 2000000) (hn3 : n3 ≤ 2000000) :
  Calls Tryz.prog 62 #[.agg #[.string p, v1, v2, .int .i64 st, v3, .string b, .int .i64 t, .int .i64 ka, .int .i64 kq], .agg #[.string p, u1, u2, .int .i64 st, u3, .string b, .int .i64 t, .int .i64 ka, .int .i64 kq]] w fun e w' => e = .returned (.bool true) ∧ Below w.heap.size w w' := by
 obtain ⟨oNx, pNx, rfl⟩ := slice_of_owns hx.names
 obtain ⟨oVx, pVx, rfl⟩ := slice_of_owns hx.vals
 obtain ⟨oFx, pFx, rfl⟩ := slice_of_owns hx.flds
 have HONx_0 : Hid (w.ownsRow B1 9 1 (.slice oNx n1 pNx) n1 (xs.map Value.string)) := hx.names
 have HOVx_0 : Hid (w.ownsRow B1 9 1 (.slice oVx n2 pVx) n2 (ys.map Value.string)) := hx.vals
 have HOFx_0 : Hid (w.ownsRow B1 139 2 (.slice oFx n3 pFx) n3 (flatF fs)) := hx.flds
 have APx : Hid (∀ j, (Value.slice oNx n1 pNx).ownBlock = some j → (Value.slice oVx n2 pVx).ownBlock ≠ some j) := hx.ne
 clear hx
 obtain ⟨oNy, pNy, rfl⟩ := slice_of_owns hy.names
 obtain ⟨oVy, pVy, rfl⟩ := slice_of_owns hy.vals
 obtain ⟨oFy, pFy, rfl⟩ := slice_of_owns hy.flds
 have HONy_0 : Hid (w.ownsRow B2 9 1 (.slice oNy n1 pNy) n1 (xs.map Value.string)) := hy.names
 have HOVy_0 : Hid (w.ownsRow B2 9 1 (.slice oVy n2 pVy) n2 (ys.map Value.string)) := hy.vals
 have HOFy_0 : Hid (w.ownsRow B2 139 2 (.slice oFy n3 pFy) n3 (flatF fs)) := hy.flds
 have APy : Hid (∀ j, (Value.slice oNy n1 pNy).ownBlock = some j → (Value.slice oVy n2 pVy).ownBlock ≠ some j) := hy.ne
 clear hy
 have hka : (ka != ka) = false := by simp
 have hkq : (kq != kq) = false := by simp
 have hb0 := Below.refl w.heap.size w
 go_enter Tryz.func62, Tryz.ntmps62
 go_upto_region 1 with fail
 obtain ⟨q1, hq1⟩ := exq (w.heap.size)
 obtain ⟨w1, hW1⟩ := exq (w.alloc (.cells #[.string p, .slice oNx n1 pNx, .slice oVx n2 pVx, .int .i64 st, .slice oFx n3 pFx, .string b, .int .i64 t, .int .i64 ka, .int .i64 kq] 63))
 have hz1 := hq1.symm
 rw [← hW1]; try rw [← hq1]
 have hs1 := hsa hW1 hz1
 have bw := bal hW1
 have hb1 := hbt hb0 bw
 have HONx_1 := hown HONx_0 bw
 have HOVx_1 := hown HOVx_0 bw
 have HOFx_1 := hown HOFx_0 bw
 have HONy_1 := hown HONy_0 bw
 have HOVy_1 := hown HOVy_0 bw
 have HOFy_1 := hown HOFy_0 bw
 have B1_1 := hnew hW1 hz1
 clear hb0 bw hW1 hz1
 obtain ⟨q2, hq2⟩ := exq (q1 + 1)
 obtain ⟨w2, hW2⟩ := exq (w1.alloc (.cells #[.string p, .slice oNy n1 pNy, .slice oVy n2 pVy, .int .i64 st, .slice oFy n3 pFy, .string b, .int .i64 t, .int .i64 ka, .int .i64 kq] 63))
 have hz2 : w1.heap.size = q2 := by rw [hq2]; exact hs1
 rw [← hW2]; try rw [← hq2]
 have hs2 := hsa hW2 hz2
 have bw := bal hW2
 have hb2 := hbt hb1 bw
 have HONx_2 := hown HONx_1 bw
 have HOVx_2 := hown HOVx_1 bw
 have HOFx_2 := hown HOFx_1 bw
 have HONy_2 := hown HONy_1 bw
 have HOVy_2 := hown HOVy_1 bw
 have HOFy_2 := hown HOFy_1 bw
 have B1_2 := hblk B1_1 bw
 have B2_2 := hnew hW2 hz2
 clear hb1 bw hW2 hz2
 clear hs2 hq2 hs1 hq1
 have c1_0 := (k9c B1_2).1
 have c1_1 := (k9c B1_2).2.1
 have c1_2 := (k9c B1_2).2.2.1
 have c1_3 := (k9c B1_2).2.2.2.1
 have c1_4 := (k9c B1_2).2.2.2.2.1
 have c1_5 := (k9c B1_2).2.2.2.2.2.1
 have c1_6 := (k9c B1_2).2.2.2.2.2.2.1
 have c2_0 := (k9c B2_2).1
 have c2_1 := (k9c B2_2).2.1
 have c2_2 := (k9c B2_2).2.2.1
 have c2_3 := (k9c B2_2).2.2.2.1
 have c2_4 := (k9c B2_2).2.2.2.2.1
 have c2_5 := (k9c B2_2).2.2.2.2.2.1
 have c2_6 := (k9c B2_2).2.2.2.2.2.2.1
 go_wp2_with fail
 refine (eqObj_any p n1 xs n2 ys st n3 fs b t _ _ _ _ _ _ _ _ _ ⟨HONx_2.out, HOVx_2.out, HOFx_2.out, APx.out⟩ ⟨HONy_2.out, HOVy_2.out, HOFy_2.out, APy.out⟩ hn1 hn2 hn3).mono ?_
 rintro e w3 ⟨rfl, bw⟩
 have hb3 := hbt hb2 bw
 have HONx_3 := hown HONx_2 bw
 have HOVx_3 := hown HOVx_2 bw
 have HOFx_3 := hown HOFx_2 bw
 have HONy_3 := hown HONy_2 bw
 have HOVy_3 := hown HOVy_2 bw
 have HOFy_3 := hown HOFy_2 bw
 have B1_3 := hblk B1_2 bw
 have B2_3 := hblk B2_2 bw
 clear hb2 bw
 clear c1_0 c1_1 c1_2 c1_3 c1_4 c1_5 c1_6 c2_0 c2_1 c2_2 c2_3 c2_4 c2_5 c2_6
 have c1_7 := (k9c B1_3).2.2.2.2.2.2.2.1
 have c2_7 := (k9c B2_3).2.2.2.2.2.2.2.1
 have c1_8 := (k9c B1_3).2.2.2.2.2.2.2.2
 have c2_8 := (k9c B2_3).2.2.2.2.2.2.2.2
 go_wp2_with fail
 go_ret
 exact ⟨rfl, hb3⟩
def KpArg (w : World) (B b off i : Nat) (k : KpD) : Prop :=
 ∃ (a1 : Oa) (n1 c1 : Nat) (a2 : Oa) (n2 c2 : Nat) (a3 : Oa) (n3 c3 : Nat), (w.cell? ⟨b, off + i * 9, none⟩ = some (.string k.p) ∧ w.cell? ⟨b, off + i * 9 + 1, none⟩ = some (.slice a1 n1 c1) ∧ w.cell? ⟨b, off + i * 9 + 2, none⟩ = some (.slice a2 n2 c2) ∧ w.cell? ⟨b, off + i * 9 + 3, none⟩ = some (.int .i64 k.st) ∧ w.cell? ⟨b, off + i * 9 + 4, none⟩ = some (.slice a3 n3 c3) ∧ w.cell? ⟨b, off + i * 9 + 5, none⟩ = some (.string k.b) ∧ w.cell? ⟨b, off + i * 9 + 6, none⟩ = some (.int .i64 k.t) ∧ w.cell? ⟨b, off + i * 9 + 7, none⟩ = some (.int .i64 k.a) ∧ w.cell? ⟨b, off + i * 9 + 8, none⟩ = some (.int .i64 k.q)) ∧ ArgT w B a1 n1 k.xs ∧ ArgT w B a2 n2 k.ys ∧ ArgF w B a3 n3 k.fs
def ArgKept (w : World) (B : Nat) (a : Oa) (n : Nat) (ks : List KpD) : Prop :=
 ks.length = n ∧ ∀ i, i < n → ∃ b off, a = some ⟨b, off, none⟩ ∧ b < B ∧ KpArg w B b off i (kpAt ks i)
theorem ArgKept.below {w w' : World} {B : Nat} {a : Oa} {n : Nat} {ks : List KpD} (h : ArgKept w B a n ks) (hb : Below B w w') : ArgKept w' B a n ks :=
 ⟨h.1, fun i hi => by
  obtain ⟨b, off, h1, h2, a1, n1, c1, a2, n2, c2, a3, n3, c3, ⟨r0, r1, r2, r3, r4, r5, r6, r7, r8⟩, g1, g2, g3⟩ := h.2 i hi
  exact ⟨b, off, h1, h2, a1, n1, c1, a2, n2, c2, a3, n3, c3, ⟨by rw [hb.cell (p := ⟨b, off + i * 9, none⟩) h2]; exact r0, by rw [hb.cell (p := ⟨b, off + i * 9 + 1, none⟩) h2]; exact r1, by rw [hb.cell (p := ⟨b, off + i * 9 + 2, none⟩) h2]; exact r2, by rw [hb.cell (p := ⟨b, off + i * 9 + 3, none⟩) h2]; exact r3, by rw [hb.cell (p := ⟨b, off + i * 9 + 4, none⟩) h2]; exact r4, by rw [hb.cell (p := ⟨b, off + i * 9 + 5, none⟩) h2]; exact r5, by rw [hb.cell (p := ⟨b, off + i * 9 + 6, none⟩) h2]; exact r6, by rw [hb.cell (p := ⟨b, off + i * 9 + 7, none⟩) h2]; exact r7, by rw [hb.cell (p := ⟨b, off + i * 9 + 8, none⟩) h2]; exact r8⟩, g1.below hb, g2.below hb, g3.below hb⟩⟩
def KpMax (k : KpD) : Prop := k.xs.length ≤ maxLen ∧ k.ys.length ≤ maxLen ∧ k.fs.length ≤ maxLen ∧ (∀ i, i < k.xs.length → (textAt k.xs i).size ≤ maxLen) ∧ (∀ i, i < k.ys.length → (textAt k.ys i).size ≤ maxLen) ∧ WalkF k.fs.length k.fs ∧ k.p.size ≤ maxLen ∧ k.b.size ≤ maxLen
def KpSmall (k : KpD) : Prop := (k.p.size ≤ 1048576 ∧ k.b.size ≤ 1048576) ∧ (k.xs.length ≤ 1048576 ∧ ∀ i, i < k.xs.length → (textAt k.xs i).size ≤ 1048576) ∧ (k.ys.length ≤ 1048576 ∧ ∀ i, i < k.ys.length → (textAt k.ys i).size ≤ 1048576) ∧ k.fs.length ≤ 1048576 ∧ szTo k.fs k.fs.length ≤ 1048576
def wtK : List KpD → Nat
 | [] => 0
 | k :: r => 1 + k.xs.length + k.ys.length + k.fs.length + wtK r
theorem wtK_snoc (k : KpD) : ∀ l : List KpD, wtK (l ++ [k]) = wtK l + (1 + k.xs.length + k.ys.length + k.fs.length)
 | [] => by simp [wtK]
 | x :: l => by rw [List.cons_append, wtK, wtK_snoc k l, wtK]; omega
theorem objO_rows {w : World} {B : Nat} {v1 v2 v3 : Value} {k : KpD} (h : ObjO w B v1 k.xs.length k.xs v2 k.ys.length k.ys v3 k.fs.length k.fs) : RowsO w B (kpR (k, v1, v2, v3)) := by
 refine ⟨fun r hr => ?_, ?_⟩
 ·simp only [kpR, List.mem_cons, List.not_mem_nil, or_false] at hr
  rcases hr with rfl | rfl | rfl
  · exact h.names
  · exact h.vals
  · exact h.flds
 ·unfold kpR
  refine List.pairwise_cons.2 ⟨fun r hr => ?_, List.pairwise_cons.2 ⟨fun r hr => ?_, List.pairwise_singleton _ _⟩⟩
  ·simp only [List.mem_cons, List.not_mem_nil, or_false] at hr
   rcases hr with rfl | rfl
   · exact fun g hg => h.ne g hg
   · exact fun g hg => own_two h.names h.flds (by decide) hg
  ·rw [List.mem_singleton.1 hr]
   exact fun g hg => own_two h.vals h.flds (by decide) hg
theorem rows_objO {w : World} {B : Nat} {x : KpD × Value × Value × Value} (h : RowsO w B (kpR x)) : ObjO w B x.2.1 x.1.xs.length x.1.xs x.2.2.1 x.1.ys.length x.1.ys x.2.2.2 x.1.fs.length x.1.fs := by
 have hp := h.apart
 unfold kpR at hp
 exact ⟨h.own (kpN x) (by simp [kpR]), h.own (kpV x) (by simp [kpR]), h.own (kpF x) (by simp [kpR]), fun g hg => (List.pairwise_cons.1 hp).1 (kpV x) (by simp) g hg⟩
def SzKeptS (L : Int) (ks : List KpD) (w : World) (e : Ending) (w' : World) : Prop :=
 ∃ r : Int, e = .returned (.int .i64 r) ∧ r ≤ L ∧ (0 ≤ r → r + (wtK ks : Int) ≤ L ∧ ∀ k ∈ ks, KpSmall k) ∧ Below w.heap.size w w'
theorem szKeptS_any (L : Int) (hL0 : 0 ≤ L) (hL1 : L ≤ 1048576) (B : Nat) (a : Oa) (n cap : Nat) (ks : List KpD) (w : World) (harg : ArgKept w B a n ks) (hB : B ≤ w.heap.size) (hn : n ≤ maxLen) (hsz : ∀ k ∈ ks, KpMax k) :
  Calls Tryz.prog 20 #[.slice a n cap, .int .i64 L] w fun e w' => SzKeptS L ks w e w' := by
 unfold maxLen at hn
 have HS := hid hsz
 have HLN : Hid (ks.length = n) := harg.1
 have HA : Hid (∀ W, Below w.heap.size w W → ArgKept W B a n ks) := fun W h => harg.below (h.mono hB)
 have HBB : Hid (∀ W, Below w.heap.size w W → B ≤ W.heap.size) := fun W h => Nat.le_trans hB h.size
 clear hsz harg hB
 by_cases c1 : L - (n : Int) < 0
 ·go_enter Tryz.func20, Tryz.ntmps20
  go_wp2
  go_ret
  exact ⟨-1, rfl, by omega, fun h => absurd h (by omega), Below.refl _ _⟩
 go_enter Tryz.func20, Tryz.ntmps20
 go_wp2
 go_loopw [1, 5] (fun lf i wr => ∃ (k : Nat) (x : Int), k ≤ n ∧ i = .int .i64 (k : Int) ∧ lf = .int .i64 x ∧ 0 ≤ x ∧ x ≤ L ∧ Hid (x + (wtK (ks.take k) : Int) + ((n : Int) - (k : Int)) ≤ L ∧ ∀ y ∈ ks.take k, KpSmall y) ∧ Hid (Below w.heap.size w wr)) (fun _ i _ => n - (intOf i).toNat)
 case atStart => exact ⟨0, _, Nat.zero_le _, rfl, rfl, by omega, by omega, ⟨by simp [wtK], fun x hx => by simp at hx⟩, Below.refl _ _⟩
 case round =>
  obtain ⟨k, x, hk, rfl, rfl, hx0, hx1, HX, HBW⟩ := hrel
  by_cases hlt : k < n
  rotate_left
  ·have HF : Hid (x + (wtK ks : Int) ≤ L ∧ ∀ k ∈ ks, KpSmall k) := by
    obtain ⟨m1, m2⟩ := HX.out
    rw [List.take_of_length_le (by rw [HLN.out]; omega)] at m1 m2
    exact ⟨by omega, m2⟩
   go_wp2
   go_ret
   exact ⟨x, rfl, by omega, fun _ => HF.out, HBW.out⟩
  have hlt2 : (k : Int) < (n : Int) := by omega
  obtain ⟨b, off, rfl, hbB, a1, n1, c1, a2, n2, c2, a3, n3, c3, ⟨r0, r1, r2, r3, r4, r5, r6, r7, r8⟩, g1, g2, g3⟩ := (HA.out wr HBW.out).2 k hlt
  obtain ⟨y, hy⟩ := exq (kpAt ks k)
  have HM : Hid (y ∈ ks) := by show _ ∈ _; rw [hy]; exact kpAt_mem ks k (by rw [HLN.out]; exact hlt)
  have HTK : Hid (ks.take (k + 1) = ks.take k ++ [y]) := by show _ = _; rw [hy]; exact kpAt_take ks k (by rw [HLN.out]; exact hlt)
  rw [← hy] at r0 r3 r5 r6 r7 r8 g1 g2 g3
  have HG1 := hid g1
  have HG2 := hid g2
  have HG3 := hid g3
  clear hy g1 g2 g3
  go_wp2_with fail
  refine (szKept_any x hx0 (by omega) y.p a1 n1 c1 y.xs a2 n2 c2 y.ys y.st a3 n3 c3 y.fs y.b y.t y.a y.q B _ HG1.out HG2.out HG3.out (HBB.out _ HBW.out) (by rw [← HG1.out.len]; exact (HS.out y HM.out).1) (by rw [← HG2.out.len]; exact (HS.out y HM.out).2.1) (by rw [← HG3.out.len]; exact (HS.out y HM.out).2.2.1) (by rw [← HG1.out.len]; exact (HS.out y HM.out).2.2.2.1) (by rw [← HG2.out.len]; exact (HS.out y HM.out).2.2.2.2.1) (by rw [← HG3.out.len]; exact (HS.out y HM.out).2.2.2.2.2.1) (HS.out y HM.out).2.2.2.2.2.2.1 (HS.out y HM.out).2.2.2.2.2.2.2).mono ?_
  rintro e w1 ⟨r, rfl, hr1, hr2, bw⟩
  have HB2 : Hid (Below w.heap.size w w1) := HBW.out.trans (bw.mono HBW.out.size)
  clear r0 r1 r2 r3 r4 r5 r6 r7 r8 bw
  by_cases d1 : r < 0
  ·clear hr2
   go_wp2
   go_ret
   exact ⟨-1, rfl, by omega, fun h => absurd h (by omega), HB2.out⟩
  have HX2 : Hid (r + (wtK (ks.take (k + 1)) : Int) + ((n : Int) - ((k + 1 : Nat) : Int)) ≤ L ∧ ∀ y ∈ ks.take (k + 1), KpSmall y) := by
   obtain ⟨q1, q2, q3, q4, q5, q6⟩ := hr2 (by omega)
   obtain ⟨m1, m2⟩ := HX.out
   rw [← HG1.out.len] at q1 q3
   rw [← HG2.out.len] at q1 q4
   rw [← HG3.out.len] at q1 q5 q6
   refine ⟨?_, fun z hz => ?_⟩
   ·rw [HTK.out, wtK_snoc]
    omega
   ·rw [HTK.out] at hz
    rcases List.mem_append.1 hz with hz | hz
    · exact m2 z hz
    · rw [List.mem_singleton.1 hz]; exact ⟨q2, q3, q4, q5, q6⟩
  clear hr2
  go_wp2
  go_roundw
  case rel => exact ⟨k + 1, r, by omega, by go_num, rfl, by omega, by omega, HX2, HB2⟩
  case measure => simp [intOf]; omega
theorem infoKept : (Tryz.prog.info? 63).map (fun i => (i.zero, i.size, i.bytes)) = some (some (.agg #[.string ⟨#[]⟩, .slice none 0 0, .slice none 0 0, .int .i64 0, .slice none 0 0, .string ⟨#[]⟩, .int .i64 0, .int .i64 0, .int .i64 0]), 9, 136) := by kernel_rfl
def KeptIs (ks : List KpD) (w : World) (e : Ending) (w' : World) : Prop := ∃ (V : Value) (kv : Ks), e = .returned V ∧ kv.map (·.1) = ks ∧ KeptsO w' w.heap.size V kv ∧ Below w.heap.size w w'
theorem KeptsO.obj {w : World} {base : Nat} {V : Value} {kv : Ks} (h : KeptsO w base V kv) {x : KpD × Value × Value × Value} (hx : x ∈ kv) : RowsO w base (kpR x) := by
 obtain ⟨s, t, e⟩ := List.append_of_mem hx
 refine RowsO.sub h ?_
 unfold kpAll
 rw [e, List.flatMap_append, List.flatMap_cons]
 exact ((List.sublist_append_left _ _).trans (List.sublist_append_right _ _)).trans (List.sublist_cons_self _ _)
theorem parts_kept {w : World} {g n base : Nat} {kv : Ks} (hp : PartO kpC 9 63 w g n kv) (hl : kv.length = n) (hm : n ≤ maxLen) (hb : base ≤ g) (hr : RowsO w (g + 1) (kv.flatMap kpR)) : KeptsO w base (.slice (some ⟨g, 0, none⟩) n n) kv := by
 have hrow : (kpRow (.slice (some ⟨g, 0, none⟩) n n) kv).own w base := by
  have h := hp.owns kpC_len (by decide) hl hm hb
  unfold Rw.own kpRow
  rw [hl]
  exact h
 refine ⟨fun r h => ?_, List.pairwise_cons.2 ⟨fun r h g' h1 h2 => ?_, hr.apart⟩⟩
 ·rcases List.mem_cons.1 h with h | h
  · rw [h]; exact hrow
  · exact owns_wide (hr.own r h) (by omega)
 ·have e1 : some g = some g' := h1
  have e2 := hr.ge h h2
  have e3 := Option.some.inj e1
  omega
theorem toKeptS_any (B : Nat) (a : Oa) (n cap : Nat) (ks : List KpD) (w : World) (harg : ArgKept w B a n ks) (hB : B ≤ w.heap.size) (hn : n ≤ 1048576) (hsm : ∀ k ∈ ks, k.xs.length ≤ 1048576 ∧ k.ys.length ≤ 1048576 ∧ k.fs.length ≤ 1048576) :
  Calls Tryz.prog 25 #[.slice a n cap] w fun e w' => KeptIs ks w e w' := by
 obtain ⟨i0, hi, hz0, hz1, hz2⟩ := info_parts infoKept
 obtain ⟨M, hM⟩ : ∃ M, M = madeCells (Value.agg #[.string ⟨#[]⟩, .slice none 0 0, .slice none 0 0, .int .i64 0, .slice none 0 0, .string ⟨#[]⟩, .int .i64 0, .int .i64 0, .int .i64 0]).cells (((n : Nat) : Int).toNat * i0.size) := ⟨_, rfl⟩
 have hmk : ∀ W : World, (Instr.makeSlice 35 (.int .i64 (n : Int)) (.int .i64 (n : Int))).run Tryz.prog W = .ok (.slice (some ⟨W.heap.size, 0, none⟩) n n) (W.alloc (.cells M 63)) := fun W => by
  have h := run_make (P := Tryz.prog) W 35 63 i0 (.agg #[.string ⟨#[]⟩, .slice none 0 0, .slice none 0 0, .int .i64 0, .slice none 0 0, .string ⟨#[]⟩, .int .i64 0, .int .i64 0, .int .i64 0]) Tryz.underlying35 hi hz0 .i64 .i64 (n : Int) (n : Int) (by omega) (by omega) (by rw [hz2]; omega) (by omega)
  rw [← hM] at h
  simpa using h
 have hMs : M.size = n * 9 := by rw [hM, size_madeCells, hz1]; simp
 have HLN : Hid (ks.length = n) := harg.1
 have HSM := hid hsm
 have HA : Hid (∀ W, Below w.heap.size w W → ArgKept W B a n ks) := fun W h => harg.below (h.mono hB)
 have HBB : Hid (∀ W, Below w.heap.size w W → B ≤ W.heap.size) := fun W h => Nat.le_trans hB h.size
 clear hM harg hsm hB
 obtain ⟨g, hg⟩ := exq (w.heap.size)
 have HG : Hid (w.heap.size = g) := hg.symm
 have HP : Hid (([] : Ks).length = 0 ∧ ([] : Ks).map (·.1) = ks.take 0 ∧ PartO kpC 9 63 (w.alloc (.cells M 63)) g n [] ∧ RowsO (w.alloc (.cells M 63)) (g + 1) (([] : Ks).flatMap kpR)) := ⟨rfl, by simp, ⟨M, by rw [hg]; exact heap_alloc_new w _, hMs, fun i h => absurd h (by simp)⟩, RowsO.nil _ _⟩
 have HPB : Hid (Below w.heap.size w (w.alloc (.cells M 63))) := (Below.refl _ _).alloc (Nat.le_refl _) _
 go_enter Tryz.func25, Tryz.ntmps25
 go_wp2
 rw [HG.out]
 clear hg hMs
 go_loopw [4] (fun i wr => ∃ (k : Nat) (kv : Ks), k ≤ n ∧ i = .int .i64 (k : Int) ∧ Hid (kv.length = k ∧ kv.map (·.1) = ks.take k ∧ PartO kpC 9 63 wr g n kv ∧ RowsO wr (g + 1) (kv.flatMap kpR)) ∧ Hid (Below w.heap.size w wr)) (fun i _ => n - (intOf i).toNat)
 case atStart => exact ⟨0, [], Nat.zero_le _, rfl, HP, HPB⟩
 case round =>
  obtain ⟨k, kv, hk, rfl, hpr, HBW⟩ := hrel
  by_cases hlt : k < n
  rotate_left
  ·obtain rfl : k = n := by omega
   obtain ⟨q1, q2, q3, q4⟩ := hpr.out
   have HF : Hid (kv.map (·.1) = ks ∧ KeptsO wr w.heap.size (.slice (some ⟨g, 0, none⟩) k k) kv) := by
    refine ⟨?_, parts_kept q3 q1 (by unfold maxLen; omega) (by rw [HG.out]; exact Nat.le_refl _) q4⟩
    rw [q2, List.take_of_length_le (by rw [HLN.out]; exact Nat.le_refl _)]
   clear q1 q2 q3 q4
   go_wp2
   go_ret
   exact ⟨_, kv, rfl, HF.out.1, HF.out.2, HBW.out⟩
  have hlt2 : (k : Int) < (n : Int) := by omega
  obtain ⟨b, off, rfl, hbB, a1, n1, c1, a2, n2, c2, a3, n3, c3, ⟨r0, r1, r2, r3, r4, r5, r6, r7, r8⟩, g1, g2, g3⟩ := (HA.out wr HBW.out).2 k hlt
  obtain ⟨y, hy⟩ := exq (kpAt ks k)
  have HM : Hid (y ∈ ks) := by show _ ∈ _; rw [hy]; exact kpAt_mem ks k (by rw [HLN.out]; exact hlt)
  have HTK : Hid (ks.take (k + 1) = ks.take k ++ [y]) := by show _ = _; rw [hy]; exact kpAt_take ks k (by rw [HLN.out]; exact hlt)
  rw [← hy] at r0 r3 r5 r6 r7 r8 g1 g2 g3
  have HG1 := hid g1
  have HG2 := hid g2
  have HG3 := hid g3
  clear hy g1 g2 g3
  go_wp2_with fail
  refine (toKept_any y.p a1 n1 c1 y.xs a2 n2 c2 y.ys y.st a3 n3 c3 y.fs y.b y.t y.a y.q B _ HG1.out HG2.out HG3.out (HBB.out _ HBW.out) (by rw [← HG1.out.len]; exact (HSM.out y HM.out).1) (by rw [← HG2.out.len]; exact (HSM.out y HM.out).2.1) (by rw [← HG3.out.len]; exact (HSM.out y HM.out).2.2)).mono ?_
  rintro e w1 ⟨v1, v2, v3, rfl, hobj, bw⟩
  clear r0 r1 r2 r3 r4 r5 r6 r7 r8
  obtain ⟨o1, p1, rfl⟩ := slice_of_owns hobj.names
  obtain ⟨o2, p2, rfl⟩ := slice_of_owns hobj.vals
  obtain ⟨o3, p3, rfl⟩ := slice_of_owns hobj.flds
  obtain ⟨q1, q2, q3, q4⟩ := hpr.out
  have hgl : g < wr.heap.size := q3.lt
  have HB2 : Hid (Below w.heap.size w w1) := HBW.out.trans (bw.mono HBW.out.size)
  have hpr1 := q3.below bw
  obtain ⟨x, hx⟩ : ∃ x : KpD × Value × Value × Value, x = (y, .slice o1 n1 p1, .slice o2 n2 p2, .slice o3 n3 p3) := ⟨_, rfl⟩
  have hnew : RowsO w1 wr.heap.size (kpR x) := by
   rw [hx]
   apply objO_rows
   rw [HG1.out.len, HG2.out.len, HG3.out.len]
   exact hobj
  have hall : RowsO w1 (g + 1) (kv.flatMap kpR ++ kpR x) := q4.more bw hnew (Nat.le_refl _) hgl
  have HALL : Hid ((kv ++ [x]).length = k + 1 ∧ (kv ++ [x]).map (·.1) = ks.take (k + 1) ∧ PartO kpC 9 63 (setW w1 g (k * 9) (kpC x)) g n (kv ++ [x]) ∧ RowsO (setW w1 g (k * 9) (kpC x)) (g + 1) ((kv ++ [x]).flatMap kpR)) := by
   refine ⟨by rw [List.length_append, q1]; rfl, by rw [List.map_append, q2, HTK.out, hx]; rfl, ?_, ?_⟩
   ·have h := hpr1.put kpC_len x (by omega)
    rw [q1] at h
    exact h
   ·rw [List.flatMap_append]
    have h2 : RowsO (setW w1 g (k * 9) (kpC x)) (g + 1) (kv.flatMap kpR ++ kpR x) := hall.same (fun r hr j hj => setW_other g j (by have := hall.ge hr hj; omega) _ _ _)
    simpa using h2
  have HBE : Hid (Below w.heap.size w (setW w1 g (k * 9) (kpC x))) := setW_below (by rw [HG.out]; exact Nat.le_refl _) _ _ _ _ HB2.out
  rw [hx] at HALL HBE
  obtain ⟨u0, hu0⟩ := hpr1.cell (k * 9) (by omega)
  have f0 := hpr1.frozen (k * 9)
  obtain ⟨u1, hu1⟩ := hpr1.cell (k * 9 + 1) (by omega)
  have f1 := hpr1.frozen (k * 9 + 1)
  obtain ⟨u2, hu2⟩ := hpr1.cell (k * 9 + 2) (by omega)
  have f2 := hpr1.frozen (k * 9 + 2)
  obtain ⟨u3, hu3⟩ := hpr1.cell (k * 9 + 3) (by omega)
  have f3 := hpr1.frozen (k * 9 + 3)
  obtain ⟨u4, hu4⟩ := hpr1.cell (k * 9 + 4) (by omega)
  have f4 := hpr1.frozen (k * 9 + 4)
  obtain ⟨u5, hu5⟩ := hpr1.cell (k * 9 + 5) (by omega)
  have f5 := hpr1.frozen (k * 9 + 5)
  obtain ⟨u6, hu6⟩ := hpr1.cell (k * 9 + 6) (by omega)
  have f6 := hpr1.frozen (k * 9 + 6)
  obtain ⟨u7, hu7⟩ := hpr1.cell (k * 9 + 7) (by omega)
  have f7 := hpr1.frozen (k * 9 + 7)
  obtain ⟨u8, hu8⟩ := hpr1.cell (k * 9 + 8) (by omega)
  have f8 := hpr1.frozen (k * 9 + 8)
  clear hpr1 hall hnew hx q1 q2 q3 q4 hobj bw hpr
  go_wp2
  go_roundw
  case rel => exact ⟨k + 1, _, by omega, by go_num, HALL, HBE⟩
  case measure => simp [intOf]; omega
def kvAt (kv : Ks) (i : Nat) : KpD × Value × Value × Value := kv.getD i (zeroK, .slice none 0 0, .slice none 0 0, .slice none 0 0)
theorem kvAt_get (kv : Ks) (i : Nat) (h : i < kv.length) : kv[i]'h = kvAt kv i := by
 unfold kvAt
 rw [List.getD_eq_getElem?_getD, List.getElem?_eq_getElem h]
 rfl
theorem kvAt_mem (kv : Ks) (i : Nat) (h : i < kv.length) : kvAt kv i ∈ kv := by rw [← kvAt_get kv i h]; exact List.getElem_mem h
theorem kvAt_take (kv : Ks) (i : Nat) (h : i < kv.length) : kv.take (i + 1) = kv.take i ++ [kvAt kv i] := by rw [← kvAt_get kv i h, List.take_succ_eq_append_getElem h]
theorem kvAt_fst (kv : Ks) (i : Nat) (h : i < kv.length) : (kvAt kv i).1 = kpAt (kv.map (·.1)) i := by
 rw [← kvAt_get kv i h, ← kpAt_get _ i (by rw [List.length_map]; exact h)]
 simp
def KpRead (w : World) (k : KpD) (v1 v2 v3 : Value) : Prop := ∃ B, RowsO w B (kpR (k, v1, v2, v3))
theorem KeptsO.read {w : World} {base : Nat} {V : Value} {kv : Ks} (h : KeptsO w base V kv) {k : KpD} {v1 v2 v3 : Value} (hx : (k, v1, v2, v3) ∈ kv) : KpRead w k v1 v2 v3 := ⟨base, h.obj hx⟩
theorem KeptsO.look {w : World} {base : Nat} {V : Value} {kv : Ks} (h : KeptsO w base V kv) (i : Nat) (hi : i < kv.length) : ∃ g cap, V = .slice (some ⟨g, 0, none⟩) kv.length cap ∧ g < w.heap.size ∧ KpAt w g i (kvAt kv i) := by
 rw [← kvAt_get kv i hi]
 exact h.at i hi
theorem small_get {k : KpD} (h : KpSmall k) (x : Tx) : (getV k.fs x).size ≤ 1048576 := by
 unfold getV
 split
 ·rename_i hx
  have := szTo_get k.fs k.fs.length (atF k.fs x) hx
  have := h.2.2.2.2
  omega
 · decide
theorem small_copy {k : KpD} (h : KpSmall k) : CopyF k.fs := fun i hi => by
 have := szTo_get k.fs k.fs.length i hi
 have := h.2.2.2.2
 omega
theorem small_walk {k : KpD} (h : KpSmall k) : WalkF k.fs.length k.fs := fun i hi => by
 have := szTo_get k.fs k.fs.length i hi
 have := h.2.2.2.2
 unfold maxLen
 omega
theorem small_text {xs : Ts} (h : ∀ i, i < xs.length → (textAt xs i).size ≤ 1048576) : ∀ i, i < xs.length → (textAt xs i).size ≤ maxLen := fun i hi => Nat.le_trans (h i hi) (by decide)
theorem specObjOk_k (k : KpD) (v1 v2 v3 : Value) (w : World) (h : KpRead w k v1 v2 v3) (hs : KpSmall k) :
  Calls Tryz.prog 54 #[.agg #[.string k.p, v1, v2, .int .i64 k.st, v3, .string k.b, .int .i64 k.t]] w fun e w' => BoolIs (ObjK k) w e w' := by
 obtain ⟨B, h⟩ := h
 have ho : ObjO w B v1 k.xs.length k.xs v2 k.ys.length k.ys v3 k.fs.length k.fs := rows_objO h
 obtain ⟨o1, c1, rfl⟩ := slice_of_owns ho.names
 obtain ⟨o2, c2, rfl⟩ := slice_of_owns ho.vals
 exact specObjOk_any k.p o1 _ c1 k.xs o2 _ c2 k.ys k.st v3 _ B k.fs k.b k.t w (texts_view ho.names) (texts_view ho.vals) (FieldsV.of_owns ho.flds) (by have := hs.2.1.1; omega) (by have := hs.2.2.1.1; omega) (by have := hs.2.2.2.1; omega) (small_text hs.2.1.2) (small_text hs.2.2.1.2) (small_walk hs) (by have := hs.1.1; unfold maxLen; omega) (by have := hs.1.2; unfold maxLen; omega) (small_get hs _)
theorem eqKeptS_any (V1 V2 : Value) (kv1 kv2 : Ks) (B1 B2 : Nat) (w : World) (he : kv1.map (·.1) = kv2.map (·.1)) (h1 : KeptsO w B1 V1 kv1) (h2 : KeptsO w B2 V2 kv2) (hn : kv1.length ≤ 2000000) (hs : ∀ x ∈ kv1, x.1.xs.length ≤ 2000000 ∧ x.1.ys.length ≤ 2000000 ∧ x.1.fs.length ≤ 2000000) :
  Calls Tryz.prog 31 #[V1, V2] w fun e w' => e = .returned (.bool true) ∧ Below w.heap.size w w' := by
 have hlen : kv2.length = kv1.length := by have := congrArg List.length he; simpa using this.symm
 obtain ⟨n, hnn⟩ := exq kv1.length
 obtain ⟨o1, c1, e1⟩ := h1.len
 obtain ⟨o2, c2, e2⟩ := h2.len
 rw [← hnn] at e1 hn
 rw [hlen, ← hnn] at e2
 subst e1 e2
 have HL1 : Hid (kv1.length = n) := hnn.symm
 have HL2 : Hid (kv2.length = n) := hlen.trans hnn.symm
 have HE := hid he
 have HS := hid hs
 have H1 : Hid (∀ W, Below w.heap.size w W → KeptsO W B1 (.slice o1 n c1) kv1) := fun W h => h1.below h
 have H2 : Hid (∀ W, Below w.heap.size w W → KeptsO W B2 (.slice o2 n c2) kv2) := fun W h => h2.below h
 clear h1 h2 hlen hnn he hs
 go_enter Tryz.func31, Tryz.ntmps31
 go_wp2
 go_loopw [5] (fun i wr => ∃ k : Nat, k ≤ n ∧ i = .int .i64 (k : Int) ∧ Hid (Below w.heap.size w wr)) (fun i _ => n - (intOf i).toNat)
 case atStart => exact ⟨0, Nat.zero_le _, rfl, Below.refl _ _⟩
 case round =>
  obtain ⟨k, hk, rfl, HBW⟩ := hrel
  by_cases hlt : k < n
  rotate_left
  ·go_wp2
   go_ret
   exact ⟨rfl, HBW.out⟩
  have hlt2 : (k : Int) < (n : Int) := by omega
  obtain ⟨g1, cp1, ev1, hg1, at1⟩ := (H1.out wr HBW.out).at k (by rw [HL1.out]; exact hlt)
  obtain ⟨g2, cp2, ev2, hg2, at2⟩ := (H2.out wr HBW.out).at k (by rw [HL2.out]; exact hlt)
  obtain rfl : o1 = some ⟨g1, 0, none⟩ := (Value.slice.inj ev1).1
  obtain rfl : o2 = some ⟨g2, 0, none⟩ := (Value.slice.inj ev2).1
  have exy : (kv1[k]'(by rw [HL1.out]; exact hlt)).1 = (kv2[k]'(by rw [HL2.out]; exact hlt)).1 := by
   have h := congrArg (fun l : List KpD => l[k]?) HE.out
   simpa [List.getElem?_map, List.getElem?_eq_getElem (show k < kv1.length by rw [HL1.out]; exact hlt), List.getElem?_eq_getElem (show k < kv2.length by rw [HL2.out]; exact hlt)] using h
  have m1 : kv1[k]'(by rw [HL1.out]; exact hlt) ∈ kv1 := List.getElem_mem _
  have m2 : kv2[k]'(by rw [HL2.out]; exact hlt) ∈ kv2 := List.getElem_mem _
  generalize kv1[k]'(by rw [HL1.out]; exact hlt) = x at at1 exy m1
  generalize kv2[k]'(by rw [HL2.out]; exact hlt) = y at at2 exy m2
  obtain ⟨d, v1, v2, v3⟩ := x
  obtain ⟨d', u1, u2, u3⟩ := y
  obtain rfl : d = d' := exy
  have HO1 : Hid (∀ W, Below wr.heap.size wr W → ObjO W B1 v1 d.xs.length d.xs v2 d.ys.length d.ys v3 d.fs.length d.fs) := fun W h => rows_objO (((H1.out wr HBW.out).below h).obj m1)
  have HO2 : Hid (∀ W, Below wr.heap.size wr W → ObjO W B2 u1 d.xs.length d.xs u2 d.ys.length d.ys u3 d.fs.length d.fs) := fun W h => rows_objO (((H2.out wr HBW.out).below h).obj m2)
  have HSZ : Hid (d.xs.length ≤ 2000000 ∧ d.ys.length ≤ 2000000 ∧ d.fs.length ≤ 2000000) := HS.out _ m1
  have a0 := at1.c0
  have a1 := at1.c1
  have a2 := at1.c2
  have a3 := at1.c3
  have a4 := at1.c4
  have a5 := at1.c5
  have a6 := at1.c6
  have a7 := at1.c7
  have a8 := at1.c8
  have b0 := at2.c0
  have b1 := at2.c1
  have b2 := at2.c2
  have b3 := at2.c3
  have b4 := at2.c4
  have b5 := at2.c5
  have b6 := at2.c6
  have b7 := at2.c7
  have b8 := at2.c8
  clear at1 at2 m1 m2 ev1 ev2
  have HA : Hid (∀ w0 w1, Below wr.heap.size wr w0 → Below w0.heap.size w0 w1 → (w1.cell? ⟨g1, k * 9, none⟩ = some (.string d.p) ∧ w1.cell? ⟨g1, k * 9 + 1, none⟩ = some (v1) ∧ w1.cell? ⟨g1, k * 9 + 2, none⟩ = some (v2) ∧ w1.cell? ⟨g1, k * 9 + 3, none⟩ = some (.int .i64 d.st) ∧ w1.cell? ⟨g1, k * 9 + 4, none⟩ = some (v3) ∧ w1.cell? ⟨g1, k * 9 + 5, none⟩ = some (.string d.b) ∧ w1.cell? ⟨g1, k * 9 + 6, none⟩ = some (.int .i64 d.t) ∧ w1.cell? ⟨g1, k * 9 + 7, none⟩ = some (.int .i64 d.a) ∧ w1.cell? ⟨g1, k * 9 + 8, none⟩ = some (.int .i64 d.q) ∧ w1.cell? ⟨g2, k * 9, none⟩ = some (.string d.p) ∧ w1.cell? ⟨g2, k * 9 + 1, none⟩ = some (u1) ∧ w1.cell? ⟨g2, k * 9 + 2, none⟩ = some (u2) ∧ w1.cell? ⟨g2, k * 9 + 3, none⟩ = some (.int .i64 d.st) ∧ w1.cell? ⟨g2, k * 9 + 4, none⟩ = some (u3) ∧ w1.cell? ⟨g2, k * 9 + 5, none⟩ = some (.string d.b) ∧ w1.cell? ⟨g2, k * 9 + 6, none⟩ = some (.int .i64 d.t) ∧ w1.cell? ⟨g2, k * 9 + 7, none⟩ = some (.int .i64 d.a) ∧ w1.cell? ⟨g2, k * 9 + 8, none⟩ = some (.int .i64 d.q)) ∧ Below wr.heap.size wr w1) := fun w0 w1 h h' => by
   have hx := h.trans (h'.mono h.size)
   exact ⟨⟨by rw [hx.cell (p := ⟨g1, k * 9, none⟩) hg1]; exact a0, by rw [hx.cell (p := ⟨g1, k * 9 + 1, none⟩) hg1]; exact a1, by rw [hx.cell (p := ⟨g1, k * 9 + 2, none⟩) hg1]; exact a2, by rw [hx.cell (p := ⟨g1, k * 9 + 3, none⟩) hg1]; exact a3, by rw [hx.cell (p := ⟨g1, k * 9 + 4, none⟩) hg1]; exact a4, by rw [hx.cell (p := ⟨g1, k * 9 + 5, none⟩) hg1]; exact a5, by rw [hx.cell (p := ⟨g1, k * 9 + 6, none⟩) hg1]; exact a6, by rw [hx.cell (p := ⟨g1, k * 9 + 7, none⟩) hg1]; exact a7, by rw [hx.cell (p := ⟨g1, k * 9 + 8, none⟩) hg1]; exact a8, by rw [hx.cell (p := ⟨g2, k * 9, none⟩) hg2]; exact b0, by rw [hx.cell (p := ⟨g2, k * 9 + 1, none⟩) hg2]; exact b1, by rw [hx.cell (p := ⟨g2, k * 9 + 2, none⟩) hg2]; exact b2, by rw [hx.cell (p := ⟨g2, k * 9 + 3, none⟩) hg2]; exact b3, by rw [hx.cell (p := ⟨g2, k * 9 + 4, none⟩) hg2]; exact b4, by rw [hx.cell (p := ⟨g2, k * 9 + 5, none⟩) hg2]; exact b5, by rw [hx.cell (p := ⟨g2, k * 9 + 6, none⟩) hg2]; exact b6, by rw [hx.cell (p := ⟨g2, k * 9 + 7, none⟩) hg2]; exact b7, by rw [hx.cell (p := ⟨g2, k * 9 + 8, none⟩) hg2]; exact b8⟩, hx⟩
  go_wp2
  go_region_held3 (fun w' => w'.cell? ⟨g1, k * 9, none⟩ = some (.string d.p) ∧ w'.cell? ⟨g1, k * 9 + 1, none⟩ = some (v1) ∧ w'.cell? ⟨g1, k * 9 + 2, none⟩ = some (v2) ∧ w'.cell? ⟨g1, k * 9 + 3, none⟩ = some (.int .i64 d.st) ∧ w'.cell? ⟨g1, k * 9 + 4, none⟩ = some (v3) ∧ w'.cell? ⟨g1, k * 9 + 5, none⟩ = some (.string d.b) ∧ w'.cell? ⟨g1, k * 9 + 6, none⟩ = some (.int .i64 d.t) ∧ w'.cell? ⟨g1, k * 9 + 7, none⟩ = some (.int .i64 d.a) ∧ w'.cell? ⟨g1, k * 9 + 8, none⟩ = some (.int .i64 d.q) ∧ w'.cell? ⟨g2, k * 9, none⟩ = some (.string d.p) ∧ w'.cell? ⟨g2, k * 9 + 1, none⟩ = some (u1) ∧ w'.cell? ⟨g2, k * 9 + 2, none⟩ = some (u2) ∧ w'.cell? ⟨g2, k * 9 + 3, none⟩ = some (.int .i64 d.st) ∧ w'.cell? ⟨g2, k * 9 + 4, none⟩ = some (u3) ∧ w'.cell? ⟨g2, k * 9 + 5, none⟩ = some (.string d.b) ∧ w'.cell? ⟨g2, k * 9 + 6, none⟩ = some (.int .i64 d.t) ∧ w'.cell? ⟨g2, k * 9 + 7, none⟩ = some (.int .i64 d.a) ∧ w'.cell? ⟨g2, k * 9 + 8, none⟩ = some (.int .i64 d.q)) (first | assumption | go_keep) (first | (go_at_call 62; refine (eqKept_any d.p d.xs.length d.xs d.ys.length d.ys d.st d.fs.length d.fs d.b d.t d.a d.q _ _ _ _ _ _ B1 B2 _ (HO1.out _ ((Below.refl _ wr).drew)) (HO2.out _ ((Below.refl _ wr).drew)) HSZ.out.1 HSZ.out.2.1 HSZ.out.2.2).mono ?_; rintro e w1 ⟨rfl, hb1⟩; obtain ⟨hcc, hbx⟩ := HA.out _ w1 ((Below.refl _ wr).drew) hb1))
  go_wp2
  go_roundw
  case rel => exact ⟨k + 1, by omega, by go_num, HBW.out.trans (hbx.mono HBW.out.size)⟩
  case measure => simp [intOf]; omega
def wm1 (d : KpD) : Nat := 6 + d.xs.length + d.ys.length + 2 * d.fs.length
def wms : Ks → Nat
 | [] => 0
 | x :: r => wm1 x.1 + wms r
theorem RowsO.other {W : World} {base q o : Nat} {rs : List Rw} {cs : Array Value} {T : TypeId} {fr : Nat × Nat} {u : Value} (h : RowsO W base rs) (hq : W.heap[q]? = some (.cells cs T fr)) (hT : ∀ r ∈ rs, T ≠ r.T) : RowsO (W.setCell ⟨q, o, none⟩ u) base rs :=
 h.same (fun r hr g hg => heap_setCell_other _ _ g _ (fun e => own_noR (h.own r hr) (hT r hr) hq (by have e' : g = q := e; rw [← e']; exact hg)))
theorem erS {W W' : World} {base q i : Nat} {v : Value} {rs : List Rw} {cs : Array Value} {T : TypeId} {fr : Nat × Nat} (hW : W' = W.setCell ⟨q, i, none⟩ v) (h : Hid (RowsO W base rs)) (hb : Hid (W.heap[q]? = some (.cells cs T fr))) (hT : ∀ r ∈ rs, T ≠ r.T) : Hid (RowsO W' base rs) := by show RowsO _ _ _; rw [hW]; exact RowsO.other h.out hb.out hT
theorem kpAll_T {V : Value} {kv : Ks} {r : Rw} (h : r ∈ kpAll V kv) : r.T = 63 ∨ r.T = 9 ∨ r.T = 139 := by
 rcases List.mem_cons.1 h with h | h
 · exact .inl (by rw [h]; rfl)
 ·obtain ⟨x, _, hx⟩ := List.mem_flatMap.1 h
  simp only [kpR, List.mem_cons, List.not_mem_nil, or_false] at hx
  rcases hx with rfl | rfl | rfl
  · exact .inr (.inl rfl)
  · exact .inr (.inl rfl)
  · exact .inr (.inr rfl)
theorem disk_rows {W : World} {base : Nat} {v1 v2 : Value} {n1 n2 : Nat} {cs : Ts} {ws : List (Int × ByteArray)} (h : DiskO W base v1 n1 cs v2 n2 ws) : RowsO W base [(⟨9, 1, v1, n1, cs.map Value.string⟩ : Rw), (⟨148, 2, v2, n2, flatWrite ws⟩ : Rw)] := by
 refine ⟨fun r hr => ?_, List.pairwise_cons.2 ⟨fun r hr => ?_, List.pairwise_singleton _ _⟩⟩
 ·simp only [List.mem_cons, List.not_mem_nil, or_false] at hr
  rcases hr with rfl | rfl
  · exact h.cells
  · exact h.pend
 ·rw [List.mem_singleton.1 hr]
  exact fun g hg => own_two h.cells h.pend (by decide) hg
def shAll (v1 v2 V VB : Value) (kv : Ks) (cs : Ts) (ws : List (Int × ByteArray)) (bl : Bs) : List Rw := ([(⟨9, 1, v1, cs.length, cs.map Value.string⟩ : Rw), (⟨148, 2, v2, ws.length, flatWrite ws⟩ : Rw)] ++ kpAll V kv) ++ [(⟨111, 4, VB, bl.length, flatBan bl⟩ : Rw)]
def ShelfO (w : World) (base : Nat) (v1 v2 V VB : Value) (kv : Ks) (s : ShD) : Prop := RowsO w base (shAll v1 v2 V VB kv s.cs s.ws s.bl) ∧ kv.map (·.1) = s.ks
theorem ShelfO.disk {w : World} {base : Nat} {v1 v2 V VB : Value} {kv : Ks} {s : ShD} (h : ShelfO w base v1 v2 V VB kv s) : DiskO w base v1 s.cs.length s.cs v2 s.ws.length s.ws := ⟨h.1.own (⟨9, 1, v1, s.cs.length, s.cs.map Value.string⟩ : Rw) (by simp [shAll]), h.1.own (⟨148, 2, v2, s.ws.length, flatWrite s.ws⟩ : Rw) (by simp [shAll])⟩
theorem ShelfO.kept {w : World} {base : Nat} {v1 v2 V VB : Value} {kv : Ks} {s : ShD} (h : ShelfO w base v1 v2 V VB kv s) : KeptsO w base V kv := RowsO.sub h.1 ((List.sublist_append_right _ _).trans (List.sublist_append_left _ _))
theorem ShelfO.bans {w : World} {base : Nat} {v1 v2 V VB : Value} {kv : Ks} {s : ShD} (h : ShelfO w base v1 v2 V VB kv s) : w.ownsRow base 111 4 VB s.bl.length (flatBan s.bl) := h.1.own (⟨111, 4, VB, s.bl.length, flatBan s.bl⟩ : Rw) (by simp [shAll])
theorem ShelfO.below {w w' : World} {base : Nat} {v1 v2 V VB : Value} {kv : Ks} {s : ShD} (h : ShelfO w base v1 v2 V VB kv s) (hb : Below w.heap.size w w') : ShelfO w' base v1 v2 V VB kv s := ⟨h.1.below hb, h.2⟩
def ShelfIs (s : ShD) (w : World) (e : Ending) (w' : World) : Prop := ∃ (v1 v2 V VB : Value) (kv : Ks), e = .returned (.agg #[v1, v2, V, VB, .int .i64 s.nx, .int .i64 s.sq]) ∧ ShelfO w' w.heap.size v1 v2 V VB kv s ∧ Below w.heap.size w w'
theorem toShelf_any (a1 : Oa) (n1 c1 : Nat) (cs : Ts) (a2 : Oa) (n2 c2 : Nat) (ws : List (Int × ByteArray)) (a3 : Oa) (n3 c3 : Nat) (ks : List KpD) (a4 : Oa) (n4 c4 : Nat) (bl : Bs) (nx sq : Int) (B : Nat) (w : World) (h1 : ArgT w B a1 n1 cs) (h2 : ArgWrite w B a2 n2 ws) (h3 : ArgKept w B a3 n3 ks) (h4 : ArgBan w B a4 n4 bl) (hB : B ≤ w.heap.size) (hn1 : n1 ≤ 1048576) (hn2 : n2 ≤ 1048576) (hn3 : n3 ≤ 1048576) (hn4 : n4 ≤ 1048576) (hsm : ∀ k ∈ ks, k.xs.length ≤ 1048576 ∧ k.ys.length ≤ 1048576 ∧ k.fs.length ≤ 1048576) :
  Calls Tryz.prog 7 #[.agg #[.slice a1 n1 c1, .slice a2 n2 c2, .slice a3 n3 c3, .slice a4 n4 c4, .int .i64 nx, .int .i64 sq]] w fun e w' => ShelfIs ⟨cs, ws, ks, bl, nx, sq⟩ w e w' := by
 have HA1 : Hid (∀ W, Below w.heap.size w W → ArgT W B a1 n1 cs) := fun W h => h1.below (h.mono hB)
 have HA2 : Hid (∀ W, Below w.heap.size w W → ArgWrite W B a2 n2 ws) := fun W h => h2.below (h.mono hB)
 have HA3 : Hid (∀ W, Below w.heap.size w W → ArgKept W B a3 n3 ks) := fun W h => h3.below (h.mono hB)
 have HA4 : Hid (∀ W, Below w.heap.size w W → ArgBan W B a4 n4 bl) := fun W h => h4.below (h.mono hB)
 have HBB : Hid (∀ W, Below w.heap.size w W → B ≤ W.heap.size) := fun W h => Nat.le_trans hB h.size
 have HN : Hid (n1 ≤ 1048576 ∧ n2 ≤ 1048576 ∧ n3 ≤ 1048576 ∧ n4 ≤ 1048576) := ⟨hn1, hn2, hn3, hn4⟩
 have HSM := hid hsm
 have HL : Hid (cs.length = n1 ∧ ws.length = n2 ∧ ks.length = n3 ∧ bl.length = n4) := ⟨h1.len, h2.1, h3.1, h4.1⟩
 clear h1 h2 h3 h4 hn1 hn2 hn3 hn4 hsm hB
 have hb0 := Below.refl w.heap.size w
 go_enter Tryz.func7, Tryz.ntmps7
 go_upto_region 1 with fail
 obtain ⟨q1, hq1⟩ := exq (w.heap.size)
 obtain ⟨w1, hW1⟩ := exq (w.alloc (.cells #[.slice a1 n1 c1, .slice a2 n2 c2, .slice a3 n3 c3, .slice a4 n4 c4, .int .i64 nx, .int .i64 sq] 29))
 have hz1 := hq1.symm
 rw [← hW1]; try rw [← hq1]
 have hs1 := hsa hW1 hz1
 have bw := bal hW1
 have hb1 := hbt hb0 bw
 have B1_1 := hnew hW1 hz1
 clear hb0 bw hW1 hz1
 obtain ⟨q2, hq2⟩ := exq (q1 + 1)
 obtain ⟨w2, hW2⟩ := exq (w1.alloc (.cells #[.slice none 0 0, .slice none 0 0, .slice none 0 0, .slice none 0 0, .int .i64 0, .int .i64 0] 38))
 have hz2 : w1.heap.size = q2 := by rw [hq2]; exact hs1
 rw [← hW2]; try rw [← hq2]
 have hs2 := hsa hW2 hz2
 have bw := bal hW2
 have hb2 := hbt hb1 bw
 have B1_2 := hblk B1_1 bw
 have Nv1v2 := hnq B1_1 hz2
 have B2_2 := hnew hW2 hz2
 have Gv2 := hge hz2 hb1
 clear hb1 bw hW2 hz2
 clear hs2 hq2 hs1 hq1
 go_upto_region 2 with fail
 obtain ⟨q3, hq3⟩ := exq (w2.heap.size)
 obtain ⟨w3, hW3⟩ := exq (w2.alloc (.cells #[.slice none 0 0, .slice none 0 0, .slice none 0 0, .slice none 0 0, .int .i64 0, .int .i64 0] 38))
 have hz3 := hq3.symm
 rw [← hW3]; try rw [← hq3]
 have hs3 := hsa hW3 hz3
 have bw := bal hW3
 have hb3 := hbt hb2 bw
 have B1_3 := hblk B1_2 bw
 have B2_3 := hblk B2_2 bw
 have Nv1v3 := hnq B1_2 hz3
 have Nv2v3 := hnq B2_2 hz3
 have B3_3 := hnew hW3 hz3
 have Gv3 := hge hz3 hb2
 clear hb2 bw hW3 hz3
 clear hs3 hq3
 have c1_0 := (k6c B1_3).1
 have c1_1 := (k6c B1_3).2.1
 go_wp2_with fail
 refine (toDisk_any a1 n1 c1 cs a2 n2 c2 ws B _ (HA1.out _ hb3) (HA2.out _ hb3) (HBB.out _ hb3) HN.out.1 HN.out.2.1).mono ?_
 rintro e w4 ⟨vv1, vv2, rfl, hdk, bw⟩
 obtain ⟨oC, pC, rfl⟩ := slice_of_owns hdk.cells
 obtain ⟨oP, pP, rfl⟩ := slice_of_owns hdk.pend
 have HRN0 : Hid (RowsO w4 w.heap.size ([(⟨9, 1, (.slice oC n1 pC), n1, cs.map Value.string⟩ : Rw), (⟨148, 2, (.slice oP n2 pP), n2, flatWrite ws⟩ : Rw)])) := (disk_rows hdk).wide hb3.size
 have HT0 : Hid (∀ r ∈ ([(⟨9, 1, (.slice oC n1 pC), n1, cs.map Value.string⟩ : Rw), (⟨148, 2, (.slice oP n2 pP), n2, flatWrite ws⟩ : Rw)]), 38 ≠ r.T) := by
  intro r hr
  simp only [List.mem_cons, List.not_mem_nil, or_false] at hr
  rcases hr with rfl | rfl
  · exact (by decide : (38 : TypeId) ≠ 9)
  · exact (by decide : (38 : TypeId) ≠ 148)
 clear hdk
 have hb4 := hbt hb3 bw
 have B1_4 := hblk B1_3 bw
 have B2_4 := hblk B2_3 bw
 have B3_4 := hblk B3_3 bw
 clear hb3 bw
 have ER_4 : Hid (RowsO (w4) w.heap.size ([(⟨9, 1, (.slice oC n1 pC), n1, cs.map Value.string⟩ : Rw), (⟨148, 2, (.slice oP n2 pP), n2, flatWrite ws⟩ : Rw)])) := HRN0.out
 clear HRN0
 clear c1_0 c1_1
 have c3_0 := (k6c B3_4).1
 have f3_0 := hfz B3_4 0
 have c3_1 := (k6c B3_4).2.1
 have f3_1 := hfz B3_4 1
 go_upto_region 3 with fail
 obtain ⟨w5, hW5⟩ := exq (w4.setCell ⟨q3, 0, none⟩ (.slice oC n1 pC))
 rw [← hW5]
 have hb5 := hbS hW5 hb4 Gv3
 have B1_5 := hset hW5 Nv1v3.out B1_4
 have B2_5 := hset hW5 Nv2v3.out B2_4
 have ER_5 := erS hW5 ER_4 B3_4 HT0.out
 have B3_5 := hput hW5 B3_4
 clear hb4 hW5
 obtain ⟨w6, hW6⟩ := exq (w5.setCell ⟨q3, 1, none⟩ (.slice oP n2 pP))
 rw [← hW6]
 have hb6 := hbS hW6 hb5 Gv3
 have B1_6 := hset hW6 Nv1v3.out B1_5
 have B2_6 := hset hW6 Nv2v3.out B2_5
 have ER_6 := erS hW6 ER_5 B3_5 HT0.out
 have B3_6 := hput hW6 B3_5
 clear hb5 hW6
 clear c3_0 f3_0 c3_1 f3_1
 have c1_2 := (k6c B1_6).2.2.1
 go_wp2_with fail
 refine (toKeptS_any B a3 n3 c3 ks _ (HA3.out _ hb6) (HBB.out _ hb6) HN.out.2.2.1 HSM.out).mono ?_
 rintro e w7 ⟨VK, kv, rfl, hkm, hko, bw⟩
 have HKM := hid hkm
 obtain ⟨oK, pK, hVK⟩ := hko.len
 rw [show kv.length = n3 from by rw [← HL.out.2.2.1, ← hkm, List.length_map]] at hVK
 subst hVK
 have HRN1 : Hid (RowsO w7 w.heap.size ([(⟨9, 1, (.slice oC n1 pC), n1, cs.map Value.string⟩ : Rw), (⟨148, 2, (.slice oP n2 pP), n2, flatWrite ws⟩ : Rw)] ++ kpAll (.slice oK n3 pK) kv)) := ER_6.out.more bw hko (Nat.le_refl _) hb6.size
 have HT1 : Hid (∀ r ∈ ([(⟨9, 1, (.slice oC n1 pC), n1, cs.map Value.string⟩ : Rw), (⟨148, 2, (.slice oP n2 pP), n2, flatWrite ws⟩ : Rw)] ++ kpAll (.slice oK n3 pK) kv), 38 ≠ r.T) := by
  intro r hr
  rcases List.mem_append.1 hr with hr | hr
  · exact HT0.out r hr
  · rcases kpAll_T hr with e | e | e <;> rw [e] <;> decide
 clear hkm hko
 have hb7 := hbt hb6 bw
 have B1_7 := hblk B1_6 bw
 have B2_7 := hblk B2_6 bw
 have B3_7 := hblk B3_6 bw
 have ER_7 := hid (ER_6.out.below bw)
 clear hb6 bw
 clear ER_7
 have ER_7 : Hid (RowsO (w7) w.heap.size ([(⟨9, 1, (.slice oC n1 pC), n1, cs.map Value.string⟩ : Rw), (⟨148, 2, (.slice oP n2 pP), n2, flatWrite ws⟩ : Rw)] ++ kpAll (.slice oK n3 pK) kv)) := HRN1.out
 clear HRN1
 clear c1_2
 have c3_2 := (k6c B3_7).2.2.1
 have f3_2 := hfz B3_7 2
 go_upto_region 4 with fail
 obtain ⟨w8, hW8⟩ := exq (w7.setCell ⟨q3, 2, none⟩ (.slice oK n3 pK))
 rw [← hW8]
 have hb8 := hbS hW8 hb7 Gv3
 have B1_8 := hset hW8 Nv1v3.out B1_7
 have B2_8 := hset hW8 Nv2v3.out B2_7
 have ER_8 := erS hW8 ER_7 B3_7 HT1.out
 have B3_8 := hput hW8 B3_7
 clear hb7 hW8
 clear c3_2 f3_2
 have c1_3 := (k6c B1_8).2.2.2.1
 go_wp2_with fail
 refine (toBanS_any B a4 n4 c4 bl _ (HA4.out _ hb8) (HBB.out _ hb8) HN.out.2.2.2).mono ?_
 rintro e w9 ⟨vb, rfl, hbo, bw⟩
 obtain ⟨oB, pB, rfl⟩ := slice_of_owns hbo
 have HRN2 : Hid (RowsO w9 w.heap.size (([(⟨9, 1, (.slice oC n1 pC), n1, cs.map Value.string⟩ : Rw), (⟨148, 2, (.slice oP n2 pP), n2, flatWrite ws⟩ : Rw)] ++ kpAll (.slice oK n3 pK) kv) ++ [(⟨111, 4, (.slice oB n4 pB), n4, flatBan bl⟩ : Rw)])) := ER_8.out.more bw (RowsO.one (r := (⟨111, 4, (.slice oB n4 pB), n4, flatBan bl⟩ : Rw)) hbo) (Nat.le_refl _) hb8.size
 have HT2 : Hid (∀ r ∈ (([(⟨9, 1, (.slice oC n1 pC), n1, cs.map Value.string⟩ : Rw), (⟨148, 2, (.slice oP n2 pP), n2, flatWrite ws⟩ : Rw)] ++ kpAll (.slice oK n3 pK) kv) ++ [(⟨111, 4, (.slice oB n4 pB), n4, flatBan bl⟩ : Rw)]), 38 ≠ r.T) := by
  intro r hr
  rcases List.mem_append.1 hr with hr | hr
  · exact HT1.out r hr
  ·rw [List.mem_singleton.1 hr]
   exact (by decide : (38 : TypeId) ≠ 111)
 clear hbo
 have hb9 := hbt hb8 bw
 have B1_9 := hblk B1_8 bw
 have B2_9 := hblk B2_8 bw
 have B3_9 := hblk B3_8 bw
 have ER_9 := hid (ER_8.out.below bw)
 clear hb8 bw
 clear ER_9
 have ER_9 : Hid (RowsO (w9) w.heap.size (([(⟨9, 1, (.slice oC n1 pC), n1, cs.map Value.string⟩ : Rw), (⟨148, 2, (.slice oP n2 pP), n2, flatWrite ws⟩ : Rw)] ++ kpAll (.slice oK n3 pK) kv) ++ [(⟨111, 4, (.slice oB n4 pB), n4, flatBan bl⟩ : Rw)])) := HRN2.out
 clear HRN2
 clear c1_3
 have c3_3 := (k6c B3_9).2.2.2.1
 have f3_3 := hfz B3_9 3
 go_upto_region 5 with fail
 obtain ⟨w10, hW10⟩ := exq (w9.setCell ⟨q3, 3, none⟩ (.slice oB n4 pB))
 rw [← hW10]
 have hb10 := hbS hW10 hb9 Gv3
 have B1_10 := hset hW10 Nv1v3.out B1_9
 have B2_10 := hset hW10 Nv2v3.out B2_9
 have ER_10 := erS hW10 ER_9 B3_9 HT2.out
 have B3_10 := hput hW10 B3_9
 clear hb9 hW10
 clear c3_3 f3_3
 have c1_4 := (k6c B1_10).2.2.2.2.1
 have c3_4 := (k6c B3_10).2.2.2.2.1
 have f3_4 := hfz B3_10 4
 go_upto_region 6 with fail
 obtain ⟨w11, hW11⟩ := exq (w10.setCell ⟨q3, 4, none⟩ (.int .i64 nx))
 rw [← hW11]
 have hb11 := hbS hW11 hb10 Gv3
 have B1_11 := hset hW11 Nv1v3.out B1_10
 have B2_11 := hset hW11 Nv2v3.out B2_10
 have ER_11 := erS hW11 ER_10 B3_10 HT2.out
 have B3_11 := hput hW11 B3_10
 clear hb10 hW11
 clear c1_4 c3_4 f3_4
 have c1_5 := (k6c B1_11).2.2.2.2.2
 have c3_5 := (k6c B3_11).2.2.2.2.2
 have f3_5 := hfz B3_11 5
 go_upto_region 7 with fail
 obtain ⟨w12, hW12⟩ := exq (w11.setCell ⟨q3, 5, none⟩ (.int .i64 sq))
 rw [← hW12]
 have hb12 := hbS hW12 hb11 Gv3
 have B1_12 := hset hW12 Nv1v3.out B1_11
 have B2_12 := hset hW12 Nv2v3.out B2_11
 have ER_12 := erS hW12 ER_11 B3_11 HT2.out
 have B3_12 := hput hW12 B3_11
 clear hb11 hW12
 clear c1_5 c3_5 f3_5
 have c2_0 := (k6c B2_12).1
 have f2_0 := hfz B2_12 0
 have c2_1 := (k6c B2_12).2.1
 have f2_1 := hfz B2_12 1
 have c2_2 := (k6c B2_12).2.2.1
 have f2_2 := hfz B2_12 2
 have c2_3 := (k6c B2_12).2.2.2.1
 have f2_3 := hfz B2_12 3
 have c2_4 := (k6c B2_12).2.2.2.2.1
 have f2_4 := hfz B2_12 4
 have c2_5 := (k6c B2_12).2.2.2.2.2
 have f2_5 := hfz B2_12 5
 have c3_0 := (k6c B3_12).1
 have c3_1 := (k6c B3_12).2.1
 have c3_2 := (k6c B3_12).2.2.1
 have c3_3 := (k6c B3_12).2.2.2.1
 have c3_4 := (k6c B3_12).2.2.2.2.1
 have c3_5 := (k6c B3_12).2.2.2.2.2
 go_wp2_with fail
 obtain ⟨w13, hW13⟩ := exq (w12.setCell ⟨q2, 0, none⟩ (.slice oC n1 pC))
 rw [← hW13]
 have hb13 := hbS hW13 hb12 Gv2
 have B1_13 := hset hW13 Nv1v2.out B1_12
 have B3_13 := hset hW13 Nv2v3.out.symm B3_12
 have ER_13 := erS hW13 ER_12 B2_12 HT2.out
 have B2_13 := hput hW13 B2_12
 clear hb12 hW13
 obtain ⟨w14, hW14⟩ := exq (w13.setCell ⟨q2, 1, none⟩ (.slice oP n2 pP))
 rw [← hW14]
 have hb14 := hbS hW14 hb13 Gv2
 have B1_14 := hset hW14 Nv1v2.out B1_13
 have B3_14 := hset hW14 Nv2v3.out.symm B3_13
 have ER_14 := erS hW14 ER_13 B2_13 HT2.out
 have B2_14 := hput hW14 B2_13
 clear hb13 hW14
 obtain ⟨w15, hW15⟩ := exq (w14.setCell ⟨q2, 2, none⟩ (.slice oK n3 pK))
 rw [← hW15]
 have hb15 := hbS hW15 hb14 Gv2
 have B1_15 := hset hW15 Nv1v2.out B1_14
 have B3_15 := hset hW15 Nv2v3.out.symm B3_14
 have ER_15 := erS hW15 ER_14 B2_14 HT2.out
 have B2_15 := hput hW15 B2_14
 clear hb14 hW15
 obtain ⟨w16, hW16⟩ := exq (w15.setCell ⟨q2, 3, none⟩ (.slice oB n4 pB))
 rw [← hW16]
 have hb16 := hbS hW16 hb15 Gv2
 have B1_16 := hset hW16 Nv1v2.out B1_15
 have B3_16 := hset hW16 Nv2v3.out.symm B3_15
 have ER_16 := erS hW16 ER_15 B2_15 HT2.out
 have B2_16 := hput hW16 B2_15
 clear hb15 hW16
 obtain ⟨w17, hW17⟩ := exq (w16.setCell ⟨q2, 4, none⟩ (.int .i64 nx))
 rw [← hW17]
 have hb17 := hbS hW17 hb16 Gv2
 have B1_17 := hset hW17 Nv1v2.out B1_16
 have B3_17 := hset hW17 Nv2v3.out.symm B3_16
 have ER_17 := erS hW17 ER_16 B2_16 HT2.out
 have B2_17 := hput hW17 B2_16
 clear hb16 hW17
 obtain ⟨w18, hW18⟩ := exq (w17.setCell ⟨q2, 5, none⟩ (.int .i64 sq))
 rw [← hW18]
 have hb18 := hbS hW18 hb17 Gv2
 have B1_18 := hset hW18 Nv1v2.out B1_17
 have B3_18 := hset hW18 Nv2v3.out.symm B3_17
 have ER_18 := erS hW18 ER_17 B2_17 HT2.out
 have B2_18 := hput hW18 B2_17
 clear hb17 hW18
 have kv2_0 := (k6c B2_18).1
 have kv2_1 := (k6c B2_18).2.1
 have kv2_2 := (k6c B2_18).2.2.1
 have kv2_3 := (k6c B2_18).2.2.2.1
 have kv2_4 := (k6c B2_18).2.2.2.2.1
 have kv2_5 := (k6c B2_18).2.2.2.2.2
 refine bodyPost_ret (v := .agg #[.slice oC n1 pC, .slice oP n2 pP, .slice oK n3 pK, .slice oB n4 pB, .int .i64 nx, .int .i64 sq]) (by simp [results, Tryz.results7, go_sem, kv2_0, kv2_1, kv2_2, kv2_3, kv2_4, kv2_5]) rfl ?_
 refine ⟨.slice oC n1 pC, .slice oP n2 pP, .slice oK n3 pK, .slice oB n4 pB, kv, rfl, ⟨?_, HKM.out⟩, hb18⟩
 have h := ER_18.out
 unfold shAll
 rw [HL.out.1, HL.out.2.1, HL.out.2.2.2]
 exact h
theorem specDiskOk_len (o1 : Oa) (n1 c1 : Nat) (v2 : Value) (n2 : Nat) (ws : List (Int × ByteArray)) (B : Nat) (w : World) (h : w.ownsRow B 148 2 v2 n2 (flatWrite ws)) (hn2 : n2 ≤ 2000000) :
  Calls Tryz.prog 52 #[.agg #[.slice o1 n1 c1, v2]] w fun e w' => BoolIs (DiskN n1 ws) w e w' := by
 obtain ⟨oPx, pPx, rfl⟩ := slice_of_owns h
 have HOPx_0 := hid h
 have HPL : Hid (ws.length = n2) := write_len h
 clear h
 have hb0 := Below.refl w.heap.size w
 go_enter Tryz.func52, Tryz.ntmps52
 go_upto_region 1 with fail
 obtain ⟨q1, hq1⟩ := exq (w.heap.size)
 obtain ⟨w1, hW1⟩ := exq (w.alloc (.cells #[.slice o1 n1 c1, .slice oPx n2 pPx] 34))
 have hz1 := hq1.symm
 rw [← hW1]; try rw [← hq1]
 have hs1 := hsa hW1 hz1
 have bw := bal hW1
 have hb1 := hbt hb0 bw
 have HOPx_1 := hown HOPx_0 bw
 have B1_1 := hnew hW1 hz1
 clear hb0 bw hW1 hz1
 clear hs1 hq1
 go_wp2_with fail
 go_loopw [3] (fun i wr => ∃ j : Nat, j ≤ n2 ∧ i = .int .i64 (j : Int) ∧ Hid (Below w.heap.size w (wr) ∧ wr.heap[q1]? = some (.cells #[.slice o1 n1 c1, .slice oPx n2 pPx] 34) ∧ wr.ownsRow B 148 2 (.slice oPx n2 pPx) n2 (flatWrite ws)) ∧ Hid (∀ x ∈ ws.take j, 0 ≤ x.1 ∧ x.1 ≤ 19)) (fun i _ => n2 - (intOf i).toNat)
 case atStart => exact ⟨0, Nat.zero_le _, rfl, ⟨hb1, B1_1.out, HOPx_1.out⟩, fun x hx => by simp at hx⟩
 case round =>
  obtain ⟨j, hj, rfl, HW, HN⟩ := hrel
  by_cases hlt : (j : Int) < (n2 : Int)
  rotate_left
  ·have hb2 := HW.out.1
   have B1_2 := hid HW.out.2.1
   have HOPx_2 : Hid (wr.ownsRow B 148 2 (.slice oPx n2 pPx) n2 (flatWrite ws)) := HW.out.2.2
   clear HW hb1
   have HAL : Hid (∀ x ∈ ws, 0 ≤ x.1 ∧ x.1 ≤ 19) := fun x hx => HN.out x (by rw [List.take_of_length_le (by rw [HPL.out]; omega)]; exact hx)
   clear HN
   have c1_1 := (k2c B1_2).2
   by_cases hc1 : (n1 : Int) = 20
   rotate_left
   ·have hc1b : ((n1 : Int) == (20 : Int)) = false := by simpa using hc1
    have hc1n : ((n1 : Int) != (20 : Int)) = true := by simpa using hc1
    have HE : Hid (¬ n1 = 20) := (by have := hc1; show ¬ _; omega)
    have hc1H := hid hc1
    clear hc1
    have c1_0 := (k2c B1_2).1
    go_wp2_with fail
    go_ret
    exact BoolIs.no (fun h => HE.out h.1) hb2
   have hc1b : ((n1 : Int) == (20 : Int)) = true := by simpa using hc1
   have hc1n : ((n1 : Int) != (20 : Int)) = false := by simpa using hc1
   have HE : Hid (n1 = 20) := (by have := hc1; show _ = _; omega)
   have hc1H := hid hc1
   clear hc1
   have c1_0 := (k2c B1_2).1
   by_cases hc2 : (n2 : Int) ≤ 16
   rotate_left
   ·have HLE : Hid (¬ n2 ≤ 16) := (by have := hc2; show ¬ _; omega)
    go_wp2_with fail
    go_ret
    exact BoolIs.no (fun h => HLE.out (by have := h.2.1; rw [HPL.out] at this; exact this)) hb2
   have HLE : Hid (n2 ≤ 16) := (by have := hc2; show _ ≤ _; omega)
   go_wp2_with fail
   go_ret
   exact ⟨true, rfl, ⟨fun _ => ⟨HE.out, by rw [HPL.out]; exact HLE.out, HAL.out⟩, fun _ => rfl⟩, hb2⟩
  have hb2 := HW.out.1
  have B1_2 := hid HW.out.2.1
  have HOPx_2 : Hid (wr.ownsRow B 148 2 (.slice oPx n2 pPx) n2 (flatWrite ws)) := HW.out.2.2
  clear HW hb1
  have hjx : j < ws.length := by rw [HPL.out]; omega
  obtain ⟨g, rfl⟩ := owns_some HOPx_2.out (by omega)
  obtain ⟨y, hy⟩ := exq (writeAt ws j)
  have HM : Hid (y ∈ ws) := by show _ ∈ _; rw [hy]; exact writeAt_mem ws j hjx
  have HTK : Hid (ws.take (j + 1) = ws.take j ++ [y]) := by show _ = _; rw [hy]; exact take_writeAt ws j hjx
  have HYE : Hid (writeAt ws j = y) := hy.symm
  clear hy hjx
  obtain ⟨y0, y1⟩ := y
  have HELPx : Hid (∀ W : World, (W).ownsRow B 148 2 (.slice (some ⟨g, 0, none⟩) n2 pPx) n2 (flatWrite ws) → (W.cell? ⟨g, j * 2, none⟩ = some (.int .i64 y0) ∧ W.cell? ⟨g, j * 2 + 1, none⟩ = some (.string y1))) := fun W h => by
   obtain ⟨g', hg, _, r0, r1⟩ := (write_view h).2 j (by omega)
   cases hg
   rw [HYE.out] at r0 r1
   exact ⟨r0, r1⟩
  obtain ⟨r0, r1⟩ := HELPx.out _ HOPx_2.out
  have c1_1 := (k2c B1_2).2
  go_wp2_with fail
  refine (l1In_any y0 0 19 _).mono ?_
  rintro e w3 ⟨rfl, hwe⟩
  have bw : Below wr.heap.size (wr) w3 := by rw [hwe]; exact Below.refl _ _
  clear hwe
  obtain ⟨uy, huy⟩ : ∃ u, u = decide ((0 : Int) ≤ y0 ∧ y0 ≤ 19) := ⟨_, rfl⟩
  rw [← huy]
  have hb3 := hbt hb2 bw
  have HOPx_3 := hown HOPx_2 bw
  have B1_3 := hblk B1_2 bw
  clear hb2 bw
  clear c1_1 r0 r1
  cases uy
  ·have HNY : Hid (¬ (0 ≤ y0 ∧ y0 ≤ 19)) := (show ¬ (0 ≤ y0 ∧ y0 ≤ 19) from of_decide_eq_false huy.symm)
   clear huy
   go_wp2_with fail
   go_ret
   exact BoolIs.no (fun h => HNY.out (h.2.2 _ HM.out)) hb3
  have HY : Hid (0 ≤ y0 ∧ y0 ≤ 19) := (show (0 ≤ y0 ∧ y0 ≤ 19) from of_decide_eq_true huy.symm)
  clear huy
  have HN2 : Hid (∀ x ∈ ws.take (j + 1), 0 ≤ x.1 ∧ x.1 ≤ 19) := fun x hx => by
   rw [HTK.out] at hx
   rcases List.mem_append.1 hx with hx | hx
   · exact HN.out x hx
   · rw [List.mem_singleton.1 hx]; exact HY.out
  go_wp2_with fail
  go_roundw
  case rel => exact ⟨j + 1, by omega, by go_num, ⟨hb3, B1_3.out, HOPx_3.out⟩, HN2⟩
  case measure => simp [intOf]; omega
theorem specDiskOk_any (v1 v2 : Value) (n1 : Nat) (cs : Ts) (n2 : Nat) (ws : List (Int × ByteArray)) (B : Nat) (w : World) (h : DiskO w B v1 n1 cs v2 n2 ws) (_hn1 : n1 ≤ 2000000) (hn2 : n2 ≤ 2000000) :
  Calls Tryz.prog 52 #[.agg #[v1, v2]] w fun e w' => BoolIs (DiskP cs ws) w e w' := by
 obtain ⟨oCx, pCx, rfl⟩ := slice_of_owns h.cells
 have hl : cs.length = n1 := by have := h.cells.1; rw [List.length_map] at this; omega
 refine (specDiskOk_len oCx n1 pCx v2 n2 ws B w h.pend hn2).mono fun e w' hq => ?_
 show BoolIs (DiskN cs.length ws) w e w'
 rw [hl]
 exact hq
end Go.Proofs.YtopeegjmpphjnaaGreatDoor
