/- What the proof of FnExactJudgeOnce leans on: contracts of the program's and the specification's functions, and plain facts (part 4 of 11). -/
import Derived.Test.YtbmhonfgffjpcaaGreatFnExactJudgeOnceC
set_option maxHeartbeats 16000000
set_option maxRecDepth 100000
namespace Go.Proofs.YtbmhonfgffjpcaaGreat
open Go.RowKit
open Go.Lib hiding intOf
/-- The i-th of a list. -/
def banAt (l : List (Int × ByteArray × ByteArray × Int)) (i : Nat) : (Int × ByteArray × ByteArray × Int) := l.getD i (0, ⟨#[]⟩, ⟨#[]⟩, 0)
/-- Its cells. -/
def banEnc (x : (Int × ByteArray × ByteArray × Int)) : List Value := [.int .i64 x.1, .string x.2.1, .string x.2.2.1, .int .i64 x.2.2.2]
def flatBan (l : List (Int × ByteArray × ByteArray × Int)) : List Value := l.flatMap banEnc
theorem flatBan_len (l : List (Int × ByteArray × ByteArray × Int)) : (flatBan l).length = l.length * 4 := by
 induction l with
 | nil => rfl
 | cons f r ih => simp only [flatBan, banEnc, List.flatMap_cons, List.length_append, List.length_cons, List.length_nil] at ih ⊢; omega
theorem flatBan_get : ∀ (l : List (Int × ByteArray × ByteArray × Int)) (i : Nat), i < l.length → (flatBan l)[i * 4]? = some (.int .i64 ((banAt l i).1)) ∧ (flatBan l)[i * 4 + 1]? = some (.string ((banAt l i).2.1)) ∧ (flatBan l)[i * 4 + 2]? = some (.string ((banAt l i).2.2.1)) ∧ (flatBan l)[i * 4 + 3]? = some (.int .i64 ((banAt l i).2.2.2))
 | [], i, h => by simp at h
 | f :: r, 0, _ => by simp [flatBan, banEnc, banAt]
 | f :: r, i + 1, h => by
  have ih := flatBan_get r i (by simpa using h)
  have e : flatBan (f :: r) = banEnc f ++ flatBan r := rfl
  have hl : (banEnc f).length = 4 := rfl
  have h2 : banAt (f :: r) (i + 1) = banAt r i := by simp [banAt]
  have key : ∀ j, (flatBan (f :: r))[i * 4 + 4 + j]? = (flatBan r)[i * 4 + j]? := fun j => by
   rw [e, List.getElem?_append_right (by rw [hl]; omega), hl]; congr 1; omega
  rw [h2]
  refine ⟨(by rw [show (i + 1) * 4 = i * 4 + 4 + 0 by omega, key]; exact ih.1), (by rw [show (i + 1) * 4 + 1 = i * 4 + 4 + 1 by omega, key]; exact ih.2.1), (by rw [show (i + 1) * 4 + 2 = i * 4 + 4 + 2 by omega, key]; exact ih.2.2.1), (by rw [show (i + 1) * 4 + 3 = i * 4 + 4 + 3 by omega, key]; exact ih.2.2.2)⟩
theorem banAt_mem (l : List (Int × ByteArray × ByteArray × Int)) (i : Nat) (h : i < l.length) : banAt l i ∈ l := by
 unfold banAt
 rw [List.getD_eq_getElem?_getD, List.getElem?_eq_getElem h]
 exact List.getElem_mem h
theorem take_banAt (l : List (Int × ByteArray × ByteArray × Int)) (i : Nat) (h : i < l.length) : l.take (i + 1) = l.take i ++ [banAt l i] := by
 unfold banAt
 rw [List.getD_eq_getElem?_getD, List.getElem?_eq_getElem h, List.take_succ_eq_append_getElem h]
 rfl
/-- A list that is read: its cells in a block that is there. -/
def BanA (w : World) (oa : Option Addr) (n : Nat) (l : List (Int × ByteArray × ByteArray × Int)) : Prop :=
 l.length = n ∧ ∀ i, i < n → ∃ g, oa = some ⟨g, 0, none⟩ ∧ g < w.heap.size ∧ w.cell? ⟨g, i * 4, none⟩ = some (.int .i64 ((banAt l i).1)) ∧ w.cell? ⟨g, i * 4 + 1, none⟩ = some (.string ((banAt l i).2.1)) ∧ w.cell? ⟨g, i * 4 + 2, none⟩ = some (.string ((banAt l i).2.2.1)) ∧ w.cell? ⟨g, i * 4 + 3, none⟩ = some (.int .i64 ((banAt l i).2.2.2))
theorem BanA.below {w W : World} {oa : Option Addr} {n : Nat} {l : List (Int × ByteArray × ByteArray × Int)} (h : BanA w oa n l) (hb : Below w.heap.size w W) : BanA W oa n l :=
 ⟨h.1, fun i hi => by
  obtain ⟨g, h1, h2, r0, r1, r2, r3⟩ := h.2 i hi
  exact ⟨g, h1, Nat.lt_of_lt_of_le h2 hb.size, by rw [hb.cell (p := ⟨g, i * 4, none⟩) h2]; exact r0, by rw [hb.cell (p := ⟨g, i * 4 + 1, none⟩) h2]; exact r1, by rw [hb.cell (p := ⟨g, i * 4 + 2, none⟩) h2]; exact r2, by rw [hb.cell (p := ⟨g, i * 4 + 3, none⟩) h2]; exact r3⟩⟩
/-- A list that came in, in blocks below B. -/
def ArgBan (w : World) (B : Nat) (a : Option Addr) (n : Nat) (l : List (Int × ByteArray × ByteArray × Int)) : Prop :=
 l.length = n ∧ ∀ i, i < n → ∃ b off, a = some ⟨b, off, none⟩ ∧ b < B ∧ w.cell? ⟨b, off + i * 4, none⟩ = some (.int .i64 ((banAt l i).1)) ∧ w.cell? ⟨b, off + i * 4 + 1, none⟩ = some (.string ((banAt l i).2.1)) ∧ w.cell? ⟨b, off + i * 4 + 2, none⟩ = some (.string ((banAt l i).2.2.1)) ∧ w.cell? ⟨b, off + i * 4 + 3, none⟩ = some (.int .i64 ((banAt l i).2.2.2))
theorem ArgBan.below {w w' : World} {B : Nat} {a : Option Addr} {n : Nat} {l : List (Int × ByteArray × ByteArray × Int)} (h : ArgBan w B a n l) (hb : Below B w w') : ArgBan w' B a n l :=
 ⟨h.1, fun i hi => by
  obtain ⟨b, off, h1, h2, r0, r1, r2, r3⟩ := h.2 i hi
  exact ⟨b, off, h1, h2, by rw [hb.cell (p := ⟨b, off + i * 4, none⟩) h2]; exact r0, by rw [hb.cell (p := ⟨b, off + i * 4 + 1, none⟩) h2]; exact r1, by rw [hb.cell (p := ⟨b, off + i * 4 + 2, none⟩) h2]; exact r2, by rw [hb.cell (p := ⟨b, off + i * 4 + 3, none⟩) h2]; exact r3⟩⟩
/-- The first k of a row of 4 n cells are told. -/
def PartBan (w : World) (g n k : Nat) (l : List (Int × ByteArray × ByteArray × Int)) : Prop :=
 ∃ cur, w.heap[g]? = some (.cells cur 152 (0, 0)) ∧ cur.size = n * 4 ∧ ∀ i, i < k → cur[i * 4]? = some (.int .i64 ((banAt l i).1)) ∧ cur[i * 4 + 1]? = some (.string ((banAt l i).2.1)) ∧ cur[i * 4 + 2]? = some (.string ((banAt l i).2.2.1)) ∧ cur[i * 4 + 3]? = some (.int .i64 ((banAt l i).2.2.2))
theorem PartBan.below {w w' : World} {g n k B : Nat} {l : List (Int × ByteArray × ByteArray × Int)} (h : PartBan w g n k l) (hb : Below B w w') (hB : g < B) : PartBan w' g n k l := by
 obtain ⟨cur, h1, h2⟩ := h
 exact ⟨cur, by rw [hb.block g hB]; exact h1, h2⟩
theorem PartBan.lt {w : World} {g n k : Nat} {l : List (Int × ByteArray × ByteArray × Int)} (h : PartBan w g n k l) : g < w.heap.size := by
 obtain ⟨cur, h1, _⟩ := h
 exact (Array.getElem?_eq_some_iff.1 h1).1
theorem PartBan.cell {w : World} {g n k : Nat} {l : List (Int × ByteArray × ByteArray × Int)} (h : PartBan w g n k l) (j : Nat) (hj : j < n * 4) : ∃ u, w.cell? ⟨g, j, none⟩ = some u := by
 obtain ⟨cur, h1, h2, _⟩ := h
 refine ⟨cur[j]'(by omega), ?_⟩
 simp only [World.cell?, h1]
 simp [show j < cur.size by omega]
theorem PartBan.frozen {w : World} {g n k : Nat} {l : List (Int × ByteArray × ByteArray × Int)} (h : PartBan w g n k l) (j : Nat) : w.frozen? ⟨g, j, none⟩ = false := by
 obtain ⟨cur, h1, _⟩ := h
 simp [World.frozen?, h1]
theorem PartBan.put {w : World} {g n k : Nat} {l : List (Int × ByteArray × ByteArray × Int)} (h : PartBan w g n k l) (hk : k < n) : PartBan ((((w.setCell ⟨g, k * 4, none⟩ (.int .i64 (banAt l k).1)).setCell ⟨g, k * 4 + 1, none⟩ (.string (banAt l k).2.1)).setCell ⟨g, k * 4 + 2, none⟩ (.string (banAt l k).2.2.1)).setCell ⟨g, k * 4 + 3, none⟩ (.int .i64 (banAt l k).2.2.2)) g n (k + 1) l := by
 obtain ⟨cur, h1, h2, h3⟩ := h
 refine ⟨_, heap_set _ g (k * 4 + 3) _ _ _ _ (heap_set _ g (k * 4 + 2) _ _ _ _ (heap_set _ g (k * 4 + 1) _ _ _ _ (heap_set _ g (k * 4) _ _ _ _ h1))), by simpa using h2, ?_⟩
 intro i hi
 by_cases e : i = k
 ·
  subst e
  exact ⟨by rw [Array.getElem?_setIfInBounds_ne (by omega), Array.getElem?_setIfInBounds_ne (by omega), Array.getElem?_setIfInBounds_ne (by omega), Array.getElem?_setIfInBounds_self_of_lt (by first | omega | (simp; omega))], by rw [Array.getElem?_setIfInBounds_ne (by omega), Array.getElem?_setIfInBounds_ne (by omega), Array.getElem?_setIfInBounds_self_of_lt (by first | omega | (simp; omega))], by rw [Array.getElem?_setIfInBounds_ne (by omega), Array.getElem?_setIfInBounds_self_of_lt (by first | omega | (simp; omega))], by rw [Array.getElem?_setIfInBounds_self_of_lt (by first | omega | (simp; omega))]⟩
 ·
  have := h3 i (by omega)
  exact ⟨by rw [Array.getElem?_setIfInBounds_ne (by omega), Array.getElem?_setIfInBounds_ne (by omega), Array.getElem?_setIfInBounds_ne (by omega), Array.getElem?_setIfInBounds_ne (by omega)]; exact this.1, by rw [Array.getElem?_setIfInBounds_ne (by omega), Array.getElem?_setIfInBounds_ne (by omega), Array.getElem?_setIfInBounds_ne (by omega), Array.getElem?_setIfInBounds_ne (by omega)]; exact this.2.1, by rw [Array.getElem?_setIfInBounds_ne (by omega), Array.getElem?_setIfInBounds_ne (by omega), Array.getElem?_setIfInBounds_ne (by omega), Array.getElem?_setIfInBounds_ne (by omega)]; exact this.2.2.1, by rw [Array.getElem?_setIfInBounds_ne (by omega), Array.getElem?_setIfInBounds_ne (by omega), Array.getElem?_setIfInBounds_ne (by omega), Array.getElem?_setIfInBounds_ne (by omega)]; exact this.2.2.2⟩
theorem PartBan.owns {w : World} {g n : Nat} {l : List (Int × ByteArray × ByteArray × Int)} (h : PartBan w g n n l) (hl : l.length = n) (hm : n ≤ maxLen) {base : Nat} (hb : base ≤ g) : w.ownsRow base 152 4 (.slice (some ⟨g, 0, none⟩) n n) n (flatBan l) := by
 obtain ⟨cur, hg, hs, hc⟩ := h
 refine ⟨by rw [flatBan_len, hl], .inr ⟨g, n, cur, rfl, hb, hg, Nat.le_refl _, hm, hs, ?_⟩⟩
 apply List.ext_getElem?
 intro j
 rw [List.getElem?_take]
 by_cases hj : j < n * 4
 ·
  rw [if_pos hj]
  have hf := flatBan_get l (j / 4) (by omega)
  have hcc := hc (j / 4) (by omega)
  have hr : j = (j / 4) * 4 ∨ j = (j / 4) * 4 + 1 ∨ j = (j / 4) * 4 + 2 ∨ j = (j / 4) * 4 + 3 := by omega
  rcases hr with e | e | e | e
  ·
   have e2 := hf.1
   have e3 := hcc.1
   rw [← e] at e2 e3
   rw [e2]; simpa using e3
  ·
   have e2 := hf.2.1
   have e3 := hcc.2.1
   rw [← e] at e2 e3
   rw [e2]; simpa using e3
  ·
   have e2 := hf.2.2.1
   have e3 := hcc.2.2.1
   rw [← e] at e2 e3
   rw [e2]; simpa using e3
  ·
   have e2 := hf.2.2.2
   have e3 := hcc.2.2.2
   rw [← e] at e2 e3
   rw [e2]; simpa using e3
 · rw [if_neg hj, List.getElem?_eq_none (by rw [flatBan_len]; omega)]
/-- An owned list can be read. -/
theorem ban_view {w : World} {base n cap : Nat} {oa : Option Addr} {l : List (Int × ByteArray × ByteArray × Int)} (h : w.ownsRow base 152 4 (.slice oa n cap) n (flatBan l)) : BanA w oa n l := by
 obtain ⟨hl, hv⟩ := h
 rw [flatBan_len] at hl
 refine ⟨by omega, fun i hi => ?_⟩
 rcases hv with ⟨e, h0⟩ | ⟨g, cap, cur, e, hb, hg, hn, hm, hcs, htk⟩
 · omega
 ·
  cases e
  have hf := flatBan_get l i (by omega)
  rw [← htk] at hf
  simp only [List.getElem?_take] at hf
  rw [if_pos (by omega), if_pos (by omega), if_pos (by omega), if_pos (by omega)] at hf
  refine ⟨g, rfl, (Array.getElem?_eq_some_iff.1 hg).1, by simp only [World.cell?, hg]; simpa using hf.1, by simp only [World.cell?, hg]; simpa using hf.2.1, by simp only [World.cell?, hg]; simpa using hf.2.2.1, by simp only [World.cell?, hg]; simpa using hf.2.2.2⟩
theorem infoBan : (Tryz.prog.info? 152).map (fun i => (i.zero, i.size, i.bytes)) = some (some (.agg #[.int .i64 0, .string ⟨#[]⟩, .string ⟨#[]⟩, .int .i64 0]), 4, 48) := by kernel_rfl
/-- The measure is negative, or what is left of L. -/
def SzBanR (L : Int) (n : Nat) (l : List (Int × ByteArray × ByteArray × Int)) (w : World) (e : Ending) (w' : World) : Prop :=
 ∃ r : Int, e = .returned (.int .i64 r) ∧ r ≤ L ∧ (0 ≤ r → r + (n : Int) ≤ L ∧ n ≤ 1048576 ∧ ∀ x ∈ l, (x.2.1).size ≤ 1048576 ∧ (x.2.2.1).size ≤ 1048576) ∧ Below w.heap.size w w'
theorem szBanS_room (L : Int) (hL0 : 0 ≤ L) (hL1 : L ≤ 1048576) (B : Nat) (a : Option Addr) (n cap : Nat) (l : List (Int × ByteArray × ByteArray × Int)) (w : World) (harg : ArgBan w B a n l) (hB : B ≤ w.heap.size) (hn : n ≤ maxLen) (hsz : ∀ x ∈ l, (x.2.1).size ≤ maxLen ∧ (x.2.2.1).size ≤ maxLen) :
  Calls Tryz.prog 52 #[.slice a n cap, .int .i64 L] w fun e w' => SzBanR L n l w e w' := by
 unfold maxLen at hn
 have HS : Hid (∀ x ∈ l, (x.2.1).size ≤ maxLen ∧ (x.2.2.1).size ≤ maxLen) := hsz
 have HLN : Hid (l.length = n) := harg.1
 have HA : Hid (∀ W, Below w.heap.size w W → ArgBan W B a n l) := fun W h => harg.below (h.mono hB)
 clear hsz harg
 by_cases c1 : L - (n : Int) < 0
 ·
  go_enter Tryz.func52, Tryz.ntmps52
  go_wp2
  go_ret
  exact ⟨-1, rfl, by omega, fun h => absurd h (by omega), Below.refl _ _⟩
 ·
  go_enter Tryz.func52, Tryz.ntmps52
  go_wp2
  go_loopw [1, 5] (fun lf i wr => ∃ (k : Nat) (x : Int), k ≤ n ∧ i = .int .i64 (k : Int) ∧ lf = .int .i64 x ∧ 0 ≤ x ∧ x + (n : Int) ≤ L ∧ Hid (∀ x ∈ l.take k, (x.2.1).size ≤ 1048576 ∧ (x.2.2.1).size ≤ 1048576) ∧ Hid (Below w.heap.size w wr)) (fun _ i _ => n - (intOf i).toNat)
  case atStart => exact ⟨0, _, Nat.zero_le _, rfl, rfl, by omega, by omega, fun x hx => by simp at hx, Below.refl _ _⟩
  case round =>
   obtain ⟨k, x, hk, rfl, rfl, hx0, hx1, HX, HBW⟩ := hrel
   by_cases hlt : k < n
   ·
    have hlt2 : (k : Int) < (n : Int) := by omega
    obtain ⟨b, off, rfl, hbB, r0, r1, r2, r3⟩ := (HA.out wr HBW.out).2 k hlt
    obtain ⟨y, hy⟩ := exq (banAt l k)
    have HM : Hid (y ∈ l) := by show _ ∈ _; rw [hy]; exact banAt_mem l k (by rw [HLN.out]; exact hlt)
    have HTK : Hid (l.take (k + 1) = l.take k ++ [y]) := by show _ = _; rw [hy]; exact take_banAt l k (by rw [HLN.out]; exact hlt)
    have s1 := HS.out y HM.out
    rw [← hy] at r0 r1 r2 r3
    clear hy
    obtain ⟨y0, y1, y2, y3⟩ := y
    go_wp2_with fail
    refine (szBan_any x hx0 (by omega) y0 y1 y2 y3 _ s1.1 s1.2).mono ?_
    rintro e w1 ⟨r, rfl, hr1, hr2, bw⟩
    have HB2 : Hid (Below w.heap.size w w1) := HBW.out.trans (bw.mono HBW.out.size)
    clear r0 r1 r2 r3 bw
    by_cases d1 : r < 0
    ·
     clear hr2
     go_wp2
     go_ret
     exact ⟨-1, rfl, by omega, fun h => absurd h (by omega), HB2.out⟩
    ·
     have HX2 : Hid (∀ x ∈ l.take (k + 1), (x.2.1).size ≤ 1048576 ∧ (x.2.2.1).size ≤ 1048576) := fun x hx => by
      rw [HTK.out] at hx
      rcases List.mem_append.1 hx with hx | hx
      · exact HX.out x hx
      · rw [List.mem_singleton.1 hx]; exact hr2 (by omega)
     clear hr2
     go_wp2
     go_roundw
     case rel => exact ⟨k + 1, r, by omega, by go_num, rfl, by omega, by omega, HX2, HB2⟩
     case measure => simp [intOf]; omega
   ·
    have HF : Hid (n ≤ 1048576 ∧ ∀ x ∈ l, (x.2.1).size ≤ 1048576 ∧ (x.2.2.1).size ≤ 1048576) := ⟨by omega, fun x hx => HX.out x (by rw [List.take_of_length_le (by rw [HLN.out]; omega)]; exact hx)⟩
    go_wp2
    go_ret
    exact ⟨x, rfl, by omega, fun _ => ⟨by omega, HF.out⟩, HBW.out⟩
theorem toBanS_any (B : Nat) (a : Option Addr) (n cap : Nat) (l : List (Int × ByteArray × ByteArray × Int)) (w : World) (harg : ArgBan w B a n l) (hB : B ≤ w.heap.size) (hn : n ≤ 1048576) :
  Calls Tryz.prog 62 #[.slice a n cap] w fun e w' => ∃ v, e = .returned v ∧ w'.ownsRow w.heap.size 152 4 v n (flatBan l) ∧ Below w.heap.size w w' := by
 obtain ⟨i0, hi, hz0, hz1, hz2⟩ := info_parts infoBan
 obtain ⟨M, hM⟩ : ∃ M, M = madeCells (Value.agg #[.int .i64 0, .string ⟨#[]⟩, .string ⟨#[]⟩, .int .i64 0]).cells (((n : Nat) : Int).toNat * i0.size) := ⟨_, rfl⟩
 have hmk : ∀ W : World, (Instr.makeSlice 51 (.int .i64 (n : Int)) (.int .i64 (n : Int))).run Tryz.prog W = .ok (.slice (some ⟨W.heap.size, 0, none⟩) n n) (W.alloc (.cells M 152)) := fun W => by
  have h := run_make (P := Tryz.prog) W 51 152 i0 (.agg #[.int .i64 0, .string ⟨#[]⟩, .string ⟨#[]⟩, .int .i64 0]) Tryz.underlying51 hi hz0 .i64 .i64 (n : Int) (n : Int) (by omega) (by omega) (by rw [hz2]; omega) (by omega)
  rw [← hM] at h
  simpa using h
 have hMs : M.size = n * 4 := by rw [hM, size_madeCells, hz1]; simp
 have HLN : Hid (l.length = n) := harg.1
 have HA : Hid (∀ W, Below w.heap.size w W → ArgBan W B a n l) := fun W h => harg.below (h.mono hB)
 clear hM harg
 have HP : Hid (PartBan (w.alloc (.cells M 152)) w.heap.size n 0 l) := ⟨M, heap_alloc_new w _, hMs, fun i h => absurd h (by omega)⟩
 go_enter Tryz.func62, Tryz.ntmps62
 go_wp2
 go_loopw [4] (fun i wr => ∃ k : Nat, k ≤ n ∧ i = .int .i64 (k : Int) ∧ Hid (PartBan wr w.heap.size n k l) ∧ Hid (Below w.heap.size w wr)) (fun i _ => n - (intOf i).toNat)
 case atStart => exact ⟨0, Nat.zero_le _, rfl, HP, (Below.refl _ _).alloc (Nat.le_refl _) _⟩
 case round =>
  obtain ⟨k, hk, rfl, hpr, HBW⟩ := hrel
  by_cases hlt : k < n
  ·
   have hlt2 : (k : Int) < (n : Int) := by omega
   obtain ⟨b, off, rfl, hbB, r0, r1, r2, r3⟩ := (HA.out wr HBW.out).2 k hlt
   obtain ⟨y, hy⟩ := exq (banAt l k)
   rw [← hy] at r0 r1 r2 r3
   have HY : Hid (banAt l k = y) := hy.symm
   clear hy
   obtain ⟨y0, y1, y2, y3⟩ := y
   go_wp2_with fail
   refine (toBan_any y0 y1 y2 y3 _).mono ?_
   rintro e w1 ⟨rfl, bw⟩
   have hpr1 := hpr.out.below bw hpr.out.lt
   have HB2 : Hid (Below w.heap.size w w1) := HBW.out.trans (bw.mono HBW.out.size)
   obtain ⟨u0, hu0⟩ := hpr1.cell (k * 4) (by omega)
   have f0 := hpr1.frozen (k * 4)
   obtain ⟨u1, hu1⟩ := hpr1.cell (k * 4 + 1) (by omega)
   have f1 := hpr1.frozen (k * 4 + 1)
   obtain ⟨u2, hu2⟩ := hpr1.cell (k * 4 + 2) (by omega)
   have f2 := hpr1.frozen (k * 4 + 2)
   obtain ⟨u3, hu3⟩ := hpr1.cell (k * 4 + 3) (by omega)
   have f3 := hpr1.frozen (k * 4 + 3)
   have hput := hpr1.put hlt
   rw [HY.out] at hput
   have HPUT : Hid _ := hput
   clear hput r0 r1 r2 r3 bw
   go_wp2
   go_roundw
   case rel => exact ⟨k + 1, by omega, by go_num, HPUT, (((HB2.out.setCell (Nat.le_refl _) _).setCell (Nat.le_refl _) _).setCell (Nat.le_refl _) _).setCell (Nat.le_refl _) _⟩
   case measure => simp [intOf]; omega
  ·
   obtain rfl : k = n := by omega
   go_wp2
   go_ret
   exact ⟨_, rfl, hpr.out.owns HLN.out (by unfold maxLen; omega) (Nat.le_refl _), HBW.out⟩
theorem eqBanS_any (o1 o2 : Option Addr) (n c1 c2 : Nat) (l : List (Int × ByteArray × ByteArray × Int)) (w : World) (h1 : BanA w o1 n l) (h2 : BanA w o2 n l) (hn : n ≤ 2000000) :
  Calls Tryz.prog 74 #[.slice o1 n c1, .slice o2 n c2] w fun e w' => e = .returned (.bool true) ∧ Below w.heap.size w w' := by
 have H1 : Hid (∀ W, Below w.heap.size w W → BanA W o1 n l) := fun W h => h1.below h
 have H2 : Hid (∀ W, Below w.heap.size w W → BanA W o2 n l) := fun W h => h2.below h
 clear h1 h2
 go_enter Tryz.func74, Tryz.ntmps74
 go_wp2
 go_loopw [5] (fun i wr => ∃ k : Nat, k ≤ n ∧ i = .int .i64 (k : Int) ∧ Hid (Below w.heap.size w wr)) (fun i _ => n - (intOf i).toNat)
 case atStart => exact ⟨0, Nat.zero_le _, rfl, Below.refl _ _⟩
 case round =>
  obtain ⟨k, hk, rfl, HBW⟩ := hrel
  by_cases hlt : k < n
  ·
   have hlt2 : (k : Int) < (n : Int) := by omega
   obtain ⟨y, hy⟩ := exq (banAt l k)
   obtain ⟨g1, rfl, hg1, a0, a1, a2, a3⟩ := (H1.out wr HBW.out).2 k hlt
   obtain ⟨g2, rfl, hg2, b0, b1, b2, b3⟩ := (H2.out wr HBW.out).2 k hlt
   rw [← hy] at a0 b0 a1 b1 a2 b2 a3 b3
   clear hy
   obtain ⟨y0, y1, y2, y3⟩ := y
   have HA : Hid (∀ w0 w1, Below wr.heap.size wr w0 → Below w0.heap.size w0 w1 → (w1.cell? ⟨g1, k * 4, none⟩ = some (.int .i64 y0) ∧ w1.cell? ⟨g1, k * 4 + 1, none⟩ = some (.string y1) ∧ w1.cell? ⟨g1, k * 4 + 2, none⟩ = some (.string y2) ∧ w1.cell? ⟨g1, k * 4 + 3, none⟩ = some (.int .i64 y3) ∧ w1.cell? ⟨g2, k * 4, none⟩ = some (.int .i64 y0) ∧ w1.cell? ⟨g2, k * 4 + 1, none⟩ = some (.string y1) ∧ w1.cell? ⟨g2, k * 4 + 2, none⟩ = some (.string y2) ∧ w1.cell? ⟨g2, k * 4 + 3, none⟩ = some (.int .i64 y3)) ∧ Below wr.heap.size wr w1) := fun w0 w1 h h' => by
    have hx := h.trans (h'.mono h.size)
    exact ⟨⟨by rw [hx.cell (p := ⟨g1, k * 4, none⟩) hg1]; exact a0, by rw [hx.cell (p := ⟨g1, k * 4 + 1, none⟩) hg1]; exact a1, by rw [hx.cell (p := ⟨g1, k * 4 + 2, none⟩) hg1]; exact a2, by rw [hx.cell (p := ⟨g1, k * 4 + 3, none⟩) hg1]; exact a3, by rw [hx.cell (p := ⟨g2, k * 4, none⟩) hg2]; exact b0, by rw [hx.cell (p := ⟨g2, k * 4 + 1, none⟩) hg2]; exact b1, by rw [hx.cell (p := ⟨g2, k * 4 + 2, none⟩) hg2]; exact b2, by rw [hx.cell (p := ⟨g2, k * 4 + 3, none⟩) hg2]; exact b3⟩, hx⟩
   go_wp2
   go_region_held3 (fun w' => w'.cell? ⟨g1, k * 4, none⟩ = some (.int .i64 y0) ∧ w'.cell? ⟨g1, k * 4 + 1, none⟩ = some (.string y1) ∧ w'.cell? ⟨g1, k * 4 + 2, none⟩ = some (.string y2) ∧ w'.cell? ⟨g1, k * 4 + 3, none⟩ = some (.int .i64 y3) ∧ w'.cell? ⟨g2, k * 4, none⟩ = some (.int .i64 y0) ∧ w'.cell? ⟨g2, k * 4 + 1, none⟩ = some (.string y1) ∧ w'.cell? ⟨g2, k * 4 + 2, none⟩ = some (.string y2) ∧ w'.cell? ⟨g2, k * 4 + 3, none⟩ = some (.int .i64 y3)) (first | assumption | go_keep) (first | (go_at_call 110; refine (eqBan_any _ _ _ _ _).mono ?_; rintro e w1 ⟨rfl, hb1⟩; obtain ⟨hcc, hbx⟩ := HA.out _ w1 ((Below.refl _ wr).drew) hb1))
   go_wp2
   go_roundw
   case rel => exact ⟨k + 1, by omega, by go_num, HBW.out.trans (hbx.mono HBW.out.size)⟩
   case measure => simp [intOf]; omega
  ·
   go_wp2
   go_ret
   exact ⟨rfl, HBW.out⟩
/-- A list among the arguments: what it holds. -/
theorem openBanS {H : Type} {enc : TypeId × Value → H} {W : World} {fuel : Nat} {a : Option Addr} {n cap : Nat} {x : DataW H × List MemPlace} (h : DataW.trod enc Tryz.prog W 0 (fun _ => true) true fuel 27 [.slice a n cap] = some x) :
  ∃ l, ArgBan W W.heap.size a n l ∧ n ≤ maxLen ∧ ∀ x ∈ l, (x.2.1).size ≤ maxLen ∧ (x.2.2.1).size ≤ maxLen := by
 rcases Go.Deep.open_slice Tryz.underlying27 h with ⟨hcs, _⟩ | ⟨ad, len, c, m, q, Dd, Pl, hcs, _, hl, hm, hmm, _, hx⟩
 ·
  simp at hcs
  obtain ⟨rfl, rfl, rfl⟩ := hcs
  exact ⟨[], ⟨rfl, fun i hi => absurd hi (by omega)⟩, Nat.zero_le _, fun x hx => by simp at hx⟩
 ·
  simp at hcs
  obtain ⟨rfl, rfl, rfl⟩ := hcs
  have hm2 : m = cap := by simpa using hmm
  have ce : Tryz.prog.cellsOf 160 = 4 := by kernel_rfl
  have ci : Tryz.prog.cellsOf 3 = 1 := by kernel_rfl
  have cs : Tryz.prog.cellsOf 9 = 1 := by kernel_rfl
  have each : ∀ i, i < n → ∃ y : (Int × ByteArray × ByteArray × Int), (W.cell? (ad.add (i * 4 + 0)) = some (.int .i64 (y.1)) ∧ W.cell? (ad.add (i * 4 + 1)) = some (.string (y.2.1)) ∧ W.cell? (ad.add (i * 4 + 2)) = some (.string (y.2.2.1)) ∧ W.cell? (ad.add (i * 4 + 3)) = some (.int .i64 (y.2.2.2))) ∧ (y.2.1).size ≤ maxLen ∧ (y.2.2.1).size ≤ maxLen := by
   intro i hi
   obtain ⟨cs', h1, h2⟩ := hx i (by omega)
   rw [ce] at h1
   obtain ⟨_, hlen, hcell⟩ := World.cells?_some h1
   obtain ⟨xs, k, hk, hxy, _, hxl, hf⟩ := DataW.trod_struct Tryz.underlying160 h2
   match xs, hxl, cs', hlen with
   | [x0, x1, x2, x3], _, [v0, v1, v2, v3], _ =>
    have g0 := hf 0 _ rfl
    have g1 := hf 1 _ rfl
    have g2 := hf 2 _ rfl
    have g3 := hf 3 _ rfl
    simp [ci, cs] at g0 g1 g2 g3
    obtain ⟨s0, e0, _, _⟩ := DataW.trod_int Tryz.underlying3 g0
    obtain ⟨s1, e1, _, z1⟩ := DataW.trod_string Tryz.underlying9 g1
    obtain ⟨s2, e2, _, z2⟩ := DataW.trod_string Tryz.underlying9 g2
    obtain ⟨s3, e3, _, _⟩ := DataW.trod_int Tryz.underlying3 g3
    simp only [List.cons.injEq, and_true] at e0 e1 e2 e3
    subst e0 e1 e2 e3
    have c0 := hcell 0 (by omega)
    have c1 := hcell 1 (by omega)
    have c2 := hcell 2 (by omega)
    have c3 := hcell 3 (by omega)
    rw [Go.Deep.add_add] at c0 c1 c2 c3
    exact ⟨(s0, s1, s2, s3), ⟨by simpa using c0, by simpa using c1, by simpa using c2, by simpa using c3⟩, ⟨z1, z2⟩⟩
  obtain ⟨q, hq⟩ := Go.Deep.choose_lt each
  have hat : ∀ i, i < n → banAt ((List.range n).map q) i = q i := fun i hi => by
   unfold banAt
   rw [List.getD_eq_getElem?_getD, List.getElem?_map, List.getElem?_range hi]
   rfl
  refine ⟨(List.range n).map q, ⟨by simp, fun i hi => ?_⟩, by omega, fun x hx => ?_⟩
  ·
   obtain ⟨c0, _⟩ := hq i hi
   obtain ⟨c3, _⟩ := hq 0 (by omega)
   have hsp : ad.spot = none := by
    have := World.cell?_spot c3.1
    simpa [Addr.add] using this
   clear c3
   obtain ⟨b, off, sp⟩ := ad
   simp only at hsp
   subst hsp
   simp only [addr_add] at c0
   rw [hat i hi]
   have hlt := World.block_lt_of_cell? W _ c0.1
   exact ⟨b, off, rfl, hlt, by simpa [Nat.add_assoc] using c0.1, by simpa [Nat.add_assoc] using c0.2.1, by simpa [Nat.add_assoc] using c0.2.2.1, by simpa [Nat.add_assoc] using c0.2.2.2⟩
  ·
   obtain ⟨i, hi, rfl⟩ := List.mem_map.1 hx
   exact (hq i (List.mem_range.1 hi)).2
end Go.Proofs.YtbmhonfgffjpcaaGreat
namespace Go.Proofs.YtbmhonfgffjpcaaGreat
open Go.RowKit
open Go.Lib hiding intOf
def zeroK : KpD := ⟨⟨#[]⟩, [], [], 0, [], ⟨#[]⟩, 0, 0, 0⟩
def kpAt (ks : List KpD) (i : Nat) : KpD := ks.getD i zeroK
theorem kpAt_get (ks : List KpD) (i : Nat) (h : i < ks.length) : ks[i]'h = kpAt ks i := by
 unfold kpAt
 rw [List.getD_eq_getElem?_getD, List.getElem?_eq_getElem h]
 rfl
theorem kpAt_mem (ks : List KpD) (i : Nat) (h : i < ks.length) : kpAt ks i ∈ ks := by rw [← kpAt_get ks i h]; exact List.getElem_mem h
theorem kpAt_take (ks : List KpD) (i : Nat) (h : i < ks.length) : ks.take (i + 1) = ks.take i ++ [kpAt ks i] := by rw [← kpAt_get ks i h, List.take_succ_eq_append_getElem h]
/-- The object of it is right. -/
def ObjK (k : KpD) : Prop := ObjP k.p k.xs k.ys k.st k.fs k.b k.t
/-- The one at that place is right, and right behind those ahead of it. -/
def KpOk (ks : List KpD) (sq : Int) (i : Nat) : Prop :=
 ObjK (kpAt ks i) ∧ (5 ≤ (kpAt ks i).a ∧ (kpAt ks i).a ≤ 19) ∧ (1 ≤ (kpAt ks i).q ∧ (kpAt ks i).q ≤ sq - 1) ∧ (0 < i → (kpAt ks (i - 1)).q < (kpAt ks i).q) ∧ ∀ j, j < i → (kpAt ks j).a ≠ (kpAt ks i).a
/-- A store, as it is told. -/
structure ShD where
 cs : List ByteArray
 ws : List (Int × ByteArray)
 ks : List KpD
 bl : List (Int × ByteArray × ByteArray × Int)
 nx : Int
 sq : Int
/-- A store is right. -/
def ShelfP (s : ShD) : Prop :=
 DiskP s.cs s.ws ∧ s.bl.length ≤ 5 ∧ (5 ≤ s.nx ∧ s.nx ≤ 19) ∧ (1 ≤ s.sq ∧ s.sq ≤ 100000) ∧ (∀ x ∈ s.bl, BanP x.1 x.2.1 x.2.2.1 x.2.2.2) ∧ ∀ i, i < s.ks.length → KpOk s.ks s.sq i
end Go.Proofs.YtbmhonfgffjpcaaGreat
namespace Go.Proofs.YtbmhonfgffjpcaaGreat
open Go.RowKit
open Go.Lib hiding intOf
theorem toKept_any (p : ByteArray) (a1 : Option Addr) (n1 c1 : Nat) (xs : List ByteArray) (a2 : Option Addr) (n2 c2 : Nat) (ys : List ByteArray) (st : Int) (a3 : Option Addr) (n3 c3 : Nat) (fs : List (ByteArray × ByteArray)) (b : ByteArray) (t ka kq : Int) (B : Nat) (w : World) (h1 : ArgT w B a1 n1 xs) (h2 : ArgT w B a2 n2 ys) (h3 : ArgF w B a3 n3 fs) (hB : B ≤ w.heap.size) (hn1 : n1 ≤ 1048576) (hn2 : n2 ≤ 1048576) (hn3 : n3 ≤ 1048576) :
  Calls Tryz.prog 96 #[.agg #[.string p, .slice a1 n1 c1, .slice a2 n2 c2, .int .i64 st, .slice a3 n3 c3, .string b, .int .i64 t, .int .i64 ka, .int .i64 kq]] w fun e w' => ∃ v1 v2 v3, e = .returned (.agg #[.string p, v1, v2, .int .i64 st, v3, .string b, .int .i64 t, .int .i64 ka, .int .i64 kq]) ∧ ObjO w' w.heap.size v1 n1 xs v2 n2 ys v3 n3 fs ∧ Below w.heap.size w w' := by
 have HA1 : Hid (∀ W, Below w.heap.size w W → ArgT W B a1 n1 xs) := fun W h => h1.below (h.mono hB)
 have HA2 : Hid (∀ W, Below w.heap.size w W → ArgT W B a2 n2 ys) := fun W h => h2.below (h.mono hB)
 have HA3 : Hid (∀ W, Below w.heap.size w W → ArgF W B a3 n3 fs) := fun W h => h3.below (h.mono hB)
 have HBB : Hid (∀ W, Below w.heap.size w W → B ≤ W.heap.size) := fun W h => Nat.le_trans hB h.size
 clear h1 h2 h3
 have hb0 : Below w.heap.size w w := Below.refl _ _
 go_enter Tryz.func96, Tryz.ntmps96
 go_upto_region 1 with fail
 obtain ⟨qv1, hqv1⟩ := exq ((w).heap.size)
 obtain ⟨w1, hW1⟩ := exq ((w).alloc (.cells #[.string p, .slice a1 n1 c1, .slice a2 n2 c2, .int .i64 st, .slice a3 n3 c3, .string b, .int .i64 t, .int .i64 ka, .int .i64 kq] 158))
 have hz1 : (w).heap.size = qv1 := hqv1.symm
 first | rw [← hW1, ← hqv1] | rw [← hW1]
 have hs1 := hsa hW1 hz1
 have bw := bal hW1
 have hb1 := hbt hb0 bw
 have HBv1_1 := hnew hW1 hz1
 clear hb0 bw hW1 hz1
 obtain ⟨qv2, hqv2⟩ := exq (qv1 + 1)
 obtain ⟨w2, hW2⟩ := exq ((w1).alloc (.cells #[.string ⟨#[]⟩, .slice none 0 0, .slice none 0 0, .int .i64 0, .slice none 0 0, .string ⟨#[]⟩, .int .i64 0, .int .i64 0, .int .i64 0] 103))
 have hz2 : (w1).heap.size = qv2 := by rw [hqv2]; exact hs1
 first | rw [← hW2, ← hqv2] | rw [← hW2]
 have hs2 := hsa hW2 hz2
 have bw := bal hW2
 have hb2 := hbt hb1 bw
 have HBv1_2 := hblk HBv1_1 bw
 have HNv1v2 : Hid (qv1 ≠ qv2) := fun e => by have h1 := (Array.getElem?_eq_some_iff.1 HBv1_1.out).1; omega
 have HBv2_2 := hnew hW2 hz2
 have HGv2 := hge hz2 hb1
 clear hb1 HBv1_1 bw hW2 hz2
 clear hs2 hqv2 hs1 hqv1
 go_upto_region 2 with fail
 obtain ⟨qv3, hqv3⟩ := exq ((w2).heap.size)
 obtain ⟨w3, hW3⟩ := exq ((w2).alloc (.cells #[.string ⟨#[]⟩, .slice none 0 0, .slice none 0 0, .int .i64 0, .slice none 0 0, .string ⟨#[]⟩, .int .i64 0, .int .i64 0, .int .i64 0] 103))
 have hz3 : (w2).heap.size = qv3 := hqv3.symm
 first | rw [← hW3, ← hqv3] | rw [← hW3]
 have hs3 := hsa hW3 hz3
 have bw := bal hW3
 have hb3 := hbt hb2 bw
 have HBv1_3 := hblk HBv1_2 bw
 have HBv2_3 := hblk HBv2_2 bw
 have HNv1v3 : Hid (qv1 ≠ qv3) := fun e => by have h1 := (Array.getElem?_eq_some_iff.1 HBv1_2.out).1; omega
 have HNv2v3 : Hid (qv2 ≠ qv3) := fun e => by have h1 := (Array.getElem?_eq_some_iff.1 HBv2_2.out).1; omega
 have HBv3_3 := hnew hW3 hz3
 have HGv3 := hge hz3 hb2
 clear hb2 HBv1_2 HBv2_2 bw hW3 hz3
 clear hs3 hqv3
 have cv1_0 := (k9c HBv1_3).1
 have cv1_1 := (k9c HBv1_3).2.1
 have cv1_2 := (k9c HBv1_3).2.2.1
 have cv1_3 := (k9c HBv1_3).2.2.2.1
 have cv1_4 := (k9c HBv1_3).2.2.2.2.1
 have cv1_5 := (k9c HBv1_3).2.2.2.2.2.1
 have cv1_6 := (k9c HBv1_3).2.2.2.2.2.2.1
 go_wp2_with fail
 refine (toObj_any p a1 n1 c1 xs a2 n2 c2 ys st a3 n3 c3 fs b t B _ (HA1.out _ hb3) (HA2.out _ hb3) (HA3.out _ hb3) (HBB.out _ hb3) hn1 hn2 hn3).mono ?_
 rintro e w4 ⟨vv1, vv2, vv3, rfl, ⟨ownN, ownV, ownF, neX⟩, bw⟩
 obtain ⟨oN, pN, rfl⟩ := slice_of_owns ownN
 obtain ⟨oV, pV, rfl⟩ := slice_of_owns ownV
 obtain ⟨oF, pF, rfl⟩ := slice_of_owns ownF
 have APX : Hid (∀ j, (Value.slice oN n1 pN).ownBlock = some j → (Value.slice oV n2 pV).ownBlock ≠ some j) := neX
 clear neX
 have hb4 := hbt hb3 bw
 have HBv1_4 := hblk HBv1_3 bw
 have HBv2_4 := hblk HBv2_3 bw
 have HBv3_4 := hblk HBv3_3 bw
 have HON_4 := hwd ownN hb3.size
 clear ownN
 have HOV_4 := hwd ownV hb3.size
 clear ownV
 have HOF_4 := hwd ownF hb3.size
 clear ownF
 clear hb3 HBv1_3 HBv2_3 HBv3_3 bw
 clear cv1_0 cv1_1 cv1_2 cv1_3 cv1_4 cv1_5 cv1_6
 have cv3_0 := (k9c HBv3_4).1
 have fcv3_0 := hfz HBv3_4 0
 have cv3_1 := (k9c HBv3_4).2.1
 have fcv3_1 := hfz HBv3_4 1
 have cv3_2 := (k9c HBv3_4).2.2.1
 have fcv3_2 := hfz HBv3_4 2
 have cv3_3 := (k9c HBv3_4).2.2.2.1
 have fcv3_3 := hfz HBv3_4 3
 have cv3_4 := (k9c HBv3_4).2.2.2.2.1
 have fcv3_4 := hfz HBv3_4 4
 have cv3_5 := (k9c HBv3_4).2.2.2.2.2.1
 have fcv3_5 := hfz HBv3_4 5
 have cv3_6 := (k9c HBv3_4).2.2.2.2.2.2.1
 have fcv3_6 := hfz HBv3_4 6
 go_upto_region 3 with fail
 obtain ⟨w5, hW5⟩ := exq ((w4).setCell ⟨qv3, 0, none⟩ (.string p))
 rw [← hW5]
 have hb5 := hbS hW5 hb4 HGv3
 have HON_5 := hsetR hW5 (own_ne HON_4.out HBv3_4.out (by decide)) HON_4
 have HOV_5 := hsetR hW5 (own_ne HOV_4.out HBv3_4.out (by decide)) HOV_4
 have HOF_5 := hsetR hW5 (own_ne HOF_4.out HBv3_4.out (by decide)) HOF_4
 have HBv1_5 := hset hW5 HNv1v3.out HBv1_4
 have HBv2_5 := hset hW5 HNv2v3.out HBv2_4
 have HBv3_5 : Hid ((w5).heap[qv3]? = some (.cells #[.string p, .slice none 0 0, .slice none 0 0, .int .i64 0, .slice none 0 0, .string ⟨#[]⟩, .int .i64 0, .int .i64 0, .int .i64 0] 103)) := by show _ = _; rw [hW5]; have h := heap_set _ _ 0 _ _ _ (.string p) HBv3_4.out; simpa using h
 clear hb4 HON_4 HOV_4 HOF_4 HBv1_4 HBv2_4 HBv3_4 hW5
 obtain ⟨w6, hW6⟩ := exq ((w5).setCell ⟨qv3, 1, none⟩ (.slice oN n1 pN))
 rw [← hW6]
 have hb6 := hbS hW6 hb5 HGv3
 have HON_6 := hsetR hW6 (own_ne HON_5.out HBv3_5.out (by decide)) HON_5
 have HOV_6 := hsetR hW6 (own_ne HOV_5.out HBv3_5.out (by decide)) HOV_5
 have HOF_6 := hsetR hW6 (own_ne HOF_5.out HBv3_5.out (by decide)) HOF_5
 have HBv1_6 := hset hW6 HNv1v3.out HBv1_5
 have HBv2_6 := hset hW6 HNv2v3.out HBv2_5
 have HBv3_6 : Hid ((w6).heap[qv3]? = some (.cells #[.string p, .slice oN n1 pN, .slice none 0 0, .int .i64 0, .slice none 0 0, .string ⟨#[]⟩, .int .i64 0, .int .i64 0, .int .i64 0] 103)) := by show _ = _; rw [hW6]; have h := heap_set _ _ 1 _ _ _ (.slice oN n1 pN) HBv3_5.out; simpa using h
 clear hb5 HON_5 HOV_5 HOF_5 HBv1_5 HBv2_5 HBv3_5 hW6
 obtain ⟨w7, hW7⟩ := exq ((w6).setCell ⟨qv3, 2, none⟩ (.slice oV n2 pV))
 rw [← hW7]
 have hb7 := hbS hW7 hb6 HGv3
 have HON_7 := hsetR hW7 (own_ne HON_6.out HBv3_6.out (by decide)) HON_6
 have HOV_7 := hsetR hW7 (own_ne HOV_6.out HBv3_6.out (by decide)) HOV_6
 have HOF_7 := hsetR hW7 (own_ne HOF_6.out HBv3_6.out (by decide)) HOF_6
 have HBv1_7 := hset hW7 HNv1v3.out HBv1_6
 have HBv2_7 := hset hW7 HNv2v3.out HBv2_6
 have HBv3_7 : Hid ((w7).heap[qv3]? = some (.cells #[.string p, .slice oN n1 pN, .slice oV n2 pV, .int .i64 0, .slice none 0 0, .string ⟨#[]⟩, .int .i64 0, .int .i64 0, .int .i64 0] 103)) := by show _ = _; rw [hW7]; have h := heap_set _ _ 2 _ _ _ (.slice oV n2 pV) HBv3_6.out; simpa using h
 clear hb6 HON_6 HOV_6 HOF_6 HBv1_6 HBv2_6 HBv3_6 hW7
 obtain ⟨w8, hW8⟩ := exq ((w7).setCell ⟨qv3, 3, none⟩ (.int .i64 st))
 rw [← hW8]
 have hb8 := hbS hW8 hb7 HGv3
 have HON_8 := hsetR hW8 (own_ne HON_7.out HBv3_7.out (by decide)) HON_7
 have HOV_8 := hsetR hW8 (own_ne HOV_7.out HBv3_7.out (by decide)) HOV_7
 have HOF_8 := hsetR hW8 (own_ne HOF_7.out HBv3_7.out (by decide)) HOF_7
 have HBv1_8 := hset hW8 HNv1v3.out HBv1_7
 have HBv2_8 := hset hW8 HNv2v3.out HBv2_7
 have HBv3_8 : Hid ((w8).heap[qv3]? = some (.cells #[.string p, .slice oN n1 pN, .slice oV n2 pV, .int .i64 st, .slice none 0 0, .string ⟨#[]⟩, .int .i64 0, .int .i64 0, .int .i64 0] 103)) := by show _ = _; rw [hW8]; have h := heap_set _ _ 3 _ _ _ (.int .i64 st) HBv3_7.out; simpa using h
 clear hb7 HON_7 HOV_7 HOF_7 HBv1_7 HBv2_7 HBv3_7 hW8
 obtain ⟨w9, hW9⟩ := exq ((w8).setCell ⟨qv3, 4, none⟩ (.slice oF n3 pF))
 rw [← hW9]
 have hb9 := hbS hW9 hb8 HGv3
 have HON_9 := hsetR hW9 (own_ne HON_8.out HBv3_8.out (by decide)) HON_8
 have HOV_9 := hsetR hW9 (own_ne HOV_8.out HBv3_8.out (by decide)) HOV_8
 have HOF_9 := hsetR hW9 (own_ne HOF_8.out HBv3_8.out (by decide)) HOF_8
 have HBv1_9 := hset hW9 HNv1v3.out HBv1_8
 have HBv2_9 := hset hW9 HNv2v3.out HBv2_8
 have HBv3_9 : Hid ((w9).heap[qv3]? = some (.cells #[.string p, .slice oN n1 pN, .slice oV n2 pV, .int .i64 st, .slice oF n3 pF, .string ⟨#[]⟩, .int .i64 0, .int .i64 0, .int .i64 0] 103)) := by show _ = _; rw [hW9]; have h := heap_set _ _ 4 _ _ _ (.slice oF n3 pF) HBv3_8.out; simpa using h
 clear hb8 HON_8 HOV_8 HOF_8 HBv1_8 HBv2_8 HBv3_8 hW9
 obtain ⟨w10, hW10⟩ := exq ((w9).setCell ⟨qv3, 5, none⟩ (.string b))
 rw [← hW10]
 have hb10 := hbS hW10 hb9 HGv3
 have HON_10 := hsetR hW10 (own_ne HON_9.out HBv3_9.out (by decide)) HON_9
 have HOV_10 := hsetR hW10 (own_ne HOV_9.out HBv3_9.out (by decide)) HOV_9
 have HOF_10 := hsetR hW10 (own_ne HOF_9.out HBv3_9.out (by decide)) HOF_9
 have HBv1_10 := hset hW10 HNv1v3.out HBv1_9
 have HBv2_10 := hset hW10 HNv2v3.out HBv2_9
 have HBv3_10 : Hid ((w10).heap[qv3]? = some (.cells #[.string p, .slice oN n1 pN, .slice oV n2 pV, .int .i64 st, .slice oF n3 pF, .string b, .int .i64 0, .int .i64 0, .int .i64 0] 103)) := by show _ = _; rw [hW10]; have h := heap_set _ _ 5 _ _ _ (.string b) HBv3_9.out; simpa using h
 clear hb9 HON_9 HOV_9 HOF_9 HBv1_9 HBv2_9 HBv3_9 hW10
 obtain ⟨w11, hW11⟩ := exq ((w10).setCell ⟨qv3, 6, none⟩ (.int .i64 t))
 rw [← hW11]
 have hb11 := hbS hW11 hb10 HGv3
 have HON_11 := hsetR hW11 (own_ne HON_10.out HBv3_10.out (by decide)) HON_10
 have HOV_11 := hsetR hW11 (own_ne HOV_10.out HBv3_10.out (by decide)) HOV_10
 have HOF_11 := hsetR hW11 (own_ne HOF_10.out HBv3_10.out (by decide)) HOF_10
 have HBv1_11 := hset hW11 HNv1v3.out HBv1_10
 have HBv2_11 := hset hW11 HNv2v3.out HBv2_10
 have HBv3_11 : Hid ((w11).heap[qv3]? = some (.cells #[.string p, .slice oN n1 pN, .slice oV n2 pV, .int .i64 st, .slice oF n3 pF, .string b, .int .i64 t, .int .i64 0, .int .i64 0] 103)) := by show _ = _; rw [hW11]; have h := heap_set _ _ 6 _ _ _ (.int .i64 t) HBv3_10.out; simpa using h
 clear hb10 HON_10 HOV_10 HOF_10 HBv1_10 HBv2_10 HBv3_10 hW11
 clear cv3_0 fcv3_0 cv3_1 fcv3_1 cv3_2 fcv3_2 cv3_3 fcv3_3 cv3_4 fcv3_4 cv3_5 fcv3_5 cv3_6 fcv3_6
 have cv1_7 := (k9c HBv1_11).2.2.2.2.2.2.2.1
 have cv3_7 := (k9c HBv3_11).2.2.2.2.2.2.2.1
 have fcv3_7 := hfz HBv3_11 7
 go_upto_region 4 with fail
 obtain ⟨w12, hW12⟩ := exq ((w11).setCell ⟨qv3, 7, none⟩ (.int .i64 ka))
 rw [← hW12]
 have hb12 := hbS hW12 hb11 HGv3
 have HON_12 := hsetR hW12 (own_ne HON_11.out HBv3_11.out (by decide)) HON_11
 have HOV_12 := hsetR hW12 (own_ne HOV_11.out HBv3_11.out (by decide)) HOV_11
 have HOF_12 := hsetR hW12 (own_ne HOF_11.out HBv3_11.out (by decide)) HOF_11
 have HBv1_12 := hset hW12 HNv1v3.out HBv1_11
 have HBv2_12 := hset hW12 HNv2v3.out HBv2_11
 have HBv3_12 : Hid ((w12).heap[qv3]? = some (.cells #[.string p, .slice oN n1 pN, .slice oV n2 pV, .int .i64 st, .slice oF n3 pF, .string b, .int .i64 t, .int .i64 ka, .int .i64 0] 103)) := by show _ = _; rw [hW12]; have h := heap_set _ _ 7 _ _ _ (.int .i64 ka) HBv3_11.out; simpa using h
 clear hb11 HON_11 HOV_11 HOF_11 HBv1_11 HBv2_11 HBv3_11 hW12
 clear cv1_7 cv3_7 fcv3_7
 have cv1_8 := (k9c HBv1_12).2.2.2.2.2.2.2.2
 have cv3_8 := (k9c HBv3_12).2.2.2.2.2.2.2.2
 have fcv3_8 := hfz HBv3_12 8
 go_upto_region 5 with fail
 obtain ⟨w13, hW13⟩ := exq ((w12).setCell ⟨qv3, 8, none⟩ (.int .i64 kq))
 rw [← hW13]
 have hb13 := hbS hW13 hb12 HGv3
 have HON_13 := hsetR hW13 (own_ne HON_12.out HBv3_12.out (by decide)) HON_12
 have HOV_13 := hsetR hW13 (own_ne HOV_12.out HBv3_12.out (by decide)) HOV_12
 have HOF_13 := hsetR hW13 (own_ne HOF_12.out HBv3_12.out (by decide)) HOF_12
 have HBv1_13 := hset hW13 HNv1v3.out HBv1_12
 have HBv2_13 := hset hW13 HNv2v3.out HBv2_12
 have HBv3_13 : Hid ((w13).heap[qv3]? = some (.cells #[.string p, .slice oN n1 pN, .slice oV n2 pV, .int .i64 st, .slice oF n3 pF, .string b, .int .i64 t, .int .i64 ka, .int .i64 kq] 103)) := by show _ = _; rw [hW13]; have h := heap_set _ _ 8 _ _ _ (.int .i64 kq) HBv3_12.out; simpa using h
 clear hb12 HON_12 HOV_12 HOF_12 HBv1_12 HBv2_12 HBv3_12 hW13
 clear cv1_8 cv3_8 fcv3_8
 have cv2_0 := (k9c HBv2_13).1
 have fcv2_0 := hfz HBv2_13 0
 have cv2_1 := (k9c HBv2_13).2.1
 have fcv2_1 := hfz HBv2_13 1
 have cv2_2 := (k9c HBv2_13).2.2.1
 have fcv2_2 := hfz HBv2_13 2
 have cv2_3 := (k9c HBv2_13).2.2.2.1
 have fcv2_3 := hfz HBv2_13 3
 have cv2_4 := (k9c HBv2_13).2.2.2.2.1
 have fcv2_4 := hfz HBv2_13 4
 have cv2_5 := (k9c HBv2_13).2.2.2.2.2.1
 have fcv2_5 := hfz HBv2_13 5
 have cv2_6 := (k9c HBv2_13).2.2.2.2.2.2.1
 have fcv2_6 := hfz HBv2_13 6
 have cv2_7 := (k9c HBv2_13).2.2.2.2.2.2.2.1
 have fcv2_7 := hfz HBv2_13 7
 have cv2_8 := (k9c HBv2_13).2.2.2.2.2.2.2.2
 have fcv2_8 := hfz HBv2_13 8
 have cv3_0 := (k9c HBv3_13).1
 have cv3_1 := (k9c HBv3_13).2.1
 have cv3_2 := (k9c HBv3_13).2.2.1
 have cv3_3 := (k9c HBv3_13).2.2.2.1
 have cv3_4 := (k9c HBv3_13).2.2.2.2.1
 have cv3_5 := (k9c HBv3_13).2.2.2.2.2.1
 have cv3_6 := (k9c HBv3_13).2.2.2.2.2.2.1
 have cv3_7 := (k9c HBv3_13).2.2.2.2.2.2.2.1
 have cv3_8 := (k9c HBv3_13).2.2.2.2.2.2.2.2
 go_wp2_with fail
 obtain ⟨w14, hW14⟩ := exq ((w13).setCell ⟨qv2, 0, none⟩ (.string p))
 rw [← hW14]
 have hb14 := hbS hW14 hb13 HGv2
 have HON_14 := hsetR hW14 (own_ne HON_13.out HBv2_13.out (by decide)) HON_13
 have HOV_14 := hsetR hW14 (own_ne HOV_13.out HBv2_13.out (by decide)) HOV_13
 have HOF_14 := hsetR hW14 (own_ne HOF_13.out HBv2_13.out (by decide)) HOF_13
 have HBv1_14 := hset hW14 HNv1v2.out HBv1_13
 have HBv3_14 := hset hW14 HNv2v3.out.symm HBv3_13
 have HBv2_14 : Hid ((w14).heap[qv2]? = some (.cells #[.string p, .slice none 0 0, .slice none 0 0, .int .i64 0, .slice none 0 0, .string ⟨#[]⟩, .int .i64 0, .int .i64 0, .int .i64 0] 103)) := by show _ = _; rw [hW14]; have h := heap_set _ _ 0 _ _ _ (.string p) HBv2_13.out; simpa using h
 clear hb13 HON_13 HOV_13 HOF_13 HBv1_13 HBv2_13 HBv3_13 hW14
 obtain ⟨w15, hW15⟩ := exq ((w14).setCell ⟨qv2, 1, none⟩ (.slice oN n1 pN))
 rw [← hW15]
 have hb15 := hbS hW15 hb14 HGv2
 have HON_15 := hsetR hW15 (own_ne HON_14.out HBv2_14.out (by decide)) HON_14
 have HOV_15 := hsetR hW15 (own_ne HOV_14.out HBv2_14.out (by decide)) HOV_14
 have HOF_15 := hsetR hW15 (own_ne HOF_14.out HBv2_14.out (by decide)) HOF_14
 have HBv1_15 := hset hW15 HNv1v2.out HBv1_14
 have HBv3_15 := hset hW15 HNv2v3.out.symm HBv3_14
 have HBv2_15 : Hid ((w15).heap[qv2]? = some (.cells #[.string p, .slice oN n1 pN, .slice none 0 0, .int .i64 0, .slice none 0 0, .string ⟨#[]⟩, .int .i64 0, .int .i64 0, .int .i64 0] 103)) := by show _ = _; rw [hW15]; have h := heap_set _ _ 1 _ _ _ (.slice oN n1 pN) HBv2_14.out; simpa using h
 clear hb14 HON_14 HOV_14 HOF_14 HBv1_14 HBv2_14 HBv3_14 hW15
 obtain ⟨w16, hW16⟩ := exq ((w15).setCell ⟨qv2, 2, none⟩ (.slice oV n2 pV))
 rw [← hW16]
 have hb16 := hbS hW16 hb15 HGv2
 have HON_16 := hsetR hW16 (own_ne HON_15.out HBv2_15.out (by decide)) HON_15
 have HOV_16 := hsetR hW16 (own_ne HOV_15.out HBv2_15.out (by decide)) HOV_15
 have HOF_16 := hsetR hW16 (own_ne HOF_15.out HBv2_15.out (by decide)) HOF_15
 have HBv1_16 := hset hW16 HNv1v2.out HBv1_15
 have HBv3_16 := hset hW16 HNv2v3.out.symm HBv3_15
 have HBv2_16 : Hid ((w16).heap[qv2]? = some (.cells #[.string p, .slice oN n1 pN, .slice oV n2 pV, .int .i64 0, .slice none 0 0, .string ⟨#[]⟩, .int .i64 0, .int .i64 0, .int .i64 0] 103)) := by show _ = _; rw [hW16]; have h := heap_set _ _ 2 _ _ _ (.slice oV n2 pV) HBv2_15.out; simpa using h
 clear hb15 HON_15 HOV_15 HOF_15 HBv1_15 HBv2_15 HBv3_15 hW16
 obtain ⟨w17, hW17⟩ := exq ((w16).setCell ⟨qv2, 3, none⟩ (.int .i64 st))
 rw [← hW17]
 have hb17 := hbS hW17 hb16 HGv2
 have HON_17 := hsetR hW17 (own_ne HON_16.out HBv2_16.out (by decide)) HON_16
 have HOV_17 := hsetR hW17 (own_ne HOV_16.out HBv2_16.out (by decide)) HOV_16
 have HOF_17 := hsetR hW17 (own_ne HOF_16.out HBv2_16.out (by decide)) HOF_16
 have HBv1_17 := hset hW17 HNv1v2.out HBv1_16
 have HBv3_17 := hset hW17 HNv2v3.out.symm HBv3_16
 have HBv2_17 : Hid ((w17).heap[qv2]? = some (.cells #[.string p, .slice oN n1 pN, .slice oV n2 pV, .int .i64 st, .slice none 0 0, .string ⟨#[]⟩, .int .i64 0, .int .i64 0, .int .i64 0] 103)) := by show _ = _; rw [hW17]; have h := heap_set _ _ 3 _ _ _ (.int .i64 st) HBv2_16.out; simpa using h
 clear hb16 HON_16 HOV_16 HOF_16 HBv1_16 HBv2_16 HBv3_16 hW17
 obtain ⟨w18, hW18⟩ := exq ((w17).setCell ⟨qv2, 4, none⟩ (.slice oF n3 pF))
 rw [← hW18]
 have hb18 := hbS hW18 hb17 HGv2
 have HON_18 := hsetR hW18 (own_ne HON_17.out HBv2_17.out (by decide)) HON_17
 have HOV_18 := hsetR hW18 (own_ne HOV_17.out HBv2_17.out (by decide)) HOV_17
 have HOF_18 := hsetR hW18 (own_ne HOF_17.out HBv2_17.out (by decide)) HOF_17
 have HBv1_18 := hset hW18 HNv1v2.out HBv1_17
 have HBv3_18 := hset hW18 HNv2v3.out.symm HBv3_17
 have HBv2_18 : Hid ((w18).heap[qv2]? = some (.cells #[.string p, .slice oN n1 pN, .slice oV n2 pV, .int .i64 st, .slice oF n3 pF, .string ⟨#[]⟩, .int .i64 0, .int .i64 0, .int .i64 0] 103)) := by show _ = _; rw [hW18]; have h := heap_set _ _ 4 _ _ _ (.slice oF n3 pF) HBv2_17.out; simpa using h
 clear hb17 HON_17 HOV_17 HOF_17 HBv1_17 HBv2_17 HBv3_17 hW18
 obtain ⟨w19, hW19⟩ := exq ((w18).setCell ⟨qv2, 5, none⟩ (.string b))
 rw [← hW19]
 have hb19 := hbS hW19 hb18 HGv2
 have HON_19 := hsetR hW19 (own_ne HON_18.out HBv2_18.out (by decide)) HON_18
 have HOV_19 := hsetR hW19 (own_ne HOV_18.out HBv2_18.out (by decide)) HOV_18
 have HOF_19 := hsetR hW19 (own_ne HOF_18.out HBv2_18.out (by decide)) HOF_18
 have HBv1_19 := hset hW19 HNv1v2.out HBv1_18
 have HBv3_19 := hset hW19 HNv2v3.out.symm HBv3_18
 have HBv2_19 : Hid ((w19).heap[qv2]? = some (.cells #[.string p, .slice oN n1 pN, .slice oV n2 pV, .int .i64 st, .slice oF n3 pF, .string b, .int .i64 0, .int .i64 0, .int .i64 0] 103)) := by show _ = _; rw [hW19]; have h := heap_set _ _ 5 _ _ _ (.string b) HBv2_18.out; simpa using h
 clear hb18 HON_18 HOV_18 HOF_18 HBv1_18 HBv2_18 HBv3_18 hW19
 obtain ⟨w20, hW20⟩ := exq ((w19).setCell ⟨qv2, 6, none⟩ (.int .i64 t))
 rw [← hW20]
 have hb20 := hbS hW20 hb19 HGv2
 have HON_20 := hsetR hW20 (own_ne HON_19.out HBv2_19.out (by decide)) HON_19
 have HOV_20 := hsetR hW20 (own_ne HOV_19.out HBv2_19.out (by decide)) HOV_19
 have HOF_20 := hsetR hW20 (own_ne HOF_19.out HBv2_19.out (by decide)) HOF_19
 have HBv1_20 := hset hW20 HNv1v2.out HBv1_19
 have HBv3_20 := hset hW20 HNv2v3.out.symm HBv3_19
 have HBv2_20 : Hid ((w20).heap[qv2]? = some (.cells #[.string p, .slice oN n1 pN, .slice oV n2 pV, .int .i64 st, .slice oF n3 pF, .string b, .int .i64 t, .int .i64 0, .int .i64 0] 103)) := by show _ = _; rw [hW20]; have h := heap_set _ _ 6 _ _ _ (.int .i64 t) HBv2_19.out; simpa using h
 clear hb19 HON_19 HOV_19 HOF_19 HBv1_19 HBv2_19 HBv3_19 hW20
 obtain ⟨w21, hW21⟩ := exq ((w20).setCell ⟨qv2, 7, none⟩ (.int .i64 ka))
 rw [← hW21]
 have hb21 := hbS hW21 hb20 HGv2
 have HON_21 := hsetR hW21 (own_ne HON_20.out HBv2_20.out (by decide)) HON_20
 have HOV_21 := hsetR hW21 (own_ne HOV_20.out HBv2_20.out (by decide)) HOV_20
 have HOF_21 := hsetR hW21 (own_ne HOF_20.out HBv2_20.out (by decide)) HOF_20
 have HBv1_21 := hset hW21 HNv1v2.out HBv1_20
 have HBv3_21 := hset hW21 HNv2v3.out.symm HBv3_20
 have HBv2_21 : Hid ((w21).heap[qv2]? = some (.cells #[.string p, .slice oN n1 pN, .slice oV n2 pV, .int .i64 st, .slice oF n3 pF, .string b, .int .i64 t, .int .i64 ka, .int .i64 0] 103)) := by show _ = _; rw [hW21]; have h := heap_set _ _ 7 _ _ _ (.int .i64 ka) HBv2_20.out; simpa using h
 clear hb20 HON_20 HOV_20 HOF_20 HBv1_20 HBv2_20 HBv3_20 hW21
 obtain ⟨w22, hW22⟩ := exq ((w21).setCell ⟨qv2, 8, none⟩ (.int .i64 kq))
 rw [← hW22]
 have hb22 := hbS hW22 hb21 HGv2
 have HON_22 := hsetR hW22 (own_ne HON_21.out HBv2_21.out (by decide)) HON_21
 have HOV_22 := hsetR hW22 (own_ne HOV_21.out HBv2_21.out (by decide)) HOV_21
 have HOF_22 := hsetR hW22 (own_ne HOF_21.out HBv2_21.out (by decide)) HOF_21
 have HBv1_22 := hset hW22 HNv1v2.out HBv1_21
 have HBv3_22 := hset hW22 HNv2v3.out.symm HBv3_21
 have HBv2_22 : Hid ((w22).heap[qv2]? = some (.cells #[.string p, .slice oN n1 pN, .slice oV n2 pV, .int .i64 st, .slice oF n3 pF, .string b, .int .i64 t, .int .i64 ka, .int .i64 kq] 103)) := by show _ = _; rw [hW22]; have h := heap_set _ _ 8 _ _ _ (.int .i64 kq) HBv2_21.out; simpa using h
 clear hb21 HON_21 HOV_21 HOF_21 HBv1_21 HBv2_21 HBv3_21 hW22
 have kv2_0 := (k9c HBv2_22).1
 have kv2_1 := (k9c HBv2_22).2.1
 have kv2_2 := (k9c HBv2_22).2.2.1
 have kv2_3 := (k9c HBv2_22).2.2.2.1
 have kv2_4 := (k9c HBv2_22).2.2.2.2.1
 have kv2_5 := (k9c HBv2_22).2.2.2.2.2.1
 have kv2_6 := (k9c HBv2_22).2.2.2.2.2.2.1
 have kv2_7 := (k9c HBv2_22).2.2.2.2.2.2.2.1
 have kv2_8 := (k9c HBv2_22).2.2.2.2.2.2.2.2
 refine bodyPost_ret (v := .agg #[.string p, .slice oN n1 pN, .slice oV n2 pV, .int .i64 st, .slice oF n3 pF, .string b, .int .i64 t, .int .i64 ka, .int .i64 kq]) (by simp [results, Tryz.results96, go_sem, kv2_0, kv2_1, kv2_2, kv2_3, kv2_4, kv2_5, kv2_6, kv2_7, kv2_8]) rfl ?_
 exact ⟨_, _, _, rfl, ⟨HON_22.out, HOV_22.out, HOF_22.out, APX.out⟩, hb22⟩
theorem szKept_any (L : Int) (hL0 : 0 ≤ L) (hL1 : L ≤ 1048576) (p : ByteArray) (a1 : Option Addr) (n1 c1 : Nat) (xs : List ByteArray) (a2 : Option Addr) (n2 c2 : Nat) (ys : List ByteArray) (st : Int) (a3 : Option Addr) (n3 c3 : Nat) (fs : List (ByteArray × ByteArray)) (b : ByteArray) (t ka kq : Int) (B : Nat) (w : World) (h1 : ArgT w B a1 n1 xs) (h2 : ArgT w B a2 n2 ys) (h3 : ArgF w B a3 n3 fs) (hB : B ≤ w.heap.size) (hn1 : n1 ≤ maxLen) (hn2 : n2 ≤ maxLen) (hn3 : n3 ≤ maxLen) (hs1 : ∀ i, i < n1 → (textAt xs i).size ≤ maxLen) (hs2 : ∀ i, i < n2 → (textAt ys i).size ≤ maxLen) (hs3 : WalkF n3 fs) (hp : p.size ≤ maxLen) (hx : b.size ≤ maxLen) :
  Calls Tryz.prog 90 #[.agg #[.string p, .slice a1 n1 c1, .slice a2 n2 c2, .int .i64 st, .slice a3 n3 c3, .string b, .int .i64 t, .int .i64 ka, .int .i64 kq], .int .i64 L] w fun e w' => SzObj L p n1 xs n2 ys n3 fs b w e w' := by
 have HA1 : Hid (∀ W, Below w.heap.size w W → ArgT W B a1 n1 xs) := fun W h => h1.below (h.mono hB)
 have HA2 : Hid (∀ W, Below w.heap.size w W → ArgT W B a2 n2 ys) := fun W h => h2.below (h.mono hB)
 have HA3 : Hid (∀ W, Below w.heap.size w W → ArgF W B a3 n3 fs) := fun W h => h3.below (h.mono hB)
 have HBB : Hid (∀ W, Below w.heap.size w W → B ≤ W.heap.size) := fun W h => Nat.le_trans hB h.size
 clear h1 h2 h3
 have HQ : Hid (n1 ≤ maxLen ∧ n2 ≤ maxLen ∧ n3 ≤ maxLen ∧ (∀ i, i < n1 → (textAt xs i).size ≤ maxLen) ∧ (∀ i, i < n2 → (textAt ys i).size ≤ maxLen) ∧ WalkF n3 fs ∧ p.size ≤ maxLen ∧ b.size ≤ maxLen) := ⟨hn1, hn2, hn3, hs1, hs2, hs3, hp, hx⟩
 clear hn1 hn2 hn3 hs1 hs2 hs3 hp hx
 have hb0 : Below w.heap.size w w := Below.refl _ _
 go_enter Tryz.func90, Tryz.ntmps90
 go_upto_region 1 with fail
 obtain ⟨qv1, hqv1⟩ := exq ((w).heap.size)
 obtain ⟨w1, hW1⟩ := exq ((w).alloc (.cells #[.string p, .slice a1 n1 c1, .slice a2 n2 c2, .int .i64 st, .slice a3 n3 c3, .string b, .int .i64 t, .int .i64 ka, .int .i64 kq] 158))
 have hz1 : (w).heap.size = qv1 := hqv1.symm
 first | rw [← hW1, ← hqv1] | rw [← hW1]
 have hs1 := hsa hW1 hz1
 have bw := bal hW1
 have hb1 := hbt hb0 bw
 have HBv1_1 := hnew hW1 hz1
 clear hb0 bw hW1 hz1
 clear hs1 hqv1
 have cv1_0 := (k9c HBv1_1).1
 have cv1_1 := (k9c HBv1_1).2.1
 have cv1_2 := (k9c HBv1_1).2.2.1
 have cv1_3 := (k9c HBv1_1).2.2.2.1
 have cv1_4 := (k9c HBv1_1).2.2.2.2.1
 have cv1_5 := (k9c HBv1_1).2.2.2.2.2.1
 have cv1_6 := (k9c HBv1_1).2.2.2.2.2.2.1
 go_wp2_with fail
 refine (szObj_any L (by omega) (by omega) p a1 n1 c1 xs a2 n2 c2 ys st a3 n3 c3 fs b t B _ (HA1.out _ hb1) (HA2.out _ hb1) (HA3.out _ hb1) (HBB.out _ hb1) HQ.out.1 HQ.out.2.1 HQ.out.2.2.1 HQ.out.2.2.2.1 HQ.out.2.2.2.2.1 HQ.out.2.2.2.2.2.1 HQ.out.2.2.2.2.2.2.1 HQ.out.2.2.2.2.2.2.2).mono ?_
 rintro e w2 ⟨r1, rfl, hl1, hr1, bw⟩
 have HR1 : Hid (0 ≤ r1 → _) := hr1
 clear hr1
 have hb2 := hbt hb1 bw
 have HBv1_2 := hblk HBv1_1 bw
 clear hb1 HBv1_1 bw
 clear cv1_0 cv1_1 cv1_2 cv1_3 cv1_4 cv1_5 cv1_6
 by_cases hc1 : r1 < 0
 ·
  go_wp2_with fail
  go_ret
  exact ⟨-1, rfl, by omega, fun h => absurd h (by omega), hb2⟩
 ·
  go_wp2_with fail
  go_ret
  exact ⟨r1, rfl, by omega, HR1.out, hb2⟩
theorem eqKept_any (p : ByteArray) (n1 : Nat) (xs : List ByteArray) (n2 : Nat) (ys : List ByteArray) (st : Int) (n3 : Nat) (fs : List (ByteArray × ByteArray)) (b : ByteArray) (t ka kq : Int) (v1 v2 v3 u1 u2 u3 : Value) (B1 B2 : Nat) (w : World) (hx : ObjO w B1 v1 n1 xs v2 n2 ys v3 n3 fs) (hy : ObjO w B2 u1 n1 xs u2 n2 ys u3 n3 fs) (hn1 : n1 ≤ 2000000) (hn2 : n2 ≤ 2000000) (hn3 : n3 ≤ 2000000) :
  Calls Tryz.prog 109 #[.agg #[.string p, v1, v2, .int .i64 st, v3, .string b, .int .i64 t, .int .i64 ka, .int .i64 kq], .agg #[.string p, u1, u2, .int .i64 st, u3, .string b, .int .i64 t, .int .i64 ka, .int .i64 kq]] w fun e w' => e = .returned (.bool true) ∧ Below w.heap.size w w' := by
 obtain ⟨oNx, pNx, rfl⟩ := slice_of_owns hx.names
 obtain ⟨oVx, pVx, rfl⟩ := slice_of_owns hx.vals
 obtain ⟨oFx, pFx, rfl⟩ := slice_of_owns hx.flds
 have HONx_0 : Hid ((w).ownsRow B1 9 1 (.slice oNx n1 pNx) n1 (xs.map Value.string)) := hx.names
 have HOVx_0 : Hid ((w).ownsRow B1 9 1 (.slice oVx n2 pVx) n2 (ys.map Value.string)) := hx.vals
 have HOFx_0 : Hid ((w).ownsRow B1 171 2 (.slice oFx n3 pFx) n3 (flatF fs)) := hx.flds
 have APx : Hid (∀ j, (Value.slice oNx n1 pNx).ownBlock = some j → (Value.slice oVx n2 pVx).ownBlock ≠ some j) := hx.ne
 clear hx
 obtain ⟨oNy, pNy, rfl⟩ := slice_of_owns hy.names
 obtain ⟨oVy, pVy, rfl⟩ := slice_of_owns hy.vals
 obtain ⟨oFy, pFy, rfl⟩ := slice_of_owns hy.flds
 have HONy_0 : Hid ((w).ownsRow B2 9 1 (.slice oNy n1 pNy) n1 (xs.map Value.string)) := hy.names
 have HOVy_0 : Hid ((w).ownsRow B2 9 1 (.slice oVy n2 pVy) n2 (ys.map Value.string)) := hy.vals
 have HOFy_0 : Hid ((w).ownsRow B2 171 2 (.slice oFy n3 pFy) n3 (flatF fs)) := hy.flds
 have APy : Hid (∀ j, (Value.slice oNy n1 pNy).ownBlock = some j → (Value.slice oVy n2 pVy).ownBlock ≠ some j) := hy.ne
 clear hy
 have hka : (ka != ka) = false := by simp
 have hkq : (kq != kq) = false := by simp
 have hb0 : Below w.heap.size w w := Below.refl _ _
 go_enter Tryz.func109, Tryz.ntmps109
 go_upto_region 1 with fail
 obtain ⟨qv1, hqv1⟩ := exq ((w).heap.size)
 obtain ⟨w1, hW1⟩ := exq ((w).alloc (.cells #[.string p, .slice oNx n1 pNx, .slice oVx n2 pVx, .int .i64 st, .slice oFx n3 pFx, .string b, .int .i64 t, .int .i64 ka, .int .i64 kq] 103))
 have hz1 : (w).heap.size = qv1 := hqv1.symm
 first | rw [← hW1, ← hqv1] | rw [← hW1]
 have hs1 := hsa hW1 hz1
 have bw := bal hW1
 have hb1 := hbt hb0 bw
 have HONx_1 := hown HONx_0 bw
 have HOVx_1 := hown HOVx_0 bw
 have HOFx_1 := hown HOFx_0 bw
 have HONy_1 := hown HONy_0 bw
 have HOVy_1 := hown HOVy_0 bw
 have HOFy_1 := hown HOFy_0 bw
 have HBv1_1 := hnew hW1 hz1
 clear hb0 HONx_0 HOVx_0 HOFx_0 HONy_0 HOVy_0 HOFy_0 bw hW1 hz1
 obtain ⟨qv2, hqv2⟩ := exq (qv1 + 1)
 obtain ⟨w2, hW2⟩ := exq ((w1).alloc (.cells #[.string p, .slice oNy n1 pNy, .slice oVy n2 pVy, .int .i64 st, .slice oFy n3 pFy, .string b, .int .i64 t, .int .i64 ka, .int .i64 kq] 103))
 have hz2 : (w1).heap.size = qv2 := by rw [hqv2]; exact hs1
 first | rw [← hW2, ← hqv2] | rw [← hW2]
 have hs2 := hsa hW2 hz2
 have bw := bal hW2
 have hb2 := hbt hb1 bw
 have HONx_2 := hown HONx_1 bw
 have HOVx_2 := hown HOVx_1 bw
 have HOFx_2 := hown HOFx_1 bw
 have HONy_2 := hown HONy_1 bw
 have HOVy_2 := hown HOVy_1 bw
 have HOFy_2 := hown HOFy_1 bw
 have HBv1_2 := hblk HBv1_1 bw
 have HBv2_2 := hnew hW2 hz2
 clear hb1 HONx_1 HOVx_1 HOFx_1 HONy_1 HOVy_1 HOFy_1 HBv1_1 bw hW2 hz2
 clear hs2 hqv2 hs1 hqv1
 have cv1_0 := (k9c HBv1_2).1
 have cv1_1 := (k9c HBv1_2).2.1
 have cv1_2 := (k9c HBv1_2).2.2.1
 have cv1_3 := (k9c HBv1_2).2.2.2.1
 have cv1_4 := (k9c HBv1_2).2.2.2.2.1
 have cv1_5 := (k9c HBv1_2).2.2.2.2.2.1
 have cv1_6 := (k9c HBv1_2).2.2.2.2.2.2.1
 have cv2_0 := (k9c HBv2_2).1
 have cv2_1 := (k9c HBv2_2).2.1
 have cv2_2 := (k9c HBv2_2).2.2.1
 have cv2_3 := (k9c HBv2_2).2.2.2.1
 have cv2_4 := (k9c HBv2_2).2.2.2.2.1
 have cv2_5 := (k9c HBv2_2).2.2.2.2.2.1
 have cv2_6 := (k9c HBv2_2).2.2.2.2.2.2.1
 go_wp2_with fail
 refine (eqObj_any p n1 xs n2 ys st n3 fs b t _ _ _ _ _ _ _ _ _ ⟨HONx_2.out, HOVx_2.out, HOFx_2.out, APx.out⟩ ⟨HONy_2.out, HOVy_2.out, HOFy_2.out, APy.out⟩ hn1 hn2 hn3).mono ?_
 rintro e w3 ⟨rfl, bw⟩
 have hb3 := hbt hb2 bw
 have HONx_3 := hown HONx_2 bw
 have HOVx_3 := hown HOVx_2 bw
 have HOFx_3 := hown HOFx_2 bw
 have HONy_3 := hown HONy_2 bw
 have HOVy_3 := hown HOVy_2 bw
 have HOFy_3 := hown HOFy_2 bw
 have HBv1_3 := hblk HBv1_2 bw
 have HBv2_3 := hblk HBv2_2 bw
 clear hb2 HONx_2 HOVx_2 HOFx_2 HONy_2 HOVy_2 HOFy_2 HBv1_2 HBv2_2 bw
 clear cv1_0 cv1_1 cv1_2 cv1_3 cv1_4 cv1_5 cv1_6 cv2_0 cv2_1 cv2_2 cv2_3 cv2_4 cv2_5 cv2_6
 have cv1_7 := (k9c HBv1_3).2.2.2.2.2.2.2.1
 have cv2_7 := (k9c HBv2_3).2.2.2.2.2.2.2.1
 have cv1_8 := (k9c HBv1_3).2.2.2.2.2.2.2.2
 have cv2_8 := (k9c HBv2_3).2.2.2.2.2.2.2.2
 go_wp2_with fail
 go_ret
 exact ⟨rfl, hb3⟩
/-- One of a list that came in: its cells, and its three lists. -/
def KpArg (w : World) (B b off i : Nat) (k : KpD) : Prop :=
 ∃ (a1 : Option Addr) (n1 c1 : Nat) (a2 : Option Addr) (n2 c2 : Nat) (a3 : Option Addr) (n3 c3 : Nat), (w.cell? ⟨b, off + i * 9, none⟩ = some (.string k.p) ∧ w.cell? ⟨b, off + i * 9 + 1, none⟩ = some (.slice a1 n1 c1) ∧ w.cell? ⟨b, off + i * 9 + 2, none⟩ = some (.slice a2 n2 c2) ∧ w.cell? ⟨b, off + i * 9 + 3, none⟩ = some (.int .i64 k.st) ∧ w.cell? ⟨b, off + i * 9 + 4, none⟩ = some (.slice a3 n3 c3) ∧ w.cell? ⟨b, off + i * 9 + 5, none⟩ = some (.string k.b) ∧ w.cell? ⟨b, off + i * 9 + 6, none⟩ = some (.int .i64 k.t) ∧ w.cell? ⟨b, off + i * 9 + 7, none⟩ = some (.int .i64 k.a) ∧ w.cell? ⟨b, off + i * 9 + 8, none⟩ = some (.int .i64 k.q)) ∧ ArgT w B a1 n1 k.xs ∧ ArgT w B a2 n2 k.ys ∧ ArgF w B a3 n3 k.fs
/-- A list that came in, in blocks below B. -/
def ArgKept (w : World) (B : Nat) (a : Option Addr) (n : Nat) (ks : List KpD) : Prop :=
 ks.length = n ∧ ∀ i, i < n → ∃ b off, a = some ⟨b, off, none⟩ ∧ b < B ∧ KpArg w B b off i (kpAt ks i)
theorem ArgKept.below {w w' : World} {B : Nat} {a : Option Addr} {n : Nat} {ks : List KpD} (h : ArgKept w B a n ks) (hb : Below B w w') : ArgKept w' B a n ks :=
 ⟨h.1, fun i hi => by
  obtain ⟨b, off, h1, h2, a1, n1, c1, a2, n2, c2, a3, n3, c3, ⟨r0, r1, r2, r3, r4, r5, r6, r7, r8⟩, g1, g2, g3⟩ := h.2 i hi
  exact ⟨b, off, h1, h2, a1, n1, c1, a2, n2, c2, a3, n3, c3, ⟨by rw [hb.cell (p := ⟨b, off + i * 9, none⟩) h2]; exact r0, by rw [hb.cell (p := ⟨b, off + i * 9 + 1, none⟩) h2]; exact r1, by rw [hb.cell (p := ⟨b, off + i * 9 + 2, none⟩) h2]; exact r2, by rw [hb.cell (p := ⟨b, off + i * 9 + 3, none⟩) h2]; exact r3, by rw [hb.cell (p := ⟨b, off + i * 9 + 4, none⟩) h2]; exact r4, by rw [hb.cell (p := ⟨b, off + i * 9 + 5, none⟩) h2]; exact r5, by rw [hb.cell (p := ⟨b, off + i * 9 + 6, none⟩) h2]; exact r6, by rw [hb.cell (p := ⟨b, off + i * 9 + 7, none⟩) h2]; exact r7, by rw [hb.cell (p := ⟨b, off + i * 9 + 8, none⟩) h2]; exact r8⟩, g1.below hb, g2.below hb, g3.below hb⟩⟩
/-- No greater than may be. -/
def KpMax (k : KpD) : Prop := k.xs.length ≤ maxLen ∧ k.ys.length ≤ maxLen ∧ k.fs.length ≤ maxLen ∧ (∀ i, i < k.xs.length → (textAt k.xs i).size ≤ maxLen) ∧ (∀ i, i < k.ys.length → (textAt k.ys i).size ≤ maxLen) ∧ WalkF k.fs.length k.fs ∧ k.p.size ≤ maxLen ∧ k.b.size ≤ maxLen
/-- Small enough to be measured. -/
def KpSmall (k : KpD) : Prop := (k.p.size ≤ 1048576 ∧ k.b.size ≤ 1048576) ∧ (k.xs.length ≤ 1048576 ∧ ∀ i, i < k.xs.length → (textAt k.xs i).size ≤ 1048576) ∧ (k.ys.length ≤ 1048576 ∧ ∀ i, i < k.ys.length → (textAt k.ys i).size ≤ 1048576) ∧ k.fs.length ≤ 1048576 ∧ szTo k.fs k.fs.length ≤ 1048576
/-- How many there are, lists and their elements together. -/
def wtK : List KpD → Nat
 | [] => 0
 | k :: r => 1 + k.xs.length + k.ys.length + k.fs.length + wtK r
theorem wtK_snoc (k : KpD) : ∀ l : List KpD, wtK (l ++ [k]) = wtK l + (1 + k.xs.length + k.ys.length + k.fs.length)
 | [] => by simp [wtK]
 | x :: l => by rw [List.cons_append, wtK, wtK_snoc k l, wtK]; omega
theorem objO_rows {w : World} {B : Nat} {v1 v2 v3 : Value} {k : KpD} (h : ObjO w B v1 k.xs.length k.xs v2 k.ys.length k.ys v3 k.fs.length k.fs) : RowsO w B (kpR (k, v1, v2, v3)) := by
 refine ⟨fun r hr => ?_, ?_⟩
 ·
  simp only [kpR, List.mem_cons, List.not_mem_nil, or_false] at hr
  rcases hr with rfl | rfl | rfl
  · exact h.names
  · exact h.vals
  · exact h.flds
 ·
  unfold kpR
  refine List.pairwise_cons.2 ⟨fun r hr => ?_, List.pairwise_cons.2 ⟨fun r hr => ?_, List.pairwise_singleton _ _⟩⟩
  ·
   simp only [List.mem_cons, List.not_mem_nil, or_false] at hr
   rcases hr with rfl | rfl
   · exact fun g hg => h.ne g hg
   · exact fun g hg => own_two h.names h.flds (by decide) hg
  ·
   rw [List.mem_singleton.1 hr]
   exact fun g hg => own_two h.vals h.flds (by decide) hg
theorem rows_objO {w : World} {B : Nat} {x : KpD × Value × Value × Value} (h : RowsO w B (kpR x)) : ObjO w B x.2.1 x.1.xs.length x.1.xs x.2.2.1 x.1.ys.length x.1.ys x.2.2.2 x.1.fs.length x.1.fs := by
 have hp := h.apart
 unfold kpR at hp
 exact ⟨h.own (kpN x) (by simp [kpR]), h.own (kpV x) (by simp [kpR]), h.own (kpF x) (by simp [kpR]), fun g hg => (List.pairwise_cons.1 hp).1 (kpV x) (by simp) g hg⟩
/-- The measure is negative, or what is left of L. -/
def SzKeptS (L : Int) (ks : List KpD) (w : World) (e : Ending) (w' : World) : Prop :=
 ∃ r : Int, e = .returned (.int .i64 r) ∧ r ≤ L ∧ (0 ≤ r → r + (wtK ks : Int) ≤ L ∧ ∀ k ∈ ks, KpSmall k) ∧ Below w.heap.size w w'
theorem szKeptS_any (L : Int) (hL0 : 0 ≤ L) (hL1 : L ≤ 1048576) (B : Nat) (a : Option Addr) (n cap : Nat) (ks : List KpD) (w : World) (harg : ArgKept w B a n ks) (hB : B ≤ w.heap.size) (hn : n ≤ maxLen) (hsz : ∀ k ∈ ks, KpMax k) :
  Calls Tryz.prog 51 #[.slice a n cap, .int .i64 L] w fun e w' => SzKeptS L ks w e w' := by
 unfold maxLen at hn
 have HS : Hid (∀ k ∈ ks, KpMax k) := hsz
 have HLN : Hid (ks.length = n) := harg.1
 have HA : Hid (∀ W, Below w.heap.size w W → ArgKept W B a n ks) := fun W h => harg.below (h.mono hB)
 have HBB : Hid (∀ W, Below w.heap.size w W → B ≤ W.heap.size) := fun W h => Nat.le_trans hB h.size
 clear hsz harg hB
 by_cases c1 : L - (n : Int) < 0
 ·
  go_enter Tryz.func51, Tryz.ntmps51
  go_wp2
  go_ret
  exact ⟨-1, rfl, by omega, fun h => absurd h (by omega), Below.refl _ _⟩
 ·
  go_enter Tryz.func51, Tryz.ntmps51
  go_wp2
  go_loopw [1, 5] (fun lf i wr => ∃ (k : Nat) (x : Int), k ≤ n ∧ i = .int .i64 (k : Int) ∧ lf = .int .i64 x ∧ 0 ≤ x ∧ x ≤ L ∧ Hid (x + (wtK (ks.take k) : Int) + ((n : Int) - (k : Int)) ≤ L ∧ ∀ y ∈ ks.take k, KpSmall y) ∧ Hid (Below w.heap.size w wr)) (fun _ i _ => n - (intOf i).toNat)
  case atStart => exact ⟨0, _, Nat.zero_le _, rfl, rfl, by omega, by omega, ⟨by simp [wtK], fun x hx => by simp at hx⟩, Below.refl _ _⟩
  case round =>
   obtain ⟨k, x, hk, rfl, rfl, hx0, hx1, HX, HBW⟩ := hrel
   by_cases hlt : k < n
   ·
    have hlt2 : (k : Int) < (n : Int) := by omega
    obtain ⟨b, off, rfl, hbB, a1, n1, c1, a2, n2, c2, a3, n3, c3, ⟨r0, r1, r2, r3, r4, r5, r6, r7, r8⟩, g1, g2, g3⟩ := (HA.out wr HBW.out).2 k hlt
    obtain ⟨y, hy⟩ := exq (kpAt ks k)
    have HM : Hid (y ∈ ks) := by show _ ∈ _; rw [hy]; exact kpAt_mem ks k (by rw [HLN.out]; exact hlt)
    have HTK : Hid (ks.take (k + 1) = ks.take k ++ [y]) := by show _ = _; rw [hy]; exact kpAt_take ks k (by rw [HLN.out]; exact hlt)
    rw [← hy] at r0 r3 r5 r6 r7 r8 g1 g2 g3
    have HG1 : Hid (ArgT wr B a1 n1 y.xs) := g1
    have HG2 : Hid (ArgT wr B a2 n2 y.ys) := g2
    have HG3 : Hid (ArgF wr B a3 n3 y.fs) := g3
    clear hy g1 g2 g3
    go_wp2_with fail
    refine (szKept_any x hx0 (by omega) y.p a1 n1 c1 y.xs a2 n2 c2 y.ys y.st a3 n3 c3 y.fs y.b y.t y.a y.q B _ HG1.out HG2.out HG3.out (HBB.out _ HBW.out) (by rw [← HG1.out.len]; exact (HS.out y HM.out).1) (by rw [← HG2.out.len]; exact (HS.out y HM.out).2.1) (by rw [← HG3.out.len]; exact (HS.out y HM.out).2.2.1) (by rw [← HG1.out.len]; exact (HS.out y HM.out).2.2.2.1) (by rw [← HG2.out.len]; exact (HS.out y HM.out).2.2.2.2.1) (by rw [← HG3.out.len]; exact (HS.out y HM.out).2.2.2.2.2.1) (HS.out y HM.out).2.2.2.2.2.2.1 (HS.out y HM.out).2.2.2.2.2.2.2).mono ?_
    rintro e w1 ⟨r, rfl, hr1, hr2, bw⟩
    have HB2 : Hid (Below w.heap.size w w1) := HBW.out.trans (bw.mono HBW.out.size)
    clear r0 r1 r2 r3 r4 r5 r6 r7 r8 bw
    by_cases d1 : r < 0
    ·
     clear hr2
     go_wp2
     go_ret
     exact ⟨-1, rfl, by omega, fun h => absurd h (by omega), HB2.out⟩
    ·
     have HX2 : Hid (r + (wtK (ks.take (k + 1)) : Int) + ((n : Int) - ((k + 1 : Nat) : Int)) ≤ L ∧ ∀ y ∈ ks.take (k + 1), KpSmall y) := by
      obtain ⟨q1, q2, q3, q4, q5, q6⟩ := hr2 (by omega)
      obtain ⟨m1, m2⟩ := HX.out
      rw [← HG1.out.len] at q1 q3
      rw [← HG2.out.len] at q1 q4
      rw [← HG3.out.len] at q1 q5 q6
      refine ⟨?_, fun z hz => ?_⟩
      ·
       rw [HTK.out, wtK_snoc]
       omega
      ·
       rw [HTK.out] at hz
       rcases List.mem_append.1 hz with hz | hz
       · exact m2 z hz
       · rw [List.mem_singleton.1 hz]; exact ⟨q2, q3, q4, q5, q6⟩
     clear hr2
     go_wp2
     go_roundw
     case rel => exact ⟨k + 1, r, by omega, by go_num, rfl, by omega, by omega, HX2, HB2⟩
     case measure => simp [intOf]; omega
   ·
    have HF : Hid (x + (wtK ks : Int) ≤ L ∧ ∀ k ∈ ks, KpSmall k) := by
     obtain ⟨m1, m2⟩ := HX.out
     rw [List.take_of_length_le (by rw [HLN.out]; omega)] at m1 m2
     exact ⟨by omega, m2⟩
    go_wp2
    go_ret
    exact ⟨x, rfl, by omega, fun _ => HF.out, HBW.out⟩
theorem infoKept : (Tryz.prog.info? 103).map (fun i => (i.zero, i.size, i.bytes)) = some (some (.agg #[.string ⟨#[]⟩, .slice none 0 0, .slice none 0 0, .int .i64 0, .slice none 0 0, .string ⟨#[]⟩, .int .i64 0, .int .i64 0, .int .i64 0]), 9, 136) := by kernel_rfl
/-- A call answers a list of these, of its own. -/
def KeptIs (ks : List KpD) (w : World) (e : Ending) (w' : World) : Prop := ∃ (V : Value) (kv : List (KpD × Value × Value × Value)), e = .returned V ∧ kv.map (·.1) = ks ∧ KeptsO w' w.heap.size V kv ∧ Below w.heap.size w w'
theorem KeptsO.obj {w : World} {base : Nat} {V : Value} {kv : List (KpD × Value × Value × Value)} (h : KeptsO w base V kv) {x : KpD × Value × Value × Value} (hx : x ∈ kv) : RowsO w base (kpR x) := by
 obtain ⟨s, t, e⟩ := List.append_of_mem hx
 refine RowsO.sub h ?_
 unfold kpAll
 rw [e, List.flatMap_append, List.flatMap_cons]
 exact ((List.sublist_append_left _ _).trans (List.sublist_append_right _ _)).trans (List.sublist_cons_self _ _)
/-- Told item by item, and the items' own lists behind the row: a list of one's own. -/
theorem parts_kept {w : World} {g n base : Nat} {kv : List (KpD × Value × Value × Value)} (hp : PartO kpC 9 103 w g n kv) (hl : kv.length = n) (hm : n ≤ maxLen) (hb : base ≤ g) (hr : RowsO w (g + 1) (kv.flatMap kpR)) : KeptsO w base (.slice (some ⟨g, 0, none⟩) n n) kv := by
 have hrow : (kpRow (.slice (some ⟨g, 0, none⟩) n n) kv).own w base := by
  have h := hp.owns kpC_len (by decide) hl hm hb
  unfold Rw.own kpRow
  rw [hl]
  exact h
 refine ⟨fun r h => ?_, List.pairwise_cons.2 ⟨fun r h g' h1 h2 => ?_, hr.apart⟩⟩
 ·
  rcases List.mem_cons.1 h with h | h
  · rw [h]; exact hrow
  · exact owns_wide (hr.own r h) (by omega)
 ·
  have e1 : some g = some g' := h1
  have e2 := hr.ge h h2
  have e3 := Option.some.inj e1
  omega
theorem toKeptS_any (B : Nat) (a : Option Addr) (n cap : Nat) (ks : List KpD) (w : World) (harg : ArgKept w B a n ks) (hB : B ≤ w.heap.size) (hn : n ≤ 1048576) (hsm : ∀ k ∈ ks, k.xs.length ≤ 1048576 ∧ k.ys.length ≤ 1048576 ∧ k.fs.length ≤ 1048576) :
  Calls Tryz.prog 61 #[.slice a n cap] w fun e w' => KeptIs ks w e w' := by
 obtain ⟨i0, hi, hz0, hz1, hz2⟩ := info_parts infoKept
 obtain ⟨M, hM⟩ : ∃ M, M = madeCells (Value.agg #[.string ⟨#[]⟩, .slice none 0 0, .slice none 0 0, .int .i64 0, .slice none 0 0, .string ⟨#[]⟩, .int .i64 0, .int .i64 0, .int .i64 0]).cells (((n : Nat) : Int).toNat * i0.size) := ⟨_, rfl⟩
 have hmk : ∀ W : World, (Instr.makeSlice 50 (.int .i64 (n : Int)) (.int .i64 (n : Int))).run Tryz.prog W = .ok (.slice (some ⟨W.heap.size, 0, none⟩) n n) (W.alloc (.cells M 103)) := fun W => by
  have h := run_make (P := Tryz.prog) W 50 103 i0 (.agg #[.string ⟨#[]⟩, .slice none 0 0, .slice none 0 0, .int .i64 0, .slice none 0 0, .string ⟨#[]⟩, .int .i64 0, .int .i64 0, .int .i64 0]) Tryz.underlying50 hi hz0 .i64 .i64 (n : Int) (n : Int) (by omega) (by omega) (by rw [hz2]; omega) (by omega)
  rw [← hM] at h
  simpa using h
 have hMs : M.size = n * 9 := by rw [hM, size_madeCells, hz1]; simp
 have HLN : Hid (ks.length = n) := harg.1
 have HSM : Hid (∀ k ∈ ks, k.xs.length ≤ 1048576 ∧ k.ys.length ≤ 1048576 ∧ k.fs.length ≤ 1048576) := hsm
 have HA : Hid (∀ W, Below w.heap.size w W → ArgKept W B a n ks) := fun W h => harg.below (h.mono hB)
 have HBB : Hid (∀ W, Below w.heap.size w W → B ≤ W.heap.size) := fun W h => Nat.le_trans hB h.size
 clear hM harg hsm hB
 obtain ⟨g, hg⟩ := exq (w.heap.size)
 have HG : Hid (w.heap.size = g) := hg.symm
 have HP : Hid (([] : List (KpD × Value × Value × Value)).length = 0 ∧ ([] : List (KpD × Value × Value × Value)).map (·.1) = ks.take 0 ∧ PartO kpC 9 103 (w.alloc (.cells M 103)) g n [] ∧ RowsO (w.alloc (.cells M 103)) (g + 1) (([] : List (KpD × Value × Value × Value)).flatMap kpR)) := ⟨rfl, by simp, ⟨M, by rw [hg]; exact heap_alloc_new w _, hMs, fun i h => absurd h (by simp)⟩, RowsO.nil _ _⟩
 have HPB : Hid (Below w.heap.size w (w.alloc (.cells M 103))) := (Below.refl _ _).alloc (Nat.le_refl _) _
 go_enter Tryz.func61, Tryz.ntmps61
 go_wp2
 rw [HG.out]
 clear hg hMs
 go_loopw [4] (fun i wr => ∃ (k : Nat) (kv : List (KpD × Value × Value × Value)), k ≤ n ∧ i = .int .i64 (k : Int) ∧ Hid (kv.length = k ∧ kv.map (·.1) = ks.take k ∧ PartO kpC 9 103 wr g n kv ∧ RowsO wr (g + 1) (kv.flatMap kpR)) ∧ Hid (Below w.heap.size w wr)) (fun i _ => n - (intOf i).toNat)
 case atStart => exact ⟨0, [], Nat.zero_le _, rfl, HP, HPB⟩
 case round =>
  obtain ⟨k, kv, hk, rfl, hpr, HBW⟩ := hrel
  by_cases hlt : k < n
  ·
   have hlt2 : (k : Int) < (n : Int) := by omega
   obtain ⟨b, off, rfl, hbB, a1, n1, c1, a2, n2, c2, a3, n3, c3, ⟨r0, r1, r2, r3, r4, r5, r6, r7, r8⟩, g1, g2, g3⟩ := (HA.out wr HBW.out).2 k hlt
   obtain ⟨y, hy⟩ := exq (kpAt ks k)
   have HM : Hid (y ∈ ks) := by show _ ∈ _; rw [hy]; exact kpAt_mem ks k (by rw [HLN.out]; exact hlt)
   have HTK : Hid (ks.take (k + 1) = ks.take k ++ [y]) := by show _ = _; rw [hy]; exact kpAt_take ks k (by rw [HLN.out]; exact hlt)
   rw [← hy] at r0 r3 r5 r6 r7 r8 g1 g2 g3
   have HG1 : Hid (ArgT wr B a1 n1 y.xs) := g1
   have HG2 : Hid (ArgT wr B a2 n2 y.ys) := g2
   have HG3 : Hid (ArgF wr B a3 n3 y.fs) := g3
   clear hy g1 g2 g3
   go_wp2_with fail
   refine (toKept_any y.p a1 n1 c1 y.xs a2 n2 c2 y.ys y.st a3 n3 c3 y.fs y.b y.t y.a y.q B _ HG1.out HG2.out HG3.out (HBB.out _ HBW.out) (by rw [← HG1.out.len]; exact (HSM.out y HM.out).1) (by rw [← HG2.out.len]; exact (HSM.out y HM.out).2.1) (by rw [← HG3.out.len]; exact (HSM.out y HM.out).2.2)).mono ?_
   rintro e w1 ⟨v1, v2, v3, rfl, hobj, bw⟩
   clear r0 r1 r2 r3 r4 r5 r6 r7 r8
   obtain ⟨o1, p1, rfl⟩ := slice_of_owns hobj.names
   obtain ⟨o2, p2, rfl⟩ := slice_of_owns hobj.vals
   obtain ⟨o3, p3, rfl⟩ := slice_of_owns hobj.flds
   obtain ⟨q1, q2, q3, q4⟩ := hpr.out
   have hgl : g < wr.heap.size := q3.lt
   have HB2 : Hid (Below w.heap.size w w1) := HBW.out.trans (bw.mono HBW.out.size)
   have hpr1 := q3.below bw
   obtain ⟨x, hx⟩ : ∃ x : KpD × Value × Value × Value, x = (y, .slice o1 n1 p1, .slice o2 n2 p2, .slice o3 n3 p3) := ⟨_, rfl⟩
   have hnew : RowsO w1 wr.heap.size (kpR x) := by
    rw [hx]
    apply objO_rows
    rw [HG1.out.len, HG2.out.len, HG3.out.len]
    exact hobj
   have hall : RowsO w1 (g + 1) (kv.flatMap kpR ++ kpR x) := q4.more bw hnew (Nat.le_refl _) hgl
   have HALL : Hid ((kv ++ [x]).length = k + 1 ∧ (kv ++ [x]).map (·.1) = ks.take (k + 1) ∧ PartO kpC 9 103 (setW w1 g (k * 9) (kpC x)) g n (kv ++ [x]) ∧ RowsO (setW w1 g (k * 9) (kpC x)) (g + 1) ((kv ++ [x]).flatMap kpR)) := by
    refine ⟨by rw [List.length_append, q1]; rfl, by rw [List.map_append, q2, HTK.out, hx]; rfl, ?_, ?_⟩
    ·
     have h := hpr1.put kpC_len x (by omega)
     rw [q1] at h
     exact h
    ·
     rw [List.flatMap_append]
     have h2 : RowsO (setW w1 g (k * 9) (kpC x)) (g + 1) (kv.flatMap kpR ++ kpR x) := hall.same (fun r hr j hj => setW_other g j (by have := hall.ge hr hj; omega) _ _ _)
     simpa using h2
   have HBE : Hid (Below w.heap.size w (setW w1 g (k * 9) (kpC x))) := setW_below (by rw [HG.out]; exact Nat.le_refl _) _ _ _ _ HB2.out
   rw [hx] at HALL HBE
   obtain ⟨u0, hu0⟩ := hpr1.cell (k * 9) (by omega)
   have f0 := hpr1.frozen (k * 9)
   obtain ⟨u1, hu1⟩ := hpr1.cell (k * 9 + 1) (by omega)
   have f1 := hpr1.frozen (k * 9 + 1)
   obtain ⟨u2, hu2⟩ := hpr1.cell (k * 9 + 2) (by omega)
   have f2 := hpr1.frozen (k * 9 + 2)
   obtain ⟨u3, hu3⟩ := hpr1.cell (k * 9 + 3) (by omega)
   have f3 := hpr1.frozen (k * 9 + 3)
   obtain ⟨u4, hu4⟩ := hpr1.cell (k * 9 + 4) (by omega)
   have f4 := hpr1.frozen (k * 9 + 4)
   obtain ⟨u5, hu5⟩ := hpr1.cell (k * 9 + 5) (by omega)
   have f5 := hpr1.frozen (k * 9 + 5)
   obtain ⟨u6, hu6⟩ := hpr1.cell (k * 9 + 6) (by omega)
   have f6 := hpr1.frozen (k * 9 + 6)
   obtain ⟨u7, hu7⟩ := hpr1.cell (k * 9 + 7) (by omega)
   have f7 := hpr1.frozen (k * 9 + 7)
   obtain ⟨u8, hu8⟩ := hpr1.cell (k * 9 + 8) (by omega)
   have f8 := hpr1.frozen (k * 9 + 8)
   clear hpr1 hall hnew hx q1 q2 q3 q4 hobj bw hpr
   go_wp2
   go_roundw
   case rel => exact ⟨k + 1, _, by omega, by go_num, HALL, HBE⟩
   case measure => simp [intOf]; omega
  ·
   obtain rfl : k = n := by omega
   obtain ⟨q1, q2, q3, q4⟩ := hpr.out
   have HF : Hid (kv.map (·.1) = ks ∧ KeptsO wr w.heap.size (.slice (some ⟨g, 0, none⟩) k k) kv) := by
    refine ⟨?_, parts_kept q3 q1 (by unfold maxLen; omega) (by rw [HG.out]; exact Nat.le_refl _) q4⟩
    rw [q2, List.take_of_length_le (by rw [HLN.out]; exact Nat.le_refl _)]
   clear q1 q2 q3 q4
   go_wp2
   go_ret
   exact ⟨_, kv, rfl, HF.out.1, HF.out.2, HBW.out⟩
end Go.Proofs.YtbmhonfgffjpcaaGreat
namespace Go.Proofs.YtbmhonfgffjpcaaGreat
open Go.RowKit
open Go.Lib hiding intOf
theorem eqKeptS_any (V1 V2 : Value) (kv1 kv2 : List (KpD × Value × Value × Value)) (B1 B2 : Nat) (w : World) (he : kv1.map (·.1) = kv2.map (·.1)) (h1 : KeptsO w B1 V1 kv1) (h2 : KeptsO w B2 V2 kv2) (hn : kv1.length ≤ 2000000) (hs : ∀ x ∈ kv1, x.1.xs.length ≤ 2000000 ∧ x.1.ys.length ≤ 2000000 ∧ x.1.fs.length ≤ 2000000) :
  Calls Tryz.prog 73 #[V1, V2] w fun e w' => e = .returned (.bool true) ∧ Below w.heap.size w w' := by
 have hlen : kv2.length = kv1.length := by have := congrArg List.length he; simpa using this.symm
 obtain ⟨n, hnn⟩ := exq kv1.length
 obtain ⟨o1, c1, e1⟩ := h1.len
 obtain ⟨o2, c2, e2⟩ := h2.len
 rw [← hnn] at e1 hn
 rw [hlen, ← hnn] at e2
 subst e1 e2
 have HL1 : Hid (kv1.length = n) := hnn.symm
 have HL2 : Hid (kv2.length = n) := hlen.trans hnn.symm
 have HE : Hid (kv1.map (·.1) = kv2.map (·.1)) := he
 have HS : Hid (∀ x ∈ kv1, x.1.xs.length ≤ 2000000 ∧ x.1.ys.length ≤ 2000000 ∧ x.1.fs.length ≤ 2000000) := hs
 have H1 : Hid (∀ W, Below w.heap.size w W → KeptsO W B1 (.slice o1 n c1) kv1) := fun W h => h1.below h
 have H2 : Hid (∀ W, Below w.heap.size w W → KeptsO W B2 (.slice o2 n c2) kv2) := fun W h => h2.below h
 clear h1 h2 hlen hnn he hs
 go_enter Tryz.func73, Tryz.ntmps73
 go_wp2
 go_loopw [5] (fun i wr => ∃ k : Nat, k ≤ n ∧ i = .int .i64 (k : Int) ∧ Hid (Below w.heap.size w wr)) (fun i _ => n - (intOf i).toNat)
 case atStart => exact ⟨0, Nat.zero_le _, rfl, Below.refl _ _⟩
 case round =>
  obtain ⟨k, hk, rfl, HBW⟩ := hrel
  by_cases hlt : k < n
  ·
   have hlt2 : (k : Int) < (n : Int) := by omega
   obtain ⟨g1, cp1, ev1, hg1, at1⟩ := (H1.out wr HBW.out).at k (by rw [HL1.out]; exact hlt)
   obtain ⟨g2, cp2, ev2, hg2, at2⟩ := (H2.out wr HBW.out).at k (by rw [HL2.out]; exact hlt)
   obtain rfl : o1 = some ⟨g1, 0, none⟩ := (Value.slice.inj ev1).1
   obtain rfl : o2 = some ⟨g2, 0, none⟩ := (Value.slice.inj ev2).1
   have exy : (kv1[k]'(by rw [HL1.out]; exact hlt)).1 = (kv2[k]'(by rw [HL2.out]; exact hlt)).1 := by
    have h := congrArg (fun l : List KpD => l[k]?) HE.out
    simpa [List.getElem?_map, List.getElem?_eq_getElem (show k < kv1.length by rw [HL1.out]; exact hlt), List.getElem?_eq_getElem (show k < kv2.length by rw [HL2.out]; exact hlt)] using h
   have m1 : kv1[k]'(by rw [HL1.out]; exact hlt) ∈ kv1 := List.getElem_mem _
   have m2 : kv2[k]'(by rw [HL2.out]; exact hlt) ∈ kv2 := List.getElem_mem _
   generalize kv1[k]'(by rw [HL1.out]; exact hlt) = x at at1 exy m1
   generalize kv2[k]'(by rw [HL2.out]; exact hlt) = y at at2 exy m2
   obtain ⟨d, v1, v2, v3⟩ := x
   obtain ⟨d', u1, u2, u3⟩ := y
   obtain rfl : d = d' := exy
   have HO1 : Hid (∀ W, Below wr.heap.size wr W → ObjO W B1 v1 d.xs.length d.xs v2 d.ys.length d.ys v3 d.fs.length d.fs) := fun W h => rows_objO (((H1.out wr HBW.out).below h).obj m1)
   have HO2 : Hid (∀ W, Below wr.heap.size wr W → ObjO W B2 u1 d.xs.length d.xs u2 d.ys.length d.ys u3 d.fs.length d.fs) := fun W h => rows_objO (((H2.out wr HBW.out).below h).obj m2)
   have HSZ : Hid (d.xs.length ≤ 2000000 ∧ d.ys.length ≤ 2000000 ∧ d.fs.length ≤ 2000000) := HS.out _ m1
   have a0 : wr.cell? ⟨g1, k * 9, none⟩ = some (.string d.p) := at1.c0
   have a1 : wr.cell? ⟨g1, k * 9 + 1, none⟩ = some (v1) := at1.c1
   have a2 : wr.cell? ⟨g1, k * 9 + 2, none⟩ = some (v2) := at1.c2
   have a3 : wr.cell? ⟨g1, k * 9 + 3, none⟩ = some (.int .i64 d.st) := at1.c3
   have a4 : wr.cell? ⟨g1, k * 9 + 4, none⟩ = some (v3) := at1.c4
   have a5 : wr.cell? ⟨g1, k * 9 + 5, none⟩ = some (.string d.b) := at1.c5
   have a6 : wr.cell? ⟨g1, k * 9 + 6, none⟩ = some (.int .i64 d.t) := at1.c6
   have a7 : wr.cell? ⟨g1, k * 9 + 7, none⟩ = some (.int .i64 d.a) := at1.c7
   have a8 : wr.cell? ⟨g1, k * 9 + 8, none⟩ = some (.int .i64 d.q) := at1.c8
   have b0 : wr.cell? ⟨g2, k * 9, none⟩ = some (.string d.p) := at2.c0
   have b1 : wr.cell? ⟨g2, k * 9 + 1, none⟩ = some (u1) := at2.c1
   have b2 : wr.cell? ⟨g2, k * 9 + 2, none⟩ = some (u2) := at2.c2
   have b3 : wr.cell? ⟨g2, k * 9 + 3, none⟩ = some (.int .i64 d.st) := at2.c3
   have b4 : wr.cell? ⟨g2, k * 9 + 4, none⟩ = some (u3) := at2.c4
   have b5 : wr.cell? ⟨g2, k * 9 + 5, none⟩ = some (.string d.b) := at2.c5
   have b6 : wr.cell? ⟨g2, k * 9 + 6, none⟩ = some (.int .i64 d.t) := at2.c6
   have b7 : wr.cell? ⟨g2, k * 9 + 7, none⟩ = some (.int .i64 d.a) := at2.c7
   have b8 : wr.cell? ⟨g2, k * 9 + 8, none⟩ = some (.int .i64 d.q) := at2.c8
   clear at1 at2 m1 m2 ev1 ev2
   have HA : Hid (∀ w0 w1, Below wr.heap.size wr w0 → Below w0.heap.size w0 w1 → (w1.cell? ⟨g1, k * 9, none⟩ = some (.string d.p) ∧ w1.cell? ⟨g1, k * 9 + 1, none⟩ = some (v1) ∧ w1.cell? ⟨g1, k * 9 + 2, none⟩ = some (v2) ∧ w1.cell? ⟨g1, k * 9 + 3, none⟩ = some (.int .i64 d.st) ∧ w1.cell? ⟨g1, k * 9 + 4, none⟩ = some (v3) ∧ w1.cell? ⟨g1, k * 9 + 5, none⟩ = some (.string d.b) ∧ w1.cell? ⟨g1, k * 9 + 6, none⟩ = some (.int .i64 d.t) ∧ w1.cell? ⟨g1, k * 9 + 7, none⟩ = some (.int .i64 d.a) ∧ w1.cell? ⟨g1, k * 9 + 8, none⟩ = some (.int .i64 d.q) ∧ w1.cell? ⟨g2, k * 9, none⟩ = some (.string d.p) ∧ w1.cell? ⟨g2, k * 9 + 1, none⟩ = some (u1) ∧ w1.cell? ⟨g2, k * 9 + 2, none⟩ = some (u2) ∧ w1.cell? ⟨g2, k * 9 + 3, none⟩ = some (.int .i64 d.st) ∧ w1.cell? ⟨g2, k * 9 + 4, none⟩ = some (u3) ∧ w1.cell? ⟨g2, k * 9 + 5, none⟩ = some (.string d.b) ∧ w1.cell? ⟨g2, k * 9 + 6, none⟩ = some (.int .i64 d.t) ∧ w1.cell? ⟨g2, k * 9 + 7, none⟩ = some (.int .i64 d.a) ∧ w1.cell? ⟨g2, k * 9 + 8, none⟩ = some (.int .i64 d.q)) ∧ Below wr.heap.size wr w1) := fun w0 w1 h h' => by
    have hx := h.trans (h'.mono h.size)
    exact ⟨⟨by rw [hx.cell (p := ⟨g1, k * 9, none⟩) hg1]; exact a0, by rw [hx.cell (p := ⟨g1, k * 9 + 1, none⟩) hg1]; exact a1, by rw [hx.cell (p := ⟨g1, k * 9 + 2, none⟩) hg1]; exact a2, by rw [hx.cell (p := ⟨g1, k * 9 + 3, none⟩) hg1]; exact a3, by rw [hx.cell (p := ⟨g1, k * 9 + 4, none⟩) hg1]; exact a4, by rw [hx.cell (p := ⟨g1, k * 9 + 5, none⟩) hg1]; exact a5, by rw [hx.cell (p := ⟨g1, k * 9 + 6, none⟩) hg1]; exact a6, by rw [hx.cell (p := ⟨g1, k * 9 + 7, none⟩) hg1]; exact a7, by rw [hx.cell (p := ⟨g1, k * 9 + 8, none⟩) hg1]; exact a8, by rw [hx.cell (p := ⟨g2, k * 9, none⟩) hg2]; exact b0, by rw [hx.cell (p := ⟨g2, k * 9 + 1, none⟩) hg2]; exact b1, by rw [hx.cell (p := ⟨g2, k * 9 + 2, none⟩) hg2]; exact b2, by rw [hx.cell (p := ⟨g2, k * 9 + 3, none⟩) hg2]; exact b3, by rw [hx.cell (p := ⟨g2, k * 9 + 4, none⟩) hg2]; exact b4, by rw [hx.cell (p := ⟨g2, k * 9 + 5, none⟩) hg2]; exact b5, by rw [hx.cell (p := ⟨g2, k * 9 + 6, none⟩) hg2]; exact b6, by rw [hx.cell (p := ⟨g2, k * 9 + 7, none⟩) hg2]; exact b7, by rw [hx.cell (p := ⟨g2, k * 9 + 8, none⟩) hg2]; exact b8⟩, hx⟩
   go_wp2
   go_region_held3 (fun w' => w'.cell? ⟨g1, k * 9, none⟩ = some (.string d.p) ∧ w'.cell? ⟨g1, k * 9 + 1, none⟩ = some (v1) ∧ w'.cell? ⟨g1, k * 9 + 2, none⟩ = some (v2) ∧ w'.cell? ⟨g1, k * 9 + 3, none⟩ = some (.int .i64 d.st) ∧ w'.cell? ⟨g1, k * 9 + 4, none⟩ = some (v3) ∧ w'.cell? ⟨g1, k * 9 + 5, none⟩ = some (.string d.b) ∧ w'.cell? ⟨g1, k * 9 + 6, none⟩ = some (.int .i64 d.t) ∧ w'.cell? ⟨g1, k * 9 + 7, none⟩ = some (.int .i64 d.a) ∧ w'.cell? ⟨g1, k * 9 + 8, none⟩ = some (.int .i64 d.q) ∧ w'.cell? ⟨g2, k * 9, none⟩ = some (.string d.p) ∧ w'.cell? ⟨g2, k * 9 + 1, none⟩ = some (u1) ∧ w'.cell? ⟨g2, k * 9 + 2, none⟩ = some (u2) ∧ w'.cell? ⟨g2, k * 9 + 3, none⟩ = some (.int .i64 d.st) ∧ w'.cell? ⟨g2, k * 9 + 4, none⟩ = some (u3) ∧ w'.cell? ⟨g2, k * 9 + 5, none⟩ = some (.string d.b) ∧ w'.cell? ⟨g2, k * 9 + 6, none⟩ = some (.int .i64 d.t) ∧ w'.cell? ⟨g2, k * 9 + 7, none⟩ = some (.int .i64 d.a) ∧ w'.cell? ⟨g2, k * 9 + 8, none⟩ = some (.int .i64 d.q)) (first | assumption | go_keep) (first | (go_at_call 109; refine (eqKept_any d.p d.xs.length d.xs d.ys.length d.ys d.st d.fs.length d.fs d.b d.t d.a d.q _ _ _ _ _ _ B1 B2 _ (HO1.out _ ((Below.refl _ wr).drew)) (HO2.out _ ((Below.refl _ wr).drew)) HSZ.out.1 HSZ.out.2.1 HSZ.out.2.2).mono ?_; rintro e w1 ⟨rfl, hb1⟩; obtain ⟨hcc, hbx⟩ := HA.out _ w1 ((Below.refl _ wr).drew) hb1))
   go_wp2
   go_roundw
   case rel => exact ⟨k + 1, by omega, by go_num, HBW.out.trans (hbx.mono HBW.out.size)⟩
   case measure => simp [intOf]; omega
  ·
   go_wp2
   go_ret
   exact ⟨rfl, HBW.out⟩
end Go.Proofs.YtbmhonfgffjpcaaGreat
namespace Go.Proofs.YtbmhonfgffjpcaaGreat
open Go.RowKit
open Go.Lib hiding intOf
/-- A store's cells are none of the rows': they stay. -/
theorem RowsO.other {W : World} {base q o : Nat} {rs : List Rw} {cs : Array Value} {T : TypeId} {fr : Nat × Nat} {u : Value} (h : RowsO W base rs) (hq : W.heap[q]? = some (.cells cs T fr)) (hT : ∀ r ∈ rs, T ≠ r.T) : RowsO (W.setCell ⟨q, o, none⟩ u) base rs :=
 h.same (fun r hr g hg => heap_setCell_other _ _ g _ (fun e => own_noR (h.own r hr) (hT r hr) hq (by have e' : g = q := e; rw [← e']; exact hg)))
theorem erS {W W' : World} {base q i : Nat} {v : Value} {rs : List Rw} {cs : Array Value} {T : TypeId} {fr : Nat × Nat} (hW : W' = W.setCell ⟨q, i, none⟩ v) (h : Hid (RowsO W base rs)) (hb : Hid (W.heap[q]? = some (.cells cs T fr))) (hT : ∀ r ∈ rs, T ≠ r.T) : Hid (RowsO W' base rs) := by show RowsO _ _ _; rw [hW]; exact RowsO.other h.out hb.out hT
theorem kpAll_T {V : Value} {kv : List (KpD × Value × Value × Value)} {r : Rw} (h : r ∈ kpAll V kv) : r.T = 103 ∨ r.T = 9 ∨ r.T = 171 := by
 rcases List.mem_cons.1 h with h | h
 · exact .inl (by rw [h]; rfl)
 ·
  obtain ⟨x, _, hx⟩ := List.mem_flatMap.1 h
  simp only [kpR, List.mem_cons, List.not_mem_nil, or_false] at hx
  rcases hx with rfl | rfl | rfl
  · exact .inr (.inl rfl)
  · exact .inr (.inl rfl)
  · exact .inr (.inr rfl)
theorem disk_rows {W : World} {base : Nat} {v1 v2 : Value} {n1 n2 : Nat} {cs : List ByteArray} {ws : List (Int × ByteArray)} (h : DiskO W base v1 n1 cs v2 n2 ws) : RowsO W base [(⟨9, 1, v1, n1, cs.map Value.string⟩ : Rw), (⟨199, 2, v2, n2, flatWrite ws⟩ : Rw)] := by
 refine ⟨fun r hr => ?_, List.pairwise_cons.2 ⟨fun r hr => ?_, List.pairwise_singleton _ _⟩⟩
 ·
  simp only [List.mem_cons, List.not_mem_nil, or_false] at hr
  rcases hr with rfl | rfl
  · exact h.cells
  · exact h.pend
 ·
  rw [List.mem_singleton.1 hr]
  exact fun g hg => own_two h.cells h.pend (by decide) hg
/-- All rows of a store. -/
def shAll (v1 v2 V VB : Value) (kv : List (KpD × Value × Value × Value)) (cs : List ByteArray) (ws : List (Int × ByteArray)) (bl : List (Int × ByteArray × ByteArray × Int)) : List Rw := ([(⟨9, 1, v1, cs.length, cs.map Value.string⟩ : Rw), (⟨199, 2, v2, ws.length, flatWrite ws⟩ : Rw)] ++ kpAll V kv) ++ [(⟨152, 4, VB, bl.length, flatBan bl⟩ : Rw)]
/-- A store of one's own. -/
def ShelfO (w : World) (base : Nat) (v1 v2 V VB : Value) (kv : List (KpD × Value × Value × Value)) (s : ShD) : Prop := RowsO w base (shAll v1 v2 V VB kv s.cs s.ws s.bl) ∧ kv.map (·.1) = s.ks
theorem ShelfO.disk {w : World} {base : Nat} {v1 v2 V VB : Value} {kv : List (KpD × Value × Value × Value)} {s : ShD} (h : ShelfO w base v1 v2 V VB kv s) : DiskO w base v1 s.cs.length s.cs v2 s.ws.length s.ws := ⟨h.1.own (⟨9, 1, v1, s.cs.length, s.cs.map Value.string⟩ : Rw) (by simp [shAll]), h.1.own (⟨199, 2, v2, s.ws.length, flatWrite s.ws⟩ : Rw) (by simp [shAll])⟩
theorem ShelfO.kept {w : World} {base : Nat} {v1 v2 V VB : Value} {kv : List (KpD × Value × Value × Value)} {s : ShD} (h : ShelfO w base v1 v2 V VB kv s) : KeptsO w base V kv := RowsO.sub h.1 ((List.sublist_append_right _ _).trans (List.sublist_append_left _ _))
theorem ShelfO.bans {w : World} {base : Nat} {v1 v2 V VB : Value} {kv : List (KpD × Value × Value × Value)} {s : ShD} (h : ShelfO w base v1 v2 V VB kv s) : w.ownsRow base 152 4 VB s.bl.length (flatBan s.bl) := h.1.own (⟨152, 4, VB, s.bl.length, flatBan s.bl⟩ : Rw) (by simp [shAll])
theorem ShelfO.below {w w' : World} {base : Nat} {v1 v2 V VB : Value} {kv : List (KpD × Value × Value × Value)} {s : ShD} (h : ShelfO w base v1 v2 V VB kv s) (hb : Below w.heap.size w w') : ShelfO w' base v1 v2 V VB kv s := ⟨h.1.below hb, h.2⟩
/-- A call answers a store of its own. -/
def ShelfIs (s : ShD) (w : World) (e : Ending) (w' : World) : Prop := ∃ (v1 v2 V VB : Value) (kv : List (KpD × Value × Value × Value)), e = .returned (.agg #[v1, v2, V, VB, .int .i64 s.nx, .int .i64 s.sq]) ∧ ShelfO w' w.heap.size v1 v2 V VB kv s ∧ Below w.heap.size w w'
theorem toShelf_any (a1 : Option Addr) (n1 c1 : Nat) (cs : List ByteArray) (a2 : Option Addr) (n2 c2 : Nat) (ws : List (Int × ByteArray)) (a3 : Option Addr) (n3 c3 : Nat) (ks : List KpD) (a4 : Option Addr) (n4 c4 : Nat) (bl : List (Int × ByteArray × ByteArray × Int)) (nx sq : Int) (B : Nat) (w : World) (h1 : ArgT w B a1 n1 cs) (h2 : ArgWrite w B a2 n2 ws) (h3 : ArgKept w B a3 n3 ks) (h4 : ArgBan w B a4 n4 bl) (hB : B ≤ w.heap.size) (hn1 : n1 ≤ 1048576) (hn2 : n2 ≤ 1048576) (hn3 : n3 ≤ 1048576) (hn4 : n4 ≤ 1048576) (hsm : ∀ k ∈ ks, k.xs.length ≤ 1048576 ∧ k.ys.length ≤ 1048576 ∧ k.fs.length ≤ 1048576) :
  Calls Tryz.prog 26 #[.agg #[.slice a1 n1 c1, .slice a2 n2 c2, .slice a3 n3 c3, .slice a4 n4 c4, .int .i64 nx, .int .i64 sq]] w fun e w' => ShelfIs ⟨cs, ws, ks, bl, nx, sq⟩ w e w' := by
 have HA1 : Hid (∀ W, Below w.heap.size w W → ArgT W B a1 n1 cs) := fun W h => h1.below (h.mono hB)
 have HA2 : Hid (∀ W, Below w.heap.size w W → ArgWrite W B a2 n2 ws) := fun W h => h2.below (h.mono hB)
 have HA3 : Hid (∀ W, Below w.heap.size w W → ArgKept W B a3 n3 ks) := fun W h => h3.below (h.mono hB)
 have HA4 : Hid (∀ W, Below w.heap.size w W → ArgBan W B a4 n4 bl) := fun W h => h4.below (h.mono hB)
 have HBB : Hid (∀ W, Below w.heap.size w W → B ≤ W.heap.size) := fun W h => Nat.le_trans hB h.size
 have HN : Hid (n1 ≤ 1048576 ∧ n2 ≤ 1048576 ∧ n3 ≤ 1048576 ∧ n4 ≤ 1048576) := ⟨hn1, hn2, hn3, hn4⟩
 have HSM : Hid (∀ k ∈ ks, k.xs.length ≤ 1048576 ∧ k.ys.length ≤ 1048576 ∧ k.fs.length ≤ 1048576) := hsm
 have HL : Hid (cs.length = n1 ∧ ws.length = n2 ∧ ks.length = n3 ∧ bl.length = n4) := ⟨h1.len, h2.1, h3.1, h4.1⟩
 clear h1 h2 h3 h4 hn1 hn2 hn3 hn4 hsm hB
 have hb0 : Below w.heap.size w w := Below.refl _ _
 go_enter Tryz.func26, Tryz.ntmps26
 go_upto_region 1 with fail
 obtain ⟨qv1, hqv1⟩ := exq ((w).heap.size)
 obtain ⟨w1, hW1⟩ := exq ((w).alloc (.cells #[.slice a1 n1 c1, .slice a2 n2 c2, .slice a3 n3 c3, .slice a4 n4 c4, .int .i64 nx, .int .i64 sq] 29))
 have hz1 : (w).heap.size = qv1 := hqv1.symm
 first | rw [← hW1, ← hqv1] | rw [← hW1]
 have hs1 := hsa hW1 hz1
 have bw := bal hW1
 have hb1 := hbt hb0 bw
 have HBv1_1 := hnew hW1 hz1
 clear hb0 bw hW1 hz1
 obtain ⟨qv2, hqv2⟩ := exq (qv1 + 1)
 obtain ⟨w2, hW2⟩ := exq ((w1).alloc (.cells #[.slice none 0 0, .slice none 0 0, .slice none 0 0, .slice none 0 0, .int .i64 0, .int .i64 0] 53))
 have hz2 : (w1).heap.size = qv2 := by rw [hqv2]; exact hs1
 first | rw [← hW2, ← hqv2] | rw [← hW2]
 have hs2 := hsa hW2 hz2
 have bw := bal hW2
 have hb2 := hbt hb1 bw
 have HBv1_2 := hblk HBv1_1 bw
 have HNv1v2 : Hid (qv1 ≠ qv2) := fun e => by have h1 := (Array.getElem?_eq_some_iff.1 HBv1_1.out).1; omega
 have HBv2_2 := hnew hW2 hz2
 have HGv2 := hge hz2 hb1
 clear hb1 HBv1_1 bw hW2 hz2
 clear hs2 hqv2 hs1 hqv1
 go_upto_region 2 with fail
 obtain ⟨qv3, hqv3⟩ := exq ((w2).heap.size)
 obtain ⟨w3, hW3⟩ := exq ((w2).alloc (.cells #[.slice none 0 0, .slice none 0 0, .slice none 0 0, .slice none 0 0, .int .i64 0, .int .i64 0] 53))
 have hz3 : (w2).heap.size = qv3 := hqv3.symm
 first | rw [← hW3, ← hqv3] | rw [← hW3]
 have hs3 := hsa hW3 hz3
 have bw := bal hW3
 have hb3 := hbt hb2 bw
 have HBv1_3 := hblk HBv1_2 bw
 have HBv2_3 := hblk HBv2_2 bw
 have HNv1v3 : Hid (qv1 ≠ qv3) := fun e => by have h1 := (Array.getElem?_eq_some_iff.1 HBv1_2.out).1; omega
 have HNv2v3 : Hid (qv2 ≠ qv3) := fun e => by have h1 := (Array.getElem?_eq_some_iff.1 HBv2_2.out).1; omega
 have HBv3_3 := hnew hW3 hz3
 have HGv3 := hge hz3 hb2
 clear hb2 HBv1_2 HBv2_2 bw hW3 hz3
 clear hs3 hqv3
 have cv1_0 := (k6c HBv1_3).1
 have cv1_1 := (k6c HBv1_3).2.1
 go_wp2_with fail
 refine (toDisk_any a1 n1 c1 cs a2 n2 c2 ws B _ (HA1.out _ hb3) (HA2.out _ hb3) (HBB.out _ hb3) HN.out.1 HN.out.2.1).mono ?_
 rintro e w4 ⟨vv1, vv2, rfl, hdk, bw⟩
 obtain ⟨oC, pC, rfl⟩ := slice_of_owns hdk.cells
 obtain ⟨oP, pP, rfl⟩ := slice_of_owns hdk.pend
 have HRN0 : Hid (RowsO w4 w.heap.size ([(⟨9, 1, (.slice oC n1 pC), n1, cs.map Value.string⟩ : Rw), (⟨199, 2, (.slice oP n2 pP), n2, flatWrite ws⟩ : Rw)])) := (disk_rows hdk).wide hb3.size
 have HT0 : Hid (∀ r ∈ ([(⟨9, 1, (.slice oC n1 pC), n1, cs.map Value.string⟩ : Rw), (⟨199, 2, (.slice oP n2 pP), n2, flatWrite ws⟩ : Rw)]), 53 ≠ r.T) := by
  intro r hr
  simp only [List.mem_cons, List.not_mem_nil, or_false] at hr
  rcases hr with rfl | rfl
  · exact (by decide : (53 : TypeId) ≠ 9)
  · exact (by decide : (53 : TypeId) ≠ 199)
 clear hdk
 have hb4 := hbt hb3 bw
 have HBv1_4 := hblk HBv1_3 bw
 have HBv2_4 := hblk HBv2_3 bw
 have HBv3_4 := hblk HBv3_3 bw
 clear hb3 HBv1_3 HBv2_3 HBv3_3 bw
 have ER_4 : Hid (RowsO (w4) w.heap.size ([(⟨9, 1, (.slice oC n1 pC), n1, cs.map Value.string⟩ : Rw), (⟨199, 2, (.slice oP n2 pP), n2, flatWrite ws⟩ : Rw)])) := HRN0.out
 clear HRN0
 clear cv1_0 cv1_1
 have cv3_0 := (k6c HBv3_4).1
 have fcv3_0 := hfz HBv3_4 0
 have cv3_1 := (k6c HBv3_4).2.1
 have fcv3_1 := hfz HBv3_4 1
 go_upto_region 3 with fail
 obtain ⟨w5, hW5⟩ := exq ((w4).setCell ⟨qv3, 0, none⟩ (.slice oC n1 pC))
 rw [← hW5]
 have hb5 := hbS hW5 hb4 HGv3
 have HBv1_5 := hset hW5 HNv1v3.out HBv1_4
 have HBv2_5 := hset hW5 HNv2v3.out HBv2_4
 have ER_5 := erS hW5 ER_4 HBv3_4 HT0.out
 have HBv3_5 : Hid ((w5).heap[qv3]? = some (.cells #[.slice oC n1 pC, .slice none 0 0, .slice none 0 0, .slice none 0 0, .int .i64 0, .int .i64 0] 53)) := by show _ = _; rw [hW5]; have h := heap_set _ _ 0 _ _ _ (.slice oC n1 pC) HBv3_4.out; simpa using h
 clear hb4 HBv1_4 HBv2_4 HBv3_4 ER_4 hW5
 obtain ⟨w6, hW6⟩ := exq ((w5).setCell ⟨qv3, 1, none⟩ (.slice oP n2 pP))
 rw [← hW6]
 have hb6 := hbS hW6 hb5 HGv3
 have HBv1_6 := hset hW6 HNv1v3.out HBv1_5
 have HBv2_6 := hset hW6 HNv2v3.out HBv2_5
 have ER_6 := erS hW6 ER_5 HBv3_5 HT0.out
 have HBv3_6 : Hid ((w6).heap[qv3]? = some (.cells #[.slice oC n1 pC, .slice oP n2 pP, .slice none 0 0, .slice none 0 0, .int .i64 0, .int .i64 0] 53)) := by show _ = _; rw [hW6]; have h := heap_set _ _ 1 _ _ _ (.slice oP n2 pP) HBv3_5.out; simpa using h
 clear hb5 HBv1_5 HBv2_5 HBv3_5 ER_5 hW6
 clear cv3_0 fcv3_0 cv3_1 fcv3_1
 have cv1_2 := (k6c HBv1_6).2.2.1
 go_wp2_with fail
 refine (toKeptS_any B a3 n3 c3 ks _ (HA3.out _ hb6) (HBB.out _ hb6) HN.out.2.2.1 HSM.out).mono ?_
 rintro e w7 ⟨VK, kv, rfl, hkm, hko, bw⟩
 have HKM : Hid (kv.map (·.1) = ks) := hkm
 obtain ⟨oK, pK, hVK⟩ := hko.len
 rw [show kv.length = n3 from by rw [← HL.out.2.2.1, ← hkm, List.length_map]] at hVK
 subst hVK
 have HRN1 : Hid (RowsO w7 w.heap.size ([(⟨9, 1, (.slice oC n1 pC), n1, cs.map Value.string⟩ : Rw), (⟨199, 2, (.slice oP n2 pP), n2, flatWrite ws⟩ : Rw)] ++ kpAll (.slice oK n3 pK) kv)) := ER_6.out.more bw hko (Nat.le_refl _) hb6.size
 have HT1 : Hid (∀ r ∈ ([(⟨9, 1, (.slice oC n1 pC), n1, cs.map Value.string⟩ : Rw), (⟨199, 2, (.slice oP n2 pP), n2, flatWrite ws⟩ : Rw)] ++ kpAll (.slice oK n3 pK) kv), 53 ≠ r.T) := by
  intro r hr
  rcases List.mem_append.1 hr with hr | hr
  · exact HT0.out r hr
  · rcases kpAll_T hr with e | e | e <;> rw [e] <;> decide
 clear hkm hko
 have hb7 := hbt hb6 bw
 have HBv1_7 := hblk HBv1_6 bw
 have HBv2_7 := hblk HBv2_6 bw
 have HBv3_7 := hblk HBv3_6 bw
 have ER_7 : Hid (RowsO (w7) w.heap.size ([(⟨9, 1, (.slice oC n1 pC), n1, cs.map Value.string⟩ : Rw), (⟨199, 2, (.slice oP n2 pP), n2, flatWrite ws⟩ : Rw)])) := ER_6.out.below bw
 clear hb6 HBv1_6 HBv2_6 HBv3_6 ER_6 bw
 clear ER_7
 have ER_7 : Hid (RowsO (w7) w.heap.size ([(⟨9, 1, (.slice oC n1 pC), n1, cs.map Value.string⟩ : Rw), (⟨199, 2, (.slice oP n2 pP), n2, flatWrite ws⟩ : Rw)] ++ kpAll (.slice oK n3 pK) kv)) := HRN1.out
 clear HRN1
 clear cv1_2
 have cv3_2 := (k6c HBv3_7).2.2.1
 have fcv3_2 := hfz HBv3_7 2
 go_upto_region 4 with fail
 obtain ⟨w8, hW8⟩ := exq ((w7).setCell ⟨qv3, 2, none⟩ (.slice oK n3 pK))
 rw [← hW8]
 have hb8 := hbS hW8 hb7 HGv3
 have HBv1_8 := hset hW8 HNv1v3.out HBv1_7
 have HBv2_8 := hset hW8 HNv2v3.out HBv2_7
 have ER_8 := erS hW8 ER_7 HBv3_7 HT1.out
 have HBv3_8 : Hid ((w8).heap[qv3]? = some (.cells #[.slice oC n1 pC, .slice oP n2 pP, .slice oK n3 pK, .slice none 0 0, .int .i64 0, .int .i64 0] 53)) := by show _ = _; rw [hW8]; have h := heap_set _ _ 2 _ _ _ (.slice oK n3 pK) HBv3_7.out; simpa using h
 clear hb7 HBv1_7 HBv2_7 HBv3_7 ER_7 hW8
 clear cv3_2 fcv3_2
 have cv1_3 := (k6c HBv1_8).2.2.2.1
 go_wp2_with fail
 refine (toBanS_any B a4 n4 c4 bl _ (HA4.out _ hb8) (HBB.out _ hb8) HN.out.2.2.2).mono ?_
 rintro e w9 ⟨vb, rfl, hbo, bw⟩
 obtain ⟨oB, pB, rfl⟩ := slice_of_owns hbo
 have HRN2 : Hid (RowsO w9 w.heap.size (([(⟨9, 1, (.slice oC n1 pC), n1, cs.map Value.string⟩ : Rw), (⟨199, 2, (.slice oP n2 pP), n2, flatWrite ws⟩ : Rw)] ++ kpAll (.slice oK n3 pK) kv) ++ [(⟨152, 4, (.slice oB n4 pB), n4, flatBan bl⟩ : Rw)])) := ER_8.out.more bw (RowsO.one (r := (⟨152, 4, (.slice oB n4 pB), n4, flatBan bl⟩ : Rw)) hbo) (Nat.le_refl _) hb8.size
 have HT2 : Hid (∀ r ∈ (([(⟨9, 1, (.slice oC n1 pC), n1, cs.map Value.string⟩ : Rw), (⟨199, 2, (.slice oP n2 pP), n2, flatWrite ws⟩ : Rw)] ++ kpAll (.slice oK n3 pK) kv) ++ [(⟨152, 4, (.slice oB n4 pB), n4, flatBan bl⟩ : Rw)]), 53 ≠ r.T) := by
  intro r hr
  rcases List.mem_append.1 hr with hr | hr
  · exact HT1.out r hr
  ·
   rw [List.mem_singleton.1 hr]
   exact (by decide : (53 : TypeId) ≠ 152)
 clear hbo
 have hb9 := hbt hb8 bw
 have HBv1_9 := hblk HBv1_8 bw
 have HBv2_9 := hblk HBv2_8 bw
 have HBv3_9 := hblk HBv3_8 bw
 have ER_9 : Hid (RowsO (w9) w.heap.size ([(⟨9, 1, (.slice oC n1 pC), n1, cs.map Value.string⟩ : Rw), (⟨199, 2, (.slice oP n2 pP), n2, flatWrite ws⟩ : Rw)] ++ kpAll (.slice oK n3 pK) kv)) := ER_8.out.below bw
 clear hb8 HBv1_8 HBv2_8 HBv3_8 ER_8 bw
 clear ER_9
 have ER_9 : Hid (RowsO (w9) w.heap.size (([(⟨9, 1, (.slice oC n1 pC), n1, cs.map Value.string⟩ : Rw), (⟨199, 2, (.slice oP n2 pP), n2, flatWrite ws⟩ : Rw)] ++ kpAll (.slice oK n3 pK) kv) ++ [(⟨152, 4, (.slice oB n4 pB), n4, flatBan bl⟩ : Rw)])) := HRN2.out
 clear HRN2
 clear cv1_3
 have cv3_3 := (k6c HBv3_9).2.2.2.1
 have fcv3_3 := hfz HBv3_9 3
 go_upto_region 5 with fail
 obtain ⟨w10, hW10⟩ := exq ((w9).setCell ⟨qv3, 3, none⟩ (.slice oB n4 pB))
 rw [← hW10]
 have hb10 := hbS hW10 hb9 HGv3
 have HBv1_10 := hset hW10 HNv1v3.out HBv1_9
 have HBv2_10 := hset hW10 HNv2v3.out HBv2_9
 have ER_10 := erS hW10 ER_9 HBv3_9 HT2.out
 have HBv3_10 : Hid ((w10).heap[qv3]? = some (.cells #[.slice oC n1 pC, .slice oP n2 pP, .slice oK n3 pK, .slice oB n4 pB, .int .i64 0, .int .i64 0] 53)) := by show _ = _; rw [hW10]; have h := heap_set _ _ 3 _ _ _ (.slice oB n4 pB) HBv3_9.out; simpa using h
 clear hb9 HBv1_9 HBv2_9 HBv3_9 ER_9 hW10
 clear cv3_3 fcv3_3
 have cv1_4 := (k6c HBv1_10).2.2.2.2.1
 have cv3_4 := (k6c HBv3_10).2.2.2.2.1
 have fcv3_4 := hfz HBv3_10 4
 go_upto_region 6 with fail
 obtain ⟨w11, hW11⟩ := exq ((w10).setCell ⟨qv3, 4, none⟩ (.int .i64 nx))
 rw [← hW11]
 have hb11 := hbS hW11 hb10 HGv3
 have HBv1_11 := hset hW11 HNv1v3.out HBv1_10
 have HBv2_11 := hset hW11 HNv2v3.out HBv2_10
 have ER_11 := erS hW11 ER_10 HBv3_10 HT2.out
 have HBv3_11 : Hid ((w11).heap[qv3]? = some (.cells #[.slice oC n1 pC, .slice oP n2 pP, .slice oK n3 pK, .slice oB n4 pB, .int .i64 nx, .int .i64 0] 53)) := by show _ = _; rw [hW11]; have h := heap_set _ _ 4 _ _ _ (.int .i64 nx) HBv3_10.out; simpa using h
 clear hb10 HBv1_10 HBv2_10 HBv3_10 ER_10 hW11
 clear cv1_4 cv3_4 fcv3_4
 have cv1_5 := (k6c HBv1_11).2.2.2.2.2
 have cv3_5 := (k6c HBv3_11).2.2.2.2.2
 have fcv3_5 := hfz HBv3_11 5
 go_upto_region 7 with fail
 obtain ⟨w12, hW12⟩ := exq ((w11).setCell ⟨qv3, 5, none⟩ (.int .i64 sq))
 rw [← hW12]
 have hb12 := hbS hW12 hb11 HGv3
 have HBv1_12 := hset hW12 HNv1v3.out HBv1_11
 have HBv2_12 := hset hW12 HNv2v3.out HBv2_11
 have ER_12 := erS hW12 ER_11 HBv3_11 HT2.out
 have HBv3_12 : Hid ((w12).heap[qv3]? = some (.cells #[.slice oC n1 pC, .slice oP n2 pP, .slice oK n3 pK, .slice oB n4 pB, .int .i64 nx, .int .i64 sq] 53)) := by show _ = _; rw [hW12]; have h := heap_set _ _ 5 _ _ _ (.int .i64 sq) HBv3_11.out; simpa using h
 clear hb11 HBv1_11 HBv2_11 HBv3_11 ER_11 hW12
 clear cv1_5 cv3_5 fcv3_5
 have cv2_0 := (k6c HBv2_12).1
 have fcv2_0 := hfz HBv2_12 0
 have cv2_1 := (k6c HBv2_12).2.1
 have fcv2_1 := hfz HBv2_12 1
 have cv2_2 := (k6c HBv2_12).2.2.1
 have fcv2_2 := hfz HBv2_12 2
 have cv2_3 := (k6c HBv2_12).2.2.2.1
 have fcv2_3 := hfz HBv2_12 3
 have cv2_4 := (k6c HBv2_12).2.2.2.2.1
 have fcv2_4 := hfz HBv2_12 4
 have cv2_5 := (k6c HBv2_12).2.2.2.2.2
 have fcv2_5 := hfz HBv2_12 5
 have cv3_0 := (k6c HBv3_12).1
 have cv3_1 := (k6c HBv3_12).2.1
 have cv3_2 := (k6c HBv3_12).2.2.1
 have cv3_3 := (k6c HBv3_12).2.2.2.1
 have cv3_4 := (k6c HBv3_12).2.2.2.2.1
 have cv3_5 := (k6c HBv3_12).2.2.2.2.2
 go_wp2_with fail
 obtain ⟨w13, hW13⟩ := exq ((w12).setCell ⟨qv2, 0, none⟩ (.slice oC n1 pC))
 rw [← hW13]
 have hb13 := hbS hW13 hb12 HGv2
 have HBv1_13 := hset hW13 HNv1v2.out HBv1_12
 have HBv3_13 := hset hW13 HNv2v3.out.symm HBv3_12
 have ER_13 := erS hW13 ER_12 HBv2_12 HT2.out
 have HBv2_13 : Hid ((w13).heap[qv2]? = some (.cells #[.slice oC n1 pC, .slice none 0 0, .slice none 0 0, .slice none 0 0, .int .i64 0, .int .i64 0] 53)) := by show _ = _; rw [hW13]; have h := heap_set _ _ 0 _ _ _ (.slice oC n1 pC) HBv2_12.out; simpa using h
 clear hb12 HBv1_12 HBv2_12 HBv3_12 ER_12 hW13
 obtain ⟨w14, hW14⟩ := exq ((w13).setCell ⟨qv2, 1, none⟩ (.slice oP n2 pP))
 rw [← hW14]
 have hb14 := hbS hW14 hb13 HGv2
 have HBv1_14 := hset hW14 HNv1v2.out HBv1_13
 have HBv3_14 := hset hW14 HNv2v3.out.symm HBv3_13
 have ER_14 := erS hW14 ER_13 HBv2_13 HT2.out
 have HBv2_14 : Hid ((w14).heap[qv2]? = some (.cells #[.slice oC n1 pC, .slice oP n2 pP, .slice none 0 0, .slice none 0 0, .int .i64 0, .int .i64 0] 53)) := by show _ = _; rw [hW14]; have h := heap_set _ _ 1 _ _ _ (.slice oP n2 pP) HBv2_13.out; simpa using h
 clear hb13 HBv1_13 HBv2_13 HBv3_13 ER_13 hW14
 obtain ⟨w15, hW15⟩ := exq ((w14).setCell ⟨qv2, 2, none⟩ (.slice oK n3 pK))
 rw [← hW15]
 have hb15 := hbS hW15 hb14 HGv2
 have HBv1_15 := hset hW15 HNv1v2.out HBv1_14
 have HBv3_15 := hset hW15 HNv2v3.out.symm HBv3_14
 have ER_15 := erS hW15 ER_14 HBv2_14 HT2.out
 have HBv2_15 : Hid ((w15).heap[qv2]? = some (.cells #[.slice oC n1 pC, .slice oP n2 pP, .slice oK n3 pK, .slice none 0 0, .int .i64 0, .int .i64 0] 53)) := by show _ = _; rw [hW15]; have h := heap_set _ _ 2 _ _ _ (.slice oK n3 pK) HBv2_14.out; simpa using h
 clear hb14 HBv1_14 HBv2_14 HBv3_14 ER_14 hW15
 obtain ⟨w16, hW16⟩ := exq ((w15).setCell ⟨qv2, 3, none⟩ (.slice oB n4 pB))
 rw [← hW16]
 have hb16 := hbS hW16 hb15 HGv2
 have HBv1_16 := hset hW16 HNv1v2.out HBv1_15
 have HBv3_16 := hset hW16 HNv2v3.out.symm HBv3_15
 have ER_16 := erS hW16 ER_15 HBv2_15 HT2.out
 have HBv2_16 : Hid ((w16).heap[qv2]? = some (.cells #[.slice oC n1 pC, .slice oP n2 pP, .slice oK n3 pK, .slice oB n4 pB, .int .i64 0, .int .i64 0] 53)) := by show _ = _; rw [hW16]; have h := heap_set _ _ 3 _ _ _ (.slice oB n4 pB) HBv2_15.out; simpa using h
 clear hb15 HBv1_15 HBv2_15 HBv3_15 ER_15 hW16
 obtain ⟨w17, hW17⟩ := exq ((w16).setCell ⟨qv2, 4, none⟩ (.int .i64 nx))
 rw [← hW17]
 have hb17 := hbS hW17 hb16 HGv2
 have HBv1_17 := hset hW17 HNv1v2.out HBv1_16
 have HBv3_17 := hset hW17 HNv2v3.out.symm HBv3_16
 have ER_17 := erS hW17 ER_16 HBv2_16 HT2.out
 have HBv2_17 : Hid ((w17).heap[qv2]? = some (.cells #[.slice oC n1 pC, .slice oP n2 pP, .slice oK n3 pK, .slice oB n4 pB, .int .i64 nx, .int .i64 0] 53)) := by show _ = _; rw [hW17]; have h := heap_set _ _ 4 _ _ _ (.int .i64 nx) HBv2_16.out; simpa using h
 clear hb16 HBv1_16 HBv2_16 HBv3_16 ER_16 hW17
 obtain ⟨w18, hW18⟩ := exq ((w17).setCell ⟨qv2, 5, none⟩ (.int .i64 sq))
 rw [← hW18]
 have hb18 := hbS hW18 hb17 HGv2
 have HBv1_18 := hset hW18 HNv1v2.out HBv1_17
 have HBv3_18 := hset hW18 HNv2v3.out.symm HBv3_17
 have ER_18 := erS hW18 ER_17 HBv2_17 HT2.out
 have HBv2_18 : Hid ((w18).heap[qv2]? = some (.cells #[.slice oC n1 pC, .slice oP n2 pP, .slice oK n3 pK, .slice oB n4 pB, .int .i64 nx, .int .i64 sq] 53)) := by show _ = _; rw [hW18]; have h := heap_set _ _ 5 _ _ _ (.int .i64 sq) HBv2_17.out; simpa using h
 clear hb17 HBv1_17 HBv2_17 HBv3_17 ER_17 hW18
 have kv2_0 := (k6c HBv2_18).1
 have kv2_1 := (k6c HBv2_18).2.1
 have kv2_2 := (k6c HBv2_18).2.2.1
 have kv2_3 := (k6c HBv2_18).2.2.2.1
 have kv2_4 := (k6c HBv2_18).2.2.2.2.1
 have kv2_5 := (k6c HBv2_18).2.2.2.2.2
 refine bodyPost_ret (v := .agg #[.slice oC n1 pC, .slice oP n2 pP, .slice oK n3 pK, .slice oB n4 pB, .int .i64 nx, .int .i64 sq]) (by simp [results, Tryz.results26, go_sem, kv2_0, kv2_1, kv2_2, kv2_3, kv2_4, kv2_5]) rfl ?_
 refine ⟨.slice oC n1 pC, .slice oP n2 pP, .slice oK n3 pK, .slice oB n4 pB, kv, rfl, ⟨?_, HKM.out⟩, hb18⟩
 have h := ER_18.out
 unfold shAll
 rw [HL.out.1, HL.out.2.1, HL.out.2.2.2]
 exact h
end Go.Proofs.YtbmhonfgffjpcaaGreat
