/- What the proof of FnExactMount leans on: contracts of the program's and the specification's functions, and plain facts (part 3 of 12). -/
import Derived.Test.YtiobfnpmidjijaaGreatDoorFnExactMountB
set_option maxHeartbeats 16000000
set_option maxRecDepth 100000
namespace Go.Proofs.YtiobfnpmidjijaaGreatDoor
open Go.Proofs.Tryz
open Go.RowKit
open Go.Lib hiding intOf
def aC6 (l : List (Int × ByteArray)) (i : Nat) : (Int × ByteArray) := l.getD i (0, ⟨#[]⟩)
def aQ0 (x : (Int × ByteArray)) : List Value := [.int .i64 x.1, .string x.2]
def aA4 (l : List (Int × ByteArray)) : List Value := l.flatMap aQ0
theorem aO5 (l : List (Int × ByteArray)) : (aA4 l).length = l.length * 2 := by
 induction l with
 | nil => rfl
 | cons f r ih => simp only [aA4, aQ0, List.flatMap_cons, List.length_append, List.length_cons, List.length_nil] at ih ⊢; omega
theorem aO6 : ∀ (l : List (Int × ByteArray)) (i : Nat), i < l.length → (aA4 l)[i * 2]? = some (.int .i64 ((aC6 l i).1)) ∧ (aA4 l)[i * 2 + 1]? = some (.string ((aC6 l i).2))
 | [], i, h => by simp at h
 | f :: r, 0, _ => by simp [aA4, aQ0, aC6]
 | f :: r, i + 1, h => by
  have ih := aO6 r i (by simpa using h)
  have e : aA4 (f :: r) = aQ0 f ++ aA4 r := rfl
  have hl : (aQ0 f).length = 2 := rfl
  have h2 : aC6 (f :: r) (i + 1) = aC6 r i := by simp [aC6]
  have key : ∀ j, (aA4 (f :: r))[i * 2 + 2 + j]? = (aA4 r)[i * 2 + j]? := fun j => by
   rw [e, List.getElem?_append_right (by rw [hl]; omega), hl]; congr 1; omega
  rw [h2]
  refine ⟨(by rw [show (i + 1) * 2 = i * 2 + 2 + 0 by omega, key]; exact ih.1), (by rw [show (i + 1) * 2 + 1 = i * 2 + 2 + 1 by omega, key]; exact ih.2)⟩
theorem aJ1 (l : List (Int × ByteArray)) (i : Nat) (h : i < l.length) : aC6 l i ∈ l := by
 unfold aC6;rw [List.getD_eq_getElem?_getD, List.getElem?_eq_getElem h];exact List.getElem_mem h
theorem aU3 (l : List (Int × ByteArray)) (i : Nat) (h : i < l.length) : l.take (i + 1) = l.take i ++ [aC6 l i] := by
 unfold aC6;rw [List.getD_eq_getElem?_getD, List.getElem?_eq_getElem h, List.take_succ_eq_append_getElem h];rfl
theorem aU8 (l : List (Int × ByteArray)) : ∀ u ∈ aA4 l, u.oneCell' = true := by
 intro u hu;obtain ⟨x, _, hx⟩ := List.mem_flatMap.1 hu;simp only [aQ0, List.mem_cons, List.not_mem_nil, or_false] at hx
 rcases hx with rfl | rfl <;> rfl
def aV6 (w : World) (oa : Oa) (n : Nat) (l : List (Int × ByteArray)) : Prop :=
 l.length = n ∧ ∀ i, i < n → ∃ g, oa = some ⟨g, 0, none⟩ ∧ g < w.heap.size ∧ w.cell? ⟨g, i * 2, none⟩ = some (.int .i64 ((aC6 l i).1)) ∧ w.cell? ⟨g, i * 2 + 1, none⟩ = some (.string ((aC6 l i).2))
theorem aV6.below {w W : World} {oa : Oa} {n : Nat} {l : List (Int × ByteArray)} (h : aV6 w oa n l) (hb : Below w.heap.size w W) : aV6 W oa n l :=
 ⟨h.1, fun i hi => by
  obtain ⟨g, h1, h2, r0, r1⟩ := h.2 i hi
  exact ⟨g, h1, Nat.lt_of_lt_of_le h2 hb.size, by rw [hb.cell (p := ⟨g, i * 2, none⟩) h2]; exact r0, by rw [hb.cell (p := ⟨g, i * 2 + 1, none⟩) h2]; exact r1⟩⟩
def aJ2 (w : World) (B : Nat) (a : Oa) (n : Nat) (l : List (Int × ByteArray)) : Prop :=
 l.length = n ∧ ∀ i, i < n → ∃ b off, a = some ⟨b, off, none⟩ ∧ b < B ∧ w.cell? ⟨b, off + i * 2, none⟩ = some (.int .i64 ((aC6 l i).1)) ∧ w.cell? ⟨b, off + i * 2 + 1, none⟩ = some (.string ((aC6 l i).2))
theorem aJ2.below {w w' : World} {B : Nat} {a : Oa} {n : Nat} {l : List (Int × ByteArray)} (h : aJ2 w B a n l) (hb : Below B w w') : aJ2 w' B a n l :=
 ⟨h.1, fun i hi => by
  obtain ⟨b, off, h1, h2, r0, r1⟩ := h.2 i hi
  exact ⟨b, off, h1, h2, by rw [hb.cell (p := ⟨b, off + i * 2, none⟩) h2]; exact r0, by rw [hb.cell (p := ⟨b, off + i * 2 + 1, none⟩) h2]; exact r1⟩⟩
def aE9 (w : World) (g n k : Nat) (l : List (Int × ByteArray)) : Prop :=
 ∃ cur, w.heap[g]? = some (.cells cur 128 (0, 0)) ∧ cur.size = n * 2 ∧ ∀ i, i < k → cur[i * 2]? = some (.int .i64 ((aC6 l i).1)) ∧ cur[i * 2 + 1]? = some (.string ((aC6 l i).2))
theorem aE9.below {w w' : World} {g n k B : Nat} {l : List (Int × ByteArray)} (h : aE9 w g n k l) (hb : Below B w w') (hB : g < B) : aE9 w' g n k l := by
 obtain ⟨a0, h1, h2⟩ := h;exact ⟨a0, by rw [hb.block g hB]; exact h1, h2⟩
theorem aE9.lt {w : World} {g n k : Nat} {l : List (Int × ByteArray)} (h : aE9 w g n k l) : g < w.heap.size := by
 obtain ⟨a0, h1, _⟩ := h;exact (blt h1)
theorem aE9.cell {w : World} {g n k : Nat} {l : List (Int × ByteArray)} (h : aE9 w g n k l) (j : Nat) (hj : j < n * 2) : ∃ u, w.cell? ⟨g, j, none⟩ = some u := by
 obtain ⟨a0, h1, h2, _⟩ := h;refine ⟨a0[j]'(by omega), ?_⟩;simp only [World.cell?, h1]
 simp [show j < a0.size by omega]
theorem aE9.frozen {w : World} {g n k : Nat} {l : List (Int × ByteArray)} (h : aE9 w g n k l) (j : Nat) : w.frozen? ⟨g, j, none⟩ = false := by
 obtain ⟨a0, h1, _⟩ := h;simp [World.frozen?, h1]
theorem aE9.put {w : World} {g n k : Nat} {l : List (Int × ByteArray)} (h : aE9 w g n k l) (hk : k < n) : aE9 ((w.setCell ⟨g, k * 2, none⟩ (.int .i64 (aC6 l k).1)).setCell ⟨g, k * 2 + 1, none⟩ (.string (aC6 l k).2)) g n (k + 1) l := by
 obtain ⟨a0, h1, h2, h3⟩ := h;refine ⟨_, aA3 _ g (k * 2 + 1) _ _ _ _ (aA3 _ g (k * 2) _ _ _ _ h1), by simpa using h2, ?_⟩;intro i hi;by_cases e : i = k
 ·subst e;exact ⟨by rw [Array.getElem?_setIfInBounds_ne (by omega), Array.getElem?_setIfInBounds_self_of_lt (by first | omega | (simp; omega))], by rw [Array.getElem?_setIfInBounds_self_of_lt (by first | omega | (simp; omega))]⟩
 have := h3 i (by omega);exact ⟨by rw [Array.getElem?_setIfInBounds_ne (by omega), Array.getElem?_setIfInBounds_ne (by omega)]; exact this.1, by rw [Array.getElem?_setIfInBounds_ne (by omega), Array.getElem?_setIfInBounds_ne (by omega)]; exact this.2⟩
theorem aE9.owns {w : World} {g n : Nat} {l : List (Int × ByteArray)} (h : aE9 w g n n l) (hl : l.length = n) (hm : n ≤ maxLen) {base : Nat} (hb : base ≤ g) : w.ownsRow base 128 2 (.slice (some ⟨g, 0, none⟩) n n) n (aA4 l) := by
 obtain ⟨a1, hg, hs, hc⟩ := h;refine ⟨by rw [aO5, hl], .inr ⟨g, n, a1, rfl, hb, hg, Nat.le_refl _, hm, hs, ?_⟩⟩;apply List.ext_getElem?
 intro j;rw [List.getElem?_take];by_cases hj : j < n * 2
 rotate_left
 ·rw [if_neg hj, List.getElem?_eq_none (by rw [aO5]; omega)]
 rw [if_pos hj];have hf := aO6 l (j / 2) (by omega);have a0 := hc (j / 2) (by omega);have hr : j = (j / 2) * 2 ∨ j = (j / 2) * 2 + 1 := by omega
 rcases hr with e | e
 ·have e2 := hf.1;have e3 := a0.1;rw [← e] at e2 e3;rw [e2]; simpa using e3
 have e2 := hf.2;have e3 := a0.2;rw [← e] at e2 e3;rw [e2]; simpa using e3
theorem aN6 {w : World} {base n cap : Nat} {oa : Oa} {l : List (Int × ByteArray)} (h : w.ownsRow base 128 2 (.slice oa n cap) n (aA4 l)) : aV6 w oa n l := by
 obtain ⟨hl, hv⟩ := h;rw [aO5] at hl;refine ⟨by omega, fun i hi => ?_⟩
 rcases hv with ⟨e, h0⟩ | ⟨g, cap, a1, e, hb, hg, hn, hm, a2, a0⟩
 ·omega
 cases e
 have hf := aO6 l i (by omega);rw [← a0] at hf;simp only [List.getElem?_take] at hf
 rw [if_pos (by omega), if_pos (by omega)] at hf;refine ⟨g, rfl, (blt hg), by simp only [World.cell?, hg]; simpa using hf.1, by simp only [World.cell?, hg]; simpa using hf.2⟩
theorem aV7 {w : World} {base n : Nat} {v : Value} {l : List (Int × ByteArray)} (h : w.ownsRow base 128 2 v n (aA4 l)) : l.length = n := by
 have := h.1;rw [aO5] at this;omega
theorem bP8 : (prog.info? 128).map (fun i => (i.zero, i.size, i.bytes)) = some (some (.agg #[.int .i64 0, .string ⟨#[]⟩]), 2, 24) := by kernel_rfl
def dI6 (L : Int) (n : Nat) (l : List (Int × ByteArray)) (w : World) (e : Ending) (w' : World) : Prop :=
 ∃ r : Int, e = .returned (.int .i64 r) ∧ r ≤ L ∧ (0 ≤ r → r + (n : Int) ≤ L ∧ n ≤ 1048576 ∧ ∀ x ∈ l, (x.2).size ≤ 1048576) ∧ Below w.heap.size w w'
theorem cC5 (L : Int) (hL0 : 0 ≤ L) (hL1 : L ≤ 1048576) (B : Nat) (a : Oa) (n cap : Nat) (l : List (Int × ByteArray)) (w : World) (harg : aJ2 w B a n l) (hB : B ≤ w.heap.size) (hn : n ≤ maxLen) (hsz : ∀ x ∈ l, (x.2).size ≤ maxLen) :
  Calls prog 133 #[.slice a n cap, .int .i64 L] w fun e w' => dI6 L n l w e w' := by
 unfold maxLen at hn;have HS := hid hsz;have a1 : Hid (l.length = n) := harg.1;have HA : Hid (∀ W, Bw w W → aJ2 W B a n l) := fun W h => harg.below (h.mono hB)
 clear hsz harg;by_cases c1 : L - (n : Int) < 0
 ·go_enter func133, ntmps133;go_wp2
  go_ret;exact ⟨-1, rfl, by omega, fun h => absurd h (by omega), Below.refl _ _⟩
 go_enter func133, ntmps133;go_wp2
 go_loopw [1, 5] (fun lf i wr => ∃ (k : Nat) (x : Int), k ≤ n ∧ i = .int .i64 (k : Int) ∧ lf = .int .i64 x ∧ 0 ≤ x ∧ x + (n : Int) ≤ L ∧ Hid (∀ x ∈ l.take k, (x.2).size ≤ 1048576) ∧ Hid (Bw w wr)) (fun _ i _ => n - (intOf i).toNat)
 case atStart => exact ⟨0, _, Nat.zero_le _, rfl, rfl, by omega, by omega, fun x hx => by simp at hx, Below.refl _ _⟩
 case round =>
  obtain ⟨k, x, hk, rfl, rfl, a4, a8, HX, a0⟩ := hrel;by_cases hlt : k < n
  rotate_left
  ·have HF : Hid (n ≤ 1048576 ∧ ∀ x ∈ l, (x.2).size ≤ 1048576) := ⟨by omega, fun x hx => HX.out x (by rw [List.take_of_length_le (by rw [a1.out]; omega)]; exact hx)⟩
   go_wp2
   go_ret;exact ⟨x, rfl, by omega, fun _ => ⟨by omega, HF.out⟩, a0.out⟩
  have a5 : (k : Int) < (n : Int) := by omega
  obtain ⟨b, a9, rfl, b0, r0, r1⟩ := (HA.out wr a0.out).2 k hlt;obtain ⟨y, hy⟩ := exq (aC6 l k);have HM : Hid (y ∈ l) := by show _ ∈ _; rw [hy]; exact aJ1 l k (by rw [a1.out]; exact hlt)
  have a6 : Hid (l.take (k + 1) = l.take k ++ [y]) := by show _ = _; rw [hy]; exact aU3 l k (by rw [a1.out]; exact hlt)
  have s1 := HS.out y HM.out;rw [← hy] at r0 r1;clear hy;obtain ⟨y0, y1⟩ := y;go_wp2_with fail
  refine (cM5 x a4 (by omega) y0 y1 _ s1).mono ?_;rintro e w1 ⟨r, rfl, b1, a2, bw⟩;have a3 : Hid (Bw w w1) := a0.out.trans (bw.mono a0.out.size);clear r0 r1 bw;by_cases d1 : r < 0
  ·clear a2;go_wp2
   go_ret;exact ⟨-1, rfl, by omega, fun h => absurd h (by omega), a3.out⟩
  have a7 : Hid (∀ x ∈ l.take (k + 1), (x.2).size ≤ 1048576) := fun x hx => by
   rw [a6.out] at hx
   rcases List.mem_append.1 hx with hx | hx
   ·exact HX.out x hx
   ·rw [List.mem_singleton.1 hx]; exact a2 (by omega)
  clear a2;go_wp2
  go_roundw
  case rel => exact ⟨k + 1, r, by omega, by go_num, rfl, by omega, by omega, a7, a3⟩
  case measure => simp [intOf]; omega
theorem cH6 (B : Nat) (a : Oa) (n cap : Nat) (l : List (Int × ByteArray)) (w : World) (harg : aJ2 w B a n l) (hB : B ≤ w.heap.size) (hn : n ≤ 1048576) :
  Calls prog 134 #[.slice a n cap] w fun e w' => ∃ v, e = .returned v ∧ w'.ownsRow w.heap.size 128 2 v n (aA4 l) ∧ Below w.heap.size w w' := by
 obtain ⟨i0, hi, a4, a5, a6⟩ := info_parts bP8;obtain ⟨M, hM⟩ : ∃ M, M = madeCells (Value.agg #[.int .i64 0, .string ⟨#[]⟩]).cells (((n : Nat) : Int).toNat * i0.size) := ⟨_, rfl⟩
 have b1 : ∀ W : World, (Instr.makeSlice 25 (.int .i64 (n : Int)) (.int .i64 (n : Int))).run prog W = .ok (.slice (some ⟨W.heap.size, 0, none⟩) n n) (W.alloc (.cells M 128)) := fun W => by
  have h := run_make (P := prog) W 25 128 i0 (.agg #[.int .i64 0, .string ⟨#[]⟩]) underlying25 hi a4 .i64 .i64 (n : Int) (n : Int) (by omega) (by omega) (by rw [a6]; omega) (by omega)
  rw [← hM] at h
  simpa using h
 have a7 : M.size = n * 2 := by rw [hM, size_madeCells, a5]; simp
 have a8 : Hid (l.length = n) := harg.1;have HA : Hid (∀ W, Bw w W → aJ2 W B a n l) := fun W h => harg.below (h.mono hB)
 clear hM harg;have HP : Hid (aE9 (w.alloc (.cells M 128)) w.heap.size n 0 l) := ⟨M, heap_alloc_new w _, a7, fun i h => absurd h (by omega)⟩
 go_enter func134, ntmps134;go_wp2
 go_loopw [4] (fun i wr => ∃ k : Nat, k ≤ n ∧ i = .int .i64 (k : Int) ∧ Hid (aE9 wr w.heap.size n k l) ∧ Hid (Bw w wr)) (fun i _ => n - (intOf i).toNat)
 case atStart => exact ⟨0, Nat.zero_le _, rfl, HP, (Below.refl _ _).alloc (Nat.le_refl _) _⟩
 case round =>
  obtain ⟨k, hk, rfl, a2, a1⟩ := hrel;by_cases hlt : k < n
  rotate_left
  ·obtain rfl : k = n := by omega
   go_wp2
   go_ret;exact ⟨_, rfl, a2.out.owns a8.out (by unfold maxLen; omega) (Nat.le_refl _), a1.out⟩
  have a9 : (k : Int) < (n : Int) := by omega
  obtain ⟨b, b2, rfl, b3, r0, r1⟩ := (HA.out wr a1.out).2 k hlt;obtain ⟨y, hy⟩ := exq (aC6 l k);rw [← hy] at r0 r1;have HY := hid hy.symm;clear hy;obtain ⟨y0, y1⟩ := y;go_wp2_with fail
  refine (cM4 y0 y1 _).mono ?_;rintro e w1 ⟨rfl, bw⟩;have a0 := a2.out.below bw a2.out.lt;have b0 : Hid (Bw w w1) := a1.out.trans (bw.mono a1.out.size);obtain ⟨u0, b4⟩ := a0.cell (k * 2) (by omega);have f0 := a0.frozen (k * 2);obtain ⟨u1, b5⟩ := a0.cell (k * 2 + 1) (by omega);have f1 := a0.frozen (k * 2 + 1);have hput := a0.put hlt;rw [HY.out] at hput;have a3 : Hid _ := hput;clear hput r0 r1 bw;go_wp2
  go_roundw
  case rel => exact ⟨k + 1, by omega, by go_num, a3, (b0.out.setCell (Nat.le_refl _) _).setCell (Nat.le_refl _) _⟩
  case measure => simp [intOf]; omega
theorem cH7 (o1 o2 : Oa) (n c1 c2 : Nat) (l : List (Int × ByteArray)) (w : World) (h1 : aV6 w o1 n l) (h2 : aV6 w o2 n l) (hn : n ≤ 2000000) :
  Calls prog 135 #[.slice o1 n c1, .slice o2 n c2] w fun e w' => e = .returned (.bool true) ∧ Below w.heap.size w w' := by
 have H1 : Hid (∀ W, Bw w W → aV6 W o1 n l) := fun W h => h1.below h
 have H2 : Hid (∀ W, Bw w W → aV6 W o2 n l) := fun W h => h2.below h
 clear h1 h2;go_enter func135, ntmps135;go_wp2
 go_loopw [5] (fun i wr => ∃ k : Nat, k ≤ n ∧ i = .int .i64 (k : Int) ∧ Hid (Bw w wr)) (fun i _ => n - (intOf i).toNat)
 case atStart => exact ⟨0, Nat.zero_le _, rfl, Below.refl _ _⟩
 case round =>
  obtain ⟨k, hk, rfl, a2⟩ := hrel;by_cases hlt : k < n
  rotate_left
  ·go_wp2
   go_ret;exact ⟨rfl, a2.out⟩
  have a5 : (k : Int) < (n : Int) := by omega
  obtain ⟨y, hy⟩ := exq (aC6 l k);obtain ⟨g1, rfl, a3, a0, a1⟩ := (H1.out wr a2.out).2 k hlt;obtain ⟨g2, rfl, a4, b0, b1⟩ := (H2.out wr a2.out).2 k hlt;rw [← hy] at a0 b0 a1 b1;clear hy;obtain ⟨y0, y1⟩ := y
  have HA : Hid (∀ w0 w1, Below wr.heap.size wr w0 → Below w0.heap.size w0 w1 → (w1.cell? ⟨g1, k * 2, none⟩ = some (.int .i64 y0) ∧ w1.cell? ⟨g1, k * 2 + 1, none⟩ = some (.string y1) ∧ w1.cell? ⟨g2, k * 2, none⟩ = some (.int .i64 y0) ∧ w1.cell? ⟨g2, k * 2 + 1, none⟩ = some (.string y1)) ∧ Below wr.heap.size wr w1) := fun w0 w1 h h' => by
   have hx := h.trans (h'.mono h.size)
   exact ⟨⟨by rw [hx.cell (p := ⟨g1, k * 2, none⟩) a3]; exact a0, by rw [hx.cell (p := ⟨g1, k * 2 + 1, none⟩) a3]; exact a1, by rw [hx.cell (p := ⟨g2, k * 2, none⟩) a4]; exact b0, by rw [hx.cell (p := ⟨g2, k * 2 + 1, none⟩) a4]; exact b1⟩, hx⟩
  go_wp2
  go_region_held3 (fun w' => w'.cell? ⟨g1, k * 2, none⟩ = some (.int .i64 y0) ∧ w'.cell? ⟨g1, k * 2 + 1, none⟩ = some (.string y1) ∧ w'.cell? ⟨g2, k * 2, none⟩ = some (.int .i64 y0) ∧ w'.cell? ⟨g2, k * 2 + 1, none⟩ = some (.string y1)) (first | assumption | go_keep) (first | (go_at_call 231; refine (cM6 _ _ _).mono ?_; rintro e w1 ⟨rfl, a6⟩; obtain ⟨a8, a7⟩ := HA.out _ w1 ((Below.refl _ wr).drew) a6))
  go_wp2
  go_roundw
  case rel => exact ⟨k + 1, by omega, by go_num, a2.out.trans (a7.mono a2.out.size)⟩
  case measure => simp [intOf]; omega
theorem bF0 : ∀ (l : List (Int × ByteArray)) (i : Nat) (x : (Int × ByteArray)), i < l.length → aA4 (l.set i x) = ((aA4 l).set (i * 2) (.int .i64 x.1)).set (i * 2 + 1) (.string x.2)
 | [], i, x, h => by simp at h
 | f :: r, 0, x, _ => rfl
 | f :: r, i + 1, x, h => by
  have ih := bF0 r i x (by simpa using h)
  have e : ∀ (m : List Value) (o : Nat) (u : Value), (aQ0 f ++ m).set (2 + o) u = aQ0 f ++ m.set o u := fun m o u => by rw [Nat.add_comm]; rfl
  have e0 : aA4 (f :: r) = aQ0 f ++ aA4 r := rfl
  have e1 : aA4 ((f :: r).set (i + 1) x) = aQ0 f ++ aA4 (r.set i x) := rfl
  rw [e1, ih, e0, show (i + 1) * 2 = 2 + i * 2 by omega, show 2 + i * 2 + 1 = 2 + (i * 2 + 1) by omega, e, e]
theorem cM7 (l : List (Int × ByteArray)) (k j : Nat) (x : (Int × ByteArray)) (hk : k < l.length) : aC6 (l.set k x) j = if j = k then x else aC6 l j := by
 unfold aC6;rw [List.getD_eq_getElem?_getD, List.getElem?_set, List.getD_eq_getElem?_getD];by_cases h : j = k
 ·subst h; simp [hk]
 rw [if_neg h, if_neg (fun e => h e.symm)]
def aE7 (k0 : Nat) (l : List (Int × ByteArray)) : Nat → List (Int × ByteArray)
 | 0 => l
 | k + 1 => (aE7 k0 l k).set k (((k0 + 2 * k + 0 : Nat) : Int), (aB1 (k0 + 2 * k + 1)))
theorem aT0 (k0 : Nat) (l : List (Int × ByteArray)) : ∀ k, (aE7 k0 l k).length = l.length
 | 0 => rfl
 | k + 1 => by rw [aE7, List.length_set, aT0 k0 l k]
theorem cV3 (k0 : Nat) (l : List (Int × ByteArray)) (j : Nat) : ∀ k, k ≤ l.length → j < k → aC6 (aE7 k0 l k) j = (((k0 + 2 * j + 0 : Nat) : Int), (aB1 (k0 + 2 * j + 1))) := by
 intro k;induction k with
 | zero => intro _ h; omega
 | succ k ih =>
  intro hk h
  rw [aE7, cM7 _ _ _ _ (by rw [aT0]; omega)]
  by_cases e : j = k
  ·subst e; rw [if_pos rfl]
  rw [if_neg e]; exact ih (by omega) (by omega)
theorem bU6 (oa : Oa) (n cap base : Nat) (l : List (Int × ByteArray)) (w : World) (h1 : w.ownsRow base 128 2 (.slice oa n cap) n (aA4 l)) (hb : base ≤ w.heap.size) (k0 : Nat) (hk0 : 1 ≤ k0) (hn : k0 + 2 * n ≤ 99999999) :
  Calls prog 136 #[.slice oa n cap, .int .i64 (k0 : Int)] w fun e w' => e = .returned (.int .i64 ((k0 : Int) + 2 * (n : Int))) ∧ w'.ownsRow base 128 2 (.slice oa n cap) n (aA4 (aE7 k0 l n)) ∧ Below base w w' ∧ Far (.slice oa n cap) w w' := by
 have a4 : Hid (l.length = n) := aV7 h1;have H1 := hid h1;clear h1;go_enter func136, ntmps136;go_wp2
 go_loopw [1, 5] (fun q i wr => ∃ k : Nat, k ≤ n ∧ i = .int .i64 (k : Int) ∧ q = .int .i64 ((k0 : Int) + 2 * (k : Int)) ∧ Hid (Below base w wr) ∧ Hid (wr.ownsRow base 128 2 (.slice oa n cap) n (aA4 (aE7 k0 l k))) ∧ Hid (∀ j, j < w.heap.size → (Value.slice oa n cap).ownBlock ≠ some j → wr.heap[j]? = w.heap[j]?)) (fun _ i _ => n - (intOf i).toNat)
 case atStart => exact ⟨0, Nat.zero_le _, rfl, by simp, Below.refl _ _, H1, fun j _ _ => rfl⟩
 case round =>
  obtain ⟨k, hk, rfl, rfl, HB, HO, HF⟩ := hrel;by_cases hlt : k < n
  rotate_left
  ·obtain rfl : k = n := by omega
   go_wp2
   go_ret;exact ⟨rfl, HO.out, HB.out, HF.out⟩
  have a9 : (k : Int) < (n : Int) := by omega
  obtain ⟨g, rfl⟩ := aM6 H1.out (by omega);have HG : Hid (base ≤ g) := aC8 H1.out rfl;have q0 := (aO6 (aE7 k0 l k) k (by rw [aT0, a4.out]; exact hlt)).1;have b0 : Hid _ := q0;clear q0;have q1 := (aO6 (aE7 k0 l k) k (by rw [aT0, a4.out]; exact hlt)).2;have b1 : Hid _ := q1;clear q1;obtain ⟨c0, f0⟩ := bD5 HO.out (k * 2) _ (by exact b0.out);have a1 : (k0 : Int) + 2 * (k : Int) = ((k0 + 2 * k + 0 : Nat) : Int) := by omega
  rw [a1];clear a1;have b2 : Hid (((wr.setCell ⟨g, k * 2, none⟩ (.int .i64 ((k0 + 2 * k + 0 : Nat) : Int)))).ownsRow base 128 2 (.slice (some ⟨g, 0, none⟩) n cap) n ((aA4 (aE7 k0 l k)).set (k * 2) (.int .i64 ((k0 + 2 * k + 0 : Nat) : Int)))) := bB0 HO.out _ _;have a5 : Hid (Below base w (wr.setCell ⟨g, k * 2, none⟩ (.int .i64 ((k0 + 2 * k + 0 : Nat) : Int)))) := HB.out.setCell (p := ⟨g, k * 2, none⟩) HG.out _;have b3 : Hid (∀ j, j < w.heap.size → (Value.slice (some ⟨g, 0, none⟩) n cap).ownBlock ≠ some j → ((wr.setCell ⟨g, k * 2, none⟩ (.int .i64 ((k0 + 2 * k + 0 : Nat) : Int)))).heap[j]? = w.heap[j]?) := fun j hj a0 => (heap_setCell_other _ _ j _ (fun e => a0 (by rw [e]; rfl))).trans (HF.out j hj a0)
  go_wp2_with fail
  refine (aF4 _ (k0 + 2 * k + 1) _ (by omega) (by omega) (by omega)).mono ?_;rintro e u1 ⟨rfl, a3⟩;have a2 := hown b2 a3;have a6 : Hid (Below base w u1) := a5.out.trans (a3.mono (Nat.le_trans hb a5.out.size));have a7 : Hid (∀ j, j < w.heap.size → (Value.slice (some ⟨g, 0, none⟩) n cap).ownBlock ≠ some j → (u1).heap[j]? = w.heap[j]?) := fun j hj a0 => (a3.block j (Nat.lt_of_lt_of_le hj a5.out.size)).trans (b3.out j hj a0)
  clear a3 c0 f0;obtain ⟨c1, f1⟩ := bD5 a2.out (k * 2 + 1) _ (by rw [List.getElem?_set_ne (by omega)]; exact b1.out);have b4 : Hid ((((u1).setCell ⟨g, k * 2 + 1, none⟩ (.string (aB1 (k0 + 2 * k + 1))))).ownsRow base 128 2 (.slice (some ⟨g, 0, none⟩) n cap) n (((aA4 (aE7 k0 l k)).set (k * 2) (.int .i64 ((k0 + 2 * k + 0 : Nat) : Int))).set (k * 2 + 1) (.string (aB1 (k0 + 2 * k + 1))))) := bB0 a2.out _ _;have b5 : Hid (Below base w ((u1).setCell ⟨g, k * 2 + 1, none⟩ (.string (aB1 (k0 + 2 * k + 1))))) := a6.out.setCell (p := ⟨g, k * 2 + 1, none⟩) HG.out _;have b6 : Hid (∀ j, j < w.heap.size → (Value.slice (some ⟨g, 0, none⟩) n cap).ownBlock ≠ some j → (((u1).setCell ⟨g, k * 2 + 1, none⟩ (.string (aB1 (k0 + 2 * k + 1))))).heap[j]? = w.heap[j]?) := fun j hj a0 => (heap_setCell_other _ _ j _ (fun e => a0 (by rw [e]; rfl))).trans (a7.out j hj a0)
  have a8 : Hid (aA4 (aE7 k0 l (k + 1)) = ((aA4 (aE7 k0 l k)).set (k * 2) (.int .i64 ((k0 + 2 * k + 0 : Nat) : Int))).set (k * 2 + 1) (.string (aB1 (k0 + 2 * k + 1)))) := by
   show _ = _
   rw [aE7, bF0 _ _ _ (by rw [aT0, a4.out]; exact hlt)]
  go_wp2
  go_roundw
  case rel => exact ⟨k + 1, by omega, by go_num, by first | go_num | (congr 1; omega), b5.out, by show World.ownsRow _ _ _ _ _ _ _; rw [a8.out]; exact b4.out, b6.out⟩
  case measure => simp [intOf]; omega
theorem bU7 (oa : Oa) (n cap base : Nat) (l : List (Int × ByteArray)) (w : World) (h1 : w.ownsRow base 128 2 (.slice oa n cap) n (aA4 l)) (k0 : Nat) (hk0 : 1 ≤ k0) (hn : k0 + 2 * n ≤ 99999999) (hm : ∀ j, j < n → (aC6 l j).1 = ((k0 + 2 * j + 0 : Nat) : Int) ∧ (aC6 l j).2 = (aB1 (k0 + 2 * j + 1))) :
  Calls prog 227 #[.slice oa n cap, .int .i64 (k0 : Int)] w fun e w' => e = .returned (.int .i64 ((k0 : Int) + 2 * (n : Int))) ∧ Below w.heap.size w w' := by
 have H1 : Hid (∀ W, Bw w W → W.ownsRow base 128 2 (.slice oa n cap) n (aA4 l)) := fun W h => aA8 h1 h (fun g hg => aB0 h1 hg)
 have HM := hid hm;clear h1 hm;go_enter func227, ntmps227;go_wp2
 go_loopw [1, 5] (fun q i wr => ∃ k : Nat, k ≤ n ∧ i = .int .i64 (k : Int) ∧ q = .int .i64 ((k0 : Int) + 2 * (k : Int)) ∧ Hid (Bw w wr)) (fun _ i _ => n - (intOf i).toNat)
 case atStart => exact ⟨0, Nat.zero_le _, rfl, by simp, Below.refl _ _⟩
 case round =>
  obtain ⟨k, hk, rfl, rfl, HB⟩ := hrel;by_cases hlt : k < n
  rotate_left
  ·obtain rfl : k = n := by omega
   go_wp2
   go_ret;exact ⟨rfl, HB.out⟩
  have a4 : (k : Int) < (n : Int) := by omega
  obtain ⟨g, rfl⟩ := aM6 (H1.out w (Below.refl _ _)) (by omega)
  have HA : Hid (∀ w0 w1, Bw w w0 → Below w0.heap.size w0 w1 → (w1.cell? ⟨g, k * 2, none⟩ = some (.int .i64 ((k0 + 2 * k + 0 : Nat) : Int)) ∧ w1.cell? ⟨g, k * 2 + 1, none⟩ = some (.string (aB1 (k0 + 2 * k + 1)))) ∧ Bw w w1) := fun w0 w1 h h' => by
   have hx := h.trans (h'.mono h.size)
   obtain ⟨g', e, _, a0, a1⟩ := (aN6 (H1.out w1 hx)).2 k hlt
   cases e
   obtain ⟨m0, m1⟩ := HM.out k hlt
   rw [m0] at a0
   rw [m1] at a1
   exact ⟨⟨a0, a1⟩, hx⟩
  obtain ⟨⟨e0, e1⟩, _⟩ := HA.out wr wr HB.out (Below.refl _ _);have a5 : ((((k0 + 2 * k + 0 : Nat) : Int)) != ((k0 : Int) + 2 * (k : Int))) = false := by first | (simp; done) | (simp; omega)
  go_wp2
  go_region_held3 (fun w' => w'.cell? ⟨g, k * 2 + 1, none⟩ = some (.string (aB1 (k0 + 2 * k + 1)))) (first | assumption | go_keep) (first | (go_at_call 224; refine (aF4 _ (k0 + 2 * k + 1) _ (by omega) (by omega) (by omega)).mono ?_; rintro e u1 ⟨rfl, a6⟩; obtain ⟨⟨e0, e1⟩, a2⟩ := HA.out _ u1 (HB.out).drew a6))
  have a3 := hid a2;clear a2;go_wp2
  go_roundw
  case rel => exact ⟨k + 1, by omega, by go_num, by first | go_num | (congr 1; omega), a3⟩
  case measure => simp [intOf]; omega
theorem cV4 {H : Type} {enc : TypeId × Value → H} {W : World} {fuel : Nat} {a : Oa} {n cap : Nat} {x : DataW H × List MemPlace} (h : DataW.trod enc prog W 0 (fun _ => true) true fuel 65 [.slice a n cap] = some x) :
  ∃ l, aJ2 W W.heap.size a n l ∧ n ≤ maxLen ∧ ∀ x ∈ l, (x.2).size ≤ maxLen := by
 rcases Go.Deep.open_slice underlying65 h with ⟨a1, _⟩ | ⟨ad, b1, c, m, q, Dd, Pl, a1, _, hl, hm, a5, _, hx⟩
 ·simp at a1
  obtain ⟨rfl, rfl, rfl⟩ := a1;exact ⟨[], ⟨rfl, fun i hi => absurd hi (by omega)⟩, Nat.zero_le _, fun x hx => by simp at hx⟩
 simp at a1
 obtain ⟨rfl, rfl, rfl⟩ := a1;have b2 : m = cap := by simpa using a5
 have ce : prog.cellsOf 264 = 2 := by kernel_rfl
 have ci : prog.cellsOf 3 = 1 := by kernel_rfl
 have cs : prog.cellsOf 9 = 1 := by kernel_rfl
 have a2 : ∀ i, i < n → ∃ y : (Int × ByteArray), (W.cell? (ad.add (i * 2 + 0)) = some (.int .i64 (y.1)) ∧ W.cell? (ad.add (i * 2 + 1)) = some (.string (y.2))) ∧ (y.2).size ≤ maxLen := by
  intro i hi
  obtain ⟨a6, h1, h2⟩ := hx i (by omega)
  rw [ce] at h1
  obtain ⟨_, a3, a0⟩ := World.cells?_some h1
  obtain ⟨xs, k, hk, b3, _, a7, hf⟩ := DataW.trod_struct underlying264 h2
  match xs, a7, a6, a3 with
  | [x0, x1], _, [v0, v1], _ =>
   have g0 := hf 0 _ rfl
   have g1 := hf 1 _ rfl
   simp [ci, cs] at g0 g1
   obtain ⟨s0, e0, _, _⟩ := DataW.trod_int underlying3 g0
   obtain ⟨s1, e1, _, z1⟩ := DataW.trod_string underlying9 g1
   simp only [List.cons.injEq, and_true] at e0 e1
   subst e0 e1
   have c0 := a0 0 (by omega)
   have c1 := a0 1 (by omega)
   rw [Go.Deep.add_add] at c0 c1
   exact ⟨(s0, s1), ⟨by simpa using c0, by simpa using c1⟩, z1⟩
 obtain ⟨q, hq⟩ := Go.Deep.choose_lt a2
 have a8 : ∀ i, i < n → aC6 ((List.range n).map q) i = q i := fun i hi => by
  unfold aC6
  rw [List.getD_eq_getElem?_getD, List.getElem?_map, List.getElem?_range hi]
  rfl
 refine ⟨(List.range n).map q, ⟨by simp, fun i hi => ?_⟩, by omega, fun x hx => ?_⟩
 ·obtain ⟨c0, _⟩ := hq i hi;obtain ⟨c3, _⟩ := hq 0 (by omega)
  have a4 : ad.spot = none := by
   have := World.cell?_spot c3.1
   simpa [Addr.add] using this
  clear c3;obtain ⟨b, a9, sp⟩ := ad;simp only at a4
  subst a4;simp only [cR1] at c0
  rw [a8 i hi];have b0 := World.block_lt_of_cell? W _ c0.1;exact ⟨b, a9, rfl, b0, by simpa [Nat.add_assoc] using c0.1, by simpa [Nat.add_assoc] using c0.2⟩
 obtain ⟨i, hi, rfl⟩ := List.mem_map.1 hx;exact (hq i (List.mem_range.1 hi)).2
structure aJ3 (W : World) (base : Nat) (v1 : Value) (n1 : Nat) (cs : Ts) (v2 : Value) (n2 : Nat) (ws : List (Int × ByteArray)) : Prop where
 cells : W.ownsRow base 9 1 v1 n1 (cs.map Value.string)
 pend : W.ownsRow base 128 2 v2 n2 (aA4 ws)
theorem bB1 (a1 : Oa) (n1 c1 : Nat) (cs : Ts) (a2 : Oa) (n2 c2 : Nat) (ws : List (Int × ByteArray)) (B : Nat) (w : World) (h1 : ArgT w B a1 n1 cs) (h2 : aJ2 w B a2 n2 ws) (hB : B ≤ w.heap.size) (hn1 : n1 ≤ 1048576) (hn2 : n2 ≤ 1048576) :
  Calls prog 42 #[.agg #[.slice a1 n1 c1, .slice a2 n2 c2]] w fun e w' => ∃ v1 v2, e = .returned (.agg #[v1, v2]) ∧ aJ3 w' w.heap.size v1 n1 cs v2 n2 ws ∧ Below w.heap.size w w' := by
 have c5 := hid fun W (h : Bw w W) => h1.below (h.mono hB)
 have c6 := hid fun W (h : Bw w W) => h2.below (h.mono hB)
 have c3 : Hid (∀ W, Bw w W → B ≤ W.heap.size) := fun W h => Nat.le_trans hB h.size
 clear h1 h2 hB;have K0 := jnil w;go_enter func42, ntmps42;go_upto_region 1 with fail
 obtain ⟨q1, a9⟩ := exq (w.heap.size);obtain ⟨w1, a4⟩ := exq (w.alloc (.cells #[.slice a1 n1 c1, .slice a2 n2 c2] 67));have b0 := a9.symm;rw [← a4]; try rw [← a9];have c4 := hsa a4 b0;have bw := bal a4;have K1 := ja K0 a4 b0;clear bw a4 b0 K0;obtain ⟨q2, b1⟩ := exq (q1 + 1);obtain ⟨w2, a5⟩ := exq (w1.alloc (.cells #[.slice none 0 0, .slice none 0 0] 27));have b2 : w1.heap.size = q2 := by rw [b1]; exact c4
 rw [← a5]; try rw [← b1];have c7 := hsa a5 b2;have bw := bal a5;have K2 := ja K1 a5 b2;clear bw a5 b2 K1;clear c7 b1 c4 a9;go_upto_region 2 with fail
 obtain ⟨q3, b3⟩ := exq (w2.heap.size);obtain ⟨w3, a6⟩ := exq (w2.alloc (.cells #[.slice none 0 0, .slice none 0 0] 27));have b4 := b3.symm;rw [← a6]; try rw [← b3];have c8 := hsa a6 b4;have bw := bal a6;have K3 := ja K2 a6 b4;clear bw a6 b4 K2;clear c8 b3;have b5 := c2c (jb K3 2 rfl);go_wp2_with fail
 refine (cC3 B a1 n1 c1 cs _ (c5.out _ K3.hb) (c3.out _ K3.hb) hn1).mono ?_;rintro e w4 ⟨vv, rfl, a0, bw⟩;obtain ⟨oC, pC, rfl⟩ := aA0 a0;have K4 := jj K3 (jcR (jN bw) a0 jhn);clear a0;clear bw K3;clear b5;have a7 := c2f (jb K4 1 rfl);go_upto_region 3 with fail
 obtain ⟨w5, b6⟩ := exq (w4.setCell ⟨q3, 0, none⟩ (.slice oC n1 pC));rw [← b6];have K5 := js K4 1 b6;clear b6 K4;clear a7;have b7 := c2c (jb K5 3 rfl);go_wp2_with fail
 refine (cH6 B a2 n2 c2 ws _ (c6.out _ K5.hb) (c3.out _ K5.hb) hn2).mono ?_;rintro e w6 ⟨vv, rfl, a3, bw⟩;obtain ⟨oP, pP, rfl⟩ := aA0 a3;have K6 := jj K5 (jcR (jN bw) a3 jhn);clear a3;clear bw K5;clear b7;have b8 := c2f (jb K6 2 rfl);go_upto_region 4 with fail
 obtain ⟨w7, b9⟩ := exq (w6.setCell ⟨q3, 1, none⟩ (.slice oP n2 pP));rw [← b9];have K7 := js K6 2 b9;clear b9 K6;clear b8;have c9 := c2f (jb K7 3 rfl);have a7 := c2c (jb K7 2 rfl);go_wp2_with fail
 obtain ⟨w9, c0⟩ := exq ((w7.setCell ⟨q2, 0, none⟩ (.slice oC n1 pC)).setCell ⟨q2, 1, none⟩ (.slice oP n2 pP));rw [← c0];have K9 := jss K7 3 [(0, _), (1, _)] c0;clear c0 K7;have a8 := c2c (jb K9 3 rfl);refine bodyPost_ret (v := .agg #[.slice oC n1 pC, .slice oP n2 pP]) (by simp [results, results42, go_sem, a8]) rfl ?_;exact ⟨_, _, rfl, ⟨(jo K9 1 rfl), (jo K9 0 rfl)⟩, K9.hb⟩
def dN6 (L : Int) (n1 : Nat) (cs : Ts) (n2 : Nat) (ws : List (Int × ByteArray)) (w : World) (e : Ending) (w' : World) : Prop :=
 ∃ r : Int, e = .returned (.int .i64 r) ∧ r ≤ L ∧ (0 ≤ r → r + (n1 : Int) + (n2 : Int) ≤ L ∧ (n1 ≤ 1048576 ∧ ∀ i, i < n1 → (aA7 cs i).size ≤ 1048576) ∧ n2 ≤ 1048576 ∧ ∀ x ∈ ws, (x.2).size ≤ 1048576) ∧ Below w.heap.size w w'
theorem cM8 (L : Int) (hL0 : 0 ≤ L) (hL1 : L ≤ 1048576) (a1 : Oa) (n1 c1 : Nat) (cs : Ts) (a2 : Oa) (n2 c2 : Nat) (ws : List (Int × ByteArray)) (B : Nat) (w : World) (h1 : ArgT w B a1 n1 cs) (h2 : aJ2 w B a2 n2 ws) (hB : B ≤ w.heap.size) (hn1 : n1 ≤ maxLen) (hn2 : n2 ≤ maxLen) (hs1 : ∀ i, i < n1 → (aA7 cs i).size ≤ maxLen) (hs2 : ∀ x ∈ ws, (x.2).size ≤ maxLen) :
  Calls prog 41 #[.agg #[.slice a1 n1 c1, .slice a2 n2 c2], .int .i64 L] w fun e w' => dN6 L n1 cs n2 ws w e w' := by
 have b1 := hid fun W (h : Bw w W) => h1.below (h.mono hB)
 have b2 := hid fun W (h : Bw w W) => h2.below (h.mono hB)
 have a9 : Hid (∀ W, Bw w W → B ≤ W.heap.size) := fun W h => Nat.le_trans hB h.size
 clear h1 h2 hB;have b3 := hid hn1;have b4 := hid hn2;have b5 := hid hs1;have b6 := hid hs2;clear hs1 hs2 hn1 hn2;have K0 := jnil w;go_enter func41, ntmps41;go_upto_region 1 with fail
 obtain ⟨q1, a4⟩ := exq (w.heap.size);obtain ⟨w1, a3⟩ := exq (w.alloc (.cells #[.slice a1 n1 c1, .slice a2 n2 c2] 67));have a0 := a4.symm;rw [← a3]; try rw [← a4];have hs1 := hsa a3 a0;have bw := bal a3;have K1 := ja K0 a3 a0;clear bw a3 a0 K0;clear hs1 a4;have a5 := c2c (jb K1 0 rfl);go_wp2_with fail
 refine (bP6 L (by omega) (by omega) B a1 n1 c1 cs _ (b1.out _ K1.hb) (a9.out _ K1.hb) b3.out b5.out).mono ?_;rintro e w2 ⟨r1, rfl, b9, a6, bw⟩;have K2 := jw K1 bw;clear bw K1;clear a5;by_cases hc1 : r1 < 0
 ·clear a6;go_wp2_with fail
  go_ret;exact ⟨-1, rfl, by omega, fun h => absurd h (by omega), K2.hb⟩
 obtain ⟨c0, c3, a0⟩ := a6 (by omega);have b7 : Hid _ := a0;clear a6 a0;have a7 := c2c (jb K2 0 rfl);go_wp2_with fail
 refine (cC5 r1 (by omega) (by omega) B a2 n2 c2 ws _ (b2.out _ K2.hb) (a9.out _ K2.hb) b4.out b6.out).mono ?_;rintro e w3 ⟨r2, rfl, c4, a8, bw⟩;have K3 := jw K2 bw;clear bw K2;clear a7;by_cases hc2 : r2 < 0
 ·clear a8;go_wp2_with fail
  go_ret;exact ⟨-1, rfl, by omega, fun h => absurd h (by omega), K3.hb⟩
 obtain ⟨c5, c6, b0⟩ := a8 (by omega);have b8 : Hid _ := b0;clear a8 b0;go_wp2_with fail
 go_ret;exact ⟨_, rfl, by omega, fun _ => ⟨by omega, ⟨by omega, b7.out⟩, by omega, b8.out⟩, K3.hb⟩
def dR3 (L : Int) (n1 : Nat) (cs : Ts) (n2 : Nat) (ws : List (Int × ByteArray)) (w : World) (e : Ending) (w' : World) : Prop :=
 ∃ r : Int, e = .returned (.int .i64 r) ∧ r ≤ L ∧ (0 ≤ r → (n1 ≤ 1048576 ∧ ∀ i, i < n1 → (aA7 cs i).size ≤ 1048576) ∧ n2 ≤ 1048576 ∧ ∀ x ∈ ws, (x.2).size ≤ 1048576) ∧ Below w.heap.size w w'
theorem cV5 (L : Int) (hL0 : 0 ≤ L) (hL1 : L ≤ 1048576) (a1 : Oa) (n1 c1 : Nat) (cs : Ts) (a2 : Oa) (n2 c2 : Nat) (ws : List (Int × ByteArray)) (B : Nat) (w : World) (h1 : ArgT w B a1 n1 cs) (h2 : aJ2 w B a2 n2 ws) (hB : B ≤ w.heap.size) (hn1 : n1 ≤ maxLen) (hn2 : n2 ≤ maxLen) (hs1 : ∀ i, i < n1 → (aA7 cs i).size ≤ maxLen) (hs2 : ∀ x ∈ ws, (x.2).size ≤ maxLen) :
  Calls prog 41 #[.agg #[.slice a1 n1 c1, .slice a2 n2 c2], .int .i64 L] w fun e w' => dR3 L n1 cs n2 ws w e w' := by
 refine (cM8 L hL0 hL1 a1 n1 c1 cs a2 n2 c2 ws B w h1 h2 hB hn1 hn2 hs1 hs2).mono ?_;rintro e w' ⟨r, g1, g2, g3, g4⟩;exact ⟨r, g1, g2, fun h => (g3 h).2, g4⟩
theorem bX5 (n1 : Nat) (cs : Ts) (n2 : Nat) (ws : List (Int × ByteArray)) (v1 v2 u1 u2 : Value) (B1 B2 : Nat) (w : World) (hx : aJ3 w B1 v1 n1 cs v2 n2 ws) (hy : aJ3 w B2 u1 n1 cs u2 n2 ws) (hn1 : n1 ≤ 2000000) (hn2 : n2 ≤ 2000000) :
  Calls prog 43 #[.agg #[v1, v2], .agg #[u1, u2]] w fun e w' => e = .returned (.bool true) ∧ Below w.heap.size w w' := by
 obtain ⟨c6, c7, rfl⟩ := aA0 hx.cells;have a2 : Hid (w.ownsRow B1 9 1 (.slice c6 n1 c7) n1 (cs.map Value.string)) := hx.cells;obtain ⟨c8, c9, rfl⟩ := aA0 hx.pend;have a3 : Hid (w.ownsRow B1 128 2 (.slice c8 n2 c9) n2 (aA4 ws)) := hx.pend;clear hx;obtain ⟨d0, d1, rfl⟩ := aA0 hy.cells;have a4 : Hid (w.ownsRow B2 9 1 (.slice d0 n1 d1) n1 (cs.map Value.string)) := hy.cells;obtain ⟨d2, d3, rfl⟩ := aA0 hy.pend;have a5 : Hid (w.ownsRow B2 128 2 (.slice d2 n2 d3) n2 (aA4 ws)) := hy.pend;clear hy;have K0 := jnil w;go_enter func43, ntmps43;go_upto_region 1 with fail
 obtain ⟨q1, b6⟩ := exq (w.heap.size);obtain ⟨w1, b4⟩ := exq (w.alloc (.cells #[.slice c6 n1 c7, .slice c8 n2 c9] 27));have b7 := b6.symm;rw [← b4]; try rw [← b6];have d4 := hsa b4 b7;have bw := bal b4;have K1 := ja K0 b4 b7;have a6 := hown a2 bw;have a7 := hown a3 bw;have a8 := hown a4 bw;have a9 := hown a5 bw;clear bw b4 b7 K0;obtain ⟨q2, b8⟩ := exq (q1 + 1);obtain ⟨w2, b5⟩ := exq (w1.alloc (.cells #[.slice d0 n1 d1, .slice d2 n2 d3] 27));have b9 : w1.heap.size = q2 := by rw [b8]; exact d4
 rw [← b5]; try rw [← b8];have d5 := hsa b5 b9;have bw := bal b5;have K2 := ja K1 b5 b9;have a0 := hown a6 bw;have b0 := hown a7 bw;have a1 := hown a8 bw;have b1 := hown a9 bw;clear bw b5 b9 K1;clear d5 b8 d4 b6;have c0 := c2c (jb K2 1 rfl);have c1 := c2c (jb K2 0 rfl);go_wp2_with fail
 refine (cL9 _ _ n1 _ _ cs _ a0.out a1.out (by omega)).mono ?_;rintro e w3 ⟨rfl, bw⟩;have K3 := jw K2 bw;have c2 := hown a0 bw;have b2 := hown b0 bw;have c3 := hown a1 bw;have b3 := hown b1 bw;clear bw K2;clear c0 c1;have c4 := c2c (jb K3 1 rfl);have c5 := c2c (jb K3 0 rfl);go_wp2_with fail
 refine (cH7 _ _ n2 _ _ ws _ (aN6 b2.out) (aN6 b3.out) (by omega)).mono ?_;rintro e w4 ⟨rfl, bw⟩;have K4 := jw K3 bw;clear bw K3;clear c4 c5;go_wp2_with fail
 go_ret;exact ⟨rfl, K4.hb⟩
theorem bK5 (n1 : Nat) (cs : Ts) (n2 : Nat) (ws : List (Int × ByteArray)) (v1 v2 : Value) (B : Nat) (w : World) (hx : aJ3 w B v1 n1 cs v2 n2 ws) (hB : B ≤ w.heap.size) (k0 : Nat) (hk0 : 1 ≤ k0) (hk : k0 + n1 + 2 * n2 ≤ 99999998) :
  Calls prog 44 #[.agg #[v1, v2], .int .i64 (k0 : Int)] w fun e w' => e = .returned (.int .i64 (((k0 + n1 + 2 * n2) : Nat) : Int)) ∧ aJ3 w' B v1 n1 (mkT k0 cs n1) v2 n2 (aE7 (k0 + n1) ws n2) ∧ Below B w w' ∧ (∀ g, g < w.heap.size → v1.ownBlock ≠ some g → v2.ownBlock ≠ some g → w'.heap[g]? = w.heap[g]?) := by
 obtain ⟨a7, a8, rfl⟩ := aA0 hx.cells;have b2 : Hid (w.ownsRow B 9 1 (.slice a7 n1 a8) n1 (cs.map Value.string)) := hx.cells;obtain ⟨a9, b0, rfl⟩ := aA0 hx.pend;have b3 : Hid (w.ownsRow B 128 2 (.slice a9 n2 b0) n2 (aA4 ws)) := hx.pend;clear hx;have c2 : Below B w w := Below.refl _ _;have a4 : Hid (∀ g, g < w.heap.size → (Value.ownBlock (.slice a7 n1 a8)) ≠ some g → (Value.ownBlock (.slice a9 n2 b0)) ≠ some g → w.heap[g]? = w.heap[g]?) := fun _ _ _ _ => rfl
 go_enter func44, ntmps44;go_upto_region 1 with fail
 obtain ⟨q1, c5⟩ := exq (w.heap.size);obtain ⟨w1, b9⟩ := exq (w.alloc (.cells #[.slice a7 n1 a8, .slice a9 n2 b0] 27));have c6 := c5.symm;rw [← b9]; try rw [← c5];have c9 := hsa b9 c6;have bw := bal b9;have c3 : Below B w (w1) := c2.trans (bw.mono (Nat.le_trans hB c2.size));have a0 := hown b2 bw;have a1 := hown b3 bw;have a5 : Hid (∀ g, g < w.heap.size → (Value.ownBlock (.slice a7 n1 a8)) ≠ some g → (Value.ownBlock (.slice a9 n2 b0)) ≠ some g → w1.heap[g]? = w.heap[g]?) := fun g hg b7 b8 => (bw.block g (Nat.lt_of_lt_of_le hg c2.size)).trans (a4.out g hg b7 b8)
 have c0 := hnew b9 c6;clear c2 a4 bw b9 c6;clear c9 c5;have c7 := (c2c c0.out).1;go_wp2_with fail
 refine (aX0 _ n1 B cs _ a0.out (Nat.le_trans hB c3.size) k0 (by omega) (by omega)).mono ?_;rintro e w2 ⟨rfl, mk, bm, b1⟩;have c4 : Below B w w2 := c3.trans bm;have a2 : Hid (w2.ownsRow B 128 2 (.slice a9 n2 b0) n2 (aA4 ws)) := aA9 a1.out (fun g hg => b1 g (aB0 a1.out hg) (aD7 a1.out a0.out (by decide) g hg))
 have c1 : Hid (w2.heap[q1]? = some (.cells #[.slice a7 n1 a8, .slice a9 n2 b0] 27)) := dB6 c0.out b1 a0.out (by decide);have a6 : Hid (∀ g, g < w.heap.size → (Value.ownBlock (.slice a7 n1 a8)) ≠ some g → (Value.ownBlock (.slice a9 n2 b0)) ≠ some g → w2.heap[g]? = w.heap[g]?) := fun g hg b7 b8 => (b1 g (Nat.lt_of_lt_of_le hg c3.size) b7).trans (a5.out g hg b7 b8)
 have a3 : Hid (w2.ownsRow B 9 1 (.slice a7 n1 a8) n1 ((mkT k0 cs n1).map Value.string)) := mk;clear c3 a5 mk bm b1;clear c7;have c8 := (c2c c1.out).2;rw [show ((k0 : Int) + (n1 : Int)) = ((k0 + n1 : Nat) : Int) by omega];go_wp2_with fail
 refine (bU6 _ n2 _ B ws _ a2.out (Nat.le_trans hB c4.size) (k0 + n1) (by omega) (by omega)).mono ?_;rintro e w3 ⟨rfl, mk, bm, b1⟩;have d0 : Below B w w3 := c4.trans bm;have b4 : Hid (w3.ownsRow B 9 1 (.slice a7 n1 a8) n1 ((mkT k0 cs n1).map Value.string)) := aA9 a3.out (fun g hg => b1 g (aB0 a3.out hg) (aD7 a3.out a2.out (by decide) g hg))
 have d1 : Hid (w3.heap[q1]? = some (.cells #[.slice a7 n1 a8, .slice a9 n2 b0] 27)) := dB6 c1.out b1 a2.out (by decide);have b5 : Hid (∀ g, g < w.heap.size → (Value.ownBlock (.slice a7 n1 a8)) ≠ some g → (Value.ownBlock (.slice a9 n2 b0)) ≠ some g → w3.heap[g]? = w.heap[g]?) := fun g hg b7 b8 => (b1 g (Nat.lt_of_lt_of_le hg c4.size) b8).trans (a6.out g hg b7 b8)
 have b6 : Hid (w3.ownsRow B 128 2 (.slice a9 n2 b0) n2 (aA4 (aE7 (k0 + n1) ws n2))) := mk;clear c4 a6 mk bm b1;clear c8;go_wp2_with fail
 go_ret;exact ⟨congrArg (fun x : Int => Ending.returned (.int .i64 x)) (show (((k0 + n1 : Nat) : Int) + 2 * (n2 : Int)) = (((k0 + n1 + 2 * n2) : Nat) : Int) by omega), ⟨b4.out, b6.out⟩, d0, b5.out⟩
theorem cH8 (n1 : Nat) (cs : Ts) (n2 : Nat) (ws : List (Int × ByteArray)) (v1 v2 : Value) (B : Nat) (w : World) (hx : aJ3 w B v1 n1 cs v2 n2 ws) (k0 : Nat) (hk0 : 1 ≤ k0) (hk : k0 + n1 + 2 * n2 ≤ 99999998) (m1 : ∀ j, j < n1 → aA7 cs j = aB1 (k0 + j)) (m2 : ∀ j, j < n2 → (aC6 ws j).1 = ((k0 + n1 + 2 * j + 0 : Nat) : Int) ∧ (aC6 ws j).2 = aB1 (k0 + n1 + 2 * j + 1)) :
  Calls prog 130 #[.agg #[v1, v2], .int .i64 (k0 : Int)] w fun e w' => e = .returned (.int .i64 (((k0 + n1 + 2 * n2) : Nat) : Int)) ∧ Below w.heap.size w w' := by
 obtain ⟨b1, b2, rfl⟩ := aA0 hx.cells;have a1 : Hid (w.ownsRow B 9 1 (.slice b1 n1 b2) n1 (cs.map Value.string)) := hx.cells;obtain ⟨b3, b4, rfl⟩ := aA0 hx.pend;have a2 : Hid (w.ownsRow B 128 2 (.slice b3 n2 b4) n2 (aA4 ws)) := hx.pend;clear hx;have b5 : Hid (∀ j, j < n1 → aA7 cs j = aB1 (k0 + j)) := m1;have b6 : Hid (∀ j, j < n2 → (aC6 ws j).1 = ((k0 + n1 + 2 * j + 0 : Nat) : Int) ∧ (aC6 ws j).2 = aB1 (k0 + n1 + 2 * j + 1)) := m2;clear m1 m2;have K0 := jnil w;go_enter func130, ntmps130;go_upto_region 1 with fail
 obtain ⟨q1, a6⟩ := exq (w.heap.size);obtain ⟨w1, a5⟩ := exq (w.alloc (.cells #[.slice b1 n1 b2, .slice b3 n2 b4] 27));have a7 := a6.symm;rw [← a5]; try rw [← a6];have b7 := hsa a5 a7;have bw := bal a5;have K1 := ja K0 a5 a7;have a0 := hown a1 bw;have a3 := hown a2 bw;clear bw a5 a7 K0;clear b7 a6;have a8 := c2c (jb K1 0 rfl);go_wp2_with fail
 refine (aX1 _ n1 _ cs _ a0.out k0 (by omega) (by omega) b5.out).mono ?_;rintro e w2 ⟨rfl, bw⟩;have K2 := jw K1 bw;have a9 := hown a0 bw;have a4 := hown a3 bw;clear bw K1;have b8 : ¬ (((k0 : Int) + (n1 : Int)) < 0) := by omega
 clear a8;have b0 := c2c (jb K2 0 rfl);rw [show ((k0 : Int) + (n1 : Int)) = ((k0 + n1 : Nat) : Int) by omega];go_wp2_with fail
 refine (bU7 _ n2 _ _ ws _ a4.out (k0 + n1) (by omega) (by omega) b6.out).mono ?_;rintro e w3 ⟨rfl, bw⟩;have K3 := jw K2 bw;clear bw K2;have b9 : ¬ ((((k0 + n1 : Nat) : Int) + 2 * (n2 : Int)) < 0) := by omega
 clear b0;go_wp2_with fail
 go_ret;exact ⟨congrArg (fun x : Int => Ending.returned (.int .i64 x)) (show (((k0 + n1 : Nat) : Int) + 2 * (n2 : Int)) = (((k0 + n1 + 2 * n2) : Nat) : Int) by omega), K3.hb⟩
def dB8 (n : Nat) (ws : List (Int × ByteArray)) : Prop := n = 20 ∧ ws.length ≤ 16 ∧ ∀ x ∈ ws, 0 ≤ x.1 ∧ x.1 ≤ 19
def aR2 (cs : Ts) (ws : List (Int × ByteArray)) : Prop := cs.length = 20 ∧ ws.length ≤ 16 ∧ ∀ x ∈ ws, 0 ≤ x.1 ∧ x.1 ≤ 19
def bF1 (cs : Ts) (ws : List (Int × ByteArray)) (at' : Nat) : Nat → ByteArray
 | 0 => aA7 cs at'
 | k + 1 => if (aC6 ws k).1 = (at' : Int) then (aC6 ws k).2 else bF1 cs ws at' k
def aI5 (cs : Ts) (ws : List (Int × ByteArray)) (f : Nat → Bool) : Nat → Ts
 | 0 => cs
 | k + 1 => if f k = true then (aI5 cs ws f k).set (aC6 ws k).1.toNat (aC6 ws k).2 else aI5 cs ws f k
theorem aV8 (cs : Ts) (ws : List (Int × ByteArray)) (f : Nat → Bool) : ∀ k, (aI5 cs ws f k).length = cs.length
 | 0 => rfl
 | k + 1 => by
  rw [aI5]
  split
  · rw [List.length_set, aV8 cs ws f k]
  · exact aV8 cs ws f k
theorem aU9 (l : Ts) (i : Nat) (h : i < l.length) : l[i]? = some (aA7 l i) := by
 unfold aA7;rw [List.getD_eq_getElem?_getD, List.getElem?_eq_getElem h];rfl
theorem bI4 (l : Ts) (k j : Nat) (x : Tx) : aA7 (l.set k x) j = if j = k ∧ k < l.length then x else aA7 l j := by
 unfold aA7;rw [List.getD_eq_getElem?_getD, List.getElem?_set, List.getD_eq_getElem?_getD];by_cases h : j = k
 rotate_left
 ·rw [if_neg (fun e => h e.symm), if_neg (fun e => h e.1)]
 subst h;by_cases h2 : j < l.length
 ·simp [h2]
 rw [if_pos rfl, if_neg h2, if_neg (fun e => h2 e.2), List.getElem?_eq_none (by omega)]
theorem dI7 {cs : Ts} {ws : List (Int × ByteArray)} (h : aR2 cs ws) (i : Nat) (hi : i < 20) : ∀ k, k ≤ ws.length → aA7 (aI5 cs ws (fun _ => true) k) i = bF1 cs ws i k := by
 intro k;induction k with
 | zero => intro _; rfl
 | succ k ih =>
  intro hk
  have hm := h.2.2 _ (aJ1 ws k (by omega))
  rw [aI5, if_pos rfl, bI4, bF1, aV8, h.1, ih (by omega)]
  by_cases e : (aC6 ws k).1 = (i : Int)
  ·rw [if_pos e, if_pos ⟨by omega, by omega⟩]
  rw [if_neg e, if_neg (fun e2 => e (by omega))]
def dN7 (cs : Ts) (ws : List (Int × ByteArray)) : Bool := decide (cs.length = 20) && (decide (ws.length ≤ 16) && ws.all (fun x => decide (0 ≤ x.1) && decide (x.1 ≤ 19)))
theorem cH9 (cs : Ts) (ws : List (Int × ByteArray)) : dN7 cs ws = true ↔ aR2 cs ws := by
 unfold dN7 aR2;simp only [Bool.and_eq_true, decide_eq_true_iff, List.all_eq_true]
def dN8 (x : Int) : Bool := decide (0 ≤ x) && decide (x ≤ 19)
theorem cI0 (x : Int) : dN8 x = true ↔ 0 ≤ x ∧ x ≤ 19 := by unfold dN8; simp
def aL5 (cs : Ts) (ws : List (Int × ByteArray)) (x : Int) : ByteArray := if (dN7 cs ws && dN8 x) = true then bF1 cs ws x.toNat ws.length else ⟨#[]⟩
theorem cR7 {cs : Ts} {ws : List (Int × ByteArray)} {x : Int} (h : ¬ (aR2 cs ws ∧ (0 ≤ x ∧ x ≤ 19))) : aL5 cs ws x = ⟨#[]⟩ := by
 unfold aL5;rw [if_neg];rw [Bool.and_eq_true, cH9, cI0];exact h
theorem dB9 {cs : Ts} {ws : List (Int × ByteArray)} (h : aR2 cs ws) (m : Nat) (h2 : m ≤ 19) : aL5 cs ws (m : Int) = bF1 cs ws m ws.length := by
 unfold aL5;rw [if_pos]
 ·simp
 rw [Bool.and_eq_true, cH9, cI0];exact ⟨h, by omega, by omega⟩
def cI1 (cs : Ts) (ws : List (Int × ByteArray)) (w : World) (e : Ending) (w' : World) : Prop :=
 ∃ v1 v2, e = .returned (.agg #[v1, v2]) ∧ aJ3 w' w.heap.size v1 cs.length cs v2 ws.length ws ∧ Below w.heap.size w w'
def newC : Ts := List.replicate 20 ⟨#[]⟩
theorem cI2 (a b : Int) (w : World) :
  Calls prog 110 #[.int .i64 a, .int .i64 b] w fun e w' => e = .returned (.int .i64 (max a b)) ∧ w' = w := by
 by_cases h : b < a
 ·have HE : Hid (max a b = a) := by show _ = _; omega
  go_enter func110, ntmps110;go_wp2
  go_ret;exact ⟨by rw [HE.out]; rfl, rfl⟩
 have HE : Hid (max a b = b) := by show _ = _; omega
 go_enter func110, ntmps110;go_wp2
 go_ret;exact ⟨by rw [HE.out]; rfl, rfl⟩
def bC3 (xs : Ts) : Prop := (∀ x ∈ xs, aK6 x) ∧ xs.length ≤ 4
theorem aG7 (xs : Ts) (j : Nat) (h : j < xs.length) : aA7 xs j ∈ xs := by
 unfold aA7;rw [List.getD_eq_getElem?_getD, List.getElem?_eq_getElem h];exact List.getElem_mem _
theorem aJ4 (xs : Ts) (j : Nat) (h : j < xs.length) : xs.take (j + 1) = xs.take j ++ [aA7 xs j] := by
 rw [List.take_add_one, List.getElem?_eq_getElem h];unfold aA7;rw [List.getD_eq_getElem?_getD, List.getElem?_eq_getElem h];rfl
open Classical in
theorem bD6 (oa ob : Oa) (m cm n cn : Nat) (xs ys : Ts) (w : World) (hx : aC0 w oa m xs) (hy : aC0 w ob n ys) (hm : m ≤ 2000000) :
  Calls prog 154 #[.slice oa m cm, .slice ob n cn] w fun e w' => e = .returned (.bool (decide (xs = ys))) ∧ Below w.heap.size w w' := by
 have HX : Hid (∀ W, Below w.heap.size w W → aC0 W oa m xs) := fun W h => hx.below h
 have HY : Hid (∀ W, Below w.heap.size w W → aC0 W ob n ys) := fun W h => hy.below h
 have a3 : Hid (xs.length = m) := hx.1;have a4 : Hid (ys.length = n) := hy.1;clear hx hy;go_enter func154, ntmps154;go_wp2_with fail
 go_loopw [5] (fun i wr => ∃ j : Nat, j ≤ m ∧ j ≤ n ∧ i = .int .i64 (j : Int) ∧ Below w.heap.size w wr ∧ Hid (xs.take j = ys.take j)) (fun i _ => m - (intOf i).toNat)
 case atStart => exact ⟨0, Nat.zero_le _, Nat.zero_le _, rfl, Below.refl _ _, by show _ = _; simp⟩
 case round =>
  obtain ⟨j, hj, a9, rfl, a0, HN⟩ := hrel;by_cases hlt : (j : Int) < (m : Int)
  rotate_left
  ·have HE : Hid (decide (xs = ys) = decide ((m : Int) = (n : Int))) := by
    show _ = _
    rw [decide_eq_decide]
    constructor
    ·intro h; have h1 := a3.out; have h2 := a4.out; rw [h] at h1; omega
    ·intro h
     have h1 := HN.out
     rw [List.take_of_length_le (by rw [a3.out]; omega), List.take_of_length_le (by rw [a4.out]; omega)] at h1
     exact h1
   clear HN;go_wp2_with fail
   go_ret;exact ⟨by rw [HE.out]; rfl, a0⟩
  by_cases hlt2 : (j : Int) < (n : Int)
  rotate_left
  ·have HE : Hid (decide (xs = ys) = decide ((m : Int) = (n : Int))) := by
    show _ = _
    rw [decide_eq_decide]
    constructor
    ·intro h; have h1 := a3.out; have h2 := a4.out; rw [h] at h1; omega
    ·intro h; omega
   clear HN;go_wp2_with fail
   go_ret;exact ⟨by rw [HE.out]; rfl, a0⟩
  have a5 : j < xs.length := by rw [a3.out]; omega
  have a6 : j < ys.length := by rw [a4.out]; omega
  obtain ⟨g, rfl, hg, hc⟩ := (HX.out wr a0).2 j (by omega);obtain ⟨g2, rfl, b0, a7⟩ := (HY.out wr a0).2 j (by omega);obtain ⟨x, a1⟩ := exq (aA7 xs j);obtain ⟨y, a2⟩ := exq (aA7 ys j);rw [← a1] at hc;rw [← a2] at a7;by_cases he : x = y
  rotate_left
  ·have t0 : (x.toList == y.toList) = false := aB8 he;have t1 : (x.toList != y.toList) = true := by rw [bne, t0]; rfl
   have HE : Hid (decide (xs = ys) = false) := decide_eq_false (fun h => he (by rw [a1, a2, h]))
   clear he a1 a2 a5 a6 HN;go_wp2_with fail
   go_quiet (fail)
   go_wp2
   go_ret;exact ⟨by rw [HE.out]; rfl, below_drewN a0 _⟩
  have a8 : Hid (xs.take (j + 1) = ys.take (j + 1)) := by
   show _ = _
   rw [aJ4 xs j a5, aJ4 ys j a6, ← a1, ← a2, HN.out, he]
  subst he;clear a1 a2 a5 a6 HN;go_wp2_with fail
  go_quiet (fail)
  go_wp2
  go_roundw
  case rel => exact ⟨j + 1, by omega, by omega, by go_num, below_drewN a0 _, a8⟩
  case measure => simp [intOf]; omega
def ObjP (p : Tx) (xs ys : Ts) (st : Int) (fs : Fs) (b : Tx) (t : Int) : Prop :=
 aN1 st fs b ∧ aI9 p ∧ (0 ≤ t ∧ t ≤ 1000000) ∧ bC3 xs ∧ xs = aC1 fs ∧ ys.length = xs.length ∧ ∀ y ∈ ys, aK7 y
theorem aC2 {w : World} {base n p : Nat} {o : Oa} {xs : Ts} (h : w.ownsRow base 9 1 (.slice o n p) n (xs.map Value.string)) : aC0 w o n xs := by
 obtain ⟨oa, ca, he, hx⟩ := bP4 h;cases he
 exact hx
end Go.Proofs.YtiobfnpmidjijaaGreatDoor
namespace Go.Proofs.YtiobfnpmidjijaaGreatDoor
open Go.Proofs.Tryz
open Go.RowKit
def cutA (s sep : Tx) : ByteArray := ⟨(Lib.cut s.data.toList sep.data.toList).1.toArray⟩
def cutB (s sep : Tx) : ByteArray := ⟨(Lib.cut s.data.toList sep.data.toList).2.1.toArray⟩
def aK5 (s p : Tx) : ByteArray := ⟨(Lib.trimPrefix s.data.toList p.data.toList).toArray⟩
def hasP (s p : Tx) : Bool := Lib.hasPrefix s.data.toList p.data.toList
theorem cM9 (s sep : Tx) : bs (cutA s sep) = (Lib.cut (bs s) (bs sep)).1 := by simp [bs, cutA]
theorem cN0 (s sep : Tx) : bs (cutB s sep) = (Lib.cut (bs s) (bs sep)).2.1 := by simp [bs, cutB]
theorem cR8 (s p : Tx) : bs (aK5 s p) = Lib.trimPrefix (bs s) (bs p) := by simp [bs, aK5]
theorem aF9 (s sep : Tx) : (cutA s sep).size ≤ s.size := by
 rw [← aC4, ← aC4, cM9];unfold Lib.cut;split
 ·simp; omega
 exact Nat.le_refl _
theorem aH1 (s sep : Tx) : (cutB s sep).size ≤ s.size := by
 rw [← aC4, ← aC4, cN0];unfold Lib.cut;split
 ·simp
 simp
theorem aI6 (s p : Tx) : (aK5 s p).size ≤ s.size := by
 rw [← aC4, ← aC4, cR8];unfold Lib.trimPrefix;split
 ·simp
 exact Nat.le_refl _
theorem dI8 (c : UInt8) (t rest : List UInt8) : ∀ (pre : List UInt8), (∀ b ∈ pre, b ≠ c) → Lib.index (pre ++ ((c :: t) ++ rest)) (c :: t) = (pre.length : Int) := by
 intro pre;induction pre with
 | nil => intro _; simp [Lib.index]
 | cons b r ih =>
  intro h
  have hb : b ≠ c := h b (by simp)
  have ih := ih (fun x hx => h x (by simp [hx]))
  rw [List.cons_append, Lib.index, if_neg (by simp [List.isPrefixOf]; intro e; exact absurd e.symm hb), ih]
  rw [if_neg (by rw [beq_iff_eq]; omega)]
  simp
theorem aT1 {s sep : ByteArray} {c : UInt8} {t rest pre : List UInt8} (hs : bs s = pre ++ ((c :: t) ++ rest)) (hp : bs sep = c :: t) (h : ∀ b ∈ pre, b ≠ c) : bs (cutA s sep) = pre ∧ bs (cutB s sep) = rest := by
 rw [cM9, cN0, hs, hp];unfold Lib.cut;rw [dI8 c t rest pre h, if_pos (by omega)];constructor
 ·simp
 simp
theorem bP9 {s p : ByteArray} {rest : List UInt8} (hs : bs s = bs p ++ rest) : bs (aK5 s p) = rest := by
 rw [cR8, hs];unfold Lib.trimPrefix Lib.hasPrefix;rw [if_pos (by simp)];simp
def nmE : ByteArray := ⟨#[58, 32]⟩
def blE : ByteArray := ⟨#[32]⟩
def bF2 (x : Fs × ByteArray) : Fs × ByteArray :=
 if hasP x.2 lnE = true then x else (if cutA x.2 nmE = clen then x.1 else x.1 ++ [(cutA x.2 nmE, cutA (cutB x.2 nmE) lnE)], cutB (cutB x.2 nmE) lnE)
def aJ9 (x : Fs × ByteArray) : Nat → Fs × ByteArray
 | 0 => x
 | k + 1 => bF2 (aJ9 x k)
theorem bX6 (x : Fs × ByteArray) (k : Nat) (h : hasP (aJ9 x k).2 lnE = true) : ∀ d, aJ9 x (k + d) = aJ9 x k := by
 intro d;induction d with
 | zero => rfl
 | succ d ih =>
  rw [show k + (d + 1) = (k + d) + 1 by omega, aJ9, ih]
  unfold bF2
  rw [if_pos h]
theorem bD7 (s : Tx) : ∀ k, (aJ9 ([], s) k).1.length ≤ k ∧ (aJ9 ([], s) k).2.size ≤ s.size ∧ ∀ f ∈ (aJ9 ([], s) k).1, f.1.size ≤ s.size ∧ f.2.size ≤ s.size := by
 intro k;induction k with
 | zero => exact ⟨Nat.le_refl _, Nat.le_refl _, fun f hf => by simp [aJ9] at hf⟩
 | succ k ih =>
  obtain ⟨h1, h2, h3⟩ := ih
  rw [aJ9]
  generalize aJ9 ([], s) k = x at *
  have a1 := aF9 x.2 nmE
  have a2 := aH1 x.2 nmE
  have a3 := aF9 (cutB x.2 nmE) lnE
  have a4 := aH1 (cutB x.2 nmE) lnE
  unfold bF2
  by_cases hh : hasP x.2 lnE = true
  ·rw [if_pos hh]; exact ⟨by omega, h2, h3⟩
  rw [if_neg hh]
  by_cases hc : cutA x.2 nmE = clen
  ·rw [if_pos hc]; exact ⟨Nat.le_succ_of_le h1, Nat.le_trans a4 (Nat.le_trans a2 h2), h3⟩
  rw [if_neg hc]
  refine ⟨by simp; omega, Nat.le_trans a4 (Nat.le_trans a2 h2), fun f hf => ?_⟩
  simp only [List.mem_append, List.mem_singleton] at hf
  rcases hf with hf | rfl
  ·exact h3 f hf
  ·exact ⟨Nat.le_trans a1 h2, Nat.le_trans a3 (Nat.le_trans a2 h2)⟩
def cR9 (f : ByteArray × ByteArray) : Prop := (∀ b ∈ bs f.1, b ≠ 58) ∧ (∃ c r, bs f.1 = c :: r ∧ c ≠ 13) ∧ ∀ b ∈ bs f.2, b ≠ 13
def cC6 (xs : Fs) : Fs := xs.filter (fun f => decide (f.1 ≠ clen))
theorem dI9 (x : Fs × ByteArray) (body : List UInt8) : ∀ (xs : Fs), (∀ f ∈ xs, cR9 f) → ∀ k acc left, aJ9 x k = (acc, left) → bs left = (xs.map aE4).flatMap (fun l => l ++ [13, 10]) ++ 13 :: 10 :: body →
  ∃ left', aJ9 x (k + xs.length) = (acc ++ cC6 xs, left') ∧ bs left' = 13 :: 10 :: body := by
 intro xs;induction xs with
 | nil =>
  intro _ k acc left h1 h2;exact ⟨left, by rw [show k + ([] : Fs).length = k from rfl, h1]; simp [cC6], by simpa using h2⟩
 | cons f r ih =>
  intro hx k acc left h1 h2
  obtain ⟨hn, ⟨c, nr, hc, a2⟩, hv⟩ := hx f (by simp)
  obtain ⟨a3, a0⟩ := exq ((r.map aE4).flatMap (fun l => l ++ [13, 10]) ++ 13 :: 10 :: body)
  have e1 : bs left = bs f.1 ++ ((58 :: [32]) ++ (bs f.2 ++ ((13 :: [10]) ++ a3))) := by
   rw [h2, a0]; simp [aE4]
  have k1 := aT1 (sep := nmE) e1 rfl hn
  have k2 := aT1 (sep := lnE) k1.2 rfl hv
  have a4 : ¬ hasP left lnE = true := by
   unfold hasP Lib.hasPrefix
   show ¬ List.isPrefixOf (bs lnE) (bs left) = true
   rw [e1, hc]
   intro e
   simp [bs, lnE, List.isPrefixOf] at e
   exact a2 e.1.symm
  have a1 : aJ9 x (k + 1) = (if f.1 = clen then acc else acc ++ [(f.1, f.2)], cutB (cutB left nmE) lnE) := by
   rw [aJ9, h1]
   unfold bF2
   rw [if_neg a4]
   have n1 : cutA left nmE = f.1 := aE3 k1.1
   have n2 : cutA (cutB left nmE) lnE = f.2 := aE3 k2.1
   simp only [n1, n2]
  obtain ⟨left', g1, g2⟩ := ih (fun y hy => hx y (by simp [hy])) (k + 1) _ _ a1 (by rw [k2.2, a0])
  refine ⟨left', ?_, g2⟩
  rw [List.length_cons, show k + (r.length + 1) = k + 1 + r.length by omega, g1]
  by_cases he : f.1 = clen
  ·rw [if_pos he]; simp [cC6, he]
  rw [if_neg he]; simp [cC6, he]
def aP4 (s : Tx) : Fs := (aJ9 ([], s) 9).1
def aM9 (s : Tx) : ByteArray := aK5 (aJ9 ([], s) 9).2 lnE
theorem dC0 {s : ByteArray} {xs : Fs} {body : List UInt8} (hs : bs s = (xs.map aE4).flatMap (fun l => l ++ [13, 10]) ++ 13 :: 10 :: body) (hx : ∀ f ∈ xs, cR9 f) (hl : xs.length ≤ 9) : aP4 s = cC6 xs ∧ bs (aM9 s) = body := by
 obtain ⟨a0, g1, g2⟩ := dI9 ([], s) body xs hx 0 [] s rfl hs
 have a1 := bX6 ([], s) (0 + xs.length) (by
  rw [g1]
  unfold hasP Lib.hasPrefix
  show List.isPrefixOf (bs lnE) (bs a0) = true
  rw [g2]
  simp [bs, lnE, List.isPrefixOf]) (9 - xs.length)
 rw [show 0 + xs.length + (9 - xs.length) = 9 by omega, g1] at a1;unfold aP4 aM9;rw [a1];exact ⟨by simp, bP9 (by rw [g2]; simp [bs, lnE])⟩
theorem cS0 {f : ByteArray × ByteArray} (h : aK6 f.1 ∧ aK7 f.2 ∧ f.1 ≠ clen) : cR9 f := by
 have hT : ∀ b ∈ bs f.1, TokB (b.toNat : Int) := bO4 h.1.2.2;refine ⟨fun b hb e => ?_, ?_, fun b hb => ?_⟩
 ·have := hT b hb;subst e;unfold TokB at this;simp at this
 ·have hl : 1 ≤ (bs f.1).length := by rw [aC4]; exact h.1.1
  cases hc : bs f.1 with
  | nil => rw [hc] at hl; simp at hl
  | cons c r =>
   refine ⟨c, r, rfl, fun e => ?_⟩
   have := hT c (by rw [hc]; simp)
   subst e
   unfold TokB at this
   simp at this
 intro e;have := (bI1 h).2 b (by simp [aE4, hb]);exact this e
theorem dJ0 (n : Nat) (h : n ≤ 1000000) : cR9 (clen, aB7 n) := by
 refine ⟨show ∀ b ∈ bs clen, b ≠ 58 by decide, ⟨99, [111, 110, 116, 101, 110, 116, 45, 108, 101, 110, 103, 116, 104], rfl, by decide⟩, fun b hb e => ?_⟩
 exact (bO5 n h).2 b (by rw [aY2] at hb; simp [aI1, hb]) e
theorem cS1 {fs : Fs} (h : ∀ f ∈ fs, aK6 f.1 ∧ aK7 f.2 ∧ f.1 ≠ clen) : cC6 fs = fs := by
 unfold cC6;rw [List.filter_eq_self];intro f hf;simpa using (h f hf).2.2
theorem dJ1 {fs : Fs} (h : ∀ f ∈ fs, aK6 f.1 ∧ aK7 f.2 ∧ f.1 ≠ clen) (n : Nat) : cC6 (fs ++ [(clen, aB7 n)]) = fs := by
 have := cS1 h;unfold cC6 at this ⊢;rw [List.filter_append, this];simp
theorem dC1 {s : ByteArray} {fs : Fs} {b : ByteArray} (hf : aG5 fs) (hb : b.size ≤ 120) (tell : Bool) (hs : bs s = (fs.map aE4 ++ (if tell then [aI1 b.size] else [])).flatMap (fun l => l ++ [13, 10]) ++ 13 :: 10 :: bs b) : aP4 s = fs ∧ aM9 s = b := by
 have hm := bM5 hf;have h8 := hf.1;cases tell
 ·have h := dC0 (xs := fs) (s := s) (body := bs b) (by rw [hs]; simp) (fun f hf => cS0 (hm f hf)) (by omega)
  exact ⟨by rw [h.1, cS1 hm], aE3 h.2⟩
 have h := dC0 (xs := fs ++ [(clen, aB7 b.size)]) (s := s) (body := bs b) (by rw [hs]; simp [aE4, aI1, cM1, clen, ← aY2]; rfl) (fun f hf => by
  simp only [List.mem_append, List.mem_singleton] at hf
  rcases hf with hf | rfl
  ·exact cS0 (hm f hf)
  ·exact dJ0 _ (by omega)) (by simp; omega)
 exact ⟨by rw [h.1, dJ1 hm], aE3 h.2⟩
def cN1 : ByteArray := ⟨#[46, 13, 10]⟩
def aL8 (s : Tx) : ByteArray := aK5 (cutB (aK5 s aJ6) blE) cN1
def bI5 (s : Tx) : ByteArray := cutA (aK5 s aJ6) blE
theorem dC2 {s : ByteArray} {st : Int} {fs : Fs} {b : ByteArray} (h : aJ7 s st fs b) :
  bI5 s = aB7 st.toNat ∧ aP4 (aL8 s) = fs ∧ aM9 (aL8 s) = b := by
 obtain ⟨⟨hm, hf, hb⟩, rfl⟩ := h;obtain ⟨a1, a0⟩ := exq ((fs.map aE4 ++ [aI1 b.size]).flatMap (fun l => l ++ [13, 10]) ++ 13 :: 10 :: bs b)
 have e0 : bs (aL7 st fs b) = bs aJ6 ++ (numL st.toNat ++ ((32 :: []) ++ (bs cN1 ++ a1))) := by
  rw [cR3, a0]
  simp [aP9, dA7, bs, aJ6, cN1]
 have k0 := bP9 (p := aJ6) e0
 have k1 := aT1 (sep := blE) k0 rfl (fun x hx e => by
  have := (bA6 st.toNat (by omega)).2 x hx
  subst e
  unfold DigB at this
  simp at this)
 have k3 := bP9 (p := cN1) k1.2;have k4 := dC1 (s := aL8 (aL7 st fs b)) hf hb true (by rw [show bs (aL8 (aL7 st fs b)) = a1 from k3, a0]; simp);exact ⟨aE3 (by rw [aY2]; exact k1.1), k4.1, k4.2⟩
end Go.Proofs.YtiobfnpmidjijaaGreatDoor
namespace Go.Proofs.YtiobfnpmidjijaaGreatDoor
open Go.Proofs.Tryz
open Go.RowKit
open Go.Lib hiding intOf
def objW : ByteArray := ⟨#[111, 98, 106, 32]⟩
def nlE : ByteArray := ⟨#[10]⟩
def aK1 (p : Tx) (t : Int) (n : Nat) : ByteArray := objW ++ p ++ ⟨#[32]⟩ ++ aB7 t.toNat ++ ⟨#[32]⟩ ++ aB7 n ++ ⟨#[10]⟩
def aG0 (h : Tx) (ys : Ts) : Nat → ByteArray
 | 0 => h
 | k + 1 => aG0 h ys k ++ aA7 ys k ++ ⟨#[10]⟩
def objT (p : Tx) (ys : Ts) (st : Int) (fs : Fs) (b : Tx) (t : Int) : ByteArray :=
 aG0 (aK1 p t ys.length) ys ys.length ++ aL7 st fs b
def aG2 (s p : Tx) (ys : Ts) (st : Int) (fs : Fs) (b : Tx) (t : Int) : Prop :=
 ObjP p (aC1 fs) ys st fs b t ∧ objT p ys st fs b t = s
def lnL (ys : Ts) : List UInt8 := ys.flatMap (fun y => bs y ++ [10])
theorem bQ0 (h : Tx) (ys : Ts) : ∀ k, k ≤ ys.length → bs (aG0 h ys k) = bs h ++ lnL (ys.take k)
 | 0, _ => by simp [aG0, lnL]
 | k + 1, hk => by
  rw [aG0, aF7, aF7, bQ0 h ys k (by omega), aJ4 ys k (by omega)]
  simp [lnL, bs]
theorem cN2 (p : Tx) (t : Int) (n : Nat) : bs (aK1 p t n) = bs objW ++ (bs p ++ ((32 :: []) ++ (numL t.toNat ++ ((32 :: []) ++ (numL n ++ (10 :: [])))))) := by
 unfold aK1;simp only [aF7, aY2, List.append_assoc]
 rfl
theorem cC7 (p : Tx) (ys : Ts) (st : Int) (fs : Fs) (b : Tx) (t : Int) : bs (objT p ys st fs b t) = bs objW ++ (bs p ++ ((32 :: []) ++ (numL t.toNat ++ ((32 :: []) ++ (numL ys.length ++ ((10 :: []) ++ (lnL ys ++ bs (aL7 st fs b)))))))) := by
 unfold objT;rw [aF7, bQ0 _ _ _ (Nat.le_refl _), cN2, List.take_length];simp only [List.append_assoc]
theorem cC8 {p : ByteArray} (h : aI9 p) : ∀ b ∈ bs p, b ≠ 32 ∧ b ≠ 10 := fun x hx => by
 have := bO4 h.1 x hx
 unfold aV3 at this
 constructor
 · intro e; subst e; simp at this
 · intro e; subst e; simp at this
theorem bX7 (n : Nat) (h : n ≤ 1000000) : ∀ b ∈ numL n, b ≠ 32 ∧ b ≠ 10 := fun x hx => by
 have := (bA6 n h).2 x hx
 unfold DigB at this
 constructor
 · intro e; subst e; simp at this
 · intro e; subst e; simp at this
theorem dL8 {y : ByteArray} (h : aK7 y) : ∀ b ∈ bs y, b ≠ 10 := fun x hx e => by
 have := bO4 h.2.2.1 x hx
 subst e
 unfold ValB at this
 simp at this
def lnTo (x : Tx) : Nat → Ts × ByteArray
 | 0 => ([], x)
 | k + 1 => ((lnTo x k).1 ++ [cutA (lnTo x k).2 nlE], cutB (lnTo x k).2 nlE)
theorem aV9 (x : Tx) : ∀ k, (lnTo x k).1.length = k ∧ (lnTo x k).2.size ≤ x.size ∧ ∀ y ∈ (lnTo x k).1, y.size ≤ x.size
 | 0 => ⟨rfl, Nat.le_refl _, fun y hy => by simp [lnTo] at hy⟩
 | k + 1 => by
  obtain ⟨h1, h2, h3⟩ := aV9 x k
  refine ⟨by simp [lnTo, h1], Nat.le_trans (aH1 _ _) h2, fun y hy => ?_⟩
  rw [lnTo] at hy
  rcases List.mem_append.1 hy with hy | hy
  · exact h3 y hy
  ·rw [List.mem_singleton.1 hy]
   exact Nat.le_trans (aF9 _ _) h2
theorem bX8 {x : ByteArray} {ys : Ts} {rest : List UInt8} (hx : bs x = lnL ys ++ rest) (hy : ∀ y ∈ ys, ∀ b ∈ bs y, b ≠ 10) : ∀ k, k ≤ ys.length → (lnTo x k).1 = ys.take k ∧ bs (lnTo x k).2 = lnL (ys.drop k) ++ rest
 | 0, _ => by simp [lnTo, hx]
 | k + 1, hk => by
  obtain ⟨h1, h2⟩ := bX8 hx hy k (by omega)
  have hlt : k < ys.length := by omega
  have e : ys.drop k = aA7 ys k :: ys.drop (k + 1) := by
   rw [List.drop_eq_getElem_cons hlt]
   congr 1
   unfold aA7
   rw [List.getD_eq_getElem?_getD, List.getElem?_eq_getElem hlt]
   rfl
  have h3 : bs (lnTo x k).2 = bs (aA7 ys k) ++ ((10 :: []) ++ (lnL (ys.drop (k + 1)) ++ rest)) := by
   rw [h2, e]
   simp [lnL]
  have hc := aT1 (sep := nlE) h3 rfl (hy _ (aG7 ys k hlt))
  refine ⟨?_, hc.2⟩
  rw [lnTo, h1, aJ4 ys k hlt]
  exact congrArg (fun z => ys.take k ++ [z]) (aE3 hc.1)
def bU8 (s : Tx) : ByteArray := cutB (aK5 s objW) blE
def cN3 (s : Tx) : ByteArray := cutB (bU8 s) blE
def bD8 (s : Tx) : ByteArray := cutB (cN3 s) nlE
theorem bX9 (s : Tx) : (bU8 s).size ≤ s.size := Nat.le_trans (aH1 _ _) (aI6 _ _)
theorem bY0 (s : Tx) : (cN3 s).size ≤ s.size := Nat.le_trans (aH1 _ _) (bX9 s)
theorem cV6 (s : Tx) : (bD8 s).size ≤ s.size := Nat.le_trans (aH1 _ _) (bY0 s)
theorem bB2 {s p : ByteArray} {ys : Ts} {st : Int} {fs : Fs} {b : ByteArray} {t : Int} (h : aG2 s p ys st fs b t) :
  cutA (aK5 s objW) blE = p ∧ cutA (bU8 s) blE = aB7 t.toNat ∧ cutA (cN3 s) nlE = aB7 ys.length ∧ (lnTo (bD8 s) ys.length).1 = ys ∧ (lnTo (bD8 s) ys.length).2 = aL7 st fs b ∧ ys.length ≤ 4 := by
 obtain ⟨⟨hr, hp, ht, a0, _, hl, hv⟩, rfl⟩ := h;have h4 : ys.length ≤ 4 := by rw [hl]; exact a0.2
 have e0 := cC7 p ys st fs b t;have k0 := bP9 (p := objW) e0;have k1 := aT1 (sep := blE) k0 rfl (fun x hx => (cC8 hp x hx).1)
 have k2 := aT1 (sep := blE) k1.2 rfl (fun x hx => (bX7 t.toNat (by omega) x hx).1)
 have k3 := aT1 (sep := nlE) k2.2 rfl (fun x hx => (bX7 ys.length (by omega) x hx).2)
 have k4 := bX8 (x := bD8 (objT p ys st fs b t)) k3.2 (fun y hy => dL8 (hv y hy)) ys.length (Nat.le_refl _)
 refine ⟨aE3 k1.1, aE3 (by rw [aY2]; exact k2.1), aE3 (by rw [aY2]; exact k3.1), ?_, aE3 ?_, h4⟩
 ·rw [k4.1, List.take_length]
 rw [k4.2, List.drop_length]; rfl
theorem dC3 {a b : Nat} (ha : a ≤ 1000000) (hb : b ≤ 1000000) (h : aB7 a = aB7 b) : a = b := by
 have h1 := congrArg bs h;rw [aY2, aY2] at h1;rw [← aK3 a ha, ← aK3 b hb, h1]
theorem aG2.uniq {s p p' : ByteArray} {ys ys' : Ts} {st st' : Int} {fs fs' : Fs} {b b' : ByteArray} {t t' : Int} (h : aG2 s p ys st fs b t) (h' : aG2 s p' ys' st' fs' b' t') : p = p' ∧ ys = ys' ∧ st = st' ∧ fs = fs' ∧ b = b' ∧ t = t' := by
 obtain ⟨a1, a2, a3, a4, a5, a6⟩ := bB2 h;obtain ⟨c1, c2, c3, c4, c5, c6⟩ := bB2 h';have ht := h.1.2.2.1;have a0 := h'.1.2.2.1;have e2 := dC3 (by omega) (by omega) (a2.symm.trans c2);have e3 := dC3 (by omega) (by omega) (a3.symm.trans c3);rw [e3] at a4 a5;have e5 := a5.symm.trans c5;obtain ⟨q1, q2, q3⟩ := aJ7.uniq (s := aL7 st fs b) ⟨h.1.1, rfl⟩ ⟨h'.1.1, e5.symm⟩;exact ⟨a1.symm.trans c1, a4.symm.trans c4, q1, q2, q3, by omega⟩
def dC4 (s : Tx) (f i : Nat) : Prop := ∃ h : i < s.size, f ≤ i ∧ (s[i]'h).toNat = 10 ∧ ∀ j (hj : j < i), f ≤ j → (s[j]'(by omega)).toNat ≠ 10
theorem cS2 {s : ByteArray} {j : Nat} (h : j < s.size) : (bs s)[j]? = some (s[j]'h) := by
 rw [List.getElem?_eq_getElem (by rw [aC4]; exact h), dM5 s j h]
theorem cC9 {s : ByteArray} {pre l rest : List UInt8} {f i : Nat} (hs : bs s = pre ++ (l ++ 10 :: rest)) (hf : pre.length = f) (hl : ∀ b ∈ l, b ≠ 10) (h : dC4 s f i) : i = f + l.length ∧ bs (s.extract f i) = l := by
 obtain ⟨hi, h1, h2, h3⟩ := h
 have a0 : i = f + l.length := by
  rcases Nat.lt_trichotomy i (f + l.length) with a2 | he | a1
  ·exfalso
   have e := cS2 hi
   rw [hs, List.getElem?_append_right (by omega), List.getElem?_append_left (by omega)] at e
   have hm := List.mem_of_getElem? e
   apply hl _ hm
   exact UInt8.toNat_inj.1 h2
  ·exact he
  ·exfalso
   have hj : f + l.length < s.size := by omega
   have e := cS2 hj
   rw [hs, List.getElem?_append_right (by omega), List.getElem?_append_right (by omega), show f + l.length - pre.length - l.length = 0 by omega] at e
   simp only [List.getElem?_cons_zero, Option.some.injEq] at e
   exact h3 (f + l.length) a1 (by omega) (by rw [← e]; rfl)
 refine ⟨a0, ?_⟩;subst hf;rw [aE2, hs, a0, List.take_length_add_append, List.drop_left, List.take_left]
theorem bF3 {s : ByteArray} {pre l rest : List UInt8} {f : Nat} (hs : bs s = pre ++ (l ++ 10 :: rest)) (hf : pre.length = f) (h : ∀ j (hj : j < s.size), f ≤ j → (s[j]'hj).toNat ≠ 10) : False := by
 have hz := congrArg List.length hs;rw [aC4] at hz;simp at hz
 have hj : f + l.length < s.size := by omega
 have e := cS2 hj;rw [hs, List.getElem?_append_right (by omega), List.getElem?_append_right (by omega), show f + l.length - pre.length - l.length = 0 by omega] at e;simp only [List.getElem?_cons_zero, Option.some.injEq] at e
 exact h (f + l.length) hj (by omega) (by rw [← e]; rfl)
def objL : List UInt8 := [111, 98, 106]
def aX2 (p : Tx) (t : Int) (n : Nat) : List UInt8 := objL ++ 32 :: (bs p ++ 32 :: (numL t.toNat ++ 32 :: numL n))
theorem bF4 {s p : ByteArray} {ys : Ts} {st : Int} {fs : Fs} {b : ByteArray} {t : Int} (h : aG2 s p ys st fs b t) :
  bs s = [] ++ (aX2 p t ys.length ++ 10 :: (lnL ys ++ bs (aL7 st fs b))) ∧ (∀ b ∈ aX2 p t ys.length, b ≠ 10) ∧ aG6 [] [] (aX2 p t ys.length) = [objL, bs p, numL t.toNat, numL ys.length] ∧ (aX2 p t ys.length).length + 1 = (aK1 p t ys.length).size := by
 obtain ⟨⟨hr, hp, ht, a0, _, hl, hv⟩, rfl⟩ := h;have h4 : ys.length ≤ 4 := by rw [hl]; exact a0.2
 have n1 := bX7 t.toNat (by omega);have n2 := bX7 ys.length (by omega);refine ⟨?_, ?_, ?_, ?_⟩
 ·rw [cC7];simp [aX2, objL, objW, bs]
 ·intro x hx;unfold aX2 at hx;simp only [List.mem_append, List.mem_cons] at hx
  rcases hx with hx | hx | hx | hx | hx | hx | hx
  ·simp [objL] at hx; rcases hx with rfl | rfl | rfl <;> decide
  ·subst hx; decide
  ·exact (cC8 hp x hx).2
  ·subst hx; decide
  ·exact (n1 x hx).2
  ·subst hx; decide
  exact (n2 x hx).2
 ·unfold aX2;rw [aK0 _ _ (by unfold objL; decide), aK0 _ _ (fun x hx => (cC8 hp x hx).1), aK0 _ _ (fun x hx => (n1 x hx).1), bA5 _ (fun x hx => (n2 x hx).1)]
  rfl
 rw [← aC4, cN2];simp [aX2, objL, objW, bs]
 omega
theorem cS3 {s p : ByteArray} {ys : Ts} {st : Int} {fs : Fs} {b : ByteArray} {t : Int} (h : aG2 s p ys st fs b t) (k : Nat) (hk : k < ys.length) :
  ∃ rest, bs s = bs (aG0 (aK1 p t ys.length) ys k) ++ (bs (aA7 ys k) ++ 10 :: rest) := by
 have e : ys.drop k = aA7 ys k :: ys.drop (k + 1) := by
  rw [List.drop_eq_getElem_cons hk]
  congr 1
  unfold aA7
  rw [List.getD_eq_getElem?_getD, List.getElem?_eq_getElem hk]
  rfl
 have e2 : lnL ys = lnL (ys.take k) ++ (bs (aA7 ys k) ++ 10 :: lnL (ys.drop (k + 1))) := by
  conv => lhs; rw [← List.take_append_drop k ys, e]
  simp [lnL]
 refine ⟨lnL (ys.drop (k + 1)) ++ bs (aL7 st fs b), ?_⟩;rw [← h.2, cC7, bQ0 _ _ _ (by omega), cN2, e2];simp only [List.append_assoc, List.cons_append, List.nil_append]
theorem cS4 {s p : ByteArray} {ys : Ts} {st : Int} {fs : Fs} {b : ByteArray} {t : Int} (h : aG2 s p ys st fs b t) :
  s.extract (aG0 (aK1 p t ys.length) ys ys.length).size s.size = aL7 st fs b := by
 apply aE3
 rw [aE2, ← aC4 s, List.take_length, ← h.2];unfold objT;rw [aF7, ← aC4];simp
theorem bI6 {p : ByteArray} {xs ys : Ts} {st : Int} {fs : Fs} {b : ByteArray} {t : Int} (h : ObjP p xs ys st fs b t) : ∀ k, k ≤ ys.length → (aG0 (aK1 p t ys.length) ys k).size ≤ 100 + 61 * k
 | 0, _ => by
  have h1 := h.2.1.2.2.1
  have h2 := aD8 t.toNat
  have h3 := aD8 ys.length
  have e1 : objW.size = 4 := rfl
  have e2 : (⟨#[32]⟩ : Tx).size = 1 := rfl
  have e3 : (⟨#[10]⟩ : Tx).size = 1 := rfl
  unfold aG0 aK1
  simp only [ByteArray.size_append]
  omega
 | k + 1, hk => by
  have h1 := bI6 h k (by omega)
  have h2 := (h.2.2.2.2.2.2 _ (aG7 ys k (by omega))).2.1
  have e3 : (⟨#[10]⟩ : Tx).size = 1 := rfl
  rw [aG0]
  simp only [ByteArray.size_append]
  omega
theorem bY1 {st : Int} {fs : Fs} {b : ByteArray} (h : aN1 st fs b) : (aL7 st fs b).size ≤ 1000 := by
 have h1 := bM6 h.2.1;have h2 := aD8 st.toNat;have h3 := aD8 b.size;have h4 := h.2.2;have e1 : aJ6.size = 9 := rfl;have e2 : cR2.size = 4 := rfl;have e3 : dH5.size = 16 := rfl;have e4 : lnE2.size = 4 := rfl;unfold aL7;simp only [ByteArray.size_append]
 omega
theorem aC9 {t : Int} (h : 0 ≤ t) : aD1 t = aB7 t.toNat := by unfold aD1; rw [if_neg (by omega)]
theorem bQ1 (n : Nat) (h : n ≤ 1000000) : aO1 (aB7 n) := by
 have hd := bA6 n h;have hv := aK3 n h
 have hl : (numL n).length ≤ 7 := by
  unfold numL at *
  rw [if_neg (by omega)] at *
  by_cases h0 : n = 0
  ·rw [if_pos h0]; simp
  ·rw [if_neg h0] at *
   have hh := (bM4 8 n (by omega)).1
   have h3 := cQ8 (dgF 8 n) hd.2 hh hd.1
   rw [hv] at h3
   rcases Nat.lt_or_ge 7 (dgF 8 n).length with h4 | h4
   ·have := Nat.pow_le_pow_right (show 0 < 10 by omega) (show 7 ≤ (dgF 8 n).length - 1 by omega)
    omega
   ·exact h4
 have hs : (aB7 n).size = (numL n).length := by simp [aB7, ByteArray.size]
 have h1 : 1 ≤ (aB7 n).size := by
  rw [hs]
  exact List.length_pos_iff.2 hd.1
 refine (cZ4 (aB7 n) h1 (by omega) hd.2).1 ?_;show aB7 (valL (numL n)) = aB7 n
 rw [hv]
theorem aJ7.parts {s : ByteArray} {st : Int} {fs : Fs} {b : ByteArray} (h : aJ7 s st fs b) {xs : Ts} {k : Nat} {ws : Ts} {l : Fs} (hp : dN4 s xs k ws l) :
  ∃ x y, ws = [x, aB7 st.toNat, y] ∧ l = fs ∧ s.extract k s.size = b := by
 have e := hp.head.symm.trans (aV4 h);simp only [Prod.mk.injEq, Option.some.injEq] at e
 obtain ⟨e1, e2⟩ := e
 obtain ⟨x0, xr, rfl⟩ : ∃ x0 xr, xs = x0 :: xr := by
  cases xs with
  | nil => exact absurd rfl hp.ne
  | cons a r => exact ⟨a, r, rfl⟩
 simp only [List.map_cons, List.cons.injEq] at e1
 have hw := hp.words;simp only [List.headD_cons] at hw
 rw [e1.1, bA7 h.1.1] at hw;have hf := hp.fields;simp only [List.tail_cons] at hf
 rw [e1.2, bD4 h.1.2.1] at hf;refine ⟨⟨dA7.toArray⟩, ⟨#[46]⟩, bX4 (by rw [← hw]; rfl), (bO6 hf).symm, aE3 ?_⟩;rw [aE2, List.take_of_length_le (i := s.size) (l := bs s) (by rw [aC4]; omega)];exact e2
def dC5 (s : Tx) (w : World) (e : Ending) (w' : World) : Prop :=
 (∃ (m : Int) (fs : Fs) (b : Tx) (v : Value), e = .returned (.tuple #[.agg #[.int .i64 m, v, .string b], .bool true]) ∧ aJ7 s m fs b ∧ w'.ownsRow w.heap.size 232 2 v fs.length (aE5 fs) ∧ Below w.heap.size w w') ∨
 (e = .returned (.tuple #[.agg #[.int .i64 0, .slice none 0 0, .string ⟨#[]⟩], .bool false]) ∧ (∀ m fs b, ¬ aJ7 s m fs b) ∧ Below w.heap.size w w')
theorem aY3 (s : Tx) (w : World) (hs : s.size ≤ 3000000) :
  Calls prog 214 #[.string s] w fun e w' => dC5 s w e w' := by
 obtain ⟨R, hR⟩ := exq (w.heap.size);have d0 : w.heap.size ≤ R := by omega
 have HZ : Hid (∀ W, Below (w.alloc (.cells #[.int .i64 0, .slice none 0 0, .string ⟨#[]⟩] 34)).heap.size (w.alloc (.cells #[.int .i64 0, .slice none 0 0, .string ⟨#[]⟩] 34)) W → W.heap[R]? = some (.cells #[.int .i64 0, .slice none 0 0, .string ⟨#[]⟩] 34) ∧ Bw w W) := fun W h => ⟨by rw [hR]; exact aW8 h, aI4 h⟩
 have j3 : w.heap.size ≤ (w.alloc (.cells #[.int .i64 0, .slice none 0 0, .string ⟨#[]⟩] 34)).heap.size := by simp
 go_enter func214, ntmps214;go_wp2_with fail
 refine (cU8 s _ (by omega)).mono ?_;rintro e w1 ⟨v, xs, l7, rfl, a5, k3, e4, hd⟩;rw [← hR];clear hR;rcases hd with ⟨rfl, hh⟩ | ⟨k, rfl, hk, hh⟩
 ·obtain ⟨z, a3⟩ := HZ.out w1 e4;obtain ⟨⟨c0, c1, c2⟩, f0, f1, f2⟩ := aC3 z;obtain ⟨⟨k0, k1, k2⟩, _⟩ := aC3 (aL4 z (.int .i64 0) (.slice none 0 0) (.string ⟨#[]⟩));have b5 : Hid (Bw w (aD2 w1 R (.int .i64 0) (.slice none 0 0) (.string ⟨#[]⟩))) := aH0 a3 d0
  have c6 : Hid (∀ m fs b, ¬ aJ7 s m fs b) := fun m fs b h => by
     have e := hh.symm.trans (aV4 h)
     simp at e
  unfold aD2 at k0 k1 k2;clear z a3 HZ hh a5 e4;go_wp2_with fail
  exact bodyPost_ret (v := .tuple #[.agg #[.int .i64 0, .slice none 0 0, .string ⟨#[]⟩], .bool false]) (by simp [results, results214, go_sem, k0, k1, k2]) rfl (.inr ⟨rfl, c6.out, b5.out⟩)
 by_cases d1 : xs = []
 ·subst d1;obtain ⟨oa, cp, rfl, _, _⟩ | ⟨g, cp, _, h0, _⟩ := aM8 a5
  ·obtain ⟨z, a3⟩ := HZ.out w1 e4;obtain ⟨⟨c0, c1, c2⟩, f0, f1, f2⟩ := aC3 z;obtain ⟨⟨k0, k1, k2⟩, _⟩ := aC3 (aL4 z (.int .i64 0) (.slice none 0 0) (.string ⟨#[]⟩));have b5 : Hid (Bw w (aD2 w1 R (.int .i64 0) (.slice none 0 0) (.string ⟨#[]⟩))) := aH0 a3 d0
   have c6 : Hid (∀ m fs b, ¬ aJ7 s m fs b) := fun m fs b h => by
        have e := hh.symm.trans (aV4 h)
        simp at e
   unfold aD2 at k0 k1 k2;clear z a3 HZ hh a5 e4;go_wp2_with fail
   exact bodyPost_ret (v := .tuple #[.agg #[.int .i64 0, .slice none 0 0, .string ⟨#[]⟩], .bool false]) (by simp [results, results214, go_sem, k0, k1, k2]) rfl (.inr ⟨rfl, c6.out, b5.out⟩)
  simp at h0
 have j4 : 0 < xs.length := List.length_pos_iff.2 d1;obtain ⟨_, _, _, h0, _⟩ | ⟨g, cp, rfl, _, d2⟩ := aM8 a5
 ·omega
 obtain ⟨x0, hx⟩ := exq (aA7 xs 0);have j5 := d2.cell 0 j4;rw [← hx] at j5
 have j6 : bs x0 ∈ (aO2 [] [] (bs s)).1 := by
  rw [hh, hx]
  cases xs with
  | nil => exact absurd rfl d1
  | cons y r => simp [aA7]
 have k4 : x0.size ≤ s.size := by
  rcases bP1 _ (bs s) [] [] (Nat.le_refl _) _ j6 with h1 | h1
  ·simp at h1
  ·rw [aC4, aC4] at h1; simpa using h1
 have g7 : Hid (Below (w.alloc (.cells #[.int .i64 0, .slice none 0 0, .string ⟨#[]⟩] 34)).heap.size (w.alloc (.cells #[.int .i64 0, .slice none 0 0, .string ⟨#[]⟩] 34)) w1) := e4;have b3 : Hid (aF1 (w.alloc (.cells #[.int .i64 0, .slice none 0 0, .string ⟨#[]⟩] 34)).heap.size w1 g xs.length cp xs) := d2;have HX := hid hx;have HH := hid hh;have e6 := hid d1;clear hx hh d1;obtain ⟨nx, g8⟩ := exq xs.length;have k5 := hid g8;rw [← g8] at j4 k3 b3 ⊢;clear g8;have k6 : (0 : Int) < (nx : Int) := by omega
 have k7 : ((nx : Int) == 0) = false := by rw [beq_eq_false_iff_ne]; omega
 have l8 : ¬ (k : Int) < 0 := by omega
 clear e4 d2 a5 j6;go_wp2_with fail
 refine (aL3 x0 _ (by omega)).mono ?_;rintro e w2 ⟨wv, ws, rfl, b4, k8, f9, hwd⟩;have e8 := hid hwd;clear hwd;have g9 : Below (w.alloc (.cells #[.int .i64 0, .slice none 0 0, .string ⟨#[]⟩] 34)).heap.size (w.alloc (.cells #[.int .i64 0, .slice none 0 0, .string ⟨#[]⟩] 34)) w2 := g7.out.trans (f9.mono g7.out.size);by_cases h3 : ws.length = 3
 rotate_left
 ·have k9 : ((ws.length : Int) != 3) = true := by rw [bne_iff_ne]; omega
  obtain ⟨oa, l0, rfl⟩ : ∃ oa cp, wv = .slice oa ws.length cp := by
   obtain ⟨oa, cp, h1, h2, _⟩ | ⟨g, cp, h1, _⟩ := aM8 b4
   ·exact ⟨oa, cp, by rw [h1, h2]⟩
   ·exact ⟨_, cp, h1⟩
  obtain ⟨z, a3⟩ := HZ.out w2 g9;obtain ⟨⟨c0, c1, c2⟩, f0, f1, f2⟩ := aC3 z;obtain ⟨⟨k0, k1, k2⟩, _⟩ := aC3 (aL4 z (.int .i64 0) (.slice none 0 0) (.string ⟨#[]⟩));have b5 : Hid (Bw w (aD2 w2 R (.int .i64 0) (.slice none 0 0) (.string ⟨#[]⟩))) := aH0 a3 d0
  have c6 : Hid (∀ m fs b, ¬ aJ7 s m fs b) := fun m fs b h => by
       have e := HH.out.symm.trans (aV4 h)
       have hwd := e8.out
       have hx := HX.out
       have d1 := e6.out
       cases xs with
       | nil => exact absurd rfl d1
       | cons y r =>
        simp only [List.map_cons, Prod.mk.injEq, List.cons.injEq] at e
        have : x0 = y := hx
        rw [this, e.1.1, bA7 h.1.1] at hwd
        have := congrArg List.length hwd
        simp at this; omega
  unfold aD2 at k0 k1 k2;clear z a3 HZ HH b4 f9 g7 b3 e8 HX e6 k5;go_wp2_with fail
  exact bodyPost_ret (v := .tuple #[.agg #[.int .i64 0, .slice none 0 0, .string ⟨#[]⟩], .bool false]) (by simp [results, results214, go_sem, k0, k1, k2]) rfl (.inr ⟨rfl, c6.out, b5.out⟩)
 obtain ⟨wa, wp, wc, rfl⟩ : ∃ a b c, ws = [a, b, c] := by
  match ws, h3 with
  | [a, b, c], _ => exact ⟨a, b, c, rfl⟩
 clear h3;obtain ⟨_, _, _, h0, _⟩ | ⟨g2, l0, rfl, _, d3⟩ := aM8 b4
 ·simp at h0
 have l9 : wp.size ≤ s.size := by
  have hm : bs wp ∈ aG6 [] [] (bs x0) := by rw [e8.out]; simp
  rcases aV5 (bs x0) [] [] _ hm with h1 | h1
  ·simp at h1
  ·rw [aC4, aC4] at h1; simp at h1; omega
 have ha := d3.cell 0 (by simp);have h4 := d3.cell 1 (by simp);have ha : w2.cell? ⟨g2, 0, none⟩ = some (.string wa) := ha;have h4 : w2.cell? ⟨g2, 1, none⟩ = some (.string wp) := h4;have b6 := hid g9;have i0 : Hid (Below w1.heap.size w1 w2) := f9;have m0 : (k : Int) ≤ (s.size : Int) := by omega
 have m1 : (1 : Int) ≤ (nx : Int) := by omega
 clear b4 d3 f9 g9 k8 j5;have a4 : aF1 (w.alloc (.cells #[.int .i64 0, .slice none 0 0, .string ⟨#[]⟩] 34)).heap.size w2 g nx cp xs := b3.out.below i0.out b3.out.lt;have j7 := a4.len
 obtain ⟨aT, hA, g3⟩ : ∃ aT : Addr, (if cp = 1 then some (⟨g, 0, none⟩ : Addr) else some ⟨g, 1, none⟩) = some aT ∧ Hid (∀ W, Below w2.heap.size w2 W → bX3 W W.heap.size (some aT) (nx - 1) xs.tail) := by
  have m2 := a4.le
  by_cases h : cp = 1
  ·refine ⟨⟨g, 0, none⟩, by simp [h], fun W hW => ⟨by simp; omega, fun i hi => ?_⟩⟩
   simp at hi; omega
  ·refine ⟨⟨g, 1, none⟩, by simp [h], fun W hW => ⟨by simp; omega, fun i hi => ?_⟩⟩
   have l1 : i + 1 < nx := by simp at hi; omega
   have l2 := (a4.below hW a4.lt).cell (i + 1) l1
   refine ⟨g, 1, rfl, by have := hW.size; have := a4.lt; omega, ?_⟩
   rw [show 1 + i = i + 1 by omega, l2]
   simp [aA7, List.getD_eq_getElem?_getD, show i + 1 < xs.length by omega]
 have g4 : Hid (∀ x ∈ xs.tail, x.size ≤ 4000000) := fun x hx => by
  have hm : bs x ∈ (aO2 [] [] (bs s)).1 := by rw [HH.out]; exact List.mem_map_of_mem (List.mem_of_mem_tail hx)
  rcases bP1 _ (bs s) [] [] (Nat.le_refl _) _ hm with h1 | h1
  ·simp at h1
  ·rw [aC4, aC4] at h1; simp at h1; omega
 clear a4;go_wp2_with fail
 refine (aI3 wp _ (by unfold maxLen; omega)).mono ?_;rintro e wN ⟨nb, nn, rfl, j8, j9, l3, e9⟩;have b7 : Below w2.heap.size w2 wN := e9;have g5 : Hid ((nb = true ↔ aO1 wp) ∧ (nb = true → nn = valL wp.data.toList)) := ⟨j8, j9⟩;clear j8 j9 l3 ha h4 e9;go_wp2_with fail
 refine wp_region_held_drew (S := fun _ => True) (by kernel_rfl) trivial (fun c9 => ?_)
 refine wpAnyH_take (i := 0) (v := .int .i64 nn) rfl (by kernel_rfl) (by kernel_rfl) (by kernel_rfl) (fun _ _ _ h => h) (Or.inl ⟨by rfl, by intro W a8; (try dsimp only at a8); go_simp⟩) (by assumption) ?_
 refine wpAnyH_take (i := 1) (v := .slice (some ⟨g, 0, none⟩) nx cp) rfl (by kernel_rfl) (by kernel_rfl) (by kernel_rfl) (fun _ _ _ h => h) (Or.inl ⟨by rfl, by intro W a8; (try dsimp only at a8); go_simp⟩) (by assumption) ?_
 refine wpAnyH_take (i := 2) (v := .slice (some aT) (nx - 1) (cp - 1)) rfl (by kernel_rfl) (by kernel_rfl) (by kernel_rfl) (fun _ _ _ h => h) (Or.inl ⟨by rfl, by intro W a8; (try dsimp only at a8); go_simp⟩) (by assumption) ?_
 refine wpAnyH_take (i := 4) (v := .string s) rfl (by kernel_rfl) (by kernel_rfl) (by kernel_rfl) (fun _ _ _ h => h) (Or.inl ⟨by rfl, by intro W a8; (try dsimp only at a8); go_simp⟩) (by assumption) ?_
 refine wpAnyH_take (i := 5) (v := .int .i64 (k : Int)) rfl (by kernel_rfl) (by kernel_rfl) (by kernel_rfl) (fun _ _ _ h => h) (Or.inl ⟨by rfl, by intro W a8; (try dsimp only at a8); go_simp⟩) (by assumption) ?_
 refine wpAnyH_take (i := 6) (v := .string (s.extract k s.size)) rfl (by kernel_rfl) (by kernel_rfl) (by kernel_rfl) (fun _ _ _ h => h) (Or.inl ⟨by rfl, by intro W a8; (try dsimp only at a8); go_simp⟩) (by assumption) ?_
 refine wpAnyH_ready (rs := [3, 8]) (by kernel_rfl) (by simp) ?_;refine AllReadyH.cons rfl (fun K hK => ?_) (AllReadyH.cons rfl (fun K hK => ?_) AllReadyH.nil)
 ·go_simp;refine (bK4 (some aT) (nx - 1) (cp - 1) xs.tail _ (g3.out _ (b7.trans ((Below.refl wN.heap.size wN).drew.mono b7.size))) (by omega) g4.out).mono ?_;rintro e w3 ⟨fv, l, rfl, a1, i1, d4, f3⟩;obtain ⟨fo, fc, rfl⟩ := aA0 a1;have e7 : Below wN.heap.size wN w3 := (Below.refl wN.heap.size wN).drew.trans (d4.mono (Below.refl wN.heap.size wN).drew.size);refine hK.out _ _ trivial (fun a9 => ?_)
  clear hK K c9;refine wpAnyH_take (i := 7) (v := .agg #[.int .i64 nn, .slice fo l.length fc, .string (s.extract k s.size)]) rfl (by kernel_rfl) (by kernel_rfl) (by kernel_rfl) (fun _ _ _ h => h) (Or.inl ⟨by rfl, by intro W a8; (try dsimp only at a8); go_simp⟩) (by assumption) ?_
  refine rd1 8 rfl (fun K hK => ?_)
  go_simp;refine hK.out _ _ trivial (fun b0 => ?_)
  clear hK K a9;refine rd1 9 rfl (fun K hK => ?_)
  go_simp;refine hK.out _ _ trivial (fun b1 => ?_)
  clear hK K b0;refine wdn ?_;clear b1;obtain ⟨r, hr⟩ := exq (w3.heap.size);obtain ⟨w4, b8⟩ := exq (w3.alloc (.cells #[.int .i64 nn, .slice fo l.length fc, .string (s.extract k s.size)] 34));have b9 : w4.heap[r]? = some (.cells #[.int .i64 nn, .slice fo l.length fc, .string (s.extract k s.size)] 34) := by rw [b8, hr]; exact heap_alloc_new w3 _
  have d5 : Below w3.heap.size w3 w4 := by rw [b8]; exact (Below.refl _ w3).alloc (Nat.le_refl _) _
  have i2 : Below wN.heap.size wN w4 := e7.trans (d5.mono e7.size);have i3 : r < w4.heap.size := by rw [b8, hr]; simp
  have a6 : w4.ownsRow wN.heap.size 232 2 (.slice fo l.length fc) l.length (aE5 l) := aA8 a1 d5 (fun g hg => aB0 a1 hg)
  rw [← hr, ← b8];clear hr b8 d5 a1 d4 e7 g3 g4 hA;obtain ⟨a0, a2⟩ := exq (s.extract k s.size);rw [← a2] at b9 ⊢;have a7 := hid a2;have f4 := hid f3;have d6 := hid a6;have i4 : Hid (aR0 l.length l) := bP3 HH.out f4.out (by unfold maxLen; omega);have l4 : a0.size ≤ s.size := by rw [a7.out]; simp
  have f5 : Hid (Below (w.alloc (.cells #[.int .i64 0, .slice none 0 0, .string ⟨#[]⟩] 34)).heap.size (w.alloc (.cells #[.int .i64 0, .slice none 0 0, .string ⟨#[]⟩] 34)) w4) := (b6.out.trans (b7.mono b6.out.size)).trans (i2.mono (Nat.le_trans b6.out.size b7.size));have i5 : l.length ≤ 3000000 := by simp at i1; omega
  have i6 := hid b9;obtain ⟨⟨c0, c1, c2⟩, f0, f1, f2⟩ := aC3 b9;clear a2 f3 a6 b9;go_wp2_with fail
  refine (aR1 nn _ a0 l.length _ l _ (aB4.of_owns d6.out) (by omega) i4.out (by unfold maxLen; omega)).mono ?_;rintro e w7 ⟨t, rfl, c7, d7, c3⟩;have d8 : w7.heap[r]? = some (.cells #[.int .i64 nn, .slice fo l.length fc, .string a0] 34) := by rw [c3.block r i3]; exact i6.out
  have c8 : Below (w.alloc (.cells #[.int .i64 0, .slice none 0 0, .string ⟨#[]⟩] 34)).heap.size (w.alloc (.cells #[.int .i64 0, .slice none 0 0, .string ⟨#[]⟩] 34)) w7 := f5.out.trans (c3.mono f5.out.size);clear c0 c1 c2 f0 f1 f2;obtain ⟨⟨c0, c1, c2⟩, f0, f1, f2⟩ := aC3 d8;by_cases hts : t = s
  rotate_left
  ·have ht := aB8 hts
   have c6 : Hid (∀ m fs b, ¬ aJ7 s m fs b) := fun m fs b h => by
    have i7 : dN4 s xs k [wa, wp, wc] l := ⟨HH.out, e6.out, by
     have : xs.headD ⟨#[]⟩ = x0 := by
      rw [HX.out]
      cases xs with
      | nil => exact absurd rfl e6.out
      | cons y q => rfl
     rw [this]; exact e8.out, f4.out⟩
    obtain ⟨x8, x9, e1, e2, e3⟩ := h.parts i7
    simp only [List.cons.injEq] at e1
    obtain ⟨_, e5, _⟩ := e1
    have hm := h.1.1
    have i8 : aO1 wp := by rw [e5]; exact bQ1 _ (by omega)
    have i9 : nn = m := by
     rw [g5.out.2 (g5.out.1.2 i8), e5]
     show ((valL (numL m.toNat) : Nat) : Int) = m
     rw [aK3 _ (by omega)]; omega
    have j0 : a0 = b := by rw [a7.out]; exact e3
    subst i9 j0 e2
    exact hts ((c7 h.1).trans h.2)
   obtain ⟨z, a3⟩ := HZ.out w7 c8;obtain ⟨⟨e0, e1, e2⟩, g0, g1, j1⟩ := aC3 z;obtain ⟨⟨k0, k1, k2⟩, _⟩ := aC3 (aL4 z (.int .i64 0) (.slice none 0 0) (.string ⟨#[]⟩));have b5 : Hid (Bw w (aD2 w7 R (.int .i64 0) (.slice none 0 0) (.string ⟨#[]⟩))) := aH0 a3 d0;unfold aD2 at k0 k1 k2;clear z a3 HZ c7 d7 hts c3 c8 d8;go_wp2_with fail
   exact bodyPost_ret (v := .tuple #[.agg #[.int .i64 0, .slice none 0 0, .string ⟨#[]⟩], .bool false]) (by simp [results, results214, go_sem, k0, k1, k2]) rfl (.inr ⟨rfl, c6.out, b5.out⟩)
  have ht := (aD3 _ _).2 hts
  have f6 : Hid (aN1 nn l a0) := Classical.byContradiction (fun hn => by
   have h0 := d7 hn
   rw [hts] at h0
   have hh := HH.out
   rw [h0] at hh
   simp [bs, aO2] at hh)
  have j2 : Hid (aJ7 s nn l a0) := ⟨f6.out, by rw [← c7 f6.out]; exact hts⟩;have l5 : R < wN.heap.size := (Array.getElem?_eq_some_iff.1 (HZ.out wN (b6.out.trans (b7.mono b6.out.size))).1).1;obtain ⟨z, a3⟩ := HZ.out w7 c8;obtain ⟨⟨e0, e1, e2⟩, g0, g1, j1⟩ := aC3 z;obtain ⟨⟨k0, k1, k2⟩, _⟩ := aC3 (aL4 z (.int .i64 nn) (.slice fo l.length fc) (.string a0));have b5 : Hid (Bw w (aD2 w7 R (.int .i64 nn) (.slice fo l.length fc) (.string a0))) := aH0 a3 d0
  have f7 : w7.grownBy (aD2 w7 R (.int .i64 nn) (.slice fo l.length fc) (.string a0)) (some R) := by
   unfold aD2
   exact aB6 (aB6 (aD9 _ _ _ _) (aD9 _ _ _ _)) (aD9 _ _ _ _)
  have b2 := aA8 d6.out c3 (fun g hg => aB0 d6.out hg)
  have l6 : w.heap.size ≤ wN.heap.size := Nat.le_trans j3 (Nat.le_trans b6.out.size b7.size)
  have d9 : Hid ((aD2 w7 R (.int .i64 nn) (.slice fo l.length fc) (.string a0)).ownsRow w.heap.size 232 2 (.slice fo l.length fc) l.length (aE5 l)) := by
   have h6 := b2.kept f7 (by cases h : (Value.slice fo l.length fc).ownBlock <;> simp; exact fun e => by have h7 := aC8 b2 h; omega)
   refine ⟨h6.1, ?_⟩
   rcases h6.2 with h9 | ⟨g6, c4, c5, h7, h8, h9⟩
   ·exact .inl h9
   ·exact .inr ⟨g6, c4, c5, h7, by omega, h9⟩
  unfold aD2 at k0 k1 k2;clear z a3 HZ f7 b2 c7 d7 hts c3 c8 d8;go_wp2_with fail
  exact bodyPost_ret (v := .tuple #[.agg #[.int .i64 nn, .slice fo l.length fc, .string a0], .bool true]) (by simp [results, results214, go_sem, k0, k1, k2]) rfl (.inl ⟨nn, l, a0, _, rfl, j2.out, d9.out, b5.out⟩)
 go_simp;refine hK.out _ _ trivial (fun a9 => ?_)
 clear hK K c9;refine rd1 3 rfl (fun K hK => ?_)
 go_simp;refine (bK4 (some aT) (nx - 1) (cp - 1) xs.tail _ (g3.out _ (b7.trans ((((Below.refl wN.heap.size wN).alloc (Nat.le_refl _) (.cells #[.int .i64 0, .slice none 0 0, .string ⟨#[]⟩] 34)).drew).mono b7.size))) (by omega) g4.out).mono ?_;rintro e w3 ⟨fv, l, rfl, a1, i1, d4, f3⟩;obtain ⟨fo, fc, rfl⟩ := aA0 a1;have e7 : Below wN.heap.size wN w3 := (((Below.refl wN.heap.size wN).alloc (Nat.le_refl _) (.cells #[.int .i64 0, .slice none 0 0, .string ⟨#[]⟩] 34)).drew).trans (d4.mono (((Below.refl wN.heap.size wN).alloc (Nat.le_refl _) (.cells #[.int .i64 0, .slice none 0 0, .string ⟨#[]⟩] 34)).drew).size);refine hK.out _ _ trivial (fun b0 => ?_)
 clear hK K a9;refine wpAnyH_take (i := 7) (v := .agg #[.int .i64 nn, .slice fo l.length fc, .string (s.extract k s.size)]) rfl (by kernel_rfl) (by kernel_rfl) (by kernel_rfl) (fun _ _ _ h => h) (Or.inl ⟨by rfl, by intro W a8; (try dsimp only at a8); go_simp⟩) (by assumption) ?_
 have z3 : w3.heap[wN.heap.size]? = some (.cells #[.int .i64 0, .slice none 0 0, .string ⟨#[]⟩] 34) := by
  rw [d4.block _ (by simp)]; exact heap_alloc_new wN _
 obtain ⟨⟨y0, y1, y2⟩, v0, v1, v2⟩ := aC3 z3;refine rd1 9 rfl (fun K hK => ?_)
 clear z3;go_simp
 have z3 : w3.heap[wN.heap.size]? = some (.cells #[.int .i64 0, .slice none 0 0, .string ⟨#[]⟩] 34) := by
  rw [d4.block _ (by simp)]; exact heap_alloc_new wN _
 refine hK.out _ _ trivial (fun b1 => ?_)
 clear hK K b0;refine wdn ?_;clear b1;obtain ⟨r, hr⟩ := exq (wN.heap.size);rw [← hr] at z3 ⊢;have b9 := aL4 z3 (.int .i64 nn) (.slice fo l.length fc) (.string (s.extract k s.size));obtain ⟨w4, b8⟩ := exq (aD2 w3 r (.int .i64 nn) (.slice fo l.length fc) (.string (s.extract k s.size)));rw [← b8] at b9
 have f8 : w3.grownBy w4 (some r) := by
  rw [b8]; unfold aD2
  exact aB6 (aB6 (aD9 _ _ _ _) (aD9 _ _ _ _)) (aD9 _ _ _ _)
 have i2 : Below wN.heap.size wN w4 := by rw [b8]; exact aH0 e7 (by omega)
 have i3 : r < w4.heap.size := (blt b9)
 have a6 : w4.ownsRow wN.heap.size 232 2 (.slice fo l.length fc) l.length (aE5 l) := by
  have h5 : w3.ownsRow wN.heap.size 232 2 (.slice fo l.length fc) l.length (aE5 l) := by
   refine ⟨a1.1, ?_⟩
   rcases a1.2 with h6 | ⟨g6, c4, c5, h7, h8, h9⟩
   ·exact .inl h6
   ·exact .inr ⟨g6, c4, c5, h7, by simp at h8; omega, h9⟩
  exact h5.kept f8 (by cases h : (Value.slice fo l.length fc).ownBlock <;> simp; exact fun e => by have h7 := aC8 a1 h; simp at h7; omega)
 unfold aD2 at b8;rw [← b8];clear hr b8 f8 a1 d4 e7 g3 g4 hA z3 y0 y1 y2 v0 v1 v2;obtain ⟨a0, a2⟩ := exq (s.extract k s.size);rw [← a2] at b9 ⊢;have a7 := hid a2;have f4 := hid f3;have d6 := hid a6;have i4 : Hid (aR0 l.length l) := bP3 HH.out f4.out (by unfold maxLen; omega);have l4 : a0.size ≤ s.size := by rw [a7.out]; simp
 have f5 : Hid (Below (w.alloc (.cells #[.int .i64 0, .slice none 0 0, .string ⟨#[]⟩] 34)).heap.size (w.alloc (.cells #[.int .i64 0, .slice none 0 0, .string ⟨#[]⟩] 34)) w4) := (b6.out.trans (b7.mono b6.out.size)).trans (i2.mono (Nat.le_trans b6.out.size b7.size));have i5 : l.length ≤ 3000000 := by simp at i1; omega
 have i6 := hid b9;obtain ⟨⟨c0, c1, c2⟩, f0, f1, f2⟩ := aC3 b9;clear a2 f3 a6 b9;go_wp2_with fail
 refine (aR1 nn _ a0 l.length _ l _ (aB4.of_owns d6.out) (by omega) i4.out (by unfold maxLen; omega)).mono ?_;rintro e w7 ⟨t, rfl, c7, d7, c3⟩;have d8 : w7.heap[r]? = some (.cells #[.int .i64 nn, .slice fo l.length fc, .string a0] 34) := by rw [c3.block r i3]; exact i6.out
 have c8 : Below (w.alloc (.cells #[.int .i64 0, .slice none 0 0, .string ⟨#[]⟩] 34)).heap.size (w.alloc (.cells #[.int .i64 0, .slice none 0 0, .string ⟨#[]⟩] 34)) w7 := f5.out.trans (c3.mono f5.out.size);clear c0 c1 c2 f0 f1 f2;obtain ⟨⟨c0, c1, c2⟩, f0, f1, f2⟩ := aC3 d8;by_cases hts : t = s
 rotate_left
 ·have ht := aB8 hts
  have c6 : Hid (∀ m fs b, ¬ aJ7 s m fs b) := fun m fs b h => by
   have i7 : dN4 s xs k [wa, wp, wc] l := ⟨HH.out, e6.out, by
    have : xs.headD ⟨#[]⟩ = x0 := by
     rw [HX.out]
     cases xs with
     | nil => exact absurd rfl e6.out
     | cons y q => rfl
    rw [this]; exact e8.out, f4.out⟩
   obtain ⟨x8, x9, e1, e2, e3⟩ := h.parts i7
   simp only [List.cons.injEq] at e1
   obtain ⟨_, e5, _⟩ := e1
   have hm := h.1.1
   have i8 : aO1 wp := by rw [e5]; exact bQ1 _ (by omega)
   have i9 : nn = m := by
    rw [g5.out.2 (g5.out.1.2 i8), e5]
    show ((valL (numL m.toNat) : Nat) : Int) = m
    rw [aK3 _ (by omega)]; omega
   have j0 : a0 = b := by rw [a7.out]; exact e3
   subst i9 j0 e2
   exact hts ((c7 h.1).trans h.2)
  obtain ⟨z, a3⟩ := HZ.out w7 c8;obtain ⟨⟨e0, e1, e2⟩, g0, g1, j1⟩ := aC3 z;obtain ⟨⟨k0, k1, k2⟩, _⟩ := aC3 (aL4 z (.int .i64 0) (.slice none 0 0) (.string ⟨#[]⟩));have b5 : Hid (Bw w (aD2 w7 R (.int .i64 0) (.slice none 0 0) (.string ⟨#[]⟩))) := aH0 a3 d0;unfold aD2 at k0 k1 k2;clear z a3 HZ c7 d7 hts c3 c8 d8;go_wp2_with fail
  exact bodyPost_ret (v := .tuple #[.agg #[.int .i64 0, .slice none 0 0, .string ⟨#[]⟩], .bool false]) (by simp [results, results214, go_sem, k0, k1, k2]) rfl (.inr ⟨rfl, c6.out, b5.out⟩)
 have ht := (aD3 _ _).2 hts
 have f6 : Hid (aN1 nn l a0) := Classical.byContradiction (fun hn => by
  have h0 := d7 hn
  rw [hts] at h0
  have hh := HH.out
  rw [h0] at hh
  simp [bs, aO2] at hh)
 have j2 : Hid (aJ7 s nn l a0) := ⟨f6.out, by rw [← c7 f6.out]; exact hts⟩;have l5 : R < wN.heap.size := (Array.getElem?_eq_some_iff.1 (HZ.out wN (b6.out.trans (b7.mono b6.out.size))).1).1;obtain ⟨z, a3⟩ := HZ.out w7 c8;obtain ⟨⟨e0, e1, e2⟩, g0, g1, j1⟩ := aC3 z;obtain ⟨⟨k0, k1, k2⟩, _⟩ := aC3 (aL4 z (.int .i64 nn) (.slice fo l.length fc) (.string a0));have b5 : Hid (Bw w (aD2 w7 R (.int .i64 nn) (.slice fo l.length fc) (.string a0))) := aH0 a3 d0
 have f7 : w7.grownBy (aD2 w7 R (.int .i64 nn) (.slice fo l.length fc) (.string a0)) (some R) := by
  unfold aD2
  exact aB6 (aB6 (aD9 _ _ _ _) (aD9 _ _ _ _)) (aD9 _ _ _ _)
 have b2 := aA8 d6.out c3 (fun g hg => aB0 d6.out hg)
 have l6 : w.heap.size ≤ wN.heap.size := Nat.le_trans j3 (Nat.le_trans b6.out.size b7.size)
 have d9 : Hid ((aD2 w7 R (.int .i64 nn) (.slice fo l.length fc) (.string a0)).ownsRow w.heap.size 232 2 (.slice fo l.length fc) l.length (aE5 l)) := by
  have h6 := b2.kept f7 (by cases h : (Value.slice fo l.length fc).ownBlock <;> simp; exact fun e => by have h7 := aC8 b2 h; omega)
  refine ⟨h6.1, ?_⟩
  rcases h6.2 with h9 | ⟨g6, c4, c5, h7, h8, h9⟩
  ·exact .inl h9
  ·exact .inr ⟨g6, c4, c5, h7, by omega, h9⟩
 unfold aD2 at k0 k1 k2;clear z a3 HZ f7 b2 c7 d7 hts c3 c8 d8;go_wp2_with fail
 exact bodyPost_ret (v := .tuple #[.agg #[.int .i64 nn, .slice fo l.length fc, .string a0], .bool true]) (by simp [results, results214, go_sem, k0, k1, k2]) rfl (.inl ⟨nn, l, a0, _, rfl, j2.out, d9.out, b5.out⟩)
def banW : ByteArray := ⟨#[98, 97, 110, 32]⟩
def bkW (k : Int) : ByteArray := if k = 1 then ⟨#[112, 97, 116, 104]⟩ else if k = 2 then ⟨#[98, 101, 108, 111, 119]⟩ else if k = 3 then ⟨#[102, 105, 101, 108, 100]⟩ else ⟨#[]⟩
def BanP (k : Int) (a b : Tx) (t : Int) : Prop := (0 ≤ t ∧ t ≤ 1000000) ∧ (((k = 1 ∨ k = 2) ∧ aI9 a ∧ b = ⟨#[]⟩) ∨ (k = 3 ∧ aK6 a ∧ aK7 b))
def banH (k : Int) (a : Tx) (t : Int) : ByteArray := banW ++ bkW k ++ ⟨#[32]⟩ ++ aB7 t.toNat ++ ⟨#[32]⟩ ++ a
def banT (k : Int) (a b : Tx) (t : Int) : ByteArray := if k = 3 then banH k a t ++ ⟨#[10]⟩ ++ b else banH k a t
def aI8 (s : Tx) (k : Int) (a b : Tx) (t : Int) : Prop := BanP k a b t ∧ banT k a b t = s
def bY2 (a p : Tx) : Prop := ∃ r, bs p = bs a ++ r
def HitP (k : Int) (a b : Tx) (t : Int) (p : Tx) (xs ys : Ts) (st : Int) (fs : Fs) (d : Tx) (u : Int) : Prop :=
 BanP k a b t ∧ ObjP p xs ys st fs d u ∧ u ≤ t ∧ ((k = 1 ∧ p = a) ∨ (k = 2 ∧ bY2 a p) ∨ (k = 3 ∧ getB fs a = true ∧ getV fs a = b))
theorem BanP.kinds {k : Int} {a b : ByteArray} {t : Int} (h : BanP k a b t) : k = 1 ∨ k = 2 ∨ k = 3 := by
 rcases h.2 with ⟨h1 | h1, _⟩ | ⟨h1, _⟩
 ·exact .inl h1
 ·exact .inr (.inl h1)
 exact .inr (.inr h1)
theorem dR4 {a : ByteArray} (h : aK6 a) : ∀ b ∈ bs a, b ≠ 32 ∧ b ≠ 10 := fun x hx => by
 have := bO4 h.2.2 x hx
 constructor
 · intro e; subst e; revert this; unfold TokB; simp
 · intro e; subst e; revert this; unfold TokB; simp
theorem BanP.a_no {k : Int} {a b : ByteArray} {t : Int} (h : BanP k a b t) : ∀ x ∈ bs a, x ≠ 32 ∧ x ≠ 10 := by
 rcases h.2 with ⟨_, h1, _⟩ | ⟨_, h1, _⟩
 ·exact cC8 h1
 exact dR4 h1
theorem BanP.a_size {k : Int} {a b : ByteArray} {t : Int} (h : BanP k a b t) : a.size ≤ 60 ∧ b.size ≤ 60 := by
 rcases h.2 with ⟨_, h1, h2⟩ | ⟨_, h1, h2⟩
 ·exact ⟨h1.2.2.1, by rw [h2]; decide⟩
 exact ⟨Nat.le_trans h1.2.1 (by decide), h2.2.1⟩
def banL : List UInt8 := [98, 97, 110]
def aJ5 (k : Int) (a : Tx) (t : Int) : List UInt8 := banL ++ 32 :: (bs (bkW k) ++ 32 :: (numL t.toNat ++ 32 :: bs a))
theorem dR5 {k : Int} (h : k = 1 ∨ k = 2 ∨ k = 3) : ∀ x ∈ bs (bkW k), x ≠ 32 ∧ x ≠ 10 := by
 rcases h with rfl | rfl | rfl <;> decide
theorem dC6 (k : Int) (a : Tx) (t : Int) : bs (banH k a t) = aJ5 k a t := by
 unfold banH aJ5;simp only [aF7, aY2, List.append_assoc]
 rfl
theorem dC7 (k : Int) (a b : Tx) (t : Int) : bs (banT k a b t) = if k = 3 then aJ5 k a t ++ 10 :: bs b else aJ5 k a t := by
 unfold banT;split
 ·rw [aF7, aF7, dC6];simp [bs]
 exact dC6 k a t
theorem bB3 {k : Int} {a b : ByteArray} {t : Int} (h : BanP k a b t) : (∀ x ∈ aJ5 k a t, x ≠ 10) ∧ aG6 [] [] (aJ5 k a t) = [banL, bs (bkW k), numL t.toNat, bs a] := by
 have n1 := bX7 t.toNat (by have := h.1; omega);have n2 := dR5 h.kinds;refine ⟨fun x hx => ?_, ?_⟩
 ·unfold aJ5 at hx;simp only [List.mem_append, List.mem_cons] at hx
  rcases hx with hx | hx | hx | hx | hx | hx | hx
  ·simp [banL] at hx; rcases hx with rfl | rfl | rfl <;> decide
  ·subst hx; decide
  ·exact (n2 x hx).2
  ·subst hx; decide
  ·exact (n1 x hx).2
  ·subst hx; decide
  exact (h.a_no x hx).2
 unfold aJ5;rw [aK0 _ _ (by unfold banL; decide), aK0 _ _ (fun x hx => (n2 x hx).1), aK0 _ _ (fun x hx => (n1 x hx).1), bA5 _ (fun x hx => (h.a_no x hx).1)]
 rfl
def bkOf (x : Tx) : Int := if bkW 3 = x then 3 else if bkW 2 = x then 2 else if bkW 1 = x then 1 else 0
theorem dC8 {k : Int} (h : k = 1 ∨ k = 2 ∨ k = 3) : bkOf (bkW k) = k := by
 rcases h with rfl | rfl | rfl <;> decide
theorem bQ2 {s : ByteArray} {k : Int} {a b : ByteArray} {t : Int} (h : aI8 s k a b t) :
  (k = 3 ∧ bs s = [] ++ (aJ5 k a t ++ 10 :: bs b)) ∨ (k ≠ 3 ∧ bs s = aJ5 k a t ∧ b = ⟨#[]⟩) := by
 rw [← h.2];by_cases hk : k = 3
 ·exact .inl ⟨hk, by rw [dC7, if_pos hk]; rfl⟩
 refine .inr ⟨hk, by rw [dC7, if_neg hk], ?_⟩;rcases h.1.2 with ⟨_, _, h1⟩ | ⟨h1, _⟩
 ·exact h1
 exact absurd h1 hk
theorem dR6 {k k' : Int} (h : k = 1 ∨ k = 2 ∨ k = 3) (h' : k' = 1 ∨ k' = 2 ∨ k' = 3) (e : bs (bkW k) = bs (bkW k')) : k = k' := by
 rw [← dC8 h, ← dC8 h', aE3 e]
theorem aI8.uniq {s : ByteArray} {k k' : Int} {a a' b b' : ByteArray} {t t' : Int} (h : aI8 s k a b t) (h' : aI8 s k' a' b' t') : k = k' ∧ a = a' ∧ b = b' ∧ t = t' := by
 have q := bB3 h.1;have q' := bB3 h'.1
 have a0 : aJ5 k a t = aJ5 k' a' t' ∧ b = b' := by
  rcases bQ2 h with ⟨_, e⟩ | ⟨_, e, hb⟩ <;> rcases bQ2 h' with ⟨_, e'⟩ | ⟨_, e', a1⟩
  ·have c1 := aT1 (sep := nlE) (show bs s = aJ5 k a t ++ ((10 :: []) ++ bs b) by rw [e]; simp) rfl q.1
   have c2 := aT1 (sep := nlE) (show bs s = aJ5 k' a' t' ++ ((10 :: []) ++ bs b') by rw [e']; simp) rfl q'.1
   exact ⟨c1.1.symm.trans c2.1, aE3 (c1.2.symm.trans c2.2)⟩
  ·exfalso
   rw [e] at e'
   exact q'.1 10 (by rw [← e']; simp) rfl
  ·exfalso
   rw [e'] at e
   exact q.1 10 (by rw [← e]; simp) rfl
  ·exact ⟨e.symm.trans e', by rw [hb, a1]⟩
 have w1 := q.2;rw [a0.1, q'.2] at w1;simp only [List.cons.injEq, and_true] at w1
 have ht := h.1.1;have a2 := h'.1.1;have e3 := congrArg valL w1.2.2.1;rw [aK3 _ (by omega), aK3 _ (by omega)] at e3;exact ⟨(dR6 h'.1.kinds h.1.kinds w1.2.1).symm, (aE3 w1.2.2.2).symm, a0.2, by omega⟩
theorem cN4 (k : Int) (a b : Tx) (t : Int) : 4 ≤ (banT k a b t).size := by
 have e1 : banW.size = 4 := rfl;unfold banT banH;split <;> simp only [ByteArray.size_append] <;> omega
theorem aB9 (a p : Tx) : bY2 a p ↔ a.size ≤ p.size ∧ p.extract 0 a.size = a := by
 constructor
 ·rintro ⟨r, h⟩;have hz := congrArg List.length h;rw [List.length_append, aC4, aC4] at hz;refine ⟨by omega, aE3 ?_⟩;rw [aE2, List.drop_zero, h, ← aC4 a, List.take_left]
 rintro ⟨h1, h2⟩;refine ⟨(bs p).drop a.size, ?_⟩;have h3 := congrArg bs h2;rw [aE2, List.drop_zero] at h3;rw [← h3];conv => rhs; rw [h3]
 rw [← h3, List.take_append_drop]
theorem bF5 (k : Int) (a b : Tx) (t : Int) (w : World) (ha : a.size ≤ maxLen) (hb : b.size ≤ maxLen) :
    Calls prog 70 #[.agg #[.int .i64 k, .string a, .string b, .int .i64 t]] w fun e w' => aA5 (BanP k a b t) w e w' := by
  have c2 := hid ha;have d6 := hid hb;clear ha hb;have K0 := jnil w;go_enter func70, ntmps70;go_upto_region 1 with fail
  obtain ⟨q1, c3⟩ := exq (w.heap.size);obtain ⟨w1, b9⟩ := exq (w.alloc (.cells #[.int .i64 k, .string a, .string b, .int .i64 t] 44));have c4 := c3.symm;rw [← b9]; try rw [← c3];have d7 := hsa b9 c4;have bw := bal b9;have K1 := ja K0 b9 c4;clear bw b9 c4 K0;clear d7 c3;have c5 := c4c (jb K1 0 rfl);go_wp2_with fail
  refine (aU2 t 0 1000000 _).mono ?_;rintro e w2 ⟨rfl, d5⟩;have bw : Below w1.heap.size (w1) w2 := by rw [d5]; exact Below.refl _ _
  clear d5;obtain ⟨ut, c0⟩ : ∃ u, u = decide ((0 : Int) ≤ t ∧ t ≤ 1000000) := ⟨_, rfl⟩;rw [← c0];have K2 := jw K1 bw;clear bw K1;clear c5;cases ut
  ·have a8 : Hid (¬ (0 ≤ t ∧ t ≤ 1000000)) := (show ¬ (0 ≤ t ∧ t ≤ 1000000) from of_decide_eq_false c0.symm);clear c0;go_wp2_with fail
   go_ret;refine ⟨false, rfl, ?_, K2.hb⟩;have a0 := a8.out;unfold BanP
   first
     | (simp_all; done)
     | (constructor
        ·intro h
         first
           | (cases h; done)
           | exact ⟨a0, .inl ⟨.inl a5, a1, a2⟩⟩
           | exact ⟨a0, .inl ⟨.inr a6, a1, a2⟩⟩
           | exact ⟨a0, .inr ⟨a4, a3, zv.1 h⟩⟩
           | exact ⟨a0, .inr ⟨a4, a3, zHuv⟩⟩
        ·rintro ⟨h1, (⟨h2 | h2, h3, h4⟩ | ⟨h2, h3, h4⟩)⟩
         all_goals first
           | rfl
           | exact zv.2 h4
           | (exfalso; first | exact a0 h1 | exact a1 h3 | exact a3 h3 | exact a2 h4 | exact zHuv h4 | omega))
  have a8 : Hid (0 ≤ t ∧ t ≤ 1000000) := (show 0 ≤ t ∧ t ≤ 1000000 from of_decide_eq_true c0.symm);clear c0;have b3 := c4c (jb K2 0 rfl);by_cases hc1 : k = 1
  ·have c6 : ((k : Int) == (1 : Int)) = true := by simpa using hc1
   have c7 : ((k : Int) != (1 : Int)) = false := by simpa using hc1
   have b0 : Hid (k = 1) := hc1;have c8 : Hid (k = 1) := hc1;clear hc1;have a9 := c4c (jb K2 0 rfl);go_wp2_with fail
   refine (bI2 a _ c2.out).mono ?_;rintro e w3 ⟨up, rfl, a7, bw⟩;have K3 := jw K2 bw;clear bw K2;clear b3 a9;cases up
   ·have b1 : Hid (¬ aI9 a) := fun h => nomatch a7.2 h
    clear a7;go_wp2_with fail
    go_ret;refine ⟨false, rfl, ?_, K3.hb⟩;have a0 := a8.out;have a5 := b0.out;have a1 := b1.out;unfold BanP
    first
      | (simp_all; done)
      | (constructor
         ·intro h
          first
            | (cases h; done)
            | exact ⟨a0, .inl ⟨.inl a5, a1, a2⟩⟩
            | exact ⟨a0, .inl ⟨.inr a6, a1, a2⟩⟩
            | exact ⟨a0, .inr ⟨a4, a3, zv.1 h⟩⟩
            | exact ⟨a0, .inr ⟨a4, a3, zHuv⟩⟩
         ·rintro ⟨h1, (⟨h2 | h2, h3, h4⟩ | ⟨h2, h3, h4⟩)⟩
          all_goals first
            | rfl
            | exact zv.2 h4
            | (exfalso; first | exact a0 h1 | exact a1 h3 | exact a3 h3 | exact a2 h4 | exact zHuv h4 | omega))
   have b1 : Hid (aI9 a) := a7.1 rfl;clear a7;have b4 := c4c (jb K3 0 rfl);by_cases hc2 : b = ⟨#[]⟩
   ·have b5 : (b).toList.isEmpty = true := aK9 (by rw [hc2]; rfl);have b6 := hid hc2;go_wp2_with fail
    go_ret;refine ⟨true, rfl, ?_, K3.hb⟩;have a0 := a8.out;have a5 := b0.out;have a1 := b1.out;have a2 := b6.out;unfold BanP
    first
      | (simp_all; done)
      | (constructor
         ·intro h
          first
            | (cases h; done)
            | exact ⟨a0, .inl ⟨.inl a5, a1, a2⟩⟩
            | exact ⟨a0, .inl ⟨.inr a6, a1, a2⟩⟩
            | exact ⟨a0, .inr ⟨a4, a3, zv.1 h⟩⟩
            | exact ⟨a0, .inr ⟨a4, a3, zHuv⟩⟩
         ·rintro ⟨h1, (⟨h2 | h2, h3, h4⟩ | ⟨h2, h3, h4⟩)⟩
          all_goals first
            | rfl
            | exact zv.2 h4
            | (exfalso; first | exact a0 h1 | exact a1 h3 | exact a3 h3 | exact a2 h4 | exact zHuv h4 | omega))
   have b5 : (b).toList.isEmpty = false := aN5 (Nat.pos_of_ne_zero (fun e => hc2 (bA8 e)))
   have b6 := hid hc2;go_wp2_with fail
   go_ret;refine ⟨false, rfl, ?_, K3.hb⟩;have a0 := a8.out;have a5 := b0.out;have a1 := b1.out;have a2 := b6.out;unfold BanP
   first
     | (simp_all; done)
     | (constructor
        ·intro h
         first
           | (cases h; done)
           | exact ⟨a0, .inl ⟨.inl a5, a1, a2⟩⟩
           | exact ⟨a0, .inl ⟨.inr a6, a1, a2⟩⟩
           | exact ⟨a0, .inr ⟨a4, a3, zv.1 h⟩⟩
           | exact ⟨a0, .inr ⟨a4, a3, zHuv⟩⟩
        ·rintro ⟨h1, (⟨h2 | h2, h3, h4⟩ | ⟨h2, h3, h4⟩)⟩
         all_goals first
           | rfl
           | exact zv.2 h4
           | (exfalso; first | exact a0 h1 | exact a1 h3 | exact a3 h3 | exact a2 h4 | exact zHuv h4 | omega))
  have c6 : ((k : Int) == (1 : Int)) = false := by simpa using hc1
  have c7 : ((k : Int) != (1 : Int)) = true := by simpa using hc1
  have b0 := hid hc1;have c8 := hid hc1;clear hc1;by_cases hc2 : k = 2
  ·have b5 : ((k : Int) == (2 : Int)) = true := by simpa using hc2
   have c9 : ((k : Int) != (2 : Int)) = false := by simpa using hc2
   have b7 : Hid (k = 2) := hc2;have d0 : Hid (k = 2) := hc2;clear hc2;have a9 := c4c (jb K2 0 rfl);go_wp2_with fail
   refine (bI2 a _ c2.out).mono ?_;rintro e w3 ⟨up, rfl, a7, bw⟩;have K3 := jw K2 bw;clear bw K2;clear b3 a9;cases up
   ·have b1 : Hid (¬ aI9 a) := fun h => nomatch a7.2 h
    clear a7;go_wp2_with fail
    go_ret;refine ⟨false, rfl, ?_, K3.hb⟩;have a0 := a8.out;have a5 := b0.out;have a6 := b7.out;have a1 := b1.out;unfold BanP
    first
      | (simp_all; done)
      | (constructor
         ·intro h
          first
            | (cases h; done)
            | exact ⟨a0, .inl ⟨.inl a5, a1, a2⟩⟩
            | exact ⟨a0, .inl ⟨.inr a6, a1, a2⟩⟩
            | exact ⟨a0, .inr ⟨a4, a3, zv.1 h⟩⟩
            | exact ⟨a0, .inr ⟨a4, a3, zHuv⟩⟩
         ·rintro ⟨h1, (⟨h2 | h2, h3, h4⟩ | ⟨h2, h3, h4⟩)⟩
          all_goals first
            | rfl
            | exact zv.2 h4
            | (exfalso; first | exact a0 h1 | exact a1 h3 | exact a3 h3 | exact a2 h4 | exact zHuv h4 | omega))
   have b1 : Hid (aI9 a) := a7.1 rfl;clear a7;have b4 := c4c (jb K3 0 rfl);by_cases hc3 : b = ⟨#[]⟩
   ·have b8 : (b).toList.isEmpty = true := aK9 (by rw [hc3]; rfl);have b6 := hid hc3;go_wp2_with fail
    go_ret;refine ⟨true, rfl, ?_, K3.hb⟩;have a0 := a8.out;have a5 := b0.out;have a6 := b7.out;have a1 := b1.out;have a2 := b6.out;unfold BanP
    first
      | (simp_all; done)
      | (constructor
         ·intro h
          first
            | (cases h; done)
            | exact ⟨a0, .inl ⟨.inl a5, a1, a2⟩⟩
            | exact ⟨a0, .inl ⟨.inr a6, a1, a2⟩⟩
            | exact ⟨a0, .inr ⟨a4, a3, zv.1 h⟩⟩
            | exact ⟨a0, .inr ⟨a4, a3, zHuv⟩⟩
         ·rintro ⟨h1, (⟨h2 | h2, h3, h4⟩ | ⟨h2, h3, h4⟩)⟩
          all_goals first
            | rfl
            | exact zv.2 h4
            | (exfalso; first | exact a0 h1 | exact a1 h3 | exact a3 h3 | exact a2 h4 | exact zHuv h4 | omega))
   have b8 : (b).toList.isEmpty = false := aN5 (Nat.pos_of_ne_zero (fun e => hc3 (bA8 e)))
   have b6 := hid hc3;go_wp2_with fail
   go_ret;refine ⟨false, rfl, ?_, K3.hb⟩;have a0 := a8.out;have a5 := b0.out;have a6 := b7.out;have a1 := b1.out;have a2 := b6.out;unfold BanP
   first
     | (simp_all; done)
     | (constructor
        ·intro h
         first
           | (cases h; done)
           | exact ⟨a0, .inl ⟨.inl a5, a1, a2⟩⟩
           | exact ⟨a0, .inl ⟨.inr a6, a1, a2⟩⟩
           | exact ⟨a0, .inr ⟨a4, a3, zv.1 h⟩⟩
           | exact ⟨a0, .inr ⟨a4, a3, zHuv⟩⟩
        ·rintro ⟨h1, (⟨h2 | h2, h3, h4⟩ | ⟨h2, h3, h4⟩)⟩
         all_goals first
           | rfl
           | exact zv.2 h4
           | (exfalso; first | exact a0 h1 | exact a1 h3 | exact a3 h3 | exact a2 h4 | exact zHuv h4 | omega))
  have b5 : ((k : Int) == (2 : Int)) = false := by simpa using hc2
  have c9 : ((k : Int) != (2 : Int)) = true := by simpa using hc2
  have b7 := hid hc2;have d0 := hid hc2;clear hc2;by_cases hc3 : k = 3
  rotate_left
  ·have b8 : ((k : Int) == (3 : Int)) = false := by simpa using hc3
   have d1 : ((k : Int) != (3 : Int)) = true := by simpa using hc3
   have c1 := hid hc3;have d2 := hid hc3;clear hc3;go_wp2_with fail
   go_ret;refine ⟨false, rfl, ?_, K2.hb⟩;have a0 := a8.out;have a5 := b0.out;have a6 := b7.out;have a4 := c1.out;unfold BanP
   first
     | (simp_all; done)
     | (constructor
        ·intro h
         first
           | (cases h; done)
           | exact ⟨a0, .inl ⟨.inl a5, a1, a2⟩⟩
           | exact ⟨a0, .inl ⟨.inr a6, a1, a2⟩⟩
           | exact ⟨a0, .inr ⟨a4, a3, zv.1 h⟩⟩
           | exact ⟨a0, .inr ⟨a4, a3, zHuv⟩⟩
        ·rintro ⟨h1, (⟨h2 | h2, h3, h4⟩ | ⟨h2, h3, h4⟩)⟩
         all_goals first
           | rfl
           | exact zv.2 h4
           | (exfalso; first | exact a0 h1 | exact a1 h3 | exact a3 h3 | exact a2 h4 | exact zHuv h4 | omega))
  have b8 : ((k : Int) == (3 : Int)) = true := by simpa using hc3
  have d1 : ((k : Int) != (3 : Int)) = false := by simpa using hc3
  have c1 : Hid (k = 3) := hc3;have d2 : Hid (k = 3) := hc3;clear hc3;have a9 := c4c (jb K2 0 rfl);go_wp2_with fail
  refine (aS6 a _ c2.out).mono ?_;rintro e w3 ⟨uk, rfl, b2, bw⟩;have K3 := jw K2 bw;clear bw K2;clear b3 a9;cases uk
  ·have d3 : Hid (¬ aK6 a) := fun h => nomatch b2.2 h
   clear b2;go_wp2_with fail
   go_ret;refine ⟨false, rfl, ?_, K3.hb⟩;have a0 := a8.out;have a5 := b0.out;have a6 := b7.out;have a4 := c1.out;have a3 := d3.out;unfold BanP
   first
     | (simp_all; done)
     | (constructor
        ·intro h
         first
           | (cases h; done)
           | exact ⟨a0, .inl ⟨.inl a5, a1, a2⟩⟩
           | exact ⟨a0, .inl ⟨.inr a6, a1, a2⟩⟩
           | exact ⟨a0, .inr ⟨a4, a3, zv.1 h⟩⟩
           | exact ⟨a0, .inr ⟨a4, a3, zHuv⟩⟩
        ·rintro ⟨h1, (⟨h2 | h2, h3, h4⟩ | ⟨h2, h3, h4⟩)⟩
         all_goals first
           | rfl
           | exact zv.2 h4
           | (exfalso; first | exact a0 h1 | exact a1 h3 | exact a3 h3 | exact a2 h4 | exact zHuv h4 | omega))
  have d3 : Hid (aK6 a) := b2.1 rfl;clear b2;have b4 := c4c (jb K3 0 rfl);go_wp2_with fail
  refine (aS8 b _ d6.out).mono ?_;rintro e w4 ⟨uv, rfl, d4, bw⟩;have K4 := jw K3 bw;clear bw K3;clear b4;go_wp2_with fail
  go_ret;refine ⟨uv, rfl, ?_, K4.hb⟩;have a0 := a8.out;have a5 := b0.out;have a6 := b7.out;have a4 := c1.out;have a3 := d3.out;have zv := d4;unfold BanP
  first
    | (simp_all; done)
    | (constructor
       ·intro h
        first
          | (cases h; done)
          | exact ⟨a0, .inl ⟨.inl a5, a1, a2⟩⟩
          | exact ⟨a0, .inl ⟨.inr a6, a1, a2⟩⟩
          | exact ⟨a0, .inr ⟨a4, a3, zv.1 h⟩⟩
          | exact ⟨a0, .inr ⟨a4, a3, zHuv⟩⟩
       ·rintro ⟨h1, (⟨h2 | h2, h3, h4⟩ | ⟨h2, h3, h4⟩)⟩
        all_goals first
          | rfl
          | exact zv.2 h4
          | (exfalso; first | exact a0 h1 | exact a1 h3 | exact a3 h3 | exact a2 h4 | exact zHuv h4 | omega))
theorem cN5 (oa : Oa) (m cm : Nat) (xs : Ts) (w : World) (hx : aC0 w oa m xs) (hm : m ≤ 2000000) (hsz : ∀ i, i < m → (aA7 xs i).size ≤ maxLen) :
  Calls prog 153 #[.slice oa m cm] w fun e w' => aA5 (bC3 xs) w e w' := by
 have HX : Hid (∀ W, Bw w W → aC0 W oa m xs) := fun W h => hx.below h
 have HL : Hid (xs.length = m) := hx.1;have HS := hid hsz;clear hx hsz;go_enter func153, ntmps153;go_wp2_with fail
 go_loopw [3] (fun i wr => ∃ j : Nat, j ≤ m ∧ i = .int .i64 (j : Int) ∧ Bw w wr ∧ Hid (∀ x ∈ xs.take j, aK6 x)) (fun i _ => m - (intOf i).toNat)
 case atStart => exact ⟨0, Nat.zero_le _, rfl, Below.refl _ _, fun x hx => by simp at hx⟩
 case round =>
  obtain ⟨j, hj, rfl, a0, HN⟩ := hrel;by_cases hlt : (j : Int) < (m : Int)
  rotate_left
  ·have HA : Hid (∀ x ∈ xs, aK6 x) := by
    have h := HN.out
    rw [List.take_of_length_le (by rw [HL.out]; omega)] at h
    exact h
   have HQ : Hid (((m : Int) ≤ 4) ↔ bC3 xs) := ⟨fun h => ⟨HA.out, by rw [HL.out]; omega⟩, fun h => by have := h.2; rw [HL.out] at this; omega⟩
   clear HN;go_wp2_with fail
   go_ret;exact ⟨decide ((m : Int) ≤ 4), rfl, by rw [decide_eq_true_iff]; exact HQ.out, a0⟩
  have a2 : j < xs.length := by rw [HL.out]; omega
  obtain ⟨g, rfl, hg, hc⟩ := (HX.out wr a0).2 j (by omega);have hs := HS.out j (by omega);obtain ⟨x, a1⟩ := exq (aA7 xs j);rw [← a1] at hc hs;have HM : Hid (x ∈ xs) := by show _ ∈ _; rw [a1]; exact aG7 xs j a2
  have HT : Hid (xs.take (j + 1) = xs.take j ++ [x]) := by show _ = _; rw [aJ4 xs j a2, a1]
  clear a1 a2;go_wp2_with fail
  refine (aS6 x _ hs).mono ?_;rintro e w1 ⟨t, rfl, ht, b1⟩;have a3 : Bw w w1 := a0.trans (b1.mono a0.size);clear b1 a0 hc;cases t
  ·have HF : Hid (¬ bC3 xs) := fun h => nomatch ht.2 (h.1 x HM.out)
   clear ht HN;go_wp2_with fail
   go_ret;exact aA5.no HF.out a3
  have a4 : Hid (∀ y ∈ xs.take (j + 1), aK6 y) := by
   intro y hy
   rw [HT.out] at hy
   rcases List.mem_append.1 hy with hy | hy
   ·exact HN.out y hy
   ·rw [List.mem_singleton.1 hy]; exact ht.1 rfl
  clear ht HN;go_wp2_with fail
  go_roundw
  case rel => exact ⟨j + 1, by omega, by go_num, a3, a4⟩
  case measure => simp [intOf]; omega
def bY3 (w : World) (r : Nat) (nm vl : Tx) : World := (w.setCell ⟨r, 0, none⟩ (.string nm)).setCell ⟨r, 1, none⟩ (.string vl)
theorem cN6 {w : World} {r : Nat} (nm vl : Tx) (h : w.heap[r]? = some (.cells #[.string ⟨#[]⟩, .string ⟨#[]⟩] 232)) : (bY3 w r nm vl).heap[r]? = some (.cells #[.string nm, .string vl] 232) := by
 have := aA3 _ r 1 _ _ _ (.string vl) (aA3 w r 0 _ _ _ (.string nm) h);simpa [bY3] using this
theorem bQ3 (v : Value) (n base : Nat) (fs : Fs) (name : Tx) (w : World) (hv : aB4 w base v n fs) (hn : n ≤ 1073741824) :
  Calls prog 298 #[v, .string name] w fun e w' => e = .returned (.int .i64 (atF fs name : Int)) ∧ w' = w := by
 have hl := hv.len;obtain ⟨oa, a3, rfl, a0⟩ := hv.slice;clear hv;go_enter func298, ntmps298;go_wp2
 go_loop [8] (fun i => ∃ k : Nat, k ≤ n ∧ i = .int .i64 (k : Int) ∧ Hid (∀ j, j < k → aD0 fs j ≠ name)) (fun i => n - (intOf i).toNat)
 case atStart => exact ⟨0, Nat.zero_le _, rfl, fun j h => absurd h (by omega)⟩
 case round =>
  obtain ⟨k, hk, rfl, hb⟩ := hrel;by_cases hlt : k < n
  rotate_left
  ·have hT : Hid (atF fs name = n) := by
    have := cR0 (fs := fs) (name := name) (fun j hj => hb.out j (by omega))
    show _ = _
    omega
   clear a0;go_wp2
   go_ret;exact ⟨by rw [hT.out]; rfl, rfl⟩
  obtain ⟨g, rfl, a1⟩ := a0 k hlt;have hc := a1.name k hlt;have a2 : (k : Int) < (n : Int) := by omega
  clear a0 a1;by_cases he : aD0 fs k = name
  ·have hT : Hid (atF fs name = k) := cQ9 (by omega) hb.out he;have ht : ((aD0 fs k).toList == name.toList) = true := (aD3 _ _).2 he;clear he;go_wp2
   go_ret;exact ⟨by rw [hT.out]; rfl, rfl⟩
  have ht := aB8 he;have HE := hid he;clear he;go_wp2
  go_round
  case rel =>
   refine ⟨k + 1, by omega, by go_num, ?_⟩;intro j hj;by_cases e : j = k
   ·subst e; exact HE.out
   exact hb.out j (by omega)
  case measure => simp [intOf]; omega
theorem bK6 (nm vl : Tx) (w : World) (h1 : nm.size ≤ 281474976710656) (h2 : vl.size ≤ 281474976710656) :
  Calls prog 304 #[.string nm, .string vl] w fun e w' => e = .returned (.agg #[.string nm, .string vl]) ∧ Below w.heap.size w w' := by
 go_enter func304, ntmps304;go_wp2_with fail
 refine (aF3 nm _ h1).mono ?_;rintro e w1 ⟨rfl, a2⟩;go_wp2_with fail
 refine (aF3 vl _ h2).mono ?_;rintro e w2 ⟨rfl, a3⟩;obtain ⟨r, hr⟩ := exq (w.heap.size);have h0 : (w.alloc (.cells #[.string ⟨#[]⟩, .string ⟨#[]⟩] 232)).heap.size = w.heap.size + 1 := by simp
 have hb : Bw w w2 := ((Below.refl _ w).alloc (Nat.le_refl _) _).trans ((a2.trans (a3.mono a2.size)).mono (by omega))
 have a0 : w2.heap[r]? = some (.cells #[.string ⟨#[]⟩, .string ⟨#[]⟩] 232) := by
  rw [hr, (a2.trans (a3.mono a2.size)).block _ (by omega)]; exact heap_alloc_new w _
 have a6 : w2.cell? ⟨r, 0, none⟩ = some (.string ⟨#[]⟩) := by simp [World.cell?, a0]
 have a7 : w2.cell? ⟨r, 1, none⟩ = some (.string ⟨#[]⟩) := by simp [World.cell?, a0]
 have a8 : w2.frozen? ⟨r, 0, none⟩ = false := by simp [World.frozen?, a0]
 have a9 : w2.frozen? ⟨r, 1, none⟩ = false := by simp [World.frozen?, a0]
 have a1 := cN6 nm vl a0;have k0 : (bY3 w2 r nm vl).cell? ⟨r, 0, none⟩ = some (.string nm) := by simp [World.cell?, a1]
 have k1 : (bY3 w2 r nm vl).cell? ⟨r, 1, none⟩ = some (.string vl) := by simp [World.cell?, a1]
 have a4 : Bw w (bY3 w2 r nm vl) := bsc (bsc hb (by simp [hr]) 0) (by simp [hr]) 1;have a5 := hid a4;rw [← hr];unfold bY3 at k0 k1;clear a1 a0 hb a4 a2 a3 hr h0;go_wp2
 exact bodyPost_ret (v := .agg #[.string nm, .string vl]) (by simp [results, results304, go_sem, k0, k1]) rfl ⟨rfl, a5.out⟩
theorem aQ1 (w : World) (r o g p : Nat) (v : Value) (h : g ≠ r) : (w.setCell ⟨r, o, none⟩ v).cell? ⟨g, p, none⟩ = w.cell? ⟨g, p, none⟩ := by
 unfold World.cell?;rw [heap_setCell_other _ _ g _ (fun e => h e)]
def aU0 (fs : Fs) : Prop := ∀ i, i < fs.length → (aD0 fs i).size ≤ 281474976710656 ∧ (aH7 fs i).size ≤ 281474976710656
theorem cV7 (v : Value) (n base : Nat) (fs : Fs) (w : World) (hv : aB4 w base v n fs) (hn : n ≤ 2000000) (hsz : aU0 fs) :
  Calls prog 266 #[v] w fun e w' => RowF fs w e w' := by
 obtain ⟨i0, hi, b6, b7, b8⟩ := info_parts dA1;obtain ⟨M, hM⟩ : ∃ M, M = madeCells (Value.agg #[.string ⟨#[]⟩, .string ⟨#[]⟩]).cells (((n : Nat) : Int).toNat * i0.size) := ⟨_, rfl⟩
 have c9 : ∀ W : World, (Instr.makeSlice 223 (.int .i64 (n : Int)) (.int .i64 (n : Int))).run prog W = .ok (.slice (some ⟨W.heap.size, 0, none⟩) n n) (W.alloc (.cells M 232)) := fun W => by
  have h := run_make (P := prog) W 223 232 i0 (.agg #[.string ⟨#[]⟩, .string ⟨#[]⟩]) underlying223 hi b6 .i64 .i64 (n : Int) (n : Int) (by omega) (by omega) (by rw [b8]; omega) (by omega)
  rw [← hM] at h
  simpa using h
 have b9 : M.size = n * 2 := by rw [hM, size_madeCells, b7]; simp
 have a5 := hv.len;obtain ⟨oa, c0, rfl, a6⟩ := hv.slice;have a9 := hid a6;have c1 := hid hsz;clear hM hv a6 hsz;have HP : Hid (aL2 (w.alloc (.cells M 232)) w.heap.size n 0 fs) := ⟨M, heap_alloc_new w _, b9, fun i h => absurd h (by omega)⟩
 go_enter func266, ntmps266;go_wp2
 go_loopw [10] (fun i wr => ∃ k : Nat, k ≤ n ∧ i = .int .i64 (k : Int) ∧ Hid (aL2 wr w.heap.size n k fs) ∧ Bw w wr) (fun i _ => n - (intOf i).toNat)
 case atStart => exact ⟨0, Nat.zero_le _, rfl, HP, (Below.refl _ _).alloc (Nat.le_refl _) _⟩
 case round =>
  obtain ⟨k, hk, rfl, b0, a8⟩ := hrel;by_cases hlt : k < n
  rotate_left
  ·obtain rfl : k = n := by omega
   go_wp2
   go_ret;exact ⟨_, rfl, by rw [a5]; exact b0.out.owns a5 (by unfold maxLen; omega) (Nat.le_refl _), a8⟩
  have c2 : (k : Int) < (n : Int) := by omega
  obtain ⟨g, rfl, a7⟩ := a9.out k hlt;have a4 := a7.lt;have c3 : Hid (aF6 base w g n c0 fs) := a7;have a0 := a7.below a8 a7.lt;have c4 := a0.name k hlt;have c5 := a0.val k hlt;obtain ⟨z1, z2⟩ := c1.out k (by omega);obtain ⟨nm, b1⟩ := exq (aD0 fs k);obtain ⟨vl, b2⟩ := exq (aH7 fs k);rw [← b1] at c4 z1;rw [← b2] at c5 z2;have b4 := hid b1;have b5 := hid b2;clear b1 b2 a7 a0;have c6 : g < w.heap.size := a4
  have HA : Hid (∀ w0 w1, Below wr.heap.size wr w0 → Below w0.heap.size w0 w1 → (w1.cell? ⟨g, k * 2, none⟩ = some (.string nm) ∧ w1.cell? ⟨g, k * 2 + 1, none⟩ = some (.string vl)) ∧ (∃ u, w1.cell? ⟨w.heap.size, k * 2, none⟩ = some u) ∧ (∃ u, w1.cell? ⟨w.heap.size, k * 2 + 1, none⟩ = some u) ∧ w1.frozen? ⟨w.heap.size, k * 2, none⟩ = false ∧ w1.frozen? ⟨w.heap.size, k * 2 + 1, none⟩ = false ∧ Hid (aL2 ((w1.setCell ⟨w.heap.size, k * 2, none⟩ (.string nm)).setCell ⟨w.heap.size, k * 2 + 1, none⟩ (.string vl)) w.heap.size n (k + 1) fs) ∧ Bw w w1 ∧ (((w1.setCell ⟨w.heap.size, k * 2, none⟩ (.string nm)).setCell ⟨w.heap.size, k * 2 + 1, none⟩ (.string vl)).cell? ⟨g, k * 2, none⟩ = some (.string nm) ∧ ((w1.setCell ⟨w.heap.size, k * 2, none⟩ (.string nm)).setCell ⟨w.heap.size, k * 2 + 1, none⟩ (.string vl)).cell? ⟨g, k * 2 + 1, none⟩ = some (.string vl))) := fun w0 w1 h h' => by
   have hx := h.trans (h'.mono h.size)
   have hy := a8.trans (hx.mono a8.size)
   have a0 := c3.out.below hy c6
   have a1 := a0.name k hlt
   have a2 := a0.val k hlt
   rw [← b4.out] at a1
   rw [← b5.out] at a2
   have a3 := b0.out.below hx b0.out.lt
   have hput := a3.put hlt
   rw [← b4.out, ← b5.out] at hput
   exact ⟨⟨a1, a2⟩, a3.cell (k * 2) (by omega), a3.cell (k * 2 + 1) (by omega), a3.frozen _, a3.frozen _, hput, hy, by rw [aQ1 _ _ _ _ _ _ (by omega), aQ1 _ _ _ _ _ _ (by omega)]; exact a1, by rw [aQ1 _ _ _ _ _ _ (by omega), aQ1 _ _ _ _ _ _ (by omega)]; exact a2⟩
  go_wp2
  go_region_held3 (fun w' => w'.cell? ⟨g, k * 2, none⟩ = some (.string nm) ∧ w'.cell? ⟨g, k * 2 + 1, none⟩ = some (.string vl)) (first | assumption | go_keep) (first | (go_at_call 304; refine (bK6 nm vl _ z1 z2).mono ?_; rintro e w1 ⟨rfl, c7⟩; obtain ⟨d0, ⟨u0, d1⟩, ⟨u1, d2⟩, f0, f1, b3, c8, d3, d4⟩ := HA.out _ w1 ((Below.refl _ wr).drew) c7))
  go_wp2
  go_roundw
  case rel => exact ⟨k + 1, by omega, by go_num, b3, (c8.setCell (Nat.le_refl _) _).setCell (Nat.le_refl _) _⟩
  case measure => simp [intOf]; omega
theorem bQ4 (v : Value) (n base : Nat) (fs : Fs) (name : Tx) (w : World) (hv : aB4 w base v n fs) (hn : n ≤ 1073741824) (hsz : aU0 fs) :
  Calls prog 256 #[v, .string name] w fun e w' => e = .returned (.tuple #[.string (getV fs name), .bool (getB fs name)]) ∧ Below w.heap.size w w' := by
 have hl := hv.len;have a1 := hv;obtain ⟨oa, a7, rfl, a0⟩ := a1.slice;clear a1;obtain ⟨k, hk⟩ := exq (atF fs name);have a2 := dA0 fs name;by_cases hin : atF fs name < fs.length
 rotate_left
 ·have hV : Hid (getV fs name = ⟨#[]⟩) := by show _ = _; unfold getV; rw [if_neg hin]
  have hB : Hid (getB fs name = false) := by show _ = _; unfold getB; simpa using hin
  have a3 : k = n := by omega
  go_enter func256, ntmps256;go_wp2_with fail
  refine (bQ3 _ n base fs name _ hv hn).mono ?_;rintro e w1 ⟨rfl, rfl⟩;rw [← hk, a3];clear hv a0 hk a2 hin hsz a3;go_wp2
  go_ret2
  exact ⟨by rw [hV.out, hB.out]; rfl, Below.refl _ _⟩
 have hV : Hid (getV fs name = aH7 fs k) := by show _ = _; unfold getV; rw [if_pos hin, hk]
 have hB : Hid (getB fs name = true) := by show _ = _; unfold getB; simpa using hin
 obtain ⟨g, rfl, a4⟩ := a0 k (by omega);have hc := a4.val k (by omega);have a8 : (k : Int) < (n : Int) := by omega
 have a9 : ((k : Int) == (n : Int)) = false := by rw [beq_eq_false_iff_ne]; omega
 obtain ⟨_, hz⟩ := hsz k (by omega);obtain ⟨vl, a5⟩ := exq (aH7 fs k);rw [← a5] at hV hc hz;go_enter func256, ntmps256;go_wp2_with fail
 refine (bQ3 _ n base fs name _ hv hn).mono ?_;rintro e w1 ⟨rfl, rfl⟩;rw [← hk];clear hv a0 a4 hk a5 a2 hin hsz;go_wp2_with fail
 refine (aF3 vl _ hz).mono ?_;rintro e w2 ⟨rfl, a6⟩;go_wp2
 go_ret2
 exact ⟨by rw [hV.out, hB.out]; rfl, a6⟩
theorem aB5 {P : Program} {ops : Array Oper} {Q : Exit → Act → World → Prop} {md : Region.Mode} {S : World → Prop} {i : Nat} {oi : Oper} {v : Value} {fuel : Nat} {listed : Array Bool} {a : Act} {w : World} (d : Option Tmp) (hi : ops[i]? = some oi) (hd : oi.dst = d)
  (hs : Region.noSelect ops = true) (hf : Region.free md ops listed i = true) (hr : (Region.ready md ops listed).contains i = true)
  (hQ : ∀ c a w, Q (.panic c) (a.put oi.dst v) w → Q (.panic c) a w) (hy : YieldsIf P ops S oi v a) (hS : S w)
  (h : wpAnyH P md ops Q S fuel (listed.setIfInBounds i true) (a.put d v) w) : wpAnyH P md ops Q S (fuel + 1) listed a w :=
 wpAnyH_take hi hs hf hr hQ hy hS (hd ▸ h)
theorem bF6 (p : Tx) (o1 : Oa) (n1 c1 : Nat) (xs : Ts) (o2 : Oa) (n2 c2 : Nat) (ys : Ts) (st : Int) (v3 : Value) (n3 base : Nat) (fs : Fs) (b : Tx) (t : Int) (w : World) (h1 : aC0 w o1 n1 xs) (h2 : aC0 w o2 n2 ys) (h3 : aB4 w base v3 n3 fs) (hn1 : n1 ≤ 2000000) (hn2 : n2 ≤ 2000000) (hn3 : n3 ≤ 2000000) (hs1 : ∀ i, i < n1 → (aA7 xs i).size ≤ maxLen) (hs2 : ∀ i, i < n2 → (aA7 ys i).size ≤ maxLen) (hs3 : aR0 n3 fs) (hp : p.size ≤ maxLen) (hx : b.size ≤ maxLen) (hg : (getV fs aF0).size ≤ 1048576) :
  Calls prog 53 #[.agg #[.string p, .slice o1 n1 c1, .slice o2 n2 c2, .int .i64 st, v3, .string b, .int .i64 t]] w fun e w' => aA5 (ObjP p xs ys st fs b t) w e w' := by
 obtain ⟨o3, c3, rfl, _⟩ := h3.slice;have c7 : Hid (∀ W, Bw w W → aC0 W o1 n1 xs) := fun W h => h1.below h
 have d5 : Hid (∀ W, Bw w W → aC0 W o2 n2 ys) := fun W h => h2.below h
 have c8 : Hid (∀ W, Bw w W → aB4 W base (.slice o3 n3 c3) n3 fs) := fun W h => h3.below h
 have c9 : Hid (xs.length = n1) := h1.1;have b6 : Hid (ys.length = n2) := h2.1;have d6 := hid hs1;have d7 := hid hs2;have d8 := hid hs3;have d9 := hid hp;have HX := hid hx;have HG := hid hg;obtain ⟨vl, d0⟩ := exq (aC1 fs);have b9 : Hid (aC1 fs = vl) := d0.symm;clear h1 h2 h3 hs1 hs2 hs3 hp hx hg d0;have K0 := jnil w;go_enter func53, ntmps53;go_upto_region 1 with fail
 obtain ⟨q1, c0⟩ := exq (w.heap.size);obtain ⟨w1, b1⟩ := exq (w.alloc (.cells #[.string p, .slice o1 n1 c1, .slice o2 n2 c2, .int .i64 st, .slice o3 n3 c3, .string b, .int .i64 t] 36));have c4 := c0.symm;rw [← b1]; try rw [← c0];have hs1 := hsa b1 c4;have bw := bal b1;have K1 := ja K0 b1 c4;clear bw b1 c4 K0;clear hs1 c0;go_upto_region 1 with fail
 refine wp_region_held_drew (S := fun W => W.heap[q1]? = some (.cells #[.string p, .slice o1 n1 c1, .slice o2 n2 c2, .int .i64 st, .slice o3 n3 c3, .string b, .int .i64 t] 36)) (by kernel_rfl) (jb K1 0 rfl) (fun _ => ?_)
 obtain ⟨w2, hX⟩ := exq w1.drew;have bw := bdr hX;rw [← hX];have K2 := jw K1 bw;have c5 := (jb K2 0 rfl);clear bw hX K1;refine tkP 0 (.pointer (some ⟨q1, 3, none⟩)) 4 rfl rfl c5 ?_;go_frame;refine tkL 1 (.agg #[.int .i64 st, .slice o3 n3 c3, .string b]) 5 rfl rfl (Or.inl ⟨by rfl, by intro W hW; have a4 := hW; have y3 := c7c a4; go_simp⟩) c5 ?_;go_frame;refine rd1 2 rfl (fun K hK => ?_)
 go_simp;refine (bC1 st _ b n3 base fs _ (c8.out _ K2.hb) (by omega) d8.out HX.out).mono ?_;rintro e w3 ⟨u1, rfl, a6, bw⟩;have K3 := jw K2 bw;clear bw K2;have a0 := (jb K3 0 rfl);refine hK.out _ _ a0 (fun _ => ?_)
 clear hK K c5;cases u1
 ·have HF : Hid (¬ ObjP p xs ys st fs b t) := fun h => nomatch a6.2 h.1
  clear a6;refine tkP 3 (.bool true) 7 rfl rfl a0 (tkP 4 (.bool true) 8 rfl rfl a0 (tkN 5 9 rfl rfl a0 ?_));go_frame;refine tkN 6 10 rfl rfl a0 (tkN 7 11 rfl rfl a0 (tkN 8 12 rfl rfl a0 ?_));go_frame;refine tkP 9 (.bool true) 13 rfl rfl a0 (tkP 10 (.bool true) 14 rfl rfl a0 (tkN 11 15 rfl rfl a0 ?_));go_frame;refine tkN 12 16 rfl rfl a0 (tkN 13 17 rfl rfl a0 (tkN 14 18 rfl rfl a0 ?_));go_frame;refine tkP 15 (.bool true) 19 rfl rfl a0 (tkP 16 (.bool true) 20 rfl rfl a0 (tkN 17 21 rfl rfl a0 ?_));go_frame;refine tkN 18 22 rfl rfl a0 (tkN 19 23 rfl rfl a0 (tkN 20 24 rfl rfl a0 ?_));go_frame;refine tkP 21 (.bool true) 25 rfl rfl a0 (tkP 22 (.bool true) 26 rfl rfl a0 (tkN 23 27 rfl rfl a0 ?_));go_frame;refine tkN 24 28 rfl rfl a0 (tkN 25 29 rfl rfl a0 (tkN 26 30 rfl rfl a0 ?_));go_frame;refine tkN 27 31 rfl rfl a0 (tkN 28 32 rfl rfl a0 (tkN 29 33 rfl rfl a0 ?_));go_frame;refine tkN 30 34 rfl rfl a0 (tkP 31 (.bool true) 35 rfl rfl a0 (tkP 32 (.bool true) 36 rfl rfl a0 ?_));go_frame;refine tkN 33 37 rfl rfl a0 (tkN 34 38 rfl rfl a0 (tkN 35 39 rfl rfl a0 ?_));go_frame;refine tkN 36 40 rfl rfl a0 (tkN 37 41 rfl rfl a0 (tkN 38 42 rfl rfl a0 ?_));go_frame;refine tkN 39 43 rfl rfl a0 (tkP 40 (.bool true) 44 rfl rfl a0 ?_);go_frame;clear a0;refine wdn ?_;go_wp2_with fail
  go_ret;exact aA5.no HF.out K3.hb
 have HR : Hid (aN1 st fs b) := a6.1 rfl;clear a6;refine tkP 3 (.bool false) 7 rfl rfl a0 (tkP 4 (.bool false) 8 rfl rfl a0 (tkP 5 (.pointer (some ⟨q1, 0, none⟩)) 9 rfl rfl a0 ?_));go_frame;refine tkL 6 (.string p) 10 rfl rfl (Or.inl ⟨by rfl, by intro W hW; have a4 := hW; have y0 := c7c a4; go_simp⟩) a0 ?_;go_frame;refine rd1 7 rfl (fun K hK => ?_)
 go_simp;refine (bI2 p _ d9.out).mono ?_;rintro e w4 ⟨u2, rfl, a7, bw⟩;have K4 := jw K3 bw;clear bw K3;have a1 := (jb K4 0 rfl);refine hK.out _ _ a1 (fun _ => ?_)
 clear hK K a0;cases u2
 ·have HF : Hid (¬ ObjP p xs ys st fs b t) := fun h => nomatch a7.2 h.2.1
  clear a7;refine tkP 8 (.bool true) 12 rfl rfl a1 (tkP 9 (.bool true) 13 rfl rfl a1 (tkP 10 (.bool true) 14 rfl rfl a1 ?_));go_frame;refine tkN 11 15 rfl rfl a1 (tkN 12 16 rfl rfl a1 (tkN 13 17 rfl rfl a1 ?_));go_frame;refine tkN 14 18 rfl rfl a1 (tkP 15 (.bool true) 19 rfl rfl a1 (tkP 16 (.bool true) 20 rfl rfl a1 ?_));go_frame;refine tkN 17 21 rfl rfl a1 (tkN 18 22 rfl rfl a1 (tkN 19 23 rfl rfl a1 ?_));go_frame;refine tkN 20 24 rfl rfl a1 (tkP 21 (.bool true) 25 rfl rfl a1 (tkP 22 (.bool true) 26 rfl rfl a1 ?_));go_frame;refine tkN 23 27 rfl rfl a1 (tkN 24 28 rfl rfl a1 (tkN 25 29 rfl rfl a1 ?_));go_frame;refine tkN 26 30 rfl rfl a1 (tkN 27 31 rfl rfl a1 (tkN 28 32 rfl rfl a1 ?_));go_frame;refine tkN 29 33 rfl rfl a1 (tkN 30 34 rfl rfl a1 (tkP 31 (.bool true) 35 rfl rfl a1 ?_));go_frame;refine tkP 32 (.bool true) 36 rfl rfl a1 (tkN 33 37 rfl rfl a1 (tkN 34 38 rfl rfl a1 ?_));go_frame;refine tkN 35 39 rfl rfl a1 (tkN 36 40 rfl rfl a1 (tkN 37 41 rfl rfl a1 ?_));go_frame;refine tkN 38 42 rfl rfl a1 (tkN 39 43 rfl rfl a1 (tkP 40 (.bool true) 44 rfl rfl a1 ?_));go_frame;clear a1;refine wdn ?_;go_wp2_with fail
  go_ret;exact aA5.no HF.out K4.hb
 have HP : Hid (aI9 p) := a7.1 rfl;clear a7;refine tkP 8 (.bool false) 12 rfl rfl a1 (tkP 9 (.bool false) 13 rfl rfl a1 (tkP 10 (.bool false) 14 rfl rfl a1 ?_));go_frame;refine tkP 11 (.pointer (some ⟨q1, 6, none⟩)) 15 rfl rfl a1 ?_;go_frame;refine tkL 12 (.int .i64 t) 16 rfl rfl (Or.inl ⟨by rfl, by intro W hW; have a4 := hW; have y6 := c7c a4; go_simp⟩) a1 ?_;go_frame;refine rd1 13 rfl (fun K hK => ?_)
 go_simp;refine (aU2 t 0 1000000 _).mono ?_;rintro e w5 ⟨rfl, d1⟩;have bw : Below w4.heap.size (w4) w5 := by rw [d1]; exact Below.refl _ _
 clear d1;obtain ⟨u3, b2⟩ : ∃ u3, u3 = decide ((0 : Int) ≤ t ∧ t ≤ 1000000) := ⟨_, rfl⟩;rw [← b2];have K5 := jw K4 bw;clear bw K4;have a2 := (jb K5 0 rfl);refine hK.out _ _ a2 (fun _ => ?_)
 clear hK K a1;cases u3
 ·have HF : Hid (¬ ObjP p xs ys st fs b t) := fun h => absurd h.2.2.1 (of_decide_eq_false b2.symm)
  clear b2;refine tkP 14 (.bool true) 18 rfl rfl a2 (tkP 15 (.bool true) 19 rfl rfl a2 (tkP 16 (.bool true) 20 rfl rfl a2 ?_));go_frame;refine tkN 17 21 rfl rfl a2 (tkN 18 22 rfl rfl a2 (tkN 19 23 rfl rfl a2 ?_));go_frame;refine tkN 20 24 rfl rfl a2 (tkP 21 (.bool true) 25 rfl rfl a2 (tkP 22 (.bool true) 26 rfl rfl a2 ?_));go_frame;refine tkN 23 27 rfl rfl a2 (tkN 24 28 rfl rfl a2 (tkN 25 29 rfl rfl a2 ?_));go_frame;refine tkN 26 30 rfl rfl a2 (tkN 27 31 rfl rfl a2 (tkN 28 32 rfl rfl a2 ?_));go_frame;refine tkN 29 33 rfl rfl a2 (tkN 30 34 rfl rfl a2 (tkP 31 (.bool true) 35 rfl rfl a2 ?_));go_frame;refine tkP 32 (.bool true) 36 rfl rfl a2 (tkN 33 37 rfl rfl a2 (tkN 34 38 rfl rfl a2 ?_));go_frame;refine tkN 35 39 rfl rfl a2 (tkN 36 40 rfl rfl a2 (tkN 37 41 rfl rfl a2 ?_));go_frame;refine tkN 38 42 rfl rfl a2 (tkN 39 43 rfl rfl a2 (tkP 40 (.bool true) 44 rfl rfl a2 ?_));go_frame;clear a2;refine wdn ?_;go_wp2_with fail
  go_ret;exact aA5.no HF.out K5.hb
 have HT : Hid (0 ≤ t ∧ t ≤ 1000000) := (show 0 ≤ t ∧ t ≤ 1000000 from of_decide_eq_true b2.symm);clear b2;refine tkP 14 (.bool false) 18 rfl rfl a2 (tkP 15 (.bool false) 19 rfl rfl a2 (tkP 16 (.bool false) 20 rfl rfl a2 ?_));go_frame;refine tkP 17 (.pointer (some ⟨q1, 1, none⟩)) 21 rfl rfl a2 ?_;go_frame;refine tkL 18 (.slice o1 n1 c1) 22 rfl rfl (Or.inl ⟨by rfl, by intro W hW; have a4 := hW; have y1 := c7c a4; go_simp⟩) a2 ?_;go_frame;refine rd1 19 rfl (fun K hK => ?_)
 go_simp;refine (cN5 _ _ _ xs _ (c7.out _ K5.hb) (by omega) d6.out).mono ?_;rintro e w6 ⟨u4, rfl, a8, bw⟩;have K6 := jw K5 bw;clear bw K5;have a3 := (jb K6 0 rfl);refine hK.out _ _ a3 (fun _ => ?_)
 clear hK K a2;cases u4
 ·have HF : Hid (¬ ObjP p xs ys st fs b t) := fun h => nomatch a8.2 h.2.2.2.1
  clear a8;refine tkP 20 (.bool true) 24 rfl rfl a3 (tkP 21 (.bool true) 25 rfl rfl a3 (tkP 22 (.bool true) 26 rfl rfl a3 ?_));go_frame;refine tkN 23 27 rfl rfl a3 (tkN 24 28 rfl rfl a3 (tkN 25 29 rfl rfl a3 ?_));go_frame;refine tkN 26 30 rfl rfl a3 (tkN 27 31 rfl rfl a3 (tkN 28 32 rfl rfl a3 ?_));go_frame;refine tkN 29 33 rfl rfl a3 (tkN 30 34 rfl rfl a3 (tkP 31 (.bool true) 35 rfl rfl a3 ?_));go_frame;refine tkP 32 (.bool true) 36 rfl rfl a3 (tkN 33 37 rfl rfl a3 (tkN 34 38 rfl rfl a3 ?_));go_frame;refine tkN 35 39 rfl rfl a3 (tkN 36 40 rfl rfl a3 (tkN 37 41 rfl rfl a3 ?_));go_frame;refine tkN 38 42 rfl rfl a3 (tkN 39 43 rfl rfl a3 (tkP 40 (.bool true) 44 rfl rfl a3 ?_));go_frame;clear a3;refine wdn ?_;go_wp2_with fail
  go_ret;exact aA5.no HF.out K6.hb
 have e0 : Hid (bC3 xs) := a8.1 rfl;clear a8;refine tkP 20 (.bool false) 24 rfl rfl a3 (tkP 21 (.bool false) 25 rfl rfl a3 (tkP 22 (.bool false) 26 rfl rfl a3 ?_));go_frame;refine tkP 23 (.pointer (some ⟨q1, 1, none⟩)) 27 rfl rfl a3 ?_;go_frame;refine tkL 24 (.slice o1 n1 c1) 28 rfl rfl (Or.inl ⟨by rfl, by intro W hW; have a4 := hW; have y1 := c7c a4; go_simp⟩) a3 ?_;go_frame;refine tkP 25 (.pointer (some ⟨q1, 3, none⟩)) 29 rfl rfl a3 (tkP 26 (.pointer (some ⟨q1, 4, none⟩)) 30 rfl rfl a3 ?_);go_frame;refine tkL 27 (.slice o3 n3 c3) 31 rfl rfl (Or.inl ⟨by rfl, by intro W hW; have a4 := hW; have y4 := c7c a4; go_simp⟩) a3 ?_;go_frame;refine rd1 28 rfl (fun K hK => ?_)
 go_simp;refine (aU7 _ n3 base fs _ (c8.out _ K6.hb) (by omega) HG.out).mono ?_;rintro e w7 ⟨vv, rfl, a9, bw⟩;obtain ⟨oY, pY, rfl⟩ := aA0 a9;rw [b9.out] at a9 ⊢;have K7 := jj K6 (jcR (jN bw) a9 jhn);clear a9;clear bw K6;have d2 := (jb K7 1 rfl);refine hK.out _ _ d2 (fun _ => ?_)
 clear hK K a3;refine rd1 29 rfl (fun K hK => ?_)
 go_simp;refine (bD6 _ _ _ _ _ _ xs vl _ (c7.out _ K7.hb) (aC2 (jo K7 0 rfl)) (by omega)).mono ?_;rintro e w8 ⟨rfl, bw⟩;obtain ⟨u5, b3⟩ := exq (decide (xs = vl));rw [← b3];have K8 := jw K7 bw;clear bw K7;have a5 := (jb K8 1 rfl);refine hK.out _ _ a5 (fun _ => ?_)
 clear hK K d2;cases u5
 ·have HF : Hid (¬ ObjP p xs ys st fs b t) := fun h => absurd (h.2.2.2.2.1.trans b9.out) (of_decide_eq_false b3.symm)
  clear b3;refine tkP 30 (.bool true) 34 rfl rfl a5 (tkP 31 (.bool true) 35 rfl rfl a5 (tkP 32 (.bool true) 36 rfl rfl a5 ?_));go_frame;refine tkN 33 37 rfl rfl a5 (tkN 34 38 rfl rfl a5 (tkN 35 39 rfl rfl a5 ?_));go_frame;refine tkN 36 40 rfl rfl a5 (tkN 37 41 rfl rfl a5 (tkN 38 42 rfl rfl a5 ?_));go_frame;refine tkN 39 43 rfl rfl a5 (tkP 40 (.bool true) 44 rfl rfl a5 ?_);go_frame;clear a5;refine wdn ?_;go_wp2_with fail
  go_ret;exact aA5.no HF.out K8.hb
 have HE : Hid (xs = vl) := (show xs = vl from of_decide_eq_true b3.symm);clear b3;refine tkP 30 (.bool false) 34 rfl rfl a5 (tkP 31 (.bool false) 35 rfl rfl a5 (tkP 32 (.bool false) 36 rfl rfl a5 ?_));go_frame;refine tkP 33 (.pointer (some ⟨q1, 2, none⟩)) 37 rfl rfl a5 ?_;go_frame;refine tkL 34 (.slice o2 n2 c2) 38 rfl rfl (Or.inl ⟨by rfl, by intro W hW; have a4 := hW; have y2 := c7c a4; go_simp⟩) a5 ?_;go_frame;refine tkP 35 (.int .i64 (n2 : Int)) 39 rfl rfl a5 (tkP 36 (.pointer (some ⟨q1, 1, none⟩)) 40 rfl rfl a5 ?_);go_frame;refine tkL 37 (.slice o1 n1 c1) 41 rfl rfl (Or.inl ⟨by rfl, by intro W hW; have a4 := hW; have y1 := c7c a4; go_simp⟩) a5 ?_;go_frame;refine tkP 38 (.int .i64 (n1 : Int)) 42 rfl rfl a5 ?_;go_frame;by_cases hc1 : (n2 : Int) = (n1 : Int)
 rotate_left
 ·have b4 : ((n2 : Int) == (n1 : Int)) = false := by simpa using hc1
  have b5 : ((n2 : Int) != (n1 : Int)) = true := by simpa using hc1
  have HF : Hid (¬ ObjP p xs ys st fs b t) := fun h => by have h1 := h.2.2.2.2.2.1; have h2 := c9.out; have h3 := b6.out; omega
  have b0 := hid hc1;clear hc1;refine tkP 39 (.bool true) 43 rfl rfl a5 (tkP 40 (.bool true) 44 rfl rfl a5 ?_);go_frame;clear a5;refine wdn ?_;go_wp2_with fail
  go_ret;exact aA5.no HF.out K8.hb
 have b4 : ((n2 : Int) == (n1 : Int)) = true := by simpa using hc1
 have b5 : ((n2 : Int) != (n1 : Int)) = false := by simpa using hc1
 have b0 := hid hc1;clear hc1;refine tkP 39 (.bool false) 43 rfl rfl a5 (tkP 40 (.bool false) 44 rfl rfl a5 ?_);go_frame;clear a5;refine wdn ?_;clear b4 b5;have e1 := b0;clear b0;have HQ : Hid ((∀ y ∈ ys, aK7 y) ↔ ObjP p xs ys st fs b t) := ⟨fun h => ⟨HR.out, HP.out, HT.out, e0.out, HE.out.trans b9.out.symm, by have h1 := c9.out; have h2 := b6.out; have h3 := e1.out; omega, h⟩, fun h => h.2.2.2.2.2.2⟩
 go_wp2_with fail
 go_loopw [3] (fun i wr => ∃ j : Nat, j ≤ n2 ∧ i = .int .i64 (j : Int) ∧ Hid (Bw w wr ∧ wr.heap[q1]? = some (.cells #[.string p, .slice o1 n1 c1, .slice o2 n2 c2, .int .i64 st, .slice o3 n3 c3, .string b, .int .i64 t] 36)) ∧ Hid (∀ x ∈ ys.take j, aK7 x)) (fun i _ => n2 - (intOf i).toNat)
 case atStart => exact ⟨0, Nat.zero_le _, rfl, ⟨K8.hb, (jb K8 1 rfl)⟩, fun x hx => by simp at hx⟩
 case round =>
  obtain ⟨j, hj, rfl, HW, HN⟩ := hrel;have e2 : wr.cell? ⟨q1, 2, none⟩ = some (.slice o2 n2 c2) := (aA1 HW.out.2 2).trans rfl;by_cases hlt : (j : Int) < (n2 : Int)
  rotate_left
  ·have HA : Hid (ObjP p xs ys st fs b t) := HQ.out.1 (by
    have h := HN.out
    rw [List.take_of_length_le (by rw [b6.out]; omega)] at h
    exact h)
   clear HN;go_wp2_with fail
   go_ret;exact ⟨true, rfl, ⟨fun _ => HA.out, fun _ => rfl⟩, HW.out.1⟩
  have c6 : j < ys.length := by rw [b6.out]; omega
  obtain ⟨g, e3, hg, hc⟩ := (d5.out wr HW.out.1).2 j (by omega);subst e3;have hs := d7.out j (by omega);obtain ⟨x, b7⟩ := exq (aA7 ys j);rw [← b7] at hc hs;have HM : Hid (x ∈ ys) := by show _ ∈ _; rw [b7]; exact aG7 ys j c6
  have e4 : Hid (ys.take (j + 1) = ys.take j ++ [x]) := by show _ = _; rw [aJ4 ys j c6, b7]
  clear b7 c6;go_wp2_with fail
  refine (aS8 x _ hs).mono ?_;rintro e d3 ⟨tx, rfl, b8, bw⟩;have d4 : Hid (Bw w d3 ∧ d3.heap[q1]? = some (.cells #[.string p, .slice o1 n1 c1, .slice (some ⟨g, 0, none⟩) n2 c2, .int .i64 st, .slice o3 n3 c3, .string b, .int .i64 t] 36)) := ⟨HW.out.1.trans (bw.mono HW.out.1.size), aA6 HW.out.2 bw⟩;clear bw e2 hc HW;cases tx
  ·have HF : Hid (¬ ObjP p xs ys st fs b t) := fun h => nomatch b8.2 (HQ.out.2 h x HM.out)
   clear b8 HN;go_wp2_with fail
   go_ret;exact aA5.no HF.out d4.out.1
  have e5 : Hid (∀ y ∈ ys.take (j + 1), aK7 y) := by
   intro y hy
   rw [e4.out] at hy
   rcases List.mem_append.1 hy with hy | hy
   ·exact HN.out y hy
   ·rw [List.mem_singleton.1 hy]; exact b8.1 rfl
  clear b8 HN;go_wp2_with fail
  go_roundw
  case rel => exact ⟨j + 1, by omega, by go_num, d4, e5⟩
  case measure => simp [intOf]; omega
end Go.Proofs.YtiobfnpmidjijaaGreatDoor
