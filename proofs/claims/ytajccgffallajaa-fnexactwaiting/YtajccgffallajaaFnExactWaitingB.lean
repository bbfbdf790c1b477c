/- What the proof of FnExactWaiting leans on: contracts of the program's and the specification's functions, and plain facts (part 2 of 6). -/
import Derived.Test.YtajccgffallajaaFnExactWaitingA
namespace Go.Proofs.Ytajccgffallajaa
open Go.RowKit
open Go.Lib hiding intOf

/-- The i-th of a list. -/
def writeAt (l : List (Int × ByteArray)) (i : Nat) : (Int × ByteArray) := l.getD i (0, ⟨#[]⟩)
/-- Its cells. -/
def writeEnc (x : (Int × ByteArray)) : List Value := [.int .i64 x.1, .string x.2]
def flatWrite (l : List (Int × ByteArray)) : List Value := l.flatMap writeEnc
theorem flatWrite_len (l : List (Int × ByteArray)) : (flatWrite l).length = l.length * 2 := by
  induction l with
  | nil => rfl
  | cons f r ih => simp only [flatWrite, writeEnc, List.flatMap_cons, List.length_append, List.length_cons, List.length_nil] at ih ⊢; omega
theorem flatWrite_get : ∀ (l : List (Int × ByteArray)) (i : Nat), i < l.length → (flatWrite l)[i * 2]? = some (.int .i64 ((writeAt l i).1)) ∧ (flatWrite l)[i * 2 + 1]? = some (.string ((writeAt l i).2))
  | [], i, h => by simp at h
  | f :: r, 0, _ => by simp [flatWrite, writeEnc, writeAt]
  | f :: r, i + 1, h => by
    have ih := flatWrite_get r i (by simpa using h)
    have e : flatWrite (f :: r) = writeEnc f ++ flatWrite r := rfl
    have hl : (writeEnc f).length = 2 := rfl
    have h2 : writeAt (f :: r) (i + 1) = writeAt r i := by simp [writeAt]
    have key : ∀ j, (flatWrite (f :: r))[i * 2 + 2 + j]? = (flatWrite r)[i * 2 + j]? := fun j => by
      rw [e, List.getElem?_append_right (by rw [hl]; omega), hl]; congr 1; omega
    rw [h2]
    refine ⟨(by rw [show (i + 1) * 2 = i * 2 + 2 + 0 by omega, key]; exact ih.1), (by rw [show (i + 1) * 2 + 1 = i * 2 + 2 + 1 by omega, key]; exact ih.2)⟩
theorem writeAt_mem (l : List (Int × ByteArray)) (i : Nat) (h : i < l.length) : writeAt l i ∈ l := by
  unfold writeAt
  rw [List.getD_eq_getElem?_getD, List.getElem?_eq_getElem h]
  exact List.getElem_mem h
theorem take_writeAt (l : List (Int × ByteArray)) (i : Nat) (h : i < l.length) : l.take (i + 1) = l.take i ++ [writeAt l i] := by
  unfold writeAt
  rw [List.getD_eq_getElem?_getD, List.getElem?_eq_getElem h, List.take_succ_eq_append_getElem h]
  rfl
/-- A list that is read: its cells in a block that is there. -/
def WriteA (w : World) (oa : Option Addr) (n : Nat) (l : List (Int × ByteArray)) : Prop :=
  l.length = n ∧ ∀ i, i < n → ∃ g, oa = some ⟨g, 0, none⟩ ∧ g < w.heap.size ∧ w.cell? ⟨g, i * 2, none⟩ = some (.int .i64 ((writeAt l i).1)) ∧ w.cell? ⟨g, i * 2 + 1, none⟩ = some (.string ((writeAt l i).2))
theorem WriteA.below {w W : World} {oa : Option Addr} {n : Nat} {l : List (Int × ByteArray)} (h : WriteA w oa n l) (hb : Below w.heap.size w W) : WriteA W oa n l :=
  ⟨h.1, fun i hi => by
    obtain ⟨g, h1, h2, r0, r1⟩ := h.2 i hi
    exact ⟨g, h1, Nat.lt_of_lt_of_le h2 hb.size, by rw [hb.cell (p := ⟨g, i * 2, none⟩) h2]; exact r0, by rw [hb.cell (p := ⟨g, i * 2 + 1, none⟩) h2]; exact r1⟩⟩
/-- A list that came in, in blocks below B. -/
def ArgWrite (w : World) (B : Nat) (a : Option Addr) (n : Nat) (l : List (Int × ByteArray)) : Prop :=
  l.length = n ∧ ∀ i, i < n → ∃ b off, a = some ⟨b, off, none⟩ ∧ b < B ∧ w.cell? ⟨b, off + i * 2, none⟩ = some (.int .i64 ((writeAt l i).1)) ∧ w.cell? ⟨b, off + i * 2 + 1, none⟩ = some (.string ((writeAt l i).2))
theorem ArgWrite.below {w w' : World} {B : Nat} {a : Option Addr} {n : Nat} {l : List (Int × ByteArray)} (h : ArgWrite w B a n l) (hb : Below B w w') : ArgWrite w' B a n l :=
  ⟨h.1, fun i hi => by
    obtain ⟨b, off, h1, h2, r0, r1⟩ := h.2 i hi
    exact ⟨b, off, h1, h2, by rw [hb.cell (p := ⟨b, off + i * 2, none⟩) h2]; exact r0, by rw [hb.cell (p := ⟨b, off + i * 2 + 1, none⟩) h2]; exact r1⟩⟩
/-- The first k of a row of 2 n cells are told. -/
def PartWrite (w : World) (g n k : Nat) (l : List (Int × ByteArray)) : Prop :=
  ∃ cur, w.heap[g]? = some (.cells cur 172 (0, 0)) ∧ cur.size = n * 2 ∧ ∀ i, i < k → cur[i * 2]? = some (.int .i64 ((writeAt l i).1)) ∧ cur[i * 2 + 1]? = some (.string ((writeAt l i).2))
theorem PartWrite.below {w w' : World} {g n k B : Nat} {l : List (Int × ByteArray)} (h : PartWrite w g n k l) (hb : Below B w w') (hB : g < B) : PartWrite w' g n k l := by
  obtain ⟨cur, h1, h2⟩ := h
  exact ⟨cur, by rw [hb.block g hB]; exact h1, h2⟩
theorem PartWrite.lt {w : World} {g n k : Nat} {l : List (Int × ByteArray)} (h : PartWrite w g n k l) : g < w.heap.size := by
  obtain ⟨cur, h1, _⟩ := h
  exact (Array.getElem?_eq_some_iff.1 h1).1
theorem PartWrite.cell {w : World} {g n k : Nat} {l : List (Int × ByteArray)} (h : PartWrite w g n k l) (j : Nat) (hj : j < n * 2) : ∃ u, w.cell? ⟨g, j, none⟩ = some u := by
  obtain ⟨cur, h1, h2, _⟩ := h
  refine ⟨cur[j]'(by omega), ?_⟩
  simp only [World.cell?, h1]
  simp [show j < cur.size by omega]
theorem PartWrite.frozen {w : World} {g n k : Nat} {l : List (Int × ByteArray)} (h : PartWrite w g n k l) (j : Nat) : w.frozen? ⟨g, j, none⟩ = false := by
  obtain ⟨cur, h1, _⟩ := h
  simp [World.frozen?, h1]

theorem PartWrite.put {w : World} {g n k : Nat} {l : List (Int × ByteArray)} (h : PartWrite w g n k l) (hk : k < n) : PartWrite ((w.setCell ⟨g, k * 2, none⟩ (.int .i64 (writeAt l k).1)).setCell ⟨g, k * 2 + 1, none⟩ (.string (writeAt l k).2)) g n (k + 1) l := by
  obtain ⟨cur, h1, h2, h3⟩ := h
  refine ⟨_, heap_set _ g (k * 2 + 1) _ _ _ _ (heap_set _ g (k * 2) _ _ _ _ h1), by simpa using h2, ?_⟩
  intro i hi
  by_cases e : i = k
  · subst e
    exact ⟨by rw [Array.getElem?_setIfInBounds_ne (by omega), Array.getElem?_setIfInBounds_self_of_lt (by first | omega | (simp; omega))], by rw [Array.getElem?_setIfInBounds_self_of_lt (by first | omega | (simp; omega))]⟩
  · have := h3 i (by omega)
    exact ⟨by rw [Array.getElem?_setIfInBounds_ne (by omega), Array.getElem?_setIfInBounds_ne (by omega)]; exact this.1, by rw [Array.getElem?_setIfInBounds_ne (by omega), Array.getElem?_setIfInBounds_ne (by omega)]; exact this.2⟩
theorem PartWrite.owns {w : World} {g n : Nat} {l : List (Int × ByteArray)} (h : PartWrite w g n n l) (hl : l.length = n) (hm : n ≤ maxLen) {base : Nat} (hb : base ≤ g) : w.ownsRow base 172 2 (.slice (some ⟨g, 0, none⟩) n n) n (flatWrite l) := by
  obtain ⟨cur, hg, hs, hc⟩ := h
  refine ⟨by rw [flatWrite_len, hl], .inr ⟨g, n, cur, rfl, hb, hg, Nat.le_refl _, hm, hs, ?_⟩⟩
  apply List.ext_getElem?
  intro j
  rw [List.getElem?_take]
  by_cases hj : j < n * 2
  · rw [if_pos hj]
    have hf := flatWrite_get l (j / 2) (by omega)
    have hcc := hc (j / 2) (by omega)
    have hr : j = (j / 2) * 2 ∨ j = (j / 2) * 2 + 1 := by omega
    rcases hr with e | e
    · have e2 := hf.1
      have e3 := hcc.1
      rw [← e] at e2 e3
      rw [e2]; simpa using e3
    · have e2 := hf.2
      have e3 := hcc.2
      rw [← e] at e2 e3
      rw [e2]; simpa using e3
  · rw [if_neg hj, List.getElem?_eq_none (by rw [flatWrite_len]; omega)]
/-- An owned list can be read. -/
theorem write_view {w : World} {base n cap : Nat} {oa : Option Addr} {l : List (Int × ByteArray)} (h : w.ownsRow base 172 2 (.slice oa n cap) n (flatWrite l)) : WriteA w oa n l := by
  obtain ⟨hl, hv⟩ := h
  rw [flatWrite_len] at hl
  refine ⟨by omega, fun i hi => ?_⟩
  rcases hv with ⟨e, h0⟩ | ⟨g, cap, cur, e, hb, hg, hn, hm, hcs, htk⟩
  · omega
  · cases e
    have hf := flatWrite_get l i (by omega)
    rw [← htk] at hf
    simp only [List.getElem?_take] at hf
    rw [if_pos (by omega), if_pos (by omega)] at hf
    refine ⟨g, rfl, (Array.getElem?_eq_some_iff.1 hg).1, by simp only [World.cell?, hg]; simpa using hf.1, by simp only [World.cell?, hg]; simpa using hf.2⟩
theorem write_len {w : World} {base n : Nat} {v : Value} {l : List (Int × ByteArray)} (h : w.ownsRow base 172 2 v n (flatWrite l)) : l.length = n := by
  have := h.1
  rw [flatWrite_len] at this
  omega
theorem infoWrite : (Try.prog.info? 172).map (fun i => (i.zero, i.size, i.bytes)) = some (some (.agg #[.int .i64 0, .string ⟨#[]⟩]), 2, 24) := by kernel_rfl

/-- The measure is negative, or what is left of L. -/
def SzWriteR (L : Int) (n : Nat) (l : List (Int × ByteArray)) (w : World) (e : Ending) (w' : World) : Prop :=
  ∃ r : Int, e = .returned (.int .i64 r) ∧ r ≤ L ∧ (0 ≤ r → r + (n : Int) ≤ L ∧ n ≤ 1048576 ∧ ∀ x ∈ l, (x.2).size ≤ 1048576) ∧ Below w.heap.size w w'
set_option maxHeartbeats 4000000 in
set_option maxRecDepth 100000 in
theorem szWriteS_room (L : Int) (hL0 : 0 ≤ L) (hL1 : L ≤ 1048576) (B : Nat) (a : Option Addr) (n cap : Nat) (l : List (Int × ByteArray)) (w : World) (harg : ArgWrite w B a n l) (hB : B ≤ w.heap.size) (hn : n ≤ maxLen) (hsz : ∀ x ∈ l, (x.2).size ≤ maxLen) :
    Calls Try.prog 60 #[.slice a n cap, .int .i64 L] w fun e w' => SzWriteR L n l w e w' := by
  unfold maxLen at hn
  have HS : Hid (∀ x ∈ l, (x.2).size ≤ maxLen) := hsz
  have HLN : Hid (l.length = n) := harg.1
  have HA : Hid (∀ W, Below w.heap.size w W → ArgWrite W B a n l) := fun W h => harg.below (h.mono hB)
  clear hsz harg
  by_cases c1 : L - (n : Int) < 0
  · go_enter Try.func60, Try.ntmps60
    go_wp2
    go_ret
    exact ⟨-1, rfl, by omega, fun h => absurd h (by omega), Below.refl _ _⟩
  · go_enter Try.func60, Try.ntmps60
    go_wp2
    go_loopw [1, 5] (fun lf i wr => ∃ (k : Nat) (x : Int), k ≤ n ∧ i = .int .i64 (k : Int) ∧ lf = .int .i64 x ∧ 0 ≤ x ∧ x + (n : Int) ≤ L ∧ Hid (∀ x ∈ l.take k, (x.2).size ≤ 1048576) ∧ Hid (Below w.heap.size w wr)) (fun _ i _ => n - (intOf i).toNat)
    case atStart => exact ⟨0, _, Nat.zero_le _, rfl, rfl, by omega, by omega, fun x hx => by simp at hx, Below.refl _ _⟩
    case round =>
      obtain ⟨k, x, hk, rfl, rfl, hx0, hx1, HX, HBW⟩ := hrel
      by_cases hlt : k < n
      · have hlt2 : (k : Int) < (n : Int) := by omega
        obtain ⟨b, off, rfl, hbB, r0, r1⟩ := (HA.out wr HBW.out).2 k hlt
        obtain ⟨y, hy⟩ : ∃ y, y = writeAt l k := ⟨_, rfl⟩
        have HM : Hid (y ∈ l) := by show _ ∈ _; rw [hy]; exact writeAt_mem l k (by rw [HLN.out]; exact hlt)
        have HTK : Hid (l.take (k + 1) = l.take k ++ [y]) := by show _ = _; rw [hy]; exact take_writeAt l k (by rw [HLN.out]; exact hlt)
        have s1 := HS.out y HM.out
        rw [← hy] at r0 r1
        clear hy
        obtain ⟨y0, y1⟩ := y
        go_wp2_with fail
        refine (szWrite_any x hx0 (by omega) y0 y1 _ s1).mono ?_
        rintro e w1 ⟨r, rfl, hr1, hr2, bw⟩
        have HB2 : Hid (Below w.heap.size w w1) := HBW.out.trans (bw.mono HBW.out.size)
        clear r0 r1 bw
        by_cases d1 : r < 0
        · clear hr2
          go_wp2
          go_ret
          exact ⟨-1, rfl, by omega, fun h => absurd h (by omega), HB2.out⟩
        · have HX2 : Hid (∀ x ∈ l.take (k + 1), (x.2).size ≤ 1048576) := fun x hx => by
            rw [HTK.out] at hx
            rcases List.mem_append.1 hx with hx | hx
            · exact HX.out x hx
            · rw [List.mem_singleton.1 hx]; exact hr2 (by omega)
          clear hr2
          go_wp2
          go_roundw
          case rel => exact ⟨k + 1, r, by omega, by go_num, rfl, by omega, by omega, HX2, HB2⟩
          case measure => simp [intOf]; omega
      · have HF : Hid (n ≤ 1048576 ∧ ∀ x ∈ l, (x.2).size ≤ 1048576) := ⟨by omega, fun x hx => HX.out x (by rw [List.take_of_length_le (by rw [HLN.out]; omega)]; exact hx)⟩
        go_wp2
        go_ret
        exact ⟨x, rfl, by omega, fun _ => ⟨by omega, HF.out⟩, HBW.out⟩
set_option maxHeartbeats 4000000 in
set_option maxRecDepth 100000 in
theorem toWriteS_any (B : Nat) (a : Option Addr) (n cap : Nat) (l : List (Int × ByteArray)) (w : World) (harg : ArgWrite w B a n l) (hB : B ≤ w.heap.size) (hn : n ≤ 1048576) :
    Calls Try.prog 68 #[.slice a n cap] w fun e w' => ∃ v, e = .returned v ∧ w'.ownsRow w.heap.size 172 2 v n (flatWrite l) ∧ Below w.heap.size w w' := by
  obtain ⟨i0, hi, hz0, hz1, hz2⟩ := info_parts infoWrite
  obtain ⟨M, hM⟩ : ∃ M, M = madeCells (Value.agg #[.int .i64 0, .string ⟨#[]⟩]).cells (((n : Nat) : Int).toNat * i0.size) := ⟨_, rfl⟩
  have hmk : ∀ W : World, (Instr.makeSlice 38 (.int .i64 (n : Int)) (.int .i64 (n : Int))).run Try.prog W = .ok (.slice (some ⟨W.heap.size, 0, none⟩) n n) (W.alloc (.cells M 172)) := fun W => by
    have h := run_make (P := Try.prog) W 38 172 i0 (.agg #[.int .i64 0, .string ⟨#[]⟩]) Try.underlying38 hi hz0 .i64 .i64 (n : Int) (n : Int) (by omega) (by omega) (by rw [hz2]; omega) (by omega)
    rw [← hM] at h
    simpa using h
  have hMs : M.size = n * 2 := by rw [hM, size_madeCells, hz1]; simp
  have HLN : Hid (l.length = n) := harg.1
  have HA : Hid (∀ W, Below w.heap.size w W → ArgWrite W B a n l) := fun W h => harg.below (h.mono hB)
  clear hM harg
  have HP : Hid (PartWrite (w.alloc (.cells M 172)) w.heap.size n 0 l) := ⟨M, heap_alloc_new w _, hMs, fun i h => absurd h (by omega)⟩
  go_enter Try.func68, Try.ntmps68
  go_wp2
  go_loopw [4] (fun i wr => ∃ k : Nat, k ≤ n ∧ i = .int .i64 (k : Int) ∧ Hid (PartWrite wr w.heap.size n k l) ∧ Hid (Below w.heap.size w wr)) (fun i _ => n - (intOf i).toNat)
  case atStart => exact ⟨0, Nat.zero_le _, rfl, HP, (Below.refl _ _).alloc (Nat.le_refl _) _⟩
  case round =>
    obtain ⟨k, hk, rfl, hpr, HBW⟩ := hrel
    by_cases hlt : k < n
    · have hlt2 : (k : Int) < (n : Int) := by omega
      obtain ⟨b, off, rfl, hbB, r0, r1⟩ := (HA.out wr HBW.out).2 k hlt
      obtain ⟨y, hy⟩ : ∃ y, y = writeAt l k := ⟨_, rfl⟩
      rw [← hy] at r0 r1
      have HY : Hid (writeAt l k = y) := hy.symm
      clear hy
      obtain ⟨y0, y1⟩ := y
      go_wp2_with fail
      refine (toWrite_any y0 y1 _).mono ?_
      rintro e w1 ⟨rfl, bw⟩
      have hpr1 := hpr.out.below bw hpr.out.lt
      have HB2 : Hid (Below w.heap.size w w1) := HBW.out.trans (bw.mono HBW.out.size)
      obtain ⟨u0, hu0⟩ := hpr1.cell (k * 2) (by omega)
      have f0 := hpr1.frozen (k * 2)
      obtain ⟨u1, hu1⟩ := hpr1.cell (k * 2 + 1) (by omega)
      have f1 := hpr1.frozen (k * 2 + 1)
      have hput := hpr1.put hlt
      rw [HY.out] at hput
      have HPUT : Hid _ := hput
      clear hput r0 r1 bw
      go_wp2
      go_roundw
      case rel => exact ⟨k + 1, by omega, by go_num, HPUT, (HB2.out.setCell (Nat.le_refl _) _).setCell (Nat.le_refl _) _⟩
      case measure => simp [intOf]; omega
    · obtain rfl : k = n := by omega
      go_wp2
      go_ret
      exact ⟨_, rfl, hpr.out.owns HLN.out (by unfold maxLen; omega) (Nat.le_refl _), HBW.out⟩

set_option maxHeartbeats 4000000 in
set_option maxRecDepth 100000 in
theorem eqWriteS_any (o1 o2 : Option Addr) (n c1 c2 : Nat) (l : List (Int × ByteArray)) (w : World) (h1 : WriteA w o1 n l) (h2 : WriteA w o2 n l) (hn : n ≤ 2000000) :
    Calls Try.prog 78 #[.slice o1 n c1, .slice o2 n c2] w fun e w' => e = .returned (.bool true) ∧ Below w.heap.size w w' := by
  have H1 : Hid (∀ W, Below w.heap.size w W → WriteA W o1 n l) := fun W h => h1.below h
  have H2 : Hid (∀ W, Below w.heap.size w W → WriteA W o2 n l) := fun W h => h2.below h
  clear h1 h2
  go_enter Try.func78, Try.ntmps78
  go_wp2
  go_loopw [5] (fun i wr => ∃ k : Nat, k ≤ n ∧ i = .int .i64 (k : Int) ∧ Hid (Below w.heap.size w wr)) (fun i _ => n - (intOf i).toNat)
  case atStart => exact ⟨0, Nat.zero_le _, rfl, Below.refl _ _⟩
  case round =>
    obtain ⟨k, hk, rfl, HBW⟩ := hrel
    by_cases hlt : k < n
    · have hlt2 : (k : Int) < (n : Int) := by omega
      obtain ⟨y, hy⟩ : ∃ y, y = writeAt l k := ⟨_, rfl⟩
      obtain ⟨g1, rfl, hg1, a0, a1⟩ := (H1.out wr HBW.out).2 k hlt
      obtain ⟨g2, rfl, hg2, b0, b1⟩ := (H2.out wr HBW.out).2 k hlt
      rw [← hy] at a0 b0 a1 b1
      clear hy
      obtain ⟨y0, y1⟩ := y
      have HA : Hid (∀ w0 w1, Below wr.heap.size wr w0 → Below w0.heap.size w0 w1 → (w1.cell? ⟨g1, k * 2, none⟩ = some (.int .i64 y0) ∧ w1.cell? ⟨g1, k * 2 + 1, none⟩ = some (.string y1) ∧ w1.cell? ⟨g2, k * 2, none⟩ = some (.int .i64 y0) ∧ w1.cell? ⟨g2, k * 2 + 1, none⟩ = some (.string y1)) ∧ Below wr.heap.size wr w1) := fun w0 w1 h h' => by
        have hx := h.trans (h'.mono h.size)
        exact ⟨⟨by rw [hx.cell (p := ⟨g1, k * 2, none⟩) hg1]; exact a0, by rw [hx.cell (p := ⟨g1, k * 2 + 1, none⟩) hg1]; exact a1, by rw [hx.cell (p := ⟨g2, k * 2, none⟩) hg2]; exact b0, by rw [hx.cell (p := ⟨g2, k * 2 + 1, none⟩) hg2]; exact b1⟩, hx⟩
      go_wp2
      go_region_held3 (fun w' => w'.cell? ⟨g1, k * 2, none⟩ = some (.int .i64 y0) ∧ w'.cell? ⟨g1, k * 2 + 1, none⟩ = some (.string y1) ∧ w'.cell? ⟨g2, k * 2, none⟩ = some (.int .i64 y0) ∧ w'.cell? ⟨g2, k * 2 + 1, none⟩ = some (.string y1)) (first | assumption | go_keep) (first | (go_at_call 89; refine (eqWrite_any _ _ _).mono ?_; rintro e w1 ⟨rfl, hb1⟩; obtain ⟨hcc, hbx⟩ := HA.out _ w1 ((Below.refl _ wr).drew) hb1))
      go_wp2
      go_roundw
      case rel => exact ⟨k + 1, by omega, by go_num, HBW.out.trans (hbx.mono HBW.out.size)⟩
      case measure => simp [intOf]; omega
    · go_wp2
      go_ret
      exact ⟨rfl, HBW.out⟩

theorem flatWrite_set : ∀ (l : List (Int × ByteArray)) (i : Nat) (x : (Int × ByteArray)), i < l.length → flatWrite (l.set i x) = ((flatWrite l).set (i * 2) (.int .i64 x.1)).set (i * 2 + 1) (.string x.2)
  | [], i, x, h => by simp at h
  | f :: r, 0, x, _ => rfl
  | f :: r, i + 1, x, h => by
    have ih := flatWrite_set r i x (by simpa using h)
    have e : ∀ (m : List Value) (o : Nat) (u : Value), (writeEnc f ++ m).set (2 + o) u = writeEnc f ++ m.set o u := fun m o u => by rw [Nat.add_comm]; rfl
    have e0 : flatWrite (f :: r) = writeEnc f ++ flatWrite r := rfl
    have e1 : flatWrite ((f :: r).set (i + 1) x) = writeEnc f ++ flatWrite (r.set i x) := rfl
    rw [e1, ih, e0, show (i + 1) * 2 = 2 + i * 2 by omega, show 2 + i * 2 + 1 = 2 + (i * 2 + 1) by omega, e, e]
/-- The list with its first k marked, from k0 on. -/
def mkWrite (k0 : Nat) (l : List (Int × ByteArray)) : Nat → List (Int × ByteArray)
  | 0 => l
  | k + 1 => (mkWrite k0 l k).set k (((k0 + 2 * k + 0 : Nat) : Int), (markOf (k0 + 2 * k + 1)))
theorem mkWrite_len (k0 : Nat) (l : List (Int × ByteArray)) : ∀ k, (mkWrite k0 l k).length = l.length
  | 0 => rfl
  | k + 1 => by rw [mkWrite, List.length_set, mkWrite_len k0 l k]
set_option maxHeartbeats 4000000 in
set_option maxRecDepth 100000 in
theorem markWriteS_any (oa : Option Addr) (n cap base : Nat) (l : List (Int × ByteArray)) (w : World) (h1 : w.ownsRow base 172 2 (.slice oa n cap) n (flatWrite l)) (hb : base ≤ w.heap.size) (k0 : Nat) (hk0 : 1 ≤ k0) (hn : k0 + 2 * n ≤ 99999999) :
    Calls Try.prog 84 #[.slice oa n cap, .int .i64 (k0 : Int)] w fun e w' => e = .returned (.int .i64 ((k0 : Int) + 2 * (n : Int))) ∧ w'.ownsRow base 172 2 (.slice oa n cap) n (flatWrite (mkWrite k0 l n)) ∧ Below base w w' ∧ Far (.slice oa n cap) w w' := by
  have HLN : Hid (l.length = n) := write_len h1
  have H1 : Hid (w.ownsRow base 172 2 (.slice oa n cap) n (flatWrite l)) := h1
  clear h1
  go_enter Try.func84, Try.ntmps84
  go_wp2
  go_loopw [1, 5] (fun q i wr => ∃ k : Nat, k ≤ n ∧ i = .int .i64 (k : Int) ∧ q = .int .i64 ((k0 : Int) + 2 * (k : Int)) ∧ Hid (Below base w wr) ∧ Hid (wr.ownsRow base 172 2 (.slice oa n cap) n (flatWrite (mkWrite k0 l k))) ∧ Hid (∀ j, j < w.heap.size → (Value.slice oa n cap).ownBlock ≠ some j → wr.heap[j]? = w.heap[j]?)) (fun _ i _ => n - (intOf i).toNat)
  case atStart => exact ⟨0, Nat.zero_le _, rfl, by simp, Below.refl _ _, H1, fun j _ _ => rfl⟩
  case round =>
    obtain ⟨k, hk, rfl, rfl, HB, HO, HF⟩ := hrel
    by_cases hlt : k < n
    · have hlt2 : (k : Int) < (n : Int) := by omega
      obtain ⟨g, rfl⟩ := owns_some H1.out (by omega)
      have HG : Hid (base ≤ g) := owns_ge H1.out rfl
      have q0 := (flatWrite_get (mkWrite k0 l k) k (by rw [mkWrite_len, HLN.out]; exact hlt)).1
      have HQ0 : Hid _ := q0
      clear q0
      have q1 := (flatWrite_get (mkWrite k0 l k) k (by rw [mkWrite_len, HLN.out]; exact hlt)).2
      have HQ1 : Hid _ := q1
      clear q1
      obtain ⟨c0, f0⟩ := owns_at HO.out (k * 2) _ (by exact HQ0.out)
      have hk_0 : (k0 : Int) + 2 * (k : Int) = ((k0 + 2 * k + 0 : Nat) : Int) := by omega
      rw [hk_0]
      clear hk_0
      have HO0 : Hid ((((wr).setCell ⟨g, k * 2, none⟩ (.int .i64 ((k0 + 2 * k + 0 : Nat) : Int)))).ownsRow base 172 2 (.slice (some ⟨g, 0, none⟩) n cap) n ((flatWrite (mkWrite k0 l k)).set (k * 2) (.int .i64 ((k0 + 2 * k + 0 : Nat) : Int)))) := owns_put HO.out _ _
      have HB0 : Hid (Below base w ((wr).setCell ⟨g, k * 2, none⟩ (.int .i64 ((k0 + 2 * k + 0 : Nat) : Int)))) := HB.out.setCell (p := ⟨g, k * 2, none⟩) HG.out _
      have HF0 : Hid (∀ j, j < w.heap.size → (Value.slice (some ⟨g, 0, none⟩) n cap).ownBlock ≠ some j → (((wr).setCell ⟨g, k * 2, none⟩ (.int .i64 ((k0 + 2 * k + 0 : Nat) : Int)))).heap[j]? = w.heap[j]?) := fun j hj hne => (heap_setCell_other _ _ j _ (fun e => hne (by rw [e]; rfl))).trans (HF.out j hj hne)
      go_wp2_with fail
      refine (markText_int _ (k0 + 2 * k + 1) _ (by omega) (by omega) (by omega)).mono ?_
      rintro e u1 ⟨rfl, bw1⟩
      have HO1b : Hid ((u1).ownsRow base 172 2 (.slice (some ⟨g, 0, none⟩) n cap) n ((flatWrite (mkWrite k0 l k)).set (k * 2) (.int .i64 ((k0 + 2 * k + 0 : Nat) : Int)))) := owns_below HO0.out bw1 (fun g hg => owns_lt HO0.out hg)
      have HB1b : Hid (Below base w u1) := HB0.out.trans (bw1.mono (Nat.le_trans hb HB0.out.size))
      have HF1b : Hid (∀ j, j < w.heap.size → (Value.slice (some ⟨g, 0, none⟩) n cap).ownBlock ≠ some j → (u1).heap[j]? = w.heap[j]?) := fun j hj hne => (bw1.block j (Nat.lt_of_lt_of_le hj HB0.out.size)).trans (HF0.out j hj hne)
      clear bw1 c0 f0
      obtain ⟨c1, f1⟩ := owns_at HO1b.out (k * 2 + 1) _ (by rw [List.getElem?_set_ne (by omega)]; exact HQ1.out)
      have HO1 : Hid ((((u1).setCell ⟨g, k * 2 + 1, none⟩ (.string (markOf (k0 + 2 * k + 1))))).ownsRow base 172 2 (.slice (some ⟨g, 0, none⟩) n cap) n (((flatWrite (mkWrite k0 l k)).set (k * 2) (.int .i64 ((k0 + 2 * k + 0 : Nat) : Int))).set (k * 2 + 1) (.string (markOf (k0 + 2 * k + 1))))) := owns_put HO1b.out _ _
      have HB1 : Hid (Below base w ((u1).setCell ⟨g, k * 2 + 1, none⟩ (.string (markOf (k0 + 2 * k + 1))))) := HB1b.out.setCell (p := ⟨g, k * 2 + 1, none⟩) HG.out _
      have HF1 : Hid (∀ j, j < w.heap.size → (Value.slice (some ⟨g, 0, none⟩) n cap).ownBlock ≠ some j → (((u1).setCell ⟨g, k * 2 + 1, none⟩ (.string (markOf (k0 + 2 * k + 1))))).heap[j]? = w.heap[j]?) := fun j hj hne => (heap_setCell_other _ _ j _ (fun e => hne (by rw [e]; rfl))).trans (HF1b.out j hj hne)
      have HFIN : Hid (flatWrite (mkWrite k0 l (k + 1)) = ((flatWrite (mkWrite k0 l k)).set (k * 2) (.int .i64 ((k0 + 2 * k + 0 : Nat) : Int))).set (k * 2 + 1) (.string (markOf (k0 + 2 * k + 1)))) := by
        show _ = _
        rw [mkWrite, flatWrite_set _ _ _ (by rw [mkWrite_len, HLN.out]; exact hlt)]
      go_wp2
      go_roundw
      case rel => exact ⟨k + 1, by omega, by go_num, by first | go_num | (congr 1; omega), HB1.out, by show World.ownsRow _ _ _ _ _ _ _; rw [HFIN.out]; exact HO1.out, HF1.out⟩
      case measure => simp [intOf]; omega
    · obtain rfl : k = n := by omega
      go_wp2
      go_ret
      exact ⟨rfl, HO.out, HB.out, HF.out⟩

set_option maxRecDepth 100000 in
/-- A list among the arguments: what it holds. -/
theorem openWriteS {H : Type} {enc : TypeId × Value → H} {W : World} {fuel : Nat} {a : Option Addr} {n cap : Nat} {x : DataW H × List MemPlace} (h : DataW.trod enc Try.prog W 0 (fun _ => true) true fuel 23 [.slice a n cap] = some x) :
    ∃ l, ArgWrite W W.heap.size a n l ∧ n ≤ maxLen ∧ ∀ x ∈ l, (x.2).size ≤ maxLen := by
  rcases Go.Deep.open_slice Try.underlying23 h with ⟨hcs, _⟩ | ⟨ad, len, c, m, q, Dd, Pl, hcs, _, hl, hm, hmm, _, hx⟩
  · simp at hcs
    obtain ⟨rfl, rfl, rfl⟩ := hcs
    exact ⟨[], ⟨rfl, fun i hi => absurd hi (by omega)⟩, Nat.zero_le _, fun x hx => by simp at hx⟩
  · simp at hcs
    obtain ⟨rfl, rfl, rfl⟩ := hcs
    have hm2 : m = cap := by simpa using hmm
    have ce : Try.prog.cellsOf 170 = 2 := by kernel_rfl
    have ci : Try.prog.cellsOf 3 = 1 := by kernel_rfl
    have cs : Try.prog.cellsOf 9 = 1 := by kernel_rfl
    have each : ∀ i, i < n → ∃ y : (Int × ByteArray), (W.cell? (ad.add (i * 2 + 0)) = some (.int .i64 (y.1)) ∧ W.cell? (ad.add (i * 2 + 1)) = some (.string (y.2))) ∧ (y.2).size ≤ maxLen := by
      intro i hi
      obtain ⟨cs', h1, h2⟩ := hx i (by omega)
      rw [ce] at h1
      obtain ⟨_, hlen, hcell⟩ := World.cells?_some h1
      obtain ⟨xs, k, hk, hxy, _, hxl, hf⟩ := DataW.trod_struct Try.underlying170 h2
      match xs, hxl, cs', hlen with
      | [x0, x1], _, [v0, v1], _ =>
        have g0 := hf 0 _ rfl
        have g1 := hf 1 _ rfl
        simp [ci, cs] at g0 g1
        obtain ⟨s0, e0, _, _⟩ := DataW.trod_int Try.underlying3 g0
        obtain ⟨s1, e1, _, z1⟩ := DataW.trod_string Try.underlying9 g1
        simp only [List.cons.injEq, and_true] at e0 e1
        subst e0 e1
        have c0 := hcell 0 (by omega)
        have c1 := hcell 1 (by omega)
        rw [Go.Deep.add_add] at c0 c1
        exact ⟨(s0, s1), ⟨by simpa using c0, by simpa using c1⟩, z1⟩
    obtain ⟨q, hq⟩ := Go.Deep.choose_lt each
    have hat : ∀ i, i < n → writeAt ((List.range n).map q) i = q i := fun i hi => by
      unfold writeAt
      rw [List.getD_eq_getElem?_getD, List.getElem?_map, List.getElem?_range hi]
      rfl
    refine ⟨(List.range n).map q, ⟨by simp, fun i hi => ?_⟩, by omega, fun x hx => ?_⟩
    · obtain ⟨c0, _⟩ := hq i hi
      obtain ⟨c3, _⟩ := hq 0 (by omega)
      have hsp : ad.spot = none := by
        have := World.cell?_spot c3.1
        simpa [Addr.add] using this
      clear c3
      obtain ⟨b, off, sp⟩ := ad
      simp only at hsp
      subst hsp
      simp only [addr_add] at c0
      rw [hat i hi]
      have hlt := World.block_lt_of_cell? W _ c0.1
      exact ⟨b, off, rfl, hlt, by simpa [Nat.add_assoc] using c0.1, by simpa [Nat.add_assoc] using c0.2⟩
    · obtain ⟨i, hi, rfl⟩ := List.mem_map.1 hx
      exact (hq i (List.mem_range.1 hi)).2

end Go.Proofs.Ytajccgffallajaa

namespace Go.Proofs.Ytajccgffallajaa
open Go.RowKit
open Go.Lib hiding intOf

/-- A disk's two lists, in memory of one's own. -/
structure DiskO (W : World) (base : Nat) (v1 : Value) (n1 : Nat) (cs : List ByteArray) (v2 : Value) (n2 : Nat) (ws : List (Int × ByteArray)) : Prop where
  cells : W.ownsRow base 9 1 v1 n1 (cs.map Value.string)
  pend : W.ownsRow base 172 2 v2 n2 (flatWrite ws)

set_option maxHeartbeats 8000000 in
set_option maxRecDepth 100000 in
theorem toDisk_any (a1 : Option Addr) (n1 c1 : Nat) (cs : List ByteArray) (a2 : Option Addr) (n2 c2 : Nat) (ws : List (Int × ByteArray)) (B : Nat) (w : World) (h1 : ArgT w B a1 n1 cs) (h2 : ArgWrite w B a2 n2 ws) (hB : B ≤ w.heap.size) (hn1 : n1 ≤ 1048576) (hn2 : n2 ≤ 1048576) :
    Calls Try.prog 39 #[.agg #[.slice a1 n1 c1, .slice a2 n2 c2]] w fun e w' => ∃ v1 v2, e = .returned (.agg #[v1, v2]) ∧ DiskO w' w.heap.size v1 n1 cs v2 n2 ws ∧ Below w.heap.size w w' := by
  have HA1 : Hid (∀ W, Below w.heap.size w W → ArgT W B a1 n1 cs) := fun W h => h1.below (h.mono hB)
  have HA2 : Hid (∀ W, Below w.heap.size w W → ArgWrite W B a2 n2 ws) := fun W h => h2.below (h.mono hB)
  have HBB : Hid (∀ W, Below w.heap.size w W → B ≤ W.heap.size) := fun W h => Nat.le_trans hB h.size
  clear h1 h2 hB
  have hb0 : Below w.heap.size w w := Below.refl _ _
  go_enter Try.func39, Try.ntmps39
  go_upto_region 1 with fail
  obtain ⟨qv1, hqv1⟩ : ∃ q, q = (w).heap.size := ⟨_, rfl⟩
  obtain ⟨w1, hW1⟩ : ∃ W, W = (w).alloc (.cells #[.slice a1 n1 c1, .slice a2 n2 c2] 25) := ⟨_, rfl⟩
  have hz1 : (w).heap.size = qv1 := hqv1.symm
  first | rw [← hW1, ← hqv1] | rw [← hW1]
  have hs1 : w1.heap.size = qv1 + 1 := by rw [hW1, ← hz1]; simp
  have bw : Below (w).heap.size (w) w1 := by rw [hW1]; exact (Below.refl _ _).alloc (Nat.le_refl _) _
  have hb1 : Below w.heap.size w (w1) := hb0.trans (bw.mono hb0.size)
  have HBv1_1 : Hid ((w1).heap[qv1]? = some (.cells #[.slice a1 n1 c1, .slice a2 n2 c2] 25)) := by show _ = _; rw [hW1, ← hz1]; exact heap_alloc_new _ _
  clear hb0 bw hW1 hz1
  obtain ⟨qv2, hqv2⟩ : ∃ q, q = qv1 + 1 := ⟨_, rfl⟩
  obtain ⟨w2, hW2⟩ : ∃ W, W = (w1).alloc (.cells #[.slice none 0 0, .slice none 0 0] 40) := ⟨_, rfl⟩
  have hz2 : (w1).heap.size = qv2 := by rw [hqv2]; exact hs1
  first | rw [← hW2, ← hqv2] | rw [← hW2]
  have hs2 : w2.heap.size = qv2 + 1 := by rw [hW2, ← hz2]; simp
  have bw : Below (w1).heap.size (w1) w2 := by rw [hW2]; exact (Below.refl _ _).alloc (Nat.le_refl _) _
  have hb2 : Below w.heap.size w (w2) := hb1.trans (bw.mono hb1.size)
  have HBv1_2 : Hid ((w2).heap[qv1]? = some (.cells #[.slice a1 n1 c1, .slice a2 n2 c2] 25)) := blk_below HBv1_1.out bw
  have HNv1v2 : Hid (qv1 ≠ qv2) := fun e => by have h1 := (Array.getElem?_eq_some_iff.1 HBv1_1.out).1; omega
  have HBv2_2 : Hid ((w2).heap[qv2]? = some (.cells #[.slice none 0 0, .slice none 0 0] 40)) := by show _ = _; rw [hW2, ← hz2]; exact heap_alloc_new _ _
  have HGv2 : Hid (w.heap.size ≤ qv2) := by show _ ≤ _; rw [← hz2]; exact hb1.size
  clear hb1 HBv1_1 bw hW2 hz2
  clear hs2 hqv2 hs1 hqv1
  go_upto_region 2 with fail
  obtain ⟨qv3, hqv3⟩ : ∃ q, q = (w2).heap.size := ⟨_, rfl⟩
  obtain ⟨w3, hW3⟩ : ∃ W, W = (w2).alloc (.cells #[.slice none 0 0, .slice none 0 0] 40) := ⟨_, rfl⟩
  have hz3 : (w2).heap.size = qv3 := hqv3.symm
  first | rw [← hW3, ← hqv3] | rw [← hW3]
  have hs3 : w3.heap.size = qv3 + 1 := by rw [hW3, ← hz3]; simp
  have bw : Below (w2).heap.size (w2) w3 := by rw [hW3]; exact (Below.refl _ _).alloc (Nat.le_refl _) _
  have hb3 : Below w.heap.size w (w3) := hb2.trans (bw.mono hb2.size)
  have HBv1_3 : Hid ((w3).heap[qv1]? = some (.cells #[.slice a1 n1 c1, .slice a2 n2 c2] 25)) := blk_below HBv1_2.out bw
  have HBv2_3 : Hid ((w3).heap[qv2]? = some (.cells #[.slice none 0 0, .slice none 0 0] 40)) := blk_below HBv2_2.out bw
  have HNv1v3 : Hid (qv1 ≠ qv3) := fun e => by have h1 := (Array.getElem?_eq_some_iff.1 HBv1_2.out).1; omega
  have HNv2v3 : Hid (qv2 ≠ qv3) := fun e => by have h1 := (Array.getElem?_eq_some_iff.1 HBv2_2.out).1; omega
  have HBv3_3 : Hid ((w3).heap[qv3]? = some (.cells #[.slice none 0 0, .slice none 0 0] 40)) := by show _ = _; rw [hW3, ← hz3]; exact heap_alloc_new _ _
  have HGv3 : Hid (w.heap.size ≤ qv3) := by show _ ≤ _; rw [← hz3]; exact hb2.size
  clear hb2 HBv1_2 HBv2_2 bw hW3 hz3
  clear hs3 hqv3
  have cv1_0 : (w3).cell? ⟨qv1, 0, none⟩ = some (.slice a1 n1 c1) := (cell_of HBv1_3.out 0).trans rfl
  go_wp2_with fail
  refine (toStringS_any B a1 n1 c1 cs _ (HA1.out _ hb3) (HBB.out _ hb3) hn1).mono ?_
  rintro e w4 ⟨vv, rfl, ownC, bw⟩
  obtain ⟨oC, pC, rfl⟩ := slice_of_owns ownC
  have hb4 : Below w.heap.size w (w4) := hb3.trans (bw.mono hb3.size)
  have HBv1_4 : Hid ((w4).heap[qv1]? = some (.cells #[.slice a1 n1 c1, .slice a2 n2 c2] 25)) := blk_below HBv1_3.out bw
  have HBv2_4 : Hid ((w4).heap[qv2]? = some (.cells #[.slice none 0 0, .slice none 0 0] 40)) := blk_below HBv2_3.out bw
  have HBv3_4 : Hid ((w4).heap[qv3]? = some (.cells #[.slice none 0 0, .slice none 0 0] 40)) := blk_below HBv3_3.out bw
  have HOC_4 : Hid ((w4).ownsRow w.heap.size 9 1 (.slice oC n1 pC) n1 (cs.map Value.string)) := owns_wide ownC hb3.size
  clear ownC
  clear hb3 HBv1_3 HBv2_3 HBv3_3 bw
  clear cv1_0
  have cv3_0 : (w4).cell? ⟨qv3, 0, none⟩ = some (.slice none 0 0) := (cell_of HBv3_4.out 0).trans rfl
  have fcv3_0 : (w4).frozen? ⟨qv3, 0, none⟩ = false := frozen_of HBv3_4.out 0
  go_upto_region 3 with fail
  obtain ⟨w5, hW5⟩ : ∃ W, W = (w4).setCell ⟨qv3, 0, none⟩ (.slice oC n1 pC) := ⟨_, rfl⟩
  rw [← hW5]
  have hb5 : Below w.heap.size w (w5) := by rw [hW5]; exact (hb4.setCell (p := ⟨qv3, 0, none⟩) HGv3.out _)
  have HOC_5 : Hid ((w5).ownsRow w.heap.size 9 1 (.slice oC n1 pC) n1 (cs.map Value.string)) := by show World.ownsRow _ _ _ _ _ _ _; rw [hW5]; exact owns_same HOC_4.out (fun g hg => heap_setCell_other _ _ g _ (own_ne HOC_4.out HBv3_4.out (by decide) g hg))
  have HBv1_5 : Hid ((w5).heap[qv1]? = some (.cells #[.slice a1 n1 c1, .slice a2 n2 c2] 25)) := by show _ = _; rw [hW5, heap_setCell_other _ _ _ _ HNv1v3.out]; exact HBv1_4.out
  have HBv2_5 : Hid ((w5).heap[qv2]? = some (.cells #[.slice none 0 0, .slice none 0 0] 40)) := by show _ = _; rw [hW5, heap_setCell_other _ _ _ _ HNv2v3.out]; exact HBv2_4.out
  have HBv3_5 : Hid ((w5).heap[qv3]? = some (.cells #[.slice oC n1 pC, .slice none 0 0] 40)) := by show _ = _; rw [hW5]; have h := heap_set _ _ 0 _ _ _ (.slice oC n1 pC) HBv3_4.out; simpa using h
  clear hb4 HOC_4 HBv1_4 HBv2_4 HBv3_4 hW5
  clear cv3_0 fcv3_0
  have cv1_1 : (w5).cell? ⟨qv1, 1, none⟩ = some (.slice a2 n2 c2) := (cell_of HBv1_5.out 1).trans rfl
  go_wp2_with fail
  refine (toWriteS_any B a2 n2 c2 ws _ (HA2.out _ hb5) (HBB.out _ hb5) hn2).mono ?_
  rintro e w6 ⟨vv, rfl, ownP, bw⟩
  obtain ⟨oP, pP, rfl⟩ := slice_of_owns ownP
  have hb6 : Below w.heap.size w (w6) := hb5.trans (bw.mono hb5.size)
  have HOC_6 : Hid ((w6).ownsRow w.heap.size 9 1 (.slice oC n1 pC) n1 (cs.map Value.string)) := owns_below HOC_5.out bw (fun g hg => owns_lt HOC_5.out hg)
  have HBv1_6 : Hid ((w6).heap[qv1]? = some (.cells #[.slice a1 n1 c1, .slice a2 n2 c2] 25)) := blk_below HBv1_5.out bw
  have HBv2_6 : Hid ((w6).heap[qv2]? = some (.cells #[.slice none 0 0, .slice none 0 0] 40)) := blk_below HBv2_5.out bw
  have HBv3_6 : Hid ((w6).heap[qv3]? = some (.cells #[.slice oC n1 pC, .slice none 0 0] 40)) := blk_below HBv3_5.out bw
  have HOP_6 : Hid ((w6).ownsRow w.heap.size 172 2 (.slice oP n2 pP) n2 (flatWrite ws)) := owns_wide ownP hb5.size
  clear ownP
  clear hb5 HOC_5 HBv1_5 HBv2_5 HBv3_5 bw
  clear cv1_1
  have cv3_1 : (w6).cell? ⟨qv3, 1, none⟩ = some (.slice none 0 0) := (cell_of HBv3_6.out 1).trans rfl
  have fcv3_1 : (w6).frozen? ⟨qv3, 1, none⟩ = false := frozen_of HBv3_6.out 1
  go_upto_region 4 with fail
  obtain ⟨w7, hW7⟩ : ∃ W, W = (w6).setCell ⟨qv3, 1, none⟩ (.slice oP n2 pP) := ⟨_, rfl⟩
  rw [← hW7]
  have hb7 : Below w.heap.size w (w7) := by rw [hW7]; exact (hb6.setCell (p := ⟨qv3, 1, none⟩) HGv3.out _)
  have HOC_7 : Hid ((w7).ownsRow w.heap.size 9 1 (.slice oC n1 pC) n1 (cs.map Value.string)) := by show World.ownsRow _ _ _ _ _ _ _; rw [hW7]; exact owns_same HOC_6.out (fun g hg => heap_setCell_other _ _ g _ (own_ne HOC_6.out HBv3_6.out (by decide) g hg))
  have HOP_7 : Hid ((w7).ownsRow w.heap.size 172 2 (.slice oP n2 pP) n2 (flatWrite ws)) := by show World.ownsRow _ _ _ _ _ _ _; rw [hW7]; exact owns_same HOP_6.out (fun g hg => heap_setCell_other _ _ g _ (own_ne HOP_6.out HBv3_6.out (by decide) g hg))
  have HBv1_7 : Hid ((w7).heap[qv1]? = some (.cells #[.slice a1 n1 c1, .slice a2 n2 c2] 25)) := by show _ = _; rw [hW7, heap_setCell_other _ _ _ _ HNv1v3.out]; exact HBv1_6.out
  have HBv2_7 : Hid ((w7).heap[qv2]? = some (.cells #[.slice none 0 0, .slice none 0 0] 40)) := by show _ = _; rw [hW7, heap_setCell_other _ _ _ _ HNv2v3.out]; exact HBv2_6.out
  have HBv3_7 : Hid ((w7).heap[qv3]? = some (.cells #[.slice oC n1 pC, .slice oP n2 pP] 40)) := by show _ = _; rw [hW7]; have h := heap_set _ _ 1 _ _ _ (.slice oP n2 pP) HBv3_6.out; simpa using h
  clear hb6 HOC_6 HOP_6 HBv1_6 HBv2_6 HBv3_6 hW7
  clear cv3_1 fcv3_1
  have cv2_0 : (w7).cell? ⟨qv2, 0, none⟩ = some (.slice none 0 0) := (cell_of HBv2_7.out 0).trans rfl
  have fcv2_0 : (w7).frozen? ⟨qv2, 0, none⟩ = false := frozen_of HBv2_7.out 0
  have cv2_1 : (w7).cell? ⟨qv2, 1, none⟩ = some (.slice none 0 0) := (cell_of HBv2_7.out 1).trans rfl
  have fcv2_1 : (w7).frozen? ⟨qv2, 1, none⟩ = false := frozen_of HBv2_7.out 1
  have cv3_0 : (w7).cell? ⟨qv3, 0, none⟩ = some (.slice oC n1 pC) := (cell_of HBv3_7.out 0).trans rfl
  have cv3_1 : (w7).cell? ⟨qv3, 1, none⟩ = some (.slice oP n2 pP) := (cell_of HBv3_7.out 1).trans rfl
  go_wp2_with fail
  obtain ⟨w8, hW8⟩ : ∃ W, W = (w7).setCell ⟨qv2, 0, none⟩ (.slice oC n1 pC) := ⟨_, rfl⟩
  rw [← hW8]
  have hb8 : Below w.heap.size w (w8) := by rw [hW8]; exact (hb7.setCell (p := ⟨qv2, 0, none⟩) HGv2.out _)
  have HOC_8 : Hid ((w8).ownsRow w.heap.size 9 1 (.slice oC n1 pC) n1 (cs.map Value.string)) := by show World.ownsRow _ _ _ _ _ _ _; rw [hW8]; exact owns_same HOC_7.out (fun g hg => heap_setCell_other _ _ g _ (own_ne HOC_7.out HBv2_7.out (by decide) g hg))
  have HOP_8 : Hid ((w8).ownsRow w.heap.size 172 2 (.slice oP n2 pP) n2 (flatWrite ws)) := by show World.ownsRow _ _ _ _ _ _ _; rw [hW8]; exact owns_same HOP_7.out (fun g hg => heap_setCell_other _ _ g _ (own_ne HOP_7.out HBv2_7.out (by decide) g hg))
  have HBv1_8 : Hid ((w8).heap[qv1]? = some (.cells #[.slice a1 n1 c1, .slice a2 n2 c2] 25)) := by show _ = _; rw [hW8, heap_setCell_other _ _ _ _ HNv1v2.out]; exact HBv1_7.out
  have HBv3_8 : Hid ((w8).heap[qv3]? = some (.cells #[.slice oC n1 pC, .slice oP n2 pP] 40)) := by show _ = _; rw [hW8, heap_setCell_other _ _ _ _ HNv2v3.out.symm]; exact HBv3_7.out
  have HBv2_8 : Hid ((w8).heap[qv2]? = some (.cells #[.slice oC n1 pC, .slice none 0 0] 40)) := by show _ = _; rw [hW8]; have h := heap_set _ _ 0 _ _ _ (.slice oC n1 pC) HBv2_7.out; simpa using h
  clear hb7 HOC_7 HOP_7 HBv1_7 HBv2_7 HBv3_7 hW8
  obtain ⟨w9, hW9⟩ : ∃ W, W = (w8).setCell ⟨qv2, 1, none⟩ (.slice oP n2 pP) := ⟨_, rfl⟩
  rw [← hW9]
  have hb9 : Below w.heap.size w (w9) := by rw [hW9]; exact (hb8.setCell (p := ⟨qv2, 1, none⟩) HGv2.out _)
  have HOC_9 : Hid ((w9).ownsRow w.heap.size 9 1 (.slice oC n1 pC) n1 (cs.map Value.string)) := by show World.ownsRow _ _ _ _ _ _ _; rw [hW9]; exact owns_same HOC_8.out (fun g hg => heap_setCell_other _ _ g _ (own_ne HOC_8.out HBv2_8.out (by decide) g hg))
  have HOP_9 : Hid ((w9).ownsRow w.heap.size 172 2 (.slice oP n2 pP) n2 (flatWrite ws)) := by show World.ownsRow _ _ _ _ _ _ _; rw [hW9]; exact owns_same HOP_8.out (fun g hg => heap_setCell_other _ _ g _ (own_ne HOP_8.out HBv2_8.out (by decide) g hg))
  have HBv1_9 : Hid ((w9).heap[qv1]? = some (.cells #[.slice a1 n1 c1, .slice a2 n2 c2] 25)) := by show _ = _; rw [hW9, heap_setCell_other _ _ _ _ HNv1v2.out]; exact HBv1_8.out
  have HBv3_9 : Hid ((w9).heap[qv3]? = some (.cells #[.slice oC n1 pC, .slice oP n2 pP] 40)) := by show _ = _; rw [hW9, heap_setCell_other _ _ _ _ HNv2v3.out.symm]; exact HBv3_8.out
  have HBv2_9 : Hid ((w9).heap[qv2]? = some (.cells #[.slice oC n1 pC, .slice oP n2 pP] 40)) := by show _ = _; rw [hW9]; have h := heap_set _ _ 1 _ _ _ (.slice oP n2 pP) HBv2_8.out; simpa using h
  clear hb8 HOC_8 HOP_8 HBv1_8 HBv2_8 HBv3_8 hW9
  have kv2_0 : (w9).cell? ⟨qv2, 0, none⟩ = some (.slice oC n1 pC) := (cell_of HBv2_9.out 0).trans rfl
  have kv2_1 : (w9).cell? ⟨qv2, 1, none⟩ = some (.slice oP n2 pP) := (cell_of HBv2_9.out 1).trans rfl
  refine bodyPost_ret (v := .agg #[.slice oC n1 pC, .slice oP n2 pP]) (by simp [results, Try.results39, go_sem, kv2_0, kv2_1]) rfl ?_
  exact ⟨_, _, rfl, ⟨HOC_9.out, HOP_9.out⟩, hb9⟩

/-- A disk's measure: negative, or what is left of L. -/
def SzDiskR (L : Int) (n1 : Nat) (cs : List ByteArray) (n2 : Nat) (ws : List (Int × ByteArray)) (w : World) (e : Ending) (w' : World) : Prop :=
  ∃ r : Int, e = .returned (.int .i64 r) ∧ r ≤ L ∧ (0 ≤ r → r + (n1 : Int) + (n2 : Int) ≤ L ∧ (n1 ≤ 1048576 ∧ ∀ i, i < n1 → (textAt cs i).size ≤ 1048576) ∧ n2 ≤ 1048576 ∧ ∀ x ∈ ws, (x.2).size ≤ 1048576) ∧ Below w.heap.size w w'
set_option maxHeartbeats 8000000 in
set_option maxRecDepth 100000 in
theorem szDisk_room (L : Int) (hL0 : 0 ≤ L) (hL1 : L ≤ 1048576) (a1 : Option Addr) (n1 c1 : Nat) (cs : List ByteArray) (a2 : Option Addr) (n2 c2 : Nat) (ws : List (Int × ByteArray)) (B : Nat) (w : World) (h1 : ArgT w B a1 n1 cs) (h2 : ArgWrite w B a2 n2 ws) (hB : B ≤ w.heap.size) (hn1 : n1 ≤ maxLen) (hn2 : n2 ≤ maxLen) (hs1 : ∀ i, i < n1 → (textAt cs i).size ≤ maxLen) (hs2 : ∀ x ∈ ws, (x.2).size ≤ maxLen) :
    Calls Try.prog 33 #[.agg #[.slice a1 n1 c1, .slice a2 n2 c2], .int .i64 L] w fun e w' => SzDiskR L n1 cs n2 ws w e w' := by
  have HA1 : Hid (∀ W, Below w.heap.size w W → ArgT W B a1 n1 cs) := fun W h => h1.below (h.mono hB)
  have HA2 : Hid (∀ W, Below w.heap.size w W → ArgWrite W B a2 n2 ws) := fun W h => h2.below (h.mono hB)
  have HBB : Hid (∀ W, Below w.heap.size w W → B ≤ W.heap.size) := fun W h => Nat.le_trans hB h.size
  clear h1 h2 hB
  have HN1 : Hid (n1 ≤ maxLen) := hn1
  have HN2 : Hid (n2 ≤ maxLen) := hn2
  have HS1 : Hid (∀ i, i < n1 → (textAt cs i).size ≤ maxLen) := hs1
  have HS2 : Hid (∀ x ∈ ws, (x.2).size ≤ maxLen) := hs2
  clear hs1 hs2 hn1 hn2
  have hb0 : Below w.heap.size w w := Below.refl _ _
  go_enter Try.func33, Try.ntmps33
  go_upto_region 1 with fail
  obtain ⟨qv1, hqv1⟩ : ∃ q, q = (w).heap.size := ⟨_, rfl⟩
  obtain ⟨w1, hW1⟩ : ∃ W, W = (w).alloc (.cells #[.slice a1 n1 c1, .slice a2 n2 c2] 25) := ⟨_, rfl⟩
  have hz1 : (w).heap.size = qv1 := hqv1.symm
  first | rw [← hW1, ← hqv1] | rw [← hW1]
  have hs1 : w1.heap.size = qv1 + 1 := by rw [hW1, ← hz1]; simp
  have bw : Below (w).heap.size (w) w1 := by rw [hW1]; exact (Below.refl _ _).alloc (Nat.le_refl _) _
  have hb1 : Below w.heap.size w (w1) := hb0.trans (bw.mono hb0.size)
  have HBv1_1 : Hid ((w1).heap[qv1]? = some (.cells #[.slice a1 n1 c1, .slice a2 n2 c2] 25)) := by show _ = _; rw [hW1, ← hz1]; exact heap_alloc_new _ _
  clear hb0 bw hW1 hz1
  clear hs1 hqv1
  have cv1_0 : (w1).cell? ⟨qv1, 0, none⟩ = some (.slice a1 n1 c1) := (cell_of HBv1_1.out 0).trans rfl
  go_wp2_with fail
  refine (szStringS_exact L (by omega) (by omega) B a1 n1 c1 cs _ (HA1.out _ hb1) (HBB.out _ hb1) HN1.out HS1.out).mono ?_
  rintro e w2 ⟨r1, rfl, hl1, hr1, bw⟩
  have hb2 : Below w.heap.size w (w2) := hb1.trans (bw.mono hb1.size)
  have HBv1_2 : Hid ((w2).heap[qv1]? = some (.cells #[.slice a1 n1 c1, .slice a2 n2 c2] 25)) := blk_below HBv1_1.out bw
  clear hb1 HBv1_1 bw
  clear cv1_0
  by_cases hc1 : r1 < 0
  · clear hr1
    go_wp2_with fail
    go_ret
    exact ⟨-1, rfl, by omega, fun h => absurd h (by omega), hb2⟩
  · obtain ⟨he1, hm1, hz1⟩ := hr1 (by omega)
    have HZ1 : Hid _ := hz1
    clear hr1 hz1
    have cv1_1 : (w2).cell? ⟨qv1, 1, none⟩ = some (.slice a2 n2 c2) := (cell_of HBv1_2.out 1).trans rfl
    go_wp2_with fail
    refine (szWriteS_room r1 (by omega) (by omega) B a2 n2 c2 ws _ (HA2.out _ hb2) (HBB.out _ hb2) HN2.out HS2.out).mono ?_
    rintro e w3 ⟨r2, rfl, hl2, hr2, bw⟩
    have hb3 : Below w.heap.size w (w3) := hb2.trans (bw.mono hb2.size)
    have HBv1_3 : Hid ((w3).heap[qv1]? = some (.cells #[.slice a1 n1 c1, .slice a2 n2 c2] 25)) := blk_below HBv1_2.out bw
    clear hb2 HBv1_2 bw
    clear cv1_1
    by_cases hc2 : r2 < 0
    · clear hr2
      go_wp2_with fail
      go_ret
      exact ⟨-1, rfl, by omega, fun h => absurd h (by omega), hb3⟩
    · obtain ⟨he2, hm2, hz2⟩ := hr2 (by omega)
      have HZ2 : Hid _ := hz2
      clear hr2 hz2
      go_wp2_with fail
      go_ret
      exact ⟨_, rfl, by omega, fun _ => ⟨by omega, ⟨by omega, HZ1.out⟩, by omega, HZ2.out⟩, hb3⟩

set_option maxHeartbeats 8000000 in
set_option maxRecDepth 100000 in
theorem eqDisk_any (n1 : Nat) (cs : List ByteArray) (n2 : Nat) (ws : List (Int × ByteArray)) (v1 v2 u1 u2 : Value) (B1 B2 : Nat) (w : World) (hx : DiskO w B1 v1 n1 cs v2 n2 ws) (hy : DiskO w B2 u1 n1 cs u2 n2 ws) (hn1 : n1 ≤ 2000000) (hn2 : n2 ≤ 2000000) :
    Calls Try.prog 47 #[.agg #[v1, v2], .agg #[u1, u2]] w fun e w' => e = .returned (.bool true) ∧ Below w.heap.size w w' := by
  obtain ⟨oCx, pCx, rfl⟩ := slice_of_owns hx.cells
  have HOCx_0 : Hid ((w).ownsRow B1 9 1 (.slice oCx n1 pCx) n1 (cs.map Value.string)) := hx.cells
  obtain ⟨oPx, pPx, rfl⟩ := slice_of_owns hx.pend
  have HOPx_0 : Hid ((w).ownsRow B1 172 2 (.slice oPx n2 pPx) n2 (flatWrite ws)) := hx.pend
  clear hx
  obtain ⟨oCy, pCy, rfl⟩ := slice_of_owns hy.cells
  have HOCy_0 : Hid ((w).ownsRow B2 9 1 (.slice oCy n1 pCy) n1 (cs.map Value.string)) := hy.cells
  obtain ⟨oPy, pPy, rfl⟩ := slice_of_owns hy.pend
  have HOPy_0 : Hid ((w).ownsRow B2 172 2 (.slice oPy n2 pPy) n2 (flatWrite ws)) := hy.pend
  clear hy
  have hb0 : Below w.heap.size w w := Below.refl _ _
  go_enter Try.func47, Try.ntmps47
  go_upto_region 1 with fail
  obtain ⟨qv1, hqv1⟩ : ∃ q, q = (w).heap.size := ⟨_, rfl⟩
  obtain ⟨w1, hW1⟩ : ∃ W, W = (w).alloc (.cells #[.slice oCx n1 pCx, .slice oPx n2 pPx] 40) := ⟨_, rfl⟩
  have hz1 : (w).heap.size = qv1 := hqv1.symm
  first | rw [← hW1, ← hqv1] | rw [← hW1]
  have hs1 : w1.heap.size = qv1 + 1 := by rw [hW1, ← hz1]; simp
  have bw : Below (w).heap.size (w) w1 := by rw [hW1]; exact (Below.refl _ _).alloc (Nat.le_refl _) _
  have hb1 : Below w.heap.size w (w1) := hb0.trans (bw.mono hb0.size)
  have HOCx_1 : Hid ((w1).ownsRow B1 9 1 (.slice oCx n1 pCx) n1 (cs.map Value.string)) := owns_below HOCx_0.out bw (fun g hg => owns_lt HOCx_0.out hg)
  have HOPx_1 : Hid ((w1).ownsRow B1 172 2 (.slice oPx n2 pPx) n2 (flatWrite ws)) := owns_below HOPx_0.out bw (fun g hg => owns_lt HOPx_0.out hg)
  have HOCy_1 : Hid ((w1).ownsRow B2 9 1 (.slice oCy n1 pCy) n1 (cs.map Value.string)) := owns_below HOCy_0.out bw (fun g hg => owns_lt HOCy_0.out hg)
  have HOPy_1 : Hid ((w1).ownsRow B2 172 2 (.slice oPy n2 pPy) n2 (flatWrite ws)) := owns_below HOPy_0.out bw (fun g hg => owns_lt HOPy_0.out hg)
  have HBv1_1 : Hid ((w1).heap[qv1]? = some (.cells #[.slice oCx n1 pCx, .slice oPx n2 pPx] 40)) := by show _ = _; rw [hW1, ← hz1]; exact heap_alloc_new _ _
  clear hb0 HOCx_0 HOPx_0 HOCy_0 HOPy_0 bw hW1 hz1
  obtain ⟨qv2, hqv2⟩ : ∃ q, q = qv1 + 1 := ⟨_, rfl⟩
  obtain ⟨w2, hW2⟩ : ∃ W, W = (w1).alloc (.cells #[.slice oCy n1 pCy, .slice oPy n2 pPy] 40) := ⟨_, rfl⟩
  have hz2 : (w1).heap.size = qv2 := by rw [hqv2]; exact hs1
  first | rw [← hW2, ← hqv2] | rw [← hW2]
  have hs2 : w2.heap.size = qv2 + 1 := by rw [hW2, ← hz2]; simp
  have bw : Below (w1).heap.size (w1) w2 := by rw [hW2]; exact (Below.refl _ _).alloc (Nat.le_refl _) _
  have hb2 : Below w.heap.size w (w2) := hb1.trans (bw.mono hb1.size)
  have HOCx_2 : Hid ((w2).ownsRow B1 9 1 (.slice oCx n1 pCx) n1 (cs.map Value.string)) := owns_below HOCx_1.out bw (fun g hg => owns_lt HOCx_1.out hg)
  have HOPx_2 : Hid ((w2).ownsRow B1 172 2 (.slice oPx n2 pPx) n2 (flatWrite ws)) := owns_below HOPx_1.out bw (fun g hg => owns_lt HOPx_1.out hg)
  have HOCy_2 : Hid ((w2).ownsRow B2 9 1 (.slice oCy n1 pCy) n1 (cs.map Value.string)) := owns_below HOCy_1.out bw (fun g hg => owns_lt HOCy_1.out hg)
  have HOPy_2 : Hid ((w2).ownsRow B2 172 2 (.slice oPy n2 pPy) n2 (flatWrite ws)) := owns_below HOPy_1.out bw (fun g hg => owns_lt HOPy_1.out hg)
  have HBv1_2 : Hid ((w2).heap[qv1]? = some (.cells #[.slice oCx n1 pCx, .slice oPx n2 pPx] 40)) := blk_below HBv1_1.out bw
  have HBv2_2 : Hid ((w2).heap[qv2]? = some (.cells #[.slice oCy n1 pCy, .slice oPy n2 pPy] 40)) := by show _ = _; rw [hW2, ← hz2]; exact heap_alloc_new _ _
  clear hb1 HOCx_1 HOPx_1 HOCy_1 HOPy_1 HBv1_1 bw hW2 hz2
  clear hs2 hqv2 hs1 hqv1
  have cv1_0 : (w2).cell? ⟨qv1, 0, none⟩ = some (.slice oCx n1 pCx) := (cell_of HBv1_2.out 0).trans rfl
  have cv2_0 : (w2).cell? ⟨qv2, 0, none⟩ = some (.slice oCy n1 pCy) := (cell_of HBv2_2.out 0).trans rfl
  go_wp2_with fail
  refine (eqS_any _ _ n1 _ _ cs _ HOCx_2.out HOCy_2.out (by omega)).mono ?_
  rintro e w3 ⟨rfl, bw⟩
  have hb3 : Below w.heap.size w (w3) := hb2.trans (bw.mono hb2.size)
  have HOCx_3 : Hid ((w3).ownsRow B1 9 1 (.slice oCx n1 pCx) n1 (cs.map Value.string)) := owns_below HOCx_2.out bw (fun g hg => owns_lt HOCx_2.out hg)
  have HOPx_3 : Hid ((w3).ownsRow B1 172 2 (.slice oPx n2 pPx) n2 (flatWrite ws)) := owns_below HOPx_2.out bw (fun g hg => owns_lt HOPx_2.out hg)
  have HOCy_3 : Hid ((w3).ownsRow B2 9 1 (.slice oCy n1 pCy) n1 (cs.map Value.string)) := owns_below HOCy_2.out bw (fun g hg => owns_lt HOCy_2.out hg)
  have HOPy_3 : Hid ((w3).ownsRow B2 172 2 (.slice oPy n2 pPy) n2 (flatWrite ws)) := owns_below HOPy_2.out bw (fun g hg => owns_lt HOPy_2.out hg)
  have HBv1_3 : Hid ((w3).heap[qv1]? = some (.cells #[.slice oCx n1 pCx, .slice oPx n2 pPx] 40)) := blk_below HBv1_2.out bw
  have HBv2_3 : Hid ((w3).heap[qv2]? = some (.cells #[.slice oCy n1 pCy, .slice oPy n2 pPy] 40)) := blk_below HBv2_2.out bw
  clear hb2 HOCx_2 HOPx_2 HOCy_2 HOPy_2 HBv1_2 HBv2_2 bw
  clear cv1_0 cv2_0
  have cv1_1 : (w3).cell? ⟨qv1, 1, none⟩ = some (.slice oPx n2 pPx) := (cell_of HBv1_3.out 1).trans rfl
  have cv2_1 : (w3).cell? ⟨qv2, 1, none⟩ = some (.slice oPy n2 pPy) := (cell_of HBv2_3.out 1).trans rfl
  go_wp2_with fail
  refine (eqWriteS_any _ _ n2 _ _ ws _ (write_view HOPx_3.out) (write_view HOPy_3.out) (by omega)).mono ?_
  rintro e w4 ⟨rfl, bw⟩
  have hb4 : Below w.heap.size w (w4) := hb3.trans (bw.mono hb3.size)
  have HOCx_4 : Hid ((w4).ownsRow B1 9 1 (.slice oCx n1 pCx) n1 (cs.map Value.string)) := owns_below HOCx_3.out bw (fun g hg => owns_lt HOCx_3.out hg)
  have HOPx_4 : Hid ((w4).ownsRow B1 172 2 (.slice oPx n2 pPx) n2 (flatWrite ws)) := owns_below HOPx_3.out bw (fun g hg => owns_lt HOPx_3.out hg)
  have HOCy_4 : Hid ((w4).ownsRow B2 9 1 (.slice oCy n1 pCy) n1 (cs.map Value.string)) := owns_below HOCy_3.out bw (fun g hg => owns_lt HOCy_3.out hg)
  have HOPy_4 : Hid ((w4).ownsRow B2 172 2 (.slice oPy n2 pPy) n2 (flatWrite ws)) := owns_below HOPy_3.out bw (fun g hg => owns_lt HOPy_3.out hg)
  have HBv1_4 : Hid ((w4).heap[qv1]? = some (.cells #[.slice oCx n1 pCx, .slice oPx n2 pPx] 40)) := blk_below HBv1_3.out bw
  have HBv2_4 : Hid ((w4).heap[qv2]? = some (.cells #[.slice oCy n1 pCy, .slice oPy n2 pPy] 40)) := blk_below HBv2_3.out bw
  clear hb3 HOCx_3 HOPx_3 HOCy_3 HOPy_3 HBv1_3 HBv2_3 bw
  clear cv1_1 cv2_1
  go_wp2_with fail
  go_ret
  exact ⟨rfl, hb4⟩

set_option maxHeartbeats 8000000 in
set_option maxRecDepth 100000 in
theorem markDisk_any (n1 : Nat) (cs : List ByteArray) (n2 : Nat) (ws : List (Int × ByteArray)) (v1 v2 : Value) (B : Nat) (w : World) (hx : DiskO w B v1 n1 cs v2 n2 ws) (hB : B ≤ w.heap.size) (k0 : Nat) (hk0 : 1 ≤ k0) (hk : k0 + n1 + 2 * n2 ≤ 99999998) :
    Calls Try.prog 53 #[.agg #[v1, v2], .int .i64 (k0 : Int)] w fun e w' => e = .returned (.int .i64 (((k0 + n1 + 2 * n2) : Nat) : Int)) ∧ DiskO w' B v1 n1 (mkT k0 cs n1) v2 n2 (mkWrite (k0 + n1) ws n2) ∧ Below B w w' ∧ (∀ g, g < w.heap.size → v1.ownBlock ≠ some g → v2.ownBlock ≠ some g → w'.heap[g]? = w.heap[g]?) := by
  obtain ⟨oCx, pCx, rfl⟩ := slice_of_owns hx.cells
  have HOCx_0 : Hid ((w).ownsRow B 9 1 (.slice oCx n1 pCx) n1 (cs.map Value.string)) := hx.cells
  obtain ⟨oPx, pPx, rfl⟩ := slice_of_owns hx.pend
  have HOPx_0 : Hid ((w).ownsRow B 172 2 (.slice oPx n2 pPx) n2 (flatWrite ws)) := hx.pend
  clear hx
  have hb0 : Below B w w := Below.refl _ _
  have HFAR_0 : Hid (∀ g, g < w.heap.size → (Value.ownBlock (.slice oCx n1 pCx)) ≠ some g → (Value.ownBlock (.slice oPx n2 pPx)) ≠ some g → (w).heap[g]? = w.heap[g]?) := fun _ _ _ _ => rfl
  go_enter Try.func53, Try.ntmps53
  go_upto_region 1 with fail
  obtain ⟨qv1, hqv1⟩ : ∃ q, q = (w).heap.size := ⟨_, rfl⟩
  obtain ⟨w1, hW1⟩ : ∃ W, W = (w).alloc (.cells #[.slice oCx n1 pCx, .slice oPx n2 pPx] 40) := ⟨_, rfl⟩
  have hz1 : (w).heap.size = qv1 := hqv1.symm
  first | rw [← hW1, ← hqv1] | rw [← hW1]
  have hs1 : w1.heap.size = qv1 + 1 := by rw [hW1, ← hz1]; simp
  have bw : Below (w).heap.size (w) w1 := by rw [hW1]; exact (Below.refl _ _).alloc (Nat.le_refl _) _
  have hb1 : Below B w (w1) := hb0.trans (bw.mono (Nat.le_trans hB hb0.size))
  have HOCx_1 : Hid ((w1).ownsRow B 9 1 (.slice oCx n1 pCx) n1 (cs.map Value.string)) := owns_below HOCx_0.out bw (fun g hg => owns_lt HOCx_0.out hg)
  have HOPx_1 : Hid ((w1).ownsRow B 172 2 (.slice oPx n2 pPx) n2 (flatWrite ws)) := owns_below HOPx_0.out bw (fun g hg => owns_lt HOPx_0.out hg)
  have HFAR_1 : Hid (∀ g, g < w.heap.size → (Value.ownBlock (.slice oCx n1 pCx)) ≠ some g → (Value.ownBlock (.slice oPx n2 pPx)) ≠ some g → (w1).heap[g]? = w.heap[g]?) := fun g hg aCx aPx => (bw.block g (Nat.lt_of_lt_of_le hg hb0.size)).trans (HFAR_0.out g hg aCx aPx)
  have HBv1_1 : Hid ((w1).heap[qv1]? = some (.cells #[.slice oCx n1 pCx, .slice oPx n2 pPx] 40)) := by show _ = _; rw [hW1, ← hz1]; exact heap_alloc_new _ _
  clear hb0 HFAR_0 HOCx_0 HOPx_0 bw hW1 hz1
  clear hs1 hqv1
  have cv1_0 : (w1).cell? ⟨qv1, 0, none⟩ = some (.slice oCx n1 pCx) := (cell_of HBv1_1.out 0).trans rfl
  go_wp2_with fail
  refine (markTFrom_any _ n1 B cs _ HOCx_1.out (Nat.le_trans hB hb1.size) k0 (by omega) (by omega)).mono ?_
  rintro e w2 ⟨rfl, mk, bm, far⟩
  have hb2 : Below B w w2 := hb1.trans bm
  have HOPx_2 : Hid ((w2).ownsRow B 172 2 (.slice oPx n2 pPx) n2 (flatWrite ws)) := owns_same HOPx_1.out (fun g hg => far g (owns_lt HOPx_1.out hg) (own_type_ne HOPx_1.out HOCx_1.out (by decide) g hg))
  have HBv1_2 : Hid ((w2).heap[qv1]? = some (.cells #[.slice oCx n1 pCx, .slice oPx n2 pPx] 40)) := blk_far HBv1_1.out far HOCx_1.out (by decide)
  have HFAR_2 : Hid (∀ g, g < w.heap.size → (Value.ownBlock (.slice oCx n1 pCx)) ≠ some g → (Value.ownBlock (.slice oPx n2 pPx)) ≠ some g → (w2).heap[g]? = w.heap[g]?) := fun g hg aCx aPx => (far g (Nat.lt_of_lt_of_le hg hb1.size) aCx).trans (HFAR_1.out g hg aCx aPx)
  have HOCx_2 : Hid ((w2).ownsRow B 9 1 (.slice oCx n1 pCx) n1 ((mkT k0 cs n1).map Value.string)) := mk
  clear hb1 HFAR_1 HOCx_1 HOPx_1 HBv1_1 mk bm far
  clear cv1_0
  have cv1_1 : (w2).cell? ⟨qv1, 1, none⟩ = some (.slice oPx n2 pPx) := (cell_of HBv1_2.out 1).trans rfl
  rw [show ((k0 : Int) + (n1 : Int)) = ((k0 + n1 : Nat) : Int) by omega]
  go_wp2_with fail
  refine (markWriteS_any _ n2 _ B ws _ HOPx_2.out (Nat.le_trans hB hb2.size) (k0 + n1) (by omega) (by omega)).mono ?_
  rintro e w3 ⟨rfl, mk, bm, far⟩
  have hb3 : Below B w w3 := hb2.trans bm
  have HOCx_3 : Hid ((w3).ownsRow B 9 1 (.slice oCx n1 pCx) n1 ((mkT k0 cs n1).map Value.string)) := owns_same HOCx_2.out (fun g hg => far g (owns_lt HOCx_2.out hg) (own_type_ne HOCx_2.out HOPx_2.out (by decide) g hg))
  have HBv1_3 : Hid ((w3).heap[qv1]? = some (.cells #[.slice oCx n1 pCx, .slice oPx n2 pPx] 40)) := blk_far HBv1_2.out far HOPx_2.out (by decide)
  have HFAR_3 : Hid (∀ g, g < w.heap.size → (Value.ownBlock (.slice oCx n1 pCx)) ≠ some g → (Value.ownBlock (.slice oPx n2 pPx)) ≠ some g → (w3).heap[g]? = w.heap[g]?) := fun g hg aCx aPx => (far g (Nat.lt_of_lt_of_le hg hb2.size) aPx).trans (HFAR_2.out g hg aCx aPx)
  have HOPx_3 : Hid ((w3).ownsRow B 172 2 (.slice oPx n2 pPx) n2 (flatWrite (mkWrite (k0 + n1) ws n2))) := mk
  clear hb2 HFAR_2 HOCx_2 HOPx_2 HBv1_2 mk bm far
  clear cv1_1
  go_wp2_with fail
  go_ret
  exact ⟨congrArg (fun x : Int => Ending.returned (.int .i64 x)) (show (((k0 + n1 : Nat) : Int) + 2 * (n2 : Int)) = (((k0 + n1 + 2 * n2) : Nat) : Int) by omega), ⟨HOCx_3.out, HOPx_3.out⟩, hb3, HFAR_3.out⟩

end Go.Proofs.Ytajccgffallajaa

namespace Go.Proofs.Ytajccgffallajaa
open Go.RowKit
open Go.Lib hiding intOf

set_option maxHeartbeats 8000000 in
set_option maxRecDepth 100000 in
theorem toBan_any (k : Int) (a b : ByteArray) (t : Int) (w : World) :
    Calls Try.prog 70 #[.agg #[.int .i64 k, .string a, .string b, .int .i64 t]] w fun e w' => e = .returned (.agg #[.int .i64 k, .string a, .string b, .int .i64 t]) ∧ Below w.heap.size w w' := by
  have hb0 : Below w.heap.size w w := Below.refl _ _
  go_enter Try.func70, Try.ntmps70
  go_upto_region 1 with fail
  obtain ⟨qv1, hqv1⟩ : ∃ q, q = (w).heap.size := ⟨_, rfl⟩
  obtain ⟨w1, hW1⟩ : ∃ W, W = (w).alloc (.cells #[.int .i64 k, .string a, .string b, .int .i64 t] 138) := ⟨_, rfl⟩
  have hz1 : (w).heap.size = qv1 := hqv1.symm
  first | rw [← hW1, ← hqv1] | rw [← hW1]
  have hs1 : w1.heap.size = qv1 + 1 := by rw [hW1, ← hz1]; simp
  have bw : Below (w).heap.size (w) w1 := by rw [hW1]; exact (Below.refl _ _).alloc (Nat.le_refl _) _
  have hb1 : Below w.heap.size w (w1) := hb0.trans (bw.mono hb0.size)
  have HBv1_1 : Hid ((w1).heap[qv1]? = some (.cells #[.int .i64 k, .string a, .string b, .int .i64 t] 138)) := by show _ = _; rw [hW1, ← hz1]; exact heap_alloc_new _ _
  clear hb0 bw hW1 hz1
  obtain ⟨qv2, hqv2⟩ : ∃ q, q = qv1 + 1 := ⟨_, rfl⟩
  obtain ⟨w2, hW2⟩ : ∃ W, W = (w1).alloc (.cells #[.int .i64 0, .string ⟨#[]⟩, .string ⟨#[]⟩, .int .i64 0] 147) := ⟨_, rfl⟩
  have hz2 : (w1).heap.size = qv2 := by rw [hqv2]; exact hs1
  first | rw [← hW2, ← hqv2] | rw [← hW2]
  have hs2 : w2.heap.size = qv2 + 1 := by rw [hW2, ← hz2]; simp
  have bw : Below (w1).heap.size (w1) w2 := by rw [hW2]; exact (Below.refl _ _).alloc (Nat.le_refl _) _
  have hb2 : Below w.heap.size w (w2) := hb1.trans (bw.mono hb1.size)
  have HBv1_2 : Hid ((w2).heap[qv1]? = some (.cells #[.int .i64 k, .string a, .string b, .int .i64 t] 138)) := blk_below HBv1_1.out bw
  have HNv1v2 : Hid (qv1 ≠ qv2) := fun e => by have h1 := (Array.getElem?_eq_some_iff.1 HBv1_1.out).1; omega
  have HBv2_2 : Hid ((w2).heap[qv2]? = some (.cells #[.int .i64 0, .string ⟨#[]⟩, .string ⟨#[]⟩, .int .i64 0] 147)) := by show _ = _; rw [hW2, ← hz2]; exact heap_alloc_new _ _
  have HGv2 : Hid (w.heap.size ≤ qv2) := by show _ ≤ _; rw [← hz2]; exact hb1.size
  clear hb1 HBv1_1 bw hW2 hz2
  clear hs2 hqv2 hs1 hqv1
  go_upto_region 2 with fail
  obtain ⟨qv3, hqv3⟩ : ∃ q, q = (w2).heap.size := ⟨_, rfl⟩
  obtain ⟨w3, hW3⟩ : ∃ W, W = (w2).alloc (.cells #[.int .i64 0, .string ⟨#[]⟩, .string ⟨#[]⟩, .int .i64 0] 147) := ⟨_, rfl⟩
  have hz3 : (w2).heap.size = qv3 := hqv3.symm
  first | rw [← hW3, ← hqv3] | rw [← hW3]
  have hs3 : w3.heap.size = qv3 + 1 := by rw [hW3, ← hz3]; simp
  have bw : Below (w2).heap.size (w2) w3 := by rw [hW3]; exact (Below.refl _ _).alloc (Nat.le_refl _) _
  have hb3 : Below w.heap.size w (w3) := hb2.trans (bw.mono hb2.size)
  have HBv1_3 : Hid ((w3).heap[qv1]? = some (.cells #[.int .i64 k, .string a, .string b, .int .i64 t] 138)) := blk_below HBv1_2.out bw
  have HBv2_3 : Hid ((w3).heap[qv2]? = some (.cells #[.int .i64 0, .string ⟨#[]⟩, .string ⟨#[]⟩, .int .i64 0] 147)) := blk_below HBv2_2.out bw
  have HNv1v3 : Hid (qv1 ≠ qv3) := fun e => by have h1 := (Array.getElem?_eq_some_iff.1 HBv1_2.out).1; omega
  have HNv2v3 : Hid (qv2 ≠ qv3) := fun e => by have h1 := (Array.getElem?_eq_some_iff.1 HBv2_2.out).1; omega
  have HBv3_3 : Hid ((w3).heap[qv3]? = some (.cells #[.int .i64 0, .string ⟨#[]⟩, .string ⟨#[]⟩, .int .i64 0] 147)) := by show _ = _; rw [hW3, ← hz3]; exact heap_alloc_new _ _
  have HGv3 : Hid (w.heap.size ≤ qv3) := by show _ ≤ _; rw [← hz3]; exact hb2.size
  clear hb2 HBv1_2 HBv2_2 bw hW3 hz3
  clear hs3 hqv3
  have cv1_0 : (w3).cell? ⟨qv1, 0, none⟩ = some (.int .i64 k) := (cell_of HBv1_3.out 0).trans rfl
  have cv3_0 : (w3).cell? ⟨qv3, 0, none⟩ = some (.int .i64 0) := (cell_of HBv3_3.out 0).trans rfl
  have fcv3_0 : (w3).frozen? ⟨qv3, 0, none⟩ = false := frozen_of HBv3_3.out 0
  go_upto_region 3 with fail
  obtain ⟨w4, hW4⟩ : ∃ W, W = (w3).setCell ⟨qv3, 0, none⟩ (.int .i64 k) := ⟨_, rfl⟩
  rw [← hW4]
  have hb4 : Below w.heap.size w (w4) := by rw [hW4]; exact (hb3.setCell (p := ⟨qv3, 0, none⟩) HGv3.out _)
  have HBv1_4 : Hid ((w4).heap[qv1]? = some (.cells #[.int .i64 k, .string a, .string b, .int .i64 t] 138)) := by show _ = _; rw [hW4, heap_setCell_other _ _ _ _ HNv1v3.out]; exact HBv1_3.out
  have HBv2_4 : Hid ((w4).heap[qv2]? = some (.cells #[.int .i64 0, .string ⟨#[]⟩, .string ⟨#[]⟩, .int .i64 0] 147)) := by show _ = _; rw [hW4, heap_setCell_other _ _ _ _ HNv2v3.out]; exact HBv2_3.out
  have HBv3_4 : Hid ((w4).heap[qv3]? = some (.cells #[.int .i64 k, .string ⟨#[]⟩, .string ⟨#[]⟩, .int .i64 0] 147)) := by show _ = _; rw [hW4]; have h := heap_set _ _ 0 _ _ _ (.int .i64 k) HBv3_3.out; simpa using h
  clear hb3 HBv1_3 HBv2_3 HBv3_3 hW4
  clear cv1_0 cv3_0 fcv3_0
  have cv1_1 : (w4).cell? ⟨qv1, 1, none⟩ = some (.string a) := (cell_of HBv1_4.out 1).trans rfl
  have cv3_1 : (w4).cell? ⟨qv3, 1, none⟩ = some (.string ⟨#[]⟩) := (cell_of HBv3_4.out 1).trans rfl
  have fcv3_1 : (w4).frozen? ⟨qv3, 1, none⟩ = false := frozen_of HBv3_4.out 1
  go_upto_region 4 with fail
  obtain ⟨w5, hW5⟩ : ∃ W, W = (w4).setCell ⟨qv3, 1, none⟩ (.string a) := ⟨_, rfl⟩
  rw [← hW5]
  have hb5 : Below w.heap.size w (w5) := by rw [hW5]; exact (hb4.setCell (p := ⟨qv3, 1, none⟩) HGv3.out _)
  have HBv1_5 : Hid ((w5).heap[qv1]? = some (.cells #[.int .i64 k, .string a, .string b, .int .i64 t] 138)) := by show _ = _; rw [hW5, heap_setCell_other _ _ _ _ HNv1v3.out]; exact HBv1_4.out
  have HBv2_5 : Hid ((w5).heap[qv2]? = some (.cells #[.int .i64 0, .string ⟨#[]⟩, .string ⟨#[]⟩, .int .i64 0] 147)) := by show _ = _; rw [hW5, heap_setCell_other _ _ _ _ HNv2v3.out]; exact HBv2_4.out
  have HBv3_5 : Hid ((w5).heap[qv3]? = some (.cells #[.int .i64 k, .string a, .string ⟨#[]⟩, .int .i64 0] 147)) := by show _ = _; rw [hW5]; have h := heap_set _ _ 1 _ _ _ (.string a) HBv3_4.out; simpa using h
  clear hb4 HBv1_4 HBv2_4 HBv3_4 hW5
  clear cv1_1 cv3_1 fcv3_1
  have cv1_2 : (w5).cell? ⟨qv1, 2, none⟩ = some (.string b) := (cell_of HBv1_5.out 2).trans rfl
  have cv3_2 : (w5).cell? ⟨qv3, 2, none⟩ = some (.string ⟨#[]⟩) := (cell_of HBv3_5.out 2).trans rfl
  have fcv3_2 : (w5).frozen? ⟨qv3, 2, none⟩ = false := frozen_of HBv3_5.out 2
  go_upto_region 5 with fail
  obtain ⟨w6, hW6⟩ : ∃ W, W = (w5).setCell ⟨qv3, 2, none⟩ (.string b) := ⟨_, rfl⟩
  rw [← hW6]
  have hb6 : Below w.heap.size w (w6) := by rw [hW6]; exact (hb5.setCell (p := ⟨qv3, 2, none⟩) HGv3.out _)
  have HBv1_6 : Hid ((w6).heap[qv1]? = some (.cells #[.int .i64 k, .string a, .string b, .int .i64 t] 138)) := by show _ = _; rw [hW6, heap_setCell_other _ _ _ _ HNv1v3.out]; exact HBv1_5.out
  have HBv2_6 : Hid ((w6).heap[qv2]? = some (.cells #[.int .i64 0, .string ⟨#[]⟩, .string ⟨#[]⟩, .int .i64 0] 147)) := by show _ = _; rw [hW6, heap_setCell_other _ _ _ _ HNv2v3.out]; exact HBv2_5.out
  have HBv3_6 : Hid ((w6).heap[qv3]? = some (.cells #[.int .i64 k, .string a, .string b, .int .i64 0] 147)) := by show _ = _; rw [hW6]; have h := heap_set _ _ 2 _ _ _ (.string b) HBv3_5.out; simpa using h
  clear hb5 HBv1_5 HBv2_5 HBv3_5 hW6
  clear cv1_2 cv3_2 fcv3_2
  have cv1_3 : (w6).cell? ⟨qv1, 3, none⟩ = some (.int .i64 t) := (cell_of HBv1_6.out 3).trans rfl
  have cv3_3 : (w6).cell? ⟨qv3, 3, none⟩ = some (.int .i64 0) := (cell_of HBv3_6.out 3).trans rfl
  have fcv3_3 : (w6).frozen? ⟨qv3, 3, none⟩ = false := frozen_of HBv3_6.out 3
  go_upto_region 6 with fail
  obtain ⟨w7, hW7⟩ : ∃ W, W = (w6).setCell ⟨qv3, 3, none⟩ (.int .i64 t) := ⟨_, rfl⟩
  rw [← hW7]
  have hb7 : Below w.heap.size w (w7) := by rw [hW7]; exact (hb6.setCell (p := ⟨qv3, 3, none⟩) HGv3.out _)
  have HBv1_7 : Hid ((w7).heap[qv1]? = some (.cells #[.int .i64 k, .string a, .string b, .int .i64 t] 138)) := by show _ = _; rw [hW7, heap_setCell_other _ _ _ _ HNv1v3.out]; exact HBv1_6.out
  have HBv2_7 : Hid ((w7).heap[qv2]? = some (.cells #[.int .i64 0, .string ⟨#[]⟩, .string ⟨#[]⟩, .int .i64 0] 147)) := by show _ = _; rw [hW7, heap_setCell_other _ _ _ _ HNv2v3.out]; exact HBv2_6.out
  have HBv3_7 : Hid ((w7).heap[qv3]? = some (.cells #[.int .i64 k, .string a, .string b, .int .i64 t] 147)) := by show _ = _; rw [hW7]; have h := heap_set _ _ 3 _ _ _ (.int .i64 t) HBv3_6.out; simpa using h
  clear hb6 HBv1_6 HBv2_6 HBv3_6 hW7
  clear cv1_3 cv3_3 fcv3_3
  have cv2_0 : (w7).cell? ⟨qv2, 0, none⟩ = some (.int .i64 0) := (cell_of HBv2_7.out 0).trans rfl
  have fcv2_0 : (w7).frozen? ⟨qv2, 0, none⟩ = false := frozen_of HBv2_7.out 0
  have cv2_1 : (w7).cell? ⟨qv2, 1, none⟩ = some (.string ⟨#[]⟩) := (cell_of HBv2_7.out 1).trans rfl
  have fcv2_1 : (w7).frozen? ⟨qv2, 1, none⟩ = false := frozen_of HBv2_7.out 1
  have cv2_2 : (w7).cell? ⟨qv2, 2, none⟩ = some (.string ⟨#[]⟩) := (cell_of HBv2_7.out 2).trans rfl
  have fcv2_2 : (w7).frozen? ⟨qv2, 2, none⟩ = false := frozen_of HBv2_7.out 2
  have cv2_3 : (w7).cell? ⟨qv2, 3, none⟩ = some (.int .i64 0) := (cell_of HBv2_7.out 3).trans rfl
  have fcv2_3 : (w7).frozen? ⟨qv2, 3, none⟩ = false := frozen_of HBv2_7.out 3
  have cv3_0 : (w7).cell? ⟨qv3, 0, none⟩ = some (.int .i64 k) := (cell_of HBv3_7.out 0).trans rfl
  have cv3_1 : (w7).cell? ⟨qv3, 1, none⟩ = some (.string a) := (cell_of HBv3_7.out 1).trans rfl
  have cv3_2 : (w7).cell? ⟨qv3, 2, none⟩ = some (.string b) := (cell_of HBv3_7.out 2).trans rfl
  have cv3_3 : (w7).cell? ⟨qv3, 3, none⟩ = some (.int .i64 t) := (cell_of HBv3_7.out 3).trans rfl
  go_wp2_with fail
  obtain ⟨w8, hW8⟩ : ∃ W, W = (w7).setCell ⟨qv2, 0, none⟩ (.int .i64 k) := ⟨_, rfl⟩
  rw [← hW8]
  have hb8 : Below w.heap.size w (w8) := by rw [hW8]; exact (hb7.setCell (p := ⟨qv2, 0, none⟩) HGv2.out _)
  have HBv1_8 : Hid ((w8).heap[qv1]? = some (.cells #[.int .i64 k, .string a, .string b, .int .i64 t] 138)) := by show _ = _; rw [hW8, heap_setCell_other _ _ _ _ HNv1v2.out]; exact HBv1_7.out
  have HBv3_8 : Hid ((w8).heap[qv3]? = some (.cells #[.int .i64 k, .string a, .string b, .int .i64 t] 147)) := by show _ = _; rw [hW8, heap_setCell_other _ _ _ _ HNv2v3.out.symm]; exact HBv3_7.out
  have HBv2_8 : Hid ((w8).heap[qv2]? = some (.cells #[.int .i64 k, .string ⟨#[]⟩, .string ⟨#[]⟩, .int .i64 0] 147)) := by show _ = _; rw [hW8]; have h := heap_set _ _ 0 _ _ _ (.int .i64 k) HBv2_7.out; simpa using h
  clear hb7 HBv1_7 HBv2_7 HBv3_7 hW8
  obtain ⟨w9, hW9⟩ : ∃ W, W = (w8).setCell ⟨qv2, 1, none⟩ (.string a) := ⟨_, rfl⟩
  rw [← hW9]
  have hb9 : Below w.heap.size w (w9) := by rw [hW9]; exact (hb8.setCell (p := ⟨qv2, 1, none⟩) HGv2.out _)
  have HBv1_9 : Hid ((w9).heap[qv1]? = some (.cells #[.int .i64 k, .string a, .string b, .int .i64 t] 138)) := by show _ = _; rw [hW9, heap_setCell_other _ _ _ _ HNv1v2.out]; exact HBv1_8.out
  have HBv3_9 : Hid ((w9).heap[qv3]? = some (.cells #[.int .i64 k, .string a, .string b, .int .i64 t] 147)) := by show _ = _; rw [hW9, heap_setCell_other _ _ _ _ HNv2v3.out.symm]; exact HBv3_8.out
  have HBv2_9 : Hid ((w9).heap[qv2]? = some (.cells #[.int .i64 k, .string a, .string ⟨#[]⟩, .int .i64 0] 147)) := by show _ = _; rw [hW9]; have h := heap_set _ _ 1 _ _ _ (.string a) HBv2_8.out; simpa using h
  clear hb8 HBv1_8 HBv2_8 HBv3_8 hW9
  obtain ⟨w10, hW10⟩ : ∃ W, W = (w9).setCell ⟨qv2, 2, none⟩ (.string b) := ⟨_, rfl⟩
  rw [← hW10]
  have hb10 : Below w.heap.size w (w10) := by rw [hW10]; exact (hb9.setCell (p := ⟨qv2, 2, none⟩) HGv2.out _)
  have HBv1_10 : Hid ((w10).heap[qv1]? = some (.cells #[.int .i64 k, .string a, .string b, .int .i64 t] 138)) := by show _ = _; rw [hW10, heap_setCell_other _ _ _ _ HNv1v2.out]; exact HBv1_9.out
  have HBv3_10 : Hid ((w10).heap[qv3]? = some (.cells #[.int .i64 k, .string a, .string b, .int .i64 t] 147)) := by show _ = _; rw [hW10, heap_setCell_other _ _ _ _ HNv2v3.out.symm]; exact HBv3_9.out
  have HBv2_10 : Hid ((w10).heap[qv2]? = some (.cells #[.int .i64 k, .string a, .string b, .int .i64 0] 147)) := by show _ = _; rw [hW10]; have h := heap_set _ _ 2 _ _ _ (.string b) HBv2_9.out; simpa using h
  clear hb9 HBv1_9 HBv2_9 HBv3_9 hW10
  obtain ⟨w11, hW11⟩ : ∃ W, W = (w10).setCell ⟨qv2, 3, none⟩ (.int .i64 t) := ⟨_, rfl⟩
  rw [← hW11]
  have hb11 : Below w.heap.size w (w11) := by rw [hW11]; exact (hb10.setCell (p := ⟨qv2, 3, none⟩) HGv2.out _)
  have HBv1_11 : Hid ((w11).heap[qv1]? = some (.cells #[.int .i64 k, .string a, .string b, .int .i64 t] 138)) := by show _ = _; rw [hW11, heap_setCell_other _ _ _ _ HNv1v2.out]; exact HBv1_10.out
  have HBv3_11 : Hid ((w11).heap[qv3]? = some (.cells #[.int .i64 k, .string a, .string b, .int .i64 t] 147)) := by show _ = _; rw [hW11, heap_setCell_other _ _ _ _ HNv2v3.out.symm]; exact HBv3_10.out
  have HBv2_11 : Hid ((w11).heap[qv2]? = some (.cells #[.int .i64 k, .string a, .string b, .int .i64 t] 147)) := by show _ = _; rw [hW11]; have h := heap_set _ _ 3 _ _ _ (.int .i64 t) HBv2_10.out; simpa using h
  clear hb10 HBv1_10 HBv2_10 HBv3_10 hW11
  have kv2_0 : (w11).cell? ⟨qv2, 0, none⟩ = some (.int .i64 k) := (cell_of HBv2_11.out 0).trans rfl
  have kv2_1 : (w11).cell? ⟨qv2, 1, none⟩ = some (.string a) := (cell_of HBv2_11.out 1).trans rfl
  have kv2_2 : (w11).cell? ⟨qv2, 2, none⟩ = some (.string b) := (cell_of HBv2_11.out 2).trans rfl
  have kv2_3 : (w11).cell? ⟨qv2, 3, none⟩ = some (.int .i64 t) := (cell_of HBv2_11.out 3).trans rfl
  refine bodyPost_ret (v := .agg #[.int .i64 k, .string a, .string b, .int .i64 t]) (by simp [results, Try.results70, go_sem, kv2_0, kv2_1, kv2_2, kv2_3]) rfl ?_
  exact ⟨rfl, hb11⟩

/-- A ban's measure: negative, or the room that is left of L. -/
def SzBan (L : Int) (a b : ByteArray) (w : World) (e : Ending) (w' : World) : Prop := ∃ r : Int, e = .returned (.int .i64 r) ∧ r ≤ L ∧ (0 ≤ r → a.size ≤ 1048576 ∧ b.size ≤ 1048576) ∧ Below w.heap.size w w'
set_option maxHeartbeats 8000000 in
set_option maxRecDepth 100000 in
theorem szBan_any (L : Int) (hL0 : 0 ≤ L) (hL1 : L ≤ 1048576) (k : Int) (a b : ByteArray) (t : Int) (w : World) (ha : a.size ≤ maxLen) (hb : b.size ≤ maxLen) :
    Calls Try.prog 62 #[.agg #[.int .i64 k, .string a, .string b, .int .i64 t], .int .i64 L] w fun e w' => SzBan L a b w e w' := by
  unfold maxLen at ha hb
  have hb0 : Below w.heap.size w w := Below.refl _ _
  go_enter Try.func62, Try.ntmps62
  go_upto_region 1 with fail
  obtain ⟨qv1, hqv1⟩ : ∃ q, q = (w).heap.size := ⟨_, rfl⟩
  obtain ⟨w1, hW1⟩ : ∃ W, W = (w).alloc (.cells #[.int .i64 k, .string a, .string b, .int .i64 t] 138) := ⟨_, rfl⟩
  have hz1 : (w).heap.size = qv1 := hqv1.symm
  first | rw [← hW1, ← hqv1] | rw [← hW1]
  have hs1 : w1.heap.size = qv1 + 1 := by rw [hW1, ← hz1]; simp
  have bw : Below (w).heap.size (w) w1 := by rw [hW1]; exact (Below.refl _ _).alloc (Nat.le_refl _) _
  have hb1 : Below w.heap.size w (w1) := hb0.trans (bw.mono hb0.size)
  have HBv1_1 : Hid ((w1).heap[qv1]? = some (.cells #[.int .i64 k, .string a, .string b, .int .i64 t] 138)) := by show _ = _; rw [hW1, ← hz1]; exact heap_alloc_new _ _
  clear hb0 bw hW1 hz1
  clear hs1 hqv1
  have cv1_1 : (w1).cell? ⟨qv1, 1, none⟩ = some (.string a) := (cell_of HBv1_1.out 1).trans rfl
  by_cases hc1 : (L - (a.size : Int)) < 0
  · go_wp2_with fail
    go_ret
    exact ⟨-1, rfl, by omega, fun h => absurd h (by omega), hb1⟩
  · have cv1_2 : (w1).cell? ⟨qv1, 2, none⟩ = some (.string b) := (cell_of HBv1_1.out 2).trans rfl
    by_cases hc2 : ((L - (a.size : Int)) - (b.size : Int)) < 0
    · go_wp2_with fail
      go_ret
      exact ⟨-1, rfl, by omega, fun h => absurd h (by omega), hb1⟩
    · go_wp2_with fail
      go_ret
      exact ⟨_, rfl, by omega, fun _ => ⟨by omega, by omega⟩, hb1⟩

set_option maxHeartbeats 8000000 in
set_option maxRecDepth 100000 in
theorem eqBan_any (k : Int) (a b : ByteArray) (t : Int) (w : World) :
    Calls Try.prog 80 #[.agg #[.int .i64 k, .string a, .string b, .int .i64 t], .agg #[.int .i64 k, .string a, .string b, .int .i64 t]] w fun e w' => e = .returned (.bool true) ∧ Below w.heap.size w w' := by
  have hkk : (k != k) = false := by simp
  have haa : (a.toList != a.toList) = false := by simp
  have hbb : (b.toList != b.toList) = false := by simp
  have htt : (t != t) = false := by simp
  have hb0 : Below w.heap.size w w := Below.refl _ _
  go_enter Try.func80, Try.ntmps80
  go_upto_region 1 with fail
  obtain ⟨qv1, hqv1⟩ : ∃ q, q = (w).heap.size := ⟨_, rfl⟩
  obtain ⟨w1, hW1⟩ : ∃ W, W = (w).alloc (.cells #[.int .i64 k, .string a, .string b, .int .i64 t] 147) := ⟨_, rfl⟩
  have hz1 : (w).heap.size = qv1 := hqv1.symm
  first | rw [← hW1, ← hqv1] | rw [← hW1]
  have hs1 : w1.heap.size = qv1 + 1 := by rw [hW1, ← hz1]; simp
  have bw : Below (w).heap.size (w) w1 := by rw [hW1]; exact (Below.refl _ _).alloc (Nat.le_refl _) _
  have hb1 : Below w.heap.size w (w1) := hb0.trans (bw.mono hb0.size)
  have HBv1_1 : Hid ((w1).heap[qv1]? = some (.cells #[.int .i64 k, .string a, .string b, .int .i64 t] 147)) := by show _ = _; rw [hW1, ← hz1]; exact heap_alloc_new _ _
  clear hb0 bw hW1 hz1
  obtain ⟨qv2, hqv2⟩ : ∃ q, q = qv1 + 1 := ⟨_, rfl⟩
  obtain ⟨w2, hW2⟩ : ∃ W, W = (w1).alloc (.cells #[.int .i64 k, .string a, .string b, .int .i64 t] 147) := ⟨_, rfl⟩
  have hz2 : (w1).heap.size = qv2 := by rw [hqv2]; exact hs1
  first | rw [← hW2, ← hqv2] | rw [← hW2]
  have hs2 : w2.heap.size = qv2 + 1 := by rw [hW2, ← hz2]; simp
  have bw : Below (w1).heap.size (w1) w2 := by rw [hW2]; exact (Below.refl _ _).alloc (Nat.le_refl _) _
  have hb2 : Below w.heap.size w (w2) := hb1.trans (bw.mono hb1.size)
  have HBv1_2 : Hid ((w2).heap[qv1]? = some (.cells #[.int .i64 k, .string a, .string b, .int .i64 t] 147)) := blk_below HBv1_1.out bw
  have HBv2_2 : Hid ((w2).heap[qv2]? = some (.cells #[.int .i64 k, .string a, .string b, .int .i64 t] 147)) := by show _ = _; rw [hW2, ← hz2]; exact heap_alloc_new _ _
  clear hb1 HBv1_1 bw hW2 hz2
  clear hs2 hqv2 hs1 hqv1
  have cv1_0 : (w2).cell? ⟨qv1, 0, none⟩ = some (.int .i64 k) := (cell_of HBv1_2.out 0).trans rfl
  have cv2_0 : (w2).cell? ⟨qv2, 0, none⟩ = some (.int .i64 k) := (cell_of HBv2_2.out 0).trans rfl
  have cv1_1 : (w2).cell? ⟨qv1, 1, none⟩ = some (.string a) := (cell_of HBv1_2.out 1).trans rfl
  have cv2_1 : (w2).cell? ⟨qv2, 1, none⟩ = some (.string a) := (cell_of HBv2_2.out 1).trans rfl
  have cv1_2 : (w2).cell? ⟨qv1, 2, none⟩ = some (.string b) := (cell_of HBv1_2.out 2).trans rfl
  have cv2_2 : (w2).cell? ⟨qv2, 2, none⟩ = some (.string b) := (cell_of HBv2_2.out 2).trans rfl
  have cv1_3 : (w2).cell? ⟨qv1, 3, none⟩ = some (.int .i64 t) := (cell_of HBv1_2.out 3).trans rfl
  have cv2_3 : (w2).cell? ⟨qv2, 3, none⟩ = some (.int .i64 t) := (cell_of HBv2_2.out 3).trans rfl
  go_wp2_with fail
  go_ret
  exact ⟨rfl, hb2⟩

end Go.Proofs.Ytajccgffallajaa

namespace Go.Proofs.Ytajccgffallajaa
open Go.RowKit
open Go.Lib hiding intOf

/-- The i-th of a list. -/
def banAt (l : List (Int × ByteArray × ByteArray × Int)) (i : Nat) : (Int × ByteArray × ByteArray × Int) := l.getD i (0, ⟨#[]⟩, ⟨#[]⟩, 0)
/-- Its cells. -/
def banEnc (x : (Int × ByteArray × ByteArray × Int)) : List Value := [.int .i64 x.1, .string x.2.1, .string x.2.2.1, .int .i64 x.2.2.2]
def flatBan (l : List (Int × ByteArray × ByteArray × Int)) : List Value := l.flatMap banEnc
theorem flatBan_len (l : List (Int × ByteArray × ByteArray × Int)) : (flatBan l).length = l.length * 4 := by
  induction l with
  | nil => rfl
  | cons f r ih => simp only [flatBan, banEnc, List.flatMap_cons, List.length_append, List.length_cons, List.length_nil] at ih ⊢; omega
theorem flatBan_get : ∀ (l : List (Int × ByteArray × ByteArray × Int)) (i : Nat), i < l.length → (flatBan l)[i * 4]? = some (.int .i64 ((banAt l i).1)) ∧ (flatBan l)[i * 4 + 1]? = some (.string ((banAt l i).2.1)) ∧ (flatBan l)[i * 4 + 2]? = some (.string ((banAt l i).2.2.1)) ∧ (flatBan l)[i * 4 + 3]? = some (.int .i64 ((banAt l i).2.2.2))
  | [], i, h => by simp at h
  | f :: r, 0, _ => by simp [flatBan, banEnc, banAt]
  | f :: r, i + 1, h => by
    have ih := flatBan_get r i (by simpa using h)
    have e : flatBan (f :: r) = banEnc f ++ flatBan r := rfl
    have hl : (banEnc f).length = 4 := rfl
    have h2 : banAt (f :: r) (i + 1) = banAt r i := by simp [banAt]
    have key : ∀ j, (flatBan (f :: r))[i * 4 + 4 + j]? = (flatBan r)[i * 4 + j]? := fun j => by
      rw [e, List.getElem?_append_right (by rw [hl]; omega), hl]; congr 1; omega
    rw [h2]
    refine ⟨(by rw [show (i + 1) * 4 = i * 4 + 4 + 0 by omega, key]; exact ih.1), (by rw [show (i + 1) * 4 + 1 = i * 4 + 4 + 1 by omega, key]; exact ih.2.1), (by rw [show (i + 1) * 4 + 2 = i * 4 + 4 + 2 by omega, key]; exact ih.2.2.1), (by rw [show (i + 1) * 4 + 3 = i * 4 + 4 + 3 by omega, key]; exact ih.2.2.2)⟩
theorem banAt_mem (l : List (Int × ByteArray × ByteArray × Int)) (i : Nat) (h : i < l.length) : banAt l i ∈ l := by
  unfold banAt
  rw [List.getD_eq_getElem?_getD, List.getElem?_eq_getElem h]
  exact List.getElem_mem h
theorem take_banAt (l : List (Int × ByteArray × ByteArray × Int)) (i : Nat) (h : i < l.length) : l.take (i + 1) = l.take i ++ [banAt l i] := by
  unfold banAt
  rw [List.getD_eq_getElem?_getD, List.getElem?_eq_getElem h, List.take_succ_eq_append_getElem h]
  rfl
/-- A list that is read: its cells in a block that is there. -/
def BanA (w : World) (oa : Option Addr) (n : Nat) (l : List (Int × ByteArray × ByteArray × Int)) : Prop :=
  l.length = n ∧ ∀ i, i < n → ∃ g, oa = some ⟨g, 0, none⟩ ∧ g < w.heap.size ∧ w.cell? ⟨g, i * 4, none⟩ = some (.int .i64 ((banAt l i).1)) ∧ w.cell? ⟨g, i * 4 + 1, none⟩ = some (.string ((banAt l i).2.1)) ∧ w.cell? ⟨g, i * 4 + 2, none⟩ = some (.string ((banAt l i).2.2.1)) ∧ w.cell? ⟨g, i * 4 + 3, none⟩ = some (.int .i64 ((banAt l i).2.2.2))
theorem BanA.below {w W : World} {oa : Option Addr} {n : Nat} {l : List (Int × ByteArray × ByteArray × Int)} (h : BanA w oa n l) (hb : Below w.heap.size w W) : BanA W oa n l :=
  ⟨h.1, fun i hi => by
    obtain ⟨g, h1, h2, r0, r1, r2, r3⟩ := h.2 i hi
    exact ⟨g, h1, Nat.lt_of_lt_of_le h2 hb.size, by rw [hb.cell (p := ⟨g, i * 4, none⟩) h2]; exact r0, by rw [hb.cell (p := ⟨g, i * 4 + 1, none⟩) h2]; exact r1, by rw [hb.cell (p := ⟨g, i * 4 + 2, none⟩) h2]; exact r2, by rw [hb.cell (p := ⟨g, i * 4 + 3, none⟩) h2]; exact r3⟩⟩
/-- A list that came in, in blocks below B. -/
def ArgBan (w : World) (B : Nat) (a : Option Addr) (n : Nat) (l : List (Int × ByteArray × ByteArray × Int)) : Prop :=
  l.length = n ∧ ∀ i, i < n → ∃ b off, a = some ⟨b, off, none⟩ ∧ b < B ∧ w.cell? ⟨b, off + i * 4, none⟩ = some (.int .i64 ((banAt l i).1)) ∧ w.cell? ⟨b, off + i * 4 + 1, none⟩ = some (.string ((banAt l i).2.1)) ∧ w.cell? ⟨b, off + i * 4 + 2, none⟩ = some (.string ((banAt l i).2.2.1)) ∧ w.cell? ⟨b, off + i * 4 + 3, none⟩ = some (.int .i64 ((banAt l i).2.2.2))
theorem ArgBan.below {w w' : World} {B : Nat} {a : Option Addr} {n : Nat} {l : List (Int × ByteArray × ByteArray × Int)} (h : ArgBan w B a n l) (hb : Below B w w') : ArgBan w' B a n l :=
  ⟨h.1, fun i hi => by
    obtain ⟨b, off, h1, h2, r0, r1, r2, r3⟩ := h.2 i hi
    exact ⟨b, off, h1, h2, by rw [hb.cell (p := ⟨b, off + i * 4, none⟩) h2]; exact r0, by rw [hb.cell (p := ⟨b, off + i * 4 + 1, none⟩) h2]; exact r1, by rw [hb.cell (p := ⟨b, off + i * 4 + 2, none⟩) h2]; exact r2, by rw [hb.cell (p := ⟨b, off + i * 4 + 3, none⟩) h2]; exact r3⟩⟩
/-- The first k of a row of 4 n cells are told. -/
def PartBan (w : World) (g n k : Nat) (l : List (Int × ByteArray × ByteArray × Int)) : Prop :=
  ∃ cur, w.heap[g]? = some (.cells cur 147 (0, 0)) ∧ cur.size = n * 4 ∧ ∀ i, i < k → cur[i * 4]? = some (.int .i64 ((banAt l i).1)) ∧ cur[i * 4 + 1]? = some (.string ((banAt l i).2.1)) ∧ cur[i * 4 + 2]? = some (.string ((banAt l i).2.2.1)) ∧ cur[i * 4 + 3]? = some (.int .i64 ((banAt l i).2.2.2))
theorem PartBan.below {w w' : World} {g n k B : Nat} {l : List (Int × ByteArray × ByteArray × Int)} (h : PartBan w g n k l) (hb : Below B w w') (hB : g < B) : PartBan w' g n k l := by
  obtain ⟨cur, h1, h2⟩ := h
  exact ⟨cur, by rw [hb.block g hB]; exact h1, h2⟩
theorem PartBan.lt {w : World} {g n k : Nat} {l : List (Int × ByteArray × ByteArray × Int)} (h : PartBan w g n k l) : g < w.heap.size := by
  obtain ⟨cur, h1, _⟩ := h
  exact (Array.getElem?_eq_some_iff.1 h1).1
theorem PartBan.cell {w : World} {g n k : Nat} {l : List (Int × ByteArray × ByteArray × Int)} (h : PartBan w g n k l) (j : Nat) (hj : j < n * 4) : ∃ u, w.cell? ⟨g, j, none⟩ = some u := by
  obtain ⟨cur, h1, h2, _⟩ := h
  refine ⟨cur[j]'(by omega), ?_⟩
  simp only [World.cell?, h1]
  simp [show j < cur.size by omega]
theorem PartBan.frozen {w : World} {g n k : Nat} {l : List (Int × ByteArray × ByteArray × Int)} (h : PartBan w g n k l) (j : Nat) : w.frozen? ⟨g, j, none⟩ = false := by
  obtain ⟨cur, h1, _⟩ := h
  simp [World.frozen?, h1]

theorem PartBan.put {w : World} {g n k : Nat} {l : List (Int × ByteArray × ByteArray × Int)} (h : PartBan w g n k l) (hk : k < n) : PartBan ((((w.setCell ⟨g, k * 4, none⟩ (.int .i64 (banAt l k).1)).setCell ⟨g, k * 4 + 1, none⟩ (.string (banAt l k).2.1)).setCell ⟨g, k * 4 + 2, none⟩ (.string (banAt l k).2.2.1)).setCell ⟨g, k * 4 + 3, none⟩ (.int .i64 (banAt l k).2.2.2)) g n (k + 1) l := by
  obtain ⟨cur, h1, h2, h3⟩ := h
  refine ⟨_, heap_set _ g (k * 4 + 3) _ _ _ _ (heap_set _ g (k * 4 + 2) _ _ _ _ (heap_set _ g (k * 4 + 1) _ _ _ _ (heap_set _ g (k * 4) _ _ _ _ h1))), by simpa using h2, ?_⟩
  intro i hi
  by_cases e : i = k
  · subst e
    exact ⟨by rw [Array.getElem?_setIfInBounds_ne (by omega), Array.getElem?_setIfInBounds_ne (by omega), Array.getElem?_setIfInBounds_ne (by omega), Array.getElem?_setIfInBounds_self_of_lt (by first | omega | (simp; omega))], by rw [Array.getElem?_setIfInBounds_ne (by omega), Array.getElem?_setIfInBounds_ne (by omega), Array.getElem?_setIfInBounds_self_of_lt (by first | omega | (simp; omega))], by rw [Array.getElem?_setIfInBounds_ne (by omega), Array.getElem?_setIfInBounds_self_of_lt (by first | omega | (simp; omega))], by rw [Array.getElem?_setIfInBounds_self_of_lt (by first | omega | (simp; omega))]⟩
  · have := h3 i (by omega)
    exact ⟨by rw [Array.getElem?_setIfInBounds_ne (by omega), Array.getElem?_setIfInBounds_ne (by omega), Array.getElem?_setIfInBounds_ne (by omega), Array.getElem?_setIfInBounds_ne (by omega)]; exact this.1, by rw [Array.getElem?_setIfInBounds_ne (by omega), Array.getElem?_setIfInBounds_ne (by omega), Array.getElem?_setIfInBounds_ne (by omega), Array.getElem?_setIfInBounds_ne (by omega)]; exact this.2.1, by rw [Array.getElem?_setIfInBounds_ne (by omega), Array.getElem?_setIfInBounds_ne (by omega), Array.getElem?_setIfInBounds_ne (by omega), Array.getElem?_setIfInBounds_ne (by omega)]; exact this.2.2.1, by rw [Array.getElem?_setIfInBounds_ne (by omega), Array.getElem?_setIfInBounds_ne (by omega), Array.getElem?_setIfInBounds_ne (by omega), Array.getElem?_setIfInBounds_ne (by omega)]; exact this.2.2.2⟩
theorem PartBan.owns {w : World} {g n : Nat} {l : List (Int × ByteArray × ByteArray × Int)} (h : PartBan w g n n l) (hl : l.length = n) (hm : n ≤ maxLen) {base : Nat} (hb : base ≤ g) : w.ownsRow base 147 4 (.slice (some ⟨g, 0, none⟩) n n) n (flatBan l) := by
  obtain ⟨cur, hg, hs, hc⟩ := h
  refine ⟨by rw [flatBan_len, hl], .inr ⟨g, n, cur, rfl, hb, hg, Nat.le_refl _, hm, hs, ?_⟩⟩
  apply List.ext_getElem?
  intro j
  rw [List.getElem?_take]
  by_cases hj : j < n * 4
  · rw [if_pos hj]
    have hf := flatBan_get l (j / 4) (by omega)
    have hcc := hc (j / 4) (by omega)
    have hr : j = (j / 4) * 4 ∨ j = (j / 4) * 4 + 1 ∨ j = (j / 4) * 4 + 2 ∨ j = (j / 4) * 4 + 3 := by omega
    rcases hr with e | e | e | e
    · have e2 := hf.1
      have e3 := hcc.1
      rw [← e] at e2 e3
      rw [e2]; simpa using e3
    · have e2 := hf.2.1
      have e3 := hcc.2.1
      rw [← e] at e2 e3
      rw [e2]; simpa using e3
    · have e2 := hf.2.2.1
      have e3 := hcc.2.2.1
      rw [← e] at e2 e3
      rw [e2]; simpa using e3
    · have e2 := hf.2.2.2
      have e3 := hcc.2.2.2
      rw [← e] at e2 e3
      rw [e2]; simpa using e3
  · rw [if_neg hj, List.getElem?_eq_none (by rw [flatBan_len]; omega)]
/-- An owned list can be read. -/
theorem ban_view {w : World} {base n cap : Nat} {oa : Option Addr} {l : List (Int × ByteArray × ByteArray × Int)} (h : w.ownsRow base 147 4 (.slice oa n cap) n (flatBan l)) : BanA w oa n l := by
  obtain ⟨hl, hv⟩ := h
  rw [flatBan_len] at hl
  refine ⟨by omega, fun i hi => ?_⟩
  rcases hv with ⟨e, h0⟩ | ⟨g, cap, cur, e, hb, hg, hn, hm, hcs, htk⟩
  · omega
  · cases e
    have hf := flatBan_get l i (by omega)
    rw [← htk] at hf
    simp only [List.getElem?_take] at hf
    rw [if_pos (by omega), if_pos (by omega), if_pos (by omega), if_pos (by omega)] at hf
    refine ⟨g, rfl, (Array.getElem?_eq_some_iff.1 hg).1, by simp only [World.cell?, hg]; simpa using hf.1, by simp only [World.cell?, hg]; simpa using hf.2.1, by simp only [World.cell?, hg]; simpa using hf.2.2.1, by simp only [World.cell?, hg]; simpa using hf.2.2.2⟩
theorem ban_len {w : World} {base n : Nat} {v : Value} {l : List (Int × ByteArray × ByteArray × Int)} (h : w.ownsRow base 147 4 v n (flatBan l)) : l.length = n := by
  have := h.1
  rw [flatBan_len] at this
  omega
theorem infoBan : (Try.prog.info? 147).map (fun i => (i.zero, i.size, i.bytes)) = some (some (.agg #[.int .i64 0, .string ⟨#[]⟩, .string ⟨#[]⟩, .int .i64 0]), 4, 48) := by kernel_rfl

/-- The measure is negative, or what is left of L. -/
def SzBanR (L : Int) (n : Nat) (l : List (Int × ByteArray × ByteArray × Int)) (w : World) (e : Ending) (w' : World) : Prop :=
  ∃ r : Int, e = .returned (.int .i64 r) ∧ r ≤ L ∧ (0 ≤ r → r + (n : Int) ≤ L ∧ n ≤ 1048576 ∧ ∀ x ∈ l, (x.2.1).size ≤ 1048576 ∧ (x.2.2.1).size ≤ 1048576) ∧ Below w.heap.size w w'
set_option maxHeartbeats 4000000 in
set_option maxRecDepth 100000 in
theorem szBanS_room (L : Int) (hL0 : 0 ≤ L) (hL1 : L ≤ 1048576) (B : Nat) (a : Option Addr) (n cap : Nat) (l : List (Int × ByteArray × ByteArray × Int)) (w : World) (harg : ArgBan w B a n l) (hB : B ≤ w.heap.size) (hn : n ≤ maxLen) (hsz : ∀ x ∈ l, (x.2.1).size ≤ maxLen ∧ (x.2.2.1).size ≤ maxLen) :
    Calls Try.prog 35 #[.slice a n cap, .int .i64 L] w fun e w' => SzBanR L n l w e w' := by
  unfold maxLen at hn
  have HS : Hid (∀ x ∈ l, (x.2.1).size ≤ maxLen ∧ (x.2.2.1).size ≤ maxLen) := hsz
  have HLN : Hid (l.length = n) := harg.1
  have HA : Hid (∀ W, Below w.heap.size w W → ArgBan W B a n l) := fun W h => harg.below (h.mono hB)
  clear hsz harg
  by_cases c1 : L - (n : Int) < 0
  · go_enter Try.func35, Try.ntmps35
    go_wp2
    go_ret
    exact ⟨-1, rfl, by omega, fun h => absurd h (by omega), Below.refl _ _⟩
  · go_enter Try.func35, Try.ntmps35
    go_wp2
    go_loopw [1, 5] (fun lf i wr => ∃ (k : Nat) (x : Int), k ≤ n ∧ i = .int .i64 (k : Int) ∧ lf = .int .i64 x ∧ 0 ≤ x ∧ x + (n : Int) ≤ L ∧ Hid (∀ x ∈ l.take k, (x.2.1).size ≤ 1048576 ∧ (x.2.2.1).size ≤ 1048576) ∧ Hid (Below w.heap.size w wr)) (fun _ i _ => n - (intOf i).toNat)
    case atStart => exact ⟨0, _, Nat.zero_le _, rfl, rfl, by omega, by omega, fun x hx => by simp at hx, Below.refl _ _⟩
    case round =>
      obtain ⟨k, x, hk, rfl, rfl, hx0, hx1, HX, HBW⟩ := hrel
      by_cases hlt : k < n
      · have hlt2 : (k : Int) < (n : Int) := by omega
        obtain ⟨b, off, rfl, hbB, r0, r1, r2, r3⟩ := (HA.out wr HBW.out).2 k hlt
        obtain ⟨y, hy⟩ : ∃ y, y = banAt l k := ⟨_, rfl⟩
        have HM : Hid (y ∈ l) := by show _ ∈ _; rw [hy]; exact banAt_mem l k (by rw [HLN.out]; exact hlt)
        have HTK : Hid (l.take (k + 1) = l.take k ++ [y]) := by show _ = _; rw [hy]; exact take_banAt l k (by rw [HLN.out]; exact hlt)
        have s1 := HS.out y HM.out
        rw [← hy] at r0 r1 r2 r3
        clear hy
        obtain ⟨y0, y1, y2, y3⟩ := y
        go_wp2_with fail
        refine (szBan_any x hx0 (by omega) y0 y1 y2 y3 _ s1.1 s1.2).mono ?_
        rintro e w1 ⟨r, rfl, hr1, hr2, bw⟩
        have HB2 : Hid (Below w.heap.size w w1) := HBW.out.trans (bw.mono HBW.out.size)
        clear r0 r1 r2 r3 bw
        by_cases d1 : r < 0
        · clear hr2
          go_wp2
          go_ret
          exact ⟨-1, rfl, by omega, fun h => absurd h (by omega), HB2.out⟩
        · have HX2 : Hid (∀ x ∈ l.take (k + 1), (x.2.1).size ≤ 1048576 ∧ (x.2.2.1).size ≤ 1048576) := fun x hx => by
            rw [HTK.out] at hx
            rcases List.mem_append.1 hx with hx | hx
            · exact HX.out x hx
            · rw [List.mem_singleton.1 hx]; exact hr2 (by omega)
          clear hr2
          go_wp2
          go_roundw
          case rel => exact ⟨k + 1, r, by omega, by go_num, rfl, by omega, by omega, HX2, HB2⟩
          case measure => simp [intOf]; omega
      · have HF : Hid (n ≤ 1048576 ∧ ∀ x ∈ l, (x.2.1).size ≤ 1048576 ∧ (x.2.2.1).size ≤ 1048576) := ⟨by omega, fun x hx => HX.out x (by rw [List.take_of_length_le (by rw [HLN.out]; omega)]; exact hx)⟩
        go_wp2
        go_ret
        exact ⟨x, rfl, by omega, fun _ => ⟨by omega, HF.out⟩, HBW.out⟩
set_option maxHeartbeats 4000000 in
set_option maxRecDepth 100000 in
theorem toBanS_any (B : Nat) (a : Option Addr) (n cap : Nat) (l : List (Int × ByteArray × ByteArray × Int)) (w : World) (harg : ArgBan w B a n l) (hB : B ≤ w.heap.size) (hn : n ≤ 1048576) :
    Calls Try.prog 41 #[.slice a n cap] w fun e w' => ∃ v, e = .returned v ∧ w'.ownsRow w.heap.size 147 4 v n (flatBan l) ∧ Below w.heap.size w w' := by
  obtain ⟨i0, hi, hz0, hz1, hz2⟩ := info_parts infoBan
  obtain ⟨M, hM⟩ : ∃ M, M = madeCells (Value.agg #[.int .i64 0, .string ⟨#[]⟩, .string ⟨#[]⟩, .int .i64 0]).cells (((n : Nat) : Int).toNat * i0.size) := ⟨_, rfl⟩
  have hmk : ∀ W : World, (Instr.makeSlice 42 (.int .i64 (n : Int)) (.int .i64 (n : Int))).run Try.prog W = .ok (.slice (some ⟨W.heap.size, 0, none⟩) n n) (W.alloc (.cells M 147)) := fun W => by
    have h := run_make (P := Try.prog) W 42 147 i0 (.agg #[.int .i64 0, .string ⟨#[]⟩, .string ⟨#[]⟩, .int .i64 0]) Try.underlying42 hi hz0 .i64 .i64 (n : Int) (n : Int) (by omega) (by omega) (by rw [hz2]; omega) (by omega)
    rw [← hM] at h
    simpa using h
  have hMs : M.size = n * 4 := by rw [hM, size_madeCells, hz1]; simp
  have HLN : Hid (l.length = n) := harg.1
  have HA : Hid (∀ W, Below w.heap.size w W → ArgBan W B a n l) := fun W h => harg.below (h.mono hB)
  clear hM harg
  have HP : Hid (PartBan (w.alloc (.cells M 147)) w.heap.size n 0 l) := ⟨M, heap_alloc_new w _, hMs, fun i h => absurd h (by omega)⟩
  go_enter Try.func41, Try.ntmps41
  go_wp2
  go_loopw [4] (fun i wr => ∃ k : Nat, k ≤ n ∧ i = .int .i64 (k : Int) ∧ Hid (PartBan wr w.heap.size n k l) ∧ Hid (Below w.heap.size w wr)) (fun i _ => n - (intOf i).toNat)
  case atStart => exact ⟨0, Nat.zero_le _, rfl, HP, (Below.refl _ _).alloc (Nat.le_refl _) _⟩
  case round =>
    obtain ⟨k, hk, rfl, hpr, HBW⟩ := hrel
    by_cases hlt : k < n
    · have hlt2 : (k : Int) < (n : Int) := by omega
      obtain ⟨b, off, rfl, hbB, r0, r1, r2, r3⟩ := (HA.out wr HBW.out).2 k hlt
      obtain ⟨y, hy⟩ : ∃ y, y = banAt l k := ⟨_, rfl⟩
      rw [← hy] at r0 r1 r2 r3
      have HY : Hid (banAt l k = y) := hy.symm
      clear hy
      obtain ⟨y0, y1, y2, y3⟩ := y
      go_wp2_with fail
      refine (toBan_any y0 y1 y2 y3 _).mono ?_
      rintro e w1 ⟨rfl, bw⟩
      have hpr1 := hpr.out.below bw hpr.out.lt
      have HB2 : Hid (Below w.heap.size w w1) := HBW.out.trans (bw.mono HBW.out.size)
      obtain ⟨u0, hu0⟩ := hpr1.cell (k * 4) (by omega)
      have f0 := hpr1.frozen (k * 4)
      obtain ⟨u1, hu1⟩ := hpr1.cell (k * 4 + 1) (by omega)
      have f1 := hpr1.frozen (k * 4 + 1)
      obtain ⟨u2, hu2⟩ := hpr1.cell (k * 4 + 2) (by omega)
      have f2 := hpr1.frozen (k * 4 + 2)
      obtain ⟨u3, hu3⟩ := hpr1.cell (k * 4 + 3) (by omega)
      have f3 := hpr1.frozen (k * 4 + 3)
      have hput := hpr1.put hlt
      rw [HY.out] at hput
      have HPUT : Hid _ := hput
      clear hput r0 r1 r2 r3 bw
      go_wp2
      go_roundw
      case rel => exact ⟨k + 1, by omega, by go_num, HPUT, (((HB2.out.setCell (Nat.le_refl _) _).setCell (Nat.le_refl _) _).setCell (Nat.le_refl _) _).setCell (Nat.le_refl _) _⟩
      case measure => simp [intOf]; omega
    · obtain rfl : k = n := by omega
      go_wp2
      go_ret
      exact ⟨_, rfl, hpr.out.owns HLN.out (by unfold maxLen; omega) (Nat.le_refl _), HBW.out⟩

set_option maxHeartbeats 4000000 in
set_option maxRecDepth 100000 in
theorem eqBanS_any (o1 o2 : Option Addr) (n c1 c2 : Nat) (l : List (Int × ByteArray × ByteArray × Int)) (w : World) (h1 : BanA w o1 n l) (h2 : BanA w o2 n l) (hn : n ≤ 2000000) :
    Calls Try.prog 49 #[.slice o1 n c1, .slice o2 n c2] w fun e w' => e = .returned (.bool true) ∧ Below w.heap.size w w' := by
  have H1 : Hid (∀ W, Below w.heap.size w W → BanA W o1 n l) := fun W h => h1.below h
  have H2 : Hid (∀ W, Below w.heap.size w W → BanA W o2 n l) := fun W h => h2.below h
  clear h1 h2
  go_enter Try.func49, Try.ntmps49
  go_wp2
  go_loopw [5] (fun i wr => ∃ k : Nat, k ≤ n ∧ i = .int .i64 (k : Int) ∧ Hid (Below w.heap.size w wr)) (fun i _ => n - (intOf i).toNat)
  case atStart => exact ⟨0, Nat.zero_le _, rfl, Below.refl _ _⟩
  case round =>
    obtain ⟨k, hk, rfl, HBW⟩ := hrel
    by_cases hlt : k < n
    · have hlt2 : (k : Int) < (n : Int) := by omega
      obtain ⟨y, hy⟩ : ∃ y, y = banAt l k := ⟨_, rfl⟩
      obtain ⟨g1, rfl, hg1, a0, a1, a2, a3⟩ := (H1.out wr HBW.out).2 k hlt
      obtain ⟨g2, rfl, hg2, b0, b1, b2, b3⟩ := (H2.out wr HBW.out).2 k hlt
      rw [← hy] at a0 b0 a1 b1 a2 b2 a3 b3
      clear hy
      obtain ⟨y0, y1, y2, y3⟩ := y
      have HA : Hid (∀ w0 w1, Below wr.heap.size wr w0 → Below w0.heap.size w0 w1 → (w1.cell? ⟨g1, k * 4, none⟩ = some (.int .i64 y0) ∧ w1.cell? ⟨g1, k * 4 + 1, none⟩ = some (.string y1) ∧ w1.cell? ⟨g1, k * 4 + 2, none⟩ = some (.string y2) ∧ w1.cell? ⟨g1, k * 4 + 3, none⟩ = some (.int .i64 y3) ∧ w1.cell? ⟨g2, k * 4, none⟩ = some (.int .i64 y0) ∧ w1.cell? ⟨g2, k * 4 + 1, none⟩ = some (.string y1) ∧ w1.cell? ⟨g2, k * 4 + 2, none⟩ = some (.string y2) ∧ w1.cell? ⟨g2, k * 4 + 3, none⟩ = some (.int .i64 y3)) ∧ Below wr.heap.size wr w1) := fun w0 w1 h h' => by
        have hx := h.trans (h'.mono h.size)
        exact ⟨⟨by rw [hx.cell (p := ⟨g1, k * 4, none⟩) hg1]; exact a0, by rw [hx.cell (p := ⟨g1, k * 4 + 1, none⟩) hg1]; exact a1, by rw [hx.cell (p := ⟨g1, k * 4 + 2, none⟩) hg1]; exact a2, by rw [hx.cell (p := ⟨g1, k * 4 + 3, none⟩) hg1]; exact a3, by rw [hx.cell (p := ⟨g2, k * 4, none⟩) hg2]; exact b0, by rw [hx.cell (p := ⟨g2, k * 4 + 1, none⟩) hg2]; exact b1, by rw [hx.cell (p := ⟨g2, k * 4 + 2, none⟩) hg2]; exact b2, by rw [hx.cell (p := ⟨g2, k * 4 + 3, none⟩) hg2]; exact b3⟩, hx⟩
      go_wp2
      go_region_held3 (fun w' => w'.cell? ⟨g1, k * 4, none⟩ = some (.int .i64 y0) ∧ w'.cell? ⟨g1, k * 4 + 1, none⟩ = some (.string y1) ∧ w'.cell? ⟨g1, k * 4 + 2, none⟩ = some (.string y2) ∧ w'.cell? ⟨g1, k * 4 + 3, none⟩ = some (.int .i64 y3) ∧ w'.cell? ⟨g2, k * 4, none⟩ = some (.int .i64 y0) ∧ w'.cell? ⟨g2, k * 4 + 1, none⟩ = some (.string y1) ∧ w'.cell? ⟨g2, k * 4 + 2, none⟩ = some (.string y2) ∧ w'.cell? ⟨g2, k * 4 + 3, none⟩ = some (.int .i64 y3)) (first | assumption | go_keep) (first | (go_at_call 80; refine (eqBan_any _ _ _ _ _).mono ?_; rintro e w1 ⟨rfl, hb1⟩; obtain ⟨hcc, hbx⟩ := HA.out _ w1 ((Below.refl _ wr).drew) hb1))
      go_wp2
      go_roundw
      case rel => exact ⟨k + 1, by omega, by go_num, HBW.out.trans (hbx.mono HBW.out.size)⟩
      case measure => simp [intOf]; omega
    · go_wp2
      go_ret
      exact ⟨rfl, HBW.out⟩

theorem flatBan_set : ∀ (l : List (Int × ByteArray × ByteArray × Int)) (i : Nat) (x : (Int × ByteArray × ByteArray × Int)), i < l.length → flatBan (l.set i x) = ((((flatBan l).set (i * 4) (.int .i64 x.1)).set (i * 4 + 1) (.string x.2.1)).set (i * 4 + 2) (.string x.2.2.1)).set (i * 4 + 3) (.int .i64 x.2.2.2)
  | [], i, x, h => by simp at h
  | f :: r, 0, x, _ => rfl
  | f :: r, i + 1, x, h => by
    have ih := flatBan_set r i x (by simpa using h)
    have e : ∀ (m : List Value) (o : Nat) (u : Value), (banEnc f ++ m).set (4 + o) u = banEnc f ++ m.set o u := fun m o u => by rw [Nat.add_comm]; rfl
    have e0 : flatBan (f :: r) = banEnc f ++ flatBan r := rfl
    have e1 : flatBan ((f :: r).set (i + 1) x) = banEnc f ++ flatBan (r.set i x) := rfl
    rw [e1, ih, e0, show (i + 1) * 4 = 4 + i * 4 by omega, show 4 + i * 4 + 1 = 4 + (i * 4 + 1) by omega, show 4 + i * 4 + 2 = 4 + (i * 4 + 2) by omega, show 4 + i * 4 + 3 = 4 + (i * 4 + 3) by omega, e, e, e, e]
/-- The list with its first k marked, from k0 on. -/
def mkBan (k0 : Nat) (l : List (Int × ByteArray × ByteArray × Int)) : Nat → List (Int × ByteArray × ByteArray × Int)
  | 0 => l
  | k + 1 => (mkBan k0 l k).set k (((k0 + 4 * k + 0 : Nat) : Int), (markOf (k0 + 4 * k + 1)), (markOf (k0 + 4 * k + 2)), ((k0 + 4 * k + 3 : Nat) : Int))
theorem mkBan_len (k0 : Nat) (l : List (Int × ByteArray × ByteArray × Int)) : ∀ k, (mkBan k0 l k).length = l.length
  | 0 => rfl
  | k + 1 => by rw [mkBan, List.length_set, mkBan_len k0 l k]
set_option maxHeartbeats 4000000 in
set_option maxRecDepth 100000 in
theorem markBanS_any (oa : Option Addr) (n cap base : Nat) (l : List (Int × ByteArray × ByteArray × Int)) (w : World) (h1 : w.ownsRow base 147 4 (.slice oa n cap) n (flatBan l)) (hb : base ≤ w.heap.size) (k0 : Nat) (hk0 : 1 ≤ k0) (hn : k0 + 4 * n ≤ 99999999) :
    Calls Try.prog 55 #[.slice oa n cap, .int .i64 (k0 : Int)] w fun e w' => e = .returned (.int .i64 ((k0 : Int) + 4 * (n : Int))) ∧ w'.ownsRow base 147 4 (.slice oa n cap) n (flatBan (mkBan k0 l n)) ∧ Below base w w' ∧ Far (.slice oa n cap) w w' := by
  have HLN : Hid (l.length = n) := ban_len h1
  have H1 : Hid (w.ownsRow base 147 4 (.slice oa n cap) n (flatBan l)) := h1
  clear h1
  go_enter Try.func55, Try.ntmps55
  go_wp2
  go_loopw [1, 5] (fun q i wr => ∃ k : Nat, k ≤ n ∧ i = .int .i64 (k : Int) ∧ q = .int .i64 ((k0 : Int) + 4 * (k : Int)) ∧ Hid (Below base w wr) ∧ Hid (wr.ownsRow base 147 4 (.slice oa n cap) n (flatBan (mkBan k0 l k))) ∧ Hid (∀ j, j < w.heap.size → (Value.slice oa n cap).ownBlock ≠ some j → wr.heap[j]? = w.heap[j]?)) (fun _ i _ => n - (intOf i).toNat)
  case atStart => exact ⟨0, Nat.zero_le _, rfl, by simp, Below.refl _ _, H1, fun j _ _ => rfl⟩
  case round =>
    obtain ⟨k, hk, rfl, rfl, HB, HO, HF⟩ := hrel
    by_cases hlt : k < n
    · have hlt2 : (k : Int) < (n : Int) := by omega
      obtain ⟨g, rfl⟩ := owns_some H1.out (by omega)
      have HG : Hid (base ≤ g) := owns_ge H1.out rfl
      have q0 := (flatBan_get (mkBan k0 l k) k (by rw [mkBan_len, HLN.out]; exact hlt)).1
      have HQ0 : Hid _ := q0
      clear q0
      have q1 := (flatBan_get (mkBan k0 l k) k (by rw [mkBan_len, HLN.out]; exact hlt)).2.1
      have HQ1 : Hid _ := q1
      clear q1
      have q2 := (flatBan_get (mkBan k0 l k) k (by rw [mkBan_len, HLN.out]; exact hlt)).2.2.1
      have HQ2 : Hid _ := q2
      clear q2
      have q3 := (flatBan_get (mkBan k0 l k) k (by rw [mkBan_len, HLN.out]; exact hlt)).2.2.2
      have HQ3 : Hid _ := q3
      clear q3
      obtain ⟨c0, f0⟩ := owns_at HO.out (k * 4) _ (by exact HQ0.out)
      have hk_0 : (k0 : Int) + 4 * (k : Int) = ((k0 + 4 * k + 0 : Nat) : Int) := by omega
      rw [hk_0]
      clear hk_0
      have HO0 : Hid ((((wr).setCell ⟨g, k * 4, none⟩ (.int .i64 ((k0 + 4 * k + 0 : Nat) : Int)))).ownsRow base 147 4 (.slice (some ⟨g, 0, none⟩) n cap) n ((flatBan (mkBan k0 l k)).set (k * 4) (.int .i64 ((k0 + 4 * k + 0 : Nat) : Int)))) := owns_put HO.out _ _
      have HB0 : Hid (Below base w ((wr).setCell ⟨g, k * 4, none⟩ (.int .i64 ((k0 + 4 * k + 0 : Nat) : Int)))) := HB.out.setCell (p := ⟨g, k * 4, none⟩) HG.out _
      have HF0 : Hid (∀ j, j < w.heap.size → (Value.slice (some ⟨g, 0, none⟩) n cap).ownBlock ≠ some j → (((wr).setCell ⟨g, k * 4, none⟩ (.int .i64 ((k0 + 4 * k + 0 : Nat) : Int)))).heap[j]? = w.heap[j]?) := fun j hj hne => (heap_setCell_other _ _ j _ (fun e => hne (by rw [e]; rfl))).trans (HF.out j hj hne)
      go_wp2_with fail
      refine (markText_int _ (k0 + 4 * k + 1) _ (by omega) (by omega) (by omega)).mono ?_
      rintro e u1 ⟨rfl, bw1⟩
      have HO1b : Hid ((u1).ownsRow base 147 4 (.slice (some ⟨g, 0, none⟩) n cap) n ((flatBan (mkBan k0 l k)).set (k * 4) (.int .i64 ((k0 + 4 * k + 0 : Nat) : Int)))) := owns_below HO0.out bw1 (fun g hg => owns_lt HO0.out hg)
      have HB1b : Hid (Below base w u1) := HB0.out.trans (bw1.mono (Nat.le_trans hb HB0.out.size))
      have HF1b : Hid (∀ j, j < w.heap.size → (Value.slice (some ⟨g, 0, none⟩) n cap).ownBlock ≠ some j → (u1).heap[j]? = w.heap[j]?) := fun j hj hne => (bw1.block j (Nat.lt_of_lt_of_le hj HB0.out.size)).trans (HF0.out j hj hne)
      clear bw1 c0 f0
      obtain ⟨c1, f1⟩ := owns_at HO1b.out (k * 4 + 1) _ (by rw [List.getElem?_set_ne (by omega)]; exact HQ1.out)
      have HO1 : Hid ((((u1).setCell ⟨g, k * 4 + 1, none⟩ (.string (markOf (k0 + 4 * k + 1))))).ownsRow base 147 4 (.slice (some ⟨g, 0, none⟩) n cap) n (((flatBan (mkBan k0 l k)).set (k * 4) (.int .i64 ((k0 + 4 * k + 0 : Nat) : Int))).set (k * 4 + 1) (.string (markOf (k0 + 4 * k + 1))))) := owns_put HO1b.out _ _
      have HB1 : Hid (Below base w ((u1).setCell ⟨g, k * 4 + 1, none⟩ (.string (markOf (k0 + 4 * k + 1))))) := HB1b.out.setCell (p := ⟨g, k * 4 + 1, none⟩) HG.out _
      have HF1 : Hid (∀ j, j < w.heap.size → (Value.slice (some ⟨g, 0, none⟩) n cap).ownBlock ≠ some j → (((u1).setCell ⟨g, k * 4 + 1, none⟩ (.string (markOf (k0 + 4 * k + 1))))).heap[j]? = w.heap[j]?) := fun j hj hne => (heap_setCell_other _ _ j _ (fun e => hne (by rw [e]; rfl))).trans (HF1b.out j hj hne)
      go_wp2_with fail
      refine (markText_int _ (k0 + 4 * k + 2) _ (by omega) (by omega) (by omega)).mono ?_
      rintro e u2 ⟨rfl, bw2⟩
      have HO2b : Hid ((u2).ownsRow base 147 4 (.slice (some ⟨g, 0, none⟩) n cap) n (((flatBan (mkBan k0 l k)).set (k * 4) (.int .i64 ((k0 + 4 * k + 0 : Nat) : Int))).set (k * 4 + 1) (.string (markOf (k0 + 4 * k + 1))))) := owns_below HO1.out bw2 (fun g hg => owns_lt HO1.out hg)
      have HB2b : Hid (Below base w u2) := HB1.out.trans (bw2.mono (Nat.le_trans hb HB1.out.size))
      have HF2b : Hid (∀ j, j < w.heap.size → (Value.slice (some ⟨g, 0, none⟩) n cap).ownBlock ≠ some j → (u2).heap[j]? = w.heap[j]?) := fun j hj hne => (bw2.block j (Nat.lt_of_lt_of_le hj HB1.out.size)).trans (HF1.out j hj hne)
      clear bw2 c1 f1
      obtain ⟨c2, f2⟩ := owns_at HO2b.out (k * 4 + 2) _ (by rw [List.getElem?_set_ne (by omega)]; rw [List.getElem?_set_ne (by omega)]; exact HQ2.out)
      have HO2 : Hid ((((u2).setCell ⟨g, k * 4 + 2, none⟩ (.string (markOf (k0 + 4 * k + 2))))).ownsRow base 147 4 (.slice (some ⟨g, 0, none⟩) n cap) n ((((flatBan (mkBan k0 l k)).set (k * 4) (.int .i64 ((k0 + 4 * k + 0 : Nat) : Int))).set (k * 4 + 1) (.string (markOf (k0 + 4 * k + 1)))).set (k * 4 + 2) (.string (markOf (k0 + 4 * k + 2))))) := owns_put HO2b.out _ _
      have HB2 : Hid (Below base w ((u2).setCell ⟨g, k * 4 + 2, none⟩ (.string (markOf (k0 + 4 * k + 2))))) := HB2b.out.setCell (p := ⟨g, k * 4 + 2, none⟩) HG.out _
      have HF2 : Hid (∀ j, j < w.heap.size → (Value.slice (some ⟨g, 0, none⟩) n cap).ownBlock ≠ some j → (((u2).setCell ⟨g, k * 4 + 2, none⟩ (.string (markOf (k0 + 4 * k + 2))))).heap[j]? = w.heap[j]?) := fun j hj hne => (heap_setCell_other _ _ j _ (fun e => hne (by rw [e]; rfl))).trans (HF2b.out j hj hne)
      obtain ⟨c3, f3⟩ := owns_at HO2.out (k * 4 + 3) _ (by rw [List.getElem?_set_ne (by omega)]; rw [List.getElem?_set_ne (by omega)]; rw [List.getElem?_set_ne (by omega)]; exact HQ3.out)
      obtain ⟨m3, hm3⟩ : ∃ m : Nat, m = k0 + 4 * k + 3 := ⟨_, rfl⟩
      have HM3 : Hid (m3 = k0 + 4 * k + 3) := hm3
      have hk_3 : (k0 : Int) + 4 * (k : Int) + 1 + 1 + 1 = (m3 : Int) := by omega
      clear hm3
      have HO3 : Hid ((((((u2).setCell ⟨g, k * 4 + 2, none⟩ (.string (markOf (k0 + 4 * k + 2))))).setCell ⟨g, k * 4 + 3, none⟩ (.int .i64 (m3 : Int)))).ownsRow base 147 4 (.slice (some ⟨g, 0, none⟩) n cap) n (((((flatBan (mkBan k0 l k)).set (k * 4) (.int .i64 ((k0 + 4 * k + 0 : Nat) : Int))).set (k * 4 + 1) (.string (markOf (k0 + 4 * k + 1)))).set (k * 4 + 2) (.string (markOf (k0 + 4 * k + 2)))).set (k * 4 + 3) (.int .i64 (m3 : Int)))) := owns_put HO2.out _ _
      have HB3 : Hid (Below base w ((((u2).setCell ⟨g, k * 4 + 2, none⟩ (.string (markOf (k0 + 4 * k + 2))))).setCell ⟨g, k * 4 + 3, none⟩ (.int .i64 (m3 : Int)))) := HB2.out.setCell (p := ⟨g, k * 4 + 3, none⟩) HG.out _
      have HF3 : Hid (∀ j, j < w.heap.size → (Value.slice (some ⟨g, 0, none⟩) n cap).ownBlock ≠ some j → (((((u2).setCell ⟨g, k * 4 + 2, none⟩ (.string (markOf (k0 + 4 * k + 2))))).setCell ⟨g, k * 4 + 3, none⟩ (.int .i64 (m3 : Int)))).heap[j]? = w.heap[j]?) := fun j hj hne => (heap_setCell_other _ _ j _ (fun e => hne (by rw [e]; rfl))).trans (HF2.out j hj hne)
      have HFIN : Hid (flatBan (mkBan k0 l (k + 1)) = ((((flatBan (mkBan k0 l k)).set (k * 4) (.int .i64 ((k0 + 4 * k + 0 : Nat) : Int))).set (k * 4 + 1) (.string (markOf (k0 + 4 * k + 1)))).set (k * 4 + 2) (.string (markOf (k0 + 4 * k + 2)))).set (k * 4 + 3) (.int .i64 (m3 : Int))) := by
        show _ = _
        rw [HM3.out, mkBan, flatBan_set _ _ _ (by rw [mkBan_len, HLN.out]; exact hlt)]
      go_wp2
      go_roundw
      case rel => exact ⟨k + 1, by omega, by go_num, by first | go_num | (congr 1; omega), HB3.out, by show World.ownsRow _ _ _ _ _ _ _; rw [HFIN.out]; exact HO3.out, HF3.out⟩
      case measure => simp [intOf]; omega
    · obtain rfl : k = n := by omega
      go_wp2
      go_ret
      exact ⟨rfl, HO.out, HB.out, HF.out⟩

set_option maxRecDepth 100000 in
/-- A list among the arguments: what it holds. -/
theorem openBanS {H : Type} {enc : TypeId × Value → H} {W : World} {fuel : Nat} {a : Option Addr} {n cap : Nat} {x : DataW H × List MemPlace} (h : DataW.trod enc Try.prog W 0 (fun _ => true) true fuel 27 [.slice a n cap] = some x) :
    ∃ l, ArgBan W W.heap.size a n l ∧ n ≤ maxLen ∧ ∀ x ∈ l, (x.2.1).size ≤ maxLen ∧ (x.2.2.1).size ≤ maxLen := by
  rcases Go.Deep.open_slice Try.underlying27 h with ⟨hcs, _⟩ | ⟨ad, len, c, m, q, Dd, Pl, hcs, _, hl, hm, hmm, _, hx⟩
  · simp at hcs
    obtain ⟨rfl, rfl, rfl⟩ := hcs
    exact ⟨[], ⟨rfl, fun i hi => absurd hi (by omega)⟩, Nat.zero_le _, fun x hx => by simp at hx⟩
  · simp at hcs
    obtain ⟨rfl, rfl, rfl⟩ := hcs
    have hm2 : m = cap := by simpa using hmm
    have ce : Try.prog.cellsOf 138 = 4 := by kernel_rfl
    have ci : Try.prog.cellsOf 3 = 1 := by kernel_rfl
    have cs : Try.prog.cellsOf 9 = 1 := by kernel_rfl
    have each : ∀ i, i < n → ∃ y : (Int × ByteArray × ByteArray × Int), (W.cell? (ad.add (i * 4 + 0)) = some (.int .i64 (y.1)) ∧ W.cell? (ad.add (i * 4 + 1)) = some (.string (y.2.1)) ∧ W.cell? (ad.add (i * 4 + 2)) = some (.string (y.2.2.1)) ∧ W.cell? (ad.add (i * 4 + 3)) = some (.int .i64 (y.2.2.2))) ∧ (y.2.1).size ≤ maxLen ∧ (y.2.2.1).size ≤ maxLen := by
      intro i hi
      obtain ⟨cs', h1, h2⟩ := hx i (by omega)
      rw [ce] at h1
      obtain ⟨_, hlen, hcell⟩ := World.cells?_some h1
      obtain ⟨xs, k, hk, hxy, _, hxl, hf⟩ := DataW.trod_struct Try.underlying138 h2
      match xs, hxl, cs', hlen with
      | [x0, x1, x2, x3], _, [v0, v1, v2, v3], _ =>
        have g0 := hf 0 _ rfl
        have g1 := hf 1 _ rfl
        have g2 := hf 2 _ rfl
        have g3 := hf 3 _ rfl
        simp [ci, cs] at g0 g1 g2 g3
        obtain ⟨s0, e0, _, _⟩ := DataW.trod_int Try.underlying3 g0
        obtain ⟨s1, e1, _, z1⟩ := DataW.trod_string Try.underlying9 g1
        obtain ⟨s2, e2, _, z2⟩ := DataW.trod_string Try.underlying9 g2
        obtain ⟨s3, e3, _, _⟩ := DataW.trod_int Try.underlying3 g3
        simp only [List.cons.injEq, and_true] at e0 e1 e2 e3
        subst e0 e1 e2 e3
        have c0 := hcell 0 (by omega)
        have c1 := hcell 1 (by omega)
        have c2 := hcell 2 (by omega)
        have c3 := hcell 3 (by omega)
        rw [Go.Deep.add_add] at c0 c1 c2 c3
        exact ⟨(s0, s1, s2, s3), ⟨by simpa using c0, by simpa using c1, by simpa using c2, by simpa using c3⟩, ⟨z1, z2⟩⟩
    obtain ⟨q, hq⟩ := Go.Deep.choose_lt each
    have hat : ∀ i, i < n → banAt ((List.range n).map q) i = q i := fun i hi => by
      unfold banAt
      rw [List.getD_eq_getElem?_getD, List.getElem?_map, List.getElem?_range hi]
      rfl
    refine ⟨(List.range n).map q, ⟨by simp, fun i hi => ?_⟩, by omega, fun x hx => ?_⟩
    · obtain ⟨c0, _⟩ := hq i hi
      obtain ⟨c3, _⟩ := hq 0 (by omega)
      have hsp : ad.spot = none := by
        have := World.cell?_spot c3.1
        simpa [Addr.add] using this
      clear c3
      obtain ⟨b, off, sp⟩ := ad
      simp only at hsp
      subst hsp
      simp only [addr_add] at c0
      rw [hat i hi]
      have hlt := World.block_lt_of_cell? W _ c0.1
      exact ⟨b, off, rfl, hlt, by simpa [Nat.add_assoc] using c0.1, by simpa [Nat.add_assoc] using c0.2.1, by simpa [Nat.add_assoc] using c0.2.2.1, by simpa [Nat.add_assoc] using c0.2.2.2⟩
    · obtain ⟨i, hi, rfl⟩ := List.mem_map.1 hx
      exact (hq i (List.mem_range.1 hi)).2

end Go.Proofs.Ytajccgffallajaa

namespace Go.Proofs.Ytajccgffallajaa
open Go.RowKit
open Go.Lib hiding intOf

def zeroK : KpD := ⟨⟨#[]⟩, [], [], 0, [], ⟨#[]⟩, 0, 0, 0⟩
def kpAt (ks : List KpD) (i : Nat) : KpD := ks.getD i zeroK
theorem kpAt_get (ks : List KpD) (i : Nat) (h : i < ks.length) : ks[i]'h = kpAt ks i := by
  unfold kpAt
  rw [List.getD_eq_getElem?_getD, List.getElem?_eq_getElem h]
  rfl
theorem kpAt_mem (ks : List KpD) (i : Nat) (h : i < ks.length) : kpAt ks i ∈ ks := by rw [← kpAt_get ks i h]; exact List.getElem_mem h
theorem kpAt_take (ks : List KpD) (i : Nat) (h : i < ks.length) : ks.take (i + 1) = ks.take i ++ [kpAt ks i] := by rw [← kpAt_get ks i h, List.take_succ_eq_append_getElem h]
/-- A store, as it is told. -/
structure ShD where
  cs : List ByteArray
  ws : List (Int × ByteArray)
  ks : List KpD
  bl : List (Int × ByteArray × ByteArray × Int)
  nx : Int
  sq : Int
end Go.Proofs.Ytajccgffallajaa

namespace Go.Proofs.Ytajccgffallajaa
open Go.RowKit
open Go.Lib hiding intOf

set_option maxHeartbeats 8000000 in
set_option maxRecDepth 100000 in
theorem toKept_any (p : ByteArray) (a1 : Option Addr) (n1 c1 : Nat) (xs : List ByteArray) (a2 : Option Addr) (n2 c2 : Nat) (ys : List ByteArray) (st : Int) (a3 : Option Addr) (n3 c3 : Nat) (fs : List (ByteArray × ByteArray)) (b : ByteArray) (t ka kq : Int) (B : Nat) (w : World) (h1 : ArgT w B a1 n1 xs) (h2 : ArgT w B a2 n2 ys) (h3 : ArgF w B a3 n3 fs) (hB : B ≤ w.heap.size) (hn1 : n1 ≤ 1048576) (hn2 : n2 ≤ 1048576) (hn3 : n3 ≤ 1048576) :
    Calls Try.prog 69 #[.agg #[.string p, .slice a1 n1 c1, .slice a2 n2 c2, .int .i64 st, .slice a3 n3 c3, .string b, .int .i64 t, .int .i64 ka, .int .i64 kq]] w fun e w' => ∃ v1 v2 v3, e = .returned (.agg #[.string p, v1, v2, .int .i64 st, v3, .string b, .int .i64 t, .int .i64 ka, .int .i64 kq]) ∧ ObjO w' w.heap.size v1 n1 xs v2 n2 ys v3 n3 fs ∧ Below w.heap.size w w' := by
  have HA1 : Hid (∀ W, Below w.heap.size w W → ArgT W B a1 n1 xs) := fun W h => h1.below (h.mono hB)
  have HA2 : Hid (∀ W, Below w.heap.size w W → ArgT W B a2 n2 ys) := fun W h => h2.below (h.mono hB)
  have HA3 : Hid (∀ W, Below w.heap.size w W → ArgF W B a3 n3 fs) := fun W h => h3.below (h.mono hB)
  have HBB : Hid (∀ W, Below w.heap.size w W → B ≤ W.heap.size) := fun W h => Nat.le_trans hB h.size
  clear h1 h2 h3
  have hb0 : Below w.heap.size w w := Below.refl _ _
  go_enter Try.func69, Try.ntmps69
  go_upto_region 1 with fail
  obtain ⟨qv1, hqv1⟩ : ∃ q, q = (w).heap.size := ⟨_, rfl⟩
  obtain ⟨w1, hW1⟩ : ∃ W, W = (w).alloc (.cells #[.string p, .slice a1 n1 c1, .slice a2 n2 c2, .int .i64 st, .slice a3 n3 c3, .string b, .int .i64 t, .int .i64 ka, .int .i64 kq] 135) := ⟨_, rfl⟩
  have hz1 : (w).heap.size = qv1 := hqv1.symm
  first | rw [← hW1, ← hqv1] | rw [← hW1]
  have hs1 : w1.heap.size = qv1 + 1 := by rw [hW1, ← hz1]; simp
  have bw : Below (w).heap.size (w) w1 := by rw [hW1]; exact (Below.refl _ _).alloc (Nat.le_refl _) _
  have hb1 : Below w.heap.size w (w1) := hb0.trans (bw.mono hb0.size)
  have HBv1_1 : Hid ((w1).heap[qv1]? = some (.cells #[.string p, .slice a1 n1 c1, .slice a2 n2 c2, .int .i64 st, .slice a3 n3 c3, .string b, .int .i64 t, .int .i64 ka, .int .i64 kq] 135)) := by show _ = _; rw [hW1, ← hz1]; exact heap_alloc_new _ _
  clear hb0 bw hW1 hz1
  obtain ⟨qv2, hqv2⟩ : ∃ q, q = qv1 + 1 := ⟨_, rfl⟩
  obtain ⟨w2, hW2⟩ : ∃ W, W = (w1).alloc (.cells #[.string ⟨#[]⟩, .slice none 0 0, .slice none 0 0, .int .i64 0, .slice none 0 0, .string ⟨#[]⟩, .int .i64 0, .int .i64 0, .int .i64 0] 145) := ⟨_, rfl⟩
  have hz2 : (w1).heap.size = qv2 := by rw [hqv2]; exact hs1
  first | rw [← hW2, ← hqv2] | rw [← hW2]
  have hs2 : w2.heap.size = qv2 + 1 := by rw [hW2, ← hz2]; simp
  have bw : Below (w1).heap.size (w1) w2 := by rw [hW2]; exact (Below.refl _ _).alloc (Nat.le_refl _) _
  have hb2 : Below w.heap.size w (w2) := hb1.trans (bw.mono hb1.size)
  have HBv1_2 : Hid ((w2).heap[qv1]? = some (.cells #[.string p, .slice a1 n1 c1, .slice a2 n2 c2, .int .i64 st, .slice a3 n3 c3, .string b, .int .i64 t, .int .i64 ka, .int .i64 kq] 135)) := blk_below HBv1_1.out bw
  have HNv1v2 : Hid (qv1 ≠ qv2) := fun e => by have h1 := (Array.getElem?_eq_some_iff.1 HBv1_1.out).1; omega
  have HBv2_2 : Hid ((w2).heap[qv2]? = some (.cells #[.string ⟨#[]⟩, .slice none 0 0, .slice none 0 0, .int .i64 0, .slice none 0 0, .string ⟨#[]⟩, .int .i64 0, .int .i64 0, .int .i64 0] 145)) := by show _ = _; rw [hW2, ← hz2]; exact heap_alloc_new _ _
  have HGv2 : Hid (w.heap.size ≤ qv2) := by show _ ≤ _; rw [← hz2]; exact hb1.size
  clear hb1 HBv1_1 bw hW2 hz2
  clear hs2 hqv2 hs1 hqv1
  go_upto_region 2 with fail
  obtain ⟨qv3, hqv3⟩ : ∃ q, q = (w2).heap.size := ⟨_, rfl⟩
  obtain ⟨w3, hW3⟩ : ∃ W, W = (w2).alloc (.cells #[.string ⟨#[]⟩, .slice none 0 0, .slice none 0 0, .int .i64 0, .slice none 0 0, .string ⟨#[]⟩, .int .i64 0, .int .i64 0, .int .i64 0] 145) := ⟨_, rfl⟩
  have hz3 : (w2).heap.size = qv3 := hqv3.symm
  first | rw [← hW3, ← hqv3] | rw [← hW3]
  have hs3 : w3.heap.size = qv3 + 1 := by rw [hW3, ← hz3]; simp
  have bw : Below (w2).heap.size (w2) w3 := by rw [hW3]; exact (Below.refl _ _).alloc (Nat.le_refl _) _
  have hb3 : Below w.heap.size w (w3) := hb2.trans (bw.mono hb2.size)
  have HBv1_3 : Hid ((w3).heap[qv1]? = some (.cells #[.string p, .slice a1 n1 c1, .slice a2 n2 c2, .int .i64 st, .slice a3 n3 c3, .string b, .int .i64 t, .int .i64 ka, .int .i64 kq] 135)) := blk_below HBv1_2.out bw
  have HBv2_3 : Hid ((w3).heap[qv2]? = some (.cells #[.string ⟨#[]⟩, .slice none 0 0, .slice none 0 0, .int .i64 0, .slice none 0 0, .string ⟨#[]⟩, .int .i64 0, .int .i64 0, .int .i64 0] 145)) := blk_below HBv2_2.out bw
  have HNv1v3 : Hid (qv1 ≠ qv3) := fun e => by have h1 := (Array.getElem?_eq_some_iff.1 HBv1_2.out).1; omega
  have HNv2v3 : Hid (qv2 ≠ qv3) := fun e => by have h1 := (Array.getElem?_eq_some_iff.1 HBv2_2.out).1; omega
  have HBv3_3 : Hid ((w3).heap[qv3]? = some (.cells #[.string ⟨#[]⟩, .slice none 0 0, .slice none 0 0, .int .i64 0, .slice none 0 0, .string ⟨#[]⟩, .int .i64 0, .int .i64 0, .int .i64 0] 145)) := by show _ = _; rw [hW3, ← hz3]; exact heap_alloc_new _ _
  have HGv3 : Hid (w.heap.size ≤ qv3) := by show _ ≤ _; rw [← hz3]; exact hb2.size
  clear hb2 HBv1_2 HBv2_2 bw hW3 hz3
  clear hs3 hqv3
  have cv1_0 : (w3).cell? ⟨qv1, 0, none⟩ = some (.string p) := (cell_of HBv1_3.out 0).trans rfl
  have cv1_1 : (w3).cell? ⟨qv1, 1, none⟩ = some (.slice a1 n1 c1) := (cell_of HBv1_3.out 1).trans rfl
  have cv1_2 : (w3).cell? ⟨qv1, 2, none⟩ = some (.slice a2 n2 c2) := (cell_of HBv1_3.out 2).trans rfl
  have cv1_3 : (w3).cell? ⟨qv1, 3, none⟩ = some (.int .i64 st) := (cell_of HBv1_3.out 3).trans rfl
  have cv1_4 : (w3).cell? ⟨qv1, 4, none⟩ = some (.slice a3 n3 c3) := (cell_of HBv1_3.out 4).trans rfl
  have cv1_5 : (w3).cell? ⟨qv1, 5, none⟩ = some (.string b) := (cell_of HBv1_3.out 5).trans rfl
  have cv1_6 : (w3).cell? ⟨qv1, 6, none⟩ = some (.int .i64 t) := (cell_of HBv1_3.out 6).trans rfl
  go_wp2_with fail
  refine (toObj_any p a1 n1 c1 xs a2 n2 c2 ys st a3 n3 c3 fs b t B _ (HA1.out _ hb3) (HA2.out _ hb3) (HA3.out _ hb3) (HBB.out _ hb3) hn1 hn2 hn3).mono ?_
  rintro e w4 ⟨vv1, vv2, vv3, rfl, ⟨ownN, ownV, ownF, neX⟩, bw⟩
  obtain ⟨oN, pN, rfl⟩ := slice_of_owns ownN
  obtain ⟨oV, pV, rfl⟩ := slice_of_owns ownV
  obtain ⟨oF, pF, rfl⟩ := slice_of_owns ownF
  have APX : Hid (∀ j, (Value.slice oN n1 pN).ownBlock = some j → (Value.slice oV n2 pV).ownBlock ≠ some j) := neX
  clear neX
  have hb4 : Below w.heap.size w (w4) := hb3.trans (bw.mono hb3.size)
  have HBv1_4 : Hid ((w4).heap[qv1]? = some (.cells #[.string p, .slice a1 n1 c1, .slice a2 n2 c2, .int .i64 st, .slice a3 n3 c3, .string b, .int .i64 t, .int .i64 ka, .int .i64 kq] 135)) := blk_below HBv1_3.out bw
  have HBv2_4 : Hid ((w4).heap[qv2]? = some (.cells #[.string ⟨#[]⟩, .slice none 0 0, .slice none 0 0, .int .i64 0, .slice none 0 0, .string ⟨#[]⟩, .int .i64 0, .int .i64 0, .int .i64 0] 145)) := blk_below HBv2_3.out bw
  have HBv3_4 : Hid ((w4).heap[qv3]? = some (.cells #[.string ⟨#[]⟩, .slice none 0 0, .slice none 0 0, .int .i64 0, .slice none 0 0, .string ⟨#[]⟩, .int .i64 0, .int .i64 0, .int .i64 0] 145)) := blk_below HBv3_3.out bw
  have HON_4 : Hid ((w4).ownsRow w.heap.size 9 1 (.slice oN n1 pN) n1 (xs.map Value.string)) := owns_wide ownN hb3.size
  clear ownN
  have HOV_4 : Hid ((w4).ownsRow w.heap.size 9 1 (.slice oV n2 pV) n2 (ys.map Value.string)) := owns_wide ownV hb3.size
  clear ownV
  have HOF_4 : Hid ((w4).ownsRow w.heap.size 167 2 (.slice oF n3 pF) n3 (flatF fs)) := owns_wide ownF hb3.size
  clear ownF
  clear hb3 HBv1_3 HBv2_3 HBv3_3 bw
  clear cv1_0 cv1_1 cv1_2 cv1_3 cv1_4 cv1_5 cv1_6
  have cv3_0 : (w4).cell? ⟨qv3, 0, none⟩ = some (.string ⟨#[]⟩) := (cell_of HBv3_4.out 0).trans rfl
  have fcv3_0 : (w4).frozen? ⟨qv3, 0, none⟩ = false := frozen_of HBv3_4.out 0
  have cv3_1 : (w4).cell? ⟨qv3, 1, none⟩ = some (.slice none 0 0) := (cell_of HBv3_4.out 1).trans rfl
  have fcv3_1 : (w4).frozen? ⟨qv3, 1, none⟩ = false := frozen_of HBv3_4.out 1
  have cv3_2 : (w4).cell? ⟨qv3, 2, none⟩ = some (.slice none 0 0) := (cell_of HBv3_4.out 2).trans rfl
  have fcv3_2 : (w4).frozen? ⟨qv3, 2, none⟩ = false := frozen_of HBv3_4.out 2
  have cv3_3 : (w4).cell? ⟨qv3, 3, none⟩ = some (.int .i64 0) := (cell_of HBv3_4.out 3).trans rfl
  have fcv3_3 : (w4).frozen? ⟨qv3, 3, none⟩ = false := frozen_of HBv3_4.out 3
  have cv3_4 : (w4).cell? ⟨qv3, 4, none⟩ = some (.slice none 0 0) := (cell_of HBv3_4.out 4).trans rfl
  have fcv3_4 : (w4).frozen? ⟨qv3, 4, none⟩ = false := frozen_of HBv3_4.out 4
  have cv3_5 : (w4).cell? ⟨qv3, 5, none⟩ = some (.string ⟨#[]⟩) := (cell_of HBv3_4.out 5).trans rfl
  have fcv3_5 : (w4).frozen? ⟨qv3, 5, none⟩ = false := frozen_of HBv3_4.out 5
  have cv3_6 : (w4).cell? ⟨qv3, 6, none⟩ = some (.int .i64 0) := (cell_of HBv3_4.out 6).trans rfl
  have fcv3_6 : (w4).frozen? ⟨qv3, 6, none⟩ = false := frozen_of HBv3_4.out 6
  go_upto_region 3 with fail
  obtain ⟨w5, hW5⟩ : ∃ W, W = (w4).setCell ⟨qv3, 0, none⟩ (.string p) := ⟨_, rfl⟩
  rw [← hW5]
  have hb5 : Below w.heap.size w (w5) := by rw [hW5]; exact (hb4.setCell (p := ⟨qv3, 0, none⟩) HGv3.out _)
  have HON_5 : Hid ((w5).ownsRow w.heap.size 9 1 (.slice oN n1 pN) n1 (xs.map Value.string)) := by show World.ownsRow _ _ _ _ _ _ _; rw [hW5]; exact owns_same HON_4.out (fun g hg => heap_setCell_other _ _ g _ (own_ne HON_4.out HBv3_4.out (by decide) g hg))
  have HOV_5 : Hid ((w5).ownsRow w.heap.size 9 1 (.slice oV n2 pV) n2 (ys.map Value.string)) := by show World.ownsRow _ _ _ _ _ _ _; rw [hW5]; exact owns_same HOV_4.out (fun g hg => heap_setCell_other _ _ g _ (own_ne HOV_4.out HBv3_4.out (by decide) g hg))
  have HOF_5 : Hid ((w5).ownsRow w.heap.size 167 2 (.slice oF n3 pF) n3 (flatF fs)) := by show World.ownsRow _ _ _ _ _ _ _; rw [hW5]; exact owns_same HOF_4.out (fun g hg => heap_setCell_other _ _ g _ (own_ne HOF_4.out HBv3_4.out (by decide) g hg))
  have HBv1_5 : Hid ((w5).heap[qv1]? = some (.cells #[.string p, .slice a1 n1 c1, .slice a2 n2 c2, .int .i64 st, .slice a3 n3 c3, .string b, .int .i64 t, .int .i64 ka, .int .i64 kq] 135)) := by show _ = _; rw [hW5, heap_setCell_other _ _ _ _ HNv1v3.out]; exact HBv1_4.out
  have HBv2_5 : Hid ((w5).heap[qv2]? = some (.cells #[.string ⟨#[]⟩, .slice none 0 0, .slice none 0 0, .int .i64 0, .slice none 0 0, .string ⟨#[]⟩, .int .i64 0, .int .i64 0, .int .i64 0] 145)) := by show _ = _; rw [hW5, heap_setCell_other _ _ _ _ HNv2v3.out]; exact HBv2_4.out
  have HBv3_5 : Hid ((w5).heap[qv3]? = some (.cells #[.string p, .slice none 0 0, .slice none 0 0, .int .i64 0, .slice none 0 0, .string ⟨#[]⟩, .int .i64 0, .int .i64 0, .int .i64 0] 145)) := by show _ = _; rw [hW5]; have h := heap_set _ _ 0 _ _ _ (.string p) HBv3_4.out; simpa using h
  clear hb4 HON_4 HOV_4 HOF_4 HBv1_4 HBv2_4 HBv3_4 hW5
  obtain ⟨w6, hW6⟩ : ∃ W, W = (w5).setCell ⟨qv3, 1, none⟩ (.slice oN n1 pN) := ⟨_, rfl⟩
  rw [← hW6]
  have hb6 : Below w.heap.size w (w6) := by rw [hW6]; exact (hb5.setCell (p := ⟨qv3, 1, none⟩) HGv3.out _)
  have HON_6 : Hid ((w6).ownsRow w.heap.size 9 1 (.slice oN n1 pN) n1 (xs.map Value.string)) := by show World.ownsRow _ _ _ _ _ _ _; rw [hW6]; exact owns_same HON_5.out (fun g hg => heap_setCell_other _ _ g _ (own_ne HON_5.out HBv3_5.out (by decide) g hg))
  have HOV_6 : Hid ((w6).ownsRow w.heap.size 9 1 (.slice oV n2 pV) n2 (ys.map Value.string)) := by show World.ownsRow _ _ _ _ _ _ _; rw [hW6]; exact owns_same HOV_5.out (fun g hg => heap_setCell_other _ _ g _ (own_ne HOV_5.out HBv3_5.out (by decide) g hg))
  have HOF_6 : Hid ((w6).ownsRow w.heap.size 167 2 (.slice oF n3 pF) n3 (flatF fs)) := by show World.ownsRow _ _ _ _ _ _ _; rw [hW6]; exact owns_same HOF_5.out (fun g hg => heap_setCell_other _ _ g _ (own_ne HOF_5.out HBv3_5.out (by decide) g hg))
  have HBv1_6 : Hid ((w6).heap[qv1]? = some (.cells #[.string p, .slice a1 n1 c1, .slice a2 n2 c2, .int .i64 st, .slice a3 n3 c3, .string b, .int .i64 t, .int .i64 ka, .int .i64 kq] 135)) := by show _ = _; rw [hW6, heap_setCell_other _ _ _ _ HNv1v3.out]; exact HBv1_5.out
  have HBv2_6 : Hid ((w6).heap[qv2]? = some (.cells #[.string ⟨#[]⟩, .slice none 0 0, .slice none 0 0, .int .i64 0, .slice none 0 0, .string ⟨#[]⟩, .int .i64 0, .int .i64 0, .int .i64 0] 145)) := by show _ = _; rw [hW6, heap_setCell_other _ _ _ _ HNv2v3.out]; exact HBv2_5.out
  have HBv3_6 : Hid ((w6).heap[qv3]? = some (.cells #[.string p, .slice oN n1 pN, .slice none 0 0, .int .i64 0, .slice none 0 0, .string ⟨#[]⟩, .int .i64 0, .int .i64 0, .int .i64 0] 145)) := by show _ = _; rw [hW6]; have h := heap_set _ _ 1 _ _ _ (.slice oN n1 pN) HBv3_5.out; simpa using h
  clear hb5 HON_5 HOV_5 HOF_5 HBv1_5 HBv2_5 HBv3_5 hW6
  obtain ⟨w7, hW7⟩ : ∃ W, W = (w6).setCell ⟨qv3, 2, none⟩ (.slice oV n2 pV) := ⟨_, rfl⟩
  rw [← hW7]
  have hb7 : Below w.heap.size w (w7) := by rw [hW7]; exact (hb6.setCell (p := ⟨qv3, 2, none⟩) HGv3.out _)
  have HON_7 : Hid ((w7).ownsRow w.heap.size 9 1 (.slice oN n1 pN) n1 (xs.map Value.string)) := by show World.ownsRow _ _ _ _ _ _ _; rw [hW7]; exact owns_same HON_6.out (fun g hg => heap_setCell_other _ _ g _ (own_ne HON_6.out HBv3_6.out (by decide) g hg))
  have HOV_7 : Hid ((w7).ownsRow w.heap.size 9 1 (.slice oV n2 pV) n2 (ys.map Value.string)) := by show World.ownsRow _ _ _ _ _ _ _; rw [hW7]; exact owns_same HOV_6.out (fun g hg => heap_setCell_other _ _ g _ (own_ne HOV_6.out HBv3_6.out (by decide) g hg))
  have HOF_7 : Hid ((w7).ownsRow w.heap.size 167 2 (.slice oF n3 pF) n3 (flatF fs)) := by show World.ownsRow _ _ _ _ _ _ _; rw [hW7]; exact owns_same HOF_6.out (fun g hg => heap_setCell_other _ _ g _ (own_ne HOF_6.out HBv3_6.out (by decide) g hg))
  have HBv1_7 : Hid ((w7).heap[qv1]? = some (.cells #[.string p, .slice a1 n1 c1, .slice a2 n2 c2, .int .i64 st, .slice a3 n3 c3, .string b, .int .i64 t, .int .i64 ka, .int .i64 kq] 135)) := by show _ = _; rw [hW7, heap_setCell_other _ _ _ _ HNv1v3.out]; exact HBv1_6.out
  have HBv2_7 : Hid ((w7).heap[qv2]? = some (.cells #[.string ⟨#[]⟩, .slice none 0 0, .slice none 0 0, .int .i64 0, .slice none 0 0, .string ⟨#[]⟩, .int .i64 0, .int .i64 0, .int .i64 0] 145)) := by show _ = _; rw [hW7, heap_setCell_other _ _ _ _ HNv2v3.out]; exact HBv2_6.out
  have HBv3_7 : Hid ((w7).heap[qv3]? = some (.cells #[.string p, .slice oN n1 pN, .slice oV n2 pV, .int .i64 0, .slice none 0 0, .string ⟨#[]⟩, .int .i64 0, .int .i64 0, .int .i64 0] 145)) := by show _ = _; rw [hW7]; have h := heap_set _ _ 2 _ _ _ (.slice oV n2 pV) HBv3_6.out; simpa using h
  clear hb6 HON_6 HOV_6 HOF_6 HBv1_6 HBv2_6 HBv3_6 hW7
  obtain ⟨w8, hW8⟩ : ∃ W, W = (w7).setCell ⟨qv3, 3, none⟩ (.int .i64 st) := ⟨_, rfl⟩
  rw [← hW8]
  have hb8 : Below w.heap.size w (w8) := by rw [hW8]; exact (hb7.setCell (p := ⟨qv3, 3, none⟩) HGv3.out _)
  have HON_8 : Hid ((w8).ownsRow w.heap.size 9 1 (.slice oN n1 pN) n1 (xs.map Value.string)) := by show World.ownsRow _ _ _ _ _ _ _; rw [hW8]; exact owns_same HON_7.out (fun g hg => heap_setCell_other _ _ g _ (own_ne HON_7.out HBv3_7.out (by decide) g hg))
  have HOV_8 : Hid ((w8).ownsRow w.heap.size 9 1 (.slice oV n2 pV) n2 (ys.map Value.string)) := by show World.ownsRow _ _ _ _ _ _ _; rw [hW8]; exact owns_same HOV_7.out (fun g hg => heap_setCell_other _ _ g _ (own_ne HOV_7.out HBv3_7.out (by decide) g hg))
  have HOF_8 : Hid ((w8).ownsRow w.heap.size 167 2 (.slice oF n3 pF) n3 (flatF fs)) := by show World.ownsRow _ _ _ _ _ _ _; rw [hW8]; exact owns_same HOF_7.out (fun g hg => heap_setCell_other _ _ g _ (own_ne HOF_7.out HBv3_7.out (by decide) g hg))
  have HBv1_8 : Hid ((w8).heap[qv1]? = some (.cells #[.string p, .slice a1 n1 c1, .slice a2 n2 c2, .int .i64 st, .slice a3 n3 c3, .string b, .int .i64 t, .int .i64 ka, .int .i64 kq] 135)) := by show _ = _; rw [hW8, heap_setCell_other _ _ _ _ HNv1v3.out]; exact HBv1_7.out
  have HBv2_8 : Hid ((w8).heap[qv2]? = some (.cells #[.string ⟨#[]⟩, .slice none 0 0, .slice none 0 0, .int .i64 0, .slice none 0 0, .string ⟨#[]⟩, .int .i64 0, .int .i64 0, .int .i64 0] 145)) := by show _ = _; rw [hW8, heap_setCell_other _ _ _ _ HNv2v3.out]; exact HBv2_7.out
  have HBv3_8 : Hid ((w8).heap[qv3]? = some (.cells #[.string p, .slice oN n1 pN, .slice oV n2 pV, .int .i64 st, .slice none 0 0, .string ⟨#[]⟩, .int .i64 0, .int .i64 0, .int .i64 0] 145)) := by show _ = _; rw [hW8]; have h := heap_set _ _ 3 _ _ _ (.int .i64 st) HBv3_7.out; simpa using h
  clear hb7 HON_7 HOV_7 HOF_7 HBv1_7 HBv2_7 HBv3_7 hW8
  obtain ⟨w9, hW9⟩ : ∃ W, W = (w8).setCell ⟨qv3, 4, none⟩ (.slice oF n3 pF) := ⟨_, rfl⟩
  rw [← hW9]
  have hb9 : Below w.heap.size w (w9) := by rw [hW9]; exact (hb8.setCell (p := ⟨qv3, 4, none⟩) HGv3.out _)
  have HON_9 : Hid ((w9).ownsRow w.heap.size 9 1 (.slice oN n1 pN) n1 (xs.map Value.string)) := by show World.ownsRow _ _ _ _ _ _ _; rw [hW9]; exact owns_same HON_8.out (fun g hg => heap_setCell_other _ _ g _ (own_ne HON_8.out HBv3_8.out (by decide) g hg))
  have HOV_9 : Hid ((w9).ownsRow w.heap.size 9 1 (.slice oV n2 pV) n2 (ys.map Value.string)) := by show World.ownsRow _ _ _ _ _ _ _; rw [hW9]; exact owns_same HOV_8.out (fun g hg => heap_setCell_other _ _ g _ (own_ne HOV_8.out HBv3_8.out (by decide) g hg))
  have HOF_9 : Hid ((w9).ownsRow w.heap.size 167 2 (.slice oF n3 pF) n3 (flatF fs)) := by show World.ownsRow _ _ _ _ _ _ _; rw [hW9]; exact owns_same HOF_8.out (fun g hg => heap_setCell_other _ _ g _ (own_ne HOF_8.out HBv3_8.out (by decide) g hg))
  have HBv1_9 : Hid ((w9).heap[qv1]? = some (.cells #[.string p, .slice a1 n1 c1, .slice a2 n2 c2, .int .i64 st, .slice a3 n3 c3, .string b, .int .i64 t, .int .i64 ka, .int .i64 kq] 135)) := by show _ = _; rw [hW9, heap_setCell_other _ _ _ _ HNv1v3.out]; exact HBv1_8.out
  have HBv2_9 : Hid ((w9).heap[qv2]? = some (.cells #[.string ⟨#[]⟩, .slice none 0 0, .slice none 0 0, .int .i64 0, .slice none 0 0, .string ⟨#[]⟩, .int .i64 0, .int .i64 0, .int .i64 0] 145)) := by show _ = _; rw [hW9, heap_setCell_other _ _ _ _ HNv2v3.out]; exact HBv2_8.out
  have HBv3_9 : Hid ((w9).heap[qv3]? = some (.cells #[.string p, .slice oN n1 pN, .slice oV n2 pV, .int .i64 st, .slice oF n3 pF, .string ⟨#[]⟩, .int .i64 0, .int .i64 0, .int .i64 0] 145)) := by show _ = _; rw [hW9]; have h := heap_set _ _ 4 _ _ _ (.slice oF n3 pF) HBv3_8.out; simpa using h
  clear hb8 HON_8 HOV_8 HOF_8 HBv1_8 HBv2_8 HBv3_8 hW9
  obtain ⟨w10, hW10⟩ : ∃ W, W = (w9).setCell ⟨qv3, 5, none⟩ (.string b) := ⟨_, rfl⟩
  rw [← hW10]
  have hb10 : Below w.heap.size w (w10) := by rw [hW10]; exact (hb9.setCell (p := ⟨qv3, 5, none⟩) HGv3.out _)
  have HON_10 : Hid ((w10).ownsRow w.heap.size 9 1 (.slice oN n1 pN) n1 (xs.map Value.string)) := by show World.ownsRow _ _ _ _ _ _ _; rw [hW10]; exact owns_same HON_9.out (fun g hg => heap_setCell_other _ _ g _ (own_ne HON_9.out HBv3_9.out (by decide) g hg))
  have HOV_10 : Hid ((w10).ownsRow w.heap.size 9 1 (.slice oV n2 pV) n2 (ys.map Value.string)) := by show World.ownsRow _ _ _ _ _ _ _; rw [hW10]; exact owns_same HOV_9.out (fun g hg => heap_setCell_other _ _ g _ (own_ne HOV_9.out HBv3_9.out (by decide) g hg))
  have HOF_10 : Hid ((w10).ownsRow w.heap.size 167 2 (.slice oF n3 pF) n3 (flatF fs)) := by show World.ownsRow _ _ _ _ _ _ _; rw [hW10]; exact owns_same HOF_9.out (fun g hg => heap_setCell_other _ _ g _ (own_ne HOF_9.out HBv3_9.out (by decide) g hg))
  have HBv1_10 : Hid ((w10).heap[qv1]? = some (.cells #[.string p, .slice a1 n1 c1, .slice a2 n2 c2, .int .i64 st, .slice a3 n3 c3, .string b, .int .i64 t, .int .i64 ka, .int .i64 kq] 135)) := by show _ = _; rw [hW10, heap_setCell_other _ _ _ _ HNv1v3.out]; exact HBv1_9.out
  have HBv2_10 : Hid ((w10).heap[qv2]? = some (.cells #[.string ⟨#[]⟩, .slice none 0 0, .slice none 0 0, .int .i64 0, .slice none 0 0, .string ⟨#[]⟩, .int .i64 0, .int .i64 0, .int .i64 0] 145)) := by show _ = _; rw [hW10, heap_setCell_other _ _ _ _ HNv2v3.out]; exact HBv2_9.out
  have HBv3_10 : Hid ((w10).heap[qv3]? = some (.cells #[.string p, .slice oN n1 pN, .slice oV n2 pV, .int .i64 st, .slice oF n3 pF, .string b, .int .i64 0, .int .i64 0, .int .i64 0] 145)) := by show _ = _; rw [hW10]; have h := heap_set _ _ 5 _ _ _ (.string b) HBv3_9.out; simpa using h
  clear hb9 HON_9 HOV_9 HOF_9 HBv1_9 HBv2_9 HBv3_9 hW10
  obtain ⟨w11, hW11⟩ : ∃ W, W = (w10).setCell ⟨qv3, 6, none⟩ (.int .i64 t) := ⟨_, rfl⟩
  rw [← hW11]
  have hb11 : Below w.heap.size w (w11) := by rw [hW11]; exact (hb10.setCell (p := ⟨qv3, 6, none⟩) HGv3.out _)
  have HON_11 : Hid ((w11).ownsRow w.heap.size 9 1 (.slice oN n1 pN) n1 (xs.map Value.string)) := by show World.ownsRow _ _ _ _ _ _ _; rw [hW11]; exact owns_same HON_10.out (fun g hg => heap_setCell_other _ _ g _ (own_ne HON_10.out HBv3_10.out (by decide) g hg))
  have HOV_11 : Hid ((w11).ownsRow w.heap.size 9 1 (.slice oV n2 pV) n2 (ys.map Value.string)) := by show World.ownsRow _ _ _ _ _ _ _; rw [hW11]; exact owns_same HOV_10.out (fun g hg => heap_setCell_other _ _ g _ (own_ne HOV_10.out HBv3_10.out (by decide) g hg))
  have HOF_11 : Hid ((w11).ownsRow w.heap.size 167 2 (.slice oF n3 pF) n3 (flatF fs)) := by show World.ownsRow _ _ _ _ _ _ _; rw [hW11]; exact owns_same HOF_10.out (fun g hg => heap_setCell_other _ _ g _ (own_ne HOF_10.out HBv3_10.out (by decide) g hg))
  have HBv1_11 : Hid ((w11).heap[qv1]? = some (.cells #[.string p, .slice a1 n1 c1, .slice a2 n2 c2, .int .i64 st, .slice a3 n3 c3, .string b, .int .i64 t, .int .i64 ka, .int .i64 kq] 135)) := by show _ = _; rw [hW11, heap_setCell_other _ _ _ _ HNv1v3.out]; exact HBv1_10.out
  have HBv2_11 : Hid ((w11).heap[qv2]? = some (.cells #[.string ⟨#[]⟩, .slice none 0 0, .slice none 0 0, .int .i64 0, .slice none 0 0, .string ⟨#[]⟩, .int .i64 0, .int .i64 0, .int .i64 0] 145)) := by show _ = _; rw [hW11, heap_setCell_other _ _ _ _ HNv2v3.out]; exact HBv2_10.out
  have HBv3_11 : Hid ((w11).heap[qv3]? = some (.cells #[.string p, .slice oN n1 pN, .slice oV n2 pV, .int .i64 st, .slice oF n3 pF, .string b, .int .i64 t, .int .i64 0, .int .i64 0] 145)) := by show _ = _; rw [hW11]; have h := heap_set _ _ 6 _ _ _ (.int .i64 t) HBv3_10.out; simpa using h
  clear hb10 HON_10 HOV_10 HOF_10 HBv1_10 HBv2_10 HBv3_10 hW11
  clear cv3_0 fcv3_0 cv3_1 fcv3_1 cv3_2 fcv3_2 cv3_3 fcv3_3 cv3_4 fcv3_4 cv3_5 fcv3_5 cv3_6 fcv3_6
  have cv1_7 : (w11).cell? ⟨qv1, 7, none⟩ = some (.int .i64 ka) := (cell_of HBv1_11.out 7).trans rfl
  have cv3_7 : (w11).cell? ⟨qv3, 7, none⟩ = some (.int .i64 0) := (cell_of HBv3_11.out 7).trans rfl
  have fcv3_7 : (w11).frozen? ⟨qv3, 7, none⟩ = false := frozen_of HBv3_11.out 7
  go_upto_region 4 with fail
  obtain ⟨w12, hW12⟩ : ∃ W, W = (w11).setCell ⟨qv3, 7, none⟩ (.int .i64 ka) := ⟨_, rfl⟩
  rw [← hW12]
  have hb12 : Below w.heap.size w (w12) := by rw [hW12]; exact (hb11.setCell (p := ⟨qv3, 7, none⟩) HGv3.out _)
  have HON_12 : Hid ((w12).ownsRow w.heap.size 9 1 (.slice oN n1 pN) n1 (xs.map Value.string)) := by show World.ownsRow _ _ _ _ _ _ _; rw [hW12]; exact owns_same HON_11.out (fun g hg => heap_setCell_other _ _ g _ (own_ne HON_11.out HBv3_11.out (by decide) g hg))
  have HOV_12 : Hid ((w12).ownsRow w.heap.size 9 1 (.slice oV n2 pV) n2 (ys.map Value.string)) := by show World.ownsRow _ _ _ _ _ _ _; rw [hW12]; exact owns_same HOV_11.out (fun g hg => heap_setCell_other _ _ g _ (own_ne HOV_11.out HBv3_11.out (by decide) g hg))
  have HOF_12 : Hid ((w12).ownsRow w.heap.size 167 2 (.slice oF n3 pF) n3 (flatF fs)) := by show World.ownsRow _ _ _ _ _ _ _; rw [hW12]; exact owns_same HOF_11.out (fun g hg => heap_setCell_other _ _ g _ (own_ne HOF_11.out HBv3_11.out (by decide) g hg))
  have HBv1_12 : Hid ((w12).heap[qv1]? = some (.cells #[.string p, .slice a1 n1 c1, .slice a2 n2 c2, .int .i64 st, .slice a3 n3 c3, .string b, .int .i64 t, .int .i64 ka, .int .i64 kq] 135)) := by show _ = _; rw [hW12, heap_setCell_other _ _ _ _ HNv1v3.out]; exact HBv1_11.out
  have HBv2_12 : Hid ((w12).heap[qv2]? = some (.cells #[.string ⟨#[]⟩, .slice none 0 0, .slice none 0 0, .int .i64 0, .slice none 0 0, .string ⟨#[]⟩, .int .i64 0, .int .i64 0, .int .i64 0] 145)) := by show _ = _; rw [hW12, heap_setCell_other _ _ _ _ HNv2v3.out]; exact HBv2_11.out
  have HBv3_12 : Hid ((w12).heap[qv3]? = some (.cells #[.string p, .slice oN n1 pN, .slice oV n2 pV, .int .i64 st, .slice oF n3 pF, .string b, .int .i64 t, .int .i64 ka, .int .i64 0] 145)) := by show _ = _; rw [hW12]; have h := heap_set _ _ 7 _ _ _ (.int .i64 ka) HBv3_11.out; simpa using h
  clear hb11 HON_11 HOV_11 HOF_11 HBv1_11 HBv2_11 HBv3_11 hW12
  clear cv1_7 cv3_7 fcv3_7
  have cv1_8 : (w12).cell? ⟨qv1, 8, none⟩ = some (.int .i64 kq) := (cell_of HBv1_12.out 8).trans rfl
  have cv3_8 : (w12).cell? ⟨qv3, 8, none⟩ = some (.int .i64 0) := (cell_of HBv3_12.out 8).trans rfl
  have fcv3_8 : (w12).frozen? ⟨qv3, 8, none⟩ = false := frozen_of HBv3_12.out 8
  go_upto_region 5 with fail
  obtain ⟨w13, hW13⟩ : ∃ W, W = (w12).setCell ⟨qv3, 8, none⟩ (.int .i64 kq) := ⟨_, rfl⟩
  rw [← hW13]
  have hb13 : Below w.heap.size w (w13) := by rw [hW13]; exact (hb12.setCell (p := ⟨qv3, 8, none⟩) HGv3.out _)
  have HON_13 : Hid ((w13).ownsRow w.heap.size 9 1 (.slice oN n1 pN) n1 (xs.map Value.string)) := by show World.ownsRow _ _ _ _ _ _ _; rw [hW13]; exact owns_same HON_12.out (fun g hg => heap_setCell_other _ _ g _ (own_ne HON_12.out HBv3_12.out (by decide) g hg))
  have HOV_13 : Hid ((w13).ownsRow w.heap.size 9 1 (.slice oV n2 pV) n2 (ys.map Value.string)) := by show World.ownsRow _ _ _ _ _ _ _; rw [hW13]; exact owns_same HOV_12.out (fun g hg => heap_setCell_other _ _ g _ (own_ne HOV_12.out HBv3_12.out (by decide) g hg))
  have HOF_13 : Hid ((w13).ownsRow w.heap.size 167 2 (.slice oF n3 pF) n3 (flatF fs)) := by show World.ownsRow _ _ _ _ _ _ _; rw [hW13]; exact owns_same HOF_12.out (fun g hg => heap_setCell_other _ _ g _ (own_ne HOF_12.out HBv3_12.out (by decide) g hg))
  have HBv1_13 : Hid ((w13).heap[qv1]? = some (.cells #[.string p, .slice a1 n1 c1, .slice a2 n2 c2, .int .i64 st, .slice a3 n3 c3, .string b, .int .i64 t, .int .i64 ka, .int .i64 kq] 135)) := by show _ = _; rw [hW13, heap_setCell_other _ _ _ _ HNv1v3.out]; exact HBv1_12.out
  have HBv2_13 : Hid ((w13).heap[qv2]? = some (.cells #[.string ⟨#[]⟩, .slice none 0 0, .slice none 0 0, .int .i64 0, .slice none 0 0, .string ⟨#[]⟩, .int .i64 0, .int .i64 0, .int .i64 0] 145)) := by show _ = _; rw [hW13, heap_setCell_other _ _ _ _ HNv2v3.out]; exact HBv2_12.out
  have HBv3_13 : Hid ((w13).heap[qv3]? = some (.cells #[.string p, .slice oN n1 pN, .slice oV n2 pV, .int .i64 st, .slice oF n3 pF, .string b, .int .i64 t, .int .i64 ka, .int .i64 kq] 145)) := by show _ = _; rw [hW13]; have h := heap_set _ _ 8 _ _ _ (.int .i64 kq) HBv3_12.out; simpa using h
  clear hb12 HON_12 HOV_12 HOF_12 HBv1_12 HBv2_12 HBv3_12 hW13
  clear cv1_8 cv3_8 fcv3_8
  have cv2_0 : (w13).cell? ⟨qv2, 0, none⟩ = some (.string ⟨#[]⟩) := (cell_of HBv2_13.out 0).trans rfl
  have fcv2_0 : (w13).frozen? ⟨qv2, 0, none⟩ = false := frozen_of HBv2_13.out 0
  have cv2_1 : (w13).cell? ⟨qv2, 1, none⟩ = some (.slice none 0 0) := (cell_of HBv2_13.out 1).trans rfl
  have fcv2_1 : (w13).frozen? ⟨qv2, 1, none⟩ = false := frozen_of HBv2_13.out 1
  have cv2_2 : (w13).cell? ⟨qv2, 2, none⟩ = some (.slice none 0 0) := (cell_of HBv2_13.out 2).trans rfl
  have fcv2_2 : (w13).frozen? ⟨qv2, 2, none⟩ = false := frozen_of HBv2_13.out 2
  have cv2_3 : (w13).cell? ⟨qv2, 3, none⟩ = some (.int .i64 0) := (cell_of HBv2_13.out 3).trans rfl
  have fcv2_3 : (w13).frozen? ⟨qv2, 3, none⟩ = false := frozen_of HBv2_13.out 3
  have cv2_4 : (w13).cell? ⟨qv2, 4, none⟩ = some (.slice none 0 0) := (cell_of HBv2_13.out 4).trans rfl
  have fcv2_4 : (w13).frozen? ⟨qv2, 4, none⟩ = false := frozen_of HBv2_13.out 4
  have cv2_5 : (w13).cell? ⟨qv2, 5, none⟩ = some (.string ⟨#[]⟩) := (cell_of HBv2_13.out 5).trans rfl
  have fcv2_5 : (w13).frozen? ⟨qv2, 5, none⟩ = false := frozen_of HBv2_13.out 5
  have cv2_6 : (w13).cell? ⟨qv2, 6, none⟩ = some (.int .i64 0) := (cell_of HBv2_13.out 6).trans rfl
  have fcv2_6 : (w13).frozen? ⟨qv2, 6, none⟩ = false := frozen_of HBv2_13.out 6
  have cv2_7 : (w13).cell? ⟨qv2, 7, none⟩ = some (.int .i64 0) := (cell_of HBv2_13.out 7).trans rfl
  have fcv2_7 : (w13).frozen? ⟨qv2, 7, none⟩ = false := frozen_of HBv2_13.out 7
  have cv2_8 : (w13).cell? ⟨qv2, 8, none⟩ = some (.int .i64 0) := (cell_of HBv2_13.out 8).trans rfl
  have fcv2_8 : (w13).frozen? ⟨qv2, 8, none⟩ = false := frozen_of HBv2_13.out 8
  have cv3_0 : (w13).cell? ⟨qv3, 0, none⟩ = some (.string p) := (cell_of HBv3_13.out 0).trans rfl
  have cv3_1 : (w13).cell? ⟨qv3, 1, none⟩ = some (.slice oN n1 pN) := (cell_of HBv3_13.out 1).trans rfl
  have cv3_2 : (w13).cell? ⟨qv3, 2, none⟩ = some (.slice oV n2 pV) := (cell_of HBv3_13.out 2).trans rfl
  have cv3_3 : (w13).cell? ⟨qv3, 3, none⟩ = some (.int .i64 st) := (cell_of HBv3_13.out 3).trans rfl
  have cv3_4 : (w13).cell? ⟨qv3, 4, none⟩ = some (.slice oF n3 pF) := (cell_of HBv3_13.out 4).trans rfl
  have cv3_5 : (w13).cell? ⟨qv3, 5, none⟩ = some (.string b) := (cell_of HBv3_13.out 5).trans rfl
  have cv3_6 : (w13).cell? ⟨qv3, 6, none⟩ = some (.int .i64 t) := (cell_of HBv3_13.out 6).trans rfl
  have cv3_7 : (w13).cell? ⟨qv3, 7, none⟩ = some (.int .i64 ka) := (cell_of HBv3_13.out 7).trans rfl
  have cv3_8 : (w13).cell? ⟨qv3, 8, none⟩ = some (.int .i64 kq) := (cell_of HBv3_13.out 8).trans rfl
  go_wp2_with fail
  obtain ⟨w14, hW14⟩ : ∃ W, W = (w13).setCell ⟨qv2, 0, none⟩ (.string p) := ⟨_, rfl⟩
  rw [← hW14]
  have hb14 : Below w.heap.size w (w14) := by rw [hW14]; exact (hb13.setCell (p := ⟨qv2, 0, none⟩) HGv2.out _)
  have HON_14 : Hid ((w14).ownsRow w.heap.size 9 1 (.slice oN n1 pN) n1 (xs.map Value.string)) := by show World.ownsRow _ _ _ _ _ _ _; rw [hW14]; exact owns_same HON_13.out (fun g hg => heap_setCell_other _ _ g _ (own_ne HON_13.out HBv2_13.out (by decide) g hg))
  have HOV_14 : Hid ((w14).ownsRow w.heap.size 9 1 (.slice oV n2 pV) n2 (ys.map Value.string)) := by show World.ownsRow _ _ _ _ _ _ _; rw [hW14]; exact owns_same HOV_13.out (fun g hg => heap_setCell_other _ _ g _ (own_ne HOV_13.out HBv2_13.out (by decide) g hg))
  have HOF_14 : Hid ((w14).ownsRow w.heap.size 167 2 (.slice oF n3 pF) n3 (flatF fs)) := by show World.ownsRow _ _ _ _ _ _ _; rw [hW14]; exact owns_same HOF_13.out (fun g hg => heap_setCell_other _ _ g _ (own_ne HOF_13.out HBv2_13.out (by decide) g hg))
  have HBv1_14 : Hid ((w14).heap[qv1]? = some (.cells #[.string p, .slice a1 n1 c1, .slice a2 n2 c2, .int .i64 st, .slice a3 n3 c3, .string b, .int .i64 t, .int .i64 ka, .int .i64 kq] 135)) := by show _ = _; rw [hW14, heap_setCell_other _ _ _ _ HNv1v2.out]; exact HBv1_13.out
  have HBv3_14 : Hid ((w14).heap[qv3]? = some (.cells #[.string p, .slice oN n1 pN, .slice oV n2 pV, .int .i64 st, .slice oF n3 pF, .string b, .int .i64 t, .int .i64 ka, .int .i64 kq] 145)) := by show _ = _; rw [hW14, heap_setCell_other _ _ _ _ HNv2v3.out.symm]; exact HBv3_13.out
  have HBv2_14 : Hid ((w14).heap[qv2]? = some (.cells #[.string p, .slice none 0 0, .slice none 0 0, .int .i64 0, .slice none 0 0, .string ⟨#[]⟩, .int .i64 0, .int .i64 0, .int .i64 0] 145)) := by show _ = _; rw [hW14]; have h := heap_set _ _ 0 _ _ _ (.string p) HBv2_13.out; simpa using h
  clear hb13 HON_13 HOV_13 HOF_13 HBv1_13 HBv2_13 HBv3_13 hW14
  obtain ⟨w15, hW15⟩ : ∃ W, W = (w14).setCell ⟨qv2, 1, none⟩ (.slice oN n1 pN) := ⟨_, rfl⟩
  rw [← hW15]
  have hb15 : Below w.heap.size w (w15) := by rw [hW15]; exact (hb14.setCell (p := ⟨qv2, 1, none⟩) HGv2.out _)
  have HON_15 : Hid ((w15).ownsRow w.heap.size 9 1 (.slice oN n1 pN) n1 (xs.map Value.string)) := by show World.ownsRow _ _ _ _ _ _ _; rw [hW15]; exact owns_same HON_14.out (fun g hg => heap_setCell_other _ _ g _ (own_ne HON_14.out HBv2_14.out (by decide) g hg))
  have HOV_15 : Hid ((w15).ownsRow w.heap.size 9 1 (.slice oV n2 pV) n2 (ys.map Value.string)) := by show World.ownsRow _ _ _ _ _ _ _; rw [hW15]; exact owns_same HOV_14.out (fun g hg => heap_setCell_other _ _ g _ (own_ne HOV_14.out HBv2_14.out (by decide) g hg))
  have HOF_15 : Hid ((w15).ownsRow w.heap.size 167 2 (.slice oF n3 pF) n3 (flatF fs)) := by show World.ownsRow _ _ _ _ _ _ _; rw [hW15]; exact owns_same HOF_14.out (fun g hg => heap_setCell_other _ _ g _ (own_ne HOF_14.out HBv2_14.out (by decide) g hg))
  have HBv1_15 : Hid ((w15).heap[qv1]? = some (.cells #[.string p, .slice a1 n1 c1, .slice a2 n2 c2, .int .i64 st, .slice a3 n3 c3, .string b, .int .i64 t, .int .i64 ka, .int .i64 kq] 135)) := by show _ = _; rw [hW15, heap_setCell_other _ _ _ _ HNv1v2.out]; exact HBv1_14.out
  have HBv3_15 : Hid ((w15).heap[qv3]? = some (.cells #[.string p, .slice oN n1 pN, .slice oV n2 pV, .int .i64 st, .slice oF n3 pF, .string b, .int .i64 t, .int .i64 ka, .int .i64 kq] 145)) := by show _ = _; rw [hW15, heap_setCell_other _ _ _ _ HNv2v3.out.symm]; exact HBv3_14.out
  have HBv2_15 : Hid ((w15).heap[qv2]? = some (.cells #[.string p, .slice oN n1 pN, .slice none 0 0, .int .i64 0, .slice none 0 0, .string ⟨#[]⟩, .int .i64 0, .int .i64 0, .int .i64 0] 145)) := by show _ = _; rw [hW15]; have h := heap_set _ _ 1 _ _ _ (.slice oN n1 pN) HBv2_14.out; simpa using h
  clear hb14 HON_14 HOV_14 HOF_14 HBv1_14 HBv2_14 HBv3_14 hW15
  obtain ⟨w16, hW16⟩ : ∃ W, W = (w15).setCell ⟨qv2, 2, none⟩ (.slice oV n2 pV) := ⟨_, rfl⟩
  rw [← hW16]
  have hb16 : Below w.heap.size w (w16) := by rw [hW16]; exact (hb15.setCell (p := ⟨qv2, 2, none⟩) HGv2.out _)
  have HON_16 : Hid ((w16).ownsRow w.heap.size 9 1 (.slice oN n1 pN) n1 (xs.map Value.string)) := by show World.ownsRow _ _ _ _ _ _ _; rw [hW16]; exact owns_same HON_15.out (fun g hg => heap_setCell_other _ _ g _ (own_ne HON_15.out HBv2_15.out (by decide) g hg))
  have HOV_16 : Hid ((w16).ownsRow w.heap.size 9 1 (.slice oV n2 pV) n2 (ys.map Value.string)) := by show World.ownsRow _ _ _ _ _ _ _; rw [hW16]; exact owns_same HOV_15.out (fun g hg => heap_setCell_other _ _ g _ (own_ne HOV_15.out HBv2_15.out (by decide) g hg))
  have HOF_16 : Hid ((w16).ownsRow w.heap.size 167 2 (.slice oF n3 pF) n3 (flatF fs)) := by show World.ownsRow _ _ _ _ _ _ _; rw [hW16]; exact owns_same HOF_15.out (fun g hg => heap_setCell_other _ _ g _ (own_ne HOF_15.out HBv2_15.out (by decide) g hg))
  have HBv1_16 : Hid ((w16).heap[qv1]? = some (.cells #[.string p, .slice a1 n1 c1, .slice a2 n2 c2, .int .i64 st, .slice a3 n3 c3, .string b, .int .i64 t, .int .i64 ka, .int .i64 kq] 135)) := by show _ = _; rw [hW16, heap_setCell_other _ _ _ _ HNv1v2.out]; exact HBv1_15.out
  have HBv3_16 : Hid ((w16).heap[qv3]? = some (.cells #[.string p, .slice oN n1 pN, .slice oV n2 pV, .int .i64 st, .slice oF n3 pF, .string b, .int .i64 t, .int .i64 ka, .int .i64 kq] 145)) := by show _ = _; rw [hW16, heap_setCell_other _ _ _ _ HNv2v3.out.symm]; exact HBv3_15.out
  have HBv2_16 : Hid ((w16).heap[qv2]? = some (.cells #[.string p, .slice oN n1 pN, .slice oV n2 pV, .int .i64 0, .slice none 0 0, .string ⟨#[]⟩, .int .i64 0, .int .i64 0, .int .i64 0] 145)) := by show _ = _; rw [hW16]; have h := heap_set _ _ 2 _ _ _ (.slice oV n2 pV) HBv2_15.out; simpa using h
  clear hb15 HON_15 HOV_15 HOF_15 HBv1_15 HBv2_15 HBv3_15 hW16
  obtain ⟨w17, hW17⟩ : ∃ W, W = (w16).setCell ⟨qv2, 3, none⟩ (.int .i64 st) := ⟨_, rfl⟩
  rw [← hW17]
  have hb17 : Below w.heap.size w (w17) := by rw [hW17]; exact (hb16.setCell (p := ⟨qv2, 3, none⟩) HGv2.out _)
  have HON_17 : Hid ((w17).ownsRow w.heap.size 9 1 (.slice oN n1 pN) n1 (xs.map Value.string)) := by show World.ownsRow _ _ _ _ _ _ _; rw [hW17]; exact owns_same HON_16.out (fun g hg => heap_setCell_other _ _ g _ (own_ne HON_16.out HBv2_16.out (by decide) g hg))
  have HOV_17 : Hid ((w17).ownsRow w.heap.size 9 1 (.slice oV n2 pV) n2 (ys.map Value.string)) := by show World.ownsRow _ _ _ _ _ _ _; rw [hW17]; exact owns_same HOV_16.out (fun g hg => heap_setCell_other _ _ g _ (own_ne HOV_16.out HBv2_16.out (by decide) g hg))
  have HOF_17 : Hid ((w17).ownsRow w.heap.size 167 2 (.slice oF n3 pF) n3 (flatF fs)) := by show World.ownsRow _ _ _ _ _ _ _; rw [hW17]; exact owns_same HOF_16.out (fun g hg => heap_setCell_other _ _ g _ (own_ne HOF_16.out HBv2_16.out (by decide) g hg))
  have HBv1_17 : Hid ((w17).heap[qv1]? = some (.cells #[.string p, .slice a1 n1 c1, .slice a2 n2 c2, .int .i64 st, .slice a3 n3 c3, .string b, .int .i64 t, .int .i64 ka, .int .i64 kq] 135)) := by show _ = _; rw [hW17, heap_setCell_other _ _ _ _ HNv1v2.out]; exact HBv1_16.out
  have HBv3_17 : Hid ((w17).heap[qv3]? = some (.cells #[.string p, .slice oN n1 pN, .slice oV n2 pV, .int .i64 st, .slice oF n3 pF, .string b, .int .i64 t, .int .i64 ka, .int .i64 kq] 145)) := by show _ = _; rw [hW17, heap_setCell_other _ _ _ _ HNv2v3.out.symm]; exact HBv3_16.out
  have HBv2_17 : Hid ((w17).heap[qv2]? = some (.cells #[.string p, .slice oN n1 pN, .slice oV n2 pV, .int .i64 st, .slice none 0 0, .string ⟨#[]⟩, .int .i64 0, .int .i64 0, .int .i64 0] 145)) := by show _ = _; rw [hW17]; have h := heap_set _ _ 3 _ _ _ (.int .i64 st) HBv2_16.out; simpa using h
  clear hb16 HON_16 HOV_16 HOF_16 HBv1_16 HBv2_16 HBv3_16 hW17
  obtain ⟨w18, hW18⟩ : ∃ W, W = (w17).setCell ⟨qv2, 4, none⟩ (.slice oF n3 pF) := ⟨_, rfl⟩
  rw [← hW18]
  have hb18 : Below w.heap.size w (w18) := by rw [hW18]; exact (hb17.setCell (p := ⟨qv2, 4, none⟩) HGv2.out _)
  have HON_18 : Hid ((w18).ownsRow w.heap.size 9 1 (.slice oN n1 pN) n1 (xs.map Value.string)) := by show World.ownsRow _ _ _ _ _ _ _; rw [hW18]; exact owns_same HON_17.out (fun g hg => heap_setCell_other _ _ g _ (own_ne HON_17.out HBv2_17.out (by decide) g hg))
  have HOV_18 : Hid ((w18).ownsRow w.heap.size 9 1 (.slice oV n2 pV) n2 (ys.map Value.string)) := by show World.ownsRow _ _ _ _ _ _ _; rw [hW18]; exact owns_same HOV_17.out (fun g hg => heap_setCell_other _ _ g _ (own_ne HOV_17.out HBv2_17.out (by decide) g hg))
  have HOF_18 : Hid ((w18).ownsRow w.heap.size 167 2 (.slice oF n3 pF) n3 (flatF fs)) := by show World.ownsRow _ _ _ _ _ _ _; rw [hW18]; exact owns_same HOF_17.out (fun g hg => heap_setCell_other _ _ g _ (own_ne HOF_17.out HBv2_17.out (by decide) g hg))
  have HBv1_18 : Hid ((w18).heap[qv1]? = some (.cells #[.string p, .slice a1 n1 c1, .slice a2 n2 c2, .int .i64 st, .slice a3 n3 c3, .string b, .int .i64 t, .int .i64 ka, .int .i64 kq] 135)) := by show _ = _; rw [hW18, heap_setCell_other _ _ _ _ HNv1v2.out]; exact HBv1_17.out
  have HBv3_18 : Hid ((w18).heap[qv3]? = some (.cells #[.string p, .slice oN n1 pN, .slice oV n2 pV, .int .i64 st, .slice oF n3 pF, .string b, .int .i64 t, .int .i64 ka, .int .i64 kq] 145)) := by show _ = _; rw [hW18, heap_setCell_other _ _ _ _ HNv2v3.out.symm]; exact HBv3_17.out
  have HBv2_18 : Hid ((w18).heap[qv2]? = some (.cells #[.string p, .slice oN n1 pN, .slice oV n2 pV, .int .i64 st, .slice oF n3 pF, .string ⟨#[]⟩, .int .i64 0, .int .i64 0, .int .i64 0] 145)) := by show _ = _; rw [hW18]; have h := heap_set _ _ 4 _ _ _ (.slice oF n3 pF) HBv2_17.out; simpa using h
  clear hb17 HON_17 HOV_17 HOF_17 HBv1_17 HBv2_17 HBv3_17 hW18
  obtain ⟨w19, hW19⟩ : ∃ W, W = (w18).setCell ⟨qv2, 5, none⟩ (.string b) := ⟨_, rfl⟩
  rw [← hW19]
  have hb19 : Below w.heap.size w (w19) := by rw [hW19]; exact (hb18.setCell (p := ⟨qv2, 5, none⟩) HGv2.out _)
  have HON_19 : Hid ((w19).ownsRow w.heap.size 9 1 (.slice oN n1 pN) n1 (xs.map Value.string)) := by show World.ownsRow _ _ _ _ _ _ _; rw [hW19]; exact owns_same HON_18.out (fun g hg => heap_setCell_other _ _ g _ (own_ne HON_18.out HBv2_18.out (by decide) g hg))
  have HOV_19 : Hid ((w19).ownsRow w.heap.size 9 1 (.slice oV n2 pV) n2 (ys.map Value.string)) := by show World.ownsRow _ _ _ _ _ _ _; rw [hW19]; exact owns_same HOV_18.out (fun g hg => heap_setCell_other _ _ g _ (own_ne HOV_18.out HBv2_18.out (by decide) g hg))
  have HOF_19 : Hid ((w19).ownsRow w.heap.size 167 2 (.slice oF n3 pF) n3 (flatF fs)) := by show World.ownsRow _ _ _ _ _ _ _; rw [hW19]; exact owns_same HOF_18.out (fun g hg => heap_setCell_other _ _ g _ (own_ne HOF_18.out HBv2_18.out (by decide) g hg))
  have HBv1_19 : Hid ((w19).heap[qv1]? = some (.cells #[.string p, .slice a1 n1 c1, .slice a2 n2 c2, .int .i64 st, .slice a3 n3 c3, .string b, .int .i64 t, .int .i64 ka, .int .i64 kq] 135)) := by show _ = _; rw [hW19, heap_setCell_other _ _ _ _ HNv1v2.out]; exact HBv1_18.out
  have HBv3_19 : Hid ((w19).heap[qv3]? = some (.cells #[.string p, .slice oN n1 pN, .slice oV n2 pV, .int .i64 st, .slice oF n3 pF, .string b, .int .i64 t, .int .i64 ka, .int .i64 kq] 145)) := by show _ = _; rw [hW19, heap_setCell_other _ _ _ _ HNv2v3.out.symm]; exact HBv3_18.out
  have HBv2_19 : Hid ((w19).heap[qv2]? = some (.cells #[.string p, .slice oN n1 pN, .slice oV n2 pV, .int .i64 st, .slice oF n3 pF, .string b, .int .i64 0, .int .i64 0, .int .i64 0] 145)) := by show _ = _; rw [hW19]; have h := heap_set _ _ 5 _ _ _ (.string b) HBv2_18.out; simpa using h
  clear hb18 HON_18 HOV_18 HOF_18 HBv1_18 HBv2_18 HBv3_18 hW19
  obtain ⟨w20, hW20⟩ : ∃ W, W = (w19).setCell ⟨qv2, 6, none⟩ (.int .i64 t) := ⟨_, rfl⟩
  rw [← hW20]
  have hb20 : Below w.heap.size w (w20) := by rw [hW20]; exact (hb19.setCell (p := ⟨qv2, 6, none⟩) HGv2.out _)
  have HON_20 : Hid ((w20).ownsRow w.heap.size 9 1 (.slice oN n1 pN) n1 (xs.map Value.string)) := by show World.ownsRow _ _ _ _ _ _ _; rw [hW20]; exact owns_same HON_19.out (fun g hg => heap_setCell_other _ _ g _ (own_ne HON_19.out HBv2_19.out (by decide) g hg))
  have HOV_20 : Hid ((w20).ownsRow w.heap.size 9 1 (.slice oV n2 pV) n2 (ys.map Value.string)) := by show World.ownsRow _ _ _ _ _ _ _; rw [hW20]; exact owns_same HOV_19.out (fun g hg => heap_setCell_other _ _ g _ (own_ne HOV_19.out HBv2_19.out (by decide) g hg))
  have HOF_20 : Hid ((w20).ownsRow w.heap.size 167 2 (.slice oF n3 pF) n3 (flatF fs)) := by show World.ownsRow _ _ _ _ _ _ _; rw [hW20]; exact owns_same HOF_19.out (fun g hg => heap_setCell_other _ _ g _ (own_ne HOF_19.out HBv2_19.out (by decide) g hg))
  have HBv1_20 : Hid ((w20).heap[qv1]? = some (.cells #[.string p, .slice a1 n1 c1, .slice a2 n2 c2, .int .i64 st, .slice a3 n3 c3, .string b, .int .i64 t, .int .i64 ka, .int .i64 kq] 135)) := by show _ = _; rw [hW20, heap_setCell_other _ _ _ _ HNv1v2.out]; exact HBv1_19.out
  have HBv3_20 : Hid ((w20).heap[qv3]? = some (.cells #[.string p, .slice oN n1 pN, .slice oV n2 pV, .int .i64 st, .slice oF n3 pF, .string b, .int .i64 t, .int .i64 ka, .int .i64 kq] 145)) := by show _ = _; rw [hW20, heap_setCell_other _ _ _ _ HNv2v3.out.symm]; exact HBv3_19.out
  have HBv2_20 : Hid ((w20).heap[qv2]? = some (.cells #[.string p, .slice oN n1 pN, .slice oV n2 pV, .int .i64 st, .slice oF n3 pF, .string b, .int .i64 t, .int .i64 0, .int .i64 0] 145)) := by show _ = _; rw [hW20]; have h := heap_set _ _ 6 _ _ _ (.int .i64 t) HBv2_19.out; simpa using h
  clear hb19 HON_19 HOV_19 HOF_19 HBv1_19 HBv2_19 HBv3_19 hW20
  obtain ⟨w21, hW21⟩ : ∃ W, W = (w20).setCell ⟨qv2, 7, none⟩ (.int .i64 ka) := ⟨_, rfl⟩
  rw [← hW21]
  have hb21 : Below w.heap.size w (w21) := by rw [hW21]; exact (hb20.setCell (p := ⟨qv2, 7, none⟩) HGv2.out _)
  have HON_21 : Hid ((w21).ownsRow w.heap.size 9 1 (.slice oN n1 pN) n1 (xs.map Value.string)) := by show World.ownsRow _ _ _ _ _ _ _; rw [hW21]; exact owns_same HON_20.out (fun g hg => heap_setCell_other _ _ g _ (own_ne HON_20.out HBv2_20.out (by decide) g hg))
  have HOV_21 : Hid ((w21).ownsRow w.heap.size 9 1 (.slice oV n2 pV) n2 (ys.map Value.string)) := by show World.ownsRow _ _ _ _ _ _ _; rw [hW21]; exact owns_same HOV_20.out (fun g hg => heap_setCell_other _ _ g _ (own_ne HOV_20.out HBv2_20.out (by decide) g hg))
  have HOF_21 : Hid ((w21).ownsRow w.heap.size 167 2 (.slice oF n3 pF) n3 (flatF fs)) := by show World.ownsRow _ _ _ _ _ _ _; rw [hW21]; exact owns_same HOF_20.out (fun g hg => heap_setCell_other _ _ g _ (own_ne HOF_20.out HBv2_20.out (by decide) g hg))
  have HBv1_21 : Hid ((w21).heap[qv1]? = some (.cells #[.string p, .slice a1 n1 c1, .slice a2 n2 c2, .int .i64 st, .slice a3 n3 c3, .string b, .int .i64 t, .int .i64 ka, .int .i64 kq] 135)) := by show _ = _; rw [hW21, heap_setCell_other _ _ _ _ HNv1v2.out]; exact HBv1_20.out
  have HBv3_21 : Hid ((w21).heap[qv3]? = some (.cells #[.string p, .slice oN n1 pN, .slice oV n2 pV, .int .i64 st, .slice oF n3 pF, .string b, .int .i64 t, .int .i64 ka, .int .i64 kq] 145)) := by show _ = _; rw [hW21, heap_setCell_other _ _ _ _ HNv2v3.out.symm]; exact HBv3_20.out
  have HBv2_21 : Hid ((w21).heap[qv2]? = some (.cells #[.string p, .slice oN n1 pN, .slice oV n2 pV, .int .i64 st, .slice oF n3 pF, .string b, .int .i64 t, .int .i64 ka, .int .i64 0] 145)) := by show _ = _; rw [hW21]; have h := heap_set _ _ 7 _ _ _ (.int .i64 ka) HBv2_20.out; simpa using h
  clear hb20 HON_20 HOV_20 HOF_20 HBv1_20 HBv2_20 HBv3_20 hW21
  obtain ⟨w22, hW22⟩ : ∃ W, W = (w21).setCell ⟨qv2, 8, none⟩ (.int .i64 kq) := ⟨_, rfl⟩
  rw [← hW22]
  have hb22 : Below w.heap.size w (w22) := by rw [hW22]; exact (hb21.setCell (p := ⟨qv2, 8, none⟩) HGv2.out _)
  have HON_22 : Hid ((w22).ownsRow w.heap.size 9 1 (.slice oN n1 pN) n1 (xs.map Value.string)) := by show World.ownsRow _ _ _ _ _ _ _; rw [hW22]; exact owns_same HON_21.out (fun g hg => heap_setCell_other _ _ g _ (own_ne HON_21.out HBv2_21.out (by decide) g hg))
  have HOV_22 : Hid ((w22).ownsRow w.heap.size 9 1 (.slice oV n2 pV) n2 (ys.map Value.string)) := by show World.ownsRow _ _ _ _ _ _ _; rw [hW22]; exact owns_same HOV_21.out (fun g hg => heap_setCell_other _ _ g _ (own_ne HOV_21.out HBv2_21.out (by decide) g hg))
  have HOF_22 : Hid ((w22).ownsRow w.heap.size 167 2 (.slice oF n3 pF) n3 (flatF fs)) := by show World.ownsRow _ _ _ _ _ _ _; rw [hW22]; exact owns_same HOF_21.out (fun g hg => heap_setCell_other _ _ g _ (own_ne HOF_21.out HBv2_21.out (by decide) g hg))
  have HBv1_22 : Hid ((w22).heap[qv1]? = some (.cells #[.string p, .slice a1 n1 c1, .slice a2 n2 c2, .int .i64 st, .slice a3 n3 c3, .string b, .int .i64 t, .int .i64 ka, .int .i64 kq] 135)) := by show _ = _; rw [hW22, heap_setCell_other _ _ _ _ HNv1v2.out]; exact HBv1_21.out
  have HBv3_22 : Hid ((w22).heap[qv3]? = some (.cells #[.string p, .slice oN n1 pN, .slice oV n2 pV, .int .i64 st, .slice oF n3 pF, .string b, .int .i64 t, .int .i64 ka, .int .i64 kq] 145)) := by show _ = _; rw [hW22, heap_setCell_other _ _ _ _ HNv2v3.out.symm]; exact HBv3_21.out
  have HBv2_22 : Hid ((w22).heap[qv2]? = some (.cells #[.string p, .slice oN n1 pN, .slice oV n2 pV, .int .i64 st, .slice oF n3 pF, .string b, .int .i64 t, .int .i64 ka, .int .i64 kq] 145)) := by show _ = _; rw [hW22]; have h := heap_set _ _ 8 _ _ _ (.int .i64 kq) HBv2_21.out; simpa using h
  clear hb21 HON_21 HOV_21 HOF_21 HBv1_21 HBv2_21 HBv3_21 hW22
  have kv2_0 : (w22).cell? ⟨qv2, 0, none⟩ = some (.string p) := (cell_of HBv2_22.out 0).trans rfl
  have kv2_1 : (w22).cell? ⟨qv2, 1, none⟩ = some (.slice oN n1 pN) := (cell_of HBv2_22.out 1).trans rfl
  have kv2_2 : (w22).cell? ⟨qv2, 2, none⟩ = some (.slice oV n2 pV) := (cell_of HBv2_22.out 2).trans rfl
  have kv2_3 : (w22).cell? ⟨qv2, 3, none⟩ = some (.int .i64 st) := (cell_of HBv2_22.out 3).trans rfl
  have kv2_4 : (w22).cell? ⟨qv2, 4, none⟩ = some (.slice oF n3 pF) := (cell_of HBv2_22.out 4).trans rfl
  have kv2_5 : (w22).cell? ⟨qv2, 5, none⟩ = some (.string b) := (cell_of HBv2_22.out 5).trans rfl
  have kv2_6 : (w22).cell? ⟨qv2, 6, none⟩ = some (.int .i64 t) := (cell_of HBv2_22.out 6).trans rfl
  have kv2_7 : (w22).cell? ⟨qv2, 7, none⟩ = some (.int .i64 ka) := (cell_of HBv2_22.out 7).trans rfl
  have kv2_8 : (w22).cell? ⟨qv2, 8, none⟩ = some (.int .i64 kq) := (cell_of HBv2_22.out 8).trans rfl
  refine bodyPost_ret (v := .agg #[.string p, .slice oN n1 pN, .slice oV n2 pV, .int .i64 st, .slice oF n3 pF, .string b, .int .i64 t, .int .i64 ka, .int .i64 kq]) (by simp [results, Try.results69, go_sem, kv2_0, kv2_1, kv2_2, kv2_3, kv2_4, kv2_5, kv2_6, kv2_7, kv2_8]) rfl ?_
  exact ⟨_, _, _, rfl, ⟨HON_22.out, HOV_22.out, HOF_22.out, APX.out⟩, hb22⟩

set_option maxHeartbeats 8000000 in
set_option maxRecDepth 100000 in
theorem szKept_any (L : Int) (hL0 : 0 ≤ L) (hL1 : L ≤ 1048576) (p : ByteArray) (a1 : Option Addr) (n1 c1 : Nat) (xs : List ByteArray) (a2 : Option Addr) (n2 c2 : Nat) (ys : List ByteArray) (st : Int) (a3 : Option Addr) (n3 c3 : Nat) (fs : List (ByteArray × ByteArray)) (b : ByteArray) (t ka kq : Int) (B : Nat) (w : World) (h1 : ArgT w B a1 n1 xs) (h2 : ArgT w B a2 n2 ys) (h3 : ArgF w B a3 n3 fs) (hB : B ≤ w.heap.size) (hn1 : n1 ≤ maxLen) (hn2 : n2 ≤ maxLen) (hn3 : n3 ≤ maxLen) (hs1 : ∀ i, i < n1 → (textAt xs i).size ≤ maxLen) (hs2 : ∀ i, i < n2 → (textAt ys i).size ≤ maxLen) (hs3 : WalkF n3 fs) (hp : p.size ≤ maxLen) (hx : b.size ≤ maxLen) :
    Calls Try.prog 61 #[.agg #[.string p, .slice a1 n1 c1, .slice a2 n2 c2, .int .i64 st, .slice a3 n3 c3, .string b, .int .i64 t, .int .i64 ka, .int .i64 kq], .int .i64 L] w fun e w' => SzObj L p n1 xs n2 ys n3 fs b w e w' := by
  have HA1 : Hid (∀ W, Below w.heap.size w W → ArgT W B a1 n1 xs) := fun W h => h1.below (h.mono hB)
  have HA2 : Hid (∀ W, Below w.heap.size w W → ArgT W B a2 n2 ys) := fun W h => h2.below (h.mono hB)
  have HA3 : Hid (∀ W, Below w.heap.size w W → ArgF W B a3 n3 fs) := fun W h => h3.below (h.mono hB)
  have HBB : Hid (∀ W, Below w.heap.size w W → B ≤ W.heap.size) := fun W h => Nat.le_trans hB h.size
  clear h1 h2 h3
  have HQ : Hid (n1 ≤ maxLen ∧ n2 ≤ maxLen ∧ n3 ≤ maxLen ∧ (∀ i, i < n1 → (textAt xs i).size ≤ maxLen) ∧ (∀ i, i < n2 → (textAt ys i).size ≤ maxLen) ∧ WalkF n3 fs ∧ p.size ≤ maxLen ∧ b.size ≤ maxLen) := ⟨hn1, hn2, hn3, hs1, hs2, hs3, hp, hx⟩
  clear hn1 hn2 hn3 hs1 hs2 hs3 hp hx
  have hb0 : Below w.heap.size w w := Below.refl _ _
  go_enter Try.func61, Try.ntmps61
  go_upto_region 1 with fail
  obtain ⟨qv1, hqv1⟩ : ∃ q, q = (w).heap.size := ⟨_, rfl⟩
  obtain ⟨w1, hW1⟩ : ∃ W, W = (w).alloc (.cells #[.string p, .slice a1 n1 c1, .slice a2 n2 c2, .int .i64 st, .slice a3 n3 c3, .string b, .int .i64 t, .int .i64 ka, .int .i64 kq] 135) := ⟨_, rfl⟩
  have hz1 : (w).heap.size = qv1 := hqv1.symm
  first | rw [← hW1, ← hqv1] | rw [← hW1]
  have hs1 : w1.heap.size = qv1 + 1 := by rw [hW1, ← hz1]; simp
  have bw : Below (w).heap.size (w) w1 := by rw [hW1]; exact (Below.refl _ _).alloc (Nat.le_refl _) _
  have hb1 : Below w.heap.size w (w1) := hb0.trans (bw.mono hb0.size)
  have HBv1_1 : Hid ((w1).heap[qv1]? = some (.cells #[.string p, .slice a1 n1 c1, .slice a2 n2 c2, .int .i64 st, .slice a3 n3 c3, .string b, .int .i64 t, .int .i64 ka, .int .i64 kq] 135)) := by show _ = _; rw [hW1, ← hz1]; exact heap_alloc_new _ _
  clear hb0 bw hW1 hz1
  clear hs1 hqv1
  have cv1_0 : (w1).cell? ⟨qv1, 0, none⟩ = some (.string p) := (cell_of HBv1_1.out 0).trans rfl
  have cv1_1 : (w1).cell? ⟨qv1, 1, none⟩ = some (.slice a1 n1 c1) := (cell_of HBv1_1.out 1).trans rfl
  have cv1_2 : (w1).cell? ⟨qv1, 2, none⟩ = some (.slice a2 n2 c2) := (cell_of HBv1_1.out 2).trans rfl
  have cv1_3 : (w1).cell? ⟨qv1, 3, none⟩ = some (.int .i64 st) := (cell_of HBv1_1.out 3).trans rfl
  have cv1_4 : (w1).cell? ⟨qv1, 4, none⟩ = some (.slice a3 n3 c3) := (cell_of HBv1_1.out 4).trans rfl
  have cv1_5 : (w1).cell? ⟨qv1, 5, none⟩ = some (.string b) := (cell_of HBv1_1.out 5).trans rfl
  have cv1_6 : (w1).cell? ⟨qv1, 6, none⟩ = some (.int .i64 t) := (cell_of HBv1_1.out 6).trans rfl
  go_wp2_with fail
  refine (szObj_any L (by omega) (by omega) p a1 n1 c1 xs a2 n2 c2 ys st a3 n3 c3 fs b t B _ (HA1.out _ hb1) (HA2.out _ hb1) (HA3.out _ hb1) (HBB.out _ hb1) HQ.out.1 HQ.out.2.1 HQ.out.2.2.1 HQ.out.2.2.2.1 HQ.out.2.2.2.2.1 HQ.out.2.2.2.2.2.1 HQ.out.2.2.2.2.2.2.1 HQ.out.2.2.2.2.2.2.2).mono ?_
  rintro e w2 ⟨r1, rfl, hl1, hr1, bw⟩
  have HR1 : Hid (0 ≤ r1 → _) := hr1
  clear hr1
  have hb2 : Below w.heap.size w (w2) := hb1.trans (bw.mono hb1.size)
  have HBv1_2 : Hid ((w2).heap[qv1]? = some (.cells #[.string p, .slice a1 n1 c1, .slice a2 n2 c2, .int .i64 st, .slice a3 n3 c3, .string b, .int .i64 t, .int .i64 ka, .int .i64 kq] 135)) := blk_below HBv1_1.out bw
  clear hb1 HBv1_1 bw
  clear cv1_0 cv1_1 cv1_2 cv1_3 cv1_4 cv1_5 cv1_6
  by_cases hc1 : r1 < 0
  · go_wp2_with fail
    go_ret
    exact ⟨-1, rfl, by omega, fun h => absurd h (by omega), hb2⟩
  · go_wp2_with fail
    go_ret
    exact ⟨r1, rfl, by omega, HR1.out, hb2⟩

set_option maxHeartbeats 8000000 in
set_option maxRecDepth 100000 in
theorem eqKept_any (p : ByteArray) (n1 : Nat) (xs : List ByteArray) (n2 : Nat) (ys : List ByteArray) (st : Int) (n3 : Nat) (fs : List (ByteArray × ByteArray)) (b : ByteArray) (t ka kq : Int) (v1 v2 v3 u1 u2 u3 : Value) (B1 B2 : Nat) (w : World) (hx : ObjO w B1 v1 n1 xs v2 n2 ys v3 n3 fs) (hy : ObjO w B2 u1 n1 xs u2 n2 ys u3 n3 fs) (hn1 : n1 ≤ 2000000) (hn2 : n2 ≤ 2000000) (hn3 : n3 ≤ 2000000) :
    Calls Try.prog 79 #[.agg #[.string p, v1, v2, .int .i64 st, v3, .string b, .int .i64 t, .int .i64 ka, .int .i64 kq], .agg #[.string p, u1, u2, .int .i64 st, u3, .string b, .int .i64 t, .int .i64 ka, .int .i64 kq]] w fun e w' => e = .returned (.bool true) ∧ Below w.heap.size w w' := by
  obtain ⟨oNx, pNx, rfl⟩ := slice_of_owns hx.names
  obtain ⟨oVx, pVx, rfl⟩ := slice_of_owns hx.vals
  obtain ⟨oFx, pFx, rfl⟩ := slice_of_owns hx.flds
  have HONx_0 : Hid ((w).ownsRow B1 9 1 (.slice oNx n1 pNx) n1 (xs.map Value.string)) := hx.names
  have HOVx_0 : Hid ((w).ownsRow B1 9 1 (.slice oVx n2 pVx) n2 (ys.map Value.string)) := hx.vals
  have HOFx_0 : Hid ((w).ownsRow B1 167 2 (.slice oFx n3 pFx) n3 (flatF fs)) := hx.flds
  have APx : Hid (∀ j, (Value.slice oNx n1 pNx).ownBlock = some j → (Value.slice oVx n2 pVx).ownBlock ≠ some j) := hx.ne
  clear hx
  obtain ⟨oNy, pNy, rfl⟩ := slice_of_owns hy.names
  obtain ⟨oVy, pVy, rfl⟩ := slice_of_owns hy.vals
  obtain ⟨oFy, pFy, rfl⟩ := slice_of_owns hy.flds
  have HONy_0 : Hid ((w).ownsRow B2 9 1 (.slice oNy n1 pNy) n1 (xs.map Value.string)) := hy.names
  have HOVy_0 : Hid ((w).ownsRow B2 9 1 (.slice oVy n2 pVy) n2 (ys.map Value.string)) := hy.vals
  have HOFy_0 : Hid ((w).ownsRow B2 167 2 (.slice oFy n3 pFy) n3 (flatF fs)) := hy.flds
  have APy : Hid (∀ j, (Value.slice oNy n1 pNy).ownBlock = some j → (Value.slice oVy n2 pVy).ownBlock ≠ some j) := hy.ne
  clear hy
  have hka : (ka != ka) = false := by simp
  have hkq : (kq != kq) = false := by simp
  have hb0 : Below w.heap.size w w := Below.refl _ _
  go_enter Try.func79, Try.ntmps79
  go_upto_region 1 with fail
  obtain ⟨qv1, hqv1⟩ : ∃ q, q = (w).heap.size := ⟨_, rfl⟩
  obtain ⟨w1, hW1⟩ : ∃ W, W = (w).alloc (.cells #[.string p, .slice oNx n1 pNx, .slice oVx n2 pVx, .int .i64 st, .slice oFx n3 pFx, .string b, .int .i64 t, .int .i64 ka, .int .i64 kq] 145) := ⟨_, rfl⟩
  have hz1 : (w).heap.size = qv1 := hqv1.symm
  first | rw [← hW1, ← hqv1] | rw [← hW1]
  have hs1 : w1.heap.size = qv1 + 1 := by rw [hW1, ← hz1]; simp
  have bw : Below (w).heap.size (w) w1 := by rw [hW1]; exact (Below.refl _ _).alloc (Nat.le_refl _) _
  have hb1 : Below w.heap.size w (w1) := hb0.trans (bw.mono hb0.size)
  have HONx_1 : Hid ((w1).ownsRow B1 9 1 (.slice oNx n1 pNx) n1 (xs.map Value.string)) := owns_below HONx_0.out bw (fun g hg => owns_lt HONx_0.out hg)
  have HOVx_1 : Hid ((w1).ownsRow B1 9 1 (.slice oVx n2 pVx) n2 (ys.map Value.string)) := owns_below HOVx_0.out bw (fun g hg => owns_lt HOVx_0.out hg)
  have HOFx_1 : Hid ((w1).ownsRow B1 167 2 (.slice oFx n3 pFx) n3 (flatF fs)) := owns_below HOFx_0.out bw (fun g hg => owns_lt HOFx_0.out hg)
  have HONy_1 : Hid ((w1).ownsRow B2 9 1 (.slice oNy n1 pNy) n1 (xs.map Value.string)) := owns_below HONy_0.out bw (fun g hg => owns_lt HONy_0.out hg)
  have HOVy_1 : Hid ((w1).ownsRow B2 9 1 (.slice oVy n2 pVy) n2 (ys.map Value.string)) := owns_below HOVy_0.out bw (fun g hg => owns_lt HOVy_0.out hg)
  have HOFy_1 : Hid ((w1).ownsRow B2 167 2 (.slice oFy n3 pFy) n3 (flatF fs)) := owns_below HOFy_0.out bw (fun g hg => owns_lt HOFy_0.out hg)
  have HBv1_1 : Hid ((w1).heap[qv1]? = some (.cells #[.string p, .slice oNx n1 pNx, .slice oVx n2 pVx, .int .i64 st, .slice oFx n3 pFx, .string b, .int .i64 t, .int .i64 ka, .int .i64 kq] 145)) := by show _ = _; rw [hW1, ← hz1]; exact heap_alloc_new _ _
  clear hb0 HONx_0 HOVx_0 HOFx_0 HONy_0 HOVy_0 HOFy_0 bw hW1 hz1
  obtain ⟨qv2, hqv2⟩ : ∃ q, q = qv1 + 1 := ⟨_, rfl⟩
  obtain ⟨w2, hW2⟩ : ∃ W, W = (w1).alloc (.cells #[.string p, .slice oNy n1 pNy, .slice oVy n2 pVy, .int .i64 st, .slice oFy n3 pFy, .string b, .int .i64 t, .int .i64 ka, .int .i64 kq] 145) := ⟨_, rfl⟩
  have hz2 : (w1).heap.size = qv2 := by rw [hqv2]; exact hs1
  first | rw [← hW2, ← hqv2] | rw [← hW2]
  have hs2 : w2.heap.size = qv2 + 1 := by rw [hW2, ← hz2]; simp
  have bw : Below (w1).heap.size (w1) w2 := by rw [hW2]; exact (Below.refl _ _).alloc (Nat.le_refl _) _
  have hb2 : Below w.heap.size w (w2) := hb1.trans (bw.mono hb1.size)
  have HONx_2 : Hid ((w2).ownsRow B1 9 1 (.slice oNx n1 pNx) n1 (xs.map Value.string)) := owns_below HONx_1.out bw (fun g hg => owns_lt HONx_1.out hg)
  have HOVx_2 : Hid ((w2).ownsRow B1 9 1 (.slice oVx n2 pVx) n2 (ys.map Value.string)) := owns_below HOVx_1.out bw (fun g hg => owns_lt HOVx_1.out hg)
  have HOFx_2 : Hid ((w2).ownsRow B1 167 2 (.slice oFx n3 pFx) n3 (flatF fs)) := owns_below HOFx_1.out bw (fun g hg => owns_lt HOFx_1.out hg)
  have HONy_2 : Hid ((w2).ownsRow B2 9 1 (.slice oNy n1 pNy) n1 (xs.map Value.string)) := owns_below HONy_1.out bw (fun g hg => owns_lt HONy_1.out hg)
  have HOVy_2 : Hid ((w2).ownsRow B2 9 1 (.slice oVy n2 pVy) n2 (ys.map Value.string)) := owns_below HOVy_1.out bw (fun g hg => owns_lt HOVy_1.out hg)
  have HOFy_2 : Hid ((w2).ownsRow B2 167 2 (.slice oFy n3 pFy) n3 (flatF fs)) := owns_below HOFy_1.out bw (fun g hg => owns_lt HOFy_1.out hg)
  have HBv1_2 : Hid ((w2).heap[qv1]? = some (.cells #[.string p, .slice oNx n1 pNx, .slice oVx n2 pVx, .int .i64 st, .slice oFx n3 pFx, .string b, .int .i64 t, .int .i64 ka, .int .i64 kq] 145)) := blk_below HBv1_1.out bw
  have HBv2_2 : Hid ((w2).heap[qv2]? = some (.cells #[.string p, .slice oNy n1 pNy, .slice oVy n2 pVy, .int .i64 st, .slice oFy n3 pFy, .string b, .int .i64 t, .int .i64 ka, .int .i64 kq] 145)) := by show _ = _; rw [hW2, ← hz2]; exact heap_alloc_new _ _
  clear hb1 HONx_1 HOVx_1 HOFx_1 HONy_1 HOVy_1 HOFy_1 HBv1_1 bw hW2 hz2
  clear hs2 hqv2 hs1 hqv1
  have cv1_0 : (w2).cell? ⟨qv1, 0, none⟩ = some (.string p) := (cell_of HBv1_2.out 0).trans rfl
  have cv1_1 : (w2).cell? ⟨qv1, 1, none⟩ = some (.slice oNx n1 pNx) := (cell_of HBv1_2.out 1).trans rfl
  have cv1_2 : (w2).cell? ⟨qv1, 2, none⟩ = some (.slice oVx n2 pVx) := (cell_of HBv1_2.out 2).trans rfl
  have cv1_3 : (w2).cell? ⟨qv1, 3, none⟩ = some (.int .i64 st) := (cell_of HBv1_2.out 3).trans rfl
  have cv1_4 : (w2).cell? ⟨qv1, 4, none⟩ = some (.slice oFx n3 pFx) := (cell_of HBv1_2.out 4).trans rfl
  have cv1_5 : (w2).cell? ⟨qv1, 5, none⟩ = some (.string b) := (cell_of HBv1_2.out 5).trans rfl
  have cv1_6 : (w2).cell? ⟨qv1, 6, none⟩ = some (.int .i64 t) := (cell_of HBv1_2.out 6).trans rfl
  have cv2_0 : (w2).cell? ⟨qv2, 0, none⟩ = some (.string p) := (cell_of HBv2_2.out 0).trans rfl
  have cv2_1 : (w2).cell? ⟨qv2, 1, none⟩ = some (.slice oNy n1 pNy) := (cell_of HBv2_2.out 1).trans rfl
  have cv2_2 : (w2).cell? ⟨qv2, 2, none⟩ = some (.slice oVy n2 pVy) := (cell_of HBv2_2.out 2).trans rfl
  have cv2_3 : (w2).cell? ⟨qv2, 3, none⟩ = some (.int .i64 st) := (cell_of HBv2_2.out 3).trans rfl
  have cv2_4 : (w2).cell? ⟨qv2, 4, none⟩ = some (.slice oFy n3 pFy) := (cell_of HBv2_2.out 4).trans rfl
  have cv2_5 : (w2).cell? ⟨qv2, 5, none⟩ = some (.string b) := (cell_of HBv2_2.out 5).trans rfl
  have cv2_6 : (w2).cell? ⟨qv2, 6, none⟩ = some (.int .i64 t) := (cell_of HBv2_2.out 6).trans rfl
  go_wp2_with fail
  refine (eqObj_any p n1 xs n2 ys st n3 fs b t _ _ _ _ _ _ _ _ _ ⟨HONx_2.out, HOVx_2.out, HOFx_2.out, APx.out⟩ ⟨HONy_2.out, HOVy_2.out, HOFy_2.out, APy.out⟩ hn1 hn2 hn3).mono ?_
  rintro e w3 ⟨rfl, bw⟩
  have hb3 : Below w.heap.size w (w3) := hb2.trans (bw.mono hb2.size)
  have HONx_3 : Hid ((w3).ownsRow B1 9 1 (.slice oNx n1 pNx) n1 (xs.map Value.string)) := owns_below HONx_2.out bw (fun g hg => owns_lt HONx_2.out hg)
  have HOVx_3 : Hid ((w3).ownsRow B1 9 1 (.slice oVx n2 pVx) n2 (ys.map Value.string)) := owns_below HOVx_2.out bw (fun g hg => owns_lt HOVx_2.out hg)
  have HOFx_3 : Hid ((w3).ownsRow B1 167 2 (.slice oFx n3 pFx) n3 (flatF fs)) := owns_below HOFx_2.out bw (fun g hg => owns_lt HOFx_2.out hg)
  have HONy_3 : Hid ((w3).ownsRow B2 9 1 (.slice oNy n1 pNy) n1 (xs.map Value.string)) := owns_below HONy_2.out bw (fun g hg => owns_lt HONy_2.out hg)
  have HOVy_3 : Hid ((w3).ownsRow B2 9 1 (.slice oVy n2 pVy) n2 (ys.map Value.string)) := owns_below HOVy_2.out bw (fun g hg => owns_lt HOVy_2.out hg)
  have HOFy_3 : Hid ((w3).ownsRow B2 167 2 (.slice oFy n3 pFy) n3 (flatF fs)) := owns_below HOFy_2.out bw (fun g hg => owns_lt HOFy_2.out hg)
  have HBv1_3 : Hid ((w3).heap[qv1]? = some (.cells #[.string p, .slice oNx n1 pNx, .slice oVx n2 pVx, .int .i64 st, .slice oFx n3 pFx, .string b, .int .i64 t, .int .i64 ka, .int .i64 kq] 145)) := blk_below HBv1_2.out bw
  have HBv2_3 : Hid ((w3).heap[qv2]? = some (.cells #[.string p, .slice oNy n1 pNy, .slice oVy n2 pVy, .int .i64 st, .slice oFy n3 pFy, .string b, .int .i64 t, .int .i64 ka, .int .i64 kq] 145)) := blk_below HBv2_2.out bw
  clear hb2 HONx_2 HOVx_2 HOFx_2 HONy_2 HOVy_2 HOFy_2 HBv1_2 HBv2_2 bw
  clear cv1_0 cv1_1 cv1_2 cv1_3 cv1_4 cv1_5 cv1_6 cv2_0 cv2_1 cv2_2 cv2_3 cv2_4 cv2_5 cv2_6
  have cv1_7 : (w3).cell? ⟨qv1, 7, none⟩ = some (.int .i64 ka) := (cell_of HBv1_3.out 7).trans rfl
  have cv2_7 : (w3).cell? ⟨qv2, 7, none⟩ = some (.int .i64 ka) := (cell_of HBv2_3.out 7).trans rfl
  have cv1_8 : (w3).cell? ⟨qv1, 8, none⟩ = some (.int .i64 kq) := (cell_of HBv1_3.out 8).trans rfl
  have cv2_8 : (w3).cell? ⟨qv2, 8, none⟩ = some (.int .i64 kq) := (cell_of HBv2_3.out 8).trans rfl
  go_wp2_with fail
  go_ret
  exact ⟨rfl, hb3⟩

/-- One of a list that came in: its cells, and its three lists. -/
def KpArg (w : World) (B b off i : Nat) (k : KpD) : Prop :=
  ∃ (a1 : Option Addr) (n1 c1 : Nat) (a2 : Option Addr) (n2 c2 : Nat) (a3 : Option Addr) (n3 c3 : Nat), (w.cell? ⟨b, off + i * 9, none⟩ = some (.string k.p) ∧ w.cell? ⟨b, off + i * 9 + 1, none⟩ = some (.slice a1 n1 c1) ∧ w.cell? ⟨b, off + i * 9 + 2, none⟩ = some (.slice a2 n2 c2) ∧ w.cell? ⟨b, off + i * 9 + 3, none⟩ = some (.int .i64 k.st) ∧ w.cell? ⟨b, off + i * 9 + 4, none⟩ = some (.slice a3 n3 c3) ∧ w.cell? ⟨b, off + i * 9 + 5, none⟩ = some (.string k.b) ∧ w.cell? ⟨b, off + i * 9 + 6, none⟩ = some (.int .i64 k.t) ∧ w.cell? ⟨b, off + i * 9 + 7, none⟩ = some (.int .i64 k.a) ∧ w.cell? ⟨b, off + i * 9 + 8, none⟩ = some (.int .i64 k.q)) ∧ ArgT w B a1 n1 k.xs ∧ ArgT w B a2 n2 k.ys ∧ ArgF w B a3 n3 k.fs
/-- A list that came in, in blocks below B. -/
def ArgKept (w : World) (B : Nat) (a : Option Addr) (n : Nat) (ks : List KpD) : Prop :=
  ks.length = n ∧ ∀ i, i < n → ∃ b off, a = some ⟨b, off, none⟩ ∧ b < B ∧ KpArg w B b off i (kpAt ks i)
theorem ArgKept.below {w w' : World} {B : Nat} {a : Option Addr} {n : Nat} {ks : List KpD} (h : ArgKept w B a n ks) (hb : Below B w w') : ArgKept w' B a n ks :=
  ⟨h.1, fun i hi => by
    obtain ⟨b, off, h1, h2, a1, n1, c1, a2, n2, c2, a3, n3, c3, ⟨r0, r1, r2, r3, r4, r5, r6, r7, r8⟩, g1, g2, g3⟩ := h.2 i hi
    exact ⟨b, off, h1, h2, a1, n1, c1, a2, n2, c2, a3, n3, c3, ⟨by rw [hb.cell (p := ⟨b, off + i * 9, none⟩) h2]; exact r0, by rw [hb.cell (p := ⟨b, off + i * 9 + 1, none⟩) h2]; exact r1, by rw [hb.cell (p := ⟨b, off + i * 9 + 2, none⟩) h2]; exact r2, by rw [hb.cell (p := ⟨b, off + i * 9 + 3, none⟩) h2]; exact r3, by rw [hb.cell (p := ⟨b, off + i * 9 + 4, none⟩) h2]; exact r4, by rw [hb.cell (p := ⟨b, off + i * 9 + 5, none⟩) h2]; exact r5, by rw [hb.cell (p := ⟨b, off + i * 9 + 6, none⟩) h2]; exact r6, by rw [hb.cell (p := ⟨b, off + i * 9 + 7, none⟩) h2]; exact r7, by rw [hb.cell (p := ⟨b, off + i * 9 + 8, none⟩) h2]; exact r8⟩, g1.below hb, g2.below hb, g3.below hb⟩⟩
/-- No greater than may be. -/
def KpMax (k : KpD) : Prop := k.xs.length ≤ maxLen ∧ k.ys.length ≤ maxLen ∧ k.fs.length ≤ maxLen ∧ (∀ i, i < k.xs.length → (textAt k.xs i).size ≤ maxLen) ∧ (∀ i, i < k.ys.length → (textAt k.ys i).size ≤ maxLen) ∧ WalkF k.fs.length k.fs ∧ k.p.size ≤ maxLen ∧ k.b.size ≤ maxLen
/-- Small enough to be measured. -/
def KpSmall (k : KpD) : Prop := (k.p.size ≤ 1048576 ∧ k.b.size ≤ 1048576) ∧ (k.xs.length ≤ 1048576 ∧ ∀ i, i < k.xs.length → (textAt k.xs i).size ≤ 1048576) ∧ (k.ys.length ≤ 1048576 ∧ ∀ i, i < k.ys.length → (textAt k.ys i).size ≤ 1048576) ∧ k.fs.length ≤ 1048576 ∧ szTo k.fs k.fs.length ≤ 1048576
/-- How many there are, lists and their elements together. -/
def wtK : List KpD → Nat
  | [] => 0
  | k :: r => 1 + k.xs.length + k.ys.length + k.fs.length + wtK r
theorem wtK_snoc (k : KpD) : ∀ l : List KpD, wtK (l ++ [k]) = wtK l + (1 + k.xs.length + k.ys.length + k.fs.length)
  | [] => by simp [wtK]
  | x :: l => by rw [List.cons_append, wtK, wtK_snoc k l, wtK]; omega
theorem objO_rows {w : World} {B : Nat} {v1 v2 v3 : Value} {k : KpD} (h : ObjO w B v1 k.xs.length k.xs v2 k.ys.length k.ys v3 k.fs.length k.fs) : RowsO w B (kpR (k, v1, v2, v3)) := by
  refine ⟨fun r hr => ?_, ?_⟩
  · simp only [kpR, List.mem_cons, List.not_mem_nil, or_false] at hr
    rcases hr with rfl | rfl | rfl
    · exact h.names
    · exact h.vals
    · exact h.flds
  · unfold kpR
    refine List.pairwise_cons.2 ⟨fun r hr => ?_, List.pairwise_cons.2 ⟨fun r hr => ?_, List.pairwise_singleton _ _⟩⟩
    · simp only [List.mem_cons, List.not_mem_nil, or_false] at hr
      rcases hr with rfl | rfl
      · exact fun g hg => h.ne g hg
      · exact fun g hg => own_two h.names h.flds (by decide) hg
    · rw [List.mem_singleton.1 hr]
      exact fun g hg => own_two h.vals h.flds (by decide) hg
theorem rows_objO {w : World} {B : Nat} {x : KpD × Value × Value × Value} (h : RowsO w B (kpR x)) : ObjO w B x.2.1 x.1.xs.length x.1.xs x.2.2.1 x.1.ys.length x.1.ys x.2.2.2 x.1.fs.length x.1.fs := by
  have hp := h.apart
  unfold kpR at hp
  exact ⟨h.own (kpN x) (by simp [kpR]), h.own (kpV x) (by simp [kpR]), h.own (kpF x) (by simp [kpR]), fun g hg => (List.pairwise_cons.1 hp).1 (kpV x) (by simp) g hg⟩
/-- The measure is negative, or what is left of L. -/
def SzKeptS (L : Int) (ks : List KpD) (w : World) (e : Ending) (w' : World) : Prop :=
  ∃ r : Int, e = .returned (.int .i64 r) ∧ r ≤ L ∧ (0 ≤ r → r + (wtK ks : Int) ≤ L ∧ ∀ k ∈ ks, KpSmall k) ∧ Below w.heap.size w w'

set_option maxHeartbeats 8000000 in
set_option maxRecDepth 100000 in
theorem szKeptS_any (L : Int) (hL0 : 0 ≤ L) (hL1 : L ≤ 1048576) (B : Nat) (a : Option Addr) (n cap : Nat) (ks : List KpD) (w : World) (harg : ArgKept w B a n ks) (hB : B ≤ w.heap.size) (hn : n ≤ maxLen) (hsz : ∀ k ∈ ks, KpMax k) :
    Calls Try.prog 34 #[.slice a n cap, .int .i64 L] w fun e w' => SzKeptS L ks w e w' := by
  unfold maxLen at hn
  have HS : Hid (∀ k ∈ ks, KpMax k) := hsz
  have HLN : Hid (ks.length = n) := harg.1
  have HA : Hid (∀ W, Below w.heap.size w W → ArgKept W B a n ks) := fun W h => harg.below (h.mono hB)
  have HBB : Hid (∀ W, Below w.heap.size w W → B ≤ W.heap.size) := fun W h => Nat.le_trans hB h.size
  clear hsz harg hB
  by_cases c1 : L - (n : Int) < 0
  · go_enter Try.func34, Try.ntmps34
    go_wp2
    go_ret
    exact ⟨-1, rfl, by omega, fun h => absurd h (by omega), Below.refl _ _⟩
  · go_enter Try.func34, Try.ntmps34
    go_wp2
    go_loopw [1, 5] (fun lf i wr => ∃ (k : Nat) (x : Int), k ≤ n ∧ i = .int .i64 (k : Int) ∧ lf = .int .i64 x ∧ 0 ≤ x ∧ x ≤ L ∧ Hid (x + (wtK (ks.take k) : Int) + ((n : Int) - (k : Int)) ≤ L ∧ ∀ y ∈ ks.take k, KpSmall y) ∧ Hid (Below w.heap.size w wr)) (fun _ i _ => n - (intOf i).toNat)
    case atStart => exact ⟨0, _, Nat.zero_le _, rfl, rfl, by omega, by omega, ⟨by simp [wtK], fun x hx => by simp at hx⟩, Below.refl _ _⟩
    case round =>
      obtain ⟨k, x, hk, rfl, rfl, hx0, hx1, HX, HBW⟩ := hrel
      by_cases hlt : k < n
      · have hlt2 : (k : Int) < (n : Int) := by omega
        obtain ⟨b, off, rfl, hbB, a1, n1, c1, a2, n2, c2, a3, n3, c3, ⟨r0, r1, r2, r3, r4, r5, r6, r7, r8⟩, g1, g2, g3⟩ := (HA.out wr HBW.out).2 k hlt
        obtain ⟨y, hy⟩ : ∃ y, y = kpAt ks k := ⟨_, rfl⟩
        have HM : Hid (y ∈ ks) := by show _ ∈ _; rw [hy]; exact kpAt_mem ks k (by rw [HLN.out]; exact hlt)
        have HTK : Hid (ks.take (k + 1) = ks.take k ++ [y]) := by show _ = _; rw [hy]; exact kpAt_take ks k (by rw [HLN.out]; exact hlt)
        rw [← hy] at r0 r3 r5 r6 r7 r8 g1 g2 g3
        have HG1 : Hid (ArgT wr B a1 n1 y.xs) := g1
        have HG2 : Hid (ArgT wr B a2 n2 y.ys) := g2
        have HG3 : Hid (ArgF wr B a3 n3 y.fs) := g3
        clear hy g1 g2 g3
        go_wp2_with fail
        refine (szKept_any x hx0 (by omega) y.p a1 n1 c1 y.xs a2 n2 c2 y.ys y.st a3 n3 c3 y.fs y.b y.t y.a y.q B _ HG1.out HG2.out HG3.out (HBB.out _ HBW.out) (by rw [← HG1.out.len]; exact (HS.out y HM.out).1) (by rw [← HG2.out.len]; exact (HS.out y HM.out).2.1) (by rw [← HG3.out.len]; exact (HS.out y HM.out).2.2.1) (by rw [← HG1.out.len]; exact (HS.out y HM.out).2.2.2.1) (by rw [← HG2.out.len]; exact (HS.out y HM.out).2.2.2.2.1) (by rw [← HG3.out.len]; exact (HS.out y HM.out).2.2.2.2.2.1) (HS.out y HM.out).2.2.2.2.2.2.1 (HS.out y HM.out).2.2.2.2.2.2.2).mono ?_
        rintro e w1 ⟨r, rfl, hr1, hr2, bw⟩
        have HB2 : Hid (Below w.heap.size w w1) := HBW.out.trans (bw.mono HBW.out.size)
        clear r0 r1 r2 r3 r4 r5 r6 r7 r8 bw
        by_cases d1 : r < 0
        · clear hr2
          go_wp2
          go_ret
          exact ⟨-1, rfl, by omega, fun h => absurd h (by omega), HB2.out⟩
        · have HX2 : Hid (r + (wtK (ks.take (k + 1)) : Int) + ((n : Int) - ((k + 1 : Nat) : Int)) ≤ L ∧ ∀ y ∈ ks.take (k + 1), KpSmall y) := by
            obtain ⟨q1, q2, q3, q4, q5, q6⟩ := hr2 (by omega)
            obtain ⟨m1, m2⟩ := HX.out
            rw [← HG1.out.len] at q1 q3
            rw [← HG2.out.len] at q1 q4
            rw [← HG3.out.len] at q1 q5 q6
            refine ⟨?_, fun z hz => ?_⟩
            · rw [HTK.out, wtK_snoc]
              omega
            · rw [HTK.out] at hz
              rcases List.mem_append.1 hz with hz | hz
              · exact m2 z hz
              · rw [List.mem_singleton.1 hz]; exact ⟨q2, q3, q4, q5, q6⟩
          clear hr2
          go_wp2
          go_roundw
          case rel => exact ⟨k + 1, r, by omega, by go_num, rfl, by omega, by omega, HX2, HB2⟩
          case measure => simp [intOf]; omega
      · have HF : Hid (x + (wtK ks : Int) ≤ L ∧ ∀ k ∈ ks, KpSmall k) := by
          obtain ⟨m1, m2⟩ := HX.out
          rw [List.take_of_length_le (by rw [HLN.out]; omega)] at m1 m2
          exact ⟨by omega, m2⟩
        go_wp2
        go_ret
        exact ⟨x, rfl, by omega, fun _ => HF.out, HBW.out⟩

theorem infoKept : (Try.prog.info? 145).map (fun i => (i.zero, i.size, i.bytes)) = some (some (.agg #[.string ⟨#[]⟩, .slice none 0 0, .slice none 0 0, .int .i64 0, .slice none 0 0, .string ⟨#[]⟩, .int .i64 0, .int .i64 0, .int .i64 0]), 9, 136) := by kernel_rfl
/-- A call answers a list of these, of its own. -/
def KeptIs (ks : List KpD) (w : World) (e : Ending) (w' : World) : Prop := ∃ (V : Value) (kv : List (KpD × Value × Value × Value)), e = .returned V ∧ kv.map (·.1) = ks ∧ KeptsO w' w.heap.size V kv ∧ Below w.heap.size w w'
theorem KeptsO.obj {w : World} {base : Nat} {V : Value} {kv : List (KpD × Value × Value × Value)} (h : KeptsO w base V kv) {x : KpD × Value × Value × Value} (hx : x ∈ kv) : RowsO w base (kpR x) := by
  obtain ⟨s, t, e⟩ := List.append_of_mem hx
  refine RowsO.sub h ?_
  unfold kpAll
  rw [e, List.flatMap_append, List.flatMap_cons]
  exact ((List.sublist_append_left _ _).trans (List.sublist_append_right _ _)).trans (List.sublist_cons_self _ _)
/-- Told item by item, and the items' own lists behind the row: a list of one's own. -/
theorem parts_kept {w : World} {g n base : Nat} {kv : List (KpD × Value × Value × Value)} (hp : PartO kpC 9 145 w g n kv) (hl : kv.length = n) (hm : n ≤ maxLen) (hb : base ≤ g) (hr : RowsO w (g + 1) (kv.flatMap kpR)) : KeptsO w base (.slice (some ⟨g, 0, none⟩) n n) kv := by
  have hrow : (kpRow (.slice (some ⟨g, 0, none⟩) n n) kv).own w base := by
    have h := hp.owns kpC_len (by decide) hl hm hb
    unfold Rw.own kpRow
    rw [hl]
    exact h
  refine ⟨fun r h => ?_, List.pairwise_cons.2 ⟨fun r h g' h1 h2 => ?_, hr.apart⟩⟩
  · rcases List.mem_cons.1 h with h | h
    · rw [h]; exact hrow
    · exact owns_wide (hr.own r h) (by omega)
  · have e1 : some g = some g' := h1
    have e2 := hr.ge h h2
    have e3 := Option.some.inj e1
    omega

set_option maxHeartbeats 8000000 in
set_option maxRecDepth 100000 in
theorem toKeptS_any (B : Nat) (a : Option Addr) (n cap : Nat) (ks : List KpD) (w : World) (harg : ArgKept w B a n ks) (hB : B ≤ w.heap.size) (hn : n ≤ 1048576) (hsm : ∀ k ∈ ks, k.xs.length ≤ 1048576 ∧ k.ys.length ≤ 1048576 ∧ k.fs.length ≤ 1048576) :
    Calls Try.prog 40 #[.slice a n cap] w fun e w' => KeptIs ks w e w' := by
  obtain ⟨i0, hi, hz0, hz1, hz2⟩ := info_parts infoKept
  obtain ⟨M, hM⟩ : ∃ M, M = madeCells (Value.agg #[.string ⟨#[]⟩, .slice none 0 0, .slice none 0 0, .int .i64 0, .slice none 0 0, .string ⟨#[]⟩, .int .i64 0, .int .i64 0, .int .i64 0]).cells (((n : Nat) : Int).toNat * i0.size) := ⟨_, rfl⟩
  have hmk : ∀ W : World, (Instr.makeSlice 41 (.int .i64 (n : Int)) (.int .i64 (n : Int))).run Try.prog W = .ok (.slice (some ⟨W.heap.size, 0, none⟩) n n) (W.alloc (.cells M 145)) := fun W => by
    have h := run_make (P := Try.prog) W 41 145 i0 (.agg #[.string ⟨#[]⟩, .slice none 0 0, .slice none 0 0, .int .i64 0, .slice none 0 0, .string ⟨#[]⟩, .int .i64 0, .int .i64 0, .int .i64 0]) Try.underlying41 hi hz0 .i64 .i64 (n : Int) (n : Int) (by omega) (by omega) (by rw [hz2]; omega) (by omega)
    rw [← hM] at h
    simpa using h
  have hMs : M.size = n * 9 := by rw [hM, size_madeCells, hz1]; simp
  have HLN : Hid (ks.length = n) := harg.1
  have HSM : Hid (∀ k ∈ ks, k.xs.length ≤ 1048576 ∧ k.ys.length ≤ 1048576 ∧ k.fs.length ≤ 1048576) := hsm
  have HA : Hid (∀ W, Below w.heap.size w W → ArgKept W B a n ks) := fun W h => harg.below (h.mono hB)
  have HBB : Hid (∀ W, Below w.heap.size w W → B ≤ W.heap.size) := fun W h => Nat.le_trans hB h.size
  clear hM harg hsm hB
  obtain ⟨g, hg⟩ : ∃ g, g = w.heap.size := ⟨_, rfl⟩
  have HG : Hid (w.heap.size = g) := hg.symm
  have HP : Hid (([] : List (KpD × Value × Value × Value)).length = 0 ∧ ([] : List (KpD × Value × Value × Value)).map (·.1) = ks.take 0 ∧ PartO kpC 9 145 (w.alloc (.cells M 145)) g n [] ∧ RowsO (w.alloc (.cells M 145)) (g + 1) (([] : List (KpD × Value × Value × Value)).flatMap kpR)) := ⟨rfl, by simp, ⟨M, by rw [hg]; exact heap_alloc_new w _, hMs, fun i h => absurd h (by simp)⟩, RowsO.nil _ _⟩
  have HPB : Hid (Below w.heap.size w (w.alloc (.cells M 145))) := (Below.refl _ _).alloc (Nat.le_refl _) _
  go_enter Try.func40, Try.ntmps40
  go_wp2
  rw [HG.out]
  clear hg hMs
  go_loopw [4] (fun i wr => ∃ (k : Nat) (kv : List (KpD × Value × Value × Value)), k ≤ n ∧ i = .int .i64 (k : Int) ∧ Hid (kv.length = k ∧ kv.map (·.1) = ks.take k ∧ PartO kpC 9 145 wr g n kv ∧ RowsO wr (g + 1) (kv.flatMap kpR)) ∧ Hid (Below w.heap.size w wr)) (fun i _ => n - (intOf i).toNat)
  case atStart => exact ⟨0, [], Nat.zero_le _, rfl, HP, HPB⟩
  case round =>
    obtain ⟨k, kv, hk, rfl, hpr, HBW⟩ := hrel
    by_cases hlt : k < n
    · have hlt2 : (k : Int) < (n : Int) := by omega
      obtain ⟨b, off, rfl, hbB, a1, n1, c1, a2, n2, c2, a3, n3, c3, ⟨r0, r1, r2, r3, r4, r5, r6, r7, r8⟩, g1, g2, g3⟩ := (HA.out wr HBW.out).2 k hlt
      obtain ⟨y, hy⟩ : ∃ y, y = kpAt ks k := ⟨_, rfl⟩
      have HM : Hid (y ∈ ks) := by show _ ∈ _; rw [hy]; exact kpAt_mem ks k (by rw [HLN.out]; exact hlt)
      have HTK : Hid (ks.take (k + 1) = ks.take k ++ [y]) := by show _ = _; rw [hy]; exact kpAt_take ks k (by rw [HLN.out]; exact hlt)
      rw [← hy] at r0 r3 r5 r6 r7 r8 g1 g2 g3
      have HG1 : Hid (ArgT wr B a1 n1 y.xs) := g1
      have HG2 : Hid (ArgT wr B a2 n2 y.ys) := g2
      have HG3 : Hid (ArgF wr B a3 n3 y.fs) := g3
      clear hy g1 g2 g3
      go_wp2_with fail
      refine (toKept_any y.p a1 n1 c1 y.xs a2 n2 c2 y.ys y.st a3 n3 c3 y.fs y.b y.t y.a y.q B _ HG1.out HG2.out HG3.out (HBB.out _ HBW.out) (by rw [← HG1.out.len]; exact (HSM.out y HM.out).1) (by rw [← HG2.out.len]; exact (HSM.out y HM.out).2.1) (by rw [← HG3.out.len]; exact (HSM.out y HM.out).2.2)).mono ?_
      rintro e w1 ⟨v1, v2, v3, rfl, hobj, bw⟩
      clear r0 r1 r2 r3 r4 r5 r6 r7 r8
      obtain ⟨o1, p1, rfl⟩ := slice_of_owns hobj.names
      obtain ⟨o2, p2, rfl⟩ := slice_of_owns hobj.vals
      obtain ⟨o3, p3, rfl⟩ := slice_of_owns hobj.flds
      obtain ⟨q1, q2, q3, q4⟩ := hpr.out
      have hgl : g < wr.heap.size := q3.lt
      have HB2 : Hid (Below w.heap.size w w1) := HBW.out.trans (bw.mono HBW.out.size)
      have hpr1 := q3.below bw
      obtain ⟨x, hx⟩ : ∃ x : KpD × Value × Value × Value, x = (y, .slice o1 n1 p1, .slice o2 n2 p2, .slice o3 n3 p3) := ⟨_, rfl⟩
      have hnew : RowsO w1 wr.heap.size (kpR x) := by
        rw [hx]
        apply objO_rows
        rw [HG1.out.len, HG2.out.len, HG3.out.len]
        exact hobj
      have hall : RowsO w1 (g + 1) (kv.flatMap kpR ++ kpR x) := q4.more bw hnew (Nat.le_refl _) hgl
      have HALL : Hid ((kv ++ [x]).length = k + 1 ∧ (kv ++ [x]).map (·.1) = ks.take (k + 1) ∧ PartO kpC 9 145 (setW w1 g (k * 9) (kpC x)) g n (kv ++ [x]) ∧ RowsO (setW w1 g (k * 9) (kpC x)) (g + 1) ((kv ++ [x]).flatMap kpR)) := by
        refine ⟨by rw [List.length_append, q1]; rfl, by rw [List.map_append, q2, HTK.out, hx]; rfl, ?_, ?_⟩
        · have h := hpr1.put kpC_len x (by omega)
          rw [q1] at h
          exact h
        · rw [List.flatMap_append]
          have h2 : RowsO (setW w1 g (k * 9) (kpC x)) (g + 1) (kv.flatMap kpR ++ kpR x) := hall.same (fun r hr j hj => setW_other g j (by have := hall.ge hr hj; omega) _ _ _)
          simpa using h2
      have HBE : Hid (Below w.heap.size w (setW w1 g (k * 9) (kpC x))) := setW_below (by rw [HG.out]; exact Nat.le_refl _) _ _ _ _ HB2.out
      rw [hx] at HALL HBE
      obtain ⟨u0, hu0⟩ := hpr1.cell (k * 9) (by omega)
      have f0 := hpr1.frozen (k * 9)
      obtain ⟨u1, hu1⟩ := hpr1.cell (k * 9 + 1) (by omega)
      have f1 := hpr1.frozen (k * 9 + 1)
      obtain ⟨u2, hu2⟩ := hpr1.cell (k * 9 + 2) (by omega)
      have f2 := hpr1.frozen (k * 9 + 2)
      obtain ⟨u3, hu3⟩ := hpr1.cell (k * 9 + 3) (by omega)
      have f3 := hpr1.frozen (k * 9 + 3)
      obtain ⟨u4, hu4⟩ := hpr1.cell (k * 9 + 4) (by omega)
      have f4 := hpr1.frozen (k * 9 + 4)
      obtain ⟨u5, hu5⟩ := hpr1.cell (k * 9 + 5) (by omega)
      have f5 := hpr1.frozen (k * 9 + 5)
      obtain ⟨u6, hu6⟩ := hpr1.cell (k * 9 + 6) (by omega)
      have f6 := hpr1.frozen (k * 9 + 6)
      obtain ⟨u7, hu7⟩ := hpr1.cell (k * 9 + 7) (by omega)
      have f7 := hpr1.frozen (k * 9 + 7)
      obtain ⟨u8, hu8⟩ := hpr1.cell (k * 9 + 8) (by omega)
      have f8 := hpr1.frozen (k * 9 + 8)
      clear hpr1 hall hnew hx q1 q2 q3 q4 hobj bw hpr
      go_wp2
      go_roundw
      case rel => exact ⟨k + 1, _, by omega, by go_num, HALL, HBE⟩
      case measure => simp [intOf]; omega
    · obtain rfl : k = n := by omega
      obtain ⟨q1, q2, q3, q4⟩ := hpr.out
      have HF : Hid (kv.map (·.1) = ks ∧ KeptsO wr w.heap.size (.slice (some ⟨g, 0, none⟩) k k) kv) := by
        refine ⟨?_, parts_kept q3 q1 (by unfold maxLen; omega) (by rw [HG.out]; exact Nat.le_refl _) q4⟩
        rw [q2, List.take_of_length_le (by rw [HLN.out]; exact Nat.le_refl _)]
      clear q1 q2 q3 q4
      go_wp2
      go_ret
      exact ⟨_, kv, rfl, HF.out.1, HF.out.2, HBW.out⟩

end Go.Proofs.Ytajccgffallajaa
