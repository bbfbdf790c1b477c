/- What the exact laws of chapter 2 do with a list of fields: measured, copied, held against each other, marked: contracts over the translation. -/
import Derived.Test.YtacfajnagbeocaaGreatDoorFields
import Derived.Deep.RegionHeld3
import Derived.Deep.DrawnRows
namespace Go.Proofs.YtacfajnagbeocaaGreatDoor
open Go.RowKit
open Go.Lib hiding intOf

attribute [local go_sem ↓] Go.wp_at_zero Go.wp_at_succ

/-- A list of fields that came in, in blocks below B. -/
structure ArgF (w : World) (B : Nat) (a : Option Addr) (n : Nat) (fs : List (ByteArray × ByteArray)) : Prop where
  len : fs.length = n
  get : ∀ i, i < n → ∃ b off, a = some ⟨b, off, none⟩ ∧ b < B ∧ w.cell? ⟨b, off + i * 2, none⟩ = some (.string (nameAt fs i)) ∧ w.cell? ⟨b, off + i * 2 + 1, none⟩ = some (.string (valAt fs i))
theorem ArgF.below {w w' : World} {B : Nat} {a : Option Addr} {n : Nat} {fs : List (ByteArray × ByteArray)} (h : ArgF w B a n fs) (hb : Below B w w') : ArgF w' B a n fs :=
  ⟨h.len, fun i hi => by
    obtain ⟨b, off, h1, h2, h3, h4⟩ := h.get i hi
    exact ⟨b, off, h1, h2, by rw [hb.cell (p := ⟨b, off + i * 2, none⟩) h2]; exact h3, by rw [hb.cell (p := ⟨b, off + i * 2 + 1, none⟩) h2]; exact h4⟩⟩

/-- How many letters the first k fields hold. -/
def szTo (fs : List (ByteArray × ByteArray)) : Nat → Nat
  | 0 => 0
  | k + 1 => szTo fs k + (nameAt fs k).size + (valAt fs k).size

/-- The measure is negative, or it says how much room is left. -/
def SzIs (n : Nat) (fs : List (ByteArray × ByteArray)) (w : World) (e : Ending) (w' : World) : Prop :=
  ∃ r : Int, e = .returned (.int .i64 r) ∧ (0 ≤ r → n ≤ 1048576 ∧ szTo fs n ≤ 1048576) ∧ Below w.heap.size w w'

theorem info33 : (Tryz.prog.info? 63).map (fun i => (i.zero, i.size, i.bytes)) = some (some (.agg #[.string ⟨#[]⟩, .string ⟨#[]⟩]), 2, 32) := by kernel_rfl

theorem heap_set (w : World) (c o : Nat) (cs : Array Value) (t : TypeId) (fz : Nat × Nat) (v : Value) (h : w.heap[c]? = some (.cells cs t fz)) : (w.setCell ⟨c, o, none⟩ v).heap[c]? = some (.cells (cs.setIfInBounds o v) t fz) := by
  simp [World.setCell, Array.getElem?_modify, h]
/-- The first k fields of a row of 2 n cells are told. -/
def PartRow (w : World) (g n k : Nat) (fs : List (ByteArray × ByteArray)) : Prop :=
  ∃ cur, w.heap[g]? = some (.cells cur 63 (0, 0)) ∧ cur.size = n * 2 ∧ ∀ i, i < k → cur[i * 2]? = some (.string (nameAt fs i)) ∧ cur[i * 2 + 1]? = some (.string (valAt fs i))
theorem PartRow.below {w w' : World} {g n k B : Nat} {fs : List (ByteArray × ByteArray)} (h : PartRow w g n k fs) (hb : Below B w w') (hB : g < B) : PartRow w' g n k fs := by
  obtain ⟨cur, h1, h2⟩ := h
  exact ⟨cur, by rw [hb.block g hB]; exact h1, h2⟩
theorem PartRow.lt {w : World} {g n k : Nat} {fs : List (ByteArray × ByteArray)} (h : PartRow w g n k fs) : g < w.heap.size := by
  obtain ⟨cur, h1, _⟩ := h
  exact (Array.getElem?_eq_some_iff.1 h1).1
theorem PartRow.cell {w : World} {g n k : Nat} {fs : List (ByteArray × ByteArray)} (h : PartRow w g n k fs) (j : Nat) (hj : j < n * 2) : ∃ u, w.cell? ⟨g, j, none⟩ = some u := by
  obtain ⟨cur, h1, h2, _⟩ := h
  refine ⟨cur[j]'(by omega), ?_⟩
  simp only [World.cell?, h1]
  simp [show j < cur.size by omega]
theorem PartRow.frozen {w : World} {g n k : Nat} {fs : List (ByteArray × ByteArray)} (h : PartRow w g n k fs) (j : Nat) : w.frozen? ⟨g, j, none⟩ = false := by
  obtain ⟨cur, h1, _⟩ := h
  simp [World.frozen?, h1]
theorem PartRow.put {w : World} {g n k : Nat} {fs : List (ByteArray × ByteArray)} (h : PartRow w g n k fs) (hk : k < n) : PartRow ((w.setCell ⟨g, k * 2, none⟩ (.string (nameAt fs k))).setCell ⟨g, k * 2 + 1, none⟩ (.string (valAt fs k))) g n (k + 1) fs := by
  obtain ⟨cur, h1, h2, h3⟩ := h
  refine ⟨_, heap_set _ g (k * 2 + 1) _ _ _ _ (heap_set w g (k * 2) _ _ _ _ h1), by simpa using h2, ?_⟩
  intro i hi
  by_cases e : i = k
  · subst e
    refine ⟨?_, ?_⟩
    · rw [Array.getElem?_setIfInBounds_ne (by omega), Array.getElem?_setIfInBounds_self_of_lt (by omega)]
    · rw [Array.getElem?_setIfInBounds_self_of_lt (by simp; omega)]
  · have := h3 i (by omega)
    refine ⟨?_, ?_⟩
    · rw [Array.getElem?_setIfInBounds_ne (by omega), Array.getElem?_setIfInBounds_ne (by omega)]; exact this.1
    · rw [Array.getElem?_setIfInBounds_ne (by omega), Array.getElem?_setIfInBounds_ne (by omega)]; exact this.2
theorem PartRow.owns {w : World} {g n : Nat} {fs : List (ByteArray × ByteArray)} (h : PartRow w g n n fs) (hl : fs.length = n) (hm : n ≤ maxLen) {base : Nat} (hb : base ≤ g) : w.ownsRow base 63 2 (.slice (some ⟨g, 0, none⟩) n n) n (flatF fs) :=
  FieldRow.owns ⟨hl, hb, h.lt, Nat.le_refl _, hm, h⟩

set_option maxHeartbeats 1000000 in
theorem eqField_any (nm vl : ByteArray) (w : World) :
    Calls Tryz.prog 41 #[.agg #[.string nm, .string vl], .agg #[.string nm, .string vl]] w fun e w' => e = .returned (.bool true) ∧ Below w.heap.size w w' := by
  go_enter Tryz.func41, Tryz.ntmps41
  go_wp2
  go_ret
  exact ⟨rfl, ((Below.refl _ _).alloc (Nat.le_refl _) _).alloc (by simp) _⟩

set_option maxHeartbeats 2000000 in
theorem eqFieldS_any (v1 v2 : Value) (n b1 b2 : Nat) (fs : List (ByteArray × ByteArray)) (w : World) (h1 : FieldsV w b1 v1 n fs) (h2 : FieldsV w b2 v2 n fs) (hn : n ≤ 2000000) :
    Calls Tryz.prog 31 #[v1, v2] w fun e w' => e = .returned (.bool true) ∧ Below w.heap.size w w' := by
  rcases h1 with ⟨oa, ca, rfl, _, rfl, rfl⟩ | ⟨g1, c1, rfl, hp, r1⟩
  · rcases h2 with ⟨ob, cb, rfl, _, _, _⟩ | ⟨g2, c2, rfl, hp2, _⟩
    · go_enter Tryz.func31, Tryz.ntmps31
      go_wp2
      refine wp_loop_rounds 1 ?_
      rw [rounds_succ]
      go_wp2
      go_ret
      exact ⟨rfl, Below.refl _ _⟩
    · omega
  · rcases h2 with ⟨ob, cb, rfl, _, h0, _⟩ | ⟨g2, c2, rfl, hp2, r2⟩
    · omega
    · go_enter Tryz.func31, Tryz.ntmps31
      go_wp2
      go_loopw [5] (fun i wr => ∃ k : Nat, k ≤ n ∧ i = .int .i64 (k : Int) ∧ Below w.heap.size w wr) (fun i _ => n - (intOf i).toNat)
      case atStart => exact ⟨0, Nat.zero_le _, rfl, Below.refl _ _⟩
      case round =>
        obtain ⟨k, hk, rfl, hbw⟩ := hrel
        by_cases hlt : k < n
        · have hlt2 : (k : Int) < (n : Int) := by omega
          obtain ⟨nm, hnm⟩ : ∃ y, y = nameAt fs k := ⟨_, rfl⟩
          obtain ⟨vl, hvl⟩ : ∃ y, y = valAt fs k := ⟨_, rfl⟩
          have ha := (r1.below hbw r1.lt).name k hlt
          have hb := (r1.below hbw r1.lt).val k hlt
          have hc := (r2.below hbw r2.lt).name k hlt
          have hd := (r2.below hbw r2.lt).val k hlt
          rw [← hnm] at ha hc
          rw [← hvl] at hb hd
          have HA : Hid (∀ w0 w1, Below wr.heap.size wr w0 → Below w0.heap.size w0 w1 → (w1.cell? ⟨g1, k * 2, none⟩ = some (.string nm) ∧ w1.cell? ⟨g1, k * 2 + 1, none⟩ = some (.string vl) ∧ w1.cell? ⟨g2, k * 2, none⟩ = some (.string nm) ∧ w1.cell? ⟨g2, k * 2 + 1, none⟩ = some (.string vl)) ∧ Below wr.heap.size wr w1) := fun w0 w1 h h' => by
            have hx := h.trans (h'.mono h.size)
            have hy := hbw.trans (hx.mono hbw.size)
            have a1 := (r1.below hy r1.lt).name k hlt
            have a2 := (r1.below hy r1.lt).val k hlt
            have a3 := (r2.below hy r2.lt).name k hlt
            have a4 := (r2.below hy r2.lt).val k hlt
            rw [← hnm] at a1 a3
            rw [← hvl] at a2 a4
            exact ⟨⟨a1, a2, a3, a4⟩, hx⟩
          clear hnm hvl
          go_wp2
          go_region_held3 (fun w' => w'.cell? ⟨g1, k * 2, none⟩ = some (.string nm) ∧ w'.cell? ⟨g1, k * 2 + 1, none⟩ = some (.string vl) ∧ w'.cell? ⟨g2, k * 2, none⟩ = some (.string nm) ∧ w'.cell? ⟨g2, k * 2 + 1, none⟩ = some (.string vl)) (first | assumption | go_keep) (first | (go_at_call 41; refine (eqField_any _ _ _).mono ?_; rintro e w1 ⟨rfl, hb1⟩; obtain ⟨hcc, hbx⟩ := HA.out _ w1 ((Below.refl _ wr).drew) hb1))
          go_wp2
          go_roundw
          case rel => exact ⟨k + 1, by omega, by go_num, hbw.trans (hbx.mono hbw.size)⟩
          case measure => simp [intOf]; omega
        · go_wp2
          go_ret
          exact ⟨rfl, hbw⟩

/-- The list with its first k fields marked. -/
def mkF (fs : List (ByteArray × ByteArray)) : Nat → List (ByteArray × ByteArray)
  | 0 => fs
  | k + 1 => (mkF fs k).set k (markOf (2 * k + 1), markOf (2 * k + 2))
theorem mkF_len (fs : List (ByteArray × ByteArray)) : ∀ k, (mkF fs k).length = fs.length
  | 0 => rfl
  | k + 1 => by rw [mkF, List.length_set, mkF_len fs k]
theorem nameAt_set (fs : List (ByteArray × ByteArray)) (k j : Nat) (p : ByteArray × ByteArray) (hk : k < fs.length) : nameAt (fs.set k p) j = (if j = k then p.1 else nameAt fs j) ∧ valAt (fs.set k p) j = (if j = k then p.2 else valAt fs j) := by
  unfold nameAt valAt
  rw [List.getD_eq_getElem?_getD, List.getD_eq_getElem?_getD]
  by_cases e : j = k
  · subst e
    rw [if_pos rfl, if_pos rfl, List.getElem?_set_self (by omega)]
    exact ⟨rfl, rfl⟩
  · rw [if_neg e, if_neg e, List.getElem?_set_ne (by omega)]
    exact ⟨rfl, rfl⟩
theorem mkF_at (fs : List (ByteArray × ByteArray)) (j : Nat) : ∀ k, k ≤ fs.length → j < k → nameAt (mkF fs k) j = markOf (2 * j + 1) ∧ valAt (mkF fs k) j = markOf (2 * j + 2) := by
  intro k
  induction k with
  | zero => intro _ h; omega
  | succ k ih =>
    intro hk h
    have hs := nameAt_set (mkF fs k) k j (markOf (2 * k + 1), markOf (2 * k + 2)) (by rw [mkF_len]; omega)
    rw [mkF, hs.1, hs.2]
    by_cases e : j = k
    · subst e; rw [if_pos rfl, if_pos rfl]; exact ⟨rfl, rfl⟩
    · rw [if_neg e, if_neg e]; exact ih (by omega) (by omega)
theorem heap_setCell_congr {w w' : World} {g : Nat} (h : w'.heap[g]? = w.heap[g]?) (o : Nat) (v : Value) : (w'.setCell ⟨g, o, none⟩ v).heap[g]? = (w.setCell ⟨g, o, none⟩ v).heap[g]? := by
  simp [World.setCell, Array.getElem?_modify, h]
/-- One field of a row stored anew. -/
theorem FieldRow.set {base : Nat} {w : World} {g n cap : Nat} {fs : List (ByteArray × ByteArray)} (h : FieldRow base w g n cap fs) (k : Nat) (hk : k < n) (a b : ByteArray) (W : World) (hW : W.heap[g]? = ((w.setCell ⟨g, k * 2, none⟩ (.string a)).setCell ⟨g, k * 2 + 1, none⟩ (.string b)).heap[g]?) (hsz : w.heap.size ≤ W.heap.size) : FieldRow base W g n cap (fs.set k (a, b)) := by
  have hl := h.len; have hle := h.le
  obtain ⟨cur, h1, h2, h3⟩ := h.heap
  have hlt := h.lt
  refine ⟨by simp [hl], h.base, by omega, h.le, h.mx, (cur.setIfInBounds (k * 2) (.string a)).setIfInBounds (k * 2 + 1) (.string b), ?_, by simpa using h2, ?_⟩
  · rw [hW]; exact heap_set _ g (k * 2 + 1) _ _ _ _ (heap_set w g (k * 2) _ _ _ _ h1)
  · intro i hi
    have hs := nameAt_set fs k i (a, b) (by omega)
    rw [hs.1, hs.2]
    by_cases e : i = k
    · subst e
      rw [if_pos rfl, if_pos rfl]
      refine ⟨?_, ?_⟩
      · rw [Array.getElem?_setIfInBounds_ne (by omega), Array.getElem?_setIfInBounds_self_of_lt (by omega)]
      · rw [Array.getElem?_setIfInBounds_self_of_lt (by simp; omega)]
    · rw [if_neg e, if_neg e]
      have := h3 i hi
      refine ⟨?_, ?_⟩
      · rw [Array.getElem?_setIfInBounds_ne (by omega), Array.getElem?_setIfInBounds_ne (by omega)]; exact this.1
      · rw [Array.getElem?_setIfInBounds_ne (by omega), Array.getElem?_setIfInBounds_ne (by omega)]; exact this.2

set_option maxHeartbeats 2000000 in
theorem markFieldS_any (v : Value) (n base : Nat) (fs : List (ByteArray × ByteArray)) (w : World) (h1 : w.ownsRow base 63 2 v n (flatF fs)) (hb : base ≤ w.heap.size) (hn : n ≤ 2000000) :
    Calls Tryz.prog 19 #[v, .int .i64 1] w fun e w' => e = .returned (.int .i64 (2 * (n : Int) + 1)) ∧ w'.ownsRow base 63 2 v n (flatF (mkF fs n)) ∧ Below base w w' := by
  rcases frow_form h1 with ⟨oa, ca, rfl, _, rfl, rfl⟩ | ⟨g, cap, rfl, hp, r1⟩
  · go_enter Tryz.func19, Tryz.ntmps19
    go_wp2
    refine wp_loop_rounds 1 ?_
    rw [rounds_succ]
    go_wp2
    go_ret
    exact ⟨rfl, h1, Below.refl _ _⟩
  · clear h1
    go_enter Tryz.func19, Tryz.ntmps19
    go_wp2
    go_loopw [1, 5] (fun q i wr => ∃ k : Nat, k ≤ n ∧ i = .int .i64 (k : Int) ∧ q = .int .i64 (2 * (k : Int) + 1) ∧ Below base w wr ∧ FieldRow base wr g n cap (mkF fs k)) (fun _ i _ => n - (intOf i).toNat)
    case atStart => exact ⟨0, Nat.zero_le _, rfl, rfl, Below.refl _ _, r1⟩
    case round =>
      obtain ⟨k, hk, rfl, rfl, hbw, hrow⟩ := hrel
      by_cases hlt : k < n
      · have hlt2 : (k : Int) < (n : Int) := by omega
        go_wp2_with fail
        refine (markText_int _ (2 * k + 1) _ (by omega) (by omega) (by omega)).mono ?_
        rintro e w1 ⟨rfl, hb1⟩
        have hrow1 := hrow.below hb1 hrow.lt
        have hc := hrow1.name k hlt
        have hf := hrow1.frozen (k * 2)
        have hb2 : Below base w w1 := hbw.trans (hb1.mono (Nat.le_trans hb hbw.size))
        clear hb1 hbw
        go_wp2_with fail
        refine (markText_int _ (2 * k + 2) _ (by omega) (by omega) (by omega)).mono ?_
        rintro e w2 ⟨rfl, hb3⟩
        have hlt3 : g < (w1.setCell ⟨g, k * 2, none⟩ (.string (markOf (2 * k + 1)))).heap.size := by simpa using hrow1.lt
        have hblk := hb3.block g hlt3
        have hc2 : w2.cell? ⟨g, k * 2 + 1, none⟩ = some (.string (valAt (mkF fs k) k)) := by
          rw [World.cell?_of_block (w := w1.setCell ⟨g, k * 2, none⟩ (.string (markOf (2 * k + 1)))) hblk, World.cell?_setCell_other (h := fun e => by have := congrArg Addr.off e; simp at this)]
          exact hrow1.val k hlt
        have hf2 : w2.frozen? ⟨g, k * 2 + 1, none⟩ = false := by
          rw [World.frozen?_of_block (w := w1.setCell ⟨g, k * 2, none⟩ (.string (markOf (2 * k + 1)))) hblk, World.frozen?_setCell]; exact hrow1.frozen _
        have hb4 : Below base w w2 := (hb2.setCell hrow.base _).trans (hb3.mono (by have := hb2.size; simp; omega))
        have hsz2 : w1.heap.size ≤ w2.heap.size := by have := hb3.size; simpa using this
        clear hb3 hb2
        have HROW : Hid (FieldRow base (w2.setCell ⟨g, k * 2 + 1, none⟩ (.string (markOf (2 * k + 2)))) g n cap (mkF fs (k + 1))) := hrow1.set k hlt _ _ _ (heap_setCell_congr hblk _ _) (by simpa using hsz2)
        clear hblk hc hf
        go_wp2
        go_roundw
        case rel => exact ⟨k + 1, by omega, by go_num, by first | go_num | (congr 1; omega), hb4.setCell hrow.base _, HROW⟩
        case measure => simp [intOf]; omega
      · obtain rfl : k = n := by omega
        go_wp2
        go_ret
        exact ⟨rfl, hrow.owns, hbw⟩

set_option maxHeartbeats 2000000 in
theorem heldFieldS_any (v : Value) (n base : Nat) (fs : List (ByteArray × ByteArray)) (w : World) (h1 : w.ownsRow base 63 2 v n (flatF fs)) (hn : n ≤ 2000000) (hm : ∀ j, j < n → nameAt fs j = markOf (2 * j + 1) ∧ valAt fs j = markOf (2 * j + 2)) :
    Calls Tryz.prog 20 #[v, .int .i64 1] w fun e w' => e = .returned (.int .i64 (2 * (n : Int) + 1)) ∧ Below w.heap.size w w' := by
  rcases frow_form h1 with ⟨oa, ca, rfl, _, rfl, rfl⟩ | ⟨g, cap, rfl, hp, r1⟩
  · clear hm
    go_enter Tryz.func20, Tryz.ntmps20
    go_wp2
    refine wp_loop_rounds 1 ?_
    rw [rounds_succ]
    go_wp2
    go_ret
    exact ⟨rfl, Below.refl _ _⟩
  · clear h1
    have HM : Hid (∀ j, j < n → nameAt fs j = markOf (2 * j + 1) ∧ valAt fs j = markOf (2 * j + 2)) := hm
    clear hm
    go_enter Tryz.func20, Tryz.ntmps20
    go_wp2
    go_loopw [1, 5] (fun q i wr => ∃ k : Nat, k ≤ n ∧ i = .int .i64 (k : Int) ∧ q = .int .i64 (2 * (k : Int) + 1) ∧ Below w.heap.size w wr) (fun _ i _ => n - (intOf i).toNat)
    case atStart => exact ⟨0, Nat.zero_le _, rfl, rfl, Below.refl _ _⟩
    case round =>
      obtain ⟨k, hk, rfl, rfl, hbw⟩ := hrel
      by_cases hlt : k < n
      · have hlt2 : (k : Int) < (n : Int) := by omega
        have HA : Hid (∀ w0 w1, Below w.heap.size w w0 → Below w0.heap.size w0 w1 → (w1.cell? ⟨g, k * 2, none⟩ = some (.string (markOf (2 * k + 1))) ∧ w1.cell? ⟨g, k * 2 + 1, none⟩ = some (.string (markOf (2 * k + 2)))) ∧ Below w.heap.size w w1) := fun w0 w1 h h' => by
          have hx := h.trans (h'.mono h.size)
          have a1 := (r1.below hx r1.lt).name k hlt
          have a2 := (r1.below hx r1.lt).val k hlt
          rw [(HM.out k hlt).1] at a1
          rw [(HM.out k hlt).2] at a2
          exact ⟨⟨a1, a2⟩, hx⟩
        obtain ⟨⟨hc1, hc2⟩, _⟩ := HA.out wr wr hbw (Below.refl _ _)
        go_wp2
        go_region_held3 (fun w' => w'.cell? ⟨g, k * 2, none⟩ = some (.string (markOf (2 * k + 1)))) (first | assumption | go_keep) (first | (go_at_call 18; refine (markText_int _ (2 * k + 1) _ (by omega) (by omega) (by omega)).mono ?_; rintro e w1 ⟨rfl, hb1⟩; obtain ⟨⟨hd1, hd2⟩, hbx⟩ := HA.out _ w1 hbw.drew hb1))
        clear hc1 hc2 hd1
        go_wp2
        go_region_held3 (fun w' => w'.cell? ⟨g, k * 2 + 1, none⟩ = some (.string (markOf (2 * k + 2)))) (first | assumption | go_keep) (first | (go_at_call 18; refine (markText_int _ (2 * k + 2) _ (by omega) (by omega) (by omega)).mono ?_; rintro e w2 ⟨rfl, hb2⟩; obtain ⟨⟨he1, he2⟩, hby⟩ := HA.out _ w2 hbx.drew hb2))
        go_wp2
        go_roundw
        case rel => exact ⟨k + 1, by omega, by go_num, by first | go_num | (congr 1; omega), hby⟩
        case measure => simp [intOf]; omega
      · obtain rfl : k = n := by omega
        go_wp2
        go_ret
        exact ⟨rfl, hbw⟩

end Go.Proofs.YtacfajnagbeocaaGreatDoor
