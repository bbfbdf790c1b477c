/- What the proof of FnExactObjRead leans on: contracts of the program's and the specification's functions, and plain facts (part 2 of 5). -/
import Derived.Test.YtdlhicdfldecgaaGreatDoorFnExactObjReadA
namespace Go.Proofs.YtdlhicdfldecgaaGreatDoor
open Go.RowKit
open Go.Lib hiding intOf

attribute [local go_sem ↓] Go.wp_at_zero Go.wp_at_succ

/-- A list of fields that came in, in blocks below B. -/
structure ArgF (w : World) (B : Nat) (a : Option Addr) (n : Nat) (fs : List (ByteArray × ByteArray)) : Prop where
  len : fs.length = n
  get : ∀ i, i < n → ∃ b off, a = some ⟨b, off, none⟩ ∧ b < B ∧ w.cell? ⟨b, off + i * 2, none⟩ = some (.string (nameAt fs i)) ∧ w.cell? ⟨b, off + i * 2 + 1, none⟩ = some (.string (valAt fs i))
theorem ArgF.below {w w' : World} {B : Nat} {a : Option Addr} {n : Nat} {fs : List (ByteArray × ByteArray)} (h : ArgF w B a n fs) (hb : Below B w w') : ArgF w' B a n fs :=
  ⟨h.len, fun i hi => by
    obtain ⟨b, off, h1, h2, h3, h4⟩ := h.get i hi
    exact ⟨b, off, h1, h2, by rw [hb.cell (p := ⟨b, off + i * 2, none⟩) h2]; exact h3, by rw [hb.cell (p := ⟨b, off + i * 2 + 1, none⟩) h2]; exact h4⟩⟩

theorem info33 : (Tryz.prog.info? 131).map (fun i => (i.zero, i.size, i.bytes)) = some (some (.agg #[.string ⟨#[]⟩, .string ⟨#[]⟩]), 2, 32) := by kernel_rfl

theorem heap_set (w : World) (c o : Nat) (cs : Array Value) (t : TypeId) (fz : Nat × Nat) (v : Value) (h : w.heap[c]? = some (.cells cs t fz)) : (w.setCell ⟨c, o, none⟩ v).heap[c]? = some (.cells (cs.setIfInBounds o v) t fz) := by
  simp [World.setCell, Array.getElem?_modify, h]
/-- The first k fields of a row of 2 n cells are told. -/
def PartRow (w : World) (g n k : Nat) (fs : List (ByteArray × ByteArray)) : Prop :=
  ∃ cur, w.heap[g]? = some (.cells cur 131 (0, 0)) ∧ cur.size = n * 2 ∧ ∀ i, i < k → cur[i * 2]? = some (.string (nameAt fs i)) ∧ cur[i * 2 + 1]? = some (.string (valAt fs i))
theorem PartRow.below {w w' : World} {g n k B : Nat} {fs : List (ByteArray × ByteArray)} (h : PartRow w g n k fs) (hb : Below B w w') (hB : g < B) : PartRow w' g n k fs := by
  obtain ⟨cur, h1, h2⟩ := h
  exact ⟨cur, by rw [hb.block g hB]; exact h1, h2⟩
theorem PartRow.lt {w : World} {g n k : Nat} {fs : List (ByteArray × ByteArray)} (h : PartRow w g n k fs) : g < w.heap.size := by
  obtain ⟨cur, h1, _⟩ := h
  exact (Array.getElem?_eq_some_iff.1 h1).1
theorem PartRow.cell {w : World} {g n k : Nat} {fs : List (ByteArray × ByteArray)} (h : PartRow w g n k fs) (j : Nat) (hj : j < n * 2) : ∃ u, w.cell? ⟨g, j, none⟩ = some u := by
  obtain ⟨cur, h1, h2, _⟩ := h
  refine ⟨cur[j]'(by omega), ?_⟩
  simp only [World.cell?, h1]
  simp [show j < cur.size by omega]
theorem PartRow.frozen {w : World} {g n k : Nat} {fs : List (ByteArray × ByteArray)} (h : PartRow w g n k fs) (j : Nat) : w.frozen? ⟨g, j, none⟩ = false := by
  obtain ⟨cur, h1, _⟩ := h
  simp [World.frozen?, h1]
theorem PartRow.put {w : World} {g n k : Nat} {fs : List (ByteArray × ByteArray)} (h : PartRow w g n k fs) (hk : k < n) : PartRow ((w.setCell ⟨g, k * 2, none⟩ (.string (nameAt fs k))).setCell ⟨g, k * 2 + 1, none⟩ (.string (valAt fs k))) g n (k + 1) fs := by
  obtain ⟨cur, h1, h2, h3⟩ := h
  refine ⟨_, heap_set _ g (k * 2 + 1) _ _ _ _ (heap_set w g (k * 2) _ _ _ _ h1), by simpa using h2, ?_⟩
  intro i hi
  by_cases e : i = k
  · subst e
    refine ⟨?_, ?_⟩
    · rw [Array.getElem?_setIfInBounds_ne (by omega), Array.getElem?_setIfInBounds_self_of_lt (by omega)]
    · rw [Array.getElem?_setIfInBounds_self_of_lt (by simp; omega)]
  · have := h3 i (by omega)
    refine ⟨?_, ?_⟩
    · rw [Array.getElem?_setIfInBounds_ne (by omega), Array.getElem?_setIfInBounds_ne (by omega)]; exact this.1
    · rw [Array.getElem?_setIfInBounds_ne (by omega), Array.getElem?_setIfInBounds_ne (by omega)]; exact this.2
theorem PartRow.owns {w : World} {g n : Nat} {fs : List (ByteArray × ByteArray)} (h : PartRow w g n n fs) (hl : fs.length = n) (hm : n ≤ maxLen) {base : Nat} (hb : base ≤ g) : w.ownsRow base 131 2 (.slice (some ⟨g, 0, none⟩) n n) n (flatF fs) :=
  FieldRow.owns ⟨hl, hb, h.lt, Nat.le_refl _, hm, h⟩

set_option maxHeartbeats 1000000 in
theorem eqField_any (nm vl : ByteArray) (w : World) :
    Calls Tryz.prog 150 #[.agg #[.string nm, .string vl], .agg #[.string nm, .string vl]] w fun e w' => e = .returned (.bool true) ∧ Below w.heap.size w w' := by
  go_enter Tryz.func150, Tryz.ntmps150
  go_wp2
  go_ret
  exact ⟨rfl, ((Below.refl _ _).alloc (Nat.le_refl _) _).alloc (by simp) _⟩

set_option maxHeartbeats 2000000 in
theorem eqFieldS_any (v1 v2 : Value) (n b1 b2 : Nat) (fs : List (ByteArray × ByteArray)) (w : World) (h1 : FieldsV w b1 v1 n fs) (h2 : FieldsV w b2 v2 n fs) (hn : n ≤ 2000000) :
    Calls Tryz.prog 121 #[v1, v2] w fun e w' => e = .returned (.bool true) ∧ Below w.heap.size w w' := by
  rcases h1 with ⟨oa, ca, rfl, _, rfl, rfl⟩ | ⟨g1, c1, rfl, hp, r1⟩
  · rcases h2 with ⟨ob, cb, rfl, _, _, _⟩ | ⟨g2, c2, rfl, hp2, _⟩
    · go_enter Tryz.func121, Tryz.ntmps121
      go_wp2
      refine wp_loop_rounds 1 ?_
      rw [rounds_succ]
      go_wp2
      go_ret
      exact ⟨rfl, Below.refl _ _⟩
    · omega
  · rcases h2 with ⟨ob, cb, rfl, _, h0, _⟩ | ⟨g2, c2, rfl, hp2, r2⟩
    · omega
    · go_enter Tryz.func121, Tryz.ntmps121
      go_wp2
      go_loopw [5] (fun i wr => ∃ k : Nat, k ≤ n ∧ i = .int .i64 (k : Int) ∧ Below w.heap.size w wr) (fun i _ => n - (intOf i).toNat)
      case atStart => exact ⟨0, Nat.zero_le _, rfl, Below.refl _ _⟩
      case round =>
        obtain ⟨k, hk, rfl, hbw⟩ := hrel
        by_cases hlt : k < n
        · have hlt2 : (k : Int) < (n : Int) := by omega
          obtain ⟨nm, hnm⟩ : ∃ y, y = nameAt fs k := ⟨_, rfl⟩
          obtain ⟨vl, hvl⟩ : ∃ y, y = valAt fs k := ⟨_, rfl⟩
          have ha := (r1.below hbw r1.lt).name k hlt
          have hb := (r1.below hbw r1.lt).val k hlt
          have hc := (r2.below hbw r2.lt).name k hlt
          have hd := (r2.below hbw r2.lt).val k hlt
          rw [← hnm] at ha hc
          rw [← hvl] at hb hd
          have HA : Hid (∀ w0 w1, Below wr.heap.size wr w0 → Below w0.heap.size w0 w1 → (w1.cell? ⟨g1, k * 2, none⟩ = some (.string nm) ∧ w1.cell? ⟨g1, k * 2 + 1, none⟩ = some (.string vl) ∧ w1.cell? ⟨g2, k * 2, none⟩ = some (.string nm) ∧ w1.cell? ⟨g2, k * 2 + 1, none⟩ = some (.string vl)) ∧ Below wr.heap.size wr w1) := fun w0 w1 h h' => by
            have hx := h.trans (h'.mono h.size)
            have hy := hbw.trans (hx.mono hbw.size)
            have a1 := (r1.below hy r1.lt).name k hlt
            have a2 := (r1.below hy r1.lt).val k hlt
            have a3 := (r2.below hy r2.lt).name k hlt
            have a4 := (r2.below hy r2.lt).val k hlt
            rw [← hnm] at a1 a3
            rw [← hvl] at a2 a4
            exact ⟨⟨a1, a2, a3, a4⟩, hx⟩
          clear hnm hvl
          go_wp2
          go_region_held3 (fun w' => w'.cell? ⟨g1, k * 2, none⟩ = some (.string nm) ∧ w'.cell? ⟨g1, k * 2 + 1, none⟩ = some (.string vl) ∧ w'.cell? ⟨g2, k * 2, none⟩ = some (.string nm) ∧ w'.cell? ⟨g2, k * 2 + 1, none⟩ = some (.string vl)) (first | assumption | go_keep) (first | (go_at_call 150; refine (eqField_any _ _ _).mono ?_; rintro e w1 ⟨rfl, hb1⟩; obtain ⟨hcc, hbx⟩ := HA.out _ w1 ((Below.refl _ wr).drew) hb1))
          go_wp2
          go_roundw
          case rel => exact ⟨k + 1, by omega, by go_num, hbw.trans (hbx.mono hbw.size)⟩
          case measure => simp [intOf]; omega
        · go_wp2
          go_ret
          exact ⟨rfl, hbw⟩

theorem nameAt_set (fs : List (ByteArray × ByteArray)) (k j : Nat) (p : ByteArray × ByteArray) (hk : k < fs.length) : nameAt (fs.set k p) j = (if j = k then p.1 else nameAt fs j) ∧ valAt (fs.set k p) j = (if j = k then p.2 else valAt fs j) := by
  unfold nameAt valAt
  rw [List.getD_eq_getElem?_getD, List.getD_eq_getElem?_getD]
  by_cases e : j = k
  · subst e
    rw [if_pos rfl, if_pos rfl, List.getElem?_set_self (by omega)]
    exact ⟨rfl, rfl⟩
  · rw [if_neg e, if_neg e, List.getElem?_set_ne (by omega)]
    exact ⟨rfl, rfl⟩
theorem heap_setCell_congr {w w' : World} {g : Nat} (h : w'.heap[g]? = w.heap[g]?) (o : Nat) (v : Value) : (w'.setCell ⟨g, o, none⟩ v).heap[g]? = (w.setCell ⟨g, o, none⟩ v).heap[g]? := by
  simp [World.setCell, Array.getElem?_modify, h]
/-- One field of a row stored anew. -/
theorem FieldRow.set {base : Nat} {w : World} {g n cap : Nat} {fs : List (ByteArray × ByteArray)} (h : FieldRow base w g n cap fs) (k : Nat) (hk : k < n) (a b : ByteArray) (W : World) (hW : W.heap[g]? = ((w.setCell ⟨g, k * 2, none⟩ (.string a)).setCell ⟨g, k * 2 + 1, none⟩ (.string b)).heap[g]?) (hsz : w.heap.size ≤ W.heap.size) : FieldRow base W g n cap (fs.set k (a, b)) := by
  have hl := h.len; have hle := h.le
  obtain ⟨cur, h1, h2, h3⟩ := h.heap
  have hlt := h.lt
  refine ⟨by simp [hl], h.base, by omega, h.le, h.mx, (cur.setIfInBounds (k * 2) (.string a)).setIfInBounds (k * 2 + 1) (.string b), ?_, by simpa using h2, ?_⟩
  · rw [hW]; exact heap_set _ g (k * 2 + 1) _ _ _ _ (heap_set w g (k * 2) _ _ _ _ h1)
  · intro i hi
    have hs := nameAt_set fs k i (a, b) (by omega)
    rw [hs.1, hs.2]
    by_cases e : i = k
    · subst e
      rw [if_pos rfl, if_pos rfl]
      refine ⟨?_, ?_⟩
      · rw [Array.getElem?_setIfInBounds_ne (by omega), Array.getElem?_setIfInBounds_self_of_lt (by omega)]
      · rw [Array.getElem?_setIfInBounds_self_of_lt (by simp; omega)]
    · rw [if_neg e, if_neg e]
      have := h3 i hi
      refine ⟨?_, ?_⟩
      · rw [Array.getElem?_setIfInBounds_ne (by omega), Array.getElem?_setIfInBounds_ne (by omega)]; exact this.1
      · rw [Array.getElem?_setIfInBounds_ne (by omega), Array.getElem?_setIfInBounds_ne (by omega)]; exact this.2

end Go.Proofs.YtdlhicdfldecgaaGreatDoor

namespace Go.Proofs.YtdlhicdfldecgaaGreatDoor
open Go.RowKit
open Go.Lib hiding intOf

theorem owns_wide {w : World} {B base : Nat} {e : TypeId} {size : Nat} {v : Value} {n : Nat} {xs : List Value} (h : w.ownsRow base e size v n xs) (hB : B ≤ base) : w.ownsRow B e size v n xs := by
  obtain ⟨hl, hv⟩ := h
  refine ⟨hl, ?_⟩
  rcases hv with h0 | ⟨g, cap, cur, h1, h2, h3⟩
  · exact .inl h0
  · exact .inr ⟨g, cap, cur, h1, Nat.le_trans hB h2, h3⟩
theorem owns_same {w w' : World} {base : Nat} {e : TypeId} {size : Nat} {v : Value} {n : Nat} {xs : List Value} (h : w.ownsRow base e size v n xs) (hs : ∀ j, v.ownBlock = some j → w'.heap[j]? = w.heap[j]?) : w'.ownsRow base e size v n xs := by
  obtain ⟨hl, hv⟩ := h
  refine ⟨hl, ?_⟩
  rcases hv with h0 | ⟨g, cap, cur, rfl, h2, h3, h4⟩
  · exact .inl h0
  · exact .inr ⟨g, cap, cur, rfl, h2, by rw [hs g rfl]; exact h3, h4⟩

end Go.Proofs.YtdlhicdfldecgaaGreatDoor

namespace Go.Proofs.YtdlhicdfldecgaaGreatDoor
open Go.RowKit
open Go.Lib hiding intOf

/-- All blocks that were there but the list's own are as they were. -/
def Far (v : Value) (w w' : World) : Prop := ∀ j, j < w.heap.size → v.ownBlock ≠ some j → w'.heap[j]? = w.heap[j]?

end Go.Proofs.YtdlhicdfldecgaaGreatDoor

namespace Go.Proofs.YtdlhicdfldecgaaGreatDoor
open Go.RowKit
open Go.Lib hiding intOf

/-- A list of texts among the arguments. -/
structure ArgT (w : World) (B : Nat) (a : Option Addr) (n : Nat) (xs : List ByteArray) : Prop where
  len : xs.length = n
  get : ∀ i, i < n → ∃ b off, a = some ⟨b, off, none⟩ ∧ b < B ∧ w.cell? ⟨b, off + i, none⟩ = some (.string (textAt xs i))
theorem ArgT.below {w w' : World} {B : Nat} {a : Option Addr} {n : Nat} {xs : List ByteArray} (h : ArgT w B a n xs) (hb : Below B w w') : ArgT w' B a n xs :=
  ⟨h.len, fun i hi => by
    obtain ⟨b, off, h1, h2, h3⟩ := h.get i hi
    exact ⟨b, off, h1, h2, by rw [hb.cell (p := ⟨b, off + i, none⟩) h2]; exact h3⟩⟩

/-- The first k texts of a row of n cells are told. -/
def PartT (w : World) (g n k : Nat) (xs : List ByteArray) : Prop :=
  ∃ cur, w.heap[g]? = some (.cells cur 9 (0, 0)) ∧ cur.size = n ∧ ∀ i, i < k → cur[i]? = some (.string (textAt xs i))
theorem PartT.put {w : World} {g n k : Nat} {xs : List ByteArray} (h : PartT w g n k xs) (hk : k < n) : PartT (w.setCell ⟨g, k, none⟩ (.string (textAt xs k))) g n (k + 1) xs := by
  obtain ⟨cur, h1, h2, h3⟩ := h
  refine ⟨_, heap_set w g k _ _ _ _ h1, by simpa using h2, fun i hi => ?_⟩
  by_cases e : i = k
  · subst e
    exact Array.getElem?_setIfInBounds_self_of_lt (by omega)
  · rw [Array.getElem?_setIfInBounds_ne (fun x => e x.symm)]
    exact h3 i (by omega)
theorem PartT.row {w : World} {g n base : Nat} {xs : List ByteArray} (h : PartT w g n n xs) (hl : xs.length = n) (hb : base ≤ g) (hn : n ≤ maxLen) : TextRow base w g n n xs := by
  obtain ⟨cur, h1, h2, h3⟩ := h
  exact ⟨hl, hb, (Array.getElem?_eq_some_iff.1 h1).1, Nat.le_refl _, hn, cur, h1, h2, h3⟩

end Go.Proofs.YtdlhicdfldecgaaGreatDoor

namespace Go.Proofs.YtdlhicdfldecgaaGreatDoor
open Go.RowKit
open Go.Lib hiding intOf

set_option maxHeartbeats 1000000 in
theorem l3Path_any (s : ByteArray) (w : World) (hs : s.size ≤ maxLen) :
    Calls Tryz.prog 79 #[.string s] w fun e w' => BoolIs (PathOk s) w e w' := by
  unfold maxLen at hs
  go_enter Tryz.func79, Tryz.ntmps79
  go_wp2
  go_loop [3] (fun i => ∃ k : Nat, k ≤ s.size ∧ i = .int .i64 k ∧ Hid (AllTo PathB s k)) (fun i => s.size - (intOf i).toNat)
  case atStart => exact ⟨0, Nat.zero_le _, rfl, allTo_zero _ _⟩
  case round =>
    obtain ⟨k, hk, rfl, hall⟩ := hrel
    by_cases hlt : k < s.size
    · go_wp2
      all_goals first
        | (go_ret
           have hno : ¬ PathB ((s[k]'hlt).toNat : Int) := by
             unfold PathB
             omega
           exact BoolIs.no (fun h => hno (h.1 k hlt)) (Below.refl _ _))
        | (go_round
           case rel =>
             have hy : PathB ((s[k]'hlt).toNat : Int) := by
               unfold PathB
               omega
             exact ⟨k + 1, by omega, by go_num, allTo_succ hall.out hlt hy⟩
           case measure => simp [intOf]; omega)
    · have hend : Hid (AllB PathB s) := allTo_end hall.out hlt
      by_cases h1 : (1 : Int) ≤ (s.size : Int)
      · have h0 : 0 < s.size := by omega
        by_cases h2 : (s.size : Int) ≤ 60
        · by_cases h3 : ((s[0]'h0).toNat : Int) = 47
          · go_wp2
            go_ret
            exact BoolIs.yes ⟨hend.out, by omega, by omega, h0, by omega⟩ (Below.refl _ _)
          · have h4 : (((s[0]'h0).toNat : Int) == 47) = false := by rw [beq_eq_false_iff_ne]; exact h3
            go_wp2
            go_ret
            exact BoolIs.no (fun h => by obtain ⟨_, _, _, _, h5⟩ := h; omega) (Below.refl _ _)
        · go_wp2
          go_ret
          exact BoolIs.no (fun h => by obtain ⟨_, _, h5, _⟩ := h; omega) (Below.refl _ _)
      · go_wp2
        go_ret
        exact BoolIs.no (fun h => by obtain ⟨_, h5, _⟩ := h; omega) (Below.refl _ _)

/-- Texts short enough for any walk. -/
def WalkF (n : Nat) (fs : List (ByteArray × ByteArray)) : Prop := ∀ i, i < n → (nameAt fs i).size ≤ maxLen ∧ (valAt fs i).size ≤ maxLen

/-- A block that was laid last stands behind every call that keeps what was there. -/
theorem kept_new {w W : World} {o : Obj} (h : Below (w.alloc o).heap.size (w.alloc o) W) : W.heap[w.heap.size]? = some o := by
  rw [h.block _ (by simp)]; exact heap_alloc_new w _
theorem below_new {w W : World} {o : Obj} (h : Below (w.alloc o).heap.size (w.alloc o) W) : Below w.heap.size w W :=
  ((Below.refl _ w).alloc (Nat.le_refl _) o).trans (h.mono (by simp))
set_option maxHeartbeats 400000 in
theorem l1In_any (x lo hi : Int) (w : World) :
    Calls Tryz.prog 80 #[.int .i64 x, .int .i64 lo, .int .i64 hi] w fun e w' => e = .returned (.bool (decide (lo ≤ x ∧ x ≤ hi))) ∧ w' = w := by
  by_cases h1 : lo ≤ x
  · by_cases h2 : x ≤ hi
    · go_enter Tryz.func80, Tryz.ntmps80
      go_wp2
      go_ret
      exact ⟨by simp [h1, h2], rfl⟩
    · go_enter Tryz.func80, Tryz.ntmps80
      go_wp2
      go_ret
      exact ⟨by simp [h2], rfl⟩
  · go_enter Tryz.func80, Tryz.ntmps80
    go_wp2
    go_ret
    exact ⟨by simp; omega, rfl⟩

set_option maxHeartbeats 1000000 in
theorem specRespOk_any (st : Int) (v : Value) (b : ByteArray) (n base : Nat) (fs : List (ByteArray × ByteArray)) (w : World) (hv : FieldsV w base v n fs) (hn : n ≤ 1073741824) (hsz : WalkF n fs) (hb : b.size ≤ maxLen) :
    Calls Tryz.prog 78 #[.agg #[.int .i64 st, v, .string b]] w fun e w' => BoolIs (RespP st fs b) w e w' := by
  obtain ⟨oa, cap, rfl, _⟩ := hv.slice
  obtain ⟨r, hr⟩ : ∃ r, r = w.heap.size := ⟨_, rfl⟩
  have HR : Hid (∀ W, Below (w.alloc (.cells #[.int .i64 st, .slice oa n cap, .string b] 27)).heap.size (w.alloc (.cells #[.int .i64 st, .slice oa n cap, .string b] 27)) W → (W.cell? ⟨r, 1, none⟩ = some (.slice oa n cap) ∧ W.cell? ⟨r, 2, none⟩ = some (.string b)) ∧ FieldsV W base (.slice oa n cap) n fs ∧ Below w.heap.size w W) := fun W h => by
    have hh := kept_new h
    rw [← hr] at hh
    exact ⟨⟨by simp [World.cell?, hh], by simp [World.cell?, hh]⟩, hv.below (below_new h), below_new h⟩
  have HSZ : Hid (WalkF n fs) := hsz
  unfold maxLen at hb
  clear hv hsz
  go_enter Tryz.func78, Tryz.ntmps78
  go_wp2_with fail
  refine (l1In_any st 100 599 _).mono ?_
  rintro e w1 ⟨rfl, hw1⟩
  have hb1 : Below (w.alloc (.cells #[.int .i64 st, .slice oa n cap, .string b] 27)).heap.size (w.alloc (.cells #[.int .i64 st, .slice oa n cap, .string b] 27)) w1 := by rw [hw1]; exact Below.refl _ _
  clear hw1
  rw [← hr]
  obtain ⟨⟨c2, c3⟩, hv1, hbw1⟩ := HR.out w1 hb1
  have HV1 : Hid (FieldsV w1 base (.slice oa n cap) n fs) := hv1
  clear hv1
  by_cases hm : 100 ≤ st ∧ st ≤ 599
  · have e1 : decide (100 ≤ st ∧ st ≤ 599) = true := by simpa using hm
    have HM : Hid (100 ≤ st ∧ st ≤ 599) := hm
    rw [e1]
    clear hr hm e1
    go_wp2_with fail
    refine (specFieldsOk_any _ n base fs _ HV1.out hn HSZ.out).mono ?_
    rintro e w3 ⟨b2, rfl, kb2, bb3⟩
    have hb3 := hb1.trans (bb3.mono hb1.size)
    clear c2 c3 bb3 hb1 hbw1
    obtain ⟨⟨c2, c3⟩, _, hbw3⟩ := HR.out w3 hb3
    cases b2
    · have HF : Hid (¬ RespP st fs b) := fun h => by have := kb2.2 h.2.1; cases this
      clear kb2
      go_wp2_with fail
      go_ret
      exact BoolIs.no HF.out hbw3
    · have HT2 : Hid (FldsOk fs) := kb2.1 rfl
      clear kb2
      by_cases h120 : (b.size : Int) ≤ 120
      · have HY : Hid (RespP st fs b) := ⟨HM.out, HT2.out, by omega⟩
        go_wp2_with fail
        go_ret
        exact BoolIs.yes HY.out hbw3
      · have HF : Hid (¬ RespP st fs b) := fun h => by have := h.2.2; omega
        have hd : decide ((b.size : Int) ≤ 120) = false := by simpa using h120
        go_wp2_with fail
        go_ret
        exact BoolIs.no HF.out hbw3
  · have e1 : decide (100 ≤ st ∧ st ≤ 599) = false := by simpa using hm
    have HF : Hid (¬ RespP st fs b) := fun h => hm h.1
    rw [e1]
    clear hr hm e1
    go_wp2_with fail
    go_ret
    exact BoolIs.no HF.out hbw1

end Go.Proofs.YtdlhicdfldecgaaGreatDoor

namespace Go.Proofs.YtdlhicdfldecgaaGreatDoor
open Go.RowKit
open Go.Lib hiding intOf

theorem ft_small {fs : List (ByteArray × ByteArray)} (h : FldsOk fs) : (fieldsText fs).size ≤ 672 := by
  have h1 : ∀ k, k ≤ fs.length → (ftTo fs k).size ≤ 84 * k := by
    intro k
    induction k with
    | zero => intro _; exact Nat.le_refl _
    | succ k ih =>
      intro hk
      have h2 := h.2 k (by omega)
      have h3 := h2.1.2.1
      have h4 := h2.2.1.2.1
      have := ih (by omega)
      rw [ftTo_size]; omega
  have := h1 fs.length (Nat.le_refl _)
  have := h.1
  unfold fieldsText; omega
theorem dgF_len : ∀ (f n : Nat), (dgF f n).length ≤ f
  | 0, n => by simp [dgF]
  | f + 1, n => by
    by_cases h : n = 0
    · rw [h, dgF_zero]; simp
    · rw [dgF_pos f n h]
      have := dgF_len f (n / 10)
      simp; omega
theorem numText_size (n : Nat) : (numText n).size ≤ 8 := by
  have : (numText n).size = (numL n).length := by simp [numText, ByteArray.size]
  rw [this]
  unfold numL
  split
  · simp
  · split
    · simp
    · exact dgF_len 8 n
/-- A call answers the text of what is right, nothing else of what is not. -/
def TextOf (p : Prop) (t : ByteArray) (w : World) (e : Ending) (w' : World) : Prop := ∃ u : ByteArray, e = .returned (.string u) ∧ (p → u = t) ∧ (¬ p → u = ⟨#[]⟩) ∧ Below w.heap.size w w'

set_option maxHeartbeats 2000000 in
set_option maxRecDepth 100000 in
theorem specRespText_any (st : Int) (v : Value) (b : ByteArray) (n base : Nat) (fs : List (ByteArray × ByteArray)) (w : World) (hv : FieldsV w base v n fs) (hn : n ≤ 1073741824) (hsz : WalkF n fs) (hb : b.size ≤ maxLen) :
    Calls Tryz.prog 31 #[.agg #[.int .i64 st, v, .string b]] w fun e w' => TextOf (RespP st fs b) (respT st fs b) w e w' := by
  obtain ⟨oa, cap, rfl, _⟩ := hv.slice
  obtain ⟨r, hr⟩ : ∃ r, r = w.heap.size := ⟨_, rfl⟩
  have HR : Hid (∀ W, Below (w.alloc (.cells #[.int .i64 st, .slice oa n cap, .string b] 27)).heap.size (w.alloc (.cells #[.int .i64 st, .slice oa n cap, .string b] 27)) W → (W.cell? ⟨r, 0, none⟩ = some (.int .i64 st) ∧ W.cell? ⟨r, 1, none⟩ = some (.slice oa n cap) ∧ W.cell? ⟨r, 2, none⟩ = some (.string b)) ∧ FieldsV W base (.slice oa n cap) n fs ∧ Below w.heap.size w W) := fun W h => by
    have hh := kept_new h
    rw [← hr] at hh
    exact ⟨⟨by simp [World.cell?, hh], by simp [World.cell?, hh], by simp [World.cell?, hh]⟩, hv.below (below_new h), below_new h⟩
  obtain ⟨_, hv0, _⟩ := HR.out _ (Below.refl _ _)
  go_enter Tryz.func31, Tryz.ntmps31
  go_wp2_with fail
  refine (specRespOk_any st _ b n base fs _ hv0 hn hsz hb).mono ?_
  rintro e w1 ⟨b1, rfl, kb1, bb1⟩
  rw [← hr]
  obtain ⟨⟨c0, c1, c2⟩, hv1, hbw1⟩ := HR.out w1 bb1
  clear hv hv0 hsz hb
  cases b1
  · have HF : Hid (¬ RespP st fs b) := fun h => by have := kb1.2 h; cases this
    clear kb1 hv1 bb1 hr
    go_wp2_with fail
    go_ret
    exact ⟨_, rfl, fun h => absurd h HF.out, fun _ => rfl, hbw1⟩
  · have HY : Hid (RespP st fs b) := kb1.1 rfl
    obtain ⟨k, rfl⟩ : ∃ k : Nat, st = (k : Int) := ⟨st.toNat, by have := HY.out.1; omega⟩
    have hk5 : k ≤ 599 := by have := HY.out.1; omega
    have hbs : b.size ≤ 120 := HY.out.2.2
    obtain ⟨nk, hnk⟩ : ∃ x, x = numText k := ⟨_, rfl⟩
    have hns1 := numText_size k
    rw [← hnk] at hns1
    obtain ⟨nt, hnt⟩ : ∃ x, x = numText b.size := ⟨_, rfl⟩
    have hns2 := numText_size b.size
    rw [← hnt] at hns2
    obtain ⟨ft, hft⟩ : ∃ x, x = fieldsText fs := ⟨_, rfl⟩
    have hfs := ft_small HY.out.2.1
    rw [← hft] at hfs
    have HT : Hid ((fieldsText fs).size ≤ 1099511627776) := by show _ ≤ _; rw [← hft]; omega
    have HFT : Hid (fieldsText fs = ft) := hft.symm
    have HNK : Hid (numText k = nk) := hnk.symm
    have HNT : Hid (numText b.size = nt) := hnt.symm
    have HE : Hid (⟨#[72, 84, 84, 80, 47, 49, 46, 49, 32]⟩ ++ nk ++ ⟨#[32, 46, 13, 10]⟩ ++ ft ++ ⟨#[99, 111, 110, 116, 101, 110, 116, 45, 108, 101, 110, 103, 116, 104, 58, 32]⟩ ++ nt ++ ⟨#[13, 10, 13, 10]⟩ ++ b = respT (k : Int) fs b) := by
      show _ = _
      unfold respT
      rw [HFT.out, HNT.out, show ((k : Int)).toNat = k by omega, HNK.out]; rfl
    clear kb1 hr hv1 hnk hnt hft
    have e1 : (⟨#[72, 84, 84, 80, 47, 49, 46, 49, 32]⟩ : ByteArray).size = 9 := rfl
    have e2 : (⟨#[32, 46, 13, 10]⟩ : ByteArray).size = 4 := rfl
    have e3 : (⟨#[99, 111, 110, 116, 101, 110, 116, 45, 108, 101, 110, 103, 116, 104, 58, 32]⟩ : ByteArray).size = 16 := rfl
    have e4 : (⟨#[13, 10, 13, 10]⟩ : ByteArray).size = 4 := rfl
    have q1 : ¬ 9223372036854775807 < 9 + nk.size := by omega
    have q2 : ¬ 9223372036854775807 < 9 + nk.size + 4 := by omega
    have q3 : ¬ 9223372036854775807 < 9 + nk.size + 4 + ft.size := by omega
    have q4 : ¬ 9223372036854775807 < 9 + nk.size + 4 + ft.size + 16 := by omega
    have q5 : ¬ 9223372036854775807 < 9 + nk.size + 4 + ft.size + 16 + nt.size := by omega
    have q6 : ¬ 9223372036854775807 < 9 + nk.size + 4 + ft.size + 16 + nt.size + 4 := by omega
    have q7 : ¬ 9223372036854775807 < 9 + nk.size + 4 + ft.size + 16 + nt.size + 4 + b.size := by omega
    have HA : Hid (∀ w2 w3, Hid (Below (w.alloc (.cells #[.int .i64 (k : Int), .slice oa n cap, .string b] 27)).heap.size (w.alloc (.cells #[.int .i64 (k : Int), .slice oa n cap, .string b] 27)) w2) → Below w2.heap.size w2 w3 → (w3.cell? ⟨r, 0, none⟩ = some (.int .i64 (k : Int)) ∧ w3.cell? ⟨r, 1, none⟩ = some (.slice oa n cap) ∧ w3.cell? ⟨r, 2, none⟩ = some (.string b)) ∧ FieldsV w3 base (.slice oa n cap) n fs ∧ Hid (Below (w.alloc (.cells #[.int .i64 (k : Int), .slice oa n cap, .string b] 27)).heap.size (w.alloc (.cells #[.int .i64 (k : Int), .slice oa n cap, .string b] 27)) w3) ∧ Below w.heap.size w w3) := fun w2 w3 h2 h => by
      have hb3 := h2.out.trans (h.mono h2.out.size)
      obtain ⟨h5, h6, h7⟩ := HR.out w3 hb3
      exact ⟨h5, h6, hb3, h7⟩
    have HB1 : Hid (Below (w.alloc (.cells #[.int .i64 (k : Int), .slice oa n cap, .string b] 27)).heap.size (w.alloc (.cells #[.int .i64 (k : Int), .slice oa n cap, .string b] 27)) w1.drew) := bb1.drew
    clear bb1 hbw1
    go_wp2_with fail
    go_region_held3 (fun W => W.cell? ⟨r, 0, none⟩ = some (.int .i64 (k : Int)) ∧ W.cell? ⟨r, 1, none⟩ = some (.slice oa n cap) ∧ W.cell? ⟨r, 2, none⟩ = some (.string b)) (first | assumption | go_keep) (first | (go_at_call 84; refine (specFieldsText_any _ n base fs _ (by assumption) hn HT.out).mono ?_; rintro e w3 ⟨rfl, bb3⟩; rw [HFT.out]; obtain ⟨hS3, hv3, HB3, hbw3⟩ := HA.out w2 w3 HB2 bb3) | (go_at_call_of 30 (Value.int .i64 (k : Int)); refine (specNumText_any k _ (by omega)).mono ?_; rintro e w2 ⟨rfl, bb2⟩; rw [HNK.out]; obtain ⟨hS2, hv2, HB2, hbw2⟩ := HA.out _ w2 HB1 bb2) | (go_at_call_of 30 (Value.int .i64 (b.size : Int)); refine (specNumText_any b.size _ (by omega)).mono ?_; rintro e w4 ⟨rfl, bb4⟩; rw [HNT.out]; obtain ⟨hS4, hv4, HB4, hbw4⟩ := HA.out w3 w4 HB3 bb4))
    go_wp2_with fail
    go_ret
    exact ⟨_, rfl, fun _ => HE.out, fun h => absurd HY.out h, hbw4⟩

end Go.Proofs.YtdlhicdfldecgaaGreatDoor

namespace Go.Proofs.YtdlhicdfldecgaaGreatDoor
open Go.RowKit
open Go.Lib hiding intOf

/-- The lines of a head, in a list of the call's own, and where what is behind them begins. -/
def HeadIs (s : ByteArray) (w : World) (e : Ending) (w' : World) : Prop :=
  ∃ (v : Value) (xs : List ByteArray) (p : Int), e = .returned (.tuple #[v, .int .i64 p]) ∧ w'.ownsRow w.heap.size 9 1 v xs.length (xs.map Value.string) ∧ xs.length ≤ s.size ∧ Below w.heap.size w w' ∧
    ((p = -1 ∧ headL [] [] (bs s) = (xs.map bs, none)) ∨ ∃ k : Nat, p = (k : Int) ∧ k ≤ s.size ∧ headL [] [] (bs s) = (xs.map bs, some ((bs s).drop k)))

theorem hd_go {s : ByteArray} {l : List ByteArray} {f j : Nat} (hf : f ≤ j + 1) (hj : j + 1 < s.size) (hn : f ≤ j → ¬ ((s[j]'(by omega)).toNat = 13 ∧ (s[j + 1]'hj).toNat = 10)) (h : HdInv s l f j) : HdInv s l f (j + 1) := by
  by_cases c : f ≤ j
  · exact hd_other c hj (hn c) h
  · exact hd_skip (by omega) h

set_option maxHeartbeats 4000000 in
set_option maxRecDepth 100000 in
theorem l3Head_any (s : ByteArray) (w : World) (hs : s.size ≤ 4000000) :
    Calls Tryz.prog 100 #[.string s] w fun e w' => HeadIs s w e w' := by
  obtain ⟨i0, hi, hz0, hz1, hz2⟩ := info_parts info9
  go_enter Tryz.func100, Tryz.ntmps100
  go_wp2
  go_loopw [4, 5, 6] (fun v a i wr => ∃ (j f : Nat) (l : List ByteArray), (j + 1 ≤ s.size ∨ j = 0) ∧ f ≤ j + 1 ∧ l.length ≤ f ∧ f ≤ s.size ∧ i = .int .i64 ((j : Int) + 1) ∧ a = .int .i64 (f : Int) ∧ Below w.heap.size w wr ∧
      Hid (HdInv s l f j) ∧ wr.ownsRow w.heap.size 9 1 v l.length (l.map Value.string)) (fun _ _ i _ => s.size + 1 - (intOf i).toNat)
  case atStart =>
    exact ⟨0, 0, [], .inr rfl, Nat.zero_le _, Nat.le_refl _, Nat.zero_le _, rfl, rfl, (Below.refl _ _).alloc (Nat.le_refl _) _, hd_start s, ⟨rfl, .inr ⟨w.heap.size, 0, #[], rfl, Nat.le_refl _, heap_alloc_new w _, Nat.le_refl _, Nat.zero_le _, rfl, rfl⟩⟩⟩
  case round =>
    obtain ⟨j, f, l, hj, hfj, hlf, hfs, rfl, rfl, hbw, hinv, hown⟩ := hrel
    by_cases hlt : j + 1 < s.size
    · have hlt2 : (j : Int) + 1 < (s.size : Int) := by omega
      have hjs : j < s.size := by omega
      by_cases h10 : (s[j + 1]'hlt).toNat = 10
      · have t1 : (((s[j + 1]'hlt).toNat : Int) != 10) = false := by rw [bne_eq_false_iff_eq]; omega
        by_cases h13 : (s[j]'hjs).toNat = 13
        · have t2 : (((s[j]'hjs).toNat : Int) != 13) = false := by rw [bne_eq_false_iff_eq]; omega
          by_cases hf : f ≤ j
          · have t3 : ¬ (j : Int) < (f : Int) := by omega
            by_cases hfe : f = j
            · have HF : Hid _ := hd_fin hfe hlt h13 h10 hinv.out
              subst hfe
              clear h10 h13 hj
              go_wp2
              go_ret2
              exact ⟨_, l, _, rfl, hown, by omega, hbw, .inr ⟨f + 2, by omega, by omega, HF.out⟩⟩
            · have HI : Hid _ := hd_line (by omega) hlt h13 h10 hinv.out
              have he : (s.extract f j).toList.isEmpty = false := by
                rw [ByteArray.toList_eq, List.isEmpty_eq_false_iff]
                intro e
                have := congrArg List.length e
                simp at this; omega
              have h63 : l.length + 1 ≤ maxLen := by unfold maxLen; omega
              have h47 : (l.length + 1) * 16 ≤ 140737488355328 := by omega
              have HBS : ∀ o, w.heap.size ≤ (wr.alloc o).heap.size := fun o => by have := hbw.size; simp; omega
              clear h10 h13 hj
              go_wp2_with (at_builtin; refine wpList_append_own _ rfl _ _ 24 rfl w.heap.size 9 i0 (.string ⟨#[]⟩) 1 16 Tryz.underlying24 hi hz0 hz1 hz2 rfl (by decide) _ _ _ rfl (hown.alloc _) ⟨wr.heap.size, 0, none⟩ 1 1 [.string (s.extract f j)] rfl rfl (cell_one_new _ _ _) (one_text _) h63 h47 (HBS _) ?_)
              intro v1 w2 hown2 hgrow _
              have hb2 : Below w.heap.size w w2 := (hbw.alloc hbw.size _).grown hgrow (HBS _) (fun g hg => owns_ge hown hg)
              have hown3 : w2.ownsRow w.heap.size 9 1 v1 (l ++ [s.extract f j]).length ((l ++ [s.extract f j]).map Value.string) := by simpa using hown2
              clear hown HBS hgrow hown2 hbw
              go_wp2
              go_roundw
              case rel => exact ⟨j + 1, j + 2, _, .inl (by omega), by omega, by simp; omega, by omega, by go_num, by go_num, hb2, HI, hown3⟩
              case measure => simp [intOf]; omega
          · have t3 : (j : Int) < (f : Int) := by omega
            have HI : Hid _ := hd_go hfj hlt (fun h => absurd h hf) hinv.out
            clear h10 h13 hj
            go_wp2
            go_roundw
            case rel => exact ⟨j + 1, f, l, .inl (by omega), by omega, hlf, hfs, by go_num, rfl, hbw, HI, hown⟩
            case measure => simp [intOf]; omega
        · have t2 : (((s[j]'hjs).toNat : Int) != 13) = true := by rw [bne_iff_ne]; omega
          have HI : Hid _ := hd_go hfj hlt (fun _ h => h13 h.1) hinv.out
          clear h10 h13 hj
          go_wp2
          go_roundw
          case rel => exact ⟨j + 1, f, l, .inl (by omega), by omega, hlf, hfs, by go_num, rfl, hbw, HI, hown⟩
          case measure => simp [intOf]; omega
      · have t1 : (((s[j + 1]'hlt).toNat : Int) != 10) = true := by rw [bne_iff_ne]; omega
        have HI : Hid _ := hd_go hfj hlt (fun _ h => h10 h.2) hinv.out
        clear h10 hj
        go_wp2
        go_roundw
        case rel => exact ⟨j + 1, f, l, .inl (by omega), by omega, hlf, hfs, by go_num, rfl, hbw, HI, hown⟩
        case measure => simp [intOf]; omega
    · have HE : Hid _ := hd_end hlt hinv.out
      have hlt2 : ¬ (j : Int) + 1 < (s.size : Int) := by omega
      go_wp2
      go_ret2
      exact ⟨_, l, _, rfl, hown, by omega, hbw, .inl ⟨rfl, HE.out⟩⟩

/-- What stands between blanks, in a list of the call's own. -/
def WordsIs (s : ByteArray) (w : World) (e : Ending) (w' : World) : Prop :=
  ∃ (v : Value) (xs : List ByteArray), e = .returned v ∧ w'.ownsRow w.heap.size 9 1 v xs.length (xs.map Value.string) ∧ xs.length ≤ s.size + 1 ∧ Below w.heap.size w w' ∧ wordsL [] [] (bs s) = xs.map bs

set_option maxHeartbeats 4000000 in
set_option maxRecDepth 100000 in
theorem l3Words_any (s : ByteArray) (w : World) (hs : s.size ≤ 4000000) :
    Calls Tryz.prog 46 #[.string s] w fun e w' => WordsIs s w e w' := by
  obtain ⟨i0, hi, hz0, hz1, hz2⟩ := info_parts info9
  go_enter Tryz.func46, Tryz.ntmps46
  go_wp2
  go_loopw [3, 4, 5] (fun v a i wr => ∃ (k f : Nat) (l : List ByteArray), k ≤ s.size + 1 ∧ f ≤ k ∧ l.length ≤ k ∧ i = .int .i64 (k : Int) ∧ a = .int .i64 (f : Int) ∧ Below w.heap.size w wr ∧
      Hid (WdInv s l f k) ∧ wr.ownsRow w.heap.size 9 1 v l.length (l.map Value.string)) (fun _ _ i _ => s.size + 1 - (intOf i).toNat)
  case atStart =>
    exact ⟨0, 0, [], Nat.zero_le _, Nat.le_refl _, Nat.le_refl _, rfl, rfl, (Below.refl _ _).alloc (Nat.le_refl _) _, wd_start s, ⟨rfl, .inr ⟨w.heap.size, 0, #[], rfl, Nat.le_refl _, heap_alloc_new w _, Nat.le_refl _, Nat.zero_le _, rfl, rfl⟩⟩⟩
  case round =>
    obtain ⟨k, f, l, hk, hfk, hlk, rfl, rfl, hbw, hinv, hown⟩ := hrel
    have h63 : l.length + 1 ≤ maxLen := by unfold maxLen; omega
    have h47 : (l.length + 1) * 16 ≤ 140737488355328 := by omega
    by_cases hks : k ≤ s.size
    · have hks2 : (k : Int) ≤ (s.size : Int) := by omega
      by_cases hlt : k < s.size
      · have hlt2 : (k : Int) < (s.size : Int) := by omega
        have hne : ((k : Int) == (s.size : Int)) = false := by rw [beq_eq_false_iff_ne]; omega
        by_cases hc : (s[k]'hlt).toNat = 32
        · have t1 : (((s[k]'hlt).toNat : Int) == 32) = true := by rw [beq_iff_eq]; omega
          have HI : Hid _ := wd_blank hlt hc hinv.out
          have HBS : ∀ o, w.heap.size ≤ (wr.alloc o).heap.size := fun o => by have := hbw.size; simp; omega
          clear hc hk
          go_wp2_with (at_builtin; refine wpList_append_own _ rfl _ _ 24 rfl w.heap.size 9 i0 (.string ⟨#[]⟩) 1 16 Tryz.underlying24 hi hz0 hz1 hz2 rfl (by decide) _ _ _ rfl (hown.alloc _) ⟨wr.heap.size, 0, none⟩ 1 1 [.string (s.extract f k)] rfl rfl (cell_one_new _ _ _) (one_text _) h63 h47 (HBS _) ?_)
          intro v1 w2 hown2 hgrow _
          have hb2 : Below w.heap.size w w2 := (hbw.alloc hbw.size _).grown hgrow (HBS _) (fun g hg => owns_ge hown hg)
          have hown3 : w2.ownsRow w.heap.size 9 1 v1 (l ++ [s.extract f k]).length ((l ++ [s.extract f k]).map Value.string) := by simpa using hown2
          clear hown HBS hgrow hown2 hbw
          go_wp2
          go_roundw
          case rel => exact ⟨k + 1, k + 1, _, by omega, by omega, by simp; omega, by go_num, by go_num, hb2, HI, hown3⟩
          case measure => simp [intOf]; omega
        · have t1 : (((s[k]'hlt).toNat : Int) == 32) = false := by rw [beq_eq_false_iff_ne]; omega
          have HI : Hid _ := wd_other hfk hlt hc hinv.out
          clear hc hk
          go_wp2
          go_roundw
          case rel => exact ⟨k + 1, f, l, by omega, by omega, by omega, by go_num, rfl, hbw, HI, hown⟩
          case measure => simp [intOf]; omega
      · obtain rfl : k = s.size := by omega
        have HI : Hid _ := wd_last rfl hinv.out
        have HBS : ∀ o, w.heap.size ≤ (wr.alloc o).heap.size := fun o => by have := hbw.size; simp; omega
        clear hk
        go_wp2_with (at_builtin; refine wpList_append_own _ rfl _ _ 24 rfl w.heap.size 9 i0 (.string ⟨#[]⟩) 1 16 Tryz.underlying24 hi hz0 hz1 hz2 rfl (by decide) _ _ _ rfl (hown.alloc _) ⟨wr.heap.size, 0, none⟩ 1 1 [.string (s.extract f s.size)] rfl rfl (cell_one_new _ _ _) (one_text _) h63 h47 (HBS _) ?_)
        intro v1 w2 hown2 hgrow _
        have hb2 : Below w.heap.size w w2 := (hbw.alloc hbw.size _).grown hgrow (HBS _) (fun g hg => owns_ge hown hg)
        have hown3 : w2.ownsRow w.heap.size 9 1 v1 (l ++ [s.extract f s.size]).length ((l ++ [s.extract f s.size]).map Value.string) := by simpa using hown2
        clear hown HBS hgrow hown2 hbw
        go_wp2
        go_roundw
        case rel => exact ⟨s.size + 1, s.size + 1, _, by omega, by omega, by simp; omega, by go_num, by go_num, hb2, HI, hown3⟩
        case measure => simp [intOf]
    · have HE : Hid _ := wd_end hks hinv.out
      have hks2 : ¬ (k : Int) ≤ (s.size : Int) := by omega
      go_wp2
      go_ret
      exact ⟨_, l, rfl, hown, by omega, hbw, HE.out⟩

end Go.Proofs.YtdlhicdfldecgaaGreatDoor

namespace Go.Proofs.YtdlhicdfldecgaaGreatDoor
open Go.RowKit
open Go.Lib hiding intOf

theorem flatF_append (a b : List (ByteArray × ByteArray)) : flatF (a ++ b) = flatF a ++ flatF b := by simp [flatF]
theorem flatF_one (nm vl : ByteArray) : flatF [(nm, vl)] = [.string nm, .string vl] := rfl
theorem two_text (a b : ByteArray) : ∀ u ∈ [Value.string a, Value.string b], u.oneCell' = true := by
  intro u hu
  simp at hu
  rcases hu with rfl | rfl <;> rfl

/-- The cells of a row, one behind the other. -/
theorem FieldRow.cells {base : Nat} {w : World} {g n cap : Nat} {fs : List (ByteArray × ByteArray)} (h : FieldRow base w g n cap fs) : ∀ j u, (flatF fs)[j]? = some u → w.cell? ((⟨g, 0, none⟩ : Addr).add j) = some u := by
  intro j u hj
  have hl := h.len
  have hjl : j < fs.length * 2 := by
    rw [← flatF_len]
    exact (List.getElem?_eq_some_iff.1 hj).1
  have e0 : (⟨g, 0, none⟩ : Addr).add j = ⟨g, j, none⟩ := by
    unfold Addr.add; split <;> simp_all
  rw [e0]
  have hf := flatF_get fs (j / 2) (by omega)
  rcases Nat.mod_two_eq_zero_or_one j with e | e
  · have e2 : j / 2 * 2 = j := by omega
    have hc := h.name (j / 2) (by omega)
    rw [e2] at hf hc
    rw [hf.1] at hj
    cases hj
    exact hc
  · have e2 : j / 2 * 2 + 1 = j := by omega
    have hc := h.val (j / 2) (by omega)
    rw [e2] at hf hc
    rw [hf.2] at hj
    cases hj
    exact hc
end Go.Proofs.YtdlhicdfldecgaaGreatDoor

namespace Go.Proofs.YtdlhicdfldecgaaGreatDoor
open Go.RowKit
open Go.Lib hiding intOf

/-- A list of texts that a function reads, in blocks below B. -/
def TextsV (w : World) (B : Nat) (a : Option Addr) (n : Nat) (xs : List ByteArray) : Prop :=
  xs.length = n ∧ ∀ i (h : i < xs.length), ∃ g off, a = some ⟨g, off, none⟩ ∧ g < B ∧ w.cell? ⟨g, off + i, none⟩ = some (.string (xs[i]'h))
theorem TextsV.below {w w' : World} {B : Nat} {a : Option Addr} {n : Nat} {xs : List ByteArray} (h : TextsV w B a n xs) (hb : Below B w w') : TextsV w' B a n xs :=
  ⟨h.1, fun i hi => by
    obtain ⟨g, off, h1, h2, h3⟩ := h.2 i hi
    exact ⟨g, off, h1, h2, by rw [hb.cell (p := ⟨g, off + i, none⟩) h2]; exact h3⟩⟩

/-- A call answers the fields of these lines, in a list of its own. -/
def FieldsOf (xs : List ByteArray) (w : World) (e : Ending) (w' : World) : Prop :=
  ∃ (v : Value) (l : List (ByteArray × ByteArray)), e = .returned v ∧ w'.ownsRow w.heap.size 131 2 v l.length (flatF l) ∧ l.length ≤ xs.length ∧ Below w.heap.size w w' ∧ fieldsL (xs.map bs) = l.map bsP

set_option maxHeartbeats 4000000 in
set_option maxRecDepth 100000 in
theorem l3Fields_any (a : Option Addr) (n cap : Nat) (xs : List ByteArray) (w : World) (hv : TextsV w w.heap.size a n xs) (hn : n ≤ 4000000) (hsz : ∀ x ∈ xs, x.size ≤ 4000000) :
    Calls Tryz.prog 101 #[.slice a n cap] w fun e w' => FieldsOf xs w e w' := by
  obtain ⟨i0, hi, hz0, hz1, hz2⟩ := info_parts info33
  have hxl := hv.1
  have HV : Hid (∀ W, Below w.heap.size w W → TextsV W w.heap.size a n xs) := fun W h => hv.below h
  have HSZ : Hid (∀ x ∈ xs, x.size ≤ 4000000) := hsz
  clear hv hsz
  go_enter Tryz.func101, Tryz.ntmps101
  go_wp2
  go_loopw [3, 4] (fun v i wr => ∃ (k : Nat) (l : List (ByteArray × ByteArray)), k ≤ n ∧ l.length ≤ k ∧ i = .int .i64 (k : Int) ∧ Below w.heap.size w wr ∧ Hid (GdInv xs l k) ∧ wr.ownsRow w.heap.size 131 2 v l.length (flatF l)) (fun _ i _ => n - (intOf i).toNat)
  case atStart =>
    exact ⟨0, [], Nat.zero_le _, Nat.le_refl _, rfl, (Below.refl _ _).alloc (Nat.le_refl _) _, gd_start xs, ⟨rfl, .inr ⟨w.heap.size, 0, #[], rfl, Nat.le_refl _, heap_alloc_new w _, Nat.le_refl _, Nat.zero_le _, rfl, rfl⟩⟩⟩
  case round =>
    obtain ⟨k, l, hk, hlk, rfl, hbw, hinv, hown⟩ := hrel
    by_cases hlt : k < n
    · have hlt2 : (k : Int) < (n : Int) := by omega
      have hkx : k < xs.length := by omega
      obtain ⟨x, hx⟩ : ∃ x, x = xs[k]'hkx := ⟨_, rfl⟩
      have hxs : x.size ≤ 4000000 := by rw [hx]; exact HSZ.out _ (List.getElem_mem hkx)
      obtain ⟨g, off, rfl, hgB, _⟩ := (HV.out wr hbw).2 k hkx
      have HC : Hid (∀ W, Below w.heap.size w W → W.cell? ⟨g, off + k, none⟩ = some (.string x)) := fun W h => by
        obtain ⟨g2, off2, e2, _, h2⟩ := (HV.out W h).2 k hkx
        cases e2
        rw [hx]; exact h2
      have HX : Hid (xs[k]'hkx = x) := hx.symm
      clear hx
      go_wp2
      go_loopw [3, 5] (fun o q wq => ∃ m : Nat, (m + 1 ≤ x.size ∨ m = 0) ∧ o = u3 ∧ q = .int .i64 (m : Int) ∧ Below wr.heap.size wr wq ∧ Hid (FdInv x m)) (fun _ q _ => x.size + 1 - (intOf q).toNat)
      case atStart => exact ⟨0, .inr rfl, rfl, rfl, Below.refl _ _, fd_start x⟩
      case round =>
        obtain ⟨m, hm, rfl, rfl, hbq, hfd⟩ := hrel
        have hbW : Below w.heap.size w wr := hbw.trans (hbq.mono hbw.size)
        have hc := HC.out wr hbW
        by_cases hml : m + 1 < x.size
        · have hml2 : (m : Int) + 1 < (x.size : Int) := by omega
          have hml3 : (m : Int) < (x.size : Int) := by omega
          have hmx : m < x.size := by omega
          by_cases h58 : (x[m]'hmx).toNat = 58
          · have t1 : (((x[m]'hmx).toNat : Int) == 58) = true := by rw [beq_iff_eq]; omega
            by_cases h32 : (x[m + 1]'hml).toNat = 32
            · have t2 : (((x[m + 1]'hml).toNat : Int) == 32) = true := by rw [beq_iff_eq]; omega
              have HF : Hid (fieldL [] (bs (xs[k]'hkx)) = some (bs (x.extract 0 m), bs (x.extract (m + 2) x.size))) := by rw [HX.out]; exact fd_cut hml h58 h32 hfd.out
              clear h58 h32 hm
              have hnew := World.new_ne wr ⟨g, off + k, none⟩ hc
              have hmz : ((m : Int) + 2) ≤ (x.size : Int) := by omega
              have hm0 : (0 : Int) ≤ (m : Int) := by omega
              have hm2 : (0 : Int) ≤ (m : Int) + 2 := by omega
              have hmi : (m : Int) ≤ (x.size : Int) := by omega
              have hmn : m ≤ x.size := by omega
              have hmk : m + 2 ≤ x.size := by omega
              have hwr : IntKind.i64.wrap ((m : Int) + 2) = (m : Int) + 2 := by rw [IntKind.wrap_i64]; omega
              go_wp2_with fail
              go_region_held3 (fun W => W.cell? ⟨g, off + k, none⟩ = some (.string x)) (first | assumption | go_keep) (fail)
              obtain ⟨nm, hnm⟩ : ∃ y, y = x.extract 0 m := ⟨_, rfl⟩
              obtain ⟨vl, hvl⟩ : ∃ y, y = x.extract ((m : Int) + 2).toNat x.size := ⟨_, rfl⟩
              have HF2 : Hid (fieldL [] (bs (xs[k]'hkx)) = some (bs nm, bs vl)) := by
                show _ = _
                rw [HF.out, hnm, hvl, show ((m : Int) + 2).toNat = m + 2 by omega]
              rw [← hnm, ← hvl]
              obtain ⟨w2, hw2⟩ : ∃ W, W = (wr.alloc (.cells #[.string nm, .string vl] 131)).drew := ⟨_, rfl⟩
              obtain ⟨r, hr⟩ : ∃ r, r = wr.heap.size := ⟨_, rfl⟩
              have hh : w2.heap[r]? = some (.cells #[.string nm, .string vl] 131) := by rw [hw2, hr]; exact heap_alloc_new wr _
              have hc0 : w2.cell? ⟨r, 0, none⟩ = some (.string nm) := by simp [World.cell?, hh]
              have hc1 : w2.cell? ⟨r, 1, none⟩ = some (.string vl) := by simp [World.cell?, hh]
              have b2 : Below wr.heap.size wr w2 := by rw [hw2]; exact ((Below.refl _ wr).alloc (Nat.le_refl _) _).drew
              have hbW2 : Below w.heap.size w w2 := hbW.trans (b2.mono hbW.size)
              have hown2 : w2.ownsRow w.heap.size 131 2 u3 l.length (flatF l) := owns_below (owns_below hown hbq (fun g hg => owns_lt hown hg)) b2 (fun g hg => owns_lt (owns_below hown hbq (fun g hg => owns_lt hown hg)) hg)
              rw [← hw2, ← hr]
              clear hw2 hr hh b2 hnm hvl HF hc hnew hbq hbW hown
              by_cases hcl : nm = clen
              · have ht := (text_beq _ _).2 hcl
                rw [clen_list] at ht
                have HI : Hid (GdInv xs l (k + 1)) := gd_clen hkx HF2.out hcl hinv.out
                clear hcl
                go_wp2
                go_roundw
                case rel => exact ⟨k + 1, l, by omega, by omega, by go_num, hbW2, HI, hown2⟩
                case measure => simp [intOf]; omega
              · have ht := text_beq_no hcl
                rw [clen_list] at ht
                have HI : Hid (GdInv xs (l ++ [(nm, vl)]) (k + 1)) := gd_some hkx HF2.out hcl hinv.out
                have h63 : l.length + 1 ≤ maxLen := by unfold maxLen; omega
                have h47 : (l.length + 1) * 32 ≤ 140737488355328 := by omega
                have HBS : ∀ o, w.heap.size ≤ (w2.alloc o).heap.size := fun o => by have := hbW2.size; simp; omega
                clear hcl
                go_wp2_with (at_builtin; refine wpList_append_own _ rfl _ _ 25 rfl w.heap.size 131 i0 (.agg #[.string ⟨#[]⟩, .string ⟨#[]⟩]) 2 32 Tryz.underlying25 hi hz0 hz1 hz2 rfl (by decide) _ _ _ rfl (hown2.alloc _) ⟨w2.heap.size, 0, none⟩ 1 1 [.string nm, .string vl] rfl rfl (cell_two_new _ _ _ _) (two_text _ _) h63 h47 (HBS _) ?_)
                intro v1 w3 hown3 hgrow _
                have hb3 : Below w.heap.size w w3 := (hbW2.alloc hbW2.size _).grown hgrow (HBS _) (fun g hg => owns_ge hown2 hg)
                have hown4 : w3.ownsRow w.heap.size 131 2 v1 (l ++ [(nm, vl)]).length (flatF (l ++ [(nm, vl)])) := by rw [flatF_append, flatF_one]; simpa using hown3
                clear hown3 HBS hgrow hown2 hbW2
                go_wp2
                go_roundw
                case rel => exact ⟨k + 1, _, by omega, by simp; omega, by go_num, hb3, HI, hown4⟩
                case measure => simp [intOf]; omega
            · have t2 : (((x[m + 1]'hml).toNat : Int) == 32) = false := by rw [beq_eq_false_iff_ne]; omega
              have HI : Hid _ := fd_other hml (fun h => h32 h.2) hfd.out
              clear h58 h32 hm
              go_wp2
              go_roundw
              case rel => exact ⟨m + 1, .inl (by omega), rfl, by go_num, hbq, HI⟩
              case measure => simp [intOf]; omega
          · have t1 : (((x[m]'hmx).toNat : Int) == 58) = false := by rw [beq_eq_false_iff_ne]; omega
            have HI : Hid _ := fd_other hml (fun h => h58 h.1) hfd.out
            clear h58 hm
            go_wp2
            go_roundw
            case rel => exact ⟨m + 1, .inl (by omega), rfl, by go_num, hbq, HI⟩
            case measure => simp [intOf]; omega
        · have hml2 : ¬ (m : Int) + 1 < (x.size : Int) := by omega
          have hmb : (m : Int) ≤ 4000000 := by omega
          have HI : Hid (GdInv xs l (k + 1)) := gd_none hkx (by rw [HX.out]; exact fd_end hml hfd.out) hinv.out
          have hownq := owns_below hown hbq (fun g hg => owns_lt hown hg)
          clear hm
          go_wp2
          go_roundw
          case rel => exact ⟨k + 1, l, by omega, by omega, by go_num, hbW, HI, hownq⟩
          case measure => simp [intOf]; omega
    · have HE : Hid _ := gd_end (by omega) hinv.out
      have hlt2 : ¬ (k : Int) < (n : Int) := by omega
      go_wp2
      go_ret
      exact ⟨_, l, rfl, hown, by omega, hbw, HE.out⟩

end Go.Proofs.YtdlhicdfldecgaaGreatDoor

namespace Go.Proofs.YtdlhicdfldecgaaGreatDoor
open Go.RowKit
open Go.Lib hiding intOf

theorem headL_len : ∀ (n : Nat) (r : List UInt8) (out : List (List UInt8)) (cur : List UInt8), r.length ≤ n → ∀ x ∈ (headL out cur r).1, x ∈ out ∨ x.length ≤ cur.length + r.length := by
  intro n
  induction n with
  | zero =>
    intro r out cur h x hx
    rw [headL_short out cur r (by omega)] at hx
    exact .inl hx
  | succ n ih =>
    intro r out cur h x hx
    match r, h with
    | [], _ => exact .inl hx
    | [_], _ => exact .inl hx
    | c :: d :: t, h =>
      rw [headL] at hx
      split at hx
      · split at hx
        · exact .inl hx
        · rcases ih t (out ++ [cur]) [] (by simp at h; omega) x hx with h1 | h1
          · rcases List.mem_append.1 h1 with h2 | h2
            · exact .inl h2
            · simp at h2; subst h2; exact .inr (by omega)
          · exact .inr (by simp at h1 ⊢; omega)
      · rcases ih (d :: t) out (cur ++ [c]) (by simp at h ⊢; omega) x hx with h1 | h1
        · exact .inl h1
        · exact .inr (by simp at h1 ⊢; omega)
theorem wordsL_len : ∀ (r : List UInt8) (out : List (List UInt8)) (cur : List UInt8), ∀ x ∈ wordsL out cur r, x ∈ out ∨ x.length ≤ cur.length + r.length := by
  intro r
  induction r with
  | nil =>
    intro out cur x hx
    rw [wordsL] at hx
    rcases List.mem_append.1 hx with h | h
    · exact .inl h
    · simp at h; subst h; exact .inr (by simp)
  | cons c t ih =>
    intro out cur x hx
    rw [wordsL] at hx
    split at hx
    · rcases ih (out ++ [cur]) [] x hx with h1 | h1
      · rcases List.mem_append.1 h1 with h2 | h2
        · exact .inl h2
        · simp at h2; subst h2; exact .inr (by omega)
      · exact .inr (by simp at h1 ⊢; omega)
    · rcases ih out (cur ++ [c]) x hx with h1 | h1
      · exact .inl h1
      · exact .inr (by simp at h1 ⊢; omega)
theorem fieldL_len : ∀ (n : Nat) (r cur a b : List UInt8), r.length ≤ n → fieldL cur r = some (a, b) → a.length ≤ cur.length + r.length ∧ b.length ≤ r.length := by
  intro n
  induction n with
  | zero =>
    intro r cur a b h he
    rw [fieldL_short cur r (by omega)] at he
    cases he
  | succ n ih =>
    intro r cur a b h he
    match r, h with
    | [], _ => cases he
    | [_], _ => cases he
    | c :: d :: t, h =>
      rw [fieldL] at he
      split at he
      · cases he
        simp; omega
      · have := ih (d :: t) (cur ++ [c]) a b (by simp at h ⊢; omega) he
        simp at this ⊢; omega
theorem fieldsL_len : ∀ (ls : List (List UInt8)), ∀ f ∈ fieldsL ls, ∃ x ∈ ls, f.1.length ≤ x.length ∧ f.2.length ≤ x.length := by
  intro ls
  induction ls with
  | nil => intro f hf; simp [fieldsL] at hf
  | cons l r ih =>
    intro f hf
    rw [fieldsL] at hf
    split at hf
    · rename_i g hg
      split at hf
      · obtain ⟨x, hx, h⟩ := ih f hf
        exact ⟨x, by simp [hx], h⟩
      · rcases List.mem_cons.1 hf with rfl | hf
        · have := fieldL_len l.length l [] f.1 f.2 (Nat.le_refl _) hg
          exact ⟨l, by simp, by simpa using this.1, this.2⟩
        · obtain ⟨x, hx, h⟩ := ih f hf
          exact ⟨x, by simp [hx], h⟩
    · obtain ⟨x, hx, h⟩ := ih f hf
      exact ⟨x, by simp [hx], h⟩
theorem map_bs_inj : ∀ {a b : List ByteArray}, a.map bs = b.map bs → a = b
  | [], [], _ => rfl
  | [], _ :: _, h => by simp at h
  | _ :: _, [], h => by simp at h
  | x :: r, y :: t, h => by
    simp only [List.map_cons, List.cons.injEq] at h
    rw [map_bs_inj h.2, bs_inj h.1]

/-- What is read of a text, ahead of the last look: the words of its first line, the fields of the others, what is behind. -/
structure Parts (s : ByteArray) (xs : List ByteArray) (k : Nat) (ws : List ByteArray) (l : List (ByteArray × ByteArray)) : Prop where
  head : headL [] [] (bs s) = (xs.map bs, some ((bs s).drop k))
  ne : xs ≠ []
  words : wordsL [] [] (bs (xs.headD ⟨#[]⟩)) = ws.map bs
  fields : fieldsL (xs.tail.map bs) = l.map bsP
/-- A request's text is read as the request. -/
theorem IsReq.parts {s : ByteArray} {m : Int} {p : ByteArray} {fs : List (ByteArray × ByteArray)} {b : ByteArray} (h : IsReq s m p fs b) {xs : List ByteArray} {k : Nat} {ws : List ByteArray} {l : List (ByteArray × ByteArray)} (hp : Parts s xs k ws l) :
    ∃ x, ws = [methB m, p, x] ∧ l = fs ∧ s.extract k s.size = b := by
  have e := hp.head.symm.trans (req_head h)
  simp only [Prod.mk.injEq, Option.some.injEq] at e
  obtain ⟨e1, e2⟩ := e
  obtain ⟨x0, xr, rfl⟩ : ∃ x0 xr, xs = x0 :: xr := by
    cases xs with
    | nil => exact absurd rfl hp.ne
    | cons a r => exact ⟨a, r, rfl⟩
  simp only [List.map_cons, List.cons.injEq] at e1
  have hw := hp.words
  simp only [List.headD_cons] at hw
  rw [e1.1, req_words h.1.1 h.1.2.1] at hw
  have hf := hp.fields
  simp only [List.tail_cons] at hf
  rw [e1.2, req_fields h.1.2.2.1] at hf
  refine ⟨⟨httpL.toArray⟩, map_bs_inj (by rw [← hw]; rfl), (pairs_inj hf).symm, bs_inj ?_⟩
  rw [bs_extract, List.take_of_length_le (i := s.size) (l := bs s) (by rw [bs_len]; omega)]
  exact e2

theorem slice_of_owns {w : World} {base : Nat} {t : TypeId} {size : Nat} {v : Value} {n : Nat} {xs : List Value} (h : w.ownsRow base t size v n xs) : ∃ oa cp, v = .slice oa n cp := by
  rcases h.2 with ⟨rfl, rfl⟩ | ⟨g, cap, cur, rfl, _⟩
  · exact ⟨none, 0, rfl⟩
  · exact ⟨_, cap, rfl⟩
theorem grown_below {w w' : World} (hb : Below w.heap.size w w') (row : Option Nat) : w.grownBy w' row := ⟨hb.os, hb.tape, hb.output, hb.size, fun k hk _ => hb.block k hk⟩
theorem grown_then {a w w' : World} {row : Option Nat} (h : a.grownBy w row) (k : w.grownBy w' row) : a.grownBy w' row :=
  ⟨k.os.trans h.os, k.tape.trans h.tape, k.output.trans h.output, Nat.le_trans h.size k.size, fun i hi hne => (k.block i (Nat.lt_of_lt_of_le hi h.size) hne).trans (h.block i hi hne)⟩
theorem grown_set (w : World) (r o : Nat) (v : Value) : w.grownBy (w.setCell ⟨r, o, none⟩ v) (some r) :=
  ⟨rfl, rfl, rfl, by simp, fun k _ hk => heap_setCell_other _ _ k _ (fun e => hk (by rw [e]))⟩
theorem below_grown {B r : Nat} {a b : World} (h : a.grownBy b (some r)) (hB : B ≤ a.heap.size) (hr : B ≤ r) : Below B a b :=
  ⟨h.os, h.tape, h.output, h.size, fun k hk => h.block k (by omega) (fun e => by have := Option.some.inj e; omega)⟩
theorem pair_of (fs : List (ByteArray × ByteArray)) (k : Nat) (h : k < fs.length) : (nameAt fs k, valAt fs k) = fs[k] := by
  unfold nameAt valAt
  rw [List.getD_eq_getElem?_getD, List.getElem?_eq_getElem h]
  rfl
/-- Every text of the fields of a text's lines is no longer than the text. -/
theorem walk_fields {s : ByteArray} {xs : List ByteArray} {o : Option (List UInt8)} {l : List (ByteArray × ByteArray)} (hh : headL [] [] (bs s) = (xs.map bs, o)) (hl : fieldsL (xs.tail.map bs) = l.map bsP) (hs : s.size ≤ maxLen) : WalkF l.length l := by
  intro i hi
  have hm : (bs (nameAt l i), bs (valAt l i)) ∈ fieldsL (xs.tail.map bs) := by
    rw [hl]
    exact List.mem_map.2 ⟨l[i], List.getElem_mem hi, by rw [← pair_of l i hi]; rfl⟩
  obtain ⟨x, hx, h1, h2⟩ := fieldsL_len _ _ hm
  obtain ⟨y, hy, rfl⟩ := List.mem_map.1 hx
  have hm2 : bs y ∈ (headL [] [] (bs s)).1 := by rw [hh]; exact List.mem_map_of_mem (List.mem_of_mem_tail hy)
  rcases headL_len _ (bs s) [] [] (Nat.le_refl _) _ hm2 with h3 | h3
  · simp at h3
  · simp only [bs_len, List.length_nil, Nat.zero_add] at h1 h2 h3
    omega
end Go.Proofs.YtdlhicdfldecgaaGreatDoor

namespace Go.Proofs.YtdlhicdfldecgaaGreatDoor
open Go.RowKit
open Go.Lib hiding intOf

theorem three_facts {W : World} {R : Nat} {a b c : Value} {t : TypeId} (h : W.heap[R]? = some (.cells #[a, b, c] t)) :
    (W.cell? ⟨R, 0, none⟩ = some a ∧ W.cell? ⟨R, 1, none⟩ = some b ∧ W.cell? ⟨R, 2, none⟩ = some c) ∧ W.frozen? ⟨R, 0, none⟩ = false ∧ W.frozen? ⟨R, 1, none⟩ = false ∧ W.frozen? ⟨R, 2, none⟩ = false := by
  refine ⟨⟨?_, ?_, ?_⟩, ?_, ?_, ?_⟩ <;> simp [World.cell?, World.frozen?, h]
/-- The three cells of an answer's memory, written. -/
def threeSet (w : World) (r : Nat) (a b c : Value) : World := ((w.setCell ⟨r, 0, none⟩ a).setCell ⟨r, 1, none⟩ b).setCell ⟨r, 2, none⟩ c
theorem three_set {W : World} {R : Nat} {a b c : Value} {t : TypeId} (h : W.heap[R]? = some (.cells #[a, b, c] t)) (a' b' c' : Value) : (threeSet W R a' b' c').heap[R]? = some (.cells #[a', b', c'] t) := by
  have := heap_set _ R 2 _ _ _ c' (heap_set _ R 1 _ _ _ b' (heap_set W R 0 _ _ _ a' h))
  simpa [threeSet] using this
theorem below_three {w W : World} {B R : Nat} {a b c : Value} (h : Below B w W) (hR : B ≤ R) : Below B w (threeSet W R a b c) :=
  ((h.setCell (p := ⟨R, 0, none⟩) hR _).setCell (p := ⟨R, 1, none⟩) hR _).setCell (p := ⟨R, 2, none⟩) hR _

set_option maxHeartbeats 2000000 in
set_option maxRecDepth 100000 in
theorem eqResp_any (m : Int) (v1 v2 : Value) (b : ByteArray) (n b1 b2 : Nat) (fs : List (ByteArray × ByteArray)) (w : World) (h1 : FieldsV w b1 v1 n fs) (h2 : FieldsV w b2 v2 n fs) (hn : n ≤ 2000000) :
    Calls Tryz.prog 69 #[.agg #[.int .i64 m, v1, .string b], .agg #[.int .i64 m, v2, .string b]] w fun e w' => e = .returned (.bool true) ∧ Below w.heap.size w w' := by
  obtain ⟨oa, ca, rfl, _⟩ := h1.slice
  obtain ⟨ob, cb, rfl, _⟩ := h2.slice
  have tb : (b.toList == b.toList) = true := by simp
  have tm : (m != m) = false := by simp
  obtain ⟨w0, hw0⟩ : ∃ W, W = ((w.alloc (.cells #[.int .i64 m, .slice oa n ca, .string b] 27)).alloc (.cells #[.int .i64 m, .slice ob n cb, .string b] 27)) := ⟨_, rfl⟩
  have hs0 : w0.heap.size = w.heap.size + 1 + 1 := by rw [hw0]; simp
  have hb0 : Below w.heap.size w w0 := by rw [hw0]; exact ((Below.refl _ w).alloc (Nat.le_refl _) _).alloc (by simp) _
  have x1 : w0.heap[w.heap.size]? = some (.cells #[.int .i64 m, .slice oa n ca, .string b] 27) := by
    rw [hw0, heap_alloc_old _ _ (by simp)]; exact heap_alloc_new w _
  have x2 : w0.heap[w.heap.size + 1]? = some (.cells #[.int .i64 m, .slice ob n cb, .string b] 27) := by
    rw [hw0]
    have := heap_alloc_new (w.alloc (.cells #[.int .i64 m, .slice oa n ca, .string b] 27)) (.cells #[.int .i64 m, .slice ob n cb, .string b] 27)
    simpa using this
  go_enter Tryz.func69, Tryz.ntmps69
  go_wp2_with fail
  rw [← hw0]
  refine (eqFieldS_any _ _ n b1 b2 fs _ (h1.below hb0) (h2.below hb0) hn).mono ?_
  rintro e w1 ⟨rfl, bb1⟩
  rw [← bb1.block _ (by omega)] at x1 x2
  obtain ⟨q, hq⟩ : ∃ q, q = w.heap.size + 1 := ⟨_, rfl⟩
  obtain ⟨c, hc⟩ : ∃ c, c = w.heap.size := ⟨_, rfl⟩
  rw [← hq] at x2
  rw [← hc] at x1
  have y1 : w1.cell? ⟨c, 2, none⟩ = some (.string b) := by simp [World.cell?, x1]
  have y2 : w1.cell? ⟨q, 2, none⟩ = some (.string b) := by simp [World.cell?, x2]
  have hbw1 : Below w.heap.size w w1 := hb0.trans (bb1.mono hb0.size)
  rw [← hq, ← hc]
  clear x1 x2 hq hc hw0 hs0 hb0 bb1 h1 h2
  go_wp2
  go_ret
  exact ⟨rfl, hbw1⟩

end Go.Proofs.YtdlhicdfldecgaaGreatDoor

namespace Go.Proofs.YtdlhicdfldecgaaGreatDoor
open Go.RowKit
open Go.Lib hiding intOf

/-- The list with its first k fields marked, from k0 on. -/
def mkG (k0 : Nat) (fs : List (ByteArray × ByteArray)) : Nat → List (ByteArray × ByteArray)
  | 0 => fs
  | k + 1 => (mkG k0 fs k).set k (markOf (k0 + 2 * k), markOf (k0 + 2 * k + 1))
theorem mkG_len (k0 : Nat) (fs : List (ByteArray × ByteArray)) : ∀ k, (mkG k0 fs k).length = fs.length
  | 0 => rfl
  | k + 1 => by rw [mkG, List.length_set, mkG_len k0 fs k]
theorem mkG_at (k0 : Nat) (fs : List (ByteArray × ByteArray)) (j : Nat) : ∀ k, k ≤ fs.length → j < k → nameAt (mkG k0 fs k) j = markOf (k0 + 2 * j) ∧ valAt (mkG k0 fs k) j = markOf (k0 + 2 * j + 1) := by
  intro k
  induction k with
  | zero => intro _ h; omega
  | succ k ih =>
    intro hk h
    have hs := nameAt_set (mkG k0 fs k) k j (markOf (k0 + 2 * k), markOf (k0 + 2 * k + 1)) (by rw [mkG_len]; omega)
    rw [mkG, hs.1, hs.2]
    by_cases e : j = k
    · subst e; rw [if_pos rfl, if_pos rfl]; exact ⟨rfl, rfl⟩
    · rw [if_neg e, if_neg e]; exact ih (by omega) (by omega)

set_option maxHeartbeats 2000000 in
theorem markFrom_any (v : Value) (n base : Nat) (fs : List (ByteArray × ByteArray)) (w : World) (h1 : w.ownsRow base 131 2 v n (flatF fs)) (hb : base ≤ w.heap.size) (k0 : Nat) (hk0 : 1 ≤ k0) (hn : k0 + 2 * n ≤ 9999999) :
    Calls Tryz.prog 123 #[v, .int .i64 (k0 : Int)] w fun e w' => e = .returned (.int .i64 ((k0 : Int) + 2 * (n : Int))) ∧ w'.ownsRow base 131 2 v n (flatF (mkG k0 fs n)) ∧ Below base w w' ∧ Far v w w' := by
  rcases frow_form h1 with ⟨oa, ca, rfl, _, rfl, rfl⟩ | ⟨g, cap, rfl, hp, r1⟩
  · go_enter Tryz.func123, Tryz.ntmps123
    go_wp2
    refine wp_loop_rounds 1 ?_
    rw [rounds_succ]
    go_wp2
    go_ret
    exact ⟨ret_int (by simp), h1, Below.refl _ _, fun j _ _ => rfl⟩
  · clear h1
    go_enter Tryz.func123, Tryz.ntmps123
    go_wp2
    go_loopw [1, 5] (fun q i wr => ∃ k : Nat, k ≤ n ∧ i = .int .i64 (k : Int) ∧ q = .int .i64 ((k0 : Int) + 2 * (k : Int)) ∧ Below base w wr ∧ FieldRow base wr g n cap (mkG k0 fs k) ∧ Hid (∀ j, j < w.heap.size → j ≠ g → wr.heap[j]? = w.heap[j]?)) (fun _ i _ => n - (intOf i).toNat)
    case atStart => exact ⟨0, Nat.zero_le _, rfl, by simp, Below.refl _ _, r1, fun j _ _ => rfl⟩
    case round =>
      obtain ⟨k, hk, rfl, rfl, hbw, hrow, hfar⟩ := hrel
      by_cases hlt : k < n
      · have hlt2 : (k : Int) < (n : Int) := by omega
        have hszr := hbw.size
        go_wp2_with fail
        refine (markText_int _ (k0 + 2 * k) _ (by omega) (by omega) (by omega)).mono ?_
        rintro e w1 ⟨rfl, hb1⟩
        have hrow1 := hrow.below hb1 hrow.lt
        have hc := hrow1.name k hlt
        have hf := hrow1.frozen (k * 2)
        have hb2 : Below base w w1 := hbw.trans (hb1.mono (Nat.le_trans hb hbw.size))
        have HF1 : Hid (∀ j, j < w.heap.size → j ≠ g → w1.heap[j]? = w.heap[j]?) := fun j hj hne => by rw [hb1.block j (by omega)]; exact hfar.out j hj hne
        clear hb1 hbw
        go_wp2_with fail
        refine (markText_int _ (k0 + 2 * k + 1) _ (by omega) (by omega) (by omega)).mono ?_
        rintro e w2 ⟨rfl, hb3⟩
        have hlt3 : g < (w1.setCell ⟨g, k * 2, none⟩ (.string (markOf (k0 + 2 * k)))).heap.size := by simpa using hrow1.lt
        have hblk := hb3.block g hlt3
        have hc2 : w2.cell? ⟨g, k * 2 + 1, none⟩ = some (.string (valAt (mkG k0 fs k) k)) := by
          rw [World.cell?_of_block (w := w1.setCell ⟨g, k * 2, none⟩ (.string (markOf (k0 + 2 * k)))) hblk, World.cell?_setCell_other (h := fun e => by have := congrArg Addr.off e; simp at this)]
          exact hrow1.val k hlt
        have hf2 : w2.frozen? ⟨g, k * 2 + 1, none⟩ = false := by
          rw [World.frozen?_of_block (w := w1.setCell ⟨g, k * 2, none⟩ (.string (markOf (k0 + 2 * k)))) hblk, World.frozen?_setCell]; exact hrow1.frozen _
        have hb4 : Below base w w2 := (hb2.setCell hrow.base _).trans (hb3.mono (by have := hb2.size; simp; omega))
        have hsz2 : w1.heap.size ≤ w2.heap.size := by have := hb3.size; simpa using this
        have HF2 : Hid (∀ j, j < w.heap.size → j ≠ g → (w2.setCell ⟨g, k * 2 + 1, none⟩ (.string (markOf (k0 + 2 * k + 1)))).heap[j]? = w.heap[j]?) := fun j hj hne => by
          have hs1 : w.heap.size ≤ w1.heap.size := hb2.size
          rw [heap_setCell_other _ _ j _ (fun e => hne e), hb3.block j (by simp; omega), heap_setCell_other _ _ j _ (fun e => hne e)]
          exact HF1.out j hj hne
        clear hb3 hb2
        have HROW : Hid (FieldRow base (w2.setCell ⟨g, k * 2 + 1, none⟩ (.string (markOf (k0 + 2 * k + 1)))) g n cap (mkG k0 fs (k + 1))) := hrow1.set k hlt _ _ _ (heap_setCell_congr hblk _ _) (by simpa using hsz2)
        clear hblk hc hf
        go_wp2
        go_roundw
        case rel => exact ⟨k + 1, by omega, by go_num, by first | go_num | (congr 1; omega), hb4.setCell hrow.base _, HROW, HF2⟩
        case measure => simp [intOf]; omega
      · obtain rfl : k = n := by omega
        go_wp2
        go_ret
        exact ⟨rfl, hrow.owns, hbw, fun j hj hne => hfar.out j hj (fun e => hne (by rw [e]; rfl))⟩

set_option maxHeartbeats 2000000 in
theorem heldFrom_any (v : Value) (n base : Nat) (fs : List (ByteArray × ByteArray)) (w : World) (h1 : w.ownsRow base 131 2 v n (flatF fs)) (k0 : Nat) (hk0 : 1 ≤ k0) (hn : k0 + 2 * n ≤ 9999999) (hm : ∀ j, j < n → nameAt fs j = markOf (k0 + 2 * j) ∧ valAt fs j = markOf (k0 + 2 * j + 1)) :
    Calls Tryz.prog 124 #[v, .int .i64 (k0 : Int)] w fun e w' => e = .returned (.int .i64 ((k0 : Int) + 2 * (n : Int))) ∧ Below w.heap.size w w' := by
  rcases frow_form h1 with ⟨oa, ca, rfl, _, rfl, rfl⟩ | ⟨g, cap, rfl, hp, r1⟩
  · clear hm
    go_enter Tryz.func124, Tryz.ntmps124
    go_wp2
    refine wp_loop_rounds 1 ?_
    rw [rounds_succ]
    go_wp2
    go_ret
    exact ⟨ret_int (by simp), Below.refl _ _⟩
  · clear h1
    have HM : Hid (∀ j, j < n → nameAt fs j = markOf (k0 + 2 * j) ∧ valAt fs j = markOf (k0 + 2 * j + 1)) := hm
    clear hm
    go_enter Tryz.func124, Tryz.ntmps124
    go_wp2
    go_loopw [1, 5] (fun q i wr => ∃ k : Nat, k ≤ n ∧ i = .int .i64 (k : Int) ∧ q = .int .i64 ((k0 : Int) + 2 * (k : Int)) ∧ Below w.heap.size w wr) (fun _ i _ => n - (intOf i).toNat)
    case atStart => exact ⟨0, Nat.zero_le _, rfl, by simp, Below.refl _ _⟩
    case round =>
      obtain ⟨k, hk, rfl, rfl, hbw⟩ := hrel
      by_cases hlt : k < n
      · have hlt2 : (k : Int) < (n : Int) := by omega
        have HA : Hid (∀ w0 w1, Below w.heap.size w w0 → Below w0.heap.size w0 w1 → (w1.cell? ⟨g, k * 2, none⟩ = some (.string (markOf (k0 + 2 * k))) ∧ w1.cell? ⟨g, k * 2 + 1, none⟩ = some (.string (markOf (k0 + 2 * k + 1)))) ∧ Below w.heap.size w w1) := fun w0 w1 h h' => by
          have hx := h.trans (h'.mono h.size)
          have a1 := (r1.below hx r1.lt).name k hlt
          have a2 := (r1.below hx r1.lt).val k hlt
          rw [(HM.out k hlt).1] at a1
          rw [(HM.out k hlt).2] at a2
          exact ⟨⟨a1, a2⟩, hx⟩
        obtain ⟨⟨hc1, hc2⟩, _⟩ := HA.out wr wr hbw (Below.refl _ _)
        go_wp2
        go_region_held3 (fun w' => w'.cell? ⟨g, k * 2, none⟩ = some (.string (markOf (k0 + 2 * k)))) (first | assumption | go_keep) (first | (go_at_call 122; refine (markText_int _ (k0 + 2 * k) _ (by omega) (by omega) (by omega)).mono ?_; rintro e w1 ⟨rfl, hb1⟩; obtain ⟨⟨hd1, hd2⟩, hbx⟩ := HA.out _ w1 hbw.drew hb1))
        clear hc1 hc2 hd1
        go_wp2
        go_region_held3 (fun w' => w'.cell? ⟨g, k * 2 + 1, none⟩ = some (.string (markOf (k0 + 2 * k + 1)))) (first | assumption | go_keep) (first | (go_at_call 122; refine (markText_int _ (k0 + 2 * k + 1) _ (by omega) (by omega) (by omega)).mono ?_; rintro e w2 ⟨rfl, hb2⟩; obtain ⟨⟨he1, he2⟩, hby⟩ := HA.out _ w2 hbx.drew hb2))
        go_wp2
        go_roundw
        case rel => exact ⟨k + 1, by omega, by go_num, by first | go_num | (congr 1; omega), hby⟩
        case measure => simp [intOf]; omega
      · obtain rfl : k = n := by omega
        go_wp2
        go_ret
        exact ⟨rfl, hbw⟩

end Go.Proofs.YtdlhicdfldecgaaGreatDoor

namespace Go.Proofs.YtdlhicdfldecgaaGreatDoor
open Go.RowKit
open Go.Lib hiding intOf

set_option maxHeartbeats 1000000 in
theorem markRespFrom_any (m : Int) (v : Value) (b : ByteArray) (n base : Nat) (fs : List (ByteArray × ByteArray)) (w : World) (h1 : w.ownsRow base 131 2 v n (flatF fs)) (hb : base ≤ w.heap.size) (k0 : Nat) (hk0 : 1 ≤ k0) (hn : k0 + 2 * n ≤ 9999999) :
    Calls Tryz.prog 71 #[.agg #[.int .i64 m, v, .string b], .int .i64 (k0 : Int)] w fun e w' => e = .returned (.int .i64 ((k0 : Int) + 2 * (n : Int))) ∧ w'.ownsRow base 131 2 v n (flatF (mkG k0 fs n)) ∧ Below base w w' ∧ Far v w w' := by
  obtain ⟨oa, ca, rfl⟩ := slice_of_owns h1
  have h2 := h1.alloc (.cells #[.int .i64 m, .slice oa n ca, .string b] 27)
  have hb2 : Below base w (w.alloc (.cells #[.int .i64 m, .slice oa n ca, .string b] 27)) := (Below.refl _ w).alloc hb _
  have hs : base ≤ (w.alloc (.cells #[.int .i64 m, .slice oa n ca, .string b] 27)).heap.size := by simp; omega
  go_enter Tryz.func71, Tryz.ntmps71
  go_wp2_with fail
  refine (markFrom_any _ n base fs _ h2 hs k0 hk0 hn).mono ?_
  rintro e w1 ⟨rfl, ho, bb1, far1⟩
  have hb3 := hb2.trans bb1
  have HO : Hid _ := ho
  have HF : Hid (Far (.slice oa n ca) w w1) := fun j hj hne => (far1 j (by simp; omega) hne).trans (heap_alloc_old w _ hj)
  clear h1 h2 hb2 hs bb1 ho far1
  go_wp2_with fail
  go_ret
  exact ⟨rfl, HO.out, hb3, HF.out⟩

set_option maxHeartbeats 1000000 in
theorem heldRespFrom_any (m : Int) (v : Value) (b : ByteArray) (n base : Nat) (fs : List (ByteArray × ByteArray)) (w : World) (h1 : w.ownsRow base 131 2 v n (flatF fs)) (k0 : Nat) (hk0 : 1 ≤ k0) (hn : k0 + 2 * n ≤ 9999999) (hm : ∀ j, j < n → nameAt fs j = markOf (k0 + 2 * j) ∧ valAt fs j = markOf (k0 + 2 * j + 1)) :
    Calls Tryz.prog 73 #[.agg #[.int .i64 m, v, .string b], .int .i64 (k0 : Int)] w fun e w' => e = .returned (.int .i64 ((k0 : Int) + 2 * (n : Int))) ∧ Below w.heap.size w w' := by
  obtain ⟨oa, ca, rfl⟩ := slice_of_owns h1
  have h2 := h1.alloc (.cells #[.int .i64 m, .slice oa n ca, .string b] 27)
  have hb2 : Below w.heap.size w (w.alloc (.cells #[.int .i64 m, .slice oa n ca, .string b] 27)) := (Below.refl _ w).alloc (Nat.le_refl _) _
  have hk2 : ¬ ((k0 : Int) + 2 * (n : Int) < 0) := by omega
  have HM : Hid (∀ j, j < n → nameAt fs j = markOf (k0 + 2 * j) ∧ valAt fs j = markOf (k0 + 2 * j + 1)) := hm
  clear hm
  go_enter Tryz.func73, Tryz.ntmps73
  go_wp2_with fail
  refine (heldFrom_any _ n base fs _ h2 k0 hk0 hn HM.out).mono ?_
  rintro e w1 ⟨rfl, bb1⟩
  have hb3 := hb2.trans (bb1.mono hb2.size)
  clear h1 h2 hb2 bb1
  go_wp2_with fail
  go_ret
  exact ⟨rfl, hb3⟩

/-- A block's content behind a call. -/
theorem blk_below {W W' : World} {r : Nat} {o : Obj} (h : W.heap[r]? = some o) (b : Below W.heap.size W W') : W'.heap[r]? = some o := by
  rw [b.block r (Array.getElem?_eq_some_iff.1 h).1]; exact h
theorem own_ne {W : World} {r : Nat} {cs : Array Value} {T t : TypeId} {base size n : Nat} {v : Value} {xs : List Value} (ho : W.ownsRow base t size v n xs) (h : W.heap[r]? = some (.cells cs T)) (hT : T ≠ t) (j : Nat) (hj : v.ownBlock = some j) : j ≠ r := fun e => by
  subst e
  rcases ho.2 with ⟨rfl, _⟩ | ⟨g, cap, cur, rfl, _, h1, _⟩
  · cases hj
  · cases hj
    rw [h] at h1
    cases h1
    exact hT rfl
/-- A block of another type is no row of this one. -/
theorem blk_far {W W' : World} {r : Nat} {cs : Array Value} {T t : TypeId} {base size n : Nat} {v : Value} {xs : List Value} (h : W.heap[r]? = some (.cells cs T)) (far : Far v W W') (ho : W.ownsRow base t size v n xs) (hT : T ≠ t) : W'.heap[r]? = some (.cells cs T) := by
  rw [far r (Array.getElem?_eq_some_iff.1 h).1 (fun e => ?_)]
  · exact h
  · rcases ho.2 with ⟨rfl, _⟩ | ⟨g, cap, cur, rfl, _, h1, _⟩
    · cases e
    · cases e
      rw [h] at h1
      cases h1
      exact hT rfl

end Go.Proofs.YtdlhicdfldecgaaGreatDoor

namespace Go.Proofs.YtdlhicdfldecgaaGreatDoor
open Go.RowKit
open Go.Lib hiding intOf

theorem cell_of {W : World} {R : Nat} {cs : Array Value} {t : TypeId} (h : W.heap[R]? = some (.cells cs t)) (i : Nat) : W.cell? ⟨R, i, none⟩ = cs[i]? := by simp [World.cell?, h]
theorem frozen_of {W : World} {R : Nat} {cs : Array Value} {t : TypeId} (h : W.heap[R]? = some (.cells cs t)) (i : Nat) : W.frozen? ⟨R, i, none⟩ = false := by simp [World.frozen?, h]
/-- Rows of two types lie apart. -/
theorem own_type_ne {W : World} {b1 b2 z1 z2 n1 n2 : Nat} {t1 t2 : TypeId} {v1 v2 : Value} {xs ys : List Value} (h1 : W.ownsRow b1 t1 z1 v1 n1 xs) (h2 : W.ownsRow b2 t2 z2 v2 n2 ys) (ht : t1 ≠ t2) (j : Nat) (hj : v1.ownBlock = some j) : v2.ownBlock ≠ some j := fun e => by
  rcases h1.2 with ⟨rfl, _⟩ | ⟨g, cap, cur, rfl, _, k1, _⟩
  · cases hj
  · cases hj
    rcases h2.2 with ⟨rfl, _⟩ | ⟨g2, cap2, cur2, rfl, _, k2, _⟩
    · cases e
    · cases e
      rw [k1] at k2
      cases k2
      exact ht rfl
def mkT (k0 : Nat) (xs : List ByteArray) : Nat → List ByteArray
  | 0 => xs
  | i + 1 => (mkT k0 xs i).set i (markOf (k0 + i))
theorem mkT_len (k0 : Nat) (xs : List ByteArray) : ∀ i, (mkT k0 xs i).length = xs.length
  | 0 => rfl
  | i + 1 => by rw [mkT, List.length_set, mkT_len k0 xs i]
theorem mkT_at (k0 : Nat) (xs : List ByteArray) (j : Nat) (hj : j < xs.length) : ∀ i, j < i → textAt (mkT k0 xs i) j = markOf (k0 + j) := by
  intro i
  induction i with
  | zero => intro h; omega
  | succ i ih =>
    intro h
    unfold textAt
    rw [mkT]
    by_cases e : i = j
    · subst e
      rw [List.getD_eq_getElem?_getD, List.getElem?_set_self (by rw [mkT_len]; exact hj)]
      rfl
    · rw [List.getD_eq_getElem?_getD, List.getElem?_set_ne (by exact e), ← List.getD_eq_getElem?_getD]
      exact ih (by omega)

set_option maxHeartbeats 1000000 in
theorem markTFrom_any (v : Value) (n base : Nat) (xs : List ByteArray) (w : World) (h1 : w.ownsRow base 9 1 v n (xs.map Value.string)) (hb : base ≤ w.heap.size) (k0 : Nat) (hk0 : 1 ≤ k0) (hn : k0 + n ≤ 9999998) :
    Calls Tryz.prog 70 #[v, .int .i64 (k0 : Int)] w fun e w' => e = .returned (.int .i64 ((k0 : Int) + (n : Int))) ∧ w'.ownsRow base 9 1 v n ((mkT k0 xs n).map Value.string) ∧ Below base w w' ∧ Far v w w' := by
  rcases row_form h1 with ⟨oa, ca, rfl, rfl, rfl⟩ | ⟨g, cap, rfl, hp, r1⟩
  · go_enter Tryz.func70, Tryz.ntmps70
    go_wp2
    refine wp_loop_rounds 1 ?_
    rw [rounds_succ]
    go_wp2
    go_ret
    exact ⟨by simp, h1, Below.refl _ _, fun _ _ _ => rfl⟩
  · clear h1
    have HR1 : Hid (TextRow base w g n cap xs) := r1
    clear r1
    go_enter Tryz.func70, Tryz.ntmps70
    go_wp2
    go_loopw [1, 5] (fun k i wr => ∃ j : Nat, j ≤ n ∧ i = .int .i64 (j : Int) ∧ k = .int .i64 ((k0 : Int) + (j : Int)) ∧ Hid (w.grownBy wr (some g)) ∧ Hid (TextRow base wr g n cap (mkT k0 xs j))) (fun _ i _ => n - (intOf i).toNat)
    case atStart => exact ⟨0, Nat.zero_le _, rfl, by simp, World.grownBy.refl _ _, HR1⟩
    case round =>
      obtain ⟨j, hj, rfl, rfl, HG, HR⟩ := hrel
      by_cases hlt : j < n
      · have hlt2 : (j : Int) < (n : Int) := by omega
        go_wp2_with fail
        refine (markText_int _ (k0 + j) _ (by omega) (by omega) (by omega)).mono ?_
        rintro e w1 ⟨rfl, hb1⟩
        have hrow1 := HR.out.below hb1 HR.out.lt
        have hc := hrow1.cell j hlt
        have hf := hrow1.frozen j
        have HG2 : Hid (w.grownBy (w1.setCell ⟨g, j, none⟩ (.string (markOf (k0 + j)))) (some g)) := by
          have h0 := HG.out
          refine ⟨hb1.os.trans h0.os, hb1.tape.trans h0.tape, hb1.output.trans h0.output, by rw [World.size_setCell]; exact Nat.le_trans h0.size hb1.size, fun i hi hne => ?_⟩
          rw [heap_setCell_other _ _ i _ (fun e => hne (by rw [e]))]
          exact (hb1.block i (Nat.lt_of_lt_of_le hi h0.size)).trans (h0.block i hi hne)
        have HR2 : Hid (TextRow base (w1.setCell ⟨g, j, none⟩ (.string (markOf (k0 + j)))) g n cap (mkT k0 xs (j + 1))) := hrow1.set j hlt _
        clear hb1 HG HR hrow1
        go_wp2
        go_roundw
        case rel => exact ⟨j + 1, by omega, by go_num, by go_num, HG2, HR2⟩
        case measure => simp [intOf]; omega
      · obtain rfl : j = n := by omega
        go_wp2
        go_ret
        have hg := HG.out
        exact ⟨rfl, HR.out.owns, ⟨hg.os, hg.tape, hg.output, hg.size, fun i hi => hg.block i (Nat.lt_of_lt_of_le hi hb) (fun e => by have := HR.out.base; cases e; omega)⟩, fun i hi hne => hg.block i hi (fun e => hne e.symm)⟩

set_option maxHeartbeats 1000000 in
theorem heldTFrom_any (v : Value) (n base : Nat) (xs : List ByteArray) (w : World) (h1 : w.ownsRow base 9 1 v n (xs.map Value.string)) (k0 : Nat) (hk0 : 1 ≤ k0) (hn : k0 + n ≤ 9999998) (hm : ∀ j, j < n → textAt xs j = markOf (k0 + j)) :
    Calls Tryz.prog 72 #[v, .int .i64 (k0 : Int)] w fun e w' => e = .returned (.int .i64 ((k0 : Int) + (n : Int))) ∧ Below w.heap.size w w' := by
  rcases row_form h1 with ⟨oa, ca, rfl, rfl, rfl⟩ | ⟨g, cap, rfl, hp, r1⟩
  · clear hm
    go_enter Tryz.func72, Tryz.ntmps72
    go_wp2
    refine wp_loop_rounds 1 ?_
    rw [rounds_succ]
    go_wp2
    go_ret
    exact ⟨by simp, Below.refl _ _⟩
  · clear h1
    have HM : Hid (∀ j, j < n → textAt xs j = markOf (k0 + j)) := hm
    clear hm
    go_enter Tryz.func72, Tryz.ntmps72
    go_wp2
    go_loopw [1, 5] (fun k i wr => ∃ j : Nat, j ≤ n ∧ i = .int .i64 (j : Int) ∧ k = .int .i64 ((k0 : Int) + (j : Int)) ∧ Below w.heap.size w wr) (fun _ i _ => n - (intOf i).toNat)
    case atStart => exact ⟨0, Nat.zero_le _, rfl, by simp, Below.refl _ _⟩
    case round =>
      obtain ⟨j, hj, rfl, rfl, hbw⟩ := hrel
      by_cases hlt : j < n
      · have hlt2 : (j : Int) < (n : Int) := by omega
        have hc : wr.cell? ⟨g, j, none⟩ = some (.string (markOf (k0 + j))) := by
          rw [← HM.out j hlt]; exact (r1.below hbw r1.lt).cell j hlt
        have hall : ∀ w1, Below wr.heap.size wr w1 → w1.cell? ⟨g, j, none⟩ = some (.string (markOf (k0 + j))) := fun w1 h => by
          rw [h.cell (p := ⟨g, j, none⟩) (by have := hbw.size; have := r1.lt; show g < _; omega)]; exact hc
        have HA : Hid _ := hall
        clear hall
        go_wp2
        go_region_with (go_at_call 122; refine (markText_int _ (k0 + j) _ (by omega) (by omega) (by omega)).mono ?_; rintro e w1 ⟨rfl, hb1⟩; have hc1 := HA.out w1 (((Below.refl _ wr).drew).trans hb1))
        all_goals
          go_wp2
          go_roundw
          case rel => exact ⟨j + 1, by omega, by go_num, by go_num, (hbw.drew).trans (hb1.mono hbw.size)⟩
          case measure => simp [intOf]; omega
      · obtain rfl : j = n := by omega
        go_wp2
        go_ret
        exact ⟨rfl, hbw⟩

end Go.Proofs.YtdlhicdfldecgaaGreatDoor

namespace Go.Proofs.YtdlhicdfldecgaaGreatDoor
open Go.RowKit
open Go.Lib hiding intOf

/-- An object's three lists, in memory of one's own, no two in one block. -/
structure ObjO (W : World) (base : Nat) (v1 : Value) (n1 : Nat) (xs : List ByteArray) (v2 : Value) (n2 : Nat) (ys : List ByteArray) (v3 : Value) (n3 : Nat) (fs : List (ByteArray × ByteArray)) : Prop where
  names : W.ownsRow base 9 1 v1 n1 (xs.map Value.string)
  vals : W.ownsRow base 9 1 v2 n2 (ys.map Value.string)
  flds : W.ownsRow base 131 2 v3 n3 (flatF fs)
  ne : ∀ j, v1.ownBlock = some j → v2.ownBlock ≠ some j


set_option maxHeartbeats 4000000 in
set_option maxRecDepth 100000 in
theorem eqObj_any (p : ByteArray) (n1 : Nat) (xs : List ByteArray) (n2 : Nat) (ys : List ByteArray) (st : Int) (n3 : Nat) (fs : List (ByteArray × ByteArray)) (b : ByteArray) (t : Int) (v1 v2 v3 u1 u2 u3 : Value) (B1 B2 : Nat) (w : World) (hx : ObjO w B1 v1 n1 xs v2 n2 ys v3 n3 fs) (hy : ObjO w B2 u1 n1 xs u2 n2 ys u3 n3 fs) (hn1 : n1 ≤ 2000000) (hn2 : n2 ≤ 2000000) (hn3 : n3 ≤ 2000000) :
    Calls Tryz.prog 21 #[.agg #[.string p, v1, v2, .int .i64 st, v3, .string b, .int .i64 t], .agg #[.string p, u1, u2, .int .i64 st, u3, .string b, .int .i64 t]] w fun e w' => e = .returned (.bool true) ∧ Below w.heap.size w w' := by
  obtain ⟨oNx, pNx, rfl⟩ := slice_of_owns hx.names
  obtain ⟨oVx, pVx, rfl⟩ := slice_of_owns hx.vals
  obtain ⟨oFx, pFx, rfl⟩ := slice_of_owns hx.flds
  have HONx_0 : Hid ((w).ownsRow B1 9 1 (.slice oNx n1 pNx) n1 (xs.map Value.string)) := hx.names
  have HOVx_0 : Hid ((w).ownsRow B1 9 1 (.slice oVx n2 pVx) n2 (ys.map Value.string)) := hx.vals
  have HOFx_0 : Hid ((w).ownsRow B1 131 2 (.slice oFx n3 pFx) n3 (flatF fs)) := hx.flds
  have APx : Hid (∀ j, (Value.slice oNx n1 pNx).ownBlock = some j → (Value.slice oVx n2 pVx).ownBlock ≠ some j) := hx.ne
  clear hx
  obtain ⟨oNy, pNy, rfl⟩ := slice_of_owns hy.names
  obtain ⟨oVy, pVy, rfl⟩ := slice_of_owns hy.vals
  obtain ⟨oFy, pFy, rfl⟩ := slice_of_owns hy.flds
  have HONy_0 : Hid ((w).ownsRow B2 9 1 (.slice oNy n1 pNy) n1 (xs.map Value.string)) := hy.names
  have HOVy_0 : Hid ((w).ownsRow B2 9 1 (.slice oVy n2 pVy) n2 (ys.map Value.string)) := hy.vals
  have HOFy_0 : Hid ((w).ownsRow B2 131 2 (.slice oFy n3 pFy) n3 (flatF fs)) := hy.flds
  have APy : Hid (∀ j, (Value.slice oNy n1 pNy).ownBlock = some j → (Value.slice oVy n2 pVy).ownBlock ≠ some j) := hy.ne
  clear hy
  have hpp : (p.toList != p.toList) = false := by simp
  have htt : (t != t) = false := by simp
  have hb0 : Below w.heap.size w w := Below.refl _ _
  go_enter Tryz.func21, Tryz.ntmps21
  go_upto_region 1 with fail
  obtain ⟨qv1, hqv1⟩ : ∃ q, q = (w).heap.size := ⟨_, rfl⟩
  obtain ⟨w1, hW1⟩ : ∃ W, W = (w).alloc (.cells #[.string p, .slice oNx n1 pNx, .slice oVx n2 pVx, .int .i64 st, .slice oFx n3 pFx, .string b, .int .i64 t] 29) := ⟨_, rfl⟩
  have hz1 : (w).heap.size = qv1 := hqv1.symm
  first | rw [← hW1, ← hqv1] | rw [← hW1]
  have hs1 : w1.heap.size = qv1 + 1 := by rw [hW1, ← hz1]; simp
  have bw : Below (w).heap.size (w) w1 := by rw [hW1]; exact (Below.refl _ _).alloc (Nat.le_refl _) _
  have hb1 : Below w.heap.size w (w1) := hb0.trans (bw.mono hb0.size)
  have HM1 : Hid ((w).heap.size ≤ (w1).heap.size) := bw.size
  have HONx_1 : Hid ((w1).ownsRow B1 9 1 (.slice oNx n1 pNx) n1 (xs.map Value.string)) := owns_below HONx_0.out bw (fun g hg => owns_lt HONx_0.out hg)
  have HOVx_1 : Hid ((w1).ownsRow B1 9 1 (.slice oVx n2 pVx) n2 (ys.map Value.string)) := owns_below HOVx_0.out bw (fun g hg => owns_lt HOVx_0.out hg)
  have HOFx_1 : Hid ((w1).ownsRow B1 131 2 (.slice oFx n3 pFx) n3 (flatF fs)) := owns_below HOFx_0.out bw (fun g hg => owns_lt HOFx_0.out hg)
  have HONy_1 : Hid ((w1).ownsRow B2 9 1 (.slice oNy n1 pNy) n1 (xs.map Value.string)) := owns_below HONy_0.out bw (fun g hg => owns_lt HONy_0.out hg)
  have HOVy_1 : Hid ((w1).ownsRow B2 9 1 (.slice oVy n2 pVy) n2 (ys.map Value.string)) := owns_below HOVy_0.out bw (fun g hg => owns_lt HOVy_0.out hg)
  have HOFy_1 : Hid ((w1).ownsRow B2 131 2 (.slice oFy n3 pFy) n3 (flatF fs)) := owns_below HOFy_0.out bw (fun g hg => owns_lt HOFy_0.out hg)
  have HBv1_1 : Hid ((w1).heap[qv1]? = some (.cells #[.string p, .slice oNx n1 pNx, .slice oVx n2 pVx, .int .i64 st, .slice oFx n3 pFx, .string b, .int .i64 t] 29)) := by show _ = _; rw [hW1, ← hz1]; exact heap_alloc_new _ _
  have HGv1 : Hid (w.heap.size ≤ qv1) := by show _ ≤ _; rw [← hz1]; exact hb0.size
  clear hb0 HONx_0 HOVx_0 HOFx_0 HONy_0 HOVy_0 HOFy_0 bw hW1 hz1
  obtain ⟨qv2, hqv2⟩ : ∃ q, q = qv1 + 1 := ⟨_, rfl⟩
  obtain ⟨w2, hW2⟩ : ∃ W, W = (w1).alloc (.cells #[.string p, .slice oNy n1 pNy, .slice oVy n2 pVy, .int .i64 st, .slice oFy n3 pFy, .string b, .int .i64 t] 29) := ⟨_, rfl⟩
  have hz2 : (w1).heap.size = qv2 := by rw [hqv2]; exact hs1
  first | rw [← hW2, ← hqv2] | rw [← hW2]
  have hs2 : w2.heap.size = qv2 + 1 := by rw [hW2, ← hz2]; simp
  have bw : Below (w1).heap.size (w1) w2 := by rw [hW2]; exact (Below.refl _ _).alloc (Nat.le_refl _) _
  have hb2 : Below w.heap.size w (w2) := hb1.trans (bw.mono hb1.size)
  have HM2 : Hid ((w1).heap.size ≤ (w2).heap.size) := bw.size
  have HONx_2 : Hid ((w2).ownsRow B1 9 1 (.slice oNx n1 pNx) n1 (xs.map Value.string)) := owns_below HONx_1.out bw (fun g hg => owns_lt HONx_1.out hg)
  have HOVx_2 : Hid ((w2).ownsRow B1 9 1 (.slice oVx n2 pVx) n2 (ys.map Value.string)) := owns_below HOVx_1.out bw (fun g hg => owns_lt HOVx_1.out hg)
  have HOFx_2 : Hid ((w2).ownsRow B1 131 2 (.slice oFx n3 pFx) n3 (flatF fs)) := owns_below HOFx_1.out bw (fun g hg => owns_lt HOFx_1.out hg)
  have HONy_2 : Hid ((w2).ownsRow B2 9 1 (.slice oNy n1 pNy) n1 (xs.map Value.string)) := owns_below HONy_1.out bw (fun g hg => owns_lt HONy_1.out hg)
  have HOVy_2 : Hid ((w2).ownsRow B2 9 1 (.slice oVy n2 pVy) n2 (ys.map Value.string)) := owns_below HOVy_1.out bw (fun g hg => owns_lt HOVy_1.out hg)
  have HOFy_2 : Hid ((w2).ownsRow B2 131 2 (.slice oFy n3 pFy) n3 (flatF fs)) := owns_below HOFy_1.out bw (fun g hg => owns_lt HOFy_1.out hg)
  have HBv1_2 : Hid ((w2).heap[qv1]? = some (.cells #[.string p, .slice oNx n1 pNx, .slice oVx n2 pVx, .int .i64 st, .slice oFx n3 pFx, .string b, .int .i64 t] 29)) := blk_below HBv1_1.out bw
  have HNv1v2 : Hid (qv1 ≠ qv2) := fun e => by have h1 := (Array.getElem?_eq_some_iff.1 HBv1_1.out).1; omega
  have HBv2_2 : Hid ((w2).heap[qv2]? = some (.cells #[.string p, .slice oNy n1 pNy, .slice oVy n2 pVy, .int .i64 st, .slice oFy n3 pFy, .string b, .int .i64 t] 29)) := by show _ = _; rw [hW2, ← hz2]; exact heap_alloc_new _ _
  have HGv2 : Hid (w.heap.size ≤ qv2) := by show _ ≤ _; rw [← hz2]; exact hb1.size
  clear hb1 HONx_1 HOVx_1 HOFx_1 HONy_1 HOVy_1 HOFy_1 HBv1_1 bw hW2 hz2
  clear hs2 hqv2 hs1 hqv1
  have cv1_0 : (w2).cell? ⟨qv1, 0, none⟩ = some (.string p) := (cell_of HBv1_2.out 0).trans rfl
  have cv2_0 : (w2).cell? ⟨qv2, 0, none⟩ = some (.string p) := (cell_of HBv2_2.out 0).trans rfl
  have cv1_1 : (w2).cell? ⟨qv1, 1, none⟩ = some (.slice oNx n1 pNx) := (cell_of HBv1_2.out 1).trans rfl
  have cv2_1 : (w2).cell? ⟨qv2, 1, none⟩ = some (.slice oNy n1 pNy) := (cell_of HBv2_2.out 1).trans rfl
  go_wp2_with fail
  refine (eqS_any _ _ n1 _ _ xs _ HONx_2.out HONy_2.out (by omega)).mono ?_
  rintro e w3 ⟨rfl, bw⟩
  have hb3 : Below w.heap.size w (w3) := hb2.trans (bw.mono hb2.size)
  have HM3 : Hid ((w2).heap.size ≤ (w3).heap.size) := bw.size
  have HONx_3 : Hid ((w3).ownsRow B1 9 1 (.slice oNx n1 pNx) n1 (xs.map Value.string)) := owns_below HONx_2.out bw (fun g hg => owns_lt HONx_2.out hg)
  have HOVx_3 : Hid ((w3).ownsRow B1 9 1 (.slice oVx n2 pVx) n2 (ys.map Value.string)) := owns_below HOVx_2.out bw (fun g hg => owns_lt HOVx_2.out hg)
  have HOFx_3 : Hid ((w3).ownsRow B1 131 2 (.slice oFx n3 pFx) n3 (flatF fs)) := owns_below HOFx_2.out bw (fun g hg => owns_lt HOFx_2.out hg)
  have HONy_3 : Hid ((w3).ownsRow B2 9 1 (.slice oNy n1 pNy) n1 (xs.map Value.string)) := owns_below HONy_2.out bw (fun g hg => owns_lt HONy_2.out hg)
  have HOVy_3 : Hid ((w3).ownsRow B2 9 1 (.slice oVy n2 pVy) n2 (ys.map Value.string)) := owns_below HOVy_2.out bw (fun g hg => owns_lt HOVy_2.out hg)
  have HOFy_3 : Hid ((w3).ownsRow B2 131 2 (.slice oFy n3 pFy) n3 (flatF fs)) := owns_below HOFy_2.out bw (fun g hg => owns_lt HOFy_2.out hg)
  have HBv1_3 : Hid ((w3).heap[qv1]? = some (.cells #[.string p, .slice oNx n1 pNx, .slice oVx n2 pVx, .int .i64 st, .slice oFx n3 pFx, .string b, .int .i64 t] 29)) := blk_below HBv1_2.out bw
  have HBv2_3 : Hid ((w3).heap[qv2]? = some (.cells #[.string p, .slice oNy n1 pNy, .slice oVy n2 pVy, .int .i64 st, .slice oFy n3 pFy, .string b, .int .i64 t] 29)) := blk_below HBv2_2.out bw
  clear hb2 HONx_2 HOVx_2 HOFx_2 HONy_2 HOVy_2 HOFy_2 HBv1_2 HBv2_2 bw
  clear cv1_0 cv2_0 cv1_1 cv2_1
  have cv1_2 : (w3).cell? ⟨qv1, 2, none⟩ = some (.slice oVx n2 pVx) := (cell_of HBv1_3.out 2).trans rfl
  have cv2_2 : (w3).cell? ⟨qv2, 2, none⟩ = some (.slice oVy n2 pVy) := (cell_of HBv2_3.out 2).trans rfl
  go_wp2_with fail
  refine (eqS_any _ _ n2 _ _ ys _ HOVx_3.out HOVy_3.out (by omega)).mono ?_
  rintro e w4 ⟨rfl, bw⟩
  have hb4 : Below w.heap.size w (w4) := hb3.trans (bw.mono hb3.size)
  have HM4 : Hid ((w3).heap.size ≤ (w4).heap.size) := bw.size
  have HONx_4 : Hid ((w4).ownsRow B1 9 1 (.slice oNx n1 pNx) n1 (xs.map Value.string)) := owns_below HONx_3.out bw (fun g hg => owns_lt HONx_3.out hg)
  have HOVx_4 : Hid ((w4).ownsRow B1 9 1 (.slice oVx n2 pVx) n2 (ys.map Value.string)) := owns_below HOVx_3.out bw (fun g hg => owns_lt HOVx_3.out hg)
  have HOFx_4 : Hid ((w4).ownsRow B1 131 2 (.slice oFx n3 pFx) n3 (flatF fs)) := owns_below HOFx_3.out bw (fun g hg => owns_lt HOFx_3.out hg)
  have HONy_4 : Hid ((w4).ownsRow B2 9 1 (.slice oNy n1 pNy) n1 (xs.map Value.string)) := owns_below HONy_3.out bw (fun g hg => owns_lt HONy_3.out hg)
  have HOVy_4 : Hid ((w4).ownsRow B2 9 1 (.slice oVy n2 pVy) n2 (ys.map Value.string)) := owns_below HOVy_3.out bw (fun g hg => owns_lt HOVy_3.out hg)
  have HOFy_4 : Hid ((w4).ownsRow B2 131 2 (.slice oFy n3 pFy) n3 (flatF fs)) := owns_below HOFy_3.out bw (fun g hg => owns_lt HOFy_3.out hg)
  have HBv1_4 : Hid ((w4).heap[qv1]? = some (.cells #[.string p, .slice oNx n1 pNx, .slice oVx n2 pVx, .int .i64 st, .slice oFx n3 pFx, .string b, .int .i64 t] 29)) := blk_below HBv1_3.out bw
  have HBv2_4 : Hid ((w4).heap[qv2]? = some (.cells #[.string p, .slice oNy n1 pNy, .slice oVy n2 pVy, .int .i64 st, .slice oFy n3 pFy, .string b, .int .i64 t] 29)) := blk_below HBv2_3.out bw
  clear hb3 HONx_3 HOVx_3 HOFx_3 HONy_3 HOVy_3 HOFy_3 HBv1_3 HBv2_3 bw
  clear cv1_2 cv2_2
  have cv1_3 : (w4).cell? ⟨qv1, 3, none⟩ = some (.int .i64 st) := (cell_of HBv1_4.out 3).trans rfl
  have cv1_4 : (w4).cell? ⟨qv1, 4, none⟩ = some (.slice oFx n3 pFx) := (cell_of HBv1_4.out 4).trans rfl
  have cv1_5 : (w4).cell? ⟨qv1, 5, none⟩ = some (.string b) := (cell_of HBv1_4.out 5).trans rfl
  have cv2_3 : (w4).cell? ⟨qv2, 3, none⟩ = some (.int .i64 st) := (cell_of HBv2_4.out 3).trans rfl
  have cv2_4 : (w4).cell? ⟨qv2, 4, none⟩ = some (.slice oFy n3 pFy) := (cell_of HBv2_4.out 4).trans rfl
  have cv2_5 : (w4).cell? ⟨qv2, 5, none⟩ = some (.string b) := (cell_of HBv2_4.out 5).trans rfl
  go_wp2_with fail
  refine (eqResp_any st _ _ b n3 _ _ fs _ (FieldsV.of_owns HOFx_4.out) (FieldsV.of_owns HOFy_4.out) (by omega)).mono ?_
  rintro e w5 ⟨rfl, bw⟩
  have hb5 : Below w.heap.size w (w5) := hb4.trans (bw.mono hb4.size)
  have HM5 : Hid ((w4).heap.size ≤ (w5).heap.size) := bw.size
  have HONx_5 : Hid ((w5).ownsRow B1 9 1 (.slice oNx n1 pNx) n1 (xs.map Value.string)) := owns_below HONx_4.out bw (fun g hg => owns_lt HONx_4.out hg)
  have HOVx_5 : Hid ((w5).ownsRow B1 9 1 (.slice oVx n2 pVx) n2 (ys.map Value.string)) := owns_below HOVx_4.out bw (fun g hg => owns_lt HOVx_4.out hg)
  have HOFx_5 : Hid ((w5).ownsRow B1 131 2 (.slice oFx n3 pFx) n3 (flatF fs)) := owns_below HOFx_4.out bw (fun g hg => owns_lt HOFx_4.out hg)
  have HONy_5 : Hid ((w5).ownsRow B2 9 1 (.slice oNy n1 pNy) n1 (xs.map Value.string)) := owns_below HONy_4.out bw (fun g hg => owns_lt HONy_4.out hg)
  have HOVy_5 : Hid ((w5).ownsRow B2 9 1 (.slice oVy n2 pVy) n2 (ys.map Value.string)) := owns_below HOVy_4.out bw (fun g hg => owns_lt HOVy_4.out hg)
  have HOFy_5 : Hid ((w5).ownsRow B2 131 2 (.slice oFy n3 pFy) n3 (flatF fs)) := owns_below HOFy_4.out bw (fun g hg => owns_lt HOFy_4.out hg)
  have HBv1_5 : Hid ((w5).heap[qv1]? = some (.cells #[.string p, .slice oNx n1 pNx, .slice oVx n2 pVx, .int .i64 st, .slice oFx n3 pFx, .string b, .int .i64 t] 29)) := blk_below HBv1_4.out bw
  have HBv2_5 : Hid ((w5).heap[qv2]? = some (.cells #[.string p, .slice oNy n1 pNy, .slice oVy n2 pVy, .int .i64 st, .slice oFy n3 pFy, .string b, .int .i64 t] 29)) := blk_below HBv2_4.out bw
  clear hb4 HONx_4 HOVx_4 HOFx_4 HONy_4 HOVy_4 HOFy_4 HBv1_4 HBv2_4 bw
  clear cv1_3 cv1_4 cv1_5 cv2_3 cv2_4 cv2_5
  have cv1_6 : (w5).cell? ⟨qv1, 6, none⟩ = some (.int .i64 t) := (cell_of HBv1_5.out 6).trans rfl
  have cv2_6 : (w5).cell? ⟨qv2, 6, none⟩ = some (.int .i64 t) := (cell_of HBv2_5.out 6).trans rfl
  go_wp2_with fail
  go_ret
  exact ⟨rfl, hb5⟩

set_option maxHeartbeats 4000000 in
set_option maxRecDepth 100000 in
theorem markObj_any (p : ByteArray) (n1 : Nat) (xs : List ByteArray) (n2 : Nat) (ys : List ByteArray) (st : Int) (n3 : Nat) (fs : List (ByteArray × ByteArray)) (b : ByteArray) (t : Int) (v1 v2 v3 : Value) (B : Nat) (w : World) (hx : ObjO w B v1 n1 xs v2 n2 ys v3 n3 fs) (hB : B ≤ w.heap.size) (k0 : Nat) (hk0 : 1 ≤ k0) (hk : k0 + n1 + n2 + 2 * n3 ≤ 9999998) :
    Calls Tryz.prog 22 #[.agg #[.string p, v1, v2, .int .i64 st, v3, .string b, .int .i64 t], .int .i64 (k0 : Int)] w fun e w' => e = .returned (.int .i64 (((k0 + n1 + n2 + 2 * n3) : Nat) : Int)) ∧ ObjO w' B v1 n1 (mkT k0 xs n1) v2 n2 (mkT (k0 + n1) ys n2) v3 n3 (mkG (k0 + n1 + n2) fs n3) ∧ Below B w w' ∧ (∀ g, g < w.heap.size → v1.ownBlock ≠ some g → v2.ownBlock ≠ some g → v3.ownBlock ≠ some g → w'.heap[g]? = w.heap[g]?) := by
  obtain ⟨oNx, pNx, rfl⟩ := slice_of_owns hx.names
  obtain ⟨oVx, pVx, rfl⟩ := slice_of_owns hx.vals
  obtain ⟨oFx, pFx, rfl⟩ := slice_of_owns hx.flds
  have HONx_0 : Hid ((w).ownsRow B 9 1 (.slice oNx n1 pNx) n1 (xs.map Value.string)) := hx.names
  have HOVx_0 : Hid ((w).ownsRow B 9 1 (.slice oVx n2 pVx) n2 (ys.map Value.string)) := hx.vals
  have HOFx_0 : Hid ((w).ownsRow B 131 2 (.slice oFx n3 pFx) n3 (flatF fs)) := hx.flds
  have APx : Hid (∀ j, (Value.slice oNx n1 pNx).ownBlock = some j → (Value.slice oVx n2 pVx).ownBlock ≠ some j) := hx.ne
  clear hx
  have hb0 : Below B w w := Below.refl _ _
  have HFAR_0 : Hid (∀ g, g < w.heap.size → (Value.ownBlock (.slice oNx n1 pNx)) ≠ some g → (Value.ownBlock (.slice oVx n2 pVx)) ≠ some g → (Value.ownBlock (.slice oFx n3 pFx)) ≠ some g → (w).heap[g]? = w.heap[g]?) := fun _ _ _ _ _ => rfl
  go_enter Tryz.func22, Tryz.ntmps22
  go_upto_region 1 with fail
  obtain ⟨qv1, hqv1⟩ : ∃ q, q = (w).heap.size := ⟨_, rfl⟩
  obtain ⟨w1, hW1⟩ : ∃ W, W = (w).alloc (.cells #[.string p, .slice oNx n1 pNx, .slice oVx n2 pVx, .int .i64 st, .slice oFx n3 pFx, .string b, .int .i64 t] 29) := ⟨_, rfl⟩
  have hz1 : (w).heap.size = qv1 := hqv1.symm
  first | rw [← hW1, ← hqv1] | rw [← hW1]
  have hs1 : w1.heap.size = qv1 + 1 := by rw [hW1, ← hz1]; simp
  have bw : Below (w).heap.size (w) w1 := by rw [hW1]; exact (Below.refl _ _).alloc (Nat.le_refl _) _
  have hb1 : Below B w (w1) := hb0.trans (bw.mono (Nat.le_trans hB hb0.size))
  have HM1 : Hid ((w).heap.size ≤ (w1).heap.size) := bw.size
  have HONx_1 : Hid ((w1).ownsRow B 9 1 (.slice oNx n1 pNx) n1 (xs.map Value.string)) := owns_below HONx_0.out bw (fun g hg => owns_lt HONx_0.out hg)
  have HOVx_1 : Hid ((w1).ownsRow B 9 1 (.slice oVx n2 pVx) n2 (ys.map Value.string)) := owns_below HOVx_0.out bw (fun g hg => owns_lt HOVx_0.out hg)
  have HOFx_1 : Hid ((w1).ownsRow B 131 2 (.slice oFx n3 pFx) n3 (flatF fs)) := owns_below HOFx_0.out bw (fun g hg => owns_lt HOFx_0.out hg)
  have HFAR_1 : Hid (∀ g, g < w.heap.size → (Value.ownBlock (.slice oNx n1 pNx)) ≠ some g → (Value.ownBlock (.slice oVx n2 pVx)) ≠ some g → (Value.ownBlock (.slice oFx n3 pFx)) ≠ some g → (w1).heap[g]? = w.heap[g]?) := fun g hg aNx aVx aFx => (bw.block g (Nat.lt_of_lt_of_le hg hb0.size)).trans (HFAR_0.out g hg aNx aVx aFx)
  have HBv1_1 : Hid ((w1).heap[qv1]? = some (.cells #[.string p, .slice oNx n1 pNx, .slice oVx n2 pVx, .int .i64 st, .slice oFx n3 pFx, .string b, .int .i64 t] 29)) := by show _ = _; rw [hW1, ← hz1]; exact heap_alloc_new _ _
  have HGv1 : Hid (w.heap.size ≤ qv1) := by show _ ≤ _; rw [← hz1]; exact hb0.size
  clear hb0 HFAR_0 HONx_0 HOVx_0 HOFx_0 bw hW1 hz1
  clear hs1 hqv1
  have cv1_1 : (w1).cell? ⟨qv1, 1, none⟩ = some (.slice oNx n1 pNx) := (cell_of HBv1_1.out 1).trans rfl
  go_wp2_with fail
  refine (markTFrom_any _ n1 B xs _ HONx_1.out (Nat.le_trans hB hb1.size) (k0) (by omega) (by omega)).mono ?_
  rintro e w2 ⟨rfl, mk, bm, far⟩
  have hb2 : Below B w w2 := hb1.trans bm
  have HM2 : Hid ((w1).heap.size ≤ w2.heap.size) := bm.size
  have HOVx_2 : Hid ((w2).ownsRow B 9 1 (.slice oVx n2 pVx) n2 (ys.map Value.string)) := owns_same HOVx_1.out (fun g hg => far g (owns_lt HOVx_1.out hg) (fun e => APx.out g e hg))
  have HOFx_2 : Hid ((w2).ownsRow B 131 2 (.slice oFx n3 pFx) n3 (flatF fs)) := owns_same HOFx_1.out (fun g hg => far g (owns_lt HOFx_1.out hg) (own_type_ne HOFx_1.out HONx_1.out (by decide) g hg))
  have HBv1_2 : Hid ((w2).heap[qv1]? = some (.cells #[.string p, .slice oNx n1 pNx, .slice oVx n2 pVx, .int .i64 st, .slice oFx n3 pFx, .string b, .int .i64 t] 29)) := blk_far HBv1_1.out far HONx_1.out (by decide)
  have HFAR_2 : Hid (∀ g, g < w.heap.size → (Value.ownBlock (.slice oNx n1 pNx)) ≠ some g → (Value.ownBlock (.slice oVx n2 pVx)) ≠ some g → (Value.ownBlock (.slice oFx n3 pFx)) ≠ some g → (w2).heap[g]? = w.heap[g]?) := fun g hg aNx aVx aFx => (far g (Nat.lt_of_lt_of_le hg hb1.size) aNx).trans (HFAR_1.out g hg aNx aVx aFx)
  have HONx_2 : Hid ((w2).ownsRow B 9 1 (.slice oNx n1 pNx) n1 ((mkT (k0) xs n1).map Value.string)) := mk
  clear hb1 HFAR_1 HONx_1 HOVx_1 HOFx_1 HBv1_1 mk bm far
  clear cv1_1
  have cv1_2 : (w2).cell? ⟨qv1, 2, none⟩ = some (.slice oVx n2 pVx) := (cell_of HBv1_2.out 2).trans rfl
  rw [show (((k0 : Nat) : Int) + (n1 : Int)) = ((k0 + n1 : Nat) : Int) by omega]
  go_wp2_with fail
  refine (markTFrom_any _ n2 B ys _ HOVx_2.out (Nat.le_trans hB hb2.size) (k0 + n1) (by omega) (by omega)).mono ?_
  rintro e w3 ⟨rfl, mk, bm, far⟩
  have hb3 : Below B w w3 := hb2.trans bm
  have HM3 : Hid ((w2).heap.size ≤ w3.heap.size) := bm.size
  have HONx_3 : Hid ((w3).ownsRow B 9 1 (.slice oNx n1 pNx) n1 ((mkT (k0) xs n1).map Value.string)) := owns_same HONx_2.out (fun g hg => far g (owns_lt HONx_2.out hg) ((APx.out) g hg))
  have HOFx_3 : Hid ((w3).ownsRow B 131 2 (.slice oFx n3 pFx) n3 (flatF fs)) := owns_same HOFx_2.out (fun g hg => far g (owns_lt HOFx_2.out hg) (own_type_ne HOFx_2.out HOVx_2.out (by decide) g hg))
  have HBv1_3 : Hid ((w3).heap[qv1]? = some (.cells #[.string p, .slice oNx n1 pNx, .slice oVx n2 pVx, .int .i64 st, .slice oFx n3 pFx, .string b, .int .i64 t] 29)) := blk_far HBv1_2.out far HOVx_2.out (by decide)
  have HFAR_3 : Hid (∀ g, g < w.heap.size → (Value.ownBlock (.slice oNx n1 pNx)) ≠ some g → (Value.ownBlock (.slice oVx n2 pVx)) ≠ some g → (Value.ownBlock (.slice oFx n3 pFx)) ≠ some g → (w3).heap[g]? = w.heap[g]?) := fun g hg aNx aVx aFx => (far g (Nat.lt_of_lt_of_le hg hb2.size) aVx).trans (HFAR_2.out g hg aNx aVx aFx)
  have HOVx_3 : Hid ((w3).ownsRow B 9 1 (.slice oVx n2 pVx) n2 ((mkT (k0 + n1) ys n2).map Value.string)) := mk
  clear hb2 HFAR_2 HONx_2 HOVx_2 HOFx_2 HBv1_2 mk bm far
  clear cv1_2
  have cv1_3 : (w3).cell? ⟨qv1, 3, none⟩ = some (.int .i64 st) := (cell_of HBv1_3.out 3).trans rfl
  have cv1_4 : (w3).cell? ⟨qv1, 4, none⟩ = some (.slice oFx n3 pFx) := (cell_of HBv1_3.out 4).trans rfl
  have cv1_5 : (w3).cell? ⟨qv1, 5, none⟩ = some (.string b) := (cell_of HBv1_3.out 5).trans rfl
  rw [show (((k0 + n1 : Nat) : Int) + (n2 : Int)) = ((k0 + n1 + n2 : Nat) : Int) by omega]
  go_wp2_with fail
  refine (markRespFrom_any st _ b n3 B fs _ HOFx_3.out (Nat.le_trans hB hb3.size) (k0 + n1 + n2) (by omega) (by omega)).mono ?_
  rintro e w4 ⟨rfl, mk, bm, far⟩
  have hb4 : Below B w w4 := hb3.trans bm
  have HM4 : Hid ((w3).heap.size ≤ w4.heap.size) := bm.size
  have HONx_4 : Hid ((w4).ownsRow B 9 1 (.slice oNx n1 pNx) n1 ((mkT (k0) xs n1).map Value.string)) := owns_same HONx_3.out (fun g hg => far g (owns_lt HONx_3.out hg) (own_type_ne HONx_3.out HOFx_3.out (by decide) g hg))
  have HOVx_4 : Hid ((w4).ownsRow B 9 1 (.slice oVx n2 pVx) n2 ((mkT (k0 + n1) ys n2).map Value.string)) := owns_same HOVx_3.out (fun g hg => far g (owns_lt HOVx_3.out hg) (own_type_ne HOVx_3.out HOFx_3.out (by decide) g hg))
  have HBv1_4 : Hid ((w4).heap[qv1]? = some (.cells #[.string p, .slice oNx n1 pNx, .slice oVx n2 pVx, .int .i64 st, .slice oFx n3 pFx, .string b, .int .i64 t] 29)) := blk_far HBv1_3.out far HOFx_3.out (by decide)
  have HFAR_4 : Hid (∀ g, g < w.heap.size → (Value.ownBlock (.slice oNx n1 pNx)) ≠ some g → (Value.ownBlock (.slice oVx n2 pVx)) ≠ some g → (Value.ownBlock (.slice oFx n3 pFx)) ≠ some g → (w4).heap[g]? = w.heap[g]?) := fun g hg aNx aVx aFx => (far g (Nat.lt_of_lt_of_le hg hb3.size) aFx).trans (HFAR_3.out g hg aNx aVx aFx)
  have HOFx_4 : Hid ((w4).ownsRow B 131 2 (.slice oFx n3 pFx) n3 (flatF (mkG (k0 + n1 + n2) fs n3))) := mk
  clear hb3 HFAR_3 HONx_3 HOVx_3 HOFx_3 HBv1_3 mk bm far
  clear cv1_3 cv1_4 cv1_5
  go_wp2_with fail
  go_ret
  exact ⟨congrArg (fun x : Int => Ending.returned (.int .i64 x)) (show ((k0 : Int) + (n1 : Int) + (n2 : Int) + 2 * (n3 : Int)) = (((k0 + n1 + n2 + 2 * n3) : Nat) : Int) by omega), ⟨HONx_4.out, HOVx_4.out, HOFx_4.out, APx.out⟩, hb4, HFAR_4.out⟩

set_option maxHeartbeats 4000000 in
set_option maxRecDepth 100000 in
theorem heldObj_any (p : ByteArray) (n1 : Nat) (xs : List ByteArray) (n2 : Nat) (ys : List ByteArray) (st : Int) (n3 : Nat) (fs : List (ByteArray × ByteArray)) (b : ByteArray) (t : Int) (v1 v2 v3 : Value) (B : Nat) (w : World) (hx : ObjO w B v1 n1 xs v2 n2 ys v3 n3 fs) (k0 : Nat) (hk0 : 1 ≤ k0) (hk : k0 + n1 + n2 + 2 * n3 ≤ 9999998) (m1 : ∀ j, j < n1 → textAt xs j = markOf (k0 + j)) (m2 : ∀ j, j < n2 → textAt ys j = markOf (k0 + n1 + j)) (m3 : ∀ j, j < n3 → nameAt fs j = markOf (k0 + n1 + n2 + 2 * j) ∧ valAt fs j = markOf (k0 + n1 + n2 + 2 * j + 1)) :
    Calls Tryz.prog 23 #[.agg #[.string p, v1, v2, .int .i64 st, v3, .string b, .int .i64 t], .int .i64 (k0 : Int)] w fun e w' => e = .returned (.int .i64 (((k0 + n1 + n2 + 2 * n3) : Nat) : Int)) ∧ Below w.heap.size w w' := by
  obtain ⟨oNx, pNx, rfl⟩ := slice_of_owns hx.names
  obtain ⟨oVx, pVx, rfl⟩ := slice_of_owns hx.vals
  obtain ⟨oFx, pFx, rfl⟩ := slice_of_owns hx.flds
  have HONx_0 : Hid ((w).ownsRow B 9 1 (.slice oNx n1 pNx) n1 (xs.map Value.string)) := hx.names
  have HOVx_0 : Hid ((w).ownsRow B 9 1 (.slice oVx n2 pVx) n2 (ys.map Value.string)) := hx.vals
  have HOFx_0 : Hid ((w).ownsRow B 131 2 (.slice oFx n3 pFx) n3 (flatF fs)) := hx.flds
  have APx : Hid (∀ j, (Value.slice oNx n1 pNx).ownBlock = some j → (Value.slice oVx n2 pVx).ownBlock ≠ some j) := hx.ne
  clear hx
  have HK1 : Hid (∀ j, j < n1 → textAt xs j = markOf (k0 + j)) := m1
  have HK2 : Hid (∀ j, j < n2 → textAt ys j = markOf (k0 + n1 + j)) := m2
  have HK3 : Hid (∀ j, j < n3 → nameAt fs j = markOf (k0 + n1 + n2 + 2 * j) ∧ valAt fs j = markOf (k0 + n1 + n2 + 2 * j + 1)) := m3
  clear m1 m2 m3
  have hb0 : Below w.heap.size w w := Below.refl _ _
  go_enter Tryz.func23, Tryz.ntmps23
  go_upto_region 1 with fail
  obtain ⟨qv1, hqv1⟩ : ∃ q, q = (w).heap.size := ⟨_, rfl⟩
  obtain ⟨w1, hW1⟩ : ∃ W, W = (w).alloc (.cells #[.string p, .slice oNx n1 pNx, .slice oVx n2 pVx, .int .i64 st, .slice oFx n3 pFx, .string b, .int .i64 t] 29) := ⟨_, rfl⟩
  have hz1 : (w).heap.size = qv1 := hqv1.symm
  first | rw [← hW1, ← hqv1] | rw [← hW1]
  have hs1 : w1.heap.size = qv1 + 1 := by rw [hW1, ← hz1]; simp
  have bw : Below (w).heap.size (w) w1 := by rw [hW1]; exact (Below.refl _ _).alloc (Nat.le_refl _) _
  have hb1 : Below w.heap.size w (w1) := hb0.trans (bw.mono hb0.size)
  have HM1 : Hid ((w).heap.size ≤ (w1).heap.size) := bw.size
  have HONx_1 : Hid ((w1).ownsRow B 9 1 (.slice oNx n1 pNx) n1 (xs.map Value.string)) := owns_below HONx_0.out bw (fun g hg => owns_lt HONx_0.out hg)
  have HOVx_1 : Hid ((w1).ownsRow B 9 1 (.slice oVx n2 pVx) n2 (ys.map Value.string)) := owns_below HOVx_0.out bw (fun g hg => owns_lt HOVx_0.out hg)
  have HOFx_1 : Hid ((w1).ownsRow B 131 2 (.slice oFx n3 pFx) n3 (flatF fs)) := owns_below HOFx_0.out bw (fun g hg => owns_lt HOFx_0.out hg)
  have HBv1_1 : Hid ((w1).heap[qv1]? = some (.cells #[.string p, .slice oNx n1 pNx, .slice oVx n2 pVx, .int .i64 st, .slice oFx n3 pFx, .string b, .int .i64 t] 29)) := by show _ = _; rw [hW1, ← hz1]; exact heap_alloc_new _ _
  have HGv1 : Hid (w.heap.size ≤ qv1) := by show _ ≤ _; rw [← hz1]; exact hb0.size
  clear hb0 HONx_0 HOVx_0 HOFx_0 bw hW1 hz1
  clear hs1 hqv1
  have cv1_1 : (w1).cell? ⟨qv1, 1, none⟩ = some (.slice oNx n1 pNx) := (cell_of HBv1_1.out 1).trans rfl
  go_wp2_with fail
  refine (heldTFrom_any _ n1 _ xs _ HONx_1.out (k0) (by omega) (by omega) HK1.out).mono ?_
  rintro e w2 ⟨rfl, bw⟩
  have hb2 : Below w.heap.size w (w2) := hb1.trans (bw.mono hb1.size)
  have HM2 : Hid ((w1).heap.size ≤ (w2).heap.size) := bw.size
  have HONx_2 : Hid ((w2).ownsRow B 9 1 (.slice oNx n1 pNx) n1 (xs.map Value.string)) := owns_below HONx_1.out bw (fun g hg => owns_lt HONx_1.out hg)
  have HOVx_2 : Hid ((w2).ownsRow B 9 1 (.slice oVx n2 pVx) n2 (ys.map Value.string)) := owns_below HOVx_1.out bw (fun g hg => owns_lt HOVx_1.out hg)
  have HOFx_2 : Hid ((w2).ownsRow B 131 2 (.slice oFx n3 pFx) n3 (flatF fs)) := owns_below HOFx_1.out bw (fun g hg => owns_lt HOFx_1.out hg)
  have HBv1_2 : Hid ((w2).heap[qv1]? = some (.cells #[.string p, .slice oNx n1 pNx, .slice oVx n2 pVx, .int .i64 st, .slice oFx n3 pFx, .string b, .int .i64 t] 29)) := blk_below HBv1_1.out bw
  clear hb1 HONx_1 HOVx_1 HOFx_1 HBv1_1 bw
  have hkNx : ¬ ((((k0 : Nat) : Int) + (n1 : Int)) < 0) := by omega
  clear cv1_1
  have cv1_2 : (w2).cell? ⟨qv1, 2, none⟩ = some (.slice oVx n2 pVx) := (cell_of HBv1_2.out 2).trans rfl
  rw [show (((k0 : Nat) : Int) + (n1 : Int)) = ((k0 + n1 : Nat) : Int) by omega]
  go_wp2_with fail
  refine (heldTFrom_any _ n2 _ ys _ HOVx_2.out (k0 + n1) (by omega) (by omega) HK2.out).mono ?_
  rintro e w3 ⟨rfl, bw⟩
  have hb3 : Below w.heap.size w (w3) := hb2.trans (bw.mono hb2.size)
  have HM3 : Hid ((w2).heap.size ≤ (w3).heap.size) := bw.size
  have HONx_3 : Hid ((w3).ownsRow B 9 1 (.slice oNx n1 pNx) n1 (xs.map Value.string)) := owns_below HONx_2.out bw (fun g hg => owns_lt HONx_2.out hg)
  have HOVx_3 : Hid ((w3).ownsRow B 9 1 (.slice oVx n2 pVx) n2 (ys.map Value.string)) := owns_below HOVx_2.out bw (fun g hg => owns_lt HOVx_2.out hg)
  have HOFx_3 : Hid ((w3).ownsRow B 131 2 (.slice oFx n3 pFx) n3 (flatF fs)) := owns_below HOFx_2.out bw (fun g hg => owns_lt HOFx_2.out hg)
  have HBv1_3 : Hid ((w3).heap[qv1]? = some (.cells #[.string p, .slice oNx n1 pNx, .slice oVx n2 pVx, .int .i64 st, .slice oFx n3 pFx, .string b, .int .i64 t] 29)) := blk_below HBv1_2.out bw
  clear hb2 HONx_2 HOVx_2 HOFx_2 HBv1_2 bw
  have hkVx : ¬ ((((k0 + n1 : Nat) : Int) + (n2 : Int)) < 0) := by omega
  clear cv1_2
  have cv1_3 : (w3).cell? ⟨qv1, 3, none⟩ = some (.int .i64 st) := (cell_of HBv1_3.out 3).trans rfl
  have cv1_4 : (w3).cell? ⟨qv1, 4, none⟩ = some (.slice oFx n3 pFx) := (cell_of HBv1_3.out 4).trans rfl
  have cv1_5 : (w3).cell? ⟨qv1, 5, none⟩ = some (.string b) := (cell_of HBv1_3.out 5).trans rfl
  rw [show (((k0 + n1 : Nat) : Int) + (n2 : Int)) = ((k0 + n1 + n2 : Nat) : Int) by omega]
  go_wp2_with fail
  refine (heldRespFrom_any st _ b n3 _ fs _ HOFx_3.out (k0 + n1 + n2) (by omega) (by omega) HK3.out).mono ?_
  rintro e w4 ⟨rfl, bw⟩
  have hb4 : Below w.heap.size w (w4) := hb3.trans (bw.mono hb3.size)
  have HM4 : Hid ((w3).heap.size ≤ (w4).heap.size) := bw.size
  have HONx_4 : Hid ((w4).ownsRow B 9 1 (.slice oNx n1 pNx) n1 (xs.map Value.string)) := owns_below HONx_3.out bw (fun g hg => owns_lt HONx_3.out hg)
  have HOVx_4 : Hid ((w4).ownsRow B 9 1 (.slice oVx n2 pVx) n2 (ys.map Value.string)) := owns_below HOVx_3.out bw (fun g hg => owns_lt HOVx_3.out hg)
  have HOFx_4 : Hid ((w4).ownsRow B 131 2 (.slice oFx n3 pFx) n3 (flatF fs)) := owns_below HOFx_3.out bw (fun g hg => owns_lt HOFx_3.out hg)
  have HBv1_4 : Hid ((w4).heap[qv1]? = some (.cells #[.string p, .slice oNx n1 pNx, .slice oVx n2 pVx, .int .i64 st, .slice oFx n3 pFx, .string b, .int .i64 t] 29)) := blk_below HBv1_3.out bw
  clear hb3 HONx_3 HOVx_3 HOFx_3 HBv1_3 bw
  have hkF : ¬ ((((k0 + n1 + n2 : Nat) : Int) + 2 * (n3 : Int)) < 0) := by omega
  clear cv1_3 cv1_4 cv1_5
  go_wp2_with fail
  go_ret
  exact ⟨congrArg (fun x : Int => Ending.returned (.int .i64 x)) (show ((k0 : Int) + (n1 : Int) + (n2 : Int) + 2 * (n3 : Int)) = (((k0 + n1 + n2 + 2 * n3) : Nat) : Int) by omega), hb4⟩

end Go.Proofs.YtdlhicdfldecgaaGreatDoor

namespace Go.Proofs.YtdlhicdfldecgaaGreatDoor
open Go.RowKit

def hxB (d : Nat) : UInt8 := UInt8.ofNat (if d < 10 then 48 + d else 87 + d)
def hxF : Nat → Nat → List UInt8
  | 0, _ => []
  | f + 1, n => if n = 0 then [] else hxF f (n / 16) ++ [hxB (n % 16)]
theorem hxF_zero (f : Nat) : hxF f 0 = [] := by cases f <;> simp [hxF]
theorem hxF_pos (f n : Nat) (h : n ≠ 0) : hxF (f + 1) n = hxF f (n / 16) ++ [hxB (n % 16)] := by simp [hxF, h]
def hexL (n : Nat) : List UInt8 := if 1000000 < n then [] else if n = 0 then [48] else hxF 5 n
abbrev HexB (b : UInt8) : Prop := (48 ≤ b.toNat ∧ b.toNat ≤ 57) ∨ (97 ≤ b.toNat ∧ b.toNat ≤ 102)
def hexV (b : UInt8) : Nat := if b.toNat ≤ 57 then b.toNat - 48 else b.toNat - 87
theorem hxB_facts (d : Nat) (h : d < 16) : HexB (hxB d) ∧ hexV (hxB d) = d ∧ (d ≠ 0 → hxB d ≠ 48) := by
  have : ∀ d : Fin 16, HexB (hxB d.1) ∧ hexV (hxB d.1) = d.1 ∧ (d.1 ≠ 0 → hxB d.1 ≠ 48) := by decide
  exact this ⟨d, h⟩
def hexVal (l : List UInt8) : Nat := l.foldl (fun v b => 16 * v + hexV b) 0
theorem hexVal_snoc (l : List UInt8) (b : UInt8) : hexVal (l ++ [b]) = 16 * hexVal l + hexV b := by simp [hexVal]
theorem hx_facts : ∀ (f n : Nat), n < 16 ^ f → (∀ b ∈ hxF f n, HexB b) ∧ hexVal (hxF f n) = n ∧ (∀ b, (hxF f n).head? = some b → b ≠ 48) ∧ (n ≠ 0 → hxF f n ≠ []) := by
  intro f
  induction f with
  | zero => intro n h; simp at h; subst h; simp [hxF, hexVal]
  | succ f ih =>
    intro n h
    by_cases h0 : n = 0
    · subst h0; rw [hxF_zero]; simp [hexVal]
    · rw [Nat.pow_succ] at h
      obtain ⟨h1, h2, h3, h4⟩ := ih (n / 16) (by omega)
      have hd := hxB_facts (n % 16) (by omega)
      rw [hxF_pos f n h0]
      refine ⟨fun b hb => ?_, ?_, fun b hb => ?_, fun _ => by simp⟩
      · simp only [List.mem_append, List.mem_singleton] at hb
        rcases hb with hb | rfl
        · exact h1 b hb
        · exact hd.1
      · rw [hexVal_snoc, h2, hd.2.1]; omega
      · by_cases hz : n / 16 = 0
        · rw [hz, hxF_zero] at hb
          simp at hb
          subst hb
          exact hd.2.2 (by omega)
        · have hne := h4 hz
          obtain ⟨c, r, hc⟩ : ∃ c r, hxF f (n / 16) = c :: r := by
            cases hx : hxF f (n / 16) with
            | nil => exact absurd hx hne
            | cons c r => exact ⟨c, r, rfl⟩
          rw [hc] at hb h3
          simp at hb h3
          rw [← hb]; exact h3
theorem hx_len : ∀ (f n k : Nat), n < 16 ^ k → (hxF f n).length ≤ k := by
  intro f
  induction f with
  | zero => intro n k _; simp [hxF]
  | succ f ih =>
    intro n k h
    by_cases h0 : n = 0
    · subst h0; rw [hxF_zero]; simp
    · cases k with
      | zero => simp at h; omega
      | succ k =>
        rw [Nat.pow_succ] at h
        have := ih (n / 16) k (by omega)
        rw [hxF_pos f n h0]
        simp; omega
/-- A length that may begin a part: one to four digits, no needless nought. -/
theorem hex_head (n : Nat) (h : n < 65536) : 1 ≤ (hexL n).length ∧ (hexL n).length ≤ 4 ∧ (∀ b ∈ hexL n, HexB b) ∧ hexVal (hexL n) = n ∧ (1 < (hexL n).length → ∀ b, (hexL n).head? = some b → b ≠ 48) := by
  unfold hexL
  rw [if_neg (by omega)]
  by_cases h0 : n = 0
  · rw [if_pos h0, h0]
    refine ⟨by simp, by simp, ?_, rfl, by simp⟩
    intro b hb
    simp at hb
    subst hb
    decide
  · rw [if_neg h0]
    obtain ⟨h1, h2, h3, h4⟩ := hx_facts 5 n (by omega)
    have hl := hx_len 5 n 4 (by omega)
    refine ⟨?_, hl, h1, h2, fun _ => h3⟩
    cases hx : hxF 5 n with
    | nil => exact absurd hx (h4 h0)
    | cons c r => simp

/-- A line's end held against what stands there: 0 it is one, 1 it may become one, 2 it is none. -/
def lineC : List UInt8 → Int
  | [] => 1
  | [c] => if c = 13 then 1 else 2
  | c :: d :: _ => if c = 13 ∧ d = 10 then 0 else 2
def digN : Nat → List UInt8 → Nat
  | 0, _ => 0
  | _ + 1, [] => 0
  | f + 1, c :: r => if HexB c then digN f r + 1 else 0
theorem digN_le : ∀ (f : Nat) (r : List UInt8), digN f r ≤ f ∧ digN f r ≤ r.length
  | 0, _ => by simp [digN]
  | _ + 1, [] => by simp [digN]
  | f + 1, c :: r => by
    have := digN_le f r
    unfold digN
    split
    · simp; omega
    · simp
theorem digN_hex : ∀ (f : Nat) (r : List UInt8), ∀ b ∈ r.take (digN f r), HexB b
  | 0, _ => by simp [digN]
  | _ + 1, [] => by simp [digN]
  | f + 1, c :: r => by
    have := digN_hex f r
    unfold digN
    split
    · rename_i h
      intro b hb
      simp only [List.take_succ_cons, List.mem_cons] at hb
      rcases hb with rfl | hb
      · exact h
      · exact this b hb
    · simp
theorem digN_pre : ∀ (l rest : List UInt8) (f : Nat), l.length ≤ f → (∀ b ∈ l, HexB b) → (l.length = f ∨ ∀ c r, rest = c :: r → ¬ HexB c) → digN f (l ++ rest) = l.length
  | [], rest, f, _, _, h => by
    rcases h with h | h
    · simp at h; subst h; simp [digN]
    · cases f with
      | zero => simp [digN]
      | succ f =>
        cases rest with
        | nil => simp [digN]
        | cons c r => simp [digN, h c r rfl]
  | b :: l, rest, f, hf, hh, h => by
    cases f with
    | zero => simp at hf
    | succ f =>
      have ih := digN_pre l rest f (by simpa using hf) (fun x hx => hh x (by simp [hx])) (by
        rcases h with h | h
        · left; simpa using h
        · right; exact h)
      simp [digN, hh b (by simp), ih]
def lenK (r : List UInt8) : Nat := digN 5 r
abbrev lenBad (r : List UInt8) : Prop := 4 < lenK r ∨ (1 < lenK r ∧ r.head? = some 48) ∨ (lenK r = 0 ∧ r ≠ [])
/-- What is told of a length and its line's end. -/
def lenC (r : List UInt8) : Int := if lenBad r then 2 else if lenK r = 0 then 1 else lineC (r.drop (lenK r))
def lenN (r : List UInt8) : Nat := hexVal (r.take (lenK r))
theorem lineC_zero {r : List UInt8} (h : lineC r = 0) : ∃ t, r = 13 :: 10 :: t := by
  match r with
  | [] => simp [lineC] at h
  | [c] => simp only [lineC] at h; split at h <;> simp at h
  | c :: d :: t =>
    simp only [lineC] at h
    split at h
    · rename_i e; exact ⟨t, by rw [e.1, e.2]⟩
    · simp at h
theorem lineC_vals (r : List UInt8) : lineC r = 0 ∨ lineC r = 1 ∨ lineC r = 2 := by
  match r with
  | [] => simp [lineC]
  | [c] => simp only [lineC]; split <;> simp
  | c :: d :: t => simp only [lineC]; split <;> simp
theorem lineC_mono {r t : List UInt8} (h : lineC r ≠ 1) : lineC (r ++ t) = lineC r := by
  match r with
  | [] => simp [lineC] at h
  | [c] =>
    by_cases e : c = 13
    · simp [lineC, e] at h
    · cases t with
      | nil => simp
      | cons d t => simp [lineC, e]
  | c :: d :: u => simp [lineC]
theorem lenC_zero {r : List UInt8} (h : lenC r = 0) : 1 ≤ lenK r ∧ lenK r ≤ 4 ∧ ¬ lenBad r ∧ ∃ t, r.drop (lenK r) = 13 :: 10 :: t := by
  unfold lenC at h
  by_cases hb : lenBad r
  · rw [if_pos hb] at h; simp at h
  · rw [if_neg hb] at h
    by_cases h0 : lenK r = 0
    · rw [if_pos h0] at h; simp at h
    · rw [if_neg h0] at h
      refine ⟨by omega, ?_, hb, lineC_zero h⟩
      unfold lenBad at hb
      omega
theorem lenC_vals (r : List UInt8) : lenC r = 0 ∨ lenC r = 1 ∨ lenC r = 2 := by
  unfold lenC
  split
  · simp
  · split
    · simp
    · exact lineC_vals _
/-- A length, and a line's end behind it. -/
theorem len_head (n : Nat) (h : n < 65536) (rest : List UInt8) (hr : ∀ c r, rest = c :: r → c = 13) : lenK (hexL n ++ rest) = (hexL n).length ∧ lenN (hexL n ++ rest) = n ∧ lenC (hexL n ++ rest) = lineC rest := by
  obtain ⟨h1, h2, h3, h4, h5⟩ := hex_head n h
  have hk : lenK (hexL n ++ rest) = (hexL n).length := digN_pre _ _ 5 (by omega) h3 (.inr (fun c r e => by rw [hr c r e]; decide))
  refine ⟨hk, ?_, ?_⟩
  · unfold lenN; rw [hk, List.take_left]; exact h4
  · unfold lenC
    rw [if_neg, hk, if_neg (by omega), List.drop_left]
    unfold lenBad
    rw [hk]
    rintro (h | ⟨h, e⟩ | ⟨h, _⟩)
    · omega
    · cases hx : hexL n with
      | nil => rw [hx] at h1; simp at h1
      | cons c r =>
        rw [hx] at e h5 h
        simp at e
        exact h5 (by simpa using h) c (by simp) e
    · omega
theorem lenK_mono {r : List UInt8} (t : List UInt8) (h : lenC r = 0) : lenK (r ++ t) = lenK r ∧ lenN (r ++ t) = lenN r ∧ lenC (r ++ t) = 0 := by
  obtain ⟨h1, h2, hb, u, hu⟩ := lenC_zero h
  have hl := digN_le 5 r
  have e : r = r.take (lenK r) ++ 13 :: 10 :: u := by rw [← hu, List.take_append_drop]
  have hlen : (r.take (lenK r)).length = lenK r := by rw [List.length_take]; unfold lenK; omega
  have hk : lenK (r ++ t) = lenK r := by
    have : r ++ t = r.take (lenK r) ++ (13 :: 10 :: u ++ t) := by rw [← List.append_assoc, ← e]
    rw [this]
    have := digN_pre (r.take (lenK r)) (13 :: 10 :: u ++ t) 5 (by omega) (digN_hex 5 r) (.inr (fun c q e => by simp at e; rw [← e.1]; decide))
    show digN 5 _ = _
    rw [this, hlen]
  refine ⟨hk, ?_, ?_⟩
  · unfold lenN; rw [hk, List.take_append_of_le_length (by unfold lenK; omega)]
  · unfold lenC
    rw [if_neg, hk, if_neg (by omega), List.drop_append_of_le_length (by unfold lenK; omega), hu]
    · simp [lineC]
    · unfold lenBad at hb ⊢
      rw [hk]
      rintro (h | ⟨h, e⟩ | ⟨h, _⟩)
      · omega
      · refine hb (.inr (.inl ⟨h, ?_⟩))
        cases r with
        | nil => simp at hl; unfold lenK at h; omega
        | cons c q => simpa using e
      · omega
theorem lenC_mono {r : List UInt8} (t : List UInt8) (h : lenC r ≠ 1) : lenC (r ++ t) = lenC r := by
  rcases lenC_vals r with h0 | h1 | h2
  · rw [(lenK_mono t h0).2.2, h0]
  · exact absurd h1 h
  · have hl := digN_le 5 r
    have hl2 := digN_le 5 (r ++ t)
    have hh := digN_hex 5 r
    have hlen : (r.take (lenK r)).length = lenK r := by rw [List.length_take]; unfold lenK; omega
    rw [h2]
    by_cases hb : lenBad r
    · have hb2 : lenBad (r ++ t) := by
        have hge : lenK r ≤ lenK (r ++ t) := by
          have : ∀ (f : Nat) (a b : List UInt8), digN f a ≤ digN f (a ++ b) := by
            intro f
            induction f with
            | zero => intro a b; simp [digN]
            | succ f ih =>
              intro a b
              cases a with
              | nil => simp [digN]
              | cons c a =>
                simp only [List.cons_append, digN]
                split
                · have := ih a b; omega
                · simp
          exact this 5 r t
        rcases hb with h | ⟨h, e⟩ | ⟨h, e⟩
        · exact .inl (by omega)
        · refine .inr (.inl ⟨by omega, ?_⟩)
          cases r with
          | nil => simp at e
          | cons c q => simpa using e
        · cases r with
          | nil => exact absurd rfl e
          | cons c q =>
            have hc : ¬ HexB c := by
              intro hc
              unfold lenK at h
              simp [digN, hc] at h
            refine .inr (.inr ⟨?_, by simp⟩)
            simp [lenK, digN, hc]
      unfold lenC; rw [if_pos hb2]
    · unfold lenC at h2
      rw [if_neg hb] at h2
      by_cases h0 : lenK r = 0
      · rw [if_pos h0] at h2; simp at h2
      · rw [if_neg h0] at h2
        have hne : lineC (r.drop (lenK r)) ≠ 1 := by rw [h2]; simp
        have hk4 : lenK r ≤ 4 := by unfold lenBad at hb; omega
        -- a byte behind the digits that is no digit
        obtain ⟨c, q, hc, hnc⟩ : ∃ c q, r.drop (lenK r) = c :: q ∧ ¬ HexB c := by
          cases hd : r.drop (lenK r) with
          | nil => rw [hd] at h2; simp [lineC] at h2
          | cons c q =>
            refine ⟨c, q, rfl, fun hx => ?_⟩
            have e : r = (r.take (lenK r) ++ [c]) ++ q := by rw [List.append_assoc]; simp [← hd]
            have : ∀ (f : Nat) (l m : List UInt8), (∀ b ∈ l, HexB b) → l.length ≤ f → l.length ≤ digN f (l ++ m) := by
              intro f
              induction f with
              | zero => intro l m _ hl; simp at hl; simp [hl]
              | succ f ih =>
                intro l m hl hlf
                cases l with
                | nil => simp
                | cons x l =>
                  simp only [List.cons_append, digN, hl x (by simp), if_true, List.length_cons]
                  have := ih l m (fun b hb => hl b (by simp [hb])) (by simpa using hlf)
                  omega
            have h9 := this 5 (r.take (lenK r) ++ [c]) q (fun b hb => by
              simp only [List.mem_append, List.mem_singleton] at hb
              rcases hb with hb | rfl
              · exact hh b hb
              · exact hx) (by simp; omega)
            rw [← e] at h9
            simp [hlen] at h9
            unfold lenK at h9
            omega
        have hk : lenK (r ++ t) = lenK r := by
          have e : r ++ t = r.take (lenK r) ++ (c :: q ++ t) := by rw [← hc, ← List.append_assoc, List.take_append_drop]
          have h9 := digN_pre (r.take (lenK r)) (c :: q ++ t) 5 (by omega) hh (.inr (fun c' q' e' => by simp at e'; rw [← e'.1]; exact hnc))
          rw [← e, hlen] at h9
          exact h9
        unfold lenC
        rw [if_neg, hk, if_neg h0, List.drop_append_of_le_length (by unfold lenK; omega), lineC_mono hne, h2]
        unfold lenBad at hb ⊢
        rw [hk]
        rintro (h | ⟨h, e⟩ | ⟨h, _⟩)
        · omega
        · refine hb (.inr (.inl ⟨h, ?_⟩))
          cases r with
          | nil => simp at hc
          | cons x q => simpa using e
        · omega

end Go.Proofs.YtdlhicdfldecgaaGreatDoor

namespace Go.Proofs.YtdlhicdfldecgaaGreatDoor
open Go.RowKit

/-- What stands behind a length and its line's end; what stands behind the part's bytes. -/
def rdA (r : List UInt8) : List UInt8 := r.drop (lenK r + 2)
def rdB (r : List UInt8) : List UInt8 := (rdA r).drop (lenN r)
/-- What is told of a text from a place on; none: not told within so many parts. -/
def rdF : Nat → List UInt8 → List UInt8 → Nat → Option (List UInt8 × Nat × Int)
  | 0, _, _, _ => none
  | f + 1, r, body, pos =>
    if lenC r ≠ 0 then some ([], 0, lenC r)
    else if 120 < body.length + lenN r then some ([], 0, 3)
    else if (rdA r).length < lenN r then some ([], 0, 1)
    else if lineC (rdB r) ≠ 0 then some ([], 0, lineC (rdB r))
    else if lenN r = 0 then some (body, pos + lenK r + 4, 0)
    else rdF f ((rdB r).drop 2) (body ++ (rdA r).take (lenN r)) (pos + lenK r + lenN r + 4)
def Rd (r body : List UInt8) (pos : Nat) (x : List UInt8 × Nat × Int) : Prop := ∃ f, rdF f r body pos = some x
theorem rdF_more : ∀ (f : Nat) (r body : List UInt8) (pos : Nat) (x : List UInt8 × Nat × Int), rdF f r body pos = some x → ∀ d, rdF (f + d) r body pos = some x := by
  intro f
  induction f with
  | zero => intro r body pos x h; simp [rdF] at h
  | succ f ih =>
    intro r body pos x h d
    rw [show f + 1 + d = (f + d) + 1 by omega]
    unfold rdF at h ⊢
    by_cases h1 : lenC r ≠ 0
    · rw [if_pos h1] at h ⊢; exact h
    · rw [if_neg h1] at h ⊢
      by_cases h2 : 120 < body.length + lenN r
      · rw [if_pos h2] at h ⊢; exact h
      · rw [if_neg h2] at h ⊢
        by_cases h3 : (rdA r).length < lenN r
        · rw [if_pos h3] at h ⊢; exact h
        · rw [if_neg h3] at h ⊢
          by_cases h4 : lineC (rdB r) ≠ 0
          · rw [if_pos h4] at h ⊢; exact h
          · rw [if_neg h4] at h ⊢
            by_cases h5 : lenN r = 0
            · rw [if_pos h5] at h ⊢; exact h
            · rw [if_neg h5] at h ⊢
              exact ih _ _ _ _ h d
/-- One thing is told of a text. -/
theorem Rd.uniq {r body : List UInt8} {pos : Nat} {x y : List UInt8 × Nat × Int} (h : Rd r body pos x) (k : Rd r body pos y) : x = y := by
  obtain ⟨f, hf⟩ := h
  obtain ⟨g, hg⟩ := k
  have h1 := rdF_more f r body pos x hf g
  have h2 := rdF_more g r body pos y hg f
  rw [Nat.add_comm] at h2
  rw [h1] at h2
  exact Option.some.inj h2
theorem Rd.len {r body : List UInt8} {pos : Nat} (h : lenC r ≠ 0) : Rd r body pos ([], 0, lenC r) := ⟨1, by unfold rdF; rw [if_pos h]⟩
theorem Rd.short {r body : List UInt8} {pos : Nat} (h1 : lenC r = 0) (h2 : ¬ 120 < body.length + lenN r) (h3 : (rdA r).length < lenN r) : Rd r body pos ([], 0, 1) := ⟨1, by unfold rdF; rw [if_neg (by simp [h1]), if_neg h2, if_pos h3]⟩
theorem Rd.line {r body : List UInt8} {pos : Nat} (h1 : lenC r = 0) (h2 : ¬ 120 < body.length + lenN r) (h3 : ¬ (rdA r).length < lenN r) (h4 : lineC (rdB r) ≠ 0) : Rd r body pos ([], 0, lineC (rdB r)) := ⟨1, by unfold rdF; rw [if_neg (by simp [h1]), if_neg h2, if_neg h3, if_pos h4]⟩
theorem Rd.part {r body : List UInt8} {pos : Nat} {x : List UInt8 × Nat × Int} (h1 : lenC r = 0) (h2 : ¬ 120 < body.length + lenN r) (h3 : ¬ (rdA r).length < lenN r) (h4 : lineC (rdB r) = 0) (h5 : lenN r ≠ 0) (h : Rd ((rdB r).drop 2) (body ++ (rdA r).take (lenN r)) (pos + lenK r + lenN r + 4) x) : Rd r body pos x := by
  obtain ⟨f, hf⟩ := h
  exact ⟨f + 1, by unfold rdF; rw [if_neg (by simp [h1]), if_neg h2, if_neg h3, if_neg (by simp [h4]), if_neg h5]; exact hf⟩

theorem rdA_len {r : List UInt8} (h : lenC r = 0) : lenK r + 2 ≤ r.length := by
  obtain ⟨_, _, _, t, ht⟩ := lenC_zero h
  have := congrArg List.length ht
  simp at this
  omega
/-- What is told of a text, but that there must be more, is told of it with whatever behind it. -/
theorem rdF_behind (t : List UInt8) : ∀ (f : Nat) (r body : List UInt8) (pos : Nat) (x : List UInt8 × Nat × Int), rdF f r body pos = some x → x.2.2 ≠ 1 → rdF f (r ++ t) body pos = some x := by
  intro f
  induction f with
  | zero => intro r body pos x h; simp [rdF] at h
  | succ f ih =>
    intro r body pos x h hx
    unfold rdF at h ⊢
    by_cases h1 : lenC r ≠ 0
    · rw [if_pos h1] at h
      have e := Option.some.inj h
      subst e
      have hx : lenC r ≠ 1 := hx
      rw [lenC_mono t hx, if_pos h1]
    · have h0 : lenC r = 0 := by simpa using h1
      obtain ⟨k1, k2, k3⟩ := lenK_mono t h0
      have hl := rdA_len h0
      have eA : rdA (r ++ t) = rdA r ++ t := by unfold rdA; rw [k1, List.drop_append_of_le_length hl]
      rw [if_neg h1] at h
      rw [if_neg (by simp [k3]), k1, k2, eA]
      by_cases h2 : 120 < body.length + lenN r
      · rw [if_pos h2] at h ⊢; exact h
      · rw [if_neg h2] at h ⊢
        by_cases h3 : (rdA r).length < lenN r
        · rw [if_pos h3] at h
          have e := Option.some.inj h
          subst e
          exact absurd rfl hx
        · rw [if_neg h3] at h
          have eB : rdB (r ++ t) = rdB r ++ t := by unfold rdB; rw [eA, k2, List.drop_append_of_le_length (by omega)]
          rw [if_neg (by simp; omega), eB]
          by_cases h4 : lineC (rdB r) ≠ 0
          · rw [if_pos h4] at h
            have e := Option.some.inj h
            subst e
            have hx : lineC (rdB r) ≠ 1 := hx
            rw [lineC_mono hx, if_pos h4]
          · have h40 : lineC (rdB r) = 0 := by simpa using h4
            have hne : lineC (rdB r) ≠ 1 := by rw [h40]; simp
            obtain ⟨u, hu⟩ := lineC_zero h40
            rw [if_neg h4] at h
            rw [lineC_mono hne, if_neg h4]
            by_cases h5 : lenN r = 0
            · rw [if_pos h5] at h ⊢; exact h
            · rw [if_neg h5] at h ⊢
              rw [List.drop_append_of_le_length (by rw [hu]; simp), List.take_append_of_le_length (by omega)]
              exact ih _ _ _ _ h hx
theorem Rd.behind {r body : List UInt8} {pos : Nat} {x : List UInt8 × Nat × Int} (h : Rd r body pos x) (hx : x.2.2 ≠ 1) (t : List UInt8) : Rd (r ++ t) body pos x := by
  obtain ⟨f, hf⟩ := h
  exact ⟨f, rdF_behind t f r body pos x hf hx⟩
/-- A body in parts. -/
def chunkL : List (List UInt8) → List UInt8
  | [] => [48, 13, 10, 13, 10]
  | p :: ps => hexL p.length ++ (13 :: 10 :: (p ++ (13 :: 10 :: chunkL ps)))
theorem part_head (p rest : List UInt8) (h : p.length < 65536) : lenC (hexL p.length ++ (13 :: 10 :: (p ++ rest))) = 0 ∧ lenK (hexL p.length ++ (13 :: 10 :: (p ++ rest))) = (hexL p.length).length ∧ lenN (hexL p.length ++ (13 :: 10 :: (p ++ rest))) = p.length ∧ rdA (hexL p.length ++ (13 :: 10 :: (p ++ rest))) = p ++ rest ∧ rdB (hexL p.length ++ (13 :: 10 :: (p ++ rest))) = rest := by
  obtain ⟨h1, h2, h3⟩ := len_head p.length h (13 :: 10 :: (p ++ rest)) (fun c r e => by simp at e; exact e.1.symm)
  have hA : rdA (hexL p.length ++ (13 :: 10 :: (p ++ rest))) = p ++ rest := by
    unfold rdA
    rw [h1, List.drop_append]
    simp
  refine ⟨by rw [h3]; simp [lineC], h1, h2, hA, ?_⟩
  unfold rdB
  rw [hA, h2, List.drop_left]
theorem end_head (rest : List UInt8) : lenC (48 :: 13 :: 10 :: rest) = 0 ∧ lenK (48 :: 13 :: 10 :: rest) = 1 ∧ lenN (48 :: 13 :: 10 :: rest) = 0 ∧ rdA (48 :: 13 :: 10 :: rest) = rest ∧ rdB (48 :: 13 :: 10 :: rest) = rest := by
  have := part_head [] rest (by simp)
  simpa [hexL] using this
/-- Cut short, a text of parts is not whole. -/
theorem Rd.cut : ∀ (ps : List (List UInt8)) (body : List UInt8) (pos k : Nat), (∀ p ∈ ps, p ≠ []) → body.length + ps.flatten.length ≤ 120 → k < (chunkL ps).length → Rd ((chunkL ps).take k) body pos ([], 0, 1) := by
  intro ps
  induction ps with
  | nil =>
    intro body pos k _ hb hk
    have hk5 : k < 5 := by simpa [chunkL] using hk
    have hb : body.length ≤ 120 := by simpa using hb
    rcases (show k = 0 ∨ k = 1 ∨ k = 2 ∨ k = 3 ∨ k = 4 by omega) with rfl | rfl | rfl | rfl | rfl
    · exact Rd.len (r := []) (by decide)
    · exact Rd.len (r := [48]) (by decide)
    · exact Rd.len (r := [48, 13]) (by decide)
    · obtain ⟨h1, h2, h3, h4, h5⟩ := end_head []
      have := Rd.line (body := body) (pos := pos) h1 (by rw [h3]; simpa using hb) (by rw [h3]; simp) (by rw [h5]; simp [lineC])
      rw [h5] at this
      exact this
    · obtain ⟨h1, h2, h3, h4, h5⟩ := end_head [13]
      have := Rd.line (body := body) (pos := pos) h1 (by rw [h3]; simpa using hb) (by rw [h3]; simp) (by rw [h5]; simp [lineC])
      rw [h5] at this
      exact this
  | cons p ps ih =>
    intro body pos k hp hb hk
    have hpl : 1 ≤ p.length := by
      have := hp p (by simp)
      cases p with
      | nil => exact absurd rfl this
      | cons c r => simp
    simp only [List.flatten_cons, List.length_append] at hb
    obtain ⟨g1, g2, g3, g4, g5⟩ := hex_head p.length (by omega)
    have hlen : (chunkL (p :: ps)).length = (hexL p.length).length + (p.length + (chunkL ps).length + 4) := by simp [chunkL]; omega
    by_cases c1 : k ≤ (hexL p.length).length
    · -- within the length, or at its end
      have e : (chunkL (p :: ps)).take k = (hexL p.length).take k := by
        simp only [chunkL]
        rw [List.take_append_of_le_length c1]
      rw [e]
      have hl : ((hexL p.length).take k).length = k := by rw [List.length_take]; omega
      have hK : lenK ((hexL p.length).take k) = k := by
        have := digN_pre ((hexL p.length).take k) [] 5 (by omega) (fun b hb => g3 b (List.mem_of_mem_take hb)) (.inr (fun c r e => by simp at e))
        rw [List.append_nil, hl] at this
        exact this
      have hC : lenC ((hexL p.length).take k) = 1 := by
        unfold lenC
        rw [if_neg]
        · by_cases k0 : k = 0
          · rw [if_pos (by rw [hK]; exact k0)]
          · rw [if_neg (by rw [hK]; exact k0), hK, List.drop_of_length_le (by omega)]; rfl
        · rintro (h | ⟨h, e⟩ | ⟨h, e⟩)
          · rw [hK] at h; omega
          · rw [hK] at h
            rw [List.head?_take, if_neg (by omega)] at e
            exact g5 (by omega) 48 e rfl
          · rw [hK] at h
            subst h
            simp at e
      have := Rd.len (r := (hexL p.length).take k) (body := body) (pos := pos) (by rw [hC]; simp)
      rw [hC] at this
      exact this
    · obtain ⟨j, rfl⟩ : ∃ j, k = (hexL p.length).length + 1 + j := ⟨k - (hexL p.length).length - 1, by omega⟩
      have e : (chunkL (p :: ps)).take ((hexL p.length).length + 1 + j) = hexL p.length ++ (13 :: (10 :: (p ++ (13 :: 10 :: chunkL ps))).take j) := by
        simp only [chunkL]
        rw [show (hexL p.length).length + 1 + j = (hexL p.length).length + (1 + j) by omega, List.take_length_add_append, Nat.add_comm 1 j, List.take_succ_cons]
      rw [e]
      cases j with
      | zero =>
        obtain ⟨h1, h2, h3⟩ := len_head p.length (by omega) [13] (fun c r e => by simp at e; exact e.1.symm)
        have := Rd.len (r := hexL p.length ++ [13]) (body := body) (pos := pos) (by rw [h3]; simp [lineC])
        rw [h3] at this
        simpa [lineC] using this
      | succ j =>
        rw [List.take_succ_cons]
        by_cases c2 : j < p.length
        · have e2 : (p ++ (13 :: 10 :: chunkL ps)).take j = p.take j := List.take_append_of_le_length (by omega)
          rw [e2]
          obtain ⟨h1, h2, h3⟩ := len_head p.length (by omega) (13 :: 10 :: p.take j) (fun c r e => by simp at e; exact e.1.symm)
          have hC : lenC (hexL p.length ++ (13 :: 10 :: p.take j)) = 0 := by rw [h3]; simp [lineC]
          refine Rd.short hC (by rw [h2]; omega) ?_
          unfold rdA
          rw [h1, h2, List.drop_append]
          simp
          omega
        · obtain ⟨i, rfl⟩ : ∃ i, j = p.length + i := ⟨j - p.length, by omega⟩
          have e2 : (p ++ (13 :: 10 :: chunkL ps)).take (p.length + i) = p ++ (13 :: 10 :: chunkL ps).take i := List.take_length_add_append _
          rw [e2]
          obtain ⟨h1, h2, h3, h4, h5⟩ := part_head p ((13 :: 10 :: chunkL ps).take i) (by omega)
          match i with
          | 0 =>
            have := Rd.line (body := body) (pos := pos) h1 (by rw [h3]; omega) (by rw [h3, h4]; simp) (by rw [h5]; simp [lineC])
            rw [h5] at this
            exact this
          | 1 =>
            have := Rd.line (body := body) (pos := pos) h1 (by rw [h3]; omega) (by rw [h3, h4]; simp) (by rw [h5]; simp [lineC])
            rw [h5] at this
            exact this
          | i + 2 =>
            refine Rd.part h1 (by rw [h3]; omega) (by rw [h3, h4]; simp) (by rw [h5]; simp [lineC]) (by rw [h3]; omega) ?_
            rw [h2, h3, h4, h5, List.take_left]
            have k := ih (body ++ p) (pos + (hexL p.length).length + p.length + 4) i (fun x hx => hp x (by simp [hx])) (by rw [List.length_append]; omega) (by omega)
            simpa using k

end Go.Proofs.YtdlhicdfldecgaaGreatDoor

namespace Go.Proofs.YtdlhicdfldecgaaGreatDoor
open Go.RowKit
open Go.Lib hiding intOf

/-- A list of ints that a function reads. -/
def IntsV (w : World) (oa : Option Addr) (n : Nat) (zs : List Int) : Prop := zs.length = n ∧ ∀ i, i < n → ∃ g, oa = some ⟨g, 0, none⟩ ∧ g < w.heap.size ∧ w.cell? ⟨g, i, none⟩ = some (.int .i64 (zs.getD i 0))
theorem IntsV.below {w w' : World} {oa : Option Addr} {n : Nat} {zs : List Int} (h : IntsV w oa n zs) (hb : Below w.heap.size w w') : IntsV w' oa n zs :=
  ⟨h.1, fun i hi => by
    obtain ⟨g, e, hg, hc⟩ := h.2 i hi
    exact ⟨g, e, Nat.lt_of_lt_of_le hg hb.size, by rw [hb.cell (p := ⟨g, i, none⟩) hg]; exact hc⟩⟩

end Go.Proofs.YtdlhicdfldecgaaGreatDoor

namespace Go.Proofs.YtdlhicdfldecgaaGreatDoor
open Go.RowKit

/-- How many bytes a head has; none: it is not whole. -/
def headN : List UInt8 → Option Nat
  | [] => none
  | c :: t => if (c :: t).take 4 = [13, 10, 13, 10] then some 4 else (headN t).map (· + 1)

theorem headN_len : ∀ {w : List UInt8} {n : Nat}, headN w = some n → 4 ≤ n ∧ n ≤ w.length := by
  intro w
  induction w with
  | nil => intro n h; simp [headN] at h
  | cons c t ih =>
    intro n h
    unfold headN at h
    by_cases h4 : (c :: t).take 4 = [13, 10, 13, 10]
    · rw [if_pos h4] at h
      obtain rfl := Option.some.inj h
      have := congrArg List.length h4
      simp [List.length_take] at this
      refine ⟨Nat.le_refl _, ?_⟩
      simp
      omega
    · rw [if_neg h4] at h
      obtain ⟨m, hm, rfl⟩ := Option.map_eq_some_iff.1 h
      have := ih hm
      simp
      omega

/-- A whole head stays the head, whatever is behind it. -/
theorem headN_app (x : List UInt8) : ∀ {w : List UInt8} {n : Nat}, headN w = some n → headN (w ++ x) = some n := by
  intro w
  induction w with
  | nil => intro n h; simp [headN] at h
  | cons c t ih =>
    intro n h
    have hl := headN_len h
    have ht : ((c :: t) ++ x).take 4 = (c :: t).take 4 := List.take_append_of_le_length (by omega)
    unfold headN at h
    show headN (c :: (t ++ x)) = some n
    unfold headN
    have ht' : (c :: (t ++ x)).take 4 = (c :: t).take 4 := ht
    rw [ht']
    by_cases h4 : (c :: t).take 4 = [13, 10, 13, 10]
    · rw [if_pos h4] at h ⊢; exact h
    · rw [if_neg h4] at h ⊢
      obtain ⟨m, hm, rfl⟩ := Option.map_eq_some_iff.1 h
      rw [ih hm]; rfl

/-- What waits behind it, whether it is bad, and what was told; none: not told within so many requests. -/
def fdF (ok : List UInt8 → Bool) (len : List UInt8 → Nat) : Nat → List UInt8 → Option (List UInt8 × Bool × List (List UInt8))
  | 0, _ => none
  | f + 1, w =>
    match headN w with
    | none => some (w, false, [])
    | some n =>
      if 120 < len (w.take n) then some ([], true, [])
      else if w.length < n + len (w.take n) then some (w, false, [])
      else if ok (w.take (n + len (w.take n))) = true then (fdF ok len f (w.drop (n + len (w.take n)))).map (fun x => (x.1, x.2.1, w.take (n + len (w.take n)) :: x.2.2))
      else some ([], true, [])

variable {ok : List UInt8 → Bool} {len : List UInt8 → Nat}

theorem fdF_more : ∀ (f : Nat) (w : List UInt8) (x : List UInt8 × Bool × List (List UInt8)), fdF ok len f w = some x → ∀ d, fdF ok len (f + d) w = some x := by
  intro f
  induction f with
  | zero => intro w x h; simp [fdF] at h
  | succ f ih =>
    intro w x h d
    rw [show f + 1 + d = (f + d) + 1 by omega]
    unfold fdF at h ⊢
    cases hn : headN w with
    | none => rw [hn] at h; exact h
    | some n =>
      rw [hn] at h
      simp only at h ⊢
      by_cases h1 : 120 < len (w.take n)
      · rw [if_pos h1] at h ⊢; exact h
      · rw [if_neg h1] at h ⊢
        by_cases h2 : w.length < n + len (w.take n)
        · rw [if_pos h2] at h ⊢; exact h
        · rw [if_neg h2] at h ⊢
          by_cases h3 : ok (w.take (n + len (w.take n))) = true
          · rw [if_pos h3] at h ⊢
            obtain ⟨y, hy, rfl⟩ := Option.map_eq_some_iff.1 h
            rw [ih _ _ hy d]; rfl
          · rw [if_neg h3] at h ⊢; exact h

/-- Bad stays bad, and what was told ahead of it stays told, whatever comes behind it. -/
theorem fdF_bad (x : List UInt8) : ∀ (f : Nat) (w u : List UInt8) (t : List (List UInt8)), fdF ok len f w = some (u, true, t) → u = [] ∧ fdF ok len f (w ++ x) = some ([], true, t) := by
  intro f
  induction f with
  | zero => intro w u t h; simp [fdF] at h
  | succ f ih =>
    intro w u t h
    unfold fdF at h ⊢
    cases hn : headN w with
    | none => rw [hn] at h; simp at h
    | some n =>
      have hl := headN_len hn
      rw [hn] at h
      rw [headN_app x hn]
      simp only at h ⊢
      rw [List.take_append_of_le_length hl.2]
      by_cases h1 : 120 < len (w.take n)
      · rw [if_pos h1] at h ⊢
        simp at h
        obtain ⟨rfl, rfl⟩ := h
        exact ⟨rfl, rfl⟩
      · rw [if_neg h1] at h ⊢
        by_cases h2 : w.length < n + len (w.take n)
        · rw [if_pos h2] at h; simp at h
        · rw [if_neg h2] at h
          rw [if_neg (by rw [List.length_append]; omega), List.take_append_of_le_length (by omega), List.drop_append_of_le_length (by omega)]
          by_cases h3 : ok (w.take (n + len (w.take n))) = true
          · rw [if_pos h3] at h ⊢
            obtain ⟨⟨y1, y2, y3⟩, hy, he⟩ := Option.map_eq_some_iff.1 h
            simp at he
            obtain ⟨rfl, rfl, rfl⟩ := he
            obtain ⟨e1, e2⟩ := ih _ _ _ hy
            rw [e2]
            exact ⟨e1, rfl⟩
          · rw [if_neg h3] at h ⊢
            simp at h
            obtain ⟨rfl, rfl⟩ := h
            exact ⟨rfl, rfl⟩

/-- What waits, with more behind it, goes on as the whole would have. -/
theorem fdF_on (x : List UInt8) (g : Nat) (u2 : List UInt8) (b2 : Bool) (t2 : List (List UInt8)) : ∀ (f : Nat) (w u : List UInt8) (t : List (List UInt8)), fdF ok len f w = some (u, false, t) → fdF ok len g (u ++ x) = some (u2, b2, t2) → fdF ok len (f + g) (w ++ x) = some (u2, b2, t ++ t2) := by
  intro f
  induction f with
  | zero => intro w u t h; simp [fdF] at h
  | succ f ih =>
    intro w u t h k
    have hstay : u = w → t = [] → fdF ok len (f + 1 + g) (w ++ x) = some (u2, b2, t ++ t2) := by
      rintro rfl rfl
      rw [Nat.add_comm]
      exact fdF_more _ _ _ k _
    unfold fdF at h
    cases hn : headN w with
    | none =>
      rw [hn] at h
      simp at h
      exact hstay h.1.symm h.2
    | some n =>
      have hl := headN_len hn
      rw [hn] at h
      simp only at h
      by_cases h1 : 120 < len (w.take n)
      · rw [if_pos h1] at h; simp at h
      · rw [if_neg h1] at h
        by_cases h2 : w.length < n + len (w.take n)
        · rw [if_pos h2] at h
          simp at h
          exact hstay h.1.symm h.2
        · rw [if_neg h2] at h
          by_cases h3 : ok (w.take (n + len (w.take n))) = true
          · rw [if_pos h3] at h
            obtain ⟨⟨y1, y2, y3⟩, hy, he⟩ := Option.map_eq_some_iff.1 h
            simp at he
            obtain ⟨rfl, rfl, rfl⟩ := he
            rw [show f + 1 + g = (f + g) + 1 by omega]
            unfold fdF
            rw [headN_app x hn]
            simp only
            rw [List.take_append_of_le_length hl.2, if_neg h1, if_neg (by rw [List.length_append]; omega), List.take_append_of_le_length (by omega), List.drop_append_of_le_length (by omega), if_pos h3, ih _ _ _ hy k]
            rfl
          · rw [if_neg h3] at h; simp at h

/-- What waits is no longer than the text; what was told is right, and no longer together. -/
theorem fdF_bound : ∀ (f : Nat) (w u : List UInt8) (b : Bool) (t : List (List UInt8)), fdF ok len f w = some (u, b, t) → u.length + t.flatten.length ≤ w.length ∧ (∀ y ∈ t, ok y = true) ∧ 4 * t.length ≤ w.length := by
  intro f
  induction f with
  | zero => intro w u b t h; simp [fdF] at h
  | succ f ih =>
    intro w u b t h
    unfold fdF at h
    cases hn : headN w with
    | none =>
      rw [hn] at h
      simp at h
      obtain ⟨rfl, rfl, rfl⟩ := h
      simp
    | some n =>
      have hl := headN_len hn
      rw [hn] at h
      simp only at h
      by_cases h1 : 120 < len (w.take n)
      · rw [if_pos h1] at h
        simp at h
        obtain ⟨rfl, rfl, rfl⟩ := h
        simp
      · rw [if_neg h1] at h
        by_cases h2 : w.length < n + len (w.take n)
        · rw [if_pos h2] at h
          simp at h
          obtain ⟨rfl, rfl, rfl⟩ := h
          simp
        · rw [if_neg h2] at h
          by_cases h3 : ok (w.take (n + len (w.take n))) = true
          · rw [if_pos h3] at h
            obtain ⟨⟨y1, y2, y3⟩, hy, he⟩ := Option.map_eq_some_iff.1 h
            simp at he
            obtain ⟨rfl, rfl, rfl⟩ := he
            obtain ⟨e1, e2, e3⟩ := ih _ _ _ _ hy
            rw [List.length_drop] at e1 e3
            refine ⟨?_, ?_, ?_⟩
            · rw [List.flatten_cons, List.length_append, List.length_take]
              omega
            · intro y hy'
              rcases List.mem_cons.1 hy' with rfl | hy'
              · exact h3
              · exact e2 y hy'
            · rw [List.length_cons]; omega
          · rw [if_neg h3] at h
            simp at h
            obtain ⟨rfl, rfl, rfl⟩ := h
            simp

/-- What is told of a text: one thing. -/
def Fd (ok : List UInt8 → Bool) (len : List UInt8 → Nat) (w : List UInt8) (x : List UInt8 × Bool × List (List UInt8)) : Prop := ∃ f, fdF ok len f w = some x
theorem Fd.uniq {w : List UInt8} {x y : List UInt8 × Bool × List (List UInt8)} (h : Fd ok len w x) (k : Fd ok len w y) : x = y := by
  obtain ⟨f, hf⟩ := h
  obtain ⟨g, hg⟩ := k
  have h1 := fdF_more f w x hf g
  have h2 := fdF_more g w y hg f
  rw [Nat.add_comm] at h2
  rw [h1] at h2
  exact Option.some.inj h2
theorem Fd.none {w : List UInt8} (h : headN w = .none) : Fd ok len w (w, false, []) := ⟨1, by unfold fdF; rw [h]⟩
theorem Fd.short {w : List UInt8} {n : Nat} (h : headN w = some n) (h1 : ¬ 120 < len (w.take n)) (h2 : w.length < n + len (w.take n)) : Fd ok len w (w, false, []) := ⟨1, by unfold fdF; rw [h]; simp only; rw [if_neg h1, if_pos h2]⟩
/-- Feed: what waits and whether it is bad, ahead and behind, and what was told. -/
def FeedP (ok : List UInt8 → Bool) (len : List UInt8 → Nat) (w : List UInt8) (b : Bool) (p : List UInt8) (w' : List UInt8) (b' : Bool) (t : List (List UInt8)) : Prop :=
  (b = true ∧ w' = [] ∧ b' = true ∧ t = []) ∨
  (b = false ∧ ∃ u c, Fd ok len (w ++ p) (u, c, t) ∧ (((c = true ∨ 1200 < u.length) ∧ w' = [] ∧ b' = true) ∨ (c = false ∧ ¬ 1200 < u.length ∧ w' = u ∧ b' = false)))
theorem FeedP.uniq {w p w1 w2 : List UInt8} {b b1 b2 : Bool} {t1 t2 : List (List UInt8)} (h : FeedP ok len w b p w1 b1 t1) (k : FeedP ok len w b p w2 b2 t2) : w1 = w2 ∧ b1 = b2 ∧ t1 = t2 := by
  rcases h with ⟨hb, rfl, rfl, rfl⟩ | ⟨hb, u, c, hf, hh⟩
  · rcases k with ⟨_, rfl, rfl, rfl⟩ | ⟨kb, _⟩
    · exact ⟨rfl, rfl, rfl⟩
    · rw [hb] at kb; cases kb
  · rcases k with ⟨kb, _⟩ | ⟨_, u2, c2, kf, kk⟩
    · rw [hb] at kb; cases kb
    · have e := hf.uniq kf
      simp at e
      obtain ⟨rfl, rfl, rfl⟩ := e
      rcases hh with ⟨ho, rfl, rfl⟩ | ⟨hc, hl, rfl, rfl⟩
      · rcases kk with ⟨_, rfl, rfl⟩ | ⟨kc, kl, _, _⟩
        · exact ⟨rfl, rfl, rfl⟩
        · rcases ho with ho | ho
          · rw [kc] at ho; cases ho
          · exact absurd ho kl
      · rcases kk with ⟨ko, _, _⟩ | ⟨_, _, rfl, rfl⟩
        · rcases ko with ko | ko
          · rw [hc] at ko; cases ko
          · exact absurd ko hl
        · exact ⟨rfl, rfl, rfl⟩
/-- Feed of each piece, one behind the other, and all that was told. -/
def FeedAllP (ok : List UInt8 → Bool) (len : List UInt8 → Nat) : List (List UInt8) → List UInt8 → Bool → List UInt8 → Bool → List (List UInt8) → Prop
  | [], w, b, w', b', t => w' = w ∧ b' = b ∧ t = []
  | p :: ps, w, b, w', b', t => ∃ w1 b1 t1 t2, FeedP ok len w b p w1 b1 t1 ∧ FeedAllP ok len ps w1 b1 w' b' t2 ∧ t = t1 ++ t2

/-- Promise 5 in plain words: in whatever pieces it comes, the same is told, and the same waits. -/
theorem FeedAllP.pieces : ∀ (ps : List (List UInt8)) (w : List UInt8) (b : Bool) (w' : List UInt8) (b' : Bool) (t : List (List UInt8)), ps ≠ [] → w.length + ps.flatten.length ≤ 1200 → FeedAllP ok len ps w b w' b' t → FeedP ok len w b ps.flatten w' b' t := by
  intro ps
  induction ps with
  | nil => intro w b w' b' t h; exact absurd rfl h
  | cons p ps ih =>
    intro w b w' b' t _ hl h
    obtain ⟨w1, b1, t1, t2, hf, ha, rfl⟩ := h
    rw [List.flatten_cons, List.length_append] at hl
    rw [List.flatten_cons]
    cases ps with
    | nil =>
      obtain ⟨rfl, rfl, rfl⟩ := ha
      simpa using hf
    | cons q qs =>
      rcases hf with ⟨hb, rfl, rfl, rfl⟩ | ⟨hb, u, c, hfd, hh⟩
      · rcases ih _ _ _ _ _ (by simp) (by simp only [List.length_nil]; omega) ha with ⟨_, rfl, rfl, rfl⟩ | ⟨kb, _⟩
        · exact .inl ⟨hb, rfl, rfl, rfl⟩
        · cases kb
      · obtain ⟨f, hfd⟩ := hfd
        have hbd := (fdF_bound f _ _ _ _ hfd).1
        rw [List.length_append] at hbd
        cases c with
        | true =>
          rcases hh with ⟨_, rfl, rfl⟩ | ⟨hc, _⟩
          · rcases ih _ _ _ _ _ (by simp) (by simp only [List.length_nil]; omega) ha with ⟨_, rfl, rfl, rfl⟩ | ⟨kb, _⟩
            · refine .inr ⟨hb, [], true, ⟨f, ?_⟩, .inl ⟨.inl rfl, rfl, rfl⟩⟩
              rw [← List.append_assoc, List.append_nil]
              exact (fdF_bad _ f _ _ _ hfd).2
            · cases kb
          · cases hc
        | false =>
          rcases hh with ⟨ho, _, _⟩ | ⟨_, _, rfl, rfl⟩
          · rcases ho with ho | ho
            · cases ho
            · exfalso; omega
          · rcases ih _ _ _ _ _ (by simp) (by omega) ha with ⟨kb, _⟩ | ⟨_, u2, c2, ⟨g, hg⟩, kk⟩
            · cases kb
            · refine .inr ⟨hb, u2, c2, ⟨f + g, ?_⟩, kk⟩
              rw [← List.append_assoc]
              exact fdF_on _ g _ _ _ f _ _ _ hfd hg

/-- A text cut into pieces of these sizes, and the rest as the last one, if it is not empty. -/
def pcs : List Int → List UInt8 → List (List UInt8)
  | [], s => if s = [] then [] else [s]
  | z :: zs, s => s.take z.toNat :: pcs zs (s.drop z.toNat)
theorem pcs_flat : ∀ (zs : List Int) (s : List UInt8), (pcs zs s).flatten = s := by
  intro zs
  induction zs with
  | nil =>
    intro s
    unfold pcs
    by_cases h : s = []
    · rw [if_pos h, h]; rfl
    · rw [if_neg h]; simp
  | cons z zs ih =>
    intro s
    unfold pcs
    rw [List.flatten_cons, ih, List.take_append_drop]
/-- The law's last piece is empty, so that there is one: the same is told of the pieces and of the whole. -/
theorem FeedAllP.cut {zs : List Int} {s w w' : List UInt8} {b b' : Bool} {t : List (List UInt8)} (hl : w.length + s.length ≤ 1200) (h : FeedAllP ok len (pcs zs s ++ [[]]) w b w' b' t) : FeedP ok len w b s w' b' t := by
  have hf : (pcs zs s ++ [[]]).flatten = s := by rw [List.flatten_append, pcs_flat]; simp
  have := FeedAllP.pieces (pcs zs s ++ [[]]) w b w' b' t (by simp) (by rw [hf]; exact hl) h
  rw [hf] at this
  exact this
end Go.Proofs.YtdlhicdfldecgaaGreatDoor

namespace Go.Proofs.YtdlhicdfldecgaaGreatDoor
open Go.RowKit
open Go.Lib hiding intOf

/-- A request, as it is told. -/
structure RqD where
  m : Int
  p : ByteArray
  fs : List (ByteArray × ByteArray)
  b : ByteArray
/-- Its text. -/
def RqD.text (r : RqD) : List UInt8 := bs (reqT r.m r.p r.fs r.b)
def RqD.ok (r : RqD) : Prop := ReqP r.m r.p r.fs r.b
/-- The four cells of a request whose fields lie there. -/
def rqC (x : RqD × Value) : List Value := [.int .i64 x.1.m, .string x.1.p, x.2, .string x.1.b]
def flatR : List (RqD × Value) → List Value
  | [] => []
  | x :: t => rqC x ++ flatR t
theorem flatR_snoc (x : RqD × Value) : ∀ rv : List (RqD × Value), flatR (rv ++ [x]) = flatR rv ++ rqC x
  | [] => by simp [flatR]
  | y :: t => by rw [List.cons_append, flatR, flatR_snoc x t, flatR, List.append_assoc]
theorem own_noR {w : World} {base : Nat} {t : TypeId} {size : Nat} {v : Value} {n : Nat} {xs : List Value} {j : Nat} {cs : Array Value} {T : TypeId} {fr : Nat × Nat} (h : w.ownsRow base t size v n xs) (hT : T ≠ t) (hj : w.heap[j]? = some (.cells cs T fr)) : v.ownBlock ≠ some j := by
  intro e
  rcases h.2 with ⟨rfl, _⟩ | ⟨g, cap, cur, rfl, _, h1, _⟩
  · cases e
  · cases e
    rw [h1] at hj
    cases hj
    exact hT rfl
theorem own_ltR {w : World} {base : Nat} {t : TypeId} {size : Nat} {v : Value} {n : Nat} {xs : List Value} {j : Nat} (h : w.ownsRow base t size v n xs) (hj : v.ownBlock = some j) : base ≤ j ∧ j < w.heap.size := by
  rcases h.2 with ⟨rfl, _⟩ | ⟨g, cap, cur, rfl, h0, h1, _⟩
  · cases hj
  · cases hj
    exact ⟨h0, (Array.getElem?_eq_some_iff.1 h1).1⟩
theorem own_blockR {w : World} {base : Nat} {t : TypeId} {size : Nat} {v : Value} {n : Nat} {xs : List Value} {j : Nat} (h : w.ownsRow base t size v n xs) (hj : v.ownBlock = some j) : ∃ cur, w.heap[j]? = some (.cells cur t (0, 0)) := by
  rcases h.2 with ⟨rfl, _⟩ | ⟨g, cap, cur, rfl, h0, h1, _⟩
  · cases hj
  · cases hj
    exact ⟨cur, h1⟩
theorem own_two {w : World} {b1 b2 : Nat} {t1 t2 : TypeId} {s1 s2 : Nat} {v1 v2 : Value} {n1 n2 : Nat} {x1 x2 : List Value} {j : Nat} (h1 : w.ownsRow b1 t1 s1 v1 n1 x1) (h2 : w.ownsRow b2 t2 s2 v2 n2 x2) (hT : t1 ≠ t2) (hj : v1.ownBlock = some j) : v2.ownBlock ≠ some j := by
  obtain ⟨cur, hc⟩ := own_blockR h1 hj
  exact own_noR h2 hT hc

/-- A list of requests of one's own: the row, each one's fields, no two lists of fields in one block. -/
structure ReqsO (w : World) (base : Nat) (V : Value) (rv : List (RqD × Value)) : Prop where
  row : w.ownsRow base 39 4 V rv.length (flatR rv)
  own : ∀ x ∈ rv, w.ownsRow base 131 2 x.2 x.1.fs.length (flatF x.1.fs)
  apart : rv.Pairwise (fun a b => ∀ g, a.2.ownBlock = some g → b.2.ownBlock ≠ some g)
theorem ReqsO.nil (w : World) (base : Nat) : ReqsO w base (.slice none 0 0) [] := ⟨⟨rfl, .inl ⟨rfl, rfl⟩⟩, by simp, List.Pairwise.nil⟩
/-- All that stands in the blocks of the list stands: so does the list. -/
theorem ReqsO.same {w w' : World} {base : Nat} {V : Value} {rv : List (RqD × Value)} (h : ReqsO w base V rv) (hs : ∀ j, base ≤ j → j < w.heap.size → w'.heap[j]? = w.heap[j]?) : ReqsO w' base V rv :=
  ⟨owns_same h.row (fun j hj => hs j (own_ltR h.row hj).1 (own_ltR h.row hj).2), fun x hx => owns_same (h.own x hx) (fun j hj => hs j (own_ltR (h.own x hx) hj).1 (own_ltR (h.own x hx) hj).2), h.apart⟩
theorem ReqsO.later {w w' : World} {base : Nat} {V : Value} {rv : List (RqD × Value)} (h : ReqsO w base V rv) (hb : Below w.heap.size w w') : ReqsO w' base V rv := h.same (fun j _ hj => hb.block j hj)
/-- What lies wholly below a number outlives what is done above it. -/
theorem ReqsO.below {w w' : World} {base B : Nat} {V : Value} {rv : List (RqD × Value)} (h : ReqsO w base V rv) (hB : ∀ j, V.ownBlock = some j ∨ (∃ x ∈ rv, x.2.ownBlock = some j) → j < B) (hb : Below B w w') : ReqsO w' base V rv :=
  ⟨owns_same h.row (fun j hj => hb.block j (hB j (.inl hj))), fun x hx => owns_same (h.own x hx) (fun j hj => hb.block j (hB j (.inr ⟨x, hx, hj⟩))), h.apart⟩
theorem ReqsO.lt {w : World} {base : Nat} {V : Value} {rv : List (RqD × Value)} (h : ReqsO w base V rv) (j : Nat) (hj : V.ownBlock = some j ∨ (∃ x ∈ rv, x.2.ownBlock = some j)) : base ≤ j ∧ j < w.heap.size := by
  rcases hj with hj | ⟨x, hx, hj⟩
  · exact own_ltR h.row hj
  · exact own_ltR (h.own x hx) hj
/-- A request more, whose fields were made since. -/
theorem ReqsO.more {w W : World} {base base' : Nat} {V V' : Value} {rv : List (RqD × Value)} {r : RqD} {v : Value} (h : ReqsO w base V rv) (hb' : base ≤ base') (hv : w.ownsRow base' 131 2 v r.fs.length (flatF r.fs)) (hold : ∀ j, (∃ x ∈ rv, x.2.ownBlock = some j) → j < base')
    (hg : w.grownBy W V.ownBlock) (hrow : W.ownsRow base 39 4 V' (rv.length + 1) (flatR rv ++ rqC (r, v))) : ReqsO W base V' (rv ++ [(r, v)]) := by
  have hkeep : ∀ x ∈ rv, W.ownsRow base 131 2 x.2 x.1.fs.length (flatF x.1.fs) := fun x hx =>
    owns_same (h.own x hx) (fun j hj => hg.block j (own_ltR (h.own x hx) hj).2 (fun e => own_two (h.own x hx) h.row (by decide) hj e.symm))
  have hnew : W.ownsRow base 131 2 v r.fs.length (flatF r.fs) := by
    refine owns_wide ?_ hb'
    exact owns_same hv (fun j hj => hg.block j (own_ltR hv hj).2 (fun e => own_two hv h.row (by decide) hj e.symm))
  refine ⟨by rw [flatR_snoc, List.length_append]; exact hrow, fun x hx => ?_, ?_⟩
  · simp only [List.mem_append, List.mem_singleton] at hx
    rcases hx with hx | rfl
    · exact hkeep x hx
    · exact hnew
  · rw [List.pairwise_append]
    refine ⟨h.apart, List.pairwise_singleton _ _, fun a ha b hb g hg1 hg2 => ?_⟩
    simp only [List.mem_singleton] at hb
    subst hb
    have h1 := hold g ⟨a, ha, hg1⟩
    have h2 := (own_ltR hv hg2).1
    omega

end Go.Proofs.YtdlhicdfldecgaaGreatDoor

namespace Go.Proofs.YtdlhicdfldecgaaGreatDoor
open Go.RowKit
open Go.Lib hiding intOf

/-- The cells of it. -/
def CcD.cs (c : CcD) : Array Value := #[.bool c.ns, .bool c.nc, .bool c.pr, .bool c.mu, .bool c.ha, .int .i64 c.age]
/-- A block that holds it. -/
def CcAt (w : World) (g : Nat) (c : CcD) : Prop := w.heap[g]? = some (.cells c.cs 101)
theorem CcAt.cells {w : World} {g : Nat} {c : CcD} (h : CcAt w g c) : w.cell? ⟨g, 0, none⟩ = some (.bool c.ns) ∧ w.cell? ⟨g, 1, none⟩ = some (.bool c.nc) ∧ w.cell? ⟨g, 2, none⟩ = some (.bool c.pr) ∧ w.cell? ⟨g, 3, none⟩ = some (.bool c.mu) ∧ w.cell? ⟨g, 4, none⟩ = some (.bool c.ha) ∧ w.cell? ⟨g, 5, none⟩ = some (.int .i64 c.age) := by
  unfold CcAt CcD.cs at h
  refine ⟨?_, ?_, ?_, ?_, ?_, ?_⟩ <;> simp [World.cell?, h]
theorem CcAt.frozen {w : World} {g : Nat} {c : CcD} (h : CcAt w g c) (o : Nat) : w.frozen? ⟨g, o, none⟩ = false := by
  unfold CcAt at h
  simp [World.frozen?, h]
theorem CcAt.lt {w : World} {g : Nat} {c : CcD} (h : CcAt w g c) : g < w.heap.size := (Array.getElem?_eq_some_iff.1 h).1
theorem CcAt.same {w w' : World} {g : Nat} {c : CcD} (h : CcAt w g c) (hs : w'.heap[g]? = w.heap[g]?) : CcAt w' g c := by unfold CcAt; rw [hs]; exact h
/-- While words are read. -/
structure CcSt (w : World) (H : Nat) (c : CcD) (v : Value) (l : List ByteArray) (wr : World) : Prop where
  res : CcAt wr H cc0
  cur : CcAt wr (H + 1) c
  row : wr.ownsRow (H + 1 + 1) 9 1 v l.length (l.map Value.string)
  low : Below H w wr
theorem CcSt.later {w : World} {H : Nat} {c : CcD} {v : Value} {l : List ByteArray} {wr w' : World} (h : CcSt w H c v l wr) (hb : Below wr.heap.size wr w') : CcSt w H c v l w' :=
  ⟨h.res.same (hb.block _ h.res.lt), h.cur.same (hb.block _ h.cur.lt), owns_below h.row hb (fun _ hg => owns_lt h.row hg), h.low.trans (hb.mono (Nat.le_of_lt h.res.lt))⟩
theorem CcSt.put {w : World} {H : Nat} {c d : CcD} {v : Value} {l : List ByteArray} {wr : World} (h : CcSt w H c v l wr) {o : Nat} {x : Value} (hd : CcAt (wr.setCell ⟨H + 1, o, none⟩ x) (H + 1) d) : CcSt w H d v l (wr.setCell ⟨H + 1, o, none⟩ x) :=
  ⟨h.res.same (heap_setCell_other _ _ H _ (by show H ≠ H + 1; omega)), hd, owns_same h.row (fun j hj => heap_setCell_other _ _ j _ (by show j ≠ H + 1; have := (own_ltR h.row hj).1; omega)), h.low.setCell (by show H ≤ H + 1; omega) _⟩

end Go.Proofs.YtdlhicdfldecgaaGreatDoor

namespace Go.Proofs.YtdlhicdfldecgaaGreatDoor
open Go.RowKit
open Go.Lib hiding intOf

/-- Names are right: at most four words. -/
def NamesP (xs : List ByteArray) : Prop := (∀ x ∈ xs, TokOk x) ∧ xs.length ≤ 4
end Go.Proofs.YtdlhicdfldecgaaGreatDoor

namespace Go.Proofs.YtdlhicdfldecgaaGreatDoor
open Go.RowKit
open Go.Lib hiding intOf

theorem textAt_mem (xs : List ByteArray) (j : Nat) (h : j < xs.length) : textAt xs j ∈ xs := by
  unfold textAt
  rw [List.getD_eq_getElem?_getD, List.getElem?_eq_getElem h]
  exact List.getElem_mem _
theorem take_textAt (xs : List ByteArray) (j : Nat) (h : j < xs.length) : xs.take (j + 1) = xs.take j ++ [textAt xs j] := by
  rw [List.take_add_one, List.getElem?_eq_getElem h]
  unfold textAt
  rw [List.getD_eq_getElem?_getD, List.getElem?_eq_getElem h]
  rfl

open Classical in
set_option maxHeartbeats 1000000 in
theorem l8Texts_any (oa ob : Option Addr) (m cm n cn : Nat) (xs ys : List ByteArray) (w : World) (hx : TextsA w oa m xs) (hy : TextsA w ob n ys) (hm : m ≤ 2000000) :
    Calls Tryz.prog 82 #[.slice oa m cm, .slice ob n cn] w fun e w' => e = .returned (.bool (decide (xs = ys))) ∧ Below w.heap.size w w' := by
  have HX : Hid (∀ W, Below w.heap.size w W → TextsA W oa m xs) := fun W h => hx.below h
  have HY : Hid (∀ W, Below w.heap.size w W → TextsA W ob n ys) := fun W h => hy.below h
  have HLX : Hid (xs.length = m) := hx.1
  have HLY : Hid (ys.length = n) := hy.1
  clear hx hy
  go_enter Tryz.func82, Tryz.ntmps82
  go_wp2_with fail
  go_loopw [5] (fun i wr => ∃ j : Nat, j ≤ m ∧ j ≤ n ∧ i = .int .i64 (j : Int) ∧ Below w.heap.size w wr ∧ Hid (xs.take j = ys.take j)) (fun i _ => m - (intOf i).toNat)
  case atStart => exact ⟨0, Nat.zero_le _, Nat.zero_le _, rfl, Below.refl _ _, by show _ = _; simp⟩
  case round =>
    obtain ⟨j, hj, hj2, rfl, hbw, HN⟩ := hrel
    by_cases hlt : (j : Int) < (m : Int)
    · by_cases hlt2 : (j : Int) < (n : Int)
      · have hjx : j < xs.length := by rw [HLX.out]; omega
        have hjy : j < ys.length := by rw [HLY.out]; omega
        obtain ⟨g, rfl, hg, hc⟩ := (HX.out wr hbw).2 j (by omega)
        obtain ⟨g2, rfl, hg2, hc2⟩ := (HY.out wr hbw).2 j (by omega)
        obtain ⟨x, hxx⟩ : ∃ x, x = textAt xs j := ⟨_, rfl⟩
        obtain ⟨y, hyy⟩ : ∃ y, y = textAt ys j := ⟨_, rfl⟩
        rw [← hxx] at hc
        rw [← hyy] at hc2
        by_cases he : x = y
        · have HN2 : Hid (xs.take (j + 1) = ys.take (j + 1)) := by
            show _ = _
            rw [take_textAt xs j hjx, take_textAt ys j hjy, ← hxx, ← hyy, HN.out, he]
          subst he
          clear hxx hyy hjx hjy HN
          go_wp2_with fail
          go_quiet (fail)
          go_wp2
          go_roundw
          case rel => exact ⟨j + 1, by omega, by omega, by go_num, below_drewN hbw _, HN2⟩
          case measure => simp [intOf]; omega
        · have t0 : (x.toList == y.toList) = false := text_beq_no he
          have t1 : (x.toList != y.toList) = true := by rw [bne, t0]; rfl
          have HE : Hid (decide (xs = ys) = false) := decide_eq_false (fun h => he (by rw [hxx, hyy, h]))
          clear he hxx hyy hjx hjy HN
          go_wp2_with fail
          go_quiet (fail)
          go_wp2
          go_ret
          exact ⟨by rw [HE.out]; rfl, below_drewN hbw _⟩
      · have HE : Hid (decide (xs = ys) = decide ((m : Int) = (n : Int))) := by
          show _ = _
          rw [decide_eq_decide]
          constructor
          · intro h; have h1 := HLX.out; have h2 := HLY.out; rw [h] at h1; omega
          · intro h; omega
        clear HN
        go_wp2_with fail
        go_ret
        exact ⟨by rw [HE.out]; rfl, hbw⟩
    · have HE : Hid (decide (xs = ys) = decide ((m : Int) = (n : Int))) := by
        show _ = _
        rw [decide_eq_decide]
        constructor
        · intro h; have h1 := HLX.out; have h2 := HLY.out; rw [h] at h1; omega
        · intro h
          have h1 := HN.out
          rw [List.take_of_length_le (by rw [HLX.out]; omega), List.take_of_length_le (by rw [HLY.out]; omega)] at h1
          exact h1
      clear HN
      go_wp2_with fail
      go_ret
      exact ⟨by rw [HE.out]; rfl, hbw⟩

end Go.Proofs.YtdlhicdfldecgaaGreatDoor

namespace Go.Proofs.YtdlhicdfldecgaaGreatDoor
open Go.RowKit
open Go.Lib hiding intOf

/-- An object is right. -/
def ObjP (p : ByteArray) (xs ys : List ByteArray) (st : Int) (fs : List (ByteArray × ByteArray)) (b : ByteArray) (t : Int) : Prop :=
  RespP st fs b ∧ PathOk p ∧ (0 ≤ t ∧ t ≤ 1000000) ∧ NamesP xs ∧ xs = varyP fs ∧ ys.length = xs.length ∧ ∀ y ∈ ys, ValOk y
theorem texts_view {w : World} {base n p : Nat} {o : Option Addr} {xs : List ByteArray} (h : w.ownsRow base 9 1 (.slice o n p) n (xs.map Value.string)) : TextsA w o n xs := by
  obtain ⟨oa, ca, he, hx⟩ := texts_own h
  cases he
  exact hx

end Go.Proofs.YtdlhicdfldecgaaGreatDoor

namespace Go.Proofs.YtdlhicdfldecgaaGreatDoor
open Go.RowKit

def cutA (s sep : ByteArray) : ByteArray := ⟨(Lib.cut s.data.toList sep.data.toList).1.toArray⟩
def cutB (s sep : ByteArray) : ByteArray := ⟨(Lib.cut s.data.toList sep.data.toList).2.1.toArray⟩
def trimP (s p : ByteArray) : ByteArray := ⟨(Lib.trimPrefix s.data.toList p.data.toList).toArray⟩
def hasP (s p : ByteArray) : Bool := Lib.hasPrefix s.data.toList p.data.toList
theorem bs_cutA (s sep : ByteArray) : bs (cutA s sep) = (Lib.cut (bs s) (bs sep)).1 := by simp [bs, cutA]
theorem bs_cutB (s sep : ByteArray) : bs (cutB s sep) = (Lib.cut (bs s) (bs sep)).2.1 := by simp [bs, cutB]
theorem bs_trimP (s p : ByteArray) : bs (trimP s p) = Lib.trimPrefix (bs s) (bs p) := by simp [bs, trimP]
theorem cutA_size (s sep : ByteArray) : (cutA s sep).size ≤ s.size := by
  rw [← bs_len, ← bs_len, bs_cutA]
  unfold Lib.cut
  split
  · simp; omega
  · exact Nat.le_refl _
theorem cutB_size (s sep : ByteArray) : (cutB s sep).size ≤ s.size := by
  rw [← bs_len, ← bs_len, bs_cutB]
  unfold Lib.cut
  split
  · simp
  · simp
theorem trimP_size (s p : ByteArray) : (trimP s p).size ≤ s.size := by
  rw [← bs_len, ← bs_len, bs_trimP]
  unfold Lib.trimPrefix
  split
  · simp
  · exact Nat.le_refl _
theorem index_at (c : UInt8) (t rest : List UInt8) : ∀ (pre : List UInt8), (∀ b ∈ pre, b ≠ c) → Lib.index (pre ++ ((c :: t) ++ rest)) (c :: t) = (pre.length : Int) := by
  intro pre
  induction pre with
  | nil => intro _; simp [Lib.index]
  | cons b r ih =>
    intro h
    have hb : b ≠ c := h b (by simp)
    have ih := ih (fun x hx => h x (by simp [hx]))
    rw [List.cons_append, Lib.index, if_neg (by simp [List.isPrefixOf]; intro e; exact absurd e.symm hb), ih]
    rw [if_neg (by rw [beq_iff_eq]; omega)]
    simp
theorem cut_of {s sep : ByteArray} {c : UInt8} {t rest pre : List UInt8} (hs : bs s = pre ++ ((c :: t) ++ rest)) (hp : bs sep = c :: t) (h : ∀ b ∈ pre, b ≠ c) : bs (cutA s sep) = pre ∧ bs (cutB s sep) = rest := by
  rw [bs_cutA, bs_cutB, hs, hp]
  unfold Lib.cut
  rw [index_at c t rest pre h, if_pos (by omega)]
  constructor
  · simp
  · simp
theorem trim_of {s p : ByteArray} {rest : List UInt8} (hs : bs s = bs p ++ rest) : bs (trimP s p) = rest := by
  rw [bs_trimP, hs]
  unfold Lib.trimPrefix Lib.hasPrefix
  rw [if_pos (by simp)]
  simp

def nmE : ByteArray := ⟨#[58, 32]⟩
def blE : ByteArray := ⟨#[32]⟩
/-- One line of a head taken: a field more, but for the length's line; nothing where the head is over. -/
def lineStep (x : List (ByteArray × ByteArray) × ByteArray) : List (ByteArray × ByteArray) × ByteArray :=
  if hasP x.2 lnE = true then x else (if cutA x.2 nmE = clen then x.1 else x.1 ++ [(cutA x.2 nmE, cutA (cutB x.2 nmE) lnE)], cutB (cutB x.2 nmE) lnE)
def lineTo (x : List (ByteArray × ByteArray) × ByteArray) : Nat → List (ByteArray × ByteArray) × ByteArray
  | 0 => x
  | k + 1 => lineStep (lineTo x k)
theorem line_stuck (x : List (ByteArray × ByteArray) × ByteArray) (k : Nat) (h : hasP (lineTo x k).2 lnE = true) : ∀ d, lineTo x (k + d) = lineTo x k := by
  intro d
  induction d with
  | zero => rfl
  | succ d ih =>
    rw [show k + (d + 1) = (k + d) + 1 by omega, lineTo, ih]
    unfold lineStep
    rw [if_pos h]
theorem lineTo_size (s : ByteArray) : ∀ k, (lineTo ([], s) k).1.length ≤ k ∧ (lineTo ([], s) k).2.size ≤ s.size ∧ ∀ f ∈ (lineTo ([], s) k).1, f.1.size ≤ s.size ∧ f.2.size ≤ s.size := by
  intro k
  induction k with
  | zero => exact ⟨Nat.le_refl _, Nat.le_refl _, fun f hf => by simp [lineTo] at hf⟩
  | succ k ih =>
    obtain ⟨h1, h2, h3⟩ := ih
    rw [lineTo]
    generalize lineTo ([], s) k = x at *
    have a1 := cutA_size x.2 nmE
    have a2 := cutB_size x.2 nmE
    have a3 := cutA_size (cutB x.2 nmE) lnE
    have a4 := cutB_size (cutB x.2 nmE) lnE
    unfold lineStep
    by_cases hh : hasP x.2 lnE = true
    · rw [if_pos hh]; exact ⟨by omega, h2, h3⟩
    · rw [if_neg hh]
      by_cases hc : cutA x.2 nmE = clen
      · rw [if_pos hc]; exact ⟨Nat.le_succ_of_le h1, Nat.le_trans a4 (Nat.le_trans a2 h2), h3⟩
      · rw [if_neg hc]
        refine ⟨by simp; omega, Nat.le_trans a4 (Nat.le_trans a2 h2), fun f hf => ?_⟩
        simp only [List.mem_append, List.mem_singleton] at hf
        rcases hf with hf | rfl
        · exact h3 f hf
        · exact ⟨Nat.le_trans a1 h2, Nat.le_trans a3 (Nat.le_trans a2 h2)⟩

/-- Fields whose lines can be read: no colon in a name, none begins with a line's end, none in a value. -/
def LineOk (f : ByteArray × ByteArray) : Prop := (∀ b ∈ bs f.1, b ≠ 58) ∧ (∃ c r, bs f.1 = c :: r ∧ c ≠ 13) ∧ ∀ b ∈ bs f.2, b ≠ 13
def keepF (xs : List (ByteArray × ByteArray)) : List (ByteArray × ByteArray) := xs.filter (fun f => decide (f.1 ≠ clen))
theorem lines_of (x : List (ByteArray × ByteArray) × ByteArray) (body : List UInt8) : ∀ (xs : List (ByteArray × ByteArray)), (∀ f ∈ xs, LineOk f) → ∀ k acc left, lineTo x k = (acc, left) → bs left = (xs.map fieldLine).flatMap (fun l => l ++ [13, 10]) ++ 13 :: 10 :: body →
    ∃ left', lineTo x (k + xs.length) = (acc ++ keepF xs, left') ∧ bs left' = 13 :: 10 :: body := by
  intro xs
  induction xs with
  | nil =>
    intro _ k acc left h1 h2
    exact ⟨left, by rw [show k + ([] : List (ByteArray × ByteArray)).length = k from rfl, h1]; simp [keepF], by simpa using h2⟩
  | cons f r ih =>
    intro hx k acc left h1 h2
    obtain ⟨hn, ⟨c, nr, hc, hc13⟩, hv⟩ := hx f (by simp)
    obtain ⟨rest, hrest⟩ : ∃ y, y = (r.map fieldLine).flatMap (fun l => l ++ [13, 10]) ++ 13 :: 10 :: body := ⟨_, rfl⟩
    have e1 : bs left = bs f.1 ++ ((58 :: [32]) ++ (bs f.2 ++ ((13 :: [10]) ++ rest))) := by
      rw [h2, hrest]; simp [fieldLine]
    have k1 := cut_of (sep := nmE) e1 rfl hn
    have k2 := cut_of (sep := lnE) k1.2 rfl hv
    have hno : ¬ hasP left lnE = true := by
      unfold hasP Lib.hasPrefix
      show ¬ List.isPrefixOf (bs lnE) (bs left) = true
      rw [e1, hc]
      intro e
      simp [bs, lnE, List.isPrefixOf] at e
      exact hc13 e.1.symm
    have hstep : lineTo x (k + 1) = (if f.1 = clen then acc else acc ++ [(f.1, f.2)], cutB (cutB left nmE) lnE) := by
      rw [lineTo, h1]
      unfold lineStep
      rw [if_neg hno]
      have n1 : cutA left nmE = f.1 := bs_inj k1.1
      have n2 : cutA (cutB left nmE) lnE = f.2 := bs_inj k2.1
      simp only [n1, n2]
    obtain ⟨left', g1, g2⟩ := ih (fun y hy => hx y (by simp [hy])) (k + 1) _ _ hstep (by rw [k2.2, hrest])
    refine ⟨left', ?_, g2⟩
    rw [List.length_cons, show k + (r.length + 1) = k + 1 + r.length by omega, g1]
    by_cases he : f.1 = clen
    · rw [if_pos he]; simp [keepF, he]
    · rw [if_neg he]; simp [keepF, he]

def restFs (s : ByteArray) : List (ByteArray × ByteArray) := (lineTo ([], s) 9).1
def restBody (s : ByteArray) : ByteArray := trimP (lineTo ([], s) 9).2 lnE
theorem rest_of {s : ByteArray} {xs : List (ByteArray × ByteArray)} {body : List UInt8} (hs : bs s = (xs.map fieldLine).flatMap (fun l => l ++ [13, 10]) ++ 13 :: 10 :: body) (hx : ∀ f ∈ xs, LineOk f) (hl : xs.length ≤ 9) : restFs s = keepF xs ∧ bs (restBody s) = body := by
  obtain ⟨left', g1, g2⟩ := lines_of ([], s) body xs hx 0 [] s rfl hs
  have hst := line_stuck ([], s) (0 + xs.length) (by
    rw [g1]
    unfold hasP Lib.hasPrefix
    show List.isPrefixOf (bs lnE) (bs left') = true
    rw [g2]
    simp [bs, lnE, List.isPrefixOf]) (9 - xs.length)
  rw [show 0 + xs.length + (9 - xs.length) = 9 by omega, g1] at hst
  unfold restFs restBody
  rw [hst]
  exact ⟨by simp, trim_of (by rw [g2]; simp [bs, lnE])⟩
theorem line_tok {f : ByteArray × ByteArray} (h : TokOk f.1 ∧ ValOk f.2 ∧ f.1 ≠ clen) : LineOk f := by
  have hT : ∀ b ∈ bs f.1, TokB (b.toNat : Int) := bs_all h.1.2.2
  refine ⟨fun b hb e => ?_, ?_, fun b hb => ?_⟩
  · have := hT b hb
    subst e
    unfold TokB at this
    simp at this
  · have hl : 1 ≤ (bs f.1).length := by rw [bs_len]; exact h.1.1
    cases hc : bs f.1 with
    | nil => rw [hc] at hl; simp at hl
    | cons c r =>
      refine ⟨c, r, rfl, fun e => ?_⟩
      have := hT c (by rw [hc]; simp)
      subst e
      unfold TokB at this
      simp at this
  · intro e
    have := (line_field h).2 b (by simp [fieldLine, hb])
    exact this e
theorem line_len (n : Nat) (h : n ≤ 1000000) : LineOk (clen, numText n) := by
  refine ⟨show ∀ b ∈ bs clen, b ≠ 58 by decide, ⟨99, [111, 110, 116, 101, 110, 116, 45, 108, 101, 110, 103, 116, 104], rfl, by decide⟩, fun b hb e => ?_⟩
  exact (line_clen n h).2 b (by rw [bs_num] at hb; simp [clenLine, hb]) e
theorem keep_all {fs : List (ByteArray × ByteArray)} (h : ∀ f ∈ fs, TokOk f.1 ∧ ValOk f.2 ∧ f.1 ≠ clen) : keepF fs = fs := by
  unfold keepF
  rw [List.filter_eq_self]
  intro f hf
  simpa using (h f hf).2.2
theorem keep_len {fs : List (ByteArray × ByteArray)} (h : ∀ f ∈ fs, TokOk f.1 ∧ ValOk f.2 ∧ f.1 ≠ clen) (n : Nat) : keepF (fs ++ [(clen, numText n)]) = fs := by
  have := keep_all h
  unfold keepF at this ⊢
  rw [List.filter_append, this]
  simp
/-- What stands behind the first line of a right message is read as it was. -/
theorem rest_read {s : ByteArray} {fs : List (ByteArray × ByteArray)} {b : ByteArray} (hf : FldsOk fs) (hb : b.size ≤ 120) (tell : Bool) (hs : bs s = (fs.map fieldLine ++ (if tell then [clenLine b.size] else [])).flatMap (fun l => l ++ [13, 10]) ++ 13 :: 10 :: bs b) : restFs s = fs ∧ restBody s = b := by
  have hm := flds_mem hf
  have h8 := hf.1
  cases tell
  · have h := rest_of (xs := fs) (s := s) (body := bs b) (by rw [hs]; simp) (fun f hf => line_tok (hm f hf)) (by omega)
    exact ⟨by rw [h.1, keep_all hm], bs_inj h.2⟩
  · have h := rest_of (xs := fs ++ [(clen, numText b.size)]) (s := s) (body := bs b) (by rw [hs]; simp [fieldLine, clenLine, clenL, clen, ← bs_num]; rfl) (fun f hf => by
      simp only [List.mem_append, List.mem_singleton] at hf
      rcases hf with hf | rfl
      · exact line_tok (hm f hf)
      · exact line_len _ (by omega)) (by simp; omega)
    exact ⟨by rw [h.1, keep_len hm], bs_inj h.2⟩

def dotLn : ByteArray := ⟨#[46, 13, 10]⟩
/-- What is left of an answer's text behind its first line. -/
def respRest (s : ByteArray) : ByteArray := trimP (cutB (trimP s httpAhead) blE) dotLn
def respNum (s : ByteArray) : ByteArray := cutA (trimP s httpAhead) blE
theorem resp_read {s : ByteArray} {st : Int} {fs : List (ByteArray × ByteArray)} {b : ByteArray} (h : IsResp s st fs b) :
    respNum s = numText st.toNat ∧ restFs (respRest s) = fs ∧ restBody (respRest s) = b := by
  obtain ⟨⟨hm, hf, hb⟩, rfl⟩ := h
  obtain ⟨rest, hrest⟩ : ∃ y, y = (fs.map fieldLine ++ [clenLine b.size]).flatMap (fun l => l ++ [13, 10]) ++ 13 :: 10 :: bs b := ⟨_, rfl⟩
  have e0 : bs (respT st fs b) = bs httpAhead ++ (numL st.toNat ++ ((32 :: []) ++ (bs dotLn ++ rest))) := by
    rw [bs_respT, hrest]
    simp [respLine, httpL, bs, httpAhead, dotLn]
  have k0 := trim_of (p := httpAhead) e0
  have k1 := cut_of (sep := blE) k0 rfl (fun x hx e => by
    have := (numL_dig st.toNat (by omega)).2 x hx
    subst e
    unfold DigB at this
    simp at this)
  have k3 := trim_of (p := dotLn) k1.2
  have k4 := rest_read (s := respRest (respT st fs b)) hf hb true (by rw [show bs (respRest (respT st fs b)) = rest from k3, hrest]; simp)
  exact ⟨bs_inj (by rw [bs_num]; exact k1.1), k4.1, k4.2⟩

end Go.Proofs.YtdlhicdfldecgaaGreatDoor

namespace Go.Proofs.YtdlhicdfldecgaaGreatDoor
open Go.RowKit
open Go.Lib hiding intOf

def objW : ByteArray := ⟨#[111, 98, 106, 32]⟩
def nlE : ByteArray := ⟨#[10]⟩
def objHead (p : ByteArray) (t : Int) (n : Nat) : ByteArray := objW ++ p ++ ⟨#[32]⟩ ++ numText t.toNat ++ ⟨#[32]⟩ ++ numText n ++ ⟨#[10]⟩
/-- The head, and behind it the first k values, a byte 10 behind each. -/
def valsTo (h : ByteArray) (ys : List ByteArray) : Nat → ByteArray
  | 0 => h
  | k + 1 => valsTo h ys k ++ textAt ys k ++ ⟨#[10]⟩
def objT (p : ByteArray) (ys : List ByteArray) (st : Int) (fs : List (ByteArray × ByteArray)) (b : ByteArray) (t : Int) : ByteArray :=
  valsTo (objHead p t ys.length) ys ys.length ++ respT st fs b
/-- The text is that of this right object. -/
def IsObj (s p : ByteArray) (ys : List ByteArray) (st : Int) (fs : List (ByteArray × ByteArray)) (b : ByteArray) (t : Int) : Prop :=
  ObjP p (varyP fs) ys st fs b t ∧ objT p ys st fs b t = s
def lnL (ys : List ByteArray) : List UInt8 := ys.flatMap (fun y => bs y ++ [10])

theorem bs_valsTo (h : ByteArray) (ys : List ByteArray) : ∀ k, k ≤ ys.length → bs (valsTo h ys k) = bs h ++ lnL (ys.take k)
  | 0, _ => by simp [valsTo, lnL]
  | k + 1, hk => by
    rw [valsTo, bs_append, bs_append, bs_valsTo h ys k (by omega), take_textAt ys k (by omega)]
    simp [lnL, bs]
theorem bs_head (p : ByteArray) (t : Int) (n : Nat) : bs (objHead p t n) = bs objW ++ (bs p ++ ((32 :: []) ++ (numL t.toNat ++ ((32 :: []) ++ (numL n ++ (10 :: [])))))) := by
  unfold objHead
  simp only [bs_append, bs_num, List.append_assoc]
  rfl
theorem bs_objT (p : ByteArray) (ys : List ByteArray) (st : Int) (fs : List (ByteArray × ByteArray)) (b : ByteArray) (t : Int) : bs (objT p ys st fs b t) = bs objW ++ (bs p ++ ((32 :: []) ++ (numL t.toNat ++ ((32 :: []) ++ (numL ys.length ++ ((10 :: []) ++ (lnL ys ++ bs (respT st fs b)))))))) := by
  unfold objT
  rw [bs_append, bs_valsTo _ _ _ (Nat.le_refl _), bs_head, List.take_length]
  simp only [List.append_assoc]
theorem path_no {p : ByteArray} (h : PathOk p) : ∀ b ∈ bs p, b ≠ 32 ∧ b ≠ 10 := fun x hx => by
  have := bs_all h.1 x hx
  unfold PathB at this
  constructor
  · intro e; subst e; simp at this
  · intro e; subst e; simp at this
theorem num_no (n : Nat) (h : n ≤ 1000000) : ∀ b ∈ numL n, b ≠ 32 ∧ b ≠ 10 := fun x hx => by
  have := (numL_dig n h).2 x hx
  unfold DigB at this
  constructor
  · intro e; subst e; simp at this
  · intro e; subst e; simp at this
theorem val_no {y : ByteArray} (h : ValOk y) : ∀ b ∈ bs y, b ≠ 10 := fun x hx e => by
  have := bs_all h.2.2.1 x hx
  subst e
  unfold ValB at this
  simp at this

/-- The first k lines of a text, and what is behind them. -/
def lnTo (x : ByteArray) : Nat → List ByteArray × ByteArray
  | 0 => ([], x)
  | k + 1 => ((lnTo x k).1 ++ [cutA (lnTo x k).2 nlE], cutB (lnTo x k).2 nlE)
theorem lnTo_size (x : ByteArray) : ∀ k, (lnTo x k).1.length = k ∧ (lnTo x k).2.size ≤ x.size ∧ ∀ y ∈ (lnTo x k).1, y.size ≤ x.size
  | 0 => ⟨rfl, Nat.le_refl _, fun y hy => by simp [lnTo] at hy⟩
  | k + 1 => by
    obtain ⟨h1, h2, h3⟩ := lnTo_size x k
    refine ⟨by simp [lnTo, h1], Nat.le_trans (cutB_size _ _) h2, fun y hy => ?_⟩
    rw [lnTo] at hy
    rcases List.mem_append.1 hy with hy | hy
    · exact h3 y hy
    · rw [List.mem_singleton.1 hy]
      exact Nat.le_trans (cutA_size _ _) h2
theorem lines_read {x : ByteArray} {ys : List ByteArray} {rest : List UInt8} (hx : bs x = lnL ys ++ rest) (hy : ∀ y ∈ ys, ∀ b ∈ bs y, b ≠ 10) : ∀ k, k ≤ ys.length → (lnTo x k).1 = ys.take k ∧ bs (lnTo x k).2 = lnL (ys.drop k) ++ rest
  | 0, _ => by simp [lnTo, hx]
  | k + 1, hk => by
    obtain ⟨h1, h2⟩ := lines_read hx hy k (by omega)
    have hlt : k < ys.length := by omega
    have e : ys.drop k = textAt ys k :: ys.drop (k + 1) := by
      rw [List.drop_eq_getElem_cons hlt]
      congr 1
      unfold textAt
      rw [List.getD_eq_getElem?_getD, List.getElem?_eq_getElem hlt]
      rfl
    have h3 : bs (lnTo x k).2 = bs (textAt ys k) ++ ((10 :: []) ++ (lnL (ys.drop (k + 1)) ++ rest)) := by
      rw [h2, e]
      simp [lnL]
    have hc := cut_of (sep := nlE) h3 rfl (hy _ (textAt_mem ys k hlt))
    refine ⟨?_, hc.2⟩
    rw [lnTo, h1, take_textAt ys k hlt]
    exact congrArg (fun z => ys.take k ++ [z]) (bs_inj hc.1)

def objP1 (s : ByteArray) : ByteArray := cutB (trimP s objW) blE
def objP2 (s : ByteArray) : ByteArray := cutB (objP1 s) blE
def objP3 (s : ByteArray) : ByteArray := cutB (objP2 s) nlE
theorem objP1_size (s : ByteArray) : (objP1 s).size ≤ s.size := Nat.le_trans (cutB_size _ _) (trimP_size _ _)
theorem objP2_size (s : ByteArray) : (objP2 s).size ≤ s.size := Nat.le_trans (cutB_size _ _) (objP1_size s)
theorem objP3_size (s : ByteArray) : (objP3 s).size ≤ s.size := Nat.le_trans (cutB_size _ _) (objP2_size s)
theorem obj_read {s p : ByteArray} {ys : List ByteArray} {st : Int} {fs : List (ByteArray × ByteArray)} {b : ByteArray} {t : Int} (h : IsObj s p ys st fs b t) :
    cutA (trimP s objW) blE = p ∧ cutA (objP1 s) blE = numText t.toNat ∧ cutA (objP2 s) nlE = numText ys.length ∧ (lnTo (objP3 s) ys.length).1 = ys ∧ (lnTo (objP3 s) ys.length).2 = respT st fs b ∧ ys.length ≤ 4 := by
  obtain ⟨⟨hr, hp, ht, hnm, _, hl, hv⟩, rfl⟩ := h
  have h4 : ys.length ≤ 4 := by rw [hl]; exact hnm.2
  have e0 := bs_objT p ys st fs b t
  have k0 := trim_of (p := objW) e0
  have k1 := cut_of (sep := blE) k0 rfl (fun x hx => (path_no hp x hx).1)
  have k2 := cut_of (sep := blE) k1.2 rfl (fun x hx => (num_no t.toNat (by omega) x hx).1)
  have k3 := cut_of (sep := nlE) k2.2 rfl (fun x hx => (num_no ys.length (by omega) x hx).2)
  have k4 := lines_read (x := objP3 (objT p ys st fs b t)) k3.2 (fun y hy => val_no (hv y hy)) ys.length (Nat.le_refl _)
  refine ⟨bs_inj k1.1, bs_inj (by rw [bs_num]; exact k2.1), bs_inj (by rw [bs_num]; exact k3.1), ?_, bs_inj ?_, h4⟩
  · rw [k4.1, List.take_length]
  · rw [k4.2, List.drop_length]; rfl
theorem num_inj {a b : Nat} (ha : a ≤ 1000000) (hb : b ≤ 1000000) (h : numText a = numText b) : a = b := by
  have h1 := congrArg bs h
  rw [bs_num, bs_num] at h1
  rw [← numL_val a ha, ← numL_val b hb, h1]
theorem IsObj.uniq {s p p' : ByteArray} {ys ys' : List ByteArray} {st st' : Int} {fs fs' : List (ByteArray × ByteArray)} {b b' : ByteArray} {t t' : Int} (h : IsObj s p ys st fs b t) (h' : IsObj s p' ys' st' fs' b' t') : p = p' ∧ ys = ys' ∧ st = st' ∧ fs = fs' ∧ b = b' ∧ t = t' := by
  obtain ⟨a1, a2, a3, a4, a5, a6⟩ := obj_read h
  obtain ⟨c1, c2, c3, c4, c5, c6⟩ := obj_read h'
  have ht := h.1.2.2.1
  have ht' := h'.1.2.2.1
  have e2 := num_inj (by omega) (by omega) (a2.symm.trans c2)
  have e3 := num_inj (by omega) (by omega) (a3.symm.trans c3)
  rw [e3] at a4 a5
  have e5 := a5.symm.trans c5
  obtain ⟨q1, q2, q3⟩ := IsResp.uniq (s := respT st fs b) ⟨h.1.1, rfl⟩ ⟨h'.1.1, e5.symm⟩
  exact ⟨a1.symm.trans c1, a4.symm.trans c4, q1, q2, q3, by omega⟩

/-- A line that ends in a byte 10, found from a place on. -/
def LineAt (s : ByteArray) (f i : Nat) : Prop := ∃ h : i < s.size, f ≤ i ∧ (s[i]'h).toNat = 10 ∧ ∀ j (hj : j < i), f ≤ j → (s[j]'(by omega)).toNat ≠ 10
theorem bs_get {s : ByteArray} {j : Nat} (h : j < s.size) : (bs s)[j]? = some (s[j]'h) := by
  rw [List.getElem?_eq_getElem (by rw [bs_len]; exact h), bs_at s j h]
theorem line_of {s : ByteArray} {pre l rest : List UInt8} {f i : Nat} (hs : bs s = pre ++ (l ++ 10 :: rest)) (hf : pre.length = f) (hl : ∀ b ∈ l, b ≠ 10) (h : LineAt s f i) : i = f + l.length ∧ bs (s.extract f i) = l := by
  obtain ⟨hi, h1, h2, h3⟩ := h
  have key : i = f + l.length := by
    rcases Nat.lt_trichotomy i (f + l.length) with hlt | he | hgt
    · exfalso
      have e := bs_get hi
      rw [hs, List.getElem?_append_right (by omega), List.getElem?_append_left (by omega)] at e
      have hm := List.mem_of_getElem? e
      apply hl _ hm
      exact UInt8.toNat_inj.1 h2
    · exact he
    · exfalso
      have hj : f + l.length < s.size := by omega
      have e := bs_get hj
      rw [hs, List.getElem?_append_right (by omega), List.getElem?_append_right (by omega), show f + l.length - pre.length - l.length = 0 by omega] at e
      simp only [List.getElem?_cons_zero, Option.some.injEq] at e
      exact h3 (f + l.length) hgt (by omega) (by rw [← e]; rfl)
  refine ⟨key, ?_⟩
  subst hf
  rw [bs_extract, hs, key, List.take_length_add_append, List.drop_left, List.take_left]
theorem line_some {s : ByteArray} {pre l rest : List UInt8} {f : Nat} (hs : bs s = pre ++ (l ++ 10 :: rest)) (hf : pre.length = f) (h : ∀ j (hj : j < s.size), f ≤ j → (s[j]'hj).toNat ≠ 10) : False := by
  have hz := congrArg List.length hs
  rw [bs_len] at hz
  simp at hz
  have hj : f + l.length < s.size := by omega
  have e := bs_get hj
  rw [hs, List.getElem?_append_right (by omega), List.getElem?_append_right (by omega), show f + l.length - pre.length - l.length = 0 by omega] at e
  simp only [List.getElem?_cons_zero, Option.some.injEq] at e
  exact h (f + l.length) hj (by omega) (by rw [← e]; rfl)
def objL : List UInt8 := [111, 98, 106]
/-- The first line's bytes. -/
def objLine (p : ByteArray) (t : Int) (n : Nat) : List UInt8 := objL ++ 32 :: (bs p ++ 32 :: (numL t.toNat ++ 32 :: numL n))
theorem obj_first {s p : ByteArray} {ys : List ByteArray} {st : Int} {fs : List (ByteArray × ByteArray)} {b : ByteArray} {t : Int} (h : IsObj s p ys st fs b t) :
    bs s = [] ++ (objLine p t ys.length ++ 10 :: (lnL ys ++ bs (respT st fs b))) ∧ (∀ b ∈ objLine p t ys.length, b ≠ 10) ∧ wordsL [] [] (objLine p t ys.length) = [objL, bs p, numL t.toNat, numL ys.length] ∧ (objLine p t ys.length).length + 1 = (objHead p t ys.length).size := by
  obtain ⟨⟨hr, hp, ht, hnm, _, hl, hv⟩, rfl⟩ := h
  have h4 : ys.length ≤ 4 := by rw [hl]; exact hnm.2
  have n1 := num_no t.toNat (by omega)
  have n2 := num_no ys.length (by omega)
  refine ⟨?_, ?_, ?_, ?_⟩
  · rw [bs_objT]
    simp [objLine, objL, objW, bs]
  · intro x hx
    unfold objLine at hx
    simp only [List.mem_append, List.mem_cons] at hx
    rcases hx with hx | hx | hx | hx | hx | hx | hx
    · simp [objL] at hx; rcases hx with rfl | rfl | rfl <;> decide
    · subst hx; decide
    · exact (path_no hp x hx).2
    · subst hx; decide
    · exact (n1 x hx).2
    · subst hx; decide
    · exact (n2 x hx).2
  · unfold objLine
    rw [words_word _ _ (by unfold objL; decide), words_word _ _ (fun x hx => (path_no hp x hx).1), words_word _ _ (fun x hx => (n1 x hx).1), words_last _ (fun x hx => (n2 x hx).1)]
    rfl
  · rw [← bs_len, bs_head]
    simp [objLine, objL, objW, bs]
    omega
/-- Where the k-th value's line begins. -/
theorem obj_line {s p : ByteArray} {ys : List ByteArray} {st : Int} {fs : List (ByteArray × ByteArray)} {b : ByteArray} {t : Int} (h : IsObj s p ys st fs b t) (k : Nat) (hk : k < ys.length) :
    ∃ rest, bs s = bs (valsTo (objHead p t ys.length) ys k) ++ (bs (textAt ys k) ++ 10 :: rest) := by
  have e : ys.drop k = textAt ys k :: ys.drop (k + 1) := by
    rw [List.drop_eq_getElem_cons hk]
    congr 1
    unfold textAt
    rw [List.getD_eq_getElem?_getD, List.getElem?_eq_getElem hk]
    rfl
  have e2 : lnL ys = lnL (ys.take k) ++ (bs (textAt ys k) ++ 10 :: lnL (ys.drop (k + 1))) := by
    conv => lhs; rw [← List.take_append_drop k ys, e]
    simp [lnL]
  refine ⟨lnL (ys.drop (k + 1)) ++ bs (respT st fs b), ?_⟩
  rw [← h.2, bs_objT, bs_valsTo _ _ _ (by omega), bs_head, e2]
  simp only [List.append_assoc, List.cons_append, List.nil_append]
theorem obj_tail {s p : ByteArray} {ys : List ByteArray} {st : Int} {fs : List (ByteArray × ByteArray)} {b : ByteArray} {t : Int} (h : IsObj s p ys st fs b t) :
    s.extract (valsTo (objHead p t ys.length) ys ys.length).size s.size = respT st fs b := by
  apply bs_inj
  rw [bs_extract, ← bs_len s, List.take_length, ← h.2]
  unfold objT
  rw [bs_append, ← bs_len]
  simp

theorem vals_small {p : ByteArray} {xs ys : List ByteArray} {st : Int} {fs : List (ByteArray × ByteArray)} {b : ByteArray} {t : Int} (h : ObjP p xs ys st fs b t) : ∀ k, k ≤ ys.length → (valsTo (objHead p t ys.length) ys k).size ≤ 100 + 61 * k
  | 0, _ => by
    have h1 := h.2.1.2.2.1
    have h2 := numText_size t.toNat
    have h3 := numText_size ys.length
    have e1 : objW.size = 4 := rfl
    have e2 : (⟨#[32]⟩ : ByteArray).size = 1 := rfl
    have e3 : (⟨#[10]⟩ : ByteArray).size = 1 := rfl
    unfold valsTo objHead
    simp only [ByteArray.size_append]
    omega
  | k + 1, hk => by
    have h1 := vals_small h k (by omega)
    have h2 := (h.2.2.2.2.2.2 _ (textAt_mem ys k (by omega))).2.1
    have e3 : (⟨#[10]⟩ : ByteArray).size = 1 := rfl
    rw [valsTo]
    simp only [ByteArray.size_append]
    omega
theorem resp_small {st : Int} {fs : List (ByteArray × ByteArray)} {b : ByteArray} (h : RespP st fs b) : (respT st fs b).size ≤ 1000 := by
  have h1 := ft_small h.2.1
  have h2 := numText_size st.toNat
  have h3 := numText_size b.size
  have h4 := h.2.2
  have e1 : httpAhead.size = 9 := rfl
  have e2 : dotEnd.size = 4 := rfl
  have e3 : clenK.size = 16 := rfl
  have e4 : lnE2.size = 4 := rfl
  unfold respT
  simp only [ByteArray.size_append]
  omega
theorem numTextI_of {t : Int} (h : 0 ≤ t) : numTextI t = numText t.toNat := by unfold numTextI; rw [if_neg (by omega)]

end Go.Proofs.YtdlhicdfldecgaaGreatDoor

namespace Go.Proofs.YtdlhicdfldecgaaGreatDoor
open Go.RowKit
open Go.Lib hiding intOf

set_option maxHeartbeats 1000000 in
theorem l9Names_any (oa : Option Addr) (m cm : Nat) (xs : List ByteArray) (w : World) (hx : TextsA w oa m xs) (hm : m ≤ 2000000) (hsz : ∀ i, i < m → (textAt xs i).size ≤ maxLen) :
    Calls Tryz.prog 81 #[.slice oa m cm] w fun e w' => BoolIs (NamesP xs) w e w' := by
  have HX : Hid (∀ W, Below w.heap.size w W → TextsA W oa m xs) := fun W h => hx.below h
  have HL : Hid (xs.length = m) := hx.1
  have HS : Hid (∀ i, i < m → (textAt xs i).size ≤ maxLen) := hsz
  clear hx hsz
  go_enter Tryz.func81, Tryz.ntmps81
  go_wp2_with fail
  go_loopw [3] (fun i wr => ∃ j : Nat, j ≤ m ∧ i = .int .i64 (j : Int) ∧ Below w.heap.size w wr ∧ Hid (∀ x ∈ xs.take j, TokOk x)) (fun i _ => m - (intOf i).toNat)
  case atStart => exact ⟨0, Nat.zero_le _, rfl, Below.refl _ _, fun x hx => by simp at hx⟩
  case round =>
    obtain ⟨j, hj, rfl, hbw, HN⟩ := hrel
    by_cases hlt : (j : Int) < (m : Int)
    · have hjx : j < xs.length := by rw [HL.out]; omega
      obtain ⟨g, rfl, hg, hc⟩ := (HX.out wr hbw).2 j (by omega)
      have hs := HS.out j (by omega)
      obtain ⟨x, hxx⟩ : ∃ x, x = textAt xs j := ⟨_, rfl⟩
      rw [← hxx] at hc hs
      have HM : Hid (x ∈ xs) := by show _ ∈ _; rw [hxx]; exact textAt_mem xs j hjx
      have HT : Hid (xs.take (j + 1) = xs.take j ++ [x]) := by show _ = _; rw [take_textAt xs j hjx, hxx]
      clear hxx hjx
      go_wp2_with fail
      refine (specTokenOk_any x _ hs).mono ?_
      rintro e w1 ⟨t, rfl, ht, b1⟩
      have hb1 : Below w.heap.size w w1 := hbw.trans (b1.mono hbw.size)
      clear b1 hbw hc
      cases t with
      | false =>
        have HF : Hid (¬ NamesP xs) := fun h => nomatch ht.2 (h.1 x HM.out)
        clear ht HN
        go_wp2_with fail
        go_ret
        exact BoolIs.no HF.out hb1
      | true =>
        have HN2 : Hid (∀ y ∈ xs.take (j + 1), TokOk y) := by
          intro y hy
          rw [HT.out] at hy
          rcases List.mem_append.1 hy with hy | hy
          · exact HN.out y hy
          · rw [List.mem_singleton.1 hy]; exact ht.1 rfl
        clear ht HN
        go_wp2_with fail
        go_roundw
        case rel => exact ⟨j + 1, by omega, by go_num, hb1, HN2⟩
        case measure => simp [intOf]; omega
    · have HA : Hid (∀ x ∈ xs, TokOk x) := by
        have h := HN.out
        rw [List.take_of_length_le (by rw [HL.out]; omega)] at h
        exact h
      have HQ : Hid (((m : Int) ≤ 4) ↔ NamesP xs) := ⟨fun h => ⟨HA.out, by rw [HL.out]; omega⟩, fun h => by have := h.2; rw [HL.out] at this; omega⟩
      clear HN
      go_wp2_with fail
      go_ret
      exact ⟨decide ((m : Int) ≤ 4), rfl, by rw [decide_eq_true_iff]; exact HQ.out, hbw⟩

end Go.Proofs.YtdlhicdfldecgaaGreatDoor

namespace Go.Proofs.YtdlhicdfldecgaaGreatDoor
open Go.RowKit
open Go.Lib hiding intOf

/-- A call on the cursor answers a field of short texts, and turns the cursor alone of what was there. -/
def FieldDrawn (w : World) (c : Nat) (a : Option Addr) (len cap : Nat) (e : Ending) (w' : World) : Prop :=
  ∃ nm vl : ByteArray, e = .returned (.agg #[.string nm, .string vl]) ∧ nm.size ≤ 64 ∧ vl.size ≤ 64 ∧ CurAt w' c a len cap ∧ w.grownBy w' (some c)

/-- The two cells of a field's memory, written. -/
def twoSet (w : World) (r : Nat) (nm vl : ByteArray) : World := (w.setCell ⟨r, 0, none⟩ (.string nm)).setCell ⟨r, 1, none⟩ (.string vl)
theorem twoSet_heap {w : World} {r : Nat} (nm vl : ByteArray) (h : w.heap[r]? = some (.cells #[.string ⟨#[]⟩, .string ⟨#[]⟩] 131)) : (twoSet w r nm vl).heap[r]? = some (.cells #[.string nm, .string vl] 131) := by
  have := heap_set _ r 1 _ _ _ (.string vl) (heap_set w r 0 _ _ _ (.string nm) h)
  simpa [twoSet] using this
theorem twoSet_grown (w : World) (r : Nat) (nm vl : ByteArray) : w.grownBy (twoSet w r nm vl) (some r) :=
  ⟨rfl, rfl, rfl, by simp [twoSet], fun k _ hk => by
    have hne : k ≠ r := fun e => hk (by rw [e])
    unfold twoSet
    rw [heap_setCell_other _ _ k _ (fun e => hne e), heap_setCell_other _ _ k _ (fun e => hne e)]⟩
theorem FieldDrawn.of {w w2 : World} {c r : Nat} {a : Option Addr} {len cap : Nat} {nm vl : ByteArray} (h1 : nm.size ≤ 64) (h2 : vl.size ≤ 64) (hcu : CurAt w2 c a len cap) (hg : w.grownBy w2 (some c)) (hrc : r ≠ c) (hrw : w.heap.size ≤ r) : FieldDrawn w c a len cap (.returned (.agg #[.string nm, .string vl])) (twoSet w2 r nm vl) :=
  ⟨nm, vl, rfl, h1, h2, hcu.grown (twoSet_grown w2 r nm vl) (fun e => hrc (Option.some.inj e)), grown_later hg (twoSet_grown w2 r nm vl) (fun g e => by cases e; exact hrw)⟩

end Go.Proofs.YtdlhicdfldecgaaGreatDoor

namespace Go.Proofs.YtdlhicdfldecgaaGreatDoor
open Go.RowKit
open Go.Lib hiding intOf

set_option maxHeartbeats 1000000 in
theorem place_any (v : Value) (n base : Nat) (fs : List (ByteArray × ByteArray)) (name : ByteArray) (w : World) (hv : FieldsV w base v n fs) (hn : n ≤ 1073741824) :
    Calls Tryz.prog 133 #[v, .string name] w fun e w' => e = .returned (.int .i64 (atF fs name : Int)) ∧ w' = w := by
  have hl := hv.len
  obtain ⟨oa, cap, rfl, hrow⟩ := hv.slice
  clear hv
  go_enter Tryz.func133, Tryz.ntmps133
  go_wp2
  go_loop [8] (fun i => ∃ k : Nat, k ≤ n ∧ i = .int .i64 (k : Int) ∧ Hid (∀ j, j < k → nameAt fs j ≠ name)) (fun i => n - (intOf i).toNat)
  case atStart => exact ⟨0, Nat.zero_le _, rfl, fun j h => absurd h (by omega)⟩
  case round =>
    obtain ⟨k, hk, rfl, hb⟩ := hrel
    by_cases hlt : k < n
    · obtain ⟨g, rfl, row⟩ := hrow k hlt
      have hc := row.name k hlt
      have hlt2 : (k : Int) < (n : Int) := by omega
      clear hrow row
      by_cases he : nameAt fs k = name
      · have hT : Hid (atF fs name = k) := atF_uniq (by omega) hb.out he
        have ht : ((nameAt fs k).toList == name.toList) = true := (text_beq _ _).2 he
        clear he
        go_wp2
        go_ret
        exact ⟨by rw [hT.out]; rfl, rfl⟩
      · have ht := text_beq_no he
        have HE : Hid (nameAt fs k ≠ name) := he
        clear he
        go_wp2
        go_round
        case rel =>
          refine ⟨k + 1, by omega, by go_num, ?_⟩
          intro j hj
          by_cases e : j = k
          · subst e; exact HE.out
          · exact hb.out j (by omega)
        case measure => simp [intOf]; omega
    · have hT : Hid (atF fs name = n) := by
        have := atF_none (fs := fs) (name := name) (fun j hj => hb.out j (by omega))
        show _ = _
        omega
      clear hrow
      go_wp2
      go_ret
      exact ⟨by rw [hT.out]; rfl, rfl⟩

set_option maxHeartbeats 1000000 in
theorem newField_any (nm vl : ByteArray) (w : World) (h1 : nm.size ≤ 281474976710656) (h2 : vl.size ≤ 281474976710656) :
    Calls Tryz.prog 144 #[.string nm, .string vl] w fun e w' => e = .returned (.agg #[.string nm, .string vl]) ∧ Below w.heap.size w w' := by
  go_enter Tryz.func144, Tryz.ntmps144
  go_wp2_with fail
  refine (clone_any nm _ h1).mono ?_
  rintro e w1 ⟨rfl, hb1⟩
  go_wp2_with fail
  refine (clone_any vl _ h2).mono ?_
  rintro e w2 ⟨rfl, hb2⟩
  obtain ⟨r, hr⟩ : ∃ r, r = w.heap.size := ⟨_, rfl⟩
  have h0 : (w.alloc (.cells #[.string ⟨#[]⟩, .string ⟨#[]⟩] 131)).heap.size = w.heap.size + 1 := by simp
  have hb : Below w.heap.size w w2 := ((Below.refl _ w).alloc (Nat.le_refl _) _).trans ((hb1.trans (hb2.mono hb1.size)).mono (by omega))
  have hre2 : w2.heap[r]? = some (.cells #[.string ⟨#[]⟩, .string ⟨#[]⟩] 131) := by
    rw [hr, (hb1.trans (hb2.mono hb1.size)).block _ (by omega)]; exact heap_alloc_new w _
  have hc0 : w2.cell? ⟨r, 0, none⟩ = some (.string ⟨#[]⟩) := by simp [World.cell?, hre2]
  have hc1 : w2.cell? ⟨r, 1, none⟩ = some (.string ⟨#[]⟩) := by simp [World.cell?, hre2]
  have hf0 : w2.frozen? ⟨r, 0, none⟩ = false := by simp [World.frozen?, hre2]
  have hf1 : w2.frozen? ⟨r, 1, none⟩ = false := by simp [World.frozen?, hre2]
  have hre3 := twoSet_heap nm vl hre2
  have k0 : (twoSet w2 r nm vl).cell? ⟨r, 0, none⟩ = some (.string nm) := by simp [World.cell?, hre3]
  have k1 : (twoSet w2 r nm vl).cell? ⟨r, 1, none⟩ = some (.string vl) := by simp [World.cell?, hre3]
  have hb3 : Below w.heap.size w (twoSet w2 r nm vl) := (hb.setCell (p := ⟨r, 0, none⟩) (by simp [hr]) _).setCell (p := ⟨r, 1, none⟩) (by simp [hr]) _
  have HB3 : Hid (Below w.heap.size w (twoSet w2 r nm vl)) := hb3
  rw [← hr]
  unfold twoSet at k0 k1
  clear hre3 hre2 hb hb3 hb1 hb2 hr h0
  go_wp2
  exact bodyPost_ret (v := .agg #[.string nm, .string vl]) (by simp [results, Tryz.results144, go_sem, k0, k1]) rfl ⟨rfl, HB3.out⟩

/-- Every text of the fields is short enough to be copied. -/
def CopyF (fs : List (ByteArray × ByteArray)) : Prop := ∀ i, i < fs.length → (nameAt fs i).size ≤ 281474976710656 ∧ (valAt fs i).size ≤ 281474976710656

set_option maxHeartbeats 1000000 in
theorem implGet_any (v : Value) (n base : Nat) (fs : List (ByteArray × ByteArray)) (name : ByteArray) (w : World) (hv : FieldsV w base v n fs) (hn : n ≤ 1073741824) (hsz : CopyF fs) :
    Calls Tryz.prog 88 #[v, .string name] w fun e w' => e = .returned (.tuple #[.string (getV fs name), .bool (getB fs name)]) ∧ Below w.heap.size w w' := by
  have hl := hv.len
  have hv0 := hv
  obtain ⟨oa, cap, rfl, hrow⟩ := hv0.slice
  clear hv0
  obtain ⟨k, hk⟩ : ∃ k, k = atF fs name := ⟨_, rfl⟩
  have hle := atF_le fs name
  by_cases hin : atF fs name < fs.length
  · have hV : Hid (getV fs name = valAt fs k) := by show _ = _; unfold getV; rw [if_pos hin, hk]
    have hB : Hid (getB fs name = true) := by show _ = _; unfold getB; simpa using hin
    obtain ⟨g, rfl, row⟩ := hrow k (by omega)
    have hc := row.val k (by omega)
    have hlt : (k : Int) < (n : Int) := by omega
    have hne : ((k : Int) == (n : Int)) = false := by rw [beq_eq_false_iff_ne]; omega
    obtain ⟨_, hz⟩ := hsz k (by omega)
    obtain ⟨vl, hvl⟩ : ∃ y, y = valAt fs k := ⟨_, rfl⟩
    rw [← hvl] at hV hc hz
    go_enter Tryz.func88, Tryz.ntmps88
    go_wp2_with fail
    refine (place_any _ n base fs name _ hv hn).mono ?_
    rintro e w1 ⟨rfl, rfl⟩
    rw [← hk]
    clear hv hrow row hk hvl hle hin hsz
    go_wp2_with fail
    refine (clone_any vl _ hz).mono ?_
    rintro e w2 ⟨rfl, hb2⟩
    go_wp2
    go_ret2
    exact ⟨by rw [hV.out, hB.out]; rfl, hb2⟩
  · have hV : Hid (getV fs name = ⟨#[]⟩) := by show _ = _; unfold getV; rw [if_neg hin]
    have hB : Hid (getB fs name = false) := by show _ = _; unfold getB; simpa using hin
    have hkn : k = n := by omega
    go_enter Tryz.func88, Tryz.ntmps88
    go_wp2_with fail
    refine (place_any _ n base fs name _ hv hn).mono ?_
    rintro e w1 ⟨rfl, rfl⟩
    rw [← hk, hkn]
    clear hv hrow hk hle hin hsz hkn
    go_wp2
    go_ret2
    exact ⟨by rw [hV.out, hB.out]; rfl, Below.refl _ _⟩

end Go.Proofs.YtdlhicdfldecgaaGreatDoor

namespace Go.Proofs.YtdlhicdfldecgaaGreatDoor
open Go.RowKit
open Go.Lib hiding intOf

/-- 'wpAnyH_take', its place named. -/
theorem wpAnyH_takeD {P : Program} {ops : Array Oper} {Q : Exit → Act → World → Prop} {md : Region.Mode} {S : World → Prop} {i : Nat} {oi : Oper} {v : Value} {fuel : Nat} {listed : Array Bool} {a : Act} {w : World} (d : Option Tmp) (hi : ops[i]? = some oi) (hd : oi.dst = d)
    (hs : Region.noSelect ops = true) (hf : Region.free md ops listed i = true) (hr : (Region.ready md ops listed).contains i = true)
    (hQ : ∀ c a w, Q (.panic c) (a.put oi.dst v) w → Q (.panic c) a w) (hy : YieldsIf P ops S oi v a) (hS : S w)
    (h : wpAnyH P md ops Q S fuel (listed.setIfInBounds i true) (a.put d v) w) : wpAnyH P md ops Q S (fuel + 1) listed a w :=
  wpAnyH_take hi hs hf hr hQ hy hS (hd ▸ h)
end Go.Proofs.YtdlhicdfldecgaaGreatDoor
