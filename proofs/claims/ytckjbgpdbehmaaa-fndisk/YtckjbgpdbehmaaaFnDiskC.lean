/- What the proof of FnDisk leans on: contracts of the program's and the specification's functions, and plain facts (part 3 of 5). -/
import Derived.Test.YtckjbgpdbehmaaaFnDiskB
namespace Go.Proofs.Ytckjbgpdbehmaaa
open Go.RowKit
open Go.Lib hiding intOf

/-- A right disk of short texts. -/
def RightD (cs : List ByteArray) (ws : List (Int × ByteArray)) : Prop := DiskP cs ws ∧ (∀ x ∈ cs, x.size ≤ 64) ∧ ∀ x ∈ ws, (x.2).size ≤ 64
theorem right_new : RightD newC [] := by
  refine ⟨⟨rfl, by decide, fun x hx => by simp at hx⟩, fun x hx => ?_, fun x hx => by simp at hx⟩
  rw [List.eq_of_mem_replicate hx]
  decide
theorem right_put {cs : List ByteArray} {ws : List (Int × ByteArray)} (h : RightD cs ws) (x : Int) {t : ByteArray} (ht : t.size ≤ 64) : RightD (putC cs ws) (putW cs ws x t) := by
  have e := (diskB_iff cs ws).2 h.1
  have e1 : putC cs ws = cs := by unfold putC; rw [if_pos e]
  rw [e1]
  unfold putW
  split
  · rename_i hb
    have hb2 := hb
    unfold putB at hb2
    rw [Bool.and_eq_true, Bool.and_eq_true, decide_eq_true_iff, cellB_iff] at hb2
    refine ⟨put_right h.1 hb2.2.1 (x, t) hb2.2.2.1 hb2.2.2.2, h.2.1, fun y hy => ?_⟩
    rcases List.mem_append.1 hy with hy | hy
    · exact h.2.2 y hy
    · rw [List.mem_singleton.1 hy]; exact ht
  · first | exact h | (rw [if_pos e]; exact h)
theorem right_land {cs : List ByteArray} {ws : List (Int × ByteArray)} (h : RightD cs ws) (f : Nat → Bool) : RightD (landC cs ws f) [] := by
  rw [landC_yes h.1]
  refine ⟨landed_right h.1 f _, ?_, fun x hx => by simp at hx⟩
  have key : ∀ k, k ≤ ws.length → ∀ x ∈ landTo cs ws f k, x.size ≤ 64 := by
    intro k
    induction k with
    | zero => intro _; exact h.2.1
    | succ k ih =>
      intro hk x hx
      rw [landTo] at hx
      split at hx
      · rcases List.mem_or_eq_of_mem_set hx with hx | hx
        · exact ih (by omega) x hx
        · rw [hx]; exact h.2.2 _ (writeAt_mem ws k (by omega))
      · exact ih (by omega) x hx
  exact key _ (Nat.le_refl _)
/-- A call answers a right disk of its own. -/
def RightIs (w : World) (e : Ending) (w' : World) : Prop :=
  ∃ v1 v2 cs ws, e = .returned (.agg #[v1, v2]) ∧ DiskO w' w.heap.size v1 cs.length cs v2 ws.length ws ∧ RightD cs ws ∧ Below w.heap.size w w'
def RightIsB (w : World) (e : Ending) (w' : World) : Prop :=
  ∃ v1 v2 cs ws ob, e = .returned (.tuple #[.agg #[v1, v2], .bool ob]) ∧ DiskO w' w.heap.size v1 cs.length cs v2 ws.length ws ∧ RightD cs ws ∧ Below w.heap.size w w'
theorem specNew_right (w : World) : Calls Try.prog 31 #[] w fun e w' => RightIs w e w' :=
  (specDiskNew_any w).mono fun _ _ ⟨v1, v2, h1, h2, h3⟩ => ⟨v1, v2, _, _, h1, h2, right_new, h3⟩
theorem specPut_right (v1 v2 : Value) (cs : List ByteArray) (ws : List (Int × ByteArray)) (B : Nat) (w : World) (h : DiskO w B v1 cs.length cs v2 ws.length ws) (hr : RightD cs ws) (x : Int) (t : ByteArray) (ht : t.size ≤ 64) :
    Calls Try.prog 22 #[.agg #[v1, v2], .int .i64 x, .string t] w fun e w' => RightIsB w e w' :=
  (specDiskPut_any v1 v2 cs.length cs ws.length ws B w h (by have := hr.1.1; omega) (by have := hr.1.2.1; omega) x t).mono fun _ _ ⟨v1, v2, h1, h2, h3⟩ => ⟨v1, v2, _, _, _, h1, h2, right_put hr x ht, h3⟩
theorem specFlush_right (v1 v2 : Value) (cs : List ByteArray) (ws : List (Int × ByteArray)) (B : Nat) (w : World) (h : DiskO w B v1 cs.length cs v2 ws.length ws) (hr : RightD cs ws) :
    Calls Try.prog 26 #[.agg #[v1, v2]] w fun e w' => RightIs w e w' :=
  (specFlush_any v1 v2 cs.length cs ws.length ws B w h (by have := hr.1.1; omega) (by have := hr.1.2.1; omega)).mono fun _ _ ⟨v1, v2, h1, h2, h3⟩ => ⟨v1, v2, _, _, h1, h2, right_land hr _, h3⟩

end Go.Proofs.Ytckjbgpdbehmaaa

namespace Go.Proofs.Ytckjbgpdbehmaaa
open Go.RowKit
open Go.Lib hiding intOf

/-- A disk as it is drawn: it has twenty cells; or another number of them, which are only measured. -/
def AnyD (W : World) (B : Nat) (v1 v2 : Value) (cs : List ByteArray) (ws : List (Int × ByteArray)) : Prop :=
  W.ownsRow B 67 2 v2 ws.length (flatWrite ws) ∧ ws.length ≤ 17 ∧ (∀ x ∈ ws, (x.2).size ≤ 1048576) ∧
    ((cs.length = 20 ∧ W.ownsRow B 9 1 v1 20 (cs.map Value.string) ∧ ∀ i, i < 20 → (textAt cs i).size ≤ 1048576) ∨ (cs = [] ∧ ∃ oo nn cc, ¬ nn = 20 ∧ v1 = .slice oo nn cc))
theorem AnyD.below {W W' : World} {B : Nat} {v1 v2 : Value} {cs : List ByteArray} {ws : List (Int × ByteArray)} (h : AnyD W B v1 v2 cs ws) (hb : Below W.heap.size W W') : AnyD W' B v1 v2 cs ws := by
  obtain ⟨h1, h2, h3, h4⟩ := h
  refine ⟨owns_below h1 hb (fun g hg => owns_lt h1 hg), h2, h3, ?_⟩
  rcases h4 with ⟨h5, h6, h7⟩ | h5
  · exact .inl ⟨h5, owns_below h6 hb (fun g hg => owns_lt h6 hg), h7⟩
  · exact .inr h5
theorem AnyD.wide {W : World} {B B' : Nat} {v1 v2 : Value} {cs : List ByteArray} {ws : List (Int × ByteArray)} (h : AnyD W B v1 v2 cs ws) (hB : B' ≤ B) : AnyD W B' v1 v2 cs ws := by
  obtain ⟨h1, h2, h3, h4⟩ := h
  refine ⟨owns_wide h1 hB, h2, h3, ?_⟩
  rcases h4 with ⟨h5, h6, h7⟩ | h5
  · exact .inl ⟨h5, owns_wide h6 hB, h7⟩
  · exact .inr h5
theorem AnyD.set {W : World} {B q : Nat} {v1 v2 x0 x1 y0 y1 : Value} {cs : List ByteArray} {ws : List (Int × ByteArray)} (h : AnyD W B v1 v2 cs ws) (hC : W.heap[q]? = some (.cells #[x0, x1] 27)) : AnyD ((W.setCell ⟨q, 0, none⟩ y0).setCell ⟨q, 1, none⟩ y1) B v1 v2 cs ws := by
  obtain ⟨h1, h2, h3, h4⟩ := h
  refine ⟨owns_same h1 (fun g hg => by
      have hne : g ≠ q := own_ne h1 hC (by decide) g hg
      rw [heap_setCell_other _ _ g _ hne, heap_setCell_other _ _ g _ hne]), h2, h3, ?_⟩
  rcases h4 with ⟨h5, h6, h7⟩ | h5
  · exact .inl ⟨h5, owns_same h6 (fun g hg => by
      have hne : g ≠ q := own_ne h6 hC (by decide) g hg
      rw [heap_setCell_other _ _ g _ hne, heap_setCell_other _ _ g _ hne]), h7⟩
  · exact .inr h5
theorem AnyD.forms {W : World} {B : Nat} {v1 v2 : Value} {cs : List ByteArray} {ws : List (Int × ByteArray)} (h : AnyD W B v1 v2 cs ws) : ∃ o1 n1 c1 o2 c2, v1 = .slice o1 n1 c1 ∧ v2 = .slice o2 ws.length c2 := by
  obtain ⟨h1, _, _, h4⟩ := h
  obtain ⟨o2, c2, e2⟩ := slice_of_owns h1
  rcases h4 with ⟨_, h6, _⟩ | ⟨_, oo, nn, cc, _, e⟩
  · obtain ⟨o1, c1, e1⟩ := slice_of_owns h6
    exact ⟨o1, 20, c1, o2, c2, e1, e2⟩
  · exact ⟨oo, nn, cc, o2, c2, e, e2⟩
theorem AnyD.right {cs : List ByteArray} {ws : List (Int × ByteArray)} (hc : cs = []) : ¬ DiskP cs ws := fun h => by
  have := h.1
  rw [hc] at this
  cases this
theorem implDiskOk_d (v1 v2 : Value) (cs : List ByteArray) (ws : List (Int × ByteArray)) (B : Nat) (w : World) (h : AnyD w B v1 v2 cs ws) :
    Calls Try.prog 16 #[.agg #[v1, v2]] w fun e w' => BoolIs (DiskP cs ws) w e w' := by
  obtain ⟨h1, h2, _, ⟨h5, h6, _⟩ | ⟨rfl, oo, nn, cc, hn, rfl⟩⟩ := h
  · exact implDiskOk_any v1 v2 20 cs ws.length ws B w ⟨h6, h1⟩ (by omega) (by omega)
  · refine (implDiskOk_len oo nn cc v2 ws.length ws B w h1 (by omega)).mono ?_
    rintro e w' ⟨b, rfl, hb, bw⟩
    exact ⟨b, rfl, ⟨fun e => absurd (hb.1 e).1 hn, fun hd => absurd hd (AnyD.right rfl)⟩, bw⟩
theorem implFlush_d (v1 v2 : Value) (cs : List ByteArray) (ws : List (Int × ByteArray)) (B : Nat) (w : World) (h : AnyD w B v1 v2 cs ws) :
    Calls Try.prog 18 #[.agg #[v1, v2]] w fun e w' => DiskIs (landC cs ws (fun _ => true)) [] w e w' := by
  obtain ⟨h1, h2, h3, ⟨h5, h6, h7⟩ | ⟨rfl, oo, nn, cc, hn, rfl⟩⟩ := h
  · exact implFlush_any v1 v2 20 cs ws.length ws B w ⟨h6, h1⟩ (by omega) (by omega) h7 h3
  · rw [landC_no (AnyD.right rfl)]; exact implFlush_no oo nn cc hn v2 ws.length ws B w h1 (by omega)
theorem implCrash_d (v1 v2 : Value) (cs : List ByteArray) (ws : List (Int × ByteArray)) (B : Nat) (w : World) (h : AnyD w B v1 v2 cs ws) (oK : Option Addr) (nK cK : Nat) (ks : List Bool) (hk : BoolA w oK nK ks) :
    Calls Try.prog 13 #[.agg #[v1, v2], .slice oK nK cK] w fun e w' => DiskIs (landC cs ws (keptB ks)) [] w e w' := by
  obtain ⟨h1, h2, h3, ⟨h5, h6, h7⟩ | ⟨rfl, oo, nn, cc, hn, rfl⟩⟩ := h
  · exact implCrash_any v1 v2 20 cs ws.length ws B w ⟨h6, h1⟩ (by omega) (by omega) h7 h3 oK nK cK ks hk
  · rw [landC_no (AnyD.right rfl)]; exact implCrash_no oo nn cc hn v2 ws.length ws B w h1 (by omega) _
theorem implDiskGet_d (v1 v2 : Value) (cs : List ByteArray) (ws : List (Int × ByteArray)) (B : Nat) (w : World) (h : AnyD w B v1 v2 cs ws) (x : Int) :
    Calls Try.prog 19 #[.agg #[v1, v2], .int .i64 x] w fun e w' => TextIs (getD' cs ws x) w e w' := by
  obtain ⟨h1, h2, h3, ⟨h5, h6, h7⟩ | ⟨rfl, oo, nn, cc, hn, rfl⟩⟩ := h
  · exact implDiskGet_any v1 v2 20 cs ws.length ws B w ⟨h6, h1⟩ (by omega) (by omega) h7 h3 x
  · rw [get_no (fun h => AnyD.right rfl h.1)]; exact implDiskGet_no oo nn cc hn v2 ws.length ws B w h1 (by omega) x
theorem specDiskOk_d (v1 v2 : Value) (cs : List ByteArray) (ws : List (Int × ByteArray)) (B : Nat) (w : World) (h : AnyD w B v1 v2 cs ws) :
    Calls Try.prog 17 #[.agg #[v1, v2]] w fun e w' => BoolIs (DiskP cs ws) w e w' := by
  obtain ⟨h1, h2, _, ⟨h5, h6, _⟩ | ⟨rfl, oo, nn, cc, hn, rfl⟩⟩ := h
  · exact specDiskOk_any v1 v2 20 cs ws.length ws B w ⟨h6, h1⟩ (by omega) (by omega)
  · refine (specDiskOk_len oo nn cc v2 ws.length ws B w h1 (by omega)).mono ?_
    rintro e w' ⟨b, rfl, hb, bw⟩
    exact ⟨b, rfl, ⟨fun e => absurd (hb.1 e).1 hn, fun hd => absurd hd (AnyD.right rfl)⟩, bw⟩
theorem specCrash_d (v1 v2 : Value) (cs : List ByteArray) (ws : List (Int × ByteArray)) (B : Nat) (w : World) (h : AnyD w B v1 v2 cs ws) (oK : Option Addr) (nK cK : Nat) (ks : List Bool) (hk : BoolA w oK nK ks) :
    Calls Try.prog 14 #[.agg #[v1, v2], .slice oK nK cK] w fun e w' => DiskIs (landC cs ws (keptB ks)) [] w e w' := by
  obtain ⟨h1, h2, _, ⟨h5, h6, _⟩ | ⟨rfl, oo, nn, cc, hn, rfl⟩⟩ := h
  · exact specCrash_any v1 v2 20 cs ws.length ws B w ⟨h6, h1⟩ (by omega) (by omega) oK nK cK ks hk
  · rw [landC_no (AnyD.right rfl)]; exact specCrash_no oo nn cc hn v2 ws.length ws B w h1 (by omega) _
end Go.Proofs.Ytckjbgpdbehmaaa

namespace Go.Proofs.Ytckjbgpdbehmaaa
open Go.RowKit
open Go.Lib hiding intOf

set_option maxHeartbeats 1000000 in
theorem ccPickInt_any (c B g n : Nat) (f : Nat → Int) (a : Option Addr) (len cap : Nat) (zs : List Int) (w : World) (hcur : CurAt w c a len cap) (hcode : CodeAt w B a len zs) (hB : B ≤ c) (hn : 1 ≤ n) (hn2 : n ≤ 256) (hl : ∀ j, j < n → w.cell? ⟨g, j, none⟩ = some (.int .i64 (f j))) (hgc : g ≠ c) :
    Calls Try.prog 49 #[.pointer (some ⟨c, 0, none⟩), .slice (some ⟨g, 0, none⟩) n n] w fun e w' => ∃ j, j < n ∧ e = .returned (.int .i64 (f j)) ∧ CurAt w' c a len cap ∧ w.grownBy w' (some c) := by
  go_enter Try.func49, Try.ntmps49
  go_wp2_with fail
  refine (l1Below_any c B n a len cap zs _ hcur hcode hB (by omega) (by omega)).mono ?_
  rintro e w1 ⟨x, rfl, hx0, hx1, hcur1, hg1⟩
  obtain ⟨j, rfl⟩ := Int.eq_ofNat_of_zero_le hx0
  have hj : j < n := by omega
  have hcell : w1.cell? ⟨g, j, none⟩ = some (.int .i64 (f j)) := grown_cell hg1 (hl j hj) hgc
  go_wp2
  go_ret
  exact ⟨j, hj, rfl, hcur1, hg1⟩

end Go.Proofs.Ytckjbgpdbehmaaa

namespace Go.Proofs.Ytckjbgpdbehmaaa
open Go.RowKit
open Go.Lib hiding intOf

theorem cur_set {W : World} {c q : Nat} {a : Option Addr} {len cap : Nat} (h : CurAt W c a len cap) (hne : q ≠ c) (o : Nat) (v : Value) : CurAt (W.setCell ⟨q, o, none⟩ v) c a len cap := by
  obtain ⟨i, x, hi, hh⟩ := h
  exact ⟨i, x, hi, by rw [heap_setCell_other _ _ c _ (fun e => hne e.symm)]; exact hh⟩
theorem own_cur {W : World} {base size n c : Nat} {t : TypeId} {v : Value} {xs : List Value} {a : Option Addr} {len cap : Nat} (ho : W.ownsRow base t size v n xs) (h : CurAt W c a len cap) (hT : 87 ≠ t) (j : Nat) (hj : v.ownBlock = some j) : j ≠ c := by
  obtain ⟨i, x, hi, hh⟩ := h
  exact own_ne ho hh hT j hj
theorem grown_own {w W : World} {q : Nat} {row : Option Nat} (h : w.grownBy W row) (hq : w.heap.size ≤ q) (o : Nat) (v : Value) : w.grownBy (W.setCell ⟨q, o, none⟩ v) row :=
  ⟨h.os, h.tape, h.output, by rw [World.size_setCell]; exact h.size, fun i hi hne => by rw [heap_setCell_other _ _ i _ (fun e => by have e2 : i = q := e; omega)]; exact h.block i hi hne⟩
theorem grown_row {w W W' : World} {row r2 : Option Nat} (h : w.grownBy W row) (h2 : W.grownBy W' r2) (hr : ∀ g, r2 = some g → w.heap.size ≤ g) : w.grownBy W' row :=
  ⟨h2.os.trans h.os, h2.tape.trans h.tape, h2.output.trans h.output, Nat.le_trans h.size h2.size, fun i hi hne => (h2.block i (Nat.lt_of_lt_of_le hi h.size) (fun e => by have := hr i e.symm; omega)).trans (h.block i hi hne)⟩
end Go.Proofs.Ytckjbgpdbehmaaa
