/- What the proof of FnExactObjRead leans on: contracts of the program's and the specification's functions, and plain facts (part 4 of 5). -/
import Derived.Test.YtdlhicdfldecgaaGreatDoorFnExactObjReadC
namespace Go.Proofs.YtdlhicdfldecgaaGreatDoor
open Go.RowKit
open Go.Lib hiding intOf

theorem RdX.notLen {w : World} {b : Nat} {left : ByteArray} {tl : List Value} {T : TypeId} (h : RdX w b left tl T) (hm : LenOk w) : 1 ≠ b := fun e => by
  obtain ⟨m, hm⟩ := hm
  have hc := h.cell
  rw [← e, hm] at hc
  cases hc
theorem LenOk.grown {w w' : World} {b : Nat} (h : LenOk w) (hg : w.grownBy w' (some b)) (hb : 1 ≠ b) : LenOk w' := by
  have hlt := h.lt
  obtain ⟨m, hm⟩ := h
  refine ⟨m, ?_⟩
  rw [← hm]
  unfold World.cell?
  rw [hg.block _ hlt (fun e => hb (Option.some.inj e))]
theorem RdX.set {w : World} {b : Nat} {left : ByteArray} {tl : List Value} {T : TypeId} (h : RdX w b left tl T) (k : Nat) (x : Value) : RdX (w.setCell ⟨b, k + 1, none⟩ x) b left (tl.set k x) T := by
  have h2 := heap_set w b (k + 1) _ _ _ x h
  unfold RdX
  simpa using h2
theorem RdX.at {w : World} {b : Nat} {left : ByteArray} {tl : List Value} {T : TypeId} (h : RdX w b left tl T) (k : Nat) : w.cell? ⟨b, k + 1, none⟩ = tl[k]? := by
  unfold RdX at h
  simp [World.cell?, h]
theorem RdX.fr {w : World} {b : Nat} {left : ByteArray} {tl : List Value} {T : TypeId} (h : RdX w b left tl T) (k : Nat) : w.frozen? ⟨b, k, none⟩ = false := by
  unfold RdX at h
  simp [World.frozen?, h]
theorem RdX.lt {w : World} {b : Nat} {left : ByteArray} {tl : List Value} {T : TypeId} (h : RdX w b left tl T) : b < w.heap.size := (Array.getElem?_eq_some_iff.1 h).1
theorem RdX.below {w w' : World} {b : Nat} {left : ByteArray} {tl : List Value} {T : TypeId} (h : RdX w b left tl T) (hb : Below w.heap.size w w') : RdX w' b left tl T := (hb.block b h.lt).trans h

set_option maxHeartbeats 1000000 in
theorem readPath_any (b : Nat) (s : ByteArray) (a1 : Value) (tl : List Value) (w : World) (h : RdX w b s (a1 :: tl) 68) (ha : ∃ x, a1 = .string x) (hl : s.size ≤ 4000000) (hm : LenOk w) :
    Calls Tryz.prog 93 #[.pointer (some ⟨b, 0, none⟩)] w fun e w' => e = .returned (.tuple #[]) ∧ RdX w' b (objP1 s) (.string (cutA (trimP s objW) blE) :: tl) 68 ∧ w.grownBy w' (some b) := by
  obtain ⟨x0, rfl⟩ := ha
  have HNE : Hid (1 ≠ b) := h.notLen hm
  have HZ : Hid ((trimP s objW).size ≤ s.size) := trimP_size _ _
  go_enter Tryz.func93, Tryz.ntmps93
  go_wp2_with fail
  refine (passX_any b s objW _ _ _ h).mono ?_
  rintro e w1 ⟨rfl, h1, g1⟩
  have hm1 := hm.grown g1 HNE.out
  clear h hm
  go_wp2_with fail
  refine (upToX_any b _ blE _ _ _ h1 (by have := HZ.out; omega) hm1).mono ?_
  rintro e w2 ⟨rfl, h2, g2⟩
  have G2 : Hid (w.grownBy w2 (some b)) := grown_then g1 g2
  obtain ⟨x, hx⟩ : ∃ x, x = cutA (trimP s objW) blE := ⟨_, rfl⟩
  have hxs : x.size ≤ 4000000 := by rw [hx]; have := cutA_size (trimP s objW) blE; have := HZ.out; omega
  have H2 : Hid (RdX w2 b (objP1 s) (.string x0 :: tl) 68) := h2
  rw [← hx]
  have HXE : Hid (x = cutA (trimP s objW) blE) := hx
  clear h1 g1 g2 h2 hx hm1
  go_wp2_with fail
  refine (clone_any x _ (by omega)).mono ?_
  rintro e w3 ⟨rfl, bw⟩
  have h3 := H2.out.below bw
  have hc : w3.cell? ⟨b, 1, none⟩ = some (.string x0) := (h3.at 0).trans rfl
  have hf := h3.fr 1
  have HE : Hid (RdX (w3.setCell ⟨b, 1, none⟩ (.string x)) b (objP1 s) (.string (cutA (trimP s objW) blE) :: tl) 68 ∧ w.grownBy (w3.setCell ⟨b, 1, none⟩ (.string x)) (some b)) := ⟨by
    have h : RdX (w3.setCell ⟨b, 1, none⟩ (.string x)) b (objP1 s) (.string x :: tl) 68 := h3.set 0 _
    have e : (Value.string (cutA (trimP s objW) blE)) = .string x := by rw [HXE.out]
    rw [e]
    exact h, grown_then (grown_then G2.out (grown_below bw _)) (grown_set _ _ _ _)⟩
  clear h3 H2 bw G2
  go_wp2_with fail
  exact bodyPost_end (v := .tuple #[]) (by simp [results, Tryz.results93, go_sem]) rfl ⟨rfl, HE.out⟩

set_option maxHeartbeats 1000000 in
theorem readTime_any (b : Nat) (s : ByteArray) (a1 a2 a3 a4 a5 a6 : Value) (t0 : Int) (tl : List Value) (w : World) (h : RdX w b s (a1 :: a2 :: a3 :: a4 :: a5 :: a6 :: .int .i64 t0 :: tl) 68) (hl : s.size ≤ 4000000) (hm : LenOk w) :
    Calls Tryz.prog 94 #[.pointer (some ⟨b, 0, none⟩)] w fun e w' => e = .returned (.tuple #[]) ∧ ∃ t : Int, (0 ≤ t ∧ t ≤ 1000000) ∧ (NumOk (cutA s blE) → t = valL (cutA s blE).data.toList) ∧ RdX w' b (cutB s blE) (a1 :: a2 :: a3 :: a4 :: a5 :: a6 :: .int .i64 t :: tl) 68 ∧ w.grownBy w' (some b) := by
  go_enter Tryz.func94, Tryz.ntmps94
  go_wp2_with fail
  refine (upToX_any b _ blE _ _ _ h hl hm).mono ?_
  rintro e w2 ⟨rfl, h2, g2⟩
  obtain ⟨x, hx⟩ : ∃ x, x = cutA s blE := ⟨_, rfl⟩
  have HXE : Hid (x = cutA s blE) := hx
  have hxs : x.size ≤ maxLen := by rw [hx]; have := cutA_size s blE; unfold maxLen; omega
  have H2 : Hid (RdX w2 b (cutB s blE) (a1 :: a2 :: a3 :: a4 :: a5 :: a6 :: .int .i64 t0 :: tl) 68) := h2
  have G2 : Hid (w.grownBy w2 (some b)) := g2
  rw [← hx]
  clear h hm h2 g2 hx
  go_wp2_with fail
  refine (implNumRead_any x _ hxs).mono ?_
  rintro e w3 ⟨bo, n, rfl, hn1, hn2, hn3, bw⟩
  have HNB : Hid (0 ≤ n ∧ n ≤ 1000000) := by
    show _ ∧ _
    cases bo with
    | false => rw [hn3 rfl]; decide
    | true =>
      have h1 := (hn1.1 rfl).2.2.2
      have h2 := hn2 rfl
      omega
  have HNV : Hid (NumOk (cutA s blE) → n = valL (cutA s blE).data.toList) := by
    show _ → _
    rw [← HXE.out]
    exact fun h => hn2 (hn1.2 h)
  have h3 := H2.out.below bw
  have hc : w3.cell? ⟨b, 7, none⟩ = some (.int .i64 t0) := (h3.at 6).trans rfl
  have hf := h3.fr 7
  have HE : Hid (RdX (w3.setCell ⟨b, 7, none⟩ (.int .i64 n)) b (cutB s blE) (a1 :: a2 :: a3 :: a4 :: a5 :: a6 :: .int .i64 n :: tl) 68 ∧ w.grownBy (w3.setCell ⟨b, 7, none⟩ (.int .i64 n)) (some b)) := ⟨h3.set 6 _, grown_then (grown_then G2.out (grown_below bw _)) (grown_set _ _ _ _)⟩
  clear h3 H2 bw G2 hn1 hn2 hn3
  go_wp2_with fail
  exact bodyPost_end (v := .tuple #[]) (by simp [results, Tryz.results94, go_sem]) rfl ⟨rfl, n, HNB.out, HNV.out, HE.out⟩

set_option maxHeartbeats 1000000 in
theorem readCount_any (b : Nat) (s : ByteArray) (a1 a2 a3 a4 a5 a6 a7 : Value) (t0 : Int) (tl : List Value) (w : World) (h : RdX w b s (a1 :: a2 :: a3 :: a4 :: a5 :: a6 :: a7 :: .int .i64 t0 :: tl) 68) (hl : s.size ≤ 4000000) (hm : LenOk w) :
    Calls Tryz.prog 95 #[.pointer (some ⟨b, 0, none⟩)] w fun e w' => e = .returned (.tuple #[]) ∧ ∃ t : Int, (0 ≤ t ∧ t ≤ 1000000) ∧ (NumOk (cutA s nlE) → t = valL (cutA s nlE).data.toList) ∧ RdX w' b (cutB s nlE) (a1 :: a2 :: a3 :: a4 :: a5 :: a6 :: a7 :: .int .i64 t :: tl) 68 ∧ w.grownBy w' (some b) := by
  go_enter Tryz.func95, Tryz.ntmps95
  go_wp2_with fail
  refine (upToX_any b _ nlE _ _ _ h hl hm).mono ?_
  rintro e w2 ⟨rfl, h2, g2⟩
  obtain ⟨x, hx⟩ : ∃ x, x = cutA s nlE := ⟨_, rfl⟩
  have HXE : Hid (x = cutA s nlE) := hx
  have hxs : x.size ≤ maxLen := by rw [hx]; have := cutA_size s nlE; unfold maxLen; omega
  have H2 : Hid (RdX w2 b (cutB s nlE) (a1 :: a2 :: a3 :: a4 :: a5 :: a6 :: a7 :: .int .i64 t0 :: tl) 68) := h2
  have G2 : Hid (w.grownBy w2 (some b)) := g2
  rw [← hx]
  clear h hm h2 g2 hx
  go_wp2_with fail
  refine (implNumRead_any x _ hxs).mono ?_
  rintro e w3 ⟨bo, n, rfl, hn1, hn2, hn3, bw⟩
  have HNB : Hid (0 ≤ n ∧ n ≤ 1000000) := by
    show _ ∧ _
    cases bo with
    | false => rw [hn3 rfl]; decide
    | true =>
      have h1 := (hn1.1 rfl).2.2.2
      have h2 := hn2 rfl
      omega
  have HNV : Hid (NumOk (cutA s nlE) → n = valL (cutA s nlE).data.toList) := by
    show _ → _
    rw [← HXE.out]
    exact fun h => hn2 (hn1.2 h)
  have h3 := H2.out.below bw
  have hc : w3.cell? ⟨b, 8, none⟩ = some (.int .i64 t0) := (h3.at 7).trans rfl
  have hf := h3.fr 8
  have HE : Hid (RdX (w3.setCell ⟨b, 8, none⟩ (.int .i64 n)) b (cutB s nlE) (a1 :: a2 :: a3 :: a4 :: a5 :: a6 :: a7 :: .int .i64 n :: tl) 68 ∧ w.grownBy (w3.setCell ⟨b, 8, none⟩ (.int .i64 n)) (some b)) := ⟨h3.set 7 _, grown_then (grown_then G2.out (grown_below bw _)) (grown_set _ _ _ _)⟩
  clear h3 H2 bw G2 hn1 hn2 hn3
  go_wp2_with fail
  exact bodyPost_end (v := .tuple #[]) (by simp [results, Tryz.results95, go_sem]) rfl ⟨rfl, n, HNB.out, HNV.out, HE.out⟩

end Go.Proofs.YtdlhicdfldecgaaGreatDoor

namespace Go.Proofs.YtdlhicdfldecgaaGreatDoor
open Go.RowKit
open Go.Lib hiding intOf

/-- Cells of which the first hold these texts. -/
def vcells (ys : List ByteArray) (old : List Value) : List Value := ys.map Value.string ++ old.drop ys.length
theorem vcells_get {ys : List ByteArray} {old : List Value} (h : ys.length < old.length) : ∃ v, (vcells ys old)[ys.length]? = some v := by
  refine ⟨old[ys.length]'h, ?_⟩
  unfold vcells
  rw [List.getElem?_append_right (by simp), List.length_map, Nat.sub_self, List.getElem?_drop, Nat.add_zero, List.getElem?_eq_getElem h]
theorem vcells_set {ys : List ByteArray} {old : List Value} (h : ys.length < old.length) (y : ByteArray) : (vcells ys old).set ys.length (.string y) = vcells (ys ++ [y]) old := by
  unfold vcells
  rw [List.set_append_right _ _ (by simp), List.length_map, Nat.sub_self, List.drop_eq_getElem_cons h, List.set_cons_zero, List.map_append, List.length_append]
  simp
theorem grown_low {w W W2 w' : World} {b : Nat} (h1 : w.grownBy W (some b)) (h2 : W.grownBy W2 (some b)) (h3 : Below W.heap.size W2 w') : w.grownBy w' (some b) :=
  have h := grown_then h1 h2
  ⟨h3.os.trans h.os, h3.tape.trans h.tape, h3.output.trans h.output, Nat.le_trans h.size h3.size, fun i hi hne => (h3.block i (Nat.lt_of_lt_of_le hi h1.size)).trans (h.block i hi hne)⟩
theorem made_row {w0 w' : World} {g k : Nat} {ys : List ByteArray} {cs : Array Value} (hlen : ys.length = k) (hg : w0.heap.size ≤ g) (hk : k ≤ 4) (hcs : cs.toList = ys.map Value.string) (h : w'.heap[g]? = some (.cells cs 9)) : TextRow w0.heap.size w' g k k ys := by
  have hz : cs.size = k := by rw [← Array.length_toList, hcs, List.length_map, hlen]
  refine ⟨hlen, hg, (Array.getElem?_eq_some_iff.1 h).1, Nat.le_refl _, by unfold maxLen; omega, cs, h, hz, fun i hi => ?_⟩
  rw [← Array.getElem?_toList, hcs, List.getElem?_map, List.getElem?_eq_getElem (by omega)]
  simp [textAt, List.getD_eq_getElem?_getD, List.getElem?_eq_getElem (show i < ys.length by omega)]

set_option maxHeartbeats 4000000 in
set_option maxRecDepth 100000 in
theorem readValues_any (b : Nat) (x : ByteArray) (a1 a2 a4 a5 a6 a7 : Value) (n : Int) (k : Nat) (hk : min n 4 = (k : Int)) (hn : 0 ≤ n ∧ n ≤ 1000000) (v0 v1 v2 v3 : ByteArray) (w : World) (h : RdX w b x [a1, a2, .slice none 0 0, a4, a5, a6, a7, .int .i64 n, .string v0, .string v1, .string v2, .string v3] 68) (hl : x.size ≤ 4000000) (hm : LenOk w) :
    Calls Tryz.prog 96 #[.pointer (some ⟨b, 0, none⟩)] w fun e w' => e = .returned (.tuple #[]) ∧ ∃ v vs, RdX w' b (lnTo x k).2 (a1 :: a2 :: v :: a4 :: a5 :: a6 :: a7 :: .int .i64 n :: vs) 68 ∧ w'.ownsRow w.heap.size 9 1 v k ((lnTo x k).1.map Value.string) ∧ w.grownBy w' (some b) := by
  obtain ⟨i0, hi, hz0, hz1, hz2⟩ := info_parts info9
  have HK4 : Hid (k ≤ 4) := by show _ ≤ _; omega
  have hsl : ∀ W : World, (Instr.sliceAt 66 (.pointer (some ⟨b, 9, none⟩)) none (some (.int .i64 (k : Int))) none).run Tryz.prog W = .ok (.slice (some ⟨b, 9, none⟩) k 4) W := fun W => by
    have e1 : Tryz.prog.arrayLen 66 = 4 := by kernel_rfl
    have e2 : Tryz.prog.elem 66 = 9 := by kernel_rfl
    have h := run_sliceAt_array_h (P := Tryz.prog) W 66 ⟨b, 9, none⟩ (by kernel_rfl) .i64 (k : Int) (by omega) (by rw [e1]; omega)
    rw [e1, e2] at h
    rw [h]
    simp [slicedAt, go_sem, Tryz.sizeOf9, Addr.add]
  obtain ⟨M, hM⟩ : ∃ M, M = madeCells (Value.string ⟨#[]⟩).cells (((k : Nat) : Int).toNat * i0.size) := ⟨_, rfl⟩
  have hmk : ∀ W : World, (Instr.makeSlice 24 (.int .i64 (k : Int)) (.int .i64 (k : Int))).run Tryz.prog W = .ok (.slice (some ⟨W.heap.size, 0, none⟩) k k) (W.alloc (.cells M 9)) := fun W => by
    have h := run_make (P := Tryz.prog) W 24 9 i0 (.string ⟨#[]⟩) Tryz.underlying24 hi hz0 .i64 .i64 (k : Int) (k : Int) (by omega) (by omega) (by rw [hz2]; omega) (by omega)
    rw [← hM] at h
    simpa using h
  have HMl : Hid (M = (List.replicate k (Value.string ⟨#[]⟩)).toArray) := by
    show _ = _
    apply Array.toList_inj.1
    rw [hM, hz1, show ((k : Nat) : Int).toNat * 1 = k by omega]
    exact toList_madeCells_one (.string ⟨#[]⟩) k
  clear hM hz0 hz1 hz2 hi
  have hc8 : w.cell? ⟨b, 8, none⟩ = some (.int .i64 n) := (h.at 7).trans rfl
  have H0 : Hid (RdX w b x ([a1, a2, .slice none 0 0, a4, a5, a6, a7, .int .i64 n] ++ vcells [] [.string v0, .string v1, .string v2, .string v3]) 68) := h
  have HNE : Hid (1 ≠ b) := h.notLen hm
  have HM : Hid (LenOk w) := hm
  have HSZ : Hid (∀ j, (lnTo x j).2.size ≤ 4000000) := fun j => Nat.le_trans (lnTo_size x j).2.1 hl
  have HLN : Hid (∀ j, (lnTo x j).1.length = j) := fun j => (lnTo_size x j).1
  clear h hm
  go_enter Tryz.func96, Tryz.ntmps96
  go_wp2_with fail
  go_region_held3 (fun W => W.cell? ⟨b, 8, none⟩ = some (.int .i64 n)) (first | assumption | go_keep) (fail)
  clear hc8
  have H1 : Hid (RdX w.drew b x ([a1, a2, .slice none 0 0, a4, a5, a6, a7, .int .i64 n] ++ vcells [] [.string v0, .string v1, .string v2, .string v3]) 68 ∧ w.grownBy w.drew (some b)) := ⟨H0.out, ⟨rfl, rfl, rfl, Nat.le_refl _, fun _ _ _ => rfl⟩⟩
  go_wp2_with fail
  go_loopw [15] (fun i wr => ∃ j : Nat, j ≤ k ∧ i = .int .i64 (j : Int) ∧ Hid (RdX wr b (lnTo x j).2 ([a1, a2, .slice none 0 0, a4, a5, a6, a7, .int .i64 n] ++ vcells (lnTo x j).1 [.string v0, .string v1, .string v2, .string v3]) 68 ∧ w.grownBy wr (some b))) (fun i _ => k - (intOf i).toNat)
  case atStart => exact ⟨0, Nat.zero_le _, rfl, H1⟩
  case round =>
    obtain ⟨j, hj, rfl, HW⟩ := hrel
    by_cases hlt : (j : Int) < (k : Int)
    · have hm1 : LenOk wr := HM.out.grown HW.out.2 HNE.out
      go_wp2_with fail
      refine (upToX_any b _ nlE _ _ _ HW.out.1 (HSZ.out j) hm1).mono ?_
      rintro e w2 ⟨rfl, h2, g2⟩
      obtain ⟨y, hy⟩ : ∃ y, y = cutA (lnTo x j).2 nlE := ⟨_, rfl⟩
      have hys : y.size ≤ 4000000 := by rw [hy]; exact Nat.le_trans (cutA_size _ _) (HSZ.out j)
      have HYE : Hid (lnTo x (j + 1) = ((lnTo x j).1 ++ [y], cutB (lnTo x j).2 nlE)) := by show _ = _; rw [lnTo, hy]
      have H2 : Hid (RdX w2 b (cutB (lnTo x j).2 nlE) ([a1, a2, .slice none 0 0, a4, a5, a6, a7, .int .i64 n] ++ vcells (lnTo x j).1 [.string v0, .string v1, .string v2, .string v3]) 68 ∧ w.grownBy w2 (some b)) := ⟨h2, grown_then HW.out.2 g2⟩
      rw [← hy]
      clear hy h2 g2 hm1 HW
      go_wp2_with fail
      refine (clone_any y _ (by omega)).mono ?_
      rintro e w3 ⟨rfl, bw⟩
      have h3 := H2.out.1.below bw
      have hl4 : (lnTo x j).1.length < [Value.string v0, Value.string v1, Value.string v2, Value.string v3].length := by
        rw [HLN.out]; have := HK4.out; simp; omega
      obtain ⟨ov, hov⟩ : ∃ ov, ([a1, a2, .slice none 0 0, a4, a5, a6, a7, .int .i64 n] ++ vcells (lnTo x j).1 [.string v0, .string v1, .string v2, .string v3])[8 + j]? = some ov := by
        obtain ⟨v, e⟩ := vcells_get hl4
        rw [HLN.out j] at e
        exact ⟨_, by rw [List.getElem?_append_right (by simp), show 8 + j - [a1, a2, .slice none 0 0, a4, a5, a6, a7, .int .i64 n].length = j by simp]; exact e⟩
      have hc : w3.cell? ⟨b, 9 + j, none⟩ = some ov := by
        rw [show 9 + j = 8 + j + 1 by omega, h3.at (8 + j)]; exact hov
      have hf := h3.fr (9 + j)
      have HE : Hid (RdX (w3.setCell ⟨b, 9 + j, none⟩ (.string y)) b (lnTo x (j + 1)).2 ([a1, a2, .slice none 0 0, a4, a5, a6, a7, .int .i64 n] ++ vcells (lnTo x (j + 1)).1 [.string v0, .string v1, .string v2, .string v3]) 68 ∧ w.grownBy (w3.setCell ⟨b, 9 + j, none⟩ (.string y)) (some b)) := by
        refine ⟨?_, grown_then (grown_then H2.out.2 (grown_below bw _)) (grown_set _ _ _ _)⟩
        have h4 := h3.set (8 + j) (.string y)
        rw [List.set_append_right _ _ (by simp), show 8 + j - [a1, a2, .slice none 0 0, a4, a5, a6, a7, .int .i64 n].length = (lnTo x j).1.length by rw [HLN.out]; simp, vcells_set hl4, show 8 + j + 1 = 9 + j by omega] at h4
        rw [HYE.out]
        exact h4
      clear h3 H2 bw hov hl4
      go_wp2_with fail
      go_roundw
      case rel => exact ⟨j + 1, by omega, by go_num, HE⟩
      case measure => simp [intOf]; omega
    · obtain rfl : j = k := by omega
      obtain ⟨V, hV⟩ : ∃ V, V = vcells (lnTo x j).1 [.string v0, .string v1, .string v2, .string v3] := ⟨_, rfl⟩
      have h1 := HW.out.1
      rw [← hV] at h1
      have hc := (show wr.cell? ⟨b, 3, none⟩ = some (.slice none 0 0) from (h1.at 2).trans rfl)
      have hf := h1.fr 3
      obtain ⟨g, hg⟩ : ∃ g, g = wr.heap.size := ⟨_, rfl⟩
      obtain ⟨W2, hW2⟩ : ∃ W2, W2 = (wr.alloc (.cells M 9)).setCell ⟨b, 3, none⟩ (.slice (some ⟨g, 0, none⟩) j j) := ⟨_, rfl⟩
      have hblt : b < wr.heap.size := h1.lt
      have hgb : g ≠ b := by omega
      have hbA : Below wr.heap.size wr (wr.alloc (.cells M 9)) := (Below.refl _ _).alloc (Nat.le_refl _) _
      have hc2 : (wr.alloc (.cells M 9)).cell? ⟨b, 3, none⟩ = some (.slice none 0 0) := ((h1.below hbA).at 2).trans rfl
      have hf2 := (h1.below hbA).fr 3
      have H2 : Hid (RdX W2 b (lnTo x j).2 (a1 :: a2 :: .slice (some ⟨g, 0, none⟩) j j :: a4 :: a5 :: a6 :: a7 :: .int .i64 n :: V) 68) := by
        show RdX _ _ _ _ _
        rw [hW2]
        exact (h1.below hbA).set 2 _
      have HG2 : Hid (wr.grownBy W2 (some b)) := by
        show wr.grownBy _ _
        rw [hW2]
        exact grown_then (grown_below hbA _) (grown_set _ _ _ _)
      have HH2 : Hid (W2.heap[g]? = some (.cells (List.replicate j (Value.string ⟨#[]⟩)).toArray 9)) := by
        show _ = _
        rw [hW2, heap_setCell_other _ _ _ _ hgb, hg, ← HMl.out]
        exact heap_alloc_new _ _
      have HVC : Hid (∀ i v, ((lnTo x j).1.map Value.string)[i]? = some v → W2.cell? ((⟨b, 9, none⟩ : Addr).add i) = some v) := by
        intro i v hv
        have hi := (List.getElem?_eq_some_iff.1 hv).1
        have h := H2.out.at (8 + i)
        rw [show (⟨b, 9, none⟩ : Addr).add i = ⟨b, 9 + i, none⟩ by simp [Addr.add]]
        rw [show 9 + i = 8 + i + 1 by omega, h, show 8 + i = i + 8 by omega]
        show V[i]? = _
        rw [hV]
        unfold vcells
        rw [List.getElem?_append_left hi]
        exact hv
      have HGS : Hid (g = wr.heap.size) := hg
      have HLJ : Hid ((lnTo x j).1.length = j) := HLN.out j
      have hcW : W2.cell? ⟨b, 3, none⟩ = some (.slice (some ⟨g, 0, none⟩) j j) := (H2.out.at 2).trans rfl
      have HWE : Hid ((wr.alloc (.cells M 9)).setCell ⟨b, 3, none⟩ (.slice (some ⟨g, 0, none⟩) j j) = W2) := hW2.symm
      clear h1 hbA hW2 hV hblt hgb
      go_upto_region 7 with fail
      rw [← hg, HWE.out]
      clear hc hf hc2 hf2 hg HWE hmk
      obtain ⟨cs, hcs⟩ : ∃ cs, cs = (lnTo x j).1.map Value.string := ⟨_, rfl⟩
      have hinf : (Tryz.prog.info? 9).map (·.size) = some 1 := by kernel_rfl
      have HCL : Hid (cs.length = Nat.min j j) := by show _ = _; rw [hcs, List.length_map, HLJ.out]; exact (Nat.min_self j).symm
      have HSRC : Hid (∀ i v, cs[i]? = some v → W2.cell? ((⟨b, 9, none⟩ : Addr).add i) = some v) := by rw [hcs]; exact HVC
      have HFIT : Hid (0 + cs.length ≤ (List.replicate j (Value.string ⟨#[]⟩)).toArray.size) := by show _ ≤ _; rw [hcs]; simp [HLJ.out]
      have HONE : Hid (∀ v ∈ cs, v.oneCell' = true) := fun v hv => by
        rw [hcs] at hv
        obtain ⟨y, _, rfl⟩ := List.mem_map.1 hv
        rfl
      have hcp := run_copy_row (P := Tryz.prog) W2 24 24 3 9 g 0 j j ⟨b, 9, none⟩ j 4 _ 9 cs Tryz.underlying24 hinf HH2.out HCL.out HSRC.out HFIT.out HONE.out
      obtain ⟨C, hC⟩ : ∃ C, C = ((List.replicate j (Value.string ⟨#[]⟩)).toArray.toList.take 0 ++ cs ++ (List.replicate j (Value.string ⟨#[]⟩)).toArray.toList.drop (0 + cs.length)).toArray := ⟨_, rfl⟩
      rw [← hC] at hcp
      have HSP : Hid (C.toList = (lnTo x j).1.map Value.string) := by
        show _ = _
        rw [hC, hcs]
        simp [HLJ.out]
      have hb8 : Below wr.heap.size W2 (W2.setRow g C) := by rw [← HGS.out]; exact below_setRow (Below.refl _ _) (Nat.le_refl _) C
      have HRD : Hid (RdX (W2.setRow g C) b (lnTo x j).2 (a1 :: a2 :: .slice (some ⟨g, 0, none⟩) j j :: a4 :: a5 :: a6 :: a7 :: .int .i64 n :: V) 68) := (hb8.block b HW.out.1.lt).trans H2.out
      have HHC : Hid ((W2.setRow g C).heap[g]? = some (.cells C 9)) := setRow_heap _ _ _ _ _ _ HH2.out
      have HR : Hid ((W2.setRow g C).ownsRow w.heap.size 9 1 (.slice (some ⟨g, 0, none⟩) j j) j ((lnTo x j).1.map Value.string)) := (made_row (w0 := w) HLJ.out (by rw [HGS.out]; exact HW.out.2.size) HK4.out HSP.out HHC.out).owns
      have HGL : Hid (w.grownBy (W2.setRow g C) (some b)) := grown_low HW.out.2 HG2.out hb8
      clear hcs HVC hC hb8 hinf
      go_wp2_with fail
      exact bodyPost_end (v := .tuple #[]) (by simp [results, Tryz.results96, go_sem]) rfl ⟨rfl, _, ⟨_, HRD.out⟩, HR.out, HGL.out⟩

theorem flds_sizes {fs : List (ByteArray × ByteArray)} (h : FldsOk fs) : fs.length ≤ 8 ∧ (∀ i, i < fs.length → (nameAt fs i).size ≤ 60 ∧ (valAt fs i).size ≤ 60) := by
  refine ⟨h.1, fun i hi => ?_⟩
  obtain ⟨h1, h2, _⟩ := h.2 i hi
  exact ⟨Nat.le_trans h1.2.1 (by decide), h2.2.1⟩

theorem getV_small {fs : List (ByteArray × ByteArray)} (h : FldsOk fs) (x : ByteArray) : (getV fs x).size ≤ 1048576 := by
  unfold getV
  split
  · rename_i hin
    exact Nat.le_trans ((flds_sizes h).2 _ hin).2 (by decide)
  · decide
theorem copyF_small {fs : List (ByteArray × ByteArray)} (h : FldsOk fs) : CopyF fs := fun i hi => by
  have := (flds_sizes h).2 i hi
  omega
theorem walkF_small {fs : List (ByteArray × ByteArray)} (h : FldsOk fs) : WalkF fs.length fs := fun i hi => by
  have := (flds_sizes h).2 i hi
  unfold maxLen
  omega
theorem fldsOk_nil : FldsOk [] := ⟨by decide, fun i hi => absurd hi (by simp)⟩

/-- What RespRead tells, whichever it is: an answer of right fields, the text's own where it is one's. -/
theorem resp_out {x : ByteArray} {w w1 : World} {e : Ending} (hr : RespIs x w e w1) : ∃ (st : Int) (fs : List (ByteArray × ByteArray)) (bd : ByteArray) (vF : Value) (t : Bool), e = .returned (.tuple #[.agg #[.int .i64 st, vF, .string bd], .bool t]) ∧ (FldsOk fs ∧ bd.size ≤ 120) ∧ (∀ st' fs' b', IsResp x st' fs' b' → st = st' ∧ fs = fs' ∧ bd = b') ∧ w1.ownsRow w.heap.size 131 2 vF fs.length (flatF fs) ∧ Below w.heap.size w w1 := by
  rcases hr with ⟨m, fs, bd, v, h1, h2, h3, h4⟩ | ⟨h1, h2, h3⟩
  · exact ⟨m, fs, bd, v, true, h1, ⟨h2.1.2.1, h2.1.2.2⟩, fun _ _ _ h => h2.uniq h, h3, h4⟩
  · exact ⟨0, [], ⟨#[]⟩, .slice none 0 0, false, h1, ⟨fldsOk_nil, by decide⟩, fun _ _ _ h => absurd h (h2 _ _ _), World.ownsRow_nil _ _ _ _, h3⟩

set_option maxHeartbeats 4000000 in
set_option maxRecDepth 100000 in
/-- Behind RespRead: what it told is stored, and the names that the answer hangs on. -/
theorem readAnswer_any (b : Nat) (x : ByteArray) (a1 a3 a7 a8 : Value) (st0 : Int) (bd0 : ByteArray) (vs : List Value) (w : World) (h : RdX w b x (a1 :: .slice none 0 0 :: a3 :: .int .i64 st0 :: .slice none 0 0 :: .string bd0 :: a7 :: a8 :: vs) 68) (hl : x.size ≤ 3000000) (hm : LenOk w) (htab : TabOk w) :
    Calls Tryz.prog 97 #[.pointer (some ⟨b, 0, none⟩)] w fun e w' => e = .returned (.tuple #[]) ∧ ∃ (st : Int) (fs : List (ByteArray × ByteArray)) (bd : ByteArray) (vF vN : Value), RdX w' b x (a1 :: vN :: a3 :: .int .i64 st :: vF :: .string bd :: a7 :: a8 :: vs) 68 ∧ w'.ownsRow w.heap.size 131 2 vF fs.length (flatF fs) ∧ w'.ownsRow w.heap.size 9 1 vN (varyP fs).length ((varyP fs).map Value.string) ∧ (FldsOk fs ∧ bd.size ≤ 120) ∧ (∀ st' fs' b', IsResp x st' fs' b' → st = st' ∧ fs = fs' ∧ bd = b') ∧ w.grownBy w' (some b) := by
  have hc0 := h.cell
  have H : Hid (RdX w b x (a1 :: .slice none 0 0 :: a3 :: .int .i64 st0 :: .slice none 0 0 :: .string bd0 :: a7 :: a8 :: vs) 68) := h
  clear h
  go_enter Tryz.func97, Tryz.ntmps97
  go_wp2_with fail
  refine (implRespRead_any x _ hl htab hm).mono ?_
  intro e w1 hr
  obtain ⟨st, fs, bd, vF, t, he, hok, hun, hown, bw⟩ : ∃ (st : Int) (fs : List (ByteArray × ByteArray)) (bd : ByteArray) (vF : Value) (t : Bool), e = .returned (.tuple #[.agg #[.int .i64 st, vF, .string bd], .bool t]) ∧ (FldsOk fs ∧ bd.size ≤ 120) ∧ (∀ st' fs' b', IsResp x st' fs' b' → st = st' ∧ fs = fs' ∧ bd = b') ∧ w1.ownsRow w.heap.size 131 2 vF fs.length (flatF fs) ∧ Below w.heap.size w w1 := by
    rcases hr with ⟨m, fs, bd, v, h1, h2, h3, h4⟩ | ⟨h1, h2, h3⟩
    · exact ⟨m, fs, bd, v, true, h1, ⟨h2.1.2.1, h2.1.2.2⟩, fun _ _ _ h => h2.uniq h, h3, h4⟩
    · exact ⟨0, [], ⟨#[]⟩, .slice none 0 0, false, h1, ⟨fldsOk_nil, by decide⟩, fun _ _ _ h => absurd h (h2 _ _ _), World.ownsRow_nil _ _ _ _, h3⟩
  subst he
  clear hr
  have HOK : Hid (FldsOk fs ∧ bd.size ≤ 120) := hok
  have HUN : Hid (∀ st' fs' b', IsResp x st' fs' b' → st = st' ∧ fs = fs' ∧ bd = b') := hun
  obtain ⟨oF, cF, rfl⟩ := slice_of_owns hown
  have h1 := H.out.below bw
  have c4 : w1.cell? ⟨b, 4, none⟩ = some (.int .i64 st0) := (h1.at 3).trans rfl
  have c5 : w1.cell? ⟨b, 5, none⟩ = some (.slice none 0 0) := (h1.at 4).trans rfl
  have c6 : w1.cell? ⟨b, 6, none⟩ = some (.string bd0) := (h1.at 5).trans rfl
  have f4 := h1.fr 4
  have f5 := h1.fr 5
  have f6 := h1.fr 6
  obtain ⟨W2, hW2⟩ : ∃ W, W = ((w1.setCell ⟨b, 4, none⟩ (.int .i64 st)).setCell ⟨b, 5, none⟩ (.slice oF fs.length cF)).setCell ⟨b, 6, none⟩ (.string bd) := ⟨_, rfl⟩
  have H2 : Hid (RdX W2 b x (a1 :: .slice none 0 0 :: a3 :: .int .i64 st :: .slice oF fs.length cF :: .string bd :: a7 :: a8 :: vs) 68) := by
    show RdX _ _ _ _ _
    rw [hW2]
    exact ((h1.set 3 _).set 4 _).set 5 _
  have HG2 : Hid (w.grownBy W2 (some b)) := by
    show w.grownBy _ _
    rw [hW2]
    exact grown_then (grown_then (grown_then (grown_below bw _) (grown_set _ _ _ _)) (grown_set _ _ _ _)) (grown_set _ _ _ _)
  have HO2 : Hid (W2.ownsRow w.heap.size 131 2 (.slice oF fs.length cF) fs.length (flatF fs)) := by
    show World.ownsRow _ _ _ _ _ _ _
    rw [hW2]
    refine owns_same hown (fun g hg => ?_)
    have hne := own_ne hown h1 (by decide) g hg
    rw [heap_setCell_other _ _ g _ hne, heap_setCell_other _ _ g _ hne, heap_setCell_other _ _ g _ hne]
  have HWE : Hid (((w1.setCell ⟨b, 4, none⟩ (.int .i64 st)).setCell ⟨b, 5, none⟩ (.slice oF fs.length cF)).setCell ⟨b, 6, none⟩ (.string bd) = W2) := hW2.symm
  have c5b : W2.cell? ⟨b, 5, none⟩ = some (.slice oF fs.length cF) := (H2.out.at 4).trans rfl
  clear hW2 h1 hown hok hun hc0 bw hm htab H
  go_upto_region 1 with fail
  rw [HWE.out]
  clear c4 c5 c6 f4 f5 f6 HWE
  go_wp2_with fail
  refine (implVaryOf_any _ fs.length w.heap.size fs _ (FieldsV.of_owns HO2.out) (by have := (flds_sizes HOK.out.1).1; omega) (copyF_small HOK.out.1) (getV_small HOK.out.1 _)).mono ?_
  rintro e w3 ⟨vN, rfl, hn3, bw⟩
  have h3 := H2.out.below bw
  have c2 : w3.cell? ⟨b, 2, none⟩ = some (.slice none 0 0) := (h3.at 1).trans rfl
  have f2 := h3.fr 2
  obtain ⟨oN, cN, rfl⟩ := slice_of_owns hn3
  have HE : Hid (RdX (w3.setCell ⟨b, 2, none⟩ (.slice oN (varyP fs).length cN)) b x (a1 :: .slice oN (varyP fs).length cN :: a3 :: .int .i64 st :: .slice oF fs.length cF :: .string bd :: a7 :: a8 :: vs) 68) := h3.set 1 _
  have HG3 : Hid (w.grownBy (w3.setCell ⟨b, 2, none⟩ (.slice oN (varyP fs).length cN)) (some b)) := grown_then (grown_then HG2.out (grown_below bw _)) (grown_set _ _ _ _)
  have HOF : Hid ((w3.setCell ⟨b, 2, none⟩ (.slice oN (varyP fs).length cN)).ownsRow w.heap.size 131 2 (.slice oF fs.length cF) fs.length (flatF fs)) := by
    have ho := owns_below HO2.out bw (fun g hg => owns_lt HO2.out hg)
    exact owns_same ho (fun g hg => heap_setCell_other _ _ g _ (own_ne ho h3 (by decide) g hg))
  have HON : Hid ((w3.setCell ⟨b, 2, none⟩ (.slice oN (varyP fs).length cN)).ownsRow w.heap.size 9 1 (.slice oN (varyP fs).length cN) (varyP fs).length ((varyP fs).map Value.string)) :=
    owns_wide (owns_same hn3 (fun g hg => heap_setCell_other _ _ g _ (own_ne hn3 h3 (by decide) g hg))) HG2.out.size
  clear h3 hn3 bw c5b
  go_wp2_with fail
  exact bodyPost_end (v := .tuple #[]) (by simp [results, Tryz.results97, go_sem]) rfl ⟨rfl, _, _, _, _, _, HE.out, HOF.out, HON.out, HOK.out, HUN.out, HG3.out⟩

/-- The table of the steps, in a new list. -/
def StepsAt (w : World) (g : Nat) : Prop := w.cell? ⟨g, 0, none⟩ = some (.func (.func 93) #[] #[]) ∧ w.cell? ⟨g, 1, none⟩ = some (.func (.func 94) #[] #[]) ∧ w.cell? ⟨g, 2, none⟩ = some (.func (.func 95) #[] #[]) ∧ w.cell? ⟨g, 3, none⟩ = some (.func (.func 96) #[] #[]) ∧ w.cell? ⟨g, 4, none⟩ = some (.func (.func 97) #[] #[])
set_option maxHeartbeats 400000 in
theorem objectSteps_any (w : World) :
    Calls Tryz.prog 39 #[] w fun e w' => ∃ g, e = .returned (.slice (some ⟨g, 0, none⟩) 5 5) ∧ StepsAt w' g ∧ w.heap.size ≤ g ∧ g < w'.heap.size ∧ Below w.heap.size w w' := by
  go_enter Tryz.func39, Tryz.ntmps39
  go_wp2
  go_ret
  refine ⟨_, rfl, ?_, Nat.le_refl _, by simp, (Below.refl _ _).alloc (Nat.le_refl _) _⟩
  refine ⟨?_, ?_, ?_, ?_, ?_⟩ <;> exact (cell_of (heap_alloc_new w _) _).trans rfl

end Go.Proofs.YtdlhicdfldecgaaGreatDoor

namespace Go.Proofs.YtdlhicdfldecgaaGreatDoor
open Go.RowKit
open Go.Lib hiding intOf

theorem timeOk_any (t : Int) (w : World) :
    Calls Tryz.prog 34 #[.int .i64 t] w fun e w' => e = .returned (.bool (decide ((0 : Int) ≤ t ∧ t ≤ 1000000))) ∧ w' = w := by
  obtain ⟨D, hD⟩ : ∃ D, D = decide ((0 : Int) ≤ t ∧ t ≤ 1000000) := ⟨_, rfl⟩
  rw [← hD]
  by_cases h1 : 0 ≤ t
  · by_cases h2 : t ≤ 1000000
    · have HD : Hid (D = true) := by show _ = _; rw [hD]; exact decide_eq_true ⟨h1, h2⟩
      clear hD
      go_enter Tryz.func34, Tryz.ntmps34
      go_wp2
      go_ret
      exact ⟨by rw [HD.out]; rfl, rfl⟩
    · have HD : Hid (D = false) := by show _ = _; rw [hD]; exact decide_eq_false (fun h => h2 h.2)
      clear hD
      go_enter Tryz.func34, Tryz.ntmps34
      go_wp2
      go_ret
      exact ⟨by rw [HD.out]; rfl, rfl⟩
  · have HD : Hid (D = false) := by show _ = _; rw [hD]; exact decide_eq_false (fun h => h1 h.1)
    clear hD
    go_enter Tryz.func34, Tryz.ntmps34
    go_wp2
    go_ret
    exact ⟨by rw [HD.out]; rfl, rfl⟩

set_option maxHeartbeats 1000000 in
theorem valuesOk_any (oa : Option Addr) (m cm : Nat) (xs : List ByteArray) (w : World) (hx : TextsA w oa m xs) (hm : m ≤ 2000000) (hsz : ∀ i, i < m → (textAt xs i).size ≤ maxLen) :
    Calls Tryz.prog 38 #[.slice oa m cm] w fun e w' => BoolIs (∀ y ∈ xs, ValOk y) w e w' := by
  have HV : Hid (∀ W, Below w.heap.size w W → TextsA W oa m xs) := fun W h => hx.below h
  have HL : Hid (xs.length = m) := hx.1
  have HS : Hid (∀ i, i < m → (textAt xs i).size ≤ maxLen) := hsz
  clear hx hsz
  go_enter Tryz.func38, Tryz.ntmps38
  go_wp2
  go_loopw [7] (fun i wr => ∃ j : Nat, j ≤ m ∧ i = .int .i64 (j : Int) ∧ Hid (Below w.heap.size w wr) ∧ Hid (∀ x ∈ xs.take j, ValOk x)) (fun i _ => m - (intOf i).toNat)
  case atStart => exact ⟨0, Nat.zero_le _, rfl, Below.refl _ _, fun x hx => by simp at hx⟩
  case round =>
    obtain ⟨j, hj, rfl, HW, HN⟩ := hrel
    by_cases hlt : (j : Int) < (m : Int)
    · have hjx : j < xs.length := by rw [HL.out]; omega
      obtain ⟨g, hog, hg, hc⟩ := (HV.out wr HW.out).2 j (by omega)
      subst hog
      have hs := HS.out j (by omega)
      obtain ⟨x, hxx⟩ : ∃ x, x = textAt xs j := ⟨_, rfl⟩
      rw [← hxx] at hc hs
      have HM : Hid (x ∈ xs) := by show _ ∈ _; rw [hxx]; exact textAt_mem xs j hjx
      have HTK : Hid (xs.take (j + 1) = xs.take j ++ [x]) := by show _ = _; rw [take_textAt xs j hjx, hxx]
      clear hxx hjx
      go_wp2_with fail
      refine (implValueOk_any x _ hs).mono ?_
      rintro e w90 ⟨tx, rfl, htx, bw⟩
      have HW2 : Hid (Below w.heap.size w w90) := HW.out.trans (bw.mono HW.out.size)
      clear bw hc HW
      cases tx with
      | false =>
        have HF : Hid (¬ ∀ y ∈ xs, ValOk y) := fun h => nomatch htx.2 (h x HM.out)
        clear htx HN
        go_wp2_with fail
        go_ret
        exact BoolIs.no HF.out HW2.out
      | true =>
        have HN2 : Hid (∀ y ∈ xs.take (j + 1), ValOk y) := by
          intro y hy
          rw [HTK.out] at hy
          rcases List.mem_append.1 hy with hy | hy
          · exact HN.out y hy
          · rw [List.mem_singleton.1 hy]; exact htx.1 rfl
        clear htx HN
        go_wp2_with fail
        go_roundw
        case rel => exact ⟨j + 1, by omega, by go_num, HW2, HN2⟩
        case measure => simp [intOf]; omega
    · have HA : Hid (∀ y ∈ xs, ValOk y) := by
        have h := HN.out
        rw [List.take_of_length_le (by rw [HL.out]; omega)] at h
        exact h
      clear HN
      go_wp2_with fail
      go_ret
      exact ⟨true, rfl, ⟨fun _ => HA.out, fun _ => rfl⟩, HW.out⟩

theorem equalT_any (oa ob : Option Addr) (m cm k ck : Nat) (xs ys : List ByteArray) (w : World) (hx : TextsA w oa m xs) (hm : m ≤ 2000000) (hy : TextsA w ob k ys) (hk : k ≤ 2000000) :
    Calls Tryz.prog 35 #[.slice oa m cm, .slice ob k ck] w fun e w' => e = .returned (.bool (decide (xs = ys))) ∧ Below w.heap.size w w' := by
  by_cases hmk : m = k
  · subst hmk
    by_cases h0 : m = 0
    · subst h0
      refine (Tryz.slices_Equal_string_empty oa ob cm 0 ck w (by omega)).mono ?_
      rintro e w1 ⟨rfl, rfl⟩
      refine ⟨?_, Below.refl _ _⟩
      rw [List.length_eq_zero_iff.1 hx.1, List.length_eq_zero_iff.1 hy.1]
      simp
    · obtain ⟨g, rfl, _, _⟩ := hx.2 0 (by omega)
      obtain ⟨q, rfl, _, _⟩ := hy.2 0 (by omega)
      refine (Tryz.slices_Equal_string g 0 m cm q 0 m ck xs ys w (by rw [hx.1]; exact Nat.le_refl _) (by rw [hy.1]; exact Nat.le_refl _) (by omega) (by omega) (fun j hj => ?_) (fun j hj => ?_)).mono ?_
      · obtain ⟨g2, e2, _, h3⟩ := hx.2 j (by rw [← hx.1]; exact hj)
        cases e2
        rw [Nat.zero_add]
        exact h3
      · obtain ⟨g2, e2, _, h3⟩ := hy.2 j (by rw [← hy.1]; exact hj)
        cases e2
        rw [Nat.zero_add]
        exact h3
      · rintro e w1 ⟨rfl, n, rfl⟩
        refine ⟨?_, ⟨rfl, rfl, rfl, Nat.le_refl _, fun _ _ => rfl⟩⟩
        rw [List.take_of_length_le (by rw [hx.1]; exact Nat.le_refl _), List.take_of_length_le (by rw [hy.1]; exact Nat.le_refl _)]
  · refine (Tryz.slices_Equal_string_lens oa ob m cm k ck w hmk).mono ?_
    rintro e w1 ⟨rfl, rfl⟩
    refine ⟨?_, Below.refl _ _⟩
    rw [decide_eq_false (fun h => hmk (by rw [← hx.1, ← hy.1, h]))]

end Go.Proofs.YtdlhicdfldecgaaGreatDoor

namespace Go.Proofs.YtdlhicdfldecgaaGreatDoor
open Go.RowKit
open Go.Lib hiding intOf

set_option maxHeartbeats 1000000 in
theorem namesOk_any (oa : Option Addr) (m cm : Nat) (xs : List ByteArray) (w : World) (hx : TextsA w oa m xs) (hm : m ≤ 2000000) (hsz : ∀ i, i < m → (textAt xs i).size ≤ maxLen) :
    Calls Tryz.prog 37 #[.slice oa m cm] w fun e w' => BoolIs (NamesP xs) w e w' := by
  by_cases h4 : (4 : Int) < (m : Int)
  · have HF : Hid (¬ NamesP xs) := fun h => by have := h.2; rw [hx.1] at this; omega
    clear hx hsz
    go_enter Tryz.func37, Tryz.ntmps37
    go_wp2_with fail
    go_ret
    exact BoolIs.no HF.out (Below.refl _ _)
  have HX : Hid (∀ W, Below w.heap.size w W → TextsA W oa m xs) := fun W h => hx.below h
  have HL : Hid (xs.length = m) := hx.1
  have HS : Hid (∀ i, i < m → (textAt xs i).size ≤ maxLen) := hsz
  clear hx hsz
  go_enter Tryz.func37, Tryz.ntmps37
  go_wp2_with fail
  go_loopw [10] (fun i wr => ∃ j : Nat, j ≤ m ∧ i = .int .i64 (j : Int) ∧ Below w.heap.size w wr ∧ Hid (∀ x ∈ xs.take j, TokOk x)) (fun i _ => m - (intOf i).toNat)
  case atStart => exact ⟨0, Nat.zero_le _, rfl, Below.refl _ _, fun x hx => by simp at hx⟩
  case round =>
    obtain ⟨j, hj, rfl, hbw, HN⟩ := hrel
    by_cases hlt : (j : Int) < (m : Int)
    · have hjx : j < xs.length := by rw [HL.out]; omega
      obtain ⟨g, rfl, hg, hc⟩ := (HX.out wr hbw).2 j (by omega)
      have hs := HS.out j (by omega)
      obtain ⟨x, hxx⟩ : ∃ x, x = textAt xs j := ⟨_, rfl⟩
      rw [← hxx] at hc hs
      have HM : Hid (x ∈ xs) := by show _ ∈ _; rw [hxx]; exact textAt_mem xs j hjx
      have HT : Hid (xs.take (j + 1) = xs.take j ++ [x]) := by show _ = _; rw [take_textAt xs j hjx, hxx]
      clear hxx hjx
      go_wp2_with fail
      refine (implTokenOk_any x _ hs).mono ?_
      rintro e w1 ⟨t, rfl, ht, b1⟩
      have hb1 : Below w.heap.size w w1 := hbw.trans (b1.mono hbw.size)
      clear b1 hbw hc
      cases t with
      | false =>
        have HF : Hid (¬ NamesP xs) := fun h => nomatch ht.2 (h.1 x HM.out)
        clear ht HN
        go_wp2_with fail
        go_ret
        exact BoolIs.no HF.out hb1
      | true =>
        have HN2 : Hid (∀ y ∈ xs.take (j + 1), TokOk y) := by
          intro y hy
          rw [HT.out] at hy
          rcases List.mem_append.1 hy with hy | hy
          · exact HN.out y hy
          · rw [List.mem_singleton.1 hy]; exact ht.1 rfl
        clear ht HN
        go_wp2_with fail
        go_roundw
        case rel => exact ⟨j + 1, by omega, by go_num, hb1, HN2⟩
        case measure => simp [intOf]; omega
    · have HQ : Hid (NamesP xs) := ⟨by
        have h := HN.out
        rw [List.take_of_length_le (by rw [HL.out]; omega)] at h
        exact h, by rw [HL.out]; omega⟩
      clear HN
      go_wp2_with fail
      go_ret
      exact ⟨true, rfl, ⟨fun _ => HQ.out, fun _ => rfl⟩, hbw⟩

end Go.Proofs.YtdlhicdfldecgaaGreatDoor

namespace Go.Proofs.YtdlhicdfldecgaaGreatDoor
open Go.RowKit
open Go.Lib hiding intOf

set_option maxHeartbeats 20000000 in
set_option maxRecDepth 100000 in
theorem implObjOk_any (p : ByteArray) (o1 : Option Addr) (n1 c1 : Nat) (xs : List ByteArray) (o2 : Option Addr) (n2 c2 : Nat) (ys : List ByteArray) (st : Int) (v3 : Value) (n3 base : Nat) (fs : List (ByteArray × ByteArray)) (b : ByteArray) (t : Int) (w : World) (h1 : TextsA w o1 n1 xs) (h2 : TextsA w o2 n2 ys) (h3 : FieldsV w base v3 n3 fs) (hn1 : n1 ≤ 2000000) (hn2 : n2 ≤ 2000000) (hn3 : n3 ≤ 2000000) (hs1 : ∀ i, i < n1 → (textAt xs i).size ≤ maxLen) (hs2 : ∀ i, i < n2 → (textAt ys i).size ≤ maxLen) (hs3 : WalkF n3 fs) (hc : CopyF fs) (hp : p.size ≤ maxLen) (hx : b.size ≤ maxLen) (hg : (getV fs varyName).size ≤ 1048576) :
    Calls Tryz.prog 10 #[.agg #[.string p, .slice o1 n1 c1, .slice o2 n2 c2, .int .i64 st, v3, .string b, .int .i64 t]] w fun e w' => BoolIs (ObjP p xs ys st fs b t) w e w' := by
  obtain ⟨o3, c3, rfl, _⟩ := h3.slice
  have HV1 : Hid (∀ W, Below w.heap.size w W → TextsA W o1 n1 xs) := fun W h => h1.below h
  have HV2 : Hid (∀ W, Below w.heap.size w W → TextsA W o2 n2 ys) := fun W h => h2.below h
  have HV3 : Hid (∀ W, Below w.heap.size w W → FieldsV W base (.slice o3 n3 c3) n3 fs) := fun W h => h3.below h
  have HL1 : Hid (xs.length = n1) := h1.1
  have HL2 : Hid (ys.length = n2) := h2.1
  have HS1 : Hid (∀ i, i < n1 → (textAt xs i).size ≤ maxLen) := hs1
  have HS2 : Hid (∀ i, i < n2 → (textAt ys i).size ≤ maxLen) := hs2
  have HS3 : Hid (WalkF n3 fs) := hs3
  have HC : Hid (CopyF fs) := hc
  have HPM : Hid (p.size ≤ maxLen) := hp
  have HX : Hid (b.size ≤ maxLen) := hx
  have HG : Hid ((getV fs varyName).size ≤ 1048576) := hg
  obtain ⟨vl, hvl⟩ : ∃ l, l = varyP fs := ⟨_, rfl⟩
  have HVL : Hid (varyP fs = vl) := hvl.symm
  have HVZ : Hid (vl.length ≤ 2000000) := by
    show _ ≤ _
    have hle := splitL_le (getV fs varyName)
    rw [hvl]
    unfold varyP
    rw [List.length_map]
    omega
  clear h1 h2 h3 hs1 hs2 hs3 hc hp hx hg hvl
  have hb0 : Below w.heap.size w w := Below.refl _ _
  go_enter Tryz.func10, Tryz.ntmps10
  go_upto_region 1 with fail
  obtain ⟨qv1, hqv1⟩ : ∃ q, q = (w).heap.size := ⟨_, rfl⟩
  obtain ⟨w1, hW1⟩ : ∃ W, W = (w).alloc (.cells #[.string p, .slice o1 n1 c1, .slice o2 n2 c2, .int .i64 st, .slice o3 n3 c3, .string b, .int .i64 t] 29) := ⟨_, rfl⟩
  have hz1 : (w).heap.size = qv1 := hqv1.symm
  first | rw [← hW1, ← hqv1] | rw [← hW1]
  have hs1 : w1.heap.size = qv1 + 1 := by rw [hW1, ← hz1]; simp
  have bw : Below (w).heap.size (w) w1 := by rw [hW1]; exact (Below.refl _ _).alloc (Nat.le_refl _) _
  have hb1 : Below w.heap.size w (w1) := hb0.trans (bw.mono hb0.size)
  have HM1 : Hid ((w).heap.size ≤ (w1).heap.size) := bw.size
  have HBv1_1 : Hid ((w1).heap[qv1]? = some (.cells #[.string p, .slice o1 n1 c1, .slice o2 n2 c2, .int .i64 st, .slice o3 n3 c3, .string b, .int .i64 t] 29)) := by show _ = _; rw [hW1, ← hz1]; exact heap_alloc_new _ _
  have HGv1 : Hid (w.heap.size ≤ qv1) := by show _ ≤ _; rw [← hz1]; exact hb0.size
  clear hb0 bw hW1 hz1
  clear hs1 hqv1
  have cv1_3 : (w1).cell? ⟨qv1, 3, none⟩ = some (.int .i64 st) := (cell_of HBv1_1.out 3).trans rfl
  have cv1_4 : (w1).cell? ⟨qv1, 4, none⟩ = some (.slice o3 n3 c3) := (cell_of HBv1_1.out 4).trans rfl
  have cv1_5 : (w1).cell? ⟨qv1, 5, none⟩ = some (.string b) := (cell_of HBv1_1.out 5).trans rfl
  go_wp2_with fail
  refine (implRespOk_any st _ b n3 base fs _ (HV3.out _ hb1) (by omega) HS3.out HX.out).mono ?_
  rintro e w2 ⟨u1, rfl, htu1, bw⟩
  have hb2 : Below w.heap.size w (w2) := hb1.trans (bw.mono hb1.size)
  have HM2 : Hid ((w1).heap.size ≤ (w2).heap.size) := bw.size
  have HBv1_2 : Hid ((w2).heap[qv1]? = some (.cells #[.string p, .slice o1 n1 c1, .slice o2 n2 c2, .int .i64 st, .slice o3 n3 c3, .string b, .int .i64 t] 29)) := blk_below HBv1_1.out bw
  clear hb1 HBv1_1 bw
  clear cv1_3 cv1_4 cv1_5
  cases u1 with
  | false =>
    have HF : Hid (¬ ObjP p xs ys st fs b t) := fun h => nomatch htu1.2 h.1
    clear htu1
    go_wp2_with fail
    go_ret
    exact BoolIs.no HF.out hb2
  | true =>
    have HR : Hid (RespP st fs b) := htu1.1 rfl
    clear htu1
    have cv1_0 : (w2).cell? ⟨qv1, 0, none⟩ = some (.string p) := (cell_of HBv1_2.out 0).trans rfl
    go_wp2_with fail
    refine (pathOk_any p _ HPM.out).mono ?_
    rintro e w3 ⟨u2, rfl, htu2, bw⟩
    have hb3 : Below w.heap.size w (w3) := hb2.trans (bw.mono hb2.size)
    have HM3 : Hid ((w2).heap.size ≤ (w3).heap.size) := bw.size
    have HBv1_3 : Hid ((w3).heap[qv1]? = some (.cells #[.string p, .slice o1 n1 c1, .slice o2 n2 c2, .int .i64 st, .slice o3 n3 c3, .string b, .int .i64 t] 29)) := blk_below HBv1_2.out bw
    clear hb2 HBv1_2 bw
    clear cv1_0
    cases u2 with
    | false =>
      have HF : Hid (¬ ObjP p xs ys st fs b t) := fun h => nomatch htu2.2 h.2.1
      clear htu2
      go_wp2_with fail
      go_ret
      exact BoolIs.no HF.out hb3
    | true =>
      have HP : Hid (PathOk p) := htu2.1 rfl
      clear htu2
      have cv1_6 : (w3).cell? ⟨qv1, 6, none⟩ = some (.int .i64 t) := (cell_of HBv1_3.out 6).trans rfl
      go_wp2_with fail
      refine (timeOk_any t _).mono ?_
      rintro e w4 ⟨rfl, hwe⟩
      have bw : Below (w3).heap.size (w3) w4 := by rw [hwe]; exact Below.refl _ _
      clear hwe
      obtain ⟨u3, hu3⟩ : ∃ u3, u3 = decide ((0 : Int) ≤ t ∧ t ≤ 1000000) := ⟨_, rfl⟩
      rw [← hu3]
      have hb4 : Below w.heap.size w (w4) := hb3.trans (bw.mono hb3.size)
      have HM4 : Hid ((w3).heap.size ≤ (w4).heap.size) := bw.size
      have HBv1_4 : Hid ((w4).heap[qv1]? = some (.cells #[.string p, .slice o1 n1 c1, .slice o2 n2 c2, .int .i64 st, .slice o3 n3 c3, .string b, .int .i64 t] 29)) := blk_below HBv1_3.out bw
      clear hb3 HBv1_3 bw
      clear cv1_6
      cases u3 with
      | false =>
        have HF : Hid (¬ ObjP p xs ys st fs b t) := fun h => absurd h.2.2.1 (of_decide_eq_false hu3.symm)
        clear hu3
        go_wp2_with fail
        go_ret
        exact BoolIs.no HF.out hb4
      | true =>
        have HT : Hid (0 ≤ t ∧ t ≤ 1000000) := (show 0 ≤ t ∧ t ≤ 1000000 from of_decide_eq_true hu3.symm)
        clear hu3
        go_upto_region 3 with fail
        refine wp_region_held_drew (S := fun W => W.heap[qv1]? = some (.cells #[.string p, .slice o1 n1 c1, .slice o2 n2 c2, .int .i64 st, .slice o3 n3 c3, .string b, .int .i64 t] 29)) (by kernel_rfl) HBv1_4.out (fun _ => ?_)
        obtain ⟨w5, hX⟩ : ∃ X, X = w4.drew := ⟨_, rfl⟩
        have bw : Below w4.heap.size w4 w5 := by rw [hX]; exact (Below.refl _ _).drew
        rw [← hX]
        have hb5 : Below w.heap.size w (w5) := hb4.trans (bw.mono hb4.size)
        have HM5 : Hid ((w4).heap.size ≤ (w5).heap.size) := bw.size
        have HBv1_5 : Hid ((w5).heap[qv1]? = some (.cells #[.string p, .slice o1 n1 c1, .slice o2 n2 c2, .int .i64 st, .slice o3 n3 c3, .string b, .int .i64 t] 29)) := blk_below HBv1_4.out bw
        have hS5 : w5.heap[qv1]? = some (.cells #[.string p, .slice o1 n1 c1, .slice o2 n2 c2, .int .i64 st, .slice o3 n3 c3, .string b, .int .i64 t] 29) := HBv1_5.out
        clear hb4 HBv1_4 bw hX
        refine wpAnyH_takeD (i := 0) (v := .pointer (some ⟨qv1, 1, none⟩)) (some 20) rfl rfl (by kernel_rfl) (by kernel_rfl) (by kernel_rfl) (fun _ _ _ h => h) (Or.inl ⟨by rfl, by intro W _; go_simp⟩) hS5 ?_
        simp only [Act.put, List.setIfInBounds_toArray, List.set_cons_zero, List.set_cons_succ]
        refine wpAnyH_takeD (i := 1) (v := .slice o1 n1 c1) (some 21) rfl rfl (by kernel_rfl) (by kernel_rfl) (by kernel_rfl) (fun _ _ _ h => h) (Or.inl ⟨by rfl, by intro W hW; have hhv1 := hW; have y1 := (cell_of hhv1 1).trans rfl; go_simp⟩) hS5 ?_
        simp only [Act.put, List.setIfInBounds_toArray, List.set_cons_zero, List.set_cons_succ]
        refine wpAnyH_takeD (i := 2) (v := .pointer (some ⟨qv1, 3, none⟩)) (some 22) rfl rfl (by kernel_rfl) (by kernel_rfl) (by kernel_rfl) (fun _ _ _ h => h) (Or.inl ⟨by rfl, by intro W _; go_simp⟩) hS5 ?_
        simp only [Act.put, List.setIfInBounds_toArray, List.set_cons_zero, List.set_cons_succ]
        refine wpAnyH_takeD (i := 3) (v := .pointer (some ⟨qv1, 4, none⟩)) (some 23) rfl rfl (by kernel_rfl) (by kernel_rfl) (by kernel_rfl) (fun _ _ _ h => h) (Or.inl ⟨by rfl, by intro W _; go_simp⟩) hS5 ?_
        simp only [Act.put, List.setIfInBounds_toArray, List.set_cons_zero, List.set_cons_succ]
        refine wpAnyH_takeD (i := 4) (v := .slice o3 n3 c3) (some 24) rfl rfl (by kernel_rfl) (by kernel_rfl) (by kernel_rfl) (fun _ _ _ h => h) (Or.inl ⟨by rfl, by intro W hW; have hhv1 := hW; have y4 := (cell_of hhv1 4).trans rfl; go_simp⟩) hS5 ?_
        simp only [Act.put, List.setIfInBounds_toArray, List.set_cons_zero, List.set_cons_succ]
        refine wpAnyH_ready (rs := [5]) (by kernel_rfl) (by simp) ?_
        refine AllReadyH.cons rfl (fun K hK => ?_) AllReadyH.nil
        go_simp
        refine (implVaryOf_any _ n3 base fs _ (HV3.out _ hb5) (by omega) HC.out HG.out).mono ?_
        rintro e w6 ⟨vv, rfl, ownY, bw⟩
        obtain ⟨oY, pY, rfl⟩ := slice_of_owns ownY
        rw [HVL.out] at ownY ⊢
        have hb6 : Below w.heap.size w (w6) := hb5.trans (bw.mono hb5.size)
        have HM6 : Hid ((w5).heap.size ≤ (w6).heap.size) := bw.size
        have HBv1_6 : Hid ((w6).heap[qv1]? = some (.cells #[.string p, .slice o1 n1 c1, .slice o2 n2 c2, .int .i64 st, .slice o3 n3 c3, .string b, .int .i64 t] 29)) := blk_below HBv1_5.out bw
        have HOY_6 : Hid ((w6).ownsRow w.heap.size 9 1 (.slice oY vl.length pY) vl.length (vl.map Value.string)) := owns_wide ownY hb5.size
        have LOY : Hid (∀ g, (Value.ownBlock (.slice oY vl.length pY)) = some g → (w5).heap.size ≤ g) := fun g hg => owns_ge ownY hg
        have HIY : Hid (∀ g, (Value.ownBlock (.slice oY vl.length pY)) = some g → g < (w6).heap.size) := fun g hg => owns_lt ownY hg
        clear ownY
        clear hb5 HBv1_5 bw
        have hS6 : w6.heap[qv1]? = some (.cells #[.string p, .slice o1 n1 c1, .slice o2 n2 c2, .int .i64 st, .slice o3 n3 c3, .string b, .int .i64 t] 29) := HBv1_6.out
        refine hK.out _ _ hS6 (fun _ => ?_)
        clear hK K hS5
        refine wpAnyH_ready (rs := [6]) (by kernel_rfl) (by simp) ?_
        refine AllReadyH.cons rfl (fun K hK => ?_) AllReadyH.nil
        go_simp
        refine (equalT_any _ _ _ _ _ _ xs vl _ (HV1.out _ hb6) (by omega) (texts_view HOY_6.out) HVZ.out).mono ?_
        rintro e w7 ⟨rfl, bw⟩
        obtain ⟨u5, hu5⟩ : ∃ u5, u5 = decide (xs = vl) := ⟨_, rfl⟩
        rw [← hu5]
        have hb7 : Below w.heap.size w (w7) := hb6.trans (bw.mono hb6.size)
        have HM7 : Hid ((w6).heap.size ≤ (w7).heap.size) := bw.size
        have HOY_7 : Hid ((w7).ownsRow w.heap.size 9 1 (.slice oY vl.length pY) vl.length (vl.map Value.string)) := owns_below HOY_6.out bw (fun g hg => owns_lt HOY_6.out hg)
        have HBv1_7 : Hid ((w7).heap[qv1]? = some (.cells #[.string p, .slice o1 n1 c1, .slice o2 n2 c2, .int .i64 st, .slice o3 n3 c3, .string b, .int .i64 t] 29)) := blk_below HBv1_6.out bw
        clear hb6 HOY_6 HBv1_6 bw
        have hS7 : w7.heap[qv1]? = some (.cells #[.string p, .slice o1 n1 c1, .slice o2 n2 c2, .int .i64 st, .slice o3 n3 c3, .string b, .int .i64 t] 29) := HBv1_7.out
        refine hK.out _ _ hS7 (fun _ => ?_)
        clear hK K hS6
        refine wpAnyH_takeD (i := 7) (v := .bool u5) (some 27) rfl rfl (by kernel_rfl) (by kernel_rfl) (by kernel_rfl) (fun _ _ _ h => h) (Or.inl ⟨by rfl, by intro W _; go_simp⟩) hS7 ?_
        simp only [Act.put, List.setIfInBounds_toArray, List.set_cons_zero, List.set_cons_succ]
        cases u5 with
        | false =>
          have HF : Hid (¬ ObjP p xs ys st fs b t) := fun h => absurd (h.2.2.2.2.1.trans HVL.out) (of_decide_eq_false hu5.symm)
          clear hu5
          refine wpAnyH_takeD (i := 8) (v := undef) (some 28) rfl rfl (by kernel_rfl) (by kernel_rfl) (by kernel_rfl) (fun _ _ _ h => h) (Or.inr ⟨by rfl, rfl⟩) hS7 ?_
          simp only [Act.put, List.setIfInBounds_toArray, List.set_cons_zero, List.set_cons_succ]
          refine wpAnyH_takeD (i := 9) (v := undef) (some 29) rfl rfl (by kernel_rfl) (by kernel_rfl) (by kernel_rfl) (fun _ _ _ h => h) (Or.inr ⟨by rfl, rfl⟩) hS7 ?_
          simp only [Act.put, List.setIfInBounds_toArray, List.set_cons_zero, List.set_cons_succ]
          refine wpAnyH_takeD (i := 10) (v := undef) (some 30) rfl rfl (by kernel_rfl) (by kernel_rfl) (by kernel_rfl) (fun _ _ _ h => h) (Or.inr ⟨by rfl, rfl⟩) hS7 ?_
          simp only [Act.put, List.setIfInBounds_toArray, List.set_cons_zero, List.set_cons_succ]
          refine wpAnyH_takeD (i := 11) (v := .bool false) (some 31) rfl rfl (by kernel_rfl) (by kernel_rfl) (by kernel_rfl) (fun _ _ _ h => h) (Or.inl ⟨by rfl, by intro W _; go_simp⟩) hS7 ?_
          simp only [Act.put, List.setIfInBounds_toArray, List.set_cons_zero, List.set_cons_succ]
          refine wpAnyH_takeD (i := 12) (v := .bool false) (some 3) rfl rfl (by kernel_rfl) (by kernel_rfl) (by kernel_rfl) (fun _ _ _ h => h) (Or.inl ⟨by rfl, by intro W _; go_simp⟩) hS7 ?_
          simp only [Act.put, List.setIfInBounds_toArray, List.set_cons_zero, List.set_cons_succ]
          clear hS7
          refine wpAnyH_done (by kernel_rfl) ?_ _
          go_wp2_with fail
          go_ret
          exact BoolIs.no HF.out hb7
        | true =>
          have HE : Hid (xs = vl) := (show xs = vl from of_decide_eq_true hu5.symm)
          clear hu5
          refine wpAnyH_takeD (i := 8) (v := .pointer (some ⟨qv1, 1, none⟩)) (some 28) rfl rfl (by kernel_rfl) (by kernel_rfl) (by kernel_rfl) (fun _ _ _ h => h) (Or.inl ⟨by rfl, by intro W _; go_simp⟩) hS7 ?_
          simp only [Act.put, List.setIfInBounds_toArray, List.set_cons_zero, List.set_cons_succ]
          refine wpAnyH_takeD (i := 9) (v := .slice o1 n1 c1) (some 29) rfl rfl (by kernel_rfl) (by kernel_rfl) (by kernel_rfl) (fun _ _ _ h => h) (Or.inl ⟨by rfl, by intro W hW; have hhv1 := hW; have y1 := (cell_of hhv1 1).trans rfl; go_simp⟩) hS7 ?_
          simp only [Act.put, List.setIfInBounds_toArray, List.set_cons_zero, List.set_cons_succ]
          refine wpAnyH_ready (rs := [10]) (by kernel_rfl) (by simp) ?_
          refine AllReadyH.cons rfl (fun K hK => ?_) AllReadyH.nil
          go_simp
          refine (namesOk_any _ _ _ xs _ (HV1.out _ hb7) (by omega) HS1.out).mono ?_
          rintro e w8 ⟨u4, rfl, htu4, bw⟩
          have hb8 : Below w.heap.size w (w8) := hb7.trans (bw.mono hb7.size)
          have HM8 : Hid ((w7).heap.size ≤ (w8).heap.size) := bw.size
          have HOY_8 : Hid ((w8).ownsRow w.heap.size 9 1 (.slice oY vl.length pY) vl.length (vl.map Value.string)) := owns_below HOY_7.out bw (fun g hg => owns_lt HOY_7.out hg)
          have HBv1_8 : Hid ((w8).heap[qv1]? = some (.cells #[.string p, .slice o1 n1 c1, .slice o2 n2 c2, .int .i64 st, .slice o3 n3 c3, .string b, .int .i64 t] 29)) := blk_below HBv1_7.out bw
          clear hb7 HOY_7 HBv1_7 bw
          have hS8 : w8.heap[qv1]? = some (.cells #[.string p, .slice o1 n1 c1, .slice o2 n2 c2, .int .i64 st, .slice o3 n3 c3, .string b, .int .i64 t] 29) := HBv1_8.out
          refine hK.out _ _ hS8 (fun _ => ?_)
          clear hK K hS7
          refine wpAnyH_takeD (i := 11) (v := .bool u4) (some 31) rfl rfl (by kernel_rfl) (by kernel_rfl) (by kernel_rfl) (fun _ _ _ h => h) (Or.inl ⟨by rfl, by intro W _; go_simp⟩) hS8 ?_
          simp only [Act.put, List.setIfInBounds_toArray, List.set_cons_zero, List.set_cons_succ]
          refine wpAnyH_takeD (i := 12) (v := .bool u4) (some 3) rfl rfl (by kernel_rfl) (by kernel_rfl) (by kernel_rfl) (fun _ _ _ h => h) (Or.inl ⟨by rfl, by intro W _; go_simp⟩) hS8 ?_
          simp only [Act.put, List.setIfInBounds_toArray, List.set_cons_zero, List.set_cons_succ]
          clear hS8
          refine wpAnyH_done (by kernel_rfl) ?_ _
          cases u4 with
          | false =>
            have HF : Hid (¬ ObjP p xs ys st fs b t) := fun h => nomatch htu4.2 h.2.2.2.1
            clear htu4
            go_wp2_with fail
            go_ret
            exact BoolIs.no HF.out hb8
          | true =>
            have HNM : Hid (NamesP xs) := htu4.1 rfl
            clear htu4
            by_cases hc1 : (n2 : Int) = (n1 : Int)
            · have hc1b : (((n2 : Int) : Int) == ((n1 : Int) : Int)) = true := by simpa using hc1
              have hc1n : (((n2 : Int) : Int) != ((n1 : Int) : Int)) = false := by simpa using hc1
              have HEQ : Hid ((n2 : Int) = (n1 : Int)) := hc1
              have hc1H : Hid ((n2 : Int) = (n1 : Int)) := hc1
              clear hc1
              have cv1_1 : (w8).cell? ⟨qv1, 1, none⟩ = some (.slice o1 n1 c1) := (cell_of HBv1_8.out 1).trans rfl
              have cv1_2 : (w8).cell? ⟨qv1, 2, none⟩ = some (.slice o2 n2 c2) := (cell_of HBv1_8.out 2).trans rfl
              go_wp2_with fail
              refine (valuesOk_any _ _ _ ys _ (HV2.out _ hb8) (by omega) HS2.out).mono ?_
              rintro e w9 ⟨u6, rfl, htu6, bw⟩
              have hb9 : Below w.heap.size w (w9) := hb8.trans (bw.mono hb8.size)
              have HM9 : Hid ((w8).heap.size ≤ (w9).heap.size) := bw.size
              have HOY_9 : Hid ((w9).ownsRow w.heap.size 9 1 (.slice oY vl.length pY) vl.length (vl.map Value.string)) := owns_below HOY_8.out bw (fun g hg => owns_lt HOY_8.out hg)
              have HBv1_9 : Hid ((w9).heap[qv1]? = some (.cells #[.string p, .slice o1 n1 c1, .slice o2 n2 c2, .int .i64 st, .slice o3 n3 c3, .string b, .int .i64 t] 29)) := blk_below HBv1_8.out bw
              clear hb8 HOY_8 HBv1_8 bw
              clear cv1_1 cv1_2
              go_wp2_with fail
              go_ret
              exact ⟨u6, rfl, ⟨fun h => ⟨HR.out, HP.out, HT.out, HNM.out, HE.out.trans HVL.out.symm, by have h1 := HL1.out; have h2 := HL2.out; have h3 := HEQ.out; omega, htu6.1 h⟩, fun h => htu6.2 h.2.2.2.2.2.2⟩, hb9⟩
            · have hc1b : (((n2 : Int) : Int) == ((n1 : Int) : Int)) = false := by simpa using hc1
              have hc1n : (((n2 : Int) : Int) != ((n1 : Int) : Int)) = true := by simpa using hc1
              have HF : Hid (¬ ObjP p xs ys st fs b t) := fun h => by have h1 := h.2.2.2.2.2.1; have h2 := HL1.out; have h3 := HL2.out; omega
              have hc1H : Hid (¬ ((n2 : Int) = (n1 : Int))) := hc1
              clear hc1
              have cv1_1 : (w8).cell? ⟨qv1, 1, none⟩ = some (.slice o1 n1 c1) := (cell_of HBv1_8.out 1).trans rfl
              have cv1_2 : (w8).cell? ⟨qv1, 2, none⟩ = some (.slice o2 n2 c2) := (cell_of HBv1_8.out 2).trans rfl
              go_wp2_with fail
              go_ret
              exact BoolIs.no HF.out hb8

end Go.Proofs.YtdlhicdfldecgaaGreatDoor

namespace Go.Proofs.YtdlhicdfldecgaaGreatDoor
open Go.RowKit
open Go.Lib hiding intOf

theorem Holding.later {B : Nat} {t : ByteArray} {w w' : World} (h : Holding B t w) (hb : Below w.heap.size w w') : Holding B t w' := by
  have key : ∀ p, BuilderAt 53 5 B B p (strCells t) w → BuilderAt 53 5 B B p (strCells t) w' := by
    rintro p ⟨h1, v, h2, h3, h4⟩
    have hlt : B < w.heap.size := (Array.getElem?_eq_some_iff.1 h2).1
    refine ⟨h1, v, by rw [hb.block _ hlt]; exact h2, owns_below h3 hb (fun g hg => ?_), h4⟩
    rcases h3.2 with ⟨rfl, _⟩ | ⟨g', cap, cur, rfl, _, h5, _⟩
    · simp [Value.ownBlock] at hg
    · simp [Value.ownBlock] at hg
      subst hg
      exact (Array.getElem?_eq_some_iff.1 h5).1
  rcases h with h | h
  · exact .inl (key _ h)
  · exact .inr (key _ h)

end Go.Proofs.YtdlhicdfldecgaaGreatDoor

namespace Go.Proofs.YtdlhicdfldecgaaGreatDoor
open Go.RowKit
open Go.Lib hiding intOf

set_option maxHeartbeats 8000000 in
set_option maxRecDepth 100000 in
theorem implObjText_any (p : ByteArray) (o1 : Option Addr) (n1 c1 : Nat) (xs : List ByteArray) (o2 : Option Addr) (n2 c2 : Nat) (ys : List ByteArray) (st : Int) (v3 : Value) (n3 base : Nat) (fs : List (ByteArray × ByteArray)) (b : ByteArray) (t : Int) (w : World) (h1 : TextsA w o1 n1 xs) (h2 : TextsA w o2 n2 ys) (h3 : FieldsV w base v3 n3 fs) (hn1 : n1 ≤ 2000000) (hn2 : n2 ≤ 2000000) (hn3 : n3 ≤ 2000000) (hs1 : ∀ i, i < n1 → (textAt xs i).size ≤ maxLen) (hs2 : ∀ i, i < n2 → (textAt ys i).size ≤ maxLen) (hs3 : WalkF n3 fs) (hp : p.size ≤ maxLen) (hx : b.size ≤ maxLen) (hg : (getV fs varyName).size ≤ 1048576) (hc : CopyF fs) (htab : TabOk w) :
    Calls Tryz.prog 8 #[.agg #[.string p, .slice o1 n1 c1, .slice o2 n2 c2, .int .i64 st, v3, .string b, .int .i64 t]] w fun e w' => TextOf (ObjP p xs ys st fs b t) (objT p ys st fs b t) w e w' := by
  obtain ⟨o3, c3, rfl, _⟩ := h3.slice
  have HV1 : Hid (∀ W, Below w.heap.size w W → TextsA W o1 n1 xs) := fun W h => h1.below h
  have HV2 : Hid (∀ W, Below w.heap.size w W → TextsA W o2 n2 ys) := fun W h => h2.below h
  have HV3 : Hid (∀ W, Below w.heap.size w W → FieldsV W base (.slice o3 n3 c3) n3 fs) := fun W h => h3.below h
  have HL2 : Hid (ys.length = n2) := h2.1
  have HS1 : Hid (∀ i, i < n1 → (textAt xs i).size ≤ maxLen) := hs1
  have HS2 : Hid (∀ i, i < n2 → (textAt ys i).size ≤ maxLen) := hs2
  have HS3 : Hid (WalkF n3 fs) := hs3
  have HPM : Hid (p.size ≤ maxLen) := hp
  have HX : Hid (b.size ≤ maxLen) := hx
  have HG : Hid ((getV fs varyName).size ≤ 1048576) := hg
  have HC : Hid (CopyF fs) := hc
  have HTAB : Hid (∀ W, Below w.heap.size w W → TabOk W) := fun W h => htab.below h
  clear hc htab
  obtain ⟨tt, htt⟩ : ∃ x, x = numTextI t := ⟨_, rfl⟩
  have HTT : Hid (numTextI t = tt) := htt.symm
  obtain ⟨nn, hnn⟩ : ∃ x, x = numTextI ((n2 : Nat) : Int) := ⟨_, rfl⟩
  have HNN : Hid (numTextI ((n2 : Nat) : Int) = nn) := hnn.symm
  clear h1 h2 h3 hs1 hs2 hs3 hp hx hg htt hnn
  have hb0 : Below w.heap.size w w := Below.refl _ _
  go_enter Tryz.func8, Tryz.ntmps8
  go_upto_region 1 with fail
  obtain ⟨qv1, hqv1⟩ : ∃ q, q = (w).heap.size := ⟨_, rfl⟩
  obtain ⟨w1, hW1⟩ : ∃ W, W = (w).alloc (.cells #[.string p, .slice o1 n1 c1, .slice o2 n2 c2, .int .i64 st, .slice o3 n3 c3, .string b, .int .i64 t] 29) := ⟨_, rfl⟩
  have hz1 : (w).heap.size = qv1 := hqv1.symm
  first | rw [← hW1, ← hqv1] | rw [← hW1]
  have hs1 : w1.heap.size = qv1 + 1 := by rw [hW1, ← hz1]; simp
  have bw : Below (w).heap.size (w) w1 := by rw [hW1]; exact (Below.refl _ _).alloc (Nat.le_refl _) _
  have hb1 : Below w.heap.size w (w1) := hb0.trans (bw.mono hb0.size)
  have HM1 : Hid ((w).heap.size ≤ (w1).heap.size) := bw.size
  have HBv1_1 : Hid ((w1).heap[qv1]? = some (.cells #[.string p, .slice o1 n1 c1, .slice o2 n2 c2, .int .i64 st, .slice o3 n3 c3, .string b, .int .i64 t] 29)) := by show _ = _; rw [hW1, ← hz1]; exact heap_alloc_new _ _
  have HGv1 : Hid (w.heap.size ≤ qv1) := by show _ ≤ _; rw [← hz1]; exact hb0.size
  clear hb0 bw hW1 hz1
  clear hs1 hqv1
  have cv1_0 : (w1).cell? ⟨qv1, 0, none⟩ = some (.string p) := (cell_of HBv1_1.out 0).trans rfl
  have cv1_1 : (w1).cell? ⟨qv1, 1, none⟩ = some (.slice o1 n1 c1) := (cell_of HBv1_1.out 1).trans rfl
  have cv1_2 : (w1).cell? ⟨qv1, 2, none⟩ = some (.slice o2 n2 c2) := (cell_of HBv1_1.out 2).trans rfl
  have cv1_3 : (w1).cell? ⟨qv1, 3, none⟩ = some (.int .i64 st) := (cell_of HBv1_1.out 3).trans rfl
  have cv1_4 : (w1).cell? ⟨qv1, 4, none⟩ = some (.slice o3 n3 c3) := (cell_of HBv1_1.out 4).trans rfl
  have cv1_5 : (w1).cell? ⟨qv1, 5, none⟩ = some (.string b) := (cell_of HBv1_1.out 5).trans rfl
  have cv1_6 : (w1).cell? ⟨qv1, 6, none⟩ = some (.int .i64 t) := (cell_of HBv1_1.out 6).trans rfl
  go_wp2_with fail
  refine (implObjOk_any p _ n1 _ xs _ n2 _ ys st _ n3 base fs b t _ (HV1.out _ hb1) (HV2.out _ hb1) (HV3.out _ hb1) (by omega) (by omega) (by omega) HS1.out HS2.out HS3.out HC.out HPM.out HX.out HG.out).mono ?_
  rintro e w2 ⟨u1, rfl, htu1, bw⟩
  have hb2 : Below w.heap.size w (w2) := hb1.trans (bw.mono hb1.size)
  have HM2 : Hid ((w1).heap.size ≤ (w2).heap.size) := bw.size
  have HBv1_2 : Hid ((w2).heap[qv1]? = some (.cells #[.string p, .slice o1 n1 c1, .slice o2 n2 c2, .int .i64 st, .slice o3 n3 c3, .string b, .int .i64 t] 29)) := blk_below HBv1_1.out bw
  clear hb1 HBv1_1 bw
  clear cv1_0 cv1_1 cv1_2 cv1_3 cv1_4 cv1_5 cv1_6
  cases u1 with
  | false =>
    have HF : Hid (¬ ObjP p xs ys st fs b t) := fun h => nomatch htu1.2 h
    clear htu1
    go_wp2_with fail
    go_ret
    exact ⟨⟨#[]⟩, rfl, fun h => absurd h HF.out, fun _ => rfl, hb2⟩
  | true =>
    have HOK : Hid (ObjP p xs ys st fs b t) := htu1.1 rfl
    clear htu1
    have HT : Hid (0 ≤ t ∧ t ≤ 1000000) := HOK.out.2.2.1
    have HN4 : Hid (n2 ≤ 4) := by show _ ≤ _; have h4 := HOK.out.2.2.2.1.2; have h5 := HOK.out.2.2.2.2.2.1; have h6 := HL2.out; omega
    obtain ⟨hd, hhd⟩ : ∃ x, x = objHead p t n2 := ⟨_, rfl⟩
    have HHD : Hid (((((((⟨#[111, 98, 106, 32]⟩ ++ p) ++ ⟨#[32]⟩) ++ tt) ++ ⟨#[32]⟩) ++ nn) ++ ⟨#[10]⟩) = hd) := by
      show _ = _
      rw [hhd, ← HTT.out, ← HNN.out, numTextI_of HT.out.1, numTextI_of (by omega)]
      rfl
    have HVZ : Hid (∀ k, k ≤ n2 → (valsTo hd ys k).size ≤ 400) := fun k hk => by
      have h := vals_small HOK.out k (by rw [HL2.out]; exact hk)
      rw [HL2.out, ← hhd] at h
      have := HN4.out
      omega
    have HFIN : Hid (objT p ys st fs b t = valsTo hd ys n2 ++ respT st fs b) := by
      show _ = _
      unfold objT
      rw [HL2.out, ← hhd]
    have HRP : Hid (RespP st fs b) := HOK.out.1
    have zp : p.size ≤ 60 := HOK.out.2.1.2.2.1
    have ztt : tt.size ≤ 8 := by rw [← HTT.out, numTextI_of HT.out.1]; exact numText_size _
    have znn : nn.size ≤ 8 := by rw [← HNN.out, numTextI_of (by omega)]; exact numText_size _
    clear hhd
    go_upto_region 4 with fail
    obtain ⟨qv2, hqv2⟩ : ∃ q, q = (w2).heap.size := ⟨_, rfl⟩
    obtain ⟨w3, hW3⟩ : ∃ W, W = (w2).alloc (.cells #[.pointer none, .slice none 0 0] 53) := ⟨_, rfl⟩
    have hz3 : (w2).heap.size = qv2 := hqv2.symm
    first | rw [← hW3, ← hqv2] | rw [← hW3]
    have hs3 : w3.heap.size = qv2 + 1 := by rw [hW3, ← hz3]; simp
    have bw : Below (w2).heap.size (w2) w3 := by rw [hW3]; exact (Below.refl _ _).alloc (Nat.le_refl _) _
    have hb3 : Below w.heap.size w (w3) := hb2.trans (bw.mono hb2.size)
    have HM3 : Hid ((w2).heap.size ≤ (w3).heap.size) := bw.size
    have HBv1_3 : Hid ((w3).heap[qv1]? = some (.cells #[.string p, .slice o1 n1 c1, .slice o2 n2 c2, .int .i64 st, .slice o3 n3 c3, .string b, .int .i64 t] 29)) := blk_below HBv1_2.out bw
    have HNv1v2 : Hid (qv1 ≠ qv2) := fun e => by have h1 := (Array.getElem?_eq_some_iff.1 HBv1_2.out).1; omega
    have HLTv1v2 : Hid (qv1 < qv2) := by have h1 := (Array.getElem?_eq_some_iff.1 HBv1_2.out).1; show _ < _; omega
    have HBv2_3 : Hid ((w3).heap[qv2]? = some (.cells #[.pointer none, .slice none 0 0] 53)) := by show _ = _; rw [hW3, ← hz3]; exact heap_alloc_new _ _
    have HGv2 : Hid (w.heap.size ≤ qv2) := by show _ ≤ _; rw [← hz3]; exact hb2.size
    clear hb2 HBv1_2 bw hW3 hz3
    clear hs3 hqv2
    have EH_3 : Hid (Holding qv2 ⟨#[]⟩ w3) := Or.inl ⟨Nat.le_refl _, .slice none 0 0, HBv2_3.out, World.ownsRow_nil _ _ _ _, by simp [Value.ownBlock]⟩
    have HBS : Hid (qv2 ≤ w3.heap.size) := Nat.le_of_lt (Array.getElem?_eq_some_iff.1 HBv2_3.out).1
    clear HBv2_3
    go_upto_region 4 with fail
    refine wp_region_held_drew (S := fun W => W.heap[qv1]? = some (.cells #[.string p, .slice o1 n1 c1, .slice o2 n2 c2, .int .i64 st, .slice o3 n3 c3, .string b, .int .i64 t] 29)) (by kernel_rfl) HBv1_3.out (fun _ => ?_)
    obtain ⟨w4, hX⟩ : ∃ X, X = w3.drew := ⟨_, rfl⟩
    have bw : Below w3.heap.size w3 w4 := by rw [hX]; exact (Below.refl _ _).drew
    rw [← hX]
    have hb4 : Below w.heap.size w (w4) := hb3.trans (bw.mono hb3.size)
    have HM4 : Hid ((w3).heap.size ≤ (w4).heap.size) := bw.size
    have HBv1_4 : Hid ((w4).heap[qv1]? = some (.cells #[.string p, .slice o1 n1 c1, .slice o2 n2 c2, .int .i64 st, .slice o3 n3 c3, .string b, .int .i64 t] 29)) := blk_below HBv1_3.out bw
    have EH_4 : Hid (Holding qv2 (⟨#[]⟩) w4) := EH_3.out.later bw
    have hS4 : w4.heap[qv1]? = some (.cells #[.string p, .slice o1 n1 c1, .slice o2 n2 c2, .int .i64 st, .slice o3 n3 c3, .string b, .int .i64 t] 29) := HBv1_4.out
    clear hb3 HBv1_3 EH_3 bw hX
    refine wpAnyH_takeD (i := 0) (v := .pointer (some ⟨qv1, 0, none⟩)) (some 9) rfl rfl (by kernel_rfl) (by kernel_rfl) (by kernel_rfl) (fun _ _ _ h => h) (Or.inl ⟨by rfl, by intro W _; go_simp⟩) hS4 ?_
    simp only [Act.put, List.setIfInBounds_toArray, List.set_cons_zero, List.set_cons_succ]
    refine wpAnyH_takeD (i := 1) (v := .string p) (some 10) rfl rfl (by kernel_rfl) (by kernel_rfl) (by kernel_rfl) (fun _ _ _ h => h) (Or.inl ⟨by rfl, by intro W hW; have hhv1 := hW; have y0 := (cell_of hhv1 0).trans rfl; go_simp⟩) hS4 ?_
    simp only [Act.put, List.setIfInBounds_toArray, List.set_cons_zero, List.set_cons_succ]
    refine wpAnyH_takeD (i := 2) (v := .string (⟨#[111, 98, 106, 32]⟩ ++ p)) (some 11) rfl rfl (by kernel_rfl) (by kernel_rfl) (by kernel_rfl) (fun _ _ _ h => h) (Or.inl ⟨by rfl, by intro W _; go_simp; omega⟩) hS4 ?_
    simp only [Act.put, List.setIfInBounds_toArray, List.set_cons_zero, List.set_cons_succ]
    refine wpAnyH_takeD (i := 3) (v := .string ((⟨#[111, 98, 106, 32]⟩ ++ p) ++ ⟨#[32]⟩)) (some 12) rfl rfl (by kernel_rfl) (by kernel_rfl) (by kernel_rfl) (fun _ _ _ h => h) (Or.inl ⟨by rfl, by intro W _; go_simp; omega⟩) hS4 ?_
    simp only [Act.put, List.setIfInBounds_toArray, List.set_cons_zero, List.set_cons_succ]
    refine wpAnyH_takeD (i := 4) (v := .pointer (some ⟨qv1, 6, none⟩)) (some 13) rfl rfl (by kernel_rfl) (by kernel_rfl) (by kernel_rfl) (fun _ _ _ h => h) (Or.inl ⟨by rfl, by intro W _; go_simp⟩) hS4 ?_
    simp only [Act.put, List.setIfInBounds_toArray, List.set_cons_zero, List.set_cons_succ]
    refine wpAnyH_takeD (i := 5) (v := .int .i64 t) (some 14) rfl rfl (by kernel_rfl) (by kernel_rfl) (by kernel_rfl) (fun _ _ _ h => h) (Or.inl ⟨by rfl, by intro W hW; have hhv1 := hW; have y6 := (cell_of hhv1 6).trans rfl; go_simp⟩) hS4 ?_
    simp only [Act.put, List.setIfInBounds_toArray, List.set_cons_zero, List.set_cons_succ]
    refine wpAnyH_takeD (i := 9) (v := .pointer (some ⟨qv1, 2, none⟩)) (some 18) rfl rfl (by kernel_rfl) (by kernel_rfl) (by kernel_rfl) (fun _ _ _ h => h) (Or.inl ⟨by rfl, by intro W _; go_simp⟩) hS4 ?_
    simp only [Act.put, List.setIfInBounds_toArray, List.set_cons_zero, List.set_cons_succ]
    refine wpAnyH_takeD (i := 10) (v := .slice o2 n2 c2) (some 19) rfl rfl (by kernel_rfl) (by kernel_rfl) (by kernel_rfl) (fun _ _ _ h => h) (Or.inl ⟨by rfl, by intro W hW; have hhv1 := hW; have y2 := (cell_of hhv1 2).trans rfl; go_simp⟩) hS4 ?_
    simp only [Act.put, List.setIfInBounds_toArray, List.set_cons_zero, List.set_cons_succ]
    refine wpAnyH_takeD (i := 11) (v := .int .i64 (n2 : Int)) (some 20) rfl rfl (by kernel_rfl) (by kernel_rfl) (by kernel_rfl) (fun _ _ _ h => h) (Or.inl ⟨by rfl, by intro W _; go_simp⟩) hS4 ?_
    simp only [Act.put, List.setIfInBounds_toArray, List.set_cons_zero, List.set_cons_succ]
    refine wpAnyH_ready (rs := [6]) (by kernel_rfl) (by simp) ?_
    refine AllReadyH.cons rfl (fun K hK => ?_) AllReadyH.nil
    go_simp
    refine (implNumText_any t _ (by have := HT.out; omega) (by have := HT.out; omega) (HTAB.out _ hb4)).mono ?_
    rintro e w5 ⟨rfl, bw⟩
    rw [HTT.out]
    have hb5 : Below w.heap.size w (w5) := hb4.trans (bw.mono hb4.size)
    have HM5 : Hid ((w4).heap.size ≤ (w5).heap.size) := bw.size
    have HBv1_5 : Hid ((w5).heap[qv1]? = some (.cells #[.string p, .slice o1 n1 c1, .slice o2 n2 c2, .int .i64 st, .slice o3 n3 c3, .string b, .int .i64 t] 29)) := blk_below HBv1_4.out bw
    have EH_5 : Hid (Holding qv2 (⟨#[]⟩) w5) := EH_4.out.later bw
    clear hb4 HBv1_4 EH_4 bw
    have hS5 : w5.heap[qv1]? = some (.cells #[.string p, .slice o1 n1 c1, .slice o2 n2 c2, .int .i64 st, .slice o3 n3 c3, .string b, .int .i64 t] 29) := HBv1_5.out
    refine hK.out _ _ hS5 (fun _ => ?_)
    clear hK K hS4
    refine wpAnyH_takeD (i := 7) (v := .string (((⟨#[111, 98, 106, 32]⟩ ++ p) ++ ⟨#[32]⟩) ++ tt)) (some 16) rfl rfl (by kernel_rfl) (by kernel_rfl) (by kernel_rfl) (fun _ _ _ h => h) (Or.inl ⟨by rfl, by intro W _; go_simp; omega⟩) hS5 ?_
    simp only [Act.put, List.setIfInBounds_toArray, List.set_cons_zero, List.set_cons_succ]
    refine wpAnyH_takeD (i := 8) (v := .string ((((⟨#[111, 98, 106, 32]⟩ ++ p) ++ ⟨#[32]⟩) ++ tt) ++ ⟨#[32]⟩)) (some 17) rfl rfl (by kernel_rfl) (by kernel_rfl) (by kernel_rfl) (fun _ _ _ h => h) (Or.inl ⟨by rfl, by intro W _; go_simp; omega⟩) hS5 ?_
    simp only [Act.put, List.setIfInBounds_toArray, List.set_cons_zero, List.set_cons_succ]
    refine wpAnyH_ready (rs := [12]) (by kernel_rfl) (by simp) ?_
    refine AllReadyH.cons rfl (fun K hK => ?_) AllReadyH.nil
    go_simp
    refine (implNumText_any ((n2 : Nat) : Int) _ (by omega) (by omega) (HTAB.out _ hb5)).mono ?_
    rintro e w6 ⟨rfl, bw⟩
    rw [HNN.out]
    have hb6 : Below w.heap.size w (w6) := hb5.trans (bw.mono hb5.size)
    have HM6 : Hid ((w5).heap.size ≤ (w6).heap.size) := bw.size
    have HBv1_6 : Hid ((w6).heap[qv1]? = some (.cells #[.string p, .slice o1 n1 c1, .slice o2 n2 c2, .int .i64 st, .slice o3 n3 c3, .string b, .int .i64 t] 29)) := blk_below HBv1_5.out bw
    have EH_6 : Hid (Holding qv2 (⟨#[]⟩) w6) := EH_5.out.later bw
    clear hb5 HBv1_5 EH_5 bw
    have hS6 : w6.heap[qv1]? = some (.cells #[.string p, .slice o1 n1 c1, .slice o2 n2 c2, .int .i64 st, .slice o3 n3 c3, .string b, .int .i64 t] 29) := HBv1_6.out
    refine hK.out _ _ hS6 (fun _ => ?_)
    clear hK K hS5
    refine wpAnyH_takeD (i := 13) (v := .string (((((⟨#[111, 98, 106, 32]⟩ ++ p) ++ ⟨#[32]⟩) ++ tt) ++ ⟨#[32]⟩) ++ nn)) (some 22) rfl rfl (by kernel_rfl) (by kernel_rfl) (by kernel_rfl) (fun _ _ _ h => h) (Or.inl ⟨by rfl, by intro W _; go_simp; omega⟩) hS6 ?_
    simp only [Act.put, List.setIfInBounds_toArray, List.set_cons_zero, List.set_cons_succ]
    refine wpAnyH_takeD (i := 14) (v := .string ((((((⟨#[111, 98, 106, 32]⟩ ++ p) ++ ⟨#[32]⟩) ++ tt) ++ ⟨#[32]⟩) ++ nn) ++ ⟨#[10]⟩)) (some 23) rfl rfl (by kernel_rfl) (by kernel_rfl) (by kernel_rfl) (fun _ _ _ h => h) (Or.inl ⟨by rfl, by intro W _; go_simp; omega⟩) hS6 ?_
    simp only [Act.put, List.setIfInBounds_toArray, List.set_cons_zero, List.set_cons_succ]
    refine wpAnyH_ready (rs := [15]) (by kernel_rfl) (by simp) ?_
    refine AllReadyH.cons rfl (fun K hK => ?_) AllReadyH.nil
    go_simp
    rw [HHD.out]
    refine (write_any qv2 ⟨#[]⟩ hd _ EH_6.out (by have := HVZ.out 0 (Nat.zero_le _); have e0 : (⟨#[]⟩ : ByteArray).size = 0 := rfl; unfold valsTo at this; omega) (Nat.le_of_lt (by rcases EH_6.out with ⟨_, v, h, _⟩ | ⟨_, v, h, _⟩ <;> exact (Array.getElem?_eq_some_iff.1 h).1))).mono ?_
    rintro e w7 ⟨rfl, hold0, bm⟩
    have hold : Holding qv2 (valsTo hd ys 0) w7 := by rw [show (⟨#[]⟩ : ByteArray) ++ hd = hd from bs_inj (by rw [bs_append]; rfl)] at hold0; exact hold0
    clear hold0
    have hb7 : Below w.heap.size w w7 := hb6.trans (bm.mono HGv2.out)
    have HM7 : Hid ((w6).heap.size ≤ w7.heap.size) := bm.size
    have HBv1_7 : Hid ((w7).heap[qv1]? = some (.cells #[.string p, .slice o1 n1 c1, .slice o2 n2 c2, .int .i64 st, .slice o3 n3 c3, .string b, .int .i64 t] 29)) := (bm.block _ HLTv1v2.out).trans HBv1_6.out
    have EH_7 : Hid (Holding qv2 (valsTo hd ys 0) w7) := hold
    clear hb6 HBv1_6 EH_6 hold bm
    have hS7 : w7.heap[qv1]? = some (.cells #[.string p, .slice o1 n1 c1, .slice o2 n2 c2, .int .i64 st, .slice o3 n3 c3, .string b, .int .i64 t] 29) := HBv1_7.out
    refine hK.out _ _ hS7 (fun _ => ?_)
    clear hK K hS6
    clear hS7
    refine wpAnyH_done (by kernel_rfl) ?_ _
    have cv1_2 : (w7).cell? ⟨qv1, 2, none⟩ = some (.slice o2 n2 c2) := (cell_of HBv1_7.out 2).trans rfl
    go_wp2_with fail
    go_loopw [28] (fun i wr => ∃ j : Nat, j ≤ n2 ∧ i = .int .i64 (j : Int) ∧ Hid (Below w.heap.size w wr ∧ (wr).heap[qv1]? = some (.cells #[.string p, .slice o1 n1 c1, .slice o2 n2 c2, .int .i64 st, .slice o3 n3 c3, .string b, .int .i64 t] 29) ∧ Holding qv2 (valsTo hd ys j) wr ∧ qv2 ≤ wr.heap.size)) (fun i _ => n2 - (intOf i).toNat)
    case atStart => exact ⟨0, Nat.zero_le _, rfl, ⟨hb7, HBv1_7.out, EH_7.out, Nat.le_trans HBS.out (by have := HM4.out; have := HM5.out; have := HM6.out; have := HM7.out; omega)⟩⟩
    case round =>
      obtain ⟨j, hj, rfl, HW⟩ := hrel
      by_cases hlt : (j : Int) < (n2 : Int)
      · obtain ⟨g, hog, hg, hc⟩ := (HV2.out wr HW.out.1).2 j (by omega)
        subst hog
        obtain ⟨x, hxx⟩ : ∃ x, x = textAt ys j := ⟨_, rfl⟩
        have hxs := HS2.out j (by omega)
        rw [← hxx] at hc hxs
        obtain ⟨ot, hot⟩ : ∃ x, x = valsTo hd ys j := ⟨_, rfl⟩
        have HN : Hid (ot ++ (x ++ ⟨#[10]⟩) = valsTo hd ys (j + 1)) := by show _ = _; rw [hot, hxx, valsTo, ByteArray.append_assoc]
        have zx : x.size ≤ 60 := by rw [hxx]; exact (HOK.out.2.2.2.2.2.2 _ (textAt_mem ys j (by rw [HL2.out]; omega))).2.1
        have hz : ot.size + (x ++ ⟨#[10]⟩).size ≤ 140737488355328 := by
          have h1 := HVZ.out j (by omega)
          rw [← hot] at h1
          have e1 : (⟨#[10]⟩ : ByteArray).size = 1 := rfl
          unfold maxLen at hxs
          rw [ByteArray.size_append]
          omega
        have HH0 : Hid (Holding qv2 ot wr) := by show Holding _ _ _; rw [hot]; exact HW.out.2.2.1
        clear hxx hot hxs
        go_wp2_with fail
        have hcall := write_any qv2 ot (x ++ ⟨#[10]⟩) wr HH0.out hz HW.out.2.2.2
        refine hcall.mono ?_
        clear hcall
        rintro e w90 ⟨rfl, hold, bm⟩
        rw [HN.out] at hold
        have HW2 : Hid (Below w.heap.size w w90 ∧ (w90).heap[qv1]? = some (.cells #[.string p, .slice o1 n1 c1, .slice (some ⟨g, 0, none⟩) n2 c2, .int .i64 st, .slice o3 n3 c3, .string b, .int .i64 t] 29) ∧ Holding qv2 (valsTo hd ys (j + 1)) w90 ∧ qv2 ≤ w90.heap.size) := ⟨HW.out.1.trans (bm.mono HGv2.out), (bm.block _ HLTv1v2.out).trans HW.out.2.1, hold, Nat.le_trans HW.out.2.2.2 bm.size⟩
        clear hold bm HH0 HW hc hz
        go_wp2_with fail
        go_roundw
        case rel => exact ⟨j + 1, by omega, by go_num, HW2⟩
        case measure => simp [intOf]; omega
      · obtain rfl : j = n2 := by omega
        obtain ⟨ot, hot⟩ : ∃ x, x = valsTo hd ys j := ⟨_, rfl⟩
        have HOT : Hid (objT p ys st fs b t = ot ++ respT st fs b) := by show _ = _; rw [hot]; exact HFIN.out
        have HZ : Hid (ot.size + (respT st fs b).size ≤ 140737488355328) := by
          show _ ≤ _
          have h1 := HVZ.out j (by omega)
          rw [← hot] at h1
          have h2 := resp_small HRP.out
          omega
        have HH : Hid (Holding qv2 ot wr) := by show Holding _ _ _; rw [hot]; exact HW.out.2.2.1
        have cc3 : wr.cell? ⟨qv1, 3, none⟩ = some (.int .i64 st) := (cell_of HW.out.2.1 3).trans rfl
        have cc4 : wr.cell? ⟨qv1, 4, none⟩ = some (.slice o3 n3 c3) := (cell_of HW.out.2.1 4).trans rfl
        have cc5 : wr.cell? ⟨qv1, 5, none⟩ = some (.string b) := (cell_of HW.out.2.1 5).trans rfl
        clear hot
        go_wp2_with fail
        refine (implRespText_any st _ b n3 base fs _ (HV3.out _ HW.out.1) (by omega) HS3.out HX.out (HTAB.out _ HW.out.1)).mono ?_
        rintro e w90 ⟨u, rfl, hu, _, bw⟩
        have HU : Hid (u = respT st fs b) := hu HRP.out
        have HW2 : Hid (Below w.heap.size w w90) := HW.out.1.trans (bw.mono HW.out.1.size)
        have HB2 : Hid (qv2 ≤ w90.heap.size) := Nat.le_trans HW.out.2.2.2 bw.size
        have HH2 : Hid (Holding qv2 ot w90) := HH.out.later bw
        clear bw hu cc3 cc4 cc5 HW HH
        go_wp2_with fail
        have hcall := write_any qv2 ot u w90 HH2.out (by rw [HU.out]; exact HZ.out) HB2.out
        refine hcall.mono ?_
        clear hcall
        rintro e w91 ⟨rfl, hold, bm⟩
        have HW3 : Hid (Below w.heap.size w w91) := HW2.out.trans (bm.mono HGv2.out)
        have HH3 : Hid (Holding qv2 (ot ++ u) w91) := hold
        have HB3 : Hid (qv2 ≤ w91.heap.size) := Nat.le_trans HB2.out bm.size
        clear hold bm HH2 HW2 HB2
        go_wp2_with fail
        have hcall := text_out qv2 (ot ++ u) w91 HH3.out HB3.out
        refine hcall.mono ?_
        clear hcall
        rintro e w92 ⟨rfl, bm⟩
        have HW4 : Hid (Below w.heap.size w w92) := HW3.out.trans (bm.mono HGv2.out)
        clear bm HH3 HB3 HW3
        go_wp2_with fail
        go_ret
        exact ⟨_, rfl, fun _ => by rw [HOT.out, HU.out], fun h => absurd HOK.out h, HW4.out⟩

end Go.Proofs.YtdlhicdfldecgaaGreatDoor

namespace Go.Proofs.YtdlhicdfldecgaaGreatDoor
open Go.RowKit
open Go.Lib hiding intOf

/-- While answers are merged: both arguments, the answer's memory, the answer that is made and its fields. -/
structure MgSt (w : World) (r o : Nat) (st : Int) (va : Value) (b : ByteArray) (st2 : Int) (vb : Value) (c : ByteArray) (z : Value) (P : List (ByteArray × ByteArray)) (W : World) : Prop where
  q0 : W.heap[r]? = some (.cells #[.int .i64 st, va, .string b] 27)
  q1 : W.heap[r + 1]? = some (.cells #[.int .i64 st2, vb, .string c] 27)
  q2 : W.heap[r + 1 + 1]? = some (.cells #[.int .i64 0, .slice none 0 0, .string ⟨#[]⟩] 27)
  q3 : W.heap[o]? = some (.cells #[.int .i64 st, z, .string b] 27)
  own : W.ownsRow (r + 1 + 1 + 1) 131 2 z P.length (flatF P)
  ne : ∀ j, z.ownBlock = some j → j ≠ o
  ge : r + 1 + 1 + 1 ≤ o
  low : Below r w W
theorem MgSt.lt {w : World} {r o : Nat} {st : Int} {va : Value} {b : ByteArray} {st2 : Int} {vb : Value} {c : ByteArray} {z : Value} {P : List (ByteArray × ByteArray)} {W : World} (h : MgSt w r o st va b st2 vb c z P W) : o < W.heap.size := (Array.getElem?_eq_some_iff.1 h.q3).1
theorem MgSt.below {w : World} {r o : Nat} {st : Int} {va : Value} {b : ByteArray} {st2 : Int} {vb : Value} {c : ByteArray} {z : Value} {P : List (ByteArray × ByteArray)} {W : World} {W' : World} (h : MgSt w r o st va b st2 vb c z P W) (hb : Below W.heap.size W W') : MgSt w r o st va b st2 vb c z P W' := by
  have hs := h.lt
  have hg := h.ge
  exact ⟨by rw [hb.block _ (by omega)]; exact h.q0, by rw [hb.block _ (by omega)]; exact h.q1, by rw [hb.block _ (by omega)]; exact h.q2, by rw [hb.block _ hs]; exact h.q3, owns_same h.own (fun j hj => hb.block j (owns_lt h.own hj)), h.ne, hg, h.low.trans (hb.mono (by omega))⟩
theorem MgSt.set {w : World} {r o : Nat} {st : Int} {va : Value} {b : ByteArray} {st2 : Int} {vb : Value} {c : ByteArray} {z : Value} {P : List (ByteArray × ByteArray)} {W : World} {W' : World} (h : MgSt w r o st va b st2 vb c z P W) (hb : Below W.heap.size W W') {y : Value} {Q : List (ByteArray × ByteArray)} (hy : W'.ownsRow W.heap.size 131 2 y Q.length (flatF Q)) : MgSt w r o st va b st2 vb c y Q (W'.setCell ⟨o, 1, none⟩ y) := by
  have h' := h.below hb
  have hs := h.lt
  have hg := h.ge
  have hne : ∀ j, y.ownBlock = some j → j ≠ o := fun j hj => by have := owns_ge hy hj; omega
  refine ⟨by rw [heap_setCell_other _ _ r _ (by show r ≠ o; omega)]; exact h'.q0, by rw [heap_setCell_other _ _ (r + 1) _ (by show r + 1 ≠ o; omega)]; exact h'.q1, by rw [heap_setCell_other _ _ (r + 1 + 1) _ (by show r + 1 + 1 ≠ o; omega)]; exact h'.q2, ?_, owns_same (owns_wide hy (by omega)) (fun j hj => heap_setCell_other _ _ j _ (hne j hj)), hne, hg, h'.low.setCell (by show r ≤ o; omega) _⟩
  have := heap_set W' o 1 _ _ _ y h'.q3
  simpa using this

end Go.Proofs.YtdlhicdfldecgaaGreatDoor

namespace Go.Proofs.YtdlhicdfldecgaaGreatDoor
open Go.RowKit
open Go.Lib hiding intOf

/-- While both keepings are read: which of the two variables are made, in which blocks. -/
structure CkSt (W1 : World) (a1 a2 : Option Nat) (W : World) : Prop where
  low : Below W1.heap.size W1 W
  b1 : ∀ o, a1 = some o → CcAt W o cc0 ∧ W1.heap.size ≤ o
  b2 : ∀ o, a2 = some o → CcAt W o cc0 ∧ W1.heap.size ≤ o
  ne : ∀ o, a1 = some o → a2 ≠ some o
theorem CkSt.below {W1 W W' : World} {a1 a2 : Option Nat} (h : CkSt W1 a1 a2 W) (hb : Below W.heap.size W W') : CkSt W1 a1 a2 W' :=
  ⟨h.low.trans (hb.mono h.low.size), fun o ho => ⟨(h.b1 o ho).1.same (hb.block o (h.b1 o ho).1.lt), (h.b1 o ho).2⟩, fun o ho => ⟨(h.b2 o ho).1.same (hb.block o (h.b2 o ho).1.lt), (h.b2 o ho).2⟩, h.ne⟩
theorem lower_size (s : ByteArray) : (lowerOf s).size = s.size := by unfold lowerOf; rw [strOfNums_size, lowXs_len]
end Go.Proofs.YtdlhicdfldecgaaGreatDoor

namespace Go.Proofs.YtdlhicdfldecgaaGreatDoor
open Go.RowKit
open Go.Lib hiding intOf

/-- What ObjRead tells: the object of which the text is, in memory of its own; or nothing. -/
def ObjIs (s : ByteArray) (w : World) (e : Ending) (w' : World) : Prop :=
  Below w.heap.size w w' ∧ ((∃ (p : ByteArray) (ys : List ByteArray) (st : Int) (fs : List (ByteArray × ByteArray)) (b : ByteArray) (t : Int) (v1 v2 v3 : Value), e = .returned (.tuple #[.agg #[.string p, v1, v2, .int .i64 st, v3, .string b, .int .i64 t], .bool true]) ∧ IsObj s p ys st fs b t ∧ ObjO w' w.heap.size v1 (varyP fs).length (varyP fs) v2 ys.length ys v3 fs.length fs) ∨
    (e = .returned (.tuple #[.agg #[.string ⟨#[]⟩, .slice none 0 0, .slice none 0 0, .int .i64 0, .slice none 0 0, .string ⟨#[]⟩, .int .i64 0], .bool false]) ∧ ∀ p ys st fs b t, ¬ IsObj s p ys st fs b t))
theorem objT_pos (p : ByteArray) (ys : List ByteArray) (st : Int) (fs : List (ByteArray × ByteArray)) (b : ByteArray) (t : Int) : 4 ≤ (objT p ys st fs b t).size := by
  rw [← bs_len, bs_objT, List.length_append]
  have : (bs objW).length = 4 := rfl
  omega
/-- What was read, step by step, is the object, where the text is one's. -/
theorem read_obj {s : ByteArray} {t n : Int} {k : Nat} {st : Int} {fs : List (ByteArray × ByteArray)} {bd : ByteArray} (ht : NumOk (cutA (objP1 s) blE) → t = valL (cutA (objP1 s) blE).data.toList) (hn : NumOk (cutA (objP2 s) nlE) → n = valL (cutA (objP2 s) nlE).data.toList) (hk : min n 4 = (k : Int)) (hr : ∀ st' fs' b', IsResp (lnTo (objP3 s) k).2 st' fs' b' → st = st' ∧ fs = fs' ∧ bd = b')
    {p' : ByteArray} {ys' : List ByteArray} {st' : Int} {fs' : List (ByteArray × ByteArray)} {b' : ByteArray} {t' : Int} (h : IsObj s p' ys' st' fs' b' t') :
    cutA (trimP s objW) blE = p' ∧ (lnTo (objP3 s) k).1 = ys' ∧ st = st' ∧ fs = fs' ∧ bd = b' ∧ t = t' := by
  obtain ⟨a1, a2, a3, a4, a5, a6⟩ := obj_read h
  have hT := h.1.2.2.1
  have e1 : t = t' := by
    have h1 := ht (by rw [a2]; exact num_ok _ (by omega))
    rw [a2, show (numText t'.toNat).data.toList = numL t'.toNat from rfl, numL_val _ (by omega)] at h1
    omega
  have e2 : n = (ys'.length : Int) := by
    have h1 := hn (by rw [a3]; exact num_ok _ (by omega))
    rw [a3, show (numText ys'.length).data.toList = numL ys'.length from rfl, numL_val _ (by omega)] at h1
    exact h1
  have e3 : k = ys'.length := by omega
  rw [e3] at hr ⊢
  obtain ⟨q1, q2, q3⟩ := hr st' fs' b' ⟨h.1.1, a5.symm⟩
  exact ⟨a1, a4, q1, q2, q3, e1⟩

/-- What stays while the steps read. -/
structure OSt (w : World) (R b g : Nat) (W : World) : Prop where
  bel : Below w.heap.size w W
  rc : W.heap[R]? = some (.cells #[.string ⟨#[]⟩, .slice none 0 0, .slice none 0 0, .int .i64 0, .slice none 0 0, .string ⟨#[]⟩, .int .i64 0] 29)
  steps : StepsAt W g
  glt : g < W.heap.size
theorem OSt.grown {w : World} {R b g : Nat} {W W' : World} (h : OSt w R b g W) (hg : W.grownBy W' (some b)) (hb : w.heap.size ≤ b) (hR : R ≠ b) (hgb : g ≠ b) : OSt w R b g W' := by
  have hc : ∀ j, W'.cell? ⟨g, j, none⟩ = W.cell? ⟨g, j, none⟩ := fun j => by
    unfold World.cell?
    rw [hg.block g h.glt (fun e => hgb (Option.some.inj e))]
  refine ⟨h.bel.trans (below_grown hg h.bel.size hb), ?_, ?_, Nat.lt_of_lt_of_le h.glt hg.size⟩
  · rw [hg.block R (Array.getElem?_eq_some_iff.1 h.rc).1 (fun e => hR (Option.some.inj e))]
    exact h.rc
  · obtain ⟨s0, s1, s2, s3, s4⟩ := h.steps
    exact ⟨(hc 0).trans s0, (hc 1).trans s1, (hc 2).trans s2, (hc 3).trans s3, (hc 4).trans s4⟩
theorem vary_small {fs : List (ByteArray × ByteArray)} (h : FldsOk fs) : (varyP fs).length ≤ 2000000 ∧ ∀ i, i < (varyP fs).length → (textAt (varyP fs) i).size ≤ maxLen := by
  have hle := splitL_le (getV fs varyName)
  have hg := getV_small h varyName
  unfold varyP
  refine ⟨by rw [List.length_map]; omega, fun i hi => ?_⟩
  rw [List.length_map] at hi
  unfold textAt
  rw [List.getD_eq_getElem?_getD, List.getElem?_map, List.getElem?_eq_getElem hi]
  have := hle.2 _ (List.getElem_mem hi)
  show (lowerOf _).size ≤ _
  rw [lower_size]
  unfold maxLen
  omega

set_option maxHeartbeats 8000000 in
set_option maxRecDepth 100000 in
theorem implObjRead_any (s : ByteArray) (w : World) (hs : s.size ≤ 3000000) (htab : TabOk w) (hlen : LenOk w) :
    Calls Tryz.prog 11 #[.string s] w fun e w' => ObjIs s w e w' := by
  have hlt := hlen.lt
  have HLEN : Hid (∀ W, Below w.heap.size w W → LenOk W) := fun W h => hlen.below h hlt
  have HTAB : Hid (∀ W, Below w.heap.size w W → TabOk W) := fun W h => htab.below h
  obtain ⟨R, hR⟩ : ∃ R, R = w.heap.size := ⟨_, rfl⟩
  obtain ⟨b, hb⟩ : ∃ b, b = w.heap.size + 1 := ⟨_, rfl⟩
  have HRG : Hid (w.heap.size ≤ R) := by show _ ≤ _; omega
  have HBG : Hid (w.heap.size ≤ b) := by show _ ≤ _; omega
  have HRB : Hid (R ≠ b) := by show _ ≠ _; omega
  obtain ⟨W1, hW1⟩ : ∃ W, W = (w.alloc (.cells #[.string ⟨#[]⟩, .slice none 0 0, .slice none 0 0, .int .i64 0, .slice none 0 0, .string ⟨#[]⟩, .int .i64 0] 29)).alloc (.cells #[.string s, .string ⟨#[]⟩, .slice none 0 0, .slice none 0 0, .int .i64 0, .slice none 0 0, .string ⟨#[]⟩, .int .i64 0, .int .i64 0, .string ⟨#[]⟩, .string ⟨#[]⟩, .string ⟨#[]⟩, .string ⟨#[]⟩] 68) := ⟨_, rfl⟩
  have hsz : W1.heap.size = w.heap.size + 2 := by rw [hW1]; simp
  have H1 : Hid (Below w.heap.size w W1) := by show Below _ _ _; rw [hW1]; exact ((Below.refl _ _).alloc (Nat.le_refl _) _).alloc (by simp) _
  have HR1 : Hid (W1.heap[R]? = some (.cells #[.string ⟨#[]⟩, .slice none 0 0, .slice none 0 0, .int .i64 0, .slice none 0 0, .string ⟨#[]⟩, .int .i64 0] 29)) := by
    show _ = _
    rw [hW1, hR, heap_alloc_old _ _ (by simp)]
    exact heap_alloc_new _ _
  have HX1 : Hid (RdX W1 b s [.string ⟨#[]⟩, .slice none 0 0, .slice none 0 0, .int .i64 0, .slice none 0 0, .string ⟨#[]⟩, .int .i64 0, .int .i64 0, .string ⟨#[]⟩, .string ⟨#[]⟩, .string ⟨#[]⟩, .string ⟨#[]⟩] 68) := by
    show _ = _
    have h := heap_alloc_new (w.alloc (.cells #[.string ⟨#[]⟩, .slice none 0 0, .slice none 0 0, .int .i64 0, .slice none 0 0, .string ⟨#[]⟩, .int .i64 0] 29)) (.cells #[.string s, .string ⟨#[]⟩, .slice none 0 0, .slice none 0 0, .int .i64 0, .slice none 0 0, .string ⟨#[]⟩, .int .i64 0, .int .i64 0, .string ⟨#[]⟩, .string ⟨#[]⟩, .string ⟨#[]⟩, .string ⟨#[]⟩] 68)
    rw [hW1, hb]
    simpa using h
  have HZ1 : Hid (s.size ≤ 3000000) := hs
  have hs1 : (objP1 s).size ≤ 3000000 := Nat.le_trans (objP1_size s) hs
  have hs2 : (objP2 s).size ≤ 3000000 := Nat.le_trans (objP2_size s) hs
  have hs3 : (objP3 s).size ≤ 3000000 := Nat.le_trans (objP3_size s) hs
  have HBS : Hid (b < W1.heap.size) := by show _ < _; omega
  go_enter Tryz.func11, Tryz.ntmps11
  go_upto_region 2 with fail
  rw [← hW1, ← hb, ← hR]
  clear hW1 hsz hb hR hlt hlen htab
  go_wp2_with fail
  refine (objectSteps_any _).mono ?_
  rintro e w2 ⟨g, rfl, hst, hg1, hg2, bw⟩
  have HGB : Hid (g ≠ b) := by have := HBS.out; show _ ≠ _; omega
  have O2 : Hid (OSt w R b g w2) := ⟨H1.out.trans (bw.mono H1.out.size), (bw.block R (Array.getElem?_eq_some_iff.1 HR1.out).1).trans HR1.out, hst, hg2⟩
  have X2 : Hid (RdX w2 b s [.string ⟨#[]⟩, .slice none 0 0, .slice none 0 0, .int .i64 0, .slice none 0 0, .string ⟨#[]⟩, .int .i64 0, .int .i64 0, .string ⟨#[]⟩, .string ⟨#[]⟩, .string ⟨#[]⟩, .string ⟨#[]⟩] 68) := HX1.out.below bw
  clear hst hg1 hg2 bw HX1 HR1 H1 HBS
  go_wp2_with fail
  refine wp_loop_rounds 6 ?_
  rw [rounds_succ]
  have sc := O2.out.steps.1
  go_wp2_with fail
  refine (readPath_any b s _ _ _ X2.out ⟨_, rfl⟩ (by have := HZ1.out; omega) (HLEN.out _ O2.out.bel)).mono ?_
  rintro e w3 ⟨rfl, x3, g3⟩
  have O3 : Hid (OSt w R b g w3) := O2.out.grown g3 HBG.out HRB.out HGB.out
  obtain ⟨P, hP⟩ : ∃ P, P = cutA (trimP s objW) blE := ⟨_, rfl⟩
  have HP : Hid (cutA (trimP s objW) blE = P) := hP.symm
  rw [← hP] at x3
  have X3 := (show Hid _ from x3)
  clear sc x3 g3 O2 X2 hP
  go_wp2_with fail
  rw [rounds_succ]
  have sc := O3.out.steps.2.1
  go_wp2_with fail
  refine (readTime_any b (objP1 s) _ _ _ _ _ _ _ _ _ X3.out (by omega) (HLEN.out _ O3.out.bel)).mono ?_
  rintro e w4 ⟨rfl, t, htb, htv, x4, g4⟩
  have O4 : Hid (OSt w R b g w4) := O3.out.grown g4 HBG.out HRB.out HGB.out
  have HTV : Hid (NumOk (cutA (objP1 s) blE) → t = valL (cutA (objP1 s) blE).data.toList) := htv
  have X4 := (show Hid _ from x4)
  clear sc x4 g4 O3 X3 htv
  go_wp2_with fail
  rw [rounds_succ]
  have sc := O4.out.steps.2.2.1
  go_wp2_with fail
  refine (readCount_any b (objP2 s) _ _ _ _ _ _ _ _ _ _ X4.out (by omega) (HLEN.out _ O4.out.bel)).mono ?_
  rintro e w5 ⟨rfl, n, hnb, hnv, x5, g5⟩
  have O5 : Hid (OSt w R b g w5) := O4.out.grown g5 HBG.out HRB.out HGB.out
  have HNV : Hid (NumOk (cutA (objP2 s) nlE) → n = valL (cutA (objP2 s) nlE).data.toList) := hnv
  have X5 := (show Hid _ from x5)
  obtain ⟨k, hk⟩ : ∃ k : Nat, min n 4 = (k : Int) := ⟨(min n 4).toNat, by omega⟩
  have HK : Hid (min n 4 = (k : Int)) := hk
  have hk4 : k ≤ 4 := by omega
  clear sc x5 g5 O4 X4 hnv hk
  go_wp2_with fail
  rw [rounds_succ]
  have sc := O5.out.steps.2.2.2.1
  go_wp2_with fail
  refine (readValues_any b (objP3 s) _ _ _ _ _ _ n k HK.out hnb _ _ _ _ _ X5.out (by omega) (HLEN.out _ O5.out.bel)).mono ?_
  rintro e w6 ⟨rfl, vV, vs, x6, own6, g6⟩
  have O6 : Hid (OSt w R b g w6) := O5.out.grown g6 HBG.out HRB.out HGB.out
  have X6 := (show Hid _ from x6)
  obtain ⟨oV, cV, rfl⟩ := slice_of_owns own6
  have V6 : Hid (w6.ownsRow w.heap.size 9 1 (.slice oV k cV) k ((lnTo (objP3 s) k).1.map Value.string)) := owns_wide own6 O5.out.bel.size
  have hs4 : (lnTo (objP3 s) k).2.size ≤ 3000000 := Nat.le_trans (lnTo_size (objP3 s) k).2.1 hs3
  clear sc x6 g6 O5 X5 own6 hnb
  go_wp2_with fail
  rw [rounds_succ]
  have sc := O6.out.steps.2.2.2.2
  go_wp2_with fail
  refine (readAnswer_any b (lnTo (objP3 s) k).2 _ _ _ _ _ _ _ _ X6.out hs4 (HLEN.out _ O6.out.bel) (HTAB.out _ O6.out.bel)).mono ?_
  rintro e w7 ⟨rfl, st, fs, bd, vF, vN, x7, ownF, ownN, hfo, hun, g7⟩
  have O7 : Hid (OSt w R b g w7) := O6.out.grown g7 HBG.out HRB.out HGB.out
  obtain ⟨oF, cF, rfl⟩ := slice_of_owns ownF
  obtain ⟨oN, cN, rfl⟩ := slice_of_owns ownN
  have F7 : Hid (w7.ownsRow w.heap.size 131 2 (.slice oF fs.length cF) fs.length (flatF fs)) := owns_wide ownF O6.out.bel.size
  have N7 : Hid (w7.ownsRow w.heap.size 9 1 (.slice oN (varyP fs).length cN) (varyP fs).length ((varyP fs).map Value.string)) := owns_wide ownN O6.out.bel.size
  have V7 : Hid (w7.ownsRow w.heap.size 9 1 (.slice oV k cV) k ((lnTo (objP3 s) k).1.map Value.string)) := owns_same V6.out (fun j hj => g7.block j (owns_lt V6.out hj) (fun e => own_ne V6.out X6.out (by decide) j hj (Option.some.inj e)))
  have HNE : Hid (∀ j, (Value.slice oN (varyP fs).length cN).ownBlock = some j → (Value.slice oV k cV).ownBlock ≠ some j) := fun j hj e => by
    have h1 := owns_ge ownN hj
    have h2 := owns_lt V6.out e
    omega
  have HFO : Hid (FldsOk fs ∧ bd.size ≤ 120) := hfo
  have HUN : Hid (∀ {p' : ByteArray} {ys' : List ByteArray} {st' : Int} {fs' : List (ByteArray × ByteArray)} {b' : ByteArray} {t' : Int}, IsObj s p' ys' st' fs' b' t' → P = p' ∧ (lnTo (objP3 s) k).1 = ys' ∧ st = st' ∧ fs = fs' ∧ bd = b' ∧ t = t') := fun h => by
    rw [← HP.out]
    exact read_obj HTV.out HNV.out HK.out hun h
  obtain ⟨ys, hys⟩ : ∃ ys, ys = (lnTo (objP3 s) k).1 := ⟨_, rfl⟩
  rw [← hys] at V7 HUN
  have HYL : Hid (ys.length = k ∧ ∀ y ∈ ys, y.size ≤ 3000000) := by
    show _ ∧ _
    rw [hys]
    exact ⟨(lnTo_size _ k).1, fun y hy => Nat.le_trans ((lnTo_size _ k).2.2 y hy) hs3⟩
  have HPZ : Hid (P.size ≤ maxLen) := by
    show _ ≤ _
    rw [← HP.out]
    have h1 := cutA_size (trimP s objW) blE
    have h2 := trimP_size s objW
    have h3 := HZ1.out
    unfold maxLen
    omega
  have X7 := (show Hid (RdX w7 b _ (.string P :: .slice oN (varyP fs).length cN :: .slice oV k cV :: .int .i64 st :: .slice oF fs.length cF :: .string bd :: .int .i64 t :: .int .i64 n :: vs) 68) from x7)
  clear sc x7 g7 O6 X6 V6 ownF ownN hfo hun HTV HNV HK HP hys hs1 hs2 hs3 hs4 htb
  go_wp2_with fail
  rw [rounds_succ]
  by_cases h0 : s.size = 0
  · have e0 := isEmpty_yes h0
    have hrc := O7.out.rc
    have hbe := O7.out.bel
    have HNO : Hid (∀ p ys st fs b t, ¬ IsObj s p ys st fs b t) := fun p ys st fs b t h => by
      have h1 := objT_pos p ys st fs b t
      rw [h.2] at h1
      omega
    have c0 : w7.cell? ⟨R, 0, none⟩ = some (.string ⟨#[]⟩) := (cell_of hrc 0).trans rfl
    have f0 : w7.frozen? ⟨R, 0, none⟩ = false := frozen_of hrc 0
    have c1 : w7.cell? ⟨R, 1, none⟩ = some (.slice none 0 0) := (cell_of hrc 1).trans rfl
    have f1 : w7.frozen? ⟨R, 1, none⟩ = false := frozen_of hrc 1
    have c2 : w7.cell? ⟨R, 2, none⟩ = some (.slice none 0 0) := (cell_of hrc 2).trans rfl
    have f2 : w7.frozen? ⟨R, 2, none⟩ = false := frozen_of hrc 2
    have c3 : w7.cell? ⟨R, 3, none⟩ = some (.int .i64 0) := (cell_of hrc 3).trans rfl
    have f3 : w7.frozen? ⟨R, 3, none⟩ = false := frozen_of hrc 3
    have c4 : w7.cell? ⟨R, 4, none⟩ = some (.slice none 0 0) := (cell_of hrc 4).trans rfl
    have f4 : w7.frozen? ⟨R, 4, none⟩ = false := frozen_of hrc 4
    have c5 : w7.cell? ⟨R, 5, none⟩ = some (.string ⟨#[]⟩) := (cell_of hrc 5).trans rfl
    have f5 : w7.frozen? ⟨R, 5, none⟩ = false := frozen_of hrc 5
    have c6 : w7.cell? ⟨R, 6, none⟩ = some (.int .i64 0) := (cell_of hrc 6).trans rfl
    have f6 : w7.frozen? ⟨R, 6, none⟩ = false := frozen_of hrc 6
    obtain ⟨WE, hWE⟩ : ∃ W, W = (((((((w7.setCell ⟨R, 0, none⟩ (.string ⟨#[]⟩)).setCell ⟨R, 1, none⟩ (.slice none 0 0)).setCell ⟨R, 2, none⟩ (.slice none 0 0)).setCell ⟨R, 3, none⟩ (.int .i64 0)).setCell ⟨R, 4, none⟩ (.slice none 0 0)).setCell ⟨R, 5, none⟩ (.string ⟨#[]⟩)).setCell ⟨R, 6, none⟩ (.int .i64 0)) := ⟨_, rfl⟩
    have HWE : Hid ((((((((w7.setCell ⟨R, 0, none⟩ (.string ⟨#[]⟩)).setCell ⟨R, 1, none⟩ (.slice none 0 0)).setCell ⟨R, 2, none⟩ (.slice none 0 0)).setCell ⟨R, 3, none⟩ (.int .i64 0)).setCell ⟨R, 4, none⟩ (.slice none 0 0)).setCell ⟨R, 5, none⟩ (.string ⟨#[]⟩)).setCell ⟨R, 6, none⟩ (.int .i64 0)) = WE) := hWE.symm
    have HBE : Hid (Below w.heap.size w WE) := by show Below _ _ _; rw [hWE]; exact (((((((hbe.setCell (p := ⟨R, 0, none⟩) HRG.out _).setCell (p := ⟨R, 1, none⟩) HRG.out _).setCell (p := ⟨R, 2, none⟩) HRG.out _).setCell (p := ⟨R, 3, none⟩) HRG.out _).setCell (p := ⟨R, 4, none⟩) HRG.out _).setCell (p := ⟨R, 5, none⟩) HRG.out _).setCell (p := ⟨R, 6, none⟩) HRG.out _)
    have hre : WE.heap[R]? = some (.cells #[.string ⟨#[]⟩, .slice none 0 0, .slice none 0 0, .int .i64 0, .slice none 0 0, .string ⟨#[]⟩, .int .i64 0] 29) := by rw [hWE]; have h := (heap_set _ R 6 _ _ _ (.int .i64 0) (heap_set _ R 5 _ _ _ (.string ⟨#[]⟩) (heap_set _ R 4 _ _ _ (.slice none 0 0) (heap_set _ R 3 _ _ _ (.int .i64 0) (heap_set _ R 2 _ _ _ (.slice none 0 0) (heap_set _ R 1 _ _ _ (.slice none 0 0) (heap_set _ R 0 _ _ _ (.string ⟨#[]⟩) hrc))))))); simpa using h
    have k0 : WE.cell? ⟨R, 0, none⟩ = some (.string ⟨#[]⟩) := (cell_of hre 0).trans rfl
    have k1 : WE.cell? ⟨R, 1, none⟩ = some (.slice none 0 0) := (cell_of hre 1).trans rfl
    have k2 : WE.cell? ⟨R, 2, none⟩ = some (.slice none 0 0) := (cell_of hre 2).trans rfl
    have k3 : WE.cell? ⟨R, 3, none⟩ = some (.int .i64 0) := (cell_of hre 3).trans rfl
    have k4 : WE.cell? ⟨R, 4, none⟩ = some (.slice none 0 0) := (cell_of hre 4).trans rfl
    have k5 : WE.cell? ⟨R, 5, none⟩ = some (.string ⟨#[]⟩) := (cell_of hre 5).trans rfl
    have k6 : WE.cell? ⟨R, 6, none⟩ = some (.int .i64 0) := (cell_of hre 6).trans rfl
    clear hWE hre hrc hbe
    clear h0 F7 N7 V7 X7 O7
    go_wp2_with fail
    simp only [HWE.out]
    exact bodyPost_ret (v := .tuple #[.agg #[.string ⟨#[]⟩, .slice none 0 0, .slice none 0 0, .int .i64 0, .slice none 0 0, .string ⟨#[]⟩, .int .i64 0], .bool false]) (by simp [results, Tryz.results11, go_sem, k0, k1, k2, k3, k4, k5, k6]) rfl ⟨HBE.out, .inr ⟨rfl, HNO.out⟩⟩
  · have e0 := isEmpty_no (s := s) (by omega)
    have d1 : w7.cell? ⟨b, 1, none⟩ = some (.string P) := (X7.out.at 0).trans rfl
    have d2 : w7.cell? ⟨b, 2, none⟩ = some (.slice oN (varyP fs).length cN) := (X7.out.at 1).trans rfl
    have d3 : w7.cell? ⟨b, 3, none⟩ = some (.slice oV k cV) := (X7.out.at 2).trans rfl
    have d4 : w7.cell? ⟨b, 4, none⟩ = some (.int .i64 st) := (X7.out.at 3).trans rfl
    have d5 : w7.cell? ⟨b, 5, none⟩ = some (.slice oF fs.length cF) := (X7.out.at 4).trans rfl
    have d6 : w7.cell? ⟨b, 6, none⟩ = some (.string bd) := (X7.out.at 5).trans rfl
    have d7 : w7.cell? ⟨b, 7, none⟩ = some (.int .i64 t) := (X7.out.at 6).trans rfl
    have H0 : Hid (¬ s.size = 0) := h0
    have hf8 := (flds_sizes HFO.out.1).1
    have hvs := vary_small HFO.out.1
    clear h0
    go_wp2_with fail
    have hcall := implObjText_any P oN (varyP fs).length cN (varyP fs) oV k cV ys st (.slice oF fs.length cF) fs.length w.heap.size fs bd t w7 (texts_view N7.out) (texts_view V7.out) (FieldsV.of_owns F7.out) hvs.1 (by omega) (by omega) hvs.2 (fun i hi => by have := HYL.out.2 _ (textAt_mem ys i (by rw [HYL.out.1]; exact hi)); unfold maxLen; omega) (walkF_small HFO.out.1) HPZ.out (by have := HFO.out.2; unfold maxLen; omega) (getV_small HFO.out.1 _) (copyF_small HFO.out.1) (HTAB.out _ O7.out.bel)
    refine hcall.mono ?_
    clear hcall
    rintro e w8 ⟨u, rfl, hu1, hu2, bw⟩
    have HU1 : Hid (ObjP P (varyP fs) ys st fs bd t → u = objT P ys st fs bd t) := hu1
    have HU2 : Hid (¬ ObjP P (varyP fs) ys st fs bd t → u = ⟨#[]⟩) := hu2
    have hrc := (bw.block R (Array.getElem?_eq_some_iff.1 O7.out.rc).1).trans O7.out.rc
    have hbe := O7.out.bel.trans (bw.mono O7.out.bel.size)
    have X8 := X7.out.below bw
    have F8 := owns_below F7.out bw (fun g hg => owns_lt F7.out hg)
    have N8 := owns_below N7.out bw (fun g hg => owns_lt N7.out hg)
    have V8 := owns_below V7.out bw (fun g hg => owns_lt V7.out hg)
    clear hu1 hu2 bw d1 d2 d3 d4 d5 d6 d7 F7 N7 V7 X7 O7 hvs
    by_cases hus : u = s
    · have HIS : Hid (IsObj s P ys st fs bd t) := by
        by_cases hp : ObjP P (varyP fs) ys st fs bd t
        · exact ⟨hp, by rw [← HU1.out hp]; exact hus⟩
        · exfalso
          have h1 := HU2.out hp
          exact H0.out (by rw [← hus, h1]; rfl)
      have hts : (u.toList == s.toList) = true := (text_beq _ _).2 hus
      have d1 : w8.cell? ⟨b, 1, none⟩ = some (.string P) := (X8.at 0).trans rfl
      have d2 : w8.cell? ⟨b, 2, none⟩ = some (.slice oN (varyP fs).length cN) := (X8.at 1).trans rfl
      have d3 : w8.cell? ⟨b, 3, none⟩ = some (.slice oV k cV) := (X8.at 2).trans rfl
      have d4 : w8.cell? ⟨b, 4, none⟩ = some (.int .i64 st) := (X8.at 3).trans rfl
      have d5 : w8.cell? ⟨b, 5, none⟩ = some (.slice oF fs.length cF) := (X8.at 4).trans rfl
      have d6 : w8.cell? ⟨b, 6, none⟩ = some (.string bd) := (X8.at 5).trans rfl
      have d7 : w8.cell? ⟨b, 7, none⟩ = some (.int .i64 t) := (X8.at 6).trans rfl
      have c0 : w8.cell? ⟨R, 0, none⟩ = some (.string ⟨#[]⟩) := (cell_of hrc 0).trans rfl
      have f0 : w8.frozen? ⟨R, 0, none⟩ = false := frozen_of hrc 0
      have c1 : w8.cell? ⟨R, 1, none⟩ = some (.slice none 0 0) := (cell_of hrc 1).trans rfl
      have f1 : w8.frozen? ⟨R, 1, none⟩ = false := frozen_of hrc 1
      have c2 : w8.cell? ⟨R, 2, none⟩ = some (.slice none 0 0) := (cell_of hrc 2).trans rfl
      have f2 : w8.frozen? ⟨R, 2, none⟩ = false := frozen_of hrc 2
      have c3 : w8.cell? ⟨R, 3, none⟩ = some (.int .i64 0) := (cell_of hrc 3).trans rfl
      have f3 : w8.frozen? ⟨R, 3, none⟩ = false := frozen_of hrc 3
      have c4 : w8.cell? ⟨R, 4, none⟩ = some (.slice none 0 0) := (cell_of hrc 4).trans rfl
      have f4 : w8.frozen? ⟨R, 4, none⟩ = false := frozen_of hrc 4
      have c5 : w8.cell? ⟨R, 5, none⟩ = some (.string ⟨#[]⟩) := (cell_of hrc 5).trans rfl
      have f5 : w8.frozen? ⟨R, 5, none⟩ = false := frozen_of hrc 5
      have c6 : w8.cell? ⟨R, 6, none⟩ = some (.int .i64 0) := (cell_of hrc 6).trans rfl
      have f6 : w8.frozen? ⟨R, 6, none⟩ = false := frozen_of hrc 6
      obtain ⟨WE, hWE⟩ : ∃ W, W = (((((((w8.setCell ⟨R, 0, none⟩ (.string P)).setCell ⟨R, 1, none⟩ (.slice oN (varyP fs).length cN)).setCell ⟨R, 2, none⟩ (.slice oV k cV)).setCell ⟨R, 3, none⟩ (.int .i64 st)).setCell ⟨R, 4, none⟩ (.slice oF fs.length cF)).setCell ⟨R, 5, none⟩ (.string bd)).setCell ⟨R, 6, none⟩ (.int .i64 t)) := ⟨_, rfl⟩
      have HWE : Hid ((((((((w8.setCell ⟨R, 0, none⟩ (.string P)).setCell ⟨R, 1, none⟩ (.slice oN (varyP fs).length cN)).setCell ⟨R, 2, none⟩ (.slice oV k cV)).setCell ⟨R, 3, none⟩ (.int .i64 st)).setCell ⟨R, 4, none⟩ (.slice oF fs.length cF)).setCell ⟨R, 5, none⟩ (.string bd)).setCell ⟨R, 6, none⟩ (.int .i64 t)) = WE) := hWE.symm
      have HBE : Hid (Below w.heap.size w WE) := by show Below _ _ _; rw [hWE]; exact (((((((hbe.setCell (p := ⟨R, 0, none⟩) HRG.out _).setCell (p := ⟨R, 1, none⟩) HRG.out _).setCell (p := ⟨R, 2, none⟩) HRG.out _).setCell (p := ⟨R, 3, none⟩) HRG.out _).setCell (p := ⟨R, 4, none⟩) HRG.out _).setCell (p := ⟨R, 5, none⟩) HRG.out _).setCell (p := ⟨R, 6, none⟩) HRG.out _)
      have hre : WE.heap[R]? = some (.cells #[.string P, .slice oN (varyP fs).length cN, .slice oV k cV, .int .i64 st, .slice oF fs.length cF, .string bd, .int .i64 t] 29) := by rw [hWE]; have h := (heap_set _ R 6 _ _ _ (.int .i64 t) (heap_set _ R 5 _ _ _ (.string bd) (heap_set _ R 4 _ _ _ (.slice oF fs.length cF) (heap_set _ R 3 _ _ _ (.int .i64 st) (heap_set _ R 2 _ _ _ (.slice oV k cV) (heap_set _ R 1 _ _ _ (.slice oN (varyP fs).length cN) (heap_set _ R 0 _ _ _ (.string P) hrc))))))); simpa using h
      have HFE : Hid (WE.ownsRow w.heap.size 131 2 (.slice oF fs.length cF) fs.length (flatF fs)) := by
        show World.ownsRow _ _ _ _ _ _ _
        rw [hWE]
        refine owns_same F8 (fun g hg => ?_)
        have hne := own_ne F8 hrc (by decide) g hg
        rw [heap_setCell_other _ _ g _ hne, heap_setCell_other _ _ g _ hne, heap_setCell_other _ _ g _ hne, heap_setCell_other _ _ g _ hne, heap_setCell_other _ _ g _ hne, heap_setCell_other _ _ g _ hne, heap_setCell_other _ _ g _ hne]
      have HNE2 : Hid (WE.ownsRow w.heap.size 9 1 (.slice oN (varyP fs).length cN) (varyP fs).length ((varyP fs).map Value.string)) := by
        show World.ownsRow _ _ _ _ _ _ _
        rw [hWE]
        refine owns_same N8 (fun g hg => ?_)
        have hne := own_ne N8 hrc (by decide) g hg
        rw [heap_setCell_other _ _ g _ hne, heap_setCell_other _ _ g _ hne, heap_setCell_other _ _ g _ hne, heap_setCell_other _ _ g _ hne, heap_setCell_other _ _ g _ hne, heap_setCell_other _ _ g _ hne, heap_setCell_other _ _ g _ hne]
      have HVE : Hid (WE.ownsRow w.heap.size 9 1 (.slice oV k cV) k (ys.map Value.string)) := by
        show World.ownsRow _ _ _ _ _ _ _
        rw [hWE]
        refine owns_same V8 (fun g hg => ?_)
        have hne := own_ne V8 hrc (by decide) g hg
        rw [heap_setCell_other _ _ g _ hne, heap_setCell_other _ _ g _ hne, heap_setCell_other _ _ g _ hne, heap_setCell_other _ _ g _ hne, heap_setCell_other _ _ g _ hne, heap_setCell_other _ _ g _ hne, heap_setCell_other _ _ g _ hne]
      have k0 : WE.cell? ⟨R, 0, none⟩ = some (.string P) := (cell_of hre 0).trans rfl
      have k1 : WE.cell? ⟨R, 1, none⟩ = some (.slice oN (varyP fs).length cN) := (cell_of hre 1).trans rfl
      have k2 : WE.cell? ⟨R, 2, none⟩ = some (.slice oV k cV) := (cell_of hre 2).trans rfl
      have k3 : WE.cell? ⟨R, 3, none⟩ = some (.int .i64 st) := (cell_of hre 3).trans rfl
      have k4 : WE.cell? ⟨R, 4, none⟩ = some (.slice oF fs.length cF) := (cell_of hre 4).trans rfl
      have k5 : WE.cell? ⟨R, 5, none⟩ = some (.string bd) := (cell_of hre 5).trans rfl
      have k6 : WE.cell? ⟨R, 6, none⟩ = some (.int .i64 t) := (cell_of hre 6).trans rfl
      clear hWE hre hrc hbe
      clear hus F8 N8 V8 X8
      go_wp2_with fail
      simp only [HWE.out]
      exact bodyPost_ret (v := .tuple #[.agg #[.string P, .slice oN (varyP fs).length cN, .slice oV k cV, .int .i64 st, .slice oF fs.length cF, .string bd, .int .i64 t], .bool true]) (by simp [results, Tryz.results11, go_sem, k0, k1, k2, k3, k4, k5, k6]) rfl ⟨HBE.out, .inl ⟨P, ys, st, fs, bd, t, _, _, _, rfl, HIS.out, ⟨HNE2.out, by rw [HYL.out.1]; exact HVE.out, HFE.out, HNE.out⟩⟩⟩
    · have HNO : Hid (∀ p ys st fs b t, ¬ IsObj s p ys st fs b t) := fun p' ys' st' fs' b' t' h => by
        obtain ⟨rfl, rfl, rfl, rfl, rfl, rfl⟩ := HUN.out h
        exact hus ((HU1.out h.1).trans h.2)
      have hts := text_beq_no hus
      have c0 : w8.cell? ⟨R, 0, none⟩ = some (.string ⟨#[]⟩) := (cell_of hrc 0).trans rfl
      have f0 : w8.frozen? ⟨R, 0, none⟩ = false := frozen_of hrc 0
      have c1 : w8.cell? ⟨R, 1, none⟩ = some (.slice none 0 0) := (cell_of hrc 1).trans rfl
      have f1 : w8.frozen? ⟨R, 1, none⟩ = false := frozen_of hrc 1
      have c2 : w8.cell? ⟨R, 2, none⟩ = some (.slice none 0 0) := (cell_of hrc 2).trans rfl
      have f2 : w8.frozen? ⟨R, 2, none⟩ = false := frozen_of hrc 2
      have c3 : w8.cell? ⟨R, 3, none⟩ = some (.int .i64 0) := (cell_of hrc 3).trans rfl
      have f3 : w8.frozen? ⟨R, 3, none⟩ = false := frozen_of hrc 3
      have c4 : w8.cell? ⟨R, 4, none⟩ = some (.slice none 0 0) := (cell_of hrc 4).trans rfl
      have f4 : w8.frozen? ⟨R, 4, none⟩ = false := frozen_of hrc 4
      have c5 : w8.cell? ⟨R, 5, none⟩ = some (.string ⟨#[]⟩) := (cell_of hrc 5).trans rfl
      have f5 : w8.frozen? ⟨R, 5, none⟩ = false := frozen_of hrc 5
      have c6 : w8.cell? ⟨R, 6, none⟩ = some (.int .i64 0) := (cell_of hrc 6).trans rfl
      have f6 : w8.frozen? ⟨R, 6, none⟩ = false := frozen_of hrc 6
      obtain ⟨WE, hWE⟩ : ∃ W, W = (((((((w8.setCell ⟨R, 0, none⟩ (.string ⟨#[]⟩)).setCell ⟨R, 1, none⟩ (.slice none 0 0)).setCell ⟨R, 2, none⟩ (.slice none 0 0)).setCell ⟨R, 3, none⟩ (.int .i64 0)).setCell ⟨R, 4, none⟩ (.slice none 0 0)).setCell ⟨R, 5, none⟩ (.string ⟨#[]⟩)).setCell ⟨R, 6, none⟩ (.int .i64 0)) := ⟨_, rfl⟩
      have HWE : Hid ((((((((w8.setCell ⟨R, 0, none⟩ (.string ⟨#[]⟩)).setCell ⟨R, 1, none⟩ (.slice none 0 0)).setCell ⟨R, 2, none⟩ (.slice none 0 0)).setCell ⟨R, 3, none⟩ (.int .i64 0)).setCell ⟨R, 4, none⟩ (.slice none 0 0)).setCell ⟨R, 5, none⟩ (.string ⟨#[]⟩)).setCell ⟨R, 6, none⟩ (.int .i64 0)) = WE) := hWE.symm
      have HBE : Hid (Below w.heap.size w WE) := by show Below _ _ _; rw [hWE]; exact (((((((hbe.setCell (p := ⟨R, 0, none⟩) HRG.out _).setCell (p := ⟨R, 1, none⟩) HRG.out _).setCell (p := ⟨R, 2, none⟩) HRG.out _).setCell (p := ⟨R, 3, none⟩) HRG.out _).setCell (p := ⟨R, 4, none⟩) HRG.out _).setCell (p := ⟨R, 5, none⟩) HRG.out _).setCell (p := ⟨R, 6, none⟩) HRG.out _)
      have hre : WE.heap[R]? = some (.cells #[.string ⟨#[]⟩, .slice none 0 0, .slice none 0 0, .int .i64 0, .slice none 0 0, .string ⟨#[]⟩, .int .i64 0] 29) := by rw [hWE]; have h := (heap_set _ R 6 _ _ _ (.int .i64 0) (heap_set _ R 5 _ _ _ (.string ⟨#[]⟩) (heap_set _ R 4 _ _ _ (.slice none 0 0) (heap_set _ R 3 _ _ _ (.int .i64 0) (heap_set _ R 2 _ _ _ (.slice none 0 0) (heap_set _ R 1 _ _ _ (.slice none 0 0) (heap_set _ R 0 _ _ _ (.string ⟨#[]⟩) hrc))))))); simpa using h
      have k0 : WE.cell? ⟨R, 0, none⟩ = some (.string ⟨#[]⟩) := (cell_of hre 0).trans rfl
      have k1 : WE.cell? ⟨R, 1, none⟩ = some (.slice none 0 0) := (cell_of hre 1).trans rfl
      have k2 : WE.cell? ⟨R, 2, none⟩ = some (.slice none 0 0) := (cell_of hre 2).trans rfl
      have k3 : WE.cell? ⟨R, 3, none⟩ = some (.int .i64 0) := (cell_of hre 3).trans rfl
      have k4 : WE.cell? ⟨R, 4, none⟩ = some (.slice none 0 0) := (cell_of hre 4).trans rfl
      have k5 : WE.cell? ⟨R, 5, none⟩ = some (.string ⟨#[]⟩) := (cell_of hre 5).trans rfl
      have k6 : WE.cell? ⟨R, 6, none⟩ = some (.int .i64 0) := (cell_of hre 6).trans rfl
      clear hWE hre hrc hbe
      clear hus F8 N8 V8 X8
      go_wp2_with fail
      simp only [HWE.out]
      exact bodyPost_ret (v := .tuple #[.agg #[.string ⟨#[]⟩, .slice none 0 0, .slice none 0 0, .int .i64 0, .slice none 0 0, .string ⟨#[]⟩, .int .i64 0], .bool false]) (by simp [results, Tryz.results11, go_sem, k0, k1, k2, k3, k4, k5, k6]) rfl ⟨HBE.out, .inr ⟨rfl, HNO.out⟩⟩

end Go.Proofs.YtdlhicdfldecgaaGreatDoor
