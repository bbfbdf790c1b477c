/- 'slices.Delete' of one field out of a list of the call's own: contract over the translation. -/
import Derived.Test.YtnabeailjbghjaaFieldImpl
import Derived.Lib.SliceRun
import Derived.Deep.RegionLaw
namespace Go.Proofs.Ytnabeailjbghjaa
open Go.RowKit
open Go.Lib hiding intOf

theorem heap_setCells (b : Nat) : ∀ (vs : List Value) (o : Nat) (w : World) (cur : Array Value) (t : TypeId) (fz : Nat × Nat), w.heap[b]? = some (.cells cur t fz) → ∃ cur', (w.setCells b o vs).heap[b]? = some (.cells cur' t fz) ∧ cur'.size = cur.size
  | [], _, _, cur, _, _, h => ⟨cur, h, rfl⟩
  | v :: r, o, w, cur, t, fz, h => by
    obtain ⟨c, h1, h2⟩ := heap_setCells b r (o + 1) (w.setCell ⟨b, o, none⟩ v) _ t fz (heap_set w b o cur t fz v h)
    exact ⟨c, h1, by simpa using h2⟩
theorem below_cells {B g : Nat} (hg : B ≤ g) : ∀ (vs : List Value) (o : Nat) (w : World), Below B w (w.setCells g o vs)
  | [], _, w => Below.refl B w
  | v :: r, o, w => ((Below.refl B w).setCell (p := ⟨g, o, none⟩) hg v).trans (below_cells hg r (o + 1) _)
theorem nameAt_erase (fs : List (ByteArray × ByteArray)) (i m : Nat) : nameAt (fs.eraseIdx i) m = (if m < i then nameAt fs m else nameAt fs (m + 1)) ∧ valAt (fs.eraseIdx i) m = (if m < i then valAt fs m else valAt fs (m + 1)) := by
  have h := List.getElem?_eraseIdx (l := fs) (i := i) (j := m)
  unfold nameAt valAt
  rw [List.getD_eq_getElem?_getD, List.getD_eq_getElem?_getD, List.getD_eq_getElem?_getD, h]
  split <;> exact ⟨rfl, rfl⟩
/-- The two cells of an empty field, laid by 'clear'. -/
theorem run_clear_two (w : World) (t e ty : TypeId) (ht : Try.prog.underlying t = some (.slice e)) (hv : ∀ w, (zeroValue e).run Try.prog w = .ok (.agg #[.string ⟨#[]⟩, .string ⟨#[]⟩]) w) (b o c : Nat)
    (hc : ∀ j, j < 2 → (w.cell? ⟨b, o + j, none⟩).isSome = true) (hf : ∀ j, j < 2 → w.frozen? ⟨b, o + j, none⟩ = false) :
    (Builtin.clear_ #[t] ty #[.slice (some ⟨b, o, none⟩) 1 c]).run Try.prog w = .ok (.tuple #[]) (w.setCells b o [.string ⟨#[]⟩, .string ⟨#[]⟩]) := by
  have hzc : (Builtin.zeroCells (Value.agg #[.string ⟨#[]⟩, .string ⟨#[]⟩]).cells 1).toList = [.string ⟨#[]⟩, .string ⟨#[]⟩] := by simp [Builtin.zeroCells, Value.cells, List.range_succ]
  have hst := run_storeCells_cells (P := Try.prog) b o [.string ⟨#[]⟩, .string ⟨#[]⟩] 0 w (by simpa using hc) (by simpa using hf) (two_text _ _)
  simp only [Nat.add_zero] at hst
  simp [Builtin.clear_, run_underlying ht, hv, hzc, hst]

/-- The row behind the two writings. -/
theorem FieldRow.erased {base : Nat} {w : World} {g n cap : Nat} {fs : List (ByteArray × ByteArray)} (h : FieldRow base w g n cap fs) (i : Nat) (hi : i < n) : FieldRow base ((w.setCells g (i * 2) ((flatF fs).drop ((i + 1) * 2))).setCells g ((n - 1) * 2) [.string ⟨#[]⟩, .string ⟨#[]⟩]) g (n - 1) cap (fs.eraseIdx i) := by
  have hl := h.len; have hle := h.le
  obtain ⟨cur, h1, h2, h3⟩ := h.heap
  obtain ⟨c1, k1, k2⟩ := heap_setCells g ((flatF fs).drop ((i + 1) * 2)) (i * 2) w cur _ _ h1
  obtain ⟨c2, k3, k4⟩ := heap_setCells g [.string ⟨#[]⟩, .string ⟨#[]⟩] ((n - 1) * 2) _ c1 _ _ k1
  have hcell : ∀ j, c2[j]? = (((w.setCells g (i * 2) ((flatF fs).drop ((i + 1) * 2))).setCells g ((n - 1) * 2) [.string ⟨#[]⟩, .string ⟨#[]⟩]).cell? ⟨g, j, none⟩) := fun j => by
    simp only [World.cell?, k3]
    simp
  have hlen : ((flatF fs).drop ((i + 1) * 2)).length = (n - (i + 1)) * 2 := by rw [List.length_drop, flatF_len, hl]; omega
  have hold : ∀ j, j < n * 2 → w.cell? ⟨g, j, none⟩ = (flatF fs)[j]? := fun j hj => by
    have hs : j < (flatF fs).length := by rw [flatF_len, hl]; exact hj
    have := h.cells j _ (List.getElem?_eq_getElem hs)
    rw [List.getElem?_eq_getElem hs, ← this]
    congr 1
    unfold Addr.add; split <;> simp_all
  have hnew : ∀ j, j < (n - 1) * 2 → c2[j]? = (if j < i * 2 then (flatF fs)[j]? else (flatF fs)[j + 2]?) := fun j hj => by
    rw [hcell, World.cell?_setCells_out g _ _ _ _ (fun _ _ => .inl hj)]
    split
    · rename_i hlt
      rw [World.cell?_setCells_out g _ _ _ _ (fun _ _ => .inl hlt)]
      exact hold j (by omega)
    · rename_i hge
      have hin := World.cell?_setCells_in g ((flatF fs).drop ((i + 1) * 2)) (i * 2) w (fun t ht => by rw [hold _ (by omega), List.getElem?_eq_getElem (by rw [flatF_len]; omega)]; rfl) (j - i * 2) (by omega)
      rw [show i * 2 + (j - i * 2) = j by omega] at hin
      rw [hin, List.getElem_drop, ← List.getElem?_eq_getElem]
      congr 1
      omega
  have hsz : ((w.setCells g (i * 2) ((flatF fs).drop ((i + 1) * 2))).setCells g ((n - 1) * 2) [.string ⟨#[]⟩, .string ⟨#[]⟩]).heap.size ≥ w.heap.size := ((below_cells (Nat.zero_le g) _ _ _).trans (below_cells (Nat.zero_le g) _ _ _)).size
  have hlt := h.lt
  refine ⟨by rw [List.length_eraseIdx, if_pos (by omega)]; omega, h.base, by omega, by omega, h.mx, c2, k3, by omega, ?_⟩
  intro m hm
  have he := nameAt_erase fs i m
  rw [he.1, he.2, hnew _ (by omega), hnew _ (by omega)]
  by_cases c : m < i
  · rw [if_pos c, if_pos c, if_pos (show m * 2 < i * 2 by omega), if_pos (show m * 2 + 1 < i * 2 by omega)]
    exact flatF_get fs m (by omega)
  · rw [if_neg c, if_neg c, if_neg (show ¬ m * 2 < i * 2 by omega), if_neg (show ¬ m * 2 + 1 < i * 2 by omega)]
    have := flatF_get fs (m + 1) (by omega)
    rw [show (m + 1) * 2 = m * 2 + 2 by omega, show m * 2 + 2 + 1 = m * 2 + 1 + 2 by omega] at this
    exact this

set_option maxHeartbeats 2000000 in
theorem del_at (base g n cap : Nat) (fs : List (ByteArray × ByteArray)) (i j : Nat) (w : World) (row : FieldRow base w g n cap fs) (hi : i < n) (hij : j = i + 1) :
    Calls Try.prog 40 #[.slice (some ⟨g, 0, none⟩) n cap, .int .i64 (i : Int), .int .i64 (j : Int)] w fun e w' => e = .returned (.slice (some ⟨g, 0, none⟩) (n - 1) cap) ∧ FieldRow base w' g (n - 1) cap (fs.eraseIdx i) ∧ Below base w w' := by
  obtain ⟨i0, hi0, hz0, hz1, hz2⟩ := info_parts info33
  have hl := row.len; have hle := row.le; have hmx := row.mx
  unfold maxLen at hmx
  obtain ⟨news, hnews⟩ : ∃ news, news = (flatF fs).drop (j * 2) := ⟨_, rfl⟩
  have hlen : news.length = (n - j) * 2 := by rw [hnews, List.length_drop, flatF_len, hl]; omega
  have hcs := row.cells
  obtain ⟨A, hA, hsrc⟩ : ∃ A : Addr, (if cap = j then some (⟨g, 0, none⟩ : Addr) else some ⟨g, j * 2, none⟩) = some A ∧ Hid (∀ t u, news[t]? = some u → w.drew.cell? (A.add t) = some u) := by
    by_cases h : cap = j
    · refine ⟨⟨g, 0, none⟩, by simp [h], fun t u hu => ?_⟩
      have h0 : news.length = 0 := by rw [hlen]; omega
      rw [List.length_eq_zero_iff.1 h0] at hu
      simp at hu
    · refine ⟨⟨g, j * 2, none⟩, by simp [h], fun t u hu => ?_⟩
      rw [hnews, List.getElem?_drop] at hu
      have := hcs _ u hu
      have e0 : ∀ x y : Nat, (⟨g, x, none⟩ : Addr).add y = ⟨g, x + y, none⟩ := fun x y => by unfold Addr.add; split <;> simp_all
      rw [e0] at this ⊢
      rw [Nat.zero_add] at this
      exact this
  have s1 : Hid (news.length = (n - j) * 2) := hlen
  have s2 : Hid (∀ u ∈ news, u.oneCell' = true) := fun u hu => flat_one fs u (List.mem_of_mem_drop (by rw [← hnews]; exact hu))
  have s3 : Hid (∀ t, t < news.length → (w.drew.cell? ⟨g, 0 + i * 2 + t, none⟩).isSome = true ∧ w.drew.frozen? ⟨g, 0 + i * 2 + t, none⟩ = false) := fun t ht => by
    rw [hlen] at ht
    refine ⟨?_, row.frozen _⟩
    have hs : 0 + i * 2 + t < (flatF fs).length := by rw [flatF_len, hl]; omega
    have := hcs _ _ (List.getElem?_eq_getElem hs)
    have e0 : (⟨g, 0, none⟩ : Addr).add (0 + i * 2 + t) = ⟨g, 0 + i * 2 + t, none⟩ := by unfold Addr.add; split <;> simp_all
    rw [e0] at this
    show (w.cell? _).isSome = true
    rw [this]; rfl
  obtain ⟨W1, hW1⟩ : ∃ W1, W1 = w.drew.setCells g (0 + i * 2) news := ⟨_, rfl⟩
  have hrow := (row.below ((Below.refl _ w).drew) row.lt).erased i hi
  rw [← hij, ← hnews, show i * 2 = 0 + i * 2 by omega, ← hW1] at hrow
  have hb1 : Below base w W1 := by rw [hW1]; exact ((Below.refl base w).drew).trans (below_cells row.base _ _ _)
  have HB : Hid (Below base w (W1.setCells g ((n - 1) * 2) [.string ⟨#[]⟩, .string ⟨#[]⟩])) := hb1.trans (below_cells row.base _ _ _)
  have HROW : Hid (FieldRow base (W1.setCells g ((n - 1) * 2) [.string ⟨#[]⟩, .string ⟨#[]⟩]) g (n - 1) cap (fs.eraseIdx i)) := hrow
  have hcell : ∀ j, j < 2 → (W1.cell? ⟨g, (n - 1) * 2 + j, none⟩).isSome = true := fun j hj => by
    rw [hW1]
    have hs : (n - 1) * 2 + j < (flatF fs).length := by rw [flatF_len, hl]; omega
    have := hcs _ _ (List.getElem?_eq_getElem hs)
    have e0 : (⟨g, 0, none⟩ : Addr).add ((n - 1) * 2 + j) = ⟨g, (n - 1) * 2 + j, none⟩ := by unfold Addr.add; split <;> simp_all
    rw [e0] at this
    rw [World.cell?_setCells_out g _ _ _ _ (fun _ _ => .inr (by simp only []; omega))]
    show (w.cell? _).isSome = true
    rw [this]; rfl
  have hfr : ∀ j, j < 2 → W1.frozen? ⟨g, (n - 1) * 2 + j, none⟩ = false := fun j _ => by
    rw [hW1, World.frozen?_setCells]; exact row.frozen _
  have hcl : ∀ ty c, (Builtin.clear_ #[49] ty #[.slice (some ⟨g, (i + (n - j)) * 2, none⟩) (n - (i + (n - j))) c]).run Try.prog W1 = .ok (.tuple #[]) (W1.setCells g ((n - 1) * 2) [.string ⟨#[]⟩, .string ⟨#[]⟩]) :=
    fun ty c => by
      rw [show i + (n - j) = n - 1 by omega, show n - (n - 1) = 1 by omega]
      exact run_clear_two W1 49 33 ty Try.underlying49 Try.zeroValue33 g _ c hcell hfr
  have hne1 : ¬ cap = i + (n - j) := by omega
  have hle1 : i + (n - j) ≤ n := by omega
  have hL : Hid (i + (n - j) = n - 1) := by show _ = _; omega
  have hW : Hid (W1 = w.drew.setCells g (0 + i * 2) news) := hW1
  clear hW1 hb1 hrow hcell hfr hcs hlen hnews row
  have hic : i ≤ cap := by omega
  have hjc : j ≤ cap := by omega
  have hjn : (j : Int) ≤ (n : Int) := by omega
  have hij2 : (i : Int) < (j : Int) := by omega
  clear hij
  go_enter Try.func40, Try.ntmps40
  go_wp2_with fail
  go_region_law (refine step_append_room rfl (.tmp 22) (.tmp 25) 49 rfl 33 i0 2 Try.underlying49 hi0 hz1 g 0 i cap (by simp [Act.eval, Act.put]) A (n - j) (cap - j) news (by simp [Act.eval, Act.put]) s1.out hsrc.out s2.out (by omega) s3.out ?_; rw [← hW.out])
  go_wp2
  go_ret
  exact ⟨by rw [← hL.out]; rfl, HROW.out, HB.out⟩

theorem del_any (base g n cap : Nat) (fs : List (ByteArray × ByteArray)) (i : Nat) (w : World) (row : FieldRow base w g n cap fs) (hi : i < n) :
    Calls Try.prog 40 #[.slice (some ⟨g, 0, none⟩) n cap, .int .i64 (i : Int), .int .i64 ((i : Int) + 1)] w fun e w' => e = .returned (.slice (some ⟨g, 0, none⟩) (n - 1) cap) ∧ FieldRow base w' g (n - 1) cap (fs.eraseIdx i) ∧ Below base w w' :=
  del_at base g n cap fs i (i + 1) w row hi rfl

end Go.Proofs.Ytnabeailjbghjaa
