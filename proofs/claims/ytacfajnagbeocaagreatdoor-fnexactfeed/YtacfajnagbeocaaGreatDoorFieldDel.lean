/- 'slices.Delete' of one field out of a list of the call's own: contract over the translation. -/
import Derived.Test.YtacfajnagbeocaaGreatDoorFieldImpl
import Derived.Lib.SliceRun
import Derived.Deep.RegionLaw
namespace Go.Proofs.YtacfajnagbeocaaGreatDoor
open Go.RowKit
open Go.Lib hiding intOf

theorem heap_setCells (b : Nat) : ∀ (vs : List Value) (o : Nat) (w : World) (cur : Array Value) (t : TypeId) (fz : Nat × Nat), w.heap[b]? = some (.cells cur t fz) → ∃ cur', (w.setCells b o vs).heap[b]? = some (.cells cur' t fz) ∧ cur'.size = cur.size
  | [], _, _, cur, _, _, h => ⟨cur, h, rfl⟩
  | v :: r, o, w, cur, t, fz, h => by
    obtain ⟨c, h1, h2⟩ := heap_setCells b r (o + 1) (w.setCell ⟨b, o, none⟩ v) _ t fz (heap_set w b o cur t fz v h)
    exact ⟨c, h1, by simpa using h2⟩
theorem below_cells {B g : Nat} (hg : B ≤ g) : ∀ (vs : List Value) (o : Nat) (w : World), Below B w (w.setCells g o vs)
  | [], _, w => Below.refl B w
  | v :: r, o, w => ((Below.refl B w).setCell (p := ⟨g, o, none⟩) hg v).trans (below_cells hg r (o + 1) _)
theorem nameAt_erase (fs : List (ByteArray × ByteArray)) (i m : Nat) : nameAt (fs.eraseIdx i) m = (if m < i then nameAt fs m else nameAt fs (m + 1)) ∧ valAt (fs.eraseIdx i) m = (if m < i then valAt fs m else valAt fs (m + 1)) := by
  have h := List.getElem?_eraseIdx (l := fs) (i := i) (j := m)
  unfold nameAt valAt
  rw [List.getD_eq_getElem?_getD, List.getD_eq_getElem?_getD, List.getD_eq_getElem?_getD, h]
  split <;> exact ⟨rfl, rfl⟩
/-- The two cells of an empty field, laid by 'clear'. -/
theorem run_clear_two (w : World) (t e ty : TypeId) (ht : Tryz.prog.underlying t = some (.slice e)) (hv : ∀ w, (zeroValue e).run Tryz.prog w = .ok (.agg #[.string ⟨#[]⟩, .string ⟨#[]⟩]) w) (b o c : Nat)
    (hc : ∀ j, j < 2 → (w.cell? ⟨b, o + j, none⟩).isSome = true) (hf : ∀ j, j < 2 → w.frozen? ⟨b, o + j, none⟩ = false) :
    (Builtin.clear_ #[t] ty #[.slice (some ⟨b, o, none⟩) 1 c]).run Tryz.prog w = .ok (.tuple #[]) (w.setCells b o [.string ⟨#[]⟩, .string ⟨#[]⟩]) := by
  have hzc : (Builtin.zeroCells (Value.agg #[.string ⟨#[]⟩, .string ⟨#[]⟩]).cells 1).toList = [.string ⟨#[]⟩, .string ⟨#[]⟩] := by simp [Builtin.zeroCells, Value.cells, List.range_succ]
  have hst := run_storeCells_cells (P := Tryz.prog) b o [.string ⟨#[]⟩, .string ⟨#[]⟩] 0 w (by simpa using hc) (by simpa using hf) (two_text _ _)
  simp only [Nat.add_zero] at hst
  simp [Builtin.clear_, run_underlying ht, hv, hzc, hst]

/-- The row behind the two writings. -/
theorem FieldRow.erased {base : Nat} {w : World} {g n cap : Nat} {fs : List (ByteArray × ByteArray)} (h : FieldRow base w g n cap fs) (i : Nat) (hi : i < n) : FieldRow base ((w.setCells g (i * 2) ((flatF fs).drop ((i + 1) * 2))).setCells g ((n - 1) * 2) [.string ⟨#[]⟩, .string ⟨#[]⟩]) g (n - 1) cap (fs.eraseIdx i) := by
  have hl := h.len; have hle := h.le
  obtain ⟨cur, h1, h2, h3⟩ := h.heap
  obtain ⟨c1, k1, k2⟩ := heap_setCells g ((flatF fs).drop ((i + 1) * 2)) (i * 2) w cur _ _ h1
  obtain ⟨c2, k3, k4⟩ := heap_setCells g [.string ⟨#[]⟩, .string ⟨#[]⟩] ((n - 1) * 2) _ c1 _ _ k1
  have hcell : ∀ j, c2[j]? = (((w.setCells g (i * 2) ((flatF fs).drop ((i + 1) * 2))).setCells g ((n - 1) * 2) [.string ⟨#[]⟩, .string ⟨#[]⟩]).cell? ⟨g, j, none⟩) := fun j => by
    simp only [World.cell?, k3]
    simp
  have hlen : ((flatF fs).drop ((i + 1) * 2)).length = (n - (i + 1)) * 2 := by rw [List.length_drop, flatF_len, hl]; omega
  have hold : ∀ j, j < n * 2 → w.cell? ⟨g, j, none⟩ = (flatF fs)[j]? := fun j hj => by
    have hs : j < (flatF fs).length := by rw [flatF_len, hl]; exact hj
    have := h.cells j _ (List.getElem?_eq_getElem hs)
    rw [List.getElem?_eq_getElem hs, ← this]
    congr 1
    unfold Addr.add; split <;> simp_all
  have hnew : ∀ j, j < (n - 1) * 2 → c2[j]? = (if j < i * 2 then (flatF fs)[j]? else (flatF fs)[j + 2]?) := fun j hj => by
    rw [hcell, World.cell?_setCells_out g _ _ _ _ (fun _ _ => .inl hj)]
    split
    · rename_i hlt
      rw [World.cell?_setCells_out g _ _ _ _ (fun _ _ => .inl hlt)]
      exact hold j (by omega)
    · rename_i hge
      have hin := World.cell?_setCells_in g ((flatF fs).drop ((i + 1) * 2)) (i * 2) w (fun t ht => by rw [hold _ (by omega), List.getElem?_eq_getElem (by rw [flatF_len]; omega)]; rfl) (j - i * 2) (by omega)
      rw [show i * 2 + (j - i * 2) = j by omega] at hin
      rw [hin, List.getElem_drop, ← List.getElem?_eq_getElem]
      congr 1
      omega
  have hsz : ((w.setCells g (i * 2) ((flatF fs).drop ((i + 1) * 2))).setCells g ((n - 1) * 2) [.string ⟨#[]⟩, .string ⟨#[]⟩]).heap.size ≥ w.heap.size := ((below_cells (Nat.zero_le g) _ _ _).trans (below_cells (Nat.zero_le g) _ _ _)).size
  have hlt := h.lt
  refine ⟨by rw [List.length_eraseIdx, if_pos (by omega)]; omega, h.base, by omega, by omega, h.mx, c2, k3, by omega, ?_⟩
  intro m hm
  have he := nameAt_erase fs i m
  rw [he.1, he.2, hnew _ (by omega), hnew _ (by omega)]
  by_cases c : m < i
  · rw [if_pos c, if_pos c, if_pos (show m * 2 < i * 2 by omega), if_pos (show m * 2 + 1 < i * 2 by omega)]
    exact flatF_get fs m (by omega)
  · rw [if_neg c, if_neg c, if_neg (show ¬ m * 2 < i * 2 by omega), if_neg (show ¬ m * 2 + 1 < i * 2 by omega)]
    have := flatF_get fs (m + 1) (by omega)
    rw [show (m + 1) * 2 = m * 2 + 2 by omega, show m * 2 + 2 + 1 = m * 2 + 1 + 2 by omega] at this
    exact this

end Go.Proofs.YtacfajnagbeocaaGreatDoor
