/- What the proof of FnExactAsk leans on: contracts of the program's and the specification's functions, and plain facts (part 2 of 2). -/
import Derived.Test.YthlmnmbhgkmbfaaFnExactAskA
namespace Go.Proofs.Ythlmnmbhgkmbfaa
open Go.RowKit
open Go.Lib hiding intOf

theorem heap_setCells (b : Nat) : ∀ (vs : List Value) (o : Nat) (w : World) (cur : Array Value) (t : TypeId) (fz : Nat × Nat), w.heap[b]? = some (.cells cur t fz) → ∃ cur', (w.setCells b o vs).heap[b]? = some (.cells cur' t fz) ∧ cur'.size = cur.size
  | [], _, _, cur, _, _, h => ⟨cur, h, rfl⟩
  | v :: r, o, w, cur, t, fz, h => by
    obtain ⟨c, h1, h2⟩ := heap_setCells b r (o + 1) (w.setCell ⟨b, o, none⟩ v) _ t fz (heap_set w b o cur t fz v h)
    exact ⟨c, h1, by simpa using h2⟩
theorem below_cells {B g : Nat} (hg : B ≤ g) : ∀ (vs : List Value) (o : Nat) (w : World), Below B w (w.setCells g o vs)
  | [], _, w => Below.refl B w
  | v :: r, o, w => ((Below.refl B w).setCell (p := ⟨g, o, none⟩) hg v).trans (below_cells hg r (o + 1) _)
theorem nameAt_erase (fs : List (ByteArray × ByteArray)) (i m : Nat) : nameAt (fs.eraseIdx i) m = (if m < i then nameAt fs m else nameAt fs (m + 1)) ∧ valAt (fs.eraseIdx i) m = (if m < i then valAt fs m else valAt fs (m + 1)) := by
  have h := List.getElem?_eraseIdx (l := fs) (i := i) (j := m)
  unfold nameAt valAt
  rw [List.getD_eq_getElem?_getD, List.getD_eq_getElem?_getD, List.getD_eq_getElem?_getD, h]
  split <;> exact ⟨rfl, rfl⟩
/-- The two cells of an empty field, laid by 'clear'. -/
theorem run_clear_two (w : World) (t e ty : TypeId) (ht : Try.prog.underlying t = some (.slice e)) (hv : ∀ w, (zeroValue e).run Try.prog w = .ok (.agg #[.string ⟨#[]⟩, .string ⟨#[]⟩]) w) (b o c : Nat)
    (hc : ∀ j, j < 2 → (w.cell? ⟨b, o + j, none⟩).isSome = true) (hf : ∀ j, j < 2 → w.frozen? ⟨b, o + j, none⟩ = false) :
    (Builtin.clear_ #[t] ty #[.slice (some ⟨b, o, none⟩) 1 c]).run Try.prog w = .ok (.tuple #[]) (w.setCells b o [.string ⟨#[]⟩, .string ⟨#[]⟩]) := by
  have hzc : (Builtin.zeroCells (Value.agg #[.string ⟨#[]⟩, .string ⟨#[]⟩]).cells 1).toList = [.string ⟨#[]⟩, .string ⟨#[]⟩] := by simp [Builtin.zeroCells, Value.cells, List.range_succ]
  have hst := run_storeCells_cells (P := Try.prog) b o [.string ⟨#[]⟩, .string ⟨#[]⟩] 0 w (by simpa using hc) (by simpa using hf) (two_text _ _)
  simp only [Nat.add_zero] at hst
  simp [Builtin.clear_, run_underlying ht, hv, hzc, hst]

/-- The row behind the two writings. -/
theorem FieldRow.erased {base : Nat} {w : World} {g n cap : Nat} {fs : List (ByteArray × ByteArray)} (h : FieldRow base w g n cap fs) (i : Nat) (hi : i < n) : FieldRow base ((w.setCells g (i * 2) ((flatF fs).drop ((i + 1) * 2))).setCells g ((n - 1) * 2) [.string ⟨#[]⟩, .string ⟨#[]⟩]) g (n - 1) cap (fs.eraseIdx i) := by
  have hl := h.len; have hle := h.le
  obtain ⟨cur, h1, h2, h3⟩ := h.heap
  obtain ⟨c1, k1, k2⟩ := heap_setCells g ((flatF fs).drop ((i + 1) * 2)) (i * 2) w cur _ _ h1
  obtain ⟨c2, k3, k4⟩ := heap_setCells g [.string ⟨#[]⟩, .string ⟨#[]⟩] ((n - 1) * 2) _ c1 _ _ k1
  have hcell : ∀ j, c2[j]? = (((w.setCells g (i * 2) ((flatF fs).drop ((i + 1) * 2))).setCells g ((n - 1) * 2) [.string ⟨#[]⟩, .string ⟨#[]⟩]).cell? ⟨g, j, none⟩) := fun j => by
    simp only [World.cell?, k3]
    simp
  have hlen : ((flatF fs).drop ((i + 1) * 2)).length = (n - (i + 1)) * 2 := by rw [List.length_drop, flatF_len, hl]; omega
  have hold : ∀ j, j < n * 2 → w.cell? ⟨g, j, none⟩ = (flatF fs)[j]? := fun j hj => by
    have hs : j < (flatF fs).length := by rw [flatF_len, hl]; exact hj
    have := h.cells j _ (List.getElem?_eq_getElem hs)
    rw [List.getElem?_eq_getElem hs, ← this]
    congr 1
    unfold Addr.add; split <;> simp_all
  have hnew : ∀ j, j < (n - 1) * 2 → c2[j]? = (if j < i * 2 then (flatF fs)[j]? else (flatF fs)[j + 2]?) := fun j hj => by
    rw [hcell, World.cell?_setCells_out g _ _ _ _ (fun _ _ => .inl hj)]
    split
    · rename_i hlt
      rw [World.cell?_setCells_out g _ _ _ _ (fun _ _ => .inl hlt)]
      exact hold j (by omega)
    · rename_i hge
      have hin := World.cell?_setCells_in g ((flatF fs).drop ((i + 1) * 2)) (i * 2) w (fun t ht => by rw [hold _ (by omega), List.getElem?_eq_getElem (by rw [flatF_len]; omega)]; rfl) (j - i * 2) (by omega)
      rw [show i * 2 + (j - i * 2) = j by omega] at hin
      rw [hin, List.getElem_drop, ← List.getElem?_eq_getElem]
      congr 1
      omega
  have hsz : ((w.setCells g (i * 2) ((flatF fs).drop ((i + 1) * 2))).setCells g ((n - 1) * 2) [.string ⟨#[]⟩, .string ⟨#[]⟩]).heap.size ≥ w.heap.size := ((below_cells (Nat.zero_le g) _ _ _).trans (below_cells (Nat.zero_le g) _ _ _)).size
  have hlt := h.lt
  refine ⟨by rw [List.length_eraseIdx, if_pos (by omega)]; omega, h.base, by omega, by omega, h.mx, c2, k3, by omega, ?_⟩
  intro m hm
  have he := nameAt_erase fs i m
  rw [he.1, he.2, hnew _ (by omega), hnew _ (by omega)]
  by_cases c : m < i
  · rw [if_pos c, if_pos c, if_pos (show m * 2 < i * 2 by omega), if_pos (show m * 2 + 1 < i * 2 by omega)]
    exact flatF_get fs m (by omega)
  · rw [if_neg c, if_neg c, if_neg (show ¬ m * 2 < i * 2 by omega), if_neg (show ¬ m * 2 + 1 < i * 2 by omega)]
    have := flatF_get fs (m + 1) (by omega)
    rw [show (m + 1) * 2 = m * 2 + 2 by omega, show m * 2 + 2 + 1 = m * 2 + 1 + 2 by omega] at this
    exact this

set_option maxHeartbeats 2000000 in
set_option maxRecDepth 100000 in
theorem del_at (base g n cap : Nat) (fs : List (ByteArray × ByteArray)) (i j : Nat) (w : World) (row : FieldRow base w g n cap fs) (hi : i < n) (hij : j = i + 1) :
    Calls Try.prog 80 #[.slice (some ⟨g, 0, none⟩) n cap, .int .i64 (i : Int), .int .i64 (j : Int)] w fun e w' => e = .returned (.slice (some ⟨g, 0, none⟩) (n - 1) cap) ∧ FieldRow base w' g (n - 1) cap (fs.eraseIdx i) ∧ Below base w w' := by
  obtain ⟨i0, hi0, hz0, hz1, hz2⟩ := info_parts info33
  have hl := row.len; have hle := row.le; have hmx := row.mx
  unfold maxLen at hmx
  obtain ⟨news, hnews⟩ : ∃ news, news = (flatF fs).drop (j * 2) := ⟨_, rfl⟩
  have hlen : news.length = (n - j) * 2 := by rw [hnews, List.length_drop, flatF_len, hl]; omega
  have hcs := row.cells
  obtain ⟨A, hA, hsrc⟩ : ∃ A : Addr, (if cap = j then some (⟨g, 0, none⟩ : Addr) else some ⟨g, j * 2, none⟩) = some A ∧ Hid (∀ t u, news[t]? = some u → w.drew.cell? (A.add t) = some u) := by
    by_cases h : cap = j
    · refine ⟨⟨g, 0, none⟩, by simp [h], fun t u hu => ?_⟩
      have h0 : news.length = 0 := by rw [hlen]; omega
      rw [List.length_eq_zero_iff.1 h0] at hu
      simp at hu
    · refine ⟨⟨g, j * 2, none⟩, by simp [h], fun t u hu => ?_⟩
      rw [hnews, List.getElem?_drop] at hu
      have := hcs _ u hu
      have e0 : ∀ x y : Nat, (⟨g, x, none⟩ : Addr).add y = ⟨g, x + y, none⟩ := fun x y => by unfold Addr.add; split <;> simp_all
      rw [e0] at this ⊢
      rw [Nat.zero_add] at this
      exact this
  have s1 : Hid (news.length = (n - j) * 2) := hlen
  have s2 : Hid (∀ u ∈ news, u.oneCell' = true) := fun u hu => flat_one fs u (List.mem_of_mem_drop (by rw [← hnews]; exact hu))
  have s3 : Hid (∀ t, t < news.length → (w.drew.cell? ⟨g, 0 + i * 2 + t, none⟩).isSome = true ∧ w.drew.frozen? ⟨g, 0 + i * 2 + t, none⟩ = false) := fun t ht => by
    rw [hlen] at ht
    refine ⟨?_, row.frozen _⟩
    have hs : 0 + i * 2 + t < (flatF fs).length := by rw [flatF_len, hl]; omega
    have := hcs _ _ (List.getElem?_eq_getElem hs)
    have e0 : (⟨g, 0, none⟩ : Addr).add (0 + i * 2 + t) = ⟨g, 0 + i * 2 + t, none⟩ := by unfold Addr.add; split <;> simp_all
    rw [e0] at this
    show (w.cell? _).isSome = true
    rw [this]; rfl
  obtain ⟨W1, hW1⟩ : ∃ W1, W1 = w.drew.setCells g (0 + i * 2) news := ⟨_, rfl⟩
  have hrow := (row.below ((Below.refl _ w).drew) row.lt).erased i hi
  rw [← hij, ← hnews, show i * 2 = 0 + i * 2 by omega, ← hW1] at hrow
  have hb1 : Below base w W1 := by rw [hW1]; exact ((Below.refl base w).drew).trans (below_cells row.base _ _ _)
  have HB : Hid (Below base w (W1.setCells g ((n - 1) * 2) [.string ⟨#[]⟩, .string ⟨#[]⟩])) := hb1.trans (below_cells row.base _ _ _)
  have HROW : Hid (FieldRow base (W1.setCells g ((n - 1) * 2) [.string ⟨#[]⟩, .string ⟨#[]⟩]) g (n - 1) cap (fs.eraseIdx i)) := hrow
  have hcell : ∀ j, j < 2 → (W1.cell? ⟨g, (n - 1) * 2 + j, none⟩).isSome = true := fun j hj => by
    rw [hW1]
    have hs : (n - 1) * 2 + j < (flatF fs).length := by rw [flatF_len, hl]; omega
    have := hcs _ _ (List.getElem?_eq_getElem hs)
    have e0 : (⟨g, 0, none⟩ : Addr).add ((n - 1) * 2 + j) = ⟨g, (n - 1) * 2 + j, none⟩ := by unfold Addr.add; split <;> simp_all
    rw [e0] at this
    rw [World.cell?_setCells_out g _ _ _ _ (fun _ _ => .inr (by simp only []; omega))]
    show (w.cell? _).isSome = true
    rw [this]; rfl
  have hfr : ∀ j, j < 2 → W1.frozen? ⟨g, (n - 1) * 2 + j, none⟩ = false := fun j _ => by
    rw [hW1, World.frozen?_setCells]; exact row.frozen _
  have hcl : ∀ ty c, (Builtin.clear_ #[75] ty #[.slice (some ⟨g, (i + (n - j)) * 2, none⟩) (n - (i + (n - j))) c]).run Try.prog W1 = .ok (.tuple #[]) (W1.setCells g ((n - 1) * 2) [.string ⟨#[]⟩, .string ⟨#[]⟩]) :=
    fun ty c => by
      rw [show i + (n - j) = n - 1 by omega, show n - (n - 1) = 1 by omega]
      exact run_clear_two W1 75 68 ty Try.underlying75 Try.zeroValue68 g _ c hcell hfr
  have hne1 : ¬ cap = i + (n - j) := by omega
  have hle1 : i + (n - j) ≤ n := by omega
  have hL : Hid (i + (n - j) = n - 1) := by show _ = _; omega
  have hW : Hid (W1 = w.drew.setCells g (0 + i * 2) news) := hW1
  clear hW1 hb1 hrow hcell hfr hcs hlen hnews row
  have hic : i ≤ cap := by omega
  have hjc : j ≤ cap := by omega
  have hjn : (j : Int) ≤ (n : Int) := by omega
  have hij2 : (i : Int) < (j : Int) := by omega
  clear hij
  go_enter Try.func80, Try.ntmps80
  go_wp2_with fail
  go_region_law (refine step_append_room rfl (.tmp 22) (.tmp 25) 75 rfl 68 i0 2 Try.underlying75 hi0 hz1 g 0 i cap (by simp [Act.eval, Act.put]) A (n - j) (cap - j) news (by simp [Act.eval, Act.put]) s1.out hsrc.out s2.out (by omega) s3.out ?_; rw [← hW.out])
  go_wp2
  go_ret
  exact ⟨by rw [← hL.out]; rfl, HROW.out, HB.out⟩

theorem del_any (base g n cap : Nat) (fs : List (ByteArray × ByteArray)) (i : Nat) (w : World) (row : FieldRow base w g n cap fs) (hi : i < n) :
    Calls Try.prog 80 #[.slice (some ⟨g, 0, none⟩) n cap, .int .i64 (i : Int), .int .i64 ((i : Int) + 1)] w fun e w' => e = .returned (.slice (some ⟨g, 0, none⟩) (n - 1) cap) ∧ FieldRow base w' g (n - 1) cap (fs.eraseIdx i) ∧ Below base w w' :=
  del_at base g n cap fs i (i + 1) w row hi rfl

end Go.Proofs.Ythlmnmbhgkmbfaa

namespace Go.Proofs.Ythlmnmbhgkmbfaa
open Go.RowKit
open Go.Lib hiding intOf

theorem pair_at (fs : List (ByteArray × ByteArray)) (k : Nat) (h : k < fs.length) : (nameAt fs k, valAt fs k) = fs[k] := by
  unfold nameAt valAt
  rw [List.getD_eq_getElem?_getD, List.getElem?_eq_getElem h]
  rfl
theorem dropTo_none (fs : List (ByteArray × ByteArray)) : ∀ k, k ≤ fs.length → dropTo fs (-1) k = fs.take k := by
  intro k
  induction k with
  | zero => intro _; rfl
  | succ k ih =>
    intro hk
    rw [dropTo, if_neg (by omega), ih (by omega), pair_at fs k (by omega), List.take_append_getElem (by omega)]
theorem dropTo_at (fs : List (ByteArray × ByteArray)) (a : Nat) : ∀ k, k ≤ fs.length → dropTo fs (a : Int) k = (if a < k then (fs.take k).eraseIdx a else fs.take k) := by
  intro k
  induction k with
  | zero => intro _; rfl
  | succ k ih =>
    intro hk
    have ht : fs.take (k + 1) = fs.take k ++ [fs[k]] := (List.take_append_getElem (by omega)).symm
    have hl : (fs.take k).length = k := by rw [List.length_take]; omega
    rw [dropTo, ih (by omega), pair_at fs k (by omega), ht]
    by_cases e : k = a
    · subst e
      rw [if_pos rfl, if_neg (by omega), if_pos (by omega), List.eraseIdx_append_of_length_le (by omega), hl, Nat.sub_self]
      simp
    · rw [if_neg (by omega)]
      by_cases c : a < k
      · rw [if_pos c, if_pos (by omega), List.eraseIdx_append_of_lt_length (by omega)]
      · rw [if_neg c, if_neg (by omega)]
theorem dropF_eq (fs : List (ByteArray × ByteArray)) (name : ByteArray) : dropF fs name = (if atF fs name < fs.length then fs.eraseIdx (atF fs name) else fs) := by
  unfold dropF atI
  by_cases h : atF fs name < fs.length
  · rw [if_pos h, if_pos h, dropTo_at fs _ _ (Nat.le_refl _), if_pos h, List.take_length]
  · rw [if_neg h, if_neg h, dropTo_none fs _ (Nat.le_refl _), List.take_length]
theorem putF_eq (fs : List (ByteArray × ByteArray)) (name value : ByteArray) (h : atF fs name < fs.length) : putF fs name value = fs.set (atF fs name) (name, value) := by
  unfold putF
  rw [if_pos h, atF_here fs name h]

set_option maxHeartbeats 400000 in
theorem implDrop_any (v : Value) (n base : Nat) (fs : List (ByteArray × ByteArray)) (name : ByteArray) (w : World) (hv : FieldsV w base v n fs) (hn : n ≤ 2000000) (hsz : CopyF fs) :
    Calls Try.prog 47 #[v, .string name] w fun e w' => RowF (dropF fs name) w e w' := by
  have hl := hv.len
  have hle := atF_le fs name
  obtain ⟨oa, cap, rfl, _⟩ := hv.slice
  go_enter Try.func47, Try.ntmps47
  go_wp2_with fail
  refine (copied_any _ n base fs _ hv hn hsz).mono ?_
  rintro e w1 ⟨out, rfl, hown, hb1⟩
  rw [hl] at hown
  have hv1 := FieldsV.of_owns hown
  clear hv hsz
  obtain ⟨k, hk⟩ : ∃ k, k = atF fs name := ⟨_, rfl⟩
  by_cases hin : atF fs name < fs.length
  · have hD : Hid (dropF fs name = fs.eraseIdx k) := by show _ = _; rw [dropF_eq, if_pos hin, hk]
    rcases frow_form hown with ⟨_, _, _, _, h0, _⟩ | ⟨g1, c1, rfl, _, row1⟩
    · omega
    have HROW : Hid (FieldRow w.heap.size w1 g1 n c1 fs) := row1
    have hlt : (k : Int) < (n : Int) := by omega
    have hne : ((k : Int) == (n : Int)) = false := by rw [beq_eq_false_iff_ne]; omega
    have hkn : k < n := by omega
    go_wp2_with fail
    refine (place_any _ n w.heap.size fs name _ hv1 (by omega)).mono ?_
    rintro e w2 ⟨rfl, rfl⟩
    rw [← hk]
    clear hv1 hown row1 hk hle hin
    go_wp2_with fail
    refine (del_any w.heap.size g1 n c1 fs k _ HROW.out hkn).mono ?_
    rintro e w3 ⟨rfl, hrow3, hb3⟩
    have hb4 := hb1.trans hb3
    have HR3 : Hid (FieldRow w.heap.size w3 g1 (n - 1) c1 (fs.eraseIdx k)) := hrow3
    clear hb1 hb3 hrow3 HROW
    go_wp2
    go_ret
    refine ⟨_, rfl, ?_, hb4⟩
    rw [hD.out, HR3.out.len]
    exact HR3.out.owns
  · have hD : Hid (dropF fs name = fs) := by show _ = _; rw [dropF_eq, if_neg hin]
    have hkn : k = n := by omega
    have HOWN : Hid (w1.ownsRow w.heap.size 68 2 out n (flatF fs)) := hown
    obtain ⟨oa1, cp1, rfl, _⟩ := hv1.slice
    clear hown
    go_wp2_with fail
    refine (place_any _ n w.heap.size fs name _ hv1 (by omega)).mono ?_
    rintro e w2 ⟨rfl, rfl⟩
    rw [← hk, hkn]
    clear hv1 hk hle hin hkn
    go_wp2
    go_ret
    exact ⟨_, rfl, by rw [hD.out, hl]; exact HOWN.out, hb1⟩

end Go.Proofs.Ythlmnmbhgkmbfaa

namespace Go.Proofs.Ythlmnmbhgkmbfaa
open Go.RowKit
open Go.Lib hiding intOf

attribute [local go_sem] Oper.semAt_some

/-- What a round keeps: all below a block, and the one block that holds the fields. -/
def KeepL (n₀ b : Nat) (W W' : World) : Prop := Below n₀ W W' ∧ W'.heap[b]? = W.heap[b]?
theorem KeepL.trans {n₀ b : Nat} {A B C : World} (h : KeepL n₀ b A B) (k : KeepL n₀ b B C) : KeepL n₀ b A C := ⟨h.1.trans k.1, k.2.trans h.2⟩
end Go.Proofs.Ythlmnmbhgkmbfaa

namespace Go.Proofs.Ythlmnmbhgkmbfaa
open Go.RowKit
open Go.Lib hiding intOf

theorem two_facts {W : World} {R : Nat} {a b : Value} {t : TypeId} (h : W.heap[R]? = some (.cells #[a, b] t)) : W.cell? ⟨R, 0, none⟩ = some a ∧ W.cell? ⟨R, 1, none⟩ = some b := by
  simp [World.cell?, h]

set_option maxHeartbeats 2000000 in
set_option maxRecDepth 100000 in
theorem putTogether_any (v : Value) (n base : Nat) (fs : List (ByteArray × ByteArray)) (u : Value) (k base2 : Nat) (gs : List (ByteArray × ByteArray)) (w : World) (hv : FieldsV w base v n fs) (hu : FieldsV w base2 u k gs) (hnk : n + k ≤ 1999999) (hsz : CopyF fs) (hsz2 : CopyF gs) :
    Calls Try.prog 46 #[v, u] w fun e w' => RowF (putAll fs gs) w e w' := by
  obtain ⟨i0, hi, hz0, hz1, hz2⟩ := info_parts info33
  have HLA : Hid (fs.length = n) := hv.len
  have HLB : Hid (gs.length = k) := hu.len
  obtain ⟨oa, cap, rfl, _⟩ := hv.slice
  obtain ⟨ob, cb, rfl, hrow⟩ := hu.slice
  have HROW : Hid (∀ j, j < k → ∃ g, ob = some ⟨g, 0, none⟩ ∧ FieldRow base2 w g k cb gs) := hrow
  have HSZ : Hid (CopyF gs) := hsz2
  clear hu hrow hsz2
  go_enter Try.func46, Try.ntmps46
  go_wp2_with fail
  refine (copied_any _ n base fs _ hv (by omega) hsz).mono ?_
  rintro e w1 ⟨out, rfl, hown, hb1⟩
  obtain ⟨o1, c1, rfl⟩ := slice_of_owns hown
  have HO1 : Hid (w1.ownsRow w.heap.size 68 2 (.slice o1 fs.length c1) fs.length (flatF fs)) := hown
  have HB1 : Hid (Below w.heap.size w w1) := hb1
  clear hv hsz hown hb1
  go_wp2_with fail
  go_loopw [5, 13] (fun s i wr => ∃ (j : Nat) (o : Option Addr) (c np : Nat) (P : List (ByteArray × ByteArray)), j ≤ k ∧ i = .int .i64 (j : Int) ∧ s = .slice o np c ∧ Hid (P = putAll fs (gs.take j) ∧ P.length = np ∧ np ≤ n + j) ∧ Hid (wr.ownsRow w.heap.size 68 2 (.slice o np c) np (flatF P)) ∧ Hid (Below w.heap.size w wr)) (fun _ i _ => k - (intOf i).toNat)
  case atStart => exact ⟨0, o1, c1, fs.length, fs, Nat.zero_le _, rfl, rfl, ⟨by simp [putAll], rfl, by rw [HLA.out]; omega⟩, HO1, HB1⟩
  case round =>
    obtain ⟨j, o, c, np, P, hj, rfl, rfl, HP, HO, HB⟩ := hrel
    by_cases hlt : j < k
    · have hlt2 : (j : Int) < (k : Int) := by omega
      obtain ⟨g, rfl, row⟩ := HROW.out j hlt
      have hgr : g < w.heap.size := row.lt
      have row1 := row.below HB.out row.lt
      have hc1 := row1.name j hlt
      have hc2 := row1.val j hlt
      obtain ⟨z1, z2⟩ := HSZ.out j (by rw [HLB.out]; exact hlt)
      have HTK : Hid (gs.take (j + 1) = gs.take j ++ [(nameAt gs j, valAt gs j)]) := take_field gs j (by rw [HLB.out]; exact hlt)
      obtain ⟨nm, hnm⟩ : ∃ y, y = nameAt gs j := ⟨_, rfl⟩
      obtain ⟨vl, hvl⟩ : ∃ y, y = valAt gs j := ⟨_, rfl⟩
      rw [← hnm] at hc1 z1 HTK
      rw [← hvl] at hc2 z2 HTK
      clear hnm hvl row row1
      go_upto_region 5 with fail
      obtain ⟨q, hq⟩ : ∃ q, q = wr.heap.size := ⟨_, rfl⟩
      obtain ⟨W2, hW2⟩ : ∃ W, W = wr.alloc (.cells #[.string nm, .string vl] 68) := ⟨_, rfl⟩
      rw [← hW2, ← hq]
      have HQ2 : Hid (W2.heap[q]? = some (.cells #[.string nm, .string vl] 68)) := by show _ = _; rw [hW2, hq]; exact heap_alloc_new wr _
      have HB2 : Hid (Below w.heap.size w W2) := by show Below _ _ _; rw [hW2]; exact HB.out.alloc HB.out.size _
      have HO2 : Hid (W2.ownsRow w.heap.size 68 2 (.slice o np c) np (flatF P)) := by show World.ownsRow _ _ _ _ _ _ _; rw [hW2]; exact HO.out.alloc _
      have HNE : Hid (∀ x, (Value.slice o np c).ownBlock = some x → x ≠ q) := fun x hx => by have := owns_lt HO.out hx; omega
      obtain ⟨hq0, hq1⟩ := two_facts HQ2.out
      have hvp := FieldsV.of_owns HO2.out
      have hnp : np ≤ 1999999 := by have := HP.out.2.2; omega
      clear hW2 hq HO HB hc1 hc2
      go_wp2_with fail
      refine (place_any _ np _ P nm _ hvp (by omega)).mono ?_
      rintro e w3 ⟨rfl, rfl⟩
      clear hvp hq0 hq1
      have hle := atF_le P nm
      have HL2 := HP.out.2.1
      obtain ⟨a, ha⟩ : ∃ a, a = atF P nm := ⟨_, rfl⟩
      rw [← ha] at hle ⊢
      by_cases hin : a < P.length
      · have HPE : Hid (putF P nm vl = P.set a (nm, vl)) := by show _ = _; rw [putF_eq P nm vl (by rw [← ha]; exact hin), ha]
        have hlt3 : a < np := by omega
        have hne : ((a : Int) == (np : Int)) = false := by rw [beq_eq_false_iff_ne]; omega
        have HL3 : Hid (P.length = np) := HL2
        clear ha hle hin HL2 HNE
        have HO3 := HO2
        have HQ3 := HQ2
        have HB3 := HB2
        clear HO2 HQ2 HB2
        rcases frow_form HO3.out with ⟨_, _, _, _, h0, _⟩ | ⟨g1, cc, he, _, row3⟩
        · exact absurd h0 (by omega)
        cases he
        have HROW3 : Hid (FieldRow w.heap.size w3 g1 np c P) := row3
        have hat : ((a : Nat) : Int) < ((np : Nat) : Int) := by omega
        clear row3 HO3
        obtain ⟨hq0, hq1⟩ := two_facts HQ3.out
        go_wp2_with fail
        refine (newField_any nm vl _ z1 z2).mono ?_
        rintro e w5 ⟨rfl, hb5⟩
        have row5 := HROW3.out.below hb5 HROW3.out.lt
        have hb6 : Below w.heap.size w w5 := HB3.out.trans (hb5.mono HB3.out.size)
        have hset := row5.set a (by omega) nm vl _ rfl (by simp)
        have k0 := row5.name a (by omega)
        have k1 := row5.val a (by omega)
        have hf0 := row5.frozen (a * 2)
        have hf1 := row5.frozen (a * 2 + 1)
        have HSET : Hid (((w5.setCell ⟨g1, a * 2, none⟩ (.string nm)).setCell ⟨g1, a * 2 + 1, none⟩ (.string vl)).ownsRow w.heap.size 68 2 (.slice (some ⟨g1, 0, none⟩) (np) c) (np) (flatF (P.set a (nm, vl)))) := hset.owns
        have HB6 : Hid (Below w.heap.size w ((w5.setCell ⟨g1, a * 2, none⟩ (.string nm)).setCell ⟨g1, a * 2 + 1, none⟩ (.string vl))) := (hb6.setCell (p := ⟨g1, a * 2, none⟩) row5.base _).setCell (p := ⟨g1, a * 2 + 1, none⟩) row5.base _
        have HE : Hid (P.set a (nm, vl) = putAll fs (gs.take (j + 1)) ∧ (P.set a (nm, vl)).length = np ∧ np ≤ n + (j + 1)) := by
          show _ ∧ _ ∧ _
          rw [HTK.out, putAll_snoc, ← HP.out.1]
          exact ⟨HPE.out.symm, by rw [List.length_set]; exact HL3.out, by have := HP.out.2.2; omega⟩
        clear hb5 hb6 row5 hset HROW3 HB3 HQ3 hq0 hq1 HP HTK
        go_wp2_with fail
        go_roundw
        case rel => exact ⟨j + 1, _, _, _, _, by omega, by go_num, rfl, HE, HSET, HB6⟩
        case measure => simp [intOf]; omega
      · have han : a = np := by omega
        have HPE : Hid (putF P nm vl = P ++ [(nm, vl)]) := by show _ = _; unfold putF; rw [if_neg (by rw [← ha]; exact hin)]
        have HL4 : Hid (P.length = np) := HL2
        clear ha hle hin HL2
        subst han
        have h63 : a + 1 ≤ maxLen := by unfold maxLen; omega
        have h47 : (a + 1) * 32 ≤ 140737488355328 := by omega
        have HBS : ∀ o, w.heap.size ≤ (w3.alloc o).heap.size := fun o => by have := HB2.out.size; simp; omega
        go_wp2_with (at_builtin; refine wpList_append_own _ rfl _ _ 75 rfl w.heap.size 68 i0 (.agg #[.string ⟨#[]⟩, .string ⟨#[]⟩]) 2 32 Try.underlying75 hi hz0 hz1 hz2 rfl (by decide) _ _ _ rfl (HO2.out.alloc _) ⟨w3.heap.size, 0, none⟩ 1 1 [.string ⟨#[]⟩, .string ⟨#[]⟩] rfl rfl (cell_two_new _ _ _ _) (two_text _ _) h63 h47 (HBS _) ?_)
        intro v4 w4 hown4 hgrow4 _
        have HB3 : Hid (Below w.heap.size w w4) := (HB2.out.alloc HB2.out.size _).grown hgrow4 (HBS _) (fun g hg => owns_ge HO2.out hg)
        have HO3 : Hid (w4.ownsRow w.heap.size 68 2 v4 (a + 1) (flatF (P ++ [((⟨#[]⟩ : ByteArray), (⟨#[]⟩ : ByteArray))]))) := by
          show World.ownsRow _ _ _ _ _ _ _
          rw [flatF_append, flatF_one]
          exact hown4
        have HQ3 : Hid (w4.heap[q]? = some (.cells #[.string nm, .string vl] 68)) := by
          show _ = _
          have hlt := (Array.getElem?_eq_some_iff.1 HQ2.out).1
          rw [hgrow4.block q (by simp; omega) (fun e => HNE.out q e.symm rfl), Below.heap_alloc _ _ _ hlt]
          exact HQ2.out
        obtain ⟨o4, c4, rfl⟩ := slice_of_owns HO3.out
        have HL3 : Hid ((P ++ [((⟨#[]⟩ : ByteArray), (⟨#[]⟩ : ByteArray))]).length = a + 1) := by show _ = _; rw [List.length_append, HL4.out]; rfl
        have HSE : Hid ((P ++ [((⟨#[]⟩ : ByteArray), (⟨#[]⟩ : ByteArray))]).set a (nm, vl) = putF P nm vl) := by
          show _ = _
          rw [HPE.out, List.set_append_right _ _ (by rw [HL4.out]; exact Nat.le_refl _), HL4.out, Nat.sub_self, List.set_cons_zero]
        obtain ⟨P1, hP1⟩ : ∃ x, x = P ++ [((⟨#[]⟩ : ByteArray), (⟨#[]⟩ : ByteArray))] := ⟨_, rfl⟩
        rw [← hP1] at HO3 HL3 HSE
        clear hgrow4 hown4 HBS HO2 HQ2 HB2 HNE hP1 h63 h47
        rcases frow_form HO3.out with ⟨_, _, _, _, h0, _⟩ | ⟨g1, cc, he, _, row3⟩
        · exact absurd h0 (by omega)
        cases he
        have HROW3 : Hid (FieldRow w.heap.size w4 g1 (a + 1) c4 P1) := row3
        have hat : ((a : Nat) : Int) < (((a + 1) : Nat) : Int) := by omega
        clear row3 HO3
        obtain ⟨hq0, hq1⟩ := two_facts HQ3.out
        go_wp2_with fail
        refine (newField_any nm vl _ z1 z2).mono ?_
        rintro e w5 ⟨rfl, hb5⟩
        have row5 := HROW3.out.below hb5 HROW3.out.lt
        have hb6 : Below w.heap.size w w5 := HB3.out.trans (hb5.mono HB3.out.size)
        have hset := row5.set a (by omega) nm vl _ rfl (by simp)
        have k0 := row5.name a (by omega)
        have k1 := row5.val a (by omega)
        have hf0 := row5.frozen (a * 2)
        have hf1 := row5.frozen (a * 2 + 1)
        have HSET : Hid (((w5.setCell ⟨g1, a * 2, none⟩ (.string nm)).setCell ⟨g1, a * 2 + 1, none⟩ (.string vl)).ownsRow w.heap.size 68 2 (.slice (some ⟨g1, 0, none⟩) ((a + 1)) c4) ((a + 1)) (flatF (P1.set a (nm, vl)))) := hset.owns
        have HB6 : Hid (Below w.heap.size w ((w5.setCell ⟨g1, a * 2, none⟩ (.string nm)).setCell ⟨g1, a * 2 + 1, none⟩ (.string vl))) := (hb6.setCell (p := ⟨g1, a * 2, none⟩) row5.base _).setCell (p := ⟨g1, a * 2 + 1, none⟩) row5.base _
        have HE : Hid (P1.set a (nm, vl) = putAll fs (gs.take (j + 1)) ∧ (P1.set a (nm, vl)).length = (a + 1) ∧ (a + 1) ≤ n + (j + 1)) := by
          show _ ∧ _ ∧ _
          rw [HTK.out, putAll_snoc, ← HP.out.1]
          exact ⟨HSE.out, by rw [List.length_set]; exact HL3.out, by have := HP.out.2.2; omega⟩
        clear hb5 hb6 row5 hset HROW3 HB3 HQ3 hq0 hq1 HP HTK
        go_wp2_with fail
        go_roundw
        case rel => exact ⟨j + 1, _, _, _, _, by omega, by go_num, rfl, HE, HSET, HB6⟩
        case measure => simp [intOf]; omega
    · have hjk : j = k := by omega
      have HE : Hid (P = putAll fs gs ∧ P.length = np) := ⟨by rw [HP.out.1, List.take_of_length_le (by rw [HLB.out]; omega)], HP.out.2.1⟩
      clear HP
      go_wp2_with fail
      go_ret
      exact ⟨_, rfl, by rw [← HE.out.1, HE.out.2]; exact HO.out, HB.out⟩

end Go.Proofs.Ythlmnmbhgkmbfaa

namespace Go.Proofs.Ythlmnmbhgkmbfaa
open Go.RowKit
open Go.Lib hiding intOf

/-- A call answers a request with these fields, in memory of its own. -/
def ReqRow (m : Int) (p : ByteArray) (fs : List (ByteArray × ByteArray)) (b : ByteArray) (w : World) (e : Ending) (w' : World) : Prop :=
  ∃ v, e = .returned (.agg #[.int .i64 m, .string p, v, .string b]) ∧ w'.ownsRow w.heap.size 68 2 v fs.length (flatF fs) ∧ Below w.heap.size w w'

/-- While it is asked: the argument, the answer's memory, the request that is made. -/
structure AskSt (w : World) (r : Nat) (m : Int) (p : ByteArray) (v : Value) (b : ByteArray) (z : Value) (W : World) : Prop where
  q0 : W.heap[r]? = some (.cells #[.int .i64 m, .string p, v, .string b] 26)
  q1 : W.heap[r + 1]? = some (.cells #[.int .i64 0, .string ⟨#[]⟩, .slice none 0 0, .string ⟨#[]⟩] 26)
  q2 : W.heap[r + 1 + 1]? = some (.cells #[.int .i64 m, .string p, z, .string b] 26)
  low : Below r w W
theorem AskSt.size {w : World} {r : Nat} {m : Int} {p : ByteArray} {v : Value} {b : ByteArray} {z : Value} {W : World} (h : AskSt w r m p v b z W) : r + 1 + 1 + 1 ≤ W.heap.size := (Array.getElem?_eq_some_iff.1 h.q2).1
theorem AskSt.below {w : World} {r : Nat} {m : Int} {p : ByteArray} {v : Value} {b : ByteArray} {z : Value} {W W' : World} (h : AskSt w r m p v b z W) (hb : Below W.heap.size W W') : AskSt w r m p v b z W' := by
  have hs := h.size
  exact ⟨by rw [hb.block _ (by omega)]; exact h.q0, by rw [hb.block _ (by omega)]; exact h.q1, by rw [hb.block _ (by omega)]; exact h.q2, h.low.trans (hb.mono (by omega))⟩
theorem AskSt.set {w : World} {r : Nat} {m : Int} {p : ByteArray} {v : Value} {b : ByteArray} {z : Value} {W : World} (h : AskSt w r m p v b z W) (y : Value) : AskSt w r m p v b y (W.setCell ⟨r + 1 + 1, 2, none⟩ y) := by
  refine ⟨by rw [heap_setCell_other _ _ r _ (by show r ≠ r + 1 + 1; omega)]; exact h.q0, by rw [heap_setCell_other _ _ (r + 1) _ (by show r + 1 ≠ r + 1 + 1; omega)]; exact h.q1, ?_, h.low.setCell (by show r ≤ r + 1 + 1; omega) _⟩
  have := heap_set W (r + 1 + 1) 2 _ _ _ y h.q2
  simpa using this

set_option maxHeartbeats 2000000 in
set_option maxRecDepth 100000 in
theorem specAsk_any (m : Int) (p : ByteArray) (v : Value) (b : ByteArray) (n base : Nat) (fs : List (ByteArray × ByteArray)) (u : Value) (k base2 : Nat) (gs : List (ByteArray × ByteArray)) (w : World) (hv : FieldsV w base v n fs) (hn : n ≤ 1999999) (hsz : WalkF n fs) (hp : p.size ≤ maxLen) (hb : b.size ≤ maxLen) (hu : FieldsV w base2 u k gs) (hk : k ≤ 1073741824) (ht : (getV gs tagName).size ≤ maxLen) :
    Calls Try.prog 13 #[.agg #[.int .i64 m, .string p, v, .string b], u] w fun e w' => ReqRow m p (askF m p fs b gs) b w e w' := by
  obtain ⟨oa, cap, rfl, _⟩ := hv.slice
  have hl := hv.len
  obtain ⟨r, hr⟩ : ∃ r, r = w.heap.size := ⟨_, rfl⟩
  have HR : Hid (w.heap.size = r) := hr.symm
  obtain ⟨W1, hW1⟩ : ∃ W, W = ((w.alloc (.cells #[.int .i64 m, .string p, .slice oa n cap, .string b] 26)).alloc (.cells #[.int .i64 0, .string ⟨#[]⟩, .slice none 0 0, .string ⟨#[]⟩] 26)).alloc (.cells #[.int .i64 m, .string p, .slice oa n cap, .string b] 26) := ⟨_, rfl⟩
  have HW1 : Hid (((w.alloc (.cells #[.int .i64 m, .string p, .slice oa n cap, .string b] 26)).alloc (.cells #[.int .i64 0, .string ⟨#[]⟩, .slice none 0 0, .string ⟨#[]⟩] 26)).alloc (.cells #[.int .i64 m, .string p, .slice oa n cap, .string b] 26) = W1) := hW1.symm
  have HV : Hid (∀ W, Below r w W → FieldsV W base (.slice oa n cap) n fs) := fun W h => hv.below (by rw [hr] at h; exact h)
  have HST : Hid (AskSt w r m p (.slice oa n cap) b (.slice oa n cap) W1) := by
    have b1 : Below r w W1 := by rw [hW1, hr]; exact (((Below.refl _ w).alloc (Nat.le_refl _) _).alloc (by simp) _).alloc (by simp; omega) _
    have s1 : (w.alloc (.cells #[.int .i64 m, .string p, .slice oa n cap, .string b] 26)).heap.size = r + 1 := by rw [hr]; simp
    have s2 : ((w.alloc (.cells #[.int .i64 m, .string p, .slice oa n cap, .string b] 26)).alloc (.cells #[.int .i64 0, .string ⟨#[]⟩, .slice none 0 0, .string ⟨#[]⟩] 26)).heap.size = r + 1 + 1 := by rw [hr]; simp
    have e0 := heap_alloc_new w (.cells #[.int .i64 m, .string p, .slice oa n cap, .string b] 26)
    have e1 := heap_alloc_new (w.alloc (.cells #[.int .i64 m, .string p, .slice oa n cap, .string b] 26)) (.cells #[.int .i64 0, .string ⟨#[]⟩, .slice none 0 0, .string ⟨#[]⟩] 26)
    have e2 := heap_alloc_new ((w.alloc (.cells #[.int .i64 m, .string p, .slice oa n cap, .string b] 26)).alloc (.cells #[.int .i64 0, .string ⟨#[]⟩, .slice none 0 0, .string ⟨#[]⟩] 26)) (.cells #[.int .i64 m, .string p, .slice oa n cap, .string b] 26)
    rw [← hr] at e0
    rw [s1] at e1
    rw [s2, ← hW1] at e2
    have c1 : Below (r + 1) (w.alloc (.cells #[.int .i64 m, .string p, .slice oa n cap, .string b] 26)) W1 := by rw [hW1, ← s1]; exact ((Below.refl _ _).alloc (Nat.le_refl _) _).alloc (by simp) _
    have c2 : Below (r + 1 + 1) ((w.alloc (.cells #[.int .i64 m, .string p, .slice oa n cap, .string b] 26)).alloc (.cells #[.int .i64 0, .string ⟨#[]⟩, .slice none 0 0, .string ⟨#[]⟩] 26)) W1 := by rw [hW1, ← s2]; exact (Below.refl _ _).alloc (Nat.le_refl _) _
    exact ⟨by rw [c1.block r (by omega)]; exact e0, by rw [c2.block (r + 1) (by omega)]; exact e1, e2, b1⟩
  have HU : Hid (FieldsV W1 base2 u k gs) := hu.below (by rw [← hr]; exact HST.out.low)
  have HSZ : Hid (WalkF n fs) := hsz
  have HPM : Hid (p.size ≤ maxLen) := hp
  have HBM : Hid (b.size ≤ maxLen) := hb
  have HTM : Hid ((getV gs tagName).size ≤ maxLen) := ht
  obtain ⟨s, hs⟩ : ∃ s, s = getV gs tagName := ⟨_, rfl⟩
  obtain ⟨th, hth⟩ : ∃ s, s = getB gs tagName := ⟨_, rfl⟩
  have HE2 : Hid (getV gs tagName = s) := hs.symm
  have HE4 : Hid (getB gs tagName = th) := hth.symm
  have HNO : Hid (th = false ∨ ¬ ReqP m p (putF fs inmName s) b → askF m p fs b gs = dropF fs inmName) := fun h => by
    unfold askF
    rw [HE2.out, HE4.out]
    refine if_neg (fun h2 => ?_)
    rcases h with h | h
    · rw [h] at h2; exact nomatch h2.1
    · exact h h2.2
  have HYES : Hid (th = true → ReqP m p (putF fs inmName s) b → askF m p fs b gs = putF fs inmName s) := fun h h3 => by
    unfold askF
    rw [HE2.out, HE4.out]
    exact if_pos ⟨h, h3⟩
  clear hW1 hv hu hs hth hsz hp hb ht
  go_enter Try.func13, Try.ntmps13
  go_upto_region 2 with fail
  rw [HW1.out, ← hr]
  clear hr HW1
  go_wp2_with fail
  refine (specGet_any u k base2 gs tagName _ HU.out hk).mono ?_
  rintro e w2 ⟨rfl, rfl⟩
  rw [HE2.out, HE4.out]
  cases th with
  | false =>
    have HFE : Hid (askF m p fs b gs = dropF fs inmName) := HNO.out (.inl rfl)
    have hvd := HV.out _ HST.out.low
    obtain ⟨⟨_, _, q2, _⟩, _⟩ := four_facts HST.out.q0
    clear HNO HYES HU
    go_wp2_with fail
    refine (specDrop_any _ n base fs inmName _ hvd (by omega)).mono ?_
    rintro e w5 ⟨zv, rfl, ownz, b5⟩
    obtain ⟨o5, c5, rfl⟩ := slice_of_owns ownz
    have HST5 : Hid (AskSt w r m p (.slice oa n cap) b (.slice oa n cap) w5) := HST.out.below b5
    obtain ⟨⟨_, _, f2, _⟩, _, _, y2, _⟩ := four_facts HST5.out.q2
    have HST6 : Hid (AskSt w r m p (.slice oa n cap) b (.slice o5 (dropF fs inmName).length c5) (w5.setCell ⟨r + 1 + 1, 2, none⟩ (.slice o5 (dropF fs inmName).length c5))) := HST5.out.set _
    have HOW6 : Hid ((w5.setCell ⟨r + 1 + 1, 2, none⟩ (.slice o5 (dropF fs inmName).length c5)).ownsRow (r + 1 + 1 + 1) 68 2 (.slice o5 (dropF fs inmName).length c5) (dropF fs inmName).length (flatF (dropF fs inmName))) := owns_same (owns_wide ownz HST.out.size) (fun j hj => by
      have h1 := owns_ge ownz hj
      have h2 := HST.out.size
      exact heap_setCell_other _ _ j _ (by show j ≠ r + 1 + 1; omega))
    obtain ⟨ld, hld⟩ : ∃ x, x = (dropF fs inmName).length := ⟨_, rfl⟩
    rw [← hld] at HST6 HOW6 ⊢
    have HOW7 : Hid ((w5.setCell ⟨r + 1 + 1, 2, none⟩ (.slice o5 ld c5)).ownsRow (r + 1 + 1 + 1) 68 2 (.slice o5 ld c5) (dropF fs inmName).length (flatF (dropF fs inmName))) := by
      show World.ownsRow _ _ _ _ _ _ _
      rw [← hld]
      exact HOW6.out
    clear hld HOW6 ownz b5 hvd q2 HST5
    obtain ⟨⟨e0, e1, e2, e3⟩, g0, g1, g2, g3⟩ := four_facts HST6.out.q1
    obtain ⟨⟨d0, d1, d2, d3⟩, _⟩ := four_facts HST6.out.q2
    have hset := four_set HST6.out.q1 (.int .i64 m) (.string p) (.slice o5 ld c5) (.string b)
    obtain ⟨⟨k0, k1, k2, k3⟩, _⟩ := four_facts hset
    have HFB : Hid (Below r w (fourSet (w5.setCell ⟨r + 1 + 1, 2, none⟩ (.slice o5 ld c5)) (r + 1) (.int .i64 m) (.string p) (.slice o5 ld c5) (.string b))) := below_four HST6.out.low (by omega)
    have HFO : Hid ((fourSet (w5.setCell ⟨r + 1 + 1, 2, none⟩ (.slice o5 ld c5)) (r + 1) (.int .i64 m) (.string p) (.slice o5 ld c5) (.string b)).ownsRow r 68 2 (.slice o5 ld c5) (askF m p fs b gs).length (flatF (askF m p fs b gs))) := by
      show World.ownsRow _ _ _ _ _ _ _
      rw [HFE.out]
      refine owns_same (owns_wide HOW7.out (by omega)) (fun j hj => ?_)
      have hj2 := owns_ge HOW7.out hj
      unfold fourSet
      rw [heap_setCell_other _ _ j _ (by show j ≠ r + 1; omega), heap_setCell_other _ _ j _ (by show j ≠ r + 1; omega), heap_setCell_other _ _ j _ (by show j ≠ r + 1; omega), heap_setCell_other _ _ j _ (by show j ≠ r + 1; omega)]
    unfold fourSet at k0 k1 k2 k3 HFB HFO
    clear hset HST6 HOW7
    go_wp2_with fail
    refine bodyPost_ret (v := .agg #[.int .i64 m, .string p, .slice o5 ld c5, .string b]) (by simp [results, Try.results13, go_sem, k0, k1, k2, k3]) rfl ?_
    exact ⟨_, rfl, by rw [HR.out]; exact HFO.out, by rw [HR.out]; exact HFB.out⟩
  | true =>
    have hvp := HV.out _ HST.out.low
    obtain ⟨⟨_, _, q2, _⟩, _⟩ := four_facts HST.out.q0
    clear HU
    go_wp2_with fail
    refine (specPut_any _ n base fs inmName s _ hvp (by omega)).mono ?_
    rintro e w3 ⟨zv, rfl, ownz, b3⟩
    obtain ⟨o3, c3, rfl⟩ := slice_of_owns ownz
    have HST3 : Hid (AskSt w r m p (.slice oa n cap) b (.slice oa n cap) w3) := HST.out.below b3
    obtain ⟨⟨_, _, f2, _⟩, _, _, y2, _⟩ := four_facts HST3.out.q2
    have HST4 : Hid (AskSt w r m p (.slice oa n cap) b (.slice o3 (putF fs inmName s).length c3) (w3.setCell ⟨r + 1 + 1, 2, none⟩ (.slice o3 (putF fs inmName s).length c3))) := HST3.out.set _
    have HOW4 : Hid ((w3.setCell ⟨r + 1 + 1, 2, none⟩ (.slice o3 (putF fs inmName s).length c3)).ownsRow (r + 1 + 1 + 1) 68 2 (.slice o3 (putF fs inmName s).length c3) (putF fs inmName s).length (flatF (putF fs inmName s))) := owns_same (owns_wide ownz HST.out.size) (fun j hj => by
      have h1 := owns_ge ownz hj
      have h2 := HST.out.size
      exact heap_setCell_other _ _ j _ (by show j ≠ r + 1 + 1; omega))
    obtain ⟨P, hP⟩ : ∃ x, x = putF fs inmName s := ⟨_, rfl⟩
    have HPL : Hid (P.length ≤ 2000000) := by show _ ≤ _; rw [hP]; have := putF_le fs inmName s; omega
    have HPW : Hid (WalkF P.length P) := by
      show WalkF _ _
      rw [hP]
      exact put_walk fs inmName s (by rw [hl]; exact HSZ.out) (by decide) (by have := HTM.out; rw [HE2.out] at this; exact this)
    rw [← hP] at HST4 HOW4 HYES HNO ⊢
    obtain ⟨ld, hld⟩ : ∃ x, x = P.length := ⟨_, rfl⟩
    have HOW5 : Hid ((w3.setCell ⟨r + 1 + 1, 2, none⟩ (.slice o3 ld c3)).ownsRow (r + 1 + 1 + 1) 68 2 (.slice o3 ld c3) P.length (flatF P)) := by
      show World.ownsRow _ _ _ _ _ _ _
      have := HOW4.out
      rw [← hld] at this ⊢
      exact this
    have HVP : Hid (FieldsV (w3.setCell ⟨r + 1 + 1, 2, none⟩ (.slice o3 ld c3)) (r + 1 + 1 + 1) (.slice o3 ld c3) ld P) := by
      have h := FieldsV.of_owns HOW5.out
      rw [← hld] at h
      exact h
    rw [← hld] at HST4 HPL HPW ⊢
    obtain ⟨⟨d0, d1, d2, d3⟩, _⟩ := four_facts HST4.out.q2
    clear hld HOW4 ownz b3 hvp q2 HST3 HST hP HE2 HE4
    go_wp2_with fail
    refine (specReqOk_any m p _ b ld _ P _ HVP.out (by have := HPL.out; omega) HPW.out HPM.out HBM.out).mono ?_
    rintro e w4 ⟨ok, rfl, hok, b4⟩
    have HST7 : Hid (AskSt w r m p (.slice oa n cap) b (.slice o3 ld c3) w4) := HST4.out.below b4
    have HOW7 : Hid (w4.ownsRow (r + 1 + 1 + 1) 68 2 (.slice o3 ld c3) P.length (flatF P)) := owns_same HOW5.out (fun j hj => b4.block j (owns_lt HOW5.out hj))
    clear d0 d1 d2 d3 f2 y2 HST4 HOW5 HVP b4
    cases ok with
    | true =>
      have HFE : Hid (askF m p fs b gs = P) := HYES.out (by simp) (hok.1 rfl)
      clear hok HYES HNO
      obtain ⟨⟨e0, e1, e2, e3⟩, g0, g1, g2, g3⟩ := four_facts HST7.out.q1
      obtain ⟨⟨d0, d1, d2, d3⟩, _⟩ := four_facts HST7.out.q2
      have hset := four_set HST7.out.q1 (.int .i64 m) (.string p) (.slice o3 ld c3) (.string b)
      obtain ⟨⟨k0, k1, k2, k3⟩, _⟩ := four_facts hset
      have HFB : Hid (Below r w (fourSet w4 (r + 1) (.int .i64 m) (.string p) (.slice o3 ld c3) (.string b))) := below_four HST7.out.low (by omega)
      have HFO : Hid ((fourSet w4 (r + 1) (.int .i64 m) (.string p) (.slice o3 ld c3) (.string b)).ownsRow r 68 2 (.slice o3 ld c3) (askF m p fs b gs).length (flatF (askF m p fs b gs))) := by
        show World.ownsRow _ _ _ _ _ _ _
        rw [HFE.out]
        refine owns_same (owns_wide HOW7.out (by omega)) (fun j hj => ?_)
        have hj2 := owns_ge HOW7.out hj
        unfold fourSet
        rw [heap_setCell_other _ _ j _ (by show j ≠ r + 1; omega), heap_setCell_other _ _ j _ (by show j ≠ r + 1; omega), heap_setCell_other _ _ j _ (by show j ≠ r + 1; omega), heap_setCell_other _ _ j _ (by show j ≠ r + 1; omega)]
      unfold fourSet at k0 k1 k2 k3 HFB HFO
      clear hset HST7 HOW7
      go_wp2_with fail
      refine bodyPost_ret (v := .agg #[.int .i64 m, .string p, .slice o3 ld c3, .string b]) (by simp [results, Try.results13, go_sem, k0, k1, k2, k3]) rfl ?_
      exact ⟨_, rfl, by rw [HR.out]; exact HFO.out, by rw [HR.out]; exact HFB.out⟩
    | false =>
      have HFE : Hid (askF m p fs b gs = dropF fs inmName) := HNO.out (.inr (fun h => nomatch hok.2 h))
      have hvd := HV.out _ HST7.out.low
      obtain ⟨⟨_, _, q2, _⟩, _⟩ := four_facts HST7.out.q0
      clear hok HYES HNO HOW7
      go_wp2_with fail
      refine (specDrop_any _ n base fs inmName _ hvd (by omega)).mono ?_
      rintro e w5 ⟨zv, rfl, ownz, b5⟩
      obtain ⟨o5, c5, rfl⟩ := slice_of_owns ownz
      have HST5 : Hid (AskSt w r m p (.slice oa n cap) b (.slice o3 ld c3) w5) := HST7.out.below b5
      obtain ⟨⟨_, _, f2, _⟩, _, _, y2, _⟩ := four_facts HST5.out.q2
      have HST6 : Hid (AskSt w r m p (.slice oa n cap) b (.slice o5 (dropF fs inmName).length c5) (w5.setCell ⟨r + 1 + 1, 2, none⟩ (.slice o5 (dropF fs inmName).length c5))) := HST5.out.set _
      have HOW6 : Hid ((w5.setCell ⟨r + 1 + 1, 2, none⟩ (.slice o5 (dropF fs inmName).length c5)).ownsRow (r + 1 + 1 + 1) 68 2 (.slice o5 (dropF fs inmName).length c5) (dropF fs inmName).length (flatF (dropF fs inmName))) := owns_same (owns_wide ownz HST7.out.size) (fun j hj => by
        have h1 := owns_ge ownz hj
        have h2 := HST7.out.size
        exact heap_setCell_other _ _ j _ (by show j ≠ r + 1 + 1; omega))
      obtain ⟨ld, hld⟩ : ∃ x, x = (dropF fs inmName).length := ⟨_, rfl⟩
      rw [← hld] at HST6 HOW6 ⊢
      have HOW7 : Hid ((w5.setCell ⟨r + 1 + 1, 2, none⟩ (.slice o5 ld c5)).ownsRow (r + 1 + 1 + 1) 68 2 (.slice o5 ld c5) (dropF fs inmName).length (flatF (dropF fs inmName))) := by
        show World.ownsRow _ _ _ _ _ _ _
        rw [← hld]
        exact HOW6.out
      clear hld HOW6 ownz b5 hvd q2 HST5
      obtain ⟨⟨e0, e1, e2, e3⟩, g0, g1, g2, g3⟩ := four_facts HST6.out.q1
      obtain ⟨⟨d0, d1, d2, d3⟩, _⟩ := four_facts HST6.out.q2
      have hset := four_set HST6.out.q1 (.int .i64 m) (.string p) (.slice o5 ld c5) (.string b)
      obtain ⟨⟨k0, k1, k2, k3⟩, _⟩ := four_facts hset
      have HFB : Hid (Below r w (fourSet (w5.setCell ⟨r + 1 + 1, 2, none⟩ (.slice o5 ld c5)) (r + 1) (.int .i64 m) (.string p) (.slice o5 ld c5) (.string b))) := below_four HST6.out.low (by omega)
      have HFO : Hid ((fourSet (w5.setCell ⟨r + 1 + 1, 2, none⟩ (.slice o5 ld c5)) (r + 1) (.int .i64 m) (.string p) (.slice o5 ld c5) (.string b)).ownsRow r 68 2 (.slice o5 ld c5) (askF m p fs b gs).length (flatF (askF m p fs b gs))) := by
        show World.ownsRow _ _ _ _ _ _ _
        rw [HFE.out]
        refine owns_same (owns_wide HOW7.out (by omega)) (fun j hj => ?_)
        have hj2 := owns_ge HOW7.out hj
        unfold fourSet
        rw [heap_setCell_other _ _ j _ (by show j ≠ r + 1; omega), heap_setCell_other _ _ j _ (by show j ≠ r + 1; omega), heap_setCell_other _ _ j _ (by show j ≠ r + 1; omega), heap_setCell_other _ _ j _ (by show j ≠ r + 1; omega)]
      unfold fourSet at k0 k1 k2 k3 HFB HFO
      clear hset HST6 HOW7
      go_wp2_with fail
      refine bodyPost_ret (v := .agg #[.int .i64 m, .string p, .slice o5 ld c5, .string b]) (by simp [results, Try.results13, go_sem, k0, k1, k2, k3]) rfl ?_
      exact ⟨_, rfl, by rw [HR.out]; exact HFO.out, by rw [HR.out]; exact HFB.out⟩

end Go.Proofs.Ythlmnmbhgkmbfaa

namespace Go.Proofs.Ythlmnmbhgkmbfaa
open Go.RowKit
open Go.Lib hiding intOf

set_option maxHeartbeats 2000000 in
set_option maxRecDepth 100000 in
theorem toReq_any (m : Int) (p : ByteArray) (a : Option Addr) (n cap : Nat) (b : ByteArray) (fs : List (ByteArray × ByteArray)) (B : Nat) (w : World) (harg : ArgF w B a n fs) (hB : B ≤ w.heap.size) (hn : n ≤ 1048576) :
    Calls Try.prog 25 #[.agg #[.int .i64 m, .string p, .slice a n cap, .string b]] w fun e w' => ∃ v, e = .returned (.agg #[.int .i64 m, .string p, v, .string b]) ∧ w'.ownsRow w.heap.size 68 2 v n (flatF fs) ∧ Below w.heap.size w w' := by
  obtain ⟨w0, hw0⟩ : ∃ W, W = (((w.alloc (.cells #[.int .i64 m, .string p, .slice a n cap, .string b] 41)).alloc (.cells #[.int .i64 0, .string ⟨#[]⟩, .slice none 0 0, .string ⟨#[]⟩] 26)).alloc (.cells #[.int .i64 m, .string p, .slice none 0 0, .string ⟨#[]⟩] 26)) := ⟨_, rfl⟩
  have hs0 : w0.heap.size = w.heap.size + 1 + 1 + 1 := by rw [hw0]; simp
  have hb0 : Below w.heap.size w w0 := by rw [hw0]; exact (((Below.refl _ w).alloc (Nat.le_refl _) _).alloc (by simp) _).alloc (by simp; omega) _
  have x1 : w0.heap[w.heap.size]? = some (.cells #[.int .i64 m, .string p, .slice a n cap, .string b] 41) := by
    rw [hw0, heap_alloc_old _ _ (by simp; omega), heap_alloc_old _ _ (by simp)]; exact heap_alloc_new w _
  have x2 : w0.heap[w.heap.size + 1]? = some (.cells #[.int .i64 0, .string ⟨#[]⟩, .slice none 0 0, .string ⟨#[]⟩] 26) := by
    rw [hw0, heap_alloc_old _ _ (by simp)]
    have := heap_alloc_new (w.alloc (.cells #[.int .i64 m, .string p, .slice a n cap, .string b] 41)) (.cells #[.int .i64 0, .string ⟨#[]⟩, .slice none 0 0, .string ⟨#[]⟩] 26)
    simpa using this
  have x3 : w0.heap[w.heap.size + 1 + 1]? = some (.cells #[.int .i64 m, .string p, .slice none 0 0, .string ⟨#[]⟩] 26) := by
    rw [hw0]
    have := heap_alloc_new ((w.alloc (.cells #[.int .i64 m, .string p, .slice a n cap, .string b] 41)).alloc (.cells #[.int .i64 0, .string ⟨#[]⟩, .slice none 0 0, .string ⟨#[]⟩] 26)) (.cells #[.int .i64 m, .string p, .slice none 0 0, .string ⟨#[]⟩] 26)
    simpa using this
  go_enter Try.func25, Try.ntmps25
  go_wp2_with fail
  rw [← hw0]
  refine (toFieldS_any B a n cap fs _ (harg.below (hb0.mono hB)) (by omega) hn).mono ?_
  rintro e w1 ⟨v, rfl, hown, bb1⟩
  obtain ⟨fo, fc, rfl⟩ := slice_of_owns hown
  rw [← bb1.block _ (by omega)] at x1 x2 x3
  obtain ⟨o, ho⟩ : ∃ o, o = w.heap.size + 1 + 1 := ⟨_, rfl⟩
  obtain ⟨q, hq⟩ : ∃ q, q = w.heap.size + 1 := ⟨_, rfl⟩
  obtain ⟨c, hc⟩ : ∃ c, c = w.heap.size := ⟨_, rfl⟩
  rw [← ho] at x3
  rw [← hq] at x2
  rw [← hc] at x1
  have hqo : q ≠ o := by omega
  have hco : c ≠ o := by omega
  have hoq : o ≠ q := by omega
  have hoc : o ≠ c := by omega
  have hqw : w.heap.size ≤ q := by omega
  have how : w.heap.size ≤ o := by omega
  obtain ⟨⟨a0, a1, a2, a3⟩, _⟩ := four_facts x1
  obtain ⟨⟨b0, b1, b2, b3⟩, e0, e1, e2, e3⟩ := four_facts x2
  obtain ⟨⟨d0, d1, d2, d3⟩, f0, f1, f2, f3⟩ := four_facts x3
  have hbw1 : Below w.heap.size w w1 := hb0.trans (bb1.mono hb0.size)
  have HFIN : Hid (∀ W : World, W = (w1.setCell ⟨o, 2, none⟩ (.slice fo n fc)).setCell ⟨o, 3, none⟩ (.string b) → ((fourSet W q (.int .i64 m) (.string p) (.slice fo n fc) (.string b)).heap[q]? = some (.cells #[.int .i64 m, .string p, .slice fo n fc, .string b] 26)) ∧ (fourSet W q (.int .i64 m) (.string p) (.slice fo n fc) (.string b)).ownsRow w.heap.size 68 2 (.slice fo n fc) n (flatF fs) ∧ Below w.heap.size w (fourSet W q (.int .i64 m) (.string p) (.slice fo n fc) (.string b))) := fun W hW => by
    have hx2 : W.heap[q]? = some (.cells #[.int .i64 0, .string ⟨#[]⟩, .slice none 0 0, .string ⟨#[]⟩] 26) := by rw [hW, heap_setCell_other _ _ q _ (fun e => hqo e), heap_setCell_other _ _ q _ (fun e => hqo e)]; exact x2
    have hbW : Below w.heap.size w W := by rw [hW]; exact (hbw1.setCell (p := ⟨o, 2, none⟩) how _).setCell (p := ⟨o, 3, none⟩) how _
    refine ⟨four_set hx2 _ _ _ _, ?_, below_four hbW hqw⟩
    have hown1 : w1.ownsRow w.heap.size 68 2 (.slice fo n fc) n (flatF fs) := by
      refine ⟨hown.1, ?_⟩
      rcases hown.2 with h6 | ⟨g6, cap6, cur6, h7, h8, h9⟩
      · exact .inl h6
      · exact .inr ⟨g6, cap6, cur6, h7, by omega, h9⟩
    refine ⟨hown1.1, ?_⟩
    rcases hown.2 with h6 | ⟨g6, cap6, cur6, h7, h8, h9, h10⟩
    · exact .inl h6
    · refine .inr ⟨g6, cap6, cur6, h7, by omega, ?_, h10⟩
      have n1 : g6 ≠ q := by omega
      have n2 : g6 ≠ o := by omega
      unfold fourSet
      rw [heap_setCell_other _ _ g6 _ (fun e => n1 e), heap_setCell_other _ _ g6 _ (fun e => n1 e), heap_setCell_other _ _ g6 _ (fun e => n1 e), heap_setCell_other _ _ g6 _ (fun e => n1 e), hW, heap_setCell_other _ _ g6 _ (fun e => n2 e), heap_setCell_other _ _ g6 _ (fun e => n2 e)]
      exact h9
  obtain ⟨hh, hof, hbf⟩ := HFIN.out _ rfl
  obtain ⟨⟨k0, k1, k2, k3⟩, _⟩ := four_facts hh
  have HOF : Hid _ := hof
  have HBF : Hid _ := hbf
  unfold fourSet at k0 k1 k2 k3
  rw [← ho, ← hq, ← hc]
  clear x1 x2 x3 ho hq hc hw0 hs0 hb0 bb1 hown hbw1 hh hof hbf harg hB HFIN a0 a1 a2
  go_wp2_with fail
  exact bodyPost_ret (v := .agg #[.int .i64 m, .string p, .slice fo n fc, .string b]) (by simp [results, Try.results25, go_sem, k0, k1, k2, k3]) rfl ⟨_, rfl, HOF.out, HBF.out⟩

set_option maxHeartbeats 2000000 in
set_option maxRecDepth 100000 in
theorem eqReq_any (m : Int) (p : ByteArray) (v1 v2 : Value) (b : ByteArray) (n b1 b2 : Nat) (fs : List (ByteArray × ByteArray)) (w : World) (h1 : FieldsV w b1 v1 n fs) (h2 : FieldsV w b2 v2 n fs) (hn : n ≤ 2000000) :
    Calls Try.prog 28 #[.agg #[.int .i64 m, .string p, v1, .string b], .agg #[.int .i64 m, .string p, v2, .string b]] w fun e w' => e = .returned (.bool true) ∧ Below w.heap.size w w' := by
  obtain ⟨oa, ca, rfl, _⟩ := h1.slice
  obtain ⟨ob, cb, rfl, _⟩ := h2.slice
  have tp : (p.toList == p.toList) = true := by simp
  have tb : (b.toList == b.toList) = true := by simp
  have tm : (m != m) = false := by simp
  obtain ⟨w0, hw0⟩ : ∃ W, W = ((w.alloc (.cells #[.int .i64 m, .string p, .slice oa n ca, .string b] 26)).alloc (.cells #[.int .i64 m, .string p, .slice ob n cb, .string b] 26)) := ⟨_, rfl⟩
  have hs0 : w0.heap.size = w.heap.size + 1 + 1 := by rw [hw0]; simp
  have hb0 : Below w.heap.size w w0 := by rw [hw0]; exact ((Below.refl _ w).alloc (Nat.le_refl _) _).alloc (by simp) _
  have x1 : w0.heap[w.heap.size]? = some (.cells #[.int .i64 m, .string p, .slice oa n ca, .string b] 26) := by
    rw [hw0, heap_alloc_old _ _ (by simp)]; exact heap_alloc_new w _
  have x2 : w0.heap[w.heap.size + 1]? = some (.cells #[.int .i64 m, .string p, .slice ob n cb, .string b] 26) := by
    rw [hw0]
    have := heap_alloc_new (w.alloc (.cells #[.int .i64 m, .string p, .slice oa n ca, .string b] 26)) (.cells #[.int .i64 m, .string p, .slice ob n cb, .string b] 26)
    simpa using this
  go_enter Try.func28, Try.ntmps28
  go_wp2_with fail
  rw [← hw0]
  refine (eqFieldS_any _ _ n b1 b2 fs _ (h1.below hb0) (h2.below hb0) hn).mono ?_
  rintro e w1 ⟨rfl, bb1⟩
  rw [← bb1.block _ (by omega)] at x1 x2
  obtain ⟨q, hq⟩ : ∃ q, q = w.heap.size + 1 := ⟨_, rfl⟩
  obtain ⟨c, hc⟩ : ∃ c, c = w.heap.size := ⟨_, rfl⟩
  rw [← hq] at x2
  rw [← hc] at x1
  have y1 : w1.cell? ⟨c, 3, none⟩ = some (.string b) := by simp [World.cell?, x1]
  have y2 : w1.cell? ⟨q, 3, none⟩ = some (.string b) := by simp [World.cell?, x2]
  have hbw1 : Below w.heap.size w w1 := hb0.trans (bb1.mono hb0.size)
  rw [← hq, ← hc]
  clear x1 x2 hq hc hw0 hs0 hb0 bb1 h1 h2
  go_wp2
  go_ret
  exact ⟨rfl, hbw1⟩

end Go.Proofs.Ythlmnmbhgkmbfaa

namespace Go.Proofs.Ythlmnmbhgkmbfaa
open Go.RowKit
open Go.Lib hiding intOf

/-- 'wpAnyH_take', its place named. -/
theorem wpAnyH_takeD {P : Program} {ops : Array Oper} {Q : Exit → Act → World → Prop} {md : Region.Mode} {S : World → Prop} {i : Nat} {oi : Oper} {v : Value} {fuel : Nat} {listed : Array Bool} {a : Act} {w : World} (d : Option Tmp) (hi : ops[i]? = some oi) (hd : oi.dst = d)
    (hs : Region.noSelect ops = true) (hf : Region.free md ops listed i = true) (hr : (Region.ready md ops listed).contains i = true)
    (hQ : ∀ c a w, Q (.panic c) (a.put oi.dst v) w → Q (.panic c) a w) (hy : YieldsIf P ops S oi v a) (hS : S w)
    (h : wpAnyH P md ops Q S fuel (listed.setIfInBounds i true) (a.put d v) w) : wpAnyH P md ops Q S (fuel + 1) listed a w :=
  wpAnyH_take hi hs hf hr hQ hy hS (hd ▸ h)
end Go.Proofs.Ythlmnmbhgkmbfaa

namespace Go.Proofs.Ythlmnmbhgkmbfaa
open Go.RowKit
open Go.Lib hiding intOf

/-- While answers are merged: both arguments, the answer's memory, the answer that is made and its fields. -/
structure MgSt (w : World) (r o : Nat) (st : Int) (va : Value) (b : ByteArray) (st2 : Int) (vb : Value) (c : ByteArray) (z : Value) (P : List (ByteArray × ByteArray)) (W : World) : Prop where
  q0 : W.heap[r]? = some (.cells #[.int .i64 st, va, .string b] 32)
  q1 : W.heap[r + 1]? = some (.cells #[.int .i64 st2, vb, .string c] 32)
  q2 : W.heap[r + 1 + 1]? = some (.cells #[.int .i64 0, .slice none 0 0, .string ⟨#[]⟩] 32)
  q3 : W.heap[o]? = some (.cells #[.int .i64 st, z, .string b] 32)
  own : W.ownsRow (r + 1 + 1 + 1) 68 2 z P.length (flatF P)
  ne : ∀ j, z.ownBlock = some j → j ≠ o
  ge : r + 1 + 1 + 1 ≤ o
  low : Below r w W
theorem MgSt.lt {w : World} {r o : Nat} {st : Int} {va : Value} {b : ByteArray} {st2 : Int} {vb : Value} {c : ByteArray} {z : Value} {P : List (ByteArray × ByteArray)} {W : World} (h : MgSt w r o st va b st2 vb c z P W) : o < W.heap.size := (Array.getElem?_eq_some_iff.1 h.q3).1
theorem MgSt.below {w : World} {r o : Nat} {st : Int} {va : Value} {b : ByteArray} {st2 : Int} {vb : Value} {c : ByteArray} {z : Value} {P : List (ByteArray × ByteArray)} {W : World} {W' : World} (h : MgSt w r o st va b st2 vb c z P W) (hb : Below W.heap.size W W') : MgSt w r o st va b st2 vb c z P W' := by
  have hs := h.lt
  have hg := h.ge
  exact ⟨by rw [hb.block _ (by omega)]; exact h.q0, by rw [hb.block _ (by omega)]; exact h.q1, by rw [hb.block _ (by omega)]; exact h.q2, by rw [hb.block _ hs]; exact h.q3, owns_same h.own (fun j hj => hb.block j (owns_lt h.own hj)), h.ne, hg, h.low.trans (hb.mono (by omega))⟩
theorem MgSt.set {w : World} {r o : Nat} {st : Int} {va : Value} {b : ByteArray} {st2 : Int} {vb : Value} {c : ByteArray} {z : Value} {P : List (ByteArray × ByteArray)} {W : World} {W' : World} (h : MgSt w r o st va b st2 vb c z P W) (hb : Below W.heap.size W W') {y : Value} {Q : List (ByteArray × ByteArray)} (hy : W'.ownsRow W.heap.size 68 2 y Q.length (flatF Q)) : MgSt w r o st va b st2 vb c y Q (W'.setCell ⟨o, 1, none⟩ y) := by
  have h' := h.below hb
  have hs := h.lt
  have hg := h.ge
  have hne : ∀ j, y.ownBlock = some j → j ≠ o := fun j hj => by have := owns_ge hy hj; omega
  refine ⟨by rw [heap_setCell_other _ _ r _ (by show r ≠ o; omega)]; exact h'.q0, by rw [heap_setCell_other _ _ (r + 1) _ (by show r + 1 ≠ o; omega)]; exact h'.q1, by rw [heap_setCell_other _ _ (r + 1 + 1) _ (by show r + 1 + 1 ≠ o; omega)]; exact h'.q2, ?_, owns_same (owns_wide hy (by omega)) (fun j hj => heap_setCell_other _ _ j _ (hne j hj)), hne, hg, h'.low.setCell (by show r ≤ o; omega) _⟩
  have := heap_set W' o 1 _ _ _ y h'.q3
  simpa using this

end Go.Proofs.Ythlmnmbhgkmbfaa

namespace Go.Proofs.Ythlmnmbhgkmbfaa
open Go.RowKit
open Go.Lib hiding intOf

set_option maxHeartbeats 1000000 in
theorem fieldOk_any (v : Value) (n base : Nat) (fs : List (ByteArray × ByteArray)) (k : Nat) (w : World) (hv : FieldsV w base v n fs) (hn : n ≤ 1073741824) (hk : k < n) (hs1 : (nameAt fs k).size ≤ maxLen) (hs2 : (valAt fs k).size ≤ maxLen) :
    Calls Try.prog 121 #[v, .int .i64 (k : Int)] w fun e w' => BoolIs (FldOk fs k) w e w' := by
  have HV : Hid (∀ W, Below w.heap.size w W → FieldsV W base v n fs) := fun W h => hv.below h
  obtain ⟨oa, cap, rfl, hrow⟩ := hv.slice
  obtain ⟨g, rfl, row⟩ := hrow k hk
  have hlt2 : (k : Int) < (n : Int) := by omega
  have hc1 := row.name k hk
  have hc2 := row.val k hk
  obtain ⟨nm, hnm⟩ : ∃ x, x = nameAt fs k := ⟨_, rfl⟩
  obtain ⟨vl, hvl⟩ : ∃ x, x = valAt fs k := ⟨_, rfl⟩
  have HO : Hid (FldOk fs k ↔ TokOk nm ∧ ValOk vl ∧ atF fs nm = k ∧ nm ≠ clen) := by rw [hnm, hvl]; exact Iff.rfl
  rw [← hnm] at hc1 hs1
  rw [← hvl] at hc2 hs2
  clear hv hrow row hnm hvl
  obtain ⟨r, hr⟩ : ∃ r, r = w.heap.size := ⟨_, rfl⟩
  have h0 : (w.alloc (.cells #[.string nm, .string vl] 68)).heap.size = w.heap.size + 1 := by simp
  have HB0 : Hid (Below w.heap.size w (w.alloc (.cells #[.string nm, .string vl] 68)) ∧ w.heap.size ≤ (w.alloc (.cells #[.string nm, .string vl] 68)).heap.size) := ⟨(Below.refl _ w).alloc (Nat.le_refl _) _, by omega⟩
  have HR : Hid (∀ W, Below (w.alloc (.cells #[.string nm, .string vl] 68)).heap.size (w.alloc (.cells #[.string nm, .string vl] 68)) W → W.cell? ⟨r, 0, none⟩ = some (.string nm) ∧ W.cell? ⟨r, 1, none⟩ = some (.string vl)) := fun W h => by
    have hh : W.heap[r]? = some (.cells #[.string nm, .string vl] 68) := by rw [hr, h.block _ (by omega)]; exact heap_alloc_new w _
    exact ⟨by simp [World.cell?, hh], by simp [World.cell?, hh]⟩
  go_enter Try.func121, Try.ntmps121
  go_wp2_with fail
  refine (implTokenOk_any nm _ hs1).mono ?_
  rintro e w1 ⟨b1, rfl, kb1, bb1⟩
  rw [← hr]
  have hb1 : Below w.heap.size w w1 := HB0.out.1.trans (bb1.mono HB0.out.2)
  obtain ⟨d1, d2⟩ := HR.out w1 bb1
  clear h0
  cases b1
  · have HF : Hid (¬ FldOk fs k) := fun h => by have := kb1.2 (HO.out.1 h).1; cases this
    clear kb1 hc1 hc2 bb1 hr
    go_wp2_with fail
    go_ret
    exact BoolIs.no HF.out hb1
  · have HT : Hid (TokOk nm) := kb1.1 rfl
    clear kb1 hc1 hc2 hr
    go_wp2_with fail
    refine (implValueOk_any vl _ hs2).mono ?_
    rintro e w2 ⟨b2, rfl, kb2, bb2⟩
    have bb2' := bb1.trans (bb2.mono bb1.size)
    have hb2 : Below w.heap.size w w2 := HB0.out.1.trans (bb2'.mono HB0.out.2)
    obtain ⟨d3, d4⟩ := HR.out w2 bb2'
    cases b2
    · have HF : Hid (¬ FldOk fs k) := fun h => by have := kb2.2 (HO.out.1 h).2.1; cases this
      clear kb2 bb1 bb2 bb2' hb1 d1 d2
      go_wp2_with fail
      go_ret
      exact BoolIs.no HF.out hb2
    · have HT2 : Hid (ValOk vl) := kb2.1 rfl
      clear kb2 bb1 bb2 bb2' hb1 d1 d2
      by_cases hcl : nm = clen
      · have ht := (text_beq _ _).2 hcl
        rw [clen_list] at ht
        have HF : Hid (¬ FldOk fs k) := fun h => (HO.out.1 h).2.2.2 hcl
        clear hcl
        go_wp2_with fail
        go_ret
        exact BoolIs.no HF.out hb2
      · have ht := text_beq_no hcl
        rw [clen_list] at ht
        have HC : Hid (nm ≠ clen) := hcl
        clear hcl
        go_wp2_with fail
        refine (place_any _ n base fs nm _ (HV.out w2 hb2) hn).mono ?_
        rintro e w3 ⟨rfl, rfl⟩
        by_cases hat : atF fs nm = k
        · have HY : Hid (FldOk fs k) := HO.out.2 ⟨HT.out, HT2.out, hat, HC.out⟩
          rw [hat]
          clear hat
          go_wp2
          go_ret
          exact BoolIs.yes HY.out hb2
        · have HF : Hid (¬ FldOk fs k) := fun h => hat (HO.out.1 h).2.2.1
          have hne : ((atF fs nm : Int) == (k : Int)) = false := by rw [beq_eq_false_iff_ne]; omega
          clear hat
          go_wp2
          go_ret
          exact BoolIs.no HF.out hb2

set_option maxHeartbeats 1000000 in
theorem ok_any (v : Value) (n base : Nat) (fs : List (ByteArray × ByteArray)) (w : World) (hv : FieldsV w base v n fs) (hn : n ≤ 1073741824) (hsz : ∀ i, i < n → (nameAt fs i).size ≤ maxLen ∧ (valAt fs i).size ≤ maxLen) :
    Calls Try.prog 111 #[v] w fun e w' => BoolIs (FldsOk fs) w e w' := by
  have hl := hv.len
  have HV : Hid (∀ W, Below w.heap.size w W → FieldsV W base v n fs) := fun W h => hv.below h
  have HS : Hid (∀ i, i < n → (nameAt fs i).size ≤ maxLen ∧ (valAt fs i).size ≤ maxLen) := hsz
  obtain ⟨oa, cap, rfl, hrow⟩ := hv.slice
  clear hv hrow hsz
  by_cases h8 : (8 : Int) < (n : Int)
  · have HF : Hid (¬ FldsOk fs) := fun h => by have := h.1; omega
    go_enter Try.func111, Try.ntmps111
    go_wp2
    go_ret
    exact BoolIs.no HF.out (Below.refl _ _)
  · go_enter Try.func111, Try.ntmps111
    go_wp2
    go_loopw [9] (fun i wr => ∃ k : Nat, k ≤ n ∧ i = .int .i64 (k : Int) ∧ Hid (∀ j, j < k → FldOk fs j) ∧ Below w.heap.size w wr) (fun i _ => n - (intOf i).toNat)
    case atStart => exact ⟨0, Nat.zero_le _, rfl, fun j h => absurd h (by omega), Below.refl _ _⟩
    case round =>
      obtain ⟨k, hk, rfl, hall, hbw⟩ := hrel
      by_cases hlt : k < n
      · have hlt2 : (k : Int) < (n : Int) := by omega
        obtain ⟨hs1, hs2⟩ := HS.out k hlt
        go_wp2_with fail
        refine (fieldOk_any _ n base fs k _ (HV.out wr hbw) hn hlt hs1 hs2).mono ?_
        rintro e w1 ⟨b1, rfl, kb1, bb1⟩
        have hb1 : Below w.heap.size w w1 := hbw.trans (bb1.mono hbw.size)
        cases b1
        · have HF : Hid (¬ FldsOk fs) := fun h => by have := kb1.2 (h.2 k (by omega)); cases this
          clear kb1 bb1
          go_wp2
          go_ret
          exact BoolIs.no HF.out hb1
        · have HY : Hid (FldOk fs k) := kb1.1 rfl
          clear kb1 bb1
          go_wp2
          go_roundw
          case rel =>
            refine ⟨k + 1, by omega, by go_num, ?_, hb1⟩
            intro j hj
            by_cases e : j = k
            · subst e; exact HY.out
            · exact hall.out j (by omega)
          case measure => simp [intOf]; omega
      · have HF : Hid (FldsOk fs) := ⟨by omega, fun i hi => hall.out i (by omega)⟩
        go_wp2
        go_ret
        exact BoolIs.yes HF.out hbw

end Go.Proofs.Ythlmnmbhgkmbfaa

namespace Go.Proofs.Ythlmnmbhgkmbfaa
open Go.RowKit
open Go.Lib hiding intOf

theorem path_cls (n : Int) : PathB n ↔ (cls n ≠ 4 ∧ cls n ≠ 7) := by
  have := cls_spec n
  unfold PathB
  constructor
  · intro h; omega
  · intro h; omega
theorem path_small {n : Int} (h : PathB n) : n < 128 := by unfold PathB at h; omega

set_option maxHeartbeats 400000 in
theorem isPathRune_any (r : Int) (w : World) :
    Calls Try.prog 110 #[.int .i32 r] w fun e w' => BoolIs (PathB r) w e w' := by
  have HP : Hid (PathB r ↔ (cls r ≠ 4 ∧ cls r ≠ 7)) := path_cls r
  go_enter Try.func110, Try.ntmps110
  go_wp2_with fail
  refine (classOf_any r _).mono ?_
  rintro e w1 ⟨rfl, hb⟩
  generalize cls r = c at HP ⊢
  by_cases h4 : c = 4
  · have HN : Hid (¬ PathB r) := fun h => (HP.out.1 h).1 h4
    subst h4
    go_wp2_with fail
    go_ret
    exact BoolIs.no HN.out hb
  · have h5 : (c != 4) = true := by rw [bne_iff_ne]; exact h4
    by_cases h7 : c = 7
    · have HN : Hid (¬ PathB r) := fun h => (HP.out.1 h).2 h7
      subst h7
      go_wp2_with fail
      go_ret
      exact BoolIs.no HN.out hb
    · have h8 : (c != 7) = true := by rw [bne_iff_ne]; exact h7
      have HY : Hid (PathB r) := HP.out.2 ⟨h4, h7⟩
      go_wp2_with fail
      go_ret
      exact BoolIs.yes HY.out hb

set_option maxHeartbeats 1000000 in
theorem allRunes_path (s : ByteArray) (w : World) :
    Calls Try.prog 109 #[.string s, .func (.func 110) #[] #[]] w fun e w' => BoolIs (AllB PathB s) w e w' := by
  go_enter Try.func109, Try.ntmps109
  go_wp2
  go_loopw [6] (fun _ wr => ∃ pos : Nat, wr.heap[w.heap.size]? = some (.stringIter s pos) ∧ Below w.heap.size w wr ∧ Hid (AllTo PathB s pos)) (fun _ wr => s.size - wr.iterPos w.heap.size)
  case atStart => exact ⟨0, World.iter_heap _ _ _, (Below.refl _ _).alloc (Nat.le_refl _) _, allTo_zero _ _⟩
  case round =>
    obtain ⟨pos, hh, hbw, hall⟩ := hrel
    by_cases hp : pos < s.size
    · have hnx := fun ty => run_next_any_at (P := Try.prog) wr w.heap.size s pos ty hh hp
      go_wp2_with (go_at_call 110; refine (isPathRune_any _ _).mono ?_; rintro e w1 ⟨b, rfl, hbt, hb1⟩)
      · have hbf : b = false := by simpa using ‹(!b) = true›
        have hno : ¬ PathB ((Utf8.decode s pos).1 : Int) := fun h => by rw [hbt.2 h] at hbf; cases hbf
        go_ret
        exact BoolIs.no (rune_no (fun _ => path_small) s pos hp hno) (iter_step hh hbw hb1).2
      · have hbf : b = true := by simpa using ‹(!b) = false›
        obtain ⟨hv, hone⟩ := rune_ok (fun _ => path_small) s pos hp (hbt.1 hbf)
        rw [hone] at hb1
        obtain ⟨h1, h2⟩ := iter_step hh hbw hb1
        exact ⟨⟨pos + 1, h1, h2, allTo_succ hall.out hp hv⟩, by rw [iterPos_of h1, iterPos_of hh]; omega⟩
    · have hnx := fun ty => run_next_end_at (P := Try.prog) wr w.heap.size s pos ty hh hp
      go_wp2
      go_ret
      exact BoolIs.yes (allTo_end hall.out hp) hbw

set_option maxHeartbeats 1000000 in
theorem pathOk_any (s : ByteArray) (w : World) (hs : s.size ≤ maxLen) :
    Calls Try.prog 88 #[.string s] w fun e w' => BoolIs (PathOk s) w e w' := by
  unfold maxLen at hs
  by_cases h1 : (1 : Int) ≤ (s.size : Int)
  · have h0 : 0 < s.size := by omega
    by_cases h2 : (s.size : Int) ≤ 60
    · by_cases h3 : ((s[0]'h0).toNat : Int) = 47
      · have h4 : (((s[0]'h0).toNat : Int) == 47) = true := by rw [beq_iff_eq]; exact h3
        have H3 : Hid ((s[0]'h0).toNat = 47) := by show _ = _; omega
        clear h3
        go_enter Try.func88, Try.ntmps88
        go_wp2_with fail
        refine (allRunes_path s _).mono ?_
        rintro e w1 ⟨b, rfl, hbt, hb1⟩
        cases b
        · have HN : Hid (¬ PathOk s) := fun h => by have := hbt.2 h.1; cases this
          clear hbt
          go_wp2_with fail
          go_ret
          exact BoolIs.no HN.out hb1
        · have HY : Hid (PathOk s) := ⟨hbt.1 rfl, by omega, by omega, h0, H3.out⟩
          clear hbt
          go_wp2_with fail
          go_ret
          exact BoolIs.yes HY.out hb1
      · have h4 : (((s[0]'h0).toNat : Int) == 47) = false := by rw [beq_eq_false_iff_ne]; exact h3
        have HN : Hid (¬ PathOk s) := fun h => by obtain ⟨_, _, _, _, h5⟩ := h; omega
        clear h3
        go_enter Try.func88, Try.ntmps88
        go_wp2_with fail
        go_ret
        exact BoolIs.no HN.out (Below.refl _ _)
    · have HN : Hid (¬ PathOk s) := fun h => by obtain ⟨_, _, h5, _⟩ := h; omega
      have hd : decide ((s.size : Int) ≤ 60) = false := by simpa using h2
      go_enter Try.func88, Try.ntmps88
      go_wp2_with fail
      go_ret
      exact BoolIs.no HN.out (Below.refl _ _)
  · have HN : Hid (¬ PathOk s) := fun h => by obtain ⟨_, h5, _⟩ := h; omega
    have hd : decide ((1 : Int) ≤ (s.size : Int)) = false := by simpa using h1
    go_enter Try.func88, Try.ntmps88
    go_wp2_with fail
    go_ret
    exact BoolIs.no HN.out (Below.refl _ _)

theorem methB_none {m : Int} (h : ¬ (1 ≤ m ∧ m ≤ 4)) : methB m = ⟨#[]⟩ := by
  unfold methB
  rw [if_neg (by omega), if_neg (by omega), if_neg (by omega), if_neg (by omega)]
set_option maxHeartbeats 400000 in
theorem methodName_any (m : Int) (w : World) :
    Calls Try.prog 87 #[.int .i64 m] w fun e w' => e = .returned (.string (methB m)) ∧ w' = w := by
  by_cases h1 : m = 1
  · subst h1
    go_enter Try.func87, Try.ntmps87
    go_wp2
    go_ret
    exact ⟨rfl, rfl⟩
  · by_cases h2 : m = 2
    · subst h2
      go_enter Try.func87, Try.ntmps87
      go_wp2
      go_ret
      exact ⟨rfl, rfl⟩
    · by_cases h3 : m = 3
      · subst h3
        go_enter Try.func87, Try.ntmps87
        go_wp2
        go_ret
        exact ⟨rfl, rfl⟩
      · by_cases h4 : m = 4
        · subst h4
          go_enter Try.func87, Try.ntmps87
          go_wp2
          go_ret
          exact ⟨rfl, rfl⟩
        · have HE : Hid (methB m = ⟨#[]⟩) := methB_none (by omega)
          have e1 : (m == 1) = false := by rw [beq_eq_false_iff_ne]; exact h1
          have e2 : (m == 2) = false := by rw [beq_eq_false_iff_ne]; exact h2
          have e3 : (m == 3) = false := by rw [beq_eq_false_iff_ne]; exact h3
          have e4 : (m == 4) = false := by rw [beq_eq_false_iff_ne]; exact h4
          go_enter Try.func87, Try.ntmps87
          go_wp2
          go_ret
          exact ⟨by rw [HE.out]; rfl, rfl⟩

/-- What is right of what stands behind the first line. -/
def RestP (fs : List (ByteArray × ByteArray)) (b : ByteArray) : Prop := FldsOk fs ∧ b.size ≤ 120
set_option maxHeartbeats 1000000 in
theorem restOk_any (v : Value) (b : ByteArray) (n base : Nat) (fs : List (ByteArray × ByteArray)) (w : World) (hv : FieldsV w base v n fs) (hn : n ≤ 1073741824) (hsz : WalkF n fs) (hb : b.size ≤ maxLen) :
    Calls Try.prog 89 #[.agg #[v, .string b]] w fun e w' => BoolIs (RestP fs b) w e w' := by
  obtain ⟨oa, cap, rfl, _⟩ := hv.slice
  obtain ⟨r, hr⟩ : ∃ r, r = w.heap.size := ⟨_, rfl⟩
  have HR : Hid (∀ W, Below (w.alloc (.cells #[.slice oa n cap, .string b] 78)).heap.size (w.alloc (.cells #[.slice oa n cap, .string b] 78)) W → (W.cell? ⟨r, 0, none⟩ = some (.slice oa n cap) ∧ W.cell? ⟨r, 1, none⟩ = some (.string b)) ∧ FieldsV W base (.slice oa n cap) n fs ∧ Below w.heap.size w W) := fun W h => by
    have hh := kept_new h
    rw [← hr] at hh
    exact ⟨⟨by simp [World.cell?, hh], by simp [World.cell?, hh]⟩, hv.below (below_new h), below_new h⟩
  obtain ⟨_, hv0, _⟩ := HR.out _ (Below.refl _ _)
  unfold maxLen at hb
  go_enter Try.func89, Try.ntmps89
  go_wp2_with fail
  refine (ok_any _ n base fs _ hv0 hn hsz).mono ?_
  rintro e w1 ⟨b1, rfl, kb1, bb1⟩
  rw [← hr]
  obtain ⟨⟨c0, c1⟩, _, hbw1⟩ := HR.out w1 bb1
  clear hv hv0 hsz bb1 hr
  cases b1
  · have HF : Hid (¬ RestP fs b) := fun h => by have := kb1.2 h.1; cases this
    clear kb1
    go_wp2_with fail
    go_ret
    exact BoolIs.no HF.out hbw1
  · have HT : Hid (FldsOk fs) := kb1.1 rfl
    clear kb1
    by_cases h120 : (b.size : Int) ≤ 120
    · have HY : Hid (RestP fs b) := ⟨HT.out, by omega⟩
      go_wp2_with fail
      go_ret
      exact BoolIs.yes HY.out hbw1
    · have HF : Hid (¬ RestP fs b) := fun h => by have := h.2; omega
      have hd : decide ((b.size : Int) ≤ 120) = false := by simpa using h120
      go_wp2_with fail
      go_ret
      exact BoolIs.no HF.out hbw1

theorem meth_empty {m : Int} (h : 1 ≤ m ∧ m ≤ 4) : (methB m).toList.isEmpty = false := by
  refine isEmpty_no ?_
  rcases meth_cases h with rfl | rfl | rfl | rfl <;> decide
set_option maxHeartbeats 1000000 in
theorem reqOk_any (m : Int) (p : ByteArray) (v : Value) (b : ByteArray) (n base : Nat) (fs : List (ByteArray × ByteArray)) (w : World) (hv : FieldsV w base v n fs) (hn : n ≤ 1073741824) (hsz : WalkF n fs) (hp : p.size ≤ maxLen) (hb : b.size ≤ maxLen) :
    Calls Try.prog 55 #[.agg #[v, .string b, .int .i64 m, .string p]] w fun e w' => BoolIs (ReqP m p fs b) w e w' := by
  obtain ⟨oa, cap, rfl, _⟩ := hv.slice
  obtain ⟨r, hr⟩ : ∃ r, r = w.heap.size := ⟨_, rfl⟩
  have HR : Hid (∀ W, Below (w.alloc (.cells #[.slice oa n cap, .string b, .int .i64 m, .string p] 80)).heap.size (w.alloc (.cells #[.slice oa n cap, .string b, .int .i64 m, .string p] 80)) W → (W.cell? ⟨r, 0, none⟩ = some (.slice oa n cap) ∧ W.cell? ⟨r, 1, none⟩ = some (.string b) ∧ W.cell? ⟨r, 2, none⟩ = some (.int .i64 m) ∧ W.cell? ⟨r, 3, none⟩ = some (.string p)) ∧ FieldsV W base (.slice oa n cap) n fs ∧ Below w.heap.size w W) := fun W h => by
    have hh := kept_new h
    rw [← hr] at hh
    exact ⟨⟨by simp [World.cell?, hh], by simp [World.cell?, hh], by simp [World.cell?, hh], by simp [World.cell?, hh]⟩, hv.below (below_new h), below_new h⟩
  have HSZ : Hid (WalkF n fs) := hsz
  have HP : Hid (p.size ≤ maxLen) := hp
  have HBS : Hid (b.size ≤ maxLen) := hb
  clear hv hsz hp hb
  go_enter Try.func55, Try.ntmps55
  go_wp2_with fail
  refine (methodName_any m _).mono ?_
  rintro e w1 ⟨rfl, hw1⟩
  have hb1 : Below (w.alloc (.cells #[.slice oa n cap, .string b, .int .i64 m, .string p] 80)).heap.size (w.alloc (.cells #[.slice oa n cap, .string b, .int .i64 m, .string p] 80)) w1 := by rw [hw1]; exact Below.refl _ _
  clear hw1
  rw [← hr]
  obtain ⟨⟨c0, c1, c2, c3⟩, _, hbw1⟩ := HR.out w1 hb1
  by_cases hm : 1 ≤ m ∧ m ≤ 4
  · have e1 := meth_empty hm
    have HM : Hid (1 ≤ m ∧ m ≤ 4) := hm
    generalize methB m = mt at e1 ⊢
    clear hr hm
    go_wp2_with fail
    refine (pathOk_any p _ HP.out).mono ?_
    rintro e w2 ⟨b1, rfl, kb1, bb2⟩
    have hb2 := hb1.trans (bb2.mono hb1.size)
    clear c0 c1 c2 c3 bb2 hb1 hbw1
    obtain ⟨⟨c0, c1, c2, c3⟩, hv2, hbw2⟩ := HR.out w2 hb2
    have HV2 : Hid (FieldsV w2 base (.slice oa n cap) n fs) := hv2
    clear hv2
    cases b1
    · have HF : Hid (¬ ReqP m p fs b) := fun h => by have := kb1.2 h.2.1; cases this
      clear kb1
      go_wp2_with fail
      go_ret
      exact BoolIs.no HF.out hbw2
    · have HT : Hid (PathOk p) := kb1.1 rfl
      clear kb1
      go_wp2_with fail
      refine (restOk_any _ b n base fs _ HV2.out hn HSZ.out HBS.out).mono ?_
      rintro e w3 ⟨b2, rfl, kb2, bb3⟩
      have hb3 := hb2.trans (bb3.mono hb2.size)
      clear c0 c1 c2 c3 bb3 hb2 hbw2
      obtain ⟨_, _, hbw3⟩ := HR.out w3 hb3
      cases b2
      · have HF : Hid (¬ ReqP m p fs b) := fun h => by have := kb2.2 h.2.2; cases this
        clear kb2
        go_wp2_with fail
        go_ret
        exact BoolIs.no HF.out hbw3
      · have HY : Hid (ReqP m p fs b) := ⟨HM.out, HT.out, kb2.1 rfl⟩
        clear kb2
        go_wp2_with fail
        go_ret
        exact BoolIs.yes HY.out hbw3
  · have HF : Hid (¬ ReqP m p fs b) := fun h => hm h.1
    rw [methB_none hm]
    clear hr hm
    go_wp2_with fail
    go_ret
    exact BoolIs.no HF.out hbw1

set_option maxHeartbeats 400000 in
theorem requestOf_any (m : Int) (p : ByteArray) (oa : Option Addr) (n cap : Nat) (b : ByteArray) (w : World) :
    Calls Try.prog 54 #[.agg #[.int .i64 m, .string p, .slice oa n cap, .string b]] w fun e w' => e = .returned (.agg #[.slice oa n cap, .string b, .int .i64 m, .string p]) ∧ Below w.heap.size w w' := by
  go_enter Try.func54, Try.ntmps54
  go_wp2
  exact bodyPost_ret (v := .agg #[.slice oa n cap, .string b, .int .i64 m, .string p]) (by simp [results, Try.results54, go_sem]) rfl ⟨rfl, ((Below.refl _ _).alloc (Nat.le_refl _) _).alloc (by simp) _⟩
set_option maxHeartbeats 400000 in
theorem implReqOk_any (m : Int) (p : ByteArray) (v : Value) (b : ByteArray) (n base : Nat) (fs : List (ByteArray × ByteArray)) (w : World) (hv : FieldsV w base v n fs) (hn : n ≤ 1073741824) (hsz : WalkF n fs) (hp : p.size ≤ maxLen) (hb : b.size ≤ maxLen) :
    Calls Try.prog 21 #[.agg #[.int .i64 m, .string p, v, .string b]] w fun e w' => BoolIs (ReqP m p fs b) w e w' := by
  obtain ⟨oa, cap, rfl, _⟩ := hv.slice
  have hb0 : Below w.heap.size w (w.alloc (.cells #[.int .i64 m, .string p, .slice oa n cap, .string b] 26)) := (Below.refl _ _).alloc (Nat.le_refl _) _
  go_enter Try.func21, Try.ntmps21
  go_wp2_with fail
  refine (requestOf_any m p oa n cap b _).mono ?_
  rintro e w1 ⟨rfl, bb1⟩
  have hb1 : Below w.heap.size w w1 := hb0.trans (bb1.mono hb0.size)
  have hv1 := hv.below hb1
  clear bb1 hb0 hv
  go_wp2_with fail
  refine (reqOk_any m p _ b n base fs _ hv1 hn hsz hp hb).mono ?_
  rintro e w2 ⟨b1, rfl, kb, bb2⟩
  have hb2 : Below w.heap.size w w2 := hb1.trans (bb2.mono hb1.size)
  have HK : Hid (b1 = true ↔ ReqP m p fs b) := kb
  clear hv1 hsz hb bb2 hb1 kb hp
  go_wp2_with fail
  go_ret
  exact ⟨b1, rfl, HK.out, hb2⟩

end Go.Proofs.Ythlmnmbhgkmbfaa

namespace Go.Proofs.Ythlmnmbhgkmbfaa
open Go.RowKit
open Go.Lib hiding intOf

/-- A variable's block may have been made, in this form; and a list of fields of one's own, which lies elsewhere. -/
structure MkSt (W1 : World) (ob : Obj) (a : Option Nat) (z : Option Value) (P : List (ByteArray × ByteArray)) (W : World) : Prop where
  low : Below W1.heap.size W1 W
  blk : ∀ o, a = some o → W.heap[o]? = some ob ∧ W1.heap.size ≤ o
  own : ∀ v, z = some v → W.ownsRow W1.heap.size 68 2 v P.length (flatF P)
  ne : ∀ o v j, a = some o → z = some v → v.ownBlock = some j → j ≠ o
theorem MkSt.below {W1 : World} {ob : Obj} {a : Option Nat} {z : Option Value} {P : List (ByteArray × ByteArray)} {W W' : World} (h : MkSt W1 ob a z P W) (hb : Below W.heap.size W W') : MkSt W1 ob a z P W' :=
  ⟨h.low.trans (hb.mono h.low.size), fun o ho => ⟨by rw [hb.block o (Array.getElem?_eq_some_iff.1 (h.blk o ho).1).1]; exact (h.blk o ho).1, (h.blk o ho).2⟩, fun v hv => owns_below (h.own v hv) hb (fun g hg => owns_lt (h.own v hv) hg), h.ne⟩
theorem MkSt.make {W1 : World} {ob : Obj} {z : Option Value} {P : List (ByteArray × ByteArray)} {W : World} (h : MkSt W1 ob none z P W) : MkSt W1 ob (some W.heap.size) z P (W.alloc ob) := by
  have h' := h.below ((Below.refl _ _).alloc (Nat.le_refl _) ob)
  exact ⟨h'.low, fun o ho => by cases ho; exact ⟨heap_alloc_new W _, h.low.size⟩, h'.own, fun o v j ho hv hj => by cases ho; have := owns_lt (h.own v hv) hj; omega⟩
theorem MkSt.put {W1 : World} {ob : Obj} {a : Option Nat} {P : List (ByteArray × ByteArray)} {W W' : World} {v : Value} (h : MkSt W1 ob a none P W) (hb : Below W.heap.size W W') (hv : W'.ownsRow W.heap.size 68 2 v P.length (flatF P)) : MkSt W1 ob a (some v) P W' := by
  have h' := h.below hb
  exact ⟨h'.low, h'.blk, fun u hu => by cases hu; exact owns_wide hv h.low.size, fun o u j ho hu hj => by
    cases hu
    have h1 := owns_ge hv hj
    have h2 := (Array.getElem?_eq_some_iff.1 (h.blk o ho).1).1
    omega⟩
theorem one_field (W : World) (nm vl : ByteArray) (base : Nat) (hb : base ≤ W.heap.size) : FieldsV (W.alloc (.cells #[.string nm, .string vl] 68)) base (.slice (some ⟨W.heap.size, 0, none⟩) 1 1) 1 [(nm, vl)] :=
  .inr ⟨W.heap.size, 1, rfl, by omega, rfl, hb, by simp, Nat.le_refl _, by unfold maxLen; omega, #[.string nm, .string vl], heap_alloc_new W _, rfl, fun i hi => by
    obtain rfl : i = 0 := by omega
    exact ⟨rfl, rfl⟩⟩
theorem copy_one {nm vl : ByteArray} (h1 : nm.size ≤ 281474976710656) (h2 : vl.size ≤ 281474976710656) : CopyF [(nm, vl)] := fun i hi => by
  obtain rfl : i = 0 := by simpa using hi
  exact ⟨h1, h2⟩
theorem copy_walk {fs : List (ByteArray × ByteArray)} {n : Nat} (h : CopyF fs) (hl : fs.length = n) : WalkF n fs := fun i hi => by
  have := h i (by omega)
  unfold maxLen
  omega

/-- While it is asked: the argument, the answer's memory, the request that is made. -/
structure AkSt (w : World) (r o : Nat) (m : Int) (p : ByteArray) (v : Value) (b : ByteArray) (z : Value) (W : World) : Prop where
  q0 : W.heap[r]? = some (.cells #[.int .i64 m, .string p, v, .string b] 26)
  q1 : W.heap[r + 1]? = some (.cells #[.int .i64 0, .string ⟨#[]⟩, .slice none 0 0, .string ⟨#[]⟩] 26)
  q2 : W.heap[o]? = some (.cells #[.int .i64 m, .string p, z, .string b] 26)
  ge : r + 1 + 1 ≤ o
  low : Below r w W
theorem AkSt.size {w : World} {r o : Nat} {m : Int} {p : ByteArray} {v : Value} {b : ByteArray} {z : Value} {W : World} (h : AkSt w r o m p v b z W) : o < W.heap.size := (Array.getElem?_eq_some_iff.1 h.q2).1
theorem AkSt.below {w : World} {r o : Nat} {m : Int} {p : ByteArray} {v : Value} {b : ByteArray} {z : Value} {W W' : World} (h : AkSt w r o m p v b z W) (hb : Below W.heap.size W W') : AkSt w r o m p v b z W' := by
  have hs := h.size
  have hg := h.ge
  exact ⟨by rw [hb.block _ (by omega)]; exact h.q0, by rw [hb.block _ (by omega)]; exact h.q1, by rw [hb.block _ (by omega)]; exact h.q2, hg, h.low.trans (hb.mono (by omega))⟩
theorem AkSt.set {w : World} {r o : Nat} {m : Int} {p : ByteArray} {v : Value} {b : ByteArray} {z : Value} {W : World} (h : AkSt w r o m p v b z W) (y : Value) : AkSt w r o m p v b y (W.setCell ⟨o, 2, none⟩ y) := by
  have hg := h.ge
  refine ⟨by rw [heap_setCell_other _ _ r _ (by show r ≠ o; omega)]; exact h.q0, by rw [heap_setCell_other _ _ (r + 1) _ (by show r + 1 ≠ o; omega)]; exact h.q1, ?_, hg, h.low.setCell (by show r ≤ o; omega) _⟩
  have := heap_set W o 2 _ _ _ y h.q2
  simpa using this

set_option maxHeartbeats 4000000 in
set_option maxRecDepth 100000 in
theorem implAsk_any (m : Int) (p : ByteArray) (v : Value) (b : ByteArray) (n base : Nat) (fs : List (ByteArray × ByteArray)) (u : Value) (k base2 : Nat) (gs : List (ByteArray × ByteArray)) (w : World) (hv : FieldsV w base v n fs) (hn : n ≤ 1999998) (hu : FieldsV w base2 u k gs) (hk : k ≤ 1999999) (hcp : CopyF fs) (hcg : CopyF gs) (hp : p.size ≤ 281474976710656) (hb : b.size ≤ 281474976710656) (ht : (getV gs tagName).size ≤ 281474976710656) :
    Calls Try.prog 11 #[.agg #[.int .i64 m, .string p, v, .string b], u] w fun e w' => ReqRow m p (askF m p fs b gs) b w e w' := by
  have hl := hv.len
  obtain ⟨oa, cap, rfl, _⟩ := hv.slice
  obtain ⟨r, hr⟩ : ∃ r, r = w.heap.size := ⟨_, rfl⟩
  have HR : Hid (w.heap.size = r) := hr.symm
  obtain ⟨W1, hW1⟩ : ∃ W, W = (w.alloc (.cells #[.int .i64 m, .string p, .slice oa n cap, .string b] 26)).alloc (.cells #[.int .i64 0, .string ⟨#[]⟩, .slice none 0 0, .string ⟨#[]⟩] 26) := ⟨_, rfl⟩
  have HW1 : Hid ((w.alloc (.cells #[.int .i64 m, .string p, .slice oa n cap, .string b] 26)).alloc (.cells #[.int .i64 0, .string ⟨#[]⟩, .slice none 0 0, .string ⟨#[]⟩] 26) = W1) := hW1.symm
  have HV : Hid (∀ W, Below r w W → FieldsV W base (.slice oa n cap) n fs) := fun W h => hv.below (by rw [hr] at h; exact h)
  have HU : Hid (∀ W, Below r w W → FieldsV W base2 u k gs) := fun W h => hu.below (by rw [hr] at h; exact h)
  have s2 : W1.heap.size = r + 1 + 1 := by rw [hW1, hr]; simp
  have HK1 : Hid (∀ W, Below W1.heap.size W1 W → W.heap[r]? = some (.cells #[.int .i64 m, .string p, .slice oa n cap, .string b] 26) ∧ W.heap[r + 1]? = some (.cells #[.int .i64 0, .string ⟨#[]⟩, .slice none 0 0, .string ⟨#[]⟩] 26) ∧ Below r w W) := by
    intro W hW
    have b1 : Below r w W1 := by rw [hW1, hr]; exact ((Below.refl _ w).alloc (Nat.le_refl _) _).alloc (by simp) _
    have s1 : (w.alloc (.cells #[.int .i64 m, .string p, .slice oa n cap, .string b] 26)).heap.size = r + 1 := by rw [hr]; simp
    have e0 := heap_alloc_new w (.cells #[.int .i64 m, .string p, .slice oa n cap, .string b] 26)
    have e1 := heap_alloc_new (w.alloc (.cells #[.int .i64 m, .string p, .slice oa n cap, .string b] 26)) (.cells #[.int .i64 0, .string ⟨#[]⟩, .slice none 0 0, .string ⟨#[]⟩] 26)
    rw [← hr] at e0
    rw [s1, ← hW1] at e1
    have c1 : Below (r + 1) (w.alloc (.cells #[.int .i64 m, .string p, .slice oa n cap, .string b] 26)) W1 := by rw [hW1, ← s1]; exact (Below.refl _ _).alloc (Nat.le_refl _) _
    rw [s2] at hW
    exact ⟨by rw [hW.block r (by omega), c1.block r (by omega)]; exact e0, by rw [hW.block (r + 1) (by omega)]; exact e1, b1.trans (hW.mono (by omega))⟩
  have HS2 : Hid (W1.heap.size = r + 1 + 1) := s2
  have HSS : Hid (∀ W, Below W1.heap.size W1 W → W.cell? ⟨r, 0, none⟩ = some (.int .i64 m) ∧ W.cell? ⟨r, 1, none⟩ = some (.string p) ∧ W.cell? ⟨r, 2, none⟩ = some (.slice oa n cap) ∧ W.cell? ⟨r, 3, none⟩ = some (.string b)) := fun W h => (four_facts (HK1.out W h).1).1
  have HCF : Hid (CopyF fs) := hcp
  have HCG : Hid (CopyF gs) := hcg
  have HPM : Hid (p.size ≤ 281474976710656) := hp
  have HBM : Hid (b.size ≤ 281474976710656) := hb
  have HTM : Hid ((getV gs tagName).size ≤ 281474976710656) := ht
  obtain ⟨s, hs⟩ : ∃ s, s = getV gs tagName := ⟨_, rfl⟩
  obtain ⟨th, hth⟩ : ∃ s, s = getB gs tagName := ⟨_, rfl⟩
  have HE2 : Hid (getV gs tagName = s) := hs.symm
  have HE4 : Hid (getB gs tagName = th) := hth.symm
  have HNO : Hid (th = false ∨ ¬ ReqP m p (putF fs inmName s) b → askF m p fs b gs = dropF fs inmName) := fun h => by
    unfold askF
    rw [HE2.out, HE4.out]
    refine if_neg (fun h2 => ?_)
    rcases h with h | h
    · rw [h] at h2; exact nomatch h2.1
    · exact h h2.2
  have HYES : Hid (th = true → ReqP m p (putF fs inmName s) b → askF m p fs b gs = putF fs inmName s) := fun h h3 => by
    unfold askF
    rw [HE2.out, HE4.out]
    exact if_pos ⟨h, h3⟩
  obtain ⟨P, hP⟩ : ∃ x, x = putF fs inmName s := ⟨_, rfl⟩
  have HPL : Hid (P.length ≤ 1999999) := by show _ ≤ _; rw [hP]; have := putF_le fs inmName s; omega
  have HPW : Hid (WalkF P.length P) := by
    show WalkF _ _
    rw [hP]
    exact put_walk fs inmName s (by rw [hl]; exact copy_walk hcp hl) (by decide) (by have := HTM.out; rw [HE2.out] at this; unfold maxLen; omega)
  have HPE : Hid (putAll fs [(inmName, s)] = P) := by show _ = _; rw [hP]; rfl
  rw [← hP] at HYES HNO
  have HSM : Hid (s.size ≤ 281474976710656) := by show _ ≤ _; rw [hs]; exact ht
  clear hW1 hv hu hs hth hcp hcg hp hb ht hP s2
  go_enter Try.func11, Try.ntmps11
  go_upto_region 1 with fail
  rw [HW1.out, ← hr]
  clear hr HW1
  go_cut [5] (fun s5 wx => ∃ o : Nat, s5 = .pointer (some ⟨o, 0, none⟩) ∧ Hid (Below W1.heap.size W1 wx ∧ wx.heap[o]? = some (.cells #[.int .i64 m, .string p, .slice none 0 0, .string b] 26) ∧ W1.heap.size ≤ o))
  case first =>
    refine wp_region_held_drew (S := fun W => W.cell? ⟨r, 0, none⟩ = some (.int .i64 m) ∧ W.cell? ⟨r, 1, none⟩ = some (.string p) ∧ W.cell? ⟨r, 2, none⟩ = some (.slice oa n cap) ∧ W.cell? ⟨r, 3, none⟩ = some (.string b)) (by kernel_rfl) (HSS.out _ (Below.refl _ _).drew) (fun hS0 => ?_)
    have HST : Hid (MkSt W1 (.cells #[.int .i64 0, .string ⟨#[]⟩, .slice none 0 0, .string ⟨#[]⟩] 26) none none P W1.drew) := ⟨(Below.refl _ _).drew, (fun o ho => by cases ho), (fun v hv => by cases hv), (fun o v j ho => by cases ho)⟩
    obtain ⟨X0, hX0⟩ : ∃ X, X = W1.drew := ⟨_, rfl⟩
    rw [← hX0] at hS0 HST ⊢
    clear hX0
    refine wpAnyH_takeD (i := 0) (v := .pointer (some ⟨r, 0, none⟩)) (some 8) rfl rfl (by kernel_rfl) (by kernel_rfl) (by kernel_rfl) (fun _ _ _ h => h) (Or.inl ⟨by rfl, by intro W _; go_simp⟩) hS0 ?_
    simp only [Act.put, List.setIfInBounds_toArray, List.set_cons_zero, List.set_cons_succ]
    refine wpAnyH_takeD (i := 1) (v := .int .i64 m) (some 9) rfl rfl (by kernel_rfl) (by kernel_rfl) (by kernel_rfl) (fun _ _ _ h => h) (Or.inl ⟨by rfl, by intro W hW; obtain ⟨s0, s1, s2, s3⟩ := hW; go_simp⟩) hS0 ?_
    simp only [Act.put, List.setIfInBounds_toArray, List.set_cons_zero, List.set_cons_succ]
    refine wpAnyH_takeD (i := 2) (v := .pointer (some ⟨r, 1, none⟩)) (some 10) rfl rfl (by kernel_rfl) (by kernel_rfl) (by kernel_rfl) (fun _ _ _ h => h) (Or.inl ⟨by rfl, by intro W _; go_simp⟩) hS0 ?_
    simp only [Act.put, List.setIfInBounds_toArray, List.set_cons_zero, List.set_cons_succ]
    refine wpAnyH_takeD (i := 3) (v := .string p) (some 11) rfl rfl (by kernel_rfl) (by kernel_rfl) (by kernel_rfl) (fun _ _ _ h => h) (Or.inl ⟨by rfl, by intro W hW; obtain ⟨s0, s1, s2, s3⟩ := hW; go_simp⟩) hS0 ?_
    simp only [Act.put, List.setIfInBounds_toArray, List.set_cons_zero, List.set_cons_succ]
    refine wpAnyH_takeD (i := 5) (v := .pointer (some ⟨r, 3, none⟩)) (some 13) rfl rfl (by kernel_rfl) (by kernel_rfl) (by kernel_rfl) (fun _ _ _ h => h) (Or.inl ⟨by rfl, by intro W _; go_simp⟩) hS0 ?_
    simp only [Act.put, List.setIfInBounds_toArray, List.set_cons_zero, List.set_cons_succ]
    refine wpAnyH_takeD (i := 6) (v := .string b) (some 14) rfl rfl (by kernel_rfl) (by kernel_rfl) (by kernel_rfl) (fun _ _ _ h => h) (Or.inl ⟨by rfl, by intro W hW; obtain ⟨s0, s1, s2, s3⟩ := hW; go_simp⟩) hS0 ?_
    simp only [Act.put, List.setIfInBounds_toArray, List.set_cons_zero, List.set_cons_succ]
    refine wpAnyH_ready (rs := [4, 9]) (by kernel_rfl) (by simp) ?_
    refine AllReadyH.cons rfl (fun K hK => ?_) (AllReadyH.cons rfl (fun K hK => ?_) AllReadyH.nil)
    · go_simp
      refine (clone_any p _ HPM.out).mono ?_
      rintro e X1 ⟨rfl, bx⟩
      have HSN : Hid (MkSt W1 (.cells #[.int .i64 0, .string ⟨#[]⟩, .slice none 0 0, .string ⟨#[]⟩] 26) none none P X1) := HST.out.below bx
      refine hK.out _ _ (HSS.out _ HSN.out.low) (fun _ => ?_)
      clear hK K HST bx
      have HST := HSN
      clear HSN
      refine wpAnyH_ready (rs := [7, 9]) (by kernel_rfl) (by simp) ?_
      refine AllReadyH.cons rfl (fun K hK => ?_) (AllReadyH.cons rfl (fun K hK => ?_) AllReadyH.nil)
      · go_simp
        refine (clone_any b _ HBM.out).mono ?_
        rintro e X2 ⟨rfl, bx⟩
        have HSN : Hid (MkSt W1 (.cells #[.int .i64 0, .string ⟨#[]⟩, .slice none 0 0, .string ⟨#[]⟩] 26) none none P X2) := HST.out.below bx
        refine hK.out _ _ (HSS.out _ HSN.out.low) (fun _ => ?_)
        clear hK K HST bx
        have HST := HSN
        clear HSN
        refine wpAnyH_takeD (i := 8) (v := .agg #[.int .i64 m, .string p, .slice none 0 0, .string b]) (some 16) rfl rfl (by kernel_rfl) (by kernel_rfl) (by kernel_rfl) (fun _ _ _ h => h) (Or.inl ⟨by rfl, by intro W _; go_simp⟩) (HSS.out _ HST.out.low) ?_
        simp only [Act.put, List.setIfInBounds_toArray, List.set_cons_zero, List.set_cons_succ]
        refine wpAnyH_ready (rs := [9]) (by kernel_rfl) (by simp) ?_
        refine AllReadyH.cons rfl (fun K hK => ?_) AllReadyH.nil
        have HSN : Hid (MkSt W1 (.cells #[.int .i64 0, .string ⟨#[]⟩, .slice none 0 0, .string ⟨#[]⟩] 26) (some X2.heap.size) none P (X2.alloc (.cells #[.int .i64 0, .string ⟨#[]⟩, .slice none 0 0, .string ⟨#[]⟩] 26))) := HST.out.make
        go_simp
        refine hK.out _ _ (HSS.out _ HSN.out.low) (fun _ => ?_)
        clear hK K HST
        obtain ⟨pa, ho⟩ : ∃ o, o = X2.heap.size := ⟨_, rfl⟩
        obtain ⟨X3, hX⟩ : ∃ X, X = X2.alloc (.cells #[.int .i64 0, .string ⟨#[]⟩, .slice none 0 0, .string ⟨#[]⟩] 26) := ⟨_, rfl⟩
        rw [← ho] at HSN ⊢
        rw [← hX] at HSN ⊢
        clear ho hX
        have HST := HSN
        clear HSN
        obtain ⟨Y, hY⟩ : ∃ Y, Y = fourSet X3 pa (.int .i64 m) (.string p) (.slice none 0 0) (.string b) := ⟨_, rfl⟩
        have HY : Hid (fourSet X3 pa (.int .i64 m) (.string p) (.slice none 0 0) (.string b) = Y) := hY.symm
        have HF : Hid (Below W1.heap.size W1 Y ∧ Y.heap[pa]? = some (.cells #[.int .i64 m, .string p, .slice none 0 0, .string b] 26) ∧ W1.heap.size ≤ pa) := by
          show _ ∧ _ ∧ _
          rw [hY]
          exact ⟨below_four HST.out.low (HST.out.blk pa rfl).2, four_set (HST.out.blk pa rfl).1 _ _ _ _, (HST.out.blk pa rfl).2⟩
        obtain ⟨⟨e0, e1, e2, e3⟩, g0, g1, g2, g3⟩ := four_facts (HST.out.blk pa rfl).1
        have hs9 := HSS.out _ HF.out.1
        unfold fourSet at HY
        clear hY HST
        refine wpAnyH_ready (rs := [10]) (by kernel_rfl) (by simp) ?_
        refine AllReadyH.cons rfl (fun K hK => ?_) AllReadyH.nil
        go_simp
        rw [HY.out]
        refine hK.out _ _ hs9 (fun _ => ?_)
        clear hK K HY e0 e1 e2 e3 g0 g1 g2 g3 hs9
        refine wpAnyH_done (by kernel_rfl) ?_ _
        go_wp2_with fail
        go_meet
        exact ⟨pa, rfl, HF⟩
      · have HSN : Hid (MkSt W1 (.cells #[.int .i64 0, .string ⟨#[]⟩, .slice none 0 0, .string ⟨#[]⟩] 26) (some X1.heap.size) none P (X1.alloc (.cells #[.int .i64 0, .string ⟨#[]⟩, .slice none 0 0, .string ⟨#[]⟩] 26))) := HST.out.make
        go_simp
        refine hK.out _ _ (HSS.out _ HSN.out.low) (fun _ => ?_)
        clear hK K HST
        obtain ⟨pa, ho⟩ : ∃ o, o = X1.heap.size := ⟨_, rfl⟩
        obtain ⟨X2, hX⟩ : ∃ X, X = X1.alloc (.cells #[.int .i64 0, .string ⟨#[]⟩, .slice none 0 0, .string ⟨#[]⟩] 26) := ⟨_, rfl⟩
        rw [← ho] at HSN ⊢
        rw [← hX] at HSN ⊢
        clear ho hX
        have HST := HSN
        clear HSN
        refine wpAnyH_ready (rs := [7]) (by kernel_rfl) (by simp) ?_
        refine AllReadyH.cons rfl (fun K hK => ?_) AllReadyH.nil
        go_simp
        refine (clone_any b _ HBM.out).mono ?_
        rintro e X3 ⟨rfl, bx⟩
        have HSN : Hid (MkSt W1 (.cells #[.int .i64 0, .string ⟨#[]⟩, .slice none 0 0, .string ⟨#[]⟩] 26) (some pa) none P X3) := HST.out.below bx
        refine hK.out _ _ (HSS.out _ HSN.out.low) (fun _ => ?_)
        clear hK K HST bx
        have HST := HSN
        clear HSN
        refine wpAnyH_takeD (i := 8) (v := .agg #[.int .i64 m, .string p, .slice none 0 0, .string b]) (some 16) rfl rfl (by kernel_rfl) (by kernel_rfl) (by kernel_rfl) (fun _ _ _ h => h) (Or.inl ⟨by rfl, by intro W _; go_simp⟩) (HSS.out _ HST.out.low) ?_
        simp only [Act.put, List.setIfInBounds_toArray, List.set_cons_zero, List.set_cons_succ]
        obtain ⟨Y, hY⟩ : ∃ Y, Y = fourSet X3 pa (.int .i64 m) (.string p) (.slice none 0 0) (.string b) := ⟨_, rfl⟩
        have HY : Hid (fourSet X3 pa (.int .i64 m) (.string p) (.slice none 0 0) (.string b) = Y) := hY.symm
        have HF : Hid (Below W1.heap.size W1 Y ∧ Y.heap[pa]? = some (.cells #[.int .i64 m, .string p, .slice none 0 0, .string b] 26) ∧ W1.heap.size ≤ pa) := by
          show _ ∧ _ ∧ _
          rw [hY]
          exact ⟨below_four HST.out.low (HST.out.blk pa rfl).2, four_set (HST.out.blk pa rfl).1 _ _ _ _, (HST.out.blk pa rfl).2⟩
        obtain ⟨⟨e0, e1, e2, e3⟩, g0, g1, g2, g3⟩ := four_facts (HST.out.blk pa rfl).1
        have hs9 := HSS.out _ HF.out.1
        unfold fourSet at HY
        clear hY HST
        refine wpAnyH_ready (rs := [10]) (by kernel_rfl) (by simp) ?_
        refine AllReadyH.cons rfl (fun K hK => ?_) AllReadyH.nil
        go_simp
        rw [HY.out]
        refine hK.out _ _ hs9 (fun _ => ?_)
        clear hK K HY e0 e1 e2 e3 g0 g1 g2 g3 hs9
        refine wpAnyH_done (by kernel_rfl) ?_ _
        go_wp2_with fail
        go_meet
        exact ⟨pa, rfl, HF⟩
    · have HSN : Hid (MkSt W1 (.cells #[.int .i64 0, .string ⟨#[]⟩, .slice none 0 0, .string ⟨#[]⟩] 26) (some X0.heap.size) none P (X0.alloc (.cells #[.int .i64 0, .string ⟨#[]⟩, .slice none 0 0, .string ⟨#[]⟩] 26))) := HST.out.make
      go_simp
      refine hK.out _ _ (HSS.out _ HSN.out.low) (fun _ => ?_)
      clear hK K HST
      obtain ⟨pa, ho⟩ : ∃ o, o = X0.heap.size := ⟨_, rfl⟩
      obtain ⟨X1, hX⟩ : ∃ X, X = X0.alloc (.cells #[.int .i64 0, .string ⟨#[]⟩, .slice none 0 0, .string ⟨#[]⟩] 26) := ⟨_, rfl⟩
      rw [← ho] at HSN ⊢
      rw [← hX] at HSN ⊢
      clear ho hX
      have HST := HSN
      clear HSN
      refine wpAnyH_ready (rs := [4]) (by kernel_rfl) (by simp) ?_
      refine AllReadyH.cons rfl (fun K hK => ?_) AllReadyH.nil
      go_simp
      refine (clone_any p _ HPM.out).mono ?_
      rintro e X2 ⟨rfl, bx⟩
      have HSN : Hid (MkSt W1 (.cells #[.int .i64 0, .string ⟨#[]⟩, .slice none 0 0, .string ⟨#[]⟩] 26) (some pa) none P X2) := HST.out.below bx
      refine hK.out _ _ (HSS.out _ HSN.out.low) (fun _ => ?_)
      clear hK K HST bx
      have HST := HSN
      clear HSN
      refine wpAnyH_ready (rs := [7]) (by kernel_rfl) (by simp) ?_
      refine AllReadyH.cons rfl (fun K hK => ?_) AllReadyH.nil
      go_simp
      refine (clone_any b _ HBM.out).mono ?_
      rintro e X3 ⟨rfl, bx⟩
      have HSN : Hid (MkSt W1 (.cells #[.int .i64 0, .string ⟨#[]⟩, .slice none 0 0, .string ⟨#[]⟩] 26) (some pa) none P X3) := HST.out.below bx
      refine hK.out _ _ (HSS.out _ HSN.out.low) (fun _ => ?_)
      clear hK K HST bx
      have HST := HSN
      clear HSN
      refine wpAnyH_takeD (i := 8) (v := .agg #[.int .i64 m, .string p, .slice none 0 0, .string b]) (some 16) rfl rfl (by kernel_rfl) (by kernel_rfl) (by kernel_rfl) (fun _ _ _ h => h) (Or.inl ⟨by rfl, by intro W _; go_simp⟩) (HSS.out _ HST.out.low) ?_
      simp only [Act.put, List.setIfInBounds_toArray, List.set_cons_zero, List.set_cons_succ]
      obtain ⟨Y, hY⟩ : ∃ Y, Y = fourSet X3 pa (.int .i64 m) (.string p) (.slice none 0 0) (.string b) := ⟨_, rfl⟩
      have HY : Hid (fourSet X3 pa (.int .i64 m) (.string p) (.slice none 0 0) (.string b) = Y) := hY.symm
      have HF : Hid (Below W1.heap.size W1 Y ∧ Y.heap[pa]? = some (.cells #[.int .i64 m, .string p, .slice none 0 0, .string b] 26) ∧ W1.heap.size ≤ pa) := by
        show _ ∧ _ ∧ _
        rw [hY]
        exact ⟨below_four HST.out.low (HST.out.blk pa rfl).2, four_set (HST.out.blk pa rfl).1 _ _ _ _, (HST.out.blk pa rfl).2⟩
      obtain ⟨⟨e0, e1, e2, e3⟩, g0, g1, g2, g3⟩ := four_facts (HST.out.blk pa rfl).1
      have hs9 := HSS.out _ HF.out.1
      unfold fourSet at HY
      clear hY HST
      refine wpAnyH_ready (rs := [10]) (by kernel_rfl) (by simp) ?_
      refine AllReadyH.cons rfl (fun K hK => ?_) AllReadyH.nil
      go_simp
      rw [HY.out]
      refine hK.out _ _ hs9 (fun _ => ?_)
      clear hK K HY e0 e1 e2 e3 g0 g1 g2 g3 hs9
      refine wpAnyH_done (by kernel_rfl) ?_ _
      go_wp2_with fail
      go_meet
      exact ⟨pa, rfl, HF⟩
  case rest =>
  obtain ⟨o, hs5, HF⟩ := hcut
  rw [hs5]
  obtain ⟨w2, hw2⟩ : ∃ W, W = wc := ⟨_, rfl⟩
  rw [← hw2] at HF ⊢
  clear hs5 hw2
  have HST : Hid (AkSt w r o m p (.slice oa n cap) b (.slice none 0 0) w2) := by
    obtain ⟨a0, a1, a2⟩ := HK1.out _ HF.out.1
    exact ⟨a0, a1, HF.out.2.1, by have := HF.out.2.2; have := HS2.out; omega, a2⟩
  clear HF HSS HK1 HS2
  go_wp2_with fail
  refine (implGet_any u k base2 gs tagName _ (HU.out _ HST.out.low) (by omega) HCG.out).mono ?_
  rintro e w3 ⟨rfl, b3⟩
  rw [HE2.out, HE4.out]
  have HST3 : Hid (AkSt w r o m p (.slice oa n cap) b (.slice none 0 0) w3) := HST.out.below b3
  clear HST b3 HU HE2 HE4
  obtain ⟨⟨_, _, q2, _⟩, _⟩ := four_facts HST3.out.q0
  have HVP : Hid (FieldsV (w3.alloc (.cells #[.string inmName, .string s] 68)) base (.slice oa n cap) n fs) := HV.out _ (HST3.out.low.alloc (by have := HST3.out.size; have := HST3.out.ge; omega) _)
  have HV1 : Hid (FieldsV (w3.alloc (.cells #[.string inmName, .string s] 68)) 0 (.slice (some ⟨w3.heap.size, 0, none⟩) 1 1) 1 [(inmName, s)]) := one_field w3 inmName s 0 (Nat.zero_le _)
  have HC1 : Hid (CopyF [(inmName, s)]) := copy_one (by decide) HSM.out
  go_wp2_with fail
  refine (putTogether_any _ n base fs _ 1 0 [(inmName, s)] _ HVP.out HV1.out (by omega) HCF.out HC1.out).mono ?_
  rintro e w4 ⟨zv, rfl, ownz, b4⟩
  rw [HPE.out] at ownz
  obtain ⟨o4, c4, rfl⟩ := slice_of_owns ownz
  obtain ⟨ln, hln⟩ : ∃ x, x = P.length := ⟨_, rfl⟩
  have HLN : Hid (P.length = ln) := hln.symm
  rw [← hln] at ownz HPL HPW ⊢
  have HST4 : Hid (AkSt w r o m p (.slice oa n cap) b (.slice none 0 0) w4) := (HST3.out.below ((Below.refl _ _).alloc (Nat.le_refl _) _)).below b4
  have HSZ3 : Hid (o < (w3.alloc (.cells #[.string inmName, .string s] 68)).heap.size) := by show _ < _; have := HST3.out.size; simp; omega
  obtain ⟨⟨_, _, f2, _⟩, _, _, y2, _⟩ := four_facts HST4.out.q2
  have HST5 : Hid (AkSt w r o m p (.slice oa n cap) b (.slice o4 ln c4) (w4.setCell ⟨o, 2, none⟩ (.slice o4 ln c4))) := HST4.out.set _
  have HOW5 : Hid ((w4.setCell ⟨o, 2, none⟩ (.slice o4 ln c4)).ownsRow (r + 1 + 1) 68 2 (.slice o4 ln c4) ln (flatF P)) := by
    have h3 := HST4.out.ge
    have h4 := HSZ3.out
    refine owns_same (owns_wide ownz (by omega)) (fun j hj => ?_)
    have h1 := owns_ge ownz hj
    exact heap_setCell_other _ _ j _ (by show j ≠ o; omega)
  clear hln ownz b4 q2 HST3 HST4 HVP HV1 HSZ3
  go_upto_region 4 with fail
  obtain ⟨w5, hw5⟩ : ∃ W, W = w4.setCell ⟨o, 2, none⟩ (.slice o4 ln c4) := ⟨_, rfl⟩
  rw [← hw5] at HST5 HOW5 ⊢
  clear hw5 f2 y2
  cases th with
  | false =>
    have HFE : Hid (askF m p fs b gs = dropF fs inmName) := HNO.out (.inl rfl)
    clear HNO HYES HOW5
    have hvd := HV.out _ HST5.out.low
    obtain ⟨⟨_, _, q2, _⟩, _⟩ := four_facts HST5.out.q0
    go_wp2_with fail
    refine (implDrop_any _ n base fs inmName _ hvd (by omega) HCF.out).mono ?_
    rintro e w8 ⟨zv, rfl, ownd, b8⟩
    obtain ⟨o8, c8, rfl⟩ := slice_of_owns ownd
    obtain ⟨ld, hld⟩ : ∃ x, x = (dropF fs inmName).length := ⟨_, rfl⟩
    have HLD : Hid ((dropF fs inmName).length = ld) := hld.symm
    rw [← hld] at ownd ⊢
    have HST8 : Hid (AkSt w r o m p (.slice oa n cap) b (.slice o4 ln c4) w8) := HST5.out.below b8
    obtain ⟨⟨_, _, f2, _⟩, _, _, y2, _⟩ := four_facts HST8.out.q2
    have HST9 : Hid (AkSt w r o m p (.slice oa n cap) b (.slice o8 ld c8) (w8.setCell ⟨o, 2, none⟩ (.slice o8 ld c8))) := HST8.out.set _
    have HOW9 : Hid ((w8.setCell ⟨o, 2, none⟩ (.slice o8 ld c8)).ownsRow (r + 1 + 1) 68 2 (.slice o8 ld c8) (dropF fs inmName).length (flatF (dropF fs inmName))) := by
      show World.ownsRow _ _ _ _ _ _ _
      rw [HLD.out]
      have h2 := HST5.out.size
      have h3 := HST5.out.ge
      refine owns_same (owns_wide ownd (by omega)) (fun j hj => ?_)
      have h1 := owns_ge ownd hj
      exact heap_setCell_other _ _ j _ (by show j ≠ o; omega)
    clear hld ownd b8 hvd q2 HST8
    obtain ⟨⟨e0, e1, e2, e3⟩, g0, g1, g2, g3⟩ := four_facts HST9.out.q1
    obtain ⟨⟨d0, d1, d2, d3⟩, _⟩ := four_facts HST9.out.q2
    have hset := four_set HST9.out.q1 (.int .i64 m) (.string p) (.slice o8 ld c8) (.string b)
    obtain ⟨⟨k0, k1, k2, k3⟩, _⟩ := four_facts hset
    have HFB : Hid (Below r w (fourSet (w8.setCell ⟨o, 2, none⟩ (.slice o8 ld c8)) (r + 1) (.int .i64 m) (.string p) (.slice o8 ld c8) (.string b))) := below_four HST9.out.low (by omega)
    have HFO : Hid ((fourSet (w8.setCell ⟨o, 2, none⟩ (.slice o8 ld c8)) (r + 1) (.int .i64 m) (.string p) (.slice o8 ld c8) (.string b)).ownsRow r 68 2 (.slice o8 ld c8) (askF m p fs b gs).length (flatF (askF m p fs b gs))) := by
      show World.ownsRow _ _ _ _ _ _ _
      rw [HFE.out]
      refine owns_same (owns_wide HOW9.out (by omega)) (fun j hj => ?_)
      have hj2 := owns_ge HOW9.out hj
      unfold fourSet
      rw [heap_setCell_other _ _ j _ (by show j ≠ r + 1; omega), heap_setCell_other _ _ j _ (by show j ≠ r + 1; omega), heap_setCell_other _ _ j _ (by show j ≠ r + 1; omega), heap_setCell_other _ _ j _ (by show j ≠ r + 1; omega)]
    unfold fourSet at k0 k1 k2 k3 HFB HFO
    clear hset HST9 HOW9
    go_wp2_with fail
    refine bodyPost_ret (v := .agg #[.int .i64 m, .string p, .slice o8 ld c8, .string b]) (by simp [results, Try.results11, go_sem, k0, k1, k2, k3]) rfl ?_
    exact ⟨_, rfl, by rw [HR.out]; exact HFO.out, by rw [HR.out]; exact HFB.out⟩
  | true =>
    obtain ⟨⟨d0, d1, d2, d3⟩, _⟩ := four_facts HST5.out.q2
    have hvq := FieldsV.of_owns HOW5.out
    go_wp2_with fail
    refine (implReqOk_any m p _ b ln _ P _ hvq (by have := HPL.out; omega) HPW.out (by have := HPM.out; unfold maxLen; omega) (by have := HBM.out; unfold maxLen; omega)).mono ?_
    rintro e w6 ⟨ok, rfl, hok, b6⟩
    have HST6 : Hid (AkSt w r o m p (.slice oa n cap) b (.slice o4 ln c4) w6) := HST5.out.below b6
    have HOW6 : Hid (w6.ownsRow (r + 1 + 1) 68 2 (.slice o4 ln c4) P.length (flatF P)) := by
      show World.ownsRow _ _ _ _ _ _ _
      rw [HLN.out]
      exact owns_same HOW5.out (fun j hj => b6.block j (owns_lt HOW5.out hj))
    clear d0 d1 d2 d3 hvq HST5 HOW5 b6
    cases ok with
    | true =>
      have HFE : Hid (askF m p fs b gs = P) := HYES.out (by simp) (hok.1 rfl)
      clear hok HYES HNO
      obtain ⟨⟨e0, e1, e2, e3⟩, g0, g1, g2, g3⟩ := four_facts HST6.out.q1
      obtain ⟨⟨d0, d1, d2, d3⟩, _⟩ := four_facts HST6.out.q2
      have hset := four_set HST6.out.q1 (.int .i64 m) (.string p) (.slice o4 ln c4) (.string b)
      obtain ⟨⟨k0, k1, k2, k3⟩, _⟩ := four_facts hset
      have HFB : Hid (Below r w (fourSet (w6) (r + 1) (.int .i64 m) (.string p) (.slice o4 ln c4) (.string b))) := below_four HST6.out.low (by omega)
      have HFO : Hid ((fourSet (w6) (r + 1) (.int .i64 m) (.string p) (.slice o4 ln c4) (.string b)).ownsRow r 68 2 (.slice o4 ln c4) (askF m p fs b gs).length (flatF (askF m p fs b gs))) := by
        show World.ownsRow _ _ _ _ _ _ _
        rw [HFE.out]
        refine owns_same (owns_wide HOW6.out (by omega)) (fun j hj => ?_)
        have hj2 := owns_ge HOW6.out hj
        unfold fourSet
        rw [heap_setCell_other _ _ j _ (by show j ≠ r + 1; omega), heap_setCell_other _ _ j _ (by show j ≠ r + 1; omega), heap_setCell_other _ _ j _ (by show j ≠ r + 1; omega), heap_setCell_other _ _ j _ (by show j ≠ r + 1; omega)]
      unfold fourSet at k0 k1 k2 k3 HFB HFO
      clear hset HST6 HOW6
      go_wp2_with fail
      refine bodyPost_ret (v := .agg #[.int .i64 m, .string p, .slice o4 ln c4, .string b]) (by simp [results, Try.results11, go_sem, k0, k1, k2, k3]) rfl ?_
      exact ⟨_, rfl, by rw [HR.out]; exact HFO.out, by rw [HR.out]; exact HFB.out⟩
    | false =>
      have HFE : Hid (askF m p fs b gs = dropF fs inmName) := HNO.out (.inr (fun h => nomatch hok.2 h))
      clear hok HYES HNO HOW6
      have hvd := HV.out _ HST6.out.low
      obtain ⟨⟨_, _, q2, _⟩, _⟩ := four_facts HST6.out.q0
      go_wp2_with fail
      refine (implDrop_any _ n base fs inmName _ hvd (by omega) HCF.out).mono ?_
      rintro e w8 ⟨zv, rfl, ownd, b8⟩
      obtain ⟨o8, c8, rfl⟩ := slice_of_owns ownd
      obtain ⟨ld, hld⟩ : ∃ x, x = (dropF fs inmName).length := ⟨_, rfl⟩
      have HLD : Hid ((dropF fs inmName).length = ld) := hld.symm
      rw [← hld] at ownd ⊢
      have HST8 : Hid (AkSt w r o m p (.slice oa n cap) b (.slice o4 ln c4) w8) := HST6.out.below b8
      obtain ⟨⟨_, _, f2, _⟩, _, _, y2, _⟩ := four_facts HST8.out.q2
      have HST9 : Hid (AkSt w r o m p (.slice oa n cap) b (.slice o8 ld c8) (w8.setCell ⟨o, 2, none⟩ (.slice o8 ld c8))) := HST8.out.set _
      have HOW9 : Hid ((w8.setCell ⟨o, 2, none⟩ (.slice o8 ld c8)).ownsRow (r + 1 + 1) 68 2 (.slice o8 ld c8) (dropF fs inmName).length (flatF (dropF fs inmName))) := by
        show World.ownsRow _ _ _ _ _ _ _
        rw [HLD.out]
        have h2 := HST6.out.size
        have h3 := HST6.out.ge
        refine owns_same (owns_wide ownd (by omega)) (fun j hj => ?_)
        have h1 := owns_ge ownd hj
        exact heap_setCell_other _ _ j _ (by show j ≠ o; omega)
      clear hld ownd b8 hvd q2 HST8
      obtain ⟨⟨e0, e1, e2, e3⟩, g0, g1, g2, g3⟩ := four_facts HST9.out.q1
      obtain ⟨⟨d0, d1, d2, d3⟩, _⟩ := four_facts HST9.out.q2
      have hset := four_set HST9.out.q1 (.int .i64 m) (.string p) (.slice o8 ld c8) (.string b)
      obtain ⟨⟨k0, k1, k2, k3⟩, _⟩ := four_facts hset
      have HFB : Hid (Below r w (fourSet (w8.setCell ⟨o, 2, none⟩ (.slice o8 ld c8)) (r + 1) (.int .i64 m) (.string p) (.slice o8 ld c8) (.string b))) := below_four HST9.out.low (by omega)
      have HFO : Hid ((fourSet (w8.setCell ⟨o, 2, none⟩ (.slice o8 ld c8)) (r + 1) (.int .i64 m) (.string p) (.slice o8 ld c8) (.string b)).ownsRow r 68 2 (.slice o8 ld c8) (askF m p fs b gs).length (flatF (askF m p fs b gs))) := by
        show World.ownsRow _ _ _ _ _ _ _
        rw [HFE.out]
        refine owns_same (owns_wide HOW9.out (by omega)) (fun j hj => ?_)
        have hj2 := owns_ge HOW9.out hj
        unfold fourSet
        rw [heap_setCell_other _ _ j _ (by show j ≠ r + 1; omega), heap_setCell_other _ _ j _ (by show j ≠ r + 1; omega), heap_setCell_other _ _ j _ (by show j ≠ r + 1; omega), heap_setCell_other _ _ j _ (by show j ≠ r + 1; omega)]
      unfold fourSet at k0 k1 k2 k3 HFB HFO
      clear hset HST9 HOW9
      go_wp2_with fail
      refine bodyPost_ret (v := .agg #[.int .i64 m, .string p, .slice o8 ld c8, .string b]) (by simp [results, Try.results11, go_sem, k0, k1, k2, k3]) rfl ?_
      exact ⟨_, rfl, by rw [HR.out]; exact HFO.out, by rw [HR.out]; exact HFB.out⟩

end Go.Proofs.Ythlmnmbhgkmbfaa

namespace Go.Proofs.Ythlmnmbhgkmbfaa
open Go.RowKit
open Go.Lib hiding intOf

/-- The measure is negative, or it says exactly how much room is left of L. -/
def SzEx (L : Int) (n : Nat) (fs : List (ByteArray × ByteArray)) (w : World) (e : Ending) (w' : World) : Prop :=
  ∃ r : Int, e = .returned (.int .i64 r) ∧ r ≤ L ∧ (0 ≤ r → r + (n : Int) + (szTo fs n : Int) = L ∧ n ≤ 1048576 ∧ szTo fs n ≤ 1048576) ∧ Below w.heap.size w w'

set_option maxHeartbeats 1000000 in
theorem szFieldS_exact (L : Int) (hL0 : 0 ≤ L) (hL1 : L ≤ 1048576) (B : Nat) (a : Option Addr) (n cap : Nat) (fs : List (ByteArray × ByteArray)) (w : World) (harg : ArgF w B a n fs) (hB : B ≤ w.heap.size) (hn : n ≤ maxLen) (hsz : ∀ i, i < n → (nameAt fs i).size ≤ maxLen ∧ (valAt fs i).size ≤ maxLen) :
    Calls Try.prog 30 #[.slice a n cap, .int .i64 L] w fun e w' => SzEx L n fs w e w' := by
  unfold maxLen at hn
  have HS : Hid (∀ i, i < n → (nameAt fs i).size ≤ maxLen ∧ (valAt fs i).size ≤ maxLen) := hsz
  clear hsz
  by_cases c1 : L - (n : Int) < 0
  · go_enter Try.func30, Try.ntmps30
    go_wp2
    go_ret
    exact ⟨-1, rfl, by omega, fun h => absurd h (by omega), Below.refl _ _⟩
  · go_enter Try.func30, Try.ntmps30
    go_wp2
    go_loopw [1, 5] (fun l i wr => ∃ (k : Nat) (x : Int), k ≤ n ∧ i = .int .i64 (k : Int) ∧ l = .int .i64 x ∧ 0 ≤ x ∧ x ≤ L ∧ Hid (x = L - (n : Int) - (szTo fs k : Int)) ∧ Below w.heap.size w wr) (fun _ i _ => n - (intOf i).toNat)
    case atStart => exact ⟨0, _, Nat.zero_le _, rfl, rfl, by omega, by omega, by show _ = _; simp [szTo], Below.refl _ _⟩
    case round =>
      obtain ⟨k, x, hk, rfl, rfl, hx0, hx1, hx, hbw⟩ := hrel
      by_cases hlt : k < n
      · have hlt2 : (k : Int) < (n : Int) := by omega
        obtain ⟨b, off, rfl, hbB, hc1, hc2⟩ := (harg.below (hbw.mono hB)).get k hlt
        obtain ⟨s1, s2⟩ := HS.out k hlt
        obtain ⟨nm, hnm⟩ : ∃ y, y = nameAt fs k := ⟨_, rfl⟩
        obtain ⟨vl, hvl⟩ : ∃ y, y = valAt fs k := ⟨_, rfl⟩
        have HZ : Hid (szTo fs (k + 1) = szTo fs k + nm.size + vl.size) := by rw [hnm, hvl]; rfl
        rw [← hnm] at hc1 s1
        rw [← hvl] at hc2 s2
        clear hnm hvl
        go_wp2_with fail
        refine (szField_any nm vl x _ hx0 (by omega) s1 s2).mono ?_
        rintro e w1 ⟨rfl, hb1⟩
        have hb2 : Below w.heap.size w w1 := hbw.trans (hb1.mono hbw.size)
        clear hc1 hc2 hb1
        by_cases d1 : x - (nm.size : Int) < 0
        · rw [if_pos d1]
          go_wp2
          go_ret
          exact ⟨-1, rfl, by omega, fun h => absurd h (by omega), hb2⟩
        · rw [if_neg d1]
          by_cases d2 : x - (nm.size : Int) - (vl.size : Int) < 0
          · rw [if_pos d2]
            go_wp2
            go_ret
            exact ⟨-1, rfl, by omega, fun h => absurd h (by omega), hb2⟩
          · rw [if_neg d2]
            obtain ⟨y, hy⟩ : ∃ y, y = x - (nm.size : Int) - (vl.size : Int) := ⟨_, rfl⟩
            rw [← hy] at d2 ⊢
            have HY : Hid (y = L - (n : Int) - (szTo fs (k + 1) : Int)) := by
              show _ = _
              rw [hy, HZ.out, hx.out]; omega
            have hy1 : y ≤ L := by omega
            clear hy d1
            go_wp2
            go_roundw
            case rel => exact ⟨k + 1, y, by omega, by go_num, rfl, by omega, hy1, HY, hb2⟩
            case measure => simp [intOf]; omega
      · have hF : Hid (x + (n : Int) + (szTo fs n : Int) = L ∧ n ≤ 1048576 ∧ szTo fs n ≤ 1048576) := by
          have := hx.out
          obtain rfl : k = n := by omega
          exact ⟨by omega, by omega, by omega⟩
        go_wp2
        go_ret
        exact ⟨x, rfl, hx1, fun _ => hF.out, hbw⟩

end Go.Proofs.Ythlmnmbhgkmbfaa

namespace Go.Proofs.Ythlmnmbhgkmbfaa
open Go.RowKit
open Go.Lib hiding intOf

/-- All blocks that were there but the list's own are as they were. -/
def Far (v : Value) (w w' : World) : Prop := ∀ j, j < w.heap.size → v.ownBlock ≠ some j → w'.heap[j]? = w.heap[j]?

end Go.Proofs.Ythlmnmbhgkmbfaa

namespace Go.Proofs.Ythlmnmbhgkmbfaa
open Go.RowKit
open Go.Lib hiding intOf

/-- The list with its first k fields marked, from k0 on. -/
def mkG (k0 : Nat) (fs : List (ByteArray × ByteArray)) : Nat → List (ByteArray × ByteArray)
  | 0 => fs
  | k + 1 => (mkG k0 fs k).set k (markOf (k0 + 2 * k), markOf (k0 + 2 * k + 1))
theorem mkG_len (k0 : Nat) (fs : List (ByteArray × ByteArray)) : ∀ k, (mkG k0 fs k).length = fs.length
  | 0 => rfl
  | k + 1 => by rw [mkG, List.length_set, mkG_len k0 fs k]
theorem mkG_at (k0 : Nat) (fs : List (ByteArray × ByteArray)) (j : Nat) : ∀ k, k ≤ fs.length → j < k → nameAt (mkG k0 fs k) j = markOf (k0 + 2 * j) ∧ valAt (mkG k0 fs k) j = markOf (k0 + 2 * j + 1) := by
  intro k
  induction k with
  | zero => intro _ h; omega
  | succ k ih =>
    intro hk h
    have hs := nameAt_set (mkG k0 fs k) k j (markOf (k0 + 2 * k), markOf (k0 + 2 * k + 1)) (by rw [mkG_len]; omega)
    rw [mkG, hs.1, hs.2]
    by_cases e : j = k
    · subst e; rw [if_pos rfl, if_pos rfl]; exact ⟨rfl, rfl⟩
    · rw [if_neg e, if_neg e]; exact ih (by omega) (by omega)

set_option maxHeartbeats 2000000 in
theorem markFrom_any (v : Value) (n base : Nat) (fs : List (ByteArray × ByteArray)) (w : World) (h1 : w.ownsRow base 68 2 v n (flatF fs)) (hb : base ≤ w.heap.size) (k0 : Nat) (hk0 : 1 ≤ k0) (hn : k0 + 2 * n ≤ 9999999) :
    Calls Try.prog 34 #[v, .int .i64 (k0 : Int)] w fun e w' => e = .returned (.int .i64 ((k0 : Int) + 2 * (n : Int))) ∧ w'.ownsRow base 68 2 v n (flatF (mkG k0 fs n)) ∧ Below base w w' ∧ Far v w w' := by
  rcases frow_form h1 with ⟨oa, ca, rfl, _, rfl, rfl⟩ | ⟨g, cap, rfl, hp, r1⟩
  · go_enter Try.func34, Try.ntmps34
    go_wp2
    refine wp_loop_rounds 1 ?_
    rw [rounds_succ]
    go_wp2
    go_ret
    exact ⟨ret_int (by simp), h1, Below.refl _ _, fun j _ _ => rfl⟩
  · clear h1
    go_enter Try.func34, Try.ntmps34
    go_wp2
    go_loopw [1, 5] (fun q i wr => ∃ k : Nat, k ≤ n ∧ i = .int .i64 (k : Int) ∧ q = .int .i64 ((k0 : Int) + 2 * (k : Int)) ∧ Below base w wr ∧ FieldRow base wr g n cap (mkG k0 fs k) ∧ Hid (∀ j, j < w.heap.size → j ≠ g → wr.heap[j]? = w.heap[j]?)) (fun _ i _ => n - (intOf i).toNat)
    case atStart => exact ⟨0, Nat.zero_le _, rfl, by simp, Below.refl _ _, r1, fun j _ _ => rfl⟩
    case round =>
      obtain ⟨k, hk, rfl, rfl, hbw, hrow, hfar⟩ := hrel
      by_cases hlt : k < n
      · have hlt2 : (k : Int) < (n : Int) := by omega
        have hszr := hbw.size
        go_wp2_with fail
        refine (markText_int _ (k0 + 2 * k) _ (by omega) (by omega) (by omega)).mono ?_
        rintro e w1 ⟨rfl, hb1⟩
        have hrow1 := hrow.below hb1 hrow.lt
        have hc := hrow1.name k hlt
        have hf := hrow1.frozen (k * 2)
        have hb2 : Below base w w1 := hbw.trans (hb1.mono (Nat.le_trans hb hbw.size))
        have HF1 : Hid (∀ j, j < w.heap.size → j ≠ g → w1.heap[j]? = w.heap[j]?) := fun j hj hne => by rw [hb1.block j (by omega)]; exact hfar.out j hj hne
        clear hb1 hbw
        go_wp2_with fail
        refine (markText_int _ (k0 + 2 * k + 1) _ (by omega) (by omega) (by omega)).mono ?_
        rintro e w2 ⟨rfl, hb3⟩
        have hlt3 : g < (w1.setCell ⟨g, k * 2, none⟩ (.string (markOf (k0 + 2 * k)))).heap.size := by simpa using hrow1.lt
        have hblk := hb3.block g hlt3
        have hc2 : w2.cell? ⟨g, k * 2 + 1, none⟩ = some (.string (valAt (mkG k0 fs k) k)) := by
          rw [World.cell?_of_block (w := w1.setCell ⟨g, k * 2, none⟩ (.string (markOf (k0 + 2 * k)))) hblk, World.cell?_setCell_other (h := fun e => by have := congrArg Addr.off e; simp at this)]
          exact hrow1.val k hlt
        have hf2 : w2.frozen? ⟨g, k * 2 + 1, none⟩ = false := by
          rw [World.frozen?_of_block (w := w1.setCell ⟨g, k * 2, none⟩ (.string (markOf (k0 + 2 * k)))) hblk, World.frozen?_setCell]; exact hrow1.frozen _
        have hb4 : Below base w w2 := (hb2.setCell hrow.base _).trans (hb3.mono (by have := hb2.size; simp; omega))
        have hsz2 : w1.heap.size ≤ w2.heap.size := by have := hb3.size; simpa using this
        have HF2 : Hid (∀ j, j < w.heap.size → j ≠ g → (w2.setCell ⟨g, k * 2 + 1, none⟩ (.string (markOf (k0 + 2 * k + 1)))).heap[j]? = w.heap[j]?) := fun j hj hne => by
          have hs1 : w.heap.size ≤ w1.heap.size := hb2.size
          rw [heap_setCell_other _ _ j _ (fun e => hne e), hb3.block j (by simp; omega), heap_setCell_other _ _ j _ (fun e => hne e)]
          exact HF1.out j hj hne
        clear hb3 hb2
        have HROW : Hid (FieldRow base (w2.setCell ⟨g, k * 2 + 1, none⟩ (.string (markOf (k0 + 2 * k + 1)))) g n cap (mkG k0 fs (k + 1))) := hrow1.set k hlt _ _ _ (heap_setCell_congr hblk _ _) (by simpa using hsz2)
        clear hblk hc hf
        go_wp2
        go_roundw
        case rel => exact ⟨k + 1, by omega, by go_num, by first | go_num | (congr 1; omega), hb4.setCell hrow.base _, HROW, HF2⟩
        case measure => simp [intOf]; omega
      · obtain rfl : k = n := by omega
        go_wp2
        go_ret
        exact ⟨rfl, hrow.owns, hbw, fun j hj hne => hfar.out j hj (fun e => hne (by rw [e]; rfl))⟩

set_option maxHeartbeats 2000000 in
theorem heldFrom_any (v : Value) (n base : Nat) (fs : List (ByteArray × ByteArray)) (w : World) (h1 : w.ownsRow base 68 2 v n (flatF fs)) (k0 : Nat) (hk0 : 1 ≤ k0) (hn : k0 + 2 * n ≤ 9999999) (hm : ∀ j, j < n → nameAt fs j = markOf (k0 + 2 * j) ∧ valAt fs j = markOf (k0 + 2 * j + 1)) :
    Calls Try.prog 70 #[v, .int .i64 (k0 : Int)] w fun e w' => e = .returned (.int .i64 ((k0 : Int) + 2 * (n : Int))) ∧ Below w.heap.size w w' := by
  rcases frow_form h1 with ⟨oa, ca, rfl, _, rfl, rfl⟩ | ⟨g, cap, rfl, hp, r1⟩
  · clear hm
    go_enter Try.func70, Try.ntmps70
    go_wp2
    refine wp_loop_rounds 1 ?_
    rw [rounds_succ]
    go_wp2
    go_ret
    exact ⟨ret_int (by simp), Below.refl _ _⟩
  · clear h1
    have HM : Hid (∀ j, j < n → nameAt fs j = markOf (k0 + 2 * j) ∧ valAt fs j = markOf (k0 + 2 * j + 1)) := hm
    clear hm
    go_enter Try.func70, Try.ntmps70
    go_wp2
    go_loopw [1, 5] (fun q i wr => ∃ k : Nat, k ≤ n ∧ i = .int .i64 (k : Int) ∧ q = .int .i64 ((k0 : Int) + 2 * (k : Int)) ∧ Below w.heap.size w wr) (fun _ i _ => n - (intOf i).toNat)
    case atStart => exact ⟨0, Nat.zero_le _, rfl, by simp, Below.refl _ _⟩
    case round =>
      obtain ⟨k, hk, rfl, rfl, hbw⟩ := hrel
      by_cases hlt : k < n
      · have hlt2 : (k : Int) < (n : Int) := by omega
        have HA : Hid (∀ w0 w1, Below w.heap.size w w0 → Below w0.heap.size w0 w1 → (w1.cell? ⟨g, k * 2, none⟩ = some (.string (markOf (k0 + 2 * k))) ∧ w1.cell? ⟨g, k * 2 + 1, none⟩ = some (.string (markOf (k0 + 2 * k + 1)))) ∧ Below w.heap.size w w1) := fun w0 w1 h h' => by
          have hx := h.trans (h'.mono h.size)
          have a1 := (r1.below hx r1.lt).name k hlt
          have a2 := (r1.below hx r1.lt).val k hlt
          rw [(HM.out k hlt).1] at a1
          rw [(HM.out k hlt).2] at a2
          exact ⟨⟨a1, a2⟩, hx⟩
        obtain ⟨⟨hc1, hc2⟩, _⟩ := HA.out wr wr hbw (Below.refl _ _)
        go_wp2
        go_region_held3 (fun w' => w'.cell? ⟨g, k * 2, none⟩ = some (.string (markOf (k0 + 2 * k)))) (first | assumption | go_keep) (first | (go_at_call 69; refine (markText_int _ (k0 + 2 * k) _ (by omega) (by omega) (by omega)).mono ?_; rintro e w1 ⟨rfl, hb1⟩; obtain ⟨⟨hd1, hd2⟩, hbx⟩ := HA.out _ w1 hbw.drew hb1))
        clear hc1 hc2 hd1
        go_wp2
        go_region_held3 (fun w' => w'.cell? ⟨g, k * 2 + 1, none⟩ = some (.string (markOf (k0 + 2 * k + 1)))) (first | assumption | go_keep) (first | (go_at_call 69; refine (markText_int _ (k0 + 2 * k + 1) _ (by omega) (by omega) (by omega)).mono ?_; rintro e w2 ⟨rfl, hb2⟩; obtain ⟨⟨he1, he2⟩, hby⟩ := HA.out _ w2 hbx.drew hb2))
        go_wp2
        go_roundw
        case rel => exact ⟨k + 1, by omega, by go_num, by first | go_num | (congr 1; omega), hby⟩
        case measure => simp [intOf]; omega
      · obtain rfl : k = n := by omega
        go_wp2
        go_ret
        exact ⟨rfl, hbw⟩

end Go.Proofs.Ythlmnmbhgkmbfaa

namespace Go.Proofs.Ythlmnmbhgkmbfaa
open Go.RowKit
open Go.Lib hiding intOf

def SzReqRm (L : Int) (p : ByteArray) (n : Nat) (fs : List (ByteArray × ByteArray)) (b : ByteArray) (w : World) (e : Ending) (w' : World) : Prop :=
  ∃ r : Int, e = .returned (.int .i64 r) ∧ r ≤ L ∧ (0 ≤ r → r + (n : Int) ≤ L ∧ (p.size ≤ 1048576 ∧ b.size ≤ 1048576) ∧ n ≤ 1048576 ∧ szTo fs n ≤ 1048576) ∧ Below w.heap.size w w'
set_option maxHeartbeats 2000000 in
set_option maxRecDepth 100000 in
theorem szReq_room (L : Int) (hL0 : 0 ≤ L) (hL1 : L ≤ 1048576) (m : Int) (p : ByteArray) (a : Option Addr) (n cap : Nat) (b : ByteArray) (fs : List (ByteArray × ByteArray)) (w : World) (harg : ArgF w w.heap.size a n fs) (hn : n ≤ maxLen) (hsz : WalkF n fs) (hp : p.size ≤ maxLen) (hb : b.size ≤ maxLen) :
    Calls Try.prog 22 #[.agg #[.int .i64 m, .string p, .slice a n cap, .string b], .int .i64 L] w fun e w' => SzReqRm L p n fs b w e w' := by
  unfold maxLen at hp hb
  obtain ⟨r, hr⟩ : ∃ r, r = w.heap.size := ⟨_, rfl⟩
  have HR : Hid (∀ W, Below (w.alloc (.cells #[.int .i64 m, .string p, .slice a n cap, .string b] 41)).heap.size (w.alloc (.cells #[.int .i64 m, .string p, .slice a n cap, .string b] 41)) W → (W.cell? ⟨r, 1, none⟩ = some (.string p) ∧ W.cell? ⟨r, 2, none⟩ = some (.slice a n cap) ∧ W.cell? ⟨r, 3, none⟩ = some (.string b)) ∧ ArgF W w.heap.size a n fs ∧ w.heap.size ≤ W.heap.size ∧ Below w.heap.size w W) := fun W h => by
    have hh := kept_new h
    rw [← hr] at hh
    exact ⟨⟨by simp [World.cell?, hh], by simp [World.cell?, hh], by simp [World.cell?, hh]⟩, harg.below (below_new h), (below_new h).size, below_new h⟩
  obtain ⟨⟨c1, c2, c3⟩, harg0, hs0, hbw0⟩ := HR.out _ (Below.refl _ _)
  have HB0 : Hid (Below w.heap.size w (w.alloc (.cells #[.int .i64 m, .string p, .slice a n cap, .string b] 41))) := hbw0
  have HSZ : Hid (WalkF n fs) := hsz
  have HN : Hid (n ≤ maxLen) := hn
  have HARG : Hid (ArgF (w.alloc (.cells #[.int .i64 m, .string p, .slice a n cap, .string b] 41)) w.heap.size a n fs) := harg0
  clear harg hsz harg0 hbw0 hn
  by_cases d1 : L - (p.size : Int) < 0
  · go_enter Try.func22, Try.ntmps22
    rw [hr] at c1
    go_wp2_with fail
    go_ret
    exact ⟨-1, rfl, by omega, fun h => absurd h (by omega), HB0.out⟩
  · go_enter Try.func22, Try.ntmps22
    rw [hr] at c1 c2
    go_wp2_with fail
    refine (szFieldS_exact (L - (p.size : Int)) (by omega) (by omega) w.heap.size a n cap fs _ HARG.out hs0 HN.out HSZ.out).mono ?_
    rintro e w1 ⟨x, rfl, hx1, hx2, bb1⟩
    clear c1 c2 c3
    obtain ⟨⟨c1, c2, c3⟩, _, _, hbw1⟩ := HR.out w1 bb1
    rw [← hr]
    clear bb1 hr
    by_cases hx0 : x < 0
    · clear hx2
      go_wp2_with fail
      go_ret
      exact ⟨-1, rfl, by omega, fun h => absurd h (by omega), hbw1⟩
    · obtain ⟨h0, h1, h2⟩ := hx2 (by omega)
      by_cases d2 : x - (b.size : Int) < 0
      · go_wp2_with fail
        go_ret
        exact ⟨-1, rfl, by omega, fun h => absurd h (by omega), hbw1⟩
      · go_wp2_with fail
        go_ret
        exact ⟨_, rfl, by omega, fun _ => ⟨by omega, ⟨by omega, by omega⟩, h1, h2⟩, hbw1⟩

set_option maxHeartbeats 1000000 in
theorem markReqFrom_any (m : Int) (p : ByteArray) (v : Value) (b : ByteArray) (n base : Nat) (fs : List (ByteArray × ByteArray)) (w : World) (h1 : w.ownsRow base 68 2 v n (flatF fs)) (hb : base ≤ w.heap.size) (k0 : Nat) (hk0 : 1 ≤ k0) (hn : k0 + 2 * n ≤ 9999999) :
    Calls Try.prog 33 #[.agg #[.int .i64 m, .string p, v, .string b], .int .i64 (k0 : Int)] w fun e w' => e = .returned (.int .i64 ((k0 : Int) + 2 * (n : Int))) ∧ w'.ownsRow base 68 2 v n (flatF (mkG k0 fs n)) ∧ Below base w w' ∧ Far v w w' := by
  obtain ⟨oa, ca, rfl⟩ := slice_of_owns h1
  have h2 := h1.alloc (.cells #[.int .i64 m, .string p, .slice oa n ca, .string b] 26)
  have hb2 : Below base w (w.alloc (.cells #[.int .i64 m, .string p, .slice oa n ca, .string b] 26)) := (Below.refl _ w).alloc hb _
  have hs : base ≤ (w.alloc (.cells #[.int .i64 m, .string p, .slice oa n ca, .string b] 26)).heap.size := by simp; omega
  go_enter Try.func33, Try.ntmps33
  go_wp2_with fail
  refine (markFrom_any _ n base fs _ h2 hs k0 hk0 hn).mono ?_
  rintro e w1 ⟨rfl, ho, bb1, far1⟩
  have hb3 := hb2.trans bb1
  have HO : Hid _ := ho
  have HF : Hid (Far (.slice oa n ca) w w1) := fun j hj hne => (far1 j (by simp; omega) hne).trans (heap_alloc_old w _ hj)
  clear h1 h2 hb2 hs bb1 ho far1
  go_wp2_with fail
  go_ret
  exact ⟨rfl, HO.out, hb3, HF.out⟩

set_option maxHeartbeats 1000000 in
theorem heldReqFrom_any (m : Int) (p : ByteArray) (v : Value) (b : ByteArray) (n base : Nat) (fs : List (ByteArray × ByteArray)) (w : World) (h1 : w.ownsRow base 68 2 v n (flatF fs)) (k0 : Nat) (hk0 : 1 ≤ k0) (hn : k0 + 2 * n ≤ 9999999) (hm : ∀ j, j < n → nameAt fs j = markOf (k0 + 2 * j) ∧ valAt fs j = markOf (k0 + 2 * j + 1)) :
    Calls Try.prog 35 #[.agg #[.int .i64 m, .string p, v, .string b], .int .i64 (k0 : Int)] w fun e w' => e = .returned (.int .i64 ((k0 : Int) + 2 * (n : Int))) ∧ Below w.heap.size w w' := by
  obtain ⟨oa, ca, rfl⟩ := slice_of_owns h1
  have h2 := h1.alloc (.cells #[.int .i64 m, .string p, .slice oa n ca, .string b] 26)
  have hb2 : Below w.heap.size w (w.alloc (.cells #[.int .i64 m, .string p, .slice oa n ca, .string b] 26)) := (Below.refl _ w).alloc (Nat.le_refl _) _
  have hk2 : ¬ ((k0 : Int) + 2 * (n : Int) < 0) := by omega
  have HM : Hid (∀ j, j < n → nameAt fs j = markOf (k0 + 2 * j) ∧ valAt fs j = markOf (k0 + 2 * j + 1)) := hm
  clear hm
  go_enter Try.func35, Try.ntmps35
  go_wp2_with fail
  refine (heldFrom_any _ n base fs _ h2 k0 hk0 hn HM.out).mono ?_
  rintro e w1 ⟨rfl, bb1⟩
  have hb3 := hb2.trans (bb1.mono hb2.size)
  clear h1 h2 hb2 bb1
  go_wp2_with fail
  go_ret
  exact ⟨rfl, hb3⟩

/-- A block's content behind a call. -/
theorem blk_below {W W' : World} {r : Nat} {o : Obj} (h : W.heap[r]? = some o) (b : Below W.heap.size W W') : W'.heap[r]? = some o := by
  rw [b.block r (Array.getElem?_eq_some_iff.1 h).1]; exact h
/-- A block of another type is no row of this one. -/
theorem blk_far {W W' : World} {r : Nat} {cs : Array Value} {T t : TypeId} {base size n : Nat} {v : Value} {xs : List Value} (h : W.heap[r]? = some (.cells cs T)) (far : Far v W W') (ho : W.ownsRow base t size v n xs) (hT : T ≠ t) : W'.heap[r]? = some (.cells cs T) := by
  rw [far r (Array.getElem?_eq_some_iff.1 h).1 (fun e => ?_)]
  · exact h
  · rcases ho.2 with ⟨rfl, _⟩ | ⟨g, cap, cur, rfl, _, h1, _⟩
    · cases e
    · cases e
      rw [h] at h1
      cases h1
      exact hT rfl

end Go.Proofs.Ythlmnmbhgkmbfaa

namespace Go.Proofs.Ythlmnmbhgkmbfaa
open Go.RowKit Go.WideShapes
open Go.Lib hiding intOf

set_option maxRecDepth 100000 in
/-- A request among the arguments: what it holds. -/
theorem openReq {H : Type} {enc : TypeId × Value → H} {W : World} {r : Reach} {b0 : Nat} {v : Value} {d : DataW H} {ps : List MemPlace} (hval : Value.okWide Try.prog W r b0 41 v) (h : DataW.Trod enc Try.prog W 0 (fun _ => true) true 41 v d ps) :
    ∃ (m : Int) (p : ByteArray) (a : Option Addr) (n cap : Nat) (b : ByteArray) (fs : List (ByteArray × ByteArray)), v = .agg #[.int .i64 m, .string p, .slice a n cap, .string b] ∧ ArgF W W.heap.size a n fs ∧ n ≤ maxLen ∧ WalkF n fs ∧ p.size ≤ maxLen ∧ b.size ≤ maxLen := by
  obtain ⟨cs, rfl, hsz⟩ := okWide_struct Try.underlying41 hval
  obtain ⟨fuel, hf⟩ := h
  obtain ⟨ys, q, _, _, _, hyl, hg⟩ := DataW.trod_struct Try.underlying41 hf
  have hc4 : Try.prog.cellsOf 41 = 4 := by kernel_rfl
  have e3 : Try.prog.cellsOf 3 = 1 := by kernel_rfl
  have e9 : Try.prog.cellsOf 9 = 1 := by kernel_rfl
  have eL : Try.prog.cellsOf 39 = 1 := by kernel_rfl
  rw [hc4] at hsz
  obtain ⟨l⟩ := cs
  obtain ⟨c0, c1, c2, c3, rfl⟩ : ∃ c0 c1 c2 c3, l = [c0, c1, c2, c3] := by
    match l, hsz with
    | [c0, c1, c2, c3], _ => exact ⟨c0, c1, c2, c3, rfl⟩
  have g0 := hg 0 _ rfl
  have g1 := hg 1 _ rfl
  have g2 := hg 2 _ rfl
  have g3 := hg 3 _ rfl
  simp [Value.cells, e3, e9, eL] at g0 g1 g2 g3
  have hy4 : ys.length = 4 := hyl
  rw [List.getElem?_eq_getElem (show 0 < ys.length by omega)] at g0
  rw [List.getElem?_eq_getElem (show 1 < ys.length by omega)] at g1
  rw [List.getElem?_eq_getElem (show 2 < ys.length by omega)] at g2
  rw [List.getElem?_eq_getElem (show 3 < ys.length by omega)] at g3
  obtain ⟨m, hm, _, _⟩ := DataW.trod_int Try.underlying3 g0
  obtain ⟨p, hp, _, hps⟩ := DataW.trod_string Try.underlying9 g1
  obtain ⟨b, hb, _, hbs⟩ := DataW.trod_string Try.underlying9 g3
  obtain ⟨a, n, cap, rfl⟩ : ∃ a n cap, c2 = .slice a n cap := by
    rcases DataW.trod_slice Try.underlying39 g2 with ⟨h, _⟩ | ⟨a, n, cap, _, _, _, _, h, _⟩
    · exact ⟨none, 0, 0, by simpa using h⟩
    · exact ⟨_, n, cap, by simpa using h⟩
  obtain ⟨fs, h1, h2, h3⟩ := openFields g2
  simp only [List.cons.injEq, and_true] at hm hb hp
  subst hm hb hp
  exact ⟨m, p, a, n, cap, b, fs, rfl, h1, h2, h3, hps, hbs⟩

end Go.Proofs.Ythlmnmbhgkmbfaa
