/- What the proof of FnExactShelfText leans on: contracts of the program's and the specification's functions, and plain facts (part 2 of 5). -/
import Derived.Test.YtopeegjmpphjnaaGreatDoorFnExactShelfTextA
set_option maxHeartbeats 16000000
set_option maxRecDepth 100000
namespace Go.Proofs.YtopeegjmpphjnaaGreatDoor
open Go.RowKit
open Go.Lib hiding intOf
theorem owns_cellC {w : World} {base : Nat} {t : TypeId} {size g n cap : Nat} {xs : List Value} (h : w.ownsRow base t size (.slice (some ⟨g, 0, none⟩) n cap) n xs) (o : Nat) (u : Value) (ho : xs[o]? = some u) : w.cell? ⟨g, o, none⟩ = some u ∧ w.frozen? ⟨g, o, none⟩ = false := by
 obtain ⟨hl, hv⟩ := h
 rcases hv with ⟨e, _⟩ | ⟨g', cap', cur, e, h1, h2, h3, h4, h5, h6⟩
 · cases e
 ·cases e
  refine ⟨?_, by simp [World.frozen?, h2]⟩
  rw [← h6, List.getElem?_take] at ho
  split at ho
  · simpa [World.cell?, h2] using ho
  · cases ho
theorem own_noR {w : World} {base : Nat} {t : TypeId} {size : Nat} {v : Value} {n : Nat} {xs : List Value} {j : Nat} {cs : Array Value} {T : TypeId} {fr : Nat × Nat} (h : w.ownsRow base t size v n xs) (hT : T ≠ t) (hj : w.heap[j]? = some (.cells cs T fr)) : v.ownBlock ≠ some j := by
 intro e
 rcases h.2 with ⟨rfl, _⟩ | ⟨g, cap, cur, rfl, _, h1, _⟩
 · cases e
 ·cases e
  rw [h1] at hj
  cases hj
  exact hT rfl
theorem own_blockR {w : World} {base : Nat} {t : TypeId} {size : Nat} {v : Value} {n : Nat} {xs : List Value} {j : Nat} (h : w.ownsRow base t size v n xs) (hj : v.ownBlock = some j) : ∃ cur, w.heap[j]? = some (.cells cur t (0, 0)) := by
 rcases h.2 with ⟨rfl, _⟩ | ⟨g, cap, cur, rfl, h0, h1, _⟩
 · cases hj
 ·cases hj
  exact ⟨cur, h1⟩
theorem own_two {w : World} {b1 b2 : Nat} {t1 t2 : TypeId} {s1 s2 : Nat} {v1 v2 : Value} {n1 n2 : Nat} {x1 x2 : List Value} {j : Nat} (h1 : w.ownsRow b1 t1 s1 v1 n1 x1) (h2 : w.ownsRow b2 t2 s2 v2 n2 x2) (hT : t1 ≠ t2) (hj : v1.ownBlock = some j) : v2.ownBlock ≠ some j := by
 obtain ⟨cur, hc⟩ := own_blockR h1 hj
 exact own_noR h2 hT hc
def partV : Option ByteArray → Value
 | none => .nilIface
 | some x => .iface 9 (.string x)
def shownL (ps : List (Option ByteArray)) : Ts := ps.filterMap id
theorem shownL_no {ps : List (Option ByteArray)} {j : Nat} (h : ps[j]? = some none) : shownL (ps.take (j + 1)) = shownL (ps.take j) := by
 unfold shownL
 rw [List.take_add_one, h]
 simp
theorem shownL_yes {ps : List (Option ByteArray)} {j : Nat} {x : ByteArray} (h : ps[j]? = some (some x)) : shownL (ps.take (j + 1)) = shownL (ps.take j) ++ [x] := by
 unfold shownL
 rw [List.take_add_one, h]
 simp
theorem showAssert_yes (x : Tx) (w : World) : (Instr.typeAssert (.iface 9 (.string x)) 20 9 true).run Tryz.prog w = .ok (.tuple #[.string x, .bool true]) w := by kernel_rfl
theorem showAssert_no (w : World) : (Instr.typeAssert .nilIface 20 9 true).run Tryz.prog w = .ok (.tuple #[.string ⟨#[]⟩, .bool false]) w := by kernel_rfl
theorem owns_look {w : World} {B : Nat} {T : TypeId} {V : Value} {n : Nat} {cs : List Value} (h : w.ownsRow B T 1 V n cs) (j : Nat) (hj : j < n) (u : Value) (hu : cs[j]? = some u) : ∃ g cp, V = .slice (some ⟨g, 0, none⟩) n cp ∧ w.cell? ⟨g, j, none⟩ = some u := by
 have h' := h
 rcases h.2 with ⟨_, e⟩ | ⟨g, cap, cur, rfl, h1, h2, h3, h4, _⟩
 · omega
 · exact ⟨g, cap, rfl, (owns_cellC h' j u hu).1⟩
theorem owns_textsS {w : World} {base : Nat} {T : TypeId} {V : Value} {n : Nat} {xs : Ts} (h : w.ownsRow base T 1 V n (xs.map Value.string)) (hl : n = xs.length) (hne : xs ≠ []) :
  ∃ g cp, V = .slice (some ⟨g, 0, none⟩) n cp ∧ (∀ (j : Nat) x, xs[j]? = some x → w.cell? ⟨g, 0 + j, none⟩ = some (.string x)) ∧ g < w.heap.size ∧ n ≤ cp := by
 have h' := h
 rcases h.2 with ⟨_, e⟩ | ⟨g, cap, cur, rfl, h1, h2, h3, h4, _⟩
 · exact absurd (by cases xs with | nil => rfl | cons a l => simp at hl; omega) hne
 ·refine ⟨g, cap, rfl, fun j x hx => ?_, (blt h2), by omega⟩
  rw [Nat.zero_add]
  exact (owns_cellC h' j (.string x) (by rw [List.getElem?_map, hx]; rfl)).1
theorem rowText_any (v : Value) (n B : Nat) (ps : List (Option ByteArray)) (w : World) (hl : ps.length = n) (h : w.ownsRow B 20 1 v n (ps.map partV)) (hn : n ≤ 2000000) (hz : ∀ x ∈ shownL ps, x.size ≤ 1048576) :
  Calls Tryz.prog 29 #[v] w fun e w' => TextIs (joinS (shownL ps)) w e w' := by
 obtain ⟨i0, hi, hz0, hz1, hz2⟩ := info_parts info9
 obtain ⟨oa, cp, rfl⟩ := slice_of_owns h
 have HN := hid hl
 have HR : Hid (∀ W, Below w.heap.size w W → W.ownsRow B 20 1 (.slice oa n cp) n (ps.map partV)) := fun W hb => owns_below h hb (fun g hg => owns_lt h hg)
 have HZ := hid hz
 clear hl h hz
 go_enter Tryz.func29, Tryz.ntmps29
 go_wp2_with fail
 go_loopw [3, 10] (fun T i wr => ∃ (j m : Nat) (o : Oa) (p : Nat), j ≤ n ∧ m ≤ j ∧ i = .int .i64 (j : Int) ∧ T = .slice o m p ∧ Hid (Below w.heap.size w wr) ∧ Hid (m = (shownL (ps.take j)).length) ∧ Hid (wr.ownsRow w.heap.size 9 1 (.slice o m p) m ((shownL (ps.take j)).map Value.string))) (fun _ i _ => n - (intOf i).toNat)
 case atStart => exact ⟨0, 0, none, 0, Nat.zero_le _, Nat.zero_le _, rfl, rfl, Below.refl _ _, rfl, World.ownsRow_nil _ _ _ _⟩
 case round =>
  obtain ⟨j, m, o, p, hj, hm, rfl, rfl, HW, HM, HO⟩ := hrel
  by_cases hlt : (j : Int) < (n : Int)
  rotate_left
  ·obtain rfl : j = n := by omega
   have HT : Hid (shownL (ps.take j) = shownL ps) := by show _ = _; rw [List.take_of_length_le (by rw [HN.out]; exact Nat.le_refl _)]
   rw [HT.out] at HO HM
   obtain ⟨xs, hxs⟩ := exq (shownL ps)
   rw [← hxs] at HO HM HZ
   have HX := hid hxs
   clear hxs HT
   have HJ : Hid ((Lib.join (xs.map (fun x => x.data.toList)) [32]).length ≤ 140737488355328) := by
    show _ ≤ _
    have h1 := joinS_size xs 1048576 HZ.out
    unfold joinS at h1
    have h2 : (Lib.join (xs.map (fun x => x.data.toList)) [32]).length ≤ (1048576 + 1) * xs.length := by
     have e : (⟨(Lib.join (xs.map (fun x => x.data.toList)) [32]).toArray⟩ : Tx).size = (Lib.join (xs.map (fun x => x.data.toList)) [32]).length := by show Array.size _ = _; rw [List.size_toArray]
     omega
    have := HM.out
    omega
   by_cases hem : xs = []
   ·subst hem
    have hm0 : m = 0 := HM.out
    subst hm0
    clear hm
    go_wp2_with fail
    refine (Tryz.strings_Join_none _ _ _ _).mono ?_
    rintro e w8 ⟨rfl, rfl⟩
    go_wp2_with fail
    go_ret
    exact TextIs.of (by rw [← HX.out]; rfl) HW.out
   obtain ⟨g, cq, hV, hcell, hg, hcap⟩ := owns_textsS HO.out HM.out hem
   injection hV with e1 e2 e3
   subst e1 e3
   have hm2 := HM.out
   subst hm2
   go_wp2_with fail
   refine (Tryz.strings_Join g 0 p xs ⟨#[32]⟩ _ hcell hg (by omega) hcap HJ.out).mono ?_
   rintro e w8 ⟨rfl, hb8⟩
   have HL : Hid (Below w.heap.size w w8) := HW.out.trans (hb8.mono HW.out.size)
   clear hb8 hcell
   go_wp2_with fail
   go_ret
   exact TextIs.of (by rw [← HX.out]; rfl) HL.out
  have hjl : j < ps.length := by rw [HN.out]; omega
  obtain ⟨y, hy⟩ : ∃ y, ps[j]? = some y := ⟨_, List.getElem?_eq_getElem hjl⟩
  have HY := hid hy
  obtain ⟨g, cq, hV, hc⟩ := owns_look (HR.out wr HW.out) j (by omega) (partV y) (by rw [List.getElem?_map, hy]; rfl)
  injection hV with e1 e2 e3
  subst e1 e3
  clear hy hjl e2
  cases y with
  | none =>
   have ha := fun w => showAssert_no w
   have hc2 : wr.cell? ⟨g, j, none⟩ = some .nilIface := hc
   clear hc
   go_wp2_with fail
   go_roundw
   case rel => exact ⟨j + 1, m, o, p, by omega, by omega, by go_num, rfl, HW, by show _ = _; rw [shownL_no HY.out]; exact HM.out, by show World.ownsRow _ _ _ _ _ _ _; rw [shownL_no HY.out]; exact HO.out⟩
   case measure => simp [intOf]; omega
  | some x =>
   have ha := fun w => showAssert_yes x w
   have hc2 : wr.cell? ⟨g, j, none⟩ = some (.iface 9 (.string x)) := hc
   have hown := HO.out
   have h63 : m + 1 ≤ maxLen := by unfold maxLen; omega
   have h47 : (m + 1) * 16 ≤ 140737488355328 := by omega
   have HBS : ∀ o, w.heap.size ≤ (wr.alloc o).heap.size := fun o => by have := HW.out.size; simp; omega
   clear hc
   go_wp2_with (at_builtin; refine wpList_append_own _ rfl _ _ 22 rfl w.heap.size 9 i0 (.string ⟨#[]⟩) 1 16 Tryz.underlying22 hi hz0 hz1 hz2 rfl (by decide) _ _ _ rfl (hown.alloc _) ⟨wr.heap.size, 0, none⟩ 1 1 [.string x] rfl rfl (cell_one_new _ _ _) (one_text _) h63 h47 (HBS _) ?_)
   intro v1 w2 hown2 hgrow _
   obtain ⟨o2, p2, rfl⟩ := slice_of_owns hown2
   have HB2 : Hid (Below w.heap.size w w2) := (HW.out.alloc HW.out.size _).grown hgrow (HBS _) (fun g hg => owns_ge hown hg)
   have HO2 : Hid (w2.ownsRow w.heap.size 9 1 (.slice o2 (m + 1) p2) (m + 1) ((shownL (ps.take (j + 1))).map Value.string)) := by
    show World.ownsRow _ _ _ _ _ _ _
    rw [shownL_yes HY.out, List.map_append]
    exact hown2
   have HM2 : Hid (m + 1 = (shownL (ps.take (j + 1))).length) := by
    show _ = _
    rw [shownL_yes HY.out, List.length_append, List.length_singleton, ← HM.out]
   clear hown hown2 hgrow HBS h63 h47 hc2 HM HO
   go_wp2_with fail
   go_roundw
   case rel => exact ⟨j + 1, m + 1, o2, p2, by omega, by omega, by go_num, rfl, HB2, HM2, HO2⟩
   case measure => simp [intOf]; omega
structure Rw where
 T : TypeId
 z : Nat
 v : Value
 n : Nat
 c : List Value
def Rw.own (r : Rw) (w : World) (base : Nat) : Prop := w.ownsRow base r.T r.z r.v r.n r.c
def Rw.ne (a b : Rw) : Prop := ∀ g, a.v.ownBlock = some g → b.v.ownBlock ≠ some g
structure RowsO (w : World) (base : Nat) (rs : List Rw) : Prop where
 own : ∀ r ∈ rs, r.own w base
 apart : rs.Pairwise Rw.ne
theorem RowsO.nil (w : World) (base : Nat) : RowsO w base [] := ⟨by simp, List.Pairwise.nil⟩
theorem RowsO.one {w : World} {base : Nat} {r : Rw} (h : r.own w base) : RowsO w base [r] := ⟨fun x hx => by rw [List.mem_singleton.1 hx]; exact h, List.pairwise_singleton _ _⟩
theorem RowsO.ge {w : World} {base : Nat} {rs : List Rw} (h : RowsO w base rs) {r : Rw} (hr : r ∈ rs) {g : Nat} (hg : r.v.ownBlock = some g) : base ≤ g := owns_ge (h.own r hr) hg
theorem RowsO.lt {w : World} {base : Nat} {rs : List Rw} (h : RowsO w base rs) {r : Rw} (hr : r ∈ rs) {g : Nat} (hg : r.v.ownBlock = some g) : g < w.heap.size := owns_lt (h.own r hr) hg
theorem RowsO.same {w w' : World} {base : Nat} {rs : List Rw} (h : RowsO w base rs) (hs : ∀ r ∈ rs, ∀ g, r.v.ownBlock = some g → w'.heap[g]? = w.heap[g]?) : RowsO w' base rs :=
 ⟨fun r hr => owns_same (h.own r hr) (hs r hr), h.apart⟩
theorem RowsO.below {w w' : World} {base : Nat} {rs : List Rw} (h : RowsO w base rs) (hb : Below w.heap.size w w') : RowsO w' base rs := h.same (fun _ hr g hg => hb.block g (h.lt hr hg))
theorem RowsO.wide {w : World} {B base : Nat} {rs : List Rw} (h : RowsO w base rs) (hB : B ≤ base) : RowsO w B rs := ⟨fun r hr => owns_wide (h.own r hr) hB, h.apart⟩
theorem RowsO.sub {w : World} {base : Nat} {rs rs' : List Rw} (h : RowsO w base rs) (hs : List.Sublist rs' rs) : RowsO w base rs' := ⟨fun r hr => h.own r (hs.subset hr), h.apart.sublist hs⟩
theorem RowsO.more {w w' : World} {base B : Nat} {rs rs' : List Rw} (h : RowsO w base rs) (hb : Below w.heap.size w w') (h' : RowsO w' B rs') (hB : w.heap.size ≤ B) (hB2 : base ≤ B) : RowsO w' base (rs ++ rs') := by
 have h2 := h.below hb
 refine ⟨fun r hr => ?_, List.pairwise_append.2 ⟨h2.apart, h'.apart, fun a ha b hb g hg1 hg2 => ?_⟩⟩
 ·rcases List.mem_append.1 hr with hr | hr
  · exact h2.own r hr
  · exact owns_wide (h'.own r hr) hB2
 ·have e1 := h.lt ha hg1
  have e2 := h'.ge hb hg2
  omega
theorem items_len {α : Type} (enc : α → List Value) (z : Nat) (hz : ∀ x, (enc x).length = z) : ∀ l : List α, (l.flatMap enc).length = l.length * z
 | [] => by simp
 | x :: l => by rw [List.flatMap_cons, List.length_append, hz, items_len enc z hz l, List.length_cons, Nat.succ_mul]; omega
theorem items_cut {α : Type} (enc : α → List Value) (l : List α) (i : Nat) (hi : i < l.length) : l.flatMap enc = (l.take i).flatMap enc ++ (enc (l[i]'hi) ++ (l.drop (i + 1)).flatMap enc) := by
 have e : l = l.take i ++ (l[i]'hi) :: l.drop (i + 1) := by rw [List.getElem_cons_drop, List.take_append_drop]
 conv => lhs; rw [e]
 rw [List.flatMap_append, List.flatMap_cons]
theorem items_at {α : Type} (enc : α → List Value) (z : Nat) (hz : ∀ x, (enc x).length = z) (l : List α) (i j : Nat) (hi : i < l.length) (hj : j < z) : (l.flatMap enc)[i * z + j]? = (enc (l[i]'hi))[j]? := by
 rw [items_cut enc l i hi]
 have e : ((l.take i).flatMap enc).length = i * z := by rw [items_len enc z hz, List.length_take, Nat.min_eq_left (Nat.le_of_lt hi)]
 rw [List.getElem?_append_right (by omega), e, Nat.add_sub_cancel_left, List.getElem?_append_left (by rw [hz]; exact hj)]
def setW (w : World) (g : Nat) : Nat → List Value → World
 | _, [] => w
 | o, v :: r => setW (w.setCell ⟨g, o, none⟩ v) g (o + 1) r
def setA (cur : Array Value) : Nat → List Value → Array Value
 | _, [] => cur
 | o, v :: r => setA (cur.setIfInBounds o v) (o + 1) r
theorem setA_size : ∀ (l : List Value) (cur : Array Value) (o : Nat), (setA cur o l).size = cur.size
 | [], _, _ => rfl
 | v :: r, cur, o => by rw [setA, setA_size r]; simp
theorem setA_out : ∀ (l : List Value) (cur : Array Value) (o m : Nat), (m < o ∨ o + l.length ≤ m) → (setA cur o l)[m]? = cur[m]?
 | [], _, _, _, _ => rfl
 | v :: r, cur, o, m, h => by
  rw [List.length_cons] at h
  rw [setA, setA_out r _ (o + 1) m (by omega), Array.getElem?_setIfInBounds_ne (by omega)]
theorem setA_in : ∀ (l : List Value) (cur : Array Value) (o j : Nat), j < l.length → o + l.length ≤ cur.size → (setA cur o l)[o + j]? = l[j]?
 | [], _, _, j, h, _ => absurd h (by simp)
 | v :: r, cur, o, 0, _, hs => by
  rw [List.length_cons] at hs
  rw [setA, setA_out r _ (o + 1) (o + 0) (by omega), Nat.add_zero, Array.getElem?_setIfInBounds_self_of_lt (by omega)]
  rfl
 | v :: r, cur, o, j + 1, h, hs => by
  rw [List.length_cons] at h hs
  rw [setA, show o + (j + 1) = (o + 1) + j by omega, setA_in r _ (o + 1) j (by omega) (by simp; omega)]
  rfl
theorem setW_heap (g : Nat) (T : TypeId) : ∀ (l : List Value) (w : World) (o : Nat) (cur : Array Value), w.heap[g]? = some (.cells cur T (0, 0)) → (setW w g o l).heap[g]? = some (.cells (setA cur o l) T (0, 0))
 | [], _, _, _, h => h
 | v :: r, w, o, cur, h => setW_heap g T r _ (o + 1) _ (heap_set w g o cur T (0, 0) v h)
theorem setW_other (g g' : Nat) (hne : g' ≠ g) : ∀ (l : List Value) (w : World) (o : Nat), (setW w g o l).heap[g']? = w.heap[g']?
 | [], _, _ => rfl
 | v :: r, w, o => by rw [setW, setW_other g g' hne r, heap_setCell_other _ _ _ _ hne]
theorem setW_below {base g : Nat} (hg : base ≤ g) : ∀ (l : List Value) (w w' : World) (o : Nat), Below base w w' → Below base w (setW w' g o l)
 | [], _, _, _, h => h
 | v :: r, w, _, o, h => setW_below hg r w _ (o + 1) (h.setCell (p := ⟨g, o, none⟩) hg v)
def PartO {α : Type} (enc : α → List Value) (z : Nat) (T : TypeId) (w : World) (g n : Nat) (l : List α) : Prop :=
 ∃ cur, w.heap[g]? = some (.cells cur T (0, 0)) ∧ cur.size = n * z ∧ ∀ i (hi : i < l.length) (j : Nat), j < z → cur[i * z + j]? = (enc (l[i]'hi))[j]?
theorem PartO.lt {α : Type} {enc : α → List Value} {z : Nat} {T : TypeId} {w : World} {g n : Nat} {l : List α} (h : PartO enc z T w g n l) : g < w.heap.size := by
 obtain ⟨cur, h1, _⟩ := h
 exact (blt h1)
theorem PartO.below {α : Type} {enc : α → List Value} {z : Nat} {T : TypeId} {w w' : World} {g n : Nat} {l : List α} (h : PartO enc z T w g n l) (hb : Below w.heap.size w w') : PartO enc z T w' g n l := by
 have hl := h.lt
 obtain ⟨cur, h1, h2⟩ := h
 exact ⟨cur, (hb.block g hl).trans h1, h2⟩
theorem PartO.cell {α : Type} {enc : α → List Value} {z : Nat} {T : TypeId} {w : World} {g n : Nat} {l : List α} (h : PartO enc z T w g n l) (j : Nat) (hj : j < n * z) : ∃ u, w.cell? ⟨g, j, none⟩ = some u := by
 obtain ⟨cur, h1, h2, _⟩ := h
 refine ⟨cur[j]'(by omega), ?_⟩
 simp only [World.cell?, h1]
 simp [show j < cur.size by omega]
theorem PartO.frozen {α : Type} {enc : α → List Value} {z : Nat} {T : TypeId} {w : World} {g n : Nat} {l : List α} (h : PartO enc z T w g n l) (j : Nat) : w.frozen? ⟨g, j, none⟩ = false := by
 obtain ⟨cur, h1, _⟩ := h
 simp [World.frozen?, h1]
theorem PartO.put {α : Type} {enc : α → List Value} {z : Nat} {T : TypeId} {w : World} {g n : Nat} {l : List α} (hz : ∀ x, (enc x).length = z) (h : PartO enc z T w g n l) (x : α) (hk : l.length < n) : PartO enc z T (setW w g (l.length * z) (enc x)) g n (l ++ [x]) := by
 obtain ⟨cur, h1, h2, h3⟩ := h
 have hm : (l.length + 1) * z ≤ n * z := Nat.mul_le_mul_right z hk
 rw [Nat.add_mul, Nat.one_mul] at hm
 refine ⟨_, setW_heap g T _ w _ cur h1, by rw [setA_size]; exact h2, fun i hi j hj => ?_⟩
 rw [List.length_append, List.length_singleton] at hi
 by_cases e : i = l.length
 ·subst e
  rw [setA_in _ _ _ _ (by rw [hz]; exact hj) (by rw [hz, h2]; exact hm)]
  simp
 have hi2 : i < l.length := by omega
 have hm2 : (i + 1) * z ≤ l.length * z := Nat.mul_le_mul_right z hi2
 rw [Nat.add_mul, Nat.one_mul] at hm2
 rw [setA_out _ _ _ _ (.inl (by omega)), h3 i hi2 j hj, List.getElem_append_left hi2]
theorem PartO.owns {α : Type} {enc : α → List Value} {z : Nat} {T : TypeId} {w : World} {g n : Nat} {l : List α} (hz : ∀ x, (enc x).length = z) (hz0 : 0 < z) (h : PartO enc z T w g n l) (hl : l.length = n) (hm : n ≤ maxLen) {base : Nat} (hb : base ≤ g) : w.ownsRow base T z (.slice (some ⟨g, 0, none⟩) n n) n (l.flatMap enc) := by
 obtain ⟨cur, hg, hs, hc⟩ := h
 have hln : (l.flatMap enc).length = n * z := by rw [items_len enc z hz, hl]
 refine ⟨hln, .inr ⟨g, n, cur, rfl, hb, hg, Nat.le_refl _, hm, hs, ?_⟩⟩
 apply List.ext_getElem?
 intro j
 rw [List.getElem?_take]
 by_cases hj : j < n * z
 rotate_left
 · rw [if_neg hj, List.getElem?_eq_none (by omega)]
 rw [if_pos hj]
 have hd : j / z < l.length := by rw [hl]; exact Nat.div_lt_of_lt_mul (by rw [Nat.mul_comm]; exact hj)
 have hmod : j % z < z := Nat.mod_lt _ hz0
 have e : j / z * z + j % z = j := by rw [Nat.mul_comm]; exact Nat.div_add_mod j z
 have h1 := items_at enc z hz l (j / z) (j % z) hd hmod
 have h2 := hc (j / z) hd (j % z) hmod
 rw [e] at h1 h2
 rw [h1, ← h2]
 simp
end Go.Proofs.YtopeegjmpphjnaaGreatDoor
namespace Go.Proofs.YtopeegjmpphjnaaGreatDoor
open Go.RowKit
def partL (cur : List UInt8) : Ts := if trimL cur = [] then [] else [⟨(trimL cur).toArray⟩]
def spA (cur : List UInt8) : List UInt8 → Ts
 | [] => partL cur
 | c :: r => if c = 44 then partL cur ++ spA [] r else spA (cur ++ [c]) r
theorem add_part (l : Ts) (s : Tx) : addPart l (trimOf s) = l ++ partL (bs s) := by
 have hs : (trimOf s).size = (trimL (bs s)).length := by
  show (trimL s.data.toList).toArray.size = _
  simp [bs]
 unfold addPart partL
 rw [hs]
 by_cases h : trimL (bs s) = []
 · rw [if_pos h, if_pos (by rw [h]; rfl), List.append_nil]
 rw [if_neg h, if_neg (fun e => h (List.length_eq_zero_iff.1 e))]
 rfl
theorem ext_part (s : Tx) (a k : Nat) : bs (s.extract a k) = ((bs s).take k).drop a := by rw [bs_extract]
theorem split_from (s : Tx) : ∀ k, k ≤ s.size → (splitTo s k).1 ++ spA (((bs s).take k).drop (splitTo s k).2) ((bs s).drop k) = spA [] (bs s) := by
 intro k
 induction k with
 | zero => intro _; simp [splitTo]
 | succ k ih =>
  intro hk
  have hlt : k < s.size := by omega
  have h := ih (by omega)
  have hle := (splitTo_le s k).1
  have hd : (bs s).drop k = s[k]'hlt :: (bs s).drop (k + 1) := by
   have hl : k < (bs s).length := by rw [bs_len]; exact hlt
   rw [List.drop_eq_getElem_cons hl]
   congr 1
  have ht : (bs s).take (k + 1) = (bs s).take k ++ [s[k]'hlt] := by
   have hl : k < (bs s).length := by rw [bs_len]; exact hlt
   rw [List.take_succ_eq_append_getElem hl]
   congr 1
  rw [hd] at h
  by_cases hc : (s[k]'hlt).toNat = 44
  ·have hc8 : s[k]'hlt = 44 := UInt8.toNat_inj.1 hc
   rw [splitTo_comma s k hlt hc]
   dsimp only
   rw [add_part, ext_part]
   rw [spA, if_pos hc8] at h
   have hn : ((bs s).take (k + 1)).drop (k + 1) = [] := List.drop_of_length_le (by rw [List.length_take]; omega)
   rw [hn, List.append_assoc]
   exact h
  have hc8 : s[k]'hlt ≠ 44 := fun e => hc (by rw [e]; rfl)
  rw [splitTo_other s k hlt hc]
  rw [spA, if_neg hc8] at h
  have hn : ((bs s).take (k + 1)).drop (splitTo s k).2 = ((bs s).take k).drop (splitTo s k).2 ++ [s[k]'hlt] := by
   rw [ht, List.drop_append_of_le_length (by rw [List.length_take, bs_len]; omega)]
  rw [hn]
  exact h
theorem splitL_sp (s : Tx) : splitL s = spA [] (bs s) := by
 have h := split_from s s.size (Nat.le_refl _)
 have hd : (bs s).drop s.size = [] := List.drop_of_length_le (by rw [bs_len]; exact Nat.le_refl _)
 rw [hd] at h
 unfold splitL
 rw [add_part, ext_part]
 exact h
theorem dropB_len : ∀ l : List UInt8, (dropB l).length ≤ l.length := by
 intro l
 induction l with
 | nil => simp [dropB]
 | cons c l ih =>
  unfold dropB
  split
  · simp; omega
  · exact Nat.le_refl _
theorem trimL_len (l : List UInt8) : (trimL l).length ≤ l.length := by
 have h1 := dropB_len l
 have h2 := dropB_len (dropB l).reverse
 unfold trimL
 rw [List.length_reverse]
 rw [List.length_reverse] at h2
 omega
theorem partL_le (cur : List UInt8) : (partL cur).length ≤ 1 ∧ ∀ x ∈ partL cur, x.size ≤ cur.length := by
 unfold partL
 split
 · exact ⟨by simp, fun x hx => nomatch hx⟩
 ·refine ⟨by simp, fun x hx => ?_⟩
  obtain rfl := List.mem_singleton.1 hx
  exact trimL_len cur
theorem spA_le : ∀ (l cur : List UInt8), (spA cur l).length ≤ l.length + 1 ∧ ∀ x ∈ spA cur l, x.size ≤ cur.length + l.length := by
 intro l
 induction l with
 | nil => intro cur; exact ⟨(partL_le cur).1, fun x hx => (partL_le cur).2 x hx⟩
 | cons c l ih =>
  intro cur
  unfold spA
  split
  ·have h1 := partL_le cur
   have h2 := ih []
   refine ⟨by rw [List.length_append, List.length_cons]; omega, fun x hx => ?_⟩
   rw [List.mem_append] at hx
   rw [List.length_cons]
   rcases hx with hx | hx
   · have := h1.2 x hx; omega
   · have := h2.2 x hx; rw [List.length_nil] at this; omega
  ·have h2 := ih (cur ++ [c])
   refine ⟨by rw [List.length_cons]; omega, fun x hx => ?_⟩
   have := h2.2 x hx
   rw [List.length_append, List.length_singleton] at this
   rw [List.length_cons]
   omega
theorem splitL_le (s : Tx) : (splitL s).length ≤ s.size + 1 ∧ ∀ x ∈ splitL s, x.size ≤ s.size := by
 have h := spA_le (bs s) []
 rw [← splitL_sp, bs_len, List.length_nil, Nat.zero_add] at h
 exact h
end Go.Proofs.YtopeegjmpphjnaaGreatDoor
namespace Go.Proofs.YtopeegjmpphjnaaGreatDoor
open Go.RowKit
open Go.Lib hiding intOf
def varyName : ByteArray := ⟨#[118, 97, 114, 121]⟩
def varyP (fs : Fs) : Ts := (splitL (getV fs varyName)).map lowerOf
def TextsA (w : World) (oa : Oa) (n : Nat) (xs : Ts) : Prop :=
 xs.length = n ∧ ∀ i, i < n → ∃ g, oa = some ⟨g, 0, none⟩ ∧ g < w.heap.size ∧ w.cell? ⟨g, i, none⟩ = some (.string (textAt xs i))
theorem TextsA.below {w w' : World} {oa : Oa} {n : Nat} {xs : Ts} (h : TextsA w oa n xs) (hb : Below w.heap.size w w') : TextsA w' oa n xs :=
 ⟨h.1, fun i hi => by
  obtain ⟨g, h1, h2, h3⟩ := h.2 i hi
  exact ⟨g, h1, Nat.lt_of_lt_of_le h2 hb.size, by rw [hb.cell (p := ⟨g, i, none⟩) h2]; exact h3⟩⟩
theorem texts_own {w : World} {base n : Nat} {v : Value} {xs : Ts} (h : w.ownsRow base 9 1 v n (xs.map Value.string)) : ∃ oa cap, v = .slice oa n cap ∧ TextsA w oa n xs := by
 have hl : xs.length = n := by have := h.1; simpa using this
 rcases row_form h with ⟨oa, ca, rfl, rfl, rfl⟩ | ⟨g, cap, rfl, hp, r⟩
 · exact ⟨oa, ca, rfl, rfl, fun i hi => absurd hi (by omega)⟩
 · exact ⟨_, _, rfl, hl, fun i hi => ⟨g, rfl, r.lt, r.cell i hi⟩⟩
def loTo (xs : Ts) (j : Nat) : Ts := (xs.take j).map lowerOf ++ xs.drop j
theorem loTo_zero (xs : Ts) : loTo xs 0 = xs := by simp [loTo]
theorem loTo_all (xs : Ts) (j : Nat) (h : xs.length ≤ j) : loTo xs j = xs.map lowerOf := by
 simp [loTo, List.take_of_length_le h, List.drop_of_length_le h]
theorem loTo_at (xs : Ts) (j : Nat) : textAt (loTo xs j) j = textAt xs j := by
 unfold textAt loTo
 rw [List.getD_eq_getElem?_getD, List.getD_eq_getElem?_getD]
 by_cases h : j < xs.length
 rotate_left
 · rw [List.getElem?_eq_none (by simp; omega), List.getElem?_eq_none (by omega)]
 rw [List.getElem?_append_right (by simp; omega), List.length_map, List.length_take, Nat.min_eq_left (by omega), Nat.sub_self, List.getElem?_drop, Nat.add_zero]
theorem loTo_step (xs : Ts) (j : Nat) (h : j < xs.length) : (loTo xs j).set j (lowerOf (textAt xs j)) = loTo xs (j + 1) := by
 have e : xs.drop j = textAt xs j :: xs.drop (j + 1) := by
  rw [List.drop_eq_getElem_cons h]
  congr 1
  unfold textAt
  rw [List.getD_eq_getElem?_getD, List.getElem?_eq_getElem h]
  rfl
 have e2 : xs.take (j + 1) = xs.take j ++ [textAt xs j] := by
  rw [List.take_add_one, List.getElem?_eq_getElem h]
  unfold textAt
  rw [List.getD_eq_getElem?_getD, List.getElem?_eq_getElem h]
  rfl
 unfold loTo
 rw [List.set_append_right _ _ (by simp; omega), List.length_map, List.length_take, Nat.min_eq_left (by omega), Nat.sub_self, e, List.set_cons_zero, e2, List.map_append]
 simp
theorem specVaryOf_any (v : Value) (n base : Nat) (fs : Fs) (w : World) (hv : FieldsV w base v n fs) (hn : n ≤ 1073741824) (hsz : (getV fs varyName).size ≤ 1048576) :
  Calls Tryz.prog 93 #[v] w fun e w' => RowIs w.heap.size (varyP fs) w e w' := by
 obtain ⟨s, hs⟩ := exq (getV fs varyName)
 have HS : Hid (getV fs varyName = s) := hs.symm
 have HE : Hid (varyP fs = (splitL s).map lowerOf) := by show _ = _; unfold varyP; rw [HS.out]
 rw [← hs] at hsz
 obtain ⟨hl1, hl2⟩ := splitL_le s
 clear hs
 go_enter Tryz.func93, Tryz.ntmps93
 go_wp2_with fail
 refine (specGet_any v n base fs varyName _ hv hn).mono ?_
 rintro e w1 ⟨rfl, rfl⟩
 rw [HS.out]
 clear hv
 go_wp2_with fail
 refine (specSplit_any s _ hsz).mono ?_
 rintro e w2 ⟨V, rfl, O, b2⟩
 obtain ⟨xs, hxs⟩ := exq (splitL s)
 rw [← hxs] at hl1 hl2 O HE
 obtain ⟨m, hm⟩ := exq xs.length
 rw [← hm] at hl1 O
 have HM : Hid (xs.length = m) := hm.symm
 have H2 := hid hl2
 clear hxs hm hl2
 rcases row_form O with ⟨oa, ca, rfl, h0, h1⟩ | ⟨g, cap, rfl, hp, r1⟩
 ·subst h0 h1
  go_wp2_with fail
  refine wp_loop_rounds 1 ?_
  rw [rounds_succ]
  go_wp2_with fail
  go_ret
  exact RowIs.of (by rw [HE.out]; rfl) rfl O b2
 ·clear O
  have HB2 : Hid (Below w1.heap.size w1 w2) := b2
  have HR1 : Hid (TextRow w1.heap.size w2 g m cap (loTo xs 0)) := by show TextRow _ _ _ _ _ _; rw [loTo_zero]; exact r1
  clear b2 r1
  go_wp2_with fail
  go_loopw [6] (fun i wr => ∃ j : Nat, j ≤ m ∧ i = .int .i64 (j : Int) ∧ Hid (Below w1.heap.size w1 wr) ∧ Hid (TextRow w1.heap.size wr g m cap (loTo xs j))) (fun i _ => m - (intOf i).toNat)
  case atStart => exact ⟨0, Nat.zero_le _, rfl, HB2, HR1⟩
  case round =>
   obtain ⟨j, hj, rfl, HB, HR⟩ := hrel
   by_cases hlt : j < m
   rotate_left
   ·obtain rfl : j = m := by omega
    go_wp2_with fail
    go_ret
    exact RowIs.of (by rw [HE.out, loTo_all xs j (by rw [HM.out]; exact Nat.le_refl _)]) (by rw [loTo_all xs j (by rw [HM.out]; exact Nat.le_refl _), List.length_map, HM.out]) HR.out.owns HB.out
   have hlt2 : (j : Int) < (m : Int) := by omega
   obtain ⟨x, hx⟩ := exq (textAt xs j)
   have hc := HR.out.cell j hlt
   rw [loTo_at, ← hx] at hc
   have HST : Hid ((loTo xs j).set j (lowerOf x) = loTo xs (j + 1)) := by show _ = _; rw [hx]; exact loTo_step xs j (by rw [HM.out]; exact hlt)
   have hxz : x.size ≤ 1048576 := by
    refine Nat.le_trans (H2.out x ?_) hsz
    rw [hx]
    unfold textAt
    rw [List.getD_eq_getElem?_getD, List.getElem?_eq_getElem (by rw [HM.out]; exact hlt)]
    exact List.getElem_mem _
   clear hx
   go_wp2_with fail
   refine (specLower_any x _ hxz).mono ?_
   rintro e w3 ⟨rfl, hb3⟩
   have hrow := HR.out.below hb3 HR.out.lt
   have hc3 := hrow.cell j hlt
   have hf3 := hrow.frozen j
   have HB3 : Hid (Below w1.heap.size w1 (w3.setCell ⟨g, j, none⟩ (.string (lowerOf x)))) := (HB.out.trans (hb3.mono HB.out.size)).setCell HR.out.base _
   have HR3 : Hid (TextRow w1.heap.size (w3.setCell ⟨g, j, none⟩ (.string (lowerOf x))) g m cap (loTo xs (j + 1))) := by
    show TextRow _ _ _ _ _ _
    rw [← HST.out]
    exact hrow.set j hlt _
   clear hb3 hrow HB HR HST hc
   go_wp2_with fail
   go_roundw
   case rel => exact ⟨j + 1, by omega, by go_num, HB3, HR3⟩
   case measure => simp [intOf]; omega
structure ArgT (w : World) (B : Nat) (a : Oa) (n : Nat) (xs : Ts) : Prop where
 len : xs.length = n
 get : ∀ i, i < n → ∃ b off, a = some ⟨b, off, none⟩ ∧ b < B ∧ w.cell? ⟨b, off + i, none⟩ = some (.string (textAt xs i))
theorem ArgT.below {w w' : World} {B : Nat} {a : Oa} {n : Nat} {xs : Ts} (h : ArgT w B a n xs) (hb : Below B w w') : ArgT w' B a n xs :=
 ⟨h.len, fun i hi => by
  obtain ⟨b, off, h1, h2, h3⟩ := h.get i hi
  exact ⟨b, off, h1, h2, by rw [hb.cell (p := ⟨b, off + i, none⟩) h2]; exact h3⟩⟩
theorem openTexts {H : Type} {enc : TypeId × Value → H} {W : World} {fuel : Nat} {a : Oa} {n cap : Nat} {x : DataW H × List MemPlace} (h : DataW.trod enc Tryz.prog W 0 (fun _ => true) true fuel 22 [.slice a n cap] = some x) :
  ∃ xs, ArgT W W.heap.size a n xs ∧ n ≤ maxLen ∧ ∀ i, i < n → (textAt xs i).size ≤ maxLen := by
 rcases Go.ChangeShapes.open_strings Tryz.underlying22 Tryz.underlying9 (by kernel_rfl) h with ⟨hcs, _⟩ | ⟨ad, len, c, ss, hcs, _, hl, hm, hlen, _, hcell, hsz⟩
 ·simp at hcs
  obtain ⟨rfl, rfl, rfl⟩ := hcs
  exact ⟨[], ⟨rfl, fun i hi => absurd hi (by omega)⟩, Nat.zero_le _, fun i hi => absurd hi (by omega)⟩
 ·simp at hcs
  obtain ⟨rfl, rfl, rfl⟩ := hcs
  have hlen2 : ss.length = cap := by simpa using hlen
  have htk : ∀ i, i < n → textAt (ss.take n) i = ss.getD i ByteArray.empty := fun i hi => by
   unfold textAt
   rw [List.getD_eq_getElem?_getD, List.getD_eq_getElem?_getD, List.getElem?_take_of_lt hi]
   rfl
  refine ⟨ss.take n, ⟨by rw [List.length_take]; omega, fun i hi => ?_⟩, by omega, fun i hi => ?_⟩
  ·obtain ⟨b, off, spot⟩ := ad
   have hspot : spot = none := by
    have := World.cell?_spot (hcell 0 (by omega))
    simpa [Addr.add] using this
   subst hspot
   have hc := hcell i (by omega)
   rw [addr_add] at hc
   exact ⟨b, off, rfl, World.block_lt_of_cell? _ _ hc, by rw [htk i hi]; exact hc⟩
  ·rw [htk i hi]
   refine hsz _ ?_
   rw [List.getD_eq_getElem?_getD, List.getElem?_eq_getElem (by omega)]
   exact List.getElem_mem _
def PartT (w : World) (g n k : Nat) (xs : Ts) : Prop :=
 ∃ cur, w.heap[g]? = some (.cells cur 9 (0, 0)) ∧ cur.size = n ∧ ∀ i, i < k → cur[i]? = some (.string (textAt xs i))
theorem PartT.put {w : World} {g n k : Nat} {xs : Ts} (h : PartT w g n k xs) (hk : k < n) : PartT (w.setCell ⟨g, k, none⟩ (.string (textAt xs k))) g n (k + 1) xs := by
 obtain ⟨cur, h1, h2, h3⟩ := h
 refine ⟨_, heap_set w g k _ _ _ _ h1, by simpa using h2, fun i hi => ?_⟩
 by_cases e : i = k
 ·subst e
  exact Array.getElem?_setIfInBounds_self_of_lt (by omega)
 rw [Array.getElem?_setIfInBounds_ne (fun x => e x.symm)]
 exact h3 i (by omega)
theorem PartT.row {w : World} {g n base : Nat} {xs : Ts} (h : PartT w g n n xs) (hl : xs.length = n) (hb : base ≤ g) (hn : n ≤ maxLen) : TextRow base w g n n xs := by
 obtain ⟨cur, h1, h2, h3⟩ := h
 exact ⟨hl, hb, (blt h1), Nat.le_refl _, hn, cur, h1, h2, h3⟩
theorem toStringS_any (B : Nat) (a : Oa) (n cap : Nat) (xs : Ts) (w : World) (harg : ArgT w B a n xs) (hB : B ≤ w.heap.size) (hn : n ≤ 1048576) :
  Calls Tryz.prog 55 #[.slice a n cap] w fun e w' => ∃ v, e = .returned v ∧ w'.ownsRow w.heap.size 9 1 v n (xs.map Value.string) ∧ Below w.heap.size w w' := by
 obtain ⟨i0, hi, hz0, hz1, hz2⟩ := info_parts info9
 obtain ⟨M, hM⟩ : ∃ M, M = madeCells (Value.string ⟨#[]⟩).cells (((n : Nat) : Int).toNat * i0.size) := ⟨_, rfl⟩
 have hmk : ∀ W : World, (Instr.makeSlice 22 (.int .i64 (n : Int)) (.int .i64 (n : Int))).run Tryz.prog W = .ok (.slice (some ⟨W.heap.size, 0, none⟩) n n) (W.alloc (.cells M 9)) := fun W => by
  have h := run_make (P := Tryz.prog) W 22 9 i0 (.string ⟨#[]⟩) Tryz.underlying22 hi hz0 .i64 .i64 (n : Int) (n : Int) (by omega) (by omega) (by rw [hz2]; omega) (by omega)
  rw [← hM] at h
  simpa using h
 have hMs : M.size = n := by rw [hM, size_madeCells, hz1]; simp
 have HARG : Hid (∀ W, Below B w W → ArgT W B a n xs) := fun W h => harg.below h
 have HLEN : Hid (xs.length = n) := harg.len
 clear hM harg
 have HP : Hid (PartT (w.alloc (.cells M 9)) w.heap.size n 0 xs) := ⟨M, heap_alloc_new w _, hMs, fun i h => absurd h (by omega)⟩
 go_enter Tryz.func55, Tryz.ntmps55
 go_wp2
 go_loopw [4] (fun i wr => ∃ k : Nat, k ≤ n ∧ i = .int .i64 (k : Int) ∧ Hid (PartT wr w.heap.size n k xs) ∧ Below w.heap.size w wr) (fun i _ => n - (intOf i).toNat)
 case atStart => exact ⟨0, Nat.zero_le _, rfl, HP, (Below.refl _ _).alloc (Nat.le_refl _) _⟩
 case round =>
  obtain ⟨k, hk, rfl, hpr, hbw⟩ := hrel
  by_cases hlt : k < n
  rotate_left
  ·obtain rfl : k = n := by omega
   go_wp2
   go_ret
   exact ⟨_, rfl, (hpr.out.row HLEN.out (Nat.le_refl _) (by unfold maxLen; omega)).owns, hbw⟩
  have hlt2 : (k : Int) < (n : Int) := by omega
  obtain ⟨b, off, rfl, hbB, hc1⟩ := (HARG.out wr (hbw.mono hB)).get k hlt
  have HPUT : Hid (PartT (wr.setCell ⟨w.heap.size, k, none⟩ (.string (textAt xs k))) w.heap.size n (k + 1) xs) := hpr.out.put hlt
  obtain ⟨u0, hu0, f0⟩ : ∃ u, wr.cell? ⟨w.heap.size, k, none⟩ = some u ∧ wr.frozen? ⟨w.heap.size, k, none⟩ = false := by
   obtain ⟨cur, h1, h2, _⟩ := hpr.out
   refine ⟨cur[k]'(by omega), ?_, by simp [World.frozen?, h1]⟩
   simp only [World.cell?, h1]
   simp [show k < cur.size by omega]
  generalize textAt xs k = z at hc1 HPUT
  go_wp2
  go_roundw
  case rel => exact ⟨k + 1, by omega, by go_num, HPUT, hbw.setCell (Nat.le_refl _) _⟩
  case measure => simp [intOf]; omega
theorem three_facts {W : World} {R : Nat} {a b c : Value} {t : TypeId} (h : W.heap[R]? = some (.cells #[a, b, c] t)) :
  (W.cell? ⟨R, 0, none⟩ = some a ∧ W.cell? ⟨R, 1, none⟩ = some b ∧ W.cell? ⟨R, 2, none⟩ = some c) ∧ W.frozen? ⟨R, 0, none⟩ = false ∧ W.frozen? ⟨R, 1, none⟩ = false ∧ W.frozen? ⟨R, 2, none⟩ = false := by
 refine ⟨⟨?_, ?_, ?_⟩, ?_, ?_, ?_⟩ <;> simp [World.cell?, World.frozen?, h]
def threeSet (w : World) (r : Nat) (a b c : Value) : World := ((w.setCell ⟨r, 0, none⟩ a).setCell ⟨r, 1, none⟩ b).setCell ⟨r, 2, none⟩ c
theorem three_set {W : World} {R : Nat} {a b c : Value} {t : TypeId} (h : W.heap[R]? = some (.cells #[a, b, c] t)) (a' b' c' : Value) : (threeSet W R a' b' c').heap[R]? = some (.cells #[a', b', c'] t) := by
 have := heap_set _ R 2 _ _ _ c' (heap_set _ R 1 _ _ _ b' (heap_set W R 0 _ _ _ a' h))
 simpa [threeSet] using this
theorem below_three {w W : World} {B R : Nat} {a b c : Value} (h : Below B w W) (hR : B ≤ R) : Below B w (threeSet W R a b c) :=
 ((h.setCell (p := ⟨R, 0, none⟩) hR _).setCell (p := ⟨R, 1, none⟩) hR _).setCell (p := ⟨R, 2, none⟩) hR _
theorem toResp_any (m : Int) (a : Oa) (n cap : Nat) (b : Tx) (fs : Fs) (B : Nat) (w : World) (harg : ArgF w B a n fs) (hB : B ≤ w.heap.size) (hn : n ≤ 1048576) :
  Calls Tryz.prog 136 #[.agg #[.int .i64 m, .slice a n cap, .string b]] w fun e w' => ∃ v, e = .returned (.agg #[.int .i64 m, v, .string b]) ∧ w'.ownsRow w.heap.size 139 2 v n (flatF fs) ∧ Below w.heap.size w w' := by
 obtain ⟨w0, hw0⟩ := exq ((((w.alloc (.cells #[.int .i64 m, .slice a n cap, .string b] 102)).alloc (.cells #[.int .i64 0, .slice none 0 0, .string ⟨#[]⟩] 49)).alloc (.cells #[.int .i64 m, .slice none 0 0, .string ⟨#[]⟩] 49)))
 have hs0 : w0.heap.size = w.heap.size + 1 + 1 + 1 := by rw [hw0]; simp
 have hb0 : Below w.heap.size w w0 := by rw [hw0]; exact (((Below.refl _ w).alloc (Nat.le_refl _) _).alloc (by simp) _).alloc (by simp; omega) _
 have x1 : w0.heap[w.heap.size]? = some (.cells #[.int .i64 m, .slice a n cap, .string b] 102) := by
  rw [hw0, heap_alloc_old _ _ (by simp; omega), heap_alloc_old _ _ (by simp)]; exact heap_alloc_new w _
 have x2 : w0.heap[w.heap.size + 1]? = some (.cells #[.int .i64 0, .slice none 0 0, .string ⟨#[]⟩] 49) := by
  rw [hw0, heap_alloc_old _ _ (by simp)]
  have := heap_alloc_new (w.alloc (.cells #[.int .i64 m, .slice a n cap, .string b] 102)) (.cells #[.int .i64 0, .slice none 0 0, .string ⟨#[]⟩] 49)
  simpa using this
 have x3 : w0.heap[w.heap.size + 1 + 1]? = some (.cells #[.int .i64 m, .slice none 0 0, .string ⟨#[]⟩] 49) := by
  rw [hw0]
  have := heap_alloc_new ((w.alloc (.cells #[.int .i64 m, .slice a n cap, .string b] 102)).alloc (.cells #[.int .i64 0, .slice none 0 0, .string ⟨#[]⟩] 49)) (.cells #[.int .i64 m, .slice none 0 0, .string ⟨#[]⟩] 49)
  simpa using this
 go_enter Tryz.func136, Tryz.ntmps136
 go_wp2_with fail
 rw [← hw0]
 refine (toFieldS_any B a n cap fs _ (harg.below (hb0.mono hB)) (by omega) hn).mono ?_
 rintro e w1 ⟨v, rfl, hown, bb1⟩
 obtain ⟨fo, fc, rfl⟩ := slice_of_owns hown
 rw [← bb1.block _ (by omega)] at x1 x2 x3
 obtain ⟨o, ho⟩ := exq (w.heap.size + 1 + 1)
 obtain ⟨q, hq⟩ := exq (w.heap.size + 1)
 obtain ⟨c, hc⟩ := exq (w.heap.size)
 rw [← ho] at x3
 rw [← hq] at x2
 rw [← hc] at x1
 have hqo : q ≠ o := by omega
 have hco : c ≠ o := by omega
 have hoq : o ≠ q := by omega
 have hoc : o ≠ c := by omega
 have hqw : w.heap.size ≤ q := by omega
 have how : w.heap.size ≤ o := by omega
 obtain ⟨⟨a0, a1, a2⟩, _⟩ := three_facts x1
 obtain ⟨⟨b0, b1, b2⟩, e0, e1, e2⟩ := three_facts x2
 obtain ⟨⟨d0, d1, d2⟩, f0, f1, f2⟩ := three_facts x3
 have hbw1 : Below w.heap.size w w1 := hb0.trans (bb1.mono hb0.size)
 have HFIN : Hid (∀ W : World, W = (w1.setCell ⟨o, 1, none⟩ (.slice fo n fc)).setCell ⟨o, 2, none⟩ (.string b) → ((threeSet W q (.int .i64 m) (.slice fo n fc) (.string b)).heap[q]? = some (.cells #[.int .i64 m, .slice fo n fc, .string b] 49)) ∧ (threeSet W q (.int .i64 m) (.slice fo n fc) (.string b)).ownsRow w.heap.size 139 2 (.slice fo n fc) n (flatF fs) ∧ Below w.heap.size w (threeSet W q (.int .i64 m) (.slice fo n fc) (.string b))) := fun W hW => by
  have hx2 : W.heap[q]? = some (.cells #[.int .i64 0, .slice none 0 0, .string ⟨#[]⟩] 49) := by rw [hW, heap_setCell_other _ _ q _ (fun e => hqo e), heap_setCell_other _ _ q _ (fun e => hqo e)]; exact x2
  have hbW : Below w.heap.size w W := by rw [hW]; exact (hbw1.setCell (p := ⟨o, 1, none⟩) how _).setCell (p := ⟨o, 2, none⟩) how _
  refine ⟨three_set hx2 _ _ _, ?_, below_three hbW hqw⟩
  have hown1 : w1.ownsRow w.heap.size 139 2 (.slice fo n fc) n (flatF fs) := by
   refine ⟨hown.1, ?_⟩
   rcases hown.2 with h6 | ⟨g6, cap6, cur6, h7, h8, h9⟩
   · exact .inl h6
   · exact .inr ⟨g6, cap6, cur6, h7, by omega, h9⟩
  refine ⟨hown1.1, ?_⟩
  rcases hown.2 with h6 | ⟨g6, cap6, cur6, h7, h8, h9, h10⟩
  · exact .inl h6
  ·refine .inr ⟨g6, cap6, cur6, h7, by omega, ?_, h10⟩
   have n1 : g6 ≠ q := by omega
   have n2 : g6 ≠ o := by omega
   unfold threeSet
   rw [heap_setCell_other _ _ g6 _ (fun e => n1 e), heap_setCell_other _ _ g6 _ (fun e => n1 e), heap_setCell_other _ _ g6 _ (fun e => n1 e), hW, heap_setCell_other _ _ g6 _ (fun e => n2 e), heap_setCell_other _ _ g6 _ (fun e => n2 e)]
   exact h9
 obtain ⟨hh, hof, hbf⟩ := HFIN.out _ rfl
 obtain ⟨⟨k0, k1, k2⟩, _⟩ := three_facts hh
 have HOF : Hid _ := hof
 have HBF : Hid _ := hbf
 unfold threeSet at k0 k1 k2
 rw [← ho, ← hq, ← hc]
 clear x1 x2 x3 ho hq hc hw0 hs0 hb0 bb1 hown hbw1 hh hof hbf harg hB HFIN a0 a1
 go_wp2_with fail
 exact bodyPost_ret (v := .agg #[.int .i64 m, .slice fo n fc, .string b]) (by simp [results, Tryz.results136, go_sem, k0, k1, k2]) rfl ⟨_, rfl, HOF.out, HBF.out⟩
theorem eqResp_any (m : Int) (v1 v2 : Value) (b : Tx) (n b1 b2 : Nat) (fs : Fs) (w : World) (h1 : FieldsV w b1 v1 n fs) (h2 : FieldsV w b2 v2 n fs) (hn : n ≤ 2000000) :
  Calls Tryz.prog 139 #[.agg #[.int .i64 m, v1, .string b], .agg #[.int .i64 m, v2, .string b]] w fun e w' => e = .returned (.bool true) ∧ Below w.heap.size w w' := by
 obtain ⟨oa, ca, rfl, _⟩ := h1.slice
 obtain ⟨ob, cb, rfl, _⟩ := h2.slice
 have tb : (b.toList == b.toList) = true := by simp
 have tm : (m != m) = false := by simp
 obtain ⟨w0, hw0⟩ := exq (((w.alloc (.cells #[.int .i64 m, .slice oa n ca, .string b] 49)).alloc (.cells #[.int .i64 m, .slice ob n cb, .string b] 49)))
 have hs0 : w0.heap.size = w.heap.size + 1 + 1 := by rw [hw0]; simp
 have hb0 : Below w.heap.size w w0 := by rw [hw0]; exact ((Below.refl _ w).alloc (Nat.le_refl _) _).alloc (by simp) _
 have x1 : w0.heap[w.heap.size]? = some (.cells #[.int .i64 m, .slice oa n ca, .string b] 49) := by
  rw [hw0, heap_alloc_old _ _ (by simp)]; exact heap_alloc_new w _
 have x2 : w0.heap[w.heap.size + 1]? = some (.cells #[.int .i64 m, .slice ob n cb, .string b] 49) := by
  rw [hw0]
  have := heap_alloc_new (w.alloc (.cells #[.int .i64 m, .slice oa n ca, .string b] 49)) (.cells #[.int .i64 m, .slice ob n cb, .string b] 49)
  simpa using this
 go_enter Tryz.func139, Tryz.ntmps139
 go_wp2_with fail
 rw [← hw0]
 refine (eqFieldS_any _ _ n b1 b2 fs _ (h1.below hb0) (h2.below hb0) hn).mono ?_
 rintro e w1 ⟨rfl, bb1⟩
 rw [← bb1.block _ (by omega)] at x1 x2
 obtain ⟨q, hq⟩ := exq (w.heap.size + 1)
 obtain ⟨c, hc⟩ := exq (w.heap.size)
 rw [← hq] at x2
 rw [← hc] at x1
 have y1 : w1.cell? ⟨c, 2, none⟩ = some (.string b) := by simp [World.cell?, x1]
 have y2 : w1.cell? ⟨q, 2, none⟩ = some (.string b) := by simp [World.cell?, x2]
 have hbw1 : Below w.heap.size w w1 := hb0.trans (bb1.mono hb0.size)
 rw [← hq, ← hc]
 clear x1 x2 hq hc hw0 hs0 hb0 bb1 h1 h2
 go_wp2
 go_ret
 exact ⟨rfl, hbw1⟩
def SzEx (L : Int) (n : Nat) (fs : Fs) (w : World) (e : Ending) (w' : World) : Prop :=
 ∃ r : Int, e = .returned (.int .i64 r) ∧ r ≤ L ∧ (0 ≤ r → r + (n : Int) + (szTo fs n : Int) = L ∧ n ≤ 1048576 ∧ szTo fs n ≤ 1048576) ∧ Below w.heap.size w w'
theorem szFieldS_exact (L : Int) (hL0 : 0 ≤ L) (hL1 : L ≤ 1048576) (B : Nat) (a : Oa) (n cap : Nat) (fs : Fs) (w : World) (harg : ArgF w B a n fs) (hB : B ≤ w.heap.size) (hn : n ≤ maxLen) (hsz : ∀ i, i < n → (nameAt fs i).size ≤ maxLen ∧ (valAt fs i).size ≤ maxLen) :
  Calls Tryz.prog 175 #[.slice a n cap, .int .i64 L] w fun e w' => SzEx L n fs w e w' := by
 unfold maxLen at hn
 have HS := hid hsz
 clear hsz
 by_cases c1 : L - (n : Int) < 0
 ·go_enter Tryz.func175, Tryz.ntmps175
  go_wp2
  go_ret
  exact ⟨-1, rfl, by omega, fun h => absurd h (by omega), Below.refl _ _⟩
 go_enter Tryz.func175, Tryz.ntmps175
 go_wp2
 go_loopw [1, 5] (fun l i wr => ∃ (k : Nat) (x : Int), k ≤ n ∧ i = .int .i64 (k : Int) ∧ l = .int .i64 x ∧ 0 ≤ x ∧ x ≤ L ∧ Hid (x = L - (n : Int) - (szTo fs k : Int)) ∧ Below w.heap.size w wr) (fun _ i _ => n - (intOf i).toNat)
 case atStart => exact ⟨0, _, Nat.zero_le _, rfl, rfl, by omega, by omega, by show _ = _; simp [szTo], Below.refl _ _⟩
 case round =>
  obtain ⟨k, x, hk, rfl, rfl, hx0, hx1, hx, hbw⟩ := hrel
  by_cases hlt : k < n
  rotate_left
  ·have hF : Hid (x + (n : Int) + (szTo fs n : Int) = L ∧ n ≤ 1048576 ∧ szTo fs n ≤ 1048576) := by
    have := hx.out
    obtain rfl : k = n := by omega
    exact ⟨by omega, by omega, by omega⟩
   go_wp2
   go_ret
   exact ⟨x, rfl, hx1, fun _ => hF.out, hbw⟩
  have hlt2 : (k : Int) < (n : Int) := by omega
  obtain ⟨b, off, rfl, hbB, hc1, hc2⟩ := (harg.below (hbw.mono hB)).get k hlt
  obtain ⟨s1, s2⟩ := HS.out k hlt
  obtain ⟨nm, hnm⟩ := exq (nameAt fs k)
  obtain ⟨vl, hvl⟩ := exq (valAt fs k)
  have HZ : Hid (szTo fs (k + 1) = szTo fs k + nm.size + vl.size) := by rw [hnm, hvl]; rfl
  rw [← hnm] at hc1 s1
  rw [← hvl] at hc2 s2
  clear hnm hvl
  go_wp2_with fail
  refine (szField_any nm vl x _ hx0 (by omega) s1 s2).mono ?_
  rintro e w1 ⟨rfl, hb1⟩
  have hb2 : Below w.heap.size w w1 := hbw.trans (hb1.mono hbw.size)
  clear hc1 hc2 hb1
  by_cases d1 : x - (nm.size : Int) < 0
  ·rw [if_pos d1]
   go_wp2
   go_ret
   exact ⟨-1, rfl, by omega, fun h => absurd h (by omega), hb2⟩
  rw [if_neg d1]
  by_cases d2 : x - (nm.size : Int) - (vl.size : Int) < 0
  ·rw [if_pos d2]
   go_wp2
   go_ret
   exact ⟨-1, rfl, by omega, fun h => absurd h (by omega), hb2⟩
  rw [if_neg d2]
  obtain ⟨y, hy⟩ : ∃ y, y = x - (nm.size : Int) - (vl.size : Int) := ⟨_, rfl⟩
  rw [← hy] at d2 ⊢
  have HY : Hid (y = L - (n : Int) - (szTo fs (k + 1) : Int)) := by
   show _ = _
   rw [hy, HZ.out, hx.out]; omega
  have hy1 : y ≤ L := by omega
  clear hy d1
  go_wp2
  go_roundw
  case rel => exact ⟨k + 1, y, by omega, by go_num, rfl, by omega, hy1, HY, hb2⟩
  case measure => simp [intOf]; omega
def SzRespRm (L : Int) (n : Nat) (fs : Fs) (b : Tx) (w : World) (e : Ending) (w' : World) : Prop :=
 ∃ r : Int, e = .returned (.int .i64 r) ∧ r ≤ L ∧ (0 ≤ r → r + (n : Int) ≤ L ∧ b.size ≤ 1048576 ∧ n ≤ 1048576 ∧ szTo fs n ≤ 1048576) ∧ Below w.heap.size w w'
theorem szResp_room (L : Int) (hL0 : 0 ≤ L) (hL1 : L ≤ 1048576) (m : Int) (a : Oa) (n cap : Nat) (b : Tx) (fs : Fs) (w : World) (harg : ArgF w w.heap.size a n fs) (hn : n ≤ maxLen) (hsz : WalkF n fs) (hb : b.size ≤ maxLen) :
  Calls Tryz.prog 131 #[.agg #[.int .i64 m, .slice a n cap, .string b], .int .i64 L] w fun e w' => SzRespRm L n fs b w e w' := by
 unfold maxLen at hb
 obtain ⟨r, hr⟩ := exq (w.heap.size)
 have HR : Hid (∀ W, Below (w.alloc (.cells #[.int .i64 m, .slice a n cap, .string b] 102)).heap.size (w.alloc (.cells #[.int .i64 m, .slice a n cap, .string b] 102)) W → (W.cell? ⟨r, 1, none⟩ = some (.slice a n cap) ∧ W.cell? ⟨r, 2, none⟩ = some (.string b)) ∧ ArgF W w.heap.size a n fs ∧ w.heap.size ≤ W.heap.size ∧ Below w.heap.size w W) := fun W h => by
  have hh := kept_new h
  rw [← hr] at hh
  exact ⟨⟨by simp [World.cell?, hh], by simp [World.cell?, hh]⟩, harg.below (below_new h), (below_new h).size, below_new h⟩
 obtain ⟨⟨c2, c3⟩, harg0, hs0, _⟩ := HR.out _ (Below.refl _ _)
 have HSZ := hid hsz
 have HN := hid hn
 have HARG := hid harg0
 clear harg hsz harg0 hn
 go_enter Tryz.func131, Tryz.ntmps131
 rw [hr] at c2
 go_wp2_with fail
 refine (szFieldS_exact L (by omega) (by omega) w.heap.size a n cap fs _ HARG.out hs0 HN.out HSZ.out).mono ?_
 rintro e w1 ⟨x, rfl, hx1, hx2, bb1⟩
 clear c2 c3
 obtain ⟨⟨c2, c3⟩, _, _, hbw1⟩ := HR.out w1 bb1
 rw [← hr]
 clear bb1 hr
 by_cases hx0 : x < 0
 ·clear hx2
  go_wp2_with fail
  go_ret
  exact ⟨-1, rfl, by omega, fun h => absurd h (by omega), hbw1⟩
 obtain ⟨h0, h1, h2⟩ := hx2 (by omega)
 by_cases d2 : x - (b.size : Int) < 0
 ·go_wp2_with fail
  go_ret
  exact ⟨-1, rfl, by omega, fun h => absurd h (by omega), hbw1⟩
 go_wp2_with fail
 go_ret
 exact ⟨_, rfl, by omega, fun _ => ⟨by omega, by omega, h1, h2⟩, hbw1⟩
theorem blk_below {W W' : World} {r : Nat} {o : Obj} (h : W.heap[r]? = some o) (b : Below W.heap.size W W') : W'.heap[r]? = some o := by
 rw [b.block r (blt h)]; exact h
theorem blk_alloc {W : World} {r : Nat} {o : Obj} (h : W.heap[r]? = some o) (x : Obj) : (W.alloc x).heap[r]? = some o := by
 rw [Below.heap_alloc _ _ _ (blt h)]; exact h
theorem own_ne {W : World} {r : Nat} {cs : Array Value} {T t : TypeId} {base size n : Nat} {v : Value} {xs : List Value} (ho : W.ownsRow base t size v n xs) (h : W.heap[r]? = some (.cells cs T)) (hT : T ≠ t) (j : Nat) (hj : v.ownBlock = some j) : j ≠ r := fun e => by
 subst e
 rcases ho.2 with ⟨rfl, _⟩ | ⟨g, cap, cur, rfl, _, h1, _⟩
 · cases hj
 ·cases hj
  rw [h] at h1
  cases h1
  exact hT rfl
theorem cell_of {W : World} {R : Nat} {cs : Array Value} {t : TypeId} (h : W.heap[R]? = some (.cells cs t)) (i : Nat) : W.cell? ⟨R, i, none⟩ = cs[i]? := by simp [World.cell?, h]
theorem frozen_of {W : World} {R : Nat} {cs : Array Value} {t : TypeId} (h : W.heap[R]? = some (.cells cs t)) (i : Nat) : W.frozen? ⟨R, i, none⟩ = false := by simp [World.frozen?, h]
def SzTx (L : Int) (n : Nat) (xs : Ts) (w : World) (e : Ending) (w' : World) : Prop :=
 ∃ r : Int, e = .returned (.int .i64 r) ∧ r ≤ L ∧ (0 ≤ r → r + (n : Int) ≤ L ∧ n ≤ 1048576 ∧ ∀ i, i < n → (textAt xs i).size ≤ 1048576) ∧ Below w.heap.size w w'
theorem szStringS_exact (L : Int) (hL0 : 0 ≤ L) (hL1 : L ≤ 1048576) (B : Nat) (a : Oa) (n cap : Nat) (xs : Ts) (w : World) (harg : ArgT w B a n xs) (hB : B ≤ w.heap.size) (hn : n ≤ maxLen) (hsz : ∀ i, i < n → (textAt xs i).size ≤ maxLen) :
  Calls Tryz.prog 48 #[.slice a n cap, .int .i64 L] w fun e w' => SzTx L n xs w e w' := by
 unfold maxLen at hn
 have HS := hid hsz
 have HA : Hid (∀ W, Below w.heap.size w W → ArgT W B a n xs) := fun W h => harg.below (h.mono hB)
 clear hsz harg
 by_cases c1 : L - (n : Int) < 0
 ·go_enter Tryz.func48, Tryz.ntmps48
  go_wp2
  go_ret
  exact ⟨-1, rfl, by omega, fun h => absurd h (by omega), Below.refl _ _⟩
 go_enter Tryz.func48, Tryz.ntmps48
 go_wp2
 go_loopw [1, 5] (fun l i wr => ∃ (k : Nat) (x : Int), k ≤ n ∧ i = .int .i64 (k : Int) ∧ l = .int .i64 x ∧ 0 ≤ x ∧ x + (n : Int) ≤ L ∧ Hid (∀ j, j < k → (textAt xs j).size ≤ 1048576) ∧ Below w.heap.size w wr) (fun _ i _ => n - (intOf i).toNat)
 case atStart => exact ⟨0, _, Nat.zero_le _, rfl, rfl, by omega, by omega, fun j hj => absurd hj (by omega), Below.refl _ _⟩
 case round =>
  obtain ⟨k, x, hk, rfl, rfl, hx0, hx1, HX, hbw⟩ := hrel
  by_cases hlt : k < n
  rotate_left
  ·have hF : Hid (n ≤ 1048576 ∧ ∀ i, i < n → (textAt xs i).size ≤ 1048576) := ⟨by omega, fun i hi => HX.out i (by omega)⟩
   go_wp2
   go_ret
   exact ⟨x, rfl, by omega, fun _ => ⟨hx1, hF.out⟩, hbw⟩
  have hlt2 : (k : Int) < (n : Int) := by omega
  obtain ⟨b, off, rfl, hbB, hc1⟩ := (HA.out wr hbw).get k hlt
  have s1 := HS.out k hlt
  obtain ⟨t, ht⟩ := exq (textAt xs k)
  rw [← ht] at hc1 s1
  unfold maxLen at s1
  by_cases d1 : x - (t.size : Int) < 0
  ·clear ht
   go_wp2
   go_ret
   exact ⟨-1, rfl, by omega, fun h => absurd h (by omega), hbw⟩
  have HX2 : Hid (∀ j, j < k + 1 → (textAt xs j).size ≤ 1048576) := by
   intro j hj
   by_cases e : j = k
   · rw [e, ← ht]; omega
   · exact HX.out j (by omega)
  clear ht
  go_wp2
  go_roundw
  case rel => exact ⟨k + 1, x - (t.size : Int), by omega, by go_num, by go_num, by omega, by omega, HX2, hbw⟩
  case measure => simp [intOf]; omega
structure KpD where
 p : ByteArray
 xs : Ts
 ys : Ts
 st : Int
 fs : Fs
 b : ByteArray
 t : Int
 a : Int
 q : Int
abbrev Ks := List (KpD × Value × Value × Value)
def kpC (x : KpD × Value × Value × Value) : List Value := [.string x.1.p, x.2.1, x.2.2.1, .int .i64 x.1.st, x.2.2.2, .string x.1.b, .int .i64 x.1.t, .int .i64 x.1.a, .int .i64 x.1.q]
theorem kpC_len (x : KpD × Value × Value × Value) : (kpC x).length = 9 := rfl
def kpN (x : KpD × Value × Value × Value) : Rw := ⟨9, 1, x.2.1, x.1.xs.length, x.1.xs.map Value.string⟩
def kpV (x : KpD × Value × Value × Value) : Rw := ⟨9, 1, x.2.2.1, x.1.ys.length, x.1.ys.map Value.string⟩
def kpF (x : KpD × Value × Value × Value) : Rw := ⟨139, 2, x.2.2.2, x.1.fs.length, flatF x.1.fs⟩
def kpR (x : KpD × Value × Value × Value) : List Rw := [kpN x, kpV x, kpF x]
def kpRow (V : Value) (kv : Ks) : Rw := ⟨63, 9, V, kv.length, kv.flatMap kpC⟩
def kpAll (V : Value) (kv : Ks) : List Rw := kpRow V kv :: kv.flatMap kpR
def KeptsO (w : World) (base : Nat) (V : Value) (kv : Ks) : Prop := RowsO w base (kpAll V kv)
theorem KeptsO.row {w : World} {base : Nat} {V : Value} {kv : Ks} (h : KeptsO w base V kv) : w.ownsRow base 63 9 V kv.length (kv.flatMap kpC) := h.own (kpRow V kv) (by simp [kpAll])
theorem KeptsO.names {w : World} {base : Nat} {V : Value} {kv : Ks} (h : KeptsO w base V kv) {x : KpD × Value × Value × Value} (hx : x ∈ kv) : w.ownsRow base 9 1 x.2.1 x.1.xs.length (x.1.xs.map Value.string) := h.own (kpN x) (List.mem_cons_of_mem _ (List.mem_flatMap.2 ⟨x, hx, by simp [kpR]⟩))
theorem KeptsO.vals {w : World} {base : Nat} {V : Value} {kv : Ks} (h : KeptsO w base V kv) {x : KpD × Value × Value × Value} (hx : x ∈ kv) : w.ownsRow base 9 1 x.2.2.1 x.1.ys.length (x.1.ys.map Value.string) := h.own (kpV x) (List.mem_cons_of_mem _ (List.mem_flatMap.2 ⟨x, hx, by simp [kpR]⟩))
theorem KeptsO.flds {w : World} {base : Nat} {V : Value} {kv : Ks} (h : KeptsO w base V kv) {x : KpD × Value × Value × Value} (hx : x ∈ kv) : w.ownsRow base 139 2 x.2.2.2 x.1.fs.length (flatF x.1.fs) := h.own (kpF x) (List.mem_cons_of_mem _ (List.mem_flatMap.2 ⟨x, hx, by simp [kpR]⟩))
theorem KeptsO.below {w w' : World} {base : Nat} {V : Value} {kv : Ks} (h : KeptsO w base V kv) (hb : Below w.heap.size w w') : KeptsO w' base V kv := RowsO.below h hb
structure KpAt (w : World) (g i : Nat) (x : KpD × Value × Value × Value) : Prop where
 c0 : w.cell? ⟨g, i * 9, none⟩ = some (.string x.1.p)
 c1 : w.cell? ⟨g, i * 9 + 1, none⟩ = some x.2.1
 c2 : w.cell? ⟨g, i * 9 + 2, none⟩ = some x.2.2.1
 c3 : w.cell? ⟨g, i * 9 + 3, none⟩ = some (.int .i64 x.1.st)
 c4 : w.cell? ⟨g, i * 9 + 4, none⟩ = some x.2.2.2
 c5 : w.cell? ⟨g, i * 9 + 5, none⟩ = some (.string x.1.b)
 c6 : w.cell? ⟨g, i * 9 + 6, none⟩ = some (.int .i64 x.1.t)
 c7 : w.cell? ⟨g, i * 9 + 7, none⟩ = some (.int .i64 x.1.a)
 c8 : w.cell? ⟨g, i * 9 + 8, none⟩ = some (.int .i64 x.1.q)
theorem KeptsO.at {w : World} {base : Nat} {V : Value} {kv : Ks} (h : KeptsO w base V kv) (i : Nat) (hi : i < kv.length) : ∃ g cap, V = .slice (some ⟨g, 0, none⟩) kv.length cap ∧ g < w.heap.size ∧ KpAt w g i (kv[i]'hi) := by
 have hr := h.row
 rcases hr.2 with ⟨_, h0⟩ | ⟨g, cap, cur, rfl, _, h1, _⟩
 · omega
 ·have key : ∀ j, j < 9 → ∀ u, (kpC (kv[i]'hi))[j]? = some u → w.cell? ⟨g, i * 9 + j, none⟩ = some u := fun j hj u hu => (owns_cellC hr (i * 9 + j) u (by rw [items_at kpC 9 kpC_len kv i j hi hj]; exact hu)).1
  exact ⟨g, cap, rfl, (blt h1), ⟨key 0 (by decide) _ rfl, key 1 (by decide) _ rfl, key 2 (by decide) _ rfl, key 3 (by decide) _ rfl, key 4 (by decide) _ rfl, key 5 (by decide) _ rfl, key 6 (by decide) _ rfl, key 7 (by decide) _ rfl, key 8 (by decide) _ rfl⟩⟩
theorem KeptsO.len {w : World} {base : Nat} {V : Value} {kv : Ks} (h : KeptsO w base V kv) : ∃ oa cp, V = .slice oa kv.length cp := slice_of_owns h.row
theorem toWrite_any (y0 : Int) (y1 : Tx) (w : World) :
  Calls Tryz.prog 94 #[.agg #[.int .i64 y0, .string y1]] w fun e w' => e = .returned (.agg #[.int .i64 y0, .string y1]) ∧ Below w.heap.size w w' := by
 have hb0 := Below.refl w.heap.size w
 go_enter Tryz.func94, Tryz.ntmps94
 go_upto_region 1 with fail
 obtain ⟨q1, hq1⟩ := exq (w.heap.size)
 obtain ⟨w1, hW1⟩ := exq (w.alloc (.cells #[.int .i64 y0, .string y1] 146))
 have hz1 := hq1.symm
 rw [← hW1]; try rw [← hq1]
 have hs1 := hsa hW1 hz1
 have bw := bal hW1
 have hb1 := hbt hb0 bw
 have B1_1 := hnew hW1 hz1
 clear hb0 bw hW1 hz1
 obtain ⟨q2, hq2⟩ := exq (q1 + 1)
 obtain ⟨w2, hW2⟩ := exq (w1.alloc (.cells #[.int .i64 0, .string ⟨#[]⟩] 148))
 have hz2 : w1.heap.size = q2 := by rw [hq2]; exact hs1
 rw [← hW2]; try rw [← hq2]
 have hs2 := hsa hW2 hz2
 have bw := bal hW2
 have hb2 := hbt hb1 bw
 have B1_2 := hblk B1_1 bw
 have Nv1v2 := hnq B1_1 hz2
 have B2_2 := hnew hW2 hz2
 have Gv2 := hge hz2 hb1
 clear hb1 bw hW2 hz2
 clear hs2 hq2 hs1 hq1
 go_upto_region 2 with fail
 obtain ⟨q3, hq3⟩ := exq (w2.heap.size)
 obtain ⟨w3, hW3⟩ := exq (w2.alloc (.cells #[.int .i64 0, .string ⟨#[]⟩] 148))
 have hz3 := hq3.symm
 rw [← hW3]; try rw [← hq3]
 have hs3 := hsa hW3 hz3
 have bw := bal hW3
 have hb3 := hbt hb2 bw
 have B1_3 := hblk B1_2 bw
 have B2_3 := hblk B2_2 bw
 have Nv1v3 := hnq B1_2 hz3
 have Nv2v3 := hnq B2_2 hz3
 have B3_3 := hnew hW3 hz3
 have Gv3 := hge hz3 hb2
 clear hb2 bw hW3 hz3
 clear hs3 hq3
 have c1_0 := (k2c B1_3).1
 have c3_0 := (k2c B3_3).1
 have f3_0 := hfz B3_3 0
 go_upto_region 3 with fail
 obtain ⟨w4, hW4⟩ := exq (w3.setCell ⟨q3, 0, none⟩ (.int .i64 y0))
 rw [← hW4]
 have hb4 := hbS hW4 hb3 Gv3
 have B1_4 := hset hW4 Nv1v3.out B1_3
 have B2_4 := hset hW4 Nv2v3.out B2_3
 have B3_4 := hput hW4 B3_3
 clear hb3 hW4
 clear c1_0 c3_0 f3_0
 have c1_1 := (k2c B1_4).2
 have c3_1 := (k2c B3_4).2
 have f3_1 := hfz B3_4 1
 go_upto_region 4 with fail
 obtain ⟨w5, hW5⟩ := exq (w4.setCell ⟨q3, 1, none⟩ (.string y1))
 rw [← hW5]
 have hb5 := hbS hW5 hb4 Gv3
 have B1_5 := hset hW5 Nv1v3.out B1_4
 have B2_5 := hset hW5 Nv2v3.out B2_4
 have B3_5 := hput hW5 B3_4
 clear hb4 hW5
 clear c1_1 c3_1 f3_1
 have c2_0 := (k2c B2_5).1
 have f2_0 := hfz B2_5 0
 have c2_1 := (k2c B2_5).2
 have f2_1 := hfz B2_5 1
 have c3_0 := (k2c B3_5).1
 have c3_1 := (k2c B3_5).2
 go_wp2_with fail
 obtain ⟨w6, hW6⟩ := exq (w5.setCell ⟨q2, 0, none⟩ (.int .i64 y0))
 rw [← hW6]
 have hb6 := hbS hW6 hb5 Gv2
 have B1_6 := hset hW6 Nv1v2.out B1_5
 have B3_6 := hset hW6 Nv2v3.out.symm B3_5
 have B2_6 := hput hW6 B2_5
 clear hb5 hW6
 obtain ⟨w7, hW7⟩ := exq (w6.setCell ⟨q2, 1, none⟩ (.string y1))
 rw [← hW7]
 have hb7 := hbS hW7 hb6 Gv2
 have B1_7 := hset hW7 Nv1v2.out B1_6
 have B3_7 := hset hW7 Nv2v3.out.symm B3_6
 have B2_7 := hput hW7 B2_6
 clear hb6 hW7
 have kv2_0 := (k2c B2_7).1
 have kv2_1 := (k2c B2_7).2
 refine bodyPost_ret (v := .agg #[.int .i64 y0, .string y1]) (by simp [results, Tryz.results94, go_sem, kv2_0, kv2_1]) rfl ?_
 exact ⟨rfl, hb7⟩
def SzWrite (L : Int) (y1 : Tx) (w : World) (e : Ending) (w' : World) : Prop := ∃ r : Int, e = .returned (.int .i64 r) ∧ r ≤ L ∧ (0 ≤ r → y1.size ≤ 1048576) ∧ Below w.heap.size w w'
theorem szWrite_any (L : Int) (hL0 : 0 ≤ L) (hL1 : L ≤ 1048576) (y0 : Int) (y1 : Tx) (w : World) (hy1 : y1.size ≤ maxLen) :
  Calls Tryz.prog 85 #[.agg #[.int .i64 y0, .string y1], .int .i64 L] w fun e w' => SzWrite L y1 w e w' := by
 unfold maxLen at hy1
 have hb0 := Below.refl w.heap.size w
 go_enter Tryz.func85, Tryz.ntmps85
 go_upto_region 1 with fail
 obtain ⟨q1, hq1⟩ := exq (w.heap.size)
 obtain ⟨w1, hW1⟩ := exq (w.alloc (.cells #[.int .i64 y0, .string y1] 146))
 have hz1 := hq1.symm
 rw [← hW1]; try rw [← hq1]
 have hs1 := hsa hW1 hz1
 have bw := bal hW1
 have hb1 := hbt hb0 bw
 have B1_1 := hnew hW1 hz1
 clear hb0 bw hW1 hz1
 clear hs1 hq1
 have c1_1 := (k2c B1_1).2
 by_cases hc1 : (L - (y1.size : Int)) < 0
 rotate_left
 ·go_wp2_with fail
  go_ret
  exact ⟨_, rfl, by omega, fun _ => (by omega), hb1⟩
 go_wp2_with fail
 go_ret
 exact ⟨-1, rfl, by omega, fun h => absurd h (by omega), hb1⟩
theorem eqWrite_any (y0 : Int) (y1 : Tx) (w : World) :
  Calls Tryz.prog 99 #[.agg #[.int .i64 y0, .string y1], .agg #[.int .i64 y0, .string y1]] w fun e w' => e = .returned (.bool true) ∧ Below w.heap.size w w' := by
 have hhy0 : (y0 != y0) = false := by simp
 have hhy1 : (y1.toList != y1.toList) = false := by simp
 have hb0 := Below.refl w.heap.size w
 go_enter Tryz.func99, Tryz.ntmps99
 go_upto_region 1 with fail
 obtain ⟨q1, hq1⟩ := exq (w.heap.size)
 obtain ⟨w1, hW1⟩ := exq (w.alloc (.cells #[.int .i64 y0, .string y1] 148))
 have hz1 := hq1.symm
 rw [← hW1]; try rw [← hq1]
 have hs1 := hsa hW1 hz1
 have bw := bal hW1
 have hb1 := hbt hb0 bw
 have B1_1 := hnew hW1 hz1
 clear hb0 bw hW1 hz1
 obtain ⟨q2, hq2⟩ := exq (q1 + 1)
 obtain ⟨w2, hW2⟩ := exq (w1.alloc (.cells #[.int .i64 y0, .string y1] 148))
 have hz2 : w1.heap.size = q2 := by rw [hq2]; exact hs1
 rw [← hW2]; try rw [← hq2]
 have hs2 := hsa hW2 hz2
 have bw := bal hW2
 have hb2 := hbt hb1 bw
 have B1_2 := hblk B1_1 bw
 have B2_2 := hnew hW2 hz2
 clear hb1 bw hW2 hz2
 clear hs2 hq2 hs1 hq1
 have c1_0 := (k2c B1_2).1
 have c2_0 := (k2c B2_2).1
 have c1_1 := (k2c B1_2).2
 have c2_1 := (k2c B2_2).2
 go_wp2_with fail
 go_ret
 exact ⟨rfl, hb2⟩
theorem owns_some {w : World} {base : Nat} {t : TypeId} {size n cap : Nat} {oa : Oa} {xs : List Value} (h : w.ownsRow base t size (.slice oa n cap) n xs) (hn : 0 < n) : ∃ g, oa = some ⟨g, 0, none⟩ := by
 rcases h.2 with ⟨e, h0⟩ | ⟨g, cap', cur, e, _⟩
 · omega
 · cases e; exact ⟨g, rfl⟩
def writeAt (l : List (Int × ByteArray)) (i : Nat) : (Int × ByteArray) := l.getD i (0, ⟨#[]⟩)
def writeEnc (x : (Int × ByteArray)) : List Value := [.int .i64 x.1, .string x.2]
def flatWrite (l : List (Int × ByteArray)) : List Value := l.flatMap writeEnc
theorem flatWrite_len (l : List (Int × ByteArray)) : (flatWrite l).length = l.length * 2 := by
 induction l with
 | nil => rfl
 | cons f r ih => simp only [flatWrite, writeEnc, List.flatMap_cons, List.length_append, List.length_cons, List.length_nil] at ih ⊢; omega
theorem flatWrite_get : ∀ (l : List (Int × ByteArray)) (i : Nat), i < l.length → (flatWrite l)[i * 2]? = some (.int .i64 ((writeAt l i).1)) ∧ (flatWrite l)[i * 2 + 1]? = some (.string ((writeAt l i).2))
 | [], i, h => by simp at h
 | f :: r, 0, _ => by simp [flatWrite, writeEnc, writeAt]
 | f :: r, i + 1, h => by
  have ih := flatWrite_get r i (by simpa using h)
  have e : flatWrite (f :: r) = writeEnc f ++ flatWrite r := rfl
  have hl : (writeEnc f).length = 2 := rfl
  have h2 : writeAt (f :: r) (i + 1) = writeAt r i := by simp [writeAt]
  have key : ∀ j, (flatWrite (f :: r))[i * 2 + 2 + j]? = (flatWrite r)[i * 2 + j]? := fun j => by
   rw [e, List.getElem?_append_right (by rw [hl]; omega), hl]; congr 1; omega
  rw [h2]
  refine ⟨(by rw [show (i + 1) * 2 = i * 2 + 2 + 0 by omega, key]; exact ih.1), (by rw [show (i + 1) * 2 + 1 = i * 2 + 2 + 1 by omega, key]; exact ih.2)⟩
theorem writeAt_mem (l : List (Int × ByteArray)) (i : Nat) (h : i < l.length) : writeAt l i ∈ l := by
 unfold writeAt
 rw [List.getD_eq_getElem?_getD, List.getElem?_eq_getElem h]
 exact List.getElem_mem h
theorem take_writeAt (l : List (Int × ByteArray)) (i : Nat) (h : i < l.length) : l.take (i + 1) = l.take i ++ [writeAt l i] := by
 unfold writeAt
 rw [List.getD_eq_getElem?_getD, List.getElem?_eq_getElem h, List.take_succ_eq_append_getElem h]
 rfl
def WriteA (w : World) (oa : Oa) (n : Nat) (l : List (Int × ByteArray)) : Prop :=
 l.length = n ∧ ∀ i, i < n → ∃ g, oa = some ⟨g, 0, none⟩ ∧ g < w.heap.size ∧ w.cell? ⟨g, i * 2, none⟩ = some (.int .i64 ((writeAt l i).1)) ∧ w.cell? ⟨g, i * 2 + 1, none⟩ = some (.string ((writeAt l i).2))
theorem WriteA.below {w W : World} {oa : Oa} {n : Nat} {l : List (Int × ByteArray)} (h : WriteA w oa n l) (hb : Below w.heap.size w W) : WriteA W oa n l :=
 ⟨h.1, fun i hi => by
  obtain ⟨g, h1, h2, r0, r1⟩ := h.2 i hi
  exact ⟨g, h1, Nat.lt_of_lt_of_le h2 hb.size, by rw [hb.cell (p := ⟨g, i * 2, none⟩) h2]; exact r0, by rw [hb.cell (p := ⟨g, i * 2 + 1, none⟩) h2]; exact r1⟩⟩
def ArgWrite (w : World) (B : Nat) (a : Oa) (n : Nat) (l : List (Int × ByteArray)) : Prop :=
 l.length = n ∧ ∀ i, i < n → ∃ b off, a = some ⟨b, off, none⟩ ∧ b < B ∧ w.cell? ⟨b, off + i * 2, none⟩ = some (.int .i64 ((writeAt l i).1)) ∧ w.cell? ⟨b, off + i * 2 + 1, none⟩ = some (.string ((writeAt l i).2))
theorem ArgWrite.below {w w' : World} {B : Nat} {a : Oa} {n : Nat} {l : List (Int × ByteArray)} (h : ArgWrite w B a n l) (hb : Below B w w') : ArgWrite w' B a n l :=
 ⟨h.1, fun i hi => by
  obtain ⟨b, off, h1, h2, r0, r1⟩ := h.2 i hi
  exact ⟨b, off, h1, h2, by rw [hb.cell (p := ⟨b, off + i * 2, none⟩) h2]; exact r0, by rw [hb.cell (p := ⟨b, off + i * 2 + 1, none⟩) h2]; exact r1⟩⟩
def PartWrite (w : World) (g n k : Nat) (l : List (Int × ByteArray)) : Prop :=
 ∃ cur, w.heap[g]? = some (.cells cur 148 (0, 0)) ∧ cur.size = n * 2 ∧ ∀ i, i < k → cur[i * 2]? = some (.int .i64 ((writeAt l i).1)) ∧ cur[i * 2 + 1]? = some (.string ((writeAt l i).2))
theorem PartWrite.below {w w' : World} {g n k B : Nat} {l : List (Int × ByteArray)} (h : PartWrite w g n k l) (hb : Below B w w') (hB : g < B) : PartWrite w' g n k l := by
 obtain ⟨cur, h1, h2⟩ := h
 exact ⟨cur, by rw [hb.block g hB]; exact h1, h2⟩
theorem PartWrite.lt {w : World} {g n k : Nat} {l : List (Int × ByteArray)} (h : PartWrite w g n k l) : g < w.heap.size := by
 obtain ⟨cur, h1, _⟩ := h
 exact (blt h1)
theorem PartWrite.cell {w : World} {g n k : Nat} {l : List (Int × ByteArray)} (h : PartWrite w g n k l) (j : Nat) (hj : j < n * 2) : ∃ u, w.cell? ⟨g, j, none⟩ = some u := by
 obtain ⟨cur, h1, h2, _⟩ := h
 refine ⟨cur[j]'(by omega), ?_⟩
 simp only [World.cell?, h1]
 simp [show j < cur.size by omega]
theorem PartWrite.frozen {w : World} {g n k : Nat} {l : List (Int × ByteArray)} (h : PartWrite w g n k l) (j : Nat) : w.frozen? ⟨g, j, none⟩ = false := by
 obtain ⟨cur, h1, _⟩ := h
 simp [World.frozen?, h1]
theorem PartWrite.put {w : World} {g n k : Nat} {l : List (Int × ByteArray)} (h : PartWrite w g n k l) (hk : k < n) : PartWrite ((w.setCell ⟨g, k * 2, none⟩ (.int .i64 (writeAt l k).1)).setCell ⟨g, k * 2 + 1, none⟩ (.string (writeAt l k).2)) g n (k + 1) l := by
 obtain ⟨cur, h1, h2, h3⟩ := h
 refine ⟨_, heap_set _ g (k * 2 + 1) _ _ _ _ (heap_set _ g (k * 2) _ _ _ _ h1), by simpa using h2, ?_⟩
 intro i hi
 by_cases e : i = k
 ·subst e
  exact ⟨by rw [Array.getElem?_setIfInBounds_ne (by omega), Array.getElem?_setIfInBounds_self_of_lt (by first | omega | (simp; omega))], by rw [Array.getElem?_setIfInBounds_self_of_lt (by first | omega | (simp; omega))]⟩
 have := h3 i (by omega)
 exact ⟨by rw [Array.getElem?_setIfInBounds_ne (by omega), Array.getElem?_setIfInBounds_ne (by omega)]; exact this.1, by rw [Array.getElem?_setIfInBounds_ne (by omega), Array.getElem?_setIfInBounds_ne (by omega)]; exact this.2⟩
theorem PartWrite.owns {w : World} {g n : Nat} {l : List (Int × ByteArray)} (h : PartWrite w g n n l) (hl : l.length = n) (hm : n ≤ maxLen) {base : Nat} (hb : base ≤ g) : w.ownsRow base 148 2 (.slice (some ⟨g, 0, none⟩) n n) n (flatWrite l) := by
 obtain ⟨cur, hg, hs, hc⟩ := h
 refine ⟨by rw [flatWrite_len, hl], .inr ⟨g, n, cur, rfl, hb, hg, Nat.le_refl _, hm, hs, ?_⟩⟩
 apply List.ext_getElem?
 intro j
 rw [List.getElem?_take]
 by_cases hj : j < n * 2
 rotate_left
 · rw [if_neg hj, List.getElem?_eq_none (by rw [flatWrite_len]; omega)]
 rw [if_pos hj]
 have hf := flatWrite_get l (j / 2) (by omega)
 have hcc := hc (j / 2) (by omega)
 have hr : j = (j / 2) * 2 ∨ j = (j / 2) * 2 + 1 := by omega
 rcases hr with e | e
 ·have e2 := hf.1
  have e3 := hcc.1
  rw [← e] at e2 e3
  rw [e2]; simpa using e3
 ·have e2 := hf.2
  have e3 := hcc.2
  rw [← e] at e2 e3
  rw [e2]; simpa using e3
theorem write_view {w : World} {base n cap : Nat} {oa : Oa} {l : List (Int × ByteArray)} (h : w.ownsRow base 148 2 (.slice oa n cap) n (flatWrite l)) : WriteA w oa n l := by
 obtain ⟨hl, hv⟩ := h
 rw [flatWrite_len] at hl
 refine ⟨by omega, fun i hi => ?_⟩
 rcases hv with ⟨e, h0⟩ | ⟨g, cap, cur, e, hb, hg, hn, hm, hcs, htk⟩
 · omega
 ·cases e
  have hf := flatWrite_get l i (by omega)
  rw [← htk] at hf
  simp only [List.getElem?_take] at hf
  rw [if_pos (by omega), if_pos (by omega)] at hf
  refine ⟨g, rfl, (blt hg), by simp only [World.cell?, hg]; simpa using hf.1, by simp only [World.cell?, hg]; simpa using hf.2⟩
theorem write_len {w : World} {base n : Nat} {v : Value} {l : List (Int × ByteArray)} (h : w.ownsRow base 148 2 v n (flatWrite l)) : l.length = n := by
 have := h.1
 rw [flatWrite_len] at this
 omega
theorem infoWrite : (Tryz.prog.info? 148).map (fun i => (i.zero, i.size, i.bytes)) = some (some (.agg #[.int .i64 0, .string ⟨#[]⟩]), 2, 24) := by kernel_rfl
def SzWriteR (L : Int) (n : Nat) (l : List (Int × ByteArray)) (w : World) (e : Ending) (w' : World) : Prop :=
 ∃ r : Int, e = .returned (.int .i64 r) ∧ r ≤ L ∧ (0 ≤ r → r + (n : Int) ≤ L ∧ n ≤ 1048576 ∧ ∀ x ∈ l, (x.2).size ≤ 1048576) ∧ Below w.heap.size w w'
theorem szWriteS_room (L : Int) (hL0 : 0 ≤ L) (hL1 : L ≤ 1048576) (B : Nat) (a : Oa) (n cap : Nat) (l : List (Int × ByteArray)) (w : World) (harg : ArgWrite w B a n l) (hB : B ≤ w.heap.size) (hn : n ≤ maxLen) (hsz : ∀ x ∈ l, (x.2).size ≤ maxLen) :
  Calls Tryz.prog 49 #[.slice a n cap, .int .i64 L] w fun e w' => SzWriteR L n l w e w' := by
 unfold maxLen at hn
 have HS := hid hsz
 have HLN : Hid (l.length = n) := harg.1
 have HA : Hid (∀ W, Below w.heap.size w W → ArgWrite W B a n l) := fun W h => harg.below (h.mono hB)
 clear hsz harg
 by_cases c1 : L - (n : Int) < 0
 ·go_enter Tryz.func49, Tryz.ntmps49
  go_wp2
  go_ret
  exact ⟨-1, rfl, by omega, fun h => absurd h (by omega), Below.refl _ _⟩
 go_enter Tryz.func49, Tryz.ntmps49
 go_wp2
 go_loopw [1, 5] (fun lf i wr => ∃ (k : Nat) (x : Int), k ≤ n ∧ i = .int .i64 (k : Int) ∧ lf = .int .i64 x ∧ 0 ≤ x ∧ x + (n : Int) ≤ L ∧ Hid (∀ x ∈ l.take k, (x.2).size ≤ 1048576) ∧ Hid (Below w.heap.size w wr)) (fun _ i _ => n - (intOf i).toNat)
 case atStart => exact ⟨0, _, Nat.zero_le _, rfl, rfl, by omega, by omega, fun x hx => by simp at hx, Below.refl _ _⟩
 case round =>
  obtain ⟨k, x, hk, rfl, rfl, hx0, hx1, HX, HBW⟩ := hrel
  by_cases hlt : k < n
  rotate_left
  ·have HF : Hid (n ≤ 1048576 ∧ ∀ x ∈ l, (x.2).size ≤ 1048576) := ⟨by omega, fun x hx => HX.out x (by rw [List.take_of_length_le (by rw [HLN.out]; omega)]; exact hx)⟩
   go_wp2
   go_ret
   exact ⟨x, rfl, by omega, fun _ => ⟨by omega, HF.out⟩, HBW.out⟩
  have hlt2 : (k : Int) < (n : Int) := by omega
  obtain ⟨b, off, rfl, hbB, r0, r1⟩ := (HA.out wr HBW.out).2 k hlt
  obtain ⟨y, hy⟩ := exq (writeAt l k)
  have HM : Hid (y ∈ l) := by show _ ∈ _; rw [hy]; exact writeAt_mem l k (by rw [HLN.out]; exact hlt)
  have HTK : Hid (l.take (k + 1) = l.take k ++ [y]) := by show _ = _; rw [hy]; exact take_writeAt l k (by rw [HLN.out]; exact hlt)
  have s1 := HS.out y HM.out
  rw [← hy] at r0 r1
  clear hy
  obtain ⟨y0, y1⟩ := y
  go_wp2_with fail
  refine (szWrite_any x hx0 (by omega) y0 y1 _ s1).mono ?_
  rintro e w1 ⟨r, rfl, hr1, hr2, bw⟩
  have HB2 : Hid (Below w.heap.size w w1) := HBW.out.trans (bw.mono HBW.out.size)
  clear r0 r1 bw
  by_cases d1 : r < 0
  ·clear hr2
   go_wp2
   go_ret
   exact ⟨-1, rfl, by omega, fun h => absurd h (by omega), HB2.out⟩
  have HX2 : Hid (∀ x ∈ l.take (k + 1), (x.2).size ≤ 1048576) := fun x hx => by
   rw [HTK.out] at hx
   rcases List.mem_append.1 hx with hx | hx
   · exact HX.out x hx
   · rw [List.mem_singleton.1 hx]; exact hr2 (by omega)
  clear hr2
  go_wp2
  go_roundw
  case rel => exact ⟨k + 1, r, by omega, by go_num, rfl, by omega, by omega, HX2, HB2⟩
  case measure => simp [intOf]; omega
theorem toWriteS_any (B : Nat) (a : Oa) (n cap : Nat) (l : List (Int × ByteArray)) (w : World) (harg : ArgWrite w B a n l) (hB : B ≤ w.heap.size) (hn : n ≤ 1048576) :
  Calls Tryz.prog 56 #[.slice a n cap] w fun e w' => ∃ v, e = .returned v ∧ w'.ownsRow w.heap.size 148 2 v n (flatWrite l) ∧ Below w.heap.size w w' := by
 obtain ⟨i0, hi, hz0, hz1, hz2⟩ := info_parts infoWrite
 obtain ⟨M, hM⟩ : ∃ M, M = madeCells (Value.agg #[.int .i64 0, .string ⟨#[]⟩]).cells (((n : Nat) : Int).toNat * i0.size) := ⟨_, rfl⟩
 have hmk : ∀ W : World, (Instr.makeSlice 32 (.int .i64 (n : Int)) (.int .i64 (n : Int))).run Tryz.prog W = .ok (.slice (some ⟨W.heap.size, 0, none⟩) n n) (W.alloc (.cells M 148)) := fun W => by
  have h := run_make (P := Tryz.prog) W 32 148 i0 (.agg #[.int .i64 0, .string ⟨#[]⟩]) Tryz.underlying32 hi hz0 .i64 .i64 (n : Int) (n : Int) (by omega) (by omega) (by rw [hz2]; omega) (by omega)
  rw [← hM] at h
  simpa using h
 have hMs : M.size = n * 2 := by rw [hM, size_madeCells, hz1]; simp
 have HLN : Hid (l.length = n) := harg.1
 have HA : Hid (∀ W, Below w.heap.size w W → ArgWrite W B a n l) := fun W h => harg.below (h.mono hB)
 clear hM harg
 have HP : Hid (PartWrite (w.alloc (.cells M 148)) w.heap.size n 0 l) := ⟨M, heap_alloc_new w _, hMs, fun i h => absurd h (by omega)⟩
 go_enter Tryz.func56, Tryz.ntmps56
 go_wp2
 go_loopw [4] (fun i wr => ∃ k : Nat, k ≤ n ∧ i = .int .i64 (k : Int) ∧ Hid (PartWrite wr w.heap.size n k l) ∧ Hid (Below w.heap.size w wr)) (fun i _ => n - (intOf i).toNat)
 case atStart => exact ⟨0, Nat.zero_le _, rfl, HP, (Below.refl _ _).alloc (Nat.le_refl _) _⟩
 case round =>
  obtain ⟨k, hk, rfl, hpr, HBW⟩ := hrel
  by_cases hlt : k < n
  rotate_left
  ·obtain rfl : k = n := by omega
   go_wp2
   go_ret
   exact ⟨_, rfl, hpr.out.owns HLN.out (by unfold maxLen; omega) (Nat.le_refl _), HBW.out⟩
  have hlt2 : (k : Int) < (n : Int) := by omega
  obtain ⟨b, off, rfl, hbB, r0, r1⟩ := (HA.out wr HBW.out).2 k hlt
  obtain ⟨y, hy⟩ := exq (writeAt l k)
  rw [← hy] at r0 r1
  have HY : Hid (writeAt l k = y) := hy.symm
  clear hy
  obtain ⟨y0, y1⟩ := y
  go_wp2_with fail
  refine (toWrite_any y0 y1 _).mono ?_
  rintro e w1 ⟨rfl, bw⟩
  have hpr1 := hpr.out.below bw hpr.out.lt
  have HB2 : Hid (Below w.heap.size w w1) := HBW.out.trans (bw.mono HBW.out.size)
  obtain ⟨u0, hu0⟩ := hpr1.cell (k * 2) (by omega)
  have f0 := hpr1.frozen (k * 2)
  obtain ⟨u1, hu1⟩ := hpr1.cell (k * 2 + 1) (by omega)
  have f1 := hpr1.frozen (k * 2 + 1)
  have hput := hpr1.put hlt
  rw [HY.out] at hput
  have HPUT : Hid _ := hput
  clear hput r0 r1 bw
  go_wp2
  go_roundw
  case rel => exact ⟨k + 1, by omega, by go_num, HPUT, (HB2.out.setCell (Nat.le_refl _) _).setCell (Nat.le_refl _) _⟩
  case measure => simp [intOf]; omega
theorem eqWriteS_any (o1 o2 : Oa) (n c1 c2 : Nat) (l : List (Int × ByteArray)) (w : World) (h1 : WriteA w o1 n l) (h2 : WriteA w o2 n l) (hn : n ≤ 2000000) :
  Calls Tryz.prog 61 #[.slice o1 n c1, .slice o2 n c2] w fun e w' => e = .returned (.bool true) ∧ Below w.heap.size w w' := by
 have H1 : Hid (∀ W, Below w.heap.size w W → WriteA W o1 n l) := fun W h => h1.below h
 have H2 : Hid (∀ W, Below w.heap.size w W → WriteA W o2 n l) := fun W h => h2.below h
 clear h1 h2
 go_enter Tryz.func61, Tryz.ntmps61
 go_wp2
 go_loopw [5] (fun i wr => ∃ k : Nat, k ≤ n ∧ i = .int .i64 (k : Int) ∧ Hid (Below w.heap.size w wr)) (fun i _ => n - (intOf i).toNat)
 case atStart => exact ⟨0, Nat.zero_le _, rfl, Below.refl _ _⟩
 case round =>
  obtain ⟨k, hk, rfl, HBW⟩ := hrel
  by_cases hlt : k < n
  rotate_left
  ·go_wp2
   go_ret
   exact ⟨rfl, HBW.out⟩
  have hlt2 : (k : Int) < (n : Int) := by omega
  obtain ⟨y, hy⟩ := exq (writeAt l k)
  obtain ⟨g1, rfl, hg1, a0, a1⟩ := (H1.out wr HBW.out).2 k hlt
  obtain ⟨g2, rfl, hg2, b0, b1⟩ := (H2.out wr HBW.out).2 k hlt
  rw [← hy] at a0 b0 a1 b1
  clear hy
  obtain ⟨y0, y1⟩ := y
  have HA : Hid (∀ w0 w1, Below wr.heap.size wr w0 → Below w0.heap.size w0 w1 → (w1.cell? ⟨g1, k * 2, none⟩ = some (.int .i64 y0) ∧ w1.cell? ⟨g1, k * 2 + 1, none⟩ = some (.string y1) ∧ w1.cell? ⟨g2, k * 2, none⟩ = some (.int .i64 y0) ∧ w1.cell? ⟨g2, k * 2 + 1, none⟩ = some (.string y1)) ∧ Below wr.heap.size wr w1) := fun w0 w1 h h' => by
   have hx := h.trans (h'.mono h.size)
   exact ⟨⟨by rw [hx.cell (p := ⟨g1, k * 2, none⟩) hg1]; exact a0, by rw [hx.cell (p := ⟨g1, k * 2 + 1, none⟩) hg1]; exact a1, by rw [hx.cell (p := ⟨g2, k * 2, none⟩) hg2]; exact b0, by rw [hx.cell (p := ⟨g2, k * 2 + 1, none⟩) hg2]; exact b1⟩, hx⟩
  go_wp2
  go_region_held3 (fun w' => w'.cell? ⟨g1, k * 2, none⟩ = some (.int .i64 y0) ∧ w'.cell? ⟨g1, k * 2 + 1, none⟩ = some (.string y1) ∧ w'.cell? ⟨g2, k * 2, none⟩ = some (.int .i64 y0) ∧ w'.cell? ⟨g2, k * 2 + 1, none⟩ = some (.string y1)) (first | assumption | go_keep) (first | (go_at_call 99; refine (eqWrite_any _ _ _).mono ?_; rintro e w1 ⟨rfl, hb1⟩; obtain ⟨hcc, hbx⟩ := HA.out _ w1 ((Below.refl _ wr).drew) hb1))
  go_wp2
  go_roundw
  case rel => exact ⟨k + 1, by omega, by go_num, HBW.out.trans (hbx.mono HBW.out.size)⟩
  case measure => simp [intOf]; omega
theorem openWriteS {H : Type} {enc : TypeId × Value → H} {W : World} {fuel : Nat} {a : Oa} {n cap : Nat} {x : DataW H × List MemPlace} (h : DataW.trod enc Tryz.prog W 0 (fun _ => true) true fuel 23 [.slice a n cap] = some x) :
  ∃ l, ArgWrite W W.heap.size a n l ∧ n ≤ maxLen ∧ ∀ x ∈ l, (x.2).size ≤ maxLen := by
 rcases Go.Deep.open_slice Tryz.underlying23 h with ⟨hcs, _⟩ | ⟨ad, len, c, m, q, Dd, Pl, hcs, _, hl, hm, hmm, _, hx⟩
 ·simp at hcs
  obtain ⟨rfl, rfl, rfl⟩ := hcs
  exact ⟨[], ⟨rfl, fun i hi => absurd hi (by omega)⟩, Nat.zero_le _, fun x hx => by simp at hx⟩
 ·simp at hcs
  obtain ⟨rfl, rfl, rfl⟩ := hcs
  have hm2 : m = cap := by simpa using hmm
  have ce : Tryz.prog.cellsOf 146 = 2 := by kernel_rfl
  have ci : Tryz.prog.cellsOf 3 = 1 := by kernel_rfl
  have cs : Tryz.prog.cellsOf 9 = 1 := by kernel_rfl
  have each : ∀ i, i < n → ∃ y : (Int × ByteArray), (W.cell? (ad.add (i * 2 + 0)) = some (.int .i64 (y.1)) ∧ W.cell? (ad.add (i * 2 + 1)) = some (.string (y.2))) ∧ (y.2).size ≤ maxLen := by
   intro i hi
   obtain ⟨cs', h1, h2⟩ := hx i (by omega)
   rw [ce] at h1
   obtain ⟨_, hlen, hcell⟩ := World.cells?_some h1
   obtain ⟨xs, k, hk, hxy, _, hxl, hf⟩ := DataW.trod_struct Tryz.underlying146 h2
   match xs, hxl, cs', hlen with
   | [x0, x1], _, [v0, v1], _ =>
    have g0 := hf 0 _ rfl
    have g1 := hf 1 _ rfl
    simp [ci, cs] at g0 g1
    obtain ⟨s0, e0, _, _⟩ := DataW.trod_int Tryz.underlying3 g0
    obtain ⟨s1, e1, _, z1⟩ := DataW.trod_string Tryz.underlying9 g1
    simp only [List.cons.injEq, and_true] at e0 e1
    subst e0 e1
    have c0 := hcell 0 (by omega)
    have c1 := hcell 1 (by omega)
    rw [Go.Deep.add_add] at c0 c1
    exact ⟨(s0, s1), ⟨by simpa using c0, by simpa using c1⟩, z1⟩
  obtain ⟨q, hq⟩ := Go.Deep.choose_lt each
  have hat : ∀ i, i < n → writeAt ((List.range n).map q) i = q i := fun i hi => by
   unfold writeAt
   rw [List.getD_eq_getElem?_getD, List.getElem?_map, List.getElem?_range hi]
   rfl
  refine ⟨(List.range n).map q, ⟨by simp, fun i hi => ?_⟩, by omega, fun x hx => ?_⟩
  ·obtain ⟨c0, _⟩ := hq i hi
   obtain ⟨c3, _⟩ := hq 0 (by omega)
   have hsp : ad.spot = none := by
    have := World.cell?_spot c3.1
    simpa [Addr.add] using this
   clear c3
   obtain ⟨b, off, sp⟩ := ad
   simp only at hsp
   subst hsp
   simp only [addr_add] at c0
   rw [hat i hi]
   have hlt := World.block_lt_of_cell? W _ c0.1
   exact ⟨b, off, rfl, hlt, by simpa [Nat.add_assoc] using c0.1, by simpa [Nat.add_assoc] using c0.2⟩
  ·obtain ⟨i, hi, rfl⟩ := List.mem_map.1 hx
   exact (hq i (List.mem_range.1 hi)).2
structure DiskO (W : World) (base : Nat) (v1 : Value) (n1 : Nat) (cs : Ts) (v2 : Value) (n2 : Nat) (ws : List (Int × ByteArray)) : Prop where
 cells : W.ownsRow base 9 1 v1 n1 (cs.map Value.string)
 pend : W.ownsRow base 148 2 v2 n2 (flatWrite ws)
theorem toDisk_any (a1 : Oa) (n1 c1 : Nat) (cs : Ts) (a2 : Oa) (n2 c2 : Nat) (ws : List (Int × ByteArray)) (B : Nat) (w : World) (h1 : ArgT w B a1 n1 cs) (h2 : ArgWrite w B a2 n2 ws) (hB : B ≤ w.heap.size) (hn1 : n1 ≤ 1048576) (hn2 : n2 ≤ 1048576) :
  Calls Tryz.prog 24 #[.agg #[.slice a1 n1 c1, .slice a2 n2 c2]] w fun e w' => ∃ v1 v2, e = .returned (.agg #[v1, v2]) ∧ DiskO w' w.heap.size v1 n1 cs v2 n2 ws ∧ Below w.heap.size w w' := by
 have HA1 : Hid (∀ W, Below w.heap.size w W → ArgT W B a1 n1 cs) := fun W h => h1.below (h.mono hB)
 have HA2 : Hid (∀ W, Below w.heap.size w W → ArgWrite W B a2 n2 ws) := fun W h => h2.below (h.mono hB)
 have HBB : Hid (∀ W, Below w.heap.size w W → B ≤ W.heap.size) := fun W h => Nat.le_trans hB h.size
 clear h1 h2 hB
 have hb0 := Below.refl w.heap.size w
 go_enter Tryz.func24, Tryz.ntmps24
 go_upto_region 1 with fail
 obtain ⟨q1, hq1⟩ := exq (w.heap.size)
 obtain ⟨w1, hW1⟩ := exq (w.alloc (.cells #[.slice a1 n1 c1, .slice a2 n2 c2] 25))
 have hz1 := hq1.symm
 rw [← hW1]; try rw [← hq1]
 have hs1 := hsa hW1 hz1
 have bw := bal hW1
 have hb1 := hbt hb0 bw
 have B1_1 := hnew hW1 hz1
 clear hb0 bw hW1 hz1
 obtain ⟨q2, hq2⟩ := exq (q1 + 1)
 obtain ⟨w2, hW2⟩ := exq (w1.alloc (.cells #[.slice none 0 0, .slice none 0 0] 34))
 have hz2 : w1.heap.size = q2 := by rw [hq2]; exact hs1
 rw [← hW2]; try rw [← hq2]
 have hs2 := hsa hW2 hz2
 have bw := bal hW2
 have hb2 := hbt hb1 bw
 have B1_2 := hblk B1_1 bw
 have Nv1v2 := hnq B1_1 hz2
 have B2_2 := hnew hW2 hz2
 have Gv2 := hge hz2 hb1
 clear hb1 bw hW2 hz2
 clear hs2 hq2 hs1 hq1
 go_upto_region 2 with fail
 obtain ⟨q3, hq3⟩ := exq (w2.heap.size)
 obtain ⟨w3, hW3⟩ := exq (w2.alloc (.cells #[.slice none 0 0, .slice none 0 0] 34))
 have hz3 := hq3.symm
 rw [← hW3]; try rw [← hq3]
 have hs3 := hsa hW3 hz3
 have bw := bal hW3
 have hb3 := hbt hb2 bw
 have B1_3 := hblk B1_2 bw
 have B2_3 := hblk B2_2 bw
 have Nv1v3 := hnq B1_2 hz3
 have Nv2v3 := hnq B2_2 hz3
 have B3_3 := hnew hW3 hz3
 have Gv3 := hge hz3 hb2
 clear hb2 bw hW3 hz3
 clear hs3 hq3
 have c1_0 := (k2c B1_3).1
 go_wp2_with fail
 refine (toStringS_any B a1 n1 c1 cs _ (HA1.out _ hb3) (HBB.out _ hb3) hn1).mono ?_
 rintro e w4 ⟨vv, rfl, ownC, bw⟩
 obtain ⟨oC, pC, rfl⟩ := slice_of_owns ownC
 have hb4 := hbt hb3 bw
 have B1_4 := hblk B1_3 bw
 have B2_4 := hblk B2_3 bw
 have B3_4 := hblk B3_3 bw
 have HOC_4 := hwd ownC hb3.size
 clear ownC
 clear hb3 bw
 clear c1_0
 have c3_0 := (k2c B3_4).1
 have f3_0 := hfz B3_4 0
 go_upto_region 3 with fail
 obtain ⟨w5, hW5⟩ := exq (w4.setCell ⟨q3, 0, none⟩ (.slice oC n1 pC))
 rw [← hW5]
 have hb5 := hbS hW5 hb4 Gv3
 have HOC_5 := hsetR hW5 (own_ne HOC_4.out B3_4.out (by decide)) HOC_4
 have B1_5 := hset hW5 Nv1v3.out B1_4
 have B2_5 := hset hW5 Nv2v3.out B2_4
 have B3_5 := hput hW5 B3_4
 clear hb4 hW5
 clear c3_0 f3_0
 have c1_1 := (k2c B1_5).2
 go_wp2_with fail
 refine (toWriteS_any B a2 n2 c2 ws _ (HA2.out _ hb5) (HBB.out _ hb5) hn2).mono ?_
 rintro e w6 ⟨vv, rfl, ownP, bw⟩
 obtain ⟨oP, pP, rfl⟩ := slice_of_owns ownP
 have hb6 := hbt hb5 bw
 have HOC_6 := hown HOC_5 bw
 have B1_6 := hblk B1_5 bw
 have B2_6 := hblk B2_5 bw
 have B3_6 := hblk B3_5 bw
 have HOP_6 := hwd ownP hb5.size
 clear ownP
 clear hb5 bw
 clear c1_1
 have c3_1 := (k2c B3_6).2
 have f3_1 := hfz B3_6 1
 go_upto_region 4 with fail
 obtain ⟨w7, hW7⟩ := exq (w6.setCell ⟨q3, 1, none⟩ (.slice oP n2 pP))
 rw [← hW7]
 have hb7 := hbS hW7 hb6 Gv3
 have HOC_7 := hsetR hW7 (own_ne HOC_6.out B3_6.out (by decide)) HOC_6
 have HOP_7 := hsetR hW7 (own_ne HOP_6.out B3_6.out (by decide)) HOP_6
 have B1_7 := hset hW7 Nv1v3.out B1_6
 have B2_7 := hset hW7 Nv2v3.out B2_6
 have B3_7 := hput hW7 B3_6
 clear hb6 hW7
 clear c3_1 f3_1
 have c2_0 := (k2c B2_7).1
 have f2_0 := hfz B2_7 0
 have c2_1 := (k2c B2_7).2
 have f2_1 := hfz B2_7 1
 have c3_0 := (k2c B3_7).1
 have c3_1 := (k2c B3_7).2
 go_wp2_with fail
 obtain ⟨w8, hW8⟩ := exq (w7.setCell ⟨q2, 0, none⟩ (.slice oC n1 pC))
 rw [← hW8]
 have hb8 := hbS hW8 hb7 Gv2
 have HOC_8 := hsetR hW8 (own_ne HOC_7.out B2_7.out (by decide)) HOC_7
 have HOP_8 := hsetR hW8 (own_ne HOP_7.out B2_7.out (by decide)) HOP_7
 have B1_8 := hset hW8 Nv1v2.out B1_7
 have B3_8 := hset hW8 Nv2v3.out.symm B3_7
 have B2_8 := hput hW8 B2_7
 clear hb7 hW8
 obtain ⟨w9, hW9⟩ := exq (w8.setCell ⟨q2, 1, none⟩ (.slice oP n2 pP))
 rw [← hW9]
 have hb9 := hbS hW9 hb8 Gv2
 have HOC_9 := hsetR hW9 (own_ne HOC_8.out B2_8.out (by decide)) HOC_8
 have HOP_9 := hsetR hW9 (own_ne HOP_8.out B2_8.out (by decide)) HOP_8
 have B1_9 := hset hW9 Nv1v2.out B1_8
 have B3_9 := hset hW9 Nv2v3.out.symm B3_8
 have B2_9 := hput hW9 B2_8
 clear hb8 hW9
 have kv2_0 := (k2c B2_9).1
 have kv2_1 := (k2c B2_9).2
 refine bodyPost_ret (v := .agg #[.slice oC n1 pC, .slice oP n2 pP]) (by simp [results, Tryz.results24, go_sem, kv2_0, kv2_1]) rfl ?_
 exact ⟨_, _, rfl, ⟨HOC_9.out, HOP_9.out⟩, hb9⟩
def SzDiskR (L : Int) (n1 : Nat) (cs : Ts) (n2 : Nat) (ws : List (Int × ByteArray)) (w : World) (e : Ending) (w' : World) : Prop :=
 ∃ r : Int, e = .returned (.int .i64 r) ∧ r ≤ L ∧ (0 ≤ r → r + (n1 : Int) + (n2 : Int) ≤ L ∧ (n1 ≤ 1048576 ∧ ∀ i, i < n1 → (textAt cs i).size ≤ 1048576) ∧ n2 ≤ 1048576 ∧ ∀ x ∈ ws, (x.2).size ≤ 1048576) ∧ Below w.heap.size w w'
theorem szDisk_room (L : Int) (hL0 : 0 ≤ L) (hL1 : L ≤ 1048576) (a1 : Oa) (n1 c1 : Nat) (cs : Ts) (a2 : Oa) (n2 c2 : Nat) (ws : List (Int × ByteArray)) (B : Nat) (w : World) (h1 : ArgT w B a1 n1 cs) (h2 : ArgWrite w B a2 n2 ws) (hB : B ≤ w.heap.size) (hn1 : n1 ≤ maxLen) (hn2 : n2 ≤ maxLen) (hs1 : ∀ i, i < n1 → (textAt cs i).size ≤ maxLen) (hs2 : ∀ x ∈ ws, (x.2).size ≤ maxLen) :
  Calls Tryz.prog 19 #[.agg #[.slice a1 n1 c1, .slice a2 n2 c2], .int .i64 L] w fun e w' => SzDiskR L n1 cs n2 ws w e w' := by
 have HA1 : Hid (∀ W, Below w.heap.size w W → ArgT W B a1 n1 cs) := fun W h => h1.below (h.mono hB)
 have HA2 : Hid (∀ W, Below w.heap.size w W → ArgWrite W B a2 n2 ws) := fun W h => h2.below (h.mono hB)
 have HBB : Hid (∀ W, Below w.heap.size w W → B ≤ W.heap.size) := fun W h => Nat.le_trans hB h.size
 clear h1 h2 hB
 have HN1 := hid hn1
 have HN2 := hid hn2
 have HS1 := hid hs1
 have HS2 := hid hs2
 clear hs1 hs2 hn1 hn2
 have hb0 := Below.refl w.heap.size w
 go_enter Tryz.func19, Tryz.ntmps19
 go_upto_region 1 with fail
 obtain ⟨q1, hq1⟩ := exq (w.heap.size)
 obtain ⟨w1, hW1⟩ := exq (w.alloc (.cells #[.slice a1 n1 c1, .slice a2 n2 c2] 25))
 have hz1 := hq1.symm
 rw [← hW1]; try rw [← hq1]
 have hs1 := hsa hW1 hz1
 have bw := bal hW1
 have hb1 := hbt hb0 bw
 have B1_1 := hnew hW1 hz1
 clear hb0 bw hW1 hz1
 clear hs1 hq1
 have c1_0 := (k2c B1_1).1
 go_wp2_with fail
 refine (szStringS_exact L (by omega) (by omega) B a1 n1 c1 cs _ (HA1.out _ hb1) (HBB.out _ hb1) HN1.out HS1.out).mono ?_
 rintro e w2 ⟨r1, rfl, hl1, hr1, bw⟩
 have hb2 := hbt hb1 bw
 have B1_2 := hblk B1_1 bw
 clear hb1 bw
 clear c1_0
 by_cases hc1 : r1 < 0
 ·clear hr1
  go_wp2_with fail
  go_ret
  exact ⟨-1, rfl, by omega, fun h => absurd h (by omega), hb2⟩
 obtain ⟨he1, hm1, hz1⟩ := hr1 (by omega)
 have HZ1 : Hid _ := hz1
 clear hr1 hz1
 have c1_1 := (k2c B1_2).2
 go_wp2_with fail
 refine (szWriteS_room r1 (by omega) (by omega) B a2 n2 c2 ws _ (HA2.out _ hb2) (HBB.out _ hb2) HN2.out HS2.out).mono ?_
 rintro e w3 ⟨r2, rfl, hl2, hr2, bw⟩
 have hb3 := hbt hb2 bw
 have B1_3 := hblk B1_2 bw
 clear hb2 bw
 clear c1_1
 by_cases hc2 : r2 < 0
 ·clear hr2
  go_wp2_with fail
  go_ret
  exact ⟨-1, rfl, by omega, fun h => absurd h (by omega), hb3⟩
 obtain ⟨he2, hm2, hz2⟩ := hr2 (by omega)
 have HZ2 : Hid _ := hz2
 clear hr2 hz2
 go_wp2_with fail
 go_ret
 exact ⟨_, rfl, by omega, fun _ => ⟨by omega, ⟨by omega, HZ1.out⟩, by omega, HZ2.out⟩, hb3⟩
theorem eqDisk_any (n1 : Nat) (cs : Ts) (n2 : Nat) (ws : List (Int × ByteArray)) (v1 v2 u1 u2 : Value) (B1 B2 : Nat) (w : World) (hx : DiskO w B1 v1 n1 cs v2 n2 ws) (hy : DiskO w B2 u1 n1 cs u2 n2 ws) (hn1 : n1 ≤ 2000000) (hn2 : n2 ≤ 2000000) :
  Calls Tryz.prog 30 #[.agg #[v1, v2], .agg #[u1, u2]] w fun e w' => e = .returned (.bool true) ∧ Below w.heap.size w w' := by
 obtain ⟨oCx, pCx, rfl⟩ := slice_of_owns hx.cells
 have HOCx_0 : Hid (w.ownsRow B1 9 1 (.slice oCx n1 pCx) n1 (cs.map Value.string)) := hx.cells
 obtain ⟨oPx, pPx, rfl⟩ := slice_of_owns hx.pend
 have HOPx_0 : Hid (w.ownsRow B1 148 2 (.slice oPx n2 pPx) n2 (flatWrite ws)) := hx.pend
 clear hx
 obtain ⟨oCy, pCy, rfl⟩ := slice_of_owns hy.cells
 have HOCy_0 : Hid (w.ownsRow B2 9 1 (.slice oCy n1 pCy) n1 (cs.map Value.string)) := hy.cells
 obtain ⟨oPy, pPy, rfl⟩ := slice_of_owns hy.pend
 have HOPy_0 : Hid (w.ownsRow B2 148 2 (.slice oPy n2 pPy) n2 (flatWrite ws)) := hy.pend
 clear hy
 have hb0 := Below.refl w.heap.size w
 go_enter Tryz.func30, Tryz.ntmps30
 go_upto_region 1 with fail
 obtain ⟨q1, hq1⟩ := exq (w.heap.size)
 obtain ⟨w1, hW1⟩ := exq (w.alloc (.cells #[.slice oCx n1 pCx, .slice oPx n2 pPx] 34))
 have hz1 := hq1.symm
 rw [← hW1]; try rw [← hq1]
 have hs1 := hsa hW1 hz1
 have bw := bal hW1
 have hb1 := hbt hb0 bw
 have HOCx_1 := hown HOCx_0 bw
 have HOPx_1 := hown HOPx_0 bw
 have HOCy_1 := hown HOCy_0 bw
 have HOPy_1 := hown HOPy_0 bw
 have B1_1 := hnew hW1 hz1
 clear hb0 bw hW1 hz1
 obtain ⟨q2, hq2⟩ := exq (q1 + 1)
 obtain ⟨w2, hW2⟩ := exq (w1.alloc (.cells #[.slice oCy n1 pCy, .slice oPy n2 pPy] 34))
 have hz2 : w1.heap.size = q2 := by rw [hq2]; exact hs1
 rw [← hW2]; try rw [← hq2]
 have hs2 := hsa hW2 hz2
 have bw := bal hW2
 have hb2 := hbt hb1 bw
 have HOCx_2 := hown HOCx_1 bw
 have HOPx_2 := hown HOPx_1 bw
 have HOCy_2 := hown HOCy_1 bw
 have HOPy_2 := hown HOPy_1 bw
 have B1_2 := hblk B1_1 bw
 have B2_2 := hnew hW2 hz2
 clear hb1 bw hW2 hz2
 clear hs2 hq2 hs1 hq1
 have c1_0 := (k2c B1_2).1
 have c2_0 := (k2c B2_2).1
 go_wp2_with fail
 refine (eqS_any _ _ n1 _ _ cs _ HOCx_2.out HOCy_2.out (by omega)).mono ?_
 rintro e w3 ⟨rfl, bw⟩
 have hb3 := hbt hb2 bw
 have HOCx_3 := hown HOCx_2 bw
 have HOPx_3 := hown HOPx_2 bw
 have HOCy_3 := hown HOCy_2 bw
 have HOPy_3 := hown HOPy_2 bw
 have B1_3 := hblk B1_2 bw
 have B2_3 := hblk B2_2 bw
 clear hb2 bw
 clear c1_0 c2_0
 have c1_1 := (k2c B1_3).2
 have c2_1 := (k2c B2_3).2
 go_wp2_with fail
 refine (eqWriteS_any _ _ n2 _ _ ws _ (write_view HOPx_3.out) (write_view HOPy_3.out) (by omega)).mono ?_
 rintro e w4 ⟨rfl, bw⟩
 have hb4 := hbt hb3 bw
 have HOCx_4 := hown HOCx_3 bw
 have HOPx_4 := hown HOPx_3 bw
 have HOCy_4 := hown HOCy_3 bw
 have HOPy_4 := hown HOPy_3 bw
 have B1_4 := hblk B1_3 bw
 have B2_4 := hblk B2_3 bw
 clear hb3 bw
 clear c1_1 c2_1
 go_wp2_with fail
 go_ret
 exact ⟨rfl, hb4⟩
def DiskN (n : Nat) (ws : List (Int × ByteArray)) : Prop := n = 20 ∧ ws.length ≤ 16 ∧ ∀ x ∈ ws, 0 ≤ x.1 ∧ x.1 ≤ 19
def DiskP (cs : Ts) (ws : List (Int × ByteArray)) : Prop := cs.length = 20 ∧ ws.length ≤ 16 ∧ ∀ x ∈ ws, 0 ≤ x.1 ∧ x.1 ≤ 19
theorem getElem_textAt (l : Ts) (i : Nat) (h : i < l.length) : l[i]? = some (textAt l i) := by
 unfold textAt
 rw [List.getD_eq_getElem?_getD, List.getElem?_eq_getElem h]
 rfl
theorem textAt_set (l : Ts) (k j : Nat) (x : Tx) : textAt (l.set k x) j = if j = k ∧ k < l.length then x else textAt l j := by
 unfold textAt
 rw [List.getD_eq_getElem?_getD, List.getElem?_set, List.getD_eq_getElem?_getD]
 by_cases h : j = k
 rotate_left
 · rw [if_neg (fun e => h e.symm), if_neg (fun e => h e.1)]
 subst h
 by_cases h2 : j < l.length
 · simp [h2]
 rw [if_pos rfl, if_neg h2, if_neg (fun e => h2 e.2), List.getElem?_eq_none (by omega)]
def NamesP (xs : Ts) : Prop := (∀ x ∈ xs, TokOk x) ∧ xs.length ≤ 4
theorem textAt_mem (xs : Ts) (j : Nat) (h : j < xs.length) : textAt xs j ∈ xs := by
 unfold textAt
 rw [List.getD_eq_getElem?_getD, List.getElem?_eq_getElem h]
 exact List.getElem_mem _
theorem take_textAt (xs : Ts) (j : Nat) (h : j < xs.length) : xs.take (j + 1) = xs.take j ++ [textAt xs j] := by
 rw [List.take_add_one, List.getElem?_eq_getElem h]
 unfold textAt
 rw [List.getD_eq_getElem?_getD, List.getElem?_eq_getElem h]
 rfl
open Classical in
theorem l8Texts_any (oa ob : Oa) (m cm n cn : Nat) (xs ys : Ts) (w : World) (hx : TextsA w oa m xs) (hy : TextsA w ob n ys) (hm : m ≤ 2000000) :
  Calls Tryz.prog 92 #[.slice oa m cm, .slice ob n cn] w fun e w' => e = .returned (.bool (decide (xs = ys))) ∧ Below w.heap.size w w' := by
 have HX : Hid (∀ W, Below w.heap.size w W → TextsA W oa m xs) := fun W h => hx.below h
 have HY : Hid (∀ W, Below w.heap.size w W → TextsA W ob n ys) := fun W h => hy.below h
 have HLX : Hid (xs.length = m) := hx.1
 have HLY : Hid (ys.length = n) := hy.1
 clear hx hy
 go_enter Tryz.func92, Tryz.ntmps92
 go_wp2_with fail
 go_loopw [5] (fun i wr => ∃ j : Nat, j ≤ m ∧ j ≤ n ∧ i = .int .i64 (j : Int) ∧ Below w.heap.size w wr ∧ Hid (xs.take j = ys.take j)) (fun i _ => m - (intOf i).toNat)
 case atStart => exact ⟨0, Nat.zero_le _, Nat.zero_le _, rfl, Below.refl _ _, by show _ = _; simp⟩
 case round =>
  obtain ⟨j, hj, hj2, rfl, hbw, HN⟩ := hrel
  by_cases hlt : (j : Int) < (m : Int)
  rotate_left
  ·have HE : Hid (decide (xs = ys) = decide ((m : Int) = (n : Int))) := by
    show _ = _
    rw [decide_eq_decide]
    constructor
    · intro h; have h1 := HLX.out; have h2 := HLY.out; rw [h] at h1; omega
    ·intro h
     have h1 := HN.out
     rw [List.take_of_length_le (by rw [HLX.out]; omega), List.take_of_length_le (by rw [HLY.out]; omega)] at h1
     exact h1
   clear HN
   go_wp2_with fail
   go_ret
   exact ⟨by rw [HE.out]; rfl, hbw⟩
  by_cases hlt2 : (j : Int) < (n : Int)
  rotate_left
  ·have HE : Hid (decide (xs = ys) = decide ((m : Int) = (n : Int))) := by
    show _ = _
    rw [decide_eq_decide]
    constructor
    · intro h; have h1 := HLX.out; have h2 := HLY.out; rw [h] at h1; omega
    · intro h; omega
   clear HN
   go_wp2_with fail
   go_ret
   exact ⟨by rw [HE.out]; rfl, hbw⟩
  have hjx : j < xs.length := by rw [HLX.out]; omega
  have hjy : j < ys.length := by rw [HLY.out]; omega
  obtain ⟨g, rfl, hg, hc⟩ := (HX.out wr hbw).2 j (by omega)
  obtain ⟨g2, rfl, hg2, hc2⟩ := (HY.out wr hbw).2 j (by omega)
  obtain ⟨x, hxx⟩ := exq (textAt xs j)
  obtain ⟨y, hyy⟩ := exq (textAt ys j)
  rw [← hxx] at hc
  rw [← hyy] at hc2
  by_cases he : x = y
  rotate_left
  ·have t0 : (x.toList == y.toList) = false := text_beq_no he
   have t1 : (x.toList != y.toList) = true := by rw [bne, t0]; rfl
   have HE : Hid (decide (xs = ys) = false) := decide_eq_false (fun h => he (by rw [hxx, hyy, h]))
   clear he hxx hyy hjx hjy HN
   go_wp2_with fail
   go_quiet (fail)
   go_wp2
   go_ret
   exact ⟨by rw [HE.out]; rfl, below_drewN hbw _⟩
  have HN2 : Hid (xs.take (j + 1) = ys.take (j + 1)) := by
   show _ = _
   rw [take_textAt xs j hjx, take_textAt ys j hjy, ← hxx, ← hyy, HN.out, he]
  subst he
  clear hxx hyy hjx hjy HN
  go_wp2_with fail
  go_quiet (fail)
  go_wp2
  go_roundw
  case rel => exact ⟨j + 1, by omega, by omega, by go_num, below_drewN hbw _, HN2⟩
  case measure => simp [intOf]; omega
def ObjP (p : Tx) (xs ys : Ts) (st : Int) (fs : Fs) (b : Tx) (t : Int) : Prop :=
 RespP st fs b ∧ PathOk p ∧ (0 ≤ t ∧ t ≤ 1000000) ∧ NamesP xs ∧ xs = varyP fs ∧ ys.length = xs.length ∧ ∀ y ∈ ys, ValOk y
theorem texts_view {w : World} {base n p : Nat} {o : Oa} {xs : Ts} (h : w.ownsRow base 9 1 (.slice o n p) n (xs.map Value.string)) : TextsA w o n xs := by
 obtain ⟨oa, ca, he, hx⟩ := texts_own h
 cases he
 exact hx
def BanP (k : Int) (a b : Tx) (t : Int) : Prop := (0 ≤ t ∧ t ≤ 1000000) ∧ (((k = 1 ∨ k = 2) ∧ PathOk a ∧ b = ⟨#[]⟩) ∨ (k = 3 ∧ TokOk a ∧ ValOk b))
theorem BanP.kinds {k : Int} {a b : ByteArray} {t : Int} (h : BanP k a b t) : k = 1 ∨ k = 2 ∨ k = 3 := by
 rcases h.2 with ⟨h1 | h1, _⟩ | ⟨h1, _⟩
 · exact .inl h1
 · exact .inr (.inl h1)
 · exact .inr (.inr h1)
theorem specBanOk_any (k : Int) (a b : Tx) (t : Int) (w : World) (ha : a.size ≤ maxLen) (hb : b.size ≤ maxLen) :
    Calls Tryz.prog 53 #[.agg #[.int .i64 k, .string a, .string b, .int .i64 t]] w fun e w' => BoolIs (BanP k a b t) w e w' := by
  have HAM := hid ha
  have HBM := hid hb
  clear ha hb
  have hb0 := Below.refl w.heap.size w
  go_enter Tryz.func53, Tryz.ntmps53
  go_upto_region 1 with fail
  obtain ⟨q1, hq1⟩ := exq (w.heap.size)
  obtain ⟨w1, hW1⟩ := exq (w.alloc (.cells #[.int .i64 k, .string a, .string b, .int .i64 t] 111))
  have hz1 := hq1.symm
  rw [← hW1]; try rw [← hq1]
  have hs1 := hsa hW1 hz1
  have bw := bal hW1
  have hb1 := hbt hb0 bw
  have B1_1 := hnew hW1 hz1
  clear hb0 bw hW1 hz1
  clear hs1 hq1
  have c1_3 := (k4c B1_1).2.2.2
  go_wp2_with fail
  refine (l1In_any t 0 1000000 _).mono ?_
  rintro e w2 ⟨rfl, hwe⟩
  have bw : Below w1.heap.size (w1) w2 := by rw [hwe]; exact Below.refl _ _
  clear hwe
  obtain ⟨ut, hut⟩ : ∃ u, u = decide ((0 : Int) ≤ t ∧ t ≤ 1000000) := ⟨_, rfl⟩
  rw [← hut]
  have hb2 := hbt hb1 bw
  have B1_2 := hblk B1_1 bw
  clear hb1 bw
  clear c1_3
  cases ut
  · have Hut : Hid (¬ (0 ≤ t ∧ t ≤ 1000000)) := (show ¬ (0 ≤ t ∧ t ≤ 1000000) from of_decide_eq_false hut.symm)
    clear hut
    go_wp2_with fail
    go_ret
    refine ⟨false, rfl, ?_, hb2⟩
    have zHut := Hut.out
    unfold BanP
    first
      | (simp_all; done)
      | (constructor
         · intro h
           first
             | (cases h; done)
             | exact ⟨zHut, .inl ⟨.inl zHK1, zHup, zHBE⟩⟩
             | exact ⟨zHut, .inl ⟨.inr zHK2, zHup, zHBE⟩⟩
             | exact ⟨zHut, .inr ⟨zHK3, zHuk, zv.1 h⟩⟩
             | exact ⟨zHut, .inr ⟨zHK3, zHuk, zHuv⟩⟩
         · rintro ⟨h1, (⟨h2 | h2, h3, h4⟩ | ⟨h2, h3, h4⟩)⟩
           all_goals first
             | rfl
             | exact zv.2 h4
             | (exfalso; first | exact zHut h1 | exact zHup h3 | exact zHuk h3 | exact zHBE h4 | exact zHuv h4 | omega))
  have Hut : Hid (0 ≤ t ∧ t ≤ 1000000) := (show 0 ≤ t ∧ t ≤ 1000000 from of_decide_eq_true hut.symm)
  clear hut
  have c1_0 := (k4c B1_2).1
  by_cases hc1 : k = 1
  · have hc1b : ((k : Int) == (1 : Int)) = true := by simpa using hc1
    have hc1n : ((k : Int) != (1 : Int)) = false := by simpa using hc1
    have HK1 : Hid (k = 1) := hc1
    have hc1H : Hid (k = 1) := hc1
    clear hc1
    have c1_1 := (k4c B1_2).2.1
    go_wp2_with fail
    refine (l3Path_any a _ HAM.out).mono ?_
    rintro e w3 ⟨up, rfl, htup, bw⟩
    have hb3 := hbt hb2 bw
    have HM3 := hsz bw
    have B1_3 := hblk B1_2 bw
    clear hb2 bw
    clear c1_0 c1_1
    cases up
    · have Hup : Hid (¬ PathOk a) := fun h => nomatch htup.2 h
      clear htup
      go_wp2_with fail
      go_ret
      refine ⟨false, rfl, ?_, hb3⟩
      have zHut := Hut.out
      have zHK1 := HK1.out
      have zHup := Hup.out
      unfold BanP
      first
        | (simp_all; done)
        | (constructor
           · intro h
             first
               | (cases h; done)
               | exact ⟨zHut, .inl ⟨.inl zHK1, zHup, zHBE⟩⟩
               | exact ⟨zHut, .inl ⟨.inr zHK2, zHup, zHBE⟩⟩
               | exact ⟨zHut, .inr ⟨zHK3, zHuk, zv.1 h⟩⟩
               | exact ⟨zHut, .inr ⟨zHK3, zHuk, zHuv⟩⟩
           · rintro ⟨h1, (⟨h2 | h2, h3, h4⟩ | ⟨h2, h3, h4⟩)⟩
             all_goals first
               | rfl
               | exact zv.2 h4
               | (exfalso; first | exact zHut h1 | exact zHup h3 | exact zHuk h3 | exact zHBE h4 | exact zHuv h4 | omega))
    have Hup : Hid (PathOk a) := htup.1 rfl
    clear htup
    have c1_2 := (k4c B1_3).2.2.1
    by_cases hc2 : b = ⟨#[]⟩
    · have hc2b : (b).toList.isEmpty = true := isEmpty_yes (by rw [hc2]; rfl)
      have HBE := hid hc2
      go_wp2_with fail
      go_ret
      refine ⟨true, rfl, ?_, hb3⟩
      have zHut := Hut.out
      have zHK1 := HK1.out
      have zHup := Hup.out
      have zHBE := HBE.out
      unfold BanP
      first
        | (simp_all; done)
        | (constructor
           · intro h
             first
               | (cases h; done)
               | exact ⟨zHut, .inl ⟨.inl zHK1, zHup, zHBE⟩⟩
               | exact ⟨zHut, .inl ⟨.inr zHK2, zHup, zHBE⟩⟩
               | exact ⟨zHut, .inr ⟨zHK3, zHuk, zv.1 h⟩⟩
               | exact ⟨zHut, .inr ⟨zHK3, zHuk, zHuv⟩⟩
           · rintro ⟨h1, (⟨h2 | h2, h3, h4⟩ | ⟨h2, h3, h4⟩)⟩
             all_goals first
               | rfl
               | exact zv.2 h4
               | (exfalso; first | exact zHut h1 | exact zHup h3 | exact zHuk h3 | exact zHBE h4 | exact zHuv h4 | omega))
    have hc2b : (b).toList.isEmpty = false := isEmpty_no (Nat.pos_of_ne_zero (fun e => hc2 (empty_text e)))
    have HBE := hid hc2
    go_wp2_with fail
    go_ret
    refine ⟨false, rfl, ?_, hb3⟩
    have zHut := Hut.out
    have zHK1 := HK1.out
    have zHup := Hup.out
    have zHBE := HBE.out
    unfold BanP
    first
      | (simp_all; done)
      | (constructor
         · intro h
           first
             | (cases h; done)
             | exact ⟨zHut, .inl ⟨.inl zHK1, zHup, zHBE⟩⟩
             | exact ⟨zHut, .inl ⟨.inr zHK2, zHup, zHBE⟩⟩
             | exact ⟨zHut, .inr ⟨zHK3, zHuk, zv.1 h⟩⟩
             | exact ⟨zHut, .inr ⟨zHK3, zHuk, zHuv⟩⟩
         · rintro ⟨h1, (⟨h2 | h2, h3, h4⟩ | ⟨h2, h3, h4⟩)⟩
           all_goals first
             | rfl
             | exact zv.2 h4
             | (exfalso; first | exact zHut h1 | exact zHup h3 | exact zHuk h3 | exact zHBE h4 | exact zHuv h4 | omega))
  have hc1b : ((k : Int) == (1 : Int)) = false := by simpa using hc1
  have hc1n : ((k : Int) != (1 : Int)) = true := by simpa using hc1
  have HK1 := hid hc1
  have hc1H := hid hc1
  clear hc1
  by_cases hc2 : k = 2
  · have hc2b : ((k : Int) == (2 : Int)) = true := by simpa using hc2
    have hc2n : ((k : Int) != (2 : Int)) = false := by simpa using hc2
    have HK2 : Hid (k = 2) := hc2
    have hc2H : Hid (k = 2) := hc2
    clear hc2
    have c1_1 := (k4c B1_2).2.1
    go_wp2_with fail
    refine (l3Path_any a _ HAM.out).mono ?_
    rintro e w3 ⟨up, rfl, htup, bw⟩
    have hb3 := hbt hb2 bw
    have HM3 := hsz bw
    have B1_3 := hblk B1_2 bw
    clear hb2 bw
    clear c1_0 c1_1
    cases up
    · have Hup : Hid (¬ PathOk a) := fun h => nomatch htup.2 h
      clear htup
      go_wp2_with fail
      go_ret
      refine ⟨false, rfl, ?_, hb3⟩
      have zHut := Hut.out
      have zHK1 := HK1.out
      have zHK2 := HK2.out
      have zHup := Hup.out
      unfold BanP
      first
        | (simp_all; done)
        | (constructor
           · intro h
             first
               | (cases h; done)
               | exact ⟨zHut, .inl ⟨.inl zHK1, zHup, zHBE⟩⟩
               | exact ⟨zHut, .inl ⟨.inr zHK2, zHup, zHBE⟩⟩
               | exact ⟨zHut, .inr ⟨zHK3, zHuk, zv.1 h⟩⟩
               | exact ⟨zHut, .inr ⟨zHK3, zHuk, zHuv⟩⟩
           · rintro ⟨h1, (⟨h2 | h2, h3, h4⟩ | ⟨h2, h3, h4⟩)⟩
             all_goals first
               | rfl
               | exact zv.2 h4
               | (exfalso; first | exact zHut h1 | exact zHup h3 | exact zHuk h3 | exact zHBE h4 | exact zHuv h4 | omega))
    have Hup : Hid (PathOk a) := htup.1 rfl
    clear htup
    have c1_2 := (k4c B1_3).2.2.1
    by_cases hc3 : b = ⟨#[]⟩
    · have hc3b : (b).toList.isEmpty = true := isEmpty_yes (by rw [hc3]; rfl)
      have HBE := hid hc3
      go_wp2_with fail
      go_ret
      refine ⟨true, rfl, ?_, hb3⟩
      have zHut := Hut.out
      have zHK1 := HK1.out
      have zHK2 := HK2.out
      have zHup := Hup.out
      have zHBE := HBE.out
      unfold BanP
      first
        | (simp_all; done)
        | (constructor
           · intro h
             first
               | (cases h; done)
               | exact ⟨zHut, .inl ⟨.inl zHK1, zHup, zHBE⟩⟩
               | exact ⟨zHut, .inl ⟨.inr zHK2, zHup, zHBE⟩⟩
               | exact ⟨zHut, .inr ⟨zHK3, zHuk, zv.1 h⟩⟩
               | exact ⟨zHut, .inr ⟨zHK3, zHuk, zHuv⟩⟩
           · rintro ⟨h1, (⟨h2 | h2, h3, h4⟩ | ⟨h2, h3, h4⟩)⟩
             all_goals first
               | rfl
               | exact zv.2 h4
               | (exfalso; first | exact zHut h1 | exact zHup h3 | exact zHuk h3 | exact zHBE h4 | exact zHuv h4 | omega))
    have hc3b : (b).toList.isEmpty = false := isEmpty_no (Nat.pos_of_ne_zero (fun e => hc3 (empty_text e)))
    have HBE := hid hc3
    go_wp2_with fail
    go_ret
    refine ⟨false, rfl, ?_, hb3⟩
    have zHut := Hut.out
    have zHK1 := HK1.out
    have zHK2 := HK2.out
    have zHup := Hup.out
    have zHBE := HBE.out
    unfold BanP
    first
      | (simp_all; done)
      | (constructor
         · intro h
           first
             | (cases h; done)
             | exact ⟨zHut, .inl ⟨.inl zHK1, zHup, zHBE⟩⟩
             | exact ⟨zHut, .inl ⟨.inr zHK2, zHup, zHBE⟩⟩
             | exact ⟨zHut, .inr ⟨zHK3, zHuk, zv.1 h⟩⟩
             | exact ⟨zHut, .inr ⟨zHK3, zHuk, zHuv⟩⟩
         · rintro ⟨h1, (⟨h2 | h2, h3, h4⟩ | ⟨h2, h3, h4⟩)⟩
           all_goals first
             | rfl
             | exact zv.2 h4
             | (exfalso; first | exact zHut h1 | exact zHup h3 | exact zHuk h3 | exact zHBE h4 | exact zHuv h4 | omega))
  have hc2b : ((k : Int) == (2 : Int)) = false := by simpa using hc2
  have hc2n : ((k : Int) != (2 : Int)) = true := by simpa using hc2
  have HK2 := hid hc2
  have hc2H := hid hc2
  clear hc2
  by_cases hc3 : k = 3
  rotate_left
  · have hc3b : ((k : Int) == (3 : Int)) = false := by simpa using hc3
    have hc3n : ((k : Int) != (3 : Int)) = true := by simpa using hc3
    have HK3 := hid hc3
    have hc3H := hid hc3
    clear hc3
    go_wp2_with fail
    go_ret
    refine ⟨false, rfl, ?_, hb2⟩
    have zHut := Hut.out
    have zHK1 := HK1.out
    have zHK2 := HK2.out
    have zHK3 := HK3.out
    unfold BanP
    first
      | (simp_all; done)
      | (constructor
         · intro h
           first
             | (cases h; done)
             | exact ⟨zHut, .inl ⟨.inl zHK1, zHup, zHBE⟩⟩
             | exact ⟨zHut, .inl ⟨.inr zHK2, zHup, zHBE⟩⟩
             | exact ⟨zHut, .inr ⟨zHK3, zHuk, zv.1 h⟩⟩
             | exact ⟨zHut, .inr ⟨zHK3, zHuk, zHuv⟩⟩
         · rintro ⟨h1, (⟨h2 | h2, h3, h4⟩ | ⟨h2, h3, h4⟩)⟩
           all_goals first
             | rfl
             | exact zv.2 h4
             | (exfalso; first | exact zHut h1 | exact zHup h3 | exact zHuk h3 | exact zHBE h4 | exact zHuv h4 | omega))
  have hc3b : ((k : Int) == (3 : Int)) = true := by simpa using hc3
  have hc3n : ((k : Int) != (3 : Int)) = false := by simpa using hc3
  have HK3 : Hid (k = 3) := hc3
  have hc3H : Hid (k = 3) := hc3
  clear hc3
  have c1_1 := (k4c B1_2).2.1
  go_wp2_with fail
  refine (specTokenOk_any a _ HAM.out).mono ?_
  rintro e w3 ⟨uk, rfl, htuk, bw⟩
  have hb3 := hbt hb2 bw
  have HM3 := hsz bw
  have B1_3 := hblk B1_2 bw
  clear hb2 bw
  clear c1_0 c1_1
  cases uk
  · have Huk : Hid (¬ TokOk a) := fun h => nomatch htuk.2 h
    clear htuk
    go_wp2_with fail
    go_ret
    refine ⟨false, rfl, ?_, hb3⟩
    have zHut := Hut.out
    have zHK1 := HK1.out
    have zHK2 := HK2.out
    have zHK3 := HK3.out
    have zHuk := Huk.out
    unfold BanP
    first
      | (simp_all; done)
      | (constructor
         · intro h
           first
             | (cases h; done)
             | exact ⟨zHut, .inl ⟨.inl zHK1, zHup, zHBE⟩⟩
             | exact ⟨zHut, .inl ⟨.inr zHK2, zHup, zHBE⟩⟩
             | exact ⟨zHut, .inr ⟨zHK3, zHuk, zv.1 h⟩⟩
             | exact ⟨zHut, .inr ⟨zHK3, zHuk, zHuv⟩⟩
         · rintro ⟨h1, (⟨h2 | h2, h3, h4⟩ | ⟨h2, h3, h4⟩)⟩
           all_goals first
             | rfl
             | exact zv.2 h4
             | (exfalso; first | exact zHut h1 | exact zHup h3 | exact zHuk h3 | exact zHBE h4 | exact zHuv h4 | omega))
  have Huk : Hid (TokOk a) := htuk.1 rfl
  clear htuk
  have c1_2 := (k4c B1_3).2.2.1
  go_wp2_with fail
  refine (specValueOk_any b _ HBM.out).mono ?_
  rintro e w4 ⟨uv, rfl, htuv, bw⟩
  have hb4 := hbt hb3 bw
  have B1_4 := hblk B1_3 bw
  clear hb3 bw
  clear c1_2
  go_wp2_with fail
  go_ret
  refine ⟨uv, rfl, ?_, hb4⟩
  have zHut := Hut.out
  have zHK1 := HK1.out
  have zHK2 := HK2.out
  have zHK3 := HK3.out
  have zHuk := Huk.out
  have zv := htuv
  unfold BanP
  first
    | (simp_all; done)
    | (constructor
       · intro h
         first
           | (cases h; done)
           | exact ⟨zHut, .inl ⟨.inl zHK1, zHup, zHBE⟩⟩
           | exact ⟨zHut, .inl ⟨.inr zHK2, zHup, zHBE⟩⟩
           | exact ⟨zHut, .inr ⟨zHK3, zHuk, zv.1 h⟩⟩
           | exact ⟨zHut, .inr ⟨zHK3, zHuk, zHuv⟩⟩
       · rintro ⟨h1, (⟨h2 | h2, h3, h4⟩ | ⟨h2, h3, h4⟩)⟩
         all_goals first
           | rfl
           | exact zv.2 h4
           | (exfalso; first | exact zHut h1 | exact zHup h3 | exact zHuk h3 | exact zHBE h4 | exact zHuv h4 | omega))
theorem l9Names_any (oa : Oa) (m cm : Nat) (xs : Ts) (w : World) (hx : TextsA w oa m xs) (hm : m ≤ 2000000) (hsz : ∀ i, i < m → (textAt xs i).size ≤ maxLen) :
  Calls Tryz.prog 91 #[.slice oa m cm] w fun e w' => BoolIs (NamesP xs) w e w' := by
 have HX : Hid (∀ W, Below w.heap.size w W → TextsA W oa m xs) := fun W h => hx.below h
 have HL : Hid (xs.length = m) := hx.1
 have HS := hid hsz
 clear hx hsz
 go_enter Tryz.func91, Tryz.ntmps91
 go_wp2_with fail
 go_loopw [3] (fun i wr => ∃ j : Nat, j ≤ m ∧ i = .int .i64 (j : Int) ∧ Below w.heap.size w wr ∧ Hid (∀ x ∈ xs.take j, TokOk x)) (fun i _ => m - (intOf i).toNat)
 case atStart => exact ⟨0, Nat.zero_le _, rfl, Below.refl _ _, fun x hx => by simp at hx⟩
 case round =>
  obtain ⟨j, hj, rfl, hbw, HN⟩ := hrel
  by_cases hlt : (j : Int) < (m : Int)
  rotate_left
  ·have HA : Hid (∀ x ∈ xs, TokOk x) := by
    have h := HN.out
    rw [List.take_of_length_le (by rw [HL.out]; omega)] at h
    exact h
   have HQ : Hid (((m : Int) ≤ 4) ↔ NamesP xs) := ⟨fun h => ⟨HA.out, by rw [HL.out]; omega⟩, fun h => by have := h.2; rw [HL.out] at this; omega⟩
   clear HN
   go_wp2_with fail
   go_ret
   exact ⟨decide ((m : Int) ≤ 4), rfl, by rw [decide_eq_true_iff]; exact HQ.out, hbw⟩
  have hjx : j < xs.length := by rw [HL.out]; omega
  obtain ⟨g, rfl, hg, hc⟩ := (HX.out wr hbw).2 j (by omega)
  have hs := HS.out j (by omega)
  obtain ⟨x, hxx⟩ := exq (textAt xs j)
  rw [← hxx] at hc hs
  have HM : Hid (x ∈ xs) := by show _ ∈ _; rw [hxx]; exact textAt_mem xs j hjx
  have HT : Hid (xs.take (j + 1) = xs.take j ++ [x]) := by show _ = _; rw [take_textAt xs j hjx, hxx]
  clear hxx hjx
  go_wp2_with fail
  refine (specTokenOk_any x _ hs).mono ?_
  rintro e w1 ⟨t, rfl, ht, b1⟩
  have hb1 : Below w.heap.size w w1 := hbw.trans (b1.mono hbw.size)
  clear b1 hbw hc
  cases t
  ·have HF : Hid (¬ NamesP xs) := fun h => nomatch ht.2 (h.1 x HM.out)
   clear ht HN
   go_wp2_with fail
   go_ret
   exact BoolIs.no HF.out hb1
  have HN2 : Hid (∀ y ∈ xs.take (j + 1), TokOk y) := by
   intro y hy
   rw [HT.out] at hy
   rcases List.mem_append.1 hy with hy | hy
   · exact HN.out y hy
   · rw [List.mem_singleton.1 hy]; exact ht.1 rfl
  clear ht HN
  go_wp2_with fail
  go_roundw
  case rel => exact ⟨j + 1, by omega, by go_num, hb1, HN2⟩
  case measure => simp [intOf]; omega
theorem wpAnyH_takeD {P : Program} {ops : Array Oper} {Q : Exit → Act → World → Prop} {md : Region.Mode} {S : World → Prop} {i : Nat} {oi : Oper} {v : Value} {fuel : Nat} {listed : Array Bool} {a : Act} {w : World} (d : Option Tmp) (hi : ops[i]? = some oi) (hd : oi.dst = d)
  (hs : Region.noSelect ops = true) (hf : Region.free md ops listed i = true) (hr : (Region.ready md ops listed).contains i = true)
  (hQ : ∀ c a w, Q (.panic c) (a.put oi.dst v) w → Q (.panic c) a w) (hy : YieldsIf P ops S oi v a) (hS : S w)
  (h : wpAnyH P md ops Q S fuel (listed.setIfInBounds i true) (a.put d v) w) : wpAnyH P md ops Q S (fuel + 1) listed a w :=
 wpAnyH_take hi hs hf hr hQ hy hS (hd ▸ h)
theorem specObjOk_any (p : Tx) (o1 : Oa) (n1 c1 : Nat) (xs : Ts) (o2 : Oa) (n2 c2 : Nat) (ys : Ts) (st : Int) (v3 : Value) (n3 base : Nat) (fs : Fs) (b : Tx) (t : Int) (w : World) (h1 : TextsA w o1 n1 xs) (h2 : TextsA w o2 n2 ys) (h3 : FieldsV w base v3 n3 fs) (hn1 : n1 ≤ 2000000) (hn2 : n2 ≤ 2000000) (hn3 : n3 ≤ 2000000) (hs1 : ∀ i, i < n1 → (textAt xs i).size ≤ maxLen) (hs2 : ∀ i, i < n2 → (textAt ys i).size ≤ maxLen) (hs3 : WalkF n3 fs) (hp : p.size ≤ maxLen) (hx : b.size ≤ maxLen) (hg : (getV fs varyName).size ≤ 1048576) :
  Calls Tryz.prog 54 #[.agg #[.string p, .slice o1 n1 c1, .slice o2 n2 c2, .int .i64 st, v3, .string b, .int .i64 t]] w fun e w' => BoolIs (ObjP p xs ys st fs b t) w e w' := by
 obtain ⟨o3, c3, rfl, _⟩ := h3.slice
 have HV1 : Hid (∀ W, Below w.heap.size w W → TextsA W o1 n1 xs) := fun W h => h1.below h
 have HV2 : Hid (∀ W, Below w.heap.size w W → TextsA W o2 n2 ys) := fun W h => h2.below h
 have HV3 : Hid (∀ W, Below w.heap.size w W → FieldsV W base (.slice o3 n3 c3) n3 fs) := fun W h => h3.below h
 have HL1 : Hid (xs.length = n1) := h1.1
 have HL2 : Hid (ys.length = n2) := h2.1
 have HS1 := hid hs1
 have HS2 := hid hs2
 have HS3 := hid hs3
 have HPM := hid hp
 have HX := hid hx
 have HG := hid hg
 obtain ⟨vl, hvl⟩ := exq (varyP fs)
 have HVL : Hid (varyP fs = vl) := hvl.symm
 clear h1 h2 h3 hs1 hs2 hs3 hp hx hg hvl
 have hb0 := Below.refl w.heap.size w
 go_enter Tryz.func54, Tryz.ntmps54
 go_upto_region 1 with fail
 obtain ⟨q1, hq1⟩ := exq (w.heap.size)
 obtain ⟨w1, hW1⟩ := exq (w.alloc (.cells #[.string p, .slice o1 n1 c1, .slice o2 n2 c2, .int .i64 st, .slice o3 n3 c3, .string b, .int .i64 t] 51))
 have hz1 := hq1.symm
 rw [← hW1]; try rw [← hq1]
 have hs1 := hsa hW1 hz1
 have bw := bal hW1
 have hb1 := hbt hb0 bw
 have B1_1 := hnew hW1 hz1
 clear hb0 bw hW1 hz1
 clear hs1 hq1
 go_upto_region 1 with fail
 refine wp_region_held_drew (S := fun W => W.heap[q1]? = some (.cells #[.string p, .slice o1 n1 c1, .slice o2 n2 c2, .int .i64 st, .slice o3 n3 c3, .string b, .int .i64 t] 51)) (by kernel_rfl) B1_1.out (fun _ => ?_)
 obtain ⟨w2, hX⟩ := exq w1.drew
 have bw := bdr hX
 rw [← hX]
 have hb2 := hbt hb1 bw
 have B1_2 := hblk B1_1 bw
 have hS2 := B1_2.out
 clear hb1 bw hX
 refine tkP 0 (.pointer (some ⟨q1, 3, none⟩)) 4 rfl rfl hS2 ?_
 go_frame
 refine tkL 1 (.agg #[.int .i64 st, .slice o3 n3 c3, .string b]) 5 rfl rfl (Or.inl ⟨by rfl, by intro W hW; have hhv1 := hW; have y3 := (cell_of hhv1 3).trans rfl; have y4 := (cell_of hhv1 4).trans rfl; have y5 := (cell_of hhv1 5).trans rfl; go_simp⟩) hS2 ?_
 go_frame
 refine rd1 2 rfl (fun K hK => ?_)
 go_simp
 refine (specRespOk_any st _ b n3 base fs _ (HV3.out _ hb2) (by omega) HS3.out HX.out).mono ?_
 rintro e w3 ⟨u1, rfl, htu1, bw⟩
 have hb3 := hbt hb2 bw
 have B1_3 := hblk B1_2 bw
 clear hb2 bw
 have hS3 := B1_3.out
 refine hK.out _ _ hS3 (fun _ => ?_)
 clear hK K hS2
 cases u1
 ·have HF : Hid (¬ ObjP p xs ys st fs b t) := fun h => nomatch htu1.2 h.1
  clear htu1
  refine tkP 3 (.bool true) 7 rfl rfl hS3 (tkP 4 (.bool true) 8 rfl rfl hS3 (tkN 5 9 rfl rfl hS3 ?_))
  go_frame
  refine tkN 6 10 rfl rfl hS3 (tkN 7 11 rfl rfl hS3 (tkN 8 12 rfl rfl hS3 ?_))
  go_frame
  refine tkP 9 (.bool true) 13 rfl rfl hS3 (tkP 10 (.bool true) 14 rfl rfl hS3 (tkN 11 15 rfl rfl hS3 ?_))
  go_frame
  refine tkN 12 16 rfl rfl hS3 (tkN 13 17 rfl rfl hS3 (tkN 14 18 rfl rfl hS3 ?_))
  go_frame
  refine tkP 15 (.bool true) 19 rfl rfl hS3 (tkP 16 (.bool true) 20 rfl rfl hS3 (tkN 17 21 rfl rfl hS3 ?_))
  go_frame
  refine tkN 18 22 rfl rfl hS3 (tkN 19 23 rfl rfl hS3 (tkN 20 24 rfl rfl hS3 ?_))
  go_frame
  refine tkP 21 (.bool true) 25 rfl rfl hS3 (tkP 22 (.bool true) 26 rfl rfl hS3 (tkN 23 27 rfl rfl hS3 ?_))
  go_frame
  refine tkN 24 28 rfl rfl hS3 (tkN 25 29 rfl rfl hS3 (tkN 26 30 rfl rfl hS3 ?_))
  go_frame
  refine tkN 27 31 rfl rfl hS3 (tkN 28 32 rfl rfl hS3 (tkN 29 33 rfl rfl hS3 ?_))
  go_frame
  refine tkN 30 34 rfl rfl hS3 (tkP 31 (.bool true) 35 rfl rfl hS3 (tkP 32 (.bool true) 36 rfl rfl hS3 ?_))
  go_frame
  refine tkN 33 37 rfl rfl hS3 (tkN 34 38 rfl rfl hS3 (tkN 35 39 rfl rfl hS3 ?_))
  go_frame
  refine tkN 36 40 rfl rfl hS3 (tkN 37 41 rfl rfl hS3 (tkN 38 42 rfl rfl hS3 ?_))
  go_frame
  refine tkN 39 43 rfl rfl hS3 (tkP 40 (.bool true) 44 rfl rfl hS3 ?_)
  go_frame
  clear hS3
  refine wdn ?_
  go_wp2_with fail
  go_ret
  exact BoolIs.no HF.out hb3
 have HR : Hid (RespP st fs b) := htu1.1 rfl
 clear htu1
 refine tkP 3 (.bool false) 7 rfl rfl hS3 (tkP 4 (.bool false) 8 rfl rfl hS3 (tkP 5 (.pointer (some ⟨q1, 0, none⟩)) 9 rfl rfl hS3 ?_))
 go_frame
 refine tkL 6 (.string p) 10 rfl rfl (Or.inl ⟨by rfl, by intro W hW; have hhv1 := hW; have y0 := (cell_of hhv1 0).trans rfl; go_simp⟩) hS3 ?_
 go_frame
 refine rd1 7 rfl (fun K hK => ?_)
 go_simp
 refine (l3Path_any p _ HPM.out).mono ?_
 rintro e w4 ⟨u2, rfl, htu2, bw⟩
 have hb4 := hbt hb3 bw
 have B1_4 := hblk B1_3 bw
 clear hb3 bw
 have hS4 := B1_4.out
 refine hK.out _ _ hS4 (fun _ => ?_)
 clear hK K hS3
 cases u2
 ·have HF : Hid (¬ ObjP p xs ys st fs b t) := fun h => nomatch htu2.2 h.2.1
  clear htu2
  refine tkP 8 (.bool true) 12 rfl rfl hS4 (tkP 9 (.bool true) 13 rfl rfl hS4 (tkP 10 (.bool true) 14 rfl rfl hS4 ?_))
  go_frame
  refine tkN 11 15 rfl rfl hS4 (tkN 12 16 rfl rfl hS4 (tkN 13 17 rfl rfl hS4 ?_))
  go_frame
  refine tkN 14 18 rfl rfl hS4 (tkP 15 (.bool true) 19 rfl rfl hS4 (tkP 16 (.bool true) 20 rfl rfl hS4 ?_))
  go_frame
  refine tkN 17 21 rfl rfl hS4 (tkN 18 22 rfl rfl hS4 (tkN 19 23 rfl rfl hS4 ?_))
  go_frame
  refine tkN 20 24 rfl rfl hS4 (tkP 21 (.bool true) 25 rfl rfl hS4 (tkP 22 (.bool true) 26 rfl rfl hS4 ?_))
  go_frame
  refine tkN 23 27 rfl rfl hS4 (tkN 24 28 rfl rfl hS4 (tkN 25 29 rfl rfl hS4 ?_))
  go_frame
  refine tkN 26 30 rfl rfl hS4 (tkN 27 31 rfl rfl hS4 (tkN 28 32 rfl rfl hS4 ?_))
  go_frame
  refine tkN 29 33 rfl rfl hS4 (tkN 30 34 rfl rfl hS4 (tkP 31 (.bool true) 35 rfl rfl hS4 ?_))
  go_frame
  refine tkP 32 (.bool true) 36 rfl rfl hS4 (tkN 33 37 rfl rfl hS4 (tkN 34 38 rfl rfl hS4 ?_))
  go_frame
  refine tkN 35 39 rfl rfl hS4 (tkN 36 40 rfl rfl hS4 (tkN 37 41 rfl rfl hS4 ?_))
  go_frame
  refine tkN 38 42 rfl rfl hS4 (tkN 39 43 rfl rfl hS4 (tkP 40 (.bool true) 44 rfl rfl hS4 ?_))
  go_frame
  clear hS4
  refine wdn ?_
  go_wp2_with fail
  go_ret
  exact BoolIs.no HF.out hb4
 have HP : Hid (PathOk p) := htu2.1 rfl
 clear htu2
 refine tkP 8 (.bool false) 12 rfl rfl hS4 (tkP 9 (.bool false) 13 rfl rfl hS4 (tkP 10 (.bool false) 14 rfl rfl hS4 ?_))
 go_frame
 refine tkP 11 (.pointer (some ⟨q1, 6, none⟩)) 15 rfl rfl hS4 ?_
 go_frame
 refine tkL 12 (.int .i64 t) 16 rfl rfl (Or.inl ⟨by rfl, by intro W hW; have hhv1 := hW; have y6 := (cell_of hhv1 6).trans rfl; go_simp⟩) hS4 ?_
 go_frame
 refine rd1 13 rfl (fun K hK => ?_)
 go_simp
 refine (l1In_any t 0 1000000 _).mono ?_
 rintro e w5 ⟨rfl, hwe⟩
 have bw : Below w4.heap.size (w4) w5 := by rw [hwe]; exact Below.refl _ _
 clear hwe
 obtain ⟨u3, hu3⟩ : ∃ u3, u3 = decide ((0 : Int) ≤ t ∧ t ≤ 1000000) := ⟨_, rfl⟩
 rw [← hu3]
 have hb5 := hbt hb4 bw
 have B1_5 := hblk B1_4 bw
 clear hb4 bw
 have hS5 := B1_5.out
 refine hK.out _ _ hS5 (fun _ => ?_)
 clear hK K hS4
 cases u3
 ·have HF : Hid (¬ ObjP p xs ys st fs b t) := fun h => absurd h.2.2.1 (of_decide_eq_false hu3.symm)
  clear hu3
  refine tkP 14 (.bool true) 18 rfl rfl hS5 (tkP 15 (.bool true) 19 rfl rfl hS5 (tkP 16 (.bool true) 20 rfl rfl hS5 ?_))
  go_frame
  refine tkN 17 21 rfl rfl hS5 (tkN 18 22 rfl rfl hS5 (tkN 19 23 rfl rfl hS5 ?_))
  go_frame
  refine tkN 20 24 rfl rfl hS5 (tkP 21 (.bool true) 25 rfl rfl hS5 (tkP 22 (.bool true) 26 rfl rfl hS5 ?_))
  go_frame
  refine tkN 23 27 rfl rfl hS5 (tkN 24 28 rfl rfl hS5 (tkN 25 29 rfl rfl hS5 ?_))
  go_frame
  refine tkN 26 30 rfl rfl hS5 (tkN 27 31 rfl rfl hS5 (tkN 28 32 rfl rfl hS5 ?_))
  go_frame
  refine tkN 29 33 rfl rfl hS5 (tkN 30 34 rfl rfl hS5 (tkP 31 (.bool true) 35 rfl rfl hS5 ?_))
  go_frame
  refine tkP 32 (.bool true) 36 rfl rfl hS5 (tkN 33 37 rfl rfl hS5 (tkN 34 38 rfl rfl hS5 ?_))
  go_frame
  refine tkN 35 39 rfl rfl hS5 (tkN 36 40 rfl rfl hS5 (tkN 37 41 rfl rfl hS5 ?_))
  go_frame
  refine tkN 38 42 rfl rfl hS5 (tkN 39 43 rfl rfl hS5 (tkP 40 (.bool true) 44 rfl rfl hS5 ?_))
  go_frame
  clear hS5
  refine wdn ?_
  go_wp2_with fail
  go_ret
  exact BoolIs.no HF.out hb5
 have HT : Hid (0 ≤ t ∧ t ≤ 1000000) := (show 0 ≤ t ∧ t ≤ 1000000 from of_decide_eq_true hu3.symm)
 clear hu3
 refine tkP 14 (.bool false) 18 rfl rfl hS5 (tkP 15 (.bool false) 19 rfl rfl hS5 (tkP 16 (.bool false) 20 rfl rfl hS5 ?_))
 go_frame
 refine tkP 17 (.pointer (some ⟨q1, 1, none⟩)) 21 rfl rfl hS5 ?_
 go_frame
 refine tkL 18 (.slice o1 n1 c1) 22 rfl rfl (Or.inl ⟨by rfl, by intro W hW; have hhv1 := hW; have y1 := (cell_of hhv1 1).trans rfl; go_simp⟩) hS5 ?_
 go_frame
 refine rd1 19 rfl (fun K hK => ?_)
 go_simp
 refine (l9Names_any _ _ _ xs _ (HV1.out _ hb5) (by omega) HS1.out).mono ?_
 rintro e w6 ⟨u4, rfl, htu4, bw⟩
 have hb6 := hbt hb5 bw
 have B1_6 := hblk B1_5 bw
 clear hb5 bw
 have hS6 := B1_6.out
 refine hK.out _ _ hS6 (fun _ => ?_)
 clear hK K hS5
 cases u4
 ·have HF : Hid (¬ ObjP p xs ys st fs b t) := fun h => nomatch htu4.2 h.2.2.2.1
  clear htu4
  refine tkP 20 (.bool true) 24 rfl rfl hS6 (tkP 21 (.bool true) 25 rfl rfl hS6 (tkP 22 (.bool true) 26 rfl rfl hS6 ?_))
  go_frame
  refine tkN 23 27 rfl rfl hS6 (tkN 24 28 rfl rfl hS6 (tkN 25 29 rfl rfl hS6 ?_))
  go_frame
  refine tkN 26 30 rfl rfl hS6 (tkN 27 31 rfl rfl hS6 (tkN 28 32 rfl rfl hS6 ?_))
  go_frame
  refine tkN 29 33 rfl rfl hS6 (tkN 30 34 rfl rfl hS6 (tkP 31 (.bool true) 35 rfl rfl hS6 ?_))
  go_frame
  refine tkP 32 (.bool true) 36 rfl rfl hS6 (tkN 33 37 rfl rfl hS6 (tkN 34 38 rfl rfl hS6 ?_))
  go_frame
  refine tkN 35 39 rfl rfl hS6 (tkN 36 40 rfl rfl hS6 (tkN 37 41 rfl rfl hS6 ?_))
  go_frame
  refine tkN 38 42 rfl rfl hS6 (tkN 39 43 rfl rfl hS6 (tkP 40 (.bool true) 44 rfl rfl hS6 ?_))
  go_frame
  clear hS6
  refine wdn ?_
  go_wp2_with fail
  go_ret
  exact BoolIs.no HF.out hb6
 have HNM : Hid (NamesP xs) := htu4.1 rfl
 clear htu4
 refine tkP 20 (.bool false) 24 rfl rfl hS6 (tkP 21 (.bool false) 25 rfl rfl hS6 (tkP 22 (.bool false) 26 rfl rfl hS6 ?_))
 go_frame
 refine tkP 23 (.pointer (some ⟨q1, 1, none⟩)) 27 rfl rfl hS6 ?_
 go_frame
 refine tkL 24 (.slice o1 n1 c1) 28 rfl rfl (Or.inl ⟨by rfl, by intro W hW; have hhv1 := hW; have y1 := (cell_of hhv1 1).trans rfl; go_simp⟩) hS6 ?_
 go_frame
 refine tkP 25 (.pointer (some ⟨q1, 3, none⟩)) 29 rfl rfl hS6 (tkP 26 (.pointer (some ⟨q1, 4, none⟩)) 30 rfl rfl hS6 ?_)
 go_frame
 refine tkL 27 (.slice o3 n3 c3) 31 rfl rfl (Or.inl ⟨by rfl, by intro W hW; have hhv1 := hW; have y4 := (cell_of hhv1 4).trans rfl; go_simp⟩) hS6 ?_
 go_frame
 refine rd1 28 rfl (fun K hK => ?_)
 go_simp
 refine (specVaryOf_any _ n3 base fs _ (HV3.out _ hb6) (by omega) HG.out).mono ?_
 rintro e w7 ⟨vv, rfl, ownY, bw⟩
 obtain ⟨oY, pY, rfl⟩ := slice_of_owns ownY
 rw [HVL.out] at ownY ⊢
 have hb7 := hbt hb6 bw
 have B1_7 := hblk B1_6 bw
 have HOY_7 := hwd ownY hb6.size
 clear ownY
 clear hb6 bw
 have hS7 := B1_7.out
 refine hK.out _ _ hS7 (fun _ => ?_)
 clear hK K hS6
 refine rd1 29 rfl (fun K hK => ?_)
 go_simp
 refine (l8Texts_any _ _ _ _ _ _ xs vl _ (HV1.out _ hb7) (texts_view HOY_7.out) (by omega)).mono ?_
 rintro e w8 ⟨rfl, bw⟩
 obtain ⟨u5, hu5⟩ := exq (decide (xs = vl))
 rw [← hu5]
 have hb8 := hbt hb7 bw
 have HOY_8 := hown HOY_7 bw
 have B1_8 := hblk B1_7 bw
 clear hb7 bw
 have hS8 := B1_8.out
 refine hK.out _ _ hS8 (fun _ => ?_)
 clear hK K hS7
 cases u5
 ·have HF : Hid (¬ ObjP p xs ys st fs b t) := fun h => absurd (h.2.2.2.2.1.trans HVL.out) (of_decide_eq_false hu5.symm)
  clear hu5
  refine tkP 30 (.bool true) 34 rfl rfl hS8 (tkP 31 (.bool true) 35 rfl rfl hS8 (tkP 32 (.bool true) 36 rfl rfl hS8 ?_))
  go_frame
  refine tkN 33 37 rfl rfl hS8 (tkN 34 38 rfl rfl hS8 (tkN 35 39 rfl rfl hS8 ?_))
  go_frame
  refine tkN 36 40 rfl rfl hS8 (tkN 37 41 rfl rfl hS8 (tkN 38 42 rfl rfl hS8 ?_))
  go_frame
  refine tkN 39 43 rfl rfl hS8 (tkP 40 (.bool true) 44 rfl rfl hS8 ?_)
  go_frame
  clear hS8
  refine wdn ?_
  go_wp2_with fail
  go_ret
  exact BoolIs.no HF.out hb8
 have HE : Hid (xs = vl) := (show xs = vl from of_decide_eq_true hu5.symm)
 clear hu5
 refine tkP 30 (.bool false) 34 rfl rfl hS8 (tkP 31 (.bool false) 35 rfl rfl hS8 (tkP 32 (.bool false) 36 rfl rfl hS8 ?_))
 go_frame
 refine tkP 33 (.pointer (some ⟨q1, 2, none⟩)) 37 rfl rfl hS8 ?_
 go_frame
 refine tkL 34 (.slice o2 n2 c2) 38 rfl rfl (Or.inl ⟨by rfl, by intro W hW; have hhv1 := hW; have y2 := (cell_of hhv1 2).trans rfl; go_simp⟩) hS8 ?_
 go_frame
 refine tkP 35 (.int .i64 (n2 : Int)) 39 rfl rfl hS8 (tkP 36 (.pointer (some ⟨q1, 1, none⟩)) 40 rfl rfl hS8 ?_)
 go_frame
 refine tkL 37 (.slice o1 n1 c1) 41 rfl rfl (Or.inl ⟨by rfl, by intro W hW; have hhv1 := hW; have y1 := (cell_of hhv1 1).trans rfl; go_simp⟩) hS8 ?_
 go_frame
 refine tkP 38 (.int .i64 (n1 : Int)) 42 rfl rfl hS8 ?_
 go_frame
 by_cases hc1 : (n2 : Int) = (n1 : Int)
 rotate_left
 ·have hc1b : ((n2 : Int) == (n1 : Int)) = false := by simpa using hc1
  have hc1n : ((n2 : Int) != (n1 : Int)) = true := by simpa using hc1
  have HF : Hid (¬ ObjP p xs ys st fs b t) := fun h => by have h1 := h.2.2.2.2.2.1; have h2 := HL1.out; have h3 := HL2.out; omega
  have hc1H := hid hc1
  clear hc1
  refine tkP 39 (.bool true) 43 rfl rfl hS8 (tkP 40 (.bool true) 44 rfl rfl hS8 ?_)
  go_frame
  clear hS8
  refine wdn ?_
  go_wp2_with fail
  go_ret
  exact BoolIs.no HF.out hb8
 have hc1b : ((n2 : Int) == (n1 : Int)) = true := by simpa using hc1
 have hc1n : ((n2 : Int) != (n1 : Int)) = false := by simpa using hc1
 have hc1H := hid hc1
 clear hc1
 refine tkP 39 (.bool false) 43 rfl rfl hS8 (tkP 40 (.bool false) 44 rfl rfl hS8 ?_)
 go_frame
 clear hS8
 refine wdn ?_
 clear hc1b hc1n
 have HEQ := hc1H
 clear hc1H
 have HQ : Hid ((∀ y ∈ ys, ValOk y) ↔ ObjP p xs ys st fs b t) := ⟨fun h => ⟨HR.out, HP.out, HT.out, HNM.out, HE.out.trans HVL.out.symm, by have h1 := HL1.out; have h2 := HL2.out; have h3 := HEQ.out; omega, h⟩, fun h => h.2.2.2.2.2.2⟩
 go_wp2_with fail
 go_loopw [3] (fun i wr => ∃ j : Nat, j ≤ n2 ∧ i = .int .i64 (j : Int) ∧ Hid (Below w.heap.size w wr ∧ wr.heap[q1]? = some (.cells #[.string p, .slice o1 n1 c1, .slice o2 n2 c2, .int .i64 st, .slice o3 n3 c3, .string b, .int .i64 t] 51)) ∧ Hid (∀ x ∈ ys.take j, ValOk x)) (fun i _ => n2 - (intOf i).toNat)
 case atStart => exact ⟨0, Nat.zero_le _, rfl, ⟨hb8, B1_8.out⟩, fun x hx => by simp at hx⟩
 case round =>
  obtain ⟨j, hj, rfl, HW, HN⟩ := hrel
  have cc2 : wr.cell? ⟨q1, 2, none⟩ = some (.slice o2 n2 c2) := (cell_of HW.out.2 2).trans rfl
  by_cases hlt : (j : Int) < (n2 : Int)
  rotate_left
  ·have HA : Hid (ObjP p xs ys st fs b t) := HQ.out.1 (by
    have h := HN.out
    rw [List.take_of_length_le (by rw [HL2.out]; omega)] at h
    exact h)
   clear HN
   go_wp2_with fail
   go_ret
   exact ⟨true, rfl, ⟨fun _ => HA.out, fun _ => rfl⟩, HW.out.1⟩
  have hjx : j < ys.length := by rw [HL2.out]; omega
  obtain ⟨g, hog, hg, hc⟩ := (HV2.out wr HW.out.1).2 j (by omega)
  subst hog
  have hs := HS2.out j (by omega)
  obtain ⟨x, hxx⟩ := exq (textAt ys j)
  rw [← hxx] at hc hs
  have HM : Hid (x ∈ ys) := by show _ ∈ _; rw [hxx]; exact textAt_mem ys j hjx
  have HTK : Hid (ys.take (j + 1) = ys.take j ++ [x]) := by show _ = _; rw [take_textAt ys j hjx, hxx]
  clear hxx hjx
  go_wp2_with fail
  refine (specValueOk_any x _ hs).mono ?_
  rintro e w90 ⟨tx, rfl, htx, bw⟩
  have HW2 : Hid (Below w.heap.size w w90 ∧ w90.heap[q1]? = some (.cells #[.string p, .slice o1 n1 c1, .slice (some ⟨g, 0, none⟩) n2 c2, .int .i64 st, .slice o3 n3 c3, .string b, .int .i64 t] 51)) := ⟨HW.out.1.trans (bw.mono HW.out.1.size), blk_below HW.out.2 bw⟩
  clear bw cc2 hc HW
  cases tx
  ·have HF : Hid (¬ ObjP p xs ys st fs b t) := fun h => nomatch htx.2 (HQ.out.2 h x HM.out)
   clear htx HN
   go_wp2_with fail
   go_ret
   exact BoolIs.no HF.out HW2.out.1
  have HN2 : Hid (∀ y ∈ ys.take (j + 1), ValOk y) := by
   intro y hy
   rw [HTK.out] at hy
   rcases List.mem_append.1 hy with hy | hy
   · exact HN.out y hy
   · rw [List.mem_singleton.1 hy]; exact htx.1 rfl
  clear htx HN
  go_wp2_with fail
  go_roundw
  case rel => exact ⟨j + 1, by omega, by go_num, HW2, HN2⟩
  case measure => simp [intOf]; omega
theorem toBan_any (k : Int) (a b : Tx) (t : Int) (w : World) :
  Calls Tryz.prog 58 #[.agg #[.int .i64 k, .string a, .string b, .int .i64 t]] w fun e w' => e = .returned (.agg #[.int .i64 k, .string a, .string b, .int .i64 t]) ∧ Below w.heap.size w w' := by
 have hb0 := Below.refl w.heap.size w
 go_enter Tryz.func58, Tryz.ntmps58
 go_upto_region 1 with fail
 obtain ⟨q1, hq1⟩ := exq (w.heap.size)
 obtain ⟨w1, hW1⟩ := exq (w.alloc (.cells #[.int .i64 k, .string a, .string b, .int .i64 t] 109))
 have hz1 := hq1.symm
 rw [← hW1]; try rw [← hq1]
 have hs1 := hsa hW1 hz1
 have bw := bal hW1
 have hb1 := hbt hb0 bw
 have B1_1 := hnew hW1 hz1
 clear hb0 bw hW1 hz1
 obtain ⟨q2, hq2⟩ := exq (q1 + 1)
 obtain ⟨w2, hW2⟩ := exq (w1.alloc (.cells #[.int .i64 0, .string ⟨#[]⟩, .string ⟨#[]⟩, .int .i64 0] 111))
 have hz2 : w1.heap.size = q2 := by rw [hq2]; exact hs1
 rw [← hW2]; try rw [← hq2]
 have hs2 := hsa hW2 hz2
 have bw := bal hW2
 have hb2 := hbt hb1 bw
 have B1_2 := hblk B1_1 bw
 have Nv1v2 := hnq B1_1 hz2
 have B2_2 := hnew hW2 hz2
 have Gv2 := hge hz2 hb1
 clear hb1 bw hW2 hz2
 clear hs2 hq2 hs1 hq1
 go_upto_region 2 with fail
 obtain ⟨q3, hq3⟩ := exq (w2.heap.size)
 obtain ⟨w3, hW3⟩ := exq (w2.alloc (.cells #[.int .i64 0, .string ⟨#[]⟩, .string ⟨#[]⟩, .int .i64 0] 111))
 have hz3 := hq3.symm
 rw [← hW3]; try rw [← hq3]
 have hs3 := hsa hW3 hz3
 have bw := bal hW3
 have hb3 := hbt hb2 bw
 have B1_3 := hblk B1_2 bw
 have B2_3 := hblk B2_2 bw
 have Nv1v3 := hnq B1_2 hz3
 have Nv2v3 := hnq B2_2 hz3
 have B3_3 := hnew hW3 hz3
 have Gv3 := hge hz3 hb2
 clear hb2 bw hW3 hz3
 clear hs3 hq3
 have c1_0 := (k4c B1_3).1
 have c3_0 := (k4c B3_3).1
 have f3_0 := hfz B3_3 0
 go_upto_region 3 with fail
 obtain ⟨w4, hW4⟩ := exq (w3.setCell ⟨q3, 0, none⟩ (.int .i64 k))
 rw [← hW4]
 have hb4 := hbS hW4 hb3 Gv3
 have B1_4 := hset hW4 Nv1v3.out B1_3
 have B2_4 := hset hW4 Nv2v3.out B2_3
 have B3_4 := hput hW4 B3_3
 clear hb3 hW4
 clear c1_0 c3_0 f3_0
 have c1_1 := (k4c B1_4).2.1
 have c3_1 := (k4c B3_4).2.1
 have f3_1 := hfz B3_4 1
 go_upto_region 4 with fail
 obtain ⟨w5, hW5⟩ := exq (w4.setCell ⟨q3, 1, none⟩ (.string a))
 rw [← hW5]
 have hb5 := hbS hW5 hb4 Gv3
 have B1_5 := hset hW5 Nv1v3.out B1_4
 have B2_5 := hset hW5 Nv2v3.out B2_4
 have B3_5 := hput hW5 B3_4
 clear hb4 hW5
 clear c1_1 c3_1 f3_1
 have c1_2 := (k4c B1_5).2.2.1
 have c3_2 := (k4c B3_5).2.2.1
 have f3_2 := hfz B3_5 2
 go_upto_region 5 with fail
 obtain ⟨w6, hW6⟩ := exq (w5.setCell ⟨q3, 2, none⟩ (.string b))
 rw [← hW6]
 have hb6 := hbS hW6 hb5 Gv3
 have B1_6 := hset hW6 Nv1v3.out B1_5
 have B2_6 := hset hW6 Nv2v3.out B2_5
 have B3_6 := hput hW6 B3_5
 clear hb5 hW6
 clear c1_2 c3_2 f3_2
 have c1_3 := (k4c B1_6).2.2.2
 have c3_3 := (k4c B3_6).2.2.2
 have f3_3 := hfz B3_6 3
 go_upto_region 6 with fail
 obtain ⟨w7, hW7⟩ := exq (w6.setCell ⟨q3, 3, none⟩ (.int .i64 t))
 rw [← hW7]
 have hb7 := hbS hW7 hb6 Gv3
 have B1_7 := hset hW7 Nv1v3.out B1_6
 have B2_7 := hset hW7 Nv2v3.out B2_6
 have B3_7 := hput hW7 B3_6
 clear hb6 hW7
 clear c1_3 c3_3 f3_3
 have c2_0 := (k4c B2_7).1
 have f2_0 := hfz B2_7 0
 have c2_1 := (k4c B2_7).2.1
 have f2_1 := hfz B2_7 1
 have c2_2 := (k4c B2_7).2.2.1
 have f2_2 := hfz B2_7 2
 have c2_3 := (k4c B2_7).2.2.2
 have f2_3 := hfz B2_7 3
 have c3_0 := (k4c B3_7).1
 have c3_1 := (k4c B3_7).2.1
 have c3_2 := (k4c B3_7).2.2.1
 have c3_3 := (k4c B3_7).2.2.2
 go_wp2_with fail
 obtain ⟨w8, hW8⟩ := exq (w7.setCell ⟨q2, 0, none⟩ (.int .i64 k))
 rw [← hW8]
 have hb8 := hbS hW8 hb7 Gv2
 have B1_8 := hset hW8 Nv1v2.out B1_7
 have B3_8 := hset hW8 Nv2v3.out.symm B3_7
 have B2_8 := hput hW8 B2_7
 clear hb7 hW8
 obtain ⟨w9, hW9⟩ := exq (w8.setCell ⟨q2, 1, none⟩ (.string a))
 rw [← hW9]
 have hb9 := hbS hW9 hb8 Gv2
 have B1_9 := hset hW9 Nv1v2.out B1_8
 have B3_9 := hset hW9 Nv2v3.out.symm B3_8
 have B2_9 := hput hW9 B2_8
 clear hb8 hW9
 obtain ⟨w10, hW10⟩ := exq (w9.setCell ⟨q2, 2, none⟩ (.string b))
 rw [← hW10]
 have hb10 := hbS hW10 hb9 Gv2
 have B1_10 := hset hW10 Nv1v2.out B1_9
 have B3_10 := hset hW10 Nv2v3.out.symm B3_9
 have B2_10 := hput hW10 B2_9
 clear hb9 hW10
 obtain ⟨w11, hW11⟩ := exq (w10.setCell ⟨q2, 3, none⟩ (.int .i64 t))
 rw [← hW11]
 have hb11 := hbS hW11 hb10 Gv2
 have B1_11 := hset hW11 Nv1v2.out B1_10
 have B3_11 := hset hW11 Nv2v3.out.symm B3_10
 have B2_11 := hput hW11 B2_10
 clear hb10 hW11
 have kv2_0 := (k4c B2_11).1
 have kv2_1 := (k4c B2_11).2.1
 have kv2_2 := (k4c B2_11).2.2.1
 have kv2_3 := (k4c B2_11).2.2.2
 refine bodyPost_ret (v := .agg #[.int .i64 k, .string a, .string b, .int .i64 t]) (by simp [results, Tryz.results58, go_sem, kv2_0, kv2_1, kv2_2, kv2_3]) rfl ?_
 exact ⟨rfl, hb11⟩
def SzBan (L : Int) (a b : Tx) (w : World) (e : Ending) (w' : World) : Prop := ∃ r : Int, e = .returned (.int .i64 r) ∧ r ≤ L ∧ (0 ≤ r → a.size ≤ 1048576 ∧ b.size ≤ 1048576) ∧ Below w.heap.size w w'
theorem szBan_any (L : Int) (hL0 : 0 ≤ L) (hL1 : L ≤ 1048576) (k : Int) (a b : Tx) (t : Int) (w : World) (ha : a.size ≤ maxLen) (hb : b.size ≤ maxLen) :
  Calls Tryz.prog 51 #[.agg #[.int .i64 k, .string a, .string b, .int .i64 t], .int .i64 L] w fun e w' => SzBan L a b w e w' := by
 unfold maxLen at ha hb
 have hb0 := Below.refl w.heap.size w
 go_enter Tryz.func51, Tryz.ntmps51
 go_upto_region 1 with fail
 obtain ⟨q1, hq1⟩ := exq (w.heap.size)
 obtain ⟨w1, hW1⟩ := exq (w.alloc (.cells #[.int .i64 k, .string a, .string b, .int .i64 t] 109))
 have hz1 := hq1.symm
 rw [← hW1]; try rw [← hq1]
 have hs1 := hsa hW1 hz1
 have bw := bal hW1
 have hb1 := hbt hb0 bw
 have B1_1 := hnew hW1 hz1
 clear hb0 bw hW1 hz1
 clear hs1 hq1
 have c1_1 := (k4c B1_1).2.1
 by_cases hc1 : (L - (a.size : Int)) < 0
 ·go_wp2_with fail
  go_ret
  exact ⟨-1, rfl, by omega, fun h => absurd h (by omega), hb1⟩
 have c1_2 := (k4c B1_1).2.2.1
 by_cases hc2 : ((L - (a.size : Int)) - (b.size : Int)) < 0
 ·go_wp2_with fail
  go_ret
  exact ⟨-1, rfl, by omega, fun h => absurd h (by omega), hb1⟩
 go_wp2_with fail
 go_ret
 exact ⟨_, rfl, by omega, fun _ => ⟨by omega, by omega⟩, hb1⟩
theorem eqBan_any (k : Int) (a b : Tx) (t : Int) (w : World) :
  Calls Tryz.prog 63 #[.agg #[.int .i64 k, .string a, .string b, .int .i64 t], .agg #[.int .i64 k, .string a, .string b, .int .i64 t]] w fun e w' => e = .returned (.bool true) ∧ Below w.heap.size w w' := by
 have hkk : (k != k) = false := by simp
 have haa : (a.toList != a.toList) = false := by simp
 have hbb : (b.toList != b.toList) = false := by simp
 have htt : (t != t) = false := by simp
 have hb0 := Below.refl w.heap.size w
 go_enter Tryz.func63, Tryz.ntmps63
 go_upto_region 1 with fail
 obtain ⟨q1, hq1⟩ := exq (w.heap.size)
 obtain ⟨w1, hW1⟩ := exq (w.alloc (.cells #[.int .i64 k, .string a, .string b, .int .i64 t] 111))
 have hz1 := hq1.symm
 rw [← hW1]; try rw [← hq1]
 have hs1 := hsa hW1 hz1
 have bw := bal hW1
 have hb1 := hbt hb0 bw
 have B1_1 := hnew hW1 hz1
 clear hb0 bw hW1 hz1
 obtain ⟨q2, hq2⟩ := exq (q1 + 1)
 obtain ⟨w2, hW2⟩ := exq (w1.alloc (.cells #[.int .i64 k, .string a, .string b, .int .i64 t] 111))
 have hz2 : w1.heap.size = q2 := by rw [hq2]; exact hs1
 rw [← hW2]; try rw [← hq2]
 have hs2 := hsa hW2 hz2
 have bw := bal hW2
 have hb2 := hbt hb1 bw
 have B1_2 := hblk B1_1 bw
 have B2_2 := hnew hW2 hz2
 clear hb1 bw hW2 hz2
 clear hs2 hq2 hs1 hq1
 have c1_0 := (k4c B1_2).1
 have c2_0 := (k4c B2_2).1
 have c1_1 := (k4c B1_2).2.1
 have c2_1 := (k4c B2_2).2.1
 have c1_2 := (k4c B1_2).2.2.1
 have c2_2 := (k4c B2_2).2.2.1
 have c1_3 := (k4c B1_2).2.2.2
 have c2_3 := (k4c B2_2).2.2.2
 go_wp2_with fail
 go_ret
 exact ⟨rfl, hb2⟩
end Go.Proofs.YtopeegjmpphjnaaGreatDoor
