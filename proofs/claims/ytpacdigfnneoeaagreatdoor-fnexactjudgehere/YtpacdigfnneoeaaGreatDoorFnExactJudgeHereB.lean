/- What the proof of FnExactJudgeHere leans on: contracts of the program's and the specification's functions, and plain facts (part 2 of 11). -/
import Derived.Test.YtpacdigfnneoeaaGreatDoorFnExactJudgeHereA
set_option maxHeartbeats 16000000
set_option maxRecDepth 100000
namespace Go.Proofs.YtpacdigfnneoeaaGreatDoor
open Go.RowKit
open Go.Lib hiding intOf
theorem owns_wide {w : World} {B base : Nat} {e : TypeId} {size : Nat} {v : Value} {n : Nat} {xs : List Value} (h : w.ownsRow base e size v n xs) (hB : B ≤ base) : w.ownsRow B e size v n xs := by
 obtain ⟨hl, hv⟩ := h
 refine ⟨hl, ?_⟩
 rcases hv with h0 | ⟨g, cap, cur, h1, h2, h3⟩
 · exact .inl h0
 · exact .inr ⟨g, cap, cur, h1, Nat.le_trans hB h2, h3⟩
theorem owns_same {w w' : World} {base : Nat} {e : TypeId} {size : Nat} {v : Value} {n : Nat} {xs : List Value} (h : w.ownsRow base e size v n xs) (hs : ∀ j, v.ownBlock = some j → w'.heap[j]? = w.heap[j]?) : w'.ownsRow base e size v n xs := by
 obtain ⟨hl, hv⟩ := h
 refine ⟨hl, ?_⟩
 rcases hv with h0 | ⟨g, cap, cur, rfl, h2, h3, h4⟩
 · exact .inl h0
 · exact .inr ⟨g, cap, cur, rfl, h2, by rw [hs g rfl]; exact h3, h4⟩
theorem szTo_mono (fs : Fs) (k : Nat) : ∀ d, szTo fs k ≤ szTo fs (k + d) := by
 intro d
 induction d with
 | zero => exact Nat.le_refl _
 | succ d ih => rw [show k + (d + 1) = (k + d) + 1 by omega, szTo]; omega
theorem szTo_get (fs : Fs) (n i : Nat) (hi : i < n) : (nameAt fs i).size ≤ szTo fs n ∧ (valAt fs i).size ≤ szTo fs n := by
 have h := szTo_mono fs (i + 1) (n - (i + 1))
 rw [show i + 1 + (n - (i + 1)) = n by omega, szTo] at h
 omega
theorem addr_add (b off y : Nat) : (⟨b, off, none⟩ : Addr).add y = ⟨b, off + y, none⟩ := by
 unfold Addr.add; split <;> simp_all
def txt : Value → ByteArray
 | .string s => s
 | _ => ⟨#[]⟩
theorem nameAt_range (f g : Nat → ByteArray) (n i : Nat) (hi : i < n) : nameAt ((List.range n).map fun j => (f j, g j)) i = f i ∧ valAt ((List.range n).map fun j => (f j, g j)) i = g i := by
 unfold nameAt valAt
 rw [List.getD_eq_getElem?_getD, List.getElem?_map, List.getElem?_range hi]
 exact ⟨rfl, rfl⟩
theorem openFields {H : Type} {enc : TypeId × Value → H} {W : World} {fuel : Nat} {a : Oa} {n cap : Nat} {x : DataW H × List MemPlace} (h : DataW.trod enc Tryz.prog W 0 (fun _ => true) true fuel 82 [.slice a n cap] = some x) :
  ∃ fs, ArgF W W.heap.size a n fs ∧ n ≤ maxLen ∧ ∀ i, i < n → (nameAt fs i).size ≤ maxLen ∧ (valAt fs i).size ≤ maxLen := by
 rcases Go.Deep.open_slice_pairs Tryz.underlying82 Tryz.underlying211 (by kernel_rfl) rfl rfl (by kernel_rfl) (by kernel_rfl) h with ⟨hcs, _⟩ | ⟨ad, len, c, m, q, V0, V1, D0, D1, P0, P1, hcs, _, hl, hm, hmm, _, hx⟩
 ·simp at hcs
  obtain ⟨rfl, rfl, rfl⟩ := hcs
  exact ⟨[], ⟨rfl, fun i hi => absurd hi (by omega)⟩, Nat.zero_le _, fun i hi => absurd hi (by omega)⟩
 ·simp at hcs
  obtain ⟨rfl, rfl, rfl⟩ := hcs
  have hm2 : m = cap := by simpa using hmm
  have each : ∀ i, i < n → V0 i = .string (txt (V0 i)) ∧ V1 i = .string (txt (V1 i)) ∧ (txt (V0 i)).size ≤ maxLen ∧ (txt (V1 i)).size ≤ maxLen := fun i hi => by
   obtain ⟨_, _, h3, h4⟩ := hx i (by omega)
   obtain ⟨s, e1, _, e3⟩ := DataW.trod_string Tryz.underlying9 h3
   obtain ⟨t, f1, _, f3⟩ := DataW.trod_string Tryz.underlying9 h4
   have e1' : V0 i = .string s := by simpa using e1
   have f1' : V1 i = .string t := by simpa using f1
   rw [e1', f1']
   exact ⟨rfl, rfl, e3, f3⟩
  refine ⟨(List.range n).map fun j => (txt (V0 j), txt (V1 j)), ⟨by simp, fun i hi => ?_⟩, by omega, fun i hi => ?_⟩
  ·obtain ⟨c1, c2, _, _⟩ := hx i (by omega)
   obtain ⟨c3, _, _, _⟩ := hx 0 (by omega)
   have hsp : ad.spot = none := by
    have := World.cell?_spot c3
    simpa [Addr.add] using this
   obtain ⟨b, off, sp⟩ := ad
   simp only at hsp
   subst hsp
   rw [addr_add] at c1 c2
   obtain ⟨v0, v1, _, _⟩ := each i hi
   obtain ⟨r0, r1⟩ := nameAt_range (fun j => txt (V0 j)) (fun j => txt (V1 j)) n i hi
   rw [r0, r1]
   have hlt := World.block_lt_of_cell? W _ c1
   rw [v0] at c1
   rw [v1] at c2
   exact ⟨b, off, rfl, hlt, c1, c2⟩
  ·obtain ⟨r0, r1⟩ := nameAt_range (fun j => txt (V0 j)) (fun j => txt (V1 j)) n i hi
   rw [r0, r1]
   exact (each i hi).2.2
structure Rw where
 T : TypeId
 z : Nat
 v : Value
 n : Nat
 c : List Value
def Rw.own (r : Rw) (w : World) (base : Nat) : Prop := w.ownsRow base r.T r.z r.v r.n r.c
def Rw.ne (a b : Rw) : Prop := ∀ g, a.v.ownBlock = some g → b.v.ownBlock ≠ some g
structure RowsO (w : World) (base : Nat) (rs : List Rw) : Prop where
 own : ∀ r ∈ rs, r.own w base
 apart : rs.Pairwise Rw.ne
theorem RowsO.nil (w : World) (base : Nat) : RowsO w base [] := ⟨by simp, List.Pairwise.nil⟩
theorem RowsO.one {w : World} {base : Nat} {r : Rw} (h : r.own w base) : RowsO w base [r] := ⟨fun x hx => by rw [List.mem_singleton.1 hx]; exact h, List.pairwise_singleton _ _⟩
theorem RowsO.ge {w : World} {base : Nat} {rs : List Rw} (h : RowsO w base rs) {r : Rw} (hr : r ∈ rs) {g : Nat} (hg : r.v.ownBlock = some g) : base ≤ g := owns_ge (h.own r hr) hg
theorem RowsO.lt {w : World} {base : Nat} {rs : List Rw} (h : RowsO w base rs) {r : Rw} (hr : r ∈ rs) {g : Nat} (hg : r.v.ownBlock = some g) : g < w.heap.size := owns_lt (h.own r hr) hg
theorem RowsO.same {w w' : World} {base : Nat} {rs : List Rw} (h : RowsO w base rs) (hs : ∀ r ∈ rs, ∀ g, r.v.ownBlock = some g → w'.heap[g]? = w.heap[g]?) : RowsO w' base rs :=
 ⟨fun r hr => owns_same (h.own r hr) (hs r hr), h.apart⟩
theorem RowsO.below {w w' : World} {base : Nat} {rs : List Rw} (h : RowsO w base rs) (hb : Below w.heap.size w w') : RowsO w' base rs := h.same (fun _ hr g hg => hb.block g (h.lt hr hg))
theorem RowsO.wide {w : World} {B base : Nat} {rs : List Rw} (h : RowsO w base rs) (hB : B ≤ base) : RowsO w B rs := ⟨fun r hr => owns_wide (h.own r hr) hB, h.apart⟩
theorem RowsO.sub {w : World} {base : Nat} {rs rs' : List Rw} (h : RowsO w base rs) (hs : List.Sublist rs' rs) : RowsO w base rs' := ⟨fun r hr => h.own r (hs.subset hr), h.apart.sublist hs⟩
theorem RowsO.more {w w' : World} {base B : Nat} {rs rs' : List Rw} (h : RowsO w base rs) (hb : Below w.heap.size w w') (h' : RowsO w' B rs') (hB : w.heap.size ≤ B) (hB2 : base ≤ B) : RowsO w' base (rs ++ rs') := by
 have h2 := h.below hb
 refine ⟨fun r hr => ?_, List.pairwise_append.2 ⟨h2.apart, h'.apart, fun a ha b hb g hg1 hg2 => ?_⟩⟩
 ·rcases List.mem_append.1 hr with hr | hr
  · exact h2.own r hr
  · exact owns_wide (h'.own r hr) hB2
 ·have e1 := h.lt ha hg1
  have e2 := h'.ge hb hg2
  omega
theorem items_len {α : Type} (enc : α → List Value) (z : Nat) (hz : ∀ x, (enc x).length = z) : ∀ l : List α, (l.flatMap enc).length = l.length * z
 | [] => by simp
 | x :: l => by rw [List.flatMap_cons, List.length_append, hz, items_len enc z hz l, List.length_cons, Nat.succ_mul]; omega
theorem items_cut {α : Type} (enc : α → List Value) (l : List α) (i : Nat) (hi : i < l.length) : l.flatMap enc = (l.take i).flatMap enc ++ (enc (l[i]'hi) ++ (l.drop (i + 1)).flatMap enc) := by
 have e : l = l.take i ++ (l[i]'hi) :: l.drop (i + 1) := by rw [List.getElem_cons_drop, List.take_append_drop]
 conv => lhs; rw [e]
 rw [List.flatMap_append, List.flatMap_cons]
theorem items_at {α : Type} (enc : α → List Value) (z : Nat) (hz : ∀ x, (enc x).length = z) (l : List α) (i j : Nat) (hi : i < l.length) (hj : j < z) : (l.flatMap enc)[i * z + j]? = (enc (l[i]'hi))[j]? := by
 rw [items_cut enc l i hi]
 have e : ((l.take i).flatMap enc).length = i * z := by rw [items_len enc z hz, List.length_take, Nat.min_eq_left (Nat.le_of_lt hi)]
 rw [List.getElem?_append_right (by omega), e, Nat.add_sub_cancel_left, List.getElem?_append_left (by rw [hz]; exact hj)]
def setW (w : World) (g : Nat) : Nat → List Value → World
 | _, [] => w
 | o, v :: r => setW (w.setCell ⟨g, o, none⟩ v) g (o + 1) r
def setA (cur : Array Value) : Nat → List Value → Array Value
 | _, [] => cur
 | o, v :: r => setA (cur.setIfInBounds o v) (o + 1) r
theorem setA_size : ∀ (l : List Value) (cur : Array Value) (o : Nat), (setA cur o l).size = cur.size
 | [], _, _ => rfl
 | v :: r, cur, o => by rw [setA, setA_size r]; simp
theorem setA_out : ∀ (l : List Value) (cur : Array Value) (o m : Nat), (m < o ∨ o + l.length ≤ m) → (setA cur o l)[m]? = cur[m]?
 | [], _, _, _, _ => rfl
 | v :: r, cur, o, m, h => by
  rw [List.length_cons] at h
  rw [setA, setA_out r _ (o + 1) m (by omega), Array.getElem?_setIfInBounds_ne (by omega)]
theorem setA_in : ∀ (l : List Value) (cur : Array Value) (o j : Nat), j < l.length → o + l.length ≤ cur.size → (setA cur o l)[o + j]? = l[j]?
 | [], _, _, j, h, _ => absurd h (by simp)
 | v :: r, cur, o, 0, _, hs => by
  rw [List.length_cons] at hs
  rw [setA, setA_out r _ (o + 1) (o + 0) (by omega), Nat.add_zero, Array.getElem?_setIfInBounds_self_of_lt (by omega)]
  rfl
 | v :: r, cur, o, j + 1, h, hs => by
  rw [List.length_cons] at h hs
  rw [setA, show o + (j + 1) = (o + 1) + j by omega, setA_in r _ (o + 1) j (by omega) (by simp; omega)]
  rfl
theorem setW_heap (g : Nat) (T : TypeId) : ∀ (l : List Value) (w : World) (o : Nat) (cur : Array Value), w.heap[g]? = some (.cells cur T (0, 0)) → (setW w g o l).heap[g]? = some (.cells (setA cur o l) T (0, 0))
 | [], _, _, _, h => h
 | v :: r, w, o, cur, h => setW_heap g T r _ (o + 1) _ (heap_set w g o cur T (0, 0) v h)
theorem setW_other (g g' : Nat) (hne : g' ≠ g) : ∀ (l : List Value) (w : World) (o : Nat), (setW w g o l).heap[g']? = w.heap[g']?
 | [], _, _ => rfl
 | v :: r, w, o => by rw [setW, setW_other g g' hne r, heap_setCell_other _ _ _ _ hne]
theorem setW_below {base g : Nat} (hg : base ≤ g) : ∀ (l : List Value) (w w' : World) (o : Nat), Below base w w' → Below base w (setW w' g o l)
 | [], _, _, _, h => h
 | v :: r, w, _, o, h => setW_below hg r w _ (o + 1) (h.setCell (p := ⟨g, o, none⟩) hg v)
theorem setW_size (g : Nat) : ∀ (l : List Value) (w : World) (o : Nat), (setW w g o l).heap.size = w.heap.size
 | [], _, _ => rfl
 | v :: r, w, o => by rw [setW, setW_size g r]; simp
def PartO {α : Type} (enc : α → List Value) (z : Nat) (T : TypeId) (w : World) (g n : Nat) (l : List α) : Prop :=
 ∃ cur, w.heap[g]? = some (.cells cur T (0, 0)) ∧ cur.size = n * z ∧ ∀ i (hi : i < l.length) (j : Nat), j < z → cur[i * z + j]? = (enc (l[i]'hi))[j]?
theorem PartO.lt {α : Type} {enc : α → List Value} {z : Nat} {T : TypeId} {w : World} {g n : Nat} {l : List α} (h : PartO enc z T w g n l) : g < w.heap.size := by
 obtain ⟨cur, h1, _⟩ := h
 exact (blt h1)
theorem PartO.below {α : Type} {enc : α → List Value} {z : Nat} {T : TypeId} {w w' : World} {g n : Nat} {l : List α} (h : PartO enc z T w g n l) (hb : Below w.heap.size w w') : PartO enc z T w' g n l := by
 have hl := h.lt
 obtain ⟨cur, h1, h2⟩ := h
 exact ⟨cur, (hb.block g hl).trans h1, h2⟩
theorem PartO.cell {α : Type} {enc : α → List Value} {z : Nat} {T : TypeId} {w : World} {g n : Nat} {l : List α} (h : PartO enc z T w g n l) (j : Nat) (hj : j < n * z) : ∃ u, w.cell? ⟨g, j, none⟩ = some u := by
 obtain ⟨cur, h1, h2, _⟩ := h
 refine ⟨cur[j]'(by omega), ?_⟩
 simp only [World.cell?, h1]
 simp [show j < cur.size by omega]
theorem PartO.frozen {α : Type} {enc : α → List Value} {z : Nat} {T : TypeId} {w : World} {g n : Nat} {l : List α} (h : PartO enc z T w g n l) (j : Nat) : w.frozen? ⟨g, j, none⟩ = false := by
 obtain ⟨cur, h1, _⟩ := h
 simp [World.frozen?, h1]
theorem PartO.put {α : Type} {enc : α → List Value} {z : Nat} {T : TypeId} {w : World} {g n : Nat} {l : List α} (hz : ∀ x, (enc x).length = z) (h : PartO enc z T w g n l) (x : α) (hk : l.length < n) : PartO enc z T (setW w g (l.length * z) (enc x)) g n (l ++ [x]) := by
 obtain ⟨cur, h1, h2, h3⟩ := h
 have hm : (l.length + 1) * z ≤ n * z := Nat.mul_le_mul_right z hk
 rw [Nat.add_mul, Nat.one_mul] at hm
 refine ⟨_, setW_heap g T _ w _ cur h1, by rw [setA_size]; exact h2, fun i hi j hj => ?_⟩
 rw [List.length_append, List.length_singleton] at hi
 by_cases e : i = l.length
 ·subst e
  rw [setA_in _ _ _ _ (by rw [hz]; exact hj) (by rw [hz, h2]; exact hm)]
  simp
 have hi2 : i < l.length := by omega
 have hm2 : (i + 1) * z ≤ l.length * z := Nat.mul_le_mul_right z hi2
 rw [Nat.add_mul, Nat.one_mul] at hm2
 rw [setA_out _ _ _ _ (.inl (by omega)), h3 i hi2 j hj, List.getElem_append_left hi2]
theorem PartO.owns {α : Type} {enc : α → List Value} {z : Nat} {T : TypeId} {w : World} {g n : Nat} {l : List α} (hz : ∀ x, (enc x).length = z) (hz0 : 0 < z) (h : PartO enc z T w g n l) (hl : l.length = n) (hm : n ≤ maxLen) {base : Nat} (hb : base ≤ g) : w.ownsRow base T z (.slice (some ⟨g, 0, none⟩) n n) n (l.flatMap enc) := by
 obtain ⟨cur, hg, hs, hc⟩ := h
 have hln : (l.flatMap enc).length = n * z := by rw [items_len enc z hz, hl]
 refine ⟨hln, .inr ⟨g, n, cur, rfl, hb, hg, Nat.le_refl _, hm, hs, ?_⟩⟩
 apply List.ext_getElem?
 intro j
 rw [List.getElem?_take]
 by_cases hj : j < n * z
 rotate_left
 · rw [if_neg hj, List.getElem?_eq_none (by omega)]
 rw [if_pos hj]
 have hd : j / z < l.length := by rw [hl]; exact Nat.div_lt_of_lt_mul (by rw [Nat.mul_comm]; exact hj)
 have hmod : j % z < z := Nat.mod_lt _ hz0
 have e : j / z * z + j % z = j := by rw [Nat.mul_comm]; exact Nat.div_add_mod j z
 have h1 := items_at enc z hz l (j / z) (j % z) hd hmod
 have h2 := hc (j / z) hd (j % z) hmod
 rw [e] at h1 h2
 rw [h1, ← h2]
 simp
def numTextI (n : Int) : ByteArray := if n < 0 then ⟨#[]⟩ else numText n.toNat
theorem decDigits_zero : Lib.decDigits 0 = [48] := by rw [Lib.decDigits, dif_pos (by omega)]; rfl
theorem dg_dec : ∀ (f n : Nat), n < 10 ^ f → n ≠ 0 → dgF f n = Lib.decDigits n := by
 intro f
 induction f with
 | zero => intro n h h0; simp at h; omega
 | succ f ih =>
  intro n h h0
  rw [dgF_pos f n h0]
  rw [Nat.pow_succ] at h
  by_cases hs : n < 10
  rotate_left
  · rw [Lib.decDigits, dif_neg hs, ih (n / 10) (by omega) (by omega)]
  rw [Lib.decDigits, dif_pos hs]
  have e1 : n / 10 = 0 := by omega
  have e2 : n % 10 = n := by omega
  rw [e1, dgF_zero, e2]; rfl
theorem itoa_num (n : Int) (h0 : 0 ≤ n) (h1 : n ≤ 1000000) : (⟨(Lib.itoa n).toArray⟩ : Tx) = numTextI n := by
 unfold numTextI
 rw [if_neg (by omega)]
 unfold numText numL Lib.itoa
 rw [if_neg (by omega), if_neg (by omega)]
 by_cases h : n.toNat = 0
 · rw [if_pos h, h, decDigits_zero]
 rw [if_neg h, dg_dec 8 n.toNat (by omega) h]
def TabOk (w : World) : Prop := Lib.TabIs Tryz.prog w "internal/strconv.uint64pow10" .u64 Lib.pow10Tab
theorem gTab : Tryz.prog.globalNamed "internal/strconv.uint64pow10" = some 0 := by kernel_rfl
theorem TabOk.lt {w : World} (h : TabOk w) : 0 < w.heap.size := by
 unfold TabOk Lib.TabIs World.var? at h
 rw [gTab] at h
 rcases Nat.lt_or_ge 0 w.heap.size with hl | hl
 · exact hl
 · simp [Array.getElem?_eq_none hl] at h
theorem TabOk.below {w w' : World} (h : TabOk w) (hb : Below w.heap.size w w') : TabOk w' := var?_below hb gTab h.lt h
theorem implNumText_any (n : Int) (w : World) (h0 : -9223372036854775808 ≤ n) (h1 : n ≤ 9223372036854775807) (htab : TabOk w) :
  Calls Tryz.prog 140 #[.int .i64 n] w fun e w' => TextIs (numTextI n) w e w' := by
 by_cases hn : n < 0
 ·have hT : Hid (⟨#[]⟩ = numTextI n) := by show _ = _; unfold numTextI; rw [if_pos hn]
  go_enter Tryz.func140, Tryz.ntmps140
  go_wp2_with fail
  go_ret
  exact TextIs.of hT.out (Below.refl _ _)
 by_cases hb : 1000000 < n
 ·have hT : Hid (⟨#[]⟩ = numTextI n) := by
   show _ = _
   unfold numTextI numText numL; rw [if_neg hn, if_pos (by omega)]
  go_enter Tryz.func140, Tryz.ntmps140
  go_wp2_with fail
  go_ret
  exact TextIs.of hT.out (Below.refl _ _)
 have hT : Hid _ := itoa_num n (by omega) (by omega)
 have HT := hid htab
 clear htab
 go_enter Tryz.func140, Tryz.ntmps140
 go_wp2_with fail
 refine (Tryz.strconv_Itoa n h0 h1 w HT.out).mono ?_
 rintro e w1 ⟨rfl, k, os, rfl⟩
 rw [hT.out]
 have hb1 := Lib.below_grow w.heap.size w (Nat.le_refl _) k os
 obtain ⟨w1, hw1⟩ := exq (Sort.grow (w.drewN k) os)
 rw [← hw1] at hb1 ⊢
 clear hw1
 go_wp2_with fail
 go_ret
 exact TextIs.of rfl hb1
theorem specNumText_int (n : Int) (w : World) (h0 : -9223372036854775808 ≤ n) (h1 : n ≤ 9223372036854775807) :
  Calls Tryz.prog 85 #[.int .i64 n] w fun e w' => TextIs (numTextI n) w e w' := by
 by_cases hn : n < 0
 ·have hT : Hid (⟨#[]⟩ = numTextI n) := by show _ = _; unfold numTextI; rw [if_pos hn]
  have hn2 : ¬ 0 ≤ n := by omega
  go_enter Tryz.func85, Tryz.ntmps85
  go_wp2
  go_ret
  exact TextIs.of hT.out (Below.refl _ _)
 by_cases hb : 1000000 < n
 rotate_left
 ·obtain ⟨m, rfl⟩ := Int.eq_ofNat_of_zero_le (Int.not_lt.1 hn)
  have hT : numTextI (m : Int) = numText m := by unfold numTextI; rw [if_neg hn]; simp
  rw [hT]
  exact specNumText_any m w (by omega)
 have hT : Hid (⟨#[]⟩ = numTextI n) := by
  show _ = _
  unfold numTextI numText numL; rw [if_neg hn, if_pos (by omega)]
 have hp : 0 ≤ n := by omega
 have hb2 : ¬ n ≤ 1000000 := by omega
 have hd : decide (n ≤ 1000000) = false := by simp; omega
 go_enter Tryz.func85, Tryz.ntmps85
 go_wp2
 go_ret
 exact TextIs.of hT.out (Below.refl _ _)
end Go.Proofs.YtpacdigfnneoeaaGreatDoor
namespace Go.Proofs.YtpacdigfnneoeaaGreatDoor
open Go.RowKit
def PathB (n : Int) : Prop := 33 ≤ n ∧ n ≤ 126
def PathOk (s : Tx) : Prop := AllB PathB s ∧ 1 ≤ s.size ∧ s.size ≤ 60 ∧ ∃ h : 0 < s.size, (s[0]'h).toNat = 47
def ReqP (m : Int) (path : Tx) (fs : Fs) (body : Tx) : Prop := (1 ≤ m ∧ m ≤ 4) ∧ PathOk path ∧ FldsOk fs ∧ body.size ≤ 120
def RespP (st : Int) (fs : Fs) (body : Tx) : Prop := (100 ≤ st ∧ st ≤ 599) ∧ FldsOk fs ∧ body.size ≤ 120
def methB (m : Int) : ByteArray := if m = 1 then ⟨#[71, 69, 84]⟩ else if m = 2 then ⟨#[72, 69, 65, 68]⟩ else if m = 3 then ⟨#[80, 79, 83, 84]⟩ else if m = 4 then ⟨#[80, 85, 82, 71, 69]⟩ else ⟨#[]⟩
def bs (s : Tx) : List UInt8 := s.data.toList
theorem bs_len (a : Tx) : (bs a).length = a.size := by simp [bs]
theorem meth_cases {m : Int} (h : 1 ≤ m ∧ m ≤ 4) : m = 1 ∨ m = 2 ∨ m = 3 ∨ m = 4 := by omega
theorem bs_extract (s : Tx) (f j : Nat) : bs (s.extract f j) = ((bs s).take j).drop f := by
 simp [bs, List.drop_take]
def partL (cur : List UInt8) : Ts := if trimL cur = [] then [] else [⟨(trimL cur).toArray⟩]
def spA (cur : List UInt8) : List UInt8 → Ts
 | [] => partL cur
 | c :: r => if c = 44 then partL cur ++ spA [] r else spA (cur ++ [c]) r
theorem add_part (l : Ts) (s : Tx) : addPart l (trimOf s) = l ++ partL (bs s) := by
 have hs : (trimOf s).size = (trimL (bs s)).length := by
  show (trimL s.data.toList).toArray.size = _
  simp [bs]
 unfold addPart partL
 rw [hs]
 by_cases h : trimL (bs s) = []
 · rw [if_pos h, if_pos (by rw [h]; rfl), List.append_nil]
 rw [if_neg h, if_neg (fun e => h (List.length_eq_zero_iff.1 e))]
 rfl
theorem ext_part (s : Tx) (a k : Nat) : bs (s.extract a k) = ((bs s).take k).drop a := by rw [bs_extract]
theorem split_from (s : Tx) : ∀ k, k ≤ s.size → (splitTo s k).1 ++ spA (((bs s).take k).drop (splitTo s k).2) ((bs s).drop k) = spA [] (bs s) := by
 intro k
 induction k with
 | zero => intro _; simp [splitTo]
 | succ k ih =>
  intro hk
  have hlt : k < s.size := by omega
  have h := ih (by omega)
  have hle := (splitTo_le s k).1
  have hd : (bs s).drop k = s[k]'hlt :: (bs s).drop (k + 1) := by
   have hl : k < (bs s).length := by rw [bs_len]; exact hlt
   rw [List.drop_eq_getElem_cons hl]
   congr 1
  have ht : (bs s).take (k + 1) = (bs s).take k ++ [s[k]'hlt] := by
   have hl : k < (bs s).length := by rw [bs_len]; exact hlt
   rw [List.take_succ_eq_append_getElem hl]
   congr 1
  rw [hd] at h
  by_cases hc : (s[k]'hlt).toNat = 44
  ·have hc8 : s[k]'hlt = 44 := UInt8.toNat_inj.1 hc
   rw [splitTo_comma s k hlt hc]
   dsimp only
   rw [add_part, ext_part]
   rw [spA, if_pos hc8] at h
   have hn : ((bs s).take (k + 1)).drop (k + 1) = [] := List.drop_of_length_le (by rw [List.length_take]; omega)
   rw [hn, List.append_assoc]
   exact h
  have hc8 : s[k]'hlt ≠ 44 := fun e => hc (by rw [e]; rfl)
  rw [splitTo_other s k hlt hc]
  rw [spA, if_neg hc8] at h
  have hn : ((bs s).take (k + 1)).drop (splitTo s k).2 = ((bs s).take k).drop (splitTo s k).2 ++ [s[k]'hlt] := by
   rw [ht, List.drop_append_of_le_length (by rw [List.length_take, bs_len]; omega)]
  rw [hn]
  exact h
theorem splitL_sp (s : Tx) : splitL s = spA [] (bs s) := by
 have h := split_from s s.size (Nat.le_refl _)
 have hd : (bs s).drop s.size = [] := List.drop_of_length_le (by rw [bs_len]; exact Nat.le_refl _)
 rw [hd] at h
 unfold splitL
 rw [add_part, ext_part]
 exact h
theorem dropB_len : ∀ l : List UInt8, (dropB l).length ≤ l.length := by
 intro l
 induction l with
 | nil => simp [dropB]
 | cons c l ih =>
  unfold dropB
  split
  · simp; omega
  · exact Nat.le_refl _
theorem trimL_len (l : List UInt8) : (trimL l).length ≤ l.length := by
 have h1 := dropB_len l
 have h2 := dropB_len (dropB l).reverse
 unfold trimL
 rw [List.length_reverse]
 rw [List.length_reverse] at h2
 omega
theorem partL_le (cur : List UInt8) : (partL cur).length ≤ 1 ∧ ∀ x ∈ partL cur, x.size ≤ cur.length := by
 unfold partL
 split
 · exact ⟨by simp, fun x hx => nomatch hx⟩
 ·refine ⟨by simp, fun x hx => ?_⟩
  obtain rfl := List.mem_singleton.1 hx
  exact trimL_len cur
theorem spA_le : ∀ (l cur : List UInt8), (spA cur l).length ≤ l.length + 1 ∧ ∀ x ∈ spA cur l, x.size ≤ cur.length + l.length := by
 intro l
 induction l with
 | nil => intro cur; exact ⟨(partL_le cur).1, fun x hx => (partL_le cur).2 x hx⟩
 | cons c l ih =>
  intro cur
  unfold spA
  split
  ·have h1 := partL_le cur
   have h2 := ih []
   refine ⟨by rw [List.length_append, List.length_cons]; omega, fun x hx => ?_⟩
   rw [List.mem_append] at hx
   rw [List.length_cons]
   rcases hx with hx | hx
   · have := h1.2 x hx; omega
   · have := h2.2 x hx; rw [List.length_nil] at this; omega
  ·have h2 := ih (cur ++ [c])
   refine ⟨by rw [List.length_cons]; omega, fun x hx => ?_⟩
   have := h2.2 x hx
   rw [List.length_append, List.length_singleton] at this
   rw [List.length_cons]
   omega
theorem splitL_le (s : Tx) : (splitL s).length ≤ s.size + 1 ∧ ∀ x ∈ splitL s, x.size ≤ s.size := by
 have h := spA_le (bs s) []
 rw [← splitL_sp, bs_len, List.length_nil, Nat.zero_add] at h
 exact h
structure CcD where
 ns : Bool
 nc : Bool
 pr : Bool
 mu : Bool
 ha : Bool
 age : Int
def cc0 : CcD := ⟨false, false, false, false, false, 0⟩
def CcD.v (c : CcD) : Value := .agg #[.bool c.ns, .bool c.nc, .bool c.pr, .bool c.mu, .bool c.ha, .int .i64 c.age]
def nsW : ByteArray := ⟨#[110, 111, 45, 115, 116, 111, 114, 101]⟩
def ncW : ByteArray := ⟨#[110, 111, 45, 99, 97, 99, 104, 101]⟩
def prW : ByteArray := ⟨#[112, 114, 105, 118, 97, 116, 101]⟩
def muW : ByteArray := ⟨#[109, 117, 115, 116, 45, 114, 101, 118, 97, 108, 105, 100, 97, 116, 101]⟩
def maW : ByteArray := ⟨#[109, 97, 120, 45, 97, 103, 101, 61]⟩
open Classical in
noncomputable def numV (s : Tx) : Int := if NumOk s then (valL s.data.toList : Int) else 0
open Classical in
noncomputable def ageOf (w : Tx) : Option Int := if (bs w).take 8 = bs maW then some (numV ⟨((bs w).drop 8).toArray⟩) else none
noncomputable def ccStep (c : CcD) (w : Tx) : CcD :=
 if w = nsW then { c with ns := true } else if w = ncW then { c with nc := true } else if w = prW then { c with pr := true } else if w = muW then { c with mu := true }
 else match ageOf w with
  | none => c
  | some n => if c.ha = true then { c with age := min c.age n } else { c with ha := true, age := n }
noncomputable def ccTo (l : Ts) : CcD := l.foldl (fun c x => ccStep c (lowerOf x)) cc0
noncomputable def ccR (s : Tx) : CcD := ccTo (splitL s)
theorem ccTo_snoc (l : Ts) (x : Tx) : ccTo (l ++ [x]) = ccStep (ccTo l) (lowerOf x) := by simp [ccTo]
theorem numV_in (s : Tx) : 0 ≤ numV s ∧ numV s ≤ 1000000 := by
 unfold numV
 split
 ·rename_i h
  have := h.2.2.2
  omega
 · omega
theorem ageOf_in {w : ByteArray} {n : Int} (h : ageOf w = some n) : 0 ≤ n ∧ n ≤ 1000000 := by
 unfold ageOf at h
 split at h
 ·obtain rfl := Option.some.inj h
  exact numV_in _
 · cases h
def CcD.fit (c : CcD) : Prop := 0 ≤ c.age ∧ c.age ≤ 1000000 ∧ (c.ha = false → c.age = 0)
theorem ccStep_fit {c : CcD} (h : c.fit) (w : Tx) : (ccStep c w).fit := by
 obtain ⟨h1, h2, h3⟩ := h
 unfold ccStep
 split
 · exact ⟨h1, h2, h3⟩
 split
 · exact ⟨h1, h2, h3⟩
 split
 · exact ⟨h1, h2, h3⟩
 split
 · exact ⟨h1, h2, h3⟩
 cases hn : ageOf w with
 | none => exact ⟨h1, h2, h3⟩
 | some n =>
  have := ageOf_in hn
  dsimp only
  split
  ·rename_i ha
   exact ⟨by dsimp only; omega, by dsimp only; omega, fun e => by dsimp only at e; rw [ha] at e; cases e⟩
  · exact ⟨by dsimp only; omega, by dsimp only; omega, fun e => by cases e⟩
theorem ccTo_fit (l : Ts) : (ccTo l).fit := by
 unfold ccTo
 have : ∀ (l : Ts) (c : CcD), c.fit → (l.foldl (fun c x => ccStep c (lowerOf x)) c).fit := by
  intro l
  induction l with
  | nil => intro c h; exact h
  | cons x l ih => intro c h; exact ih _ (ccStep_fit h _)
 exact this l cc0 ⟨by decide, by decide, fun _ => rfl⟩
theorem ccR_fit (s : Tx) : (ccR s).fit := ccTo_fit _
theorem text_bs (x : Tx) : (⟨(bs x).toArray⟩ : Tx) = x := by
 apply ByteArray.ext
 simp [bs]
end Go.Proofs.YtpacdigfnneoeaaGreatDoor
namespace Go.Proofs.YtpacdigfnneoeaaGreatDoor
open Go.RowKit
open Go.Lib hiding intOf
def varyName : ByteArray := ⟨#[118, 97, 114, 121]⟩
def dashT : ByteArray := ⟨#[45]⟩
def starT : ByteArray := ⟨#[42]⟩
def varyP (fs : Fs) : Ts := (splitL (getV fs varyName)).map lowerOf
def valOf (fs : Fs) (x : Tx) : ByteArray := if getB fs x = true then getV fs x else dashT
def valsP (xs : Ts) (fs : Fs) : Ts := xs.map (valOf fs)
open Classical in
noncomputable def suitsP (xs ys : Ts) (fs : Fs) : Bool := decide (starT ∉ xs ∧ valsP xs fs = ys)
theorem valsP_len (xs : Ts) (fs : Fs) : (valsP xs fs).length = xs.length := by simp [valsP]
def TextsA (w : World) (oa : Oa) (n : Nat) (xs : Ts) : Prop :=
 xs.length = n ∧ ∀ i, i < n → ∃ g, oa = some ⟨g, 0, none⟩ ∧ g < w.heap.size ∧ w.cell? ⟨g, i, none⟩ = some (.string (textAt xs i))
theorem TextsA.below {w w' : World} {oa : Oa} {n : Nat} {xs : Ts} (h : TextsA w oa n xs) (hb : Below w.heap.size w w') : TextsA w' oa n xs :=
 ⟨h.1, fun i hi => by
  obtain ⟨g, h1, h2, h3⟩ := h.2 i hi
  exact ⟨g, h1, Nat.lt_of_lt_of_le h2 hb.size, by rw [hb.cell (p := ⟨g, i, none⟩) h2]; exact h3⟩⟩
theorem texts_own {w : World} {base n : Nat} {v : Value} {xs : Ts} (h : w.ownsRow base 9 1 v n (xs.map Value.string)) : ∃ oa cap, v = .slice oa n cap ∧ TextsA w oa n xs := by
 have hl : xs.length = n := by have := h.1; simpa using this
 rcases row_form h with ⟨oa, ca, rfl, rfl, rfl⟩ | ⟨g, cap, rfl, hp, r⟩
 · exact ⟨oa, ca, rfl, rfl, fun i hi => absurd hi (by omega)⟩
 · exact ⟨_, _, rfl, hl, fun i hi => ⟨g, rfl, r.lt, r.cell i hi⟩⟩
def loTo (xs : Ts) (j : Nat) : Ts := (xs.take j).map lowerOf ++ xs.drop j
theorem loTo_zero (xs : Ts) : loTo xs 0 = xs := by simp [loTo]
theorem loTo_all (xs : Ts) (j : Nat) (h : xs.length ≤ j) : loTo xs j = xs.map lowerOf := by
 simp [loTo, List.take_of_length_le h, List.drop_of_length_le h]
theorem loTo_at (xs : Ts) (j : Nat) : textAt (loTo xs j) j = textAt xs j := by
 unfold textAt loTo
 rw [List.getD_eq_getElem?_getD, List.getD_eq_getElem?_getD]
 by_cases h : j < xs.length
 rotate_left
 · rw [List.getElem?_eq_none (by simp; omega), List.getElem?_eq_none (by omega)]
 rw [List.getElem?_append_right (by simp; omega), List.length_map, List.length_take, Nat.min_eq_left (by omega), Nat.sub_self, List.getElem?_drop, Nat.add_zero]
theorem loTo_step (xs : Ts) (j : Nat) (h : j < xs.length) : (loTo xs j).set j (lowerOf (textAt xs j)) = loTo xs (j + 1) := by
 have e : xs.drop j = textAt xs j :: xs.drop (j + 1) := by
  rw [List.drop_eq_getElem_cons h]
  congr 1
  unfold textAt
  rw [List.getD_eq_getElem?_getD, List.getElem?_eq_getElem h]
  rfl
 have e2 : xs.take (j + 1) = xs.take j ++ [textAt xs j] := by
  rw [List.take_add_one, List.getElem?_eq_getElem h]
  unfold textAt
  rw [List.getD_eq_getElem?_getD, List.getElem?_eq_getElem h]
  rfl
 unfold loTo
 rw [List.set_append_right _ _ (by simp; omega), List.length_map, List.length_take, Nat.min_eq_left (by omega), Nat.sub_self, e, List.set_cons_zero, e2, List.map_append]
 simp
theorem valsP_snoc (xs : Ts) (fs : Fs) (i : Nat) (h : i < xs.length) : valsP (xs.take (i + 1)) fs = valsP (xs.take i) fs ++ [valOf fs (textAt xs i)] := by
 rw [List.take_add_one, List.getElem?_eq_getElem h]
 unfold textAt valsP
 rw [List.getD_eq_getElem?_getD, List.getElem?_eq_getElem h, List.map_append]
 rfl
theorem specVaryOf_any (v : Value) (n base : Nat) (fs : Fs) (w : World) (hv : FieldsV w base v n fs) (hn : n ≤ 1073741824) (hsz : (getV fs varyName).size ≤ 1048576) :
  Calls Tryz.prog 72 #[v] w fun e w' => RowIs w.heap.size (varyP fs) w e w' := by
 obtain ⟨s, hs⟩ := exq (getV fs varyName)
 have HS : Hid (getV fs varyName = s) := hs.symm
 have HE : Hid (varyP fs = (splitL s).map lowerOf) := by show _ = _; unfold varyP; rw [HS.out]
 rw [← hs] at hsz
 obtain ⟨hl1, hl2⟩ := splitL_le s
 clear hs
 go_enter Tryz.func72, Tryz.ntmps72
 go_wp2_with fail
 refine (specGet_any v n base fs varyName _ hv hn).mono ?_
 rintro e w1 ⟨rfl, rfl⟩
 rw [HS.out]
 clear hv
 go_wp2_with fail
 refine (specSplit_any s _ hsz).mono ?_
 rintro e w2 ⟨V, rfl, O, b2⟩
 obtain ⟨xs, hxs⟩ := exq (splitL s)
 rw [← hxs] at hl1 hl2 O HE
 obtain ⟨m, hm⟩ := exq xs.length
 rw [← hm] at hl1 O
 have HM : Hid (xs.length = m) := hm.symm
 have H2 := hid hl2
 clear hxs hm hl2
 rcases row_form O with ⟨oa, ca, rfl, h0, h1⟩ | ⟨g, cap, rfl, hp, r1⟩
 ·subst h0 h1
  go_wp2_with fail
  refine wp_loop_rounds 1 ?_
  rw [rounds_succ]
  go_wp2_with fail
  go_ret
  exact RowIs.of (by rw [HE.out]; rfl) rfl O b2
 ·clear O
  have HB2 : Hid (Below w1.heap.size w1 w2) := b2
  have HR1 : Hid (TextRow w1.heap.size w2 g m cap (loTo xs 0)) := by show TextRow _ _ _ _ _ _; rw [loTo_zero]; exact r1
  clear b2 r1
  go_wp2_with fail
  go_loopw [6] (fun i wr => ∃ j : Nat, j ≤ m ∧ i = .int .i64 (j : Int) ∧ Hid (Below w1.heap.size w1 wr) ∧ Hid (TextRow w1.heap.size wr g m cap (loTo xs j))) (fun i _ => m - (intOf i).toNat)
  case atStart => exact ⟨0, Nat.zero_le _, rfl, HB2, HR1⟩
  case round =>
   obtain ⟨j, hj, rfl, HB, HR⟩ := hrel
   by_cases hlt : j < m
   rotate_left
   ·obtain rfl : j = m := by omega
    go_wp2_with fail
    go_ret
    exact RowIs.of (by rw [HE.out, loTo_all xs j (by rw [HM.out]; exact Nat.le_refl _)]) (by rw [loTo_all xs j (by rw [HM.out]; exact Nat.le_refl _), List.length_map, HM.out]) HR.out.owns HB.out
   have hlt2 : (j : Int) < (m : Int) := by omega
   obtain ⟨x, hx⟩ := exq (textAt xs j)
   have hc := HR.out.cell j hlt
   rw [loTo_at, ← hx] at hc
   have HST : Hid ((loTo xs j).set j (lowerOf x) = loTo xs (j + 1)) := by show _ = _; rw [hx]; exact loTo_step xs j (by rw [HM.out]; exact hlt)
   have hxz : x.size ≤ 1048576 := by
    refine Nat.le_trans (H2.out x ?_) hsz
    rw [hx]
    unfold textAt
    rw [List.getD_eq_getElem?_getD, List.getElem?_eq_getElem (by rw [HM.out]; exact hlt)]
    exact List.getElem_mem _
   clear hx
   go_wp2_with fail
   refine (specLower_any x _ hxz).mono ?_
   rintro e w3 ⟨rfl, hb3⟩
   have hrow := HR.out.below hb3 HR.out.lt
   have hc3 := hrow.cell j hlt
   have hf3 := hrow.frozen j
   have HB3 : Hid (Below w1.heap.size w1 (w3.setCell ⟨g, j, none⟩ (.string (lowerOf x)))) := (HB.out.trans (hb3.mono HB.out.size)).setCell HR.out.base _
   have HR3 : Hid (TextRow w1.heap.size (w3.setCell ⟨g, j, none⟩ (.string (lowerOf x))) g m cap (loTo xs (j + 1))) := by
    show TextRow _ _ _ _ _ _
    rw [← HST.out]
    exact hrow.set j hlt _
   clear hb3 hrow HB HR HST hc
   go_wp2_with fail
   go_roundw
   case rel => exact ⟨j + 1, by omega, by go_num, HB3, HR3⟩
   case measure => simp [intOf]; omega
theorem specValuesOf_any (oa : Oa) (m cm : Nat) (xs : Ts) (v : Value) (n base : Nat) (fs : Fs) (w : World) (hx : TextsA w oa m xs) (hm : m ≤ 1048577) (hv : FieldsV w base v n fs) (hn : n ≤ 1073741824) :
  Calls Tryz.prog 80 #[.slice oa m cm, v] w fun e w' => RowIs w.heap.size (valsP xs fs) w e w' := by
 obtain ⟨i0, hi, hz0, hz1, hz2⟩ := info_parts info9
 have HLEN : Hid (xs.length = m) := hx.1
 have HX : Hid (∀ W, Below w.heap.size w W → TextsA W oa m xs) := fun W h => hx.below h
 have HV : Hid (∀ W, Below w.heap.size w W → FieldsV W base v n fs) := fun W h => hv.below h
 clear hx hv
 go_enter Tryz.func80, Tryz.ntmps80
 have H0 : Hid ((w.alloc (Obj.cells #[] 9)).ownsRow w.heap.size 9 1 (.slice (some ⟨w.heap.size, 0, none⟩) 0 0) 0 (([] : Ts).map Value.string)) := ⟨rfl, .inr ⟨w.heap.size, 0, #[], rfl, Nat.le_refl _, heap_alloc_new w _, Nat.le_refl _, Nat.zero_le _, rfl, rfl⟩⟩
 go_wp2_with fail
 go_loopw [5, 6] (fun a c wr => ∃ (i : Nat) (ys : Ts), c = .int .i64 (i : Int) ∧ i ≤ m ∧ ys.length = i ∧ Hid (wr.ownsRow w.heap.size 9 1 a ys.length (ys.map Value.string)) ∧ Hid (Below w.heap.size w wr) ∧ Hid (ys = valsP (xs.take i) fs)) (fun _ c _ => m - (intOf c).toNat)
 case atStart => exact ⟨0, [], rfl, by omega, rfl, H0, (Below.refl _ _).alloc (Nat.le_refl _) _, rfl⟩
 case round =>
  obtain ⟨i, ys, rfl, hi', hyl, HO, HB, HE⟩ := hrel
  have h63 : ys.length + 1 ≤ maxLen := by unfold maxLen; omega
  have h47 : (ys.length + 1) * 16 ≤ 140737488355328 := by omega
  have HYL := hid hyl
  clear hyl
  by_cases hlt : (i : Int) < (m : Int)
  rotate_left
  ·obtain rfl : i = m := by omega
   have hE := HE.out
   rw [List.take_of_length_le (by rw [HLEN.out]; exact Nat.le_refl _)] at hE
   have HE3 := hid hE
   clear hE HE
   go_wp2_with fail
   go_ret
   exact RowIs.of HE3.out rfl HO.out HB.out
  obtain ⟨g, rfl, hg, hc⟩ := (HX.out wr HB.out).2 i (by omega)
  obtain ⟨x, hxx⟩ := exq (textAt xs i)
  rw [← hxx] at hc
  have HE2 : Hid (ys ++ [valOf fs x] = valsP (xs.take (i + 1)) fs) := by
   show _ = _
   rw [valsP_snoc xs fs i (by rw [HLEN.out]; omega), HE.out, hxx]
  clear hxx
  go_wp2_with fail
  refine (specGet_any v n base fs x _ (HV.out _ HB.out) hn).mono ?_
  rintro e w2 ⟨rfl, rfl⟩
  obtain ⟨s, hs⟩ := exq (getV fs x)
  obtain ⟨th, hth⟩ := exq (getB fs x)
  rw [← hs, ← hth]
  obtain ⟨y, hy⟩ := exq (valOf fs x)
  rw [← hy] at HE2
  have HY : Hid (y = if th = true then s else dashT) := by show _ = _; rw [hy, hs, hth]; rfl
  have HBS : ∀ o, w.heap.size ≤ (w2.alloc o).heap.size := fun o => by have := HB.out.size; simp; omega
  clear hc hs hth hy HE
  cases th with
  | true =>
   have HY2 : Hid (s = y) := by show _ = _; rw [HY.out]; rfl
   rw [HY2.out]
   go_wp2_with (at_builtin; refine wpList_append_own _ rfl _ _ 22 rfl w.heap.size 9 i0 (.string ⟨#[]⟩) 1 16 Tryz.underlying22 hi hz0 hz1 hz2 rfl (by decide) _ _ _ rfl (HO.out.alloc _) ⟨w2.heap.size, 0, none⟩ 1 1 [.string y] rfl rfl (cell_one_new _ _ _) (one_text _) h63 h47 (HBS _) ?_)
   intro v3 w3 hown3 hgrow3 _
   have HB3 : Hid (Below w.heap.size w w3) := ((HB.out.alloc HB.out.size _).grown hgrow3 (HBS _) (fun g hg => owns_ge HO.out hg))
   have HO3 : Hid (w3.ownsRow w.heap.size 9 1 v3 (ys ++ [y]).length ((ys ++ [y]).map Value.string)) := by
    show World.ownsRow _ _ _ _ _ _ _
    rw [List.length_append, List.map_append]
    exact hown3
   clear hown3 hgrow3 HBS HB HO HY HY2
   go_wp2_with fail
   go_roundw
   case rel => exact ⟨i + 1, ys ++ [y], by go_num, by omega, by rw [List.length_append, HYL.out]; rfl, HO3, HB3, HE2⟩
   case measure => simp [intOf]; omega
  | false =>
   have HY2 : Hid (y = ⟨#[45]⟩) := by show _ = _; rw [HY.out]; rfl
   rw [HY2.out] at HE2
   go_wp2_with (at_builtin; refine wpList_append_own _ rfl _ _ 22 rfl w.heap.size 9 i0 (.string ⟨#[]⟩) 1 16 Tryz.underlying22 hi hz0 hz1 hz2 rfl (by decide) _ _ _ rfl (HO.out.alloc _) ⟨w2.heap.size, 0, none⟩ 1 1 [.string ⟨#[45]⟩] rfl rfl (cell_one_new _ _ _) (one_text _) h63 h47 (HBS _) ?_)
   intro v3 w3 hown3 hgrow3 _
   have HB3 : Hid (Below w.heap.size w w3) := ((HB.out.alloc HB.out.size _).grown hgrow3 (HBS _) (fun g hg => owns_ge HO.out hg))
   have HO3 : Hid (w3.ownsRow w.heap.size 9 1 v3 (ys ++ [(⟨#[45]⟩ : Tx)]).length ((ys ++ [(⟨#[45]⟩ : Tx)]).map Value.string)) := by
    show World.ownsRow _ _ _ _ _ _ _
    rw [List.length_append, List.map_append]
    exact hown3
   clear hown3 hgrow3 HBS HB HO HY HY2
   go_wp2_with fail
   go_roundw
   case rel => exact ⟨i + 1, ys ++ [(⟨#[45]⟩ : Tx)], by go_num, by omega, by rw [List.length_append, HYL.out]; rfl, HO3, HB3, HE2⟩
   case measure => simp [intOf]; omega
structure ArgT (w : World) (B : Nat) (a : Oa) (n : Nat) (xs : Ts) : Prop where
 len : xs.length = n
 get : ∀ i, i < n → ∃ b off, a = some ⟨b, off, none⟩ ∧ b < B ∧ w.cell? ⟨b, off + i, none⟩ = some (.string (textAt xs i))
theorem ArgT.below {w w' : World} {B : Nat} {a : Oa} {n : Nat} {xs : Ts} (h : ArgT w B a n xs) (hb : Below B w w') : ArgT w' B a n xs :=
 ⟨h.len, fun i hi => by
  obtain ⟨b, off, h1, h2, h3⟩ := h.get i hi
  exact ⟨b, off, h1, h2, by rw [hb.cell (p := ⟨b, off + i, none⟩) h2]; exact h3⟩⟩
theorem openTexts {H : Type} {enc : TypeId × Value → H} {W : World} {fuel : Nat} {a : Oa} {n cap : Nat} {x : DataW H × List MemPlace} (h : DataW.trod enc Tryz.prog W 0 (fun _ => true) true fuel 22 [.slice a n cap] = some x) :
  ∃ xs, ArgT W W.heap.size a n xs ∧ n ≤ maxLen ∧ ∀ i, i < n → (textAt xs i).size ≤ maxLen := by
 rcases Go.ChangeShapes.open_strings Tryz.underlying22 Tryz.underlying9 (by kernel_rfl) h with ⟨hcs, _⟩ | ⟨ad, len, c, ss, hcs, _, hl, hm, hlen, _, hcell, hsz⟩
 ·simp at hcs
  obtain ⟨rfl, rfl, rfl⟩ := hcs
  exact ⟨[], ⟨rfl, fun i hi => absurd hi (by omega)⟩, Nat.zero_le _, fun i hi => absurd hi (by omega)⟩
 ·simp at hcs
  obtain ⟨rfl, rfl, rfl⟩ := hcs
  have hlen2 : ss.length = cap := by simpa using hlen
  have htk : ∀ i, i < n → textAt (ss.take n) i = ss.getD i ByteArray.empty := fun i hi => by
   unfold textAt
   rw [List.getD_eq_getElem?_getD, List.getD_eq_getElem?_getD, List.getElem?_take_of_lt hi]
   rfl
  refine ⟨ss.take n, ⟨by rw [List.length_take]; omega, fun i hi => ?_⟩, by omega, fun i hi => ?_⟩
  ·obtain ⟨b, off, spot⟩ := ad
   have hspot : spot = none := by
    have := World.cell?_spot (hcell 0 (by omega))
    simpa [Addr.add] using this
   subst hspot
   have hc := hcell i (by omega)
   rw [addr_add] at hc
   exact ⟨b, off, rfl, World.block_lt_of_cell? _ _ hc, by rw [htk i hi]; exact hc⟩
  ·rw [htk i hi]
   refine hsz _ ?_
   rw [List.getD_eq_getElem?_getD, List.getElem?_eq_getElem (by omega)]
   exact List.getElem_mem _
def PartT (w : World) (g n k : Nat) (xs : Ts) : Prop :=
 ∃ cur, w.heap[g]? = some (.cells cur 9 (0, 0)) ∧ cur.size = n ∧ ∀ i, i < k → cur[i]? = some (.string (textAt xs i))
theorem PartT.put {w : World} {g n k : Nat} {xs : Ts} (h : PartT w g n k xs) (hk : k < n) : PartT (w.setCell ⟨g, k, none⟩ (.string (textAt xs k))) g n (k + 1) xs := by
 obtain ⟨cur, h1, h2, h3⟩ := h
 refine ⟨_, heap_set w g k _ _ _ _ h1, by simpa using h2, fun i hi => ?_⟩
 by_cases e : i = k
 ·subst e
  exact Array.getElem?_setIfInBounds_self_of_lt (by omega)
 rw [Array.getElem?_setIfInBounds_ne (fun x => e x.symm)]
 exact h3 i (by omega)
theorem PartT.row {w : World} {g n base : Nat} {xs : Ts} (h : PartT w g n n xs) (hl : xs.length = n) (hb : base ≤ g) (hn : n ≤ maxLen) : TextRow base w g n n xs := by
 obtain ⟨cur, h1, h2, h3⟩ := h
 exact ⟨hl, hb, (blt h1), Nat.le_refl _, hn, cur, h1, h2, h3⟩
theorem toStringS_any (B : Nat) (a : Oa) (n cap : Nat) (xs : Ts) (w : World) (harg : ArgT w B a n xs) (hB : B ≤ w.heap.size) (hn : n ≤ 1048576) :
  Calls Tryz.prog 86 #[.slice a n cap] w fun e w' => ∃ v, e = .returned v ∧ w'.ownsRow w.heap.size 9 1 v n (xs.map Value.string) ∧ Below w.heap.size w w' := by
 obtain ⟨i0, hi, hz0, hz1, hz2⟩ := info_parts info9
 obtain ⟨M, hM⟩ : ∃ M, M = madeCells (Value.string ⟨#[]⟩).cells (((n : Nat) : Int).toNat * i0.size) := ⟨_, rfl⟩
 have hmk : ∀ W : World, (Instr.makeSlice 22 (.int .i64 (n : Int)) (.int .i64 (n : Int))).run Tryz.prog W = .ok (.slice (some ⟨W.heap.size, 0, none⟩) n n) (W.alloc (.cells M 9)) := fun W => by
  have h := run_make (P := Tryz.prog) W 22 9 i0 (.string ⟨#[]⟩) Tryz.underlying22 hi hz0 .i64 .i64 (n : Int) (n : Int) (by omega) (by omega) (by rw [hz2]; omega) (by omega)
  rw [← hM] at h
  simpa using h
 have hMs : M.size = n := by rw [hM, size_madeCells, hz1]; simp
 have HARG : Hid (∀ W, Below B w W → ArgT W B a n xs) := fun W h => harg.below h
 have HLEN : Hid (xs.length = n) := harg.len
 clear hM harg
 have HP : Hid (PartT (w.alloc (.cells M 9)) w.heap.size n 0 xs) := ⟨M, heap_alloc_new w _, hMs, fun i h => absurd h (by omega)⟩
 go_enter Tryz.func86, Tryz.ntmps86
 go_wp2
 go_loopw [4] (fun i wr => ∃ k : Nat, k ≤ n ∧ i = .int .i64 (k : Int) ∧ Hid (PartT wr w.heap.size n k xs) ∧ Below w.heap.size w wr) (fun i _ => n - (intOf i).toNat)
 case atStart => exact ⟨0, Nat.zero_le _, rfl, HP, (Below.refl _ _).alloc (Nat.le_refl _) _⟩
 case round =>
  obtain ⟨k, hk, rfl, hpr, hbw⟩ := hrel
  by_cases hlt : k < n
  rotate_left
  ·obtain rfl : k = n := by omega
   go_wp2
   go_ret
   exact ⟨_, rfl, (hpr.out.row HLEN.out (Nat.le_refl _) (by unfold maxLen; omega)).owns, hbw⟩
  have hlt2 : (k : Int) < (n : Int) := by omega
  obtain ⟨b, off, rfl, hbB, hc1⟩ := (HARG.out wr (hbw.mono hB)).get k hlt
  have HPUT : Hid (PartT (wr.setCell ⟨w.heap.size, k, none⟩ (.string (textAt xs k))) w.heap.size n (k + 1) xs) := hpr.out.put hlt
  obtain ⟨u0, hu0, f0⟩ : ∃ u, wr.cell? ⟨w.heap.size, k, none⟩ = some u ∧ wr.frozen? ⟨w.heap.size, k, none⟩ = false := by
   obtain ⟨cur, h1, h2, _⟩ := hpr.out
   refine ⟨cur[k]'(by omega), ?_, by simp [World.frozen?, h1]⟩
   simp only [World.cell?, h1]
   simp [show k < cur.size by omega]
  generalize textAt xs k = z at hc1 HPUT
  go_wp2
  go_roundw
  case rel => exact ⟨k + 1, by omega, by go_num, HPUT, hbw.setCell (Nat.le_refl _) _⟩
  case measure => simp [intOf]; omega
theorem l3Path_any (s : Tx) (w : World) (hs : s.size ≤ maxLen) :
    Calls Tryz.prog 67 #[.string s] w fun e w' => BoolIs (PathOk s) w e w' := by
  unfold maxLen at hs
  go_enter Tryz.func67, Tryz.ntmps67
  go_wp2
  go_loop [3] (fun i => ∃ k : Nat, k ≤ s.size ∧ i = .int .i64 k ∧ Hid (AllTo PathB s k)) (fun i => s.size - (intOf i).toNat)
  case atStart => exact ⟨0, Nat.zero_le _, rfl, allTo_zero _ _⟩
  case round =>
    obtain ⟨k, hk, rfl, hall⟩ := hrel
    by_cases hlt : k < s.size
    · go_wp2
      all_goals first
        | (go_ret
           have hno : ¬ PathB ((s[k]'hlt).toNat : Int) := by
             unfold PathB
             omega
           exact BoolIs.no (fun h => hno (h.1 k hlt)) (Below.refl _ _))
        | (go_round
           case rel =>
             have hy : PathB ((s[k]'hlt).toNat : Int) := by
               unfold PathB
               omega
             exact ⟨k + 1, by omega, by go_num, allTo_succ hall.out hlt hy⟩
           case measure => simp [intOf]; omega)
    have hend : Hid (AllB PathB s) := allTo_end hall.out hlt
    by_cases h1 : (1 : Int) ≤ (s.size : Int)
    rotate_left
    · go_wp2
      go_ret
      exact BoolIs.no (fun h => by obtain ⟨_, h5, _⟩ := h; omega) (Below.refl _ _)
    have h0 : 0 < s.size := by omega
    by_cases h2 : (s.size : Int) ≤ 60
    rotate_left
    · go_wp2
      go_ret
      exact BoolIs.no (fun h => by obtain ⟨_, _, h5, _⟩ := h; omega) (Below.refl _ _)
    by_cases h3 : ((s[0]'h0).toNat : Int) = 47
    · go_wp2
      go_ret
      exact BoolIs.yes ⟨hend.out, by omega, by omega, h0, by omega⟩ (Below.refl _ _)
    have h4 : (((s[0]'h0).toNat : Int) == 47) = false := by rw [beq_eq_false_iff_ne]; exact h3
    go_wp2
    go_ret
    exact BoolIs.no (fun h => by obtain ⟨_, _, _, _, h5⟩ := h; omega) (Below.refl _ _)
def WalkF (n : Nat) (fs : Fs) : Prop := ∀ i, i < n → (nameAt fs i).size ≤ maxLen ∧ (valAt fs i).size ≤ maxLen
theorem kept_new {w W : World} {o : Obj} (h : Below (w.alloc o).heap.size (w.alloc o) W) : W.heap[w.heap.size]? = some o := by
 rw [h.block _ (by simp)]; exact heap_alloc_new w _
theorem below_new {w W : World} {o : Obj} (h : Below (w.alloc o).heap.size (w.alloc o) W) : Below w.heap.size w W :=
 ((Below.refl _ w).alloc (Nat.le_refl _) o).trans (h.mono (by simp))
theorem l1In_any (x lo hi : Int) (w : World) :
  Calls Tryz.prog 32 #[.int .i64 x, .int .i64 lo, .int .i64 hi] w fun e w' => e = .returned (.bool (decide (lo ≤ x ∧ x ≤ hi))) ∧ w' = w := by
 by_cases h1 : lo ≤ x
 rotate_left
 ·go_enter Tryz.func32, Tryz.ntmps32
  go_wp2
  go_ret
  exact ⟨by simp; omega, rfl⟩
 by_cases h2 : x ≤ hi
 rotate_left
 ·go_enter Tryz.func32, Tryz.ntmps32
  go_wp2
  go_ret
  exact ⟨by simp [h2], rfl⟩
 go_enter Tryz.func32, Tryz.ntmps32
 go_wp2
 go_ret
 exact ⟨by simp [h1, h2], rfl⟩
theorem specReqOk_any (m : Int) (p : Tx) (v : Value) (b : Tx) (n base : Nat) (fs : Fs) (w : World) (hv : FieldsV w base v n fs) (hn : n ≤ 1073741824) (hsz : WalkF n fs) (hp : p.size ≤ maxLen) (hb : b.size ≤ maxLen) :
  Calls Tryz.prog 33 #[.agg #[.int .i64 m, .string p, v, .string b]] w fun e w' => BoolIs (ReqP m p fs b) w e w' := by
 obtain ⟨oa, cap, rfl, _⟩ := hv.slice
 obtain ⟨r, hr⟩ := exq (w.heap.size)
 have HR : Hid (∀ W, Below (w.alloc (.cells #[.int .i64 m, .string p, .slice oa n cap, .string b] 58)).heap.size (w.alloc (.cells #[.int .i64 m, .string p, .slice oa n cap, .string b] 58)) W → (W.cell? ⟨r, 1, none⟩ = some (.string p) ∧ W.cell? ⟨r, 2, none⟩ = some (.slice oa n cap) ∧ W.cell? ⟨r, 3, none⟩ = some (.string b)) ∧ FieldsV W base (.slice oa n cap) n fs ∧ Below w.heap.size w W) := fun W h => by
  have hh := kept_new h
  rw [← hr] at hh
  exact ⟨⟨by simp [World.cell?, hh], by simp [World.cell?, hh], by simp [World.cell?, hh]⟩, hv.below (below_new h), below_new h⟩
 have HSZ := hid hsz
 have HP := hid hp
 unfold maxLen at hb
 clear hv hsz hp
 go_enter Tryz.func33, Tryz.ntmps33
 go_wp2_with fail
 refine (l1In_any m 1 4 _).mono ?_
 rintro e w1 ⟨rfl, hw1⟩
 have hb1 : Below (w.alloc (.cells #[.int .i64 m, .string p, .slice oa n cap, .string b] 58)).heap.size (w.alloc (.cells #[.int .i64 m, .string p, .slice oa n cap, .string b] 58)) w1 := by rw [hw1]; exact Below.refl _ _
 clear hw1
 rw [← hr]
 obtain ⟨⟨c1, c2, c3⟩, _, hbw1⟩ := HR.out w1 hb1
 by_cases hm : 1 ≤ m ∧ m ≤ 4
 rotate_left
 ·have e1 : decide (1 ≤ m ∧ m ≤ 4) = false := by simpa using hm
  have HF : Hid (¬ ReqP m p fs b) := fun h => hm h.1
  rw [e1]
  clear hr hm e1
  go_wp2_with fail
  go_ret
  exact BoolIs.no HF.out hbw1
 have e1 : decide (1 ≤ m ∧ m ≤ 4) = true := by simpa using hm
 have HM := hid hm
 rw [e1]
 clear hr hm e1
 go_wp2_with fail
 refine (l3Path_any p _ HP.out).mono ?_
 rintro e w2 ⟨b1, rfl, kb1, bb2⟩
 have hb2 := hb1.trans (bb2.mono hb1.size)
 clear c1 c2 c3 bb2 hb1 hbw1
 obtain ⟨⟨c1, c2, c3⟩, hv2, hbw2⟩ := HR.out w2 hb2
 have HV2 := hid hv2
 clear hv2
 cases b1
 ·have HF : Hid (¬ ReqP m p fs b) := fun h => by have := kb1.2 h.2.1; cases this
  clear kb1
  go_wp2_with fail
  go_ret
  exact BoolIs.no HF.out hbw2
 ·have HT : Hid (PathOk p) := kb1.1 rfl
  clear kb1
  go_wp2_with fail
  refine (specFieldsOk_any _ n base fs _ HV2.out hn HSZ.out).mono ?_
  rintro e w3 ⟨b2, rfl, kb2, bb3⟩
  have hb3 := hb2.trans (bb3.mono hb2.size)
  clear c1 c2 c3 bb3 hb2 hbw2
  obtain ⟨⟨c1, c2, c3⟩, _, hbw3⟩ := HR.out w3 hb3
  cases b2
  ·have HF : Hid (¬ ReqP m p fs b) := fun h => by have := kb2.2 h.2.2.1; cases this
   clear kb2
   go_wp2_with fail
   go_ret
   exact BoolIs.no HF.out hbw3
  ·have HT2 : Hid (FldsOk fs) := kb2.1 rfl
   clear kb2
   by_cases h120 : (b.size : Int) ≤ 120
   ·have HY : Hid (ReqP m p fs b) := ⟨HM.out, HT.out, HT2.out, by omega⟩
    go_wp2_with fail
    go_ret
    exact BoolIs.yes HY.out hbw3
   have HF : Hid (¬ ReqP m p fs b) := fun h => by have := h.2.2.2; omega
   have hd : decide ((b.size : Int) ≤ 120) = false := by simpa using h120
   go_wp2_with fail
   go_ret
   exact BoolIs.no HF.out hbw3
theorem specRespOk_any (st : Int) (v : Value) (b : Tx) (n base : Nat) (fs : Fs) (w : World) (hv : FieldsV w base v n fs) (hn : n ≤ 1073741824) (hsz : WalkF n fs) (hb : b.size ≤ maxLen) :
  Calls Tryz.prog 69 #[.agg #[.int .i64 st, v, .string b]] w fun e w' => BoolIs (RespP st fs b) w e w' := by
 obtain ⟨oa, cap, rfl, _⟩ := hv.slice
 obtain ⟨r, hr⟩ := exq (w.heap.size)
 have HR : Hid (∀ W, Below (w.alloc (.cells #[.int .i64 st, .slice oa n cap, .string b] 60)).heap.size (w.alloc (.cells #[.int .i64 st, .slice oa n cap, .string b] 60)) W → (W.cell? ⟨r, 1, none⟩ = some (.slice oa n cap) ∧ W.cell? ⟨r, 2, none⟩ = some (.string b)) ∧ FieldsV W base (.slice oa n cap) n fs ∧ Below w.heap.size w W) := fun W h => by
  have hh := kept_new h
  rw [← hr] at hh
  exact ⟨⟨by simp [World.cell?, hh], by simp [World.cell?, hh]⟩, hv.below (below_new h), below_new h⟩
 have HSZ := hid hsz
 unfold maxLen at hb
 clear hv hsz
 go_enter Tryz.func69, Tryz.ntmps69
 go_wp2_with fail
 refine (l1In_any st 100 599 _).mono ?_
 rintro e w1 ⟨rfl, hw1⟩
 have hb1 : Below (w.alloc (.cells #[.int .i64 st, .slice oa n cap, .string b] 60)).heap.size (w.alloc (.cells #[.int .i64 st, .slice oa n cap, .string b] 60)) w1 := by rw [hw1]; exact Below.refl _ _
 clear hw1
 rw [← hr]
 obtain ⟨⟨c2, c3⟩, hv1, hbw1⟩ := HR.out w1 hb1
 have HV1 := hid hv1
 clear hv1
 by_cases hm : 100 ≤ st ∧ st ≤ 599
 rotate_left
 ·have e1 : decide (100 ≤ st ∧ st ≤ 599) = false := by simpa using hm
  have HF : Hid (¬ RespP st fs b) := fun h => hm h.1
  rw [e1]
  clear hr hm e1
  go_wp2_with fail
  go_ret
  exact BoolIs.no HF.out hbw1
 have e1 : decide (100 ≤ st ∧ st ≤ 599) = true := by simpa using hm
 have HM := hid hm
 rw [e1]
 clear hr hm e1
 go_wp2_with fail
 refine (specFieldsOk_any _ n base fs _ HV1.out hn HSZ.out).mono ?_
 rintro e w3 ⟨b2, rfl, kb2, bb3⟩
 have hb3 := hb1.trans (bb3.mono hb1.size)
 clear c2 c3 bb3 hb1 hbw1
 obtain ⟨⟨c2, c3⟩, _, hbw3⟩ := HR.out w3 hb3
 cases b2
 ·have HF : Hid (¬ RespP st fs b) := fun h => by have := kb2.2 h.2.1; cases this
  clear kb2
  go_wp2_with fail
  go_ret
  exact BoolIs.no HF.out hbw3
 ·have HT2 : Hid (FldsOk fs) := kb2.1 rfl
  clear kb2
  by_cases h120 : (b.size : Int) ≤ 120
  ·have HY : Hid (RespP st fs b) := ⟨HM.out, HT2.out, by omega⟩
   go_wp2_with fail
   go_ret
   exact BoolIs.yes HY.out hbw3
  have HF : Hid (¬ RespP st fs b) := fun h => by have := h.2.2; omega
  have hd : decide ((b.size : Int) ≤ 120) = false := by simpa using h120
  go_wp2_with fail
  go_ret
  exact BoolIs.no HF.out hbw3
theorem dgF_len : ∀ (f n : Nat), (dgF f n).length ≤ f
 | 0, n => by simp [dgF]
 | f + 1, n => by
  by_cases h : n = 0
  · rw [h, dgF_zero]; simp
  ·rw [dgF_pos f n h]
   have := dgF_len f (n / 10)
   simp; omega
theorem numText_size (n : Nat) : (numText n).size ≤ 8 := by
 have : (numText n).size = (numL n).length := by simp [numText, ByteArray.size]
 rw [this]
 unfold numL
 split
 · simp
 ·split
  · simp
  · exact dgF_len 8 n
theorem empty_text {b : ByteArray} (h : b.size = 0) : b = ⟨#[]⟩ := by
 apply ByteArray.ext
 exact Array.eq_empty_of_size_eq_zero h
theorem flatF_append (a b : Fs) : flatF (a ++ b) = flatF a ++ flatF b := by simp [flatF]
theorem flatF_one (nm vl : Tx) : flatF [(nm, vl)] = [.string nm, .string vl] := rfl
theorem two_text (a b : Tx) : ∀ u ∈ [Value.string a, Value.string b], u.oneCell' = true := by
 intro u hu
 simp at hu
 rcases hu with rfl | rfl <;> rfl
def RowF (fs : Fs) (w : World) (e : Ending) (w' : World) : Prop :=
 ∃ v, e = .returned v ∧ w'.ownsRow w.heap.size 185 2 v fs.length (flatF fs) ∧ Below w.heap.size w w'
def putF (fs : Fs) (name value : Tx) : Fs :=
 if atF fs name < fs.length then fs.set (atF fs name) (nameAt fs (atF fs name), value) else fs ++ [(name, value)]
theorem FieldRow.setVal {base : Nat} {w : World} {g n cap : Nat} {fs : Fs} (h : FieldRow base w g n cap fs) (k : Nat) (hk : k < n) (b : Tx) : FieldRow base (w.setCell ⟨g, k * 2 + 1, none⟩ (.string b)) g n cap (fs.set k (nameAt fs k, b)) := by
 have hl := h.len; have hle := h.le
 obtain ⟨cur, h1, h2, h3⟩ := h.heap
 refine ⟨by simp [hl], h.base, by simpa using h.lt, h.le, h.mx, cur.setIfInBounds (k * 2 + 1) (.string b), heap_set w g (k * 2 + 1) _ _ _ _ h1, by simpa using h2, ?_⟩
 intro i hi
 have hs := nameAt_set fs k i (nameAt fs k, b) (by omega)
 rw [hs.1, hs.2]
 have h4 := h3 i hi
 by_cases e : i = k
 rotate_left
 ·rw [if_neg e, if_neg e]
  refine ⟨?_, ?_⟩
  · rw [Array.getElem?_setIfInBounds_ne (by omega)]; exact h4.1
  · rw [Array.getElem?_setIfInBounds_ne (by omega)]; exact h4.2
 subst e
 rw [if_pos rfl, if_pos rfl]
 refine ⟨?_, ?_⟩
 · rw [Array.getElem?_setIfInBounds_ne (by omega)]; exact h4.1
 · rw [Array.getElem?_setIfInBounds_self_of_lt (by omega)]
theorem FieldRow.cells {base : Nat} {w : World} {g n cap : Nat} {fs : Fs} (h : FieldRow base w g n cap fs) : ∀ j u, (flatF fs)[j]? = some u → w.cell? ((⟨g, 0, none⟩ : Addr).add j) = some u := by
 intro j u hj
 have hl := h.len
 have hjl : j < fs.length * 2 := by
  rw [← flatF_len]
  exact (List.getElem?_eq_some_iff.1 hj).1
 have e0 : (⟨g, 0, none⟩ : Addr).add j = ⟨g, j, none⟩ := by
  unfold Addr.add; split <;> simp_all
 rw [e0]
 have hf := flatF_get fs (j / 2) (by omega)
 rcases Nat.mod_two_eq_zero_or_one j with e | e
 ·have e2 : j / 2 * 2 = j := by omega
  have hc := h.name (j / 2) (by omega)
  rw [e2] at hf hc
  rw [hf.1] at hj
  cases hj
  exact hc
 ·have e2 : j / 2 * 2 + 1 = j := by omega
  have hc := h.val (j / 2) (by omega)
  rw [e2] at hf hc
  rw [hf.2] at hj
  cases hj
  exact hc
theorem flat_one (fs : Fs) : ∀ u ∈ flatF fs, u.oneCell' = true := by
 intro u hu
 simp only [flatF, List.mem_flatMap] at hu
 obtain ⟨f, _, hf⟩ := hu
 exact two_text f.1 f.2 u hf
theorem FieldsV.src {w : World} {base n : Nat} {v : Value} {fs : Fs} (h : FieldsV w base v n fs) :
  (v = .slice none 0 0 ∧ n = 0 ∧ fs = []) ∨ ∃ ad cap, v = .slice (some ad) n cap ∧ ∀ j u, (flatF fs)[j]? = some u → w.cell? (ad.add j) = some u := by
 rcases h with ⟨oa, cap, rfl, h0, rfl, rfl⟩ | ⟨g, cap, rfl, _, row⟩
 ·cases oa with
  | none => exact .inl ⟨by rw [h0 rfl], rfl, rfl⟩
  | some ad => exact .inr ⟨ad, cap, rfl, fun j u hj => by simp [flatF] at hj⟩
 · exact .inr ⟨_, cap, rfl, row.cells⟩
theorem specPut_any (v : Value) (n base : Nat) (fs : Fs) (name value : Tx) (w : World) (hv : FieldsV w base v n fs) (hn : n ≤ 2000000) :
  Calls Tryz.prog 84 #[v, .string name, .string value] w fun e w' => RowF (putF fs name value) w e w' := by
 obtain ⟨i0, hi, hz0, hz1, hz2⟩ := info_parts info33
 have hl := hv.len
 have h63a : 0 + n ≤ maxLen := by unfold maxLen; omega
 have h47a : (0 + n) * 32 ≤ 140737488355328 := by omega
 have hown0 : (w.alloc (.cells #[] 185)).ownsRow w.heap.size 185 2 (.slice (some ⟨w.heap.size, 0, none⟩) 0 0) 0 [] := ⟨rfl, .inr ⟨w.heap.size, 0, #[], rfl, Nat.le_refl _, heap_alloc_new w _, Nat.le_refl _, Nat.zero_le _, rfl, rfl⟩⟩
 have hbs0 : w.heap.size ≤ (w.alloc (.cells #[] 185)).heap.size := by simp
 have hv1 := hv.below ((Below.refl _ w).alloc (Nat.le_refl _) (.cells #[] 185))
 rcases hv1.src with ⟨rfl, rfl, rfl⟩ | ⟨ad, cap, rfl, hcs⟩
 ·have hP : Hid (putF [] name value = [(name, value)]) := rfl
  have hI : Hid (atI [] name = -1) := rfl
  have hb2 : Below w.heap.size w (w.alloc (.cells #[] 185)) := (Below.refl _ w).alloc (Nat.le_refl _) _
  have HBS : ∀ o, w.heap.size ≤ ((w.alloc (.cells #[] 185)).alloc o).heap.size := fun o => by simp; omega
  clear hv
  go_enter Tryz.func84, Tryz.ntmps84
  go_wp2_with (at_builtin; refine wpList_append_own_none rfl _ _ 56 rfl w.heap.size 185 i0 2 Tryz.underlying56 hi _ _ _ rfl hown0 rfl ?_)
  go_wp2_with fail
  refine (l2At_any _ 0 base [] name _ hv1 (by omega)).mono ?_
  rintro e w3 ⟨rfl, hw3⟩
  rw [← hw3] at hown0 hb2 HBS
  clear hv1 hbs0 hw3
  rw [hI.out]
  have h63 : 0 + 1 ≤ maxLen := by unfold maxLen; omega
  have h47 : (0 + 1) * 32 ≤ 140737488355328 := by omega
  go_wp2_with (at_builtin; refine wpList_append_own _ rfl _ _ 56 rfl w.heap.size 185 i0 (.agg #[.string ⟨#[]⟩, .string ⟨#[]⟩]) 2 32 Tryz.underlying56 hi hz0 hz1 hz2 rfl (by decide) _ _ _ rfl (hown0.alloc _) ⟨w3.heap.size, 0, none⟩ 1 1 [.string name, .string value] rfl rfl (cell_two_new _ _ _ _) (two_text _ _) h63 h47 (HBS _) ?_)
  intro v4 w4 hown4 hgrow4 _
  have hb4 : Below w.heap.size w w4 := (hb2.alloc hb2.size _).grown hgrow4 (HBS _) (fun g hg => owns_ge hown0 hg)
  clear hgrow4 HBS
  go_wp2
  go_ret
  exact ⟨_, rfl, by rw [hP.out, flatF_one]; simpa using hown4, hb4⟩
 ·have hnl : (flatF fs).length = n * 2 := by rw [flatF_len, hl]
  go_enter Tryz.func84, Tryz.ntmps84
  go_wp2_with (at_builtin; refine wpList_append_own _ rfl _ _ 56 rfl w.heap.size 185 i0 (.agg #[.string ⟨#[]⟩, .string ⟨#[]⟩]) 2 32 Tryz.underlying56 hi hz0 hz1 hz2 rfl (by decide) _ _ _ rfl hown0 ad n cap (flatF fs) rfl hnl hcs (flat_one _) h63a h47a hbs0 ?_)
  intro v1 w2 hown1 hgrow _
  have hb2 : Below w.heap.size w w2 := ((Below.refl _ w).alloc (Nat.le_refl _) _).grown hgrow hbs0 (fun g hg => owns_ge hown0 hg)
  have hv2 := hv.below hb2
  have hown2 : w2.ownsRow w.heap.size 185 2 v1 n (flatF fs) := by simpa using hown1
  clear hgrow hown1 hown0 hbs0 hv1 hcs hv
  by_cases hin : atF fs name < fs.length
  ·have hI : Hid (atI fs name = (atF fs name : Int)) := by show _ = _; unfold atI; rw [if_pos hin]
   have hP : Hid (putF fs name value = fs.set (atF fs name) (nameAt fs (atF fs name), value)) := by show _ = _; unfold putF; rw [if_pos hin]
   obtain ⟨k, hk⟩ := exq (atF fs name)
   rw [← hk] at hI hP hin
   clear hk
   go_wp2_with fail
   refine (l2At_any _ n base fs name _ hv2 (by omega)).mono ?_
   rintro e w3 ⟨rfl, rfl⟩
   rw [hI.out]
   rcases frow_form hown2 with ⟨_, _, _, _, h0, _⟩ | ⟨g1, c1, rfl, _, row1⟩
   · omega
   have hset := row1.setVal k (by omega) value
   have hc := row1.val k (by omega)
   have hf := row1.frozen (k * 2 + 1)
   have hlt : (k : Int) < (n : Int) := by omega
   have hb3 := hb2.setCell (p := ⟨g1, k * 2 + 1, none⟩) row1.base (.string value)
   clear hv2 hown2
   go_wp2
   go_ret
   exact ⟨_, rfl, by rw [hP.out]; simpa [hl] using hset.owns, hb3⟩
  have hI : Hid (atI fs name = -1) := by show _ = _; unfold atI; rw [if_neg hin]
  have hP : Hid (putF fs name value = fs ++ [(name, value)]) := by show _ = _; unfold putF; rw [if_neg hin]
  clear hin
  go_wp2_with fail
  refine (l2At_any _ n base fs name _ hv2 (by omega)).mono ?_
  rintro e w3 ⟨rfl, rfl⟩
  rw [hI.out]
  have h63 : n + 1 ≤ maxLen := by unfold maxLen; omega
  have h47 : (n + 1) * 32 ≤ 140737488355328 := by omega
  have HBS : ∀ o, w.heap.size ≤ (w3.alloc o).heap.size := fun o => by have := hb2.size; simp; omega
  go_wp2_with (at_builtin; refine wpList_append_own _ rfl _ _ 56 rfl w.heap.size 185 i0 (.agg #[.string ⟨#[]⟩, .string ⟨#[]⟩]) 2 32 Tryz.underlying56 hi hz0 hz1 hz2 rfl (by decide) _ _ _ rfl (hown2.alloc _) ⟨w3.heap.size, 0, none⟩ 1 1 [.string name, .string value] rfl rfl (cell_two_new _ _ _ _) (two_text _ _) h63 h47 (HBS _) ?_)
  intro v4 w4 hown4 hgrow4 _
  have hb4 : Below w.heap.size w w4 := (hb2.alloc hb2.size _).grown hgrow4 (HBS _) (fun g hg => owns_ge hown2 hg)
  clear hgrow4 HBS
  go_wp2
  go_ret
  exact ⟨_, rfl, by rw [hP.out, flatF_append, flatF_one]; simpa [hl] using hown4, hb4⟩
theorem slice_of_owns {w : World} {base : Nat} {t : TypeId} {size : Nat} {v : Value} {n : Nat} {xs : List Value} (h : w.ownsRow base t size v n xs) : ∃ oa cp, v = .slice oa n cp := by
 rcases h.2 with ⟨rfl, rfl⟩ | ⟨g, cap, cur, rfl, _⟩
 · exact ⟨none, 0, rfl⟩
 · exact ⟨_, cap, rfl⟩
def fourSet (w : World) (r : Nat) (a b c d : Value) : World := (((w.setCell ⟨r, 0, none⟩ a).setCell ⟨r, 1, none⟩ b).setCell ⟨r, 2, none⟩ c).setCell ⟨r, 3, none⟩ d
theorem four_facts {W : World} {R : Nat} {a b c d : Value} {t : TypeId} (h : W.heap[R]? = some (.cells #[a, b, c, d] t)) :
  (W.cell? ⟨R, 0, none⟩ = some a ∧ W.cell? ⟨R, 1, none⟩ = some b ∧ W.cell? ⟨R, 2, none⟩ = some c ∧ W.cell? ⟨R, 3, none⟩ = some d) ∧ W.frozen? ⟨R, 0, none⟩ = false ∧ W.frozen? ⟨R, 1, none⟩ = false ∧ W.frozen? ⟨R, 2, none⟩ = false ∧ W.frozen? ⟨R, 3, none⟩ = false := by
 refine ⟨⟨?_, ?_, ?_, ?_⟩, ?_, ?_, ?_, ?_⟩ <;> simp [World.cell?, World.frozen?, h]
theorem four_set {W : World} {R : Nat} {a b c d : Value} {t : TypeId} (h : W.heap[R]? = some (.cells #[a, b, c, d] t)) (a' b' c' d' : Value) : (fourSet W R a' b' c' d').heap[R]? = some (.cells #[a', b', c', d'] t) := by
 have := heap_set _ R 3 _ _ _ d' (heap_set _ R 2 _ _ _ c' (heap_set _ R 1 _ _ _ b' (heap_set W R 0 _ _ _ a' h)))
 simpa [fourSet] using this
theorem below_four {w W : World} {B R : Nat} {a b c d : Value} (h : Below B w W) (hR : B ≤ R) : Below B w (fourSet W R a b c d) :=
 (((h.setCell (p := ⟨R, 0, none⟩) hR _).setCell (p := ⟨R, 1, none⟩) hR _).setCell (p := ⟨R, 2, none⟩) hR _).setCell (p := ⟨R, 3, none⟩) hR _
theorem toReq_any (m : Int) (p : Tx) (a : Oa) (n cap : Nat) (b : Tx) (fs : Fs) (B : Nat) (w : World) (harg : ArgF w B a n fs) (hB : B ≤ w.heap.size) (hn : n ≤ 1048576) :
  Calls Tryz.prog 90 #[.agg #[.int .i64 m, .string p, .slice a n cap, .string b]] w fun e w' => ∃ v, e = .returned (.agg #[.int .i64 m, .string p, v, .string b]) ∧ w'.ownsRow w.heap.size 185 2 v n (flatF fs) ∧ Below w.heap.size w w' := by
 obtain ⟨w0, hw0⟩ := exq ((((w.alloc (.cells #[.int .i64 m, .string p, .slice a n cap, .string b] 84)).alloc (.cells #[.int .i64 0, .string ⟨#[]⟩, .slice none 0 0, .string ⟨#[]⟩] 58)).alloc (.cells #[.int .i64 m, .string p, .slice none 0 0, .string ⟨#[]⟩] 58)))
 have hs0 : w0.heap.size = w.heap.size + 1 + 1 + 1 := by rw [hw0]; simp
 have hb0 : Below w.heap.size w w0 := by rw [hw0]; exact (((Below.refl _ w).alloc (Nat.le_refl _) _).alloc (by simp) _).alloc (by simp; omega) _
 have x1 : w0.heap[w.heap.size]? = some (.cells #[.int .i64 m, .string p, .slice a n cap, .string b] 84) := by
  rw [hw0, heap_alloc_old _ _ (by simp; omega), heap_alloc_old _ _ (by simp)]; exact heap_alloc_new w _
 have x2 : w0.heap[w.heap.size + 1]? = some (.cells #[.int .i64 0, .string ⟨#[]⟩, .slice none 0 0, .string ⟨#[]⟩] 58) := by
  rw [hw0, heap_alloc_old _ _ (by simp)]
  have := heap_alloc_new (w.alloc (.cells #[.int .i64 m, .string p, .slice a n cap, .string b] 84)) (.cells #[.int .i64 0, .string ⟨#[]⟩, .slice none 0 0, .string ⟨#[]⟩] 58)
  simpa using this
 have x3 : w0.heap[w.heap.size + 1 + 1]? = some (.cells #[.int .i64 m, .string p, .slice none 0 0, .string ⟨#[]⟩] 58) := by
  rw [hw0]
  have := heap_alloc_new ((w.alloc (.cells #[.int .i64 m, .string p, .slice a n cap, .string b] 84)).alloc (.cells #[.int .i64 0, .string ⟨#[]⟩, .slice none 0 0, .string ⟨#[]⟩] 58)) (.cells #[.int .i64 m, .string p, .slice none 0 0, .string ⟨#[]⟩] 58)
  simpa using this
 go_enter Tryz.func90, Tryz.ntmps90
 go_wp2_with fail
 rw [← hw0]
 refine (toFieldS_any B a n cap fs _ (harg.below (hb0.mono hB)) (by omega) hn).mono ?_
 rintro e w1 ⟨v, rfl, hown, bb1⟩
 obtain ⟨fo, fc, rfl⟩ := slice_of_owns hown
 rw [← bb1.block _ (by omega)] at x1 x2 x3
 obtain ⟨o, ho⟩ := exq (w.heap.size + 1 + 1)
 obtain ⟨q, hq⟩ := exq (w.heap.size + 1)
 obtain ⟨c, hc⟩ := exq (w.heap.size)
 rw [← ho] at x3
 rw [← hq] at x2
 rw [← hc] at x1
 have hqo : q ≠ o := by omega
 have hco : c ≠ o := by omega
 have hoq : o ≠ q := by omega
 have hoc : o ≠ c := by omega
 have hqw : w.heap.size ≤ q := by omega
 have how : w.heap.size ≤ o := by omega
 obtain ⟨⟨a0, a1, a2, a3⟩, _⟩ := four_facts x1
 obtain ⟨⟨b0, b1, b2, b3⟩, e0, e1, e2, e3⟩ := four_facts x2
 obtain ⟨⟨d0, d1, d2, d3⟩, f0, f1, f2, f3⟩ := four_facts x3
 have hbw1 : Below w.heap.size w w1 := hb0.trans (bb1.mono hb0.size)
 have HFIN : Hid (∀ W : World, W = (w1.setCell ⟨o, 2, none⟩ (.slice fo n fc)).setCell ⟨o, 3, none⟩ (.string b) → ((fourSet W q (.int .i64 m) (.string p) (.slice fo n fc) (.string b)).heap[q]? = some (.cells #[.int .i64 m, .string p, .slice fo n fc, .string b] 58)) ∧ (fourSet W q (.int .i64 m) (.string p) (.slice fo n fc) (.string b)).ownsRow w.heap.size 185 2 (.slice fo n fc) n (flatF fs) ∧ Below w.heap.size w (fourSet W q (.int .i64 m) (.string p) (.slice fo n fc) (.string b))) := fun W hW => by
  have hx2 : W.heap[q]? = some (.cells #[.int .i64 0, .string ⟨#[]⟩, .slice none 0 0, .string ⟨#[]⟩] 58) := by rw [hW, heap_setCell_other _ _ q _ (fun e => hqo e), heap_setCell_other _ _ q _ (fun e => hqo e)]; exact x2
  have hbW : Below w.heap.size w W := by rw [hW]; exact (hbw1.setCell (p := ⟨o, 2, none⟩) how _).setCell (p := ⟨o, 3, none⟩) how _
  refine ⟨four_set hx2 _ _ _ _, ?_, below_four hbW hqw⟩
  have hown1 : w1.ownsRow w.heap.size 185 2 (.slice fo n fc) n (flatF fs) := by
   refine ⟨hown.1, ?_⟩
   rcases hown.2 with h6 | ⟨g6, cap6, cur6, h7, h8, h9⟩
   · exact .inl h6
   · exact .inr ⟨g6, cap6, cur6, h7, by omega, h9⟩
  refine ⟨hown1.1, ?_⟩
  rcases hown.2 with h6 | ⟨g6, cap6, cur6, h7, h8, h9, h10⟩
  · exact .inl h6
  ·refine .inr ⟨g6, cap6, cur6, h7, by omega, ?_, h10⟩
   have n1 : g6 ≠ q := by omega
   have n2 : g6 ≠ o := by omega
   unfold fourSet
   rw [heap_setCell_other _ _ g6 _ (fun e => n1 e), heap_setCell_other _ _ g6 _ (fun e => n1 e), heap_setCell_other _ _ g6 _ (fun e => n1 e), heap_setCell_other _ _ g6 _ (fun e => n1 e), hW, heap_setCell_other _ _ g6 _ (fun e => n2 e), heap_setCell_other _ _ g6 _ (fun e => n2 e)]
   exact h9
 obtain ⟨hh, hof, hbf⟩ := HFIN.out _ rfl
 obtain ⟨⟨k0, k1, k2, k3⟩, _⟩ := four_facts hh
 have HOF : Hid _ := hof
 have HBF : Hid _ := hbf
 unfold fourSet at k0 k1 k2 k3
 rw [← ho, ← hq, ← hc]
 clear x1 x2 x3 ho hq hc hw0 hs0 hb0 bb1 hown hbw1 hh hof hbf harg hB HFIN a0 a1 a2
 go_wp2_with fail
 exact bodyPost_ret (v := .agg #[.int .i64 m, .string p, .slice fo n fc, .string b]) (by simp [results, Tryz.results90, go_sem, k0, k1, k2, k3]) rfl ⟨_, rfl, HOF.out, HBF.out⟩
theorem three_facts {W : World} {R : Nat} {a b c : Value} {t : TypeId} (h : W.heap[R]? = some (.cells #[a, b, c] t)) :
  (W.cell? ⟨R, 0, none⟩ = some a ∧ W.cell? ⟨R, 1, none⟩ = some b ∧ W.cell? ⟨R, 2, none⟩ = some c) ∧ W.frozen? ⟨R, 0, none⟩ = false ∧ W.frozen? ⟨R, 1, none⟩ = false ∧ W.frozen? ⟨R, 2, none⟩ = false := by
 refine ⟨⟨?_, ?_, ?_⟩, ?_, ?_, ?_⟩ <;> simp [World.cell?, World.frozen?, h]
def threeSet (w : World) (r : Nat) (a b c : Value) : World := ((w.setCell ⟨r, 0, none⟩ a).setCell ⟨r, 1, none⟩ b).setCell ⟨r, 2, none⟩ c
theorem three_set {W : World} {R : Nat} {a b c : Value} {t : TypeId} (h : W.heap[R]? = some (.cells #[a, b, c] t)) (a' b' c' : Value) : (threeSet W R a' b' c').heap[R]? = some (.cells #[a', b', c'] t) := by
 have := heap_set _ R 2 _ _ _ c' (heap_set _ R 1 _ _ _ b' (heap_set W R 0 _ _ _ a' h))
 simpa [threeSet] using this
theorem below_three {w W : World} {B R : Nat} {a b c : Value} (h : Below B w W) (hR : B ≤ R) : Below B w (threeSet W R a b c) :=
 ((h.setCell (p := ⟨R, 0, none⟩) hR _).setCell (p := ⟨R, 1, none⟩) hR _).setCell (p := ⟨R, 2, none⟩) hR _
theorem toResp_any (m : Int) (a : Oa) (n cap : Nat) (b : Tx) (fs : Fs) (B : Nat) (w : World) (harg : ArgF w B a n fs) (hB : B ≤ w.heap.size) (hn : n ≤ 1048576) :
  Calls Tryz.prog 93 #[.agg #[.int .i64 m, .slice a n cap, .string b]] w fun e w' => ∃ v, e = .returned (.agg #[.int .i64 m, v, .string b]) ∧ w'.ownsRow w.heap.size 185 2 v n (flatF fs) ∧ Below w.heap.size w w' := by
 obtain ⟨w0, hw0⟩ := exq ((((w.alloc (.cells #[.int .i64 m, .slice a n cap, .string b] 87)).alloc (.cells #[.int .i64 0, .slice none 0 0, .string ⟨#[]⟩] 60)).alloc (.cells #[.int .i64 m, .slice none 0 0, .string ⟨#[]⟩] 60)))
 have hs0 : w0.heap.size = w.heap.size + 1 + 1 + 1 := by rw [hw0]; simp
 have hb0 : Below w.heap.size w w0 := by rw [hw0]; exact (((Below.refl _ w).alloc (Nat.le_refl _) _).alloc (by simp) _).alloc (by simp; omega) _
 have x1 : w0.heap[w.heap.size]? = some (.cells #[.int .i64 m, .slice a n cap, .string b] 87) := by
  rw [hw0, heap_alloc_old _ _ (by simp; omega), heap_alloc_old _ _ (by simp)]; exact heap_alloc_new w _
 have x2 : w0.heap[w.heap.size + 1]? = some (.cells #[.int .i64 0, .slice none 0 0, .string ⟨#[]⟩] 60) := by
  rw [hw0, heap_alloc_old _ _ (by simp)]
  have := heap_alloc_new (w.alloc (.cells #[.int .i64 m, .slice a n cap, .string b] 87)) (.cells #[.int .i64 0, .slice none 0 0, .string ⟨#[]⟩] 60)
  simpa using this
 have x3 : w0.heap[w.heap.size + 1 + 1]? = some (.cells #[.int .i64 m, .slice none 0 0, .string ⟨#[]⟩] 60) := by
  rw [hw0]
  have := heap_alloc_new ((w.alloc (.cells #[.int .i64 m, .slice a n cap, .string b] 87)).alloc (.cells #[.int .i64 0, .slice none 0 0, .string ⟨#[]⟩] 60)) (.cells #[.int .i64 m, .slice none 0 0, .string ⟨#[]⟩] 60)
  simpa using this
 go_enter Tryz.func93, Tryz.ntmps93
 go_wp2_with fail
 rw [← hw0]
 refine (toFieldS_any B a n cap fs _ (harg.below (hb0.mono hB)) (by omega) hn).mono ?_
 rintro e w1 ⟨v, rfl, hown, bb1⟩
 obtain ⟨fo, fc, rfl⟩ := slice_of_owns hown
 rw [← bb1.block _ (by omega)] at x1 x2 x3
 obtain ⟨o, ho⟩ := exq (w.heap.size + 1 + 1)
 obtain ⟨q, hq⟩ := exq (w.heap.size + 1)
 obtain ⟨c, hc⟩ := exq (w.heap.size)
 rw [← ho] at x3
 rw [← hq] at x2
 rw [← hc] at x1
 have hqo : q ≠ o := by omega
 have hco : c ≠ o := by omega
 have hoq : o ≠ q := by omega
 have hoc : o ≠ c := by omega
 have hqw : w.heap.size ≤ q := by omega
 have how : w.heap.size ≤ o := by omega
 obtain ⟨⟨a0, a1, a2⟩, _⟩ := three_facts x1
 obtain ⟨⟨b0, b1, b2⟩, e0, e1, e2⟩ := three_facts x2
 obtain ⟨⟨d0, d1, d2⟩, f0, f1, f2⟩ := three_facts x3
 have hbw1 : Below w.heap.size w w1 := hb0.trans (bb1.mono hb0.size)
 have HFIN : Hid (∀ W : World, W = (w1.setCell ⟨o, 1, none⟩ (.slice fo n fc)).setCell ⟨o, 2, none⟩ (.string b) → ((threeSet W q (.int .i64 m) (.slice fo n fc) (.string b)).heap[q]? = some (.cells #[.int .i64 m, .slice fo n fc, .string b] 60)) ∧ (threeSet W q (.int .i64 m) (.slice fo n fc) (.string b)).ownsRow w.heap.size 185 2 (.slice fo n fc) n (flatF fs) ∧ Below w.heap.size w (threeSet W q (.int .i64 m) (.slice fo n fc) (.string b))) := fun W hW => by
  have hx2 : W.heap[q]? = some (.cells #[.int .i64 0, .slice none 0 0, .string ⟨#[]⟩] 60) := by rw [hW, heap_setCell_other _ _ q _ (fun e => hqo e), heap_setCell_other _ _ q _ (fun e => hqo e)]; exact x2
  have hbW : Below w.heap.size w W := by rw [hW]; exact (hbw1.setCell (p := ⟨o, 1, none⟩) how _).setCell (p := ⟨o, 2, none⟩) how _
  refine ⟨three_set hx2 _ _ _, ?_, below_three hbW hqw⟩
  have hown1 : w1.ownsRow w.heap.size 185 2 (.slice fo n fc) n (flatF fs) := by
   refine ⟨hown.1, ?_⟩
   rcases hown.2 with h6 | ⟨g6, cap6, cur6, h7, h8, h9⟩
   · exact .inl h6
   · exact .inr ⟨g6, cap6, cur6, h7, by omega, h9⟩
  refine ⟨hown1.1, ?_⟩
  rcases hown.2 with h6 | ⟨g6, cap6, cur6, h7, h8, h9, h10⟩
  · exact .inl h6
  ·refine .inr ⟨g6, cap6, cur6, h7, by omega, ?_, h10⟩
   have n1 : g6 ≠ q := by omega
   have n2 : g6 ≠ o := by omega
   unfold threeSet
   rw [heap_setCell_other _ _ g6 _ (fun e => n1 e), heap_setCell_other _ _ g6 _ (fun e => n1 e), heap_setCell_other _ _ g6 _ (fun e => n1 e), hW, heap_setCell_other _ _ g6 _ (fun e => n2 e), heap_setCell_other _ _ g6 _ (fun e => n2 e)]
   exact h9
 obtain ⟨hh, hof, hbf⟩ := HFIN.out _ rfl
 obtain ⟨⟨k0, k1, k2⟩, _⟩ := three_facts hh
 have HOF : Hid _ := hof
 have HBF : Hid _ := hbf
 unfold threeSet at k0 k1 k2
 rw [← ho, ← hq, ← hc]
 clear x1 x2 x3 ho hq hc hw0 hs0 hb0 bb1 hown hbw1 hh hof hbf harg hB HFIN a0 a1
 go_wp2_with fail
 exact bodyPost_ret (v := .agg #[.int .i64 m, .slice fo n fc, .string b]) (by simp [results, Tryz.results93, go_sem, k0, k1, k2]) rfl ⟨_, rfl, HOF.out, HBF.out⟩
theorem eqReq_any (m : Int) (p : Tx) (v1 v2 : Value) (b : Tx) (n b1 b2 : Nat) (fs : Fs) (w : World) (h1 : FieldsV w b1 v1 n fs) (h2 : FieldsV w b2 v2 n fs) (hn : n ≤ 2000000) :
  Calls Tryz.prog 107 #[.agg #[.int .i64 m, .string p, v1, .string b], .agg #[.int .i64 m, .string p, v2, .string b]] w fun e w' => e = .returned (.bool true) ∧ Below w.heap.size w w' := by
 obtain ⟨oa, ca, rfl, _⟩ := h1.slice
 obtain ⟨ob, cb, rfl, _⟩ := h2.slice
 have tp : (p.toList == p.toList) = true := by simp
 have tb : (b.toList == b.toList) = true := by simp
 have tm : (m != m) = false := by simp
 obtain ⟨w0, hw0⟩ := exq (((w.alloc (.cells #[.int .i64 m, .string p, .slice oa n ca, .string b] 58)).alloc (.cells #[.int .i64 m, .string p, .slice ob n cb, .string b] 58)))
 have hs0 : w0.heap.size = w.heap.size + 1 + 1 := by rw [hw0]; simp
 have hb0 : Below w.heap.size w w0 := by rw [hw0]; exact ((Below.refl _ w).alloc (Nat.le_refl _) _).alloc (by simp) _
 have x1 : w0.heap[w.heap.size]? = some (.cells #[.int .i64 m, .string p, .slice oa n ca, .string b] 58) := by
  rw [hw0, heap_alloc_old _ _ (by simp)]; exact heap_alloc_new w _
 have x2 : w0.heap[w.heap.size + 1]? = some (.cells #[.int .i64 m, .string p, .slice ob n cb, .string b] 58) := by
  rw [hw0]
  have := heap_alloc_new (w.alloc (.cells #[.int .i64 m, .string p, .slice oa n ca, .string b] 58)) (.cells #[.int .i64 m, .string p, .slice ob n cb, .string b] 58)
  simpa using this
 go_enter Tryz.func107, Tryz.ntmps107
 go_wp2_with fail
 rw [← hw0]
 refine (eqFieldS_any _ _ n b1 b2 fs _ (h1.below hb0) (h2.below hb0) hn).mono ?_
 rintro e w1 ⟨rfl, bb1⟩
 rw [← bb1.block _ (by omega)] at x1 x2
 obtain ⟨q, hq⟩ := exq (w.heap.size + 1)
 obtain ⟨c, hc⟩ := exq (w.heap.size)
 rw [← hq] at x2
 rw [← hc] at x1
 have y1 : w1.cell? ⟨c, 3, none⟩ = some (.string b) := by simp [World.cell?, x1]
 have y2 : w1.cell? ⟨q, 3, none⟩ = some (.string b) := by simp [World.cell?, x2]
 have hbw1 : Below w.heap.size w w1 := hb0.trans (bb1.mono hb0.size)
 rw [← hq, ← hc]
 clear x1 x2 hq hc hw0 hs0 hb0 bb1 h1 h2
 go_wp2
 go_ret
 exact ⟨rfl, hbw1⟩
theorem eqResp_any (m : Int) (v1 v2 : Value) (b : Tx) (n b1 b2 : Nat) (fs : Fs) (w : World) (h1 : FieldsV w b1 v1 n fs) (h2 : FieldsV w b2 v2 n fs) (hn : n ≤ 2000000) :
  Calls Tryz.prog 110 #[.agg #[.int .i64 m, v1, .string b], .agg #[.int .i64 m, v2, .string b]] w fun e w' => e = .returned (.bool true) ∧ Below w.heap.size w w' := by
 obtain ⟨oa, ca, rfl, _⟩ := h1.slice
 obtain ⟨ob, cb, rfl, _⟩ := h2.slice
 have tb : (b.toList == b.toList) = true := by simp
 have tm : (m != m) = false := by simp
 obtain ⟨w0, hw0⟩ := exq (((w.alloc (.cells #[.int .i64 m, .slice oa n ca, .string b] 60)).alloc (.cells #[.int .i64 m, .slice ob n cb, .string b] 60)))
 have hs0 : w0.heap.size = w.heap.size + 1 + 1 := by rw [hw0]; simp
 have hb0 : Below w.heap.size w w0 := by rw [hw0]; exact ((Below.refl _ w).alloc (Nat.le_refl _) _).alloc (by simp) _
 have x1 : w0.heap[w.heap.size]? = some (.cells #[.int .i64 m, .slice oa n ca, .string b] 60) := by
  rw [hw0, heap_alloc_old _ _ (by simp)]; exact heap_alloc_new w _
 have x2 : w0.heap[w.heap.size + 1]? = some (.cells #[.int .i64 m, .slice ob n cb, .string b] 60) := by
  rw [hw0]
  have := heap_alloc_new (w.alloc (.cells #[.int .i64 m, .slice oa n ca, .string b] 60)) (.cells #[.int .i64 m, .slice ob n cb, .string b] 60)
  simpa using this
 go_enter Tryz.func110, Tryz.ntmps110
 go_wp2_with fail
 rw [← hw0]
 refine (eqFieldS_any _ _ n b1 b2 fs _ (h1.below hb0) (h2.below hb0) hn).mono ?_
 rintro e w1 ⟨rfl, bb1⟩
 rw [← bb1.block _ (by omega)] at x1 x2
 obtain ⟨q, hq⟩ := exq (w.heap.size + 1)
 obtain ⟨c, hc⟩ := exq (w.heap.size)
 rw [← hq] at x2
 rw [← hc] at x1
 have y1 : w1.cell? ⟨c, 2, none⟩ = some (.string b) := by simp [World.cell?, x1]
 have y2 : w1.cell? ⟨q, 2, none⟩ = some (.string b) := by simp [World.cell?, x2]
 have hbw1 : Below w.heap.size w w1 := hb0.trans (bb1.mono hb0.size)
 rw [← hq, ← hc]
 clear x1 x2 hq hc hw0 hs0 hb0 bb1 h1 h2
 go_wp2
 go_ret
 exact ⟨rfl, hbw1⟩
def SzEx (L : Int) (n : Nat) (fs : Fs) (w : World) (e : Ending) (w' : World) : Prop :=
 ∃ r : Int, e = .returned (.int .i64 r) ∧ r ≤ L ∧ (0 ≤ r → r + (n : Int) + (szTo fs n : Int) = L ∧ n ≤ 1048576 ∧ szTo fs n ≤ 1048576) ∧ Below w.heap.size w w'
theorem szFieldS_exact (L : Int) (hL0 : 0 ≤ L) (hL1 : L ≤ 1048576) (B : Nat) (a : Oa) (n cap : Nat) (fs : Fs) (w : World) (harg : ArgF w B a n fs) (hB : B ≤ w.heap.size) (hn : n ≤ maxLen) (hsz : ∀ i, i < n → (nameAt fs i).size ≤ maxLen ∧ (valAt fs i).size ≤ maxLen) :
  Calls Tryz.prog 112 #[.slice a n cap, .int .i64 L] w fun e w' => SzEx L n fs w e w' := by
 unfold maxLen at hn
 have HS := hid hsz
 clear hsz
 by_cases c1 : L - (n : Int) < 0
 ·go_enter Tryz.func112, Tryz.ntmps112
  go_wp2
  go_ret
  exact ⟨-1, rfl, by omega, fun h => absurd h (by omega), Below.refl _ _⟩
 go_enter Tryz.func112, Tryz.ntmps112
 go_wp2
 go_loopw [1, 5] (fun l i wr => ∃ (k : Nat) (x : Int), k ≤ n ∧ i = .int .i64 (k : Int) ∧ l = .int .i64 x ∧ 0 ≤ x ∧ x ≤ L ∧ Hid (x = L - (n : Int) - (szTo fs k : Int)) ∧ Below w.heap.size w wr) (fun _ i _ => n - (intOf i).toNat)
 case atStart => exact ⟨0, _, Nat.zero_le _, rfl, rfl, by omega, by omega, by show _ = _; simp [szTo], Below.refl _ _⟩
 case round =>
  obtain ⟨k, x, hk, rfl, rfl, hx0, hx1, hx, hbw⟩ := hrel
  by_cases hlt : k < n
  rotate_left
  ·have hF : Hid (x + (n : Int) + (szTo fs n : Int) = L ∧ n ≤ 1048576 ∧ szTo fs n ≤ 1048576) := by
    have := hx.out
    obtain rfl : k = n := by omega
    exact ⟨by omega, by omega, by omega⟩
   go_wp2
   go_ret
   exact ⟨x, rfl, hx1, fun _ => hF.out, hbw⟩
  have hlt2 : (k : Int) < (n : Int) := by omega
  obtain ⟨b, off, rfl, hbB, hc1, hc2⟩ := (harg.below (hbw.mono hB)).get k hlt
  obtain ⟨s1, s2⟩ := HS.out k hlt
  obtain ⟨nm, hnm⟩ := exq (nameAt fs k)
  obtain ⟨vl, hvl⟩ := exq (valAt fs k)
  have HZ : Hid (szTo fs (k + 1) = szTo fs k + nm.size + vl.size) := by rw [hnm, hvl]; rfl
  rw [← hnm] at hc1 s1
  rw [← hvl] at hc2 s2
  clear hnm hvl
  go_wp2_with fail
  refine (szField_any nm vl x _ hx0 (by omega) s1 s2).mono ?_
  rintro e w1 ⟨rfl, hb1⟩
  have hb2 : Below w.heap.size w w1 := hbw.trans (hb1.mono hbw.size)
  clear hc1 hc2 hb1
  by_cases d1 : x - (nm.size : Int) < 0
  ·rw [if_pos d1]
   go_wp2
   go_ret
   exact ⟨-1, rfl, by omega, fun h => absurd h (by omega), hb2⟩
  rw [if_neg d1]
  by_cases d2 : x - (nm.size : Int) - (vl.size : Int) < 0
  ·rw [if_pos d2]
   go_wp2
   go_ret
   exact ⟨-1, rfl, by omega, fun h => absurd h (by omega), hb2⟩
  rw [if_neg d2]
  obtain ⟨y, hy⟩ : ∃ y, y = x - (nm.size : Int) - (vl.size : Int) := ⟨_, rfl⟩
  rw [← hy] at d2 ⊢
  have HY : Hid (y = L - (n : Int) - (szTo fs (k + 1) : Int)) := by
   show _ = _
   rw [hy, HZ.out, hx.out]; omega
  have hy1 : y ≤ L := by omega
  clear hy d1
  go_wp2
  go_roundw
  case rel => exact ⟨k + 1, y, by omega, by go_num, rfl, by omega, hy1, HY, hb2⟩
  case measure => simp [intOf]; omega
def SzReqRm (L : Int) (p : Tx) (n : Nat) (fs : Fs) (b : Tx) (w : World) (e : Ending) (w' : World) : Prop :=
 ∃ r : Int, e = .returned (.int .i64 r) ∧ r ≤ L ∧ (0 ≤ r → r + (n : Int) ≤ L ∧ (p.size ≤ 1048576 ∧ b.size ≤ 1048576) ∧ n ≤ 1048576 ∧ szTo fs n ≤ 1048576) ∧ Below w.heap.size w w'
def SzRespRm (L : Int) (n : Nat) (fs : Fs) (b : Tx) (w : World) (e : Ending) (w' : World) : Prop :=
 ∃ r : Int, e = .returned (.int .i64 r) ∧ r ≤ L ∧ (0 ≤ r → r + (n : Int) ≤ L ∧ b.size ≤ 1048576 ∧ n ≤ 1048576 ∧ szTo fs n ≤ 1048576) ∧ Below w.heap.size w w'
theorem szReq_room (L : Int) (hL0 : 0 ≤ L) (hL1 : L ≤ 1048576) (m : Int) (p : Tx) (a : Oa) (n cap : Nat) (b : Tx) (fs : Fs) (w : World) (harg : ArgF w w.heap.size a n fs) (hn : n ≤ maxLen) (hsz : WalkF n fs) (hp : p.size ≤ maxLen) (hb : b.size ≤ maxLen) :
  Calls Tryz.prog 61 #[.agg #[.int .i64 m, .string p, .slice a n cap, .string b], .int .i64 L] w fun e w' => SzReqRm L p n fs b w e w' := by
 unfold maxLen at hp hb
 obtain ⟨r, hr⟩ := exq (w.heap.size)
 have HR : Hid (∀ W, Below (w.alloc (.cells #[.int .i64 m, .string p, .slice a n cap, .string b] 84)).heap.size (w.alloc (.cells #[.int .i64 m, .string p, .slice a n cap, .string b] 84)) W → (W.cell? ⟨r, 1, none⟩ = some (.string p) ∧ W.cell? ⟨r, 2, none⟩ = some (.slice a n cap) ∧ W.cell? ⟨r, 3, none⟩ = some (.string b)) ∧ ArgF W w.heap.size a n fs ∧ w.heap.size ≤ W.heap.size ∧ Below w.heap.size w W) := fun W h => by
  have hh := kept_new h
  rw [← hr] at hh
  exact ⟨⟨by simp [World.cell?, hh], by simp [World.cell?, hh], by simp [World.cell?, hh]⟩, harg.below (below_new h), (below_new h).size, below_new h⟩
 obtain ⟨⟨c1, c2, c3⟩, harg0, hs0, hbw0⟩ := HR.out _ (Below.refl _ _)
 have HB0 := hid hbw0
 have HSZ := hid hsz
 have HN := hid hn
 have HARG := hid harg0
 clear harg hsz harg0 hbw0 hn
 by_cases d1 : L - (p.size : Int) < 0
 ·go_enter Tryz.func61, Tryz.ntmps61
  rw [hr] at c1
  go_wp2_with fail
  go_ret
  exact ⟨-1, rfl, by omega, fun h => absurd h (by omega), HB0.out⟩
 go_enter Tryz.func61, Tryz.ntmps61
 rw [hr] at c1 c2
 go_wp2_with fail
 refine (szFieldS_exact (L - (p.size : Int)) (by omega) (by omega) w.heap.size a n cap fs _ HARG.out hs0 HN.out HSZ.out).mono ?_
 rintro e w1 ⟨x, rfl, hx1, hx2, bb1⟩
 clear c1 c2 c3
 obtain ⟨⟨c1, c2, c3⟩, _, _, hbw1⟩ := HR.out w1 bb1
 rw [← hr]
 clear bb1 hr
 by_cases hx0 : x < 0
 ·clear hx2
  go_wp2_with fail
  go_ret
  exact ⟨-1, rfl, by omega, fun h => absurd h (by omega), hbw1⟩
 obtain ⟨h0, h1, h2⟩ := hx2 (by omega)
 by_cases d2 : x - (b.size : Int) < 0
 ·go_wp2_with fail
  go_ret
  exact ⟨-1, rfl, by omega, fun h => absurd h (by omega), hbw1⟩
 go_wp2_with fail
 go_ret
 exact ⟨_, rfl, by omega, fun _ => ⟨by omega, ⟨by omega, by omega⟩, h1, h2⟩, hbw1⟩
theorem szResp_room (L : Int) (hL0 : 0 ≤ L) (hL1 : L ≤ 1048576) (m : Int) (a : Oa) (n cap : Nat) (b : Tx) (fs : Fs) (w : World) (harg : ArgF w w.heap.size a n fs) (hn : n ≤ maxLen) (hsz : WalkF n fs) (hb : b.size ≤ maxLen) :
  Calls Tryz.prog 64 #[.agg #[.int .i64 m, .slice a n cap, .string b], .int .i64 L] w fun e w' => SzRespRm L n fs b w e w' := by
 unfold maxLen at hb
 obtain ⟨r, hr⟩ := exq (w.heap.size)
 have HR : Hid (∀ W, Below (w.alloc (.cells #[.int .i64 m, .slice a n cap, .string b] 87)).heap.size (w.alloc (.cells #[.int .i64 m, .slice a n cap, .string b] 87)) W → (W.cell? ⟨r, 1, none⟩ = some (.slice a n cap) ∧ W.cell? ⟨r, 2, none⟩ = some (.string b)) ∧ ArgF W w.heap.size a n fs ∧ w.heap.size ≤ W.heap.size ∧ Below w.heap.size w W) := fun W h => by
  have hh := kept_new h
  rw [← hr] at hh
  exact ⟨⟨by simp [World.cell?, hh], by simp [World.cell?, hh]⟩, harg.below (below_new h), (below_new h).size, below_new h⟩
 obtain ⟨⟨c2, c3⟩, harg0, hs0, _⟩ := HR.out _ (Below.refl _ _)
 have HSZ := hid hsz
 have HN := hid hn
 have HARG := hid harg0
 clear harg hsz harg0 hn
 go_enter Tryz.func64, Tryz.ntmps64
 rw [hr] at c2
 go_wp2_with fail
 refine (szFieldS_exact L (by omega) (by omega) w.heap.size a n cap fs _ HARG.out hs0 HN.out HSZ.out).mono ?_
 rintro e w1 ⟨x, rfl, hx1, hx2, bb1⟩
 clear c2 c3
 obtain ⟨⟨c2, c3⟩, _, _, hbw1⟩ := HR.out w1 bb1
 rw [← hr]
 clear bb1 hr
 by_cases hx0 : x < 0
 ·clear hx2
  go_wp2_with fail
  go_ret
  exact ⟨-1, rfl, by omega, fun h => absurd h (by omega), hbw1⟩
 obtain ⟨h0, h1, h2⟩ := hx2 (by omega)
 by_cases d2 : x - (b.size : Int) < 0
 ·go_wp2_with fail
  go_ret
  exact ⟨-1, rfl, by omega, fun h => absurd h (by omega), hbw1⟩
 go_wp2_with fail
 go_ret
 exact ⟨_, rfl, by omega, fun _ => ⟨by omega, by omega, h1, h2⟩, hbw1⟩
theorem blk_below {W W' : World} {r : Nat} {o : Obj} (h : W.heap[r]? = some o) (b : Below W.heap.size W W') : W'.heap[r]? = some o := by
 rw [b.block r (blt h)]; exact h
theorem blk_alloc {W : World} {r : Nat} {o : Obj} (h : W.heap[r]? = some o) (x : Obj) : (W.alloc x).heap[r]? = some o := by
 rw [Below.heap_alloc _ _ _ (blt h)]; exact h
theorem own_ne {W : World} {r : Nat} {cs : Array Value} {T t : TypeId} {base size n : Nat} {v : Value} {xs : List Value} (ho : W.ownsRow base t size v n xs) (h : W.heap[r]? = some (.cells cs T)) (hT : T ≠ t) (j : Nat) (hj : v.ownBlock = some j) : j ≠ r := fun e => by
 subst e
 rcases ho.2 with ⟨rfl, _⟩ | ⟨g, cap, cur, rfl, _, h1, _⟩
 · cases hj
 ·cases hj
  rw [h] at h1
  cases h1
  exact hT rfl
theorem cell_of {W : World} {R : Nat} {cs : Array Value} {t : TypeId} (h : W.heap[R]? = some (.cells cs t)) (i : Nat) : W.cell? ⟨R, i, none⟩ = cs[i]? := by simp [World.cell?, h]
theorem frozen_of {W : World} {R : Nat} {cs : Array Value} {t : TypeId} (h : W.heap[R]? = some (.cells cs t)) (i : Nat) : W.frozen? ⟨R, i, none⟩ = false := by simp [World.frozen?, h]
def SzTx (L : Int) (n : Nat) (xs : Ts) (w : World) (e : Ending) (w' : World) : Prop :=
 ∃ r : Int, e = .returned (.int .i64 r) ∧ r ≤ L ∧ (0 ≤ r → r + (n : Int) ≤ L ∧ n ≤ 1048576 ∧ ∀ i, i < n → (textAt xs i).size ≤ 1048576) ∧ Below w.heap.size w w'
theorem szStringS_exact (L : Int) (hL0 : 0 ≤ L) (hL1 : L ≤ 1048576) (B : Nat) (a : Oa) (n cap : Nat) (xs : Ts) (w : World) (harg : ArgT w B a n xs) (hB : B ≤ w.heap.size) (hn : n ≤ maxLen) (hsz : ∀ i, i < n → (textAt xs i).size ≤ maxLen) :
  Calls Tryz.prog 57 #[.slice a n cap, .int .i64 L] w fun e w' => SzTx L n xs w e w' := by
 unfold maxLen at hn
 have HS := hid hsz
 have HA : Hid (∀ W, Below w.heap.size w W → ArgT W B a n xs) := fun W h => harg.below (h.mono hB)
 clear hsz harg
 by_cases c1 : L - (n : Int) < 0
 ·go_enter Tryz.func57, Tryz.ntmps57
  go_wp2
  go_ret
  exact ⟨-1, rfl, by omega, fun h => absurd h (by omega), Below.refl _ _⟩
 go_enter Tryz.func57, Tryz.ntmps57
 go_wp2
 go_loopw [1, 5] (fun l i wr => ∃ (k : Nat) (x : Int), k ≤ n ∧ i = .int .i64 (k : Int) ∧ l = .int .i64 x ∧ 0 ≤ x ∧ x + (n : Int) ≤ L ∧ Hid (∀ j, j < k → (textAt xs j).size ≤ 1048576) ∧ Below w.heap.size w wr) (fun _ i _ => n - (intOf i).toNat)
 case atStart => exact ⟨0, _, Nat.zero_le _, rfl, rfl, by omega, by omega, fun j hj => absurd hj (by omega), Below.refl _ _⟩
 case round =>
  obtain ⟨k, x, hk, rfl, rfl, hx0, hx1, HX, hbw⟩ := hrel
  by_cases hlt : k < n
  rotate_left
  ·have hF : Hid (n ≤ 1048576 ∧ ∀ i, i < n → (textAt xs i).size ≤ 1048576) := ⟨by omega, fun i hi => HX.out i (by omega)⟩
   go_wp2
   go_ret
   exact ⟨x, rfl, by omega, fun _ => ⟨hx1, hF.out⟩, hbw⟩
  have hlt2 : (k : Int) < (n : Int) := by omega
  obtain ⟨b, off, rfl, hbB, hc1⟩ := (HA.out wr hbw).get k hlt
  have s1 := HS.out k hlt
  obtain ⟨t, ht⟩ := exq (textAt xs k)
  rw [← ht] at hc1 s1
  unfold maxLen at s1
  by_cases d1 : x - (t.size : Int) < 0
  ·clear ht
   go_wp2
   go_ret
   exact ⟨-1, rfl, by omega, fun h => absurd h (by omega), hbw⟩
  have HX2 : Hid (∀ j, j < k + 1 → (textAt xs j).size ≤ 1048576) := by
   intro j hj
   by_cases e : j = k
   · rw [e, ← ht]; omega
   · exact HX.out j (by omega)
  clear ht
  go_wp2
  go_roundw
  case rel => exact ⟨k + 1, x - (t.size : Int), by omega, by go_num, by go_num, by omega, by omega, HX2, hbw⟩
  case measure => simp [intOf]; omega
structure ObjO (W : World) (base : Nat) (v1 : Value) (n1 : Nat) (xs : Ts) (v2 : Value) (n2 : Nat) (ys : Ts) (v3 : Value) (n3 : Nat) (fs : Fs) : Prop where
 names : W.ownsRow base 9 1 v1 n1 (xs.map Value.string)
 vals : W.ownsRow base 9 1 v2 n2 (ys.map Value.string)
 flds : W.ownsRow base 185 2 v3 n3 (flatF fs)
 ne : ∀ j, v1.ownBlock = some j → v2.ownBlock ≠ some j
theorem toObj_any (p : Tx) (a1 : Oa) (n1 c1 : Nat) (xs : Ts) (a2 : Oa) (n2 c2 : Nat) (ys : Ts) (st : Int) (a3 : Oa) (n3 c3 : Nat) (fs : Fs) (b : Tx) (t : Int) (B : Nat) (w : World) (h1 : ArgT w B a1 n1 xs) (h2 : ArgT w B a2 n2 ys) (h3 : ArgF w B a3 n3 fs) (hB : B ≤ w.heap.size) (hn1 : n1 ≤ 1048576) (hn2 : n2 ≤ 1048576) (hn3 : n3 ≤ 1048576) :
  Calls Tryz.prog 92 #[.agg #[.string p, .slice a1 n1 c1, .slice a2 n2 c2, .int .i64 st, .slice a3 n3 c3, .string b, .int .i64 t]] w fun e w' => ∃ v1 v2 v3, e = .returned (.agg #[.string p, v1, v2, .int .i64 st, v3, .string b, .int .i64 t]) ∧ ObjO w' w.heap.size v1 n1 xs v2 n2 ys v3 n3 fs ∧ Below w.heap.size w w' := by
 have HA1 : Hid (∀ W, Below w.heap.size w W → ArgT W B a1 n1 xs) := fun W h => h1.below (h.mono hB)
 have HA2 : Hid (∀ W, Below w.heap.size w W → ArgT W B a2 n2 ys) := fun W h => h2.below (h.mono hB)
 have HA3 : Hid (∀ W, Below w.heap.size w W → ArgF W B a3 n3 fs) := fun W h => h3.below (h.mono hB)
 have HBB : Hid (∀ W, Below w.heap.size w W → B ≤ W.heap.size) := fun W h => Nat.le_trans hB h.size
 clear h1 h2 h3
 have hb0 := Below.refl w.heap.size w
 go_enter Tryz.func92, Tryz.ntmps92
 go_upto_region 1 with fail
 obtain ⟨q1, hq1⟩ := exq (w.heap.size)
 obtain ⟨w1, hW1⟩ := exq (w.alloc (.cells #[.string p, .slice a1 n1 c1, .slice a2 n2 c2, .int .i64 st, .slice a3 n3 c3, .string b, .int .i64 t] 89))
 have hz1 := hq1.symm
 rw [← hW1]; try rw [← hq1]
 have hs1 := hsa hW1 hz1
 have bw := bal hW1
 have hb1 := hbt hb0 bw
 have B1_1 := hnew hW1 hz1
 clear hb0 bw hW1 hz1
 obtain ⟨q2, hq2⟩ := exq (q1 + 1)
 obtain ⟨w2, hW2⟩ := exq (w1.alloc (.cells #[.string ⟨#[]⟩, .slice none 0 0, .slice none 0 0, .int .i64 0, .slice none 0 0, .string ⟨#[]⟩, .int .i64 0] 62))
 have hz2 : w1.heap.size = q2 := by rw [hq2]; exact hs1
 rw [← hW2]; try rw [← hq2]
 have hs2 := hsa hW2 hz2
 have bw := bal hW2
 have hb2 := hbt hb1 bw
 have B1_2 := hblk B1_1 bw
 have Nv1v2 := hnq B1_1 hz2
 have B2_2 := hnew hW2 hz2
 have Gv2 := hge hz2 hb1
 clear hb1 bw hW2 hz2
 clear hs2 hq2 hs1 hq1
 go_upto_region 2 with fail
 obtain ⟨q3, hq3⟩ := exq (w2.heap.size)
 obtain ⟨w3, hW3⟩ := exq (w2.alloc (.cells #[.string ⟨#[]⟩, .slice none 0 0, .slice none 0 0, .int .i64 0, .slice none 0 0, .string ⟨#[]⟩, .int .i64 0] 62))
 have hz3 := hq3.symm
 rw [← hW3]; try rw [← hq3]
 have hs3 := hsa hW3 hz3
 have bw := bal hW3
 have hb3 := hbt hb2 bw
 have B1_3 := hblk B1_2 bw
 have B2_3 := hblk B2_2 bw
 have Nv1v3 := hnq B1_2 hz3
 have Nv2v3 := hnq B2_2 hz3
 have B3_3 := hnew hW3 hz3
 have Gv3 := hge hz3 hb2
 clear hb2 bw hW3 hz3
 clear hs3 hq3
 have c1_0 := (k7c B1_3).1
 have c3_0 := (k7c B3_3).1
 have f3_0 := hfz B3_3 0
 go_upto_region 3 with fail
 obtain ⟨w4, hW4⟩ := exq (w3.setCell ⟨q3, 0, none⟩ (.string p))
 rw [← hW4]
 have hb4 := hbS hW4 hb3 Gv3
 have B1_4 := hset hW4 Nv1v3.out B1_3
 have B2_4 := hset hW4 Nv2v3.out B2_3
 have B3_4 := hput hW4 B3_3
 clear hb3 hW4
 clear c1_0 c3_0 f3_0
 have c1_1 := (k7c B1_4).2.1
 go_wp2_with fail
 refine (toStringS_any B a1 n1 c1 xs _ (HA1.out _ hb4) (HBB.out _ hb4) hn1).mono ?_
 rintro e w5 ⟨vv, rfl, ownN, bw⟩
 obtain ⟨oN, pN, rfl⟩ := slice_of_owns ownN
 have hb5 := hbt hb4 bw
 have B1_5 := hblk B1_4 bw
 have B2_5 := hblk B2_4 bw
 have B3_5 := hblk B3_4 bw
 have HON_5 := hwd ownN hb4.size
 have HIN := hhi ownN
 clear ownN
 clear hb4 bw
 clear c1_1
 have c3_1 := (k7c B3_5).2.1
 have f3_1 := hfz B3_5 1
 go_upto_region 4 with fail
 obtain ⟨w6, hW6⟩ := exq (w5.setCell ⟨q3, 1, none⟩ (.slice oN n1 pN))
 rw [← hW6]
 have hb6 := hbS hW6 hb5 Gv3
 have HM6 : Hid (w5.heap.size ≤ w6.heap.size) := by show _ ≤ _; rw [hW6]; simp
 have HON_6 := hsetR hW6 (own_ne HON_5.out B3_5.out (by decide)) HON_5
 have B1_6 := hset hW6 Nv1v3.out B1_5
 have B2_6 := hset hW6 Nv2v3.out B2_5
 have B3_6 := hput hW6 B3_5
 clear hb5 hW6
 clear c3_1 f3_1
 have c1_2 := (k7c B1_6).2.2.1
 go_wp2_with fail
 refine (toStringS_any B a2 n2 c2 ys _ (HA2.out _ hb6) (HBB.out _ hb6) hn2).mono ?_
 rintro e w7 ⟨vv, rfl, ownV, bw⟩
 obtain ⟨oV, pV, rfl⟩ := slice_of_owns ownV
 have hb7 := hbt hb6 bw
 have HM7 := hsz bw
 have HON_7 := hown HON_6 bw
 have B1_7 := hblk B1_6 bw
 have B2_7 := hblk B2_6 bw
 have B3_7 := hblk B3_6 bw
 have HOV_7 := hwd ownV hb6.size
 have LOV := hlo ownV
 clear ownV
 clear hb6 bw
 clear c1_2
 have c3_2 := (k7c B3_7).2.2.1
 have f3_2 := hfz B3_7 2
 go_upto_region 5 with fail
 obtain ⟨w8, hW8⟩ := exq (w7.setCell ⟨q3, 2, none⟩ (.slice oV n2 pV))
 rw [← hW8]
 have hb8 := hbS hW8 hb7 Gv3
 have HON_8 := hsetR hW8 (own_ne HON_7.out B3_7.out (by decide)) HON_7
 have HOV_8 := hsetR hW8 (own_ne HOV_7.out B3_7.out (by decide)) HOV_7
 have B1_8 := hset hW8 Nv1v3.out B1_7
 have B2_8 := hset hW8 Nv2v3.out B2_7
 have B3_8 := hput hW8 B3_7
 clear hb7 hW8
 clear c3_2 f3_2
 have c1_3 := (k7c B1_8).2.2.2.1
 have c1_4 := (k7c B1_8).2.2.2.2.1
 have c1_5 := (k7c B1_8).2.2.2.2.2.1
 go_wp2_with fail
 refine (toResp_any st a3 n3 c3 b fs B _ (HA3.out _ hb8) (HBB.out _ hb8) hn3).mono ?_
 rintro e w9 ⟨vv, rfl, ownF, bw⟩
 obtain ⟨oF, pF, rfl⟩ := slice_of_owns ownF
 have hb9 := hbt hb8 bw
 have HON_9 := hown HON_8 bw
 have HOV_9 := hown HOV_8 bw
 have B1_9 := hblk B1_8 bw
 have B2_9 := hblk B2_8 bw
 have B3_9 := hblk B3_8 bw
 have HOF_9 := hwd ownF hb8.size
 clear ownF
 clear hb8 bw
 clear c1_3 c1_4 c1_5
 have c3_3 := (k7c B3_9).2.2.2.1
 have f3_3 := hfz B3_9 3
 have c3_4 := (k7c B3_9).2.2.2.2.1
 have f3_4 := hfz B3_9 4
 have c3_5 := (k7c B3_9).2.2.2.2.2.1
 have f3_5 := hfz B3_9 5
 go_upto_region 6 with fail
 obtain ⟨w10, hW10⟩ := exq (w9.setCell ⟨q3, 3, none⟩ (.int .i64 st))
 rw [← hW10]
 have hb10 := hbS hW10 hb9 Gv3
 have HON_10 := hsetR hW10 (own_ne HON_9.out B3_9.out (by decide)) HON_9
 have HOV_10 := hsetR hW10 (own_ne HOV_9.out B3_9.out (by decide)) HOV_9
 have HOF_10 := hsetR hW10 (own_ne HOF_9.out B3_9.out (by decide)) HOF_9
 have B1_10 := hset hW10 Nv1v3.out B1_9
 have B2_10 := hset hW10 Nv2v3.out B2_9
 have B3_10 := hput hW10 B3_9
 clear hb9 hW10
 obtain ⟨w11, hW11⟩ := exq (w10.setCell ⟨q3, 4, none⟩ (.slice oF n3 pF))
 rw [← hW11]
 have hb11 := hbS hW11 hb10 Gv3
 have HON_11 := hsetR hW11 (own_ne HON_10.out B3_10.out (by decide)) HON_10
 have HOV_11 := hsetR hW11 (own_ne HOV_10.out B3_10.out (by decide)) HOV_10
 have HOF_11 := hsetR hW11 (own_ne HOF_10.out B3_10.out (by decide)) HOF_10
 have B1_11 := hset hW11 Nv1v3.out B1_10
 have B2_11 := hset hW11 Nv2v3.out B2_10
 have B3_11 := hput hW11 B3_10
 clear hb10 hW11
 obtain ⟨w12, hW12⟩ := exq (w11.setCell ⟨q3, 5, none⟩ (.string b))
 rw [← hW12]
 have hb12 := hbS hW12 hb11 Gv3
 have HON_12 := hsetR hW12 (own_ne HON_11.out B3_11.out (by decide)) HON_11
 have HOV_12 := hsetR hW12 (own_ne HOV_11.out B3_11.out (by decide)) HOV_11
 have HOF_12 := hsetR hW12 (own_ne HOF_11.out B3_11.out (by decide)) HOF_11
 have B1_12 := hset hW12 Nv1v3.out B1_11
 have B2_12 := hset hW12 Nv2v3.out B2_11
 have B3_12 := hput hW12 B3_11
 clear hb11 hW12
 clear c3_3 f3_3 c3_4 f3_4 c3_5 f3_5
 have c1_6 := (k7c B1_12).2.2.2.2.2.2
 have c3_6 := (k7c B3_12).2.2.2.2.2.2
 have f3_6 := hfz B3_12 6
 go_upto_region 7 with fail
 obtain ⟨w13, hW13⟩ := exq (w12.setCell ⟨q3, 6, none⟩ (.int .i64 t))
 rw [← hW13]
 have hb13 := hbS hW13 hb12 Gv3
 have HON_13 := hsetR hW13 (own_ne HON_12.out B3_12.out (by decide)) HON_12
 have HOV_13 := hsetR hW13 (own_ne HOV_12.out B3_12.out (by decide)) HOV_12
 have HOF_13 := hsetR hW13 (own_ne HOF_12.out B3_12.out (by decide)) HOF_12
 have B1_13 := hset hW13 Nv1v3.out B1_12
 have B2_13 := hset hW13 Nv2v3.out B2_12
 have B3_13 := hput hW13 B3_12
 clear hb12 hW13
 clear c1_6 c3_6 f3_6
 have c2_0 := (k7c B2_13).1
 have f2_0 := hfz B2_13 0
 have c2_1 := (k7c B2_13).2.1
 have f2_1 := hfz B2_13 1
 have c2_2 := (k7c B2_13).2.2.1
 have f2_2 := hfz B2_13 2
 have c2_3 := (k7c B2_13).2.2.2.1
 have f2_3 := hfz B2_13 3
 have c2_4 := (k7c B2_13).2.2.2.2.1
 have f2_4 := hfz B2_13 4
 have c2_5 := (k7c B2_13).2.2.2.2.2.1
 have f2_5 := hfz B2_13 5
 have c2_6 := (k7c B2_13).2.2.2.2.2.2
 have f2_6 := hfz B2_13 6
 have c3_0 := (k7c B3_13).1
 have c3_1 := (k7c B3_13).2.1
 have c3_2 := (k7c B3_13).2.2.1
 have c3_3 := (k7c B3_13).2.2.2.1
 have c3_4 := (k7c B3_13).2.2.2.2.1
 have c3_5 := (k7c B3_13).2.2.2.2.2.1
 have c3_6 := (k7c B3_13).2.2.2.2.2.2
 go_wp2_with fail
 obtain ⟨w14, hW14⟩ := exq (w13.setCell ⟨q2, 0, none⟩ (.string p))
 rw [← hW14]
 have hb14 := hbS hW14 hb13 Gv2
 have HON_14 := hsetR hW14 (own_ne HON_13.out B2_13.out (by decide)) HON_13
 have HOV_14 := hsetR hW14 (own_ne HOV_13.out B2_13.out (by decide)) HOV_13
 have HOF_14 := hsetR hW14 (own_ne HOF_13.out B2_13.out (by decide)) HOF_13
 have B1_14 := hset hW14 Nv1v2.out B1_13
 have B3_14 := hset hW14 Nv2v3.out.symm B3_13
 have B2_14 := hput hW14 B2_13
 clear hb13 hW14
 obtain ⟨w15, hW15⟩ := exq (w14.setCell ⟨q2, 1, none⟩ (.slice oN n1 pN))
 rw [← hW15]
 have hb15 := hbS hW15 hb14 Gv2
 have HON_15 := hsetR hW15 (own_ne HON_14.out B2_14.out (by decide)) HON_14
 have HOV_15 := hsetR hW15 (own_ne HOV_14.out B2_14.out (by decide)) HOV_14
 have HOF_15 := hsetR hW15 (own_ne HOF_14.out B2_14.out (by decide)) HOF_14
 have B1_15 := hset hW15 Nv1v2.out B1_14
 have B3_15 := hset hW15 Nv2v3.out.symm B3_14
 have B2_15 := hput hW15 B2_14
 clear hb14 hW15
 obtain ⟨w16, hW16⟩ := exq (w15.setCell ⟨q2, 2, none⟩ (.slice oV n2 pV))
 rw [← hW16]
 have hb16 := hbS hW16 hb15 Gv2
 have HON_16 := hsetR hW16 (own_ne HON_15.out B2_15.out (by decide)) HON_15
 have HOV_16 := hsetR hW16 (own_ne HOV_15.out B2_15.out (by decide)) HOV_15
 have HOF_16 := hsetR hW16 (own_ne HOF_15.out B2_15.out (by decide)) HOF_15
 have B1_16 := hset hW16 Nv1v2.out B1_15
 have B3_16 := hset hW16 Nv2v3.out.symm B3_15
 have B2_16 := hput hW16 B2_15
 clear hb15 hW16
 obtain ⟨w17, hW17⟩ := exq (w16.setCell ⟨q2, 3, none⟩ (.int .i64 st))
 rw [← hW17]
 have hb17 := hbS hW17 hb16 Gv2
 have HON_17 := hsetR hW17 (own_ne HON_16.out B2_16.out (by decide)) HON_16
 have HOV_17 := hsetR hW17 (own_ne HOV_16.out B2_16.out (by decide)) HOV_16
 have HOF_17 := hsetR hW17 (own_ne HOF_16.out B2_16.out (by decide)) HOF_16
 have B1_17 := hset hW17 Nv1v2.out B1_16
 have B3_17 := hset hW17 Nv2v3.out.symm B3_16
 have B2_17 := hput hW17 B2_16
 clear hb16 hW17
 obtain ⟨w18, hW18⟩ := exq (w17.setCell ⟨q2, 4, none⟩ (.slice oF n3 pF))
 rw [← hW18]
 have hb18 := hbS hW18 hb17 Gv2
 have HON_18 := hsetR hW18 (own_ne HON_17.out B2_17.out (by decide)) HON_17
 have HOV_18 := hsetR hW18 (own_ne HOV_17.out B2_17.out (by decide)) HOV_17
 have HOF_18 := hsetR hW18 (own_ne HOF_17.out B2_17.out (by decide)) HOF_17
 have B1_18 := hset hW18 Nv1v2.out B1_17
 have B3_18 := hset hW18 Nv2v3.out.symm B3_17
 have B2_18 := hput hW18 B2_17
 clear hb17 hW18
 obtain ⟨w19, hW19⟩ := exq (w18.setCell ⟨q2, 5, none⟩ (.string b))
 rw [← hW19]
 have hb19 := hbS hW19 hb18 Gv2
 have HON_19 := hsetR hW19 (own_ne HON_18.out B2_18.out (by decide)) HON_18
 have HOV_19 := hsetR hW19 (own_ne HOV_18.out B2_18.out (by decide)) HOV_18
 have HOF_19 := hsetR hW19 (own_ne HOF_18.out B2_18.out (by decide)) HOF_18
 have B1_19 := hset hW19 Nv1v2.out B1_18
 have B3_19 := hset hW19 Nv2v3.out.symm B3_18
 have B2_19 := hput hW19 B2_18
 clear hb18 hW19
 obtain ⟨w20, hW20⟩ := exq (w19.setCell ⟨q2, 6, none⟩ (.int .i64 t))
 rw [← hW20]
 have hb20 := hbS hW20 hb19 Gv2
 have HON_20 := hsetR hW20 (own_ne HON_19.out B2_19.out (by decide)) HON_19
 have HOV_20 := hsetR hW20 (own_ne HOV_19.out B2_19.out (by decide)) HOV_19
 have HOF_20 := hsetR hW20 (own_ne HOF_19.out B2_19.out (by decide)) HOF_19
 have B1_20 := hset hW20 Nv1v2.out B1_19
 have B3_20 := hset hW20 Nv2v3.out.symm B3_19
 have B2_20 := hput hW20 B2_19
 clear hb19 hW20
 have kv2_0 := (k7c B2_20).1
 have kv2_1 := (k7c B2_20).2.1
 have kv2_2 := (k7c B2_20).2.2.1
 have kv2_3 := (k7c B2_20).2.2.2.1
 have kv2_4 := (k7c B2_20).2.2.2.2.1
 have kv2_5 := (k7c B2_20).2.2.2.2.2.1
 have kv2_6 := (k7c B2_20).2.2.2.2.2.2
 refine bodyPost_ret (v := .agg #[.string p, .slice oN n1 pN, .slice oV n2 pV, .int .i64 st, .slice oF n3 pF, .string b, .int .i64 t]) (by simp [results, Tryz.results92, go_sem, kv2_0, kv2_1, kv2_2, kv2_3, kv2_4, kv2_5, kv2_6]) rfl ?_
 exact ⟨_, _, _, rfl, ⟨HON_20.out, HOV_20.out, HOF_20.out, fun g hg e => by have h1 := LOV.out g e; have h2 := HIN.out g hg; have := HM6.out; have := HM7.out; omega⟩, hb20⟩
theorem argUp {w : World} {B B' : Nat} {a : Oa} {n : Nat} {fs : Fs} (h : ArgF w B a n fs) (hB : B ≤ B') : ArgF w B' a n fs :=
 ⟨h.len, fun i hi => by
  obtain ⟨b, off, h1, h2, h3⟩ := h.get i hi
  exact ⟨b, off, h1, Nat.lt_of_lt_of_le h2 hB, h3⟩⟩
def SzObj (L : Int) (p : Tx) (n1 : Nat) (xs : Ts) (n2 : Nat) (ys : Ts) (n3 : Nat) (fs : Fs) (b : Tx) (w : World) (e : Ending) (w' : World) : Prop :=
 ∃ r : Int, e = .returned (.int .i64 r) ∧ r ≤ L ∧ (0 ≤ r → r + (n1 : Int) + (n2 : Int) + (n3 : Int) ≤ L ∧ (p.size ≤ 1048576 ∧ b.size ≤ 1048576) ∧ (n1 ≤ 1048576 ∧ ∀ i, i < n1 → (textAt xs i).size ≤ 1048576) ∧ (n2 ≤ 1048576 ∧ ∀ i, i < n2 → (textAt ys i).size ≤ 1048576) ∧ n3 ≤ 1048576 ∧ szTo fs n3 ≤ 1048576) ∧ Below w.heap.size w w'
theorem szObj_any (L : Int) (hL0 : 0 ≤ L) (hL1 : L ≤ 1048576) (p : Tx) (a1 : Oa) (n1 c1 : Nat) (xs : Ts) (a2 : Oa) (n2 c2 : Nat) (ys : Ts) (st : Int) (a3 : Oa) (n3 c3 : Nat) (fs : Fs) (b : Tx) (t : Int) (B : Nat) (w : World) (h1 : ArgT w B a1 n1 xs) (h2 : ArgT w B a2 n2 ys) (h3 : ArgF w B a3 n3 fs) (hB : B ≤ w.heap.size) (hn1 : n1 ≤ maxLen) (hn2 : n2 ≤ maxLen) (hn3 : n3 ≤ maxLen) (hs1 : ∀ i, i < n1 → (textAt xs i).size ≤ maxLen) (hs2 : ∀ i, i < n2 → (textAt ys i).size ≤ maxLen) (hs3 : WalkF n3 fs) (hp : p.size ≤ maxLen) (hx : b.size ≤ maxLen) :
  Calls Tryz.prog 63 #[.agg #[.string p, .slice a1 n1 c1, .slice a2 n2 c2, .int .i64 st, .slice a3 n3 c3, .string b, .int .i64 t], .int .i64 L] w fun e w' => SzObj L p n1 xs n2 ys n3 fs b w e w' := by
 have HA1 : Hid (∀ W, Below w.heap.size w W → ArgT W B a1 n1 xs) := fun W h => h1.below (h.mono hB)
 have HA2 : Hid (∀ W, Below w.heap.size w W → ArgT W B a2 n2 ys) := fun W h => h2.below (h.mono hB)
 have HA3 : Hid (∀ W, Below w.heap.size w W → ArgF W B a3 n3 fs) := fun W h => h3.below (h.mono hB)
 have HBB : Hid (∀ W, Below w.heap.size w W → B ≤ W.heap.size) := fun W h => Nat.le_trans hB h.size
 clear h1 h2 h3
 have HN1 := hid hn1
 have HN2 := hid hn2
 have HN3 := hid hn3
 have HS1 := hid hs1
 have HS2 := hid hs2
 have HS3 := hid hs3
 have HX := hid hx
 unfold maxLen at hp
 clear hs1 hs2 hs3 hn1 hn2 hn3 hx
 have hb0 := Below.refl w.heap.size w
 go_enter Tryz.func63, Tryz.ntmps63
 go_upto_region 1 with fail
 obtain ⟨q1, hq1⟩ := exq (w.heap.size)
 obtain ⟨w1, hW1⟩ := exq (w.alloc (.cells #[.string p, .slice a1 n1 c1, .slice a2 n2 c2, .int .i64 st, .slice a3 n3 c3, .string b, .int .i64 t] 89))
 have hz1 := hq1.symm
 rw [← hW1]; try rw [← hq1]
 have hs1 := hsa hW1 hz1
 have bw := bal hW1
 have hb1 := hbt hb0 bw
 have B1_1 := hnew hW1 hz1
 clear hb0 bw hW1 hz1
 clear hs1 hq1
 have c1_0 := (k7c B1_1).1
 by_cases hc1 : (L - (p.size : Int)) < 0
 ·go_wp2_with fail
  go_ret
  exact ⟨-1, rfl, by omega, fun h => absurd h (by omega), hb1⟩
 have c1_1 := (k7c B1_1).2.1
 go_wp2_with fail
 refine (szStringS_exact (L - (p.size : Int)) (by omega) (by omega) B a1 n1 c1 xs _ (HA1.out _ hb1) (HBB.out _ hb1) HN1.out HS1.out).mono ?_
 rintro e w2 ⟨r2, rfl, hlr2, hrr2, bw⟩
 have hb2 := hbt hb1 bw
 have B1_2 := hblk B1_1 bw
 clear hb1 bw
 clear c1_0 c1_1
 by_cases hc3 : r2 < 0
 ·clear hrr2
  go_wp2_with fail
  go_ret
  exact ⟨-1, rfl, by omega, fun h => absurd h (by omega), hb2⟩
 obtain ⟨her2, hnr2, hzr2⟩ := hrr2 (by omega)
 have HZr2 := (show Hid _ from hzr2)
 clear hrr2 hzr2
 have c1_2 := (k7c B1_2).2.2.1
 go_wp2_with fail
 refine (szStringS_exact r2 (by omega) (by omega) B a2 n2 c2 ys _ (HA2.out _ hb2) (HBB.out _ hb2) HN2.out HS2.out).mono ?_
 rintro e w3 ⟨r4, rfl, hlr4, hrr4, bw⟩
 have hb3 := hbt hb2 bw
 have B1_3 := hblk B1_2 bw
 clear hb2 bw
 clear c1_2
 by_cases hc5 : r4 < 0
 ·clear hrr4
  go_wp2_with fail
  go_ret
  exact ⟨-1, rfl, by omega, fun h => absurd h (by omega), hb3⟩
 obtain ⟨her4, hnr4, hzr4⟩ := hrr4 (by omega)
 have HZr4 := (show Hid _ from hzr4)
 clear hrr4 hzr4
 have c1_3 := (k7c B1_3).2.2.2.1
 have c1_4 := (k7c B1_3).2.2.2.2.1
 have c1_5 := (k7c B1_3).2.2.2.2.2.1
 go_wp2_with fail
 refine (szResp_room r4 (by omega) (by omega) st a3 n3 c3 b fs _ (argUp (HA3.out _ hb3) (HBB.out _ hb3)) HN3.out HS3.out HX.out).mono ?_
 rintro e w4 ⟨r6, rfl, hlr6, hrr6, bw⟩
 have hb4 := hbt hb3 bw
 have B1_4 := hblk B1_3 bw
 clear hb3 bw
 clear c1_3 c1_4 c1_5
 by_cases hc7 : r6 < 0
 ·clear hrr6
  go_wp2_with fail
  go_ret
  exact ⟨-1, rfl, by omega, fun h => absurd h (by omega), hb4⟩
 obtain ⟨her6, hxr6, hnr6, hzr6⟩ := hrr6 (by omega)
 clear hrr6
 go_wp2_with fail
 go_ret
 exact ⟨_, rfl, by omega, fun _ => ⟨by omega, ⟨by omega, by omega⟩, ⟨by omega, HZr2.out⟩, ⟨by omega, HZr4.out⟩, by omega, by omega⟩, hb4⟩
theorem eqObj_any (p : Tx) (n1 : Nat) (xs : Ts) (n2 : Nat) (ys : Ts) (st : Int) (n3 : Nat) (fs : Fs) (b : Tx) (t : Int) (v1 v2 v3 u1 u2 u3 : Value) (B1 B2 : Nat) (w : World) (hx : ObjO w B1 v1 n1 xs v2 n2 ys v3 n3 fs) (hy : ObjO w B2 u1 n1 xs u2 n2 ys u3 n3 fs) (hn1 : n1 ≤ 2000000) (hn2 : n2 ≤ 2000000) (hn3 : n3 ≤ 2000000) :
  Calls Tryz.prog 109 #[.agg #[.string p, v1, v2, .int .i64 st, v3, .string b, .int .i64 t], .agg #[.string p, u1, u2, .int .i64 st, u3, .string b, .int .i64 t]] w fun e w' => e = .returned (.bool true) ∧ Below w.heap.size w w' := by
 obtain ⟨oNx, pNx, rfl⟩ := slice_of_owns hx.names
 obtain ⟨oVx, pVx, rfl⟩ := slice_of_owns hx.vals
 obtain ⟨oFx, pFx, rfl⟩ := slice_of_owns hx.flds
 have HONx_0 : Hid (w.ownsRow B1 9 1 (.slice oNx n1 pNx) n1 (xs.map Value.string)) := hx.names
 have HOVx_0 : Hid (w.ownsRow B1 9 1 (.slice oVx n2 pVx) n2 (ys.map Value.string)) := hx.vals
 have HOFx_0 : Hid (w.ownsRow B1 185 2 (.slice oFx n3 pFx) n3 (flatF fs)) := hx.flds
 clear hx
 obtain ⟨oNy, pNy, rfl⟩ := slice_of_owns hy.names
 obtain ⟨oVy, pVy, rfl⟩ := slice_of_owns hy.vals
 obtain ⟨oFy, pFy, rfl⟩ := slice_of_owns hy.flds
 have HONy_0 : Hid (w.ownsRow B2 9 1 (.slice oNy n1 pNy) n1 (xs.map Value.string)) := hy.names
 have HOVy_0 : Hid (w.ownsRow B2 9 1 (.slice oVy n2 pVy) n2 (ys.map Value.string)) := hy.vals
 have HOFy_0 : Hid (w.ownsRow B2 185 2 (.slice oFy n3 pFy) n3 (flatF fs)) := hy.flds
 clear hy
 have hpp : (p.toList != p.toList) = false := by simp
 have htt : (t != t) = false := by simp
 have hb0 := Below.refl w.heap.size w
 go_enter Tryz.func109, Tryz.ntmps109
 go_upto_region 1 with fail
 obtain ⟨q1, hq1⟩ := exq (w.heap.size)
 obtain ⟨w1, hW1⟩ := exq (w.alloc (.cells #[.string p, .slice oNx n1 pNx, .slice oVx n2 pVx, .int .i64 st, .slice oFx n3 pFx, .string b, .int .i64 t] 62))
 have hz1 := hq1.symm
 rw [← hW1]; try rw [← hq1]
 have hs1 := hsa hW1 hz1
 have bw := bal hW1
 have hb1 := hbt hb0 bw
 have HONx_1 := hown HONx_0 bw
 have HOVx_1 := hown HOVx_0 bw
 have HOFx_1 := hown HOFx_0 bw
 have HONy_1 := hown HONy_0 bw
 have HOVy_1 := hown HOVy_0 bw
 have HOFy_1 := hown HOFy_0 bw
 have B1_1 := hnew hW1 hz1
 clear hb0 bw hW1 hz1
 obtain ⟨q2, hq2⟩ := exq (q1 + 1)
 obtain ⟨w2, hW2⟩ := exq (w1.alloc (.cells #[.string p, .slice oNy n1 pNy, .slice oVy n2 pVy, .int .i64 st, .slice oFy n3 pFy, .string b, .int .i64 t] 62))
 have hz2 : w1.heap.size = q2 := by rw [hq2]; exact hs1
 rw [← hW2]; try rw [← hq2]
 have hs2 := hsa hW2 hz2
 have bw := bal hW2
 have hb2 := hbt hb1 bw
 have HONx_2 := hown HONx_1 bw
 have HOVx_2 := hown HOVx_1 bw
 have HOFx_2 := hown HOFx_1 bw
 have HONy_2 := hown HONy_1 bw
 have HOVy_2 := hown HOVy_1 bw
 have HOFy_2 := hown HOFy_1 bw
 have B1_2 := hblk B1_1 bw
 have B2_2 := hnew hW2 hz2
 clear hb1 bw hW2 hz2
 clear hs2 hq2 hs1 hq1
 have c1_0 := (k7c B1_2).1
 have c2_0 := (k7c B2_2).1
 have c1_1 := (k7c B1_2).2.1
 have c2_1 := (k7c B2_2).2.1
 go_wp2_with fail
 refine (eqS_any _ _ n1 _ _ xs _ HONx_2.out HONy_2.out (by omega)).mono ?_
 rintro e w3 ⟨rfl, bw⟩
 have hb3 := hbt hb2 bw
 have HONx_3 := hown HONx_2 bw
 have HOVx_3 := hown HOVx_2 bw
 have HOFx_3 := hown HOFx_2 bw
 have HONy_3 := hown HONy_2 bw
 have HOVy_3 := hown HOVy_2 bw
 have HOFy_3 := hown HOFy_2 bw
 have B1_3 := hblk B1_2 bw
 have B2_3 := hblk B2_2 bw
 clear hb2 bw
 clear c1_0 c2_0 c1_1 c2_1
 have c1_2 := (k7c B1_3).2.2.1
 have c2_2 := (k7c B2_3).2.2.1
 go_wp2_with fail
 refine (eqS_any _ _ n2 _ _ ys _ HOVx_3.out HOVy_3.out (by omega)).mono ?_
 rintro e w4 ⟨rfl, bw⟩
 have hb4 := hbt hb3 bw
 have HONx_4 := hown HONx_3 bw
 have HOVx_4 := hown HOVx_3 bw
 have HOFx_4 := hown HOFx_3 bw
 have HONy_4 := hown HONy_3 bw
 have HOVy_4 := hown HOVy_3 bw
 have HOFy_4 := hown HOFy_3 bw
 have B1_4 := hblk B1_3 bw
 have B2_4 := hblk B2_3 bw
 clear hb3 bw
 clear c1_2 c2_2
 have c1_3 := (k7c B1_4).2.2.2.1
 have c1_4 := (k7c B1_4).2.2.2.2.1
 have c1_5 := (k7c B1_4).2.2.2.2.2.1
 have c2_3 := (k7c B2_4).2.2.2.1
 have c2_4 := (k7c B2_4).2.2.2.2.1
 have c2_5 := (k7c B2_4).2.2.2.2.2.1
 go_wp2_with fail
 refine (eqResp_any st _ _ b n3 _ _ fs _ (FieldsV.of_owns HOFx_4.out) (FieldsV.of_owns HOFy_4.out) (by omega)).mono ?_
 rintro e w5 ⟨rfl, bw⟩
 have hb5 := hbt hb4 bw
 have HONx_5 := hown HONx_4 bw
 have HOVx_5 := hown HOVx_4 bw
 have HOFx_5 := hown HOFx_4 bw
 have HONy_5 := hown HONy_4 bw
 have HOVy_5 := hown HOVy_4 bw
 have HOFy_5 := hown HOFy_4 bw
 have B1_5 := hblk B1_4 bw
 have B2_5 := hblk B2_4 bw
 clear hb4 bw
 clear c1_3 c1_4 c1_5 c2_3 c2_4 c2_5
 have c1_6 := (k7c B1_5).2.2.2.2.2.2
 have c2_6 := (k7c B2_5).2.2.2.2.2.2
 go_wp2_with fail
 go_ret
 exact ⟨rfl, hb5⟩
theorem l1Min_any (a b : Int) (w : World) :
  Calls Tryz.prog 119 #[.int .i64 a, .int .i64 b] w fun e w' => e = .returned (.int .i64 (min a b)) ∧ w' = w := by
 by_cases h : a < b
 ·have HE : Hid (min a b = a) := by show _ = _; omega
  go_enter Tryz.func119, Tryz.ntmps119
  go_wp2
  go_ret
  exact ⟨by rw [HE.out]; rfl, rfl⟩
 have HE : Hid (min a b = b) := by show _ = _; omega
 go_enter Tryz.func119, Tryz.ntmps119
 go_wp2
 go_ret
 exact ⟨by rw [HE.out]; rfl, rfl⟩
theorem l1Max_any (a b : Int) (w : World) :
  Calls Tryz.prog 147 #[.int .i64 a, .int .i64 b] w fun e w' => e = .returned (.int .i64 (max a b)) ∧ w' = w := by
 by_cases h : b < a
 ·have HE : Hid (max a b = a) := by show _ = _; omega
  go_enter Tryz.func147, Tryz.ntmps147
  go_wp2
  go_ret
  exact ⟨by rw [HE.out]; rfl, rfl⟩
 have HE : Hid (max a b = b) := by show _ = _; omega
 go_enter Tryz.func147, Tryz.ntmps147
 go_wp2
 go_ret
 exact ⟨by rw [HE.out]; rfl, rfl⟩
def IntsV (w : World) (oa : Oa) (n : Nat) (zs : List Int) : Prop := zs.length = n ∧ ∀ i, i < n → ∃ g, oa = some ⟨g, 0, none⟩ ∧ g < w.heap.size ∧ w.cell? ⟨g, i, none⟩ = some (.int .i64 (zs.getD i 0))
theorem IntsV.below {w w' : World} {oa : Oa} {n : Nat} {zs : List Int} (h : IntsV w oa n zs) (hb : Below w.heap.size w w') : IntsV w' oa n zs :=
 ⟨h.1, fun i hi => by
  obtain ⟨g, e, hg, hc⟩ := h.2 i hi
  exact ⟨g, e, Nat.lt_of_lt_of_le hg hb.size, by rw [hb.cell (p := ⟨g, i, none⟩) hg]; exact hc⟩⟩
attribute [local go_sem ↓] Go.wp_at_zero Go.wp_at_succ
structure ArgI (w : World) (B : Nat) (a : Oa) (n : Nat) (zs : List Int) : Prop where
 len : zs.length = n
 get : ∀ i, i < n → ∃ b off, a = some ⟨b, off, none⟩ ∧ b < B ∧ w.cell? ⟨b, off + i, none⟩ = some (.int .i64 (zs.getD i 0))
theorem ArgI.below {w w' : World} {B : Nat} {a : Oa} {n : Nat} {zs : List Int} (h : ArgI w B a n zs) (hb : Below B w w') : ArgI w' B a n zs :=
 ⟨h.len, fun i hi => by
  obtain ⟨b, off, e, hB, hc⟩ := h.get i hi
  exact ⟨b, off, e, hB, by rw [hb.cell (p := ⟨b, off + i, none⟩) hB]; exact hc⟩⟩
theorem infoI : (Tryz.prog.info? 3).map (fun i => (i.zero, i.size, i.bytes)) = some (some (.int .i64 0), 1, 8) := by kernel_rfl
def PartI (w : World) (g n k : Nat) (zs : List Int) : Prop := ∃ cur, w.heap[g]? = some (.cells cur 3 (0, 0)) ∧ cur.size = n ∧ ∀ i, i < k → cur[i]? = some (.int .i64 (zs.getD i 0))
theorem PartI.cell {w : World} {g n k : Nat} {zs : List Int} (h : PartI w g n k zs) (j : Nat) (hj : j < n) : ∃ u, w.cell? ⟨g, j, none⟩ = some u := by
 obtain ⟨cur, h1, h2, _⟩ := h
 exact ⟨cur[j]'(by omega), by simp [World.cell?, h1, h2, hj]⟩
theorem PartI.frozen {w : World} {g n k : Nat} {zs : List Int} (h : PartI w g n k zs) (j : Nat) : w.frozen? ⟨g, j, none⟩ = false := by
 obtain ⟨cur, h1, _⟩ := h
 simp [World.frozen?, h1]
theorem PartI.put {w : World} {g n k : Nat} {zs : List Int} (h : PartI w g n k zs) (hk : k < n) : PartI (w.setCell ⟨g, k, none⟩ (.int .i64 (zs.getD k 0))) g n (k + 1) zs := by
 obtain ⟨cur, h1, h2, h3⟩ := h
 refine ⟨_, heap_set _ _ _ _ _ _ _ h1, by simp [h2], fun i hi => ?_⟩
 by_cases e : i = k
 · subst e; simp [h2, hk]
 rw [Array.getElem?_setIfInBounds_ne (fun e' => e e'.symm)]
 exact h3 i (by omega)
theorem eqIntS_any (o1 o2 : Oa) (n c1 c2 : Nat) (zs : List Int) (w : World) (h1 : IntsV w o1 n zs) (h2 : IntsV w o2 n zs) (hn : n ≤ 2000000) :
  Calls Tryz.prog 108 #[.slice o1 n c1, .slice o2 n c2] w fun e w' => e = .returned (.bool true) ∧ Below w.heap.size w w' := by
 have H1 : Hid (∀ W, Below w.heap.size w W → IntsV W o1 n zs) := fun W h => h1.below h
 have H2 : Hid (∀ W, Below w.heap.size w W → IntsV W o2 n zs) := fun W h => h2.below h
 clear h1 h2
 go_enter Tryz.func108, Tryz.ntmps108
 go_wp2
 go_loopw [5] (fun i wr => ∃ k : Nat, k ≤ n ∧ i = .int .i64 (k : Int) ∧ Below w.heap.size w wr) (fun i _ => n - (intOf i).toNat)
 case atStart => exact ⟨0, Nat.zero_le _, rfl, Below.refl _ _⟩
 case round =>
  obtain ⟨k, hk, rfl, hbw⟩ := hrel
  by_cases hlt : k < n
  rotate_left
  ·go_wp2
   go_ret
   exact ⟨rfl, hbw⟩
  have hlt2 : (k : Int) < (n : Int) := by omega
  obtain ⟨g1, rfl, _, ha⟩ := (H1.out wr hbw).2 k hlt
  obtain ⟨g2, rfl, _, hb⟩ := (H2.out wr hbw).2 k hlt
  generalize zs.getD k 0 = z at ha hb
  have hzz : (z != z) = false := by simp
  go_wp2
  go_region_held3 (fun w' => w'.cell? ⟨g1, k, none⟩ = some (.int .i64 z) ∧ w'.cell? ⟨g2, k, none⟩ = some (.int .i64 z)) (first | assumption | go_keep) (fail)
  go_wp2
  go_roundw
  case rel => exact ⟨k + 1, by omega, by go_num, hbw.drew⟩
  case measure => simp [intOf]; omega
theorem toIntSO_any (B : Nat) (a : Oa) (n cap : Nat) (zs : List Int) (w : World) (harg : ArgI w B a n zs) (hB : B ≤ w.heap.size) (hn : n ≤ 1048576) :
  Calls Tryz.prog 91 #[.slice a n cap] w fun e w' => e = .returned (.slice (some ⟨w.heap.size, 0, none⟩) n n) ∧ PartI w' w.heap.size n n zs ∧ Below w.heap.size w w' := by
 obtain ⟨i0, hi, hz0, hz1, hz2⟩ := info_parts infoI
 obtain ⟨M, hM⟩ : ∃ M, M = madeCells (Value.int .i64 0).cells (((n : Nat) : Int).toNat * i0.size) := ⟨_, rfl⟩
 have hmk : ∀ W : World, (Instr.makeSlice 85 (.int .i64 (n : Int)) (.int .i64 (n : Int))).run Tryz.prog W = .ok (.slice (some ⟨W.heap.size, 0, none⟩) n n) (W.alloc (.cells M 3)) := fun W => by
  have h := run_make (P := Tryz.prog) W 85 3 i0 (.int .i64 0) Tryz.underlying85 hi hz0 .i64 .i64 (n : Int) (n : Int) (by omega) (by omega) (by rw [hz2]; omega) (by omega)
  rw [← hM] at h
  simpa using h
 have hMs : M.size = n := by rw [hM, size_madeCells, hz1]; simp
 have HARG : Hid (∀ W, Below B w W → ArgI W B a n zs) := fun W h => harg.below h
 clear hM harg
 have HP : Hid (PartI (w.alloc (.cells M 3)) w.heap.size n 0 zs) := ⟨M, heap_alloc_new w _, hMs, fun i h => absurd h (by omega)⟩
 go_enter Tryz.func91, Tryz.ntmps91
 go_wp2
 go_loopw [4] (fun i wr => ∃ k : Nat, k ≤ n ∧ i = .int .i64 (k : Int) ∧ Hid (PartI wr w.heap.size n k zs) ∧ Below w.heap.size w wr) (fun i _ => n - (intOf i).toNat)
 case atStart => exact ⟨0, Nat.zero_le _, rfl, HP, (Below.refl _ _).alloc (Nat.le_refl _) _⟩
 case round =>
  obtain ⟨k, hk, rfl, hpr, hbw⟩ := hrel
  by_cases hlt : k < n
  rotate_left
  ·obtain rfl : k = n := by omega
   go_wp2
   go_ret
   exact ⟨rfl, hpr.out, hbw⟩
  have hlt2 : (k : Int) < (n : Int) := by omega
  obtain ⟨b, off, rfl, hbB, hc1⟩ := (HARG.out wr (hbw.mono hB)).get k hlt
  have HPUT : Hid (PartI (wr.setCell ⟨w.heap.size, k, none⟩ (.int .i64 (zs.getD k 0))) w.heap.size n (k + 1) zs) := hpr.out.put hlt
  obtain ⟨u0, hu0⟩ := hpr.out.cell k hlt
  have f0 := hpr.out.frozen k
  generalize zs.getD k 0 = z at hc1 HPUT
  go_wp2
  go_roundw
  case rel => exact ⟨k + 1, by omega, by go_num, HPUT, hbw.setCell (Nat.le_refl _) _⟩
  case measure => simp [intOf]; omega
theorem owns_cellC {w : World} {base : Nat} {t : TypeId} {size g n cap : Nat} {xs : List Value} (h : w.ownsRow base t size (.slice (some ⟨g, 0, none⟩) n cap) n xs) (o : Nat) (u : Value) (ho : xs[o]? = some u) : w.cell? ⟨g, o, none⟩ = some u ∧ w.frozen? ⟨g, o, none⟩ = false := by
 obtain ⟨hl, hv⟩ := h
 rcases hv with ⟨e, _⟩ | ⟨g', cap', cur, e, h1, h2, h3, h4, h5, h6⟩
 · cases e
 ·cases e
  refine ⟨?_, by simp [World.frozen?, h2]⟩
  rw [← h6, List.getElem?_take] at ho
  split at ho
  · simpa [World.cell?, h2] using ho
  · cases ho
theorem own_noR {w : World} {base : Nat} {t : TypeId} {size : Nat} {v : Value} {n : Nat} {xs : List Value} {j : Nat} {cs : Array Value} {T : TypeId} {fr : Nat × Nat} (h : w.ownsRow base t size v n xs) (hT : T ≠ t) (hj : w.heap[j]? = some (.cells cs T fr)) : v.ownBlock ≠ some j := by
 intro e
 rcases h.2 with ⟨rfl, _⟩ | ⟨g, cap, cur, rfl, _, h1, _⟩
 · cases e
 ·cases e
  rw [h1] at hj
  cases hj
  exact hT rfl
theorem own_ltR {w : World} {base : Nat} {t : TypeId} {size : Nat} {v : Value} {n : Nat} {xs : List Value} {j : Nat} (h : w.ownsRow base t size v n xs) (hj : v.ownBlock = some j) : base ≤ j ∧ j < w.heap.size := by
 rcases h.2 with ⟨rfl, _⟩ | ⟨g, cap, cur, rfl, h0, h1, _⟩
 · cases hj
 ·cases hj
  exact ⟨h0, (blt h1)⟩
theorem own_blockR {w : World} {base : Nat} {t : TypeId} {size : Nat} {v : Value} {n : Nat} {xs : List Value} {j : Nat} (h : w.ownsRow base t size v n xs) (hj : v.ownBlock = some j) : ∃ cur, w.heap[j]? = some (.cells cur t (0, 0)) := by
 rcases h.2 with ⟨rfl, _⟩ | ⟨g, cap, cur, rfl, h0, h1, _⟩
 · cases hj
 ·cases hj
  exact ⟨cur, h1⟩
theorem own_two {w : World} {b1 b2 : Nat} {t1 t2 : TypeId} {s1 s2 : Nat} {v1 v2 : Value} {n1 n2 : Nat} {x1 x2 : List Value} {j : Nat} (h1 : w.ownsRow b1 t1 s1 v1 n1 x1) (h2 : w.ownsRow b2 t2 s2 v2 n2 x2) (hT : t1 ≠ t2) (hj : v1.ownBlock = some j) : v2.ownBlock ≠ some j := by
 obtain ⟨cur, hc⟩ := own_blockR h1 hj
 exact own_noR h2 hT hc
theorem setCells_eq (b : Nat) : ∀ (vs : List Value) (o : Nat) (w : World), w.setCells b o vs = setW w b o vs
 | [], _, _ => rfl
 | _ :: r, o, _ => setCells_eq b r (o + 1) _
theorem setA_whole (l : List Value) (cur : Array Value) (h : l.length = cur.size) : setA cur 0 l = l.toArray := by
 apply Array.ext_getElem?
 intro i
 by_cases hi : i < l.length
 ·have h2 := setA_in l cur 0 i hi (by omega)
  rw [Nat.zero_add] at h2
  rw [h2]
  simp
 rw [Array.getElem?_eq_none (by rw [setA_size]; omega), Array.getElem?_eq_none (by simpa using Nat.le_of_not_lt hi)]
theorem there_of {W : World} {R n : Nat} {cs : Array Value} {t : TypeId} (h : W.heap[R]? = some (.cells cs t)) (hn : cs.size = n) : W.there R 0 n := fun j hj => by
 have e : 0 + j = j := Nat.zero_add j
 rw [e, cell_of h, frozen_of h]
 exact ⟨by simp [hn, hj], rfl⟩
theorem there_part {α : Type} {enc : α → List Value} {z : Nat} {T : TypeId} {w : World} {g n k : Nat} {l : List α} (h : PartO enc z T w g n l) (hk : k < n) : w.there g (k * z) z := fun j hj => by
 have hm : (k + 1) * z ≤ n * z := Nat.mul_le_mul_right z hk
 rw [Nat.add_mul, Nat.one_mul] at hm
 obtain ⟨u, hu⟩ := h.cell (k * z + j) (by omega)
 exact ⟨by rw [hu]; rfl, h.frozen _⟩
theorem range_nil (w : World) (b o : Nat) : w.rangeAt b o [] := fun _ _ hv => by simp at hv
theorem range_cons {w : World} {b o : Nat} {v : Value} {cs : List Value} (h : w.cell? ⟨b, o, none⟩ = some v) (hc : w.rangeAt b (o + 1) cs) : w.rangeAt b o (v :: cs) := fun j u hu => by
 cases j with
 | zero => cases hu; exact h
 | succ j => have h2 := hc j u hu; rw [show o + (j + 1) = o + 1 + j by omega]; exact h2
theorem range_of {W : World} {R : Nat} {cs : Array Value} {t : TypeId} (h : W.heap[R]? = some (.cells cs t)) : W.rangeAt R 0 cs.toList := fun j v hv => by
 have e : 0 + j = j := Nat.zero_add j
 rw [e, cell_of h]
 simpa using hv
theorem alloc_setW (T : TypeId) : ∀ (l : List Value) (o : Nat) (c : Array Value) (w : World), setW (w.alloc (.cells c T)) w.heap.size o l = w.alloc (.cells (setA c o l) T)
 | [], _, _, _ => rfl
 | v :: r, o, c, w => by rw [setW, World.setCell_alloc_at c T _ o v rfl, alloc_setW T r, setA]
theorem alloc_whole {w : World} {T : TypeId} {zs ds : Array Value} (h : ds.toList.length = zs.size) : (w.alloc (.cells zs T)).setCells w.heap.size 0 ds.toList = w.alloc (.cells ds T) := by
 rw [setCells_eq, alloc_setW, setA_whole _ _ h]
theorem big_block {W : World} {q : Nat} {cs ds : Array Value} {T : TypeId} (h : W.heap[q]? = some (.cells cs T)) (hn : ds.toList.length = cs.size) : (W.setCells q 0 ds.toList).heap[q]? = some (.cells ds T) := by
 rw [setCells_eq, setW_heap q T _ W 0 cs h, setA_whole _ _ hn]
theorem big_other {W : World} {q g : Nat} {vs : List Value} (hne : g ≠ q) : (W.setCells q 0 vs).heap[g]? = W.heap[g]? := by rw [setCells_eq]; exact setW_other q g hne _ _ _
theorem big_below {w W : World} {base q : Nat} {vs : List Value} (hq : base ≤ q) (h : Below base w W) : Below base w (W.setCells q 0 vs) := by rw [setCells_eq]; exact setW_below hq _ _ _ _ h
theorem big_size {W : World} {q : Nat} {vs : List Value} : (W.setCells q 0 vs).heap.size = W.heap.size := by rw [setCells_eq]; exact setW_size q _ _ _
theorem RowsO.big {W : World} {base q : Nat} {rs : List Rw} {cs : Array Value} {T : TypeId} {fr : Nat × Nat} {vs : List Value} (h : RowsO W base rs) (hq : W.heap[q]? = some (.cells cs T fr)) (hT : ∀ r ∈ rs, T ≠ r.T) : RowsO (W.setCells q 0 vs) base rs :=
 h.same (fun r hr g hg => big_other (fun e => own_noR (h.own r hr) (hT r hr) hq (by rw [← e]; exact hg)))
theorem getD_mem0 {α : Type} (z : α) (l : List α) (i : Nat) (h : i < l.length) : l.getD i z ∈ l := by
 rw [List.getD_eq_getElem?_getD, List.getElem?_eq_getElem h]
 exact List.getElem_mem h
theorem getD_take0 {α : Type} (z : α) (l : List α) (i : Nat) (h : i < l.length) : l.take (i + 1) = l.take i ++ [l.getD i z] := by
 rw [List.getD_eq_getElem?_getD, List.getElem?_eq_getElem h, List.take_succ_eq_append_getElem h]
 rfl
theorem getD_map0 {α β : Type} (f : α → β) (z : α) (y : β) (l : List α) (i : Nat) (h : i < l.length) : (l.map f).getD i y = f (l.getD i z) := by
 rw [List.getD_eq_getElem?_getD, List.getD_eq_getElem?_getD, List.getElem?_map, List.getElem?_eq_getElem h]
 rfl
theorem argUpF {w : World} {B B' : Nat} {a : Oa} {n : Nat} {fs : Fs} (h : ArgF w B a n fs) (hB : B ≤ B') : ArgF w B' a n fs :=
 ⟨h.len, fun i hi => by
  obtain ⟨b, off, h1, h2, h3⟩ := h.get i hi
  exact ⟨b, off, h1, Nat.lt_of_lt_of_le h2 hB, h3⟩⟩
theorem RowsO.cons {w : World} {base : Nat} {r : Rw} {rs : List Rw} (h1 : r.own w base) (h2 : ∀ x ∈ rs, r.ne x) (h : RowsO w base rs) : RowsO w base (r :: rs) :=
 ⟨fun x hx => by
  rcases List.mem_cons.1 hx with e | e
  · rw [e]; exact h1
  · exact h.own x e, List.pairwise_cons.2 ⟨h2, h.apart⟩⟩
theorem obj_rows3 {w : World} {B : Nat} {v1 v2 v3 : Value} {xs ys : Ts} {fs : Fs} (h : ObjO w B v1 xs.length xs v2 ys.length ys v3 fs.length fs) : RowsO w B [(⟨9, 1, v1, xs.length, xs.map Value.string⟩ : Rw), (⟨9, 1, v2, ys.length, ys.map Value.string⟩ : Rw), (⟨185, 2, v3, fs.length, flatF fs⟩ : Rw)] := by
 refine RowsO.cons h.names (fun r hr => ?_) (RowsO.cons h.vals (fun r hr => ?_) (RowsO.one h.flds))
 ·simp only [List.mem_cons, List.not_mem_nil, or_false] at hr
  rcases hr with rfl | rfl
  · exact fun g hg => h.ne g hg
  · exact fun g hg => own_two h.names h.flds (by decide) hg
 ·rw [List.mem_singleton.1 hr]
  exact fun g hg => own_two h.vals h.flds (by decide) hg
theorem rows_obj3 {w : World} {B : Nat} {v1 v2 v3 : Value} {xs ys : Ts} {fs : Fs} (h : RowsO w B [(⟨9, 1, v1, xs.length, xs.map Value.string⟩ : Rw), (⟨9, 1, v2, ys.length, ys.map Value.string⟩ : Rw), (⟨185, 2, v3, fs.length, flatF fs⟩ : Rw)]) : ObjO w B v1 xs.length xs v2 ys.length ys v3 fs.length fs :=
 ⟨h.own (⟨9, 1, v1, xs.length, xs.map Value.string⟩ : Rw) (by simp), h.own (⟨9, 1, v2, ys.length, ys.map Value.string⟩ : Rw) (by simp), h.own (⟨185, 2, v3, fs.length, flatF fs⟩ : Rw) (by simp), fun g hg => (List.pairwise_cons.1 h.apart).1 (⟨9, 1, v2, ys.length, ys.map Value.string⟩ : Rw) (by simp) g hg⟩
theorem part_ints {w : World} {g n base : Nat} {zs : List Int} (h : PartI w g n n zs) (hl : zs.length = n) (hm : n ≤ maxLen) (hb : base ≤ g) : w.ownsRow base 3 1 (.slice (some ⟨g, 0, none⟩) n n) n (zs.map (Value.int .i64)) := by
 obtain ⟨cur, h1, h2, h3⟩ := h
 refine ⟨by simp [hl], .inr ⟨g, n, cur, rfl, hb, h1, Nat.le_refl _, hm, by simpa using h2, ?_⟩⟩
 apply List.ext_getElem?
 intro j
 rw [List.getElem?_take]
 by_cases hj : j < n * 1
 rotate_left
 · rw [if_neg hj, List.getElem?_eq_none (by simp; omega)]
 rw [if_pos hj]
 have hj2 : j < zs.length := by omega
 have h4 := h3 j (by omega)
 rw [List.getD_eq_getElem?_getD, List.getElem?_eq_getElem hj2] at h4
 rw [List.getElem?_map, List.getElem?_eq_getElem hj2]
 simpa using h4
theorem ints_view {w : World} {base : Nat} {v : Value} {zs : List Int} (h : w.ownsRow base 3 1 v zs.length (zs.map (Value.int .i64))) : ∃ oa cp, v = .slice oa zs.length cp ∧ IntsV w oa zs.length zs := by
 obtain ⟨oa, cp, rfl⟩ := slice_of_owns h
 refine ⟨oa, cp, rfl, rfl, fun i hi => ?_⟩
 rcases h.2 with ⟨_, h0⟩ | ⟨g, cap, cur, hv, _, h1, _⟩
 · omega
 ·injection hv with e1 _ _
  subst e1
  refine ⟨g, rfl, (blt h1), ?_⟩
  have hc := (owns_cellC h i (.int .i64 (zs.getD i 0)) (by rw [List.getElem?_map, List.getD_eq_getElem?_getD, List.getElem?_eq_getElem hi]; rfl)).1
  exact hc
theorem szIntS_room (L : Int) (hL0 : 0 ≤ L) (hL1 : L ≤ 1048576) (a : Oa) (n cap : Nat) (w : World) (hn : n ≤ maxLen) :
  Calls Tryz.prog 62 #[.slice a n cap, .int .i64 L] w fun e w' => ∃ r : Int, e = .returned (.int .i64 r) ∧ r ≤ L ∧ (0 ≤ r → r + (n : Int) ≤ L ∧ n ≤ 1048576) ∧ Below w.heap.size w w' := by
 unfold maxLen at hn
 by_cases c1 : L - (n : Int) < 0
 ·go_enter Tryz.func62, Tryz.ntmps62
  go_wp2
  go_ret
  exact ⟨-1, rfl, by omega, fun h => absurd h (by omega), Below.refl _ _⟩
 go_enter Tryz.func62, Tryz.ntmps62
 go_wp2
 go_ret
 exact ⟨L - (n : Int), by first | rfl | (congr 2; omega), by omega, fun _ => ⟨by omega, by omega⟩, Below.refl _ _⟩
theorem openIntsT {H : Type} {enc : TypeId × Value → H} {W : World} {fuel : Nat} {a : Oa} {n cap : Nat} {x : DataW H × List MemPlace} (h : DataW.trod enc Tryz.prog W 0 (fun _ => true) true fuel 85 [.slice a n cap] = some x) :
  ∃ zs, ArgI W W.heap.size a n zs ∧ n ≤ maxLen := by
 rcases Go.ChangeShapes.open_ints Tryz.underlying85 Tryz.underlying3 (by kernel_rfl) h with ⟨hcs, _⟩ | ⟨ad, len, c, ss, hcs, _, hl, hm, hlen, _, hcell, _⟩
 ·simp at hcs
  obtain ⟨rfl, rfl, rfl⟩ := hcs
  exact ⟨[], ⟨rfl, fun i hi => absurd hi (by omega)⟩, Nat.zero_le _⟩
 ·simp at hcs
  obtain ⟨rfl, rfl, rfl⟩ := hcs
  have hlen2 : ss.length = cap := by simpa using hlen
  have htk : ∀ i, i < n → (ss.take n).getD i 0 = ss.getD i 0 := fun i hi => by
   rw [List.getD_eq_getElem?_getD, List.getD_eq_getElem?_getD, List.getElem?_take_of_lt hi]
  refine ⟨ss.take n, ⟨by rw [List.length_take]; omega, fun i hi => ?_⟩, by omega⟩
  obtain ⟨b, off, spot⟩ := ad
  have hspot : spot = none := by
   have := World.cell?_spot (hcell 0 (by omega))
   simpa [Addr.add] using this
  subst hspot
  have hc := hcell i (by omega)
  rw [addr_add] at hc
  exact ⟨b, off, rfl, World.block_lt_of_cell? _ _ hc, by rw [htk i hi]; exact hc⟩
structure FlD where
 qmt : Int
 qpa : ByteArray
 qfs : Fs
 qbd : ByteArray
 who : List Int
 opa : ByteArray
 oxs : Ts
 oys : Ts
 ost : Int
 ofs : Fs
 obd : ByteArray
 otm : Int
 has : Bool
structure FlV where
 d : FlD
 v2 : Value
 v4 : Value
 v6 : Value
 v7 : Value
 v9 : Value
def zeroFl : FlD := ⟨0, ⟨#[]⟩, [], ⟨#[]⟩, [], ⟨#[]⟩, [], [], 0, [], ⟨#[]⟩, 0, false⟩
def flAt (ks : List FlD) (i : Nat) : FlD := ks.getD i zeroFl
def zeroFlV : FlV := ⟨zeroFl, .slice none 0 0, .slice none 0 0, .slice none 0 0, .slice none 0 0, .slice none 0 0⟩
def flvAt (kv : List FlV) (i : Nat) : FlV := kv.getD i zeroFlV
def flC (x : FlV) : List Value := [.int .i64 x.d.qmt, .string x.d.qpa, x.v2, .string x.d.qbd, x.v4, .string x.d.opa, x.v6, x.v7, .int .i64 x.d.ost, x.v9, .string x.d.obd, .int .i64 x.d.otm, .bool x.d.has]
theorem flC_len (x : FlV) : (flC x).length = 13 := rfl
def flR (x : FlV) : List Rw := [(⟨185, 2, x.v2, x.d.qfs.length, flatF x.d.qfs⟩ : Rw), (⟨3, 1, x.v4, x.d.who.length, x.d.who.map (Value.int .i64)⟩ : Rw), (⟨9, 1, x.v6, x.d.oxs.length, x.d.oxs.map Value.string⟩ : Rw), (⟨9, 1, x.v7, x.d.oys.length, x.d.oys.map Value.string⟩ : Rw), (⟨185, 2, x.v9, x.d.ofs.length, flatF x.d.ofs⟩ : Rw)]
def flRow (V : Value) (kv : List FlV) : Rw := ⟨101, 13, V, kv.length, kv.flatMap flC⟩
def flAll (V : Value) (kv : List FlV) : List Rw := flRow V kv :: kv.flatMap flR
def FlsO (w : World) (base : Nat) (V : Value) (kv : List FlV) : Prop := RowsO w base (flAll V kv)
theorem FlsO.row {w : World} {base : Nat} {V : Value} {kv : List FlV} (h : FlsO w base V kv) : w.ownsRow base 101 13 V kv.length (kv.flatMap flC) := h.own (flRow V kv) (by simp [flAll])
theorem FlsO.len {w : World} {base : Nat} {V : Value} {kv : List FlV} (h : FlsO w base V kv) : ∃ oa cp, V = .slice oa kv.length cp := slice_of_owns h.row
theorem FlsO.below {w w' : World} {base : Nat} {V : Value} {kv : List FlV} (h : FlsO w base V kv) (hb : Below w.heap.size w w') : FlsO w' base V kv := RowsO.below h hb
theorem FlsO.item {w : World} {base : Nat} {V : Value} {kv : List FlV} (h : FlsO w base V kv) {x : FlV} (hx : x ∈ kv) : RowsO w base (flR x) := by
 obtain ⟨s, t, e⟩ := List.append_of_mem hx
 refine RowsO.sub h ?_
 unfold flAll
 rw [e, List.flatMap_append, List.flatMap_cons]
 exact ((List.sublist_append_left _ _).trans (List.sublist_append_right _ _)).trans (List.sublist_cons_self _ _)
theorem flR_T {x : FlV} {r : Rw} (h : r ∈ flR x) : r.T = 185 ∨ r.T = 3 ∨ r.T = 9 := by
 simp only [flR, List.mem_cons, List.not_mem_nil, or_false] at h
 rcases h with rfl | rfl | rfl | rfl | rfl <;> simp
structure FlAt (w : World) (g i : Nat) (x : FlV) : Prop where
 c0 : w.cell? ⟨g, i * 13, none⟩ = some (.int .i64 x.d.qmt)
 c1 : w.cell? ⟨g, i * 13 + 1, none⟩ = some (.string x.d.qpa)
 c2 : w.cell? ⟨g, i * 13 + 2, none⟩ = some (x.v2)
 c3 : w.cell? ⟨g, i * 13 + 3, none⟩ = some (.string x.d.qbd)
 c4 : w.cell? ⟨g, i * 13 + 4, none⟩ = some (x.v4)
 c5 : w.cell? ⟨g, i * 13 + 5, none⟩ = some (.string x.d.opa)
 c6 : w.cell? ⟨g, i * 13 + 6, none⟩ = some (x.v6)
 c7 : w.cell? ⟨g, i * 13 + 7, none⟩ = some (x.v7)
 c8 : w.cell? ⟨g, i * 13 + 8, none⟩ = some (.int .i64 x.d.ost)
 c9 : w.cell? ⟨g, i * 13 + 9, none⟩ = some (x.v9)
 c10 : w.cell? ⟨g, i * 13 + 10, none⟩ = some (.string x.d.obd)
 c11 : w.cell? ⟨g, i * 13 + 11, none⟩ = some (.int .i64 x.d.otm)
 c12 : w.cell? ⟨g, i * 13 + 12, none⟩ = some (.bool x.d.has)
theorem FlsO.at {w : World} {base : Nat} {V : Value} {kv : List FlV} (h : FlsO w base V kv) (i : Nat) (hi : i < kv.length) : ∃ g cap, V = .slice (some ⟨g, 0, none⟩) kv.length cap ∧ g < w.heap.size ∧ FlAt w g i (kv[i]'hi) := by
 have hr := h.row
 rcases hr.2 with ⟨_, h0⟩ | ⟨g, cap, cur, rfl, _, h1, _⟩
 · omega
 ·have key : ∀ j, j < 13 → ∀ u, (flC (kv[i]'hi))[j]? = some u → w.cell? ⟨g, i * 13 + j, none⟩ = some u := fun j hj u hu => (owns_cellC hr (i * 13 + j) u (by rw [items_at flC 13 flC_len kv i j hi hj]; exact hu)).1
  exact ⟨g, cap, rfl, (blt h1), ⟨key 0 (by decide) _ rfl, key 1 (by decide) _ rfl, key 2 (by decide) _ rfl, key 3 (by decide) _ rfl, key 4 (by decide) _ rfl, key 5 (by decide) _ rfl, key 6 (by decide) _ rfl, key 7 (by decide) _ rfl, key 8 (by decide) _ rfl, key 9 (by decide) _ rfl, key 10 (by decide) _ rfl, key 11 (by decide) _ rfl, key 12 (by decide) _ rfl⟩⟩
theorem FlsO.look {w : World} {base : Nat} {V : Value} {kv : List FlV} (h : FlsO w base V kv) (i : Nat) (hi : i < kv.length) : ∃ g cap, V = .slice (some ⟨g, 0, none⟩) kv.length cap ∧ g < w.heap.size ∧ FlAt w g i (flvAt kv i) := by
 have h2 := h.at i hi
 have e : flvAt kv i = kv[i]'hi := by
  unfold flvAt
  rw [List.getD_eq_getElem?_getD, List.getElem?_eq_getElem hi]
  rfl
 rw [e]
 exact h2
structure KpD where
 p : ByteArray
 xs : Ts
 ys : Ts
 st : Int
 fs : Fs
 b : ByteArray
 t : Int
 a : Int
 q : Int
abbrev Ks := List (KpD × Value × Value × Value)
def kpC (x : KpD × Value × Value × Value) : List Value := [.string x.1.p, x.2.1, x.2.2.1, .int .i64 x.1.st, x.2.2.2, .string x.1.b, .int .i64 x.1.t, .int .i64 x.1.a, .int .i64 x.1.q]
theorem kpC_len (x : KpD × Value × Value × Value) : (kpC x).length = 9 := rfl
def kpN (x : KpD × Value × Value × Value) : Rw := ⟨9, 1, x.2.1, x.1.xs.length, x.1.xs.map Value.string⟩
def kpV (x : KpD × Value × Value × Value) : Rw := ⟨9, 1, x.2.2.1, x.1.ys.length, x.1.ys.map Value.string⟩
def kpF (x : KpD × Value × Value × Value) : Rw := ⟨185, 2, x.2.2.2, x.1.fs.length, flatF x.1.fs⟩
def kpR (x : KpD × Value × Value × Value) : List Rw := [kpN x, kpV x, kpF x]
def kpRow (V : Value) (kv : Ks) : Rw := ⟨145, 9, V, kv.length, kv.flatMap kpC⟩
def kpAll (V : Value) (kv : Ks) : List Rw := kpRow V kv :: kv.flatMap kpR
def KeptsO (w : World) (base : Nat) (V : Value) (kv : Ks) : Prop := RowsO w base (kpAll V kv)
theorem KeptsO.row {w : World} {base : Nat} {V : Value} {kv : Ks} (h : KeptsO w base V kv) : w.ownsRow base 145 9 V kv.length (kv.flatMap kpC) := h.own (kpRow V kv) (by simp [kpAll])
theorem KeptsO.names {w : World} {base : Nat} {V : Value} {kv : Ks} (h : KeptsO w base V kv) {x : KpD × Value × Value × Value} (hx : x ∈ kv) : w.ownsRow base 9 1 x.2.1 x.1.xs.length (x.1.xs.map Value.string) := h.own (kpN x) (List.mem_cons_of_mem _ (List.mem_flatMap.2 ⟨x, hx, by simp [kpR]⟩))
theorem KeptsO.vals {w : World} {base : Nat} {V : Value} {kv : Ks} (h : KeptsO w base V kv) {x : KpD × Value × Value × Value} (hx : x ∈ kv) : w.ownsRow base 9 1 x.2.2.1 x.1.ys.length (x.1.ys.map Value.string) := h.own (kpV x) (List.mem_cons_of_mem _ (List.mem_flatMap.2 ⟨x, hx, by simp [kpR]⟩))
theorem KeptsO.flds {w : World} {base : Nat} {V : Value} {kv : Ks} (h : KeptsO w base V kv) {x : KpD × Value × Value × Value} (hx : x ∈ kv) : w.ownsRow base 185 2 x.2.2.2 x.1.fs.length (flatF x.1.fs) := h.own (kpF x) (List.mem_cons_of_mem _ (List.mem_flatMap.2 ⟨x, hx, by simp [kpR]⟩))
theorem KeptsO.below {w w' : World} {base : Nat} {V : Value} {kv : Ks} (h : KeptsO w base V kv) (hb : Below w.heap.size w w') : KeptsO w' base V kv := RowsO.below h hb
structure KpAt (w : World) (g i : Nat) (x : KpD × Value × Value × Value) : Prop where
 c0 : w.cell? ⟨g, i * 9, none⟩ = some (.string x.1.p)
 c1 : w.cell? ⟨g, i * 9 + 1, none⟩ = some x.2.1
 c2 : w.cell? ⟨g, i * 9 + 2, none⟩ = some x.2.2.1
 c3 : w.cell? ⟨g, i * 9 + 3, none⟩ = some (.int .i64 x.1.st)
 c4 : w.cell? ⟨g, i * 9 + 4, none⟩ = some x.2.2.2
 c5 : w.cell? ⟨g, i * 9 + 5, none⟩ = some (.string x.1.b)
 c6 : w.cell? ⟨g, i * 9 + 6, none⟩ = some (.int .i64 x.1.t)
 c7 : w.cell? ⟨g, i * 9 + 7, none⟩ = some (.int .i64 x.1.a)
 c8 : w.cell? ⟨g, i * 9 + 8, none⟩ = some (.int .i64 x.1.q)
theorem KeptsO.at {w : World} {base : Nat} {V : Value} {kv : Ks} (h : KeptsO w base V kv) (i : Nat) (hi : i < kv.length) : ∃ g cap, V = .slice (some ⟨g, 0, none⟩) kv.length cap ∧ g < w.heap.size ∧ KpAt w g i (kv[i]'hi) := by
 have hr := h.row
 rcases hr.2 with ⟨_, h0⟩ | ⟨g, cap, cur, rfl, _, h1, _⟩
 · omega
 ·have key : ∀ j, j < 9 → ∀ u, (kpC (kv[i]'hi))[j]? = some u → w.cell? ⟨g, i * 9 + j, none⟩ = some u := fun j hj u hu => (owns_cellC hr (i * 9 + j) u (by rw [items_at kpC 9 kpC_len kv i j hi hj]; exact hu)).1
  exact ⟨g, cap, rfl, (blt h1), ⟨key 0 (by decide) _ rfl, key 1 (by decide) _ rfl, key 2 (by decide) _ rfl, key 3 (by decide) _ rfl, key 4 (by decide) _ rfl, key 5 (by decide) _ rfl, key 6 (by decide) _ rfl, key 7 (by decide) _ rfl, key 8 (by decide) _ rfl⟩⟩
theorem KeptsO.len {w : World} {base : Nat} {V : Value} {kv : Ks} (h : KeptsO w base V kv) : ∃ oa cp, V = .slice oa kv.length cp := slice_of_owns h.row
theorem toWrite_any (y0 : Int) (y1 : Tx) (w : World) :
  Calls Tryz.prog 124 #[.agg #[.int .i64 y0, .string y1]] w fun e w' => e = .returned (.agg #[.int .i64 y0, .string y1]) ∧ Below w.heap.size w w' := by
 have hb0 := Below.refl w.heap.size w
 go_enter Tryz.func124, Tryz.ntmps124
 go_upto_region 1 with fail
 obtain ⟨q1, hq1⟩ := exq (w.heap.size)
 obtain ⟨w1, hW1⟩ := exq (w.alloc (.cells #[.int .i64 y0, .string y1] 181))
 have hz1 := hq1.symm
 rw [← hW1]; try rw [← hq1]
 have hs1 := hsa hW1 hz1
 have bw := bal hW1
 have hb1 := hbt hb0 bw
 have B1_1 := hnew hW1 hz1
 clear hb0 bw hW1 hz1
 obtain ⟨q2, hq2⟩ := exq (q1 + 1)
 obtain ⟨w2, hW2⟩ := exq (w1.alloc (.cells #[.int .i64 0, .string ⟨#[]⟩] 183))
 have hz2 : w1.heap.size = q2 := by rw [hq2]; exact hs1
 rw [← hW2]; try rw [← hq2]
 have hs2 := hsa hW2 hz2
 have bw := bal hW2
 have hb2 := hbt hb1 bw
 have B1_2 := hblk B1_1 bw
 have Nv1v2 := hnq B1_1 hz2
 have B2_2 := hnew hW2 hz2
 have Gv2 := hge hz2 hb1
 clear hb1 bw hW2 hz2
 clear hs2 hq2 hs1 hq1
 go_upto_region 2 with fail
 obtain ⟨q3, hq3⟩ := exq (w2.heap.size)
 obtain ⟨w3, hW3⟩ := exq (w2.alloc (.cells #[.int .i64 0, .string ⟨#[]⟩] 183))
 have hz3 := hq3.symm
 rw [← hW3]; try rw [← hq3]
 have hs3 := hsa hW3 hz3
 have bw := bal hW3
 have hb3 := hbt hb2 bw
 have B1_3 := hblk B1_2 bw
 have B2_3 := hblk B2_2 bw
 have Nv1v3 := hnq B1_2 hz3
 have Nv2v3 := hnq B2_2 hz3
 have B3_3 := hnew hW3 hz3
 have Gv3 := hge hz3 hb2
 clear hb2 bw hW3 hz3
 clear hs3 hq3
 have c1_0 := (k2c B1_3).1
 have c3_0 := (k2c B3_3).1
 have f3_0 := hfz B3_3 0
 go_upto_region 3 with fail
 obtain ⟨w4, hW4⟩ := exq (w3.setCell ⟨q3, 0, none⟩ (.int .i64 y0))
 rw [← hW4]
 have hb4 := hbS hW4 hb3 Gv3
 have B1_4 := hset hW4 Nv1v3.out B1_3
 have B2_4 := hset hW4 Nv2v3.out B2_3
 have B3_4 := hput hW4 B3_3
 clear hb3 hW4
 clear c1_0 c3_0 f3_0
 have c1_1 := (k2c B1_4).2
 have c3_1 := (k2c B3_4).2
 have f3_1 := hfz B3_4 1
 go_upto_region 4 with fail
 obtain ⟨w5, hW5⟩ := exq (w4.setCell ⟨q3, 1, none⟩ (.string y1))
 rw [← hW5]
 have hb5 := hbS hW5 hb4 Gv3
 have B1_5 := hset hW5 Nv1v3.out B1_4
 have B2_5 := hset hW5 Nv2v3.out B2_4
 have B3_5 := hput hW5 B3_4
 clear hb4 hW5
 clear c1_1 c3_1 f3_1
 have c2_0 := (k2c B2_5).1
 have f2_0 := hfz B2_5 0
 have c2_1 := (k2c B2_5).2
 have f2_1 := hfz B2_5 1
 have c3_0 := (k2c B3_5).1
 have c3_1 := (k2c B3_5).2
 go_wp2_with fail
 obtain ⟨w6, hW6⟩ := exq (w5.setCell ⟨q2, 0, none⟩ (.int .i64 y0))
 rw [← hW6]
 have hb6 := hbS hW6 hb5 Gv2
 have B1_6 := hset hW6 Nv1v2.out B1_5
 have B3_6 := hset hW6 Nv2v3.out.symm B3_5
 have B2_6 := hput hW6 B2_5
 clear hb5 hW6
 obtain ⟨w7, hW7⟩ := exq (w6.setCell ⟨q2, 1, none⟩ (.string y1))
 rw [← hW7]
 have hb7 := hbS hW7 hb6 Gv2
 have B1_7 := hset hW7 Nv1v2.out B1_6
 have B3_7 := hset hW7 Nv2v3.out.symm B3_6
 have B2_7 := hput hW7 B2_6
 clear hb6 hW7
 have kv2_0 := (k2c B2_7).1
 have kv2_1 := (k2c B2_7).2
 refine bodyPost_ret (v := .agg #[.int .i64 y0, .string y1]) (by simp [results, Tryz.results124, go_sem, kv2_0, kv2_1]) rfl ?_
 exact ⟨rfl, hb7⟩
def SzWrite (L : Int) (y1 : Tx) (w : World) (e : Ending) (w' : World) : Prop := ∃ r : Int, e = .returned (.int .i64 r) ∧ r ≤ L ∧ (0 ≤ r → y1.size ≤ 1048576) ∧ Below w.heap.size w w'
theorem szWrite_any (L : Int) (hL0 : 0 ≤ L) (hL1 : L ≤ 1048576) (y0 : Int) (y1 : Tx) (w : World) (hy1 : y1.size ≤ maxLen) :
  Calls Tryz.prog 111 #[.agg #[.int .i64 y0, .string y1], .int .i64 L] w fun e w' => SzWrite L y1 w e w' := by
 unfold maxLen at hy1
 have hb0 := Below.refl w.heap.size w
 go_enter Tryz.func111, Tryz.ntmps111
 go_upto_region 1 with fail
 obtain ⟨q1, hq1⟩ := exq (w.heap.size)
 obtain ⟨w1, hW1⟩ := exq (w.alloc (.cells #[.int .i64 y0, .string y1] 181))
 have hz1 := hq1.symm
 rw [← hW1]; try rw [← hq1]
 have hs1 := hsa hW1 hz1
 have bw := bal hW1
 have hb1 := hbt hb0 bw
 have B1_1 := hnew hW1 hz1
 clear hb0 bw hW1 hz1
 clear hs1 hq1
 have c1_1 := (k2c B1_1).2
 by_cases hc1 : (L - (y1.size : Int)) < 0
 rotate_left
 ·go_wp2_with fail
  go_ret
  exact ⟨_, rfl, by omega, fun _ => (by omega), hb1⟩
 go_wp2_with fail
 go_ret
 exact ⟨-1, rfl, by omega, fun h => absurd h (by omega), hb1⟩
theorem eqWrite_any (y0 : Int) (y1 : Tx) (w : World) :
  Calls Tryz.prog 144 #[.agg #[.int .i64 y0, .string y1], .agg #[.int .i64 y0, .string y1]] w fun e w' => e = .returned (.bool true) ∧ Below w.heap.size w w' := by
 have hhy0 : (y0 != y0) = false := by simp
 have hhy1 : (y1.toList != y1.toList) = false := by simp
 have hb0 := Below.refl w.heap.size w
 go_enter Tryz.func144, Tryz.ntmps144
 go_upto_region 1 with fail
 obtain ⟨q1, hq1⟩ := exq (w.heap.size)
 obtain ⟨w1, hW1⟩ := exq (w.alloc (.cells #[.int .i64 y0, .string y1] 183))
 have hz1 := hq1.symm
 rw [← hW1]; try rw [← hq1]
 have hs1 := hsa hW1 hz1
 have bw := bal hW1
 have hb1 := hbt hb0 bw
 have B1_1 := hnew hW1 hz1
 clear hb0 bw hW1 hz1
 obtain ⟨q2, hq2⟩ := exq (q1 + 1)
 obtain ⟨w2, hW2⟩ := exq (w1.alloc (.cells #[.int .i64 y0, .string y1] 183))
 have hz2 : w1.heap.size = q2 := by rw [hq2]; exact hs1
 rw [← hW2]; try rw [← hq2]
 have hs2 := hsa hW2 hz2
 have bw := bal hW2
 have hb2 := hbt hb1 bw
 have B1_2 := hblk B1_1 bw
 have B2_2 := hnew hW2 hz2
 clear hb1 bw hW2 hz2
 clear hs2 hq2 hs1 hq1
 have c1_0 := (k2c B1_2).1
 have c2_0 := (k2c B2_2).1
 have c1_1 := (k2c B1_2).2
 have c2_1 := (k2c B2_2).2
 go_wp2_with fail
 go_ret
 exact ⟨rfl, hb2⟩
theorem owns_some {w : World} {base : Nat} {t : TypeId} {size n cap : Nat} {oa : Oa} {xs : List Value} (h : w.ownsRow base t size (.slice oa n cap) n xs) (hn : 0 < n) : ∃ g, oa = some ⟨g, 0, none⟩ := by
 rcases h.2 with ⟨e, h0⟩ | ⟨g, cap', cur, e, _⟩
 · omega
 · cases e; exact ⟨g, rfl⟩
end Go.Proofs.YtpacdigfnneoeaaGreatDoor
