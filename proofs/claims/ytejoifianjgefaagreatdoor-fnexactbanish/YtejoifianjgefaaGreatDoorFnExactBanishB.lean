/- What the proof of FnExactBanish leans on: contracts of the program's and the specification's functions, and plain facts (part 2 of 11). -/
import Derived.Test.YtejoifianjgefaaGreatDoorFnExactBanishA
set_option maxHeartbeats 16000000
set_option maxRecDepth 100000
namespace Go.Proofs.YtejoifianjgefaaGreatDoor
open Go.Proofs.Tryz
open Go.RowKit
open Go.Lib hiding intOf
theorem aE0 {w : World} {B base : Nat} {e : TypeId} {size : Nat} {v : Value} {n : Nat} {xs : List Value} (h : w.ownsRow base e size v n xs) (hB : B ≤ base) : w.ownsRow B e size v n xs := by
 obtain ⟨hl, hv⟩ := h;refine ⟨hl, ?_⟩;rcases hv with h0 | ⟨g, a0, a1, h1, h2, h3⟩
 ·exact .inl h0
 exact .inr ⟨g, a0, a1, h1, Nat.le_trans hB h2, h3⟩
theorem aA7 {w w' : World} {base : Nat} {e : TypeId} {size : Nat} {v : Value} {n : Nat} {xs : List Value} (h : w.ownsRow base e size v n xs) (hs : ∀ j, v.ownBlock = some j → w'.heap[j]? = w.heap[j]?) : w'.ownsRow base e size v n xs := by
 obtain ⟨hl, hv⟩ := h;refine ⟨hl, ?_⟩;rcases hv with h0 | ⟨g, a0, a1, rfl, h2, h3, h4⟩
 ·exact .inl h0
 exact .inr ⟨g, a0, a1, rfl, h2, by rw [hs g rfl]; exact h3, h4⟩
theorem cH9 (fs : Fs) (k : Nat) : ∀ d, szTo fs k ≤ szTo fs (k + d) := by
 intro d;induction d with
 | zero => exact Nat.le_refl _
 | succ d ih => rw [show k + (d + 1) = (k + d) + 1 by omega, szTo]; omega
theorem bN5 (fs : Fs) (n i : Nat) (hi : i < n) : (aC7 fs i).size ≤ szTo fs n ∧ (aH7 fs i).size ≤ szTo fs n := by
 have h := cH9 fs (i + 1) (n - (i + 1));rw [show i + 1 + (n - (i + 1)) = n by omega, szTo] at h;omega
theorem aY3 (b off y : Nat) : (⟨b, off, none⟩ : Addr).add y = ⟨b, off + y, none⟩ := by
 unfold Addr.add; split <;> simp_all
def txt : Value → ByteArray
 | .string s => s
 | _ => ⟨#[]⟩
theorem bC1 (f g : Nat → ByteArray) (n i : Nat) (hi : i < n) : aC7 ((List.range n).map fun j => (f j, g j)) i = f i ∧ aH7 ((List.range n).map fun j => (f j, g j)) i = g i := by
 unfold aC7 aH7;rw [List.getD_eq_getElem?_getD, List.getElem?_map, List.getElem?_range hi];exact ⟨rfl, rfl⟩
theorem cC9 {H : Type} {enc : TypeId × Value → H} {W : World} {fuel : Nat} {a : Oa} {n cap : Nat} {x : DataW H × List MemPlace} (h : DataW.trod enc prog W 0 (fun _ => true) true fuel 30 [.slice a n cap] = some x) :
  ∃ fs, ArgF W W.heap.size a n fs ∧ n ≤ maxLen ∧ ∀ i, i < n → (aC7 fs i).size ≤ maxLen ∧ (aH7 fs i).size ≤ maxLen := by
 rcases Go.Deep.open_slice_pairs underlying30 underlying176 (by kernel_rfl) rfl rfl (by kernel_rfl) (by kernel_rfl) h with ⟨a0, _⟩ | ⟨ad, a8, c, m, q, V0, V1, D0, D1, P0, P1, a0, _, hl, hm, a3, _, hx⟩
 ·simp at a0
  obtain ⟨rfl, rfl, rfl⟩ := a0;exact ⟨[], ⟨rfl, fun i hi => absurd hi (by omega)⟩, Nat.zero_le _, fun i hi => absurd hi (by omega)⟩
 simp at a0
 obtain ⟨rfl, rfl, rfl⟩ := a0;have a9 : m = cap := by simpa using a3
 have a1 : ∀ i, i < n → V0 i = .string (txt (V0 i)) ∧ V1 i = .string (txt (V1 i)) ∧ (txt (V0 i)).size ≤ maxLen ∧ (txt (V1 i)).size ≤ maxLen := fun i hi => by
  obtain ⟨_, _, h3, h4⟩ := hx i (by omega)
  obtain ⟨s, e1, _, e3⟩ := DataW.trod_string underlying9 h3
  obtain ⟨t, f1, _, f3⟩ := DataW.trod_string underlying9 h4
  have a4 : V0 i = .string s := by simpa using e1
  have a5 : V1 i = .string t := by simpa using f1
  rw [a4, a5]
  exact ⟨rfl, rfl, e3, f3⟩
 refine ⟨(List.range n).map fun j => (txt (V0 j), txt (V1 j)), ⟨by simp, fun i hi => ?_⟩, by omega, fun i hi => ?_⟩
 ·obtain ⟨c1, c2, _, _⟩ := hx i (by omega);obtain ⟨c3, _, _, _⟩ := hx 0 (by omega)
  have a2 : ad.spot = none := by
   have := World.cell?_spot c3
   simpa [Addr.add] using this
  obtain ⟨b, a6, sp⟩ := ad;simp only at a2
  subst a2;rw [aY3] at c1 c2;obtain ⟨v0, v1, _, _⟩ := a1 i hi;obtain ⟨r0, r1⟩ := bC1 (fun j => txt (V0 j)) (fun j => txt (V1 j)) n i hi
  rw [r0, r1];have a7 := World.block_lt_of_cell? W _ c1;rw [v0] at c1;rw [v1] at c2;exact ⟨b, a6, rfl, a7, c1, c2⟩
 obtain ⟨r0, r1⟩ := bC1 (fun j => txt (V0 j)) (fun j => txt (V1 j)) n i hi
 rw [r0, r1];exact (a1 i hi).2.2
structure Rw where
 T : TypeId
 z : Nat
 v : Value
 n : Nat
 c : List Value
def Rw.own (r : Rw) (w : World) (base : Nat) : Prop := w.ownsRow base r.T r.z r.v r.n r.c
def Rw.ne (a b : Rw) : Prop := ∀ g, a.v.ownBlock = some g → b.v.ownBlock ≠ some g
theorem Rw.ne.symm {a b : Rw} (h : a.ne b) : b.ne a := fun g h1 h2 => h g h2 h1
structure aA2 (w : World) (base : Nat) (rs : List Rw) : Prop where
 own : ∀ r ∈ rs, r.own w base
 apart : rs.Pairwise Rw.ne
theorem jrs {W W' : World} {base q : Nat} {rs : List Rw} {cs : List Value} {T : TypeId} (vs : List (Nat × Value)) (h : aA2 W base rs) (hW : W' = jW W q vs) (hb : W.heap[q]? = some (.cells cs.toArray T)) (hT : ∀ r ∈ rs, T ≠ r.T) : aA2 W' base rs :=
  ⟨fun r hr => jos (h.own r hr) (fun g hg => by
    rw [hW]
    refine jwo q g (fun e => ?_) vs W
    obtain ⟨_, _, cur, hh⟩ := jol (h.own r hr) g hg
    rw [e, hb] at hh
    injection hh with h3
    injection h3 with _ h4
    exact hT r hr h4), h.apart⟩
theorem aA2.nil (w : World) (base : Nat) : aA2 w base [] := ⟨by simp, List.Pairwise.nil⟩
theorem aA2.one {w : World} {base : Nat} {r : Rw} (h : r.own w base) : aA2 w base [r] := ⟨fun x hx => by rw [List.mem_singleton.1 hx]; exact h, List.pairwise_singleton _ _⟩
theorem aA2.ge {w : World} {base : Nat} {rs : List Rw} (h : aA2 w base rs) {r : Rw} (hr : r ∈ rs) {g : Nat} (hg : r.v.ownBlock = some g) : base ≤ g := aB7 (h.own r hr) hg
theorem aA2.lt {w : World} {base : Nat} {rs : List Rw} (h : aA2 w base rs) {r : Rw} (hr : r ∈ rs) {g : Nat} (hg : r.v.ownBlock = some g) : g < w.heap.size := aA6 (h.own r hr) hg
theorem aA2.same {w w' : World} {base : Nat} {rs : List Rw} (h : aA2 w base rs) (hs : ∀ r ∈ rs, ∀ g, r.v.ownBlock = some g → w'.heap[g]? = w.heap[g]?) : aA2 w' base rs :=
 ⟨fun r hr => aA7 (h.own r hr) (hs r hr), h.apart⟩
theorem aA2.below {w w' : World} {base : Nat} {rs : List Rw} (h : aA2 w base rs) (hb : Below w.heap.size w w') : aA2 w' base rs := h.same (fun _ hr g hg => hb.block g (h.lt hr hg))
theorem aA2.wide {w : World} {B base : Nat} {rs : List Rw} (h : aA2 w base rs) (hB : B ≤ base) : aA2 w B rs := ⟨fun r hr => aE0 (h.own r hr) hB, h.apart⟩
theorem aA2.sub {w : World} {base : Nat} {rs rs' : List Rw} (h : aA2 w base rs) (hs : List.Sublist rs' rs) : aA2 w base rs' := ⟨fun r hr => h.own r (hs.subset hr), h.apart.sublist hs⟩
theorem aA2.perm {w : World} {base : Nat} {rs rs' : List Rw} (h : aA2 w base rs) (hp : List.Perm rs rs') : aA2 w base rs' :=
 ⟨fun r hr => h.own r (hp.mem_iff.2 hr), (hp.pairwise_iff (fun hab => Rw.ne.symm hab)).1 h.apart⟩
theorem aA2.more {w w' : World} {base B : Nat} {rs rs' : List Rw} (h : aA2 w base rs) (hb : Below w.heap.size w w') (h' : aA2 w' B rs') (hB : w.heap.size ≤ B) (hB2 : base ≤ B) : aA2 w' base (rs ++ rs') := by
 have h2 := h.below hb;refine ⟨fun r hr => ?_, List.pairwise_append.2 ⟨h2.apart, h'.apart, fun a ha b hb g a0 a1 => ?_⟩⟩
 ·rcases List.mem_append.1 hr with hr | hr
  ·exact h2.own r hr
  exact aE0 (h'.own r hr) hB2
 have e1 := h.lt ha a0;have e2 := h'.ge hb a1;omega
theorem aA2.turn {w w' : World} {base : Nat} {pre post : List Rw} {r r' : Rw} (h : aA2 w base (pre ++ r :: post)) (hv : r'.v = r.v) (h' : r'.own w' base) (hs : ∀ g, g < w.heap.size → r.v.ownBlock ≠ some g → w'.heap[g]? = w.heap[g]?) : aA2 w' base (pre ++ r' :: post) := by
 have hp := h.apart;rw [List.pairwise_append, List.pairwise_cons] at hp;obtain ⟨p1, ⟨p2, p3⟩, p4⟩ := hp;have a0 : ∀ x, x ∈ pre ++ r :: post → x.ne r → x.own w' base := fun x hx a1 => aA7 (h.own x hx) (fun g hg => hs g (h.lt hx hg) (a1 g hg))
 refine ⟨fun x hx => ?_, ?_⟩
 ·rcases List.mem_append.1 hx with hx | hx
  ·exact a0 x (List.mem_append.2 (.inl hx)) (p4 x hx r (by simp))
  rcases List.mem_cons.1 hx with hx | hx
  ·rw [hx]; exact h'
  exact a0 x (by simp [hx]) (p2 x hx).symm
 rw [List.pairwise_append, List.pairwise_cons];refine ⟨p1, ⟨fun b hb => ?_, p3⟩, fun a ha b hb => ?_⟩
 ·unfold Rw.ne;rw [hv];exact p2 b hb
 rcases List.mem_cons.1 hb with hb | hb
 ·rw [hb];unfold Rw.ne;rw [hv];exact p4 a ha r (by simp)
 exact p4 a ha b (by simp [hb])
theorem aA2.grow {w w' : World} {base : Nat} {pre post : List Rw} {r r' : Rw} (h : aA2 w base (pre ++ r :: post)) (hg : w.grownBy w' r.v.ownBlock) (h' : r'.own w' base) (hv : ∀ g, r'.v.ownBlock = some g → r.v.ownBlock = some g ∨ w.heap.size ≤ g) : aA2 w' base (pre ++ r' :: post) := by
 have hp := h.apart;rw [List.pairwise_append, List.pairwise_cons] at hp;obtain ⟨p1, ⟨p2, p3⟩, p4⟩ := hp;have a0 : ∀ x, x ∈ pre ++ r :: post → x.ne r → x.own w' base := fun x hx a1 => aA7 (h.own x hx) (fun g a2 => hg.block g (h.lt hx a2) (fun e => a1 g a2 e.symm))
 have a3 : ∀ x, x ∈ pre ++ r :: post → x.ne r → x.ne r' := fun x hx a1 g h1 h2 => by
  rcases hv g h2 with h3 | h3
  ·exact a1 g h1 h3
  ·have := h.lt hx h1
   omega
 refine ⟨fun x hx => ?_, ?_⟩
 ·rcases List.mem_append.1 hx with hx | hx
  ·exact a0 x (List.mem_append.2 (.inl hx)) (p4 x hx r (by simp))
  rcases List.mem_cons.1 hx with hx | hx
  ·rw [hx]; exact h'
  exact a0 x (by simp [hx]) (p2 x hx).symm
 rw [List.pairwise_append, List.pairwise_cons];refine ⟨p1, ⟨fun b hb => (a3 b (by simp [hb]) (p2 b hb).symm).symm, p3⟩, fun a ha b hb => ?_⟩
 rcases List.mem_cons.1 hb with hb | hb
 ·rw [hb];exact a3 a (List.mem_append.2 (.inl ha)) (p4 a ha r (by simp))
 exact p4 a ha b (by simp [hb])
theorem aO5 {α : Type} (enc : α → List Value) (z : Nat) (hz : ∀ x, (enc x).length = z) : ∀ l : List α, (l.flatMap enc).length = l.length * z
 | [] => by simp
 | x :: l => by rw [List.flatMap_cons, List.length_append, hz, aO5 enc z hz l, List.length_cons, Nat.succ_mul]; omega
theorem cI0 {α : Type} (enc : α → List Value) (l : List α) (i : Nat) (hi : i < l.length) : l.flatMap enc = (l.take i).flatMap enc ++ (enc (l[i]'hi) ++ (l.drop (i + 1)).flatMap enc) := by
 have e : l = l.take i ++ (l[i]'hi) :: l.drop (i + 1) := by rw [List.getElem_cons_drop, List.take_append_drop]
 conv => lhs; rw [e]
 rw [List.flatMap_append, List.flatMap_cons]
theorem bD6 {α : Type} (enc : α → List Value) (z : Nat) (hz : ∀ x, (enc x).length = z) (l : List α) (i j : Nat) (hi : i < l.length) (hj : j < z) : (l.flatMap enc)[i * z + j]? = (enc (l[i]'hi))[j]? := by
 rw [cI0 enc l i hi];have e : ((l.take i).flatMap enc).length = i * z := by rw [aO5 enc z hz, List.length_take, Nat.min_eq_left (Nat.le_of_lt hi)]
 rw [List.getElem?_append_right (by omega), e, Nat.add_sub_cancel_left, List.getElem?_append_left (by rw [hz]; exact hj)]
def setW (w : World) (g : Nat) : Nat → List Value → World
 | _, [] => w
 | o, v :: r => setW (w.setCell ⟨g, o, none⟩ v) g (o + 1) r
def setA (cur : Array Value) : Nat → List Value → Array Value
 | _, [] => cur
 | o, v :: r => setA (cur.setIfInBounds o v) (o + 1) r
theorem bR1 : ∀ (l : List Value) (cur : Array Value) (o : Nat), (setA cur o l).size = cur.size
 | [], _, _ => rfl
 | v :: r, cur, o => by rw [setA, bR1 r]; simp
theorem bN6 : ∀ (l : List Value) (cur : Array Value) (o m : Nat), (m < o ∨ o + l.length ≤ m) → (setA cur o l)[m]? = cur[m]?
 | [], _, _, _, _ => rfl
 | v :: r, cur, o, m, h => by
  rw [List.length_cons] at h
  rw [setA, bN6 r _ (o + 1) m (by omega), Array.getElem?_setIfInBounds_ne (by omega)]
theorem cI1 : ∀ (l : List Value) (cur : Array Value) (o j : Nat), j < l.length → o + l.length ≤ cur.size → (setA cur o l)[o + j]? = l[j]?
 | [], _, _, j, h, _ => absurd h (by simp)
 | v :: r, cur, o, 0, _, hs => by
  rw [List.length_cons] at hs
  rw [setA, bN6 r _ (o + 1) (o + 0) (by omega), Nat.add_zero, Array.getElem?_setIfInBounds_self_of_lt (by omega)]
  rfl
 | v :: r, cur, o, j + 1, h, hs => by
  rw [List.length_cons] at h hs
  rw [setA, show o + (j + 1) = (o + 1) + j by omega, cI1 r _ (o + 1) j (by omega) (by simp; omega)]
  rfl
theorem bR2 (g : Nat) (T : TypeId) : ∀ (l : List Value) (w : World) (o : Nat) (cur : Array Value), w.heap[g]? = some (.cells cur T (0, 0)) → (setW w g o l).heap[g]? = some (.cells (setA cur o l) T (0, 0))
 | [], _, _, _, h => h
 | v :: r, w, o, cur, h => bR2 g T r _ (o + 1) _ (aD0 w g o cur T (0, 0) v h)
theorem aW1 (g g' : Nat) (hne : g' ≠ g) : ∀ (l : List Value) (w : World) (o : Nat), (setW w g o l).heap[g']? = w.heap[g']?
 | [], _, _ => rfl
 | v :: r, w, o => by rw [setW, aW1 g g' hne r, heap_setCell_other _ _ _ _ hne]
theorem bA4 {base g : Nat} (hg : base ≤ g) : ∀ (l : List Value) (w w' : World) (o : Nat), Below base w w' → Below base w (setW w' g o l)
 | [], _, _, _, h => h
 | v :: r, w, _, o, h => bA4 hg r w _ (o + 1) (h.setCell (p := ⟨g, o, none⟩) hg v)
def aJ7 {α : Type} (enc : α → List Value) (z : Nat) (T : TypeId) (w : World) (g n : Nat) (l : List α) : Prop :=
 ∃ cur, w.heap[g]? = some (.cells cur T (0, 0)) ∧ cur.size = n * z ∧ ∀ i (hi : i < l.length) (j : Nat), j < z → cur[i * z + j]? = (enc (l[i]'hi))[j]?
theorem aJ7.lt {α : Type} {enc : α → List Value} {z : Nat} {T : TypeId} {w : World} {g n : Nat} {l : List α} (h : aJ7 enc z T w g n l) : g < w.heap.size := by
 obtain ⟨a0, h1, _⟩ := h;exact (blt h1)
theorem aJ7.below {α : Type} {enc : α → List Value} {z : Nat} {T : TypeId} {w w' : World} {g n : Nat} {l : List α} (h : aJ7 enc z T w g n l) (hb : Below w.heap.size w w') : aJ7 enc z T w' g n l := by
 have hl := h.lt;obtain ⟨a0, h1, h2⟩ := h;exact ⟨a0, (hb.block g hl).trans h1, h2⟩
theorem aJ7.cell {α : Type} {enc : α → List Value} {z : Nat} {T : TypeId} {w : World} {g n : Nat} {l : List α} (h : aJ7 enc z T w g n l) (j : Nat) (hj : j < n * z) : ∃ u, w.cell? ⟨g, j, none⟩ = some u := by
 obtain ⟨a0, h1, h2, _⟩ := h;refine ⟨a0[j]'(by omega), ?_⟩;simp only [World.cell?, h1]
 simp [show j < a0.size by omega]
theorem aJ7.frozen {α : Type} {enc : α → List Value} {z : Nat} {T : TypeId} {w : World} {g n : Nat} {l : List α} (h : aJ7 enc z T w g n l) (j : Nat) : w.frozen? ⟨g, j, none⟩ = false := by
 obtain ⟨a0, h1, _⟩ := h;simp [World.frozen?, h1]
theorem aJ7.put {α : Type} {enc : α → List Value} {z : Nat} {T : TypeId} {w : World} {g n : Nat} {l : List α} (hz : ∀ x, (enc x).length = z) (h : aJ7 enc z T w g n l) (x : α) (hk : l.length < n) : aJ7 enc z T (setW w g (l.length * z) (enc x)) g n (l ++ [x]) := by
 obtain ⟨a1, h1, h2, h3⟩ := h;have hm : (l.length + 1) * z ≤ n * z := Nat.mul_le_mul_right z hk;rw [Nat.add_mul, Nat.one_mul] at hm;refine ⟨_, bR2 g T _ w _ a1 h1, by rw [bR1]; exact h2, fun i hi j hj => ?_⟩
 rw [List.length_append, List.length_singleton] at hi;by_cases e : i = l.length
 ·subst e;rw [cI1 _ _ _ _ (by rw [hz]; exact hj) (by rw [hz, h2]; exact hm)];simp
 have a0 : i < l.length := by omega
 have a2 : (i + 1) * z ≤ l.length * z := Nat.mul_le_mul_right z a0;rw [Nat.add_mul, Nat.one_mul] at a2;rw [bN6 _ _ _ _ (.inl (by omega)), h3 i a0 j hj, List.getElem_append_left a0]
theorem aJ7.owns {α : Type} {enc : α → List Value} {z : Nat} {T : TypeId} {w : World} {g n : Nat} {l : List α} (hz : ∀ x, (enc x).length = z) (hz0 : 0 < z) (h : aJ7 enc z T w g n l) (hl : l.length = n) (hm : n ≤ maxLen) {base : Nat} (hb : base ≤ g) : w.ownsRow base T z (.slice (some ⟨g, 0, none⟩) n n) n (l.flatMap enc) := by
 obtain ⟨a1, hg, hs, hc⟩ := h;have a2 : (l.flatMap enc).length = n * z := by rw [aO5 enc z hz, hl]
 refine ⟨a2, .inr ⟨g, n, a1, rfl, hb, hg, Nat.le_refl _, hm, hs, ?_⟩⟩;apply List.ext_getElem?
 intro j;rw [List.getElem?_take];by_cases hj : j < n * z
 rotate_left
 ·rw [if_neg hj, List.getElem?_eq_none (by omega)]
 rw [if_pos hj];have hd : j / z < l.length := by rw [hl]; exact Nat.div_lt_of_lt_mul (by rw [Nat.mul_comm]; exact hj)
 have a0 : j % z < z := Nat.mod_lt _ hz0;have e : j / z * z + j % z = j := by rw [Nat.mul_comm]; exact Nat.div_add_mod j z
 have h1 := bD6 enc z hz l (j / z) (j % z) hd a0;have h2 := hc (j / z) hd (j % z) a0;rw [e] at h1 h2;rw [h1, ← h2];simp
end Go.Proofs.YtejoifianjgefaaGreatDoor
namespace Go.Proofs.YtejoifianjgefaaGreatDoor
open Go.Proofs.Tryz
open Go.RowKit
def aS6 (n : Int) : Prop := 33 ≤ n ∧ n ≤ 126
def aH2 (s : Tx) : Prop := AllB aS6 s ∧ 1 ≤ s.size ∧ s.size ≤ 60 ∧ ∃ h : 0 < s.size, (s[0]'h).toNat = 47
def aX7 (st : Int) (fs : Fs) (body : Tx) : Prop := (100 ≤ st ∧ st ≤ 599) ∧ aM4 fs ∧ body.size ≤ 120
def bs (s : Tx) : List UInt8 := s.data.toList
theorem cI2 {a b : ByteArray} (h : bs a = bs b) : a = b := by
 apply ByteArray.ext
 exact Array.toList_inj.1 h
theorem aU9 (a : Tx) : (bs a).length = a.size := by simp [bs]
end Go.Proofs.YtejoifianjgefaaGreatDoor
namespace Go.Proofs.YtejoifianjgefaaGreatDoor
open Go.Proofs.Tryz
open Go.RowKit
open Go.Lib hiding intOf
theorem bA5 (s : Tx) (w : World) (hs : s.size ≤ maxLen) :
    Calls prog 93 #[.string s] w fun e w' => aA4 (aH2 s) w e w' := by
  unfold maxLen at hs;go_enter func93, ntmps93;go_wp2
  go_loop [3] (fun i => ∃ k : Nat, k ≤ s.size ∧ i = .int .i64 k ∧ Hid (bJ0 aS6 s k)) (fun i => s.size - (intOf i).toNat)
  case atStart => exact ⟨0, Nat.zero_le _, rfl, aN7 _ _⟩
  case round =>
    obtain ⟨k, hk, rfl, a0⟩ := hrel;by_cases hlt : k < s.size
    ·go_wp2
     all_goals first
       | (go_ret
          have a2 : ¬ aS6 ((s[k]'hlt).toNat : Int) := by
            unfold aS6
            omega
          exact aA4.no (fun h => a2 (h.1 k hlt)) (Below.refl _ _))
       | (go_round
          case rel =>
            have hy : aS6 ((s[k]'hlt).toNat : Int) := by
              unfold aS6
              omega
            exact ⟨k + 1, by omega, by go_num, aN8 a0.out hlt hy⟩
          case measure => simp [intOf]; omega)
    have a1 : Hid (AllB aS6 s) := aR0 a0.out hlt;by_cases h1 : (1 : Int) ≤ (s.size : Int)
    rotate_left
    ·go_wp2
     go_ret;exact aA4.no (fun h => by obtain ⟨_, h5, _⟩ := h; omega) (Below.refl _ _)
    have h0 : 0 < s.size := by omega
    by_cases h2 : (s.size : Int) ≤ 60
    rotate_left
    ·go_wp2
     go_ret;exact aA4.no (fun h => by obtain ⟨_, _, h5, _⟩ := h; omega) (Below.refl _ _)
    by_cases h3 : ((s[0]'h0).toNat : Int) = 47
    ·go_wp2
     go_ret;exact aA4.yes ⟨a1.out, by omega, by omega, h0, by omega⟩ (Below.refl _ _)
    have h4 : (((s[0]'h0).toNat : Int) == 47) = false := by rw [beq_eq_false_iff_ne]; exact h3
    go_wp2
    go_ret;exact aA4.no (fun h => by obtain ⟨_, _, _, _, h5⟩ := h; omega) (Below.refl _ _)
def aP6 (n : Nat) (fs : Fs) : Prop := ∀ i, i < n → (aC7 fs i).size ≤ maxLen ∧ (aH7 fs i).size ≤ maxLen
theorem bD7 {w W : World} {o : Obj} (h : Below (w.alloc o).heap.size (w.alloc o) W) : W.heap[w.heap.size]? = some o := by
 rw [h.block _ (by simp)]; exact heap_alloc_new w _
theorem aJ8 {w W : World} {o : Obj} (h : Below (w.alloc o).heap.size (w.alloc o) W) : Below w.heap.size w W :=
 ((Below.refl _ w).alloc (Nat.le_refl _) o).trans (h.mono (by simp))
theorem aH6 (x lo hi : Int) (w : World) :
  Calls prog 87 #[.int .i64 x, .int .i64 lo, .int .i64 hi] w fun e w' => e = .returned (.bool (decide (lo ≤ x ∧ x ≤ hi))) ∧ w' = w := by
 by_cases h1 : lo ≤ x
 rotate_left
 ·go_enter func87, ntmps87;go_wp2
  go_ret;exact ⟨by simp; omega, rfl⟩
 by_cases h2 : x ≤ hi
 rotate_left
 ·go_enter func87, ntmps87;go_wp2
  go_ret;exact ⟨by simp [h2], rfl⟩
 go_enter func87, ntmps87;go_wp2
 go_ret;exact ⟨by simp [h1, h2], rfl⟩
theorem bJ1 (st : Int) (v : Value) (b : Tx) (n base : Nat) (fs : Fs) (w : World) (hv : aB3 w base v n fs) (hn : n ≤ 1073741824) (hsz : aP6 n fs) (hb : b.size ≤ maxLen) :
  Calls prog 92 #[.agg #[.int .i64 st, v, .string b]] w fun e w' => aA4 (aX7 st fs b) w e w' := by
 obtain ⟨oa, a1, rfl, _⟩ := hv.slice;obtain ⟨r, hr⟩ := exq (w.heap.size)
 have HR : Hid (∀ W, Below (w.alloc (.cells #[.int .i64 st, .slice oa n a1, .string b] 49)).heap.size (w.alloc (.cells #[.int .i64 st, .slice oa n a1, .string b] 49)) W → (W.cell? ⟨r, 1, none⟩ = some (.slice oa n a1) ∧ W.cell? ⟨r, 2, none⟩ = some (.string b)) ∧ aB3 W base (.slice oa n a1) n fs ∧ Bw w W) := fun W h => by
  have hh := bD7 h
  rw [← hr] at hh
  exact ⟨⟨by simp [World.cell?, hh], by simp [World.cell?, hh]⟩, hv.below (aJ8 h), aJ8 h⟩
 have a8 := hid hsz;unfold maxLen at hb;clear hv hsz;go_enter func92, ntmps92;go_wp2_with fail
 refine (aH6 st 100 599 _).mono ?_;rintro e w1 ⟨rfl, a5⟩;have a3 : Below (w.alloc (.cells #[.int .i64 st, .slice oa n a1, .string b] 49)).heap.size (w.alloc (.cells #[.int .i64 st, .slice oa n a1, .string b] 49)) w1 := by rw [a5]; exact Below.refl _ _
 clear a5;rw [← hr];obtain ⟨⟨c2, c3⟩, a6, a2⟩ := HR.out w1 a3;have a9 := hid a6;clear a6;by_cases hm : 100 ≤ st ∧ st ≤ 599
 rotate_left
 ·have e1 : decide (100 ≤ st ∧ st ≤ 599) = false := by simpa using hm
  have HF : Hid (¬ aX7 st fs b) := fun h => hm h.1
  rw [e1];clear hr hm e1;go_wp2_with fail
  go_ret;exact aA4.no HF.out a2
 have e1 : decide (100 ≤ st ∧ st ≤ 599) = true := by simpa using hm
 have HM := hid hm;rw [e1];clear hr hm e1;go_wp2_with fail
 refine (bD0 _ n base fs _ a9.out hn a8.out).mono ?_;rintro e w3 ⟨b2, rfl, a4, a7⟩;have b0 := a3.trans (a7.mono a3.size);clear c2 c3 a7 a3 a2;obtain ⟨⟨c2, c3⟩, _, a0⟩ := HR.out w3 b0;cases b2
 ·have HF : Hid (¬ aX7 st fs b) := fun h => by have := a4.2 h.2.1; cases this
  clear a4;go_wp2_with fail
  go_ret;exact aA4.no HF.out a0
 have b1 : Hid (aM4 fs) := a4.1 rfl;clear a4;by_cases h120 : (b.size : Int) ≤ 120
 ·have HY : Hid (aX7 st fs b) := ⟨HM.out, b1.out, by omega⟩;go_wp2_with fail
  go_ret;exact aA4.yes HY.out a0
 have HF : Hid (¬ aX7 st fs b) := fun h => by have := h.2.2; omega
 have hd : decide ((b.size : Int) ≤ 120) = false := by simpa using h120
 go_wp2_with fail
 go_ret;exact aA4.no HF.out a0
theorem cI3 : ∀ (f n : Nat), (dgF f n).length ≤ f
 | 0, n => by simp [dgF]
 | f + 1, n => by
  by_cases h : n = 0
  · rw [h, bD5]; simp
  ·rw [bM4 f n h]
   have := cI3 f (n / 10)
   simp; omega
theorem aV0 (n : Nat) : (aI6 n).size ≤ 8 := by
 have : (aI6 n).size = (numL n).length := by simp [aI6, ByteArray.size]
 rw [this];unfold numL;split
 ·simp
 split
 ·simp
 exact cI3 8 n
theorem bA6 {b : ByteArray} (h : b.size = 0) : b = ⟨#[]⟩ := by
 apply ByteArray.ext
 exact Array.eq_empty_of_size_eq_zero h
def cO7 (p : Prop) (t : Tx) (w : World) (e : Ending) (w' : World) : Prop := ∃ u : ByteArray, e = .returned (.string u) ∧ (p → u = t) ∧ (¬ p → u = ⟨#[]⟩) ∧ Below w.heap.size w w'
end Go.Proofs.YtejoifianjgefaaGreatDoor
namespace Go.Proofs.YtejoifianjgefaaGreatDoor
open Go.Proofs.Tryz
open Go.RowKit
theorem bA7 (s : Tx) (f j : Nat) : bs (s.extract f j) = ((bs s).take j).drop f := by
 simp [bs, List.drop_take]
end Go.Proofs.YtejoifianjgefaaGreatDoor
namespace Go.Proofs.YtejoifianjgefaaGreatDoor
open Go.Proofs.Tryz
open Go.RowKit
open Go.Lib hiding intOf
theorem cM5 (a b : Tx) : ∀ u ∈ [Value.string a, Value.string b], u.oneCell' = true := by
 intro u hu;simp at hu
 rcases hu with rfl | rfl <;> rfl
def RowF (fs : Fs) (w : World) (e : Ending) (w' : World) : Prop :=
 ∃ v, e = .returned v ∧ w'.ownsRow w.heap.size 184 2 v fs.length (aF3 fs) ∧ Below w.heap.size w w'
theorem aD9.cells {base : Nat} {w : World} {g n cap : Nat} {fs : Fs} (h : aD9 base w g n cap fs) : ∀ j u, (aF3 fs)[j]? = some u → w.cell? ((⟨g, 0, none⟩ : Addr).add j) = some u := by
 intro j u hj;have hl := h.len
 have a0 : j < fs.length * 2 := by
  rw [← aR1]
  exact (List.getElem?_eq_some_iff.1 hj).1
 have e0 : (⟨g, 0, none⟩ : Addr).add j = ⟨g, j, none⟩ := by
  unfold Addr.add; split <;> simp_all
 rw [e0];have hf := aY0 fs (j / 2) (by omega);rcases Nat.mod_two_eq_zero_or_one j with e | e
 ·have e2 : j / 2 * 2 = j := by omega
  have hc := h.name (j / 2) (by omega);rw [e2] at hf hc;rw [hf.1] at hj;cases hj
  exact hc
 have e2 : j / 2 * 2 + 1 = j := by omega
 have hc := h.val (j / 2) (by omega);rw [e2] at hf hc;rw [hf.2] at hj;cases hj
 exact hc
theorem cM6 (fs : Fs) : ∀ u ∈ aF3 fs, u.oneCell' = true := by
 intro u hu;simp only [aF3, List.mem_flatMap] at hu
 obtain ⟨f, _, hf⟩ := hu;exact cM5 f.1 f.2 u hf
theorem aB3.src {w : World} {base n : Nat} {v : Value} {fs : Fs} (h : aB3 w base v n fs) :
  (v = .slice none 0 0 ∧ n = 0 ∧ fs = []) ∨ ∃ ad cap, v = .slice (some ad) n cap ∧ ∀ j u, (aF3 fs)[j]? = some u → w.cell? (ad.add j) = some u := by
 rcases h with ⟨oa, cap, rfl, h0, rfl, rfl⟩ | ⟨g, cap, rfl, _, a0⟩
 ·cases oa with
  | none => exact .inl ⟨by rw [h0 rfl], rfl, rfl⟩
  | some ad => exact .inr ⟨ad, cap, rfl, fun j u hj => by simp [aF3] at hj⟩
 exact .inr ⟨_, cap, rfl, a0.cells⟩
theorem aA0 {w : World} {base : Nat} {t : TypeId} {size : Nat} {v : Value} {n : Nat} {xs : List Value} (h : w.ownsRow base t size v n xs) : ∃ oa cp, v = .slice oa n cp := by
 rcases h.2 with ⟨rfl, rfl⟩ | ⟨g, a0, a1, rfl, _⟩
 ·exact ⟨none, 0, rfl⟩
 exact ⟨_, a0, rfl⟩
theorem aF5 {w w' : World} (hb : Below w.heap.size w w') (row : Option Nat) : w.grownBy w' row := ⟨hb.os, hb.tape, hb.output, hb.size, fun k hk _ => hb.block k hk⟩
theorem aH4 {a w w' : World} {row : Option Nat} (h : a.grownBy w row) (k : w.grownBy w' row) : a.grownBy w' row :=
 ⟨k.os.trans h.os, k.tape.trans h.tape, k.output.trans h.output, Nat.le_trans h.size k.size, fun i hi hne => (k.block i (Nat.lt_of_lt_of_le hi h.size) hne).trans (h.block i hi hne)⟩
theorem cI4 {w : World} {base : Nat} {t : TypeId} {size g n cap : Nat} {xs : List Value} (h : w.ownsRow base t size (.slice (some ⟨g, 0, none⟩) n cap) n xs) (o : Nat) (u : Value) : (w.setCell ⟨g, o, none⟩ u).ownsRow base t size (.slice (some ⟨g, 0, none⟩) n cap) n (xs.set o u) := by
 obtain ⟨hl, hv⟩ := h;refine ⟨by simpa using hl, ?_⟩;rcases hv with ⟨e, _⟩ | ⟨g', a0, a1, e, h1, h2, h3, h4, h5, h6⟩
 ·cases e
 cases e
 refine .inr ⟨g, cap, _, rfl, h1, aD0 w g o a1 t (0, 0) u h2, h3, h4, by simpa using h5, ?_⟩;rw [Array.toList_setIfInBounds, List.take_set, h6]
theorem aW2 {w : World} {base : Nat} {t : TypeId} {size g n cap : Nat} {xs : List Value} (h : w.ownsRow base t size (.slice (some ⟨g, 0, none⟩) n cap) n xs) (o : Nat) (u : Value) (ho : xs[o]? = some u) : w.cell? ⟨g, o, none⟩ = some u ∧ w.frozen? ⟨g, o, none⟩ = false := by
 obtain ⟨hl, hv⟩ := h;rcases hv with ⟨e, _⟩ | ⟨g', a0, a1, e, h1, h2, h3, h4, h5, h6⟩
 ·cases e
 cases e
 refine ⟨?_, by simp [World.frozen?, h2]⟩;rw [← h6, List.getElem?_take] at ho;split at ho
 ·simpa [World.cell?, h2] using ho
 cases ho
theorem aH5 {w : World} {base : Nat} {t : TypeId} {size : Nat} {v : Value} {n : Nat} {xs : List Value} {j : Nat} {cs : Array Value} {T : TypeId} {fr : Nat × Nat} (h : w.ownsRow base t size v n xs) (hT : T ≠ t) (hj : w.heap[j]? = some (.cells cs T fr)) : v.ownBlock ≠ some j := by
 intro e;rcases h.2 with ⟨rfl, _⟩ | ⟨g, a0, a1, rfl, _, h1, _⟩
 ·cases e
 cases e
 rw [h1] at hj;cases hj
 exact hT rfl
theorem cD0 {w : World} {base : Nat} {t : TypeId} {size : Nat} {v : Value} {n : Nat} {xs : List Value} {j : Nat} (h : w.ownsRow base t size v n xs) (hj : v.ownBlock = some j) : ∃ cur, w.heap[j]? = some (.cells cur t (0, 0)) := by
 rcases h.2 with ⟨rfl, _⟩ | ⟨g, a0, cur, rfl, h0, h1, _⟩
 ·cases hj
 cases hj
 exact ⟨cur, h1⟩
theorem bA8 {w : World} {b1 b2 : Nat} {t1 t2 : TypeId} {s1 s2 : Nat} {v1 v2 : Value} {n1 n2 : Nat} {x1 x2 : List Value} {j : Nat} (h1 : w.ownsRow b1 t1 s1 v1 n1 x1) (h2 : w.ownsRow b2 t2 s2 v2 n2 x2) (hT : t1 ≠ t2) (hj : v1.ownBlock = some j) : v2.ownBlock ≠ some j := by
 obtain ⟨a0, hc⟩ := cD0 h1 hj;exact aH5 h2 hT hc
def aE7 (n : Int) : ByteArray := if n < 0 then ⟨#[]⟩ else aI6 n.toNat
theorem aX0 : Lib.decDigits 0 = [48] := by rw [Lib.decDigits, dif_pos (by omega)]; rfl
theorem cO8 : ∀ (f n : Nat), n < 10 ^ f → n ≠ 0 → dgF f n = Lib.decDigits n := by
 intro f;induction f with
 | zero => intro n h h0; simp at h; omega
 | succ f ih =>
  intro n h h0
  rw [bM4 f n h0]
  rw [Nat.pow_succ] at h
  by_cases hs : n < 10
  rotate_left
  ·rw [Lib.decDigits, dif_neg hs, ih (n / 10) (by omega) (by omega)]
  rw [Lib.decDigits, dif_pos hs]
  have e1 : n / 10 = 0 := by omega
  have e2 : n % 10 = n := by omega
  rw [e1, bD5, e2]; rfl
theorem cM7 (n : Int) (h0 : 0 ≤ n) (h1 : n ≤ 1000000) : (⟨(Lib.itoa n).toArray⟩ : Tx) = aE7 n := by
 unfold aE7;rw [if_neg (by omega)];unfold aI6 numL Lib.itoa;rw [if_neg (by omega), if_neg (by omega)];by_cases h : n.toNat = 0
 ·rw [if_pos h, h, aX0]
 rw [if_neg h, cO8 8 n.toNat (by omega) h]
def aL2 (w : World) : Prop := Lib.TabIs prog w "internal/strconv.uint64pow10" .u64 Lib.pow10Tab
theorem gTab : prog.globalNamed "internal/strconv.uint64pow10" = some 1 := by kernel_rfl
theorem aL2.lt {w : World} (h : aL2 w) : 1 < w.heap.size := by
 unfold aL2 Lib.TabIs World.var? at h;rw [gTab] at h;rcases Nat.lt_or_ge 1 w.heap.size with hl | hl
 ·exact hl
 simp [Array.getElem?_eq_none hl] at h
theorem aL2.below {w w' : World} (h : aL2 w) (hb : Below w.heap.size w w') : aL2 w' := var?_below hb gTab h.lt h
theorem aJ9 (n : Int) (w : World) (h0 : -9223372036854775808 ≤ n) (h1 : n ≤ 9223372036854775807) (htab : aL2 w) :
  Calls prog 176 #[.int .i64 n] w fun e w' => aD6 (aE7 n) w e w' := by
 by_cases hn : n < 0
 ·have hT : Hid (⟨#[]⟩ = aE7 n) := by show _ = _; unfold aE7; rw [if_pos hn]
  go_enter func176, ntmps176;go_wp2_with fail
  go_ret;exact aD6.of hT.out (Below.refl _ _)
 by_cases hb : 1000000 < n
 ·have hT : Hid (⟨#[]⟩ = aE7 n) := by
   show _ = _
   unfold aE7 aI6 numL; rw [if_neg hn, if_pos (by omega)]
  go_enter func176, ntmps176;go_wp2_with fail
  go_ret;exact aD6.of hT.out (Below.refl _ _)
 have hT : Hid _ := cM7 n (by omega) (by omega);have HT := hid htab;clear htab;go_enter func176, ntmps176;go_wp2_with fail
 refine (Tryz.strconv_Itoa n h0 h1 w HT.out).mono ?_;rintro e w1 ⟨rfl, k, os, rfl⟩;rw [hT.out];have a0 := Lib.below_grow w.heap.size w (Nat.le_refl _) k os;obtain ⟨w1, a1⟩ := exq (Sort.grow (w.drewN k) os);rw [← a1] at a0 ⊢;clear a1;go_wp2_with fail
 go_ret;exact aD6.of rfl a0
theorem aE1 (n : Int) (w : World) (h0 : -9223372036854775808 ≤ n) (h1 : n ≤ 9223372036854775807) :
  Calls prog 90 #[.int .i64 n] w fun e w' => aD6 (aE7 n) w e w' := by
 by_cases hn : n < 0
 ·have hT : Hid (⟨#[]⟩ = aE7 n) := by show _ = _; unfold aE7; rw [if_pos hn]
  have a0 : ¬ 0 ≤ n := by omega
  go_enter func90, ntmps90;go_wp2
  go_ret;exact aD6.of hT.out (Below.refl _ _)
 by_cases hb : 1000000 < n
 rotate_left
 ·obtain ⟨m, rfl⟩ := Int.eq_ofNat_of_zero_le (Int.not_lt.1 hn);have hT : aE7 (m : Int) = aI6 m := by unfold aE7; rw [if_neg hn]; simp
  rw [hT];exact bE7 m w (by omega)
 have hT : Hid (⟨#[]⟩ = aE7 n) := by
  show _ = _
  unfold aE7 aI6 numL; rw [if_neg hn, if_pos (by omega)]
 have hp : 0 ≤ n := by omega
 have a1 : ¬ n ≤ 1000000 := by omega
 have hd : decide (n ≤ 1000000) = false := by simp; omega
 go_enter func90, ntmps90;go_wp2
 go_ret;exact aD6.of hT.out (Below.refl _ _)
end Go.Proofs.YtejoifianjgefaaGreatDoor
namespace Go.Proofs.YtejoifianjgefaaGreatDoor
open Go.Proofs.Tryz
open Go.RowKit
def bW3 (cur : List UInt8) : Ts := if bC8 cur = [] then [] else [⟨(bC8 cur).toArray⟩]
def spA (cur : List UInt8) : List UInt8 → Ts
 | [] => bW3 cur
 | c :: r => if c = 44 then bW3 cur ++ spA [] r else spA (cur ++ [c]) r
theorem cA7 (l : Ts) (s : Tx) : aJ6 l (aG3 s) = l ++ bW3 (bs s) := by
 have hs : (aG3 s).size = (bC8 (bs s)).length := by
  show (bC8 s.data.toList).toArray.size = _
  simp [bs]
 unfold aJ6 bW3;rw [hs];by_cases h : bC8 (bs s) = []
 ·rw [if_pos h, if_pos (by rw [h]; rfl), List.append_nil]
 rw [if_neg h, if_neg (fun e => h (List.length_eq_zero_iff.1 e))]
 rfl
theorem cA8 (s : Tx) (a k : Nat) : bs (s.extract a k) = ((bs s).take k).drop a := by rw [bA7]
theorem cD1 (s : Tx) : ∀ k, k ≤ s.size → (aC6 s k).1 ++ spA (((bs s).take k).drop (aC6 s k).2) ((bs s).drop k) = spA [] (bs s) := by
 intro k;induction k with
 | zero => intro _; simp [aC6]
 | succ k ih =>
  intro hk
  have a0 : k < s.size := by omega
  have h := ih (by omega)
  have a2 := (bA1 s k).1
  have hd : (bs s).drop k = s[k]'a0 :: (bs s).drop (k + 1) := by
   have hl : k < (bs s).length := by rw [aU9]; exact a0
   rw [List.drop_eq_getElem_cons hl]
   congr 1
  have ht : (bs s).take (k + 1) = (bs s).take k ++ [s[k]'a0] := by
   have hl : k < (bs s).length := by rw [aU9]; exact a0
   rw [List.take_succ_eq_append_getElem hl]
   congr 1
  rw [hd] at h
  by_cases hc : (s[k]'a0).toNat = 44
  ·have a1 : s[k]'a0 = 44 := UInt8.toNat_inj.1 hc
   rw [aS4 s k a0 hc]
   dsimp only
   rw [cA7, cA8]
   rw [spA, if_pos a1] at h
   have hn : ((bs s).take (k + 1)).drop (k + 1) = [] := List.drop_of_length_le (by rw [List.length_take]; omega)
   rw [hn, List.append_assoc]
   exact h
  have a1 : s[k]'a0 ≠ 44 := fun e => hc (by rw [e]; rfl)
  rw [aS5 s k a0 hc]
  rw [spA, if_neg a1] at h
  have hn : ((bs s).take (k + 1)).drop (aC6 s k).2 = ((bs s).take k).drop (aC6 s k).2 ++ [s[k]'a0] := by
   rw [ht, List.drop_append_of_le_length (by rw [List.length_take, aU9]; omega)]
  rw [hn]
  exact h
theorem cI5 (s : Tx) : aN3 s = spA [] (bs s) := by
 have h := cD1 s s.size (Nat.le_refl _);have hd : (bs s).drop s.size = [] := List.drop_of_length_le (by rw [aU9]; exact Nat.le_refl _);rw [hd] at h;unfold aN3;rw [cA7, cA8];exact h
theorem bR3 : ∀ l : List UInt8, (aM1 l).length ≤ l.length := by
 intro l;induction l with
 | nil => simp [aM1]
 | cons c l ih =>
  unfold aM1
  split
  ·simp; omega
  ·exact Nat.le_refl _
theorem cI6 (l : List UInt8) : (bC8 l).length ≤ l.length := by
 have h1 := bR3 l;have h2 := bR3 (aM1 l).reverse;unfold bC8;rw [List.length_reverse];rw [List.length_reverse] at h2;omega
theorem bN7 (cur : List UInt8) : (bW3 cur).length ≤ 1 ∧ ∀ x ∈ bW3 cur, x.size ≤ cur.length := by
 unfold bW3;split
 ·exact ⟨by simp, fun x hx => nomatch hx⟩
 refine ⟨by simp, fun x hx => ?_⟩
 obtain rfl := List.mem_singleton.1 hx;exact cI6 cur
theorem cS4 : ∀ (l cur : List UInt8), (spA cur l).length ≤ l.length + 1 ∧ ∀ x ∈ spA cur l, x.size ≤ cur.length + l.length := by
 intro l;induction l with
 | nil => intro cur; exact ⟨(bN7 cur).1, fun x hx => (bN7 cur).2 x hx⟩
 | cons c l ih =>
  intro cur
  unfold spA
  split
  ·have h1 := bN7 cur
   have h2 := ih []
   refine ⟨by rw [List.length_append, List.length_cons]; omega, fun x hx => ?_⟩
   rw [List.mem_append] at hx
   rw [List.length_cons]
   rcases hx with hx | hx
   ·have := h1.2 x hx; omega
   ·have := h2.2 x hx; rw [List.length_nil] at this; omega
  ·have h2 := ih (cur ++ [c])
   refine ⟨by rw [List.length_cons]; omega, fun x hx => ?_⟩
   have := h2.2 x hx
   rw [List.length_append, List.length_singleton] at this
   rw [List.length_cons]
   omega
theorem bF4 (s : Tx) : (aN3 s).length ≤ s.size + 1 ∧ ∀ x ∈ aN3 s, x.size ≤ s.size := by
 have h := cS4 (bs s) [];rw [← cI5, aU9, List.length_nil, Nat.zero_add] at h;exact h
end Go.Proofs.YtejoifianjgefaaGreatDoor
namespace Go.Proofs.YtejoifianjgefaaGreatDoor
open Go.Proofs.Tryz
open Go.RowKit
open Go.Lib hiding intOf
def aF0 : ByteArray := ⟨#[118, 97, 114, 121]⟩
def bD1 (fs : Fs) : Ts := (aN3 (getV fs aF0)).map aJ5
def aC4 (w : World) (oa : Oa) (n : Nat) (xs : Ts) : Prop :=
 xs.length = n ∧ ∀ i, i < n → ∃ g, oa = some ⟨g, 0, none⟩ ∧ g < w.heap.size ∧ w.cell? ⟨g, i, none⟩ = some (.string (aA8 xs i))
theorem aC4.below {w w' : World} {oa : Oa} {n : Nat} {xs : Ts} (h : aC4 w oa n xs) (hb : Below w.heap.size w w') : aC4 w' oa n xs :=
 ⟨h.1, fun i hi => by
  obtain ⟨g, h1, h2, h3⟩ := h.2 i hi
  exact ⟨g, h1, Nat.lt_of_lt_of_le h2 hb.size, by rw [hb.cell (p := ⟨g, i, none⟩) h2]; exact h3⟩⟩
theorem bF5 {w : World} {base n : Nat} {v : Value} {xs : Ts} (h : w.ownsRow base 9 1 v n (xs.map Value.string)) : ∃ oa cap, v = .slice oa n cap ∧ aC4 w oa n xs := by
 have hl : xs.length = n := by have := h.1; simpa using this
 rcases aP8 h with ⟨oa, ca, rfl, rfl, rfl⟩ | ⟨g, cap, rfl, hp, r⟩
 ·exact ⟨oa, ca, rfl, rfl, fun i hi => absurd hi (by omega)⟩
 exact ⟨_, _, rfl, hl, fun i hi => ⟨g, rfl, r.lt, r.cell i hi⟩⟩
def loTo (xs : Ts) (j : Nat) : Ts := (xs.take j).map aJ5 ++ xs.drop j
theorem bR4 (xs : Ts) : loTo xs 0 = xs := by simp [loTo]
theorem bD8 (xs : Ts) (j : Nat) (h : xs.length ≤ j) : loTo xs j = xs.map aJ5 := by
 simp [loTo, List.take_of_length_le h, List.drop_of_length_le h]
theorem cI7 (xs : Ts) (j : Nat) : aA8 (loTo xs j) j = aA8 xs j := by
 unfold aA8 loTo;rw [List.getD_eq_getElem?_getD, List.getD_eq_getElem?_getD];by_cases h : j < xs.length
 rotate_left
 ·rw [List.getElem?_eq_none (by simp; omega), List.getElem?_eq_none (by omega)]
 rw [List.getElem?_append_right (by simp; omega), List.length_map, List.length_take, Nat.min_eq_left (by omega), Nat.sub_self, List.getElem?_drop, Nat.add_zero]
theorem bR5 (xs : Ts) (j : Nat) (h : j < xs.length) : (loTo xs j).set j (aJ5 (aA8 xs j)) = loTo xs (j + 1) := by
 have e : xs.drop j = aA8 xs j :: xs.drop (j + 1) := by
  rw [List.drop_eq_getElem_cons h]
  congr 1
  unfold aA8
  rw [List.getD_eq_getElem?_getD, List.getElem?_eq_getElem h]
  rfl
 have e2 : xs.take (j + 1) = xs.take j ++ [aA8 xs j] := by
  rw [List.take_add_one, List.getElem?_eq_getElem h]
  unfold aA8
  rw [List.getD_eq_getElem?_getD, List.getElem?_eq_getElem h]
  rfl
 unfold loTo;rw [List.set_append_right _ _ (by simp; omega), List.length_map, List.length_take, Nat.min_eq_left (by omega), Nat.sub_self, e, List.set_cons_zero, e2, List.map_append];simp
theorem bJ2 (v : Value) (n base : Nat) (fs : Fs) (w : World) (hv : aB3 w base v n fs) (hn : n ≤ 1073741824) (hsz : (getV fs aF0).size ≤ 1048576) :
  Calls prog 96 #[v] w fun e w' => aX5 w.heap.size (bD1 fs) w e w' := by
 obtain ⟨s, hs⟩ := exq (getV fs aF0);have HS : Hid (getV fs aF0 = s) := hs.symm;have HE : Hid (bD1 fs = (aN3 s).map aJ5) := by show _ = _; unfold bD1; rw [HS.out]
 rw [← hs] at hsz;obtain ⟨a3, a1⟩ := bF4 s;clear hs;go_enter func96, ntmps96;go_wp2_with fail
 refine (bF3 v n base fs aF0 _ hv hn).mono ?_;rintro e w1 ⟨rfl, rfl⟩;rw [HS.out];clear hv;go_wp2_with fail
 refine (bN2 s _ hsz).mono ?_;rintro e w2 ⟨V, rfl, O, b2⟩;obtain ⟨xs, a4⟩ := exq (aN3 s);rw [← a4] at a3 a1 O HE;obtain ⟨m, hm⟩ := exq xs.length;rw [← hm] at a3 O;have HM : Hid (xs.length = m) := hm.symm;have H2 := hid a1;clear a4 hm a1;rcases aP8 O with ⟨oa, ca, rfl, h0, h1⟩ | ⟨g, cap, rfl, hp, r1⟩
 ·subst h0 h1;go_wp2_with fail
  refine wp_loop_rounds 1 ?_;rw [rounds_succ];go_wp2_with fail
  go_ret;exact aX5.of (by rw [HE.out]; rfl) rfl O b2
 clear O;have a6 : Hid (Below w1.heap.size w1 w2) := b2;have a7 : Hid (aE8 w1.heap.size w2 g m cap (loTo xs 0)) := by show aE8 _ _ _ _ _ _; rw [bR4]; exact r1
 clear b2 r1;go_wp2_with fail
 go_loopw [6] (fun i wr => ∃ j : Nat, j ≤ m ∧ i = .int .i64 (j : Int) ∧ Hid (Below w1.heap.size w1 wr) ∧ Hid (aE8 w1.heap.size wr g m cap (loTo xs j))) (fun i _ => m - (intOf i).toNat)
 case atStart => exact ⟨0, Nat.zero_le _, rfl, a6, a7⟩
 case round =>
  obtain ⟨j, hj, rfl, HB, HR⟩ := hrel;by_cases hlt : j < m
  rotate_left
  ·obtain rfl : j = m := by omega
   go_wp2_with fail
   go_ret;exact aX5.of (by rw [HE.out, bD8 xs j (by rw [HM.out]; exact Nat.le_refl _)]) (by rw [bD8 xs j (by rw [HM.out]; exact Nat.le_refl _), List.length_map, HM.out]) HR.out.owns HB.out
  have a8 : (j : Int) < (m : Int) := by omega
  obtain ⟨x, hx⟩ := exq (aA8 xs j);have hc := HR.out.cell j hlt;rw [cI7, ← hx] at hc;have a5 : Hid ((loTo xs j).set j (aJ5 x) = loTo xs (j + 1)) := by show _ = _; rw [hx]; exact bR5 xs j (by rw [HM.out]; exact hlt)
  have a9 : x.size ≤ 1048576 := by
   refine Nat.le_trans (H2.out x ?_) hsz
   rw [hx]
   unfold aA8
   rw [List.getD_eq_getElem?_getD, List.getElem?_eq_getElem (by rw [HM.out]; exact hlt)]
   exact List.getElem_mem _
  clear hx;go_wp2_with fail
  refine (bM9 x _ a9).mono ?_;rintro e w3 ⟨rfl, a2⟩;have a0 := HR.out.below a2 HR.out.lt;have b3 := a0.cell j hlt;have b4 := a0.frozen j;have b0 : Hid (Below w1.heap.size w1 (w3.setCell ⟨g, j, none⟩ (.string (aJ5 x)))) := (HB.out.trans (a2.mono HB.out.size)).setCell HR.out.base _
  have b1 : Hid (aE8 w1.heap.size (w3.setCell ⟨g, j, none⟩ (.string (aJ5 x))) g m cap (loTo xs (j + 1))) := by
   show aE8 _ _ _ _ _ _
   rw [← a5.out]
   exact a0.set j hlt _
  clear a2 a0 HB HR a5 hc;go_wp2_with fail
  go_roundw
  case rel => exact ⟨j + 1, by omega, by go_num, b0, b1⟩
  case measure => simp [intOf]; omega
def Far (v : Value) (w w' : World) : Prop := ∀ j, j < w.heap.size → v.ownBlock ≠ some j → w'.heap[j]? = w.heap[j]?
structure ArgT (w : World) (B : Nat) (a : Oa) (n : Nat) (xs : Ts) : Prop where
 len : xs.length = n
 get : ∀ i, i < n → ∃ b off, a = some ⟨b, off, none⟩ ∧ b < B ∧ w.cell? ⟨b, off + i, none⟩ = some (.string (aA8 xs i))
theorem ArgT.below {w w' : World} {B : Nat} {a : Oa} {n : Nat} {xs : Ts} (h : ArgT w B a n xs) (hb : Below B w w') : ArgT w' B a n xs :=
 ⟨h.len, fun i hi => by
  obtain ⟨b, off, h1, h2, h3⟩ := h.get i hi
  exact ⟨b, off, h1, h2, by rw [hb.cell (p := ⟨b, off + i, none⟩) h2]; exact h3⟩⟩
theorem bF6 {H : Type} {enc : TypeId × Value → H} {W : World} {fuel : Nat} {a : Oa} {n cap : Nat} {x : DataW H × List MemPlace} (h : DataW.trod enc prog W 0 (fun _ => true) true fuel 22 [.slice a n cap] = some x) :
  ∃ xs, ArgT W W.heap.size a n xs ∧ n ≤ maxLen ∧ ∀ i, i < n → (aA8 xs i).size ≤ maxLen := by
 rcases Go.ChangeShapes.open_strings underlying22 underlying9 (by kernel_rfl) h with ⟨a1, _⟩ | ⟨ad, a8, c, ss, a1, _, hl, hm, a3, _, a0, hsz⟩
 ·simp at a1
  obtain ⟨rfl, rfl, rfl⟩ := a1;exact ⟨[], ⟨rfl, fun i hi => absurd hi (by omega)⟩, Nat.zero_le _, fun i hi => absurd hi (by omega)⟩
 simp at a1
 obtain ⟨rfl, rfl, rfl⟩ := a1;have a5 : ss.length = cap := by simpa using a3
 have a6 : ∀ i, i < n → aA8 (ss.take n) i = ss.getD i ByteArray.empty := fun i hi => by
  unfold aA8
  rw [List.getD_eq_getElem?_getD, List.getD_eq_getElem?_getD, List.getElem?_take_of_lt hi]
  rfl
 refine ⟨ss.take n, ⟨by rw [List.length_take]; omega, fun i hi => ?_⟩, by omega, fun i hi => ?_⟩
 ·obtain ⟨b, a7, a4⟩ := ad
  have a2 : a4 = none := by
   have := World.cell?_spot (a0 0 (by omega))
   simpa [Addr.add] using this
  subst a2;have hc := a0 i (by omega);rw [aY3] at hc;exact ⟨b, a7, rfl, World.block_lt_of_cell? _ _ hc, by rw [a6 i hi]; exact hc⟩
 rw [a6 i hi];refine hsz _ ?_;rw [List.getD_eq_getElem?_getD, List.getElem?_eq_getElem (by omega)];exact List.getElem_mem _
def bF7 (w : World) (g n k : Nat) (xs : Ts) : Prop :=
 ∃ cur, w.heap[g]? = some (.cells cur 9 (0, 0)) ∧ cur.size = n ∧ ∀ i, i < k → cur[i]? = some (.string (aA8 xs i))
theorem bF7.put {w : World} {g n k : Nat} {xs : Ts} (h : bF7 w g n k xs) (hk : k < n) : bF7 (w.setCell ⟨g, k, none⟩ (.string (aA8 xs k))) g n (k + 1) xs := by
 obtain ⟨a0, h1, h2, h3⟩ := h;refine ⟨_, aD0 w g k _ _ _ _ h1, by simpa using h2, fun i hi => ?_⟩
 by_cases e : i = k
 ·subst e;exact Array.getElem?_setIfInBounds_self_of_lt (by omega)
 rw [Array.getElem?_setIfInBounds_ne (fun x => e x.symm)]
 exact h3 i (by omega)
theorem bF7.row {w : World} {g n base : Nat} {xs : Ts} (h : bF7 w g n n xs) (hl : xs.length = n) (hb : base ≤ g) (hn : n ≤ maxLen) : aE8 base w g n n xs := by
 obtain ⟨a0, h1, h2, h3⟩ := h;exact ⟨hl, hb, (blt h1), Nat.le_refl _, hn, a0, h1, h2, h3⟩
theorem aS7 (B : Nat) (a : Oa) (n cap : Nat) (xs : Ts) (w : World) (harg : ArgT w B a n xs) (hB : B ≤ w.heap.size) (hn : n ≤ 1048576) :
  Calls prog 43 #[.slice a n cap] w fun e w' => ∃ v, e = .returned v ∧ w'.ownsRow w.heap.size 9 1 v n (xs.map Value.string) ∧ Below w.heap.size w w' := by
 obtain ⟨i0, hi, a6, a7, a8⟩ := info_parts bQ7;obtain ⟨M, hM⟩ : ∃ M, M = madeCells (Value.string ⟨#[]⟩).cells (((n : Nat) : Int).toNat * i0.size) := ⟨_, rfl⟩
 have b2 : ∀ W : World, (Instr.makeSlice 22 (.int .i64 (n : Int)) (.int .i64 (n : Int))).run prog W = .ok (.slice (some ⟨W.heap.size, 0, none⟩) n n) (W.alloc (.cells M 9)) := fun W => by
  have h := run_make (P := prog) W 22 9 i0 (.string ⟨#[]⟩) underlying22 hi a6 .i64 .i64 (n : Int) (n : Int) (by omega) (by omega) (by rw [a8]; omega) (by omega)
  rw [← hM] at h
  simpa using h
 have a9 : M.size = n := by rw [hM, size_madeCells, a7]; simp
 have a1 : Hid (∀ W, Below B w W → ArgT W B a n xs) := fun W h => harg.below h
 have a2 : Hid (xs.length = n) := harg.len;clear hM harg;have HP : Hid (bF7 (w.alloc (.cells M 9)) w.heap.size n 0 xs) := ⟨M, heap_alloc_new w _, a9, fun i h => absurd h (by omega)⟩
 go_enter func43, ntmps43;go_wp2
 go_loopw [4] (fun i wr => ∃ k : Nat, k ≤ n ∧ i = .int .i64 (k : Int) ∧ Hid (bF7 wr w.heap.size n k xs) ∧ Bw w wr) (fun i _ => n - (intOf i).toNat)
 case atStart => exact ⟨0, Nat.zero_le _, rfl, HP, (Below.refl _ _).alloc (Nat.le_refl _) _⟩
 case round =>
  obtain ⟨k, hk, rfl, a3, a4⟩ := hrel;by_cases hlt : k < n
  rotate_left
  ·obtain rfl : k = n := by omega
   go_wp2
   go_ret;exact ⟨_, rfl, (a3.out.row a2.out (Nat.le_refl _) (by unfold maxLen; omega)).owns, a4⟩
  have b0 : (k : Int) < (n : Int) := by omega
  obtain ⟨b, b3, rfl, b4, b1⟩ := (a1.out wr (a4.mono hB)).get k hlt;have a0 : Hid (bF7 (wr.setCell ⟨w.heap.size, k, none⟩ (.string (aA8 xs k))) w.heap.size n (k + 1) xs) := a3.out.put hlt
  obtain ⟨u0, b5, f0⟩ : ∃ u, wr.cell? ⟨w.heap.size, k, none⟩ = some u ∧ wr.frozen? ⟨w.heap.size, k, none⟩ = false := by
   obtain ⟨a5, h1, h2, _⟩ := a3.out
   refine ⟨a5[k]'(by omega), ?_, by simp [World.frozen?, h1]⟩
   simp only [World.cell?, h1]
   simp [show k < a5.size by omega]
  generalize aA8 xs k = z at b1 a0;go_wp2
  go_roundw
  case rel => exact ⟨k + 1, by omega, by go_num, a0, a4.setCell (Nat.le_refl _) _⟩
  case measure => simp [intOf]; omega
theorem aH0 {W : World} {R : Nat} {a b c : Value} {t : TypeId} (h : W.heap[R]? = some (.cells #[a, b, c] t)) :
  (W.cell? ⟨R, 0, none⟩ = some a ∧ W.cell? ⟨R, 1, none⟩ = some b ∧ W.cell? ⟨R, 2, none⟩ = some c) ∧ W.frozen? ⟨R, 0, none⟩ = false ∧ W.frozen? ⟨R, 1, none⟩ = false ∧ W.frozen? ⟨R, 2, none⟩ = false := by
 refine ⟨⟨?_, ?_, ?_⟩, ?_, ?_, ?_⟩ <;> simp [World.cell?, World.frozen?, h]
def aI3 (w : World) (r : Nat) (a b c : Value) : World := ((w.setCell ⟨r, 0, none⟩ a).setCell ⟨r, 1, none⟩ b).setCell ⟨r, 2, none⟩ c
theorem bR6 {W : World} {R : Nat} {a b c : Value} {t : TypeId} (h : W.heap[R]? = some (.cells #[a, b, c] t)) (a' b' c' : Value) : (aI3 W R a' b' c').heap[R]? = some (.cells #[a', b', c'] t) := by
 have := aD0 _ R 2 _ _ _ c' (aD0 _ R 1 _ _ _ b' (aD0 W R 0 _ _ _ a' h));simpa [aI3] using this
theorem bF8 {w W : World} {B R : Nat} {a b c : Value} (h : Below B w W) (hR : B ≤ R) : Below B w (aI3 W R a b c) :=
 ((h.setCell (p := ⟨R, 0, none⟩) hR _).setCell (p := ⟨R, 1, none⟩) hR _).setCell (p := ⟨R, 2, none⟩) hR _
theorem cD2 (m : Int) (a : Oa) (n cap : Nat) (b : Tx) (fs : Fs) (B : Nat) (w : World) (harg : ArgF w B a n fs) (hB : B ≤ w.heap.size) (hn : n ≤ 1048576) :
  Calls prog 44 #[.agg #[.int .i64 m, .slice a n cap, .string b]] w fun e w' => ∃ v, e = .returned (.agg #[.int .i64 m, v, .string b]) ∧ w'.ownsRow w.heap.size 184 2 v n (aF3 fs) ∧ Below w.heap.size w w' := by
 obtain ⟨w0, a3⟩ := exq ((((w.alloc (.cells #[.int .i64 m, .slice a n cap, .string b] 32)).alloc (.cells #[.int .i64 0, .slice none 0 0, .string ⟨#[]⟩] 49)).alloc (.cells #[.int .i64 m, .slice none 0 0, .string ⟨#[]⟩] 49)));have b8 : w0.heap.size = w.heap.size + 1 + 1 + 1 := by rw [a3]; simp
 have a9 : Bw w w0 := by rw [a3]; exact (((Below.refl _ w).alloc (Nat.le_refl _) _).alloc (by simp) _).alloc (by simp; omega) _
 have x1 : w0.heap[w.heap.size]? = some (.cells #[.int .i64 m, .slice a n cap, .string b] 32) := by
  rw [a3, heap_alloc_old _ _ (by simp; omega), heap_alloc_old _ _ (by simp)]; exact heap_alloc_new w _
 have x2 : w0.heap[w.heap.size + 1]? = some (.cells #[.int .i64 0, .slice none 0 0, .string ⟨#[]⟩] 49) := by
  rw [a3, heap_alloc_old _ _ (by simp)]
  have := heap_alloc_new (w.alloc (.cells #[.int .i64 m, .slice a n cap, .string b] 32)) (.cells #[.int .i64 0, .slice none 0 0, .string ⟨#[]⟩] 49)
  simpa using this
 have x3 : w0.heap[w.heap.size + 1 + 1]? = some (.cells #[.int .i64 m, .slice none 0 0, .string ⟨#[]⟩] 49) := by
  rw [a3]
  have := heap_alloc_new ((w.alloc (.cells #[.int .i64 m, .slice a n cap, .string b] 32)).alloc (.cells #[.int .i64 0, .slice none 0 0, .string ⟨#[]⟩] 49)) (.cells #[.int .i64 m, .slice none 0 0, .string ⟨#[]⟩] 49)
  simpa using this
 go_enter func44, ntmps44;go_wp2_with fail
 rw [← a3];refine (bQ9 B a n cap fs _ (harg.below (a9.mono hB)) (by omega) hn).mono ?_;rintro e w1 ⟨v, rfl, hown, b3⟩;obtain ⟨fo, fc, rfl⟩ := aA0 hown;rw [← b3.block _ (by omega)] at x1 x2 x3;obtain ⟨o, ho⟩ := exq (w.heap.size + 1 + 1);obtain ⟨q, hq⟩ := exq (w.heap.size + 1);obtain ⟨c, hc⟩ := exq (w.heap.size);rw [← ho] at x3;rw [← hq] at x2;rw [← hc] at x1;have b4 : q ≠ o := by omega
 have c5 : c ≠ o := by omega
 have c6 : o ≠ q := by omega
 have c7 : o ≠ c := by omega
 have b9 : w.heap.size ≤ q := by omega
 have b5 : w.heap.size ≤ o := by omega
 obtain ⟨⟨a0, a1, a2⟩, _⟩ := aH0 x1;obtain ⟨⟨b0, b1, b2⟩, e0, e1, e2⟩ := aH0 x2;obtain ⟨⟨d0, d1, d2⟩, f0, f1, f2⟩ := aH0 x3;have a6 : Bw w w1 := a9.trans (b3.mono a9.size)
 have a7 : Hid (∀ W : World, W = (w1.setCell ⟨o, 1, none⟩ (.slice fo n fc)).setCell ⟨o, 2, none⟩ (.string b) → ((aI3 W q (.int .i64 m) (.slice fo n fc) (.string b)).heap[q]? = some (.cells #[.int .i64 m, .slice fo n fc, .string b] 49)) ∧ (aI3 W q (.int .i64 m) (.slice fo n fc) (.string b)).ownsRow w.heap.size 184 2 (.slice fo n fc) n (aF3 fs) ∧ Bw w (aI3 W q (.int .i64 m) (.slice fo n fc) (.string b))) := fun W hW => by
  have c0 : W.heap[q]? = some (.cells #[.int .i64 0, .slice none 0 0, .string ⟨#[]⟩] 49) := by rw [hW, heap_setCell_other _ _ q _ (fun e => b4 e), heap_setCell_other _ _ q _ (fun e => b4 e)]; exact x2
  have c1 : Bw w W := by rw [hW]; exact (a6.setCell (p := ⟨o, 1, none⟩) b5 _).setCell (p := ⟨o, 2, none⟩) b5 _
  refine ⟨bR6 c0 _ _ _, ?_, bF8 c1 b9⟩
  have a8 : w1.ownsRow w.heap.size 184 2 (.slice fo n fc) n (aF3 fs) := by
   refine ⟨hown.1, ?_⟩
   rcases hown.2 with h6 | ⟨g6, a4, a5, h7, h8, h9⟩
   ·exact .inl h6
   ·exact .inr ⟨g6, a4, a5, h7, by omega, h9⟩
  refine ⟨a8.1, ?_⟩
  rcases hown.2 with h6 | ⟨g6, a4, a5, h7, h8, h9, c2⟩
  ·exact .inl h6
  ·refine .inr ⟨g6, a4, a5, h7, by omega, ?_, c2⟩
   have n1 : g6 ≠ q := by omega
   have n2 : g6 ≠ o := by omega
   unfold aI3
   rw [heap_setCell_other _ _ g6 _ (fun e => n1 e), heap_setCell_other _ _ g6 _ (fun e => n1 e), heap_setCell_other _ _ g6 _ (fun e => n1 e), hW, heap_setCell_other _ _ g6 _ (fun e => n2 e), heap_setCell_other _ _ g6 _ (fun e => n2 e)]
   exact h9
 obtain ⟨hh, b6, b7⟩ := a7.out _ rfl;obtain ⟨⟨k0, k1, k2⟩, _⟩ := aH0 hh;have c3 : Hid _ := b6;have c4 : Hid _ := b7;unfold aI3 at k0 k1 k2;rw [← ho, ← hq, ← hc];clear x1 x2 x3 ho hq hc a3 b8 a9 b3 hown a6 hh b6 b7 harg hB a7 a0 a1;go_wp2_with fail
 exact bodyPost_ret (v := .agg #[.int .i64 m, .slice fo n fc, .string b]) (by simp [results, results44, go_sem, k0, k1, k2]) rfl ⟨_, rfl, c3.out, c4.out⟩
theorem cD3 (m : Int) (v1 v2 : Value) (b : Tx) (n b1 b2 : Nat) (fs : Fs) (w : World) (h1 : aB3 w b1 v1 n fs) (h2 : aB3 w b2 v2 n fs) (hn : n ≤ 2000000) :
  Calls prog 51 #[.agg #[.int .i64 m, v1, .string b], .agg #[.int .i64 m, v2, .string b]] w fun e w' => e = .returned (.bool true) ∧ Below w.heap.size w w' := by
 obtain ⟨oa, ca, rfl, _⟩ := h1.slice;obtain ⟨ob, cb, rfl, _⟩ := h2.slice;have tb : (b.toList == b.toList) = true := by simp
 have tm : (m != m) = false := by simp
 obtain ⟨w0, a0⟩ := exq (((w.alloc (.cells #[.int .i64 m, .slice oa n ca, .string b] 49)).alloc (.cells #[.int .i64 m, .slice ob n cb, .string b] 49)));have a4 : w0.heap.size = w.heap.size + 1 + 1 := by rw [a0]; simp
 have a1 : Bw w w0 := by rw [a0]; exact ((Below.refl _ w).alloc (Nat.le_refl _) _).alloc (by simp) _
 have x1 : w0.heap[w.heap.size]? = some (.cells #[.int .i64 m, .slice oa n ca, .string b] 49) := by
  rw [a0, heap_alloc_old _ _ (by simp)]; exact heap_alloc_new w _
 have x2 : w0.heap[w.heap.size + 1]? = some (.cells #[.int .i64 m, .slice ob n cb, .string b] 49) := by
  rw [a0]
  have := heap_alloc_new (w.alloc (.cells #[.int .i64 m, .slice oa n ca, .string b] 49)) (.cells #[.int .i64 m, .slice ob n cb, .string b] 49)
  simpa using this
 go_enter func51, ntmps51;go_wp2_with fail
 rw [← a0];refine (bR0 _ _ n b1 b2 fs _ (h1.below a1) (h2.below a1) hn).mono ?_;rintro e w1 ⟨rfl, a2⟩;rw [← a2.block _ (by omega)] at x1 x2;obtain ⟨q, hq⟩ := exq (w.heap.size + 1);obtain ⟨c, hc⟩ := exq (w.heap.size);rw [← hq] at x2;rw [← hc] at x1;have y1 : w1.cell? ⟨c, 2, none⟩ = some (.string b) := by simp [World.cell?, x1]
 have y2 : w1.cell? ⟨q, 2, none⟩ = some (.string b) := by simp [World.cell?, x2]
 have a3 : Bw w w1 := a1.trans (a2.mono a1.size);rw [← hq, ← hc];clear x1 x2 hq hc a0 a4 a1 a2 h1 h2;go_wp2
 go_ret;exact ⟨rfl, a3⟩
def SzEx (L : Int) (n : Nat) (fs : Fs) (w : World) (e : Ending) (w' : World) : Prop :=
 ∃ r : Int, e = .returned (.int .i64 r) ∧ r ≤ L ∧ (0 ≤ r → r + (n : Int) + (szTo fs n : Int) = L ∧ n ≤ 1048576 ∧ szTo fs n ≤ 1048576) ∧ Below w.heap.size w w'
theorem bJ3 (L : Int) (hL0 : 0 ≤ L) (hL1 : L ≤ 1048576) (B : Nat) (a : Oa) (n cap : Nat) (fs : Fs) (w : World) (harg : ArgF w B a n fs) (hB : B ≤ w.heap.size) (hn : n ≤ maxLen) (hsz : ∀ i, i < n → (aC7 fs i).size ≤ maxLen ∧ (aH7 fs i).size ≤ maxLen) :
  Calls prog 86 #[.slice a n cap, .int .i64 L] w fun e w' => SzEx L n fs w e w' := by
 unfold maxLen at hn;have HS := hid hsz;clear hsz;by_cases c1 : L - (n : Int) < 0
 ·go_enter func86, ntmps86;go_wp2
  go_ret;exact ⟨-1, rfl, by omega, fun h => absurd h (by omega), Below.refl _ _⟩
 go_enter func86, ntmps86;go_wp2
 go_loopw [1, 5] (fun l i wr => ∃ (k : Nat) (x : Int), k ≤ n ∧ i = .int .i64 (k : Int) ∧ l = .int .i64 x ∧ 0 ≤ x ∧ x ≤ L ∧ Hid (x = L - (n : Int) - (szTo fs k : Int)) ∧ Bw w wr) (fun _ i _ => n - (intOf i).toNat)
 case atStart => exact ⟨0, _, Nat.zero_le _, rfl, rfl, by omega, by omega, by show _ = _; simp [szTo], Below.refl _ _⟩
 case round =>
  obtain ⟨k, x, hk, rfl, rfl, a7, a8, hx, a0⟩ := hrel;by_cases hlt : k < n
  rotate_left
  ·have hF : Hid (x + (n : Int) + (szTo fs n : Int) = L ∧ n ≤ 1048576 ∧ szTo fs n ≤ 1048576) := by
    have := hx.out
    obtain rfl : k = n := by omega
    exact ⟨by omega, by omega, by omega⟩
   go_wp2
   go_ret;exact ⟨x, rfl, a8, fun _ => hF.out, a0⟩
  have a9 : (k : Int) < (n : Int) := by omega
  obtain ⟨b, b1, rfl, b2, a4, a5⟩ := (harg.below (a0.mono hB)).get k hlt;obtain ⟨s1, s2⟩ := HS.out k hlt;obtain ⟨nm, a1⟩ := exq (aC7 fs k);obtain ⟨vl, a2⟩ := exq (aH7 fs k);have HZ : Hid (szTo fs (k + 1) = szTo fs k + nm.size + vl.size) := by rw [a1, a2]; rfl
  rw [← a1] at a4 s1;rw [← a2] at a5 s2;clear a1 a2;go_wp2_with fail
  refine (bW0 nm vl x _ a7 (by omega) s1 s2).mono ?_;rintro e w1 ⟨rfl, a6⟩;have a3 : Bw w w1 := a0.trans (a6.mono a0.size);clear a4 a5 a6;by_cases d1 : x - (nm.size : Int) < 0
  ·rw [if_pos d1];go_wp2
   go_ret;exact ⟨-1, rfl, by omega, fun h => absurd h (by omega), a3⟩
  rw [if_neg d1];by_cases d2 : x - (nm.size : Int) - (vl.size : Int) < 0
  ·rw [if_pos d2];go_wp2
   go_ret;exact ⟨-1, rfl, by omega, fun h => absurd h (by omega), a3⟩
  rw [if_neg d2];obtain ⟨y, hy⟩ : ∃ y, y = x - (nm.size : Int) - (vl.size : Int) := ⟨_, rfl⟩;rw [← hy] at d2 ⊢
  have HY : Hid (y = L - (n : Int) - (szTo fs (k + 1) : Int)) := by
   show _ = _
   rw [hy, HZ.out, hx.out]; omega
  have b0 : y ≤ L := by omega
  clear hy d1;go_wp2
  go_roundw
  case rel => exact ⟨k + 1, y, by omega, by go_num, rfl, by omega, b0, HY, a3⟩
  case measure => simp [intOf]; omega
def mkG (k0 : Nat) (fs : Fs) : Nat → Fs
 | 0 => fs
 | k + 1 => (mkG k0 fs k).set k (aB1 (k0 + 2 * k), aB1 (k0 + 2 * k + 1))
theorem bN8 (k0 : Nat) (fs : Fs) : ∀ k, (mkG k0 fs k).length = fs.length
 | 0 => rfl
 | k + 1 => by rw [mkG, List.length_set, bN8 k0 fs k]
theorem cS5 (k0 : Nat) (fs : Fs) (j : Nat) : ∀ k, k ≤ fs.length → j < k → aC7 (mkG k0 fs k) j = aB1 (k0 + 2 * j) ∧ aH7 (mkG k0 fs k) j = aB1 (k0 + 2 * j + 1) := by
 intro k;induction k with
 | zero => intro _ h; omega
 | succ k ih =>
  intro hk h
  have hs := bL0 (mkG k0 fs k) k j (aB1 (k0 + 2 * k), aB1 (k0 + 2 * k + 1)) (by rw [bN8]; omega)
  rw [mkG, hs.1, hs.2]
  by_cases e : j = k
  ·subst e; rw [if_pos rfl, if_pos rfl]; exact ⟨rfl, rfl⟩
  rw [if_neg e, if_neg e]; exact ih (by omega) (by omega)
theorem bR7 (v : Value) (n base : Nat) (fs : Fs) (w : World) (h1 : w.ownsRow base 184 2 v n (aF3 fs)) (hb : base ≤ w.heap.size) (k0 : Nat) (hk0 : 1 ≤ k0) (hn : k0 + 2 * n ≤ 99999999) :
  Calls prog 118 #[v, .int .i64 (k0 : Int)] w fun e w' => e = .returned (.int .i64 ((k0 : Int) + 2 * (n : Int))) ∧ w'.ownsRow base 184 2 v n (aF3 (mkG k0 fs n)) ∧ Below base w w' ∧ Far v w w' := by
 rcases bF2 h1 with ⟨oa, ca, rfl, _, rfl, rfl⟩ | ⟨g, cap, rfl, hp, r1⟩
 ·go_enter func118, ntmps118;go_wp2
  refine wp_loop_rounds 1 ?_;rw [rounds_succ];go_wp2
  go_ret;exact ⟨aQ4 (by simp), h1, Below.refl _ _, fun j _ _ => rfl⟩
 clear h1;go_enter func118, ntmps118;go_wp2
 go_loopw [1, 5] (fun q i wr => ∃ k : Nat, k ≤ n ∧ i = .int .i64 (k : Int) ∧ q = .int .i64 ((k0 : Int) + 2 * (k : Int)) ∧ Below base w wr ∧ aD9 base wr g n cap (mkG k0 fs k) ∧ Hid (∀ j, j < w.heap.size → j ≠ g → wr.heap[j]? = w.heap[j]?)) (fun _ i _ => n - (intOf i).toNat)
 case atStart => exact ⟨0, Nat.zero_le _, rfl, by simp, Below.refl _ _, r1, fun j _ _ => rfl⟩
 case round =>
  obtain ⟨k, hk, rfl, rfl, a3, a1, a4⟩ := hrel;by_cases hlt : k < n
  rotate_left
  ·obtain rfl : k = n := by omega
   go_wp2
   go_ret;exact ⟨rfl, a1.owns, a3, fun j hj a2 => a4.out j hj (fun e => a2 (by rw [e]; rfl))⟩
  have b1 : (k : Int) < (n : Int) := by omega
  have b2 := a3.size;go_wp2_with fail
  refine (aE5 _ (k0 + 2 * k) _ (by omega) (by omega) (by omega)).mono ?_;rintro e w1 ⟨rfl, a6⟩;have a0 := a1.below a6 a1.lt;have hc := a0.name k hlt;have hf := a0.frozen (k * 2);have a7 : Below base w w1 := a3.trans (a6.mono (Nat.le_trans hb a3.size));have b3 : Hid (∀ j, j < w.heap.size → j ≠ g → w1.heap[j]? = w.heap[j]?) := fun j hj a2 => by rw [a6.block j (by omega)]; exact a4.out j hj a2
  clear a6 a3;go_wp2_with fail
  refine (aE5 _ (k0 + 2 * k + 1) _ (by omega) (by omega) (by omega)).mono ?_;rintro e w2 ⟨rfl, a5⟩;have a8 : g < (w1.setCell ⟨g, k * 2, none⟩ (.string (aB1 (k0 + 2 * k)))).heap.size := by simpa using a0.lt
  have hblk := a5.block g a8
  have b6 : w2.cell? ⟨g, k * 2 + 1, none⟩ = some (.string (aH7 (mkG k0 fs k) k)) := by
   rw [World.cell?_of_block (w := w1.setCell ⟨g, k * 2, none⟩ (.string (aB1 (k0 + 2 * k)))) hblk, World.cell?_setCell_other (h := fun e => by have := congrArg Addr.off e; simp at this)]
   exact a0.val k hlt
  have b7 : w2.frozen? ⟨g, k * 2 + 1, none⟩ = false := by
   rw [World.frozen?_of_block (w := w1.setCell ⟨g, k * 2, none⟩ (.string (aB1 (k0 + 2 * k)))) hblk, World.frozen?_setCell]; exact a0.frozen _
  have b4 : Below base w w2 := (a7.setCell a1.base _).trans (a5.mono (by have := a7.size; simp; omega));have a9 : w1.heap.size ≤ w2.heap.size := by have := a5.size; simpa using this
  have b5 : Hid (∀ j, j < w.heap.size → j ≠ g → (w2.setCell ⟨g, k * 2 + 1, none⟩ (.string (aB1 (k0 + 2 * k + 1)))).heap[j]? = w.heap[j]?) := fun j hj a2 => by
   have b8 : w.heap.size ≤ w1.heap.size := a7.size
   rw [heap_setCell_other _ _ j _ (fun e => a2 e), a5.block j (by simp; omega), heap_setCell_other _ _ j _ (fun e => a2 e)]
   exact b3.out j hj a2
  clear a5 a7;have b0 : Hid (aD9 base (w2.setCell ⟨g, k * 2 + 1, none⟩ (.string (aB1 (k0 + 2 * k + 1)))) g n cap (mkG k0 fs (k + 1))) := a0.set k hlt _ _ _ (aY2 hblk _ _) (by simpa using a9);clear hblk hc hf;go_wp2
  go_roundw
  case rel => exact ⟨k + 1, by omega, by go_num, by first | go_num | (congr 1; omega), b4.setCell a1.base _, b0, b5⟩
  case measure => simp [intOf]; omega
theorem bR8 (v : Value) (n base : Nat) (fs : Fs) (w : World) (h1 : w.ownsRow base 184 2 v n (aF3 fs)) (k0 : Nat) (hk0 : 1 ≤ k0) (hn : k0 + 2 * n ≤ 99999999) (hm : ∀ j, j < n → aC7 fs j = aB1 (k0 + 2 * j) ∧ aH7 fs j = aB1 (k0 + 2 * j + 1)) :
  Calls prog 121 #[v, .int .i64 (k0 : Int)] w fun e w' => e = .returned (.int .i64 ((k0 : Int) + 2 * (n : Int))) ∧ Below w.heap.size w w' := by
 rcases bF2 h1 with ⟨oa, ca, rfl, _, rfl, rfl⟩ | ⟨g, b1, rfl, hp, r1⟩
 ·clear hm;go_enter func121, ntmps121;go_wp2
  refine wp_loop_rounds 1 ?_;rw [rounds_succ];go_wp2
  go_ret;exact ⟨aQ4 (by simp), Below.refl _ _⟩
 clear h1;have HM := hid hm;clear hm;go_enter func121, ntmps121;go_wp2
 go_loopw [1, 5] (fun q i wr => ∃ k : Nat, k ≤ n ∧ i = .int .i64 (k : Int) ∧ q = .int .i64 ((k0 : Int) + 2 * (k : Int)) ∧ Bw w wr) (fun _ i _ => n - (intOf i).toNat)
 case atStart => exact ⟨0, Nat.zero_le _, rfl, by simp, Below.refl _ _⟩
 case round =>
  obtain ⟨k, hk, rfl, rfl, a0⟩ := hrel;by_cases hlt : k < n
  rotate_left
  ·obtain rfl : k = n := by omega
   go_wp2
   go_ret;exact ⟨rfl, a0⟩
  have a3 : (k : Int) < (n : Int) := by omega
  have HA : Hid (∀ w0 w1, Bw w w0 → Below w0.heap.size w0 w1 → (w1.cell? ⟨g, k * 2, none⟩ = some (.string (aB1 (k0 + 2 * k))) ∧ w1.cell? ⟨g, k * 2 + 1, none⟩ = some (.string (aB1 (k0 + 2 * k + 1)))) ∧ Bw w w1) := fun w0 w1 h h' => by
   have hx := h.trans (h'.mono h.size)
   have a1 := (r1.below hx r1.lt).name k hlt
   have a2 := (r1.below hx r1.lt).val k hlt
   rw [(HM.out k hlt).1] at a1
   rw [(HM.out k hlt).2] at a2
   exact ⟨⟨a1, a2⟩, hx⟩
  obtain ⟨⟨a4, a5⟩, _⟩ := HA.out wr wr a0 (Below.refl _ _);go_wp2
  go_region_held3 (fun w' => w'.cell? ⟨g, k * 2, none⟩ = some (.string (aB1 (k0 + 2 * k)))) (first | assumption | go_keep) (first | (go_at_call 117; refine (aE5 _ (k0 + 2 * k) _ (by omega) (by omega) (by omega)).mono ?_; rintro e w1 ⟨rfl, a6⟩; obtain ⟨⟨a7, b2⟩, a8⟩ := HA.out _ w1 a0.drew a6))
  clear a4 a5 a7;go_wp2
  go_region_held3 (fun w' => w'.cell? ⟨g, k * 2 + 1, none⟩ = some (.string (aB1 (k0 + 2 * k + 1)))) (first | assumption | go_keep) (first | (go_at_call 117; refine (aE5 _ (k0 + 2 * k + 1) _ (by omega) (by omega) (by omega)).mono ?_; rintro e w2 ⟨rfl, a9⟩; obtain ⟨⟨b3, b4⟩, b0⟩ := HA.out _ w2 a8.drew a9))
  go_wp2
  go_roundw
  case rel => exact ⟨k + 1, by omega, by go_num, by first | go_num | (congr 1; omega), b0⟩
  case measure => simp [intOf]; omega
def cM8 (L : Int) (n : Nat) (fs : Fs) (b : Tx) (w : World) (e : Ending) (w' : World) : Prop :=
 ∃ r : Int, e = .returned (.int .i64 r) ∧ r ≤ L ∧ (0 ≤ r → r + (n : Int) ≤ L ∧ b.size ≤ 1048576 ∧ n ≤ 1048576 ∧ szTo fs n ≤ 1048576) ∧ Below w.heap.size w w'
theorem bW4 (L : Int) (hL0 : 0 ≤ L) (hL1 : L ≤ 1048576) (m : Int) (a : Oa) (n cap : Nat) (b : Tx) (fs : Fs) (w : World) (harg : ArgF w w.heap.size a n fs) (hn : n ≤ maxLen) (hsz : aP6 n fs) (hb : b.size ≤ maxLen) :
  Calls prog 30 #[.agg #[.int .i64 m, .slice a n cap, .string b], .int .i64 L] w fun e w' => cM8 L n fs b w e w' := by
 unfold maxLen at hb;obtain ⟨r, hr⟩ := exq (w.heap.size)
 have HR : Hid (∀ W, Below (w.alloc (.cells #[.int .i64 m, .slice a n cap, .string b] 32)).heap.size (w.alloc (.cells #[.int .i64 m, .slice a n cap, .string b] 32)) W → (W.cell? ⟨r, 1, none⟩ = some (.slice a n cap) ∧ W.cell? ⟨r, 2, none⟩ = some (.string b)) ∧ ArgF W w.heap.size a n fs ∧ w.heap.size ≤ W.heap.size ∧ Bw w W) := fun W h => by
  have hh := bD7 h
  rw [← hr] at hh
  exact ⟨⟨by simp [World.cell?, hh], by simp [World.cell?, hh]⟩, harg.below (aJ8 h), (aJ8 h).size, aJ8 h⟩
 obtain ⟨⟨c2, c3⟩, a0, a5, _⟩ := HR.out _ (Below.refl _ _);have a6 := hid hsz;have HN := hid hn;have a2 := hid a0;clear harg hsz a0 hn;go_enter func30, ntmps30;rw [hr] at c2;go_wp2_with fail
 refine (bJ3 L (by omega) (by omega) w.heap.size a n cap fs _ a2.out a5 HN.out a6.out).mono ?_;rintro e w1 ⟨x, rfl, a7, a3, a4⟩;clear c2 c3;obtain ⟨⟨c2, c3⟩, _, _, a1⟩ := HR.out w1 a4;rw [← hr];clear a4 hr;by_cases hx0 : x < 0
 ·clear a3;go_wp2_with fail
  go_ret;exact ⟨-1, rfl, by omega, fun h => absurd h (by omega), a1⟩
 obtain ⟨h0, h1, h2⟩ := a3 (by omega);by_cases d2 : x - (b.size : Int) < 0
 ·go_wp2_with fail
  go_ret;exact ⟨-1, rfl, by omega, fun h => absurd h (by omega), a1⟩
 go_wp2_with fail
 go_ret;exact ⟨_, rfl, by omega, fun _ => ⟨by omega, by omega, h1, h2⟩, a1⟩
theorem aA3 {W W' : World} {r : Nat} {o : Obj} (h : W.heap[r]? = some o) (b : Below W.heap.size W W') : W'.heap[r]? = some o := by
 rw [b.block r (blt h)]; exact h
theorem aI8 {W : World} {r : Nat} {o : Obj} (h : W.heap[r]? = some o) (x : Obj) : (W.alloc x).heap[r]? = some o := by
 rw [Below.heap_alloc _ _ _ (blt h)]; exact h
theorem aA9 {W : World} {r : Nat} {cs : Array Value} {T t : TypeId} {base size n : Nat} {v : Value} {xs : List Value} (ho : W.ownsRow base t size v n xs) (h : W.heap[r]? = some (.cells cs T)) (hT : T ≠ t) (j : Nat) (hj : v.ownBlock = some j) : j ≠ r := fun e => by
 subst e
 rcases ho.2 with ⟨rfl, _⟩ | ⟨g, cap, cur, rfl, _, h1, _⟩
 · cases hj
 ·cases hj
  rw [h] at h1
  cases h1
  exact hT rfl
theorem cI8 {W W' : World} {r : Nat} {cs : Array Value} {T t : TypeId} {base size n : Nat} {v : Value} {xs : List Value} (h : W.heap[r]? = some (.cells cs T)) (far : Far v W W') (ho : W.ownsRow base t size v n xs) (hT : T ≠ t) : W'.heap[r]? = some (.cells cs T) := by
 rw [far r (blt h) (fun e => ?_)]
 ·exact h
 rcases ho.2 with ⟨rfl, _⟩ | ⟨g, a0, a1, rfl, _, h1, _⟩
 ·cases e
 cases e
 rw [h] at h1;cases h1
 exact hT rfl
theorem aB0 {W : World} {R : Nat} {cs : Array Value} {t : TypeId} (h : W.heap[R]? = some (.cells cs t)) (i : Nat) : W.cell? ⟨R, i, none⟩ = cs[i]? := by simp [World.cell?, h]
theorem aC9 {W : World} {R : Nat} {cs : Array Value} {t : TypeId} (h : W.heap[R]? = some (.cells cs t)) (i : Nat) : W.frozen? ⟨R, i, none⟩ = false := by simp [World.frozen?, h]
theorem aB4 {W : World} {b1 b2 z1 z2 n1 n2 : Nat} {t1 t2 : TypeId} {v1 v2 : Value} {xs ys : List Value} (h1 : W.ownsRow b1 t1 z1 v1 n1 xs) (h2 : W.ownsRow b2 t2 z2 v2 n2 ys) (ht : t1 ≠ t2) (j : Nat) (hj : v1.ownBlock = some j) : v2.ownBlock ≠ some j := fun e => by
 rcases h1.2 with ⟨rfl, _⟩ | ⟨g, cap, cur, rfl, _, k1, _⟩
 · cases hj
 ·cases hj
  rcases h2.2 with ⟨rfl, _⟩ | ⟨g2, cap2, cur2, rfl, _, k2, _⟩
  · cases e
  ·cases e
   rw [k1] at k2
   cases k2
   exact ht rfl
def SzTx (L : Int) (n : Nat) (xs : Ts) (w : World) (e : Ending) (w' : World) : Prop :=
 ∃ r : Int, e = .returned (.int .i64 r) ∧ r ≤ L ∧ (0 ≤ r → r + (n : Int) ≤ L ∧ n ≤ 1048576 ∧ ∀ i, i < n → (aA8 xs i).size ≤ 1048576) ∧ Below w.heap.size w w'
theorem aO6 (L : Int) (hL0 : 0 ≤ L) (hL1 : L ≤ 1048576) (B : Nat) (a : Oa) (n cap : Nat) (xs : Ts) (w : World) (harg : ArgT w B a n xs) (hB : B ≤ w.heap.size) (hn : n ≤ maxLen) (hsz : ∀ i, i < n → (aA8 xs i).size ≤ maxLen) :
  Calls prog 29 #[.slice a n cap, .int .i64 L] w fun e w' => SzTx L n xs w e w' := by
 unfold maxLen at hn;have HS := hid hsz;have HA : Hid (∀ W, Bw w W → ArgT W B a n xs) := fun W h => harg.below (h.mono hB)
 clear hsz harg;by_cases c1 : L - (n : Int) < 0
 ·go_enter func29, ntmps29;go_wp2
  go_ret;exact ⟨-1, rfl, by omega, fun h => absurd h (by omega), Below.refl _ _⟩
 go_enter func29, ntmps29;go_wp2
 go_loopw [1, 5] (fun l i wr => ∃ (k : Nat) (x : Int), k ≤ n ∧ i = .int .i64 (k : Int) ∧ l = .int .i64 x ∧ 0 ≤ x ∧ x + (n : Int) ≤ L ∧ Hid (∀ j, j < k → (aA8 xs j).size ≤ 1048576) ∧ Bw w wr) (fun _ i _ => n - (intOf i).toNat)
 case atStart => exact ⟨0, _, Nat.zero_le _, rfl, rfl, by omega, by omega, fun j hj => absurd hj (by omega), Below.refl _ _⟩
 case round =>
  obtain ⟨k, x, hk, rfl, rfl, a5, a1, HX, a0⟩ := hrel;by_cases hlt : k < n
  rotate_left
  ·have hF : Hid (n ≤ 1048576 ∧ ∀ i, i < n → (aA8 xs i).size ≤ 1048576) := ⟨by omega, fun i hi => HX.out i (by omega)⟩
   go_wp2
   go_ret;exact ⟨x, rfl, by omega, fun _ => ⟨a1, hF.out⟩, a0⟩
  have a2 : (k : Int) < (n : Int) := by omega
  obtain ⟨b, a6, rfl, a7, a3⟩ := (HA.out wr a0).get k hlt;have s1 := HS.out k hlt;obtain ⟨t, ht⟩ := exq (aA8 xs k);rw [← ht] at a3 s1;unfold maxLen at s1;by_cases d1 : x - (t.size : Int) < 0
  ·clear ht;go_wp2
   go_ret;exact ⟨-1, rfl, by omega, fun h => absurd h (by omega), a0⟩
  have a4 : Hid (∀ j, j < k + 1 → (aA8 xs j).size ≤ 1048576) := by
   intro j hj
   by_cases e : j = k
   ·rw [e, ← ht]; omega
   ·exact HX.out j (by omega)
  clear ht;go_wp2
  go_roundw
  case rel => exact ⟨k + 1, x - (t.size : Int), by omega, by go_num, by go_num, by omega, by omega, a4, a0⟩
  case measure => simp [intOf]; omega
theorem aI9 {w : World} {B base : Nat} {e : TypeId} {size : Nat} {v : Value} {n : Nat} {xs : List Value} (h : w.ownsRow base e size v n xs) (hB : ∀ g, v.ownBlock = some g → B ≤ g) : w.ownsRow B e size v n xs := by
 refine ⟨h.1, ?_⟩;rcases h.2 with h0 | ⟨g, a0, a1, rfl, _, h1⟩
 ·exact .inl h0
 exact .inr ⟨g, a0, a1, rfl, hB g rfl, h1⟩
def mkT (k0 : Nat) (xs : Ts) : Nat → Ts
 | 0 => xs
 | i + 1 => (mkT k0 xs i).set i (aB1 (k0 + i))
theorem bF9 (k0 : Nat) (xs : Ts) : ∀ i, (mkT k0 xs i).length = xs.length
 | 0 => rfl
 | i + 1 => by rw [mkT, List.length_set, bF9 k0 xs i]
theorem cI9 (k0 : Nat) (xs : Ts) (j : Nat) (hj : j < xs.length) : ∀ i, j < i → aA8 (mkT k0 xs i) j = aB1 (k0 + j) := by
 intro i;induction i with
 | zero => intro h; omega
 | succ i ih =>
  intro h
  unfold aA8
  rw [mkT]
  by_cases e : i = j
  ·subst e
   rw [List.getD_eq_getElem?_getD, List.getElem?_set_self (by rw [bF9]; exact hj)]
   rfl
  rw [List.getD_eq_getElem?_getD, List.getElem?_set_ne (by exact e), ← List.getD_eq_getElem?_getD]
  exact ih (by omega)
theorem aS8 (v : Value) (n base : Nat) (xs : Ts) (w : World) (h1 : w.ownsRow base 9 1 v n (xs.map Value.string)) (hb : base ≤ w.heap.size) (k0 : Nat) (hk0 : 1 ≤ k0) (hn : k0 + n ≤ 99999998) :
  Calls prog 54 #[v, .int .i64 (k0 : Int)] w fun e w' => e = .returned (.int .i64 ((k0 : Int) + (n : Int))) ∧ w'.ownsRow base 9 1 v n ((mkT k0 xs n).map Value.string) ∧ Below base w w' ∧ Far v w w' := by
 rcases aP8 h1 with ⟨oa, ca, rfl, rfl, rfl⟩ | ⟨g, cap, rfl, hp, r1⟩
 ·go_enter func54, ntmps54;go_wp2
  refine wp_loop_rounds 1 ?_;rw [rounds_succ];go_wp2
  go_ret;exact ⟨by simp, h1, Below.refl _ _, fun _ _ _ => rfl⟩
 clear h1;have a3 : Hid (aE8 base w g n cap xs) := r1;clear r1;go_enter func54, ntmps54;go_wp2
 go_loopw [1, 5] (fun k i wr => ∃ j : Nat, j ≤ n ∧ i = .int .i64 (j : Int) ∧ k = .int .i64 ((k0 : Int) + (j : Int)) ∧ Hid (w.grownBy wr (some g)) ∧ Hid (aE8 base wr g n cap (mkT k0 xs j))) (fun _ i _ => n - (intOf i).toNat)
 case atStart => exact ⟨0, Nat.zero_le _, rfl, by simp, World.grownBy.refl _ _, a3⟩
 case round =>
  obtain ⟨j, hj, rfl, rfl, HG, HR⟩ := hrel;by_cases hlt : j < n
  rotate_left
  ·obtain rfl : j = n := by omega
   go_wp2
   go_ret;have hg := HG.out;exact ⟨rfl, HR.out.owns, ⟨hg.os, hg.tape, hg.output, hg.size, fun i hi => hg.block i (Nat.lt_of_lt_of_le hi hb) (fun e => by have := HR.out.base; cases e; omega)⟩, fun i hi a2 => hg.block i hi (fun e => a2 e.symm)⟩
  have a4 : (j : Int) < (n : Int) := by omega
  go_wp2_with fail
  refine (aE5 _ (k0 + j) _ (by omega) (by omega) (by omega)).mono ?_;rintro e w1 ⟨rfl, a1⟩;have a0 := HR.out.below a1 HR.out.lt;have hc := a0.cell j hlt;have hf := a0.frozen j
  have a5 : Hid (w.grownBy (w1.setCell ⟨g, j, none⟩ (.string (aB1 (k0 + j)))) (some g)) := by
   have h0 := HG.out
   refine ⟨a1.os.trans h0.os, a1.tape.trans h0.tape, a1.output.trans h0.output, by rw [World.size_setCell]; exact Nat.le_trans h0.size a1.size, fun i hi a2 => ?_⟩
   rw [heap_setCell_other _ _ i _ (fun e => a2 (by rw [e]))]
   exact (a1.block i (Nat.lt_of_lt_of_le hi h0.size)).trans (h0.block i hi a2)
  have a6 : Hid (aE8 base (w1.setCell ⟨g, j, none⟩ (.string (aB1 (k0 + j)))) g n cap (mkT k0 xs (j + 1))) := a0.set j hlt _;clear a1 HG HR a0;go_wp2
  go_roundw
  case rel => exact ⟨j + 1, by omega, by go_num, by go_num, a5, a6⟩
  case measure => simp [intOf]; omega
theorem aS9 (v : Value) (n base : Nat) (xs : Ts) (w : World) (h1 : w.ownsRow base 9 1 v n (xs.map Value.string)) (k0 : Nat) (hk0 : 1 ≤ k0) (hn : k0 + n ≤ 99999998) (hm : ∀ j, j < n → aA8 xs j = aB1 (k0 + j)) :
  Calls prog 119 #[v, .int .i64 (k0 : Int)] w fun e w' => e = .returned (.int .i64 ((k0 : Int) + (n : Int))) ∧ Below w.heap.size w w' := by
 rcases aP8 h1 with ⟨oa, ca, rfl, rfl, rfl⟩ | ⟨g, a4, rfl, hp, r1⟩
 ·clear hm;go_enter func119, ntmps119;go_wp2
  refine wp_loop_rounds 1 ?_;rw [rounds_succ];go_wp2
  go_ret;exact ⟨by simp, Below.refl _ _⟩
 clear h1;have HM := hid hm;clear hm;go_enter func119, ntmps119;go_wp2
 go_loopw [1, 5] (fun k i wr => ∃ j : Nat, j ≤ n ∧ i = .int .i64 (j : Int) ∧ k = .int .i64 ((k0 : Int) + (j : Int)) ∧ Bw w wr) (fun _ i _ => n - (intOf i).toNat)
 case atStart => exact ⟨0, Nat.zero_le _, rfl, by simp, Below.refl _ _⟩
 case round =>
  obtain ⟨j, hj, rfl, rfl, a0⟩ := hrel;by_cases hlt : j < n
  rotate_left
  ·obtain rfl : j = n := by omega
   go_wp2
   go_ret;exact ⟨rfl, a0⟩
  have a3 : (j : Int) < (n : Int) := by omega
  have hc : wr.cell? ⟨g, j, none⟩ = some (.string (aB1 (k0 + j))) := by
   rw [← HM.out j hlt]; exact (r1.below a0 r1.lt).cell j hlt
  have a1 : ∀ w1, Below wr.heap.size wr w1 → w1.cell? ⟨g, j, none⟩ = some (.string (aB1 (k0 + j))) := fun w1 h => by
   rw [h.cell (p := ⟨g, j, none⟩) (by have := a0.size; have := r1.lt; show g < _; omega)]; exact hc
  have HA : Hid _ := a1;clear a1;go_wp2
  go_region_with (go_at_call 117; refine (aE5 _ (k0 + j) _ (by omega) (by omega) (by omega)).mono ?_; rintro e w1 ⟨rfl, a2⟩; have a5 := HA.out w1 (((Below.refl _ wr).drew).trans a2))
  all_goals
   go_wp2
   go_roundw
   case rel => exact ⟨j + 1, by omega, by go_num, by go_num, (a0.drew).trans (a2.mono a0.size)⟩
   case measure => simp [intOf]; omega
structure KpD where
 p : ByteArray
 xs : Ts
 ys : Ts
 st : Int
 fs : Fs
 b : ByteArray
 t : Int
 a : Int
 q : Int
abbrev Ks := List (KpD × Value × Value × Value)
def kpC (x : KpD × Value × Value × Value) : List Value := [.string x.1.p, x.2.1, x.2.2.1, .int .i64 x.1.st, x.2.2.2, .string x.1.b, .int .i64 x.1.t, .int .i64 x.1.a, .int .i64 x.1.q]
theorem aV1 (x : KpD × Value × Value × Value) : (kpC x).length = 9 := rfl
def kpN (x : KpD × Value × Value × Value) : Rw := ⟨9, 1, x.2.1, x.1.xs.length, x.1.xs.map Value.string⟩
def kpV (x : KpD × Value × Value × Value) : Rw := ⟨9, 1, x.2.2.1, x.1.ys.length, x.1.ys.map Value.string⟩
def kpF (x : KpD × Value × Value × Value) : Rw := ⟨184, 2, x.2.2.2, x.1.fs.length, aF3 x.1.fs⟩
def kpR (x : KpD × Value × Value × Value) : List Rw := [kpN x, kpV x, kpF x]
def aH8 (V : Value) (kv : Ks) : Rw := ⟨82, 9, V, kv.length, kv.flatMap kpC⟩
def aC5 (V : Value) (kv : Ks) : List Rw := aH8 V kv :: kv.flatMap kpR
def aB8 (w : World) (base : Nat) (V : Value) (kv : Ks) : Prop := aA2 w base (aC5 V kv)
theorem aB8.row {w : World} {base : Nat} {V : Value} {kv : Ks} (h : aB8 w base V kv) : w.ownsRow base 82 9 V kv.length (kv.flatMap kpC) := h.own (aH8 V kv) (by simp [aC5])
theorem aB8.names {w : World} {base : Nat} {V : Value} {kv : Ks} (h : aB8 w base V kv) {x : KpD × Value × Value × Value} (hx : x ∈ kv) : w.ownsRow base 9 1 x.2.1 x.1.xs.length (x.1.xs.map Value.string) := h.own (kpN x) (List.mem_cons_of_mem _ (List.mem_flatMap.2 ⟨x, hx, by simp [kpR]⟩))
theorem aB8.vals {w : World} {base : Nat} {V : Value} {kv : Ks} (h : aB8 w base V kv) {x : KpD × Value × Value × Value} (hx : x ∈ kv) : w.ownsRow base 9 1 x.2.2.1 x.1.ys.length (x.1.ys.map Value.string) := h.own (kpV x) (List.mem_cons_of_mem _ (List.mem_flatMap.2 ⟨x, hx, by simp [kpR]⟩))
theorem aB8.flds {w : World} {base : Nat} {V : Value} {kv : Ks} (h : aB8 w base V kv) {x : KpD × Value × Value × Value} (hx : x ∈ kv) : w.ownsRow base 184 2 x.2.2.2 x.1.fs.length (aF3 x.1.fs) := h.own (kpF x) (List.mem_cons_of_mem _ (List.mem_flatMap.2 ⟨x, hx, by simp [kpR]⟩))
theorem aB8.below {w w' : World} {base : Nat} {V : Value} {kv : Ks} (h : aB8 w base V kv) (hb : Below w.heap.size w w') : aB8 w' base V kv := aA2.below h hb
structure KpAt (w : World) (g i : Nat) (x : KpD × Value × Value × Value) : Prop where
 c0 : w.cell? ⟨g, i * 9, none⟩ = some (.string x.1.p)
 c1 : w.cell? ⟨g, i * 9 + 1, none⟩ = some x.2.1
 c2 : w.cell? ⟨g, i * 9 + 2, none⟩ = some x.2.2.1
 c3 : w.cell? ⟨g, i * 9 + 3, none⟩ = some (.int .i64 x.1.st)
 c4 : w.cell? ⟨g, i * 9 + 4, none⟩ = some x.2.2.2
 c5 : w.cell? ⟨g, i * 9 + 5, none⟩ = some (.string x.1.b)
 c6 : w.cell? ⟨g, i * 9 + 6, none⟩ = some (.int .i64 x.1.t)
 c7 : w.cell? ⟨g, i * 9 + 7, none⟩ = some (.int .i64 x.1.a)
 c8 : w.cell? ⟨g, i * 9 + 8, none⟩ = some (.int .i64 x.1.q)
theorem aB8.at {w : World} {base : Nat} {V : Value} {kv : Ks} (h : aB8 w base V kv) (i : Nat) (hi : i < kv.length) : ∃ g cap, V = .slice (some ⟨g, 0, none⟩) kv.length cap ∧ g < w.heap.size ∧ KpAt w g i (kv[i]'hi) := by
 have hr := h.row;rcases hr.2 with ⟨_, h0⟩ | ⟨g, cap, a1, rfl, _, h1, _⟩
 ·omega
 have a0 : ∀ j, j < 9 → ∀ u, (kpC (kv[i]'hi))[j]? = some u → w.cell? ⟨g, i * 9 + j, none⟩ = some u := fun j hj u hu => (aW2 hr (i * 9 + j) u (by rw [bD6 kpC 9 aV1 kv i j hi hj]; exact hu)).1
 exact ⟨g, cap, rfl, (blt h1), ⟨a0 0 (by decide) _ rfl, a0 1 (by decide) _ rfl, a0 2 (by decide) _ rfl, a0 3 (by decide) _ rfl, a0 4 (by decide) _ rfl, a0 5 (by decide) _ rfl, a0 6 (by decide) _ rfl, a0 7 (by decide) _ rfl, a0 8 (by decide) _ rfl⟩⟩
theorem aB8.len {w : World} {base : Nat} {V : Value} {kv : Ks} (h : aB8 w base V kv) : ∃ oa cp, V = .slice oa kv.length cp := aA0 h.row
theorem bW5 (y0 : Int) (y1 : Tx) (w : World) :
  Calls prog 135 #[.agg #[.int .i64 y0, .string y1]] w fun e w' => e = .returned (.agg #[.int .i64 y0, .string y1]) ∧ Below w.heap.size w w' := by
 have K0 := jnil w;go_enter func135, ntmps135;go_upto_region 1 with fail
 obtain ⟨q1, a5⟩ := exq (w.heap.size);obtain ⟨w1, a0⟩ := exq (w.alloc (.cells #[.int .i64 y0, .string y1] 154));have a6 := a5.symm;rw [← a0]; try rw [← a5];have b7 := hsa a0 a6;have bw := bal a0;have K1 := ja K0 a0 a6;clear bw a0 a6 K0;obtain ⟨q2, a7⟩ := exq (q1 + 1);obtain ⟨w2, a1⟩ := exq (w1.alloc (.cells #[.int .i64 0, .string ⟨#[]⟩] 155));have a8 : w1.heap.size = q2 := by rw [a7]; exact b7
 rw [← a1]; try rw [← a7];have b8 := hsa a1 a8;have bw := bal a1;have K2 := ja K1 a1 a8;clear bw a1 a8 K1;clear b8 a7 b7 a5;go_upto_region 2 with fail
 obtain ⟨q3, a9⟩ := exq (w2.heap.size);obtain ⟨w3, a2⟩ := exq (w2.alloc (.cells #[.int .i64 0, .string ⟨#[]⟩] 155));have b0 := a9.symm;rw [← a2]; try rw [← a9];have b9 := hsa a2 b0;have bw := bal a2;have K3 := ja K2 a2 b0;clear bw a2 b0 K2;clear b9 a9;have b1 := c2c (jb K3 2 rfl);have a3 := c2f (jb K3 0 rfl);go_upto_region 3 with fail
 obtain ⟨w4, b2⟩ := exq (w3.setCell ⟨q3, 0, none⟩ (.int .i64 y0));rw [← b2];have K4 := js K3 0 b2;clear b2 K3;clear b1 a3;have b3 := c2c (jb K4 2 rfl);have b4 := c2f (jb K4 0 rfl);go_upto_region 4 with fail
 obtain ⟨w5, b5⟩ := exq (w4.setCell ⟨q3, 1, none⟩ (.string y1));rw [← b5];have K5 := js K4 0 b5;clear b5 K4;clear b3 b4;have c0 := c2f (jb K5 1 rfl);have a3 := c2c (jb K5 0 rfl);go_wp2_with fail
 obtain ⟨w7, b6⟩ := exq ((w5.setCell ⟨q2, 0, none⟩ (.int .i64 y0)).setCell ⟨q2, 1, none⟩ (.string y1));rw [← b6];have K7 := jss K5 1 [(0, _), (1, _)] b6;clear b6 K5;have a4 := c2c (jb K7 1 rfl);refine bodyPost_ret (v := .agg #[.int .i64 y0, .string y1]) (by simp [results, results135, go_sem, a4]) rfl ?_;exact ⟨rfl, K7.hb⟩
def cP6 (L : Int) (y1 : Tx) (w : World) (e : Ending) (w' : World) : Prop := ∃ r : Int, e = .returned (.int .i64 r) ∧ r ≤ L ∧ (0 ≤ r → y1.size ≤ 1048576) ∧ Below w.heap.size w w'
theorem bW6 (L : Int) (hL0 : 0 ≤ L) (hL1 : L ≤ 1048576) (y0 : Int) (y1 : Tx) (w : World) (hy1 : y1.size ≤ maxLen) :
  Calls prog 128 #[.agg #[.int .i64 y0, .string y1], .int .i64 L] w fun e w' => cP6 L y1 w e w' := by
 unfold maxLen at hy1;have K0 := jnil w;go_enter func128, ntmps128;go_upto_region 1 with fail
 obtain ⟨q1, a1⟩ := exq (w.heap.size);obtain ⟨w1, a0⟩ := exq (w.alloc (.cells #[.int .i64 y0, .string y1] 154));have a2 := a1.symm;rw [← a0]; try rw [← a1];have a3 := hsa a0 a2;have bw := bal a0;have K1 := ja K0 a0 a2;clear bw a0 a2 K0;clear a3 a1;have a4 := c2c (jb K1 0 rfl);by_cases hc1 : (L - (y1.size : Int)) < 0
 rotate_left
 ·go_wp2_with fail
  go_ret;exact ⟨_, rfl, by omega, fun _ => (by omega), K1.hb⟩
 go_wp2_with fail
 go_ret;exact ⟨-1, rfl, by omega, fun h => absurd h (by omega), K1.hb⟩
theorem bW7 (y0 : Int) (y1 : Tx) (w : World) :
  Calls prog 151 #[.agg #[.int .i64 y0, .string y1], .agg #[.int .i64 y0, .string y1]] w fun e w' => e = .returned (.bool true) ∧ Below w.heap.size w w' := by
 have a7 : (y0 != y0) = false := by simp
 have a8 : (y1.toList != y1.toList) = false := by simp
 have K0 := jnil w;go_enter func151, ntmps151;go_upto_region 1 with fail
 obtain ⟨q1, a2⟩ := exq (w.heap.size);obtain ⟨w1, a0⟩ := exq (w.alloc (.cells #[.int .i64 y0, .string y1] 155));have a3 := a2.symm;rw [← a0]; try rw [← a2];have a6 := hsa a0 a3;have bw := bal a0;have K1 := ja K0 a0 a3;clear bw a0 a3 K0;obtain ⟨q2, a4⟩ := exq (q1 + 1);obtain ⟨w2, a1⟩ := exq (w1.alloc (.cells #[.int .i64 y0, .string y1] 155));have a5 : w1.heap.size = q2 := by rw [a4]; exact a6
 rw [← a1]; try rw [← a4];have a9 := hsa a1 a5;have bw := bal a1;have K2 := ja K1 a1 a5;clear bw a1 a5 K1;clear a9 a4 a6 a2;have b0 := c2c (jb K2 1 rfl);have b1 := c2c (jb K2 0 rfl);go_wp2_with fail
 go_ret;exact ⟨rfl, K2.hb⟩
theorem aT0 {w : World} {base : Nat} {t : TypeId} {size g n cap : Nat} {xs : List Value} (h : w.ownsRow base t size (.slice (some ⟨g, 0, none⟩) n cap) n xs) (o : Nat) (u : Value) : (w.setCell ⟨g, o, none⟩ u).ownsRow base t size (.slice (some ⟨g, 0, none⟩) n cap) n (xs.set o u) := by
 obtain ⟨hl, hv⟩ := h;refine ⟨by simpa using hl, ?_⟩;rcases hv with ⟨e, _⟩ | ⟨g', a0, a1, e, h1, h2, h3, h4, h5, h6⟩
 ·cases e
 cases e
 refine .inr ⟨g, cap, _, rfl, h1, aD0 w g o a1 t (0, 0) u h2, h3, h4, by simpa using h5, ?_⟩;rw [Array.toList_setIfInBounds, List.take_set, h6]
theorem aX8 {w : World} {base : Nat} {t : TypeId} {size g n cap : Nat} {xs : List Value} (h : w.ownsRow base t size (.slice (some ⟨g, 0, none⟩) n cap) n xs) (o : Nat) (u : Value) (ho : xs[o]? = some u) : w.cell? ⟨g, o, none⟩ = some u ∧ w.frozen? ⟨g, o, none⟩ = false := by
 obtain ⟨hl, hv⟩ := h;rcases hv with ⟨e, _⟩ | ⟨g', a0, a1, e, h1, h2, h3, h4, h5, h6⟩
 ·cases e
 cases e
 refine ⟨?_, by simp [World.frozen?, h2]⟩;rw [← h6, List.getElem?_take] at ho;split at ho
 ·simpa [World.cell?, h2] using ho
 cases ho
theorem aJ0 {w : World} {base : Nat} {t : TypeId} {size n cap : Nat} {oa : Oa} {xs : List Value} (h : w.ownsRow base t size (.slice oa n cap) n xs) (hn : 0 < n) : ∃ g, oa = some ⟨g, 0, none⟩ := by
 rcases h.2 with ⟨e, h0⟩ | ⟨g, a0, a1, e, _⟩
 ·omega
 cases e; exact ⟨g, rfl⟩
def aC2 (l : List (Int × ByteArray)) (i : Nat) : (Int × ByteArray) := l.getD i (0, ⟨#[]⟩)
def aK0 (x : (Int × ByteArray)) : List Value := [.int .i64 x.1, .string x.2]
def aA1 (l : List (Int × ByteArray)) : List Value := l.flatMap aK0
theorem aK1 (l : List (Int × ByteArray)) : (aA1 l).length = l.length * 2 := by
 induction l with
 | nil => rfl
 | cons f r ih => simp only [aA1, aK0, List.flatMap_cons, List.length_append, List.length_cons, List.length_nil] at ih ⊢; omega
theorem aK2 : ∀ (l : List (Int × ByteArray)) (i : Nat), i < l.length → (aA1 l)[i * 2]? = some (.int .i64 ((aC2 l i).1)) ∧ (aA1 l)[i * 2 + 1]? = some (.string ((aC2 l i).2))
 | [], i, h => by simp at h
 | f :: r, 0, _ => by simp [aA1, aK0, aC2]
 | f :: r, i + 1, h => by
  have ih := aK2 r i (by simpa using h)
  have e : aA1 (f :: r) = aK0 f ++ aA1 r := rfl
  have hl : (aK0 f).length = 2 := rfl
  have h2 : aC2 (f :: r) (i + 1) = aC2 r i := by simp [aC2]
  have key : ∀ j, (aA1 (f :: r))[i * 2 + 2 + j]? = (aA1 r)[i * 2 + j]? := fun j => by
   rw [e, List.getElem?_append_right (by rw [hl]; omega), hl]; congr 1; omega
  rw [h2]
  refine ⟨(by rw [show (i + 1) * 2 = i * 2 + 2 + 0 by omega, key]; exact ih.1), (by rw [show (i + 1) * 2 + 1 = i * 2 + 2 + 1 by omega, key]; exact ih.2)⟩
theorem aI0 (l : List (Int × ByteArray)) (i : Nat) (h : i < l.length) : aC2 l i ∈ l := by
 unfold aC2;rw [List.getD_eq_getElem?_getD, List.getElem?_eq_getElem h];exact List.getElem_mem h
theorem aP9 (l : List (Int × ByteArray)) (i : Nat) (h : i < l.length) : l.take (i + 1) = l.take i ++ [aC2 l i] := by
 unfold aC2;rw [List.getD_eq_getElem?_getD, List.getElem?_eq_getElem h, List.take_succ_eq_append_getElem h];rfl
theorem aU2 (a b : List (Int × ByteArray)) : aA1 (a ++ b) = aA1 a ++ aA1 b := by simp [aA1]
theorem aQ5 (l : List (Int × ByteArray)) : ∀ u ∈ aA1 l, u.oneCell' = true := by
 intro u hu;obtain ⟨x, _, hx⟩ := List.mem_flatMap.1 hu;simp only [aK0, List.mem_cons, List.not_mem_nil, or_false] at hx
 rcases hx with rfl | rfl <;> rfl
theorem aY4 (x : (Int × ByteArray)) : aA1 [x] = aK0 x := by simp [aA1]
def aO7 (w : World) (oa : Oa) (n : Nat) (l : List (Int × ByteArray)) : Prop :=
 l.length = n ∧ ∀ i, i < n → ∃ g, oa = some ⟨g, 0, none⟩ ∧ g < w.heap.size ∧ w.cell? ⟨g, i * 2, none⟩ = some (.int .i64 ((aC2 l i).1)) ∧ w.cell? ⟨g, i * 2 + 1, none⟩ = some (.string ((aC2 l i).2))
theorem aO7.below {w W : World} {oa : Oa} {n : Nat} {l : List (Int × ByteArray)} (h : aO7 w oa n l) (hb : Below w.heap.size w W) : aO7 W oa n l :=
 ⟨h.1, fun i hi => by
  obtain ⟨g, h1, h2, r0, r1⟩ := h.2 i hi
  exact ⟨g, h1, Nat.lt_of_lt_of_le h2 hb.size, by rw [hb.cell (p := ⟨g, i * 2, none⟩) h2]; exact r0, by rw [hb.cell (p := ⟨g, i * 2 + 1, none⟩) h2]; exact r1⟩⟩
def aG4 (w : World) (B : Nat) (a : Oa) (n : Nat) (l : List (Int × ByteArray)) : Prop :=
 l.length = n ∧ ∀ i, i < n → ∃ b off, a = some ⟨b, off, none⟩ ∧ b < B ∧ w.cell? ⟨b, off + i * 2, none⟩ = some (.int .i64 ((aC2 l i).1)) ∧ w.cell? ⟨b, off + i * 2 + 1, none⟩ = some (.string ((aC2 l i).2))
theorem aG4.below {w w' : World} {B : Nat} {a : Oa} {n : Nat} {l : List (Int × ByteArray)} (h : aG4 w B a n l) (hb : Below B w w') : aG4 w' B a n l :=
 ⟨h.1, fun i hi => by
  obtain ⟨b, off, h1, h2, r0, r1⟩ := h.2 i hi
  exact ⟨b, off, h1, h2, by rw [hb.cell (p := ⟨b, off + i * 2, none⟩) h2]; exact r0, by rw [hb.cell (p := ⟨b, off + i * 2 + 1, none⟩) h2]; exact r1⟩⟩
def aD7 (w : World) (g n k : Nat) (l : List (Int × ByteArray)) : Prop :=
 ∃ cur, w.heap[g]? = some (.cells cur 155 (0, 0)) ∧ cur.size = n * 2 ∧ ∀ i, i < k → cur[i * 2]? = some (.int .i64 ((aC2 l i).1)) ∧ cur[i * 2 + 1]? = some (.string ((aC2 l i).2))
theorem aD7.below {w w' : World} {g n k B : Nat} {l : List (Int × ByteArray)} (h : aD7 w g n k l) (hb : Below B w w') (hB : g < B) : aD7 w' g n k l := by
 obtain ⟨a0, h1, h2⟩ := h;exact ⟨a0, by rw [hb.block g hB]; exact h1, h2⟩
theorem aD7.lt {w : World} {g n k : Nat} {l : List (Int × ByteArray)} (h : aD7 w g n k l) : g < w.heap.size := by
 obtain ⟨a0, h1, _⟩ := h;exact (blt h1)
theorem aD7.cell {w : World} {g n k : Nat} {l : List (Int × ByteArray)} (h : aD7 w g n k l) (j : Nat) (hj : j < n * 2) : ∃ u, w.cell? ⟨g, j, none⟩ = some u := by
 obtain ⟨a0, h1, h2, _⟩ := h;refine ⟨a0[j]'(by omega), ?_⟩;simp only [World.cell?, h1]
 simp [show j < a0.size by omega]
theorem aD7.frozen {w : World} {g n k : Nat} {l : List (Int × ByteArray)} (h : aD7 w g n k l) (j : Nat) : w.frozen? ⟨g, j, none⟩ = false := by
 obtain ⟨a0, h1, _⟩ := h;simp [World.frozen?, h1]
theorem aD7.put {w : World} {g n k : Nat} {l : List (Int × ByteArray)} (h : aD7 w g n k l) (hk : k < n) : aD7 ((w.setCell ⟨g, k * 2, none⟩ (.int .i64 (aC2 l k).1)).setCell ⟨g, k * 2 + 1, none⟩ (.string (aC2 l k).2)) g n (k + 1) l := by
 obtain ⟨a0, h1, h2, h3⟩ := h;refine ⟨_, aD0 _ g (k * 2 + 1) _ _ _ _ (aD0 _ g (k * 2) _ _ _ _ h1), by simpa using h2, ?_⟩;intro i hi;by_cases e : i = k
 ·subst e;exact ⟨by rw [Array.getElem?_setIfInBounds_ne (by omega), Array.getElem?_setIfInBounds_self_of_lt (by first | omega | (simp; omega))], by rw [Array.getElem?_setIfInBounds_self_of_lt (by first | omega | (simp; omega))]⟩
 have := h3 i (by omega);exact ⟨by rw [Array.getElem?_setIfInBounds_ne (by omega), Array.getElem?_setIfInBounds_ne (by omega)]; exact this.1, by rw [Array.getElem?_setIfInBounds_ne (by omega), Array.getElem?_setIfInBounds_ne (by omega)]; exact this.2⟩
theorem aD7.owns {w : World} {g n : Nat} {l : List (Int × ByteArray)} (h : aD7 w g n n l) (hl : l.length = n) (hm : n ≤ maxLen) {base : Nat} (hb : base ≤ g) : w.ownsRow base 155 2 (.slice (some ⟨g, 0, none⟩) n n) n (aA1 l) := by
 obtain ⟨a1, hg, hs, hc⟩ := h;refine ⟨by rw [aK1, hl], .inr ⟨g, n, a1, rfl, hb, hg, Nat.le_refl _, hm, hs, ?_⟩⟩;apply List.ext_getElem?
 intro j;rw [List.getElem?_take];by_cases hj : j < n * 2
 rotate_left
 ·rw [if_neg hj, List.getElem?_eq_none (by rw [aK1]; omega)]
 rw [if_pos hj];have hf := aK2 l (j / 2) (by omega);have a0 := hc (j / 2) (by omega);have hr : j = (j / 2) * 2 ∨ j = (j / 2) * 2 + 1 := by omega
 rcases hr with e | e
 ·have e2 := hf.1;have e3 := a0.1;rw [← e] at e2 e3;rw [e2]; simpa using e3
 have e2 := hf.2;have e3 := a0.2;rw [← e] at e2 e3;rw [e2]; simpa using e3
theorem aG0 {w : World} {base n cap : Nat} {oa : Oa} {l : List (Int × ByteArray)} (h : w.ownsRow base 155 2 (.slice oa n cap) n (aA1 l)) : aO7 w oa n l := by
 obtain ⟨hl, hv⟩ := h;rw [aK1] at hl;refine ⟨by omega, fun i hi => ?_⟩
 rcases hv with ⟨e, h0⟩ | ⟨g, cap, a1, e, hb, hg, hn, hm, a2, a0⟩
 ·omega
 cases e
 have hf := aK2 l i (by omega);rw [← a0] at hf;simp only [List.getElem?_take] at hf
 rw [if_pos (by omega), if_pos (by omega)] at hf;refine ⟨g, rfl, (blt hg), by simp only [World.cell?, hg]; simpa using hf.1, by simp only [World.cell?, hg]; simpa using hf.2⟩
theorem aM5 {w : World} {base n : Nat} {v : Value} {l : List (Int × ByteArray)} (h : w.ownsRow base 155 2 v n (aA1 l)) : l.length = n := by
 have := h.1;rw [aK1] at this;omega
theorem aV2 : (prog.info? 155).map (fun i => (i.zero, i.size, i.bytes)) = some (some (.agg #[.int .i64 0, .string ⟨#[]⟩]), 2, 24) := by kernel_rfl
def cM9 (L : Int) (n : Nat) (l : List (Int × ByteArray)) (w : World) (e : Ending) (w' : World) : Prop :=
 ∃ r : Int, e = .returned (.int .i64 r) ∧ r ≤ L ∧ (0 ≤ r → r + (n : Int) ≤ L ∧ n ≤ 1048576 ∧ ∀ x ∈ l, (x.2).size ≤ 1048576) ∧ Below w.heap.size w w'
theorem bN9 (L : Int) (hL0 : 0 ≤ L) (hL1 : L ≤ 1048576) (B : Nat) (a : Oa) (n cap : Nat) (l : List (Int × ByteArray)) (w : World) (harg : aG4 w B a n l) (hB : B ≤ w.heap.size) (hn : n ≤ maxLen) (hsz : ∀ x ∈ l, (x.2).size ≤ maxLen) :
  Calls prog 64 #[.slice a n cap, .int .i64 L] w fun e w' => cM9 L n l w e w' := by
 unfold maxLen at hn;have HS := hid hsz;have a1 : Hid (l.length = n) := harg.1;have HA : Hid (∀ W, Bw w W → aG4 W B a n l) := fun W h => harg.below (h.mono hB)
 clear hsz harg;by_cases c1 : L - (n : Int) < 0
 ·go_enter func64, ntmps64;go_wp2
  go_ret;exact ⟨-1, rfl, by omega, fun h => absurd h (by omega), Below.refl _ _⟩
 go_enter func64, ntmps64;go_wp2
 go_loopw [1, 5] (fun lf i wr => ∃ (k : Nat) (x : Int), k ≤ n ∧ i = .int .i64 (k : Int) ∧ lf = .int .i64 x ∧ 0 ≤ x ∧ x + (n : Int) ≤ L ∧ Hid (∀ x ∈ l.take k, (x.2).size ≤ 1048576) ∧ Hid (Bw w wr)) (fun _ i _ => n - (intOf i).toNat)
 case atStart => exact ⟨0, _, Nat.zero_le _, rfl, rfl, by omega, by omega, fun x hx => by simp at hx, Below.refl _ _⟩
 case round =>
  obtain ⟨k, x, hk, rfl, rfl, a4, a8, HX, a0⟩ := hrel;by_cases hlt : k < n
  rotate_left
  ·have HF : Hid (n ≤ 1048576 ∧ ∀ x ∈ l, (x.2).size ≤ 1048576) := ⟨by omega, fun x hx => HX.out x (by rw [List.take_of_length_le (by rw [a1.out]; omega)]; exact hx)⟩
   go_wp2
   go_ret;exact ⟨x, rfl, by omega, fun _ => ⟨by omega, HF.out⟩, a0.out⟩
  have a5 : (k : Int) < (n : Int) := by omega
  obtain ⟨b, a9, rfl, b0, r0, r1⟩ := (HA.out wr a0.out).2 k hlt;obtain ⟨y, hy⟩ := exq (aC2 l k);have HM : Hid (y ∈ l) := by show _ ∈ _; rw [hy]; exact aI0 l k (by rw [a1.out]; exact hlt)
  have a6 : Hid (l.take (k + 1) = l.take k ++ [y]) := by show _ = _; rw [hy]; exact aP9 l k (by rw [a1.out]; exact hlt)
  have s1 := HS.out y HM.out;rw [← hy] at r0 r1;clear hy;obtain ⟨y0, y1⟩ := y;go_wp2_with fail
  refine (bW6 x a4 (by omega) y0 y1 _ s1).mono ?_;rintro e w1 ⟨r, rfl, b1, a2, bw⟩;have a3 : Hid (Bw w w1) := a0.out.trans (bw.mono a0.out.size);clear r0 r1 bw;by_cases d1 : r < 0
  ·clear a2;go_wp2
   go_ret;exact ⟨-1, rfl, by omega, fun h => absurd h (by omega), a3.out⟩
  have a7 : Hid (∀ x ∈ l.take (k + 1), (x.2).size ≤ 1048576) := fun x hx => by
   rw [a6.out] at hx
   rcases List.mem_append.1 hx with hx | hx
   ·exact HX.out x hx
   ·rw [List.mem_singleton.1 hx]; exact a2 (by omega)
  clear a2;go_wp2
  go_roundw
  case rel => exact ⟨k + 1, r, by omega, by go_num, rfl, by omega, by omega, a7, a3⟩
  case measure => simp [intOf]; omega
theorem bR9 (B : Nat) (a : Oa) (n cap : Nat) (l : List (Int × ByteArray)) (w : World) (harg : aG4 w B a n l) (hB : B ≤ w.heap.size) (hn : n ≤ 1048576) :
  Calls prog 74 #[.slice a n cap] w fun e w' => ∃ v, e = .returned v ∧ w'.ownsRow w.heap.size 155 2 v n (aA1 l) ∧ Below w.heap.size w w' := by
 obtain ⟨i0, hi, a4, a5, a6⟩ := info_parts aV2;obtain ⟨M, hM⟩ : ∃ M, M = madeCells (Value.agg #[.int .i64 0, .string ⟨#[]⟩]).cells (((n : Nat) : Int).toNat * i0.size) := ⟨_, rfl⟩
 have b1 : ∀ W : World, (Instr.makeSlice 37 (.int .i64 (n : Int)) (.int .i64 (n : Int))).run prog W = .ok (.slice (some ⟨W.heap.size, 0, none⟩) n n) (W.alloc (.cells M 155)) := fun W => by
  have h := run_make (P := prog) W 37 155 i0 (.agg #[.int .i64 0, .string ⟨#[]⟩]) underlying37 hi a4 .i64 .i64 (n : Int) (n : Int) (by omega) (by omega) (by rw [a6]; omega) (by omega)
  rw [← hM] at h
  simpa using h
 have a7 : M.size = n * 2 := by rw [hM, size_madeCells, a5]; simp
 have a8 : Hid (l.length = n) := harg.1;have HA : Hid (∀ W, Bw w W → aG4 W B a n l) := fun W h => harg.below (h.mono hB)
 clear hM harg;have HP : Hid (aD7 (w.alloc (.cells M 155)) w.heap.size n 0 l) := ⟨M, heap_alloc_new w _, a7, fun i h => absurd h (by omega)⟩
 go_enter func74, ntmps74;go_wp2
 go_loopw [4] (fun i wr => ∃ k : Nat, k ≤ n ∧ i = .int .i64 (k : Int) ∧ Hid (aD7 wr w.heap.size n k l) ∧ Hid (Bw w wr)) (fun i _ => n - (intOf i).toNat)
 case atStart => exact ⟨0, Nat.zero_le _, rfl, HP, (Below.refl _ _).alloc (Nat.le_refl _) _⟩
 case round =>
  obtain ⟨k, hk, rfl, a2, a1⟩ := hrel;by_cases hlt : k < n
  rotate_left
  ·obtain rfl : k = n := by omega
   go_wp2
   go_ret;exact ⟨_, rfl, a2.out.owns a8.out (by unfold maxLen; omega) (Nat.le_refl _), a1.out⟩
  have a9 : (k : Int) < (n : Int) := by omega
  obtain ⟨b, b2, rfl, b3, r0, r1⟩ := (HA.out wr a1.out).2 k hlt;obtain ⟨y, hy⟩ := exq (aC2 l k);rw [← hy] at r0 r1;have HY : Hid (aC2 l k = y) := hy.symm;clear hy;obtain ⟨y0, y1⟩ := y;go_wp2_with fail
  refine (bW5 y0 y1 _).mono ?_;rintro e w1 ⟨rfl, bw⟩;have a0 := a2.out.below bw a2.out.lt;have b0 : Hid (Bw w w1) := a1.out.trans (bw.mono a1.out.size);obtain ⟨u0, b4⟩ := a0.cell (k * 2) (by omega);have f0 := a0.frozen (k * 2);obtain ⟨u1, b5⟩ := a0.cell (k * 2 + 1) (by omega);have f1 := a0.frozen (k * 2 + 1);have hput := a0.put hlt;rw [HY.out] at hput;have a3 : Hid _ := hput;clear hput r0 r1 bw;go_wp2
  go_roundw
  case rel => exact ⟨k + 1, by omega, by go_num, a3, (b0.out.setCell (Nat.le_refl _) _).setCell (Nat.le_refl _) _⟩
  case measure => simp [intOf]; omega
theorem bS0 (o1 o2 : Oa) (n c1 c2 : Nat) (l : List (Int × ByteArray)) (w : World) (h1 : aO7 w o1 n l) (h2 : aO7 w o2 n l) (hn : n ≤ 2000000) :
  Calls prog 83 #[.slice o1 n c1, .slice o2 n c2] w fun e w' => e = .returned (.bool true) ∧ Below w.heap.size w w' := by
 have H1 : Hid (∀ W, Bw w W → aO7 W o1 n l) := fun W h => h1.below h
 have H2 : Hid (∀ W, Bw w W → aO7 W o2 n l) := fun W h => h2.below h
 clear h1 h2;go_enter func83, ntmps83;go_wp2
 go_loopw [5] (fun i wr => ∃ k : Nat, k ≤ n ∧ i = .int .i64 (k : Int) ∧ Hid (Bw w wr)) (fun i _ => n - (intOf i).toNat)
 case atStart => exact ⟨0, Nat.zero_le _, rfl, Below.refl _ _⟩
 case round =>
  obtain ⟨k, hk, rfl, a2⟩ := hrel;by_cases hlt : k < n
  rotate_left
  ·go_wp2
   go_ret;exact ⟨rfl, a2.out⟩
  have a5 : (k : Int) < (n : Int) := by omega
  obtain ⟨y, hy⟩ := exq (aC2 l k);obtain ⟨g1, rfl, a3, a0, a1⟩ := (H1.out wr a2.out).2 k hlt;obtain ⟨g2, rfl, a4, b0, b1⟩ := (H2.out wr a2.out).2 k hlt;rw [← hy] at a0 b0 a1 b1;clear hy;obtain ⟨y0, y1⟩ := y
  have HA : Hid (∀ w0 w1, Below wr.heap.size wr w0 → Below w0.heap.size w0 w1 → (w1.cell? ⟨g1, k * 2, none⟩ = some (.int .i64 y0) ∧ w1.cell? ⟨g1, k * 2 + 1, none⟩ = some (.string y1) ∧ w1.cell? ⟨g2, k * 2, none⟩ = some (.int .i64 y0) ∧ w1.cell? ⟨g2, k * 2 + 1, none⟩ = some (.string y1)) ∧ Below wr.heap.size wr w1) := fun w0 w1 h h' => by
   have hx := h.trans (h'.mono h.size)
   exact ⟨⟨by rw [hx.cell (p := ⟨g1, k * 2, none⟩) a3]; exact a0, by rw [hx.cell (p := ⟨g1, k * 2 + 1, none⟩) a3]; exact a1, by rw [hx.cell (p := ⟨g2, k * 2, none⟩) a4]; exact b0, by rw [hx.cell (p := ⟨g2, k * 2 + 1, none⟩) a4]; exact b1⟩, hx⟩
  go_wp2
  go_region_held3 (fun w' => w'.cell? ⟨g1, k * 2, none⟩ = some (.int .i64 y0) ∧ w'.cell? ⟨g1, k * 2 + 1, none⟩ = some (.string y1) ∧ w'.cell? ⟨g2, k * 2, none⟩ = some (.int .i64 y0) ∧ w'.cell? ⟨g2, k * 2 + 1, none⟩ = some (.string y1)) (first | assumption | go_keep) (first | (go_at_call 151; refine (bW7 _ _ _).mono ?_; rintro e w1 ⟨rfl, a6⟩; obtain ⟨a8, a7⟩ := HA.out _ w1 ((Below.refl _ wr).drew) a6))
  go_wp2
  go_roundw
  case rel => exact ⟨k + 1, by omega, by go_num, a2.out.trans (a7.mono a2.out.size)⟩
  case measure => simp [intOf]; omega
theorem aY5 : ∀ (l : List (Int × ByteArray)) (i : Nat) (x : (Int × ByteArray)), i < l.length → aA1 (l.set i x) = ((aA1 l).set (i * 2) (.int .i64 x.1)).set (i * 2 + 1) (.string x.2)
 | [], i, x, h => by simp at h
 | f :: r, 0, x, _ => rfl
 | f :: r, i + 1, x, h => by
  have ih := aY5 r i x (by simpa using h)
  have e : ∀ (m : List Value) (o : Nat) (u : Value), (aK0 f ++ m).set (2 + o) u = aK0 f ++ m.set o u := fun m o u => by rw [Nat.add_comm]; rfl
  have e0 : aA1 (f :: r) = aK0 f ++ aA1 r := rfl
  have e1 : aA1 ((f :: r).set (i + 1) x) = aK0 f ++ aA1 (r.set i x) := rfl
  rw [e1, ih, e0, show (i + 1) * 2 = 2 + i * 2 by omega, show 2 + i * 2 + 1 = 2 + (i * 2 + 1) by omega, e, e]
theorem bW8 (l : List (Int × ByteArray)) (k j : Nat) (x : (Int × ByteArray)) (hk : k < l.length) : aC2 (l.set k x) j = if j = k then x else aC2 l j := by
 unfold aC2;rw [List.getD_eq_getElem?_getD, List.getElem?_set, List.getD_eq_getElem?_getD];by_cases h : j = k
 ·subst h; simp [hk]
 rw [if_neg h, if_neg (fun e => h e.symm)]
def aE2 (k0 : Nat) (l : List (Int × ByteArray)) : Nat → List (Int × ByteArray)
 | 0 => l
 | k + 1 => (aE2 k0 l k).set k (((k0 + 2 * k + 0 : Nat) : Int), (aB1 (k0 + 2 * k + 1)))
theorem aO8 (k0 : Nat) (l : List (Int × ByteArray)) : ∀ k, (aE2 k0 l k).length = l.length
 | 0 => rfl
 | k + 1 => by rw [aE2, List.length_set, aO8 k0 l k]
theorem cD4 (k0 : Nat) (l : List (Int × ByteArray)) (j : Nat) : ∀ k, k ≤ l.length → j < k → aC2 (aE2 k0 l k) j = (((k0 + 2 * j + 0 : Nat) : Int), (aB1 (k0 + 2 * j + 1))) := by
 intro k;induction k with
 | zero => intro _ h; omega
 | succ k ih =>
  intro hk h
  rw [aE2, bW8 _ _ _ _ (by rw [aO8]; omega)]
  by_cases e : j = k
  ·subst e; rw [if_pos rfl]
  rw [if_neg e]; exact ih (by omega) (by omega)
theorem bJ4 (oa : Oa) (n cap base : Nat) (l : List (Int × ByteArray)) (w : World) (h1 : w.ownsRow base 155 2 (.slice oa n cap) n (aA1 l)) (hb : base ≤ w.heap.size) (k0 : Nat) (hk0 : 1 ≤ k0) (hn : k0 + 2 * n ≤ 99999999) :
  Calls prog 84 #[.slice oa n cap, .int .i64 (k0 : Int)] w fun e w' => e = .returned (.int .i64 ((k0 : Int) + 2 * (n : Int))) ∧ w'.ownsRow base 155 2 (.slice oa n cap) n (aA1 (aE2 k0 l n)) ∧ Below base w w' ∧ Far (.slice oa n cap) w w' := by
 have a4 : Hid (l.length = n) := aM5 h1;have H1 := hid h1;clear h1;go_enter func84, ntmps84;go_wp2
 go_loopw [1, 5] (fun q i wr => ∃ k : Nat, k ≤ n ∧ i = .int .i64 (k : Int) ∧ q = .int .i64 ((k0 : Int) + 2 * (k : Int)) ∧ Hid (Below base w wr) ∧ Hid (wr.ownsRow base 155 2 (.slice oa n cap) n (aA1 (aE2 k0 l k))) ∧ Hid (∀ j, j < w.heap.size → (Value.slice oa n cap).ownBlock ≠ some j → wr.heap[j]? = w.heap[j]?)) (fun _ i _ => n - (intOf i).toNat)
 case atStart => exact ⟨0, Nat.zero_le _, rfl, by simp, Below.refl _ _, H1, fun j _ _ => rfl⟩
 case round =>
  obtain ⟨k, hk, rfl, rfl, HB, HO, HF⟩ := hrel;by_cases hlt : k < n
  rotate_left
  ·obtain rfl : k = n := by omega
   go_wp2
   go_ret;exact ⟨rfl, HO.out, HB.out, HF.out⟩
  have a9 : (k : Int) < (n : Int) := by omega
  obtain ⟨g, rfl⟩ := aJ0 H1.out (by omega);have HG : Hid (base ≤ g) := aB7 H1.out rfl;have q0 := (aK2 (aE2 k0 l k) k (by rw [aO8, a4.out]; exact hlt)).1;have b0 : Hid _ := q0;clear q0;have q1 := (aK2 (aE2 k0 l k) k (by rw [aO8, a4.out]; exact hlt)).2;have b1 : Hid _ := q1;clear q1;obtain ⟨c0, f0⟩ := aX8 HO.out (k * 2) _ (by exact b0.out);have a1 : (k0 : Int) + 2 * (k : Int) = ((k0 + 2 * k + 0 : Nat) : Int) := by omega
  rw [a1];clear a1;have b2 : Hid (((wr.setCell ⟨g, k * 2, none⟩ (.int .i64 ((k0 + 2 * k + 0 : Nat) : Int)))).ownsRow base 155 2 (.slice (some ⟨g, 0, none⟩) n cap) n ((aA1 (aE2 k0 l k)).set (k * 2) (.int .i64 ((k0 + 2 * k + 0 : Nat) : Int)))) := aT0 HO.out _ _;have a5 : Hid (Below base w (wr.setCell ⟨g, k * 2, none⟩ (.int .i64 ((k0 + 2 * k + 0 : Nat) : Int)))) := HB.out.setCell (p := ⟨g, k * 2, none⟩) HG.out _;have b3 : Hid (∀ j, j < w.heap.size → (Value.slice (some ⟨g, 0, none⟩) n cap).ownBlock ≠ some j → ((wr.setCell ⟨g, k * 2, none⟩ (.int .i64 ((k0 + 2 * k + 0 : Nat) : Int)))).heap[j]? = w.heap[j]?) := fun j hj a0 => (heap_setCell_other _ _ j _ (fun e => a0 (by rw [e]; rfl))).trans (HF.out j hj a0)
  go_wp2_with fail
  refine (aE5 _ (k0 + 2 * k + 1) _ (by omega) (by omega) (by omega)).mono ?_;rintro e u1 ⟨rfl, a3⟩;have a2 := hown b2 a3;have a6 : Hid (Below base w u1) := a5.out.trans (a3.mono (Nat.le_trans hb a5.out.size));have a7 : Hid (∀ j, j < w.heap.size → (Value.slice (some ⟨g, 0, none⟩) n cap).ownBlock ≠ some j → (u1).heap[j]? = w.heap[j]?) := fun j hj a0 => (a3.block j (Nat.lt_of_lt_of_le hj a5.out.size)).trans (b3.out j hj a0)
  clear a3 c0 f0;obtain ⟨c1, f1⟩ := aX8 a2.out (k * 2 + 1) _ (by rw [List.getElem?_set_ne (by omega)]; exact b1.out);have b4 : Hid ((((u1).setCell ⟨g, k * 2 + 1, none⟩ (.string (aB1 (k0 + 2 * k + 1))))).ownsRow base 155 2 (.slice (some ⟨g, 0, none⟩) n cap) n (((aA1 (aE2 k0 l k)).set (k * 2) (.int .i64 ((k0 + 2 * k + 0 : Nat) : Int))).set (k * 2 + 1) (.string (aB1 (k0 + 2 * k + 1))))) := aT0 a2.out _ _;have b5 : Hid (Below base w ((u1).setCell ⟨g, k * 2 + 1, none⟩ (.string (aB1 (k0 + 2 * k + 1))))) := a6.out.setCell (p := ⟨g, k * 2 + 1, none⟩) HG.out _;have b6 : Hid (∀ j, j < w.heap.size → (Value.slice (some ⟨g, 0, none⟩) n cap).ownBlock ≠ some j → (((u1).setCell ⟨g, k * 2 + 1, none⟩ (.string (aB1 (k0 + 2 * k + 1))))).heap[j]? = w.heap[j]?) := fun j hj a0 => (heap_setCell_other _ _ j _ (fun e => a0 (by rw [e]; rfl))).trans (a7.out j hj a0)
  have a8 : Hid (aA1 (aE2 k0 l (k + 1)) = ((aA1 (aE2 k0 l k)).set (k * 2) (.int .i64 ((k0 + 2 * k + 0 : Nat) : Int))).set (k * 2 + 1) (.string (aB1 (k0 + 2 * k + 1)))) := by
   show _ = _
   rw [aE2, aY5 _ _ _ (by rw [aO8, a4.out]; exact hlt)]
  go_wp2
  go_roundw
  case rel => exact ⟨k + 1, by omega, by go_num, by first | go_num | (congr 1; omega), b5.out, by show World.ownsRow _ _ _ _ _ _ _; rw [a8.out]; exact b4.out, b6.out⟩
  case measure => simp [intOf]; omega
theorem bJ5 (oa : Oa) (n cap base : Nat) (l : List (Int × ByteArray)) (w : World) (h1 : w.ownsRow base 155 2 (.slice oa n cap) n (aA1 l)) (k0 : Nat) (hk0 : 1 ≤ k0) (hn : k0 + 2 * n ≤ 99999999) (hm : ∀ j, j < n → (aC2 l j).1 = ((k0 + 2 * j + 0 : Nat) : Int) ∧ (aC2 l j).2 = (aB1 (k0 + 2 * j + 1))) :
  Calls prog 120 #[.slice oa n cap, .int .i64 (k0 : Int)] w fun e w' => e = .returned (.int .i64 ((k0 : Int) + 2 * (n : Int))) ∧ Below w.heap.size w w' := by
 have H1 : Hid (∀ W, Bw w W → W.ownsRow base 155 2 (.slice oa n cap) n (aA1 l)) := fun W h => aC0 h1 h (fun g hg => aA6 h1 hg)
 have HM := hid hm;clear h1 hm;go_enter func120, ntmps120;go_wp2
 go_loopw [1, 5] (fun q i wr => ∃ k : Nat, k ≤ n ∧ i = .int .i64 (k : Int) ∧ q = .int .i64 ((k0 : Int) + 2 * (k : Int)) ∧ Hid (Bw w wr)) (fun _ i _ => n - (intOf i).toNat)
 case atStart => exact ⟨0, Nat.zero_le _, rfl, by simp, Below.refl _ _⟩
 case round =>
  obtain ⟨k, hk, rfl, rfl, HB⟩ := hrel;by_cases hlt : k < n
  rotate_left
  ·obtain rfl : k = n := by omega
   go_wp2
   go_ret;exact ⟨rfl, HB.out⟩
  have a4 : (k : Int) < (n : Int) := by omega
  obtain ⟨g, rfl⟩ := aJ0 (H1.out w (Below.refl _ _)) (by omega)
  have HA : Hid (∀ w0 w1, Bw w w0 → Below w0.heap.size w0 w1 → (w1.cell? ⟨g, k * 2, none⟩ = some (.int .i64 ((k0 + 2 * k + 0 : Nat) : Int)) ∧ w1.cell? ⟨g, k * 2 + 1, none⟩ = some (.string (aB1 (k0 + 2 * k + 1)))) ∧ Bw w w1) := fun w0 w1 h h' => by
   have hx := h.trans (h'.mono h.size)
   obtain ⟨g', e, _, a0, a1⟩ := (aG0 (H1.out w1 hx)).2 k hlt
   cases e
   obtain ⟨m0, m1⟩ := HM.out k hlt
   rw [m0] at a0
   rw [m1] at a1
   exact ⟨⟨a0, a1⟩, hx⟩
  obtain ⟨⟨e0, e1⟩, _⟩ := HA.out wr wr HB.out (Below.refl _ _);have a5 : ((((k0 + 2 * k + 0 : Nat) : Int)) != ((k0 : Int) + 2 * (k : Int))) = false := by first | (simp; done) | (simp; omega)
  go_wp2
  go_region_held3 (fun w' => w'.cell? ⟨g, k * 2 + 1, none⟩ = some (.string (aB1 (k0 + 2 * k + 1)))) (first | assumption | go_keep) (first | (go_at_call 117; refine (aE5 _ (k0 + 2 * k + 1) _ (by omega) (by omega) (by omega)).mono ?_; rintro e u1 ⟨rfl, a6⟩; obtain ⟨⟨e0, e1⟩, a2⟩ := HA.out _ u1 (HB.out).drew a6))
  have a3 := hid a2;clear a2;go_wp2
  go_roundw
  case rel => exact ⟨k + 1, by omega, by go_num, by first | go_num | (congr 1; omega), a3⟩
  case measure => simp [intOf]; omega
theorem cD5 {H : Type} {enc : TypeId × Value → H} {W : World} {fuel : Nat} {a : Oa} {n cap : Nat} {x : DataW H × List MemPlace} (h : DataW.trod enc prog W 0 (fun _ => true) true fuel 23 [.slice a n cap] = some x) :
  ∃ l, aG4 W W.heap.size a n l ∧ n ≤ maxLen ∧ ∀ x ∈ l, (x.2).size ≤ maxLen := by
 rcases Go.Deep.open_slice underlying23 h with ⟨a1, _⟩ | ⟨ad, b1, c, m, q, Dd, Pl, a1, _, hl, hm, a5, _, hx⟩
 ·simp at a1
  obtain ⟨rfl, rfl, rfl⟩ := a1;exact ⟨[], ⟨rfl, fun i hi => absurd hi (by omega)⟩, Nat.zero_le _, fun x hx => by simp at hx⟩
 simp at a1
 obtain ⟨rfl, rfl, rfl⟩ := a1;have b2 : m = cap := by simpa using a5
 have ce : prog.cellsOf 154 = 2 := by kernel_rfl
 have ci : prog.cellsOf 3 = 1 := by kernel_rfl
 have cs : prog.cellsOf 9 = 1 := by kernel_rfl
 have a2 : ∀ i, i < n → ∃ y : (Int × ByteArray), (W.cell? (ad.add (i * 2 + 0)) = some (.int .i64 (y.1)) ∧ W.cell? (ad.add (i * 2 + 1)) = some (.string (y.2))) ∧ (y.2).size ≤ maxLen := by
  intro i hi
  obtain ⟨a6, h1, h2⟩ := hx i (by omega)
  rw [ce] at h1
  obtain ⟨_, a3, a0⟩ := World.cells?_some h1
  obtain ⟨xs, k, hk, b3, _, a7, hf⟩ := DataW.trod_struct underlying154 h2
  match xs, a7, a6, a3 with
  | [x0, x1], _, [v0, v1], _ =>
   have g0 := hf 0 _ rfl
   have g1 := hf 1 _ rfl
   simp [ci, cs] at g0 g1
   obtain ⟨s0, e0, _, _⟩ := DataW.trod_int underlying3 g0
   obtain ⟨s1, e1, _, z1⟩ := DataW.trod_string underlying9 g1
   simp only [List.cons.injEq, and_true] at e0 e1
   subst e0 e1
   have c0 := a0 0 (by omega)
   have c1 := a0 1 (by omega)
   rw [Go.Deep.add_add] at c0 c1
   exact ⟨(s0, s1), ⟨by simpa using c0, by simpa using c1⟩, z1⟩
 obtain ⟨q, hq⟩ := Go.Deep.choose_lt a2
 have a8 : ∀ i, i < n → aC2 ((List.range n).map q) i = q i := fun i hi => by
  unfold aC2
  rw [List.getD_eq_getElem?_getD, List.getElem?_map, List.getElem?_range hi]
  rfl
 refine ⟨(List.range n).map q, ⟨by simp, fun i hi => ?_⟩, by omega, fun x hx => ?_⟩
 ·obtain ⟨c0, _⟩ := hq i hi;obtain ⟨c3, _⟩ := hq 0 (by omega)
  have a4 : ad.spot = none := by
   have := World.cell?_spot c3.1
   simpa [Addr.add] using this
  clear c3;obtain ⟨b, a9, sp⟩ := ad;simp only at a4
  subst a4;simp only [aY3] at c0
  rw [a8 i hi];have b0 := World.block_lt_of_cell? W _ c0.1;exact ⟨b, a9, rfl, b0, by simpa [Nat.add_assoc] using c0.1, by simpa [Nat.add_assoc] using c0.2⟩
 obtain ⟨i, hi, rfl⟩ := List.mem_map.1 hx;exact (hq i (List.mem_range.1 hi)).2
structure aD3 (W : World) (base : Nat) (v1 : Value) (n1 : Nat) (cs : Ts) (v2 : Value) (n2 : Nat) (ws : List (Int × ByteArray)) : Prop where
 cells : W.ownsRow base 9 1 v1 n1 (cs.map Value.string)
 pend : W.ownsRow base 155 2 v2 n2 (aA1 ws)
theorem cD6 (a1 : Oa) (n1 c1 : Nat) (cs : Ts) (a2 : Oa) (n2 c2 : Nat) (ws : List (Int × ByteArray)) (B : Nat) (w : World) (h1 : ArgT w B a1 n1 cs) (h2 : aG4 w B a2 n2 ws) (hB : B ≤ w.heap.size) (hn1 : n1 ≤ 1048576) (hn2 : n2 ≤ 1048576) :
  Calls prog 23 #[.agg #[.slice a1 n1 c1, .slice a2 n2 c2]] w fun e w' => ∃ v1 v2, e = .returned (.agg #[v1, v2]) ∧ aD3 w' w.heap.size v1 n1 cs v2 n2 ws ∧ Below w.heap.size w w' := by
 have c5 := hid fun W (h : Bw w W) => h1.below (h.mono hB)
 have c6 := hid fun W (h : Bw w W) => h2.below (h.mono hB)
 have c3 : Hid (∀ W, Bw w W → B ≤ W.heap.size) := fun W h => Nat.le_trans hB h.size
 clear h1 h2 hB;have K0 := jnil w;go_enter func23, ntmps23;go_upto_region 1 with fail
 obtain ⟨q1, a9⟩ := exq (w.heap.size);obtain ⟨w1, a4⟩ := exq (w.alloc (.cells #[.slice a1 n1 c1, .slice a2 n2 c2] 25));have b0 := a9.symm;rw [← a4]; try rw [← a9];have c4 := hsa a4 b0;have bw := bal a4;have K1 := ja K0 a4 b0;clear bw a4 b0 K0;obtain ⟨q2, b1⟩ := exq (q1 + 1);obtain ⟨w2, a5⟩ := exq (w1.alloc (.cells #[.slice none 0 0, .slice none 0 0] 39));have b2 : w1.heap.size = q2 := by rw [b1]; exact c4
 rw [← a5]; try rw [← b1];have c7 := hsa a5 b2;have bw := bal a5;have K2 := ja K1 a5 b2;clear bw a5 b2 K1;clear c7 b1 c4 a9;go_upto_region 2 with fail
 obtain ⟨q3, b3⟩ := exq (w2.heap.size);obtain ⟨w3, a6⟩ := exq (w2.alloc (.cells #[.slice none 0 0, .slice none 0 0] 39));have b4 := b3.symm;rw [← a6]; try rw [← b3];have c8 := hsa a6 b4;have bw := bal a6;have K3 := ja K2 a6 b4;clear bw a6 b4 K2;clear c8 b3;have b5 := c2c (jb K3 2 rfl);go_wp2_with fail
 refine (aS7 B a1 n1 c1 cs _ (c5.out _ K3.hb) (c3.out _ K3.hb) hn1).mono ?_;rintro e w4 ⟨vv, rfl, a0, bw⟩;obtain ⟨oC, pC, rfl⟩ := aA0 a0;have K4 := jj K3 (jcR (jN bw) a0 jhn);clear a0;clear bw K3;clear b5;have a7 := c2f (jb K4 1 rfl);go_upto_region 3 with fail
 obtain ⟨w5, b6⟩ := exq (w4.setCell ⟨q3, 0, none⟩ (.slice oC n1 pC));rw [← b6];have K5 := js K4 1 b6;clear b6 K4;clear a7;have b7 := c2c (jb K5 3 rfl);go_wp2_with fail
 refine (bR9 B a2 n2 c2 ws _ (c6.out _ K5.hb) (c3.out _ K5.hb) hn2).mono ?_;rintro e w6 ⟨vv, rfl, a3, bw⟩;obtain ⟨oP, pP, rfl⟩ := aA0 a3;have K6 := jj K5 (jcR (jN bw) a3 jhn);clear a3;clear bw K5;clear b7;have b8 := c2f (jb K6 2 rfl);go_upto_region 4 with fail
 obtain ⟨w7, b9⟩ := exq (w6.setCell ⟨q3, 1, none⟩ (.slice oP n2 pP));rw [← b9];have K7 := js K6 2 b9;clear b9 K6;clear b8;have c9 := c2f (jb K7 3 rfl);have a7 := c2c (jb K7 2 rfl);go_wp2_with fail
 obtain ⟨w9, c0⟩ := exq ((w7.setCell ⟨q2, 0, none⟩ (.slice oC n1 pC)).setCell ⟨q2, 1, none⟩ (.slice oP n2 pP));rw [← c0];have K9 := jss K7 3 [(0, _), (1, _)] c0;clear c0 K7;have a8 := c2c (jb K9 3 rfl);refine bodyPost_ret (v := .agg #[.slice oC n1 pC, .slice oP n2 pP]) (by simp [results, results23, go_sem, a8]) rfl ?_;exact ⟨_, _, rfl, ⟨(jo K9 1 rfl), (jo K9 0 rfl)⟩, K9.hb⟩
def cP7 (L : Int) (n1 : Nat) (cs : Ts) (n2 : Nat) (ws : List (Int × ByteArray)) (w : World) (e : Ending) (w' : World) : Prop :=
 ∃ r : Int, e = .returned (.int .i64 r) ∧ r ≤ L ∧ (0 ≤ r → r + (n1 : Int) + (n2 : Int) ≤ L ∧ (n1 ≤ 1048576 ∧ ∀ i, i < n1 → (aA8 cs i).size ≤ 1048576) ∧ n2 ≤ 1048576 ∧ ∀ x ∈ ws, (x.2).size ≤ 1048576) ∧ Below w.heap.size w w'
theorem bW9 (L : Int) (hL0 : 0 ≤ L) (hL1 : L ≤ 1048576) (a1 : Oa) (n1 c1 : Nat) (cs : Ts) (a2 : Oa) (n2 c2 : Nat) (ws : List (Int × ByteArray)) (B : Nat) (w : World) (h1 : ArgT w B a1 n1 cs) (h2 : aG4 w B a2 n2 ws) (hB : B ≤ w.heap.size) (hn1 : n1 ≤ maxLen) (hn2 : n2 ≤ maxLen) (hs1 : ∀ i, i < n1 → (aA8 cs i).size ≤ maxLen) (hs2 : ∀ x ∈ ws, (x.2).size ≤ maxLen) :
  Calls prog 21 #[.agg #[.slice a1 n1 c1, .slice a2 n2 c2], .int .i64 L] w fun e w' => cP7 L n1 cs n2 ws w e w' := by
 have b1 := hid fun W (h : Bw w W) => h1.below (h.mono hB)
 have b2 := hid fun W (h : Bw w W) => h2.below (h.mono hB)
 have a9 : Hid (∀ W, Bw w W → B ≤ W.heap.size) := fun W h => Nat.le_trans hB h.size
 clear h1 h2 hB;have b3 := hid hn1;have b4 := hid hn2;have b5 := hid hs1;have b6 := hid hs2;clear hs1 hs2 hn1 hn2;have K0 := jnil w;go_enter func21, ntmps21;go_upto_region 1 with fail
 obtain ⟨q1, a4⟩ := exq (w.heap.size);obtain ⟨w1, a3⟩ := exq (w.alloc (.cells #[.slice a1 n1 c1, .slice a2 n2 c2] 25));have a0 := a4.symm;rw [← a3]; try rw [← a4];have hs1 := hsa a3 a0;have bw := bal a3;have K1 := ja K0 a3 a0;clear bw a3 a0 K0;clear hs1 a4;have a5 := c2c (jb K1 0 rfl);go_wp2_with fail
 refine (aO6 L (by omega) (by omega) B a1 n1 c1 cs _ (b1.out _ K1.hb) (a9.out _ K1.hb) b3.out b5.out).mono ?_;rintro e w2 ⟨r1, rfl, b9, a6, bw⟩;have K2 := jw K1 bw;clear bw K1;clear a5;by_cases hc1 : r1 < 0
 ·clear a6;go_wp2_with fail
  go_ret;exact ⟨-1, rfl, by omega, fun h => absurd h (by omega), K2.hb⟩
 obtain ⟨c0, c3, a0⟩ := a6 (by omega);have b7 : Hid _ := a0;clear a6 a0;have a7 := c2c (jb K2 0 rfl);go_wp2_with fail
 refine (bN9 r1 (by omega) (by omega) B a2 n2 c2 ws _ (b2.out _ K2.hb) (a9.out _ K2.hb) b4.out b6.out).mono ?_;rintro e w3 ⟨r2, rfl, c4, a8, bw⟩;have K3 := jw K2 bw;clear bw K2;clear a7;by_cases hc2 : r2 < 0
 ·clear a8;go_wp2_with fail
  go_ret;exact ⟨-1, rfl, by omega, fun h => absurd h (by omega), K3.hb⟩
 obtain ⟨c5, c6, b0⟩ := a8 (by omega);have b8 : Hid _ := b0;clear a8 b0;go_wp2_with fail
 go_ret;exact ⟨_, rfl, by omega, fun _ => ⟨by omega, ⟨by omega, b7.out⟩, by omega, b8.out⟩, K3.hb⟩
theorem cD7 (n1 : Nat) (cs : Ts) (n2 : Nat) (ws : List (Int × ByteArray)) (v1 v2 u1 u2 : Value) (B1 B2 : Nat) (w : World) (hx : aD3 w B1 v1 n1 cs v2 n2 ws) (hy : aD3 w B2 u1 n1 cs u2 n2 ws) (hn1 : n1 ≤ 2000000) (hn2 : n2 ≤ 2000000) :
  Calls prog 25 #[.agg #[v1, v2], .agg #[u1, u2]] w fun e w' => e = .returned (.bool true) ∧ Below w.heap.size w w' := by
 obtain ⟨c6, c7, rfl⟩ := aA0 hx.cells;have a2 : Hid (w.ownsRow B1 9 1 (.slice c6 n1 c7) n1 (cs.map Value.string)) := hx.cells;obtain ⟨c8, c9, rfl⟩ := aA0 hx.pend;have a3 : Hid (w.ownsRow B1 155 2 (.slice c8 n2 c9) n2 (aA1 ws)) := hx.pend;clear hx;obtain ⟨d0, d1, rfl⟩ := aA0 hy.cells;have a4 : Hid (w.ownsRow B2 9 1 (.slice d0 n1 d1) n1 (cs.map Value.string)) := hy.cells;obtain ⟨d2, d3, rfl⟩ := aA0 hy.pend;have a5 : Hid (w.ownsRow B2 155 2 (.slice d2 n2 d3) n2 (aA1 ws)) := hy.pend;clear hy;have K0 := jnil w;go_enter func25, ntmps25;go_upto_region 1 with fail
 obtain ⟨q1, b6⟩ := exq (w.heap.size);obtain ⟨w1, b4⟩ := exq (w.alloc (.cells #[.slice c6 n1 c7, .slice c8 n2 c9] 39));have b7 := b6.symm;rw [← b4]; try rw [← b6];have d4 := hsa b4 b7;have bw := bal b4;have K1 := ja K0 b4 b7;have a6 := hown a2 bw;have a7 := hown a3 bw;have a8 := hown a4 bw;have a9 := hown a5 bw;clear bw b4 b7 K0;obtain ⟨q2, b8⟩ := exq (q1 + 1);obtain ⟨w2, b5⟩ := exq (w1.alloc (.cells #[.slice d0 n1 d1, .slice d2 n2 d3] 39));have b9 : w1.heap.size = q2 := by rw [b8]; exact d4
 rw [← b5]; try rw [← b8];have d5 := hsa b5 b9;have bw := bal b5;have K2 := ja K1 b5 b9;have a0 := hown a6 bw;have b0 := hown a7 bw;have a1 := hown a8 bw;have b1 := hown a9 bw;clear bw b5 b9 K1;clear d5 b8 d4 b6;have c0 := c2c (jb K2 1 rfl);have c1 := c2c (jb K2 0 rfl);go_wp2_with fail
 refine (bV9 _ _ n1 _ _ cs _ a0.out a1.out (by omega)).mono ?_;rintro e w3 ⟨rfl, bw⟩;have K3 := jw K2 bw;have c2 := hown a0 bw;have b2 := hown b0 bw;have c3 := hown a1 bw;have b3 := hown b1 bw;clear bw K2;clear c0 c1;have c4 := c2c (jb K3 1 rfl);have c5 := c2c (jb K3 0 rfl);go_wp2_with fail
 refine (bS0 _ _ n2 _ _ ws _ (aG0 b2.out) (aG0 b3.out) (by omega)).mono ?_;rintro e w4 ⟨rfl, bw⟩;have K4 := jw K3 bw;clear bw K3;clear c4 c5;go_wp2_with fail
 go_ret;exact ⟨rfl, K4.hb⟩
theorem bS1 (n1 : Nat) (cs : Ts) (n2 : Nat) (ws : List (Int × ByteArray)) (v1 v2 : Value) (B : Nat) (w : World) (hx : aD3 w B v1 n1 cs v2 n2 ws) (hB : B ≤ w.heap.size) (k0 : Nat) (hk0 : 1 ≤ k0) (hk : k0 + n1 + 2 * n2 ≤ 99999998) :
  Calls prog 26 #[.agg #[v1, v2], .int .i64 (k0 : Int)] w fun e w' => e = .returned (.int .i64 (((k0 + n1 + 2 * n2) : Nat) : Int)) ∧ aD3 w' B v1 n1 (mkT k0 cs n1) v2 n2 (aE2 (k0 + n1) ws n2) ∧ Below B w w' ∧ (∀ g, g < w.heap.size → v1.ownBlock ≠ some g → v2.ownBlock ≠ some g → w'.heap[g]? = w.heap[g]?) := by
 obtain ⟨a7, a8, rfl⟩ := aA0 hx.cells;have b2 : Hid (w.ownsRow B 9 1 (.slice a7 n1 a8) n1 (cs.map Value.string)) := hx.cells;obtain ⟨a9, b0, rfl⟩ := aA0 hx.pend;have b3 : Hid (w.ownsRow B 155 2 (.slice a9 n2 b0) n2 (aA1 ws)) := hx.pend;clear hx;have c2 : Below B w w := Below.refl _ _;have a4 : Hid (∀ g, g < w.heap.size → (Value.ownBlock (.slice a7 n1 a8)) ≠ some g → (Value.ownBlock (.slice a9 n2 b0)) ≠ some g → w.heap[g]? = w.heap[g]?) := fun _ _ _ _ => rfl
 go_enter func26, ntmps26;go_upto_region 1 with fail
 obtain ⟨q1, c5⟩ := exq (w.heap.size);obtain ⟨w1, b9⟩ := exq (w.alloc (.cells #[.slice a7 n1 a8, .slice a9 n2 b0] 39));have c6 := c5.symm;rw [← b9]; try rw [← c5];have c9 := hsa b9 c6;have bw := bal b9;have c3 : Below B w (w1) := c2.trans (bw.mono (Nat.le_trans hB c2.size));have a0 := hown b2 bw;have a1 := hown b3 bw;have a5 : Hid (∀ g, g < w.heap.size → (Value.ownBlock (.slice a7 n1 a8)) ≠ some g → (Value.ownBlock (.slice a9 n2 b0)) ≠ some g → w1.heap[g]? = w.heap[g]?) := fun g hg b7 b8 => (bw.block g (Nat.lt_of_lt_of_le hg c2.size)).trans (a4.out g hg b7 b8)
 have c0 := hnew b9 c6;clear c2 a4 bw b9 c6;clear c9 c5;have c7 := (k2c c0).1;go_wp2_with fail
 refine (aS8 _ n1 B cs _ a0.out (Nat.le_trans hB c3.size) k0 (by omega) (by omega)).mono ?_;rintro e w2 ⟨rfl, mk, bm, b1⟩;have c4 : Below B w w2 := c3.trans bm;have a2 : Hid (w2.ownsRow B 155 2 (.slice a9 n2 b0) n2 (aA1 ws)) := aA7 a1.out (fun g hg => b1 g (aA6 a1.out hg) (aB4 a1.out a0.out (by decide) g hg))
 have c1 : Hid (w2.heap[q1]? = some (.cells #[.slice a7 n1 a8, .slice a9 n2 b0] 39)) := cI8 c0.out b1 a0.out (by decide);have a6 : Hid (∀ g, g < w.heap.size → (Value.ownBlock (.slice a7 n1 a8)) ≠ some g → (Value.ownBlock (.slice a9 n2 b0)) ≠ some g → w2.heap[g]? = w.heap[g]?) := fun g hg b7 b8 => (b1 g (Nat.lt_of_lt_of_le hg c3.size) b7).trans (a5.out g hg b7 b8)
 have a3 : Hid (w2.ownsRow B 9 1 (.slice a7 n1 a8) n1 ((mkT k0 cs n1).map Value.string)) := mk;clear c3 a5 mk bm b1;clear c7;have c8 := (k2c c1).2;rw [show ((k0 : Int) + (n1 : Int)) = ((k0 + n1 : Nat) : Int) by omega];go_wp2_with fail
 refine (bJ4 _ n2 _ B ws _ a2.out (Nat.le_trans hB c4.size) (k0 + n1) (by omega) (by omega)).mono ?_;rintro e w3 ⟨rfl, mk, bm, b1⟩;have d0 : Below B w w3 := c4.trans bm;have b4 : Hid (w3.ownsRow B 9 1 (.slice a7 n1 a8) n1 ((mkT k0 cs n1).map Value.string)) := aA7 a3.out (fun g hg => b1 g (aA6 a3.out hg) (aB4 a3.out a2.out (by decide) g hg))
 have d1 : Hid (w3.heap[q1]? = some (.cells #[.slice a7 n1 a8, .slice a9 n2 b0] 39)) := cI8 c1.out b1 a2.out (by decide);have b5 : Hid (∀ g, g < w.heap.size → (Value.ownBlock (.slice a7 n1 a8)) ≠ some g → (Value.ownBlock (.slice a9 n2 b0)) ≠ some g → w3.heap[g]? = w.heap[g]?) := fun g hg b7 b8 => (b1 g (Nat.lt_of_lt_of_le hg c4.size) b8).trans (a6.out g hg b7 b8)
 have b6 : Hid (w3.ownsRow B 155 2 (.slice a9 n2 b0) n2 (aA1 (aE2 (k0 + n1) ws n2))) := mk;clear c4 a6 mk bm b1;clear c8;go_wp2_with fail
 go_ret;exact ⟨congrArg (fun x : Int => Ending.returned (.int .i64 x)) (show (((k0 + n1 : Nat) : Int) + 2 * (n2 : Int)) = (((k0 + n1 + 2 * n2) : Nat) : Int) by omega), ⟨b4.out, b6.out⟩, d0, b5.out⟩
theorem bS2 (n1 : Nat) (cs : Ts) (n2 : Nat) (ws : List (Int × ByteArray)) (v1 v2 : Value) (B : Nat) (w : World) (hx : aD3 w B v1 n1 cs v2 n2 ws) (k0 : Nat) (hk0 : 1 ≤ k0) (hk : k0 + n1 + 2 * n2 ≤ 99999998) (m1 : ∀ j, j < n1 → aA8 cs j = aB1 (k0 + j)) (m2 : ∀ j, j < n2 → (aC2 ws j).1 = ((k0 + n1 + 2 * j + 0 : Nat) : Int) ∧ (aC2 ws j).2 = aB1 (k0 + n1 + 2 * j + 1)) :
  Calls prog 56 #[.agg #[v1, v2], .int .i64 (k0 : Int)] w fun e w' => e = .returned (.int .i64 (((k0 + n1 + 2 * n2) : Nat) : Int)) ∧ Below w.heap.size w w' := by
 obtain ⟨b1, b2, rfl⟩ := aA0 hx.cells;have a1 : Hid (w.ownsRow B 9 1 (.slice b1 n1 b2) n1 (cs.map Value.string)) := hx.cells;obtain ⟨b3, b4, rfl⟩ := aA0 hx.pend;have a2 : Hid (w.ownsRow B 155 2 (.slice b3 n2 b4) n2 (aA1 ws)) := hx.pend;clear hx;have b5 : Hid (∀ j, j < n1 → aA8 cs j = aB1 (k0 + j)) := m1;have b6 : Hid (∀ j, j < n2 → (aC2 ws j).1 = ((k0 + n1 + 2 * j + 0 : Nat) : Int) ∧ (aC2 ws j).2 = aB1 (k0 + n1 + 2 * j + 1)) := m2;clear m1 m2;have K0 := jnil w;go_enter func56, ntmps56;go_upto_region 1 with fail
 obtain ⟨q1, a6⟩ := exq (w.heap.size);obtain ⟨w1, a5⟩ := exq (w.alloc (.cells #[.slice b1 n1 b2, .slice b3 n2 b4] 39));have a7 := a6.symm;rw [← a5]; try rw [← a6];have b7 := hsa a5 a7;have bw := bal a5;have K1 := ja K0 a5 a7;have a0 := hown a1 bw;have a3 := hown a2 bw;clear bw a5 a7 K0;clear b7 a6;have a8 := c2c (jb K1 0 rfl);go_wp2_with fail
 refine (aS9 _ n1 _ cs _ a0.out k0 (by omega) (by omega) b5.out).mono ?_;rintro e w2 ⟨rfl, bw⟩;have K2 := jw K1 bw;have a9 := hown a0 bw;have a4 := hown a3 bw;clear bw K1;have b8 : ¬ (((k0 : Int) + (n1 : Int)) < 0) := by omega
 clear a8;have b0 := c2c (jb K2 0 rfl);rw [show ((k0 : Int) + (n1 : Int)) = ((k0 + n1 : Nat) : Int) by omega];go_wp2_with fail
 refine (bJ5 _ n2 _ _ ws _ a4.out (k0 + n1) (by omega) (by omega) b6.out).mono ?_;rintro e w3 ⟨rfl, bw⟩;have K3 := jw K2 bw;clear bw K2;have b9 : ¬ ((((k0 + n1 : Nat) : Int) + 2 * (n2 : Int)) < 0) := by omega
 clear b0;go_wp2_with fail
 go_ret;exact ⟨congrArg (fun x : Int => Ending.returned (.int .i64 x)) (show (((k0 + n1 : Nat) : Int) + 2 * (n2 : Int)) = (((k0 + n1 + 2 * n2) : Nat) : Int) by omega), K3.hb⟩
def bX0 (n : Nat) (ws : List (Int × ByteArray)) : Prop := n = 20 ∧ ws.length ≤ 16 ∧ ∀ x ∈ ws, 0 ≤ x.1 ∧ x.1 ≤ 19
def aG5 (cs : Ts) (ws : List (Int × ByteArray)) : Prop := cs.length = 20 ∧ ws.length ≤ 16 ∧ ∀ x ∈ ws, 0 ≤ x.1 ∧ x.1 ≤ 19
def aD8 (cs : Ts) (ws : List (Int × ByteArray)) (f : Nat → Bool) : Nat → Ts
 | 0 => cs
 | k + 1 => if f k = true then (aD8 cs ws f k).set (aC2 ws k).1.toNat (aC2 ws k).2 else aD8 cs ws f k
theorem aJ3 (cs : Ts) (ws : List (Int × ByteArray)) (f : Nat → Bool) : ∀ k, (aD8 cs ws f k).length = cs.length
 | 0 => rfl
 | k + 1 => by
  rw [aD8]
  split
  · rw [List.length_set, aJ3 cs ws f k]
  · exact aJ3 cs ws f k
theorem aQ6 (l : Ts) (i : Nat) (h : i < l.length) : l[i]? = some (aA8 l i) := by
 unfold aA8;rw [List.getD_eq_getElem?_getD, List.getElem?_eq_getElem h];rfl
theorem bA9 (l : Ts) (k j : Nat) (x : Tx) : aA8 (l.set k x) j = if j = k ∧ k < l.length then x else aA8 l j := by
 unfold aA8;rw [List.getD_eq_getElem?_getD, List.getElem?_set, List.getD_eq_getElem?_getD];by_cases h : j = k
 rotate_left
 ·rw [if_neg (fun e => h e.symm), if_neg (fun e => h e.1)]
 subst h;by_cases h2 : j < l.length
 ·simp [h2]
 rw [if_pos rfl, if_neg h2, if_neg (fun e => h2 e.2), List.getElem?_eq_none (by omega)]
theorem bC2 {cs : Ts} {ws : List (Int × ByteArray)} (h : aG5 cs ws) (f : Nat → Bool) (k : Nat) : aG5 (aD8 cs ws f k) [] :=
 ⟨by rw [aJ3]; exact h.1, by decide, fun x hx => by simp at hx⟩
def bS3 (cs : Ts) (ws : List (Int × ByteArray)) : Bool := decide (cs.length = 20) && (decide (ws.length ≤ 16) && ws.all (fun x => decide (0 ≤ x.1) && decide (x.1 ≤ 19)))
theorem aO9 (cs : Ts) (ws : List (Int × ByteArray)) : bS3 cs ws = true ↔ aG5 cs ws := by
 unfold bS3 aG5;simp only [Bool.and_eq_true, decide_eq_true_iff, List.all_eq_true]
theorem aY6 {cs : Ts} {ws : List (Int × ByteArray)} (h : ¬ aG5 cs ws) : bS3 cs ws = false := by
 cases e : bS3 cs ws with
 | false => rfl
 | true => exact absurd ((aO9 cs ws).1 e) h
def cJ0 (x : Int) : Bool := decide (0 ≤ x) && decide (x ≤ 19)
theorem bS4 (x : Int) : cJ0 x = true ↔ 0 ≤ x ∧ x ≤ 19 := by unfold cJ0; simp
def putB (cs : Ts) (ws : List (Int × ByteArray)) (x : Int) : Bool := bS3 cs ws && (decide (ws.length < 16) && cJ0 x)
def putC (cs : Ts) (ws : List (Int × ByteArray)) : Ts := if bS3 cs ws = true then cs else []
def putW (cs : Ts) (ws : List (Int × ByteArray)) (x : Int) (t : Tx) : List (Int × ByteArray) := if putB cs ws x = true then ws ++ [(x, t)] else if bS3 cs ws = true then ws else []
def aL5 (cs : Ts) (ws : List (Int × ByteArray)) (f : Nat → Bool) : Ts := if bS3 cs ws = true then aD8 cs ws f ws.length else []
theorem cS6 {cs : Ts} {ws : List (Int × ByteArray)} (h : ¬ aG5 cs ws) (x : Int) (t : Tx) : putC cs ws = [] ∧ putW cs ws x t = [] ∧ putB cs ws x = false := by
 have e := aY6 h;refine ⟨by unfold putC; rw [e]; rfl, by unfold putW putB; rw [e]; rfl, by unfold putB; rw [e]; rfl⟩
theorem cA9 {cs : Ts} {ws : List (Int × ByteArray)} (h : aG5 cs ws) {x : Int} (h2 : ¬ (ws.length < 16 ∧ (0 ≤ x ∧ x ≤ 19))) (t : Tx) : putC cs ws = cs ∧ putW cs ws x t = ws ∧ putB cs ws x = false := by
 have e := (aO9 cs ws).2 h
 have e2 : putB cs ws x = false := by
  cases q : putB cs ws x with
  | false => rfl
  | true =>
   unfold putB at q
   rw [Bool.and_eq_true, Bool.and_eq_true, decide_eq_true_iff, bS4] at q
   exact absurd q.2 h2
 exact ⟨by unfold putC; rw [if_pos e], by unfold putW; rw [if_neg (by rw [e2]; decide), if_pos e], e2⟩
theorem bG0 {cs : Ts} {ws : List (Int × ByteArray)} (h : aG5 cs ws) {x : Int} (h2 : ws.length < 16) (h3 : 0 ≤ x ∧ x ≤ 19) (t : Tx) : putC cs ws = cs ∧ putW cs ws x t = ws ++ [(x, t)] ∧ putB cs ws x = true := by
 have e := (aO9 cs ws).2 h;have e2 : putB cs ws x = true := by unfold putB; rw [e, (bS4 x).2 h3, decide_eq_true h2]; rfl
 exact ⟨by unfold putC; rw [if_pos e], by unfold putW; rw [if_pos e2], e2⟩
theorem cB0 {cs : Ts} {ws : List (Int × ByteArray)} (h : ¬ aG5 cs ws) (f : Nat → Bool) : aL5 cs ws f = [] := by unfold aL5; rw [aY6 h]; rfl
theorem aR2 {cs : Ts} {ws : List (Int × ByteArray)} (h : aG5 cs ws) (f : Nat → Bool) : aL5 cs ws f = aD8 cs ws f ws.length := by unfold aL5; rw [if_pos ((aO9 cs ws).2 h)]
theorem bD9 (cs : Ts) (ws : List (Int × ByteArray)) : (putC cs ws).length ≤ cs.length := by
 unfold putC;split
 ·exact Nat.le_refl _
 exact Nat.zero_le _
theorem bE0 (cs : Ts) (ws : List (Int × ByteArray)) (x : Int) (t : Tx) : (putW cs ws x t).length ≤ ws.length + 1 := by
 unfold putW;split
 ·rw [List.length_append]; exact Nat.le_refl _
 split
 ·exact Nat.le_succ _
 exact Nat.zero_le _
theorem aP0 (cs : Ts) (ws : List (Int × ByteArray)) (f : Nat → Bool) : (aL5 cs ws f).length ≤ cs.length := by
 unfold aL5;split
 ·rw [aJ3]; exact Nat.le_refl _
 exact Nat.zero_le _
def aU3 (cs : Ts) (ws : List (Int × ByteArray)) (w : World) (e : Ending) (w' : World) : Prop :=
 ∃ v1 v2, e = .returned (.agg #[v1, v2]) ∧ aD3 w' w.heap.size v1 cs.length cs v2 ws.length ws ∧ Below w.heap.size w w'
def aT1 (cs : Ts) (ws : List (Int × ByteArray)) (b : Bool) (w : World) (e : Ending) (w' : World) : Prop :=
 ∃ v1 v2, e = .returned (.tuple #[.agg #[v1, v2], .bool b]) ∧ aD3 w' w.heap.size v1 cs.length cs v2 ws.length ws ∧ Below w.heap.size w w'
theorem aY7 (W : World) (B : Nat) : aD3 W B (.slice none 0 0) 0 [] (.slice none 0 0) 0 [] := ⟨World.ownsRow_nil _ _ _ _, World.ownsRow_nil _ _ _ _⟩
def aX1 (xs : Ts) : Prop := (∀ x ∈ xs, aL0 x) ∧ xs.length ≤ 4
theorem aW3 (xs : Ts) (j : Nat) (h : j < xs.length) : aA8 xs j ∈ xs := by
 unfold aA8;rw [List.getD_eq_getElem?_getD, List.getElem?_eq_getElem h];exact List.getElem_mem _
theorem aL6 (xs : Ts) (j : Nat) (h : j < xs.length) : xs.take (j + 1) = xs.take j ++ [aA8 xs j] := by
 rw [List.take_add_one, List.getElem?_eq_getElem h];unfold aA8;rw [List.getD_eq_getElem?_getD, List.getElem?_eq_getElem h];rfl
open Classical in
theorem bX1 (oa ob : Oa) (m cm n cn : Nat) (xs ys : Ts) (w : World) (hx : aC4 w oa m xs) (hy : aC4 w ob n ys) (hm : m ≤ 2000000) :
  Calls prog 95 #[.slice oa m cm, .slice ob n cn] w fun e w' => e = .returned (.bool (decide (xs = ys))) ∧ Below w.heap.size w w' := by
 have HX : Hid (∀ W, Below w.heap.size w W → aC4 W oa m xs) := fun W h => hx.below h
 have HY : Hid (∀ W, Below w.heap.size w W → aC4 W ob n ys) := fun W h => hy.below h
 have a3 : Hid (xs.length = m) := hx.1;have a4 : Hid (ys.length = n) := hy.1;clear hx hy;go_enter func95, ntmps95;go_wp2_with fail
 go_loopw [5] (fun i wr => ∃ j : Nat, j ≤ m ∧ j ≤ n ∧ i = .int .i64 (j : Int) ∧ Below w.heap.size w wr ∧ Hid (xs.take j = ys.take j)) (fun i _ => m - (intOf i).toNat)
 case atStart => exact ⟨0, Nat.zero_le _, Nat.zero_le _, rfl, Below.refl _ _, by show _ = _; simp⟩
 case round =>
  obtain ⟨j, hj, a9, rfl, a0, HN⟩ := hrel;by_cases hlt : (j : Int) < (m : Int)
  rotate_left
  ·have HE : Hid (decide (xs = ys) = decide ((m : Int) = (n : Int))) := by
    show _ = _
    rw [decide_eq_decide]
    constructor
    ·intro h; have h1 := a3.out; have h2 := a4.out; rw [h] at h1; omega
    ·intro h
     have h1 := HN.out
     rw [List.take_of_length_le (by rw [a3.out]; omega), List.take_of_length_le (by rw [a4.out]; omega)] at h1
     exact h1
   clear HN;go_wp2_with fail
   go_ret;exact ⟨by rw [HE.out]; rfl, a0⟩
  by_cases hlt2 : (j : Int) < (n : Int)
  rotate_left
  ·have HE : Hid (decide (xs = ys) = decide ((m : Int) = (n : Int))) := by
    show _ = _
    rw [decide_eq_decide]
    constructor
    ·intro h; have h1 := a3.out; have h2 := a4.out; rw [h] at h1; omega
    ·intro h; omega
   clear HN;go_wp2_with fail
   go_ret;exact ⟨by rw [HE.out]; rfl, a0⟩
  have a5 : j < xs.length := by rw [a3.out]; omega
  have a6 : j < ys.length := by rw [a4.out]; omega
  obtain ⟨g, rfl, hg, hc⟩ := (HX.out wr a0).2 j (by omega);obtain ⟨g2, rfl, b0, a7⟩ := (HY.out wr a0).2 j (by omega);obtain ⟨x, a1⟩ := exq (aA8 xs j);obtain ⟨y, a2⟩ := exq (aA8 ys j);rw [← a1] at hc;rw [← a2] at a7;by_cases he : x = y
  rotate_left
  ·have t0 : (x.toList == y.toList) = false := aG2 he;have t1 : (x.toList != y.toList) = true := by rw [bne, t0]; rfl
   have HE : Hid (decide (xs = ys) = false) := decide_eq_false (fun h => he (by rw [a1, a2, h]))
   clear he a1 a2 a5 a6 HN;go_wp2_with fail
   go_quiet (fail)
   go_wp2
   go_ret;exact ⟨by rw [HE.out]; rfl, below_drewN a0 _⟩
  have a8 : Hid (xs.take (j + 1) = ys.take (j + 1)) := by
   show _ = _
   rw [aL6 xs j a5, aL6 ys j a6, ← a1, ← a2, HN.out, he]
  subst he;clear a1 a2 a5 a6 HN;go_wp2_with fail
  go_quiet (fail)
  go_wp2
  go_roundw
  case rel => exact ⟨j + 1, by omega, by omega, by go_num, below_drewN a0 _, a8⟩
  case measure => simp [intOf]; omega
def ObjP (p : Tx) (xs ys : Ts) (st : Int) (fs : Fs) (b : Tx) (t : Int) : Prop :=
 aX7 st fs b ∧ aH2 p ∧ (0 ≤ t ∧ t ≤ 1000000) ∧ aX1 xs ∧ xs = bD1 fs ∧ ys.length = xs.length ∧ ∀ y ∈ ys, aL1 y
theorem aF1 {w : World} {base n p : Nat} {o : Oa} {xs : Ts} (h : w.ownsRow base 9 1 (.slice o n p) n (xs.map Value.string)) : aC4 w o n xs := by
 obtain ⟨oa, ca, he, hx⟩ := bF5 h;cases he
 exact hx
theorem aE3 {t : Int} (h : 0 ≤ t) : aE7 t = aI6 t.toNat := by unfold aE7; rw [if_neg (by omega)]
def banW : ByteArray := ⟨#[98, 97, 110, 32]⟩
def bkW (k : Int) : ByteArray := if k = 1 then ⟨#[112, 97, 116, 104]⟩ else if k = 2 then ⟨#[98, 101, 108, 111, 119]⟩ else if k = 3 then ⟨#[102, 105, 101, 108, 100]⟩ else ⟨#[]⟩
def BanP (k : Int) (a b : Tx) (t : Int) : Prop := (0 ≤ t ∧ t ≤ 1000000) ∧ (((k = 1 ∨ k = 2) ∧ aH2 a ∧ b = ⟨#[]⟩) ∨ (k = 3 ∧ aL0 a ∧ aL1 b))
def banH (k : Int) (a : Tx) (t : Int) : ByteArray := banW ++ bkW k ++ ⟨#[32]⟩ ++ aI6 t.toNat ++ ⟨#[32]⟩ ++ a
def banT (k : Int) (a b : Tx) (t : Int) : ByteArray := if k = 3 then banH k a t ++ ⟨#[10]⟩ ++ b else banH k a t
def bL1 (a p : Tx) : Prop := ∃ r, bs p = bs a ++ r
def HitP (k : Int) (a b : Tx) (t : Int) (p : Tx) (xs ys : Ts) (st : Int) (fs : Fs) (d : Tx) (u : Int) : Prop :=
 BanP k a b t ∧ ObjP p xs ys st fs d u ∧ u ≤ t ∧ ((k = 1 ∧ p = a) ∨ (k = 2 ∧ bL1 a p) ∨ (k = 3 ∧ getB fs a = true ∧ getV fs a = b))
theorem BanP.kinds {k : Int} {a b : ByteArray} {t : Int} (h : BanP k a b t) : k = 1 ∨ k = 2 ∨ k = 3 := by
 rcases h.2 with ⟨h1 | h1, _⟩ | ⟨h1, _⟩
 ·exact .inl h1
 ·exact .inr (.inl h1)
 exact .inr (.inr h1)
theorem BanP.a_size {k : Int} {a b : ByteArray} {t : Int} (h : BanP k a b t) : a.size ≤ 60 ∧ b.size ≤ 60 := by
 rcases h.2 with ⟨_, h1, h2⟩ | ⟨_, h1, h2⟩
 ·exact ⟨h1.2.2.1, by rw [h2]; decide⟩
 exact ⟨Nat.le_trans h1.2.1 (by decide), h2.2.1⟩
theorem aV3 {k : Int} {a b : ByteArray} {t : Int} (h : BanP k a b t) : (banT k a b t).size ≤ 200 := by
 have h1 := h.a_size;have h2 := aV0 t.toNat;have e1 : banW.size = 4 := rfl;have e2 : (⟨#[32]⟩ : Tx).size = 1 := rfl;have e3 : (⟨#[10]⟩ : Tx).size = 1 := rfl;have e4 : (bkW k).size ≤ 5 := by rcases h.kinds with rfl | rfl | rfl <;> decide
 unfold banT banH;split <;> simp only [ByteArray.size_append] <;> omega
theorem cP8 (k : Int) (a b : Tx) (t : Int) : 4 ≤ (banT k a b t).size := by
 have e1 : banW.size = 4 := rfl;unfold banT banH;split <;> simp only [ByteArray.size_append] <;> omega
theorem aB6 (a p : Tx) : bL1 a p ↔ a.size ≤ p.size ∧ p.extract 0 a.size = a := by
 constructor
 ·rintro ⟨r, h⟩;have hz := congrArg List.length h;rw [List.length_append, aU9, aU9] at hz;refine ⟨by omega, cI2 ?_⟩;rw [bA7, List.drop_zero, h, ← aU9 a, List.take_left]
 rintro ⟨h1, h2⟩;refine ⟨(bs p).drop a.size, ?_⟩;have h3 := congrArg bs h2;rw [bA7, List.drop_zero] at h3;rw [← h3];conv => rhs; rw [h3]
 rw [← h3, List.take_append_drop]
end Go.Proofs.YtejoifianjgefaaGreatDoor
